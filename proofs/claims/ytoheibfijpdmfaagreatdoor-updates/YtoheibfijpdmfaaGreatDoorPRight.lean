/-
  First and Size of parts that there are; a map from numbers to numbers; what the law's loops keep. The law's right: all that the parts tell is what the world has. PartsLabels: a map and a shape, good or not.
-/
import Derived.Test.YtoheibfijpdmfaaGreatDoorPGround
import Derived.Test.YtoheibfijpdmfaaGreatDoorPMake
set_option linter.unusedSimpArgs false
namespace Go.Proofs.YtoheibfijpdmfaaGreatDoor
open Go.RowKit Go.Shelf
set_option linter.unusedSectionVars false
variable [DecCn : ∀ (St : Nat → Bool) (Ad : Nat → Nat → Prop) (k i : Nat), Decidable (Cn St Ad k i)]
set_option linter.unusedVariables false
section
variable {w : World} {p f g : Nat} {s W H : Int} {av : Value}
theorem phas_in {a : Option Addr} {m cap : Nat} (h : Pd w p f s W H av (.slice a m cap)) {n : Nat} {r : Bool} (hr : decide (1 ≤ n ∧ n ≤ m) = r) : Calls Tryz.prog 62 #[ptr p, .int .i64 (n : Nat)] w fun e w' => e = .returned (.bool r) ∧ w' = w :=
  phas_of (ptr p) (n : Nat) m r (by rw [← hr]; exact decide_eq_decide.2 (by omega)) (plen_is h)
set_option maxHeartbeats 2000000 in
theorem psize_yes {m cap n : Nat} {sz : Nat} (h : Pd w p f s W H av (.slice (some ⟨g, 0, none⟩) m cap)) (hn : 1 ≤ n ∧ n ≤ m) (hm : m ≤ 16384) (hc : w.cell? ⟨g, (n - 1) * 3 + 2, none⟩ = some (.int .i64 (sz : Nat))) : Calls Tryz.prog 31 #[ptr p, .int .i64 (n : Nat)] w fun e w' => e = .returned (.int .i64 (sz : Nat)) ∧ w' = w := by
  have HF := hide (phas_in h (n := n) (r := true) (decide_eq_true hn))
  have c7 : w.cell? ⟨p, 7, none⟩ = some (.slice (some ⟨g, 0, none⟩) m cap) := h.c 7
  obtain ⟨k, rfl⟩ : ∃ k, n = k + 1 := ⟨n - 1, by omega⟩
  rw [Nat.add_sub_cancel] at hc
  have hkI : (0 : Int) ≤ (k : Nat) ∧ ((k : Nat) : Int) < (m : Nat) ∧ ((m : Nat) : Int) ≤ 16384 := by omega
  have k1 := hkI.1
  have k2 := hkI.2.1
  have k3 : ((k : Nat) : Int) ≤ 16384 := by omega
  clear h hn
  push_cast at HF ⊢
  go_enter Tryz.func31, Tryz.ntmps31
  go_wp2_with (go_at_call 62; refine HF.out.mono ?_; rintro e w' ⟨rfl, rfl⟩)
  go_ret
  exact ⟨rfl, rfl⟩
set_option maxHeartbeats 2000000 in
theorem pfirst_yes {m cap n : Nat} {x y : Int} (h : Pd w p f s W H av (.slice (some ⟨g, 0, none⟩) m cap)) (hg : g < w.heap.size) (hn : 1 ≤ n ∧ n ≤ m) (hm : m ≤ 16384) (hx : w.cell? ⟨g, (n - 1) * 3, none⟩ = some (.int .i64 x)) (hy : w.cell? ⟨g, (n - 1) * 3 + 1, none⟩ = some (.int .i64 y)) : Calls Tryz.prog 30 #[ptr p, .int .i64 (n : Nat)] w fun e w' => e = .returned (.tuple #[cel x y, .bool true]) ∧ Below w.heap.size w w' := by
  obtain ⟨X, hX⟩ : ∃ X, w.alloc (.cells #[.int .i64 0, .int .i64 0] 46) = X := ⟨_, rfl⟩
  have B0 : Below w.heap.size w X := hX ▸ box1 _ _
  have bX : Two X w.heap.size 0 0 := hX ▸ Two.newAt rfl
  have h' := h.upto B0
  have HF := hide (phas_in h' (n := n) (r := true) (decide_eq_true hn))
  have c7 : X.cell? ⟨p, 7, none⟩ = some (.slice (some ⟨g, 0, none⟩) m cap) := h'.c 7
  obtain ⟨k, rfl⟩ : ∃ k, n = k + 1 := ⟨n - 1, by omega⟩
  rw [Nat.add_sub_cancel] at hx hy
  have x0 := (B0.cell (p := ⟨g, k * 3, none⟩) hg).trans hx
  have y0 := (B0.cell (p := ⟨g, k * 3 + 1, none⟩) hg).trans hy
  have hkI : (0 : Int) ≤ (k : Nat) ∧ ((k : Nat) : Int) < (m : Nat) ∧ ((m : Nat) : Int) ≤ 16384 := by omega
  have k1 := hkI.1
  have k2 := hkI.2.1
  have k3 : ((k : Nat) : Int) ≤ 16384 := by omega
  obtain ⟨⟨t0, t1⟩, ⟨t2, t3⟩, -⟩ := id bX
  have y9 := bX.set (s := x) (t := y)
  obtain ⟨⟨q0, q1⟩, -, -⟩ := id y9
  clear h hn h' hx hy
  push_cast at HF ⊢
  go_enter Tryz.func30, Tryz.ntmps30
  go_wp2_with fail
  try rw [hX]
  refine HF.out.mono ?_
  rintro e w' ⟨rfl, rfl⟩
  clear hX
  go_wp2_with fail
  refine bodyPost_ret (v := .tuple #[cel x y, .bool true]) (by simp [results, Tryz.results30, go_sem, q0, q1]) rfl ⟨rfl, ?_⟩
  exact set2 B0 (Nat.le_refl _) (Nat.le_refl _)
end
theorem law3 : Maps.Keyed Tryz.prog 3 := Maps.int_keyed Tryz.underlying3
theorem hk3 {i : Int} (hi : W64 i) : keyOf Tryz.prog 3 (.int .i64 i) = some (.int .i64 i) := Maps.keyOf_int_mk Tryz.underlying3 hi
theorem w64n {i : Nat} (h : i ≤ 40000) : W64 (i : Nat) := w64_of (by omega)
/-- Block b is a map from numbers to numbers: g says what it has, 0 where it has nothing. -/
def Im (w : World) (b n : Nat) (g : Nat → Nat) : Prop :=
  ∃ D : DataW Unit, w.ownsMap Tryz.prog 3 (plainElem Tryz.prog 3) b n D ∧ ∀ i : Nat, i ≤ 40000 → D.atKey (.int .i64 (i : Nat)) (.lit (.int .i64 0)) = .lit (.int .i64 (g i : Nat))
section
variable {w w' : World} {b n : Nat} {g : Nat → Nat}
theorem Im.lt (h : Im w b n g) : b < w.heap.size := by obtain ⟨D, h, _⟩ := h; exact h.lt
theorem Im.kept {S : Nat → Prop} (h : Im w b n g) (ht : Turns S w w') (hb : ¬ S b) : Im w' b n g := by
  obtain ⟨D, ⟨es, clock, h1, h2⟩, h3⟩ := h
  exact ⟨D, ⟨es, clock, ht.same hb h1, h2⟩, h3⟩
theorem Im.upto (h : Im w b n g) (hb : Below w.heap.size w w') : Im w' b n g := h.kept (Turns.of_below (S := NoB) hb) id
theorem Im.look (h : Im w b n g) {i : Nat} (hi : i ≤ 40000) : (Instr.lookup 84 (.map (some b)) (.int .i64 (i : Nat)) false).run Tryz.prog w = .ok (.int .i64 (g i : Nat)) w := by
  obtain ⟨D, h, hD⟩ := h
  obtain ⟨c, hrun, hc, -⟩ := h.lookup_int law3 Tryz.underlying84 Tryz.underlying3 (zero3 w) (hk3 (w64n hi))
  rw [hD i hi] at hc
  simp only [DataW.lit.injEq, Lit.int.injEq, true_and] at hc
  rw [hrun, hc]
theorem Im.put (h : Im w b n g) {i v : Nat} (hi : i ≤ 40000) (hv : v ≤ 40000) (hn : n < maxLen) :
    ∃ w', (Instr.mapUpdate 84 (.map (some b)) (.int .i64 (i : Nat)) (.int .i64 (v : Nat))).run Tryz.prog w = .ok () w' ∧ Im w' b (n + 1) (fun j => if j = i then v else g j) ∧ w.grownBy w' (some b) := by
  obtain ⟨D, h, hD⟩ := h
  obtain ⟨w', hrun, hown, hg⟩ := h.update law3 Tryz.underlying84 hn (hk3 (w64n hi)) (plainElem_int Tryz.underlying3 (w64n hv))
  refine ⟨w', hrun, ⟨_, hown, fun j hj => ?_⟩, hg⟩
  dsimp only
  by_cases e : j = i
  · rw [if_pos e, e]
    exact Maps.atKey_put_same h.isMap (law3.key (hk3 (w64n hi))) _ _
  · rw [if_neg e]
    have hne : (Lit.int .i64 (j : Nat)) ≠ .int .i64 (i : Nat) := fun hh => e (by have h9 : (j : Int) = (i : Int) := (by simpa using hh); omega)
    rw [Maps.atKey_put_other hne]
    exact hD j hj
theorem Im.made (w : World) : Im (w.alloc (.map #[] 0)) w.heap.size 0 (fun _ => 0) :=
  ⟨.map [], World.ownsMap_made w _ _ _, fun i _ => rfl⟩
end
end Go.Proofs.YtoheibfijpdmfaaGreatDoor
set_option linter.unusedSimpArgs false
namespace Go.Proofs.YtoheibfijpdmfaaGreatDoor
open Go.RowKit Go.Shelf
set_option linter.unusedSectionVars false
variable [DecCn : ∀ (St : Nat → Bool) (Ad : Nat → Nat → Prop) (k i : Nat), Decidable (Cn St Ad k i)]
set_option linter.unusedVariables false
theorem Im.nc {w : World} {b n : Nat} {g : Nat → Nat} (h : Im w b n g) {k t : Nat} {c : Array Value} (hk : w.heap[k]? = some (.cells c t (0, 0))) : k ≠ b := by
  rintro rfl
  obtain ⟨D, ⟨es, clock, h1, h2⟩, h3⟩ := h
  rw [hk] at h1
  cases h1
/-- What right keeps. -/
structure Rr (w W : World) (p f q : Nat) (cl ep : Int) (wd ht N : Nat) (car : Int → Int → Bool) (s b2 b : Nat) (pv : Value) (L : Nat → Nat) (ps : List (Nat × Nat)) (lk Bg : Nat) (iv : Value) (sm fm n1 n2 : Nat) (sz fs : Nat → Nat) : Prop where
  pf : Pf W p f q cl ep wd ht car s b2 b pv L
  row : Rw 108 3 (cP wd) W pv ps
  gb : GB W Bg wd ht iv
  nm : Nms W lk N L
  im1 : Im W sm n1 sz
  im2 : Im W fm n2 fs
  bl : Below w.heap.size w W
  hs : w.heap.size ≤ sm ∧ w.heap.size ≤ fm ∧ sm ≠ fm
section
variable {w W W' : World} {p f q : Nat} {cl ep : Int} {wd ht N : Nat} {car : Int → Int → Bool} {s b2 b : Nat} {pv : Value} {L : Nat → Nat} {ps : List (Nat × Nat)} {lk Bg : Nat} {iv : Value} {sm fm n1 n2 : Nat} {sz fs : Nat → Nat}
theorem Rr.upto (h : Rr w W p f q cl ep wd ht N car s b2 b pv L ps lk Bg iv sm fm n1 n2 sz fs) (hb : Below W.heap.size W W') : Rr w W' p f q cl ep wd ht N car s b2 b pv L ps lk Bg iv sm fm n1 n2 sz fs :=
  ⟨h.pf.upto hb, h.row.upto hb, h.gb.upto hb, h.nm.upto hb, h.im1.upto hb, h.im2.upto hb, bt h.bl hb, h.hs⟩
theorem Rr.first {i v : Nat} (h : Rr w W p f q cl ep wd ht N car s b2 b pv L ps lk Bg iv sm fm n1 n2 sz fs) (hi : i ≤ 40000) (hv : v ≤ 40000) (hn : n2 < maxLen) :
    ∃ W', (Instr.mapUpdate 84 (.map (some fm)) (.int .i64 (i : Nat)) (.int .i64 (v : Nat))).run Tryz.prog W = .ok () W' ∧ Rr w W' p f q cl ep wd ht N car s b2 b pv L ps lk Bg iv sm fm n1 (n2 + 1) sz (fun j => if j = i then v else fs j) := by
  obtain ⟨W', hrun, him, hg⟩ := h.im2.put hi hv hn
  have T : Turns (fun k => k = fm) W W' := Turns.of_grown hg (fun k e => by cases e; rfl)
  refine ⟨W', hrun, ⟨h.pf.pd.kept T (h.im2.nc h.pf.pd), h.pf.fd.kept T (h.im2.nc h.pf.fd), h.pf.sz.kept T (h.im2.nc h.pf.sz), h.pf.nm.kept T (h.im2.nc h.pf.nm)⟩, h.row.kept T (fun g hg' => ?_), h.gb.kept T (h.im2.nc h.gb), h.nm.kept T (h.im2.nc h.nm), h.im1.kept T h.hs.2.2, him, h.bl.trans (T.below (fun k e => by rw [e]; exact h.hs.2.1) h.bl.size), h.hs⟩
  obtain ⟨c, hc⟩ := h.row.blk hg'
  exact h.im2.nc hc
theorem Rr.size {i v : Nat} (h : Rr w W p f q cl ep wd ht N car s b2 b pv L ps lk Bg iv sm fm n1 n2 sz fs) (hi : i ≤ 40000) (hv : v ≤ 40000) (hn : n1 < maxLen) :
    ∃ W', (Instr.mapUpdate 84 (.map (some sm)) (.int .i64 (i : Nat)) (.int .i64 (v : Nat))).run Tryz.prog W = .ok () W' ∧ Rr w W' p f q cl ep wd ht N car s b2 b pv L ps lk Bg iv sm fm (n1 + 1) n2 (fun j => if j = i then v else sz j) fs := by
  obtain ⟨W', hrun, him, hg⟩ := h.im1.put hi hv hn
  have T : Turns (fun k => k = sm) W W' := Turns.of_grown hg (fun k e => by cases e; rfl)
  refine ⟨W', hrun, ⟨h.pf.pd.kept T (h.im1.nc h.pf.pd), h.pf.fd.kept T (h.im1.nc h.pf.fd), h.pf.sz.kept T (h.im1.nc h.pf.sz), h.pf.nm.kept T (h.im1.nc h.pf.nm)⟩, h.row.kept T (fun g hg' => ?_), h.gb.kept T (h.im1.nc h.gb), h.nm.kept T (h.im1.nc h.nm), him, h.im2.kept T (fun e => h.hs.2.2 e.symm), h.bl.trans (T.below (fun k e => by rw [e]; exact h.hs.1) h.bl.size), h.hs⟩
  obtain ⟨c, hc⟩ := h.row.blk hg'
  exact h.im1.nc hc
end
/-- What the maps hold behind i cells. -/
structure Mh (St : Nat → Bool) (Ad : Nat → Nat → Prop) (N i : Nat) (sz fs : Nat → Nat) : Prop where
  hz : ∀ n, sz n = cntP i (fun k => decide ((lb St Ad N).1 k = n))
  hf : ∀ n k, (lb St Ad i).2[n]? = some k → fs (n + 1) = k
theorem Mh.start (St : Nat → Bool) (Ad : Nat → Nat → Prop) (N : Nat) : Mh St Ad N 0 (fun _ => 0) (fun _ => 0) := ⟨fun n => rfl, fun n k h => by simp [lb] at h⟩
section
variable {St : Nat → Bool} {Ad : Nat → Nat → Prop} {N i : Nat} {sz fs : Nat → Nat}
theorem Mh.size (h : Mh St Ad N i sz fs) : ∀ n, (fun j => if j = (lb St Ad N).1 i then sz ((lb St Ad N).1 i) + 1 else sz j) n = cntP (i + 1) (fun k => decide ((lb St Ad N).1 k = n)) := fun n => by
  rw [cntP_succ, ← h.hz n]
  by_cases e : n = (lb St Ad N).1 i
  · simp [e]
  · simp [e, Ne.symm e]
theorem Mh.le (h : Mh St Ad N i sz fs) (n : Nat) : sz n ≤ i := by rw [h.hz n]; exact cntP_le _ _
theorem Mh.new (h : Mh St Ad N i sz fs) (hl : (lb St Ad (i + 1)).2 = (lb St Ad i).2 ++ [i]) (hL : (lb St Ad N).1 i = (lb St Ad i).2.length + 1) : Mh St Ad N (i + 1) (fun j => if j = (lb St Ad N).1 i then sz ((lb St Ad N).1 i) + 1 else sz j) (fun j => if j = (lb St Ad N).1 i then i else fs j) := by
  refine ⟨h.size, fun n k hk => ?_⟩
  rw [hl] at hk
  by_cases hn : n < (lb St Ad i).2.length
  · rw [List.getElem?_append_left hn] at hk
    show (if n + 1 = (lb St Ad N).1 i then i else fs (n + 1)) = k
    rw [if_neg (by omega)]
    exact h.hf n k hk
  · rw [List.getElem?_append_right (by omega)] at hk
    have hlt := (List.getElem?_eq_some_iff.1 hk).1
    have e : n = (lb St Ad i).2.length := by simp at hlt; omega
    rw [e, Nat.sub_self] at hk
    have hki : i = k := by simpa using hk
    show (if n + 1 = (lb St Ad N).1 i then i else fs (n + 1)) = k
    rw [if_pos (by omega)]
    exact hki
theorem Mh.old (h : Mh St Ad N i sz fs) (hl : (lb St Ad (i + 1)).2 = (lb St Ad i).2) : Mh St Ad N (i + 1) (fun j => if j = (lb St Ad N).1 i then sz ((lb St Ad N).1 i) + 1 else sz j) fs := ⟨h.size, fun n k hk => h.hf n k (by rw [← hl]; exact hk)⟩
end
theorem neqC (a b : Int) (w : World) : (binOp .neq 46 (cel a b) (cel a b)).run Tryz.prog w = .ok (.bool false) w := by
  go_simp
theorem make_im (w : World) : (Instr.makeMap 84 none).run Tryz.prog w = .ok (.map (some w.heap.size)) (w.alloc (.map #[] 0)) := by kernel_rfl
theorem atF_idx {wd ht i : Nat} (hwd : (1 ≤ wd ∧ wd ≤ 128) ∧ 1 ≤ ht ∧ ht ≤ 128) (hi : i < wd * ht) (L : Nat → Nat) : atF wd ht L ((i % wd : Nat) : Int) ((i / wd : Nat) : Int) = L i := by
  have h1 : i % wd < wd := Nat.mod_lt _ (by omega)
  have h2 : i / wd < ht := by rw [Nat.div_lt_iff_lt_mul (by omega), Nat.mul_comm]; exact hi
  have hh : has 0 0 (wd : Int) (ht : Int) ((i % wd : Nat) : Int) ((i / wd : Nat) : Int) = true := by
    rw [has_in ⟨hwd.1.2, hwd.2.2⟩]
    generalize i % wd = X at *
    generalize i / wd = Y at *
    omega
  rw [atF, if_pos hh, Int.toNat_natCast, Int.toNat_natCast, Nat.mul_comm, Nat.div_add_mod]
theorem atF_out {wd ht : Nat} (hwd : wd ≤ 128 ∧ ht ≤ 128) (L : Nat → Nat) {x y : Int} (h : x < 0 ∨ (wd : Int) ≤ x) : atF wd ht L x y = 0 := by
  rw [atF, if_neg]
  rw [has_in hwd]
  omega
set_option maxRecDepth 100000 in
set_option maxHeartbeats 16000000 in
theorem right_any {w : World} {p f q r : Nat} {cl ep : Int} {wd ht N : Nat} {tl : List Nat} {Lb : List Bd} {s b2 b : Nat} {pv : Value} (hP : Pf w p f q cl ep wd ht (carB wd ht tl (whoF Lb) cl) s b2 b pv (lb (stI (carB wd ht tl (whoF Lb) cl) wd N s) (adI wd) N).1)
    (hR : Rw 108 3 (cP wd) w pv (prS (stI (carB wd ht tl (whoF Lb) cl) wd N s) (adI wd) N (lb (stI (carB wd ht tl (whoF Lb) cl) wd N s) (adI wd) N).2)) (hr : Rl w r wd ht tl Lb) (hwd : (1 ≤ wd ∧ wd ≤ 128) ∧ 1 ≤ ht ∧ ht ≤ 128) (hN : N = wd * ht) (hs : 1 ≤ s ∧ s ≤ 4) :
    Calls Tryz.prog 11 #[ptr p, ptr r, shv cl (s : Nat)] w fun e w' => e = .returned (.bool true) ∧ Below w.heap.size w w' := by
  have hN2 : N ≤ 16384 := by have := Nat.mul_le_mul hwd.1.2 hwd.2.2; omega
  have hw : wd ≤ 128 ∧ ht ≤ 128 := ⟨hwd.1.2, hwd.2.2⟩
  have HOf : Hid (∀ wx, Below w.heap.size w wx → Calls Tryz.prog 7 #[ptr r, shv cl (s : Nat)] wx fun e w' => ∃ iv, e = .returned (gdv wd ht iv) ∧ Rw 4 1 cB w' iv ((List.range N).map (stI (carB wd ht tl (whoF Lb) cl) wd N s)) ∧ Below wx.heap.size wx w') := hide fun wx hx => of_gr cl s (hr.kept hx) hwd hN hs
  generalize hcar : carB wd ht tl (whoF Lb) cl = car at hP hR HOf
  obtain ⟨St, hSt⟩ : ∃ St, stI car wd N s = St := ⟨_, rfl⟩
  rw [hSt] at hP hR HOf
  have hSN : ∀ i, St i = true → i < N := fun i hi => stI_lt i (hSt ▸ hi)
  obtain ⟨L, hL⟩ : ∃ L, (lb St (adI wd) N).1 = L := ⟨_, rfl⟩
  obtain ⟨Fs, hFs⟩ : ∃ Fs, (lb St (adI wd) N).2 = Fs := ⟨_, rfl⟩
  have hA := adI_symm wd
  have hFl : Fs.length ≤ N := by rw [← hFs]; exact lb_len N
  have hLle : ∀ i, L i ≤ Fs.length := fun i => by rw [← hL, ← hFs]; exact lb_le N i
  have hps : ∀ n k, Fs[n]? = some k → (prS St (adI wd) N Fs)[n]? = some (k, szF St (adI wd) N n) ∧ k < N := fun n k h => by
    rw [← hFs] at h ⊢
    exact ⟨prS_get hA h, hSN k (lb_part hA N n k h).1.2⟩
  rw [hL] at hP
  rw [hFs] at hR
  obtain ⟨ps, hpse⟩ : ∃ ps, prS St (adI wd) N Fs = ps := ⟨_, rfl⟩
  have hpl : ps.length = Fs.length := by rw [← hpse]; simp [prS]
  rw [hpse] at hR hps
  obtain ⟨ag, cap, hpv, hcap, hcs⟩ := hR.form (cP_len wd)
  rw [hpl] at hpv
  subst hpv
  have HSt := hide hSt
  have HSN := hide hSN
  have HL := hide hL
  have HFs := hide hFs
  have HPs := hide hps
  have HN := hide hN
  have HLle := hide hLle
  have HP := hide hP
  have HR := hide hR
  obtain ⟨num, hnum⟩ : ∃ num, Fs.length = num := ⟨_, rfl⟩
  rw [hnum] at HP HR
  have Hnum := hide hnum
  have hnN : num ≤ 16384 := by omega
  have hnI : (0 : Int) ≤ (num : Nat) ∧ ((num : Nat) : Int) ≤ 16384 := by omega
  obtain ⟨X, hX⟩ : ∃ X, w.alloc (.cells #[.int .i64 cl, .int .i64 (s : Nat)] 27) = X := ⟨_, rfl⟩
  have B0 : Below w.heap.size w X := hX ▸ box1 _ _
  have bX : Two X w.heap.size cl (s : Nat) := hX ▸ Two.newAt rfl
  obtain ⟨⟨t0, t1⟩, -, -⟩ := id bX
  have hNI : ((N : Nat) : Int) ≤ 16384 := by omega
  have hwI : (1 : Int) ≤ (wd : Nat) ∧ ((wd : Nat) : Int) ≤ 128 := by omega
  have hwd0 : ¬ wd = 0 := by omega
  have hmk := make_im
  clear hcar hSt hSN hL hFs hps hN hP hR hr hpse hpl hcs hcap hLle hFl hnum bX
  go_enter Tryz.func11, Tryz.ntmps11
  go_wp2_with fail
  try rw [hX]
  refine (HOf.out _ B0).mono ?_
  rintro e V1 ⟨iv, rfl, hiv, hb1⟩
  have hgd : Gd V1 wd ht N St iv := hiv
  obtain ⟨ia, icap, rfl, -⟩ := hgd.form
  have HGd := hide hgd
  have HB1 := hide (bt B0 hb1)
  clear hX t0 t1 hiv hb1 hgd HOf
  have G2 := GB.new V1 wd ht (.slice ia N icap)
  obtain ⟨⟨g0, g1⟩, g2⟩ := G2.c
  have HG2 := hide G2
  clear G2
  go_wp2_with fail
  refine (labels_any (HGd.out.upto (box1 V1 (.cells #[.int .i64 (wd : Nat), .int .i64 (ht : Nat), .slice ia N icap] 41))) hwd HN.out HSN.out).mono ?_
  rintro e V3 ⟨lk, rfl, hnm, hb3, hlk⟩
  rw [HL.out] at hnm
  have BB := bt (box1 V1 (.cells #[.int .i64 (wd : Nat), .int .i64 (ht : Nat), .slice ia N icap] 41)) hb3
  have BV3 := bt HB1.out BB
  have B4 : Below V3.heap.size V3 ((V3.alloc (.map #[] 0)).alloc (.map #[] 0)) := box2 _ _ _
  have BV4 := bt BV3 B4
  have Im1 : Im ((V3.alloc (.map #[] 0)).alloc (.map #[] 0)) V3.heap.size 0 (fun _ => 0) := (Im.made V3).upto (box1 _ _)
  have Im2 : Im ((V3.alloc (.map #[] 0)).alloc (.map #[] 0)) (V3.heap.size + 1) 0 (fun _ => 0) := by
    have := Im.made (V3.alloc (.map #[] 0))
    rwa [World.size_alloc] at this
  have R4 : Rr w ((V3.alloc (.map #[] 0)).alloc (.map #[] 0)) p f q cl ep wd ht N car s b2 b (.slice ag num cap) L ps lk V1.heap.size (.slice ia N icap) V3.heap.size (V3.heap.size + 1) 0 0 (fun _ => 0) (fun _ => 0) :=
    ⟨HP.out.upto BV4, HR.out.upto BV4, (HG2.out.upto hb3).upto B4, hnm.upto B4, Im1, Im2, BV4, ⟨by have := BV3.size; omega, by have := BV3.size; omega, by omega⟩⟩
  have HR4 := hide R4
  have HM0 := hide (Mh.start St (adI wd) N)
  clear R4 Im1 Im2 BV4 B4 BV3 BB hb3 hnm g0 g1 g2 HG2 hlk
  go_wp2_with fail
  clear hmk
  obtain ⟨sm, hsm⟩ : ∃ sm, V3.heap.size = sm := ⟨_, rfl⟩
  obtain ⟨Bg, hBg⟩ : ∃ Bg, V1.heap.size = Bg := ⟨_, rfl⟩
  rw [hsm, hBg] at HR4
  rw [hsm, hBg]
  obtain ⟨V4, hV4⟩ : ∃ V4, (V3.alloc (.map #[] 0)).alloc (.map #[] 0) = V4 := ⟨_, rfl⟩
  rw [hV4] at HR4
  rw [hV4]
  clear hsm hBg hV4
  go_loopw [11, 12] (fun m d wr => ∃ (i : Nat) (sz fs : Nat → Nat) (n1 n2 : Nat), d = .int .i64 (i : Nat) ∧ m = .int .i64 ((lb St (adI wd) i).2.length : Nat) ∧ i ≤ N ∧ Rr w wr p f q cl ep wd ht N car s b2 b (.slice ag num cap) L ps lk Bg (.slice ia N icap) sm (sm + 1) n1 n2 sz fs ∧ Mh St (adI wd) N i sz fs ∧ n1 ≤ i ∧ n2 ≤ i) (fun _ d _ => N - (intOf d).toNat)
  case atStart => exact ⟨0, _, _, 0, 0, rfl, rfl, Nat.zero_le _, HR4.out, HM0.out, Nat.le_refl _, Nat.le_refl _⟩
  case round =>
    obtain ⟨i, sz, fs, n1, n2, rfl, rfl, hi, hRr, hMh, hn1, hn2⟩ := hrel
    clear HR4 HM0
    by_cases hlt : i < N
    · have hli : ((i : Nat) : Int) < (N : Nat) := by omega
      have hiI : (0 : Int) ≤ (i : Nat) ∧ ((i : Nat) : Int) ≤ 16384 := by omega
      have hlen : (lb St (adI wd) i).2.length ≤ i := lb_len i
      obtain ⟨mo, hmo⟩ : ∃ mo, (lb St (adI wd) i).2.length = mo := ⟨_, rfl⟩
      obtain ⟨u, hu⟩ : ∃ u, L i = u := ⟨_, rfl⟩
      have hun : u ≤ num := by rw [← hu, ← Hnum.out]; exact HLle.out i
      obtain ⟨kx, hkx⟩ : ∃ kx : Int, ((i % wd : Nat) : Int) = kx := ⟨_, rfl⟩
      obtain ⟨ky, hky⟩ : ∃ ky : Int, ((i / wd : Nat) : Int) = ky := ⟨_, rfl⟩
      have hrem : (i : Int).tmod (wd : Int) = kx := hkx
      have hrem2 : (i : Int) % (wd : Int) = kx := by rw [← hkx]; exact (Int.natCast_emod i wd).symm
      have hquo : IntKind.i64.wrap ((i : Int) / (wd : Int)) = ky := by
        rw [← hky, ← Int.natCast_ediv]
        exact wrap_nat (Nat.le_trans (Nat.div_le_self i wd) (by omega))
      have HAt : Hid (∀ m : Lat wr, Calls Tryz.prog 19 #[ptr p, cel kx ky] m.w fun e w' => e = .returned (.int .i64 (u : Nat)) ∧ Below m.w.heap.size m.w w') := hide fun m => by
        rw [← hkx, ← hky]
        exact pat_is _ _ (by rw [atF_idx hwd (by rw [← HN.out]; exact hlt)]; exact hu) (hRr.upto m.h).pf hw
      have c0 : ∀ m : Lat wr, m.w.cell? ⟨Bg, 0, none⟩ = some (.int .i64 (wd : Nat)) := fun m => (hRr.upto m.h).gb.c.1.1
      have cl' : ∀ m : Lat wr, m.w.cell? ⟨lk, i, none⟩ = some (.int .i64 (u : Nat)) := fun m => by rw [← hu]; exact (hRr.upto m.h).nm.c hlt
      have hne := lat_some wr
      have HRr := hide hRr
      have HMh := hide hMh
      have Hmo := hide hmo
      have Hu := hide hu
      have HuL : Hid ((lb St (adI wd) N).1 i = u) := hide (by rw [HL.out]; exact hu)
      have huI : (0 : Int) ≤ (u : Nat) ∧ ((u : Nat) : Int) ≤ 16384 := by omega
      rw [hmo]
      have hfst := lb_first (St := St) hA hlt
      rw [HuL.out, hmo] at hfst
      have Hfst := hide hfst
      clear hRr hMh hkx hky hmo hu hlen hfst
      go_wp2_with fail
      refine wp_region_lat (by kernel_rfl) (by kernel_rfl) ?_
      repeat (go_big_quiet_step (first | (go_at_call 19; exact calls_lat (HAt.out _))))
      refine wpQuiet_nil ?_
      rintro _ ⟨m, rfl⟩
      have HRm := hide (HRr.out.upto m.h)
      have cm := cl' m
      have hszi := HMh.out.le u
      clear c0 cl' hne HAt HRr hrem hrem2 hquo
      by_cases hnew : mo < u
      · have hnI2 : ((mo : Nat) : Int) < (u : Nat) := by omega
        obtain ⟨hm1, hm2⟩ : u = mo + 1 ∧ (lb St (adI wd) (i + 1)).2 = (lb St (adI wd) i).2 ++ [i] := by
          rcases Hfst.out with ⟨-, -, e1, e2⟩ | ⟨e1, -⟩
          · exact ⟨e1, e2⟩
          · omega
        obtain ⟨W2, hput, hR2⟩ := HRm.out.first (i := u) (v := i) (by omega) (by omega) (by unfold maxLen; omega)
        have hlk2 := hR2.im1.look (i := u) (by omega)
        have c2 : W2.cell? ⟨lk, i, none⟩ = some (.int .i64 (u : Nat)) := by rw [← Hu.out]; exact hR2.nm.c hlt
        obtain ⟨W3, hput2, hR3⟩ := hR2.size (i := u) (v := sz u + 1) (by omega) (by omega) (by unfold maxLen; omega)
        have hM3 := HMh.out.new hm2 (by rw [HuL.out, Hmo.out]; exact hm1)
        rw [HuL.out] at hM3
        have hlen3 : (lb St (adI wd) (i + 1)).2.length = u := by rw [hm2, List.length_append, Hmo.out, hm1]; rfl
        obtain ⟨z, hz⟩ : ∃ z, sz u = z := ⟨_, rfl⟩
        rw [hz] at hlk2 hput2
        have hzI : (0 : Int) ≤ (z : Nat) ∧ ((z : Nat) : Int) ≤ 16384 := by omega
        push_cast at hput2
        have HR3 := hide hR3
        have HM3 := hide hM3
        have Hl3 := hide hlen3
        clear hR2 hR3 hM3 hlen3 hm1 hm2 hz
        go_wp2_with fail
        go_roundw
        case rel => exact ⟨i + 1, _, _, _, _, by go_num, by rw [Hl3.out], by omega, HR3.out, HM3.out, by omega, by omega⟩
        case measure => simp [intOf]; omega
      · have hnI2 : ¬ ((mo : Nat) : Int) < (u : Nat) := by omega
        have hm2 : (lb St (adI wd) (i + 1)).2 = (lb St (adI wd) i).2 := by
          rcases Hfst.out with ⟨-, -, e1, -⟩ | ⟨-, e2⟩
          · omega
          · exact e2
        have hlk2 := HRm.out.im1.look (i := u) (by omega)
        obtain ⟨W3, hput2, hR3⟩ := HRm.out.size (i := u) (v := sz u + 1) (by omega) (by omega) (by unfold maxLen; omega)
        have hM3 := HMh.out.old hm2
        rw [HuL.out] at hM3
        have hlen3 : (lb St (adI wd) (i + 1)).2.length = mo := by rw [hm2, Hmo.out]
        obtain ⟨z, hz⟩ : ∃ z, sz u = z := ⟨_, rfl⟩
        rw [hz] at hlk2 hput2
        have hzI : (0 : Int) ≤ (z : Nat) ∧ ((z : Nat) : Int) ≤ 16384 := by omega
        push_cast at hput2
        have HR3 := hide hR3
        have HM3 := hide hM3
        have Hl3 := hide hlen3
        clear hR3 hM3 hlen3 hm2 hz
        go_wp2_with fail
        go_roundw
        case rel => exact ⟨i + 1, _, _, _, _, by go_num, by rw [Hl3.out], by omega, HR3.out, HM3.out, by omega, by omega⟩
        case measure => simp [intOf]; omega
    · have hie : i = N := by omega
      subst hie
      have hli : ¬ ((i : Nat) : Int) < (i : Nat) := by omega
      have hlen : (lb St (adI wd) i).2.length = num := by rw [HFs.out]; exact Hnum.out
      have HRr := hide hRr
      have HMh := hide hMh
      rw [hlen]
      clear hRr hMh hlen
      rename World => wo
      go_wp2_with fail
      go_loopw [13] (fun d wr => ∃ n : Nat, d = .int .i64 (n : Nat) ∧ (1 ≤ n ∧ n ≤ num + 1) ∧ Rr w wr p f q cl ep wd ht i car s b2 b (.slice ag num cap) L ps lk Bg (.slice ia i icap) sm (sm + 1) n1 n2 sz fs) (fun d _ => num + 1 - (intOf d).toNat)
      case atStart => exact ⟨1, rfl, by omega, HRr.out⟩
      case round =>
        obtain ⟨n, rfl, hn, hRn⟩ := hrel
        clear HRr
        by_cases hln : n ≤ num
        · have hlnI : ((n : Nat) : Int) ≤ (num : Nat) := by omega
          have hnI3 : (1 : Int) ≤ (n : Nat) ∧ ((n : Nat) : Int) ≤ 16384 := by omega
          obtain ⟨n', rfl⟩ : ∃ n', n = n' + 1 := ⟨n - 1, by omega⟩
          obtain ⟨k, hk⟩ : ∃ k, Fs[n']? = some k := ⟨_, List.getElem?_eq_getElem (by rw [Hnum.out]; omega)⟩
          obtain ⟨hpk, hkN⟩ := HPs.out n' k hk
          have hfk : fs (n' + 1) = k := HMh.out.hf n' k (by rw [HFs.out]; exact hk)
          obtain ⟨kx, hkx⟩ : ∃ kx : Int, ((k % wd : Nat) : Int) = kx := ⟨_, rfl⟩
          obtain ⟨ky, hky⟩ : ∃ ky : Int, ((k / wd : Nat) : Int) = ky := ⟨_, rfl⟩
          have hrem : (k : Int).tmod (wd : Int) = kx := hkx
          have hrem2 : (k : Int) % (wd : Int) = kx := by rw [← hkx]; exact (Int.natCast_emod k wd).symm
          have hquo : IntKind.i64.wrap ((k : Int) / (wd : Int)) = ky := by
            rw [← hky, ← Int.natCast_ediv]
            exact wrap_nat (Nat.le_trans (Nat.div_le_self k wd) (by omega))
          have hkI : (0 : Int) ≤ (k : Nat) ∧ ((k : Nat) : Int) ≤ 16384 := by omega
          obtain ⟨z, hz⟩ : ∃ z, szF St (adI wd) i n' = z := ⟨_, rfl⟩
          have hsz : sz (n' + 1) = z := by rw [HMh.out.hz, ← hz]; rfl
          rw [hz] at hpk
          have hcell : ∀ wx, Rr w wx p f q cl ep wd ht i car s b2 b (.slice ag num cap) L ps lk Bg (.slice ia i icap) sm (sm + 1) n1 n2 sz fs → ∃ g, ag = some ⟨g, 0, none⟩ ∧ g < wx.heap.size ∧ (wx.cell? ⟨g, n' * 3, none⟩ = some (.int .i64 kx) ∧ wx.cell? ⟨g, n' * 3 + 1, none⟩ = some (.int .i64 ky)) ∧ wx.cell? ⟨g, n' * 3 + 2, none⟩ = some (.int .i64 (z : Nat)) := fun wx h => by
            obtain ⟨a, c, e1, -, e3⟩ := h.row.form (cP_len wd)
            obtain ⟨g, e4, e5, e6⟩ := e3 n' (k, z) hpk
            injection e1 with e1 e2 e3'
            rw [e4] at e1
            exact ⟨g, e1, e5, ⟨by rw [← hkx]; exact e6 0 _ rfl, by rw [← hky]; exact e6 1 _ rfl⟩, e6 2 _ rfl⟩
          have HF1 : Hid (∀ wx, Rr w wx p f q cl ep wd ht i car s b2 b (.slice ag num cap) L ps lk Bg (.slice ia i icap) sm (sm + 1) n1 n2 sz fs → Calls Tryz.prog 30 #[ptr p, .int .i64 ((n' + 1 : Nat) : Nat)] wx fun e w' => e = .returned (.tuple #[cel kx ky, .bool true]) ∧ Below wx.heap.size wx w') := hide fun wx h => by
            obtain ⟨g, e1, e2, ⟨e3, e4⟩, e5⟩ := hcell wx h
            have hpd := h.pf.pd
            rw [e1] at hpd
            exact pfirst_yes hpd e2 ⟨by omega, hln⟩ hnN (by rw [Nat.add_sub_cancel]; exact e3) (by rw [Nat.add_sub_cancel]; exact e4)
          have HZ1 : Hid (∀ wx, Rr w wx p f q cl ep wd ht i car s b2 b (.slice ag num cap) L ps lk Bg (.slice ia i icap) sm (sm + 1) n1 n2 sz fs → Calls Tryz.prog 31 #[ptr p, .int .i64 ((n' + 1 : Nat) : Nat)] wx fun e w' => e = .returned (.int .i64 (z : Nat)) ∧ w' = wx) := hide fun wx h => by
            obtain ⟨g, e1, e2, -, e5⟩ := hcell wx h
            have hpd := h.pf.pd
            rw [e1] at hpd
            exact psize_yes hpd ⟨by omega, hln⟩ hnN (by rw [Nat.add_sub_cancel]; exact e5)
          have HLf : Hid (∀ wx, Rr w wx p f q cl ep wd ht i car s b2 b (.slice ag num cap) L ps lk Bg (.slice ia i icap) sm (sm + 1) n1 n2 sz fs → (Instr.lookup 84 (.map (some (sm + 1))) (.int .i64 ((n' + 1 : Nat) : Nat)) false).run Tryz.prog wx = .ok (.int .i64 (k : Nat)) wx ∧ (Instr.lookup 84 (.map (some sm)) (.int .i64 ((n' + 1 : Nat) : Nat)) false).run Tryz.prog wx = .ok (.int .i64 (z : Nat)) wx) := hide fun wx h => ⟨by rw [h.im2.look (by omega), hfk], by rw [h.im1.look (by omega), hsz]⟩
          push_cast at HF1 HZ1 HLf hlnI hnI3 ⊢
          have HRn := hide hRn
          have hn'I : (0 : Int) ≤ (n' : Nat) ∧ ((n' : Nat) : Int) ≤ 16384 := by omega
          clear hRn hkx hky hfk hz hsz hpk hcell hk
          go_wp2_with fail
          refine (HF1.out _ HRn.out).mono ?_
          rintro e w5 ⟨rfl, hb5⟩
          have B5 := bt hb5 (box1 w5 (.cells #[.int .i64 kx, .int .i64 ky] 46))
          have HR5 := hide (HRn.out.upto B5)
          have b5 : Two (w5.alloc (.cells #[.int .i64 kx, .int .i64 ky] 46)) w5.heap.size kx ky := Two.newAt rfl
          clear hb5 B5 HRn HF1
          go_wp2_with fail
          obtain ⟨w6, hw6⟩ : ∃ w6, w5.alloc (.cells #[.int .i64 kx, .int .i64 ky] 46) = w6 := ⟨_, rfl⟩
          obtain ⟨B6, hB6⟩ : ∃ B6, w5.heap.size = B6 := ⟨_, rfl⟩
          rw [hw6] at HR5 b5
          rw [hB6] at b5
          rw [hw6, hB6]
          obtain ⟨d0, d1⟩ := b5.lat
          have c0 : ∀ m : Lat w6, m.w.cell? ⟨Bg, 0, none⟩ = some (.int .i64 (wd : Nat)) := fun m => (HR5.out.upto m.h).gb.c.1.1
          have hl1 : ∀ m : Lat w6, (Instr.lookup 84 (.map (some (sm + 1))) (.int .i64 (((n' : Nat) : Int) + 1)) false).run Tryz.prog m.w = .ok (.int .i64 (k : Nat)) m.w := fun m => (HLf.out _ (HR5.out.upto m.h)).1
          have hl2 : ∀ m : Lat w6, (Instr.lookup 84 (.map (some sm)) (.int .i64 (((n' : Nat) : Int) + 1)) false).run Tryz.prog m.w = .ok (.int .i64 (z : Nat)) m.w := fun m => (HLf.out _ (HR5.out.upto m.h)).2
          have HZ2 : Hid (∀ m : Lat w6, Calls Tryz.prog 31 #[ptr p, .int .i64 (((n' : Nat) : Int) + 1)] m.w fun e w' => e = .returned (.int .i64 (z : Nat)) ∧ w' = m.w) := hide fun m => HZ1.out _ (HR5.out.upto m.h)
          have hcmp := neqC kx ky
          have hne := lat_some w6
          clear hw6 hB6 b5 HZ1 HLf
          refine wp_region_lat (by kernel_rfl) (by kernel_rfl) ?_
          repeat (go_big_quiet_step (first | (go_at_call 31; exact calls_lat_same (HZ2.out _))))
          refine wpQuiet_nil ?_
          rintro _ ⟨m, rfl⟩
          have HRm := hide (HR5.out.upto m.h)
          clear c0 hl1 hl2 HZ2 hcmp hne d0 d1 HR5
          go_wp2_with fail
          go_roundw
          case rel => exact ⟨n' + 1 + 1, by push_cast; go_num, by omega, HRm.out⟩
          case measure => simp [intOf]; omega
        · have hne1 : n = num + 1 := by omega
          subst hne1
          have hlnI : ¬ ((num : Nat) : Int) + 1 ≤ (num : Nat) := by omega
          have HF0 : Hid (∀ wx, Rr w wx p f q cl ep wd ht i car s b2 b (.slice ag num cap) L ps lk Bg (.slice ia i icap) sm (sm + 1) n1 n2 sz fs → ∀ j : Nat, (j = 0 ∨ j = num + 1) → (Calls Tryz.prog 30 #[ptr p, .int .i64 (j : Nat)] wx fun e w' => e = .returned (.tuple #[cel 0 0, .bool false]) ∧ Below wx.heap.size wx w') ∧ (Calls Tryz.prog 31 #[ptr p, .int .i64 (j : Nat)] wx fun e w' => e = .returned (.int .i64 0) ∧ w' = wx)) := hide fun wx h j hj =>
            ⟨pfirst_no (ptr p) (j : Nat) (fun wy hy => phas_in (h.upto hy).pf.pd (decide_eq_false (by omega))), psize_no (ptr p) (j : Nat) (phas_in h.pf.pd (decide_eq_false (by omega)))⟩
          have HAm : Hid (∀ wx, Rr w wx p f q cl ep wd ht i car s b2 b (.slice ag num cap) L ps lk Bg (.slice ia i icap) sm (sm + 1) n1 n2 sz fs → ∀ x : Int, (x < 0 ∨ (wd : Int) ≤ x) → Calls Tryz.prog 19 #[ptr p, cel x 0] wx fun e w' => e = .returned (.int .i64 0) ∧ Below wx.heap.size wx w') := hide fun wx h x hx => pat_is x 0 (v := 0) (atF_out hw L hx) h.pf hw
          have HFm : Hid (∀ wx, Rr w wx p f q cl ep wd ht i car s b2 b (.slice ag num cap) L ps lk Bg (.slice ia i icap) sm (sm + 1) n1 n2 sz fs → (Calls Tryz.prog 30 #[ptr p, .int .i64 (((num : Nat) : Int) + 1)] wx fun e w' => e = .returned (.tuple #[cel 0 0, .bool false]) ∧ Below wx.heap.size wx w') ∧ (Calls Tryz.prog 31 #[ptr p, .int .i64 (((num : Nat) : Int) + 1)] wx fun e w' => e = .returned (.int .i64 0) ∧ w' = wx)) := hide fun wx h => by
            have := HF0.out wx h (num + 1) (.inr rfl)
            push_cast at this
            exact this
          have HFz : Hid (∀ wx, Rr w wx p f q cl ep wd ht i car s b2 b (.slice ag num cap) L ps lk Bg (.slice ia i icap) sm (sm + 1) n1 n2 sz fs → (Calls Tryz.prog 30 #[ptr p, .int .i64 0] wx fun e w' => e = .returned (.tuple #[cel 0 0, .bool false]) ∧ Below wx.heap.size wx w') ∧ (Calls Tryz.prog 31 #[ptr p, .int .i64 0] wx fun e w' => e = .returned (.int .i64 0) ∧ w' = wx)) := hide fun wx h => HF0.out wx h 0 (.inl rfl)
          have HRn := hide hRn
          clear hRn HF0 HMh
          push_cast
          go_wp2_with fail
          refine (HFm.out _ HRn.out).1.mono ?_
          rintro e w5 ⟨rfl, hb5⟩
          have HR5 := hide (HRn.out.upto (bt hb5 (box1 w5 (.cells #[.int .i64 0, .int .i64 0] 46))))
          clear hb5 HRn
          go_wp2_with fail
          refine (HFz.out _ HR5.out).1.mono ?_
          rintro e w6 ⟨rfl, hb6⟩
          have HR6 := hide (HR5.out.upto (bt hb6 (box1 w6 (.cells #[.int .i64 0, .int .i64 0] 46))))
          have g6 := HR6.out.gb.c.1.1
          have HLn := hide (plen_is HR6.out.pf.pd)
          have HZ0 := hide (HFz.out _ HR6.out).2
          have HZm := hide (HFm.out _ HR6.out).2
          have HA1 := hide (HAm.out _ HR6.out (-1) (.inl (by omega)))
          clear hb6 HR5 HFm HFz
          go_wp2_with (go_at_call 18; refine HLn.out.mono ?_; rintro e w7 ⟨rfl, rfl⟩)
          refine HZ0.out.mono ?_
          rintro e w7 ⟨rfl, rfl⟩
          go_wp2_with fail
          refine HZm.out.mono ?_
          rintro e w7 ⟨rfl, rfl⟩
          go_wp2_with fail
          refine HA1.out.mono ?_
          rintro e w8 ⟨rfl, hb8⟩
          have HR8 := hide (HR6.out.upto hb8)
          have g8 := HR8.out.gb.c.1.1
          have HA2 := hide (HAm.out _ HR8.out (wd : Nat) (.inr (by omega)))
          clear hb8 HR6 HLn HZ0 HZm HA1 g6 HAm
          go_wp2_with fail
          refine HA2.out.mono ?_
          rintro e w9 ⟨rfl, hb9⟩
          have HB9 := hide (bt HR8.out.bl hb9)
          clear hb9 HR8 g8 HA2
          go_wp2_with fail
          go_ret
          exact ⟨rfl, HB9.out⟩
end Go.Proofs.YtoheibfijpdmfaaGreatDoor
set_option linter.unusedSimpArgs false
namespace Go.Proofs.YtoheibfijpdmfaaGreatDoor
open Go.RowKit Go.Shelf
set_option linter.unusedSectionVars false
variable [DecCn : ∀ (St : Nat → Bool) (Ad : Nat → Nat → Prop) (k i : Nat), Decidable (Cn St Ad k i)]
set_option linter.unusedVariables false
theorem dims_is {W H : Int} {tl : List Nat} {L : List Bd} (hc : chkC W H tl L = 0) : ∃ wd ht : Nat, W = (wd : Int) ∧ H = (ht : Int) ∧ (1 ≤ wd ∧ wd ≤ 128) ∧ 1 ≤ ht ∧ ht ≤ 128 := by
  obtain ⟨h1, h2⟩ := mt_gs (chkC_zero hc).1
  simp only [gs, decide_eq_true_eq] at h1 h2
  exact ⟨W.toNat, H.toNat, by omega, by omega, by omega, by omega⟩
theorem lab_boxes (w : World) (W H : Int) (tv bv : Value) (c s : Int) : ∃ X, (w.alloc (.cells #[.int .i64 W, .int .i64 H, tv, bv] 25)).alloc (.cells #[.int .i64 c, .int .i64 s] 27) = X ∧ Below w.heap.size w X ∧ MB X w.heap.size W H tv bv ∧ Two X (w.heap.size + 1) c s :=
  ⟨_, rfl, box2 _ _ _, (MB.new w W H tv bv).kept (box1 _ _), Two.newAt (by simp)⟩
theorem eqlP0 (w : World) : (binOp .eql 33 (.pointer none) (.pointer none)).run Tryz.prog w = .ok (.bool true) w := by kernel_rfl
end Go.Proofs.YtoheibfijpdmfaaGreatDoor
