/-
  fill: all cells that are joined to one get a number; how many they are. reckon: all parts told anew, row by row. New of a field, once more: the object and its sizes lie in memory of its own. Parts: New; nobody's parts; what phalanxlaw08.awake tells.
-/
import Derived.Test.YtoheibfijpdmfaaGreatDoorPBase
import Derived.Test.YtoheibfijpdmfaaGreatDoorFBuild
set_option linter.unusedSimpArgs false
namespace Go.Proofs.YtoheibfijpdmfaaGreatDoor
open Go.RowKit
set_option linter.unusedSectionVars false
variable [DecCn : ∀ (St : Nat → Bool) (Ad : Nat → Nat → Prop) (k i : Nat), Decidable (Cn St Ad k i)]
set_option linter.unusedVariables false
theorem info41 : (Tryz.prog.info? 46).map (fun i => (i.zero, i.size, i.bytes)) = some (some (cel 0 0), 2, 16) := by kernel_rfl
/-- What fill keeps: the numbers of those marked, the list of those found, and that nothing else turned. -/
structure Fg (w0 w : World) (p f q : Nat) (cl ep : Int) (wd ht : Nat) (car : Int → Int → Bool) (s b2 b : Nat) (pv : Value) (L : Nat → Nat) (n : Nat) (fv : Value) (m l : List Nat) : Prop where
  pf : Pf w p f q cl ep wd ht car s b2 b pv (ov L n m)
  row : Rw 46 2 (cA wd) w fv l
  tu : Turns (fun k => k = b) w0 w
  own : ∀ g, fv.ownBlock = some g → w0.heap.size ≤ g
section
variable {w0 w w' : World} {p f q : Nat} {cl ep : Int} {wd ht : Nat} {car : Int → Int → Bool} {s b2 b : Nat} {pv : Value} {L : Nat → Nat} {n : Nat} {fv : Value} {m l : List Nat}
theorem Fg.upto (h : Fg w0 w p f q cl ep wd ht car s b2 b pv L n fv m l) (hb : Below w.heap.size w w') : Fg w0 w' p f q cl ep wd ht car s b2 b pv L n fv m l :=
  ⟨h.pf.upto hb, h.row.upto hb, h.tu.trans (Turns.of_below hb), h.own⟩
theorem Fg.mark (h : Fg w0 w p f q cl ep wd ht car s b2 b pv L n fv m l) (hb : b < w0.heap.size) {j : Nat} (hj : j < wd * ht) : Fg w0 (w.setCell ⟨b, j, none⟩ (.int .i64 (n : Nat))) p f q cl ep wd ht car s b2 b pv L n fv (m ++ [j]) l := by
  refine ⟨(h.pf.set hj n).congr (fun k _ => (ov_push L n m j k).symm), h.row.kept (Turns.set (S := fun k => k = b) w rfl _) (fun g hg e => ?_), h.tu.trans (Turns.set w (.inl rfl) _), h.own⟩
  have := h.own g hg
  omega
theorem Fg.push {v' : Value} {j : Nat} (h : Fg w0 w p f q cl ep wd ht car s b2 b pv L n fv m l) (hown : w'.ownsRow 0 46 2 v' (l.length + 1) (l.flatMap (cA wd) ++ cA wd j)) (hgrow : w.grownBy w' fv.ownBlock) (hloc : v'.ownBlock = fv.ownBlock ∨ v'.ownBlock = some w.heap.size) : Fg w0 w' p f q cl ep wd ht car s b2 b pv L n v' m (l ++ [j]) := by
  obtain ⟨⟨h1, h2, h3, h4⟩, hrow, htu, how⟩ := h
  have T : Turns (fun k => fv.ownBlock = some k) w w' := Turns.of_grown hgrow (fun k e => e)
  refine ⟨⟨h1.kept T (fun e => hrow.ne e h1 (by decide) rfl), h2.kept T (fun e => hrow.ne e h2 (by decide) rfl), h3.kept T (fun e => hrow.ne e h3 (by decide) rfl), h4.kept T (fun e => hrow.ne e h4 (by decide) rfl)⟩, ?_, htu.trans (T.mono (fun k hk e => .inr (how k e))), fun g hg => ?_⟩
  · unfold Rw
    rw [List.length_append, List.flatMap_append]
    simpa using hown
  · rcases hloc with e | e
    · exact how g (by rw [← e]; exact hg)
    · rw [e] at hg; cases hg; exact htu.size
end
theorem cA_new (w : World) (wd j : Nat) (t : TypeId) : ∀ i u, (cA wd j)[i]? = some u → (w.alloc (.cells #[.int .i64 ((j % wd : Nat) : Int), .int .i64 ((j / wd : Nat) : Int)] t)).cell? ((⟨w.heap.size, 0, none⟩ : Addr).add i) = some u := by
  intro i u hu
  rw [Addr.add_lit, Nat.zero_add, cell_of_row _ w.heap.size i _ _ _ (heap_alloc_new w _)]
  simpa [cA] using hu
theorem cA_one (wd j : Nat) : ∀ u ∈ cA wd j, u.oneCell' = true := by
  intro u hu
  simp [cA] at hu
  rcases hu with rfl | rfl <;> rfl
theorem two_past {w : World} {a b k : Nat} {x y : Int} {v : Value} (h : Two w a x y) (hne : ¬ a = b) : (w.setCell ⟨b, k, none⟩ v).cell? ⟨a, 0, none⟩ = some (.int .i64 x) ∧ (w.setCell ⟨b, k, none⟩ v).cell? ⟨a, 1, none⟩ = some (.int .i64 y) := ⟨(h.past hne).1.1, (h.past hne).1.2⟩
/-- The neighbours in the directions below d are found. -/
def Dn (St : Nat → Bool) (wd a d : Nat) (l : List Nat) : Prop := ∀ j e, e < d → nbr wd a j e → St j = true → j ∈ l
theorem Dn.next {St : Nat → Bool} {wd a d : Nat} {l : List Nat} (h : Dn St wd a d l) (hd : ∀ j, nbr wd a j d → St j = true → j ∈ l) : Dn St wd a (d + 1) l := fun j e he hn hs => by
  by_cases h1 : e = d
  · subst h1; exact hd j hn hs
  · exact h j e (by omega) hn hs
theorem Dn.more {St : Nat → Bool} {wd a d : Nat} {l : List Nat} (h : Dn St wd a d l) (x : Nat) : Dn St wd a d (l ++ [x]) := fun j e he hn hs => List.mem_append_left _ (h j e he hn hs)
theorem Dn.all {St : Nat → Bool} {wd a : Nat} {l : List Nat} (h : Dn St wd a 4 l) : ∀ j, adI wd a j → St j = true → j ∈ l := fun j hj hs => by
  obtain ⟨d, hd, hn⟩ := ad_nbr hj
  exact h j d hd hn hs
set_option maxRecDepth 100000 in
set_option maxHeartbeats 16000000 in
theorem fill_any {w : World} {p f q : Nat} {cl ep : Int} {wd ht N : Nat} {car : Int → Int → Bool} {s b2 b : Nat} {pv : Value} {L : Nat → Nat} (k n : Nat) (hP : Pf w p f q cl ep wd ht car s b2 b pv L) (hwd : (1 ≤ wd ∧ wd ≤ 128) ∧ 1 ≤ ht ∧ ht ≤ 128) (hN : N = wd * ht) (hs : 1 ≤ s ∧ s ≤ 4) (hcar : ∀ x y, car x y = true → has 0 0 (wd : Int) (ht : Int) x y = true)
    (hO : ∀ Y, Turns (fun k => k = b) w Y → Offs Y) (hk : stI car wd N s k = true) (hL : ∀ j, Cn (stI car wd N s) (adI wd) k j → L j = 0) (hn : 1 ≤ n ∧ n ≤ 16384) :
    Calls Tryz.prog 45 #[ptr p, cel ((k % wd : Nat) : Int) ((k / wd : Nat) : Int), .int .i64 (n : Nat)] w fun e w' => ∃ l : List Nat, e = .returned (.int .i64 (l.length : Nat)) ∧ (l.Nodup ∧ ∀ j, j ∈ l ↔ Cn (stI car wd N s) (adI wd) k j) ∧ Pf w' p f q cl ep wd ht car s b2 b pv (ov L n l) ∧ Turns (fun k => k = b) w w' := by
  obtain ⟨St, hSt⟩ : ∃ St, St = stI car wd N s := ⟨_, rfl⟩
  rw [← hSt] at hk hL
  rw [← hSt]
  have hSN : ∀ i, St i = true → i < N := fun i hi => stI_lt i (hSt ▸ hi)
  have hN2 : N ≤ 16384 := by have := Nat.mul_le_mul hwd.1.2 hwd.2.2; omega
  have hbw : b < w.heap.size := hP.nm.lt
  have hw : wd ≤ 128 ∧ ht ≤ 128 := ⟨hwd.1.2, hwd.2.2⟩
  obtain ⟨kx, hkx⟩ : ∃ kx : Int, ((k % wd : Nat) : Int) = kx := ⟨_, rfl⟩
  obtain ⟨ky, hky⟩ : ∃ ky : Int, ((k / wd : Nat) : Int) = ky := ⟨_, rfl⟩
  have hkN : k < N := hSN k hk
  have hidx : ∀ j : Nat, j < N → ∃ z : Int, IntKind.i64.wrap (((j / wd : Nat) : Int) * (wd : Int)) = z ∧ IntKind.i64.wrap (z + ((j % wd : Nat) : Int)) = (j : Nat) := fun j hj => by
    have e0 : j / wd * wd + j % wd = j := by rw [Nat.mul_comm]; exact Nat.div_add_mod j wd
    have e1 : (((j / wd : Nat) : Int) * (wd : Int)) = ((j / wd * wd : Nat) : Int) := by push_cast; rfl
    refine ⟨((j / wd * wd : Nat) : Int), ?_, ?_⟩
    · rw [e1, IntKind.wrap_i64]
      generalize j / wd * wd = z at *
      omega
    · rw [show ((j / wd * wd : Nat) : Int) + ((j % wd : Nat) : Int) = ((j / wd * wd + j % wd : Nat) : Int) by push_cast; rfl, e0, IntKind.wrap_i64]
      omega
  obtain ⟨X, hX⟩ : ∃ X, w.alloc (.cells #[.int .i64 kx, .int .i64 ky] 46) = X := ⟨_, rfl⟩
  have B0 : Below w.heap.size w X := hX ▸ box1 _ _
  have bX : Two X w.heap.size kx ky := hX ▸ Two.newAt rfl
  have G0 : Fg w X p f q cl ep wd ht car s b2 b pv L n (.slice none 0 0) [] [] := ⟨(hP.upto B0).congr (fun i _ => by simp [ov]), Rw.nil _ _ _ _, Turns.of_below B0, fun g hg => by cases hg⟩
  have HIx : Hid (∀ (wx : World) (av : Value) (x y : Int) (j : Nat), j < N → ((j % wd : Nat) : Int) = x → ((j / wd : Nat) : Int) = y → Pd wx p f s wd ht av pv → Calls Tryz.prog 47 #[ptr p, cel x y] wx fun e w' => e = .returned (.int .i64 (j : Nat)) ∧ Below wx.heap.size wx w') := hide fun wx av x y j hj hx hy hd => by
    obtain ⟨z, h1, h2⟩ := hidx j hj
    subst hx hy
    exact pindex_any _ _ z j h1 h2 hd
  have HNw : Hid (∀ (wx : World) (M : Nat → Nat) (x y : Int), Pf wx p f q cl ep wd ht car s b2 b pv M → Calls Tryz.prog 44 #[ptr p, cel x y] wx fun e w' => e = .returned (.bool (nwB car s wd M x y)) ∧ Below wx.heap.size wx w') := hide fun wx M x y h => isnew_any x y h hw hs hcar
  have HO := hide hO
  have HL := hide hL
  have HSt := hide hSt
  have HNN := hide hN
  have HSN := hide hSN
  have HCar := hide hcar
  have HKx := hide hkx
  have HKy := hide hky
  have HKs := hide hk
  have HBw := hide hbw
  have HB0 := hide B0
  have HG0 := hide G0
  obtain ⟨⟨t0, t1⟩, t2, t3⟩ := id bX
  have HTw := hide bX
  have HS : Hid (∀ (wx : World) (fv : Value) (m l : List Nat), Fg w wx p f q cl ep wd ht car s b2 b pv L n fv m l → wx.cell? ⟨p, 6, none⟩ = some (sl b N)) := hide fun wx fv m l h => by rw [HNN.out]; exact h.pf.pd.c 6
  have HFz : Hid (∀ (wx : World) (fv : Value) (m l : List Nat), Fg w wx p f q cl ep wd ht car s b2 b pv L n fv m l → ∀ j, j < N → wx.frozen? ⟨b, j, none⟩ = false ∧ ∃ u, wx.cell? ⟨b, j, none⟩ = some u) := hide fun wx fv m l h j hj => ⟨h.pf.nm.fz j, _, h.pf.nm.c (by rw [← HNN.out]; exact hj)⟩
  have hkI : (0 : Int) ≤ (k : Nat) ∧ ((k : Nat) : Int) < (N : Nat) := by omega
  have hNI : ((N : Nat) : Int) ≤ 16384 := by omega
  rw [hkx, hky]
  clear hO hL hSt hN hSN hcar hkx hky hk hbw G0 bX hidx hP
  go_enter Tryz.func45, Tryz.ntmps45
  go_wp2_with fail
  refine wp_only ?_
  have D0 := HG0.out.upto (Below.refl _ X).drew
  have T0 : X.drew.cell? ⟨w.heap.size, 0, none⟩ = some (.int .i64 kx) ∧ X.drew.cell? ⟨w.heap.size, 1, none⟩ = some (.int .i64 ky) := ⟨t0, t1⟩
  refine wp_region_held_drew (S := fun wx => wx.cell? ⟨p, 6, none⟩ = some (sl b N) ∧ wx.cell? ⟨w.heap.size, 0, none⟩ = some (.int .i64 kx) ∧ wx.cell? ⟨w.heap.size, 1, none⟩ = some (.int .i64 ky)) (by kernel_rfl) ⟨HS.out _ _ _ _ D0, T0.1, T0.2⟩ (fun hHeld => ?_)
  refine wpAnyH_take (i := 0) (v := ?_) rfl (by kernel_rfl) (by kernel_rfl) (by kernel_rfl) (fun _ _ _ h => h.elim) (Or.inl ⟨by rfl, ?_⟩) (by assumption) ?_
  rotate_left
  · intro wx hSw
    try dsimp only at hSw
    go_simp
    try with_reducible rfl
  try simp only [Act.put, List.getElem_toArray, List.getElem_cons_zero, List.getElem_cons_succ, List.setIfInBounds_toArray, List.set_cons_zero, List.set_cons_succ]
  refine wpAnyH_take (i := 1) (v := ?_) rfl (by kernel_rfl) (by kernel_rfl) (by kernel_rfl) (fun _ _ _ h => h.elim) (Or.inl ⟨by rfl, ?_⟩) (by assumption) ?_
  rotate_left
  · intro wx hSw
    try dsimp only at hSw
    go_simp
    try with_reducible rfl
  try simp only [Act.put, List.getElem_toArray, List.getElem_cons_zero, List.getElem_cons_succ, List.setIfInBounds_toArray, List.set_cons_zero, List.set_cons_succ]
  refine wpAnyH_take (i := 2) (v := ?_) rfl (by kernel_rfl) (by kernel_rfl) (by kernel_rfl) (fun _ _ _ h => h.elim) (Or.inl ⟨by rfl, ?_⟩) (by assumption) ?_
  rotate_left
  · intro wx hSw
    try dsimp only at hSw
    go_simp
    try with_reducible rfl
  try simp only [Act.put, List.getElem_toArray, List.getElem_cons_zero, List.getElem_cons_succ, List.setIfInBounds_toArray, List.set_cons_zero, List.set_cons_succ]
  refine wpAnyH_take (i := 3) (v := ?_) rfl (by kernel_rfl) (by kernel_rfl) (by kernel_rfl) (fun _ _ _ h => h.elim) (Or.inl ⟨by rfl, ?_⟩) (by assumption) ?_
  rotate_left
  · intro wx hSw
    try dsimp only at hSw
    go_simp
    try with_reducible rfl
  try simp only [Act.put, List.getElem_toArray, List.getElem_cons_zero, List.getElem_cons_succ, List.setIfInBounds_toArray, List.set_cons_zero, List.set_cons_succ]
  refine wpAnyH_take (i := 4) (v := ?_) rfl (by kernel_rfl) (by kernel_rfl) (by kernel_rfl) (fun _ _ _ h => h.elim) (Or.inl ⟨by rfl, ?_⟩) (by assumption) ?_
  rotate_left
  · intro wx hSw
    try dsimp only at hSw
    go_simp
    try with_reducible rfl
  try simp only [Act.put, List.getElem_toArray, List.getElem_cons_zero, List.getElem_cons_succ, List.setIfInBounds_toArray, List.set_cons_zero, List.set_cons_succ]
  refine wpAnyH_take (i := 5) (v := ?_) rfl (by kernel_rfl) (by kernel_rfl) (by kernel_rfl) (fun _ _ _ h => h.elim) (Or.inl ⟨by rfl, ?_⟩) (by assumption) ?_
  rotate_left
  · intro wx hSw
    try dsimp only at hSw
    go_simp
    try with_reducible rfl
  try simp only [Act.put, List.getElem_toArray, List.getElem_cons_zero, List.getElem_cons_succ, List.setIfInBounds_toArray, List.set_cons_zero, List.set_cons_succ]
  refine wpAnyH_take (i := 7) (v := ?_) rfl (by kernel_rfl) (by kernel_rfl) (by kernel_rfl) (fun _ _ _ h => h.elim) (Or.inl ⟨by rfl, ?_⟩) (by assumption) ?_
  rotate_left
  · intro wx hSw
    try dsimp only at hSw
    go_simp
    try with_reducible rfl
  try simp only [Act.put, List.getElem_toArray, List.getElem_cons_zero, List.getElem_cons_succ, List.setIfInBounds_toArray, List.set_cons_zero, List.set_cons_succ]
  refine wpAnyH_ready (rs := [6]) (by kernel_rfl) (by simp) ?_
  refine AllReadyH.cons rfl (fun K hK => ?_) ?_
  · go_simp
    refine (HIx.out _ _ kx ky k hkN HKx.out HKy.out D0.pf.pd).mono ?_
    rintro e w1 ⟨rfl, hb1⟩
    have G1 := D0.upto hb1
    have T1 : w1.cell? ⟨w.heap.size, 0, none⟩ = some (.int .i64 kx) ∧ w1.cell? ⟨w.heap.size, 1, none⟩ = some (.int .i64 ky) := ⟨((HTw.out.kept (Below.refl _ X).drew).kept hb1).1.1, ((HTw.out.kept (Below.refl _ X).drew).kept hb1).1.2⟩
    obtain ⟨fz1, u1, cu1⟩ := HFz.out _ _ _ _ G1 k hkN
    refine hK.out _ _ ?_ (fun hHeld => ?_)
    · first | exact ⟨HS.out _ _ _ _ G1, T1.1, T1.2⟩ | exact ⟨HS.out _ _ _ _ G2, T2.1, T2.2⟩
    clear hK K
    try simp only [Act.put, List.getElem_toArray, List.getElem_cons_zero, List.getElem_cons_succ, List.setIfInBounds_toArray, List.set_cons_zero, List.set_cons_succ]
    refine wpAnyH_take (i := 8) (v := ?_) rfl (by kernel_rfl) (by kernel_rfl) (by kernel_rfl) (fun _ _ _ h => h.elim) (Or.inl ⟨by rfl, ?_⟩) (by assumption) ?_
    rotate_left
    · intro wx hSw
      try dsimp only at hSw
      go_simp
      try with_reducible rfl
    try simp only [Act.put, List.getElem_toArray, List.getElem_cons_zero, List.getElem_cons_succ, List.setIfInBounds_toArray, List.set_cons_zero, List.set_cons_succ]
    refine wpAnyH_ready (rs := [9]) (by kernel_rfl) (by simp) ?_
    refine AllReadyH.cons rfl (fun K hK => ?_) ?_
    · go_simp
      have G2 := G1.mark HBw.out (j := k) (by rw [← HNN.out]; exact hkN)
      have T2 := two_past (b := b) (k := k) (v := .int .i64 (n : Nat)) ((HTw.out.kept (Below.refl _ X).drew).kept hb1) (by have := HBw.out; omega)
      refine hK.out _ _ ?_ (fun hHeld => ?_)
      · first | exact ⟨HS.out _ _ _ _ G1, T1.1, T1.2⟩ | exact ⟨HS.out _ _ _ _ G2, T2.1, T2.2⟩
      clear hK K
      try simp only [Act.put, List.getElem_toArray, List.getElem_cons_zero, List.getElem_cons_succ, List.setIfInBounds_toArray, List.set_cons_zero, List.set_cons_succ]
      refine wpAnyH_done (by kernel_rfl) ?_ _
      show Exit.inBlock 1 _ Exit.normal _ _
      have HT2 := hide T2
      have HG2 := hide G2
      obtain ⟨x0, x1⟩ := id T2
      clear hb1 G1 T1 G2 T2 cu1 fz1 T0 D0 hHeld t0 t1 t2 t3 hX
      obtain ⟨w2, hw2⟩ : ∃ w2, w1.setCell ⟨b, k, none⟩ (.int .i64 (n : Nat)) = w2 := ⟨_, rfl⟩
      rw [hw2] at HG2 x0 x1
      have HW2 := hide hw2
      clear hw2 HT2
      rw [HW2.out]
      clear HW2
      obtain ⟨w3, hw3⟩ : ∃ w3, w2.alloc (.cells #[.int .i64 kx, .int .i64 ky] 46) = w3 := ⟨_, rfl⟩
      have G3 : Fg w w3 p f q cl ep wd ht car s b2 b pv L n (.slice (some ⟨w2.heap.size, 0, none⟩) 1 1) [k] [k] := by
        have := HG2.out.upto (w' := w3) (by rw [← hw3]; exact box1 _ _)
        refine ⟨this.pf, ?_, this.tu, fun g hg => by cases hg; exact HG2.out.tu.size⟩
        rw [← hw3, ← HKx.out, ← HKy.out]
        exact ⟨rfl, .inr ⟨w2.heap.size, 1, _, rfl, Nat.zero_le _, heap_alloc_new w2 _, Nat.le_refl _, by decide, rfl, rfl⟩⟩
      have F3 : Fl St (adI wd) k [k] 0 := Fl.start HKs.out
      have HW3 := hide hw3
      have HG3 := hide G3
      have HF3 := hide F3
      clear G3 F3 hw3
      go_wp2_with fail
      rw [HW3.out]
      clear HW3 HG2
      have HIO : Hid (∀ (wx : World) (fv : Value) (m l : List Nat), Fg w wx p f q cl ep wd ht car s b2 b pv L n fv m l → Offs wx) := hide fun wx fv m l h => HO.out wx h.tu
      obtain ⟨fi, hf, hz, h1, h8⟩ := info_parts info41
      go_loopw [7, 8] (fun a d wr => ∃ (i : Nat) (l : List Nat), d = .int .i64 (i : Nat) ∧ i ≤ l.length ∧ Fg w wr p f q cl ep wd ht car s b2 b pv L n a l l ∧ Fl St (adI wd) k l i) (fun _ d _ => N - (intOf d).toNat)
      case atStart => exact ⟨0, [k], rfl, by simp, HG3.out, HF3.out⟩
      case round =>
        obtain ⟨i, l, rfl, hil, hG, hF⟩ := hrel
        clear HG3 HF3 HG0 HTw x0 x1
        have hlN : l.length ≤ N := hF.len HSN.out
        obtain ⟨a7, cap, ha7, hcap, hcs⟩ := hG.row.form (cA_len wd)
        rename World => wo
        subst ha7
        have HCS := hide hcs
        clear hcs
        by_cases hlt : i < l.length
        · have hli : ((i : Nat) : Int) < (l.length : Nat) := by omega
          have hiI : (0 : Int) ≤ (i : Nat) ∧ ((i : Nat) : Int) ≤ 16384 := by omega
          obtain ⟨c, hc⟩ : ∃ c, l[i]? = some c := ⟨_, List.getElem?_eq_getElem hlt⟩
          have hcl : c ∈ l := List.mem_of_getElem? hc
          have hcN : c < N := HSN.out c (hF.cn c hcl).right
          have HGi := hide hG
          have HFi := hide hF
          have Hc := hide hc
          have Hcl := hide hcl
          clear hG hF hc hcl
          go_wp2_with fail
          go_loopw [7, 29] (fun a d wr => ∃ (e : Nat) (m : List Nat), d = .int .i64 (e : Nat) ∧ e ≤ 4 ∧ Fg w wr p f q cl ep wd ht car s b2 b pv L n a m m ∧ Fl St (adI wd) k m i ∧ m[i]? = some c ∧ Dn St wd c e m) (fun _ d _ => 4 - (intOf d).toNat)
          case atStart => exact ⟨0, l, rfl, by omega, HGi.out, HFi.out, Hc.out, fun j e he => by omega⟩
          case round =>
            obtain ⟨e, m, rfl, he4, hG, hF, hmc, hD⟩ := hrel
            clear HGi HFi Hc Hcl
            have hmN : m.length ≤ N := hF.len HSN.out
            have him : i < m.length := (List.getElem?_eq_some_iff.1 hmc).1
            obtain ⟨a7, cap, ha7, hcap, hcs⟩ := hG.row.form (cA_len wd)
            obtain ⟨g, hga, hgs, hcc⟩ := hcs i c hmc
            subst hga
            subst ha7
            obtain ⟨cx, hcx⟩ : ∃ cx : Int, ((c % wd : Nat) : Int) = cx := ⟨_, rfl⟩
            obtain ⟨cy, hcy⟩ : ∃ cy : Int, ((c / wd : Nat) : Int) = cy := ⟨_, rfl⟩
            have k0 : wr.cell? ⟨g, i * 2, none⟩ = some (.int .i64 cx) := by rw [← hcx]; exact hcc 0 _ rfl
            have k1 : wr.cell? ⟨g, i * 2 + 1, none⟩ = some (.int .i64 cy) := by rw [← hcy]; exact hcc 1 _ rfl
            have hF' := hide hF
            have hD' := hide hD
            have hm' := hide hmc
            have hG' := hide hG
            clear hcs hcc hF hD hmc hG hcap
            by_cases hlt4 : e < 4
            · have hlI : ((e : Nat) : Int) < 4 := by omega
              have hi2 : ((i : Nat) : Int) < (m.length : Nat) := by omega
              have hiI2 : (0 : Int) ≤ (i : Nat) ∧ ((i : Nat) : Int) ≤ 16384 := by omega
              have hmI : ((m.length : Nat) : Int) ≤ 16384 := by omega
              obtain ⟨ux, hux⟩ : ∃ ux, cx + dX e = ux := ⟨_, rfl⟩
              obtain ⟨uy, huy⟩ : ∃ uy, cy + dY e = uy := ⟨_, rfl⟩
              have HSp : Hid (∀ wx, Offs wx → Calls Tryz.prog 78 #[cel cx cy, .int .i64 (e : Nat)] wx fun e' w' => e' = .returned (.tuple #[cel ux uy, .bool true]) ∧ Below wx.heap.size wx w') := hide fun wx ho => step_is ho (by
                have := step_near hwd (by rw [← HNN.out]; exact hcN) (a := c) (d := e) (by omega)
                rw [hcx, hcy, hux, huy] at this
                exact this)
              obtain ⟨r, hr⟩ : ∃ r, nwB car s wd (ov L n m) ux uy = r := ⟨_, rfl⟩
              have HNi : Hid (∀ wx, Pf wx p f q cl ep wd ht car s b2 b pv (ov L n m) → Calls Tryz.prog 44 #[ptr p, cel ux uy] wx fun e' w' => e' = .returned (.bool r) ∧ Below wx.heap.size wx w') := hide fun wx h => by rw [← hr]; exact HNw.out wx _ ux uy h
              have Hr := hide hr
              have Hux : Hid (((c % wd : Nat) : Int) + dX e = ux) := hide (by rw [hcx]; exact hux)
              have Huy : Hid (((c / wd : Nat) : Int) + dY e = uy) := hide (by rw [hcy]; exact huy)
              clear hux huy hr hcx hcy
              go_wp2_with fail
              refine (HSp.out _ (HIO.out _ _ _ _ hG'.out)).mono ?_
              rintro e' w4 ⟨rfl, hb4⟩
              have G5 := hide ((hG'.out.upto hb4).upto (box1 w4 (.cells #[.int .i64 ux, .int .i64 uy] 46)))
              have b5 : Two (w4.alloc (.cells #[.int .i64 ux, .int .i64 uy] 46)) w4.heap.size ux uy := Two.newAt rfl
              have zw4 : w.heap.size ≤ w4.heap.size := Nat.le_trans hG'.out.tu.size hb4.size
              obtain ⟨w5, hw5⟩ : ∃ w5, w4.alloc (.cells #[.int .i64 ux, .int .i64 uy] 46) = w5 := ⟨_, rfl⟩
              rw [hw5] at G5 b5
              obtain ⟨B, hB⟩ : ∃ B, w4.heap.size = B := ⟨_, rfl⟩
              rw [hB] at b5
              have HBw4 : Hid (w.heap.size ≤ B) := hide (hB ▸ zw4)
              obtain ⟨⟨y0, y1⟩, y2, y3⟩ := id b5
              have HB5 := hide b5
              have HW5 := hide hw5
              have HB4 := hide hB
              clear hb4 b5 k0 k1 HSp hw5 hB zw4 hG'
              go_wp2_with fail
              try rw [HW5.out]
              try rw [HB4.out]
              refine (HNi.out _ G5.out.pf).mono ?_
              rintro e' w6 ⟨rfl, hb6⟩
              have G6 := hide (G5.out.upto hb6)
              have b6 := HB5.out.kept hb6
              have HB6 := hide b6
              obtain ⟨⟨z0, z1⟩, z2, z3⟩ := id b6
              clear hb6 b6 y0 y1 y2 y3 HW5 HB5 G5 HNi
              cases r
              · have hDn : Dn St wd c (e + 1) m := hD'.out.next fun j hj hs2 => by
                  by_cases hjm : j ∈ m
                  · exact hjm
                  · exfalso
                    have hcc : Cn St (adI wd) k c := hF'.out.cn c (List.mem_of_getElem? hm'.out)
                    have hcj : Cn St (adI wd) k j := .step _ _ _ hcc (nbr_ad (by omega) hj) hs2
                    have h0 : ov L n m j = 0 := by rw [ov, if_neg hjm]; exact HL.out j hcj
                    have hsq := hs2
                    rw [HSt.out, stI_iff] at hsq
                    have e1 : ((j % wd : Nat) : Int) = ux := hj.1.trans Hux.out
                    have e2 : ((j / wd : Nat) : Int) = uy := hj.2.trans Huy.out
                    have e3 : uy.toNat * wd + ux.toNat = j := by rw [← e1, ← e2, Int.toNat_natCast, Int.toNat_natCast, Nat.mul_comm]; exact Nat.div_add_mod j wd
                    rw [e1, e2] at hsq
                    have hh := Hr.out
                    rw [nwB, hsq.2, e3, h0] at hh
                    simp at hh
                have HDn := hide hDn
                clear hDn
                go_wp2_with fail
                go_roundw
                case rel => exact ⟨e + 1, m, by go_num, by omega, G6.out, hF'.out, hm'.out, HDn.out⟩
                case measure => simp [intOf]; omega
              · have hr2 := Hr.out
                rw [nwB, Bool.and_eq_true, decide_eq_true_eq] at hr2
                obtain ⟨j, hj, hjN, hj1, hj2, hjs, -⟩ := stI_at hw hs.1 HCar.out hr2.1
                have hj0 : ov L n m j = 0 := by rw [hj]; exact hr2.2
                have hjm : j ∉ m := fun h => by rw [ov, if_pos h] at hj0; omega
                have hnb : nbr wd c j e := ⟨hj1.trans Hux.out.symm, hj2.trans Huy.out.symm⟩
                rw [← HNN.out] at hjN hjs
                rw [← HSt.out] at hjs
                have F6 : Fl St (adI wd) k (m ++ [j]) i := hF'.out.push (List.mem_of_getElem? hm'.out) (by omega) (nbr_ad (by omega) hnb) hjs hjm
                have D6 : Dn St wd c (e + 1) (m ++ [j]) := (hD'.out.more j).next fun j' hj' _ => by
                  have : j' = j := idx_eq (wd := wd) (by have := hj'.1.trans hnb.1.symm; omega) (by have := hj'.2.trans hnb.2.symm; omega)
                  subst this; simp
                have hm6 : (m ++ [j])[i]? = some c := by rw [List.getElem?_append_left him]; exact hm'.out
                have HF6 := hide F6
                have HD6 := hide D6
                have Hm6 := hide hm6
                have HJ1 := hide hj1
                have HJ2 := hide hj2
                have hjI : (0 : Int) ≤ (j : Nat) ∧ ((j : Nat) : Int) < (N : Nat) := by omega
                clear F6 D6 hm6 hjm hnb hj0 hr2 hj hjs hj1 hj2
                go_wp2_with fail
                refine wp_only ?_
                have D0 := G6.out.upto (Below.refl _ w6).drew
                have HBd := hide (HB6.out.kept (Below.refl _ w6).drew)
                refine wp_region_held_drew (S := fun wx => wx.cell? ⟨p, 6, none⟩ = some (sl b N) ∧ wx.cell? ⟨B, 0, none⟩ = some (.int .i64 ux) ∧ wx.cell? ⟨B, 1, none⟩ = some (.int .i64 uy)) (by kernel_rfl) ⟨HS.out _ _ _ _ D0, HBd.out.1.1, HBd.out.1.2⟩ (fun hHeld => ?_)
                refine wpAnyH_take (i := 0) (v := ?_) rfl (by kernel_rfl) (by kernel_rfl) (by kernel_rfl) (fun _ _ _ h => h.elim) (Or.inl ⟨by rfl, ?_⟩) (by assumption) ?_
                rotate_left
                · intro wx hSw
                  try dsimp only at hSw
                  go_simp
                  try with_reducible rfl
                try simp only [Act.put, List.getElem_toArray, List.getElem_cons_zero, List.getElem_cons_succ, List.setIfInBounds_toArray, List.set_cons_zero, List.set_cons_succ]
                refine wpAnyH_take (i := 1) (v := ?_) rfl (by kernel_rfl) (by kernel_rfl) (by kernel_rfl) (fun _ _ _ h => h.elim) (Or.inl ⟨by rfl, ?_⟩) (by assumption) ?_
                rotate_left
                · intro wx hSw
                  try dsimp only at hSw
                  go_simp
                  try with_reducible rfl
                try simp only [Act.put, List.getElem_toArray, List.getElem_cons_zero, List.getElem_cons_succ, List.setIfInBounds_toArray, List.set_cons_zero, List.set_cons_succ]
                refine wpAnyH_take (i := 2) (v := ?_) rfl (by kernel_rfl) (by kernel_rfl) (by kernel_rfl) (fun _ _ _ h => h.elim) (Or.inl ⟨by rfl, ?_⟩) (by assumption) ?_
                rotate_left
                · intro wx hSw
                  try dsimp only at hSw
                  go_simp
                  try with_reducible rfl
                try simp only [Act.put, List.getElem_toArray, List.getElem_cons_zero, List.getElem_cons_succ, List.setIfInBounds_toArray, List.set_cons_zero, List.set_cons_succ]
                refine wpAnyH_take (i := 3) (v := ?_) rfl (by kernel_rfl) (by kernel_rfl) (by kernel_rfl) (fun _ _ _ h => h.elim) (Or.inl ⟨by rfl, ?_⟩) (by assumption) ?_
                rotate_left
                · intro wx hSw
                  try dsimp only at hSw
                  go_simp
                  try with_reducible rfl
                try simp only [Act.put, List.getElem_toArray, List.getElem_cons_zero, List.getElem_cons_succ, List.setIfInBounds_toArray, List.set_cons_zero, List.set_cons_succ]
                refine wpAnyH_take (i := 4) (v := ?_) rfl (by kernel_rfl) (by kernel_rfl) (by kernel_rfl) (fun _ _ _ h => h.elim) (Or.inl ⟨by rfl, ?_⟩) (by assumption) ?_
                rotate_left
                · intro wx hSw
                  try dsimp only at hSw
                  go_simp
                  try with_reducible rfl
                try simp only [Act.put, List.getElem_toArray, List.getElem_cons_zero, List.getElem_cons_succ, List.setIfInBounds_toArray, List.set_cons_zero, List.set_cons_succ]
                refine wpAnyH_take (i := 5) (v := ?_) rfl (by kernel_rfl) (by kernel_rfl) (by kernel_rfl) (fun _ _ _ h => h.elim) (Or.inl ⟨by rfl, ?_⟩) (by assumption) ?_
                rotate_left
                · intro wx hSw
                  try dsimp only at hSw
                  go_simp
                  try with_reducible rfl
                try simp only [Act.put, List.getElem_toArray, List.getElem_cons_zero, List.getElem_cons_succ, List.setIfInBounds_toArray, List.set_cons_zero, List.set_cons_succ]
                refine wpAnyH_take (i := 7) (v := ?_) rfl (by kernel_rfl) (by kernel_rfl) (by kernel_rfl) (fun _ _ _ h => h.elim) (Or.inl ⟨by rfl, ?_⟩) (by assumption) ?_
                rotate_left
                · intro wx hSw
                  try dsimp only at hSw
                  go_simp
                  try with_reducible rfl
                try simp only [Act.put, List.getElem_toArray, List.getElem_cons_zero, List.getElem_cons_succ, List.setIfInBounds_toArray, List.set_cons_zero, List.set_cons_succ]
                refine wpAnyH_ready (rs := [6]) (by kernel_rfl) (by simp) ?_
                refine AllReadyH.cons rfl (fun K hK => ?_) ?_
                · go_simp
                  refine (HIx.out _ _ ux uy j hjN HJ1.out HJ2.out D0.pf.pd).mono ?_
                  rintro e' w7 ⟨rfl, hb7⟩
                  have G7 := D0.upto hb7
                  have b7 := HBd.out.kept hb7
                  have T7 : w7.cell? ⟨B, 0, none⟩ = some (.int .i64 ux) ∧ w7.cell? ⟨B, 1, none⟩ = some (.int .i64 uy) := b7.1
                  obtain ⟨fz7, u7, cu7⟩ := HFz.out _ _ _ _ G7 j hjN
                  refine hK.out _ _ ?_ (fun hHeld => ?_)
                  · first | exact ⟨HS.out _ _ _ _ G7, T7.1, T7.2⟩ | exact ⟨HS.out _ _ _ _ G8, T8.1, T8.2⟩
                  clear hK K
                  try simp only [Act.put, List.getElem_toArray, List.getElem_cons_zero, List.getElem_cons_succ, List.setIfInBounds_toArray, List.set_cons_zero, List.set_cons_succ]
                  refine wpAnyH_take (i := 8) (v := ?_) rfl (by kernel_rfl) (by kernel_rfl) (by kernel_rfl) (fun _ _ _ h => h.elim) (Or.inl ⟨by rfl, ?_⟩) (by assumption) ?_
                  rotate_left
                  · intro wx hSw
                    try dsimp only at hSw
                    go_simp
                    try with_reducible rfl
                  try simp only [Act.put, List.getElem_toArray, List.getElem_cons_zero, List.getElem_cons_succ, List.setIfInBounds_toArray, List.set_cons_zero, List.set_cons_succ]
                  refine wpAnyH_ready (rs := [9]) (by kernel_rfl) (by simp) ?_
                  refine AllReadyH.cons rfl (fun K hK => ?_) ?_
                  · go_simp
                    have G8 := G7.mark HBw.out (j := j) (by rw [← HNN.out]; exact hjN)
                    have T8 := two_past (b := b) (k := j) (v := .int .i64 (n : Nat)) b7 (by have := HBw.out; have := HBw4.out; omega)
                    refine hK.out _ _ ?_ (fun hHeld => ?_)
                    · first | exact ⟨HS.out _ _ _ _ G7, T7.1, T7.2⟩ | exact ⟨HS.out _ _ _ _ G8, T8.1, T8.2⟩
                    clear hK K
                    try simp only [Act.put, List.getElem_toArray, List.getElem_cons_zero, List.getElem_cons_succ, List.setIfInBounds_toArray, List.set_cons_zero, List.set_cons_succ]
                    refine wpAnyH_done (by kernel_rfl) ?_ _
                    show Exit.inBlock 1 _ Exit.normal _ _
                    have HG8 := hide G8
                    obtain ⟨x0, x1⟩ := id T8
                    obtain ⟨w8, hw8⟩ : ∃ w8, w7.setCell ⟨b, j, none⟩ (.int .i64 (n : Nat)) = w8 := ⟨_, rfl⟩
                    rw [hw8] at HG8 x0 x1
                    have HW8 := hide hw8
                    clear hb7 b7 G7 T7 T8 G8 cu7 fz7 D0 hHeld z0 z1 z2 z3 hw8
                    rw [HW8.out]
                    clear HW8
                    have hown := (HG8.out.upto (box1 w8 (.cells #[.int .i64 ux, .int .i64 uy] 46))).row
                    have HOw := hide hown
                    have hnw : ∀ i u, (cA wd j)[i]? = some u → (w8.alloc (.cells #[.int .i64 ux, .int .i64 uy] 46)).cell? ((⟨w8.heap.size, 0, none⟩ : Addr).add i) = some u := by
                      have := cA_new w8 wd j 46
                      rw [HJ1.out, HJ2.out] at this
                      exact this
                    have Hnw := hide hnw
                    have hm1 : m.length + 1 ≤ maxLen := by unfold maxLen; omega
                    have hm2 : (m.length + 1) * 16 ≤ 140737488355328 := by omega
                    clear hown hnw
                    go_wp2_with (at_builtin; refine wpList_append_own_at _ rfl _ _ 73 rfl 0 46 fi (cel 0 0) 2 16 Tryz.underlying73 hf hz h1 h8 rfl (by decide) (.slice (some ⟨g, 0, none⟩) m.length cap) m.length _ rfl HOw.out ⟨w8.heap.size, 0, none⟩ 1 1 (cA wd j) rfl rfl Hnw.out (cA_one wd j) hm1 hm2 (Nat.zero_le _) ?_; intro v' w9 hown9 hgrow9 hnil9 hloc9; have HG9 := hide ((HG8.out.upto (box1 w8 (.cells #[.int .i64 ux, .int .i64 uy] 46))).push hown9 hgrow9 hloc9); clear hown9 hgrow9 hnil9 hloc9)
                    go_roundw
                    case rel => exact ⟨e + 1, m ++ [j], by go_num, by omega, HG9.out, HF6.out, Hm6.out, HD6.out⟩
                    case measure => simp [intOf]; omega
          
                  exact AllReadyH.nil
                exact AllReadyH.nil
            · have hlI : ¬ ((e : Nat) : Int) < 4 := by omega
              have he : e = 4 := by omega
              subst he
              have hFn : Fl St (adI wd) k m (i + 1) := hF'.out.next hm'.out hD'.out.all
              have HFn := hide hFn
              clear hFn k0 k1
              go_wp2_with fail
              go_roundw
              case rel => exact ⟨i + 1, m, by go_num, by omega, hG'.out, HFn.out⟩
              case measure => simp [intOf]; omega
        · have hli : ¬ ((i : Nat) : Int) < (l.length : Nat) := by omega
          have HFn := hide (hF.done (by omega))
          have HFd := hide hF.nd
          have HGi := hide hG
          clear hG hF
          go_wp2_with fail
          go_ret
          exact ⟨l, rfl, ⟨HFd.out, HFn.out⟩, HGi.out.pf, HGi.out.tu⟩
    
    exact AllReadyH.nil
  exact AllReadyH.nil
end Go.Proofs.YtoheibfijpdmfaaGreatDoor
set_option linter.unusedSimpArgs false
namespace Go.Proofs.YtoheibfijpdmfaaGreatDoor
open Go.RowKit Go.Shelf
set_option linter.unusedSectionVars false
variable [DecCn : ∀ (St : Nat → Bool) (Ad : Nat → Nat → Prop) (k i : Nat), Decidable (Cn St Ad k i)]
set_option linter.unusedVariables false
attribute [local go_sem] Oper.semAt_some
theorem info3n : (Tryz.prog.info? 3).map (fun i => (i.zero, i.size, i.bytes)) = some (some (.int .i64 0), 1, 8) := by kernel_rfl
theorem info95 : (Tryz.prog.info? 108).map (fun i => (i.zero, i.size, i.bytes)) = some (some (.agg #[.int .i64 0, .int .i64 0, .int .i64 0]), 3, 24) := by kernel_rfl
theorem make_nums (n : Nat) (hn : n ≤ 16384) (w : World) : (Instr.makeSlice 38 (.int .i64 (n : Nat)) (.int .i64 (n : Nat))).run Tryz.prog w = .ok (sl w.heap.size n) (w.alloc (.cells (Array.replicate n (.int .i64 0)) 3)) := by
  have := run_make_row' (P := Tryz.prog) 38 3 (.int .i64 0) 8 Tryz.underlying38 info3n rfl .i64 .i64 n (by omega) (by omega) w
  rw [made_list] at this
  rw [this]; simp
theorem made_nums (n : Nat) (w : World) : Nms (w.alloc (.cells (Array.replicate n (.int .i64 0)) 3)) w.heap.size n (fun _ => 0) := by
  have := heap_alloc_new w (.cells (Array.replicate n (.int .i64 0)) 3)
  unfold Nms
  rw [this]
  congr 2
  apply Array.ext'
  simp [List.map_const']
/-- What reckon keeps. -/
structure Rk (w W : World) (p f q : Nat) (cl ep : Int) (wd ht N : Nat) (car : Int → Int → Bool) (s b2 b : Nat) (pv : Value) (st : (Nat → Nat) × List Nat) : Prop where
  pf : Pf W p f q cl ep wd ht car s b2 b pv st.1
  row : Rw 108 3 (cP wd) W pv (prS (stI car wd N s) (adI wd) N st.2)
  tu : Turns (fun k => k = p) w W
  own : ∀ g, pv.ownBlock = some g → w.heap.size ≤ g
  hb : w.heap.size ≤ b
section
variable {w W W' : World} {p f q : Nat} {cl ep : Int} {wd ht N : Nat} {car : Int → Int → Bool} {s b2 b : Nat} {pv : Value} {st : (Nat → Nat) × List Nat}
theorem Rk.upto (h : Rk w W p f q cl ep wd ht N car s b2 b pv st) (hb : Below W.heap.size W W') : Rk w W' p f q cl ep wd ht N car s b2 b pv st :=
  ⟨h.pf.upto hb, h.row.upto hb, h.tu.trans (Turns.of_below hb), h.own, h.hb⟩
theorem Rk.ownT {row : Option Nat} (h : Rk w W p f q cl ep wd ht N car s b2 b pv st) (hg : W.grownBy W' row) (hr : ∀ r, row = some r → w.heap.size ≤ r ∧ ∃ o : Obj, W.heap[r]? = some o ∧ o.isCells = false) : Rk w W' p f q cl ep wd ht N car s b2 b pv st := by
  have T : Turns (fun k => row = some k) W W' := Turns.of_grown hg (fun k e => e)
  have hc : ∀ k (c : Array Value) t, W.heap[k]? = some (.cells c t (0, 0)) → ¬ row = some k := fun k c t hk e => by
    obtain ⟨-, o, ho, hno⟩ := hr k e
    rw [hk] at ho
    cases ho
    cases hno
  refine ⟨⟨h.pf.pd.kept T (hc _ _ _ h.pf.pd), h.pf.fd.kept T (hc _ _ _ h.pf.fd), h.pf.sz.kept T (hc _ _ _ h.pf.sz), h.pf.nm.kept T (hc _ _ _ h.pf.nm)⟩, h.row.kept T (fun g hg' => ?_), h.tu.trans (T.mono (fun k _ e => .inr (hr k e).1)), h.own, h.hb⟩
  obtain ⟨c, hc2⟩ := h.row.blk hg'
  exact hc _ _ _ hc2
theorem Rk.fill {L' : Nat → Nat} (h : Rk w W p f q cl ep wd ht N car s b2 b pv st) (hp : Pf W' p f q cl ep wd ht car s b2 b pv L') (ht' : Turns (fun k => k = b) W W') : Rk w W' p f q cl ep wd ht N car s b2 b pv (L', st.2) :=
  ⟨hp, h.row.kept ht' (fun g hg e => h.row.ne hg h.pf.nm (by decide) e), h.tu.trans (ht'.mono (fun k _ e => .inr (by rw [e]; exact h.hb))), h.own, h.hb⟩
theorem Rk.grow {v' : Value} {k : Nat} (h : Rk w W p f q cl ep wd ht N car s b2 b pv st) (hown : W'.ownsRow 0 108 3 v' ((prS (stI car wd N s) (adI wd) N st.2).length + 1) ((prS (stI car wd N s) (adI wd) N st.2).flatMap (cP wd) ++ cP wd (k, szC (stI car wd N s) (adI wd) N k))) (hgrow : W.grownBy W' pv.ownBlock) (hloc : v'.ownBlock = pv.ownBlock ∨ v'.ownBlock = some W.heap.size) :
    Pd W' p f s wd ht (sl b (wd * ht)) pv ∧ Turns (fun k => pv.ownBlock = some k) W W' ∧ Rk w (W'.setCell ⟨p, 7, none⟩ v') p f q cl ep wd ht N car s b2 b v' (st.1, st.2 ++ [k]) := by
  obtain ⟨⟨h1, h2, h3, h4⟩, hrow, htu, how, hb⟩ := h
  have T : Turns (fun k => pv.ownBlock = some k) W W' := Turns.of_grown hgrow (fun k e => e)
  have P' := h1.kept T (fun e => hrow.ne e h1 (by decide) rfl)
  have TS : Turns (fun k => k = p) W' (W'.setCell ⟨p, 7, none⟩ v') := Turns.set (S := fun k => k = p) W' (p := ⟨p, 7, none⟩) rfl _
  have hne : Pf W p f q cl ep wd ht car s b2 b pv st.1 := ⟨h1, h2, h3, h4⟩
  obtain ⟨⟨n1, n2, n3⟩, n4, n5⟩ := hne.ne
  have hR : Rw 108 3 (cP wd) W' v' (prS (stI car wd N s) (adI wd) N (st.2 ++ [k])) := by
    unfold Rw
    rw [prS, List.map_append, List.length_append, List.flatMap_append]
    simpa [prS] using hown
  have hR2 := hR.kept TS (fun g hg e => hR.ne hg P' (by decide) e)
  refine ⟨P', T, ⟨P'.setP v', (h2.kept T (fun e => hrow.ne e h2 (by decide) rfl)).kept TS (fun e => n4 e.symm), (h3.kept T (fun e => hrow.ne e h3 (by decide) rfl)).kept TS (fun e => n5 e.symm), (h4.kept T (fun e => hrow.ne e h4 (by decide) rfl)).kept TS n1⟩, hR2, (htu.trans (T.mono (fun k _ e => .inr (how k e)))).trans (TS.mono (fun k _ e => .inl e)), fun g hg => ?_, hb⟩
  rcases hloc with e | e
  · exact how g (by rw [← e]; exact hg)
  · rw [e] at hg; cases hg; exact htu.size
end
theorem keepsFrom_turns {S : Nat → Prop} {B : Nat} {W W' : World} (h : Turns S W W') (hc : ∀ k, S k → ∃ (c : Array Value) (t : TypeId), W.heap[k]? = some (.cells c t (0, 0))) : KeepsFrom B W W' := ⟨h.size, fun k o _ hk ho => (h.block k (Array.getElem?_eq_some_iff.1 hk).1 (fun hs => by
  obtain ⟨c, t, e⟩ := hc k hs
  rw [hk] at e
  cases e
  cases ho)).trans hk⟩
theorem two_kept {S : Nat → Prop} {W W' : World} {k : Nat} {u v : Int} (h : Two W k u v) (ht : Turns S W W') (hs : ¬ S k) : Two W' k u v := by
  have hb := ht.block k h.2.2 hs
  have hf : ∀ o, W'.frozen? ⟨k, o, none⟩ = W.frozen? ⟨k, o, none⟩ := fun o => by simp [World.frozen?, hb]
  exact ⟨⟨ht.cell hs h.1.1, ht.cell hs h.1.2⟩, ⟨(hf 0).trans h.2.1.1, (hf 1).trans h.2.1.2⟩, Nat.lt_of_lt_of_le h.2.2 ht.size⟩
/-- A cell in a block of its own. -/
def TwB (W : World) (B : Nat) (x y : Int) : Prop := W.heap[B]? = some (.cells #[.int .i64 x, .int .i64 y] 46 (0, 0))
theorem TwB.two {W : World} {B : Nat} {x y : Int} (h : TwB W B x y) : W.cell? ⟨B, 0, none⟩ = some (.int .i64 x) ∧ W.cell? ⟨B, 1, none⟩ = some (.int .i64 y) := ⟨cell_of_row W B 0 _ _ _ h, cell_of_row W B 1 _ _ _ h⟩
theorem TwB.lt {W : World} {B : Nat} {x y : Int} (h : TwB W B x y) : B < W.heap.size := (Array.getElem?_eq_some_iff.1 h).1
theorem TwB.upto {W W' : World} {B : Nat} {x y : Int} (h : TwB W B x y) (hb : Below W.heap.size W W') : TwB W' B x y := (hb.block B h.lt).trans h
theorem TwB.kept {S : Nat → Prop} {W W' : World} {B : Nat} {x y : Int} (h : TwB W B x y) (ht : Turns S W W') (hs : ¬ S B) : TwB W' B x y := ht.same hs h
theorem cells_own {W W' : World} {B t : Nat} {c : Array Value} {row : Option Nat} (h : W.heap[B]? = some (.cells c t (0, 0))) (hg : W.grownBy W' row) (hr : ∀ r, row = some r → ∃ o : Obj, W.heap[r]? = some o ∧ o.isCells = false) : W'.heap[B]? = some (.cells c t (0, 0)) :=
  (Turns.of_grown (S := fun k => row = some k) hg (fun k e => e)).same (fun e => by
    obtain ⟨o, ho, hno⟩ := hr B e
    rw [h] at ho
    cases ho
    cases hno) h
theorem cP_new (w : World) (wd : Nat) (a : Nat × Nat) (t : TypeId) : ∀ i u, (cP wd a)[i]? = some u → (w.alloc (.cells #[.int .i64 ((a.1 % wd : Nat) : Int), .int .i64 ((a.1 / wd : Nat) : Int), .int .i64 ((a.2 : Nat) : Int)] t)).cell? ((⟨w.heap.size, 0, none⟩ : Addr).add i) = some u := by
  intro i u hu
  rw [Addr.add_lit, Nat.zero_add, cell_of_row _ w.heap.size i _ _ _ (heap_alloc_new w _)]
  simpa [cP] using hu
theorem cP_one (wd : Nat) (a : Nat × Nat) : ∀ u ∈ cP wd a, u.oneCell' = true := by
  intro u hu
  simp [cP] at hu
  rcases hu with rfl | rfl | rfl <;> rfl
set_option maxRecDepth 100000 in
set_option maxHeartbeats 16000000 in
theorem prec_any {w : World} {p f q : Nat} {cl ep : Int} {wd ht N : Nat} {car : Int → Int → Bool} {s b2 : Nat} {av pv : Value} (hP : Pd w p f s wd ht av pv) (hF : Fd w f q cl wd ht b2 (wd * ht) ep) (hZ : Szs w b2 ((List.range (wd * ht)).map (clrK car wd)))
    (hwd : (1 ≤ wd ∧ wd ≤ 128) ∧ 1 ≤ ht ∧ ht ≤ 128) (hN : N = wd * ht) (hs : 1 ≤ s ∧ s ≤ 4) (hcar : ∀ x y, car x y = true → has 0 0 (wd : Int) (ht : Int) x y = true) (hO : ∀ Y, Turns (fun k => k = p) w Y → Offs Y) :
    Calls Tryz.prog 17 #[ptr p] w fun e w' => ∃ (b : Nat) (pv' : Value), e = .returned (.tuple #[]) ∧ Rk w w' p f q cl ep wd ht N car s b2 b pv' (lb (stI car wd N s) (adI wd) N) := by
  have hN2 : N ≤ 16384 := by have := Nat.mul_le_mul hwd.1.2 hwd.2.2; omega
  have hw : wd ≤ 128 ∧ ht ≤ 128 := ⟨hwd.1.2, hwd.2.2⟩
  have hm : may 0 0 (wd : Int) (ht : Int) = true := by rw [may_iff]; omega
  have hmul : IntKind.i64.wrap ((wd : Int) * (ht : Int)) = (N : Nat) := by
    rw [show (wd : Int) * (ht : Int) = ((wd * ht : Nat) : Int) by push_cast; rfl, ← hN]
    exact wrap_nat hN2
  have hpl := hP.lt
  obtain ⟨w0, hw0⟩ : ∃ w0, w.alloc (.cells #[ptr p] 33) = w0 := ⟨_, rfl⟩
  have B0 : Below w.heap.size w w0 := by rw [← hw0]; exact box1 _ _
  have z0 : w0.heap.size = w.heap.size + 1 := by rw [← hw0]; simp
  have X0 : Boxed w0 w.heap.size 33 (ptr p) := by rw [← hw0]; exact Boxed.new w 33 (ptr p)
  have P0 := hP.upto B0
  have F0 := hF.upto B0
  have Z0 := hZ.upto B0
  have HW0 := hide hw0
  have HNN := hide hN
  have HCar := hide hcar
  have HO := hide hO
  clear hw0 hcar hO hP hF hZ hN
  have HS : Hid (∀ wx, (∃ a v, Pd wx p f s wd ht a v) → Boxed wx w.heap.size 33 (ptr p) → wx.cell? ⟨w.heap.size, 0, none⟩ = some (ptr p) ∧ wx.cell? ⟨p, 4, none⟩ = some (.int .i64 wd) ∧ wx.cell? ⟨p, 5, none⟩ = some (.int .i64 ht)) := hide fun wx ⟨a, v, h1⟩ h2 => ⟨h2.cell, h1.c 4, h1.c 5⟩
  have hmk := make_nums N hN2
  have Pn : Pd (w0.alloc (.cells (Array.replicate N (.int .i64 0)) 3)) p f s wd ht av pv := P0.upto (box1 _ _)
  have Xn : Boxed (w0.alloc (.cells (Array.replicate N (.int .i64 0)) 3)) w.heap.size 33 (ptr p) := X0.alloc _
  have Nn : Nms (w0.alloc (.cells (Array.replicate N (.int .i64 0)) 3)) w0.heap.size N (fun _ => 0) := made_nums N w0
  obtain ⟨Y1, hY1⟩ : ∃ Y1, w0.alloc (.cells (Array.replicate N (.int .i64 0)) 3) = Y1 := ⟨_, rfl⟩
  have BY1 : Below w0.heap.size w0 Y1 := by rw [← hY1]; exact box1 _ _
  rw [hY1] at Pn Xn Nn
  have HY1 := hide hY1
  have zY1 : Y1.heap.size = w0.heap.size + 1 := by rw [← hY1]; simp
  clear hY1
  have P2 := Pn.setA (sl w0.heap.size N)
  have TS2 : Turns (fun k => k = p) Y1 (Y1.setCell ⟨p, 6, none⟩ (sl w0.heap.size N)) := Turns.set (S := fun k => k = p) Y1 (p := ⟨p, 6, none⟩) rfl _
  have X2 := boxed_kept Xn TS2 (by omega)
  obtain ⟨Y2, hY2⟩ : ∃ Y2, Y1.setCell ⟨p, 6, none⟩ (sl w0.heap.size N) = Y2 := ⟨_, rfl⟩
  rw [hY2] at P2 TS2 X2
  have HY2 := hide hY2
  clear hY2
  have P3 := P2.setP (.slice none 0 0)
  have TS3 : Turns (fun k => k = p) Y2 (Y2.setCell ⟨p, 7, none⟩ (.slice none 0 0)) := Turns.set (S := fun k => k = p) Y2 (p := ⟨p, 7, none⟩) rfl _
  have X3 := boxed_kept X2 TS3 (by omega)
  obtain ⟨Y3, hY3⟩ : ∃ Y3, Y2.setCell ⟨p, 7, none⟩ (.slice none 0 0) = Y3 := ⟨_, rfl⟩
  rw [hY3] at P3 TS3 X3
  have HY3 := hide hY3
  clear hY3
  have hpf : p ≠ f ∧ p ≠ b2 := by
    unfold Pd at P0; unfold Fd at F0; unfold Szs at Z0
    constructor <;> rintro rfl
    · rw [P0] at F0; simp at F0
    · rw [P0] at Z0; simp at Z0
  have T13 : Turns (fun k => k = p) w0 Y3 := ((Turns.of_below BY1).trans (TS2.mono (fun k _ h => .inl h))).trans (TS3.mono (fun k _ h => .inl h))
  have R3 : Rk w Y3 p f q cl ep wd ht N car s b2 w0.heap.size (.slice none 0 0) (lbF (stI car wd N s) (adI wd) []) := by
    refine ⟨⟨by rw [← HNN.out]; exact P3, F0.kept T13 (fun e => hpf.1 e.symm), Z0.kept T13 (fun e => hpf.2 e.symm), ?_⟩, Rw.nil _ _ _ _, (Turns.of_below B0).trans (T13.mono (fun k _ h => .inl h)), (fun g hg => by cases hg), B0.size⟩
    rw [← HNN.out]
    exact (Nn.kept TS2 (by omega)).kept TS3 (by omega)
  have fz2 := Pn.fz 6
  have fz3 := P2.fz 7
  have q6 : Y1.cell? ⟨p, 6, none⟩ = some av := Pn.c 6
  have q7 : Y2.cell? ⟨p, 7, none⟩ = some pv := P2.c 7
  have HR3 := hide R3
  have HX3 := hide X3
  have zY3 : w0.heap.size + 1 ≤ Y3.heap.size := by have := TS2.size; have := TS3.size; omega
  have HzY := hide zY3
  have HP3 := hide P3
  have Hz0 := hide z0
  have hQ0 := HS.out w0 ⟨_, _, P0⟩ X0
  have hQ1 := HS.out Y1 ⟨_, _, Pn⟩ Xn
  have hQ2 := HS.out Y2 ⟨_, _, P2⟩ X2
  have hQ3 := HS.out Y3 ⟨_, _, P3⟩ X3
  have HQ0 := hide hQ0
  have HQ1 := hide hQ1
  have HQ2 := hide hQ2
  have HQ3 := hide hQ3
  clear R3 X3 P3 T13 TS2 TS3 X2 P2 Nn Xn Pn BY1 zY1 zY3 hQ0 hQ1 hQ2 hQ3 P0 F0 Z0 hpf z0
  refine (callsIn_wide (n := 10)).1 ?_
  refine callsIn_of_wp_marks Tryz.func17 rfl trivial ?_ rfl
  simp only [Tryz.ntmps17, List.size_toArray, List.length_cons, List.length_nil, Nat.reduceAdd, Nat.reduceSub, Array.replicate_succ, Array.replicate_zero, List.push_toArray, List.append_toArray, List.nil_append, List.cons_append]
  gi_wp2_with fail
  rw [HW0.out]
  refine wpIn_wide.2 ?_
  refine wp_only ?_
  refine wp_region_held_drew (S := fun wx => wx.cell? ⟨w.heap.size, 0, none⟩ = some (ptr p) ∧ wx.cell? ⟨p, 4, none⟩ = some (.int .i64 wd) ∧ wx.cell? ⟨p, 5, none⟩ = some (.int .i64 ht)) (by kernel_rfl) HQ0.out (fun hHeld => ?_)
  refine wpAnyH_take (i := 0) (v := ?_) rfl (by kernel_rfl) (by kernel_rfl) (by kernel_rfl) (fun _ _ _ h => h.elim) (Or.inl ⟨by rfl, ?_⟩) (by assumption) ?_
  rotate_left
  · intro wx hSw
    try dsimp only at hSw
    go_simp
    try with_reducible rfl
  try simp only [Act.put, List.getElem_toArray, List.getElem_cons_zero, List.getElem_cons_succ, List.setIfInBounds_toArray, List.set_cons_zero, List.set_cons_succ]
  refine wpAnyH_take (i := 1) (v := ?_) rfl (by kernel_rfl) (by kernel_rfl) (by kernel_rfl) (fun _ _ _ h => h.elim) (Or.inl ⟨by rfl, ?_⟩) (by assumption) ?_
  rotate_left
  · intro wx hSw
    try dsimp only at hSw
    go_simp
    try with_reducible rfl
  try simp only [Act.put, List.getElem_toArray, List.getElem_cons_zero, List.getElem_cons_succ, List.setIfInBounds_toArray, List.set_cons_zero, List.set_cons_succ]
  refine wpAnyH_take (i := 2) (v := ?_) rfl (by kernel_rfl) (by kernel_rfl) (by kernel_rfl) (fun _ _ _ h => h.elim) (Or.inl ⟨by rfl, ?_⟩) (by assumption) ?_
  rotate_left
  · intro wx hSw
    try dsimp only at hSw
    go_simp
    try with_reducible rfl
  try simp only [Act.put, List.getElem_toArray, List.getElem_cons_zero, List.getElem_cons_succ, List.setIfInBounds_toArray, List.set_cons_zero, List.set_cons_succ]
  refine wpAnyH_take (i := 3) (v := ?_) rfl (by kernel_rfl) (by kernel_rfl) (by kernel_rfl) (fun _ _ _ h => h.elim) (Or.inl ⟨by rfl, ?_⟩) (by assumption) ?_
  rotate_left
  · intro wx hSw
    try dsimp only at hSw
    go_simp
    try with_reducible rfl
  try simp only [Act.put, List.getElem_toArray, List.getElem_cons_zero, List.getElem_cons_succ, List.setIfInBounds_toArray, List.set_cons_zero, List.set_cons_succ]
  refine wpAnyH_take (i := 4) (v := ?_) rfl (by kernel_rfl) (by kernel_rfl) (by kernel_rfl) (fun _ _ _ h => h.elim) (Or.inl ⟨by rfl, ?_⟩) (by assumption) ?_
  rotate_left
  · intro wx hSw
    try dsimp only at hSw
    go_simp
    try with_reducible rfl
  try simp only [Act.put, List.getElem_toArray, List.getElem_cons_zero, List.getElem_cons_succ, List.setIfInBounds_toArray, List.set_cons_zero, List.set_cons_succ]
  refine wpAnyH_take (i := 5) (v := ?_) rfl (by kernel_rfl) (by kernel_rfl) (by kernel_rfl) (fun _ _ _ h => h.elim) (Or.inl ⟨by rfl, ?_⟩) (by assumption) ?_
  rotate_left
  · intro wx hSw
    try dsimp only at hSw
    go_simp
    try with_reducible rfl
  try simp only [Act.put, List.getElem_toArray, List.getElem_cons_zero, List.getElem_cons_succ, List.setIfInBounds_toArray, List.set_cons_zero, List.set_cons_succ]
  refine wpAnyH_take (i := 6) (v := ?_) rfl (by kernel_rfl) (by kernel_rfl) (by kernel_rfl) (fun _ _ _ h => h.elim) (Or.inl ⟨by rfl, ?_⟩) (by assumption) ?_
  rotate_left
  · intro wx hSw
    try dsimp only at hSw
    go_simp
    try with_reducible rfl
  try simp only [Act.put, List.getElem_toArray, List.getElem_cons_zero, List.getElem_cons_succ, List.setIfInBounds_toArray, List.set_cons_zero, List.set_cons_succ]
  refine wpAnyH_take (i := 7) (v := ?_) rfl (by kernel_rfl) (by kernel_rfl) (by kernel_rfl) (fun _ _ _ h => h.elim) (Or.inl ⟨by rfl, ?_⟩) (by assumption) ?_
  rotate_left
  · intro wx hSw
    try dsimp only at hSw
    go_simp
    try with_reducible rfl
  try simp only [Act.put, List.getElem_toArray, List.getElem_cons_zero, List.getElem_cons_succ, List.setIfInBounds_toArray, List.set_cons_zero, List.set_cons_succ]
  refine wpAnyH_take (i := 8) (v := ?_) rfl (by kernel_rfl) (by kernel_rfl) (by kernel_rfl) (fun _ _ _ h => h.elim) (Or.inl ⟨by rfl, ?_⟩) (by assumption) ?_
  rotate_left
  · intro wx hSw
    try dsimp only at hSw
    go_simp
    try with_reducible rfl
  try simp only [Act.put, List.getElem_toArray, List.getElem_cons_zero, List.getElem_cons_succ, List.setIfInBounds_toArray, List.set_cons_zero, List.set_cons_succ]
  refine wpAnyH_take (i := 9) (v := ?_) rfl (by kernel_rfl) (by kernel_rfl) (by kernel_rfl) (fun _ _ _ h => h.elim) (Or.inl ⟨by rfl, ?_⟩) (by assumption) ?_
  rotate_left
  · intro wx hSw
    try dsimp only at hSw
    go_simp
    try with_reducible rfl
  try simp only [Act.put, List.getElem_toArray, List.getElem_cons_zero, List.getElem_cons_succ, List.setIfInBounds_toArray, List.set_cons_zero, List.set_cons_succ]
  refine wpAnyH_take (i := 10) (v := ?_) rfl (by kernel_rfl) (by kernel_rfl) (by kernel_rfl) (fun _ _ _ h => h.elim) (Or.inl ⟨by rfl, ?_⟩) (by assumption) ?_
  rotate_left
  · intro wx hSw
    try dsimp only at hSw
    go_simp
    try with_reducible rfl
  try simp only [Act.put, List.getElem_toArray, List.getElem_cons_zero, List.getElem_cons_succ, List.setIfInBounds_toArray, List.set_cons_zero, List.set_cons_succ]
  refine wpAnyH_take (i := 11) (v := ?_) rfl (by kernel_rfl) (by kernel_rfl) (by kernel_rfl) (fun _ _ _ h => h.elim) (Or.inl ⟨by rfl, ?_⟩) (by assumption) ?_
  rotate_left
  · intro wx hSw
    try dsimp only at hSw
    go_simp
    try with_reducible rfl
  try simp only [Act.put, List.getElem_toArray, List.getElem_cons_zero, List.getElem_cons_succ, List.setIfInBounds_toArray, List.set_cons_zero, List.set_cons_succ]
  refine wpAnyH_take (i := 12) (v := ?_) rfl (by kernel_rfl) (by kernel_rfl) (by kernel_rfl) (fun _ _ _ h => h.elim) (Or.inl ⟨by rfl, ?_⟩) (by assumption) ?_
  rotate_left
  · intro wx hSw
    try dsimp only at hSw
    go_simp
    try with_reducible rfl
  try simp only [Act.put, List.getElem_toArray, List.getElem_cons_zero, List.getElem_cons_succ, List.setIfInBounds_toArray, List.set_cons_zero, List.set_cons_succ]
  refine wpAnyH_ready (rs := [13]) (by kernel_rfl) (by simp) ?_
  refine AllReadyH.cons rfl (fun K hK => ?_) ?_
  · go_simp
    try rw [HY1.out]
    refine hK.out _ _ ?_ (fun hHeld => ?_)
    · (try rw [HY1.out]); (try rw [HY2.out]); (try rw [HY3.out]); first | exact HQ1.out | exact HQ2.out | exact HQ3.out
    clear hK K
    try simp only [Act.put, List.getElem_toArray, List.getElem_cons_zero, List.getElem_cons_succ, List.setIfInBounds_toArray, List.set_cons_zero, List.set_cons_succ]
    refine wpAnyH_take (i := 14) (v := ?_) rfl (by kernel_rfl) (by kernel_rfl) (by kernel_rfl) (fun _ _ _ h => h.elim) (Or.inl ⟨by rfl, ?_⟩) (by assumption) ?_
    rotate_left
    · intro wx hSw
      try dsimp only at hSw
      go_simp
      try with_reducible rfl
    try simp only [Act.put, List.getElem_toArray, List.getElem_cons_zero, List.getElem_cons_succ, List.setIfInBounds_toArray, List.set_cons_zero, List.set_cons_succ]
    refine wpAnyH_take (i := 15) (v := ?_) rfl (by kernel_rfl) (by kernel_rfl) (by kernel_rfl) (fun _ _ _ h => h.elim) (Or.inl ⟨by rfl, ?_⟩) (by assumption) ?_
    rotate_left
    · intro wx hSw
      try dsimp only at hSw
      go_simp
      try with_reducible rfl
    try simp only [Act.put, List.getElem_toArray, List.getElem_cons_zero, List.getElem_cons_succ, List.setIfInBounds_toArray, List.set_cons_zero, List.set_cons_succ]
    refine wpAnyH_ready (rs := [16]) (by kernel_rfl) (by simp) ?_
    refine AllReadyH.cons rfl (fun K hK => ?_) ?_
    · go_simp
      try rw [HY2.out]
      refine hK.out _ _ ?_ (fun hHeld => ?_)
      · (try rw [HY1.out]); (try rw [HY2.out]); (try rw [HY3.out]); first | exact HQ1.out | exact HQ2.out | exact HQ3.out
      clear hK K
      try simp only [Act.put, List.getElem_toArray, List.getElem_cons_zero, List.getElem_cons_succ, List.setIfInBounds_toArray, List.set_cons_zero, List.set_cons_succ]
      refine wpAnyH_take (i := 17) (v := ?_) rfl (by kernel_rfl) (by kernel_rfl) (by kernel_rfl) (fun _ _ _ h => h.elim) (Or.inl ⟨by rfl, ?_⟩) (by assumption) ?_
      rotate_left
      · intro wx hSw
        try dsimp only at hSw
        go_simp
        try with_reducible rfl
      try simp only [Act.put, List.getElem_toArray, List.getElem_cons_zero, List.getElem_cons_succ, List.setIfInBounds_toArray, List.set_cons_zero, List.set_cons_succ]
      refine wpAnyH_take (i := 18) (v := ?_) rfl (by kernel_rfl) (by kernel_rfl) (by kernel_rfl) (fun _ _ _ h => h.elim) (Or.inl ⟨by rfl, ?_⟩) (by assumption) ?_
      rotate_left
      · intro wx hSw
        try dsimp only at hSw
        go_simp
        try with_reducible rfl
      try simp only [Act.put, List.getElem_toArray, List.getElem_cons_zero, List.getElem_cons_succ, List.setIfInBounds_toArray, List.set_cons_zero, List.set_cons_succ]
      refine wpAnyH_ready (rs := [19]) (by kernel_rfl) (by simp) ?_
      refine AllReadyH.cons rfl (fun K hK => ?_) ?_
      · go_simp
        try rw [HY3.out]
        refine hK.out _ _ ?_ (fun hHeld => ?_)
        · (try rw [HY1.out]); (try rw [HY2.out]); (try rw [HY3.out]); first | exact HQ1.out | exact HQ2.out | exact HQ3.out
        clear hK K
        try simp only [Act.put, List.getElem_toArray, List.getElem_cons_zero, List.getElem_cons_succ, List.setIfInBounds_toArray, List.set_cons_zero, List.set_cons_succ]
        refine wpAnyH_done (by kernel_rfl) ?_ _
        dsimp only [Only, Exit.then]
        obtain ⟨V, hV⟩ : ∃ V, Y3.drew = V := ⟨_, rfl⟩
        have RV : Rk w V p f q cl ep wd ht N car s b2 w0.heap.size (.slice none 0 0) (lbF (stI car wd N s) (adI wd) []) := by rw [← hV]; exact HR3.out.upto (Below.refl _ Y3).drew
        have XV : Boxed V w.heap.size 33 (ptr p) := by rw [← hV]; exact HX3.out
        have zV : w0.heap.size + 1 ≤ V.heap.size := by rw [← hV]; exact HzY.out
        rw [hV]
        clear hV HY1 HY2 HY3 fz2 fz3 q6 q7 HR3 HX3 HzY HP3 HQ0 HQ1 HQ2 HQ3 hmk hHeld HS X0 B0 HW0
        have c0 := XV.cell
        have c2 : V.cell? ⟨p, 2, none⟩ = some (.int .i64 0) := RV.pf.pd.c 2
        have c3 : V.cell? ⟨p, 3, none⟩ = some (.int .i64 0) := RV.pf.pd.c 3
        have c4 : V.cell? ⟨p, 4, none⟩ = some (.int .i64 wd) := RV.pf.pd.c 4
        have c5 : V.cell? ⟨p, 5, none⟩ = some (.int .i64 ht) := RV.pf.pd.c 5
        have HRV := hide RV
        have HXV := hide XV
        clear RV XV
        gi_wp2_with fail
        refine ⟨trivial, ?_⟩
        refine (callsIn_wide.2 (cells_any _ _ _ _ _)).mono ?_
        rintro e w4 ⟨rfl, hw4⟩
        have FB : Four w4 V.heap.size 0 0 wd ht := by rw [hw4]; exact cells4 (Below.refl _ _)
        have R4 := HRV.out.upto (W' := w4) (by rw [hw4]; exact box1 _ _)
        have X4 : Boxed w4 w.heap.size 33 (ptr p) := by rw [hw4]; exact HXV.out.alloc _
        have z4 : w4.heap.size = V.heap.size + 1 := by rw [hw4]; simp
        have C4 : w4.heap[V.heap.size]? = some (.cells #[.int .i64 0, .int .i64 0, .int .i64 wd, .int .i64 ht] 48 (0, 0)) := by rw [hw4]; exact heap_alloc_new V _
        clear hw4 c0 c2 c3 c4 c5 HRV HXV
        gi_wp2_with fail
        have hz0 := Hz0.out
        have hseq := cells_stopsF (10 - 1) V.heap.size 0 0 wd ht w4 FB hm
        have HNc : Hid (N = ht * wd) := hide (by rw [HNN.out, Nat.mul_comm])
        refine wpIn_rangeFunc_ownH rfl (by omega) (gf := 76) (lb := #[ptr V.heap.size]) rfl trivial (enters_of Tryz.func76 (by kernel_rfl) rfl)
          hseq kB_t (kB_b (by omega)) (Below.refl _ _) (fun _ => rfl)
          (fun pre W => (((∃ pv, Rk w W p f q cl ep wd ht N car s b2 w0.heap.size pv (lbF (stI car wd N s) (adI wd) (pre.map Fin.val))) ∧ Boxed W w.heap.size 33 (ptr p)) ∧ W.heap[V.heap.size]? = some (.cells #[.int .i64 0, .int .i64 0, .int .i64 wd, .int .i64 ht] 48 (0, 0))) ∧ w4.heap.size ≤ W.heap.size)
          (fun c pre W => False)
          (OwnFrom.and (OwnFrom.and (OwnFrom.and (fun s X Y row hs hg hr => by obtain ⟨pv, h⟩ := hs; exact ⟨pv, h.ownT hg (fun r e => ⟨by have := (hr r e).1; omega, (hr r e).2⟩)⟩) (Own.from (boxed_own _ _ _) _)) (fun s X Y row hs hg hr => cells_own hs hg (fun r e => (hr r e).2))) (ownFrom_size _ _))
          (fun c s X Y row hs hg hr => hs)
          ⟨⟨⟨⟨_, R4⟩, X4⟩, C4⟩, Nat.le_refl _⟩
          (fun k a' W => ∃ Bx, w4.heap.size ≤ Bx ∧ TwB W Bx ((k.val % wd : Nat) : Int) ((k.val / wd : Nat) : Int) ∧ a' = { tmps := #[ptr p, ptr w.heap.size, ptr Bx, undef, ptr p, ptr p, ptr p, ptr p, .pointer (some ⟨p, 2, none⟩), .pointer (some ⟨p, 4, none⟩), .int .i64 wd, ptr p, ptr p, .pointer (some ⟨p, 2, none⟩), .pointer (some ⟨p, 5, none⟩), .int .i64 ht, .int .i64 (N : Nat), sl w0.heap.size N, ptr p, .pointer (some ⟨p, 6, none⟩), ptr p, .pointer (some ⟨p, 7, none⟩), ptr p, ptr p, .pointer (some ⟨p, 2, none⟩), rct 0 0 wd ht, .func (.func 76) #[] #[ptr V.heap.size], cel ((k.val % wd : Nat) : Int) ((k.val / wd : Nat) : Int), undef, undef, undef, undef, undef, undef, undef, undef, undef, undef, undef, undef, undef, undef, undef, undef, undef, undef, undef, undef, undef, undef, undef, undef], defers := [] })
          (fun k a' _ X Y row hs hg hr => by obtain ⟨Bx, e1, e2, e3⟩ := hs; exact ⟨Bx, e1, cells_own e2 hg (fun r e => (hr r e).2), e3⟩)
          ?assign ?body ?done ?stop
        case assign =>
          rintro l' pre k X K ⟨⟨⟨⟨pv', hR⟩, hX⟩, hC⟩, hz⟩ hK
          simp only [encF, Int.zero_add]
          generalize ((k.val % wd : Nat) : Int) = kx at hK ⊢
          generalize ((k.val / wd : Nat) : Int) = ky at hK ⊢
          have Hz4 := hide z4
          clear hz0 z4
          gi_wp2
          exact hK _ _ ((KeepsOthers.alloc _ _).from _) (Below.heap_alloc _ _ _ (by have := Hz4.out; omega)) ⟨⟨⟨⟨pv', hR.upto (box1 _ _)⟩, hX.alloc _⟩, (Below.heap_alloc _ _ _ (by have := Hz4.out; omega)).trans hC⟩, by simp; omega⟩ ⟨X.heap.size, hz, heap_alloc_new X _, rfl⟩
        case body =>
          rintro l' pre ⟨k, hk⟩ a' X hl' ⟨r, hr⟩ ⟨⟨⟨⟨pv', hR⟩, hX⟩, hC⟩, hz⟩ ⟨Bx, hBx, T, rfl⟩ hlt
          simp only at T
          have hkN : k < N := by rw [HNc.out]; exact hk
          obtain ⟨st, hst⟩ : ∃ st, lbF (stI car wd N s) (adI wd) (pre.map Fin.val) = st := ⟨_, rfl⟩
          have hcn : ∀ i j, Cn (stI car wd N s) (adI wd) i j → st.1 i = st.1 j := by rw [← hst]; exact lbF_cn (adI_symm wd) _
          have hln : st.2.length < N := by rw [← hst]; have := lbF_len (St := stI car wd N s) (Ad := adI wd) (pre.map Fin.val); rw [List.length_map] at this; have := HNc.out; omega
          have hsn : lbF (stI car wd N s) (adI wd) ((pre ++ [(⟨k, hk⟩ : Fin (ht * wd))]).map Fin.val) = lbS (stI car wd N s) (adI wd) st k := by rw [List.map_append, ← hst]; exact lbF_snoc _ _
          rw [hst] at hR
          have Hst := hide hst
          have Hsn := hide hsn
          have Hcn := hide hcn
          obtain ⟨rb, hrb⟩ : ∃ rb, nwB car s wd st.1 ((k % wd : Nat) : Int) ((k / wd : Nat) : Int) = rb := ⟨_, rfl⟩
          have hki : ((k / wd : Nat) : Int).toNat * wd + ((k % wd : Nat) : Int).toNat = k := by rw [Int.toNat_natCast, Int.toNat_natCast, Nat.mul_comm]; exact Nat.div_add_mod k wd
          have hnw : rb = true ↔ (stI car wd N s k = true ∧ st.1 k = 0) := by
            rw [← hrb, nwB, hki, Bool.and_eq_true, decide_eq_true_eq, stI_iff]
            exact ⟨fun h => ⟨⟨hkN, h.1⟩, h.2⟩, fun h => ⟨h.1.2, h.2⟩⟩
          have HNw : Hid (∀ wx, Pf wx p f q cl ep wd ht car s b2 w0.heap.size pv' st.1 → Calls Tryz.prog 44 #[ptr p, cel ((k % wd : Nat) : Int) ((k / wd : Nat) : Int)] wx fun e w' => e = .returned (.bool rb) ∧ Below wx.heap.size wx w') := hide fun wx h => by rw [← hrb]; exact isnew_any _ _ h hw hs HCar.out
          have HFi : Hid (rb = true → ∀ wx, Rk w wx p f q cl ep wd ht N car s b2 w0.heap.size pv' st → Calls Tryz.prog 45 #[ptr p, cel ((k % wd : Nat) : Int) ((k / wd : Nat) : Int), .int .i64 (((st.2.length : Nat) : Int) + 1)] wx fun e w' => ∃ l : List Nat, e = .returned (.int .i64 (l.length : Nat)) ∧ (l.Nodup ∧ ∀ j, j ∈ l ↔ Cn (stI car wd N s) (adI wd) k j) ∧ Pf w' p f q cl ep wd ht car s b2 w0.heap.size pv' (ov st.1 (st.2.length + 1) l) ∧ Turns (fun k => k = w0.heap.size) wx w') := hide fun hb wx h => by
            have := fill_any k (st.2.length + 1) h.pf hwd HNN.out hs HCar.out (fun Y hY => HO.out Y (h.tu.trans (hY.mono (fun j _ e => .inr (by rw [e]; exact h.hb))))) ((hnw.1 hb).1) (fun j hj => by rw [← Hcn.out k j hj]; exact (hnw.1 hb).2) (by omega)
            rwa [show ((st.2.length + 1 : Nat) : Int) = ((st.2.length : Nat) : Int) + 1 by push_cast; rfl] at this
          have Hnw := hide hnw
          have hstl : (prS (stI car wd N s) (adI wd) N st.2).length = st.2.length := by simp [prS]
          obtain ⟨a7, cap7, ha7, hcap7, -⟩ := hR.row.form (cP_len wd)
          rw [hstl] at ha7
          have hT' := hide T
          have Hhk := hide hkN
          obtain ⟨kx, hkx⟩ : ∃ kx : Int, ((k % wd : Nat) : Int) = kx := ⟨_, rfl⟩
          obtain ⟨ky, hky⟩ : ∃ ky : Int, ((k / wd : Nat) : Int) = ky := ⟨_, rfl⟩
          have Hkx := hide hkx
          have Hky := hide hky
          rw [hkx, hky] at HNw HFi T hT'
          rw [hkx, hky]
          obtain ⟨t0, t1⟩ := T.two
          have x0 := hX.cell
          have hlnI : (0 : Int) ≤ (st.2.length : Nat) ∧ ((st.2.length : Nat) : Int) ≤ 16384 := by omega
          have hwr : IntKind.i64.wrap (((st.2.length : Nat) : Int) + 1) = ((st.2.length : Nat) : Int) + 1 := by rw [IntKind.wrap_i64]; omega
          subst ha7
          have Hz4 := hide z4
          have HRi := hide hR
          have HXi := hide hX
          have HzX := hide hz
          have HCi := hide hC
          have HBx := hide hBx
          clear T hkx hky hki hrb
          clear hz0 z4 hR hX hz hnw hcn hst hsn hC hcap7
          gi_wp2_with fail
          refine ⟨trivial, ?_⟩
          refine (CallsIn.inRound l' (callsIn_wide.2 (HNw.out _ HRi.out.pf))).mono ?_
          rintro e Xa ⟨rfl, hba⟩
          have HRa := hide (HRi.out.upto hba)
          have HXa := hide (boxed_upto HXi.out hba HXi.out.lt)
          have HTa := hide (hT'.out.upto hba)
          have HCa := hide ((hba.block _ (Array.getElem?_eq_some_iff.1 HCi.out).1).trans HCi.out)
          have HBa := hide hba
          clear hba t0 t1 x0
          cases rb
          · have hold : lbS (stI car wd N s) (adI wd) st k = st := lbS_old (fun h => by have := Hnw.out.2 h; cases this)
            have HOld := hide hold
            clear hold
            gi_wp2_with fail
            refine ⟨(keeps_below HBa.out).from _, HCa.out.trans HCi.out.symm, ⟨⟨⟨⟨.slice a7 st.2.length cap7, ?_⟩, HXa.out⟩, HCa.out⟩, ?_⟩⟩
            · rw [Hsn.out, HOld.out]; exact HRa.out
            · have := HzX.out; have := HBa.out.size; omega
          · have HFi2 := hide (HFi.out rfl)
            have Hn1 := hide (Hnw.out.1 (by first | rfl | trivial))
            have HRb := hide (HRa.out.upto (Below.refl _ Xa).drew)
            have HXb : Hid (Boxed Xa.drew w.heap.size 33 (ptr p)) := hide HXa.out
            have HTb : Hid (TwB Xa.drew Bx kx ky) := hide HTa.out
            have HCb : Hid (Xa.drew.heap[V.heap.size]? = some (.cells #[.int .i64 0, .int .i64 0, .int .i64 wd, .int .i64 ht] 48 (0, 0))) := hide HCa.out
            have HSx : Hid (∀ wx st', Rk w wx p f q cl ep wd ht N car s b2 w0.heap.size (.slice a7 st.2.length cap7) st' → Boxed wx w.heap.size 33 (ptr p) → TwB wx Bx kx ky → (wx.cell? ⟨w.heap.size, 0, none⟩ = some (ptr p) ∧ wx.cell? ⟨p, 7, none⟩ = some (.slice a7 st.2.length cap7)) ∧ wx.cell? ⟨Bx, 0, none⟩ = some (.int .i64 kx) ∧ wx.cell? ⟨Bx, 1, none⟩ = some (.int .i64 ky)) := hide fun wx st' h1 h2 h3 => ⟨⟨h2.cell, h1.pf.pd.c 7⟩, h3.two⟩
            clear HFi HNw
            gi_wp2_with fail
            refine wpIn_only ?_
            refine wpIn_region_heldR (S := fun wx => (wx.cell? ⟨w.heap.size, 0, none⟩ = some (ptr p) ∧ wx.cell? ⟨p, 7, none⟩ = some (.slice a7 st.2.length cap7)) ∧ wx.cell? ⟨Bx, 0, none⟩ = some (.int .i64 kx) ∧ wx.cell? ⟨Bx, 1, none⟩ = some (.int .i64 ky)) only_in (by kernel_rfl) (by kernel_rfl) (HSx.out _ _ HRb.out HXb.out HTb.out) (fun hHeld => ?_)
            refine wpAnyH_take (i := 0) (v := ?_) rfl (by kernel_rfl) (by kernel_rfl) (by kernel_rfl) (fun _ _ _ h => h.elim) (Or.inl ⟨by rfl, ?_⟩) (by assumption) ?_
            rotate_left
            · intro wx hSw
              try dsimp only at hSw
              go_simp
              try with_reducible rfl
            try simp only [Act.put, List.getElem_toArray, List.getElem_cons_zero, List.getElem_cons_succ, List.setIfInBounds_toArray, List.set_cons_zero, List.set_cons_succ]
            refine wpAnyH_take (i := 1) (v := ?_) rfl (by kernel_rfl) (by kernel_rfl) (by kernel_rfl) (fun _ _ _ h => h.elim) (Or.inl ⟨by rfl, ?_⟩) (by assumption) ?_
            rotate_left
            · intro wx hSw
              try dsimp only at hSw
              go_simp
              try with_reducible rfl
            try simp only [Act.put, List.getElem_toArray, List.getElem_cons_zero, List.getElem_cons_succ, List.setIfInBounds_toArray, List.set_cons_zero, List.set_cons_succ]
            refine wpAnyH_take (i := 2) (v := ?_) rfl (by kernel_rfl) (by kernel_rfl) (by kernel_rfl) (fun _ _ _ h => h.elim) (Or.inl ⟨by rfl, ?_⟩) (by assumption) ?_
            rotate_left
            · intro wx hSw
              try dsimp only at hSw
              go_simp
              try with_reducible rfl
            try simp only [Act.put, List.getElem_toArray, List.getElem_cons_zero, List.getElem_cons_succ, List.setIfInBounds_toArray, List.set_cons_zero, List.set_cons_succ]
            refine wpAnyH_take (i := 3) (v := ?_) rfl (by kernel_rfl) (by kernel_rfl) (by kernel_rfl) (fun _ _ _ h => h.elim) (Or.inl ⟨by rfl, ?_⟩) (by assumption) ?_
            rotate_left
            · intro wx hSw
              try dsimp only at hSw
              go_simp
              try with_reducible rfl
            try simp only [Act.put, List.getElem_toArray, List.getElem_cons_zero, List.getElem_cons_succ, List.setIfInBounds_toArray, List.set_cons_zero, List.set_cons_succ]
            refine wpAnyH_take (i := 4) (v := ?_) rfl (by kernel_rfl) (by kernel_rfl) (by kernel_rfl) (fun _ _ _ h => h.elim) (Or.inl ⟨by rfl, ?_⟩) (by assumption) ?_
            rotate_left
            · intro wx hSw
              try dsimp only at hSw
              go_simp
              try with_reducible rfl
            try simp only [Act.put, List.getElem_toArray, List.getElem_cons_zero, List.getElem_cons_succ, List.setIfInBounds_toArray, List.set_cons_zero, List.set_cons_succ]
            refine wpAnyH_take (i := 5) (v := ?_) rfl (by kernel_rfl) (by kernel_rfl) (by kernel_rfl) (fun _ _ _ h => h.elim) (Or.inl ⟨by rfl, ?_⟩) (by assumption) ?_
            rotate_left
            · intro wx hSw
              try dsimp only at hSw
              go_simp
              try with_reducible rfl
            try simp only [Act.put, List.getElem_toArray, List.getElem_cons_zero, List.getElem_cons_succ, List.setIfInBounds_toArray, List.set_cons_zero, List.set_cons_succ]
            refine wpAnyH_take (i := 6) (v := ?_) rfl (by kernel_rfl) (by kernel_rfl) (by kernel_rfl) (fun _ _ _ h => h.elim) (Or.inl ⟨by rfl, ?_⟩) (by assumption) ?_
            rotate_left
            · intro wx hSw
              try dsimp only at hSw
              go_simp
              try with_reducible rfl
            try simp only [Act.put, List.getElem_toArray, List.getElem_cons_zero, List.getElem_cons_succ, List.setIfInBounds_toArray, List.set_cons_zero, List.set_cons_succ]
            refine wpAnyH_take (i := 7) (v := ?_) rfl (by kernel_rfl) (by kernel_rfl) (by kernel_rfl) (fun _ _ _ h => h.elim) (Or.inl ⟨by rfl, ?_⟩) (by assumption) ?_
            rotate_left
            · intro wx hSw
              try dsimp only at hSw
              go_simp
              try with_reducible rfl
            try simp only [Act.put, List.getElem_toArray, List.getElem_cons_zero, List.getElem_cons_succ, List.setIfInBounds_toArray, List.set_cons_zero, List.set_cons_succ]
            refine wpAnyH_ready (rs := [8]) (by kernel_rfl) (by simp) ?_
            refine AllReadyH.cons rfl (fun K hK => ?_) ?_
            · go_simp
              refine (HFi2.out _ HRb.out).mono ?_
              rintro e' X5 ⟨ls, rfl, ⟨hnd, hls⟩, hp5, ht5⟩
              have HR5 := hide (HRb.out.fill hp5 ht5)
              have HX5 := hide (boxed_kept HXb.out ht5 (by have := Hz0.out; omega))
              have HT5 := hide (HTb.out.kept ht5 (by have := Hz4.out; omega))
              have HC5 := hide (ht5.same (S := fun k => k = w0.heap.size) (by omega) HCb.out)
              have hls2 := szC_len (St := stI car wd N s) (Ad := adI wd) (N := N) (k := k) (fun i hi => stI_lt i hi) hnd hls
              have hov := ov_lbS Hn1.out hls
              have hlz : ls.length ≤ 16384 := by have := szC_le (St := stI car wd N s) (Ad := adI wd) N k; omega
              have HLs := hide hls2
              have Hov := hide hov
              have HT5t := hide ht5
              clear hp5 ht5 hls hnd hls2 hov
              refine hK.out _ _ ?_ (fun hHeld => ?_)
              · first | with_reducible exact HSx.out _ _ HRb.out HXb.out HTb.out | with_reducible exact HSx.out _ _ HR5.out HX5.out HT5.out
              clear hK K
              try simp only [Act.put, List.getElem_toArray, List.getElem_cons_zero, List.getElem_cons_succ, List.setIfInBounds_toArray, List.set_cons_zero, List.set_cons_succ]
              refine wpAnyH_ready (rs := [9]) (by kernel_rfl) (by simp) ?_
              refine AllReadyH.cons rfl (fun K hK => ?_) ?_
              · go_simp
                refine hK.out _ _ ?_ (fun hHeld => ?_)
                · first | with_reducible exact HSx.out _ _ HRb.out HXb.out HTb.out | with_reducible exact HSx.out _ _ HR5.out HX5.out HT5.out
                clear hK K
                try simp only [Act.put, List.getElem_toArray, List.getElem_cons_zero, List.getElem_cons_succ, List.setIfInBounds_toArray, List.set_cons_zero, List.set_cons_succ]
                refine wpAnyH_done (by kernel_rfl) ?_ _
                dsimp only [Only, Exit.then]
                gi_wp2_with fail
                have HB6a : Hid (Below X5.heap.size X5 (X5.alloc (.cells #[.int .i64 kx, .int .i64 ky, .int .i64 (ls.length : Nat)] 108)).drew) := hide ((box1 X5 (.cells #[.int .i64 kx, .int .i64 ky, .int .i64 (ls.length : Nat)] 108)).drew)
                obtain ⟨X6, hX6⟩ : ∃ X6, (X5.alloc (.cells #[.int .i64 kx, .int .i64 ky, .int .i64 (ls.length : Nat)] 108)).drew = X6 := ⟨_, rfl⟩
                have HCn : Hid (∀ i u, (cP wd (k, szC (stI car wd N s) (adI wd) N k))[i]? = some u → X6.cell? ((⟨X5.heap.size, 0, none⟩ : Addr).add i) = some u) := hide (by
                  have := cP_new X5 wd (k, szC (stI car wd N s) (adI wd) N k) 108
                  simp only [Hkx.out, Hky.out, ← HLs.out] at this
                  rw [← hX6, ← HLs.out]
                  exact this)
                rw [hX6] at HB6a
                have HB6 : Hid (Below X5.heap.size X5 X6) := HB6a
                have HR6 := hide (HR5.out.upto HB6.out)
                have HX6 := hide (boxed_upto HX5.out HB6.out HX5.out.lt)
                have HT6 := hide (HT5.out.upto HB6.out)
                have HC6 := hide ((HB6.out.block _ (Array.getElem?_eq_some_iff.1 HC5.out).1).trans HC5.out)
                have HX6e := hide hX6
                have c7a : X5.cell? ⟨p, 7, none⟩ = some (.slice a7 st.2.length cap7) := HR5.out.pf.pd.c 7
                have c7b : X6.cell? ⟨p, 7, none⟩ = some (.slice a7 st.2.length cap7) := HR6.out.pf.pd.c 7
                obtain ⟨fi, hf, hz9, h1, h8⟩ := info_parts info95
                have hpl9 : (prS (stI car wd N s) (adI wd) N st.2).length ≤ 16384 := by rw [hstl]; omega
                have hm1 : (prS (stI car wd N s) (adI wd) N st.2).length + 1 ≤ maxLen := by unfold maxLen; omega
                have hm2 : ((prS (stI car wd N s) (adI wd) N st.2).length + 1) * 24 ≤ 140737488355328 := by omega
                have HSy : Hid (∀ wx, Boxed wx w.heap.size 33 (ptr p) → TwB wx Bx kx ky → wx.cell? ⟨w.heap.size, 0, none⟩ = some (ptr p) ∧ wx.cell? ⟨Bx, 0, none⟩ = some (.int .i64 kx) ∧ wx.cell? ⟨Bx, 1, none⟩ = some (.int .i64 ky)) := hide fun wx h2 h3 => ⟨h2.cell, h3.two⟩
                have HX5d : Hid (Boxed X5.drew w.heap.size 33 (ptr p)) := hide HX5.out
                have HT5d : Hid (TwB X5.drew Bx kx ky) := hide HT5.out
                clear hX6 hpl9 HB6a hHeld
                refine wpIn_only ?_
                refine wpIn_region_heldR (S := fun wx => wx.cell? ⟨w.heap.size, 0, none⟩ = some (ptr p) ∧ wx.cell? ⟨Bx, 0, none⟩ = some (.int .i64 kx) ∧ wx.cell? ⟨Bx, 1, none⟩ = some (.int .i64 ky)) only_in (by kernel_rfl) (by kernel_rfl) (HSy.out X5.drew HX5d.out HT5d.out) (fun hHeld => ?_)
                refine wpAnyH_take (i := 0) (v := ?_) rfl (by kernel_rfl) (by kernel_rfl) (by kernel_rfl) (fun _ _ _ h => h.elim) (Or.inl ⟨by rfl, ?_⟩) (by assumption) ?_
                rotate_left
                · intro wx hSw
                  try dsimp only at hSw
                  go_simp
                  try with_reducible rfl
                try simp only [Act.put, List.getElem_toArray, List.getElem_cons_zero, List.getElem_cons_succ, List.setIfInBounds_toArray, List.set_cons_zero, List.set_cons_succ]
                refine wpAnyH_take (i := 1) (v := ?_) rfl (by kernel_rfl) (by kernel_rfl) (by kernel_rfl) (fun _ _ _ h => h.elim) (Or.inl ⟨by rfl, ?_⟩) (by assumption) ?_
                rotate_left
                · intro wx hSw
                  try dsimp only at hSw
                  go_simp
                  try with_reducible rfl
                try simp only [Act.put, List.getElem_toArray, List.getElem_cons_zero, List.getElem_cons_succ, List.setIfInBounds_toArray, List.set_cons_zero, List.set_cons_succ]
                refine wpAnyH_take (i := 2) (v := ?_) rfl (by kernel_rfl) (by kernel_rfl) (by kernel_rfl) (fun _ _ _ h => h.elim) (Or.inl ⟨by rfl, ?_⟩) (by assumption) ?_
                rotate_left
                · intro wx hSw
                  try dsimp only at hSw
                  go_simp
                  try with_reducible rfl
                try simp only [Act.put, List.getElem_toArray, List.getElem_cons_zero, List.getElem_cons_succ, List.setIfInBounds_toArray, List.set_cons_zero, List.set_cons_succ]
                refine wpAnyH_take (i := 3) (v := ?_) rfl (by kernel_rfl) (by kernel_rfl) (by kernel_rfl) (fun _ _ _ h => h.elim) (Or.inl ⟨by rfl, ?_⟩) (by assumption) ?_
                rotate_left
                · intro wx hSw
                  try dsimp only at hSw
                  go_simp
                  try with_reducible rfl
                try simp only [Act.put, List.getElem_toArray, List.getElem_cons_zero, List.getElem_cons_succ, List.setIfInBounds_toArray, List.set_cons_zero, List.set_cons_succ]
                refine wpAnyH_take (i := 5) (v := ?_) rfl (by kernel_rfl) (by kernel_rfl) (by kernel_rfl) (fun _ _ _ h => h.elim) (Or.inl ⟨by rfl, ?_⟩) (by assumption) ?_
                rotate_left
                · intro wx hSw
                  try dsimp only at hSw
                  go_simp
                  try with_reducible rfl
                try simp only [Act.put, List.getElem_toArray, List.getElem_cons_zero, List.getElem_cons_succ, List.setIfInBounds_toArray, List.set_cons_zero, List.set_cons_succ]
                refine wpAnyH_take (i := 6) (v := ?_) rfl (by kernel_rfl) (by kernel_rfl) (by kernel_rfl) (fun _ _ _ h => h.elim) (Or.inl ⟨by rfl, ?_⟩) (by assumption) ?_
                rotate_left
                · intro wx hSw
                  try dsimp only at hSw
                  go_simp
                  try with_reducible rfl
                try simp only [Act.put, List.getElem_toArray, List.getElem_cons_zero, List.getElem_cons_succ, List.setIfInBounds_toArray, List.set_cons_zero, List.set_cons_succ]
                refine wpAnyH_take (i := 7) (v := ?_) rfl (by kernel_rfl) (by kernel_rfl) (by kernel_rfl) (fun _ _ _ h => h.elim) (Or.inl ⟨by rfl, ?_⟩) (by assumption) ?_
                rotate_left
                · intro wx hSw
                  try dsimp only at hSw
                  go_simp
                  try with_reducible rfl
                try simp only [Act.put, List.getElem_toArray, List.getElem_cons_zero, List.getElem_cons_succ, List.setIfInBounds_toArray, List.set_cons_zero, List.set_cons_succ]
                refine wpAnyH_ready (rs := [4, 8]) (by kernel_rfl) (by simp) ?_
                refine AllReadyH.cons rfl (fun K hK => ?_) ?_
                · go_simp
                  refine hK.out _ _ ?_ (fun hHeld => ?_)
                  · first | with_reducible exact HSy.out _ HX5d.out HT5d.out | with_reducible exact HSy.out _ HX6.out HT6.out | with_reducible exact HSy.out _ HX7.out HT7.out | with_reducible exact HSy.out _ HX8.out HT8.out
                  clear hK K
                  try simp only [Act.put, List.getElem_toArray, List.getElem_cons_zero, List.getElem_cons_succ, List.setIfInBounds_toArray, List.set_cons_zero, List.set_cons_succ]
                  refine wpAnyH_ready (rs := [8]) (by kernel_rfl) (by simp) ?_
                  refine AllReadyH.cons rfl (fun K hK => ?_) ?_
                  · go_simp
                    try rw [HX6e.out]
                    refine hK.out _ _ ?_ (fun hHeld => ?_)
                    · first | with_reducible exact HSy.out _ HX5d.out HT5d.out | with_reducible exact HSy.out _ HX6.out HT6.out | with_reducible exact HSy.out _ HX7.out HT7.out | with_reducible exact HSy.out _ HX8.out HT8.out
                    clear hK K
                    try simp only [Act.put, List.getElem_toArray, List.getElem_cons_zero, List.getElem_cons_succ, List.setIfInBounds_toArray, List.set_cons_zero, List.set_cons_succ]
                    refine wpAnyH_ready (rs := [9]) (by kernel_rfl) (by simp) ?_
                    refine AllReadyH.cons rfl (fun K hK => ?_) ?_
                    · refine step_append_row rfl _ _ 66 rfl 108 fi (.agg #[.int .i64 0, .int .i64 0, .int .i64 0]) 3 24 Tryz.underlying66 hf hz9 h1 h8 rfl (by decide) (.slice a7 st.2.length cap7) _ _ (by simp [Act.eval]) HR6.out.row ⟨X5.heap.size, 0, none⟩ 1 1 (cP wd (k, szC (stI car wd N s) (adI wd) N k)) (by simp [Act.eval]) rfl HCn.out (cP_one wd _) hm1 hm2 ?_
                      intro v7 X7 hown hgrow hloc
                      obtain ⟨P7, T7, R8⟩ := HR6.out.grow (k := k) hown hgrow hloc
                      obtain ⟨a8, cap8, hv8, -, -⟩ := R8.row.form (cP_len wd)
                      subst hv8
                      obtain ⟨l8, hl8⟩ : ∃ l8, (prS (stI car wd N s) (adI wd) N (((ov st.1 (st.2.length + 1) ls, st.2) : (Nat → Nat) × List Nat).2 ++ [k])).length = l8 := ⟨_, rfl⟩
                      rw [hl8] at R8 hown hloc ⊢
                      have HX7 := hide (boxed_kept HX6.out T7 (fun e => HR6.out.row.ne e HX6.out (by decide) rfl))
                      have HT7 := hide (HT6.out.kept T7 (fun e => HR6.out.row.ne e HT6.out (by decide) rfl))
                      have HC7 := hide (T7.same (fun e => HR6.out.row.ne e HC6.out (by decide) rfl) HC6.out)
                      have HP7 := hide P7
                      have f7 := P7.fz 7
                      have c7 : X7.cell? ⟨p, 7, none⟩ = some (.slice a7 st.2.length cap7) := P7.c 7
                      have HR8 := hide R8
                      have HT7t := hide T7
                      clear hown hgrow hloc P7 T7 R8
                      refine hK.out _ _ ?_ (fun hHeld => ?_)
                      · first | with_reducible exact HSy.out _ HX5d.out HT5d.out | with_reducible exact HSy.out _ HX6.out HT6.out | with_reducible exact HSy.out _ HX7.out HT7.out | with_reducible exact HSy.out _ HX8.out HT8.out
                      clear hK K
                      try simp only [Act.put, List.getElem_toArray, List.getElem_cons_zero, List.getElem_cons_succ, List.setIfInBounds_toArray, List.set_cons_zero, List.set_cons_succ]
                      refine wpAnyH_take (i := 10) (v := ?_) rfl (by kernel_rfl) (by kernel_rfl) (by kernel_rfl) (fun _ _ _ h => h.elim) (Or.inl ⟨by rfl, ?_⟩) (by assumption) ?_
                      rotate_left
                      · intro wx hSw
                        try dsimp only at hSw
                        go_simp
                        try with_reducible rfl
                      try simp only [Act.put, List.getElem_toArray, List.getElem_cons_zero, List.getElem_cons_succ, List.setIfInBounds_toArray, List.set_cons_zero, List.set_cons_succ]
                      refine wpAnyH_take (i := 11) (v := ?_) rfl (by kernel_rfl) (by kernel_rfl) (by kernel_rfl) (fun _ _ _ h => h.elim) (Or.inl ⟨by rfl, ?_⟩) (by assumption) ?_
                      rotate_left
                      · intro wx hSw
                        try dsimp only at hSw
                        go_simp
                        try with_reducible rfl
                      try simp only [Act.put, List.getElem_toArray, List.getElem_cons_zero, List.getElem_cons_succ, List.setIfInBounds_toArray, List.set_cons_zero, List.set_cons_succ]
                      refine wpAnyH_ready (rs := [12]) (by kernel_rfl) (by simp) ?_
                      refine AllReadyH.cons rfl (fun K hK => ?_) ?_
                      · go_simp
                        have TS8 : Turns (fun k => k = p) X7 (X7.setCell ⟨p, 7, none⟩ (.slice a8 l8 cap8)) := Turns.set (S := fun k => k = p) X7 (p := ⟨p, 7, none⟩) rfl _
                        have HX8 := hide (boxed_kept HX7.out TS8 (by omega))
                        have HT8 := hide (HT7.out.kept TS8 (by have := Hz0.out; have := Hz4.out; omega))
                        have HC8 := hide (TS8.same (S := fun k => k = p) (by have := Hz0.out; omega) HC7.out)
                        have HTS8 := hide TS8
                        clear TS8
                        refine hK.out _ _ ?_ (fun hHeld => ?_)
                        · first | with_reducible exact HSy.out _ HX5d.out HT5d.out | with_reducible exact HSy.out _ HX6.out HT6.out | with_reducible exact HSy.out _ HX7.out HT7.out | with_reducible exact HSy.out _ HX8.out HT8.out
                        clear hK K
                        try simp only [Act.put, List.getElem_toArray, List.getElem_cons_zero, List.getElem_cons_succ, List.setIfInBounds_toArray, List.set_cons_zero, List.set_cons_succ]
                        refine wpAnyH_done (by kernel_rfl) ?_ _
                        dsimp only [Only, Exit.then]
                        gi_wp2_with fail
                        have k1 : KeepsFrom w4.heap.size X X5 := (keeps_below (bt HBa.out (Below.refl _ Xa).drew)).from _ |>.trans (keepsFrom_turns HT5t.out (fun j e => by rw [e]; exact ⟨_, _, HRb.out.pf.nm⟩))
                        have k2 : KeepsFrom w4.heap.size X5 X7 := ((keeps_below HB6.out).from _).trans (keepsFrom_turns HT7t.out (fun j e => by obtain ⟨c, hc⟩ := HR6.out.row.blk e; exact ⟨c, _, hc⟩))
                        have k3 : KeepsFrom w4.heap.size X7 (X7.setCell ⟨p, 7, none⟩ (.slice a8 l8 cap8)) := keepsFrom_turns HTS8.out (fun j e => by rw [e]; exact ⟨_, _, HP7.out⟩)
                        refine ⟨(k1.trans k2).trans k3, HC8.out.trans HCi.out.symm, ⟨⟨⟨⟨.slice a8 l8 cap8, ?_⟩, HX8.out⟩, HC8.out⟩, ?_⟩⟩
                        · rw [Hsn.out]
                          have := HR8.out
                          rw [Hov.out] at this
                          have e2 : (lbS (stI car wd N s) (adI wd) st k) = ((lbS (stI car wd N s) (adI wd) st k).1, st.2 ++ [k]) := by
                            rw [← (lbS_new (Ad := adI wd) Hn1.out).2.2]
                          rw [e2]
                          exact this
                        · have := k1.size
                          have := k2.size
                          have := k3.size
                          have := HzX.out
                          omega
                    
                      exact AllReadyH.nil
                    exact AllReadyH.nil
                  exact AllReadyH.nil
                refine AllReadyH.cons rfl (fun K hK => ?_) ?_
                · go_simp
                  try rw [HX6e.out]
                  refine hK.out _ _ ?_ (fun hHeld => ?_)
                  · first | with_reducible exact HSy.out _ HX5d.out HT5d.out | with_reducible exact HSy.out _ HX6.out HT6.out | with_reducible exact HSy.out _ HX7.out HT7.out | with_reducible exact HSy.out _ HX8.out HT8.out
                  clear hK K
                  try simp only [Act.put, List.getElem_toArray, List.getElem_cons_zero, List.getElem_cons_succ, List.setIfInBounds_toArray, List.set_cons_zero, List.set_cons_succ]
                  refine wpAnyH_ready (rs := [4]) (by kernel_rfl) (by simp) ?_
                  refine AllReadyH.cons rfl (fun K hK => ?_) ?_
                  · go_simp
                    refine hK.out _ _ ?_ (fun hHeld => ?_)
                    · first | with_reducible exact HSy.out _ HX5d.out HT5d.out | with_reducible exact HSy.out _ HX6.out HT6.out | with_reducible exact HSy.out _ HX7.out HT7.out | with_reducible exact HSy.out _ HX8.out HT8.out
                    clear hK K
                    try simp only [Act.put, List.getElem_toArray, List.getElem_cons_zero, List.getElem_cons_succ, List.setIfInBounds_toArray, List.set_cons_zero, List.set_cons_succ]
                    refine wpAnyH_ready (rs := [9]) (by kernel_rfl) (by simp) ?_
                    refine AllReadyH.cons rfl (fun K hK => ?_) ?_
                    · refine step_append_row rfl _ _ 66 rfl 108 fi (.agg #[.int .i64 0, .int .i64 0, .int .i64 0]) 3 24 Tryz.underlying66 hf hz9 h1 h8 rfl (by decide) (.slice a7 st.2.length cap7) _ _ (by simp [Act.eval]) HR6.out.row ⟨X5.heap.size, 0, none⟩ 1 1 (cP wd (k, szC (stI car wd N s) (adI wd) N k)) (by simp [Act.eval]) rfl HCn.out (cP_one wd _) hm1 hm2 ?_
                      intro v7 X7 hown hgrow hloc
                      obtain ⟨P7, T7, R8⟩ := HR6.out.grow (k := k) hown hgrow hloc
                      obtain ⟨a8, cap8, hv8, -, -⟩ := R8.row.form (cP_len wd)
                      subst hv8
                      obtain ⟨l8, hl8⟩ : ∃ l8, (prS (stI car wd N s) (adI wd) N (((ov st.1 (st.2.length + 1) ls, st.2) : (Nat → Nat) × List Nat).2 ++ [k])).length = l8 := ⟨_, rfl⟩
                      rw [hl8] at R8 hown hloc ⊢
                      have HX7 := hide (boxed_kept HX6.out T7 (fun e => HR6.out.row.ne e HX6.out (by decide) rfl))
                      have HT7 := hide (HT6.out.kept T7 (fun e => HR6.out.row.ne e HT6.out (by decide) rfl))
                      have HC7 := hide (T7.same (fun e => HR6.out.row.ne e HC6.out (by decide) rfl) HC6.out)
                      have HP7 := hide P7
                      have f7 := P7.fz 7
                      have c7 : X7.cell? ⟨p, 7, none⟩ = some (.slice a7 st.2.length cap7) := P7.c 7
                      have HR8 := hide R8
                      have HT7t := hide T7
                      clear hown hgrow hloc P7 T7 R8
                      refine hK.out _ _ ?_ (fun hHeld => ?_)
                      · first | with_reducible exact HSy.out _ HX5d.out HT5d.out | with_reducible exact HSy.out _ HX6.out HT6.out | with_reducible exact HSy.out _ HX7.out HT7.out | with_reducible exact HSy.out _ HX8.out HT8.out
                      clear hK K
                      try simp only [Act.put, List.getElem_toArray, List.getElem_cons_zero, List.getElem_cons_succ, List.setIfInBounds_toArray, List.set_cons_zero, List.set_cons_succ]
                      refine wpAnyH_take (i := 10) (v := ?_) rfl (by kernel_rfl) (by kernel_rfl) (by kernel_rfl) (fun _ _ _ h => h.elim) (Or.inl ⟨by rfl, ?_⟩) (by assumption) ?_
                      rotate_left
                      · intro wx hSw
                        try dsimp only at hSw
                        go_simp
                        try with_reducible rfl
                      try simp only [Act.put, List.getElem_toArray, List.getElem_cons_zero, List.getElem_cons_succ, List.setIfInBounds_toArray, List.set_cons_zero, List.set_cons_succ]
                      refine wpAnyH_take (i := 11) (v := ?_) rfl (by kernel_rfl) (by kernel_rfl) (by kernel_rfl) (fun _ _ _ h => h.elim) (Or.inl ⟨by rfl, ?_⟩) (by assumption) ?_
                      rotate_left
                      · intro wx hSw
                        try dsimp only at hSw
                        go_simp
                        try with_reducible rfl
                      try simp only [Act.put, List.getElem_toArray, List.getElem_cons_zero, List.getElem_cons_succ, List.setIfInBounds_toArray, List.set_cons_zero, List.set_cons_succ]
                      refine wpAnyH_ready (rs := [12]) (by kernel_rfl) (by simp) ?_
                      refine AllReadyH.cons rfl (fun K hK => ?_) ?_
                      · go_simp
                        have TS8 : Turns (fun k => k = p) X7 (X7.setCell ⟨p, 7, none⟩ (.slice a8 l8 cap8)) := Turns.set (S := fun k => k = p) X7 (p := ⟨p, 7, none⟩) rfl _
                        have HX8 := hide (boxed_kept HX7.out TS8 (by omega))
                        have HT8 := hide (HT7.out.kept TS8 (by have := Hz0.out; have := Hz4.out; omega))
                        have HC8 := hide (TS8.same (S := fun k => k = p) (by have := Hz0.out; omega) HC7.out)
                        have HTS8 := hide TS8
                        clear TS8
                        refine hK.out _ _ ?_ (fun hHeld => ?_)
                        · first | with_reducible exact HSy.out _ HX5d.out HT5d.out | with_reducible exact HSy.out _ HX6.out HT6.out | with_reducible exact HSy.out _ HX7.out HT7.out | with_reducible exact HSy.out _ HX8.out HT8.out
                        clear hK K
                        try simp only [Act.put, List.getElem_toArray, List.getElem_cons_zero, List.getElem_cons_succ, List.setIfInBounds_toArray, List.set_cons_zero, List.set_cons_succ]
                        refine wpAnyH_done (by kernel_rfl) ?_ _
                        dsimp only [Only, Exit.then]
                        gi_wp2_with fail
                        have k1 : KeepsFrom w4.heap.size X X5 := (keeps_below (bt HBa.out (Below.refl _ Xa).drew)).from _ |>.trans (keepsFrom_turns HT5t.out (fun j e => by rw [e]; exact ⟨_, _, HRb.out.pf.nm⟩))
                        have k2 : KeepsFrom w4.heap.size X5 X7 := ((keeps_below HB6.out).from _).trans (keepsFrom_turns HT7t.out (fun j e => by obtain ⟨c, hc⟩ := HR6.out.row.blk e; exact ⟨c, _, hc⟩))
                        have k3 : KeepsFrom w4.heap.size X7 (X7.setCell ⟨p, 7, none⟩ (.slice a8 l8 cap8)) := keepsFrom_turns HTS8.out (fun j e => by rw [e]; exact ⟨_, _, HP7.out⟩)
                        refine ⟨(k1.trans k2).trans k3, HC8.out.trans HCi.out.symm, ⟨⟨⟨⟨.slice a8 l8 cap8, ?_⟩, HX8.out⟩, HC8.out⟩, ?_⟩⟩
                        · rw [Hsn.out]
                          have := HR8.out
                          rw [Hov.out] at this
                          have e2 : (lbS (stI car wd N s) (adI wd) st k) = ((lbS (stI car wd N s) (adI wd) st k).1, st.2 ++ [k]) := by
                            rw [← (lbS_new (Ad := adI wd) Hn1.out).2.2]
                          rw [e2]
                          exact this
                        · have := k1.size
                          have := k2.size
                          have := k3.size
                          have := HzX.out
                          omega
                    
                      exact AllReadyH.nil
                    exact AllReadyH.nil
                  exact AllReadyH.nil
                exact AllReadyH.nil
                
              exact AllReadyH.nil
            exact AllReadyH.nil
        case done =>
          rintro D xs W hD rfl ⟨⟨⟨⟨pv', hR⟩, hX⟩, hC⟩, hz⟩ hK
          have hN9 : (List.finRange (ht * wd)).map Fin.val = List.range N := by rw [HNc.out]; exact List.ext_getElem (by simp) (fun i h1 h2 => by simp)
          rw [hN9, lbF_range] at hR
          have TD : W.grownBy (W.putObj D (.deferred none)) (some D) := grownBy_putObj' W D (.deferred none)
          have hR2 := hR.ownT TD (fun r e => by cases e; exact ⟨by omega, _, hK, rfl⟩)
          have HR := hide hR2
          clear hR hR2 hN9
          gi_wp2_with fail
          refine ⟨by simp, .inl ⟨_, _, rfl, run_takeDeferred hK, ?_⟩⟩
          exact ⟨.tuple #[], by simp [results, Tryz.f17, go_sem], _, _, rfl, HR.out⟩
        case stop =>
          rintro D c pre W hD hpre hIx hK
          exact hIx.elim
    
      exact AllReadyH.nil
    exact AllReadyH.nil
  exact AllReadyH.nil
end Go.Proofs.YtoheibfijpdmfaaGreatDoor
set_option linter.unusedSimpArgs false
namespace Go.Proofs.YtoheibfijpdmfaaGreatDoor
open Go.RowKit Go.Shelf
set_option linter.unusedSectionVars false
variable [DecCn : ∀ (St : Nat → Bool) (Ad : Nat → Nat → Prop) (k i : Nat), Decidable (Cn St Ad k i)]
set_option linter.unusedVariables false
set_option maxRecDepth 100000 in
set_option maxHeartbeats 8000000 in
theorem fnew_own {w : World} {q n : Nat} {wd ht : Nat} {tl : List Nat} {f : Int → Int → Option Int} (cl : Int) (hw : Wl w q wd ht tl f) (he : Ep w q n) (hg : Grnd w) (ho : Offs w) (hc : isC cl = true) :
    Calls Tryz.prog 15 #[ptr q, .int .i64 cl] w fun e w' => ∃ p b, e = .returned (.tuple #[ptr p, .int .i64 0]) ∧ (Fd w' p q cl wd ht b (wd * ht) (n : Nat) ∧ Szs w' b ((List.range (wd * ht)).map (clrK (carB wd ht tl f cl) wd))) ∧ Below w.heap.size w w' ∧ w.heap.size ≤ b ∧ w.heap.size ≤ p := by
  obtain ⟨hW, hH⟩ := mt_gs hw.1.1
  simp only [gs, decide_eq_true_eq] at hW hH
  have hwd : (1 ≤ wd ∧ wd ≤ 128) ∧ 1 ≤ ht ∧ ht ≤ 128 := by omega
  have hm : may 0 0 (wd : Int) (ht : Int) = true := by rw [may_iff]; omega
  obtain ⟨N, hN⟩ : ∃ N, N = wd * ht := ⟨_, rfl⟩
  have hN2 : N ≤ 16384 := by have := Nat.mul_le_mul hwd.1.2 hwd.2.2; omega
  have hmul : IntKind.i64.wrap ((wd : Int) * (ht : Int)) = (N : Nat) := by
    rw [show (wd : Int) * (ht : Int) = ((wd * ht : Nat) : Int) by push_cast; rfl, ← hN]
    exact wrap_nat hN2
  have HA := hide (all_is hw)
  have HC := hide hc
  have HE : Hid (∀ wx, Below w.heap.size w wx → Calls Tryz.prog 40 #[ptr q] wx fun e w' => e = .returned (.int .i64 (n : Nat)) ∧ w' = wx) := hide fun wx hx => epoch_is (he.kept hx)
  have HK : Hid (∀ wx, Below w.heap.size w wx → Wl wx q wd ht tl f ∧ Grnd wx ∧ Offs wx) := hide fun wx hx => ⟨hw.kept hx, hg.kept hx, ho.kept hx⟩
  rw [← hN]
  have HN := hide hN
  clear hw hc he hg ho hW hH hN
  go_enter Tryz.func15, Tryz.ntmps15
  go_wp2_with fail
  refine HA.out.mono ?_
  rintro e w1 ⟨rfl, hb1⟩
  go_wp2_with fail
  refine (may_is _ hm).mono ?_
  rintro e w2 ⟨rfl, hb2⟩
  have F2 : Four w2 w1.heap.size 0 0 wd ht := cells4 hb2
  have B2 := bt hb1 (bt (box1 _ _) hb2)
  clear hb2
  go_wp2_with fail
  refine (fclass_is _ HC.out).mono ?_
  rintro e X ⟨rfl, hb3⟩
  have FX := F2.kept hb3
  have BX := bt B2 hb3
  have zX := BX.size
  clear F2 B2 hb3
  go_wp2_with fail
  have HS : Hid (∀ wx, Below X.heap.size X wx → (wx.cell? ⟨w1.heap.size, 0, none⟩ = some (.int .i64 0) ∧ wx.cell? ⟨w1.heap.size, 1, none⟩ = some (.int .i64 0) ∧ wx.cell? ⟨w1.heap.size, 2, none⟩ = some (.int .i64 wd) ∧ wx.cell? ⟨w1.heap.size, 3, none⟩ = some (.int .i64 ht))) := hide fun wx hx => (FX.kept hx).1
  have hmk := make_sizes2 N hN2
  refine Code.wp_mono (Q := Only (fun a' w' => ∃ (p b : Nat) (u18 u19 u20 u21 u22 u23 u24 u25 u26 u27 u28 u29 : Value), ((Fd w' p q cl wd ht b N (n : Nat) ∧ Szs w' b (List.replicate N 0)) ∧ Below X.heap.size X w' ∧ X.heap.size ≤ b ∧ X.heap.size ≤ p) ∧ a' = { tmps := #[ptr q, .int .i64 cl, undef, undef, .pointer none, .int .i64 0, ptr w1.heap.size, ptr p, ptr q, rct 0 0 wd ht, rct 0 0 wd ht, .bool true, .bool false, .bool false, .int .i64 cl, .bool true, .bool false, .bool false, u18, u19, u20, u21, u22, u23, u24, u25, u26, u27, u28, u29, ptr p, undef, undef, undef, undef, undef], defers := [] })) ?rest ?_
  case rest =>
    rintro (_ | _ | _ | _ | _) a' w4 hO
    all_goals first | exact hO.elim | skip
    obtain ⟨p, b, u18, u19, u20, u21, u22, u23, u24, u25, u26, u27, u28, u29, ⟨⟨d4, s4⟩, B4, hb4, hp4⟩, rfl⟩ := hO
    obtain ⟨⟨f0, f1, f2, f3⟩, -, -⟩ := FX.kept B4
    obtain ⟨w5, hw5⟩ : ∃ w5, w4.alloc (.cells #[.int .i64 0, .int .i64 0, .int .i64 wd, .int .i64 ht] 48) = w5 := ⟨_, rfl⟩
    have B5 : Below w4.heap.size w4 w5 := by rw [← hw5]; exact box1 _ _
    have F5 : Four w5 w4.heap.size 0 0 wd ht := by rw [← hw5]; exact cells4 (Below.refl _ _)
    have R5 : RcB w5 (sl w4.heap.size 1) [⟨0, 0, wd, ht⟩] := ⟨some ⟨w4.heap.size, 0, none⟩, 1, rfl, by simp, fun i r hr => by
      match i with
      | 0 =>
        simp at hr
        subst hr
        exact ⟨w4.heap.size, rfl, F5.2.2, F5.1.1, F5.1.2.1, F5.1.2.2.1, F5.1.2.2.2⟩
      | j + 1 => simp at hr⟩
    have d5 := d4.upto B5
    have s5 := s4.upto B5
    have BW5 : Below w.heap.size w w5 := bt BX (bt B4 B5)
    have hbl : w.heap.size ≤ b := by omega
    have hpl : w.heap.size ≤ p := by omega
    have hE5 : ∀ Y, Turns (fun k => k = b) w5 Y → Wl Y q wd ht tl f ∧ Grnd Y ∧ Offs Y := fun Y hY => HK.out Y (BW5.trans (hY.below (B := w.heap.size) (fun k hk => by omega) BW5.size))
    have hwi : ∀ r ∈ ([⟨0, 0, wd, ht⟩] : List Rc), wi r.x r.y r.a r.b 0 0 wd ht = true := fun r hr => by
      simp at hr
      subst hr
      have h1 : has 0 0 (wd : Int) (ht : Int) 0 0 = true := by rw [has_iff]; exact ⟨hm, by omega⟩
      have h2 : has 0 0 (wd : Int) (ht : Int) (0 + wd - 1) (0 + ht - 1) = true := by rw [has_iff]; exact ⟨hm, by omega⟩
      simp only [wi, Bool.and_eq_true]
      exact ⟨hm, h1, h2⟩
    have HR := hide (reckon_any p q b N cl (n : Nat) wd ht (List.replicate N 0) tl f (sl w4.heap.size 1) [⟨0, 0, wd, ht⟩] w5 hwd HN.out d5 s5 (by simp) (fun u hu => by rw [(List.mem_replicate.1 hu).2]; omega) hE5 R5 (by simp) hwi)
    have hst := stL_right (W := wd) (H := ht) (l := List.replicate N 0) (rl := [⟨0, 0, wd, ht⟩]) HN.out hwd (fun x y h => car_has (tl := tl) (f := f) (c := cl) h) (by simp) (fun k hk h => by rw [mkR_all hwd.1.1 (by rw [← HN.out]; exact hk)] at h; cases h)
    rw [hst] at HR
    have HB := hide BW5
    have HD := hide d5
    have HW5 := hide hw5
    have hpb := d5.ne s5
    clear hst R5 hE5 hwi BW5 d5 s5 d4 s4 HK HE HA HC HS hmk hw5
    go_wp2_with fail
    rw [HW5.out]
    refine HR.out.mono ?_
    rintro e w6 ⟨rfl, s6, t6⟩
    have HD6 := hide (HD.out.kept t6 hpb)
    have HB6 := hide (HB.out.trans (t6.below (B := w.heap.size) (fun k hk => by omega) HB.out.size))
    have HS6 := hide s6
    clear HR s6 t6 f0 f1 f2 f3
    go_wp2_with fail
    go_ret2
    exact ⟨p, b, rfl, ⟨HD6.out, HS6.out⟩, HB6.out, hbl, hpl⟩
  refine wp_region_held_drew (S := fun wx => (wx.cell? ⟨w1.heap.size, 0, none⟩ = some (.int .i64 0) ∧ wx.cell? ⟨w1.heap.size, 1, none⟩ = some (.int .i64 0) ∧ wx.cell? ⟨w1.heap.size, 2, none⟩ = some (.int .i64 wd) ∧ wx.cell? ⟨w1.heap.size, 3, none⟩ = some (.int .i64 ht))) (by kernel_rfl) (HS.out _ (Below.refl _ _).drew) (fun hHeld => ?_)
  refine wpAnyH_take (i := 0) (v := ?_) rfl (by kernel_rfl) (by kernel_rfl) (by kernel_rfl) (fun _ _ _ h => h.elim) (Or.inl ⟨by rfl, ?_⟩) (by assumption) ?_
  rotate_left
  · intro wx hSw
    try dsimp only at hSw
    go_simp
    try with_reducible rfl
  try simp only [Act.put, List.getElem_toArray, List.getElem_cons_zero, List.getElem_cons_succ, List.setIfInBounds_toArray, List.set_cons_zero, List.set_cons_succ]
  refine wpAnyH_take (i := 1) (v := ?_) rfl (by kernel_rfl) (by kernel_rfl) (by kernel_rfl) (fun _ _ _ h => h.elim) (Or.inl ⟨by rfl, ?_⟩) (by assumption) ?_
  rotate_left
  · intro wx hSw
    try dsimp only at hSw
    go_simp
    try with_reducible rfl
  try simp only [Act.put, List.getElem_toArray, List.getElem_cons_zero, List.getElem_cons_succ, List.setIfInBounds_toArray, List.set_cons_zero, List.set_cons_succ]
  refine wpAnyH_take (i := 2) (v := ?_) rfl (by kernel_rfl) (by kernel_rfl) (by kernel_rfl) (fun _ _ _ h => h.elim) (Or.inl ⟨by rfl, ?_⟩) (by assumption) ?_
  rotate_left
  · intro wx hSw
    try dsimp only at hSw
    go_simp
    try with_reducible rfl
  try simp only [Act.put, List.getElem_toArray, List.getElem_cons_zero, List.getElem_cons_succ, List.setIfInBounds_toArray, List.set_cons_zero, List.set_cons_succ]
  refine wpAnyH_take (i := 3) (v := ?_) rfl (by kernel_rfl) (by kernel_rfl) (by kernel_rfl) (fun _ _ _ h => h.elim) (Or.inl ⟨by rfl, ?_⟩) (by assumption) ?_
  rotate_left
  · intro wx hSw
    try dsimp only at hSw
    go_simp
    try with_reducible rfl
  try simp only [Act.put, List.getElem_toArray, List.getElem_cons_zero, List.getElem_cons_succ, List.setIfInBounds_toArray, List.set_cons_zero, List.set_cons_succ]
  refine wpAnyH_take (i := 4) (v := ?_) rfl (by kernel_rfl) (by kernel_rfl) (by kernel_rfl) (fun _ _ _ h => h.elim) (Or.inl ⟨by rfl, ?_⟩) (by assumption) ?_
  rotate_left
  · intro wx hSw
    try dsimp only at hSw
    go_simp
    try with_reducible rfl
  try simp only [Act.put, List.getElem_toArray, List.getElem_cons_zero, List.getElem_cons_succ, List.setIfInBounds_toArray, List.set_cons_zero, List.set_cons_succ]
  refine wpAnyH_take (i := 5) (v := ?_) rfl (by kernel_rfl) (by kernel_rfl) (by kernel_rfl) (fun _ _ _ h => h.elim) (Or.inl ⟨by rfl, ?_⟩) (by assumption) ?_
  rotate_left
  · intro wx hSw
    try dsimp only at hSw
    go_simp
    try with_reducible rfl
  try simp only [Act.put, List.getElem_toArray, List.getElem_cons_zero, List.getElem_cons_succ, List.setIfInBounds_toArray, List.set_cons_zero, List.set_cons_succ]
  refine wpAnyH_take (i := 6) (v := ?_) rfl (by kernel_rfl) (by kernel_rfl) (by kernel_rfl) (fun _ _ _ h => h.elim) (Or.inl ⟨by rfl, ?_⟩) (by assumption) ?_
  rotate_left
  · intro wx hSw
    try dsimp only at hSw
    go_simp
    try with_reducible rfl
  try simp only [Act.put, List.getElem_toArray, List.getElem_cons_zero, List.getElem_cons_succ, List.setIfInBounds_toArray, List.set_cons_zero, List.set_cons_succ]
  refine wpAnyH_take (i := 7) (v := ?_) rfl (by kernel_rfl) (by kernel_rfl) (by kernel_rfl) (fun _ _ _ h => h.elim) (Or.inl ⟨by rfl, ?_⟩) (by assumption) ?_
  rotate_left
  · intro wx hSw
    try dsimp only at hSw
    go_simp
    try with_reducible rfl
  try simp only [Act.put, List.getElem_toArray, List.getElem_cons_zero, List.getElem_cons_succ, List.setIfInBounds_toArray, List.set_cons_zero, List.set_cons_succ]
  refine wpAnyH_take (i := 9) (v := ?_) rfl (by kernel_rfl) (by kernel_rfl) (by kernel_rfl) (fun _ _ _ h => h.elim) (Or.inl ⟨by rfl, ?_⟩) (by assumption) ?_
  rotate_left
  · intro wx hSw
    try dsimp only at hSw
    go_simp
    try with_reducible rfl
  try simp only [Act.put, List.getElem_toArray, List.getElem_cons_zero, List.getElem_cons_succ, List.setIfInBounds_toArray, List.set_cons_zero, List.set_cons_succ]
  refine wpAnyH_ready (rs := [8, 10]) (by kernel_rfl) (by simp) ?_
  refine AllReadyH.cons rfl (fun K hK => ?_) ?_
  · go_simp
    have s1 : Szs (X.alloc (.cells (Array.replicate N (.int .u8 0)) 5)).drew X.heap.size (List.replicate N 0) := made_sizes2 N X
    have b1 : Below X.heap.size X (X.alloc (.cells (Array.replicate N (.int .u8 0)) 5)).drew := (box1 X _).drew
    generalize hZ : (X.alloc (.cells (Array.replicate N (.int .u8 0)) 5)).drew = Z at s1 b1 ⊢
    have HZ := hide hZ
    clear hZ
    refine hK.out _ _ ?_ (fun hHeld => ?_)
    · first | exact HS.out _ (Below.refl _ _).drew | exact HS.out _ b1 | exact HS.out _ b2
    clear hK K
    try simp only [Act.put, List.getElem_toArray, List.getElem_cons_zero, List.getElem_cons_succ, List.setIfInBounds_toArray, List.set_cons_zero, List.set_cons_succ]
    refine wpAnyH_ready (rs := [10]) (by kernel_rfl) (by simp) ?_
    refine AllReadyH.cons rfl (fun K hK => ?_) ?_
    · go_simp
      refine (HE.out _ (bt BX b1)).mono ?_
      rintro e z1 ⟨rfl, hz1⟩
      try go_wp2_with fail
      have hz2 := hz1.symm
      subst hz2
      refine hK.out _ _ ?_ (fun hHeld => ?_)
      · first | exact HS.out _ (Below.refl _ _).drew | exact HS.out _ b1 | exact HS.out _ b2
      clear hK K
      try simp only [Act.put, List.getElem_toArray, List.getElem_cons_zero, List.getElem_cons_succ, List.setIfInBounds_toArray, List.set_cons_zero, List.set_cons_succ]
      refine wpAnyH_take (i := 11) (v := ?_) rfl (by kernel_rfl) (by kernel_rfl) (by kernel_rfl) (fun _ _ _ h => h.elim) (Or.inl ⟨by rfl, ?_⟩) (by assumption) ?_
      rotate_left
      · intro wx hSw
        try dsimp only at hSw
        go_simp
        try with_reducible rfl
      try simp only [Act.put, List.getElem_toArray, List.getElem_cons_zero, List.getElem_cons_succ, List.setIfInBounds_toArray, List.set_cons_zero, List.set_cons_succ]
      refine wpAnyH_ready (rs := [12]) (by kernel_rfl) (by simp) ?_
      refine AllReadyH.cons rfl (fun K hK => ?_) ?_
      · go_simp
        have d1 : Fd (Z.alloc (.cells #[ptr q, .int .i64 cl, .int .i64 0, .int .i64 0, .int .i64 wd, .int .i64 ht, sl X.heap.size N, .int .i64 (n : Nat)] 100)) Z.heap.size q cl wd ht X.heap.size N (n : Nat) := heap_alloc_new Z _
        have b2 : Below X.heap.size X (Z.alloc (.cells #[ptr q, .int .i64 cl, .int .i64 0, .int .i64 0, .int .i64 wd, .int .i64 ht, sl X.heap.size N, .int .i64 (n : Nat)] 100)) := bt b1 (box1 _ _)
        have s2 : Szs (Z.alloc (.cells #[ptr q, .int .i64 cl, .int .i64 0, .int .i64 0, .int .i64 wd, .int .i64 ht, sl X.heap.size N, .int .i64 (n : Nat)] 100)) X.heap.size (List.replicate N 0) := s1.upto (box1 _ _)
        refine hK.out _ _ ?_ (fun hHeld => ?_)
        · first | exact HS.out _ (Below.refl _ _).drew | exact HS.out _ b1 | exact HS.out _ b2
        clear hK K
        try simp only [Act.put, List.getElem_toArray, List.getElem_cons_zero, List.getElem_cons_succ, List.setIfInBounds_toArray, List.set_cons_zero, List.set_cons_succ]
        refine wpAnyH_take (i := 13) (v := ?_) rfl (by kernel_rfl) (by kernel_rfl) (by kernel_rfl) (fun _ _ _ h => h.elim) (Or.inl ⟨by rfl, ?_⟩) (by assumption) ?_
        rotate_left
        · intro wx hSw
          try dsimp only at hSw
          go_simp
          try with_reducible rfl
        try simp only [Act.put, List.getElem_toArray, List.getElem_cons_zero, List.getElem_cons_succ, List.setIfInBounds_toArray, List.set_cons_zero, List.set_cons_succ]
        refine wpAnyH_done (by kernel_rfl) ?_ _
        exact ⟨_, _, _, _, _, _, _, _, _, _, _, _, _, _, ⟨⟨d1, s2⟩, b2, Nat.le_refl _, b1.size⟩, rfl⟩
      exact AllReadyH.nil
    exact AllReadyH.nil
  refine AllReadyH.cons rfl (fun K hK => ?_) ?_
  · go_simp
    refine (HE.out _ (bt BX (Below.refl _ _).drew)).mono ?_
    rintro e z1 ⟨rfl, hz1⟩
    try go_wp2_with fail
    have hz2 := hz1.symm
    subst hz2
    refine hK.out _ _ ?_ (fun hHeld => ?_)
    · first | exact HS.out _ (Below.refl _ _).drew | exact HS.out _ b1 | exact HS.out _ b2
    clear hK K
    try simp only [Act.put, List.getElem_toArray, List.getElem_cons_zero, List.getElem_cons_succ, List.setIfInBounds_toArray, List.set_cons_zero, List.set_cons_succ]
    refine wpAnyH_ready (rs := [8]) (by kernel_rfl) (by simp) ?_
    refine AllReadyH.cons rfl (fun K hK => ?_) ?_
    · go_simp
      have s1 : Szs (X.alloc (.cells (Array.replicate N (.int .u8 0)) 5)).drew X.heap.size (List.replicate N 0) := made_sizes2 N X
      have b1 : Below X.heap.size X (X.alloc (.cells (Array.replicate N (.int .u8 0)) 5)).drew := (box1 X _).drew
      generalize hZ : (X.alloc (.cells (Array.replicate N (.int .u8 0)) 5)).drew = Z at s1 b1 ⊢
      have HZ := hide hZ
      clear hZ
      refine hK.out _ _ ?_ (fun hHeld => ?_)
      · first | exact HS.out _ (Below.refl _ _).drew | exact HS.out _ b1 | exact HS.out _ b2
      clear hK K
      try simp only [Act.put, List.getElem_toArray, List.getElem_cons_zero, List.getElem_cons_succ, List.setIfInBounds_toArray, List.set_cons_zero, List.set_cons_succ]
      refine wpAnyH_take (i := 11) (v := ?_) rfl (by kernel_rfl) (by kernel_rfl) (by kernel_rfl) (fun _ _ _ h => h.elim) (Or.inl ⟨by rfl, ?_⟩) (by assumption) ?_
      rotate_left
      · intro wx hSw
        try dsimp only at hSw
        go_simp
        try with_reducible rfl
      try simp only [Act.put, List.getElem_toArray, List.getElem_cons_zero, List.getElem_cons_succ, List.setIfInBounds_toArray, List.set_cons_zero, List.set_cons_succ]
      refine wpAnyH_ready (rs := [12]) (by kernel_rfl) (by simp) ?_
      refine AllReadyH.cons rfl (fun K hK => ?_) ?_
      · go_simp
        have d1 : Fd (Z.alloc (.cells #[ptr q, .int .i64 cl, .int .i64 0, .int .i64 0, .int .i64 wd, .int .i64 ht, sl X.heap.size N, .int .i64 (n : Nat)] 100)) Z.heap.size q cl wd ht X.heap.size N (n : Nat) := heap_alloc_new Z _
        have b2 : Below X.heap.size X (Z.alloc (.cells #[ptr q, .int .i64 cl, .int .i64 0, .int .i64 0, .int .i64 wd, .int .i64 ht, sl X.heap.size N, .int .i64 (n : Nat)] 100)) := bt b1 (box1 _ _)
        have s2 : Szs (Z.alloc (.cells #[ptr q, .int .i64 cl, .int .i64 0, .int .i64 0, .int .i64 wd, .int .i64 ht, sl X.heap.size N, .int .i64 (n : Nat)] 100)) X.heap.size (List.replicate N 0) := s1.upto (box1 _ _)
        refine hK.out _ _ ?_ (fun hHeld => ?_)
        · first | exact HS.out _ (Below.refl _ _).drew | exact HS.out _ b1 | exact HS.out _ b2
        clear hK K
        try simp only [Act.put, List.getElem_toArray, List.getElem_cons_zero, List.getElem_cons_succ, List.setIfInBounds_toArray, List.set_cons_zero, List.set_cons_succ]
        refine wpAnyH_take (i := 13) (v := ?_) rfl (by kernel_rfl) (by kernel_rfl) (by kernel_rfl) (fun _ _ _ h => h.elim) (Or.inl ⟨by rfl, ?_⟩) (by assumption) ?_
        rotate_left
        · intro wx hSw
          try dsimp only at hSw
          go_simp
          try with_reducible rfl
        try simp only [Act.put, List.getElem_toArray, List.getElem_cons_zero, List.getElem_cons_succ, List.setIfInBounds_toArray, List.set_cons_zero, List.set_cons_succ]
        refine wpAnyH_done (by kernel_rfl) ?_ _
        exact ⟨_, _, _, _, _, _, _, _, _, _, _, _, _, _, ⟨⟨d1, s2⟩, b2, Nat.le_refl _, b1.size⟩, rfl⟩
      exact AllReadyH.nil
    exact AllReadyH.nil
  exact AllReadyH.nil
end Go.Proofs.YtoheibfijpdmfaaGreatDoor
set_option linter.unusedSimpArgs false
namespace Go.Proofs.YtoheibfijpdmfaaGreatDoor
open Go.RowKit Go.Shelf
set_option linter.unusedSectionVars false
variable [DecCn : ∀ (St : Nat → Bool) (Ad : Nat → Nat → Prop) (k i : Nat), Decidable (Cn St Ad k i)]
set_option linter.unusedVariables false
set_option maxRecDepth 100000 in
set_option maxHeartbeats 4000000 in
theorem pnew_bad (vq : Value) (cl s : Int) (w : World) (h : shB cl s = false) : Calls Tryz.prog 5 #[vq, shv cl s] w fun e w' => e = .returned (.tuple #[.pointer none, .int .i64 1]) ∧ Below w.heap.size w w' := by
  have HS := hide h
  clear h
  obtain ⟨X, hX⟩ : ∃ X, w.alloc (.cells #[.int .i64 cl, .int .i64 s] 27) = X := ⟨_, rfl⟩
  have B0 : Below w.heap.size w X := hX ▸ box1 _ _
  have bX : Two X w.heap.size cl s := hX ▸ Two.newAt rfl
  obtain ⟨⟨t0, t1⟩, -, -⟩ := id bX
  go_enter Tryz.func5, Tryz.ntmps5
  go_wp2_with fail
  try rw [hX]
  refine (shmay_is _ HS.out).mono ?_
  rintro e w1 ⟨rfl, hb1⟩
  clear hX t0 t1
  go_wp2_with fail
  go_ret2
  exact ⟨rfl, bt B0 hb1⟩
set_option maxRecDepth 100000 in
set_option maxHeartbeats 4000000 in
theorem pnew_nil (cl s : Int) (w : World) : Calls Tryz.prog 5 #[.pointer none, shv cl s] w fun e w' => e = .returned (.tuple #[.pointer none, .int .i64 1]) ∧ Below w.heap.size w w' := by
  cases h : shB cl s
  · exact pnew_bad _ cl s w h
  have HS := hide h
  clear h
  obtain ⟨X, hX⟩ : ∃ X, w.alloc (.cells #[.int .i64 cl, .int .i64 s] 27) = X := ⟨_, rfl⟩
  have B0 : Below w.heap.size w X := hX ▸ box1 _ _
  have bX : Two X w.heap.size cl s := hX ▸ Two.newAt rfl
  obtain ⟨⟨t0, t1⟩, -, -⟩ := id bX
  go_enter Tryz.func5, Tryz.ntmps5
  go_wp2_with fail
  try rw [hX]
  refine (shmay_is _ HS.out).mono ?_
  rintro e w1 ⟨rfl, hb1⟩
  obtain ⟨⟨u0, u1⟩, -, -⟩ := bX.kept hb1
  clear hX t0 t1
  go_wp2_with fail
  refine (fnew_nil cl _).mono ?_
  rintro e w2 ⟨rfl, hb2⟩
  clear u0 u1
  go_wp2_with fail
  go_ret2
  exact ⟨rfl, bt B0 (bt hb1 hb2)⟩
/-- Parts that New gave. -/
def Nw (w w' : World) (p f q : Nat) (cl ep : Int) (wd ht N : Nat) (car : Int → Int → Bool) (s b2 b : Nat) (pv : Value) : Prop :=
  (Pf w' p f q cl ep wd ht car s b2 b pv (lb (stI car wd N s) (adI wd) N).1 ∧ Rw 108 3 (cP wd) w' pv (prS (stI car wd N s) (adI wd) N (lb (stI car wd N s) (adI wd) N).2)) ∧ Below w.heap.size w w' ∧ (w.heap.size ≤ p ∧ w.heap.size ≤ f ∧ w.heap.size ≤ b2 ∧ w.heap.size ≤ b) ∧ ∀ g, pv.ownBlock = some g → w.heap.size ≤ g
set_option maxRecDepth 100000 in
set_option maxHeartbeats 8000000 in
theorem pnew_good {w : World} {q n : Nat} {wd ht N : Nat} {tl : List Nat} {f : Int → Int → Option Int} (cl : Int) (s : Nat) (hw : Wl w q wd ht tl f) (he : Ep w q n) (hg : Grnd w) (ho : Offs w) (hN : N = wd * ht) (hc : shB cl (s : Nat) = true) :
    Calls Tryz.prog 5 #[ptr q, shv cl (s : Nat)] w fun e w' => ∃ p fl b2 b pv, e = .returned (.tuple #[ptr p, .int .i64 0]) ∧ Nw w w' p fl q cl (n : Nat) wd ht N (carB wd ht tl f cl) s b2 b pv := by
  obtain ⟨hW, hH⟩ := mt_gs hw.1.1
  simp only [gs, decide_eq_true_eq] at hW hH
  have hwd : (1 ≤ wd ∧ wd ≤ 128) ∧ 1 ≤ ht ∧ ht ≤ 128 := by omega
  have hc2 : isC cl = true ∧ (1 ≤ s ∧ s ≤ 4) := by
    simp only [shB, Bool.and_eq_true, decide_eq_true_eq] at hc
    exact ⟨hc.1, by omega⟩
  have HC := hide hc
  have HC2 := hide hc2
  have HK : Hid (∀ wx, Below w.heap.size w wx → Wl wx q wd ht tl f ∧ Ep wx q n ∧ Grnd wx ∧ Offs wx) := hide fun wx hx => ⟨hw.kept hx, he.kept hx, hg.kept hx, ho.kept hx⟩
  have HN := hide hN
  obtain ⟨X, hX⟩ : ∃ X, w.alloc (.cells #[.int .i64 cl, .int .i64 (s : Nat)] 27) = X := ⟨_, rfl⟩
  have B0 : Below w.heap.size w X := hX ▸ box1 _ _
  have bX : Two X w.heap.size cl (s : Nat) := hX ▸ Two.newAt rfl
  have hsI : (1 : Int) ≤ (s : Nat) ∧ ((s : Nat) : Int) ≤ 4 := by omega
  obtain ⟨⟨t0, t1⟩, -, -⟩ := id bX
  clear hw he hg ho hc hc2 hN
  go_enter Tryz.func5, Tryz.ntmps5
  go_wp2_with fail
  try rw [hX]
  refine (shmay_is _ HC.out).mono ?_
  rintro e w1 ⟨rfl, hb1⟩
  have B1 := bt B0 hb1
  have b1 := bX.kept hb1
  obtain ⟨⟨u0, u1⟩, -, -⟩ := id b1
  clear hX t0 t1 bX
  go_wp2_with fail
  obtain ⟨k1, k2, k3, k4⟩ := HK.out w1 B1
  refine (fnew_own cl k1 k2 k3 k4 HC2.out.1).mono ?_
  rintro e V ⟨fl, b2, rfl, ⟨hd, hz⟩, hb2, hb2o, hflo⟩
  have BV := bt B1 hb2
  have bV := b1.kept hb2
  have HD := hide hd
  have HZ := hide hz
  have HAl : Hid (∀ wx, Below w.heap.size w wx → Calls Tryz.prog 16 #[ptr q] wx fun e w' => e = .returned (rct 0 0 wd ht) ∧ Below wx.heap.size wx w') := hide fun wx hx => all_is (HK.out wx hx).1
  have hws := B1.size
  have HOwn : Hid (w.heap.size ≤ b2 ∧ w.heap.size ≤ fl) := hide ⟨by omega, by omega⟩
  have HbV := hide bV
  have HBV := hide BV
  clear hd hz k1 k2 k3 k4 hb2 hb2o hflo u0 u1 b1 hws bV BV hb1
  go_wp2_with fail
  have HS : Hid (∀ wx, Below V.heap.size V wx → wx.cell? ⟨w.heap.size, 1, none⟩ = some (.int .i64 (s : Nat))) := hide fun wx hx => (HbV.out.kept hx).1.2
  refine wp_only ?_
  refine wp_region_held_drew (S := fun wx => wx.cell? ⟨w.heap.size, 1, none⟩ = some (.int .i64 (s : Nat))) (by kernel_rfl) (HS.out _ (Below.refl _ V).drew) (fun hHeld => ?_)
  refine wpAnyH_take (i := 0) (v := ?_) rfl (by kernel_rfl) (by kernel_rfl) (by kernel_rfl) (fun _ _ _ h => h.elim) (Or.inl ⟨by rfl, ?_⟩) (by assumption) ?_
  rotate_left
  · intro wx hSw
    try dsimp only at hSw
    go_simp
    try with_reducible rfl
  try simp only [Act.put, List.getElem_toArray, List.getElem_cons_zero, List.getElem_cons_succ, List.setIfInBounds_toArray, List.set_cons_zero, List.set_cons_succ]
  refine wpAnyH_take (i := 1) (v := ?_) rfl (by kernel_rfl) (by kernel_rfl) (by kernel_rfl) (fun _ _ _ h => h.elim) (Or.inl ⟨by rfl, ?_⟩) (by assumption) ?_
  rotate_left
  · intro wx hSw
    try dsimp only at hSw
    go_simp
    try with_reducible rfl
  try simp only [Act.put, List.getElem_toArray, List.getElem_cons_zero, List.getElem_cons_succ, List.setIfInBounds_toArray, List.set_cons_zero, List.set_cons_succ]
  refine wpAnyH_take (i := 2) (v := ?_) rfl (by kernel_rfl) (by kernel_rfl) (by kernel_rfl) (fun _ _ _ h => h.elim) (Or.inl ⟨by rfl, ?_⟩) (by assumption) ?_
  rotate_left
  · intro wx hSw
    try dsimp only at hSw
    go_simp
    try with_reducible rfl
  try simp only [Act.put, List.getElem_toArray, List.getElem_cons_zero, List.getElem_cons_succ, List.setIfInBounds_toArray, List.set_cons_zero, List.set_cons_succ]
  refine wpAnyH_take (i := 3) (v := ?_) rfl (by kernel_rfl) (by kernel_rfl) (by kernel_rfl) (fun _ _ _ h => h.elim) (Or.inl ⟨by rfl, ?_⟩) (by assumption) ?_
  rotate_left
  · intro wx hSw
    try dsimp only at hSw
    go_simp
    try with_reducible rfl
  try simp only [Act.put, List.getElem_toArray, List.getElem_cons_zero, List.getElem_cons_succ, List.setIfInBounds_toArray, List.set_cons_zero, List.set_cons_succ]
  refine wpAnyH_ready (rs := [4]) (by kernel_rfl) (by simp) ?_
  refine AllReadyH.cons rfl (fun K hK => ?_) ?_
  · go_simp
    refine (HAl.out _ (bt HBV.out (Below.refl _ V).drew)).mono ?_
    rintro e w2 ⟨rfl, hb2⟩
    have B2 : Below V.heap.size V w2 := below_undrew hb2
    clear hb2
    refine hK.out _ _ ?_ (fun hHeld => ?_)
    · first | with_reducible exact HS.out _ B2 | with_reducible exact HS.out _ B3
    clear hK K
    try simp only [Act.put, List.getElem_toArray, List.getElem_cons_zero, List.getElem_cons_succ, List.setIfInBounds_toArray, List.set_cons_zero, List.set_cons_succ]
    refine wpAnyH_take (i := 5) (v := ?_) rfl (by kernel_rfl) (by kernel_rfl) (by kernel_rfl) (fun _ _ _ h => h.elim) (Or.inl ⟨by rfl, ?_⟩) (by assumption) ?_
    rotate_left
    · intro wx hSw
      try dsimp only at hSw
      go_simp
      try with_reducible rfl
    try simp only [Act.put, List.getElem_toArray, List.getElem_cons_zero, List.getElem_cons_succ, List.setIfInBounds_toArray, List.set_cons_zero, List.set_cons_succ]
    refine wpAnyH_ready (rs := [6]) (by kernel_rfl) (by simp) ?_
    refine AllReadyH.cons rfl (fun K hK => ?_) ?_
    · go_simp
      have B3 : Below V.heap.size V (w2.alloc (.cells #[ptr fl, .int .i64 (s : Nat), .int .i64 0, .int .i64 0, .int .i64 wd, .int .i64 ht, .slice none 0 0, .slice none 0 0] 68)) := bt B2 (box1 _ _)
      refine hK.out _ _ ?_ (fun hHeld => ?_)
      · first | with_reducible exact HS.out _ B2 | with_reducible exact HS.out _ B3
      clear hK K
      try simp only [Act.put, List.getElem_toArray, List.getElem_cons_zero, List.getElem_cons_succ, List.setIfInBounds_toArray, List.set_cons_zero, List.set_cons_succ]
      refine wpAnyH_ready (rs := [7]) (by kernel_rfl) (by simp) ?_
      refine AllReadyH.cons rfl (fun K hK => ?_) ?_
      · go_simp
        refine hK.out _ _ ?_ (fun hHeld => ?_)
        · first | with_reducible exact HS.out _ B2 | with_reducible exact HS.out _ B3
        clear hK K
        try simp only [Act.put, List.getElem_toArray, List.getElem_cons_zero, List.getElem_cons_succ, List.setIfInBounds_toArray, List.set_cons_zero, List.set_cons_succ]
        refine wpAnyH_done (by kernel_rfl) ?_ _
        dsimp only [Only, Exit.then]
        have hP : Pd (w2.alloc (.cells #[ptr fl, .int .i64 (s : Nat), .int .i64 0, .int .i64 0, .int .i64 wd, .int .i64 ht, .slice none 0 0, .slice none 0 0] 68)) w2.heap.size fl s wd ht (.slice none 0 0) (.slice none 0 0) := heap_alloc_new w2 _
        have zw2 : w.heap.size ≤ w2.heap.size := (bt HBV.out B2).size
        obtain ⟨w3, hw3⟩ : ∃ w3, w2.alloc (.cells #[ptr fl, .int .i64 (s : Nat), .int .i64 0, .int .i64 0, .int .i64 wd, .int .i64 ht, .slice none 0 0, .slice none 0 0] 68) = w3 := ⟨_, rfl⟩
        rw [hw3] at hP B3
        have BW3 := bt HBV.out B3
        have HR := hide (prec_any (N := N) (w := w3) (p := w2.heap.size) hP (HD.out.upto B3) (HZ.out.upto B3) hwd HN.out HC2.out.2 (fun x y h => car_has h) (fun Y hY => (HK.out Y (BW3.trans (hY.below (B := w.heap.size) (fun k e => by rw [e]; exact zw2) BW3.size))).2.2.2))
        have HW3 := hide hw3
        clear hw3 hP hHeld
        go_wp2_with fail
        try rw [HW3.out]
        refine HR.out.mono ?_
        rintro e w4 ⟨b, pv, rfl, hR4⟩
        have hN4 : Nw w w4 w2.heap.size fl q cl (n : Nat) wd ht N (carB wd ht tl f cl) s b2 b pv := by
          have h3 := BW3.size
          refine ⟨⟨hR4.pf, hR4.row⟩, BW3.trans (hR4.tu.below (B := w.heap.size) (fun k e => by rw [e]; exact zw2) BW3.size), ⟨zw2, HOwn.out.2, HOwn.out.1, Nat.le_trans h3 hR4.hb⟩, fun g hg => Nat.le_trans h3 (hR4.own g hg)⟩
        have HN4 := hide hN4
        clear hR4 hN4 HR
        go_wp2_with fail
        go_ret2
        exact ⟨_, _, _, _, _, rfl, HN4.out⟩
    
      exact AllReadyH.nil
    exact AllReadyH.nil
  exact AllReadyH.nil
section
variable {w : World} {p : Nat}
set_option maxHeartbeats 1000000 in
theorem pat_nil (x y : Int) (w : World) : Calls Tryz.prog 19 #[.pointer none, cel x y] w fun e w' => e = .returned (.int .i64 0) ∧ Below w.heap.size w w' := by
  obtain ⟨X, hX⟩ : ∃ X, w.alloc (.cells #[.int .i64 x, .int .i64 y] 46) = X := ⟨_, rfl⟩
  have B0 : Below w.heap.size w X := hX ▸ box1 _ _
  have hne := lat_some X
  go_enter Tryz.func19, Tryz.ntmps19
  go_wp2_with fail
  clear hX
  refine wp_region_lat (by kernel_rfl) (by kernel_rfl) ?_
  repeat (go_big_quiet_step (first | (go_at_call 27; exact calls_lat_same (pmade_nil _))))
  refine wpQuiet_nil ?_
  rintro _ ⟨m, rfl⟩
  go_wp2_with fail
  go_ret
  exact ⟨rfl, bt B0 m.h⟩
set_option maxHeartbeats 1000000 in
theorem pat_zero (x y : Int) (w : World) (hp : p < w.heap.size) (h : w.cell? ⟨p, 0, none⟩ = some (.pointer none)) : Calls Tryz.prog 19 #[ptr p, cel x y] w fun e w' => e = .returned (.int .i64 0) ∧ Below w.heap.size w w' := by
  obtain ⟨X, hX⟩ : ∃ X, w.alloc (.cells #[.int .i64 x, .int .i64 y] 46) = X := ⟨_, rfl⟩
  have B0 : Below w.heap.size w X := hX ▸ box1 _ _
  have hne := lat_some X
  have HZ : Hid (∀ m : Lat X, m.w.cell? ⟨p, 0, none⟩ = some (.pointer none)) := hide fun m => ((bt B0 m.h).cell (p := ⟨p, 0, none⟩) hp).trans h
  clear h hp
  go_enter Tryz.func19, Tryz.ntmps19
  go_wp2_with fail
  clear hX
  refine wp_region_lat (by kernel_rfl) (by kernel_rfl) ?_
  repeat (go_big_quiet_step (first | (go_at_call 27; exact calls_lat_same (pmade_zero (HZ.out _)))))
  refine wpQuiet_nil ?_
  rintro _ ⟨m, rfl⟩
  go_wp2_with fail
  go_ret
  exact ⟨rfl, bt B0 m.h⟩
set_option maxHeartbeats 1000000 in
theorem pupd_no (vp : Value) (w : World) (h : Calls Tryz.prog 27 #[vp] w fun e w' => e = .returned (.bool false) ∧ w' = w) : Calls Tryz.prog 10 #[vp] w fun e w' => e = .returned (.tuple #[.bool false, .int .i64 1]) ∧ w' = w := by
  have HF := hide h
  clear h
  go_enter Tryz.func10, Tryz.ntmps10
  go_wp2_with (go_at_call 27; refine HF.out.mono ?_; rintro e w' ⟨rfl, rfl⟩)
  go_ret2
  exact ⟨rfl, rfl⟩
end
/-- The map of awake: a row with a rock. -/
def tl3 : List Nat := [0, 3, 0]
theorem mt3 : mt 3 1 tl3 = true := by decide
theorem lt3 : ∀ x ∈ tl3, x < 256 := by decide
theorem made3 (w : World) : Tls (w.alloc (.cells #[.int .u8 0, .int .u8 3, .int .u8 0] 5)) (.slice (some ⟨w.heap.size, 0, none⟩) 3 3) tl3 :=
  ⟨rfl, .inr ⟨w.heap.size, 3, _, rfl, Nat.zero_le _, heap_alloc_new w _, Nat.le_refl _, by decide, rfl, rfl⟩⟩
theorem new3 (w : World) : Calls Tryz.prog 12 #[mp 3 1 (.slice (some ⟨w.heap.size, 0, none⟩) 3 3) (.slice none 0 0)] (w.alloc (.cells #[.int .u8 0, .int .u8 3, .int .u8 0] 5))
    fun e w' => ∃ p, e = .returned (.tuple #[ptr p, .int .i64 0]) ∧ Wn w' p 3 1 tl3 (whoL []) ∧ Below w.heap.size w w' := by
  refine (new_good 3 1 _ (.slice none 0 0) tl3 [] _ (made3 w).r lt3 (BdR.nil _) mt3).mono ?_
  rintro e w' (⟨-, p, he, hm⟩ | ⟨h, -⟩)
  · have := hm.wn mt3 lt3
    exact ⟨p, he, this.1, bt (box1 _ _) this.2⟩
  · cases h
/-- Where one stands there: at the ends. -/
theorem st3 : ∀ i, stI (carB (3 : Nat) (1 : Nat) tl3 (whoL []) 0) 3 3 1 i = true ↔ i = 0 ∨ i = 2 := by
  intro i
  by_cases h : i < 3
  · match i, h with
    | 0, _ => decide
    | 1, _ => decide
    | 2, _ => decide
  · constructor
    · intro hi; have := stI_lt i hi; omega
    · rintro (rfl | rfl) <;> omega
theorem lb3 : (lb (stI (carB (3 : Nat) (1 : Nat) tl3 (whoL []) 0) 3 3 1) (adI 3) 3).2 = [0, 2] ∧ (lb (stI (carB (3 : Nat) (1 : Nat) tl3 (whoL []) 0) 3 3 1) (adI 3) 3).1 2 = 2 := by
  generalize hSt : stI (carB (3 : Nat) (1 : Nat) tl3 (whoL []) 0) 3 3 1 = St
  have hs : ∀ i, St i = true ↔ i = 0 ∨ i = 2 := fun i => by rw [← hSt]; exact st3 i
  have c0 : ∀ j, Cn St (adI 3) 0 j → j = 0 := fun j h => by
    induction h using Cn.ind with
    | refl _ => rfl
    | step b c _ ha hc ih =>
      subst ih
      rcases (hs c).1 hc with rfl | rfl
      · rfl
      · simp [adI] at ha
  have e1 := lb_new (St := St) (Ad := adI 3) (k := 0) ((hs 0).2 (.inl rfl)) rfl
  have e2 := lb_old (St := St) (Ad := adI 3) (k := 1) (fun h => by have := (hs 1).1 h.1; omega)
  have h0 : (lb St (adI 3) 2).1 2 = 0 := by rw [e2, e1.2.1 2 (fun h => by have := c0 2 h; omega)]; rfl
  have e3 := lb_new (St := St) (Ad := adI 3) (k := 2) ((hs 2).2 (.inr rfl)) h0
  have hl : (lb St (adI 3) 2).2 = [0] := by rw [e2, e1.2.2]; rfl
  refine ⟨by rw [e3.2.2, hl]; rfl, ?_⟩
  rw [e3.1 2 (.refl 2 ((hs 2).2 (.inr rfl))), hl]; rfl
set_option maxRecDepth 100000 in
set_option maxHeartbeats 4000000 in
theorem awake_any (w : World) (hg : Grnd w) (ho : Offs w) : Calls Tryz.prog 6 #[] w fun e w' => e = .returned (.bool true) ∧ Below w.heap.size w w' := by
  have HG := hide hg
  have HO := hide ho
  clear hg ho
  go_enter Tryz.func6, Tryz.ntmps6
  go_wp2_with fail
  refine (new3 w).mono ?_
  rintro e w1 ⟨q, rfl, hW, hb1⟩
  have HW := hide hW
  have HB1 := hide hb1
  clear hW hb1
  go_wp2_with fail
  refine (pnew_good (wd := 3) (ht := 1) (N := 3) 0 1 HW.out.1 HW.out.2 (HG.out.kept HB1.out) (HO.out.kept HB1.out) rfl (by decide)).mono ?_
  rintro e w2 ⟨p, fl, b2, b, pv, rfl, ⟨hP, hR⟩, hb2, -, -⟩
  have hl2 : (prS (stI (carB (3 : Nat) (1 : Nat) tl3 (whoL []) 0) 3 3 1) (adI 3) 3 (lb (stI (carB (3 : Nat) (1 : Nat) tl3 (whoL []) 0) 3 3 1) (adI 3) 3).2).length = 2 := by rw [lb3.1]; rfl
  obtain ⟨a, cap, hpv, -, -⟩ := hR.form (cP_len 3)
  rw [hl2] at hpv
  subst hpv
  have HP := hide hP
  have HL := hide (plen_is hP.pd)
  have HA := hide (pat_is 2 0 (v := 2) (by rw [atF, if_pos (by decide)]; exact lb3.2) hP (by omega))
  have HB2 := hide (bt HB1.out hb2)
  clear hP hb2 hR hl2
  go_wp2_with (go_at_call 18; refine HL.out.mono ?_; rintro e w' ⟨rfl, rfl⟩)
  refine HA.out.mono ?_
  rintro e w4 ⟨rfl, hb4⟩
  have HB4 := hide (bt HB2.out hb4)
  clear hb4
  go_wp2_with fail
  go_ret
  exact ⟨rfl, HB4.out⟩
end Go.Proofs.YtoheibfijpdmfaaGreatDoor
