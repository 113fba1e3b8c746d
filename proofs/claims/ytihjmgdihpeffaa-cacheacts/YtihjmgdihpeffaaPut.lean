/-
  The program's Put.
-/
import Derived.Test.YtihjmgdihpeffaaPu0
namespace Go.Proofs.Ytihjmgdihpeffaa
open Go.RowKit
set_option linter.unusedVariables false
set_option linter.unusedSimpArgs false
/-- What lies in memory on the way: X is the world behind the boxes. -/
structure PM (X U : World) (c m : Nat) (ov ov1 : Value) (room e : Int) (F : K6 → Value) (L : List En) : Prop where
  pc : PC U c m ov1 room e F L
  ob : ∀ g, ov1.ownBlock = some g → ov.ownBlock = some g ∨ X.heap.size ≤ g
  ht : Turns (PB c m ov) X U
theorem PM.upto {X U V : World} {c m : Nat} {ov ov1 : Value} {room e : Int} {F : K6 → Value} {L : List En} (h : PM X U c m ov ov1 room e F L) (hb : Below U.heap.size U V) : PM X V c m ov ov1 room e F L :=
  ⟨h.pc.upto hb, h.ob, h.ht.trans ((Turns.of_below hb).mono (fun k _ s => .inl s))⟩
/-- What a turning of the cache's blocks is, seen from X. -/
theorem PM.turns {X U V : World} {c m : Nat} {ov ov1 : Value} {room e : Int} {F : K6 → Value} {L : List En} (h : PM X U c m ov ov1 room e F L) (ht : Turns (PB c m ov1) U V) : Turns (PB c m ov) X V :=
  h.ht.trans (ht.mono (fun k hk s => by
    rcases s with s | s | s
    · exact .inl (.inl s)
    · exact .inl (.inr (.inl s))
    · rcases h.ob k s with q | q
      · exact .inl (.inr (.inr q))
      · exact .inr q))
/-- A call has turned it. -/
theorem PM.next {X U V : World} {c m : Nat} {ov ov1 ov2 : Value} {room e e2 : Int} {F F2 : K6 → Value} {L L2 : List En} (h : PM X U c m ov ov1 room e F L) (hp : PC V c m ov2 room e2 F2 L2) (ho : ∀ g, ov2.ownBlock = some g → ov1.ownBlock = some g ∨ U.heap.size ≤ g) (ht : Turns (PB c m ov1) U V) : PM X V c m ov ov2 room e2 F2 L2 :=
  ⟨hp, fun g hg => (ho g hg).elim (h.ob g) (fun q => .inr (Nat.le_trans h.ht.size q)), h.turns ht⟩
theorem kput_len (K : List K6) (q : K6) : K.length ≤ (kput K q).length := by
  unfold kput
  split
  · exact Nat.le_refl _
  · simp
/-- A cache behind a Put: where the way that was put lies. -/
def PcF (w : World) (c m : Nat) (ov : Value) (room ep : Int) (L : List En) (q : K6) (o : Int) (w' : World) : Prop :=
  ∃ ov' F' vq, PC w' c m ov' room ep F' L ∧ F' q = wy o vq ∧ (∀ g, vq.ownBlock = some g → w.heap.size ≤ g) ∧ (∀ g, ov'.ownBlock = some g → ov.ownBlock = some g ∨ w.heap.size ≤ g) ∧ Turns (PB c m ov) w w'
theorem fput_same (F : K6 → Value) (q : K6) (v : Value) : fput F q v q = v := by unfold fput; rw [if_pos rfl]
theorem Cn.isS {w : World} {v : Value} {P : List (Int × Int)} (o : Int) (h : Cn w v P) : IsS (wy o v) := by
  rcases h.slice with ⟨e, -⟩ | ⟨g, cap, e, -⟩
  · rw [e]; exact isS_nil _ _ _
  · rw [e]; exact isS_some _ _ _ _ _
theorem isS_form {u : Value} (h : IsS u) : ∃ o a n k, u = wy o (.slice a n k) := by
  rcases wyElem_inv h with ⟨o, n, k, e, -⟩ | ⟨o, g, f, n, k, e, -⟩
  · exact ⟨_, _, _, _, e⟩
  · exact ⟨_, _, _, _, e⟩
theorem Rf18 : Rcl 18 := zl fun _ _ => by go_simp
set_option maxRecDepth 100000 in
set_option maxHeartbeats 4000000 in
theorem put_old {w : World} {c m : Nat} {ov : Value} {room ep : Int} {F : K6 → Value} {L : List En} (h : PC w c m ov room ep F L) {q : K6} (hq : W6 q) (e : Int) {o : Int} {v : Value} {P : List (Int × Int)} (hv : CeR w v P) (hl : P.length * 16 ≤ 140737488355328) (hvn : ∀ g, P ≠ [] → v.ownBlock = some g → ¬ PB c m ov g) (hin : q ∈ ks L) :
    Calls Try.prog 12 #[ptr c, kv q, .int .i64 ep, wy o v] w fun en w' => en = .returned (.int .i64 0) ∧ PcF w c m ov room ep (putL room L q (o, P)) q o w' := by
  obtain ⟨X, hX⟩ : ∃ X, (w.alloc (.cells #[.int .i64 q.1, .int .i64 q.2.1, .int .i64 q.2.2.1, .int .i64 q.2.2.2.1, .int .i64 q.2.2.2.2.1, .int .i64 q.2.2.2.2.2] 36)).alloc (.cells #[.int .i64 o, v] 39) = X := ⟨_, rfl⟩
  have B0 : Below w.heap.size w X := by rw [← hX]; exact box2 _ _ _
  have K0 : Bk X w.heap.size 36 (kCs q) := by rw [← hX]; exact ((Bk.new w 36 (kCs q)).upto (box1 _ _))
  have K1 : Bk X (w.heap.size + 1) 39 [.int .i64 o, v] := by rw [← hX]; exact Bk.new2 _ _ _ _
  have zX : X.heap.size = w.heap.size + 2 := by rw [← hX]; simp
  have hP := h.upto B0
  have M0 : PM X X c m ov ov room ep F L := ⟨hP, fun g e => .inl e, Turns.refl _ _⟩
  have hm := made_yes c m X (hP.blk.cell 2 _ rfl)
  have b1 := hP.blk.cell 1 _ rfl
  have HX := hide hX
  have nS : ∀ k, w.heap.size ≤ k → ¬ PB c m ov k := fun k hk hs => by have := h.lt hs; omega
  have HK0 : ∀ U, Turns (PB c m ov) X U → Bk U w.heap.size 36 (kCs q) := fun U ht => K0.kept ht (nS _ (Nat.le_refl _))
  have HK1 : ∀ U, Turns (PB c m ov) X U → Bk U (w.heap.size + 1) 39 [.int .i64 o, v] := fun U ht => K1.kept ht (nS _ (by omega))
  have HV : ∀ U, Turns (PB c m ov) X U → CeR U v P := fun U ht => (hv.kept B0).turnedN ht hvn
  have HU := hide (And.intro HK0 (And.intro HK1 (And.intro HV (And.intro B0 zX))))
  have HQ := hide hq
  have HL := hide hl
  have HRm := hide (And.intro h.rm h.le)
  have HNS := hide nS
  have HM := hide M0
  clear h hP hv hX K0 K1 B0 hq hl hvn nS HK0 HK1 HV M0 zX
  go_enter Try.func12, Try.ntmps12
  go_wp2_with (rw [HX.out])
  refine hm.mono ?_
  rintro e1 w1 ⟨rfl, rfl⟩
  clear hm
  go_wp2_with fail
  clear b1
  obtain ⟨U, hU⟩ : ∃ U, w1 = U := ⟨_, rfl⟩
  rw [hU]
  have HM1 : Hid (PM w1 U c m ov ov room ep F L) := hU ▸ HM
  clear HM HX hU
  obtain ⟨o2, a2, n2, k2, hF⟩ := isS_form (HM1.out.pc.map.isS q)
  obtain ⟨Y, hY⟩ : ∃ Y, U.drew = Y := ⟨_, rfl⟩
  have BY : Below U.heap.size U Y := by rw [← hY]; exact (Below.refl _ _).drew
  have MY := hide (HM1.out.upto BY)
  have hlk : ∀ wx, Below Y.heap.size Y wx → (Instr.lookup 59 (.map (some m)) (kv q) true).run Try.prog wx = .ok (.tuple #[wy o2 (.slice a2 n2 k2), .bool true]) wx := fun wx hx => by
    have := (MY.out.pc.upto hx).map.look2 HQ.out
    rwa [hF, decide_eq_true hin] at this
  have KY := hide (HU.out.1 Y MY.out.ht)
  obtain ⟨Z, hZ⟩ : ∃ Z, Y.alloc (.cells #[.int .i64 0, .slice none 0 0] 39) = Z := ⟨_, rfl⟩
  have BZ : Below Y.heap.size Y Z := by rw [← hZ]; exact box1 _ _
  have KZ : Bk Z Y.heap.size 39 [.int .i64 0, .slice none 0 0] := by rw [← hZ]; exact Bk.new _ _ _
  have z0 := KZ.cell 0 _ rfl
  have z1 := KZ.cell 1 _ rfl
  have u0 := KZ.frozen 0
  have u1 := KZ.frozen 1
  obtain ⟨V, hV⟩ : ∃ V, (Z.setCell ⟨Y.heap.size, 0, none⟩ (.int .i64 o2)).setCell ⟨Y.heap.size, 1, none⟩ (.slice a2 n2 k2) = V := ⟨_, rfl⟩
  have BV : Below Y.heap.size Y V := by rw [← hV]; exact (BZ.setCell (Nat.le_refl _) _).setCell (Nat.le_refl _) _
  have MV := hide (MY.out.upto BV)
  have HY := hide hY
  have HZ := hide hZ
  have HV := hide hV
  have HLk := hide hlk
  have HBV := hide BV
  clear hY hZ hV hlk KZ BV BY HM1 hF
  go_wp2_with fail
  refine wp_only ?_
  refine wp_region_z (fun wx : World => Below Y.heap.size Y wx) [] (by kernel_rfl) ?_
  rw [HY.out]
  refine zx 0 9 16 rfl (by kernel_rfl) (Below.refl _ _) ?_
  iterate 3 (refine zxc rfl (by rfl) (fun wx hx => by go_simp; rfl) ?_; simp only [zp])
  refine zxc (v := .map (some m)) rfl (by rfl) (fun wx hx => by have c0 := (MY.out.pc.upto hx).blk.cell 2 _ rfl; clear hx; go_simp) ?_
  simp only [zp]
  refine zxc (v := kv q) rfl (by rfl) (fun wx hx => by
    have K := KY.out.upto hx
    have c0 := K.cell 0 _ rfl
    have c1 := K.cell 1 _ rfl
    have c2 := K.cell 2 _ rfl
    have c3 := K.cell 3 _ rfl
    have c4 := K.cell 4 _ rfl
    have c5 := K.cell 5 _ rfl
    clear hx; go_simp) ?_
  simp only [zp]
  refine zxc (v := .tuple #[wy o2 (.slice a2 n2 k2), .bool true]) rfl (by rfl) (fun wx hx => by have hl := HLk.out wx hx; clear hx; go_simp) ?_
  simp only [zp]
  iterate 3 (refine zxc rfl (by rfl) (fun wx hx => by go_simp; rfl) ?_; simp only [zp])
  refine zxn ?_
  refine zq 9 (by kernel_rfl) rfl rfl (v' := ptr Y.heap.size) (w' := Z) (by rw [← HZ.out]; go_simp) (fun _ => BZ) ?_
  refine zw 10 [] (by kernel_rfl) ?_
  refine readyZ.skip (w' := V) rfl rfl (by rw [← HV.out]; go_simp) (fun h => HBV.out) ?_ readyZ.nil
  refine zq 11 (by kernel_rfl) rfl rfl (run_as rfl rfl) (fun _ => HBV.out) ?_
  refine anyZ_done (by kernel_rfl) ?_ _
  dsimp only [Only, Exit.then]
  clear z0 z1 u0 u1 HY HZ HV HLk HBV BZ KY MY
  go_wp2_with fail
  obtain ⟨A, hA⟩ : ∃ A, V = A := ⟨_, rfl⟩
  rw [hA]
  have HH : Hid (PH A c m ov room ep F L q ∧ (∀ g, Value.ownBlock ov = some g → ov.ownBlock = some g ∨ w1.heap.size ≤ g) ∧ Turns (PB c m ov) w1 A) := by
    rw [← hA]
    exact ⟨MV.out.pc.ph hin, MV.out.ob, MV.out.ht⟩
  have hpl : putL room L q (o, P) = putIn L q (o, P) := by unfold putL; rw [if_pos hin]
  have hov3 : ∃ a n k, ov = .slice a n k := HH.out.1.ord.shape
  clear MV hA
  obtain ⟨B, hB⟩ : ∃ B, A.drew = B := ⟨_, rfl⟩
  have BB : Below A.heap.size A B := by rw [← hB]; exact (Below.refl _ _).drew
  have HB := hide hB
  have TB : Turns (PB c m ov) w1 B := HH.out.2.2.trans ((Turns.of_below BB).mono (fun k _ s => .inl s))
  have HPB := hide (HH.out.1.upto BB)
  have hC := hide (copied_is o v P B (HU.out.2.2.1 B TB) HL.out)
  have SB := hide (show Bk B c 61 _ ∧ Bk B w.heap.size 36 (kCs q) ∧ Bk B (w.heap.size + 1) 39 [.int .i64 o, v] from ⟨HPB.out.blk, HU.out.1 B TB, HU.out.2.1 B TB⟩)
  have HTB := hide TB
  clear hB BB TB
  go_wp2_with fail
  refine wp_only ?_
  refine wp_region_z (fun wx : World => Bk wx c 61 [.int .i64 room, .int .i64 ep, .map (some m), ov] ∧ Bk wx w.heap.size 36 (kCs q) ∧ Bk wx (w.heap.size + 1) 39 [.int .i64 o, v]) [7] (by kernel_rfl) ?_
  rw [HB.out]
  refine zx 0 6 16 rfl (by kernel_rfl) SB.out ?_
  iterate 3 (refine zxc rfl (by rfl) (fun wx hx => by go_simp; rfl) ?_; simp only [zp])
  refine zxc (v := .map (some m)) rfl (by rfl) (fun wx hx => by have c0 := hx.1.cell 2 _ rfl; clear hx; go_simp) ?_
  simp only [zp]
  refine zxc (v := kv q) rfl (by rfl) (fun wx hx => by
    have c0 := hx.2.1.cell 0 _ rfl
    have c1 := hx.2.1.cell 1 _ rfl
    have c2 := hx.2.1.cell 2 _ rfl
    have c3 := hx.2.1.cell 3 _ rfl
    have c4 := hx.2.1.cell 4 _ rfl
    have c5 := hx.2.1.cell 5 _ rfl
    clear hx; go_simp) ?_
  simp only [zp]
  refine zxc (v := wy o v) rfl (by rfl) (fun wx hx => by
    have c0 := hx.2.2.cell 0 _ rfl
    have c1 := hx.2.2.cell 1 _ rfl
    clear hx; go_simp) ?_
  simp only [zp]
  refine zxn ?_
  refine zw 6 [] (by kernel_rfl) ?_
  refine readyZ.call rfl rfl (Rf18 (by rfl) (by rfl) (by simp only [zj]; rfl)) hC.out ?_ readyZ.nil
  rintro e1 C ⟨vc, rfl, hvc, hoc, hbc⟩
  refine ⟨_, rfl, fun _ => ⟨SB.out.1.upto hbc, SB.out.2.1.upto hbc, SB.out.2.2.upto hbc⟩, ?_⟩
  obtain ⟨ac, nc, kc, rfl⟩ := hvc.shape
  have hHC := HPB.out.upto hbc
  have hkn : (ks L).length < maxLen := by
    have h1 := hHC.le
    have h2 := HRm.out.1.2
    have h3 := kput_len (ks L) q
    unfold maxLen
    omega
  obtain ⟨D, hD1, hD2, hD3⟩ := hHC.map.put HQ.out (Cn.isS o hvc) hkn
  obtain ⟨hf1, hf2⟩ := HPB.out.put hbc hvc HL.out hD2 hD3
  have HF := hide (show PcF w c m ov room ep (putL room L q (o, P)) q o D from ⟨_, _, _, by rw [hpl]; exact hf1, fput_same _ _ _, fun g hg => Nat.le_trans (Nat.le_trans HU.out.2.2.2.1.size HTB.out.size) (hoc g hg), fun g hg => (HH.out.2.1 g hg).elim .inl (fun qq => .inr (Nat.le_trans (by have := HU.out.2.2.2.2; omega) qq)), (Turns.of_below HU.out.2.2.2.1).trans (((HTB.out.trans (hf2.mono (fun k _ s => .inl (.inr (.inl s))))).mono (fun k _ s => .inl s)))⟩)
  refine zw 7 [] (by kernel_rfl) ?_
  refine readyZ.skip (w' := D) rfl rfl (by go_simp) (fun h => absurd (by decide) h) ?_ readyZ.nil
  refine anyZ_done (by kernel_rfl) ?_ _
  dsimp only [Only, Exit.then]
  clear hD1 hD2 hD3 hHC hf1 hf2 hvc hoc hbc hC SB HPB HTB
  go_wp2_with fail
  go_ret
  exact ⟨rfl, HF.out⟩
set_option maxRecDepth 100000 in
set_option maxHeartbeats 4000000 in
theorem put_new {w : World} {c m : Nat} {ov : Value} {room ep : Int} {F : K6 → Value} {L : List En} (h : PC w c m ov room ep F L) {q : K6} (hq : W6 q) (e : Int) {o : Int} {v : Value} {P : List (Int × Int)} (hv : CeR w v P) (hl : P.length * 16 ≤ 140737488355328) (hvn : ∀ g, P ≠ [] → v.ownBlock = some g → ¬ PB c m ov g) (hin : q ∉ ks L) :
    Calls Try.prog 12 #[ptr c, kv q, .int .i64 ep, wy o v] w fun en w' => en = .returned (.int .i64 0) ∧ PcF w c m ov room ep (putL room L q (o, P)) q o w' := by
  obtain ⟨X, hX⟩ : ∃ X, (w.alloc (.cells #[.int .i64 q.1, .int .i64 q.2.1, .int .i64 q.2.2.1, .int .i64 q.2.2.2.1, .int .i64 q.2.2.2.2.1, .int .i64 q.2.2.2.2.2] 36)).alloc (.cells #[.int .i64 o, v] 39) = X := ⟨_, rfl⟩
  have B0 : Below w.heap.size w X := by rw [← hX]; exact box2 _ _ _
  have K0 : Bk X w.heap.size 36 (kCs q) := by rw [← hX]; exact ((Bk.new w 36 (kCs q)).upto (box1 _ _))
  have K1 : Bk X (w.heap.size + 1) 39 [.int .i64 o, v] := by rw [← hX]; exact Bk.new2 _ _ _ _
  have zX : X.heap.size = w.heap.size + 2 := by rw [← hX]; simp
  have hP := h.upto B0
  have M0 : PM X X c m ov ov room ep F L := ⟨hP, fun g e => .inl e, Turns.refl _ _⟩
  have hm := made_yes c m X (hP.blk.cell 2 _ rfl)
  have b1 := hP.blk.cell 1 _ rfl
  have HX := hide hX
  have nS : ∀ k, w.heap.size ≤ k → ¬ PB c m ov k := fun k hk hs => by have := h.lt hs; omega
  have HK0 : ∀ U, Turns (PB c m ov) X U → Bk U w.heap.size 36 (kCs q) := fun U ht => K0.kept ht (nS _ (Nat.le_refl _))
  have HK1 : ∀ U, Turns (PB c m ov) X U → Bk U (w.heap.size + 1) 39 [.int .i64 o, v] := fun U ht => K1.kept ht (nS _ (by omega))
  have HV : ∀ U, Turns (PB c m ov) X U → CeR U v P := fun U ht => (hv.kept B0).turnedN ht hvn
  have HU := hide (And.intro HK0 (And.intro HK1 (And.intro HV (And.intro B0 zX))))
  have HQ := hide hq
  have HL := hide hl
  have HRm := hide (And.intro h.rm h.le)
  have HNS := hide nS
  have HM := hide M0
  clear h hP hv hX K0 K1 B0 hq hl hvn nS HK0 HK1 HV M0 zX
  go_enter Try.func12, Try.ntmps12
  go_wp2_with (rw [HX.out])
  refine hm.mono ?_
  rintro e1 w1 ⟨rfl, rfl⟩
  clear hm
  go_wp2_with fail
  clear b1
  obtain ⟨U, hU⟩ : ∃ U, w1 = U := ⟨_, rfl⟩
  rw [hU]
  have HM1 : Hid (PM w1 U c m ov ov room ep F L) := hU ▸ HM
  clear HM HX hU
  obtain ⟨o2, a2, n2, k2, hF⟩ := isS_form (HM1.out.pc.map.isS q)
  obtain ⟨Y, hY⟩ : ∃ Y, U.drew = Y := ⟨_, rfl⟩
  have BY : Below U.heap.size U Y := by rw [← hY]; exact (Below.refl _ _).drew
  have MY := hide (HM1.out.upto BY)
  have hlk : ∀ wx, Below Y.heap.size Y wx → (Instr.lookup 59 (.map (some m)) (kv q) true).run Try.prog wx = .ok (.tuple #[wy o2 (.slice a2 n2 k2), .bool false]) wx := fun wx hx => by
    have := (MY.out.pc.upto hx).map.look2 HQ.out
    rwa [hF, decide_eq_false hin] at this
  have KY := hide (HU.out.1 Y MY.out.ht)
  obtain ⟨Z, hZ⟩ : ∃ Z, Y.alloc (.cells #[.int .i64 0, .slice none 0 0] 39) = Z := ⟨_, rfl⟩
  have BZ : Below Y.heap.size Y Z := by rw [← hZ]; exact box1 _ _
  have KZ : Bk Z Y.heap.size 39 [.int .i64 0, .slice none 0 0] := by rw [← hZ]; exact Bk.new _ _ _
  have z0 := KZ.cell 0 _ rfl
  have z1 := KZ.cell 1 _ rfl
  have u0 := KZ.frozen 0
  have u1 := KZ.frozen 1
  obtain ⟨V, hV⟩ : ∃ V, (Z.setCell ⟨Y.heap.size, 0, none⟩ (.int .i64 o2)).setCell ⟨Y.heap.size, 1, none⟩ (.slice a2 n2 k2) = V := ⟨_, rfl⟩
  have BV : Below Y.heap.size Y V := by rw [← hV]; exact (BZ.setCell (Nat.le_refl _) _).setCell (Nat.le_refl _) _
  have MV := hide (MY.out.upto BV)
  have HY := hide hY
  have HZ := hide hZ
  have HV := hide hV
  have HLk := hide hlk
  have HBV := hide BV
  clear hY hZ hV hlk KZ BV BY HM1 hF
  go_wp2_with fail
  refine wp_only ?_
  refine wp_region_z (fun wx : World => Below Y.heap.size Y wx) [] (by kernel_rfl) ?_
  rw [HY.out]
  refine zx 0 9 16 rfl (by kernel_rfl) (Below.refl _ _) ?_
  iterate 3 (refine zxc rfl (by rfl) (fun wx hx => by go_simp; rfl) ?_; simp only [zp])
  refine zxc (v := .map (some m)) rfl (by rfl) (fun wx hx => by have c0 := (MY.out.pc.upto hx).blk.cell 2 _ rfl; clear hx; go_simp) ?_
  simp only [zp]
  refine zxc (v := kv q) rfl (by rfl) (fun wx hx => by
    have K := KY.out.upto hx
    have c0 := K.cell 0 _ rfl
    have c1 := K.cell 1 _ rfl
    have c2 := K.cell 2 _ rfl
    have c3 := K.cell 3 _ rfl
    have c4 := K.cell 4 _ rfl
    have c5 := K.cell 5 _ rfl
    clear hx; go_simp) ?_
  simp only [zp]
  refine zxc (v := .tuple #[wy o2 (.slice a2 n2 k2), .bool false]) rfl (by rfl) (fun wx hx => by have hl := HLk.out wx hx; clear hx; go_simp) ?_
  simp only [zp]
  iterate 3 (refine zxc rfl (by rfl) (fun wx hx => by go_simp; rfl) ?_; simp only [zp])
  refine zxn ?_
  refine zq 9 (by kernel_rfl) rfl rfl (v' := ptr Y.heap.size) (w' := Z) (by rw [← HZ.out]; go_simp) (fun _ => BZ) ?_
  refine zw 10 [] (by kernel_rfl) ?_
  refine readyZ.skip (w' := V) rfl rfl (by rw [← HV.out]; go_simp) (fun h => HBV.out) ?_ readyZ.nil
  refine zq 11 (by kernel_rfl) rfl rfl (run_as rfl rfl) (fun _ => HBV.out) ?_
  refine anyZ_done (by kernel_rfl) ?_ _
  dsimp only [Only, Exit.then]
  clear z0 z1 u0 u1 HY HZ HV HLk HBV BZ KY MY
  go_wp2_with fail
  refine (room_is MV.out.pc).mono ?_
  rintro e1 R ⟨⟨z, rfl⟩, ov2, F2, hp2, ho2, ht2⟩
  have MR := hide (MV.out.next hp2 ho2 ht2)
  have hqn : q ∉ ks (mkr room L) := mkr_ks hin
  have hle2 := mkr_le (L := L) HRm.out.1.1 (HRm.out.2)
  have hpl : putL room L q (o, P) = putIn (mkr room L) q (o, P) := by unfold putL; rw [if_neg hin]
  clear hp2 ho2 ht2 MV
  obtain ⟨Y, hY⟩ : ∃ Y, R.drew = Y := ⟨_, rfl⟩
  have BY : Below R.heap.size R Y := by rw [← hY]; exact (Below.refl _ _).drew
  have MY := hide (MR.out.upto BY)
  have KY := hide (HU.out.1 Y MY.out.ht)
  obtain ⟨Z, hZ⟩ : ∃ Z, Y.alloc (.cells #[.int .i64 q.1, .int .i64 q.2.1, .int .i64 q.2.2.1, .int .i64 q.2.2.2.1, .int .i64 q.2.2.2.2.1, .int .i64 q.2.2.2.2.2] 36) = Z := ⟨_, rfl⟩
  have BZ : Below Y.heap.size Y Z := by rw [← hZ]; exact box1 _ _
  have hS1 : KR Z (.slice (some ⟨Y.heap.size, 0, none⟩) 1 1) [q] := by rw [← hZ]; exact Rw.single (cs := kCs) kCs_len Y q
  obtain ⟨ov3, A2, r1, r2, r3, r4⟩ := KR.more (MY.out.pc.ord.upto BZ) (Rw.rd kCs_len hS1 (by unfold maxLen; simp)) (by have := HRm.out.1.2; simp; omega) 51
  obtain ⟨s1, s2, s3, s4⟩ := MY.out.pc.pushed hqn hle2 BZ r2 r3 r4
  obtain ⟨a3, n3, k3, rfl⟩ := r2.shape
  have d3 := s4.cell 3 _ rfl
  have g3 := s4.frozen 3
  obtain ⟨A, hA⟩ : ∃ A, A2.setCell ⟨c, 3, none⟩ (.slice a3 n3 k3) = A := ⟨_, rfl⟩
  rw [hA] at s1 s2
  have HH : Hid (PH A c m (.slice a3 n3 k3) room ep F2 (mkr room L) q ∧ (∀ g, Value.ownBlock (.slice a3 n3 k3) = some g → ov.ownBlock = some g ∨ w1.heap.size ≤ g) ∧ Turns (PB c m ov) w1 A) :=
    ⟨s1, fun g hg => (s3 g hg).elim (MY.out.ob g) (fun qq => .inr (Nat.le_trans MY.out.ht.size qq)), MY.out.turns s2⟩
  have hov3 : ∃ a n k, (Value.slice a3 n3 k3) = .slice a n k := ⟨_, _, _, rfl⟩
  have hSZ := hide (show Bk Z c 61 _ ∧ Bk Z w.heap.size 36 (kCs q) from ⟨MY.out.pc.blk.upto BZ, KY.out.upto BZ⟩)
  have hSA := hide (show Bk A2 c 61 _ ∧ Bk A2 w.heap.size 36 (kCs q) from ⟨s4, by
    refine (KY.out.upto BZ).kept r4 (fun hs => ?_)
    rcases MY.out.ob _ hs with qq | qq
    · exact HNS.out w.heap.size (Nat.le_refl _) (.inr (.inr qq))
    · have := HU.out.2.2.2.2; omega⟩)
  obtain ⟨a2, n2, k2, hov2⟩ := MY.out.pc.ord.shape
  have HRr := hide r1
  have HY := hide hY
  have HZ := hide hZ
  have HA := hide hA
  clear hS1 r1 r2 r3 r4 s1 s2 s3 s4 hY hZ hA BY hqn hle2
  go_wp2_with fail
  refine wp_only ?_
  refine wp_region_z (fun wx : World => Bk wx c 61 [.int .i64 room, .int .i64 ep, .map (some m), ov2] ∧ Bk wx w.heap.size 36 (kCs q)) [10] (by kernel_rfl) ?_
  rw [HY.out]
  refine zx 0 6 16 rfl (by kernel_rfl) ⟨MY.out.pc.blk, KY.out⟩ ?_
  iterate 4 (refine zxc rfl (by rfl) (fun wx hx => by go_simp; rfl) ?_; simp only [zp])
  refine zxc (v := ov2) rfl (by rfl) (fun wx hx => by have c0 := hx.1.cell 3 _ rfl; clear hx; go_simp) ?_
  simp only [zp]
  refine zxc (v := kv q) rfl (by rfl) (fun wx hx => by
    have c0 := hx.2.cell 0 _ rfl
    have c1 := hx.2.cell 1 _ rfl
    have c2 := hx.2.cell 2 _ rfl
    have c3 := hx.2.cell 3 _ rfl
    have c4 := hx.2.cell 4 _ rfl
    have c5 := hx.2.cell 5 _ rfl
    clear hx; go_simp) ?_
  simp only [zp]
  refine zxn ?_
  refine zq 6 (by kernel_rfl) rfl rfl (v' := .slice (some ⟨Y.heap.size, 0, none⟩) 1 1) (w' := Z) (by rw [← HZ.out]; go_simp) (fun _ => hSZ.out) ?_
  refine zq 7 (by kernel_rfl) rfl rfl (run_app rfl rfl rfl HRr.out) (fun _ => hSA.out) ?_
  refine zq 8 (by kernel_rfl) rfl rfl (run_nc rfl rfl) (fun _ => hSA.out) ?_
  refine zq 9 (by kernel_rfl) rfl rfl (v' := .pointer (some ⟨c, 3, none⟩)) (by go_simp) (fun _ => hSA.out) ?_
  refine zw 10 [] (by kernel_rfl) ?_
  refine readyZ.skip (w' := A) rfl rfl (by rw [← HA.out]; go_simp) (fun h => absurd (by decide) h) ?_ readyZ.nil
  refine anyZ_done (by kernel_rfl) ?_ _
  dsimp only [Only, Exit.then]
  clear d3 g3 hSZ hSA HRr HY HZ HA BZ KY MY MR
  obtain ⟨B, hB⟩ : ∃ B, A.drew = B := ⟨_, rfl⟩
  have BB : Below A.heap.size A B := by rw [← hB]; exact (Below.refl _ _).drew
  have HB := hide hB
  have TB : Turns (PB c m ov) w1 B := HH.out.2.2.trans ((Turns.of_below BB).mono (fun k _ s => .inl s))
  have HPB := hide (HH.out.1.upto BB)
  have hC := hide (copied_is o v P B (HU.out.2.2.1 B TB) HL.out)
  have SB := hide (show Bk B c 61 _ ∧ Bk B w.heap.size 36 (kCs q) ∧ Bk B (w.heap.size + 1) 39 [.int .i64 o, v] from ⟨HPB.out.blk, HU.out.1 B TB, HU.out.2.1 B TB⟩)
  have HTB := hide TB
  clear hB BB TB
  go_wp2_with fail
  refine wp_only ?_
  refine wp_region_z (fun wx : World => Bk wx c 61 [.int .i64 room, .int .i64 ep, .map (some m), (.slice a3 n3 k3)] ∧ Bk wx w.heap.size 36 (kCs q) ∧ Bk wx (w.heap.size + 1) 39 [.int .i64 o, v]) [7] (by kernel_rfl) ?_
  rw [HB.out]
  refine zx 0 6 16 rfl (by kernel_rfl) SB.out ?_
  iterate 3 (refine zxc rfl (by rfl) (fun wx hx => by go_simp; rfl) ?_; simp only [zp])
  refine zxc (v := .map (some m)) rfl (by rfl) (fun wx hx => by have c0 := hx.1.cell 2 _ rfl; clear hx; go_simp) ?_
  simp only [zp]
  refine zxc (v := kv q) rfl (by rfl) (fun wx hx => by
    have c0 := hx.2.1.cell 0 _ rfl
    have c1 := hx.2.1.cell 1 _ rfl
    have c2 := hx.2.1.cell 2 _ rfl
    have c3 := hx.2.1.cell 3 _ rfl
    have c4 := hx.2.1.cell 4 _ rfl
    have c5 := hx.2.1.cell 5 _ rfl
    clear hx; go_simp) ?_
  simp only [zp]
  refine zxc (v := wy o v) rfl (by rfl) (fun wx hx => by
    have c0 := hx.2.2.cell 0 _ rfl
    have c1 := hx.2.2.cell 1 _ rfl
    clear hx; go_simp) ?_
  simp only [zp]
  refine zxn ?_
  refine zw 6 [] (by kernel_rfl) ?_
  refine readyZ.call rfl rfl (Rf18 (by rfl) (by rfl) (by simp only [zj]; rfl)) hC.out ?_ readyZ.nil
  rintro e1 C ⟨vc, rfl, hvc, hoc, hbc⟩
  refine ⟨_, rfl, fun _ => ⟨SB.out.1.upto hbc, SB.out.2.1.upto hbc, SB.out.2.2.upto hbc⟩, ?_⟩
  obtain ⟨ac, nc, kc, rfl⟩ := hvc.shape
  have hHC := HPB.out.upto hbc
  have hkn : (ks (mkr room L)).length < maxLen := by
    have h1 := hHC.le
    have h2 := HRm.out.1.2
    have h3 := kput_len (ks (mkr room L)) q
    unfold maxLen
    omega
  obtain ⟨D, hD1, hD2, hD3⟩ := hHC.map.put HQ.out (Cn.isS o hvc) hkn
  obtain ⟨hf1, hf2⟩ := HPB.out.put hbc hvc HL.out hD2 hD3
  have HF := hide (show PcF w c m ov room ep (putL room L q (o, P)) q o D from ⟨_, _, _, by rw [hpl]; exact hf1, fput_same _ _ _, fun g hg => Nat.le_trans (Nat.le_trans HU.out.2.2.2.1.size HTB.out.size) (hoc g hg), fun g hg => (HH.out.2.1 g hg).elim .inl (fun qq => .inr (Nat.le_trans (by have := HU.out.2.2.2.2; omega) qq)), (Turns.of_below HU.out.2.2.2.1).trans (((HTB.out.trans (hf2.mono (fun k _ s => .inl (.inr (.inl s))))).mono (fun k _ s => .inl s)))⟩)
  refine zw 7 [] (by kernel_rfl) ?_
  refine readyZ.skip (w' := D) rfl rfl (by go_simp) (fun h => absurd (by decide) h) ?_ readyZ.nil
  refine anyZ_done (by kernel_rfl) ?_ _
  dsimp only [Only, Exit.then]
  clear hD1 hD2 hD3 hHC hf1 hf2 hvc hoc hbc hC SB HPB HTB
  go_wp2_with fail
  go_ret
  exact ⟨rfl, HF.out⟩
set_option maxRecDepth 100000 in
set_option maxHeartbeats 4000000 in
theorem put_epoch {w : World} {c m : Nat} {ov : Value} {room ep : Int} {F : K6 → Value} {L : List En} (h : PC w c m ov room ep F L) {q : K6} (hq : W6 q) (e : Int) {o : Int} {v : Value} {P : List (Int × Int)} (hv : CeR w v P) (hl : P.length * 16 ≤ 140737488355328) (hvn : ∀ g, P ≠ [] → v.ownBlock = some g → ¬ PB c m ov g) (hne : e ≠ ep) :
    Calls Try.prog 12 #[ptr c, kv q, .int .i64 e, wy o v] w fun en w' => en = .returned (.int .i64 0) ∧ PcF w c m ov room e (putL room ([] : List En) q (o, P)) q o w' := by
  obtain ⟨X, hX⟩ : ∃ X, (w.alloc (.cells #[.int .i64 q.1, .int .i64 q.2.1, .int .i64 q.2.2.1, .int .i64 q.2.2.2.1, .int .i64 q.2.2.2.2.1, .int .i64 q.2.2.2.2.2] 36)).alloc (.cells #[.int .i64 o, v] 39) = X := ⟨_, rfl⟩
  have B0 : Below w.heap.size w X := by rw [← hX]; exact box2 _ _ _
  have K0 : Bk X w.heap.size 36 (kCs q) := by rw [← hX]; exact ((Bk.new w 36 (kCs q)).upto (box1 _ _))
  have K1 : Bk X (w.heap.size + 1) 39 [.int .i64 o, v] := by rw [← hX]; exact Bk.new2 _ _ _ _
  have zX : X.heap.size = w.heap.size + 2 := by rw [← hX]; simp
  have hP := h.upto B0
  have M0 : PM X X c m ov ov room ep F L := ⟨hP, fun g e => .inl e, Turns.refl _ _⟩
  have hm := made_yes c m X (hP.blk.cell 2 _ rfl)
  have b1 := hP.blk.cell 1 _ rfl
  have HX := hide hX
  have nS : ∀ k, w.heap.size ≤ k → ¬ PB c m ov k := fun k hk hs => by have := h.lt hs; omega
  have HK0 : ∀ U, Turns (PB c m ov) X U → Bk U w.heap.size 36 (kCs q) := fun U ht => K0.kept ht (nS _ (Nat.le_refl _))
  have HK1 : ∀ U, Turns (PB c m ov) X U → Bk U (w.heap.size + 1) 39 [.int .i64 o, v] := fun U ht => K1.kept ht (nS _ (by omega))
  have HV : ∀ U, Turns (PB c m ov) X U → CeR U v P := fun U ht => (hv.kept B0).turnedN ht hvn
  have HU := hide (And.intro HK0 (And.intro HK1 (And.intro HV (And.intro B0 zX))))
  have HQ := hide hq
  have HL := hide hl
  have HRm := hide (And.intro h.rm h.le)
  have HNS := hide nS
  have hin : q ∉ ks ([] : List En) := by simp
  have HB := hide (begin_is hP e)
  have HM0 := hide M0
  clear h hP hv hX K0 K1 B0 hq hl hvn nS HK0 HK1 HV M0 zX
  go_enter Try.func12, Try.ntmps12
  go_wp2_with (rw [HX.out])
  refine hm.mono ?_
  rintro e1 w1 ⟨rfl, rfl⟩
  clear hm
  go_wp2_with fail
  clear b1
  refine HB.out.mono ?_
  rintro e1 U ⟨⟨z, rfl⟩, ov1, hp1, ho1, ht1⟩
  have HM1 := hide (HM0.out.next hp1 (fun g hg => .inl (ho1 ▸ hg)) (ht1.mono (fun k _ s => s.elim .inl (fun s => .inr (.inl s)))))
  clear hp1 ho1 ht1 HB HM0 HX
  obtain ⟨o2, a2, n2, k2, hF⟩ := isS_form (HM1.out.pc.map.isS q)
  obtain ⟨Y, hY⟩ : ∃ Y, U.drew = Y := ⟨_, rfl⟩
  have BY : Below U.heap.size U Y := by rw [← hY]; exact (Below.refl _ _).drew
  have MY := hide (HM1.out.upto BY)
  have hlk : ∀ wx, Below Y.heap.size Y wx → (Instr.lookup 59 (.map (some m)) (kv q) true).run Try.prog wx = .ok (.tuple #[wy o2 (.slice a2 n2 k2), .bool false]) wx := fun wx hx => by
    have := (MY.out.pc.upto hx).map.look2 HQ.out
    rwa [hF, decide_eq_false hin] at this
  have KY := hide (HU.out.1 Y MY.out.ht)
  obtain ⟨Z, hZ⟩ : ∃ Z, Y.alloc (.cells #[.int .i64 0, .slice none 0 0] 39) = Z := ⟨_, rfl⟩
  have BZ : Below Y.heap.size Y Z := by rw [← hZ]; exact box1 _ _
  have KZ : Bk Z Y.heap.size 39 [.int .i64 0, .slice none 0 0] := by rw [← hZ]; exact Bk.new _ _ _
  have z0 := KZ.cell 0 _ rfl
  have z1 := KZ.cell 1 _ rfl
  have u0 := KZ.frozen 0
  have u1 := KZ.frozen 1
  obtain ⟨V, hV⟩ : ∃ V, (Z.setCell ⟨Y.heap.size, 0, none⟩ (.int .i64 o2)).setCell ⟨Y.heap.size, 1, none⟩ (.slice a2 n2 k2) = V := ⟨_, rfl⟩
  have BV : Below Y.heap.size Y V := by rw [← hV]; exact (BZ.setCell (Nat.le_refl _) _).setCell (Nat.le_refl _) _
  have MV := hide (MY.out.upto BV)
  have HY := hide hY
  have HZ := hide hZ
  have HV := hide hV
  have HLk := hide hlk
  have HBV := hide BV
  clear hY hZ hV hlk KZ BV BY HM1 hF
  go_wp2_with fail
  refine wp_only ?_
  refine wp_region_z (fun wx : World => Below Y.heap.size Y wx) [] (by kernel_rfl) ?_
  rw [HY.out]
  refine zx 0 9 16 rfl (by kernel_rfl) (Below.refl _ _) ?_
  iterate 3 (refine zxc rfl (by rfl) (fun wx hx => by go_simp; rfl) ?_; simp only [zp])
  refine zxc (v := .map (some m)) rfl (by rfl) (fun wx hx => by have c0 := (MY.out.pc.upto hx).blk.cell 2 _ rfl; clear hx; go_simp) ?_
  simp only [zp]
  refine zxc (v := kv q) rfl (by rfl) (fun wx hx => by
    have K := KY.out.upto hx
    have c0 := K.cell 0 _ rfl
    have c1 := K.cell 1 _ rfl
    have c2 := K.cell 2 _ rfl
    have c3 := K.cell 3 _ rfl
    have c4 := K.cell 4 _ rfl
    have c5 := K.cell 5 _ rfl
    clear hx; go_simp) ?_
  simp only [zp]
  refine zxc (v := .tuple #[wy o2 (.slice a2 n2 k2), .bool false]) rfl (by rfl) (fun wx hx => by have hl := HLk.out wx hx; clear hx; go_simp) ?_
  simp only [zp]
  iterate 3 (refine zxc rfl (by rfl) (fun wx hx => by go_simp; rfl) ?_; simp only [zp])
  refine zxn ?_
  refine zq 9 (by kernel_rfl) rfl rfl (v' := ptr Y.heap.size) (w' := Z) (by rw [← HZ.out]; go_simp) (fun _ => BZ) ?_
  refine zw 10 [] (by kernel_rfl) ?_
  refine readyZ.skip (w' := V) rfl rfl (by rw [← HV.out]; go_simp) (fun h => HBV.out) ?_ readyZ.nil
  refine zq 11 (by kernel_rfl) rfl rfl (run_as rfl rfl) (fun _ => HBV.out) ?_
  refine anyZ_done (by kernel_rfl) ?_ _
  dsimp only [Only, Exit.then]
  clear z0 z1 u0 u1 HY HZ HV HLk HBV BZ KY MY
  go_wp2_with fail
  refine (room_is MV.out.pc).mono ?_
  rintro e1 R ⟨⟨z, rfl⟩, ov2, F2, hp2, ho2, ht2⟩
  have MR := hide (MV.out.next hp2 ho2 ht2)
  have hqn : q ∉ ks (mkr room ([] : List En)) := mkr_ks hin
  have hle2 := mkr_le (L := ([] : List En)) HRm.out.1.1 (by have := HRm.out.1.1; simp; omega)
  have hpl : putL room ([] : List En) q (o, P) = putIn (mkr room ([] : List En)) q (o, P) := by unfold putL; rw [if_neg hin]
  clear hp2 ho2 ht2 MV
  obtain ⟨Y, hY⟩ : ∃ Y, R.drew = Y := ⟨_, rfl⟩
  have BY : Below R.heap.size R Y := by rw [← hY]; exact (Below.refl _ _).drew
  have MY := hide (MR.out.upto BY)
  have KY := hide (HU.out.1 Y MY.out.ht)
  obtain ⟨Z, hZ⟩ : ∃ Z, Y.alloc (.cells #[.int .i64 q.1, .int .i64 q.2.1, .int .i64 q.2.2.1, .int .i64 q.2.2.2.1, .int .i64 q.2.2.2.2.1, .int .i64 q.2.2.2.2.2] 36) = Z := ⟨_, rfl⟩
  have BZ : Below Y.heap.size Y Z := by rw [← hZ]; exact box1 _ _
  have hS1 : KR Z (.slice (some ⟨Y.heap.size, 0, none⟩) 1 1) [q] := by rw [← hZ]; exact Rw.single (cs := kCs) kCs_len Y q
  obtain ⟨ov3, A2, r1, r2, r3, r4⟩ := KR.more (MY.out.pc.ord.upto BZ) (Rw.rd kCs_len hS1 (by unfold maxLen; simp)) (by have := HRm.out.1.2; simp; omega) 51
  obtain ⟨s1, s2, s3, s4⟩ := MY.out.pc.pushed hqn hle2 BZ r2 r3 r4
  obtain ⟨a3, n3, k3, rfl⟩ := r2.shape
  have d3 := s4.cell 3 _ rfl
  have g3 := s4.frozen 3
  obtain ⟨A, hA⟩ : ∃ A, A2.setCell ⟨c, 3, none⟩ (.slice a3 n3 k3) = A := ⟨_, rfl⟩
  rw [hA] at s1 s2
  have HH : Hid (PH A c m (.slice a3 n3 k3) room e F2 (mkr room ([] : List En)) q ∧ (∀ g, Value.ownBlock (.slice a3 n3 k3) = some g → ov.ownBlock = some g ∨ w1.heap.size ≤ g) ∧ Turns (PB c m ov) w1 A) :=
    ⟨s1, fun g hg => (s3 g hg).elim (MY.out.ob g) (fun qq => .inr (Nat.le_trans MY.out.ht.size qq)), MY.out.turns s2⟩
  have hov3 : ∃ a n k, (Value.slice a3 n3 k3) = .slice a n k := ⟨_, _, _, rfl⟩
  have hSZ := hide (show Bk Z c 61 _ ∧ Bk Z w.heap.size 36 (kCs q) from ⟨MY.out.pc.blk.upto BZ, KY.out.upto BZ⟩)
  have hSA := hide (show Bk A2 c 61 _ ∧ Bk A2 w.heap.size 36 (kCs q) from ⟨s4, by
    refine (KY.out.upto BZ).kept r4 (fun hs => ?_)
    rcases MY.out.ob _ hs with qq | qq
    · exact HNS.out w.heap.size (Nat.le_refl _) (.inr (.inr qq))
    · have := HU.out.2.2.2.2; omega⟩)
  obtain ⟨a2, n2, k2, hov2⟩ := MY.out.pc.ord.shape
  have HRr := hide r1
  have HY := hide hY
  have HZ := hide hZ
  have HA := hide hA
  clear hS1 r1 r2 r3 r4 s1 s2 s3 s4 hY hZ hA BY hqn hle2
  go_wp2_with fail
  refine wp_only ?_
  refine wp_region_z (fun wx : World => Bk wx c 61 [.int .i64 room, .int .i64 e, .map (some m), ov2] ∧ Bk wx w.heap.size 36 (kCs q)) [10] (by kernel_rfl) ?_
  rw [HY.out]
  refine zx 0 6 16 rfl (by kernel_rfl) ⟨MY.out.pc.blk, KY.out⟩ ?_
  iterate 4 (refine zxc rfl (by rfl) (fun wx hx => by go_simp; rfl) ?_; simp only [zp])
  refine zxc (v := ov2) rfl (by rfl) (fun wx hx => by have c0 := hx.1.cell 3 _ rfl; clear hx; go_simp) ?_
  simp only [zp]
  refine zxc (v := kv q) rfl (by rfl) (fun wx hx => by
    have c0 := hx.2.cell 0 _ rfl
    have c1 := hx.2.cell 1 _ rfl
    have c2 := hx.2.cell 2 _ rfl
    have c3 := hx.2.cell 3 _ rfl
    have c4 := hx.2.cell 4 _ rfl
    have c5 := hx.2.cell 5 _ rfl
    clear hx; go_simp) ?_
  simp only [zp]
  refine zxn ?_
  refine zq 6 (by kernel_rfl) rfl rfl (v' := .slice (some ⟨Y.heap.size, 0, none⟩) 1 1) (w' := Z) (by rw [← HZ.out]; go_simp) (fun _ => hSZ.out) ?_
  refine zq 7 (by kernel_rfl) rfl rfl (run_app rfl rfl rfl HRr.out) (fun _ => hSA.out) ?_
  refine zq 8 (by kernel_rfl) rfl rfl (run_nc rfl rfl) (fun _ => hSA.out) ?_
  refine zq 9 (by kernel_rfl) rfl rfl (v' := .pointer (some ⟨c, 3, none⟩)) (by go_simp) (fun _ => hSA.out) ?_
  refine zw 10 [] (by kernel_rfl) ?_
  refine readyZ.skip (w' := A) rfl rfl (by rw [← HA.out]; go_simp) (fun h => absurd (by decide) h) ?_ readyZ.nil
  refine anyZ_done (by kernel_rfl) ?_ _
  dsimp only [Only, Exit.then]
  clear d3 g3 hSZ hSA HRr HY HZ HA BZ KY MY MR
  obtain ⟨B, hB⟩ : ∃ B, A.drew = B := ⟨_, rfl⟩
  have BB : Below A.heap.size A B := by rw [← hB]; exact (Below.refl _ _).drew
  have HB := hide hB
  have TB : Turns (PB c m ov) w1 B := HH.out.2.2.trans ((Turns.of_below BB).mono (fun k _ s => .inl s))
  have HPB := hide (HH.out.1.upto BB)
  have hC := hide (copied_is o v P B (HU.out.2.2.1 B TB) HL.out)
  have SB := hide (show Bk B c 61 _ ∧ Bk B w.heap.size 36 (kCs q) ∧ Bk B (w.heap.size + 1) 39 [.int .i64 o, v] from ⟨HPB.out.blk, HU.out.1 B TB, HU.out.2.1 B TB⟩)
  have HTB := hide TB
  clear hB BB TB
  go_wp2_with fail
  refine wp_only ?_
  refine wp_region_z (fun wx : World => Bk wx c 61 [.int .i64 room, .int .i64 e, .map (some m), (.slice a3 n3 k3)] ∧ Bk wx w.heap.size 36 (kCs q) ∧ Bk wx (w.heap.size + 1) 39 [.int .i64 o, v]) [7] (by kernel_rfl) ?_
  rw [HB.out]
  refine zx 0 6 16 rfl (by kernel_rfl) SB.out ?_
  iterate 3 (refine zxc rfl (by rfl) (fun wx hx => by go_simp; rfl) ?_; simp only [zp])
  refine zxc (v := .map (some m)) rfl (by rfl) (fun wx hx => by have c0 := hx.1.cell 2 _ rfl; clear hx; go_simp) ?_
  simp only [zp]
  refine zxc (v := kv q) rfl (by rfl) (fun wx hx => by
    have c0 := hx.2.1.cell 0 _ rfl
    have c1 := hx.2.1.cell 1 _ rfl
    have c2 := hx.2.1.cell 2 _ rfl
    have c3 := hx.2.1.cell 3 _ rfl
    have c4 := hx.2.1.cell 4 _ rfl
    have c5 := hx.2.1.cell 5 _ rfl
    clear hx; go_simp) ?_
  simp only [zp]
  refine zxc (v := wy o v) rfl (by rfl) (fun wx hx => by
    have c0 := hx.2.2.cell 0 _ rfl
    have c1 := hx.2.2.cell 1 _ rfl
    clear hx; go_simp) ?_
  simp only [zp]
  refine zxn ?_
  refine zw 6 [] (by kernel_rfl) ?_
  refine readyZ.call rfl rfl (Rf18 (by rfl) (by rfl) (by simp only [zj]; rfl)) hC.out ?_ readyZ.nil
  rintro e1 C ⟨vc, rfl, hvc, hoc, hbc⟩
  refine ⟨_, rfl, fun _ => ⟨SB.out.1.upto hbc, SB.out.2.1.upto hbc, SB.out.2.2.upto hbc⟩, ?_⟩
  obtain ⟨ac, nc, kc, rfl⟩ := hvc.shape
  have hHC := HPB.out.upto hbc
  have hkn : (ks (mkr room ([] : List En))).length < maxLen := by
    have h1 := hHC.le
    have h2 := HRm.out.1.2
    have h3 := kput_len (ks (mkr room ([] : List En))) q
    unfold maxLen
    omega
  obtain ⟨D, hD1, hD2, hD3⟩ := hHC.map.put HQ.out (Cn.isS o hvc) hkn
  obtain ⟨hf1, hf2⟩ := HPB.out.put hbc hvc HL.out hD2 hD3
  have HF := hide (show PcF w c m ov room e (putL room ([] : List En) q (o, P)) q o D from ⟨_, _, _, by rw [hpl]; exact hf1, fput_same _ _ _, fun g hg => Nat.le_trans (Nat.le_trans HU.out.2.2.2.1.size HTB.out.size) (hoc g hg), fun g hg => (HH.out.2.1 g hg).elim .inl (fun qq => .inr (Nat.le_trans (by have := HU.out.2.2.2.2; omega) qq)), (Turns.of_below HU.out.2.2.2.1).trans (((HTB.out.trans (hf2.mono (fun k _ s => .inl (.inr (.inl s))))).mono (fun k _ s => .inl s)))⟩)
  refine zw 7 [] (by kernel_rfl) ?_
  refine readyZ.skip (w' := D) rfl rfl (by go_simp) (fun h => absurd (by decide) h) ?_ readyZ.nil
  refine anyZ_done (by kernel_rfl) ?_ _
  dsimp only [Only, Exit.then]
  clear hD1 hD2 hD3 hHC hf1 hf2 hvc hoc hbc hC SB HPB HTB
  go_wp2_with fail
  go_ret
  exact ⟨rfl, HF.out⟩
end Go.Proofs.Ytihjmgdihpeffaa
