/-
  The document's Put.
-/
import Derived.Test.YtihjmgdihpeffaaRputA
namespace Go.Proofs.Ytihjmgdihpeffaa
open Go.RowKit
set_option linter.unusedVariables false
set_option linter.unusedSimpArgs false
set_option maxRecDepth 100000 in
set_option maxHeartbeats 40000000 in
theorem rput_room {w : World} {d : Nat} {kx wx : Value} {room ep : Int} {U : List Wv} {L : List En} (h : RC w d kx wx room ep U L) (q : K6) (e : Int) {o : Int} {v : Value} {P : List (Int × Int)} (hv : CeR w v P) (hl : P.length * 16 ≤ 140737488355328) (hvd : ∀ g, P ≠ [] → v.ownBlock = some g → g ≠ d) (hjn : q ∉ ks L) (hjp : plc (ks L) q 0 = -1) (hroom : (L.length : Int) < room) :
    Calls Try.prog 13 #[ptr d, kv q, .int .i64 ep, wy o v] w fun en w' => (∃ z, en = .returned z) ∧ RpE w d kx wx room ep (putL room L q (o, P)) w' := by
  obtain ⟨a0, n0, c0, rfl⟩ : ∃ a n c, v = .slice a n c := by obtain ⟨a, c, e, -⟩ := hv.slice; exact ⟨_, _, _, e⟩
  obtain ⟨X, hX⟩ : ∃ X, (w.alloc (.cells #[.int .i64 q.1, .int .i64 q.2.1, .int .i64 q.2.2.1, .int .i64 q.2.2.2.1, .int .i64 q.2.2.2.2.1, .int .i64 q.2.2.2.2.2] 36)).alloc (.cells #[.int .i64 o, .slice a0 n0 c0] 39) = X := ⟨_, rfl⟩
  have B0 : Below w.heap.size w X := by rw [← hX]; exact box2 _ _ _
  have K0 : Bk X w.heap.size 36 (kCs q) := by rw [← hX]; exact ((Bk.new w 36 (kCs q)).upto (box1 _ _))
  have K1 : Bk X (w.heap.size + 1) 39 [.int .i64 o, .slice a0 n0 c0] := by rw [← hX]; exact Bk.new2 _ _ _ _
  have hd := h.blk.lt
  have hP := h.upto B0
  have hRM := hide (And.intro h.rm h.le)
  have hkl : ∀ g, kx.ownBlock = some g → g < w.heap.size := fun g e => by obtain ⟨cur, hc⟩ := h.keys.blk e; exact (Array.getElem?_eq_some_iff.1 hc).1
  have hwl : ∀ g, wx.ownBlock = some g → g < w.heap.size := fun g e => by obtain ⟨cur, hc⟩ := h.ways.blk e; exact (Array.getElem?_eq_some_iff.1 hc).1
  have b1 := hP.blk.cell 1 _ rfl
  have HX := hide hX
  clear hX
  obtain ⟨S0, rfl⟩ : ∃ S0, S0 = X := ⟨_, rfl⟩
  have T0 : Turns (fun g => g = d) w S0 := Turns.of_below B0
  have R0 : RC S0 d kx wx room ep U L := hP
  have J0 : Bk S0 w.heap.size 36 (kCs q) := K0
  have J1 : Bk S0 (w.heap.size + 1) 39 [.int .i64 o, .slice a0 n0 c0] := K1
  have hv0 : CeR S0 (.slice a0 n0 c0) P := hv.turnedN T0 (fun g hne hg => hvd g hne hg)
  obtain ⟨Z1, hZ1⟩ : ∃ Z1, S0.alloc (.cells #[] 34) = Z1 := ⟨_, rfl⟩
  have BZ1 : Below S0.heap.size S0 Z1 := by rw [← hZ1]; exact box1 _ _
  have CZ1 : Cn Z1 (.slice (some ⟨S0.heap.size, 0, none⟩) 0 0) [] := by rw [← hZ1]; exact Rw.built S0
  obtain ⟨vc, Z2, r1, r2, r3, r4⟩ := Cn.more CZ1 (hv0.kept BZ1) (by rw [List.length_nil, Nat.zero_add]; exact hl) 37
  rw [List.nil_append] at r2
  obtain ⟨ac, nc, cc, rfl⟩ := r2.shape
  have BZ2 : Below S0.heap.size S0 Z2 := BZ1.trans (r4.below (B := S0.heap.size) (blk_le0 (Nat.le_refl _)) BZ1.size)
  have R2 := R0.upto BZ2
  have J0z := J0.upto BZ2
  have J1z := J1.upto BZ2
  obtain ⟨S1, hS1⟩ : ∃ S1, Z2.setCell ⟨w.heap.size + 1, 1, none⟩ (.slice ac nc cc) = S1 := ⟨_, rfl⟩
  have TS1 : Turns (fun g => g = w.heap.size + 1) Z2 S1 := by rw [← hS1]; exact Turns.set (S := fun g => g = w.heap.size + 1) Z2 rfl _
  have M1 : Bk S1 (w.heap.size + 1) 39 [.int .i64 o, .slice ac nc cc] := by rw [← hS1]; exact J1z.set 1 _
  have M0 : Bk S1 w.heap.size 36 (kCs q) := J0z.kept TS1 (by omega)
  have hbx : ∀ g, g = w.heap.size + 1 → ∀ cur, Z2.heap[g]? ≠ some (.cells cur 34 (0, 0)) := fun g hg cur hc => by subst hg; have := J1z.symm.trans hc; simp at this
  have R3 : RC S1 d kx wx room ep U L := R2.kept TS1 (by omega) (fun g hg => by have := hkl g hg; omega) (fun g hg => by have := hwl g hg; omega) hbx
  have C3 : Cn S1 (.slice ac nc cc) P := r2.stay TS1 hbx
  have T3 : Turns (fun g => g = d) w S1 := (T0.down (BZ2.mono T0.size)).trans (TS1.mono (fun k _ s => .inr (by omega)))
  have hlk : (ks L).length = List.length L := by simp
  have hpl := place_is R3.blk R3.keys (by have := hRM.out.1; have := R3.le; rw [hlk]; omega) q
  have q0 := M0.cell 0 _ rfl
  have q1 := M0.cell 1 _ rfl
  have q2 := M0.cell 2 _ rfl
  have q3 := M0.cell 3 _ rfl
  have q4 := M0.cell 4 _ rfl
  have q5 := M0.cell 5 _ rfl
  have z1 := (J1.upto BZ1).cell 1 _ rfl
  have z2 := J1z.cell 1 _ rfl
  have zf := J1z.frozen 1
  have HR1 := hide r1
  have HZ1 := hide hZ1
  have HS1 := hide hS1
  rw [hjp] at hpl
  have HPl := hide hpl
  have HM := hide (And.intro M1 <| And.intro M0 <| And.intro R3 <| And.intro C3 T3)
  have HD := hide hd
  clear hP h hv hvd B0 K0 K1 hd hkl hwl T0 R0 J0 J1 hv0 hZ1 BZ1 CZ1 r1 r2 r3 r4 BZ2 R2 J0z J1z hS1 TS1 M1 M0 hbx R3 C3 T3 hpl
  go_enter Try.func13, Try.ntmps13
  go_wp2_with (first | (refine wpList_append_run rfl _ _ 37 rfl _ _ (by rfl) (by rfl) (by first | exact HR1.out | (rw [HZ1.out]; exact HR1.out)) ?_) | (rw [HX.out]) | (rw [HZ1.out]) | (rw [HS1.out]))
  clear q0 q1 q2 q3 q4 q5 z1 z2 zf b1 HR1 HZ1 HS1 HX
  refine HPl.out.mono ?_
  rintro e1 W1 ⟨rfl, hb1⟩
  obtain ⟨M1, M0, R3, C3, T3⟩ := HM.out
  have R4 := R3.upto hb1
  have N1 := M1.upto hb1
  have N0 := M0.upto hb1
  have C4 : Cn W1 (.slice ac nc cc) P := C3.upto hb1
  have T4 : Turns (fun g => g = d) w W1 := T3.down (hb1.mono T3.size)
  clear M1 M0 R3 C3 T3 hb1 HM HPl
  obtain ⟨T0, hT0⟩ : ∃ T, W1.drew = T := ⟨_, rfl⟩
  have B9 : Below W1.heap.size W1 T0 := by rw [← hT0]; exact (Below.refl _ _).drew
  have R5 := R4.upto B9
  have hlk : (ks L).length = List.length L := by simp
  obtain ⟨ka9, kn9, kc9, hk9⟩ := R5.keys.shape
  have hn9 := key_len R5.keys hk9
  rw [hlk] at hn9
  have c2 := R5.blk.cell 2 _ rfl
  have c0 := R5.blk.cell 0 _ rfl
  obtain ⟨K2, hK2⟩ : ∃ z9, ks L = z9 := ⟨_, rfl⟩
  obtain ⟨L2, hL2⟩ : ∃ z9, L = z9 := ⟨_, rfl⟩
  obtain ⟨U2, hU2⟩ : ∃ z9, U = z9 := ⟨_, rfl⟩
  obtain ⟨kx2, hkx2⟩ : ∃ v, kx = v := ⟨_, rfl⟩
  obtain ⟨wx2, hwx2⟩ : ∃ v, wx = v := ⟨_, rfl⟩
  have hmk : mkr room L = L := by unfold mkr; rw [if_pos hroom]
  have HT : Hid (Bk T0 d 54 [.int .i64 room, .int .i64 ep, kx2, wx2] ∧ Rd 6 kCs T0 kx2 K2 ∧ Rd 2 wCs T0 wx2 U2 ∧ Bk T0 w.heap.size 36 (kCs q) ∧ Bk T0 (w.heap.size + 1) 39 [.int .i64 o, .slice ac nc cc] ∧ Cn T0 (.slice ac nc cc) P ∧ (∀ (i : Nat) (u : Wv) (x : En), U2[i]? = some u → L2[i]? = some x → u.1 = x.2.1 ∧ Cn T0 u.v x.2.2) ∧ Turns (fun g => g = d) w T0) := by
    rw [← hkx2, ← hwx2, ← hU2, ← hL2, ← hK2]
    exact ⟨R5.blk, Rw.rd kCs_len R5.keys R5.keys.cap, Rw.rd wCs_len R5.ways R5.ways.cap, N0.upto B9, N1.upto B9, Rw.upto C4 B9, R5.way, T4.down (B9.mono T4.size)⟩
  have HL2 : Hid (ks L2 = K2 ∧ U2.length = L2.length ∧ K2.Nodup ∧ q ∉ K2 ∧ (∀ x ∈ L2, x.2.2.length * 16 ≤ 140737488355328) ∧ (L2.length : Int) + 1 ≤ room ∧ putL room L q (o, P) = L2 ++ [(q, (o, P))] ∧ (∀ g, wx2.ownBlock = some g → g ≠ d)) := by
    rw [← hwx2, ← hU2, ← hK2, ← hL2]
    exact ⟨rfl, R5.len, R5.nd, hjn, R5.fit, by omega, by unfold putL; rw [if_neg hjn, hmk]; unfold putIn; rw [if_neg hjn], fun g hg e => R5.ways.notBk R5.blk (by decide) (e ▸ hg)⟩
  have HLN : Hid (K2.length ≤ 256 ∧ U2.length ≤ 256) := by
    have h1 := hRM.out.1
    rw [← hK2, ← hU2, R5.len, hlk]
    exact ⟨by omega, by omega⟩
  have hnr : ¬ ((kn9 : Nat) : Int) = room := by omega
  have HT0 := hide hT0
  rw [hk9] at c2
  clear B9 R5 hlk hk9 hn9 hK2 hL2 hU2 hkx2 hwx2 hmk hT0 R4 N1 N0 C4 T4
  go_wp2_with fail
  refine wp_only ?_
  refine wp_region_z (fun wx : World => wx = T0) [] (by kernel_rfl) ?_
  rw [HT0.out]
  refine zx 0 10 16 rfl (by kernel_rfl) rfl ?_
  iterate 9 (refine zxc rfl (by rfl) (fun wx hx => by subst hx; go_simp; rfl) ?_; simp only [zp])
  refine zxc (v := .bool false) rfl (by rfl) (fun wx hx => by subst hx; go_simp) ?_
  simp only [zp]
  refine zxn ?_
  refine anyZ_done (by kernel_rfl) ?_ _
  dsimp only [Only, Exit.then]
  clear c2 c0 hnr HT0
  go_wp2_with fail
  obtain ⟨Y, hY⟩ : ∃ Y, T0.drew = Y := ⟨_, rfl⟩
  have BY : Below T0.heap.size T0 Y := by rw [← hY]; exact (Below.refl _ _).drew
  have HBY := hide BY
  have HZY : Hid (w.heap.size ≤ Y.heap.size) := Nat.le_trans HT.out.2.2.2.2.2.2.2.size BY.size
  have HKY := hide (HT.out.2.1.kept BY)
  have HDY := hide (And.intro (HT.out.1.upto BY) (HT.out.2.2.2.1.upto BY))
  have HY := hide hY
  clear hY BY
  go_wp2_with fail
  refine wp_only ?_
  refine wp_region_z (fun wx : World => Below Y.heap.size Y wx) [12] (by kernel_rfl) ?_
  rw [HY.out]
  refine zx 0 1 16 rfl (by kernel_rfl) (Below.refl _ _) ?_
  refine zxc rfl (by rfl) (fun wx hx => by go_simp; rfl) ?_
  simp only [zp]
  refine zxn ?_
  refine zx 2 4 16 rfl (by kernel_rfl) (Below.refl _ _) ?_
  iterate 3 (refine zxc rfl (by rfl) (fun wx hx => by go_simp; rfl) ?_; simp only [zp])
  refine zxc (v := kx2) rfl (by rfl) (fun wx hx => by have c0 := (HDY.out.1.upto hx).cell 2 _ rfl; clear hx; go_simp) ?_
  simp only [zp]
  refine zxn ?_
  refine zx 7 1 16 rfl (by kernel_rfl) (Below.refl _ _) ?_
  refine zxc (v := kv q) rfl (by rfl) (fun wx hx => by
    have K := HDY.out.2.upto hx
    have c0 := K.cell 0 _ rfl
    have c1 := K.cell 1 _ rfl
    have c2 := K.cell 2 _ rfl
    have c3 := K.cell 3 _ rfl
    have c4 := K.cell 4 _ rfl
    have c5 := K.cell 5 _ rfl
    clear hx; go_simp) ?_
  simp only [zp]
  refine zxn ?_
  have hln : List.length K2 ≤ 256 := HLN.out.1
  refine zw 1 [8] (by kernel_rfl) ?_
  refine readyZ.cons (v' := .slice (some ⟨Y.heap.size, 0, none⟩) 0 0) (w' := Y.alloc (.cells #[] 36)) rfl rfl (by go_simp) (fun _ => box1 _ _) ?_ (readyZ.cons (v' := .slice (some ⟨Y.heap.size, 0, none⟩) 1 1) (w' := Y.alloc (.cells #[.int .i64 q.1, .int .i64 q.2.1, .int .i64 q.2.2.1, .int .i64 q.2.2.2.1, .int .i64 q.2.2.2.2.1, .int .i64 q.2.2.2.2.2] 36)) rfl rfl (by go_simp) (fun _ => box1 _ _) ?_ readyZ.nil)
  obtain ⟨A1, hA1⟩ : ∃ A, Y.alloc (.cells #[] 36) = A := ⟨_, rfl⟩
  have BA1 : Below Y.heap.size Y A1 := by rw [← hA1]; exact box1 _ _
  have KA1 : KR A1 (.slice (some ⟨Y.heap.size, 0, none⟩) 0 0) [] := by rw [← hA1]; exact Rw.built Y
  have zA1 : A1.heap.size = Y.heap.size + 1 := by rw [← hA1]; simp
  rw [hA1]
  clear hA1
  have hsr := HKY.out.kept BA1
  obtain ⟨a83, n83, c83, A2, r1, r2, r3, r4, -⟩ := KR.moreB (B := Y.heap.size) KA1 hsr (by simp; omega) 51 (blk_le0 (Nat.le_refl _)) BA1.size
  rw [List.nil_append] at r2
  have hS2 : Below Y.heap.size Y A2 := BA1.trans r4
  have HR6 := hide r1
  refine zw 6 [8] (by kernel_rfl) ?_
  refine readyZ.cons rfl rfl (run_app rfl rfl rfl HR6.out) (fun _ => hS2) ?_ (readyZ.cons (v' := .slice (some ⟨A1.heap.size, 0, none⟩) 1 1) (w' := A1.alloc (.cells #[.int .i64 q.1, .int .i64 q.2.1, .int .i64 q.2.2.1, .int .i64 q.2.2.2.1, .int .i64 q.2.2.2.2.1, .int .i64 q.2.2.2.2.2] 36)) rfl rfl (by clear zA1; go_simp) (fun _ => BA1.trans ((box1 A1 _).mono BA1.size)) ?_ readyZ.nil)
  refine zq 8 (by kernel_rfl) rfl rfl (v' := .slice (some ⟨A2.heap.size, 0, none⟩) 1 1) (w' := A2.alloc (.cells #[.int .i64 q.1, .int .i64 q.2.1, .int .i64 q.2.2.1, .int .i64 q.2.2.2.1, .int .i64 q.2.2.2.2.1, .int .i64 q.2.2.2.2.2] 36)) (by go_simp) (fun _ => hS2.trans ((box1 A2 _).mono hS2.size)) ?_
  have h2 := kk_one q A2
  obtain ⟨A3, hA3⟩ : ∃ A, A2.alloc (.cells #[.int .i64 q.1, .int .i64 q.2.1, .int .i64 q.2.2.1, .int .i64 q.2.2.2.1, .int .i64 q.2.2.2.2.1, .int .i64 q.2.2.2.2.2] 36) = A := ⟨_, rfl⟩
  have BA3 : Below A2.heap.size A2 A3 := by rw [← hA3]; exact box1 _ _
  rw [hA3] at h2 ⊢
  have H9 := hide (And.intro (r2.upto BA3) <| And.intro (Rw.rd kCs_len h2 h2.cap) <| And.intro r3 (hS2.trans (BA3.mono hS2.size)))
  clear hA3 BA3 h2 r2 r3 r4 hS2 HR6 hsr KA1 BA1 r1 zA1
  rotate_left 1
  obtain ⟨A2', hA2⟩ : ∃ A, A1.alloc (.cells #[.int .i64 q.1, .int .i64 q.2.1, .int .i64 q.2.2.1, .int .i64 q.2.2.2.1, .int .i64 q.2.2.2.2.1, .int .i64 q.2.2.2.2.2] 36) = A := ⟨_, rfl⟩
  have h2 := kk_one q A1
  rw [hA2] at h2 ⊢
  have BA2 : Below A1.heap.size A1 A2' := by rw [← hA2]; exact box1 _ _
  have BY2 : Below Y.heap.size Y A2' := BA1.trans (BA2.mono BA1.size)
  obtain ⟨b83, m83, d83, A3, t1, t2, t3, t4, t5⟩ := KR.moreB (B := Y.heap.size) (KA1.upto BA2) (HKY.out.kept BY2) (by simp; omega) 51 (blk_le0 (Nat.le_refl _)) BY2.size
  rw [List.nil_append] at t2
  have HT6 := hide t1
  have h3 := h2.kept t5 (fun g hg hh => by have e1 := own_eq hg; have e2 := own_eq hh; omega)
  refine zq 6 (by kernel_rfl) rfl rfl (run_app rfl rfl rfl HT6.out) (fun _ => BY2.trans t4) ?_
  have H9 := hide (And.intro t2 <| And.intro (Rw.rd kCs_len h3 h3.cap) <| And.intro t3 (BY2.trans t4))
  clear hA2 h2 BA2 BY2 t1 t2 t3 t4 t5 HT6 h3 r1 r2 r3 r4 hS2 HR6 hsr KA1 BA1 zA1
  rotate_left 1
  obtain ⟨A1, hA1⟩ : ∃ A, Y.alloc (.cells #[.int .i64 q.1, .int .i64 q.2.1, .int .i64 q.2.2.1, .int .i64 q.2.2.2.1, .int .i64 q.2.2.2.2.1, .int .i64 q.2.2.2.2.2] 36) = A := ⟨_, rfl⟩
  have h2 := kk_one q Y
  rw [hA1] at h2 ⊢
  have BA1 : Below Y.heap.size Y A1 := by rw [← hA1]; exact box1 _ _
  have zA1 : A1.heap.size = Y.heap.size + 1 := by rw [← hA1]; simp
  clear hA1
  refine zq 1 (by kernel_rfl) rfl rfl (v' := .slice (some ⟨A1.heap.size, 0, none⟩) 0 0) (w' := A1.alloc (.cells #[] 36)) (by clear zA1; go_simp) (fun _ => BA1.trans ((box1 A1 _).mono BA1.size)) ?_
  have h4 : KR (A1.alloc (.cells #[] 36)) (.slice (some ⟨A1.heap.size, 0, none⟩) 0 0) [] := Rw.built A1
  obtain ⟨A2, hA2⟩ : ∃ A, A1.alloc (.cells #[] 36) = A := ⟨_, rfl⟩
  have BA2 : Below A1.heap.size A1 A2 := by rw [← hA2]; exact box1 _ _
  rw [hA2] at h4 ⊢
  have BY2 : Below Y.heap.size Y A2 := BA1.trans (BA2.mono BA1.size)
  obtain ⟨b83, m83, d83, A3, t1, t2, t3, t4, t5⟩ := KR.moreB (B := Y.heap.size) h4 (HKY.out.kept BY2) (by simp; omega) 51 (blk_le0 BA1.size) BY2.size
  rw [List.nil_append] at t2
  have HT6 := hide t1
  have h3 := (h2.upto BA2).kept t5 (fun g hg hh => by have e1 := own_eq hg; have e2 := own_eq hh; omega)
  refine zq 6 (by kernel_rfl) rfl rfl (run_app rfl rfl rfl HT6.out) (fun _ => BY2.trans t4) ?_
  have H9 := hide (And.intro t2 <| And.intro (Rw.rd kCs_len h3 h3.cap) <| And.intro t3 (BY2.trans t4))
  clear hA2 h2 h4 BA2 BY2 t1 t2 t3 t4 t5 HT6 h3 BA1 zA1
  rotate_left 1
  all_goals
    obtain ⟨h1, h2, h3, h4⟩ := H9.out
    obtain ⟨a86, n86, c86, A4, r1, r2, r3, r4, -⟩ := KR.moreB (B := Y.heap.size) h1 h2 (by simp; omega) 51 h3 h4.size
    have hB4 : Below Y.heap.size Y A4 := h4.trans r4
    have HR9 := hide r1
    have D4 := HDY.out.1.upto hB4
    have d2 := D4.cell 2 _ rfl
    have f2 := D4.frozen 2
    refine zq 9 (by kernel_rfl) rfl rfl (run_app rfl rfl rfl HR9.out) (fun _ => hB4) ?_
    refine zq 10 (by kernel_rfl) rfl rfl (run_nc rfl rfl) (fun _ => hB4) ?_
    refine zq 11 (by kernel_rfl) rfl rfl (v' := .pointer (some ⟨d, 2, none⟩)) (by go_simp) (fun _ => hB4) ?_
    obtain ⟨T1, hT1⟩ : ∃ T, A4.setCell ⟨d, 2, none⟩ (.slice a86 n86 c86) = T := ⟨_, rfl⟩
    have HT1 := hide hT1
    refine zw 12 [] (by kernel_rfl) ?_
    refine readyZ.skip (w' := T1) rfl rfl (by rw [← HT1.out]; go_simp) (fun h => absurd (by decide) h) ?_ readyZ.nil
    refine anyZ_done (by kernel_rfl) ?_ _
    dsimp only [Only, Exit.then]
    have TD : Turns (fun g => g = d) A4 T1 := by rw [← hT1]; exact Turns.set (S := fun g => g = d) A4 rfl _
    have hdt : ∀ g, g = d → ∀ cur, A4.heap[g]? ≠ some (.cells cur 34 (0, 0)) := fun g hg cur hc => by subst hg; have := D4.symm.trans hc; simp at this
    have hBT := HBY.out.trans (hB4.mono HBY.out.size)
    have hzY := HZY.out
    have hd := HD.out
    obtain ⟨T0d, T0k, T0w, Tb0, Tb1, Tc, Tw, Tt⟩ := HT.out
    have HU : Hid (Bk T1 d 54 [.int .i64 room, .int .i64 ep, .slice a86 n86 c86, wx2] ∧ KR T1 (.slice a86 n86 c86) (K2 ++ [q]) ∧ Rd 2 wCs T1 wx2 U2 ∧ Bk T1 (w.heap.size + 1) 39 [.int .i64 o, .slice ac nc cc] ∧ Cn T1 (.slice ac nc cc) P ∧ (∀ (i : Nat) (u : Wv) (x : En), U2[i]? = some u → L2[i]? = some x → u.1 = x.2.1 ∧ Cn T1 u.v x.2.2) ∧ Turns (fun g => g = d) w T1 ∧ (∀ g, (Value.slice a86 n86 c86).ownBlock = some g → w.heap.size ≤ g)) :=
      ⟨by rw [← hT1]; exact D4.set 2 _, r2.kept TD (fun g hg hh => by have := r3 g hg; omega), (T0w.kept hBT).turned TD (fun g hg hh => HL2.out.2.2.2.2.2.2.2 g hg hh), (Tb1.upto hBT).kept TD (by omega), (Rw.upto Tc hBT).stay TD hdt, fun i u x hu hx => ⟨(Tw i u x hu hx).1, (Rw.upto (Tw i u x hu hx).2 hBT).stay TD hdt⟩, (Tt.down (hBT.mono Tt.size)).trans (TD.mono (fun k _ s => .inl s)), fun g hg => Nat.le_trans hzY (r3 g hg)⟩
    clear T0d T0k T0w Tb0 Tb1 Tc Tw Tt TD hdt hBT hzY hd HT1 hT1 HR9 r1 r2 r3 r4 h1 h2 h3 h4 H9 hB4 D4 d2 f2 HY HDY HKY HBY HZY hln
    obtain ⟨ka, kn, kc, hka⟩ : ∃ a n c, Value.slice a86 n86 c86 = .slice a n c := ⟨_, _, _, rfl⟩
    obtain ⟨Y, hY⟩ : ∃ Y, T1.drew = Y := ⟨_, rfl⟩
    have BY : Below T1.heap.size T1 Y := by rw [← hY]; exact (Below.refl _ _).drew
    have HBY := hide BY
    have HZY : Hid (w.heap.size ≤ Y.heap.size) := Nat.le_trans HU.out.2.2.2.2.2.2.1.size BY.size
    have HWY := hide (HU.out.2.2.1.kept BY)
    have HDY := hide (And.intro (HU.out.1.upto BY) (HU.out.2.2.2.1.upto BY))
    have HY := hide hY
    clear hY BY
    go_wp2_with fail
    refine wp_only ?_
    refine wp_region_z (fun wx : World => Below Y.heap.size Y wx) [12] (by kernel_rfl) ?_
    rw [HY.out]
    refine zx 0 1 16 rfl (by kernel_rfl) (Below.refl _ _) ?_
    refine zxc rfl (by rfl) (fun wx hx => by go_simp; rfl) ?_
    simp only [zp]
    refine zxn ?_
    refine zx 2 4 16 rfl (by kernel_rfl) (Below.refl _ _) ?_
    iterate 3 (refine zxc rfl (by rfl) (fun wx hx => by go_simp; rfl) ?_; simp only [zp])
    refine zxc (v := wx2) rfl (by rfl) (fun wx hx => by have c0 := (HDY.out.1.upto hx).cell 3 _ rfl; clear hx; go_simp) ?_
    simp only [zp]
    refine zxn ?_
    refine zx 7 1 16 rfl (by kernel_rfl) (Below.refl _ _) ?_
    refine zxc (v := wy o (.slice ac nc cc)) rfl (by rfl) (fun wx hx => by
      have K := HDY.out.2.upto hx
      have c0 := K.cell 0 _ rfl
      have c1 := K.cell 1 _ rfl
      clear hx; go_simp) ?_
    simp only [zp]
    refine zxn ?_
    have hln : List.length U2 ≤ 256 := HLN.out.2
    refine zw 1 [8] (by kernel_rfl) ?_
    refine readyZ.cons (v' := .slice (some ⟨Y.heap.size, 0, none⟩) 0 0) (w' := Y.alloc (.cells #[] 39)) rfl rfl (by go_simp) (fun _ => box1 _ _) ?_ (readyZ.cons (v' := .slice (some ⟨Y.heap.size, 0, none⟩) 1 1) (w' := Y.alloc (.cells #[.int .i64 o, .slice ac nc cc] 39)) rfl rfl (by go_simp) (fun _ => box1 _ _) ?_ readyZ.nil)
    obtain ⟨A1, hA1⟩ : ∃ A, Y.alloc (.cells #[] 39) = A := ⟨_, rfl⟩
    have BA1 : Below Y.heap.size Y A1 := by rw [← hA1]; exact box1 _ _
    have KA1 : WR A1 (.slice (some ⟨Y.heap.size, 0, none⟩) 0 0) [] := by rw [← hA1]; exact Rw.built Y
    have zA1 : A1.heap.size = Y.heap.size + 1 := by rw [← hA1]; simp
    rw [hA1]
    clear hA1
    have hsr := HWY.out.kept BA1
    obtain ⟨a83, n83, c83, A2, r1, r2, r3, r4, -⟩ := WR.moreB (B := Y.heap.size) KA1 hsr (by simp; omega) 52 (blk_le0 (Nat.le_refl _)) BA1.size
    rw [List.nil_append] at r2
    have hS2 : Below Y.heap.size Y A2 := BA1.trans r4
    have HR6 := hide r1
    refine zw 6 [8] (by kernel_rfl) ?_
    refine readyZ.cons rfl rfl (run_app rfl rfl rfl HR6.out) (fun _ => hS2) ?_ (readyZ.cons (v' := .slice (some ⟨A1.heap.size, 0, none⟩) 1 1) (w' := A1.alloc (.cells #[.int .i64 o, .slice ac nc cc] 39)) rfl rfl (by clear zA1; go_simp) (fun _ => BA1.trans ((box1 A1 _).mono BA1.size)) ?_ readyZ.nil)
    refine zq 8 (by kernel_rfl) rfl rfl (v' := .slice (some ⟨A2.heap.size, 0, none⟩) 1 1) (w' := A2.alloc (.cells #[.int .i64 o, .slice ac nc cc] 39)) (by go_simp) (fun _ => hS2.trans ((box1 A2 _).mono hS2.size)) ?_
    have h2 := kw_one o ac nc cc A2
    obtain ⟨A3, hA3⟩ : ∃ A, A2.alloc (.cells #[.int .i64 o, .slice ac nc cc] 39) = A := ⟨_, rfl⟩
    have BA3 : Below A2.heap.size A2 A3 := by rw [← hA3]; exact box1 _ _
    rw [hA3] at h2 ⊢
    have H9 := hide (And.intro (r2.upto BA3) <| And.intro (Rw.rd wCs_len h2 h2.cap) <| And.intro r3 (hS2.trans (BA3.mono hS2.size)))
    clear hA3 BA3 h2 r2 r3 r4 hS2 HR6 hsr KA1 BA1 r1 zA1
    rotate_left 1
    obtain ⟨A2', hA2⟩ : ∃ A, A1.alloc (.cells #[.int .i64 o, .slice ac nc cc] 39) = A := ⟨_, rfl⟩
    have h2 := kw_one o ac nc cc A1
    rw [hA2] at h2 ⊢
    have BA2 : Below A1.heap.size A1 A2' := by rw [← hA2]; exact box1 _ _
    have BY2 : Below Y.heap.size Y A2' := BA1.trans (BA2.mono BA1.size)
    obtain ⟨b83, m83, d83, A3, t1, t2, t3, t4, t5⟩ := WR.moreB (B := Y.heap.size) (KA1.upto BA2) (HWY.out.kept BY2) (by simp; omega) 52 (blk_le0 (Nat.le_refl _)) BY2.size
    rw [List.nil_append] at t2
    have HT6 := hide t1
    have h3 := h2.kept t5 (fun g hg hh => by have e1 := own_eq hg; have e2 := own_eq hh; omega)
    refine zq 6 (by kernel_rfl) rfl rfl (run_app rfl rfl rfl HT6.out) (fun _ => BY2.trans t4) ?_
    have H9 := hide (And.intro t2 <| And.intro (Rw.rd wCs_len h3 h3.cap) <| And.intro t3 (BY2.trans t4))
    clear hA2 h2 BA2 BY2 t1 t2 t3 t4 t5 HT6 h3 r1 r2 r3 r4 hS2 HR6 hsr KA1 BA1 zA1
    rotate_left 1
    obtain ⟨A1, hA1⟩ : ∃ A, Y.alloc (.cells #[.int .i64 o, .slice ac nc cc] 39) = A := ⟨_, rfl⟩
    have h2 := kw_one o ac nc cc Y
    rw [hA1] at h2 ⊢
    have BA1 : Below Y.heap.size Y A1 := by rw [← hA1]; exact box1 _ _
    have zA1 : A1.heap.size = Y.heap.size + 1 := by rw [← hA1]; simp
    clear hA1
    refine zq 1 (by kernel_rfl) rfl rfl (v' := .slice (some ⟨A1.heap.size, 0, none⟩) 0 0) (w' := A1.alloc (.cells #[] 39)) (by clear zA1; go_simp) (fun _ => BA1.trans ((box1 A1 _).mono BA1.size)) ?_
    have h4 : WR (A1.alloc (.cells #[] 39)) (.slice (some ⟨A1.heap.size, 0, none⟩) 0 0) [] := Rw.built A1
    obtain ⟨A2, hA2⟩ : ∃ A, A1.alloc (.cells #[] 39) = A := ⟨_, rfl⟩
    have BA2 : Below A1.heap.size A1 A2 := by rw [← hA2]; exact box1 _ _
    rw [hA2] at h4 ⊢
    have BY2 : Below Y.heap.size Y A2 := BA1.trans (BA2.mono BA1.size)
    obtain ⟨b83, m83, d83, A3, t1, t2, t3, t4, t5⟩ := WR.moreB (B := Y.heap.size) h4 (HWY.out.kept BY2) (by simp; omega) 52 (blk_le0 BA1.size) BY2.size
    rw [List.nil_append] at t2
    have HT6 := hide t1
    have h3 := (h2.upto BA2).kept t5 (fun g hg hh => by have e1 := own_eq hg; have e2 := own_eq hh; omega)
    refine zq 6 (by kernel_rfl) rfl rfl (run_app rfl rfl rfl HT6.out) (fun _ => BY2.trans t4) ?_
    have H9 := hide (And.intro t2 <| And.intro (Rw.rd wCs_len h3 h3.cap) <| And.intro t3 (BY2.trans t4))
    clear hA2 h2 h4 BA2 BY2 t1 t2 t3 t4 t5 HT6 h3 BA1 zA1
    rotate_left 1
    all_goals
      obtain ⟨h1, h2, h3, h4⟩ := H9.out
      obtain ⟨a96, n96, c96, A5, r1, r2, r3, r4, -⟩ := WR.moreB (B := Y.heap.size) h1 h2 (by simp; omega) 52 h3 h4.size
      have hB4 : Below Y.heap.size Y A5 := h4.trans r4
      have HR9 := hide r1
      have D4 := HDY.out.1.upto hB4
      have d2 := D4.cell 3 _ rfl
      have f2 := D4.frozen 3
      refine zq 9 (by kernel_rfl) rfl rfl (run_app rfl rfl rfl HR9.out) (fun _ => hB4) ?_
      refine zq 10 (by kernel_rfl) rfl rfl (run_nc rfl rfl) (fun _ => hB4) ?_
      refine zq 11 (by kernel_rfl) rfl rfl (v' := .pointer (some ⟨d, 3, none⟩)) (by go_simp) (fun _ => hB4) ?_
      obtain ⟨T2, hT2⟩ : ∃ T, A5.setCell ⟨d, 3, none⟩ (.slice a96 n96 c96) = T := ⟨_, rfl⟩
      have HT2 := hide hT2
      refine zw 12 [] (by kernel_rfl) ?_
      refine readyZ.skip (w' := T2) rfl rfl (by rw [← HT2.out]; go_simp) (fun h => absurd (by decide) h) ?_ readyZ.nil
      refine anyZ_done (by kernel_rfl) ?_ _
      dsimp only [Only, Exit.then]
      have TD : Turns (fun g => g = d) A5 T2 := by rw [← hT2]; exact Turns.set (S := fun g => g = d) A5 rfl _
      have hdt : ∀ g, g = d → ∀ cur, A5.heap[g]? ≠ some (.cells cur 34 (0, 0)) := fun g hg cur hc => by subst hg; have := D4.symm.trans hc; simp at this
      have hBT := HBY.out.trans (hB4.mono HBY.out.size)
      have hzY := HZY.out
      have hd := HD.out
      obtain ⟨U0, U1, U2', U3, U4, U5, U6, U7⟩ := HU.out
      obtain ⟨l1, l2, l3, l4, l5, l6, l7, l8⟩ := HL2.out
      have RF : RC T2 d (.slice a86 n86 c86) (.slice a96 n96 c96) room ep (U2 ++ [(o, ac, nc, cc)]) (L2 ++ [(q, (o, P))]) :=
        ⟨by rw [← hT2]; exact D4.set 3 _, by rw [show ks (L2 ++ [(q, (o, P))]) = K2 ++ [q] by rw [← l1]; simp]; exact (Rw.upto U1 hBT).kept TD (fun g hg hh => by have := U7 g hg; omega), r2.kept TD (fun g hg hh => by have := r3 g hg; omega), by simp [l2], fun i u x hu hx => by
          rcases Nat.lt_or_ge i L2.length with hi | hi
          · rw [List.getElem?_append_left (by rw [l2]; exact hi)] at hu
            rw [List.getElem?_append_left hi] at hx
            exact ⟨(U5 i u x hu hx).1, (Rw.upto (U5 i u x hu hx).2 hBT).stay TD hdt⟩
          · rw [List.getElem?_append_right (by rw [l2]; exact hi), l2] at hu
            rw [List.getElem?_append_right hi] at hx
            obtain ⟨n, hn⟩ : ∃ n, i - L2.length = n := ⟨_, rfl⟩
            rw [hn] at hu hx
            cases n with
            | zero => cases hu; cases hx; exact ⟨rfl, (Rw.upto U4 hBT).stay TD hdt⟩
            | succ n => simp at hu, by rw [show ks (L2 ++ [(q, (o, P))]) = K2 ++ [q] by rw [← l1]; simp]; exact List.nodup_append.2 ⟨l3, by simp, fun a ha b hb e => l4 (by simp at hb; rw [← hb, ← e]; exact ha)⟩, fun x hx => by
          rcases List.mem_append.1 hx with hx | hx
          · exact l5 x hx
          · obtain rfl : x = (q, (o, P)) := by simpa using hx
            exact hl, hRM.out.1, by simpa using l6⟩
      have HF := hide (show RpE w d kx wx room ep (putL room L q (o, P)) T2 from by
        rw [l7]
        exact ⟨_, _, _, RF, fun g hg => .inr (U7 g hg), fun g hg => .inr (Nat.le_trans hzY (r3 g hg)), (U6.down (hBT.mono U6.size)).trans (TD.mono (fun k _ s => .inl s))⟩)
      clear RF U0 U1 U2' U3 U4 U5 U6 U7 l1 l2 l3 l4 l5 l6 l7 l8 TD hdt hBT hzY hd HT2 hT2 HR9 r1 r2 r3 r4 h1 h2 h3 h4 H9 hB4 D4 d2 f2 HY HDY HWY HBY HZY hln HU
      go_wp2_with fail
      go_end0
      exact ⟨⟨_, rfl⟩, HF.out⟩
end Go.Proofs.Ytihjmgdihpeffaa
