/-
  The document's Put.
-/
import Derived.Test.YtihjmgdihpeffaaRq0
import Derived.Test.YtihjmgdihpeffaaOw0
namespace Go.Proofs.Ytihjmgdihpeffaa
open Go.RowKit
set_option linter.unusedVariables false
set_option linter.unusedSimpArgs false
/-- What the document's Put leaves. -/
def RpE (w : World) (d : Nat) (kx wx : Value) (room e : Int) (L : List En) (w' : World) : Prop :=
  ∃ kx' wx' U', RC w' d kx' wx' room e U' L ∧ (∀ g, kx'.ownBlock = some g → kx.ownBlock = some g ∨ w.heap.size ≤ g) ∧ (∀ g, wx'.ownBlock = some g → wx.ownBlock = some g ∨ w.heap.size ≤ g) ∧ Turns (fun g => g = d) w w'
theorem Turns.down {S : Nat → Prop} {a b c : World} (h : Turns S a b) (k : Below a.heap.size b c) : Turns S a c := ⟨k.os.trans h.os, k.tape.trans h.tape, k.output.trans h.output, Nat.le_trans h.size k.size, fun i hi hn => (k.block i hi).trans (h.block i hi hn)⟩
theorem KR.moreB {w : World} {v xv : Value} {L M : List K6} {B : Nat} (h : KR w v L) (hM : Rd 6 kCs w xv M) (hn : L.length + M.length ≤ 1000000) (ty : TypeId) (hb : ∀ g, v.ownBlock = some g → B ≤ g) (hB : B ≤ w.heap.size) :
    ∃ a n c w', (Builtin.append_ #[51, 51] ty #[v, xv]).run Try.prog w = .ok (.slice a n c) w' ∧ KR w' (.slice a n c) (L ++ M) ∧ (∀ g, (Value.slice a n c).ownBlock = some g → B ≤ g) ∧ Below B w w' ∧ Turns (fun g => v.ownBlock = some g) w w' := by
  obtain ⟨v', w', r1, r2, r3, r4⟩ := h.more hM hn ty
  obtain ⟨a, n, c, rfl⟩ := r2.shape
  refine ⟨a, n, c, w', r1, r2, fun g hg => ?_, r4.below (fun k e => hb k e) hB, r4⟩
  rcases r3 with e | e
  · rw [e] at hg; exact hb g hg
  · rw [e] at hg; cases hg; exact hB
theorem WR.moreB {w : World} {v xv : Value} {L M : List Wv} {B : Nat} (h : WR w v L) (hM : Rd 2 wCs w xv M) (hn : L.length + M.length ≤ 1000000) (ty : TypeId) (hb : ∀ g, v.ownBlock = some g → B ≤ g) (hB : B ≤ w.heap.size) :
    ∃ a n c w', (Builtin.append_ #[52, 52] ty #[v, xv]).run Try.prog w = .ok (.slice a n c) w' ∧ WR w' (.slice a n c) (L ++ M) ∧ (∀ g, (Value.slice a n c).ownBlock = some g → B ≤ g) ∧ Below B w w' ∧ Turns (fun g => v.ownBlock = some g) w w' := by
  obtain ⟨v', w', r1, r2, r3, r4⟩ := h.more hM hn ty
  obtain ⟨a, n, c, rfl⟩ := r2.shape
  refine ⟨a, n, c, w', r1, r2, fun g hg => ?_, r4.below (fun k e => hb k e) hB, r4⟩
  rcases r3 with e | e
  · rw [e] at hg; exact hb g hg
  · rw [e] at hg; cases hg; exact hB
theorem own_eq {g o n c k : Nat} (h : (Value.slice (some ⟨g, o, none⟩) n c).ownBlock = some k) : g = k := by simpa [Value.ownBlock] using h
theorem key_len {α : Type} {t k : Nat} {cs : α → List Value} {w : World} {v : Value} {l : List α} {a : Option Addr} {n c : Nat} (h : Rw t k cs w v l) (hv : v = .slice a n c) : n = l.length := by
  rcases h.slice with ⟨e, rfl⟩ | ⟨g, cap, e, -⟩
  · rw [e] at hv; cases hv; rfl
  · rw [e] at hv; cases hv; rfl
theorem hi1_own {k g n c h : Nat} (hg : (hi1 k (.slice (some ⟨g, 0, none⟩) n c)).ownBlock = some h) : h = g := by
  unfold hi1 at hg
  by_cases hc : c = 1
  · simp only [if_pos hc] at hg
    exact (own_eq hg).symm
  · simp only [if_neg hc] at hg
    exact (own_eq hg).symm
theorem putIn_at : ∀ {L : List En} {q : K6} {t t0 : Wk} {j : Nat}, (ks L).Nodup → L[j]? = some (q, t0) → putIn L q t = L.set j (q, t)
  | [], q, t, t0, j, hn, hj => by simp at hj
  | x :: r, q, t, t0, j, hn, hj => by
    have hin : q ∈ ks (x :: r) := mem_ks (x := (q, t0)) (List.mem_of_getElem? hj)
    unfold putIn
    rw [if_pos hin]
    rw [show ks (x :: r) = x.1 :: ks r from rfl, List.nodup_cons] at hn
    cases j with
    | zero =>
      simp at hj
      subst hj
      have hrest : r.map (fun x => if x.1 = q then (q, t) else x) = r := by
        refine (List.map_congr_left (g := id) fun y hy => ?_).trans (List.map_id _)
        have h9 := mem_ks hy
        rw [if_neg (fun e => hn.1 (by rw [e] at h9; exact h9))]
        rfl
      rw [List.map_cons, hrest, if_pos rfl, List.set_cons_zero]
    | succ j =>
      have hj : r[j]? = some (q, t0) := by simpa using hj
      have hin2 : q ∈ ks r := mem_ks (x := (q, t0)) (List.mem_of_getElem? hj)
      have ih := putIn_at (t := t) hn.2 hj
      unfold putIn at ih
      rw [if_pos hin2] at ih
      rw [List.map_cons, ih, if_neg (fun e => hn.1 (by rw [e]; exact hin2)), List.set_cons_succ]
theorem blk_le0 {n m : Nat} (h : n ≤ m) : ∀ g, (Value.slice (some ⟨m, 0, none⟩) 0 0).ownBlock = some g → n ≤ g := fun g e => by
  have : m = g := by simpa [Value.ownBlock] using e
  omega
theorem kw_one (o : Int) (a : Option Addr) (n c : Nat) (w : World) : WR (w.alloc (.cells #[.int .i64 o, .slice a n c] 39)) (.slice (some ⟨w.heap.size, 0, none⟩) 1 1) [(o, a, n, c)] := Rw.single (cs := wCs) wCs_len w (o, a, n, c)
theorem kk_one (q : K6) (w : World) : KR (w.alloc (.cells #[.int .i64 q.1, .int .i64 q.2.1, .int .i64 q.2.2.1, .int .i64 q.2.2.2.1, .int .i64 q.2.2.2.2.1, .int .i64 q.2.2.2.2.2] 36)) (.slice (some ⟨w.heap.size, 0, none⟩) 1 1) [q] := Rw.single (cs := kCs) kCs_len w q
set_option maxRecDepth 100000 in
set_option maxHeartbeats 40000000 in
theorem rput_found {w : World} {d : Nat} {kx wx : Value} {room ep : Int} {U : List Wv} {L : List En} (h : RC w d kx wx room ep U L) (q : K6) (e : Int) {o : Int} {v : Value} {P : List (Int × Int)} (hv : CeR w v P) (hl : P.length * 16 ≤ 140737488355328) (hvd : ∀ g, P ≠ [] → v.ownBlock = some g → g ≠ d) {j : Nat} {t0 : Wk} (hj : L[j]? = some (q, t0)) (hjp : plc (ks L) q 0 = (j : Nat)) :
    Calls Try.prog 13 #[ptr d, kv q, .int .i64 ep, wy o v] w fun en w' => (∃ z, en = .returned z) ∧ RpE w d kx wx room ep (putL room L q (o, P)) w' := by
  obtain ⟨a0, n0, c0, rfl⟩ : ∃ a n c, v = .slice a n c := by obtain ⟨a, c, e, -⟩ := hv.slice; exact ⟨_, _, _, e⟩
  obtain ⟨X, hX⟩ : ∃ X, (w.alloc (.cells #[.int .i64 q.1, .int .i64 q.2.1, .int .i64 q.2.2.1, .int .i64 q.2.2.2.1, .int .i64 q.2.2.2.2.1, .int .i64 q.2.2.2.2.2] 36)).alloc (.cells #[.int .i64 o, .slice a0 n0 c0] 39) = X := ⟨_, rfl⟩
  have B0 : Below w.heap.size w X := by rw [← hX]; exact box2 _ _ _
  have K0 : Bk X w.heap.size 36 (kCs q) := by rw [← hX]; exact ((Bk.new w 36 (kCs q)).upto (box1 _ _))
  have K1 : Bk X (w.heap.size + 1) 39 [.int .i64 o, .slice a0 n0 c0] := by rw [← hX]; exact Bk.new2 _ _ _ _
  have hd := h.blk.lt
  have hP := h.upto B0
  have hRM := hide (And.intro h.rm h.le)
  have hkl : ∀ g, kx.ownBlock = some g → g < w.heap.size := fun g e => by obtain ⟨cur, hc⟩ := h.keys.blk e; exact (Array.getElem?_eq_some_iff.1 hc).1
  have hwl : ∀ g, wx.ownBlock = some g → g < w.heap.size := fun g e => by obtain ⟨cur, hc⟩ := h.ways.blk e; exact (Array.getElem?_eq_some_iff.1 hc).1
  have b1 := hP.blk.cell 1 _ rfl
  have HX := hide hX
  clear hX
  obtain ⟨S0, rfl⟩ : ∃ S0, S0 = X := ⟨_, rfl⟩
  have T0 : Turns (fun g => g = d) w S0 := Turns.of_below B0
  have R0 : RC S0 d kx wx room ep U L := hP
  have J0 : Bk S0 w.heap.size 36 (kCs q) := K0
  have J1 : Bk S0 (w.heap.size + 1) 39 [.int .i64 o, .slice a0 n0 c0] := K1
  have hv0 : CeR S0 (.slice a0 n0 c0) P := hv.turnedN T0 (fun g hne hg => hvd g hne hg)
  obtain ⟨Z1, hZ1⟩ : ∃ Z1, S0.alloc (.cells #[] 34) = Z1 := ⟨_, rfl⟩
  have BZ1 : Below S0.heap.size S0 Z1 := by rw [← hZ1]; exact box1 _ _
  have CZ1 : Cn Z1 (.slice (some ⟨S0.heap.size, 0, none⟩) 0 0) [] := by rw [← hZ1]; exact Rw.built S0
  obtain ⟨vc, Z2, r1, r2, r3, r4⟩ := Cn.more CZ1 (hv0.kept BZ1) (by rw [List.length_nil, Nat.zero_add]; exact hl) 37
  rw [List.nil_append] at r2
  obtain ⟨ac, nc, cc, rfl⟩ := r2.shape
  have BZ2 : Below S0.heap.size S0 Z2 := BZ1.trans (r4.below (B := S0.heap.size) (blk_le0 (Nat.le_refl _)) BZ1.size)
  have R2 := R0.upto BZ2
  have J0z := J0.upto BZ2
  have J1z := J1.upto BZ2
  obtain ⟨S1, hS1⟩ : ∃ S1, Z2.setCell ⟨w.heap.size + 1, 1, none⟩ (.slice ac nc cc) = S1 := ⟨_, rfl⟩
  have TS1 : Turns (fun g => g = w.heap.size + 1) Z2 S1 := by rw [← hS1]; exact Turns.set (S := fun g => g = w.heap.size + 1) Z2 rfl _
  have M1 : Bk S1 (w.heap.size + 1) 39 [.int .i64 o, .slice ac nc cc] := by rw [← hS1]; exact J1z.set 1 _
  have M0 : Bk S1 w.heap.size 36 (kCs q) := J0z.kept TS1 (by omega)
  have hbx : ∀ g, g = w.heap.size + 1 → ∀ cur, Z2.heap[g]? ≠ some (.cells cur 34 (0, 0)) := fun g hg cur hc => by subst hg; have := J1z.symm.trans hc; simp at this
  have R3 : RC S1 d kx wx room ep U L := R2.kept TS1 (by omega) (fun g hg => by have := hkl g hg; omega) (fun g hg => by have := hwl g hg; omega) hbx
  have C3 : Cn S1 (.slice ac nc cc) P := r2.stay TS1 hbx
  have T3 : Turns (fun g => g = d) w S1 := (T0.down (BZ2.mono T0.size)).trans (TS1.mono (fun k _ s => .inr (by omega)))
  have hlk : (ks L).length = List.length L := by simp
  have hpl := place_is R3.blk R3.keys (by have := hRM.out.1; have := R3.le; rw [hlk]; omega) q
  have q0 := M0.cell 0 _ rfl
  have q1 := M0.cell 1 _ rfl
  have q2 := M0.cell 2 _ rfl
  have q3 := M0.cell 3 _ rfl
  have q4 := M0.cell 4 _ rfl
  have q5 := M0.cell 5 _ rfl
  have z1 := (J1.upto BZ1).cell 1 _ rfl
  have z2 := J1z.cell 1 _ rfl
  have zf := J1z.frozen 1
  have HR1 := hide r1
  have HZ1 := hide hZ1
  have HS1 := hide hS1
  rw [hjp] at hpl
  have HPl := hide hpl
  have HM := hide (And.intro M1 <| And.intro M0 <| And.intro R3 <| And.intro C3 T3)
  have HD := hide hd
  clear hP h hv hvd B0 K0 K1 hd hkl hwl T0 R0 J0 J1 hv0 hZ1 BZ1 CZ1 r1 r2 r3 r4 BZ2 R2 J0z J1z hS1 TS1 M1 M0 hbx R3 C3 T3 hpl
  go_enter Try.func13, Try.ntmps13
  go_wp2_with (first | (refine wpList_append_run rfl _ _ 37 rfl _ _ (by rfl) (by rfl) (by first | exact HR1.out | (rw [HZ1.out]; exact HR1.out)) ?_) | (rw [HX.out]) | (rw [HZ1.out]) | (rw [HS1.out]))
  clear q0 q1 q2 q3 q4 q5 z1 z2 zf b1 HR1 HZ1 HS1 HX
  refine HPl.out.mono ?_
  rintro e1 W1 ⟨rfl, hb1⟩
  obtain ⟨M1, M0, R3, C3, T3⟩ := HM.out
  have R4 := R3.upto hb1
  have N1 := M1.upto hb1
  have N0 := M0.upto hb1
  have C4 : Cn W1 (.slice ac nc cc) P := C3.upto hb1
  have T4 : Turns (fun g => g = d) w W1 := T3.down (hb1.mono T3.size)
  clear M1 M0 R3 C3 T3 hb1 HM HPl
  obtain ⟨u, hu⟩ : ∃ u, U[j]? = some u := ⟨_, List.getElem?_eq_getElem (by rw [R4.len]; exact (List.getElem?_eq_some_iff.1 hj).1)⟩
  obtain ⟨A1, hA1⟩ : ∃ A, W1.alloc (.cells #[] 39) = A := ⟨_, rfl⟩
  have BA1 : Below W1.heap.size W1 A1 := by rw [← hA1]; exact box1 _ _
  have WA1 : WR A1 (.slice (some ⟨W1.heap.size, 0, none⟩) 0 0) [] := by rw [← hA1]; exact Rw.built W1
  have hU : U.length ≤ 256 := by have h1 := hRM.out.1; have h2 := hRM.out.2; rw [R4.len]; omega
  obtain ⟨aw, nw, cw, A2, r1, r2, r3, r4, -⟩ := WR.moreB (B := W1.heap.size) WA1 (Rw.rd wCs_len (R4.ways.upto BA1) R4.ways.cap) (by simp; omega) 52 (blk_le0 (Nat.le_refl _)) BA1.size
  rw [List.nil_append] at r2
  obtain ⟨g, capw, hg, hcap, hgl, -⟩ := Rw.elt wCs_len r2 hu
  rw [hg] at r1 r2 r3
  clear hg
  have hgW : W1.heap.size ≤ g := r3 g rfl
  have BA2 : Below W1.heap.size W1 A2 := BA1.trans r4
  have R5 := R4.upto BA2
  have hdW := R4.blk.lt
  obtain ⟨A3, hA3⟩ : ∃ A, A2.setCell ⟨d, 3, none⟩ (.slice (some ⟨g, 0, none⟩) U.length capw) = A := ⟨_, rfl⟩
  have TA3 : Turns (fun k => k = d) A2 A3 := by rw [← hA3]; exact Turns.set (S := fun k => k = d) A2 rfl _
  have D3 : Bk A3 d 54 [.int .i64 room, .int .i64 ep, kx, .slice (some ⟨g, 0, none⟩) U.length capw] := by rw [← hA3]; exact R5.blk.set 3 _
  obtain ⟨Y, hY⟩ : ∃ Y, A3.drew = Y := ⟨_, rfl⟩
  have TY : Turns (fun k => k = d) A2 Y := by rw [← hY]; exact TA3.drew
  have DY : Bk Y d 54 [.int .i64 room, .int .i64 ep, kx, .slice (some ⟨g, 0, none⟩) U.length capw] := by rw [← hY]; exact D3.drew
  have hwd : w.heap.size ≤ W1.heap.size := T4.size
  have hd := HD.out
  have N1Y : Bk Y (w.heap.size + 1) 39 [.int .i64 o, .slice ac nc cc] := (N1.upto BA2).kept TY (by omega)
  have WY : WR Y (.slice (some ⟨g, 0, none⟩) U.length capw) U := r2.kept TY (fun k hk => by have := own_eq hk; omega)
  have hjU : j < U.length := (List.getElem?_eq_some_iff.1 hu).1
  obtain ⟨W5, TV⟩ := WY.set hjU (o, ac, nc, cc)
  obtain ⟨V, hV⟩ : ∃ V, (Y.setCell ⟨g, j * 2, none⟩ (.int .i64 o)).setCell ⟨g, j * 2 + 1, none⟩ (.slice ac nc cc) = V := ⟨_, rfl⟩
  have hVx : (Y.setCell ⟨g, j * 2, none⟩ (.int .i64 (o, ac, nc, cc).1)).setCell ⟨g, j * 2 + 1, none⟩ (Wv.v (o, ac, nc, cc)) = V := hV
  rw [hVx] at W5 TV
  have TAV : Turns (fun k => k = d ∨ k = g) A2 V := (TY.mono (fun k _ s => .inl s)).trans (TV.mono (fun k _ s => .inl (.inr s)))
  have hcl : ∀ k, (k = d ∨ k = g) → ∀ cur, A2.heap[k]? ≠ some (.cells cur 34 (0, 0)) := fun k hk cur hc => by
    rcases hk with rfl | rfl
    · have := R5.blk.symm.trans hc; simp at this
    · obtain ⟨c2, h2⟩ := r2.blk rfl; rw [h2] at hc; simp at hc
  have hkx : ∀ k, kx.ownBlock = some k → ¬ (k = d ∨ k = g) := fun k hk hs => by
    obtain ⟨c1, h1⟩ := R5.keys.blk hk
    rcases hs with rfl | rfl
    · have := R5.blk.symm.trans h1; simp at this
    · obtain ⟨c2, h2⟩ := r2.blk rfl; rw [h2] at h1; simp at h1
  have hpi : putL room L q (o, P) = L.set j (q, (o, P)) := by
    unfold putL
    rw [if_pos (show q ∈ ks L from mem_ks (x := (q, t0)) (List.mem_of_getElem? hj)), putIn_at R4.nd hj]
  have hks : ks (L.set j (q, (o, P))) = ks L := by
    rw [← putIn_at (t := (o, P)) R4.nd hj, ks_putIn]
    unfold kput
    rw [if_pos (show q ∈ ks L from mem_ks (x := (q, t0)) (List.mem_of_getElem? hj))]
  have hgd : g ≠ d := by omega
  have RV : RC V d kx (.slice (some ⟨g, 0, none⟩) U.length capw) room ep (U.set j (o, ac, nc, cc)) (L.set j (q, (o, P))) :=
    ⟨DY.kept TV (fun e => hgd e.symm), by rw [hks]; exact R5.keys.kept TAV hkx, W5, by simp [R4.len], fun i x y hx hy => by
      by_cases hij : j = i
      · subst hij
        rw [List.getElem?_set_self hjU] at hx
        rw [List.getElem?_set_self (List.getElem?_eq_some_iff.1 hj).1] at hy
        cases hx; cases hy
        exact ⟨rfl, (C4.upto BA2).stay TAV hcl⟩
      · rw [List.getElem?_set_ne hij] at hx hy
        exact ⟨(R5.way i x y hx hy).1, (R5.way i x y hx hy).2.stay TAV hcl⟩, by rw [hks]; exact R4.nd, fun x hx => by
      rcases List.mem_or_eq_of_mem_set hx with hx | rfl
      · exact R4.fit x hx
      · exact hl, hRM.out.1, by have := hRM.out.2; simpa using this⟩
  have HF := hide (show RpE w d kx wx room ep (putL room L q (o, P)) V from by
    rw [hpi]
    exact ⟨kx, _, _, RV, fun k hk => .inl hk, fun k hk => .inr (by have := own_eq hk; omega), ((T4.down (BA2.mono hwd)).trans (TAV.mono (fun k _ s => s.elim .inl (fun s => .inr (by omega)))))⟩)
  have w3 := (R4.upto BA1).blk.cell 3 _ rfl
  have w2 := R5.blk.cell 3 _ rfl
  have f2 := R5.blk.frozen 3
  have y3 := DY.cell 3 _ rfl
  have v0 := N1Y.cell 0 _ rfl
  have v1 := N1Y.cell 1 _ rfl
  obtain ⟨-, -, -, -, hcs⟩ := show True ∧ True ∧ True ∧ True ∧ (∀ i y, (wCs u)[i]? = some y → Y.cell? ⟨g, j * 2 + i, none⟩ = some y) from ⟨trivial, trivial, trivial, trivial, by
    obtain ⟨g2, c2, e2, -, -, h4⟩ := Rw.elt wCs_len WY hu
    cases e2
    exact h4⟩
  have s0 := hcs 0 _ rfl
  have s1 := hcs 1 _ rfl
  rw [Nat.add_zero] at s0
  have HB1 := hide r1
  have HA1 := hide hA1
  have HA3 := hide hA3
  have HY := hide hY
  have HV := hide hV
  have hj0 : (0 : Int) ≤ (j : Nat) := by omega
  have hjl : (j : Int) < (U.length : Nat) := by omega
  have t0' := WY.blk (g := g) rfl
  obtain ⟨cur, hcur⟩ := t0'
  have g0 : Y.frozen? ⟨g, j * 2, none⟩ = false := by simp [World.frozen?, hcur]
  have g1 : Y.frozen? ⟨g, j * 2 + 1, none⟩ = false := by simp [World.frozen?, hcur]
  clear R4 N1 N0 C4 T4 hA1 BA1 WA1 r1 r2 r3 r4 BA2 R5 hA3 TA3 D3 hY TY DY N1Y WY W5 TV hV hVx TAV hcl hkx hks RV hcs hcur hgl hcap hgW hdW hwd hd hgd hpi hu hU hl
  go_wp2_with (first | (refine wpList_append_run rfl _ _ 52 rfl _ _ (by rfl) (by rfl) (by first | exact HB1.out | (rw [HA1.out]; exact HB1.out)) ?_) | (rw [HA1.out]) | (rw [HA3.out]))
  refine wp_only ?_
  refine wp_region_z (fun wx : World => wx = Y) [7] (by kernel_rfl) ?_
  rw [HY.out]
  refine zx 0 7 16 rfl (by kernel_rfl) rfl ?_
  iterate 5 (refine zxc rfl (by rfl) (fun wx hx => by subst hx; go_simp; rfl) ?_; simp only [zp])
  refine zxc (v := wy o (.slice ac nc cc)) rfl (by rfl) (fun wx hx => by subst hx; go_simp) ?_
  simp only [zp]
  refine zxc rfl (by rfl) (fun wx hx => by subst hx; go_simp; rfl) ?_
  simp only [zp]
  refine zxn ?_
  refine zw 7 [] (by kernel_rfl) ?_
  refine readyZ.skip (w' := V) rfl rfl (by rw [← HV.out]; go_simp) (fun h => absurd (by decide) h) ?_ readyZ.nil
  refine anyZ_done (by kernel_rfl) ?_ _
  dsimp only [Only, Exit.then]
  clear s0 s1 g0 g1 y3 v0 v1 w2 w3 f2
  go_wp2_with fail
  refine bodyPost_ret (results_none rfl _ _ _) rfl ?_
  exact ⟨⟨_, rfl⟩, HF.out⟩
end Go.Proofs.Ytihjmgdihpeffaa
