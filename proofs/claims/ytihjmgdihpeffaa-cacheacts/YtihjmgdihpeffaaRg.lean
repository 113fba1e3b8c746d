/-
  The document's Get.
-/
import Derived.Test.YtihjmgdihpeffaaRp
namespace Go.Proofs.Ytihjmgdihpeffaa
open Go.RowKit
set_option linter.unusedVariables false
set_option linter.unusedSimpArgs false
theorem fnd_at : ∀ {L : List En} {j : Nat} {x : En}, (ks L).Nodup → L[j]? = some x → fnd L x.1 = some x.2
  | [], j, x, h, hj => by simp at hj
  | y :: r, 0, x, h, hj => by
    simp at hj
    subst hj
    unfold fnd
    rw [if_pos rfl]
  | y :: r, j + 1, x, h, hj => by
    rw [show ks (y :: r) = y.1 :: ks r from rfl, List.nodup_cons] at h
    have hj : r[j]? = some x := by simpa using hj
    have hne : ¬ y.1 = x.1 := fun e => h.1 (by rw [e]; exact mem_ks (List.mem_of_getElem? hj))
    unfold fnd
    rw [if_neg hne, fnd_at h.2 hj]
theorem ks_at {L : List En} {j : Nat} {q : K6} (h : (ks L)[j]? = some q) : ∃ t, L[j]? = some (q, t) := by
  rw [ks, List.getElem?_map, Option.map_eq_some_iff] at h
  obtain ⟨x, hx, rfl⟩ := h
  exact ⟨x.2, hx⟩
def RgE (w : World) (r : Bool × Wk) (e : Ending) (w' : World) : Prop :=
  ∃ v, e = .returned (.tuple #[wy r.2.1 v, .bool r.1]) ∧ Cn w' v r.2.2 ∧ Below w.heap.size w w'
set_option maxRecDepth 100000 in
set_option maxHeartbeats 1000000 in
theorem refget_is {w : World} {d : Nat} {kx wx : Value} {room ep : Int} {U : List Wv} {L : List En} (h : RC w d kx wx room ep U L) (q : K6) (e : Int) :
    Calls Try.prog 10 #[ptr d, kv q, .int .i64 e] w (RgE w (getA ep L q e)) := by
  obtain ⟨X, hX⟩ : ∃ X, (w.alloc (.cells #[.int .i64 q.1, .int .i64 q.2.1, .int .i64 q.2.2.1, .int .i64 q.2.2.2.1, .int .i64 q.2.2.2.2.1, .int .i64 q.2.2.2.2.2] 36)).alloc (.cells #[.int .i64 0, .slice none 0 0] 39) = X := ⟨_, rfl⟩
  have B0 : Below w.heap.size w X := by rw [← hX]; exact box2 _ _ _
  have K0 : Bk X w.heap.size 36 (kCs q) := by rw [← hX]; exact ((Bk.new w 36 (kCs q)).upto (box1 _ _))
  have K1 : Bk X (w.heap.size + 1) 39 [.int .i64 0, .slice none 0 0] := by rw [← hX]; exact Bk.new2 _ _ _ _
  have hP := h.upto B0
  have hlk : (ks L).length = L.length := by simp
  have HPl := hide (place_is hP.blk hP.keys (by have := h.rm; have := h.le; rw [hlk]; omega) q)
  have q0 := K0.cell 0 _ rfl
  have q1 := K0.cell 1 _ rfl
  have q2 := K0.cell 2 _ rfl
  have q3 := K0.cell 3 _ rfl
  have q4 := K0.cell 4 _ rfl
  have q5 := K0.cell 5 _ rfl
  have HX := hide hX
  have HK := hide (And.intro B0 <| And.intro K1 hP)
  have HNo : ∀ W, Below X.heap.size X W → RgE w (false, 0, []) (.returned (.tuple #[zW, .bool false])) ((W.setCell ⟨w.heap.size + 1, 0, none⟩ (.int .i64 0)).setCell ⟨w.heap.size + 1, 1, none⟩ (.slice none 0 0)) := fun W hW =>
    ⟨_, rfl, Rw.nil _ _ _ _, ((B0.trans (hW.mono B0.size)).setCell (by show w.heap.size ≤ w.heap.size + 1; omega) _).setCell (by show w.heap.size ≤ w.heap.size + 1; omega) _⟩
  have HNo := hide HNo
  rcases plc_spec (ks L) q 0 with ⟨hpl, hn⟩ | ⟨j, hpl, hj, hjl⟩
  · have hg : getA ep L q e = (false, 0, []) := by
      unfold getA
      rw [fnd_none.2 hn]
      split <;> rfl
    rw [hg]
    rw [hpl] at HPl
    clear hX B0 K0 K1 hP h hlk hg hpl hn
    go_enter Try.func10, Try.ntmps10
    go_wp2_with (rw [HX.out])
    refine HPl.out.mono ?_
    rintro e1 W ⟨rfl, hb⟩
    have K := HK.out.2.1.upto hb
    have y0 := K.cell 0 _ rfl
    have y1 := K.cell 1 _ rfl
    have f0 := K.frozen 0
    have f1 := K.frozen 1
    have KE := (K.set 0 (.int .i64 0)).set 1 (.slice none 0 0)
    have e0 := KE.cell 0 _ rfl
    have e1 := KE.cell 1 _ rfl
    have HR := hide (HNo.out W hb)
    clear K KE q0 q1 q2 q3 q4 q5 hb
    go_wp2_with fail
    exact bodyPost_ret (v := .tuple #[zW, .bool false]) (by simp [results, Try.results10, go_sem, e0, e1]) rfl HR.out
  · rw [Nat.zero_add] at hpl
    rw [hpl] at HPl
    obtain ⟨t, ht⟩ := ks_at hj
    have hf := fnd_at h.nd ht
    have hj0 : ¬ ((j : Nat) : Int) < 0 := by omega
    by_cases he : e = ep
    · have hg : getA ep L q e = (true, t) := by
        unfold getA
        rw [if_pos he, hf]
      rw [hg]
      obtain ⟨u, hu⟩ : ∃ u, U[j]? = some u := ⟨_, List.getElem?_eq_getElem (by rw [h.len]; rw [hlk] at hjl; exact hjl)⟩
      have hlU : (j : Int) < (U.length : Nat) := by rw [h.len]; rw [hlk] at hjl; omega
      clear hX B0 K0 K1 hP hlk hg hpl hj hjl hf HNo
      have HU := hide (And.intro h <| And.intro hu ht)
      clear h hu ht
      subst he
      go_enter Try.func10, Try.ntmps10
      go_wp2_with (rw [HX.out])
      refine HPl.out.mono ?_
      rintro e1 W ⟨rfl, hb⟩
      obtain ⟨hB0, hK1, hP⟩ := HK.out
      obtain ⟨uo, ua, un, uc⟩ := u
      obtain rfl : uo = t.1 := (hP.way j _ _ HU.out.2.1 HU.out.2.2).1
      have PW := hP.upto hb
      have K := hK1.upto hb
      have y0 := K.cell 0 _ rfl
      have y1 := K.cell 1 _ rfl
      have f0 := K.frozen 0
      have f1 := K.frozen 1
      have b1 := PW.blk.cell 1 _ rfl
      have b3 := PW.blk.cell 3 _ rfl
      obtain ⟨g, cap, rfl, hcap, hgl, hcs⟩ := Rw.elt wCs_len PW.ways HU.out.2.1
      have c0 : W.cell? ⟨g, j * 2 + 0, none⟩ = some (.int .i64 t.1) := hcs 0 _ rfl
      have c1 : W.cell? ⟨g, j * 2 + 1, none⟩ = some (.slice ua un uc) := hcs 1 _ rfl
      rw [Nat.add_zero] at c0
      obtain ⟨hu1, hcn⟩ := PW.way j _ _ HU.out.2.1 HU.out.2.2
      have KE := (K.set 0 (.int .i64 t.1)).set 1 (.slice ua un uc)
      have e0 := KE.cell 0 _ rfl
      have e1 := KE.cell 1 _ rfl
      have T : Turns (fun g => g = w.heap.size + 1) W ((W.setCell ⟨w.heap.size + 1, 0, none⟩ (.int .i64 t.1)).setCell ⟨w.heap.size + 1, 1, none⟩ (.slice ua un uc)) := (Turns.set (S := fun g => g = w.heap.size + 1) W rfl _).trans (Turns.set _ (.inl rfl) _)
      have HR := hide (show RgE w (true, t) (.returned (.tuple #[wy t.1 (.slice ua un uc), .bool true])) ((W.setCell ⟨w.heap.size + 1, 0, none⟩ (.int .i64 t.1)).setCell ⟨w.heap.size + 1, 1, none⟩ (.slice ua un uc)) from
        ⟨_, rfl, hcn.stay T (fun g hg cur hc => by subst hg; have := K.symm.trans hc; simp at this), ((hB0.trans (hb.mono hB0.size)).setCell (by show w.heap.size ≤ w.heap.size + 1; omega) _).setCell (by show w.heap.size ≤ w.heap.size + 1; omega) _⟩)
      clear hB0 hK1 hP PW K hcs hcn KE T q0 q1 q2 q3 q4 q5 hb HK HU HPl HX
      clear hu1
      go_wp2_with fail
      exact bodyPost_ret (v := .tuple #[wy t.1 (.slice ua un uc), .bool true]) (by simp [results, Try.results10, go_sem, e0, e1]) rfl HR.out
    · have hg : getA ep L q e = (false, 0, []) := by
        unfold getA
        rw [if_neg he]
      rw [hg]
      have hjd : decide (((j : Nat) : Int) < 0) = false := decide_eq_false hj0
      have hne : (e != ep) = true := by simpa using he
      have HPP := hide hP
      clear hX B0 K0 K1 hP h hlk hg hpl hj hjl hf ht
      go_enter Try.func10, Try.ntmps10
      go_wp2_with (rw [HX.out])
      refine HPl.out.mono ?_
      rintro e1 W ⟨rfl, hb⟩
      have K := HK.out.2.1.upto hb
      have y0 := K.cell 0 _ rfl
      have y1 := K.cell 1 _ rfl
      have f0 := K.frozen 0
      have f1 := K.frozen 1
      have b1 := (HPP.out.upto hb).blk.cell 1 _ rfl
      have KE := (K.set 0 (.int .i64 0)).set 1 (.slice none 0 0)
      have e0 := KE.cell 0 _ rfl
      have e1 := KE.cell 1 _ rfl
      have HR := hide (HNo.out W hb)
      clear K KE q0 q1 q2 q3 q4 q5 hb
      go_wp2_with fail
      exact bodyPost_ret (v := .tuple #[zW, .bool false]) (by simp [results, Try.results10, go_sem, e0, e1]) rfl HR.out
end Go.Proofs.Ytihjmgdihpeffaa
