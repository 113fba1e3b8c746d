/-
  A reader that lies in memory: its bytes, its place, what was wrong first; what its inner methods tell.
-/
import Derived.Test.YtaioniegggfcjaaNumber
import Derived.BigQuiet
namespace Go.Proofs.Ytaioniegggfcjaa
open Go.RowKit
set_option linter.unusedVariables false
/-- In block g lies a reader of the bytes l at the place k; e was wrong first. -/
def Rd (w : World) (g : Nat) (l : List Nat) (k e : Nat) : Prop :=
  (g < w.heap.size ∧ ∀ i, 3 ≤ i → w.cell? ⟨g, i, none⟩ = none) ∧ k ≤ l.length ∧ w.frozen? ⟨g, 1, none⟩ = false ∧ w.frozen? ⟨g, 2, none⟩ = false ∧ w.cell? ⟨g, 1, none⟩ = some (.int .i64 (k : Nat)) ∧ w.cell? ⟨g, 2, none⟩ = some (.int .i64 (e : Nat)) ∧
    ∃ sv, w.cell? ⟨g, 0, none⟩ = some sv ∧ Bys w sv l
/-- The memory is as it was. -/
def Same (w w' : World) : Prop := w'.heap = w.heap ∧ w'.os = w.os ∧ w'.tape = w.tape ∧ w'.output = w.output
theorem Same.refl (w : World) : Same w w := ⟨rfl, rfl, rfl, rfl⟩
theorem same_drewN (w : World) (q : Nat) : Same w (w.drewN q) := by
  refine ⟨by simp, ?_, ?_, ?_⟩ <;> induction q <;> simp_all [World.drewN]
theorem Same.grown {w w' : World} (h : Same w w') (row : Option Nat) : w.grownBy w' row := ⟨h.2.1, h.2.2.1, h.2.2.2, by rw [h.1]; exact Nat.le_refl _, fun k _ _ => by rw [h.1]⟩
theorem Same.below {w w' : World} (h : Same w w') (B : Nat) : Below B w w' := ⟨h.2.1, h.2.2.1, h.2.2.2, by rw [h.1]; exact Nat.le_refl _, fun k _ => by rw [h.1]⟩
theorem Same.cell {w w' : World} (h : Same w w') (a : Addr) : w'.cell? a = w.cell? a := World.cell?_of_block (by rw [h.1])
theorem Same.frozen {w w' : World} (h : Same w w') (a : Addr) : w'.frozen? a = w.frozen? a := World.frozen?_of_block (by rw [h.1])
theorem Same.trans {a b c : World} (h : Same a b) (k : Same b c) : Same a c := ⟨k.1.trans h.1, k.2.1.trans h.2.1, k.2.2.1.trans h.2.2.1, k.2.2.2.trans h.2.2.2⟩
theorem Bys.same {w w' : World} {v : Value} {l : List Nat} (h : Bys w v l) (s : Same w w') : Bys w' v l := h.kept (s.below _)
theorem Rd.same {w w' : World} {g : Nat} {l : List Nat} {k e : Nat} (h : Rd w g l k e) (s : Same w w') : Rd w' g l k e := by
  obtain ⟨⟨h1, h9⟩, h2, h3, h4, h5, h6, sv, h7, h8⟩ := h
  exact ⟨⟨by rw [s.1]; exact h1, fun i hi => by rw [s.cell]; exact h9 i hi⟩, h2, by rw [s.frozen]; exact h3, by rw [s.frozen]; exact h4, by rw [s.cell]; exact h5, by rw [s.cell]; exact h6, sv, by rw [s.cell]; exact h7, h8.same s⟩
/-- A part of bytes, from a place on. -/
theorem Bys.from {w : World} {a : Option Addr} {cap k : Nat} {l : List Nat} (h : Bys w (.slice a l.length cap) l) (hk : k ≤ l.length) :
    (cap = k → Bys w (.slice a (l.length - k) 0) (l.drop k)) ∧ (¬ cap = k → Bys w (.slice (Option.map (fun x => x.add k) a) (l.length - k) (cap - k)) (l.drop k)) := by
  obtain ⟨hs, hl, a', cap', he, hc, ha, hr⟩ := h
  injection he with q1 q2 q3
  subst q1 q3
  have hlen : (l.drop k).length = l.length - k := List.length_drop
  constructor
  · intro h
    have hnil : l.drop k = [] := List.drop_eq_nil_of_le (by omega)
    refine ⟨small_drop hs k, by omega, a, 0, by rw [hlen], by omega, fun _ => rfl, fun hne => absurd hnil hne⟩
  · intro h
    refine ⟨small_drop hs k, by omega, _, cap - k, by rw [hlen], by omega, fun hn => ?_, fun hne => ?_⟩
    · cases a with
      | none => have := ha rfl; omega
      | some x => cases hn
    · have hpos : 0 < (l.drop k).length := List.length_pos_iff.2 hne
      obtain ⟨b, o, rfl, e2, e3⟩ := hr (fun e => by subst e; simp at hpos)
      refine ⟨b, o + k, by simp [Addr.add_lit], e2, fun i hi => ?_⟩
      rw [dig_drop, Nat.add_assoc]
      exact e3 (k + i) (by omega)
theorem Bys.upto {w : World} {a : Option Addr} {cap k : Nat} {l : List Nat} (h : Bys w (.slice a l.length cap) l) (hk : k ≤ l.length) : Bys w (.slice a k cap) (l.take k) := by
  obtain ⟨hs, hl, a', cap', he, hc, ha, hr⟩ := h
  injection he with q1 q2 q3
  subst q1 q3
  have hlen : (l.take k).length = k := by rw [List.length_take]; omega
  refine ⟨small_take hs k, by omega, a, cap, by rw [hlen], by omega, ha, fun hne => ?_⟩
  obtain ⟨b, o, rfl, e2, e3⟩ := hr (fun e => by subst e; simp at hne)
  refine ⟨b, o, rfl, e2, fun i hi => ?_⟩
  rw [dig_take (by omega)]
  exact e3 i (by omega)
theorem err_nil (w : World) : Calls Try.prog 20 #[.pointer none] w fun e w' => e = .returned (.int .i64 5) ∧ w' = w := by
  go_enter Try.func20, Try.ntmps20
  go_wp2
  go_ret
  exact ⟨rfl, rfl⟩
theorem err_any (w : World) (g : Nat) (l : List Nat) (k e : Nat) (h : Rd w g l k e) : Calls Try.prog 20 #[.pointer (some ⟨g, 0, none⟩)] w fun x w' => x = .returned (.int .i64 (e : Nat)) ∧ w' = w := by
  obtain ⟨⟨h1, -⟩, h2, h3, h4, h5, h6, sv, h7, h8⟩ := h
  clear h8
  go_enter Try.func20, Try.ntmps20
  go_wp2
  go_ret
  exact ⟨rfl, rfl⟩
theorem left_nil (w : World) : Calls Try.prog 19 #[.pointer none] w fun e w' => e = .returned (.int .i64 0) ∧ w' = w := by
  go_enter Try.func19, Try.ntmps19
  go_wp2
  go_ret
  exact ⟨rfl, rfl⟩
theorem left_any (w : World) (g : Nat) (l : List Nat) (k e : Nat) (h : Rd w g l k e) : Calls Try.prog 19 #[.pointer (some ⟨g, 0, none⟩)] w fun x w' => x = .returned (.int .i64 ((l.length - k : Nat) : Int)) ∧ Same w w' := by
  obtain ⟨⟨h1, -⟩, h2, h3, h4, h5, h6, sv, h7, h8⟩ := h
  obtain ⟨a, cap, rfl, hc, _⟩ := h8.sl
  have hl : (l.length : Int) ≤ 140737488355328 := by have := h8.len; omega
  clear h8
  have hk : (0 : Int) ≤ k := by omega
  have hkl : (k : Int) ≤ l.length := by omega
  have e1 : ((l.length - k : Nat) : Int) = (l.length : Int) - k := by omega
  have E1 := hide e1
  clear e1
  go_enter Try.func19, Try.ntmps19
  go_wp2_with (first | go_quiet (fail) | fail)
  go_ret
  exact ⟨ret_i E1.out.symm, same_drewN w nq⟩
theorem rest_nil (w : World) : Calls Try.prog 39 #[.pointer none] w fun x w' => x = .returned (.slice none 0 0) ∧ w' = w := by
  go_enter Try.func39, Try.ntmps39
  go_wp2_with fail
  refine (err_nil _).mono ?_; rintro e wz ⟨rfl, hwz⟩; rw [hwz]; clear hwz wz
  go_wp2
  go_ret
  exact ⟨rfl, rfl⟩
def restOf (l : List Nat) (k e : Nat) : List Nat := if e = 0 then l.drop k else []
theorem rest_any (w : World) (g : Nat) (l : List Nat) (k e : Nat) (h : Rd w g l k e) : Calls Try.prog 39 #[.pointer (some ⟨g, 0, none⟩)] w fun x w' => ∃ v, x = .returned v ∧ Bys w' v (restOf l k e) ∧ Same w w' := by
  have he := err_any w g l k e h
  obtain ⟨⟨h1, -⟩, h2, h3, h4, h5, h6, sv, h7, h8⟩ := h
  obtain ⟨a, cap, rfl, hc, _⟩ := h8.sl
  have He := hide he
  have H8 := hide h8
  clear h8 he
  have hk : (0 : Int) ≤ k := by omega
  have hkl : (k : Int) ≤ l.length := by omega
  by_cases h0 : e = 0
  · subst h0
    have Hr : Hid (restOf l k 0 = l.drop k) := by show _ = _; simp [restOf]
    go_enter Try.func39, Try.ntmps39
    go_wp2_with fail
    refine He.out.mono ?_; rintro e wz ⟨rfl, hwz⟩; rw [hwz]; clear hwz wz
    go_wp2_with (first | go_quiet (fail) | fail)
    · have hfr := hide (H8.out.from h2).1
      go_ret
      refine ⟨_, rfl, ?_, same_drewN w nq⟩
      rw [Hr.out]
      exact (hfr.out (by assumption)).same (same_drewN w nq)
    · have hfr := hide (H8.out.from h2).2
      go_ret
      refine ⟨_, rfl, ?_, same_drewN w nq⟩
      rw [Hr.out]
      exact (hfr.out (by assumption)).same (same_drewN w nq)
  · have Hr : Hid (restOf l k e = []) := by show _ = _; simp [restOf, h0]
    have hz : ((e : Int) != 0) = true := by simp; omega
    clear h0
    go_enter Try.func39, Try.ntmps39
    go_wp2_with fail
    refine He.out.mono ?_; rintro e wz ⟨rfl, hwz⟩; rw [hwz]; clear hwz wz
    go_wp2
    go_ret
    refine ⟨_, rfl, ?_, Same.refl w⟩
    rw [Hr.out]
    exact Bys.nil w
/-- A store into a reader's own cells leaves bytes as they are. -/
theorem Bys.stored {w : World} {v : Value} {l : List Nat} {g i : Nat} {z : Int} (h : Bys w v l) (hc : w.cell? ⟨g, i, none⟩ = some (.int .i64 z)) (u : Value) : Bys (w.setCell ⟨g, i, none⟩ u) v l := by
  obtain ⟨hs, hl, a, cap, hv, hcap, ha, hr⟩ := h
  refine ⟨hs, hl, a, cap, hv, hcap, ha, fun hne => ?_⟩
  obtain ⟨b, o, e1, e2, e3⟩ := hr hne
  refine ⟨b, o, e1, by simpa [World.setCell] using e2, fun j hj => ?_⟩
  by_cases he : (⟨b, o + j, none⟩ : Addr) = ⟨g, i, none⟩
  · have := e3 j hj
    rw [he, hc] at this
    cases this
  · rw [World.cell?_setCell_other _ _ _ _ (fun h => he h.symm)]
    exact e3 j hj
theorem grown_setCell (w : World) (g i : Nat) (u : Value) : w.grownBy (w.setCell ⟨g, i, none⟩ u) (some g) :=
  ⟨rfl, rfl, rfl, by simp [World.setCell], fun k hk hne => heap_setCell_other w _ k u (fun h => hne (by rw [h]))⟩
theorem Rd.place {w : World} {g : Nat} {l : List Nat} {k e : Nat} (h : Rd w g l k e) (k' : Nat) (hk : k' ≤ l.length) : Rd (w.setCell ⟨g, 1, none⟩ (.int .i64 (k' : Nat))) g l k' e := by
  obtain ⟨⟨h1, h9⟩, h2, h3, h4, h5, h6, sv, h7, h8⟩ := h
  refine ⟨⟨by simpa [World.setCell] using h1, fun i hi => by rw [World.cell?_setCell_other _ ⟨g, 1, none⟩ ⟨g, i, none⟩ _ (by intro h; injection h; omega)]; exact h9 i hi⟩, hk, by simpa using h3, by simpa using h4, World.cell?_setCell_same _ _ _ h5, ?_, sv, ?_, h8.stored h5 _⟩
  · rw [World.cell?_setCell_other _ _ _ _ (by simp)]; exact h6
  · rw [World.cell?_setCell_other _ _ _ _ (by simp)]; exact h7
theorem Rd.wrong {w : World} {g : Nat} {l : List Nat} {k e : Nat} (h : Rd w g l k e) (e' : Nat) : Rd (w.setCell ⟨g, 2, none⟩ (.int .i64 (e' : Nat))) g l k e' := by
  obtain ⟨⟨h1, h9⟩, h2, h3, h4, h5, h6, sv, h7, h8⟩ := h
  refine ⟨⟨by simpa [World.setCell] using h1, fun i hi => by rw [World.cell?_setCell_other _ ⟨g, 2, none⟩ ⟨g, i, none⟩ _ (by intro h; injection h; omega)]; exact h9 i hi⟩, h2, by simpa using h3, by simpa using h4, ?_, World.cell?_setCell_same _ _ _ h6, sv, ?_, h8.stored h6 _⟩
  · rw [World.cell?_setCell_other _ _ _ _ (by simp)]; exact h5
  · rw [World.cell?_setCell_other _ _ _ _ (by simp)]; exact h7
theorem fail_nil (w : World) (y : Int) : Calls Try.prog 40 #[.pointer none, .int .i64 y] w fun x w' => x = .returned (.tuple #[]) ∧ w' = w := by
  go_enter Try.func40, Try.ntmps40
  go_wp2_with fail
  refine (err_nil _).mono ?_; rintro e wz ⟨rfl, hwz⟩; rw [hwz]; clear hwz wz
  go_wp2
  go_end0
  exact ⟨rfl, rfl⟩
def first (e y : Nat) : Nat := if e = 0 then y else e
theorem fail_any (w : World) (g : Nat) (l : List Nat) (k e y : Nat) (h : Rd w g l k e) : Calls Try.prog 40 #[.pointer (some ⟨g, 0, none⟩), .int .i64 (y : Nat)] w fun x w' => x = .returned (.tuple #[]) ∧ Rd w' g l k (first e y) ∧ w.grownBy w' (some g) := by
  have He := hide (err_any w g l k e h)
  have H := hide h
  obtain ⟨⟨h1, -⟩, h2, h3, h4, h5, h6, sv, h7, h8⟩ := h
  clear h8
  by_cases h0 : e = 0
  · subst h0
    go_enter Try.func40, Try.ntmps40
    go_wp2_with fail
    refine He.out.mono ?_; rintro e wz ⟨rfl, hwz⟩; rw [hwz]; clear hwz wz
    go_wp2
    go_end0
    exact ⟨rfl, H.out.wrong y, grown_setCell _ _ _ _⟩
  · have Hr : Hid (first e y = e) := by show _ = _; simp [first, h0]
    have hz : ((e : Int) == 0) = false := by simp; omega
    clear h0
    go_enter Try.func40, Try.ntmps40
    go_wp2_with fail
    refine He.out.mono ?_; rintro e wz ⟨rfl, hwz⟩; rw [hwz]; clear hwz wz
    go_wp2
    go_end0
    exact ⟨rfl, by rw [Hr.out]; exact H.out, grown_refl _ _⟩
end Go.Proofs.Ytaioniegggfcjaa
