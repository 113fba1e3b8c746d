/-
  Plain facts: which cells a foot has, who stands where, what stays so when a building is placed or razed.
-/
import Derived.Test.YtekpamilcpeanaaDoorRefW
import Derived.Test.YtekpamilcpeanaaDoorNew
namespace Go.Proofs.YtekpamilcpeanaaDoor
open Go.RowKit
set_option linter.unusedVariables false
def Bd.has (t : Bd) (u v : Int) : Bool := YtekpamilcpeanaaDoor.has t.x t.y t.a t.b u v
def Bd.mt (s t : Bd) : Bool := mtB s.x s.y s.a s.b t.x t.y t.a t.b
theorem has_iff (x y a b u v : Int) : has x y a b u v = true ↔ may x y a b = true ∧ x ≤ u ∧ u ≤ x + a - 1 ∧ y ≤ v ∧ v ≤ y + b - 1 := by simp [has]
theorem mtB_iff (x y a b p q c d : Int) : mtB x y a b p q c d = true ↔ ∃ u v, has x y a b u v = true ∧ has p q c d u v = true := by
  constructor
  · intro h
    simp only [mtB, Bool.and_eq_true, decide_eq_true_eq] at h
    obtain ⟨h1, h2, h3, h4⟩ := h
    exact ⟨max x p, max y q, (has_iff _ _ _ _ _ _).2 ⟨h1, by omega, by omega, by omega, by omega⟩, (has_iff _ _ _ _ _ _).2 ⟨h2, by omega, by omega, by omega, by omega⟩⟩
  · rintro ⟨u, v, h1, h2⟩
    obtain ⟨m1, a1, a2, a3, a4⟩ := (has_iff _ _ _ _ _ _).1 h1
    obtain ⟨m2, b1, b2, b3, b4⟩ := (has_iff _ _ _ _ _ _).1 h2
    simp only [mtB, Bool.and_eq_true, decide_eq_true_eq]
    exact ⟨m1, m2, by omega, by omega⟩
theorem Bd.mt_iff (s t : Bd) : s.mt t = true ↔ ∃ u v, s.has u v = true ∧ t.has u v = true := mtB_iff _ _ _ _ _ _ _ _
theorem Bd.mt_comm (s t : Bd) : s.mt t = t.mt s := by
  rw [Bool.eq_iff_iff, Bd.mt_iff, Bd.mt_iff]
  exact ⟨fun ⟨u, v, h, k⟩ => ⟨u, v, k, h⟩, fun ⟨u, v, h, k⟩ => ⟨u, v, k, h⟩⟩
theorem has_w64 {x y a b u v : Int} (h : has x y a b u v = true) : W64 u ∧ W64 v := by
  obtain ⟨m, h1, h2, h3, h4⟩ := (has_iff _ _ _ _ _ _).1 h
  have := (may_iff _ _ _ _).1 m
  exact ⟨w64_of (by omega), w64_of (by omega)⟩
theorem mem_allC (x y a b : Int) (q : Cel) : q ∈ allC x y a b ↔ has x y a b q.1.1 q.1.2 = true := by
  rw [has_iff]
  by_cases hm : may x y a b = true
  · have hb := (may_iff _ _ _ _).1 hm
    obtain ⟨A, hA⟩ : ∃ A : Nat, a.toNat = A := ⟨_, rfl⟩
    obtain ⟨B, hB⟩ : ∃ B : Nat, b.toNat = B := ⟨_, rfl⟩
    have hA' : a = (A : Int) := by omega
    have hB' : b = (B : Int) := by omega
    have hA0 : 0 < A := by omega
    rw [allC, if_pos hm, hA, hB]
    simp only [upto, List.mem_map, List.mem_range]
    constructor
    · rintro ⟨i, hi, rfl⟩
      have h1 : i % A < A := Nat.mod_lt _ hA0
      have h2 : i / A < B := by rw [Nat.div_lt_iff_lt_mul hA0]; exact hi
      unfold cellAt
      obtain ⟨m, hm1⟩ : ∃ m : Nat, i % A = m := ⟨_, rfl⟩
      obtain ⟨d, hd1⟩ : ∃ d : Nat, i / A = d := ⟨_, rfl⟩
      rw [hm1] at h1 ⊢
      rw [hd1] at h2 ⊢
      clear hm1 hd1 hi
      have hw : W64 (x + (m : Nat), y + (d : Nat)).1 ∧ W64 (x + (m : Nat), y + (d : Nat)).2 := by
        dsimp only
        exact ⟨w64_of (by omega), w64_of (by omega)⟩
      rw [mkC_is hw]
      dsimp only
      exact ⟨hm, by omega, by omega, by omega, by omega⟩
    · rintro ⟨-, h1, h2, h3, h4⟩
      obtain ⟨j, hj⟩ : ∃ j : Nat, q.1.1 = x + (j : Nat) := ⟨(q.1.1 - x).toNat, by omega⟩
      obtain ⟨k, hk⟩ : ∃ k : Nat, q.1.2 = y + (k : Nat) := ⟨(q.1.2 - y).toNat, by omega⟩
      have hjA : j < A := by omega
      have hkB : k < B := by omega
      refine ⟨k * A + j, row_lt hkB hjA (Nat.le_refl _), ?_⟩
      apply Subtype.ext
      have he : cellAt x y A (k * A + j) = q.1 := by
        rw [cellAt_row x y A k j hjA]
        exact Prod.ext hj.symm hk.symm
      rw [mkC_is (by rw [he]; exact q.2), he]
  · rw [allC, if_neg hm]
    simp [hm]
theorem any_allC (x y a b u v : Int) : (allC x y a b).any (fun q => decide (q.1.1 = u ∧ q.1.2 = v)) = has x y a b u v := by
  rw [Bool.eq_iff_iff, List.any_eq_true]
  constructor
  · rintro ⟨q, hq, h⟩
    obtain ⟨rfl, rfl⟩ := of_decide_eq_true h
    exact (mem_allC _ _ _ _ _).1 hq
  · intro h
    exact ⟨⟨(u, v), has_w64 h⟩, (mem_allC _ _ _ _ _).2 h, by simp⟩
/-- Who has a cell: the first of the list that has it. -/
def whoF (l : List Bd) : Int → Int → Option Int := fun u v => (l.find? (fun t => t.has u v)).map Bd.id
theorem taken_busy (l : List Bd) (t : Bd) : takenB (whoF l) t.x t.y t.a t.b = busyB l t := by
  rw [Bool.eq_iff_iff, takenB, busyB, List.any_eq_true, List.any_eq_true]
  constructor
  · rintro ⟨q, hq, h⟩
    simp only [whoF, Option.isSome_map, List.find?_isSome] at h
    obtain ⟨s, hs, hh⟩ := h
    exact ⟨s, hs, (mtB_iff _ _ _ _ _ _ _ _).2 ⟨_, _, hh, (mem_allC _ _ _ _ _).1 hq⟩⟩
  · rintro ⟨s, hs, h⟩
    obtain ⟨u, v, h1, h2⟩ := (mtB_iff _ _ _ _ _ _ _ _).1 h
    refine ⟨⟨(u, v), has_w64 h2⟩, (mem_allC _ _ _ _ _).2 h2, ?_⟩
    simp only [whoF, Option.isSome_map, List.find?_isSome]
    exact ⟨s, hs, h1⟩
theorem code_ref (W H : Int) (l : List Bd) (t : Bd) : code W H (whoF l) l t = refcode W H l t := by unfold code refcode; rw [taken_busy]
theorem busy_has {l : List Bd} {t s : Bd} (h : busyB l t = false) (hs : s ∈ l) {u v : Int} (ht : t.has u v = true) : s.has u v = false := by
  rw [Bool.eq_false_iff]
  intro hh
  have := List.any_eq_false.1 h s hs
  exact this ((mtB_iff _ _ _ _ _ _ _ _).2 ⟨u, v, hh, ht⟩)
theorem find_none {l : List Bd} {u v : Int} (h : ∀ s ∈ l, s.has u v = false) : l.find? (fun t => t.has u v) = none := by
  rw [List.find?_eq_none]
  intro s hs
  simp [h s hs]
theorem who_put {l1 l2 : List Bd} {t : Bd} (h : busyB (l1 ++ l2) t = false) : putAll (whoF (l1 ++ l2)) (allC t.x t.y t.a t.b) t.id = whoF (l1 ++ t :: l2) := by
  funext u v
  unfold putAll
  rw [any_allC, show has t.x t.y t.a t.b u v = t.has u v from rfl]
  unfold whoF
  rw [List.find?_append, List.find?_append, List.find?_cons]
  by_cases ht : t.has u v = true
  · rw [if_pos ht, find_none (l := l1) (fun s hs => busy_has h (List.mem_append_left _ hs) ht), ht]
    rfl
  · rw [if_neg ht, show t.has u v = false by simpa using ht]
theorem who_ins {l : List Bd} {t : Bd} (h : busyB l t = false) : putAll (whoF l) (allC t.x t.y t.a t.b) t.id = whoF (ins l t) := by
  have := who_put (l1 := l.take (pos l t.id)) (l2 := l.drop (pos l t.id)) (t := t) (by rw [List.take_append_drop]; exact h)
  rwa [List.take_append_drop] at this
def Apart (l : List Bd) : Prop := l.Pairwise (fun s t => s.mt t = false)
theorem mt_has {s t : Bd} (h : s.mt t = false) {u v : Int} (ht : t.has u v = true) : s.has u v = false := by
  rw [Bool.eq_false_iff]
  intro hh
  rw [(Bd.mt_iff s t).2 ⟨u, v, hh, ht⟩] at h
  cases h
theorem split_at {l : List Bd} {k : Nat} {t : Bd} (ht : l[k]? = some t) : l = l.take k ++ t :: l.drop (k + 1) := by
  obtain ⟨hk, rfl⟩ := List.getElem?_eq_some_iff.1 ht
  rw [← List.drop_eq_getElem_cons hk, List.take_append_drop]
theorem who_del {l : List Bd} {k : Nat} {t : Bd} (ht : l[k]? = some t) (ha : Apart l) : delAll (whoF l) (allC t.x t.y t.a t.b) = whoF (del l k) := by
  funext u v
  unfold delAll
  rw [any_allC, show has t.x t.y t.a t.b u v = t.has u v from rfl]
  unfold del
  obtain ⟨l1, h1⟩ : ∃ l1, l.take k = l1 := ⟨_, rfl⟩
  obtain ⟨l2, h2⟩ : ∃ l2, l.drop (k + 1) = l2 := ⟨_, rfl⟩
  have hl := split_at ht
  rw [h1, h2] at hl ⊢
  rw [hl] at ha ⊢
  clear h1 h2 hl ht l
  obtain ⟨-, ha2, ha3⟩ := List.pairwise_append.1 ha
  obtain ⟨ha4, -⟩ := List.pairwise_cons.1 ha2
  unfold whoF
  rw [List.find?_append, List.find?_append, List.find?_cons]
  by_cases hh : t.has u v = true
  · rw [if_pos hh, find_none (l := l1) (fun s hs => mt_has (ha3 s hs t (by simp)) hh), find_none (l := l2) (fun s hs => mt_has (by rw [Bd.mt_comm]; exact ha4 s hs) hh)]
    rfl
  · rw [if_neg hh, show t.has u v = false by simpa using hh]
/-- What holds of the list of a World at all times. -/
structure Fine (W H : Int) (l : List Bd) : Prop where
  sorted : Sorted l
  len : l.length ≤ 256
  all : ∀ t ∈ l, mb W H t = true
  apart : Apart l
theorem Fine.nil (W H : Int) : Fine W H [] := ⟨List.Pairwise.nil, by simp, by simp, List.Pairwise.nil⟩
theorem refcode_zero {W H : Int} {l : List Bd} {t : Bd} (h : refcode W H l t = 0) : mb W H t = true ∧ found l t.id = false ∧ l.length < 256 ∧ busyB l t = false := by
  unfold refcode at h
  cases h1 : mb W H t
  · simp [h1] at h
  · cases h2 : found l t.id
    · by_cases h3 : 256 ≤ l.length
      · simp [h1, h2, h3] at h
      · cases h4 : busyB l t
        · exact ⟨rfl, rfl, by omega, rfl⟩
        · simp [h1, h2, h3, h4] at h
    · simp [h1, h2] at h
theorem refcode_ok {W H : Int} {l : List Bd} {t : Bd} (h1 : mb W H t = true) (h2 : found l t.id = false) (h3 : l.length < 256) (h4 : busyB l t = false) : refcode W H l t = 0 := by
  unfold refcode
  simp [h1, h2, h4]; omega
theorem Fine.del {W H : Int} {l : List Bd} (h : Fine W H l) (k : Nat) : Fine W H (YtekpamilcpeanaaDoor.del l k) := by
  have hsub : (YtekpamilcpeanaaDoor.del l k).Sublist l := by
    unfold YtekpamilcpeanaaDoor.del
    have h1 : (l.take k ++ l.drop (k + 1)).Sublist (l.take k ++ l.drop k) := List.Sublist.append (List.Sublist.refl _) (by rw [← List.drop_drop]; exact List.drop_sublist _ _)
    rwa [List.take_append_drop] at h1
  exact ⟨h.sorted.sublist hsub, Nat.le_trans hsub.length_le h.len, fun t ht => h.all t (hsub.subset ht), h.apart.sublist hsub⟩
theorem take_lt {l : List Bd} {i : Int} : ∀ s ∈ l.take (pos l i), s.id < i := by
  induction l with
  | nil => simp
  | cons t r ih =>
    intro s hs
    by_cases h : t.id < i
    · rw [show pos (t :: r) i = pos r i + 1 by simp [pos, h], List.take_succ_cons] at hs
      rcases List.mem_cons.1 hs with rfl | hs
      · exact h
      · exact ih s hs
    · rw [show pos (t :: r) i = 0 by simp [pos, h], List.take_zero] at hs
      cases hs
theorem drop_gt {l : List Bd} {i : Int} (hs : Sorted l) (hf : found l i = false) : ∀ s ∈ l.drop (pos l i), i < s.id := by
  intro s hm
  obtain ⟨j, hj, rfl⟩ := List.getElem_of_mem hm
  rw [List.length_drop] at hj
  rw [List.getElem_drop]
  have hlt : pos l i + j < l.length := by omega
  have h1 := pos_iff hs i (pos l i + j) l[pos l i + j] (List.getElem?_eq_getElem hlt)
  have h2 : l[pos l i + j].id ≠ i := fun e => by
    rw [found, List.any_eq_false] at hf
    exact hf _ (List.getElem_mem hlt) (by simpa using e)
  omega
theorem Fine.ins {W H : Int} {l : List Bd} {t : Bd} (h : Fine W H l) (h0 : refcode W H l t = 0) : Fine W H (YtekpamilcpeanaaDoor.ins l t) := by
  obtain ⟨h1, h2, h3, h4⟩ := refcode_zero h0
  have hl : l.take (pos l t.id) ++ l.drop (pos l t.id) = l := List.take_append_drop _ _
  have hs := h.sorted
  have ha := h.apart
  have hlt := @take_lt l t.id
  have hgt := drop_gt hs h2
  have hb : ∀ s ∈ l, s.mt t = false := fun s hm => Bool.eq_false_iff.2 (List.any_eq_false.1 h4 s hm)
  refine ⟨?_, by rw [ins_len]; omega, ?_, ?_⟩
  · unfold Sorted YtekpamilcpeanaaDoor.ins at *
    rw [← hl] at hs
    obtain ⟨a1, a2, a3⟩ := List.pairwise_append.1 hs
    refine List.pairwise_append.2 ⟨a1, List.pairwise_cons.2 ⟨hgt, a2⟩, fun a ha b hb => ?_⟩
    rcases List.mem_cons.1 hb with rfl | hb
    · exact hlt a ha
    · exact a3 a ha b hb
  · intro s hm
    unfold YtekpamilcpeanaaDoor.ins at hm
    rcases List.mem_append.1 hm with hm | hm
    · exact h.all s (List.mem_of_mem_take hm)
    · rcases List.mem_cons.1 hm with rfl | hm
      · exact h1
      · exact h.all s (List.mem_of_mem_drop hm)
  · unfold Apart YtekpamilcpeanaaDoor.ins at *
    rw [← hl] at ha
    obtain ⟨a1, a2, a3⟩ := List.pairwise_append.1 ha
    refine List.pairwise_append.2 ⟨a1, List.pairwise_cons.2 ⟨fun s hm => ?_, a2⟩, fun a ha b hb' => ?_⟩
    · rw [Bd.mt_comm]; exact hb s (List.mem_of_mem_drop hm)
    · rcases List.mem_cons.1 hb' with rfl | hb'
      · exact hb a (List.mem_of_mem_take ha)
      · exact a3 a ha b hb'
/-- What the document's Check asks of a map's buildings, those of done passed already. -/
def chk (W H : Int) : List Bd → List Bd → Bool
  | _, [] => true
  | done, t :: r => mb W H t && (done.all (fun s => decide (s.id < t.id) && !s.mt t) && chk W H (done ++ [t]) r)
theorem mb_no {W H : Int} {t : Bd} (h : mb W H t = true) : 1 ≤ t.id ∧ t.id ≤ 2147483647 := by
  simp only [mb, Bool.and_eq_true, decide_eq_true_eq] at h
  exact ⟨h.1, h.2.1⟩
theorem last_lt {l : List Bd} {i : Int} (hs : Sorted l) (hi : 1 ≤ i) : lastId l < i ↔ ∀ s ∈ l, s.id < i := by
  rcases List.eq_nil_or_concat l with rfl | ⟨r, t, rfl⟩
  · simp [lastId]; omega
  · rw [List.concat_eq_append] at hs ⊢
    rw [lastId_snoc]
    constructor
    · intro h s hm
      rcases List.mem_append.1 hm with hm | hm
      · have := (List.pairwise_append.1 hs).2.2 s hm t (by simp)
        omega
      · rw [List.mem_singleton.1 hm]; exact h
    · intro h
      exact h t (by simp)
theorem pos_end {l : List Bd} {i : Int} (h : ∀ s ∈ l, s.id < i) : pos l i = l.length := pos_all h
theorem ins_end {l : List Bd} {t : Bd} (h : ∀ s ∈ l, s.id < t.id) : ins l t = l ++ [t] := by
  unfold ins
  rw [pos_end h]
  simp
theorem okL_chk (W H : Int) : ∀ (rest done : List Bd), Fine W H done → whoL done = whoF done → okL W H done rest = (decide (done.length + rest.length ≤ 256) && chk W H done rest)
  | [], done, hf, hw => by
    have := hf.len
    simp [okL, chk, this]
  | t :: r, done, hf, hw => by
    rw [okL, chk, hw, code_ref]
    by_cases h1 : mb W H t = true
    · have hid := mb_no h1
      by_cases h2 : lastId done < t.id
      · have h2' := (last_lt hf.sorted hid.1).1 h2
        have hnf : found done t.id = false := by
          rw [found, List.any_eq_false]
          intro s hm
          have := h2' s hm
          simp; omega
        by_cases h3 : busyB done t = false
        · have hall : done.all (fun s => decide (s.id < t.id) && !s.mt t) = true := by
            rw [List.all_eq_true]
            intro s hm
            have h5 : s.mt t = false := Bool.eq_false_iff.2 (List.any_eq_false.1 h3 s hm)
            simp [h2' s hm, h5]
          by_cases h4 : done.length < 256
          · have hc := refcode_ok (W := W) (H := H) h1 hnf h4 h3
            have hf' := hf.ins hc
            rw [ins_end h2'] at hf'
            have hw' : whoL (done ++ [t]) = whoF (done ++ [t]) := by
              rw [whoL_snoc, hw, who_ins h3, ins_end h2']
            rw [okL_chk W H r (done ++ [t]) hf' hw', hc, hall, h1, decide_eq_true h2]
            have he : (done ++ [t]).length + r.length = done.length + (t :: r).length := by simp; omega
            rw [he]
            simp
          · have hc : refcode W H done t ≠ 0 := fun hc => h4 (refcode_zero hc).2.2.1
            have h6 : ¬ done.length + (t :: r).length ≤ 256 := by simp; omega
            rw [decide_eq_false hc, decide_eq_false h6]
            simp
        · have hc : refcode W H done t ≠ 0 := fun hc => h3 (refcode_zero hc).2.2.2
          have hall : done.all (fun s => decide (s.id < t.id) && !s.mt t) = false := by
            rw [Bool.eq_false_iff]
            intro ha
            apply h3
            rw [busyB, List.any_eq_false]
            intro s hm
            have := List.all_eq_true.1 ha s hm
            simp only [Bool.and_eq_true, Bool.not_eq_true'] at this
            show ¬ s.mt t = true
            rw [this.2]
            simp
          rw [decide_eq_false hc, hall]
          simp
      · have hall : done.all (fun s => decide (s.id < t.id) && !s.mt t) = false := by
          rw [Bool.eq_false_iff]
          intro ha
          apply h2
          refine (last_lt hf.sorted hid.1).2 (fun s hm => ?_)
          have := List.all_eq_true.1 ha s hm
          simp only [Bool.and_eq_true, decide_eq_true_eq] at this
          exact this.1
        rw [decide_eq_false h2, hall]
        simp
    · have hc : refcode W H done t ≠ 0 := fun hc => h1 (refcode_zero hc).1
      rw [decide_eq_false hc, show mb W H t = false by simpa using h1]
      simp
theorem okL_fine (W H : Int) : ∀ (rest done : List Bd), Fine W H done → whoL done = whoF done → okL W H done rest = true → Fine W H (done ++ rest) ∧ whoL (done ++ rest) = whoF (done ++ rest)
  | [], done, hf, hw, h => by rw [List.append_nil]; exact ⟨hf, hw⟩
  | t :: r, done, hf, hw, h => by
    rw [okL, hw, code_ref] at h
    simp only [Bool.and_eq_true, decide_eq_true_eq] at h
    obtain ⟨h1, h2, h3⟩ := h
    obtain ⟨k1, k2, k3, k4⟩ := refcode_zero h2
    have h2' := (last_lt hf.sorted (mb_no k1).1).1 h1
    have hf' := hf.ins h2
    rw [ins_end h2'] at hf'
    have hw' : whoL (done ++ [t]) = whoF (done ++ [t]) := by rw [whoL_snoc, hw, who_ins k4, ins_end h2']
    have := okL_fine W H r (done ++ [t]) hf' hw' h3
    simpa using this
end Go.Proofs.YtekpamilcpeanaaDoor
