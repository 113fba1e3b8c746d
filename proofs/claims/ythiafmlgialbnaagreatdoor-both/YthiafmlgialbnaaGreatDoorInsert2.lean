/-
  slices.Insert of one building inside a row of the call's own: with room, and without.
-/
import Derived.Test.YthiafmlgialbnaaGreatDoorInsert
namespace Go.Proofs.YthiafmlgialbnaaGreatDoor
open Go.RowKit
set_option linter.unusedVariables false
theorem nmin_l {a b : Nat} (h : a ≤ b) : Nat.min a b = a := Nat.min_eq_left h
theorem nmin_r {a b : Nat} (h : b ≤ a) : Nat.min a b = b := Nat.min_eq_right h
theorem cs_take (l : List Bd) (i : Nat) : (l.take i).flatMap Bd.cs = (l.flatMap Bd.cs).take (i * 5) := by
  induction i generalizing l with
  | zero => simp
  | succ i ih =>
    cases l with
    | nil => simp
    | cons t r =>
      rw [List.take_succ_cons, List.flatMap_cons, List.flatMap_cons, ih r, List.take_append]
      have : t.cs.length = 5 := rfl
      rw [List.take_of_length_le (l := t.cs) (by omega), this, show (i + 1) * 5 - 5 = i * 5 by omega]
theorem cs_drop (l : List Bd) (i : Nat) : (l.drop i).flatMap Bd.cs = (l.flatMap Bd.cs).drop (i * 5) := by
  induction i generalizing l with
  | zero => simp
  | succ i ih =>
    cases l with
    | nil => simp
    | cons t r =>
      rw [List.drop_succ_cons, List.flatMap_cons, ih r, List.drop_append]
      have : t.cs.length = 5 := rfl
      rw [List.drop_of_length_le (l := t.cs) (by omega), this, show (i + 1) * 5 - 5 = i * 5 by omega, List.nil_append]
theorem two_splice {α : Type} (X A C T : List α) (k m : Nat) (hA : A.length = k) (hT : T.length = m) (hX : X.take (k + C.length) = A ++ C) (hs : k + m + C.length ≤ X.length) :
    (splice (splice X (k + m) C) k T).take (k + m + C.length) = A ++ (T ++ C) := by
  have e0 : X.take k = A := by
    have := congrArg (List.take k) hX
    rw [List.take_take, Nat.min_eq_left (by omega), List.take_append_of_le_length (by omega), List.take_of_length_le (l := A) (by omega)] at this
    exact this
  have hk : k ≤ X.length := by omega
  have e1 : (splice X (k + m) C).take k = A := by
    unfold splice
    rw [List.take_append_of_le_length (by simp; omega), List.take_take, Nat.min_eq_left (by omega), e0]
  have e2 : (splice X (k + m) C).drop (k + m) = C ++ X.drop (k + m + C.length) := by
    unfold splice
    have hl : (X.take (k + m)).length = k + m := by simp; omega
    rw [List.drop_append_of_le_length (by omega), List.drop_of_length_le (by omega), List.nil_append]
  rw [splice, e1, hT, e2]
  rw [← List.append_assoc, ← List.append_assoc, List.take_append_of_le_length (by simp; omega), List.take_of_length_le (by simp; omega), List.append_assoc]
set_option maxRecDepth 100000 in
set_option maxHeartbeats 400000 in
theorem insert_room (l : List Bd) (g cap i : Nat) (t : Bd) (vb : Nat) (w : World) (hv : Bds w (.slice (some ⟨g, 0, none⟩) l.length cap) l) (hl : l.length < 256) (hi : i < l.length) (hvb : w.heap[vb]? = some (.cells t.cs.toArray 51 (0, 0))) (hne : vb ≠ g) (hroom : l.length + 1 ≤ cap) :
    Calls Tryz.prog 82 #[.slice (some ⟨g, 0, none⟩) l.length cap, .int .i64 i, .slice (some ⟨vb, 0, none⟩) 1 1] w (Inserted w (.slice (some ⟨g, 0, none⟩) l.length cap) (l.take i ++ t :: l.drop i)) := by
  obtain ⟨X, hX, hcap, hXl, hXt⟩ : ∃ X : List Value, w.heap[g]? = some (.cells X.toArray 51 (0, 0)) ∧ cap ≤ maxLen ∧ X.length = cap * 5 ∧ X.take (l.length * 5) = l.flatMap Bd.cs := by
    rcases hv.2 with ⟨e, _⟩ | ⟨g', cap', cur, e, hb, hg, hn, hm, hs, ht⟩
    · cases e
    · cases e; exact ⟨cur.toList, by simpa using hg, hm, by simpa using hs, ht⟩
  have hmax' : cap ≤ 9223372036854775807 := hcap
  obtain ⟨n, hn⟩ : ∃ n, n = l.length := ⟨_, rfl⟩
  have hov := fun c n' c' o => ov_any w vb g 1 c n' c' o t X.toArray hne hvb hX (by rw [List.size_toArray]; omega)
  have h1 : ¬ ((i : Int) = (l.length : Nat)) := by omega
  have h2 : ¬ ((cap : Int) < (l.length : Nat) + 1) := by omega
  have h3 : ¬ cap = i + 1 := by omega
  have h4 : ¬ cap = i := by omega
  have h5 : (i : Int) ≤ (l.length : Nat) := by omega
  have hw1 : IntKind.i64.wrap ((i : Int) + 1) = (i : Int) + 1 := by rw [IntKind.wrap_i64]; omega
  have hb1 : (0 : Int) ≤ (i : Int) + 1 := by omega
  have htn : ((i : Int) + 1).toNat = i + 1 := by omega
  have hb3 : (i : Int) ≤ (l.length : Nat) + 1 := by omega
  have hb6 : i ≤ l.length := by omega
  have hlen := cs_len (l.drop i)
  rw [List.length_drop] at hlen
  have hCc : ∀ j u, ((l.drop i).flatMap Bd.cs)[j]? = some u → w.cell? ⟨g, i * 5 + j, none⟩ = some u := fun j u hu => by
    rw [cs_drop, List.getElem?_drop] at hu
    have := hv.cells (g := g) rfl (i * 5 + j) u hu
    simpa [Addr.add_lit] using this
  obtain ⟨C, hC⟩ : ∃ C, C = (l.drop i).flatMap Bd.cs := ⟨_, rfl⟩
  rw [← hC] at hlen hCc
  have hC1 : ∀ u ∈ C, u.oneCell' = true := by rw [hC]; exact one_all
  obtain ⟨W1, hW1⟩ : ∃ W1, W1 = w.drew.setRow g (splice X ((i + 1) * 5) C).toArray := ⟨_, rfl⟩
  have hcp1 : ∀ ty o1 d1 c1 o2 d2 c2, o1 = (i + 1) * 5 → d1 = l.length - i → o2 = i * 5 → d2 = l.length + 1 - i → (Builtin.copy_ #[23, 23] ty #[.slice (some ⟨g, o1, none⟩) d1 c1, .slice (some ⟨g, o2, none⟩) d2 c2]).run Tryz.prog w.drew = .ok (goInt (l.length - i : Nat)) W1 := by
    rintro ty _ _ c1 _ _ c2 rfl rfl rfl rfl
    have := run_copy5 w.drew ty g ((i + 1) * 5) (l.length - i) c1 ⟨g, i * 5, none⟩ (l.length + 1 - i) c2 X 51 C hX (by rw [hlen, nmin_r (by omega)]) (fun j u hu => by rw [Addr.add_lit]; exact hCc j u hu) (by omega) hC1
    rw [this, hW1, nmin_r (by omega)]
  have hg1 : W1.heap[g]? = some (.cells (splice X ((i + 1) * 5) C).toArray 51 (0, 0)) := by rw [hW1]; exact setRow_heap w.drew g _ _ 51 _ hX
  have hv1 : W1.heap[vb]? = some (.cells t.cs.toArray 51 (0, 0)) := by rw [hW1, setRow_other w.drew g vb _ (by omega)]; exact hvb
  have hl1 : (splice X ((i + 1) * 5) C).length = X.length := length_splice _ _ _ (by omega)
  obtain ⟨W2, hW2⟩ : ∃ W2, W2 = W1.setRow g (splice (splice X ((i + 1) * 5) C) (i * 5) t.cs).toArray := ⟨_, rfl⟩
  have ht5 : t.cs.length = 5 := rfl
  have hcp2 : ∀ ty o1 d1 c1 c2, o1 = i * 5 → d1 = l.length + 1 - i → (Builtin.copy_ #[23, 23] ty #[.slice (some ⟨g, o1, none⟩) d1 c1, .slice (some ⟨vb, 0, none⟩) 1 c2]).run Tryz.prog W1 = .ok (goInt (1 : Nat)) W2 := by
    rintro ty _ _ c1 c2 rfl rfl
    have hm1 : Nat.min 1 (l.length + 1 - i) = 1 := nmin_l (by omega)
    have := run_copy5 W1 ty g (i * 5) (l.length + 1 - i) c1 ⟨vb, 0, none⟩ 1 c2 _ 51 t.cs hg1 (by rw [hm1]; rfl) (cells_vb hv1) (by omega) one_cs
    rw [this, hW2, hm1]
  have hg2 : W2.heap[g]? = some (.cells (splice (splice X ((i + 1) * 5) C) (i * 5) t.cs).toArray 51 (0, 0)) := by rw [hW2]; exact setRow_heap W1 g _ _ 51 _ hg1
  have hgr : w.grownBy W2 (some g) := by
    rw [hW2, hW1]
    exact ⟨rfl, rfl, rfl, by simp [World.setRow], fun k hk hn => by
      have : k ≠ g := fun e => hn (by rw [e])
      rw [setRow_other _ g k _ this, setRow_other _ g k _ this]; rfl⟩
  have hfin : Inserted w (.slice (some ⟨g, 0, none⟩) l.length cap) (l.take i ++ t :: l.drop i) (.returned (.slice (some ⟨g, 0, none⟩) (l.length + 1) cap)) W2 := by
    have hll : (l.take i ++ t :: l.drop i).length = l.length + 1 := by simp; omega
    refine ⟨g, cap, by rw [hll], ?_, hgr, .inl rfl⟩
    refine ⟨by rw [cs_len], .inr ⟨g, cap, _, by rw [hll], Nat.zero_le _, hg2, by omega, hcap, by rw [List.size_toArray, length_splice _ _ _ (by omega), hl1, hXl], ?_⟩⟩
    rw [hll, List.toList_toArray]
    have hA : ((l.take i).flatMap Bd.cs).length = i * 5 := by rw [cs_len, List.length_take]; omega
    have := two_splice X ((l.take i).flatMap Bd.cs) C t.cs (i * 5) 5 hA rfl (by rw [hlen, show i * 5 + (l.length - i) * 5 = l.length * 5 by omega, hXt, hC, ← List.flatMap_append, List.take_append_drop]) (by omega)
    rw [show i * 5 + 5 = (i + 1) * 5 by omega, hlen, show (i + 1) * 5 + (l.length - i) * 5 = (l.length + 1) * 5 by omega] at this
    rw [this, hC, List.flatMap_append, List.flatMap_cons]
  have hcp1' := fun ty => hcp1 ty ((i + 1) * 5) (l.length - i) (cap - (i + 1)) (i * 5) (l.length + 1 - i) (cap - i) rfl rfl rfl rfl
  have hcp2' := fun ty => hcp2 ty (i * 5) (l.length + 1 - i) (cap - i) 1 rfl rfl
  have HF := hide hfin
  have H1 := fun ty => hide (hcp1' ty)
  clear hfin hgr hg2 hl1 hg1 hv1 hCc hC1 hlen hXt hXl hX hv hvb hC hW1 hW2 hcp1 hcp2 hcp1' ht5 hn
  go_enter Tryz.func82, Tryz.ntmps82
  go_wp2_with (simp only [hov])
  go_region_law (refine step_copy_eq rfl _ _ 23 23 rfl (by simp [Act.eval, Act.put]) (by simp [Act.eval, Act.put]) (H1 _).out ?_)
  go_wp2_with fail
  go_ret
  exact HF.out
theorem grow_splice {α : Type} (A C T Z : List α) (k m : Nat) (hA : A.length = k) (hT : T.length = m) (hs : m + C.length ≤ Z.length) :
    (splice (splice (A ++ Z) k T) (k + m) C).take (k + m + C.length) = A ++ (T ++ C) := by
  subst hA; subst hT
  have e1 : splice (A ++ Z) A.length T = A ++ (T ++ Z.drop T.length) := by
    unfold splice
    rw [List.take_left, List.drop_append]
    simp
  rw [e1]
  unfold splice
  have e2 : (A ++ (T ++ Z.drop T.length)).take (A.length + T.length) = A ++ T := by
    rw [← List.append_assoc, List.take_append_of_le_length (by simp), List.take_of_length_le (by simp)]
  rw [e2, ← List.append_assoc, List.take_append_of_le_length (by simp; omega), List.take_of_length_le (by simp; omega), List.append_assoc]
set_option maxRecDepth 100000 in
set_option maxHeartbeats 400000 in
theorem insert_grow (l : List Bd) (g cap i : Nat) (t : Bd) (vb : Nat) (w : World) (hv : Bds w (.slice (some ⟨g, 0, none⟩) l.length cap) l) (hl : l.length < 256) (hi : i < l.length) (hvb : w.heap[vb]? = some (.cells t.cs.toArray 51 (0, 0))) (hne : vb ≠ g) (hroom : ¬ l.length + 1 ≤ cap) :
    Calls Tryz.prog 82 #[.slice (some ⟨g, 0, none⟩) l.length cap, .int .i64 i, .slice (some ⟨vb, 0, none⟩) 1 1] w (Inserted w (.slice (some ⟨g, 0, none⟩) l.length cap) (l.take i ++ t :: l.drop i)) := by
  obtain ⟨X, hX, hcap, hcl, hXl, hXt⟩ : ∃ X : List Value, w.heap[g]? = some (.cells X.toArray 51 (0, 0)) ∧ cap ≤ maxLen ∧ l.length ≤ cap ∧ X.length = cap * 5 ∧ X.take (l.length * 5) = l.flatMap Bd.cs := by
    rcases hv.2 with ⟨e, _⟩ | ⟨g', cap', cur, e, hb, hg, hn, hm, hs, ht⟩
    · cases e
    · cases e; exact ⟨cur.toList, by simpa using hg, hm, hn, by simpa using hs, ht⟩
  obtain rfl : cap = l.length := by omega
  have hvlt := (Array.getElem?_eq_some_iff.1 hvb).1
  have hglt := (Array.getElem?_eq_some_iff.1 hX).1
  have hlenD := cs_len (l.drop i)
  rw [List.length_drop] at hlenD
  have hlenA : ((l.take i).flatMap Bd.cs).length = i * 5 := by rw [cs_len, List.length_take]; omega
  have hCc : ∀ j u, ((l.drop i).flatMap Bd.cs)[j]? = some u → w.cell? ⟨g, i * 5 + j, none⟩ = some u := fun j u hu => by
    rw [cs_drop, List.getElem?_drop] at hu
    have := hv.cells (g := g) rfl (i * 5 + j) u hu
    simpa [Addr.add_lit] using this
  have hAc : ∀ j u, ((l.take i).flatMap Bd.cs)[j]? = some u → w.cell? ((⟨g, 0, none⟩ : Addr).add j) = some u := fun j u hu => by
    rw [cs_take, List.getElem?_take] at hu
    split at hu
    · exact hv.cells (g := g) rfl j u hu
    · cases hu
  obtain ⟨C, hC⟩ : ∃ C, C = (l.drop i).flatMap Bd.cs := ⟨_, rfl⟩
  obtain ⟨A, hA⟩ : ∃ A, A = (l.take i).flatMap Bd.cs := ⟨_, rfl⟩
  rw [← hC] at hlenD hCc
  rw [← hA] at hlenA hAc
  have hC1 : ∀ u ∈ C, u.oneCell' = true := by rw [hC]; exact one_all
  obtain ⟨cap', hge, hle, hrun⟩ : ∃ cap' : Nat, l.length + 1 ≤ cap' ∧ cap' ≤ maxLen ∧ ∀ ty, (Builtin.append_ #[23, 3] ty #[.slice (some ⟨g, 0, none⟩) i l.length, .int .i64 ((l.length : Int) + 1 - i)]).run Tryz.prog w =
      .ok (.slice (some ⟨w.heap.size, 0, none⟩) (l.length + 1) cap') (w.drew.alloc (.cells (A.toArray ++ (Builtin.zeroCells z55.cells (l.length + 1 - i) ++ Builtin.zeroCells z55.cells (cap' - (l.length + 1)))) 51)) := by
    obtain ⟨c, h1, h2, h3⟩ := run_append_zeros w 0 g i l.length (l.length + 1 - i) A hlenA hAc (by omega) (by omega) (by omega)
    rw [show i + (l.length + 1 - i) = l.length + 1 by omega] at h1 h3
    refine ⟨c, h1, h2, fun ty => ?_⟩
    have e : ((l.length : Int) + 1 - i) = ((l.length + 1 - i : Nat) : Int) := by omega
    rw [e]
    exact h3
  obtain ⟨Z, hZ⟩ : ∃ Z, Z = (Builtin.zeroCells z55.cells (l.length + 1 - i) ++ Builtin.zeroCells z55.cells (cap' - (l.length + 1))).toList := ⟨_, rfl⟩
  have hZl : Z.length = (cap' - i) * 5 := by
    rw [hZ, Array.toList_append, List.length_append, zero_len, zero_len]; omega
  obtain ⟨W0, hW0⟩ : ∃ W0, W0 = w.drew.alloc (.cells (A.toArray ++ (Builtin.zeroCells z55.cells (l.length + 1 - i) ++ Builtin.zeroCells z55.cells (cap' - (l.length + 1)))) 51) := ⟨_, rfl⟩
  rw [← hW0] at hrun
  have hZ0 : (A.toArray ++ (Builtin.zeroCells z55.cells (l.length + 1 - i) ++ Builtin.zeroCells z55.cells (cap' - (l.length + 1)))) = (A ++ Z).toArray := by
    apply Array.ext'; rw [hZ]; simp
  rw [hZ0] at hW0
  have hg0 : W0.heap[w.heap.size]? = some (.cells (A ++ Z).toArray 51 (0, 0)) := by rw [hW0]; exact heap_alloc_new w.drew _
  have hold : ∀ k, k < w.heap.size → W0.heap[k]? = w.heap[k]? := fun k hk => by rw [hW0]; exact Below.heap_alloc w.drew _ k hk
  have hv0 : W0.heap[vb]? = some (.cells t.cs.toArray 51 (0, 0)) := (hold vb hvlt).trans hvb
  obtain ⟨W1, hW1⟩ : ∃ W1, W1 = W0.setRow w.heap.size (splice (A ++ Z) (i * 5) t.cs).toArray := ⟨_, rfl⟩
  have ht5 : t.cs.length = 5 := rfl
  have hlAZ : (A ++ Z).length = cap' * 5 := by rw [List.length_append]; omega
  have hcp1 : ∀ ty c1, (Builtin.copy_ #[23, 23] ty #[.slice (some ⟨w.heap.size, i * 5, none⟩) (l.length + 1 - i) c1, .slice (some ⟨vb, 0, none⟩) 1 1]).run Tryz.prog W0 = .ok (goInt (1 : Nat)) W1 := by
    intro ty c1
    have hm1 : Nat.min 1 (l.length + 1 - i) = 1 := nmin_l (by omega)
    have := run_copy5 W0 ty w.heap.size (i * 5) (l.length + 1 - i) c1 ⟨vb, 0, none⟩ 1 1 _ 51 t.cs hg0 (by rw [hm1]; rfl) (cells_vb hv0) (by omega) one_cs
    rw [this, hW1, hm1]
  have hg1 : W1.heap[w.heap.size]? = some (.cells (splice (A ++ Z) (i * 5) t.cs).toArray 51 (0, 0)) := by rw [hW1]; exact setRow_heap W0 _ _ _ 51 _ hg0
  have hl1 : (splice (A ++ Z) (i * 5) t.cs).length = cap' * 5 := by rw [length_splice _ _ _ (by omega), hlAZ]
  have hold1 : ∀ k, k < w.heap.size → W1.heap[k]? = w.heap[k]? := fun k hk => by rw [hW1, setRow_other W0 _ k _ (by omega)]; exact hold k hk
  obtain ⟨W2, hW2⟩ : ∃ W2, W2 = W1.drew.setRow w.heap.size (splice (splice (A ++ Z) (i * 5) t.cs) ((i + 1) * 5) C).toArray := ⟨_, rfl⟩
  have hcp2 : ∀ ty c1 c2, (Builtin.copy_ #[23, 23] ty #[.slice (some ⟨w.heap.size, (i + 1) * 5, none⟩) (l.length - i) c1, .slice (some ⟨g, i * 5, none⟩) (l.length - i) c2]).run Tryz.prog W1.drew = .ok (goInt (l.length - i : Nat)) W2 := by
    intro ty c1 c2
    have := run_copy5 W1.drew ty w.heap.size ((i + 1) * 5) (l.length - i) c1 ⟨g, i * 5, none⟩ (l.length - i) c2 _ 51 C hg1 (by rw [hlenD, nmin_l (Nat.le_refl _)])
      (fun j u hu => by
        rw [Addr.add_lit]
        exact (World.cell?_of_block (w := w) (w' := W1.drew) (a := ⟨g, i * 5 + j, none⟩) (hold1 g hglt)).trans (hCc j u hu)) (by omega) hC1
    rw [this, hW2, nmin_l (Nat.le_refl _)]
  have hg2 : W2.heap[w.heap.size]? = some (.cells (splice (splice (A ++ Z) (i * 5) t.cs) ((i + 1) * 5) C).toArray 51 (0, 0)) := by rw [hW2]; exact setRow_heap W1.drew _ _ _ 51 _ hg1
  have hgr : w.grownBy W2 (some g) := by
    refine ⟨by rw [hW2, hW1, hW0]; rfl, by rw [hW2, hW1, hW0]; rfl, by rw [hW2, hW1, hW0]; rfl, ?_, fun k hk hn => ?_⟩
    · have := (Array.getElem?_eq_some_iff.1 hg2).1; omega
    · rw [hW2, setRow_other W1.drew _ k _ (by omega)]; exact hold1 k hk
  have hfin : Inserted w (.slice (some ⟨g, 0, none⟩) l.length l.length) (l.take i ++ t :: l.drop i) (.returned (.slice (some ⟨w.heap.size, 0, none⟩) (l.length + 1) cap')) W2 := by
    have hll : (l.take i ++ t :: l.drop i).length = l.length + 1 := by simp; omega
    refine ⟨w.heap.size, cap', by rw [hll], ?_, hgr, .inr (Nat.le_refl _)⟩
    refine ⟨by rw [cs_len], .inr ⟨w.heap.size, cap', _, by rw [hll], Nat.zero_le _, hg2, by omega, hle, by rw [List.size_toArray, length_splice _ _ _ (by omega), hl1], ?_⟩⟩
    rw [hll, List.toList_toArray]
    have := grow_splice A C t.cs Z (i * 5) 5 hlenA rfl (by omega)
    rw [show i * 5 + 5 = (i + 1) * 5 by omega, hlenD, show (i + 1) * 5 + (l.length - i) * 5 = (l.length + 1) * 5 by omega] at this
    rw [this, hC, hA, List.flatMap_append, List.flatMap_cons]
  have hw1 : IntKind.i64.wrap ((i : Int) + 1) = (i : Int) + 1 := by rw [IntKind.wrap_i64]; omega
  have hb1 : (0 : Int) ≤ (i : Int) + 1 := by omega
  have htn : ((i : Int) + 1).toNat = i + 1 := by omega
  have hb3 : (i : Int) ≤ (l.length : Nat) + 1 := by omega
  have hb6 : i ≤ l.length := by omega
  have h1 : ¬ ((i : Int) = (l.length : Nat)) := by omega
  have h3 : ¬ cap' = i + 1 := by omega
  have h4 : ¬ cap' = i := by omega
  have h5 : (i : Int) ≤ (l.length : Nat) := by omega
  have h6 : ¬ l.length = i := by omega
  have hcp1' := fun ty => hcp1 ty (cap' - i)
  have HR := fun ty => hide (hrun ty)
  have H2 := fun ty => hide (hcp2 ty (cap' - (i + 1)) (l.length - i))
  have hc' : cap' ≤ 9223372036854775807 := hle
  have HF := hide hfin
  clear hfin hgr hg2 hl1 hg1 hCc hC1 hlenD hlenA hXt hXl hX hv hvb hC hW1 hW2 hW0 hcp1 hcp2 ht5 hold hold1 hv0 hg0 hZ0 hZl hZ hA hAc hlAZ hrun
  go_enter Tryz.func82, Tryz.ntmps82
  go_wp2_with (at_builtin; refine wpList_append_eq rfl _ _ 23 3 rfl rfl rfl (HR _).out ?_)
  go_region_law (refine step_copy_eq rfl _ _ 23 23 rfl (by simp [Act.eval, Act.put]) (by simp [Act.eval, Act.put]) (H2 _).out ?_)
  go_wp2_with fail
  go_ret
  exact HF.out
theorem insert_any (l : List Bd) (v : Value) (i : Nat) (t : Bd) (vb : Nat) (w : World) (hv : Bds w v l) (hl : l.length < 256) (hi : i ≤ l.length) (hvb : w.heap[vb]? = some (.cells t.cs.toArray 51 (0, 0))) (hne : v.ownBlock ≠ some vb) :
    Calls Tryz.prog 82 #[v, .int .i64 i, .slice (some ⟨vb, 0, none⟩) 1 1] w (Inserted w v (l.take i ++ t :: l.drop i)) := by
  rcases Nat.lt_or_ge i l.length with h | h
  · rcases hv.2 with ⟨e, h0⟩ | ⟨g, cap, cur, rfl, _⟩
    · omega
    · have hvg : vb ≠ g := fun e => hne (by rw [e]; rfl)
      by_cases hr : l.length + 1 ≤ cap
      · exact insert_room l g cap i t vb w hv hl h hvb hvg hr
      · exact insert_grow l g cap i t vb w hv hl h hvb hvg hr
  · obtain rfl : i = l.length := by omega
    have := insert_end l v t vb w hv hl hvb
    simpa using this
end Go.Proofs.YthiafmlgialbnaaGreatDoor
