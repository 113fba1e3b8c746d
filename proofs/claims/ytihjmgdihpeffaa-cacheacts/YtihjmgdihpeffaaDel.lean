/-
  slices.Delete of one key; the program's makeRoom.
-/
import Derived.Test.YtihjmgdihpeffaaGet
import Derived.Laws.CopyOwn
namespace Go.Proofs.Ytihjmgdihpeffaa
open Go.RowKit
set_option linter.unusedVariables false
theorem kcs_take (l : List K6) (i : Nat) : (l.take i).flatMap kCs = (l.flatMap kCs).take (i * 6) := by
  induction i generalizing l with
  | zero => simp
  | succ i ih =>
    cases l with
    | nil => simp
    | cons t r =>
      rw [List.take_succ_cons, List.flatMap_cons, List.flatMap_cons, ih r, List.take_append]
      have := kCs_len t
      rw [List.take_of_length_le (l := kCs t) (by omega), this, show (i + 1) * 6 - 6 = i * 6 by omega]
theorem kcs_drop (l : List K6) (i : Nat) : (l.drop i).flatMap kCs = (l.flatMap kCs).drop (i * 6) := by
  induction i generalizing l with
  | zero => simp
  | succ i ih =>
    cases l with
    | nil => simp
    | cons t r =>
      rw [List.drop_succ_cons, List.flatMap_cons, ih r, List.drop_append]
      have := kCs_len t
      rw [List.drop_of_length_le (l := kCs t) (by omega), this, show (i + 1) * 6 - 6 = i * 6 by omega, List.nil_append]
def z5 : List Value := [.int .i64 0, .int .i64 0, .int .i64 0, .int .i64 0, .int .i64 0, .int .i64 0]
theorem zero5 (w : World) : (zeroValue 36).run Try.prog w = .ok z6 w := by kernel_rfl
theorem zc5 : (Builtin.zeroCells z6.cells 1).toList = z5 := by kernel_rfl
theorem one_z5 : ∀ u ∈ z5, u.oneCell' = true := by
  intro u hu
  simp only [z5, List.mem_cons, List.not_mem_nil, or_false] at hu
  rcases hu with rfl | rfl | rfl | rfl | rfl | rfl <;> rfl
theorem run_clear5 (w : World) (ty : TypeId) (g o c : Nat) (cur : List Value) (hg : w.heap[g]? = some (.cells cur.toArray 36 (0, 0))) (hfit : o + 6 ≤ cur.length) :
    (Builtin.clear_ #[51] ty #[.slice (some ⟨g, o, none⟩) 1 c]).run Try.prog w = .ok (.tuple #[]) (w.setRow g (splice cur o z5).toArray) := by
  have hst := run_storeCells_at Try.prog g o 36 z5 0 cur.toArray w hg (by simpa [z5] using hfit) one_z5
  simp only [Nat.add_zero] at hst
  simp [Builtin.clear_, run_underlying Try.underlying51, zc5, hst, splice]
theorem wpList_clear_eq {P : Program} {w : World} {ops : Array Oper} {rest : List Oper} {o : Oper} {a : Act} {Q : Exit → Act → World → Prop} (hgd : o.guard = none) (d : Operand) (t : TypeId)
    (ho : o.op = .call { callee := .builtin .clear, args := #[d], argTypes := #[t] }) {v v' : Value} {w' : World} (hd : a.eval d = v)
    (hr : (Builtin.clear_ #[t] o.type #[v]).run P w = .ok v' w') (h : wpList P ops Q rest (a.put o.dst v') w') : wpList P ops Q (o :: rest) a w := by
  refine wpList_plain hgd fun _ hK => ?_
  unfold Oper.wp execOp
  simp only [ho, resolve, invoke, builtin, Sem.run_bind, Sem.run_pure, Result.andThen_ok, List.map_toArray, List.map_cons, List.map_nil, hd, hr]
  exact hK _ _ h
theorem step_append_eq {P : Program} {ops : Array Oper} {o : Oper} {a : Act} {w : World} {K : Act → World → Prop} {Q : Exit → Act → World → Prop} {E : Prop} (hgd : o.guard = none) (d s : Operand) (t t' : TypeId)
    (ho : o.op = .call { callee := .builtin .append, args := #[d, s], argTypes := #[t, t'] }) {v u v' : Value} {w' : World} (hd : a.eval d = v) (hs : a.eval s = u)
    (hr : (Builtin.append_ #[t, t'] o.type #[v, u]).run P w = .ok v' w') (hK : K (a.put o.dst v') w') :
    if Region.wanted o (yielded ops a.tmps) = true then Oper.wp P o a w K Q else E := by
  have hw : Region.wanted o (yielded ops a.tmps) = true := by simp [Region.wanted, hgd]
  rw [if_pos hw]
  unfold Oper.wp execOp
  simp only [ho, resolve, invoke, builtin, Sem.run_bind, Sem.run_pure, Result.andThen_ok, List.map_toArray, List.map_cons, List.map_nil, hd, hs, hr]
  exact hK
theorem run_append5 (w : World) (ty : TypeId) (g i c : Nat) (a : Addr) (m c2 : Nat) (X C : List Value) (hg : w.heap[g]? = some (.cells X.toArray 36 (0, 0))) (hC : C.length = m * 6)
    (hsrc : ∀ j u, C[j]? = some u → w.cell? (a.add j) = some u) (h1 : ∀ u ∈ C, u.oneCell' = true) (hroom : i + m ≤ c) (hfit : i * 6 + C.length ≤ X.length) :
    (Builtin.append_ #[51, 51] ty #[.slice (some ⟨g, 0, none⟩) i c, .slice (some a) m c2]).run Try.prog w = .ok (.slice (some ⟨g, 0, none⟩) (i + m) c) (w.setRow g (splice X (i * 6) C).toArray) := by
  obtain ⟨f, hf, hz, h5, h48⟩ := info_parts info36
  have := run_append_room (P := Try.prog) w 51 ty 36 f Try.underlying51 hf g i c X.toArray hg a m c2 C (by rw [h5]; exact hC) hsrc h1 hroom (by rw [h5]; simpa using hfit)
  rw [this, h5]
  simp [splice]
/-- What slices.Delete tells. -/
def Deleted (w : World) (g cap : Nat) (l' : List K6) (e : Ending) (w' : World) : Prop :=
  e = .returned (.slice (some ⟨g, 0, none⟩) l'.length cap) ∧ KR w' (.slice (some ⟨g, 0, none⟩) l'.length cap) l' ∧ w.grownBy w' (some g)
theorem splice_take {α : Type} (L Z : List α) (o : Nat) (h : o ≤ L.length) : (splice L o Z).take o = L.take o := by
  unfold splice
  rw [List.take_append_of_le_length (by simp; omega), List.take_take, Nat.min_self]
theorem splice_take2 {α : Type} (L C : List α) (o : Nat) (h : o + C.length ≤ L.length) : (splice L o C).take (o + C.length) = L.take o ++ C := by
  unfold splice
  rw [← List.append_assoc, List.take_append_of_le_length (by simp; omega), List.take_of_length_le (by simp; omega)]
set_option maxRecDepth 100000 in
set_option maxHeartbeats 1000000 in
theorem delete_inner (l : List K6) (g cap i : Nat) (w : World) (hv : KR w (.slice (some ⟨g, 0, none⟩) l.length cap) l) (hl : l.length ≤ 256) (hi : i + 1 < l.length) :
    Calls Try.prog 24 #[.slice (some ⟨g, 0, none⟩) l.length cap, .int .i64 i, .int .i64 ((i : Int) + 1)] w (Deleted w g cap (l.take i ++ l.drop (i + 1))) := by
  obtain ⟨X, hX, hcap, hcl, hXl, hXt⟩ : ∃ X : List Value, w.heap[g]? = some (.cells X.toArray 36 (0, 0)) ∧ cap ≤ maxLen ∧ l.length ≤ cap ∧ X.length = cap * 6 ∧ X.take (l.length * 6) = l.flatMap kCs := by
    rcases hv.2 with ⟨e, _⟩ | ⟨g', cap', cur, e, hb, hg, hn, hm, hs, ht⟩
    · cases e
    · cases e; exact ⟨cur.toList, by simpa using hg, hm, hn, by simpa using hs, ht⟩
  have hmax' : cap ≤ 9223372036854775807 := hcap
  have hi' : i < l.length := by omega
  have hlenD := Rw.len kCs_len (l.drop (i + 1))
  rw [List.length_drop] at hlenD
  have hCc : ∀ j u, ((l.drop (i + 1)).flatMap kCs)[j]? = some u → w.cell? ⟨g, (i + 1) * 6 + j, none⟩ = some u := fun j u hu => by
    rw [kcs_drop, List.getElem?_drop] at hu
    have := World.ownsRow.cells hv (g := g) rfl ((i + 1) * 6 + j) u hu
    simpa [Addr.add_lit] using this
  obtain ⟨C, hC⟩ : ∃ C, C = (l.drop (i + 1)).flatMap kCs := ⟨_, rfl⟩
  rw [← hC] at hlenD hCc
  have hC1 : ∀ u ∈ C, u.oneCell' = true := by rw [hC]; exact kCs_one
  obtain ⟨W1, hW1⟩ : ∃ W1, W1 = w.drew.setRow g (splice X (i * 6) C).toArray := ⟨_, rfl⟩
  have hg1 : W1.heap[g]? = some (.cells (splice X (i * 6) C).toArray 36 (0, 0)) := by rw [hW1]; exact setRow_heap w.drew g _ _ 36 _ hX
  have hl1 : (splice X (i * 6) C).length = cap * 6 := by rw [length_splice _ _ _ (by omega), hXl]
  obtain ⟨n, hn⟩ : ∃ n, n + 1 = l.length := ⟨l.length - 1, by omega⟩
  obtain ⟨W2, hW2⟩ : ∃ W2, W2 = W1.setRow g (splice (splice X (i * 6) C) (n * 6) z5).toArray := ⟨_, rfl⟩
  have hg2 : W2.heap[g]? = some (.cells (splice (splice X (i * 6) C) (n * 6) z5).toArray 36 (0, 0)) := by rw [hW2]; exact setRow_heap W1 g _ _ 36 _ hg1
  have hz5 : z5.length = 6 := rfl
  have hcl1 : ∀ ty, (Builtin.clear_ #[51] ty #[.slice (some ⟨g, n * 6, none⟩) 1 (cap - n)]).run Try.prog W1 = .ok (.tuple #[]) W2 := fun ty => by
    rw [hW2]; exact run_clear5 W1 ty g (n * 6) (cap - n) _ hg1 (by omega)
  have hgr : w.grownBy W2 (some g) := by
    rw [hW2, hW1]
    exact ⟨rfl, rfl, rfl, by simp [World.setRow], fun k hk hne => by
      have : k ≠ g := fun e => hne (by rw [e])
      rw [setRow_other _ g k _ this, setRow_other _ g k _ this]; rfl⟩
  have hfin : Deleted w g cap (l.take i ++ l.drop (i + 1)) (.returned (.slice (some ⟨g, 0, none⟩) n cap)) W2 := by
    have hll : (l.take i ++ l.drop (i + 1)).length = n := by simp; omega
    refine ⟨by rw [hll], ⟨by rw [Rw.len kCs_len], .inr ⟨g, cap, _, by rw [hll], Nat.zero_le _, hg2, by omega, hcap, by rw [List.size_toArray, length_splice _ _ _ (by omega), hl1], ?_⟩⟩, hgr⟩
    rw [hll, List.toList_toArray, splice_take _ _ _ (by omega)]
    have := splice_take2 X C (i * 6) (by omega)
    rw [hlenD, show i * 6 + (l.length - (i + 1)) * 6 = n * 6 by omega] at this
    rw [this, hC, List.flatMap_append, kcs_take]
    congr 1
    have h2 := congrArg (List.take (i * 6)) hXt
    rw [List.take_take, Nat.min_eq_left (by omega)] at h2
    exact h2
  have HF := hide hfin
  have hap : ∀ ty, (Builtin.append_ #[51, 51] ty #[.slice (some ⟨g, 0, none⟩) i cap, .slice (some ⟨g, (i + 1) * 6, none⟩) (l.length - (i + 1)) (cap - (i + 1))]).run Try.prog w.drew = .ok (.slice (some ⟨g, 0, none⟩) n cap) W1 := fun ty => by
    have := run_append5 w.drew ty g i cap ⟨g, (i + 1) * 6, none⟩ (l.length - (i + 1)) (cap - (i + 1)) X C hX hlenD (fun j u hu => by rw [Addr.add_lit]; exact hCc j u hu) hC1 (by omega) (by omega)
    rw [this, hW1, show i + (l.length - (i + 1)) = n by omega]
  have HA := fun ty => hide (hap ty)
  have h1 : ¬ ((i : Int) = (i : Int) + 1) := by omega
  have hw1 : IntKind.i64.wrap ((i : Int) + 1) = (i : Int) + 1 := by rw [IntKind.wrap_i64]; omega
  have hb1 : (0 : Int) ≤ (i : Int) + 1 := by omega
  have htn : ((i : Int) + 1).toNat = i + 1 := by omega
  have hb3 : (i : Int) + 1 ≤ (l.length : Nat) := by omega
  have hb4 : (i : Int) ≤ (l.length : Nat) := by omega
  have hb5 : i ≤ l.length := by omega
  have hb6 : i + 1 ≤ l.length := by omega
  have hb7 : ¬ cap = i + 1 := by omega
  have hb8 : ¬ l.length = i := by omega
  have hb9 : ¬ cap = n := by omega
  have hb10 : ((l.length : Nat) : Int) ≤ (cap : Nat) := by omega
  have hb11 : (n : Int) ≤ (l.length : Nat) := by omega
  have hb12 : l.length - n = 1 := by omega
  have hb13 : i ≤ cap := by omega
  have hb14 : (i : Int) ≤ (cap : Nat) := by omega
  have hb15 : n ≤ l.length := by omega
  clear hfin hgr hg2 hl1 hg1 hCc hC1 hlenD hXt hXl hX hv hC hW1 hW2 hap hz5
  go_enter Try.func24, Try.ntmps24
  go_wp2_with fail
  go_region_law (refine step_append_eq rfl _ _ 51 51 rfl (by simp [Act.eval, Act.put]) (by simp [Act.eval, Act.put]) (HA _).out ?_)
  go_wp2_with fail
  go_ret
  exact HF.out
set_option maxRecDepth 100000 in
set_option maxHeartbeats 1000000 in
theorem delete_last (l : List K6) (g cap i : Nat) (w : World) (hv : KR w (.slice (some ⟨g, 0, none⟩) l.length cap) l) (hl : l.length ≤ 256) (hi : i + 1 = l.length) :
    Calls Try.prog 24 #[.slice (some ⟨g, 0, none⟩) l.length cap, .int .i64 i, .int .i64 ((i : Int) + 1)] w (Deleted w g cap (l.take i ++ l.drop (i + 1))) := by
  obtain ⟨X, hX, hcap, hcl, hXl, hXt⟩ : ∃ X : List Value, w.heap[g]? = some (.cells X.toArray 36 (0, 0)) ∧ cap ≤ maxLen ∧ l.length ≤ cap ∧ X.length = cap * 6 ∧ X.take (l.length * 6) = l.flatMap kCs := by
    rcases hv.2 with ⟨e, _⟩ | ⟨g', cap', cur, e, hb, hg, hn, hm, hs, ht⟩
    · cases e
    · cases e; exact ⟨cur.toList, by simpa using hg, hm, hn, by simpa using hs, ht⟩
  have hmax' : cap ≤ 9223372036854775807 := hcap
  have hi' : i < l.length := by omega
  have hlenD := Rw.len kCs_len (l.drop (i + 1))
  rw [List.length_drop] at hlenD
  have hCc : ∀ j u, ((l.drop (i + 1)).flatMap kCs)[j]? = some u → w.cell? ⟨g, (i + 1) * 6 + j, none⟩ = some u := fun j u hu => by
    rw [kcs_drop, List.getElem?_drop] at hu
    have := World.ownsRow.cells hv (g := g) rfl ((i + 1) * 6 + j) u hu
    simpa [Addr.add_lit] using this
  obtain ⟨C, hC⟩ : ∃ C, C = (l.drop (i + 1)).flatMap kCs := ⟨_, rfl⟩
  rw [← hC] at hlenD hCc
  have hC1 : ∀ u ∈ C, u.oneCell' = true := by rw [hC]; exact kCs_one
  obtain ⟨W1, hW1⟩ : ∃ W1, W1 = w.drew.setRow g (splice X (i * 6) C).toArray := ⟨_, rfl⟩
  have hg1 : W1.heap[g]? = some (.cells (splice X (i * 6) C).toArray 36 (0, 0)) := by rw [hW1]; exact setRow_heap w.drew g _ _ 36 _ hX
  have hl1 : (splice X (i * 6) C).length = cap * 6 := by rw [length_splice _ _ _ (by omega), hXl]
  obtain ⟨n, hn⟩ : ∃ n, n + 1 = l.length := ⟨l.length - 1, by omega⟩
  obtain ⟨W2, hW2⟩ : ∃ W2, W2 = W1.setRow g (splice (splice X (i * 6) C) (n * 6) z5).toArray := ⟨_, rfl⟩
  have hg2 : W2.heap[g]? = some (.cells (splice (splice X (i * 6) C) (n * 6) z5).toArray 36 (0, 0)) := by rw [hW2]; exact setRow_heap W1 g _ _ 36 _ hg1
  have hz5 : z5.length = 6 := rfl
  have hcl1 : ∀ ty, (Builtin.clear_ #[51] ty #[.slice (some ⟨g, n * 6, none⟩) 1 (cap - n)]).run Try.prog W1 = .ok (.tuple #[]) W2 := fun ty => by
    rw [hW2]; exact run_clear5 W1 ty g (n * 6) (cap - n) _ hg1 (by omega)
  have hgr : w.grownBy W2 (some g) := by
    rw [hW2, hW1]
    exact ⟨rfl, rfl, rfl, by simp [World.setRow], fun k hk hne => by
      have : k ≠ g := fun e => hne (by rw [e])
      rw [setRow_other _ g k _ this, setRow_other _ g k _ this]; rfl⟩
  have hfin : Deleted w g cap (l.take i ++ l.drop (i + 1)) (.returned (.slice (some ⟨g, 0, none⟩) n cap)) W2 := by
    have hll : (l.take i ++ l.drop (i + 1)).length = n := by simp; omega
    refine ⟨by rw [hll], ⟨by rw [Rw.len kCs_len], .inr ⟨g, cap, _, by rw [hll], Nat.zero_le _, hg2, by omega, hcap, by rw [List.size_toArray, length_splice _ _ _ (by omega), hl1], ?_⟩⟩, hgr⟩
    rw [hll, List.toList_toArray, splice_take _ _ _ (by omega)]
    have := splice_take2 X C (i * 6) (by omega)
    rw [hlenD, show i * 6 + (l.length - (i + 1)) * 6 = n * 6 by omega] at this
    rw [this, hC, List.flatMap_append, kcs_take]
    congr 1
    have h2 := congrArg (List.take (i * 6)) hXt
    rw [List.take_take, Nat.min_eq_left (by omega)] at h2
    exact h2
  have HF := hide hfin
  have hC0 : C = [] := List.eq_nil_of_length_eq_zero (by rw [hlenD]; omega)
  have hap : ∀ ty a c, (Builtin.append_ #[51, 51] ty #[.slice (some ⟨g, 0, none⟩) i cap, .slice (some a) 0 c]).run Try.prog w.drew = .ok (.slice (some ⟨g, 0, none⟩) n cap) W1 := fun ty a c => by
    have := run_append5 w.drew ty g i cap a 0 c X C hX (by rw [hC0]; rfl) (fun j u hu => by rw [hC0] at hu; simp at hu) hC1 (by omega) (by omega)
    rw [this, hW1, show i + 0 = n by omega]
  have hnl : n = i := by omega
  subst hnl
  have h1 : ¬ ((n : Int) = (n : Int) + 1) := by omega
  have hw1 : IntKind.i64.wrap ((n : Int) + 1) = (n : Int) + 1 := by rw [IntKind.wrap_i64]; omega
  have hb1 : (0 : Int) ≤ (n : Int) + 1 := by omega
  have htn : ((n : Int) + 1).toNat = n + 1 := by omega
  have hb3 : ((l.length : Nat) : Int) = (n : Int) + 1 := by omega
  have hb4 : n ≤ cap := by omega
  have hb5 : (n : Int) ≤ (cap : Nat) := by omega
  have hb6 : ¬ cap = n := by omega
  have hb7 : (n : Int) + 1 ≤ (cap : Nat) := by omega
  clear hfin hgr hg2 hl1 hg1 hCc hC1 hlenD hXt hXl hX hv hC hW1 hW2 hz5 hC0
  generalize l.length = len at *
  subst hi
  by_cases hce : cap = n + 1
  · subst hce
    have hb8 : (n : Int) ≤ (n : Int) + 1 := by omega
    have hcl2 : ∀ ty, (Builtin.clear_ #[51] ty #[.slice (some ⟨g, n * 6, none⟩) 1 1]).run Try.prog W1 = .ok (.tuple #[]) W2 := fun ty => by
      have := hcl1 ty
      rwa [show n + 1 - n = 1 by omega] at this
    clear hcl1
    have HA := fun ty => hide (hap ty ⟨g, 0, none⟩ 0)
    clear hap
    go_enter Try.func24, Try.ntmps24
    go_wp2_with fail
    go_region_law (refine step_append_eq rfl _ _ 51 51 rfl (by simp [Act.eval, Act.put]) (by simp [Act.eval, Act.put]) (HA _).out ?_)
    go_wp2_with fail
    go_ret
    exact HF.out
  · have HA := fun ty => hide (hap ty ⟨g, (n + 1) * 6, none⟩ (cap - (n + 1)))
    clear hap
    go_enter Try.func24, Try.ntmps24
    go_wp2_with fail
    go_region_law (refine step_append_eq rfl _ _ 51 51 rfl (by simp [Act.eval, Act.put]) (by simp [Act.eval, Act.put]) (HA _).out ?_)
    go_wp2_with fail
    go_ret
    exact HF.out
theorem delete_any (l : List K6) (g cap i : Nat) (w : World) (hv : KR w (.slice (some ⟨g, 0, none⟩) l.length cap) l) (hl : l.length ≤ 256) (hi : i < l.length) :
    Calls Try.prog 24 #[.slice (some ⟨g, 0, none⟩) l.length cap, .int .i64 i, .int .i64 ((i : Int) + 1)] w (Deleted w g cap (l.take i ++ l.drop (i + 1))) := by
  rcases Nat.lt_or_ge (i + 1) l.length with h | h
  · exact delete_inner l g cap i w hv hl h
  · exact delete_last l g cap i w hv hl (by omega)
end Go.Proofs.Ytihjmgdihpeffaa
