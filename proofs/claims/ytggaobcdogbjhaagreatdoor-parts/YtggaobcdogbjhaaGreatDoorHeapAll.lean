/-
  A region that draws its order and whose last operation turns what its loads read: the loads may be taken first all the same. A heap of reached cells in memory; its order, asked. The heap's order, asked. The heap's items in memory; which of two is popped before the other; two change places. Which of two of the heap's items is popped before the other. A tree of items in a list: what lift and sink keep, and what they come to (no run of the program). lift and sink. Push. Pop.
-/
import Derived.OrdersHeld
import Derived.Deep.RegionHeld
import Derived.Test.YtggaobcdogbjhaaGreatDoorStand
import Derived.Test.YtggaobcdogbjhaaGreatDoorSpan
import Derived.Defers
import Derived.Recover
import Derived.Laws.Pointers
import Derived.Test.YtggaobcdogbjhaaGreatDoorPlace
import Derived.Maps.AppendAt
namespace Go.Proofs.YtggaobcdogbjhaaGreatDoor
set_option linter.unusedVariables false
set_option linter.unusedSimpArgs false
section
variable {P : Program} {ops : Array Oper} {Q : Exit → Act → World → Prop} {md : Region.Mode} {S : World → Prop} {zs : List Nat}
/-- Does operation j wait for i itself? -/
def linkB (md : Region.Mode) (ops : Array Oper) (i j : Nat) : Bool := match ops[j]? with
  | none => false
  | some o => o.after.any (fun e => Region.binds md e && e.on == i)
/-- Does z wait for i, over at most n others? -/
def waitB (md : Region.Mode) (ops : Array Oper) (z : Nat) : Nat → Nat → Bool
  | 0, _ => false
  | n + 1, i => linkB md ops i z || (List.range ops.size).any (fun j => linkB md ops i j && waitB md ops z n j)
/-- Whatever has come up had what it waits for. -/
def shutB (md : Region.Mode) (ops : Array Oper) (L : Array Bool) : Bool :=
  (List.range ops.size).all (fun k => !(L.getD k false) || match ops[k]? with
    | none => true
    | some o => o.after.all (fun e => !(Region.binds md e) || L.getD e.on false))
def ShutL (md : Region.Mode) (ops : Array Oper) (L : Array Bool) : Prop :=
  ∀ k o, ops[k]? = some o → L.getD k false = true → ∀ e ∈ o.after, Region.binds md e = true → L.getD e.on false = true
theorem shut_of {L : Array Bool} (h : shutB md ops L = true) : ShutL md ops L := by
  intro k o ho hk e he hb
  have h1 := List.all_eq_true.1 h k (List.mem_range.2 (Array.getElem?_eq_some_iff.1 ho).1)
  simp only [hk, ho, Bool.not_true, Bool.false_or] at h1
  have h2 := Array.all_eq_true_iff_forall_mem.1 h1 e he
  simpa [hb] using h2
theorem link_of {i j : Nat} (h : linkB md ops i j = true) : ∃ o, ops[j]? = some o ∧ ∃ e ∈ o.after, Region.binds md e = true ∧ e.on = i := by
  unfold linkB at h
  split at h
  · cases h
  · rename_i o ho
    obtain ⟨e, he, hb⟩ := Array.any_eq_true'.1 h
    simp only [Bool.and_eq_true, beq_iff_eq] at hb
    exact ⟨o, ho, e, he, hb.1, hb.2⟩
theorem ShutL.next {L : Array Bool} (h : ShutL md ops L) {j : Nat} (hj : j ∈ Region.ready md ops L) : ShutL md ops (L.setIfInBounds j true) := by
  intro k o ho hk e he hb
  refine getD_set_true ?_
  by_cases hjk : j = k
  · subst hjk
    obtain ⟨-, o', ho', hall⟩ := mem_ready.1 hj
    rw [ho] at ho'
    cases ho'
    exact hall e he hb
  · rw [getD_set_ne false hjk] at hk
    exact h k o ho hk e he hb
theorem ShutL.waits {z : Nat} {L : Array Bool} (h : ShutL md ops L) (hz : z ∈ Region.ready md ops L) : ∀ (n i : Nat), waitB md ops z n i = true → L.getD i false = true
  | 0, _, hw => by cases hw
  | n + 1, i, hw => by
    unfold waitB at hw
    rcases Bool.or_eq_true_iff.1 hw with hw | hw
    · obtain ⟨o, ho, e, he, hb, rfl⟩ := link_of hw
      obtain ⟨-, o', ho', hall⟩ := mem_ready.1 hz
      rw [ho] at ho'
      cases ho'
      exact hall e he hb
    · obtain ⟨j, -, hj⟩ := List.any_eq_true.1 hw
      simp only [Bool.and_eq_true] at hj
      have h1 := h.waits hz n j hj.2
      obtain ⟨o, ho, e, he, hb, rfl⟩ := link_of hj.1
      exact h j o ho h1 e he hb
/-- Whatever order is picked from here on; S holds behind every operation but zs. -/
def anyZ (P : Program) (md : Region.Mode) (ops : Array Oper) (Q : Exit → Act → World → Prop) (S : World → Prop) (zs : List Nat) : Nat → Array Bool → Act → World → Prop
  | 0, L, a, w => Region.ready md ops L = [] ∧ Q .normal a w
  | n + 1, L, a, w => (Region.ready md ops L = [] → Q .normal a w) ∧
      ∀ i ∈ Region.ready md ops L, wpOp P ops Q i (fun a' w' => (i ∉ zs → S w') ∧ anyZ P md ops Q S zs n (L.setIfInBounds i true) a' w') a w
theorem any_of_anyZ : ∀ (n : Nat) (L : Array Bool) (a : Act) (w : World), anyZ P md ops Q S zs n L a w → wpAny P md ops Q n L a w := by
  intro n
  induction n with
  | zero => exact fun _ _ _ h => h
  | succ n ih => exact fun L a w h => ⟨h.1, fun i hi => wpOp_mono (fun a' w' h' => ih _ a' w' h'.2) (h.2 i hi)⟩
theorem unlisted {L : Array Bool} {i : Nat} (h : L.getD i true = false) : L.getD i false = false := by
  rcases Nat.lt_or_ge i L.size with h' | h'
  · simpa [h'] using h
  · simp [Array.getElem?_eq_none h'] at h
theorem anyZ_first {i : Nat} {oi : Oper} {v : Value} (hi : ops[i]? = some oi) (hsel : ∀ (j : Nat) (o : Oper) cs b, ops[j]? = some o → o.op ≠ .select cs b)
    (hQ : ∀ c a w, Q (.panic c) (a.put oi.dst v) w → Q (.panic c) a w) {m : Nat} (n : Nat) :
    ∀ (L : Array Bool) (a : Act) (w : World), ShutL md ops L → (∀ z ∈ zs, L.getD z false = true ∨ waitB md ops z m i = true) → (∀ j oj, ops[j]? = some oj → j ≠ i → L.getD j true = false → (∀ e ∈ oj.after, Region.binds md e = true → e.on ≠ i) → oi.apart ops oj = true) →
      i ∈ Region.ready md ops L → YieldsIf P ops S oi v a → S w → anyZ P md ops Q S zs n (L.setIfInBounds i true) (a.put oi.dst v) w → anyZ P md ops Q S zs (n + 1) L a w := by
  induction n with
  | zero =>
    intro L a w hL hw hfree hr hy hS H
    refine ⟨fun h => absurd (h ▸ hr) List.not_mem_nil, fun j hj => ?_⟩
    by_cases hji : j = i
    · subst hji
      exact hy.wpOp hi hS ⟨fun _ => hS, H⟩
    · exact absurd (H.1 ▸ ready_mono hj hji) List.not_mem_nil
  | succ n ih =>
    intro L a w hL hw hfree hr hy hS H
    have hun := (mem_ready.1 hr).1
    refine ⟨fun h => absurd (h ▸ hr) List.not_mem_nil, fun j hj => ?_⟩
    by_cases hji : j = i
    · subst hji
      exact hy.wpOp hi hS ⟨fun _ => hS, H⟩
    · have hjz : j ∉ zs := fun e => by
        rcases hw j e with q | q
        · rw [unlisted (mem_ready.1 hj).1] at q
          cases q
        · have := hL.waits hj m i q
          rw [unlisted hun] at this
          cases this
      obtain ⟨hjun, oj, hoj, hall⟩ := mem_ready.1 hj
      have hno : ∀ e ∈ oj.after, Region.binds md e = true → e.on ≠ i := fun e he hb q => by
        have h1 := hall e he hb
        rw [q, unlisted hun] at h1
        cases h1
      refine wpOp_mono ?_ (wpOp_putIf hoj (hfree j oj hoj hji hjun hno) (fun cs b => hsel i oi cs b hi) (fun cs b => hsel j oj cs b hoj) hQ hy (H.2 j (ready_mono hj hji)))
      rintro a' w' ⟨hy', hS', hH'⟩
      refine ⟨hS', ih _ a' w' (hL.next hj) (fun z hz => (hw z hz).imp getD_set_true id) (fun k ok hk hki hkun hkno => hfree k ok hk hki ?_ hkno) (ready_mono hr (Ne.symm hji)) hy' (hS' hjz) ?_⟩
      · by_cases hjk : j = k
        · subst hjk; exact hjun
        · rwa [getD_set_ne true hjk] at hkun
      · rw [Array.setIfInBounds_comm _ _ hji]
        exact hH'
/-- Operation i is taken first. -/
theorem anyZ_take (i m : Nat) {oi : Oper} {v : Value} {n : Nat} {L : Array Bool} {a : Act} {w : World} (hi : ops[i]? = some oi)
    (hb : (Region.noSelect ops && Region.free md ops L i && (Region.ready md ops L).contains i && zs.all (fun z => L.getD z false || waitB md ops z m i) && shutB md ops L) = true)
    (hQ : ∀ c a w, Q (.panic c) (a.put oi.dst v) w → Q (.panic c) a w) (hy : YieldsIf P ops S oi v a) (hS : S w)
    (h : anyZ P md ops Q S zs n (L.setIfInBounds i true) (a.put oi.dst v) w) : anyZ P md ops Q S zs (n + 1) L a w := by
  simp only [Bool.and_eq_true] at hb
  exact anyZ_first (m := m) hi (Region.noSelect_spec hb.1.1.1.1) hQ n L a w (shut_of hb.2) (fun z hz => by have := List.all_eq_true.1 hb.1.2 z hz; simpa using this) (Region.free_spec hi hb.1.1.1.2) (by simpa using hb.1.1.2) hy hS h
/-- An operation that yields its value in whatever world may be taken first, whoever waits for it or not. -/
theorem anyZ_free {i : Nat} {oi : Oper} {v : Value} (hi : ops[i]? = some oi) (hsel : ∀ (j : Nat) (o : Oper) cs b, ops[j]? = some o → o.op ≠ .select cs b)
    (hQ : ∀ c a w, Q (.panic c) (a.put oi.dst v) w → Q (.panic c) a w) (n : Nat) :
    ∀ (L : Array Bool) (a : Act) (w : World), (∀ j oj, ops[j]? = some oj → j ≠ i → L.getD j true = false → (∀ e ∈ oj.after, Region.binds md e = true → e.on ≠ i) → oi.apart ops oj = true) →
      i ∈ Region.ready md ops L → YieldsIf P ops (fun _ => True) oi v a → (i ∉ zs → S w) → (i ∉ zs → ∀ (a' : Act) (w' : World), S w') → anyZ P md ops Q S zs n (L.setIfInBounds i true) (a.put oi.dst v) w → anyZ P md ops Q S zs (n + 1) L a w := by
  induction n with
  | zero =>
    intro L a w hfree hr hy hS hS2 H
    refine ⟨fun h => absurd (h ▸ hr) List.not_mem_nil, fun j hj => ?_⟩
    by_cases hji : j = i
    · subst hji
      exact hy.wpOp hi trivial ⟨hS, H⟩
    · exact absurd (H.1 ▸ ready_mono hj hji) List.not_mem_nil
  | succ n ih =>
    intro L a w hfree hr hy hS hS2 H
    have hun := (mem_ready.1 hr).1
    refine ⟨fun h => absurd (h ▸ hr) List.not_mem_nil, fun j hj => ?_⟩
    by_cases hji : j = i
    · subst hji
      exact hy.wpOp hi trivial ⟨hS, H⟩
    · obtain ⟨hjun, oj, hoj, hall⟩ := mem_ready.1 hj
      have hno : ∀ e ∈ oj.after, Region.binds md e = true → e.on ≠ i := fun e he hb q => by
        have h1 := hall e he hb
        rw [q, unlisted hun] at h1
        cases h1
      refine wpOp_mono ?_ (wpOp_putIf hoj (hfree j oj hoj hji hjun hno) (fun cs b => hsel i oi cs b hi) (fun cs b => hsel j oj cs b hoj) hQ hy (H.2 j (ready_mono hj hji)))
      rintro a' w' ⟨hy', hS', hH'⟩
      refine ⟨hS', ih _ a' w' (fun k ok hk hki hkun hkno => hfree k ok hk hki ?_ hkno) (ready_mono hr (Ne.symm hji)) hy' (fun q => hS2 q a' w') hS2 ?_⟩
      · by_cases hjk : j = k
        · subst hjk; exact hjun
        · rwa [getD_set_ne true hjk] at hkun
      · rw [Array.setIfInBounds_comm _ _ hji]
        exact hH'
/-- One of zs that yields its value in whatever world (a copy) is taken first. -/
theorem anyZ_copy (i : Nat) {oi : Oper} {v : Value} {n : Nat} {L : Array Bool} {a : Act} {w : World} (hi : ops[i]? = some oi) (hz : zs.contains i = true)
    (hb : (Region.noSelect ops && Region.free md ops L i && (Region.ready md ops L).contains i) = true)
    (hQ : ∀ c a w, Q (.panic c) (a.put oi.dst v) w → Q (.panic c) a w) (hy : YieldsIf P ops (fun _ => True) oi v a)
    (h : anyZ P md ops Q S zs n (L.setIfInBounds i true) (a.put oi.dst v) w) : anyZ P md ops Q S zs (n + 1) L a w := by
  simp only [Bool.and_eq_true] at hb
  have hm : i ∈ zs := by simpa using hz
  exact anyZ_free hi (Region.noSelect_spec hb.1.1) hQ n L a w (Region.free_spec hi hb.1.2) (by simpa using hb.2) hy (fun q => absurd hm q) (fun q => absurd hm q) h
/-- What each of some operations, coming up next, leads to. -/
def readyZ (P : Program) (md : Region.Mode) (ops : Array Oper) (Q : Exit → Act → World → Prop) (S : World → Prop) (zs : List Nat) (n : Nat) (L : Array Bool) (a : Act) (w : World) (rs : List Nat) : Prop :=
  ∀ i ∈ rs, wpOp P ops Q i (fun a' w' => (i ∉ zs → S w') ∧ anyZ P md ops Q S zs n (L.setIfInBounds i true) a' w') a w
theorem readyZ.nil {n : Nat} {L : Array Bool} {a : Act} {w : World} : readyZ P md ops Q S zs n L a w [] := fun i h => absurd h List.not_mem_nil
/-- The next one is run: it ends with a value. -/
theorem readyZ.cons {n : Nat} {L : Array Bool} {a : Act} {w : World} {i : Nat} {rs : List Nat} {o : Oper} (ho : ops[i]? = some o) (hg : o.guard = none) {v' : Value} {w' : World}
    (hr : (execOp a.eval o).run P w = .ok (.value v') w') (hS : i ∉ zs → S w') (h : anyZ P md ops Q S zs n (L.setIfInBounds i true) (a.put o.dst v') w')
    (hrest : readyZ P md ops Q S zs n L a w rs) : readyZ P md ops Q S zs n L a w (i :: rs) := fun j hj => by
  rcases List.mem_cons.1 hj with rfl | hj
  · refine wpOp_step ho (fun K hK => ?_)
    have hw : Region.wanted o (yielded ops a.tmps) = true := by simp [Region.wanted, hg]
    rw [if_pos hw]
    unfold Oper.wp
    rw [hr]
    exact hK _ _ ⟨hS, h⟩
  · exact hrest j hj
/-- The next one is run: it leaves nothing in a slot. -/
theorem readyZ.skip {n : Nat} {L : Array Bool} {a : Act} {w : World} {i : Nat} {rs : List Nat} {o : Oper} (ho : ops[i]? = some o) (hg : o.guard = none) {w' : World}
    (hr : (execOp a.eval o).run P w = .ok .skip w') (hS : i ∉ zs → S w') (h : anyZ P md ops Q S zs n (L.setIfInBounds i true) (a.put o.dst undef) w')
    (hrest : readyZ P md ops Q S zs n L a w rs) : readyZ P md ops Q S zs n L a w (i :: rs) := fun j hj => by
  rcases List.mem_cons.1 hj with rfl | hj
  · refine wpOp_step ho (fun K hK => ?_)
    have hw : Region.wanted o (yielded ops a.tmps) = true := by simp [Region.wanted, hg]
    rw [if_pos hw]
    unfold Oper.wp
    rw [hr]
    exact hK _ _ ⟨hS, h⟩
  · exact hrest j hj
/-- The next one calls a function of the program, which returns. -/
theorem readyZ.call {n : Nat} {L : Array Bool} {a : Act} {w : World} {i : Nat} {rs : List Nat} {o : Oper} (ho : ops[i]? = some o) (hg : o.guard = none) {f : FuncId}
    {vs : Array Value} (hrun : (execOp a.eval o).run P w = .ok (.enter f vs) w) {R : Ending → World → Prop} (hc : Calls P f vs w R) (hR : ∀ e w', R e w' → ∃ v, e = .returned v ∧ (i ∉ zs → S w') ∧ anyZ P md ops Q S zs n (L.setIfInBounds i true) (a.put o.dst v) w')
    (hrest : readyZ P md ops Q S zs n L a w rs) : readyZ P md ops Q S zs n L a w (i :: rs) := fun j hj => by
  rcases List.mem_cons.1 hj with rfl | hj
  · refine wpOp_step ho (fun K hK => ?_)
    have hw : Region.wanted o (yielded ops a.tmps) = true := by simp [Region.wanted, hg]
    rw [if_pos hw]
    unfold Oper.wp
    rw [hrun]
    refine Calls.mono hc (fun e w' h => ?_)
    obtain ⟨v, rfl, h1, h2⟩ := hR e w' h
    exact hK _ _ ⟨h1, h2⟩
  · exact hrest j hj
theorem anyZ_ready {rs : List Nat} {n : Nat} {L : Array Bool} {a : Act} {w : World} (hr : Region.ready md ops L = rs) (hne : rs ≠ [])
    (h : readyZ P md ops Q S zs n L a w rs) : anyZ P md ops Q S zs (n + 1) L a w := ⟨fun h0 => absurd (hr ▸ h0) hne, hr ▸ h⟩
theorem anyZ_done {L : Array Bool} {a : Act} {w : World} (hr : Region.ready md ops L = []) (h : Q .normal a w) : ∀ n, anyZ P md ops Q S zs n L a w
  | 0 => ⟨hr, h⟩
  | _ + 1 => ⟨fun _ => h, fun i hi => absurd (hr ▸ hi) List.not_mem_nil⟩
theorem wp_region_z (S : World → Prop) (zs : List Nat) {id : Nat} {a : Act} {w : World} (hm : P.follows .mixedOrders = true)
    (h : anyZ P .any ops Q S zs ops.size (Array.replicate ops.size false) a w.drew) : (Code.region id ops true).wp P Q a w :=
  wp_region_any hm (any_of_anyZ _ _ _ _ h)
end
end Go.Proofs.YtggaobcdogbjhaaGreatDoor
namespace Go.Proofs.YtggaobcdogbjhaaGreatDoor
open Go.RowKit
set_option linter.unusedVariables false
set_option linter.unusedSimpArgs false
theorem run_mv {P : Program} {ev : Operand → Value} {o : Oper} {w : World} {x : Operand} {v : Value} (ho : o.op = .move x) (hx : ev x = v) : (execOp ev o).run P w = .ok (.value v) w := by
  unfold execOp; rw [ho, ← hx]; rfl
theorem run_as {P : Program} {ev : Operand → Value} {o : Oper} {w : World} {x : Operand} {v : Value} (ho : o.op = .assign x) (hx : ev x = v) : (execOp ev o).run P w = .ok (.value v) w := by
  unfold execOp; rw [ho, ← hx]; rfl
theorem run_nc {P : Program} {ev : Operand → Value} {o : Oper} {w : World} {x : Operand} {ad : Addr} (ho : o.op = .nilCheck x) (hx : ev x = .pointer (some ad)) : (execOp ev o).run P w = .ok (.value (.pointer (some ad))) w := by
  unfold execOp; rw [ho]; simp only [hx]; rfl
theorem wp_only {c : Code} {Q : Exit → Act → World → Prop} {a : Act} {w : World} (h : Code.wp Tryz.prog c (Only (fun a' w' => Q .normal a' w')) a w) : Code.wp Tryz.prog c Q a w := by
  refine Code.wp_mono ?_ h
  rintro (_ | _ | _ | _ | _) a' w' hO
  all_goals first | exact hO.elim | exact hO
theorem Four.turned {S : Nat → Prop} {W W' : World} {k : Nat} {x y a b : Int} (h : Four W k x y a b) (ht : Turns S W W') (hs : ¬ S k) : Four W' k x y a b := by
  have hb := ht.block k h.2.2 hs
  have hc := fun o => World.cell?_of_block (a := ⟨k, o, none⟩) hb
  have hf := fun o => World.frozen?_of_block (a := ⟨k, o, none⟩) hb
  exact ⟨⟨(hc 0).trans h.1.1, (hc 1).trans h.1.2.1, (hc 2).trans h.1.2.2.1, (hc 3).trans h.1.2.2.2⟩, ⟨(hf 0).trans h.2.1.1, (hf 1).trans h.2.1.2.1, (hf 2).trans h.2.1.2.2.1, (hf 3).trans h.2.1.2.2.2⟩, Nat.lt_of_lt_of_le h.2.2 ht.size⟩
/-- A reached cell: where, at what cost, and what the whole way costs at least; p: which push brought it. -/
structure It where
  x : Int
  y : Int
  c : Int
  f : Int
  p : Int
def It.cs (t : It) : List Value := [.int .i64 t.x, .int .i64 t.y, .int .i64 t.c, .int .i64 t.f, .int .i64 t.p]
abbrev It.v (t : It) : Value := .agg #[.int .i64 t.x, .int .i64 t.y, .int .i64 t.c, .int .i64 t.f, .int .i64 t.p]
abbrev rv (x y c f : Int) : Value := .agg #[.int .i64 x, .int .i64 y, .int .i64 c, .int .i64 f]
abbrev fn31 : Value := .func (.func 65) #[] #[]
/-- In block b lies a heap: its row of items, how many were pushed, whether its order is at work. -/
def Hp (w : World) (b : Nat) (v : Value) (n : Int) (q : Bool) : Prop := w.heap[b]? = some (.cells #[fn31, v, .int .i64 n, .bool q] 148 (0, 0))
section
variable {w w' : World} {b : Nat} {v : Value} {n : Int} {q : Bool}
theorem Hp.lt (h : Hp w b v n q) : b < w.heap.size := (Array.getElem?_eq_some_iff.1 h).1
theorem Hp.kept {S : Nat → Prop} (h : Hp w b v n q) (ht : Turns S w w') (hs : ¬ S b) : Hp w' b v n q := ht.same hs h
theorem Hp.c (h : Hp w b v n q) (j : Nat) : w.cell? ⟨b, j, none⟩ = (#[fn31, v, .int .i64 n, .bool q] : Array Value)[j]? := cell_of_row w b j _ _ _ h
theorem Hp.f (h : Hp w b v n q) (j : Nat) : w.frozen? ⟨b, j, none⟩ = false := by
  have h' : w.heap[b]? = _ := h
  simp [World.frozen?, h']
theorem Hp.ne_row (h : Hp w b v n q) {u : Value} {e : TypeId} {k m : Nat} {xs : List Value} (hv : w.ownsRow 0 e k u m xs) (he : e ≠ 148) : u.ownBlock ≠ some b := by
  intro hh
  rcases hv.2 with ⟨rfl, _⟩ | ⟨g, cap, cur, rfl, hb, hg, _⟩
  · simp [Value.ownBlock] at hh
  · simp [Value.ownBlock] at hh
    subst hh
    rw [show w.heap[g]? = _ from h] at hg
    simp at hg
    exact he hg.2.symm
theorem Hp.set1 (h : Hp w b v n q) (u : Value) : Hp (w.setCell ⟨b, 1, none⟩ u) b u n q := by
  have h' : w.heap[b]? = _ := h
  have hlt := h.lt
  unfold Hp
  simp [World.setCell, Array.getElem?_modify, h']
theorem Hp.set2 (h : Hp w b v n q) (m : Int) : Hp (w.setCell ⟨b, 2, none⟩ (.int .i64 m)) b v m q := by
  have h' : w.heap[b]? = _ := h
  have hlt := h.lt
  unfold Hp
  simp [World.setCell, Array.getElem?_modify, h']
theorem Hp.set3 (h : Hp w b v n q) (r : Bool) : Hp (w.setCell ⟨b, 3, none⟩ (.bool r)) b v n r := by
  have h' : w.heap[b]? = _ := h
  have hlt := h.lt
  unfold Hp
  simp [World.setCell, Array.getElem?_modify, h']
end
theorem neq_nil (w : World) : Sem.run Tryz.prog (binOp .neq 112 fn31 .nilFunc) w = .ok (.bool true) w := by kernel_rfl
theorem eql_nil (w : World) : Sem.run Tryz.prog (binOp .eql 112 fn31 .nilFunc) w = .ok (.bool false) w := by kernel_rfl
theorem ahead_any (x y c f x2 y2 c2 f2 : Int) (w : World) : Calls Tryz.prog 65 #[rv x y c f, rv x2 y2 c2 f2] w fun e w' => e = .returned (.bool (decide (f < f2))) ∧ w' = (w.alloc (.cells #[.int .i64 x, .int .i64 y, .int .i64 c, .int .i64 f] 91)).alloc (.cells #[.int .i64 x2, .int .i64 y2, .int .i64 c2, .int .i64 f2] 91) := by
  go_enter Tryz.func65, Tryz.ntmps65
  go_wp2
  go_ret
  exact ⟨rfl, rfl⟩
/-- The order's watch: it tells that the order is no longer at work. -/
theorem watch_idle (b c : Nat) (v : Value) (n : Int) (q : Bool) (w : World) (h : Hp w b v n q) (hc : w.cell? ⟨c, 0, none⟩ = some (ptr b)) :
    CallsD Tryz.prog 132 #[.pointer (some ⟨c, 0, none⟩)] .returning w fun e u' w' => e = .returned (.tuple #[]) ∧ u' = .returning ∧ w' = w.setCell ⟨b, 3, none⟩ (.bool false) := by
  have c3 : w.cell? ⟨b, 3, none⟩ = some (.bool q) := h.c 3
  have f3 := h.f 3
  refine callsD_of_wpS Tryz.func132 rfl fun c₀ cs hu => ?_
  apply wpS_seq
  apply wpS_region
  simp [wpOpsS, go_sem, recoverD, hu, hc, c3, f3, Tryz.ntmps132, Exit.thenS]
  apply wpS_region
  cases c₀
  simp_all [wpOpsS, go_sem, recoverD, bodyPostS, results, Tryz.results132, Tryz.ntmps132, Exit.thenS]
theorem turns_any (b : Nat) (v : Value) (n : Int) (q : Bool) (w : World) (h : Hp w b v n q) :
    Calls Tryz.prog 119 #[ptr b] w fun e w' => e = .returned (.bool (!q)) ∧ w' = w := by
  have c0 : w.cell? ⟨b, 0, none⟩ = some fn31 := h.c 0
  have c3 : w.cell? ⟨b, 3, none⟩ = some (.bool q) := h.c 3
  have hq := neq_nil
  go_enter Tryz.func119, Tryz.ntmps119
  go_wp2
  go_ret
  exact ⟨rfl, rfl⟩
theorem hlen_any (b : Nat) (a : Option Addr) (m cap : Nat) (n : Int) (q : Bool) (w : World) (h : Hp w b (.slice a m cap) n q) :
    Calls Tryz.prog 123 #[ptr b] w fun e w' => e = .returned (.int .i64 (m : Nat)) ∧ w' = w := by
  have c1 : w.cell? ⟨b, 1, none⟩ = some (.slice a m cap) := h.c 1
  go_enter Tryz.func123, Tryz.ntmps123
  go_wp2
  go_ret
  exact ⟨rfl, rfl⟩
theorem hnew_any (w : World) : Calls Tryz.prog 64 #[fn31] w fun e w' => e = .returned (ptr w.heap.size) ∧ w' = w.alloc (.cells #[fn31, .slice none 0 0, .int .i64 0, .bool false] 148) := by
  have hq := eql_nil
  go_enter Tryz.func64, Tryz.ntmps64
  go_wp2
  go_ret
  exact ⟨rfl, rfl⟩
end Go.Proofs.YtggaobcdogbjhaaGreatDoor
namespace Go.Proofs.YtggaobcdogbjhaaGreatDoor
open Go.RowKit
set_option linter.unusedVariables false
set_option linter.unusedSimpArgs false
theorem run_p60 {ev : Operand → Value} {o : Oper} {w : World} {ad : Addr} {x : Operand} {b : Nat} (ho : o.op = .load 78 x) (hx : ev x = .pointer (some ad)) (hc : w.cell? ad = some (ptr b)) : (execOp ev o).run Tryz.prog w = .ok (.value (ptr b)) w := by
  unfold execOp; rw [ho]; simp only [hx]; go_simp
theorem run_f86 {ev : Operand → Value} {o : Oper} {w : World} {ad : Addr} {x : Operand} (ho : o.op = .load 112 x) (hx : ev x = .pointer (some ad)) (hc : w.cell? ad = some fn31) : (execOp ev o).run Tryz.prog w = .ok (.value fn31) w := by
  unfold execOp; rw [ho]; simp only [hx]; go_simp
theorem run_hf0 {ev : Operand → Value} {o : Oper} {w : World} {x : Operand} {b : Nat} (ho : o.op = .fieldAddr 148 x 0) (hx : ev x = .pointer (some ⟨b, 0, none⟩)) : (execOp ev o).run Tryz.prog w = .ok (.value (.pointer (some ⟨b, 0, none⟩))) w := by
  unfold execOp; rw [ho]; simp only [hx]; go_simp
theorem run_rv {ev : Operand → Value} {o : Oper} {w : World} {x : Operand} {g k : Nat} {p q c d : Int} (ho : o.op = .load 91 x) (hx : ev x = .pointer (some ⟨g, k, none⟩)) (h0 : w.cell? ⟨g, k, none⟩ = some (.int .i64 p)) (h1 : w.cell? ⟨g, k + 1, none⟩ = some (.int .i64 q)) (h2 : w.cell? ⟨g, k + 2, none⟩ = some (.int .i64 c)) (h3 : w.cell? ⟨g, k + 3, none⟩ = some (.int .i64 d)) :
    (execOp ev o).run Tryz.prog w = .ok (.value (rv p q c d)) w := by
  unfold execOp; rw [ho]; simp only [hx]; go_simp
theorem run_ask {ev : Operand → Value} {o : Oper} {w : World} {c : Operand} {ar : Array Operand} {ts : Array TypeId} {vs : Array Value} (hop : o.op = .call { callee := .value c, args := ar, argTypes := ts }) (hf : ev c = fn31) (hvs : ar.map ev = vs) : (execOp ev o).run Tryz.prog w = .ok (.enter 65 vs) w := by
  unfold execOp
  simp only [hop, resolve, hf, hvs]
  go_simp
set_option maxRecDepth 100000 in
set_option maxHeartbeats 2000000 in
theorem ahead_is (b : Nat) (v : Value) (n : Int) (x y c f x2 y2 c2 f2 : Int) (w : World) (h : Hp w b v n false) :
    Calls Tryz.prog 131 #[ptr b, rv x y c f, rv x2 y2 c2 f2] w fun e w' => e = .returned (.bool (decide (f < f2))) ∧ Below w.heap.size w w' := by
  have hmf : ∀ (fn : Fn) (first cap : Array Value) (w : World), (Instr.makeFunc fn first cap).run Tryz.prog w = .ok (.func fn first cap) w := fun _ _ _ _ => rfl
  have hl := h.lt
  obtain ⟨X, hX⟩ : ∃ X, ((w.alloc (.cells #[ptr b] 78)).alloc (.cells #[.int .i64 x, .int .i64 y, .int .i64 c, .int .i64 f] 91)).alloc (.cells #[.int .i64 x2, .int .i64 y2, .int .i64 c2, .int .i64 f2] 91) = X := ⟨_, rfl⟩
  have B0 : Below w.heap.size w X := by rw [← hX]; exact bt (box2 _ _ _) (box1 _ _)
  have e0 : X.cell? ⟨w.heap.size, 0, none⟩ = some (ptr b) := by rw [← hX]; simp [go_sem]
  have F1 : Four X (w.heap.size + 1) x y c f := by rw [← hX]; simp [Four, go_sem]
  have F2 : Four X (w.heap.size + 1 + 1) x2 y2 c2 f2 := by rw [← hX]; simp [Four, go_sem]
  have hz0 : X.heap.size = w.heap.size + 3 := by rw [← hX]; simp
  have hX0 : Hp X b v n false := h.kept (S := NoB) (Turns.of_below B0) id
  have c3 : X.cell? ⟨b, 3, none⟩ = some (.bool false) := hX0.c 3
  have f3 := hX0.f 3
  have TY : Turns (fun k => k = b) X (X.setCell ⟨b, 3, none⟩ (.bool true)) := Turns.set (S := fun k => k = b) X (p := ⟨b, 3, none⟩) rfl _
  have hY := hX0.set3 true
  have hzY : (X.setCell ⟨b, 3, none⟩ (.bool true)).heap.size = X.heap.size := by simp [World.setCell]
  obtain ⟨Y, hYe⟩ : ∃ Y, X.setCell ⟨b, 3, none⟩ (.bool true) = Y := ⟨_, rfl⟩
  rw [hYe] at hY TY hzY
  have g1 : Y.cell? ⟨w.heap.size, 0, none⟩ = some (ptr b) := TY.cell (by omega) e0
  have G1 := F1.turned TY (by omega)
  have G2 := F2.turned TY (by omega)
  have HF : Hid (∀ Z, Below Y.heap.size Y Z → Below w.heap.size w (Z.setCell ⟨b, 3, none⟩ (.bool false))) := hide (fun Z hZ => by
    have hHZ : Hp Z b v n true := hY.kept (S := NoB) (Turns.of_below hZ) id
    have hz1 := hZ.size
    have hz2 := B0.size
    refine ⟨(hZ.os.trans TY.os).trans B0.os, (hZ.tape.trans TY.tape).trans B0.tape, (hZ.output.trans TY.output).trans B0.output, by simp [World.setCell]; omega, fun i hi => ?_⟩
    by_cases hib : i = b
    · subst hib
      exact (hHZ.set3 false).trans (show w.heap[i]? = _ from h).symm
    · have q1 : (Z.setCell ⟨b, 3, none⟩ (.bool false)).heap[i]? = Z.heap[i]? := Below.heap_setCell _ _ _ _ (fun e => hib e)
      rw [q1, hZ.block i (by omega), TY.block i (by omega) hib, B0.block i hi])
  have HB2 : Hid (∀ o1 o2, Below Y.heap.size Y ((Y.drew.alloc o1).alloc o2)) := hide (fun o1 o2 => bt ((Below.refl _ _).drew) (box2 Y.drew o1 o2))
  have HH2 : Hid (∀ o1 o2, Hp ((Y.drew.alloc o1).alloc o2) b v n true) := hide (fun o1 o2 => hY.kept (S := NoB) (Turns.of_below (HB2.out o1 o2)) id)
  have HS : Hid ((fun wx : World => wx.cell? ⟨b, 0, none⟩ = some fn31 ∧ wx.cell? ⟨w.heap.size, 0, none⟩ = some (ptr b) ∧ Four wx (w.heap.size + 1) x y c f ∧ Four wx (w.heap.size + 1 + 1) x2 y2 c2 f2) Y.drew) := hide ⟨hY.c 0, g1, G1, G2⟩
  have HK2 : Hid (∀ o1 o2, (fun wx : World => wx.cell? ⟨b, 0, none⟩ = some fn31 ∧ wx.cell? ⟨w.heap.size, 0, none⟩ = some (ptr b) ∧ Four wx (w.heap.size + 1) x y c f ∧ Four wx (w.heap.size + 1 + 1) x2 y2 c2 f2) ((Y.drew.alloc o1).alloc o2)) := hide (fun o1 o2 => ⟨(HH2.out o1 o2).c 0, ((HB2.out o1 o2).cell (p := ⟨w.heap.size, 0, none⟩) (World.block_lt_of_cell? Y _ g1)).trans g1, G1.kept (HB2.out o1 o2), G2.kept (HB2.out o1 o2)⟩)
  have HX := hide hX
  have HY := hide hYe
  clear hX hYe TY hY hzY B0 F1 F2 g1 G1 G2 hX0 hz0
  go_enter_defers Tryz.func131, Tryz.ntmps131
  go_wp2_with (first | rw [HX.out] | rw [HY.out])
  refine wp_only ?_
  refine wp_region_z (fun wx : World => wx.cell? ⟨b, 0, none⟩ = some fn31 ∧ wx.cell? ⟨w.heap.size, 0, none⟩ = some (ptr b) ∧ Four wx (w.heap.size + 1) x y c f ∧ Four wx (w.heap.size + 1 + 1) x2 y2 c2 f2) [7] (by kernel_rfl) ?_
  refine anyZ_take 0 8 (v := ptr b) rfl (by kernel_rfl) (fun _ _ _ h => h.elim) (Or.inl ⟨by rfl, fun wx hx => run_p60 (by rfl) (by rfl) hx.2.1⟩) HS.out ?_
  try simp only [Act.put, List.getElem_toArray, List.getElem_cons_zero, List.getElem_cons_succ, List.setIfInBounds_toArray, List.set_cons_zero, List.set_cons_succ]
  refine anyZ_take 1 8 (v := ptr b) rfl (by kernel_rfl) (fun _ _ _ h => h.elim) (Or.inl ⟨by rfl, fun wx hx => run_nc (by rfl) (by rfl)⟩) HS.out ?_
  try simp only [Act.put, List.getElem_toArray, List.getElem_cons_zero, List.getElem_cons_succ, List.setIfInBounds_toArray, List.set_cons_zero, List.set_cons_succ]
  refine anyZ_take 2 8 (v := .pointer (some ⟨b, 0, none⟩)) rfl (by kernel_rfl) (fun _ _ _ h => h.elim) (Or.inl ⟨by rfl, fun wx hx => run_hf0 (by rfl) (by rfl)⟩) HS.out ?_
  try simp only [Act.put, List.getElem_toArray, List.getElem_cons_zero, List.getElem_cons_succ, List.setIfInBounds_toArray, List.set_cons_zero, List.set_cons_succ]
  refine anyZ_take 3 8 (v := fn31) rfl (by kernel_rfl) (fun _ _ _ h => h.elim) (Or.inl ⟨by rfl, fun wx hx => run_f86 (by rfl) (by rfl) hx.1⟩) HS.out ?_
  try simp only [Act.put, List.getElem_toArray, List.getElem_cons_zero, List.getElem_cons_succ, List.setIfInBounds_toArray, List.set_cons_zero, List.set_cons_succ]
  refine anyZ_take 4 8 (v := rv x y c f) rfl (by kernel_rfl) (fun _ _ _ h => h.elim) (Or.inl ⟨by rfl, fun wx hx => run_rv (by rfl) (by rfl) hx.2.2.1.1.1 hx.2.2.1.1.2.1 hx.2.2.1.1.2.2.1 hx.2.2.1.1.2.2.2⟩) HS.out ?_
  try simp only [Act.put, List.getElem_toArray, List.getElem_cons_zero, List.getElem_cons_succ, List.setIfInBounds_toArray, List.set_cons_zero, List.set_cons_succ]
  refine anyZ_take 5 8 (v := rv x2 y2 c2 f2) rfl (by kernel_rfl) (fun _ _ _ h => h.elim) (Or.inl ⟨by rfl, fun wx hx => run_rv (by rfl) (by rfl) hx.2.2.2.1.1 hx.2.2.2.1.2.1 hx.2.2.2.1.2.2.1 hx.2.2.2.1.2.2.2⟩) HS.out ?_
  try simp only [Act.put, List.getElem_toArray, List.getElem_cons_zero, List.getElem_cons_succ, List.setIfInBounds_toArray, List.set_cons_zero, List.set_cons_succ]
  refine anyZ_ready (rs := [6]) (by kernel_rfl) (by simp) ?_
  refine readyZ.call rfl rfl (run_ask (by rfl) (by rfl) (by simp only [List.map_toArray, List.map_cons, List.map_nil]; rfl)) (ahead_any x y c f x2 y2 c2 f2 _) ?_ readyZ.nil
  rintro e v1 ⟨rfl, rfl⟩
  refine ⟨_, rfl, fun _ => HK2.out _ _, ?_⟩
  try simp only [Act.put, List.getElem_toArray, List.getElem_cons_zero, List.getElem_cons_succ, List.setIfInBounds_toArray, List.set_cons_zero, List.set_cons_succ]
  refine anyZ_ready (rs := [7]) (by kernel_rfl) (by simp) ?_
  refine readyZ.cons rfl rfl (run_as (v := .bool (decide (f < f2))) (by rfl) (by rfl)) (fun h => absurd (by decide) h) ?_ readyZ.nil
  try simp only [Act.put, List.getElem_toArray, List.getElem_cons_zero, List.getElem_cons_succ, List.setIfInBounds_toArray, List.set_cons_zero, List.set_cons_succ]
  refine anyZ_done (by kernel_rfl) ?_ _
  simp only [Only, Exit.then]
  go_wp2_with fail
  refine leaves_cons (f := 132) (args := #[.pointer (some ⟨w.heap.size, 0, none⟩)]) (by simp) (by simp [go_sem]) ?_
  refine (watch_idle b w.heap.size v n true _ (HH2.out _ _) (HK2.out _ _).2.1).mono ?_
  rintro e u2 w2 ⟨rfl, rfl, rfl⟩
  exact ⟨_, results_tmp rfl _ _ _, rfl, HF.out _ (HB2.out _ _)⟩
end Go.Proofs.YtggaobcdogbjhaaGreatDoor
namespace Go.Proofs.YtggaobcdogbjhaaGreatDoor
open Go.RowKit
set_option linter.unusedVariables false
set_option linter.unusedSimpArgs false
theorem It.cs_len (l : List It) : (l.flatMap It.cs).length = l.length * 5 := by
  induction l with
  | nil => rfl
  | cons t r ih => rw [List.flatMap_cons, List.length_append, ih]; simp [It.cs]; omega
theorem It.cs_get : ∀ (l : List It) (i : Nat) (t : It) (j : Nat), l[i]? = some t → j < 5 → (l.flatMap It.cs)[i * 5 + j]? = t.cs[j]?
  | [], i, t, j, h, _ => by simp at h
  | s :: r, 0, t, j, h, hj => by
    simp at h; subst h
    rw [List.flatMap_cons, Nat.zero_mul, Nat.zero_add, List.getElem?_append_left (by simp [It.cs]; omega)]
  | s :: r, i + 1, t, j, h, hj => by
    simp at h
    rw [List.flatMap_cons, List.getElem?_append_right (by simp [It.cs]; omega)]
    rw [← It.cs_get r i t j h hj]
    congr 1
    simp [It.cs]; omega
theorem It.cs_set (t : It) : ∀ (L : List It) (j : Nat), j < L.length → (L.set j t).flatMap It.cs = (((((L.flatMap It.cs).set (j * 5) (.int .i64 t.x)).set (j * 5 + 1) (.int .i64 t.y)).set (j * 5 + 2) (.int .i64 t.c)).set (j * 5 + 3) (.int .i64 t.f)).set (j * 5 + 4) (.int .i64 t.p)
  | [], j, h => by simp at h
  | s :: r, 0, _ => by simp [It.cs]
  | s :: r, j + 1, h => by
    have hj : j < r.length := by simpa using h
    rw [List.set_cons_succ, List.flatMap_cons, It.cs_set t r j hj, List.flatMap_cons]
    have hs : s.cs.length = 5 := rfl
    have key : ∀ (R : List Value) (o : Nat) (u : Value), (s.cs ++ R).set ((j + 1) * 5 + o) u = s.cs ++ R.set (j * 5 + o) u := fun R o u => by
      rw [List.set_append, if_neg (by omega), hs, show (j + 1) * 5 + o - 5 = j * 5 + o by omega]
    have k0 := key (r.flatMap It.cs) 0 (.int .i64 t.x)
    simp only [Nat.add_zero] at k0
    rw [k0, key, key, key, key]
/-- The slice v reads as the items l. -/
def Its (w : World) (v : Value) (l : List It) : Prop := w.ownsRow 0 167 5 v l.length (l.flatMap It.cs)
theorem Its.kept {w w' : World} {v : Value} {l : List It} {S : Nat → Prop} (h : Its w v l) (ht : Turns S w w') (hs : ∀ k, v.ownBlock = some k → ¬ S k) : Its w' v l := row_kept h ht hs
theorem Its.upto {w w' : World} {v : Value} {l : List It} (h : Its w v l) (hb : Below w.heap.size w w') : Its w' v l := h.kept (S := NoB) (Turns.of_below hb) (fun _ _ => id)
theorem Hp.upto {w w' : World} {b : Nat} {v : Value} {n : Int} {q : Bool} (h : Hp w b v n q) (hb : Below w.heap.size w w') : Hp w' b v n q := h.kept (S := NoB) (Turns.of_below hb) id
theorem Its.form {w : World} {v : Value} {l : List It} (h : Its w v l) (hl : 0 < l.length) : ∃ g cap, v = .slice (some ⟨g, 0, none⟩) l.length cap ∧ l.length ≤ cap ∧ cap ≤ maxLen ∧ g < w.heap.size := by
  rcases h.2 with ⟨e, h0⟩ | ⟨g, cap, cur, e, hb, hg, hn, hm, hs, ht⟩
  · omega
  · exact ⟨g, cap, e, hn, hm, (Array.getElem?_eq_some_iff.1 hg).1⟩
theorem Its.slice {w : World} {v : Value} {l : List It} (h : Its w v l) : ∃ a cap, v = .slice a l.length cap ∧ l.length ≤ maxLen := by
  rcases h.2 with ⟨e, h0⟩ | ⟨g, cap, cur, e, hb, hg, hn, hm, hs, ht⟩
  · exact ⟨none, 0, by rw [h0]; exact e, by rw [h0]; decide⟩
  · exact ⟨_, cap, e, by omega⟩
/-- One item's cells. -/
def C5 (w : World) (x o : Nat) (t : It) : Prop := (w.cell? ⟨x, o, none⟩ = some (.int .i64 t.x) ∧ w.cell? ⟨x, o + 1, none⟩ = some (.int .i64 t.y) ∧ w.cell? ⟨x, o + 2, none⟩ = some (.int .i64 t.c) ∧ w.cell? ⟨x, o + 3, none⟩ = some (.int .i64 t.f) ∧ w.cell? ⟨x, o + 4, none⟩ = some (.int .i64 t.p))
theorem C5.upto {w w' : World} {x o : Nat} {t : It} (h : C5 w x o t) (hb : Below w.heap.size w w') : C5 w' x o t :=
  ⟨(hb.cell (World.block_lt_of_cell? w _ h.1)).trans h.1, (hb.cell (World.block_lt_of_cell? w _ h.2.1)).trans h.2.1, (hb.cell (World.block_lt_of_cell? w _ h.2.2.1)).trans h.2.2.1, (hb.cell (World.block_lt_of_cell? w _ h.2.2.2.1)).trans h.2.2.2.1, (hb.cell (World.block_lt_of_cell? w _ h.2.2.2.2)).trans h.2.2.2.2⟩
theorem Its.at {w : World} {g cap : Nat} {l : List It} (h : Its w (.slice (some ⟨g, 0, none⟩) l.length cap) l) {j : Nat} {s : It} (hs : l[j]? = some s) : C5 w g (j * 5) s ∧ ∀ o, w.frozen? ⟨g, o, none⟩ = false := by
  have hc : ∀ o u, s.cs[o]? = some u → o < 5 → w.cell? ⟨g, j * 5 + o, none⟩ = some u := fun o u hu ho => by
    have := World.ownsRow.cells h (g := g) rfl (j * 5 + o) u (by rw [It.cs_get l j s o hs ho]; exact hu)
    simpa [Addr.add_lit] using this
  refine ⟨⟨hc 0 _ rfl (by omega), hc 1 _ rfl (by omega), hc 2 _ rfl (by omega), hc 3 _ rfl (by omega), hc 4 _ rfl (by omega)⟩, fun o => ?_⟩
  rcases h.2 with ⟨e, _⟩ | ⟨g', cap', cur, e, hb, hg, r⟩
  · cases e
  · simp only [Value.slice.injEq, Option.some.injEq, Addr.mk.injEq, and_true, true_and] at e
    obtain ⟨rfl, -⟩ := e
    simp [World.frozen?, hg]
/-- One item written anew. -/
def put5 (w : World) (g o : Nat) (t : It) : World := ((((w.setCell ⟨g, o, none⟩ (.int .i64 t.x)).setCell ⟨g, o + 1, none⟩ (.int .i64 t.y)).setCell ⟨g, o + 2, none⟩ (.int .i64 t.c)).setCell ⟨g, o + 3, none⟩ (.int .i64 t.f)).setCell ⟨g, o + 4, none⟩ (.int .i64 t.p)
theorem Its.set {w : World} {g cap : Nat} {l : List It} (h : Its w (.slice (some ⟨g, 0, none⟩) l.length cap) l) {j : Nat} (hj : j < l.length) (t : It) : Its (put5 w g (j * 5) t) (.slice (some ⟨g, 0, none⟩) l.length cap) (l.set j t) := by
  unfold Its put5
  rw [It.cs_set t l j hj, List.length_set]
  exact (World.ownsRow.stored (World.ownsRow.stored (World.ownsRow.stored (World.ownsRow.stored (World.ownsRow.stored h (j * 5) _).1 (j * 5 + 1) _).1 (j * 5 + 2) _).1 (j * 5 + 3) _).1 (j * 5 + 4) _).1
theorem put5_turns (w : World) (g o : Nat) (t : It) : Turns (fun k => k = g) w (put5 w g o t) :=
  ((((Turns.set (S := fun j => j = g) w (p := ⟨g, o, none⟩) rfl _).trans ((Turns.set (S := fun j => j = g) _ (p := ⟨g, o + 1, none⟩) rfl _).mono (fun _ _ h => .inl h))).trans ((Turns.set (S := fun j => j = g) _ (p := ⟨g, o + 2, none⟩) rfl _).mono (fun _ _ h => .inl h))).trans ((Turns.set (S := fun j => j = g) _ (p := ⟨g, o + 3, none⟩) rfl _).mono (fun _ _ h => .inl h))).trans ((Turns.set (S := fun j => j = g) _ (p := ⟨g, o + 4, none⟩) rfl _).mono (fun _ _ h => .inl h))
/-- Which of two items is popped before the other. -/
def lt (a b : It) : Bool := if a.p < b.p then !decide (b.f < a.f) else decide (a.f < b.f)
theorem lt_iff (a b : It) : lt a b = true ↔ (a.f < b.f ∨ a.f = b.f ∧ a.p < b.p) := by
  unfold lt
  split <;> simp <;> omega
theorem run_hf1 {ev : Operand → Value} {o : Oper} {w : World} {x : Operand} {b : Nat} (ho : o.op = .fieldAddr 148 x 1) (hx : ev x = .pointer (some ⟨b, 0, none⟩)) : (execOp ev o).run Tryz.prog w = .ok (.value (.pointer (some ⟨b, 1, none⟩))) w := by
  unfold execOp; rw [ho]; simp only [hx]; go_simp
theorem run_row {ev : Operand → Value} {o : Oper} {w : World} {ad : Addr} {x : Operand} {a : Option Addr} {n c : Nat} (ho : o.op = .load 146 x) (hx : ev x = .pointer (some ad)) (hc : w.cell? ad = some (.slice a n c)) : (execOp ev o).run Tryz.prog w = .ok (.value (.slice a n c)) w := by
  unfold execOp; rw [ho]; simp only [hx]; go_simp
theorem run_iat {ev : Operand → Value} {o : Oper} {w : World} {x t : Operand} {g n cap k : Nat} (ho : o.op = .indexAddr 146 x t) (hx : ev x = .slice (some ⟨g, 0, none⟩) n cap) (ht : ev t = .int .i64 k) (hk : k < n) : (execOp ev o).run Tryz.prog w = .ok (.value (.pointer (some ⟨g, k * 5, none⟩))) w := by
  have h1 : (0 : Int) ≤ (k : Nat) ∧ (k : Int) < (n : Nat) := by omega
  unfold execOp; rw [ho]; simp only [hx, ht]; go_simp
theorem run_item {ev : Operand → Value} {o : Oper} {w : World} {x : Operand} {g k : Nat} {t : It} (ho : o.op = .load 167 x) (hx : ev x = .pointer (some ⟨g, k, none⟩)) (hc : C5 w g k t) : (execOp ev o).run Tryz.prog w = .ok (.value t.v) w := by
  obtain ⟨h0, h1, h2, h3, h4⟩ := hc
  unfold execOp; rw [ho]; simp only [hx]; go_simp
theorem run_box {ev : Operand → Value} {o : Oper} {w : World} (ho : o.op = .alloc 167) : (execOp ev o).run Tryz.prog w = .ok (.value (.pointer (some ⟨w.heap.size, 0, none⟩))) (w.alloc (.cells #[.int .i64 0, .int .i64 0, .int .i64 0, .int .i64 0, .int .i64 0] 167)) := by
  unfold execOp; rw [ho]; go_simp
theorem run_put {ev : Operand → Value} {o : Oper} {w : World} {x y : Operand} {g k : Nat} {t s : It} (ho : o.op = .store 167 x y) (hx : ev x = .pointer (some ⟨g, k, none⟩)) (hy : ev y = t.v) (hc : C5 w g k s) (hf : ∀ o, w.frozen? ⟨g, o, none⟩ = false) : (execOp ev o).run Tryz.prog w = .ok .skip (put5 w g k t) := by
  obtain ⟨h0, h1, h2, h3, h4⟩ := hc
  have f0 := hf k
  have f1 := hf (k + 1)
  have f2 := hf (k + 2)
  have f3 := hf (k + 3)
  have f4 := hf (k + 4)
  unfold put5
  unfold execOp; rw [ho]; simp only [hx, hy]; go_simp
set_option maxRecDepth 100000 in
set_option maxHeartbeats 2000000 in
theorem swap_is (b : Nat) (v : Value) (n : Int) (q : Bool) (l : List It) (i j : Nat) (s t : It) (w : World) (h : Hp w b v n q) (hv : Its w v l) (hi : l[i]? = some s) (hj : l[j]? = some t) :
    Calls Tryz.prog 128 #[ptr b, .int .i64 (i : Nat), .int .i64 (j : Nat)] w fun e w' => e = .returned (.tuple #[]) ∧ Its w' v ((l.set i t).set j s) ∧ Turns (fun k => v.ownBlock = some k) w w' := by
  have hil : i < l.length := (List.getElem?_eq_some_iff.1 hi).1
  have hjl : j < l.length := (List.getElem?_eq_some_iff.1 hj).1
  obtain ⟨g, cap, rfl, hc1, hc2, hgl⟩ := hv.form (by omega)
  obtain ⟨ci, fz⟩ := hv.at hi
  obtain ⟨cj, -⟩ := hv.at hj
  have hvd : Its w.drew (.slice (some ⟨g, 0, none⟩) l.length cap) l := hv
  have v1 := hvd.set hil t
  have c2 : ∃ u : It, C5 (put5 w.drew g (i * 5) t) g (j * 5) u := by
    have hj2 : (l.set i t)[j]? = some ((l.set i t)[j]'(by simpa using hjl)) := List.getElem?_eq_getElem _
    have v1' : Its (put5 w.drew g (i * 5) t) (.slice (some ⟨g, 0, none⟩) (l.set i t).length cap) (l.set i t) := by rw [List.length_set]; exact v1
    exact ⟨_, (v1'.at hj2).1⟩
  obtain ⟨u, c2⟩ := c2
  have fz2 : ∀ o, (put5 w.drew g (i * 5) t).frozen? ⟨g, o, none⟩ = false := by
    have hj2 : (l.set i t)[j]? = some ((l.set i t)[j]'(by simpa using hjl)) := List.getElem?_eq_getElem _
    have v1' : Its (put5 w.drew g (i * 5) t) (.slice (some ⟨g, 0, none⟩) (l.set i t).length cap) (l.set i t) := by rw [List.length_set]; exact v1
    exact (v1'.at hj2).2
  have v2 : Its (put5 (put5 w.drew g (i * 5) t) g (j * 5) s) (.slice (some ⟨g, 0, none⟩) l.length cap) ((l.set i t).set j s) := by
    have v1' : Its (put5 w.drew g (i * 5) t) (.slice (some ⟨g, 0, none⟩) (l.set i t).length cap) (l.set i t) := by rw [List.length_set]; exact v1
    have := v1'.set (j := j) (by simpa using hjl) s
    rwa [List.length_set] at this
  have T2 : Turns (fun k => Value.ownBlock (.slice (some ⟨g, 0, none⟩) l.length cap) = some k) w (put5 (put5 w.drew g (i * 5) t) g (j * 5) s) := by
    have a1 : Turns (fun k => Value.ownBlock (.slice (some ⟨g, 0, none⟩) l.length cap) = some k) w (put5 w.drew g (i * 5) t) := ((Turns.refl _ w).drew).trans ((put5_turns w.drew g (i * 5) t).mono (fun k _ e => .inl (by subst e; rfl)))
    exact a1.trans ((put5_turns _ g (j * 5) s).mono (fun k _ e => .inl (by subst e; rfl)))
  have HE := hide (And.intro v2 T2)
  have HS : (fun wx : World => wx.cell? ⟨b, 1, none⟩ = some (.slice (some ⟨g, 0, none⟩) l.length cap) ∧ C5 wx g (i * 5) s ∧ C5 wx g (j * 5) t) w.drew := ⟨h.c 1, ci, cj⟩
  clear v1 v2 T2 hvd
  go_enter Tryz.func128, Tryz.ntmps128
  go_wp2_with fail
  refine wp_region_z (fun wx : World => wx.cell? ⟨b, 1, none⟩ = some (.slice (some ⟨g, 0, none⟩) l.length cap) ∧ C5 wx g (i * 5) s ∧ C5 wx g (j * 5) t) [9, 25, 26, 27] (by kernel_rfl) ?_
  refine anyZ_copy 9 (v := .int .i64 (j : Nat)) rfl (by decide) (by kernel_rfl) (fun _ _ _ h => h) (Or.inl ⟨by rfl, fun wx hx => run_mv (by rfl) (by rfl)⟩) ?_
  try simp only [Act.put, List.getElem_toArray, List.getElem_cons_zero, List.getElem_cons_succ, List.setIfInBounds_toArray, List.set_cons_zero, List.set_cons_succ]
  refine anyZ_take 0 8 (v := ptr b) rfl (by kernel_rfl) (fun _ _ _ h => h) (Or.inl ⟨by rfl, fun wx hx => run_mv (by rfl) (by rfl)⟩) HS ?_
  try simp only [Act.put, List.getElem_toArray, List.getElem_cons_zero, List.getElem_cons_succ, List.setIfInBounds_toArray, List.set_cons_zero, List.set_cons_succ]
  refine anyZ_take 1 8 (v := ptr b) rfl (by kernel_rfl) (fun _ _ _ h => h) (Or.inl ⟨by rfl, fun wx hx => run_nc (by rfl) (by rfl)⟩) HS ?_
  try simp only [Act.put, List.getElem_toArray, List.getElem_cons_zero, List.getElem_cons_succ, List.setIfInBounds_toArray, List.set_cons_zero, List.set_cons_succ]
  refine anyZ_take 2 8 (v := .pointer (some ⟨b, 1, none⟩)) rfl (by kernel_rfl) (fun _ _ _ h => h) (Or.inl ⟨by rfl, fun wx hx => run_hf1 (by rfl) (by rfl)⟩) HS ?_
  try simp only [Act.put, List.getElem_toArray, List.getElem_cons_zero, List.getElem_cons_succ, List.setIfInBounds_toArray, List.set_cons_zero, List.set_cons_succ]
  refine anyZ_take 3 8 (v := .slice (some ⟨g, 0, none⟩) l.length cap) rfl (by kernel_rfl) (fun _ _ _ h => h) (Or.inl ⟨by rfl, fun wx hx => run_row (by rfl) (by rfl) hx.1⟩) HS ?_
  try simp only [Act.put, List.getElem_toArray, List.getElem_cons_zero, List.getElem_cons_succ, List.setIfInBounds_toArray, List.set_cons_zero, List.set_cons_succ]
  refine anyZ_take 4 8 (v := .int .i64 (i : Nat)) rfl (by kernel_rfl) (fun _ _ _ h => h) (Or.inl ⟨by rfl, fun wx hx => run_mv (by rfl) (by rfl)⟩) HS ?_
  try simp only [Act.put, List.getElem_toArray, List.getElem_cons_zero, List.getElem_cons_succ, List.setIfInBounds_toArray, List.set_cons_zero, List.set_cons_succ]
  refine anyZ_take 5 8 (v := ptr b) rfl (by kernel_rfl) (fun _ _ _ h => h) (Or.inl ⟨by rfl, fun wx hx => run_mv (by rfl) (by rfl)⟩) HS ?_
  try simp only [Act.put, List.getElem_toArray, List.getElem_cons_zero, List.getElem_cons_succ, List.setIfInBounds_toArray, List.set_cons_zero, List.set_cons_succ]
  refine anyZ_take 6 8 (v := ptr b) rfl (by kernel_rfl) (fun _ _ _ h => h) (Or.inl ⟨by rfl, fun wx hx => run_nc (by rfl) (by rfl)⟩) HS ?_
  try simp only [Act.put, List.getElem_toArray, List.getElem_cons_zero, List.getElem_cons_succ, List.setIfInBounds_toArray, List.set_cons_zero, List.set_cons_succ]
  refine anyZ_take 7 8 (v := .pointer (some ⟨b, 1, none⟩)) rfl (by kernel_rfl) (fun _ _ _ h => h) (Or.inl ⟨by rfl, fun wx hx => run_hf1 (by rfl) (by rfl)⟩) HS ?_
  try simp only [Act.put, List.getElem_toArray, List.getElem_cons_zero, List.getElem_cons_succ, List.setIfInBounds_toArray, List.set_cons_zero, List.set_cons_succ]
  refine anyZ_take 8 8 (v := .slice (some ⟨g, 0, none⟩) l.length cap) rfl (by kernel_rfl) (fun _ _ _ h => h) (Or.inl ⟨by rfl, fun wx hx => run_row (by rfl) (by rfl) hx.1⟩) HS ?_
  try simp only [Act.put, List.getElem_toArray, List.getElem_cons_zero, List.getElem_cons_succ, List.setIfInBounds_toArray, List.set_cons_zero, List.set_cons_succ]
  refine anyZ_take 10 8 (v := ptr b) rfl (by kernel_rfl) (fun _ _ _ h => h) (Or.inl ⟨by rfl, fun wx hx => run_mv (by rfl) (by rfl)⟩) HS ?_
  try simp only [Act.put, List.getElem_toArray, List.getElem_cons_zero, List.getElem_cons_succ, List.setIfInBounds_toArray, List.set_cons_zero, List.set_cons_succ]
  refine anyZ_take 11 8 (v := ptr b) rfl (by kernel_rfl) (fun _ _ _ h => h) (Or.inl ⟨by rfl, fun wx hx => run_nc (by rfl) (by rfl)⟩) HS ?_
  try simp only [Act.put, List.getElem_toArray, List.getElem_cons_zero, List.getElem_cons_succ, List.setIfInBounds_toArray, List.set_cons_zero, List.set_cons_succ]
  refine anyZ_take 12 8 (v := .pointer (some ⟨b, 1, none⟩)) rfl (by kernel_rfl) (fun _ _ _ h => h) (Or.inl ⟨by rfl, fun wx hx => run_hf1 (by rfl) (by rfl)⟩) HS ?_
  try simp only [Act.put, List.getElem_toArray, List.getElem_cons_zero, List.getElem_cons_succ, List.setIfInBounds_toArray, List.set_cons_zero, List.set_cons_succ]
  refine anyZ_take 13 8 (v := .slice (some ⟨g, 0, none⟩) l.length cap) rfl (by kernel_rfl) (fun _ _ _ h => h) (Or.inl ⟨by rfl, fun wx hx => run_row (by rfl) (by rfl) hx.1⟩) HS ?_
  try simp only [Act.put, List.getElem_toArray, List.getElem_cons_zero, List.getElem_cons_succ, List.setIfInBounds_toArray, List.set_cons_zero, List.set_cons_succ]
  refine anyZ_take 14 8 (v := .int .i64 (j : Nat)) rfl (by kernel_rfl) (fun _ _ _ h => h) (Or.inl ⟨by rfl, fun wx hx => run_mv (by rfl) (by rfl)⟩) HS ?_
  try simp only [Act.put, List.getElem_toArray, List.getElem_cons_zero, List.getElem_cons_succ, List.setIfInBounds_toArray, List.set_cons_zero, List.set_cons_succ]
  refine anyZ_take 15 8 (v := .pointer (some ⟨g, j * 5, none⟩)) rfl (by kernel_rfl) (fun _ _ _ h => h) (Or.inl ⟨by rfl, fun wx hx => run_iat (by rfl) (by rfl) (by rfl) hjl⟩) HS ?_
  try simp only [Act.put, List.getElem_toArray, List.getElem_cons_zero, List.getElem_cons_succ, List.setIfInBounds_toArray, List.set_cons_zero, List.set_cons_succ]
  refine anyZ_take 16 8 (v := t.v) rfl (by kernel_rfl) (fun _ _ _ h => h) (Or.inl ⟨by rfl, fun wx hx => run_item (by rfl) (by rfl) hx.2.2⟩) HS ?_
  try simp only [Act.put, List.getElem_toArray, List.getElem_cons_zero, List.getElem_cons_succ, List.setIfInBounds_toArray, List.set_cons_zero, List.set_cons_succ]
  refine anyZ_take 17 8 (v := ptr b) rfl (by kernel_rfl) (fun _ _ _ h => h) (Or.inl ⟨by rfl, fun wx hx => run_mv (by rfl) (by rfl)⟩) HS ?_
  try simp only [Act.put, List.getElem_toArray, List.getElem_cons_zero, List.getElem_cons_succ, List.setIfInBounds_toArray, List.set_cons_zero, List.set_cons_succ]
  refine anyZ_take 18 8 (v := ptr b) rfl (by kernel_rfl) (fun _ _ _ h => h) (Or.inl ⟨by rfl, fun wx hx => run_nc (by rfl) (by rfl)⟩) HS ?_
  try simp only [Act.put, List.getElem_toArray, List.getElem_cons_zero, List.getElem_cons_succ, List.setIfInBounds_toArray, List.set_cons_zero, List.set_cons_succ]
  refine anyZ_take 19 8 (v := .pointer (some ⟨b, 1, none⟩)) rfl (by kernel_rfl) (fun _ _ _ h => h) (Or.inl ⟨by rfl, fun wx hx => run_hf1 (by rfl) (by rfl)⟩) HS ?_
  try simp only [Act.put, List.getElem_toArray, List.getElem_cons_zero, List.getElem_cons_succ, List.setIfInBounds_toArray, List.set_cons_zero, List.set_cons_succ]
  refine anyZ_take 20 8 (v := .slice (some ⟨g, 0, none⟩) l.length cap) rfl (by kernel_rfl) (fun _ _ _ h => h) (Or.inl ⟨by rfl, fun wx hx => run_row (by rfl) (by rfl) hx.1⟩) HS ?_
  try simp only [Act.put, List.getElem_toArray, List.getElem_cons_zero, List.getElem_cons_succ, List.setIfInBounds_toArray, List.set_cons_zero, List.set_cons_succ]
  refine anyZ_take 21 8 (v := .int .i64 (i : Nat)) rfl (by kernel_rfl) (fun _ _ _ h => h) (Or.inl ⟨by rfl, fun wx hx => run_mv (by rfl) (by rfl)⟩) HS ?_
  try simp only [Act.put, List.getElem_toArray, List.getElem_cons_zero, List.getElem_cons_succ, List.setIfInBounds_toArray, List.set_cons_zero, List.set_cons_succ]
  refine anyZ_take 22 8 (v := .pointer (some ⟨g, i * 5, none⟩)) rfl (by kernel_rfl) (fun _ _ _ h => h) (Or.inl ⟨by rfl, fun wx hx => run_iat (by rfl) (by rfl) (by rfl) hil⟩) HS ?_
  try simp only [Act.put, List.getElem_toArray, List.getElem_cons_zero, List.getElem_cons_succ, List.setIfInBounds_toArray, List.set_cons_zero, List.set_cons_succ]
  refine anyZ_take 23 8 (v := s.v) rfl (by kernel_rfl) (fun _ _ _ h => h) (Or.inl ⟨by rfl, fun wx hx => run_item (by rfl) (by rfl) hx.2.1⟩) HS ?_
  try simp only [Act.put, List.getElem_toArray, List.getElem_cons_zero, List.getElem_cons_succ, List.setIfInBounds_toArray, List.set_cons_zero, List.set_cons_succ]
  refine anyZ_take 24 8 (v := .pointer (some ⟨g, i * 5, none⟩)) rfl (by kernel_rfl) (fun _ _ _ h => h) (Or.inl ⟨by rfl, fun wx hx => run_iat (by rfl) (by rfl) (by rfl) hil⟩) HS ?_
  try simp only [Act.put, List.getElem_toArray, List.getElem_cons_zero, List.getElem_cons_succ, List.setIfInBounds_toArray, List.set_cons_zero, List.set_cons_succ]
  refine anyZ_ready (rs := [25]) (by kernel_rfl) (by simp) ?_
  refine readyZ.skip rfl rfl (run_put (by rfl) (by rfl) (by rfl) ci fz) (fun h => absurd (by decide) h) ?_ readyZ.nil
  try simp only [Act.put, List.getElem_toArray, List.getElem_cons_zero, List.getElem_cons_succ, List.setIfInBounds_toArray, List.set_cons_zero, List.set_cons_succ]
  refine anyZ_ready (rs := [26]) (by kernel_rfl) (by simp) ?_
  refine readyZ.cons rfl rfl (run_iat (k := j) (by rfl) (by rfl) (by rfl) hjl) (fun h => absurd (by decide) h) ?_ readyZ.nil
  try simp only [Act.put, List.getElem_toArray, List.getElem_cons_zero, List.getElem_cons_succ, List.setIfInBounds_toArray, List.set_cons_zero, List.set_cons_succ]
  refine anyZ_ready (rs := [27]) (by kernel_rfl) (by simp) ?_
  refine readyZ.skip rfl rfl (run_put (by rfl) (by rfl) (by rfl) c2 fz2) (fun h => absurd (by decide) h) ?_ readyZ.nil
  try simp only [Act.put, List.getElem_toArray, List.getElem_cons_zero, List.getElem_cons_succ, List.setIfInBounds_toArray, List.set_cons_zero, List.set_cons_succ]
  refine anyZ_done (by kernel_rfl) ?_ _
  go_wp2_with fail
  go_end0
  exact ⟨rfl, HE.out⟩
end Go.Proofs.YtggaobcdogbjhaaGreatDoor
namespace Go.Proofs.YtggaobcdogbjhaaGreatDoor
open Go.RowKit
set_option linter.unusedVariables false
set_option linter.unusedSimpArgs false
/-- A box with one item. -/
def Bx (w : World) (x : Nat) (t : It) : Prop := w.heap[x]? = some (.cells #[.int .i64 t.x, .int .i64 t.y, .int .i64 t.c, .int .i64 t.f, .int .i64 t.p] 167 (0, 0))
theorem Bx.upto {w w' : World} {x : Nat} {t : It} (h : Bx w x t) (hb : Below w.heap.size w w') : Bx w' x t := (hb.block x (Array.getElem?_eq_some_iff.1 h).1).trans h
theorem Bx.c5 {w : World} {x : Nat} {t : It} (h : Bx w x t) : C5 w x 0 t := ⟨cell_of_row w x 0 _ _ _ h, cell_of_row w x 1 _ _ _ h, cell_of_row w x 2 _ _ _ h, cell_of_row w x 3 _ _ _ h, cell_of_row w x 4 _ _ _ h⟩
theorem Bx.thaw {w : World} {x : Nat} {t : It} (h : Bx w x t) (o : Nat) : w.frozen? ⟨x, o, none⟩ = false := by
  have h' : w.heap[x]? = _ := h
  simp [World.frozen?, h']
theorem Bx.put {w : World} {x : Nat} {s t : It} (h : Bx w x s) : Bx (put5 w x 0 t) x t := by
  have h' : w.heap[x]? = _ := h
  have hlt := (Array.getElem?_eq_some_iff.1 h').1
  unfold Bx put5
  simp [World.setCell, Array.getElem?_modify, h']
theorem Bx.turned {S : Nat → Prop} {w w' : World} {x : Nat} {t : It} (h : Bx w x t) (ht : Turns S w w') (hs : ¬ S x) : Bx w' x t := ht.same hs h
def zit : It := ⟨0, 0, 0, 0, 0⟩
theorem mkU (T : Array Value) (D : List Deferred) (F : (Nat → Value) → Act) (h : ({ tmps := T, defers := D } : Act) = F (fun n => T.getD n undef)) : ∃ u : Nat → Value, ({ tmps := T, defers := D } : Act) = F u := ⟨_, h⟩
set_option maxRecDepth 100000 in
set_option maxHeartbeats 2000000 in
theorem before_is (b : Nat) (v : Value) (n : Int) (l : List It) (i j : Nat) (s t : It) (w : World) (h : Hp w b v n false) (hv : Its w v l) (hi : l[i]? = some s) (hj : l[j]? = some t) :
    Calls Tryz.prog 127 #[ptr b, .int .i64 (i : Nat), .int .i64 (j : Nat)] w fun e w' => e = .returned (.bool (lt s t)) ∧ Below w.heap.size w w' := by
  have hil : i < l.length := (List.getElem?_eq_some_iff.1 hi).1
  have hjl : j < l.length := (List.getElem?_eq_some_iff.1 hj).1
  obtain ⟨g, cap, rfl, hc1, hc2, hgl⟩ := hv.form (by omega)
  obtain ⟨ci, fz⟩ := hv.at hi
  obtain ⟨cj, -⟩ := hv.at hj
  have hbl := h.lt
  have hS : ∀ wx, Below w.heap.size w wx → (fun wx : World => wx.cell? ⟨b, 1, none⟩ = some (.slice (some ⟨g, 0, none⟩) l.length cap) ∧ C5 wx g (i * 5) s ∧ C5 wx g (j * 5) t) wx := fun wx hx => ⟨(h.upto hx).c 1, ci.upto hx, cj.upto hx⟩
  have HS := hide hS
  have HH := hide h
  have HB0 : Hid (Below w.heap.size w w.drew) := hide (Below.refl _ _).drew
  clear hS h hv
  go_enter Tryz.func127, Tryz.ntmps127
  go_wp2_with fail
  refine Code.wp_mono (Q := Only (fun a' Y => ∃ p7 p8 : Nat, (Bx Y p7 s ∧ Bx Y p8 t) ∧ Below w.heap.size w Y ∧ ∃ u : Nat → Value, a' = { tmps := #[ptr b, .int .i64 (i : Nat), .int .i64 (j : Nat), undef, undef, undef, .bool false, ptr p7, ptr p8, u 9, u 10, u 11, u 12, u 13, u 14, u 15, u 16, u 17, u 18, u 19, u 20, u 21, u 22, undef, undef, undef, undef, undef, undef, undef, undef, undef, undef, undef, undef, undef, undef, undef, undef, undef, undef], defers := [] })) ?rest ?_
  case rest =>
    rintro (_ | _ | _ | _ | _) a' Y hO
    all_goals first | exact hO.elim | skip
    obtain ⟨p7, p8, ⟨bs, bt'⟩, hB, u, rfl⟩ := hO
    have cs := bs.c5
    have ct := bt'.c5
    simp only [C5, Nat.zero_add] at cs ct
    obtain ⟨s0, s1, s2, s3, s4⟩ := cs
    obtain ⟨t0, t1, t2, t3, t4⟩ := ct
    have hY := HH.out.upto hB
    have HB := hide hB
    by_cases hp : s.p < t.p
    · have hp1 : decide (s.p < t.p) = true := by simpa using hp
      have HA := hide (ahead_is b _ n t.x t.y t.c t.f s.x s.y s.c s.f Y hY)
      clear hB hY
      go_wp2_with fail
      refine HA.out.mono ?_
      rintro e Y2 ⟨rfl, hb2⟩
      have HB2 := hide (bt HB.out hb2)
      clear hb2
      go_wp2_with fail
      go_ret
      exact ⟨ret_bool (by rw [lt, if_pos hp]), HB2.out⟩
    · have hp1 : decide (s.p < t.p) = false := by simpa using hp
      have HA := hide (ahead_is b _ n s.x s.y s.c s.f t.x t.y t.c t.f Y hY)
      clear hB hY
      go_wp2_with fail
      refine HA.out.mono ?_
      rintro e Y2 ⟨rfl, hb2⟩
      have HB2 := hide (bt HB.out hb2)
      clear hb2
      go_wp2_with fail
      go_ret
      exact ⟨ret_bool (by rw [lt, if_neg (by omega)]), HB2.out⟩
  refine wp_region_z (fun wx : World => wx.cell? ⟨b, 1, none⟩ = some (.slice (some ⟨g, 0, none⟩) l.length cap) ∧ C5 wx g (i * 5) s ∧ C5 wx g (j * 5) t) [17] (by kernel_rfl) ?_
  refine anyZ_take 0 8 (v := ptr b) rfl (by kernel_rfl) (fun _ _ _ h => h.elim) (Or.inl ⟨by rfl, fun wx hx => run_mv (by rfl) (by rfl)⟩) (HS.out _ HB0.out) ?_
  try simp only [Act.put, List.getElem_toArray, List.getElem_cons_zero, List.getElem_cons_succ, List.setIfInBounds_toArray, List.set_cons_zero, List.set_cons_succ]
  refine anyZ_take 1 8 (v := ptr b) rfl (by kernel_rfl) (fun _ _ _ h => h.elim) (Or.inl ⟨by rfl, fun wx hx => run_nc (by rfl) (by rfl)⟩) (HS.out _ HB0.out) ?_
  try simp only [Act.put, List.getElem_toArray, List.getElem_cons_zero, List.getElem_cons_succ, List.setIfInBounds_toArray, List.set_cons_zero, List.set_cons_succ]
  refine anyZ_take 2 8 (v := .pointer (some ⟨b, 1, none⟩)) rfl (by kernel_rfl) (fun _ _ _ h => h.elim) (Or.inl ⟨by rfl, fun wx hx => run_hf1 (by rfl) (by rfl)⟩) (HS.out _ HB0.out) ?_
  try simp only [Act.put, List.getElem_toArray, List.getElem_cons_zero, List.getElem_cons_succ, List.setIfInBounds_toArray, List.set_cons_zero, List.set_cons_succ]
  refine anyZ_take 3 8 (v := .slice (some ⟨g, 0, none⟩) l.length cap) rfl (by kernel_rfl) (fun _ _ _ h => h.elim) (Or.inl ⟨by rfl, fun wx hx => run_row (by rfl) (by rfl) hx.1⟩) (HS.out _ HB0.out) ?_
  try simp only [Act.put, List.getElem_toArray, List.getElem_cons_zero, List.getElem_cons_succ, List.setIfInBounds_toArray, List.set_cons_zero, List.set_cons_succ]
  refine anyZ_take 4 8 (v := .int .i64 (i : Nat)) rfl (by kernel_rfl) (fun _ _ _ h => h.elim) (Or.inl ⟨by rfl, fun wx hx => run_mv (by rfl) (by rfl)⟩) (HS.out _ HB0.out) ?_
  try simp only [Act.put, List.getElem_toArray, List.getElem_cons_zero, List.getElem_cons_succ, List.setIfInBounds_toArray, List.set_cons_zero, List.set_cons_succ]
  refine anyZ_take 5 8 (v := .pointer (some ⟨g, i * 5, none⟩)) rfl (by kernel_rfl) (fun _ _ _ h => h.elim) (Or.inl ⟨by rfl, fun wx hx => run_iat (by rfl) (by rfl) (by rfl) hil⟩) (HS.out _ HB0.out) ?_
  try simp only [Act.put, List.getElem_toArray, List.getElem_cons_zero, List.getElem_cons_succ, List.setIfInBounds_toArray, List.set_cons_zero, List.set_cons_succ]
  refine anyZ_take 6 8 (v := s.v) rfl (by kernel_rfl) (fun _ _ _ h => h.elim) (Or.inl ⟨by rfl, fun wx hx => run_item (by rfl) (by rfl) hx.2.1⟩) (HS.out _ HB0.out) ?_
  try simp only [Act.put, List.getElem_toArray, List.getElem_cons_zero, List.getElem_cons_succ, List.setIfInBounds_toArray, List.set_cons_zero, List.set_cons_succ]
  refine anyZ_take 7 8 (v := ptr b) rfl (by kernel_rfl) (fun _ _ _ h => h.elim) (Or.inl ⟨by rfl, fun wx hx => run_mv (by rfl) (by rfl)⟩) (HS.out _ HB0.out) ?_
  try simp only [Act.put, List.getElem_toArray, List.getElem_cons_zero, List.getElem_cons_succ, List.setIfInBounds_toArray, List.set_cons_zero, List.set_cons_succ]
  refine anyZ_take 8 8 (v := ptr b) rfl (by kernel_rfl) (fun _ _ _ h => h.elim) (Or.inl ⟨by rfl, fun wx hx => run_nc (by rfl) (by rfl)⟩) (HS.out _ HB0.out) ?_
  try simp only [Act.put, List.getElem_toArray, List.getElem_cons_zero, List.getElem_cons_succ, List.setIfInBounds_toArray, List.set_cons_zero, List.set_cons_succ]
  refine anyZ_take 9 8 (v := .pointer (some ⟨b, 1, none⟩)) rfl (by kernel_rfl) (fun _ _ _ h => h.elim) (Or.inl ⟨by rfl, fun wx hx => run_hf1 (by rfl) (by rfl)⟩) (HS.out _ HB0.out) ?_
  try simp only [Act.put, List.getElem_toArray, List.getElem_cons_zero, List.getElem_cons_succ, List.setIfInBounds_toArray, List.set_cons_zero, List.set_cons_succ]
  refine anyZ_take 10 8 (v := .slice (some ⟨g, 0, none⟩) l.length cap) rfl (by kernel_rfl) (fun _ _ _ h => h.elim) (Or.inl ⟨by rfl, fun wx hx => run_row (by rfl) (by rfl) hx.1⟩) (HS.out _ HB0.out) ?_
  try simp only [Act.put, List.getElem_toArray, List.getElem_cons_zero, List.getElem_cons_succ, List.setIfInBounds_toArray, List.set_cons_zero, List.set_cons_succ]
  refine anyZ_take 11 8 (v := .int .i64 (j : Nat)) rfl (by kernel_rfl) (fun _ _ _ h => h.elim) (Or.inl ⟨by rfl, fun wx hx => run_mv (by rfl) (by rfl)⟩) (HS.out _ HB0.out) ?_
  try simp only [Act.put, List.getElem_toArray, List.getElem_cons_zero, List.getElem_cons_succ, List.setIfInBounds_toArray, List.set_cons_zero, List.set_cons_succ]
  refine anyZ_take 12 8 (v := .pointer (some ⟨g, j * 5, none⟩)) rfl (by kernel_rfl) (fun _ _ _ h => h.elim) (Or.inl ⟨by rfl, fun wx hx => run_iat (by rfl) (by rfl) (by rfl) hjl⟩) (HS.out _ HB0.out) ?_
  try simp only [Act.put, List.getElem_toArray, List.getElem_cons_zero, List.getElem_cons_succ, List.setIfInBounds_toArray, List.set_cons_zero, List.set_cons_succ]
  refine anyZ_take 13 8 (v := t.v) rfl (by kernel_rfl) (fun _ _ _ h => h.elim) (Or.inl ⟨by rfl, fun wx hx => run_item (by rfl) (by rfl) hx.2.2⟩) (HS.out _ HB0.out) ?_
  try simp only [Act.put, List.getElem_toArray, List.getElem_cons_zero, List.getElem_cons_succ, List.setIfInBounds_toArray, List.set_cons_zero, List.set_cons_succ]
  have b14 : Below w.heap.size w (w.drew.alloc (.cells #[.int .i64 0, .int .i64 0, .int .i64 0, .int .i64 0, .int .i64 0] 167)) := bt HB0.out (box1 _ _)
  have x14 : Bx (w.drew.alloc (.cells #[.int .i64 0, .int .i64 0, .int .i64 0, .int .i64 0, .int .i64 0] 167)) w.drew.heap.size zit := heap_alloc_new _ _
  have b145 : Below w.heap.size w ((w.drew.alloc (.cells #[.int .i64 0, .int .i64 0, .int .i64 0, .int .i64 0, .int .i64 0] 167)).alloc (.cells #[.int .i64 0, .int .i64 0, .int .i64 0, .int .i64 0, .int .i64 0] 167)) := bt b14 (box1 _ _)
  have x145 : Bx ((w.drew.alloc (.cells #[.int .i64 0, .int .i64 0, .int .i64 0, .int .i64 0, .int .i64 0] 167)).alloc (.cells #[.int .i64 0, .int .i64 0, .int .i64 0, .int .i64 0, .int .i64 0] 167)) (w.drew.alloc (.cells #[.int .i64 0, .int .i64 0, .int .i64 0, .int .i64 0, .int .i64 0] 167)).heap.size zit := heap_alloc_new _ _
  have x14' := x14.upto (box1 (w.drew.alloc (.cells #[.int .i64 0, .int .i64 0, .int .i64 0, .int .i64 0, .int .i64 0] 167)) (.cells #[.int .i64 0, .int .i64 0, .int .i64 0, .int .i64 0, .int .i64 0] 167))
  have hne : (w.drew.alloc (.cells #[.int .i64 0, .int .i64 0, .int .i64 0, .int .i64 0, .int .i64 0] 167)).heap.size = w.heap.size + 1 := by simp
  have hne0 : w.drew.heap.size = w.heap.size := rfl
  refine anyZ_ready (rs := [14, 15]) (by kernel_rfl) (by simp) ?_
  refine readyZ.cons rfl rfl (run_box (by rfl)) (fun _ => HS.out _ b14) ?_ ?_
  · try simp only [Act.put, List.getElem_toArray, List.getElem_cons_zero, List.getElem_cons_succ, List.setIfInBounds_toArray, List.set_cons_zero, List.set_cons_succ]
    refine anyZ_ready (rs := [15]) (by kernel_rfl) (by simp) ?_
    refine readyZ.cons rfl rfl (run_box (by rfl)) (fun _ => HS.out _ b145) ?_ readyZ.nil
    try simp only [Act.put, List.getElem_toArray, List.getElem_cons_zero, List.getElem_cons_succ, List.setIfInBounds_toArray, List.set_cons_zero, List.set_cons_succ]
    have T6 := put5_turns ((w.drew.alloc (.cells #[.int .i64 0, .int .i64 0, .int .i64 0, .int .i64 0, .int .i64 0] 167)).alloc (.cells #[.int .i64 0, .int .i64 0, .int .i64 0, .int .i64 0, .int .i64 0] 167)) w.drew.heap.size 0 s
    have y7 : Bx (put5 ((w.drew.alloc (.cells #[.int .i64 0, .int .i64 0, .int .i64 0, .int .i64 0, .int .i64 0] 167)).alloc (.cells #[.int .i64 0, .int .i64 0, .int .i64 0, .int .i64 0, .int .i64 0] 167)) w.drew.heap.size 0 s) w.drew.heap.size s := x14'.put
    have y8 := x145.turned T6 (by omega)
    have B6 : Below w.heap.size w (put5 ((w.drew.alloc (.cells #[.int .i64 0, .int .i64 0, .int .i64 0, .int .i64 0, .int .i64 0] 167)).alloc (.cells #[.int .i64 0, .int .i64 0, .int .i64 0, .int .i64 0, .int .i64 0] 167)) w.drew.heap.size 0 s) := b145.trans (T6.below (fun k e => by omega) b145.size)
    have T7 := put5_turns (put5 ((w.drew.alloc (.cells #[.int .i64 0, .int .i64 0, .int .i64 0, .int .i64 0, .int .i64 0] 167)).alloc (.cells #[.int .i64 0, .int .i64 0, .int .i64 0, .int .i64 0, .int .i64 0] 167)) w.drew.heap.size 0 s) (w.drew.alloc (.cells #[.int .i64 0, .int .i64 0, .int .i64 0, .int .i64 0, .int .i64 0] 167)).heap.size 0 t
    have z8 : Bx (put5 (put5 ((w.drew.alloc (.cells #[.int .i64 0, .int .i64 0, .int .i64 0, .int .i64 0, .int .i64 0] 167)).alloc (.cells #[.int .i64 0, .int .i64 0, .int .i64 0, .int .i64 0, .int .i64 0] 167)) w.drew.heap.size 0 s) (w.drew.alloc (.cells #[.int .i64 0, .int .i64 0, .int .i64 0, .int .i64 0, .int .i64 0] 167)).heap.size 0 t) (w.drew.alloc (.cells #[.int .i64 0, .int .i64 0, .int .i64 0, .int .i64 0, .int .i64 0] 167)).heap.size t := y8.put
    have z7 := y7.turned T7 (by omega)
    have B7 : Below w.heap.size w (put5 (put5 ((w.drew.alloc (.cells #[.int .i64 0, .int .i64 0, .int .i64 0, .int .i64 0, .int .i64 0] 167)).alloc (.cells #[.int .i64 0, .int .i64 0, .int .i64 0, .int .i64 0, .int .i64 0] 167)) w.drew.heap.size 0 s) (w.drew.alloc (.cells #[.int .i64 0, .int .i64 0, .int .i64 0, .int .i64 0, .int .i64 0] 167)).heap.size 0 t) := B6.trans (T7.below (fun k e => by omega) B6.size)
    refine anyZ_ready (rs := [16]) (by kernel_rfl) (by simp) ?_
    refine readyZ.skip rfl rfl (run_put (by rfl) (by rfl) (by rfl) x14'.c5 x14'.thaw) (fun _ => HS.out _ B6) ?_ readyZ.nil
    try simp only [Act.put, List.getElem_toArray, List.getElem_cons_zero, List.getElem_cons_succ, List.setIfInBounds_toArray, List.set_cons_zero, List.set_cons_succ]
    refine anyZ_ready (rs := [17]) (by kernel_rfl) (by simp) ?_
    refine readyZ.skip rfl rfl (run_put (by rfl) (by rfl) (by rfl) y8.c5 y8.thaw) (fun h => absurd (by decide) h) ?_ readyZ.nil
    try simp only [Act.put, List.getElem_toArray, List.getElem_cons_zero, List.getElem_cons_succ, List.setIfInBounds_toArray, List.set_cons_zero, List.set_cons_succ]
    exact anyZ_done (by kernel_rfl) ⟨_, _, ⟨z7, z8⟩, B7, mkU _ _ _ rfl⟩ _
  · refine readyZ.cons rfl rfl (run_box (by rfl)) (fun _ => HS.out _ b14) ?_ readyZ.nil
    try simp only [Act.put, List.getElem_toArray, List.getElem_cons_zero, List.getElem_cons_succ, List.setIfInBounds_toArray, List.set_cons_zero, List.set_cons_succ]
    refine anyZ_ready (rs := [14]) (by kernel_rfl) (by simp) ?_
    refine readyZ.cons rfl rfl (run_box (by rfl)) (fun _ => HS.out _ b145) ?_ readyZ.nil
    try simp only [Act.put, List.getElem_toArray, List.getElem_cons_zero, List.getElem_cons_succ, List.setIfInBounds_toArray, List.set_cons_zero, List.set_cons_succ]
    have T6 := put5_turns ((w.drew.alloc (.cells #[.int .i64 0, .int .i64 0, .int .i64 0, .int .i64 0, .int .i64 0] 167)).alloc (.cells #[.int .i64 0, .int .i64 0, .int .i64 0, .int .i64 0, .int .i64 0] 167)) (w.drew.alloc (.cells #[.int .i64 0, .int .i64 0, .int .i64 0, .int .i64 0, .int .i64 0] 167)).heap.size 0 s
    have y7 : Bx (put5 ((w.drew.alloc (.cells #[.int .i64 0, .int .i64 0, .int .i64 0, .int .i64 0, .int .i64 0] 167)).alloc (.cells #[.int .i64 0, .int .i64 0, .int .i64 0, .int .i64 0, .int .i64 0] 167)) (w.drew.alloc (.cells #[.int .i64 0, .int .i64 0, .int .i64 0, .int .i64 0, .int .i64 0] 167)).heap.size 0 s) (w.drew.alloc (.cells #[.int .i64 0, .int .i64 0, .int .i64 0, .int .i64 0, .int .i64 0] 167)).heap.size s := x145.put
    have y8 := x14'.turned T6 (by omega)
    have B6 : Below w.heap.size w (put5 ((w.drew.alloc (.cells #[.int .i64 0, .int .i64 0, .int .i64 0, .int .i64 0, .int .i64 0] 167)).alloc (.cells #[.int .i64 0, .int .i64 0, .int .i64 0, .int .i64 0, .int .i64 0] 167)) (w.drew.alloc (.cells #[.int .i64 0, .int .i64 0, .int .i64 0, .int .i64 0, .int .i64 0] 167)).heap.size 0 s) := b145.trans (T6.below (fun k e => by omega) b145.size)
    have T7 := put5_turns (put5 ((w.drew.alloc (.cells #[.int .i64 0, .int .i64 0, .int .i64 0, .int .i64 0, .int .i64 0] 167)).alloc (.cells #[.int .i64 0, .int .i64 0, .int .i64 0, .int .i64 0, .int .i64 0] 167)) (w.drew.alloc (.cells #[.int .i64 0, .int .i64 0, .int .i64 0, .int .i64 0, .int .i64 0] 167)).heap.size 0 s) w.drew.heap.size 0 t
    have z8 : Bx (put5 (put5 ((w.drew.alloc (.cells #[.int .i64 0, .int .i64 0, .int .i64 0, .int .i64 0, .int .i64 0] 167)).alloc (.cells #[.int .i64 0, .int .i64 0, .int .i64 0, .int .i64 0, .int .i64 0] 167)) (w.drew.alloc (.cells #[.int .i64 0, .int .i64 0, .int .i64 0, .int .i64 0, .int .i64 0] 167)).heap.size 0 s) w.drew.heap.size 0 t) w.drew.heap.size t := y8.put
    have z7 := y7.turned T7 (by omega)
    have B7 : Below w.heap.size w (put5 (put5 ((w.drew.alloc (.cells #[.int .i64 0, .int .i64 0, .int .i64 0, .int .i64 0, .int .i64 0] 167)).alloc (.cells #[.int .i64 0, .int .i64 0, .int .i64 0, .int .i64 0, .int .i64 0] 167)) (w.drew.alloc (.cells #[.int .i64 0, .int .i64 0, .int .i64 0, .int .i64 0, .int .i64 0] 167)).heap.size 0 s) w.drew.heap.size 0 t) := B6.trans (T7.below (fun k e => by omega) B6.size)
    refine anyZ_ready (rs := [16]) (by kernel_rfl) (by simp) ?_
    refine readyZ.skip rfl rfl (run_put (by rfl) (by rfl) (by rfl) x145.c5 x145.thaw) (fun _ => HS.out _ B6) ?_ readyZ.nil
    try simp only [Act.put, List.getElem_toArray, List.getElem_cons_zero, List.getElem_cons_succ, List.setIfInBounds_toArray, List.set_cons_zero, List.set_cons_succ]
    refine anyZ_ready (rs := [17]) (by kernel_rfl) (by simp) ?_
    refine readyZ.skip rfl rfl (run_put (by rfl) (by rfl) (by rfl) y8.c5 y8.thaw) (fun h => absurd (by decide) h) ?_ readyZ.nil
    try simp only [Act.put, List.getElem_toArray, List.getElem_cons_zero, List.getElem_cons_succ, List.setIfInBounds_toArray, List.set_cons_zero, List.set_cons_succ]
    exact anyZ_done (by kernel_rfl) ⟨_, _, ⟨z7, z8⟩, B7, mkU _ _ _ rfl⟩ _
end Go.Proofs.YtggaobcdogbjhaaGreatDoor
namespace Go.Proofs.YtggaobcdogbjhaaGreatDoor
open Go.RowKit
set_option linter.unusedVariables false
set_option linter.unusedSimpArgs false
theorem lt_not (a b : It) : lt a b = false ↔ (b.f < a.f ∨ b.f = a.f ∧ b.p ≤ a.p) := by
  rw [← Bool.not_eq_true, lt_iff]; omega
/-- Number i of a list. -/
def nth (l : List It) (i : Nat) : It := (l[i]?).getD ⟨0, 0, 0, 0, 0⟩
theorem nth_of {l : List It} {i : Nat} {t : It} (h : l[i]? = some t) : nth l i = t := by simp [nth, h]
theorem nth_get {l : List It} {i : Nat} (h : i < l.length) : l[i]? = some (nth l i) := by simp [nth, List.getElem?_eq_getElem h]
theorem nth_set {l : List It} {a i : Nat} {t : It} (ha : a < l.length) : nth (l.set a t) i = if i = a then t else nth l i := by
  unfold nth
  rw [List.getElem?_set]
  by_cases h : a = i
  · subst h; simp [ha]
  · rw [if_neg h, if_neg (fun e => h e.symm)]
/-- Two change places. -/
def swp (l : List It) (a b : Nat) : List It := (l.set a (nth l b)).set b (nth l a)
theorem swp_len (l : List It) (a b : Nat) : (swp l a b).length = l.length := by simp [swp]
theorem swp_nth {l : List It} {a b : Nat} (ha : a < l.length) (hb : b < l.length) (i : Nat) : nth (swp l a b) i = if i = b then nth l a else if i = a then nth l b else nth l i := by
  unfold swp
  rw [nth_set (by simpa using hb), nth_set ha]
theorem swp_perm {l : List It} {a b : Nat} (ha : a < l.length) (hb : b < l.length) : (swp l a b).Perm l := by
  have : ((l.set a l[b]).set b l[a]).Perm l := List.set_set_perm ha hb
  have e1 : nth l b = l[b] := by simp [nth, hb]
  have e2 : nth l a = l[a] := by simp [nth, ha]
  unfold swp
  rw [e1, e2]
  exact this
/-- No item is popped before the one above it. -/
def Heap (l : List It) : Prop := ∀ i, 0 < i → i < l.length → lt (nth l i) (nth l ((i - 1) / 2)) = false
/-- A heap but for place a, whose item may be too low. -/
def Low (l : List It) (a : Nat) : Prop := (∀ i, 0 < i → i < l.length → i ≠ a → lt (nth l i) (nth l ((i - 1) / 2)) = false) ∧ ∀ i, 0 < a → 0 < i → i < l.length → (i - 1) / 2 = a → lt (nth l i) (nth l ((a - 1) / 2)) = false
theorem Low.next {l : List It} {a : Nat} (h : Low l a) (ha0 : 0 < a) (ha : a < l.length) (hl : lt (nth l a) (nth l ((a - 1) / 2)) = true) : Low (swp l a ((a - 1) / 2)) ((a - 1) / 2) := by
  have hb : (a - 1) / 2 < l.length := by omega
  have hn := swp_nth ha hb
  rw [lt_iff] at hl
  refine ⟨fun i hi hil hne => ?_, fun i hp hi hil hpi => ?_⟩
  · rw [swp_len] at hil
    rw [hn, hn, if_neg hne]
    by_cases e1 : i = a
    · subst e1
      rw [if_pos rfl, if_pos rfl, lt_not]
      omega
    · rw [if_neg e1]
      by_cases e2 : (i - 1) / 2 = (a - 1) / 2
      · rw [if_pos e2]
        have := h.1 i hi hil e1
        rw [e2] at this
        rw [lt_not] at this ⊢
        omega
      · rw [if_neg e2]
        by_cases e3 : (i - 1) / 2 = a
        · rw [if_pos e3]
          exact h.2 i ha0 hi hil e3
        · rw [if_neg e3]
          exact h.1 i hi hil e1
  · rw [swp_len] at hil
    have e0 : ¬ i = (a - 1) / 2 := by omega
    have e4 : ¬ ((a - 1) / 2 - 1) / 2 = (a - 1) / 2 := by omega
    have e5 : ¬ ((a - 1) / 2 - 1) / 2 = a := by omega
    rw [hn, hn, if_neg e0, if_neg e4, if_neg e5]
    have q := h.1 ((a - 1) / 2) hp hb (by omega)
    by_cases e1 : i = a
    · rw [if_pos e1]
      exact q
    · rw [if_neg e1]
      have r := h.1 i hi hil e1
      rw [hpi] at r
      rw [lt_not] at q r ⊢
      omega
theorem Low.done {l : List It} {a : Nat} (h : Low l a) (he : a = 0 ∨ lt (nth l a) (nth l ((a - 1) / 2)) = false) : Heap l := fun i hi hil => by
  by_cases e : i = a
  · subst e
    rcases he with e | e
    · omega
    · exact e
  · exact h.1 i hi hil e
theorem Low.push {l : List It} (h : Heap l) (t : It) : Low (l ++ [t]) l.length := by
  have hn : ∀ i, i < l.length → nth (l ++ [t]) i = nth l i := fun i hi => by simp [nth, List.getElem?_append_left hi]
  refine ⟨fun i hi hil hne => ?_, fun i _ hi hil hp => ?_⟩
  · simp at hil
    rw [hn i (by omega), hn _ (by omega)]
    exact h i hi (by omega)
  · simp at hil
    omega
/-- A heap but for place a, whose item may be too high. -/
def High (l : List It) (a : Nat) : Prop := (∀ i, 0 < i → i < l.length → (i - 1) / 2 ≠ a → lt (nth l i) (nth l ((i - 1) / 2)) = false) ∧ ∀ i, 0 < a → 0 < i → i < l.length → (i - 1) / 2 = a → lt (nth l i) (nth l ((a - 1) / 2)) = false
theorem High.next {l : List It} {a c : Nat} (h : High l a) (hc : c < l.length) (hc0 : 0 < c) (hp : (c - 1) / 2 = a) (hl : lt (nth l c) (nth l a) = true) (hm : ∀ i, 0 < i → i < l.length → (i - 1) / 2 = a → lt (nth l i) (nth l c) = false) : High (swp l c a) c := by
  have ha : a < l.length := by omega
  have hn := swp_nth hc ha
  rw [lt_iff] at hl
  refine ⟨fun i hi hil hne => ?_, fun i hp' hi hil hpi => ?_⟩
  · rw [swp_len] at hil
    rw [hn, hn]
    by_cases e1 : i = a
    · have e2 : ¬ (i - 1) / 2 = a := by omega
      rw [if_pos e1, if_neg e2, if_neg hne]
      have := h.2 c (by omega) hc0 hc hp
      rw [← e1] at this
      exact this
    · rw [if_neg e1]
      by_cases e2 : i = c
      · subst e2
        rw [if_pos rfl, if_pos hp, lt_not]
        omega
      · rw [if_neg e2]
        by_cases e3 : (i - 1) / 2 = a
        · rw [if_pos e3]
          exact hm i hi hil e3
        · rw [if_neg e3, if_neg hne]
          exact h.1 i hi hil e3
  · rw [swp_len] at hil
    rw [hn, hn, if_neg (by omega), if_neg (by omega), if_pos hp]
    have := h.1 i hi hil (by omega)
    rw [hpi] at this
    exact this
theorem High.done {l : List It} {a : Nat} (h : High l a) (hm : ∀ i, 0 < i → i < l.length → (i - 1) / 2 = a → lt (nth l i) (nth l a) = false) : Heap l := fun i hi hil => by
  by_cases e : (i - 1) / 2 = a
  · rw [e]; exact hm i hi hil e
  · exact h.1 i hi hil e
/-- What Pop lays: the last one at the first place. -/
def pop (l : List It) : List It := (l.set 0 (nth l (l.length - 1))).take (l.length - 1)
theorem pop_len (l : List It) : (pop l).length = l.length - 1 := by simp [pop]
theorem pop_nth {l : List It} {i : Nat} (h0 : 0 < i) (hi : i < l.length - 1) : nth (pop l) i = nth l i := by
  unfold pop nth
  rw [List.getElem?_take, if_pos hi, List.getElem?_set, if_neg (by omega)]
theorem High.pop {l : List It} (h : Heap l) : High (pop l) 0 := by
  refine ⟨fun i hi hil hne => ?_, fun i h0 => by omega⟩
  rw [pop_len] at hil
  rw [pop_nth hi hil, pop_nth (by omega) (by omega)]
  exact h i hi (by omega)
theorem pop_perm {l : List It} (h : 0 < l.length) : l.Perm (nth l 0 :: pop l) := by
  cases l with
  | nil => simp at h
  | cons t r =>
    rcases List.eq_nil_or_concat r with rfl | ⟨m, z, rfl⟩
    · simp [pop, nth]
    · have e : pop (t :: (m ++ [z])) = z :: m := by
        unfold pop nth
        simp
      rw [List.concat_eq_append, e]
      have e2 : nth (t :: (m ++ [z])) 0 = t := rfl
      rw [e2]
      exact List.Perm.cons t (List.perm_append_comm.trans (by simp))
theorem Heap.top {l : List It} (h : Heap l) : ∀ i, i < l.length → lt (nth l i) (nth l 0) = false := by
  intro i
  induction i using Nat.strongRecOn with
  | _ i ih =>
    intro hi
    by_cases e : i = 0
    · subst e
      rw [lt_not]; omega
    · have q := ih ((i - 1) / 2) (by omega) (by omega)
      have r := h i (by omega) hi
      rw [lt_not] at q r ⊢
      omega
theorem Heap.least {l : List It} (h : Heap l) {t : It} (ht : t ∈ l) : lt t (nth l 0) = false := by
  obtain ⟨i, hi, rfl⟩ := List.getElem_of_mem ht
  have := h.top i hi
  rwa [show nth l i = l[i] by simp [nth, hi]] at this
theorem Heap.nil : Heap [] := fun i _ h => by simp at h
end Go.Proofs.YtggaobcdogbjhaaGreatDoor
namespace Go.Proofs.YtggaobcdogbjhaaGreatDoor
open Go.RowKit
set_option linter.unusedVariables false
set_option linter.unusedSimpArgs false
theorem int_eq {x y : Int} (h : x = y) : Value.int .i64 x = .int .i64 y := by rw [h]
/-- What a loop of lift or sink keeps: the heap's row, its items changed about. -/
def Kp (w : World) (b : Nat) (v : Value) (n : Int) (l : List It) (l' : List It) (wr : World) : Prop :=
  Its wr v l' ∧ l'.Perm l ∧ Hp wr b v n false ∧ Turns (fun k => v.ownBlock = some k) w wr
theorem Kp.upto {w wr w' : World} {b : Nat} {v : Value} {n : Int} {l l' : List It} (h : Kp w b v n l l' wr) (hb : Below wr.heap.size wr w') : Kp w b v n l l' w' :=
  ⟨h.1.upto hb, h.2.1, h.2.2.1.upto hb, h.2.2.2.trans (Turns.of_below hb)⟩
theorem Kp.swap {w wr w' : World} {b : Nat} {v : Value} {n : Int} {l l' : List It} {i j : Nat} (h : Kp w b v n l l' wr) (hi : i < l'.length) (hj : j < l'.length) (h1 : Its w' v (swp l' i j)) (h2 : Turns (fun k => v.ownBlock = some k) wr w') : Kp w b v n l (swp l' i j) w' :=
  ⟨h1, (swp_perm hi hj).trans h.2.1, h.2.2.1.kept h2 (h.2.2.1.ne_row h.1 (by decide)), h.2.2.2.trans (h2.mono (fun _ _ e => .inl e))⟩
theorem Kp.before {w wr : World} {b : Nat} {v : Value} {n : Int} {l l' : List It} (h : Kp w b v n l l' wr) {i j : Nat} {I J : Int} {r : Bool} (eI : I = (i : Nat)) (eJ : J = (j : Nat)) (hi : i < l'.length) (hj : j < l'.length) (hr : lt (nth l' i) (nth l' j) = r) :
    Calls Tryz.prog 127 #[ptr b, .int .i64 I, .int .i64 J] wr fun e w' => e = .returned (.bool r) ∧ Kp w b v n l l' w' := by
  subst eI; subst eJ; subst hr
  exact (before_is b v n l' i j _ _ wr h.2.2.1 h.1 (nth_get hi) (nth_get hj)).mono fun e w' q => ⟨q.1, h.upto q.2⟩
theorem Kp.swaps {w wr : World} {b : Nat} {v : Value} {n : Int} {l l' : List It} (h : Kp w b v n l l' wr) {i j : Nat} {I J : Int} (eI : I = (i : Nat)) (eJ : J = (j : Nat)) (hi : i < l'.length) (hj : j < l'.length) :
    Calls Tryz.prog 128 #[ptr b, .int .i64 I, .int .i64 J] wr fun e w' => e = .returned (.tuple #[]) ∧ Kp w b v n l (swp l' i j) w' := by
  subst eI; subst eJ
  exact (swap_is b v n false l' i j _ _ wr h.2.2.1 h.1 (nth_get hi) (nth_get hj)).mono fun e w' q => ⟨q.1, h.swap hi hj q.2.1 q.2.2⟩
set_option maxRecDepth 100000 in
set_option maxHeartbeats 2000000 in
theorem lift_is (b : Nat) (v : Value) (n : Int) (l : List It) (w : World) (h : Hp w b v n false) (hv : Its w v l) (hl : 0 < l.length) (hlow : Low l (l.length - 1)) :
    Calls Tryz.prog 120 #[ptr b] w fun e w' => e = .returned (.tuple #[]) ∧ ∃ l', Heap l' ∧ Kp w b v n l l' w' := by
  have hk0 : Kp w b v n l l w := ⟨hv, List.Perm.refl _, h, Turns.refl _ _⟩
  obtain ⟨g, cap, hve, hcap, hmax, hg⟩ := hv.form hl
  have c1 : w.cell? ⟨b, 1, none⟩ = some (.slice (some ⟨g, 0, none⟩) l.length cap) := hve ▸ h.c 1
  have hm : l.length ≤ 9223372036854775807 := by unfold maxLen at hmax; omega
  have HK := hide hk0
  have HL := hide hlow
  clear h hv hk0 hlow hve hcap hmax
  go_enter Tryz.func120, Tryz.ntmps120
  go_wp2_with fail
  go_loopw [2] (fun i wr => ∃ (a : Nat) (l' : List It), i = .int .i64 (a : Nat) ∧ a < l'.length ∧ l'.length = l.length ∧ Low l' a ∧ Kp w b v n l l' wr) (fun i _ => (intOf i).toNat)
  case atStart => exact ⟨l.length - 1, l, by go_num, by omega, rfl, HL.out, HK.out⟩
  case round =>
    obtain ⟨a, l', rfl, hal, hll, hlow, hkp⟩ := hrel
    have HKp := hide hkp
    have HLo := hide hlow
    clear hkp hlow HK HL
    by_cases ha : a = 0
    · subst ha
      go_wp2_with fail
      go_end0
      exact ⟨rfl, l', HLo.out.done (.inl rfl), HKp.out⟩
    · obtain ⟨c, hc⟩ : ∃ c : Nat, (a - 1) / 2 = c := ⟨_, rfl⟩
      have hcl : c < l'.length := by omega
      have hca : c < a := by omega
      have hd : ((a : Int) - 1).tdiv 2 = (c : Nat) := by rw [Int.tdiv_eq_ediv_of_nonneg (by omega)]; omega
      cases hlt : lt (nth l' a) (nth l' c)
      · go_wp2_with (go_at_call 127; refine (HKp.out.before rfl rfl hal hcl hlt).mono ?_; rintro e w1 ⟨rfl, hk1⟩)
        refine bodyPost_ret (results_none rfl _ _ _) rfl ?_
        exact ⟨rfl, l', HLo.out.done (.inr (by rw [hc]; exact hlt)), hk1⟩
      · go_wp2_with (go_at_call 127; refine (HKp.out.before rfl rfl hal hcl hlt).mono ?_; rintro e w1 ⟨rfl, hk1⟩)
        refine (hk1.swaps rfl rfl hal hcl).mono ?_
        rintro e w2 ⟨rfl, hk2⟩
        have HK2 := hide hk2
        clear hk1 hk2 HKp
        go_wp2_with fail
        go_roundw
        case rel => exact ⟨c, _, rfl, by rw [swp_len]; exact hcl, by rw [swp_len]; exact hll, by have := HLo.out.next (by omega) hal (by rw [hc]; exact hlt); rw [hc] at this; exact this, HK2.out⟩
        case measure => simp [intOf]; omega
set_option maxRecDepth 100000 in
set_option maxHeartbeats 2000000 in
theorem sink_is (b : Nat) (v : Value) (n : Int) (l : List It) (w : World) (h : Hp w b v n false) (hv : Its w v l) (hlen : l.length ≤ 1152921504606846976) (hhigh : High l 0) :
    Calls Tryz.prog 124 #[ptr b] w fun e w' => e = .returned (.tuple #[]) ∧ ∃ l', Heap l' ∧ Kp w b v n l l' w' := by
  have hk0 : Kp w b v n l l w := ⟨hv, List.Perm.refl _, h, Turns.refl _ _⟩
  obtain ⟨g, cap, hve, hm⟩ := hv.slice
  have HK := hide hk0
  have HL := hide hhigh
  have HC : Hid (∀ l' wr, Kp w b v n l l' wr → wr.cell? ⟨b, 1, none⟩ = some (.slice g l.length cap)) := hide fun l' wr hk => hve ▸ hk.2.2.1.c 1
  clear h hv hk0 hhigh hve
  go_enter Tryz.func124, Tryz.ntmps124
  go_wp2_with fail
  go_loopw [2, 3] (fun i j wr => ∃ (a m : Nat) (l' : List It), i = .int .i64 (a : Nat) ∧ j = .int .i64 (m : Nat) ∧ m = 2 * a + 1 ∧ (a < l'.length ∨ a = 0) ∧ l'.length = l.length ∧ High l' a ∧ Kp w b v n l l' wr) (fun i _ _ => l.length - (intOf i).toNat)
  case atStart => exact ⟨0, 1, l, rfl, rfl, rfl, .inr rfl, rfl, HL.out, HK.out⟩
  case round =>
    obtain ⟨a, m, l', rfl, rfl, hma, hal, hll, hhigh, hkp⟩ := hrel
    have HKp := hide hkp
    have HHi := hide hhigh
    have c1 := HC.out l' _ hkp
    clear hkp hhigh HK HL
    have hch : ∀ i, 0 < i → (i - 1) / 2 = a → i = m ∨ i = m + 1 := fun i h1 h2 => by omega
    have HCh := hide hch
    clear hch
    obtain ⟨A, hA⟩ : ∃ A : Int, (a : Int) = A := ⟨_, rfl⟩
    obtain ⟨M, hM⟩ : ∃ M : Int, (m : Int) = M := ⟨_, rfl⟩
    rw [hA, hM]
    have HA := hide hA
    have HM := hide hM
    have HLN := hide hlen
    have HLM := hide hm
    by_cases hb : m < l.length
    · have hbi : M < (l.length : Nat) := by omega
      have hM0 : 0 ≤ M := by omega
      have hM1 : M + 1 ≤ 1152921504606846976 := by omega
      have hA0 : 0 ≤ A := by omega
      have hbl : m < l'.length := by omega
      have hal' : a < l'.length := by omega
      have HE : Hid ((m - 1) / 2 = a ∧ (m + 1 - 1) / 2 = a) := hide (by omega)
      have HMA := hide hma
      have HAL := hide hal
      have HBL := hide hbl
      have HALL := hide hal'
      have HLL := hide hll
      by_cases hr : m + 1 < l.length
      · have hri : M + 1 < (l.length : Nat) := by omega
        have HRL : Hid (m + 1 < l'.length) := hide (by omega)
        have HM1 : Hid (M + 1 = ((m + 1 : Nat) : Int)) := hide (by omega)
        clear hma hal hA hM hlen hm hb hr hbl hal' hll
        cases hr1 : lt (nth l' (m + 1)) (nth l' m)
        · have hmin : Hid (∀ i, 0 < i → i < l'.length → (i - 1) / 2 = a → lt (nth l' i) (nth l' m) = false) := hide fun i h1 h2 h3 => by
            rcases HCh.out i h1 h3 with rfl | rfl
            · rw [lt_not]; omega
            · exact hr1
          cases hq : lt (nth l' m) (nth l' a)
          · go_wp2_with fail
            refine (HKp.out.before HM1.out HM.out.symm HRL.out HBL.out hr1).mono ?_
            rintro e w1 ⟨rfl, hk1⟩
            have HK1 := hide hk1
            clear hk1
            go_wp2_with fail
            refine (HK1.out.before HM.out.symm HA.out.symm HBL.out HALL.out hq).mono ?_
            rintro e w2 ⟨rfl, hk2⟩
            have HK2 := hide hk2
            clear hk2
            go_wp2_with fail
            refine bodyPost_ret (results_none rfl _ _ _) rfl ?_
            exact ⟨rfl, l', HHi.out.done (fun i h1 h2 h3 => by have := hmin.out i h1 h2 h3; rw [lt_not] at this hq ⊢; omega), HK2.out⟩
          · go_wp2_with fail
            refine (HKp.out.before HM1.out HM.out.symm HRL.out HBL.out hr1).mono ?_
            rintro e w1 ⟨rfl, hk1⟩
            have HK1 := hide hk1
            clear hk1
            go_wp2_with fail
            refine (HK1.out.before HM.out.symm HA.out.symm HBL.out HALL.out hq).mono ?_
            rintro e w2 ⟨rfl, hk2⟩
            have HK2 := hide hk2
            clear hk2
            go_wp2_with fail
            refine (HK2.out.swaps HM.out.symm HA.out.symm HBL.out HALL.out).mono ?_
            rintro e w3 ⟨rfl, hk3⟩
            have HK3 := hide hk3
            clear hk3
            go_wp2_with fail
            go_roundw
            case rel => exact ⟨m, 2 * (m) + 1, _, int_eq (by have := HM.out; omega), int_eq (by have := HM.out; omega), rfl, .inl (by rw [swp_len]; exact HBL.out), by rw [swp_len]; exact HLL.out, HHi.out.next HBL.out (by have := HMA.out; omega) (by have := HE.out; omega) hq hmin.out, HK3.out⟩
            case measure => have := HMA.out; have := HA.out; have := HM.out; have := HBL.out; have := HLL.out; simp [intOf]; omega
        · have hmin : Hid (∀ i, 0 < i → i < l'.length → (i - 1) / 2 = a → lt (nth l' i) (nth l' (m + 1)) = false) := hide fun i h1 h2 h3 => by
            rcases HCh.out i h1 h3 with rfl | rfl
            · rw [lt_iff] at hr1; rw [lt_not]; omega
            · rw [lt_not]; omega
          cases hq : lt (nth l' (m + 1)) (nth l' a)
          · go_wp2_with fail
            refine (HKp.out.before HM1.out HM.out.symm HRL.out HBL.out hr1).mono ?_
            rintro e w1 ⟨rfl, hk1⟩
            have HK1 := hide hk1
            clear hk1
            go_wp2_with fail
            refine (HK1.out.before HM1.out HA.out.symm HRL.out HALL.out hq).mono ?_
            rintro e w2 ⟨rfl, hk2⟩
            have HK2 := hide hk2
            clear hk2
            go_wp2_with fail
            refine bodyPost_ret (results_none rfl _ _ _) rfl ?_
            exact ⟨rfl, l', HHi.out.done (fun i h1 h2 h3 => by have := hmin.out i h1 h2 h3; rw [lt_not] at this hq ⊢; omega), HK2.out⟩
          · go_wp2_with fail
            refine (HKp.out.before HM1.out HM.out.symm HRL.out HBL.out hr1).mono ?_
            rintro e w1 ⟨rfl, hk1⟩
            have HK1 := hide hk1
            clear hk1
            go_wp2_with fail
            refine (HK1.out.before HM1.out HA.out.symm HRL.out HALL.out hq).mono ?_
            rintro e w2 ⟨rfl, hk2⟩
            have HK2 := hide hk2
            clear hk2
            go_wp2_with fail
            refine (HK2.out.swaps HM1.out HA.out.symm HRL.out HALL.out).mono ?_
            rintro e w3 ⟨rfl, hk3⟩
            have HK3 := hide hk3
            clear hk3
            go_wp2_with fail
            go_roundw
            case rel => exact ⟨m + 1, 2 * (m + 1) + 1, _, int_eq (by have := HM.out; omega), int_eq (by have := HM.out; omega), rfl, .inl (by rw [swp_len]; exact HRL.out), by rw [swp_len]; exact HLL.out, HHi.out.next HRL.out (by have := HMA.out; omega) (by have := HE.out; omega) hq hmin.out, HK3.out⟩
            case measure => have := HMA.out; have := HA.out; have := HM.out; have := HBL.out; have := HLL.out; simp [intOf]; omega
      · have hri : ¬ M + 1 < (l.length : Nat) := by omega
        have hmin : Hid (∀ i, 0 < i → i < l'.length → (i - 1) / 2 = a → lt (nth l' i) (nth l' m) = false) := hide fun i h1 h2 h3 => by
          rcases HCh.out i h1 h3 with rfl | rfl
          · rw [lt_not]; omega
          · omega
        clear hma hal hA hM hlen hm hb hr hbl hal' hll
        cases hq : lt (nth l' m) (nth l' a)
        · go_wp2_with fail
          refine (HKp.out.before HM.out.symm HA.out.symm HBL.out HALL.out hq).mono ?_
          rintro e w2 ⟨rfl, hk2⟩
          have HK2 := hide hk2
          clear hk2
          go_wp2_with fail
          refine bodyPost_ret (results_none rfl _ _ _) rfl ?_
          exact ⟨rfl, l', HHi.out.done (fun i h1 h2 h3 => by have := hmin.out i h1 h2 h3; rw [lt_not] at this hq ⊢; omega), HK2.out⟩
        · go_wp2_with fail
          refine (HKp.out.before HM.out.symm HA.out.symm HBL.out HALL.out hq).mono ?_
          rintro e w2 ⟨rfl, hk2⟩
          have HK2 := hide hk2
          clear hk2
          go_wp2_with fail
          refine (HK2.out.swaps HM.out.symm HA.out.symm HBL.out HALL.out).mono ?_
          rintro e w3 ⟨rfl, hk3⟩
          have HK3 := hide hk3
          clear hk3
          go_wp2_with fail
          go_roundw
          case rel => exact ⟨m, 2 * (m) + 1, _, int_eq (by have := HM.out; omega), int_eq (by have := HM.out; omega), rfl, .inl (by rw [swp_len]; exact HBL.out), by rw [swp_len]; exact HLL.out, HHi.out.next HBL.out (by have := HMA.out; omega) (by have := HE.out; omega) hq hmin.out, HK3.out⟩
          case measure => have := HMA.out; have := HA.out; have := HM.out; have := HBL.out; have := HLL.out; simp [intOf]; omega
    · have hbi : ¬ M < (l.length : Nat) := by omega
      clear hA hM
      go_wp2_with fail
      go_end0
      exact ⟨rfl, l', HHi.out.done (fun i h1 h2 h3 => by rcases HCh.out i h1 h3 with rfl | rfl <;> omega), HKp.out⟩
end Go.Proofs.YtggaobcdogbjhaaGreatDoor
namespace Go.Proofs.YtggaobcdogbjhaaGreatDoor
open Go.RowKit
set_option linter.unusedVariables false
set_option linter.unusedSimpArgs false
def z141 : Value := .agg #[.int .i64 0, .int .i64 0, .int .i64 0, .int .i64 0, .int .i64 0]
theorem info141 : (Tryz.prog.info? 167).map (fun i => (i.zero, i.size, i.bytes)) = some (some z141, 5, 40) := by kernel_rfl
theorem one_it {r : It} : ∀ u ∈ r.cs, u.oneCell' = true := by
  intro u hu
  simp only [It.cs, List.mem_cons, List.not_mem_nil, or_false] at hu
  rcases hu with rfl | rfl | rfl | rfl | rfl <;> rfl
theorem it_new (w : World) (r : It) : ∀ j u, r.cs[j]? = some u → (w.alloc (.cells #[.int .i64 r.x, .int .i64 r.y, .int .i64 r.c, .int .i64 r.f, .int .i64 r.p] 167)).cell? ((⟨w.heap.size, 0, none⟩ : Addr).add j) = some u := by
  intro j u hu
  rw [Addr.add_lit, Nat.zero_add, cell_of_row _ w.heap.size j _ _ _ (heap_alloc_new w _)]
  simpa [It.cs] using hu
theorem run_append {P : Program} {ev : Operand → Value} {o : Oper} {w w' : World} {s x : Operand} {t : TypeId} {v xv v' : Value} (ho : o.op = .call { callee := .builtin .append, args := #[s, x], argTypes := #[t, t] })
    (hs : ev s = v) (hx : ev x = xv) (hr : (Builtin.append_ #[t, t] o.type #[v, xv]).run P w = .ok v' w') : (execOp ev o).run P w = .ok (.value v') w' := by
  unfold execOp
  simp only [ho, resolve, invoke, builtin, Sem.run_bind, Sem.run_pure, Result.andThen_ok, List.map_toArray, List.map_cons, List.map_nil, hs, hx, hr]
theorem run_hf2 {ev : Operand → Value} {o : Oper} {w : World} {x : Operand} {b : Nat} (ho : o.op = .fieldAddr 148 x 2) (hx : ev x = .pointer (some ⟨b, 0, none⟩)) : (execOp ev o).run Tryz.prog w = .ok (.value (.pointer (some ⟨b, 2, none⟩))) w := by
  unfold execOp; rw [ho]; simp only [hx]; go_simp
theorem run_i {ev : Operand → Value} {o : Oper} {w : World} {x : Operand} {ad : Addr} {n : Int} (ho : o.op = .load 3 x) (hx : ev x = .pointer (some ad)) (h0 : w.cell? ad = some (.int .i64 n)) : (execOp ev o).run Tryz.prog w = .ok (.value (.int .i64 n)) w := by
  unfold execOp; rw [ho]; simp only [hx]; go_simp
theorem run_mkit {ev : Operand → Value} {o : Oper} {w : World} {x1 x2 : Operand} {x y c f n : Int} (ho : o.op = .build 167 #[(0, x1), (1, x2)]) (h1 : ev x1 = rv x y c f) (h2 : ev x2 = .int .i64 n) : (execOp ev o).run Tryz.prog w = .ok (.value (⟨x, y, c, f, n⟩ : It).v) w := by
  unfold execOp; rw [ho]; simp only [List.map_toArray, List.map_cons, List.map_nil, h1, h2]; go_simp
theorem run_one {ev : Operand → Value} {o : Oper} {w : World} {x1 : Operand} {t : It} (ho : o.op = .buildSlice 146 1 #[(0, x1)]) (h1 : ev x1 = t.v) : (execOp ev o).run Tryz.prog w = .ok (.value (.slice (some ⟨w.heap.size, 0, none⟩) 1 1)) (w.alloc (.cells #[.int .i64 t.x, .int .i64 t.y, .int .i64 t.c, .int .i64 t.f, .int .i64 t.p] 167)) := by
  unfold execOp; rw [ho]; simp only [List.map_toArray, List.map_cons, List.map_nil, h1]; go_simp
theorem run_setrow {ev : Operand → Value} {o : Oper} {w : World} {ad : Addr} {x t : Operand} {v v0 : Value} (ho : o.op = .store 146 x t) (hx : ev x = .pointer (some ad)) (ht : ev t = v) (hv : ∃ av n c, v = .slice av n c) (hc : w.cell? ad = some v0) (hf : w.frozen? ad = false) :
    (execOp ev o).run Tryz.prog w = .ok .skip (w.setCell ad v) := by
  obtain ⟨av, n, c, rfl⟩ := hv
  unfold execOp
  rw [ho]
  simp only [hx, ht]
  go_simp
/-- A heap in memory, with the values S that it holds. -/
def Hs (w : World) (b : Nat) (v : Value) (n : Int) (S : List It) : Prop := ∃ l, Hp w b v n false ∧ Its w v l ∧ Heap l ∧ l.Perm S
theorem Hs.kept {w w' : World} {b : Nat} {v : Value} {n : Int} {S : List It} {T : Nat → Prop} (h : Hs w b v n S) (ht : Turns T w w') (h1 : ¬ T b) (h2 : ∀ k, v.ownBlock = some k → ¬ T k) : Hs w' b v n S := by
  obtain ⟨l, a1, a2, a3, a4⟩ := h
  exact ⟨l, a1.kept ht h1, a2.kept ht h2, a3, a4⟩
theorem Hs.upto {w w' : World} {b : Nat} {v : Value} {n : Int} {S : List It} (h : Hs w b v n S) (hb : Below w.heap.size w w') : Hs w' b v n S := h.kept (T := NoB) (Turns.of_below hb) id (fun _ _ => id)
/-- What Push leaves. -/
def Pushed (w : World) (b : Nat) (v : Value) (n : Int) (S : List It) (t : It) (w' : World) : Prop :=
  ∃ v', Hs w' b v' (n + 1) (t :: S) ∧ Turns (fun k => k = b ∨ v.ownBlock = some k) w w' ∧ ∀ k, v'.ownBlock = some k → v.ownBlock = some k ∨ w.heap.size ≤ k
set_option maxRecDepth 100000 in
set_option maxHeartbeats 2000000 in
theorem push_is (b : Nat) (v : Value) (n : Int) (S : List It) (x y c f : Int) (w : World) (h : Hs w b v n S) (hn : 0 ≤ n ∧ n + 1 ≤ 9223372036854775807) (hlen : (S.length + 1) * 40 ≤ 140737488355328) :
    Calls Tryz.prog 94 #[ptr b, rv x y c f] w fun e w' => e = .returned (.tuple #[]) ∧ Pushed w b v n S ⟨x, y, c, f, n⟩ w' := by
  obtain ⟨l, hp, hv, hH, hS⟩ := h
  have hll : l.length = S.length := hS.length_eq
  obtain ⟨X, hX⟩ : ∃ X, w.alloc (.cells #[.int .i64 x, .int .i64 y, .int .i64 c, .int .i64 f] 91) = X := ⟨_, rfl⟩
  have B0 : Below w.heap.size w X := hX ▸ box1 _ _
  have F0 : Four X w.heap.size x y c f := by rw [← hX]; simp [Four, go_sem]
  have hpX := hp.upto B0
  have hvX := hv.upto B0
  have hlt := hp.lt
  have hne := hpX.ne_row hvX (by decide)
  have hvw : ∀ k, v.ownBlock = some k → k < w.heap.size := fun k e => by
    rcases hv.2 with ⟨rfl, _⟩ | ⟨g, cap, cur, rfl, _, hg, _⟩
    · simp [Value.ownBlock] at e
    · simp [Value.ownBlock] at e; subst e; exact (Array.getElem?_eq_some_iff.1 hg).1
  have HT := hide (turns_any b v n false X hpX)
  obtain ⟨fi, hf, hz, h5, h40⟩ := info_parts info141
  -- the row with one more
  obtain ⟨Y1, hY1⟩ : ∃ Y1, X.drew.alloc (.cells #[.int .i64 x, .int .i64 y, .int .i64 c, .int .i64 f, .int .i64 n] 167) = Y1 := ⟨_, rfl⟩
  have B1 : Below X.heap.size X Y1 := by rw [← hY1]; exact bt (Below.refl _ _).drew (box1 _ _)
  have hv1 := hvX.upto B1
  have hnew : ∀ j u, (⟨x, y, c, f, n⟩ : It).cs[j]? = some u → Y1.cell? ((⟨X.drew.heap.size, 0, none⟩ : Addr).add j) = some u := by rw [← hY1]; exact it_new X.drew ⟨x, y, c, f, n⟩
  obtain ⟨v3, w3, r3, o3, g3, -, l3⟩ := run_append_own_at (P := Tryz.prog) Y1 0 146 146 167 fi z141 5 40 Tryz.underlying146 hf hz h5 h40 rfl (by decide) v l.length _ hv1 ⟨X.drew.heap.size, 0, none⟩ 1 1 (⟨x, y, c, f, n⟩ : It).cs rfl hnew one_it (by unfold maxLen; omega) (by omega) (Nat.zero_le _)
  have hr3 : Its w3 v3 (l ++ [⟨x, y, c, f, n⟩]) := by simpa [Its] using o3
  have T1 : Turns (fun k => v.ownBlock = some k) X w3 := (Turns.of_below B1).trans ((Turns.of_grown (S := fun k => v.ownBlock = some k) g3 (fun k e => e)).mono (fun k _ e => .inl e))
  have hp3 := hpX.kept T1 hne
  have hsl3 : ∃ av n c, v3 = .slice av n c := by obtain ⟨a3, c3, e3, -⟩ := hr3.slice; exact ⟨_, _, _, e3⟩
  have hp4 := hp3.set1 v3
  have hp5 := hp4.set2 (n + 1)
  have T4 : Turns (fun j => j = b) w3 ((w3.setCell ⟨b, 1, none⟩ v3).setCell ⟨b, 2, none⟩ (.int .i64 (n + 1))) :=
    (Turns.set (S := fun j => j = b) w3 (p := ⟨b, 1, none⟩) rfl _).trans ((Turns.set (S := fun j => j = b) _ (p := ⟨b, 2, none⟩) rfl _).mono (fun _ _ e => .inl e))
  have hr5 := hr3.kept T4 (fun j e q => by subst q; exact hp3.ne_row hr3 (by decide) e)
  have hl5 : (l ++ [(⟨x, y, c, f, n⟩ : It)]).length - 1 = l.length := by simp
  have HL := hide (lift_is b v3 (n + 1) (l ++ [⟨x, y, c, f, n⟩]) _ hp5 hr5 (by simp) (by rw [hl5]; exact Low.push hH ⟨x, y, c, f, n⟩))
  have TW : Turns (fun j => j = b ∨ v.ownBlock = some j) w ((w3.setCell ⟨b, 1, none⟩ v3).setCell ⟨b, 2, none⟩ (.int .i64 (n + 1))) :=
    ((Turns.of_below (S := fun j => j = b ∨ v.ownBlock = some j) B0).trans (T1.mono (fun _ _ e => .inl (.inr e)))).trans (T4.mono (fun _ _ e => .inl (.inl e)))
  have hown3 : ∀ k, v3.ownBlock = some k → v.ownBlock = some k ∨ w.heap.size ≤ k := fun k e => by
    rcases l3 with q | q
    · exact .inl (q ▸ e)
    · rw [q] at e; cases e
      have := (bt B0 B1).size
      exact .inr this
  have HEn : Hid (∀ l' w', Heap l' → Kp ((w3.setCell ⟨b, 1, none⟩ v3).setCell ⟨b, 2, none⟩ (.int .i64 (n + 1))) b v3 (n + 1) (l ++ [⟨x, y, c, f, n⟩]) l' w' → Pushed w b v n S ⟨x, y, c, f, n⟩ w') := hide (fun l' w' hh hk => by
    refine ⟨v3, ⟨l', hk.2.2.1, hk.1, hh, hk.2.1.trans ((List.perm_append_comm).trans (List.Perm.cons _ hS))⟩, TW.trans (hk.2.2.2.mono (fun k _ e => ?_)), hown3⟩
    rcases hown3 k e with q | q
    · exact .inl (.inr q)
    · exact .inr q)
  obtain ⟨va, vc, hve, -⟩ := hv.slice
  subst hve
  have HS : Hid ((fun wx : World => wx.cell? ⟨b, 1, none⟩ = some (.slice va l.length vc) ∧ wx.cell? ⟨b, 2, none⟩ = some (.int .i64 n) ∧ Four wx w.heap.size x y c f) X.drew) := hide ⟨hpX.c 1, hpX.c 2, F0⟩
  have HS1 : Hid ((fun wx : World => wx.cell? ⟨b, 1, none⟩ = some (.slice va l.length vc) ∧ wx.cell? ⟨b, 2, none⟩ = some (.int .i64 n) ∧ Four wx w.heap.size x y c f) Y1) := hide ⟨(hpX.upto B1).c 1, (hpX.upto B1).c 2, F0.kept B1⟩
  have HS3 : Hid ((fun wx : World => wx.cell? ⟨b, 1, none⟩ = some (.slice va l.length vc) ∧ wx.cell? ⟨b, 2, none⟩ = some (.int .i64 n) ∧ Four wx w.heap.size x y c f) w3) := hide ⟨hp3.c 1, hp3.c 2, F0.turned T1 (fun e => by have := hvw _ e; omega)⟩
  have k1 : w3.cell? ⟨b, 1, none⟩ = some (.slice va l.length vc) := hp3.c 1
  have f1 := hp3.f 1
  have k2 : (w3.setCell ⟨b, 1, none⟩ v3).cell? ⟨b, 2, none⟩ = some (.int .i64 n) := hp4.c 2
  have f2 := hp4.f 2
  have HX := hide hX
  have HY1 := hide hY1
  have HA := hide r3
  clear hX hY1 r3 o3 g3 l3 hr3 T1 hp3 hp4 hp5 T4 hr5 TW hown3 hnew hv1 B1 F0 hpX hvX hv hp B0 hf hz h5 h40
  go_enter Tryz.func94, Tryz.ntmps94
  go_wp2_with (rw [HX.out])
  refine HT.out.mono ?_
  rintro e w1 ⟨rfl, hw1⟩
  have hw2 := hw1.symm
  clear hw1
  subst hw2
  go_wp2_with fail
  refine wp_only ?_
  refine wp_region_z (fun wx : World => wx.cell? ⟨b, 1, none⟩ = some (.slice va l.length vc) ∧ wx.cell? ⟨b, 2, none⟩ = some (.int .i64 n) ∧ Four wx w.heap.size x y c f) [15] (by kernel_rfl) ?_
  refine anyZ_take 0 8 (v := ptr b) rfl (by kernel_rfl) (fun _ _ _ h => h.elim) (Or.inl ⟨by rfl, fun wx hx => run_mv (by rfl) (by rfl)⟩) HS.out ?_
  try simp only [Act.put, List.getElem_toArray, List.getElem_cons_zero, List.getElem_cons_succ, List.setIfInBounds_toArray, List.set_cons_zero, List.set_cons_succ]
  refine anyZ_take 1 8 (v := ptr b) rfl (by kernel_rfl) (fun _ _ _ h => h.elim) (Or.inl ⟨by rfl, fun wx hx => run_mv (by rfl) (by rfl)⟩) HS.out ?_
  try simp only [Act.put, List.getElem_toArray, List.getElem_cons_zero, List.getElem_cons_succ, List.setIfInBounds_toArray, List.set_cons_zero, List.set_cons_succ]
  refine anyZ_take 2 8 (v := ptr b) rfl (by kernel_rfl) (fun _ _ _ h => h.elim) (Or.inl ⟨by rfl, fun wx hx => run_nc (by rfl) (by rfl)⟩) HS.out ?_
  try simp only [Act.put, List.getElem_toArray, List.getElem_cons_zero, List.getElem_cons_succ, List.setIfInBounds_toArray, List.set_cons_zero, List.set_cons_succ]
  refine anyZ_take 3 8 (v := .pointer (some ⟨b, 1, none⟩)) rfl (by kernel_rfl) (fun _ _ _ h => h.elim) (Or.inl ⟨by rfl, fun wx hx => run_hf1 (by rfl) (by rfl)⟩) HS.out ?_
  try simp only [Act.put, List.getElem_toArray, List.getElem_cons_zero, List.getElem_cons_succ, List.setIfInBounds_toArray, List.set_cons_zero, List.set_cons_succ]
  refine anyZ_take 4 8 (v := .slice va l.length vc) rfl (by kernel_rfl) (fun _ _ _ h => h.elim) (Or.inl ⟨by rfl, fun wx hx => run_row (by rfl) (by rfl) hx.1⟩) HS.out ?_
  try simp only [Act.put, List.getElem_toArray, List.getElem_cons_zero, List.getElem_cons_succ, List.setIfInBounds_toArray, List.set_cons_zero, List.set_cons_succ]
  refine anyZ_take 5 8 (v := rv x y c f) rfl (by kernel_rfl) (fun _ _ _ h => h.elim) (Or.inl ⟨by rfl, fun wx hx => run_rv (by rfl) (by rfl) hx.2.2.1.1 hx.2.2.1.2.1 hx.2.2.1.2.2.1 hx.2.2.1.2.2.2⟩) HS.out ?_
  try simp only [Act.put, List.getElem_toArray, List.getElem_cons_zero, List.getElem_cons_succ, List.setIfInBounds_toArray, List.set_cons_zero, List.set_cons_succ]
  refine anyZ_take 6 8 (v := ptr b) rfl (by kernel_rfl) (fun _ _ _ h => h.elim) (Or.inl ⟨by rfl, fun wx hx => run_mv (by rfl) (by rfl)⟩) HS.out ?_
  try simp only [Act.put, List.getElem_toArray, List.getElem_cons_zero, List.getElem_cons_succ, List.setIfInBounds_toArray, List.set_cons_zero, List.set_cons_succ]
  refine anyZ_take 7 8 (v := ptr b) rfl (by kernel_rfl) (fun _ _ _ h => h.elim) (Or.inl ⟨by rfl, fun wx hx => run_nc (by rfl) (by rfl)⟩) HS.out ?_
  try simp only [Act.put, List.getElem_toArray, List.getElem_cons_zero, List.getElem_cons_succ, List.setIfInBounds_toArray, List.set_cons_zero, List.set_cons_succ]
  refine anyZ_take 8 8 (v := .pointer (some ⟨b, 2, none⟩)) rfl (by kernel_rfl) (fun _ _ _ h => h.elim) (Or.inl ⟨by rfl, fun wx hx => run_hf2 (by rfl) (by rfl)⟩) HS.out ?_
  try simp only [Act.put, List.getElem_toArray, List.getElem_cons_zero, List.getElem_cons_succ, List.setIfInBounds_toArray, List.set_cons_zero, List.set_cons_succ]
  refine anyZ_take 9 8 (v := .int .i64 n) rfl (by kernel_rfl) (fun _ _ _ h => h.elim) (Or.inl ⟨by rfl, fun wx hx => run_i (by rfl) (by rfl) hx.2.1⟩) HS.out ?_
  try simp only [Act.put, List.getElem_toArray, List.getElem_cons_zero, List.getElem_cons_succ, List.setIfInBounds_toArray, List.set_cons_zero, List.set_cons_succ]
  refine anyZ_take 10 8 (v := (⟨x, y, c, f, n⟩ : It).v) rfl (by kernel_rfl) (fun _ _ _ h => h.elim) (Or.inl ⟨by rfl, fun wx hx => run_mkit (by rfl) (by rfl) (by rfl)⟩) HS.out ?_
  try simp only [Act.put, List.getElem_toArray, List.getElem_cons_zero, List.getElem_cons_succ, List.setIfInBounds_toArray, List.set_cons_zero, List.set_cons_succ]
  refine anyZ_ready (rs := [11]) (by kernel_rfl) (by simp) ?_
  refine readyZ.cons rfl rfl (run_one (t := ⟨x, y, c, f, n⟩) (by rfl) (by rfl)) (fun _ => by rw [HY1.out]; exact HS1.out) ?_ readyZ.nil
  rw [HY1.out]
  try simp only [Act.put, List.getElem_toArray, List.getElem_cons_zero, List.getElem_cons_succ, List.setIfInBounds_toArray, List.set_cons_zero, List.set_cons_succ]
  refine anyZ_ready (rs := [12]) (by kernel_rfl) (by simp) ?_
  refine readyZ.cons rfl rfl (run_append (by rfl) (by rfl) (by rfl) HA.out) (fun _ => HS3.out) ?_ readyZ.nil
  try simp only [Act.put, List.getElem_toArray, List.getElem_cons_zero, List.getElem_cons_succ, List.setIfInBounds_toArray, List.set_cons_zero, List.set_cons_succ]
  refine anyZ_take 13 8 (v := ptr b) rfl (by kernel_rfl) (fun _ _ _ h => h.elim) (Or.inl ⟨by rfl, fun wx hx => run_nc (by rfl) (by rfl)⟩) HS3.out ?_
  try simp only [Act.put, List.getElem_toArray, List.getElem_cons_zero, List.getElem_cons_succ, List.setIfInBounds_toArray, List.set_cons_zero, List.set_cons_succ]
  refine anyZ_take 14 8 (v := .pointer (some ⟨b, 1, none⟩)) rfl (by kernel_rfl) (fun _ _ _ h => h.elim) (Or.inl ⟨by rfl, fun wx hx => run_hf1 (by rfl) (by rfl)⟩) HS3.out ?_
  try simp only [Act.put, List.getElem_toArray, List.getElem_cons_zero, List.getElem_cons_succ, List.setIfInBounds_toArray, List.set_cons_zero, List.set_cons_succ]
  refine anyZ_ready (rs := [15]) (by kernel_rfl) (by simp) ?_
  refine readyZ.skip rfl rfl (run_setrow (by rfl) (by rfl) (by rfl) hsl3 k1 f1) (fun h => absurd (by decide) h) ?_ readyZ.nil
  try simp only [Act.put, List.getElem_toArray, List.getElem_cons_zero, List.getElem_cons_succ, List.setIfInBounds_toArray, List.set_cons_zero, List.set_cons_succ]
  refine anyZ_done (by kernel_rfl) ?_ _
  dsimp only [Only, Exit.then]
  go_wp2_with fail
  refine HL.out.mono ?_
  rintro e w5 ⟨rfl, l', hh, hk⟩
  have HQ := hide (HEn.out l' w5 hh hk)
  clear hh hk
  go_wp2_with fail
  go_end0
  exact ⟨rfl, HQ.out⟩
end Go.Proofs.YtggaobcdogbjhaaGreatDoor
namespace Go.Proofs.YtggaobcdogbjhaaGreatDoor
open Go.RowKit
set_option linter.unusedVariables false
set_option linter.unusedSimpArgs false
theorem Its.take {w : World} {g cap q : Nat} {l : List It} (h : Its w (.slice (some ⟨g, 0, none⟩) l.length cap) l) (hq : l.length = q + 1) : Its w (.slice (some ⟨g, 0, none⟩) q cap) (l.take q) := by
  have e : l.flatMap It.cs = (l.take q).flatMap It.cs ++ (l.drop q).flatMap It.cs := by rw [← List.flatMap_append, List.take_append_drop]
  have hl : (l.take q).length = q := by simp; omega
  unfold Its at h ⊢
  rw [hq, e] at h
  rw [hl]
  exact ownsRow_pop (by rw [It.cs_len, hl]) h
theorem pop_take {l : List It} {q : Nat} (t : It) (hq : l.length = q + 1) : ((l.set 0 (nth l q)).set q t).take q = pop l := by
  unfold pop
  rw [List.take_set_of_le (by omega), hq]
  simp
/-- What Pop leaves. -/
def Popped (w : World) (b : Nat) (v : Value) (n : Int) (S : List It) (t : It) (w' : World) : Prop :=
  ∃ v' S', S.Perm (t :: S') ∧ (∀ u ∈ S, lt u t = false) ∧ Hs w' b v' n S' ∧ Turns (fun k => k = b ∨ v.ownBlock = some k) w w' ∧ ∀ k, v'.ownBlock = some k → v.ownBlock = some k
theorem pop_no (b : Nat) (a : Option Addr) (cap : Nat) (n : Int) (q : Bool) (w : World) (h : Hp w b (.slice a 0 cap) n q) :
    Calls Tryz.prog 107 #[ptr b] w fun e w' => e = .returned (.tuple #[rv 0 0 0 0, .bool false]) ∧ Below w.heap.size w w' := by
  have HL := hide (hlen_any b a 0 cap n q _ (h.upto (box1 w (.cells #[.int .i64 0, .int .i64 0, .int .i64 0, .int .i64 0] 91))))
  go_enter Tryz.func107, Tryz.ntmps107
  go_wp2_with (go_at_call 123; refine HL.out.mono ?_; rintro e w1 ⟨rfl, rfl⟩)
  refine bodyPost_ret (v := .tuple #[rv 0 0 0 0, .bool false]) (by simp [results, Tryz.results107, go_sem]) rfl ⟨rfl, box2 _ _ _⟩
theorem run_i0 {ev : Operand → Value} {o : Oper} {w : World} {x : Operand} {g n cap : Nat} (ho : o.op = .indexAddr 146 x (.const (.int .i64 0))) (hx : ev x = .slice (some ⟨g, 0, none⟩) n cap) (hc : ev (.const (.int .i64 0)) = .int .i64 0) (hn : 0 < n) : (execOp ev o).run Tryz.prog w = .ok (.value (.pointer (some ⟨g, 0, none⟩))) w := by
  have h1 : (0 : Int) < (n : Nat) := by omega
  unfold execOp; rw [ho]; simp only [hx, hc]; go_simp
theorem run_if0 {ev : Operand → Value} {o : Oper} {w : World} {x : Operand} {g k : Nat} (ho : o.op = .fieldAddr 167 x 0) (hx : ev x = .pointer (some ⟨g, k, none⟩)) : (execOp ev o).run Tryz.prog w = .ok (.value (.pointer (some ⟨g, k, none⟩))) w := by
  unfold execOp; rw [ho]; simp only [hx]; go_simp
theorem run_len {ev : Operand → Value} {o : Oper} {w : World} {x : Operand} {a : Option Addr} {n c : Nat} (ho : o.op = .call { callee := .builtin .len, args := #[x], argTypes := #[146] }) (hx : ev x = .slice a n c) : (execOp ev o).run Tryz.prog w = .ok (.value (.int .i64 (n : Nat))) w := by
  unfold execOp
  simp only [ho, resolve, invoke, builtin, Sem.run_bind, Sem.run_pure, Result.andThen_ok, List.map_toArray, List.map_cons, List.map_nil, hx]
  go_simp
theorem run_pred {ev : Operand → Value} {o : Oper} {w : World} {x : Operand} {n q : Nat} (ho : o.op = .binOp .sub 3 x (.const (.int .i64 1)) 3) (hx : ev x = .int .i64 (n : Nat)) (hc : ev (.const (.int .i64 1)) = .int .i64 1) (hn : n = q + 1) (hb : n ≤ 1152921504606846976) : (execOp ev o).run Tryz.prog w = .ok (.value (.int .i64 (q : Nat))) w := by
  have h1 : ((n : Nat) : Int) - 1 = (q : Nat) := by omega
  have h2 : IntKind.i64.wrap ((q : Nat) : Int) = (q : Nat) := IntWalk.i64_in _ (by omega)
  unfold execOp; rw [ho]; simp only [hx, hc]; go_simp
theorem run_box85 {ev : Operand → Value} {o : Oper} {w : World} (ho : o.op = .alloc 91) : (execOp ev o).run Tryz.prog w = .ok (.value (.pointer (some ⟨w.heap.size, 0, none⟩))) (w.alloc (.cells #[.int .i64 0, .int .i64 0, .int .i64 0, .int .i64 0] 91)) := by
  unfold execOp; rw [ho]; go_simp
theorem run_put85 {ev : Operand → Value} {o : Oper} {w : World} {x y : Operand} {k : Nat} {p q c d p0 q0 c0 d0 : Int} (ho : o.op = .store 91 x y) (hx : ev x = .pointer (some ⟨k, 0, none⟩)) (hy : ev y = rv p q c d) (hc : Four w k p0 q0 c0 d0) :
    (execOp ev o).run Tryz.prog w = .ok .skip ((((w.setCell ⟨k, 0, none⟩ (.int .i64 p)).setCell ⟨k, 1, none⟩ (.int .i64 q)).setCell ⟨k, 2, none⟩ (.int .i64 c)).setCell ⟨k, 3, none⟩ (.int .i64 d)) := by
  obtain ⟨⟨h0, h1, h2, h3⟩, ⟨f0, f1, f2, f3⟩, -⟩ := hc
  unfold execOp; rw [ho]; simp only [hx, hy]; go_simp
theorem four_set {w : World} {k : Nat} {p q c d p0 q0 c0 d0 : Int} (h : Four w k p0 q0 c0 d0) : Four ((((w.setCell ⟨k, 0, none⟩ (.int .i64 p)).setCell ⟨k, 1, none⟩ (.int .i64 q)).setCell ⟨k, 2, none⟩ (.int .i64 c)).setCell ⟨k, 3, none⟩ (.int .i64 d)) k p q c d := by
  obtain ⟨⟨h0, h1, h2, h3⟩, ⟨f0, f1, f2, f3⟩, hz⟩ := h
  refine ⟨⟨?_, ?_, ?_, ?_⟩, ⟨?_, ?_, ?_, ?_⟩, ?_⟩ <;> simp [go_sem, h0, h1, h2, h3, f0, f1, f2, f3, hz]
theorem set4_turns (w : World) (g : Nat) (a b c d : Value) : Turns (fun j => j = g) w ((((w.setCell ⟨g, 0, none⟩ a).setCell ⟨g, 1, none⟩ b).setCell ⟨g, 2, none⟩ c).setCell ⟨g, 3, none⟩ d) :=
  (((Turns.set (S := fun j => j = g) w (p := ⟨g, 0, none⟩) rfl a).trans ((Turns.set (S := fun j => j = g) _ (p := ⟨g, 1, none⟩) rfl b).mono (fun _ _ h => .inl h))).trans ((Turns.set (S := fun j => j = g) _ (p := ⟨g, 2, none⟩) rfl c).mono (fun _ _ h => .inl h))).trans ((Turns.set (S := fun j => j = g) _ (p := ⟨g, 3, none⟩) rfl d).mono (fun _ _ h => .inl h))
def it0 : It := ⟨0, 0, 0, 0, 0⟩
/-- The last item at the first place, its own place empty, the row one shorter. -/
theorem pop_row (b : Nat) (n : Int) (l : List It) (g cap q L : Nat) (D : World) (hp : Hp D b (.slice (some ⟨g, 0, none⟩) L cap) n false) (hv : Its D (.slice (some ⟨g, 0, none⟩) L cap) l) (hL : l.length = L) (hq : L = q + 1) (hgb : g ≠ b) :
    ∃ (W1 W2 W3 : World) (u : It), put5 D g 0 (nth l q) = W1 ∧ ((((W1.setCell ⟨g, q * 5, none⟩ (.int .i64 0)).setCell ⟨g, q * 5 + 1, none⟩ (.int .i64 0)).setCell ⟨g, q * 5 + 2, none⟩ (.int .i64 0)).setCell ⟨g, q * 5 + 3, none⟩ (.int .i64 0)).setCell ⟨g, q * 5 + 4, none⟩ (.int .i64 0) = W2 ∧ W2.setCell ⟨b, 1, none⟩ (.slice (some ⟨g, 0, none⟩) q cap) = W3 ∧
      C5 D g 0 (nth l 0) ∧ C5 D g (q * 5) (nth l q) ∧ (∀ o, D.frozen? ⟨g, o, none⟩ = false) ∧ C5 W1 g (q * 5) u ∧ (∀ o, W1.frozen? ⟨g, o, none⟩ = false) ∧ W1.cell? ⟨b, 1, none⟩ = some (.slice (some ⟨g, 0, none⟩) L cap) ∧ W2.cell? ⟨b, 1, none⟩ = some (.slice (some ⟨g, 0, none⟩) L cap) ∧ W2.frozen? ⟨b, 1, none⟩ = false ∧
      Hp W3 b (.slice (some ⟨g, 0, none⟩) q cap) n false ∧ Its W3 (.slice (some ⟨g, 0, none⟩) q cap) (pop l) ∧ Turns (fun k => k = b ∨ k = g) D W3 := by
  subst hL
  have hl0 : 0 < l.length := by omega
  have a0 := hv.at (nth_get hl0)
  have aq := hv.at (nth_get (i := q) (by omega))
  have v1 := hv.set hl0 (nth l q)
  have T1 := put5_turns D g (0 * 5) (nth l q)
  have p1 := hp.kept T1 (fun e => hgb e.symm)
  have e1 : (l.set 0 (nth l q)).length = l.length := List.length_set
  have v1' : Its (put5 D g (0 * 5) (nth l q)) (.slice (some ⟨g, 0, none⟩) (l.set 0 (nth l q)).length cap) (l.set 0 (nth l q)) := by rw [e1]; exact v1
  have a1 := v1'.at (nth_get (i := q) (by rw [e1]; omega))
  have v2 := v1'.set (j := q) (by rw [e1]; omega) it0
  have T2 := put5_turns (put5 D g (0 * 5) (nth l q)) g (q * 5) it0
  have p2 := p1.kept T2 (fun e => hgb e.symm)
  have v2' : Its (put5 (put5 D g (0 * 5) (nth l q)) g (q * 5) it0) (.slice (some ⟨g, 0, none⟩) ((l.set 0 (nth l q)).set q it0).length cap) ((l.set 0 (nth l q)).set q it0) := by rw [List.length_set]; exact v2
  have v3 := v2'.take (q := q) (by rw [List.length_set, e1]; exact hq)
  rw [pop_take _ hq] at v3
  have p3 := p2.set1 (.slice (some ⟨g, 0, none⟩) q cap)
  have T3 : Turns (fun k => k = b) (put5 (put5 D g (0 * 5) (nth l q)) g (q * 5) it0) ((put5 (put5 D g (0 * 5) (nth l q)) g (q * 5) it0).setCell ⟨b, 1, none⟩ (.slice (some ⟨g, 0, none⟩) q cap)) := Turns.set (S := fun k => k = b) _ (p := ⟨b, 1, none⟩) rfl _
  have v4 := v3.kept T3 (fun k e c => by subst c; simp [Value.ownBlock] at e; exact hgb e)
  refine ⟨_, _, _, _, rfl, rfl, rfl, ?_, aq.1, a0.2, a1.1, a1.2, p1.c 1, p2.c 1, p2.f 1, p3, v4, ?_⟩
  · have := a0.1; simpa using this
  · have t1 : Turns (fun k => k = b ∨ k = g) D (put5 D g (0 * 5) (nth l q)) := (Turns.refl _ D).trans (T1.mono (fun k _ e => .inl (.inr e)))
    exact (t1.trans (T2.mono (fun k _ e => .inl (.inr e)))).trans (T3.mono (fun k _ e => .inl (.inl e)))
set_option maxRecDepth 100000 in
set_option maxHeartbeats 4000000 in
theorem pop_yes (b : Nat) (v : Value) (n : Int) (S : List It) (w : World) (h : Hs w b v n S) (hl : 0 < S.length) (hlen : S.length ≤ 1152921504606846976) :
    Calls Tryz.prog 107 #[ptr b] w fun e w' => ∃ t, e = .returned (.tuple #[rv t.x t.y t.c t.f, .bool true]) ∧ Popped w b v n S t w' := by
  obtain ⟨l, hp, hv, hH, hS⟩ := h
  have hll : l.length = S.length := hS.length_eq
  obtain ⟨q, hq⟩ : ∃ q, l.length = q + 1 := ⟨l.length - 1, by omega⟩
  have hl0 : 0 < l.length := by omega
  obtain ⟨X, hX⟩ : ∃ X, w.alloc (.cells #[.int .i64 0, .int .i64 0, .int .i64 0, .int .i64 0] 91) = X := ⟨_, rfl⟩
  have B0 : Below w.heap.size w X := hX ▸ box1 _ _
  have F0 : Four X w.heap.size 0 0 0 0 := by rw [← hX]; simp [Four, go_sem]
  have zX : X.heap.size = w.heap.size + 1 := by rw [← hX]; simp
  have hpX := hp.upto B0
  have hvX := hv.upto B0
  have hgb := hpX.ne_row hvX (by decide)
  obtain ⟨g, cap, rfl, hcap, hmax, hg⟩ := hv.form hl0
  have hpl := hp.lt
  have hgb' : g ≠ b := fun e => hgb (by rw [e]; rfl)
  have HL := hide (hlen_any b _ _ cap n false _ hpX)
  have HT := hide (turns_any b _ n false _ hpX)
  obtain ⟨t, ht⟩ : ∃ t, nth l 0 = t := ⟨_, rfl⟩
  obtain ⟨z, hz⟩ : ∃ z, nth l q = z := ⟨_, rfl⟩
  have hi0 : l[0]? = some t := by rw [← ht]; exact nth_get hl0
  have hiq : l[q]? = some z := by rw [← hz]; exact nth_get (by omega)
  have hne : ¬ ((l.length : Nat) : Int) = 0 := by omega
  have hneb : (((l.length : Nat) : Int) == 0) = false := beq_eq_false_iff_ne.2 hne
  have HKp : Hid (∀ wx, Below X.heap.size X wx → Hp wx b (.slice (some ⟨g, 0, none⟩) l.length cap) n false ∧ Its wx (.slice (some ⟨g, 0, none⟩) l.length cap) l ∧ Four wx w.heap.size 0 0 0 0 ∧ C5 wx g 0 t) := hide (fun wx hb => ⟨hpX.upto hb, hvX.upto hb, F0.kept hb, by have := ((hvX.upto hb).at hi0).1; simpa using this⟩)
  have HB0 := hide B0
  have HZ := hide zX
  have HTop : Hid (∀ u ∈ S, lt u t = false) := hide (fun u hu => by rw [← ht]; exact hH.least (hS.mem_iff.2 hu))
  have HX := hide hX
  clear hX B0 F0 hpX hvX hv hp zX hgb hi0 hiq hne hneb
  have HQ := hide hq
  generalize hL : l.length = L at HL HKp hq hl0 hcap hll ⊢
  have HLe := hide hL
  have hLz : ¬ L = 0 := by omega
  have hLd : decide (((L : Nat) : Int) = 0) = false := by simp; omega
  go_enter Tryz.func107, Tryz.ntmps107
  go_wp2_with (rw [HX.out])
  refine HL.out.mono ?_
  rintro e w1 ⟨rfl, hw1⟩
  have hw2 := hw1.symm
  clear hw1
  subst hw2
  go_wp2_with fail
  refine HT.out.mono ?_
  rintro e w1 ⟨rfl, hw1⟩
  have hw2 := hw1.symm
  clear hw1
  subst hw2
  go_wp2_with fail
  refine Code.wp_mono (Q := Only (fun a' Y => (Below X.heap.size X Y ∧ Four Y X.heap.size t.x t.y t.c t.f) ∧ ∃ u : Nat → Value, a' = { tmps := #[ptr b, undef, ptr w.heap.size, .bool false, u 4, ptr X.heap.size, .int .i64 (q : Nat), u 7, u 8, u 9, u 10, u 11, u 12, u 13, u 14, u 15, u 16, u 17, u 18, u 19, u 20, u 21, u 22, u 23, u 24, u 25, u 26, u 27, u 28, undef, undef, undef, undef, undef, undef, undef, undef, undef, undef, undef, undef, undef, undef, undef, undef, undef, undef, undef, undef, undef, undef, undef, undef, undef, undef, undef, undef, undef, undef, undef], defers := [] })) ?rest ?_
  case rest =>
    rintro (_ | _ | _ | _ | _) a' Y hO
    all_goals first | exact hO.elim | skip
    obtain ⟨⟨hB, hF⟩, u, rfl⟩ := hO
    obtain ⟨kp, kv, kf, -⟩ := HKp.out Y hB
    obtain ⟨W1, W2, W3, u5, e1, e2, e3, c0, cq, fz, c1, fz1, b1, b2, fb2, p3, v3, T3⟩ := pop_row b n l g cap q L Y.drew kp kv hL hq hgb'
    rw [hz] at e1 cq
    rw [ht] at c0
    have szY : w.heap.size < X.heap.size := by have := HZ.out; omega
    have szX := hB.size
    have f0 : Four W3 w.heap.size 0 0 0 0 := Four.turned (show Four Y.drew w.heap.size 0 0 0 0 from kf) T3 (by omega)
    have f1 : Four W3 X.heap.size t.x t.y t.c t.f := Four.turned (show Four Y.drew X.heap.size t.x t.y t.c t.f from hF) T3 (by omega)
    have TV : Turns (fun k => k = b ∨ (Value.slice (some ⟨g, 0, none⟩) L cap).ownBlock = some k) w W3 :=
      (Turns.of_below ((bt HB0.out hB).drew)).trans (T3.mono (fun k _ e => .inl (e.imp id (fun e => by rw [e]; rfl))))
    have HSk := hide (sink_is b _ n (pop l) W3 p3 v3 (by rw [pop_len]; omega) (High.pop hH))
    have HFin : Hid (∀ w4 l', Heap l' → Kp W3 b (.slice (some ⟨g, 0, none⟩) q cap) n (pop l) l' w4 → ∀ w5, Turns (fun k => k = w.heap.size) w4 w5 → Popped w b (.slice (some ⟨g, 0, none⟩) L cap) n S t w5) := hide fun w4 l' hH4 hk4 w5 ht5 => by
      obtain ⟨k1, k2, k3, k4⟩ := hk4
      refine ⟨.slice (some ⟨g, 0, none⟩) q cap, pop l, ?_, HTop.out, ⟨l', k3.kept ht5 (by omega), k1.kept ht5 (fun k e c => ?_), hH4, k2⟩, ?_, fun k e => e⟩
      · exact hS.symm.trans (ht ▸ pop_perm (by omega))
      · subst c; simp [Value.ownBlock] at e; omega
      · exact (TV.trans (k4.mono (fun k _ e => .inl (.inr e)))).trans (ht5.mono (fun k hk e => .inr (Nat.le_of_eq e.symm)))
    have HKB : Hid (∀ w4 l', Kp W3 b (.slice (some ⟨g, 0, none⟩) q cap) n (pop l) l' w4 → Four w4 w.heap.size 0 0 0 0 ∧ Four w4 X.heap.size t.x t.y t.c t.f) := hide fun w4 l' hk => ⟨f0.turned hk.2.2.2 (by simp [Value.ownBlock]; omega), f1.turned hk.2.2.2 (by simp [Value.ownBlock]; omega)⟩
    have HE1 := hide e1
    have HE2 := hide e2
    have HE3 := hide e3
    have hql : q < L := by omega
    have hqli : (q : Int) < (L : Nat) := by omega
    have hqc : (q : Int) ≤ (cap : Nat) := by omega
    have hS5 : (fun wx : World => wx.cell? ⟨b, 1, none⟩ = some (.slice (some ⟨g, 0, none⟩) L cap) ∧ C5 wx g (q * 5) z) Y.drew := ⟨kp.c 1, cq⟩
    obtain ⟨g0, g1, g2, g3, g4⟩ := c1
    have z0 := fz1 (q * 5)
    have z1 := fz1 (q * 5 + 1)
    have z2 := fz1 (q * 5 + 2)
    have z3 := fz1 (q * 5 + 3)
    have z4 := fz1 (q * 5 + 4)
    clear e1 e2 e3 p3 v3 T3 TV f0 f1 kp kv kf hH hS hL hq hll hlen fz1 HKp HTop HL HT HX HQ HLe hl hLz hLd hB hF
    dsimp only [Exit.then]
    rename_i a9
    refine a9 _ _ ?_
    clear a9
    go_wp2_with fail
    refine wp_only ?_
    refine wp_region_z (fun wx : World => wx.cell? ⟨b, 1, none⟩ = some (.slice (some ⟨g, 0, none⟩) L cap) ∧ C5 wx g (q * 5) z) [12] (by kernel_rfl) ?_
    refine anyZ_take 0 8 (v := ptr b) rfl (by kernel_rfl) (fun _ _ _ h => h.elim) (Or.inl ⟨by rfl, fun wx hx => run_mv (by rfl) (by rfl)⟩) hS5 ?_
    try simp only [Act.put, List.getElem_toArray, List.getElem_cons_zero, List.getElem_cons_succ, List.setIfInBounds_toArray, List.set_cons_zero, List.set_cons_succ]
    refine anyZ_take 1 8 (v := ptr b) rfl (by kernel_rfl) (fun _ _ _ h => h.elim) (Or.inl ⟨by rfl, fun wx hx => run_nc (by rfl) (by rfl)⟩) hS5 ?_
    try simp only [Act.put, List.getElem_toArray, List.getElem_cons_zero, List.getElem_cons_succ, List.setIfInBounds_toArray, List.set_cons_zero, List.set_cons_succ]
    refine anyZ_take 2 8 (v := .pointer (some ⟨b, 1, none⟩)) rfl (by kernel_rfl) (fun _ _ _ h => h.elim) (Or.inl ⟨by rfl, fun wx hx => run_hf1 (by rfl) (by rfl)⟩) hS5 ?_
    try simp only [Act.put, List.getElem_toArray, List.getElem_cons_zero, List.getElem_cons_succ, List.setIfInBounds_toArray, List.set_cons_zero, List.set_cons_succ]
    refine anyZ_take 3 8 (v := .slice (some ⟨g, 0, none⟩) L cap) rfl (by kernel_rfl) (fun _ _ _ h => h.elim) (Or.inl ⟨by rfl, fun wx hx => run_row (by rfl) (by rfl) hx.1⟩) hS5 ?_
    try simp only [Act.put, List.getElem_toArray, List.getElem_cons_zero, List.getElem_cons_succ, List.setIfInBounds_toArray, List.set_cons_zero, List.set_cons_succ]
    refine anyZ_take 4 8 (v := ptr b) rfl (by kernel_rfl) (fun _ _ _ h => h.elim) (Or.inl ⟨by rfl, fun wx hx => run_mv (by rfl) (by rfl)⟩) hS5 ?_
    try simp only [Act.put, List.getElem_toArray, List.getElem_cons_zero, List.getElem_cons_succ, List.setIfInBounds_toArray, List.set_cons_zero, List.set_cons_succ]
    refine anyZ_take 5 8 (v := ptr b) rfl (by kernel_rfl) (fun _ _ _ h => h.elim) (Or.inl ⟨by rfl, fun wx hx => run_nc (by rfl) (by rfl)⟩) hS5 ?_
    try simp only [Act.put, List.getElem_toArray, List.getElem_cons_zero, List.getElem_cons_succ, List.setIfInBounds_toArray, List.set_cons_zero, List.set_cons_succ]
    refine anyZ_take 6 8 (v := .pointer (some ⟨b, 1, none⟩)) rfl (by kernel_rfl) (fun _ _ _ h => h.elim) (Or.inl ⟨by rfl, fun wx hx => run_hf1 (by rfl) (by rfl)⟩) hS5 ?_
    try simp only [Act.put, List.getElem_toArray, List.getElem_cons_zero, List.getElem_cons_succ, List.setIfInBounds_toArray, List.set_cons_zero, List.set_cons_succ]
    refine anyZ_take 7 8 (v := .slice (some ⟨g, 0, none⟩) L cap) rfl (by kernel_rfl) (fun _ _ _ h => h.elim) (Or.inl ⟨by rfl, fun wx hx => run_row (by rfl) (by rfl) hx.1⟩) hS5 ?_
    try simp only [Act.put, List.getElem_toArray, List.getElem_cons_zero, List.getElem_cons_succ, List.setIfInBounds_toArray, List.set_cons_zero, List.set_cons_succ]
    refine anyZ_take 8 8 (v := .int .i64 (q : Nat)) rfl (by kernel_rfl) (fun _ _ _ h => h.elim) (Or.inl ⟨by rfl, fun wx hx => run_mv (by rfl) (by rfl)⟩) hS5 ?_
    try simp only [Act.put, List.getElem_toArray, List.getElem_cons_zero, List.getElem_cons_succ, List.setIfInBounds_toArray, List.set_cons_zero, List.set_cons_succ]
    refine anyZ_take 9 8 (v := .pointer (some ⟨g, q * 5, none⟩)) rfl (by kernel_rfl) (fun _ _ _ h => h.elim) (Or.inl ⟨by rfl, fun wx hx => run_iat (by rfl) (by rfl) (by rfl) hql⟩) hS5 ?_
    try simp only [Act.put, List.getElem_toArray, List.getElem_cons_zero, List.getElem_cons_succ, List.setIfInBounds_toArray, List.set_cons_zero, List.set_cons_succ]
    refine anyZ_take 10 8 (v := z.v) rfl (by kernel_rfl) (fun _ _ _ h => h.elim) (Or.inl ⟨by rfl, fun wx hx => run_item (by rfl) (by rfl) hx.2⟩) hS5 ?_
    try simp only [Act.put, List.getElem_toArray, List.getElem_cons_zero, List.getElem_cons_succ, List.setIfInBounds_toArray, List.set_cons_zero, List.set_cons_succ]
    refine anyZ_take 11 8 (v := .pointer (some ⟨g, 0, none⟩)) rfl (by kernel_rfl) (fun _ _ _ h => h.elim) (Or.inl ⟨by rfl, fun wx hx => run_i0 (by rfl) (by rfl) (by rfl) hl0⟩) hS5 ?_
    try simp only [Act.put, List.getElem_toArray, List.getElem_cons_zero, List.getElem_cons_succ, List.setIfInBounds_toArray, List.set_cons_zero, List.set_cons_succ]
    refine anyZ_ready (rs := [12]) (by kernel_rfl) (by simp) ?_
    refine readyZ.skip rfl rfl (run_put (by rfl) (by rfl) (by rfl) c0 fz) (fun h => absurd (by decide) h) ?_ readyZ.nil
    try simp only [Act.put, List.getElem_toArray, List.getElem_cons_zero, List.getElem_cons_succ, List.setIfInBounds_toArray, List.set_cons_zero, List.set_cons_succ]
    rw [HE1.out]
    refine anyZ_done (by kernel_rfl) ?_ _
    dsimp only [Only, Exit.then]
    go_wp2_with (first | rw [HE2.out] | rw [HE3.out])
    refine HSk.out.mono ?_
    rintro e w4 ⟨rfl, l4, hH4, hk4⟩
    obtain ⟨n0, n1⟩ := HKB.out w4 l4 hk4
    obtain ⟨⟨m0, m1, m2, m3⟩, ⟨m4, m5, m6, m7⟩, -⟩ := n0
    obtain ⟨⟨o0, o1, o2, o3⟩, -, -⟩ := n1
    have HFi := hide (HFin.out w4 l4 hH4 hk4 _ (set4_turns w4 w.heap.size (.int .i64 t.x) (.int .i64 t.y) (.int .i64 t.c) (.int .i64 t.f)))
    have hne2 : ¬ X.heap.size = w.heap.size := by omega
    clear hk4 hH4
    go_wp2_with fail
    refine bodyPost_ret (v := .tuple #[rv t.x t.y t.c t.f, .bool true]) (by simp [results, Tryz.results107, go_sem, rv, m0, m1, m2, m3]) rfl ?_
    exact ⟨t, rfl, HFi.out⟩
  have hvd := (HKp.out X.drew (Below.refl _ _).drew)
  have hS4 : (fun wx : World => wx.cell? ⟨b, 1, none⟩ = some (.slice (some ⟨g, 0, none⟩) L cap) ∧ C5 wx g 0 t) X.drew := ⟨hvd.1.c 1, hvd.2.2.2⟩
  refine wp_region_z (fun wx : World => wx.cell? ⟨b, 1, none⟩ = some (.slice (some ⟨g, 0, none⟩) L cap) ∧ C5 wx g 0 t) [] (by kernel_rfl) ?_
  refine anyZ_take 0 8 (v := ptr b) rfl (by kernel_rfl) (fun _ _ _ h => h.elim) (Or.inl ⟨by rfl, fun wx hx => run_mv (by rfl) (by rfl)⟩) hS4 ?_
  try simp only [Act.put, List.getElem_toArray, List.getElem_cons_zero, List.getElem_cons_succ, List.setIfInBounds_toArray, List.set_cons_zero, List.set_cons_succ]
  refine anyZ_take 1 8 (v := ptr b) rfl (by kernel_rfl) (fun _ _ _ h => h.elim) (Or.inl ⟨by rfl, fun wx hx => run_nc (by rfl) (by rfl)⟩) hS4 ?_
  try simp only [Act.put, List.getElem_toArray, List.getElem_cons_zero, List.getElem_cons_succ, List.setIfInBounds_toArray, List.set_cons_zero, List.set_cons_succ]
  refine anyZ_take 2 8 (v := .pointer (some ⟨b, 1, none⟩)) rfl (by kernel_rfl) (fun _ _ _ h => h.elim) (Or.inl ⟨by rfl, fun wx hx => run_hf1 (by rfl) (by rfl)⟩) hS4 ?_
  try simp only [Act.put, List.getElem_toArray, List.getElem_cons_zero, List.getElem_cons_succ, List.setIfInBounds_toArray, List.set_cons_zero, List.set_cons_succ]
  refine anyZ_take 3 8 (v := .slice (some ⟨g, 0, none⟩) L cap) rfl (by kernel_rfl) (fun _ _ _ h => h.elim) (Or.inl ⟨by rfl, fun wx hx => run_row (by rfl) (by rfl) hx.1⟩) hS4 ?_
  try simp only [Act.put, List.getElem_toArray, List.getElem_cons_zero, List.getElem_cons_succ, List.setIfInBounds_toArray, List.set_cons_zero, List.set_cons_succ]
  refine anyZ_take 4 8 (v := .pointer (some ⟨g, 0, none⟩)) rfl (by kernel_rfl) (fun _ _ _ h => h.elim) (Or.inl ⟨by rfl, fun wx hx => run_i0 (by rfl) (by rfl) (by rfl) hl0⟩) hS4 ?_
  try simp only [Act.put, List.getElem_toArray, List.getElem_cons_zero, List.getElem_cons_succ, List.setIfInBounds_toArray, List.set_cons_zero, List.set_cons_succ]
  refine anyZ_take 5 8 (v := .pointer (some ⟨g, 0, none⟩)) rfl (by kernel_rfl) (fun _ _ _ h => h.elim) (Or.inl ⟨by rfl, fun wx hx => run_if0 (by rfl) (by rfl)⟩) hS4 ?_
  try simp only [Act.put, List.getElem_toArray, List.getElem_cons_zero, List.getElem_cons_succ, List.setIfInBounds_toArray, List.set_cons_zero, List.set_cons_succ]
  refine anyZ_take 6 8 (v := rv t.x t.y t.c t.f) rfl (by kernel_rfl) (fun _ _ _ h => h.elim) (Or.inl ⟨by rfl, fun wx hx => run_rv (by rfl) (by rfl) hx.2.1 hx.2.2.1 hx.2.2.2.1 hx.2.2.2.2.1⟩) hS4 ?_
  try simp only [Act.put, List.getElem_toArray, List.getElem_cons_zero, List.getElem_cons_succ, List.setIfInBounds_toArray, List.set_cons_zero, List.set_cons_succ]
  refine anyZ_take 7 8 (v := ptr b) rfl (by kernel_rfl) (fun _ _ _ h => h.elim) (Or.inl ⟨by rfl, fun wx hx => run_mv (by rfl) (by rfl)⟩) hS4 ?_
  try simp only [Act.put, List.getElem_toArray, List.getElem_cons_zero, List.getElem_cons_succ, List.setIfInBounds_toArray, List.set_cons_zero, List.set_cons_succ]
  refine anyZ_take 8 8 (v := ptr b) rfl (by kernel_rfl) (fun _ _ _ h => h.elim) (Or.inl ⟨by rfl, fun wx hx => run_nc (by rfl) (by rfl)⟩) hS4 ?_
  try simp only [Act.put, List.getElem_toArray, List.getElem_cons_zero, List.getElem_cons_succ, List.setIfInBounds_toArray, List.set_cons_zero, List.set_cons_succ]
  refine anyZ_take 9 8 (v := .pointer (some ⟨b, 1, none⟩)) rfl (by kernel_rfl) (fun _ _ _ h => h.elim) (Or.inl ⟨by rfl, fun wx hx => run_hf1 (by rfl) (by rfl)⟩) hS4 ?_
  try simp only [Act.put, List.getElem_toArray, List.getElem_cons_zero, List.getElem_cons_succ, List.setIfInBounds_toArray, List.set_cons_zero, List.set_cons_succ]
  refine anyZ_take 10 8 (v := .slice (some ⟨g, 0, none⟩) L cap) rfl (by kernel_rfl) (fun _ _ _ h => h.elim) (Or.inl ⟨by rfl, fun wx hx => run_row (by rfl) (by rfl) hx.1⟩) hS4 ?_
  try simp only [Act.put, List.getElem_toArray, List.getElem_cons_zero, List.getElem_cons_succ, List.setIfInBounds_toArray, List.set_cons_zero, List.set_cons_succ]
  refine anyZ_take 11 8 (v := .int .i64 (L : Nat)) rfl (by kernel_rfl) (fun _ _ _ h => h.elim) (Or.inl ⟨by rfl, fun wx hx => run_len (by rfl) (by rfl)⟩) hS4 ?_
  try simp only [Act.put, List.getElem_toArray, List.getElem_cons_zero, List.getElem_cons_succ, List.setIfInBounds_toArray, List.set_cons_zero, List.set_cons_succ]
  refine anyZ_take 12 8 (v := .int .i64 (q : Nat)) rfl (by kernel_rfl) (fun _ _ _ h => h.elim) (Or.inl ⟨by rfl, fun wx hx => run_pred (by rfl) (by rfl) (by rfl) hq (by omega)⟩) hS4 ?_
  try simp only [Act.put, List.getElem_toArray, List.getElem_cons_zero, List.getElem_cons_succ, List.setIfInBounds_toArray, List.set_cons_zero, List.set_cons_succ]
  have hb13 : Below X.heap.size X (X.drew.alloc (.cells #[.int .i64 0, .int .i64 0, .int .i64 0, .int .i64 0] 91)) := bt (Below.refl _ _).drew (box1 _ _)
  have hF13 : Four (X.drew.alloc (.cells #[.int .i64 0, .int .i64 0, .int .i64 0, .int .i64 0] 91)) X.drew.heap.size 0 0 0 0 := by simp [Four, go_sem]
  have hv13 := HKp.out _ hb13
  refine anyZ_ready (rs := [13]) (by kernel_rfl) (by simp) ?_
  refine readyZ.cons rfl rfl (run_box85 (by rfl)) (fun _ => ⟨hv13.1.c 1, hv13.2.2.2⟩) ?_ readyZ.nil
  try simp only [Act.put, List.getElem_toArray, List.getElem_cons_zero, List.getElem_cons_succ, List.setIfInBounds_toArray, List.set_cons_zero, List.set_cons_succ]
  have t14 := set4_turns (X.drew.alloc (.cells #[.int .i64 0, .int .i64 0, .int .i64 0, .int .i64 0] 91)) X.drew.heap.size (.int .i64 t.x) (.int .i64 t.y) (.int .i64 t.c) (.int .i64 t.f)
  have hb14 := hb13.trans (t14.below (B := X.heap.size) (fun k e => by subst e; exact Nat.le_refl _) hb13.size)
  have hv14 := HKp.out _ hb14
  have hF14 := four_set (p := t.x) (q := t.y) (c := t.c) (d := t.f) hF13
  refine anyZ_ready (rs := [14]) (by kernel_rfl) (by simp) ?_
  refine readyZ.skip rfl rfl (run_put85 (by rfl) (by rfl) (by rfl) hF13) (fun _ => ⟨hv14.1.c 1, hv14.2.2.2⟩) ?_ readyZ.nil
  try simp only [Act.put, List.getElem_toArray, List.getElem_cons_zero, List.getElem_cons_succ, List.setIfInBounds_toArray, List.set_cons_zero, List.set_cons_succ]
  refine anyZ_ready (rs := [15]) (by kernel_rfl) (by simp) ?_
  refine readyZ.cons rfl rfl (run_as (v := .int .i64 (q : Nat)) (by rfl) (by rfl)) (fun _ => ⟨hv14.1.c 1, hv14.2.2.2⟩) ?_ readyZ.nil
  try simp only [Act.put, List.getElem_toArray, List.getElem_cons_zero, List.getElem_cons_succ, List.setIfInBounds_toArray, List.set_cons_zero, List.set_cons_succ]
  exact anyZ_done (by kernel_rfl) ⟨⟨hb14, hF14⟩, mkU _ _ _ rfl⟩ _
end Go.Proofs.YtggaobcdogbjhaaGreatDoor
