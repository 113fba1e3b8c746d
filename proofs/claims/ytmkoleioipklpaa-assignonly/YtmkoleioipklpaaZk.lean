/-
  A region that draws its order: its reads may be taken first, a run of them at once.
-/
import Derived.Test.YtmkoleioipklpaaRows
import Derived.WalkKit
import Derived.ProofKit
import Derived.OrdersHeld
import Derived.Deep.RegionHeld
namespace Go.Proofs.Ytmkoleioipklpaa
open Go.RowKit
set_option linter.unusedVariables false
set_option linter.unusedSimpArgs false
theorem hide {p : Prop} (h : p) : Hid p := h
theorem ex {α : Sort _} (a : α) : ∃ b, a = b := ⟨a, rfl⟩
/-- What is left where the code goes on as usual, and no other way out. -/
def Only (R : Act → World → Prop) : Exit → Act → World → Prop
  | .normal, a, w => R a w
  | _, _, _ => False
section
variable {P : Program} {ops : Array Oper} {Q : Exit → Act → World → Prop} {md : Region.Mode} {S : World → Prop} {zs : List Nat}
/-- Does operation j wait for i itself? -/
def linkB (md : Region.Mode) (ops : Array Oper) (i j : Nat) : Bool := match ops[j]? with
  | none => false
  | some o => o.after.any (fun e => Region.binds md e && e.on == i)
/-- Does z wait for i, over at most n others? -/
def waitB (md : Region.Mode) (ops : Array Oper) (z : Nat) : Nat → Nat → Bool
  | 0, _ => false
  | n + 1, i => linkB md ops i z || (List.range ops.size).any (fun j => linkB md ops i j && waitB md ops z n j)
/-- Whatever has come up had what it waits for. -/
def shutB (md : Region.Mode) (ops : Array Oper) (L : Array Bool) : Bool :=
  (List.range ops.size).all (fun k => !(L.getD k false) || match ops[k]? with
    | none => true
    | some o => o.after.all (fun e => !(Region.binds md e) || L.getD e.on false))
def ShutL (md : Region.Mode) (ops : Array Oper) (L : Array Bool) : Prop :=
  ∀ k o, ops[k]? = some o → L.getD k false = true → ∀ e ∈ o.after, Region.binds md e = true → L.getD e.on false = true
theorem shut_of {L : Array Bool} (h : shutB md ops L = true) : ShutL md ops L := by
  intro k o ho hk e he hb
  have h1 := List.all_eq_true.1 h k (List.mem_range.2 (Array.getElem?_eq_some_iff.1 ho).1)
  simp only [hk, ho, Bool.not_true, Bool.false_or] at h1
  have h2 := Array.all_eq_true_iff_forall_mem.1 h1 e he
  simpa [hb] using h2
theorem link_of {i j : Nat} (h : linkB md ops i j = true) : ∃ o, ops[j]? = some o ∧ ∃ e ∈ o.after, Region.binds md e = true ∧ e.on = i := by
  unfold linkB at h
  split at h
  · cases h
  · rename_i o ho
    obtain ⟨e, he, hb⟩ := Array.any_eq_true'.1 h
    simp only [Bool.and_eq_true, beq_iff_eq] at hb
    exact ⟨o, ho, e, he, hb.1, hb.2⟩
theorem ShutL.next {L : Array Bool} (h : ShutL md ops L) {j : Nat} (hj : j ∈ Region.ready md ops L) : ShutL md ops (L.setIfInBounds j true) := by
  intro k o ho hk e he hb
  refine getD_set_true ?_
  by_cases hjk : j = k
  · subst hjk
    obtain ⟨-, o', ho', hall⟩ := mem_ready.1 hj
    rw [ho] at ho'
    cases ho'
    exact hall e he hb
  · rw [getD_set_ne false hjk] at hk
    exact h k o ho hk e he hb
theorem ShutL.waits {z : Nat} {L : Array Bool} (h : ShutL md ops L) (hz : z ∈ Region.ready md ops L) : ∀ (n i : Nat), waitB md ops z n i = true → L.getD i false = true
  | 0, _, hw => by cases hw
  | n + 1, i, hw => by
    unfold waitB at hw
    rcases Bool.or_eq_true_iff.1 hw with hw | hw
    · obtain ⟨o, ho, e, he, hb, rfl⟩ := link_of hw
      obtain ⟨-, o', ho', hall⟩ := mem_ready.1 hz
      rw [ho] at ho'
      cases ho'
      exact hall e he hb
    · obtain ⟨j, -, hj⟩ := List.any_eq_true.1 hw
      simp only [Bool.and_eq_true] at hj
      have h1 := h.waits hz n j hj.2
      obtain ⟨o, ho, e, he, hb, rfl⟩ := link_of hj.1
      exact h j o ho h1 e he hb
/-- Whatever order is picked from here on; S holds behind every operation but zs. -/
def anyZ (P : Program) (md : Region.Mode) (ops : Array Oper) (Q : Exit → Act → World → Prop) (S : World → Prop) (zs : List Nat) : Nat → Array Bool → Act → World → Prop
  | 0, L, a, w => Region.ready md ops L = [] ∧ Q .normal a w
  | n + 1, L, a, w => (Region.ready md ops L = [] → Q .normal a w) ∧
      ∀ i ∈ Region.ready md ops L, wpOp P ops Q i (fun a' w' => (i ∉ zs → S w') ∧ anyZ P md ops Q S zs n (L.setIfInBounds i true) a' w') a w
theorem any_of_anyZ : ∀ (n : Nat) (L : Array Bool) (a : Act) (w : World), anyZ P md ops Q S zs n L a w → wpAny P md ops Q n L a w := by
  intro n
  induction n with
  | zero => exact fun _ _ _ h => h
  | succ n ih => exact fun L a w h => ⟨h.1, fun i hi => wpOp_mono (fun a' w' h' => ih _ a' w' h'.2) (h.2 i hi)⟩
theorem unlisted {L : Array Bool} {i : Nat} (h : L.getD i true = false) : L.getD i false = false := by
  rcases Nat.lt_or_ge i L.size with h' | h'
  · simpa [h'] using h
  · simp [Array.getElem?_eq_none h'] at h
theorem anyZ_first {i : Nat} {oi : Oper} {v : Value} (hi : ops[i]? = some oi) (hsel : ∀ (j : Nat) (o : Oper) cs b, ops[j]? = some o → o.op ≠ .select cs b)
    (hQ : ∀ c a w, Q (.panic c) (a.put oi.dst v) w → Q (.panic c) a w) {m : Nat} (n : Nat) :
    ∀ (L : Array Bool) (a : Act) (w : World), ShutL md ops L → (∀ z ∈ zs, L.getD z false = true ∨ waitB md ops z m i = true) → (∀ j oj, ops[j]? = some oj → j ≠ i → L.getD j true = false → (∀ e ∈ oj.after, Region.binds md e = true → e.on ≠ i) → oi.apart ops oj = true) →
      i ∈ Region.ready md ops L → YieldsIf P ops S oi v a → S w → anyZ P md ops Q S zs n (L.setIfInBounds i true) (a.put oi.dst v) w → anyZ P md ops Q S zs (n + 1) L a w := by
  induction n with
  | zero =>
    intro L a w hL hw hfree hr hy hS H
    refine ⟨fun h => absurd (h ▸ hr) List.not_mem_nil, fun j hj => ?_⟩
    by_cases hji : j = i
    · subst hji
      exact hy.wpOp hi hS ⟨fun _ => hS, H⟩
    · exact absurd (H.1 ▸ ready_mono hj hji) List.not_mem_nil
  | succ n ih =>
    intro L a w hL hw hfree hr hy hS H
    have hun := (mem_ready.1 hr).1
    refine ⟨fun h => absurd (h ▸ hr) List.not_mem_nil, fun j hj => ?_⟩
    by_cases hji : j = i
    · subst hji
      exact hy.wpOp hi hS ⟨fun _ => hS, H⟩
    · have hjz : j ∉ zs := fun e => by
        rcases hw j e with q | q
        · rw [unlisted (mem_ready.1 hj).1] at q
          cases q
        · have := hL.waits hj m i q
          rw [unlisted hun] at this
          cases this
      obtain ⟨hjun, oj, hoj, hall⟩ := mem_ready.1 hj
      have hno : ∀ e ∈ oj.after, Region.binds md e = true → e.on ≠ i := fun e he hb q => by
        have h1 := hall e he hb
        rw [q, unlisted hun] at h1
        cases h1
      refine wpOp_mono ?_ (wpOp_putIf hoj (hfree j oj hoj hji hjun hno) (fun cs b => hsel i oi cs b hi) (fun cs b => hsel j oj cs b hoj) hQ hy (H.2 j (ready_mono hj hji)))
      rintro a' w' ⟨hy', hS', hH'⟩
      refine ⟨hS', ih _ a' w' (hL.next hj) (fun z hz => (hw z hz).imp getD_set_true id) (fun k ok hk hki hkun hkno => hfree k ok hk hki ?_ hkno) (ready_mono hr (Ne.symm hji)) hy' (hS' hjz) ?_⟩
      · by_cases hjk : j = k
        · subst hjk; exact hjun
        · rwa [getD_set_ne true hjk] at hkun
      · rw [Array.setIfInBounds_comm _ _ hji]
        exact hH'
/-- Operation i is taken first. -/
theorem anyZ_take (i m : Nat) {oi : Oper} {v : Value} {n : Nat} {L : Array Bool} {a : Act} {w : World} (hi : ops[i]? = some oi)
    (hb : (Region.noSelect ops && Region.free md ops L i && (Region.ready md ops L).contains i && zs.all (fun z => L.getD z false || waitB md ops z m i) && shutB md ops L) = true)
    (hQ : ∀ c a w, Q (.panic c) (a.put oi.dst v) w → Q (.panic c) a w) (hy : YieldsIf P ops S oi v a) (hS : S w)
    (h : anyZ P md ops Q S zs n (L.setIfInBounds i true) (a.put oi.dst v) w) : anyZ P md ops Q S zs (n + 1) L a w := by
  simp only [Bool.and_eq_true] at hb
  exact anyZ_first (m := m) hi (Region.noSelect_spec hb.1.1.1.1) hQ n L a w (shut_of hb.2) (fun z hz => by have := List.all_eq_true.1 hb.1.2 z hz; simpa using this) (Region.free_spec hi hb.1.1.1.2) (by simpa using hb.1.1.2) hy hS h
/-- An operation that yields its value in whatever world may be taken first, whoever waits for it or not. -/
theorem anyZ_free {i : Nat} {oi : Oper} {v : Value} (hi : ops[i]? = some oi) (hsel : ∀ (j : Nat) (o : Oper) cs b, ops[j]? = some o → o.op ≠ .select cs b)
    (hQ : ∀ c a w, Q (.panic c) (a.put oi.dst v) w → Q (.panic c) a w) (n : Nat) :
    ∀ (L : Array Bool) (a : Act) (w : World), (∀ j oj, ops[j]? = some oj → j ≠ i → L.getD j true = false → (∀ e ∈ oj.after, Region.binds md e = true → e.on ≠ i) → oi.apart ops oj = true) →
      i ∈ Region.ready md ops L → YieldsIf P ops (fun _ => True) oi v a → (i ∉ zs → S w) → (i ∉ zs → ∀ (a' : Act) (w' : World), S w') → anyZ P md ops Q S zs n (L.setIfInBounds i true) (a.put oi.dst v) w → anyZ P md ops Q S zs (n + 1) L a w := by
  induction n with
  | zero =>
    intro L a w hfree hr hy hS hS2 H
    refine ⟨fun h => absurd (h ▸ hr) List.not_mem_nil, fun j hj => ?_⟩
    by_cases hji : j = i
    · subst hji
      exact hy.wpOp hi trivial ⟨hS, H⟩
    · exact absurd (H.1 ▸ ready_mono hj hji) List.not_mem_nil
  | succ n ih =>
    intro L a w hfree hr hy hS hS2 H
    have hun := (mem_ready.1 hr).1
    refine ⟨fun h => absurd (h ▸ hr) List.not_mem_nil, fun j hj => ?_⟩
    by_cases hji : j = i
    · subst hji
      exact hy.wpOp hi trivial ⟨hS, H⟩
    · obtain ⟨hjun, oj, hoj, hall⟩ := mem_ready.1 hj
      have hno : ∀ e ∈ oj.after, Region.binds md e = true → e.on ≠ i := fun e he hb q => by
        have h1 := hall e he hb
        rw [q, unlisted hun] at h1
        cases h1
      refine wpOp_mono ?_ (wpOp_putIf hoj (hfree j oj hoj hji hjun hno) (fun cs b => hsel i oi cs b hi) (fun cs b => hsel j oj cs b hoj) hQ hy (H.2 j (ready_mono hj hji)))
      rintro a' w' ⟨hy', hS', hH'⟩
      refine ⟨hS', ih _ a' w' (fun k ok hk hki hkun hkno => hfree k ok hk hki ?_ hkno) (ready_mono hr (Ne.symm hji)) hy' (fun q => hS2 q a' w') hS2 ?_⟩
      · by_cases hjk : j = k
        · subst hjk; exact hjun
        · rwa [getD_set_ne true hjk] at hkun
      · rw [Array.setIfInBounds_comm _ _ hji]
        exact hH'
/-- One of zs that yields its value in whatever world (a copy) is taken first. -/
theorem anyZ_copy (i : Nat) {oi : Oper} {v : Value} {n : Nat} {L : Array Bool} {a : Act} {w : World} (hi : ops[i]? = some oi) (hz : zs.contains i = true)
    (hb : (Region.noSelect ops && Region.free md ops L i && (Region.ready md ops L).contains i) = true)
    (hQ : ∀ c a w, Q (.panic c) (a.put oi.dst v) w → Q (.panic c) a w) (hy : YieldsIf P ops (fun _ => True) oi v a)
    (h : anyZ P md ops Q S zs n (L.setIfInBounds i true) (a.put oi.dst v) w) : anyZ P md ops Q S zs (n + 1) L a w := by
  simp only [Bool.and_eq_true] at hb
  have hm : i ∈ zs := by simpa using hz
  exact anyZ_free hi (Region.noSelect_spec hb.1.1) hQ n L a w (Region.free_spec hi hb.1.2) (by simpa using hb.2) hy (fun q => absurd hm q) (fun q => absurd hm q) h
/-- What each of some operations, coming up next, leads to. -/
def readyZ (P : Program) (md : Region.Mode) (ops : Array Oper) (Q : Exit → Act → World → Prop) (S : World → Prop) (zs : List Nat) (n : Nat) (L : Array Bool) (a : Act) (w : World) (rs : List Nat) : Prop :=
  ∀ i ∈ rs, wpOp P ops Q i (fun a' w' => (i ∉ zs → S w') ∧ anyZ P md ops Q S zs n (L.setIfInBounds i true) a' w') a w
theorem readyZ.nil {n : Nat} {L : Array Bool} {a : Act} {w : World} : readyZ P md ops Q S zs n L a w [] := fun i h => absurd h List.not_mem_nil
/-- The next one is run: it ends with a value. -/
theorem readyZ.cons {n : Nat} {L : Array Bool} {a : Act} {w : World} {i : Nat} {rs : List Nat} {o : Oper} (ho : ops[i]? = some o) (hg : o.guard = none) {v' : Value} {w' : World}
    (hr : (execOp a.eval o).run P w = .ok (.value v') w') (hS : i ∉ zs → S w') (h : anyZ P md ops Q S zs n (L.setIfInBounds i true) (a.put o.dst v') w')
    (hrest : readyZ P md ops Q S zs n L a w rs) : readyZ P md ops Q S zs n L a w (i :: rs) := fun j hj => by
  rcases List.mem_cons.1 hj with rfl | hj
  · refine wpOp_step ho (fun K hK => ?_)
    have hw : Region.wanted o (yielded ops a.tmps) = true := by simp [Region.wanted, hg]
    rw [if_pos hw]
    unfold Oper.wp
    rw [hr]
    exact hK _ _ ⟨hS, h⟩
  · exact hrest j hj
/-- The next one is run: it leaves nothing in a slot. -/
theorem readyZ.skip {n : Nat} {L : Array Bool} {a : Act} {w : World} {i : Nat} {rs : List Nat} {o : Oper} (ho : ops[i]? = some o) (hg : o.guard = none) {w' : World}
    (hr : (execOp a.eval o).run P w = .ok .skip w') (hS : i ∉ zs → S w') (h : anyZ P md ops Q S zs n (L.setIfInBounds i true) (a.put o.dst undef) w')
    (hrest : readyZ P md ops Q S zs n L a w rs) : readyZ P md ops Q S zs n L a w (i :: rs) := fun j hj => by
  rcases List.mem_cons.1 hj with rfl | hj
  · refine wpOp_step ho (fun K hK => ?_)
    have hw : Region.wanted o (yielded ops a.tmps) = true := by simp [Region.wanted, hg]
    rw [if_pos hw]
    unfold Oper.wp
    rw [hr]
    exact hK _ _ ⟨hS, h⟩
  · exact hrest j hj
/-- The next one calls a function of the program, which returns. -/
theorem readyZ.call {n : Nat} {L : Array Bool} {a : Act} {w : World} {i : Nat} {rs : List Nat} {o : Oper} (ho : ops[i]? = some o) (hg : o.guard = none) {f : FuncId}
    {vs : Array Value} (hrun : (execOp a.eval o).run P w = .ok (.enter f vs) w) {R : Ending → World → Prop} (hc : Calls P f vs w R) (hR : ∀ e w', R e w' → ∃ v, e = .returned v ∧ (i ∉ zs → S w') ∧ anyZ P md ops Q S zs n (L.setIfInBounds i true) (a.put o.dst v) w')
    (hrest : readyZ P md ops Q S zs n L a w rs) : readyZ P md ops Q S zs n L a w (i :: rs) := fun j hj => by
  rcases List.mem_cons.1 hj with rfl | hj
  · refine wpOp_step ho (fun K hK => ?_)
    have hw : Region.wanted o (yielded ops a.tmps) = true := by simp [Region.wanted, hg]
    rw [if_pos hw]
    unfold Oper.wp
    rw [hrun]
    refine Calls.mono hc (fun e w' h => ?_)
    obtain ⟨v, rfl, h1, h2⟩ := hR e w' h
    exact hK _ _ ⟨h1, h2⟩
  · exact hrest j hj
theorem anyZ_ready {rs : List Nat} {n : Nat} {L : Array Bool} {a : Act} {w : World} (hr : Region.ready md ops L = rs) (hne : rs ≠ [])
    (h : readyZ P md ops Q S zs n L a w rs) : anyZ P md ops Q S zs (n + 1) L a w := ⟨fun h0 => absurd (hr ▸ h0) hne, hr ▸ h⟩
theorem anyZ_done {L : Array Bool} {a : Act} {w : World} (hr : Region.ready md ops L = []) (h : Q .normal a w) : ∀ n, anyZ P md ops Q S zs n L a w
  | 0 => ⟨hr, h⟩
  | _ + 1 => ⟨fun _ => h, fun i hi => absurd (hr ▸ hi) List.not_mem_nil⟩
theorem wp_region_z (S : World → Prop) (zs : List Nat) {id : Nat} {a : Act} {w : World} (hm : P.follows .mixedOrders = true)
    (h : anyZ P .any ops Q S zs ops.size (Array.replicate ops.size false) a w.drew) : (Code.region id ops true).wp P Q a w :=
  wp_region_any hm (any_of_anyZ _ _ _ _ h)
end
theorem readyZ.callG {P : Program} {md : Region.Mode} {ops : Array Oper} {Q : Exit → Act → World → Prop} {S : World → Prop} {zs : List Nat} {n : Nat} {L : Array Bool} {a : Act} {w : World} {i : Nat} {rs : List Nat} {o : Oper} (ho : ops[i]? = some o) (hg : Region.wanted o (yielded ops a.tmps) = true) {f : FuncId}
    {vs : Array Value} (hrun : (execOp a.eval o).run P w = .ok (.enter f vs) w) {R : Ending → World → Prop} (hc : Calls P f vs w R) (hR : ∀ e w', R e w' → ∃ v, e = .returned v ∧ (i ∉ zs → S w') ∧ anyZ P md ops Q S zs n (L.setIfInBounds i true) (a.put o.dst v) w')
    (hrest : readyZ P md ops Q S zs n L a w rs) : readyZ P md ops Q S zs n L a w (i :: rs) := fun j hj => by
  rcases List.mem_cons.1 hj with rfl | hj
  · refine wpOp_step ho (fun K hK => ?_)
    rw [if_pos hg]
    unfold Oper.wp
    rw [hrun]
    refine Calls.mono hc (fun e w' h => ?_)
    obtain ⟨v, rfl, h1, h2⟩ := hR e w' h
    exact hK _ _ ⟨h1, h2⟩
  · exact hrest j hj
theorem run_mv {P : Program} {ev : Operand → Value} {o : Oper} {w : World} {x : Operand} {v : Value} (ho : o.op = .move x) (hx : ev x = v) : (execOp ev o).run P w = .ok (.value v) w := by
  unfold execOp; rw [ho, ← hx]; rfl
theorem run_as {P : Program} {ev : Operand → Value} {o : Oper} {w : World} {x : Operand} {v : Value} (ho : o.op = .assign x) (hx : ev x = v) : (execOp ev o).run P w = .ok (.value v) w := by
  unfold execOp; rw [ho, ← hx]; rfl
theorem run_nc {P : Program} {ev : Operand → Value} {o : Oper} {w : World} {x : Operand} {ad : Addr} (ho : o.op = .nilCheck x) (hx : ev x = .pointer (some ad)) : (execOp ev o).run P w = .ok (.value (.pointer (some ad))) w := by
  unfold execOp; rw [ho]; simp only [hx]; rfl
theorem wp_only {c : Code} {Q : Exit → Act → World → Prop} {a : Act} {w : World} (h : Code.wp Try.prog c (Only (fun a' w' => Q .normal a' w')) a w) : Code.wp Try.prog c Q a w := by
  refine Code.wp_mono ?_ h
  rintro (_ | _ | _ | _ | _) a' w' hO
  all_goals first | exact hO.elim | exact hO
section
variable {P : Program} {ops : Array Oper} {R : Act → World → Prop} {md : Region.Mode} {S : World → Prop} {zs : List Nat} {n : Nat} {L : Array Bool} {a : Act} {w : World} {oi : Oper}
/-- anyZ_take where no other way out is: the value is named. -/
theorem zt (i m : Nat) (v : Value) (hi : ops[i]? = some oi)
    (hb : (Region.noSelect ops && Region.free md ops L i && (Region.ready md ops L).contains i && zs.all (fun z => L.getD z false || waitB md ops z m i) && shutB md ops L) = true)
    (hg : Region.wanted oi (yielded ops a.tmps) = true) (hr : ∀ wx, S wx → (execOp a.eval oi).run P wx = .ok (.value v) wx) (hS : S w)
    (h : anyZ P md ops (Only R) S zs n (L.setIfInBounds i true) (a.put oi.dst v) w) : anyZ P md ops (Only R) S zs (n + 1) L a w :=
  anyZ_take i m hi hb (fun _ _ _ h => h.elim) (.inl ⟨hg, hr⟩) hS h
/-- As zt, for a copy. -/
theorem zm (i m : Nat) (v : Value) {x : Operand} (hi : ops[i]? = some oi)
    (hb : (Region.noSelect ops && Region.free md ops L i && (Region.ready md ops L).contains i && zs.all (fun z => L.getD z false || waitB md ops z m i) && shutB md ops L) = true)
    (hg : Region.wanted oi (yielded ops a.tmps) = true) (ho : oi.op = .move x) (hx : a.eval x = v) (hS : S w)
    (h : anyZ P md ops (Only R) S zs n (L.setIfInBounds i true) (a.put oi.dst v) w) : anyZ P md ops (Only R) S zs (n + 1) L a w :=
  zt i m v hi hb hg (fun _ _ => run_mv ho hx) hS h
/-- As zt, for what is not wanted. -/
theorem zu (i m : Nat) (hi : ops[i]? = some oi)
    (hb : (Region.noSelect ops && Region.free md ops L i && (Region.ready md ops L).contains i && zs.all (fun z => L.getD z false || waitB md ops z m i) && shutB md ops L) = true)
    (hg : Region.wanted oi (yielded ops a.tmps) = false) (hS : S w)
    (h : anyZ P md ops (Only R) S zs n (L.setIfInBounds i true) (a.put oi.dst undef) w) : anyZ P md ops (Only R) S zs (n + 1) L a w :=
  anyZ_take i m hi hb (fun _ _ _ h => h.elim) (.inr ⟨hg, rfl⟩) hS h
/-- The operations from i on are taken one behind the other, each with its value; K: what is then to be shown. -/
def Gz (P : Program) (ops : Array Oper) (S : World → Prop) (K : Act → Prop) : Nat → List Value → Act → Prop
  | _, [], a => K a
  | i, v :: r, a => ∃ oi, ops[i]? = some oi ∧ Region.wanted oi (yielded ops a.tmps) = true ∧ (∀ wx, S wx → (execOp a.eval oi).run P wx = .ok (.value v) wx) ∧ Gz P ops S K (i + 1) r (a.put oi.dst v)
theorem zn {i : Nat} {K : Act → Prop} (h : K a) : Gz P ops S K i [] a := h
theorem zc {i : Nat} {v : Value} {r : List Value} {K : Act → Prop} (hi : ops[i]? = some oi) (hg : Region.wanted oi (yielded ops a.tmps) = true) (hr : ∀ wx, S wx → (execOp a.eval oi).run P wx = .ok (.value v) wx) (h : Gz P ops S K (i + 1) r (a.put oi.dst v)) : Gz P ops S K i (v :: r) a := ⟨oi, hi, hg, hr, h⟩
theorem zo {i : Nat} {v : Value} {r : List Value} {K : Act → Prop} {x : Operand} (hi : ops[i]? = some oi) (hg : Region.wanted oi (yielded ops a.tmps) = true) (ho : oi.op = .move x) (hx : a.eval x = v) (h : Gz P ops S K (i + 1) r (a.put oi.dst v)) : Gz P ops S K i (v :: r) a := ⟨oi, hi, hg, fun _ _ => run_mv ho hx, h⟩
def Lz : Nat → Nat → Array Bool → Array Bool
  | _, 0, L => L
  | i, k + 1, L => Lz (i + 1) k (L.setIfInBounds i true)
def Bz (md : Region.Mode) (ops : Array Oper) (zs : List Nat) (m : Nat) : Nat → Nat → Array Bool → Bool
  | _, 0, _ => true
  | i, k + 1, L => (Region.noSelect ops && Region.free md ops L i && (Region.ready md ops L).contains i && zs.all (fun z => L.getD z false || waitB md ops z m i) && shutB md ops L) && Bz md ops zs m (i + 1) k (L.setIfInBounds i true)
theorem zv_of (m : Nat) (hS : S w) {M : Array Bool} : ∀ (l : List Value) (i : Nat) (L : Array Bool) (a : Act), Bz md ops zs m i l.length L = true → Lz i l.length L = M → Gz P ops S (fun b => anyZ P md ops (Only R) S zs n M b w) i l a → anyZ P md ops (Only R) S zs (n + l.length) L a w
  | [], i, L, a, _, hM, h => by subst hM; exact h
  | v :: r, i, L, a, hb, hM, ⟨oi, hi, hw, hr, hg⟩ => by
    obtain ⟨h1, h2⟩ := (Bool.and_eq_true _ _).mp hb
    exact zt i m v hi h1 hw hr hS (zv_of m hS r (i + 1) _ _ h2 hM hg)
/-- The operations from i on are taken first, with the values l. -/
theorem zv (i k m : Nat) (l : List Value) {N : Nat} (hN : N = n + k) (hk : k = l.length) (hb : Bz md ops zs m i k L = true) (hS : S w) (h : Gz P ops S (fun b => anyZ P md ops (Only R) S zs n (Lz i k L) b w) i l a) : anyZ P md ops (Only R) S zs N L a w := by
  subst hN hk
  exact zv_of m hS l i L a hb rfl h
theorem zq {Q : Exit → Act → World → Prop} (i : Nat) (hr : Region.ready md ops L = [i]) (ho : ops[i]? = some oi) (hg : oi.guard = none) {v' : Value} {w' : World} (hx : (execOp a.eval oi).run P w = .ok (.value v') w') (hS : i ∉ zs → S w') (h : anyZ P md ops Q S zs n (L.setIfInBounds i true) (a.put oi.dst v') w') : anyZ P md ops Q S zs (n + 1) L a w :=
  anyZ_ready hr (by simp) (readyZ.cons ho hg hx hS h readyZ.nil)
theorem zw {Q : Exit → Act → World → Prop} (r : Nat) (rs : List Nat) (hr : Region.ready md ops L = r :: rs) (h : readyZ P md ops Q S zs n L a w (r :: rs)) : anyZ P md ops Q S zs (n + 1) L a w :=
  anyZ_ready hr (by simp) h
end
theorem zj : (∀ (f : Operand → Value) (l : List Operand), l.toArray.map f = (l.map f).toArray) ∧ (∀ (f : Operand → Value) (a : Operand) (l : List Operand), (a :: l).map f = f a :: l.map f) ∧ (∀ (f : Operand → Value), ([] : List Operand).map f = []) := ⟨fun _ _ => List.map_toArray .., fun _ _ _ => rfl, fun _ => rfl⟩
def Rcl (f : FuncId) : Prop := ∀ {ev : Operand → Value} {o : Oper} {w : World} {ar : Array Operand} {ts : Array TypeId} {vs : Array Value}, o.op = .call { callee := .value (.func f), args := ar, argTypes := ts } → ev (.func f) = .func (.func f) #[] #[] → ar.map ev = vs → (execOp ev o).run Try.prog w = .ok (.enter f vs) w
theorem zl {f : FuncId} (h : ∀ vs w, (callFunc f vs).run Try.prog w = .ok (.enter f vs) w) : Rcl f := by
  intro ev o w ar ts vs hop hf hvs
  unfold execOp
  simp only [hop, resolve, hf, hvs]
  go_simp
theorem zp : (∀ (a : Act) (d : Tmp) (v : Value), a.put (some d) v = { a with tmps := a.tmps.setIfInBounds d v }) ∧ (∀ (a : Act) (v : Value), a.put none v = a) ∧ (∀ (l : List Value) (i : Nat) (x : Value), l.toArray.setIfInBounds i x = (l.set i x).toArray) ∧ (∀ (a : Value) (l : List Value) (b : Value), (a :: l).set 0 b = b :: l) ∧ (∀ (a : Value) (l : List Value) (i : Nat) (b : Value), (a :: l).set (i + 1) b = a :: l.set i b) ∧ (∀ (l : List Oper) (i : Nat) (h : i < l.toArray.size), l.toArray[i] = l[i]'(by simpa using h)) ∧ (∀ (a : Oper) (l : List Oper) (h : 0 < (a :: l).length), (a :: l)[0] = a) ∧ (∀ (a : Oper) (l : List Oper) (i : Nat) (h : i + 1 < (a :: l).length), (a :: l)[i + 1] = l[i]'(Nat.lt_of_succ_lt_succ h)) :=
  ⟨fun _ _ _ => rfl, fun _ _ => rfl, fun _ _ _ => List.setIfInBounds_toArray .., fun _ _ _ => rfl, fun _ _ _ _ => rfl, fun _ _ _ => rfl, fun _ _ _ => rfl, fun _ _ _ _ => rfl⟩
section
variable {P : Program} {ops : Array Oper} {R : Act → World → Prop} {md : Region.Mode} {S : World → Prop} {zs : List Nat} {n : Nat} {L : Array Bool} {a : Act} {w : World} {oi : Oper}
/-- k operations from i on are taken one behind the other, their values found on the way; K: what is then to be shown. -/
def Gzx (P : Program) (ops : Array Oper) (S : World → Prop) (K : Act → Prop) : Nat → Nat → Act → Prop
  | _, 0, a => K a
  | i, k + 1, a => ∃ oi v, ops[i]? = some oi ∧ YieldsIf P ops S oi v a ∧ Gzx P ops S K (i + 1) k (a.put oi.dst v)
theorem zxn {i : Nat} {K : Act → Prop} (h : K a) : Gzx P ops S K i 0 a := h
/-- One that reads. -/
theorem zxc {i k : Nat} {v : Value} {K : Act → Prop} (hi : ops[i]? = some oi) (hg : Region.wanted oi (yielded ops a.tmps) = true) (hr : ∀ wx, S wx → (execOp a.eval oi).run P wx = .ok (.value v) wx) (h : Gzx P ops S K (i + 1) k (a.put oi.dst v)) : Gzx P ops S K i (k + 1) a := ⟨oi, v, hi, .inl ⟨hg, hr⟩, h⟩
/-- A copy. -/
theorem zxm {i k : Nat} {v : Value} {K : Act → Prop} {x : Operand} (hi : ops[i]? = some oi) (hg : Region.wanted oi (yielded ops a.tmps) = true) (ho : oi.op = .move x) (hx : a.eval x = v) (h : Gzx P ops S K (i + 1) k (a.put oi.dst v)) : Gzx P ops S K i (k + 1) a := ⟨oi, v, hi, .inl ⟨hg, fun _ _ => run_mv ho hx⟩, h⟩
/-- One that is not wanted. -/
theorem zxu {i k : Nat} {K : Act → Prop} (hi : ops[i]? = some oi) (hg : Region.wanted oi (yielded ops a.tmps) = false) (h : Gzx P ops S K (i + 1) k (a.put oi.dst undef)) : Gzx P ops S K i (k + 1) a := ⟨oi, undef, hi, .inr ⟨hg, rfl⟩, h⟩
theorem zx_of (m : Nat) (hS : S w) {M : Array Bool} : ∀ (k i : Nat) (L : Array Bool) (a : Act), Bz md ops zs m i k L = true → Lz i k L = M → Gzx P ops S (fun b => anyZ P md ops (Only R) S zs n M b w) i k a → anyZ P md ops (Only R) S zs (n + k) L a w
  | 0, i, L, a, _, hM, h => by subst hM; exact h
  | k + 1, i, L, a, hb, hM, ⟨oi, v, hi, hy, hg⟩ => by
    obtain ⟨h1, h2⟩ := (Bool.and_eq_true _ _).mp hb
    exact anyZ_take i m hi h1 (fun _ _ _ h => h.elim) hy hS (zx_of m hS k (i + 1) _ _ h2 hM hg)
/-- The k operations from i on are taken first. -/
theorem zx (i k m : Nat) {N : Nat} (hN : N = n + k) (hb : Bz md ops zs m i k L = true) (hS : S w) (h : Gzx P ops S (fun b => anyZ P md ops (Only R) S zs n (Lz i k L) b w) i k a) : anyZ P md ops (Only R) S zs N L a w := by
  subst hN
  exact zx_of m hS k i L a hb rfl h
end
end Go.Proofs.Ytmkoleioipklpaa
