/-
  Regions of a round whose calls make memory; rows of marks; what draining the law's items tells.
-/
import Derived.Test.YtdhiomahcilffaaDrain
import Derived.Test.YtdhiomahcilffaaAArg
import Derived.Deep.QuietTactic
import Derived.BigQuiet
import Derived.Sort.QuietTacIn
import Derived.Deep.OwnRows
namespace Go.Proofs.Ytdhiomahcilffaa
open Go.RowKit Go.Shelf
set_option linter.unusedVariables false
set_option linter.unusedSimpArgs false
/-- A world that has all of W, as it was. -/
structure Lat (W : World) where
  w : World
  h : Below W.heap.size W w
theorem lat_some (W : World) : Nonempty (Lat W) := ⟨⟨W, Below.refl _ _⟩⟩
theorem wp_region_lat {P : Program} {id : Nat} {Q : Exit → Act → World → Prop} {a : Act} {w : World} {l : List Oper} (hm : P.follows .mixedOrders = true) (hB : Region.lexB .any l.toArray = true)
    (h : wpQuiet P l.toArray (fun w' => ∃ n : Lat w, w' = n.w) (fun a' => ∀ w', (∃ n : Lat w, w' = n.w) → Q .normal a' w') l a) : (Code.region id l.toArray true).wp P Q a w :=
  wp_region_quiet (C := fun w' => ∃ n : Lat w, w' = n.w) hm hB ⟨⟨w.drew, (Below.refl _ _).drew⟩, rfl⟩ (by simpa using h)
theorem calls_lat {P : Program} {f : FuncId} {args : Array Value} {W : World} {n : Lat W} {v : Value} (h : Calls P f args n.w fun e w' => e = .returned v ∧ Below n.w.heap.size n.w w') :
    Calls P f args n.w fun e w'' => e = .returned v ∧ ∃ m : Lat W, w'' = m.w :=
  h.mono fun _ w' ⟨he, hb⟩ => ⟨he, ⟨w', bt n.h hb⟩, rfl⟩
theorem calls_lat_same {P : Program} {f : FuncId} {args : Array Value} {W : World} {n : Lat W} {v : Value} (h : Calls P f args n.w fun e w' => e = .returned v ∧ w' = n.w) :
    Calls P f args n.w fun e w'' => e = .returned v ∧ ∃ m : Lat W, w'' = m.w :=
  h.mono fun _ w' ⟨he, hb⟩ => ⟨he, n, hb⟩
theorem Lat.cell {W : World} (n : Lat W) {p : Addr} {v : Value} (hp : p.block < W.heap.size) (h : W.cell? p = some v) : n.w.cell? p = some v := (n.h.cell hp).trans h
section
variable {F : Fence} {n : Nat} {P : Program} {ops : Array Oper} {md : Region.Mode} {C : World → Prop}
def noDefer (l : List Oper) : Bool := l.all fun o => match o.op with
  | .defer _ => false
  | _ => true
theorem noDefer_at {l : List Oper} (h : noDefer l = true) {i : Nat} {o : Oper} (hi : l.toArray[i]? = some o) : ∀ c, o.op ≠ .defer c := by
  intro c hc
  have hm : o ∈ l := by
    have : l[i]? = some o := by simpa using hi
    exact List.mem_of_getElem? this
  have := List.all_eq_true.1 h o hm
  rw [hc] at this
  cases this
theorem wpIn_of_quiet_nd {o : Oper} {a : Act} {K : Act → Prop} {K' : Act → World → Prop} {Q' : Exit → Act → World → Prop} {w : World} (hnd : ∀ c, o.op ≠ .defer c) (hw : C w) (h : ∀ a w', C w' → K a → K' a w')
    (ha : o.askedIn F P a C) (hh : o.quietIn F n P a C K) : o.wpIn F n P a w K' Q' := by
  obtain ⟨v, h1, h2⟩ := hh
  have h3 := h1 w hw
  unfold Oper.quietAtIn at h3
  unfold Oper.wpIn
  refine ⟨ha w hw, ?_⟩
  rw [Oper.semAt_eq _ _ _ hnd]
  generalize (execOp a.eval o).run P w = r at *
  cases r with
  | ok x w' =>
    cases x <;> simp only [Oper.quietUponIn] at h3 <;> simp only [Oper.uponIn]
    case value u =>
      obtain ⟨e1, e2⟩ := h3
      rw [e1, e2]
      exact h _ _ hw h2
    case skip =>
      obtain ⟨e1, e2⟩ := h3
      rw [e1, ← e2]
      exact h _ _ hw h2
    case enter f args =>
      obtain ⟨e1, hd, hc⟩ := h3
      rw [e1]
      exact ⟨hd, hc.mono fun e w'' ⟨he, hw''⟩ => by subst he; exact h _ _ hw'' h2⟩
  | halt x w' => simp only [Oper.quietUponIn] at h3
theorem wpOpIn_of_qOpIn_nd {i : Nat} {a : Act} {K : Act → Prop} {K' : Act → World → Prop} {Q' : Exit → Act → World → Prop} {w : World} (hnd : ∀ (i : Nat) (o : Oper), ops[i]? = some o → ∀ c, o.op ≠ .defer c) (hC : C w) (h : ∀ a w', C w' → K a → K' a w')
    (hh : qOpIn F n P ops C i K a) : wpOpIn F n P ops Q' i K' a w := by
  unfold qOpIn at hh
  unfold wpOpIn
  split
  · rename_i ho; simp only [ho] at hh; exact h _ _ hC hh
  · rename_i o ho
    simp only [ho] at hh
    obtain ⟨ha, hh⟩ := hh
    split
    · rename_i hw; simp only [hw, if_true] at hh; exact wpIn_of_quiet_nd (hnd i o ho) hC h ha hh
    · rename_i hw; simp only [hw] at hh; exact ⟨ha w hC, h _ _ hC hh⟩
theorem wpAnyIn_of_quiet_nd {Q : Act → Prop} {Q' : Exit → Act → World → Prop} (hnd : ∀ (i : Nat) (o : Oper), ops[i]? = some o → ∀ c, o.op ≠ .defer c) (hQ : ∀ a w, C w → Q a → Q' .normal a w) : ∀ (fuel : Nat) (listed : Array Bool) (a : Act) (w : World), C w →
    wpAnyQIn F n P md ops C Q fuel listed a → wpAnyIn F n P md ops Q' fuel listed a w
  | 0, _, _, _, hw, h => ⟨h.1, hQ _ _ hw h.2⟩
  | fuel + 1, _, _, _, hw, h => ⟨fun h0 => hQ _ _ hw (h.1 h0), fun i hi => wpOpIn_of_qOpIn_nd hnd hw (fun a' w' hw' => wpAnyIn_of_quiet_nd hnd hQ fuel _ a' w' hw') (h.2 i hi)⟩
end
theorem wpIn_region_lat {F : Fence} {n : Nat} {P : Program} {id : Nat} {Q : Exit → Act → World → Prop} {a : Act} {w : World} {l : List Oper} (hm : P.follows .mixedOrders = true) (hB : Region.lexB .any l.toArray = true) (hnd : noDefer l = true)
    (h : wpQuietIn F n P l.toArray (fun w' => ∃ n : Lat w, w' = n.w) (fun a' => ∀ w', (∃ n : Lat w, w' = n.w) → Q .normal a' w') l a) : (Code.region id l.toArray true).wpIn F n P Q a w := by
  simp only [Region.lexB, Bool.and_eq_true] at hB
  refine wpIn_region_any hm (wpAnyIn_of_quiet_nd (C := fun w' => ∃ n : Lat w, w' = n.w) (Q := fun a' => ∀ w', (∃ n : Lat w, w' = n.w) → Q .normal a' w') (fun i o ho => noDefer_at hnd ho) (fun _ w' hw' h => h w' hw') _ _ _ _ ⟨⟨w.drew, (Below.refl _ _).drew⟩, rfl⟩ ?_)
  have := wpAnyQIn_lex (F := F) (n := n) (C := fun w' => ∃ n : Lat w, w' = n.w) (md := .any) hB.1 l.toArray.toList 0 (Array.replicate l.toArray.size false) a (by simp) (by simpa using hB.2) (by simpa using h)
  simpa using this
theorem callsIn_lat {F : Fence} {r : Nat} {P : Program} {f : FuncId} {args : Array Value} {W : World} {n : Lat W} {v : Value} (h : CallsIn F r P f args n.w fun e w' => e = .returned v ∧ Below n.w.heap.size n.w w') :
    CallsIn F r P f args n.w fun e w'' => e = .returned v ∧ ∃ m : Lat W, w'' = m.w :=
  h.mono fun _ w' ⟨he, hb⟩ => ⟨he, ⟨w', bt n.h hb⟩, rfl⟩
/-- In block b lie n marks. -/
def Mks (w : World) (b n : Nat) (g : Nat → Bool) : Prop := w.heap[b]? = some (.cells ((List.range n).map (fun k => Value.bool (g k))).toArray 4 (0, 0))
section
variable {w w' : World} {b n : Nat} {g g' : Nat → Bool}
theorem Mks.lt (h : Mks w b n g) : b < w.heap.size := (Array.getElem?_eq_some_iff.1 h).1
theorem Mks.upto {n₀ : Nat} (h : Mks w b n g) (hb : Below n₀ w w') (hn : b < n₀) : Mks w' b n g := (hb.block b hn).trans h
theorem Mks.cell (h : Mks w b n g) {k : Nat} (hk : k < n) : w.cell? ⟨b, k, none⟩ = some (.bool (g k)) := by
  rw [cell_of_row w b k _ _ _ h]; simp [hk]
theorem Mks.f (h : Mks w b n g) (k : Nat) : w.frozen? ⟨b, k, none⟩ = false := by
  have h' : w.heap[b]? = _ := h
  simp [World.frozen?, h']
theorem Mks.congr (h : Mks w b n g) (e : ∀ k, k < n → g k = g' k) : Mks w b n g' := by
  unfold Mks at h ⊢
  rw [h]
  congr 3
  exact List.map_congr_left (fun k hk => by rw [e k (List.mem_range.1 hk)])
theorem Mks.set (h : Mks w b n g) {k : Nat} (hk : k < n) (v : Bool) : Mks (w.setCell ⟨b, k, none⟩ (.bool v)) b n (fun j => if j = k then v else g j) := by
  have h' : w.heap[b]? = _ := h
  unfold Mks
  have e : ((List.range n).map (fun k => Value.bool (g k))).set k (.bool v) = (List.range n).map (fun j => Value.bool (if j = k then v else g j)) := by
    refine List.ext_getElem (by simp) (fun i h1 h2 => ?_)
    simp only [List.getElem_set, List.getElem_map, List.getElem_range]
    by_cases hik : k = i
    · subst hik; simp
    · rw [if_neg hik, if_neg (fun e => hik e.symm)]
  simp [World.setCell, Array.getElem?_modify, h', e]
theorem Mks.own {W W' : World} {row : Option Nat} (h : Mks W b n g) (hg : W.grownBy W' row) (hr : ∀ r, row = some r → ∃ o : Obj, W.heap[r]? = some o ∧ o.isCells = false) : Mks W' b n g :=
  (hg.block b h.lt (fun e => by
    obtain ⟨o, ho, hc⟩ := hr b e.symm
    have h' : W.heap[b]? = _ := h
    rw [h'] at ho
    cases ho
    cases hc)).trans h
end
theorem info4 : (Try.prog.info? 4).map (fun i => (i.zero, i.size, i.bytes)) = some (some (.bool false), 1, 1) := by kernel_rfl
theorem made_list (z : Value) (n : Nat) : madeCells #[z] n = (List.replicate n z).toArray := by
  simp only [madeCells]
  refine Array.ext (by simp) (fun i h1 h2 => ?_)
  simp [Nat.mod_one]
theorem make_marks (n : Nat) (hn : n ≤ 1048576) (w : World) : (Instr.makeSlice 36 (.int .i64 (n : Nat)) (.int .i64 (n : Nat))).run Try.prog w = .ok (.slice (some ⟨w.heap.size, 0, none⟩) n n) (w.alloc (.cells ((List.range n).map (fun _ => Value.bool false)).toArray 4)) := by
  have := run_make_row' (P := Try.prog) 36 4 (.bool false) 1 Try.underlying36 info4 rfl .i64 .i64 n (by omega) (by omega) w
  rw [made_list] at this
  rw [this, List.map_const', List.length_range]
theorem made_marks (n : Nat) (w : World) : Mks (w.alloc (.cells ((List.range n).map (fun _ => Value.bool false)).toArray 4)) w.heap.size n (fun _ => false) := heap_alloc_new w _

/-- The law's items: number i has the i-th key. -/
def its (zs : List Int) : List It := (List.range zs.length).map (fun i => ⟨zs.getD i 0, (i : Nat), (i : Nat)⟩)
theorem its_len (zs : List Int) : (its zs).length = zs.length := by simp [its]
theorem its_take {zs : List Int} {k : Nat} (hk : k < zs.length) : (its zs).take (k + 1) = (its zs).take k ++ [⟨zs.getD k 0, (k : Nat), (k : Nat)⟩] := by
  have h : (its zs)[k]? = some ⟨zs.getD k 0, (k : Nat), (k : Nat)⟩ := by simp [its, hk]
  rw [List.take_add_one, h]; rfl
theorem its_mem {zs : List Int} {t : It} (h : t ∈ its zs) : ∃ i : Nat, i < zs.length ∧ t = ⟨zs.getD i 0, (i : Nat), (i : Nat)⟩ := by
  simp only [its, List.mem_map, List.mem_range] at h
  obtain ⟨i, hi, rfl⟩ := h
  exact ⟨i, hi, rfl⟩
theorem its_nodup (zs : List Int) : (its zs).Nodup := by
  refine List.Pairwise.map _ ?_ List.nodup_range
  intro i j hij e
  simp only [It.mk.injEq] at e
  omega
theorem Drn.perm {S xs R : List It} (h : Drn S xs R) : S.Perm (xs ++ R) := by
  induction h using Drn.ind with
  | start => simp
  | @next xs R R' t h1 h2 h3 ih => rw [List.append_assoc]; exact ih.trans (h2.append_left xs)
theorem Drn.last {S xs R : List It} (h : Drn S xs R) : ∀ ys y, xs = ys ++ [y] → ∀ u ∈ R, lt u y = false := by
  cases h using Drn.cs with
  | start => intro ys y e; simp at e
  | @next xs' R1 R' t h1 h2 h3 =>
    intro ys y e u hu
    have e2 := List.append_inj_right' e rfl
    simp at e2
    subst e2
    exact h3 u (h2.mem_iff.2 (List.mem_cons_of_mem _ hu))
theorem Drn.before {S xs R : List It} {t : It} (h : Drn S (xs ++ [t]) R) : ∃ R1, Drn S xs R1 ∧ t ∈ R1 := by
  generalize he : xs ++ [t] = ys at h
  cases h using Drn.cs with
  | start => simp at he
  | @next xs' R1 R' t' h1 h2 h3 =>
    have e1 := List.append_inj_left' he rfl
    have e2 := List.append_inj_right' he rfl
    simp at e2
    subst e1; subst e2
    exact ⟨R1, h1, h2.mem_iff.2 (by simp)⟩
/-- What is known of the next one of the law's items. -/
theorem Nxt.facts {zs : List Int} {pre : List It} {x : It} (h : Nxt (its zs) pre x) :
    (∃ i : Nat, i < zs.length ∧ x = ⟨zs.getD i 0, (i : Nat), (i : Nat)⟩ ∧ ∀ y ∈ pre, y.n ≠ (i : Nat)) ∧ pre.length < zs.length ∧ ∀ ys y, pre = ys ++ [y] → ah x.k y.k = false ∧ (ah y.k x.k = false → ¬ x.n < y.n) := by
  obtain ⟨R, hR⟩ := h
  obtain ⟨R1, h1, h2⟩ := hR.before
  have hp := hR.perm
  have hx : x ∈ its zs := hp.mem_iff.2 (by simp)
  obtain ⟨i, hi, e⟩ := its_mem hx
  have hnd : ((pre ++ [x]) ++ R).Nodup := hp.nodup_iff.1 (its_nodup zs)
  have hlen := hp.length_eq
  rw [its_len] at hlen
  refine ⟨⟨i, hi, e, fun y hy q => ?_⟩, by simp at hlen; omega, fun ys y e2 => ?_⟩
  · have hy2 : y ∈ its zs := hp.mem_iff.2 (by simp [hy])
    obtain ⟨j, hj, e3⟩ := its_mem hy2
    have : j = i := by rw [e3] at q; simp at q; omega
    have exy : y = x := by rw [e, e3, this]
    rw [List.append_assoc, List.nodup_append] at hnd
    exact hnd.2.2 y hy x (by simp) exy
  · have q := h1.last ys y e2 x h2
    have hy2 : y ∈ its zs := hp.mem_iff.2 (by simp [e2])
    obtain ⟨j, hj, e3⟩ := its_mem hy2
    rw [lt_not] at q
    subst e; subst e3
    simp only [ah, decide_eq_false_iff_not] at q ⊢
    omega
end Go.Proofs.Ytdhiomahcilffaa
