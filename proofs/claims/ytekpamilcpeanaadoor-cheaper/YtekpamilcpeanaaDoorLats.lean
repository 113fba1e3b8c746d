/-
  Boxes read in every later world; the answers of Meet and Hull as four numbers. The same inside a fence, in a round of a loop over a function too: a region that draws its order, only reads, and whose calls make memory but turn nothing old.
-/
import Derived.Test.YtekpamilcpeanaaDoorEnds
import Derived.Test.YtekpamilcpeanaaDoorLat
import Derived.Sort.QuietTacIn
namespace Go.Proofs.YtekpamilcpeanaaDoor
open Go.RowKit
set_option linter.unusedVariables false
theorem mtV_lit (x y a b p q c d : Int) : ∃ k0 k1 k2 k3 : Int, mtV x y a b p q c d = .agg #[.int .i64 k0, .int .i64 k1, .int .i64 k2, .int .i64 k3] := by
  cases h : mtB x y a b p q c d
  · exact ⟨_, _, _, _, mtV_no h⟩
  · exact ⟨_, _, _, _, mtV_yes h⟩
theorem huV_lit (x y a b p q c d : Int) : ∃ k0 k1 k2 k3 : Int, huV x y a b p q c d = .agg #[.int .i64 k0, .int .i64 k1, .int .i64 k2, .int .i64 k3] := by
  cases h : huB x y a b p q c d
  · exact ⟨_, _, _, _, huV_no h⟩
  · exact ⟨_, _, _, _, huV_yes h⟩
theorem Four.lat {W : World} {k : Nat} {x y a b : Int} (h : Four W k x y a b) : (∀ n : Lat W, n.w.cell? ⟨k, 0, none⟩ = some (.int .i64 x)) ∧ (∀ n : Lat W, n.w.cell? ⟨k, 1, none⟩ = some (.int .i64 y)) ∧ (∀ n : Lat W, n.w.cell? ⟨k, 2, none⟩ = some (.int .i64 a)) ∧ (∀ n : Lat W, n.w.cell? ⟨k, 3, none⟩ = some (.int .i64 b)) :=
  ⟨fun n => (h.kept n.h).1.1, fun n => (h.kept n.h).1.2.1, fun n => (h.kept n.h).1.2.2.1, fun n => (h.kept n.h).1.2.2.2⟩
theorem Two.lat {W : World} {k : Nat} {x y : Int} (h : Two W k x y) : (∀ n : Lat W, n.w.cell? ⟨k, 0, none⟩ = some (.int .i64 x)) ∧ (∀ n : Lat W, n.w.cell? ⟨k, 1, none⟩ = some (.int .i64 y)) :=
  ⟨fun n => (h.kept n.h).1.1, fun n => (h.kept n.h).1.2⟩
theorem Four.at {w w1 : World} {u v s r : Int} {t : TypeId} (h : Below (w.alloc (.cells #[.int .i64 u, .int .i64 v, .int .i64 s, .int .i64 r] t)).heap.size (w.alloc (.cells #[.int .i64 u, .int .i64 v, .int .i64 s, .int .i64 r] t)) w1) : Four w1 w.heap.size u v s r := cells4 h
end Go.Proofs.YtekpamilcpeanaaDoor
namespace Go.Proofs.YtekpamilcpeanaaDoor
open Go.RowKit
set_option linter.unusedVariables false
section
variable {F : Fence} {n : Nat} {P : Program} {ops : Array Oper} {md : Region.Mode} {C : World → Prop}
def noDefer (l : List Oper) : Bool := l.all fun o => match o.op with
  | .defer _ => false
  | _ => true
theorem noDefer_at {l : List Oper} (h : noDefer l = true) {i : Nat} {o : Oper} (hi : l.toArray[i]? = some o) : ∀ c, o.op ≠ .defer c := by
  intro c hc
  have hm : o ∈ l := by
    have : l[i]? = some o := by simpa using hi
    exact List.mem_of_getElem? this
  have := List.all_eq_true.1 h o hm
  rw [hc] at this
  cases this
theorem wpIn_of_quiet_nd {o : Oper} {a : Act} {K : Act → Prop} {K' : Act → World → Prop} {Q' : Exit → Act → World → Prop} {w : World} (hnd : ∀ c, o.op ≠ .defer c) (hw : C w) (h : ∀ a w', C w' → K a → K' a w')
    (ha : o.askedIn F P a C) (hh : o.quietIn F n P a C K) : o.wpIn F n P a w K' Q' := by
  obtain ⟨v, h1, h2⟩ := hh
  have h3 := h1 w hw
  unfold Oper.quietAtIn at h3
  unfold Oper.wpIn
  refine ⟨ha w hw, ?_⟩
  rw [Oper.semAt_eq _ _ _ hnd]
  generalize (execOp a.eval o).run P w = r at *
  cases r with
  | ok x w' =>
    cases x <;> simp only [Oper.quietUponIn] at h3 <;> simp only [Oper.uponIn]
    case value u =>
      obtain ⟨e1, e2⟩ := h3
      rw [e1, e2]
      exact h _ _ hw h2
    case skip =>
      obtain ⟨e1, e2⟩ := h3
      rw [e1, ← e2]
      exact h _ _ hw h2
    case enter f args =>
      obtain ⟨e1, hd, hc⟩ := h3
      rw [e1]
      exact ⟨hd, hc.mono fun e w'' ⟨he, hw''⟩ => by subst he; exact h _ _ hw'' h2⟩
  | halt x w' => simp only [Oper.quietUponIn] at h3
theorem wpOpIn_of_qOpIn_nd {i : Nat} {a : Act} {K : Act → Prop} {K' : Act → World → Prop} {Q' : Exit → Act → World → Prop} {w : World} (hnd : ∀ (i : Nat) (o : Oper), ops[i]? = some o → ∀ c, o.op ≠ .defer c) (hC : C w) (h : ∀ a w', C w' → K a → K' a w')
    (hh : qOpIn F n P ops C i K a) : wpOpIn F n P ops Q' i K' a w := by
  unfold qOpIn at hh
  unfold wpOpIn
  split
  · rename_i ho; simp only [ho] at hh; exact h _ _ hC hh
  · rename_i o ho
    simp only [ho] at hh
    obtain ⟨ha, hh⟩ := hh
    split
    · rename_i hw; simp only [hw, if_true] at hh; exact wpIn_of_quiet_nd (hnd i o ho) hC h ha hh
    · rename_i hw; simp only [hw] at hh; exact ⟨ha w hC, h _ _ hC hh⟩
theorem wpAnyIn_of_quiet_nd {Q : Act → Prop} {Q' : Exit → Act → World → Prop} (hnd : ∀ (i : Nat) (o : Oper), ops[i]? = some o → ∀ c, o.op ≠ .defer c) (hQ : ∀ a w, C w → Q a → Q' .normal a w) : ∀ (fuel : Nat) (listed : Array Bool) (a : Act) (w : World), C w →
    wpAnyQIn F n P md ops C Q fuel listed a → wpAnyIn F n P md ops Q' fuel listed a w
  | 0, _, _, _, hw, h => ⟨h.1, hQ _ _ hw h.2⟩
  | fuel + 1, _, _, _, hw, h => ⟨fun h0 => hQ _ _ hw (h.1 h0), fun i hi => wpOpIn_of_qOpIn_nd hnd hw (fun a' w' hw' => wpAnyIn_of_quiet_nd hnd hQ fuel _ a' w' hw') (h.2 i hi)⟩
end
theorem wpIn_region_lat {F : Fence} {n : Nat} {P : Program} {id : Nat} {Q : Exit → Act → World → Prop} {a : Act} {w : World} {l : List Oper} (hm : P.follows .mixedOrders = true) (hB : Region.lexB .any l.toArray = true) (hnd : noDefer l = true)
    (h : wpQuietIn F n P l.toArray (fun w' => ∃ n : Lat w, w' = n.w) (fun a' => ∀ w', (∃ n : Lat w, w' = n.w) → Q .normal a' w') l a) : (Code.region id l.toArray true).wpIn F n P Q a w := by
  simp only [Region.lexB, Bool.and_eq_true] at hB
  refine wpIn_region_any hm (wpAnyIn_of_quiet_nd (C := fun w' => ∃ n : Lat w, w' = n.w) (Q := fun a' => ∀ w', (∃ n : Lat w, w' = n.w) → Q .normal a' w') (fun i o ho => noDefer_at hnd ho) (fun _ w' hw' h => h w' hw') _ _ _ _ ⟨⟨w.drew, (Below.refl _ _).drew⟩, rfl⟩ ?_)
  have := wpAnyQIn_lex (F := F) (n := n) (C := fun w' => ∃ n : Lat w, w' = n.w) (md := .any) hB.1 l.toArray.toList 0 (Array.replicate l.toArray.size false) a (by simp) (by simpa using hB.2) (by simpa using h)
  simpa using this
theorem callsIn_lat {F : Fence} {r : Nat} {P : Program} {f : FuncId} {args : Array Value} {W : World} {n : Lat W} {v : Value} (h : CallsIn F r P f args n.w fun e w' => e = .returned v ∧ Below n.w.heap.size n.w w') :
    CallsIn F r P f args n.w fun e w'' => e = .returned v ∧ ∃ m : Lat W, w'' = m.w :=
  h.mono fun _ w' ⟨he, hb⟩ => ⟨he, ⟨w', bt n.h hb⟩, rfl⟩
end Go.Proofs.YtekpamilcpeanaaDoor
