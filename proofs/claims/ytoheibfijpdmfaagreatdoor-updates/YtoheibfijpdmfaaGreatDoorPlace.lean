/-
  Place of a World.
-/
import Derived.Test.YtoheibfijpdmfaaGreatDoorMayW
namespace Go.Proofs.YtoheibfijpdmfaaGreatDoor
open Go.RowKit
set_option linter.unusedVariables false
structure Rc where
  x : Int
  y : Int
  a : Int
  b : Int
def Rc.cs (r : Rc) : List Value := [.int .i64 r.x, .int .i64 r.y, .int .i64 r.a, .int .i64 r.b]
def Bd.foot (t : Bd) : Rc := ⟨t.x, t.y, t.a, t.b⟩
/-- The slice v reads as the rectangles l. -/
def Rcs (w : World) (v : Value) (l : List Rc) : Prop := w.ownsRow 0 48 4 v l.length (l.flatMap Rc.cs)
theorem row_kept {w w' : World} {e : TypeId} {k n : Nat} {v : Value} {xs : List Value} {S : Nat → Prop} (h : w.ownsRow 0 e k v n xs) (ht : Turns S w w') (hs : ∀ k, v.ownBlock = some k → ¬ S k) : w'.ownsRow 0 e k v n xs := by
  refine ⟨h.1, ?_⟩
  rcases h.2 with h1 | ⟨g, cap, cur, e, hb, hg, r⟩
  · exact .inl h1
  · exact .inr ⟨g, cap, cur, e, hb, ht.same (hs g (by rw [e]; rfl)) hg, r⟩
theorem rows_ne {w : World} {e e' : TypeId} {k k' n n' : Nat} {v v' : Value} {xs xs' : List Value} (h : w.ownsRow 0 e k v n xs) (h' : w.ownsRow 0 e' k' v' n' xs') (he : e ≠ e') {b : Nat} (hb : v.ownBlock = some b) : v'.ownBlock ≠ some b := by
  intro hb'
  rcases h.2 with ⟨rfl, _⟩ | ⟨g, cap, cur, rfl, _, hg, _⟩
  · simp [Value.ownBlock] at hb
  · rcases h'.2 with ⟨rfl, _⟩ | ⟨g', cap', cur', rfl, _, hg', _⟩
    · simp [Value.ownBlock] at hb'
    · simp [Value.ownBlock] at hb hb'
      subst hb; subst hb'
      rw [hg] at hg'
      simp at hg'
      exact he hg'.2
theorem Rcs.kept {w w' : World} {v : Value} {l : List Rc} {S : Nat → Prop} (h : Rcs w v l) (ht : Turns S w w') (hs : ∀ k, v.ownBlock = some k → ¬ S k) : Rcs w' v l := row_kept h ht hs
def z43 : Value := .agg #[.int .i64 0, .int .i64 0, .int .i64 0, .int .i64 0]
theorem info43 : (Tryz.prog.info? 48).map (fun i => (i.zero, i.size, i.bytes)) = some (some z43, 4, 32) := by kernel_rfl
theorem one_rc {r : Rc} : ∀ u ∈ r.cs, u.oneCell' = true := by
  intro u hu
  simp only [Rc.cs, List.mem_cons, List.not_mem_nil, or_false] at hu
  rcases hu with rfl | rfl | rfl | rfl <;> rfl
/-- append as one step of a region that draws its order, onto a row of the call's own. -/
theorem step_append_row {P : Program} {ops : Array Oper} {o : Oper} {a : Act} {w : World} {K : Act → World → Prop} {Q : Exit → Act → World → Prop} {E : Prop} (hgd : o.guard = none) (s x : Operand) (t : TypeId)
    (ho : o.op = .call { callee := .builtin .append, args := #[s, x], argTypes := #[t, t] })
    (e : TypeId) (i : TypeInfo) (z : Value) (size bytes : Nat) (ht : P.underlying t = some (.slice e)) (hi : P.info? e = some i) (hz : i.zero = some z)
    (hsize : i.size = size) (hby : i.bytes = bytes) (hzs : z.cells.size = size) (hsz : 0 < size)
    (v : Value) (n : Nat) (xs : List Value) (hs : a.eval s = v) (hown : w.ownsRow 0 e size v n xs)
    (ad : Addr) (m c : Nat) (news : List Value) (hx : a.eval x = .slice (some ad) m c) (hl : news.length = m * size) (hnews : ∀ j u, news[j]? = some u → w.cell? (ad.add j) = some u) (h1 : ∀ u ∈ news, u.oneCell' = true)
    (h63 : n + m ≤ maxLen) (hbytes : (n + m) * bytes ≤ 140737488355328)
    (h : ∀ v' w', w'.ownsRow 0 e size v' (n + m) (xs ++ news) → w.grownBy w' v.ownBlock → (v'.ownBlock = v.ownBlock ∨ v'.ownBlock = some w.heap.size) → K (a.put o.dst v') w') :
    if Region.wanted o (yielded ops a.tmps) = true then Oper.wp P o a w K Q else E := by
  have hw : Region.wanted o (yielded ops a.tmps) = true := by simp [Region.wanted, hgd]
  rw [if_pos hw]
  obtain ⟨v', w', hr, h2, h3, h4, h5⟩ := run_append_own_at (P := P) w 0 t o.type e i z size bytes ht hi hz hsize hby hzs hsz v n xs hown ad m c news hl hnews h1 h63 hbytes (Nat.zero_le _)
  unfold Oper.wp execOp
  simp only [ho, resolve, invoke, builtin, Sem.run_bind, Sem.run_pure, Result.andThen_ok, List.map_toArray, List.map_cons, List.map_nil, hs, hx, hr]
  exact h v' w' h2 h3 h5
theorem rc_new (w : World) (r : Rc) : ∀ j u, r.cs[j]? = some u → (w.alloc (.cells #[.int .i64 r.x, .int .i64 r.y, .int .i64 r.a, .int .i64 r.b] 48)).cell? ((⟨w.heap.size, 0, none⟩ : Addr).add j) = some u := by
  intro j u hu
  rw [Addr.add_lit, Nat.zero_add, cell_of_row _ w.heap.size j _ _ _ (heap_alloc_new w _)]
  simpa [Rc.cs] using hu
theorem mb_len {W H : Int} {t : Bd} (h : mb W H t = true) : (allC t.x t.y t.a t.b).length ≤ 64 := by
  simp only [mb, Bool.and_eq_true, gs, decide_eq_true_iff] at h
  obtain ⟨h1, h2, ⟨a0, a1⟩, ⟨b0, b1⟩, h5⟩ := h
  unfold allC
  split
  · rw [upto_length]
    have : t.b.toNat ≤ 8 := by omega
    have : t.a.toNat ≤ 8 := by omega
    calc t.b.toNat * t.a.toNat ≤ 8 * 8 := Nat.mul_le_mul (by omega) (by omega)
      _ = 64 := rfl
  · simp
theorem mb_id {W H : Int} {t : Bd} (h : mb W H t = true) : W64 t.id := by
  simp only [mb, Bool.and_eq_true, decide_eq_true_iff] at h
  exact w64_of (by omega)
theorem code_zero {W H : Int} {f : Int → Int → Option Int} {l : List Bd} {t : Bd} (h : code W H f l t = 0) : mb W H t = true ∧ found l t.id = false ∧ l.length < 256 ∧ takenB f t.x t.y t.a t.b = false := by
  unfold code at h
  cases h1 : mb W H t
  · simp [h1] at h
  · cases h2 : found l t.id
    · by_cases h3 : 256 ≤ l.length
      · simp [h1, h2, h3] at h
      · cases h4 : takenB f t.x t.y t.a t.b
        · exact ⟨rfl, rfl, by omega, rfl⟩
        · simp [h1, h2, h3, h4] at h
    · simp [h1, h2] at h
/-- What Place leaves. -/
def Placed (w : World) (p bm n : Nat) (W H : Int) (tv bv ev : Value) (f : Int → Int → Option Int) (l : List Bd) (es : List Rc) (t : Bd) (w' : World) : Prop :=
  ∃ bv' ev', Wd w' p W H tv bv' bm ev' ∧ Bds w' bv' (ins l t) ∧ Who w' bm (n + 64) (putAll f (allC t.x t.y t.a t.b) t.id) ∧ Rcs w' ev' (es ++ [t.foot]) ∧
    Turns (fun k => k = p ∨ k = bm ∨ bv.ownBlock = some k ∨ ev.ownBlock = some k) w w' ∧ (∀ k, bv'.ownBlock = some k → bv.ownBlock = some k ∨ w.heap.size ≤ k) ∧ (∀ k, ev'.ownBlock = some k → ev.ownBlock = some k ∨ w.heap.size ≤ k)
end Go.Proofs.YtoheibfijpdmfaaGreatDoor
