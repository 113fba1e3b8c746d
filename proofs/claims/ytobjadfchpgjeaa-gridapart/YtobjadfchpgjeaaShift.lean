/-
  A building that is moved down a list to where its number comes; one of a row of buildings that is written anew.
-/
import Derived.Test.YtobjadfchpgjeaaRefRaze2
import Derived.Test.YtobjadfchpgjeaaPure
namespace Go.Proofs.Ytobjadfchpgjeaa
open Go.RowKit
set_option linter.unusedVariables false
theorem cs_set (t : Bd) : ∀ (L : List Bd) (j : Nat), j < L.length → (L.set j t).flatMap Bd.cs = (((((L.flatMap Bd.cs).set (j * 5) (.int .i64 t.id)).set (j * 5 + 1) (.int .i64 t.x)).set (j * 5 + 2) (.int .i64 t.y)).set (j * 5 + 3) (.int .i64 t.a)).set (j * 5 + 4) (.int .i64 t.b)
  | [], j, h => by simp at h
  | s :: r, 0, _ => by simp [Bd.cs]
  | s :: r, j + 1, h => by
    have hj : j < r.length := by simpa using h
    rw [List.set_cons_succ, List.flatMap_cons, cs_set t r j hj, List.flatMap_cons]
    have hs : s.cs.length = 5 := rfl
    have key : ∀ (R : List Value) (o : Nat) (u : Value), (s.cs ++ R).set ((j + 1) * 5 + o) u = s.cs ++ R.set (j * 5 + o) u := fun R o u => by
      rw [List.set_append, if_neg (by omega), hs, show (j + 1) * 5 + o - 5 = j * 5 + o by omega]
    have k0 := key (r.flatMap Bd.cs) 0 (.int .i64 t.id)
    simp only [Nat.add_zero] at k0
    rw [k0, key, key, key, key]
/-- A list with t put in at k. -/
def sh (l : List Bd) (t : Bd) (k : Nat) : List Bd := l.take k ++ t :: l.drop k
theorem sh_len {l : List Bd} {t : Bd} {k : Nat} (hk : k ≤ l.length) : (sh l t k).length = l.length + 1 := by simp [sh]; omega
theorem sh_at {l : List Bd} {t : Bd} {k : Nat} (hk : k ≤ l.length) : (sh l t k)[k]? = some t := by
  unfold sh
  rw [List.getElem?_append_right (by simp; omega), List.length_take, Nat.min_eq_left hk]
  simp
theorem sh_before {l : List Bd} {t s : Bd} {k : Nat} (hk : k + 1 ≤ l.length) (hs : l[k]? = some s) : (sh l t (k + 1))[k]? = some s := by
  unfold sh
  rw [List.getElem?_append_left (by simp; omega), List.getElem?_take, if_pos (by omega), hs]
theorem sh_swap {l : List Bd} {t s : Bd} {k : Nat} (hk : k + 1 ≤ l.length) (hs : l[k]? = some s) : ((sh l t (k + 1)).set (k + 1) s).set k t = sh l t k := by
  have e1 : l.take (k + 1) = l.take k ++ [s] := by
    rw [List.take_add_one, hs]; rfl
  have e2 : l.drop k = s :: l.drop (k + 1) := by
    rw [List.drop_eq_getElem_cons (by omega)]
    congr 1
    have := List.getElem?_eq_getElem (l := l) (i := k) (by omega)
    rw [hs] at this
    exact (Option.some.inj this).symm
  have hl : (l.take k).length = k := by simp; omega
  unfold sh
  rw [e1, e2, List.append_assoc, List.set_append, if_neg (by omega), hl, show k + 1 - k = 1 by omega, List.singleton_append, List.set_cons_succ, List.set_cons_zero, List.set_append, if_neg (by omega), hl, Nat.sub_self, List.set_cons_zero]
theorem sh_end {l : List Bd} {t : Bd} {k : Nat} (hs : Sorted l) (hk : k ≤ l.length) (h1 : ∀ j s, l[j]? = some s → k ≤ j → t.id < s.id) (h2 : ∀ j s, l[j]? = some s → j + 1 = k → s.id < t.id) : sh l t k = ins l t := by
  have hp : pos l t.id = k := by
    have hpl := pos_le l t.id
    rcases Nat.lt_trichotomy (pos l t.id) k with h | h | h
    · exfalso
      obtain ⟨s, hsk⟩ : ∃ s, l[k - 1]? = some s := ⟨_, List.getElem?_eq_getElem (by omega)⟩
      have h3 := h2 _ s hsk (by omega)
      have := (pos_iff hs t.id (k - 1) s hsk).1 h3
      omega
    · exact h
    · exfalso
      obtain ⟨s, hsk⟩ : ∃ s, l[k]? = some s := ⟨_, List.getElem?_eq_getElem (by omega)⟩
      have h3 := h1 _ s hsk (Nat.le_refl _)
      have := (pos_iff hs t.id k s hsk).2 h
      omega
  rw [ins, hp, sh]
/-- A row of n buildings. -/
abbrev Row (w : World) (g n cap : Nat) (L : List Bd) : Prop := w.ownsRow 0 55 5 (.slice (some ⟨g, 0, none⟩) n cap) n (L.flatMap Bd.cs)
theorem Row.bds {w : World} {g n cap : Nat} {L : List Bd} (h : Row w g n cap L) (hn : L.length = n) : Bds w (.slice (some ⟨g, 0, none⟩) L.length cap) L := by subst hn; exact h
theorem Row.at {w : World} {g n cap : Nat} {L : List Bd} (h : Row w g n cap L) {j : Nat} {s : Bd} (hs : L[j]? = some s) :
    (w.cell? ⟨g, j * 5, none⟩ = some (.int .i64 s.id) ∧ w.cell? ⟨g, j * 5 + 1, none⟩ = some (.int .i64 s.x) ∧ w.cell? ⟨g, j * 5 + 2, none⟩ = some (.int .i64 s.y) ∧ w.cell? ⟨g, j * 5 + 3, none⟩ = some (.int .i64 s.a) ∧ w.cell? ⟨g, j * 5 + 4, none⟩ = some (.int .i64 s.b)) ∧ ∀ o, w.frozen? ⟨g, o, none⟩ = false := by
  have hc : ∀ o u, s.cs[o]? = some u → o < 5 → w.cell? ⟨g, j * 5 + o, none⟩ = some u := fun o u hu ho => by
    have := World.ownsRow.cells h (g := g) rfl (j * 5 + o) u (by rw [cs_get L j s o hs ho]; exact hu)
    simpa [Addr.add_lit] using this
  refine ⟨⟨hc 0 _ rfl (by omega), hc 1 _ rfl (by omega), hc 2 _ rfl (by omega), hc 3 _ rfl (by omega), hc 4 _ rfl (by omega)⟩, fun o => ?_⟩
  rcases h.2 with ⟨e, _⟩ | ⟨g', cap', cur, e, hb, hg, r⟩
  · cases e
  · simp only [Value.slice.injEq, Option.some.injEq, Addr.mk.injEq, and_true, true_and] at e
    obtain ⟨rfl, rfl⟩ := e
    simp [World.frozen?, hg]
theorem Row.set {w : World} {g n cap : Nat} {L : List Bd} (h : Row w g n cap L) {j : Nat} (hj : j < L.length) (t : Bd) :
    Row (((((w.setCell ⟨g, j * 5, none⟩ (.int .i64 t.id)).setCell ⟨g, j * 5 + 1, none⟩ (.int .i64 t.x)).setCell ⟨g, j * 5 + 2, none⟩ (.int .i64 t.y)).setCell ⟨g, j * 5 + 3, none⟩ (.int .i64 t.a)).setCell ⟨g, j * 5 + 4, none⟩ (.int .i64 t.b)) g n cap (L.set j t) := by
  unfold Row
  rw [cs_set t L j hj]
  exact (World.ownsRow.stored (World.ownsRow.stored (World.ownsRow.stored (World.ownsRow.stored (World.ownsRow.stored h (j * 5) _).1 (j * 5 + 1) _).1 (j * 5 + 2) _).1 (j * 5 + 3) _).1 (j * 5 + 4) _).1
theorem turns_set5 (w : World) (g o1 o2 o3 o4 o5 : Nat) (a b c d e : Value) : Turns (fun j => j = g) w (((((w.setCell ⟨g, o1, none⟩ a).setCell ⟨g, o2, none⟩ b).setCell ⟨g, o3, none⟩ c).setCell ⟨g, o4, none⟩ d).setCell ⟨g, o5, none⟩ e) :=
  ((((Turns.set (S := fun j => j = g) w (p := ⟨g, o1, none⟩) rfl a).trans ((Turns.set (S := fun j => j = g) _ (p := ⟨g, o2, none⟩) rfl b).mono (fun _ _ h => .inl h))).trans ((Turns.set (S := fun j => j = g) _ (p := ⟨g, o3, none⟩) rfl c).mono (fun _ _ h => .inl h))).trans ((Turns.set (S := fun j => j = g) _ (p := ⟨g, o4, none⟩) rfl d).mono (fun _ _ h => .inl h))).trans ((Turns.set (S := fun j => j = g) _ (p := ⟨g, o5, none⟩) rfl e).mono (fun _ _ h => .inl h))
end Go.Proofs.Ytobjadfchpgjeaa
