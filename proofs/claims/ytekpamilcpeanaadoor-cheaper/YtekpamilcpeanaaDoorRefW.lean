/-
  The document's World in memory; which building may be, whether two share a cell, where a number stands. The document's May.
-/
import Derived.Test.YtekpamilcpeanaaDoorRefMeet
import Derived.Test.YtekpamilcpeanaaDoorRaze2
namespace Go.Proofs.YtekpamilcpeanaaDoor
open Go.RowKit Go.Shelf
attribute [local go_sem] Oper.semAt_some
set_option linter.unusedVariables false
/-- In block r lies the document's World. -/
def Rd (w : World) (r : Nat) (W H : Int) (tv bv ev : Value) : Prop :=
  w.heap[r]? = some (.cells #[.int .i64 W, .int .i64 H, tv, bv, ev] 86 (0, 0))
section
variable {w w' : World} {r : Nat} {W H : Int} {tv bv ev : Value}
theorem Rd.lt (h : Rd w r W H tv bv ev) : r < w.heap.size := (Array.getElem?_eq_some_iff.1 h).1
theorem Rd.kept {S : Nat → Prop} (h : Rd w r W H tv bv ev) (ht : Turns S w w') (hs : ¬ S r) : Rd w' r W H tv bv ev := ht.same hs h
theorem Rd.c (h : Rd w r W H tv bv ev) (j : Nat) : w.cell? ⟨r, j, none⟩ = (#[.int .i64 W, .int .i64 H, tv, bv, ev] : Array Value)[j]? := cell_of_row w r j _ _ _ h
theorem Rd.f (h : Rd w r W H tv bv ev) (j : Nat) : w.frozen? ⟨r, j, none⟩ = false := by
  have h' : w.heap[r]? = _ := h
  simp [World.frozen?, h']
theorem Rd.ne_row (h : Rd w r W H tv bv ev) {v : Value} {e : TypeId} {k n : Nat} {xs : List Value} (hv : w.ownsRow 0 e k v n xs) (he : e ≠ 86) : v.ownBlock ≠ some r := by
  intro hh
  rcases hv.2 with ⟨rfl, _⟩ | ⟨g, cap, cur, rfl, hb, hg, _⟩
  · simp [Value.ownBlock] at hh
  · simp [Value.ownBlock] at hh
    subst hh
    rw [show w.heap[g]? = _ from h] at hg
    simp at hg
    exact he hg.2.symm
theorem Rd.set3 (h : Rd w r W H tv bv ev) (v : Value) : Rd (w.setCell ⟨r, 3, none⟩ v) r W H tv v ev := by
  have h' : w.heap[r]? = _ := h
  have hlt := h.lt
  unfold Rd
  simp [World.setCell, Array.getElem?_modify, h']
theorem Rd.set4 (h : Rd w r W H tv bv ev) (v : Value) : Rd (w.setCell ⟨r, 4, none⟩ v) r W H tv bv v := by
  have h' : w.heap[r]? = _ := h
  have hlt := h.lt
  unfold Rd
  simp [World.setCell, Array.getElem?_modify, h']
end
theorem refwithin_is {x y a b p q c d : Int} {r : Bool} (w : World) (h : wi x y a b p q c d = r) :
    Calls Tryd.prog 52 #[rct x y a b, rct p q c d] w fun e w' => e = .returned (.bool r) ∧ Below w.heap.size w w' := by
  subst h; exact refwithin_any x y a b p q c d w
set_option maxHeartbeats 2000000 in
theorem refmaybe_any (t : Bd) (W H : Int) (w : World) : Calls Tryd.prog 68 #[t.v, rct 0 0 W H] w fun e w' => e = .returned (.bool (mb W H t)) ∧ Below w.heap.size w w' := by
  by_cases h1 : 1 ≤ t.id
  · by_cases h2 : t.id ≤ 2147483647
    · by_cases h3 : 1 ≤ t.a
      · by_cases h4 : t.a ≤ 8
        · by_cases h5 : 1 ≤ t.b
          · by_cases h6 : t.b ≤ 8
            · rw [show mb W H t = wi t.x t.y t.a t.b 0 0 W H by simp [mb, gs, h1, h2, h3, h4, h5, h6]]
              go_enter Tryd.func68, Tryd.ntmps68
              go_wp2_with (go_at_call 52; refine (refwithin_any _ _ _ _ _ _ _ _ _).mono ?_; rintro e w1 ⟨rfl, hb1⟩)
              go_ret
              exact ⟨rfl, bt (box2 _ _ _) hb1⟩
            · rw [show mb W H t = false by simp [mb, gs, h6]]
              go_enter Tryd.func68, Tryd.ntmps68
              go_wp2_with fail
              go_ret
              exact ⟨rfl, box2 _ _ _⟩
          · rw [show mb W H t = false by simp [mb, gs, h5]]
            go_enter Tryd.func68, Tryd.ntmps68
            go_wp2_with fail
            go_ret
            exact ⟨rfl, box2 _ _ _⟩
        · rw [show mb W H t = false by simp [mb, gs, h4]]
          go_enter Tryd.func68, Tryd.ntmps68
          go_wp2_with fail
          go_ret
          exact ⟨rfl, box2 _ _ _⟩
      · rw [show mb W H t = false by simp [mb, gs, h3]]
        go_enter Tryd.func68, Tryd.ntmps68
        go_wp2_with fail
        go_ret
        exact ⟨rfl, box2 _ _ _⟩
    · rw [show mb W H t = false by simp [mb, h2]]
      go_enter Tryd.func68, Tryd.ntmps68
      go_wp2_with fail
      go_ret
      exact ⟨rfl, box2 _ _ _⟩
  · rw [show mb W H t = false by simp [mb, h1]]
    go_enter Tryd.func68, Tryd.ntmps68
    go_wp2_with fail
    go_ret
    exact ⟨rfl, box2 _ _ _⟩
set_option maxHeartbeats 1000000 in
theorem share_any (x y a b p q c d : Int) (w : World) : Calls Tryd.prog 69 #[rct x y a b, rct p q c d] w fun e w' => e = .returned (.bool (mtB x y a b p q c d)) ∧ Below w.heap.size w w' := by
  obtain ⟨k0, k1, k2, k3, hk⟩ := mtV_lit x y a b p q c d
  have HM := fun wx => hide (refmeet_any x y a b p q c d wx)
  simp only [hk] at HM
  obtain ⟨r, hr⟩ : ∃ r, mtB x y a b p q c d = r := ⟨_, rfl⟩
  rw [hr] at HM ⊢
  clear hk hr
  go_enter Tryd.func69, Tryd.ntmps69
  go_wp2_with (go_at_call 86; refine (HM _).out.mono ?_; rintro e w1 ⟨rfl, hb1⟩)
  go_ret
  exact ⟨rfl, bt (bt (box2 _ _ _) hb1) (box1 _ _)⟩
theorem pos_hit {l : List Bd} (hs : Sorted l) {i : Int} {k : Nat} {t : Bd} (ht : l[k]? = some t) (hi : t.id = i) : pos l i = k := by
  have h1 := pos_iff hs i k t ht
  have hkl := (List.getElem?_eq_some_iff.1 ht).1
  by_cases he : pos l i = k
  · exact he
  · have hlt : pos l i < l.length := by omega
    have h2 := pos_iff hs i (pos l i) l[pos l i] (List.getElem?_eq_getElem hlt)
    have h3 : l[pos l i].id < t.id := by
      have := List.pairwise_iff_getElem.1 hs (pos l i) k hlt hkl (by omega)
      rwa [(List.getElem?_eq_some_iff.1 ht).2] at this
    omega
def plc (l : List Bd) (i : Int) : Int := if found l i = true then (pos l i : Nat) else -1
end Go.Proofs.YtekpamilcpeanaaDoor
namespace Go.Proofs.YtekpamilcpeanaaDoor
open Go.RowKit
set_option linter.unusedVariables false
/-- Whether a building's foot has a cell of one of the list. -/
def busyB (l : List Bd) (t : Bd) : Bool := l.any (fun s => mtB s.x s.y s.a s.b t.x t.y t.a t.b)
def refcode (W H : Int) (l : List Bd) (t : Bd) : Int :=
  if mb W H t = false then 1 else if found l t.id = true then 8 else if 256 ≤ l.length then 2 else if busyB l t = true then 6 else 0
theorem refmaybe_is {t : Bd} {W H : Int} {w : World} {c : Bool} (h : mb W H t = c) : Calls Tryd.prog 68 #[t.v, rct 0 0 W H] w fun e w' => e = .returned (.bool c) ∧ Below w.heap.size w w' := by subst h; exact refmaybe_any t W H w
theorem share_is {x y a b p q c d : Int} {w : World} {o : Bool} (h : mtB x y a b p q c d = o) : Calls Tryd.prog 69 #[rct x y a b, rct p q c d] w fun e w' => e = .returned (.bool o) ∧ Below w.heap.size w w' := by subst h; exact share_any x y a b p q c d w
theorem busy_no {l : List Bd} {t : Bd} (h : ∀ (j : Nat) s, l[j]? = some s → j < l.length → mtB s.x s.y s.a s.b t.x t.y t.a t.b = false) : busyB l t = false := by
  unfold busyB
  rw [List.any_eq_false]
  intro s hs
  obtain ⟨j, hj, rfl⟩ := List.getElem_of_mem hs
  simp [h j l[j] (List.getElem?_eq_getElem hj) hj]
theorem busy_yes {l : List Bd} {t s : Bd} {j : Nat} (hs : l[j]? = some s) (h : mtB s.x s.y s.a s.b t.x t.y t.a t.b = true) : busyB l t = true := by
  unfold busyB
  rw [List.any_eq_true]
  exact ⟨s, List.mem_of_getElem? hs, h⟩
end Go.Proofs.YtekpamilcpeanaaDoor
