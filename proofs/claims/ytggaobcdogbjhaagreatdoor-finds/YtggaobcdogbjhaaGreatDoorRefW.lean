/-
  The document's World in memory; which building may be, whether two share a cell, where a number stands.
-/
import Derived.Test.YtggaobcdogbjhaaGreatDoorRefMeet
import Derived.Test.YtggaobcdogbjhaaGreatDoorRaze2
namespace Go.Proofs.YtggaobcdogbjhaaGreatDoor
open Go.RowKit Go.Shelf
attribute [local go_sem] Oper.semAt_some
set_option linter.unusedVariables false
/-- In block r lies the document's World. -/
def Rd (w : World) (r : Nat) (W H : Int) (tv bv ev : Value) : Prop :=
  w.heap[r]? = some (.cells #[.int .i64 W, .int .i64 H, tv, bv, ev] 98 (0, 0))
section
variable {w w' : World} {r : Nat} {W H : Int} {tv bv ev : Value}
theorem Rd.lt (h : Rd w r W H tv bv ev) : r < w.heap.size := (Array.getElem?_eq_some_iff.1 h).1
theorem Rd.kept {S : Nat → Prop} (h : Rd w r W H tv bv ev) (ht : Turns S w w') (hs : ¬ S r) : Rd w' r W H tv bv ev := ht.same hs h
theorem Rd.c (h : Rd w r W H tv bv ev) (j : Nat) : w.cell? ⟨r, j, none⟩ = (#[.int .i64 W, .int .i64 H, tv, bv, ev] : Array Value)[j]? := cell_of_row w r j _ _ _ h
theorem Rd.f (h : Rd w r W H tv bv ev) (j : Nat) : w.frozen? ⟨r, j, none⟩ = false := by
  have h' : w.heap[r]? = _ := h
  simp [World.frozen?, h']
theorem Rd.ne_row (h : Rd w r W H tv bv ev) {v : Value} {e : TypeId} {k n : Nat} {xs : List Value} (hv : w.ownsRow 0 e k v n xs) (he : e ≠ 98) : v.ownBlock ≠ some r := by
  intro hh
  rcases hv.2 with ⟨rfl, _⟩ | ⟨g, cap, cur, rfl, hb, hg, _⟩
  · simp [Value.ownBlock] at hh
  · simp [Value.ownBlock] at hh
    subst hh
    rw [show w.heap[g]? = _ from h] at hg
    simp at hg
    exact he hg.2.symm
theorem Rd.set3 (h : Rd w r W H tv bv ev) (v : Value) : Rd (w.setCell ⟨r, 3, none⟩ v) r W H tv v ev := by
  have h' : w.heap[r]? = _ := h
  have hlt := h.lt
  unfold Rd
  simp [World.setCell, Array.getElem?_modify, h']
theorem Rd.set4 (h : Rd w r W H tv bv ev) (v : Value) : Rd (w.setCell ⟨r, 4, none⟩ v) r W H tv bv v := by
  have h' : w.heap[r]? = _ := h
  have hlt := h.lt
  unfold Rd
  simp [World.setCell, Array.getElem?_modify, h']
end
theorem refwithin_is {x y a b p q c d : Int} {r : Bool} (w : World) (h : wi x y a b p q c d = r) :
    Calls Tryz.prog 16 #[rct x y a b, rct p q c d] w fun e w' => e = .returned (.bool r) ∧ Below w.heap.size w w' := by
  subst h; exact refwithin_any x y a b p q c d w
set_option maxHeartbeats 2000000 in
theorem refmaybe_any (t : Bd) (W H : Int) (w : World) : Calls Tryz.prog 91 #[t.v, rct 0 0 W H] w fun e w' => e = .returned (.bool (mb W H t)) ∧ Below w.heap.size w w' := by
  by_cases h1 : 1 ≤ t.id
  · by_cases h2 : t.id ≤ 2147483647
    · by_cases h3 : 1 ≤ t.a
      · by_cases h4 : t.a ≤ 8
        · by_cases h5 : 1 ≤ t.b
          · by_cases h6 : t.b ≤ 8
            · rw [show mb W H t = wi t.x t.y t.a t.b 0 0 W H by simp [mb, gs, h1, h2, h3, h4, h5, h6]]
              go_enter Tryz.func91, Tryz.ntmps91
              go_wp2_with (go_at_call 16; refine (refwithin_any _ _ _ _ _ _ _ _ _).mono ?_; rintro e w1 ⟨rfl, hb1⟩)
              go_ret
              exact ⟨rfl, bt (box2 _ _ _) hb1⟩
            · rw [show mb W H t = false by simp [mb, gs, h6]]
              go_enter Tryz.func91, Tryz.ntmps91
              go_wp2_with fail
              go_ret
              exact ⟨rfl, box2 _ _ _⟩
          · rw [show mb W H t = false by simp [mb, gs, h5]]
            go_enter Tryz.func91, Tryz.ntmps91
            go_wp2_with fail
            go_ret
            exact ⟨rfl, box2 _ _ _⟩
        · rw [show mb W H t = false by simp [mb, gs, h4]]
          go_enter Tryz.func91, Tryz.ntmps91
          go_wp2_with fail
          go_ret
          exact ⟨rfl, box2 _ _ _⟩
      · rw [show mb W H t = false by simp [mb, gs, h3]]
        go_enter Tryz.func91, Tryz.ntmps91
        go_wp2_with fail
        go_ret
        exact ⟨rfl, box2 _ _ _⟩
    · rw [show mb W H t = false by simp [mb, h2]]
      go_enter Tryz.func91, Tryz.ntmps91
      go_wp2_with fail
      go_ret
      exact ⟨rfl, box2 _ _ _⟩
  · rw [show mb W H t = false by simp [mb, h1]]
    go_enter Tryz.func91, Tryz.ntmps91
    go_wp2_with fail
    go_ret
    exact ⟨rfl, box2 _ _ _⟩
set_option maxHeartbeats 1000000 in
theorem share_any (x y a b p q c d : Int) (w : World) : Calls Tryz.prog 92 #[rct x y a b, rct p q c d] w fun e w' => e = .returned (.bool (mtB x y a b p q c d)) ∧ Below w.heap.size w w' := by
  obtain ⟨k0, k1, k2, k3, hk⟩ := mtV_lit x y a b p q c d
  have HM := fun wx => hide (refmeet_any x y a b p q c d wx)
  simp only [hk] at HM
  obtain ⟨r, hr⟩ : ∃ r, mtB x y a b p q c d = r := ⟨_, rfl⟩
  rw [hr] at HM ⊢
  clear hk hr
  go_enter Tryz.func92, Tryz.ntmps92
  go_wp2_with (go_at_call 39; refine (HM _).out.mono ?_; rintro e w1 ⟨rfl, hb1⟩)
  go_ret
  exact ⟨rfl, bt (bt (box2 _ _ _) hb1) (box1 _ _)⟩
theorem pos_hit {l : List Bd} (hs : Sorted l) {i : Int} {k : Nat} {t : Bd} (ht : l[k]? = some t) (hi : t.id = i) : pos l i = k := by
  have h1 := pos_iff hs i k t ht
  have hkl := (List.getElem?_eq_some_iff.1 ht).1
  by_cases he : pos l i = k
  · exact he
  · have hlt : pos l i < l.length := by omega
    have h2 := pos_iff hs i (pos l i) l[pos l i] (List.getElem?_eq_getElem hlt)
    have h3 : l[pos l i].id < t.id := by
      have := List.pairwise_iff_getElem.1 hs (pos l i) k hlt hkl (by omega)
      rwa [(List.getElem?_eq_some_iff.1 ht).2] at this
    omega
def plc (l : List Bd) (i : Int) : Int := if found l i = true then (pos l i : Nat) else -1
end Go.Proofs.YtggaobcdogbjhaaGreatDoor
