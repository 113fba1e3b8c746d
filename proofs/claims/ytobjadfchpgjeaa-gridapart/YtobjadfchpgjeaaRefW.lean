/-
  The document's World in memory; which building may be, whether two share a cell, where a number stands.
-/
import Derived.Test.YtobjadfchpgjeaaRefMeet
import Derived.Test.YtobjadfchpgjeaaRaze2
namespace Go.Proofs.Ytobjadfchpgjeaa
open Go.RowKit Go.Shelf
attribute [local go_sem] Oper.semAt_some
set_option linter.unusedVariables false
/-- In block r lies the document's World. -/
def Rd (w : World) (r : Nat) (W H : Int) (tv bv ev : Value) : Prop :=
  w.heap[r]? = some (.cells #[.int .i64 W, .int .i64 H, tv, bv, ev] 83 (0, 0))
section
variable {w w' : World} {r : Nat} {W H : Int} {tv bv ev : Value}
theorem Rd.lt (h : Rd w r W H tv bv ev) : r < w.heap.size := (Array.getElem?_eq_some_iff.1 h).1
theorem Rd.kept {S : Nat → Prop} (h : Rd w r W H tv bv ev) (ht : Turns S w w') (hs : ¬ S r) : Rd w' r W H tv bv ev := ht.same hs h
theorem Rd.c (h : Rd w r W H tv bv ev) (j : Nat) : w.cell? ⟨r, j, none⟩ = (#[.int .i64 W, .int .i64 H, tv, bv, ev] : Array Value)[j]? := cell_of_row w r j _ _ _ h
theorem Rd.f (h : Rd w r W H tv bv ev) (j : Nat) : w.frozen? ⟨r, j, none⟩ = false := by
  have h' : w.heap[r]? = _ := h
  simp [World.frozen?, h']
theorem Rd.ne_row (h : Rd w r W H tv bv ev) {v : Value} {e : TypeId} {k n : Nat} {xs : List Value} (hv : w.ownsRow 0 e k v n xs) (he : e ≠ 83) : v.ownBlock ≠ some r := by
  intro hh
  rcases hv.2 with ⟨rfl, _⟩ | ⟨g, cap, cur, rfl, hb, hg, _⟩
  · simp [Value.ownBlock] at hh
  · simp [Value.ownBlock] at hh
    subst hh
    rw [show w.heap[g]? = _ from h] at hg
    simp at hg
    exact he hg.2.symm
theorem Rd.set3 (h : Rd w r W H tv bv ev) (v : Value) : Rd (w.setCell ⟨r, 3, none⟩ v) r W H tv v ev := by
  have h' : w.heap[r]? = _ := h
  have hlt := h.lt
  unfold Rd
  simp [World.setCell, Array.getElem?_modify, h']
theorem Rd.set4 (h : Rd w r W H tv bv ev) (v : Value) : Rd (w.setCell ⟨r, 4, none⟩ v) r W H tv bv v := by
  have h' : w.heap[r]? = _ := h
  have hlt := h.lt
  unfold Rd
  simp [World.setCell, Array.getElem?_modify, h']
end
theorem refwithin_is {x y a b p q c d : Int} {r : Bool} (w : World) (h : wi x y a b p q c d = r) :
    Calls Try.prog 77 #[rct x y a b, rct p q c d] w fun e w' => e = .returned (.bool r) ∧ Below w.heap.size w w' := by
  subst h; exact refwithin_any x y a b p q c d w
set_option maxHeartbeats 2000000 in
theorem refmaybe_any (t : Bd) (W H : Int) (w : World) : Calls Try.prog 66 #[t.v, rct 0 0 W H] w fun e w' => e = .returned (.bool (mb W H t)) ∧ Below w.heap.size w w' := by
  by_cases h1 : 1 ≤ t.id
  · by_cases h2 : t.id ≤ 2147483647
    · by_cases h3 : 1 ≤ t.a
      · by_cases h4 : t.a ≤ 8
        · by_cases h5 : 1 ≤ t.b
          · by_cases h6 : t.b ≤ 8
            · rw [show mb W H t = wi t.x t.y t.a t.b 0 0 W H by simp [mb, gs, h1, h2, h3, h4, h5, h6]]
              go_enter Try.func66, Try.ntmps66
              go_wp2_with (go_at_call 77; refine (refwithin_any _ _ _ _ _ _ _ _ _).mono ?_; rintro e w1 ⟨rfl, hb1⟩)
              go_ret
              exact ⟨rfl, bt (box2 _ _ _) hb1⟩
            · rw [show mb W H t = false by simp [mb, gs, h6]]
              go_enter Try.func66, Try.ntmps66
              go_wp2_with fail
              go_ret
              exact ⟨rfl, box2 _ _ _⟩
          · rw [show mb W H t = false by simp [mb, gs, h5]]
            go_enter Try.func66, Try.ntmps66
            go_wp2_with fail
            go_ret
            exact ⟨rfl, box2 _ _ _⟩
        · rw [show mb W H t = false by simp [mb, gs, h4]]
          go_enter Try.func66, Try.ntmps66
          go_wp2_with fail
          go_ret
          exact ⟨rfl, box2 _ _ _⟩
      · rw [show mb W H t = false by simp [mb, gs, h3]]
        go_enter Try.func66, Try.ntmps66
        go_wp2_with fail
        go_ret
        exact ⟨rfl, box2 _ _ _⟩
    · rw [show mb W H t = false by simp [mb, h2]]
      go_enter Try.func66, Try.ntmps66
      go_wp2_with fail
      go_ret
      exact ⟨rfl, box2 _ _ _⟩
  · rw [show mb W H t = false by simp [mb, h1]]
    go_enter Try.func66, Try.ntmps66
    go_wp2_with fail
    go_ret
    exact ⟨rfl, box2 _ _ _⟩
set_option maxHeartbeats 1000000 in
theorem share_any (x y a b p q c d : Int) (w : World) : Calls Try.prog 67 #[rct x y a b, rct p q c d] w fun e w' => e = .returned (.bool (mtB x y a b p q c d)) ∧ Below w.heap.size w w' := by
  obtain ⟨k0, k1, k2, k3, hk⟩ := mtV_lit x y a b p q c d
  have HM := fun wx => hide (refmeet_any x y a b p q c d wx)
  simp only [hk] at HM
  obtain ⟨r, hr⟩ : ∃ r, mtB x y a b p q c d = r := ⟨_, rfl⟩
  rw [hr] at HM ⊢
  clear hk hr
  go_enter Try.func67, Try.ntmps67
  go_wp2_with (go_at_call 78; refine (HM _).out.mono ?_; rintro e w1 ⟨rfl, hb1⟩)
  go_ret
  exact ⟨rfl, bt (bt (box2 _ _ _) hb1) (box1 _ _)⟩
set_option maxHeartbeats 1000000 in
theorem refall_any (r : Nat) (W H : Int) (tv bv ev : Value) (w : World) (hd : Rd w r W H tv bv ev) : Calls Try.prog 34 #[ptr r] w fun e w' => e = .returned (rct 0 0 W H) ∧ Below w.heap.size w w' := by
  have c0 : w.cell? ⟨r, 0, none⟩ = some (.int .i64 W) := hd.c 0
  have c1 : w.cell? ⟨r, 1, none⟩ = some (.int .i64 H) := hd.c 1
  have hr := hd.lt
  clear hd
  have F0 : Four (w.alloc (.cells #[.int .i64 0, .int .i64 0, .int .i64 0, .int .i64 0] 43)) w.heap.size 0 0 0 0 := cells4 (Below.refl _ _)
  have hS0 : (w.alloc (.cells #[.int .i64 0, .int .i64 0, .int .i64 0, .int .i64 0] 43)).cell? ⟨r, 0, none⟩ = some (.int .i64 W) ∧ (w.alloc (.cells #[.int .i64 0, .int .i64 0, .int .i64 0, .int .i64 0] 43)).cell? ⟨r, 1, none⟩ = some (.int .i64 H) := ⟨((box1 w _).cell (p := ⟨r, 0, none⟩) hr).trans c0, ((box1 w _).cell (p := ⟨r, 1, none⟩) hr).trans c1⟩
  go_enter Try.func34, Try.ntmps34
  go_wp2_with fail
  obtain ⟨w1, hw1⟩ : ∃ w1, w1 = (w.alloc (.cells #[.int .i64 0, .int .i64 0, .int .i64 0, .int .i64 0] 43)) := ⟨_, rfl⟩
  have hb1 : Below w.heap.size w w1 := hw1 ▸ box1 _ _
  rw [← hw1] at hS0 F0 ⊢
  clear hw1 c0 c1
  have F1 : Four w1.drew w.heap.size 0 0 0 0 := F0
  have hb2 : Below w.heap.size w w1.drew := hb1.drew
  obtain ⟨⟨g0, g1, g2, g3⟩, ⟨f0, f1, f2, f3⟩, hz⟩ := F0
  refine Code.wp_mono (Q := Only (fun a' w' => a' = { tmps := #[ptr r, undef, ptr w.heap.size, ptr r, ptr r, .pointer (some ⟨r, 0, none⟩), .int .i64 W, ptr r, ptr r, .pointer (some ⟨r, 1, none⟩), .int .i64 H, rct 0 0 W H], defers := [] } ∧ Four w' w.heap.size 0 0 W H ∧ Below w.heap.size w w')) ?rest ?_
  case rest =>
    rintro (_ | _ | _ | _ | _) a' w' hO
    all_goals first | exact hO.elim | skip
    obtain ⟨rfl, ⟨⟨k0, k1, k2, k3⟩, ⟨l0, l1, l2, l3⟩, hz'⟩, hb'⟩ := hO
    go_wp2_with fail
    first
      | (go_ret; exact ⟨rfl, hb'⟩)
      | (refine bodyPost_ret (v := rct 0 0 W H) (by simp [results, Try.results34, go_sem, k0, k1, k2, k3]) rfl ⟨rfl, hb'⟩)
  refine wp_region_held_drew (S := fun w' => w'.cell? ⟨r, 0, none⟩ = some (.int .i64 W) ∧ w'.cell? ⟨r, 1, none⟩ = some (.int .i64 H)) (by kernel_rfl) hS0 (fun hHeld => ?_)
  refine wpAnyH_take (i := 0) (v := ?_) rfl (by kernel_rfl) (by kernel_rfl) (by kernel_rfl) (fun _ _ _ h => h.elim) (Or.inl ⟨by rfl, ?_⟩) (by assumption) ?_
  rotate_left
  · intro wx hSw
    try dsimp only at hSw
    go_simp
    try with_reducible rfl
  try simp only [Act.put, List.getElem_toArray, List.getElem_cons_zero, List.setIfInBounds_toArray, List.set_cons_zero, List.set_cons_succ]
  refine wpAnyH_take (i := 1) (v := ?_) rfl (by kernel_rfl) (by kernel_rfl) (by kernel_rfl) (fun _ _ _ h => h.elim) (Or.inl ⟨by rfl, ?_⟩) (by assumption) ?_
  rotate_left
  · intro wx hSw
    try dsimp only at hSw
    go_simp
    try with_reducible rfl
  try simp only [Act.put, List.getElem_toArray, List.getElem_cons_zero, List.getElem_cons_succ, List.setIfInBounds_toArray, List.set_cons_zero, List.set_cons_succ]
  refine wpAnyH_take (i := 2) (v := ?_) rfl (by kernel_rfl) (by kernel_rfl) (by kernel_rfl) (fun _ _ _ h => h.elim) (Or.inl ⟨by rfl, ?_⟩) (by assumption) ?_
  rotate_left
  · intro wx hSw
    try dsimp only at hSw
    go_simp
    try with_reducible rfl
  try simp only [Act.put, List.getElem_toArray, List.getElem_cons_zero, List.getElem_cons_succ, List.setIfInBounds_toArray, List.set_cons_zero, List.set_cons_succ]
  refine wpAnyH_take (i := 3) (v := ?_) rfl (by kernel_rfl) (by kernel_rfl) (by kernel_rfl) (fun _ _ _ h => h.elim) (Or.inl ⟨by rfl, ?_⟩) (by assumption) ?_
  rotate_left
  · intro wx hSw
    try dsimp only at hSw
    go_simp
    try with_reducible rfl
  try simp only [Act.put, List.getElem_toArray, List.getElem_cons_zero, List.getElem_cons_succ, List.setIfInBounds_toArray, List.set_cons_zero, List.set_cons_succ]
  refine wpAnyH_take (i := 4) (v := ?_) rfl (by kernel_rfl) (by kernel_rfl) (by kernel_rfl) (fun _ _ _ h => h.elim) (Or.inl ⟨by rfl, ?_⟩) (by assumption) ?_
  rotate_left
  · intro wx hSw
    try dsimp only at hSw
    go_simp
    try with_reducible rfl
  try simp only [Act.put, List.getElem_toArray, List.getElem_cons_zero, List.getElem_cons_succ, List.setIfInBounds_toArray, List.set_cons_zero, List.set_cons_succ]
  refine wpAnyH_take (i := 5) (v := ?_) rfl (by kernel_rfl) (by kernel_rfl) (by kernel_rfl) (fun _ _ _ h => h.elim) (Or.inl ⟨by rfl, ?_⟩) (by assumption) ?_
  rotate_left
  · intro wx hSw
    try dsimp only at hSw
    go_simp
    try with_reducible rfl
  try simp only [Act.put, List.getElem_toArray, List.getElem_cons_zero, List.getElem_cons_succ, List.setIfInBounds_toArray, List.set_cons_zero, List.set_cons_succ]
  refine wpAnyH_take (i := 6) (v := ?_) rfl (by kernel_rfl) (by kernel_rfl) (by kernel_rfl) (fun _ _ _ h => h.elim) (Or.inl ⟨by rfl, ?_⟩) (by assumption) ?_
  rotate_left
  · intro wx hSw
    try dsimp only at hSw
    go_simp
    try with_reducible rfl
  try simp only [Act.put, List.getElem_toArray, List.getElem_cons_zero, List.getElem_cons_succ, List.setIfInBounds_toArray, List.set_cons_zero, List.set_cons_succ]
  refine wpAnyH_take (i := 7) (v := ?_) rfl (by kernel_rfl) (by kernel_rfl) (by kernel_rfl) (fun _ _ _ h => h.elim) (Or.inl ⟨by rfl, ?_⟩) (by assumption) ?_
  rotate_left
  · intro wx hSw
    try dsimp only at hSw
    go_simp
    try with_reducible rfl
  try simp only [Act.put, List.getElem_toArray, List.getElem_cons_zero, List.getElem_cons_succ, List.setIfInBounds_toArray, List.set_cons_zero, List.set_cons_succ]
  refine wpAnyH_take (i := 8) (v := ?_) rfl (by kernel_rfl) (by kernel_rfl) (by kernel_rfl) (fun _ _ _ h => h.elim) (Or.inl ⟨by rfl, ?_⟩) (by assumption) ?_
  rotate_left
  · intro wx hSw
    try dsimp only at hSw
    go_simp
    try with_reducible rfl
  try simp only [Act.put, List.getElem_toArray, List.getElem_cons_zero, List.getElem_cons_succ, List.setIfInBounds_toArray, List.set_cons_zero, List.set_cons_succ]
  refine wpAnyH_ready (rs := [9]) (by kernel_rfl) (by simp) ?_
  refine AllReadyH.cons rfl (fun K hK => ?_) ?_
  · go_simp
    refine hK.out _ _ ?_ (fun hHeld => ?_)
    · first | exact hS0 | (simpa [go_sem, Nat.ne_of_lt hr, Nat.ne_of_gt hr] using hS0)
    clear hK K
    try simp only [Act.put, List.getElem_toArray, List.getElem_cons_zero, List.getElem_cons_succ, List.setIfInBounds_toArray, List.set_cons_zero, List.set_cons_succ]
    refine wpAnyH_done (by kernel_rfl) ?_ _
    refine ⟨rfl, F1.set _ _ _ _, ?_⟩
    exact Below.setCell (Below.setCell (Below.setCell (Below.setCell hb2 (Nat.le_refl _) _) (Nat.le_refl _) _) (Nat.le_refl _) _) (Nat.le_refl _) _
  exact AllReadyH.nil
theorem pos_hit {l : List Bd} (hs : Sorted l) {i : Int} {k : Nat} {t : Bd} (ht : l[k]? = some t) (hi : t.id = i) : pos l i = k := by
  have h1 := pos_iff hs i k t ht
  have hkl := (List.getElem?_eq_some_iff.1 ht).1
  by_cases he : pos l i = k
  · exact he
  · have hlt : pos l i < l.length := by omega
    have h2 := pos_iff hs i (pos l i) l[pos l i] (List.getElem?_eq_getElem hlt)
    have h3 : l[pos l i].id < t.id := by
      have := List.pairwise_iff_getElem.1 hs (pos l i) k hlt hkl (by omega)
      rwa [(List.getElem?_eq_some_iff.1 ht).2] at this
    omega
def plc (l : List Bd) (i : Int) : Int := if found l i = true then (pos l i : Nat) else -1
set_option maxRecDepth 100000 in
set_option maxHeartbeats 1000000 in
theorem refplace_any (r : Nat) (W H : Int) (tv bv ev : Value) (l : List Bd) (i : Int) (w : World) (hd : Rd w r W H tv bv ev) (hl : Bds w bv l) (hs : Sorted l) (hlen : l.length ≤ 256) :
    Calls Try.prog 40 #[ptr r, .int .i64 i] w fun e w' => e = .returned (.int .i64 (plc l i)) ∧ w' = w := by
  obtain ⟨a, cap, rfl, hcap, hmax, hat⟩ := hl.form
  have c3 : w.cell? ⟨r, 3, none⟩ = some (.slice a l.length cap) := hd.c 3
  have hlI : (0 : Int) ≤ (l.length : Nat) ∧ ((l.length : Nat) : Int) ≤ 256 := by omega
  clear hd
  go_enter Try.func40, Try.ntmps40
  go_wp2_with fail
  go_loopw [5] (fun p wr => ∃ k : Nat, k ≤ l.length ∧ p = .int .i64 k ∧ (∀ j t, l[j]? = some t → j < k → t.id ≠ i) ∧ wr = w) (fun p _ => l.length - (intOf p).toNat)
  case atStart => exact ⟨0, Nat.zero_le _, rfl, fun j t _ h => absurd h (by omega), rfl⟩
  case round =>
    obtain ⟨k, hk, rfl, hno, rfl⟩ := hrel
    by_cases hlt : k < l.length
    · obtain ⟨t, ht⟩ : ∃ t, l[k]? = some t := ⟨_, List.getElem?_eq_getElem hlt⟩
      obtain ⟨g, rfl, hg, e0, e1, e2, e3, e4⟩ := hat k t ht
      have hki : (k : Int) < (l.length : Nat) := by omega
      by_cases hi : t.id = i
      · have hp := pos_hit hs ht hi
        have hf : found l i = true := (found_iff hs i).2 ⟨t, by rw [hp]; exact ht, hi⟩
        have hpl : plc l i = (k : Nat) := by rw [plc, if_pos hf, hp]
        have HP := hide hpl
        have hib : (t.id == i) = true := by simp [hi]
        clear hpl hf hp hat hno ht hi hs
        go_wp2_with fail
        go_ret
        exact ⟨ret_int (by rw [HP.out]), rfl⟩
      · have hib : (t.id == i) = false := by simp [hi]
        have HN := hide hno
        have HT := hide ht
        clear hat hno ht hs
        go_wp2_with fail
        go_roundw
        case rel =>
          refine ⟨k + 1, by omega, by go_num, fun j s hj hjk => ?_, trivial⟩
          by_cases hjk' : j = k
          · subst hjk'; rw [HT.out] at hj; cases hj; exact hi
          · exact HN.out j s hj (by omega)
        case measure => simp [intOf]; omega
    · have hf : found l i = false := by
        rw [Bool.eq_false_iff]
        intro h
        obtain ⟨t, h1, h2⟩ := (found_iff hs i).1 h
        exact hno _ t h1 (by have := (List.getElem?_eq_some_iff.1 h1).1; omega) h2
      have hpl : plc l i = -1 := by rw [plc, hf]; rfl
      have HP := hide hpl
      have hki : ¬ (k : Int) < (l.length : Nat) := by omega
      clear hpl hf hat hno hs
      go_wp2_with fail
      go_ret
      exact ⟨ret_int (by rw [HP.out]), rfl⟩
end Go.Proofs.Ytobjadfchpgjeaa
