/-
  Map of a World.
-/
import Derived.Test.YtobjadfchpgjeaaClones
import Derived.Test.YtobjadfchpgjeaaNew
import Derived.Test.YtobjadfchpgjeaaPure
namespace Go.Proofs.Ytobjadfchpgjeaa
open Go.RowKit Go.Shelf
set_option linter.unusedVariables false
attribute [local go_sem] Oper.semAt_some
/-- A box with a Map in it. -/
def Mbx (w : World) (k : Nat) (a b c d : Value) : Prop := w.heap[k]? = some (.cells #[a, b, c, d] 25 (0, 0))
section
variable {w w' : World} {k : Nat} {a b s t : Value}
theorem Mbx.lt (h : Mbx w k a b s t) : k < w.heap.size := (Array.getElem?_eq_some_iff.1 h).1
theorem Mbx.kept {S : Nat → Prop} (h : Mbx w k a b s t) (ht : Turns S w w') (hs : ¬ S k) : Mbx w' k a b s t := ht.same hs h
theorem Mbx.c (h : Mbx w k a b s t) (j : Nat) : w.cell? ⟨k, j, none⟩ = (#[a, b, s, t] : Array Value)[j]? := cell_of_row w k j _ _ _ h
theorem Mbx.f (h : Mbx w k a b s t) (j : Nat) : w.frozen? ⟨k, j, none⟩ = false := by
  have h' : w.heap[k]? = _ := h
  simp [World.frozen?, h']
theorem Mbx.set (h : Mbx w k a b s t) (a' b' c' d' : Value) : Mbx ((((w.setCell ⟨k, 0, none⟩ a').setCell ⟨k, 1, none⟩ b').setCell ⟨k, 2, none⟩ c').setCell ⟨k, 3, none⟩ d') k a' b' c' d' := by
  have h' : w.heap[k]? = _ := h
  unfold Mbx
  simp [World.setCell, Array.getElem?_modify, h']
end
theorem Mbx.new (w : World) (a b c d : Value) : Mbx (w.alloc (.cells #[a, b, c, d] 25)) w.heap.size a b c d := heap_alloc_new w _
/-- What Map tells. -/
def Mapped (w : World) (W H : Int) (tl : List Nat) (l : List Bd) (e : Ending) (w' : World) : Prop :=
  ∃ a1 c1 a2 c2, e = .returned (mp W H (.slice a1 tl.length c1) (.slice a2 l.length c2)) ∧ Tls w' (.slice a1 tl.length c1) tl ∧ Bds w' (.slice a2 l.length c2) l ∧ Below w.heap.size w w' ∧ (∀ b, (Value.slice a1 tl.length c1).ownBlock = some b → w.heap.size ≤ b) ∧ ∀ b, (Value.slice a2 l.length c2).ownBlock = some b → w.heap.size ≤ b
set_option maxRecDepth 100000 in
set_option maxHeartbeats 4000000 in
theorem map_world (p bm : Nat) (W H : Int) (tv bv ev : Value) (tl : List Nat) (l : List Bd) (w : World) (hd : Wd w p W H tv bv bm ev) (ht : Tls w tv tl) (hl : Bds w bv l) (htl : tl.length ≤ 16384) (hlen : l.length ≤ 256) :
    Calls Try.prog 21 #[ptr p] w (Mapped w W H tl l) := by
  have B0 : Below w.heap.size w (w.alloc (.cells #[.int .i64 0, .int .i64 0, .slice none 0 0, .slice none 0 0] 25)) := box1 _ _
  have T0 : Turns NoB w (w.alloc (.cells #[.int .i64 0, .int .i64 0, .slice none 0 0, .slice none 0 0] 25)) := Turns.of_below B0
  have hd0 : Wd (w.alloc (.cells #[.int .i64 0, .int .i64 0, .slice none 0 0, .slice none 0 0] 25)) p W H tv bv bm ev := hd.kept T0 id
  have HM := hide (made_is hd0)
  have MB : Mbx (w.alloc (.cells #[.int .i64 0, .int .i64 0, .slice none 0 0, .slice none 0 0] 25)) w.heap.size (.int .i64 0) (.int .i64 0) (.slice none 0 0) (.slice none 0 0) := Mbx.new _ _ _ _ _
  obtain ⟨X, hX⟩ : ∃ X, (w.alloc (.cells #[.int .i64 0, .int .i64 0, .slice none 0 0, .slice none 0 0] 25)) = X := ⟨_, rfl⟩
  rw [hX] at B0 T0 hd0 HM MB
  have ht0 := ht.kept T0 (fun _ _ => id)
  have hl0 := hl.kept T0 (fun _ _ => id)
  have hp0 := hd.lt
  have hXs : w.heap.size + 1 = X.heap.size := by rw [← hX]; simp
  have hS : ∀ {wx : World}, Below X.heap.size X wx → wx.cell? ⟨p, 2, none⟩ = some (.int .i64 W) ∧ wx.cell? ⟨p, 3, none⟩ = some (.int .i64 H) ∧ wx.cell? ⟨p, 4, none⟩ = some tv ∧ wx.cell? ⟨p, 5, none⟩ = some bv := fun {wx} hb => by
    have h := hd0.kept (Turns.of_below (S := NoB) hb) id
    exact ⟨h.c 2, h.c 3, h.c 4, h.c 5⟩
  have hS0 := hS (Below.refl _ _)
  have hD : Below X.heap.size X X.drew := (Below.refl _ _).drew
  have H42 : Hid (∀ wx, Below X.heap.size X wx → Calls Try.prog 42 #[tv] wx (Cloned wx 5 1 tl.length (tl.map (fun n => Value.int .u8 (n : Nat))))) := hide fun wx hb => clone22 tl tv wx (ht0.kept (Turns.of_below (S := NoB) hb) (fun _ _ => id)).r htl
  have H43 : Hid (∀ wx, Below X.heap.size X wx → Calls Try.prog 43 #[bv] wx (Cloned wx 55 5 l.length (l.flatMap Bd.cs))) := hide fun wx hb => clone23 l bv wx (hl0.kept (Turns.of_below (S := NoB) hb) (fun _ _ => id)) hlen
  have hF : ∀ {wx : World}, Below X.heap.size X wx → Mbx wx w.heap.size (.int .i64 0) (.int .i64 0) (.slice none 0 0) (.slice none 0 0) := fun {wx} hb => MB.kept (Turns.of_below (S := NoB) hb) id
  have hEnd : ∀ {w5 : World} {a1 a2 : Option Addr} {c1 c2 : Nat}, Below X.heap.size X w5 → w5.ownsRow 0 5 1 (.slice a1 tl.length c1) tl.length (tl.map (fun n => Value.int .u8 (n : Nat))) → w5.ownsRow 0 55 5 (.slice a2 l.length c2) l.length (l.flatMap Bd.cs) → (∀ b, (Value.slice a1 tl.length c1).ownBlock = some b → X.heap.size ≤ b) → (∀ b, (Value.slice a2 l.length c2).ownBlock = some b → X.heap.size ≤ b) →
      Mbx ((((w5.setCell ⟨w.heap.size, 0, none⟩ (.int .i64 W)).setCell ⟨w.heap.size, 1, none⟩ (.int .i64 H)).setCell ⟨w.heap.size, 2, none⟩ (.slice a1 tl.length c1)).setCell ⟨w.heap.size, 3, none⟩ (.slice a2 l.length c2)) w.heap.size (.int .i64 W) (.int .i64 H) (.slice a1 tl.length c1) (.slice a2 l.length c2) ∧
      Mapped w W H tl l (.returned (mp W H (.slice a1 tl.length c1) (.slice a2 l.length c2))) ((((w5.setCell ⟨w.heap.size, 0, none⟩ (.int .i64 W)).setCell ⟨w.heap.size, 1, none⟩ (.int .i64 H)).setCell ⟨w.heap.size, 2, none⟩ (.slice a1 tl.length c1)).setCell ⟨w.heap.size, 3, none⟩ (.slice a2 l.length c2)) := fun {w5 a1 a2 c1 c2} hb o1 o2 n1 n2 => by
    have TS : Turns (fun j => j = w.heap.size) w5 ((((w5.setCell ⟨w.heap.size, 0, none⟩ (.int .i64 W)).setCell ⟨w.heap.size, 1, none⟩ (.int .i64 H)).setCell ⟨w.heap.size, 2, none⟩ (.slice a1 tl.length c1)).setCell ⟨w.heap.size, 3, none⟩ (.slice a2 l.length c2)) :=
      (((Turns.set (S := fun j => j = w.heap.size) _ (p := ⟨w.heap.size, 0, none⟩) rfl _).trans ((Turns.set (S := fun j => j = w.heap.size) _ (p := ⟨w.heap.size, 1, none⟩) rfl _).mono (fun _ _ h => .inl h))).trans ((Turns.set (S := fun j => j = w.heap.size) _ (p := ⟨w.heap.size, 2, none⟩) rfl _).mono (fun _ _ h => .inl h))).trans ((Turns.set (S := fun j => j = w.heap.size) _ (p := ⟨w.heap.size, 3, none⟩) rfl _).mono (fun _ _ h => .inl h))
    refine ⟨(hF hb).set _ _ _ _, a1, c1, a2, c2, rfl, row_kept o1 TS (fun k e h => ?_), row_kept o2 TS (fun k e h => ?_), ?_, fun b h => ?_, fun b h => ?_⟩
    · have := n1 k e; omega
    · have := n2 k e; omega
    · exact set4 (bt B0 hb) (Nat.le_refl _)
    · have := n1 b h; omega
    · have := n2 b h; omega
  clear hd ht hl hd0 ht0 hl0 T0
  go_enter Try.func21, Try.ntmps21
  go_wp2_with (first | (go_at_call 36; refine HM.out.mono ?_; rintro e w1 ⟨rfl, rfl⟩))
  clear HM
  refine Code.wp_mono (Q := Only (fun a' w' => ∃ a1 c1 a2 c2, a' = { tmps := #[ptr p, undef, ptr w.heap.size, ptr p, .bool true, .bool false, undef, ptr p, ptr p, .pointer (some ⟨p, 0, none⟩), .pointer (some ⟨p, 2, none⟩), .int .i64 W, ptr p, ptr p, .pointer (some ⟨p, 0, none⟩), .pointer (some ⟨p, 3, none⟩), .int .i64 H, ptr p, ptr p, .pointer (some ⟨p, 4, none⟩), tv, .slice a1 tl.length c1, ptr p, ptr p, .pointer (some ⟨p, 5, none⟩), bv, .slice a2 l.length c2, mp W H (.slice a1 tl.length c1) (.slice a2 l.length c2)], defers := [] } ∧ Mbx w' w.heap.size (.int .i64 W) (.int .i64 H) (.slice a1 tl.length c1) (.slice a2 l.length c2) ∧ Mapped w W H tl l (.returned (mp W H (.slice a1 tl.length c1) (.slice a2 l.length c2))) w')) ?rest ?_
  case rest =>
    rintro (_ | _ | _ | _ | _) a' w' hO
    all_goals first | exact hO.elim | skip
    obtain ⟨a1, c1, a2, c2, rfl, hm, hE⟩ := hO
    have HE := hide hE
    have m0 : w'.cell? ⟨w.heap.size, 0, none⟩ = some (.int .i64 W) := hm.c 0
    have m1 : w'.cell? ⟨w.heap.size, 1, none⟩ = some (.int .i64 H) := hm.c 1
    have m2 : w'.cell? ⟨w.heap.size, 2, none⟩ = some (.slice a1 tl.length c1) := hm.c 2
    have m3 : w'.cell? ⟨w.heap.size, 3, none⟩ = some (.slice a2 l.length c2) := hm.c 3
    clear hE
    go_wp2_with fail
    exact bodyPost_ret (v := mp W H (.slice a1 tl.length c1) (.slice a2 l.length c2)) (by simp [results, Try.results21, go_sem, m0, m1, m2, m3]) rfl HE.out
  refine wp_region_held_drew (S := fun w' => w'.cell? ⟨p, 2, none⟩ = some (.int .i64 W) ∧ w'.cell? ⟨p, 3, none⟩ = some (.int .i64 H) ∧ w'.cell? ⟨p, 4, none⟩ = some tv ∧ w'.cell? ⟨p, 5, none⟩ = some bv) (by kernel_rfl) hS0 (fun hHeld => ?_)
  refine wpAnyH_take (i := 0) (v := ?_) rfl (by kernel_rfl) (by kernel_rfl) (by kernel_rfl) (fun _ _ _ h => h.elim) (Or.inl ⟨by rfl, ?_⟩) (by assumption) ?_
  rotate_left
  · intro wx hSw
    try dsimp only at hSw
    go_simp
    try with_reducible rfl
  try simp only [Act.put, List.getElem_toArray, List.getElem_cons_zero, List.setIfInBounds_toArray, List.set_cons_zero, List.set_cons_succ]
  refine wpAnyH_take (i := 1) (v := ?_) rfl (by kernel_rfl) (by kernel_rfl) (by kernel_rfl) (fun _ _ _ h => h.elim) (Or.inl ⟨by rfl, ?_⟩) (by assumption) ?_
  rotate_left
  · intro wx hSw
    try dsimp only at hSw
    go_simp
    try with_reducible rfl
  try simp only [Act.put, List.getElem_toArray, List.getElem_cons_zero, List.getElem_cons_succ, List.setIfInBounds_toArray, List.set_cons_zero, List.set_cons_succ]
  refine wpAnyH_take (i := 2) (v := ?_) rfl (by kernel_rfl) (by kernel_rfl) (by kernel_rfl) (fun _ _ _ h => h.elim) (Or.inl ⟨by rfl, ?_⟩) (by assumption) ?_
  rotate_left
  · intro wx hSw
    try dsimp only at hSw
    go_simp
    try with_reducible rfl
  try simp only [Act.put, List.getElem_toArray, List.getElem_cons_zero, List.getElem_cons_succ, List.setIfInBounds_toArray, List.set_cons_zero, List.set_cons_succ]
  refine wpAnyH_take (i := 3) (v := ?_) rfl (by kernel_rfl) (by kernel_rfl) (by kernel_rfl) (fun _ _ _ h => h.elim) (Or.inl ⟨by rfl, ?_⟩) (by assumption) ?_
  rotate_left
  · intro wx hSw
    try dsimp only at hSw
    go_simp
    try with_reducible rfl
  try simp only [Act.put, List.getElem_toArray, List.getElem_cons_zero, List.getElem_cons_succ, List.setIfInBounds_toArray, List.set_cons_zero, List.set_cons_succ]
  refine wpAnyH_take (i := 4) (v := ?_) rfl (by kernel_rfl) (by kernel_rfl) (by kernel_rfl) (fun _ _ _ h => h.elim) (Or.inl ⟨by rfl, ?_⟩) (by assumption) ?_
  rotate_left
  · intro wx hSw
    try dsimp only at hSw
    go_simp
    try with_reducible rfl
  try simp only [Act.put, List.getElem_toArray, List.getElem_cons_zero, List.getElem_cons_succ, List.setIfInBounds_toArray, List.set_cons_zero, List.set_cons_succ]
  refine wpAnyH_take (i := 5) (v := ?_) rfl (by kernel_rfl) (by kernel_rfl) (by kernel_rfl) (fun _ _ _ h => h.elim) (Or.inl ⟨by rfl, ?_⟩) (by assumption) ?_
  rotate_left
  · intro wx hSw
    try dsimp only at hSw
    go_simp
    try with_reducible rfl
  try simp only [Act.put, List.getElem_toArray, List.getElem_cons_zero, List.getElem_cons_succ, List.setIfInBounds_toArray, List.set_cons_zero, List.set_cons_succ]
  refine wpAnyH_take (i := 6) (v := ?_) rfl (by kernel_rfl) (by kernel_rfl) (by kernel_rfl) (fun _ _ _ h => h.elim) (Or.inl ⟨by rfl, ?_⟩) (by assumption) ?_
  rotate_left
  · intro wx hSw
    try dsimp only at hSw
    go_simp
    try with_reducible rfl
  try simp only [Act.put, List.getElem_toArray, List.getElem_cons_zero, List.getElem_cons_succ, List.setIfInBounds_toArray, List.set_cons_zero, List.set_cons_succ]
  refine wpAnyH_take (i := 7) (v := ?_) rfl (by kernel_rfl) (by kernel_rfl) (by kernel_rfl) (fun _ _ _ h => h.elim) (Or.inl ⟨by rfl, ?_⟩) (by assumption) ?_
  rotate_left
  · intro wx hSw
    try dsimp only at hSw
    go_simp
    try with_reducible rfl
  try simp only [Act.put, List.getElem_toArray, List.getElem_cons_zero, List.getElem_cons_succ, List.setIfInBounds_toArray, List.set_cons_zero, List.set_cons_succ]
  refine wpAnyH_take (i := 8) (v := ?_) rfl (by kernel_rfl) (by kernel_rfl) (by kernel_rfl) (fun _ _ _ h => h.elim) (Or.inl ⟨by rfl, ?_⟩) (by assumption) ?_
  rotate_left
  · intro wx hSw
    try dsimp only at hSw
    go_simp
    try with_reducible rfl
  try simp only [Act.put, List.getElem_toArray, List.getElem_cons_zero, List.getElem_cons_succ, List.setIfInBounds_toArray, List.set_cons_zero, List.set_cons_succ]
  refine wpAnyH_take (i := 9) (v := ?_) rfl (by kernel_rfl) (by kernel_rfl) (by kernel_rfl) (fun _ _ _ h => h.elim) (Or.inl ⟨by rfl, ?_⟩) (by assumption) ?_
  rotate_left
  · intro wx hSw
    try dsimp only at hSw
    go_simp
    try with_reducible rfl
  try simp only [Act.put, List.getElem_toArray, List.getElem_cons_zero, List.getElem_cons_succ, List.setIfInBounds_toArray, List.set_cons_zero, List.set_cons_succ]
  refine wpAnyH_take (i := 10) (v := ?_) rfl (by kernel_rfl) (by kernel_rfl) (by kernel_rfl) (fun _ _ _ h => h.elim) (Or.inl ⟨by rfl, ?_⟩) (by assumption) ?_
  rotate_left
  · intro wx hSw
    try dsimp only at hSw
    go_simp
    try with_reducible rfl
  try simp only [Act.put, List.getElem_toArray, List.getElem_cons_zero, List.getElem_cons_succ, List.setIfInBounds_toArray, List.set_cons_zero, List.set_cons_succ]
  refine wpAnyH_take (i := 11) (v := ?_) rfl (by kernel_rfl) (by kernel_rfl) (by kernel_rfl) (fun _ _ _ h => h.elim) (Or.inl ⟨by rfl, ?_⟩) (by assumption) ?_
  rotate_left
  · intro wx hSw
    try dsimp only at hSw
    go_simp
    try with_reducible rfl
  try simp only [Act.put, List.getElem_toArray, List.getElem_cons_zero, List.getElem_cons_succ, List.setIfInBounds_toArray, List.set_cons_zero, List.set_cons_succ]
  refine wpAnyH_take (i := 12) (v := ?_) rfl (by kernel_rfl) (by kernel_rfl) (by kernel_rfl) (fun _ _ _ h => h.elim) (Or.inl ⟨by rfl, ?_⟩) (by assumption) ?_
  rotate_left
  · intro wx hSw
    try dsimp only at hSw
    go_simp
    try with_reducible rfl
  try simp only [Act.put, List.getElem_toArray, List.getElem_cons_zero, List.getElem_cons_succ, List.setIfInBounds_toArray, List.set_cons_zero, List.set_cons_succ]
  refine wpAnyH_take (i := 13) (v := ?_) rfl (by kernel_rfl) (by kernel_rfl) (by kernel_rfl) (fun _ _ _ h => h.elim) (Or.inl ⟨by rfl, ?_⟩) (by assumption) ?_
  rotate_left
  · intro wx hSw
    try dsimp only at hSw
    go_simp
    try with_reducible rfl
  try simp only [Act.put, List.getElem_toArray, List.getElem_cons_zero, List.getElem_cons_succ, List.setIfInBounds_toArray, List.set_cons_zero, List.set_cons_succ]
  refine wpAnyH_take (i := 15) (v := ?_) rfl (by kernel_rfl) (by kernel_rfl) (by kernel_rfl) (fun _ _ _ h => h.elim) (Or.inl ⟨by rfl, ?_⟩) (by assumption) ?_
  rotate_left
  · intro wx hSw
    try dsimp only at hSw
    go_simp
    try with_reducible rfl
  try simp only [Act.put, List.getElem_toArray, List.getElem_cons_zero, List.getElem_cons_succ, List.setIfInBounds_toArray, List.set_cons_zero, List.set_cons_succ]
  refine wpAnyH_take (i := 16) (v := ?_) rfl (by kernel_rfl) (by kernel_rfl) (by kernel_rfl) (fun _ _ _ h => h.elim) (Or.inl ⟨by rfl, ?_⟩) (by assumption) ?_
  rotate_left
  · intro wx hSw
    try dsimp only at hSw
    go_simp
    try with_reducible rfl
  try simp only [Act.put, List.getElem_toArray, List.getElem_cons_zero, List.getElem_cons_succ, List.setIfInBounds_toArray, List.set_cons_zero, List.set_cons_succ]
  refine wpAnyH_take (i := 17) (v := ?_) rfl (by kernel_rfl) (by kernel_rfl) (by kernel_rfl) (fun _ _ _ h => h.elim) (Or.inl ⟨by rfl, ?_⟩) (by assumption) ?_
  rotate_left
  · intro wx hSw
    try dsimp only at hSw
    go_simp
    try with_reducible rfl
  try simp only [Act.put, List.getElem_toArray, List.getElem_cons_zero, List.getElem_cons_succ, List.setIfInBounds_toArray, List.set_cons_zero, List.set_cons_succ]
  refine wpAnyH_take (i := 18) (v := ?_) rfl (by kernel_rfl) (by kernel_rfl) (by kernel_rfl) (fun _ _ _ h => h.elim) (Or.inl ⟨by rfl, ?_⟩) (by assumption) ?_
  rotate_left
  · intro wx hSw
    try dsimp only at hSw
    go_simp
    try with_reducible rfl
  try simp only [Act.put, List.getElem_toArray, List.getElem_cons_zero, List.getElem_cons_succ, List.setIfInBounds_toArray, List.set_cons_zero, List.set_cons_succ]
  refine wpAnyH_ready (rs := [14]) (by kernel_rfl) (by simp) ?_
  refine AllReadyH.cons rfl (fun K hK => ?_) ?_
  · go_simp
    refine (H42.out _ hD).mono ?_
    rintro e w4 ⟨a1, c1, rfl, o1, b1, n1⟩
    have hb4 := bt hD b1
    have hSw4 := hS hb4
    try go_wp2_with fail
    refine hK.out _ _ ?_ (fun hHeld => ?_)
    · first | exact hSw5 | exact hSw4 | exact hS0 | (simpa [go_sem, Nat.ne_of_lt hp0, Nat.ne_of_gt hp0] using hSw5)
    clear hK K
    try simp only [Act.put, List.getElem_toArray, List.getElem_cons_zero, List.getElem_cons_succ, List.setIfInBounds_toArray, List.set_cons_zero, List.set_cons_succ]
    refine wpAnyH_ready (rs := [19]) (by kernel_rfl) (by simp) ?_
    refine AllReadyH.cons rfl (fun K hK => ?_) ?_
    · go_simp
      refine (H43.out _ hb4).mono ?_
      rintro e w5 ⟨a2, c2, rfl, o2, b2, n2⟩
      have hb5 := bt hb4 b2
      have hSw5 := hS hb5
      have hEE := hEnd hb5 (row_kept o1 (Turns.of_below (S := NoB) b2) (fun _ _ => id)) o2 (fun b h => Nat.le_trans hD.size (n1 b h)) (fun b h => Nat.le_trans hb4.size (n2 b h))
      have mf := hF hb5
      have f0 := mf.f 0
      have f1 := mf.f 1
      have f2 := mf.f 2
      have f3 := mf.f 3
      have m0 : w5.cell? ⟨w.heap.size, 0, none⟩ = some (.int .i64 0) := mf.c 0
      have m1 : w5.cell? ⟨w.heap.size, 1, none⟩ = some (.int .i64 0) := mf.c 1
      have m2 : w5.cell? ⟨w.heap.size, 2, none⟩ = some (.slice none 0 0) := mf.c 2
      have m3 : w5.cell? ⟨w.heap.size, 3, none⟩ = some (.slice none 0 0) := mf.c 3
      try go_wp2_with fail
      refine hK.out _ _ ?_ (fun hHeld => ?_)
      · first | exact hSw5 | exact hSw4 | exact hS0 | (simpa [go_sem, Nat.ne_of_lt hp0, Nat.ne_of_gt hp0] using hSw5)
      clear hK K
      try simp only [Act.put, List.getElem_toArray, List.getElem_cons_zero, List.getElem_cons_succ, List.setIfInBounds_toArray, List.set_cons_zero, List.set_cons_succ]
      refine wpAnyH_take (i := 20) (v := ?_) rfl (by kernel_rfl) (by kernel_rfl) (by kernel_rfl) (fun _ _ _ h => h.elim) (Or.inl ⟨by rfl, ?_⟩) (by assumption) ?_
      rotate_left
      · intro wx hSw
        try dsimp only at hSw
        go_simp
        try with_reducible rfl
      try simp only [Act.put, List.getElem_toArray, List.getElem_cons_zero, List.getElem_cons_succ, List.setIfInBounds_toArray, List.set_cons_zero, List.set_cons_succ]
      refine wpAnyH_ready (rs := [21]) (by kernel_rfl) (by simp) ?_
      refine AllReadyH.cons rfl (fun K hK => ?_) ?_
      · go_simp
        refine hK.out _ _ ?_ (fun hHeld => ?_)
        · first | exact hSw5 | exact hSw4 | exact hS0 | (simpa [go_sem, Nat.ne_of_lt hp0, Nat.ne_of_gt hp0] using hSw5)
        clear hK K
        try simp only [Act.put, List.getElem_toArray, List.getElem_cons_zero, List.getElem_cons_succ, List.setIfInBounds_toArray, List.set_cons_zero, List.set_cons_succ]
        refine wpAnyH_done (by kernel_rfl) ?_ _
        exact ⟨a1, c1, a2, c2, rfl, hEE.1, hEE.2⟩
      exact AllReadyH.nil
    exact AllReadyH.nil
  exact AllReadyH.nil
end Go.Proofs.Ytobjadfchpgjeaa
