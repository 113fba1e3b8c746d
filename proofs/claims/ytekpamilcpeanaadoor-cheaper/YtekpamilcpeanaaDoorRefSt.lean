/-
  The document: whether a shape stands.
-/
import Derived.Test.YtekpamilcpeanaaDoorStands
import Derived.Test.YtekpamilcpeanaaDoorBoth
namespace Go.Proofs.YtekpamilcpeanaaDoor
open Go.RowKit Go.Shelf
set_option linter.unusedVariables false
set_option linter.unusedSimpArgs false
attribute [local go_sem] Oper.semAt_some
set_option maxHeartbeats 1000000 in
theorem refall_any (r : Nat) (W H : Int) (tv bv ev : Value) (w : World) (hd : Rd w r W H tv bv ev) : Calls Tryd.prog 35 #[ptr r] w fun e w' => e = .returned (rct 0 0 W H) ∧ Below w.heap.size w w' := by
  have c0 : w.cell? ⟨r, 0, none⟩ = some (.int .i64 W) := hd.c 0
  have c1 : w.cell? ⟨r, 1, none⟩ = some (.int .i64 H) := hd.c 1
  have hr := hd.lt
  clear hd
  have F0 : Four (w.alloc (.cells #[.int .i64 0, .int .i64 0, .int .i64 0, .int .i64 0] 67)) w.heap.size 0 0 0 0 := cells4 (Below.refl _ _)
  have hS0 : (w.alloc (.cells #[.int .i64 0, .int .i64 0, .int .i64 0, .int .i64 0] 67)).cell? ⟨r, 0, none⟩ = some (.int .i64 W) ∧ (w.alloc (.cells #[.int .i64 0, .int .i64 0, .int .i64 0, .int .i64 0] 67)).cell? ⟨r, 1, none⟩ = some (.int .i64 H) := ⟨((box1 w _).cell (p := ⟨r, 0, none⟩) hr).trans c0, ((box1 w _).cell (p := ⟨r, 1, none⟩) hr).trans c1⟩
  go_enter Tryd.func35, Tryd.ntmps35
  go_wp2_with fail
  obtain ⟨w1, hw1⟩ : ∃ w1, w1 = (w.alloc (.cells #[.int .i64 0, .int .i64 0, .int .i64 0, .int .i64 0] 67)) := ⟨_, rfl⟩
  have hb1 : Below w.heap.size w w1 := hw1 ▸ box1 _ _
  rw [← hw1] at hS0 F0 ⊢
  clear hw1 c0 c1
  have F1 : Four w1.drew w.heap.size 0 0 0 0 := F0
  have hb2 : Below w.heap.size w w1.drew := hb1.drew
  obtain ⟨⟨g0, g1, g2, g3⟩, ⟨f0, f1, f2, f3⟩, hz⟩ := F0
  refine Code.wp_mono (Q := Only (fun a' w' => a' = { tmps := #[ptr r, undef, ptr w.heap.size, ptr r, ptr r, .pointer (some ⟨r, 0, none⟩), .int .i64 W, ptr r, ptr r, .pointer (some ⟨r, 1, none⟩), .int .i64 H, rct 0 0 W H], defers := [] } ∧ Four w' w.heap.size 0 0 W H ∧ Below w.heap.size w w')) ?rest ?_
  case rest =>
    rintro (_ | _ | _ | _ | _) a' w' hO
    all_goals first | exact hO.elim | skip
    obtain ⟨rfl, ⟨⟨k0, k1, k2, k3⟩, ⟨l0, l1, l2, l3⟩, hz'⟩, hb'⟩ := hO
    go_wp2_with fail
    first
      | (go_ret; exact ⟨rfl, hb'⟩)
      | (refine bodyPost_ret (v := rct 0 0 W H) (by simp [results, Tryd.results35, go_sem, k0, k1, k2, k3]) rfl ⟨rfl, hb'⟩)
  refine wp_region_held_drew (S := fun w' => w'.cell? ⟨r, 0, none⟩ = some (.int .i64 W) ∧ w'.cell? ⟨r, 1, none⟩ = some (.int .i64 H)) (by kernel_rfl) hS0 (fun hHeld => ?_)
  refine wpAnyH_take (i := 0) (v := ?_) rfl (by kernel_rfl) (by kernel_rfl) (by kernel_rfl) (fun _ _ _ h => h.elim) (Or.inl ⟨by rfl, ?_⟩) (by assumption) ?_
  rotate_left
  · intro wx hSw
    try dsimp only at hSw
    go_simp
    try with_reducible rfl
  try simp only [Act.put, List.getElem_toArray, List.getElem_cons_zero, List.setIfInBounds_toArray, List.set_cons_zero, List.set_cons_succ]
  refine wpAnyH_take (i := 1) (v := ?_) rfl (by kernel_rfl) (by kernel_rfl) (by kernel_rfl) (fun _ _ _ h => h.elim) (Or.inl ⟨by rfl, ?_⟩) (by assumption) ?_
  rotate_left
  · intro wx hSw
    try dsimp only at hSw
    go_simp
    try with_reducible rfl
  try simp only [Act.put, List.getElem_toArray, List.getElem_cons_zero, List.getElem_cons_succ, List.setIfInBounds_toArray, List.set_cons_zero, List.set_cons_succ]
  refine wpAnyH_take (i := 2) (v := ?_) rfl (by kernel_rfl) (by kernel_rfl) (by kernel_rfl) (fun _ _ _ h => h.elim) (Or.inl ⟨by rfl, ?_⟩) (by assumption) ?_
  rotate_left
  · intro wx hSw
    try dsimp only at hSw
    go_simp
    try with_reducible rfl
  try simp only [Act.put, List.getElem_toArray, List.getElem_cons_zero, List.getElem_cons_succ, List.setIfInBounds_toArray, List.set_cons_zero, List.set_cons_succ]
  refine wpAnyH_take (i := 3) (v := ?_) rfl (by kernel_rfl) (by kernel_rfl) (by kernel_rfl) (fun _ _ _ h => h.elim) (Or.inl ⟨by rfl, ?_⟩) (by assumption) ?_
  rotate_left
  · intro wx hSw
    try dsimp only at hSw
    go_simp
    try with_reducible rfl
  try simp only [Act.put, List.getElem_toArray, List.getElem_cons_zero, List.getElem_cons_succ, List.setIfInBounds_toArray, List.set_cons_zero, List.set_cons_succ]
  refine wpAnyH_take (i := 4) (v := ?_) rfl (by kernel_rfl) (by kernel_rfl) (by kernel_rfl) (fun _ _ _ h => h.elim) (Or.inl ⟨by rfl, ?_⟩) (by assumption) ?_
  rotate_left
  · intro wx hSw
    try dsimp only at hSw
    go_simp
    try with_reducible rfl
  try simp only [Act.put, List.getElem_toArray, List.getElem_cons_zero, List.getElem_cons_succ, List.setIfInBounds_toArray, List.set_cons_zero, List.set_cons_succ]
  refine wpAnyH_take (i := 5) (v := ?_) rfl (by kernel_rfl) (by kernel_rfl) (by kernel_rfl) (fun _ _ _ h => h.elim) (Or.inl ⟨by rfl, ?_⟩) (by assumption) ?_
  rotate_left
  · intro wx hSw
    try dsimp only at hSw
    go_simp
    try with_reducible rfl
  try simp only [Act.put, List.getElem_toArray, List.getElem_cons_zero, List.getElem_cons_succ, List.setIfInBounds_toArray, List.set_cons_zero, List.set_cons_succ]
  refine wpAnyH_take (i := 6) (v := ?_) rfl (by kernel_rfl) (by kernel_rfl) (by kernel_rfl) (fun _ _ _ h => h.elim) (Or.inl ⟨by rfl, ?_⟩) (by assumption) ?_
  rotate_left
  · intro wx hSw
    try dsimp only at hSw
    go_simp
    try with_reducible rfl
  try simp only [Act.put, List.getElem_toArray, List.getElem_cons_zero, List.getElem_cons_succ, List.setIfInBounds_toArray, List.set_cons_zero, List.set_cons_succ]
  refine wpAnyH_take (i := 7) (v := ?_) rfl (by kernel_rfl) (by kernel_rfl) (by kernel_rfl) (fun _ _ _ h => h.elim) (Or.inl ⟨by rfl, ?_⟩) (by assumption) ?_
  rotate_left
  · intro wx hSw
    try dsimp only at hSw
    go_simp
    try with_reducible rfl
  try simp only [Act.put, List.getElem_toArray, List.getElem_cons_zero, List.getElem_cons_succ, List.setIfInBounds_toArray, List.set_cons_zero, List.set_cons_succ]
  refine wpAnyH_take (i := 8) (v := ?_) rfl (by kernel_rfl) (by kernel_rfl) (by kernel_rfl) (fun _ _ _ h => h.elim) (Or.inl ⟨by rfl, ?_⟩) (by assumption) ?_
  rotate_left
  · intro wx hSw
    try dsimp only at hSw
    go_simp
    try with_reducible rfl
  try simp only [Act.put, List.getElem_toArray, List.getElem_cons_zero, List.getElem_cons_succ, List.setIfInBounds_toArray, List.set_cons_zero, List.set_cons_succ]
  refine wpAnyH_ready (rs := [9]) (by kernel_rfl) (by simp) ?_
  refine AllReadyH.cons rfl (fun K hK => ?_) ?_
  · go_simp
    refine hK.out _ _ ?_ (fun hHeld => ?_)
    · first | exact hS0 | (simpa [go_sem, Nat.ne_of_lt hr, Nat.ne_of_gt hr] using hS0)
    clear hK K
    try simp only [Act.put, List.getElem_toArray, List.getElem_cons_zero, List.getElem_cons_succ, List.setIfInBounds_toArray, List.set_cons_zero, List.set_cons_succ]
    refine wpAnyH_done (by kernel_rfl) ?_ _
    refine ⟨rfl, F1.set _ _ _ _, ?_⟩
    exact Below.setCell (Below.setCell (Below.setCell (Below.setCell hb2 (Nat.le_refl _) _) (Nat.le_refl _) _) (Nat.le_refl _) _) (Nat.le_refl _) _
  exact AllReadyH.nil
set_option maxRecDepth 100000 in
set_option maxHeartbeats 4000000 in
theorem refterrain_any (p : Nat) (W H : Int) (tv bv ev : Value) (tl : List Nat) (x y : Int) (w : World) (hd : Rd w p W H tv bv ev) (ht : Tls w tv tl) (hm : mt W H tl = true) (hb : ∀ n ∈ tl, n < 256) :
    Calls Tryd.prog 53 #[ptr p, cel x y] w fun e w' => e = .returned (.tuple #[.int .i64 (terN W H tl x y), .bool (has 0 0 W H x y)]) ∧ Below w.heap.size w w' := by
  obtain ⟨X, hX⟩ : ∃ X, w.alloc (.cells #[.int .i64 x, .int .i64 y] 23) = X := ⟨_, rfl⟩
  have B0 : Below w.heap.size w X := hX ▸ box1 _ _
  have T0 : Turns NoB w X := Turns.of_below B0
  have bX : Two X w.heap.size x y := hX ▸ Two.newAt rfl
  obtain ⟨d0, d1⟩ := bX.lat
  have key : ∀ n : Lat X, Rd n.w p W H tv bv ev ∧ Tls n.w tv tl := fun n => by
    have T : Turns NoB X n.w := Turns.of_below n.h
    exact ⟨(hd.kept T0 id).kept T id, (ht.kept T0 (fun _ _ => id)).kept T (fun _ _ => id)⟩
  have HK := hide key
  obtain ⟨a, cap, rfl, hcap, hmax, hat⟩ := ht.form
  have c2 : ∀ n : Lat X, n.w.cell? ⟨p, 0, none⟩ = some (.int .i64 W) := fun n => (key n).1.c 0
  have c4 : ∀ n : Lat X, n.w.cell? ⟨p, 2, none⟩ = some (.slice a tl.length cap) := fun n => (key n).1.c 2
  have hne := lat_some X
  cases h : has 0 0 W H x y
  · have HB := hide h
    rw [show terN W H tl x y = 0 by simp [terN, h]]
    clear key hd ht T0 bX hat h
    go_enter Tryd.func53, Tryd.ntmps53
    go_wp2_with fail
    clear hX
    refine wp_region_lat (by kernel_rfl) (by kernel_rfl) ?_
    repeat (go_big_quiet_step (first | (go_at_call 35; exact calls_lat (refall_any _ _ _ _ _ _ _ (HK.out _).1)) | (go_at_call 77; exact calls_lat (refhas_is _ HB.out))))
    refine wpQuiet_nil ?_
    rintro _ ⟨n, rfl⟩
    go_wp2_with fail
    go_ret2
    exact ⟨rfl, bt B0 n.h⟩
  · have HB := hide h
    obtain ⟨k, u, z, hu, hter, hw1, hw2, hki, hk0, hlI⟩ := inside hm h
    obtain ⟨g, hga, hg, hcell⟩ := hat k u hu
    subst hga
    have hub : u < 256 := hb u (List.mem_of_getElem? hu)
    have hub' : (0 : Int) ≤ (u : Nat) ∧ ((u : Nat) : Int) < 256 := by omega
    have hcell' : ∀ n : Lat X, n.w.cell? ⟨g, k, none⟩ = some (.int .u8 (u : Nat)) := fun n => by
      obtain ⟨a', cap', he', _, _, hform⟩ := (HK.out n).2.form
      obtain ⟨g', hgg, _, q⟩ := hform k u hu
      rw [hgg] at he'
      injection he' with h1 h2 h3
      injection h1 with h1
      injection h1 with h1
      subst h1
      exact q
    rw [hter]
    clear key hd ht T0 bX hat h hter hu hcell hb hm
    go_enter Tryd.func53, Tryd.ntmps53
    go_wp2_with fail
    clear hX
    refine wp_region_lat (by kernel_rfl) (by kernel_rfl) ?_
    repeat (go_big_quiet_step (first | (go_at_call 35; exact calls_lat (refall_any _ _ _ _ _ _ _ (HK.out _).1)) | (go_at_call 77; exact calls_lat (refhas_is _ HB.out))))
    refine wpQuiet_nil ?_
    rintro _ ⟨n, rfl⟩
    go_wp2_with fail
    have e0 : ∀ m : Lat n.w, m.w.cell? ⟨w.heap.size, 0, none⟩ = some (.int .i64 x) := fun m => d0 ⟨m.w, bt n.h m.h⟩
    have e1 : ∀ m : Lat n.w, m.w.cell? ⟨w.heap.size, 1, none⟩ = some (.int .i64 y) := fun m => d1 ⟨m.w, bt n.h m.h⟩
    have e2 : ∀ m : Lat n.w, m.w.cell? ⟨p, 0, none⟩ = some (.int .i64 W) := fun m => c2 ⟨m.w, bt n.h m.h⟩
    have e4 : ∀ m : Lat n.w, m.w.cell? ⟨p, 2, none⟩ = some (.slice (some ⟨g, 0, none⟩) tl.length cap) := fun m => c4 ⟨m.w, bt n.h m.h⟩
    have e5 : ∀ m : Lat n.w, m.w.cell? ⟨g, k, none⟩ = some (.int .u8 (u : Nat)) := fun m => hcell' ⟨m.w, bt n.h m.h⟩
    have hne2 := lat_some n.w
    clear d0 d1 c2 c4 hcell' hne
    refine wp_region_lat (by kernel_rfl) (by kernel_rfl) ?_
    repeat (go_big_quiet_step (fail))
    refine wpQuiet_nil ?_
    rintro _ ⟨m, rfl⟩
    go_wp2_with fail
    go_ret2
    exact ⟨rfl, bt B0 (bt n.h m.h)⟩
set_option maxRecDepth 100000 in
set_option maxHeartbeats 4000000 in
theorem refat_any (r : Nat) (W H : Int) (tv bv ev : Value) (l : List Bd) (x y : Int) (w : World) (hd : Rd w r W H tv bv ev) (hl : Bds w bv l) (hlen : l.length ≤ 256) :
    Calls Tryd.prog 54 #[ptr r, cel x y] w fun e w' => e = .returned (.tuple #[.int .i64 ((whoF l x y).getD 0), .bool (whoF l x y).isSome]) ∧ Below w.heap.size w w' := by
  obtain ⟨X, hX⟩ : ∃ X, w.alloc (.cells #[.int .i64 x, .int .i64 y] 23) = X := ⟨_, rfl⟩
  have B0 : Below w.heap.size w X := hX ▸ box1 _ _
  have T0 : Turns NoB w X := Turns.of_below B0
  have bX : Two X w.heap.size x y := hX ▸ Two.newAt rfl
  obtain ⟨d0, d1⟩ := bX.lat
  have key : ∀ n : Lat X, Rd n.w r W H tv bv ev ∧ Bds n.w bv l := fun n => by
    have T : Turns NoB X n.w := Turns.of_below n.h
    exact ⟨(hd.kept T0 id).kept T id, (hl.kept T0 (fun _ _ => id)).kept T (fun _ _ => id)⟩
  have HK := hide key
  obtain ⟨a, cap, rfl, hcap, hmax, -⟩ := hl.form
  have c8 : ∀ n : Lat X, n.w.cell? ⟨r, 3, none⟩ = some (.slice a l.length cap) := fun n => (key n).1.c 3
  have hlI : (0 : Int) ≤ (l.length : Nat) ∧ ((l.length : Nat) : Int) ≤ 256 := by omega
  obtain ⟨o, ho⟩ : ∃ o, whoF l x y = o := ⟨_, rfl⟩
  have HO := hide ho
  rw [ho]
  obtain ⟨z, hz⟩ : ∃ z, o.getD 0 = z := ⟨_, rfl⟩
  obtain ⟨c, hc⟩ : ∃ c, o.isSome = c := ⟨_, rfl⟩
  rw [hz, hc]
  have HZ := hide hz
  have HC := hide hc
  clear key hd hl T0 bX ho hz hc
  go_enter Tryd.func54, Tryd.ntmps54
  go_wp2_with fail
  clear hX
  go_loopw [6] (fun p wr => ∃ k : Nat, k ≤ l.length ∧ p = .int .i64 k ∧ (∀ (j : Nat) s, l[j]? = some s → j < k → s.has x y = false) ∧ ∃ m : Lat X, wr = m.w) (fun p _ => l.length - (intOf p).toNat)
  case atStart => exact ⟨0, Nat.zero_le _, rfl, fun j t _ h => absurd h (by omega), ⟨X, Below.refl _ _⟩, rfl⟩
  case round =>
    obtain ⟨k, hk, rfl, hno, m, rfl⟩ := hrel
    by_cases hlt : k < l.length
    · obtain ⟨s, hsk⟩ : ∃ s, l[k]? = some s := ⟨_, List.getElem?_eq_getElem hlt⟩
      obtain ⟨g, hga⟩ : ∃ g, a = some ⟨g, 0, none⟩ := by
        obtain ⟨a', cap', he', _, _, hform⟩ := (HK.out m).2.form
        obtain ⟨g', hgg, _⟩ := hform k s hsk
        injection he' with h1 h2 h3
        exact ⟨g', h1.trans hgg⟩
      subst hga
      have hcell : ∀ n : Lat X, n.w.cell? ⟨g, k * 5, none⟩ = some (.int .i64 s.id) ∧ n.w.cell? ⟨g, k * 5 + 1, none⟩ = some (.int .i64 s.x) ∧ n.w.cell? ⟨g, k * 5 + 2, none⟩ = some (.int .i64 s.y) ∧ n.w.cell? ⟨g, k * 5 + 3, none⟩ = some (.int .i64 s.a) ∧ n.w.cell? ⟨g, k * 5 + 4, none⟩ = some (.int .i64 s.b) := fun n => by
        obtain ⟨a', cap', he', _, _, hform⟩ := (HK.out n).2.form
        obtain ⟨g', hgg, _, q0, q1, q2, q3, q4⟩ := hform k s hsk
        rw [hgg] at he'
        injection he' with h1 h2 h3
        injection h1 with h1
        injection h1 with h1
        subst h1
        exact ⟨q0, q1, q2, q3, q4⟩
      have HCell := hide hcell
      have HC8 := hide c8
      have e1 : ∀ n : Lat m.w, n.w.cell? ⟨g, k * 5 + 1, none⟩ = some (.int .i64 s.x) := fun n => (hcell ⟨n.w, bt m.h n.h⟩).2.1
      have e2 : ∀ n : Lat m.w, n.w.cell? ⟨g, k * 5 + 2, none⟩ = some (.int .i64 s.y) := fun n => (hcell ⟨n.w, bt m.h n.h⟩).2.2.1
      have e3 : ∀ n : Lat m.w, n.w.cell? ⟨g, k * 5 + 3, none⟩ = some (.int .i64 s.a) := fun n => (hcell ⟨n.w, bt m.h n.h⟩).2.2.2.1
      have e4 : ∀ n : Lat m.w, n.w.cell? ⟨g, k * 5 + 4, none⟩ = some (.int .i64 s.b) := fun n => (hcell ⟨n.w, bt m.h n.h⟩).2.2.2.2
      have k0 : ∀ n : Lat m.w, n.w.cell? ⟨w.heap.size, 0, none⟩ = some (.int .i64 x) := fun n => d0 ⟨n.w, bt m.h n.h⟩
      have k1 : ∀ n : Lat m.w, n.w.cell? ⟨w.heap.size, 1, none⟩ = some (.int .i64 y) := fun n => d1 ⟨n.w, bt m.h n.h⟩
      have k8 : ∀ n : Lat m.w, n.w.cell? ⟨r, 3, none⟩ = some (.slice (some ⟨g, 0, none⟩) l.length cap) := fun n => c8 ⟨n.w, bt m.h n.h⟩
      have z9 := c8 m
      have hki : (k : Int) < (l.length : Nat) := by omega
      have hne2 := lat_some m.w
      have HN := hide hno
      have HT := hide hsk
      clear hcell d0 d1 c8 hno hsk
      cases hb : has s.x s.y s.a s.b x y
      · have HB := hide hb
        clear hb
        go_wp2_with fail
        refine wp_region_lat (by kernel_rfl) (by kernel_rfl) ?_
        repeat (go_big_quiet_step (first | (go_at_call 77; exact calls_lat (refhas_is _ HB.out))))
        refine wpQuiet_nil ?_
        rintro _ ⟨n2, rfl⟩
        go_wp2_with fail
        go_roundw
        case rel =>
          refine ⟨k + 1, by omega, by go_num, fun j s' hj hjk => ?_, ⟨n2.w, bt m.h n2.h⟩, rfl⟩
          by_cases hjk' : j = k
          · subst hjk'; rw [HT.out] at hj; cases hj; exact HB.out
          · exact HN.out j s' hj (by omega)
        case measure => simp [intOf]; omega
      · have HB := hide hb
        clear hb
        go_wp2_with fail
        refine wp_region_lat (by kernel_rfl) (by kernel_rfl) ?_
        repeat (go_big_quiet_step (first | (go_at_call 77; exact calls_lat (refhas_is _ HB.out))))
        refine wpQuiet_nil ?_
        rintro _ ⟨n2, rfl⟩
        have y8 := k8 n2
        have y0 := (HCell.out ⟨n2.w, bt m.h n2.h⟩).1
        have hwho : whoF l x y = some s.id := by
          have hl := split_at HT.out
          unfold whoF
          rw [hl, List.find?_append, find_none (l := l.take k) (fun s' hs' => ?_), List.find?_cons, show s.has x y = true from HB.out]
          · rfl
          · obtain ⟨j, hj, rfl⟩ := List.getElem_of_mem hs'
            rw [List.length_take] at hj
            rw [List.getElem_take]
            exact HN.out j _ (List.getElem?_eq_getElem (by omega)) (by omega)
        have hz : z = s.id := by rw [← HZ.out, ← HO.out, hwho]; rfl
        have hc : c = true := by rw [← HC.out, ← HO.out, hwho]; rfl
        subst hz hc
        clear hwho
        go_wp2_with fail
        go_ret2
        exact ⟨rfl, bt B0 (bt m.h n2.h)⟩
    · have hwho : whoF l x y = none := by
        unfold whoF
        rw [find_none (fun s hs => ?_)]
        · rfl
        · obtain ⟨j, hj, rfl⟩ := List.getElem_of_mem hs
          exact hno j _ (List.getElem?_eq_getElem hj) (by omega)
      have hz : z = 0 := by rw [← HZ.out, ← HO.out, hwho]; rfl
      have hc : c = false := by rw [← HC.out, ← HO.out, hwho]; rfl
      subst hz hc
      have z9 := c8 m
      have hki : ¬ (k : Int) < (l.length : Nat) := by omega
      clear hwho hno d0 d1 c8
      go_wp2_with fail
      go_ret2
      exact ⟨rfl, bt B0 m.h⟩
set_option maxHeartbeats 1000000 in
theorem refshmay_any (c s : Int) (w : World) : Calls Tryd.prog 75 #[shv c s] w fun e w' => e = .returned (.bool (shB c s)) ∧ Below w.heap.size w w' := by
  by_cases h3 : 0 ≤ c
  · by_cases h4 : c < 4
    · by_cases h1 : 1 ≤ s
      · by_cases h2 : s ≤ 4
        · go_enter Tryd.func75, Tryd.ntmps75
          go_wp2
          go_ret
          exact ⟨ret_bool (by simp [shB, isC, h1, h2, h3, h4]), box1 _ _⟩
        · go_enter Tryd.func75, Tryd.ntmps75
          go_wp2
          go_ret
          exact ⟨ret_bool (by rw [shB_no (by omega)]), box1 _ _⟩
      · go_enter Tryd.func75, Tryd.ntmps75
        go_wp2
        go_ret
        exact ⟨ret_bool (by rw [shB_no (by omega)]), box1 _ _⟩
    · go_enter Tryd.func75, Tryd.ntmps75
      go_wp2
      go_ret
      exact ⟨ret_bool (by rw [shB_no (by omega)]), box1 _ _⟩
  · go_enter Tryd.func75, Tryd.ntmps75
    go_wp2
    go_ret
    exact ⟨ret_bool (by rw [shB_no (by omega)]), box1 _ _⟩
set_option maxHeartbeats 1000000 in
theorem refon_any (c t : Int) (w : World) : Calls Tryd.prog 55 #[.int .i64 c, .int .i64 t] w fun e w' => e = .returned (.bool (onB c t)) ∧ w' = w := by
  by_cases c0 : c = 0
  · subst c0
    by_cases t0 : t = 0
    · subst t0; go_enter Tryd.func55, Tryd.ntmps55; go_wp2; go_ret; exact ⟨rfl, rfl⟩
    · go_enter Tryd.func55, Tryd.ntmps55; go_wp2; go_ret; exact ⟨ret_bool (by rw [Bool.eq_iff_iff]; simp [onB, t0]), rfl⟩
  · by_cases c1 : c = 1
    · subst c1; go_enter Tryd.func55, Tryd.ntmps55; go_wp2; go_ret; exact ⟨ret_bool (by rw [Bool.eq_iff_iff]; simp [onB]), rfl⟩
    · by_cases c2 : c = 2
      · subst c2; go_enter Tryd.func55, Tryd.ntmps55; go_wp2; go_ret; exact ⟨ret_bool (by rw [Bool.eq_iff_iff]; simp [onB]), rfl⟩
      · by_cases c3 : c = 3
        · subst c3
          by_cases t0 : t = 0
          · subst t0; go_enter Tryd.func55, Tryd.ntmps55; go_wp2; go_ret; exact ⟨rfl, rfl⟩
          · go_enter Tryd.func55, Tryd.ntmps55; go_wp2; go_ret; exact ⟨ret_bool (by rw [Bool.eq_iff_iff]; simp [onB, t0]), rfl⟩
        · go_enter Tryd.func55, Tryd.ntmps55; go_wp2; go_ret; exact ⟨ret_bool (by simp [onB, c0, c1, c2, c3]), rfl⟩
theorem refon_is {c t : Int} {b : Bool} (w : World) (h : onB c t = b) : Calls Tryd.prog 55 #[.int .i64 c, .int .i64 t] w fun e w' => e = .returned (.bool b) ∧ w' = w := by subst h; exact refon_any c t w
theorem refshmay_is {c s : Int} {b : Bool} (w : World) (h : shB c s = b) : Calls Tryd.prog 75 #[shv c s] w fun e w' => e = .returned (.bool b) ∧ Below w.heap.size w w' := by subst h; exact refshmay_any c s w
set_option maxHeartbeats 1000000 in
theorem reffoot_no1 (c s x y : Int) (w : World) (h : shB c s = false) : Calls Tryd.prog 51 #[shv c s, .agg #[.int .i64 x, .int .i64 y]] w fun e w' => e = .returned (ftV c s x y) ∧ Below w.heap.size w w' := by
  have hB : fB c s x y = false := by simp [fB, h]
  unfold ftV
  rw [fi_no hB, fi_no hB, fi_no hB]
  go_enter Tryd.func51, Tryd.ntmps51
  go_wp2_with fail
  refine (refshmay_is _ h).mono ?_
  rintro e w1 ⟨rfl, hb1⟩
  have HB := hide (bt (wf_below w c s x y) hb1)
  obtain ⟨⟨⟨g0, g1, g2, g3⟩, ⟨f0, f1, f2, f3⟩, z⟩, -⟩ := wf_cells hb1
  clear hb1
  go_wp2_with fail
  refine bodyPost_ret (v := .agg #[.int .i64 0, .int .i64 0, .int .i64 0, .int .i64 0]) (by simp [results, Tryd.results51, go_sem, g0, g1, g2, g3]) rfl ⟨rfl, ?_⟩
  exact (((HB.out.setCell (by simp; omega) _).setCell (by simp; omega) _).setCell (by simp; omega) _).setCell (by simp; omega) _
set_option maxHeartbeats 1000000 in
theorem reffoot_no2 (c s x y : Int) (w : World) (h : shB c s = true) (hm : may x y s s = false) : Calls Tryd.prog 51 #[shv c s, .agg #[.int .i64 x, .int .i64 y]] w fun e w' => e = .returned (ftV c s x y) ∧ Below w.heap.size w w' := by
  have hB : fB c s x y = false := by simp [fB, hm]
  unfold ftV
  rw [fi_no hB, fi_no hB, fi_no hB]
  go_enter Tryd.func51, Tryd.ntmps51
  go_wp2_with fail
  refine (refshmay_is _ h).mono ?_
  rintro e w1 ⟨rfl, hb1⟩
  have HB1 := hide hb1
  obtain ⟨-, ⟨⟨q0, q1, q2, q3⟩, -, -⟩⟩ := wf_cells hb1
  clear hb1
  go_wp2_with fail
  refine (refmayr_is _ hm).mono ?_
  rintro e w2 ⟨rfl, hb2⟩
  have hb := bt HB1.out hb2
  clear q0 q1 q2 q3 hb2 HB1
  have HB := hide (bt (wf_below w c s x y) hb)
  obtain ⟨⟨⟨g0, g1, g2, g3⟩, ⟨f0, f1, f2, f3⟩, z⟩, ⟨⟨q0, q1, q2, q3⟩, -, -⟩⟩ := wf_cells hb
  clear hb
  go_wp2_with fail
  refine bodyPost_ret (v := .agg #[.int .i64 0, .int .i64 0, .int .i64 0, .int .i64 0]) (by simp [results, Tryd.results51, go_sem, g0, g1, g2, g3]) rfl ⟨rfl, ?_⟩
  exact (((HB.out.setCell (by simp; omega) _).setCell (by simp; omega) _).setCell (by simp; omega) _).setCell (by simp; omega) _
set_option maxHeartbeats 1000000 in
theorem reffoot_yes (c s x y : Int) (w : World) (h : shB c s = true) (hm : may x y s s = true) : Calls Tryd.prog 51 #[shv c s, .agg #[.int .i64 x, .int .i64 y]] w fun e w' => e = .returned (ftV c s x y) ∧ Below w.heap.size w w' := by
  have hB : fB c s x y = true := by simp [fB, h, hm]
  unfold ftV
  rw [fi_yes hB, fi_yes hB, fi_yes hB]
  go_enter Tryd.func51, Tryd.ntmps51
  go_wp2_with fail
  refine (refshmay_is _ h).mono ?_
  rintro e w1 ⟨rfl, hb1⟩
  have HB1 := hide hb1
  obtain ⟨-, ⟨⟨q0, q1, q2, q3⟩, -, -⟩⟩ := wf_cells hb1
  clear hb1
  go_wp2_with fail
  refine (refmayr_is _ hm).mono ?_
  rintro e w2 ⟨rfl, hb2⟩
  have hb := bt HB1.out hb2
  clear q0 q1 q2 q3 hb2 HB1
  have HB := hide (bt (wf_below w c s x y) hb)
  obtain ⟨⟨⟨g0, g1, g2, g3⟩, ⟨f0, f1, f2, f3⟩, z⟩, ⟨⟨q0, q1, q2, q3⟩, -, -⟩⟩ := wf_cells hb
  clear hb
  go_wp2_with fail
  refine bodyPost_ret (v := .agg #[.int .i64 x, .int .i64 y, .int .i64 s, .int .i64 s]) (by simp [results, Tryd.results51, go_sem, g0, g1, g2, g3]) rfl ⟨rfl, ?_⟩
  exact (((HB.out.setCell (by simp; omega) _).setCell (by simp; omega) _).setCell (by simp; omega) _).setCell (by simp; omega) _
theorem reffoot_any (c s x y : Int) (w : World) : Calls Tryd.prog 51 #[shv c s, .agg #[.int .i64 x, .int .i64 y]] w fun e w' => e = .returned (ftV c s x y) ∧ Below w.heap.size w w' := by
  cases h : shB c s
  · exact reffoot_no1 c s x y w h
  · cases hm : may x y s s
    · exact reffoot_no2 c s x y w h hm
    · exact reffoot_yes c s x y w h hm
theorem refterr_is {w : World} {r : Nat} {W H : Int} {tl : List Nat} {L : List Bd} (x y : Int) {b : Bool} {t : Int} (h : Rl w r W H tl L) (hb : has 0 0 W H x y = b) (ht : terN W H tl x y = t) :
    Calls Tryd.prog 53 #[ptr r, cel x y] w fun e w' => e = .returned (.tuple #[.int .i64 t, .bool b]) ∧ Below w.heap.size w w' := by
  obtain ⟨⟨⟨h0, h00⟩, -⟩, tv, bv, ev, h1, h2, h3⟩ := h
  subst hb; subst ht
  exact refterrain_any r W H tv bv ev tl x y w h1 h2 h0 h00
theorem refat_is {w : World} {r : Nat} {W H : Int} {tl : List Nat} {L : List Bd} (x y : Int) {b : Bool} {t : Int} (h : Rl w r W H tl L) (hb : (whoF L x y).isSome = b) (ht : (whoF L x y).getD 0 = t) :
    Calls Tryd.prog 54 #[ptr r, cel x y] w fun e w' => e = .returned (.tuple #[.int .i64 t, .bool b]) ∧ Below w.heap.size w w' := by
  obtain ⟨⟨-, hlen⟩, tv, bv, ev, h1, h2, h3⟩ := h
  subst hb; subst ht
  exact refat_any r W H tv bv ev L x y w h1 h3 hlen
theorem refall_is {w : World} {r : Nat} {W H : Int} {tl : List Nat} {L : List Bd} (h : Rl w r W H tl L) :
    Calls Tryd.prog 35 #[ptr r] w fun e w' => e = .returned (rct 0 0 W H) ∧ Below w.heap.size w w' := by
  obtain ⟨-, tv, bv, ev, h1, -, -⟩ := h
  exact refall_any r W H tv bv ev w h1
def gd (W H : Int) (tl : List Nat) (f : Int → Int → Option Int) (c x y : Int) : Bool := !(f x y).isSome && onB c (terN W H tl x y)
theorem stU_yes {W H : Int} {tl : List Nat} {f : Int → Int → Option Int} {c u v k : Int} (hw : wi u v k k 0 0 W H = true) (h : ∀ i m : Nat, i < k.toNat → m < k.toNat → gd W H tl f c (u + i) (v + m) = true) : stU W H tl f c u v k = true := by
  rw [stU, hw, Bool.true_and, List.all_eq_true]
  intro q hq
  rw [mem_allC, has_iff] at hq
  simp only [wi, Bool.and_eq_true] at hw
  obtain ⟨hm, h1, h2⟩ := hw
  have a1 := (has_iff _ _ _ _ _ _).1 h1
  have a2 := (has_iff _ _ _ _ _ _).1 h2
  obtain ⟨-, q1, q2, q3, q4⟩ := hq
  have hh : has 0 0 W H q.1.1 q.1.2 = true := (has_iff _ _ _ _ _ _).2 ⟨a1.1, by omega, by omega, by omega, by omega⟩
  have := h (q.1.1 - u).toNat (q.1.2 - v).toNat (by omega) (by omega)
  rw [show u + ((q.1.1 - u).toNat : Int) = q.1.1 by omega, show v + ((q.1.2 - v).toNat : Int) = q.1.2 by omega] at this
  rw [carB, hh, Bool.true_and]
  exact this
theorem stU_no {W H : Int} {tl : List Nat} {f : Int → Int → Option Int} {c u v k : Int} (hw : wi u v k k 0 0 W H = true) {i m : Nat} (hi : i < k.toNat) (hm : m < k.toNat) (h : gd W H tl f c (u + i) (v + m) = false) : stU W H tl f c u v k = false := by
  rw [stU, hw, Bool.true_and, Bool.eq_false_iff]
  intro hall
  rw [List.all_eq_true] at hall
  simp only [wi, Bool.and_eq_true] at hw
  have hh : has u v k k (u + i) (v + m) = true := (has_iff _ _ _ _ _ _).2 ⟨hw.1, by omega, by omega, by omega, by omega⟩
  have hq := hall ⟨(u + i, v + m), has_w64 hh⟩ ((mem_allC _ _ _ _ _).2 hh)
  simp only [carB, Bool.and_eq_true] at hq
  rw [gd, Bool.and_eq_false_iff] at h
  rcases h with h | h
  · rw [h] at hq; simp at hq
  · rw [h] at hq; simp at hq
set_option maxRecDepth 100000 in
set_option maxHeartbeats 4000000 in
theorem refstands_any (r : Nat) (W H : Int) (tl : List Nat) (L : List Bd) (c s x y : Int) (w : World) (hw : Rl w r W H tl L) :
    Calls Tryd.prog 36 #[ptr r, shv c s, cel x y] w fun e w' => e = .returned (.bool (stB W H tl (whoF L) c s x y)) ∧ Below w.heap.size w w' := by
  have B2 := box2 w (.cells #[.int .i64 c, .int .i64 s] 37) (.cells #[.int .i64 x, .int .i64 y] 23)
  have S0 : Two ((w.alloc (.cells #[.int .i64 c, .int .i64 s] 37)).alloc (.cells #[.int .i64 x, .int .i64 y] 23)) w.heap.size c s := (Two.newAt rfl).alloc
  have HF := hide (reffoot_any c s x y ((w.alloc (.cells #[.int .i64 c, .int .i64 s] 37)).alloc (.cells #[.int .i64 x, .int .i64 y] 23)))
  unfold ftV at HF
  unfold stB
  obtain ⟨u, hu⟩ : ∃ u, fi c s x y x = u := ⟨_, rfl⟩
  obtain ⟨v, hv⟩ : ∃ v, fi c s x y y = v := ⟨_, rfl⟩
  obtain ⟨k, hk⟩ : ∃ k, fi c s x y s = k := ⟨_, rfl⟩
  rw [hu, hv, hk] at HF ⊢
  clear hu hv hk
  go_enter Tryd.func36, Tryd.ntmps36
  go_wp2_with fail
  refine HF.out.mono ?_
  rintro e w1 ⟨rfl, hb1⟩
  clear HF
  have HB1 := hide (bt B2 hb1)
  have S1 := S0.kept hb1
  clear B2 S0 hb1
  have FX : Four (w1.alloc (.cells #[.int .i64 u, .int .i64 v, .int .i64 k, .int .i64 k] 67)) w1.heap.size u v k k := cells4 (Below.refl _ _)
  have BX : Below w1.heap.size w1 (w1.alloc (.cells #[.int .i64 u, .int .i64 v, .int .i64 k, .int .i64 k] 67)) := box1 _ _
  obtain ⟨X, hX⟩ : ∃ X, w1.alloc (.cells #[.int .i64 u, .int .i64 v, .int .i64 k, .int .i64 k] 67) = X := ⟨_, rfl⟩
  rw [hX] at FX BX
  go_wp2_with fail
  clear hX
  have TX : Hid (∀ n : Lat X, Below w.heap.size w n.w) := hide fun n => bt (bt HB1.out BX) n.h
  have HK : Hid (∀ n : Lat X, Rl n.w r W H tl L) := hide fun n => hw.kept (TX.out n)
  have SX := S1.kept BX
  obtain ⟨d0, d1, d2, d3⟩ := FX.lat
  obtain ⟨s0, s1⟩ := SX.lat
  have hne := lat_some X
  clear hw S1 BX SX FX
  cases hi : wi u v k k 0 0 W H
  · have HI := hide hi
    clear hi s0 s1
    refine wp_region_lat (by kernel_rfl) (by kernel_rfl) ?_
    repeat (go_big_quiet_step (first | (go_at_call 35; exact calls_lat (refall_is (HK.out _))) | (go_at_call 52; exact calls_lat (refwithin_is _ HI.out))))
    refine wpQuiet_nil ?_
    rintro _ ⟨n, rfl⟩
    go_wp2_with fail
    go_ret
    exact ⟨ret_bool (by rw [stU, HI.out, Bool.false_and]), TX.out n⟩
  · have HI := hide hi
    have hrg : (0 ≤ u ∧ u ≤ 128) ∧ (0 ≤ v ∧ v ≤ 128) ∧ (1 ≤ k ∧ k ≤ 128) := by
      simp only [wi, Bool.and_eq_true] at hi
      obtain ⟨hm, h1, h2⟩ := hi
      obtain ⟨-, a1, a2, a3, a4⟩ := (has_iff _ _ _ _ _ _).1 h1
      obtain ⟨-, b1, b2, b3, b4⟩ := (has_iff _ _ _ _ _ _).1 h2
      have hmt := (HK.out ⟨X, Below.refl _ _⟩).1.1.1
      simp only [mt, gs, Bool.and_eq_true, decide_eq_true_eq] at hmt
      have hk1 := ((may_iff _ _ _ _).1 hm).2.1.1
      omega
    clear hi
    refine wp_region_lat (by kernel_rfl) (by kernel_rfl) ?_
    repeat (go_big_quiet_step (first | (go_at_call 35; exact calls_lat (refall_is (HK.out _))) | (go_at_call 52; exact calls_lat (refwithin_is _ HI.out))))
    refine wpQuiet_nil ?_
    rintro _ ⟨n, rfl⟩
    have n0 := d0 n
    have n1 := d1 n
    obtain ⟨hru, hrv, hrk⟩ := hrg
    go_wp2_with fail
    clear n0 n1
    go_loopw [8] (fun p wr => ∃ j : Nat, j ≤ k.toNat ∧ p = .int .i64 (v + j) ∧ (∀ i m : Nat, i < k.toNat → m < j → gd W H tl (whoF L) c (u + i) (v + m) = true) ∧ ∃ m : Lat X, wr = m.w) (fun p _ => k.toNat - (intOf p - v).toNat)
    case atStart => exact ⟨0, Nat.zero_le _, by simp, fun i m _ h => absurd h (by omega), n, rfl⟩
    case round =>
      obtain ⟨j, hj, rfl, hgo, m, rfl⟩ := hrel
      have n0 := d0 m
      have n1 := d1 m
      have n2 := d2 m
      have n3 := d3 m
      have hwk : IntKind.i64.wrap (v + k) = v + k := by rw [IntKind.wrap_i64]; omega
      have hwu : IntKind.i64.wrap (u + k) = u + k := by rw [IntKind.wrap_i64]; omega
      by_cases hlt : j < k.toNat
      · have hli : v + (j : Int) < v + k := by omega
        have HG := hide hgo
        clear hgo
        go_wp2_with fail
        clear n0 n1 n2 n3
        rename Value => o9
        go_loopw [9] (fun p wr => ∃ i : Nat, i ≤ k.toNat ∧ p = .int .i64 (u + i) ∧ (∀ i' : Nat, i' < i → gd W H tl (whoF L) c (u + i') (v + j) = true) ∧ ∃ m : Lat X, wr = m.w) (fun p _ => k.toNat - (intOf p - u).toNat)
        case atStart => exact ⟨0, Nat.zero_le _, by simp, fun i h => absurd h (by omega), m, rfl⟩
        case round =>
          obtain ⟨i, hi, rfl, hin, m3, rfl⟩ := hrel
          have n0 := d0 m3
          have n2 := d2 m3
          have n1 := d1 m3
          by_cases hil : i < k.toNat
          · have hui : u + (i : Int) < u + k := by omega
            obtain ⟨b, hb⟩ : ∃ b, has 0 0 W H (u + i) (v + j) = b := ⟨_, rfl⟩
            obtain ⟨t, ht⟩ : ∃ t, terN W H tl (u + i) (v + j) = t := ⟨_, rfl⟩
            obtain ⟨id', hid⟩ : ∃ z, (whoF L (u + i) (v + j)).getD 0 = z := ⟨_, rfl⟩
            have Hb := hide hb
            have Ht := hide ht
            have Hid' := hide hid
            have HN := hide hin
            have HI2 := HI.out
            clear hb ht hid hin
            cases hs : (whoF L (u + i) (v + j)).isSome
            · cases hon : onB c t
              · have hno := stU_no (f := whoF L) (tl := tl) (c := c) HI2 hil hlt (by rw [gd, Ht.out, hon, Bool.and_false])
                have Hs := hide hs
                have Ho := hide hon
                clear hs hon HI2
                go_wp2_with fail
                refine (refterr_is _ _ (HK.out m3) Hb.out Ht.out).mono ?_
                rintro e w4 ⟨rfl, hb4⟩
                go_wp2_with fail
                refine (refat_is _ _ (HK.out ⟨w4, bt m3.h hb4⟩) Hs.out Hid'.out).mono ?_
                rintro e w5 ⟨rfl, hb5⟩
                have hB5 := bt (bt m3.h hb4) hb5
                have g0 := s0 ⟨w5, hB5⟩
                simp only at g0
                go_wp2_with (go_at_call 55; refine (refon_is _ Ho.out).mono ?_; rintro e w6 ⟨rfl, rfl⟩)
                go_ret
                exact ⟨ret_bool hno.symm, TX.out ⟨_, hB5⟩⟩
              · have hyes : gd W H tl (whoF L) c (u + i) (v + j) = true := by rw [gd, Ht.out, hon, hs]; rfl
                have Hy := hide hyes
                have Hs := hide hs
                have Ho := hide hon
                clear hs hon HI2 hyes
                go_wp2_with fail
                refine (refterr_is _ _ (HK.out m3) Hb.out Ht.out).mono ?_
                rintro e w4 ⟨rfl, hb4⟩
                go_wp2_with fail
                refine (refat_is _ _ (HK.out ⟨w4, bt m3.h hb4⟩) Hs.out Hid'.out).mono ?_
                rintro e w5 ⟨rfl, hb5⟩
                have hB5 := bt (bt m3.h hb4) hb5
                have g0 := s0 ⟨w5, hB5⟩
                simp only at g0
                go_wp2_with (go_at_call 55; refine (refon_is _ Ho.out).mono ?_; rintro e w6 ⟨rfl, rfl⟩)
                go_roundw
                case rel =>
                  refine ⟨i + 1, by omega, by go_num, fun i' hi' => ?_, ⟨_, hB5⟩, rfl⟩
                  by_cases hii : i' = i
                  · subst hii; exact Hy.out
                  · exact HN.out i' (by omega)
                case measure => simp [intOf]; omega
            · have hno := stU_no (f := whoF L) (tl := tl) (c := c) HI2 hil hlt (by rw [gd, hs]; rfl)
              have Hs := hide hs
              clear hs HI2
              go_wp2_with fail
              refine (refterr_is _ _ (HK.out m3) Hb.out Ht.out).mono ?_
              rintro e w4 ⟨rfl, hb4⟩
              go_wp2_with fail
              refine (refat_is _ _ (HK.out ⟨w4, bt m3.h hb4⟩) Hs.out Hid'.out).mono ?_
              rintro e w5 ⟨rfl, hb5⟩
              have hB5 := bt (bt m3.h hb4) hb5
              go_wp2_with fail
              go_ret
              exact ⟨ret_bool hno.symm, TX.out ⟨_, hB5⟩⟩
          · obtain rfl : i = k.toNat := by omega
            have hui : ¬ u + ((k.toNat : Nat) : Int) < u + k := by omega
            have HN := hide hin
            clear hin
            go_wp2_with fail
            go_roundw
            case rel =>
              refine ⟨j + 1, by omega, by go_num, fun i' m' hi' hm' => ?_, m3, rfl⟩
              by_cases hmj : m' = j
              · subst hmj; exact HN.out i' hi'
              · exact HG.out i' m' hi' (by omega)
            case measure => simp [intOf]; omega
      · obtain rfl : j = k.toNat := by omega
        have hli : ¬ v + ((k.toNat : Nat) : Int) < v + k := by omega
        have hyes := stU_yes (f := whoF L) (tl := tl) (c := c) HI.out (fun i m hi hm => hgo i m hi hm)
        clear hgo
        go_wp2_with fail
        go_ret
        exact ⟨rfl, TX.out m⟩
attribute [local go_sem] Oper.semAt_some
end Go.Proofs.YtekpamilcpeanaaDoor
