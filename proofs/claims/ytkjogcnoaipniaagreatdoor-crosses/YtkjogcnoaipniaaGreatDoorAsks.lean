/-
  All and Find of a World, Find and At of the document's. The document's At; Terrain of both.
-/
import Derived.Test.YtkjogcnoaipniaaGreatDoorPure
import Derived.Test.YtkjogcnoaipniaaGreatDoorAtW
namespace Go.Proofs.YtkjogcnoaipniaaGreatDoor
open Go.RowKit
set_option linter.unusedVariables false
abbrev Z4 (w : World) : World := w.alloc (.cells #[.int .i64 0, .int .i64 0, .int .i64 0, .int .i64 0] 48)
set_option maxHeartbeats 1000000 in
theorem all_world (p bm : Nat) (W H : Int) (tv bv ev : Value) (w : World) (hd : Wd w p W H tv bv bm ev) : Calls Tryz.prog 80 #[ptr p] w fun e w' => e = .returned (rct 0 0 W H) ∧ Below w.heap.size w w' := by
  have B0 : Below w.heap.size w (Z4 w) := box1 _ _
  have hd0 : Wd (Z4 w) p W H tv bv bm ev := hd.kept (Turns.of_below (S := NoB) B0) id
  have HM := hide (made_is hd0)
  have c0 : (Z4 w).cell? ⟨p, 0, none⟩ = some (.int .i64 0) := hd0.c 0
  have c1 : (Z4 w).cell? ⟨p, 1, none⟩ = some (.int .i64 0) := hd0.c 1
  have c2 : (Z4 w).cell? ⟨p, 2, none⟩ = some (.int .i64 W) := hd0.c 2
  have c3 : (Z4 w).cell? ⟨p, 3, none⟩ = some (.int .i64 H) := hd0.c 3
  have hp := hd.lt
  obtain ⟨⟨g0, g1, g2, g3⟩, ⟨f0, f1, f2, f3⟩, zz⟩ : Four (Z4 w) w.heap.size 0 0 0 0 := cells4 (Below.refl _ _)
  clear hd0 hd
  go_enter Tryz.func80, Tryz.ntmps80
  go_wp2_with (go_at_call 65; refine HM.out.mono ?_; rintro e w1 ⟨rfl, rfl⟩)
  refine bodyPost_ret (v := rct 0 0 W H) (by simp [results, Tryz.results80, go_sem]) rfl ⟨rfl, ?_⟩
  exact box1 _ _
end Go.Proofs.YtkjogcnoaipniaaGreatDoor
namespace Go.Proofs.YtkjogcnoaipniaaGreatDoor
open Go.RowKit
set_option linter.unusedVariables false
set_option maxRecDepth 100000 in
set_option maxHeartbeats 4000000 in
theorem refat_any (r : Nat) (W H : Int) (tv bv ev : Value) (l : List Bd) (x y : Int) (w : World) (hd : Rd w r W H tv bv ev) (hl : Bds w bv l) (hlen : l.length ≤ 256) :
    Calls Tryz.prog 45 #[ptr r, cel x y] w fun e w' => e = .returned (.tuple #[.int .i64 ((whoF l x y).getD 0), .bool (whoF l x y).isSome]) ∧ Below w.heap.size w w' := by
  obtain ⟨X, hX⟩ : ∃ X, w.alloc (.cells #[.int .i64 x, .int .i64 y] 35) = X := ⟨_, rfl⟩
  have B0 : Below w.heap.size w X := hX ▸ box1 _ _
  have T0 : Turns NoB w X := Turns.of_below B0
  have bX : Two X w.heap.size x y := hX ▸ Two.newAt rfl
  obtain ⟨d0, d1⟩ := bX.lat
  have key : ∀ n : Lat X, Rd n.w r W H tv bv ev ∧ Bds n.w bv l := fun n => by
    have T : Turns NoB X n.w := Turns.of_below n.h
    exact ⟨(hd.kept T0 id).kept T id, (hl.kept T0 (fun _ _ => id)).kept T (fun _ _ => id)⟩
  have HK := hide key
  obtain ⟨a, cap, rfl, hcap, hmax, -⟩ := hl.form
  have c8 : ∀ n : Lat X, n.w.cell? ⟨r, 3, none⟩ = some (.slice a l.length cap) := fun n => (key n).1.c 3
  have hlI : (0 : Int) ≤ (l.length : Nat) ∧ ((l.length : Nat) : Int) ≤ 256 := by omega
  obtain ⟨o, ho⟩ : ∃ o, whoF l x y = o := ⟨_, rfl⟩
  have HO := hide ho
  rw [ho]
  obtain ⟨z, hz⟩ : ∃ z, o.getD 0 = z := ⟨_, rfl⟩
  obtain ⟨c, hc⟩ : ∃ c, o.isSome = c := ⟨_, rfl⟩
  rw [hz, hc]
  have HZ := hide hz
  have HC := hide hc
  clear key hd hl T0 bX ho hz hc
  go_enter Tryz.func45, Tryz.ntmps45
  go_wp2_with fail
  clear hX
  go_loopw [6] (fun p wr => ∃ k : Nat, k ≤ l.length ∧ p = .int .i64 k ∧ (∀ (j : Nat) s, l[j]? = some s → j < k → s.has x y = false) ∧ ∃ m : Lat X, wr = m.w) (fun p _ => l.length - (intOf p).toNat)
  case atStart => exact ⟨0, Nat.zero_le _, rfl, fun j t _ h => absurd h (by omega), ⟨X, Below.refl _ _⟩, rfl⟩
  case round =>
    obtain ⟨k, hk, rfl, hno, m, rfl⟩ := hrel
    by_cases hlt : k < l.length
    · obtain ⟨s, hsk⟩ : ∃ s, l[k]? = some s := ⟨_, List.getElem?_eq_getElem hlt⟩
      obtain ⟨g, hga⟩ : ∃ g, a = some ⟨g, 0, none⟩ := by
        obtain ⟨a', cap', he', _, _, hform⟩ := (HK.out m).2.form
        obtain ⟨g', hgg, _⟩ := hform k s hsk
        injection he' with h1 h2 h3
        exact ⟨g', h1.trans hgg⟩
      subst hga
      have hcell : ∀ n : Lat X, n.w.cell? ⟨g, k * 5, none⟩ = some (.int .i64 s.id) ∧ n.w.cell? ⟨g, k * 5 + 1, none⟩ = some (.int .i64 s.x) ∧ n.w.cell? ⟨g, k * 5 + 2, none⟩ = some (.int .i64 s.y) ∧ n.w.cell? ⟨g, k * 5 + 3, none⟩ = some (.int .i64 s.a) ∧ n.w.cell? ⟨g, k * 5 + 4, none⟩ = some (.int .i64 s.b) := fun n => by
        obtain ⟨a', cap', he', _, _, hform⟩ := (HK.out n).2.form
        obtain ⟨g', hgg, _, q0, q1, q2, q3, q4⟩ := hform k s hsk
        rw [hgg] at he'
        injection he' with h1 h2 h3
        injection h1 with h1
        injection h1 with h1
        subst h1
        exact ⟨q0, q1, q2, q3, q4⟩
      have HCell := hide hcell
      have HC8 := hide c8
      have e1 : ∀ n : Lat m.w, n.w.cell? ⟨g, k * 5 + 1, none⟩ = some (.int .i64 s.x) := fun n => (hcell ⟨n.w, bt m.h n.h⟩).2.1
      have e2 : ∀ n : Lat m.w, n.w.cell? ⟨g, k * 5 + 2, none⟩ = some (.int .i64 s.y) := fun n => (hcell ⟨n.w, bt m.h n.h⟩).2.2.1
      have e3 : ∀ n : Lat m.w, n.w.cell? ⟨g, k * 5 + 3, none⟩ = some (.int .i64 s.a) := fun n => (hcell ⟨n.w, bt m.h n.h⟩).2.2.2.1
      have e4 : ∀ n : Lat m.w, n.w.cell? ⟨g, k * 5 + 4, none⟩ = some (.int .i64 s.b) := fun n => (hcell ⟨n.w, bt m.h n.h⟩).2.2.2.2
      have k0 : ∀ n : Lat m.w, n.w.cell? ⟨w.heap.size, 0, none⟩ = some (.int .i64 x) := fun n => d0 ⟨n.w, bt m.h n.h⟩
      have k1 : ∀ n : Lat m.w, n.w.cell? ⟨w.heap.size, 1, none⟩ = some (.int .i64 y) := fun n => d1 ⟨n.w, bt m.h n.h⟩
      have k8 : ∀ n : Lat m.w, n.w.cell? ⟨r, 3, none⟩ = some (.slice (some ⟨g, 0, none⟩) l.length cap) := fun n => c8 ⟨n.w, bt m.h n.h⟩
      have z9 := c8 m
      have hki : (k : Int) < (l.length : Nat) := by omega
      have hne2 := lat_some m.w
      have HN := hide hno
      have HT := hide hsk
      clear hcell d0 d1 c8 hno hsk
      cases hb : has s.x s.y s.a s.b x y
      · have HB := hide hb
        clear hb
        go_wp2_with fail
        refine wp_region_lat (by kernel_rfl) (by kernel_rfl) ?_
        repeat (go_big_quiet_step (first | (go_at_call 74; exact calls_lat (refhas_is _ HB.out))))
        refine wpQuiet_nil ?_
        rintro _ ⟨n2, rfl⟩
        go_wp2_with fail
        go_roundw
        case rel =>
          refine ⟨k + 1, by omega, by go_num, fun j s' hj hjk => ?_, ⟨n2.w, bt m.h n2.h⟩, rfl⟩
          by_cases hjk' : j = k
          · subst hjk'; rw [HT.out] at hj; cases hj; exact HB.out
          · exact HN.out j s' hj (by omega)
        case measure => simp [intOf]; omega
      · have HB := hide hb
        clear hb
        go_wp2_with fail
        refine wp_region_lat (by kernel_rfl) (by kernel_rfl) ?_
        repeat (go_big_quiet_step (first | (go_at_call 74; exact calls_lat (refhas_is _ HB.out))))
        refine wpQuiet_nil ?_
        rintro _ ⟨n2, rfl⟩
        have y8 := k8 n2
        have y0 := (HCell.out ⟨n2.w, bt m.h n2.h⟩).1
        have hwho : whoF l x y = some s.id := by
          have hl := split_at HT.out
          unfold whoF
          rw [hl, List.find?_append, find_none (l := l.take k) (fun s' hs' => ?_), List.find?_cons, show s.has x y = true from HB.out]
          · rfl
          · obtain ⟨j, hj, rfl⟩ := List.getElem_of_mem hs'
            rw [List.length_take] at hj
            rw [List.getElem_take]
            exact HN.out j _ (List.getElem?_eq_getElem (by omega)) (by omega)
        have hz : z = s.id := by rw [← HZ.out, ← HO.out, hwho]; rfl
        have hc : c = true := by rw [← HC.out, ← HO.out, hwho]; rfl
        subst hz hc
        clear hwho
        go_wp2_with fail
        go_ret2
        exact ⟨rfl, bt B0 (bt m.h n2.h)⟩
    · have hwho : whoF l x y = none := by
        unfold whoF
        rw [find_none (fun s hs => ?_)]
        · rfl
        · obtain ⟨j, hj, rfl⟩ := List.getElem_of_mem hs
          exact hno j _ (List.getElem?_eq_getElem hj) (by omega)
      have hz : z = 0 := by rw [← HZ.out, ← HO.out, hwho]; rfl
      have hc : c = false := by rw [← HC.out, ← HO.out, hwho]; rfl
      subst hz hc
      have z9 := c8 m
      have hki : ¬ (k : Int) < (l.length : Nat) := by omega
      clear hwho hno d0 d1 c8
      go_wp2_with fail
      go_ret2
      exact ⟨rfl, bt B0 m.h⟩
end Go.Proofs.YtkjogcnoaipniaaGreatDoor
