/-
  Terrain of a World and of the document's.
-/
import Derived.Test.YtekpamilcpeanaaDoorPure
import Derived.Test.YtekpamilcpeanaaDoorAtW
namespace Go.Proofs.YtekpamilcpeanaaDoor
open Go.RowKit
set_option linter.unusedVariables false
def terN (W H : Int) (tl : List Nat) (x y : Int) : Int := if has 0 0 W H x y = true then (tl.getD (y * W + x).toNat 0 : Nat) else 0
theorem inside {W H x y : Int} {tl : List Nat} (hm : mt W H tl = true) (h : has 0 0 W H x y = true) : ∃ (k n : Nat) (z : Int), tl[k]? = some n ∧ terN W H tl x y = (n : Nat) ∧ IntKind.i64.wrap (y * W) = z ∧ IntKind.i64.wrap (z + x) = (k : Nat) ∧ (k : Int) < (tl.length : Nat) ∧ (0 : Int) ≤ (k : Int) ∧ (tl.length : Int) ≤ 16384 := by
  simp only [mt, Bool.and_eq_true, decide_eq_true_eq] at hm
  obtain ⟨h1, h2, h3, -⟩ := hm
  have ha := area h1 h2
  simp only [gs, decide_eq_true_iff] at h1 h2
  obtain ⟨-, b1, b2, b3, b4⟩ := (has_iff _ _ _ _ _ _).1 h
  have m1 : y * W ≤ (H - 1) * W := Int.mul_le_mul_of_nonneg_right (by omega) (by omega)
  have m2 : 0 ≤ y * W := Int.mul_nonneg (by omega) (by omega)
  rw [Int.sub_mul, Int.mul_comm H W, Int.one_mul] at m1
  have ht : terN W H tl x y = (tl.getD (y * W + x).toNat 0 : Nat) := by rw [terN, if_pos h]
  obtain ⟨z, hz⟩ : ∃ z, y * W = z := ⟨_, rfl⟩
  rw [hz] at m1 m2 ht ⊢
  have hk : (z + x).toNat < tl.length := by omega
  refine ⟨(z + x).toNat, tl[(z + x).toNat], z, List.getElem?_eq_getElem hk, ?_, ?_, ?_, by omega, by omega, by omega⟩
  · rw [ht, List.getD_eq_getElem?_getD, List.getElem?_eq_getElem hk]; rfl
  · rw [IntKind.wrap_i64]; omega
  · rw [IntKind.wrap_i64]; omega
set_option maxRecDepth 100000 in
set_option maxHeartbeats 4000000 in
theorem terrain_world (p bm : Nat) (W H : Int) (tv bv ev : Value) (tl : List Nat) (x y : Int) (w : World) (hd : Wd w p W H tv bv bm ev) (ht : Tls w tv tl) (hm : mt W H tl = true) (hb : ∀ n ∈ tl, n < 256) :
    Calls Tryd.prog 90 #[ptr p, cel x y] w fun e w' => e = .returned (.tuple #[.int .i64 (terN W H tl x y), .bool (has 0 0 W H x y)]) ∧ Below w.heap.size w w' := by
  obtain ⟨X, hX⟩ : ∃ X, w.alloc (.cells #[.int .i64 x, .int .i64 y] 23) = X := ⟨_, rfl⟩
  have B0 : Below w.heap.size w X := hX ▸ box1 _ _
  have T0 : Turns NoB w X := Turns.of_below B0
  have bX : Two X w.heap.size x y := hX ▸ Two.newAt rfl
  obtain ⟨d0, d1⟩ := bX.lat
  have key : ∀ n : Lat X, Wd n.w p W H tv bv bm ev ∧ Tls n.w tv tl := fun n => by
    have T : Turns NoB X n.w := Turns.of_below n.h
    exact ⟨(hd.kept T0 id).kept T id, (ht.kept T0 (fun _ _ => id)).kept T (fun _ _ => id)⟩
  have HK := hide key
  obtain ⟨a, cap, rfl, hcap, hmax, hat⟩ := ht.form
  have c0 : ∀ n : Lat X, n.w.cell? ⟨p, 0, none⟩ = some (.int .i64 0) := fun n => (key n).1.c 0
  have c1 : ∀ n : Lat X, n.w.cell? ⟨p, 1, none⟩ = some (.int .i64 0) := fun n => (key n).1.c 1
  have c2 : ∀ n : Lat X, n.w.cell? ⟨p, 2, none⟩ = some (.int .i64 W) := fun n => (key n).1.c 2
  have c3 : ∀ n : Lat X, n.w.cell? ⟨p, 3, none⟩ = some (.int .i64 H) := fun n => (key n).1.c 3
  have c4 : ∀ n : Lat X, n.w.cell? ⟨p, 4, none⟩ = some (.slice a tl.length cap) := fun n => (key n).1.c 4
  have hne := lat_some X
  cases h : has 0 0 W H x y
  · have HB := hide h
    rw [show terN W H tl x y = 0 by simp [terN, h]]
    clear key hd ht T0 bX hat h
    go_enter Tryd.func90, Tryd.ntmps90
    go_wp2_with fail
    clear hX
    refine wp_region_lat (by kernel_rfl) (by kernel_rfl) ?_
    repeat (go_big_quiet_step (first | (go_at_call 60; exact calls_lat_same (made_is (HK.out _).1)) | (go_at_call 88; exact calls_lat (hasc_is _ HB.out))))
    refine wpQuiet_nil ?_
    rintro _ ⟨n, rfl⟩
    go_wp2_with fail
    go_ret2
    exact ⟨rfl, bt B0 n.h⟩
  · have HB := hide h
    obtain ⟨k, u, z, hu, hter, hw1, hw2, hki, hk0, hlI⟩ := inside hm h
    obtain ⟨g, hga, hg, hcell⟩ := hat k u hu
    subst hga
    have hub : u < 256 := hb u (List.mem_of_getElem? hu)
    have hub' : (0 : Int) ≤ (u : Nat) ∧ ((u : Nat) : Int) < 256 := by omega
    have hcell' : ∀ n : Lat X, n.w.cell? ⟨g, k, none⟩ = some (.int .u8 (u : Nat)) := fun n => by
      obtain ⟨a', cap', he', _, _, hform⟩ := (HK.out n).2.form
      obtain ⟨g', hgg, _, q⟩ := hform k u hu
      rw [hgg] at he'
      injection he' with h1 h2 h3
      injection h1 with h1
      injection h1 with h1
      subst h1
      exact q
    rw [hter]
    clear key hd ht T0 bX hat h hter hu hcell hb hm
    go_enter Tryd.func90, Tryd.ntmps90
    go_wp2_with fail
    clear hX
    refine wp_region_lat (by kernel_rfl) (by kernel_rfl) ?_
    repeat (go_big_quiet_step (first | (go_at_call 60; exact calls_lat_same (made_is (HK.out _).1)) | (go_at_call 88; exact calls_lat (hasc_is _ HB.out))))
    refine wpQuiet_nil ?_
    rintro _ ⟨n, rfl⟩
    go_wp2_with fail
    have e0 : ∀ m : Lat n.w, m.w.cell? ⟨w.heap.size, 0, none⟩ = some (.int .i64 x) := fun m => d0 ⟨m.w, bt n.h m.h⟩
    have e1 : ∀ m : Lat n.w, m.w.cell? ⟨w.heap.size, 1, none⟩ = some (.int .i64 y) := fun m => d1 ⟨m.w, bt n.h m.h⟩
    have e2 : ∀ m : Lat n.w, m.w.cell? ⟨p, 2, none⟩ = some (.int .i64 W) := fun m => c2 ⟨m.w, bt n.h m.h⟩
    have e4 : ∀ m : Lat n.w, m.w.cell? ⟨p, 4, none⟩ = some (.slice (some ⟨g, 0, none⟩) tl.length cap) := fun m => c4 ⟨m.w, bt n.h m.h⟩
    have e5 : ∀ m : Lat n.w, m.w.cell? ⟨g, k, none⟩ = some (.int .u8 (u : Nat)) := fun m => hcell' ⟨m.w, bt n.h m.h⟩
    have hne2 := lat_some n.w
    clear d0 d1 c0 c1 c2 c3 c4 hcell' hne
    refine wp_region_lat (by kernel_rfl) (by kernel_rfl) ?_
    repeat (go_big_quiet_step (fail))
    refine wpQuiet_nil ?_
    rintro _ ⟨m, rfl⟩
    go_wp2_with fail
    go_ret2
    exact ⟨rfl, bt B0 (bt n.h m.h)⟩
end Go.Proofs.YtekpamilcpeanaaDoor
