/-
  The document's Free.
-/
import Derived.Test.YtkodeopkgmichaaRefMeet
import Derived.Test.YtkodeopkgmichaaState
namespace Go.Proofs.Ytkodeopkgmichaa
open Go.RowKit Go.Shelf
set_option linter.unusedVariables false
set_option linter.unusedSimpArgs false
set_option maxHeartbeats 1000000 in
theorem meet34 (x y a b p q c d : Int) (w : World) : Calls Try.prog 34 #[rct x y a b, rct p q c d] w fun e w' => e = .returned (.bool (mtB x y a b p q c d)) ∧ Below w.heap.size w w' := by
  obtain ⟨k0, k1, k2, k3, hk⟩ := mtV_lit x y a b p q c d
  have HM := fun wx => hide (refmeet_any x y a b p q c d wx)
  simp only [hk] at HM
  obtain ⟨r, hr⟩ : ∃ r, mtB x y a b p q c d = r := ⟨_, rfl⟩
  rw [hr] at HM ⊢
  clear hk hr
  go_enter Try.func34, Try.ntmps34
  go_wp2_with (go_at_call 50; refine (HM _).out.mono ?_; rintro e w1 ⟨rfl, hb1⟩)
  go_ret
  exact ⟨rfl, bt (bt (box2 _ _ _) hb1) (box1 _ _)⟩
theorem meet34_is {x y a b p q c d : Int} {w : World} {o : Bool} (h : mtB x y a b p q c d = o) : Calls Try.prog 34 #[rct x y a b, rct p q c d] w fun e w' => e = .returned (.bool o) ∧ Below w.heap.size w w' := by subst h; exact meet34 x y a b p q c d w
/-- One of a row of units that begins anywhere. -/
def BdAtR (w : World) (a : Option Addr) (i : Nat) (t : Bd) : Prop :=
  ∃ g o, a = some ⟨g, o, none⟩ ∧ g < w.heap.size ∧ w.cell? ⟨g, o + i * 5, none⟩ = some (.int .i64 t.id) ∧ w.cell? ⟨g, o + i * 5 + 1, none⟩ = some (.int .i64 t.r.x) ∧ w.cell? ⟨g, o + i * 5 + 2, none⟩ = some (.int .i64 t.r.y) ∧ w.cell? ⟨g, o + i * 5 + 3, none⟩ = some (.int .i64 t.r.a) ∧ w.cell? ⟨g, o + i * 5 + 4, none⟩ = some (.int .i64 t.r.b)
theorem BdAtR.kept {w w' : World} {a : Option Addr} {i : Nat} {t : Bd} (h : BdAtR w a i t) (hb : Below w.heap.size w w') : BdAtR w' a i t := by
  obtain ⟨g, o, e1, e2, c0, c1, c2, c3, c4⟩ := h
  have hc := fun o => hb.cell (p := ⟨g, o, none⟩) e2
  exact ⟨g, o, e1, Nat.lt_of_lt_of_le e2 hb.size, (hc _).trans c0, (hc _).trans c1, (hc _).trans c2, (hc _).trans c3, (hc _).trans c4⟩
/-- In block r lies an index of the document's, its units wherever they begin. -/
def RxR (w : World) (r : Nat) (a : Option Addr) (cap : Nat) (l : List Bd) : Prop :=
  w.cell? ⟨r, 0, none⟩ = some (.slice a l.length cap) ∧ l.length ≤ cap ∧ l.length ≤ 256 ∧ ∀ i t, l[i]? = some t → BdAtR w a i t
theorem RxR.lt {w : World} {r : Nat} {a : Option Addr} {cap : Nat} {l : List Bd} (h : RxR w r a cap l) : r < w.heap.size := World.block_lt_of_cell? w _ h.1
theorem RxR.kept {w w' : World} {r : Nat} {a : Option Addr} {cap : Nat} {l : List Bd} (h : RxR w r a cap l) (hb : Below w.heap.size w w') : RxR w' r a cap l :=
  ⟨(hb.cell (p := ⟨r, 0, none⟩) h.lt).trans h.1, h.2.1, h.2.2.1, fun i t ht => (h.2.2.2 i t ht).kept hb⟩
def hits (t : Bd) (i x y a b : Int) : Bool := decide (t.id ≠ i) && mtB t.r.x t.r.y t.r.a t.r.b x y a b
def freeR (l : List Bd) (i x y a b : Int) : Bool := may x y a b && !(l.any (fun t => hits t i x y a b))
set_option maxRecDepth 100000 in
set_option maxHeartbeats 4000000 in
theorem refree_any (r : Nat) (av : Option Addr) (cap : Nat) (l : List Bd) (i x y a b : Int) (w : World) (h : RxR w r av cap l) :
    Calls Try.prog 21 #[ptr r, rct x y a b, .int .i64 i] w fun e w' => e = .returned (.bool (freeR l i x y a b)) ∧ Below w.heap.size w w' := by
  unfold freeR
  cases hm : may x y a b
  · rw [Bool.false_and]
    have HMy := hide (fun wx => refmay_is (x := x) (y := y) (a := a) (b := b) wx hm)
    clear hm
    go_enter Try.func21, Try.ntmps21
    go_wp2_with (go_at_call 40; refine (HMy.out _).mono ?_; rintro e w1 ⟨rfl, hb1⟩)
    go_ret
    exact ⟨rfl, bt (box1 _ _) hb1⟩
  · rw [Bool.true_and]
    have HMy := hide (fun wx => refmay_is (x := x) (y := y) (a := a) (b := b) wx hm)
    clear hm
    obtain ⟨X, hX⟩ : ∃ X, w.alloc (.cells #[.int .i64 x, .int .i64 y, .int .i64 a, .int .i64 b] 34) = X := ⟨_, rfl⟩
    have B0 : Below w.heap.size w X := hX ▸ box1 _ _
    have F0 : Four X w.heap.size x y a b := hX ▸ cells4 (Below.refl _ _)
    have hrl := h.lt
    obtain ⟨⟨k0, k1, k2, k3⟩, -, hxl⟩ := id F0
    go_enter Try.func21, Try.ntmps21
    go_wp2_with (first | rw [hX] | (go_at_call 40; refine (HMy.out _).mono ?_; rintro e w1 ⟨rfl, hb1⟩))
    have key : ∀ n : Lat w1, RxR n.w r av cap l ∧ Four n.w w.heap.size x y a b ∧ Below w.heap.size w n.w := fun n => by
      have hB := bt hb1 n.h
      exact ⟨h.kept (bt B0 hB), F0.turned (S := NoB) (Turns.of_below hB) id, bt B0 hB⟩
    have HK := hide key
    have hln : l.length ≤ 256 := h.2.2.1
    clear hb1 h F0 B0 hX k0 k1 k2 k3 HMy
    go_loopw [7] (fun d wr => ∃ k : Nat, k ≤ l.length ∧ d = .int .i64 k ∧ (∀ (j : Nat) s, l[j]? = some s → j < k → hits s i x y a b = false) ∧ ∃ n : Lat w1, wr = n.w) (fun d _ => l.length - (intOf d).toNat)
    case atStart => exact ⟨0, Nat.zero_le _, rfl, fun j s _ hj => by omega, ⟨w1, Below.refl _ _⟩, rfl⟩
    case round =>
      obtain ⟨k, hk, rfl, hno, n0, rfl⟩ := hrel
      have z0 := (HK.out n0).1.1
      by_cases hlt : k < l.length
      · obtain ⟨t, ht⟩ : ∃ t, l[k]? = some t := ⟨_, List.getElem?_eq_getElem hlt⟩
        obtain ⟨g, o, rfl, hg, d0, d1, d2, d3, d4⟩ := (HK.out n0).1.2.2.2 k t ht
        have e0 : ∀ n : Lat n0.w, n.w.cell? ⟨g, o + k * 5, none⟩ = some (.int .i64 t.id) := fun n => (n.h.cell (p := ⟨g, o + k * 5, none⟩) hg).trans d0
        have e1 : ∀ n : Lat n0.w, n.w.cell? ⟨g, o + k * 5 + 1, none⟩ = some (.int .i64 t.r.x) := fun n => (n.h.cell (p := ⟨g, o + k * 5 + 1, none⟩) hg).trans d1
        have e2 : ∀ n : Lat n0.w, n.w.cell? ⟨g, o + k * 5 + 2, none⟩ = some (.int .i64 t.r.y) := fun n => (n.h.cell (p := ⟨g, o + k * 5 + 2, none⟩) hg).trans d2
        have e3 : ∀ n : Lat n0.w, n.w.cell? ⟨g, o + k * 5 + 3, none⟩ = some (.int .i64 t.r.a) := fun n => (n.h.cell (p := ⟨g, o + k * 5 + 3, none⟩) hg).trans d3
        have e4 : ∀ n : Lat n0.w, n.w.cell? ⟨g, o + k * 5 + 4, none⟩ = some (.int .i64 t.r.b) := fun n => (n.h.cell (p := ⟨g, o + k * 5 + 4, none⟩) hg).trans d4
        have q0 : ∀ n : Lat n0.w, n.w.cell? ⟨w.heap.size, 0, none⟩ = some (.int .i64 x) := fun n => (HK.out ⟨n.w, bt n0.h n.h⟩).2.1.1.1
        have q1 : ∀ n : Lat n0.w, n.w.cell? ⟨w.heap.size, 1, none⟩ = some (.int .i64 y) := fun n => (HK.out ⟨n.w, bt n0.h n.h⟩).2.1.1.2.1
        have q2 : ∀ n : Lat n0.w, n.w.cell? ⟨w.heap.size, 2, none⟩ = some (.int .i64 a) := fun n => (HK.out ⟨n.w, bt n0.h n.h⟩).2.1.1.2.2.1
        have q3 : ∀ n : Lat n0.w, n.w.cell? ⟨w.heap.size, 3, none⟩ = some (.int .i64 b) := fun n => (HK.out ⟨n.w, bt n0.h n.h⟩).2.1.1.2.2.2
        have q8 : ∀ n : Lat n0.w, n.w.cell? ⟨r, 0, none⟩ = some (.slice (some ⟨g, o, none⟩) l.length cap) := fun n => (HK.out ⟨n.w, bt n0.h n.h⟩).1.1
        have hki : (k : Int) < (l.length : Nat) := by omega
        have hkl : (0 : Int) ≤ (k : Nat) ∧ ((l.length : Nat) : Int) ≤ 256 := by omega
        have hne2 := lat_some n0.w
        have HT := hide ht
        have HN := hide hno
        clear d0 d1 d2 d3 d4 ht hno
        have more : hits t i x y a b = false → Hid (∀ (j : Nat) s, l[j]? = some s → j < k + 1 → hits s i x y a b = false) := fun hh => hide fun j s' hj hjk => by
          by_cases hjk' : j = k
          · subst hjk'; rw [HT.out] at hj; cases hj; exact hh
          · exact HN.out j s' hj (by omega)
        by_cases hid : t.id = i
        · have HM := more (by simp [hits, hid])
          have hd : decide (t.id = i) = true := by simpa using hid
          have hd2 : (t.id == i) = true := by simpa using hid
          clear more
          go_wp2_with fail
          refine wp_region_lat (by kernel_rfl) (by kernel_rfl) ?_
          repeat (go_big_quiet_step (fail))
          refine wpQuiet_nil ?_
          rintro _ ⟨n2, rfl⟩
          go_wp2_with fail
          go_roundw
          case rel => exact ⟨k + 1, by omega, by go_num, HM.out, ⟨n2.w, bt n0.h n2.h⟩, rfl⟩
          case measure => simp [intOf]; omega
        · have hd : decide (t.id = i) = false := by simpa using hid
          have hd2 : (t.id == i) = false := by simpa using hid
          have hd3 : (t.id != i) = true := by simpa using hid
          cases hb : mtB t.r.x t.r.y t.r.a t.r.b x y a b
          · have HM := more (by simp [hits, hb])
            have HB := hide hb
            clear more hb
            go_wp2_with fail
            refine wp_region_lat (by kernel_rfl) (by kernel_rfl) ?_
            repeat (go_big_quiet_step (first | (go_at_call 34; exact calls_lat (meet34_is HB.out))))
            refine wpQuiet_nil ?_
            rintro _ ⟨n2, rfl⟩
            go_wp2_with fail
            go_roundw
            case rel => exact ⟨k + 1, by omega, by go_num, HM.out, ⟨n2.w, bt n0.h n2.h⟩, rfl⟩
            case measure => simp [intOf]; omega
          · have hh : hits t i x y a b = true := by simp [hits, hb, hid]
            have HA : Hid ((l.any (fun t => hits t i x y a b)) = true) := hide (List.any_eq_true.2 ⟨t, List.mem_of_getElem? HT.out, hh⟩)
            have HB := hide hb
            clear more hb hh
            go_wp2_with fail
            refine wp_region_lat (by kernel_rfl) (by kernel_rfl) ?_
            repeat (go_big_quiet_step (first | (go_at_call 34; exact calls_lat (meet34_is HB.out))))
            refine wpQuiet_nil ?_
            rintro _ ⟨n2, rfl⟩
            go_wp2_with fail
            go_ret
            exact ⟨ret_bool (by rw [HA.out]; rfl), (HK.out ⟨n2.w, bt n0.h n2.h⟩).2.2⟩
      · obtain rfl : k = l.length := by omega
        have HA : Hid ((l.any (fun t => hits t i x y a b)) = false) := hide (by
          rw [List.any_eq_false]
          intro s hs
          obtain ⟨j, hj, rfl⟩ := List.getElem_of_mem hs
          simp [hno j l[j] (List.getElem?_eq_getElem hj) hj])
        have hki : ¬ ((l.length : Nat) : Int) < (l.length : Nat) := by omega
        clear hno
        go_wp2_with fail
        go_ret
        exact ⟨ret_bool (by rw [HA.out]; rfl), (HK.out n0).2.2⟩
end Go.Proofs.Ytkodeopkgmichaa
