/-
  The document's Check. The document's New.
-/
import Derived.Test.YtekpamilcpeanaaDoorPure
import Derived.Test.YtekpamilcpeanaaDoorNew
namespace Go.Proofs.YtekpamilcpeanaaDoor
open Go.RowKit
set_option linter.unusedVariables false
/-- What the document's Check asks of the i-th building. -/
def Goods (W H : Int) (L : List Bd) (k : Nat) : Prop := ∀ (i : Nat) t, L[i]? = some t → i < k → mb W H t = true ∧ ∀ (j : Nat) s, L[j]? = some s → j < i → s.id < t.id ∧ s.mt t = false
theorem chk_iff (W H : Int) : ∀ (rest done : List Bd), chk W H done rest = true ↔ ∀ (i : Nat) t, rest[i]? = some t → mb W H t = true ∧ ∀ s ∈ done ++ rest.take i, s.id < t.id ∧ s.mt t = false
  | [], done => by simp [chk]
  | t :: r, done => by
    have ih := chk_iff W H r (done ++ [t])
    simp only [chk, Bool.and_eq_true, ih, List.all_eq_true, decide_eq_true_eq, Bool.not_eq_true']
    constructor
    · rintro ⟨h1, h2, h3⟩ i u hu
      match i with
      | 0 =>
        simp at hu; subst hu
        exact ⟨h1, fun s hs => h2 s (by simpa using hs)⟩
      | i + 1 =>
        have := h3 i u (by simpa using hu)
        simpa using this
    · intro h
      refine ⟨(h 0 t rfl).1, fun s hs => (h 0 t rfl).2 s (by simpa using hs), fun i u hu => ?_⟩
      have := h (i + 1) u (by simpa using hu)
      simpa using this
theorem goods_chk {W H : Int} {L : List Bd} : chk W H [] L = true ↔ Goods W H L L.length := by
  rw [chk_iff]
  constructor
  · intro h i t ht _
    refine ⟨(h i t ht).1, fun j s hs hj => (h i t ht).2 s ?_⟩
    rw [List.nil_append]
    exact List.mem_of_getElem? (i := j) (by rw [List.getElem?_take_of_lt hj]; exact hs)
  · intro h i t ht
    have hl : i < L.length := (List.getElem?_eq_some_iff.1 ht).1
    refine ⟨(h i t ht hl).1, fun s hs => ?_⟩
    rw [List.nil_append] at hs
    obtain ⟨j, hj⟩ := List.getElem?_of_mem hs
    have hji : j < i := by
      have := (List.getElem?_eq_some_iff.1 hj).1
      simp at this; omega
    exact (h i t ht hl).2 j s (by rw [List.getElem?_take_of_lt hji] at hj; exact hj) hji
/-- What New and Check tell of a map, by the document. -/
def chkC (W H : Int) (tl : List Nat) (L : List Bd) : Int := if (mt W H tl && (decide (L.length ≤ 256) && chk W H [] L)) = true then 0 else 1
theorem chkC_no1 {W H : Int} {tl : List Nat} {L : List Bd} (h : mt W H tl = false) : chkC W H tl L = 1 := by simp [chkC, h]
theorem chkC_no2 {W H : Int} {tl : List Nat} {L : List Bd} (h : ¬ L.length ≤ 256) : chkC W H tl L = 1 := by simp [chkC, h]
theorem chkC_no3 {W H : Int} {tl : List Nat} {L : List Bd} (h : ¬ Goods W H L L.length) : chkC W H tl L = 1 := by
  have : chk W H [] L = false := by rw [Bool.eq_false_iff, ne_eq, goods_chk]; exact h
  simp [chkC, this]
theorem chkC_yes {W H : Int} {tl : List Nat} {L : List Bd} (h : mt W H tl = true) (h2 : L.length ≤ 256) (h3 : Goods W H L L.length) : chkC W H tl L = 0 := by
  simp [chkC, h, h2, goods_chk.2 h3]
theorem mt_no {W H : Int} {tl : List Nat} (h : ¬ ((1 ≤ W ∧ W ≤ 128) ∧ (1 ≤ H ∧ H ≤ 128) ∧ (tl.length : Int) = W * H)) : mt W H tl = false := by
  rw [Bool.eq_false_iff]
  intro e
  simp only [mt, gs, Bool.and_eq_true, decide_eq_true_eq] at e
  exact h ⟨e.1, e.2.1, e.2.2.1⟩
theorem mt_no4 {W H : Int} {tl : List Nat} {k n : Nat} (hk : tl[k]? = some n) (h : 4 ≤ n) : mt W H tl = false := by
  rw [Bool.eq_false_iff]
  intro e
  simp only [mt, Bool.and_eq_true, decide_eq_true_eq, List.all_eq_true] at e
  have := e.2.2.2 n (List.mem_of_getElem? hk)
  omega
theorem mt_yes {W H : Int} {tl : List Nat} (h1 : 1 ≤ W ∧ W ≤ 128) (h2 : 1 ≤ H ∧ H ≤ 128) (h3 : (tl.length : Int) = W * H) (h4 : ∀ (k n : Nat), tl[k]? = some n → k < tl.length → n < 4) : mt W H tl = true := by
  simp only [mt, gs, Bool.and_eq_true, decide_eq_true_eq, List.all_eq_true]
  refine ⟨h1, h2, h3, fun n hn => ?_⟩
  obtain ⟨k, hk⟩ := List.getElem?_of_mem hn
  exact h4 k n hk (List.getElem?_eq_some_iff.1 hk).1
set_option maxRecDepth 100000 in
set_option maxHeartbeats 8000000 in
theorem refcheck_any (W H : Int) (tv bv : Value) (tl : List Nat) (L : List Bd) (w : World) (hv : TlR w tv tl) (hb : ∀ x ∈ tl, x < 256) (hl : BdR w bv L) :
    Calls Tryd.prog 46 #[mp W H tv bv] w fun e w' => e = .returned (.int .i64 (chkC W H tl L)) ∧ Below w.heap.size w w' := by
  obtain ⟨X, hX⟩ : ∃ X, w.alloc (.cells #[.int .i64 W, .int .i64 H, tv, bv] 35) = X := ⟨_, rfl⟩
  have B0 : Below w.heap.size w X := hX ▸ box1 _ _
  have T0 : Turns NoB w X := Turns.of_below B0
  have HBox : X.heap[w.heap.size]? = some (.cells #[.int .i64 W, .int .i64 H, tv, bv] 35 (0, 0)) := hX ▸ heap_alloc_new w _
  have key : ∀ n : Lat X, TlR n.w tv tl ∧ BdR n.w bv L ∧ n.w.heap[w.heap.size]? = some (.cells #[.int .i64 W, .int .i64 H, tv, bv] 35 (0, 0)) := fun n => by
    have T : Turns NoB X n.w := Turns.of_below n.h
    exact ⟨(hv.kept B0).kept n.h, (hl.kept B0).kept n.h, T.same id HBox⟩
  have HK := hide key
  have hv' := hv
  have hl' := hl
  obtain ⟨a1, cap1, rfl, hcap1, hmax1, -⟩ := hv'
  obtain ⟨a2, cap2, rfl, hcap2, hmax2, -⟩ := hl'
  have c0 : ∀ n : Lat X, n.w.cell? ⟨w.heap.size, 0, none⟩ = some (.int .i64 W) := fun n => cell_of_row n.w _ 0 _ _ _ (key n).2.2
  have c1 : ∀ n : Lat X, n.w.cell? ⟨w.heap.size, 1, none⟩ = some (.int .i64 H) := fun n => cell_of_row n.w _ 1 _ _ _ (key n).2.2
  have c2 : ∀ n : Lat X, n.w.cell? ⟨w.heap.size, 2, none⟩ = some (.slice a1 tl.length cap1) := fun n => cell_of_row n.w _ 2 _ _ _ (key n).2.2
  have c3 : ∀ n : Lat X, n.w.cell? ⟨w.heap.size, 3, none⟩ = some (.slice a2 L.length cap2) := fun n => cell_of_row n.w _ 3 _ _ _ (key n).2.2
  have z0 := c0 ⟨X, Below.refl _ _⟩
  have z1 := c1 ⟨X, Below.refl _ _⟩
  have z2 := c2 ⟨X, Below.refl _ _⟩
  have z3 := c3 ⟨X, Below.refl _ _⟩
  simp only at z0 z1 z2 z3
  clear hv hl key T0 HBox
  by_cases h1 : W < 1
  · rw [chkC_no1 (mt_no (by omega))]
    go_enter Tryd.func46, Tryd.ntmps46
    go_wp2_with fail
    go_ret
    exact ⟨rfl, B0⟩
  by_cases h2 : 128 < W
  · rw [chkC_no1 (mt_no (by omega))]
    go_enter Tryd.func46, Tryd.ntmps46
    go_wp2_with fail
    go_ret
    exact ⟨rfl, B0⟩
  by_cases h3 : H < 1
  · rw [chkC_no1 (mt_no (by omega))]
    go_enter Tryd.func46, Tryd.ntmps46
    go_wp2_with fail
    go_ret
    exact ⟨rfl, B0⟩
  by_cases h4 : 128 < H
  · rw [chkC_no1 (mt_no (by omega))]
    go_enter Tryd.func46, Tryd.ntmps46
    go_wp2_with fail
    go_ret
    exact ⟨rfl, B0⟩
  have har := area (W := W) (H := H) (by simp [gs]; omega) (by simp [gs]; omega)
  obtain ⟨z, hz⟩ : ∃ z, W * H = z := ⟨_, rfl⟩
  rw [hz] at har
  have hwz : IntKind.i64.wrap (W * H) = z := by rw [hz, IntKind.wrap_i64]; omega
  by_cases h5 : ¬ (tl.length : Int) = z
  · rw [chkC_no1 (mt_no (by rw [hz]; exact fun h => h5 h.2.2))]
    go_enter Tryd.func46, Tryd.ntmps46
    go_wp2_with fail
    go_ret
    exact ⟨rfl, B0⟩
  have h5' := Classical.not_not.1 h5
  have hzz : z = (tl.length : Int) := h5'.symm
  subst hzz
  clear h5 h5'
  by_cases h6 : (256 : Int) < (L.length : Nat)
  · rw [chkC_no2 (by omega)]
    go_enter Tryd.func46, Tryd.ntmps46
    go_wp2_with fail
    go_ret
    exact ⟨rfl, B0⟩
  have HY1 : ∀ (h : ∀ (k n : Nat), tl[k]? = some n → k < tl.length → n < 4), mt W H tl = true := fun h => mt_yes (by omega) (by omega) hz.symm h
  obtain ⟨c, hc⟩ : ∃ c, chkC W H tl L = c := ⟨_, rfl⟩
  have HC1 : Hid (∀ (k n : Nat), tl[k]? = some n → 4 ≤ n → 1 = c) := hide fun k n h1 h2 => by rw [← hc]; exact (chkC_no1 (mt_no4 h1 h2)).symm
  have HC2 : Hid ((∀ (k n : Nat), tl[k]? = some n → k < tl.length → n < 4) → Goods W H L L.length → 0 = c) := hide fun h1 h2 => by rw [← hc]; exact (chkC_yes (HY1 h1) (by omega) h2).symm
  have HC3 : Hid (¬ Goods W H L L.length → 1 = c) := hide fun h => by rw [← hc]; exact (chkC_no3 h).symm
  rw [hc]
  clear hc HY1
  go_enter Tryd.func46, Tryd.ntmps46
  go_wp2_with fail
  go_loopw [3] (fun p wr => ∃ k : Nat, k ≤ tl.length ∧ p = .int .i64 k ∧ (∀ (j n : Nat), tl[j]? = some n → j < k → n < 4) ∧ wr = X) (fun p _ => tl.length - (intOf p).toNat)
  case atStart => exact ⟨0, Nat.zero_le _, rfl, fun j t _ h => absurd h (by omega), rfl⟩
  case round =>
    obtain ⟨k, hk, rfl, hno, rfl⟩ := hrel
    by_cases hlt : k < tl.length
    · obtain ⟨n, hn⟩ : ∃ n, tl[k]? = some n := ⟨_, List.getElem?_eq_getElem hlt⟩
      have hn256 := hb n (List.mem_of_getElem? hn)
      obtain ⟨g, o, hga, hcell⟩ : ∃ g o, a1 = some ⟨g, o, none⟩ ∧ wr.cell? ⟨g, o + k, none⟩ = some (.int .u8 (n : Nat)) := by
        obtain ⟨a', cap', he', _, _, _, hform⟩ := (HK.out ⟨wr, Below.refl _ _⟩).1
        obtain ⟨g', o', hgg, _, q⟩ := hform k n hn
        injection he' with h1 h2 h3
        exact ⟨g', o', h1.trans hgg, q⟩
      subst hga
      have hki : (k : Int) < (tl.length : Nat) := by omega
      have hn0 : (0 : Int) ≤ (n : Nat) ∧ ((n : Nat) : Int) < 256 := by omega
      by_cases h4n : n < 4
      · have hd : ¬ (4 : Int) ≤ (n : Nat) := by omega
        go_wp2_with fail
        go_roundw
        case rel =>
          refine ⟨k + 1, by omega, by go_num, fun j m hj hjk => ?_, trivial⟩
          by_cases hjk' : j = k
          · subst hjk'; rw [hn] at hj; cases hj; exact h4n
          · exact hno j m hj (by omega)
        case measure => simp [intOf]; omega
      · have hd : (4 : Int) ≤ (n : Nat) := by omega
        go_wp2_with fail
        go_ret
        exact ⟨ret_int (HC1.out k n hn (by omega)), B0⟩
    · obtain rfl : k = tl.length := by omega
      have HC4 := hide (HC2.out hno)
      have hki : ¬ ((tl.length : Nat) : Int) < (tl.length : Nat) := by omega
      clear hno HC1 HC2
      go_wp2_with fail
      rename World => wo
      go_loopw [4, 5] (fun p q wr => ∃ k : Nat, k ≤ L.length ∧ p = .int .i64 k ∧ Goods W H L k ∧ ∃ m : Lat wo, wr = m.w) (fun p q _ => L.length - (intOf p).toNat)
      case atStart => exact ⟨0, Nat.zero_le _, rfl, fun i t _ h => absurd h (by omega), ⟨wo, Below.refl _ _⟩, rfl⟩
      case round =>
        obtain ⟨k, hk, rfl, hgo, m, rfl⟩ := hrel
        have y3 := c3 m
        by_cases hlt : k < L.length
        · obtain ⟨t, htk⟩ : ∃ t, L[k]? = some t := ⟨_, List.getElem?_eq_getElem hlt⟩
          obtain ⟨g, o, hga⟩ : ∃ g o, a2 = some ⟨g, o, none⟩ := by
            obtain ⟨a', cap', he', _, _, _, hform⟩ := (HK.out m).2.1
            obtain ⟨g', o', hgg, _⟩ := hform k t htk
            injection he' with h1 h2 h3
            exact ⟨g', o', h1.trans hgg⟩
          subst hga
          have HCel : Hid (∀ n : Lat wo, ∀ (i : Nat) s, L[i]? = some s → n.w.cell? ⟨g, o + i * 5, none⟩ = some (.int .i64 s.id) ∧ n.w.cell? ⟨g, o + i * 5 + 1, none⟩ = some (.int .i64 s.x) ∧ n.w.cell? ⟨g, o + i * 5 + 2, none⟩ = some (.int .i64 s.y) ∧ n.w.cell? ⟨g, o + i * 5 + 3, none⟩ = some (.int .i64 s.a) ∧ n.w.cell? ⟨g, o + i * 5 + 4, none⟩ = some (.int .i64 s.b)) := hide fun n i s hs => by
            obtain ⟨a', cap', he', _, _, _, hform⟩ := (HK.out n).2.1
            obtain ⟨g', o', hgg, _, q0, q1, q2, q3, q4⟩ := hform i s hs
            rw [hgg] at he'
            injection he' with h1 h2 h3
            injection h1 with h1
            injection h1 with h1 h1'
            subst h1
            subst h1'
            exact ⟨q0, q1, q2, q3, q4⟩
          have e0 : ∀ n : Lat m.w, n.w.cell? ⟨g, o + k * 5, none⟩ = some (.int .i64 t.id) := fun n => (HCel.out ⟨n.w, bt m.h n.h⟩ k t htk).1
          have e1 : ∀ n : Lat m.w, n.w.cell? ⟨g, o + k * 5 + 1, none⟩ = some (.int .i64 t.x) := fun n => (HCel.out ⟨n.w, bt m.h n.h⟩ k t htk).2.1
          have e2 : ∀ n : Lat m.w, n.w.cell? ⟨g, o + k * 5 + 2, none⟩ = some (.int .i64 t.y) := fun n => (HCel.out ⟨n.w, bt m.h n.h⟩ k t htk).2.2.1
          have e3 : ∀ n : Lat m.w, n.w.cell? ⟨g, o + k * 5 + 3, none⟩ = some (.int .i64 t.a) := fun n => (HCel.out ⟨n.w, bt m.h n.h⟩ k t htk).2.2.2.1
          have e4 : ∀ n : Lat m.w, n.w.cell? ⟨g, o + k * 5 + 4, none⟩ = some (.int .i64 t.b) := fun n => (HCel.out ⟨n.w, bt m.h n.h⟩ k t htk).2.2.2.2
          have d0 : ∀ n : Lat m.w, n.w.cell? ⟨w.heap.size, 0, none⟩ = some (.int .i64 W) := fun n => c0 ⟨n.w, bt m.h n.h⟩
          have d1 : ∀ n : Lat m.w, n.w.cell? ⟨w.heap.size, 1, none⟩ = some (.int .i64 H) := fun n => c1 ⟨n.w, bt m.h n.h⟩
          have d3 : ∀ n : Lat m.w, n.w.cell? ⟨w.heap.size, 3, none⟩ = some (.slice (some ⟨g, o, none⟩) L.length cap2) := fun n => c3 ⟨n.w, bt m.h n.h⟩
          have hki2 : (k : Int) < (L.length : Nat) := by omega
          have hne := lat_some m.w
          cases hmb : mb W H t
          · have hcode := HC3.out (fun hG => by have := (hG k t htk hlt).1; rw [hmb] at this; cases this)
            have HM := hide hmb
            clear c0 c1 c2 c3 z0 z1 z2 z3 hmb htk hgo
            go_wp2_with fail
            refine wp_region_lat (by kernel_rfl) (by kernel_rfl) ?_
            repeat (go_big_quiet_step (first | (go_at_call 68; exact calls_lat (refmaybe_is HM.out))))
            refine wpQuiet_nil ?_
            rintro _ ⟨n2, rfl⟩
            go_wp2_with fail
            go_ret
            exact ⟨ret_int hcode, bt B0 (bt m.h n2.h)⟩
          · have HM := hide hmb
            have HG := hide hgo
            have HT := hide htk
            clear z0 z1 z2 z3 hmb hgo htk
            go_wp2_with fail
            refine wp_region_lat (by kernel_rfl) (by kernel_rfl) ?_
            repeat (go_big_quiet_step (first | (go_at_call 68; exact calls_lat (refmaybe_is HM.out))))
            refine wpQuiet_nil ?_
            rintro _ ⟨n2, rfl⟩
            clear e0 e1 e2 e3 e4 d0 d1 d3
            go_wp2_with fail
            go_loopw [5] (fun q wr => ∃ j : Nat, j ≤ k ∧ q = .int .i64 j ∧ (∀ (i : Nat) s, L[i]? = some s → i < j → s.id < t.id ∧ s.mt t = false) ∧ ∃ m : Lat wo, wr = m.w) (fun q _ => k - (intOf q).toNat)
            case atStart => exact ⟨0, Nat.zero_le _, rfl, fun i t _ h => absurd h (by omega), ⟨n2.w, bt m.h n2.h⟩, rfl⟩
            case round =>
              obtain ⟨j, hj, rfl, hin, m3, rfl⟩ := hrel
              by_cases hjk : j < k
              · obtain ⟨s, hsj⟩ : ∃ s, L[j]? = some s := ⟨_, List.getElem?_eq_getElem (by omega)⟩
                have e0 : ∀ n : Lat m3.w, n.w.cell? ⟨g, o + k * 5, none⟩ = some (.int .i64 t.id) := fun n => (HCel.out ⟨n.w, bt m3.h n.h⟩ k t HT.out).1
                have e1 : ∀ n : Lat m3.w, n.w.cell? ⟨g, o + k * 5 + 1, none⟩ = some (.int .i64 t.x) := fun n => (HCel.out ⟨n.w, bt m3.h n.h⟩ k t HT.out).2.1
                have e2 : ∀ n : Lat m3.w, n.w.cell? ⟨g, o + k * 5 + 2, none⟩ = some (.int .i64 t.y) := fun n => (HCel.out ⟨n.w, bt m3.h n.h⟩ k t HT.out).2.2.1
                have e3 : ∀ n : Lat m3.w, n.w.cell? ⟨g, o + k * 5 + 3, none⟩ = some (.int .i64 t.a) := fun n => (HCel.out ⟨n.w, bt m3.h n.h⟩ k t HT.out).2.2.2.1
                have e4 : ∀ n : Lat m3.w, n.w.cell? ⟨g, o + k * 5 + 4, none⟩ = some (.int .i64 t.b) := fun n => (HCel.out ⟨n.w, bt m3.h n.h⟩ k t HT.out).2.2.2.2
                have i0 : ∀ n : Lat m3.w, n.w.cell? ⟨g, o + j * 5, none⟩ = some (.int .i64 s.id) := fun n => (HCel.out ⟨n.w, bt m3.h n.h⟩ j s hsj).1
                have i1 : ∀ n : Lat m3.w, n.w.cell? ⟨g, o + j * 5 + 1, none⟩ = some (.int .i64 s.x) := fun n => (HCel.out ⟨n.w, bt m3.h n.h⟩ j s hsj).2.1
                have i2 : ∀ n : Lat m3.w, n.w.cell? ⟨g, o + j * 5 + 2, none⟩ = some (.int .i64 s.y) := fun n => (HCel.out ⟨n.w, bt m3.h n.h⟩ j s hsj).2.2.1
                have i3 : ∀ n : Lat m3.w, n.w.cell? ⟨g, o + j * 5 + 3, none⟩ = some (.int .i64 s.a) := fun n => (HCel.out ⟨n.w, bt m3.h n.h⟩ j s hsj).2.2.2.1
                have i4 : ∀ n : Lat m3.w, n.w.cell? ⟨g, o + j * 5 + 4, none⟩ = some (.int .i64 s.b) := fun n => (HCel.out ⟨n.w, bt m3.h n.h⟩ j s hsj).2.2.2.2
                have d3 : ∀ n : Lat m3.w, n.w.cell? ⟨w.heap.size, 3, none⟩ = some (.slice (some ⟨g, o, none⟩) L.length cap2) := fun n => c3 ⟨n.w, bt m3.h n.h⟩
                have hji : (j : Int) < (k : Nat) := by omega
                have hji2 : (j : Int) < (L.length : Nat) := by omega
                have hne2 := lat_some m3.w
                have HSJ := hide hsj
                have HIN := hide hin
                clear c0 c1 c2 c3 hsj hin hne y3
                by_cases hid : t.id ≤ s.id
                · have hcode := HC3.out (fun hG => by have := ((hG k t HT.out hlt).2 j s HSJ.out hjk).1; omega)
                  have hd := decide_eq_true hid
                  go_wp2_with fail
                  refine wp_region_lat (by kernel_rfl) (by kernel_rfl) ?_
                  repeat (go_big_quiet_step (fail))
                  refine wpQuiet_nil ?_
                  rintro _ ⟨n3, rfl⟩
                  go_wp2_with fail
                  go_ret
                  exact ⟨ret_int hcode, bt B0 (bt m3.h n3.h)⟩
                · have hd := decide_eq_false hid
                  cases hmt : mtB s.x s.y s.a s.b t.x t.y t.a t.b
                  · have HS := hide hmt
                    clear hmt
                    go_wp2_with fail
                    refine wp_region_lat (by kernel_rfl) (by kernel_rfl) ?_
                    repeat (go_big_quiet_step (first | (go_at_call 69; exact calls_lat (share_is HS.out))))
                    refine wpQuiet_nil ?_
                    rintro _ ⟨n3, rfl⟩
                    go_wp2_with fail
                    go_roundw
                    case rel =>
                      refine ⟨j + 1, by omega, by go_num, fun i s' hi hij => ?_, ⟨n3.w, bt m3.h n3.h⟩, rfl⟩
                      by_cases hij' : i = j
                      · subst hij'; rw [HSJ.out] at hi; cases hi; exact ⟨by omega, HS.out⟩
                      · exact HIN.out i s' hi (by omega)
                    case measure => simp [intOf]; omega
                  · have hcode := HC3.out (fun hG => by have := ((hG k t HT.out hlt).2 j s HSJ.out hjk).2; rw [Bd.mt, hmt] at this; cases this)
                    have HS := hide hmt
                    clear hmt
                    go_wp2_with fail
                    refine wp_region_lat (by kernel_rfl) (by kernel_rfl) ?_
                    repeat (go_big_quiet_step (first | (go_at_call 69; exact calls_lat (share_is HS.out))))
                    refine wpQuiet_nil ?_
                    rintro _ ⟨n3, rfl⟩
                    go_wp2_with fail
                    go_ret
                    exact ⟨ret_int hcode, bt B0 (bt m3.h n3.h)⟩
              · obtain rfl : j = k := by omega
                have hji : ¬ ((j : Nat) : Int) < (j : Nat) := by omega
                have HIN := hide hin
                clear hin
                go_wp2_with fail
                go_roundw
                case rel =>
                  refine ⟨j + 1, by omega, by go_num, fun i u hu hij => ?_, m3, rfl⟩
                  by_cases hij' : i = j
                  · subst hij'; rw [HT.out] at hu; cases hu; exact ⟨HM.out, HIN.out⟩
                  · exact HG.out i u hu (by omega)
                case measure => simp [intOf]; omega
        · obtain rfl : k = L.length := by omega
          have hcode := HC4.out hgo
          have hki2 : ¬ ((L.length : Nat) : Int) < (L.length : Nat) := by omega
          clear hgo
          go_wp2_with fail
          go_ret
          exact ⟨rfl, bt B0 m.h⟩
end Go.Proofs.YtekpamilcpeanaaDoor
namespace Go.Proofs.YtekpamilcpeanaaDoor
open Go.RowKit
set_option linter.unusedVariables false
theorem refcheck_is {W H : Int} {tv bv : Value} {tl : List Nat} {L : List Bd} {w : World} {c : Int} (hv : TlR w tv tl) (hb : ∀ x ∈ tl, x < 256) (hl : BdR w bv L) (h : chkC W H tl L = c) :
    Calls Tryd.prog 46 #[mp W H tv bv] w fun e w' => e = .returned (.int .i64 c) ∧ Below w.heap.size w w' := by subst h; exact refcheck_any W H tv bv tl L w hv hb hl
theorem append_nil33 (w : World) (ty : TypeId) : (Builtin.append_ #[32, 32] ty #[.slice none 0 0, .slice none 0 0]).run Tryd.prog w = .ok (.slice none 0 0) w := by kernel_rfl
theorem append_nil34 (w : World) (ty : TypeId) : (Builtin.append_ #[33, 33] ty #[.slice none 0 0, .slice none 0 0]).run Tryd.prog w = .ok (.slice none 0 0) w := by kernel_rfl
theorem below_of_grown0 {W W' : World} (h : W.grownBy W' none) : Below W.heap.size W W' := ⟨h.os, h.tape, h.output, h.size, fun k hk => h.block k hk (by simp)⟩
theorem TlR.cellsAt {w : World} {a : Option Addr} {l : List Nat} {cap : Nat} (h : TlR w (.slice a l.length cap) l) : ∀ ad, a = some ad → ∀ j u, (l.map (fun n => Value.int .u8 (n : Nat)))[j]? = some u → w.cell? (ad.add j) = some u := fun ad ha j u hu => by
  obtain ⟨a', cap', e, -, -, -, hat⟩ := h
  injection e with e1
  subst e1
  rw [List.getElem?_map] at hu
  cases hx : l[j]? with
  | none => rw [hx] at hu; cases hu
  | some x =>
    rw [hx] at hu
    cases hu
    obtain ⟨g, o, e1, e2, e3⟩ := hat j x hx
    rw [ha] at e1
    cases e1
    rw [Addr.add_lit]
    exact e3
theorem BdR.cellsAt {w : World} {a : Option Addr} {l : List Bd} {cap : Nat} (h : BdR w (.slice a l.length cap) l) : ∀ ad, a = some ad → ∀ j u, (l.flatMap Bd.cs)[j]? = some u → w.cell? (ad.add j) = some u := fun ad ha j u hu => by
  obtain ⟨a', cap', e, -, -, -, hat⟩ := h
  injection e with e1
  subst e1
  have hj : j < l.length * 5 := by have := (List.getElem?_eq_some_iff.1 hu).1; rwa [cs_len] at this
  obtain ⟨t, ht⟩ : ∃ t, l[j / 5]? = some t := ⟨_, List.getElem?_eq_getElem (by omega)⟩
  have hg := cs_get l (j / 5) t (j % 5) ht (by omega)
  rw [show j / 5 * 5 + j % 5 = j by omega] at hg
  rw [hg] at hu
  obtain ⟨g, o, e1, e2, c0, c1, c2, c3, c4⟩ := hat (j / 5) t ht
  rw [ha] at e1
  cases e1
  rw [Addr.add_lit]
  have hm : j % 5 < 5 := by omega
  have hj5 : o + j = o + j / 5 * 5 + j % 5 := by omega
  rw [hj5]
  match hq : j % 5, hm with
  | 0, _ => rw [hq] at hu; cases hu; simpa using c0
  | 1, _ => rw [hq] at hu; cases hu; exact c1
  | 2, _ => rw [hq] at hu; cases hu; exact c2
  | 3, _ => rw [hq] at hu; cases hu; exact c3
  | 4, _ => rw [hq] at hu; cases hu; exact c4
/-- append onto nothing: a row of its own. -/
theorem append_row (w : World) (t ty e : TypeId) (i : TypeInfo) (z : Value) (size bytes : Nat) (ht : Tryd.prog.underlying t = some (.slice e)) (hi : Tryd.prog.info? e = some i) (hz : i.zero = some z)
    (hsize : i.size = size) (hby : i.bytes = bytes) (hzs : z.cells.size = size) (hsz : 0 < size) (hnil : (Builtin.append_ #[t, t] ty #[.slice none 0 0, .slice none 0 0]).run Tryd.prog w = .ok (.slice none 0 0) w)
    (src : Option Addr) (c n : Nat) (xs : List Value) (hlen : xs.length = n * size) (h0 : src = none → n = 0 ∧ c = 0) (h : ∀ ad, src = some ad → ∀ j u, xs[j]? = some u → w.cell? (ad.add j) = some u) (hone : ∀ u ∈ xs, u.oneCell' = true) (h63 : n ≤ maxLen) (hbytes : n * bytes ≤ 140737488355328) :
    ∃ a cap w', (Builtin.append_ #[t, t] ty #[.slice none 0 0, .slice src n c]).run Tryd.prog w = .ok (.slice a n cap) w' ∧ w'.ownsRow 0 e size (.slice a n cap) n xs ∧ Below w.heap.size w w' ∧ ∀ b, (Value.slice a n cap).ownBlock = some b → w.heap.size ≤ b := by
  cases src with
  | none =>
    obtain ⟨rfl, rfl⟩ := h0 rfl
    rw [Nat.zero_mul] at hlen
    obtain rfl := List.eq_nil_of_length_eq_zero hlen
    exact ⟨none, 0, w, hnil, World.ownsRow_nil _ _ _ _, Below.refl _ _, fun b h => by simp [Value.ownBlock] at h⟩
  | some ad =>
    obtain ⟨v', w', hr, h2, h3, h4, h6⟩ := run_append_own_at (P := Tryd.prog) w 0 t ty e i z size bytes ht hi hz hsize hby hzs hsz (.slice none 0 0) 0 [] (World.ownsRow_nil _ _ _ _) ad n c xs hlen (h ad rfl) hone (by omega) (by rw [Nat.zero_add]; exact hbytes) (Nat.zero_le _)
    rw [Nat.zero_add, List.nil_append] at h2
    have hB : Below w.heap.size w w' := below_of_grown0 h3
    have hown : ∀ b, v'.ownBlock = some b → w.heap.size ≤ b := fun b hb => by
      rcases h6 with h | h
      · rw [h] at hb; cases hb
      · rw [h] at hb; cases hb; exact Nat.le_refl _
    rcases h2.2 with ⟨rfl, h0⟩ | ⟨g', cap', cur', rfl, _⟩
    · subst h0; exact ⟨none, 0, w', hr, h2, hB, hown⟩
    · exact ⟨_, _, w', hr, h2, hB, hown⟩
theorem Rd.set2 {w : World} {r : Nat} {W H : Int} {tv bv ev : Value} (h : Rd w r W H tv bv ev) (v : Value) : Rd (w.setCell ⟨r, 2, none⟩ v) r W H v bv ev := by
  have h' : w.heap[r]? = _ := h
  have hlt := h.lt
  unfold Rd
  simp [World.setCell, Array.getElem?_modify, h']
/-- What the document's New leaves. -/
def RefMade (w : World) (W H : Int) (tl : List Nat) (L : List Bd) (r : Nat) (w' : World) : Prop :=
  ∃ tv bv, Rd w' r W H tv bv (.slice none 0 0) ∧ Tls w' tv tl ∧ Bds w' bv L ∧ Below w.heap.size w w' ∧ (w.heap.size ≤ r ∧ (∀ b, tv.ownBlock = some b → w.heap.size ≤ b) ∧ ∀ b, bv.ownBlock = some b → w.heap.size ≤ b)
set_option maxHeartbeats 1000000 in
theorem refnew_bad (W H : Int) (tv bv : Value) (tl : List Nat) (L : List Bd) (w : World) (hv : TlR w tv tl) (hb : ∀ x ∈ tl, x < 256) (hl : BdR w bv L) (hc : chkC W H tl L = 1) :
    Calls Tryd.prog 31 #[mp W H tv bv] w fun e w' => e = .returned (.tuple #[.pointer none, .int .i64 1]) ∧ Below w.heap.size w w' := by
  have B0 : Below w.heap.size w (w.alloc (.cells #[.int .i64 W, .int .i64 H, tv, bv] 35)) := box1 _ _
  have HC := hide (refcheck_is (hv.kept B0) hb (hl.kept B0) hc)
  obtain ⟨a1, cap1, rfl, -⟩ := hv
  obtain ⟨a2, cap2, rfl, -⟩ := hl
  clear hc
  go_enter Tryd.func31, Tryd.ntmps31
  go_wp2_with (go_at_call 46; refine HC.out.mono ?_; rintro e w1 ⟨rfl, hb1⟩)
  go_ret2
  exact ⟨rfl, bt B0 hb1⟩
set_option maxRecDepth 100000 in
set_option maxHeartbeats 4000000 in
theorem refnew_good (W H : Int) (tv bv : Value) (tl : List Nat) (L : List Bd) (w : World) (hv : TlR w tv tl) (hb : ∀ x ∈ tl, x < 256) (hl : BdR w bv L) (hc : chkC W H tl L = 0) :
    Calls Tryd.prog 31 #[mp W H tv bv] w fun e w' => ∃ r, e = .returned (.tuple #[ptr r, .int .i64 0]) ∧ RefMade w W H tl L r w' := by
  have hsz : tl.length ≤ 16384 ∧ L.length ≤ 256 := by
    unfold chkC at hc
    split at hc
    · rename_i h
      simp only [Bool.and_eq_true, decide_eq_true_eq] at h
      have hm := h.1
      simp only [mt, Bool.and_eq_true, decide_eq_true_eq] at hm
      have := area hm.1 hm.2.1
      exact ⟨by omega, h.2.1⟩
    · cases hc
  obtain ⟨X, hX⟩ : ∃ X, w.alloc (.cells #[.int .i64 W, .int .i64 H, tv, bv] 35) = X := ⟨_, rfl⟩
  have B0 : Below w.heap.size w X := hX ▸ box1 _ _
  have zX : X.heap.size = w.heap.size + 1 := by rw [← hX]; simp
  have T0 : Turns NoB w X := Turns.of_below B0
  have HBox : X.heap[w.heap.size]? = some (.cells #[.int .i64 W, .int .i64 H, tv, bv] 35 (0, 0)) := hX ▸ heap_alloc_new w _
  have key : ∀ n : Lat X, TlR n.w tv tl ∧ BdR n.w bv L ∧ n.w.heap[w.heap.size]? = some (.cells #[.int .i64 W, .int .i64 H, tv, bv] 35 (0, 0)) := fun n => by
    have T : Turns NoB X n.w := Turns.of_below n.h
    exact ⟨(hv.kept B0).kept n.h, (hl.kept B0).kept n.h, T.same id HBox⟩
  have HK := hide key
  have HC := hide (refcheck_is (key ⟨X, Below.refl _ _⟩).1 hb (key ⟨X, Below.refl _ _⟩).2.1 hc)
  simp only at HC
  have hvf := hv
  have hlf := hl
  obtain ⟨a1, cap1, rfl, -, -, h01, -⟩ := hvf
  obtain ⟨a2, cap2, rfl, -, -, h02, -⟩ := hlf
  clear hv hl hc T0 HBox key
  go_enter Tryd.func31, Tryd.ntmps31
  have KX := (HK.out ⟨X, Below.refl _ _⟩).2.2
  have s0 : X.cell? ⟨w.heap.size, 0, none⟩ = some (.int .i64 W) := cell_of_row X _ 0 _ _ _ KX
  have s1 : X.cell? ⟨w.heap.size, 1, none⟩ = some (.int .i64 H) := cell_of_row X _ 1 _ _ _ KX
  have s2 : X.cell? ⟨w.heap.size, 2, none⟩ = some (.slice a1 tl.length cap1) := cell_of_row X _ 2 _ _ _ KX
  have s3 : X.cell? ⟨w.heap.size, 3, none⟩ = some (.slice a2 L.length cap2) := cell_of_row X _ 3 _ _ _ KX
  clear KX
  go_wp2_with fail
  refine HC.out.mono ?_
  rintro e w1 ⟨rfl, hb1⟩
  clear HC s0 s1 s2 s3
  have K1 := (HK.out ⟨w1, hb1⟩).2.2
  have m0 : w1.cell? ⟨w.heap.size, 0, none⟩ = some (.int .i64 W) := cell_of_row w1 _ 0 _ _ _ K1
  have m1 : w1.cell? ⟨w.heap.size, 1, none⟩ = some (.int .i64 H) := cell_of_row w1 _ 1 _ _ _ K1
  clear hX K1
  go_wp2_with fail
  clear m0 m1
  have BY : Below w1.heap.size w1 (w1.alloc (.cells #[.int .i64 W, .int .i64 H, .slice none 0 0, .slice none 0 0, .slice none 0 0] 86)) := box1 _ _
  have RY : Rd (w1.alloc (.cells #[.int .i64 W, .int .i64 H, .slice none 0 0, .slice none 0 0, .slice none 0 0] 86)) w1.heap.size W H (.slice none 0 0) (.slice none 0 0) (.slice none 0 0) := heap_alloc_new w1 _
  obtain ⟨Y, hY⟩ : ∃ Y, w1.alloc (.cells #[.int .i64 W, .int .i64 H, .slice none 0 0, .slice none 0 0, .slice none 0 0] 86) = Y := ⟨_, rfl⟩
  have zY : Y.heap.size = w1.heap.size + 1 := by rw [← hY]; simp
  rw [hY] at BY RY ⊢
  clear hY
  obtain ⟨r, hr⟩ : ∃ r, w1.heap.size = r := ⟨_, rfl⟩
  have z1 := hb1.size
  rw [hr] at RY zY z1 ⊢
  have BXY : Below X.heap.size X Y := bt hb1 BY
  have KY := HK.out ⟨Y, BXY⟩
  simp only at KY
  obtain ⟨f5, hf5, hz5, hs5, hb5⟩ := info_parts info5
  obtain ⟨f92, hf92, hz92, hs92, hb92⟩ := info_parts info55
  obtain ⟨a3, cap3, w3, hrun3, hown3, hB3, hfr3⟩ := append_row Y.drew 32 32 5 f5 (.int .u8 0) 1 1 Tryd.underlying32 hf5 hz5 hs5 hb5 rfl (by decide) (append_nil33 _ _) a1 cap1 tl.length _ (by simp) h01 (KY.1.cellsAt) one_tl (by unfold maxLen; omega) (by omega)
  have B3 : Below Y.heap.size Y w3 := below_undrew hB3
  have R3 := RY.kept (Turns.of_below (S := NoB) B3) id
  have TS3 : Turns (fun j => j = r) w3 (w3.setCell ⟨r, 2, none⟩ (.slice a3 tl.length cap3)) := Turns.set (S := fun j => j = r) w3 (p := ⟨r, 2, none⟩) rfl _
  have B4 : Below X.heap.size X (w3.setCell ⟨r, 2, none⟩ (.slice a3 tl.length cap3)) := (bt BXY B3).setCell (p := ⟨r, 2, none⟩) (by simp; omega) _
  have HB4 := hide B4
  have m2Y : Y.cell? ⟨w.heap.size, 2, none⟩ = some (.slice a1 tl.length cap1) := cell_of_row Y _ 2 _ _ _ KY.2.2
  have m2_3 : w3.cell? ⟨w.heap.size, 2, none⟩ = some (.slice a1 tl.length cap1) := (B3.cell (p := ⟨w.heap.size, 2, none⟩) (by simp; omega)).trans m2Y
  have m2_4 : (w3.setCell ⟨r, 2, none⟩ (.slice a3 tl.length cap3)).cell? ⟨w.heap.size, 2, none⟩ = some (.slice a1 tl.length cap1) := (B4.cell (p := ⟨w.heap.size, 2, none⟩) (by simp; omega)).trans (cell_of_row X _ 2 _ _ _ (HK.out ⟨X, Below.refl _ _⟩).2.2)
  have y2 : Y.cell? ⟨r, 2, none⟩ = some (.slice none 0 0) := RY.c 2
  have x2 : w3.cell? ⟨r, 2, none⟩ = some (.slice none 0 0) := R3.c 2
  have q2 := R3.f 2
  have HR3 := hide R3
  have HO3 := hide hown3
  have HF3 := hide hfr3
  clear hown3 hfr3 R3 KY hb
  refine Code.wp_mono (Q := Only (fun a' w' => w' = w3.setCell ⟨r, 2, none⟩ (.slice a3 tl.length cap3) ∧ a' = { tmps := #[mp W H (.slice a1 tl.length cap1) (.slice a2 L.length cap2), ptr w.heap.size, .pointer none, .int .i64 0, ptr r, mp W H (.slice a1 tl.length cap1) (.slice a2 L.length cap2), .int .i64 0, .bool false, .pointer (some ⟨w.heap.size, 0, none⟩), .int .i64 W, .pointer (some ⟨w.heap.size, 1, none⟩), .int .i64 H, .agg #[.int .i64 W, .int .i64 H, .slice none 0 0, .slice none 0 0, .slice none 0 0], ptr r, ptr r, ptr r, ptr r, .pointer (some ⟨r, 2, none⟩), .slice none 0 0, .pointer (some ⟨w.heap.size, 2, none⟩), .slice a1 tl.length cap1, .slice a3 tl.length cap3, ptr r, .pointer (some ⟨r, 2, none⟩), undef, undef, undef, undef, undef, undef, undef, undef, undef, undef, undef], defers := [] })) ?rest ?_
  case rest =>
    rintro (_ | _ | _ | _ | _) a' w' hO
    all_goals first | exact hO.elim | skip
    obtain ⟨rfl, rfl⟩ := hO
    have R4 := HR3.out.set2 (.slice a3 tl.length cap3)
    have hne3 : (Value.slice a3 tl.length cap3).ownBlock ≠ some r := fun h => by have := HF3.out r h; simp at this; omega
    have T4 : Tls (w3.setCell ⟨r, 2, none⟩ (.slice a3 tl.length cap3)) (.slice a3 tl.length cap3) tl := Tls.kept (show Tls w3 (.slice a3 tl.length cap3) tl from HO3.out) TS3 (fun k e h => hne3 (h ▸ e))
    clear m2Y m2_3 m2_4 y2 x2 q2 HR3 HO3 hrun3
    obtain ⟨w4, hw4⟩ : ∃ w4, w3.setCell ⟨r, 2, none⟩ (.slice a3 tl.length cap3) = w4 := ⟨_, rfl⟩
    have z4 : Y.heap.size ≤ w4.heap.size := by rw [← hw4]; have := B3.size; simpa using this
    rw [hw4] at R4 T4 HB4 B4 ⊢
    clear hw4 TS3
    have K4 := HK.out ⟨w4, HB4.out⟩
    simp only at K4
    obtain ⟨a5, cap5, w5, hrun5, hown5, hB5, hfr5⟩ := append_row w4.drew 33 33 78 f92 z55 5 40 Tryd.underlying33 hf92 hz92 hs92 hb92 rfl (by decide) (append_nil34 _ _) a2 cap2 L.length _ (cs_len L) h02 (K4.2.1.cellsAt) one_all (by unfold maxLen; omega) (by omega)
    have B5 : Below w4.heap.size w4 w5 := below_undrew hB5
    have R5 := R4.kept (Turns.of_below (S := NoB) B5) id
    have TS5 : Turns (fun j => j = r) w5 (w5.setCell ⟨r, 3, none⟩ (.slice a5 L.length cap5)) := Turns.set (S := fun j => j = r) w5 (p := ⟨r, 3, none⟩) rfl _
    have B6 : Below X.heap.size X (w5.setCell ⟨r, 3, none⟩ (.slice a5 L.length cap5)) := (bt HB4.out B5).setCell (p := ⟨r, 3, none⟩) (by simp; omega) _
    have m3_4 : w4.cell? ⟨w.heap.size, 3, none⟩ = some (.slice a2 L.length cap2) := cell_of_row w4 _ 3 _ _ _ K4.2.2
    have m3_5 : w5.cell? ⟨w.heap.size, 3, none⟩ = some (.slice a2 L.length cap2) := (B5.cell (p := ⟨w.heap.size, 3, none⟩) (by simp; omega)).trans m3_4
    have m3_6 : (w5.setCell ⟨r, 3, none⟩ (.slice a5 L.length cap5)).cell? ⟨w.heap.size, 3, none⟩ = some (.slice a2 L.length cap2) := (B6.cell (p := ⟨w.heap.size, 3, none⟩) (by simp; omega)).trans (cell_of_row X _ 3 _ _ _ (HK.out ⟨X, Below.refl _ _⟩).2.2)
    have y3 : w4.cell? ⟨r, 3, none⟩ = some (.slice none 0 0) := R4.c 3
    have x3 : w5.cell? ⟨r, 3, none⟩ = some (.slice none 0 0) := R5.c 3
    have q3 := R5.f 3
    have hEnd : RefMade w W H tl L r (w5.setCell ⟨r, 3, none⟩ (.slice a5 L.length cap5)) := by
      have hne5 : (Value.slice a5 L.length cap5).ownBlock ≠ some r := fun h => by have := hfr5 r h; simp at this; omega
      refine ⟨_, _, R5.set3 _, (T4.kept (Turns.of_below (S := NoB) B5) (fun _ _ => id)).kept TS5 (fun k e h => hne3 (h ▸ e)), Bds.kept (show Bds w5 (.slice a5 L.length cap5) L from hown5) TS5 (fun k e h => hne5 (h ▸ e)), bt B0 B6, by omega, fun b e => ?_, fun b e => ?_⟩
      · have := HF3.out b e; simp at this; omega
      · have := hfr5 b e; simp at this; omega
    have HE := hide hEnd
    clear hEnd R4 T4 R5 TS5 hown5 hfr5 K4 HF3 HK
    go_wp2_with fail
    refine Code.wp_mono (Q := Only (fun a' w' => w' = w5.setCell ⟨r, 3, none⟩ (.slice a5 L.length cap5) ∧ a' = { tmps := #[mp W H (.slice a1 tl.length cap1) (.slice a2 L.length cap2), ptr w.heap.size, .pointer none, .int .i64 0, ptr r, mp W H (.slice a1 tl.length cap1) (.slice a2 L.length cap2), .int .i64 0, .bool false, .pointer (some ⟨w.heap.size, 0, none⟩), .int .i64 W, .pointer (some ⟨w.heap.size, 1, none⟩), .int .i64 H, .agg #[.int .i64 W, .int .i64 H, .slice none 0 0, .slice none 0 0, .slice none 0 0], ptr r, ptr r, ptr r, ptr r, .pointer (some ⟨r, 2, none⟩), .slice none 0 0, .pointer (some ⟨w.heap.size, 2, none⟩), .slice a1 tl.length cap1, .slice a3 tl.length cap3, ptr r, .pointer (some ⟨r, 2, none⟩), ptr r, ptr r, ptr r, .pointer (some ⟨r, 3, none⟩), .slice none 0 0, .pointer (some ⟨w.heap.size, 3, none⟩), .slice a2 L.length cap2, .slice a5 L.length cap5, ptr r, .pointer (some ⟨r, 3, none⟩), undef], defers := [] })) ?rest2 ?_
    case rest2 =>
      rintro (_ | _ | _ | _ | _) a' w' hO
      all_goals first | exact hO.elim | skip
      obtain ⟨rfl, rfl⟩ := hO
      clear m3_4 m3_5 m3_6 y3 x3 q3 hrun5
      go_wp2_with fail
      go_ret2
      exact ⟨r, rfl, HE.out⟩
    refine wp_region_held_drew (S := fun w' => w'.cell? ⟨w.heap.size, 3, none⟩ = some (.slice a2 L.length cap2)) (by kernel_rfl) m3_4 (fun hHeld => ?_)
    refine wpAnyH_take (i := 0) (v := ?_) rfl (by kernel_rfl) (by kernel_rfl) (by kernel_rfl) (fun _ _ _ h => h.elim) (Or.inl ⟨by rfl, ?_⟩) (by assumption) ?_
    rotate_left
    · intro wx hSw
      try dsimp only at hSw
      go_simp
      try with_reducible rfl
    try simp only [Act.put, List.getElem_toArray, List.getElem_cons_zero, List.setIfInBounds_toArray, List.set_cons_zero, List.set_cons_succ]
    refine wpAnyH_take (i := 1) (v := ?_) rfl (by kernel_rfl) (by kernel_rfl) (by kernel_rfl) (fun _ _ _ h => h.elim) (Or.inl ⟨by rfl, ?_⟩) (by assumption) ?_
    rotate_left
    · intro wx hSw
      try dsimp only at hSw
      go_simp
      try with_reducible rfl
    try simp only [Act.put, List.getElem_toArray, List.getElem_cons_zero, List.getElem_cons_succ, List.setIfInBounds_toArray, List.set_cons_zero, List.set_cons_succ]
    refine wpAnyH_take (i := 2) (v := ?_) rfl (by kernel_rfl) (by kernel_rfl) (by kernel_rfl) (fun _ _ _ h => h.elim) (Or.inl ⟨by rfl, ?_⟩) (by assumption) ?_
    rotate_left
    · intro wx hSw
      try dsimp only at hSw
      go_simp
      try with_reducible rfl
    try simp only [Act.put, List.getElem_toArray, List.getElem_cons_zero, List.getElem_cons_succ, List.setIfInBounds_toArray, List.set_cons_zero, List.set_cons_succ]
    refine wpAnyH_take (i := 3) (v := ?_) rfl (by kernel_rfl) (by kernel_rfl) (by kernel_rfl) (fun _ _ _ h => h.elim) (Or.inl ⟨by rfl, ?_⟩) (by assumption) ?_
    rotate_left
    · intro wx hSw
      try dsimp only at hSw
      go_simp
      try with_reducible rfl
    try simp only [Act.put, List.getElem_toArray, List.getElem_cons_zero, List.getElem_cons_succ, List.setIfInBounds_toArray, List.set_cons_zero, List.set_cons_succ]
    refine wpAnyH_take (i := 5) (v := ?_) rfl (by kernel_rfl) (by kernel_rfl) (by kernel_rfl) (fun _ _ _ h => h.elim) (Or.inl ⟨by rfl, ?_⟩) (by assumption) ?_
    rotate_left
    · intro wx hSw
      try dsimp only at hSw
      go_simp
      try with_reducible rfl
    try simp only [Act.put, List.getElem_toArray, List.getElem_cons_zero, List.getElem_cons_succ, List.setIfInBounds_toArray, List.set_cons_zero, List.set_cons_succ]
    refine wpAnyH_take (i := 6) (v := ?_) rfl (by kernel_rfl) (by kernel_rfl) (by kernel_rfl) (fun _ _ _ h => h.elim) (Or.inl ⟨by rfl, ?_⟩) (by assumption) ?_
    rotate_left
    · intro wx hSw
      try dsimp only at hSw
      go_simp
      try with_reducible rfl
    try simp only [Act.put, List.getElem_toArray, List.getElem_cons_zero, List.getElem_cons_succ, List.setIfInBounds_toArray, List.set_cons_zero, List.set_cons_succ]
    refine wpAnyH_ready (rs := [4]) (by kernel_rfl) (by simp) ?_
    refine AllReadyH.cons rfl (fun K hK => ?_) ?_
    · go_simp
      refine hK.out _ _ ?_ (fun hHeld => ?_)
      · first | exact m3_4 | exact m3_5 | exact m3_6
      clear hK K
      try simp only [Act.put, List.getElem_toArray, List.getElem_cons_zero, List.getElem_cons_succ, List.setIfInBounds_toArray, List.set_cons_zero, List.set_cons_succ]
      refine wpAnyH_ready (rs := [7]) (by kernel_rfl) (by simp) ?_
      refine AllReadyH.cons rfl (fun K hK => ?_) ?_
      · refine step_append_eq rfl _ _ 33 33 rfl (by simp [Act.eval]) (by simp [Act.eval]) hrun5 ?_
        refine hK.out _ _ ?_ (fun hHeld => ?_)
        · first | exact m3_4 | exact m3_5 | exact m3_6
        clear hK K
        try simp only [Act.put, List.getElem_toArray, List.getElem_cons_zero, List.getElem_cons_succ, List.setIfInBounds_toArray, List.set_cons_zero, List.set_cons_succ]
        refine wpAnyH_take (i := 8) (v := ?_) rfl (by kernel_rfl) (by kernel_rfl) (by kernel_rfl) (fun _ _ _ h => h.elim) (Or.inl ⟨by rfl, ?_⟩) (by assumption) ?_
        rotate_left
        · intro wx hSw
          try dsimp only at hSw
          go_simp
          try with_reducible rfl
        try simp only [Act.put, List.getElem_toArray, List.getElem_cons_zero, List.getElem_cons_succ, List.setIfInBounds_toArray, List.set_cons_zero, List.set_cons_succ]
        refine wpAnyH_take (i := 9) (v := ?_) rfl (by kernel_rfl) (by kernel_rfl) (by kernel_rfl) (fun _ _ _ h => h.elim) (Or.inl ⟨by rfl, ?_⟩) (by assumption) ?_
        rotate_left
        · intro wx hSw
          try dsimp only at hSw
          go_simp
          try with_reducible rfl
        try simp only [Act.put, List.getElem_toArray, List.getElem_cons_zero, List.getElem_cons_succ, List.setIfInBounds_toArray, List.set_cons_zero, List.set_cons_succ]
        refine wpAnyH_ready (rs := [10]) (by kernel_rfl) (by simp) ?_
        refine AllReadyH.cons rfl (fun K hK => ?_) ?_
        · go_simp
          refine hK.out _ _ ?_ (fun hHeld => ?_)
          · first | exact m3_4 | exact m3_5 | exact m3_6
          clear hK K
          try simp only [Act.put, List.getElem_toArray, List.getElem_cons_zero, List.getElem_cons_succ, List.setIfInBounds_toArray, List.set_cons_zero, List.set_cons_succ]
          refine wpAnyH_done (by kernel_rfl) ?_ _
          exact ⟨rfl, rfl⟩
        exact AllReadyH.nil
      exact AllReadyH.nil
    exact AllReadyH.nil
  refine wp_region_held_drew (S := fun w' => w'.cell? ⟨w.heap.size, 2, none⟩ = some (.slice a1 tl.length cap1)) (by kernel_rfl) m2Y (fun hHeld => ?_)
  refine wpAnyH_take (i := 0) (v := ?_) rfl (by kernel_rfl) (by kernel_rfl) (by kernel_rfl) (fun _ _ _ h => h.elim) (Or.inl ⟨by rfl, ?_⟩) (by assumption) ?_
  rotate_left
  · intro wx hSw
    try dsimp only at hSw
    go_simp
    try with_reducible rfl
  try simp only [Act.put, List.getElem_toArray, List.getElem_cons_zero, List.setIfInBounds_toArray, List.set_cons_zero, List.set_cons_succ]
  refine wpAnyH_take (i := 1) (v := ?_) rfl (by kernel_rfl) (by kernel_rfl) (by kernel_rfl) (fun _ _ _ h => h.elim) (Or.inl ⟨by rfl, ?_⟩) (by assumption) ?_
  rotate_left
  · intro wx hSw
    try dsimp only at hSw
    go_simp
    try with_reducible rfl
  try simp only [Act.put, List.getElem_toArray, List.getElem_cons_zero, List.getElem_cons_succ, List.setIfInBounds_toArray, List.set_cons_zero, List.set_cons_succ]
  refine wpAnyH_take (i := 2) (v := ?_) rfl (by kernel_rfl) (by kernel_rfl) (by kernel_rfl) (fun _ _ _ h => h.elim) (Or.inl ⟨by rfl, ?_⟩) (by assumption) ?_
  rotate_left
  · intro wx hSw
    try dsimp only at hSw
    go_simp
    try with_reducible rfl
  try simp only [Act.put, List.getElem_toArray, List.getElem_cons_zero, List.getElem_cons_succ, List.setIfInBounds_toArray, List.set_cons_zero, List.set_cons_succ]
  refine wpAnyH_take (i := 3) (v := ?_) rfl (by kernel_rfl) (by kernel_rfl) (by kernel_rfl) (fun _ _ _ h => h.elim) (Or.inl ⟨by rfl, ?_⟩) (by assumption) ?_
  rotate_left
  · intro wx hSw
    try dsimp only at hSw
    go_simp
    try with_reducible rfl
  try simp only [Act.put, List.getElem_toArray, List.getElem_cons_zero, List.getElem_cons_succ, List.setIfInBounds_toArray, List.set_cons_zero, List.set_cons_succ]
  refine wpAnyH_take (i := 5) (v := ?_) rfl (by kernel_rfl) (by kernel_rfl) (by kernel_rfl) (fun _ _ _ h => h.elim) (Or.inl ⟨by rfl, ?_⟩) (by assumption) ?_
  rotate_left
  · intro wx hSw
    try dsimp only at hSw
    go_simp
    try with_reducible rfl
  try simp only [Act.put, List.getElem_toArray, List.getElem_cons_zero, List.getElem_cons_succ, List.setIfInBounds_toArray, List.set_cons_zero, List.set_cons_succ]
  refine wpAnyH_take (i := 6) (v := ?_) rfl (by kernel_rfl) (by kernel_rfl) (by kernel_rfl) (fun _ _ _ h => h.elim) (Or.inl ⟨by rfl, ?_⟩) (by assumption) ?_
  rotate_left
  · intro wx hSw
    try dsimp only at hSw
    go_simp
    try with_reducible rfl
  try simp only [Act.put, List.getElem_toArray, List.getElem_cons_zero, List.getElem_cons_succ, List.setIfInBounds_toArray, List.set_cons_zero, List.set_cons_succ]
  refine wpAnyH_ready (rs := [4]) (by kernel_rfl) (by simp) ?_
  refine AllReadyH.cons rfl (fun K hK => ?_) ?_
  · go_simp
    refine hK.out _ _ ?_ (fun hHeld => ?_)
    · first | exact m2Y | exact m2_3 | exact m2_4
    clear hK K
    try simp only [Act.put, List.getElem_toArray, List.getElem_cons_zero, List.getElem_cons_succ, List.setIfInBounds_toArray, List.set_cons_zero, List.set_cons_succ]
    refine wpAnyH_ready (rs := [7]) (by kernel_rfl) (by simp) ?_
    refine AllReadyH.cons rfl (fun K hK => ?_) ?_
    · refine step_append_eq rfl _ _ 32 32 rfl (by simp [Act.eval]) (by simp [Act.eval]) hrun3 ?_
      refine hK.out _ _ ?_ (fun hHeld => ?_)
      · first | exact m2Y | exact m2_3 | exact m2_4
      clear hK K
      try simp only [Act.put, List.getElem_toArray, List.getElem_cons_zero, List.getElem_cons_succ, List.setIfInBounds_toArray, List.set_cons_zero, List.set_cons_succ]
      refine wpAnyH_take (i := 8) (v := ?_) rfl (by kernel_rfl) (by kernel_rfl) (by kernel_rfl) (fun _ _ _ h => h.elim) (Or.inl ⟨by rfl, ?_⟩) (by assumption) ?_
      rotate_left
      · intro wx hSw
        try dsimp only at hSw
        go_simp
        try with_reducible rfl
      try simp only [Act.put, List.getElem_toArray, List.getElem_cons_zero, List.getElem_cons_succ, List.setIfInBounds_toArray, List.set_cons_zero, List.set_cons_succ]
      refine wpAnyH_take (i := 9) (v := ?_) rfl (by kernel_rfl) (by kernel_rfl) (by kernel_rfl) (fun _ _ _ h => h.elim) (Or.inl ⟨by rfl, ?_⟩) (by assumption) ?_
      rotate_left
      · intro wx hSw
        try dsimp only at hSw
        go_simp
        try with_reducible rfl
      try simp only [Act.put, List.getElem_toArray, List.getElem_cons_zero, List.getElem_cons_succ, List.setIfInBounds_toArray, List.set_cons_zero, List.set_cons_succ]
      refine wpAnyH_ready (rs := [10]) (by kernel_rfl) (by simp) ?_
      refine AllReadyH.cons rfl (fun K hK => ?_) ?_
      · go_simp
        refine hK.out _ _ ?_ (fun hHeld => ?_)
        · first | exact m2Y | exact m2_3 | exact m2_4
        clear hK K
        try simp only [Act.put, List.getElem_toArray, List.getElem_cons_zero, List.getElem_cons_succ, List.setIfInBounds_toArray, List.set_cons_zero, List.set_cons_succ]
        refine wpAnyH_done (by kernel_rfl) ?_ _
        exact ⟨rfl, rfl⟩
      exact AllReadyH.nil
    exact AllReadyH.nil
  exact AllReadyH.nil
end Go.Proofs.YtekpamilcpeanaaDoor
