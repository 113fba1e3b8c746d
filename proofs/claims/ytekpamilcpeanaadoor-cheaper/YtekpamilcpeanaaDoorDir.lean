/-
  The program's Dir. The program's Legal.
-/
import Derived.Test.YtekpamilcpeanaaDoorRPath
namespace Go.Proofs.YtekpamilcpeanaaDoor
open Go.RowKit
set_option linter.unusedVariables false
set_option linter.unusedSimpArgs false
set_option maxHeartbeats 1000000 in
theorem dir_any (x y tx ty : Int) (w : World) (ho : Offs w) :
    Calls Tryd.prog 38 #[.agg #[.int .i64 x, .int .i64 y], .agg #[.int .i64 tx, .int .i64 ty]] w fun e w' => e = .returned (.int .i64 (dirN x y tx ty)) ∧ Below w.heap.size w w' := by
  have Ho := hide ho
  clear ho
  go_enter Tryd.func38, Tryd.ntmps38
  go_wp2_with fail
  go_loopw [8] (fun i wr => ∃ k : Nat, k ≤ 8 ∧ i = .int .i64 k ∧ Hid (dirN x y tx ty = dirF (hitD x y tx ty) k (8 - k)) ∧ Below (W2 w x y tx ty).heap.size (W2 w x y tx ty) wr) (fun i _ => (8 - intOf i).toNat)
  case atStart => exact ⟨0, by omega, rfl, rfl, Below.refl _ _⟩
  case round =>
    obtain ⟨k, hk, rfl, hd, hb⟩ := hrel
    obtain ⟨⟨c0, c1⟩, _, z0⟩ := cells2' hb
    obtain ⟨⟨e0, e1⟩, ⟨f0, f1⟩, z1⟩ := cells2'' hb
    have HB := hide (bt (box2 w _ _) hb)
    have Hb := hide hb
    have Hor := hide (Offs.kept Ho.out HB.out)
    clear hb
    by_cases hlt : k < 8
    · cases hs : sB x y k
      · have hh := hide (dirF_miss (f := hitD x y tx ty) hlt (by simp [hitD, hs]))
        go_wp2_with (go_at_call 57; refine (step_any _ _ _ _ Hor.out).mono ?_; rintro e w1 ⟨rfl, hb1⟩; obtain ⟨⟨e2, e3⟩, f2, f3⟩ := Below.two hb1 z1 e0 e1 f0 f1; have z2 := Nat.lt_of_lt_of_le z1 hb1.size; have Hb1 := hide hb1; clear hb1)
        go_roundw
        case rel => exact ⟨k + 1, by omega, by go_num, hd.out.trans hh.out, (Hb.out.trans (Hb1.out.mono Hb.out.size)).alloc (by have := Hb.out.size; have := Hb1.out.size; omega) _⟩
        case measure => simp [intOf]; omega
      · by_cases hx : sX x y k = tx
        · by_cases hy : sY x y k = ty
          · have hh := hide (dirF_hit (f := hitD x y tx ty) hlt (by simp [hitD, hs, hx, hy]))
            go_wp2_with (go_at_call 57; refine (step_any _ _ _ _ Hor.out).mono ?_; rintro e w1 ⟨rfl, hb1⟩; obtain ⟨⟨e2, e3⟩, f2, f3⟩ := Below.two hb1 z1 e0 e1 f0 f1; have z2 := Nat.lt_of_lt_of_le z1 hb1.size; have Hb1 := hide hb1; clear hb1)
            go_ret
            exact ⟨ret_int (hd.out.trans hh.out).symm, bt (bt HB.out Hb1.out) (box1 _ _)⟩
          · have hh := hide (dirF_miss (f := hitD x y tx ty) hlt (by simp [hitD, hs, hx, hy]))
            go_wp2_with (go_at_call 57; refine (step_any _ _ _ _ Hor.out).mono ?_; rintro e w1 ⟨rfl, hb1⟩; obtain ⟨⟨e2, e3⟩, f2, f3⟩ := Below.two hb1 z1 e0 e1 f0 f1; have z2 := Nat.lt_of_lt_of_le z1 hb1.size; have Hb1 := hide hb1; clear hb1)
            go_roundw
            case rel => exact ⟨k + 1, by omega, by go_num, hd.out.trans hh.out, (Hb.out.trans (Hb1.out.mono Hb.out.size)).alloc (by have := Hb.out.size; have := Hb1.out.size; omega) _⟩
            case measure => simp [intOf]; omega
        · have hh := hide (dirF_miss (f := hitD x y tx ty) hlt (by simp [hitD, hs, hx]))
          go_wp2_with (go_at_call 57; refine (step_any _ _ _ _ Hor.out).mono ?_; rintro e w1 ⟨rfl, hb1⟩; obtain ⟨⟨e2, e3⟩, f2, f3⟩ := Below.two hb1 z1 e0 e1 f0 f1; have z2 := Nat.lt_of_lt_of_le z1 hb1.size; have Hb1 := hide hb1; clear hb1)
          go_roundw
          case rel => exact ⟨k + 1, by omega, by go_num, hd.out.trans hh.out, (Hb.out.trans (Hb1.out.mono Hb.out.size)).alloc (by have := Hb.out.size; have := Hb1.out.size; omega) _⟩
          case measure => simp [intOf]; omega
    · obtain rfl := int8 hlt hk
      go_wp2_with fail
      go_ret
      exact ⟨ret_int (hd.out.trans dirF_end).symm, HB.out⟩
end Go.Proofs.YtekpamilcpeanaaDoor
namespace Go.Proofs.YtekpamilcpeanaaDoor
open Go.RowKit
set_option linter.unusedVariables false
set_option linter.unusedSimpArgs false
theorem dir_is {x y tx ty d : Int} (w : World) (ho : Offs w) (h : dirN x y tx ty = d) : Calls Tryd.prog 38 #[.agg #[.int .i64 x, .int .i64 y], .agg #[.int .i64 tx, .int .i64 ty]] w fun e w' => e = .returned (.int .i64 d) ∧ Below w.heap.size w w' := by subst h; exact dir_any x y tx ty w ho
set_option maxHeartbeats 4000000 in
theorem legal_of (p : Nat) (S : Int → Int → Bool) (c s x y : Int) (v : Value) (P : List (Int × Int)) (w : World) (hv : CeR w v P)
    (HS : ∀ wx, Below w.heap.size w wx → ∀ x y, Calls Tryd.prog 47 #[ptr p, shv c s, cel x y] wx fun e w' => e = .returned (.bool (S x y)) ∧ Below wx.heap.size wx w')
    (HT : ∀ wx, Below w.heap.size w wx → ∀ x y d, Calls Tryd.prog 48 #[ptr p, shv c s, cel x y, .int .i64 d] wx fun e w' => e = .returned (.bool (lg S x y d)) ∧ Below wx.heap.size wx w')
    (HD : ∀ wx, Below w.heap.size w wx → Offs wx) :
    Calls Tryd.prog 32 #[ptr p, shv c s, cel x y, v] w fun e w' => e = .returned (.bool (legV S x y P)) ∧ Below w.heap.size w w' := by
  have hv' := hv
  obtain ⟨a, cap, rfl, hcap, hmax, -, -⟩ := hv'
  have hl63 : (0 : Int) ≤ (P.length : Nat) ∧ ((P.length : Nat) : Int) ≤ 9223372036854775807 := by
    have : P.length ≤ 9223372036854775807 := hmax
    omega
  have B0 := box2 w (.cells #[.int .i64 c, .int .i64 s] 37) (.cells #[.int .i64 x, .int .i64 y] 23)
  have S0 : Two ((w.alloc (.cells #[.int .i64 c, .int .i64 s] 37)).alloc (.cells #[.int .i64 x, .int .i64 y] 23)) w.heap.size c s := (Two.newAt rfl).alloc
  have C0 : Two ((w.alloc (.cells #[.int .i64 c, .int .i64 s] 37)).alloc (.cells #[.int .i64 x, .int .i64 y] 23)) (w.heap.size + 1) x y := Two.newAt (by simp)
  obtain ⟨X, hX⟩ : ∃ X, (w.alloc (.cells #[.int .i64 c, .int .i64 s] 37)).alloc (.cells #[.int .i64 x, .int .i64 y] 23) = X := ⟨_, rfl⟩
  rw [hX] at B0 S0 C0
  have HT' : Hid (∀ wx (b : Bool) u v d, Below w.heap.size w wx → lg S u v d = b → Calls Tryd.prog 48 #[ptr p, shv c s, cel u v, .int .i64 d] wx fun e w' => e = .returned (.bool b) ∧ Below wx.heap.size wx w') := hide fun wx b u v d hb he => he ▸ HT wx hb u v d
  have HS' := hide (HS X B0 x y)
  have HO := hide HD
  obtain ⟨⟨s0, s1⟩, -, -⟩ := id S0
  obtain ⟨⟨c0, c1⟩, -, -⟩ := id C0
  unfold legV
  clear HT HS HD
  cases g : S x y
  · rw [g] at HS'
    go_enter Tryd.func32, Tryd.ntmps32
    go_wp2_with fail
    refine HS'.out.mono ?_
    rintro e w1 ⟨rfl, hb1⟩
    have HB1 := hide (bt B0 hb1)
    clear hX s0 s1 c0 c1 hb1
    go_wp2_with fail
    go_ret
    exact ⟨rfl, HB1.out⟩
  · rw [g] at HS'
    obtain ⟨r, hr⟩ : ∃ r, (true && legF S x y P) = r := ⟨_, rfl⟩
    have hc0 : legF S x y P = r := by rw [← hr, Bool.true_and]
    rw [hr]
    clear hr
    go_enter Tryd.func32, Tryd.ntmps32
    go_wp2_with fail
    refine HS'.out.mono ?_
    rintro e w1 ⟨rfl, hb1⟩
    have S1 := S0.kept hb1
    have C1 := C0.kept hb1
    have B1 := bt B0 hb1
    clear hX s0 s1 c0 c1 hb1 S0 C0 B0 HS'
    go_wp2_with fail
    go_loopw [18] (fun s18 wr => ∃ (k : Nat) (fx fy : Int), k ≤ P.length ∧ s18 = .int .i64 k ∧ legF S fx fy (P.drop k) = r ∧ Two wr (w.heap.size + 1) fx fy ∧ Two wr w.heap.size c s ∧ Below w.heap.size w wr) (fun s18 _ => P.length - (intOf s18).toNat)
    case atStart => exact ⟨0, x, y, Nat.zero_le _, rfl, by simpa using hc0, C1, S1, B1⟩
    case round =>
      obtain ⟨k, fx, fy, hk, rfl, hco, hT, hS, hB⟩ := hrel
      by_cases hlt : k < P.length
      · obtain ⟨q, hq⟩ : ∃ q, P[k]? = some q := ⟨_, List.getElem?_eq_getElem hlt⟩
        obtain ⟨g, o, hga, c0, c1⟩ : ∃ g o, a = some ⟨g, o, none⟩ ∧ wr.cell? ⟨g, o + k * 2, none⟩ = some (.int .i64 q.1) ∧ wr.cell? ⟨g, o + k * 2 + 1, none⟩ = some (.int .i64 q.2) := by
          obtain ⟨a', cap', he', _, _, _, hform⟩ := hv.kept hB
          obtain ⟨g', o', hgg, _, e1, e2⟩ := hform k q hq
          injection he' with h1 h2 h3
          exact ⟨g', o', h1.trans hgg, e1, e2⟩
        subst hga
        rw [drop_cons' hq, legF] at hco
        have hki : (k : Int) < (P.length : Nat) := by omega
        have T2 : Two (wr.alloc (.cells #[.int .i64 q.1, .int .i64 q.2] 23)) wr.heap.size q.1 q.2 := Two.newAt rfl
        have B2 : Below wr.heap.size wr (wr.alloc (.cells #[.int .i64 q.1, .int .i64 q.2] 23)) := box1 _ _
        have TF := hT.kept B2
        have TS := hS.kept B2
        have BW := bt hB B2
        obtain ⟨wa, hwa⟩ : ∃ wa, wr.alloc (.cells #[.int .i64 q.1, .int .i64 q.2] 23) = wa := ⟨_, rfl⟩
        rw [hwa] at T2 B2 TF TS BW
        obtain ⟨f0, f1⟩ := TF.lat
        obtain ⟨t0, t1⟩ := T2.lat
        obtain ⟨s0, s1⟩ := TS.lat
        have hne := lat_some wa
        obtain ⟨d, hd⟩ : ∃ d, dirN fx fy q.1 q.2 = d := ⟨_, rfl⟩
        have HDd := hide hd
        rw [hd] at hco
        have HBW : Hid (∀ n : Lat wa, Below w.heap.size w n.w) := hide fun n => bt BW n.h
        clear hd
        cases hlg : lg S fx fy d
        · have HLG := hide hlg
          rw [hlg, Bool.false_and] at hco
          have HCO := hide hco
          clear hlg hco
          go_wp2_with fail
          clear hwa c0 c1
          refine wp_region_lat (by kernel_rfl) (by kernel_rfl) ?_
          repeat (go_big_quiet_step (first | (go_at_call 38; exact calls_lat (dir_is _ (HO.out _ (HBW.out _)) HDd.out)) | (go_at_call 48; exact calls_lat (HT'.out _ _ _ _ _ (HBW.out _) HLG.out))))
          refine wpQuiet_nil ?_
          rintro _ ⟨m, rfl⟩
          go_wp2_with fail
          go_ret
          exact ⟨ret_bool HCO.out, HBW.out m⟩
        · have HLG := hide hlg
          rw [hlg, Bool.true_and] at hco
          have HCO := hide hco
          clear hlg hco
          go_wp2_with fail
          clear hwa c0 c1
          refine wp_region_lat (by kernel_rfl) (by kernel_rfl) ?_
          repeat (go_big_quiet_step (first | (go_at_call 38; exact calls_lat (dir_is _ (HO.out _ (HBW.out _)) HDd.out)) | (go_at_call 48; exact calls_lat (HT'.out _ _ _ _ _ (HBW.out _) HLG.out))))
          refine wpQuiet_nil ?_
          rintro _ ⟨m, rfl⟩
          have TF2 := TF.kept m.h
          have TS2 := TS.kept m.h
          have t00 := t0 m
          have t11 := t1 m
          obtain ⟨⟨g0, g1⟩, ⟨g2, g3⟩, gz⟩ := id TF2
          clear f0 f1 t0 t1 s0 s1
          go_wp2_with fail
          go_roundw
          case rel =>
            refine ⟨k + 1, q.1, q.2, by omega, by go_num, HCO.out, Two.set TF2, TS2.other (by omega), ?_⟩
            exact ((HBW.out m).setCell (p := ⟨w.heap.size + 1, 0, none⟩) (by simp) _).setCell (p := ⟨w.heap.size + 1, 1, none⟩) (by simp) _
          case measure => simp [intOf]; omega
      · obtain rfl : k = P.length := by omega
        rw [List.drop_length, legF] at hco
        have HCO := hide hco
        clear hco
        have hki : ¬ ((P.length : Nat) : Int) < (P.length : Nat) := by omega
        go_wp2_with fail
        go_ret
        exact ⟨ret_bool HCO.out, hB⟩
end Go.Proofs.YtekpamilcpeanaaDoor
