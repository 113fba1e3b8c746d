/-
  Where a shape stands, by the document. phalanxlaw06.Both: a map's world, both ways; and what is asked of nobody's World.
-/
import Derived.Test.YtkjogcnoaipniaaGreatDoorStands
import Derived.Test.YtkjogcnoaipniaaGreatDoorAsks
import Derived.Test.YtkjogcnoaipniaaGreatDoorAwake
import Derived.Test.YtkjogcnoaipniaaGreatDoorRefNew
namespace Go.Proofs.YtkjogcnoaipniaaGreatDoor
open Go.RowKit
set_option linter.unusedVariables false
/-- In block r lies the document's World. -/
def Rl (w : World) (r : Nat) (W H : Int) (tl : List Nat) (L : List Bd) : Prop :=
  ((mt W H tl = true ∧ ∀ n ∈ tl, n < 256) ∧ L.length ≤ 256) ∧ ∃ (tv bv ev : Value), Rd w r W H tv bv ev ∧ Tls w tv tl ∧ Bds w bv L
theorem Rl.kept {w w' : World} {r : Nat} {W H : Int} {tl : List Nat} {L : List Bd} (h : Rl w r W H tl L) (hb : Below w.heap.size w w') : Rl w' r W H tl L := by
  obtain ⟨h0, tv, bv, ev, h1, h2, h3⟩ := h
  have T : Turns NoB w w' := Turns.of_below hb
  exact ⟨h0, tv, bv, ev, h1.kept T id, h2.kept T (fun _ _ => id), h3.kept T (fun _ _ => id)⟩
theorem refterr_is {w : World} {r : Nat} {W H : Int} {tl : List Nat} {L : List Bd} (x y : Int) {b : Bool} {t : Int} (h : Rl w r W H tl L) (hb : has 0 0 W H x y = b) (ht : terN W H tl x y = t) :
    Calls Tryz.prog 44 #[ptr r, cel x y] w fun e w' => e = .returned (.tuple #[.int .i64 t, .bool b]) ∧ Below w.heap.size w w' := by
  obtain ⟨⟨⟨h0, h00⟩, -⟩, tv, bv, ev, h1, h2, h3⟩ := h
  subst hb; subst ht
  exact refterrain_any r W H tv bv ev tl x y w h1 h2 h0 h00
theorem refat_is {w : World} {r : Nat} {W H : Int} {tl : List Nat} {L : List Bd} (x y : Int) {b : Bool} {t : Int} (h : Rl w r W H tl L) (hb : (whoF L x y).isSome = b) (ht : (whoF L x y).getD 0 = t) :
    Calls Tryz.prog 45 #[ptr r, cel x y] w fun e w' => e = .returned (.tuple #[.int .i64 t, .bool b]) ∧ Below w.heap.size w w' := by
  obtain ⟨⟨-, hlen⟩, tv, bv, ev, h1, h2, h3⟩ := h
  subst hb; subst ht
  exact refat_any r W H tv bv ev L x y w h1 h3 hlen
theorem refall_is {w : World} {r : Nat} {W H : Int} {tl : List Nat} {L : List Bd} (h : Rl w r W H tl L) :
    Calls Tryz.prog 21 #[ptr r] w fun e w' => e = .returned (rct 0 0 W H) ∧ Below w.heap.size w w' := by
  obtain ⟨-, tv, bv, ev, h1, -, -⟩ := h
  exact refall_any r W H tv bv ev w h1
def gd (W H : Int) (tl : List Nat) (f : Int → Int → Option Int) (c x y : Int) : Bool := !(f x y).isSome && onB c (terN W H tl x y)
theorem stU_yes {W H : Int} {tl : List Nat} {f : Int → Int → Option Int} {c u v k : Int} (hw : wi u v k k 0 0 W H = true) (h : ∀ i m : Nat, i < k.toNat → m < k.toNat → gd W H tl f c (u + i) (v + m) = true) : stU W H tl f c u v k = true := by
  rw [stU, hw, Bool.true_and, List.all_eq_true]
  intro q hq
  rw [mem_allC, has_iff] at hq
  simp only [wi, Bool.and_eq_true] at hw
  obtain ⟨hm, h1, h2⟩ := hw
  have a1 := (has_iff _ _ _ _ _ _).1 h1
  have a2 := (has_iff _ _ _ _ _ _).1 h2
  obtain ⟨-, q1, q2, q3, q4⟩ := hq
  have hh : has 0 0 W H q.1.1 q.1.2 = true := (has_iff _ _ _ _ _ _).2 ⟨a1.1, by omega, by omega, by omega, by omega⟩
  have := h (q.1.1 - u).toNat (q.1.2 - v).toNat (by omega) (by omega)
  rw [show u + ((q.1.1 - u).toNat : Int) = q.1.1 by omega, show v + ((q.1.2 - v).toNat : Int) = q.1.2 by omega] at this
  rw [carB, hh, Bool.true_and]
  exact this
theorem stU_no {W H : Int} {tl : List Nat} {f : Int → Int → Option Int} {c u v k : Int} (hw : wi u v k k 0 0 W H = true) {i m : Nat} (hi : i < k.toNat) (hm : m < k.toNat) (h : gd W H tl f c (u + i) (v + m) = false) : stU W H tl f c u v k = false := by
  rw [stU, hw, Bool.true_and, Bool.eq_false_iff]
  intro hall
  rw [List.all_eq_true] at hall
  simp only [wi, Bool.and_eq_true] at hw
  have hh : has u v k k (u + i) (v + m) = true := (has_iff _ _ _ _ _ _).2 ⟨hw.1, by omega, by omega, by omega, by omega⟩
  have hq := hall ⟨(u + i, v + m), has_w64 hh⟩ ((mem_allC _ _ _ _ _).2 hh)
  simp only [carB, Bool.and_eq_true] at hq
  rw [gd, Bool.and_eq_false_iff] at h
  rcases h with h | h
  · rw [h] at hq; simp at hq
  · rw [h] at hq; simp at hq
set_option maxRecDepth 100000 in
set_option maxHeartbeats 4000000 in
theorem refstands_any (r : Nat) (W H : Int) (tl : List Nat) (L : List Bd) (c s x y : Int) (w : World) (hw : Rl w r W H tl L) :
    Calls Tryz.prog 22 #[ptr r, shv c s, cel x y] w fun e w' => e = .returned (.bool (stB W H tl (whoF L) c s x y)) ∧ Below w.heap.size w w' := by
  have B2 := box2 w (.cells #[.int .i64 c, .int .i64 s] 27) (.cells #[.int .i64 x, .int .i64 y] 35)
  have S0 : Two ((w.alloc (.cells #[.int .i64 c, .int .i64 s] 27)).alloc (.cells #[.int .i64 x, .int .i64 y] 35)) w.heap.size c s := (Two.newAt rfl).alloc
  have HF := hide (reffoot_any c s x y ((w.alloc (.cells #[.int .i64 c, .int .i64 s] 27)).alloc (.cells #[.int .i64 x, .int .i64 y] 35)))
  unfold ftV at HF
  unfold stB
  obtain ⟨u, hu⟩ : ∃ u, fi c s x y x = u := ⟨_, rfl⟩
  obtain ⟨v, hv⟩ : ∃ v, fi c s x y y = v := ⟨_, rfl⟩
  obtain ⟨k, hk⟩ : ∃ k, fi c s x y s = k := ⟨_, rfl⟩
  rw [hu, hv, hk] at HF ⊢
  clear hu hv hk
  go_enter Tryz.func22, Tryz.ntmps22
  go_wp2_with fail
  refine HF.out.mono ?_
  rintro e w1 ⟨rfl, hb1⟩
  clear HF
  have HB1 := hide (bt B2 hb1)
  have S1 := S0.kept hb1
  clear B2 S0 hb1
  have FX : Four (w1.alloc (.cells #[.int .i64 u, .int .i64 v, .int .i64 k, .int .i64 k] 48)) w1.heap.size u v k k := cells4 (Below.refl _ _)
  have BX : Below w1.heap.size w1 (w1.alloc (.cells #[.int .i64 u, .int .i64 v, .int .i64 k, .int .i64 k] 48)) := box1 _ _
  obtain ⟨X, hX⟩ : ∃ X, w1.alloc (.cells #[.int .i64 u, .int .i64 v, .int .i64 k, .int .i64 k] 48) = X := ⟨_, rfl⟩
  rw [hX] at FX BX
  go_wp2_with fail
  clear hX
  have TX : Hid (∀ n : Lat X, Below w.heap.size w n.w) := hide fun n => bt (bt HB1.out BX) n.h
  have HK : Hid (∀ n : Lat X, Rl n.w r W H tl L) := hide fun n => hw.kept (TX.out n)
  have SX := S1.kept BX
  obtain ⟨d0, d1, d2, d3⟩ := FX.lat
  obtain ⟨s0, s1⟩ := SX.lat
  have hne := lat_some X
  clear hw S1 BX SX FX
  cases hi : wi u v k k 0 0 W H
  · have HI := hide hi
    clear hi s0 s1
    refine wp_region_lat (by kernel_rfl) (by kernel_rfl) ?_
    repeat (go_big_quiet_step (first | (go_at_call 21; exact calls_lat (refall_is (HK.out _))) | (go_at_call 43; exact calls_lat (refwithin_is _ HI.out))))
    refine wpQuiet_nil ?_
    rintro _ ⟨n, rfl⟩
    go_wp2_with fail
    go_ret
    exact ⟨ret_bool (by rw [stU, HI.out, Bool.false_and]), TX.out n⟩
  · have HI := hide hi
    have hrg : (0 ≤ u ∧ u ≤ 128) ∧ (0 ≤ v ∧ v ≤ 128) ∧ (1 ≤ k ∧ k ≤ 128) := by
      simp only [wi, Bool.and_eq_true] at hi
      obtain ⟨hm, h1, h2⟩ := hi
      obtain ⟨-, a1, a2, a3, a4⟩ := (has_iff _ _ _ _ _ _).1 h1
      obtain ⟨-, b1, b2, b3, b4⟩ := (has_iff _ _ _ _ _ _).1 h2
      have hmt := (HK.out ⟨X, Below.refl _ _⟩).1.1.1
      simp only [mt, gs, Bool.and_eq_true, decide_eq_true_eq] at hmt
      have hk1 := ((may_iff _ _ _ _).1 hm).2.1.1
      omega
    clear hi
    refine wp_region_lat (by kernel_rfl) (by kernel_rfl) ?_
    repeat (go_big_quiet_step (first | (go_at_call 21; exact calls_lat (refall_is (HK.out _))) | (go_at_call 43; exact calls_lat (refwithin_is _ HI.out))))
    refine wpQuiet_nil ?_
    rintro _ ⟨n, rfl⟩
    have n0 := d0 n
    have n1 := d1 n
    obtain ⟨hru, hrv, hrk⟩ := hrg
    go_wp2_with fail
    clear n0 n1
    go_loopw [8] (fun p wr => ∃ j : Nat, j ≤ k.toNat ∧ p = .int .i64 (v + j) ∧ (∀ i m : Nat, i < k.toNat → m < j → gd W H tl (whoF L) c (u + i) (v + m) = true) ∧ ∃ m : Lat X, wr = m.w) (fun p _ => k.toNat - (intOf p - v).toNat)
    case atStart => exact ⟨0, Nat.zero_le _, by simp, fun i m _ h => absurd h (by omega), n, rfl⟩
    case round =>
      obtain ⟨j, hj, rfl, hgo, m, rfl⟩ := hrel
      have n0 := d0 m
      have n1 := d1 m
      have n2 := d2 m
      have n3 := d3 m
      have hwk : IntKind.i64.wrap (v + k) = v + k := by rw [IntKind.wrap_i64]; omega
      have hwu : IntKind.i64.wrap (u + k) = u + k := by rw [IntKind.wrap_i64]; omega
      by_cases hlt : j < k.toNat
      · have hli : v + (j : Int) < v + k := by omega
        have HG := hide hgo
        clear hgo
        go_wp2_with fail
        clear n0 n1 n2 n3
        rename Value => o9
        go_loopw [9] (fun p wr => ∃ i : Nat, i ≤ k.toNat ∧ p = .int .i64 (u + i) ∧ (∀ i' : Nat, i' < i → gd W H tl (whoF L) c (u + i') (v + j) = true) ∧ ∃ m : Lat X, wr = m.w) (fun p _ => k.toNat - (intOf p - u).toNat)
        case atStart => exact ⟨0, Nat.zero_le _, by simp, fun i h => absurd h (by omega), m, rfl⟩
        case round =>
          obtain ⟨i, hi, rfl, hin, m3, rfl⟩ := hrel
          have n0 := d0 m3
          have n2 := d2 m3
          have n1 := d1 m3
          by_cases hil : i < k.toNat
          · have hui : u + (i : Int) < u + k := by omega
            obtain ⟨b, hb⟩ : ∃ b, has 0 0 W H (u + i) (v + j) = b := ⟨_, rfl⟩
            obtain ⟨t, ht⟩ : ∃ t, terN W H tl (u + i) (v + j) = t := ⟨_, rfl⟩
            obtain ⟨id', hid⟩ : ∃ z, (whoF L (u + i) (v + j)).getD 0 = z := ⟨_, rfl⟩
            have Hb := hide hb
            have Ht := hide ht
            have Hid' := hide hid
            have HN := hide hin
            have HI2 := HI.out
            clear hb ht hid hin
            cases hs : (whoF L (u + i) (v + j)).isSome
            · cases hon : onB c t
              · have hno := stU_no (f := whoF L) (tl := tl) (c := c) HI2 hil hlt (by rw [gd, Ht.out, hon, Bool.and_false])
                have Hs := hide hs
                have Ho := hide hon
                clear hs hon HI2
                go_wp2_with fail
                refine (refterr_is _ _ (HK.out m3) Hb.out Ht.out).mono ?_
                rintro e w4 ⟨rfl, hb4⟩
                go_wp2_with fail
                refine (refat_is _ _ (HK.out ⟨w4, bt m3.h hb4⟩) Hs.out Hid'.out).mono ?_
                rintro e w5 ⟨rfl, hb5⟩
                have hB5 := bt (bt m3.h hb4) hb5
                have g0 := s0 ⟨w5, hB5⟩
                simp only at g0
                go_wp2_with (go_at_call 46; refine (refon_is _ Ho.out).mono ?_; rintro e w6 ⟨rfl, rfl⟩)
                go_ret
                exact ⟨ret_bool hno.symm, TX.out ⟨_, hB5⟩⟩
              · have hyes : gd W H tl (whoF L) c (u + i) (v + j) = true := by rw [gd, Ht.out, hon, hs]; rfl
                have Hy := hide hyes
                have Hs := hide hs
                have Ho := hide hon
                clear hs hon HI2 hyes
                go_wp2_with fail
                refine (refterr_is _ _ (HK.out m3) Hb.out Ht.out).mono ?_
                rintro e w4 ⟨rfl, hb4⟩
                go_wp2_with fail
                refine (refat_is _ _ (HK.out ⟨w4, bt m3.h hb4⟩) Hs.out Hid'.out).mono ?_
                rintro e w5 ⟨rfl, hb5⟩
                have hB5 := bt (bt m3.h hb4) hb5
                have g0 := s0 ⟨w5, hB5⟩
                simp only at g0
                go_wp2_with (go_at_call 46; refine (refon_is _ Ho.out).mono ?_; rintro e w6 ⟨rfl, rfl⟩)
                go_roundw
                case rel =>
                  refine ⟨i + 1, by omega, by go_num, fun i' hi' => ?_, ⟨_, hB5⟩, rfl⟩
                  by_cases hii : i' = i
                  · subst hii; exact Hy.out
                  · exact HN.out i' (by omega)
                case measure => simp [intOf]; omega
            · have hno := stU_no (f := whoF L) (tl := tl) (c := c) HI2 hil hlt (by rw [gd, hs]; rfl)
              have Hs := hide hs
              clear hs HI2
              go_wp2_with fail
              refine (refterr_is _ _ (HK.out m3) Hb.out Ht.out).mono ?_
              rintro e w4 ⟨rfl, hb4⟩
              go_wp2_with fail
              refine (refat_is _ _ (HK.out ⟨w4, bt m3.h hb4⟩) Hs.out Hid'.out).mono ?_
              rintro e w5 ⟨rfl, hb5⟩
              have hB5 := bt (bt m3.h hb4) hb5
              go_wp2_with fail
              go_ret
              exact ⟨ret_bool hno.symm, TX.out ⟨_, hB5⟩⟩
          · obtain rfl : i = k.toNat := by omega
            have hui : ¬ u + ((k.toNat : Nat) : Int) < u + k := by omega
            have HN := hide hin
            clear hin
            go_wp2_with fail
            go_roundw
            case rel =>
              refine ⟨j + 1, by omega, by go_num, fun i' m' hi' hm' => ?_, m3, rfl⟩
              by_cases hmj : m' = j
              · subst hmj; exact HN.out i' hi'
              · exact HG.out i' m' hi' (by omega)
            case measure => simp [intOf]; omega
      · obtain rfl : j = k.toNat := by omega
        have hli : ¬ v + ((k.toNat : Nat) : Int) < v + k := by omega
        have hyes := stU_yes (f := whoF L) (tl := tl) (c := c) HI.out (fun i m hi hm => hgo i m hi hm)
        clear hgo
        go_wp2_with fail
        go_ret
        exact ⟨rfl, TX.out m⟩
end Go.Proofs.YtkjogcnoaipniaaGreatDoor
namespace Go.Proofs.YtkjogcnoaipniaaGreatDoor
open Go.RowKit Go.Shelf
set_option linter.unusedVariables false
attribute [local go_sem] Oper.semAt_some
theorem chkC_zero {W H : Int} {tl : List Nat} {L : List Bd} (h : chkC W H tl L = 0) : mt W H tl = true ∧ L.length ≤ 256 ∧ okL W H [] L = true ∧ whoL L = whoF L := by
  unfold chkC at h
  split at h
  · rename_i h'
    simp only [Bool.and_eq_true, decide_eq_true_eq] at h'
    have hok : okL W H [] L = true := by
      rw [okL_chk W H L [] (Fine.nil W H) rfl]
      simp [h'.2.1, h'.2.2]
    have := (okL_fine W H L [] (Fine.nil W H) rfl hok).2
    exact ⟨h'.1, h'.2.1, hok, by simpa using this⟩
  · cases h
theorem chkC_one {W H : Int} {tl : List Nat} {L : List Bd} (h : chkC W H tl L ≠ 0) (hm : mt W H tl = true) : okL W H [] L = false := by
  rw [okL_chk W H L [] (Fine.nil W H) rfl, Bool.eq_false_iff]
  intro e
  apply h
  simp only [Bool.and_eq_true, decide_eq_true_eq, List.length_nil, Nat.zero_add] at e
  simp [chkC, hm, e.1, e.2]
theorem chkC_two (W H : Int) (tl : List Nat) (L : List Bd) : chkC W H tl L = 0 ∨ chkC W H tl L = 1 := by
  unfold chkC
  split
  · exact .inl rfl
  · exact .inr rfl
theorem RefMade.rl {w w' : World} {W H : Int} {tl : List Nat} {L : List Bd} {r : Nat} (h : RefMade w W H tl L r w') (hm : mt W H tl = true) (hb : ∀ x ∈ tl, x < 256) (hl : L.length ≤ 256) : Rl w' r W H tl L ∧ Below w.heap.size w w' := by
  obtain ⟨tv, bv, d1, d2, d3, d4, -⟩ := h
  exact ⟨⟨⟨⟨hm, hb⟩, hl⟩, tv, bv, _, d1, d2, d3⟩, d4⟩
theorem newp_ok {W H : Int} {tv bv : Value} {tl : List Nat} {L : List Bd} {w : World} (hv : TlR w tv tl) (hb : ∀ x ∈ tl, x < 256) (hl : BdR w bv L) (hc : chkC W H tl L = 0) :
    Calls Tryz.prog 19 #[mp W H tv bv] w fun e w' => ∃ p, e = .returned (.tuple #[ptr p, .int .i64 0]) ∧ Wn w' p W H tl (whoF L) ∧ Below w.heap.size w w' := by
  obtain ⟨hm, hlen, hok, hw⟩ := chkC_zero hc
  refine (new_good W H tv bv tl L w hv hb hl hm).mono ?_
  rintro e w' (⟨-, p, he, hM⟩ | ⟨h, -⟩)
  · have := hM.wn hm hb
    rw [hw] at this
    exact ⟨p, he, this.1, this.2⟩
  · rw [hok] at h; cases h
theorem newp_no {W H : Int} {tv bv : Value} {tl : List Nat} {L : List Bd} {w : World} (hv : TlR w tv tl) (hb : ∀ x ∈ tl, x < 256) (hl : BdR w bv L) (hc : chkC W H tl L ≠ 0) :
    Calls Tryz.prog 19 #[mp W H tv bv] w fun e w' => e = .returned (.tuple #[.pointer none, .int .i64 1]) ∧ Below w.heap.size w w' := by
  cases hm : mt W H tl
  · obtain ⟨a2, cap2, rfl, -⟩ := hl
    exact new_bad W H tv a2 L.length cap2 tl w hv hb hm
  · refine (new_good W H tv bv tl L w hv hb hl hm).mono ?_
    rintro e w' (⟨h, -⟩ | ⟨-, he, hB⟩)
    · rw [chkC_one hc hm] at h; cases h
    · exact ⟨he, hB⟩
theorem newr_ok {W H : Int} {tv bv : Value} {tl : List Nat} {L : List Bd} {w : World} (hv : TlR w tv tl) (hb : ∀ x ∈ tl, x < 256) (hl : BdR w bv L) (hc : chkC W H tl L = 0) :
    Calls Tryz.prog 20 #[mp W H tv bv] w fun e w' => ∃ r, e = .returned (.tuple #[ptr r, .int .i64 0]) ∧ Rl w' r W H tl L ∧ Below w.heap.size w w' := by
  obtain ⟨hm, hlen, -, -⟩ := chkC_zero hc
  refine (refnew_good W H tv bv tl L w hv hb hl hc).mono ?_
  rintro e w' ⟨r, he, hM⟩
  have := hM.rl hm hb hlen
  exact ⟨r, he, this.1, this.2⟩
/-- The box in which a map lies, whatever made memory since. -/
def MB (w : World) (k : Nat) (W H : Int) (tv bv : Value) : Prop := w.heap[k]? = some (.cells #[.int .i64 W, .int .i64 H, tv, bv] 25 (0, 0))
theorem MB.kept {w w' : World} {k : Nat} {W H : Int} {tv bv : Value} (h : MB w k W H tv bv) (hb : Below w.heap.size w w') : MB w' k W H tv bv := (hb.block k (Array.getElem?_eq_some_iff.1 h).1).trans h
theorem MB.c {w : World} {k : Nat} {W H : Int} {tv bv : Value} (h : MB w k W H tv bv) : w.cell? ⟨k, 0, none⟩ = some (.int .i64 W) ∧ w.cell? ⟨k, 1, none⟩ = some (.int .i64 H) ∧ w.cell? ⟨k, 2, none⟩ = some tv ∧ w.cell? ⟨k, 3, none⟩ = some bv :=
  ⟨cell_of_row w k 0 _ _ _ h, cell_of_row w k 1 _ _ _ h, cell_of_row w k 2 _ _ _ h, cell_of_row w k 3 _ _ _ h⟩
theorem MB.new (w : World) (W H : Int) (tv bv : Value) : MB (w.alloc (.cells #[.int .i64 W, .int .i64 H, tv, bv] 25)) w.heap.size W H tv bv := heap_alloc_new w _
set_option maxHeartbeats 1000000 in
theorem both_ok (W H : Int) (tv bv : Value) (tl : List Nat) (L : List Bd) (w : World) (hv : TlR w tv tl) (hb : ∀ x ∈ tl, x < 256) (hl : BdR w bv L) (hc : chkC W H tl L = 0) :
    Calls Tryz.prog 6 #[mp W H tv bv] w fun e w' => ∃ p r, e = .returned (.tuple #[ptr p, ptr r, .bool true]) ∧ Wn w' p W H tl (whoF L) ∧ Rl w' r W H tl L ∧ Below w.heap.size w w' := by
  have MX := MB.new w W H tv bv
  have B0 : Below w.heap.size w (w.alloc (.cells #[.int .i64 W, .int .i64 H, tv, bv] 25)) := box1 _ _
  obtain ⟨X, hX⟩ : ∃ X, w.alloc (.cells #[.int .i64 W, .int .i64 H, tv, bv] 25) = X := ⟨_, rfl⟩
  rw [hX] at MX B0
  have HN : Hid (∀ wx, Below w.heap.size w wx → Calls Tryz.prog 19 #[mp W H tv bv] wx fun e w' => ∃ p, e = .returned (.tuple #[ptr p, .int .i64 0]) ∧ Wn w' p W H tl (whoF L) ∧ Below wx.heap.size wx w') := hide fun wx hx => newp_ok (hv.kept hx) hb (hl.kept hx) hc
  have HR : Hid (∀ wx, Below w.heap.size w wx → Calls Tryz.prog 20 #[mp W H tv bv] wx fun e w' => ∃ r, e = .returned (.tuple #[ptr r, .int .i64 0]) ∧ Rl w' r W H tl L ∧ Below wx.heap.size wx w') := hide fun wx hx => newr_ok (hv.kept hx) hb (hl.kept hx) hc
  have hvf := hv
  have hlf := hl
  obtain ⟨a1, cap1, rfl, -⟩ := hvf
  obtain ⟨a2, cap2, rfl, -⟩ := hlf
  clear hv hl hc hb
  obtain ⟨m0, m1, m2, m3⟩ := MX.c
  go_enter Tryz.func6, Tryz.ntmps6
  go_wp2_with fail
  refine (HN.out _ B0).mono ?_
  rintro e w1 ⟨p, rfl, hW, hb1⟩
  have HW := hide hW
  have HB1 := hide hb1
  have M1 := MX.kept hb1
  clear hX m0 m1 m2 m3 MX hW hb1
  obtain ⟨m0, m1, m2, m3⟩ := M1.c
  go_wp2_with fail
  refine (HR.out _ (bt B0 HB1.out)).mono ?_
  rintro e w2 ⟨r, rfl, hR, hb2⟩
  have HRR := hide hR
  have HB2 := hide hb2
  clear m0 m1 m2 m3 M1 hR hb2
  go_wp2_with fail
  refine bodyPost_ret (v := .tuple #[ptr p, ptr r, .bool true]) (by simp [results, Tryz.results6, go_sem]) rfl ?_
  exact ⟨p, r, rfl, HW.out.kept HB2.out, HRR.out, bt B0 (bt HB1.out HB2.out)⟩
set_option maxHeartbeats 1000000 in
theorem both_no (W H : Int) (tv bv : Value) (tl : List Nat) (L : List Bd) (w : World) (hv : TlR w tv tl) (hb : ∀ x ∈ tl, x < 256) (hl : BdR w bv L) (hc : chkC W H tl L = 1) :
    Calls Tryz.prog 6 #[mp W H tv bv] w fun e w' => e = .returned (.tuple #[.pointer none, .pointer none, .bool false]) ∧ Below w.heap.size w w' := by
  have MX := MB.new w W H tv bv
  have B0 : Below w.heap.size w (w.alloc (.cells #[.int .i64 W, .int .i64 H, tv, bv] 25)) := box1 _ _
  obtain ⟨X, hX⟩ : ∃ X, w.alloc (.cells #[.int .i64 W, .int .i64 H, tv, bv] 25) = X := ⟨_, rfl⟩
  rw [hX] at MX B0
  have HN : Hid (∀ wx, Below w.heap.size w wx → Calls Tryz.prog 19 #[mp W H tv bv] wx fun e w' => e = .returned (.tuple #[.pointer none, .int .i64 1]) ∧ Below wx.heap.size wx w') := hide fun wx hx => newp_no (hv.kept hx) hb (hl.kept hx) (by omega)
  have HR : Hid (∀ wx, Below w.heap.size w wx → Calls Tryz.prog 20 #[mp W H tv bv] wx fun e w' => e = .returned (.tuple #[.pointer none, .int .i64 1]) ∧ Below wx.heap.size wx w') := hide fun wx hx => refnew_bad W H tv bv tl L wx (hv.kept hx) hb (hl.kept hx) hc
  have hvf := hv
  have hlf := hl
  obtain ⟨a1, cap1, rfl, -⟩ := hvf
  obtain ⟨a2, cap2, rfl, -⟩ := hlf
  clear hv hl hc hb
  obtain ⟨m0, m1, m2, m3⟩ := MX.c
  go_enter Tryz.func6, Tryz.ntmps6
  go_wp2_with fail
  refine (HN.out _ B0).mono ?_
  rintro e w1 ⟨rfl, hb1⟩
  have HB1 := hide hb1
  have M1 := MX.kept hb1
  clear hX m0 m1 m2 m3 MX hb1
  obtain ⟨m0, m1, m2, m3⟩ := M1.c
  go_wp2_with fail
  refine (HR.out _ (bt B0 HB1.out)).mono ?_
  rintro e w2 ⟨rfl, hb2⟩
  have HB2 := hide hb2
  clear m0 m1 m2 m3 M1 hb2
  go_wp2_with fail
  refine bodyPost_ret (v := .tuple #[.pointer none, .pointer none, .bool false]) (by simp [results, Tryz.results6, go_sem]) rfl ?_
  exact ⟨rfl, bt B0 (bt HB1.out HB2.out)⟩
set_option maxHeartbeats 1000000 in
theorem all_nil (w : World) : Calls Tryz.prog 80 #[.pointer none] w fun e w' => e = .returned (rct 0 0 0 0) ∧ Below w.heap.size w w' := by
  obtain ⟨⟨c0, c1, c2, c3⟩, ⟨g0, g1, g2, g3⟩, zz⟩ : Four (w.alloc (.cells #[.int .i64 0, .int .i64 0, .int .i64 0, .int .i64 0] 48)) w.heap.size 0 0 0 0 := cells4 (Below.refl _ _)
  go_enter Tryz.func80, Tryz.ntmps80
  go_wp2_with (go_at_call 65; refine (made_nil _).mono ?_; rintro e w' ⟨rfl, rfl⟩)
  refine bodyPost_ret (v := rct 0 0 0 0) (by simp [results, Tryz.results80, go_sem, c0, c1, c2, c3]) rfl ⟨rfl, ?_⟩
  first | exact box1 _ _ | exact ((((box1 w _).setCell (by simp) _).setCell (by simp) _).setCell (by simp) _).setCell (by simp) _
theorem wi_zero (u v k : Int) : wi u v k k 0 0 0 0 = false := by
  have : has 0 0 0 0 u v = false := by rw [Bool.eq_false_iff]; intro h; have := ((has_iff _ _ _ _ _ _).1 h); omega
  simp [wi, this]
set_option maxRecDepth 100000 in
set_option maxHeartbeats 4000000 in
theorem stands_nil (c s x y : Int) (w : World) :
    Calls Tryz.prog 51 #[.pointer none, shv c s, cel x y] w fun e w' => e = .returned (.bool false) ∧ Below w.heap.size w w' := by
  have B4 : Below w.heap.size w ((((w.alloc (.cells #[.pointer none] 29)).alloc (.cells #[.int .i64 c, .int .i64 s] 27)).alloc (.cells #[.int .i64 x, .int .i64 y] 35)).alloc (.cells #[.bool false] 4)) := bt (box2 _ _ _) (box2 _ _ _)
  have z4 : ((((w.alloc (.cells #[.pointer none] 29)).alloc (.cells #[.int .i64 c, .int .i64 s] 27)).alloc (.cells #[.int .i64 x, .int .i64 y] 35)).alloc (.cells #[.bool false] 4)).heap.size = w.heap.size + 4 := by simp
  have P4 : Boxed ((((w.alloc (.cells #[.pointer none] 29)).alloc (.cells #[.int .i64 c, .int .i64 s] 27)).alloc (.cells #[.int .i64 x, .int .i64 y] 35)).alloc (.cells #[.bool false] 4)) w.heap.size 29 (.pointer none) := (((Boxed.new w 29 (.pointer none)).alloc _).alloc _).alloc _
  have R4 : Boxed ((((w.alloc (.cells #[.pointer none] 29)).alloc (.cells #[.int .i64 c, .int .i64 s] 27)).alloc (.cells #[.int .i64 x, .int .i64 y] 35)).alloc (.cells #[.bool false] 4)) (w.heap.size + 1 + 1 + 1) 4 (.bool false) := by
    have := Boxed.new (((w.alloc (.cells #[.pointer none] 29)).alloc (.cells #[.int .i64 c, .int .i64 s] 27)).alloc (.cells #[.int .i64 x, .int .i64 y] 35)) 4 (.bool false)
    simpa using this
  have HF := hide (foot_any c s x y ((((w.alloc (.cells #[.pointer none] 29)).alloc (.cells #[.int .i64 c, .int .i64 s] 27)).alloc (.cells #[.int .i64 x, .int .i64 y] 35)).alloc (.cells #[.bool false] 4)))
  unfold ftV at HF
  obtain ⟨u, hu⟩ : ∃ u, fi c s x y x = u := ⟨_, rfl⟩
  obtain ⟨v, hv⟩ : ∃ v, fi c s x y y = v := ⟨_, rfl⟩
  obtain ⟨k, hk⟩ : ∃ k, fi c s x y s = k := ⟨_, rfl⟩
  rw [hu, hv, hk] at HF
  clear hu hv hk
  refine (callsIn_wide (n := 10)).1 ?_
  refine callsIn_of_wp_marks Tryz.func51 rfl trivial ?_ rfl
  simp only [Tryz.ntmps51, List.size_toArray, List.length_cons, List.length_nil, Nat.reduceAdd, Nat.reduceSub, Array.replicate_succ, Array.replicate_zero, List.push_toArray, List.append_toArray, List.nil_append, List.cons_append]
  gi_wp2_with fail
  refine ⟨trivial, ?_⟩
  refine (callsIn_wide.2 HF.out).mono ?_
  rintro e w1 ⟨rfl, hb1⟩
  clear HF
  have z1 := hb1.size
  have P1 := boxed_upto P4 hb1 (by omega)
  have R1 := boxed_upto R4 hb1 (by omega)
  have HB1 := hide (bt B4 hb1)
  clear P4 R4 B4 hb1
  gi_wp2_with fail
  have FX : Four (w1.alloc (.cells #[.int .i64 u, .int .i64 v, .int .i64 k, .int .i64 k] 48)) w1.heap.size u v k k := cells4 (Below.refl _ _)
  have BX : Below w1.heap.size w1 (w1.alloc (.cells #[.int .i64 u, .int .i64 v, .int .i64 k, .int .i64 k] 48)) := box1 _ _
  obtain ⟨X, hX⟩ : ∃ X, w1.alloc (.cells #[.int .i64 u, .int .i64 v, .int .i64 k, .int .i64 k] 48) = X := ⟨_, rfl⟩
  have zX : X.heap.size = w1.heap.size + 1 := by rw [← hX]; simp
  rw [hX] at FX BX ⊢
  clear hX
  have TX : ∀ n : Lat X, Below w.heap.size w n.w := fun n => bt (bt HB1.out BX) n.h
  have PX := boxed_upto P1 BX P1.lt
  have c0 : ∀ n : Lat X, n.w.cell? ⟨w.heap.size, 0, none⟩ = some (.pointer none) := fun n => (n.h.cell (p := ⟨w.heap.size, 0, none⟩) PX.lt).trans PX.cell
  obtain ⟨d0, d1, d2, d3⟩ := FX.lat
  have hne := lat_some X
  have HI := hide (wi_zero u v k)
  gi_wp2_with fail
  refine wpIn_region_lat (by kernel_rfl) (by kernel_rfl) (by kernel_rfl) ?_
  repeat (refine wpQuietIn_step (fun _ _ _ _ => trivial) (fun K hK => ?_); go_simp; first | (refine hK _ ?_; clear hK K) | (apply Exists.intro; refine ⟨fun _ => ?_, hK _ ?_⟩; first | exact callsIn_lat (callsIn_wide.2 (all_nil _)) | exact callsIn_lat (callsIn_wide.2 (within_is _ HI.out)); clear hK K))
  refine wpQuietIn_nil ?_
  rintro _ ⟨n, rfl⟩
  have bR := boxed_upto (boxed_upto R1 BX R1.lt) n.h (by omega)
  have cR := bR.cell
  have fR := bR.frozen
  gi_wp2_with fail
  have hB := TX n
  exact ⟨.bool false, by simp [results, Tryz.f51, go_sem, cR], rfl, hB.setCell (p := ⟨w.heap.size + 1 + 1 + 1, 0, none⟩) (by simp; omega) _⟩
end Go.Proofs.YtkjogcnoaipniaaGreatDoor
