/-
  Count, and phalanxlaw07.ClearCounts, walked.
-/
import Derived.Test.YtnoodnmbghfchaaDoorOfWalk2
set_option linter.unusedSimpArgs false
namespace Go.Proofs.YtnoodnmbghfchaaDoor
open Go.RowKit Go.Shelf
set_option linter.unusedVariables false
/-- How many of a list have a size, or more. -/
def cntS (s : Int) (l : List Nat) : Nat := (l.filter (fun u : Nat => decide (s ≤ (u : Int)))).length
theorem cntS_le (s : Int) (l : List Nat) : cntS s l ≤ l.length := List.length_filter_le _ _
theorem cntS_snoc (s : Int) (l : List Nat) (u : Nat) : cntS s (l ++ [u]) = cntS s l + (if s ≤ (u : Int) then 1 else 0) := by
  unfold cntS
  rw [List.filter_append, List.length_append]
  by_cases h : s ≤ (u : Int)
  · simp [h]
  · simp [h]
set_option maxRecDepth 100000 in
set_option maxHeartbeats 4000000 in
theorem fcount_any {w : World} {p q b n : Nat} {cl W H ep : Int} {l : List Nat} (s : Int) (hd : Fd w p q cl W H b n ep) (hs : Szs w b l) (hn : n = l.length) (hl : l.length ≤ 16384) (hb : ∀ u ∈ l, u < 256) :
    Calls Tryd.prog 19 #[ptr p, .int .i64 s] w fun e w' => e = .returned (.int .i64 (cntS s l : Nat)) ∧ w' = w := by
  have HF := hide (fmade_is hd)
  subst hn
  have c6 : w.cell? ⟨p, 6, none⟩ = some (sl b l.length) := hd.c 6
  have HS := hide hs
  have HB := hide hb
  have hlI : ((l.length : Nat) : Int) ≤ 16384 := by omega
  clear hd hs hb
  go_enter Tryd.func19, Tryd.ntmps19
  go_wp2_with (go_at_call 28; refine HF.out.mono ?_; rintro e w' ⟨rfl, rfl⟩)
  go_loop [5, 16] (fun a d => ∃ i : Nat, i ≤ l.length ∧ a = .int .i64 ((cntS s (l.take i) : Nat) : Int) ∧ d = .int .i64 (i : Nat)) (fun _ d => l.length - (intOf d).toNat)
  case atStart => exact ⟨0, by omega, rfl, rfl⟩
  case round =>
    obtain ⟨i, hi, rfl, rfl⟩ := hrel
    by_cases hlt : i < l.length
    · obtain ⟨u, hu⟩ : ∃ u, l[i]? = some u := ⟨_, List.getElem?_eq_getElem hlt⟩
      have cu := HS.out.c hu
      have hub := HB.out u (List.mem_of_getElem? hu)
      have hub' : (0 : Int) ≤ (u : Nat) ∧ ((u : Nat) : Int) < 256 := by omega
      have hiI : (0 : Int) ≤ (i : Nat) ∧ ((i : Nat) : Int) < (l.length : Nat) := by omega
      have hcl := cntS_le s (l.take i)
      have hcl' : (cntS s (l.take i) : Nat) ≤ i := Nat.le_trans hcl (by rw [List.length_take]; omega)
      have hnx : cntS s (l.take (i + 1)) = cntS s (l.take i) + (if s ≤ (u : Int) then 1 else 0) := by
        rw [take_next _ hlt, cntS_snoc]
        have e : l[i] = u := by rw [List.getElem?_eq_getElem hlt] at hu; exact Option.some.inj hu
        rw [e]
      obtain ⟨k, hk⟩ : ∃ k, cntS s (l.take i) = k := ⟨_, rfl⟩
      rw [hk] at hcl' hnx ⊢
      have hkI : (0 : Int) ≤ (k : Nat) ∧ ((k : Nat) : Int) ≤ 16384 := by omega
      have Hnx := hide hnx
      clear hnx hu hcl hk
      by_cases hsu : s ≤ (u : Int)
      · go_wp2_with fail
        go_round
        case rel => exact ⟨i + 1, by omega, by rw [Hnx.out, if_pos hsu]; go_num, by go_num⟩
        case measure => simp [intOf]; omega
      · go_wp2_with fail
        go_round
        case rel => exact ⟨i + 1, by omega, by rw [Hnx.out, if_neg hsu]; rfl, by go_num⟩
        case measure => simp [intOf]; omega
    · obtain rfl : i = l.length := by omega
      have he : l.take l.length = l := List.take_of_length_le (Nat.le_refl _)
      rw [he]
      go_wp2_with fail
      go_ret
      exact ⟨rfl, rfl⟩
theorem clr_left (car : Int → Int → Bool) (x y : Int) : clr car (x - 1) y ≤ clr car x y + 1 := by
  rw [clr_rec car (x - 1) y, show x - 1 + 1 = x by omega]
  unfold grw
  split <;> omega
theorem clr_up (car : Int → Int → Bool) (x y : Int) : clr car x (y - 1) ≤ clr car x y + 1 := by
  rw [clr_rec car x (y - 1), show y - 1 + 1 = y by omega]
  unfold grw
  split <;> omega
/-- The box of the law: the map. -/
theorem cnt_box (w : World) (W H : Int) (tv bv : Value) : ∃ X, w.alloc (.cells #[.int .i64 W, .int .i64 H, tv, bv] 25) = X ∧ Below w.heap.size w X ∧ MB X w.heap.size W H tv bv := ⟨_, rfl, box1 _ _, MB.new w W H tv bv⟩
set_option maxRecDepth 100000 in
set_option maxHeartbeats 4000000 in
theorem cnt_bad (W H : Int) (tv bv : Value) (tl : List Nat) (L : List Bd) (cl s : Int) (w : World) (hv : TlR w tv tl) (hb : ∀ x ∈ tl, x < 256) (hl : BdR w bv L) (hg : Grnd w) (ho : Offs w) (hc : chkC W H tl L = 1) :
    Calls Tryd.prog 5 #[mp W H tv bv, .int .i64 cl, .int .i64 s] w fun e w' => e = .returned (.bool true) ∧ Below w.heap.size w w' := by
  obtain ⟨X, hX, B0, M0⟩ := cnt_box w W H tv bv
  have HB := hide (both_no W H tv bv tl L X (hv.kept B0) hb (hl.kept B0) hc)
  have HA : Hid (∀ wx, Below w.heap.size w wx → Calls Tryd.prog 10 #[] wx fun e w' => e = .returned (.bool true) ∧ Below wx.heap.size wx w') := hide fun wx hx => awake_any wx (hg.kept hx) (ho.kept hx)
  obtain ⟨m0, m1, m2, m3⟩ := M0.c
  obtain ⟨a1, cap1, rfl, -⟩ := hv
  obtain ⟨a2, cap2, rfl, -⟩ := hl
  clear hc hb hg ho
  go_enter Tryd.func5, Tryd.ntmps5
  go_wp2_with fail
  refine HB.out.mono ?_
  rintro e w1 ⟨rfl, hb1⟩
  have HB1 := hide (bt B0 hb1)
  clear hX m0 m1 m2 m3 M0 HB B0 hb1
  go_wp2_with fail
  refine (fnew_nil cl w1).mono ?_
  rintro e w2 ⟨rfl, hb2⟩
  have HB2 := hide (bt HB1.out hb2)
  clear hb2
  go_wp2_with fail
  refine (HA.out _ HB2.out).mono ?_
  rintro e w3 ⟨rfl, hb3⟩
  have HB3 := hide (bt HB2.out hb3)
  clear hb3
  go_wp2_with fail
  go_ret
  exact ⟨rfl, HB3.out⟩
set_option maxRecDepth 100000 in
set_option maxHeartbeats 4000000 in
theorem cnt_cls (W H : Int) (tv bv : Value) (tl : List Nat) (L : List Bd) (cl s : Int) (w : World) (hv : TlR w tv tl) (hb : ∀ x ∈ tl, x < 256) (hl : BdR w bv L) (hg : Grnd w) (ho : Offs w) (hc : chkC W H tl L = 0) (hk : isC cl = false) :
    Calls Tryd.prog 5 #[mp W H tv bv, .int .i64 cl, .int .i64 s] w fun e w' => e = .returned (.bool true) ∧ Below w.heap.size w w' := by
  obtain ⟨X, hX, B0, M0⟩ := cnt_box w W H tv bv
  have HB := hide (both_ok W H tv bv tl L X (hv.kept B0) hb (hl.kept B0) hc)
  have HA : Hid (∀ wx, Below w.heap.size w wx → Calls Tryd.prog 10 #[] wx fun e w' => e = .returned (.bool true) ∧ Below wx.heap.size wx w') := hide fun wx hx => awake_any wx (hg.kept hx) (ho.kept hx)
  have HK := hide hk
  obtain ⟨m0, m1, m2, m3⟩ := M0.c
  obtain ⟨a1, cap1, rfl, -⟩ := hv
  obtain ⟨a2, cap2, rfl, -⟩ := hl
  clear hc hb hg ho hk
  go_enter Tryd.func5, Tryd.ntmps5
  go_wp2_with fail
  refine HB.out.mono ?_
  rintro e w1 ⟨q, r, rfl, hW, hR, hb1⟩
  have HW := hide hW
  have HB1 := hide (bt B0 hb1)
  clear hX m0 m1 m2 m3 M0 HB B0 hb1 hW hR
  go_wp2_with fail
  refine (fnew_bad cl HW.out.1 HK.out).mono ?_
  rintro e w2 ⟨rfl, hb2⟩
  have HB2 := hide (bt HB1.out hb2)
  clear hb2
  go_wp2_with fail
  refine (HA.out _ HB2.out).mono ?_
  rintro e w3 ⟨rfl, hb3⟩
  have HB3 := hide (bt HB2.out hb3)
  clear hb3
  go_wp2_with fail
  go_ret
  exact ⟨rfl, HB3.out⟩
theorem range_take {N i : Nat} (h : i ≤ N) (f : Nat → Nat) : ((List.range N).map f).take i = (List.range i).map f := by
  rw [← List.map_take, List.take_range, Nat.min_eq_left h]
set_option maxRecDepth 100000 in
set_option maxHeartbeats 8000000 in
theorem cnt_good (wd ht : Nat) (hwd : (1 ≤ wd ∧ wd ≤ 128) ∧ 1 ≤ ht ∧ ht ≤ 128) (tv bv : Value) (tl : List Nat) (L : List Bd) (cl s : Int) (w : World) (hv : TlR w tv tl) (hb : ∀ x ∈ tl, x < 256) (hl : BdR w bv L) (hg : Grnd w) (ho : Offs w) (hc : chkC wd ht tl L = 0) (hk : isC cl = true) :
    Calls Tryd.prog 5 #[mp wd ht tv bv, .int .i64 cl, .int .i64 s] w fun e w' => e = .returned (.bool true) ∧ Below w.heap.size w w' := by
  obtain ⟨X0, hX0, B0, M0⟩ := cnt_box w wd ht tv bv
  have HB := hide (both_ok wd ht tv bv tl L X0 (hv.kept B0) hb (hl.kept B0) hc)
  have HA : Hid (∀ wx, Below w.heap.size w wx → Calls Tryd.prog 10 #[] wx fun e w' => e = .returned (.bool true) ∧ Below wx.heap.size wx w') := hide fun wx hx => awake_any wx (hg.kept hx) (ho.kept hx)
  have HG := hide hg
  have HO := hide ho
  have HK := hide hk
  obtain ⟨N, hN⟩ : ∃ N, N = wd * ht := ⟨_, rfl⟩
  have hN2 : N ≤ 16384 := by have := Nat.mul_le_mul hwd.1.2 hwd.2.2; omega
  have hmul : IntKind.i64.wrap ((wd : Int) * (ht : Int)) = (N : Nat) := by
    rw [show (wd : Int) * (ht : Int) = ((wd * ht : Nat) : Int) by push_cast; rfl, ← hN]
    exact wrap_nat hN2
  obtain ⟨m0, m1, m2, m3⟩ := M0.c
  obtain ⟨a1, cap1, rfl, -⟩ := hv
  obtain ⟨a2, cap2, rfl, -⟩ := hl
  clear hc hb hg ho hk
  go_enter Tryd.func5, Tryd.ntmps5
  go_wp2_with fail
  refine HB.out.mono ?_
  rintro e w1 ⟨q, r, rfl, hW, hR, hb1⟩
  have HW := hide hW
  have HR := hide hR
  have HB1 := hide (bt B0 hb1)
  clear hX0 m0 m1 m2 m3 M0 HB B0 hb1 hW hR
  go_wp2_with fail
  refine (fnew_good cl HW.out.1 HW.out.2 (HG.out.kept HB1.out) (HO.out.kept HB1.out) HK.out).mono ?_
  rintro e V ⟨p, b, rfl, ⟨hd, hs⟩, hb2, -⟩
  have HB2 := hide (bt HB1.out hb2)
  rw [← hN] at hd hs
  have HR2 := hide (HR.out.kept hb2)
  have hat : ∀ x y, atL wd ht ((List.range N).map (clrK (carB wd ht tl (whoF L) cl) wd)) x y = clr (carB wd ht tl (whoF L) cl) x y := fun x y => by
    rw [hN]; exact at_clr ⟨hwd.1.2, hwd.2.2⟩ (fun x y h => car_has h) x y
  have HAt : Hid (∀ wx, Below V.heap.size V wx → ∀ x y, Calls Tryd.prog 15 #[ptr p, cel x y] wx fun e w' => e = .returned (.int .i64 (clr (carB wd ht tl (whoF L) cl) x y : Nat)) ∧ Below wx.heap.size wx w') := hide fun wx hx x y =>
    fat_is x y (hat x y) (hd.upto hx) (hs.upto hx) ⟨hwd.1.2, hwd.2.2⟩ (by simp [hN]) (by simp) (clr_bytes _ _ _)
  have HCl : Hid (∀ wx, Below V.heap.size V wx → ∀ x y, Calls Tryd.prog 12 #[ptr r, .int .i64 cl, cel x y] wx fun e w' => e = .returned (.int .i64 (clr (carB wd ht tl (whoF L) cl) x y : Nat)) ∧ Below wx.heap.size wx w') := hide fun wx hx x y => refclear_any cl x y (HR2.out.kept hx)
  have HCn : Hid (∀ wx, Below V.heap.size V wx → Calls Tryd.prog 19 #[ptr p, .int .i64 s] wx fun e w' => e = .returned (.int .i64 (cntS s ((List.range N).map (clrK (carB wd ht tl (whoF L) cl) wd)) : Nat)) ∧ w' = wx) := hide fun wx hx => fcount_any s (hd.upto hx) (hs.upto hx) (by simp) (by simpa using hN2) (clr_bytes _ _ _)
  have HA2 : Hid (∀ wx, Below V.heap.size V wx → Calls Tryd.prog 10 #[] wx fun e w' => e = .returned (.bool true) ∧ Below wx.heap.size wx w') := hide fun wx hx => HA.out _ (bt HB2.out hx)
  have HAl := hide (refall_is HR2.out)
  have HN := hide hN
  clear hd hs hb2 HW HR HA HG HO HK HB1 hat hN
  go_wp2_with fail
  refine HAl.out.mono ?_
  rintro e w3 ⟨rfl, hb3⟩
  have FX : Four (w3.alloc (.cells #[.int .i64 0, .int .i64 0, .int .i64 wd, .int .i64 ht] 45)) w3.heap.size 0 0 wd ht := cells4 (Below.refl _ _)
  have BX : Below V.heap.size V (w3.alloc (.cells #[.int .i64 0, .int .i64 0, .int .i64 wd, .int .i64 ht] 45)) := bt hb3 (box1 _ _)
  obtain ⟨X, hX⟩ : ∃ X, w3.alloc (.cells #[.int .i64 0, .int .i64 0, .int .i64 wd, .int .i64 ht] 45) = X := ⟨_, rfl⟩
  rw [hX] at FX BX
  obtain ⟨d0, d1, d2, d3⟩ := FX.lat
  clear HAl hb3
  have hwI : (1 : Int) ≤ (wd : Nat) ∧ ((wd : Nat) : Int) ≤ 128 := by omega
  have hwd0 : ¬ wd = 0 := by omega
  generalize hcar : carB wd ht tl (whoF L) cl = car at HAt HCl HCn
  clear hcar
  go_wp2_with fail
  go_loopw [13, 14] (fun a d wr => ∃ i : Nat, i ≤ N ∧ (a = .int .i64 ((cntS s ((List.range i).map (clrK car wd)) : Nat) : Int) ∧ d = .int .i64 (i : Nat)) ∧ ∃ m : Lat X, wr = m.w) (fun _ d _ => N - (intOf d).toNat)
  case atStart => exact ⟨0, by omega, ⟨rfl, rfl⟩, ⟨X, Below.refl _ _⟩, rfl⟩
  case round =>
    obtain ⟨i, hi, ⟨rfl, rfl⟩, m, rfl⟩ := hrel
    have n2 := d2 m
    have n3 := d3 m
    clear hX
    have hcl := cntS_le s ((List.range i).map (clrK car wd))
    rw [List.length_map, List.length_range] at hcl
    have hnx : cntS s ((List.range (i + 1)).map (clrK car wd)) = cntS s ((List.range i).map (clrK car wd)) + (if s ≤ (clrK car wd i : Int) then 1 else 0) := by
      rw [List.range_succ, List.map_append]; exact cntS_snoc _ _ _
    obtain ⟨k, hk⟩ : ∃ k, cntS s ((List.range i).map (clrK car wd)) = k := ⟨_, rfl⟩
    rw [hk] at hcl hnx ⊢
    by_cases hlt : i < N
    · have hli : ((i : Nat) : Int) < (N : Nat) := by omega
      have hiI : (0 : Int) ≤ (i : Nat) ∧ ((i : Nat) : Int) ≤ 16384 := by omega
      have hkI : (0 : Int) ≤ (k : Nat) ∧ ((k : Nat) : Int) ≤ 16384 := by omega
      have Hnx := hide hnx
      have Hk := hide hk
      clear hnx hk
      go_wp2_with fail
      skip
      obtain ⟨kx, hkx⟩ : ∃ kx : Int, ((i % wd : Nat) : Int) = kx := ⟨_, rfl⟩
      obtain ⟨ky, hky⟩ : ∃ ky : Int, ((i / wd : Nat) : Int) = ky := ⟨_, rfl⟩
      have hrem : (i : Int).tmod (wd : Int) = kx := hkx
      have hrem2 : (i : Int) % (wd : Int) = kx := by rw [← hkx]; exact (Int.natCast_emod i wd).symm
      have hquo : IntKind.i64.wrap ((i : Int) / (wd : Int)) = ky := by
        rw [← hky, ← Int.natCast_ediv]
        exact wrap_nat (Nat.le_trans (Nat.div_le_self i wd) (by omega))
      have hc0 : clrK car wd i = clr car kx ky := by unfold clrK; rw [hkx, hky]
      have hxr : 0 ≤ kx ∧ kx < 128 := by rw [← hkx]; exact rng _ (Nat.lt_of_lt_of_le (Nat.mod_lt _ (by omega)) hwd.1.2)
      have hyr : 0 ≤ ky ∧ ky < 128 := by
        rw [← hky]
        refine rng _ (Nat.lt_of_lt_of_le ?_ hwd.2.2)
        rw [Nat.div_lt_iff_lt_mul (by omega), Nat.mul_comm ht wd, ← HN.out]
        exact hlt
      rw [hc0] at Hnx
      clear hkx hky hc0
      have HS : Hid (∀ wx, Below m.w.heap.size m.w wx → wx.cell? ⟨w3.heap.size, 2, none⟩ = some (.int .i64 wd)) := hide fun wx hx => d2 ⟨wx, bt m.h hx⟩
      refine Code.wp_mono (Q := Only (fun a' w' => ∃ (Bx : Nat) (U45 U46 U47 U48 U49 U50 U51 U52 U53 U54 : Value), (Two w' Bx kx ky ∧ Below X.heap.size X w') ∧ a' = { tmps := #[mp wd ht (.slice a1 tl.length cap1) (.slice a2 L.length cap2), .int .i64 cl, .int .i64 s, ptr w.heap.size, undef, undef, u6, ptr q, ptr r, .bool true, ptr p, .int .i64 0, ptr w3.heap.size, .int .i64 (k : Nat), .int .i64 (i : Nat), ptr Bx, .tuple #[ptr q, ptr r, .bool true], .agg #[.int .i64 wd, .int .i64 ht, .slice a1 tl.length cap1, .slice a2 L.length cap2], .tuple #[ptr q, ptr r, .bool true], ptr q, ptr r, .bool true, .tuple #[ptr p, .int .i64 0], ptr q, .int .i64 cl, .tuple #[ptr p, .int .i64 0], ptr p, .int .i64 0, .bool true, .bool false, .bool false, .int .i64 0, .bool false, .bool false, undef, ptr r, rct 0 0 wd ht, .int .i64 (i : Nat), .pointer (some ⟨w3.heap.size, 2, none⟩), .int .i64 wd, .pointer (some ⟨w3.heap.size, 3, none⟩), .int .i64 ht, .int .i64 (N : Nat), .bool true, u44, U45, U46, U47, U48, U49, U50, U51, U52, U53, U54, u55, u56, u57, u58, u59, u60, u61, u62, u63, u64, u65, u66, u67, u68, u69, u70, u71, u72, u73, u74, u75, u76, u77, u78, u79, u80, u81, u82, u83, u84, u85, u86, u87, u88, u89, u90, u91, u92, u93, u94, u95, u96, u97, u98, u99, u100, undef, undef, undef, undef, undef, undef, undef, undef], defers := [] })) ?rest ?_
      case rest =>
        rintro (_ | _ | _ | _ | _) a' W5 hO
        all_goals first | exact hO.elim | skip
        obtain ⟨Bx, U45, U46, U47, U48, U49, U50, U51, U52, U53, U54, ⟨T5, B5⟩, rfl⟩ := hO
        obtain ⟨⟨t0, t1⟩, -, -⟩ := id T5
        have Bv : Below V.heap.size V W5 := bt BX B5
        clear n2 n3 HS
        go_wp2_with fail
        refine (HCl.out _ Bv kx ky).mono ?_
        rintro e W6 ⟨rfl, hb6⟩
        have T6 := T5.kept hb6
        have B6 := bt B5 hb6
        obtain ⟨s0, s1⟩ := T6.lat
        have hne := lat_some W6
        have q1 := clr_left car kx ky
        have q2 := clr_up car kx ky
        obtain ⟨c0, hc0⟩ : ∃ c0, clr car kx ky = c0 := ⟨_, rfl⟩
        obtain ⟨x1, hx1⟩ : ∃ x1, kx - 1 = x1 := ⟨_, rfl⟩
        obtain ⟨y1, hy1⟩ : ∃ y1, ky - 1 = y1 := ⟨_, rfl⟩
        rw [hx1] at q1
        rw [hy1] at q2
        have hx1w : IntKind.i64.wrap (kx - 1) = x1 := by rw [IntKind.wrap_i64]; omega
        have hy1w : IntKind.i64.wrap (ky - 1) = y1 := by rw [IntKind.wrap_i64]; omega
        obtain ⟨c1, hc1⟩ : ∃ c1, clr car x1 ky = c1 := ⟨_, rfl⟩
        obtain ⟨c2, hc2⟩ : ∃ c2, clr car kx y1 = c2 := ⟨_, rfl⟩
        have z0 := clr_le car kx ky
        have z1 := clr_le car x1 ky
        have z2 := clr_le car kx y1
        have H0 : Hid (∀ m : Lat W6, Calls Tryd.prog 15 #[ptr p, cel kx ky] m.w fun e w' => e = .returned (.int .i64 (c0 : Nat)) ∧ Below m.w.heap.size m.w w') := hide fun m => by rw [← hc0]; exact HAt.out _ (bt BX (bt B6 m.h)) _ _
        have H1 : Hid (∀ m : Lat W6, Calls Tryd.prog 15 #[ptr p, cel x1 ky] m.w fun e w' => e = .returned (.int .i64 (c1 : Nat)) ∧ Below m.w.heap.size m.w w') := hide fun m => by rw [← hc1]; exact HAt.out _ (bt BX (bt B6 m.h)) _ _
        have H2 : Hid (∀ m : Lat W6, Calls Tryd.prog 15 #[ptr p, cel kx y1] m.w fun e w' => e = .returned (.int .i64 (c2 : Nat)) ∧ Below m.w.heap.size m.w w') := hide fun m => by rw [← hc2]; exact HAt.out _ (bt BX (bt B6 m.h)) _ _
        rw [hc0] at q1 q2 z0 Hnx ⊢
        rw [hc1] at q1 z1
        rw [hc2] at q2 z2
        have r1 : ¬ ((c0 : Nat) : Int) + 1 < (c1 : Nat) := by omega
        have r2 : ¬ ((c0 : Nat) : Int) + 1 < (c2 : Nat) := by omega
        have r1n : ¬ c0 + 1 < c1 := by omega
        have r2n : ¬ c0 + 1 < c2 := by omega
        have r1d := decide_eq_false r1
        have r2d := decide_eq_false r2
        have r1e := decide_eq_false r1n
        have r2e := decide_eq_false r2n
        have y0 : (0 : Int) ≤ (c0 : Nat) ∧ ((c0 : Nat) : Int) ≤ 4 := by omega
        clear hc0 hc1 hc2 q1 q2 z0 z1 z2 t0 t1 T5 T6 hb6 Bv
        by_cases hsz : s ≤ (c0 : Int)
        · by_cases hx0 : 0 < kx
          · by_cases hy0 : 0 < ky
            · have hxd := decide_eq_true hx0
              have hyd := decide_eq_true hy0
              go_wp2_with fail
              refine wp_region_lat (by kernel_rfl) (by kernel_rfl) ?_
              repeat (go_big_quiet_step (first | (go_at_call_of 15 x1; exact calls_lat (H1.out _)) | (go_at_call_of 15 y1; exact calls_lat (H2.out _)) | (go_at_call 15; exact calls_lat (H0.out _))))
              refine wpQuiet_nil ?_
              rintro _ ⟨m4, rfl⟩
              go_wp2_with fail
              go_roundw
              case rel => (repeat apply Exists.intro); exact ⟨⟨i + 1, by omega, ⟨by rw [Hnx.out, if_pos hsz]; go_num, by go_num⟩, ⟨m4.w, bt B6 m4.h⟩, rfl⟩, rfl⟩
              case measure => simp [intOf]; omega
            · have hxd := decide_eq_true hx0
              have hyd := decide_eq_false hy0
              go_wp2_with fail
              refine wp_region_lat (by kernel_rfl) (by kernel_rfl) ?_
              repeat (go_big_quiet_step (first | (go_at_call_of 15 x1; exact calls_lat (H1.out _)) | (go_at_call_of 15 y1; exact calls_lat (H2.out _)) | (go_at_call 15; exact calls_lat (H0.out _))))
              refine wpQuiet_nil ?_
              rintro _ ⟨m4, rfl⟩
              go_wp2_with fail
              go_roundw
              case rel => (repeat apply Exists.intro); exact ⟨⟨i + 1, by omega, ⟨by rw [Hnx.out, if_pos hsz]; go_num, by go_num⟩, ⟨m4.w, bt B6 m4.h⟩, rfl⟩, rfl⟩
              case measure => simp [intOf]; omega
          · by_cases hy0 : 0 < ky
            · have hxd := decide_eq_false hx0
              have hyd := decide_eq_true hy0
              go_wp2_with fail
              refine wp_region_lat (by kernel_rfl) (by kernel_rfl) ?_
              repeat (go_big_quiet_step (first | (go_at_call_of 15 x1; exact calls_lat (H1.out _)) | (go_at_call_of 15 y1; exact calls_lat (H2.out _)) | (go_at_call 15; exact calls_lat (H0.out _))))
              refine wpQuiet_nil ?_
              rintro _ ⟨m4, rfl⟩
              go_wp2_with fail
              go_roundw
              case rel => (repeat apply Exists.intro); exact ⟨⟨i + 1, by omega, ⟨by rw [Hnx.out, if_pos hsz]; go_num, by go_num⟩, ⟨m4.w, bt B6 m4.h⟩, rfl⟩, rfl⟩
              case measure => simp [intOf]; omega
            · have hxd := decide_eq_false hx0
              have hyd := decide_eq_false hy0
              go_wp2_with fail
              refine wp_region_lat (by kernel_rfl) (by kernel_rfl) ?_
              repeat (go_big_quiet_step (first | (go_at_call_of 15 x1; exact calls_lat (H1.out _)) | (go_at_call_of 15 y1; exact calls_lat (H2.out _)) | (go_at_call 15; exact calls_lat (H0.out _))))
              refine wpQuiet_nil ?_
              rintro _ ⟨m4, rfl⟩
              go_wp2_with fail
              go_roundw
              case rel => (repeat apply Exists.intro); exact ⟨⟨i + 1, by omega, ⟨by rw [Hnx.out, if_pos hsz]; go_num, by go_num⟩, ⟨m4.w, bt B6 m4.h⟩, rfl⟩, rfl⟩
              case measure => simp [intOf]; omega
        · by_cases hx0 : 0 < kx
          · by_cases hy0 : 0 < ky
            · have hxd := decide_eq_true hx0
              have hyd := decide_eq_true hy0
              go_wp2_with fail
              refine wp_region_lat (by kernel_rfl) (by kernel_rfl) ?_
              repeat (go_big_quiet_step (first | (go_at_call_of 15 x1; exact calls_lat (H1.out _)) | (go_at_call_of 15 y1; exact calls_lat (H2.out _)) | (go_at_call 15; exact calls_lat (H0.out _))))
              refine wpQuiet_nil ?_
              rintro _ ⟨m4, rfl⟩
              go_wp2_with fail
              go_roundw
              case rel => (repeat apply Exists.intro); exact ⟨⟨i + 1, by omega, ⟨by rw [Hnx.out, if_neg (by omega)]; rfl, by go_num⟩, ⟨m4.w, bt B6 m4.h⟩, rfl⟩, rfl⟩
              case measure => simp [intOf]; omega
            · have hxd := decide_eq_true hx0
              have hyd := decide_eq_false hy0
              go_wp2_with fail
              refine wp_region_lat (by kernel_rfl) (by kernel_rfl) ?_
              repeat (go_big_quiet_step (first | (go_at_call_of 15 x1; exact calls_lat (H1.out _)) | (go_at_call_of 15 y1; exact calls_lat (H2.out _)) | (go_at_call 15; exact calls_lat (H0.out _))))
              refine wpQuiet_nil ?_
              rintro _ ⟨m4, rfl⟩
              go_wp2_with fail
              go_roundw
              case rel => (repeat apply Exists.intro); exact ⟨⟨i + 1, by omega, ⟨by rw [Hnx.out, if_neg (by omega)]; rfl, by go_num⟩, ⟨m4.w, bt B6 m4.h⟩, rfl⟩, rfl⟩
              case measure => simp [intOf]; omega
          · by_cases hy0 : 0 < ky
            · have hxd := decide_eq_false hx0
              have hyd := decide_eq_true hy0
              go_wp2_with fail
              refine wp_region_lat (by kernel_rfl) (by kernel_rfl) ?_
              repeat (go_big_quiet_step (first | (go_at_call_of 15 x1; exact calls_lat (H1.out _)) | (go_at_call_of 15 y1; exact calls_lat (H2.out _)) | (go_at_call 15; exact calls_lat (H0.out _))))
              refine wpQuiet_nil ?_
              rintro _ ⟨m4, rfl⟩
              go_wp2_with fail
              go_roundw
              case rel => (repeat apply Exists.intro); exact ⟨⟨i + 1, by omega, ⟨by rw [Hnx.out, if_neg (by omega)]; rfl, by go_num⟩, ⟨m4.w, bt B6 m4.h⟩, rfl⟩, rfl⟩
              case measure => simp [intOf]; omega
            · have hxd := decide_eq_false hx0
              have hyd := decide_eq_false hy0
              go_wp2_with fail
              refine wp_region_lat (by kernel_rfl) (by kernel_rfl) ?_
              repeat (go_big_quiet_step (first | (go_at_call_of 15 x1; exact calls_lat (H1.out _)) | (go_at_call_of 15 y1; exact calls_lat (H2.out _)) | (go_at_call 15; exact calls_lat (H0.out _))))
              refine wpQuiet_nil ?_
              rintro _ ⟨m4, rfl⟩
              go_wp2_with fail
              go_roundw
              case rel => (repeat apply Exists.intro); exact ⟨⟨i + 1, by omega, ⟨by rw [Hnx.out, if_neg (by omega)]; rfl, by go_num⟩, ⟨m4.w, bt B6 m4.h⟩, rfl⟩, rfl⟩
              case measure => simp [intOf]; omega
      refine wp_region_held_drew (S := fun wx => wx.cell? ⟨w3.heap.size, 2, none⟩ = some (.int .i64 wd)) (by kernel_rfl) (HS.out _ (Below.refl _ _).drew) (fun hHeld => ?_)
      refine wpAnyH_take (i := 0) (v := ?_) rfl (by kernel_rfl) (by kernel_rfl) (by kernel_rfl) (fun _ _ _ h => h.elim) (Or.inl ⟨by rfl, ?_⟩) (by assumption) ?_
      rotate_left
      · intro wx hSw
        try dsimp only at hSw
        go_simp
        try with_reducible rfl
      try simp only [Act.put, List.getElem_toArray, List.getElem_cons_zero, List.getElem_cons_succ, List.setIfInBounds_toArray, List.set_cons_zero, List.set_cons_succ]
      refine wpAnyH_take (i := 1) (v := ?_) rfl (by kernel_rfl) (by kernel_rfl) (by kernel_rfl) (fun _ _ _ h => h.elim) (Or.inl ⟨by rfl, ?_⟩) (by assumption) ?_
      rotate_left
      · intro wx hSw
        try dsimp only at hSw
        go_simp
        try with_reducible rfl
      try simp only [Act.put, List.getElem_toArray, List.getElem_cons_zero, List.getElem_cons_succ, List.setIfInBounds_toArray, List.set_cons_zero, List.set_cons_succ]
      refine wpAnyH_take (i := 2) (v := ?_) rfl (by kernel_rfl) (by kernel_rfl) (by kernel_rfl) (fun _ _ _ h => h.elim) (Or.inl ⟨by rfl, ?_⟩) (by assumption) ?_
      rotate_left
      · intro wx hSw
        try dsimp only at hSw
        go_simp
        try with_reducible rfl
      try simp only [Act.put, List.getElem_toArray, List.getElem_cons_zero, List.getElem_cons_succ, List.setIfInBounds_toArray, List.set_cons_zero, List.set_cons_succ]
      refine wpAnyH_take (i := 3) (v := ?_) rfl (by kernel_rfl) (by kernel_rfl) (by kernel_rfl) (fun _ _ _ h => h.elim) (Or.inl ⟨by rfl, ?_⟩) (by assumption) ?_
      rotate_left
      · intro wx hSw
        try dsimp only at hSw
        go_simp
        try with_reducible rfl
      try simp only [Act.put, List.getElem_toArray, List.getElem_cons_zero, List.getElem_cons_succ, List.setIfInBounds_toArray, List.set_cons_zero, List.set_cons_succ]
      refine wpAnyH_take (i := 4) (v := ?_) rfl (by kernel_rfl) (by kernel_rfl) (by kernel_rfl) (fun _ _ _ h => h.elim) (Or.inl ⟨by rfl, ?_⟩) (by assumption) ?_
      rotate_left
      · intro wx hSw
        try dsimp only at hSw
        go_simp
        try with_reducible rfl
      try simp only [Act.put, List.getElem_toArray, List.getElem_cons_zero, List.getElem_cons_succ, List.setIfInBounds_toArray, List.set_cons_zero, List.set_cons_succ]
      refine wpAnyH_take (i := 5) (v := ?_) rfl (by kernel_rfl) (by kernel_rfl) (by kernel_rfl) (fun _ _ _ h => h.elim) (Or.inl ⟨by rfl, ?_⟩) (by assumption) ?_
      rotate_left
      · intro wx hSw
        try dsimp only at hSw
        go_simp
        try with_reducible rfl
      try simp only [Act.put, List.getElem_toArray, List.getElem_cons_zero, List.getElem_cons_succ, List.setIfInBounds_toArray, List.set_cons_zero, List.set_cons_succ]
      refine wpAnyH_take (i := 6) (v := ?_) rfl (by kernel_rfl) (by kernel_rfl) (by kernel_rfl) (fun _ _ _ h => h.elim) (Or.inl ⟨by rfl, ?_⟩) (by assumption) ?_
      rotate_left
      · intro wx hSw
        try dsimp only at hSw
        go_simp
        try with_reducible rfl
      try simp only [Act.put, List.getElem_toArray, List.getElem_cons_zero, List.getElem_cons_succ, List.setIfInBounds_toArray, List.set_cons_zero, List.set_cons_succ]
      refine wpAnyH_take (i := 7) (v := ?_) rfl (by kernel_rfl) (by kernel_rfl) (by kernel_rfl) (fun _ _ _ h => h.elim) (Or.inl ⟨by rfl, ?_⟩) (by assumption) ?_
      rotate_left
      · intro wx hSw
        try dsimp only at hSw
        go_simp
        try with_reducible rfl
      try simp only [Act.put, List.getElem_toArray, List.getElem_cons_zero, List.getElem_cons_succ, List.setIfInBounds_toArray, List.set_cons_zero, List.set_cons_succ]
      refine wpAnyH_take (i := 8) (v := ?_) rfl (by kernel_rfl) (by kernel_rfl) (by kernel_rfl) (fun _ _ _ h => h.elim) (Or.inl ⟨by rfl, ?_⟩) (by assumption) ?_
      rotate_left
      · intro wx hSw
        try dsimp only at hSw
        go_simp
        try with_reducible rfl
      try simp only [Act.put, List.getElem_toArray, List.getElem_cons_zero, List.getElem_cons_succ, List.setIfInBounds_toArray, List.set_cons_zero, List.set_cons_succ]
      refine wpAnyH_ready (rs := [9]) (by kernel_rfl) (by simp) ?_
      refine AllReadyH.cons rfl (fun K hK => ?_) ?_
      · go_simp
        refine hK.out _ _ ?_ (fun hHeld => ?_)
        · first | exact HS.out _ (Below.refl _ _).drew | exact HS.out _ hM9 | exact HS.out _ (bt (Below.refl _ _).drew (box1 _ _)) | exact HS.out _ (box1 _ _).drew
        clear hK K
        try simp only [Act.put, List.getElem_toArray, List.getElem_cons_zero, List.getElem_cons_succ, List.setIfInBounds_toArray, List.set_cons_zero, List.set_cons_succ]
        refine wpAnyH_ready (rs := [10]) (by kernel_rfl) (by simp) ?_
        refine AllReadyH.cons rfl (fun K hK => ?_) ?_
        · go_simp
          have T9 : Two (m.w.alloc (.cells #[.int .i64 kx, .int .i64 ky] 27)).drew m.w.heap.size kx ky := (Two.newAt rfl : Two (m.w.alloc (.cells #[.int .i64 kx, .int .i64 ky] 27)) m.w.heap.size kx ky).kept (Below.refl _ _).drew
          have hM9 : Below m.w.heap.size m.w (m.w.alloc (.cells #[.int .i64 kx, .int .i64 ky] 27)).drew := (box1 _ _).drew
          have hX9 := bt m.h hM9
          refine hK.out _ _ ?_ (fun hHeld => ?_)
          · first | exact HS.out _ (Below.refl _ _).drew | exact HS.out _ hM9 | exact HS.out _ (bt (Below.refl _ _).drew (box1 _ _)) | exact HS.out _ (box1 _ _).drew
          clear hK K
          try simp only [Act.put, List.getElem_toArray, List.getElem_cons_zero, List.getElem_cons_succ, List.setIfInBounds_toArray, List.set_cons_zero, List.set_cons_succ]
          refine wpAnyH_done (by kernel_rfl) ?_ _
          exact ⟨_, _, _, _, _, _, _, _, _, _, _, ⟨T9, hX9⟩, rfl⟩
        exact AllReadyH.nil
      exact AllReadyH.nil
    · obtain rfl : i = N := by omega
      have hli : ¬ ((i : Nat) : Int) < (i : Nat) := by omega
      have Hk := hide hk
      clear hnx hk
      go_wp2_with fail
      refine (HCn.out _ (bt BX m.h)).mono ?_
      rintro e W7 ⟨rfl, rfl⟩
      rw [Hk.out]
      go_wp2_with fail
      refine (HA2.out _ (bt BX m.h)).mono ?_
      rintro e W8 ⟨rfl, hb8⟩
      have hE := bt HB2.out (bt BX (bt m.h hb8))
      clear hb8
      go_wp2_with fail
      go_ret
      exact ⟨rfl, hE⟩
end Go.Proofs.YtnoodnmbghfchaaDoor
