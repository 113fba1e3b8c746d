/-
  The program's Line: its cells, in memory of its own. The document's Line.
-/
import Derived.Test.YtekpamilcpeanaaDoorLp
import Derived.Test.YtekpamilcpeanaaDoorSearch
namespace Go.Proofs.YtekpamilcpeanaaDoor
open Go.RowKit Go.Shelf
set_option linter.unusedVariables false
set_option linter.unusedSimpArgs false
theorem cmp_sg (p x : Int) : cmpI p x = sg (p - x) := by
  unfold cmpI sg
  split <;> split <;> (try split) <;> (try split) <;> omega
theorem near_wrap {x s : Int} (h : -1048576 ≤ x ∧ x ≤ 1048576) (hs : -1 ≤ s ∧ s ≤ 1) : IntKind.i64.wrap (x + s) = x + s := by rw [IntKind.wrap_i64]; omega
theorem Rcmp : Rcl 44 := zl fun _ _ => by go_simp
set_option maxHeartbeats 4000000 in
theorem toward_any (x y p q : Int) (w : World) (hn : nrC x y = true) : Calls Tryd.prog 26 #[cel x y, cel p q] w fun e w' => e = .returned (cel (x + sg (p - x)) (y + sg (q - y))) ∧ Below w.heap.size w w' := by
  obtain ⟨hx, hy⟩ := (nrC_iff x y).1 hn
  have w1 := near_wrap hx (sg_range (p - x))
  have w2 := near_wrap hy (sg_range (q - y))
  have hc1 := cmp_sg p x
  have hc2 := cmp_sg q y
  obtain ⟨s, hs⟩ : ∃ s, sg (p - x) = s := ⟨_, rfl⟩
  obtain ⟨t, ht⟩ : ∃ t, sg (q - y) = t := ⟨_, rfl⟩
  rw [hs] at hc1 w1
  rw [ht] at hc2 w2
  rw [hs]
  rw [ht]
  obtain ⟨u, hu⟩ : ∃ u, x + s = u := ⟨_, rfl⟩
  obtain ⟨v, hv⟩ : ∃ v, y + t = v := ⟨_, rfl⟩
  rw [hu] at w1 ⊢
  rw [hv] at w2 ⊢
  have C1 : ∀ wx, Calls Tryd.prog 44 #[.int .i64 p, .int .i64 x] wx fun e w' => e = .returned (.int .i64 s) ∧ w' = wx := fun wx => hc1 ▸ cmp_any p x wx
  have C2 : ∀ wx, Calls Tryd.prog 44 #[.int .i64 q, .int .i64 y] wx fun e w' => e = .returned (.int .i64 t) ∧ w' = wx := fun wx => hc2 ▸ cmp_any q y wx
  obtain ⟨X, hX⟩ : ∃ X, (((w.alloc (.cells #[.int .i64 x, .int .i64 y] 23)).alloc (.cells #[.int .i64 p, .int .i64 q] 23)).alloc (.cells #[.int .i64 0, .int .i64 0] 23)) = X := ⟨_, rfl⟩
  have B0 : Below w.heap.size w X := by rw [← hX]; exact bt (box2 _ _ _) (box1 _ _)
  have A0 : Two X w.heap.size x y := by rw [← hX]; exact ((Two.newAt rfl).alloc).alloc
  have A1 : Two X (w.heap.size + 1) p q := by rw [← hX]; exact (Two.newAt (by simp)).alloc
  have A2 : Two X (w.heap.size + 1 + 1) 0 0 := by rw [← hX]; exact Two.newAt (by simp)
  obtain ⟨Y, hY⟩ : ∃ Y, X.drew = Y := ⟨_, rfl⟩
  have BY : Below X.heap.size X Y := by rw [← hY]; exact (Below.refl _ _).drew
  obtain ⟨⟨a0, a1⟩, -, -⟩ := A0.kept BY
  obtain ⟨⟨b0, b1⟩, -, -⟩ := A1.kept BY
  have HA := hide (A2.kept BY)
  obtain ⟨⟨e0, e1⟩, ⟨f0, f1⟩, f2⟩ := A2.kept BY
  have hsz : w.heap.size ≤ Y.heap.size := Nat.le_trans B0.size BY.size
  have HY := hide hY
  have HX := hide hX
  have HC := hide (And.intro C1 C2)
  have HW := hide (And.intro w1 w2)
  have HB := hide (bt B0 BY)
  have HU := hide (And.intro hu hv)
  clear hX C1 C2 w1 w2 B0 hu hv hs ht hc1 hc2 hx hy hn hY BY A0 A1 A2
  go_enter Tryd.func26, Tryd.ntmps26
  go_wp2_with (rw [HX.out])
  refine wp_only ?_
  refine wp_region_z (fun wx : World => wx = Y) [17] (by kernel_rfl) ?_
  rw [HY.out]
  refine zx 0 6 8 rfl (by kernel_rfl) rfl ?_
  repeat (refine zxc rfl (by rfl) (fun wx hx => by subst hx; go_simp; rfl) ?_; simp only [zp])
  refine zxn ?_
  refine zx 8 6 8 rfl (by kernel_rfl) rfl ?_
  repeat (refine zxc rfl (by rfl) (fun wx hx => by subst hx; go_simp; rfl) ?_; simp only [zp])
  refine zxn ?_
  refine zw 6 [] (by kernel_rfl) ?_
  refine readyZ.call rfl rfl (Rcmp (by rfl) (by rfl) (by simp only [zj]; rfl)) (HC.out.1 _) ?_ readyZ.nil
  rintro e W ⟨rfl, rfl⟩
  refine ⟨_, rfl, fun _ => rfl, ?_⟩
  simp only [zp]
  obtain ⟨w1, w2⟩ := HW.out
  obtain ⟨u1, u2⟩ := HU.out
  refine zx 7 1 8 rfl (by kernel_rfl) rfl ?_
  refine zxc (v := .int .i64 u) rfl (by rfl) (fun wx hx => by subst hx; go_simp) ?_
  simp only [zp]
  refine zxn ?_
  refine zw 14 [] (by kernel_rfl) ?_
  refine readyZ.call rfl rfl (Rcmp (by rfl) (by rfl) (by simp only [zj]; rfl)) (HC.out.2 _) ?_ readyZ.nil
  rintro e W2 ⟨rfl, rfl⟩
  refine ⟨_, rfl, fun _ => rfl, ?_⟩
  simp only [zp]
  refine zx 15 2 8 rfl (by kernel_rfl) rfl ?_
  refine zxc (v := .int .i64 v) rfl (by rfl) (fun wx hx => by subst hx; go_simp) ?_
  simp only [zp]
  refine zxc (v := cel u v) rfl (by rfl) (fun wx hx => by subst hx; go_simp) ?_
  simp only [zp]
  refine zxn ?_
  refine zw 17 [] (by kernel_rfl) ?_
  refine readyZ.skip rfl rfl (by go_simp; rfl) (fun h => absurd (by decide) h) ?_ readyZ.nil
  refine anyZ_done (by kernel_rfl) ?_ _
  dsimp only [Only, Exit.then]
  have HBL := hide ((Turns.set (S := fun j => j = w.heap.size + 1 + 1) W2 (p := ⟨w.heap.size + 1 + 1, 0, none⟩) rfl (.int .i64 u)).trans (Turns.set (S := fun j => j = w.heap.size + 1 + 1 ∨ W2.heap.size ≤ j) _ (p := ⟨w.heap.size + 1 + 1, 1, none⟩) (.inl rfl) (.int .i64 v)))
  simp only [zp]
  go_wp2_with fail
  refine bodyPost_ret (v := cel u v) (by simp [results, Tryd.results26, go_sem, e0, e1]) rfl ⟨rfl, HB.out.trans (HBL.out.below (B := w.heap.size) (fun k e => by omega) hsz)⟩
/-- How long a slice is. -/
def lenV : Value → Nat
  | .slice _ n _ => n
  | _ => 0
theorem apN_lnN {x y p q : Int} (h1 : nrC x y = true) (h2 : nrC p q = true) : apN x y p q = (lnN x y p q : Nat) := by
  rw [apN_yes h1 h2]
  have := amt_nonneg (x - p)
  have := amt_nonneg (y - q)
  unfold lnN
  omega
theorem apart_is {x y p q n : Int} (h : apN x y p q = n) (w : World) : Calls Tryd.prog 25 #[cel x y, cel p q] w fun e w' => e = .returned (.int .i64 n) ∧ Below w.heap.size w w' := h ▸ apart_any x y p q w
abbrev LnE (w : World) (L : List (Int × Int)) : Ending → World → Prop := fun e w' => ∃ v, e = .returned v ∧ Cn w' v L ∧ (∀ k, v.ownBlock = some k → w.heap.size ≤ k) ∧ Below w.heap.size w w'
theorem lnE_nil {w w' : World} (h : Below w.heap.size w w') : LnE w [] (.returned (.slice none 0 0)) w' := ⟨_, rfl, Rw.nil _ _ _ _, (fun k e => by cases e), h⟩
theorem lineL_no1 {x y p q : Int} (h : nrC x y = false) : lineL x y p q = [] := if_neg (by rw [h]; simp)
theorem lineL_no2 {x y p q : Int} (h : nrC p q = false) : lineL x y p q = [] := if_neg (by rw [h]; simp)
theorem lineL_no3 {x y p q : Int} (h : ¬ lnN x y p q ≤ 16384) : lineL x y p q = [] := if_neg (fun e => h e.2.2)
set_option maxHeartbeats 2000000 in
theorem line_no1 (x y p q : Int) (w : World) (h : nrC x y = false) : Calls Tryd.prog 9 #[cel x y, cel p q] w (LnE w (lineL x y p q)) := by
  rw [lineL_no1 h]
  go_enter Tryd.func9, Tryd.ntmps9
  go_wp2_with (go_at_call 24; refine (near_any _ _ _).mono ?_; rintro e w1 ⟨rfl, hb1⟩)
  go_ret
  exact lnE_nil (bt (box2 _ _ _) hb1)
set_option maxHeartbeats 2000000 in
theorem line_no2 (x y p q : Int) (w : World) (h : nrC x y = true) (h2 : nrC p q = false) : Calls Tryd.prog 9 #[cel x y, cel p q] w (LnE w (lineL x y p q)) := by
  rw [lineL_no2 h2]
  go_enter Tryd.func9, Tryd.ntmps9
  go_wp2_with fail
  refine (near_any _ _ _).mono ?_
  rintro e w1 ⟨rfl, hb1⟩
  obtain ⟨⟨e0, e1⟩, _, z1⟩ := cells2'' hb1
  go_wp2_with fail
  refine (near_any _ _ _).mono ?_
  rintro e w2 ⟨rfl, hb2⟩
  go_wp2_with fail
  go_ret
  exact lnE_nil (bt (bt (box2 _ _ _) hb1) hb2)
set_option maxHeartbeats 2000000 in
theorem line_no3 (x y p q : Int) (w : World) (h : nrC x y = true) (h2 : nrC p q = true) (h3 : ¬ lnN x y p q ≤ 16384) : Calls Tryd.prog 9 #[cel x y, cel p q] w (LnE w (lineL x y p q)) := by
  rw [lineL_no3 h3]
  obtain ⟨n, hn⟩ : ∃ n, apN x y p q = n := ⟨_, rfl⟩
  have HA := hide (fun wx => apart_is hn wx)
  rw [apN_lnN h h2] at hn
  have hg : (16384 : Int) < n := by omega
  clear hn h3
  go_enter Tryd.func9, Tryd.ntmps9
  go_wp2_with fail
  refine (near_any _ _ _).mono ?_
  rintro e w1 ⟨rfl, hb1⟩
  obtain ⟨⟨c0, c1⟩, ⟨f0, f1⟩, z0⟩ := cells2' hb1
  obtain ⟨⟨e0, e1⟩, ⟨g0, g1⟩, z1⟩ := cells2'' hb1
  have B1 := hide (bt (box2 _ _ _) hb1)
  clear hb1
  go_wp2_with fail
  refine (near_any _ _ _).mono ?_
  rintro e w2 ⟨rfl, hb2⟩
  obtain ⟨⟨k0, k1⟩, _⟩ := Below.two hb2 z0 c0 c1 f0 f1
  obtain ⟨⟨l0, l1⟩, _⟩ := Below.two hb2 z1 e0 e1 g0 g1
  have B2 := hide hb2
  clear hb2 c0 c1 e0 e1
  go_wp2_with fail
  refine (HA.out _).mono ?_
  rintro e w3 ⟨rfl, hb3⟩
  have B3 := hide hb3
  clear hb3 k0 k1 l0 l1
  go_wp2_with fail
  go_ret
  exact lnE_nil (bt (bt B1.out B2.out) B3.out)
/-- The loop that takes one cell after the other. -/
structure LnI (w : World) (p q : Int) (L : List (Int × Int)) (s5 s6 : Value) (wr : World) (b : Nat) (fx fy : Int) (acc : List (Int × Int)) : Prop where
  at6 : s6 = ptr b
  near : nrC fx fy = true
  two : Two wr b fx fy
  too : Two wr (w.heap.size + 1) p q
  row : Cn wr s5 acc
  own : ∀ k, s5.ownBlock = some k → w.heap.size + 1 < k ∧ k ≠ b
  blk : w.heap.size + 1 < b
  all : acc ++ lnF (lnN fx fy p q) fx fy p q = L
  bl : Below w.heap.size w wr
theorem cn_len {w : World} {v : Value} {P : List (Int × Int)} (h : Cn w v P) : lenV v = P.length := by
  obtain ⟨a, c, rfl⟩ := h.slice
  rfl
set_option maxHeartbeats 4000000 in
theorem line_yes (x y p q : Int) (w : World) (h : nrC x y = true) (h2 : nrC p q = true) (h3 : lnN x y p q ≤ 16384) : Calls Tryd.prog 9 #[cel x y, cel p q] w (LnE w (lineL x y p q)) := by
  have hL : ([] : List (Int × Int)) ++ lnF (lnN x y p q) x y p q = lineL x y p q := (lineL_is h h2 h3).symm
  have hLl : (lineL x y p q).length ≤ 16384 := lineL_len x y p q
  obtain ⟨L, hLL⟩ : ∃ L, lineL x y p q = L := ⟨_, rfl⟩
  rw [hLL] at hL hLl ⊢
  have HL := hide (And.intro hL hLl)
  obtain ⟨n, hn⟩ : ∃ n : Nat, apN x y p q = (n : Nat) := ⟨_, apN_lnN h h2⟩
  have HA := hide (fun wx => apart_is hn wx)
  rw [apN_lnN h h2] at hn
  have hg : ¬ (16384 : Int) < (n : Nat) := by omega
  have hn16 : n ≤ 16384 := by omega
  have Hn := hide (And.intro h h2)
  clear hn h3 hL hLl hLL
  obtain ⟨X, hX⟩ : ∃ X, (w.alloc (.cells #[.int .i64 x, .int .i64 y] 23)).alloc (.cells #[.int .i64 p, .int .i64 q] 23) = X := ⟨_, rfl⟩
  have B : Below w.heap.size w X := by rw [← hX]; exact box2 _ _ _
  have A0 : Two X w.heap.size x y := by rw [← hX]; exact (Two.newAt rfl).alloc
  have A1 : Two X (w.heap.size + 1) p q := by rw [← hX]; exact Two.newAt (by simp)
  obtain ⟨⟨k0, k1⟩, -, -⟩ := id A0
  obtain ⟨⟨l0, l1⟩, -, -⟩ := id A1
  have HX := hide hX
  have HK := hide (And.intro A0 (And.intro A1 B))
  clear hX A0 A1 B
  go_enter Tryd.func9, Tryd.ntmps9
  go_wp2_with (rw [HX.out])
  refine (near_any _ _ _).mono ?_
  rintro e w1 ⟨rfl, hb1⟩
  clear k0 k1 l0 l1
  obtain ⟨A0, A1, B⟩ := HK.out
  clear HK
  have A0 := A0.kept hb1
  have A1 := A1.kept hb1
  have B := bt B hb1
  obtain ⟨⟨k0, k1⟩, -, -⟩ := id A0
  obtain ⟨⟨l0, l1⟩, -, -⟩ := id A1
  have HK := hide (And.intro A0 (And.intro A1 B))
  clear hb1 A0 A1 B
  go_wp2_with fail
  refine (near_any _ _ _).mono ?_
  rintro e w2 ⟨rfl, hb2⟩
  clear k0 k1 l0 l1
  obtain ⟨A0, A1, B⟩ := HK.out
  clear HK
  have A0 := A0.kept hb2
  have A1 := A1.kept hb2
  have B := bt B hb2
  obtain ⟨⟨k0, k1⟩, -, -⟩ := id A0
  obtain ⟨⟨l0, l1⟩, -, -⟩ := id A1
  have HK := hide (And.intro A0 (And.intro A1 B))
  clear hb2 A0 A1 B
  go_wp2_with fail
  refine (HA.out _).mono ?_
  rintro e w3 ⟨rfl, hb3⟩
  clear k0 k1 l0 l1
  obtain ⟨A0, A1, B⟩ := HK.out
  clear HK
  have A0 := A0.kept hb3
  have A1 := A1.kept hb3
  have B := bt B hb3
  obtain ⟨⟨k0, k1⟩, -, -⟩ := id A0
  obtain ⟨⟨l0, l1⟩, -, -⟩ := id A1
  have HK := hide (And.intro A0 (And.intro A1 B))
  clear hb3 A0 A1 B
  go_wp2_with fail
  refine (HA.out _).mono ?_
  rintro e w4 ⟨rfl, hb4⟩
  clear k0 k1 l0 l1
  obtain ⟨A0, A1, B⟩ := HK.out
  clear HK
  have A0 := A0.kept hb4
  have A1 := A1.kept hb4
  have B := bt B hb4
  obtain ⟨⟨k0, k1⟩, -, -⟩ := id A0
  obtain ⟨⟨l0, l1⟩, -, -⟩ := id A1
  have HK := hide (And.intro A0 (And.intro A1 B))
  clear hb4 A0 A1 B
  obtain ⟨w5, hr5, hc5, hb5, hs5⟩ := Cn.make w4 n hn16
  clear k0 k1 l0 l1
  obtain ⟨A0, A1, B⟩ := HK.out
  clear HK
  have sz4 := A1.2.2
  have A0 := A0.kept hb5
  have A1 := A1.kept hb5
  have B := bt B hb5
  have sz := A1.2.2
  obtain ⟨⟨k0, k1⟩, -, -⟩ := id A0
  obtain ⟨⟨l0, l1⟩, -, -⟩ := id A1
  have HR5 := hide hr5
  have HI := hide (show LnI w p q L (.slice (some ⟨w4.heap.size, 0, none⟩) 0 n) (ptr w5.heap.size) (w5.alloc (.cells #[.int .i64 x, .int .i64 y] 23)) w5.heap.size x y [] from {
    at6 := rfl
    near := Hn.out.1
    two := Two.newAt rfl
    too := A1.alloc
    row := hc5.upto (box1 _ _)
    own := fun k e => by have e' : w4.heap.size = k := Option.some.inj e; omega
    blk := by omega
    all := HL.out.1
    bl := bt B (box1 _ _) })
  clear hb5 hr5 hc5 A0 A1 B sz hs5 sz4
  go_wp2_with (rw [HR5.out])
  go_loopw [5, 6] (fun s5 s6 wr => ∃ b fx fy acc, LnI w p q L s5 s6 wr b fx fy acc) (fun s5 _ _ => L.length - lenV s5)
  case atStart => exact ⟨_, _, _, _, HI.out⟩
  case round =>
    obtain ⟨b, fx, fy, acc, hI⟩ := hrel
    obtain rfl := hI.at6
    obtain ⟨⟨k0, k1⟩, ⟨kf0, kf1⟩, kz⟩ := id hI.two
    obtain ⟨⟨l0, l1⟩, -, -⟩ := id hI.too
    by_cases heq : fx = p ∧ fy = q
    · obtain ⟨rfl, rfl⟩ := heq
      have hne : ∀ wx, (binOp .neq 23 (cel fx fy) (cel fx fy)).run Tryd.prog wx = .ok (.bool false) wx := fun wx => (neC _ _ _ _ wx).trans (by simp)
      have hall := hI.all
      rw [lnN_self, lnF, List.append_nil] at hall
      have HJ := hide (show LnE w L (.returned u5) wr from ⟨u5, rfl, hall ▸ hI.row, fun k e => by have := hI.own k e; omega, hI.bl⟩)
      clear hI hall
      go_wp2_with fail
      trace_state
      go_ret
      exact HJ.out
    · have hne : ∀ wx, (binOp .neq 23 (cel fx fy) (cel p q)).run Tryd.prog wx = .ok (.bool true) wx := fun wx => (neC _ _ _ _ wx).trans (by rw [show (decide (fx = p) && decide (fy = q)) = false by simpa using heq]; rfl)
      have hall := hI.all
      rw [lnN_succ heq, lnF, List.append_cons] at hall
      have hnn := nrC_toward hI.near Hn.out.2
      have HT := hide (toward_any fx fy p q wr hI.near)
      obtain ⟨nx, hnx⟩ : ∃ nx, fx + sg (p - fx) = nx := ⟨_, rfl⟩
      obtain ⟨ny, hny⟩ : ∃ ny, fy + sg (q - fy) = ny := ⟨_, rfl⟩
      rw [hnx, hny] at hall hnn HT
      have hlen : acc.length < L.length := by rw [← hall, List.length_append, List.length_append, List.length_singleton]; omega
      have hl5 := cn_len hI.row
      have HI' := hide hI
      have HN := hide (And.intro hall (And.intro hnn (And.intro hlen hl5)))
      clear hI hall hnn hlen hnx hny heq hl5 HI
      go_wp2_with fail
      refine HT.out.mono ?_
      rintro e w6 ⟨rfl, hb6⟩
      have hI := HI'.out
      have t6 := hI.two.kept hb6
      have TZ := (Turns.set (S := fun j => j = b) w6 (p := ⟨b, 0, none⟩) rfl (.int .i64 nx)).trans (Turns.set (S := fun j => j = b ∨ w6.heap.size ≤ j) _ (p := ⟨b, 1, none⟩) (.inl rfl) (.int .i64 ny))
      have tz := t6.set (s := nx) (t := ny)
      obtain ⟨Z, hZ⟩ : ∃ Z, (w6.setCell ⟨b, 0, none⟩ (.int .i64 nx)).setCell ⟨b, 1, none⟩ (.int .i64 ny) = Z := ⟨_, rfl⟩
      rw [hZ] at TZ tz
      have hbb := hI.blk
      have cz : Cn Z u5 acc := (hI.row.upto hb6).kept TZ (fun g e => (hI.own g e).2)
      have uz : Two Z (w.heap.size + 1) p q := two_kept (hI.too.kept hb6) TZ (by omega)
      have bz : Below w.heap.size w Z := (bt hI.bl hb6).trans (TZ.below (fun k e => by omega) (bt hI.bl hb6).size)
      obtain ⟨v7, W7, hr7, hc7, ho7, hT7⟩ := cz.push nx ny (by have := HN.out.2.2.1; have := HL.out.2; omega)
      have hbZ : b < Z.heap.size := tz.2.2
      have hb7 : ∀ k, u5.ownBlock = some k → w.heap.size ≤ k := fun k e => by have := (hI.own k e).1; omega
      have bw7 : Below w.heap.size w W7 := bz.trans (hT7.below hb7 bz.size)
      have t7 : Two W7 b nx ny := two_kept tz hT7 (fun e => (hI.own b e).2 rfl)
      have u7 : Two W7 (w.heap.size + 1) p q := two_kept uz hT7 (fun e => by have := (hI.own _ e).1; omega)
      have hw7 := hT7.size
      have HJ := hide (show LnI w p q L v7 (ptr W7.heap.size) (W7.alloc (.cells #[.int .i64 nx, .int .i64 ny] 23)) W7.heap.size nx ny (acc ++ [(nx, ny)]) from {
        at6 := rfl
        near := HN.out.2.1
        two := Two.newAt rfl
        too := u7.alloc
        row := hc7.upto (box1 _ _)
        own := fun k e => by
          have hk := (hc7.lt k e).2
          rcases ho7 k e with q | q
          · exact ⟨(hI.own k q).1, by omega⟩
          · omega
        blk := by omega
        all := HN.out.1
        bl := bt bw7 (box1 _ _) })
      have HZ := hide hZ
      have HR7 := hide hr7
      have HM := hide (show L.length - lenV v7 < L.length - lenV u5 by rw [HN.out.2.2.2, cn_len hc7, List.length_append]; have := HN.out.2.2.1; rw [List.length_singleton]; omega)
      obtain ⟨⟨k6, k7⟩, ⟨f6, f7⟩, -⟩ := id t6
      obtain ⟨⟨z6, z7⟩, -, -⟩ := id tz
      obtain ⟨⟨y6, y7⟩, -, -⟩ := id t7
      clear hb6 hI t6 TZ tz hZ cz uz bz hr7 hc7 ho7 hT7 hbZ hb7 bw7 t7 u7 hw7 HI' HN HT k0 k1 kf0 kf1 kz l0 l1 hbb
      go_wp2_with (first | rw [HZ.out] | (at_builtin; refine wpList_append_run rfl _ _ 26 rfl _ _ rfl rfl HR7.out ?_))
      go_roundw
      case rel => exact ⟨_, _, _, _, HJ.out⟩
      case measure => exact HM.out
theorem line_any (x y p q : Int) (w : World) : Calls Tryd.prog 9 #[cel x y, cel p q] w (LnE w (lineL x y p q)) := by
  cases h : nrC x y
  · exact line_no1 x y p q w h
  · cases h2 : nrC p q
    · exact line_no2 x y p q w h h2
    · by_cases h3 : lnN x y p q ≤ 16384
      · exact line_yes x y p q w h h2 h3
      · exact line_no3 x y p q w h h2 h3
end Go.Proofs.YtekpamilcpeanaaDoor
namespace Go.Proofs.YtekpamilcpeanaaDoor
open Go.RowKit Go.Shelf
set_option linter.unusedVariables false
set_option linter.unusedSimpArgs false
theorem sign_any (n : Int) (w : World) : Calls Tryd.prog 27 #[.int .i64 n] w fun e w' => e = .returned (.int .i64 (sg n)) ∧ w' = w := by
  rcases sg_three n with ⟨h, e⟩ | ⟨h, e⟩ | ⟨h, e⟩
  · rw [e]
    go_enter Tryd.func27, Tryd.ntmps27
    go_wp2
    go_ret
    exact ⟨rfl, rfl⟩
  · rw [e]
    subst h
    go_enter Tryd.func27, Tryd.ntmps27
    go_wp2
    go_ret
    exact ⟨rfl, rfl⟩
  · rw [e]
    have h' : ¬ n < 0 := by omega
    go_enter Tryd.func27, Tryd.ntmps27
    go_wp2
    go_ret
    exact ⟨rfl, rfl⟩
theorem Rsign : Rcl 27 := zl fun _ _ => by go_simp
theorem refapart_is {x y p q n : Int} (h : apN x y p q = n) (w : World) : Calls Tryd.prog 7 #[cel x y, cel p q] w fun e w' => e = .returned (.int .i64 n) ∧ Below w.heap.size w w' := h ▸ refapart_any x y p q w
set_option maxHeartbeats 2000000 in
theorem rline_no1 (x y p q : Int) (w : World) (h : nrC x y = false) : Calls Tryd.prog 11 #[cel x y, cel p q] w (LnE w (lineL x y p q)) := by
  rw [lineL_no1 h]
  obtain ⟨X, hX⟩ : ∃ X, ((w.alloc (.cells #[.int .i64 x, .int .i64 y] 23)).alloc (.cells #[.int .i64 p, .int .i64 q] 23)).alloc (.cells #[] 23) = X := ⟨_, rfl⟩
  have B : Below w.heap.size w X := by rw [← hX]; exact bt (box2 _ _ _) (box1 _ _)
  have A0 : Two X w.heap.size x y := by rw [← hX]; exact ((Two.newAt rfl).alloc).alloc
  have A1 : Two X (w.heap.size + 1) p q := by rw [← hX]; exact (Two.newAt (by simp)).alloc
  have C0 : Cn X (.slice (some ⟨w.heap.size + 1 + 1, 0, none⟩) 0 0) [] := by
    have := Cn.built ((w.alloc (.cells #[.int .i64 x, .int .i64 y] 23)).alloc (.cells #[.int .i64 p, .int .i64 q] 23))
    rw [hX] at this
    simpa using this
  obtain ⟨⟨k0, k1⟩, -, -⟩ := id A0
  obtain ⟨⟨l0, l1⟩, -, -⟩ := id A1
  have HX := hide hX
  have HK := hide (And.intro A0 (And.intro A1 (And.intro C0 B)))
  clear hX A0 A1 C0 B
  go_enter Tryd.func11, Tryd.ntmps11
  go_wp2_with (rw [HX.out])
  refine (refnear_any _ _ _).mono ?_
  rintro e w1 ⟨rfl, hb1⟩
  clear k0 k1 l0 l1
  obtain ⟨A0, A1, C0, B⟩ := HK.out
  clear HK
  have A0 := A0.kept hb1
  have A1 := A1.kept hb1
  have C0 := C0.upto hb1
  have B := bt B hb1
  obtain ⟨⟨k0, k1⟩, -, -⟩ := id A0
  obtain ⟨⟨l0, l1⟩, -, -⟩ := id A1
  have HK := hide (And.intro A0 (And.intro A1 (And.intro C0 B)))
  clear hb1 A0 A1 C0 B
  obtain ⟨A0, A1, C0, B⟩ := HK.out
  have HF := hide (show LnE w [] (.returned (.slice (some ⟨w.heap.size + 1 + 1, 0, none⟩) 0 0)) w1 from ⟨_, rfl, C0, (fun k e => by have e' : w.heap.size + 1 + 1 = k := Option.some.inj e; omega), B⟩)
  clear A0 A1 C0 B HK
  go_wp2_with fail
  go_ret
  exact HF.out
set_option maxHeartbeats 2000000 in
theorem rline_no2 (x y p q : Int) (w : World) (h : nrC x y = true) (h2 : nrC p q = false) : Calls Tryd.prog 11 #[cel x y, cel p q] w (LnE w (lineL x y p q)) := by
  rw [lineL_no2 h2]
  obtain ⟨X, hX⟩ : ∃ X, ((w.alloc (.cells #[.int .i64 x, .int .i64 y] 23)).alloc (.cells #[.int .i64 p, .int .i64 q] 23)).alloc (.cells #[] 23) = X := ⟨_, rfl⟩
  have B : Below w.heap.size w X := by rw [← hX]; exact bt (box2 _ _ _) (box1 _ _)
  have A0 : Two X w.heap.size x y := by rw [← hX]; exact ((Two.newAt rfl).alloc).alloc
  have A1 : Two X (w.heap.size + 1) p q := by rw [← hX]; exact (Two.newAt (by simp)).alloc
  have C0 : Cn X (.slice (some ⟨w.heap.size + 1 + 1, 0, none⟩) 0 0) [] := by
    have := Cn.built ((w.alloc (.cells #[.int .i64 x, .int .i64 y] 23)).alloc (.cells #[.int .i64 p, .int .i64 q] 23))
    rw [hX] at this
    simpa using this
  obtain ⟨⟨k0, k1⟩, -, -⟩ := id A0
  obtain ⟨⟨l0, l1⟩, -, -⟩ := id A1
  have HX := hide hX
  have HK := hide (And.intro A0 (And.intro A1 (And.intro C0 B)))
  clear hX A0 A1 C0 B
  go_enter Tryd.func11, Tryd.ntmps11
  go_wp2_with (rw [HX.out])
  refine (refnear_any _ _ _).mono ?_
  rintro e w1 ⟨rfl, hb1⟩
  clear k0 k1 l0 l1
  obtain ⟨A0, A1, C0, B⟩ := HK.out
  clear HK
  have A0 := A0.kept hb1
  have A1 := A1.kept hb1
  have C0 := C0.upto hb1
  have B := bt B hb1
  obtain ⟨⟨k0, k1⟩, -, -⟩ := id A0
  obtain ⟨⟨l0, l1⟩, -, -⟩ := id A1
  have HK := hide (And.intro A0 (And.intro A1 (And.intro C0 B)))
  clear hb1 A0 A1 C0 B
  go_wp2_with fail
  refine (refnear_any _ _ _).mono ?_
  rintro e w2 ⟨rfl, hb2⟩
  clear k0 k1 l0 l1
  obtain ⟨A0, A1, C0, B⟩ := HK.out
  clear HK
  have A0 := A0.kept hb2
  have A1 := A1.kept hb2
  have C0 := C0.upto hb2
  have B := bt B hb2
  obtain ⟨⟨k0, k1⟩, -, -⟩ := id A0
  obtain ⟨⟨l0, l1⟩, -, -⟩ := id A1
  have HK := hide (And.intro A0 (And.intro A1 (And.intro C0 B)))
  clear hb2 A0 A1 C0 B
  obtain ⟨A0, A1, C0, B⟩ := HK.out
  have HF := hide (show LnE w [] (.returned (.slice (some ⟨w.heap.size + 1 + 1, 0, none⟩) 0 0)) w2 from ⟨_, rfl, C0, (fun k e => by have e' : w.heap.size + 1 + 1 = k := Option.some.inj e; omega), B⟩)
  clear A0 A1 C0 B HK
  go_wp2_with fail
  go_ret
  exact HF.out
set_option maxHeartbeats 2000000 in
theorem rline_no3 (x y p q : Int) (w : World) (h : nrC x y = true) (h2 : nrC p q = true) (h3 : ¬ lnN x y p q ≤ 16384) : Calls Tryd.prog 11 #[cel x y, cel p q] w (LnE w (lineL x y p q)) := by
  rw [lineL_no3 h3]
  obtain ⟨n, hn⟩ : ∃ n, apN x y p q = n := ⟨_, rfl⟩
  have HA := hide (fun wx => refapart_is hn wx)
  rw [apN_lnN h h2] at hn
  have hg : (16384 : Int) < n := by omega
  clear hn h3
  obtain ⟨X, hX⟩ : ∃ X, ((w.alloc (.cells #[.int .i64 x, .int .i64 y] 23)).alloc (.cells #[.int .i64 p, .int .i64 q] 23)).alloc (.cells #[] 23) = X := ⟨_, rfl⟩
  have B : Below w.heap.size w X := by rw [← hX]; exact bt (box2 _ _ _) (box1 _ _)
  have A0 : Two X w.heap.size x y := by rw [← hX]; exact ((Two.newAt rfl).alloc).alloc
  have A1 : Two X (w.heap.size + 1) p q := by rw [← hX]; exact (Two.newAt (by simp)).alloc
  have C0 : Cn X (.slice (some ⟨w.heap.size + 1 + 1, 0, none⟩) 0 0) [] := by
    have := Cn.built ((w.alloc (.cells #[.int .i64 x, .int .i64 y] 23)).alloc (.cells #[.int .i64 p, .int .i64 q] 23))
    rw [hX] at this
    simpa using this
  obtain ⟨⟨k0, k1⟩, -, -⟩ := id A0
  obtain ⟨⟨l0, l1⟩, -, -⟩ := id A1
  have HX := hide hX
  have HK := hide (And.intro A0 (And.intro A1 (And.intro C0 B)))
  clear hX A0 A1 C0 B
  go_enter Tryd.func11, Tryd.ntmps11
  go_wp2_with (rw [HX.out])
  refine (refnear_any _ _ _).mono ?_
  rintro e w1 ⟨rfl, hb1⟩
  clear k0 k1 l0 l1
  obtain ⟨A0, A1, C0, B⟩ := HK.out
  clear HK
  have A0 := A0.kept hb1
  have A1 := A1.kept hb1
  have C0 := C0.upto hb1
  have B := bt B hb1
  obtain ⟨⟨k0, k1⟩, -, -⟩ := id A0
  obtain ⟨⟨l0, l1⟩, -, -⟩ := id A1
  have HK := hide (And.intro A0 (And.intro A1 (And.intro C0 B)))
  clear hb1 A0 A1 C0 B
  go_wp2_with fail
  refine (refnear_any _ _ _).mono ?_
  rintro e w2 ⟨rfl, hb2⟩
  clear k0 k1 l0 l1
  obtain ⟨A0, A1, C0, B⟩ := HK.out
  clear HK
  have A0 := A0.kept hb2
  have A1 := A1.kept hb2
  have C0 := C0.upto hb2
  have B := bt B hb2
  obtain ⟨⟨k0, k1⟩, -, -⟩ := id A0
  obtain ⟨⟨l0, l1⟩, -, -⟩ := id A1
  have HK := hide (And.intro A0 (And.intro A1 (And.intro C0 B)))
  clear hb2 A0 A1 C0 B
  go_wp2_with fail
  refine (HA.out _).mono ?_
  rintro e w3 ⟨rfl, hb3⟩
  clear k0 k1 l0 l1
  obtain ⟨A0, A1, C0, B⟩ := HK.out
  clear HK
  have A0 := A0.kept hb3
  have A1 := A1.kept hb3
  have C0 := C0.upto hb3
  have B := bt B hb3
  obtain ⟨⟨k0, k1⟩, -, -⟩ := id A0
  obtain ⟨⟨l0, l1⟩, -, -⟩ := id A1
  have HK := hide (And.intro A0 (And.intro A1 (And.intro C0 B)))
  clear hb3 A0 A1 C0 B
  obtain ⟨A0, A1, C0, B⟩ := HK.out
  have HF := hide (show LnE w [] (.returned (.slice (some ⟨w.heap.size + 1 + 1, 0, none⟩) 0 0)) w3 from ⟨_, rfl, C0, (fun k e => by have e' : w.heap.size + 1 + 1 = k := Option.some.inj e; omega), B⟩)
  clear A0 A1 C0 B HK
  go_wp2_with fail
  go_ret
  exact HF.out
/-- The document's loop. -/
structure RnI (w : World) (p q : Int) (L : List (Int × Int)) (s5 : Value) (wr : World) (fx fy : Int) (acc : List (Int × Int)) : Prop where
  near : nrC fx fy = true
  two : Two wr w.heap.size fx fy
  too : Two wr (w.heap.size + 1) p q
  row : Cn wr s5 acc
  own : ∀ k, s5.ownBlock = some k → w.heap.size + 1 < k
  all : acc ++ lnF (lnN fx fy p q) fx fy p q = L
  bl : Below w.heap.size w wr
theorem sub_near {p x : Int} (h1 : -1048576 ≤ p ∧ p ≤ 1048576) (h2 : -1048576 ≤ x ∧ x ≤ 1048576) : IntKind.i64.wrap (p - x) = p - x := by rw [IntKind.wrap_i64]; omega
set_option maxHeartbeats 8000000 in
theorem rline_yes (x y p q : Int) (w : World) (h : nrC x y = true) (h2 : nrC p q = true) (h3 : lnN x y p q ≤ 16384) : Calls Tryd.prog 11 #[cel x y, cel p q] w (LnE w (lineL x y p q)) := by
  have hL : ([] : List (Int × Int)) ++ lnF (lnN x y p q) x y p q = lineL x y p q := (lineL_is h h2 h3).symm
  have hLl : (lineL x y p q).length ≤ 16384 := lineL_len x y p q
  obtain ⟨L, hLL⟩ : ∃ L, lineL x y p q = L := ⟨_, rfl⟩
  rw [hLL] at hL hLl ⊢
  have HL := hide (And.intro hL hLl)
  obtain ⟨n, hn⟩ : ∃ n : Nat, apN x y p q = (n : Nat) := ⟨_, apN_lnN h h2⟩
  have HA := hide (fun wx => refapart_is hn wx)
  rw [apN_lnN h h2] at hn
  have hg : ¬ (16384 : Int) < (n : Nat) := by omega
  have Hn := hide (And.intro h h2)
  clear hn h3 hL hLl hLL
  obtain ⟨X, hX⟩ : ∃ X, ((w.alloc (.cells #[.int .i64 x, .int .i64 y] 23)).alloc (.cells #[.int .i64 p, .int .i64 q] 23)).alloc (.cells #[] 23) = X := ⟨_, rfl⟩
  have B : Below w.heap.size w X := by rw [← hX]; exact bt (box2 _ _ _) (box1 _ _)
  have A0 : Two X w.heap.size x y := by rw [← hX]; exact ((Two.newAt rfl).alloc).alloc
  have A1 : Two X (w.heap.size + 1) p q := by rw [← hX]; exact (Two.newAt (by simp)).alloc
  have C0 : Cn X (.slice (some ⟨w.heap.size + 1 + 1, 0, none⟩) 0 0) [] := by
    have := Cn.built ((w.alloc (.cells #[.int .i64 x, .int .i64 y] 23)).alloc (.cells #[.int .i64 p, .int .i64 q] 23))
    rw [hX] at this
    simpa using this
  obtain ⟨⟨k0, k1⟩, -, -⟩ := id A0
  obtain ⟨⟨l0, l1⟩, -, -⟩ := id A1
  have HX := hide hX
  have HK := hide (And.intro A0 (And.intro A1 (And.intro C0 B)))
  clear hX A0 A1 C0 B
  go_enter Tryd.func11, Tryd.ntmps11
  go_wp2_with (rw [HX.out])
  refine (refnear_any _ _ _).mono ?_
  rintro e w1 ⟨rfl, hb1⟩
  clear k0 k1 l0 l1
  obtain ⟨A0, A1, C0, B⟩ := HK.out
  clear HK
  have A0 := A0.kept hb1
  have A1 := A1.kept hb1
  have C0 := C0.upto hb1
  have B := bt B hb1
  obtain ⟨⟨k0, k1⟩, -, -⟩ := id A0
  obtain ⟨⟨l0, l1⟩, -, -⟩ := id A1
  have HK := hide (And.intro A0 (And.intro A1 (And.intro C0 B)))
  clear hb1 A0 A1 C0 B
  go_wp2_with fail
  refine (refnear_any _ _ _).mono ?_
  rintro e w2 ⟨rfl, hb2⟩
  clear k0 k1 l0 l1
  obtain ⟨A0, A1, C0, B⟩ := HK.out
  clear HK
  have A0 := A0.kept hb2
  have A1 := A1.kept hb2
  have C0 := C0.upto hb2
  have B := bt B hb2
  obtain ⟨⟨k0, k1⟩, -, -⟩ := id A0
  obtain ⟨⟨l0, l1⟩, -, -⟩ := id A1
  have HK := hide (And.intro A0 (And.intro A1 (And.intro C0 B)))
  clear hb2 A0 A1 C0 B
  go_wp2_with fail
  refine (HA.out _).mono ?_
  rintro e w3 ⟨rfl, hb3⟩
  clear k0 k1 l0 l1
  obtain ⟨A0, A1, C0, B⟩ := HK.out
  clear HK
  have A0 := A0.kept hb3
  have A1 := A1.kept hb3
  have C0 := C0.upto hb3
  have B := bt B hb3
  obtain ⟨⟨k0, k1⟩, -, -⟩ := id A0
  obtain ⟨⟨l0, l1⟩, -, -⟩ := id A1
  have HK := hide (And.intro A0 (And.intro A1 (And.intro C0 B)))
  clear hb3 A0 A1 C0 B
  obtain ⟨A0, A1, C0, B⟩ := HK.out
  have HI := hide (show RnI w p q L (.slice (some ⟨w.heap.size + 1 + 1, 0, none⟩) 0 0) w3 x y [] from {
    near := Hn.out.1
    two := A0
    too := A1
    row := C0
    own := fun k e => by have e' : w.heap.size + 1 + 1 = k := Option.some.inj e; omega
    all := HL.out.1
    bl := B })
  clear A0 A1 C0 B HK
  go_wp2_with fail
  go_loopw [5] (fun s5 wr => ∃ fx fy acc, RnI w p q L s5 wr fx fy acc) (fun s5 _ => L.length - lenV s5)
  case atStart => exact ⟨_, _, _, HI.out⟩
  case round =>
    obtain ⟨fx, fy, acc, hI⟩ := hrel
    clear k0 k1 l0 l1
    obtain ⟨⟨k0, k1⟩, ⟨kf0, kf1⟩, kz⟩ := id hI.two
    obtain ⟨⟨l0, l1⟩, -, -⟩ := id hI.too
    by_cases heq : fx = p ∧ fy = q
    · obtain ⟨rfl, rfl⟩ := heq
      have hne : ∀ wx, (binOp .neq 23 (cel fx fy) (cel fx fy)).run Tryd.prog wx = .ok (.bool false) wx := fun wx => (neC _ _ _ _ wx).trans (by simp)
      have hall := hI.all
      rw [lnN_self, lnF, List.append_nil] at hall
      have HJ := hide (show LnE w L (.returned u5) wr from ⟨u5, rfl, hall ▸ hI.row, fun k e => by have := hI.own k e; omega, hI.bl⟩)
      clear hI hall
      go_wp2_with fail
      go_ret
      exact HJ.out
    · have hne : ∀ wx, (binOp .neq 23 (cel fx fy) (cel p q)).run Tryd.prog wx = .ok (.bool true) wx := fun wx => (neC _ _ _ _ wx).trans (by rw [show (decide (fx = p) && decide (fy = q)) = false by simpa using heq]; rfl)
      have hall := hI.all
      rw [lnN_succ heq, lnF, List.append_cons] at hall
      have hnn := nrC_toward hI.near Hn.out.2
      obtain ⟨r1, r2⟩ := (nrC_iff _ _).1 hI.near
      obtain ⟨r3, r4⟩ := (nrC_iff _ _).1 Hn.out.2
      have v1 := sub_near r3 r1
      have v2 := sub_near r4 r2
      obtain ⟨dx, hdx⟩ : ∃ dx, p - fx = dx := ⟨_, rfl⟩
      obtain ⟨dy, hdy⟩ : ∃ dy, q - fy = dy := ⟨_, rfl⟩
      have v3 := near_wrap r1 (sg_range dx)
      have v4 := near_wrap r2 (sg_range dy)
      rw [hdx] at v1 hall hnn
      rw [hdy] at v2 hall hnn
      have S1 := hide (fun wx => sign_any dx wx)
      have S2 := hide (fun wx => sign_any dy wx)
      obtain ⟨a, ha⟩ : ∃ a, sg dx = a := ⟨_, rfl⟩
      obtain ⟨b, hb⟩ : ∃ b, sg dy = b := ⟨_, rfl⟩
      rw [ha] at v3 S1 hall hnn
      rw [hb] at v4 S2 hall hnn
      obtain ⟨nx, hnx⟩ : ∃ nx, fx + a = nx := ⟨_, rfl⟩
      obtain ⟨ny, hny⟩ : ∃ ny, fy + b = ny := ⟨_, rfl⟩
      rw [hnx] at v3 hall hnn
      rw [hny] at v4 hall hnn
      have hlen : acc.length < L.length := by rw [← hall, List.length_append, List.length_append, List.length_singleton]; omega
      have hl5 := cn_len hI.row
      have HN := hide (And.intro hall (And.intro hnn (And.intro hlen hl5)))
      have HW := hide (And.intro (And.intro hdx hdy) (And.intro (And.intro hnx hny) (And.intro (And.intro v1 v2) (And.intro v3 v4))))
      obtain ⟨Y, hY⟩ : ∃ Y, wr.drew = Y := ⟨_, rfl⟩
      have BY : Below wr.heap.size wr Y := by rw [← hY]; exact (Below.refl _ _).drew
      have HI' := hide hI
      have HYB := hide (And.intro hY BY)
      obtain ⟨⟨i0, i1⟩, ⟨if0, if1⟩, iz⟩ := hI.two.kept BY
      obtain ⟨⟨j0, j1⟩, -, -⟩ := hI.too.kept BY
      clear hI hall hnn hlen hnx hny heq hl5 HI r1 r2 r3 r4 v1 v2 v3 v4 hdx hdy ha hb BY hY
      go_wp2_with fail
      refine wp_only ?_
      refine wp_region_z (fun wx : World => wx = Y) [] (by kernel_rfl) ?_
      rw [HYB.out.1]
      obtain ⟨⟨hdx, hdy⟩, ⟨hnx, hny⟩, ⟨v1, v2⟩, v3, v4⟩ := HW.out
      refine zx 0 12 12 rfl (by kernel_rfl) rfl ?_
      repeat (refine zxc rfl (by rfl) (fun wx hx => by subst hx; go_simp; rfl) ?_; simp only [zp])
      refine zxn ?_
      refine anyZ_done (by kernel_rfl) ?_ _
      dsimp only [Only, Exit.then]
      obtain ⟨Y2, hY2⟩ : ∃ Y2, Y.drew = Y2 := ⟨_, rfl⟩
      have BY2 : Below wr.heap.size wr Y2 := bt HYB.out.2 (by rw [← hY2]; exact (Below.refl _ _).drew)
      have HYC := hide (And.intro hY2 BY2)
      clear i0 i1 j0 j1 if0 if1 iz hY2 BY2
      obtain ⟨⟨i0, i1⟩, ⟨if0, if1⟩, iz⟩ := HI'.out.two.kept HYC.out.2
      obtain ⟨⟨j0, j1⟩, -, -⟩ := HI'.out.too.kept HYC.out.2
      go_wp2_with fail
      refine wp_only ?_
      refine wp_region_z (fun wx : World => wx = Y2) [11] (by kernel_rfl) ?_
      rw [HYC.out.1]
      refine zx 0 3 12 rfl (by kernel_rfl) rfl ?_
      repeat (refine zxc rfl (by rfl) (fun wx hx => by subst hx; go_simp; rfl) ?_; simp only [zp])
      refine zxn ?_
      refine zx 5 3 12 rfl (by kernel_rfl) rfl ?_
      repeat (refine zxc rfl (by rfl) (fun wx hx => by subst hx; go_simp; rfl) ?_; simp only [zp])
      refine zxn ?_
      refine zw 3 [] (by kernel_rfl) ?_
      refine readyZ.call rfl rfl (Rsign (by rfl) (by rfl) (by simp only [zj]; rfl)) (S1.out _) ?_ readyZ.nil
      rintro e W ⟨rfl, rfl⟩
      refine ⟨_, rfl, fun _ => rfl, ?_⟩
      simp only [zp]
      refine zx 4 1 12 rfl (by kernel_rfl) rfl ?_
      refine zxc (v := .int .i64 nx) rfl (by rfl) (fun wx hx => by subst hx; go_simp) ?_
      simp only [zp]
      refine zxn ?_
      refine zw 8 [] (by kernel_rfl) ?_
      refine readyZ.call rfl rfl (Rsign (by rfl) (by rfl) (by simp only [zj]; rfl)) (S2.out _) ?_ readyZ.nil
      rintro e W2 ⟨rfl, rfl⟩
      refine ⟨_, rfl, fun _ => rfl, ?_⟩
      simp only [zp]
      refine zx 9 2 12 rfl (by kernel_rfl) rfl ?_
      refine zxc (v := .int .i64 ny) rfl (by rfl) (fun wx hx => by subst hx; go_simp) ?_
      simp only [zp]
      refine zxc (v := cel nx ny) rfl (by rfl) (fun wx hx => by subst hx; go_simp) ?_
      simp only [zp]
      refine zxn ?_
      refine zw 11 [] (by kernel_rfl) ?_
      refine readyZ.skip rfl rfl (by go_simp; rfl) (fun h => absurd (by decide) h) ?_ readyZ.nil
      refine anyZ_done (by kernel_rfl) ?_ _
      dsimp only [Only, Exit.then]
      simp only [zp]
      have hI := HI'.out
      have t6 := hI.two.kept HYC.out.2
      have TZ := (Turns.set (S := fun j => j = w.heap.size) W2 (p := ⟨w.heap.size, 0, none⟩) rfl (.int .i64 nx)).trans (Turns.set (S := fun j => j = w.heap.size ∨ W2.heap.size ≤ j) _ (p := ⟨w.heap.size, 1, none⟩) (.inl rfl) (.int .i64 ny))
      have tz := t6.set (s := nx) (t := ny)
      obtain ⟨Z, hZ⟩ : ∃ Z, (W2.setCell ⟨w.heap.size, 0, none⟩ (.int .i64 nx)).setCell ⟨w.heap.size, 1, none⟩ (.int .i64 ny) = Z := ⟨_, rfl⟩
      rw [hZ] at TZ tz ⊢
      have b6 := HYC.out.2
      have cz : Cn Z u5 acc := (hI.row.upto b6).kept TZ (fun g e => by have := hI.own g e; omega)
      have uz : Two Z (w.heap.size + 1) p q := two_kept (hI.too.kept b6) TZ (by omega)
      have bz : Below w.heap.size w Z := (bt hI.bl b6).trans (TZ.below (fun k e => by omega) (bt hI.bl b6).size)
      obtain ⟨v7, W7, hr7, hc7, ho7, hT7⟩ := cz.push nx ny (by have := HN.out.2.2.1; have := HL.out.2; omega)
      have hb7 : ∀ k, u5.ownBlock = some k → w.heap.size ≤ k := fun k e => by have := hI.own k e; omega
      have bw7 : Below w.heap.size w W7 := bz.trans (hT7.below hb7 bz.size)
      have t7 : Two W7 w.heap.size nx ny := two_kept tz hT7 (fun e => by have := hI.own _ e; omega)
      have u7 : Two W7 (w.heap.size + 1) p q := two_kept uz hT7 (fun e => by have := hI.own _ e; omega)
      have hz1 := uz.2.2
      have HJ := hide (show RnI w p q L v7 W7 nx ny (acc ++ [(nx, ny)]) from {
        near := HN.out.2.1
        two := t7
        too := u7
        row := hc7
        own := fun k e => by
          rcases ho7 k e with q | q
          · exact hI.own k q
          · omega
        all := HN.out.1
        bl := bw7 })
      have HR7 := hide hr7
      have HM := hide (show L.length - lenV v7 < L.length - lenV u5 by rw [HN.out.2.2.2, cn_len hc7, List.length_append]; have := HN.out.2.2.1; rw [List.length_singleton]; omega)
      obtain ⟨⟨z6, z7⟩, -, -⟩ := id tz
      obtain ⟨⟨y6, y7⟩, -, -⟩ := id t7
      clear hI t6 TZ tz hZ cz uz bz hr7 hc7 ho7 hT7 hb7 bw7 t7 u7 HI' HN k0 k1 kf0 kf1 kz l0 l1 i0 i1 if0 if1 iz j0 j1 b6 HYC HYB HW hz1 v1 v2 v3 v4 hdx hdy hnx hny
      go_wp2_with (at_builtin; refine wpList_append_run rfl _ _ 26 rfl _ _ rfl rfl HR7.out ?_)
      go_roundw
      case rel => exact ⟨_, _, _, HJ.out⟩
      case measure => exact HM.out
theorem rline_any (x y p q : Int) (w : World) : Calls Tryd.prog 11 #[cel x y, cel p q] w (LnE w (lineL x y p q)) := by
  cases h : nrC x y
  · exact rline_no1 x y p q w h
  · cases h2 : nrC p q
    · exact rline_no2 x y p q w h h2
    · by_cases h3 : lnN x y p q ≤ 16384
      · exact rline_yes x y p q w h h2 h3
      · exact rline_no3 x y p q w h h2 h3
end Go.Proofs.YtekpamilcpeanaaDoor
