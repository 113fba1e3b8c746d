/-
  OccupyAsks, walked.
-/
import Derived.Test.YtkodeopkgmichaaWithAll
import Derived.Test.YtkodeopkgmichaaActsW
namespace Go.Proofs.Ytkodeopkgmichaa
open Go.RowKit Go.Shelf
set_option linter.unusedVariables false
set_option linter.unusedSimpArgs false
theorem Du.rxr {w : World} {p fm bm m r : Nat} {v : Value} {l : List Bd} (h : Du w p fm bm m r v l) : ∃ a cap, v = .slice a l.length cap ∧ RxR w r a cap l := by
  obtain ⟨a, cap, rfl, -, -, -⟩ := h.rx.us.form
  exact ⟨a, cap, rfl, h.rx.rxr h.st.fine.len⟩
theorem run_call15 {ev : Operand → Value} {o : Oper} {w : World} {ar : Array Operand} {ts : Array TypeId} {vs : Array Value} (hop : o.op = .call { callee := .value (.func 15), args := ar, argTypes := ts }) (hf : ev (.func 15) = .func (.func 15) #[] #[]) (hvs : ar.map ev = vs) : (execOp ev o).run Try.prog w = .ok (.enter 15 vs) w := by
  unfold execOp
  simp only [hop, resolve, hf, hvs]
  go_simp
theorem run_call16 {ev : Operand → Value} {o : Oper} {w : World} {ar : Array Operand} {ts : Array TypeId} {vs : Array Value} (hop : o.op = .call { callee := .value (.func 16), args := ar, argTypes := ts }) (hf : ev (.func 16) = .func (.func 16) #[] #[]) (hvs : ar.map ev = vs) : (execOp ev o).run Try.prog w = .ok (.enter 16 vs) w := by
  unfold execOp
  simp only [hop, resolve, hf, hvs]
  go_simp
theorem Nr.kept {w w' : World} {v : Value} {zs : List Int} (h : Nr w v zs) (hB : Below w.heap.size w w') : Nr w' v zs := by
  obtain ⟨a, cap, rfl, hc⟩ := h
  refine ⟨a, cap, rfl, fun i x hx => ?_⟩
  obtain ⟨g, e, hg, h1⟩ := hc i x hx
  exact ⟨g, e, Nat.lt_of_lt_of_le hg hB.size, (hB.cell (p := ⟨g, i, none⟩) hg).trans h1⟩
theorem Nn.nr {w : World} {v : Value} {zs : List Int} (h : Nn w v zs) : Nr w v zs := by
  rcases h.form with ⟨rfl, rfl⟩ | ⟨g, cap, cur, rfl, hb, h1, h2, h3, h4⟩
  · exact ⟨none, 0, rfl, fun i x hx => by simp at hx⟩
  · refine ⟨_, cap, rfl, fun i x hx => ⟨g, rfl, (Array.getElem?_eq_some_iff.1 hb).1, ?_⟩⟩
    have := World.ownsRow.cells h (g := g) rfl i (.int .i64 x) (by rw [List.getElem?_map, hx]; rfl)
    simpa [Addr.add_lit] using this
set_option maxRecDepth 100000 in
set_option maxHeartbeats 8000000 in
theorem asks_walk (v0 : Value) (K : List Ac) (p q x y a b : Int) (hp : W64 p) (hq : W64 q) (w : World) (h : AcR w v0 K) (hK : K.length ≤ 140737488355328) :
    Calls Try.prog 4 #[v0, cel p q, rct x y a b] w fun e w' => e = .returned (.bool true) ∧ Below w.heap.size w w' := by
  obtain ⟨a0, c0, rfl, hlc, hcm, hok, hat⟩ := h
  have HAt := hide hat
  have HOk := hide hok
  have hKI : (0 : Int) ≤ (K.length : Nat) ∧ ((K.length : Nat) : Int) ≤ 140737488355328 := by omega
  obtain ⟨X, hX⟩ : ∃ X, (w.alloc (.cells #[.int .i64 p, .int .i64 q] 32)).alloc (.cells #[.int .i64 x, .int .i64 y, .int .i64 a, .int .i64 b] 34) = X := ⟨_, rfl⟩
  have BX : Below w.heap.size w X := hX ▸ box2 _ _ _
  have zX : X.heap.size = w.heap.size + 2 := by rw [← hX]; simp
  have TX : Two X w.heap.size p q := by
    rw [← hX]
    exact (Two.newAt rfl).kept (box1 _ _)
  have FX : Four X (w.heap.size + 1) x y a b := by
    rw [← hX]
    have : Four ((w.alloc (.cells #[.int .i64 p, .int .i64 q] 32)).alloc (.cells #[.int .i64 x, .int .i64 y, .int .i64 a, .int .i64 b] 34)) (w.alloc (.cells #[.int .i64 p, .int .i64 q] 32)).heap.size x y a b := cells4 (Below.refl _ _)
    simpa using this
  clear hat hok hlc hcm
  go_enter Try.func4, Try.ntmps4
  go_wp2_with (rw [hX])
  refine (awake_any _).mono ?_
  rintro e w1 ⟨rfl, hb1⟩
  clear hX
  go_wp2_with fail
  refine (new_any w1).mono ?_
  rintro e w2 ⟨rfl, hb2, h2⟩
  have D0 := Du.begin hb2 h2
  have B0 : Below X.heap.size X (w2.alloc (.cells #[.slice none 0 0] 29)) := bt hb1 (bt hb2 (box1 _ _))
  have hz1 := hb1.size
  obtain ⟨fm, hfm⟩ : ∃ fm, w1.heap.size = fm := ⟨_, rfl⟩
  obtain ⟨r, hr⟩ : ∃ r, w2.heap.size = r := ⟨_, rfl⟩
  obtain ⟨X1, hX1⟩ : ∃ X1, w2.alloc (.cells #[.slice none 0 0] 29) = X1 := ⟨_, rfl⟩
  have hrl : X.heap.size ≤ fm ∧ X.heap.size ≤ r := by have := hb2.size; omega
  rw [hfm, hr, hX1] at D0
  rw [hX1] at B0
  go_wp2_with (first | rw [hX1])
  have HD := hide D0
  have HB := hide B0
  have HTX := hide TX
  have HFX := hide FX
  have HBX := hide BX
  have HZX := hide zX
  clear D0 B0 hb1 hb2 h2 hX1 hz1 hfm hr TX FX BX zX
  go_loopw [9] (fun d wr => ∃ (k m : Nat) (v : Value) (l : List Bd), k ≤ K.length ∧ d = .int .i64 k ∧ m ≤ 16 * k ∧ Du wr (fm + 1 + 1) fm (fm + 1) m r v l ∧ Below X.heap.size X wr) (fun d _ => K.length - (intOf d).toNat)
  case atStart => exact ⟨0, 0, _, _, Nat.zero_le _, rfl, Nat.le_refl _, HD.out, HB.out⟩
  case round =>
    clear HD HB
    obtain ⟨k, m, v, l, hk, rfl, hm, hD, hB⟩ := hrel
    by_cases hlt : k < K.length
    · obtain ⟨t, ht⟩ : ∃ t, K[k]? = some t := ⟨_, List.getElem?_eq_getElem hlt⟩
      obtain ⟨g, o, rfl, hg, d0, d1, d2, d3, d4, d5⟩ := (HAt.out k t ht).kept (bt HBX.out hB) (Nat.le_refl _)
      have hki : (k : Int) < (K.length : Nat) := by omega
      have hk0 : (0 : Int) ≤ (k : Nat) := by omega
      have HC := hide (does_any (fm + 1 + 1) fm (fm + 1) m r v l t (HOk.out t (List.mem_of_getElem? ht)) _ hD (by unfold maxLen; omega))
      have HB := hide hB
      clear hD hB
      go_wp2_with fail
      refine HC.out.mono ?_
      rintro e w3 ⟨rfl, m', v', l', hm', hD', hT⟩
      have HD := hide hD'
      have HB3 := hide (HB.out.trans (hT.below (B := X.heap.size) (fun j e => by rcases e with (e | e) | e <;> omega) HB.out.size))
      clear hD' hT
      go_wp2_with fail
      go_roundw
      case rel => exact ⟨k + 1, m', v', l', by omega, by go_num, by omega, HD.out, HB3.out⟩
      case measure => simp [intOf]; omega
    · obtain rfl : k = K.length := by omega
      have hki : ¬ ((K.length : Nat) : Int) < (K.length : Nat) := by omega
      obtain ⟨av, cap, rfl, hR⟩ := hD.rxr
      have hS := hD.st
      have T0 := HTX.out.kept hB
      have c0' := T0.1.1
      have c1' := T0.1.2
      have HAp := hide (at_any (fm + 1 + 1) fm (fm + 1) _ _ _ _ p q hp hq wr hS.ix)
      have HB := hide hB
      clear hD hB
      go_wp2_with fail
      refine HAp.out.mono ?_
      rintro e w3 ⟨rfl, hb3⟩
      have T3 := T0.kept hb3
      have c3 := T3.1.1
      have c4 := T3.1.2
      have HAr := hide (refat_any r av cap l hS.fine.apart p q w3 (hR.kept hb3))
      clear c0' c1' HAp
      go_wp2_with fail
      refine HAr.out.mono ?_
      rintro e w4 ⟨rfl, hb4⟩
      have HB4 := hide (bt HB.out (bt hb3 hb4))
      have HS4 := hide (hS.kept (bt hb3 hb4))
      have HR4 := hide (hR.kept (bt hb3 hb4))
      have hf0 : ((fOf l p q).getD 0 == (fOf l p q).getD 0) = true := by simp
      have hf1 : ((fOf l p q).isSome == (fOf l p q).isSome) = true := by simp
      clear hb3 hb4 T0 T3 c3 c4 HAr hS hR
      go_wp2_with fail
      go_loopw [14] (fun d wr2 => ∃ k : Nat, k ≤ K.length ∧ d = .int .i64 k ∧ Below w4.heap.size w4 wr2) (fun d _ => K.length - (intOf d).toNat)
      case atStart => exact ⟨0, Nat.zero_le _, rfl, Below.refl _ _⟩
      case round =>
        rename World => wz
        obtain ⟨k, hk2, rfl, hB2⟩ := hrel
        by_cases hlt2 : k < K.length
        · obtain ⟨t, ht⟩ : ∃ t, K[k]? = some t := ⟨_, List.getElem?_eq_getElem hlt2⟩
          obtain ⟨g, o, rfl, hg, -, d1, -, -, -, -⟩ := (HAt.out k t ht).kept (bt HBX.out (bt HB4.out hB2)) (Nat.le_refl _)
          have hki2 : (k : Int) < (K.length : Nat) := by omega
          have hk02 : (0 : Int) ≤ (k : Nat) := by omega
          have hti := (HOk.out t (List.mem_of_getElem? ht)).2.1
          have HF := hide (find_is (fm + 1 + 1) fm (fm + 1) _ _ _ _ t.i _ (HS4.out.kept hB2).ix hti)
          have HG := hide (fun wx (hx : Below w4.heap.size w4 wx) => reffind_any r av cap l HS4.out.fine.sorted t.i wx (HR4.out.kept hx))
          have HA3 := hide (fun wx (hx : Below w4.heap.size w4 wx) => (HAt.out k t ht).kept (bt HBX.out (bt HB4.out hx)) (Nat.le_refl _))
          obtain ⟨c, hc⟩ : ∃ c : Rc, (gOf l t.i).getD Rc.no = c := ⟨_, rfl⟩
          obtain ⟨ob, hob⟩ : ∃ ob : Bool, (gOf l t.i).isSome = ob := ⟨_, rfl⟩
          rw [hc, hob] at HF
          simp only [hc, hob] at HG
          have HB2 := hide hB2
          clear hB2 hc hob
          go_wp2_with fail
          refine HF.out.mono ?_
          rintro e w5 ⟨rfl, hb5⟩
          obtain ⟨X6, hX6⟩ : ∃ X6, w5.alloc (.cells #[.int .i64 c.x, .int .i64 c.y, .int .i64 c.a, .int .i64 c.b] 34) = X6 := ⟨_, rfl⟩
          have B6 : Below w4.heap.size w4 X6 := bt HB2.out (bt hb5 (hX6 ▸ box1 _ _))
          have F6 : Four X6 w5.heap.size c.x c.y c.a c.b := hX6 ▸ cells4 (Below.refl _ _)
          obtain ⟨g', o', e', -, -, d6, -, -, -, -⟩ := HA3.out X6 B6
          cases e'
          have HGX := hide (HG.out X6 B6)
          clear HG HF HA3 hb5 d1
          go_wp2_with (rw [hX6])
          refine HGX.out.mono ?_
          rintro e w7 ⟨rfl, hb7⟩
          obtain ⟨X8, hX8⟩ : ∃ X8, w7.alloc (.cells #[.int .i64 c.x, .int .i64 c.y, .int .i64 c.a, .int .i64 c.b] 34) = X8 := ⟨_, rfl⟩
          have b8 : Below X6.heap.size X6 X8 := bt hb7 (hX8 ▸ box1 _ _)
          have B8 := hide (bt B6 b8)
          obtain ⟨⟨k0, k1, k2, k3⟩, -, -⟩ := F6.kept b8
          have F8 : Four X8 w7.heap.size c.x c.y c.a c.b := hX8 ▸ cells4 (Below.refl _ _)
          obtain ⟨⟨l0, l1, l2, l3⟩, -, -⟩ := F8
          clear hb7 b8 B6 F6 hX6 d6 HGX
          go_wp2_with (rw [hX8])
          go_roundw
          case rel => exact ⟨k + 1, by omega, by go_num, B8.out⟩
          case measure => simp [intOf]; omega
        · obtain rfl : k = K.length := by omega
          have hki2 : ¬ ((K.length : Nat) : Int) < (K.length : Nat) := by omega
          have F9 := HFX.out.kept (bt HB4.out hB2)
          obtain ⟨⟨k0, k1, k2, k3⟩, -, -⟩ := id F9
          have HB9 := hide (bt HB4.out hB2)
          have HA9 := hide (fun wx => awake_any wx)
          by_cases ha : 256 < a
          · have ha1 : decide (256 < a) = true := by simpa using ha
            go_wp2_with fail
            refine (HA9.out _).mono ?_
            rintro e w9 ⟨rfl, hb9⟩
            have HE := hide (bt HBX.out (bt HB9.out hb9))
            clear hb9
            go_wp2_with fail
            go_ret
            exact ⟨rfl, HE.out⟩
          have ha1 : decide (256 < a) = false := by simpa using ha
          by_cases hb : 256 < b
          · have hb1 : decide (256 < b) = true := by simpa using hb
            go_wp2_with fail
            refine (HA9.out _).mono ?_
            rintro e w9 ⟨rfl, hb9⟩
            have HE := hide (bt HBX.out (bt HB9.out hb9))
            clear hb9
            go_wp2_with fail
            go_ret
            exact ⟨rfl, HE.out⟩
          have hb1 : decide (256 < b) = false := by simpa using hb
          go_wp2_with fail
          have hS5 : (fun Z : World => Z.cell? ⟨w.heap.size + 1, 0, none⟩ = some (.int .i64 x) ∧ Z.cell? ⟨w.heap.size + 1, 1, none⟩ = some (.int .i64 y) ∧ Z.cell? ⟨w.heap.size + 1, 2, none⟩ = some (.int .i64 a) ∧ Z.cell? ⟨w.heap.size + 1, 3, none⟩ = some (.int .i64 b)) wz.drew := ⟨k0, k1, k2, k3⟩
          have B5 : Below w4.heap.size w4 wz.drew := hB2.drew
          have S5 := HS4.out.kept B5
          have R5 := HR4.out.kept B5
          have F5 : Four wz.drew (w.heap.size + 1) x y a b := F9
          refine wp_region_z (fun Z : World => Z.cell? ⟨w.heap.size + 1, 0, none⟩ = some (.int .i64 x) ∧ Z.cell? ⟨w.heap.size + 1, 1, none⟩ = some (.int .i64 y) ∧ Z.cell? ⟨w.heap.size + 1, 2, none⟩ = some (.int .i64 a) ∧ Z.cell? ⟨w.heap.size + 1, 3, none⟩ = some (.int .i64 b)) 7 (by kernel_rfl) ?_
          refine anyZ_take 0 8 (v := ptr (fm + 1 + 1)) rfl (by kernel_rfl) (fun _ _ _ h => h) (Or.inl ⟨by rfl, fun wx hx => run_mv (by rfl) (by rfl)⟩) hS5 ?_
          try simp only [Act.put, List.getElem_toArray, List.getElem_cons_zero, List.getElem_cons_succ, List.setIfInBounds_toArray, List.set_cons_zero, List.set_cons_succ]
          refine anyZ_take 1 8 (v := rct x y a b) rfl (by kernel_rfl) (fun _ _ _ h => h) (Or.inl ⟨by rfl, fun wx hx => run_rect (by rfl) (by rfl) hx.1 hx.2.1 hx.2.2.1 hx.2.2.2⟩) hS5 ?_
          try simp only [Act.put, List.getElem_toArray, List.getElem_cons_zero, List.getElem_cons_succ, List.setIfInBounds_toArray, List.set_cons_zero, List.set_cons_succ]
          refine anyZ_take 3 8 (v := ptr r) rfl (by kernel_rfl) (fun _ _ _ h => h) (Or.inl ⟨by rfl, fun wx hx => run_mv (by rfl) (by rfl)⟩) hS5 ?_
          try simp only [Act.put, List.getElem_toArray, List.getElem_cons_zero, List.getElem_cons_succ, List.setIfInBounds_toArray, List.set_cons_zero, List.set_cons_succ]
          refine anyZ_take 4 8 (v := rct x y a b) rfl (by kernel_rfl) (fun _ _ _ h => h) (Or.inl ⟨by rfl, fun wx hx => run_rect (by rfl) (by rfl) hx.1 hx.2.1 hx.2.2.1 hx.2.2.2⟩) hS5 ?_
          try simp only [Act.put, List.getElem_toArray, List.getElem_cons_zero, List.getElem_cons_succ, List.setIfInBounds_toArray, List.set_cons_zero, List.set_cons_succ]
          refine anyZ_ready (rs := [2]) (by kernel_rfl) (by simp) ?_
          refine readyZ.call rfl rfl (run_call15 (by rfl) (by rfl) (by simp only [List.map_toArray, List.map_cons, List.map_nil]; rfl)) (within_st (x := x) (y := y) (a := a) (b := b) S5) ?_ readyZ.nil
          rintro e w10 ⟨vA, rfl, nA, b10⟩
          refine ⟨_, rfl, fun _ => ⟨(F5.kept b10).1.1, (F5.kept b10).1.2.1, (F5.kept b10).1.2.2.1, (F5.kept b10).1.2.2.2⟩, ?_⟩
          try simp only [Act.put, List.getElem_toArray, List.getElem_cons_zero, List.getElem_cons_succ, List.setIfInBounds_toArray, List.set_cons_zero, List.set_cons_succ]
          refine anyZ_ready (rs := [5]) (by kernel_rfl) (by simp) ?_
          refine readyZ.call rfl rfl (run_call16 (by rfl) (by rfl) (by simp only [List.map_toArray, List.map_cons, List.map_nil]; rfl)) (refwithin_any r av cap l x y a b w10 (R5.kept b10)) ?_ readyZ.nil
          rintro e w11 ⟨vB, rfl, nB, b11⟩
          refine ⟨_, rfl, fun _ => ⟨((F5.kept b10).kept b11).1.1, ((F5.kept b10).kept b11).1.2.1, ((F5.kept b10).kept b11).1.2.2.1, ((F5.kept b10).kept b11).1.2.2.2⟩, ?_⟩
          try simp only [Act.put, List.getElem_toArray, List.getElem_cons_zero, List.getElem_cons_succ, List.setIfInBounds_toArray, List.set_cons_zero, List.set_cons_succ]
          refine anyZ_ready (rs := [6]) (by kernel_rfl) (by simp) ?_
          refine readyZ.cons rfl rfl (run_as (v := vA) (by rfl) (by rfl)) (fun _ => ⟨((F5.kept b10).kept b11).1.1, ((F5.kept b10).kept b11).1.2.1, ((F5.kept b10).kept b11).1.2.2.1, ((F5.kept b10).kept b11).1.2.2.2⟩) ?_ readyZ.nil
          try simp only [Act.put, List.getElem_toArray, List.getElem_cons_zero, List.getElem_cons_succ, List.setIfInBounds_toArray, List.set_cons_zero, List.set_cons_succ]
          refine anyZ_ready (rs := [7]) (by kernel_rfl) (by simp) ?_
          refine readyZ.cons rfl rfl (run_as (v := vB) (by rfl) (by rfl)) (fun h => absurd rfl h) ?_ readyZ.nil
          try simp only [Act.put, List.getElem_toArray, List.getElem_cons_zero, List.getElem_cons_succ, List.setIfInBounds_toArray, List.set_cons_zero, List.set_cons_succ]
          refine anyZ_done (by kernel_rfl) ?_ _
          have HNA := hide (nA.kept b11)
          have HNB := hide nB.nr
          have HB11 := hide (bt HB9.out (bt (Below.refl _ _).drew (bt b10 b11)))
          clear nA nB b10 b11 hS5 B5 S5 R5 F5
          obtain ⟨zs, hzs⟩ : ∃ zs, mids l x y a b = zs := ⟨_, rfl⟩
          rw [hzs] at HNA HNB
          obtain ⟨aA, cA, rfl, hcA⟩ := HNA.out
          obtain ⟨aB, cB, rfl, hcB⟩ := HNB.out
          have HCA := hide hcA
          have HCB := hide hcB
          have hzl : zs.length ≤ 256 := by
            rw [← hzs]
            unfold mids
            rw [List.length_map]
            have h1 := List.length_filter_le (fun t : Bd => mtB t.r.x t.r.y t.r.a t.r.b x y a b) l
            have h2 := HS4.out.fine.len
            omega
          clear hcA hcB HNA HNB hzs
          go_wp2_with fail
          go_loopw [21] (fun d wr3 => ∃ k : Nat, k ≤ zs.length ∧ d = .int .i64 k ∧ ∃ n : Lat w11, wr3 = n.w) (fun d _ => zs.length - (intOf d).toNat)
          case atStart => exact ⟨0, Nat.zero_le _, rfl, ⟨w11, Below.refl _ _⟩, by first | rfl | assumption⟩
          case round =>
            obtain ⟨k, hk3, rfl, n0, rfl⟩ := hrel
            by_cases hlt3 : k < zs.length
            · obtain ⟨zz, hzz⟩ : ∃ zz, zs[k]? = some zz := ⟨_, List.getElem?_eq_getElem hlt3⟩
              obtain ⟨gA, rfl, hgA, eA⟩ := HCA.out k zz hzz
              obtain ⟨gB, rfl, hgB, eB⟩ := HCB.out k zz hzz
              have fA : ∀ n : Lat n0.w, n.w.cell? ⟨gA, k, none⟩ = some (.int .i64 zz) := fun n => ((bt n0.h n.h).cell (p := ⟨gA, k, none⟩) hgA).trans eA
              have fB : ∀ n : Lat n0.w, n.w.cell? ⟨gB, k, none⟩ = some (.int .i64 zz) := fun n => ((bt n0.h n.h).cell (p := ⟨gB, k, none⟩) hgB).trans eB
              have hki3 : (k : Int) < (zs.length : Nat) := by omega
              have hkl3 : (0 : Int) ≤ (k : Nat) ∧ ((zs.length : Nat) : Int) ≤ 256 := by omega
              have hne3 := lat_some n0.w
              clear eA eB hzz
              go_wp2_with fail
              refine wp_region_lat (by kernel_rfl) (by kernel_rfl) ?_
              repeat (go_big_quiet_step (fail))
              refine wpQuiet_nil ?_
              rintro _ ⟨n2, rfl⟩
              go_wp2_with fail
              go_roundw
              case rel => exact ⟨k + 1, by omega, by go_num, ⟨n2.w, bt n0.h n2.h⟩, rfl⟩
              case measure => simp [intOf]; omega
            · obtain rfl : k = zs.length := by omega
              have hki3 : ¬ ((zs.length : Nat) : Int) < (zs.length : Nat) := by omega
              go_wp2_with fail
              refine (HA9.out _).mono ?_
              rintro e w12 ⟨rfl, hb12⟩
              have HE := hide (bt HBX.out (bt HB11.out (bt n0.h hb12)))
              clear hb12
              go_wp2_with fail
              go_ret
              exact ⟨rfl, HE.out⟩
end Go.Proofs.Ytkodeopkgmichaa
