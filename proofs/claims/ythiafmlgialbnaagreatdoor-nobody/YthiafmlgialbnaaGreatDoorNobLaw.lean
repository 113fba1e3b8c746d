/-
  phalanxlaw13.AbstractNobody, walked. Proved: phalanxlaw13.AbstractNobody returns true for every cell, and leaves it as it was. Conditions: none but the row's own: the packages' variables offsets and grounds hold what their initialisers lay (the card ties them).
-/
import Derived.Test.YthiafmlgialbnaaGreatDoorAwk
import Derived.Test.YthiafmlgialbnaaGreatDoorLaid
import Derived.Test.YthiafmlgialbnaaGreatDoorCards
import Derived.Test.YthiafmlgialbnaaGreatDoorTie
set_option linter.unusedSimpArgs false
namespace Go.Proofs.YthiafmlgialbnaaGreatDoor
open Go.RowKit Go.Shelf
set_option linter.unusedVariables false
attribute [local go_sem] Oper.semAt_some
theorem gupdate_no {w : World} {z : Value} (h : Nog w z) : Calls Tryz.prog 17 #[z] w fun e w' => e = .returned (.tuple #[.int .i64 0, .int .i64 1]) ∧ Below w.heap.size w w' := by
  have HM := hide (gmade_no h)
  clear h
  go_enter Tryz.func17, Tryz.ntmps17
  go_wp2_with fail
  refine HM.out.mono ?_
  rintro e w1 ⟨rfl, rfl⟩
  go_wp2_with fail
  refine bodyPost_ret (v := .tuple #[.int .i64 0, .int .i64 1]) (by simp [results, Tryz.f17, go_sem]) rfl ?_
  exact ⟨rfl, Below.refl _ _⟩
theorem gnodes_fn (a : Option Addr) (w : World) : Calls Tryz.prog 19 #[.pointer a] w fun e w' => e = .returned (.func (.func 42) #[] #[ptr w.heap.size]) ∧ w' = w.alloc (.cells #[.pointer a] 34) := by
  go_enter Tryz.func19, Tryz.ntmps19
  go_wp2_with fail
  go_ret
  exact ⟨rfl, rfl⟩
theorem nob_seq (n B : Nat) (z : Value) (w : World) (hB : Boxed w B 34 z) (h : Nog w z) :
    SeqOwn n 42 #[ptr B] encQ (fun _ _ => True) (fun xs => xs = []) (fun pre => pre = []) 0 w := fun l J Jx W hW hJ hJx hY h0 => by
  have cB := (boxed_upto hB hW hB.lt).cell
  have HM := hide (gmade_no (h.upto hW))
  have hz : z = .pointer none ∨ ∃ g, z = ptr g := h.imp id (fun ⟨g, e, _⟩ => ⟨g, e⟩)
  clear h hB
  refine callsIn_of_wp Tryz.func42 rfl trivial ?_ rfl
  simp only [Tryz.ntmps42, List.size_toArray, List.length_cons, List.length_nil, Nat.reduceAdd, Nat.reduceSub, Array.replicate_succ, Array.replicate_zero, List.push_toArray, List.append_toArray, List.nil_append, List.cons_append]
  rcases hz with rfl | ⟨g, rfl⟩
  all_goals
    gi_wp2_with fail
    refine ⟨trivial, fun h => (by cases h), ?_⟩
    refine (callsIn_wide.2 HM.out).mono ?_
    rintro e w1 ⟨rfl, hw1⟩
    have hw1' := hw1.symm
    subst hw1'
    clear hw1
    gi_wp2_with fail
    refine bodyPost_ret (results_none rfl _ _ _) rfl ?_
    exact ⟨⟨_, rfl⟩, .inl ⟨[], rfl, h0⟩⟩
set_option maxRecDepth 100000 in
set_option maxHeartbeats 16000000 in
theorem nobody_walk (x y : Int) (w : World) (hg : Grnd w) (ho : Offs w) : Calls Tryz.prog 6 #[cel x y] w fun e w' => e = .returned (.bool true) ∧ Below w.heap.size w w' := by
  refine (callsIn_wide (n := 10)).1 ?_
  refine callsIn_of_wp_marks Tryz.func6 rfl trivial ?_ rfl
  simp only [Tryz.ntmps6, List.size_toArray, List.length_cons, List.length_nil, Nat.reduceAdd, Nat.reduceSub, Array.replicate_succ, Array.replicate_zero, List.push_toArray, List.append_toArray, List.nil_append, List.cons_append]
  obtain ⟨X, hX⟩ : ∃ X, w.alloc (.cells #[.int .i64 x, .int .i64 y] 47) = X := ⟨_, rfl⟩
  have BX : Below w.heap.size w X := hX ▸ box1 _ _
  have TX : Two X w.heap.size x y := by rw [← hX]; exact Two.newAt rfl
  have HAw : Hid (∀ wx, Below X.heap.size X wx → Calls Tryz.prog 7 #[] wx fun e w' => e = .returned (.bool true) ∧ Below wx.heap.size wx w') := hide fun wx q => awake_is wx (hg.kept (bt BX q)) (ho.kept (bt BX q))
  have HT : Hid (∀ wx, Below X.heap.size X wx → wx.cell? ⟨w.heap.size, 0, none⟩ = some (.int .i64 x) ∧ wx.cell? ⟨w.heap.size, 1, none⟩ = some (.int .i64 y)) := hide fun wx q => (TX.kept q).1
  have HX := hide hX
  have HB := hide BX
  clear hX BX TX hg ho
  gi_wp2_with (rw [HX.out])
  refine ⟨trivial, ?_⟩
  refine (callsIn_wide.2 (HAw.out X (Below.refl _ _))).mono ?_
  rintro e W0 ⟨rfl, hb0⟩
  have H0 := hide hb0
  clear hb0
  gi_wp2_with fail
  refine wpIn_loop_rounds 3 ?_
  rw [roundsIn_succ]
  have HN0 : Hid (∀ wx, Below W0.heap.size W0 wx → Nog wx (.pointer none)) := hide fun wx _ => .inl rfl
  have BA0 : Below W0.heap.size W0 W0 := Below.refl _ _
  obtain ⟨C0, hC0⟩ : ∃ C, W0.alloc (.cells #[.int .i64 0] 3) = C := ⟨_, rfl⟩
  have BC0 : Below W0.heap.size W0 C0 := hC0 ▸ box1 _ _
  have nC0 : Boxed C0 W0.heap.size 3 (.int .i64 0) := by rw [← hC0]; exact Boxed.new W0 3 _
  have HC0 := hide hC0
  have HBC0 := hide (And.intro BC0 (And.intro nC0 BA0))
  clear hC0 BC0 nC0 BA0
  gi_wp2_with fail
  rw [HC0.out]
  refine ⟨trivial, ?_⟩
  refine (callsIn_wide.2 (gnodes_fn _ C0)).mono ?_
  rintro e V0 ⟨rfl, hV0⟩
  have BV0 : Below C0.heap.size C0 V0 := hV0 ▸ box1 _ _
  have bV0 : Boxed V0 C0.heap.size 34 (.pointer none) := hV0 ▸ Boxed.new C0 34 _
  have BV10 := bt HBC0.out.1 BV0
  have hseq0 := nob_seq (10 - 1) C0.heap.size (.pointer none) V0 bV0 (HN0.out V0 BV10)
  have HV0 := hide (And.intro BV0 BV10)
  clear hV0 BV0 bV0 BV10
  gi_wp2_with fail
  refine range_nest (n := 10) (by omega) (gf := 42) (lb := #[ptr C0.heap.size]) rfl (enters_of Tryz.func42 (by kernel_rfl) rfl)
    hseq0 (fun _ _ => trivial) (fun _ _ _ _ _ _ _ _ => trivial) (Below.refl _ _) (fun _ => rfl)
    (fun pre Y => Below V0.heap.size V0 Y) (fun _ _ => False) (ownFrom_below (Nat.le_refl _) (Nat.le_refl _)) (fun _ _ _ _ h _ _ => h.elim) (Below.refl _ _)
    (fun q a' Y => True) (fun q a' _ Y Z row hs hg hr => hs) ?assign0 ?body0 ?done0 ?stop0
  case assign0 =>
    rintro lo pre q Y K hI hK
    gi_wp2
    exact hK _ _ (Keep.refl _ _) trivial hI trivial
  case body0 => exact fun lo pre q a' Y hlo hI hA hlt => absurd hlt (Nat.not_lt_zero _)
  case stop0 => exact fun D pre Y hD hp h hK => h.elim
  case done0 =>
    rintro D0 xs0 U0 hD0 hxs0 hU0 hK0
    have BU0 : Below W0.heap.size W0 U0 := bt HV0.out.2 hU0
    have bn0 := boxed_upto HBC0.out.2.1 (bt HV0.out.1 hU0) HBC0.out.2.1.lt
    have HNU0 : Hid (∀ wx, Below U0.heap.size U0 wx → Nog wx (.pointer none)) := hide fun wx q => HN0.out wx (bt BU0 q)
    have HU0 := hide (And.intro BU0 (And.intro bn0 hK0))
    have HUX0 : Hid (Below X.heap.size X U0) := hide (bt H0.out (bt HBC0.out.2.2 HU0.out.1))
    clear BU0 hU0 bn0 hseq0
    gi_wp2_with fail
    refine ⟨trivial, ?_⟩
    refine (callsIn_wide.2 (gupdate_no (HNU0.out U0 (Below.refl _ _)))).mono ?_
    rintro e u00 ⟨rfl, hc00⟩
    have Hc00 := hide hc00
    have zn0 := (boxed_upto HU0.out.2.1 hc00 HU0.out.2.1.lt).cell
    obtain ⟨zx0, zy0⟩ := HT.out u00 (bt HUX0.out hc00)
    clear hc00
    gi_wp2_with fail
    refine ⟨trivial, ?_⟩
    refine (callsIn_wide.2 (gedges_no (HNU0.out u00 Hc00.out) x y)).mono ?_
    rintro e u10 ⟨rfl, hc10⟩
    have Hc10 := hide (bt Hc00.out hc10)
    clear zn0 zx0 zy0
    obtain ⟨zx0, zy0⟩ := HT.out u10 (bt HUX0.out Hc10.out)
    clear hc10
    gi_wp2_with fail
    refine ⟨trivial, ?_⟩
    refine (callsIn_wide.2 (gwithin_no (HNU0.out u10 Hc10.out) x y)).mono ?_
    rintro e u20 ⟨rfl, hc20⟩
    have Hc20 := hide (bt Hc10.out hc20)
    clear hc20
    gi_wp2_with fail
    refine ⟨trivial, ?_⟩
    refine (callsIn_wide.2 (glen_no (HNU0.out u20 Hc20.out))).mono ?_
    rintro e u30 ⟨rfl, hc30⟩
    have Hc30 := hide (bt Hc20.out hc30)
    clear hc30
    gi_wp2_with fail
    refine ⟨trivial, ?_⟩
    refine (callsIn_wide.2 (gepoch_no (HNU0.out u30 Hc30.out))).mono ?_
    rintro e u40 ⟨rfl, hc40⟩
    have Hc40 := hide (bt Hc30.out hc40)
    clear hc40
    gi_wp2_with fail
    refine ⟨trivial, ?_⟩
    refine (callsIn_wide.2 (gshape_no (HNU0.out u40 Hc40.out))).mono ?_
    rintro e u50 ⟨rfl, hc50⟩
    have Hc50 := hide (bt Hc40.out hc50)
    clear hc50
    gi_wp2_with fail
    refine ⟨trivial, ?_⟩
    refine (callsIn_wide.2 (gworld_no (HNU0.out u50 Hc50.out))).mono ?_
    rintro e u60 ⟨rfl, hc60⟩
    have Hc60 := hide (bt Hc50.out hc60)
    clear hc60
    clear zx0 zy0
    have hne0 : ∀ wx, (binOp .neq 27 (shv 0 0) (shv 0 0)).run Tryz.prog wx = .ok (.bool false) wx := fun wx => by kernel_rfl
    gi_wp2_with fail
    have HW0 : Hid (Below X.heap.size X u60) := hide (bt HUX0.out Hc60.out)
    have HD0 : Hid (u60.heap[D0]? = some (.deferred (some []))) := hide ((Hc60.out.block D0 (Array.getElem?_eq_some_iff.1 hK0).1).trans hK0)
    rw [roundsIn_succ]
    obtain ⟨A1, hA1⟩ : ∃ A, u60.alloc (.cells #[.pointer none, .int .i64 0, .int .i64 0, .int .i64 0, .map none, .map none] 67) = A := ⟨_, rfl⟩
    have BA1 : Below u60.heap.size u60 A1 := hA1 ▸ box1 _ _
    have oA1 : A1.heap[u60.heap.size]? = some (.cells #[.pointer none, .int .i64 0, .int .i64 0, .int .i64 0, .map none, .map none] 67 (0, 0)) := hA1 ▸ heap_alloc_new u60 _
    have HN1 : Hid (∀ wx, Below A1.heap.size A1 wx → Nog wx (ptr u60.heap.size)) := hide fun wx q => .inr ⟨_, rfl, (q.block _ (Array.getElem?_eq_some_iff.1 oA1).1).trans oA1⟩
    have HA1 := hide hA1
    obtain ⟨C1, hC1⟩ : ∃ C, A1.alloc (.cells #[.int .i64 0] 3) = C := ⟨_, rfl⟩
    have BC1 : Below A1.heap.size A1 C1 := hC1 ▸ box1 _ _
    have zA1 : A1.heap.size = u60.heap.size + 1 := by rw [← hA1]; simp
    have nC1 : Boxed C1 (u60.heap.size + 1) 3 (.int .i64 0) := by rw [← hC1, ← zA1]; exact Boxed.new A1 3 _
    have HC1 := hide hC1
    have HBC1 := hide (And.intro BC1 (And.intro nC1 BA1))
    clear hC1 BC1 nC1 BA1 hA1 oA1
    clear zA1
    gi_wp2_with fail
    rw [HA1.out, HC1.out]
    refine ⟨trivial, ?_⟩
    refine (callsIn_wide.2 (gnodes_fn _ C1)).mono ?_
    rintro e V1 ⟨rfl, hV1⟩
    have BV1 : Below C1.heap.size C1 V1 := hV1 ▸ box1 _ _
    have bV1 : Boxed V1 C1.heap.size 34 (ptr u60.heap.size) := hV1 ▸ Boxed.new C1 34 _
    have BV11 := bt HBC1.out.1 BV1
    have hseq1 := nob_seq (10 - 1) C1.heap.size (ptr u60.heap.size) V1 bV1 (HN1.out V1 BV11)
    have HV1 := hide (And.intro BV1 BV11)
    clear hV1 BV1 bV1 BV11
    gi_wp2_with fail
    refine range_nest (n := 10) (by omega) (gf := 42) (lb := #[ptr C1.heap.size]) rfl (enters_of Tryz.func42 (by kernel_rfl) rfl)
      hseq1 (fun _ _ => trivial) (fun _ _ _ _ _ _ _ _ => trivial) (Below.refl _ _) (fun _ => rfl)
      (fun pre Y => Below V1.heap.size V1 Y) (fun _ _ => False) (ownFrom_below (Nat.le_refl _) (Nat.le_refl _)) (fun _ _ _ _ h _ _ => h.elim) (Below.refl _ _)
      (fun q a' Y => True) (fun q a' _ Y Z row hs hg hr => hs) ?assign1 ?body1 ?done1 ?stop1
    case assign1 =>
      rintro lo pre q Y K hI hK
      gi_wp2
      exact hK _ _ (Keep.refl _ _) trivial hI trivial
    case body1 => exact fun lo pre q a' Y hlo hI hA hlt => absurd hlt (Nat.not_lt_zero _)
    case stop1 => exact fun D pre Y hD hp h hK => h.elim
    case done1 =>
      rintro D1 xs1 U1 hD1 hxs1 hU1 hK1
      have BU1 : Below A1.heap.size A1 U1 := bt HV1.out.2 hU1
      have bn1 := boxed_upto HBC1.out.2.1 (bt HV1.out.1 hU1) HBC1.out.2.1.lt
      have HNU1 : Hid (∀ wx, Below U1.heap.size U1 wx → Nog wx (ptr u60.heap.size)) := hide fun wx q => HN1.out wx (bt BU1 q)
      have HU1 := hide (And.intro BU1 (And.intro bn1 hK1))
      have HUX1 : Hid (Below X.heap.size X U1) := hide (bt HW0.out (bt HBC1.out.2.2 HU1.out.1))
      clear BU1 hU1 bn1 hseq1
      gi_wp2_with fail
      refine ⟨trivial, ?_⟩
      refine (callsIn_wide.2 (gupdate_no (HNU1.out U1 (Below.refl _ _)))).mono ?_
      rintro e u01 ⟨rfl, hc01⟩
      have Hc01 := hide hc01
      have zn1 := (boxed_upto HU1.out.2.1 hc01 HU1.out.2.1.lt).cell
      obtain ⟨zx1, zy1⟩ := HT.out u01 (bt HUX1.out hc01)
      clear hc01
      gi_wp2_with fail
      refine ⟨trivial, ?_⟩
      refine (callsIn_wide.2 (gedges_no (HNU1.out u01 Hc01.out) x y)).mono ?_
      rintro e u11 ⟨rfl, hc11⟩
      have Hc11 := hide (bt Hc01.out hc11)
      clear zn1 zx1 zy1
      obtain ⟨zx1, zy1⟩ := HT.out u11 (bt HUX1.out Hc11.out)
      clear hc11
      gi_wp2_with fail
      refine ⟨trivial, ?_⟩
      refine (callsIn_wide.2 (gwithin_no (HNU1.out u11 Hc11.out) x y)).mono ?_
      rintro e u21 ⟨rfl, hc21⟩
      have Hc21 := hide (bt Hc11.out hc21)
      clear hc21
      gi_wp2_with fail
      refine ⟨trivial, ?_⟩
      refine (callsIn_wide.2 (glen_no (HNU1.out u21 Hc21.out))).mono ?_
      rintro e u31 ⟨rfl, hc31⟩
      have Hc31 := hide (bt Hc21.out hc31)
      clear hc31
      gi_wp2_with fail
      refine ⟨trivial, ?_⟩
      refine (callsIn_wide.2 (gepoch_no (HNU1.out u31 Hc31.out))).mono ?_
      rintro e u41 ⟨rfl, hc41⟩
      have Hc41 := hide (bt Hc31.out hc41)
      clear hc41
      gi_wp2_with fail
      refine ⟨trivial, ?_⟩
      refine (callsIn_wide.2 (gshape_no (HNU1.out u41 Hc41.out))).mono ?_
      rintro e u51 ⟨rfl, hc51⟩
      have Hc51 := hide (bt Hc41.out hc51)
      clear hc51
      gi_wp2_with fail
      refine ⟨trivial, ?_⟩
      refine (callsIn_wide.2 (gworld_no (HNU1.out u51 Hc51.out))).mono ?_
      rintro e u61 ⟨rfl, hc61⟩
      have Hc61 := hide (bt Hc51.out hc61)
      clear hc61
      clear zx1 zy1
      have hne1 : ∀ wx, (binOp .neq 27 (shv 0 0) (shv 0 0)).run Tryz.prog wx = .ok (.bool false) wx := fun wx => by kernel_rfl
      gi_wp2_with fail
      have HW1 : Hid (Below X.heap.size X u61) := hide (bt HUX1.out Hc61.out)
      have HD1 : Hid (u61.heap[D1]? = some (.deferred (some []))) := hide ((Hc61.out.block D1 (Array.getElem?_eq_some_iff.1 hK1).1).trans hK1)
      rw [roundsIn_succ]
      gi_wp2_with fail
      refine ⟨trivial, ?_⟩
      refine (callsIn_wide.2 (HAw.out u61 HW1.out)).mono ?_
      rintro e w7 ⟨rfl, hb7⟩
      gi_wp2_with fail
      have hE1 := (hb7.block D1 (Array.getElem?_eq_some_iff.1 HD1.out).1).trans HD1.out
      have b67 : Below u60.heap.size u60 w7 := bt HBC1.out.2.2 (bt HU1.out.1 (bt Hc61.out hb7))
      have hE0 := (b67.block D0 (Array.getElem?_eq_some_iff.1 HD0.out).1).trans HD0.out
      have hlt0 := (Array.getElem?_eq_some_iff.1 HD0.out).1
      have hs1 : u60.heap.size ≤ D1 := Nat.le_trans (bt HBC1.out.2.2 HV1.out.2).size hD1
      refine ⟨by simp, .inl ⟨_, _, rfl, run_takeDeferred hE1, ?_⟩⟩
      have hKC := ((grownBy_putObj' w7 D1 (.deferred none)).block D0 (Array.getElem?_eq_some_iff.1 hE0).1 (fun e => by cases e; omega)).trans hE0
      refine ⟨by simp, .inl ⟨_, _, rfl, run_takeDeferred hKC, ?_⟩⟩
      have hB10 : Below w.heap.size w w7 := bt HB.out (bt HW1.out hb7)
      have hws : w.heap.size ≤ D0 := Nat.le_trans (bt HB.out (bt H0.out HV0.out.2)).size hD0
      refine ⟨.bool true, ?_, rfl, (hB10.trans (belowK_b (w := w) (Nat.le_refl _) _ D1 _ _ (by omega) hE1 rfl rfl)).trans (belowK_b (w := w) (Nat.le_refl _) _ D0 _ _ (by omega) hKC rfl rfl)⟩
      simp [results, Tryz.f6, go_sem]
end Go.Proofs.YthiafmlgialbnaaGreatDoor
namespace Go.Proofs.YthiafmlgialbnaaGreatDoor.abstractNobody
open Go.ChangeShapes Go.WideShapes Go.ChangeAt Go.WideMaps Go.WideElems Go.RowKit
set_option linter.unusedVariables false
set_option maxRecDepth 100000
theorem lifted (os : Os) (started : os.Started) (H : Type) (enc : TypeId × Value → H) :
    ReturnsInHanded {} Tryz.checked os 6 .any (fun w args => (Rows.abstractNobodySpec.pre enc Tryz.prog Tryz.f6 [] false w args ∧ laidMetH Tryz.prog laid1 w) ∧ sizedMet enc Tryz.prog Tryz.f6 (OpenSpec.ofChange Rows.abstractNobodySpec) false w args)
      (Rows.abstractNobodySpec.post enc Tryz.prog Tryz.f6 false true false false) := by
  refine returnsInHanded_of_change_and (C := Tryz.checked) (X := fun w _ => laidMetH Tryz.prog laid1 w) (fun _ _ _ hh h => h.of_heap hh) own started (by kernel_rfl) Tryz.func6
    (ChangeSpec.witness_shaped (enc := enc) (C := Tryz.checked) (os := os) (X := fun w _ => laidMetH Tryz.prog laid1 w) false (World.doorLaid Tryz.prog 400 os) #[.agg #[.int .i64 0, .int .i64 0]] 8 rfl (World.shaped_of_RefB (by kernel_rfl) (by kernel_rfl)) (by kernel_rfl) (by kernel_rfl) (by kernel_rfl) (door_met os _)) ?_
  intro W base args ds gs before hval0 hW _ _ hL _
  have hval : ∀ (j : Nat) t v, Tryz.f6.params[j]? = some t → args[j]? = some v → Value.okWide Tryz.prog W .any base t v := hval0
  have hW' := hW
  obtain ⟨p, q, hA0, hV, rfl, hfz, hnd⟩ := hW
  have hA : DataW.TrodAll enc Tryz.prog W 0 (fun _ => true) true Tryz.f6.params.toList args.toList ds p := hA0
  rw [Tryz.params6] at hA hval
  obtain ⟨v0, vs0, d0, ds0, p0, q0, hargs, rfl, rfl, h0, r0⟩ := trodAll_cons hA
  obtain ⟨rfl, rfl, rfl⟩ := trodAll_nil r0
  obtain rfl : args = #[v0] := by cases args; simp_all
  obtain ⟨rfl, rfl⟩ := trodVars_none hV
  have lt0 : ∀ x ∈ p0, x.block < W.heap.size := by obtain ⟨m, hm⟩ := h0; exact DataW.trod_lt m _ _ _ hm
  obtain ⟨x, y, rfl, -, -, -, -⟩ := open_cell (hval 0 47 v0 rfl rfl) h0
  clear hA0 hval0
  simp only [List.append_nil] at hW'
  refine (nobody_walk x y W (grnd_of_laid hL) (offs_of_laid hL)).mono fun e W' ⟨he, hg⟩ => ?_
  subst he
  exact ⟨_, rfl, _, _, _, [], _, [], hW', trodAll_mk1 (shut_bool Tryz.underlying4 _), (trodAll_cons_mk (Below.trod laidOut (by kernel_rfl) (of_decide_eq_true (by kernel_rfl)) h0 hg lt0) trodAll_mk0), rfl, hg.frame _, fun h => by cases h⟩
theorem over : Rows.AbstractNobodySaid :=
  OpenClaim.holds_of_wide 6 Tryz.f6 rfl rfl rfl rfl rfl rfl rfl ⟨rfl, rfl, rfl, rfl, rfl⟩ rfl rfl rfl rfl rfl (by kernel_rfl) Tryz.func6 (by kernel_rfl)
    (of_decide_eq_true (by kernel_rfl)) (by unfold Func.isWrapper; first | (rw [if_pos (by decide +kernel)]; kernel_rfl) | (rw [if_neg (by decide +kernel)]; exact ⟨rfl, rfl⟩))
    (fun os started H enc _ => lifted os started H enc)
end Go.Proofs.YthiafmlgialbnaaGreatDoor.abstractNobody
namespace Go.Proofs.YthiafmlgialbnaaGreatDoor
open Go
theorem abstractNobody_holds : Rows.AbstractNobodyCardSaid :=
  Claim7.holds_tied_plain_at .later [] [.data, .data] true (true, "e67930b1747408f059aa0dc104d416096385e1a9ce28b207fa2f510cc49f96dc") false
    abstractNobody.over (fun _ h => by cases h) (by kernel_rfl) (fun _ h => by cases h) abstractNobody_row_tie rfl ⟨rfl, rfl⟩ (by kernel_rfl) rfl
    (fun f fn hf hfn => by
      obtain rfl : f = 6 := Option.some.inj ((show Tryz.prog.funcNamed Rows.abstractNobodyRow.func = some 6 by kernel_rfl).symm.trans hf) |>.symm
      obtain rfl : fn = Tryz.f6 := (Option.some.inj (Tryz.func6.symm.trans hfn)).symm
      exact ⟨by kernel_rfl, fun j t ht => by
        rw [Tryz.params6] at ht
        have hm : t ∈ [47] := by simpa using Array.mem_of_getElem? ht
        have hall : ([47].all fun u => !Tryz.prog.wantsStandIn u) = true := by kernel_rfl
        exact (show Tryz.prog.wantsStandIn t = false by simpa using List.all_eq_true.1 hall t hm)⟩)
    (by kernel_rfl)
#print axioms abstractNobody_holds
end Go.Proofs.YthiafmlgialbnaaGreatDoor
