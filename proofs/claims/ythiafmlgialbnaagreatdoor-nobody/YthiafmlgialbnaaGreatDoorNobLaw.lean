/-
  phalanxlaw13.AbstractNobody, walked. What the listed variable gives; arguments that are cells and rectangles, opened and shut. Arguments that are shapes, opened and shut. Arguments that are maps, opened. What the listed variables give. Proved: phalanxlaw13.AbstractNobody returns true for every cell, and leaves it as it was. Conditions: none but the row's own: the packages' variables offsets and grounds hold what their initialisers lay (the card ties them).
-/
import Derived.Test.YthiafmlgialbnaaGreatDoorAwk
import Derived.ProofKit
import Derived.LaidMore
import Derived.OpenShut
import Derived.Stop.Joined
import Derived.Deep.Strs
import Derived.Test.YthiafmlgialbnaaGreatDoorNew
import Derived.Deep.Slices
import Derived.Lib.SmallJoins
import Derived.Test.YthiafmlgialbnaaGreatDoorStep
import Derived.Test.YthiafmlgialbnaaGreatDoorFoot
import Derived.Test.YthiafmlgialbnaaGreatDoorCards
import Derived.Test.YthiafmlgialbnaaGreatDoorTie
set_option linter.unusedSimpArgs false
namespace Go.Proofs.YthiafmlgialbnaaGreatDoor
open Go.RowKit Go.Shelf
set_option linter.unusedVariables false
attribute [local go_sem] Oper.semAt_some
theorem gupdate_no {w : World} {z : Value} (h : Nog w z) : Calls Tryz.prog 17 #[z] w fun e w' => e = .returned (.tuple #[.int .i64 0, .int .i64 1]) ∧ Below w.heap.size w w' := by
  have HM := hide (gmade_no h)
  clear h
  go_enter Tryz.func17, Tryz.ntmps17
  go_wp2_with fail
  refine HM.out.mono ?_
  rintro e w1 ⟨rfl, rfl⟩
  go_wp2_with fail
  refine bodyPost_ret (v := .tuple #[.int .i64 0, .int .i64 1]) (by simp [results, Tryz.f17, go_sem]) rfl ?_
  exact ⟨rfl, Below.refl _ _⟩
theorem gnodes_fn (a : Option Addr) (w : World) : Calls Tryz.prog 19 #[.pointer a] w fun e w' => e = .returned (.func (.func 42) #[] #[ptr w.heap.size]) ∧ w' = w.alloc (.cells #[.pointer a] 34) := by
  go_enter Tryz.func19, Tryz.ntmps19
  go_wp2_with fail
  go_ret
  exact ⟨rfl, rfl⟩
theorem nob_seq (n B : Nat) (z : Value) (w : World) (hB : Boxed w B 34 z) (h : Nog w z) :
    SeqOwn n 42 #[ptr B] encQ (fun _ _ => True) (fun xs => xs = []) (fun pre => pre = []) 0 w := fun l J Jx W hW hJ hJx hY h0 => by
  have cB := (boxed_upto hB hW hB.lt).cell
  have HM := hide (gmade_no (h.upto hW))
  have hz : z = .pointer none ∨ ∃ g, z = ptr g := h.imp id (fun ⟨g, e, _⟩ => ⟨g, e⟩)
  clear h hB
  refine callsIn_of_wp Tryz.func42 rfl trivial ?_ rfl
  simp only [Tryz.ntmps42, List.size_toArray, List.length_cons, List.length_nil, Nat.reduceAdd, Nat.reduceSub, Array.replicate_succ, Array.replicate_zero, List.push_toArray, List.append_toArray, List.nil_append, List.cons_append]
  rcases hz with rfl | ⟨g, rfl⟩
  all_goals
    gi_wp2_with fail
    refine ⟨trivial, fun h => (by cases h), ?_⟩
    refine (callsIn_wide.2 HM.out).mono ?_
    rintro e w1 ⟨rfl, hw1⟩
    have hw1' := hw1.symm
    subst hw1'
    clear hw1
    gi_wp2_with fail
    refine bodyPost_ret (results_none rfl _ _ _) rfl ?_
    exact ⟨⟨_, rfl⟩, .inl ⟨[], rfl, h0⟩⟩
set_option maxRecDepth 100000 in
set_option maxHeartbeats 16000000 in
theorem nobody_walk (x y : Int) (w : World) (hg : Grnd w) (ho : Offs w) : Calls Tryz.prog 6 #[cel x y] w fun e w' => e = .returned (.bool true) ∧ Below w.heap.size w w' := by
  refine (callsIn_wide (n := 10)).1 ?_
  refine callsIn_of_wp_marks Tryz.func6 rfl trivial ?_ rfl
  simp only [Tryz.ntmps6, List.size_toArray, List.length_cons, List.length_nil, Nat.reduceAdd, Nat.reduceSub, Array.replicate_succ, Array.replicate_zero, List.push_toArray, List.append_toArray, List.nil_append, List.cons_append]
  obtain ⟨X, hX⟩ : ∃ X, w.alloc (.cells #[.int .i64 x, .int .i64 y] 47) = X := ⟨_, rfl⟩
  have BX : Below w.heap.size w X := hX ▸ box1 _ _
  have TX : Two X w.heap.size x y := by rw [← hX]; exact Two.newAt rfl
  have HAw : Hid (∀ wx, Below X.heap.size X wx → Calls Tryz.prog 7 #[] wx fun e w' => e = .returned (.bool true) ∧ Below wx.heap.size wx w') := hide fun wx q => awake_is wx (hg.kept (bt BX q)) (ho.kept (bt BX q))
  have HT : Hid (∀ wx, Below X.heap.size X wx → wx.cell? ⟨w.heap.size, 0, none⟩ = some (.int .i64 x) ∧ wx.cell? ⟨w.heap.size, 1, none⟩ = some (.int .i64 y)) := hide fun wx q => (TX.kept q).1
  have HX := hide hX
  have HB := hide BX
  clear hX BX TX hg ho
  gi_wp2_with (rw [HX.out])
  refine ⟨trivial, ?_⟩
  refine (callsIn_wide.2 (HAw.out X (Below.refl _ _))).mono ?_
  rintro e W0 ⟨rfl, hb0⟩
  have H0 := hide hb0
  clear hb0
  gi_wp2_with fail
  refine wpIn_loop_rounds 3 ?_
  rw [roundsIn_succ]
  have HN0 : Hid (∀ wx, Below W0.heap.size W0 wx → Nog wx (.pointer none)) := hide fun wx _ => .inl rfl
  have BA0 : Below W0.heap.size W0 W0 := Below.refl _ _
  obtain ⟨C0, hC0⟩ : ∃ C, W0.alloc (.cells #[.int .i64 0] 3) = C := ⟨_, rfl⟩
  have BC0 : Below W0.heap.size W0 C0 := hC0 ▸ box1 _ _
  have nC0 : Boxed C0 W0.heap.size 3 (.int .i64 0) := by rw [← hC0]; exact Boxed.new W0 3 _
  have HC0 := hide hC0
  have HBC0 := hide (And.intro BC0 (And.intro nC0 BA0))
  clear hC0 BC0 nC0 BA0
  gi_wp2_with fail
  rw [HC0.out]
  refine ⟨trivial, ?_⟩
  refine (callsIn_wide.2 (gnodes_fn _ C0)).mono ?_
  rintro e V0 ⟨rfl, hV0⟩
  have BV0 : Below C0.heap.size C0 V0 := hV0 ▸ box1 _ _
  have bV0 : Boxed V0 C0.heap.size 34 (.pointer none) := hV0 ▸ Boxed.new C0 34 _
  have BV10 := bt HBC0.out.1 BV0
  have hseq0 := nob_seq (10 - 1) C0.heap.size (.pointer none) V0 bV0 (HN0.out V0 BV10)
  have HV0 := hide (And.intro BV0 BV10)
  clear hV0 BV0 bV0 BV10
  gi_wp2_with fail
  refine range_nest (n := 10) (by omega) (gf := 42) (lb := #[ptr C0.heap.size]) rfl (enters_of Tryz.func42 (by kernel_rfl) rfl)
    hseq0 (fun _ _ => trivial) (fun _ _ _ _ _ _ _ _ => trivial) (Below.refl _ _) (fun _ => rfl)
    (fun pre Y => Below V0.heap.size V0 Y) (fun _ _ => False) (ownFrom_below (Nat.le_refl _) (Nat.le_refl _)) (fun _ _ _ _ h _ _ => h.elim) (Below.refl _ _)
    (fun q a' Y => True) (fun q a' _ Y Z row hs hg hr => hs) ?assign0 ?body0 ?done0 ?stop0
  case assign0 =>
    rintro lo pre q Y K hI hK
    gi_wp2
    exact hK _ _ (Keep.refl _ _) trivial hI trivial
  case body0 => exact fun lo pre q a' Y hlo hI hA hlt => absurd hlt (Nat.not_lt_zero _)
  case stop0 => exact fun D pre Y hD hp h hK => h.elim
  case done0 =>
    rintro D0 xs0 U0 hD0 hxs0 hU0 hK0
    have BU0 : Below W0.heap.size W0 U0 := bt HV0.out.2 hU0
    have bn0 := boxed_upto HBC0.out.2.1 (bt HV0.out.1 hU0) HBC0.out.2.1.lt
    have HNU0 : Hid (∀ wx, Below U0.heap.size U0 wx → Nog wx (.pointer none)) := hide fun wx q => HN0.out wx (bt BU0 q)
    have HU0 := hide (And.intro BU0 (And.intro bn0 hK0))
    have HUX0 : Hid (Below X.heap.size X U0) := hide (bt H0.out (bt HBC0.out.2.2 HU0.out.1))
    clear BU0 hU0 bn0 hseq0
    gi_wp2_with fail
    refine ⟨trivial, ?_⟩
    refine (callsIn_wide.2 (gupdate_no (HNU0.out U0 (Below.refl _ _)))).mono ?_
    rintro e u00 ⟨rfl, hc00⟩
    have Hc00 := hide hc00
    have zn0 := (boxed_upto HU0.out.2.1 hc00 HU0.out.2.1.lt).cell
    obtain ⟨zx0, zy0⟩ := HT.out u00 (bt HUX0.out hc00)
    clear hc00
    gi_wp2_with fail
    refine ⟨trivial, ?_⟩
    refine (callsIn_wide.2 (gedges_no (HNU0.out u00 Hc00.out) x y)).mono ?_
    rintro e u10 ⟨rfl, hc10⟩
    have Hc10 := hide (bt Hc00.out hc10)
    clear zn0 zx0 zy0
    obtain ⟨zx0, zy0⟩ := HT.out u10 (bt HUX0.out Hc10.out)
    clear hc10
    gi_wp2_with fail
    refine ⟨trivial, ?_⟩
    refine (callsIn_wide.2 (gwithin_no (HNU0.out u10 Hc10.out) x y)).mono ?_
    rintro e u20 ⟨rfl, hc20⟩
    have Hc20 := hide (bt Hc10.out hc20)
    clear hc20
    gi_wp2_with fail
    refine ⟨trivial, ?_⟩
    refine (callsIn_wide.2 (glen_no (HNU0.out u20 Hc20.out))).mono ?_
    rintro e u30 ⟨rfl, hc30⟩
    have Hc30 := hide (bt Hc20.out hc30)
    clear hc30
    gi_wp2_with fail
    refine ⟨trivial, ?_⟩
    refine (callsIn_wide.2 (gepoch_no (HNU0.out u30 Hc30.out))).mono ?_
    rintro e u40 ⟨rfl, hc40⟩
    have Hc40 := hide (bt Hc30.out hc40)
    clear hc40
    gi_wp2_with fail
    refine ⟨trivial, ?_⟩
    refine (callsIn_wide.2 (gshape_no (HNU0.out u40 Hc40.out))).mono ?_
    rintro e u50 ⟨rfl, hc50⟩
    have Hc50 := hide (bt Hc40.out hc50)
    clear hc50
    gi_wp2_with fail
    refine ⟨trivial, ?_⟩
    refine (callsIn_wide.2 (gworld_no (HNU0.out u50 Hc50.out))).mono ?_
    rintro e u60 ⟨rfl, hc60⟩
    have Hc60 := hide (bt Hc50.out hc60)
    clear hc60
    clear zx0 zy0
    have hne0 : ∀ wx, (binOp .neq 27 (shv 0 0) (shv 0 0)).run Tryz.prog wx = .ok (.bool false) wx := fun wx => by kernel_rfl
    gi_wp2_with fail
    have HW0 : Hid (Below X.heap.size X u60) := hide (bt HUX0.out Hc60.out)
    have HD0 : Hid (u60.heap[D0]? = some (.deferred (some []))) := hide ((Hc60.out.block D0 (Array.getElem?_eq_some_iff.1 hK0).1).trans hK0)
    rw [roundsIn_succ]
    obtain ⟨A1, hA1⟩ : ∃ A, u60.alloc (.cells #[.pointer none, .int .i64 0, .int .i64 0, .int .i64 0, .map none, .map none] 67) = A := ⟨_, rfl⟩
    have BA1 : Below u60.heap.size u60 A1 := hA1 ▸ box1 _ _
    have oA1 : A1.heap[u60.heap.size]? = some (.cells #[.pointer none, .int .i64 0, .int .i64 0, .int .i64 0, .map none, .map none] 67 (0, 0)) := hA1 ▸ heap_alloc_new u60 _
    have HN1 : Hid (∀ wx, Below A1.heap.size A1 wx → Nog wx (ptr u60.heap.size)) := hide fun wx q => .inr ⟨_, rfl, (q.block _ (Array.getElem?_eq_some_iff.1 oA1).1).trans oA1⟩
    have HA1 := hide hA1
    obtain ⟨C1, hC1⟩ : ∃ C, A1.alloc (.cells #[.int .i64 0] 3) = C := ⟨_, rfl⟩
    have BC1 : Below A1.heap.size A1 C1 := hC1 ▸ box1 _ _
    have zA1 : A1.heap.size = u60.heap.size + 1 := by rw [← hA1]; simp
    have nC1 : Boxed C1 (u60.heap.size + 1) 3 (.int .i64 0) := by rw [← hC1, ← zA1]; exact Boxed.new A1 3 _
    have HC1 := hide hC1
    have HBC1 := hide (And.intro BC1 (And.intro nC1 BA1))
    clear hC1 BC1 nC1 BA1 hA1 oA1
    clear zA1
    gi_wp2_with fail
    rw [HA1.out, HC1.out]
    refine ⟨trivial, ?_⟩
    refine (callsIn_wide.2 (gnodes_fn _ C1)).mono ?_
    rintro e V1 ⟨rfl, hV1⟩
    have BV1 : Below C1.heap.size C1 V1 := hV1 ▸ box1 _ _
    have bV1 : Boxed V1 C1.heap.size 34 (ptr u60.heap.size) := hV1 ▸ Boxed.new C1 34 _
    have BV11 := bt HBC1.out.1 BV1
    have hseq1 := nob_seq (10 - 1) C1.heap.size (ptr u60.heap.size) V1 bV1 (HN1.out V1 BV11)
    have HV1 := hide (And.intro BV1 BV11)
    clear hV1 BV1 bV1 BV11
    gi_wp2_with fail
    refine range_nest (n := 10) (by omega) (gf := 42) (lb := #[ptr C1.heap.size]) rfl (enters_of Tryz.func42 (by kernel_rfl) rfl)
      hseq1 (fun _ _ => trivial) (fun _ _ _ _ _ _ _ _ => trivial) (Below.refl _ _) (fun _ => rfl)
      (fun pre Y => Below V1.heap.size V1 Y) (fun _ _ => False) (ownFrom_below (Nat.le_refl _) (Nat.le_refl _)) (fun _ _ _ _ h _ _ => h.elim) (Below.refl _ _)
      (fun q a' Y => True) (fun q a' _ Y Z row hs hg hr => hs) ?assign1 ?body1 ?done1 ?stop1
    case assign1 =>
      rintro lo pre q Y K hI hK
      gi_wp2
      exact hK _ _ (Keep.refl _ _) trivial hI trivial
    case body1 => exact fun lo pre q a' Y hlo hI hA hlt => absurd hlt (Nat.not_lt_zero _)
    case stop1 => exact fun D pre Y hD hp h hK => h.elim
    case done1 =>
      rintro D1 xs1 U1 hD1 hxs1 hU1 hK1
      have BU1 : Below A1.heap.size A1 U1 := bt HV1.out.2 hU1
      have bn1 := boxed_upto HBC1.out.2.1 (bt HV1.out.1 hU1) HBC1.out.2.1.lt
      have HNU1 : Hid (∀ wx, Below U1.heap.size U1 wx → Nog wx (ptr u60.heap.size)) := hide fun wx q => HN1.out wx (bt BU1 q)
      have HU1 := hide (And.intro BU1 (And.intro bn1 hK1))
      have HUX1 : Hid (Below X.heap.size X U1) := hide (bt HW0.out (bt HBC1.out.2.2 HU1.out.1))
      clear BU1 hU1 bn1 hseq1
      gi_wp2_with fail
      refine ⟨trivial, ?_⟩
      refine (callsIn_wide.2 (gupdate_no (HNU1.out U1 (Below.refl _ _)))).mono ?_
      rintro e u01 ⟨rfl, hc01⟩
      have Hc01 := hide hc01
      have zn1 := (boxed_upto HU1.out.2.1 hc01 HU1.out.2.1.lt).cell
      obtain ⟨zx1, zy1⟩ := HT.out u01 (bt HUX1.out hc01)
      clear hc01
      gi_wp2_with fail
      refine ⟨trivial, ?_⟩
      refine (callsIn_wide.2 (gedges_no (HNU1.out u01 Hc01.out) x y)).mono ?_
      rintro e u11 ⟨rfl, hc11⟩
      have Hc11 := hide (bt Hc01.out hc11)
      clear zn1 zx1 zy1
      obtain ⟨zx1, zy1⟩ := HT.out u11 (bt HUX1.out Hc11.out)
      clear hc11
      gi_wp2_with fail
      refine ⟨trivial, ?_⟩
      refine (callsIn_wide.2 (gwithin_no (HNU1.out u11 Hc11.out) x y)).mono ?_
      rintro e u21 ⟨rfl, hc21⟩
      have Hc21 := hide (bt Hc11.out hc21)
      clear hc21
      gi_wp2_with fail
      refine ⟨trivial, ?_⟩
      refine (callsIn_wide.2 (glen_no (HNU1.out u21 Hc21.out))).mono ?_
      rintro e u31 ⟨rfl, hc31⟩
      have Hc31 := hide (bt Hc21.out hc31)
      clear hc31
      gi_wp2_with fail
      refine ⟨trivial, ?_⟩
      refine (callsIn_wide.2 (gepoch_no (HNU1.out u31 Hc31.out))).mono ?_
      rintro e u41 ⟨rfl, hc41⟩
      have Hc41 := hide (bt Hc31.out hc41)
      clear hc41
      gi_wp2_with fail
      refine ⟨trivial, ?_⟩
      refine (callsIn_wide.2 (gshape_no (HNU1.out u41 Hc41.out))).mono ?_
      rintro e u51 ⟨rfl, hc51⟩
      have Hc51 := hide (bt Hc41.out hc51)
      clear hc51
      gi_wp2_with fail
      refine ⟨trivial, ?_⟩
      refine (callsIn_wide.2 (gworld_no (HNU1.out u51 Hc51.out))).mono ?_
      rintro e u61 ⟨rfl, hc61⟩
      have Hc61 := hide (bt Hc51.out hc61)
      clear hc61
      clear zx1 zy1
      have hne1 : ∀ wx, (binOp .neq 27 (shv 0 0) (shv 0 0)).run Tryz.prog wx = .ok (.bool false) wx := fun wx => by kernel_rfl
      gi_wp2_with fail
      have HW1 : Hid (Below X.heap.size X u61) := hide (bt HUX1.out Hc61.out)
      have HD1 : Hid (u61.heap[D1]? = some (.deferred (some []))) := hide ((Hc61.out.block D1 (Array.getElem?_eq_some_iff.1 hK1).1).trans hK1)
      rw [roundsIn_succ]
      gi_wp2_with fail
      refine ⟨trivial, ?_⟩
      refine (callsIn_wide.2 (HAw.out u61 HW1.out)).mono ?_
      rintro e w7 ⟨rfl, hb7⟩
      gi_wp2_with fail
      have hE1 := (hb7.block D1 (Array.getElem?_eq_some_iff.1 HD1.out).1).trans HD1.out
      have b67 : Below u60.heap.size u60 w7 := bt HBC1.out.2.2 (bt HU1.out.1 (bt Hc61.out hb7))
      have hE0 := (b67.block D0 (Array.getElem?_eq_some_iff.1 HD0.out).1).trans HD0.out
      have hlt0 := (Array.getElem?_eq_some_iff.1 HD0.out).1
      have hs1 : u60.heap.size ≤ D1 := Nat.le_trans (bt HBC1.out.2.2 HV1.out.2).size hD1
      refine ⟨by simp, .inl ⟨_, _, rfl, run_takeDeferred hE1, ?_⟩⟩
      have hKC := ((grownBy_putObj' w7 D1 (.deferred none)).block D0 (Array.getElem?_eq_some_iff.1 hE0).1 (fun e => by cases e; omega)).trans hE0
      refine ⟨by simp, .inl ⟨_, _, rfl, run_takeDeferred hKC, ?_⟩⟩
      have hB10 : Below w.heap.size w w7 := bt HB.out (bt HW1.out hb7)
      have hws : w.heap.size ≤ D0 := Nat.le_trans (bt HB.out (bt H0.out HV0.out.2)).size hD0
      refine ⟨.bool true, ?_, rfl, (hB10.trans (belowK_b (w := w) (Nat.le_refl _) _ D1 _ _ (by omega) hE1 rfl rfl)).trans (belowK_b (w := w) (Nat.le_refl _) _ D0 _ _ (by omega) hKC rfl rfl)⟩
      simp [results, Tryz.f6, go_sem]
end Go.Proofs.YthiafmlgialbnaaGreatDoor
namespace Go.Proofs.YthiafmlgialbnaaGreatDoor
open Go.ChangeShapes Go.WideShapes Go.ChangeAt Go.WideMaps Go.WideElems Go.RowKit Go.Deep
set_option linter.unusedVariables false
set_option maxRecDepth 100000
theorem own : ownKnob Tryz.prog.godebug = none := by kernel_rfl
theorem c3 : Tryz.prog.cellsOf 3 = 1 := by kernel_rfl
theorem c23 : Tryz.prog.cellsOf 47 = 2 := by kernel_rfl
theorem c34 : Tryz.prog.cellsOf 49 = 4 := by kernel_rfl
/-- Two cells that read as a Cell. -/
theorem cell_of {H : Type} {enc : TypeId × Value → H} {W : World} {base : Nat} {sp : Nat → Bool} {held : Bool} {fuel : Nat} {cs : List Value} {z : DataW H × List MemPlace} (h : DataW.trod enc Tryz.prog W base sp held fuel 47 cs = some z) :
    ∃ x y : Int, cs = [.int .i64 x, .int .i64 y] ∧ z = (.agg [.lit (.int .i64 x), .lit (.int .i64 y)], []) ∧ (Lit.int .i64 x).wf = true ∧ (Lit.int .i64 y).wf = true := by
  obtain ⟨y0, y1, n, rfl, hl, h0, h1⟩ := trod_struct2 Tryz.underlying47 h
  obtain ⟨a, e0, rfl, w0⟩ := DataW.trod_int Tryz.underlying3 h0
  obtain ⟨b, e1, rfl, w1⟩ := DataW.trod_int Tryz.underlying3 h1
  rw [c23] at hl
  match cs, hl, e0, e1 with
  | [u, v], _, e0, e1 =>
    simp [c3] at e0 e1
    subst e0; subst e1
    exact ⟨a, b, rfl, by simp, w0, w1⟩
section
variable {H : Type} {enc : TypeId × Value → H} {W : World}
theorem open_cell {base b0 : Nat} {sp : Nat → Bool} {held : Bool} {r : Reach} {v : Value} {d : DataW H} {p : List MemPlace} (hv : Value.okWide Tryz.prog W r b0 47 v) (h : DataW.Trod enc Tryz.prog W base sp held 47 v d p) :
    ∃ x y : Int, v = .agg #[.int .i64 x, .int .i64 y] ∧ d = .agg [.lit (.int .i64 x), .lit (.int .i64 y)] ∧ p = [] ∧ (Lit.int .i64 x).wf = true ∧ (Lit.int .i64 y).wf = true := by
  obtain ⟨cs, rfl, hsz⟩ := okWide_struct Tryz.underlying47 hv
  obtain ⟨fuel, hf⟩ := h
  obtain ⟨x, y, hcs, hz, wx, wy⟩ := cell_of hf
  simp only [Prod.mk.injEq] at hz
  obtain ⟨rfl, rfl⟩ := hz
  refine ⟨x, y, ?_, rfl, rfl, wx, wy⟩
  obtain ⟨l⟩ := cs
  simp [Value.cells] at hcs
  subst hcs
  rfl
theorem cell_back {base : Nat} {sp : Nat → Bool} {held : Bool} {x y : Int} (wx : (Lit.int .i64 x).wf = true) (wy : (Lit.int .i64 y).wf = true) (m : Nat) :
    DataW.trod enc Tryz.prog W base sp held (m + 1 + 1) 47 [.int .i64 x, .int .i64 y] = some (.agg [.lit (.int .i64 x), .lit (.int .i64 y)], []) := by
  have := trod_struct2_mk (enc := enc) (w := W) (base := base) (spare := sp) (held := held) (n := m + 1) (cs := [.int .i64 x, .int .i64 y]) (y0 := (.lit (.int .i64 x), [])) (y1 := (.lit (.int .i64 y), [])) Tryz.underlying47 (by simp [c23])
    (by simpa [c3] using trod_int_mk m Tryz.underlying3 wx) (by simpa [c3] using trod_int_mk m Tryz.underlying3 wy)
  simpa using this
theorem shut_cell {base : Nat} {sp : Nat → Bool} {held : Bool} {x y : Int} (wx : (Lit.int .i64 x).wf = true) (wy : (Lit.int .i64 y).wf = true) :
    DataW.Trod enc Tryz.prog W base sp held 47 (.agg #[.int .i64 x, .int .i64 y]) (.agg [.lit (.int .i64 x), .lit (.int .i64 y)]) [] := ⟨2, by simpa [Value.cells] using cell_back wx wy 0⟩
/-- Four cells that read as a Rect. -/
theorem rect_of {base : Nat} {sp : Nat → Bool} {held : Bool} {fuel : Nat} {cs : List Value} {z : DataW H × List MemPlace} (h : DataW.trod enc Tryz.prog W base sp held fuel 49 cs = some z) :
    ∃ x y a b : Int, cs = [.int .i64 x, .int .i64 y, .int .i64 a, .int .i64 b] ∧ z = (.agg [.agg [.lit (.int .i64 x), .lit (.int .i64 y)], .lit (.int .i64 a), .lit (.int .i64 b)], []) ∧ ((Lit.int .i64 x).wf = true ∧ (Lit.int .i64 y).wf = true) ∧ (Lit.int .i64 a).wf = true ∧ (Lit.int .i64 b).wf = true := by
  obtain ⟨y0, y1, y2, n, rfl, hl, h0, h1, h2⟩ := trod_struct3 Tryz.underlying49 h
  obtain ⟨x, y, e0, rfl, w0, w0'⟩ := cell_of h0
  obtain ⟨a, e1, rfl, w1⟩ := DataW.trod_int Tryz.underlying3 h1
  obtain ⟨b, e2, rfl, w2⟩ := DataW.trod_int Tryz.underlying3 h2
  rw [c34] at hl
  match cs, hl, e0, e1, e2 with
  | [u, v, s, t], _, e0, e1, e2 =>
    simp [c3, c23] at e0 e1 e2
    obtain ⟨rfl, rfl⟩ := e0
    subst e1; subst e2
    exact ⟨x, y, a, b, rfl, by simp, ⟨w0, w0'⟩, w1, w2⟩
theorem rect_back {base : Nat} {sp : Nat → Bool} {held : Bool} {x y a b : Int} (h1 : (Lit.int .i64 x).wf = true ∧ (Lit.int .i64 y).wf = true) (h2 : (Lit.int .i64 a).wf = true ∧ (Lit.int .i64 b).wf = true) (m : Nat) :
    DataW.trod enc Tryz.prog W base sp held (m + 1 + 1 + 1) 49 [.int .i64 x, .int .i64 y, .int .i64 a, .int .i64 b] = some (.agg [.agg [.lit (.int .i64 x), .lit (.int .i64 y)], .lit (.int .i64 a), .lit (.int .i64 b)], []) := by
  have := trod_struct3_mk (enc := enc) (w := W) (base := base) (spare := sp) (held := held) (n := m + 1 + 1) (cs := [.int .i64 x, .int .i64 y, .int .i64 a, .int .i64 b]) (y0 := (.agg [.lit (.int .i64 x), .lit (.int .i64 y)], [])) (y1 := (.lit (.int .i64 a), [])) (y2 := (.lit (.int .i64 b), [])) Tryz.underlying49 (by simp [c34])
    (by simpa [c23] using cell_back h1.1 h1.2 m) (by simpa [c3] using trod_int_mk (m + 1) Tryz.underlying3 h2.1) (by simpa [c3] using trod_int_mk (m + 1) Tryz.underlying3 h2.2)
  simpa using this
abbrev rectV (x y a b : Int) : Value := .agg #[.int .i64 x, .int .i64 y, .int .i64 a, .int .i64 b]
abbrev rectD {H : Type} (x y a b : Int) : DataW H := .agg [.agg [.lit (.int .i64 x), .lit (.int .i64 y)], .lit (.int .i64 a), .lit (.int .i64 b)]
theorem open_rect {base b0 : Nat} {sp : Nat → Bool} {held : Bool} {r : Reach} {v : Value} {d : DataW H} {p : List MemPlace} (hv : Value.okWide Tryz.prog W r b0 49 v) (h : DataW.Trod enc Tryz.prog W base sp held 49 v d p) :
    ∃ x y a b : Int, v = rectV x y a b ∧ d = rectD x y a b ∧ p = [] ∧ ((Lit.int .i64 x).wf = true ∧ (Lit.int .i64 y).wf = true) ∧ (Lit.int .i64 a).wf = true ∧ (Lit.int .i64 b).wf = true := by
  obtain ⟨cs, rfl, hsz⟩ := okWide_struct Tryz.underlying49 hv
  obtain ⟨fuel, hf⟩ := h
  obtain ⟨x, y, a, b, hcs, hz, h1, h2⟩ := rect_of hf
  simp only [Prod.mk.injEq] at hz
  obtain ⟨rfl, rfl⟩ := hz
  refine ⟨x, y, a, b, ?_, rfl, rfl, h1, h2⟩
  obtain ⟨l⟩ := cs
  simp [Value.cells] at hcs
  subst hcs
  rfl
theorem shut_rect {base : Nat} {sp : Nat → Bool} {held : Bool} {x y a b : Int} (h1 : (Lit.int .i64 x).wf = true ∧ (Lit.int .i64 y).wf = true) (h2 : (Lit.int .i64 a).wf = true ∧ (Lit.int .i64 b).wf = true) :
    DataW.Trod enc Tryz.prog W base sp held 49 (rectV x y a b) (rectD x y a b) [] := ⟨3, by simpa [Value.cells] using rect_back h1 h2 0⟩
end
end Go.Proofs.YthiafmlgialbnaaGreatDoor
namespace Go.Proofs.YthiafmlgialbnaaGreatDoor
open Go.ChangeShapes Go.WideShapes Go.ChangeAt Go.WideMaps Go.WideElems Go.RowKit Go.Deep
set_option linter.unusedVariables false
set_option maxRecDepth 100000
end Go.Proofs.YthiafmlgialbnaaGreatDoor
namespace Go.Proofs.YthiafmlgialbnaaGreatDoor
open Go.ChangeShapes Go.WideShapes Go.ChangeAt Go.WideMaps Go.WideElems Go.RowKit Go.Deep Go.Joins
set_option linter.unusedVariables false
set_option maxRecDepth 100000
theorem cBd : Tryz.prog.cellsOf 51 = 5 := by kernel_rfl
theorem cMp : Tryz.prog.cellsOf 25 = 4 := by kernel_rfl
theorem cSl : Tryz.prog.cellsOf 22 = 1 := by kernel_rfl
theorem cSl2 : Tryz.prog.cellsOf 23 = 1 := by kernel_rfl
section
variable {H : Type} {enc : TypeId × Value → H} {W : World} {base : Nat} {sp : Nat → Bool} {held : Bool}
theorem opened_tiles {fuel : Nat} {v : Value} {x : DataW H × List MemPlace} (h : DataW.trod enc Tryz.prog W base sp held fuel 22 [v] = some x) : ∃ l, TlR W v l ∧ ∀ n ∈ l, n < 256 := by
  rcases open_ints Tryz.underlying22 Tryz.underlying5 (by kernel_rfl) h with ⟨hcs, hx⟩ | ⟨a, l, c, zs, hcs, _, hl, hm, hz, hx, hcell, hwz⟩
  · simp at hcs
    subst hcs
    exact ⟨[], ⟨none, 0, rfl, Nat.le_refl _, by decide, fun _ => ⟨rfl, rfl⟩, fun i x hx => by simp at hx⟩, fun n hn => by simp at hn⟩
  · simp at hcs
    subst hcs
    have hlz : l ≤ zs.length := by rw [hz]; split <;> omega
    have hl2 : (zs.take l).length = l := by rw [List.length_take]; omega
    have hbz : ∀ z ∈ zs, 0 ≤ z ∧ z < 256 := fun z hz => by have := bounds_u8 (hwz z hz); omega
    refine ⟨(zs.take l).map Int.toNat, ⟨some a, c, by rw [List.length_map, hl2], by rw [List.length_map, hl2]; exact hl, by rw [List.length_map, hl2]; omega, (fun h => nomatch h), fun i x hx => ?_⟩, fun n hn => ?_⟩
    · rw [List.getElem?_map] at hx
      cases hi : (zs.take l)[i]? with
      | none => rw [hi] at hx; cases hx
      | some z =>
        rw [hi] at hx
        cases hx
        have hil : i < l := by have := (List.getElem?_eq_some_iff.1 hi).1; omega
        rw [List.getElem?_take_of_lt hil] at hi
        have hci := hcell i (by omega)
        rw [List.getD_eq_getElem?_getD, hi] at hci
        obtain ⟨b, o, s⟩ := a
        obtain rfl : s = none := by simpa [Addr.add] using World.cell?_spot (hcell 0 (by omega))
        rw [Addr.add_lit] at hci
        have hb := hbz z (List.mem_of_getElem? hi)
        refine ⟨b, o, rfl, World.block_lt_of_cell? _ _ hci, ?_⟩
        rw [hci]
        simp; omega
    · obtain ⟨z, hz, rfl⟩ := List.mem_map.1 hn
      have := hbz z (List.mem_of_mem_take hz)
      omega
theorem bd_of {fuel : Nat} {cs : List Value} {z : DataW H × List MemPlace} (h : DataW.trod enc Tryz.prog W base sp held fuel 51 cs = some z) : ∃ t : Bd, cs = [.int .i64 t.id, .int .i64 t.x, .int .i64 t.y, .int .i64 t.a, .int .i64 t.b] := by
  obtain ⟨y0, y1, n, rfl, hl, h0, h1⟩ := trod_struct2 Tryz.underlying51 h
  obtain ⟨i, e0, rfl, w0⟩ := DataW.trod_int Tryz.underlying3 h0
  obtain ⟨x, y, a, b, e1, rfl, _, _⟩ := rect_of h1
  rw [cBd] at hl
  match cs, hl, e0, e1 with
  | [q, u, v, s, t], _, e0, e1 =>
    simp [c3, c34] at e0 e1
    subst e0
    obtain ⟨rfl, rfl, rfl, rfl⟩ := e1
    exact ⟨⟨i, x, y, a, b⟩, rfl⟩
theorem five_cells {b o : Nat} {c0 c1 c2 c3 c4 : Value} (h : W.cells? base ⟨b, o, none⟩ 5 = some [c0, c1, c2, c3, c4]) :
    W.cell? ⟨b, o, none⟩ = some c0 ∧ W.cell? ⟨b, o + 1, none⟩ = some c1 ∧ W.cell? ⟨b, o + 2, none⟩ = some c2 ∧ W.cell? ⟨b, o + 3, none⟩ = some c3 ∧ W.cell? ⟨b, o + 4, none⟩ = some c4 := by
  obtain ⟨_, _, hc⟩ := World.cells?_some h
  have h0 := hc 0 (by omega)
  have h1 := hc 1 (by omega)
  have h2 := hc 2 (by omega)
  have h3 := hc 3 (by omega)
  have h4 := hc 4 (by omega)
  simp only [Addr.add_lit] at h0 h1 h2 h3 h4
  exact ⟨h0, h1, h2, h3, h4⟩
theorem opened_blds {fuel : Nat} {v : Value} {x : DataW H × List MemPlace} (h : DataW.trod enc Tryz.prog W base sp held fuel 23 [v] = some x) : ∃ L, BdR W v L := by
  rcases open_slice Tryz.underlying23 h with ⟨hcs, hx⟩ | ⟨a, len, cap, m, n, D, Pl, hcs, hb, hl, hm, hmm, hx, hel⟩
  · simp only [List.cons.injEq, and_true] at hcs
    subst hcs
    exact ⟨[], BdR.nil W⟩
  · simp only [List.cons.injEq, and_true] at hcs
    subst hcs
    have hlm : len ≤ m := by rw [hmm]; split <;> omega
    rw [cBd] at hel
    have hit : Inhabited Bd := ⟨⟨0, 0, 0, 0, 0⟩⟩
    obtain ⟨T, hT⟩ := choose_lt (α := Bd) (p := fun i t => BdAtR W (some a) i t) (n := len) (fun i hi => by
      obtain ⟨cs', h1, h2⟩ := hel i (by omega)
      obtain ⟨t, rfl⟩ := bd_of h2
      obtain ⟨cs0, g1, g2⟩ := hel 0 (by omega)
      obtain ⟨t0, rfl⟩ := bd_of g2
      have hc0 := (World.cells?_some g1).2.2 0 (by omega)
      obtain ⟨b, o, s⟩ := a
      have hsp : s = none := by
        have := World.cell?_spot (hc0.trans rfl)
        simpa [Addr.add] using this
      subst hsp
      rw [Addr.add_lit] at h1
      have h5 := five_cells h1
      exact ⟨t, b, o, rfl, World.block_lt_of_cell? _ _ h5.1, h5.1, h5.2.1, h5.2.2.1, h5.2.2.2.1, h5.2.2.2.2⟩)
    have hget : ∀ i t, ((List.range len).map T)[i]? = some t → i < len ∧ t = T i := by
      intro i t ht
      simp only [List.getElem?_map, Option.map_eq_some_iff] at ht
      obtain ⟨j, hj, rfl⟩ := ht
      obtain ⟨h1, h2⟩ := List.getElem?_eq_some_iff.1 hj
      simp only [List.length_range] at h1
      simp only [List.getElem_range] at h2
      subst h2
      exact ⟨h1, rfl⟩
    refine ⟨(List.range len).map T, some a, cap, by simp, by simpa using hl, by simp; omega, (fun h => nomatch h), fun i t ht => ?_⟩
    obtain ⟨h1, rfl⟩ := hget i t ht
    exact hT i h1
/-- A map that was read. -/
theorem opened_map {b0 : Nat} {r : Reach} {v : Value} {d : DataW H} {p : List MemPlace} (hv : Value.okWide Tryz.prog W r b0 25 v) (h : DataW.Trod enc Tryz.prog W base sp held 25 v d p) :
    ∃ (Wd Hd : Int) (tv bv : Value) (tl : List Nat) (L : List Bd), v = mp Wd Hd tv bv ∧ TlR W tv tl ∧ (∀ n ∈ tl, n < 256) ∧ BdR W bv L := by
  obtain ⟨cs, rfl, hsz⟩ := okWide_struct Tryz.underlying25 hv
  obtain ⟨fuel, hf⟩ := h
  obtain ⟨y0, y1, y2, y3, n, hx, hl, e0, e1, e2, e3⟩ := trod_struct4 Tryz.underlying25 hf
  rw [cMp] at hl
  obtain ⟨l⟩ := cs
  simp only [Value.cells] at hl e0 e1 e2 e3
  match l, hl with
  | [q0, q1, q2, q3], _ =>
    simp only [c3, cSl, cSl2, List.drop_zero, List.drop_succ_cons, List.take_succ_cons, List.take_zero] at e0 e1 e2 e3
    obtain ⟨x0, r0, -, -⟩ := DataW.trod_int Tryz.underlying3 e0
    obtain ⟨x1, r1, -, -⟩ := DataW.trod_int Tryz.underlying3 e1
    simp at r0 r1
    subst r0
    subst r1
    obtain ⟨tl, ht, hb⟩ := opened_tiles e2
    obtain ⟨L, hL⟩ := opened_blds e3
    exact ⟨x0, x1, q2, q3, tl, L, rfl, ht, hb, hL⟩
end
end Go.Proofs.YthiafmlgialbnaaGreatDoor
namespace Go.Proofs.YthiafmlgialbnaaGreatDoor
open Go.ChangeShapes Go.WideShapes Go.ChangeAt Go.WideMaps Go.WideElems Go.RowKit Go.Deep
set_option linter.unusedVariables false
set_option maxRecDepth 100000
abbrev laid1 : List (String × DataW Unit) := [("phalanx/cell.offsets", Rows.laid_phalanx_cell_offsets), ("phalanx/class.grounds", Rows.laid_phalanx_class_grounds)]
theorem gOffs : Tryz.prog.globalNamed "phalanx/cell.offsets" = some 0 := by kernel_rfl
theorem gGrnd : Tryz.prog.globalNamed "phalanx/class.grounds" = some 1 := by kernel_rfl
theorem tGrnd : (Tryz.prog.globals[1]?).map (·.type) = some 254 := by kernel_rfl
theorem c5 : Tryz.prog.cellsOf 5 = 1 := by kernel_rfl
theorem tOffs : (Tryz.prog.globals[0]?).map (·.type) = some 236 := by kernel_rfl
theorem c54 : Tryz.prog.cellsOf 236 = 16 := by kernel_rfl
/-- The door's own heap meets the condition. -/
theorem door_met (os : Os) (args : Array Value) : laidMetH Tryz.prog laid1 ((World.doorLaid Tryz.prog 400 os).forCall (fun _ _ => 0) ⟨#[], args, []⟩).memory :=
  laidMetH_of_parts3 (fuel := 8) (laidMet_of_run' 8 (by kernel_rfl) (by kernel_rfl)) (by kernel_rfl) (by kernel_rfl)
def offsL : List (DataW Unit) := [.agg [.lit (.int .i64 1), .lit (.int .i64 0)], .agg [.lit (.int .i64 0), .lit (.int .i64 1)], .agg [.lit (.int .i64 (-1)), .lit (.int .i64 0)], .agg [.lit (.int .i64 0), .lit (.int .i64 (-1))], .agg [.lit (.int .i64 1), .lit (.int .i64 1)], .agg [.lit (.int .i64 (-1)), .lit (.int .i64 1)], .agg [.lit (.int .i64 (-1)), .lit (.int .i64 (-1))], .agg [.lit (.int .i64 1), .lit (.int .i64 (-1))]]
theorem offsL_at (k : Nat) (hk : k < 8) : offsL[k]? = some (.agg [.lit (.int .i64 (dX k)), .lit (.int .i64 (dY k))]) := by
  match k, hk with
  | 0, _ | 1, _ | 2, _ | 3, _ | 4, _ | 5, _ | 6, _ | 7, _ => rfl
/-- From the row's condition to what the walks ask. -/
theorem offs_of_laid {W : World} (h : laidMetH Tryz.prog laid1 W) : Offs W := by
  rw [MakeChecks.laidMetH_plain _ _ _ (by kernel_rfl)] at h
  obtain ⟨ps, ⟨g0, t0, cs0, f0, p0, q0, hg0, ht0, hv0, hd0, _, _⟩, _, _⟩ := h
  obtain rfl := Option.some.inj (gOffs.symm.trans hg0)
  obtain rfl := Option.some.inj (tOffs.symm.trans ht0)
  obtain ⟨xs, m1, rfl, hx1, hlen, hn, hel⟩ := DataW.trod_array Tryz.underlying236 hd0
  simp only [Prod.mk.injEq] at hx1
  have hL : offsL = xs.map (·.1) := by
    have := hx1.1
    simp only [Rows.laid_phalanx_cell_offsets, DataW.agg.injEq] at this
    exact this
  have hcells : ∀ k : Nat, k < 8 → W.cell? ⟨0, k * 2, none⟩ = some (.int .i64 (dX k)) ∧ W.cell? ⟨0, k * 2 + 1, none⟩ = some (.int .i64 (dY k)) := by
    intro k hk
    have hk' := hel k hk
    rw [c23] at hk'
    obtain ⟨z, hz⟩ : ∃ z, xs[k]? = some z := ⟨xs[k]'(by omega), List.getElem?_eq_getElem (by omega)⟩
    rw [hz] at hk'
    obtain ⟨x, y, hcs, rfl, _, _⟩ := cell_of hk'
    have h1 := offsL_at k hk
    rw [hL] at h1
    simp only [List.getElem?_map, hz, Option.map_some, Option.some.injEq, DataW.agg.injEq, List.cons.injEq, DataW.lit.injEq, Lit.int.injEq, true_and, and_true] at h1
    obtain ⟨rfl, rfl⟩ := h1
    have e0 : cs0[k * 2]? = some (.int .i64 (dX k)) := by
      have := congrArg (·[0]?) hcs
      simpa [List.getElem?_take, List.getElem?_drop] using this
    have e1 : cs0[k * 2 + 1]? = some (.int .i64 (dY k)) := by
      have := congrArg (·[1]?) hcs
      simpa [List.getElem?_take, List.getElem?_drop] using this
    exact ⟨(World.var?_cell hg0 hv0 (k * 2)).trans e0, (World.var?_cell hg0 hv0 (k * 2 + 1)).trans e1⟩
  exact ⟨World.block_lt_of_cell? W _ (hcells 0 (by decide)).1, hcells⟩
def grndL : List (DataW Unit) := [.lit (.int .u8 3), .lit (.int .u8 1), .lit (.int .u8 4), .lit (.int .u8 5)]
theorem grndL_at (k : Nat) (hk : k < 4) : grndL[k]? = some (.lit (.int .u8 (grN k))) := by
  match k, hk with
  | 0, _ | 1, _ | 2, _ | 3, _ => rfl
theorem grnd_of_laid {W : World} (h : laidMetH Tryz.prog laid1 W) : Grnd W := by
  rw [MakeChecks.laidMetH_plain _ _ _ (by kernel_rfl)] at h
  obtain ⟨ps, ⟨_, _, _, _, _, _, _, _, _, _, ⟨g0, t0, cs0, f0, p0, q0, hg0, ht0, hv0, hd0, _, _⟩, _⟩, _, _⟩ := h
  obtain rfl := Option.some.inj (gGrnd.symm.trans hg0)
  obtain rfl := Option.some.inj (tGrnd.symm.trans ht0)
  obtain ⟨xs, m1, rfl, hx1, hlen, hn, hel⟩ := DataW.trod_array Tryz.underlying254 hd0
  simp only [Prod.mk.injEq] at hx1
  have hL : grndL = xs.map (·.1) := by
    have := hx1.1
    simp only [Rows.laid_phalanx_class_grounds, DataW.agg.injEq] at this
    exact this
  have hcells : ∀ k : Nat, k < 4 → W.cell? ⟨1, k, none⟩ = some (.int .u8 (grN k)) := by
    intro k hk
    have hk' := hel k hk
    rw [c5] at hk'
    obtain ⟨z, hz⟩ : ∃ z, xs[k]? = some z := ⟨xs[k]'(by omega), List.getElem?_eq_getElem (by omega)⟩
    rw [hz] at hk'
    obtain ⟨a, hcs, rfl, _⟩ := DataW.trod_int Tryz.underlying5 hk'
    have h1 := grndL_at k hk
    rw [hL] at h1
    simp only [List.getElem?_map, hz, Option.map_some, Option.some.injEq, DataW.lit.injEq, Lit.int.injEq, true_and] at h1
    subst h1
    have e0 : cs0[k]? = some (.int .u8 (grN k)) := by
      have := congrArg (·[0]?) hcs
      simpa [List.getElem?_take, List.getElem?_drop] using this
    exact (World.var?_cell hg0 hv0 k).trans e0
  exact ⟨World.block_lt_of_cell? W _ (hcells 0 (by decide)), hcells⟩
end Go.Proofs.YthiafmlgialbnaaGreatDoor
namespace Go.Proofs.YthiafmlgialbnaaGreatDoor.abstractNobody
open Go.ChangeShapes Go.WideShapes Go.ChangeAt Go.WideMaps Go.WideElems Go.RowKit
set_option linter.unusedVariables false
set_option maxRecDepth 100000
theorem lifted (os : Os) (started : os.Started) (H : Type) (enc : TypeId × Value → H) :
    ReturnsInHanded {} Tryz.checked os 6 .any (fun w args => (Rows.abstractNobodySpec.pre enc Tryz.prog Tryz.f6 [] false w args ∧ laidMetH Tryz.prog laid1 w) ∧ sizedMet enc Tryz.prog Tryz.f6 (OpenSpec.ofChange Rows.abstractNobodySpec) false w args)
      (Rows.abstractNobodySpec.post enc Tryz.prog Tryz.f6 false true false false) := by
  refine returnsInHanded_of_change_and (C := Tryz.checked) (X := fun w _ => laidMetH Tryz.prog laid1 w) (fun _ _ _ hh h => h.of_heap hh) own started (by kernel_rfl) Tryz.func6
    (ChangeSpec.witness_shaped (enc := enc) (C := Tryz.checked) (os := os) (X := fun w _ => laidMetH Tryz.prog laid1 w) false (World.doorLaid Tryz.prog 400 os) #[.agg #[.int .i64 0, .int .i64 0]] 8 rfl (World.shaped_of_RefB (by kernel_rfl) (by kernel_rfl)) (by kernel_rfl) (by kernel_rfl) (by kernel_rfl) (door_met os _)) ?_
  intro W base args ds gs before hval0 hW _ _ hL _
  have hval : ∀ (j : Nat) t v, Tryz.f6.params[j]? = some t → args[j]? = some v → Value.okWide Tryz.prog W .any base t v := hval0
  have hW' := hW
  obtain ⟨p, q, hA0, hV, rfl, hfz, hnd⟩ := hW
  have hA : DataW.TrodAll enc Tryz.prog W 0 (fun _ => true) true Tryz.f6.params.toList args.toList ds p := hA0
  rw [Tryz.params6] at hA hval
  obtain ⟨v0, vs0, d0, ds0, p0, q0, hargs, rfl, rfl, h0, r0⟩ := trodAll_cons hA
  obtain ⟨rfl, rfl, rfl⟩ := trodAll_nil r0
  obtain rfl : args = #[v0] := by cases args; simp_all
  obtain ⟨rfl, rfl⟩ := trodVars_none hV
  have lt0 : ∀ x ∈ p0, x.block < W.heap.size := by obtain ⟨m, hm⟩ := h0; exact DataW.trod_lt m _ _ _ hm
  obtain ⟨x, y, rfl, -, -, -, -⟩ := open_cell (hval 0 47 v0 rfl rfl) h0
  clear hA0 hval0
  simp only [List.append_nil] at hW'
  refine (nobody_walk x y W (grnd_of_laid hL) (offs_of_laid hL)).mono fun e W' ⟨he, hg⟩ => ?_
  subst he
  exact ⟨_, rfl, _, _, _, [], _, [], hW', trodAll_mk1 (shut_bool Tryz.underlying4 _), (trodAll_cons_mk (Below.trod laidOut (by kernel_rfl) (of_decide_eq_true (by kernel_rfl)) h0 hg lt0) trodAll_mk0), rfl, hg.frame _, fun h => by cases h⟩
theorem over : Rows.AbstractNobodySaid :=
  OpenClaim.holds_of_wide 6 Tryz.f6 rfl rfl rfl rfl rfl rfl rfl ⟨rfl, rfl, rfl, rfl, rfl⟩ rfl rfl rfl rfl rfl (by kernel_rfl) Tryz.func6 (by kernel_rfl)
    (of_decide_eq_true (by kernel_rfl)) (by unfold Func.isWrapper; first | (rw [if_pos (by decide +kernel)]; kernel_rfl) | (rw [if_neg (by decide +kernel)]; exact ⟨rfl, rfl⟩))
    (fun os started H enc _ => lifted os started H enc)
end Go.Proofs.YthiafmlgialbnaaGreatDoor.abstractNobody
namespace Go.Proofs.YthiafmlgialbnaaGreatDoor
open Go
theorem abstractNobody_holds : Rows.AbstractNobodyCardSaid :=
  Claim7.holds_tied_plain_at .later [] [.data, .data] true (true, "e67930b1747408f059aa0dc104d416096385e1a9ce28b207fa2f510cc49f96dc") false
    abstractNobody.over (fun _ h => by cases h) (by kernel_rfl) (fun _ h => by cases h) abstractNobody_row_tie rfl ⟨rfl, rfl⟩ (by kernel_rfl) rfl
    (fun f fn hf hfn => by
      obtain rfl : f = 6 := Option.some.inj ((show Tryz.prog.funcNamed Rows.abstractNobodyRow.func = some 6 by kernel_rfl).symm.trans hf) |>.symm
      obtain rfl : fn = Tryz.f6 := (Option.some.inj (Tryz.func6.symm.trans hfn)).symm
      exact ⟨by kernel_rfl, fun j t ht => by
        rw [Tryz.params6] at ht
        have hm : t ∈ [47] := by simpa using Array.mem_of_getElem? ht
        have hall : ([47].all fun u => !Tryz.prog.wantsStandIn u) = true := by kernel_rfl
        exact (show Tryz.prog.wantsStandIn t = false by simpa using List.all_eq_true.1 hall t hm)⟩)
    (by kernel_rfl)
#print axioms abstractNobody_holds
end Go.Proofs.YthiafmlgialbnaaGreatDoor
