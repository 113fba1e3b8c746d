/-
  meeting: the units that have a cell of a rectangle, in the map's order.
-/
import Derived.Test.YtkodeopkgmichaaMeet
import Derived.Test.YtkodeopkgmichaaInOrder
import Derived.Test.YtkodeopkgmichaaState
import Derived.Sort.MapsRangeIn
namespace Go.Proofs.Ytkodeopkgmichaa
open Go.RowKit Go.Shelf
set_option linter.unusedVariables false
set_option linter.unusedSimpArgs false
attribute [local go_sem] Oper.semAt_some
def mids (l : List Bd) (x y a b : Int) : List Int := (l.filter (fun t => mtB t.r.x t.r.y t.r.a t.r.b x y a b)).map Bd.id
theorem mids_snoc (L : List Bd) (t : Bd) (x y a b : Int) : mids (L ++ [t]) x y a b = mids L x y a b ++ (if mtB t.r.x t.r.y t.r.a t.r.b x y a b = true then [t.id] else []) := by
  unfold mids
  rw [List.filter_append, List.map_append, List.filter_cons]
  cases mtB t.r.x t.r.y t.r.a t.r.b x y a b <;> simp
theorem Come.len {l L : List Bd} {left : Lit → Bool} (h : Come l L left) : L.length ≤ l.length := by
  have h1 : L.length = _ := h.length_eq
  have h2 := List.length_filter_le (fun t => !left (.int .i64 t.id)) l
  omega
theorem Come.mem {l L : List Bd} {left : Lit → Bool} (h : Come l L left) {t : Bd} (ht : t ∈ L) : t ∈ l := (List.mem_filter.1 (h.mem_iff.1 ht)).1
theorem mids_len (L : List Bd) (x y a b : Int) : (mids L x y a b).length ≤ L.length := by
  unfold mids
  rw [List.length_map]
  exact List.length_filter_le _ _
theorem ranges_same {w w' : World} {b r n cnt : Nat} {D : DataW Unit} {left : Lit → Bool} (h : w.ranges Try.prog 3 rcElem b r n D left cnt) (hb : w'.heap[b]? = w.heap[b]?) (hr : w'.heap[r]? = w.heap[r]?) : w'.ranges Try.prog 3 rcElem b r n D left cnt := by
  obtain ⟨es, clock, since, seen, c0, e1, F, hs, hD, e2, rest⟩ := h
  exact ⟨es, clock, since, seen, c0, hb.trans e1, F, hs, hD, hr.trans e2, rest⟩
set_option maxRecDepth 100000 in
set_option maxHeartbeats 4000000 in
theorem meeting_seq (n p h fm bm m N : Nat) (l : List Bd) (f : Int → Int → Option Int) (x y a b : Int) (w : World) (hP : Boxed w h 24 (ptr p)) (hF : Four w (h + 1) x y a b) (hx : Ix w p fm bm l.length m (gOf l) f) (hs : Sorted l) (hi : ∀ t ∈ l, W64 t.id) (hN : l.length ≤ N) :
    SeqOwn n 61 #[ptr h, ptr (h + 1)] encI (Below w.heap.size) (fun xs => ∃ L : List Bd, L.Perm l ∧ xs = mids L x y a b) (fun pre => ∀ j ∈ pre, j ∈ mids l x y a b) N w := fun lo J Jx W hW hJ hJx hY h0 => by
  refine callsIn_of_wp Try.func61 rfl trivial ?_ rfl
  simp only [Try.ntmps61, List.size_toArray, List.length_cons, List.length_nil, Nat.reduceAdd, Nat.reduceSub, Array.replicate_succ, Array.replicate_zero, List.push_toArray, List.append_toArray, List.nil_append, List.cons_append]
  have hpl := hx.lt
  have hfl := hx.feet.lt
  have hhl := hP.lt
  have hFl := hF.2.2
  have hsW := hW.size
  have xW := hx.upto hW (Nat.le_refl _)
  have PW := boxed_upto hP hW hhl
  have c0 := PW.cell
  have c1 := xW.c0
  obtain ⟨D, hown, hsz, hD⟩ := id xW.feet
  have HY := hide hY
  have HJ := hide hJ
  have HD := hide hD
  clear hY hD
  obtain ⟨w2, hrun, hrg0, hg2, hs2⟩ := hown.range law3 Try.underlying59
  gi_wp2_with fail
  have b2 : Below W.heap.size W w2 := ⟨hg2.os, hg2.tape, hg2.output, hg2.size, fun k hk => hg2.block k hk (by simp)⟩
  have hhas : ∀ t ∈ l, Maps.has D (.int .i64 t.id) = true := fun t ht => by rw [(HD.out t.id (hi t ht)).1, gOf_mem hs ht]; rfl
  have j2 := own_below hJ h0 b2
  have HJ2 := hide j2
  have HRG := hide hrg0
  have hb2w : Below w.heap.size w w2 := hW.trans (b2.mono hsW)
  have HB2 := hide hb2w
  clear hrun hrg0 hg2 c0 c1 j2 hb2w b2 hown xW PW
  gi_loopw [] (fun wr => ∃ (left : Lit → Bool) (cnt : Nat) (L : List Bd), wr.ranges Try.prog 3 rcElem fm W.heap.size l.length D left cnt ∧ (Come l L left ∧ ∀ kl, left kl = true → Maps.has D kl = true) ∧ J (mids L x y a b) wr ∧ Below w.heap.size w wr ∧ W.heap.size < wr.heap.size) (fun wr => wr.rangeLeft fm W.heap.size)
  case atStart => exact ⟨_, _, [], HRG.out, ⟨Come.start hhas, fun kl e => e⟩, HJ2.out, HB2.out, by omega⟩
  case round =>
    obtain ⟨left, cnt, L, hrg, ⟨hcm, hsub⟩, hj, hB, hzr⟩ := hrel
    rename World => wo
    rcases hrg.next law3 0 with ⟨hc0, hl0, hrun⟩ | ⟨key, vv, kl, yv, w3, cnt3, hkey, hlk, hv, hat, hrun, hrg3, hlt, hg3, hs3, hen⟩
    · have HFn : Hid (∃ L : List Bd, L.Perm l ∧ mids L x y a b = mids L x y a b ∧ J (mids L x y a b) wo) := hide ⟨L, hcm.done hl0, rfl, hj⟩
      clear hrg hcm hsub hB
      gi_wp2_with fail
      go_end0
      obtain ⟨L, q1, -, q3⟩ := HFn.out
      exact ⟨⟨_, rfl⟩, .inl ⟨_, ⟨L, q1, rfl⟩, q3⟩⟩
    · obtain ⟨u, rfl, rfl, hwx⟩ := Maps.keyOf_int_inv Try.underlying3 hkey
      obtain ⟨c, rfl, rfl⟩ := rcElem_inv hv
      have hgx : gOf l u = some c := by
        have h1 := (HD.out u hwx).1
        rw [hsub _ hlk] at h1
        have h2 := (HD.out u hwx).2
        rw [hat] at h2
        cases hq : gOf l u with
        | none => rw [hq] at h1; cases h1
        | some r => rw [hq] at h2; simp at h2; rw [Rc.d_inj h2]
      have hri : ∃ o : Obj, wo.heap[W.heap.size]? = some o ∧ o.isCells = false := by
        obtain ⟨_, _, _, _, _, _, _, _, _, e2, _⟩ := id hrg
        exact ⟨_, e2, rfl⟩
      have hj3 : J (mids L x y a b) w3 := HJ.out _ _ _ _ hj hg3 (fun r e => by cases e; exact ⟨Nat.le_refl _, hri⟩)
      have T3 : Turns (fun k => k = W.heap.size) wo w3 := Turns.of_grown hg3 (fun k e => by cases e; rfl)
      have hB3 : Below w.heap.size w w3 := hB.trans (T3.below (fun k e => by omega) hB.size)
      have b4 := box1 w3 (.cells #[.int .i64 c.x, .int .i64 c.y, .int .i64 c.a, .int .i64 c.b] 34)
      have F4 : Four (w3.alloc (.cells #[.int .i64 c.x, .int .i64 c.y, .int .i64 c.a, .int .i64 c.b] 34)) w3.heap.size c.x c.y c.a c.b := cells4 (Below.refl _ _)
      have hB4 : Below w.heap.size w (w3.alloc (.cells #[.int .i64 c.x, .int .i64 c.y, .int .i64 c.a, .int .i64 c.b] 34)) := hB3.trans (b4.mono hB3.size)
      have G4 := hF.kept hB4
      have hcm5 := hcm.step hs hgx hlk
      have hsub5 : ∀ kl, (left kl && !kl.sameKey (.int .i64 u)) = true → Maps.has D kl = true := fun kl e => by
        rw [Bool.and_eq_true] at e
        exact hsub kl e.1
      have hln := hcm5.len
      have hml := mids_len L x y a b
      have hmem : ⟨u, c⟩ ∈ l := gOf_some hgx
      obtain ⟨k0, k1, k2, k3, hkv⟩ := mtV_lit c.x c.y c.a c.b x y a b
      have HMt := hide (meet_any c.x c.y c.a c.b x y a b (w3.alloc (.cells #[.int .i64 c.x, .int .i64 c.y, .int .i64 c.a, .int .i64 c.b] 34)))
      rw [hkv] at HMt
      obtain ⟨⟨f0, f1, f2, f3⟩, -, -⟩ := id F4
      obtain ⟨⟨g0, g1, g2, g3⟩, -, -⟩ := id G4
      have hone := mids_snoc L ⟨u, c⟩ x y a b
      have hML : Hid (∀ j ∈ mids (L ++ [⟨u, c⟩]) x y a b, j ∈ mids l x y a b) := hide (fun j hj => by
        obtain ⟨t, ht, rfl⟩ := List.mem_map.1 hj
        obtain ⟨h1, h2⟩ := List.mem_filter.1 ht
        exact List.mem_map.2 ⟨t, List.mem_filter.2 ⟨hcm5.mem h1, h2⟩, rfl⟩)
      have HJ3 := hide hj3
      have HR3 := hide hrg3
      have HB4 := hide hB4
      have HRo := hide hrg
      have HLt := hide hlt
      have HC5 := hide (show Come l (L ++ [⟨u, c⟩]) (fun z => left z && !z.sameKey (.int .i64 u)) ∧ ∀ kl, (left kl && !kl.sameKey (.int .i64 u)) = true → Maps.has D kl = true from ⟨hcm5, hsub5⟩)
      have HOne := hide hone
      rw [List.length_append, List.length_singleton] at hln
      clear hj hj3 hrg hrg3 hcm hcm5 hsub hsub5 hB hB3 hB4 T3 hg3 F4 G4 b4 hkey hv hat hri hkv hone hmem hgx
      cases hb : mtB c.x c.y c.a c.b x y a b
      · rw [hb] at HMt
        have HBf := hide hb
        clear hb
        gi_wp2_with fail
        refine ⟨trivial, fun h => (by cases h), ?_⟩
        refine (callsIn_wide.2 HMt.out).mono ?_
        rintro e w5 ⟨rfl, hb5⟩
        obtain ⟨W6, hW6⟩ : ∃ W6, w5.alloc (.cells #[.int .i64 k0, .int .i64 k1, .int .i64 k2, .int .i64 k3] 34) = W6 := ⟨_, rfl⟩
        have b6 : Below w3.heap.size w3 W6 := bt (box1 _ _) (bt hb5 (by rw [← hW6]; exact box1 _ _))
        have hB6 : Below w.heap.size w W6 := HB4.out.trans ((bt hb5 (by rw [← hW6]; exact box1 _ _)).mono HB4.out.size)
        have hrg6 := ranges_same HR3.out (b6.block fm (by omega)) (b6.block W.heap.size (by omega))
        have hj6 := own_below HJ.out HJ3.out b6
        have hz6 := b6.size
        have HB6 := hide hB6
        have HR6 := hide hrg6
        have HW6 := hide hW6
        clear hb5 b6 hB6 hrg6 hW6 HMt
        have HJ6 := hide hj6
        clear hj6
        gi_wp2_with (rw [HW6.out])
        refine ⟨fun f h => (by cases h), ?_⟩
        gi_wp2_with fail
        go_roundw
        case rel =>
          refine ⟨_, _, L ++ [⟨u, c⟩], HR6.out, HC5.out, ?_, HB6.out, by omega⟩
          rw [HOne.out]
          simp only [HBf.out, Bool.false_eq_true, if_false, List.append_nil]
          exact HJ6.out
        case measure => rw [HR6.out.left_eq, HRo.out.left_eq]; exact HLt.out
      · rw [hb] at HMt
        have HBf := hide hb
        clear hb
        gi_wp2_with fail
        refine ⟨trivial, fun h => (by cases h), ?_⟩
        refine (callsIn_wide.2 HMt.out).mono ?_
        rintro e w5 ⟨rfl, hb5⟩
        obtain ⟨W6, hW6⟩ : ∃ W6, w5.alloc (.cells #[.int .i64 k0, .int .i64 k1, .int .i64 k2, .int .i64 k3] 34) = W6 := ⟨_, rfl⟩
        have b6 : Below w3.heap.size w3 W6 := bt (box1 _ _) (bt hb5 (by rw [← hW6]; exact box1 _ _))
        have hB6 : Below w.heap.size w W6 := HB4.out.trans ((bt hb5 (by rw [← hW6]; exact box1 _ _)).mono HB4.out.size)
        have hrg6 := ranges_same HR3.out (b6.block fm (by omega)) (b6.block W.heap.size (by omega))
        have hj6 := own_below HJ.out HJ3.out b6
        have hz6 := b6.size
        have HB6 := hide hB6
        have HR6 := hide hrg6
        have HW6 := hide hW6
        clear hb5 b6 hB6 hrg6 hW6 HMt
        obtain ⟨fn, tmps, assign, body, hy, hRd⟩ := HY.out (mids L x y a b) u W6 hj6 (by omega)
        dsimp only [encI] at hy
        have HRd := hide hRd
        clear hj6 hRd
        gi_wp2_with (rw [HW6.out])
        refine ⟨fun h => (by cases h), ?_⟩
        refine HRd.out.mono ?_
        rintro e W7 ⟨hk7, (⟨rfl, hJ7, hKp7⟩ | ⟨rfl, hJx7⟩)⟩
        · have HJ7 := hide hJ7
          have hrg7 := ranges_same HR6.out (hKp7.block fm (by omega)) (hk7.2 W.heap.size (Nat.le_refl _) (by omega))
          have HR7 := hide hrg7
          have HB7 := hide (HB6.out.trans hKp7)
          have hz7 := hk7.1
          clear hJ7 hrg7 hKp7 hk7 hy
          gi_wp2_with fail
          go_roundw
          case rel =>
            refine ⟨_, _, L ++ [⟨u, c⟩], HR7.out, HC5.out, ?_, HB7.out, by omega⟩
            rw [HOne.out]
            simp only [HBf.out, if_true]
            exact HJ7.out
          case measure => rw [HR7.out.left_eq, HRo.out.left_eq]; exact HLt.out
        · have HJx := hide hJx7
          clear hJx7 hk7 hy
          gi_wp2_with fail
          refine bodyPost_ret (results_none rfl _ _ _) rfl ?_
          refine ⟨⟨_, rfl⟩, .inr ⟨_, ?_, HJx.out⟩⟩
          have h9 := hML.out
          rw [HOne.out] at h9
          simpa only [HBf.out, if_true] using h9
end Go.Proofs.Ytkodeopkgmichaa
