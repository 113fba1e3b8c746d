/-
  The reference's plus and minus: new digits in new memory, their values; nothing old has turned.
-/
import Derived.Test.YtnofillkfiiogaaRefs
namespace Go.Proofs.Ytnofillkfiiogaa
open Go.RowKit
set_option linter.unusedVariables false
theorem Try.info38 : (Try.prog.info? 38).map (fun i => (i.zero, i.size, i.bytes)) = some (some (.int .u64 0), 1, 8) := by kernel_rfl
def cellsOf (l : List Nat) : List Value := l.map fun d : Nat => Value.int .u64 (d : Int)
theorem cellsOf_snoc (l : List Nat) (d : Nat) : cellsOf l ++ [Value.int .u64 (d : Int)] = cellsOf (l ++ [d]) := by simp [cellsOf]
theorem cellsOf_get (l : List Nat) (i : Nat) (h : i < l.length) : (cellsOf l)[i]? = some (.int .u64 (dig l i : Nat)) := by
  simp [cellsOf, dig, List.getElem?_eq_getElem h]
theorem digs_of_own {w : World} {B : Nat} {v : Value} {l : List Nat} (h : w.ownsRow B 38 1 v l.length (cellsOf l)) (hs : Small l) (hl : l.length ≤ 30000) : Digs w v l := by
  have hlt := h.lt
  obtain ⟨h1, ⟨hv, hn⟩ | ⟨g, cap, cur, hv, hg, hh, r⟩⟩ := h
  · exact ⟨hs, hl, Or.inl ⟨List.length_eq_zero_iff.1 hn, none, 0, hv⟩⟩
  · refine ⟨hs, hl, Or.inr ⟨g, cap, hv, (hlt g (by rw [hv]; rfl)).2, fun i hi => ?_⟩⟩
    subst hv
    have hown : w.ownsRow B 38 1 (.slice (some ⟨g, 0, none⟩) l.length cap) l.length (cellsOf l) := ⟨h1, Or.inr ⟨g, cap, cur, rfl, hg, hh, r⟩⟩
    rw [hown.cellAt i (by omega), cellsOf_get l i hi]
theorem below_append {B e n : Nat} {w wr w2 : World} {o : Obj} {v : Value} {xs : List Value} (hbl : Below B w wr) (hB : B ≤ w.heap.size) (hown : wr.ownsRow B e 1 v n xs) (hg : (wr.alloc o).grownBy w2 v.ownBlock) : Below B w w2 :=
  (hbl.alloc (by have := hbl.size; omega) o).grown hg (by have := hbl.size; simp; omega) (fun k hk => (hown.lt k hk).1)
theorem sum_digit (c x y : Nat) : ((c : Int) + x + y) % 4294967296 = (((c + x + y) % 4294967296 : Nat) : Int) := by omega
theorem sum_carry (c x y : Nat) : Value.int .u64 (((c : Int) + x + y) / 4294967296) = Value.int .u64 (((c + x + y) / 4294967296 : Nat) : Int) := congrArg _ (by omega)
set_option maxHeartbeats 400000 in
theorem plus_any (w : World) (va vb : Value) (la lb : List Nat) (ha : Digs w va la) (hb : Digs w vb lb) (h29 : la.length ≤ 29000) (h29b : lb.length ≤ 29000) :
    Calls Try.prog 52 #[va, vb] w fun e w' => ∃ v l, e = .returned v ∧ Digs w' v l ∧ (∀ k, v.ownBlock = some k → w.heap.size ≤ k) ∧ val l = val la + val lb ∧ l.length ≤ max la.length lb.length + 1 ∧ Below w.heap.size w w' := by
  obtain ⟨i0, hi, hz0, hz1, hz2⟩ := info_parts Try.info38
  have da := fun (wr : World) (hbl : Below w.heap.size w wr) (i : Nat) (h1 : i ≤ 60000) => digit_nat wr va la i (ha.kept hbl) h1
  have db := fun (wr : World) (hbl : Below w.heap.size w wr) (i : Nat) (h1 : i ≤ 60000) => digit_nat wr vb lb i (hb.kept hbl) h1
  have Hsa := hide ha.small
  have Hsb := hide hb.small
  obtain ⟨aa, ca, rfl, hla⟩ := ha.shape
  obtain ⟨ab, cb, rfl, hlb⟩ := hb.shape
  clear ha hb
  obtain ⟨na, hna⟩ : ∃ na, na = la.length := ⟨_, rfl⟩
  obtain ⟨nb, hnb⟩ : ∃ nb, nb = lb.length := ⟨_, rfl⟩
  rw [← hna] at da hla h29 ⊢
  rw [← hnb] at db hlb h29b ⊢
  have Hna := hide hna
  have Hnb := hide hnb
  have Hda := hide da
  have Hdb := hide db
  clear hna hnb da db
  obtain ⟨n, hn⟩ : ∃ n : Nat, n = max na nb := ⟨_, rfl⟩
  have h1 : na ≤ n := by omega
  have h2 : nb ≤ n := by omega
  have h3 : n ≤ 29000 := by omega
  rw [← hn]
  clear hn
  go_enter Try.func52, Try.ntmps52
  go_wp2_with fail
  go_loopw [5, 6, 7] (fun v c i wr => ∃ (k cN : Nat) (lo : List Nat), i = .int .i64 k ∧ c = .int .u64 cN ∧ cN ≤ 1 ∧ lo.length = k ∧ Small lo ∧ wr.ownsRow w.heap.size 38 1 v k (cellsOf lo) ∧ Below w.heap.size w wr ∧
      val lo + pw k * (cN + val (la.drop k) + val (lb.drop k)) = val la + val lb ∧ k ≤ n + 1 ∧ (k ≤ n ∨ cN = 0)) (fun _ _ i _ => n + 1 - (intOf i).toNat)
  case atStart => exact ⟨0, 0, [], rfl, rfl, by omega, rfl, small_nil, World.ownsRow_lit (e := 38) (size := 1) w #[] 0 (Nat.le_refl _) (by decide) rfl, (Below.refl _ _).alloc (Nat.le_refl _) _, by simp [val, pw], by omega, Or.inl (by omega)⟩
  case round =>
    obtain ⟨k, cN, lo, rfl, rfl, hc, hlo, hsm, hown, hbl, hval, hk1, hk2⟩ := hrel
    have Hval := hide hval
    have Hlo := hide hlo
    have Hsm := hide hsm
    clear hval hlo hsm
    by_cases hka : k < na
    · have hka2 : (k : Int) < (na : Int) := by omega
      have hx := Hsa.out k
      have hy := Hsb.out k
      have va1 := val_drop la k
      have vb1 := val_drop lb k
      have HV : Hid (val la = val la) := rfl
      have Hst := hide (plus_step (val lo) (pw k) cN (dig la k) (dig lb k) ((cN + dig la k + dig lb k) % 4294967296) ((cN + dig la k + dig lb k) / 4294967296) (val (la.drop (k + 1))) (val (lb.drop (k + 1))) (val la + val lb) (by omega) (by rw [← va1, ← vb1]; exact Hval.out))
      clear va1 vb1 HV
      go_wp2_with fail
      refine (Hda.out _ hbl k (by omega)).mono ?_; rintro e w1 ⟨rfl, hw1⟩; rw [hw1]; clear hw1 w1
      go_wp2_with fail
      refine (Hdb.out _ hbl k (by omega)).mono ?_; rintro e w1 ⟨rfl, hw1⟩; rw [hw1]; clear hw1 w1
      generalize dig la k = x at *
      generalize dig lb k = y at *
      go_wp2_with (first | (at_builtin; refine wpList_append_own _ rfl _ _ 32 rfl w.heap.size 38 i0 (.int .u64 0) 1 8 Try.underlying32 hi hz0 hz1 hz2 rfl (by decide) _ _ _ rfl (hown.alloc _) ⟨wr.heap.size, 0, none⟩ 1 1 [.int .u64 (((cN : Int) + x + y) % 4294967296)] rfl rfl ?c1 ?c2 ?c3 ?c4 ?c5 ?_) | go_in)
      case c1 =>
        intro j u hj
        match j, hj with
        | 0, hj => simp at hj; subst hj; simp [Addr.add]
      case c2 => intro u hu; simp at hu; subst hu; rfl
      case c3 => unfold maxLen; omega
      case c4 => omega
      case c5 => have := hbl.size; simp; omega
      intro v' w2 hown' hgrow _
      have hbl2 := hide (below_append hbl (Nat.le_refl _) hown hgrow)
      rw [sum_digit, cellsOf_snoc] at hown'
      have hown2 := hide hown'
      clear hown' hgrow hown
      go_wp2_with fail
      go_roundw
      case rel => exact ⟨k + 1, (cN + x + y) / 4294967296, lo ++ [(cN + x + y) % 4294967296], by go_num, sum_carry cN x y, by omega, by simp [Hlo.out], small_snoc Hsm.out (Nat.mod_lt _ (by omega)), hown2.out, hbl2.out, by rw [val_snoc, Hlo.out, pw_succ]; exact Hst.out, by omega, Or.inl (by omega)⟩
      case measure => simp [intOf]; omega
    · by_cases hkb : k < nb
      · have hkb2 : (k : Int) < (nb : Int) := by omega
        have hx := Hsa.out k
        have hy := Hsb.out k
        have va1 := val_drop la k
        have vb1 := val_drop lb k
        have HV : Hid (val la = val la) := rfl
        have Hst := hide (plus_step (val lo) (pw k) cN (dig la k) (dig lb k) ((cN + dig la k + dig lb k) % 4294967296) ((cN + dig la k + dig lb k) / 4294967296) (val (la.drop (k + 1))) (val (lb.drop (k + 1))) (val la + val lb) (by omega) (by rw [← va1, ← vb1]; exact Hval.out))
        clear va1 vb1 HV
        go_wp2_with fail
        refine (Hda.out _ hbl k (by omega)).mono ?_; rintro e w1 ⟨rfl, hw1⟩; rw [hw1]; clear hw1 w1
        go_wp2_with fail
        refine (Hdb.out _ hbl k (by omega)).mono ?_; rintro e w1 ⟨rfl, hw1⟩; rw [hw1]; clear hw1 w1
        generalize dig la k = x at *
        generalize dig lb k = y at *
        go_wp2_with (first | (at_builtin; refine wpList_append_own _ rfl _ _ 32 rfl w.heap.size 38 i0 (.int .u64 0) 1 8 Try.underlying32 hi hz0 hz1 hz2 rfl (by decide) _ _ _ rfl (hown.alloc _) ⟨wr.heap.size, 0, none⟩ 1 1 [.int .u64 (((cN : Int) + x + y) % 4294967296)] rfl rfl ?c1 ?c2 ?c3 ?c4 ?c5 ?_) | go_in)
        case c1 =>
          intro j u hj
          match j, hj with
          | 0, hj => simp at hj; subst hj; simp [Addr.add]
        case c2 => intro u hu; simp at hu; subst hu; rfl
        case c3 => unfold maxLen; omega
        case c4 => omega
        case c5 => have := hbl.size; simp; omega
        intro v' w2 hown' hgrow _
        have hbl2 := hide (below_append hbl (Nat.le_refl _) hown hgrow)
        rw [sum_digit, cellsOf_snoc] at hown'
        have hown2 := hide hown'
        clear hown' hgrow hown
        go_wp2_with fail
        go_roundw
        case rel => exact ⟨k + 1, (cN + x + y) / 4294967296, lo ++ [(cN + x + y) % 4294967296], by go_num, sum_carry cN x y, by omega, by simp [Hlo.out], small_snoc Hsm.out (Nat.mod_lt _ (by omega)), hown2.out, hbl2.out, by rw [val_snoc, Hlo.out, pw_succ]; exact Hst.out, by omega, Or.inl (by omega)⟩
        case measure => simp [intOf]; omega
      · have hka3 : ¬ (k : Int) < (na : Int) := by omega
        have hkb3 : ¬ (k : Int) < (nb : Int) := by omega
        by_cases hc0 : cN = 0
        · subst hc0
          go_wp2
          go_ret
          refine ⟨_, rfl, lo, ?_, fun k hk => (hown.lt k hk).1, ?_, ?_, hbl⟩
          · rw [← Hlo.out] at hown
            exact digs_of_own hown Hsm.out (by rw [Hlo.out]; omega)
          · have := Hval.out
            rw [val_drop_all la k (by have := Hna.out; omega), val_drop_all lb k (by have := Hnb.out; omega)] at this
            simpa using this
          · rw [Hlo.out]; exact hk1
        · have hc1 : (0 : Int) < (cN : Int) := by omega
          have zx := hide (dig_beyond (l := la) (k := k) (by have := Hna.out; omega))
          have zy := hide (dig_beyond (l := lb) (k := k) (by have := Hnb.out; omega))
          have hx := Hsa.out k
          have hy := Hsb.out k
          have va1 := val_drop la k
          have vb1 := val_drop lb k
          have HV : Hid (val la = val la) := rfl
          have Hst := hide (plus_step (val lo) (pw k) cN (dig la k) (dig lb k) ((cN + dig la k + dig lb k) % 4294967296) ((cN + dig la k + dig lb k) / 4294967296) (val (la.drop (k + 1))) (val (lb.drop (k + 1))) (val la + val lb) (by omega) (by rw [← va1, ← vb1]; exact Hval.out))
          clear va1 vb1 HV
          go_wp2_with fail
          refine (Hda.out _ hbl k (by omega)).mono ?_; rintro e w1 ⟨rfl, hw1⟩; rw [hw1]; clear hw1 w1
          go_wp2_with fail
          refine (Hdb.out _ hbl k (by omega)).mono ?_; rintro e w1 ⟨rfl, hw1⟩; rw [hw1]; clear hw1 w1
          generalize dig la k = x at *
          generalize dig lb k = y at *
          go_wp2_with (first | (at_builtin; refine wpList_append_own _ rfl _ _ 32 rfl w.heap.size 38 i0 (.int .u64 0) 1 8 Try.underlying32 hi hz0 hz1 hz2 rfl (by decide) _ _ _ rfl (hown.alloc _) ⟨wr.heap.size, 0, none⟩ 1 1 [.int .u64 (((cN : Int) + x + y) % 4294967296)] rfl rfl ?c1 ?c2 ?c3 ?c4 ?c5 ?_) | go_in)
          case c1 =>
            intro j u hj
            match j, hj with
            | 0, hj => simp at hj; subst hj; simp [Addr.add]
          case c2 => intro u hu; simp at hu; subst hu; rfl
          case c3 => unfold maxLen; omega
          case c4 => omega
          case c5 => have := hbl.size; simp; omega
          intro v' w2 hown' hgrow _
          have hbl2 := hide (below_append hbl (Nat.le_refl _) hown hgrow)
          rw [sum_digit, cellsOf_snoc] at hown'
          have hown2 := hide hown'
          clear hown' hgrow hown
          go_wp2_with fail
          go_roundw
          case rel => exact ⟨k + 1, (cN + x + y) / 4294967296, lo ++ [(cN + x + y) % 4294967296], by go_num, sum_carry cN x y, by omega, by simp [Hlo.out], small_snoc Hsm.out (Nat.mod_lt _ (by omega)), hown2.out, hbl2.out, by rw [val_snoc, Hlo.out, pw_succ]; exact Hst.out, by omega, Or.inr (by have := zx.out; have := zy.out; omega)⟩
          case measure => simp [intOf]; omega
theorem Digs.at {w : World} {v : Value} {l : List Nat} {a : Option Addr} {n cap : Nat} (h : Digs w (.slice a n cap) l) {k : Nat} (hk : k < l.length) : ∃ b, a = some ⟨b, 0, none⟩ ∧ w.cell? ⟨b, k, none⟩ = some (.int .u64 (dig l k : Nat)) := by
  obtain ⟨hs, hl, ⟨rfl, a', cap', h2⟩ | ⟨b, cap', h2, hlt, hc⟩⟩ := h
  · simp at hk
  · simp only [Value.slice.injEq] at h2
    exact ⟨b, h2.1, hc k hk⟩
set_option maxHeartbeats 400000 in
theorem minus_any (w : World) (va vb : Value) (la lb : List Nat) (ha : Digs w va la) (hb : Digs w vb lb) (hle : val lb ≤ val la) :
    Calls Try.prog 49 #[va, vb] w fun e w' => ∃ v l, e = .returned v ∧ Digs w' v l ∧ (∀ k, v.ownBlock = some k → w.heap.size ≤ k) ∧ val l + val lb = val la ∧ l.length = la.length ∧ Below w.heap.size w w' := by
  obtain ⟨i0, hi, hz0, hz1, hz2⟩ := info_parts Try.info38
  have db := fun (wr : World) (hbl : Below w.heap.size w wr) (i : Nat) (h1 : i ≤ 60000) => digit_nat wr vb lb i (hb.kept hbl) h1
  have Hsa := hide ha.small
  have Hsb := hide hb.small
  obtain ⟨aa, ca, rfl, hla⟩ := ha.shape
  obtain ⟨ab, cb, rfl, hlb⟩ := hb.shape
  have da := fun (wr : World) (hbl : Below w.heap.size w wr) (i : Nat) (h1 : i < la.length) => (ha.kept hbl).at (v := .nilIface) h1
  clear ha hb
  obtain ⟨na, hna⟩ : ∃ na, na = la.length := ⟨_, rfl⟩
  obtain ⟨nb, hnb⟩ : ∃ nb, nb = lb.length := ⟨_, rfl⟩
  rw [← hna] at da hla ⊢
  rw [← hnb] at db hlb ⊢
  have Hna := hide hna
  have Hnb := hide hnb
  have Hda := hide da
  have Hdb := hide db
  have Hle := hide hle
  clear hna hnb da db hle
  go_enter Try.func49, Try.ntmps49
  go_wp2_with fail
  go_loopw [5, 6, 7, 8, 9] (fun v c i _ _ wr => ∃ (k bo : Nat) (lo : List Nat), i = .int .i64 k ∧ c = .int .u64 bo ∧ bo ≤ 1 ∧ lo.length = k ∧ Small lo ∧ wr.ownsRow w.heap.size 38 1 v k (cellsOf lo) ∧ Below w.heap.size w wr ∧
      val lo + pw k * val (la.drop k) + val lb = val la + pw k * (bo + val (lb.drop k)) ∧ k ≤ na) (fun _ _ i _ _ _ => na - (intOf i).toNat)
  case atStart => exact ⟨0, 0, [], rfl, rfl, by omega, rfl, small_nil, World.ownsRow_lit (e := 38) (size := 1) w #[] 0 (Nat.le_refl _) (by decide) rfl, (Below.refl _ _).alloc (Nat.le_refl _) _, by simp [val, pw], by omega⟩
  case round =>
    obtain ⟨k, bo, lo, rfl, rfl, hbo, hlo, hsm, hown, hbl, hval, hk1⟩ := hrel
    have Hval := hide hval
    have Hlo := hide hlo
    have Hsm := hide hsm
    clear hval hlo hsm
    by_cases hka : k < na
    · have hka2 : (k : Int) < (na : Int) := by omega
      obtain ⟨b, rfl, hcell⟩ := Hda.out wr hbl k hka
      have hx := Hsa.out k
      have hy := Hsb.out k
      have va1 := hide (val_drop la k)
      have vb1 := hide (val_drop lb k)
      generalize dig la k = x at *
      obtain ⟨y, hyy⟩ : ∃ y, dig lb k = y := ⟨_, rfl⟩
      rw [hyy] at hy vb1
      have hyd := hide hyy
      clear hyy
      by_cases hlt : x < y + bo
      · have hlt2 : (x : Int) < (y : Int) + (bo : Int) := by omega
        have Hst := hide (minus_step (val lo) (pw k) x y (x + 4294967296 - (y + bo)) bo 1 (val (la.drop (k + 1))) (val (lb.drop (k + 1))) (val la) (val lb) (by omega) (by rw [← va1.out, ← vb1.out]; exact Hval.out))
        go_wp2_with fail
        refine (Hdb.out _ hbl k (by omega)).mono ?_; rintro e w1 ⟨rfl, hw1⟩; rw [hw1]; clear hw1 w1
        rw [hyd.out]
        go_wp2_with (first | (at_builtin; refine wpList_append_own _ rfl _ _ 32 rfl w.heap.size 38 i0 (.int .u64 0) 1 8 Try.underlying32 hi hz0 hz1 hz2 rfl (by decide) _ _ _ rfl (hown.alloc _) ⟨wr.heap.size, 0, none⟩ 1 1 [.int .u64 ((x : Int) + 4294967296 - ((y : Int) + bo))] rfl rfl ?c1 ?c2 ?c3 ?c4 ?c5 ?_) | go_in)
        case c1 =>
          intro j u hj
          match j, hj with
          | 0, hj => simp at hj; subst hj; simp [Addr.add]
        case c2 => intro u hu; simp at hu; subst hu; rfl
        case c3 => unfold maxLen; omega
        case c4 => omega
        case c5 => have := hbl.size; simp; omega
        intro v' w2 hown' hgrow _
        have hbl2 := hide (below_append hbl (Nat.le_refl _) hown hgrow)
        rw [show ((x : Int) + 4294967296 - ((y : Int) + bo) : Int) = ((x + 4294967296 - (y + bo) : Nat) : Int) by omega, cellsOf_snoc] at hown'
        have hown2 := hide hown'
        clear hown' hgrow hown
        go_wp2_with fail
        go_roundw
        case rel => exact ⟨k + 1, 1, lo ++ [x + 4294967296 - (y + bo)], by go_num, rfl, by omega, by simp [Hlo.out], small_snoc Hsm.out (by omega), hown2.out, hbl2.out, by rw [val_snoc, Hlo.out, pw_succ]; exact Hst.out, by omega⟩
        case measure => simp [intOf]; omega
      · have hlt2 : ¬ (x : Int) < (y : Int) + (bo : Int) := by omega
        have Hst := hide (minus_step (val lo) (pw k) x y (x - (y + bo)) bo 0 (val (la.drop (k + 1))) (val (lb.drop (k + 1))) (val la) (val lb) (by omega) (by rw [← va1.out, ← vb1.out]; exact Hval.out))
        go_wp2_with fail
        refine (Hdb.out _ hbl k (by omega)).mono ?_; rintro e w1 ⟨rfl, hw1⟩; rw [hw1]; clear hw1 w1
        rw [hyd.out]
        go_wp2_with (first | (at_builtin; refine wpList_append_own _ rfl _ _ 32 rfl w.heap.size 38 i0 (.int .u64 0) 1 8 Try.underlying32 hi hz0 hz1 hz2 rfl (by decide) _ _ _ rfl (hown.alloc _) ⟨wr.heap.size, 0, none⟩ 1 1 [.int .u64 ((x : Int) - ((y : Int) + bo))] rfl rfl ?c1 ?c2 ?c3 ?c4 ?c5 ?_) | go_in)
        case c1 =>
          intro j u hj
          match j, hj with
          | 0, hj => simp at hj; subst hj; simp [Addr.add]
        case c2 => intro u hu; simp at hu; subst hu; rfl
        case c3 => unfold maxLen; omega
        case c4 => omega
        case c5 => have := hbl.size; simp; omega
        intro v' w2 hown' hgrow _
        have hbl2 := hide (below_append hbl (Nat.le_refl _) hown hgrow)
        rw [show ((x : Int) - ((y : Int) + bo) : Int) = ((x - (y + bo) : Nat) : Int) by omega, cellsOf_snoc] at hown'
        have hown2 := hide hown'
        clear hown' hgrow hown
        go_wp2_with fail
        go_roundw
        case rel => exact ⟨k + 1, 0, lo ++ [x - (y + bo)], by go_num, rfl, by omega, by simp [Hlo.out], small_snoc Hsm.out (by omega), hown2.out, hbl2.out, by rw [val_snoc, Hlo.out, pw_succ]; exact Hst.out, by omega⟩
        case measure => simp [intOf]; omega
    · have hka2 : ¬ (k : Int) < (na : Int) := by omega
      go_wp2
      go_ret
      refine ⟨_, rfl, lo, ?_, fun k hk => (hown.lt k hk).1, ?_, ?_, hbl⟩
      · rw [← Hlo.out] at hown
        exact digs_of_own hown Hsm.out (by rw [Hlo.out]; omega)
      · have h := Hval.out
        rw [val_drop_all la k (by have := Hna.out; omega), Nat.mul_zero, Nat.add_zero] at h
        exact minus_end _ (pw k) _ _ _ (by have := val_lt Hsm.out; rwa [Hlo.out] at this) Hle.out h
      · rw [Hlo.out]; omega
theorem plus_sl (w : World) (va vb : Value) (la lb : List Nat) (ha : Digs w va la) (hb : Digs w vb lb) (h29 : la.length ≤ 29000) (h29b : lb.length ≤ 29000) :
    Calls Try.prog 52 #[va, vb] w fun e w' => ∃ a n cap l, e = .returned (.slice a n cap) ∧ Digs w' (.slice a n cap) l ∧ (∀ k, (Value.slice a n cap).ownBlock = some k → w.heap.size ≤ k) ∧ val l = val la + val lb ∧ l.length ≤ max la.length lb.length + 1 ∧ Below w.heap.size w w' := by
  refine (plus_any w va vb la lb ha hb h29 h29b).mono ?_
  rintro e w' ⟨v, l, rfl, hd, r⟩
  obtain ⟨a, cap, rfl, _⟩ := hd.shape
  exact ⟨a, l.length, cap, l, rfl, hd, r⟩
theorem minus_sl (w : World) (va vb : Value) (la lb : List Nat) (ha : Digs w va la) (hb : Digs w vb lb) (hle : val lb ≤ val la) :
    Calls Try.prog 49 #[va, vb] w fun e w' => ∃ a n cap l, e = .returned (.slice a n cap) ∧ Digs w' (.slice a n cap) l ∧ (∀ k, (Value.slice a n cap).ownBlock = some k → w.heap.size ≤ k) ∧ val l + val lb = val la ∧ l.length = la.length ∧ Below w.heap.size w w' := by
  refine (minus_any w va vb la lb ha hb hle).mono ?_
  rintro e w' ⟨v, l, rfl, hd, r⟩
  obtain ⟨a, cap, rfl, _⟩ := hd.shape
  exact ⟨a, l.length, cap, l, rfl, hd, r⟩
/-- A store into another block leaves the digits. -/
theorem Digs.stored {w : World} {v : Value} {l : List Nat} (h : Digs w v l) {a : Addr} (ha : v.ownBlock ≠ some a.block) (u : Value) : Digs (w.setCell a u) v l := by
  obtain ⟨hs, hl, h | ⟨b, cap, hv, hlt, hc⟩⟩ := h
  · exact ⟨hs, hl, Or.inl h⟩
  · refine ⟨hs, hl, Or.inr ⟨b, cap, hv, by simpa [World.setCell] using hlt, fun i hi => ?_⟩⟩
    have hne : b ≠ a.block := by intro e; apply ha; rw [hv, e]; rfl
    rw [World.cell?_of_block (w := w) (a := ⟨b, i, none⟩) (Below.heap_setCell w a u b hne)]
    exact hc i hi
theorem Digs.drewN {w : World} {v : Value} {l : List Nat} (h : Digs w v l) : Digs w.drew v l := h
theorem bcell {W w1 : World} (hb : Below W.heap.size W w1) : (∀ b o, b < W.heap.size → w1.cell? ⟨b, o, none⟩ = W.cell? ⟨b, o, none⟩) ∧ (∀ b o, b < W.heap.size → w1.frozen? ⟨b, o, none⟩ = W.frozen? ⟨b, o, none⟩) :=
  ⟨fun b o h => hb.cell (p := ⟨b, o, none⟩) h, fun b o h => hb.frozen (p := ⟨b, o, none⟩) h⟩
theorem digs_new (W : World) (l : List Nat) (hs : Small l) (hl : l.length ≤ 30000) : Digs (W.alloc (.cells (cellsOf l).toArray 38)) (.slice (some ⟨W.heap.size, 0, none⟩) l.length l.length) l := by
  have h := World.ownsRow_lit (base := W.heap.size) (e := 38) (size := 1) W (cellsOf l).toArray l.length (Nat.le_refl _) (by unfold maxLen; omega) (by simp [cellsOf])
  exact digs_of_own h hs hl
theorem small_two {x y : Nat} (hx : x < 4294967296) (hy : y < 4294967296) : Small [x, y] := small_cons hx (small_cons hy small_nil)
theorem small_one {x : Nat} (hx : x < 4294967296) : Small [x] := small_cons hx small_nil
theorem digs_two (W : World) (x y : Nat) (hx : x < 4294967296) (hy : y < 4294967296) : Digs (W.alloc (.cells #[.int .u64 (x : Int), .int .u64 (y : Int)] 38)) (.slice (some ⟨W.heap.size, 0, none⟩) 2 2) [x, y] :=
  digs_new W [x, y] (small_two hx hy) (by simp)
theorem digs_one (W : World) (x : Nat) (hx : x < 4294967296) : Digs (W.alloc (.cells #[.int .u64 (x : Int)] 38)) (.slice (some ⟨W.heap.size, 0, none⟩) 1 1) [x] :=
  digs_new W [x] (small_one hx) (by simp)
theorem val_two (x y : Nat) : val [x, y] = x + 4294967296 * y := by simp [val]
theorem val_one (x : Nat) : val [x] = x := by simp [val]
end Go.Proofs.Ytnofillkfiiogaa
