/-
  The reference's Product: the digits' values are multiplied.
-/
import Derived.Test.YtnofillkfiiogaaBoxes
namespace Go.Proofs.Ytnofillkfiiogaa
open Go.RowKit
set_option linter.unusedVariables false
/-- Three boxes of two cells read as they did, behind whatever only makes new memory. -/
theorem facts3' {w w1 : World} {x0 x1 y0 y1 z0 z1 : Value}
    (hb : Below (w.heap.size + 3) (((w.alloc (.cells #[x0, x1] 34)).alloc (.cells #[y0, y1] 34)).alloc (.cells #[z0, z1] 34)) w1) :
    (w1.cell? ⟨w.heap.size, 0, none⟩ = some x0 ∧ w1.cell? ⟨w.heap.size, 1, none⟩ = some x1) ∧ (w1.cell? ⟨w.heap.size + 1, 0, none⟩ = some y0 ∧ w1.cell? ⟨w.heap.size + 1, 1, none⟩ = some y1) ∧
    (w1.cell? ⟨w.heap.size + 1 + 1, 0, none⟩ = some z0 ∧ w1.cell? ⟨w.heap.size + 1 + 1, 1, none⟩ = some z1) ∧ (w1.frozen? ⟨w.heap.size + 1 + 1, 0, none⟩ = false ∧ w1.frozen? ⟨w.heap.size + 1 + 1, 1, none⟩ = false) ∧ w.heap.size + 1 + 1 < w1.heap.size := by
  have hs := hb.size
  simp at hs
  refine ⟨⟨?_, ?_⟩, ⟨?_, ?_⟩, ⟨?_, ?_⟩, ⟨?_, ?_⟩, by omega⟩
  · rw [hb.cell (p := ⟨w.heap.size, 0, none⟩) (by simp)]; go_simp
  · rw [hb.cell (p := ⟨w.heap.size, 1, none⟩) (by simp)]; go_simp
  · rw [hb.cell (p := ⟨w.heap.size + 1, 0, none⟩) (by simp)]; go_simp
  · rw [hb.cell (p := ⟨w.heap.size + 1, 1, none⟩) (by simp)]; go_simp
  · rw [hb.cell (p := ⟨w.heap.size + 1 + 1, 0, none⟩) (by simp)]; go_simp
  · rw [hb.cell (p := ⟨w.heap.size + 1 + 1, 1, none⟩) (by simp)]; go_simp
  · rw [hb.frozen (p := ⟨w.heap.size + 1 + 1, 0, none⟩) (by simp)]; go_simp
  · rw [hb.frozen (p := ⟨w.heap.size + 1 + 1, 1, none⟩) (by simp)]; go_simp
def W0 (w : World) (sa sb : Bool) (a b : Option Addr) (na nb ca cb : Nat) : World :=
  ((w.alloc (.cells #[.bool sa, .slice a na ca] 34)).alloc (.cells #[.bool sb, .slice b nb cb] 34)).alloc (.cells #[.bool false, .slice none 0 0] 34)
theorem w0_below (w : World) (sa sb : Bool) (a b : Option Addr) (na nb ca cb : Nat) : Below w.heap.size w (W0 w sa sb a b na nb ca cb) := below_box3 w _ _ _
theorem w0_size (w : World) (sa sb : Bool) (a b : Option Addr) (na nb ca cb : Nat) : (W0 w sa sb a b na nb ca cb).heap.size = w.heap.size + 3 := by simp [W0]
theorem w0_since {w wr : World} {sa sb : Bool} {a b : Option Addr} {na nb ca cb : Nat} (h : Below (W0 w sa sb a b na nb ca cb).heap.size (W0 w sa sb a b na nb ca cb) wr) : Below w.heap.size w wr :=
  (w0_below w sa sb a b na nb ca cb).trans (h.mono (by rw [w0_size]; omega))
theorem Lib_half_mul_le {a b : Nat} (ha : a ≤ 4294967295) (hb : b ≤ 4294967295) : a * b ≤ 18446744065119617025 := Nat.mul_le_mul ha hb
theorem mul_step (L P c x y z c' Y T : Nat) (hz : c + x * y = z + 4294967296 * c') (h : L + P * (c + x * (y + 4294967296 * Y)) = T) : (L + P * z) + (4294967296 * P) * (c' + x * Y) = T := by
  have e : c + x * (y + 4294967296 * Y) = z + 4294967296 * (c' + x * Y) := by
    rw [Nat.mul_add, Nat.mul_left_comm x 4294967296 Y, Nat.mul_add]; omega
  rw [e, Nat.mul_add] at h
  rw [← h, Nat.add_assoc, Nat.mul_comm 4294967296 P, Nat.mul_assoc]
theorem val_zeros (k : Nat) (l : List Nat) : val (List.replicate k 0 ++ l) = pw k * val l := by
  induction k with
  | zero => simp [pw]
  | succ k ih => rw [List.replicate_succ, List.cons_append, val, ih, pw_succ, Nat.zero_add, Nat.mul_assoc]
theorem small_zeros (k : Nat) (l : List Nat) (h : Small l) : Small (List.replicate k 0 ++ l) := by
  induction k with
  | zero => simpa using h
  | succ k ih => rw [List.replicate_succ, List.cons_append]; exact small_cons (by omega) ih
theorem val_take_succ (l : List Nat) (k : Nat) (h : k < l.length) : val (l.take (k + 1)) = val (l.take k) + pw k * dig l k := by
  rw [List.take_succ_eq_append_getElem h, val_snoc, List.length_take, Nat.min_eq_left (by omega)]
  simp [dig, List.getElem?_eq_getElem h]
theorem made_zeros (k : Nat) : (madeCells #[Value.int .u64 0] k).toList = cellsOf (List.replicate k 0 ++ []) := by
  simp only [List.append_nil, cellsOf, List.map_replicate]
  apply List.ext_getElem
  · simp [size_madeCells]
  · intro i h1 h2
    simp [madeCells, Nat.mod_one]
theorem row_val {lb lr : List Nat} {k jj cN x : Nat} (hlr : lr.length = jj) (hj : lb.length ≤ jj) (h : val lr + pw jj * (cN + x * val (lb.drop jj)) = x * val lb) : val (List.replicate k 0 ++ (lr ++ [cN])) = pw k * (x * val lb) := by
  rw [val_zeros, val_snoc, hlr, ← h, val_drop_all lb jj hj, Nat.mul_zero, Nat.add_zero]
theorem cell_new (W : World) (v : Value) (t : Nat) : (W.alloc (.cells #[v] t)).cell? ⟨W.heap.size, 0, none⟩ = some v := by simp
theorem own_shape {w : World} {B n : Nat} {v : Value} {xs : List Value} (h : w.ownsRow B 38 1 v n xs) : ∃ a cap, v = .slice a n cap := by
  obtain ⟨_, ⟨hv, hn⟩ | ⟨g, cap, cur, hv, r⟩⟩ := h
  · exact ⟨none, 0, by rw [hv, hn]⟩
  · exact ⟨_, cap, hv⟩
def PRel (W : World) (lb : List Nat) (A bound : Nat) (v : Value) (wr : World) : Prop :=
  ∃ lo, Digs wr v lo ∧ lo.length ≤ bound ∧ val lo = A * val lb ∧ Below W.heap.size W wr ∧ (∀ q, v.ownBlock = some q → W.heap.size ≤ q)
def IRel (wr : World) (lb : List Nat) (x k jj cN : Nat) (v : Value) (wj : World) : Prop :=
  ∃ lr, lr.length = jj ∧ Small lr ∧ wj.ownsRow wr.heap.size 38 1 v (k + jj) (cellsOf (List.replicate k 0 ++ lr)) ∧ Below wr.heap.size wr wj ∧ val lr + pw jj * (cN + x * val (lb.drop jj)) = x * val lb ∧ cN < 4294967296
theorem IRel.own {wr : World} {lb : List Nat} {x k jj cN : Nat} {v : Value} {wj : World} (h : IRel wr lb x k jj cN v wj) : ∃ xs, wj.ownsRow wr.heap.size 38 1 v (k + jj) xs := by
  obtain ⟨lr, _, _, h, _⟩ := h; exact ⟨_, h⟩
theorem PRel.start (W : World) (lb : List Nat) (bound B : Nat) (hB : B = W.heap.size) : PRel W lb 0 bound (.slice (some ⟨B, 0, none⟩) 0 0) (W.alloc (.cells #[] 38)) :=
  ⟨[], ⟨small_nil, by simp, Or.inl ⟨rfl, _, _, rfl⟩⟩, by simp, by simp [val], below_box W _, fun q hq => by simp [Value.ownBlock] at hq; omega⟩
set_option maxHeartbeats 1000000 in
theorem product_any (w : World) (sa sb : Bool) (a b : Option Addr) (na nb ca cb : Nat) (la lb : List Nat) (ha : Digs w (.slice a na ca) la) (hb : Digs w (.slice b nb cb) lb) (h29 : la.length ≤ 1000) (h29b : lb.length ≤ 1000) (hna : na = la.length) (hnb : nb = lb.length) :
    Calls Try.prog 41 #[.agg #[.bool sa, .slice a na ca], .agg #[.bool sb, .slice b nb cb]] w fun e w' => ∃ r k c l, e = .returned (.agg #[.bool (sa != sb), .slice r k c]) ∧ Digs w' (.slice r k c) l ∧ val l = val la * val lb ∧ l.length ≤ la.length + lb.length + 2 ∧ Below w.heap.size w w' := by
  obtain ⟨i0, hi, hz0, hz1, hz2⟩ := info_parts Try.info38
  rw [← hna] at h29
  rw [← hnb] at h29b
  have Hna := hide hna
  have Hnb := hide hnb
  clear hna hnb
  go_enter Try.func41, Try.ntmps41
  go_wp2_with fail
  go_loopw [5, 6, 7, 8, 9] (fun v i _ _ _ wr => ∃ (k : Nat) (r : Option Addr) (nn c : Nat), i = .int .i64 k ∧ k ≤ na ∧ v = .slice r nn c ∧ PRel (W0 w sa sb a b na nb ca cb) lb (val (la.take k)) (k + nb + 2) (.slice r nn c) wr) (fun _ i _ _ _ _ => na - (intOf i).toNat)
  case atStart => exact ⟨0, _, _, _, rfl, Nat.zero_le _, rfl, PRel.start (W0 w sa sb a b na nb ca cb) lb _ _ (by rw [w0_size])⟩
  case round =>
    rename World => wo
    obtain ⟨k, r, nn, c, rfl, hk, rfl, hP⟩ := hrel
    obtain ⟨lo, hlo, hlen, hval, hbl, hfr⟩ := hP
    obtain ⟨⟨c0, c1⟩, ⟨c2, c3⟩, ⟨c4, c5⟩, ⟨f0, f1⟩, hz⟩ := facts3' (hbl.mono (by rw [w0_size]; omega))
    have Hlen := hide hlen
    have Hval := hide hval
    have Hfr := hide hfr
    clear hlen hval hfr
    by_cases hka : k < na
    · have hka2 : (k : Int) < (na : Int) := by omega
      go_wp2_with (first | (at_make; refine wpList_make_full _ rfl _ _ 32 rfl wo.heap.size 38 i0 (.int .u64 0) 1 Try.underlying32 hi hz0 hz1 .i64 .i64 _ _ k rfl rfl (by omega) (by omega) ?b1 ?b2 ?b3 ?_) | go_in)
      case b1 => rw [hz2]; omega
      case b2 => unfold maxLen; omega
      case b3 => exact Nat.le_refl _
      intro w2 hown2 hgrow2
      rw [made_zeros] at hown2
      have hbl2 : Below wo.heap.size wo w2 := (Below.refl _ _).grown hgrow2 (Nat.le_refl _) (fun q hq => by cases hq)
      obtain ⟨ba, rfl, _⟩ := (ha.kept (w0_since hbl)).at (v := .nilIface) (k := k) (by have := Hna.out; omega)
      have hx := ha.small k
      have hst : IRel wo lb (dig la k) k 0 0 (.slice (some ⟨wo.heap.size, 0, none⟩) k k) w2 := ⟨[], rfl, small_nil, hown2, hbl2, by simp [val, pw], by omega⟩
      have hda := fun (wj : World) (hj : Below wo.heap.size wo wj) => (ha.kept ((w0_since hbl).trans (hj.mono (by have := (w0_since hbl).size; omega)))).at (v := .nilIface) (k := k) (by have := Hna.out; omega)
      have Hst := hide hst
      have Hda := hide hda
      clear hst hown2 hgrow2 hbl2 hda
      obtain ⟨x, hxx⟩ : ∃ x, x = dig la k := ⟨_, rfl⟩
      rw [← hxx] at hx Hst Hda
      have Hx := hide hxx
      clear hxx
      go_wp2_with fail
      go_loopw [7, 8, 9] (fun v c j wj => ∃ (jj cN : Nat) (rv : Option Addr) (cv : Nat), j = .int .i64 jj ∧ jj ≤ nb ∧ c = .int .u64 cN ∧ v = .slice rv (k + jj) cv ∧ IRel wo lb x k jj cN (.slice rv (k + jj) cv) wj) (fun _ _ j _ => nb - (intOf j).toNat)
      case atStart => exact ⟨0, 0, _, _, rfl, Nat.zero_le _, rfl, rfl, Hst.out⟩
      case round =>
        obtain ⟨jj, cN, rv, cv, rfl, hjj, rfl, rfl, hI⟩ := hrel
        obtain ⟨lr, hlr, hsm, hown, hbj, hvj, hcN⟩ := hI
        have Hlr := hide hlr
        have Hsm := hide hsm
        have Hvj := hide hvj
        clear hlr hsm hvj
        have c0j := (hbj.cell (p := ⟨w.heap.size, 0, none⟩) (by simp; omega)).trans c0
        have c1j := (hbj.cell (p := ⟨w.heap.size, 1, none⟩) (by simp; omega)).trans c1
        have c2j := (hbj.cell (p := ⟨w.heap.size + 1, 0, none⟩) (by simp; omega)).trans c2
        have c3j := (hbj.cell (p := ⟨w.heap.size + 1, 1, none⟩) (by simp; omega)).trans c3
        by_cases hjb : jj < nb
        · have hjb2 : (jj : Int) < (nb : Int) := by omega
          obtain ⟨ba2, e2, hca⟩ := Hda.out wr hbj
          simp only [Option.some.injEq, Addr.mk.injEq, and_true] at e2
          subst e2
          obtain ⟨bb, rfl, hcb⟩ := (hb.kept ((w0_since hbl).trans (hbj.mono (by have := (w0_since hbl).size; omega)))).at (v := .nilIface) (k := jj) (by have := Hnb.out; omega)
          have hy := hb.small jj
          have vd := val_drop lb jj
          obtain ⟨y, hyy⟩ : ∃ y, y = dig lb jj := ⟨_, rfl⟩
          rw [← hyy] at hy hcb vd
          clear hyy
          have Hms := hide (mul_step (val lr) (pw jj) cN x y ((cN + x * y) % 4294967296) ((cN + x * y) / 4294967296) (val (lb.drop (jj + 1))) (x * val lb) (by omega) (by rw [← vd]; exact Hvj.out))
          clear vd
          have hxy2 := Lib_half_mul_le (a := x) (b := y) (by omega) (by omega)
          obtain ⟨p, hp⟩ : ∃ p, p = x * y := ⟨_, rfl⟩
          have hxy : (x : Int) * (y : Int) = (p : Int) := by rw [hp, Int.natCast_mul]
          rw [← hp] at hxy2 Hms
          have Hp := hide hp
          clear hp
          go_wp2_with fail
          go_quiet (fail)
          have hownq : (wr.drewN nq).ownsRow wo.heap.size 38 1 (.slice rv (k + jj) cv) (k + jj) (cellsOf (List.replicate k 0 ++ lr)) := hown
          have hbq : Below wo.heap.size wo (wr.drewN nq) := drewN_below hbj nq
          go_wp2_with (first | (at_builtin; refine wpList_append_own _ rfl _ _ 32 rfl wo.heap.size 38 i0 (.int .u64 0) 1 8 Try.underlying32 hi hz0 hz1 hz2 rfl (by decide) _ _ _ rfl (hownq.alloc _) ⟨wr.heap.size, 0, none⟩ 1 1 [.int .u64 (((cN : Int) + p) % 4294967296)] rfl rfl ?c1 ?c2 ?c3 ?c4 ?c5 ?_) | go_in)
          case c1 =>
            intro j u hj
            match j, hj with
            | 0, hj => simp at hj; subst hj; exact cell_new (wr.drewN nq) _ _
          case c2 => intro u hu; simp at hu; subst hu; rfl
          case c3 => unfold maxLen; omega
          case c4 => omega
          case c5 => have := hbj.size; simp; omega
          intro v' w2 hown' hgrow _
          have hb2 := hide (below_append hbq (Nat.le_refl _) hownq hgrow)
          rw [show ((cN : Int) + p) % 4294967296 = (((cN + p) % 4294967296 : Nat) : Int) by omega, cellsOf_snoc, List.append_assoc] at hown'
          obtain ⟨rv2, cv2, hv2⟩ := own_shape hown'
          rw [hv2] at hown' ⊢
          have hR := hide (show IRel wo lb x k (jj + 1) ((cN + p) / 4294967296) (.slice rv2 (k + (jj + 1)) cv2) w2 from ⟨lr ++ [(cN + p) % 4294967296], by simp [Hlr.out], small_snoc Hsm.out (Nat.mod_lt _ (by omega)), hown', hb2.out, by rw [val_snoc, Hlr.out, pw_succ]; exact Hms.out, by omega⟩)
          clear hown' hgrow hownq hbq hown hv2
          go_wp2_with fail
          go_roundw
          case rel => exact ⟨jj + 1, (cN + p) / 4294967296, rv2, cv2, by go_num, by omega, congrArg _ (by omega), rfl, hR.out⟩
          case measure => simp [intOf]; omega
        · have hjb2 : ¬ (jj : Int) < (nb : Int) := by omega
          go_wp2_with (first | (at_builtin; refine wpList_append_own _ rfl _ _ 32 rfl wo.heap.size 38 i0 (.int .u64 0) 1 8 Try.underlying32 hi hz0 hz1 hz2 rfl (by decide) _ _ _ rfl (hown.alloc _) ⟨wr.heap.size, 0, none⟩ 1 1 [.int .u64 (cN : Int)] rfl rfl ?d1 ?d2 ?d3 ?d4 ?d5 ?_) | go_in)
          case d2 => rfl
          case d3 => unfold maxLen; omega
          case d4 => omega
          case d5 => have := hbj.size; simp; omega
          intro v' w2 hown' hgrow _
          have hb2 := below_append hbj (Nat.le_refl _) hown hgrow
          rw [cellsOf_snoc, List.append_assoc] at hown'
          obtain ⟨rv2, cv2, hv2⟩ := own_shape hown'
          rw [hv2] at hown' ⊢
          have hlr1 : (List.replicate k 0 ++ (lr ++ [cN])).length = k + jj + 1 := by simp [Hlr.out]; omega
          rw [← hlr1] at hown'
          have hdr := digs_of_own hown' (small_zeros k _ (small_snoc Hsm.out hcN)) (by rw [hlr1]; omega)
          have hrow := hide (row_val (k := k) Hlr.out (by have := Hnb.out; omega) Hvj.out)
          have hcp := hide (plus_sl w2 _ _ lo _ (hlo.kept hb2) hdr (by have := Hlen.out; omega) (by rw [hlr1]; omega))
          rw [hlr1] at hcp
          clear hown' hgrow hown hv2 hdr
          go_wp2_with fail
          refine hcp.out.mono ?_
          rintro e w3 ⟨r3, n3, c3', l3, rfl, hd3, hfr3, hv3, hl3, hb3⟩
          have hR := hide (show PRel (W0 w sa sb (some ⟨ba, 0, none⟩) b na nb ca cb) lb (val (la.take (k + 1))) (k + 1 + nb + 2) (.slice r3 n3 c3') w3 from ⟨l3, hd3, by have := Hlen.out; omega, by rw [hv3, hrow.out, Hval.out, val_take_succ la k (by have := Hna.out; omega), Hx.out, Nat.add_mul, Nat.mul_assoc], hbl.trans ((hb2.trans (hb3.mono hb2.size)).mono hbl.size), fun q hq => Nat.le_trans (Nat.le_trans hbl.size hb2.size) (hfr3 q hq)⟩)
          clear hd3 hfr3 hv3 hl3 hb3 hcp hb2
          go_wp2_with fail
          go_roundw
          case rel => exact ⟨k + 1, r3, n3, c3', by go_num, by omega, rfl, hR.out⟩
          case measure => simp [intOf]; omega
    · have hka2 : ¬ (k : Int) < (na : Int) := by omega
      have hne : (Value.slice r nn c).ownBlock ≠ some (w.heap.size + 1 + 1) := by
        intro e; have := Hfr.out _ e; rw [w0_size] at this; omega
      have hkl : la.take k = la := List.take_of_length_le (by have := Hna.out; omega)
      have Hkl := hide hkl
      clear hkl
      go_wp2_with fail
      refine bodyPost_ret (v := .agg #[.bool (!(sa == sb)), .slice r nn c]) (by simp [results, Try.results41, go_sem, c4, c5]) rfl ⟨r, nn, c, rfl, lo, ?_, ?_, ?_, ?_⟩
      · exact (hlo.stored (a := ⟨w.heap.size + 1 + 1, 0, none⟩) hne _).stored (a := ⟨w.heap.size + 1 + 1, 1, none⟩) hne _
      · rw [Hval.out, Hkl.out]
      · have := Hlen.out; have := Hna.out; have := Hnb.out; omega
      · exact ((w0_since hbl).setCell (by simp; omega) _).setCell (by simp; omega) _
end Go.Proofs.Ytnofillkfiiogaa
