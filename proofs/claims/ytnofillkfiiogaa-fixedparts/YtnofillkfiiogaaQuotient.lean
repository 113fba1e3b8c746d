/-
  The reference's Quotient: rounded down, by bits from the highest.
-/
import Derived.Test.YtnofillkfiiogaaNumbers
import Derived.Test.YtnofillkfiiogaaBits
import Derived.Deep.RegionHeld
import Derived.Deep.DeepCutAuto
namespace Go.Proofs.Ytnofillkfiiogaa
open Go.RowKit
set_option linter.unusedVariables false
def QOut (W : World) (V Bv na k : Nat) (q r : Value) (wr : World) : Prop :=
  ∃ lq lr, Digs wr q lq ∧ Digs wr r lr ∧ val lq = V / Bv ∧ val lr = V % Bv ∧ lq.length + k = na ∧ lr.length ≤ 64 * (na - k) ∧ Below W.heap.size W wr ∧ (∀ z, q.ownBlock = some z → W.heap.size ≤ z)
def QIn (wo : World) (U Bv bound : Nat) (r : Value) (wr : World) : Prop :=
  ∃ lr, Digs wr r lr ∧ val lr = U % Bv ∧ lr.length ≤ bound ∧ Below wo.heap.size wo wr
theorem digs_block {w : World} {b n cap : Nat} {l : List Nat} (h : Digs w (.slice (some ⟨b, 0, none⟩) n cap) l) {k : Nat} (hk : k < l.length) : b < w.heap.size := by
  obtain ⟨hs, hl, ⟨rfl, a', cap', h2⟩ | ⟨b', cap', h2, hlt, hc⟩⟩ := h
  · simp at hk
  · simp only [Value.slice.injEq, Option.some.injEq, Addr.mk.injEq] at h2
    rw [h2.1.1]; exact hlt
theorem digs_empty (w : World) (a : Option Addr) (cap : Nat) : Digs w (.slice a 0 cap) [] := ⟨small_nil, by simp, Or.inl ⟨rfl, _, _, rfl⟩⟩
theorem QOut.start (W : World) (Bv na B : Nat) (o p : Obj) (hB : B = W.heap.size) : QOut W 0 Bv na na (.slice (some ⟨B, 0, none⟩) 0 0) (.slice (some ⟨B + 1, 0, none⟩) 0 0) ((W.alloc o).alloc p) :=
  ⟨[], [], digs_empty _ _ _, digs_empty _ _ _, by simp [val], by simp [val], by simp, by simp, below_box2 W _ _, fun z hz => by simp [Value.ownBlock] at hz; omega⟩
/-- What the region's loads read, and that nothing old has turned. -/
theorem hs_of {wr w' : World} {p q : Addr} {u v : Value} (h1 : wr.cell? p = some u) (h2 : wr.cell? q = some v) (hp : p.block < wr.heap.size) (hq : q.block < wr.heap.size) (h : Below wr.heap.size wr w') :
    (w'.cell? p = some u ∧ w'.cell? q = some v) ∧ Below wr.heap.size wr w' :=
  ⟨⟨(h.cell hp).trans h1, (h.cell hq).trans h2⟩, h⟩
theorem hs_drew {wr : World} {p q : Addr} {u v : Value} (h1 : wr.cell? p = some u) (h2 : wr.cell? q = some v) : (wr.drew.cell? p = some u ∧ wr.drew.cell? q = some v) ∧ Below wr.heap.size wr wr.drew := ⟨⟨h1, h2⟩, (Below.refl _ _).drew⟩
theorem hs_alloc {wr w' : World} {p q : Addr} {u v : Value} {o : Obj} (h : (w'.cell? p = some u ∧ w'.cell? q = some v) ∧ Below wr.heap.size wr w') (hp : p.block < wr.heap.size) (hq : q.block < wr.heap.size) :
    ((w'.alloc o).cell? p = some u ∧ (w'.alloc o).cell? q = some v) ∧ Below wr.heap.size wr (w'.alloc o) := by
  have hB := h.2.alloc (h.2.size) o
  have hb2 : Below w'.heap.size w' (w'.alloc o) := below_box w' o
  exact ⟨⟨(hb2.cell (Nat.lt_of_lt_of_le hp h.2.size)).trans h.1.1, (hb2.cell (Nat.lt_of_lt_of_le hq h.2.size)).trans h.1.2⟩, hB⟩
theorem hs_below {wr w' : World} {A : Prop} (h : A ∧ Below wr.heap.size wr w') : Below wr.heap.size wr w' := h.2
theorem own_some {w : World} {B n : Nat} {v : Value} {xs : List Value} (h : w.ownsRow B 38 1 v n xs) (hv : v ≠ .slice none 0 0) : ∃ g cap, v = .slice (some ⟨g, 0, none⟩) n cap := by
  obtain ⟨_, ⟨hv', hn⟩ | ⟨g, cap, cur, hv', r⟩⟩ := h
  · exact absurd hv' hv
  · exact ⟨g, cap, hv'⟩
theorem digs_news {w : World} {b n cap : Nat} {l : List Nat} (h : Digs w (.slice (some ⟨b, 0, none⟩) n cap) l) : ∀ j u, (cellsOf l)[j]? = some u → w.cell? ⟨b, j, none⟩ = some u := by
  intro j u hj
  have hlt : j < l.length := by
    rcases Nat.lt_or_ge j l.length with h1 | h1
    · exact h1
    · rw [List.getElem?_eq_none (by simpa [cellsOf] using h1)] at hj; cases hj
  obtain ⟨b', e, hc⟩ := h.at (v := .nilIface) hlt
  simp only [Option.some.injEq, Addr.mk.injEq, and_true] at e
  subst e
  rw [cellsOf_get l j hlt] at hj
  rw [hc]; exact hj
theorem cells_one (l : List Nat) : ∀ u ∈ cellsOf l, u.oneCell' = true := by
  intro u hu
  simp only [cellsOf, List.mem_map] at hu
  obtain ⟨d, _, rfl⟩ := hu
  rfl
theorem cellsOf_cons (d : Nat) (l : List Nat) : Value.int .u64 (d : Int) :: cellsOf l = cellsOf (d :: l) := by simp [cellsOf]
theorem below_next {wr W w1 : World} {A : Prop} (hb : Below W.heap.size W w1) (h : A ∧ Below wr.heap.size wr W) : Below wr.heap.size wr w1 := h.2.trans (hb.mono h.2.size)
theorem bit_at (x m : Nat) (hx : x < 4294967296) (hm : m ≤ 31) : bits .and .u64 ((x : Int) / 2 ^ min (IntKind.u64.wrap (m : Int)).toNat 64) 1 = ((x / 2 ^ m % 2 : Nat) : Int) := by
  have e1 : (IntKind.u64.wrap (m : Int)).toNat = m := by rw [IntKind.wrap_u64]; omega
  rw [e1, Nat.min_eq_left (by omega)]
  have e2 : (x : Int) / 2 ^ m = ((x / 2 ^ m : Nat) : Int) := by simp
  have hle : x / 2 ^ m ≤ x := Nat.div_le_self _ _
  have h := bits_and_u64_nat (x / 2 ^ m) 1 (by omega) (by omega)
  rw [nat_mask1] at h
  rw [e2]; exact h
theorem quo_same {la lb lq : List Nat} (s : Bool) (h : val lq = val la / val lb) : num false lq = Int.fdiv (num s la) (num s lb) := by
  cases s
  · rw [num_false, num_false, num_false, fdiv_nn, h]
  · rw [num_false, num_true, num_true, fdiv_neg_neg, h]
theorem quo_mixed_zero {sa sb : Bool} {la lb lq lr : List Nat} (hs : ¬ sa = sb) (hB : 0 < val lb) (h : val lq = val la / val lb) (hr : val lr = val la % val lb) (h0 : val lr = 0) : num true lq = Int.fdiv (num sa la) (num sb lb) := by
  have h1 : val la % val lb = 0 := by omega
  cases sa <;> cases sb
  · exact absurd rfl hs
  · rw [num_true, num_false, num_true, fdiv_mixed' _ _ hB, if_pos h1, h]; omega
  · rw [num_true, num_true, num_false, fdiv_mixed _ _ hB, if_pos h1, h]; omega
  · exact absurd rfl hs
theorem quo_mixed_more {sa sb : Bool} {la lb lq lr l : List Nat} (hs : ¬ sa = sb) (hB : 0 < val lb) (h : val lq = val la / val lb) (hr : val lr = val la % val lb) (h0 : ¬ val lr = 0) (hl : val l = val lq + val [1]) : num true l = Int.fdiv (num sa la) (num sb lb) := by
  have h1 : ¬ val la % val lb = 0 := by omega
  rw [val_one] at hl
  cases sa <;> cases sb
  · exact absurd rfl hs
  · rw [num_true, num_false, num_true, fdiv_mixed' _ _ hB, if_neg h1, hl, h]; omega
  · rw [num_true, num_true, num_false, fdiv_mixed _ _ hB, if_neg h1, hl, h]; omega
  · exact absurd rfl hs
set_option maxHeartbeats 1000000 in
theorem quotient_any (w : World) (sa sb : Bool) (a b : Option Addr) (na nb ca cb : Nat) (la lb : List Nat) (ha : Digs w (.slice a na ca) la) (hb : Digs w (.slice b nb cb) lb) (h29 : la.length ≤ 100) (h29b : lb.length ≤ 1000) (hna : na = la.length) (hnb : nb = lb.length) (hB : 0 < val lb) :
    Calls Try.prog 42 #[.agg #[.bool sa, .slice a na ca], .agg #[.bool sb, .slice b nb cb]] w fun e w' => ∃ s r k c l, e = .returned (.agg #[.bool s, .slice r k c]) ∧ Digs w' (.slice r k c) l ∧ num s l = Int.fdiv (num sa la) (num sb lb) ∧ l.length ≤ la.length + 2 ∧ Below w.heap.size w w' := by
  obtain ⟨i0, hi, hz0, hz1, hz2⟩ := info_parts Try.info38
  rw [← hna] at h29
  rw [← hnb] at h29b
  have Hna := hide hna
  have Hnb := hide hnb
  have HB := hide hB
  clear hna hnb hB
  go_enter Try.func42, Try.ntmps42
  go_wp2_with fail
  go_loopw [5, 6, 7, 8, 9] (fun q r i _ _ wr => ∃ (k qb qn qc : Nat) (rr : Option Addr) (rn rc : Nat), i = .int .i64 ((k : Int) - 1) ∧ k ≤ na ∧ q = .slice (some ⟨qb, 0, none⟩) qn qc ∧ r = .slice rr rn rc ∧ QOut (W0 w sa sb a b na nb ca cb) (val (la.drop k)) (val lb) na k (.slice (some ⟨qb, 0, none⟩) qn qc) (.slice rr rn rc) wr) (fun _ _ i _ _ _ => (intOf i + 1).toNat)
  case atStart => exact ⟨na, _, _, _, _, _, _, rfl, Nat.le_refl _, rfl, rfl, by rw [val_drop_all la na (by have := Hna.out; omega)]; exact QOut.start (W0 w sa sb a b na nb ca cb) (val lb) na _ _ _ (by rw [w0_size])⟩
  case round =>
    rename World => wo
    obtain ⟨k, qb, qn, qc, rr, rn, rc, rfl, hk, rfl, rfl, hQ⟩ := hrel
    obtain ⟨lq, lr, hdq, hdr, hvq, hvr, hlq, hlr, hbl, hfr⟩ := hQ
    obtain ⟨⟨c0, c1⟩, ⟨c2, c3⟩, ⟨c4, c5⟩, ⟨f0, f1⟩, hz⟩ := facts3' (hbl.mono (by rw [w0_size]; omega))
    have Hvq := hide hvq
    have Hvr := hide hvr
    have Hlq := hide hlq
    have Hlr := hide hlr
    have Hfr := hide hfr
    clear hvq hvr hlq hlr hfr
    cases k with
    | zero =>
      have hne : (Value.slice (some ⟨qb, 0, none⟩) qn qc).ownBlock ≠ some (w.heap.size + 1 + 1) := by
        intro e; have := Hfr.out _ e; rw [w0_size] at this; omega
      have hV : val lq = val la / val lb := by rw [Hvq.out, List.drop_zero]
      have hM : val lr = val la % val lb := by rw [Hvr.out, List.drop_zero]
      have HV := hide hV
      have HM := hide hM
      clear hV hM
      by_cases hs : sa = sb
      · subst hs
        go_wp2_with fail
        refine bodyPost_ret (v := .agg #[.bool false, .slice (some ⟨qb, 0, none⟩) qn qc]) (by simp [results, Try.results42, go_sem, c4, c5]) rfl ⟨false, some ⟨qb, 0, none⟩, qn, qc, lq, rfl, ?_, ?_, ?_, ?_⟩
        · exact (hdq.stored (a := ⟨w.heap.size + 1 + 1, 0, none⟩) hne _).stored (a := ⟨w.heap.size + 1 + 1, 1, none⟩) hne _
        · exact quo_same sa HV.out
        · have := Hlq.out; have := Hna.out; omega
        · exact ((w0_since hbl).setCell (by simp; omega) _).setCell (by simp; omega) _
      · have hse : (sa == sb) = false := by simp [hs]
        by_cases hr0 : val lr = 0
        · have hzd : decide (val lr = 0) = true := decide_eq_true hr0
          have hq := hide (quo_mixed_zero hs HB.out HV.out HM.out hr0)
          clear hr0
          go_wp2_with fail
          refine (zero_any _ _ lr hdr).mono ?_
          rw [hzd]
          rintro e w1 ⟨rfl, hw1⟩; rw [hw1]; clear hw1 w1
          go_wp2_with fail
          refine bodyPost_ret (v := .agg #[.bool true, .slice (some ⟨qb, 0, none⟩) qn qc]) (by simp [results, Try.results42, go_sem, c4, c5]) rfl ⟨true, some ⟨qb, 0, none⟩, qn, qc, lq, rfl, ?_, ?_, ?_, ?_⟩
          · exact (hdq.stored (a := ⟨w.heap.size + 1 + 1, 0, none⟩) hne _).stored (a := ⟨w.heap.size + 1 + 1, 1, none⟩) hne _
          · exact hq.out
          · have := Hlq.out; have := Hna.out; omega
          · exact ((w0_since hbl).setCell (by simp; omega) _).setCell (by simp; omega) _
        · have hzd : decide (val lr = 0) = false := decide_eq_false hr0
          have hq := hide (fun (l : List Nat) (h : val l = val lq + val [1]) => quo_mixed_more hs HB.out HV.out HM.out hr0 h)
          clear hr0
          go_wp2_with fail
          refine (zero_any _ _ lr hdr).mono ?_
          rw [hzd]
          rintro e w1 ⟨rfl, hw1⟩; rw [hw1]; clear hw1 w1
          go_wp2_with fail
          refine (plus_sl _ _ _ lq [1] (hdq.kept (below_box _ _)) (digs_one wo 1 (by omega)) (by have := Hlq.out; omega) (by simp)).mono ?_
          rintro e w3 ⟨a3, n3, c3', l3, rfl, hd3, hfr3, hv3, hl3, hb3⟩
          have hbx := (below_box wo (.cells #[.int .u64 1] 38)).trans (hb3.mono (by simp))
          have c4x := (hbx.cell (p := ⟨w.heap.size + 1 + 1, 0, none⟩) (by simp; omega)).trans c4
          have c5x := (hbx.cell (p := ⟨w.heap.size + 1 + 1, 1, none⟩) (by simp; omega)).trans c5
          have f0x := (hbx.frozen (p := ⟨w.heap.size + 1 + 1, 0, none⟩) (by simp; omega)).trans f0
          have f1x := (hbx.frozen (p := ⟨w.heap.size + 1 + 1, 1, none⟩) (by simp; omega)).trans f1
          have hzx : w.heap.size + 1 + 1 < w3.heap.size := Nat.lt_of_lt_of_le hz hbx.size
          have hne3 : Hid ((Value.slice a3 n3 c3').ownBlock ≠ some (w.heap.size + 1 + 1)) := by
            intro e; have := hfr3 _ e; simp at this; omega
          have hB3 := (w0_since hbl).trans (hbx.mono (w0_since hbl).size)
          have Hl3 := hide hl3
          have Hv3 := hide hv3
          clear hfr3 hl3 hv3
          go_wp2_with fail
          refine bodyPost_ret (v := .agg #[.bool true, .slice a3 n3 c3']) (by simp [results, Try.results42, go_sem, c4x, c5x]) rfl ⟨true, a3, n3, c3', l3, rfl, ?_, ?_, ?_, ?_⟩
          · exact (hd3.stored (a := ⟨w.heap.size + 1 + 1, 0, none⟩) hne3.out _).stored (a := ⟨w.heap.size + 1 + 1, 1, none⟩) hne3.out _
          · exact hq.out l3 Hv3.out
          · have g1 := Hlq.out; have g2 := Hna.out; have g3 := Hl3.out; simp only [List.length_cons, List.length_nil] at g3; omega
          · exact (hB3.setCell (by simp; omega) _).setCell (by simp; omega) _
    | succ k =>
      rw [show (((k + 1 : Nat) : Int) - 1) = (k : Int) by omega]
      obtain ⟨ba, rfl, _⟩ := (ha.kept (w0_since hbl)).at (v := .nilIface) (k := k) (by have := Hna.out; omega)
      have hx := ha.small k
      have hda := fun (wj : World) (hj : Below wo.heap.size wo wj) => (ha.kept ((w0_since hbl).trans (hj.mono (by have := (w0_since hbl).size; omega)))).at (v := .nilIface) (k := k) (by have := Hna.out; omega)
      have Hda := hide hda
      clear hda
      obtain ⟨x, hxx⟩ : ∃ x, x = dig la k := ⟨_, rfl⟩
      rw [← hxx] at hx Hda
      have Hx := hide hxx
      clear hxx
      obtain ⟨r0, hr0⟩ : ∃ r0, r0 = val (la.drop (k + 1)) % val lb := ⟨_, rfl⟩
      have hr0lt : Hid (r0 < val lb) := by show r0 < val lb; rw [hr0]; exact Nat.mod_lt _ HB.out
      have hst : QIn wo (upto r0 x 32) (val lb) (64 * (na - (k + 1)) + 2 * (32 - 32)) (.slice rr rn rc) wo := ⟨lr, hdr, by rw [upto_start r0 x hx, Hvr.out, ← hr0, Nat.mod_eq_of_lt hr0lt.out], by have := Hlr.out; omega, Below.refl _ _⟩
      have hd0 : upto r0 x 32 / val lb = 0 := by rw [upto_start r0 x hx]; exact Nat.div_eq_of_lt hr0lt.out
      have Hd0 := hide hd0
      have Hst := hide hst
      have Hr0 := hide hr0
      clear hst hr0 hd0
      go_wp2_with fail
      go_loopw [6, 8, 9] (fun r d kk wr => ∃ (jj : Nat) (rr : Option Addr) (rn rc : Nat), kk = .int .i64 ((jj : Int) - 1) ∧ jj ≤ 32 ∧ d = .int .u64 ((upto r0 x jj / val lb : Nat) : Int) ∧ r = .slice rr rn rc ∧ QIn wo (upto r0 x jj) (val lb) (64 * (na - (k + 1)) + 2 * (32 - jj)) (.slice rr rn rc) wr) (fun _ _ kk _ => (intOf kk + 1).toNat)
      case atStart => exact ⟨32, rr, rn, rc, rfl, Nat.le_refl _, by rw [Hd0.out]; rfl, rfl, Hst.out⟩
      case round =>
        obtain ⟨jj, ra, ran, rac, rfl, hjj, rfl, rfl, hI⟩ := hrel
        obtain ⟨lx, hdx, hvx, hlx, hbj⟩ := hI
        have Hvx := hide hvx
        have Hlx := hide hlx
        clear hvx hlx
        have c0j := (hbj.cell (p := ⟨w.heap.size, 0, none⟩) (by simp; omega)).trans c0
        have c1j := (hbj.cell (p := ⟨w.heap.size, 1, none⟩) (by simp; omega)).trans c1
        have c2j := (hbj.cell (p := ⟨w.heap.size + 1, 0, none⟩) (by simp; omega)).trans c2
        have c3j := (hbj.cell (p := ⟨w.heap.size + 1, 1, none⟩) (by simp; omega)).trans c3
        cases jj with
        | zero =>
          have hdq2 := upto_quot r0 x 0 (val lb) hr0lt.out hx hjj
          obtain ⟨dd, hdd⟩ : ∃ dd, dd = upto r0 x 0 / val lb := ⟨_, rfl⟩
          rw [← hdd] at hdq2 ⊢
          have Hdd := hide hdd
          clear hdd
          have hqn := hdq.len
          have Hqn := hide hqn
          have hq3 : qn ≤ 100 := by have := Hlq.out; omega
          clear hqn
          have hdq3 := (hdq.kept hbj).kept (below_box wr (.cells #[.int .u64 (dd : Int)] 38))
          have hown0 := World.ownsRow_lit (base := wr.heap.size) (e := 38) (size := 1) wr #[.int .u64 (dd : Int)] 1 (Nat.le_refl _) (by decide) rfl
          have hnews := hide (digs_news hdq3)
          go_wp2_with (first | (at_builtin; refine wpList_append_own _ rfl _ _ 32 rfl wr.heap.size 38 i0 (.int .u64 0) 1 8 Try.underlying32 hi hz0 hz1 hz2 rfl (by decide) _ _ _ rfl hown0 ⟨qb, 0, none⟩ qn qc (cellsOf lq) rfl ?e0 ?e1 ?e2 ?e3 ?e4 ?e5 ?_) | go_in)
          case e0 => rw [Hqn.out]; simp [cellsOf]
          case e1 => exact hnews.out
          case e2 => exact cells_one lq
          case e3 => unfold maxLen; omega
          case e4 => omega
          intro v' w2 hown' hgrow hnil
          have hb2 := (below_box wr (.cells #[.int .u64 (dd : Int)] 38)).grown hgrow (by simp) (fun z hz => by simp [Value.ownBlock] at hz; omega)
          rw [cellsOf_cons] at hown'
          obtain ⟨g, cap2, hv'⟩ := own_some hown' hnil
          rw [hv'] at hown' ⊢
          have hll : (dd :: lq).length = 1 + qn := by rw [Hqn.out]; simp; omega
          rw [← hll] at hown'
          have hds := digs_of_own hown' (small_cons hdq2 hdq.small) (by rw [hll]; omega)
          rw [hll] at hds hown'
          have hbw := hbj.trans (hb2.mono hbj.size)
          have hdv := hide (digit_quo (val (la.drop (k + 1))) (val lb) x HB.out)
          have hvd := hide (val_drop la k)
          have hR := hide (show QOut (W0 w sa sb (some ⟨ba, 0, none⟩) b na nb ca cb) (val (la.drop k)) (val lb) na k (.slice (some ⟨g, 0, none⟩) (1 + qn) cap2) (.slice ra ran rac) w2 from
            ⟨dd :: lq, lx, hds, hdx.kept hb2, by rw [hvd.out, ← Hx.out, hdv.out.1, val, Hvq.out, ← Hr0.out, ← Hdd.out]; omega, by rw [hvd.out, ← Hx.out, hdv.out.2, ← Hr0.out, Hvx.out], by rw [hll]; have := Hlq.out; have := Hqn.out; omega, by have := Hlx.out; omega, hbl.trans (hbw.mono hbl.size), fun z hz => Nat.le_trans (Nat.le_trans hbl.size hbj.size) (hown'.lt z hz).1⟩)
          clear hown' hgrow hnil hown0 hdq3 hds hb2 hbw hv' hll
          go_wp2_with fail
          go_roundw
          case rel => exact ⟨k, g, 1 + qn, cap2, ra, ran, rac, rfl, by omega, rfl, rfl, hR.out⟩
          case measure => simp [intOf]
        | succ m =>
          rw [show (((m + 1 : Nat) : Int) - 1) = (m : Int) by omega]
          obtain ⟨ba2, e2, hca⟩ := Hda.out wr hbj
          simp only [Option.some.injEq, Addr.mk.injEq, and_true] at e2
          subst e2
          have hka : (k : Int) < (na : Int) := by omega
          have hdq2 := upto_quot r0 x (m + 1) (val lb) hr0lt.out hx hjj
          obtain ⟨dd, hdd⟩ : ∃ dd, dd = upto r0 x (m + 1) / val lb := ⟨_, rfl⟩
          rw [← hdd] at hdq2 ⊢
          have Hdd := hide hdd
          clear hdd
          have hblt : ba < wr.heap.size := digs_block (ha.kept ((w0_since hbl).trans (hbj.mono (by have := (w0_since hbl).size; omega)))) (k := k) (by have := Hna.out; omega)
          have hwlt : w.heap.size < wr.heap.size := by have := hbj.size; omega
          obtain ⟨t, ht⟩ : ∃ t, t = x / 2 ^ m % 2 := ⟨_, rfl⟩
          have ht1 : t ≤ 1 := by omega
          have hbit := bit_at x m hx (by omega)
          rw [← ht] at hbit
          have Ht := hide ht
          clear ht
          go_wp2_with fail
          go_cut [6] (fun s6 wx => ∃ (r2 : Option Addr) (n2 c2 : Nat) (l2 : List Nat), s6 = .slice r2 n2 c2 ∧ Digs wx (.slice r2 n2 c2) l2 ∧ val l2 = 2 * val lx + t ∧ l2.length ≤ lx.length + 2 ∧ Below wr.heap.size wr wx)
          case first =>
            go_region_held (fun w' => (w'.cell? ⟨w.heap.size, 1, none⟩ = some (.slice (some ⟨ba, 0, none⟩) na ca) ∧ w'.cell? ⟨ba, k, none⟩ = some (.int .u64 (x : Int))) ∧ Below wr.heap.size wr w')
              (first | exact hs_drew c1j hca | exact hs_alloc (by assumption) hwlt hblt | exact hs_of c1j hca hwlt hblt (by assumption))
              (first | (go_at_call_of 52 (Value.slice ra ran rac); refine (plus_sl _ _ _ lx lx ?_ ?_ ?_ ?_).mono ?_; exact hdx.kept (hs_below (by assumption)); exact hdx.kept (hs_below (by assumption)); (have := Hlx.out; omega); (have := Hlx.out; omega); rintro e w1 ⟨a1, n1, c1', l1, rfl, hd1, hfr1, hv1, hl1, hb1⟩; have hB1 := below_next (wr := wr) hb1 (by assumption)) | (go_at_call 52; refine (plus_sl _ _ _ l1 [t] ?_ ?_ ?_ ?_).mono ?_; (first | exact hd1 | exact hd1.kept (below_box _ _)); (first | exact digs_one w1 t (by omega) | exact (digs_one wr.drew t (by omega)).kept hb1); (have := Hlx.out; omega); (simp); rintro e w2 ⟨a2, n2, c2', l2, rfl, hd2, hfr2, hv2, hl2, hb2⟩; have hB2 := below_next (wr := wr) hb2 (by assumption)))
            all_goals
              go_wp2_with fail
              go_meet
              exact ⟨_, _, _, l2, rfl, hd2, by rw [hv2, hv1, val_one]; omega, by simp at hl1 hl2; omega, hB2⟩
          case rest =>
          obtain ⟨r2, n2, c2', l2, rfl, hd2, hv2, hl2, hB2⟩ := hcut
          have hbc : Below wo.heap.size wo wc := hbj.trans (hB2.mono hbj.size)
          have c2c := (hbc.cell (p := ⟨w.heap.size + 1, 0, none⟩) (by simp; omega)).trans c2
          have c3c := (hbc.cell (p := ⟨w.heap.size + 1, 1, none⟩) (by simp; omega)).trans c3
          have hdb := hb.kept ((w0_since hbl).trans (hbc.mono (by have := (w0_since hbl).size; omega)))
          have hus := upto_step r0 x m (by omega)
          rw [← Ht.out] at hus
          rw [Hvx.out] at hv2
          by_cases hlt : val l2 < val lb
          · have hdc : decide (val l2 < val lb) = true := decide_eq_true hlt
            have hq := quo_small (upto r0 x (m + 1)) (val lb) t (by omega)
            rw [← hus] at hq
            have hR := hide (show QIn wo (upto r0 x m) (val lb) (64 * (na - (k + 1)) + 2 * (32 - m)) (.slice r2 n2 c2') wc from ⟨l2, hd2, by rw [hv2, hq.2], by have := Hlx.out; omega, hbc⟩)
            have hq1 : Hid (upto r0 x m / val lb = 2 * dd) := by show _ = _; rw [hq.1, Hdd.out]
            clear hus hq hv2 hlt
            go_wp2_with fail
            refine (less_any _ _ _ l2 lb hd2 hdb).mono ?_
            rw [hdc]
            rintro e w1 ⟨rfl, hw1⟩; rw [hw1]; clear hw1 w1
            clear hd2 hdb hB2 hbc
            go_wp2_with fail
            go_roundw
            case rel => exact ⟨m, r2, n2, c2', rfl, by omega, congrArg _ (by rw [hq1.out]; omega), rfl, hR.out⟩
            case measure => simp [intOf]
          · have hdc : decide (val l2 < val lb) = false := decide_eq_false hlt
            have hq := quo_great (upto r0 x (m + 1)) (val lb) t HB.out ht1 (by omega)
            rw [← hus] at hq
            have hq1 : Hid (upto r0 x m / val lb = 2 * dd + 1) := by show _ = _; rw [hq.1, Hdd.out]
            have hq2 := hide (show upto r0 x m % val lb + val lb = val l2 by rw [hv2, hq.2])
            have Hle := hide (show val lb ≤ val l2 by omega)
            clear hus hq hv2 hlt
            go_wp2_with fail
            refine (less_any _ _ _ l2 lb hd2 hdb).mono ?_
            rw [hdc]
            rintro e w1 ⟨rfl, hw1⟩; rw [hw1]; clear hw1 w1
            go_wp2_with fail
            refine (minus_sl _ _ _ l2 lb hd2 hdb Hle.out).mono ?_
            rintro e w3 ⟨a3, n3, c3', l3, rfl, hd3, hfr3, hv3, hl3, hb3⟩
            have hR := hide (show QIn wo (upto r0 x m) (val lb) (64 * (na - (k + 1)) + 2 * (32 - m)) (.slice a3 n3 c3') w3 from ⟨l3, hd3, by have := hq2.out; omega, by have := Hlx.out; omega, hbc.trans (hb3.mono hbc.size)⟩)
            clear hd3 hfr3 hv3 hl3 hb3 hd2 hdb hB2 hbc
            go_wp2_with fail
            go_roundw
            case rel => exact ⟨m, a3, n3, c3', rfl, by omega, congrArg _ (by rw [hq1.out]; omega), rfl, hR.out⟩
            case measure => simp [intOf]
end Go.Proofs.Ytnofillkfiiogaa
