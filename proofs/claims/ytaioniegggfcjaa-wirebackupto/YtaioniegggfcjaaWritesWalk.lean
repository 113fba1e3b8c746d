/-
  The walk of phalanxlaw02.WireWrites.
-/
import Derived.Test.YtaioniegggfcjaaWrittenC
import Derived.Test.YtaioniegggfcjaaItems
import Derived.Test.YtaioniegggfcjaaSame
namespace Go.Proofs.Ytaioniegggfcjaa
open Go.RowKit
set_option linter.unusedVariables false
def ibs : List It → List Nat
  | [] => []
  | t :: r => ib t.d t.n t.b ++ ibs r
def tot : List It → Nat
  | [] => 0
  | t :: r => 10 + t.b.length + tot r
theorem ibs_snoc (L : List It) (t : It) : ibs (L ++ [t]) = ibs L ++ ib t.d t.n t.b := by
  induction L with
  | nil => simp [ibs]
  | cons x L ih => simp only [List.cons_append, ibs, ih, List.append_assoc]
theorem tot_append (L M : List It) : tot (L ++ M) = tot L + tot M := by
  induction L with
  | nil => simp [tot]
  | cons x L ih => simp only [List.cons_append, tot, ih]; omega
theorem tot_part (L : List It) (k : Nat) (t : It) (h : L[k]? = some t) : tot (L.take k) + (10 + t.b.length) ≤ tot L ∧ L.take (k + 1) = L.take k ++ [t] := by
  have hk := (List.getElem?_eq_some_iff.1 h).1
  have e : L.take (k + 1) = L.take k ++ [t] := by
    rw [List.take_add_one, h]; rfl
  have e2 := congrArg tot (List.take_append_drop (k + 1) L)
  rw [tot_append, e, tot_append] at e2
  simp only [tot] at e2
  exact ⟨by omega, e⟩
theorem ibs_len (L : List It) (hL : ∀ t ∈ L, t.n < 18446744073709551616 ∧ t.b.length < 18446744073709551616) : (ibs L).length ≤ tot L := by
  induction L with
  | nil => simp [ibs, tot]
  | cons t L ih =>
    simp only [ibs, tot, List.length_append]
    have h1 := hL t (by simp)
    have h2 := ib_len t.d t.n t.b h1.1 h1.2
    have h3 := ih (fun x hx => hL x (by simp [hx]))
    omega
theorem Items.bound {w : World} {v : Value} {L : List It} (h : Items w v L) (hB : ∀ (i : Nat) (t : It), L[i]? = some t → Bys w t.s t.b) : ∀ t ∈ L, t.n < 18446744073709551616 ∧ t.b.length < 18446744073709551616 := by
  intro t ht
  obtain ⟨i, hi⟩ := List.getElem?_of_mem ht
  obtain ⟨a, cap, _, _, hx⟩ := h
  have h1 := (hx i t hi).2.2.1
  have h2 := (hB i t hi).len
  exact ⟨h1, by omega⟩
/-- The two rows of bytes, apart from each other. -/
def Pair (w wr : World) (b want : Value) (l : List Nat) : Prop :=
  Mine w.heap.size wr b l ∧ Mine w.heap.size wr want l ∧ (b.ownBlock = none ∨ b.ownBlock ≠ want.ownBlock)
theorem pair_step {w wr w3 : World} {b want c : Value} {l x : List Nat} (hp : Pair w wr b want l) (hbl : Below w.heap.size w wr) (hor : Mine wr.heap.size w3 c (l ++ x) ∨ (c = b ∧ x = [])) (hB : Below wr.heap.size wr w3) :
    Mine w.heap.size w3 c (l ++ x) ∧ Mine w.heap.size w3 want l ∧ (c.ownBlock = none ∨ c.ownBlock ≠ want.ownBlock) := by
  refine ⟨?_, hp.2.1.kept hB, ?_⟩
  · rcases hor with h | ⟨rfl, rfl⟩
    · exact h.mono hbl.size
    · rw [List.append_nil]; exact hp.1.kept hB
  · rcases hor with h | ⟨rfl, rfl⟩
    · cases hv : c.ownBlock with
      | none => exact Or.inl rfl
      | some k =>
        right
        intro e
        have h1 := (h.block k hv).1
        have h2 := (hp.2.1.block k e.symm).2
        omega
    · exact hp.2.2
theorem pair_next {w w3 w4 : World} {want want' c : Value} {l x : List Nat} (h : Mine w.heap.size w3 c (l ++ x) ∧ Mine w.heap.size w3 want l ∧ (c.ownBlock = none ∨ c.ownBlock ≠ want.ownBlock)) (hap : Appended w.heap.size w3 want (l ++ x) want' w4) :
    Pair w w4 c want' (l ++ x) := by
  refine ⟨h.1.keptBy hap.2.1 h.2.2, hap.1, ?_⟩
  cases hv : c.ownBlock with
  | none => exact Or.inl rfl
  | some k =>
    right
    intro e
    have h1 := (h.1.block k hv).2
    rcases hap.2.2 k e.symm with h2 | h2
    · rcases h.2.2 with h3 | h3
      · rw [hv] at h3; cases h3
      · exact h3 (by rw [hv, h2])
    · omega
set_option maxHeartbeats 1000000 in
theorem writes (w : World) (vh vl : Value) (h : List Nat) (L : List It) (hh : Bys w vh h) (hl : Items w vl L) (hB : ∀ (i : Nat) (t : It), L[i]? = some t → Bys w t.s t.b) (hb : h.length + tot L ≤ 1000000000) :
    Calls Try.prog 3 #[vh, vl] w fun e w' => e = .returned (.bool true) ∧ Below w.heap.size w w' := by
  have hbd := hl.bound hB
  obtain ⟨a, cap, rfl, hc, hx⟩ := hl
  have hLt : L.length ≤ tot L := by
    clear hx hB hb hc hbd
    induction L with
    | nil => simp
    | cons t L ih => simp only [tot, List.length_cons]; omega
  have Hh := hide hh
  have Hx := hide hx
  have HB := hide hB
  have Hb := hide hb
  have Hbd := hide hbd
  have hLi : (L.length : Int) ≤ 1000000000 := by omega
  have Hlen : Hid (([] : List Nat).length + h.length ≤ 140737488355328) := by show _ ≤ _; simp only [List.length_nil]; omega
  clear hh hx hB hb hbd hLt
  go_enter Try.func3, Try.ntmps3
  go_wp2_with (first | (at_builtin; refine wpList_append_mine rfl _ _ rfl w.heap.size _ _ [] h rfl rfl (Mine.nil _ _) Hh.out Hlen.out (Nat.le_refl _) ?_) | fail)
  intro v1 w1 hap1
  have Hap1 := hide hap1
  have Hb1 := hide hap1.fresh
  clear hap1
  go_wp2_with (first | (at_builtin; refine wpList_append_mine rfl _ _ rfl w1.heap.size _ _ [] h rfl rfl (Mine.nil _ _) (Hh.out.kept Hb1.out) Hlen.out (Nat.le_refl _) ?_) | fail)
  intro v2 w2 hap2
  have Hpair : Hid (Pair w w2 v1 v2 h) := by
    refine ⟨Hap1.out.1.kept hap2.fresh, hap2.1.mono Hb1.out.size, ?_⟩
    cases hv : v1.ownBlock with
    | none => exact Or.inl rfl
    | some k =>
      right
      intro e
      have h1 := (Hap1.out.1.block k hv).2
      have h2 := (hap2.1.block k e.symm).1
      omega
  have Hb2 := hide (below_trans Hb1.out hap2.fresh)
  clear hap2 Hap1
  go_wp2_with fail
  go_loopw [5, 6, 7] (fun b want i wr => ∃ k : Nat, i = .int .i64 (k : Nat) ∧ k ≤ L.length ∧ Pair w wr b want (h ++ ibs (L.take k)) ∧ Below w.heap.size w wr) (fun _ _ i _ => L.length - (intOf i).toNat)
  case atStart => exact ⟨0, rfl, by omega, by simpa [ibs] using Hpair.out, Hb2.out⟩
  case round =>
    obtain ⟨k, rfl, hk, hpair, hbl⟩ := hrel
    have HP := hide hpair
    have Hbl := hide hbl
    clear hpair hbl
    by_cases hkn : k < L.length
    · obtain ⟨t, ht⟩ : ∃ t, L[k]? = some t := ⟨_, List.getElem?_eq_getElem hkn⟩
      have hat := (Hx.out k t ht).kept Hbl.out
      obtain ⟨⟨b, o, rfl, hblk, d0, d1, d2, d3⟩, ⟨sa, sn, sc, hts⟩, hn, hm⟩ := hat
      have hsB := (HB.out k t ht).kept Hbl.out
      have hpart := tot_part L k t ht
      have hil := ibs_len (L.take k) (fun x hx => Hbd.out x (List.mem_of_mem_take hx))
      have hwr := written_any wr u5 (h ++ ibs (L.take k)) t.b t.d t.n t.s t.m HP.out.1.bys hsB hn (by rw [List.length_append]; have := Hb.out; omega)
      have hibl := ib_len t.d t.n t.b hn (by have := hsB.len; omega)
      have Hlen2 : Hid ((h ++ ibs (L.take k)).length + (ib t.d t.n t.b).length ≤ 140737488355328) := by show _ ≤ _; rw [List.length_append]; have := Hb.out; omega
      have Hnew : Hid (h ++ ibs (L.take (k + 1)) = h ++ ibs (L.take k) ++ ib t.d t.n t.b) := by show _ = _; rw [hpart.2, ibs_snoc, List.append_assoc]
      rw [hts] at hwr d2
      have Hwr := hide hwr
      have Hkn := hide hkn
      have hk1 : (k : Int) < L.length := by omega
      have hk3 : (0 : Int) ≤ k := by omega
      clear hwr hpart hil hibl hn hsB hkn
      go_wp2_with fail
      refine Hwr.out.mono ?_
      rintro e w3 ⟨a1, n1, c1, a2, n2, c2, rfl, hb2, hor, hB3⟩
      have Hst := hide (pair_step HP.out Hbl.out hor hB3)
      have Hbm := hide hb2
      have Hbl3 := hide (Hbl.out.trans (hB3.mono Hbl.out.size))
      clear hor hB3 hb2 Hwr
      go_wp2_with (first | (at_builtin; refine wpList_append_mine rfl _ _ rfl w.heap.size _ _ (h ++ ibs (L.take k)) (ib t.d t.n t.b) rfl rfl Hst.out.2.1 Hbm.out Hlen2.out Hbl3.out.size ?_) | fail)
      intro v4 w4 hap4
      rw [← List.append_assoc] at hap4
      have hnx := pair_next Hst.out hap4
      have Hbl4 := hide (Hbl3.out.trans (hap4.below Hbl3.out.size (fun j hj => (Hst.out.2.1.block j hj).1)))
      have Hsame := hide (same_any w4 (.slice a1 n1 c1) v4 _ _ hnx.1.bys hnx.2.1.bys)
      rw [← Hnew.out] at hnx
      have Hnx := hide hnx
      clear hap4 hnx Hst Hbm Hbl3
      go_wp2_with fail
      refine Hsame.out.mono ?_; rintro e wz ⟨rfl, hwz⟩; rw [hwz]; clear hwz wz
      go_wp2_with fail
      go_roundw
      case rel => exact ⟨k + 1, rfl, by have := Hkn.out; omega, Hnx.out, Hbl4.out⟩
      case measure => simp [intOf]; have := Hkn.out; omega
    · obtain rfl : k = L.length := by omega
      have hk1 : ¬ (L.length : Int) < L.length := by omega
      clear hkn
      go_wp2_with fail
      refine (awake_any _).mono ?_; rintro e w9 ⟨rfl, hb9⟩
      have HB9 := hide (Hbl.out.trans (hb9.mono Hbl.out.size))
      clear hb9
      go_wp2_with fail
      go_ret
      exact ⟨rfl, HB9.out⟩
end Go.Proofs.Ytaioniegggfcjaa
