/-
  A reader's Number and Bytes; Read.
-/
import Derived.Test.YtaioniegggfcjaaReads3
namespace Go.Proofs.Ytaioniegggfcjaa
open Go.RowKit
set_option linter.unusedVariables false
/-- What turns another block leaves a reader as it is. -/
theorem Rd.keptBy {w w' : World} {g : Nat} {l : List Nat} {k e : Nat} {row : Option Nat} (h : Rd w g l k e) (hg : w.grownBy w' row) (hne : row = none) : Rd w' g l k e := by
  subst hne
  obtain ⟨⟨h1, h9⟩, h2, h3, h4, h5, h6, sv, h7, h8⟩ := h
  have hb : w'.heap[g]? = w.heap[g]? := hg.block g h1 (by simp)
  exact ⟨⟨Nat.lt_of_lt_of_le h1 hg.size, fun i hi => by rw [World.cell?_of_block hb]; exact h9 i hi⟩, h2, by rw [World.frozen?_of_block hb]; exact h3, by rw [World.frozen?_of_block hb]; exact h4, by rw [World.cell?_of_block hb]; exact h5, by rw [World.cell?_of_block hb]; exact h6, sv, by rw [World.cell?_of_block hb]; exact h7, h8.keptBy hg (by simp)⟩
/-- A reader's turning leaves another reader as it is. -/
theorem Rd.apart {w w' : World} {g q : Nat} {l l' : List Nat} {k e k' e' : Nat} (h : Rd w g l k e) (hq : Rd w q l' k' e') (hg : w.grownBy w' (some q)) (hne : g ≠ q) : Rd w' g l k e := by
  obtain ⟨⟨h1, h9⟩, h2, h3, h4, h5, h6, sv, h7, h8⟩ := h
  obtain ⟨⟨q1, q9⟩, q2, q3, q4, q5, q6, qv, q7, q8⟩ := hq
  have hb : w'.heap[g]? = w.heap[g]? := hg.block g h1 (by simp; exact hne)
  refine ⟨⟨Nat.lt_of_lt_of_le h1 hg.size, fun i hi => by rw [World.cell?_of_block hb]; exact h9 i hi⟩, h2, by rw [World.frozen?_of_block hb]; exact h3, by rw [World.frozen?_of_block hb]; exact h4, by rw [World.cell?_of_block hb]; exact h5, by rw [World.cell?_of_block hb]; exact h6, sv, by rw [World.cell?_of_block hb]; exact h7, ?_⟩
  obtain ⟨hs, hl, a, cap, hv, hcap, ha, hr⟩ := h8
  refine ⟨hs, hl, a, cap, hv, hcap, ha, fun hn => ?_⟩
  obtain ⟨b, o, e1, e2, e3⟩ := hr hn
  refine ⟨b, o, e1, Nat.lt_of_lt_of_le e2 hg.size, fun i hi => hg.cell (e3 i hi) ?_⟩
  intro hbq
  injection hbq with hbq
  have hc := e3 i hi
  simp only at hbq
  rw [hbq] at hc
  obtain ⟨qa, qc, rfl, _, _⟩ := q8.sl
  match o + i, hc with
  | 0, hc => rw [q7] at hc; cases hc
  | 1, hc => rw [q5] at hc; cases hc
  | 2, hc => rw [q6] at hc; cases hc
  | n + 3, hc => rw [q9 (n + 3) (by omega)] at hc; cases hc
theorem cnt_facts {l : List Nat} (hs : Small l) (most : Int) (hm : most ≤ 9223372036854775807) : ((cnt l most).2.2 = 0 ∧ (cnt l most).2.1 ≤ l.length ∧ ((cnt l most).1 : Int) ≤ most) ∨ ((cnt l most).2.2 ≠ 0 ∧ (cnt l most).2.1 = 0 ∧ (cnt l most).1 = 0) := by
  cases hd : dec 0 l with
  | none => rw [cnt_none most hd]; right; simp
  | some p =>
    obtain ⟨n, k⟩ := p
    rw [cnt_some most hd]
    split
    · right; simp
    · left; exact ⟨rfl, (dec_form l 0 hs n k hd).1, by simp; omega⟩
def noN (l : List Nat) (k e : Nat) (most : Int) : Nat := (cnt (restOf l k e) most).1
def noK (l : List Nat) (k e : Nat) (most : Int) : Nat := k + (cnt (restOf l k e) most).2.1
def noE (l : List Nat) (k e : Nat) (most : Int) : Nat := if (cnt (restOf l k e) most).2.2 = 0 then e else first e (cnt (restOf l k e) most).2.2
theorem number_nil (w : World) (most : Int) (hm : -9223372036854775808 ≤ most ∧ most ≤ 9223372036854775807) : Calls Try.prog 24 #[.pointer none, .int .i64 most] w fun x w' => x = .returned (.int .i64 0) ∧ w' = w := by
  have hc : cnt [] most = (0, 0, 5) := cnt_none most rfl
  have Hc := hide (count_any w _ [] most (Bys.nil w) hm)
  rw [hc] at Hc
  clear hc
  go_enter Try.func24, Try.ntmps24
  go_wp2_with fail
  refine (rest_nil _).mono ?_; rintro e wz ⟨rfl, hwz⟩; rw [hwz]; clear hwz wz
  go_wp2_with fail
  refine Hc.out.mono ?_; rintro e wz ⟨rfl, hwz⟩; rw [hwz]; clear hwz wz
  go_wp2_with fail
  refine (fail_nil _ _).mono ?_; rintro e wz ⟨rfl, hwz⟩; rw [hwz]; clear hwz wz
  go_wp2_with fail
  go_ret
  exact ⟨rfl, rfl⟩
theorem bytes_nil (w : World) (most : Int) (hm : -9223372036854775808 ≤ most ∧ most ≤ 9223372036854775807) : Calls Try.prog 17 #[.pointer none, .int .i64 most] w fun x w' => x = .returned (.slice none 0 0) ∧ w' = w := by
  have hc : cnt [] most = (0, 0, 5) := cnt_none most rfl
  have Hc := hide (count_any w _ [] most (Bys.nil w) hm)
  rw [hc] at Hc
  clear hc
  go_enter Try.func17, Try.ntmps17
  go_wp2_with fail
  refine (rest_nil _).mono ?_; rintro e wz ⟨rfl, hwz⟩; rw [hwz]; clear hwz wz
  go_wp2_with fail
  refine Hc.out.mono ?_; rintro e wz ⟨rfl, hwz⟩; rw [hwz]; clear hwz wz
  go_wp2_with fail
  refine (fail_nil _ _).mono ?_; rintro e wz ⟨rfl, hwz⟩; rw [hwz]; clear hwz wz
  go_wp2_with fail
  go_ret
  exact ⟨rfl, rfl⟩
set_option maxHeartbeats 400000 in
theorem numb_any (w : World) (g : Nat) (l : List Nat) (k e : Nat) (most : Int) (h : Rd w g l k e) (hm : -9223372036854775808 ≤ most ∧ most ≤ 9223372036854775807) :
    Calls Try.prog 24 #[.pointer (some ⟨g, 0, none⟩), .int .i64 most] w fun x w' => x = .returned (.int .i64 (noN l k e most : Nat)) ∧ Rd w' g l (noK l k e most) (noE l k e most) ∧ w.grownBy w' (some g) := by
  have hB := h.bytes
  have hlen2 := rest_len l k e
  have hf := cnt_facts (small_rest hB.1 k e) most hm.2
  have H := hide h
  clear h
  go_enter Try.func24, Try.ntmps24
  go_wp2_with fail
  refine (rest_any _ _ _ _ _ H.out).mono ?_
  rintro x w1 ⟨v, rfl, hv, hs⟩
  have hr1 := H.out.same hs
  have hnum := count_any w1 v _ most hv hm
  have Hs := hide hs
  clear hs
  go_wp2_with fail
  refine hnum.mono ?_; rintro e wz ⟨rfl, hwz⟩; rw [hwz]; clear hwz wz hnum hv
  obtain ⟨N, hN⟩ : ∃ N, N = (cnt (restOf l k e) most).1 := ⟨_, rfl⟩
  obtain ⟨K, hK⟩ : ∃ K, K = (cnt (restOf l k e) most).2.1 := ⟨_, rfl⟩
  obtain ⟨E, hE⟩ : ∃ E, E = (cnt (restOf l k e) most).2.2 := ⟨_, rfl⟩
  have Hsp : Hid (noN l k e most = N ∧ noK l k e most = k + K ∧ noE l k e most = if E = 0 then e else first e E) := by show _ ∧ _ ∧ _; rw [hN, hK, hE]; exact ⟨rfl, rfl, rfl⟩
  rw [← hN, ← hK, ← hE] at hf
  rw [← hN, ← hK, ← hE]
  clear hN hK hE
  rcases hf with ⟨h1, h2, h3⟩ | ⟨h1, h2, h3⟩
  · subst h1
    have hr3 := hr1.place (k + K) (by omega)
    rw [show (((k + K : Nat) : Int)) = (k : Int) + K by omega] at hr3
    have Hr3 := hide hr3
    obtain ⟨c1, c2, c3, c4⟩ := hr1.cells
    have hK0 : (0 : Int) ≤ K := by omega
    have hK1 : (K : Int) ≤ 140737488355328 := by omega
    clear hr3 hr1 h2 h3 hlen2
    go_wp2_with fail
    go_ret
    refine ⟨ret_i (by rw [Hsp.out.1]), ?_, grown_trans (Hs.out.grown (some g)) (grown_setCell _ _ _ _)⟩
    rw [Hsp.out.2.1, Hsp.out.2.2]; exact Hr3.out
  · subst h2 h3
    have hz : ((E : Int) != 0) = true := by simp; omega
    have Hf := hide (fail_any w1 g l k e E hr1)
    have HE := hide h1
    clear hr1 hlen2 h1
    go_wp2_with fail
    refine Hf.out.mono ?_; rintro x w2 ⟨rfl, hr2, hg2⟩
    have Hr2 := hide hr2
    have Hg2 := hide (grown_trans (Hs.out.grown (some g)) hg2)
    clear hr2 hg2
    go_wp2_with fail
    go_ret
    refine ⟨ret_i (by rw [Hsp.out.1]; rfl), ?_, Hg2.out⟩
    rw [Hsp.out.2.1, Hsp.out.2.2, if_neg HE.out]; exact Hr2.out
def byW (l : List Nat) (k e : Nat) (most : Int) : Nat :=
  if (cnt (restOf l k e) most).2.2 = 0 ∧ (restOf l k e).length - (cnt (restOf l k e) most).2.1 < (cnt (restOf l k e) most).1 then 5 else (cnt (restOf l k e) most).2.2
def byL (l : List Nat) (k e : Nat) (most : Int) : List Nat := if byW l k e most = 0 then ((restOf l k e).drop (cnt (restOf l k e) most).2.1).take (cnt (restOf l k e) most).1 else []
def byK (l : List Nat) (k e : Nat) (most : Int) : Nat := if byW l k e most = 0 then k + ((cnt (restOf l k e) most).2.1 + (cnt (restOf l k e) most).1) else k
def byE (l : List Nat) (k e : Nat) (most : Int) : Nat := if byW l k e most = 0 then e else first e (byW l k e most)
set_option maxHeartbeats 400000 in
theorem bytes_any (w : World) (g : Nat) (l : List Nat) (k e : Nat) (most : Int) (h : Rd w g l k e) (hm : -9223372036854775808 ≤ most ∧ most ≤ 9223372036854775807) :
    Calls Try.prog 17 #[.pointer (some ⟨g, 0, none⟩), .int .i64 most] w fun x w' => ∃ v, x = .returned v ∧ Bys w' v (byL l k e most) ∧ Rd w' g l (byK l k e most) (byE l k e most) ∧ w.grownBy w' (some g) := by
  have hB := h.bytes
  have hlen2 := rest_len l k e
  have hf := cnt_facts (small_rest hB.1 k e) most hm.2
  have H := hide h
  clear h
  go_enter Try.func17, Try.ntmps17
  go_wp2_with fail
  refine (rest_any _ _ _ _ _ H.out).mono ?_
  rintro x w1 ⟨v, rfl, hv, hs⟩
  have hr1 := H.out.same hs
  have hnum := count_any w1 v _ most hv hm
  have Hs := hide hs
  clear hs
  go_wp2_with fail
  refine hnum.mono ?_; rintro e wz ⟨rfl, hwz⟩; rw [hwz]; clear hwz wz hnum
  obtain ⟨R, hR⟩ : ∃ R, R = restOf l k e := ⟨_, rfl⟩
  obtain ⟨N, hN⟩ : ∃ N, N = (cnt (restOf l k e) most).1 := ⟨_, rfl⟩
  obtain ⟨K, hK⟩ : ∃ K, K = (cnt (restOf l k e) most).2.1 := ⟨_, rfl⟩
  obtain ⟨E, hE⟩ : ∃ E, E = (cnt (restOf l k e) most).2.2 := ⟨_, rfl⟩
  have hW : byW l k e most = if E = 0 ∧ R.length - K < N then 5 else E := by rw [hN, hK, hE, hR]; rfl
  have hL : byL l k e most = if byW l k e most = 0 then (R.drop K).take N else [] := by rw [hN, hK, hR]; rfl
  have hKK : byK l k e most = if byW l k e most = 0 then k + (K + N) else k := by rw [hN, hK]; rfl
  rw [← hN, ← hK, ← hE, ← hR] at hf
  rw [← hR] at hv hlen2
  rw [← hN, ← hK, ← hE]
  clear hN hK hE hR
  obtain ⟨a, cap, rfl, hcap, hcell⟩ := hv.sl
  by_cases hbad : E = 0 ∧ R.length - K < N
  · obtain ⟨rfl, hb2⟩ := hbad
    obtain ⟨_, h2, h3⟩ : 0 = 0 ∧ K ≤ R.length ∧ (N : Int) ≤ most := by
      rcases hf with h | h
      · exact h
      · exact absurd rfl h.1
    rw [if_pos ⟨rfl, hb2⟩] at hW
    rw [hW, if_neg (by omega)] at hL hKK
    have hEE : byE l k e most = first e 5 := by unfold byE; rw [hW, if_neg (by omega)]
    have HL := hide hL
    have HK := hide hKK
    have HEE := hide hEE
    have hz : (R.length : Int) - K < N := by omega
    have hz1 : (R.length : Int) ≤ 140737488355328 := by have := hv.len; omega
    have hz2 : (K : Int) ≤ R.length := by omega
    have hz3 : (0 : Int) ≤ K := by omega
    have Hf := hide (fail_any w1 g l k e 5 hr1)
    clear hf hL hKK hEE hW hcell hv hr1 hlen2 hb2 h2 h3
    go_wp2_with fail
    refine Hf.out.mono ?_; rintro x w2 ⟨rfl, hr2, hg2⟩
    have Hr2 := hide hr2
    have Hg2 := hide (grown_trans (Hs.out.grown (some g)) hg2)
    clear hr2 hg2
    go_wp2_with fail
    go_ret
    refine ⟨_, rfl, by rw [HL.out]; exact Bys.nil _, ?_, Hg2.out⟩
    rw [HK.out, HEE.out]; exact Hr2.out
  · rw [if_neg hbad] at hW
    by_cases hE0 : E = 0
    · subst hE0
      obtain ⟨_, h2, h3⟩ : 0 = 0 ∧ K ≤ R.length ∧ (N : Int) ≤ most := by
        rcases hf with h | h
        · exact h
        · exact absurd rfl h.1
      have hb2 : N ≤ R.length - K := by omega
      rw [hW, if_pos rfl] at hL hKK
      have hEE : byE l k e most = e := by unfold byE; rw [hW, if_pos rfl]
      have HL := hide hL
      have HK := hide hKK
      have HEE := hide hEE
      have hz : ¬ (R.length : Int) - K < N := by omega
      have hz1 : (R.length : Int) ≤ 140737488355328 := by have := hv.len; omega
      have hz2 : (K : Int) ≤ R.length := by omega
      have hz3 : (0 : Int) ≤ K := by omega
      have hz4 : (0 : Int) ≤ N := by omega
      have hz5 : (K : Int) + N ≤ R.length := by omega
      have hz6 : (R.length : Int) ≤ cap := by omega
      have hz7 : K ≤ cap := by omega
      have hr3 := hr1.place (k + (K + N)) (by omega)
      rw [show (((k + (K + N) : Nat) : Int)) = (k : Int) + ((K : Int) + N) by omega] at hr3
      have Hr3 := hide hr3
      obtain ⟨c1, c2, c3, c4⟩ := hr1.cells
      have hv2 := hv.stored c1 (.int .i64 ((k : Int) + ((K : Int) + N)))
      have hlenD : (R.drop K).length = R.length - K := List.length_drop
      have Hv2 := hide hv2
      have Hh : Hid (N ≤ (R.drop K).length ∧ ((R.drop K).take N).length ≤ 140737488355328 ∧ (R.drop K).length = R.length - K ∧ K ≤ R.length) := by
        have := hv.len
        show _ ∧ _ ∧ _ ∧ _
        rw [List.length_take]
        omega
      clear hf hL hKK hEE hW hcell hv hr1 hlen2 hb2 h2 h3 hr3 hv2 hbad hlenD
      have Hlen : Hid (([] : List Nat).length + ((R.drop K).take N).length ≤ 140737488355328) := by show _ ≤ _; have := Hh.out.2.1; simp only [List.length_nil, Nat.zero_add]; exact this
      by_cases hcK : cap = K
      · have hfr := ((Hv2.out.from Hh.out.2.2.2).1 hcK)
        rw [← Hh.out.2.2.1] at hfr
        have Hfr := hide (hfr.upto Hh.out.1)
        clear hfr
        go_wp2_with (first | (at_builtin; refine wpList_append_mine rfl _ _ rfl _ _ _ [] ((R.drop K).take N) rfl rfl (Mine.nil _ _) ?hb1 Hlen.out (Nat.le_refl _) ?_) | fail)
        case hb1 => (show Bys _ (.slice _ (K + N - K) _) _; rw [Nat.add_sub_cancel_left]; exact Hfr.out)
        intro v' w' hap
        have Hap := hide hap
        clear hap
        go_wp2_with fail
        go_ret
        have hk := Hr3.out.keptBy Hap.out.2.1 (by simp [Value.ownBlock])
        refine ⟨v', rfl, by rw [HL.out]; exact Hap.out.1.bys, by rw [HK.out, HEE.out]; exact hk, grown_trans (grown_trans (Hs.out.grown (some g)) (grown_setCell _ _ _ _)) (grown_none Hap.out.2.1)⟩
      · have hfr := ((Hv2.out.from Hh.out.2.2.2).2 hcK)
        rw [← Hh.out.2.2.1] at hfr
        have Hfr := hide (hfr.upto Hh.out.1)
        clear hfr
        go_wp2_with (first | (at_builtin; refine wpList_append_mine rfl _ _ rfl _ _ _ [] ((R.drop K).take N) rfl rfl (Mine.nil _ _) ?hb2 Hlen.out (Nat.le_refl _) ?_) | fail)
        case hb2 => (show Bys _ (.slice _ (K + N - K) _) _; rw [Nat.add_sub_cancel_left]; exact Hfr.out)
        intro v' w' hap
        have Hap := hide hap
        clear hap
        go_wp2_with fail
        go_ret
        have hk := Hr3.out.keptBy Hap.out.2.1 (by simp [Value.ownBlock])
        refine ⟨v', rfl, by rw [HL.out]; exact Hap.out.1.bys, by rw [HK.out, HEE.out]; exact hk, grown_trans (grown_trans (Hs.out.grown (some g)) (grown_setCell _ _ _ _)) (grown_none Hap.out.2.1)⟩
    · have h2 : K = 0 ∧ N = 0 := by
        rcases hf with h | h
        · exact absurd h.1 hE0
        · exact h.2
      obtain ⟨rfl, rfl⟩ := h2
      rw [hW, if_neg hE0] at hL hKK
      have hEE : byE l k e most = first e E := by unfold byE; rw [hW, if_neg hE0]
      have HL := hide hL
      have HK := hide hKK
      have HEE := hide hEE
      have hz : ((E : Int) == 0) = false := by simp; omega
      have hz2 : ((E : Int) != 0) = true := by simp; omega
      have Hf := hide (fail_any w1 g l k e E hr1)
      clear hf hL hKK hEE hW hcell hv hr1 hlen2 hbad hE0
      go_wp2_with fail
      refine Hf.out.mono ?_; rintro x w2 ⟨rfl, hr2, hg2⟩
      have Hr2 := hide hr2
      have Hg2 := hide (grown_trans (Hs.out.grown (some g)) hg2)
      clear hr2 hg2
      go_wp2_with fail
      go_ret
      refine ⟨_, rfl, by rw [HL.out]; exact Bys.nil _, ?_, Hg2.out⟩
      rw [HK.out, HEE.out]; exact Hr2.out
theorem rd_built (w : World) (v : Value) (l : List Nat) (h : Bys w v l) (T : TypeId) : Rd (w.alloc (.cells #[v, .int .i64 0, .int .i64 0] T)) w.heap.size l 0 0 :=
  ⟨⟨by simp, fun i hi => by simp only [World.cell?, heap_alloc_new]; simp; omega⟩, by omega, by go_simp, by go_simp, by go_simp, by go_simp, v, by go_simp, h.alloc _⟩
/-- A reader of bytes: it lies in a block of its own, and so do its bytes. -/
theorem read_any (w : World) (v : Value) (l : List Nat) (hv : Bys w v l) :
    Calls Try.prog 11 #[v] w fun x w' => ∃ g, x = .returned (.pointer (some ⟨g, 0, none⟩)) ∧ w.heap.size ≤ g ∧ Rd w' g l 0 0 ∧ Below w.heap.size w w' := by
  have Hv := hide hv
  have Hlen : Hid (([] : List Nat).length + l.length ≤ 140737488355328) := by show _ ≤ _; have := hv.len; simp only [List.length_nil, Nat.zero_add]; exact this
  clear hv
  go_enter Try.func11, Try.ntmps11
  go_wp2_with (first | (at_builtin; refine wpList_append_mine rfl _ _ rfl _ _ _ [] l rfl rfl (Mine.nil _ _) Hv.out Hlen.out (Nat.le_refl _) ?_) | fail)
  intro v' w' hap
  obtain ⟨a, cap, rfl, _, _⟩ := hap.1.bys.sl
  have Hap := hide hap
  clear hap
  go_wp2_with fail
  go_ret
  refine ⟨w'.heap.size, rfl, Hap.out.fresh.size, rd_built w' _ l Hap.out.1.bys 60, Hap.out.fresh.trans ((Below.refl _ _).alloc Hap.out.fresh.size _)⟩
end Go.Proofs.Ytaioniegggfcjaa
