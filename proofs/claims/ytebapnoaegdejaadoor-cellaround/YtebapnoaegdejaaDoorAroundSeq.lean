/-
  What cell.Around hands back goes through: a cell's neighbours within a rectangle, by their directions.
-/
import Derived.Test.YtebapnoaegdejaaDoorCellsSeq
import Derived.Test.YtebapnoaegdejaaDoorDirs
namespace Go.Proofs.YtebapnoaegdejaaDoor
open Go.RowKit Go.Shelf
set_option linter.unusedVariables false
attribute [local go_sem] Oper.semAt_some
/-- Is the neighbour in direction k there, and in the rectangle? -/
def inn (x y p q c d : Int) (k : Nat) : Bool := sB x y k && has p q c d (x + dX k) (y + dY k)
/-- Of the directions below k those whose neighbours are there. -/
def roundN (x y p q c d : Int) (k : Nat) : List (Fin 8) := ((List.finRange 8).take k).filter (fun i => inn x y p q c d i.val)
theorem roundN_zero (x y p q c d : Int) : roundN x y p q c d 0 = [] := rfl
theorem take_fin {k : Nat} (h : k < 8) : (List.finRange 8).take (k + 1) = (List.finRange 8).take k ++ [⟨k, h⟩] := by
  rw [List.take_succ_eq_append_getElem (by simpa using h)]; simp
theorem roundN_yes {x y p q c d : Int} {k : Nat} (hk : k < 8) (h : inn x y p q c d k = true) : roundN x y p q c d (k + 1) = roundN x y p q c d k ++ [⟨k, hk⟩] := by
  simp [roundN, take_fin hk, List.filter_append, h]
theorem roundN_no {x y p q c d : Int} {k : Nat} (hk : k < 8) (h : inn x y p q c d k = false) : roundN x y p q c d (k + 1) = roundN x y p q c d k := by
  simp [roundN, take_fin hk, List.filter_append, h]
theorem roundN_len (x y p q c d : Int) (k : Nat) : (roundN x y p q c d k).length ≤ k := by
  simp only [roundN]
  exact Nat.le_trans (List.length_filter_le _ _) (by simp; omega)
/-- What comes from direction k on. -/
def restN (x y p q c d : Int) (k : Nat) : List (Fin 8) := ((List.finRange 8).drop k).filter (fun i => inn x y p q c d i.val)
theorem roundN_split (x y p q c d : Int) (k : Nat) : roundN x y p q c d 8 = roundN x y p q c d k ++ restN x y p q c d k := by
  rw [roundN, roundN, restN, ← List.filter_append, List.take_append_drop]; rfl
theorem roundN_prefix (x y p q c d : Int) (k : Nat) : roundN x y p q c d k <+: roundN x y p q c d 8 := ⟨_, (roundN_split x y p q c d k).symm⟩
theorem restN_yes {x y p q c d : Int} {k : Nat} (hk : k < 8) (h : inn x y p q c d k = true) : restN x y p q c d k = ⟨k, hk⟩ :: restN x y p q c d (k + 1) := by
  rw [restN, List.drop_eq_getElem_cons (by simpa using hk)]
  simp [restN, h]
theorem restN_no {x y p q c d : Int} {k : Nat} (hk : k < 8) (h : inn x y p q c d k = false) : restN x y p q c d k = restN x y p q c d (k + 1) := by
  rw [restN, List.drop_eq_getElem_cons (by simpa using hk)]
  simp [restN, h]
/-- Every direction that comes from k on is k or more, and is there. -/
theorem restN_mem {x y p q c d : Int} {k : Nat} {t : Fin 8} (h : t ∈ restN x y p q c d k) : k ≤ t.val ∧ inn x y p q c d t.val = true := by
  simp only [restN, List.mem_filter] at h
  refine ⟨?_, h.2⟩
  obtain ⟨i, hi, e⟩ := List.mem_iff_getElem.1 h.1
  simp at e
  rw [← e]; simp
/-- The next one handed out, behind those below k, is t: then t is there, t is at least k, and none between is there. -/
theorem next_is {x y p q c d : Int} {k : Nat} {t : Fin 8} (h : roundN x y p q c d k ++ [t] <+: roundN x y p q c d 8) : ∃ l, restN x y p q c d k = t :: l := by
  rw [roundN_split x y p q c d k, List.prefix_append_right_inj] at h
  obtain ⟨l, hl⟩ := h
  exact ⟨l, hl.symm⟩
abbrev encA (x y : Int) (t : Fin 8) : Array Value := #[.int .i64 (t.val : Int), .agg #[.int .i64 (x + dX t.val), .int .i64 (y + dY t.val)]]
theorem Offs.upto {n₀ : Nat} {w w' : World} (h : Offs w) (hb : Below n₀ w w') (h0 : 0 < n₀) : Offs w' :=
  ⟨Nat.lt_of_lt_of_le h.1 hb.size, fun k hk => ⟨(hb.cell (p := ⟨0, k * 2, none⟩) h0).trans (h.2 k hk).1, (hb.cell (p := ⟨0, k * 2 + 1, none⟩) h0).trans (h.2 k hk).2⟩⟩
theorem four_upto {n₀ C : Nat} {w w' : World} {p q c d : Int} (h : Four w C p q c d) (hb : Below n₀ w w') (hC : C < n₀) : Four w' C p q c d :=
  ⟨⟨(hb.cell (p := ⟨C, 0, none⟩) hC).trans h.1.1, (hb.cell (p := ⟨C, 1, none⟩) hC).trans h.1.2.1, (hb.cell (p := ⟨C, 2, none⟩) hC).trans h.1.2.2.1, (hb.cell (p := ⟨C, 3, none⟩) hC).trans h.1.2.2.2⟩,
   ⟨(hb.frozen (p := ⟨C, 0, none⟩) hC).trans h.2.1.1, (hb.frozen (p := ⟨C, 1, none⟩) hC).trans h.2.1.2.1, (hb.frozen (p := ⟨C, 2, none⟩) hC).trans h.2.1.2.2.1, (hb.frozen (p := ⟨C, 3, none⟩) hC).trans h.2.1.2.2.2⟩, Nat.lt_of_lt_of_le h.2.2 hb.size⟩
set_option maxRecDepth 100000 in
set_option maxHeartbeats 2000000 in
theorem around_stops (n B C n₀ : Nat) (x y p q c d : Int) (w : World) (ho : Offs w) (h0n : 0 < n₀) (hB : B < n₀) (hC : C < n₀) (hn₀ : n₀ ≤ w.heap.size) (hX : Two w B x y) (hF : Four w C p q c d) :
    SeqStopsK Fence.wide n Tryd.prog 45 #[.pointer (some ⟨B, 0, none⟩), .pointer (some ⟨C, 0, none⟩)] (encA x y) (Below n₀) (fun xs => xs = roundN x y p q c d 8) (fun pre => pre <+: roundN x y p q c d 8) 8 w := fun l J Jx W hW hJ hJx hY h0 => by
  refine callsIn_of_wp Tryd.func45 rfl trivial ?_ rfl
  simp only [Tryd.ntmps45, List.size_toArray, List.length_cons, List.length_nil, Nat.reduceAdd, Nat.reduceSub, Array.replicate_succ, Array.replicate_zero, List.push_toArray, List.append_toArray, List.nil_append, List.cons_append]
  have X0 := hX.kept hW
  have F0 := hF.kept hW
  gi_wp2_with fail
  gi_loopw [7] (fun i wr => ∃ k : Nat, k ≤ 8 ∧ i = .int .i64 k ∧ J (roundN x y p q c d k) wr ∧ Below n₀ W wr) (fun i _ => 8 - (intOf i).toNat)
  case atStart => exact ⟨0, Nat.zero_le _, rfl, h0, Below.refl _ _⟩
  case round =>
    obtain ⟨k, hk, rfl, hJk, hBk⟩ := hrel
    have Xr : Two wr B x y := ⟨⟨(hBk.cell (p := ⟨B, 0, none⟩) hB).trans X0.1.1, (hBk.cell (p := ⟨B, 1, none⟩) hB).trans X0.1.2⟩, ⟨(hBk.frozen (p := ⟨B, 0, none⟩) hB).trans X0.2.1.1, (hBk.frozen (p := ⟨B, 1, none⟩) hB).trans X0.2.1.2⟩, Nat.lt_of_lt_of_le X0.2.2 hBk.size⟩
    obtain ⟨⟨x0, x1⟩, _, zx⟩ := id Xr
    by_cases hlt : k < 8
    · have ho1 : Offs wr := (ho.kept hW).upto hBk h0n
      have Fr : Four wr C p q c d := four_upto (hF.kept hW) hBk hC
      have hnr : n₀ ≤ wr.heap.size := Nat.le_trans (Nat.le_trans hn₀ hW.size) hBk.size
      obtain ⟨⟨f0, f1, f2, f3⟩, _, zf⟩ := id Fr
      cases hs : sB x y k
      · gi_wp2_with fail
        refine ⟨trivial, fun h => (by cases h), ?_⟩
        refine (callsIn_wide.2 (step_any x y k _ ho1)).mono ?_
        rintro e w1 ⟨rfl, hb1⟩
        rw [hs, sX_no hs, sY_no hs]
        obtain ⟨⟨g0, g1, g2, g3⟩, _, zg⟩ := Fr.kept hb1
        gi_wp2_with fail
        refine ⟨trivial, ?_⟩
        gi_wp2_with fail
        refine ⟨fun f hf => (by cases hf), ?_⟩
        gi_wp2_with fail
        go_roundw
        case rel => exact ⟨k + 1, by omega, by go_num, by rw [roundN_no hlt (show inn x y p q c d k = false by simp [inn, hs])]; exact abides_below hJ hJk (bt hb1 (box1 _ _)), hBk.trans ((bt hb1 (box1 _ _)).mono hnr)⟩
        case measure => simp [intOf]; omega
      · gi_wp2_with fail
        refine ⟨trivial, fun h => (by cases h), ?_⟩
        refine (callsIn_wide.2 (step_any x y k _ ho1)).mono ?_
        rintro e w1 ⟨rfl, hb1⟩
        rw [hs, sX_yes hs, sY_yes hs, Int.toNat_natCast]
        obtain ⟨⟨g0, g1, g2, g3⟩, _, zg⟩ := Fr.kept hb1
        gi_wp2_with fail
        cases hh : has p q c d (x + dX k) (y + dY k)
        · refine ⟨trivial, fun h => (by cases h), ?_⟩
          refine (callsIn_wide.2 (hasc_is _ hh)).mono ?_
          rintro e w2 ⟨rfl, hb2⟩
          obtain ⟨⟨e0, e1⟩, _⟩ := cells2 hb2
          have hb3 := bt (bt hb1 (box1 _ _)) hb2
          clear hb2
          gi_wp2_with fail
          refine ⟨fun f hf => (by cases hf), ?_⟩
          gi_wp2_with fail
          go_roundw
          case rel => exact ⟨k + 1, by omega, by go_num, by rw [roundN_no hlt (show inn x y p q c d k = false by simp [inn, hs, hh])]; exact abides_below hJ hJk hb3, hBk.trans (hb3.mono hnr)⟩
          case measure => simp [intOf]; omega
        · refine ⟨trivial, fun h => (by cases h), ?_⟩
          refine (callsIn_wide.2 (hasc_is _ hh)).mono ?_
          rintro e w2 ⟨rfl, hb2⟩
          obtain ⟨⟨e0, e1⟩, _⟩ := cells2 hb2
          have hb3 := bt (bt hb1 (box1 _ _)) hb2
          clear hb2
          have hyes : inn x y p q c d k = true := by simp [inn, hs, hh]
          obtain ⟨fn, tmps, assign, body, hy, hR⟩ := hY (roundN x y p q c d k) ⟨k, hlt⟩ w2 (abides_below hJ hJk hb3) (Nat.lt_of_le_of_lt (roundN_len _ _ _ _ _ _ _) hlt)
          dsimp only [encA] at hy
          gi_wp2_with fail
          refine ⟨fun h => (by cases h), ?_⟩
          refine hR.mono ?_
          rintro e W3 (⟨rfl, hJ3, hk3⟩ | ⟨rfl, hJx3⟩)
          · gi_wp2_with fail
            go_roundw
            case rel => exact ⟨k + 1, by omega, by go_num, by rw [roundN_yes hlt hyes]; exact hJ3, (hBk.trans (hb3.mono hnr)).trans hk3⟩
            case measure => simp [intOf]; omega
          · gi_wp2_with fail
            refine bodyPost_ret (results_none rfl _ _ _) rfl ?_
            refine ⟨⟨_, rfl⟩, .inr ⟨_, ?_, hJx3⟩⟩
            rw [← roundN_yes hlt hyes]
            exact roundN_prefix x y p q c d _
    · have hk8 : k = 8 := by omega
      subst hk8
      gi_wp2_with fail
      go_end0
      exact ⟨⟨_, rfl⟩, .inl ⟨_, rfl, hJk⟩⟩
end Go.Proofs.YtebapnoaegdejaaDoor
