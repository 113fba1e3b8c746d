/-
  What cell.Around hands back goes through: a cell's neighbours within a rectangle, by their directions. Around as an iterator that asks no more of a round than that its two boxes and the table lie as they lay. Around as an iterator whose items are the neighbours that are there: what is asked of a round holds for these alone. A region that draws its order, under a fence: what the walk outside gives is enough. One step on from a cell, in all directions.
-/
import Derived.Test.YtggaobcdogbjhaaGreatDoorCellsSeq
import Derived.Test.YtggaobcdogbjhaaGreatDoorSides
import Derived.Test.YtggaobcdogbjhaaGreatDoorHas
import Derived.Test.YtggaobcdogbjhaaGreatDoorLatIn
import Derived.Deep.RegionHeld
import Derived.RangeFuncCalls
import Derived.Test.YtggaobcdogbjhaaGreatDoorStand
import Derived.Test.YtggaobcdogbjhaaGreatDoorHeapAll
import Derived.Test.YtggaobcdogbjhaaGreatDoorSrAll
import Derived.RangeFuncKeeps
namespace Go.Proofs.YtggaobcdogbjhaaGreatDoor
open Go.RowKit Go.Shelf
set_option linter.unusedVariables false
attribute [local go_sem] Oper.semAt_some
/-- Is the neighbour in direction k there, and in the rectangle? -/
def inn (x y p q c d : Int) (k : Nat) : Bool := sB x y k && has p q c d (x + dX k) (y + dY k)
/-- Of the directions below k those whose neighbours are there. -/
def roundN (x y p q c d : Int) (k : Nat) : List (Fin 8) := ((List.finRange 8).take k).filter (fun i => inn x y p q c d i.val)
theorem roundN_zero (x y p q c d : Int) : roundN x y p q c d 0 = [] := rfl
theorem take_fin {k : Nat} (h : k < 8) : (List.finRange 8).take (k + 1) = (List.finRange 8).take k ++ [⟨k, h⟩] := by
  rw [List.take_succ_eq_append_getElem (by simpa using h)]; simp
theorem roundN_yes {x y p q c d : Int} {k : Nat} (hk : k < 8) (h : inn x y p q c d k = true) : roundN x y p q c d (k + 1) = roundN x y p q c d k ++ [⟨k, hk⟩] := by
  simp [roundN, take_fin hk, List.filter_append, h]
theorem roundN_no {x y p q c d : Int} {k : Nat} (hk : k < 8) (h : inn x y p q c d k = false) : roundN x y p q c d (k + 1) = roundN x y p q c d k := by
  simp [roundN, take_fin hk, List.filter_append, h]
theorem roundN_len (x y p q c d : Int) (k : Nat) : (roundN x y p q c d k).length ≤ k := by
  simp only [roundN]
  exact Nat.le_trans (List.length_filter_le _ _) (by simp; omega)
/-- What comes from direction k on. -/
def restN (x y p q c d : Int) (k : Nat) : List (Fin 8) := ((List.finRange 8).drop k).filter (fun i => inn x y p q c d i.val)
theorem roundN_split (x y p q c d : Int) (k : Nat) : roundN x y p q c d 8 = roundN x y p q c d k ++ restN x y p q c d k := by
  rw [roundN, roundN, restN, ← List.filter_append, List.take_append_drop]; rfl
theorem roundN_prefix (x y p q c d : Int) (k : Nat) : roundN x y p q c d k <+: roundN x y p q c d 8 := ⟨_, (roundN_split x y p q c d k).symm⟩
theorem restN_yes {x y p q c d : Int} {k : Nat} (hk : k < 8) (h : inn x y p q c d k = true) : restN x y p q c d k = ⟨k, hk⟩ :: restN x y p q c d (k + 1) := by
  rw [restN, List.drop_eq_getElem_cons (by simpa using hk)]
  simp [restN, h]
theorem restN_no {x y p q c d : Int} {k : Nat} (hk : k < 8) (h : inn x y p q c d k = false) : restN x y p q c d k = restN x y p q c d (k + 1) := by
  rw [restN, List.drop_eq_getElem_cons (by simpa using hk)]
  simp [restN, h]
/-- Every direction that comes from k on is k or more, and is there. -/
theorem restN_mem {x y p q c d : Int} {k : Nat} {t : Fin 8} (h : t ∈ restN x y p q c d k) : k ≤ t.val ∧ inn x y p q c d t.val = true := by
  simp only [restN, List.mem_filter] at h
  refine ⟨?_, h.2⟩
  obtain ⟨i, hi, e⟩ := List.mem_iff_getElem.1 h.1
  simp at e
  rw [← e]; simp
/-- The next one handed out, behind those below k, is t: then t is there, t is at least k, and none between is there. -/
theorem next_is {x y p q c d : Int} {k : Nat} {t : Fin 8} (h : roundN x y p q c d k ++ [t] <+: roundN x y p q c d 8) : ∃ l, restN x y p q c d k = t :: l := by
  rw [roundN_split x y p q c d k, List.prefix_append_right_inj] at h
  obtain ⟨l, hl⟩ := h
  exact ⟨l, hl.symm⟩
abbrev encA (x y : Int) (t : Fin 8) : Array Value := #[.int .i64 (t.val : Int), .agg #[.int .i64 (x + dX t.val), .int .i64 (y + dY t.val)]]
theorem Offs.upto {n₀ : Nat} {w w' : World} (h : Offs w) (hb : Below n₀ w w') (h0 : 1 < n₀) : Offs w' :=
  ⟨Nat.lt_of_lt_of_le h.1 hb.size, fun k hk => ⟨(hb.cell (p := ⟨1, k * 2, none⟩) h0).trans (h.2 k hk).1, (hb.cell (p := ⟨1, k * 2 + 1, none⟩) h0).trans (h.2 k hk).2⟩⟩
theorem four_upto {n₀ C : Nat} {w w' : World} {p q c d : Int} (h : Four w C p q c d) (hb : Below n₀ w w') (hC : C < n₀) : Four w' C p q c d :=
  ⟨⟨(hb.cell (p := ⟨C, 0, none⟩) hC).trans h.1.1, (hb.cell (p := ⟨C, 1, none⟩) hC).trans h.1.2.1, (hb.cell (p := ⟨C, 2, none⟩) hC).trans h.1.2.2.1, (hb.cell (p := ⟨C, 3, none⟩) hC).trans h.1.2.2.2⟩,
   ⟨(hb.frozen (p := ⟨C, 0, none⟩) hC).trans h.2.1.1, (hb.frozen (p := ⟨C, 1, none⟩) hC).trans h.2.1.2.1, (hb.frozen (p := ⟨C, 2, none⟩) hC).trans h.2.1.2.2.1, (hb.frozen (p := ⟨C, 3, none⟩) hC).trans h.2.1.2.2.2⟩, Nat.lt_of_lt_of_le h.2.2 hb.size⟩
set_option maxRecDepth 100000 in
set_option maxHeartbeats 2000000 in
theorem around_stops (n B C n₀ : Nat) (x y p q c d : Int) (w : World) (ho : Offs w) (h0n : 1 < n₀) (hB : B < n₀) (hC : C < n₀) (hn₀ : n₀ ≤ w.heap.size) (hX : Two w B x y) (hF : Four w C p q c d) :
    SeqStopsK Fence.wide n Tryz.prog 108 #[.pointer (some ⟨B, 0, none⟩), .pointer (some ⟨C, 0, none⟩)] (encA x y) (Below n₀) (fun xs => xs = roundN x y p q c d 8) (fun pre => pre <+: roundN x y p q c d 8) 8 w := fun l J Jx W hW hJ hJx hY h0 => by
  refine callsIn_of_wp Tryz.func108 rfl trivial ?_ rfl
  simp only [Tryz.ntmps108, List.size_toArray, List.length_cons, List.length_nil, Nat.reduceAdd, Nat.reduceSub, Array.replicate_succ, Array.replicate_zero, List.push_toArray, List.append_toArray, List.nil_append, List.cons_append]
  have X0 := hX.kept hW
  have F0 := hF.kept hW
  gi_wp2_with fail
  gi_loopw [7] (fun i wr => ∃ k : Nat, k ≤ 8 ∧ i = .int .i64 k ∧ J (roundN x y p q c d k) wr ∧ Below n₀ W wr) (fun i _ => 8 - (intOf i).toNat)
  case atStart => exact ⟨0, Nat.zero_le _, rfl, h0, Below.refl _ _⟩
  case round =>
    obtain ⟨k, hk, rfl, hJk, hBk⟩ := hrel
    have Xr : Two wr B x y := ⟨⟨(hBk.cell (p := ⟨B, 0, none⟩) hB).trans X0.1.1, (hBk.cell (p := ⟨B, 1, none⟩) hB).trans X0.1.2⟩, ⟨(hBk.frozen (p := ⟨B, 0, none⟩) hB).trans X0.2.1.1, (hBk.frozen (p := ⟨B, 1, none⟩) hB).trans X0.2.1.2⟩, Nat.lt_of_lt_of_le X0.2.2 hBk.size⟩
    obtain ⟨⟨x0, x1⟩, _, zx⟩ := id Xr
    by_cases hlt : k < 8
    · have ho1 : Offs wr := (ho.kept hW).upto hBk h0n
      have Fr : Four wr C p q c d := four_upto (hF.kept hW) hBk hC
      have hnr : n₀ ≤ wr.heap.size := Nat.le_trans (Nat.le_trans hn₀ hW.size) hBk.size
      obtain ⟨⟨f0, f1, f2, f3⟩, _, zf⟩ := id Fr
      cases hs : sB x y k
      · gi_wp2_with fail
        refine ⟨trivial, fun h => (by cases h), ?_⟩
        refine (callsIn_wide.2 (step_any x y k _ ho1)).mono ?_
        rintro e w1 ⟨rfl, hb1⟩
        rw [hs, sX_no hs, sY_no hs]
        obtain ⟨⟨g0, g1, g2, g3⟩, _, zg⟩ := Fr.kept hb1
        gi_wp2_with fail
        refine ⟨trivial, ?_⟩
        gi_wp2_with fail
        refine ⟨fun f hf => (by cases hf), ?_⟩
        gi_wp2_with fail
        go_roundw
        case rel => exact ⟨k + 1, by omega, by go_num, by rw [roundN_no hlt (show inn x y p q c d k = false by simp [inn, hs])]; exact abides_below hJ hJk (bt hb1 (box1 _ _)), hBk.trans ((bt hb1 (box1 _ _)).mono hnr)⟩
        case measure => simp [intOf]; omega
      · gi_wp2_with fail
        refine ⟨trivial, fun h => (by cases h), ?_⟩
        refine (callsIn_wide.2 (step_any x y k _ ho1)).mono ?_
        rintro e w1 ⟨rfl, hb1⟩
        rw [hs, sX_yes hs, sY_yes hs, Int.toNat_natCast]
        obtain ⟨⟨g0, g1, g2, g3⟩, _, zg⟩ := Fr.kept hb1
        gi_wp2_with fail
        cases hh : has p q c d (x + dX k) (y + dY k)
        · refine ⟨trivial, fun h => (by cases h), ?_⟩
          refine (callsIn_wide.2 (hasc_is _ hh)).mono ?_
          rintro e w2 ⟨rfl, hb2⟩
          obtain ⟨⟨e0, e1⟩, _⟩ := cells2 hb2
          have hb3 := bt (bt hb1 (box1 _ _)) hb2
          clear hb2
          gi_wp2_with fail
          refine ⟨fun f hf => (by cases hf), ?_⟩
          gi_wp2_with fail
          go_roundw
          case rel => exact ⟨k + 1, by omega, by go_num, by rw [roundN_no hlt (show inn x y p q c d k = false by simp [inn, hs, hh])]; exact abides_below hJ hJk hb3, hBk.trans (hb3.mono hnr)⟩
          case measure => simp [intOf]; omega
        · refine ⟨trivial, fun h => (by cases h), ?_⟩
          refine (callsIn_wide.2 (hasc_is _ hh)).mono ?_
          rintro e w2 ⟨rfl, hb2⟩
          obtain ⟨⟨e0, e1⟩, _⟩ := cells2 hb2
          have hb3 := bt (bt hb1 (box1 _ _)) hb2
          clear hb2
          have hyes : inn x y p q c d k = true := by simp [inn, hs, hh]
          obtain ⟨fn, tmps, assign, body, hy, hR⟩ := hY (roundN x y p q c d k) ⟨k, hlt⟩ w2 (abides_below hJ hJk hb3) (Nat.lt_of_le_of_lt (roundN_len _ _ _ _ _ _ _) hlt)
          dsimp only [encA] at hy
          gi_wp2_with fail
          refine ⟨fun h => (by cases h), ?_⟩
          refine hR.mono ?_
          rintro e W3 (⟨rfl, hJ3, hk3⟩ | ⟨rfl, hJx3⟩)
          · gi_wp2_with fail
            go_roundw
            case rel => exact ⟨k + 1, by omega, by go_num, by rw [roundN_yes hlt hyes]; exact hJ3, (hBk.trans (hb3.mono hnr)).trans hk3⟩
            case measure => simp [intOf]; omega
          · gi_wp2_with fail
            refine bodyPost_ret (results_none rfl _ _ _) rfl ?_
            refine ⟨⟨_, rfl⟩, .inr ⟨_, ?_, hJx3⟩⟩
            rw [← roundN_yes hlt hyes]
            exact roundN_prefix x y p q c d _
    · have hk8 : k = 8 := by omega
      subst hk8
      gi_wp2_with fail
      go_end0
      exact ⟨⟨_, rfl⟩, .inl ⟨_, rfl, hJk⟩⟩
end Go.Proofs.YtggaobcdogbjhaaGreatDoor
namespace Go.Proofs.YtggaobcdogbjhaaGreatDoor
open Go.RowKit
set_option linter.unusedVariables false
/-- The blocks B, C and the table's are as they were. -/
def KA (B C : Nat) (X Y : World) : Prop := Y.heap[B]? = X.heap[B]? ∧ Y.heap[C]? = X.heap[C]? ∧ Y.heap[1]? = X.heap[1]?
theorem KA.refl (B C : Nat) (X : World) : KA B C X X := ⟨rfl, rfl, rfl⟩
theorem KA.trans {B C : Nat} {X Y Z : World} (h : KA B C X Y) (k : KA B C Y Z) : KA B C X Z := ⟨k.1.trans h.1, k.2.1.trans h.2.1, k.2.2.trans h.2.2⟩
theorem KA.below {B C : Nat} {X Y : World} {n : Nat} (h : Below n X Y) (hB : B < n) (hC : C < n) (h1 : 1 < n) : KA B C X Y := ⟨h.block B hB, h.block C hC, h.block 1 h1⟩
theorem kA_b {B C : Nat} {w : World} (hB : B < w.heap.size) (hC : C < w.heap.size) (h1 : 1 < w.heap.size) (W : World) (l : Nat) (o o' : Obj) (hl : w.heap.size ≤ l) (h : W.heap[l]? = some o) (_ : o.isCells = false) (_ : o.isWalk = false) : KA B C W (W.putObj l o') :=
  ⟨World.putObj_heap_other (by omega), World.putObj_heap_other (by omega), World.putObj_heap_other (by omega)⟩
theorem lt_blk {w w' : World} {k : Nat} (h : k < w.heap.size) (e : w'.heap[k]? = w.heap[k]?) : k < w'.heap.size := by
  have : w.heap[k]? = some w.heap[k] := Array.getElem?_eq_getElem h
  exact (Array.getElem?_eq_some_iff.1 (e.trans this)).1
theorem Two.blk {w w' : World} {k : Nat} {u v : Int} (h : Two w k u v) (e : w'.heap[k]? = w.heap[k]?) : Two w' k u v :=
  ⟨⟨(World.cell?_of_block (a := ⟨k, 0, none⟩) e).trans h.1.1, (World.cell?_of_block (a := ⟨k, 1, none⟩) e).trans h.1.2⟩, ⟨(World.frozen?_of_block (a := ⟨k, 0, none⟩) e).trans h.2.1.1, (World.frozen?_of_block (a := ⟨k, 1, none⟩) e).trans h.2.1.2⟩, lt_blk h.2.2 e⟩
theorem Four.blk {w w' : World} {k : Nat} {x y a b : Int} (h : Four w k x y a b) (e : w'.heap[k]? = w.heap[k]?) : Four w' k x y a b := by
  have hc := fun o => World.cell?_of_block (a := ⟨k, o, none⟩) e
  have hf := fun o => World.frozen?_of_block (a := ⟨k, o, none⟩) e
  exact ⟨⟨(hc 0).trans h.1.1, (hc 1).trans h.1.2.1, (hc 2).trans h.1.2.2.1, (hc 3).trans h.1.2.2.2⟩, ⟨(hf 0).trans h.2.1.1, (hf 1).trans h.2.1.2.1, (hf 2).trans h.2.1.2.2.1, (hf 3).trans h.2.1.2.2.2⟩, lt_blk h.2.2 e⟩
theorem Offs.blk {w w' : World} (h : Offs w) (e : w'.heap[1]? = w.heap[1]?) : Offs w' :=
  ⟨lt_blk h.1 e, fun k hk => ⟨(World.cell?_of_block (a := ⟨1, k * 2, none⟩) e).trans (h.2 k hk).1, (World.cell?_of_block (a := ⟨1, k * 2 + 1, none⟩) e).trans (h.2 k hk).2⟩⟩
set_option maxRecDepth 100000 in
set_option maxHeartbeats 2000000 in
theorem around_stopsK (n B C : Nat) (x y p q c d : Int) (w : World) (ho : Offs w) (hX : Two w B x y) (hF : Four w C p q c d) :
    SeqStopsK Fence.wide n Tryz.prog 108 #[.pointer (some ⟨B, 0, none⟩), .pointer (some ⟨C, 0, none⟩)] (encA x y) (KA B C) (fun xs => xs = roundN x y p q c d 8) (fun pre => pre <+: roundN x y p q c d 8) 8 w := fun l J Jx W hW hJ hJx hY h0 => by
  refine callsIn_of_wp Tryz.func108 rfl trivial ?_ rfl
  simp only [Tryz.ntmps108, List.size_toArray, List.length_cons, List.length_nil, Nat.reduceAdd, Nat.reduceSub, Array.replicate_succ, Array.replicate_zero, List.push_toArray, List.append_toArray, List.nil_append, List.cons_append]
  have X0 := hX.kept hW
  have F0 := hF.kept hW
  gi_wp2_with fail
  gi_loopw [7] (fun i wr => ∃ k : Nat, k ≤ 8 ∧ i = .int .i64 k ∧ J (roundN x y p q c d k) wr ∧ KA B C W wr) (fun i _ => 8 - (intOf i).toNat)
  case atStart => exact ⟨0, Nat.zero_le _, rfl, h0, KA.refl _ _ _⟩
  case round =>
    obtain ⟨k, hk, rfl, hJk, hBk⟩ := hrel
    have Xr : Two wr B x y := X0.blk hBk.1
    obtain ⟨⟨x0, x1⟩, _, zx⟩ := id Xr
    by_cases hlt : k < 8
    · have ho1 : Offs wr := (ho.kept hW).blk hBk.2.2
      have Fr : Four wr C p q c d := (hF.kept hW).blk hBk.2.1
      have hKb : ∀ {w' : World}, Below wr.heap.size wr w' → KA B C wr w' := fun h => KA.below h Xr.2.2 Fr.2.2 ho1.1
      obtain ⟨⟨f0, f1, f2, f3⟩, _, zf⟩ := id Fr
      cases hs : sB x y k
      · gi_wp2_with fail
        refine ⟨trivial, fun h => (by cases h), ?_⟩
        refine (callsIn_wide.2 (step_any x y k _ ho1)).mono ?_
        rintro e w1 ⟨rfl, hb1⟩
        rw [hs, sX_no hs, sY_no hs]
        obtain ⟨⟨g0, g1, g2, g3⟩, _, zg⟩ := Fr.kept hb1
        gi_wp2_with fail
        refine ⟨trivial, ?_⟩
        gi_wp2_with fail
        refine ⟨fun f hf => (by cases hf), ?_⟩
        gi_wp2_with fail
        go_roundw
        case rel => exact ⟨k + 1, by omega, by go_num, by rw [roundN_no hlt (show inn x y p q c d k = false by simp [inn, hs])]; exact abides_below hJ hJk (bt hb1 (box1 _ _)), hBk.trans (hKb (bt hb1 (box1 _ _)))⟩
        case measure => simp [intOf]; omega
      · gi_wp2_with fail
        refine ⟨trivial, fun h => (by cases h), ?_⟩
        refine (callsIn_wide.2 (step_any x y k _ ho1)).mono ?_
        rintro e w1 ⟨rfl, hb1⟩
        rw [hs, sX_yes hs, sY_yes hs, Int.toNat_natCast]
        obtain ⟨⟨g0, g1, g2, g3⟩, _, zg⟩ := Fr.kept hb1
        gi_wp2_with fail
        cases hh : has p q c d (x + dX k) (y + dY k)
        · refine ⟨trivial, fun h => (by cases h), ?_⟩
          refine (callsIn_wide.2 (hasc_is _ hh)).mono ?_
          rintro e w2 ⟨rfl, hb2⟩
          obtain ⟨⟨e0, e1⟩, _⟩ := cells2 hb2
          have hb3 := bt (bt hb1 (box1 _ _)) hb2
          clear hb2
          gi_wp2_with fail
          refine ⟨fun f hf => (by cases hf), ?_⟩
          gi_wp2_with fail
          go_roundw
          case rel => exact ⟨k + 1, by omega, by go_num, by rw [roundN_no hlt (show inn x y p q c d k = false by simp [inn, hs, hh])]; exact abides_below hJ hJk hb3, hBk.trans (hKb hb3)⟩
          case measure => simp [intOf]; omega
        · refine ⟨trivial, fun h => (by cases h), ?_⟩
          refine (callsIn_wide.2 (hasc_is _ hh)).mono ?_
          rintro e w2 ⟨rfl, hb2⟩
          obtain ⟨⟨e0, e1⟩, _⟩ := cells2 hb2
          have hb3 := bt (bt hb1 (box1 _ _)) hb2
          clear hb2
          have hyes : inn x y p q c d k = true := by simp [inn, hs, hh]
          obtain ⟨fn, tmps, assign, body, hy, hR⟩ := hY (roundN x y p q c d k) ⟨k, hlt⟩ w2 (abides_below hJ hJk hb3) (Nat.lt_of_le_of_lt (roundN_len _ _ _ _ _ _ _) hlt)
          dsimp only [encA] at hy
          gi_wp2_with fail
          refine ⟨fun h => (by cases h), ?_⟩
          refine hR.mono ?_
          rintro e W3 (⟨rfl, hJ3, hk3⟩ | ⟨rfl, hJx3⟩)
          · gi_wp2_with fail
            go_roundw
            case rel => exact ⟨k + 1, by omega, by go_num, by rw [roundN_yes hlt hyes]; exact hJ3, (hBk.trans (hKb hb3)).trans hk3⟩
            case measure => simp [intOf]; omega
          · gi_wp2_with fail
            refine bodyPost_ret (results_none rfl _ _ _) rfl ?_
            refine ⟨⟨_, rfl⟩, .inr ⟨_, ?_, hJx3⟩⟩
            rw [← roundN_yes hlt hyes]
            exact roundN_prefix x y p q c d _
    · have hk8 : k = 8 := by omega
      subst hk8
      gi_wp2_with fail
      go_end0
      exact ⟨⟨_, rfl⟩, .inl ⟨_, rfl, hJk⟩⟩
end Go.Proofs.YtggaobcdogbjhaaGreatDoor
namespace Go.Proofs.YtggaobcdogbjhaaGreatDoor
open Go.RowKit Go.Shelf
set_option linter.unusedVariables false
attribute [local go_sem] Oper.semAt_some
/-- A direction whose neighbour is there. -/
abbrev Nb (x y p q c d : Int) := { t : Fin 8 // inn x y p q c d t.val = true }
def roundS (x y p q c d : Int) (k : Nat) : List (Nb x y p q c d) := ((List.finRange 8).take k).filterMap (fun i => if h : inn x y p q c d i.val = true then some ⟨i, h⟩ else none)
abbrev encN (x y p q c d : Int) (t : Nb x y p q c d) : Array Value := encA x y t.1
theorem roundS_yes {x y p q c d : Int} {k : Nat} (hk : k < 8) (h : inn x y p q c d k = true) : roundS x y p q c d (k + 1) = roundS x y p q c d k ++ [⟨⟨k, hk⟩, h⟩] := by
  simp [roundS, take_fin hk, List.filterMap_append, h]
theorem roundS_no {x y p q c d : Int} {k : Nat} (hk : k < 8) (h : inn x y p q c d k = false) : roundS x y p q c d (k + 1) = roundS x y p q c d k := by
  simp [roundS, take_fin hk, List.filterMap_append, h]
theorem roundS_len (x y p q c d : Int) (k : Nat) : (roundS x y p q c d k).length ≤ k := by
  simp only [roundS]
  exact Nat.le_trans (List.length_filterMap_le _ _) (by simp; omega)
theorem roundS_prefix (x y p q c d : Int) (k : Nat) : roundS x y p q c d k <+: roundS x y p q c d 8 := by
  have e : (List.finRange 8).take 8 = (List.finRange 8).take k ++ (List.finRange 8).drop k := by rw [List.take_append_drop]; rfl
  unfold roundS
  rw [e, List.filterMap_append]
  exact ⟨_, rfl⟩
theorem roundS_val (x y p q c d : Int) : ∀ k : Nat, k ≤ 8 → (roundS x y p q c d k).map (·.1) = roundN x y p q c d k
  | 0, _ => rfl
  | k + 1, h => by
    cases hi : inn x y p q c d k
    · rw [roundS_no (by omega) hi, roundN_no (by omega) hi]; exact roundS_val x y p q c d k (by omega)
    · rw [roundS_yes (by omega) hi, roundN_yes (by omega) hi, List.map_append, roundS_val x y p q c d k (by omega)]; rfl
set_option maxRecDepth 100000 in
set_option maxHeartbeats 2000000 in
theorem around_in (n B C : Nat) (x y p q c d : Int) (w : World) (ho : Offs w) (hX : Two w B x y) (hF : Four w C p q c d) :
    SeqStopsK Fence.wide n Tryz.prog 108 #[.pointer (some ⟨B, 0, none⟩), .pointer (some ⟨C, 0, none⟩)] (encN x y p q c d) (KA B C) (fun xs => xs = roundS x y p q c d 8) (fun pre => pre <+: roundS x y p q c d 8) 8 w := fun l J Jx W hW hJ hJx hY h0 => by
  refine callsIn_of_wp Tryz.func108 rfl trivial ?_ rfl
  simp only [Tryz.ntmps108, List.size_toArray, List.length_cons, List.length_nil, Nat.reduceAdd, Nat.reduceSub, Array.replicate_succ, Array.replicate_zero, List.push_toArray, List.append_toArray, List.nil_append, List.cons_append]
  have X0 := hX.kept hW
  have F0 := hF.kept hW
  gi_wp2_with fail
  gi_loopw [7] (fun i wr => ∃ k : Nat, k ≤ 8 ∧ i = .int .i64 k ∧ J (roundS x y p q c d k) wr ∧ KA B C W wr) (fun i _ => 8 - (intOf i).toNat)
  case atStart => exact ⟨0, Nat.zero_le _, rfl, h0, KA.refl _ _ _⟩
  case round =>
    obtain ⟨k, hk, rfl, hJk, hBk⟩ := hrel
    have Xr : Two wr B x y := X0.blk hBk.1
    obtain ⟨⟨x0, x1⟩, _, zx⟩ := id Xr
    by_cases hlt : k < 8
    · have ho1 : Offs wr := (ho.kept hW).blk hBk.2.2
      have Fr : Four wr C p q c d := (hF.kept hW).blk hBk.2.1
      have hKb : ∀ {w' : World}, Below wr.heap.size wr w' → KA B C wr w' := fun h => KA.below h Xr.2.2 Fr.2.2 ho1.1
      obtain ⟨⟨f0, f1, f2, f3⟩, _, zf⟩ := id Fr
      cases hs : sB x y k
      · gi_wp2_with fail
        refine ⟨trivial, fun h => (by cases h), ?_⟩
        refine (callsIn_wide.2 (step_any x y k _ ho1)).mono ?_
        rintro e w1 ⟨rfl, hb1⟩
        rw [hs, sX_no hs, sY_no hs]
        obtain ⟨⟨g0, g1, g2, g3⟩, _, zg⟩ := Fr.kept hb1
        gi_wp2_with fail
        refine ⟨trivial, ?_⟩
        gi_wp2_with fail
        refine ⟨fun f hf => (by cases hf), ?_⟩
        gi_wp2_with fail
        go_roundw
        case rel => exact ⟨k + 1, by omega, by go_num, by rw [roundS_no hlt (show inn x y p q c d k = false by simp [inn, hs])]; exact abides_below hJ hJk (bt hb1 (box1 _ _)), hBk.trans (hKb (bt hb1 (box1 _ _)))⟩
        case measure => simp [intOf]; omega
      · gi_wp2_with fail
        refine ⟨trivial, fun h => (by cases h), ?_⟩
        refine (callsIn_wide.2 (step_any x y k _ ho1)).mono ?_
        rintro e w1 ⟨rfl, hb1⟩
        rw [hs, sX_yes hs, sY_yes hs, Int.toNat_natCast]
        obtain ⟨⟨g0, g1, g2, g3⟩, _, zg⟩ := Fr.kept hb1
        gi_wp2_with fail
        cases hh : has p q c d (x + dX k) (y + dY k)
        · refine ⟨trivial, fun h => (by cases h), ?_⟩
          refine (callsIn_wide.2 (hasc_is _ hh)).mono ?_
          rintro e w2 ⟨rfl, hb2⟩
          obtain ⟨⟨e0, e1⟩, _⟩ := cells2 hb2
          have hb3 := bt (bt hb1 (box1 _ _)) hb2
          clear hb2
          gi_wp2_with fail
          refine ⟨fun f hf => (by cases hf), ?_⟩
          gi_wp2_with fail
          go_roundw
          case rel => exact ⟨k + 1, by omega, by go_num, by rw [roundS_no hlt (show inn x y p q c d k = false by simp [inn, hs, hh])]; exact abides_below hJ hJk hb3, hBk.trans (hKb hb3)⟩
          case measure => simp [intOf]; omega
        · refine ⟨trivial, fun h => (by cases h), ?_⟩
          refine (callsIn_wide.2 (hasc_is _ hh)).mono ?_
          rintro e w2 ⟨rfl, hb2⟩
          obtain ⟨⟨e0, e1⟩, _⟩ := cells2 hb2
          have hb3 := bt (bt hb1 (box1 _ _)) hb2
          clear hb2
          have hyes : inn x y p q c d k = true := by simp [inn, hs, hh]
          obtain ⟨fn, tmps, assign, body, hy, hR⟩ := hY (roundS x y p q c d k) ⟨⟨k, hlt⟩, hyes⟩ w2 (abides_below hJ hJk hb3) (Nat.lt_of_le_of_lt (roundS_len _ _ _ _ _ _ _) hlt)
          dsimp only [encN, encA] at hy
          gi_wp2_with fail
          refine ⟨fun h => (by cases h), ?_⟩
          refine hR.mono ?_
          rintro e W3 (⟨rfl, hJ3, hk3⟩ | ⟨rfl, hJx3⟩)
          · gi_wp2_with fail
            go_roundw
            case rel => exact ⟨k + 1, by omega, by go_num, by rw [roundS_yes hlt hyes]; exact hJ3, (hBk.trans (hKb hb3)).trans hk3⟩
            case measure => simp [intOf]; omega
          · gi_wp2_with fail
            refine bodyPost_ret (results_none rfl _ _ _) rfl ?_
            refine ⟨⟨_, rfl⟩, .inr ⟨_, ?_, hJx3⟩⟩
            rw [← roundS_yes hlt hyes]
            exact roundS_prefix x y p q c d _
    · have hk8 : k = 8 := by omega
      subst hk8
      gi_wp2_with fail
      go_end0
      exact ⟨⟨_, rfl⟩, .inl ⟨_, rfl, hJk⟩⟩
end Go.Proofs.YtggaobcdogbjhaaGreatDoor
namespace Go.Proofs.YtggaobcdogbjhaaGreatDoor
open Go.RowKit
set_option linter.unusedVariables false
section
variable {n l : Nat} {P : Program} {ops : Array Oper} {md : Region.Mode} {Q : Exit → Act → World → Prop}
theorem oper_in {o : Oper} {a : Act} {w : World} {K K' : Act → World → Prop} (hnd : ∀ c, o.op ≠ .defer c) (hK : ∀ a w, K a w → K' a w) (h : o.wp P a w K Q) : o.wpIn (Fence.wide.inRound l) n P a w K' Q := by
  unfold Oper.wp at h
  unfold Oper.wpIn
  refine ⟨fun _ _ => trivial, ?_⟩
  rw [Oper.semAt_eq _ _ _ hnd]
  generalize (execOp a.eval o).run P w = r at *
  cases r with
  | ok x w' =>
    cases x <;> simp only [Oper.upon] at h <;> simp only [Oper.uponIn]
    case value u => exact hK _ _ h
    case skip => exact hK _ _ h
    case defer d => exact hK _ _ h
    case enter f args =>
      refine ⟨(fun h => by cases h), CallsIn.inRound l (callsIn_wide.2 (h.mono ?_))⟩
      rintro e w'' he
      cases e with
      | returned v => exact hK _ _ he
      | panicked ch => exact he
      | outgrown => exact he
    case row r args =>
      refine ⟨(fun h => by cases h), fun c cs _ => ?_⟩
      obtain ⟨v, w2, hr, hs⟩ := h c cs
      exact ⟨v, w2, hK _ _ hr, stepsIn_wide.2 hs⟩
  | halt x w' => cases x <;> exact h
theorem wpOp_in {i : Nat} {a : Act} {w : World} {K K' : Act → World → Prop} (hno : ¬ LetsOut Q) (hnd : ∀ (i : Nat) (o : Oper), ops[i]? = some o → ∀ c, o.op ≠ .defer c) (hK : ∀ a w, K a w → K' a w)
    (h : wpOp P ops Q i K a w) : wpOpIn (Fence.wide.inRound l) n P ops Q i K' a w := by
  unfold wpOp at h
  unfold wpOpIn
  split
  · rename_i ho; simp only [ho] at h; exact hK _ _ h
  · rename_i o ho
    simp only [ho] at h
    split
    · rename_i hw
      simp only [hw, if_true] at h
      rcases h with h | h
      · exact oper_in (hnd i o ho) hK h
      · exact absurd h.2 hno
    · rename_i hw
      simp only [hw] at h
      exact ⟨fun _ _ => trivial, hK _ _ h⟩
theorem wpAny_in (hno : ¬ LetsOut Q) (hnd : ∀ (i : Nat) (o : Oper), ops[i]? = some o → ∀ c, o.op ≠ .defer c) : ∀ (fuel : Nat) (listed : Array Bool) (a : Act) (w : World),
    wpAny P md ops Q fuel listed a w → wpAnyIn (Fence.wide.inRound l) n P md ops Q fuel listed a w
  | 0, _, _, _, h => h
  | fuel + 1, _, _, _, h => ⟨h.1, fun i hi => wpOp_in hno hnd (fun a' w' => wpAny_in hno hnd fuel _ a' w') (h.2 i hi)⟩
end
theorem wpIn_region_heldR {n l : Nat} {P : Program} {id : Nat} {Q : Exit → Act → World → Prop} {a : Act} {w : World} {L : List Oper} {S : World → Prop} (hno : ¬ LetsOut Q) (hm : P.follows .mixedOrders = true) (hd : noDefer L = true) (hS : S w.drew)
    (h : S w.drew → wpAnyH P .any L.toArray Q S L.toArray.size (Array.replicate L.toArray.size false) a w.drew) : (Code.region id L.toArray true).wpIn (Fence.wide.inRound l) n P Q a w :=
  wpIn_region_any hm (wpAny_in hno (fun i o ho => noDefer_at hd ho) _ _ _ _ (wpAny_of_held _ _ _ _ (h hS)))
section
variable {n : Nat} {P : Program} {ops : Array Oper} {md : Region.Mode} {Q : Exit → Act → World → Prop}
theorem oper_w {o : Oper} {a : Act} {w : World} {K K' : Act → World → Prop} (hnd : ∀ c, o.op ≠ .defer c) (hK : ∀ a w, K a w → K' a w) (h : o.wp P a w K Q) : o.wpIn Fence.wide n P a w K' Q := by
  unfold Oper.wp at h
  unfold Oper.wpIn
  refine ⟨fun _ _ => trivial, ?_⟩
  rw [Oper.semAt_eq _ _ _ hnd]
  generalize (execOp a.eval o).run P w = r at *
  cases r with
  | ok x w' =>
    cases x <;> simp only [Oper.upon] at h <;> simp only [Oper.uponIn]
    case value u => exact hK _ _ h
    case skip => exact hK _ _ h
    case defer d => exact hK _ _ h
    case enter f args =>
      refine ⟨(fun h => by cases h), callsIn_wide.2 (h.mono ?_)⟩
      rintro e w'' he
      cases e with
      | returned v => exact hK _ _ he
      | panicked ch => exact he
      | outgrown => exact he
    case row r args =>
      refine ⟨(fun h => by cases h), fun c cs _ => ?_⟩
      obtain ⟨v, w2, hr, hs⟩ := h c cs
      exact ⟨v, w2, hK _ _ hr, stepsIn_wide.2 hs⟩
  | halt x w' => cases x <;> exact h
theorem wpOp_w {i : Nat} {a : Act} {w : World} {K K' : Act → World → Prop} (hno : ¬ LetsOut Q) (hnd : ∀ (i : Nat) (o : Oper), ops[i]? = some o → ∀ c, o.op ≠ .defer c) (hK : ∀ a w, K a w → K' a w)
    (h : wpOp P ops Q i K a w) : wpOpIn Fence.wide n P ops Q i K' a w := by
  unfold wpOp at h
  unfold wpOpIn
  split
  · rename_i ho; simp only [ho] at h; exact hK _ _ h
  · rename_i o ho
    simp only [ho] at h
    split
    · rename_i hw
      simp only [hw, if_true] at h
      rcases h with h | h
      · exact oper_w (hnd i o ho) hK h
      · exact absurd h.2 hno
    · rename_i hw
      simp only [hw] at h
      exact ⟨fun _ _ => trivial, hK _ _ h⟩
theorem wpAny_w (hno : ¬ LetsOut Q) (hnd : ∀ (i : Nat) (o : Oper), ops[i]? = some o → ∀ c, o.op ≠ .defer c) : ∀ (fuel : Nat) (listed : Array Bool) (a : Act) (w : World),
    wpAny P md ops Q fuel listed a w → wpAnyIn Fence.wide n P md ops Q fuel listed a w
  | 0, _, _, _, h => h
  | fuel + 1, _, _, _, h => ⟨h.1, fun i hi => wpOp_w hno hnd (fun a' w' => wpAny_w hno hnd fuel _ a' w') (h.2 i hi)⟩
end
theorem wpIn_region_heldW {n : Nat} {P : Program} {id : Nat} {Q : Exit → Act → World → Prop} {a : Act} {w : World} {L : List Oper} {S : World → Prop} (hno : ¬ LetsOut Q) (hm : P.follows .mixedOrders = true) (hd : noDefer L = true) (hS : S w.drew)
    (h : S w.drew → wpAnyH P .any L.toArray Q S L.toArray.size (Array.replicate L.toArray.size false) a w.drew) : (Code.region id L.toArray true).wpIn Fence.wide n P Q a w :=
  wpIn_region_any hm (wpAny_w hno (fun i o ho => noDefer_at hd ho) _ _ _ _ (wpAny_of_held _ _ _ _ (h hS)))
theorem only_in {K : Act → World → Prop} : ¬ LetsOut (Only K) := fun ⟨_, _, h⟩ => h
theorem wpIn_only {F : Fence} {m : Nat} {c : Code} {Q : Exit → Act → World → Prop} {a : Act} {w : World} (h : c.wpIn F m Tryz.prog (Only (fun a' w' => Q .normal a' w')) a w) : c.wpIn F m Tryz.prog Q a w := by
  refine Code.wpIn_mono ?_ h
  rintro (_ | _ | _ | _ | _) a' w' hO
  all_goals first | exact hO.elim | exact hO
theorem wpIn_region_zR (S : World → Prop) (zs : List Nat) {n l : Nat} {P : Program} {id : Nat} {Q : Exit → Act → World → Prop} {a : Act} {w : World} {L : List Oper} (hno : ¬ LetsOut Q) (hm : P.follows .mixedOrders = true) (hd : noDefer L = true)
    (h : anyZ P .any L.toArray Q S zs L.toArray.size (Array.replicate L.toArray.size false) a w.drew) : (Code.region id L.toArray true).wpIn (Fence.wide.inRound l) n P Q a w :=
  wpIn_region_any hm (wpAny_in hno (fun i o ho => noDefer_at hd ho) _ _ _ _ (any_of_anyZ _ _ _ _ h))
theorem wpIn_region_zW (S : World → Prop) (zs : List Nat) {n : Nat} {P : Program} {id : Nat} {Q : Exit → Act → World → Prop} {a : Act} {w : World} {L : List Oper} (hm : P.follows .mixedOrders = true)
    (h : anyZ P .any L.toArray Q S zs L.toArray.size (Array.replicate L.toArray.size false) a w.drew) : (Code.region id L.toArray true).wpIn Fence.wide n P Q a w :=
  wpIn_wide.2 (wp_region_z S zs hm h)
end Go.Proofs.YtggaobcdogbjhaaGreatDoor
namespace Go.Proofs.YtggaobcdogbjhaaGreatDoor
open Go.RowKit Go.Shelf
set_option linter.unusedVariables false
set_option linter.unusedSimpArgs false
attribute [local go_sem] Oper.semAt_some
theorem Four.new (w : World) (t : TypeId) (x y a b : Int) : Four (w.alloc (.cells #[.int .i64 x, .int .i64 y, .int .i64 a, .int .i64 b] t)) w.heap.size x y a b := cells4 (Below.refl _ _)
theorem Four.newAt {w : World} {k : Nat} (t : TypeId) (x y a b : Int) (h : w.heap.size = k) : Four (w.alloc (.cells #[.int .i64 x, .int .i64 y, .int .i64 a, .int .i64 b] t)) k x y a b := by subst h; exact Four.new w t x y a b
theorem row_cells {w : World} {e : TypeId} {k n : Nat} {v : Value} {xs : List Value} (h : w.ownsRow 0 e k v n xs) {j : Nat} (hj : v.ownBlock = some j) : ∃ cur, w.heap[j]? = some (.cells cur e) := by
  rcases h.2 with ⟨e, _⟩ | ⟨g, cap, cur, e, hb, hg, r⟩
  · rw [e] at hj; simp [Value.ownBlock] at hj
  · rw [e] at hj
    simp [Value.ownBlock] at hj
    subst hj
    exact ⟨cur, hg⟩
section
variable {w0 w w' : World} {k p : Nat} {c s ix iy iw ih : Int} {gv cv : Value} {b : Nat} {lf : Value} {G : List Nat} {C : List Int} {hv : Value} {n : Int} {S : List It}
theorem Sch.cells (h : Sch w0 w k p c s ix iy iw ih gv cv b lf G C hv n S) {j : Nat} (hj : Own gv cv b hv j) : ∃ cs t, w.heap[j]? = some (.cells cs t) := by
  obtain ⟨l, hl, hp⟩ := h.hs.row
  rcases hj with e | e | e | e
  · obtain ⟨cur, hc⟩ := row_cells h.gr e; exact ⟨_, _, hc⟩
  · obtain ⟨cur, hc⟩ := row_cells h.ct e; exact ⟨_, _, hc⟩
  · subst e; exact ⟨_, _, hp⟩
  · obtain ⟨cur, hc⟩ := row_cells hl e; exact ⟨_, _, hc⟩
theorem Sch.own_lt (h : Sch w0 w k p c s ix iy iw ih gv cv b lf G C hv n S) {j : Nat} (hj : Own gv cv b hv j) : j < w.heap.size := by
  obtain ⟨cs, t, hc⟩ := h.cells hj
  exact (Array.getElem?_eq_some_iff.1 hc).1
theorem Sch.own_ge (h : Sch w0 w k p c s ix iy iw ih gv cv b lf G C hv n S) {j : Nat} (hj : Own gv cv b hv j) : w0.heap.size ≤ j := by
  rcases hj with e | e | e | e
  · exact h.gn j e
  · exact h.cn j e
  · subst e; exact h.bn
  · exact h.hn j e
/-- What turns no row of the search's leaves the search. -/
theorem Sch.past {Sx : Nat → Prop} (h : Sch w0 w k p c s ix iy iw ih gv cv b lf G C hv n S) (T : Turns Sx w w') (h0 : ∀ j, Sx j → w0.heap.size ≤ j) (hk : ∀ j, Sx j → ∀ cs t, w.heap[j]? ≠ some (.cells cs t)) : Sch w0 w' k p c s ix iy iw ih gv cv b lf G C hv n S := by
  obtain ⟨l, hl, hp⟩ := h.hs.row
  have ne : ∀ j, Own gv cv b hv j → ¬ Sx j := fun j e q => by obtain ⟨cs, t, hc⟩ := h.cells e; exact hk j q cs t hc
  exact ⟨h.bel.trans (T.below h0 h.bel.size), h.sr.kept T (fun q => hk k q _ _ h.sr), h.gr.kept T (fun j e => ne j (.inl e)), h.ct.kept T (fun j e => ne j (.inr (.inl e))), h.hs.kept T (ne b (.inr (.inr (.inl rfl)))) (fun j e => ne j (.inr (.inr (.inr e)))), h.kn, h.bn, h.gn, h.cn, h.hn⟩
theorem Sch.own_from (h : Sch w0 w k p c s ix iy iw ih gv cv b lf G C hv n S) {B : Nat} {row : Option Nat} (hB : w0.heap.size ≤ B) (hg : w.grownBy w' row) (hr : ∀ r, row = some r → B ≤ r ∧ ∃ o : Obj, w.heap[r]? = some o ∧ o.isCells = false) : Sch w0 w' k p c s ix iy iw ih gv cv b lf G C hv n S := by
  refine h.past (Sx := fun j => row = some j) (Turns.of_grown hg (fun j e => e)) (fun j e => Nat.le_trans hB (hr j e).1) (fun j e cs t q => ?_)
  obtain ⟨-, o, ho, hn⟩ := hr j e
  rw [q] at ho
  cases ho
  cases hn
/-- What a search turns leaves all that is no row. -/
theorem Sch.keeps (h : Sch w0 w k p c s ix iy iw ih gv cv b lf G C hv n S) (T : Turns (Own gv cv b hv) w w') (B : Nat) : KeepsFrom B w w' :=
  ⟨T.size, fun j o _ hj ho => T.same (fun e => by obtain ⟨cs, t, hc⟩ := h.cells e; rw [hj] at hc; cases hc; cases ho) hj⟩
end
/-- Costs, how many were pushed, who waits. -/
abbrev AS := List Int × Int × List It
def meetF (ix iy iw : Int) (L : Int → Int → Int) (a : AS) (x y cost : Int) : AS :=
  if (a.1[ij ix iy iw x y]?).getD 0 ≠ -1 ∧ (a.1[ij ix iy iw x y]?).getD 0 ≤ cost then a else (a.1.set (ij ix iy iw x y) cost, a.2.1 + 1, ⟨x, y, cost, cost + L x y, a.2.1⟩ :: a.2.2)
theorem meetF_len (ix iy iw : Int) (L : Int → Int → Int) (a : AS) (x y cost : Int) : (meetF ix iy iw L a x y cost).1.length = a.1.length := by
  unfold meetF; split
  · rfl
  · simp
theorem meetF_le (ix iy iw : Int) (L : Int → Int → Int) (a : AS) (x y cost : Int) : a.2.1 ≤ (meetF ix iy iw L a x y cost).2.1 ∧ (meetF ix iy iw L a x y cost).2.1 ≤ a.2.1 + 1 ∧ (meetF ix iy iw L a x y cost).2.2.length ≤ a.2.2.length + 1 := by
  unfold meetF; split
  · simp; omega
  · simp; omega
/-- One direction more. -/
def goF (stp : Nat → Bool) (ix iy iw : Int) (L : Int → Int → Int) (x y cost : Int) (a : AS) (t : Fin 8) : AS := if stp t.val = true then meetF ix iy iw L a (x + dX t.val) (y + dY t.val) (cost + co (t.val : Int)) else a
def spreadF (stp : Nat → Bool) (ix iy iw : Int) (L : Int → Int → Int) (x y cost : Int) (a : AS) (l : List (Fin 8)) : AS := l.foldl (goF stp ix iy iw L x y cost) a
theorem spreadF_snoc (stp : Nat → Bool) (ix iy iw : Int) (L : Int → Int → Int) (x y cost : Int) (a : AS) (l : List (Fin 8)) (t : Fin 8) : spreadF stp ix iy iw L x y cost a (l ++ [t]) = goF stp ix iy iw L x y cost (spreadF stp ix iy iw L x y cost a l) t := by simp [spreadF]
theorem goF_le (stp : Nat → Bool) (ix iy iw : Int) (L : Int → Int → Int) (x y cost : Int) (a : AS) (t : Fin 8) : (goF stp ix iy iw L x y cost a t).1.length = a.1.length ∧ a.2.1 ≤ (goF stp ix iy iw L x y cost a t).2.1 ∧ (goF stp ix iy iw L x y cost a t).2.1 ≤ a.2.1 + 1 ∧ (goF stp ix iy iw L x y cost a t).2.2.length ≤ a.2.2.length + 1 := by
  unfold goF; split
  · exact ⟨meetF_len _ _ _ _ _ _ _ _, meetF_le _ _ _ _ _ _ _ _⟩
  · simp; omega
theorem spreadF_le (stp : Nat → Bool) (ix iy iw : Int) (L : Int → Int → Int) (x y cost : Int) : ∀ (l : List (Fin 8)) (a : AS), (spreadF stp ix iy iw L x y cost a l).1.length = a.1.length ∧ a.2.1 ≤ (spreadF stp ix iy iw L x y cost a l).2.1 ∧ (spreadF stp ix iy iw L x y cost a l).2.1 ≤ a.2.1 + ((l.length : Nat) : Int) ∧ (spreadF stp ix iy iw L x y cost a l).2.2.length ≤ a.2.2.length + l.length
  | [], a => by simp [spreadF]
  | t :: l, a => by
    have h1 := goF_le stp ix iy iw L x y cost a t
    have h2 := spreadF_le stp ix iy iw L x y cost l (goF stp ix iy iw L x y cost a t)
    have e : spreadF stp ix iy iw L x y cost a (t :: l) = spreadF stp ix iy iw L x y cost (goF stp ix iy iw L x y cost a t) l := rfl
    rw [e, List.length_cons]
    push_cast
    omega
theorem caround_any (x y p q c d : Int) (w : World) : Calls Tryz.prog 80 #[cel x y, rct p q c d] w fun e w' => e = .returned (.func (.func 108) #[] #[ptr w.heap.size, ptr (w.heap.size + 1)]) ∧ w' = (w.alloc (.cells #[.int .i64 x, .int .i64 y] 29)).alloc (.cells #[.int .i64 p, .int .i64 q, .int .i64 c, .int .i64 d] 31) := by
  go_enter Tryz.func80, Tryz.ntmps80
  go_wp2_with fail
  go_ret
  exact ⟨rfl, rfl⟩
end Go.Proofs.YtggaobcdogbjhaaGreatDoor
