/-
  What cell.Around hands back goes through: a cell's neighbours within a rectangle, by their directions. Around as an iterator that asks no more of a round than that its two boxes and the table lie as they lay.
-/
import Derived.Test.YthiafmlgialbnaaGreatDoorCellsSeq
import Derived.Test.YthiafmlgialbnaaGreatDoorSides
import Derived.Test.YthiafmlgialbnaaGreatDoorHas
namespace Go.Proofs.YthiafmlgialbnaaGreatDoor
open Go.RowKit Go.Shelf
set_option linter.unusedVariables false
attribute [local go_sem] Oper.semAt_some
/-- Is the neighbour in direction k there, and in the rectangle? -/
def inn (x y p q c d : Int) (k : Nat) : Bool := sB x y k && has p q c d (x + dX k) (y + dY k)
/-- Of the directions below k those whose neighbours are there. -/
def roundN (x y p q c d : Int) (k : Nat) : List (Fin 8) := ((List.finRange 8).take k).filter (fun i => inn x y p q c d i.val)
theorem take_fin {k : Nat} (h : k < 8) : (List.finRange 8).take (k + 1) = (List.finRange 8).take k ++ [⟨k, h⟩] := by
  rw [List.take_succ_eq_append_getElem (by simpa using h)]; simp
theorem roundN_yes {x y p q c d : Int} {k : Nat} (hk : k < 8) (h : inn x y p q c d k = true) : roundN x y p q c d (k + 1) = roundN x y p q c d k ++ [⟨k, hk⟩] := by
  simp [roundN, take_fin hk, List.filter_append, h]
theorem roundN_no {x y p q c d : Int} {k : Nat} (hk : k < 8) (h : inn x y p q c d k = false) : roundN x y p q c d (k + 1) = roundN x y p q c d k := by
  simp [roundN, take_fin hk, List.filter_append, h]
theorem roundN_len (x y p q c d : Int) (k : Nat) : (roundN x y p q c d k).length ≤ k := by
  simp only [roundN]
  exact Nat.le_trans (List.length_filter_le _ _) (by simp; omega)
/-- What comes from direction k on. -/
def restN (x y p q c d : Int) (k : Nat) : List (Fin 8) := ((List.finRange 8).drop k).filter (fun i => inn x y p q c d i.val)
theorem roundN_split (x y p q c d : Int) (k : Nat) : roundN x y p q c d 8 = roundN x y p q c d k ++ restN x y p q c d k := by
  rw [roundN, roundN, restN, ← List.filter_append, List.take_append_drop]; rfl
theorem roundN_prefix (x y p q c d : Int) (k : Nat) : roundN x y p q c d k <+: roundN x y p q c d 8 := ⟨_, (roundN_split x y p q c d k).symm⟩
abbrev encA (x y : Int) (t : Fin 8) : Array Value := #[.int .i64 (t.val : Int), .agg #[.int .i64 (x + dX t.val), .int .i64 (y + dY t.val)]]
end Go.Proofs.YthiafmlgialbnaaGreatDoor
namespace Go.Proofs.YthiafmlgialbnaaGreatDoor
open Go.RowKit
set_option linter.unusedVariables false
/-- The blocks B, C and the table's are as they were. -/
def KA (B C : Nat) (X Y : World) : Prop := Y.heap[B]? = X.heap[B]? ∧ Y.heap[C]? = X.heap[C]? ∧ Y.heap[0]? = X.heap[0]?
theorem KA.refl (B C : Nat) (X : World) : KA B C X X := ⟨rfl, rfl, rfl⟩
theorem KA.trans {B C : Nat} {X Y Z : World} (h : KA B C X Y) (k : KA B C Y Z) : KA B C X Z := ⟨k.1.trans h.1, k.2.1.trans h.2.1, k.2.2.trans h.2.2⟩
theorem KA.below {B C : Nat} {X Y : World} {n : Nat} (h : Below n X Y) (hB : B < n) (hC : C < n) (h1 : 0 < n) : KA B C X Y := ⟨h.block B hB, h.block C hC, h.block 0 h1⟩
theorem kA_b {B C : Nat} {w : World} (hB : B < w.heap.size) (hC : C < w.heap.size) (h1 : 0 < w.heap.size) (W : World) (l : Nat) (o o' : Obj) (hl : w.heap.size ≤ l) (h : W.heap[l]? = some o) (_ : o.isCells = false) (_ : o.isWalk = false) : KA B C W (W.putObj l o') :=
  ⟨World.putObj_heap_other (by omega), World.putObj_heap_other (by omega), World.putObj_heap_other (by omega)⟩
theorem lt_blk {w w' : World} {k : Nat} (h : k < w.heap.size) (e : w'.heap[k]? = w.heap[k]?) : k < w'.heap.size := by
  have : w.heap[k]? = some w.heap[k] := Array.getElem?_eq_getElem h
  exact (Array.getElem?_eq_some_iff.1 (e.trans this)).1
theorem Two.blk {w w' : World} {k : Nat} {u v : Int} (h : Two w k u v) (e : w'.heap[k]? = w.heap[k]?) : Two w' k u v :=
  ⟨⟨(World.cell?_of_block (a := ⟨k, 0, none⟩) e).trans h.1.1, (World.cell?_of_block (a := ⟨k, 1, none⟩) e).trans h.1.2⟩, ⟨(World.frozen?_of_block (a := ⟨k, 0, none⟩) e).trans h.2.1.1, (World.frozen?_of_block (a := ⟨k, 1, none⟩) e).trans h.2.1.2⟩, lt_blk h.2.2 e⟩
theorem Four.blk {w w' : World} {k : Nat} {x y a b : Int} (h : Four w k x y a b) (e : w'.heap[k]? = w.heap[k]?) : Four w' k x y a b := by
  have hc := fun o => World.cell?_of_block (a := ⟨k, o, none⟩) e
  have hf := fun o => World.frozen?_of_block (a := ⟨k, o, none⟩) e
  exact ⟨⟨(hc 0).trans h.1.1, (hc 1).trans h.1.2.1, (hc 2).trans h.1.2.2.1, (hc 3).trans h.1.2.2.2⟩, ⟨(hf 0).trans h.2.1.1, (hf 1).trans h.2.1.2.1, (hf 2).trans h.2.1.2.2.1, (hf 3).trans h.2.1.2.2.2⟩, lt_blk h.2.2 e⟩
theorem Offs.blk {w w' : World} (h : Offs w) (e : w'.heap[0]? = w.heap[0]?) : Offs w' :=
  ⟨lt_blk h.1 e, fun k hk => ⟨(World.cell?_of_block (a := ⟨0, k * 2, none⟩) e).trans (h.2 k hk).1, (World.cell?_of_block (a := ⟨0, k * 2 + 1, none⟩) e).trans (h.2 k hk).2⟩⟩
set_option maxRecDepth 100000 in
set_option maxHeartbeats 2000000 in
theorem around_stopsK (n B C : Nat) (x y p q c d : Int) (w : World) (ho : Offs w) (hX : Two w B x y) (hF : Four w C p q c d) :
    SeqStopsK Fence.wide n Tryz.prog 155 #[.pointer (some ⟨B, 0, none⟩), .pointer (some ⟨C, 0, none⟩)] (encA x y) (KA B C) (fun xs => xs = roundN x y p q c d 8) (fun pre => pre <+: roundN x y p q c d 8) 8 w := fun l J Jx W hW hJ hJx hY h0 => by
  refine callsIn_of_wp Tryz.func155 rfl trivial ?_ rfl
  simp only [Tryz.ntmps155, List.size_toArray, List.length_cons, List.length_nil, Nat.reduceAdd, Nat.reduceSub, Array.replicate_succ, Array.replicate_zero, List.push_toArray, List.append_toArray, List.nil_append, List.cons_append]
  have X0 := hX.kept hW
  have F0 := hF.kept hW
  gi_wp2_with fail
  gi_loopw [7] (fun i wr => ∃ k : Nat, k ≤ 8 ∧ i = .int .i64 k ∧ J (roundN x y p q c d k) wr ∧ KA B C W wr) (fun i _ => 8 - (intOf i).toNat)
  case atStart => exact ⟨0, Nat.zero_le _, rfl, h0, KA.refl _ _ _⟩
  case round =>
    obtain ⟨k, hk, rfl, hJk, hBk⟩ := hrel
    have Xr : Two wr B x y := X0.blk hBk.1
    obtain ⟨⟨x0, x1⟩, _, zx⟩ := id Xr
    by_cases hlt : k < 8
    · have ho1 : Offs wr := (ho.kept hW).blk hBk.2.2
      have Fr : Four wr C p q c d := (hF.kept hW).blk hBk.2.1
      have hKb : ∀ {w' : World}, Below wr.heap.size wr w' → KA B C wr w' := fun h => KA.below h Xr.2.2 Fr.2.2 ho1.1
      obtain ⟨⟨f0, f1, f2, f3⟩, _, zf⟩ := id Fr
      cases hs : sB x y k
      · gi_wp2_with fail
        refine ⟨trivial, fun h => (by cases h), ?_⟩
        refine (callsIn_wide.2 (step_any x y k _ ho1)).mono ?_
        rintro e w1 ⟨rfl, hb1⟩
        rw [hs, sX_no hs, sY_no hs]
        obtain ⟨⟨g0, g1, g2, g3⟩, _, zg⟩ := Fr.kept hb1
        gi_wp2_with fail
        refine ⟨trivial, ?_⟩
        gi_wp2_with fail
        refine ⟨fun f hf => (by cases hf), ?_⟩
        gi_wp2_with fail
        go_roundw
        case rel => exact ⟨k + 1, by omega, by go_num, by rw [roundN_no hlt (show inn x y p q c d k = false by simp [inn, hs])]; exact abides_below hJ hJk (bt hb1 (box1 _ _)), hBk.trans (hKb (bt hb1 (box1 _ _)))⟩
        case measure => simp [intOf]; omega
      · gi_wp2_with fail
        refine ⟨trivial, fun h => (by cases h), ?_⟩
        refine (callsIn_wide.2 (step_any x y k _ ho1)).mono ?_
        rintro e w1 ⟨rfl, hb1⟩
        rw [hs, sX_yes hs, sY_yes hs, Int.toNat_natCast]
        obtain ⟨⟨g0, g1, g2, g3⟩, _, zg⟩ := Fr.kept hb1
        gi_wp2_with fail
        cases hh : has p q c d (x + dX k) (y + dY k)
        · refine ⟨trivial, fun h => (by cases h), ?_⟩
          refine (callsIn_wide.2 (hasc_is _ hh)).mono ?_
          rintro e w2 ⟨rfl, hb2⟩
          obtain ⟨⟨e0, e1⟩, _⟩ := cells2 hb2
          have hb3 := bt (bt hb1 (box1 _ _)) hb2
          clear hb2
          gi_wp2_with fail
          refine ⟨fun f hf => (by cases hf), ?_⟩
          gi_wp2_with fail
          go_roundw
          case rel => exact ⟨k + 1, by omega, by go_num, by rw [roundN_no hlt (show inn x y p q c d k = false by simp [inn, hs, hh])]; exact abides_below hJ hJk hb3, hBk.trans (hKb hb3)⟩
          case measure => simp [intOf]; omega
        · refine ⟨trivial, fun h => (by cases h), ?_⟩
          refine (callsIn_wide.2 (hasc_is _ hh)).mono ?_
          rintro e w2 ⟨rfl, hb2⟩
          obtain ⟨⟨e0, e1⟩, _⟩ := cells2 hb2
          have hb3 := bt (bt hb1 (box1 _ _)) hb2
          clear hb2
          have hyes : inn x y p q c d k = true := by simp [inn, hs, hh]
          obtain ⟨fn, tmps, assign, body, hy, hR⟩ := hY (roundN x y p q c d k) ⟨k, hlt⟩ w2 (abides_below hJ hJk hb3) (Nat.lt_of_le_of_lt (roundN_len _ _ _ _ _ _ _) hlt)
          dsimp only [encA] at hy
          gi_wp2_with fail
          refine ⟨fun h => (by cases h), ?_⟩
          refine hR.mono ?_
          rintro e W3 (⟨rfl, hJ3, hk3⟩ | ⟨rfl, hJx3⟩)
          · gi_wp2_with fail
            go_roundw
            case rel => exact ⟨k + 1, by omega, by go_num, by rw [roundN_yes hlt hyes]; exact hJ3, (hBk.trans (hKb hb3)).trans hk3⟩
            case measure => simp [intOf]; omega
          · gi_wp2_with fail
            refine bodyPost_ret (results_none rfl _ _ _) rfl ?_
            refine ⟨⟨_, rfl⟩, .inr ⟨_, ?_, hJx3⟩⟩
            rw [← roundN_yes hlt hyes]
            exact roundN_prefix x y p q c d _
    · have hk8 : k = 8 := by omega
      subst hk8
      gi_wp2_with fail
      go_end0
      exact ⟨⟨_, rfl⟩, .inl ⟨_, rfl, hJk⟩⟩
end Go.Proofs.YthiafmlgialbnaaGreatDoor
