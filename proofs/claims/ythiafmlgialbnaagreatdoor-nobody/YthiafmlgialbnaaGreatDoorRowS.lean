/-
  Where a shape stands, by the document. phalanxlaw06.Both: a map's world, both ways; and what is asked of nobody's World. A heap of reached cells in memory; its order, asked. Rows of values in memory, of so many cells each. Rows of four numbers each (rectangles, portals) in memory of the call's own.
-/
import Derived.Test.YthiafmlgialbnaaGreatDoorStands
import Derived.Test.YthiafmlgialbnaaGreatDoorAwake
import Derived.Test.YthiafmlgialbnaaGreatDoorRefNew
import Derived.Test.YthiafmlgialbnaaGreatDoorStand
import Derived.Test.YthiafmlgialbnaaGreatDoorSpan
import Derived.Test.YthiafmlgialbnaaGreatDoorZlast
import Derived.Defers
import Derived.Recover
import Derived.Laws.Pointers
import Derived.Deep.RegionHeld
import Derived.Maps.AppendAt
import Derived.Laws.OwnMore
namespace Go.Proofs.YthiafmlgialbnaaGreatDoor
open Go.RowKit
set_option linter.unusedVariables false
/-- In block r lies the document's World. -/
def Rl (w : World) (r : Nat) (W H : Int) (tl : List Nat) (L : List Bd) : Prop :=
  ((mt W H tl = true ∧ ∀ n ∈ tl, n < 256) ∧ L.length ≤ 256) ∧ ∃ (tv bv ev : Value), Rd w r W H tv bv ev ∧ Tls w tv tl ∧ Bds w bv L
theorem chkC_zero {W H : Int} {tl : List Nat} {L : List Bd} (h : chkC W H tl L = 0) : mt W H tl = true ∧ L.length ≤ 256 ∧ okL W H [] L = true ∧ whoL L = whoF L := by
  unfold chkC at h
  split at h
  · rename_i h'
    simp only [Bool.and_eq_true, decide_eq_true_eq] at h'
    have hok : okL W H [] L = true := by
      rw [okL_chk W H L [] (Fine.nil W H) rfl]
      simp [h'.2.1, h'.2.2]
    have := (okL_fine W H L [] (Fine.nil W H) rfl hok).2
    exact ⟨h'.1, h'.2.1, hok, by simpa using this⟩
  · cases h
theorem chkC_one {W H : Int} {tl : List Nat} {L : List Bd} (h : chkC W H tl L ≠ 0) (hm : mt W H tl = true) : okL W H [] L = false := by
  rw [okL_chk W H L [] (Fine.nil W H) rfl, Bool.eq_false_iff]
  intro e
  apply h
  simp only [Bool.and_eq_true, decide_eq_true_eq, List.length_nil, Nat.zero_add] at e
  simp [chkC, hm, e.1, e.2]
theorem chkC_two (W H : Int) (tl : List Nat) (L : List Bd) : chkC W H tl L = 0 ∨ chkC W H tl L = 1 := by
  unfold chkC
  split
  · exact .inl rfl
  · exact .inr rfl
theorem RefMade.rl {w w' : World} {W H : Int} {tl : List Nat} {L : List Bd} {r : Nat} (h : RefMade w W H tl L r w') (hm : mt W H tl = true) (hb : ∀ x ∈ tl, x < 256) (hl : L.length ≤ 256) : Rl w' r W H tl L ∧ Below w.heap.size w w' := by
  obtain ⟨tv, bv, d1, d2, d3, d4, -⟩ := h
  exact ⟨⟨⟨⟨hm, hb⟩, hl⟩, tv, bv, _, d1, d2, d3⟩, d4⟩
theorem newp_ok {W H : Int} {tv bv : Value} {tl : List Nat} {L : List Bd} {w : World} (hv : TlR w tv tl) (hb : ∀ x ∈ tl, x < 256) (hl : BdR w bv L) (hc : chkC W H tl L = 0) :
    Calls Tryz.prog 23 #[mp W H tv bv] w fun e w' => ∃ p, e = .returned (.tuple #[ptr p, .int .i64 0]) ∧ Wn w' p W H tl (whoF L) ∧ Below w.heap.size w w' := by
  obtain ⟨hm, hlen, hok, hw⟩ := chkC_zero hc
  refine (new_good W H tv bv tl L w hv hb hl hm).mono ?_
  rintro e w' (⟨-, p, he, hM⟩ | ⟨h, -⟩)
  · have := hM.wn hm hb
    rw [hw] at this
    exact ⟨p, he, this.1, this.2⟩
  · rw [hok] at h; cases h
theorem newp_no {W H : Int} {tv bv : Value} {tl : List Nat} {L : List Bd} {w : World} (hv : TlR w tv tl) (hb : ∀ x ∈ tl, x < 256) (hl : BdR w bv L) (hc : chkC W H tl L ≠ 0) :
    Calls Tryz.prog 23 #[mp W H tv bv] w fun e w' => e = .returned (.tuple #[.pointer none, .int .i64 1]) ∧ Below w.heap.size w w' := by
  cases hm : mt W H tl
  · obtain ⟨a2, cap2, rfl, -⟩ := hl
    exact new_bad W H tv a2 L.length cap2 tl w hv hb hm
  · refine (new_good W H tv bv tl L w hv hb hl hm).mono ?_
    rintro e w' (⟨h, -⟩ | ⟨-, he, hB⟩)
    · rw [chkC_one hc hm] at h; cases h
    · exact ⟨he, hB⟩
theorem newr_ok {W H : Int} {tv bv : Value} {tl : List Nat} {L : List Bd} {w : World} (hv : TlR w tv tl) (hb : ∀ x ∈ tl, x < 256) (hl : BdR w bv L) (hc : chkC W H tl L = 0) :
    Calls Tryz.prog 24 #[mp W H tv bv] w fun e w' => ∃ r, e = .returned (.tuple #[ptr r, .int .i64 0]) ∧ Rl w' r W H tl L ∧ Below w.heap.size w w' := by
  obtain ⟨hm, hlen, -, -⟩ := chkC_zero hc
  refine (refnew_good W H tv bv tl L w hv hb hl hc).mono ?_
  rintro e w' ⟨r, he, hM⟩
  have := hM.rl hm hb hlen
  exact ⟨r, he, this.1, this.2⟩
/-- The box in which a map lies, whatever made memory since. -/
def MB (w : World) (k : Nat) (W H : Int) (tv bv : Value) : Prop := w.heap[k]? = some (.cells #[.int .i64 W, .int .i64 H, tv, bv] 25 (0, 0))
theorem MB.kept {w w' : World} {k : Nat} {W H : Int} {tv bv : Value} (h : MB w k W H tv bv) (hb : Below w.heap.size w w') : MB w' k W H tv bv := (hb.block k (Array.getElem?_eq_some_iff.1 h).1).trans h
theorem MB.c {w : World} {k : Nat} {W H : Int} {tv bv : Value} (h : MB w k W H tv bv) : w.cell? ⟨k, 0, none⟩ = some (.int .i64 W) ∧ w.cell? ⟨k, 1, none⟩ = some (.int .i64 H) ∧ w.cell? ⟨k, 2, none⟩ = some tv ∧ w.cell? ⟨k, 3, none⟩ = some bv :=
  ⟨cell_of_row w k 0 _ _ _ h, cell_of_row w k 1 _ _ _ h, cell_of_row w k 2 _ _ _ h, cell_of_row w k 3 _ _ _ h⟩
theorem MB.new (w : World) (W H : Int) (tv bv : Value) : MB (w.alloc (.cells #[.int .i64 W, .int .i64 H, tv, bv] 25)) w.heap.size W H tv bv := heap_alloc_new w _
set_option maxHeartbeats 1000000 in
theorem both_ok (W H : Int) (tv bv : Value) (tl : List Nat) (L : List Bd) (w : World) (hv : TlR w tv tl) (hb : ∀ x ∈ tl, x < 256) (hl : BdR w bv L) (hc : chkC W H tl L = 0) :
    Calls Tryz.prog 8 #[mp W H tv bv] w fun e w' => ∃ p r, e = .returned (.tuple #[ptr p, ptr r, .bool true]) ∧ Wn w' p W H tl (whoF L) ∧ Rl w' r W H tl L ∧ Below w.heap.size w w' := by
  have MX := MB.new w W H tv bv
  have B0 : Below w.heap.size w (w.alloc (.cells #[.int .i64 W, .int .i64 H, tv, bv] 25)) := box1 _ _
  obtain ⟨X, hX⟩ : ∃ X, w.alloc (.cells #[.int .i64 W, .int .i64 H, tv, bv] 25) = X := ⟨_, rfl⟩
  rw [hX] at MX B0
  have HN : Hid (∀ wx, Below w.heap.size w wx → Calls Tryz.prog 23 #[mp W H tv bv] wx fun e w' => ∃ p, e = .returned (.tuple #[ptr p, .int .i64 0]) ∧ Wn w' p W H tl (whoF L) ∧ Below wx.heap.size wx w') := hide fun wx hx => newp_ok (hv.kept hx) hb (hl.kept hx) hc
  have HR : Hid (∀ wx, Below w.heap.size w wx → Calls Tryz.prog 24 #[mp W H tv bv] wx fun e w' => ∃ r, e = .returned (.tuple #[ptr r, .int .i64 0]) ∧ Rl w' r W H tl L ∧ Below wx.heap.size wx w') := hide fun wx hx => newr_ok (hv.kept hx) hb (hl.kept hx) hc
  have hvf := hv
  have hlf := hl
  obtain ⟨a1, cap1, rfl, -⟩ := hvf
  obtain ⟨a2, cap2, rfl, -⟩ := hlf
  clear hv hl hc hb
  obtain ⟨m0, m1, m2, m3⟩ := MX.c
  go_enter Tryz.func8, Tryz.ntmps8
  go_wp2_with fail
  refine (HN.out _ B0).mono ?_
  rintro e w1 ⟨p, rfl, hW, hb1⟩
  have HW := hide hW
  have HB1 := hide hb1
  have M1 := MX.kept hb1
  clear hX m0 m1 m2 m3 MX hW hb1
  obtain ⟨m0, m1, m2, m3⟩ := M1.c
  go_wp2_with fail
  refine (HR.out _ (bt B0 HB1.out)).mono ?_
  rintro e w2 ⟨r, rfl, hR, hb2⟩
  have HRR := hide hR
  have HB2 := hide hb2
  clear m0 m1 m2 m3 M1 hR hb2
  go_wp2_with fail
  refine bodyPost_ret (v := .tuple #[ptr p, ptr r, .bool true]) (by simp [results, Tryz.results8, go_sem]) rfl ?_
  exact ⟨p, r, rfl, HW.out.kept HB2.out, HRR.out, bt B0 (bt HB1.out HB2.out)⟩
set_option maxHeartbeats 1000000 in
theorem both_no (W H : Int) (tv bv : Value) (tl : List Nat) (L : List Bd) (w : World) (hv : TlR w tv tl) (hb : ∀ x ∈ tl, x < 256) (hl : BdR w bv L) (hc : chkC W H tl L = 1) :
    Calls Tryz.prog 8 #[mp W H tv bv] w fun e w' => e = .returned (.tuple #[.pointer none, .pointer none, .bool false]) ∧ Below w.heap.size w w' := by
  have MX := MB.new w W H tv bv
  have B0 : Below w.heap.size w (w.alloc (.cells #[.int .i64 W, .int .i64 H, tv, bv] 25)) := box1 _ _
  obtain ⟨X, hX⟩ : ∃ X, w.alloc (.cells #[.int .i64 W, .int .i64 H, tv, bv] 25) = X := ⟨_, rfl⟩
  rw [hX] at MX B0
  have HN : Hid (∀ wx, Below w.heap.size w wx → Calls Tryz.prog 23 #[mp W H tv bv] wx fun e w' => e = .returned (.tuple #[.pointer none, .int .i64 1]) ∧ Below wx.heap.size wx w') := hide fun wx hx => newp_no (hv.kept hx) hb (hl.kept hx) (by omega)
  have HR : Hid (∀ wx, Below w.heap.size w wx → Calls Tryz.prog 24 #[mp W H tv bv] wx fun e w' => e = .returned (.tuple #[.pointer none, .int .i64 1]) ∧ Below wx.heap.size wx w') := hide fun wx hx => refnew_bad W H tv bv tl L wx (hv.kept hx) hb (hl.kept hx) hc
  have hvf := hv
  have hlf := hl
  obtain ⟨a1, cap1, rfl, -⟩ := hvf
  obtain ⟨a2, cap2, rfl, -⟩ := hlf
  clear hv hl hc hb
  obtain ⟨m0, m1, m2, m3⟩ := MX.c
  go_enter Tryz.func8, Tryz.ntmps8
  go_wp2_with fail
  refine (HN.out _ B0).mono ?_
  rintro e w1 ⟨rfl, hb1⟩
  have HB1 := hide hb1
  have M1 := MX.kept hb1
  clear hX m0 m1 m2 m3 MX hb1
  obtain ⟨m0, m1, m2, m3⟩ := M1.c
  go_wp2_with fail
  refine (HR.out _ (bt B0 HB1.out)).mono ?_
  rintro e w2 ⟨rfl, hb2⟩
  have HB2 := hide hb2
  clear m0 m1 m2 m3 M1 hb2
  go_wp2_with fail
  refine bodyPost_ret (v := .tuple #[.pointer none, .pointer none, .bool false]) (by simp [results, Tryz.results8, go_sem]) rfl ?_
  exact ⟨rfl, bt B0 (bt HB1.out HB2.out)⟩
end Go.Proofs.YthiafmlgialbnaaGreatDoor
namespace Go.Proofs.YthiafmlgialbnaaGreatDoor
open Go.RowKit
set_option linter.unusedVariables false
set_option linter.unusedSimpArgs false
theorem run_mv {P : Program} {ev : Operand → Value} {o : Oper} {w : World} {x : Operand} {v : Value} (ho : o.op = .move x) (hx : ev x = v) : (execOp ev o).run P w = .ok (.value v) w := by
  unfold execOp; rw [ho, ← hx]; rfl
theorem run_as {P : Program} {ev : Operand → Value} {o : Oper} {w : World} {x : Operand} {v : Value} (ho : o.op = .assign x) (hx : ev x = v) : (execOp ev o).run P w = .ok (.value v) w := by
  unfold execOp; rw [ho, ← hx]; rfl
theorem run_nc {P : Program} {ev : Operand → Value} {o : Oper} {w : World} {x : Operand} {ad : Addr} (ho : o.op = .nilCheck x) (hx : ev x = .pointer (some ad)) : (execOp ev o).run P w = .ok (.value (.pointer (some ad))) w := by
  unfold execOp; rw [ho]; simp only [hx]; rfl
theorem wp_only {c : Code} {Q : Exit → Act → World → Prop} {a : Act} {w : World} (h : Code.wp Tryz.prog c (Only (fun a' w' => Q .normal a' w')) a w) : Code.wp Tryz.prog c Q a w := by
  refine Code.wp_mono ?_ h
  rintro (_ | _ | _ | _ | _) a' w' hO
  all_goals first | exact hO.elim | exact hO
theorem Four.turned {S : Nat → Prop} {W W' : World} {k : Nat} {x y a b : Int} (h : Four W k x y a b) (ht : Turns S W W') (hs : ¬ S k) : Four W' k x y a b := by
  have hb := ht.block k h.2.2 hs
  have hc := fun o => World.cell?_of_block (a := ⟨k, o, none⟩) hb
  have hf := fun o => World.frozen?_of_block (a := ⟨k, o, none⟩) hb
  exact ⟨⟨(hc 0).trans h.1.1, (hc 1).trans h.1.2.1, (hc 2).trans h.1.2.2.1, (hc 3).trans h.1.2.2.2⟩, ⟨(hf 0).trans h.2.1.1, (hf 1).trans h.2.1.2.1, (hf 2).trans h.2.1.2.2.1, (hf 3).trans h.2.1.2.2.2⟩, Nat.lt_of_lt_of_le h.2.2 ht.size⟩
/-- A reached cell: where, at what cost, and what the whole way costs at least; p: which push brought it. -/
structure It where
  x : Int
  y : Int
  c : Int
  f : Int
  p : Int
def It.cs (t : It) : List Value := [.int .i64 t.x, .int .i64 t.y, .int .i64 t.c, .int .i64 t.f, .int .i64 t.p]
abbrev It.v (t : It) : Value := .agg #[.int .i64 t.x, .int .i64 t.y, .int .i64 t.c, .int .i64 t.f, .int .i64 t.p]
abbrev rv (x y c f : Int) : Value := .agg #[.int .i64 x, .int .i64 y, .int .i64 c, .int .i64 f]
abbrev fn31 : Value := .func (.func 164) #[] #[]
/-- In block b lies a heap: its row of items, how many were pushed, whether its order is at work. -/
def Hp (w : World) (b : Nat) (v : Value) (n : Int) (q : Bool) : Prop := w.heap[b]? = some (.cells #[fn31, v, .int .i64 n, .bool q] 247 (0, 0))
section
variable {w w' : World} {b : Nat} {v : Value} {n : Int} {q : Bool}
theorem Hp.lt (h : Hp w b v n q) : b < w.heap.size := (Array.getElem?_eq_some_iff.1 h).1
theorem Hp.kept {S : Nat → Prop} (h : Hp w b v n q) (ht : Turns S w w') (hs : ¬ S b) : Hp w' b v n q := ht.same hs h
theorem Hp.c (h : Hp w b v n q) (j : Nat) : w.cell? ⟨b, j, none⟩ = (#[fn31, v, .int .i64 n, .bool q] : Array Value)[j]? := cell_of_row w b j _ _ _ h
theorem Hp.f (h : Hp w b v n q) (j : Nat) : w.frozen? ⟨b, j, none⟩ = false := by
  have h' : w.heap[b]? = _ := h
  simp [World.frozen?, h']
theorem Hp.ne_row (h : Hp w b v n q) {u : Value} {e : TypeId} {k m : Nat} {xs : List Value} (hv : w.ownsRow 0 e k u m xs) (he : e ≠ 247) : u.ownBlock ≠ some b := by
  intro hh
  rcases hv.2 with ⟨rfl, _⟩ | ⟨g, cap, cur, rfl, hb, hg, _⟩
  · simp [Value.ownBlock] at hh
  · simp [Value.ownBlock] at hh
    subst hh
    rw [show w.heap[g]? = _ from h] at hg
    simp at hg
    exact he hg.2.symm
theorem Hp.set1 (h : Hp w b v n q) (u : Value) : Hp (w.setCell ⟨b, 1, none⟩ u) b u n q := by
  have h' : w.heap[b]? = _ := h
  have hlt := h.lt
  unfold Hp
  simp [World.setCell, Array.getElem?_modify, h']
theorem Hp.set2 (h : Hp w b v n q) (m : Int) : Hp (w.setCell ⟨b, 2, none⟩ (.int .i64 m)) b v m q := by
  have h' : w.heap[b]? = _ := h
  have hlt := h.lt
  unfold Hp
  simp [World.setCell, Array.getElem?_modify, h']
theorem Hp.set3 (h : Hp w b v n q) (r : Bool) : Hp (w.setCell ⟨b, 3, none⟩ (.bool r)) b v n r := by
  have h' : w.heap[b]? = _ := h
  have hlt := h.lt
  unfold Hp
  simp [World.setCell, Array.getElem?_modify, h']
end
theorem neq_nil (w : World) : Sem.run Tryz.prog (binOp .neq 214 fn31 .nilFunc) w = .ok (.bool true) w := by kernel_rfl
theorem eql_nil (w : World) : Sem.run Tryz.prog (binOp .eql 214 fn31 .nilFunc) w = .ok (.bool false) w := by kernel_rfl
theorem ahead_any (x y c f x2 y2 c2 f2 : Int) (w : World) : Calls Tryz.prog 164 #[rv x y c f, rv x2 y2 c2 f2] w fun e w' => e = .returned (.bool (decide (f < f2))) ∧ w' = (w.alloc (.cells #[.int .i64 x, .int .i64 y, .int .i64 c, .int .i64 f] 184)).alloc (.cells #[.int .i64 x2, .int .i64 y2, .int .i64 c2, .int .i64 f2] 184) := by
  go_enter Tryz.func164, Tryz.ntmps164
  go_wp2
  go_ret
  exact ⟨rfl, rfl⟩
/-- The order's watch: it tells that the order is no longer at work. -/
theorem watch_idle (b c : Nat) (v : Value) (n : Int) (q : Bool) (w : World) (h : Hp w b v n q) (hc : w.cell? ⟨c, 0, none⟩ = some (ptr b)) :
    CallsD Tryz.prog 214 #[.pointer (some ⟨c, 0, none⟩)] .returning w fun e u' w' => e = .returned (.tuple #[]) ∧ u' = .returning ∧ w' = w.setCell ⟨b, 3, none⟩ (.bool false) := by
  have c3 : w.cell? ⟨b, 3, none⟩ = some (.bool q) := h.c 3
  have f3 := h.f 3
  refine callsD_of_wpS Tryz.func214 rfl fun c₀ cs hu => ?_
  apply wpS_seq
  apply wpS_region
  simp [wpOpsS, go_sem, recoverD, hu, hc, c3, f3, Tryz.ntmps214, Exit.thenS]
  apply wpS_region
  cases c₀
  simp_all [wpOpsS, go_sem, recoverD, bodyPostS, results, Tryz.results214, Tryz.ntmps214, Exit.thenS]
theorem turns_any (b : Nat) (v : Value) (n : Int) (q : Bool) (w : World) (h : Hp w b v n q) :
    Calls Tryz.prog 206 #[ptr b] w fun e w' => e = .returned (.bool (!q)) ∧ w' = w := by
  have c0 : w.cell? ⟨b, 0, none⟩ = some fn31 := h.c 0
  have c3 : w.cell? ⟨b, 3, none⟩ = some (.bool q) := h.c 3
  have hq := neq_nil
  go_enter Tryz.func206, Tryz.ntmps206
  go_wp2
  go_ret
  exact ⟨rfl, rfl⟩
theorem hlen_any (b : Nat) (a : Option Addr) (m cap : Nat) (n : Int) (q : Bool) (w : World) (h : Hp w b (.slice a m cap) n q) :
    Calls Tryz.prog 208 #[ptr b] w fun e w' => e = .returned (.int .i64 (m : Nat)) ∧ w' = w := by
  have c1 : w.cell? ⟨b, 1, none⟩ = some (.slice a m cap) := h.c 1
  go_enter Tryz.func208, Tryz.ntmps208
  go_wp2
  go_ret
  exact ⟨rfl, rfl⟩
theorem hnew_any (w : World) : Calls Tryz.prog 163 #[fn31] w fun e w' => e = .returned (ptr w.heap.size) ∧ w' = w.alloc (.cells #[fn31, .slice none 0 0, .int .i64 0, .bool false] 247) := by
  have hq := eql_nil
  go_enter Tryz.func163, Tryz.ntmps163
  go_wp2
  go_ret
  exact ⟨rfl, rfl⟩
end Go.Proofs.YthiafmlgialbnaaGreatDoor
set_option linter.unusedSimpArgs false
namespace Go.Proofs.YthiafmlgialbnaaGreatDoor
open Go.RowKit
set_option linter.unusedVariables false
theorem idx_lt {w h x y : Nat} (hx : x < w) (hy : y < h) : y * w + x < w * h := by
  have h1 : (y + 1) * w ≤ h * w := Nat.mul_le_mul_right w hy
  rw [Nat.succ_mul, Nat.mul_comm h w] at h1
  omega
theorem idx_mod {w x y : Nat} (hx : x < w) : (y * w + x) % w = x ∧ (y * w + x) / w = y := by
  rw [Nat.mul_comm y w, Nat.mul_add_mod, Nat.mod_eq_of_lt hx, Nat.mul_add_div (by omega), Nat.div_eq_of_lt hx]
  exact ⟨rfl, rfl⟩
section
variable {α : Type} {t k : Nat} {cs : α → List Value} {w w' : World} {v : Value} {l : List α}
/-- The slice v reads as the list l, each of k cells. -/
def Rw (t k : Nat) (cs : α → List Value) (w : World) (v : Value) (l : List α) : Prop := w.ownsRow 0 t k v l.length (l.flatMap cs)
theorem rw_get (hk : ∀ a, (cs a).length = k) : ∀ (l : List α) (i : Nat) (x : α) (j : Nat), l[i]? = some x → j < k → (l.flatMap cs)[i * k + j]? = (cs x)[j]?
  | [], i, x, j, h, _ => by simp at h
  | s :: r, 0, x, j, h, hj => by
    simp at h; subst h
    rw [List.flatMap_cons, Nat.zero_mul, Nat.zero_add, List.getElem?_append_left (by rw [hk]; exact hj)]
  | s :: r, i + 1, x, j, h, hj => by
    simp at h
    have e : (i + 1) * k = i * k + k := Nat.succ_mul i k
    rw [List.flatMap_cons, List.getElem?_append_right (by rw [hk]; omega)]
    rw [← rw_get hk r i x j h hj, hk]
    congr 1
    omega
theorem Rw.kept {S : Nat → Prop} (h : Rw t k cs w v l) (ht : Turns S w w') (hs : ∀ g, v.ownBlock = some g → ¬ S g) : Rw t k cs w' v l := by
  refine ⟨h.1, ?_⟩
  rcases h.2 with h1 | ⟨g, cap, cur, e, hb, hg, r⟩
  · exact .inl h1
  · exact .inr ⟨g, cap, cur, e, hb, ht.same (hs g (by rw [e]; rfl)) hg, r⟩
theorem Rw.upto (h : Rw t k cs w v l) (hb : Below w.heap.size w w') : Rw t k cs w' v l := h.kept (Turns.of_below (S := NoB) hb) (fun _ _ s => s)
theorem Rw.blk (h : Rw t k cs w v l) {g : Nat} (hg : v.ownBlock = some g) : ∃ cur, w.heap[g]? = some (.cells cur t (0, 0)) := by
  rcases h.2 with ⟨e, -⟩ | ⟨g', cap, cur, e, -, hc, -⟩
  · rw [e] at hg; cases hg
  · rw [e] at hg; cases hg; exact ⟨cur, hc⟩
theorem Rw.form (hk : ∀ a, (cs a).length = k) (h : Rw t k cs w v l) : ∃ a cap, v = .slice a l.length cap ∧ l.length ≤ cap ∧ ∀ i x, l[i]? = some x → ∃ g, a = some ⟨g, 0, none⟩ ∧ g < w.heap.size ∧ ∀ j u, (cs x)[j]? = some u → w.cell? ⟨g, i * k + j, none⟩ = some u := by
  rcases h.2 with ⟨e, h0⟩ | ⟨g, cap, cur, e, hb, hg, hn, hm, hs, ht⟩
  · exact ⟨none, 0, by rw [h0]; exact e, by omega, fun i x hi => by
      have := List.eq_nil_of_length_eq_zero h0; subst this; simp at hi⟩
  · refine ⟨_, cap, e, hn, fun i x hi => ⟨g, rfl, (Array.getElem?_eq_some_iff.1 hg).1, fun j u hu => ?_⟩⟩
    have hj : j < k := by rw [← hk x]; exact (List.getElem?_eq_some_iff.1 hu).1
    have := h.cells (g := g) (by rw [e]; rfl) (i * k + j) u (by rw [rw_get hk l i x j hi hj]; exact hu)
    simpa [Addr.add_lit] using this
theorem Rw.nil (t k : Nat) (cs : α → List Value) (w : World) : Rw t k cs w (.slice none 0 0) [] := World.ownsRow_nil _ _ _ _
end
theorem two_kept {S : Nat → Prop} {W W' : World} {k : Nat} {u v : Int} (h : Two W k u v) (ht : Turns S W W') (hs : ¬ S k) : Two W' k u v := by
  have hb := ht.block k h.2.2 hs
  have hf : ∀ o, W'.frozen? ⟨k, o, none⟩ = W.frozen? ⟨k, o, none⟩ := fun o => by simp [World.frozen?, hb]
  exact ⟨⟨ht.cell hs h.1.1, ht.cell hs h.1.2⟩, ⟨(hf 0).trans h.2.1.1, (hf 1).trans h.2.1.2⟩, Nat.lt_of_lt_of_le h.2.2 ht.size⟩
end Go.Proofs.YthiafmlgialbnaaGreatDoor
set_option linter.unusedSimpArgs false
namespace Go.Proofs.YthiafmlgialbnaaGreatDoor
open Go.RowKit
set_option linter.unusedVariables false
set_option linter.unusedSimpArgs false
/-- Four numbers: a rectangle, or two cells. -/
structure Q4 where
  x : Int
  y : Int
  a : Int
  b : Int
def Q4.cs (t : Q4) : List Value := [.int .i64 t.x, .int .i64 t.y, .int .i64 t.a, .int .i64 t.b]
theorem Q4.cs_len (t : Q4) : t.cs.length = 4 := rfl
abbrev Q4.v (t : Q4) : Value := .agg #[.int .i64 t.x, .int .i64 t.y, .int .i64 t.a, .int .i64 t.b]
/-- The slice v reads as the list L. -/
abbrev Rq (ty : Nat) (w : World) (v : Value) (L : List Q4) : Prop := Rw ty 4 Q4.cs w v L
theorem info48q : (Tryz.prog.info? 49).map (fun i => (i.zero, i.size, i.bytes)) = some (some (.agg #[.int .i64 0, .int .i64 0, .int .i64 0, .int .i64 0]), 4, 32) := by kernel_rfl
theorem info64q : (Tryz.prog.info? 122).map (fun i => (i.zero, i.size, i.bytes)) = some (some (.agg #[.int .i64 0, .int .i64 0, .int .i64 0, .int .i64 0]), 4, 32) := by kernel_rfl
theorem wpList_append_run12 {P : Program} {w : World} {ops : Array Oper} {rest : List Oper} {o : Oper} {a : Act} {Q : Exit → Act → World → Prop}
    (hgd : o.guard = none) (s x : Operand) (t : TypeId) (ho : o.op = .call { callee := .builtin .append, args := #[s, x], argTypes := #[t, t] })
    (v xv : Value) (hs : a.eval s = v) (hx : a.eval x = xv) {v' : Value} {w' : World} (hr : (Builtin.append_ #[t, t] o.type #[v, xv]).run P w = .ok v' w') (h : wpList P ops Q rest (a.put o.dst v') w') :
    wpList P ops Q (o :: rest) a w := by
  refine wpList_plain hgd fun K hK => ?_
  unfold Oper.wp
  simp [execOp, ho, resolve, invoke, builtin, hs, hx, hr, Result.andThen]
  exact hK _ _ h
theorem flat_len (L : List Q4) : (L.flatMap Q4.cs).length = L.length * 4 := by
  induction L with
  | nil => rfl
  | cons t r ih => rw [List.flatMap_cons, List.length_append, ih, Q4.cs_len, List.length_cons]; omega
theorem cs_one (L : List Q4) : ∀ u ∈ L.flatMap Q4.cs, u.oneCell' = true := by
  intro u hu
  obtain ⟨t, -, h⟩ := List.mem_flatMap.1 hu
  simp [Q4.cs] at h
  rcases h with rfl | rfl | rfl | rfl <;> rfl
section
variable {ty st : Nat} {w : World} {v : Value} {L : List Q4}
theorem Rw.slice4 (h : Rq ty w v L) : ∃ a c, v = .slice a L.length c := by
  obtain ⟨a, cap, e, -⟩ := Rw.form Q4.cs_len h
  exact ⟨a, cap, e⟩
/-- More of them behind. -/
theorem Rw.more (hu : Tryz.prog.underlying st = some (.slice ty)) (hi : (Tryz.prog.info? ty).map (fun i => (i.zero, i.size, i.bytes)) = some (some (.agg #[.int .i64 0, .int .i64 0, .int .i64 0, .int .i64 0]), 4, 32))
    (h : Rq ty w v L) {M : List Q4} {a : Addr} {c : Nat} (hM : ∀ j u, (M.flatMap Q4.cs)[j]? = some u → w.cell? (a.add j) = some u) (hlen : L.length + M.length ≤ 1000000000) :
    ∃ v' w', (Builtin.append_ #[st, st] st #[v, .slice (some a) M.length c]).run Tryz.prog w = .ok v' w' ∧ Rq ty w' v' (L ++ M) ∧ (∀ k, v'.ownBlock = some k → v.ownBlock = some k ∨ w.heap.size ≤ k) ∧ Turns (fun k => v.ownBlock = some k) w w' := by
  obtain ⟨fi, hf, hz, h1, h8⟩ := info_parts hi
  obtain ⟨v', w', q1, q2, q3, q4, q5⟩ := run_append_own_at (P := Tryz.prog) w 0 st st ty fi (.agg #[.int .i64 0, .int .i64 0, .int .i64 0, .int .i64 0]) 4 32 hu hf hz h1 h8 rfl (by decide) v L.length _ h a M.length c (M.flatMap Q4.cs) (flat_len M) hM (cs_one M) (by unfold maxLen; omega) (by omega) (Nat.zero_le _)
  refine ⟨v', w', q1, ?_, fun k e => ?_, Turns.of_grown (S := fun k => v.ownBlock = some k) q3 (fun k e => e)⟩
  · unfold Rq Rw
    rw [List.flatMap_append, List.length_append]
    exact q2
  · rcases q5 with q | q
    · exact .inl (q ▸ e)
    · rw [q] at e; cases e; exact .inr (Nat.le_refl _)
/-- One more behind. -/
theorem Rw.push4 (hu : Tryz.prog.underlying st = some (.slice ty)) (hi : (Tryz.prog.info? ty).map (fun i => (i.zero, i.size, i.bytes)) = some (some (.agg #[.int .i64 0, .int .i64 0, .int .i64 0, .int .i64 0]), 4, 32))
    (h : Rq ty w v L) (t : Q4) (hlen : L.length ≤ 1000000) :
    ∃ v' w', (Builtin.append_ #[st, st] st #[v, .slice (some ⟨w.heap.size, 0, none⟩) 1 1]).run Tryz.prog (w.alloc (.cells #[.int .i64 t.x, .int .i64 t.y, .int .i64 t.a, .int .i64 t.b] ty)) = .ok v' w' ∧ Rq ty w' v' (L ++ [t]) ∧ (∀ k, v'.ownBlock = some k → v.ownBlock = some k ∨ w.heap.size < k) ∧ Turns (fun k => v.ownBlock = some k) w w' := by
  obtain ⟨v', w', q1, q2, q3, q4⟩ := Rw.more (c := 1) hu hi (h.upto (box1 w (.cells #[.int .i64 t.x, .int .i64 t.y, .int .i64 t.a, .int .i64 t.b] ty))) (M := [t]) (a := ⟨w.heap.size, 0, none⟩) (fun j u hu => by
      rw [Addr.add_lit, Nat.zero_add, cell_of_row _ w.heap.size j _ _ _ (heap_alloc_new w _)]
      simpa [Q4.cs] using hu) (by simp; omega)
  refine ⟨v', w', q1, q2, fun k e => ?_, (Turns.of_below (box1 w _)).trans (q4.mono (fun k _ e => .inl e))⟩
  rcases q3 k e with q | q
  · exact .inl q
  · simp at q; exact .inr (by omega)
theorem Rw.own_some {v : Value} {L : List Q4} {r : Q4} (h : Rq ty w v (L ++ [r])) : ∃ g cap, v = .slice (some ⟨g, 0, none⟩) (L.length + 1) cap ∧ g < w.heap.size ∧ v.ownBlock = some g := by
  rcases h.2 with ⟨_, e⟩ | ⟨g, cap, cur, e, hb, hg, r⟩
  · simp at e
  · exact ⟨g, cap, by simpa using e, (Array.getElem?_eq_some_iff.1 hg).1, by rw [e]; rfl⟩
theorem Rw.lastq {g cap : Nat} {r : Q4} (h : Rq ty w (.slice (some ⟨g, 0, none⟩) (L.length + 1) cap) (L ++ [r])) :
    (w.cell? ⟨g, L.length * 4, none⟩ = some (.int .i64 r.x) ∧ w.cell? ⟨g, L.length * 4 + 1, none⟩ = some (.int .i64 r.y) ∧ w.cell? ⟨g, L.length * 4 + 2, none⟩ = some (.int .i64 r.a) ∧ w.cell? ⟨g, L.length * 4 + 3, none⟩ = some (.int .i64 r.b)) ∧ ∀ o, w.frozen? ⟨g, o, none⟩ = false := by
  have hc : ∀ o u, r.cs[o]? = some u → o < 4 → w.cell? ⟨g, L.length * 4 + o, none⟩ = some u := fun o u hu ho => by
    have := World.ownsRow.cells h (g := g) rfl (L.length * 4 + o) u (by rw [rw_get Q4.cs_len (L ++ [r]) L.length r o (by simp) ho]; exact hu)
    simpa [Addr.add_lit] using this
  refine ⟨⟨hc 0 _ rfl (by omega), hc 1 _ rfl (by omega), hc 2 _ rfl (by omega), hc 3 _ rfl (by omega)⟩, fun o => ?_⟩
  rcases h.2 with ⟨e, _⟩ | ⟨g', cap', cur, e, hb, hg, r⟩
  · cases e
  · simp only [Value.slice.injEq, Option.some.injEq, Addr.mk.injEq, and_true, true_and] at e
    obtain ⟨rfl, -⟩ := e
    simp [World.frozen?, hg]
theorem flat_set (L : List Q4) (r : Q4) (j : Nat) (u : Value) (hj : j < 4) : ((L ++ [r]).flatMap Q4.cs).set (L.length * 4 + j) u = L.flatMap Q4.cs ++ r.cs.set j u := by
  rw [List.flatMap_append, List.set_append_right _ _ (by rw [flat_len]; omega), flat_len]
  simp
theorem Rw.setq {g cap : Nat} {r r' : Q4} (h : Rq ty w (.slice (some ⟨g, 0, none⟩) (L.length + 1) cap) (L ++ [r])) (j : Nat) (u : Value) (hj : j < 4) (hr : r.cs.set j u = r'.cs) :
    Rq ty (w.setCell ⟨g, L.length * 4 + j, none⟩ u) (.slice (some ⟨g, 0, none⟩) (L.length + 1) cap) (L ++ [r']) := by
  have h' : w.ownsRow 0 ty 4 (.slice (some ⟨g, 0, none⟩) (L.length + 1) cap) (L.length + 1) ((L ++ [r]).flatMap Q4.cs) := by simpa [Rq, Rw] using h
  have q := (World.ownsRow.stored h' (L.length * 4 + j) u).1
  rw [flat_set L r j u hj, hr] at q
  simpa [Rq, Rw] using q
/-- The last one written anew. -/
theorem Rw.set4q {g cap : Nat} {r : Q4} (h : Rq ty w (.slice (some ⟨g, 0, none⟩) (L.length + 1) cap) (L ++ [r])) (t : Q4) :
    Rq ty ((((w.setCell ⟨g, L.length * 4, none⟩ (.int .i64 t.x)).setCell ⟨g, L.length * 4 + 1, none⟩ (.int .i64 t.y)).setCell ⟨g, L.length * 4 + 2, none⟩ (.int .i64 t.a)).setCell ⟨g, L.length * 4 + 3, none⟩ (.int .i64 t.b)) (.slice (some ⟨g, 0, none⟩) (L.length + 1) cap) (L ++ [t]) ∧
    Turns (fun j => j = g) w ((((w.setCell ⟨g, L.length * 4, none⟩ (.int .i64 t.x)).setCell ⟨g, L.length * 4 + 1, none⟩ (.int .i64 t.y)).setCell ⟨g, L.length * 4 + 2, none⟩ (.int .i64 t.a)).setCell ⟨g, L.length * 4 + 3, none⟩ (.int .i64 t.b)) := by
  constructor
  · have q0 := h.setq (r' := ⟨t.x, r.y, r.a, r.b⟩) 0 (.int .i64 t.x) (by decide) rfl
    have q1 := q0.setq (r' := ⟨t.x, t.y, r.a, r.b⟩) 1 (.int .i64 t.y) (by decide) rfl
    have q2 := q1.setq (r' := ⟨t.x, t.y, t.a, r.b⟩) 2 (.int .i64 t.a) (by decide) rfl
    exact q2.setq (r' := t) 3 (.int .i64 t.b) (by decide) rfl
  · exact (((Turns.set (S := fun j => j = g) w (p := ⟨g, L.length * 4, none⟩) rfl _).trans ((Turns.set (S := fun j => j = g) _ (p := ⟨g, L.length * 4 + 1, none⟩) rfl _).mono (fun _ _ h => .inl h))).trans ((Turns.set (S := fun j => j = g) _ (p := ⟨g, L.length * 4 + 2, none⟩) rfl _).mono (fun _ _ h => .inl h))).trans ((Turns.set (S := fun j => j = g) _ (p := ⟨g, L.length * 4 + 3, none⟩) rfl _).mono (fun _ _ h => .inl h))
end
end Go.Proofs.YthiafmlgialbnaaGreatDoor
