/-
  The law's own 'written': an item's bytes by the program and by the document.
-/
import Derived.Test.YtaioniegggfcjaaRefWrite
import Derived.Deep.RegionHeld
namespace Go.Proofs.Ytaioniegggfcjaa
open Go.RowKit
set_option linter.unusedVariables false
def sgn (n : Nat) : Int := if n < 9223372036854775808 then (n : Int) else (n : Int) - 18446744073709551616
theorem sgn_range {n : Nat} (h : n < 18446744073709551616) : -9223372036854775808 ≤ sgn n ∧ sgn n ≤ 9223372036854775807 := by
  unfold sgn; split <;> omega
/-- An item's bytes. -/
def ib (d : Int) (n : Nat) (b : List Nat) : List Nat :=
  if d = 0 then enc n else if d = 1 then enc (zig (sgn n)) else if d = 2 then le 4 (n % 4294967296) else if d = 3 then le 8 n else if d = 6 then enc b.length ++ b else []
theorem hs_of {wr w' : World} {p q : Addr} {u v : Value} (h1 : wr.cell? p = some u) (h2 : wr.cell? q = some v) (hp : p.block < wr.heap.size) (hq : q.block < wr.heap.size) (h : Below wr.heap.size wr w') :
    (w'.cell? p = some u ∧ w'.cell? q = some v) ∧ Below wr.heap.size wr w' := ⟨⟨by rw [h.cell hp]; exact h1, by rw [h.cell hq]; exact h2⟩, h⟩
theorem hs_drew {wr : World} {p q : Addr} {u v : Value} (h1 : wr.cell? p = some u) (h2 : wr.cell? q = some v) : (wr.drew.cell? p = some u ∧ wr.drew.cell? q = some v) ∧ Below wr.heap.size wr wr.drew := ⟨⟨h1, h2⟩, (Below.refl _ _).drew⟩
theorem hs_below {wr w' : World} {A : Prop} (h : A ∧ Below wr.heap.size wr w') : Below wr.heap.size wr w' := h.2
theorem below_next {wr w' w1 : World} {A : Prop} (hb : Below w'.heap.size w' w1) (h : A ∧ Below wr.heap.size wr w') : Below wr.heap.size wr w1 := h.2.trans (hb.mono h.2.size)
/-- What 'written' tells. -/
def Wrote (w : World) (v : Value) (l : List Nat) (c : List Nat) (e : Ending) (w' : World) : Prop :=
  ∃ a1 n1 c1 a2 n2 c2, e = .returned (.tuple #[.slice a1 n1 c1, .slice a2 n2 c2]) ∧ Bys w' (.slice a2 n2 c2) c ∧ (Mine w.heap.size w' (.slice a1 n1 c1) (l ++ c) ∨ (.slice a1 n1 c1 = v ∧ c = [])) ∧ Below w.heap.size w w'
theorem wrote_end {w W w1 : World} {v v1 v2 : Value} {l c : List Nat} (hw : Below w.heap.size w W) (hB : Below W.heap.size W w1) (h1 : Mine W.heap.size w1 v1 (l ++ c)) (h2 : Bys w1 v2 c) : Wrote w v l c (.returned (.tuple #[v1, v2])) w1 := by
  obtain ⟨a1, c1, rfl, _, _⟩ := h1.bys.sl
  obtain ⟨a2, c2, rfl, _, _⟩ := h2.sl
  exact ⟨_, _, _, _, _, _, rfl, h2, Or.inl (h1.mono hw.size), hw.trans (hB.mono hw.size)⟩
/-- The item's box, and what stands in it. -/
structure Box (w W : World) (d z m : Int) (sa : Option Addr) (sn sc : Nat) : Prop where
  eq : W = w.alloc (.cells #[.int .i64 d, .int .u64 z, .slice sa sn sc, .int .i64 m] 28)
  c0 : W.cell? ⟨w.heap.size, 0, none⟩ = some (.int .i64 d)
  c1 : W.cell? ⟨w.heap.size, 1, none⟩ = some (.int .u64 z)
  c2 : W.cell? ⟨w.heap.size, 2, none⟩ = some (.slice sa sn sc)
  lt : w.heap.size < W.heap.size
  below : Below w.heap.size w W
theorem box_is (w : World) (d z m : Int) (sa : Option Addr) (sn sc : Nat) : ∃ W, Box w W d z m sa sn sc :=
  ⟨_, rfl, by go_simp, by go_simp, by go_simp, by simp, (Below.refl _ _).alloc (Nat.le_refl _) _⟩
theorem below_two {W w' w1 w2 : World} (h : Below W.heap.size W w') (h1 : Below w'.heap.size w' w1) (h2 : Below w1.heap.size w1 w2) : Below W.heap.size W w2 := (below_trans h h1).trans (h2.mono (below_trans h h1).size)
theorem sgn_wrap (n : Nat) (h : n < 18446744073709551616) : wrap64 (n : Int) = sgn n := by unfold wrap64 sgn; split <;> omega
theorem low32 (n : Nat) (h : n < 18446744073709551616) : bits .and .u64 (n : Int) 4294967295 = ((n % 4294967296 : Nat) : Int) := by
  have e := bits_and_u64_nat n 4294967295 h (by omega)
  have e2 : n &&& 4294967295 = n % 4294967296 := Nat.and_two_pow_sub_one_eq_mod n 32
  rw [e2] at e
  exact e
set_option maxHeartbeats 1000000 in
theorem written_0 (w : World) (v : Value) (l : List Nat) (n : Nat) (sa : Option Addr) (sn sc : Nat) (m : Int) (hv : Bys w v l) (hn : n < 18446744073709551616) (hlen : l.length + 10 ≤ 140737488355328) :
    Calls Try.prog 8 #[v, .agg #[.int .i64 0, .int .u64 (n : Nat), .slice sa sn sc, .int .i64 m]] w (Wrote w v l (enc n)) := by
  obtain ⟨z, hz⟩ : ∃ z : Int, z = n := ⟨_, rfl⟩
  obtain ⟨W, hW⟩ := box_is w 0 z m sa sn sc
  have Hv := hide (hv.kept hW.below)
  have Huv := hide (fun (w' : World) (h : Below W.heap.size W w') => uvarint_any w' v l n (Hv.out.kept h) hn hlen)
  have Href := hide (fun (w' : World) => refuv_any w' n hn)
  rw [← hz] at Huv Href ⊢
  have HW := hide hW
  have cj := hW.c1
  have cs := hW.c2
  have hlt := hW.lt
  clear hW hv hn hlen hz
  go_enter Try.func8, Try.ntmps8
  go_wp2_with fail
  rw [← HW.out.eq]
  go_region_held (fun w' => (w'.cell? ⟨w.heap.size, 1, none⟩ = some (.int .u64 z) ∧ w'.cell? ⟨w.heap.size, 2, none⟩ = some (.slice sa sn sc)) ∧ Below W.heap.size W w')
    (first | exact hs_drew cj cs | exact hs_of cj cs hlt hlt (by assumption))
    (first
      | (go_at_call 21; refine (Huv.out _ (hs_below (by assumption))).mono ?_; rintro e w1 ⟨v1, rfl, hm1, hb1⟩; have hB1 := below_next (wr := W) hb1 (by assumption))
      | (go_at_call 25; refine (Href.out _).mono ?_; rintro e w2 ⟨v2, rfl, hm2, hb2⟩; have hB2 := below_next (wr := W) hb2 (by assumption)))
  all_goals
    go_wp2_with fail
    go_ret2
    exact wrote_end HW.out.below hB2 (hm1.kept hb2) hm2.bys
set_option maxHeartbeats 1000000 in
theorem written_1 (w : World) (v : Value) (l : List Nat) (n : Nat) (sa : Option Addr) (sn sc : Nat) (m : Int) (hv : Bys w v l) (hn : n < 18446744073709551616) (hlen : l.length + 10 ≤ 140737488355328) :
    Calls Try.prog 8 #[v, .agg #[.int .i64 1, .int .u64 (n : Nat), .slice sa sn sc, .int .i64 m]] w (Wrote w v l (enc (zig (sgn n)))) := by
  obtain ⟨z, hz⟩ : ∃ z : Int, z = n := ⟨_, rfl⟩
  obtain ⟨W, hW⟩ := box_is w 1 z m sa sn sc
  have Hv := hide (hv.kept hW.below)
  have Huv := hide (fun (w' : World) (h : Below W.heap.size W w') => varint_any w' v l (sgn n) (Hv.out.kept h) (sgn_range hn) hlen)
  have Href := hide (fun (w' : World) => refvr_any w' (sgn n) (sgn_range hn))
  have hw := sgn_wrap n hn
  have hw2 : IntKind.i64.wrap (n : Int) = sgn n := by rw [IntKind.wrap_i64]; unfold sgn; split <;> omega
  rw [← hz] at hw hw2 ⊢
  generalize sgn n = sn1 at *
  have HW := hide hW
  have cj := hW.c1
  have cs := hW.c2
  have hlt := hW.lt
  clear hW hv hn hlen hz
  go_enter Try.func8, Try.ntmps8
  go_wp2_with fail
  rw [← HW.out.eq]
  go_region_held (fun w' => (w'.cell? ⟨w.heap.size, 1, none⟩ = some (.int .u64 z) ∧ w'.cell? ⟨w.heap.size, 2, none⟩ = some (.slice sa sn sc)) ∧ Below W.heap.size W w')
    (first | exact hs_drew cj cs | exact hs_of cj cs hlt hlt (by assumption))
    (first
      | (go_at_call 22; refine (Huv.out _ (hs_below (by assumption))).mono ?_; rintro e w1 ⟨v1, rfl, hm1, hb1⟩; have hB1 := below_next (wr := W) hb1 (by assumption))
      | (go_at_call 26; refine (Href.out _).mono ?_; rintro e w2 ⟨v2, rfl, hm2, hb2⟩; have hB2 := below_next (wr := W) hb2 (by assumption)))
  all_goals
    go_wp2_with fail
    go_ret2
    exact wrote_end HW.out.below hB2 (hm1.kept hb2) hm2.bys
end Go.Proofs.Ytaioniegggfcjaa
