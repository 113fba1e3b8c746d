/-
  'written' at bytes, and at what is not written; at any item.
-/
import Derived.Test.YtaioniegggfcjaaWrittenB
import Derived.Deep.RegionHeld3
namespace Go.Proofs.Ytaioniegggfcjaa
open Go.RowKit
set_option linter.unusedVariables false
theorem step_append_mine {ops : Array Oper} {o : Oper} {a : Act} {w : World} {K : Act → World → Prop} {Q : Exit → Act → World → Prop} {E : Prop}
    (hg : o.guard = none) (s x : Operand) (hop : o.op = Op.call { callee := Callee.builtin Builtin.append, args := #[s, x], argTypes := #[22, 22] })
    (base : Nat) (v vx : Value) (l m : List Nat) (hs : a.eval s = v) (hx : a.eval x = vx) (hv : Mine base w v l) (hm : Bys w vx m) (hlen : l.length + m.length ≤ 140737488355328) (hb : base ≤ w.heap.size)
    (hK : ∀ v' w', Appended base w v (l ++ m) v' w' → K (a.put o.dst v') w') :
    if Region.wanted o (yielded ops a.tmps) = true then Oper.wp Try.prog o a w K Q else E := by
  have hw : Region.wanted o (yielded ops a.tmps) = true := by simp [Region.wanted, hg]
  rw [if_pos hw]
  obtain ⟨v', w', hrun, r⟩ := run_append_mine w base o.type v vx l m hv hm hlen hb
  unfold Oper.wp
  simp [execOp, hop, resolve, invoke, builtin, hs, hx, hrun, Result.andThen]
  exact hK v' w' r
theorem below_app {W w' w0 : World} {A : Prop} {l : List Nat} {v0 : Value} (h : A ∧ Below W.heap.size W w') (hap : Appended w'.heap.size w' (.slice none 0 0) l v0 w0) : Below W.heap.size W w0 := h.2.trans (hap.fresh.mono h.2.size)
set_option maxHeartbeats 1000000 in
theorem written_6 (w : World) (v : Value) (l b : List Nat) (n : Int) (sa : Option Addr) (sn sc : Nat) (m : Int) (hv : Bys w v l) (hb : Bys w (.slice sa sn sc) b) (hlen : l.length + 10 + b.length ≤ 140737488355328) :
    Calls Try.prog 8 #[v, .agg #[.int .i64 6, .int .u64 n, .slice sa sn sc, .int .i64 m]] w (Wrote w v l (enc b.length ++ b)) := by
  obtain ⟨W, hW⟩ := box_is w 6 n m sa sn sc
  have Hv := hide (hv.kept hW.below)
  have Hs := hide (hb.kept hW.below)
  have Huv := hide (fun (w' : World) (x : Value) (h : Below W.heap.size W w') (hx : Bys w' x b) => bytesw_any w' v x l b (Hv.out.kept h) hx hlen)
  have Href := hide (fun (w' : World) (h : Below W.heap.size W w') => refbytes_any w' (.slice sa sn sc) b (Hs.out.kept h) (by omega))
  have Hlen : Hid (([] : List Nat).length + b.length ≤ 140737488355328) := by show _ ≤ _; simp only [List.length_nil]; omega
  have HW := hide hW
  have cj := hW.c1
  have cs := hW.c2
  have hlt := hW.lt
  clear hW hv hlen hb
  go_enter Try.func8, Try.ntmps8
  go_wp2_with fail
  rw [← HW.out.eq]
  go_region_held3 (fun w' => (w'.cell? ⟨w.heap.size, 1, none⟩ = some (.int .u64 n) ∧ w'.cell? ⟨w.heap.size, 2, none⟩ = some (.slice sa sn sc)) ∧ Below W.heap.size W w')
    (first | exact hs_drew cj cs | exact hs_of cj cs hlt hlt (by assumption))
    (first
      | (go_at_call 30; refine (Huv.out _ _ hB0 hap.1.bys).mono ?_; rintro e w1 ⟨v1, rfl, hm1, hb1⟩; have hB1 := below_trans hB0 hb1)
      | (go_at_call 31; refine (Href.out _ hB1).mono ?_; rintro e w2 ⟨v2, rfl, hm2, hb2⟩; have hB2 := below_trans hB1 hb2)
      | (refine step_append_mine rfl (.tmp 52) (.tmp 54) rfl _ (.slice none 0 0) (.slice sa sn sc) [] b (by simp [Act.eval]) (by simp [Act.eval]) (Mine.nil _ _) (Hs.out.kept (hs_below (by assumption))) Hlen.out (Nat.le_refl _) ?_; intro v0 w0 hap; have hB0 := below_app (W := W) (by assumption) hap))
  all_goals
    go_wp2_with fail
    go_ret2
    exact wrote_end HW.out.below hB2 ((hm1.kept hb2).mono hB0.size) hm2.bys
theorem written_none (w : World) (v : Value) (l : List Nat) (d n : Int) (sa : Option Addr) (sn sc : Nat) (m : Int) (hv : Bys w v l) (h0 : d ≠ 0) (h1 : d ≠ 1) (h2 : d ≠ 2) (h3 : d ≠ 3) (h6 : d ≠ 6) :
    Calls Try.prog 8 #[v, .agg #[.int .i64 d, .int .u64 n, .slice sa sn sc, .int .i64 m]] w (Wrote w v l []) := by
  have e0 : (d == 0) = false := by simp; exact h0
  have e1 : (d == 1) = false := by simp; exact h1
  have e2 : (d == 2) = false := by simp; exact h2
  have e3 : (d == 3) = false := by simp; exact h3
  have e6 : (d == 6) = false := by simp; exact h6
  obtain ⟨a, c, rfl, _, _⟩ := hv.sl
  clear h0 h1 h2 h3 h6 hv
  go_enter Try.func8, Try.ntmps8
  go_wp2_with fail
  go_ret2
  exact ⟨_, _, _, _, _, _, rfl, Bys.nil _, Or.inr ⟨rfl, rfl⟩, (Below.refl _ _).alloc (Nat.le_refl _) _⟩
theorem ib_len (d : Int) (n : Nat) (b : List Nat) (hn : n < 18446744073709551616) (hb : b.length < 18446744073709551616) : (ib d n b).length ≤ 10 + b.length := by
  unfold ib
  split
  · have := enc_len hn; omega
  split
  · have := enc_len (zig_lt (sgn_range hn)); omega
  split
  · rw [le_length]; omega
  split
  · rw [le_length]; omega
  split
  · rw [List.length_append]; have := enc_len hb; omega
  · simp
theorem written_any (w : World) (v : Value) (l b : List Nat) (d : Int) (n : Nat) (s : Value) (m : Int) (hv : Bys w v l) (hs : Bys w s b) (hn : n < 18446744073709551616) (hlen : l.length + 10 + b.length ≤ 140737488355328) :
    Calls Try.prog 8 #[v, .agg #[.int .i64 d, .int .u64 (n : Nat), s, .int .i64 m]] w (Wrote w v l (ib d n b)) := by
  obtain ⟨a, c, rfl, _, _⟩ := hs.sl
  unfold ib
  by_cases h0 : d = 0
  · subst h0; rw [if_pos rfl]; exact written_0 w v l n a _ c m hv hn (by omega)
  rw [if_neg h0]
  by_cases h1 : d = 1
  · subst h1; rw [if_pos rfl]; exact written_1 w v l n a _ c m hv hn (by omega)
  rw [if_neg h1]
  by_cases h2 : d = 2
  · subst h2; rw [if_pos rfl]; exact written_2 w v l n a _ c m hv hn (by omega)
  rw [if_neg h2]
  by_cases h3 : d = 3
  · subst h3; rw [if_pos rfl]; exact written_3 w v l n a _ c m hv hn (by omega)
  rw [if_neg h3]
  by_cases h6 : d = 6
  · subst h6; rw [if_pos rfl]; exact written_6 w v l b n a _ c m hv hs hlen
  rw [if_neg h6]
  exact written_none w v l d n a _ c m hv h0 h1 h2 h3 h6
end Go.Proofs.Ytaioniegggfcjaa
