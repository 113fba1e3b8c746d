/-
  What package wire writes, for every number and every bytes ahead of it.
-/
import Derived.Test.YtaioniegggfcjaaNums
namespace Go.Proofs.Ytaioniegggfcjaa
open Go.RowKit
set_option linter.unusedVariables false
theorem ended_any (w : World) (a : Option Addr) (n cap : Nat) (h : n ≤ cap) :
    Calls Try.prog 43 #[.slice a n cap] w fun e w' => e = .returned (.slice a n n) ∧ w' = w := by
  go_enter Try.func43, Try.ntmps43
  go_wp2
  go_ret
  exact ⟨rfl, rfl⟩
/-- Bytes that append goes on from: no room behind them, or room of their own. -/
def Takes (base : Nat) (w : World) (v : Value) (l : List Nat) : Prop :=
  (∃ a, v = .slice a l.length l.length ∧ Bys w v l) ∨ Mine base w v l
theorem Takes.alloc {base : Nat} {w : World} {v : Value} {l : List Nat} (h : Takes base w v l) (o : Obj) : Takes base (w.alloc o) v l := by
  rcases h with ⟨a, h1, h2⟩ | h
  · exact Or.inl ⟨a, h1, h2.alloc o⟩
  · exact Or.inr (h.alloc o)
theorem wpList_append_takes {w : World} {ops : Array Oper} {rest : List Oper} {o : Oper} {a : Act} {Q : Exit → Act → World → Prop}
    (hg : o.guard = none) (s x : Operand) (hop : o.op = Op.call { callee := Callee.builtin Builtin.append, args := #[s, x], argTypes := #[22, 22] })
    (base : Nat) (v vx : Value) (l m : List Nat) (hs : a.eval s = v) (hx : a.eval x = vx) (hv : Takes base w v l) (hm : Bys w vx m) (hne : m ≠ []) (hlen : l.length + m.length ≤ 140737488355328) (hb : base ≤ w.heap.size)
    (hK : ∀ v' w', Mine base w' v' (l ++ m) → Below base w w' → wpList Try.prog ops Q rest (a.put o.dst v') w') : wpList Try.prog ops Q (o :: rest) a w := by
  rcases hv with ⟨ao, rfl, hv⟩ | hv
  · exact wpList_append_full hg s x hop ao vx l.length l m rfl hs hx hv hm hne hlen (fun v' w' h => hK v' w' (h.1.mono hb) (h.fresh.mono hb))
  · exact wpList_append_mine hg s x hop base v vx l m hs hx hv hm hlen hb (fun v' w' h => hK v' w' h.1 (h.below hb (fun k hk => (hv.block k hk).1)))
theorem or_more (n : Nat) (h : n < 256) : bits .or .u8 (n : Int) 128 = ((n % 128 + 128 : Nat) : Int) := by
  have key : ∀ n : Fin 256, bits .or .u8 ((n.val : Nat) : Int) 128 = ((n.val % 128 + 128 : Nat) : Int) := by decide +kernel
  exact key ⟨n, h⟩
theorem Bys.shape {w : World} {v : Value} {l : List Nat} (h : Bys w v l) : ∃ a cap, v = .slice a l.length cap ∧ l.length ≤ cap ∧ Bys w (.slice a l.length l.length) l := by
  obtain ⟨hs, hl, a, cap, rfl, hc, ha, hr⟩ := h
  exact ⟨a, cap, rfl, hc, hs, hl, a, l.length, rfl, Nat.le_refl _, fun h => by have := ha h; omega, hr⟩
theorem cells_one (n : Int) (d : Nat) (h : n = (d : Int)) : #[Value.int IntKind.u8 n] = (cellsOf [d]).toArray := by subst h; rfl
set_option maxHeartbeats 400000 in
theorem uvarint_any (w : World) (v : Value) (l : List Nat) (x : Nat) (hv : Bys w v l) (hx : x < 18446744073709551616) (hlen : l.length + 10 ≤ 140737488355328) :
    Calls Try.prog 21 #[v, .int .u64 (x : Nat)] w fun e w' => ∃ v', e = .returned v' ∧ Mine w.heap.size w' v' (l ++ enc x) ∧ Below w.heap.size w w' := by
  obtain ⟨a, cap, rfl, hc, hb⟩ := hv.shape
  have Hl : Hid (l.length + (enc x).length ≤ 140737488355328) := by have := enc_len hx; show _ ≤ _; omega
  have Hx := hide hx
  clear hv hlen hx
  have Hb := hide hb
  clear hb
  go_enter Try.func21, Try.ntmps21
  go_wp2_with fail
  refine (ended_any _ _ _ _ hc).mono ?_; rintro e wz ⟨rfl, hwz⟩; rw [hwz]; clear hwz wz
  go_wp2_with fail
  go_loopw [0, 1] (fun v n wr => ∃ (m : List Nat) (y : Nat), n = .int .u64 (y : Nat) ∧ y < 18446744073709551616 ∧ Takes w.heap.size wr v m ∧ Below w.heap.size w wr ∧ l ++ enc x = m ++ enc y) (fun _ n _ => (intOf n).toNat)
  case atStart => exact ⟨l, x, rfl, Hx.out, Or.inl ⟨a, rfl, Hb.out⟩, Below.refl _ _, rfl⟩
  case round =>
    obtain ⟨m, y, rfl, hy, htk, hbl, he⟩ := hrel
    have Hlen : Hid (m.length + 1 ≤ 140737488355328) := by
      have hlen2 := congrArg List.length he
      rw [List.length_append, List.length_append] at hlen2
      have hp := enc_pos y
      have := Hl.out
      show _ ≤ _
      omega
    have Hs : Hid (w.heap.size ≤ wr.heap.size) := hbl.size
    have He := hide he
    have Htk := hide htk
    have Hbl := hide hbl
    have Hy := hide hy
    clear he htk hbl hy
    rcases Nat.lt_or_ge y 128 with h | h
    · have hi : (y : Int) < 128 := by omega
      have hi0 : (0 : Int) ≤ y := by omega
      have Hh := hide h
      clear h
      obtain ⟨z, hz⟩ : ∃ z : Int, z = y := ⟨_, rfl⟩
      rw [← hz] at hi hi0 ⊢
      have Hz := hide hz
      clear hz
      go_wp2_with (first | (at_builtin; refine wpList_append_takes rfl _ _ rfl w.heap.size _ _ m [y] rfl rfl (Htk.out.alloc _) (bys_built wr [y] (small_one (by have := Hh.out; omega)) (by simp) _ ?c0 _ rfl) (by simp) Hlen.out ?c2 ?_) | go_in)
      case c0 => exact cells_one _ _ (by have := Hz.out; omega)
      case c2 => have := Hs.out; simp; omega
      intro v' w2 hm hb2
      have hfin : Mine w.heap.size w2 v' (l ++ enc x) := by rw [He.out, enc_last Hh.out]; exact hm
      have hB := hide ((Hbl.out.alloc Hs.out _).trans hb2)
      have Hfin := hide hfin
      clear hm hb2 hfin
      go_wp2_with fail
      go_ret
      exact ⟨v', rfl, Hfin.out, hB.out⟩
    · have hi : 128 ≤ (y : Int) := by omega
      have hi2 : (y : Int) < 18446744073709551616 := by have := Hy.out; omega
      have Hh := hide h
      clear h
      go_wp2_with (first | (at_builtin; refine wpList_append_takes rfl _ _ rfl w.heap.size _ _ m [y % 128 + 128] rfl rfl (Htk.out.alloc _) (bys_built wr [y % 128 + 128] (small_one (by omega)) (by simp) _ ?c0 _ rfl) (by simp) Hlen.out ?c2 ?_) | go_in)
      case c0 => exact cells_one _ _ (by rw [show (y : Int) % 256 = ((y % 256 : Nat) : Int) by omega, or_more _ (by omega)]; omega)
      case c2 => have := Hs.out; simp; omega
      intro v' w2 hm hb2
      have hB := hide ((Hbl.out.alloc Hs.out _).trans hb2)
      have Hm := hide hm
      clear hm hb2
      go_wp2_with fail
      go_roundw
      case rel =>
        have := Hy.out
        exact ⟨m ++ [y % 128 + 128], y / 128, by congr 1, by omega, Or.inr Hm.out, hB.out, by rw [He.out, enc_more Hh.out]; simp⟩
      case measure => simp [intOf]; have := Hh.out; omega
end Go.Proofs.Ytaioniegggfcjaa
