/-
  What package wire writes: numbers with sign, four and eight bytes, bytes.
-/
import Derived.Test.YtaioniegggfcjaaNumber
namespace Go.Proofs.Ytaioniegggfcjaa
open Go.RowKit
set_option linter.unusedVariables false
theorem varint_any (w : World) (v : Value) (l : List Nat) (x : Int) (hv : Bys w v l) (hx : -9223372036854775808 ≤ x ∧ x ≤ 9223372036854775807) (hlen : l.length + 10 ≤ 140737488355328) :
    Calls Try.prog 22 #[v, .int .i64 x] w fun e w' => ∃ v', e = .returned v' ∧ Mine w.heap.size w' v' (l ++ enc (zig x)) ∧ Below w.heap.size w w' := by
  have H := hide (uvarint_any w v l (zig x) hv (zig_lt hx) hlen)
  rw [← zig_bits x hx] at H
  clear hv
  go_enter Try.func22, Try.ntmps22
  go_wp2_with fail
  refine H.out.mono ?_
  rintro e w1 ⟨v', rfl, hm, hb⟩
  have Hm := hide hm
  have Hb := hide hb
  clear hm hb
  go_wp2_with fail
  go_ret
  exact ⟨v', rfl, Hm.out, Hb.out⟩
theorem cells_four (a b c d : Int) (n : Nat) (ha : a = ((n % 256 : Nat) : Int)) (hb : b = ((n / 256 % 256 : Nat) : Int)) (hc : c = ((n / 65536 % 256 : Nat) : Int)) (hd : d = ((n / 16777216 % 256 : Nat) : Int)) :
    #[Value.int IntKind.u8 a, Value.int IntKind.u8 b, Value.int IntKind.u8 c, Value.int IntKind.u8 d] = (cellsOf (le 4 n)).toArray := by
  subst ha hb hc hd
  simp [le, cellsOf, Nat.div_div_eq_div_mul]
theorem fixed4w_any (w : World) (v : Value) (l : List Nat) (x : Nat) (hv : Bys w v l) (hx : x < 4294967296) (hlen : l.length + 4 ≤ 140737488355328) :
    Calls Try.prog 27 #[v, .int .u32 (x : Nat)] w fun e w' => ∃ v', e = .returned v' ∧ Mine w.heap.size w' v' (l ++ le 4 x) ∧ Below w.heap.size w w' := by
  obtain ⟨a, cap, rfl, hc, hb⟩ := hv.shape
  have Hb := hide hb
  have Hl : Hid (l.length + (le 4 x).length ≤ 140737488355328) := by show _ ≤ _; rw [le_length]; exact hlen
  have hz0 : (0 : Int) ≤ x := by omega
  have hz1 : (x : Int) < 4294967296 := by omega
  obtain ⟨z, hz⟩ : ∃ z : Int, z = x := ⟨_, rfl⟩
  rw [← hz] at hz0 hz1 ⊢
  have Hz := hide hz
  clear hv hb hlen hx hz
  go_enter Try.func27, Try.ntmps27
  go_wp2_with fail
  refine (ended_any _ _ _ _ hc).mono ?_; rintro e wz ⟨rfl, hwz⟩; rw [hwz]; clear hwz wz
  go_wp2_with (first | (at_builtin; refine wpList_append_full rfl _ _ rfl a _ l.length l (le 4 x) rfl rfl rfl (Hb.out.alloc _) (bys_built w (le 4 x) (small_le _ _) (by rw [le_length]; omega) _ ?c0 _ (le_length _ _).symm) (by intro h; have := congrArg List.length h; rw [le_length] at this; simp at this) Hl.out ?_) | fail)
  case c0 => exact cells_four _ _ _ _ x (by have := Hz.out; omega) (by have := Hz.out; omega) (by have := Hz.out; omega) (by have := Hz.out; omega)
  intro v' w' hap
  have Hap := hide hap
  clear hap
  go_wp2_with fail
  go_ret
  refine ⟨v', rfl, Hap.out.1.mono (by omega), ?_⟩
  exact ((Below.refl _ _).alloc (Nat.le_refl _) _).trans (grown_below Hap.out.2.1 (by simp) (fun k hk => by simp [Value.ownBlock] at hk))
theorem le_eight (x : Nat) : le 4 (x % 4294967296) ++ le 4 (x / 4294967296) = le 8 x := by
  simp only [le, List.cons_append, List.nil_append, List.cons.injEq, and_true]
  omega
theorem fixed8w_any (w : World) (v : Value) (l : List Nat) (x : Nat) (hv : Bys w v l) (hx : x < 18446744073709551616) (hlen : l.length + 8 ≤ 140737488355328) :
    Calls Try.prog 29 #[v, .int .u64 (x : Nat)] w fun e w' => ∃ v', e = .returned v' ∧ Mine w.heap.size w' v' (l ++ le 8 x) ∧ Below w.heap.size w w' := by
  have h1 := fixed4w_any w v l (x % 4294967296) hv (by omega) (by omega)
  have H2 := fun (w1 : World) (v1 : Value) (h : Bys w1 v1 (l ++ le 4 (x % 4294967296))) => fixed4w_any w1 v1 _ (x / 4294967296) h (by omega) (by rw [List.length_append, le_length]; omega)
  have e1 : ((x % 4294967296 : Nat) : Int) = (x : Int) % 4294967296 := by omega
  have e2 : ((x / 4294967296 : Nat) : Int) = (x : Int) / 4294967296 := by omega
  rw [e1] at h1
  rw [e2] at H2
  have hz0 : (0 : Int) ≤ x := by omega
  have hz1 : (x : Int) < 18446744073709551616 := by omega
  generalize ((x : Nat) : Int) = z at *
  have H := hide h1
  have HH := hide H2
  clear hv h1 H2 e1 e2 hx
  go_enter Try.func29, Try.ntmps29
  go_wp2_with fail
  refine H.out.mono ?_
  rintro e w1 ⟨v1, rfl, hm, hb⟩
  have Hm := hide hm
  have Hb := hide hb
  clear hm hb
  go_wp2_with fail
  refine (HH.out w1 v1 Hm.out.bys).mono ?_
  rintro e w2 ⟨v2, rfl, hm, hb⟩
  rw [List.append_assoc, le_eight] at hm
  have Hm2 := hide (hm.mono Hb.out.size)
  have Hb2 := hide (below_trans Hb.out hb)
  clear hm hb
  go_wp2_with fail
  go_ret
  exact ⟨v2, rfl, Hm2.out, Hb2.out⟩
theorem bytesw_any (w : World) (v s : Value) (l m : List Nat) (hv : Bys w v l) (hs : Bys w s m) (hlen : l.length + 10 + m.length ≤ 140737488355328) :
    Calls Try.prog 30 #[v, s] w fun e w' => ∃ v', e = .returned v' ∧ Mine w.heap.size w' v' (l ++ (enc m.length ++ m)) ∧ Below w.heap.size w w' := by
  have H := hide (uvarint_any w v l m.length hv (by omega) (by omega))
  have Hs := hide hs
  have hel := enc_len (n := m.length) (by omega)
  obtain ⟨a, cap, rfl, hc, _⟩ := hs.sl
  have hz0 : (0 : Int) ≤ m.length := by omega
  have hz1 : (m.length : Int) < 18446744073709551616 := by omega
  have Hl : Hid ((l ++ enc m.length).length + m.length ≤ 140737488355328) := by show _ ≤ _; rw [List.length_append]; omega
  clear hv hs hel hlen
  go_enter Try.func30, Try.ntmps30
  go_wp2_with fail
  refine H.out.mono ?_
  rintro e w1 ⟨v1, rfl, hm, hb⟩
  have Hm := hide hm
  have Hb := hide hb
  clear hm hb
  go_wp2_with (first | (at_builtin; refine wpList_append_mine rfl _ _ rfl w.heap.size _ _ (l ++ enc m.length) m rfl rfl Hm.out (Hs.out.kept Hb.out) Hl.out Hb.out.size ?_) | fail)
  intro v' w' hap
  have Hap := hide hap
  clear hap
  go_wp2_with fail
  go_ret
  refine ⟨v', rfl, Hap.out.1, ?_⟩
  exact Hb.out.trans (Hap.out.below Hb.out.size (fun k hk => (Hm.out.block k hk).1))
end Go.Proofs.Ytaioniegggfcjaa
