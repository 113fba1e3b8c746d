/-
  The number at the beginning of bytes, as package wire reads it.
-/
import Derived.Test.YtaioniegggfcjaaAwake
namespace Go.Proofs.Ytaioniegggfcjaa
open Go.RowKit
set_option linter.unusedVariables false
def lift (k acc : Nat) (o : Option (Nat × Nat)) : Option (Nat × Nat) := o.map fun p => (acc + 128 ^ k * p.1, k + p.2)
theorem lift_zero (o : Option (Nat × Nat)) : lift 0 0 o = o := by
  cases o <;> simp [lift]
theorem lift_more (k acc d : Nat) (l : List Nat) (hk : k < 10) (hd : 128 ≤ d) : lift k acc (dec k (d :: l)) = lift (k + 1) (acc + 128 ^ k * (d - 128)) (dec (k + 1) l) := by
  simp only [dec]
  rw [if_neg (by omega), if_pos hd]
  cases dec (k + 1) l with
  | none => simp only [lift, Option.map_none]
  | some p =>
    obtain ⟨x, y⟩ := p
    have e : acc + 128 ^ k * (d - 128 + 128 * x) = acc + 128 ^ k * (d - 128) + 128 ^ (k + 1) * x := by
      rw [Nat.mul_add, Nat.pow_succ, Nat.mul_assoc, Nat.add_assoc]
    show some (acc + 128 ^ k * (d - 128 + 128 * x), k + (y + 1)) = some (acc + 128 ^ k * (d - 128) + 128 ^ (k + 1) * x, k + 1 + y)
    rw [e, show k + (y + 1) = k + 1 + y by omega]
theorem dec_last (k d : Nat) (l : List Nat) (hk : k < 10) (hd : d < 128) : dec k (d :: l) = if d = 0 ∧ 0 < k ∨ 1 < d ∧ k = 9 then none else some (d, 1) := by
  simp only [dec]
  rw [if_neg (by omega), if_neg (by omega)]
theorem dec_end (k : Nat) (l : List Nat) (h : 10 ≤ k) : dec k l = none := by
  cases l with
  | nil => rfl
  | cons d l => simp only [dec]; rw [if_pos h]
def numN (l : List Nat) : Nat := ((dec 0 l).map Prod.fst).getD 0
def numK (l : List Nat) : Nat := ((dec 0 l).map Prod.snd).getD 0
theorem and_more (n : Nat) (h : n < 256) : bits .and .u8 (n : Int) 128 = if 128 ≤ n then 128 else 0 := by
  have key : ∀ n : Fin 256, bits .and .u8 ((n.val : Nat) : Int) 128 = if 128 ≤ n.val then 128 else 0 := by decide +kernel
  exact key ⟨n, h⟩
theorem andNot_more (n : Nat) (h : n < 256) : bits .andNot .u8 (n : Int) 128 = ((n % 128 : Nat) : Int) := by
  have key : ∀ n : Fin 256, bits .andNot .u8 ((n.val : Nat) : Int) 128 = ((n.val % 128 : Nat) : Int) := by decide +kernel
  exact key ⟨n, h⟩
theorem Bys.sl {w : World} {v : Value} {l : List Nat} (h : Bys w v l) : ∃ a cap, v = .slice a l.length cap ∧ l.length ≤ cap ∧ ∀ k, k < l.length → ∃ b o, a = some ⟨b, o, none⟩ ∧ w.cell? ⟨b, o + k, none⟩ = some (.int .u8 (dig l k : Nat)) := by
  obtain ⟨hs, hl, a, cap, rfl, hc, ha, hr⟩ := h
  refine ⟨a, cap, rfl, hc, fun k hk => ?_⟩
  obtain ⟨b, o, rfl, e2, e3⟩ := hr (fun e => by subst e; simp at hk)
  exact ⟨b, o, rfl, e3 k hk⟩
theorem ret_ii {k l : IntKind} {a b : Int} {p q : Int} (h : a = b) (h2 : p = q) : Ending.returned (.tuple #[.int k a, .int l p]) = .returned (.tuple #[.int k b, .int l q]) := by rw [h, h2]
theorem ret_i {k : IntKind} {a b : Int} (h : a = b) : Ending.returned (.int k a) = .returned (.int k b) := by rw [h]
theorem num_some {l : List Nat} {n k : Nat} (h : dec 0 l = some (n, k)) : numN l = n ∧ numK l = k := by simp [numN, numK, h]
theorem num_none {l : List Nat} (h : dec 0 l = none) : numN l = 0 ∧ numK l = 0 := by simp [numN, numK, h]
theorem pow_128 (k : Nat) : (128 : Nat) ^ k = 2 ^ (7 * k) := by rw [Nat.pow_mul]
theorem or_digit (k acc x : Nat) (hk : k < 10) (hacc : acc < 128 ^ k) (hx : x < 128) (h9 : k < 9 ∨ x ≤ 1) : bits .or .u64 (acc : Int) (IntKind.u64.wrap ((x : Int) * 2 ^ (7 * k))) = ((acc + 128 ^ k * x : Nat) : Int) := by
  have hb : 128 ^ k * x < 18446744073709551616 := by
    match k, hk, h9 with
    | 0, _, _ => simp only [Nat.reducePow]; omega
    | 1, _, _ => simp only [Nat.reducePow]; omega
    | 2, _, _ => simp only [Nat.reducePow]; omega
    | 3, _, _ => simp only [Nat.reducePow]; omega
    | 4, _, _ => simp only [Nat.reducePow]; omega
    | 5, _, _ => simp only [Nat.reducePow]; omega
    | 6, _, _ => simp only [Nat.reducePow]; omega
    | 7, _, _ => simp only [Nat.reducePow]; omega
    | 8, _, _ => simp only [Nat.reducePow]; omega
    | 9, _, h9 => simp only [Nat.reducePow]; omega
  have ha : acc < 18446744073709551616 := Nat.lt_of_lt_of_le hacc (by
    have : (128 : Nat) ^ k ≤ 128 ^ 9 := Nat.pow_le_pow_right (by omega) (by omega)
    have e : (128 : Nat) ^ 9 = 9223372036854775808 := by decide
    omega)
  have e1 : (x : Int) * 2 ^ (7 * k) = ((128 ^ k * x : Nat) : Int) := by
    rw [pow_128]; push_cast; exact Int.mul_comm _ _
  have e2 : IntKind.u64.wrap ((128 ^ k * x : Nat) : Int) = ((128 ^ k * x : Nat) : Int) := by rw [IntKind.wrap_u64]; omega
  rw [e1, e2, bits_or_u64_nat _ _ ha hb]
  congr 1
  rw [pow_128] at hacc ⊢
  rw [Nat.or_comm, Nat.mul_comm, Nat.add_comm, ← Nat.shiftLeft_eq, ← Nat.shiftLeft_add_eq_or_of_lt hacc]
set_option maxHeartbeats 400000 in
theorem number_any (w : World) (v : Value) (l : List Nat) (hv : Bys w v l) :
    Calls Try.prog 38 #[v] w fun e w' => e = .returned (.tuple #[.int .u64 (numN l : Nat), .int .i64 (numK l : Nat)]) ∧ w' = w := by
  obtain ⟨a, cap, rfl, hc, hcell⟩ := hv.sl
  have Hs := hide hv.small
  clear hv
  obtain ⟨n, hn⟩ : ∃ n, n = l.length := ⟨_, rfl⟩
  rw [← hn] at hc hcell ⊢
  have Hn := hide hn
  have Hcell := hide hcell
  clear hn hcell
  rcases Nat.lt_or_ge 10 n with hcase | hcase
  have hz : (10 : Int) < n := by omega
  rotate_left
  have hz : (n : Int) ≤ 10 := by omega
  all_goals
    have Hcase := hide hcase
    clear hcase
    go_enter Try.func38, Try.ntmps38
    go_wp2_with fail
    go_loop [4, 13] (fun q i => ∃ k : Nat, i = .int .i64 (k : Int) ∧ k ≤ 10 ∧ k ≤ n ∧ ∃ z : Int, q = .int .u64 z ∧ ((k ≤ 9 ∧ ∃ acc : Nat, z = acc ∧ acc < 128 ^ k ∧ dec 0 l = lift k acc (dec k (l.drop k))) ∨ k = 10 ∧ dec 0 l = none)) (fun _ i => 10 - (intOf i).toNat)
    case atStart => exact ⟨0, rfl, by omega, by omega, 0, rfl, Or.inl ⟨by omega, 0, rfl, by omega, by rw [lift_zero]; rfl⟩⟩
    case round =>
      obtain ⟨k, rfl, hk10, hkn, z, rfl, hacc⟩ := hrel
      by_cases hk : k < n ∧ k < 10
      · have hk1 : (k : Int) < n := by omega
        have hk2 : (k : Int) < 10 := by omega
        have hk3 : (0 : Int) ≤ k := by omega
        obtain ⟨b, o, rfl, hck⟩ := Hcell.out k hk.1
        have hd := drop_dig (l := l) (k := k) (by have := Hn.out; omega)
        have hx := Hs.out k
        obtain ⟨acc, rfl, hacc2, hdec⟩ : ∃ acc : Nat, z = acc ∧ acc < 128 ^ k ∧ dec 0 l = lift k acc (dec k (l.drop k)) := by
          rcases hacc with ⟨_, h⟩ | ⟨h, _⟩
          · exact h
          · omega
        rw [hd] at hdec
        have Hacc := hide hacc2
        have Hdec := hide hdec
        have Hk := hide hk
        clear hacc hacc2 hdec hd hk hkn hk10
        generalize dig l k = x at *
        rcases Nat.lt_or_ge x 128 with hx1 | hx1
        · have b1 : bits .and .u8 (x : Int) 128 = 0 := by rw [and_more x hx, if_neg (by omega)]
          have b2 : bits .andNot .u8 (x : Int) 128 = (x : Int) := by rw [andNot_more x hx]; omega
          have hdec := Hdec.out
          have hlast := dec_last k x (l.drop (k + 1)) Hk.out.2 hx1
          rw [hlast] at hdec
          clear hlast
          rcases Nat.eq_zero_or_pos x with rfl | hx0
          · rcases Nat.eq_zero_or_pos k with rfl | hk0
            · rw [if_neg (by omega)] at hdec
              have hacc0 : acc = 0 := by have := Hacc.out; simp at this; omega
              subst hacc0
              have hnum := hide (num_some (l := l) (n := 0) (k := 1) (by rw [hdec]; rfl))
              have hb0 : bits .or .u64 (0 : Int) 0 = 0 := by decide +kernel
              have hck0 : w.cell? ⟨b, o, none⟩ = some (.int .u8 0) := by simpa using hck
              clear hdec hx1 hx hck
              go_wp2_with fail
              go_ret2
              exact ⟨ret_ii (by rw [hnum.out.1]; decide +kernel) (by rw [hnum.out.2]; simp), rfl⟩
            · rw [if_pos (by omega)] at hdec
              have hnum := hide (num_none (l := l) (by rw [hdec]; rfl))
              have hkz : (0 : Int) < k := by omega
              clear hdec hx1 hx
              go_wp2_with fail
              go_ret2
              exact ⟨ret_ii (by rw [hnum.out.1]; simp) (by rw [hnum.out.2]; simp), rfl⟩
          · by_cases hbad : 1 < x ∧ k = 9
            · rw [if_pos (by omega)] at hdec
              have hnum := hide (num_none (l := l) (by rw [hdec]; rfl))
              obtain ⟨hb1, rfl⟩ := hbad
              have hq1 : (1 : Int) < x := by omega
              have hq2 : ¬ (x : Int) = 0 := by omega
              have hq3 : ((x : Int) == 0) = false := by simp; omega
              obtain ⟨y, hy⟩ : ∃ y : Int, y = x := ⟨_, rfl⟩
              rw [← hy] at b1 b2 hck hq1 hq2 hq3
              clear hdec hx1 hx hb1 hy hx0
              go_wp2_with fail
              go_ret2
              exact ⟨ret_ii (by rw [hnum.out.1]; simp) (by rw [hnum.out.2]; simp), rfl⟩
            · rw [if_neg (by omega)] at hdec
              have hnum := hide (num_some (l := l) (n := acc + 128 ^ k * x) (k := k + 1) (by rw [hdec]; rfl))
              have hor := or_digit k acc x Hk.out.2 Hacc.out hx1 (by have := Hk.out; omega)
              rw [← hnum.out.1] at hor
              have hq2 : ¬ (x : Int) = 0 := by omega
              have hq3 : ((x : Int) == 0) = false := by simp; omega
              have hq4 : IntKind.u64.wrap (x : Int) = x := by rw [IntKind.wrap_u64]; omega
              have hq5 : 1 < (x : Int) → ((k : Int) == 9) = false := by intro h; simp; omega
              have hq6 : ((k + 1 : Nat) : Int) = (numK l : Nat) := by rw [hnum.out.2]
              have Hq6 := hide hq6
              obtain ⟨y, hy⟩ : ∃ y : Int, y = x := ⟨_, rfl⟩
              obtain ⟨A, hA⟩ : ∃ A : Int, A = acc := ⟨_, rfl⟩
              rw [← hy] at b1 b2 hck hq2 hq3 hq4 hq5 hor
              rw [← hA] at hor ⊢
              have Hor := hide hor
              clear hdec hx1 hx hbad hy hx0 hq6 hA hnum hor
              go_wp2_with fail
              all_goals
                go_ret2
                refine ⟨ret_ii ?_ (by have := Hq6.out; omega), rfl⟩
                exact Hor.out
        · have b1 : bits .and .u8 (x : Int) 128 = 128 := by rw [and_more x hx, if_pos (by omega)]
          obtain ⟨y, hy⟩ : ∃ y : Int, y = ((x - 128 : Nat) : Int) := ⟨_, rfl⟩
          have b2 : bits .andNot .u8 (x : Int) 128 = y := by rw [andNot_more x hx]; omega
          have Hy := hide hy
          have hq4 : IntKind.u64.wrap y = y := by rw [IntKind.wrap_u64]; omega
          have Hx := hide hx
          have Hx1 := hide hx1
          clear hy hx hx1
          go_wp2_with fail
          go_round
          case rel =>
            refine ⟨k + 1, rfl, by have := Hk.out; omega, by have := Hk.out; omega, _, rfl, ?_⟩
            have hmore := lift_more k acc x (l.drop (k + 1)) Hk.out.2 Hx1.out
            rcases Nat.lt_or_ge k 9 with h9 | h9
            · refine Or.inl ⟨by omega, acc + 128 ^ k * (x - 128), ?_, ?_, by rw [Hdec.out, hmore]⟩
              · have := or_digit k acc (x - 128) Hk.out.2 Hacc.out (by have := Hx.out; omega) (Or.inl h9)
                rw [← Hy.out] at this
                simpa [hq4] using this
              · have h1 := Hacc.out
                have h2 : 128 ^ k * (x - 128) ≤ 128 ^ k * 127 := Nat.mul_le_mul_left _ (by have := Hx.out; omega)
                rw [Nat.pow_succ]; omega
            · refine Or.inr ⟨by have := Hk.out; omega, ?_⟩
              rw [Hdec.out, hmore, dec_end _ _ (by omega)]; rfl
          case measure => simp [intOf]; have := Hk.out; omega
      · have hnone : dec 0 l = none := by
          rcases hacc with ⟨h9, acc, _, _, h⟩ | ⟨_, h⟩
          · have hkn2 : k = n := by omega
            rw [h, List.drop_eq_nil_of_le (by have := Hn.out; omega)]; rfl
          · exact h
        have hnum := hide (num_none hnone)
        have hk1 : (n : Int) ≤ 10 → ¬ (k : Int) < n := by omega
        have hk2 : (10 : Int) < n → ¬ (k : Int) < 10 := by omega
        clear hacc hnone
        first
        | (have hk3 := hk1 hz
           clear hk1 hk2 hk
           go_wp2_with fail
           go_ret2
           exact ⟨ret_ii (by rw [hnum.out.1]; simp) (by rw [hnum.out.2]; simp), rfl⟩)
        | (have hk3 := hk2 hz
           clear hk1 hk2 hk
           go_wp2_with fail
           go_ret2
           exact ⟨ret_ii (by rw [hnum.out.1]; simp) (by rw [hnum.out.2]; simp), rfl⟩)
end Go.Proofs.Ytaioniegggfcjaa
