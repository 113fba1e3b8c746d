/-
  phalanxlaw16.CacheOwns, walked.
-/
import Derived.Test.YtihjmgdihpeffaaOw0
namespace Go.Proofs.Ytihjmgdihpeffaa
open Go.RowKit
set_option linter.unusedVariables false
set_option linter.unusedSimpArgs false
theorem own_cases {w : World} {v : Value} {P : List (Int × Int)} {a : Option Addr} {n cap : Nat} (h : Cn w v P) (hv : v = .slice a n cap) : n = P.length ∧ n ≤ cap ∧ n ≤ maxLen ∧ (n = 0 ∨ ∃ g, a = some ⟨g, 0, none⟩) := by
  rcases h.slice with ⟨e, rfl⟩ | ⟨g, cap', e, h1, h2, -⟩
  · rw [e] at hv
    cases hv
    exact ⟨rfl, Nat.le_refl _, Nat.zero_le _, .inl rfl⟩
  · rw [e] at hv
    cases hv
    exact ⟨rfl, h1, Nat.le_trans h1 h2, .inr ⟨g, rfl⟩⟩
set_option maxRecDepth 100000 in
set_option maxHeartbeats 600000 in
theorem owns_walk (q : K6) (hq : W6 q) (e : Int) (v : Value) (P : List (Int × Int)) (w : World) (hv : CeR w v P) (hl : P.length * 16 ≤ 140737488355328) :
    Calls Try.prog 4 #[kv q, .int .i64 e, v] w fun en w' => en = .returned (.bool true) ∧ Below w.heap.size w w' := by
  obtain ⟨a0, cap0, rfl, hcap0, hmax0⟩ := hv.slice
  obtain ⟨X, hX⟩ : ∃ X, w.alloc (.cells #[.int .i64 q.1, .int .i64 q.2.1, .int .i64 q.2.2.1, .int .i64 q.2.2.2.1, .int .i64 q.2.2.2.2.1, .int .i64 q.2.2.2.2.2] 36) = X := ⟨_, rfl⟩
  have B0 : Below w.heap.size w X := by rw [← hX]; exact box1 _ _
  have K0 : Bk X w.heap.size 36 (kCs q) := by rw [← hX]; exact Bk.new w 36 (kCs q)
  have HN := hide (new_is 1 X)
  have HX := hide hX
  have HB0 := hide B0
  clear hX B0
  go_enter Try.func4, Try.ntmps4
  go_wp2_with (rw [HX.out])
  refine HN.out.mono ?_
  rintro e1 W1 hW1
  rcases hW1 with ⟨-, -, c, m, rfl, hP, hc, hm, hb1⟩ | ⟨hn, -⟩
  case inr => exact absurd ⟨by omega, by omega⟩ hn
  have sX := HB0.out.size
  have B1 := HB0.out.trans (hb1.mono sX)
  obtain ⟨Z1, hZ1⟩ : ∃ Z1, W1.alloc (.cells #[] 34) = Z1 := ⟨_, rfl⟩
  have BZ1 : Below W1.heap.size W1 Z1 := by rw [← hZ1]; exact box1 _ _
  have CZ1 : Cn Z1 (.slice (some ⟨W1.heap.size, 0, none⟩) 0 0) [] := by rw [← hZ1]; exact Rw.built W1
  obtain ⟨own, Z2, r1, r2, r3, r4⟩ := Cn.more CZ1 (hv.kept (B1.trans (BZ1.mono B1.size))) (by rw [List.length_nil, Nat.zero_add]; exact hl) 37
  rw [List.nil_append] at r2
  obtain ⟨ao, n, capo, rfl⟩ := r2.shape
  obtain ⟨rfl, hO⟩ := own_cases r2 rfl
  have HO := hide hO
  clear hO
  have hb0 : ∀ k, (Value.slice (some ⟨W1.heap.size, 0, none⟩) 0 0).ownBlock = some k → W1.heap.size ≤ k := fun k e => by
    have : W1.heap.size = k := by simpa [Value.ownBlock] using e
    omega
  have BZ2 : Below W1.heap.size W1 Z2 := BZ1.trans (r4.below (B := W1.heap.size) hb0 BZ1.size)
  have hwo : ∀ g, (Value.slice ao P.length capo).ownBlock = some g → w.heap.size ≤ g := fun g hg => by
    have h1 := hb1.size
    have h2 := BZ1.size
    rcases r3 with qq | qq
    · rw [qq] at hg
      have := hb0 g hg
      omega
    · rw [qq] at hg
      cases hg
      omega
  have PZ := hP.upto BZ2
  have hno := PZ.apart r2
  have hPut := put_is PZ hq e (o := 1) r2.ceR hl hno
  have hpl : putL 1 (if e = 0 then [] else []) q (1, P) = [(q, (1, P))] := by
    have : (if e = 0 then ([] : List En) else []) = [] := by split <;> rfl
    rw [this]
    rfl
  rw [hpl] at hPut
  have KZ := (K0.upto hb1).upto BZ2
  have BW := B1.trans (BZ2.mono B1.size)
  have q0 := KZ.cell 0 _ rfl
  have q1 := KZ.cell 1 _ rfl
  have q2 := KZ.cell 2 _ rfl
  have q3 := KZ.cell 3 _ rfl
  have q4 := KZ.cell 4 _ rfl
  have q5 := KZ.cell 5 _ rfl
  have HR1 := hide r1
  have HP1 := hide hPut
  have HZ1 := hide hZ1
  have HK := hide (And.intro KZ <| And.intro r2 <| And.intro PZ <| And.intro BW <| And.intro hno <| And.intro hc <| And.intro hm <| And.intro (Nat.le_trans sX (Nat.le_trans hb1.size BZ2.size)) hwo)
  clear r1 r2 r3 r4 hPut hZ1 hP hb1 B1 BZ1 CZ1 BZ2 PZ hno hpl KZ BW K0 hc hm sX HN
  go_wp2_with (first | (refine wpList_append_run rfl _ _ 37 rfl _ _ (by rfl) (by rfl) (by first | exact HR1.out | (rw [HZ1.out]; exact HR1.out)) ?_) | (rw [HX.out]))
  refine HP1.out.mono ?_
  rintro e1 W2 ⟨rfl, ov2, F2, vq, hP2, hF2, hvq, ho2, ht2⟩
  obtain ⟨KZ, r2, PZ, BW, hno, hc, hm, sw, hwo⟩ := HK.out
  have hlow : ∀ g, PB c m (.slice none 0 0) g → w.heap.size ≤ g := fun g hg => by
    rcases hg with rfl | rfl | hg
    · have := HB0.out.size; omega
    · have := HB0.out.size; omega
    · cases hg
  have T2 := r2.kept ht2 hno
  have B2 := BW.trans (ht2.below hlow sw)
  have K2 : Bk W2 w.heap.size 36 (kCs q) := KZ.kept ht2 (fun hh => by
    have hXs := HB0.out.size
    have hX1 := HX.out
    have : X.heap.size = w.heap.size + 1 := by rw [← hX1]; simp
    rcases hh with rfl | rfl | hg
    · omega
    · omega
    · cases hg)
  have hnm := fun g (hg : ao = some ⟨g, 0, none⟩) => show Nm W2 g (P.length * 2) from by subst hg; exact Cn.nm T2
  have hap2 := hP2.apart T2
  have hvo : ∀ g, (Value.slice ao P.length capo).ownBlock = some g → g < Z2.heap.size := fun g hg => by
    obtain ⟨cur, hb⟩ := r2.blk hg
    exact (Array.getElem?_eq_some_iff.1 hb).1
  have HK2 := hide (And.intro T2 (And.intro B2 (And.intro K2 (And.intro hnm (And.intro hap2 (And.intro hvo hwo))))))
  have HP2 := hide (And.intro hP2 (And.intro hF2 hvq))
  clear KZ r2 PZ BW hno hc hm sw hlow T2 B2 K2 hnm hap2 hvo hwo hP2 hF2 hvq ho2 ht2 HP1 q0 q1 q2 q3 q4 q5 HR1 HZ1 HK
  have hlen : (0 : Int) ≤ (P.length : Nat) ∧ ((P.length : Nat) : Int) ≤ 9223372036854775807 := by omega
  go_wp2_with fail
  go_loopw [10] (fun s10 wr => ∃ k : Nat, k ≤ P.length ∧ s10 = .int .i64 k ∧ Turns (fun g => ao = some ⟨g, 0, none⟩) W2 wr ∧ (∀ g, ao = some ⟨g, 0, none⟩ → Nm wr g (P.length * 2))) (fun s10 _ => P.length - (intOf s10).toNat)
  case atStart => exact ⟨0, Nat.zero_le _, rfl, Turns.refl _ _, HK2.out.2.2.2.1⟩
  case round =>
    obtain ⟨k, hk, rfl, hT, hN⟩ := hrel
    by_cases hlt : k < P.length
    · obtain ⟨g, rfl⟩ : ∃ g, ao = some ⟨g, 0, none⟩ := by
        rcases HO.out.2.2 with h0 | h0
        · omega
        · exact h0
      obtain ⟨x, d0, f0⟩ := (hN g rfl).at (j := k * 2) (by omega)
      have hki : (k : Int) < (P.length : Nat) := by omega
      have HT := hide (hT.trans (Turns.set (S := fun b => (some (⟨g, 0, none⟩ : Addr)) = some ⟨b, 0, none⟩ ∨ W2.heap.size ≤ b) wr (p := ⟨g, k * 2, none⟩) (.inl rfl) (.int .i64 (wrap64 (x + 1)))))
      have HN := hide (show ∀ b, (some (⟨g, 0, none⟩ : Addr)) = some ⟨b, 0, none⟩ → Nm (wr.setCell ⟨g, k * 2, none⟩ (.int .i64 (wrap64 (x + 1)))) b (P.length * 2) from fun b hb => by cases hb; exact (hN g rfl).set _ _)
      clear hT hN
      go_wp2_with fail
      go_roundw
      case rel => exact ⟨k + 1, by omega, by go_num, HT.out, HN.out⟩
      case measure => simp [intOf]; omega
    · obtain rfl : k = P.length := by omega
      have hki : ¬ ((P.length : Nat) : Int) < (P.length : Nat) := by omega
      clear HX
      obtain ⟨T2, B2, K2, hnm, hap2, hvo, hwo⟩ := HK2.out
      obtain ⟨hP2, hF2, hvq⟩ := HP2.out
      have hob : ∀ g, ao = some ⟨g, 0, none⟩ → (Value.slice ao P.length capo).ownBlock = some g := fun g hg => by rw [hg]; rfl
      have hPr : PC wr c m ov2 1 e F2 [(q, (1, P))] := hP2.keptS hT (fun g hg hh => hap2 g (hob g hh) hg) (fun x hx u hu g hg hh => by
        obtain rfl : x = (q, (1, P)) := by simpa using hx
        have hu2 := hF2.symm.trans hu
        have : vq = u := by simpa using hu2
        subst this
        have h1 := hvq g hg
        have h2 := hvo g (hob g hh)
        omega)
      have Br : Below w.heap.size w wr := B2.trans (hT.below (B := w.heap.size) (fun g hg => hwo g (hob g hg)) B2.size)
      have Kr : Bk wr w.heap.size 36 (kCs q) := K2.kept hT (fun hh => T2.notBk K2 (by decide) (hob _ hh))
      have hGt := get_is hPr hq e
      rw [show getA e [(q, (1, P))] q e = (true, 1, P) by unfold getA; rw [if_pos rfl]; simp [fnd]] at hGt
      have hvqw : ∀ x ∈ [(q, ((1 : Int), P))], ∀ u, F2 x.1 = wy x.2.1 u → ∀ g, u.ownBlock = some g → g < wr.heap.size := fun x hx u hu g hg => by
        obtain ⟨u2, e1, e2⟩ := hPr.way x hx
        have hu2 := hu.symm.trans e1
        have : u = u2 := by simpa using hu2
        subst this
        obtain ⟨cur, hb⟩ := e2.blk hg
        exact (Array.getElem?_eq_some_iff.1 hb).1
      have HG := hide hGt
      have q0 := Kr.cell 0 _ rfl
      have q1 := Kr.cell 1 _ rfl
      have q2 := Kr.cell 2 _ rfl
      have q3 := Kr.cell 3 _ rfl
      have q4 := Kr.cell 4 _ rfl
      have q5 := Kr.cell 5 _ rfl
      have HR := hide (And.intro hPr (And.intro Br (And.intro Kr hvqw)))
      clear T2 B2 K2 hnm hap2 hvo hwo hP2 hF2 hvq hob hPr Br Kr hvqw hGt hT hN HK2 HP2
      go_wp2_with fail
      refine HG.out.mono ?_
      rintro e1 W3 ⟨v3, rfl, hc3, ho3, hb3⟩
      obtain ⟨a3, n3, cap3, rfl⟩ := hc3.shape
      obtain ⟨rfl, hO3⟩ := own_cases hc3 rfl
      have HO3 := hide hO3
      obtain ⟨hPr, Br, Kr, hvqw⟩ := HR.out
      obtain ⟨V, hV⟩ : ∃ V, W3.alloc (.cells #[.int .i64 1, .slice a3 P.length cap3] 39) = V := ⟨_, rfl⟩
      have BV : Below W3.heap.size W3 V := by rw [← hV]; exact box1 _ _
      have KV : Bk V W3.heap.size 39 [.int .i64 1, .slice a3 P.length cap3] := by rw [← hV]; exact Bk.new _ _ _
      have B3 := Br.trans ((bt hb3 BV).mono Br.size)
      have HC := hide (refcells_yes (.slice a3 P.length cap3) (.slice a0 P.length cap0) P V (Cn.ceR (hc3.upto BV)) (hv.kept B3))
      have HBR := hide (bt hb3 BV)
      have HKV := hide KV
      have HC3 := hide (hc3.upto BV)
      have HO4 := hide ho3
      have HW3 : Hid (w.heap.size ≤ W3.heap.size) := Nat.le_trans Br.size hb3.size
      have HV := hide hV
      have vb1 := KV.cell 1 _ rfl
      clear hO3 hPr Br Kr hvqw hV BV KV B3 hc3 ho3 hb3 q0 q1 q2 q3 q4 q5 HG
      dsimp only
      go_wp2_with (rw [HV.out])
      refine HC.out.mono ?_
      rintro e1 W4 ⟨rfl, hb4⟩
      have BR4 := bt HBR.out hb4
      obtain ⟨hPr, Br, Kr, hvqw⟩ := HR.out
      have P4 := hPr.upto BR4
      have C4 : Cn W4 (.slice a3 P.length cap3) P := HC3.out.upto hb4
      have K4 := HKV.out.upto hb4
      have B4 := Br.trans (BR4.mono Br.size)
      have Q4 := Kr.upto BR4
      have hnm := fun g (hg : a3 = some ⟨g, 0, none⟩) => show Nm W4 g (P.length * 2) from by subst hg; exact Cn.nm C4
      have hob : ∀ g, a3 = some ⟨g, 0, none⟩ → (Value.slice a3 P.length cap3).ownBlock = some g := fun g hg => by rw [hg]; rfl
      have hlo : ∀ g, a3 = some ⟨g, 0, none⟩ → wr.heap.size ≤ g := fun g hg => HO4.out g (hob g hg)
      have HK4 := hide (And.intro C4 <| And.intro P4 <| And.intro K4 <| And.intro B4 <| And.intro Q4 <| And.intro hnm <| And.intro hob <| And.intro hlo <| And.intro hvqw <| And.intro hPr Br.size)
      clear BR4 hPr Br Kr hvqw P4 C4 K4 B4 Q4 hnm hob hlo HR HBR HKV HC3 HC HV vb1 HO4 hb4
      go_wp2_with fail
      go_loopw [13] (fun s13 wq => ∃ k : Nat, k ≤ P.length ∧ s13 = .int .i64 k ∧ Turns (fun g => a3 = some ⟨g, 0, none⟩) W4 wq ∧ (∀ g, a3 = some ⟨g, 0, none⟩ → Nm wq g (P.length * 2))) (fun s13 _ => P.length - (intOf s13).toNat)
      case atStart => exact ⟨0, Nat.zero_le _, rfl, Turns.refl _ _, HK4.out.2.2.2.2.2.1⟩
      case round =>
        obtain ⟨k, hk, rfl, hT, hN⟩ := hrel
        rename World => wq
        have KB : Bk wq W3.heap.size 39 [.int .i64 1, .slice a3 P.length cap3] := HK4.out.2.2.1.kept hT (fun hh => HK4.out.1.notBk HK4.out.2.2.1 (by decide) (HK4.out.2.2.2.2.2.2.1 _ hh))
        have vb1 := KB.cell 1 _ rfl
        by_cases hlt : k < P.length
        · obtain ⟨g, rfl⟩ : ∃ g, a3 = some ⟨g, 0, none⟩ := by
            rcases HO3.out.2.2 with h0 | h0
            · omega
            · exact h0
          obtain ⟨x, d0, f0⟩ := (hN g rfl).at (j := k * 2 + 1) (by omega)
          have hki : (k : Int) < (P.length : Nat) := by omega
          have HT := hide (hT.trans (Turns.set (S := fun b => (some (⟨g, 0, none⟩ : Addr)) = some ⟨b, 0, none⟩ ∨ W4.heap.size ≤ b) wq (p := ⟨g, k * 2 + 1, none⟩) (.inl rfl) (.int .i64 (wrap64 (x - 1)))))
          have HN := hide (show ∀ b, (some (⟨g, 0, none⟩ : Addr)) = some ⟨b, 0, none⟩ → Nm (wq.setCell ⟨g, k * 2 + 1, none⟩ (.int .i64 (wrap64 (x - 1)))) b (P.length * 2) from fun b hb => by cases hb; exact (hN g rfl).set _ _)
          clear hT hN KB
          go_wp2_with fail
          go_roundw
          case rel => exact ⟨k + 1, by omega, by go_num, HT.out, HN.out⟩
          case measure => simp [intOf]; omega
        · obtain rfl : k = P.length := by omega
          have hki : ¬ ((P.length : Nat) : Int) < (P.length : Nat) := by omega
          obtain ⟨C4, P4, K4, B4, Q4, hnm, hob, hlo, hvqw, hPr, hBr⟩ := HK4.out
          have Pq : PC wq c m ov2 1 e F2 [(q, (1, P))] := P4.keptS hT (fun g hg hh => by have := hlo g hh; have := hPr.lt hg; omega) (fun x hx u hu g hg hh => by have := hlo g hh; have := hvqw x hx u hu g hg; omega)
          have Bq : Below w.heap.size w wq := B4.trans (hT.below (B := w.heap.size) (fun g hg => Nat.le_trans hBr (hlo g hg)) B4.size)
          have Kq : Bk wq w.heap.size 36 (kCs q) := Q4.kept hT (fun hh => C4.notBk Q4 (by decide) (hob _ hh))
          have hGt := get_is Pq hq e
          rw [show getA e [(q, (1, P))] q e = (true, 1, P) by unfold getA; rw [if_pos rfl]; simp [fnd]] at hGt
          have HG := hide hGt
          have q0 := Kq.cell 0 _ rfl
          have q1 := Kq.cell 1 _ rfl
          have q2 := Kq.cell 2 _ rfl
          have q3 := Kq.cell 3 _ rfl
          have q4 := Kq.cell 4 _ rfl
          have q5 := Kq.cell 5 _ rfl
          have HBq := hide Bq
          have HKB := hide KB
          have hW3 := HW3.out
          clear C4 P4 K4 B4 Q4 hnm hob hlo hvqw hPr hBr Pq Bq Kq hGt hT hN HK4 KB
          go_wp2_with fail
          clear vb1 q0 q1 q2 q3 q4 q5
          refine HG.out.mono ?_
          rintro e1 W5 ⟨v5, rfl, hc5, ho5, hb5⟩
          obtain ⟨a5, n5, cap5, rfl⟩ := hc5.shape
          have K5 := HKB.out.upto hb5
          obtain ⟨U, hU⟩ : ∃ U, (W5.setCell ⟨W3.heap.size, 0, none⟩ (.int .i64 1)).setCell ⟨W3.heap.size, 1, none⟩ (.slice a5 n5 cap5) = U := ⟨_, rfl⟩
          have TU : Turns (fun b => b = W3.heap.size) W5 U := by rw [← hU]; exact (Turns.set (S := fun b => b = W3.heap.size) W5 rfl _).trans (Turns.set _ (.inl rfl) _)
          have KU : Bk U W3.heap.size 39 [.int .i64 1, .slice a5 n5 cap5] := by rw [← hU]; exact (K5.set 0 _).set 1 _
          have B5 := HBq.out.trans (hb5.mono HBq.out.size)
          have BU : Below w.heap.size w U := B5.trans (TU.below (B := w.heap.size) (fun b hb => by omega) B5.size)
          have HC := hide (refcells_yes (.slice a5 n5 cap5) (.slice a0 P.length cap0) P U (Cn.ceR (hc5.kept TU (fun b hb hh => hc5.notBk K5 (by decide) (hh ▸ hb)))) (hv.kept BU))
          have x0 := K5.cell 0 _ rfl
          have x1 := K5.cell 1 _ rfl
          have y0 := K5.frozen 0
          have y1 := K5.frozen 1
          have vb1 := KU.cell 1 _ rfl
          have HU := hide hU
          have HBU := hide BU
          clear K5 TU KU B5 BU hU hc5 ho5 hb5 HG HKB HBq
          dsimp only
          go_wp2_with (rw [HU.out])
          refine HC.out.mono ?_
          rintro e1 W6 ⟨rfl, hb6⟩
          have B6 := hide (HBU.out.trans (hb6.mono HBU.out.size))
          clear hb6 x0 x1 y0 y1 vb1
          go_wp2_with fail
          refine (awake_any W6).mono ?_
          rintro e1 W7 ⟨rfl, hb7⟩
          have B7 := hide (B6.out.trans (hb7.mono B6.out.size))
          clear hb7
          go_wp2_with fail
          go_ret
          exact ⟨rfl, B7.out⟩
end Go.Proofs.Ytihjmgdihpeffaa
