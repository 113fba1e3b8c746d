/-
  The function by which pairs come: its distances, reckoned once.
-/
import Derived.Test.YtmkoleioipklpaaOrc
import Derived.Test.YtmkoleioipklpaaPrs
namespace Go.Proofs.Ytmkoleioipklpaa
open Go.RowKit
set_option linter.unusedVariables false
set_option linter.unusedSimpArgs false
attribute [local go_sem] Oper.semAt_some
theorem store_func {P : Program} {w : World} {a : Addr} {m : Mode} (fn : Fn) (first captured : Array Value) : (store a (.func fn first captured) m).run P w = stored P w a (.func fn first captured) m := run_store P w a _ m rfl
attribute [local go_sem] store_func
theorem allU_get (n : Nat) {u p : Nat} (hp : p < n) : ∀ k, u < k → (allU n k)[u * n + p]? = some (u, p) := by
  intro k
  induction k with
  | zero => intro h; exact absurd h (Nat.not_lt_zero u)
  | succ k ih =>
    intro h
    rw [allU_succ]
    rcases Nat.lt_or_ge u k with c | c
    · have := ih c
      rw [List.getElem?_append_left (List.getElem?_eq_some_iff.1 this).1]
      exact this
    · obtain rfl : u = k := by omega
      rw [List.getElem?_append_right (by rw [allU_len]; omega), allU_len, Nat.add_sub_cancel_left]
      simp [rowU, hp]
theorem Rw.off {α : Type} {t t' k g : Nat} {cs : α → List Value} {w : World} {v : Value} {l : List α} {l' : List Value} (h : Rw t k cs w v l) (hb : Bk w g t' l') (hne : t ≠ t') : ¬ v.ownBlock = some g := fun e => by
  rcases h.2 with ⟨rfl, -⟩ | ⟨g', cap, cur, rfl, -, hg, -⟩
  · cases e
  · cases e
    rw [show w.heap[g']? = _ from hb] at hg
    injection hg with hg
    injection hg with h1 h2
    exact hne h2.symm
theorem run_appT {P : Program} {t : TypeId} {ev : Operand → Value} {o : Oper} {w w' : World} {s x : Operand} {v xv v' : Value} (ho : o.op = .call { callee := .builtin .append, args := #[s, x], argTypes := #[t, t] }) (hs : ev s = v) (hx : ev x = xv) (hr : (Builtin.append_ #[t, t] o.type #[v, xv]).run P w = .ok v' w') : (execOp ev o).run P w = .ok (.value v') w' := by
  simp [execOp, ho, resolve, invoke, builtin, hs, hx, hr, Result.andThen]
theorem run_ints1 {ev : Operand → Value} {o : Oper} {w : World} {x : Operand} {a : Int} (ho : o.op = .buildSlice 24 1 #[(0, x)]) (hx : ev x = .int .i64 a) : (execOp ev o).run Try.prog w = .ok (.value (.slice (some ⟨w.heap.size, 0, none⟩) 1 1)) (w.alloc (.cells #[.int .i64 a] 3)) := by
  unfold execOp
  simp only [ho, hx]
  go_simp
theorem In.more {w : World} {v xv : Value} {L M : List Int} (h : In w v L) (hM : Ir w xv M) (hn : (L.length + M.length) * 8 ≤ 140737488355328) (ty : TypeId) :
    ∃ v' w', (Builtin.append_ #[24, 24] ty #[v, xv]).run Try.prog w = .ok v' w' ∧ In w' v' (L ++ M) ∧ (v'.ownBlock = v.ownBlock ∨ v'.ownBlock = some w.heap.size) ∧ Turns (fun g => v.ownBlock = some g) w w' :=
  Rw.more Try.underlying24 info3n rfl (by decide) iCs_len h hM (iCs_ones M) (by unfold maxLen; omega) hn ty
theorem in_one (x : Int) (w : World) : In (w.alloc (.cells #[.int .i64 x] 3)) (.slice (some ⟨w.heap.size, 0, none⟩) 1 1) [x] := Rw.single (cs := iCs) iCs_len w x
theorem run_make24 (w : World) (n : Nat) (hn : n ≤ 4096) : ∃ w', (Instr.makeSlice 24 (.int .i64 0) (.int .i64 (n : Int))).run Try.prog w = .ok (.slice (some ⟨w.heap.size, 0, none⟩) 0 n) w' ∧ In w' (.slice (some ⟨w.heap.size, 0, none⟩) 0 n) [] ∧ Below w.heap.size w w' ∧ w'.heap.size = w.heap.size + 1 := by
  obtain ⟨fi, hf, hz, h1, h8⟩ := info_parts info3n
  have hr := run_makeSlice (P := Try.prog) w 24 3 fi _ Try.underlying24 hf hz .i64 .i64 0 n (Int.le_refl _) (by omega) (by rw [h1, Int.toNat_natCast]; omega) (by rw [h8]; omega) (by omega)
  simp only [Int.toNat_zero, Int.toNat_natCast] at hr
  refine ⟨_, hr, World.ownsRow_made w _ n (Nat.zero_le _) (by unfold maxLen; omega) (by rw [h1]; exact size_madeCells _ _), box1 _ _, by simp⟩
/-- The distances of so many pairs. -/
def dL (U P : List (Int × Int)) (L : List (Nat × Nat)) : List Int := L.map fun e => dst U P e.1 e.2
theorem dL_snoc (U P : List (Int × Int)) (L : List (Nat × Nat)) (u p : Nat) : dL U P (L ++ [(u, p)]) = dL U P L ++ [dst U P u p] := by simp [dL]
theorem dL_get (U P : List (Int × Int)) {n u p : Nat} (hu : u < n) (hp : p < n) : (dL U P (allP n))[u * n + p]? = some (dst U P u p) := by
  unfold dL
  rw [List.getElem?_map, ← allU_all, allU_get n hp n hu]
  rfl
theorem dst_at {U P : List (Int × Int)} {u p : Nat} {q s : Int × Int} (hq : U[u]? = some q) (hs : P[p]? = some s) : dst U P u p = ocN q.1 q.2 s.1 s.2 := by
  unfold dst
  rw [List.getD_eq_getElem?_getD, List.getD_eq_getElem?_getD, hq, hs]
  rfl
theorem Rf23 : Rcl 23 := zl fun _ _ => by go_simp
/-- What orderOf tells. -/
def OrE (w : World) (vp : Value) (n : Nat) (d : Nat → Nat → Int) (e : Ending) (w' : World) : Prop :=
  ∃ D A B va, e = .returned (.func (.func 31) #[] #[ptr D]) ∧ Env w' D A B va vp n d ∧ (w.heap.size ≤ D ∧ w.heap.size ≤ A ∧ w.heap.size ≤ B ∧ ∀ g, va.ownBlock = some g → w.heap.size ≤ g) ∧ Below w.heap.size w w'
/-- The loop's row, in its box. -/
structure RwA (w0 w : World) (A B : Nat) (vp : Value) (T : List Int) (va : Value) : Prop where
  row : In w va T
  kA : Bk w A 24 [va]
  kB : Bk w B 22 [vp]
  own : ∀ g, va.ownBlock = some g → w0.heap.size ≤ g
  bel : Below w0.heap.size w0 w
theorem RwA.upto {w0 w w' : World} {A B : Nat} {vp : Value} {T : List Int} {va : Value} (h : RwA w0 w A B vp T va) (hb : Below w.heap.size w w') : RwA w0 w' A B vp T va :=
  ⟨Rw.upto h.row hb, h.kA.upto hb, h.kB.upto hb, h.own, h.bel.trans (hb.mono h.bel.size)⟩
set_option maxRecDepth 100000 in
set_option maxHeartbeats 8000000 in
theorem orderof_is (us ps : Value) (U P : List (Int × Int)) (n : Nat) (hn : n ≤ 64) (hU : U.length = n) (hP : P.length = n) (w : World) (hu : CeR w us U) (hp : CeR w ps P) : Calls Try.prog 19 #[us, ps] w (OrE w ps n (dst U P)) := by
  obtain ⟨au, cu, rfl, hcu, hmu⟩ := hu.slice
  obtain ⟨ap, cp, rfl, hcp, hmp⟩ := hp.slice
  have hsq : n * n ≤ 4096 := Nat.mul_le_mul hn hn
  obtain ⟨m, hm⟩ : ∃ m, n * n = m := ⟨_, rfl⟩
  have hwr : IntKind.i64.wrap ((n : Int) * (n : Int)) = (m : Nat) := by rw [← Int.natCast_mul, hm]; exact IntWalk.i64_in _ (by omega)
  rw [hm] at hsq
  rw [hU] at hu hcu hmu
  rw [hP] at hp hcp hmp
  rw [hU, hP]
  obtain ⟨X, hX⟩ : ∃ X, w.alloc (.cells #[.slice ap n cp] 22) = X := ⟨_, rfl⟩
  have BX : Below w.heap.size w X := by rw [← hX]; exact box1 _ _
  have KX : Bk X w.heap.size 22 [.slice ap n cp] := by rw [← hX]; exact Bk.new _ _ _
  have b0 := KX.cell 0 _ rfl
  obtain ⟨W0, hr0, hk0, hb0, hz0⟩ := run_make24 X m hsq
  have hn63 : ((n : Nat) : Int) ≤ 64 := by omega
  go_enter Try.func19, Try.ntmps19
  go_wp2_with (first | rw [hX] | rw [hwr] | rw [hr0])
  have R0 : RwA w (W0.alloc (.cells #[.slice (some ⟨X.heap.size, 0, none⟩) 0 m] 24)) (X.heap.size + 1) w.heap.size (.slice ap n cp) [] (.slice (some ⟨X.heap.size, 0, none⟩) 0 m) := by
    have K1 : Bk (W0.alloc (.cells #[.slice (some ⟨X.heap.size, 0, none⟩) 0 m] 24)) W0.heap.size 24 [.slice (some ⟨X.heap.size, 0, none⟩) 0 m] := Bk.new _ _ _
    rw [hz0] at K1
    exact ⟨Rw.upto hk0 (box1 _ _), K1, (KX.upto hb0).upto (box1 _ _), fun g e => by cases e; exact BX.size, (BX.trans (hb0.mono BX.size)).trans ((box1 _ _).mono (Nat.le_trans BX.size hb0.size))⟩
  obtain ⟨W1, hW1⟩ : ∃ W1, W0.alloc (.cells #[.slice (some ⟨X.heap.size, 0, none⟩) 0 m] 24) = W1 := ⟨_, rfl⟩
  rw [hW1] at R0 ⊢
  obtain ⟨A, hA⟩ : ∃ A, X.heap.size + 1 = A := ⟨_, rfl⟩
  obtain ⟨B, hB⟩ : ∃ B, w.heap.size = B := ⟨_, rfl⟩
  have hAB : w.heap.size ≤ A ∧ w.heap.size ≤ B := by have := BX.size; omega
  rw [hA, hB] at R0 ⊢
  obtain ⟨va0, hva0⟩ : ∃ v, Value.slice (some ⟨X.heap.size, 0, none⟩) 0 m = v := ⟨_, rfl⟩
  rw [hva0] at R0 ⊢
  have HR0 := hide R0
  have HU := hide hu
  have HP := hide hp
  have HAB := hide hAB
  have HM := hide hm
  clear R0 hu hp hAB hva0 hA hB hW1 hk0 hb0 hz0 hr0 BX KX b0 hX hwr hm
  go_loopw [19] (fun s19 wr => ∃ k : Nat, k ≤ n ∧ s19 = .int .i64 k ∧ ∃ va, RwA w wr A B (.slice ap n cp) (dL U P (allU n k)) va) (fun s19 _ => n - (intOf s19).toNat)
  case atStart => exact ⟨0, Nat.zero_le _, rfl, _, HR0.out⟩
  case round =>
    obtain ⟨k, hk, rfl, va, hR⟩ := hrel
    clear HR0
    by_cases hlt : k < n
    · have hki : (k : Int) < (n : Nat) := by omega
      obtain ⟨q, hq⟩ : ∃ q, U[k]? = some q := ⟨_, List.getElem?_eq_getElem (by omega)⟩
      obtain ⟨g, o, hga, hgl, c0, c1⟩ := CeR.at (HU.out.kept hR.bel) rfl hq
      subst hga
      have b0 := hR.kB.cell 0 _ rfl
      obtain ⟨Y, hY⟩ : ∃ Y, wr.alloc (.cells #[.int .i64 q.1, .int .i64 q.2] 35) = Y := ⟨_, rfl⟩
      have BY : Below wr.heap.size wr Y := by rw [← hY]; exact box1 _ _
      have KF : Bk Y wr.heap.size 35 (ceCs q) := by rw [← hY]; exact Bk.new _ _ _
      have RY := hR.upto BY
      have b1 := RY.kB.cell 0 _ rfl
      have HO := hide (And.intro RY KF)
      clear hR BY KF RY
      go_wp2_with (rw [hY])
      obtain ⟨F, hF⟩ : ∃ F, wr.heap.size = F := ⟨_, rfl⟩
      rw [hF] at HO ⊢
      clear c0 c1 hgl b0 b1 hF hY
      go_loopw [25] (fun s25 wr => ∃ p : Nat, p ≤ n ∧ s25 = .int .i64 p ∧ ∃ va, RwA w wr A B (.slice ap n cp) (dL U P (allU n k ++ rowU k p)) va ∧ Bk wr F 35 (ceCs q)) (fun s25 _ => n - (intOf s25).toNat)
      case atStart => exact ⟨0, Nat.zero_le _, rfl, _, by rw [rowU_zero, List.append_nil]; exact HO.out.1, HO.out.2⟩
      case round =>
        obtain ⟨p, hp, rfl, va2, hR, hF⟩ := hrel
        clear HO
        by_cases hlt2 : p < n
        · have hpi : (p : Int) < (n : Nat) := by omega
          obtain ⟨s, hs⟩ : ∃ s, P[p]? = some s := ⟨_, List.getElem?_eq_getElem (by omega)⟩
          obtain ⟨g2, o2, hga2, hgl2, d0, d1⟩ := CeR.at (HP.out.kept hR.bel) rfl hs
          subst hga2
          obtain ⟨V, hV⟩ : ∃ V, wr.alloc (.cells #[.int .i64 s.1, .int .i64 s.2] 35) = V := ⟨_, rfl⟩
          have BV : Below wr.heap.size wr V := by rw [← hV]; exact box1 _ _
          have KT : Bk V wr.heap.size 35 (ceCs s) := by rw [← hV]; exact Bk.new _ _ _
          obtain ⟨Y, hY⟩ : ∃ Y, V.drew = Y := ⟨_, rfl⟩
          have BY : Below V.heap.size V Y := by rw [← hY]; exact (Below.refl _ _).drew
          have RY := (hR.upto BV).upto BY
          have KF := (hF.upto BV).upto BY
          have KT := KT.upto BY
          have HO := hide (And.intro RY (And.intro KF KT))
          obtain ⟨T, hT⟩ : ∃ T, wr.heap.size = T := ⟨_, rfl⟩
          have HT : Hid (∀ wx, Below Y.heap.size Y wx → Bk wx A 24 [va2] ∧ Bk wx F 35 (ceCs q) ∧ Bk wx T 35 (ceCs s)) := hide fun wx hx => ⟨RY.kA.upto hx, KF.upto hx, hT ▸ KT.upto hx⟩
          rw [hT] at HO
          clear hR hF BV BY RY KF KT
          go_wp2_with (rw [hV])
          refine wp_only ?_
          refine wp_region_z (fun wx : World => Below Y.heap.size Y wx) [5, 6] (by kernel_rfl) ?_
          rw [hY]
          clear hY hV hT d0 d1 hgl2
          refine zx 0 3 8 rfl (by kernel_rfl) (Below.refl _ _) ?_
          iterate 3 (refine zxc rfl (by rfl) (fun wx hx => by obtain ⟨k1, k2, k3⟩ := HT.out wx hx; have c0 := k1.cell 0 _ rfl; have c1 := k2.cell 0 _ rfl; have c2 := k2.cell 1 _ rfl; have c3 := k3.cell 0 _ rfl; have c4 := k3.cell 1 _ rfl; go_simp; rfl) ?_; simp only [zp])
          refine zxn ?_
          refine zw 3 [] (by kernel_rfl) ?_
          refine readyZ.call rfl rfl (Rf23 (by rfl) (by rfl) (by simp only [zj]; rfl)) (octilec_any q.1 q.2 s.1 s.2 Y) ?_ readyZ.nil
          rintro e V3 ⟨rfl, hb3⟩
          refine ⟨_, rfl, fun _ => hb3, ?_⟩
          simp only [zp]
          obtain ⟨dd, hdd⟩ : ∃ dd, ocN q.1 q.2 s.1 s.2 = dd := ⟨_, rfl⟩
          have hdt := (dst_at hq hs).trans hdd
          rw [hdd]
          clear hdd
          obtain ⟨V4, hV4⟩ : ∃ V4, V3.alloc (.cells #[.int .i64 dd] 3) = V4 := ⟨_, rfl⟩
          have B4 : Below V3.heap.size V3 V4 := by rw [← hV4]; exact box1 _ _
          have K4 : In V4 (.slice (some ⟨V3.heap.size, 0, none⟩) 1 1) [dd] := by rw [← hV4]; exact in_one dd V3
          refine zw 4 [] (by kernel_rfl) ?_
          refine readyZ.cons rfl rfl (w' := V4) (hV4 ▸ run_ints1 (by rfl) (by rfl)) (fun _ => bt hb3 B4) ?_ readyZ.nil
          simp only [zp]
          clear hV4
          obtain ⟨RY, KF, KT⟩ := HO.out
          have R4 := (RY.upto hb3).upto B4
          have KF4 := (KF.upto hb3).upto B4
          have hlen : (dL U P (allU n k ++ rowU k p)).length ≤ 10000 := by
            unfold dL
            rw [List.length_map, List.length_append, allU_len, rowU_len]
            have : k * n ≤ 64 * 64 := Nat.mul_le_mul (by omega) hn
            omega
          obtain ⟨v5, V5, r1, r2, r3, r4⟩ := In.more R4.row (Rw.rd iCs_len K4 K4.cap) (by simp only [List.length_singleton]; omega) 24
          obtain ⟨a5, n5, k5, rfl⟩ := r2.shape
          have hsz : w.heap.size ≤ V4.heap.size := R4.bel.size
          have hown : ∀ g, (Value.slice a5 n5 k5).ownBlock = some g → w.heap.size ≤ g := fun g hg => by
            rcases r3 with e | e
            · rw [e] at hg; exact R4.own g hg
            · rw [e] at hg
              cases hg
              exact hsz
          have KA5 := R4.kA.kept r4 (R4.row.off R4.kA (by decide))
          have KB5 := R4.kB.kept r4 (R4.row.off R4.kB (by decide))
          have KF5 := KF4.kept r4 (R4.row.off KF4 (by decide))
          have B5 : Below w.heap.size w V5 := R4.bel.trans (r4.below (B := w.heap.size) (fun g hg => R4.own g hg) hsz)
          refine zw 5 [] (by kernel_rfl) ?_
          refine readyZ.cons rfl rfl (v' := .slice a5 n5 k5) (w' := V5) (run_appT (by rfl) (by rfl) (by rfl) r1) (fun hh => absurd (by decide) hh) ?_ readyZ.nil
          simp only [zp]
          have hne : ¬ (Value.slice a5 n5 k5).ownBlock = some A := r2.off KA5 (by decide)
          have c5 := KA5.cell 0 _ rfl
          have f5 := KA5.frozen 0
          have KA6 : Bk (V5.setCell ⟨A, 0, none⟩ (.slice a5 n5 k5)) A 24 [.slice a5 n5 k5] := KA5.set 0 _
          have T6 : Turns (fun g => A = g) V5 (V5.setCell ⟨A, 0, none⟩ (.slice a5 n5 k5)) := Turns.set (p := ⟨A, 0, none⟩) _ rfl _
          have R6 : RwA w (V5.setCell ⟨A, 0, none⟩ (.slice a5 n5 k5)) A B (.slice (some ⟨g2, o2, none⟩) n cp) (dL U P (allU n k ++ rowU k (p + 1))) (.slice a5 n5 k5) := by
            rw [rowU_succ, ← List.append_assoc, dL_snoc, hdt]
            exact ⟨Rw.kept r2 T6 (fun g hg e => hne (by rw [e]; exact hg)), KA6, KB5.kept T6 (fun e => by have := KA5.one (by rw [e]; exact KB5); exact absurd this.1 (by decide)), hown, B5.trans (T6.below (fun g e => by rw [← e]; exact HAB.out.1) B5.size)⟩
          have KF6 := KF5.kept T6 (fun e => by have := KA5.one (by rw [e]; exact KF5); exact absurd this.1 (by decide))
          have HE := hide (And.intro R6 KF6)
          clear RY KF KT R4 KF4 hlen r1 r2 r3 r4 hsz hown KA5 KB5 KF5 B5 hne KA6 T6 R6 KF6
          refine zw 6 [] (by kernel_rfl) ?_
          refine readyZ.skip rfl rfl (w' := V5.setCell ⟨A, 0, none⟩ (.slice a5 n5 k5)) (by go_simp) (fun hh => absurd (by decide) hh) ?_ readyZ.nil
          simp only [zp]
          refine anyZ_done (by kernel_rfl) ?_ _
          dsimp only [Only, Exit.then]
          go_wp2_with fail
          go_roundw
          case rel => exact ⟨p + 1, by omega, by go_num, _, HE.out⟩
          case measure => simp [intOf]; omega
        · obtain rfl : p = n := by omega
          have hpi : ¬ ((p : Nat) : Int) < (p : Nat) := by omega
          have HN := hide hR
          clear hR hF
          go_wp2_with fail
          go_roundw
          case rel => exact ⟨k + 1, by omega, by go_num, _, by rw [allU_succ]; exact HN.out⟩
          case measure => simp [intOf]; omega
    · obtain rfl : k = n := by omega
      have hki : ¬ ((k : Nat) : Int) < (k : Nat) := by omega
      rw [allU_all] at hR
      have HN := hide hR
      clear hR
      go_wp2_with fail
      go_ret
      have hR := HN.out
      obtain ⟨va', hva⟩ : ∃ v, va = v := ⟨_, rfl⟩
      have b := box1 wr (.cells #[.func (.func 30) #[] #[ptr A, ptr B]] 55)
      have hRn := hR.upto b
      refine ⟨wr.heap.size, A, B, va, rfl, ⟨hn, Bk.new _ _ _, hRn.kA, hRn.kB, ⟨_, _, rfl⟩, _, Rw.rd iCs_len hRn.row hRn.row.cap, fun u p hu hp => dL_get U P hu hp⟩, ⟨hR.bel.size, HAB.out.1, HAB.out.2, hR.own⟩, hRn.bel⟩
end Go.Proofs.Ytmkoleioipklpaa
