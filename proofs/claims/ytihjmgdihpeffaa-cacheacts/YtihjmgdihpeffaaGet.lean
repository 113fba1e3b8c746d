/-
  The program's Get.
-/
import Derived.Test.YtihjmgdihpeffaaSt
namespace Go.Proofs.Ytihjmgdihpeffaa
open Go.RowKit
set_option linter.unusedVariables false
set_option linter.unusedSimpArgs false
/-- A key's way. -/
def fnd : List En → K6 → Option Wk
  | [], _ => none
  | x :: r, q => if x.1 = q then some x.2 else fnd r q
theorem fnd_some : ∀ {L : List En} {q : K6} {t : Wk}, fnd L q = some t → (q, t) ∈ L
  | [], q, t, h => by cases h
  | x :: r, q, t, h => by
    unfold fnd at h
    split at h
    · rename_i e
      cases h
      subst e
      exact List.mem_cons_self ..
    · exact List.mem_cons_of_mem _ (fnd_some h)
theorem fnd_none : ∀ {L : List En} {q : K6}, fnd L q = none ↔ q ∉ ks L
  | [], q => by simp [fnd]
  | x :: r, q => by
    unfold fnd
    split
    · rename_i e
      simp [e]
    · rename_i e
      rw [fnd_none (L := r)]
      simp [Ne.symm e]
/-- What Get tells: whether there is a way, and it. -/
def getA (ep : Int) (L : List En) (q : K6) (e : Int) : Bool × Wk := if e = ep then (match fnd L q with | some t => (true, t) | none => (false, 0, [])) else (false, 0, [])
def GtE (w : World) (r : Bool × Wk) (e : Ending) (w' : World) : Prop :=
  ∃ v, e = .returned (.tuple #[wy r.2.1 v, .bool r.1]) ∧ Cn w' v r.2.2 ∧ (∀ g, v.ownBlock = some g → w.heap.size ≤ g) ∧ Below w.heap.size w w'
theorem mem_ks {L : List En} {x : En} (h : x ∈ L) : x.1 ∈ ks L := List.mem_map_of_mem h
theorem PC.find {w : World} {c m : Nat} {ov : Value} {room ep : Int} {F : K6 → Value} {L : List En} (h : PC w c m ov room ep F L) (q : K6) :
    ∃ b o v P, getA ep L q ep = (b, o, P) ∧ F q = wy o v ∧ Cn w v P ∧ decide (q ∈ ks L) = b ∧ P.length * 16 ≤ 140737488355328 := by
  unfold getA
  rw [if_pos rfl]
  cases hf : fnd L q with
  | none =>
    have hn := fnd_none.1 hf
    exact ⟨false, 0, .slice none 0 0, [], rfl, h.map.none hn, Rw.nil _ _ _ _, decide_eq_false hn, by simp⟩
  | some t =>
    have hm := fnd_some hf
    have hmm : q ∈ ks L := mem_ks hm
    obtain ⟨v, e1, e2⟩ := h.way (q, t) hm
    exact ⟨true, t.1, v, t.2, rfl, e1, e2, decide_eq_true hmm, h.fit (q, t) hm⟩
set_option maxRecDepth 100000 in
set_option maxHeartbeats 2000000 in
theorem get_is {w : World} {c m : Nat} {ov : Value} {room ep : Int} {F : K6 → Value} {L : List En} (h : PC w c m ov room ep F L) {q : K6} (hq : W6 q) (e : Int) :
    Calls Try.prog 9 #[ptr c, kv q, .int .i64 e] w (GtE w (getA ep L q e)) := by
  obtain ⟨X, hX⟩ : ∃ X, (w.alloc (.cells #[.int .i64 q.1, .int .i64 q.2.1, .int .i64 q.2.2.1, .int .i64 q.2.2.2.1, .int .i64 q.2.2.2.2.1, .int .i64 q.2.2.2.2.2] 36)).alloc (.cells #[.int .i64 0, .slice none 0 0] 39) = X := ⟨_, rfl⟩
  have B0 : Below w.heap.size w X := by rw [← hX]; exact box2 _ _ _
  have K0 : Bk X w.heap.size 36 (kCs q) := by rw [← hX]; exact ((Bk.new w 36 (kCs q)).upto (box1 _ _))
  have K1 : Bk X (w.heap.size + 1) 39 [.int .i64 0, .slice none 0 0] := by rw [← hX]; exact Bk.new2 _ _ _ _
  have zX : X.heap.size = w.heap.size + 2 := by rw [← hX]; simp
  have hP := h.upto B0
  have hm := made_yes c m X (hP.blk.cell 2 _ rfl)
  have b1 := hP.blk.cell 1 _ rfl
  have y0 := K1.cell 0 _ rfl
  have y1 := K1.cell 1 _ rfl
  have f0 := K1.frozen 0
  have f1 := K1.frozen 1
  by_cases he : e = ep
  · subst he
    obtain ⟨b, o, v, P, g1, g2, g3, g4, g5⟩ := hP.find q
    rw [g1]
    have hlk : ∀ wx, Below X.heap.size X wx → (Instr.lookup 59 (.map (some m)) (kv q) true).run Try.prog wx = .ok (.tuple #[wy o v, .bool b]) wx := fun wx hx => by
      have := (hP.upto hx).map.look2 hq
      rwa [g2, g4] at this
    obtain ⟨ad, n, cap, rfl⟩ := g3.shape
    obtain ⟨Y, hY⟩ : ∃ Y, X.drew = Y := ⟨_, rfl⟩
    have BY : Below X.heap.size X Y := by rw [← hY]; exact (Below.refl _ _).drew
    have zY : Y.heap.size = w.heap.size + 2 := by rw [← hY]; exact zX
    have PY := hide (hP.upto BY)
    have KY := hide (K0.upto BY)
    obtain ⟨Z, hZ⟩ : ∃ Z, Y.alloc (.cells #[.int .i64 0, .slice none 0 0] 39) = Z := ⟨_, rfl⟩
    have BZ : Below Y.heap.size Y Z := by rw [← hZ]; exact box1 _ _
    have KZ : Bk Z Y.heap.size 39 [.int .i64 0, .slice none 0 0] := by rw [← hZ]; exact Bk.new _ _ _
    have z0 := KZ.cell 0 _ rfl
    have z1 := KZ.cell 1 _ rfl
    have u0 := KZ.frozen 0
    have u1 := KZ.frozen 1
    obtain ⟨V, hV⟩ : ∃ V, (Z.setCell ⟨Y.heap.size, 0, none⟩ (.int .i64 o)).setCell ⟨Y.heap.size, 1, none⟩ (.slice ad n cap) = V := ⟨_, rfl⟩
    have BV : Below Y.heap.size Y V := by rw [← hV]; exact (BZ.setCell (Nat.le_refl _) _).setCell (Nat.le_refl _) _
    have KV : Bk V Y.heap.size 39 [.int .i64 o, .slice ad n cap] := by rw [← hV]; exact (KZ.set 0 (.int .i64 o)).set 1 (.slice ad n cap)
    have v0 := KV.cell 0 _ rfl
    have v1 := KV.cell 1 _ rfl
    have HC := hide (copied_is o (.slice ad n cap) P V (Cn.ceR (Rw.upto g3 (BY.trans (BV.mono BY.size)))) g5)
    have K1V := hide ((K1.upto BY).upto BV)
    have HB := hide (B0.trans ((BY.trans (BV.mono BY.size)).mono B0.size))
    have HX := hide hX
    have HY := hide hY
    have HZ := hide hZ
    have HV := hide hV
    have HL := hide hlk
    have HBY := hide BY
    have HBV := hide BV
    have ZY := hide zY
    clear h hP hX hY hZ hV K0 K1 B0 g1 g2 g3 hlk KZ KV BY BV zX zY
    go_enter Try.func9, Try.ntmps9
    go_wp2_with (rw [HX.out])
    refine hm.mono ?_
    rintro e1 w1 ⟨rfl, rfl⟩
    go_wp2_with fail
    refine wp_only ?_
    refine wp_region_z (fun wx : World => Below Y.heap.size Y wx) [] (by kernel_rfl) ?_
    rw [HY.out]
    refine zx 0 9 16 rfl (by kernel_rfl) (Below.refl _ _) ?_
    iterate 3 (refine zxc rfl (by rfl) (fun wx hx => by go_simp; rfl) ?_; simp only [zp])
    refine zxc (v := .map (some m)) rfl (by rfl) (fun wx hx => by have c0 := (PY.out.upto hx).blk.cell 2 _ rfl; clear hx; go_simp) ?_
    simp only [zp]
    refine zxc (v := kv q) rfl (by rfl) (fun wx hx => by
      have K := KY.out.upto hx
      have c0 := K.cell 0 _ rfl
      have c1 := K.cell 1 _ rfl
      have c2 := K.cell 2 _ rfl
      have c3 := K.cell 3 _ rfl
      have c4 := K.cell 4 _ rfl
      have c5 := K.cell 5 _ rfl
      clear hx; go_simp) ?_
    simp only [zp]
    refine zxc (v := .tuple #[wy o (.slice ad n cap), .bool b]) rfl (by rfl) (fun wx hx => by have hl := HL.out wx (HBY.out.trans (hx.mono HBY.out.size)); clear hx; go_simp) ?_
    simp only [zp]
    iterate 3 (refine zxc rfl (by rfl) (fun wx hx => by go_simp; rfl) ?_; simp only [zp])
    refine zxn ?_
    refine zq 9 (by kernel_rfl) rfl rfl (v' := ptr Y.heap.size) (w' := Z) (by rw [← HZ.out]; go_simp) (fun _ => BZ) ?_
    refine zw 10 [] (by kernel_rfl) ?_
    refine readyZ.skip (w' := V) rfl rfl (by rw [← HV.out]; go_simp) (fun h => HBV.out) ?_ readyZ.nil
    refine zq 11 (by kernel_rfl) rfl rfl (run_as rfl rfl) (fun _ => HBV.out) ?_
    refine anyZ_done (by kernel_rfl) ?_ _
    dsimp only [Only, Exit.then]
    clear z0 z1 u0 u1 y0 y1 f0 f1
    go_wp2_with fail
    refine HC.out.mono ?_
    rintro e1 U ⟨v2, rfl, hc2, ho2, hb2⟩
    obtain ⟨a2, n2, c2, rfl⟩ := hc2.shape
    have K1U := K1V.out.upto hb2
    have KE := (K1U.set 0 (.int .i64 o)).set 1 (.slice a2 n2 c2)
    have y0 := K1U.cell 0 _ rfl
    have y1 := K1U.cell 1 _ rfl
    have f0 := K1U.frozen 0
    have f1 := K1U.frozen 1
    have e0 := KE.cell 0 _ rfl
    have e1 := KE.cell 1 _ rfl
    have T : Turns (fun g => g = w.heap.size + 1) U ((U.setCell ⟨w.heap.size + 1, 0, none⟩ (.int .i64 o)).setCell ⟨w.heap.size + 1, 1, none⟩ (.slice a2 n2 c2)) := (Turns.set (S := fun g => g = w.heap.size + 1) U rfl _).trans (Turns.set _ (.inl rfl) _)
    have sV : w.heap.size ≤ V.heap.size := HB.out.size
    have HE := hide (show GtE w (b, o, P) (.returned (.tuple #[wy o (.slice a2 n2 c2), .bool b])) ((U.setCell ⟨w.heap.size + 1, 0, none⟩ (.int .i64 o)).setCell ⟨w.heap.size + 1, 1, none⟩ (.slice a2 n2 c2)) from
      ⟨_, rfl, hc2.stay T (fun g hg cur hc => by subst hg; have := K1U.symm.trans hc; simp at this), fun g e => Nat.le_trans sV (ho2 g e), ((HB.out.trans (hb2.mono sV)).setCell (by show w.heap.size ≤ w.heap.size + 1; omega) _).setCell (by show w.heap.size ≤ w.heap.size + 1; omega) _⟩)
    clear K1U KE T sV hc2 ho2 hb2 v0 v1
    go_wp2_with fail
    exact bodyPost_ret (v := .tuple #[wy o (.slice a2 n2 c2), .bool b]) (by simp [results, Try.results9, go_sem, e0, e1]) rfl HE.out
  · have hg : getA ep L q e = (false, 0, []) := by unfold getA; rw [if_neg he]
    rw [hg]
    have HE := hide ((B0.setCell (p := ⟨w.heap.size + 1, 0, none⟩) (by show w.heap.size ≤ w.heap.size + 1; omega) (.int .i64 0)).setCell (p := ⟨w.heap.size + 1, 1, none⟩) (by show w.heap.size ≤ w.heap.size + 1; omega) (.slice none 0 0))
    have HK := hide ((K1.set 0 (.int .i64 0)).set 1 (.slice none 0 0))
    have e0 := HK.out.cell 0 _ rfl
    have e1 := HK.out.cell 1 _ rfl
    have HX := hide hX
    clear h hP hX K0 K1 B0 hg
    go_enter Try.func9, Try.ntmps9
    go_wp2_with (rw [HX.out])
    refine hm.mono ?_
    rintro e1 w1 ⟨rfl, rfl⟩
    go_wp2_with fail
    refine bodyPost_ret (v := .tuple #[zW, .bool false]) (by simp [results, Try.results9, go_sem, e0, e1]) rfl ⟨_, rfl, Rw.nil _ _ _ _, (fun g e => by cases e), HE.out⟩
end Go.Proofs.Ytihjmgdihpeffaa
