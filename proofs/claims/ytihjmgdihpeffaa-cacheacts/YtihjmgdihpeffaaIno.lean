/-
  The program's inOrder: all keys with their ways, the oldest first.
-/
import Derived.Test.YtihjmgdihpeffaaRp
namespace Go.Proofs.Ytihjmgdihpeffaa
open Go.RowKit
set_option linter.unusedVariables false
set_option linter.unusedSimpArgs false
theorem blk_le {n m k c : Nat} (h : n ≤ m) : ∀ g, (Value.slice (some ⟨m, 0, none⟩) k c).ownBlock = some g → n ≤ g := fun g e => by
  have : m = g := by simpa [Value.ownBlock] using e
  omega
/-- What a value is as a way in memory. -/
def wvOf : Value → Wv
  | .agg xs => match xs.toList with
    | [.int .i64 o, .slice a n c] => (o, a, n, c)
    | _ => (0, none, 0, 0)
  | _ => (0, none, 0, 0)
theorem wvOf_wy (o : Int) (a : Option Addr) (n c : Nat) : wvOf (wy o (.slice a n c)) = (o, a, n, c) := rfl
/-- The list that inOrder makes. -/
def kwL (F : K6 → Value) (L : List En) : List (K6 × Wv) := L.map (fun x => (x.1, wvOf (F x.1)))
theorem kwL_take (F : K6 → Value) (L : List En) {k : Nat} {x : En} (h : L[k]? = some x) : kwL F (L.take (k + 1)) = kwL F (L.take k) ++ [(x.1, wvOf (F x.1))] := by
  rw [List.take_add_one, h]
  simp [kwL]
theorem run_make67 (w : World) (n : Nat) (hn : n ≤ 256) : ∃ w', (Instr.makeSlice 67 (.int .i64 0) (.int .i64 (n : Int))).run Try.prog w = .ok (.slice (some ⟨w.heap.size, 0, none⟩) 0 n) w' ∧ KWR w' (.slice (some ⟨w.heap.size, 0, none⟩) 0 n) [] ∧ Below w.heap.size w w' ∧ w'.heap.size = w.heap.size + 1 := by
  obtain ⟨fi, hf, hz, h1, h8⟩ := info_parts info70
  have hr := run_makeSlice (P := Try.prog) w 67 70 fi _ Try.underlying67 hf hz .i64 .i64 0 n (Int.le_refl _) (by omega) (by rw [h1, Int.toNat_natCast]; omega) (by rw [h8]; omega) (by omega)
  simp only [Int.toNat_zero, Int.toNat_natCast] at hr
  refine ⟨_, hr, World.ownsRow_made w _ n (Nat.zero_le _) (by unfold maxLen; omega) (by rw [h1]; exact size_madeCells _ _), box1 _ _, by simp⟩
/-- What inOrder tells. -/
def InE (w : World) (F : K6 → Value) (L : List En) (e : Ending) (w' : World) : Prop :=
  ∃ a n c, e = .returned (.slice a n c) ∧ KWR w' (.slice a n c) (kwL F L) ∧ (∀ g, (Value.slice a n c).ownBlock = some g → w.heap.size ≤ g) ∧ Below w.heap.size w w'
theorem kw8_one (q : K6) (o : Int) (a : Option Addr) (n c : Nat) (w : World) : KWR (w.alloc (.cells #[.int .i64 q.1, .int .i64 q.2.1, .int .i64 q.2.2.1, .int .i64 q.2.2.2.1, .int .i64 q.2.2.2.2.1, .int .i64 q.2.2.2.2.2, .int .i64 o, .slice a n c] 70)) (.slice (some ⟨w.heap.size, 0, none⟩) 1 1) [(q, (o, a, n, c))] := Rw.single (cs := kwCs) kwCs_len w (q, (o, a, n, c))
set_option maxRecDepth 100000 in
set_option maxHeartbeats 4000000 in
theorem inorder_is {w : World} {c m : Nat} {ov : Value} {room ep : Int} {F : K6 → Value} {L : List En} (h : PC w c m ov room ep F L) :
    Calls Try.prog 23 #[ptr c] w (InE w F L) := by
  have hlk : (ks L).length = L.length := by simp
  have hL : L.length ≤ 256 := by have := h.rm; have := h.le; omega
  obtain ⟨ao, no, co, rfl⟩ := h.ord.shape
  obtain ⟨rfl⟩ : no = L.length := by
    rcases h.ord.slice with ⟨e, e0⟩ | ⟨g, cap, e, -⟩
    · cases e; rw [← hlk, e0]; rfl
    · cases e; exact hlk
  obtain ⟨W0, hr0, hk0, hb0, hz0⟩ := run_make67 w L.length hL
  have c3 := h.blk.cell 3 _ rfl
  have d3 := (h.blk.upto hb0).cell 3 _ rfl
  have HH := hide h
  have HK0 := hide (And.intro hk0 <| And.intro hb0 hz0)
  have hL63 : (0 : Int) ≤ (L.length : Nat) := by omega
  clear h hk0 hb0 hz0
  go_enter Try.func23, Try.ntmps23
  go_wp2_with fail
  go_loopw [3, 17] (fun s3 s17 wr => ∃ k : Nat, k ≤ L.length ∧ s17 = .int .i64 k ∧ ∃ a n c', s3 = .slice a n c' ∧ KWR wr s3 (kwL F (L.take k)) ∧ (∀ g, s3.ownBlock = some g → w.heap.size ≤ g) ∧ Below w.heap.size w wr) (fun _ s17 _ => L.length - (intOf s17).toNat)
  case atStart => exact ⟨0, Nat.zero_le _, rfl, _, _, _, rfl, by rw [List.take_zero]; exact HK0.out.1, blk_le (Nat.le_refl _), HK0.out.2.1⟩
  case round =>
    obtain ⟨k, hk, rfl, a, n, c', rfl, hK, ho, hB⟩ := hrel
    by_cases hlt : k < L.length
    · obtain ⟨x, hx⟩ : ∃ x, L[k]? = some x := ⟨_, List.getElem?_eq_getElem hlt⟩
      have hP := HH.out.upto hB
      have hxk : (ks L)[k]? = some x.1 := by rw [ks, List.getElem?_map, hx]; rfl
      obtain ⟨g, cap, e, -, -, hcs⟩ := Rw.elt kCs_len hP.ord hxk
      injection e with e1 e2 e3
      subst e1
      clear e2 e3
      obtain ⟨v, hF, hv⟩ := HH.out.way x (List.mem_of_getElem? hx)
      obtain ⟨av, nv, cv, rfl⟩ := hv.shape
      have hki : (k : Int) < (L.length : Nat) := by omega
      have c0 : wr.cell? ⟨g, k * 6 + 0, none⟩ = some (.int .i64 x.1.1) := hcs 0 _ rfl
      have c1 : wr.cell? ⟨g, k * 6 + 1, none⟩ = some (.int .i64 x.1.2.1) := hcs 1 _ rfl
      have c2 : wr.cell? ⟨g, k * 6 + 2, none⟩ = some (.int .i64 x.1.2.2.1) := hcs 2 _ rfl
      have c3' : wr.cell? ⟨g, k * 6 + 3, none⟩ = some (.int .i64 x.1.2.2.2.1) := hcs 3 _ rfl
      have c4 : wr.cell? ⟨g, k * 6 + 4, none⟩ = some (.int .i64 x.1.2.2.2.2.1) := hcs 4 _ rfl
      have c5 : wr.cell? ⟨g, k * 6 + 5, none⟩ = some (.int .i64 x.1.2.2.2.2.2) := hcs 5 _ rfl
      rw [Nat.add_zero] at c0
      obtain ⟨Y, hY⟩ : ∃ Y, (wr.alloc (.cells #[.int .i64 x.1.1, .int .i64 x.1.2.1, .int .i64 x.1.2.2.1, .int .i64 x.1.2.2.2.1, .int .i64 x.1.2.2.2.2.1, .int .i64 x.1.2.2.2.2.2] 36)).drew = Y := ⟨_, rfl⟩
      have BY : Below wr.heap.size wr Y := by rw [← hY]; exact (box1 _ _).drew
      have KY : Bk Y wr.heap.size 36 (kCs x.1) := by rw [← hY]; exact (Bk.new wr 36 (kCs x.1)).drew
      have PY := hP.upto BY
      have hlook := PY.map.look (q := x.1) (PY.map.w6 _ (List.mem_of_getElem? hxk))
      rw [hF] at hlook
      obtain ⟨Z, hZ⟩ : ∃ Z, Y.alloc (.cells #[.int .i64 x.1.1, .int .i64 x.1.2.1, .int .i64 x.1.2.2.1, .int .i64 x.1.2.2.2.1, .int .i64 x.1.2.2.2.2.1, .int .i64 x.1.2.2.2.2.2, .int .i64 x.2.1, .slice av nv cv] 70) = Z := ⟨_, rfl⟩
      have BZ : Below Y.heap.size Y Z := by rw [← hZ]; exact box1 _ _
      have KZ : KWR Z (.slice (some ⟨Y.heap.size, 0, none⟩) 1 1) [(x.1, (x.2.1, av, nv, cv))] := by rw [← hZ]; exact kw8_one x.1 x.2.1 av nv cv Y
      obtain ⟨v', A, r1, r2, r3, r4⟩ := KWR.more (Rw.upto (Rw.upto hK BY) BZ) (Rw.rd kwCs_len KZ KZ.cap) (by simp [kwL]; omega) 67
      obtain ⟨a', n', c'', rfl⟩ := r2.shape
      have hsz : w.heap.size ≤ wr.heap.size := hB.size
      have HA : Hid (KWR A (.slice a' n' c'') (kwL F (L.take (k + 1))) ∧ (∀ g, (Value.slice a' n' c'').ownBlock = some g → w.heap.size ≤ g) ∧ Below w.heap.size w A) :=
        ⟨by rw [kwL_take F L hx, hF, wvOf_wy]; exact r2, fun g hg => by
          rcases r3 with e | e
          · rw [e] at hg; exact ho g hg
          · rw [e] at hg
            cases hg
            have := BY.size
            have := BZ.size
            omega, hB.trans ((BY.mono hsz).trans ((BZ.mono (Nat.le_trans hsz BY.size)).trans (r4.below (B := w.heap.size) (fun g hg => ho g hg) (Nat.le_trans hsz (Nat.le_trans BY.size BZ.size)))))⟩
      have b0 := KY.cell 0 _ rfl
      have b1 := KY.cell 1 _ rfl
      have b2 := KY.cell 2 _ rfl
      have b3 := KY.cell 3 _ rfl
      have b4 := KY.cell 4 _ rfl
      have b5 := KY.cell 5 _ rfl
      have bm := PY.blk.cell 2 _ rfl
      have HR := hide r1
      have HY := hide hY
      have HZ := hide hZ
      have HL := hide hlook
      clear hcs hP hxk hF hv BY KY PY hlook BZ KZ r1 r2 r3 r4 hsz hY hZ hK ho hB
      go_wp2_with fail
      refine wp_only ?_
      refine wp_region_z (fun wx : World => wx = Y) [0, 9, 10, 11] (by kernel_rfl) ?_
      rw [HY.out]
      refine anyZ_copy 0 rfl (by rfl) (by kernel_rfl) (fun _ _ _ h => h.elim) (v := .slice a n c') (.inl ⟨by rfl, fun wx _ => run_mv rfl (by rfl)⟩) ?_
      simp only [zp]
      refine zx 1 8 16 rfl (by kernel_rfl) rfl ?_
      refine zxc (v := kv x.1) rfl (by rfl) (fun wx hx => by subst hx; go_simp) ?_
      simp only [zp]
      iterate 3 (refine zxc rfl (by rfl) (fun wx hx => by subst hx; go_simp; rfl) ?_; simp only [zp])
      refine zxc (v := .map (some m)) rfl (by rfl) (fun wx hx => by subst hx; go_simp) ?_
      simp only [zp]
      refine zxc (v := kv x.1) rfl (by rfl) (fun wx hx => by subst hx; go_simp) ?_
      simp only [zp]
      refine zxc (v := wy x.2.1 (.slice av nv cv)) rfl (by rfl) (fun wx hx => by subst hx; have hl := HL.out; go_simp) ?_
      simp only [zp]
      refine zxc (v := .agg #[.int .i64 x.1.1, .int .i64 x.1.2.1, .int .i64 x.1.2.2.1, .int .i64 x.1.2.2.2.1, .int .i64 x.1.2.2.2.2.1, .int .i64 x.1.2.2.2.2.2, .int .i64 x.2.1, .slice av nv cv]) rfl (by rfl) (fun wx hx => by subst hx; go_simp) ?_
      simp only [zp]
      refine zxn ?_
      refine zq 9 (by kernel_rfl) rfl rfl (v' := .slice (some ⟨Y.heap.size, 0, none⟩) 1 1) (w' := Z) (by rw [← HZ.out]; go_simp) (fun h => absurd (by decide) h) ?_
      refine zq 10 (by kernel_rfl) rfl rfl (run_app rfl rfl rfl HR.out) (fun h => absurd (by decide) h) ?_
      refine zq 11 (by kernel_rfl) rfl rfl (run_as rfl rfl) (fun h => absurd (by decide) h) ?_
      refine anyZ_done (by kernel_rfl) ?_ _
      dsimp only [Only, Exit.then]
      clear b0 b1 b2 b3 b4 b5 bm c0 c1 c2 c3' c4 c5
      go_wp2_with fail
      go_roundw
      case rel => exact ⟨k + 1, by omega, by go_num, _, _, _, rfl, HA.out⟩
      case measure => simp [intOf]; omega
    · obtain rfl : k = L.length := by omega
      have hki : ¬ ((L.length : Nat) : Int) < (L.length : Nat) := by omega
      rw [List.take_length] at hK
      go_wp2_with fail
      go_ret
      exact ⟨_, _, _, rfl, hK, ho, hB⟩
end Go.Proofs.Ytihjmgdihpeffaa
