/-
  The document's cache: what lies in memory; New, place, Get.
-/
import Derived.Test.YtihjmgdihpeffaaAwk
namespace Go.Proofs.Ytihjmgdihpeffaa
open Go.RowKit
set_option linter.unusedVariables false
set_option linter.unusedSimpArgs false
/-- The document's cache in block d: its keys in the row kx, its ways in the row wx. -/
structure RC (w : World) (d : Nat) (kx wx : Value) (room ep : Int) (U : List Wv) (L : List En) : Prop where
  blk : Bk w d 54 [.int .i64 room, .int .i64 ep, kx, wx]
  keys : KR w kx (ks L)
  ways : WR w wx U
  len : U.length = L.length
  way : ∀ (i : Nat) u x, U[i]? = some u → L[i]? = some x → u.1 = x.2.1 ∧ Cn w u.v x.2.2
  nd : (ks L).Nodup
  fit : ∀ x ∈ L, x.2.2.length * 16 ≤ 140737488355328
  rm : 1 ≤ room ∧ room ≤ 256
  le : (L.length : Int) ≤ room
section
variable {w w' : World} {d : Nat} {kx wx : Value} {room ep : Int} {U : List Wv} {L : List En}
theorem RC.upto (h : RC w d kx wx room ep U L) (hb : Below w.heap.size w w') : RC w' d kx wx room ep U L :=
  ⟨h.blk.upto hb, h.keys.upto hb, h.ways.upto hb, h.len, fun i u x hu hx => ⟨(h.way i u x hu hx).1, (h.way i u x hu hx).2.upto hb⟩, h.nd, h.fit, h.rm, h.le⟩
theorem RC.kept {S : Nat → Prop} (h : RC w d kx wx room ep U L) (ht : Turns S w w') (hd : ¬ S d) (hk : ∀ g, kx.ownBlock = some g → ¬ S g) (hw : ∀ g, wx.ownBlock = some g → ¬ S g) (hc : ∀ g, S g → ∀ cur, w.heap[g]? ≠ some (.cells cur 34 (0, 0))) : RC w' d kx wx room ep U L :=
  ⟨h.blk.kept ht hd, h.keys.kept ht hk, h.ways.kept ht hw, h.len, fun i u x hu hx => ⟨(h.way i u x hu hx).1, (h.way i u x hu hx).2.stay ht hc⟩, h.nd, h.fit, h.rm, h.le⟩
end
theorem run_eqK {ev : Operand → Value} {o : Oper} {w : World} {x y : Operand} {a b : K6} (ho : o.op = .binOp .eql 36 x y 36) (hx : ev x = kv a) (hy : ev y = kv b) : (execOp ev o).run Try.prog w = .ok (.value (.bool (decide (a = b)))) w := by
  obtain ⟨a1, a2, a3, a4, a5, a6⟩ := a
  obtain ⟨b1, b2, b3, b4, b5, b6⟩ := b
  by_cases h1 : a1 = b1
  · subst h1
    by_cases h2 : a2 = b2
    · subst h2
      by_cases h3 : a3 = b3
      · subst h3
        by_cases h4 : a4 = b4
        · subst h4
          by_cases h5 : a5 = b5
          · subst h5
            by_cases h6 : a6 = b6
            · subst h6
              (unfold execOp; simp only [ho, hx, hy]; go_simp)
            · (unfold execOp; simp only [ho, hx, hy]; go_simp)
          · (unfold execOp; simp only [ho, hx, hy]; go_simp)
        · (unfold execOp; simp only [ho, hx, hy]; go_simp)
      · (unfold execOp; simp only [ho, hx, hy]; go_simp)
    · (unfold execOp; simp only [ho, hx, hy]; go_simp)
  · (unfold execOp; simp only [ho, hx, hy]; go_simp)
theorem run_neK {ev : Operand → Value} {o : Oper} {w : World} {x y : Operand} {a b : K6} (ho : o.op = .binOp .neq 36 x y 36) (hx : ev x = kv a) (hy : ev y = kv b) : (execOp ev o).run Try.prog w = .ok (.value (.bool !(decide (a = b)))) w := by
  obtain ⟨a1, a2, a3, a4, a5, a6⟩ := a
  obtain ⟨b1, b2, b3, b4, b5, b6⟩ := b
  by_cases h1 : a1 = b1
  · subst h1
    by_cases h2 : a2 = b2
    · subst h2
      by_cases h3 : a3 = b3
      · subst h3
        by_cases h4 : a4 = b4
        · subst h4
          by_cases h5 : a5 = b5
          · subst h5
            by_cases h6 : a6 = b6
            · subst h6
              (unfold execOp; simp only [ho, hx, hy]; go_simp)
            · (unfold execOp; simp only [ho, hx, hy]; go_simp)
          · (unfold execOp; simp only [ho, hx, hy]; go_simp)
        · (unfold execOp; simp only [ho, hx, hy]; go_simp)
      · (unfold execOp; simp only [ho, hx, hy]; go_simp)
    · (unfold execOp; simp only [ho, hx, hy]; go_simp)
  · (unfold execOp; simp only [ho, hx, hy]; go_simp)
/-- What the document's New tells. -/
def RnE (w : World) (room : Int) (e : Ending) (w' : World) : Prop :=
  (1 ≤ room ∧ room ≤ 256 ∧ e = .returned (.tuple #[ptr w.heap.size, .int .i64 0]) ∧ RC w' w.heap.size (.slice none 0 0) (.slice none 0 0) room 0 [] [] ∧ Below w.heap.size w w') ∨
  (¬ (1 ≤ room ∧ room ≤ 256) ∧ e = .returned (.tuple #[.pointer none, .int .i64 1]) ∧ w' = w)
set_option maxHeartbeats 1000000 in
theorem refnew_is (room : Int) (w : World) : Calls Try.prog 8 #[.int .i64 room] w (RnE w room) := by
  by_cases h1 : room < 1
  · go_enter Try.func8, Try.ntmps8
    go_wp2_with fail
    go_ret2
    exact .inr ⟨by omega, rfl, rfl⟩
  · by_cases h2 : 256 < room
    · go_enter Try.func8, Try.ntmps8
      go_wp2_with fail
      go_ret2
      exact .inr ⟨by omega, rfl, rfl⟩
    · go_enter Try.func8, Try.ntmps8
      go_wp2_with fail
      go_ret2
      exact .inl ⟨by omega, by omega, rfl, ⟨Bk.new w 54 [.int .i64 room, .int .i64 0, .slice none 0 0, .slice none 0 0], Rw.nil _ _ _ _, Rw.nil _ _ _ _, rfl, fun i u x hu => by simp at hu, List.nodup_nil, fun x hx => by simp at hx, by omega, by simp; omega⟩, box1 _ _⟩
/-- Which one a key is, from i on. -/
def plc : List K6 → K6 → Nat → Int
  | [], _, _ => -1
  | x :: r, q, i => if x = q then (i : Int) else plc r q (i + 1)
theorem plc_drop {K : List K6} {k : Nat} {x q : K6} (h : K[k]? = some x) : plc (K.drop k) q k = if x = q then (k : Int) else plc (K.drop (k + 1)) q (k + 1) := by
  have hk := (List.getElem?_eq_some_iff.1 h).1
  have hx : K[k] = x := (List.getElem?_eq_some_iff.1 h).2
  rw [List.drop_eq_getElem_cons hk, hx]
  rfl
theorem plc_end (K : List K6) (q : K6) : plc (K.drop K.length) q K.length = -1 := by
  rw [List.drop_length]
  rfl
theorem plc_spec : ∀ (K : List K6) (q : K6) (i : Nat), (plc K q i = -1 ∧ q ∉ K) ∨ ∃ j, plc K q i = ((i + j : Nat) : Int) ∧ K[j]? = some q ∧ j < K.length
  | [], q, i => .inl ⟨rfl, by simp⟩
  | x :: r, q, i => by
    unfold plc
    by_cases e : x = q
    · rw [if_pos e]
      exact .inr ⟨0, rfl, by rw [e]; rfl, by simp⟩
    · rw [if_neg e]
      rcases plc_spec r q (i + 1) with ⟨h1, h2⟩ | ⟨j, h1, h2, h3⟩
      · exact .inl ⟨h1, by simp [Ne.symm e, h2]⟩
      · exact .inr ⟨j + 1, by rw [h1]; congr 1; omega, h2, by simpa using h3⟩
theorem Rw.elt {α : Type} {t k : Nat} {cs : α → List Value} {w : World} {v : Value} {l : List α} (hk : ∀ a, (cs a).length = k) (h : Rw t k cs w v l) {i : Nat} {x : α} (hi : l[i]? = some x) : ∃ g cap, v = .slice (some ⟨g, 0, none⟩) l.length cap ∧ l.length ≤ cap ∧ g < w.heap.size ∧ ∀ j u, (cs x)[j]? = some u → w.cell? ⟨g, i * k + j, none⟩ = some u := by
  obtain ⟨a, cap, e, h1, h2⟩ := Rw.form hk h
  obtain ⟨g, rfl, h3, h4⟩ := h2 i x hi
  exact ⟨g, cap, e, h1, h3, h4⟩
set_option maxRecDepth 100000 in
set_option maxHeartbeats 2000000 in
theorem place_is {w : World} {d : Nat} {kx wx : Value} {room ep : Int} {K : List K6} (hb : Bk w d 54 [.int .i64 room, .int .i64 ep, kx, wx]) (hK : KR w kx K) (hl : K.length ≤ 256) (q : K6) :
    Calls Try.prog 19 #[ptr d, kv q] w fun e w' => e = .returned (.int .i64 (plc K q 0)) ∧ Below w.heap.size w w' := by
  obtain ⟨X, hX⟩ : ∃ X, w.alloc (.cells #[.int .i64 q.1, .int .i64 q.2.1, .int .i64 q.2.2.1, .int .i64 q.2.2.2.1, .int .i64 q.2.2.2.2.1, .int .i64 q.2.2.2.2.2] 36) = X := ⟨_, rfl⟩
  have B0 : Below w.heap.size w X := by rw [← hX]; exact box1 _ _
  have K0 : Bk X w.heap.size 36 (kCs q) := by rw [← hX]; exact Bk.new w 36 (kCs q)
  have hb := hb.upto B0
  have hK := Rw.upto hK B0
  obtain ⟨a, n, cap, hkx⟩ := hK.shape
  subst hkx
  obtain ⟨rfl, hcap⟩ : n = K.length ∧ K.length ≤ cap := by
    rcases hK.slice with ⟨e, rfl⟩ | ⟨g, cap', e, h1, -⟩
    · cases e; exact ⟨rfl, Nat.zero_le _⟩
    · cases e; exact ⟨rfl, h1⟩
  have HX := hide hX
  have HB0 := hide B0
  clear hX B0
  go_enter Try.func19, Try.ntmps19
  go_wp2_with (rw [HX.out])
  go_loopw [5] (fun s5 wr => ∃ k : Nat, k ≤ K.length ∧ s5 = .int .i64 k ∧ Below X.heap.size X wr ∧ Hid (plc K q 0 = plc (K.drop k) q k)) (fun s5 _ => K.length - (intOf s5).toNat)
  case atStart => exact ⟨0, Nat.zero_le _, rfl, Below.refl _ _, rfl⟩
  case round =>
    obtain ⟨k, hk, rfl, hB, hp⟩ := hrel
    have hb2 := (hb.upto hB).cell 2 _ rfl
    by_cases hlt : k < K.length
    · obtain ⟨x, hx⟩ : ∃ x, K[k]? = some x := ⟨_, List.getElem?_eq_getElem hlt⟩
      obtain ⟨g, cap', e, -, -, hcs⟩ := Rw.elt kCs_len (Rw.upto hK hB) hx
      cases e
      have hki : (k : Int) < (K.length : Nat) := by omega
      obtain ⟨Y, hY⟩ : ∃ Y, wr.drew = Y := ⟨_, rfl⟩
      have BY : Below X.heap.size X Y := by rw [← hY]; exact hB.drew
      have hcs : ∀ j u, (kCs x)[j]? = some u → Y.cell? ⟨g, k * 6 + j, none⟩ = some u := by rw [← hY]; exact hcs
      have c0 := hcs 0 _ rfl
      have c1 := hcs 1 _ rfl
      have c2 := hcs 2 _ rfl
      have c3 := hcs 3 _ rfl
      have c4 := hcs 4 _ rfl
      have c5 := hcs 5 _ rfl
      rw [Nat.add_zero] at c0
      have KY := K0.upto BY
      have d0 := KY.cell 0 _ rfl
      have d1 := KY.cell 1 _ rfl
      have d2 := KY.cell 2 _ rfl
      have d3 := KY.cell 3 _ rfl
      have d4 := KY.cell 4 _ rfl
      have d5 := KY.cell 5 _ rfl
      have y2 := (hb.upto BY).cell 2 _ rfl
      have hpd := plc_drop (q := q) hx
      have HBY := hide BY
      have HY := hide hY
      clear hcs KY BY hY hB hb hK K0
      go_wp2_with fail
      refine wp_only ?_
      refine wp_region_z (fun wx : World => wx = Y) [] (by kernel_rfl) ?_
      rw [HY.out]
      refine zx 0 9 16 rfl (by kernel_rfl) rfl ?_
      iterate 6 (refine zxc rfl (by rfl) (fun wx hx => by subst hx; go_simp; rfl) ?_; simp only [zp])
      refine zxc (v := kv x) rfl (by rfl) (fun wx hx => by subst hx; go_simp) ?_
      simp only [zp]
      refine zxc (v := kv q) rfl (by rfl) (fun wx hx => by subst hx; go_simp) ?_
      simp only [zp]
      refine zxc (v := .bool (decide (x = q))) rfl (by rfl) (fun wx hx => by subst hx; exact run_eqK rfl rfl rfl) ?_
      simp only [zp]
      refine zxn ?_
      refine anyZ_done (by kernel_rfl) ?_ _
      dsimp only [Only, Exit.then]
      clear c0 c1 c2 c3 c4 c5 d0 d1 d2 d3 d4 d5
      by_cases hxq : x = q
      · rw [if_pos hxq] at hpd
        have hdc : decide (x = q) = true := decide_eq_true hxq
        rw [hdc]
        clear hdc
        have HP := hide (hp.out.trans hpd)
        clear hp hpd hxq
        go_wp2_with fail
        go_ret
        exact ⟨ret_int HP.out.symm, HB0.out.trans (HBY.out.mono HB0.out.size)⟩
      · rw [if_neg hxq] at hpd
        have hdc : decide (x = q) = false := decide_eq_false hxq
        rw [hdc]
        clear hdc
        have HP := hide (hp.out.trans hpd)
        clear hp hpd hxq
        go_wp2_with fail
        go_roundw
        case rel => exact ⟨k + 1, by omega, by go_num, HBY.out, HP.out⟩
        case measure => simp [intOf]; omega
    · obtain rfl : k = K.length := by omega
      have hki : ¬ ((K.length : Nat) : Int) < (K.length : Nat) := by omega
      have HP := hide (hp.out.trans (plc_end K q))
      clear hp
      go_wp2_with fail
      go_ret
      exact ⟨ret_int HP.out.symm, HB0.out.trans (hB.mono HB0.out.size)⟩
end Go.Proofs.Ytihjmgdihpeffaa
