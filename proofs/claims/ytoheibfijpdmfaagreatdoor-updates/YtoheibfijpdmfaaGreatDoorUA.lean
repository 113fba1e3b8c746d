/-
  What the edits turned. What an edit cannot turn: cells out of reach keep their clearance. Update: the field goes on to the world as it is. phalanxlaw07.Does: an edit in both worlds, and what it leaves. Both worlds side by side, as phalanxlaw06.Both makes them.
-/
import Derived.Test.YtoheibfijpdmfaaGreatDoorUR
import Derived.Test.YtoheibfijpdmfaaGreatDoorFBuild
import Derived.Test.YtoheibfijpdmfaaGreatDoorBoth
set_option linter.unusedSimpArgs false
set_option linter.unusedSimpArgs false
namespace Go.Proofs.YtoheibfijpdmfaaGreatDoor
open Go.RowKit
set_option linter.unusedVariables false
theorem rcs_drop : ∀ (l : List Rc) (i : Nat), (l.drop i).flatMap Rc.cs = (l.flatMap Rc.cs).drop (i * 4)
  | l, 0 => by simp
  | [], i + 1 => by simp
  | t :: r, i + 1 => by
    rw [List.drop_succ_cons, rcs_drop r i, List.flatMap_cons, List.drop_append]
    have : t.cs.length = 4 := rfl
    rw [show t.cs.drop ((i + 1) * 4) = [] from List.drop_eq_nil_of_le (by omega), List.nil_append, this, show (i + 1) * 4 - 4 = i * 4 by omega]
theorem rc_cells {w : World} {g n cap : Nat} {l : List Rc} (h : Rcs w (.slice (some ⟨g, 0, none⟩) n cap) l) (m : Nat) : ∀ j u, ((l.drop m).flatMap Rc.cs)[j]? = some u → w.cell? ((⟨g, m * 4, none⟩ : Addr).add j) = some u := fun j u hu => by
  rw [rcs_drop, List.getElem?_drop] at hu
  have := World.ownsRow.cells h (g := g) rfl (m * 4 + j) u hu
  simpa [Addr.add_lit] using this
end Go.Proofs.YtoheibfijpdmfaaGreatDoor
set_option linter.unusedSimpArgs false
namespace Go.Proofs.YtoheibfijpdmfaaGreatDoor
open Go.RowKit
set_option linter.unusedVariables false
set_option maxHeartbeats 1000000 in
/-- slices.Clone of rectangles that begin anywhere. -/
theorem clone48at (l : List Rc) (g o cap : Nat) (w : World) (hb : g < w.heap.size) (hv : ∀ j u, (l.flatMap Rc.cs)[j]? = some u → w.cell? ((⟨g, o, none⟩ : Addr).add j) = some u) (hc : l.length ≤ cap) (hm : cap ≤ maxLen) (hl : l.length * 32 ≤ 140737488355328) :
    Calls Tryz.prog 88 #[.slice (some ⟨g, o, none⟩) l.length cap] w (Cloned w 48 4 l.length (l.flatMap Rc.cs)) := by
  obtain ⟨fi, hf, hz, h1, h2⟩ := info_parts info43
  have q1 := eql48
  have q2 := eql48'
  have hcells : ∀ j u, (l.flatMap Rc.cs)[j]? = some u → (w.alloc (.cells #[] 48)).cell? ((⟨g, o, none⟩ : Addr).add j) = some u := fun j u hu => ((box1 w (.cells #[] 48)).cell (p := (⟨g, o, none⟩ : Addr).add j) (by rw [Addr.add_lit]; exact hb)).trans (hv j u hu)
  have hm1 : 0 + l.length ≤ maxLen := by unfold maxLen; omega
  have hm2 : (0 + l.length) * 32 ≤ 140737488355328 := by omega
  have hbase : (w.alloc (.cells #[] 48)).ownsRow 0 48 4 (.slice (some ⟨w.heap.size, 0, none⟩) 0 0) 0 [] := World.ownsRow_made w #[] 0 (Nat.zero_le _) (by decide) rfl
  have HB := hide hbase
  have HC := hide hcells
  obtain ⟨n, hnn⟩ : ∃ n, n = l.length := ⟨_, rfl⟩
  have hln : (l.flatMap Rc.cs).length = l.length * 4 := rcs_len l
  clear hv hbase hcells hb
  go_enter Tryz.func88, Tryz.ntmps88
  go_wp2_with (at_builtin; refine wpList_append_own_at _ rfl _ _ 90 rfl 0 48 fi z43 4 32 Tryz.underlying90 hf hz h1 h2 rfl (by decide) (.slice (some ⟨w.heap.size, 0, none⟩) 0 0) 0 [] rfl HB.out ⟨g, o, none⟩ l.length cap (l.flatMap Rc.cs) rfl hln HC.out one_rcs hm1 hm2 (Nat.zero_le _) ?_; intro v' w1 hown' hgrow hnil hloc; have HE := hide (cloned_end hown' hgrow hloc); clear hown' hgrow hnil hloc)
  go_ret
  exact HE.out
set_option maxHeartbeats 1000000 in
theorem dirty_no (p bm : Nat) (W H : Int) (tv bv ev : Value) (es : List Rc) (e : Int) (w : World) (hd : Wd w p W H tv bv bm ev) (he : Rcs w ev es) (h : e < 0 ∨ (es.length : Int) ≤ e) :
    Calls Tryz.prog 61 #[ptr p, .int .i64 e] w fun x w' => x = .returned (.slice none 0 0) ∧ w' = w := by
  obtain ⟨a, cap, rfl, -, -⟩ := he.form
  have c7 : w.cell? ⟨p, 7, none⟩ = some (.slice a es.length cap) := hd.c 7
  have HM := hide (made_is hd)
  clear hd he
  by_cases h0 : e < 0
  · go_enter Tryz.func61, Tryz.ntmps61
    go_wp2_with (go_at_call 42; refine HM.out.mono ?_; rintro x w' ⟨rfl, rfl⟩)
    go_ret
    exact ⟨rfl, rfl⟩
  · have h1 : (es.length : Int) ≤ e := h.resolve_left h0
    go_enter Tryz.func61, Tryz.ntmps61
    go_wp2_with (go_at_call 42; refine HM.out.mono ?_; rintro x w' ⟨rfl, rfl⟩)
    go_ret
    exact ⟨rfl, rfl⟩
set_option maxRecDepth 100000 in
set_option maxHeartbeats 2000000 in
theorem dirty_yes (p bm : Nat) (W H : Int) (tv bv ev : Value) (es : List Rc) (k : Nat) (w : World) (hd : Wd w p W H tv bv bm ev) (he : Rcs w ev es) (hk : k < es.length) (hes : es.length * 32 ≤ 140737488355328) :
    Calls Tryz.prog 61 #[ptr p, .int .i64 k] w fun x w' => ∃ v, x = .returned v ∧ Rcs w' v (es.drop k) ∧ Below w.heap.size w w' ∧ ∀ b, v.ownBlock = some b → w.heap.size ≤ b := by
  have c7 : w.cell? ⟨p, 7, none⟩ = some ev := hd.c 7
  have HM := hide (made_is hd)
  rcases he.2 with ⟨rfl, h0⟩ | ⟨g, cap, cur, rfl, -, hg, hn, hm, -⟩
  · omega
  · have hki : (0 : Int) ≤ (k : Int) ∧ (k : Int) < (es.length : Nat) ∧ (k : Int) ≤ (cap : Nat) := by omega
    have hcm : (cap : Int) ≤ 9223372036854775807 := by unfold maxLen at hm; omega
    have hc : ¬ cap - k = 0 := by omega
    have hl : (es.drop k).length = es.length - k := List.length_drop
    have HK := hide (clone48at (es.drop k) g (k * 4) (cap - k) w (Array.getElem?_eq_some_iff.1 hg).1 (rc_cells he k) (by omega) (by unfold maxLen; omega) (by omega))
    rw [hl] at HK
    have HL := hide hl
    clear hd he hg hl
    go_enter Tryz.func61, Tryz.ntmps61
    go_wp2_with (first | (go_at_call 42; refine HM.out.mono ?_; rintro x w' ⟨rfl, rfl⟩) | (go_at_call 88; refine HK.out.mono ?_; rintro x w1 ⟨a1, cap1, rfl, hr, hb1, hf1⟩; have HR := hide hr; have HB := hide hb1; have HF := hide hf1; clear hr hb1 hf1))
    go_ret
    exact ⟨_, rfl, by unfold Rcs; rw [HL.out]; exact HR.out, HB.out, HF.out⟩
/-- Rectangle number i of those that lie at a. -/
theorem rc_at {w : World} {v : Value} {l : List Rc} (h : Rcs w v l) : ∃ a cap, v = .slice a l.length cap ∧ l.length ≤ cap ∧ cap ≤ maxLen ∧ ∀ i t, l[i]? = some t → ∃ g, a = some ⟨g, 0, none⟩ ∧ w.cell? ⟨g, i * 4, none⟩ = some (.int .i64 t.x) ∧ w.cell? ⟨g, i * 4 + 1, none⟩ = some (.int .i64 t.y) ∧ w.cell? ⟨g, i * 4 + 2, none⟩ = some (.int .i64 t.a) ∧ w.cell? ⟨g, i * 4 + 3, none⟩ = some (.int .i64 t.b) := by
  rcases h.2 with ⟨e, h0⟩ | ⟨g, cap, cur, e, hb, hg, hn, hm, hs, ht⟩
  · exact ⟨none, 0, by rw [h0]; exact e, by omega, by decide, fun i t hi => by
      have := List.eq_nil_of_length_eq_zero h0; subst this; simp at hi⟩
  · refine ⟨_, cap, e, hn, hm, fun i t hi => ⟨g, rfl, ?_⟩⟩
    subst e
    have hlt := (List.getElem?_eq_some_iff.1 hi).1
    have hd : l.drop i = t :: l.drop (i + 1) := by
      rw [List.drop_eq_getElem_cons hlt, (List.getElem?_eq_some_iff.1 hi).2]
    have hc : ∀ j u, t.cs[j]? = some u → w.cell? ⟨g, i * 4 + j, none⟩ = some u := fun j u hu => by
      have := rc_cells h i j u (by
        rw [hd, List.flatMap_cons, List.getElem?_append_left ((List.getElem?_eq_some_iff.1 hu).1)]
        exact hu)
      simpa [Addr.add_lit] using this
    exact ⟨hc 0 _ rfl, hc 1 _ rfl, hc 2 _ rfl, hc 3 _ rfl⟩
end Go.Proofs.YtoheibfijpdmfaaGreatDoor
set_option linter.unusedSimpArgs false
namespace Go.Proofs.YtoheibfijpdmfaaGreatDoor
open Go.RowKit
set_option linter.unusedVariables false
/-- Outside of these rectangles both say the same. -/
def Apt (f g : Int → Int → Option Int) (rs : List Rc) : Prop := ∀ x y : Int, (∀ r ∈ rs, ¬ (r.x ≤ x ∧ x ≤ r.x + r.a - 1 ∧ r.y ≤ y ∧ y ≤ r.y + r.b - 1)) → f x y = g x y
theorem Apt.refl (f : Int → Int → Option Int) : Apt f f [] := fun _ _ _ => rfl
theorem Apt.snoc {f g h : Int → Int → Option Int} {rs : List Rc} {r : Rc} (h1 : Apt f g rs) (h2 : ∀ x y : Int, ¬ (r.x ≤ x ∧ x ≤ r.x + r.a - 1 ∧ r.y ≤ y ∧ y ≤ r.y + r.b - 1) → g x y = h x y) : Apt f h (rs ++ [r]) := fun x y hr =>
  (h1 x y (fun s hs => hr s (by simp [hs]))).trans (h2 x y (hr r (by simp)))
theorem car_apt {W H : Int} {tl : List Nat} {f g : Int → Int → Option Int} {rs : List Rc} {c : Int} (h : Apt f g rs) {x y : Int} (hr : ∀ r ∈ rs, ¬ (r.x ≤ x ∧ x ≤ r.x + r.a - 1 ∧ r.y ≤ y ∧ y ≤ r.y + r.b - 1)) : carB W H tl f c x y = carB W H tl g c x y := by
  unfold carB
  rw [h x y hr]
theorem clr_apt {W H : Int} {tl : List Nat} {f g : Int → Int → Option Int} {rs : List Rc} {c : Int} (h : Apt f g rs) {wd k : Nat} (hk : mkR wd rs k = false) : clrK (carB W H tl f c) wd k = clrK (carB W H tl g c) wd k := by
  unfold clrK
  have hr : ∀ (i m : Nat), i < 4 → m < 4 → carB W H tl f c (((k % wd : Nat) : Int) + (i : Nat)) (((k / wd : Nat) : Int) + (m : Nat)) = carB W H tl g c (((k % wd : Nat) : Int) + (i : Nat)) (((k / wd : Nat) : Int) + (m : Nat)) := fun i m hi hm => by
    refine car_apt h (fun r hr hin => ?_)
    unfold mkR at hk
    rw [List.any_eq_false] at hk
    have := hk r hr
    simp only [inR, decide_eq_true_eq] at this
    generalize ((k % wd : Nat) : Int) = a at *
    generalize ((k / wd : Nat) : Int) = b at *
    omega
  have hq : ∀ s, s ≤ 4 → sqB (carB W H tl f c) ((k % wd : Nat) : Int) ((k / wd : Nat) : Int) s = sqB (carB W H tl g c) ((k % wd : Nat) : Int) ((k / wd : Nat) : Int) s := fun s hs => by
    rw [Bool.eq_iff_iff, sqB_iff, sqB_iff]
    constructor
    · intro h' i m hi hm
      rw [← hr i m (by omega) (by omega)]
      exact h' i m hi hm
    · intro h' i m hi hm
      rw [hr i m (by omega) (by omega)]
      exact h' i m hi hm
  unfold clr
  rw [hq 1 (by omega), hq 2 (by omega), hq 3 (by omega), hq 4 (by omega)]
theorem has_out {x y a b u v : Int} (h : ¬ (x ≤ u ∧ u ≤ x + a - 1 ∧ y ≤ v ∧ v ≤ y + b - 1)) : has x y a b u v = false := by
  rw [Bool.eq_false_iff]
  intro hh
  exact h ((has_iff _ _ _ _ _ _).1 hh).2
/-- Placed: outside of its foot nothing turns. -/
theorem apt_ins {l : List Bd} {t : Bd} (hb : busyB l t = false) (x y : Int) (h : ¬ (t.foot.x ≤ x ∧ x ≤ t.foot.x + t.foot.a - 1 ∧ t.foot.y ≤ y ∧ y ≤ t.foot.y + t.foot.b - 1)) : whoF l x y = whoF (ins l t) x y := by
  rw [← who_ins hb]
  unfold putAll
  rw [if_neg]
  intro hh
  rw [List.any_eq_true] at hh
  obtain ⟨q, hq, he⟩ := hh
  rw [mem_allC] at hq
  simp only [decide_eq_true_eq] at he
  rw [he.1, he.2] at hq
  rw [has_out (x := t.x) (y := t.y) (a := t.a) (b := t.b) h] at hq
  cases hq
theorem apt_del {l : List Bd} {k : Nat} {t : Bd} (ht : l[k]? = some t) (ha : Apart l) (x y : Int) (h : ¬ (t.foot.x ≤ x ∧ x ≤ t.foot.x + t.foot.a - 1 ∧ t.foot.y ≤ y ∧ y ≤ t.foot.y + t.foot.b - 1)) : whoF l x y = whoF (del l k) x y := by
  rw [← who_del ht ha]
  unfold delAll
  rw [if_neg]
  intro hh
  rw [List.any_eq_true] at hh
  obtain ⟨q, hq, he⟩ := hh
  rw [mem_allC] at hq
  simp only [decide_eq_true_eq] at he
  rw [he.1, he.2] at hq
  rw [has_out (x := t.x) (y := t.y) (a := t.a) (b := t.b) h] at hq
  cases hq
end Go.Proofs.YtoheibfijpdmfaaGreatDoor
set_option linter.unusedSimpArgs false
namespace Go.Proofs.YtoheibfijpdmfaaGreatDoor
open Go.RowKit Go.Shelf
set_option linter.unusedVariables false
theorem Rcs.rcb {w : World} {v : Value} {l : List Rc} (h : Rcs w v l) : RcB w v l := by
  obtain ⟨a, cap, e, h1, -, h2⟩ := rc_at h
  refine ⟨a, cap, e, h1, fun i r hr => ?_⟩
  obtain ⟨g, q0, q1, q2, q3, q4⟩ := h2 i r hr
  exact ⟨g, q0, World.block_lt_of_cell? w _ q1, q1, q2, q3, q4⟩
theorem dirty_any (q bm : Nat) (W H : Int) (tv bv ev : Value) (es : List Rc) (k : Nat) (w : World) (hd : Wd w q W H tv bv bm ev) (he : Rcs w ev es) (hk : k ≤ es.length) (hes : es.length * 32 ≤ 140737488355328) :
    Calls Tryz.prog 61 #[ptr q, .int .i64 k] w fun x w' => ∃ a cap, x = .returned (.slice a (es.drop k).length cap) ∧ RcB w' (.slice a (es.drop k).length cap) (es.drop k) ∧ Below w.heap.size w w' := by
  by_cases hlt : k < es.length
  · refine (dirty_yes q bm W H tv bv ev es k w hd he hlt hes).mono ?_
    rintro x w' ⟨v, rfl, h1, h2, -⟩
    obtain ⟨a, cap, e, -⟩ := id h1.rcb
    subst e
    exact ⟨a, cap, rfl, h1.rcb, h2⟩
  · refine (dirty_no q bm W H tv bv ev es k w hd he (.inr (by omega))).mono ?_
    rintro x w' ⟨rfl, rfl⟩
    have e : es.drop k = [] := List.drop_eq_nil_of_le (by omega)
    rw [e]
    exact ⟨none, 0, rfl, ⟨none, 0, rfl, by simp, fun i r h => by simp at h⟩, Below.refl _ _⟩
theorem Fd.set7 {w : World} {p q b n : Nat} {cl W H ep : Int} (h : Fd w p q cl W H b n ep) (e : Int) : Fd (w.setCell ⟨p, 7, none⟩ (.int .i64 e)) p q cl W H b n e := by
  have h' : w.heap[p]? = _ := h
  unfold Fd
  simp [World.setCell, Array.getElem?_modify, h']
set_option maxRecDepth 100000 in
set_option maxHeartbeats 8000000 in
theorem upd_any (p q b N e0 m : Nat) (cl : Int) (wd ht : Nat) (tl : List Nat) (f0 f : Int → Int → Option Int) (rl : List Rc) (w : World) (hwd : (1 ≤ wd ∧ wd ≤ 128) ∧ 1 ≤ ht ∧ ht ≤ 128) (hN : N = wd * ht)
    (hd : Fd w p q cl wd ht b N (e0 : Nat)) (hs : Szs w b ((List.range N).map (clrK (carB wd ht tl f0 cl) wd))) (hE : ∀ X, Turns (fun k => k = b) w X → (Wl X q wd ht tl f ∧ Grnd X ∧ Offs X) ∧ Ep X q m)
    (hD : ∀ wx, Below w.heap.size w wx → Calls Tryz.prog 61 #[ptr q, .int .i64 e0] wx fun x w' => ∃ a cap, x = .returned (.slice a rl.length cap) ∧ RcB w' (.slice a rl.length cap) rl ∧ Below wx.heap.size wx w')
    (hrl : rl.length ≤ 1000000) (hwi : ∀ r ∈ rl, wi r.x r.y r.a r.b 0 0 wd ht = true) (hA : Apt f0 f rl) :
    Calls Tryz.prog 28 #[ptr p] w fun x w' => x = .returned (.tuple #[.int .i64 (cntK (carB wd ht tl f cl) wd ((List.range N).map (clrK (carB wd ht tl f0 cl) wd)) N : Nat), .int .i64 0]) ∧ (Fd w' p q cl wd ht b N (m : Nat) ∧ Szs w' b ((List.range N).map (clrK (carB wd ht tl f cl) wd))) ∧ Turns (fun k => k = b ∨ k = p) w w' := by
  have HM := hide (fmade_is hd)
  have hpb := hd.ne hs
  have HRk : Hid (∀ wx a cap, Below w.heap.size w wx → RcB wx (.slice a rl.length cap) rl → Calls Tryz.prog 41 #[ptr p, .slice a rl.length cap] wx fun e w' => e = .returned (.int .i64 (cntK (carB wd ht tl f cl) wd ((List.range N).map (clrK (carB wd ht tl f0 cl) wd)) N : Nat)) ∧ Szs w' b ((List.range N).map (clrK (carB wd ht tl f cl) wd)) ∧ Turns (fun k => k = b) wx w') := hide fun wx a cap hx hR => by
    have hst := stL_right (W := wd) (H := ht) (car := carB wd ht tl f cl) (l := (List.range N).map (clrK (carB wd ht tl f0 cl) wd)) (rl := rl) hN hwd (fun x y h => car_has h) (by simp) (fun k hk h => by
      rw [List.getD_eq_getElem?_getD, List.getElem?_map, List.getElem?_range hk]
      exact clr_apt hA h)
    have := reckon_any p q b N cl (e0 : Nat) wd ht ((List.range N).map (clrK (carB wd ht tl f0 cl) wd)) tl f (.slice a rl.length cap) rl wx hwd hN (hd.upto hx) (hs.upto hx) (by simp) (fun u hu => by
      obtain ⟨k, -, rfl⟩ := List.mem_map.1 hu
      have := clr_le (carB wd ht tl f0 cl) ((k % wd : Nat) : Int) ((k / wd : Nat) : Int)
      unfold clrK
      omega) (fun Y hY => (hE Y ((Turns.of_below hx).trans (hY.mono (fun k _ h => .inl h)))).1) hR hrl hwi
    rwa [hst] at this
  have hd' := hd
  have c0 : w.cell? ⟨p, 0, none⟩ = some (ptr q) := hd.c 0
  have c7 : w.cell? ⟨p, 7, none⟩ = some (.int .i64 (e0 : Nat)) := hd.c 7
  have zp := hd.lt
  have HS : Hid (∀ wx, Turns (fun k => k = b) w wx → wx.cell? ⟨p, 0, none⟩ = some (ptr q) ∧ wx.cell? ⟨p, 7, none⟩ = some (.int .i64 (e0 : Nat))) := hide fun wx hx => ⟨(hd.kept hx hpb).c 0, (hd.kept hx hpb).c 7⟩
  have HD := hide hD
  have HE := hide hE
  have HFd := hide hd
  obtain ⟨cn, hcn⟩ : ∃ cn, cntK (carB wd ht tl f cl) wd ((List.range N).map (clrK (carB wd ht tl f0 cl) wd)) N = cn := ⟨_, rfl⟩
  rw [hcn] at HRk ⊢
  clear hd hs hE hD hA hcn hd' c0 c7
  go_enter Tryz.func28, Tryz.ntmps28
  go_wp2_with (go_at_call 60; refine HM.out.mono ?_; rintro e w' ⟨rfl, hw'⟩; have hw2 := hw'.symm; subst hw2)
  refine Code.wp_mono (Q := Only (fun a' w' => ∃ (u8 u9 u10 u11 u12 u13 u14 u15 u16 u17 u18 : Value), (Szs w' b ((List.range N).map (clrK (carB wd ht tl f cl) wd)) ∧ Turns (fun k => k = b) w w') ∧ a' = { tmps := #[ptr p, undef, .int .i64 0, .int .i64 0, .int .i64 (cn : Nat), ptr p, .bool true, .bool false, u8, u9, u10, u11, u12, u13, u14, u15, u16, u17, u18, undef, undef, undef, undef, undef, undef, undef, undef, undef], defers := [] })) ?rest ?_
  case rest =>
    rintro (_ | _ | _ | _ | _) a' w3 hO
    all_goals first | exact hO.elim | skip
    obtain ⟨u8, u9, u10, u11, u12, u13, u14, u15, u16, u17, u18, ⟨s3, t3⟩, rfl⟩ := hO
    have d3 := HFd.out.kept t3 hpb
    have k0 : w3.cell? ⟨p, 0, none⟩ = some (ptr q) := d3.c 0
    have k7 : w3.cell? ⟨p, 7, none⟩ = some (.int .i64 (e0 : Nat)) := d3.c 7
    have f7 := d3.f 7
    have HEp := hide (epoch_is (HE.out w3 t3).2)
    have HS3 := hide s3
    have HT3 := hide t3
    have HD3 := hide d3
    clear HM HRk HS HD HE HFd s3 t3 d3
    go_wp2_with (go_at_call 40; refine HEp.out.mono ?_; rintro e w' ⟨rfl, rfl⟩)
    go_ret2
    refine ⟨rfl, ⟨HD3.out.set7 _, (Below.heap_setCell _ _ _ _ (by simpa using hpb.symm)).trans HS3.out⟩, ?_⟩
    exact (HT3.out.mono (fun k _ h => .inl h)).trans (Turns.set _ (p := ⟨p, 7, none⟩) (.inl (.inr rfl)) _)
  refine wp_region_held_drew (S := fun wx => wx.cell? ⟨p, 0, none⟩ = some (ptr q) ∧ wx.cell? ⟨p, 7, none⟩ = some (.int .i64 (e0 : Nat))) (by kernel_rfl) (HS.out _ (Turns.refl _ _).drew) (fun hHeld => ?_)
  refine wpAnyH_take (i := 0) (v := ?_) rfl (by kernel_rfl) (by kernel_rfl) (by kernel_rfl) (fun _ _ _ h => h.elim) (Or.inl ⟨by rfl, ?_⟩) (by assumption) ?_
  rotate_left
  · intro wx hSw
    try dsimp only at hSw
    go_simp
    try with_reducible rfl
  try simp only [Act.put, List.getElem_toArray, List.getElem_cons_zero, List.getElem_cons_succ, List.setIfInBounds_toArray, List.set_cons_zero, List.set_cons_succ]
  refine wpAnyH_take (i := 1) (v := ?_) rfl (by kernel_rfl) (by kernel_rfl) (by kernel_rfl) (fun _ _ _ h => h.elim) (Or.inl ⟨by rfl, ?_⟩) (by assumption) ?_
  rotate_left
  · intro wx hSw
    try dsimp only at hSw
    go_simp
    try with_reducible rfl
  try simp only [Act.put, List.getElem_toArray, List.getElem_cons_zero, List.getElem_cons_succ, List.setIfInBounds_toArray, List.set_cons_zero, List.set_cons_succ]
  refine wpAnyH_take (i := 2) (v := ?_) rfl (by kernel_rfl) (by kernel_rfl) (by kernel_rfl) (fun _ _ _ h => h.elim) (Or.inl ⟨by rfl, ?_⟩) (by assumption) ?_
  rotate_left
  · intro wx hSw
    try dsimp only at hSw
    go_simp
    try with_reducible rfl
  try simp only [Act.put, List.getElem_toArray, List.getElem_cons_zero, List.getElem_cons_succ, List.setIfInBounds_toArray, List.set_cons_zero, List.set_cons_succ]
  refine wpAnyH_take (i := 3) (v := ?_) rfl (by kernel_rfl) (by kernel_rfl) (by kernel_rfl) (fun _ _ _ h => h.elim) (Or.inl ⟨by rfl, ?_⟩) (by assumption) ?_
  rotate_left
  · intro wx hSw
    try dsimp only at hSw
    go_simp
    try with_reducible rfl
  try simp only [Act.put, List.getElem_toArray, List.getElem_cons_zero, List.getElem_cons_succ, List.setIfInBounds_toArray, List.set_cons_zero, List.set_cons_succ]
  refine wpAnyH_take (i := 4) (v := ?_) rfl (by kernel_rfl) (by kernel_rfl) (by kernel_rfl) (fun _ _ _ h => h.elim) (Or.inl ⟨by rfl, ?_⟩) (by assumption) ?_
  rotate_left
  · intro wx hSw
    try dsimp only at hSw
    go_simp
    try with_reducible rfl
  try simp only [Act.put, List.getElem_toArray, List.getElem_cons_zero, List.getElem_cons_succ, List.setIfInBounds_toArray, List.set_cons_zero, List.set_cons_succ]
  refine wpAnyH_take (i := 5) (v := ?_) rfl (by kernel_rfl) (by kernel_rfl) (by kernel_rfl) (fun _ _ _ h => h.elim) (Or.inl ⟨by rfl, ?_⟩) (by assumption) ?_
  rotate_left
  · intro wx hSw
    try dsimp only at hSw
    go_simp
    try with_reducible rfl
  try simp only [Act.put, List.getElem_toArray, List.getElem_cons_zero, List.getElem_cons_succ, List.setIfInBounds_toArray, List.set_cons_zero, List.set_cons_succ]
  refine wpAnyH_take (i := 6) (v := ?_) rfl (by kernel_rfl) (by kernel_rfl) (by kernel_rfl) (fun _ _ _ h => h.elim) (Or.inl ⟨by rfl, ?_⟩) (by assumption) ?_
  rotate_left
  · intro wx hSw
    try dsimp only at hSw
    go_simp
    try with_reducible rfl
  try simp only [Act.put, List.getElem_toArray, List.getElem_cons_zero, List.getElem_cons_succ, List.setIfInBounds_toArray, List.set_cons_zero, List.set_cons_succ]
  refine wpAnyH_take (i := 7) (v := ?_) rfl (by kernel_rfl) (by kernel_rfl) (by kernel_rfl) (fun _ _ _ h => h.elim) (Or.inl ⟨by rfl, ?_⟩) (by assumption) ?_
  rotate_left
  · intro wx hSw
    try dsimp only at hSw
    go_simp
    try with_reducible rfl
  try simp only [Act.put, List.getElem_toArray, List.getElem_cons_zero, List.getElem_cons_succ, List.setIfInBounds_toArray, List.set_cons_zero, List.set_cons_succ]
  refine wpAnyH_take (i := 8) (v := ?_) rfl (by kernel_rfl) (by kernel_rfl) (by kernel_rfl) (fun _ _ _ h => h.elim) (Or.inl ⟨by rfl, ?_⟩) (by assumption) ?_
  rotate_left
  · intro wx hSw
    try dsimp only at hSw
    go_simp
    try with_reducible rfl
  try simp only [Act.put, List.getElem_toArray, List.getElem_cons_zero, List.getElem_cons_succ, List.setIfInBounds_toArray, List.set_cons_zero, List.set_cons_succ]
  refine wpAnyH_ready (rs := [9]) (by kernel_rfl) (by simp) ?_
  refine AllReadyH.cons rfl (fun K hK => ?_) ?_
  · go_simp
    refine (HD.out _ (Below.refl _ _).drew).mono ?_
    rintro e z1 ⟨ra, rc, rfl, hR1, s3⟩
    have hX1 : Below w.heap.size w z1 := below_undrew s3
    have HR1 := hide hR1
    clear hR1 s3
    try go_wp2_with fail
    refine hK.out _ _ ?_ (fun hHeld => ?_)
    · first | exact HS.out _ (Turns.refl _ _).drew | exact HS.out _ (Turns.of_below hX1) | exact HS.out _ hT2
    clear hK K
    try simp only [Act.put, List.getElem_toArray, List.getElem_cons_zero, List.getElem_cons_succ, List.setIfInBounds_toArray, List.set_cons_zero, List.set_cons_succ]
    refine wpAnyH_ready (rs := [10]) (by kernel_rfl) (by simp) ?_
    refine AllReadyH.cons rfl (fun K hK => ?_) ?_
    · go_simp
      refine (HRk.out _ _ _ hX1 HR1.out).mono ?_
      rintro e z2 ⟨rfl, s2, t2⟩
      have hT2 : Turns (fun k => k = b) w z2 := (Turns.of_below hX1).trans (t2.mono (fun k _ h => .inl h))
      have HS2 := hide s2
      clear s2 t2
      try go_wp2_with fail
      refine hK.out _ _ ?_ (fun hHeld => ?_)
      · first | exact HS.out _ (Turns.refl _ _).drew | exact HS.out _ (Turns.of_below hX1) | exact HS.out _ hT2
      clear hK K
      try simp only [Act.put, List.getElem_toArray, List.getElem_cons_zero, List.getElem_cons_succ, List.setIfInBounds_toArray, List.set_cons_zero, List.set_cons_succ]
      refine wpAnyH_take (i := 11) (v := ?_) rfl (by kernel_rfl) (by kernel_rfl) (by kernel_rfl) (fun _ _ _ h => h.elim) (Or.inl ⟨by rfl, ?_⟩) (by assumption) ?_
      rotate_left
      · intro wx hSw
        try dsimp only at hSw
        go_simp
        try with_reducible rfl
      try simp only [Act.put, List.getElem_toArray, List.getElem_cons_zero, List.getElem_cons_succ, List.setIfInBounds_toArray, List.set_cons_zero, List.set_cons_succ]
      refine wpAnyH_done (by kernel_rfl) ?_ _
      exact ⟨_, _, _, _, _, _, _, _, _, _, _, ⟨HS2.out, hT2⟩, rfl⟩
    exact AllReadyH.nil
  exact AllReadyH.nil
end Go.Proofs.YtoheibfijpdmfaaGreatDoor
set_option linter.unusedSimpArgs false
namespace Go.Proofs.YtoheibfijpdmfaaGreatDoor
open Go.RowKit
set_option linter.unusedVariables false
abbrev edV (z : Bool) (t : Bd) : Value := .agg #[.bool z, .int .i64 t.id, .int .i64 t.x, .int .i64 t.y, .int .i64 t.a, .int .i64 t.b]
/-- The box of an edit. -/
def EB (w : World) (h : Nat) (z : Bool) (t : Bd) : Prop := w.heap[h]? = some (.cells #[.bool z, .int .i64 t.id, .int .i64 t.x, .int .i64 t.y, .int .i64 t.a, .int .i64 t.b] 52 (0, 0))
theorem EB.kept {w w' : World} {h : Nat} {z : Bool} {t : Bd} (q : EB w h z t) (hb : Below w.heap.size w w') : EB w' h z t := (hb.block h (Array.getElem?_eq_some_iff.1 q).1).trans q
theorem EB.c {w : World} {h : Nat} {z : Bool} {t : Bd} (q : EB w h z t) : w.cell? ⟨h, 0, none⟩ = some (.bool z) ∧ w.cell? ⟨h, 1, none⟩ = some (.int .i64 t.id) ∧ w.cell? ⟨h, 2, none⟩ = some (.int .i64 t.x) ∧ w.cell? ⟨h, 3, none⟩ = some (.int .i64 t.y) ∧ w.cell? ⟨h, 4, none⟩ = some (.int .i64 t.a) ∧ w.cell? ⟨h, 5, none⟩ = some (.int .i64 t.b) :=
  ⟨cell_of_row w h 0 _ _ _ q, cell_of_row w h 1 _ _ _ q, cell_of_row w h 2 _ _ _ q, cell_of_row w h 3 _ _ _ q, cell_of_row w h 4 _ _ _ q, cell_of_row w h 5 _ _ _ q⟩
set_option maxRecDepth 100000 in
set_option maxHeartbeats 4000000 in
theorem does_raze (w : World) (q r : Nat) (t : Bd) (R : World → Prop)
    (HR : ∀ X, Below w.heap.size w X → EB X w.heap.size true t → Calls Tryz.prog 23 #[ptr q, .int .i64 t.id] X fun e w1 => (∃ a b c d k, e = .returned (.tuple #[rct a b c d, .int .i64 k])) ∧ EB w1 w.heap.size true t ∧
      Calls Tryz.prog 24 #[ptr r, .int .i64 t.id] w1 fun e w2 => (∃ a b c d k, e = .returned (.tuple #[rct a b c d, .int .i64 k])) ∧ R w2) :
    Calls Tryz.prog 9 #[ptr q, ptr r, edV true t] w fun e w' => (∃ v, e = .returned v) ∧ R w' := by
  have B0 := box1 w (.cells #[.bool true, .int .i64 t.id, .int .i64 t.x, .int .i64 t.y, .int .i64 t.a, .int .i64 t.b] 52)
  have P0 : EB (w.alloc (.cells #[.bool true, .int .i64 t.id, .int .i64 t.x, .int .i64 t.y, .int .i64 t.a, .int .i64 t.b] 52)) w.heap.size true t := heap_alloc_new w _
  obtain ⟨X, hX⟩ : ∃ X, w.alloc (.cells #[.bool true, .int .i64 t.id, .int .i64 t.x, .int .i64 t.y, .int .i64 t.a, .int .i64 t.b] 52) = X := ⟨_, rfl⟩
  rw [hX] at B0 P0
  have H1 := hide (HR X B0 P0)
  clear HR
  obtain ⟨c0, c1, c2, c3, c4, c5⟩ := P0.c
  go_enter Tryz.func9, Tryz.ntmps9
  go_wp2_with fail
  refine H1.out.mono ?_
  rintro e w1 ⟨⟨a, b, c, d, k, rfl⟩, P1, hk1⟩
  have H2 := hide hk1
  clear hk1 c0 c1 c2 c3 c4 c5 hX
  obtain ⟨c0, c1, c2, c3, c4, c5⟩ := P1.c
  go_wp2_with fail
  refine H2.out.mono ?_
  rintro e w2 ⟨⟨a2, b2, c2', d2, k2, rfl⟩, hR⟩
  have HR := hide hR
  clear hR c0 c1 c2 c3 c4 c5
  go_wp2_with fail
  first
    | (go_end0; exact ⟨⟨_, rfl⟩, HR.out⟩)
    | (refine bodyPost_ret (results_none rfl _ _ _) rfl ?_; exact ⟨⟨_, rfl⟩, HR.out⟩)
set_option maxRecDepth 100000 in
set_option maxHeartbeats 4000000 in
theorem does_place (w : World) (q r : Nat) (t : Bd) (R : World → Prop)
    (HR : ∀ X, Below w.heap.size w X → EB X w.heap.size false t → Calls Tryz.prog 25 #[ptr q, t.v] X fun e w1 => (∃ k, e = .returned (.int .i64 k)) ∧ EB w1 w.heap.size false t ∧
      Calls Tryz.prog 26 #[ptr r, t.v] w1 fun e w2 => (∃ k, e = .returned (.int .i64 k)) ∧ R w2) :
    Calls Tryz.prog 9 #[ptr q, ptr r, edV false t] w fun e w' => (∃ v, e = .returned v) ∧ R w' := by
  have B0 := box1 w (.cells #[.bool false, .int .i64 t.id, .int .i64 t.x, .int .i64 t.y, .int .i64 t.a, .int .i64 t.b] 52)
  have P0 : EB (w.alloc (.cells #[.bool false, .int .i64 t.id, .int .i64 t.x, .int .i64 t.y, .int .i64 t.a, .int .i64 t.b] 52)) w.heap.size false t := heap_alloc_new w _
  obtain ⟨X, hX⟩ : ∃ X, w.alloc (.cells #[.bool false, .int .i64 t.id, .int .i64 t.x, .int .i64 t.y, .int .i64 t.a, .int .i64 t.b] 52) = X := ⟨_, rfl⟩
  rw [hX] at B0 P0
  have H1 := hide (HR X B0 P0)
  clear HR
  obtain ⟨c0, c1, c2, c3, c4, c5⟩ := P0.c
  go_enter Tryz.func9, Tryz.ntmps9
  go_wp2_with fail
  refine H1.out.mono ?_
  rintro e w1 ⟨⟨k, rfl⟩, P1, hk1⟩
  have H2 := hide hk1
  clear hk1 c0 c1 c2 c3 c4 c5 hX
  obtain ⟨c0, c1, c2, c3, c4, c5⟩ := P1.c
  go_wp2_with fail
  refine H2.out.mono ?_
  rintro e w2 ⟨⟨k2, rfl⟩, hR⟩
  have HR := hide hR
  clear hR c0 c1 c2 c3 c4 c5
  go_wp2_with fail
  first
    | (go_end0; exact ⟨⟨_, rfl⟩, HR.out⟩)
    | (refine bodyPost_ret (results_none rfl _ _ _) rfl ?_; exact ⟨⟨_, rfl⟩, HR.out⟩)
end Go.Proofs.YtoheibfijpdmfaaGreatDoor
set_option linter.unusedSimpArgs false
namespace Go.Proofs.YtoheibfijpdmfaaGreatDoor
open Go.RowKit Go.Shelf
set_option linter.unusedVariables false
attribute [local go_sem] Oper.semAt_some
/-- New in both, one behind the other. -/
theorem made_bo {N : Nat} {w1 w2 w3 : World} {W H : Int} {tl : List Nat} {L : List Bd} {p r : Nat} (h1 : Made w1 W H tl L p w2) (h2 : RefMade w2 W H tl L r w3) (hN : N ≤ w1.heap.size) (hw : whoL L = whoF L) :
    (∃ bm tv bv rt rb, BoAt N w3 p r W H tl L [] bm (64 * L.length) tv bv (.slice none 0 0) rt rb (.slice none 0 0)) ∧ Below w1.heap.size w1 w3 := by
  obtain ⟨bm, tv, bv, a1, a2, a3, a4, a5, a6, a7, a8, a9⟩ := h1
  obtain ⟨rt, rb, b1, b2, b3, b4, b5, b6, b7⟩ := h2
  rw [hw] at a4
  have T : Turns NoB w2 w3 := Turns.of_below b4
  have z := a5.size
  refine ⟨⟨bm, tv, bv, rt, rb, a1.kept T id, a2.kept T (fun _ _ => id), a3.kept T (fun _ _ => id), a4.kept T id, World.ownsRow_nil _ _ _ _, b1, b2, b3, World.ownsRow_nil _ _ _ _, fun k e q => ?_, fun k e => ?_, by omega, by omega, by omega, fun k e => ?_, fun k e => ?_, fun k e => ?_, fun k e => ?_⟩, bt a5 b4⟩
  · have := (a3.lt k e).2
    have := b7 k q
    omega
  · simp [Value.ownBlock] at e
  · have := a9 k e; omega
  · simp [Value.ownBlock] at e
  · have := b7 k e; omega
  · simp [Value.ownBlock] at e
theorem newp_made {W H : Int} {tv bv : Value} {tl : List Nat} {L : List Bd} {w : World} (hv : TlR w tv tl) (hb : ∀ x ∈ tl, x < 256) (hl : BdR w bv L) (hc : chkC W H tl L = 0) :
    Calls Tryz.prog 12 #[mp W H tv bv] w fun e w' => ∃ p, e = .returned (.tuple #[ptr p, .int .i64 0]) ∧ Made w W H tl L p w' := by
  obtain ⟨hm, hlen, hok, hw⟩ := chkC_zero hc
  refine (new_good W H tv bv tl L w hv hb hl hm).mono ?_
  rintro e w' (⟨-, p, he, hM⟩ | ⟨h, -⟩)
  · exact ⟨p, he, hM⟩
  · rw [hok] at h; cases h
set_option maxHeartbeats 1000000 in
theorem both_bo (W H : Int) (tv bv : Value) (tl : List Nat) (L : List Bd) (w : World) (hv : TlR w tv tl) (hb : ∀ x ∈ tl, x < 256) (hl : BdR w bv L) (hc : chkC W H tl L = 0) :
    Calls Tryz.prog 4 #[mp W H tv bv] w fun e w' => ∃ p r, e = .returned (.tuple #[ptr p, ptr r, .bool true]) ∧ (∃ bm t1 b1 rt rb, BoAt w.heap.size w' p r W H tl L [] bm (64 * L.length) t1 b1 (.slice none 0 0) rt rb (.slice none 0 0)) ∧ Below w.heap.size w w' := by
  have MX := MB.new w W H tv bv
  have B0 : Below w.heap.size w (w.alloc (.cells #[.int .i64 W, .int .i64 H, tv, bv] 25)) := box1 _ _
  obtain ⟨X, hX⟩ : ∃ X, w.alloc (.cells #[.int .i64 W, .int .i64 H, tv, bv] 25) = X := ⟨_, rfl⟩
  rw [hX] at MX B0
  have hw := hide (chkC_zero hc).2.2.2
  have HN : Hid (∀ wx, Below w.heap.size w wx → Calls Tryz.prog 12 #[mp W H tv bv] wx fun e w' => ∃ p, e = .returned (.tuple #[ptr p, .int .i64 0]) ∧ Made wx W H tl L p w') := hide fun wx hx => newp_made (hv.kept hx) hb (hl.kept hx) hc
  have HR : Hid (∀ wx, Below w.heap.size w wx → Calls Tryz.prog 13 #[mp W H tv bv] wx fun e w' => ∃ r, e = .returned (.tuple #[ptr r, .int .i64 0]) ∧ RefMade wx W H tl L r w') := hide fun wx hx => refnew_good W H tv bv tl L wx (hv.kept hx) hb (hl.kept hx) hc
  have hvf := hv
  have hlf := hl
  obtain ⟨a1, cap1, rfl, -⟩ := hvf
  obtain ⟨a2, cap2, rfl, -⟩ := hlf
  clear hv hl hc hb
  obtain ⟨m0, m1, m2, m3⟩ := MX.c
  go_enter Tryz.func4, Tryz.ntmps4
  go_wp2_with fail
  refine (HN.out _ B0).mono ?_
  rintro e w1 ⟨p, rfl, hM⟩
  have HM := hide hM
  have hb1 : Below X.heap.size X w1 := by obtain ⟨_, _, _, -, -, -, -, h, -⟩ := hM; exact h
  have HB1 := hide hb1
  have M1 := MX.kept hb1
  have hX2 := hide hX
  clear hX m0 m1 m2 m3 MX hM hb1
  obtain ⟨m0, m1, m2, m3⟩ := M1.c
  go_wp2_with fail
  refine (HR.out _ (bt B0 HB1.out)).mono ?_
  rintro e w2 ⟨r, rfl, hR⟩
  have HRR := hide hR
  clear m0 m1 m2 m3 M1 hR
  go_wp2_with fail
  refine bodyPost_ret (v := .tuple #[ptr p, ptr r, .bool true]) (by simp [results, Tryz.results4, go_sem]) rfl ?_
  have := made_bo (N := w.heap.size) HM.out HRR.out (by have := B0.size; omega) hw.out
  exact ⟨p, r, rfl, this.1, bt B0 this.2⟩
end Go.Proofs.YtoheibfijpdmfaaGreatDoor
