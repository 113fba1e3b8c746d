/-
  The program's Dirty; phalanxref04.Rects.
-/
import Derived.Test.YtobjadfchpgjeaaRefDirty
import Derived.Test.YtobjadfchpgjeaaClones
set_option linter.unusedSimpArgs false
namespace Go.Proofs.Ytobjadfchpgjeaa
open Go.RowKit
set_option linter.unusedVariables false
set_option maxHeartbeats 1000000 in
/-- slices.Clone of rectangles that begin anywhere. -/
theorem clone48at (l : List Rc) (g o cap : Nat) (w : World) (hb : g < w.heap.size) (hv : ∀ j u, (l.flatMap Rc.cs)[j]? = some u → w.cell? ((⟨g, o, none⟩ : Addr).add j) = some u) (hc : l.length ≤ cap) (hm : cap ≤ maxLen) (hl : l.length * 32 ≤ 140737488355328) :
    Calls Try.prog 41 #[.slice (some ⟨g, o, none⟩) l.length cap] w (Cloned w 43 4 l.length (l.flatMap Rc.cs)) := by
  obtain ⟨fi, hf, hz, h1, h2⟩ := info_parts info43
  have q1 := eql48
  have q2 := eql48'
  have hcells : ∀ j u, (l.flatMap Rc.cs)[j]? = some u → (w.alloc (.cells #[] 43)).cell? ((⟨g, o, none⟩ : Addr).add j) = some u := fun j u hu => ((box1 w (.cells #[] 43)).cell (p := (⟨g, o, none⟩ : Addr).add j) (by rw [Addr.add_lit]; exact hb)).trans (hv j u hu)
  have hm1 : 0 + l.length ≤ maxLen := by unfold maxLen; omega
  have hm2 : (0 + l.length) * 32 ≤ 140737488355328 := by omega
  have hbase : (w.alloc (.cells #[] 43)).ownsRow 0 43 4 (.slice (some ⟨w.heap.size, 0, none⟩) 0 0) 0 [] := World.ownsRow_made w #[] 0 (Nat.zero_le _) (by decide) rfl
  have HB := hide hbase
  have HC := hide hcells
  obtain ⟨n, hnn⟩ : ∃ n, n = l.length := ⟨_, rfl⟩
  have hln : (l.flatMap Rc.cs).length = l.length * 4 := rcs_len l
  clear hv hbase hcells hb
  go_enter Try.func41, Try.ntmps41
  go_wp2_with (at_builtin; refine wpList_append_own_at _ rfl _ _ 48 rfl 0 43 fi z43 4 32 Try.underlying48 hf hz h1 h2 rfl (by decide) (.slice (some ⟨w.heap.size, 0, none⟩) 0 0) 0 [] rfl HB.out ⟨g, o, none⟩ l.length cap (l.flatMap Rc.cs) rfl hln HC.out one_rcs hm1 hm2 (Nat.zero_le _) ?_; intro v' w1 hown' hgrow hnil hloc; have HE := hide (cloned_end hown' hgrow hloc); clear hown' hgrow hnil hloc)
  go_ret
  exact HE.out
set_option maxHeartbeats 1000000 in
theorem dirty_no (p bm : Nat) (W H : Int) (tv bv ev : Value) (es : List Rc) (e : Int) (w : World) (hd : Wd w p W H tv bv bm ev) (he : Rcs w ev es) (h : e < 0 ∨ (es.length : Int) ≤ e) :
    Calls Try.prog 18 #[ptr p, .int .i64 e] w fun x w' => x = .returned (.slice none 0 0) ∧ w' = w := by
  obtain ⟨a, cap, rfl, -, -⟩ := he.form
  have c7 : w.cell? ⟨p, 7, none⟩ = some (.slice a es.length cap) := hd.c 7
  have HM := hide (made_is hd)
  clear hd he
  by_cases h0 : e < 0
  · go_enter Try.func18, Try.ntmps18
    go_wp2_with (go_at_call 36; refine HM.out.mono ?_; rintro x w' ⟨rfl, rfl⟩)
    go_ret
    exact ⟨rfl, rfl⟩
  · have h1 : (es.length : Int) ≤ e := h.resolve_left h0
    go_enter Try.func18, Try.ntmps18
    go_wp2_with (go_at_call 36; refine HM.out.mono ?_; rintro x w' ⟨rfl, rfl⟩)
    go_ret
    exact ⟨rfl, rfl⟩
set_option maxRecDepth 100000 in
set_option maxHeartbeats 2000000 in
theorem dirty_yes (p bm : Nat) (W H : Int) (tv bv ev : Value) (es : List Rc) (k : Nat) (w : World) (hd : Wd w p W H tv bv bm ev) (he : Rcs w ev es) (hk : k < es.length) (hes : es.length * 32 ≤ 140737488355328) :
    Calls Try.prog 18 #[ptr p, .int .i64 k] w fun x w' => ∃ v, x = .returned v ∧ Rcs w' v (es.drop k) ∧ Below w.heap.size w w' ∧ ∀ b, v.ownBlock = some b → w.heap.size ≤ b := by
  have c7 : w.cell? ⟨p, 7, none⟩ = some ev := hd.c 7
  have HM := hide (made_is hd)
  rcases he.2 with ⟨rfl, h0⟩ | ⟨g, cap, cur, rfl, -, hg, hn, hm, -⟩
  · omega
  · have hki : (0 : Int) ≤ (k : Int) ∧ (k : Int) < (es.length : Nat) ∧ (k : Int) ≤ (cap : Nat) := by omega
    have hcm : (cap : Int) ≤ 9223372036854775807 := by unfold maxLen at hm; omega
    have hc : ¬ cap - k = 0 := by omega
    have hl : (es.drop k).length = es.length - k := List.length_drop
    have HK := hide (clone48at (es.drop k) g (k * 4) (cap - k) w (Array.getElem?_eq_some_iff.1 hg).1 (rc_cells he k) (by omega) (by unfold maxLen; omega) (by omega))
    rw [hl] at HK
    have HL := hide hl
    clear hd he hg hl
    go_enter Try.func18, Try.ntmps18
    go_wp2_with (first | (go_at_call 36; refine HM.out.mono ?_; rintro x w' ⟨rfl, rfl⟩) | (go_at_call 41; refine HK.out.mono ?_; rintro x w1 ⟨a1, cap1, rfl, hr, hb1, hf1⟩; have HR := hide hr; have HB := hide hb1; have HF := hide hf1; clear hr hb1 hf1))
    go_ret
    exact ⟨_, rfl, by unfold Rcs; rw [HL.out]; exact HR.out, HB.out, HF.out⟩
/-- Rectangle number i of those that lie at a. -/
theorem rc_at {w : World} {v : Value} {l : List Rc} (h : Rcs w v l) : ∃ a cap, v = .slice a l.length cap ∧ l.length ≤ cap ∧ cap ≤ maxLen ∧ ∀ i t, l[i]? = some t → ∃ g, a = some ⟨g, 0, none⟩ ∧ w.cell? ⟨g, i * 4, none⟩ = some (.int .i64 t.x) ∧ w.cell? ⟨g, i * 4 + 1, none⟩ = some (.int .i64 t.y) ∧ w.cell? ⟨g, i * 4 + 2, none⟩ = some (.int .i64 t.a) ∧ w.cell? ⟨g, i * 4 + 3, none⟩ = some (.int .i64 t.b) := by
  rcases h.2 with ⟨e, h0⟩ | ⟨g, cap, cur, e, hb, hg, hn, hm, hs, ht⟩
  · exact ⟨none, 0, by rw [h0]; exact e, by omega, by decide, fun i t hi => by
      have := List.eq_nil_of_length_eq_zero h0; subst this; simp at hi⟩
  · refine ⟨_, cap, e, hn, hm, fun i t hi => ⟨g, rfl, ?_⟩⟩
    subst e
    have hlt := (List.getElem?_eq_some_iff.1 hi).1
    have hd : l.drop i = t :: l.drop (i + 1) := by
      rw [List.drop_eq_getElem_cons hlt, (List.getElem?_eq_some_iff.1 hi).2]
    have hc : ∀ j u, t.cs[j]? = some u → w.cell? ⟨g, i * 4 + j, none⟩ = some u := fun j u hu => by
      have := rc_cells h i j u (by
        rw [hd, List.flatMap_cons, List.getElem?_append_left ((List.getElem?_eq_some_iff.1 hu).1)]
        exact hu)
      simpa [Addr.add_lit] using this
    exact ⟨hc 0 _ rfl, hc 1 _ rfl, hc 2 _ rfl, hc 3 _ rfl⟩
set_option maxHeartbeats 2000000 in
theorem rects_any (l : List Rc) (v u : Value) (w : World) (hv : Rcs w v l) (hu : Rcs w u l) :
    Calls Try.prog 17 #[v, u] w fun e w' => e = .returned (.bool true) ∧ Below w.heap.size w w' := by
  have H1 : ∀ n : Lat w, Rcs n.w v l := fun n => hv.kept (Turns.of_below (S := NoB) n.h) (fun _ _ => id)
  have H2 : ∀ n : Lat w, Rcs n.w u l := fun n => hu.kept (Turns.of_below (S := NoB) n.h) (fun _ _ => id)
  obtain ⟨a, cap, rfl, h1, h2, h3⟩ := rc_at hv
  obtain ⟨b, cbp, rfl, k1, k2, k3⟩ := rc_at hu
  have kl : (0 : Int) ≤ (l.length : Nat) ∧ ((l.length : Nat) : Int) ≤ 9223372036854775807 := by unfold maxLen at *; omega
  have H3 := hide h3
  have K3 := hide k3
  have hh : ∀ n : Lat w, ∀ g < w.heap.size, ∀ o, n.w.cell? ⟨g, o, none⟩ = w.cell? ⟨g, o, none⟩ := fun n g hg o => n.h.cell (p := ⟨g, o, none⟩) hg
  have HH := hide hh
  have lt1 : ∀ g, a = some ⟨g, 0, none⟩ → g < w.heap.size := fun g e => (hv.lt g (by rw [e]; rfl)).2
  have lt2 : ∀ g, b = some ⟨g, 0, none⟩ → g < w.heap.size := fun g e => (hu.lt g (by rw [e]; rfl)).2
  clear hv hu h3 k3 H1 H2 hh
  have hne := lat_some w
  go_enter Try.func17, Try.ntmps17
  go_wp2_with fail
  go_loopw [5] (fun s5 wr => ∃ k : Nat, k ≤ l.length ∧ s5 = .int .i64 k ∧ ∃ m : Lat w, wr = m.w) (fun s5 _ => l.length - (intOf s5).toNat)
  case atStart => exact ⟨0, Nat.zero_le _, rfl, ⟨w, Below.refl _ _⟩, rfl⟩
  case round =>
    obtain ⟨k, hk, rfl, m, rfl⟩ := hrel
    by_cases hlt : k < l.length
    · obtain ⟨t, ht⟩ : ∃ t, l[k]? = some t := ⟨_, List.getElem?_eq_getElem hlt⟩
      obtain ⟨g, rfl, c0, c1, c2, c3⟩ := H3.out k t ht
      obtain ⟨g', rfl, d0, d1, d2, d3⟩ := K3.out k t ht
      have g1 := lt1 g rfl
      have g2 := lt2 g' rfl
      have x0 : ∀ n : Lat m.w, n.w.cell? ⟨g, k * 4, none⟩ = some (.int .i64 t.x) := fun n => (HH.out ⟨n.w, bt m.h n.h⟩ g g1 _).trans c0
      have x1 : ∀ n : Lat m.w, n.w.cell? ⟨g, k * 4 + 1, none⟩ = some (.int .i64 t.y) := fun n => (HH.out ⟨n.w, bt m.h n.h⟩ g g1 _).trans c1
      have x2 : ∀ n : Lat m.w, n.w.cell? ⟨g, k * 4 + 2, none⟩ = some (.int .i64 t.a) := fun n => (HH.out ⟨n.w, bt m.h n.h⟩ g g1 _).trans c2
      have x3 : ∀ n : Lat m.w, n.w.cell? ⟨g, k * 4 + 3, none⟩ = some (.int .i64 t.b) := fun n => (HH.out ⟨n.w, bt m.h n.h⟩ g g1 _).trans c3
      have y0 : ∀ n : Lat m.w, n.w.cell? ⟨g', k * 4, none⟩ = some (.int .i64 t.x) := fun n => (HH.out ⟨n.w, bt m.h n.h⟩ g' g2 _).trans d0
      have y1 : ∀ n : Lat m.w, n.w.cell? ⟨g', k * 4 + 1, none⟩ = some (.int .i64 t.y) := fun n => (HH.out ⟨n.w, bt m.h n.h⟩ g' g2 _).trans d1
      have y2 : ∀ n : Lat m.w, n.w.cell? ⟨g', k * 4 + 2, none⟩ = some (.int .i64 t.a) := fun n => (HH.out ⟨n.w, bt m.h n.h⟩ g' g2 _).trans d2
      have y3 : ∀ n : Lat m.w, n.w.cell? ⟨g', k * 4 + 3, none⟩ = some (.int .i64 t.b) := fun n => (HH.out ⟨n.w, bt m.h n.h⟩ g' g2 _).trans d3
      have hnm := lat_some m.w
      have hki : (k : Int) < (l.length : Nat) := by omega
      clear c0 c1 c2 c3 d0 d1 d2 d3
      go_wp2_with fail
      refine wp_region_lat (by kernel_rfl) (by kernel_rfl) ?_
      repeat (go_big_quiet_step (fail))
      refine wpQuiet_nil ?_
      rintro _ ⟨n, rfl⟩
      go_wp2_with fail
      go_roundw
      case rel => exact ⟨k + 1, by omega, by go_num, ⟨n.w, bt m.h n.h⟩, rfl⟩
      case measure => simp [intOf]; omega
    · have hki : ¬ (k : Int) < (l.length : Nat) := by omega
      go_wp2_with fail
      go_ret
      exact ⟨rfl, m.h⟩
end Go.Proofs.Ytobjadfchpgjeaa
