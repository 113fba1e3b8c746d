/-
  The document's Raze of a building that stands.
-/
import Derived.Test.YtobjadfchpgjeaaRefRaze
namespace Go.Proofs.Ytobjadfchpgjeaa
open Go.RowKit
set_option linter.unusedVariables false
/-- The part of a row of buildings from one on. -/
theorem drop_cells {w : World} {g n cap : Nat} {l : List Bd} (h : Bds w (.slice (some ⟨g, 0, none⟩) n cap) l) (m : Nat) : ∀ j u, ((l.drop m).flatMap Bd.cs)[j]? = some u → w.cell? ((⟨g, m * 5, none⟩ : Addr).add j) = some u := fun j u hu => by
  rw [cs_drop, List.getElem?_drop] at hu
  have := h.cells (g := g) rfl (m * 5 + j) u hu
  simpa [Addr.add_lit] using this
theorem take_cells {w : World} {g n cap : Nat} {l : List Bd} (h : Bds w (.slice (some ⟨g, 0, none⟩) n cap) l) (m : Nat) : ∀ j u, ((l.take m).flatMap Bd.cs)[j]? = some u → w.cell? ((⟨g, 0, none⟩ : Addr).add j) = some u := fun j u hu => by
  rw [cs_take] at hu
  have := h.cells (g := g) rfl j u (by
    rw [List.getElem?_take] at hu
    split at hu
    · exact hu
    · cases hu)
  simpa [Addr.add_lit] using this
theorem below_of_grown {W W' : World} (h : W.grownBy W' none) : Below W.heap.size W W' := ⟨h.os, h.tape, h.output, h.size, fun k hk => h.block k hk (by simp)⟩
theorem Four.turned {S : Nat → Prop} {W W' : World} {k : Nat} {x y a b : Int} (h : Four W k x y a b) (ht : Turns S W W') (hs : ¬ S k) : Four W' k x y a b := by
  have hb := ht.block k h.2.2 hs
  have hc := fun o => World.cell?_of_block (a := ⟨k, o, none⟩) hb
  have hf := fun o => World.frozen?_of_block (a := ⟨k, o, none⟩) hb
  exact ⟨⟨(hc 0).trans h.1.1, (hc 1).trans h.1.2.1, (hc 2).trans h.1.2.2.1, (hc 3).trans h.1.2.2.2⟩, ⟨(hf 0).trans h.2.1.1, (hf 1).trans h.2.1.2.1, (hf 2).trans h.2.1.2.2.1, (hf 3).trans h.2.1.2.2.2⟩, Nat.lt_of_lt_of_le h.2.2 ht.size⟩
theorem turns_set4 (w : World) (n : Nat) (a b c d : Value) : Turns (fun j => j = n) w ((((w.setCell ⟨n, 0, none⟩ a).setCell ⟨n, 1, none⟩ b).setCell ⟨n, 2, none⟩ c).setCell ⟨n, 3, none⟩ d) :=
  (((Turns.set (S := fun j => j = n) w (p := ⟨n, 0, none⟩) rfl a).trans ((Turns.set (S := fun j => j = n) _ (p := ⟨n, 1, none⟩) rfl b).mono (fun _ _ h => .inl h))).trans ((Turns.set (S := fun j => j = n) _ (p := ⟨n, 2, none⟩) rfl c).mono (fun _ _ h => .inl h))).trans ((Turns.set (S := fun j => j = n) _ (p := ⟨n, 3, none⟩) rfl d).mono (fun _ _ h => .inl h))
/-- What two appends leave. -/
theorem two_grown {X w2 w3 : World} {v1 : Value} (h1 : X.grownBy w2 (Value.slice none 0 0).ownBlock) (hl : v1.ownBlock = (Value.slice none 0 0).ownBlock ∨ v1.ownBlock = some X.heap.size) (h2 : w2.grownBy w3 v1.ownBlock) : Below X.heap.size X w3 := by
  have B2 := below_of_grown h1
  refine ⟨h2.os.trans B2.os, h2.tape.trans B2.tape, h2.output.trans B2.output, Nat.le_trans B2.size h2.size, fun k hk => (h2.block k (Nat.lt_of_lt_of_le hk B2.size) (fun e => ?_)).trans (B2.block k hk)⟩
  rcases hl with h | h
  · rw [h] at e; cases e
  · rw [h] at e; cases e; omega
/-- An edit more, behind a World of the document. -/
theorem edits_end {w w1 : World} {r : Nat} {W H : Int} {tv bv ev : Value} {es : List Rc} {f : Rc} {o : Obj} {g cap : Nat} (hd : Rd w r W H tv bv ev) (he : Rcs w ev es) (hg : (w.alloc o).drew.grownBy w1 ev.ownBlock)
    (hown : w1.ownsRow 0 43 4 (.slice (some ⟨g, 0, none⟩) (es.length + 1) cap) (es.length + 1) (es.flatMap Rc.cs ++ f.cs)) (hl : (Value.slice (some ⟨g, 0, none⟩) (es.length + 1) cap).ownBlock = ev.ownBlock ∨ (Value.slice (some ⟨g, 0, none⟩) (es.length + 1) cap).ownBlock = some (w.alloc o).drew.heap.size) :
    Rd w1 r W H tv bv ev ∧ Rd (w1.setCell ⟨r, 4, none⟩ (.slice (some ⟨g, 0, none⟩) (es.length + 1) cap)) r W H tv bv (.slice (some ⟨g, 0, none⟩) (es.length + 1) cap) ∧ Rcs (w1.setCell ⟨r, 4, none⟩ (.slice (some ⟨g, 0, none⟩) (es.length + 1) cap)) (.slice (some ⟨g, 0, none⟩) (es.length + 1) cap) (es ++ [f]) ∧
    Turns (fun j => j = r ∨ ev.ownBlock = some j) w (w1.setCell ⟨r, 4, none⟩ (.slice (some ⟨g, 0, none⟩) (es.length + 1) cap)) ∧ (∀ b, some g = some b → ev.ownBlock = some b ∨ w.heap.size ≤ b) := by
  have T1 : Turns (fun j => ev.ownBlock = some j) w w1 := (Turns.of_below (box1 w o)).trans ((Turns.of_grown (w := (w.alloc o).drew) hg (fun k e => Or.inl e)).undrew)
  have hne := hd.ne_row he (by decide)
  have hd1 := hd.kept T1 hne
  have TS : Turns (fun j => j = r) w1 (w1.setCell ⟨r, 4, none⟩ (.slice (some ⟨g, 0, none⟩) (es.length + 1) cap)) := Turns.set (S := fun j => j = r) w1 (p := ⟨r, 4, none⟩) rfl _
  have hr1 : Rcs w1 (.slice (some ⟨g, 0, none⟩) (es.length + 1) cap) (es ++ [f]) := by simpa [Rcs] using hown
  refine ⟨hd1, hd1.set4 _, hr1.kept TS (fun k e h => ?_), (T1.mono (fun k _ h => .inr h)).trans (TS.mono (fun k _ h => .inl (.inl h))), fun b e => ?_⟩
  · subst h; exact hd1.ne_row hr1 (by decide) e
  · cases e
    rcases hl with h | h
    · exact .inl (by rw [← h]; rfl)
    · right
      simp [Value.ownBlock] at h
      omega
set_option maxRecDepth 100000 in
set_option maxHeartbeats 4000000 in
theorem refraze_yes (r : Nat) (W H : Int) (tv bv ev : Value) (l : List Bd) (es : List Rc) (i : Int) (t : Bd) (w : World) (hd : Rd w r W H tv bv ev) (hl : Bds w bv l) (he : Rcs w ev es) (hs : Sorted l) (hlen : l.length ≤ 256)
    (hes : (es.length + 1) * 32 ≤ 211106232532992) (hf : found l i = true) (ht : l[pos l i]? = some t) :
    Calls Try.prog 48 #[ptr r, .int .i64 i] w fun e w' => e = .returned (.tuple #[rct t.x t.y t.a t.b, .int .i64 0]) ∧ RefRazed w r W H tv ev l es (pos l i) t w' := by
  have B0 : Below w.heap.size w (Z4 w) := box1 _ _
  have hd0 : Rd (Z4 w) r W H tv bv ev := hd.kept (Turns.of_below (S := NoB) B0) id
  have hl0 : Bds (Z4 w) bv l := hl.kept (Turns.of_below (S := NoB) B0) (fun _ _ => id)
  have HI := hide (refplace_is hd0 hl0 hs hlen hf)
  obtain ⟨k, hk⟩ : ∃ k, pos l i = k := ⟨_, rfl⟩
  simp only [if_true] at HI
  rw [hk] at ht HI ⊢
  have hkl : k < l.length := (List.getElem?_eq_some_iff.1 ht).1
  have hki : (k : Int) < (l.length : Nat) := by omega
  have hkw : (0 : Int) ≤ (k : Int) ∧ (k : Int) ≤ 256 := by omega
  obtain ⟨a, cap, rfl, h1, h2, hat⟩ := hl0.form
  obtain ⟨g, rfl, hg, e0, e1, e2, e3, e4⟩ := hat k t ht
  have hgw := (hl.lt g rfl).2
  have hrw := hd.lt
  have c8 : (Z4 w).cell? ⟨r, 3, none⟩ = some (.slice (some ⟨g, 0, none⟩) l.length cap) := hd0.c 3
  obtain ⟨fi, hfi, hz, h5, h40⟩ := info_parts info55
  have hkc : (k : Int) ≤ (cap : Nat) := by omega
  have hcm : (cap : Int) ≤ 9223372036854775807 := by unfold maxLen at h2; omega
  have hTk : ((l.take k).flatMap Bd.cs).length = k * 5 := by rw [cs_len, List.length_take]; omega
  have hm1 : 0 + k ≤ maxLen := by unfold maxLen; omega
  have hm2 : (0 + k) * 40 ≤ 140737488355328 := by omega
  have HT : ∀ wx, Below w.heap.size w wx → Hid (∀ j u, ((l.take k).flatMap Bd.cs)[j]? = some u → wx.cell? ((⟨g, 0, none⟩ : Addr).add j) = some u) := fun wx hx => take_cells (hl.kept (Turns.of_below (S := NoB) hx) (fun _ _ => id)) k
  have HD := hide hd
  have HL := hide hl
  have HS := hide he
  clear hd0 hl0 hs ht hat hd hl he
  go_enter Try.func48, Try.ntmps48
  obtain ⟨ad, hadd⟩ : ∃ ad : Addr, ad = (if cap = k + 1 then ⟨g, 0, none⟩ else ⟨g, (k + 1) * 5, none⟩) := ⟨_, rfl⟩
  have hDk : ((l.drop (k + 1)).flatMap Bd.cs).length = (l.length - (k + 1)) * 5 := by rw [cs_len, List.length_drop]
  have hm3 : k + (l.length - (k + 1)) ≤ maxLen := by unfold maxLen; omega
  have hm4 : (k + (l.length - (k + 1))) * 40 ≤ 140737488355328 := by omega
  have HT2 : ∀ wx, Below w.heap.size w wx → Hid (∀ j u, ((l.drop (k + 1)).flatMap Bd.cs)[j]? = some u → wx.cell? (ad.add j) = some u) := fun wx hx j u hu => by
    rw [hadd]
    split
    · rename_i hc
      rw [List.drop_eq_nil_of_le (by omega)] at hu
      simp at hu
    · exact drop_cells (HL.out.kept (Turns.of_below (S := NoB) hx) (fun _ _ => id)) (k + 1) j u hu
  have hlk : (k : Int) + 1 ≤ (cap : Nat) ∧ (k : Int) + 1 ≤ (l.length : Nat) := by omega
  by_cases hc : cap = k + 1
  · rw [if_pos hc] at hadd
    subst hadd
    have HLK := hide (show l.length = k + 1 by omega)
    have hc' : cap - (k + 1) = 0 := by omega
    have hl' : l.length - (k + 1) = 0 := by omega
    clear hc
    have hn0 : ∀ (wx : World) (j : Nat) (u : Value), ([] : List Value)[j]? = some u → wx.cell? ((⟨g, 0, none⟩ : Addr).add j) = some u := fun wx j u h => by simp at h
    have hm5 : k + 0 ≤ maxLen := by unfold maxLen; omega
    have hm6 : (k + 0) * 40 ≤ 140737488355328 := by omega
    go_wp2_with (first | (go_at_call 40; refine HI.out.mono ?_; rintro e w1 ⟨rfl, rfl⟩) | (at_builtin; refine wpList_append_own_at _ rfl _ _ 23 rfl 0 55 fi z55 5 40 Try.underlying23 hfi hz h5 h40 rfl (by decide) (.slice none 0 0) 0 [] rfl (World.ownsRow_nil _ _ _ _) ⟨g, 0, none⟩ k cap ((l.take k).flatMap Bd.cs) rfl hTk (HT _ (box2 _ _ _)).out one_all hm1 hm2 (Nat.zero_le _) ?_; intro v1 w2 hown1 hgrow1 hnil1 hloc1; rw [Nat.zero_add, List.nil_append] at hown1; obtain ⟨a1, cap1, rfl⟩ := row_any hown1; have B2 := bt (box2 _ _ _) (below_of_grown hgrow1); have c8b : w2.cell? ⟨r, 3, none⟩ = some (.slice (some ⟨g, 0, none⟩) l.length cap) := (B2.cell (p := ⟨r, 3, none⟩) hrw).trans (HD.out.c 3); have HB2 := hide B2; have HO1 := hide hown1; have HG1 := hide hgrow1; have HL1 := hide hloc1; clear B2 hown1 hgrow1 hnil1 hloc1) | (at_builtin; refine wpList_append_own_at _ rfl _ _ 23 rfl 0 55 fi z55 5 40 Try.underlying23 hfi hz h5 h40 rfl (by decide) (.slice a1 k cap1) k _ rfl HO1.out ⟨g, 0, none⟩ 0 0 [] rfl rfl (hn0 _) (fun u h => by simp at h) hm5 hm6 (Nat.zero_le _) ?_; intro v2 w3 hown2 hgrow2 hnil2 hloc2; rw [Nat.add_zero, List.append_nil] at hown2; obtain ⟨a2, cap2, rfl⟩ := row_any hown2; have B3 := two_grown HG1.out HL1.out hgrow2; have BW := bt (box2 w _ _) B3; have c8c : w3.cell? ⟨r, 3, none⟩ = some (.slice (some ⟨g, 0, none⟩) l.length cap) := (BW.cell (p := ⟨r, 3, none⟩) hrw).trans (HD.out.c 3); have f8c := (BW.frozen (p := ⟨r, 3, none⟩) hrw).trans (HD.out.f 3); have HB3 := hide B3; have HB4 := hide BW; have HO2 := hide hown2; have HL2 := hide hloc2; clear B3 BW hown2 hgrow2 hnil2 hloc2))
    have F3 : Four w3 (w.heap.size + 1) t.x t.y t.a t.b := (show Four ((Z4 w).alloc (.cells #[.int .i64 t.x, .int .i64 t.y, .int .i64 t.a, .int .i64 t.b] 43)) (w.heap.size + 1) t.x t.y t.a t.b by simp [Four, go_sem]).kept HB3.out
    have G3 : Four w3 w.heap.size 0 0 0 0 := (show Four ((Z4 w).alloc (.cells #[.int .i64 t.x, .int .i64 t.y, .int .i64 t.a, .int .i64 t.b] 43)) w.heap.size 0 0 0 0 by simp [Four, go_sem]).kept HB3.out
    have hd4 := (HD.out.kept (Turns.of_below (S := NoB) HB4.out) id).set3 (.slice a2 (k) cap2)
    have TS4 : Turns (fun j => j = r) w3 (w3.setCell ⟨r, 3, none⟩ (.slice a2 (k) cap2)) := Turns.set (S := fun j => j = r) w3 (p := ⟨r, 3, none⟩) rfl _
    have hd3 := HD.out.kept (Turns.of_below (S := NoB) HB4.out) id
    have hl3 : Bds w3 (.slice a2 (k) cap2) (del l k) := by
      have := HO2.out
      show w3.ownsRow 0 55 5 _ (del l k).length ((del l k).flatMap Bd.cs); rw [show (del l k).length = k by have := HLK.out; simp [del]; omega, show (del l k).flatMap Bd.cs = (l.take k).flatMap Bd.cs by rw [del, List.drop_eq_nil_of_le (by have := HLK.out; omega), List.append_nil]]; exact this
    have hl4 := hl3.kept TS4 (fun b e h => by subst h; exact hd3.ne_row hl3 (by decide) e)
    have he3 := HS.out.kept (Turns.of_below (S := NoB) HB4.out) (fun _ _ => id)
    have he4 := he3.kept TS4 (fun b e h => by subst h; exact hd3.ne_row he3 (by decide) e)
    have F4 := F3.turned TS4 (by omega)
    have G4 := G3.turned TS4 (by omega)
    have T4 : Turns (fun j => j = r) w _ := (Turns.of_below (S := fun j => j = r) HB4.out).trans (TS4.mono (fun j _ h => .inl h))
    have hz4 := T4.size
    obtain ⟨w4, hw4⟩ : ∃ w4, w3.setCell ⟨r, 3, none⟩ (.slice a2 (k) cap2) = w4 := ⟨_, rfl⟩
    rw [hw4] at hd4 hl4 he4 F4 G4 T4 hz4 ⊢
    have hnew : ∀ b, (Value.slice a2 (k) cap2).ownBlock = some b → w.heap.size + 2 ≤ b := fun b e => by
      have hzb : w.heap.size + 2 ≤ w2.heap.size := by have := HG1.out.size; simpa using this
      rcases HL2.out with h | h
      · rw [h] at e; exact new2 HL1.out (by simp) e
      · rw [h] at e; cases e; exact hzb
    have HN := hide hnew
    have Hl4 := hide hl4
    have HT4 := hide T4
    clear hw4 hd3 hl3 he3 F3 G3 TS4 c8b c8c f8c c8 e0 e1 e2 e3 e4 hnew hl4 T4
    obtain ⟨fj, hfj, hzj, h4, h32⟩ := info_parts info43
    have hmj : es.length + 1 ≤ maxLen := by unfold maxLen; omega
    have hevn : ∀ j, j = w.heap.size ∨ j = w.heap.size + 1 → ¬ (ev.ownBlock = some j) := fun j hj e => by have := (HS.out.lt j e).2; omega
    have hS0 : (w4.cell? ⟨w.heap.size + 1, 0, none⟩ = some (.int .i64 t.x) ∧ w4.cell? ⟨w.heap.size + 1, 1, none⟩ = some (.int .i64 t.y) ∧ w4.cell? ⟨w.heap.size + 1, 2, none⟩ = some (.int .i64 t.a) ∧ w4.cell? ⟨w.heap.size + 1, 3, none⟩ = some (.int .i64 t.b)) := F4.1
    have hS1 : ∀ o, ((w4.alloc o).cell? ⟨w.heap.size + 1, 0, none⟩ = some (.int .i64 t.x) ∧ (w4.alloc o).cell? ⟨w.heap.size + 1, 1, none⟩ = some (.int .i64 t.y) ∧ (w4.alloc o).cell? ⟨w.heap.size + 1, 2, none⟩ = some (.int .i64 t.a) ∧ (w4.alloc o).cell? ⟨w.heap.size + 1, 3, none⟩ = some (.int .i64 t.b)) := fun o => (F4.kept (box1 w4 o)).1
    have hTX : ∀ {wx : World} {o : Obj}, (w4.alloc o).drew.grownBy wx ev.ownBlock → Turns (fun k => ev.ownBlock = some k) w4 wx := fun {wx o} hg => (Turns.of_below (box1 w4 o)).trans ((Turns.of_grown (w := (w4.alloc o).drew) hg (fun k e => Or.inl e)).undrew)
    have hS2 : ∀ {wx : World} {o : Obj}, (w4.alloc o).drew.grownBy wx ev.ownBlock → (wx.cell? ⟨w.heap.size + 1, 0, none⟩ = some (.int .i64 t.x) ∧ wx.cell? ⟨w.heap.size + 1, 1, none⟩ = some (.int .i64 t.y) ∧ wx.cell? ⟨w.heap.size + 1, 2, none⟩ = some (.int .i64 t.a) ∧ wx.cell? ⟨w.heap.size + 1, 3, none⟩ = some (.int .i64 t.b)) := fun {wx o} hg => (F4.turned (hTX hg) (hevn _ (.inr rfl))).1
    have hS3 : ∀ {wx : World} {o : Obj} {v : Value}, (w4.alloc o).drew.grownBy wx ev.ownBlock → ((wx.setCell ⟨r, 4, none⟩ v).cell? ⟨w.heap.size + 1, 0, none⟩ = some (.int .i64 t.x) ∧ (wx.setCell ⟨r, 4, none⟩ v).cell? ⟨w.heap.size + 1, 1, none⟩ = some (.int .i64 t.y) ∧ (wx.setCell ⟨r, 4, none⟩ v).cell? ⟨w.heap.size + 1, 2, none⟩ = some (.int .i64 t.a) ∧ (wx.setCell ⟨r, 4, none⟩ v).cell? ⟨w.heap.size + 1, 3, none⟩ = some (.int .i64 t.b)) := fun {wx o v} hg => ((F4.turned (hTX hg) (hevn _ (.inr rfl))).turned (Turns.set (S := fun k => k = r) wx (p := ⟨r, 4, none⟩) rfl v) (by omega)).1
    have c4 : w4.cell? ⟨r, 4, none⟩ = some ev := hd4.c 4
    have c4' : ∀ o, (w4.alloc o).cell? ⟨r, 4, none⟩ = some ev := fun o => (hd4.kept (Turns.of_below (S := NoB) (box1 w4 o)) id).c 4
    have HE4 := hide he4
    have HD4 := hide hd4
    clear hd4 he4
    refine Code.wp_mono (Q := Only (fun a' w' => ∃ v5 g5 cap5 w5, v5 = .slice (some ⟨g5, 0, none⟩) (es.length + 1) cap5 ∧ w' = w5.setCell ⟨r, 4, none⟩ v5 ∧ a' = { tmps := #[ptr r, .int .i64 i, undef, undef, ptr w.heap.size, .int .i64 0, .int .i64 k, ptr (w.heap.size + 1), .slice a1 k cap1, ptr r, .int .i64 i, .int .i64 k, .int .i64 k, .bool (decide ((k : Int) < 0)), undef, ptr r, ptr r, .pointer (some ⟨r, 3, none⟩), .slice (some ⟨g, 0, none⟩) l.length cap, .int .i64 k, .pointer (some ⟨g, k * 5, none⟩), .pointer (some ⟨g, k * 5 + 1, none⟩), rct t.x t.y t.a t.b, .slice none 0 0, ptr r, ptr r, .pointer (some ⟨r, 3, none⟩), .slice (some ⟨g, 0, none⟩) l.length cap, .int .i64 k, .slice (some ⟨g, 0, none⟩) k cap, .slice a1 k cap1, ptr r, .slice a1 k cap1, ptr r, ptr r, .pointer (some ⟨r, 3, none⟩), .slice (some ⟨g, 0, none⟩) l.length cap, .int .i64 k, .int .i64 (k + 1), .slice (some ⟨g, 0, none⟩) 0 0, .slice a2 (k) cap2, ptr r, .pointer (some ⟨r, 3, none⟩), ptr r, ptr r, ptr r, .pointer (some ⟨r, 4, none⟩), ev, rct t.x t.y t.a t.b, .slice (some ⟨w4.heap.size, 0, none⟩) 1 1, v5, ptr r, .pointer (some ⟨r, 4, none⟩), undef], defers := [] } ∧ (w4.alloc (.cells #[.int .i64 t.x, .int .i64 t.y, .int .i64 t.a, .int .i64 t.b] 43)).drew.grownBy w5 ev.ownBlock ∧ w5.ownsRow 0 43 4 v5 (es.length + 1) (es.flatMap Rc.cs ++ t.foot.cs) ∧ (v5.ownBlock = ev.ownBlock ∨ v5.ownBlock = some (w4.alloc (.cells #[.int .i64 t.x, .int .i64 t.y, .int .i64 t.a, .int .i64 t.b] 43)).drew.heap.size))) ?rest ?_
    case rest =>
      rintro (_ | _ | _ | _ | _) a' w' hO
      all_goals first | exact hO.elim | skip
      obtain ⟨v5, g5, cap5, w5, rfl, rfl, rfl, hg5, hown5, hloc5⟩ := hO
      obtain ⟨hd5, hd6, he6, T6, hn6⟩ := edits_end (f := t.foot) HD4.out HE4.out hg5 hown5 hloc5
      have F6 := (F4.turned T6 (fun h => h.elim (fun h => by omega) (hevn _ (.inr rfl))))
      have G6 := (G4.turned T6 (fun h => h.elim (fun h => by omega) (hevn _ (.inl rfl))))
      have hl6 := Hl4.out.kept T6 (fun b e h => h.elim (fun h => by subst h; exact HD4.out.ne_row Hl4.out (by decide) e) (fun h => rows_ne Hl4.out HE4.out (by decide) e h))
      obtain ⟨w6, hw6⟩ : ∃ w6, w5.setCell ⟨r, 4, none⟩ (.slice (some ⟨g5, 0, none⟩) (es.length + 1) cap5) = w6 := ⟨_, rfl⟩
      rw [hw6] at hd6 he6 T6 F6 G6 hl6 ⊢
      clear hw6 hg5 hown5 hloc5 hd5 hS0 hS1 hS2 hS3 c4 c4' hTX
      obtain ⟨⟨x0, x1, x2, x3⟩, -, xz⟩ := id F6
      obtain ⟨⟨y0, y1, y2, y3⟩, ⟨y4, y5, y6, y7⟩, yz⟩ := id G6
      have HEnd : RefRazed w r W H tv ev l es k t ((((w6.setCell ⟨w.heap.size, 0, none⟩ (.int .i64 t.x)).setCell ⟨w.heap.size, 1, none⟩ (.int .i64 t.y)).setCell ⟨w.heap.size, 2, none⟩ (.int .i64 t.a)).setCell ⟨w.heap.size, 3, none⟩ (.int .i64 t.b)) := by
        have TE : Turns (fun j => j = w.heap.size) w6 ((((w6.setCell ⟨w.heap.size, 0, none⟩ (.int .i64 t.x)).setCell ⟨w.heap.size, 1, none⟩ (.int .i64 t.y)).setCell ⟨w.heap.size, 2, none⟩ (.int .i64 t.a)).setCell ⟨w.heap.size, 3, none⟩ (.int .i64 t.b)) := turns_set4 _ _ _ _ _ _
        refine ⟨_, _, hd6.kept TE (by omega), hl6.kept TE (fun b e h => ?_), he6.kept TE (fun b e h => ?_), ?_, fun b e => (by have := HN.out b e; omega), fun b e => ?_⟩
        · have := HN.out b e; omega
        · rcases hn6 b e with h7 | h7; exact hevn _ (.inl h) h7; have := F4.2.2; omega
        · exact ((HT4.out.mono (fun j _ h => .inl h)).trans (T6.mono (fun j _ h => .inl h))).trans (TE.mono (fun j _ h => .inr (by omega)))
        · exact (hn6 b e).imp id (fun h => Nat.le_trans hz4 h)
      have HEE := hide HEnd
      clear HEnd hd6 he6 T6 F6 G6 hl6 hn6 HD4 HE4 Hl4 HT4 HN
      go_wp2_with fail
      refine bodyPost_ret (v := .tuple #[rct t.x t.y t.a t.b, .int .i64 0]) (by simp [results, Try.results48, go_sem, y0, y1, y2, y3]) rfl ⟨rfl, HEE.out⟩
    refine wp_region_held_drew (S := fun w' => (w'.cell? ⟨w.heap.size + 1, 0, none⟩ = some (.int .i64 t.x) ∧ w'.cell? ⟨w.heap.size + 1, 1, none⟩ = some (.int .i64 t.y) ∧ w'.cell? ⟨w.heap.size + 1, 2, none⟩ = some (.int .i64 t.a) ∧ w'.cell? ⟨w.heap.size + 1, 3, none⟩ = some (.int .i64 t.b))) (by kernel_rfl) hS0 (fun hHeld => ?_)
    refine wpAnyH_take (i := 0) (v := ?_) rfl (by kernel_rfl) (by kernel_rfl) (by kernel_rfl) (fun _ _ _ h => h.elim) (Or.inl ⟨by rfl, ?_⟩) (by assumption) ?_
    rotate_left
    · intro wx hSw
      try dsimp only at hSw
      go_simp
      try with_reducible rfl
    try simp only [Act.put, List.getElem_toArray, List.getElem_cons_zero, List.setIfInBounds_toArray, List.set_cons_zero, List.set_cons_succ]
    refine wpAnyH_take (i := 1) (v := ?_) rfl (by kernel_rfl) (by kernel_rfl) (by kernel_rfl) (fun _ _ _ h => h.elim) (Or.inl ⟨by rfl, ?_⟩) (by assumption) ?_
    rotate_left
    · intro wx hSw
      try dsimp only at hSw
      go_simp
      try with_reducible rfl
    try simp only [Act.put, List.getElem_toArray, List.getElem_cons_zero, List.getElem_cons_succ, List.setIfInBounds_toArray, List.set_cons_zero, List.set_cons_succ]
    refine wpAnyH_take (i := 2) (v := ?_) rfl (by kernel_rfl) (by kernel_rfl) (by kernel_rfl) (fun _ _ _ h => h.elim) (Or.inl ⟨by rfl, ?_⟩) (by assumption) ?_
    rotate_left
    · intro wx hSw
      try dsimp only at hSw
      go_simp
      try with_reducible rfl
    try simp only [Act.put, List.getElem_toArray, List.getElem_cons_zero, List.getElem_cons_succ, List.setIfInBounds_toArray, List.set_cons_zero, List.set_cons_succ]
    refine wpAnyH_take (i := 3) (v := ?_) rfl (by kernel_rfl) (by kernel_rfl) (by kernel_rfl) (fun _ _ _ h => h.elim) (Or.inl ⟨by rfl, ?_⟩) (by assumption) ?_
    rotate_left
    · intro wx hSw
      try dsimp only at hSw
      go_simp
      try with_reducible rfl
    try simp only [Act.put, List.getElem_toArray, List.getElem_cons_zero, List.getElem_cons_succ, List.setIfInBounds_toArray, List.set_cons_zero, List.set_cons_succ]
    refine wpAnyH_take (i := 5) (v := ?_) rfl (by kernel_rfl) (by kernel_rfl) (by kernel_rfl) (fun _ _ _ h => h.elim) (Or.inl ⟨by rfl, ?_⟩) (by assumption) ?_
    rotate_left
    · intro wx hSw
      try dsimp only at hSw
      go_simp
      try with_reducible rfl
    try simp only [Act.put, List.getElem_toArray, List.getElem_cons_zero, List.getElem_cons_succ, List.setIfInBounds_toArray, List.set_cons_zero, List.set_cons_succ]
    refine wpAnyH_ready (rs := [4, 6]) (by kernel_rfl) (by simp) ?_
    refine AllReadyH.cons rfl (fun K hK => ?_) ?_
    · go_simp
      refine hK.out _ _ ?_ (fun hHeld => ?_)
      · first | exact hS0 | exact hS1 _ | exact hS2 (by assumption) | exact hS3 (by assumption)
      clear hK K
      try simp only [Act.put, List.getElem_toArray, List.getElem_cons_zero, List.getElem_cons_succ, List.setIfInBounds_toArray, List.set_cons_zero, List.set_cons_succ]
      refine wpAnyH_ready (rs := [6]) (by kernel_rfl) (by simp) ?_
      refine AllReadyH.cons rfl (fun K hK => ?_) ?_
      · go_simp
        refine hK.out _ _ ?_ (fun hHeld => ?_)
        · first | exact hS0 | exact hS1 _ | exact hS2 (by assumption) | exact hS3 (by assumption)
        clear hK K
        try simp only [Act.put, List.getElem_toArray, List.getElem_cons_zero, List.getElem_cons_succ, List.setIfInBounds_toArray, List.set_cons_zero, List.set_cons_succ]
        refine wpAnyH_ready (rs := [7]) (by kernel_rfl) (by simp) ?_
        refine AllReadyH.cons rfl (fun K hK => ?_) ?_
        · refine step_append_row rfl _ _ 48 rfl 43 fj z43 4 32 Try.underlying48 hfj hzj h4 h32 rfl (by decide) ev es.length _ (by simp [Act.eval]) (HE4.out.alloc _) ⟨w4.heap.size, 0, none⟩ 1 1 t.foot.cs (by simp [Act.eval]) rfl (rc_new w4 t.foot) one_rc hmj hes ?_
          intro v' w5 hown hgrow hloc'
          obtain ⟨g5, cap5, rfl⟩ := row_form hown
          have hd5 := HD4.out.kept (hTX hgrow) (HD4.out.ne_row HE4.out (by decide))
          have c45 : w5.cell? ⟨r, 4, none⟩ = some ev := hd5.c 4
          have f45 := hd5.f 4
          refine hK.out _ _ ?_ (fun hHeld => ?_)
          · first | exact hS0 | exact hS1 _ | exact hS2 (by assumption) | exact hS3 (by assumption)
          clear hK K
          try simp only [Act.put, List.getElem_toArray, List.getElem_cons_zero, List.getElem_cons_succ, List.setIfInBounds_toArray, List.set_cons_zero, List.set_cons_succ]
          refine wpAnyH_take (i := 8) (v := ?_) rfl (by kernel_rfl) (by kernel_rfl) (by kernel_rfl) (fun _ _ _ h => h.elim) (Or.inl ⟨by rfl, ?_⟩) (by assumption) ?_
          rotate_left
          · intro wx hSw
            try dsimp only at hSw
            go_simp
            try with_reducible rfl
          try simp only [Act.put, List.getElem_toArray, List.getElem_cons_zero, List.getElem_cons_succ, List.setIfInBounds_toArray, List.set_cons_zero, List.set_cons_succ]
          refine wpAnyH_take (i := 9) (v := ?_) rfl (by kernel_rfl) (by kernel_rfl) (by kernel_rfl) (fun _ _ _ h => h.elim) (Or.inl ⟨by rfl, ?_⟩) (by assumption) ?_
          rotate_left
          · intro wx hSw
            try dsimp only at hSw
            go_simp
            try with_reducible rfl
          try simp only [Act.put, List.getElem_toArray, List.getElem_cons_zero, List.getElem_cons_succ, List.setIfInBounds_toArray, List.set_cons_zero, List.set_cons_succ]
          refine wpAnyH_ready (rs := [10]) (by kernel_rfl) (by simp) ?_
          refine AllReadyH.cons rfl (fun K hK => ?_) ?_
          · go_simp
            refine hK.out _ _ ?_ (fun hHeld => ?_)
            · first | exact hS0 | exact hS1 _ | exact hS2 (by assumption) | exact hS3 (by assumption)
            clear hK K
            try simp only [Act.put, List.getElem_toArray, List.getElem_cons_zero, List.getElem_cons_succ, List.setIfInBounds_toArray, List.set_cons_zero, List.set_cons_succ]
            refine wpAnyH_done (by kernel_rfl) ?_ _
            exact ⟨_, g5, cap5, w5, rfl, rfl, rfl, hgrow, hown, hloc'⟩
          exact AllReadyH.nil
        exact AllReadyH.nil
      exact AllReadyH.nil
    refine AllReadyH.cons rfl (fun K hK => ?_) ?_
    · go_simp
      refine hK.out _ _ ?_ (fun hHeld => ?_)
      · first | exact hS0 | exact hS1 _ | exact hS2 (by assumption) | exact hS3 (by assumption)
      clear hK K
      try simp only [Act.put, List.getElem_toArray, List.getElem_cons_zero, List.getElem_cons_succ, List.setIfInBounds_toArray, List.set_cons_zero, List.set_cons_succ]
      refine wpAnyH_ready (rs := [4]) (by kernel_rfl) (by simp) ?_
      refine AllReadyH.cons rfl (fun K hK => ?_) ?_
      · go_simp
        refine hK.out _ _ ?_ (fun hHeld => ?_)
        · first | exact hS0 | exact hS1 _ | exact hS2 (by assumption) | exact hS3 (by assumption)
        clear hK K
        try simp only [Act.put, List.getElem_toArray, List.getElem_cons_zero, List.getElem_cons_succ, List.setIfInBounds_toArray, List.set_cons_zero, List.set_cons_succ]
        refine wpAnyH_ready (rs := [7]) (by kernel_rfl) (by simp) ?_
        refine AllReadyH.cons rfl (fun K hK => ?_) ?_
        · refine step_append_row rfl _ _ 48 rfl 43 fj z43 4 32 Try.underlying48 hfj hzj h4 h32 rfl (by decide) ev es.length _ (by simp [Act.eval]) (HE4.out.alloc _) ⟨w4.heap.size, 0, none⟩ 1 1 t.foot.cs (by simp [Act.eval]) rfl (rc_new w4 t.foot) one_rc hmj hes ?_
          intro v' w5 hown hgrow hloc'
          obtain ⟨g5, cap5, rfl⟩ := row_form hown
          have hd5 := HD4.out.kept (hTX hgrow) (HD4.out.ne_row HE4.out (by decide))
          have c45 : w5.cell? ⟨r, 4, none⟩ = some ev := hd5.c 4
          have f45 := hd5.f 4
          refine hK.out _ _ ?_ (fun hHeld => ?_)
          · first | exact hS0 | exact hS1 _ | exact hS2 (by assumption) | exact hS3 (by assumption)
          clear hK K
          try simp only [Act.put, List.getElem_toArray, List.getElem_cons_zero, List.getElem_cons_succ, List.setIfInBounds_toArray, List.set_cons_zero, List.set_cons_succ]
          refine wpAnyH_take (i := 8) (v := ?_) rfl (by kernel_rfl) (by kernel_rfl) (by kernel_rfl) (fun _ _ _ h => h.elim) (Or.inl ⟨by rfl, ?_⟩) (by assumption) ?_
          rotate_left
          · intro wx hSw
            try dsimp only at hSw
            go_simp
            try with_reducible rfl
          try simp only [Act.put, List.getElem_toArray, List.getElem_cons_zero, List.getElem_cons_succ, List.setIfInBounds_toArray, List.set_cons_zero, List.set_cons_succ]
          refine wpAnyH_take (i := 9) (v := ?_) rfl (by kernel_rfl) (by kernel_rfl) (by kernel_rfl) (fun _ _ _ h => h.elim) (Or.inl ⟨by rfl, ?_⟩) (by assumption) ?_
          rotate_left
          · intro wx hSw
            try dsimp only at hSw
            go_simp
            try with_reducible rfl
          try simp only [Act.put, List.getElem_toArray, List.getElem_cons_zero, List.getElem_cons_succ, List.setIfInBounds_toArray, List.set_cons_zero, List.set_cons_succ]
          refine wpAnyH_ready (rs := [10]) (by kernel_rfl) (by simp) ?_
          refine AllReadyH.cons rfl (fun K hK => ?_) ?_
          · go_simp
            refine hK.out _ _ ?_ (fun hHeld => ?_)
            · first | exact hS0 | exact hS1 _ | exact hS2 (by assumption) | exact hS3 (by assumption)
            clear hK K
            try simp only [Act.put, List.getElem_toArray, List.getElem_cons_zero, List.getElem_cons_succ, List.setIfInBounds_toArray, List.set_cons_zero, List.set_cons_succ]
            refine wpAnyH_done (by kernel_rfl) ?_ _
            exact ⟨_, g5, cap5, w5, rfl, rfl, rfl, hgrow, hown, hloc'⟩
          exact AllReadyH.nil
        exact AllReadyH.nil
      exact AllReadyH.nil
    exact AllReadyH.nil
  · rw [if_neg hc] at hadd
    subst hadd
    have hc' : ¬ cap - (k + 1) = 0 := by omega
    go_wp2_with (first | (go_at_call 40; refine HI.out.mono ?_; rintro e w1 ⟨rfl, rfl⟩) | (at_builtin; refine wpList_append_own_at _ rfl _ _ 23 rfl 0 55 fi z55 5 40 Try.underlying23 hfi hz h5 h40 rfl (by decide) (.slice none 0 0) 0 [] rfl (World.ownsRow_nil _ _ _ _) ⟨g, 0, none⟩ k cap ((l.take k).flatMap Bd.cs) rfl hTk (HT _ (box2 _ _ _)).out one_all hm1 hm2 (Nat.zero_le _) ?_; intro v1 w2 hown1 hgrow1 hnil1 hloc1; rw [Nat.zero_add, List.nil_append] at hown1; obtain ⟨a1, cap1, rfl⟩ := row_any hown1; have B2 := bt (box2 _ _ _) (below_of_grown hgrow1); have c8b : w2.cell? ⟨r, 3, none⟩ = some (.slice (some ⟨g, 0, none⟩) l.length cap) := (B2.cell (p := ⟨r, 3, none⟩) hrw).trans (HD.out.c 3); have HB2 := hide B2; have HO1 := hide hown1; have HG1 := hide hgrow1; have HL1 := hide hloc1; clear B2 hown1 hgrow1 hnil1 hloc1) | (at_builtin; refine wpList_append_own_at _ rfl _ _ 23 rfl 0 55 fi z55 5 40 Try.underlying23 hfi hz h5 h40 rfl (by decide) (.slice a1 k cap1) k _ rfl HO1.out ⟨g, (k + 1) * 5, none⟩ (l.length - (k + 1)) (cap - (k + 1)) ((l.drop (k + 1)).flatMap Bd.cs) rfl hDk (HT2 _ HB2.out).out one_all hm3 hm4 (Nat.zero_le _) ?_; intro v2 w3 hown2 hgrow2 hnil2 hloc2; obtain ⟨a2, cap2, rfl⟩ := row_any hown2; have B3 := two_grown HG1.out HL1.out hgrow2; have BW := bt (box2 w _ _) B3; have c8c : w3.cell? ⟨r, 3, none⟩ = some (.slice (some ⟨g, 0, none⟩) l.length cap) := (BW.cell (p := ⟨r, 3, none⟩) hrw).trans (HD.out.c 3); have f8c := (BW.frozen (p := ⟨r, 3, none⟩) hrw).trans (HD.out.f 3); have HB3 := hide B3; have HB4 := hide BW; have HO2 := hide hown2; have HL2 := hide hloc2; clear B3 BW hown2 hgrow2 hnil2 hloc2))
    have F3 : Four w3 (w.heap.size + 1) t.x t.y t.a t.b := (show Four ((Z4 w).alloc (.cells #[.int .i64 t.x, .int .i64 t.y, .int .i64 t.a, .int .i64 t.b] 43)) (w.heap.size + 1) t.x t.y t.a t.b by simp [Four, go_sem]).kept HB3.out
    have G3 : Four w3 w.heap.size 0 0 0 0 := (show Four ((Z4 w).alloc (.cells #[.int .i64 t.x, .int .i64 t.y, .int .i64 t.a, .int .i64 t.b] 43)) w.heap.size 0 0 0 0 by simp [Four, go_sem]).kept HB3.out
    have hd4 := (HD.out.kept (Turns.of_below (S := NoB) HB4.out) id).set3 (.slice a2 (k + (l.length - (k + 1))) cap2)
    have TS4 : Turns (fun j => j = r) w3 (w3.setCell ⟨r, 3, none⟩ (.slice a2 (k + (l.length - (k + 1))) cap2)) := Turns.set (S := fun j => j = r) w3 (p := ⟨r, 3, none⟩) rfl _
    have hd3 := HD.out.kept (Turns.of_below (S := NoB) HB4.out) id
    have hl3 : Bds w3 (.slice a2 (k + (l.length - (k + 1))) cap2) (del l k) := by
      have := HO2.out
      show w3.ownsRow 0 55 5 _ (del l k).length ((del l k).flatMap Bd.cs); rw [show (del l k).length = k + (l.length - (k + 1)) by simp [del]; omega, show (del l k).flatMap Bd.cs = (l.take k).flatMap Bd.cs ++ (l.drop (k + 1)).flatMap Bd.cs by simp [del]]; exact this
    have hl4 := hl3.kept TS4 (fun b e h => by subst h; exact hd3.ne_row hl3 (by decide) e)
    have he3 := HS.out.kept (Turns.of_below (S := NoB) HB4.out) (fun _ _ => id)
    have he4 := he3.kept TS4 (fun b e h => by subst h; exact hd3.ne_row he3 (by decide) e)
    have F4 := F3.turned TS4 (by omega)
    have G4 := G3.turned TS4 (by omega)
    have T4 : Turns (fun j => j = r) w _ := (Turns.of_below (S := fun j => j = r) HB4.out).trans (TS4.mono (fun j _ h => .inl h))
    have hz4 := T4.size
    obtain ⟨w4, hw4⟩ : ∃ w4, w3.setCell ⟨r, 3, none⟩ (.slice a2 (k + (l.length - (k + 1))) cap2) = w4 := ⟨_, rfl⟩
    rw [hw4] at hd4 hl4 he4 F4 G4 T4 hz4 ⊢
    have hnew : ∀ b, (Value.slice a2 (k + (l.length - (k + 1))) cap2).ownBlock = some b → w.heap.size + 2 ≤ b := fun b e => by
      have hzb : w.heap.size + 2 ≤ w2.heap.size := by have := HG1.out.size; simpa using this
      rcases HL2.out with h | h
      · rw [h] at e; exact new2 HL1.out (by simp) e
      · rw [h] at e; cases e; exact hzb
    have HN := hide hnew
    have Hl4 := hide hl4
    have HT4 := hide T4
    clear hw4 hd3 hl3 he3 F3 G3 TS4 c8b c8c f8c c8 e0 e1 e2 e3 e4 hnew hl4 T4
    obtain ⟨fj, hfj, hzj, h4, h32⟩ := info_parts info43
    have hmj : es.length + 1 ≤ maxLen := by unfold maxLen; omega
    have hevn : ∀ j, j = w.heap.size ∨ j = w.heap.size + 1 → ¬ (ev.ownBlock = some j) := fun j hj e => by have := (HS.out.lt j e).2; omega
    have hS0 : (w4.cell? ⟨w.heap.size + 1, 0, none⟩ = some (.int .i64 t.x) ∧ w4.cell? ⟨w.heap.size + 1, 1, none⟩ = some (.int .i64 t.y) ∧ w4.cell? ⟨w.heap.size + 1, 2, none⟩ = some (.int .i64 t.a) ∧ w4.cell? ⟨w.heap.size + 1, 3, none⟩ = some (.int .i64 t.b)) := F4.1
    have hS1 : ∀ o, ((w4.alloc o).cell? ⟨w.heap.size + 1, 0, none⟩ = some (.int .i64 t.x) ∧ (w4.alloc o).cell? ⟨w.heap.size + 1, 1, none⟩ = some (.int .i64 t.y) ∧ (w4.alloc o).cell? ⟨w.heap.size + 1, 2, none⟩ = some (.int .i64 t.a) ∧ (w4.alloc o).cell? ⟨w.heap.size + 1, 3, none⟩ = some (.int .i64 t.b)) := fun o => (F4.kept (box1 w4 o)).1
    have hTX : ∀ {wx : World} {o : Obj}, (w4.alloc o).drew.grownBy wx ev.ownBlock → Turns (fun k => ev.ownBlock = some k) w4 wx := fun {wx o} hg => (Turns.of_below (box1 w4 o)).trans ((Turns.of_grown (w := (w4.alloc o).drew) hg (fun k e => Or.inl e)).undrew)
    have hS2 : ∀ {wx : World} {o : Obj}, (w4.alloc o).drew.grownBy wx ev.ownBlock → (wx.cell? ⟨w.heap.size + 1, 0, none⟩ = some (.int .i64 t.x) ∧ wx.cell? ⟨w.heap.size + 1, 1, none⟩ = some (.int .i64 t.y) ∧ wx.cell? ⟨w.heap.size + 1, 2, none⟩ = some (.int .i64 t.a) ∧ wx.cell? ⟨w.heap.size + 1, 3, none⟩ = some (.int .i64 t.b)) := fun {wx o} hg => (F4.turned (hTX hg) (hevn _ (.inr rfl))).1
    have hS3 : ∀ {wx : World} {o : Obj} {v : Value}, (w4.alloc o).drew.grownBy wx ev.ownBlock → ((wx.setCell ⟨r, 4, none⟩ v).cell? ⟨w.heap.size + 1, 0, none⟩ = some (.int .i64 t.x) ∧ (wx.setCell ⟨r, 4, none⟩ v).cell? ⟨w.heap.size + 1, 1, none⟩ = some (.int .i64 t.y) ∧ (wx.setCell ⟨r, 4, none⟩ v).cell? ⟨w.heap.size + 1, 2, none⟩ = some (.int .i64 t.a) ∧ (wx.setCell ⟨r, 4, none⟩ v).cell? ⟨w.heap.size + 1, 3, none⟩ = some (.int .i64 t.b)) := fun {wx o v} hg => ((F4.turned (hTX hg) (hevn _ (.inr rfl))).turned (Turns.set (S := fun k => k = r) wx (p := ⟨r, 4, none⟩) rfl v) (by omega)).1
    have c4 : w4.cell? ⟨r, 4, none⟩ = some ev := hd4.c 4
    have c4' : ∀ o, (w4.alloc o).cell? ⟨r, 4, none⟩ = some ev := fun o => (hd4.kept (Turns.of_below (S := NoB) (box1 w4 o)) id).c 4
    have HE4 := hide he4
    have HD4 := hide hd4
    clear hd4 he4
    refine Code.wp_mono (Q := Only (fun a' w' => ∃ v5 g5 cap5 w5, v5 = .slice (some ⟨g5, 0, none⟩) (es.length + 1) cap5 ∧ w' = w5.setCell ⟨r, 4, none⟩ v5 ∧ a' = { tmps := #[ptr r, .int .i64 i, undef, undef, ptr w.heap.size, .int .i64 0, .int .i64 k, ptr (w.heap.size + 1), .slice a1 k cap1, ptr r, .int .i64 i, .int .i64 k, .int .i64 k, .bool (decide ((k : Int) < 0)), undef, ptr r, ptr r, .pointer (some ⟨r, 3, none⟩), .slice (some ⟨g, 0, none⟩) l.length cap, .int .i64 k, .pointer (some ⟨g, k * 5, none⟩), .pointer (some ⟨g, k * 5 + 1, none⟩), rct t.x t.y t.a t.b, .slice none 0 0, ptr r, ptr r, .pointer (some ⟨r, 3, none⟩), .slice (some ⟨g, 0, none⟩) l.length cap, .int .i64 k, .slice (some ⟨g, 0, none⟩) k cap, .slice a1 k cap1, ptr r, .slice a1 k cap1, ptr r, ptr r, .pointer (some ⟨r, 3, none⟩), .slice (some ⟨g, 0, none⟩) l.length cap, .int .i64 k, .int .i64 (k + 1), .slice (some ⟨g, (k + 1) * 5, none⟩) (l.length - (k + 1)) (cap - (k + 1)), .slice a2 (k + (l.length - (k + 1))) cap2, ptr r, .pointer (some ⟨r, 3, none⟩), ptr r, ptr r, ptr r, .pointer (some ⟨r, 4, none⟩), ev, rct t.x t.y t.a t.b, .slice (some ⟨w4.heap.size, 0, none⟩) 1 1, v5, ptr r, .pointer (some ⟨r, 4, none⟩), undef], defers := [] } ∧ (w4.alloc (.cells #[.int .i64 t.x, .int .i64 t.y, .int .i64 t.a, .int .i64 t.b] 43)).drew.grownBy w5 ev.ownBlock ∧ w5.ownsRow 0 43 4 v5 (es.length + 1) (es.flatMap Rc.cs ++ t.foot.cs) ∧ (v5.ownBlock = ev.ownBlock ∨ v5.ownBlock = some (w4.alloc (.cells #[.int .i64 t.x, .int .i64 t.y, .int .i64 t.a, .int .i64 t.b] 43)).drew.heap.size))) ?rest ?_
    case rest =>
      rintro (_ | _ | _ | _ | _) a' w' hO
      all_goals first | exact hO.elim | skip
      obtain ⟨v5, g5, cap5, w5, rfl, rfl, rfl, hg5, hown5, hloc5⟩ := hO
      obtain ⟨hd5, hd6, he6, T6, hn6⟩ := edits_end (f := t.foot) HD4.out HE4.out hg5 hown5 hloc5
      have F6 := (F4.turned T6 (fun h => h.elim (fun h => by omega) (hevn _ (.inr rfl))))
      have G6 := (G4.turned T6 (fun h => h.elim (fun h => by omega) (hevn _ (.inl rfl))))
      have hl6 := Hl4.out.kept T6 (fun b e h => h.elim (fun h => by subst h; exact HD4.out.ne_row Hl4.out (by decide) e) (fun h => rows_ne Hl4.out HE4.out (by decide) e h))
      obtain ⟨w6, hw6⟩ : ∃ w6, w5.setCell ⟨r, 4, none⟩ (.slice (some ⟨g5, 0, none⟩) (es.length + 1) cap5) = w6 := ⟨_, rfl⟩
      rw [hw6] at hd6 he6 T6 F6 G6 hl6 ⊢
      clear hw6 hg5 hown5 hloc5 hd5 hS0 hS1 hS2 hS3 c4 c4' hTX
      obtain ⟨⟨x0, x1, x2, x3⟩, -, xz⟩ := id F6
      obtain ⟨⟨y0, y1, y2, y3⟩, ⟨y4, y5, y6, y7⟩, yz⟩ := id G6
      have HEnd : RefRazed w r W H tv ev l es k t ((((w6.setCell ⟨w.heap.size, 0, none⟩ (.int .i64 t.x)).setCell ⟨w.heap.size, 1, none⟩ (.int .i64 t.y)).setCell ⟨w.heap.size, 2, none⟩ (.int .i64 t.a)).setCell ⟨w.heap.size, 3, none⟩ (.int .i64 t.b)) := by
        have TE : Turns (fun j => j = w.heap.size) w6 ((((w6.setCell ⟨w.heap.size, 0, none⟩ (.int .i64 t.x)).setCell ⟨w.heap.size, 1, none⟩ (.int .i64 t.y)).setCell ⟨w.heap.size, 2, none⟩ (.int .i64 t.a)).setCell ⟨w.heap.size, 3, none⟩ (.int .i64 t.b)) := turns_set4 _ _ _ _ _ _
        refine ⟨_, _, hd6.kept TE (by omega), hl6.kept TE (fun b e h => ?_), he6.kept TE (fun b e h => ?_), ?_, fun b e => (by have := HN.out b e; omega), fun b e => ?_⟩
        · have := HN.out b e; omega
        · rcases hn6 b e with h7 | h7; exact hevn _ (.inl h) h7; have := F4.2.2; omega
        · exact ((HT4.out.mono (fun j _ h => .inl h)).trans (T6.mono (fun j _ h => .inl h))).trans (TE.mono (fun j _ h => .inr (by omega)))
        · exact (hn6 b e).imp id (fun h => Nat.le_trans hz4 h)
      have HEE := hide HEnd
      clear HEnd hd6 he6 T6 F6 G6 hl6 hn6 HD4 HE4 Hl4 HT4 HN
      go_wp2_with fail
      refine bodyPost_ret (v := .tuple #[rct t.x t.y t.a t.b, .int .i64 0]) (by simp [results, Try.results48, go_sem, y0, y1, y2, y3]) rfl ⟨rfl, HEE.out⟩
    refine wp_region_held_drew (S := fun w' => (w'.cell? ⟨w.heap.size + 1, 0, none⟩ = some (.int .i64 t.x) ∧ w'.cell? ⟨w.heap.size + 1, 1, none⟩ = some (.int .i64 t.y) ∧ w'.cell? ⟨w.heap.size + 1, 2, none⟩ = some (.int .i64 t.a) ∧ w'.cell? ⟨w.heap.size + 1, 3, none⟩ = some (.int .i64 t.b))) (by kernel_rfl) hS0 (fun hHeld => ?_)
    refine wpAnyH_take (i := 0) (v := ?_) rfl (by kernel_rfl) (by kernel_rfl) (by kernel_rfl) (fun _ _ _ h => h.elim) (Or.inl ⟨by rfl, ?_⟩) (by assumption) ?_
    rotate_left
    · intro wx hSw
      try dsimp only at hSw
      go_simp
      try with_reducible rfl
    try simp only [Act.put, List.getElem_toArray, List.getElem_cons_zero, List.setIfInBounds_toArray, List.set_cons_zero, List.set_cons_succ]
    refine wpAnyH_take (i := 1) (v := ?_) rfl (by kernel_rfl) (by kernel_rfl) (by kernel_rfl) (fun _ _ _ h => h.elim) (Or.inl ⟨by rfl, ?_⟩) (by assumption) ?_
    rotate_left
    · intro wx hSw
      try dsimp only at hSw
      go_simp
      try with_reducible rfl
    try simp only [Act.put, List.getElem_toArray, List.getElem_cons_zero, List.getElem_cons_succ, List.setIfInBounds_toArray, List.set_cons_zero, List.set_cons_succ]
    refine wpAnyH_take (i := 2) (v := ?_) rfl (by kernel_rfl) (by kernel_rfl) (by kernel_rfl) (fun _ _ _ h => h.elim) (Or.inl ⟨by rfl, ?_⟩) (by assumption) ?_
    rotate_left
    · intro wx hSw
      try dsimp only at hSw
      go_simp
      try with_reducible rfl
    try simp only [Act.put, List.getElem_toArray, List.getElem_cons_zero, List.getElem_cons_succ, List.setIfInBounds_toArray, List.set_cons_zero, List.set_cons_succ]
    refine wpAnyH_take (i := 3) (v := ?_) rfl (by kernel_rfl) (by kernel_rfl) (by kernel_rfl) (fun _ _ _ h => h.elim) (Or.inl ⟨by rfl, ?_⟩) (by assumption) ?_
    rotate_left
    · intro wx hSw
      try dsimp only at hSw
      go_simp
      try with_reducible rfl
    try simp only [Act.put, List.getElem_toArray, List.getElem_cons_zero, List.getElem_cons_succ, List.setIfInBounds_toArray, List.set_cons_zero, List.set_cons_succ]
    refine wpAnyH_take (i := 5) (v := ?_) rfl (by kernel_rfl) (by kernel_rfl) (by kernel_rfl) (fun _ _ _ h => h.elim) (Or.inl ⟨by rfl, ?_⟩) (by assumption) ?_
    rotate_left
    · intro wx hSw
      try dsimp only at hSw
      go_simp
      try with_reducible rfl
    try simp only [Act.put, List.getElem_toArray, List.getElem_cons_zero, List.getElem_cons_succ, List.setIfInBounds_toArray, List.set_cons_zero, List.set_cons_succ]
    refine wpAnyH_ready (rs := [4, 6]) (by kernel_rfl) (by simp) ?_
    refine AllReadyH.cons rfl (fun K hK => ?_) ?_
    · go_simp
      refine hK.out _ _ ?_ (fun hHeld => ?_)
      · first | exact hS0 | exact hS1 _ | exact hS2 (by assumption) | exact hS3 (by assumption)
      clear hK K
      try simp only [Act.put, List.getElem_toArray, List.getElem_cons_zero, List.getElem_cons_succ, List.setIfInBounds_toArray, List.set_cons_zero, List.set_cons_succ]
      refine wpAnyH_ready (rs := [6]) (by kernel_rfl) (by simp) ?_
      refine AllReadyH.cons rfl (fun K hK => ?_) ?_
      · go_simp
        refine hK.out _ _ ?_ (fun hHeld => ?_)
        · first | exact hS0 | exact hS1 _ | exact hS2 (by assumption) | exact hS3 (by assumption)
        clear hK K
        try simp only [Act.put, List.getElem_toArray, List.getElem_cons_zero, List.getElem_cons_succ, List.setIfInBounds_toArray, List.set_cons_zero, List.set_cons_succ]
        refine wpAnyH_ready (rs := [7]) (by kernel_rfl) (by simp) ?_
        refine AllReadyH.cons rfl (fun K hK => ?_) ?_
        · refine step_append_row rfl _ _ 48 rfl 43 fj z43 4 32 Try.underlying48 hfj hzj h4 h32 rfl (by decide) ev es.length _ (by simp [Act.eval]) (HE4.out.alloc _) ⟨w4.heap.size, 0, none⟩ 1 1 t.foot.cs (by simp [Act.eval]) rfl (rc_new w4 t.foot) one_rc hmj hes ?_
          intro v' w5 hown hgrow hloc'
          obtain ⟨g5, cap5, rfl⟩ := row_form hown
          have hd5 := HD4.out.kept (hTX hgrow) (HD4.out.ne_row HE4.out (by decide))
          have c45 : w5.cell? ⟨r, 4, none⟩ = some ev := hd5.c 4
          have f45 := hd5.f 4
          refine hK.out _ _ ?_ (fun hHeld => ?_)
          · first | exact hS0 | exact hS1 _ | exact hS2 (by assumption) | exact hS3 (by assumption)
          clear hK K
          try simp only [Act.put, List.getElem_toArray, List.getElem_cons_zero, List.getElem_cons_succ, List.setIfInBounds_toArray, List.set_cons_zero, List.set_cons_succ]
          refine wpAnyH_take (i := 8) (v := ?_) rfl (by kernel_rfl) (by kernel_rfl) (by kernel_rfl) (fun _ _ _ h => h.elim) (Or.inl ⟨by rfl, ?_⟩) (by assumption) ?_
          rotate_left
          · intro wx hSw
            try dsimp only at hSw
            go_simp
            try with_reducible rfl
          try simp only [Act.put, List.getElem_toArray, List.getElem_cons_zero, List.getElem_cons_succ, List.setIfInBounds_toArray, List.set_cons_zero, List.set_cons_succ]
          refine wpAnyH_take (i := 9) (v := ?_) rfl (by kernel_rfl) (by kernel_rfl) (by kernel_rfl) (fun _ _ _ h => h.elim) (Or.inl ⟨by rfl, ?_⟩) (by assumption) ?_
          rotate_left
          · intro wx hSw
            try dsimp only at hSw
            go_simp
            try with_reducible rfl
          try simp only [Act.put, List.getElem_toArray, List.getElem_cons_zero, List.getElem_cons_succ, List.setIfInBounds_toArray, List.set_cons_zero, List.set_cons_succ]
          refine wpAnyH_ready (rs := [10]) (by kernel_rfl) (by simp) ?_
          refine AllReadyH.cons rfl (fun K hK => ?_) ?_
          · go_simp
            refine hK.out _ _ ?_ (fun hHeld => ?_)
            · first | exact hS0 | exact hS1 _ | exact hS2 (by assumption) | exact hS3 (by assumption)
            clear hK K
            try simp only [Act.put, List.getElem_toArray, List.getElem_cons_zero, List.getElem_cons_succ, List.setIfInBounds_toArray, List.set_cons_zero, List.set_cons_succ]
            refine wpAnyH_done (by kernel_rfl) ?_ _
            exact ⟨_, g5, cap5, w5, rfl, rfl, rfl, hgrow, hown, hloc'⟩
          exact AllReadyH.nil
        exact AllReadyH.nil
      exact AllReadyH.nil
    refine AllReadyH.cons rfl (fun K hK => ?_) ?_
    · go_simp
      refine hK.out _ _ ?_ (fun hHeld => ?_)
      · first | exact hS0 | exact hS1 _ | exact hS2 (by assumption) | exact hS3 (by assumption)
      clear hK K
      try simp only [Act.put, List.getElem_toArray, List.getElem_cons_zero, List.getElem_cons_succ, List.setIfInBounds_toArray, List.set_cons_zero, List.set_cons_succ]
      refine wpAnyH_ready (rs := [4]) (by kernel_rfl) (by simp) ?_
      refine AllReadyH.cons rfl (fun K hK => ?_) ?_
      · go_simp
        refine hK.out _ _ ?_ (fun hHeld => ?_)
        · first | exact hS0 | exact hS1 _ | exact hS2 (by assumption) | exact hS3 (by assumption)
        clear hK K
        try simp only [Act.put, List.getElem_toArray, List.getElem_cons_zero, List.getElem_cons_succ, List.setIfInBounds_toArray, List.set_cons_zero, List.set_cons_succ]
        refine wpAnyH_ready (rs := [7]) (by kernel_rfl) (by simp) ?_
        refine AllReadyH.cons rfl (fun K hK => ?_) ?_
        · refine step_append_row rfl _ _ 48 rfl 43 fj z43 4 32 Try.underlying48 hfj hzj h4 h32 rfl (by decide) ev es.length _ (by simp [Act.eval]) (HE4.out.alloc _) ⟨w4.heap.size, 0, none⟩ 1 1 t.foot.cs (by simp [Act.eval]) rfl (rc_new w4 t.foot) one_rc hmj hes ?_
          intro v' w5 hown hgrow hloc'
          obtain ⟨g5, cap5, rfl⟩ := row_form hown
          have hd5 := HD4.out.kept (hTX hgrow) (HD4.out.ne_row HE4.out (by decide))
          have c45 : w5.cell? ⟨r, 4, none⟩ = some ev := hd5.c 4
          have f45 := hd5.f 4
          refine hK.out _ _ ?_ (fun hHeld => ?_)
          · first | exact hS0 | exact hS1 _ | exact hS2 (by assumption) | exact hS3 (by assumption)
          clear hK K
          try simp only [Act.put, List.getElem_toArray, List.getElem_cons_zero, List.getElem_cons_succ, List.setIfInBounds_toArray, List.set_cons_zero, List.set_cons_succ]
          refine wpAnyH_take (i := 8) (v := ?_) rfl (by kernel_rfl) (by kernel_rfl) (by kernel_rfl) (fun _ _ _ h => h.elim) (Or.inl ⟨by rfl, ?_⟩) (by assumption) ?_
          rotate_left
          · intro wx hSw
            try dsimp only at hSw
            go_simp
            try with_reducible rfl
          try simp only [Act.put, List.getElem_toArray, List.getElem_cons_zero, List.getElem_cons_succ, List.setIfInBounds_toArray, List.set_cons_zero, List.set_cons_succ]
          refine wpAnyH_take (i := 9) (v := ?_) rfl (by kernel_rfl) (by kernel_rfl) (by kernel_rfl) (fun _ _ _ h => h.elim) (Or.inl ⟨by rfl, ?_⟩) (by assumption) ?_
          rotate_left
          · intro wx hSw
            try dsimp only at hSw
            go_simp
            try with_reducible rfl
          try simp only [Act.put, List.getElem_toArray, List.getElem_cons_zero, List.getElem_cons_succ, List.setIfInBounds_toArray, List.set_cons_zero, List.set_cons_succ]
          refine wpAnyH_ready (rs := [10]) (by kernel_rfl) (by simp) ?_
          refine AllReadyH.cons rfl (fun K hK => ?_) ?_
          · go_simp
            refine hK.out _ _ ?_ (fun hHeld => ?_)
            · first | exact hS0 | exact hS1 _ | exact hS2 (by assumption) | exact hS3 (by assumption)
            clear hK K
            try simp only [Act.put, List.getElem_toArray, List.getElem_cons_zero, List.getElem_cons_succ, List.setIfInBounds_toArray, List.set_cons_zero, List.set_cons_succ]
            refine wpAnyH_done (by kernel_rfl) ?_ _
            exact ⟨_, g5, cap5, w5, rfl, rfl, rfl, hgrow, hown, hloc'⟩
          exact AllReadyH.nil
        exact AllReadyH.nil
      exact AllReadyH.nil
    exact AllReadyH.nil
end Go.Proofs.Ytobjadfchpgjeaa
