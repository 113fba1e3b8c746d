/-
  The document's Place.
-/
import Derived.Test.YtobjadfchpgjeaaShift
set_option linter.unusedSimpArgs false
namespace Go.Proofs.Ytobjadfchpgjeaa
open Go.RowKit Go.IntWalk
set_option linter.unusedVariables false
set_option maxHeartbeats 1000000 in
theorem refplacew_no (r : Nat) (W H : Int) (tv bv ev : Value) (l : List Bd) (t : Bd) (w : World) (hd : Rd w r W H tv bv ev) (hl : Bds w bv l) (hs : Sorted l) (hlen : l.length ≤ 256) (hc : refcode W H l t ≠ 0) :
    Calls Try.prog 50 #[ptr r, t.v] w fun e w' => e = .returned (.int .i64 (refcode W H l t)) ∧ Below w.heap.size w w' := by
  have B0 : Below w.heap.size w (w.alloc (.cells #[.int .i64 t.id, .int .i64 t.x, .int .i64 t.y, .int .i64 t.a, .int .i64 t.b] 55)) := box1 _ _
  have HM := hide (refmayw_any r W H tv bv ev l t _ (hd.kept (Turns.of_below (S := NoB) B0) id) (hl.kept (Turns.of_below (S := NoB) B0) (fun _ _ => id)) hs hlen)
  obtain ⟨c, hcc⟩ : ∃ c, refcode W H l t = c := ⟨_, rfl⟩
  rw [hcc] at HM hc ⊢
  have hcb : (c == 0) = false := by simp [hc]
  clear hd hl hs hcc
  go_enter Try.func50, Try.ntmps50
  go_wp2_with (go_at_call 49; refine HM.out.mono ?_; rintro e w1 ⟨rfl, hb1⟩)
  go_ret
  exact ⟨rfl, bt B0 hb1⟩
theorem sh_full (l : List Bd) (t : Bd) : sh l t l.length = l ++ [t] := by simp [sh]
/-- A building more, behind a World of the document. -/
theorem built_end {w w1 : World} {r : Nat} {W H : Int} {tv bv ev : Value} {l : List Bd} {t : Bd} {o : Obj} {g cap : Nat} (hd : Rd w r W H tv bv ev) (hl : Bds w bv l) (hg : (w.alloc o).drew.grownBy w1 bv.ownBlock)
    (hown : w1.ownsRow 0 55 5 (.slice (some ⟨g, 0, none⟩) (l.length + 1) cap) (l.length + 1) (l.flatMap Bd.cs ++ t.cs)) (hloc : (Value.slice (some ⟨g, 0, none⟩) (l.length + 1) cap).ownBlock = bv.ownBlock ∨ (Value.slice (some ⟨g, 0, none⟩) (l.length + 1) cap).ownBlock = some (w.alloc o).drew.heap.size) :
    Rd (w1.setCell ⟨r, 3, none⟩ (.slice (some ⟨g, 0, none⟩) (l.length + 1) cap)) r W H tv (.slice (some ⟨g, 0, none⟩) (l.length + 1) cap) ev ∧ Row (w1.setCell ⟨r, 3, none⟩ (.slice (some ⟨g, 0, none⟩) (l.length + 1) cap)) g (l.length + 1) cap (sh l t l.length) ∧
    Turns (fun j => j = r ∨ bv.ownBlock = some j) w (w1.setCell ⟨r, 3, none⟩ (.slice (some ⟨g, 0, none⟩) (l.length + 1) cap)) ∧ (bv.ownBlock = some g ∨ w.heap.size ≤ g) := by
  have T1 : Turns (fun j => bv.ownBlock = some j) w w1 := (Turns.of_below (box1 w o)).trans ((Turns.of_grown (w := (w.alloc o).drew) hg (fun k e => Or.inl e)).undrew)
  have hd1 := hd.kept T1 (hd.ne_row hl (by decide))
  have TS : Turns (fun j => j = r) w1 (w1.setCell ⟨r, 3, none⟩ (.slice (some ⟨g, 0, none⟩) (l.length + 1) cap)) := Turns.set (S := fun j => j = r) w1 (p := ⟨r, 3, none⟩) rfl _
  have hr1 : Row w1 g (l.length + 1) cap (sh l t l.length) := by
    unfold Row
    rw [sh_full, List.flatMap_append]
    simpa using hown
  have hb1 := hr1.bds (sh_len (Nat.le_refl _))
  have hb2 := hb1.kept TS (fun k e h => by subst h; exact hd1.ne_row hb1 (by decide) e)
  refine ⟨hd1.set3 _, ?_, (T1.mono (fun k _ h => .inr h)).trans (TS.mono (fun k _ h => .inl (.inl h))), ?_⟩
  · have := hb2
    unfold Bds at this
    rw [sh_len (Nat.le_refl _)] at this
    exact this
  · rcases hloc with h | h
    · exact .inl (by rw [← h]; rfl)
    · right
      simp [Value.ownBlock] at h
      omega
/-- What the document's Place leaves. -/
def RefPlaced (w : World) (r : Nat) (W H : Int) (tv bv ev : Value) (l : List Bd) (es : List Rc) (t : Bd) (w' : World) : Prop :=
  ∃ bv' ev', Rd w' r W H tv bv' ev' ∧ Bds w' bv' (ins l t) ∧ Rcs w' ev' (es ++ [t.foot]) ∧ Turns (fun j => j = r ∨ bv.ownBlock = some j ∨ ev.ownBlock = some j) w w' ∧ (∀ b, bv'.ownBlock = some b → bv.ownBlock = some b ∨ w.heap.size ≤ b) ∧ (∀ b, ev'.ownBlock = some b → ev.ownBlock = some b ∨ w.heap.size ≤ b)
theorem ne_found {l : List Bd} {i : Int} {k : Nat} {s : Bd} (h : found l i = false) (hs : l[k]? = some s) : s.id ≠ i := fun e => by
  unfold found at h
  rw [List.any_eq_false] at h
  exact h s (List.mem_of_getElem? hs) (by simp [e])
theorem sh_zero {l : List Bd} {t : Bd} (hs : Sorted l) (h1 : ∀ j s, l[j]? = some s → 0 ≤ j → t.id < s.id) : sh l t 0 = ins l t := sh_end hs (Nat.zero_le _) h1 (fun j s _ h => absurd h (by omega))
theorem sh_stop {l : List Bd} {t s : Bd} {m : Nat} (hs : Sorted l) (hk : m + 1 ≤ l.length) (h1 : ∀ j s, l[j]? = some s → m + 1 ≤ j → t.id < s.id) (hsm : l[m]? = some s) (hf : found l t.id = false) (hlt : ¬ t.id < s.id) : sh l t (m + 1) = ins l t :=
  sh_end hs hk h1 (fun j s' hj h => by
    have hjm : j = m := by omega
    subst hjm
    rw [hsm] at hj
    cases hj
    have := ne_found hf hsm
    omega)
theorem sh_next {l : List Bd} {t s : Bd} {m : Nat} (hs : Sorted l) (h1 : ∀ j s, l[j]? = some s → m + 1 ≤ j → t.id < s.id) (hsm : l[m]? = some s) (hlt : t.id < s.id) : ∀ j s, l[j]? = some s → m ≤ j → t.id < s.id := fun j s' hj hm => by
  by_cases e : j = m
  · subst e; rw [hsm] at hj; cases hj; exact hlt
  · exact h1 j s' hj (by omega)
theorem place_fin {w wA w4 wB w5 : World} {r g3 cap3 g5 cap5 k : Nat} {W H : Int} {tv bv ev : Value} {l : List Bd} {es : List Rc} {t : Bd} {o : Obj} (BA : Below w.heap.size w wA) (T4 : Turns (fun j => j = r ∨ bv.ownBlock = some j) wA w4) (hn4 : bv.ownBlock = some g3 ∨ wA.heap.size ≤ g3) (TB : Turns (fun j => j = g3) w4 wB)
    (hdB : Rd wB r W H tv (.slice (some ⟨g3, 0, none⟩) (l.length + 1) cap3) ev) (hrB : Bds wB (.slice (some ⟨g3, 0, none⟩) (sh l t k).length cap3) (sh l t k)) (hk : sh l t k = ins l t) (heB : Rcs wB ev es) (hg5 : (wB.alloc o).drew.grownBy w5 ev.ownBlock)
    (hown5 : w5.ownsRow 0 43 4 (.slice (some ⟨g5, 0, none⟩) (es.length + 1) cap5) (es.length + 1) (es.flatMap Rc.cs ++ t.foot.cs)) (hloc5 : (Value.slice (some ⟨g5, 0, none⟩) (es.length + 1) cap5).ownBlock = ev.ownBlock ∨ (Value.slice (some ⟨g5, 0, none⟩) (es.length + 1) cap5).ownBlock = some (wB.alloc o).drew.heap.size) :
    RefPlaced w r W H tv bv ev l es t (w5.setCell ⟨r, 4, none⟩ (.slice (some ⟨g5, 0, none⟩) (es.length + 1) cap5)) := by
  obtain ⟨hd5, hd6, he6, T6, hn6⟩ := edits_end (f := t.foot) hdB heB hg5 hown5 hloc5
  have z1 := BA.size
  have z2 := T4.size
  have z3 := TB.size
  have hb6 := hrB.kept T6 (fun b e h => h.elim (fun h => by subst h; exact hdB.ne_row hrB (by decide) e) (fun h => rows_ne hrB heB (by decide) e h))
  rw [hk] at hb6
  rw [ins_len] at hb6
  refine ⟨_, _, hd6, hb6, he6, ?_, fun b e => ?_, fun b e => (hn6 b e).imp id (fun h => by omega)⟩
  · refine (((Turns.of_below BA).trans (T4.mono (fun j _ h => .inl (h.elim .inl (fun h => .inr (.inl h)))))).trans (TB.mono (fun j _ h => ?_))).trans (T6.mono (fun j _ h => .inl (h.elim .inl (fun h => .inr (.inr h)))))
    subst h
    rcases hn4 with h | h
    · exact .inl (.inr (.inl h))
    · right; omega
  · simp only [Value.ownBlock, Option.some.injEq] at e
    subst e
    rcases hn4 with h | h
    · exact .inl h
    · right; omega
set_option maxRecDepth 100000 in
set_option maxHeartbeats 8000000 in
theorem refplacew_yes (r : Nat) (W H : Int) (tv bv ev : Value) (l : List Bd) (es : List Rc) (t : Bd) (w : World) (hd : Rd w r W H tv bv ev) (hl : Bds w bv l) (he : Rcs w ev es) (hs : Sorted l) (hlen : l.length ≤ 256) (hes : (es.length + 1) * 32 ≤ 211106232532992) (hc : refcode W H l t = 0) :
    Calls Try.prog 50 #[ptr r, t.v] w fun e w' => e = .returned (.int .i64 0) ∧ RefPlaced w r W H tv bv ev l es t w' := by
  obtain ⟨m1, m2, m3, m4⟩ := refcode_zero hc
  have B0 : Below w.heap.size w (w.alloc (.cells #[.int .i64 t.id, .int .i64 t.x, .int .i64 t.y, .int .i64 t.a, .int .i64 t.b] 55)) := box1 _ _
  have F0 : Five (w.alloc (.cells #[.int .i64 t.id, .int .i64 t.x, .int .i64 t.y, .int .i64 t.a, .int .i64 t.b] 55)) w.heap.size t := heap_alloc_new w _
  have HM := hide (refmayw_any r W H tv bv ev l t _ (hd.kept (Turns.of_below (S := NoB) B0) id) (hl.kept (Turns.of_below (S := NoB) B0) (fun _ _ => id)) hs hlen)
  rw [hc] at HM
  have hrw := hd.lt
  have hrowb := fun k e => (hl.lt k e).2
  have hrowe := fun k e => (he.lt k e).2
  have key : ∀ w1, Below (w.alloc (.cells #[.int .i64 t.id, .int .i64 t.x, .int .i64 t.y, .int .i64 t.a, .int .i64 t.b] 55)).heap.size (w.alloc (.cells #[.int .i64 t.id, .int .i64 t.x, .int .i64 t.y, .int .i64 t.a, .int .i64 t.b] 55)) w1 → Rd w1 r W H tv bv ev ∧ Bds w1 bv l ∧ Five w1 w.heap.size t ∧ Rcs w1 ev es ∧ Below w.heap.size w w1 := fun w1 hb => by
    have T : Turns NoB w w1 := Turns.of_below (bt B0 hb)
    exact ⟨hd.kept T id, hl.kept T (fun _ _ => id), F0.kept (Turns.of_below (S := NoB) hb) id, he.kept T (fun _ _ => id), bt B0 hb⟩
  have HK := hide key
  have HS := hide hs
  have hm2 := m2
  clear key hd hl he hs hc m1 m2 m4
  obtain ⟨fi, hfi, hz, h5, h40⟩ := info_parts info55
  have hmA : l.length + 1 ≤ maxLen := by unfold maxLen; omega
  have hmB : (l.length + 1) * 40 ≤ 211106232532992 := by omega
  go_enter Try.func50, Try.ntmps50
  go_wp2_with (go_at_call 49; refine HM.out.mono ?_; rintro e wA ⟨rfl, hb1⟩)
  obtain ⟨hdA, hlA, F, heA, BA⟩ := HK.out wA hb1
  have wAlt : w.heap.size < wA.heap.size := (Array.getElem?_eq_some_iff.1 F).1
  clear HM HK hb1 F0 B0
  have hfive : ∀ {wx : World}, Five wx w.heap.size t → (wx.cell? ⟨w.heap.size, 0, none⟩ = some (.int .i64 t.id) ∧ wx.cell? ⟨w.heap.size, 1, none⟩ = some (.int .i64 t.x) ∧ wx.cell? ⟨w.heap.size, 2, none⟩ = some (.int .i64 t.y) ∧ wx.cell? ⟨w.heap.size, 3, none⟩ = some (.int .i64 t.a) ∧ wx.cell? ⟨w.heap.size, 4, none⟩ = some (.int .i64 t.b)) := fun {wx} F' => ⟨F'.c 0, F'.c 1, F'.c 2, F'.c 3, F'.c 4⟩
  have hS0 : (wA.cell? ⟨w.heap.size, 0, none⟩ = some (.int .i64 t.id) ∧ wA.cell? ⟨w.heap.size, 1, none⟩ = some (.int .i64 t.x) ∧ wA.cell? ⟨w.heap.size, 2, none⟩ = some (.int .i64 t.y) ∧ wA.cell? ⟨w.heap.size, 3, none⟩ = some (.int .i64 t.a) ∧ wA.cell? ⟨w.heap.size, 4, none⟩ = some (.int .i64 t.b)) := hfive F
  have hS1 : ∀ o, ((wA.alloc o).cell? ⟨w.heap.size, 0, none⟩ = some (.int .i64 t.id) ∧ (wA.alloc o).cell? ⟨w.heap.size, 1, none⟩ = some (.int .i64 t.x) ∧ (wA.alloc o).cell? ⟨w.heap.size, 2, none⟩ = some (.int .i64 t.y) ∧ (wA.alloc o).cell? ⟨w.heap.size, 3, none⟩ = some (.int .i64 t.a) ∧ (wA.alloc o).cell? ⟨w.heap.size, 4, none⟩ = some (.int .i64 t.b)) := fun o => hfive (F.kept (Turns.of_below (S := NoB) (box1 wA o)) id)
  have hbvn : ¬ (bv.ownBlock = some w.heap.size) := fun e => by have := hrowb _ e; omega
  have hTX : ∀ {wx : World} {o : Obj}, (wA.alloc o).drew.grownBy wx bv.ownBlock → Turns (fun k => bv.ownBlock = some k) wA wx := fun {wx o} hg => (Turns.of_below (box1 wA o)).trans ((Turns.of_grown (w := (wA.alloc o).drew) hg (fun k e => Or.inl e)).undrew)
  have hS2 : ∀ {wx : World} {o : Obj}, (wA.alloc o).drew.grownBy wx bv.ownBlock → (wx.cell? ⟨w.heap.size, 0, none⟩ = some (.int .i64 t.id) ∧ wx.cell? ⟨w.heap.size, 1, none⟩ = some (.int .i64 t.x) ∧ wx.cell? ⟨w.heap.size, 2, none⟩ = some (.int .i64 t.y) ∧ wx.cell? ⟨w.heap.size, 3, none⟩ = some (.int .i64 t.a) ∧ wx.cell? ⟨w.heap.size, 4, none⟩ = some (.int .i64 t.b)) := fun {wx o} hg => hfive (F.kept (hTX hg) hbvn)
  have hS3 : ∀ {wx : World} {o : Obj} {v : Value}, (wA.alloc o).drew.grownBy wx bv.ownBlock → ((wx.setCell ⟨r, 3, none⟩ v).cell? ⟨w.heap.size, 0, none⟩ = some (.int .i64 t.id) ∧ (wx.setCell ⟨r, 3, none⟩ v).cell? ⟨w.heap.size, 1, none⟩ = some (.int .i64 t.x) ∧ (wx.setCell ⟨r, 3, none⟩ v).cell? ⟨w.heap.size, 2, none⟩ = some (.int .i64 t.y) ∧ (wx.setCell ⟨r, 3, none⟩ v).cell? ⟨w.heap.size, 3, none⟩ = some (.int .i64 t.a) ∧ (wx.setCell ⟨r, 3, none⟩ v).cell? ⟨w.heap.size, 4, none⟩ = some (.int .i64 t.b)) := fun {wx o v} hg => hfive ((F.kept (hTX hg) hbvn).kept (Turns.set (S := fun k => k = r) wx (p := ⟨r, 3, none⟩) rfl v) (by omega))
  have c3 : wA.cell? ⟨r, 3, none⟩ = some bv := hdA.c 3
  have c3' : ∀ o, (wA.alloc o).cell? ⟨r, 3, none⟩ = some bv := fun o => (hdA.kept (Turns.of_below (S := NoB) (box1 wA o)) id).c 3
  have HDA := hide hdA
  have HLA := hide hlA
  have HEA := hide heA
  clear hdA hlA heA
  go_wp2_with fail
  refine Code.wp_mono (Q := Only (fun a' w' => ∃ v3 g3 cap3 w3, v3 = .slice (some ⟨g3, 0, none⟩) (l.length + 1) cap3 ∧ w' = w3.setCell ⟨r, 3, none⟩ v3 ∧ a' = { tmps := #[ptr r, t.v, undef, ptr w.heap.size, .int .i64 0, .int .i64 0, undef, ptr r, t.v, .int .i64 0, .int .i64 0, .bool false, undef, ptr r, ptr r, ptr r, .pointer (some ⟨r, 3, none⟩), bv, t.v, .slice (some ⟨wA.heap.size, 0, none⟩) 1 1, v3, ptr r, .pointer (some ⟨r, 3, none⟩), undef, undef, undef, undef, undef, undef, undef, undef, undef, undef, undef, undef, undef, undef, undef, undef, undef, undef, undef, undef, undef, undef, undef, undef, undef, undef, undef, undef, undef, undef, undef, undef, undef, undef, undef, undef, undef, undef, undef, undef, undef, undef, undef, undef, undef, undef, undef, undef, undef, undef, undef, undef, undef, undef, undef, undef, undef, undef, undef, undef, undef, undef, undef, undef, undef, undef, undef, undef, undef], defers := [] } ∧ (wA.alloc (.cells #[.int .i64 t.id, .int .i64 t.x, .int .i64 t.y, .int .i64 t.a, .int .i64 t.b] 55)).drew.grownBy w3 bv.ownBlock ∧ w3.ownsRow 0 55 5 v3 (l.length + 1) (l.flatMap Bd.cs ++ t.cs) ∧ (v3.ownBlock = bv.ownBlock ∨ v3.ownBlock = some (wA.alloc (.cells #[.int .i64 t.id, .int .i64 t.x, .int .i64 t.y, .int .i64 t.a, .int .i64 t.b] 55)).drew.heap.size))) ?rest ?_
  case rest =>
    rintro (_ | _ | _ | _ | _) a' w' hO
    all_goals first | exact hO.elim | skip
    obtain ⟨v3, g3, cap3, w3, rfl, rfl, rfl, hg3, hown3, hloc3⟩ := hO
    obtain ⟨hd4, hr4, T4, hn4⟩ := built_end (t := t) HDA.out HLA.out hg3 hown3 hloc3
    have F4 := F.kept T4 (fun h => h.elim (fun h => by omega) hbvn)
    have he4 := HEA.out.kept T4 (fun b e h => h.elim (fun h => by subst h; exact HDA.out.ne_row HEA.out (by decide) e) (fun h => rows_ne HEA.out HLA.out (by decide) e h))
    obtain ⟨w4, hw4⟩ : ∃ w4, w3.setCell ⟨r, 3, none⟩ (.slice (some ⟨g3, 0, none⟩) (l.length + 1) cap3) = w4 := ⟨_, rfl⟩
    rw [hw4] at hd4 hr4 T4 F4 he4 ⊢
    clear hw4 hg3 hown3 hloc3 hS0 hS1 hS2 hS3 hTX c3 c3' F
    have c3 : w4.cell? ⟨r, 3, none⟩ = some (.slice (some ⟨g3, 0, none⟩) (l.length + 1) cap3) := hd4.c 3
    have hrg : r ≠ g3 := fun h => by subst h; exact hd4.ne_row (hr4.bds (sh_len (Nat.le_refl _))) (by decide) rfl
    have hFg : w.heap.size ≠ g3 := fun h => by have hBA := BA.size; have := (Array.getElem?_eq_some_iff.1 F4).1; rcases hn4 with h7 | h7; have := hrowb _ h7; omega; have := wAlt; omega
    have hll : (0 : Int) ≤ (l.length : Nat) ∧ ((l.length : Nat) : Int) < 256 := by omega
    have heg : ∀ b, ev.ownBlock = some b → b ≠ g3 := fun b e h => by subst h; exact rows_ne he4 (hr4.bds (sh_len (Nat.le_refl _))) (by decide) e rfl
    have hevn : ¬ (ev.ownBlock = some w.heap.size) := fun e => by have := hrowe _ e; omega
    obtain ⟨fj, hfj, hzj, h4, h32⟩ := info_parts info43
    have hmj : es.length + 1 ≤ maxLen := by unfold maxLen; omega
    have HD4 := hide hd4
    have HE4 := hide he4
    have HT4 := hide T4
    have HN4 := hide hn4
    clear hd4 he4 T4 hn4
    go_wp2_with fail
    go_loopw [6] (fun p wr => ∃ k : Nat, k ≤ l.length ∧ p = .int .i64 k ∧ (∀ j s, l[j]? = some s → k ≤ j → t.id < s.id) ∧ Row wr g3 (l.length + 1) cap3 (sh l t k) ∧ Turns (fun j => j = g3) w4 wr) (fun p _ => (intOf p).toNat)
    case atStart => exact ⟨l.length, Nat.le_refl _, by go_num, fun j s hj hk => absurd (List.getElem?_eq_some_iff.1 hj).1 (by omega), hr4, Turns.refl _ _⟩
    case round =>
      clear hr4
      obtain ⟨k, hk, rfl, hgt, hrow, hT⟩ := hrel
      have hne := lat_some wr
      have hdr := HD4.out.kept hT hrg
      have her := HE4.out.kept hT (fun b e h => heg b e h)
      have Fr := F4.kept hT hFg
      have hrw' := hdr.lt
      have c3r : ∀ n : Lat wr, n.w.cell? ⟨r, 3, none⟩ = some (.slice (some ⟨g3, 0, none⟩) (l.length + 1) cap3) := fun n => (hdr.kept (Turns.of_below (S := NoB) n.h) id).c 3
      have hgl : g3 < wr.heap.size := (World.ownsRow.lt hrow g3 rfl).2
      by_cases hk0 : k = 0
      · subst hk0
        have hz0 : ¬ (0 : Int) < ((0 : Nat) : Int) := by simp
        have HG := hide hgt
        clear hgt
        go_wp2_with fail
        refine wp_region_lat (by kernel_rfl) (by kernel_rfl) ?_
        repeat (go_big_quiet_step (fail))
        refine wpQuiet_nil ?_
        rintro _ ⟨n, rfl⟩
        go_wp2_with fail
        have hEnd := hide (sh_zero HS.out HG.out)
        have BN := n.h
        have hdB := hdr.kept (Turns.of_below (S := NoB) BN) id
        have heB := her.kept (Turns.of_below (S := NoB) BN) (fun _ _ => id)
        have FB := Fr.kept (Turns.of_below (S := NoB) BN) id
        have hrB : Bds n.w _ _ := (hrow.bds (sh_len hk)).kept (Turns.of_below (S := NoB) BN) (fun _ _ => id)
        have TB : Turns (fun j => j = g3) w4 n.w := hT.trans (Turns.of_below BN)
        obtain ⟨wB, hwB⟩ : ∃ wB, n.w = wB := ⟨_, rfl⟩
        rw [hwB] at hdB heB FB hrB TB ⊢
        have HDB := hide hdB
        have HEB := hide heB
        have HRB := hide hrB
        have HTB := hide TB
        clear hwB BN n hdr her Fr hrow hT c3r hne hgl hrw'
        have hS0 : (wB.cell? ⟨w.heap.size, 0, none⟩ = some (.int .i64 t.id) ∧ wB.cell? ⟨w.heap.size, 1, none⟩ = some (.int .i64 t.x) ∧ wB.cell? ⟨w.heap.size, 2, none⟩ = some (.int .i64 t.y) ∧ wB.cell? ⟨w.heap.size, 3, none⟩ = some (.int .i64 t.a) ∧ wB.cell? ⟨w.heap.size, 4, none⟩ = some (.int .i64 t.b)) := hfive FB
        have hS1 : ∀ o, ((wB.alloc o).cell? ⟨w.heap.size, 0, none⟩ = some (.int .i64 t.id) ∧ (wB.alloc o).cell? ⟨w.heap.size, 1, none⟩ = some (.int .i64 t.x) ∧ (wB.alloc o).cell? ⟨w.heap.size, 2, none⟩ = some (.int .i64 t.y) ∧ (wB.alloc o).cell? ⟨w.heap.size, 3, none⟩ = some (.int .i64 t.a) ∧ (wB.alloc o).cell? ⟨w.heap.size, 4, none⟩ = some (.int .i64 t.b)) := fun o => hfive (FB.kept (Turns.of_below (S := NoB) (box1 wB o)) id)
        have hTX : ∀ {wx : World} {o : Obj}, (wB.alloc o).drew.grownBy wx ev.ownBlock → Turns (fun k => ev.ownBlock = some k) wB wx := fun {wx o} hg => (Turns.of_below (box1 wB o)).trans ((Turns.of_grown (w := (wB.alloc o).drew) hg (fun k e => Or.inl e)).undrew)
        have hS2 : ∀ {wx : World} {o : Obj}, (wB.alloc o).drew.grownBy wx ev.ownBlock → (wx.cell? ⟨w.heap.size, 0, none⟩ = some (.int .i64 t.id) ∧ wx.cell? ⟨w.heap.size, 1, none⟩ = some (.int .i64 t.x) ∧ wx.cell? ⟨w.heap.size, 2, none⟩ = some (.int .i64 t.y) ∧ wx.cell? ⟨w.heap.size, 3, none⟩ = some (.int .i64 t.a) ∧ wx.cell? ⟨w.heap.size, 4, none⟩ = some (.int .i64 t.b)) := fun {wx o} hg => hfive (FB.kept (hTX hg) hevn)
        have hS3 : ∀ {wx : World} {o : Obj} {v : Value}, (wB.alloc o).drew.grownBy wx ev.ownBlock → ((wx.setCell ⟨r, 4, none⟩ v).cell? ⟨w.heap.size, 0, none⟩ = some (.int .i64 t.id) ∧ (wx.setCell ⟨r, 4, none⟩ v).cell? ⟨w.heap.size, 1, none⟩ = some (.int .i64 t.x) ∧ (wx.setCell ⟨r, 4, none⟩ v).cell? ⟨w.heap.size, 2, none⟩ = some (.int .i64 t.y) ∧ (wx.setCell ⟨r, 4, none⟩ v).cell? ⟨w.heap.size, 3, none⟩ = some (.int .i64 t.a) ∧ (wx.setCell ⟨r, 4, none⟩ v).cell? ⟨w.heap.size, 4, none⟩ = some (.int .i64 t.b)) := fun {wx o v} hg => hfive ((FB.kept (hTX hg) hevn).kept (Turns.set (S := fun k => k = r) wx (p := ⟨r, 4, none⟩) rfl v) (by omega))
        have c4 : wB.cell? ⟨r, 4, none⟩ = some ev := hdB.c 4
        have c4' : ∀ o, (wB.alloc o).cell? ⟨r, 4, none⟩ = some ev := fun o => (hdB.kept (Turns.of_below (S := NoB) (box1 wB o)) id).c 4
        clear hdB heB hrB TB
        refine Code.wp_mono (Q := Only (fun a' w' => ∃ g5 cap5 w5, w' = w5.setCell ⟨r, 4, none⟩ (.slice (some ⟨g5, 0, none⟩) (es.length + 1) cap5) ∧ (wB.alloc (.cells #[.int .i64 t.x, .int .i64 t.y, .int .i64 t.a, .int .i64 t.b] 43)).drew.grownBy w5 ev.ownBlock ∧ w5.ownsRow 0 43 4 (.slice (some ⟨g5, 0, none⟩) (es.length + 1) cap5) (es.length + 1) (es.flatMap Rc.cs ++ t.foot.cs) ∧ ((Value.slice (some ⟨g5, 0, none⟩) (es.length + 1) cap5).ownBlock = ev.ownBlock ∨ (Value.slice (some ⟨g5, 0, none⟩) (es.length + 1) cap5).ownBlock = some (wB.alloc (.cells #[.int .i64 t.x, .int .i64 t.y, .int .i64 t.a, .int .i64 t.b] 43)).drew.heap.size) ∧ ∃ s0 s1 s2 s3 s4 s5 s6 s7 s8 s9 s10 s11 s12 s13 s14 s15 s16 s17 s18 s19 s20 s21 s22 s23 s24 s25 s26 s27 s28 s29 s30 s31 s32 s33 s34 s35 s36 s37 s38 s39 s40 s41 s42 s43 s44 s45 s46 s47 s48 s49 s50 s51 s52 s53 s54 s55 s56 s57 s58 s59 s60 s61 s62 s63 s64 s65 s66 s67 s68 s69 s70 s71 s72 s73 s74 s75 s76 s77 s78 s79 s80 s81 s82 s83 s84 s85 s86 s87 s88 s89 s90 s91 : Value, a' = { tmps := #[s0, s1, s2, s3, s4, s5, s6, s7, s8, s9, s10, s11, s12, s13, s14, s15, s16, s17, s18, s19, s20, s21, s22, s23, s24, s25, s26, s27, s28, s29, s30, s31, s32, s33, s34, s35, s36, s37, s38, s39, s40, s41, s42, s43, s44, s45, s46, s47, s48, s49, s50, s51, s52, s53, s54, s55, s56, s57, s58, s59, s60, s61, s62, s63, s64, s65, s66, s67, s68, s69, s70, s71, s72, s73, s74, s75, s76, s77, s78, s79, s80, s81, s82, s83, s84, s85, s86, s87, s88, s89, s90, s91], defers := [] })) ?rest ?_
        case rest =>
          rintro (_ | _ | _ | _ | _) a' w' hO
          all_goals first | exact hO.elim | skip
          obtain ⟨g5, cap5, w5, rfl, hg5, hown5, hloc5, s0, s1, s2, s3, s4, s5, s6, s7, s8, s9, s10, s11, s12, s13, s14, s15, s16, s17, s18, s19, s20, s21, s22, s23, s24, s25, s26, s27, s28, s29, s30, s31, s32, s33, s34, s35, s36, s37, s38, s39, s40, s41, s42, s43, s44, s45, s46, s47, s48, s49, s50, s51, s52, s53, s54, s55, s56, s57, s58, s59, s60, s61, s62, s63, s64, s65, s66, s67, s68, s69, s70, s71, s72, s73, s74, s75, s76, s77, s78, s79, s80, s81, s82, s83, s84, s85, s86, s87, s88, s89, s90, s91, rfl⟩ := hO
          have HF := hide (place_fin BA HT4.out HN4.out HTB.out HDB.out HRB.out hEnd.out HEB.out hg5 hown5 hloc5)
          clear hg5 hown5 hloc5 hS0 hS1 hS2 hS3 hTX c4 c4'
          go_wp2_with fail
          go_ret
          exact ⟨rfl, HF.out⟩
        refine wp_region_held_drew (S := fun w' => (w'.cell? ⟨w.heap.size, 0, none⟩ = some (.int .i64 t.id) ∧ w'.cell? ⟨w.heap.size, 1, none⟩ = some (.int .i64 t.x) ∧ w'.cell? ⟨w.heap.size, 2, none⟩ = some (.int .i64 t.y) ∧ w'.cell? ⟨w.heap.size, 3, none⟩ = some (.int .i64 t.a) ∧ w'.cell? ⟨w.heap.size, 4, none⟩ = some (.int .i64 t.b))) (by kernel_rfl) hS0 (fun hHeld => ?_)
        refine wpAnyH_take (i := 0) (v := ?_) rfl (by kernel_rfl) (by kernel_rfl) (by kernel_rfl) (fun _ _ _ h => h.elim) (Or.inl ⟨by rfl, ?_⟩) (by assumption) ?_
        rotate_left
        · intro wx hSw
          try dsimp only at hSw
          go_simp
          try with_reducible rfl
        try simp only [Act.put, List.getElem_toArray, List.getElem_cons_zero, List.getElem_cons_succ, List.setIfInBounds_toArray, List.set_cons_zero, List.set_cons_succ]
        refine wpAnyH_take (i := 1) (v := ?_) rfl (by kernel_rfl) (by kernel_rfl) (by kernel_rfl) (fun _ _ _ h => h.elim) (Or.inl ⟨by rfl, ?_⟩) (by assumption) ?_
        rotate_left
        · intro wx hSw
          try dsimp only at hSw
          go_simp
          try with_reducible rfl
        try simp only [Act.put, List.getElem_toArray, List.getElem_cons_zero, List.getElem_cons_succ, List.setIfInBounds_toArray, List.set_cons_zero, List.set_cons_succ]
        refine wpAnyH_take (i := 2) (v := ?_) rfl (by kernel_rfl) (by kernel_rfl) (by kernel_rfl) (fun _ _ _ h => h.elim) (Or.inl ⟨by rfl, ?_⟩) (by assumption) ?_
        rotate_left
        · intro wx hSw
          try dsimp only at hSw
          go_simp
          try with_reducible rfl
        try simp only [Act.put, List.getElem_toArray, List.getElem_cons_zero, List.getElem_cons_succ, List.setIfInBounds_toArray, List.set_cons_zero, List.set_cons_succ]
        refine wpAnyH_take (i := 3) (v := ?_) rfl (by kernel_rfl) (by kernel_rfl) (by kernel_rfl) (fun _ _ _ h => h.elim) (Or.inl ⟨by rfl, ?_⟩) (by assumption) ?_
        rotate_left
        · intro wx hSw
          try dsimp only at hSw
          go_simp
          try with_reducible rfl
        try simp only [Act.put, List.getElem_toArray, List.getElem_cons_zero, List.getElem_cons_succ, List.setIfInBounds_toArray, List.set_cons_zero, List.set_cons_succ]
        refine wpAnyH_take (i := 5) (v := ?_) rfl (by kernel_rfl) (by kernel_rfl) (by kernel_rfl) (fun _ _ _ h => h.elim) (Or.inl ⟨by rfl, ?_⟩) (by assumption) ?_
        rotate_left
        · intro wx hSw
          try dsimp only at hSw
          go_simp
          try with_reducible rfl
        try simp only [Act.put, List.getElem_toArray, List.getElem_cons_zero, List.getElem_cons_succ, List.setIfInBounds_toArray, List.set_cons_zero, List.set_cons_succ]
        refine wpAnyH_take (i := 6) (v := ?_) rfl (by kernel_rfl) (by kernel_rfl) (by kernel_rfl) (fun _ _ _ h => h.elim) (Or.inl ⟨by rfl, ?_⟩) (by assumption) ?_
        rotate_left
        · intro wx hSw
          try dsimp only at hSw
          go_simp
          try with_reducible rfl
        try simp only [Act.put, List.getElem_toArray, List.getElem_cons_zero, List.getElem_cons_succ, List.setIfInBounds_toArray, List.set_cons_zero, List.set_cons_succ]
        refine wpAnyH_ready (rs := [4, 7]) (by kernel_rfl) (by simp) ?_
        refine AllReadyH.cons rfl (fun K hK => ?_) ?_
        · go_simp
          refine hK.out _ _ ?_ (fun hHeld => ?_)
          · first | exact hS0 | exact hS1 _ | exact hS2 (by assumption) | exact hS3 (by assumption)
          clear hK K
          try simp only [Act.put, List.getElem_toArray, List.getElem_cons_zero, List.getElem_cons_succ, List.setIfInBounds_toArray, List.set_cons_zero, List.set_cons_succ]
          refine wpAnyH_ready (rs := [7]) (by kernel_rfl) (by simp) ?_
          refine AllReadyH.cons rfl (fun K hK => ?_) ?_
          · go_simp
            refine hK.out _ _ ?_ (fun hHeld => ?_)
            · first | exact hS0 | exact hS1 _ | exact hS2 (by assumption) | exact hS3 (by assumption)
            clear hK K
            try simp only [Act.put, List.getElem_toArray, List.getElem_cons_zero, List.getElem_cons_succ, List.setIfInBounds_toArray, List.set_cons_zero, List.set_cons_succ]
            refine wpAnyH_ready (rs := [8]) (by kernel_rfl) (by simp) ?_
            refine AllReadyH.cons rfl (fun K hK => ?_) ?_
            · refine step_append_row rfl _ _ 48 rfl 43 fj z43 4 32 Try.underlying48 hfj hzj h4 h32 rfl (by decide) ev es.length _ (by simp [Act.eval]) (HEB.out.alloc _) ⟨wB.heap.size, 0, none⟩ 1 1 t.foot.cs (by simp [Act.eval]) rfl (rc_new wB t.foot) one_rc hmj hes ?_
              intro v' w5 hown hgrow hloc'
              obtain ⟨g5, cap5, rfl⟩ := row_form hown
              have hd5 := HDB.out.kept (hTX hgrow) (HDB.out.ne_row HEB.out (by decide))
              have c45 : w5.cell? ⟨r, 4, none⟩ = some ev := hd5.c 4
              have f45 := hd5.f 4
              refine hK.out _ _ ?_ (fun hHeld => ?_)
              · first | exact hS0 | exact hS1 _ | exact hS2 (by assumption) | exact hS3 (by assumption)
              clear hK K
              try simp only [Act.put, List.getElem_toArray, List.getElem_cons_zero, List.getElem_cons_succ, List.setIfInBounds_toArray, List.set_cons_zero, List.set_cons_succ]
              refine wpAnyH_take (i := 9) (v := ?_) rfl (by kernel_rfl) (by kernel_rfl) (by kernel_rfl) (fun _ _ _ h => h.elim) (Or.inl ⟨by rfl, ?_⟩) (by assumption) ?_
              rotate_left
              · intro wx hSw
                try dsimp only at hSw
                go_simp
                try with_reducible rfl
              try simp only [Act.put, List.getElem_toArray, List.getElem_cons_zero, List.getElem_cons_succ, List.setIfInBounds_toArray, List.set_cons_zero, List.set_cons_succ]
              refine wpAnyH_take (i := 10) (v := ?_) rfl (by kernel_rfl) (by kernel_rfl) (by kernel_rfl) (fun _ _ _ h => h.elim) (Or.inl ⟨by rfl, ?_⟩) (by assumption) ?_
              rotate_left
              · intro wx hSw
                try dsimp only at hSw
                go_simp
                try with_reducible rfl
              try simp only [Act.put, List.getElem_toArray, List.getElem_cons_zero, List.getElem_cons_succ, List.setIfInBounds_toArray, List.set_cons_zero, List.set_cons_succ]
              refine wpAnyH_ready (rs := [11]) (by kernel_rfl) (by simp) ?_
              refine AllReadyH.cons rfl (fun K hK => ?_) ?_
              · go_simp
                refine hK.out _ _ ?_ (fun hHeld => ?_)
                · first | exact hS0 | exact hS1 _ | exact hS2 (by assumption) | exact hS3 (by assumption)
                clear hK K
                try simp only [Act.put, List.getElem_toArray, List.getElem_cons_zero, List.getElem_cons_succ, List.setIfInBounds_toArray, List.set_cons_zero, List.set_cons_succ]
                refine wpAnyH_done (by kernel_rfl) ?_ _
                exact ⟨g5, cap5, w5, rfl, hgrow, hown, hloc', _, _, _, _, _, _, _, _, _, _, _, _, _, _, _, _, _, _, _, _, _, _, _, _, _, _, _, _, _, _, _, _, _, _, _, _, _, _, _, _, _, _, _, _, _, _, _, _, _, _, _, _, _, _, _, _, _, _, _, _, _, _, _, _, _, _, _, _, _, _, _, _, _, _, _, _, _, _, _, _, _, _, _, _, _, _, _, _, _, _, _, _, rfl⟩
              exact AllReadyH.nil
            exact AllReadyH.nil
          exact AllReadyH.nil
        refine AllReadyH.cons rfl (fun K hK => ?_) ?_
        · go_simp
          refine hK.out _ _ ?_ (fun hHeld => ?_)
          · first | exact hS0 | exact hS1 _ | exact hS2 (by assumption) | exact hS3 (by assumption)
          clear hK K
          try simp only [Act.put, List.getElem_toArray, List.getElem_cons_zero, List.getElem_cons_succ, List.setIfInBounds_toArray, List.set_cons_zero, List.set_cons_succ]
          refine wpAnyH_ready (rs := [4]) (by kernel_rfl) (by simp) ?_
          refine AllReadyH.cons rfl (fun K hK => ?_) ?_
          · go_simp
            refine hK.out _ _ ?_ (fun hHeld => ?_)
            · first | exact hS0 | exact hS1 _ | exact hS2 (by assumption) | exact hS3 (by assumption)
            clear hK K
            try simp only [Act.put, List.getElem_toArray, List.getElem_cons_zero, List.getElem_cons_succ, List.setIfInBounds_toArray, List.set_cons_zero, List.set_cons_succ]
            refine wpAnyH_ready (rs := [8]) (by kernel_rfl) (by simp) ?_
            refine AllReadyH.cons rfl (fun K hK => ?_) ?_
            · refine step_append_row rfl _ _ 48 rfl 43 fj z43 4 32 Try.underlying48 hfj hzj h4 h32 rfl (by decide) ev es.length _ (by simp [Act.eval]) (HEB.out.alloc _) ⟨wB.heap.size, 0, none⟩ 1 1 t.foot.cs (by simp [Act.eval]) rfl (rc_new wB t.foot) one_rc hmj hes ?_
              intro v' w5 hown hgrow hloc'
              obtain ⟨g5, cap5, rfl⟩ := row_form hown
              have hd5 := HDB.out.kept (hTX hgrow) (HDB.out.ne_row HEB.out (by decide))
              have c45 : w5.cell? ⟨r, 4, none⟩ = some ev := hd5.c 4
              have f45 := hd5.f 4
              refine hK.out _ _ ?_ (fun hHeld => ?_)
              · first | exact hS0 | exact hS1 _ | exact hS2 (by assumption) | exact hS3 (by assumption)
              clear hK K
              try simp only [Act.put, List.getElem_toArray, List.getElem_cons_zero, List.getElem_cons_succ, List.setIfInBounds_toArray, List.set_cons_zero, List.set_cons_succ]
              refine wpAnyH_take (i := 9) (v := ?_) rfl (by kernel_rfl) (by kernel_rfl) (by kernel_rfl) (fun _ _ _ h => h.elim) (Or.inl ⟨by rfl, ?_⟩) (by assumption) ?_
              rotate_left
              · intro wx hSw
                try dsimp only at hSw
                go_simp
                try with_reducible rfl
              try simp only [Act.put, List.getElem_toArray, List.getElem_cons_zero, List.getElem_cons_succ, List.setIfInBounds_toArray, List.set_cons_zero, List.set_cons_succ]
              refine wpAnyH_take (i := 10) (v := ?_) rfl (by kernel_rfl) (by kernel_rfl) (by kernel_rfl) (fun _ _ _ h => h.elim) (Or.inl ⟨by rfl, ?_⟩) (by assumption) ?_
              rotate_left
              · intro wx hSw
                try dsimp only at hSw
                go_simp
                try with_reducible rfl
              try simp only [Act.put, List.getElem_toArray, List.getElem_cons_zero, List.getElem_cons_succ, List.setIfInBounds_toArray, List.set_cons_zero, List.set_cons_succ]
              refine wpAnyH_ready (rs := [11]) (by kernel_rfl) (by simp) ?_
              refine AllReadyH.cons rfl (fun K hK => ?_) ?_
              · go_simp
                refine hK.out _ _ ?_ (fun hHeld => ?_)
                · first | exact hS0 | exact hS1 _ | exact hS2 (by assumption) | exact hS3 (by assumption)
                clear hK K
                try simp only [Act.put, List.getElem_toArray, List.getElem_cons_zero, List.getElem_cons_succ, List.setIfInBounds_toArray, List.set_cons_zero, List.set_cons_succ]
                refine wpAnyH_done (by kernel_rfl) ?_ _
                exact ⟨g5, cap5, w5, rfl, hgrow, hown, hloc', _, _, _, _, _, _, _, _, _, _, _, _, _, _, _, _, _, _, _, _, _, _, _, _, _, _, _, _, _, _, _, _, _, _, _, _, _, _, _, _, _, _, _, _, _, _, _, _, _, _, _, _, _, _, _, _, _, _, _, _, _, _, _, _, _, _, _, _, _, _, _, _, _, _, _, _, _, _, _, _, _, _, _, _, _, _, _, _, _, _, _, _, rfl⟩
              exact AllReadyH.nil
            exact AllReadyH.nil
          exact AllReadyH.nil
        exact AllReadyH.nil
      · obtain ⟨m, rfl⟩ : ∃ m, k = m + 1 := ⟨k - 1, by omega⟩
        obtain ⟨s, hsm⟩ : ∃ s, l[m]? = some s := ⟨_, List.getElem?_eq_getElem (by omega)⟩
        obtain ⟨⟨p0, p1, p2, p3, p4⟩, hfz⟩ := Row.at hrow (sh_at hk)
        obtain ⟨⟨q0, q1, q2, q3, q4⟩, -⟩ := Row.at hrow (sh_before hk hsm)
        have e0 : ∀ n : Lat wr, n.w.cell? ⟨g3, (m + 1) * 5, none⟩ = some (.int .i64 t.id) := fun n => (n.h.cell (p := ⟨g3, (m + 1) * 5, none⟩) hgl).trans p0
        have e1 : ∀ n : Lat wr, n.w.cell? ⟨g3, m * 5, none⟩ = some (.int .i64 s.id) := fun n => (n.h.cell (p := ⟨g3, m * 5, none⟩) hgl).trans q0
        have hmi : (0 : Int) < ((m + 1 : Nat) : Int) ∧ ((m + 1 : Nat) : Int) < ((l.length + 1 : Nat) : Int) ∧ ((m : Nat) : Int) < ((l.length + 1 : Nat) : Int) := by omega
        have HG := hide hgt
        have HSM := hide hsm
        clear hgt hsm hk0
        by_cases hlt : t.id < s.id
        · have hltd : decide (t.id < s.id) = true := decide_eq_true hlt
          go_wp2_with fail
          refine wp_region_lat (by kernel_rfl) (by kernel_rfl) ?_
          repeat (go_big_quiet_step (fail))
          refine wpQuiet_nil ?_
          rintro _ ⟨n, rfl⟩
          clear e0 e1 c3r
          go_wp2_with fail
          have BN := n.h
          have hdB := hdr.kept (Turns.of_below (S := NoB) BN) id
          have hrB : Row n.w g3 (l.length + 1) cap3 (sh l t (m + 1)) := by have := (hrow.bds (sh_len hk)).kept (Turns.of_below (S := NoB) BN) (fun _ _ => id); unfold Bds at this; rw [sh_len hk] at this; exact this
          have TB : Turns (fun j => j = g3) w4 n.w := hT.trans (Turns.of_below BN)
          obtain ⟨wB, hwB⟩ : ∃ wB, n.w = wB := ⟨_, rfl⟩
          rw [hwB] at hdB hrB TB ⊢
          clear hwB BN n hdr her Fr hrow hT hne hgl p0 p1 p2 p3 p4 q0 q1 q2 q3 q4 hfz hrw'
          obtain ⟨⟨p0, p1, p2, p3, p4⟩, hfz⟩ := Row.at hrB (sh_at hk)
          obtain ⟨⟨q0, q1, q2, q3, q4⟩, -⟩ := Row.at hrB (sh_before hk HSM.out)
          obtain ⟨V, hV⟩ : ∃ V, (((((wB.setCell ⟨g3, (m + 1) * 5, none⟩ (.int .i64 s.id)).setCell ⟨g3, (m + 1) * 5 + 1, none⟩ (.int .i64 s.x)).setCell ⟨g3, (m + 1) * 5 + 2, none⟩ (.int .i64 s.y)).setCell ⟨g3, (m + 1) * 5 + 3, none⟩ (.int .i64 s.a)).setCell ⟨g3, (m + 1) * 5 + 4, none⟩ (.int .i64 s.b)) = V := ⟨_, rfl⟩
          have hrV := Row.set hrB (j := m + 1) (by rw [sh_len hk]; omega) s
          rw [hV] at hrV
          have TV : Turns (fun j => j = g3) wB V := by rw [← hV]; exact turns_set5 _ _ _ _ _ _ _ _ _ _ _ _
          obtain ⟨⟨v0, v1, v2, v3, v4⟩, hfV⟩ := Row.at hrV (j := m) (s := s) (by rw [List.getElem?_set_ne (by omega)]; exact sh_before hk HSM.out)
          have hdV := hdB.kept TV hrg
          obtain ⟨U, hU⟩ : ∃ U, (((((V.setCell ⟨g3, m * 5, none⟩ (.int .i64 t.id)).setCell ⟨g3, m * 5 + 1, none⟩ (.int .i64 t.x)).setCell ⟨g3, m * 5 + 2, none⟩ (.int .i64 t.y)).setCell ⟨g3, m * 5 + 3, none⟩ (.int .i64 t.a)).setCell ⟨g3, m * 5 + 4, none⟩ (.int .i64 t.b)) = U := ⟨_, rfl⟩
          have hrU := Row.set hrV (j := m) (by rw [List.length_set, sh_len hk]; omega) t
          rw [hU, sh_swap hk HSM.out] at hrU
          have TU : Turns (fun j => j = g3) V U := by rw [← hU]; exact turns_set5 _ _ _ _ _ _ _ _ _ _ _ _
          have hdU := hdV.kept TU hrg
          have TT : Turns (fun j => j = g3) w4 U := (TB.trans (TV.mono (fun _ _ h => .inl h))).trans (TU.mono (fun _ _ h => .inl h))
          have hS0 : wB.cell? ⟨r, 3, none⟩ = some (.slice (some ⟨g3, 0, none⟩) (l.length + 1) cap3) := hdB.c 3
          have hS1 : V.cell? ⟨r, 3, none⟩ = some (.slice (some ⟨g3, 0, none⟩) (l.length + 1) cap3) := hdV.c 3
          have hS2 : U.cell? ⟨r, 3, none⟩ = some (.slice (some ⟨g3, 0, none⟩) (l.length + 1) cap3) := hdU.c 3
          have hw1 : IntKind.i64.wrap ((m : Nat) : Int) = (m : Int) := i64_in _ (by omega)
          have hi1 : (0 : Int) ≤ (m : Int) := by omega
          have hi2 : (m : Int) < (l.length : Int) + 1 := by omega
          have hi3 : (m : Int) < (l.length : Int) := by omega
          have hi4 : (0 : Int) ≤ (m : Int) + 1 := by omega
          have hi5 : ((m : Int) + 1).toNat = m + 1 := by omega
          have HRU := hide hrU
          have HTT := hide TT
          have HV := hide hV
          have HU := hide hU
          clear hdB hrB TB hrV TV hdV hrU TU hdU TT hV hU c3
          refine Code.wp_mono (Q := Only (fun a' w' => w' = U.drew ∧ ∃ s29 s30 s31 s32 s33 s34 s35 s36 s37 s38 s39 s40 s41 s42 s43 s44 s45 s46 s47 s48 s49 s50 s51 s52 s53 s54 s55 s56 s57 s58 s59 s60 s61 s62 s63 s64 s65 s66 s67 s68 s69 s70 s71 s72 s73 s74 s75 s76 s77 s78 s79 s80 : Value, a' = { tmps := #[ptr r, t.v, undef, ptr w.heap.size, .int .i64 0, .int .i64 0, .int .i64 ((m + 1 : Nat) : Int), ptr r, t.v, .int .i64 0, .int .i64 0, .bool false, undef, ptr r, ptr r, ptr r, .pointer (some ⟨r, 3, none⟩), bv, t.v, .slice (some ⟨wA.heap.size, 0, none⟩) 1 1, (.slice (some ⟨g3, 0, none⟩) (l.length + 1) cap3), ptr r, .pointer (some ⟨r, 3, none⟩), ptr r, ptr r, .pointer (some ⟨r, 3, none⟩), (.slice (some ⟨g3, 0, none⟩) (l.length + 1) cap3), .int .i64 ((l.length : Int) + 1), .int .i64 (l.length : Int), s29, s30, s31, s32, s33, s34, s35, s36, s37, s38, s39, s40, s41, s42, s43, s44, s45, s46, s47, s48, s49, s50, s51, s52, s53, s54, s55, s56, s57, s58, s59, s60, s61, s62, s63, s64, s65, s66, s67, s68, s69, s70, s71, s72, s73, s74, s75, s76, s77, s78, s79, s80, undef, undef, undef, undef, undef, undef, undef, undef, undef, undef, undef], defers := [] })) ?rest ?_
          case rest =>
            rintro (_ | _ | _ | _ | _) a' w' hO
            all_goals first | exact hO.elim | skip
            obtain ⟨rfl, s29, s30, s31, s32, s33, s34, s35, s36, s37, s38, s39, s40, s41, s42, s43, s44, s45, s46, s47, s48, s49, s50, s51, s52, s53, s54, s55, s56, s57, s58, s59, s60, s61, s62, s63, s64, s65, s66, s67, s68, s69, s70, s71, s72, s73, s74, s75, s76, s77, s78, s79, s80, rfl⟩ := hO
            clear hS0 hS1 hS2 p0 p1 p2 p3 p4 q0 q1 q2 q3 q4 hfz v0 v1 v2 v3 v4 hfV HV HU
            go_wp2_with fail
            go_roundw
            case rel =>
              exact ⟨.int .i64 ((m : Nat) : Int), s29, s30, s31, s32, s33, s34, s35, s36, s37, s38, s39, s40, s41, s42, s43, s44, s45, s46, s47, s48, s49, s50, _, _, s53, s54, s55, s56, s57, s58, s59, s60, s61, s62, s63, s64, s65, s66, s67, s68, s69, s70, s71, s72, s73, s74, s75, s76, s77, s78, s79, s80, ⟨m, by omega, rfl, sh_next HS.out HG.out HSM.out hlt, HRU.out, HTT.out.drew⟩, rfl⟩
            case measure => simp [intOf]
          refine wp_region_held_drew (S := fun w' => w'.cell? ⟨r, 3, none⟩ = some (.slice (some ⟨g3, 0, none⟩) (l.length + 1) cap3)) (by kernel_rfl) hS0 (fun hHeld => ?_)
          refine wpAnyH_take (i := 0) (v := ?_) rfl (by kernel_rfl) (by kernel_rfl) (by kernel_rfl) (fun _ _ _ h => h.elim) (Or.inl ⟨by rfl, ?_⟩) (by assumption) ?_
          rotate_left
          · intro wx hSw
            try dsimp only at hSw
            go_simp
            try with_reducible rfl
          try simp only [Act.put, List.getElem_toArray, List.getElem_cons_zero, List.getElem_cons_succ, List.setIfInBounds_toArray, List.set_cons_zero, List.set_cons_succ]
          refine wpAnyH_take (i := 1) (v := ?_) rfl (by kernel_rfl) (by kernel_rfl) (by kernel_rfl) (fun _ _ _ h => h.elim) (Or.inl ⟨by rfl, ?_⟩) (by assumption) ?_
          rotate_left
          · intro wx hSw
            try dsimp only at hSw
            go_simp
            try with_reducible rfl
          try simp only [Act.put, List.getElem_toArray, List.getElem_cons_zero, List.getElem_cons_succ, List.setIfInBounds_toArray, List.set_cons_zero, List.set_cons_succ]
          refine wpAnyH_take (i := 2) (v := ?_) rfl (by kernel_rfl) (by kernel_rfl) (by kernel_rfl) (fun _ _ _ h => h.elim) (Or.inl ⟨by rfl, ?_⟩) (by assumption) ?_
          rotate_left
          · intro wx hSw
            try dsimp only at hSw
            go_simp
            try with_reducible rfl
          try simp only [Act.put, List.getElem_toArray, List.getElem_cons_zero, List.getElem_cons_succ, List.setIfInBounds_toArray, List.set_cons_zero, List.set_cons_succ]
          refine wpAnyH_take (i := 3) (v := ?_) rfl (by kernel_rfl) (by kernel_rfl) (by kernel_rfl) (fun _ _ _ h => h.elim) (Or.inl ⟨by rfl, ?_⟩) (by assumption) ?_
          rotate_left
          · intro wx hSw
            try dsimp only at hSw
            go_simp
            try with_reducible rfl
          try simp only [Act.put, List.getElem_toArray, List.getElem_cons_zero, List.getElem_cons_succ, List.setIfInBounds_toArray, List.set_cons_zero, List.set_cons_succ]
          refine wpAnyH_take (i := 4) (v := ?_) rfl (by kernel_rfl) (by kernel_rfl) (by kernel_rfl) (fun _ _ _ h => h.elim) (Or.inl ⟨by rfl, ?_⟩) (by assumption) ?_
          rotate_left
          · intro wx hSw
            try dsimp only at hSw
            go_simp
            try with_reducible rfl
          try simp only [Act.put, List.getElem_toArray, List.getElem_cons_zero, List.getElem_cons_succ, List.setIfInBounds_toArray, List.set_cons_zero, List.set_cons_succ]
          refine wpAnyH_take (i := 5) (v := ?_) rfl (by kernel_rfl) (by kernel_rfl) (by kernel_rfl) (fun _ _ _ h => h.elim) (Or.inl ⟨by rfl, ?_⟩) (by assumption) ?_
          rotate_left
          · intro wx hSw
            try dsimp only at hSw
            go_simp
            try with_reducible rfl
          try simp only [Act.put, List.getElem_toArray, List.getElem_cons_zero, List.getElem_cons_succ, List.setIfInBounds_toArray, List.set_cons_zero, List.set_cons_succ]
          refine wpAnyH_take (i := 6) (v := ?_) rfl (by kernel_rfl) (by kernel_rfl) (by kernel_rfl) (fun _ _ _ h => h.elim) (Or.inl ⟨by rfl, ?_⟩) (by assumption) ?_
          rotate_left
          · intro wx hSw
            try dsimp only at hSw
            go_simp
            try with_reducible rfl
          try simp only [Act.put, List.getElem_toArray, List.getElem_cons_zero, List.getElem_cons_succ, List.setIfInBounds_toArray, List.set_cons_zero, List.set_cons_succ]
          refine wpAnyH_take (i := 7) (v := ?_) rfl (by kernel_rfl) (by kernel_rfl) (by kernel_rfl) (fun _ _ _ h => h.elim) (Or.inl ⟨by rfl, ?_⟩) (by assumption) ?_
          rotate_left
          · intro wx hSw
            try dsimp only at hSw
            go_simp
            try with_reducible rfl
          try simp only [Act.put, List.getElem_toArray, List.getElem_cons_zero, List.getElem_cons_succ, List.setIfInBounds_toArray, List.set_cons_zero, List.set_cons_succ]
          refine wpAnyH_take (i := 8) (v := ?_) rfl (by kernel_rfl) (by kernel_rfl) (by kernel_rfl) (fun _ _ _ h => h.elim) (Or.inl ⟨by rfl, ?_⟩) (by assumption) ?_
          rotate_left
          · intro wx hSw
            try dsimp only at hSw
            go_simp
            try with_reducible rfl
          try simp only [Act.put, List.getElem_toArray, List.getElem_cons_zero, List.getElem_cons_succ, List.setIfInBounds_toArray, List.set_cons_zero, List.set_cons_succ]
          refine wpAnyH_take (i := 9) (v := ?_) rfl (by kernel_rfl) (by kernel_rfl) (by kernel_rfl) (fun _ _ _ h => h.elim) (Or.inl ⟨by rfl, ?_⟩) (by assumption) ?_
          rotate_left
          · intro wx hSw
            try dsimp only at hSw
            go_simp
            try with_reducible rfl
          try simp only [Act.put, List.getElem_toArray, List.getElem_cons_zero, List.getElem_cons_succ, List.setIfInBounds_toArray, List.set_cons_zero, List.set_cons_succ]
          refine wpAnyH_take (i := 10) (v := ?_) rfl (by kernel_rfl) (by kernel_rfl) (by kernel_rfl) (fun _ _ _ h => h.elim) (Or.inl ⟨by rfl, ?_⟩) (by assumption) ?_
          rotate_left
          · intro wx hSw
            try dsimp only at hSw
            go_simp
            try with_reducible rfl
          try simp only [Act.put, List.getElem_toArray, List.getElem_cons_zero, List.getElem_cons_succ, List.setIfInBounds_toArray, List.set_cons_zero, List.set_cons_succ]
          refine wpAnyH_take (i := 11) (v := ?_) rfl (by kernel_rfl) (by kernel_rfl) (by kernel_rfl) (fun _ _ _ h => h.elim) (Or.inl ⟨by rfl, ?_⟩) (by assumption) ?_
          rotate_left
          · intro wx hSw
            try dsimp only at hSw
            go_simp
            try with_reducible rfl
          try simp only [Act.put, List.getElem_toArray, List.getElem_cons_zero, List.getElem_cons_succ, List.setIfInBounds_toArray, List.set_cons_zero, List.set_cons_succ]
          refine wpAnyH_take (i := 12) (v := ?_) rfl (by kernel_rfl) (by kernel_rfl) (by kernel_rfl) (fun _ _ _ h => h.elim) (Or.inl ⟨by rfl, ?_⟩) (by assumption) ?_
          rotate_left
          · intro wx hSw
            try dsimp only at hSw
            go_simp
            try with_reducible rfl
          try simp only [Act.put, List.getElem_toArray, List.getElem_cons_zero, List.getElem_cons_succ, List.setIfInBounds_toArray, List.set_cons_zero, List.set_cons_succ]
          refine wpAnyH_take (i := 13) (v := ?_) rfl (by kernel_rfl) (by kernel_rfl) (by kernel_rfl) (fun _ _ _ h => h.elim) (Or.inl ⟨by rfl, ?_⟩) (by assumption) ?_
          rotate_left
          · intro wx hSw
            try dsimp only at hSw
            go_simp
            try with_reducible rfl
          try simp only [Act.put, List.getElem_toArray, List.getElem_cons_zero, List.getElem_cons_succ, List.setIfInBounds_toArray, List.set_cons_zero, List.set_cons_succ]
          refine wpAnyH_take (i := 14) (v := ?_) rfl (by kernel_rfl) (by kernel_rfl) (by kernel_rfl) (fun _ _ _ h => h.elim) (Or.inl ⟨by rfl, ?_⟩) (by assumption) ?_
          rotate_left
          · intro wx hSw
            try dsimp only at hSw
            go_simp
            try with_reducible rfl
          try simp only [Act.put, List.getElem_toArray, List.getElem_cons_zero, List.getElem_cons_succ, List.setIfInBounds_toArray, List.set_cons_zero, List.set_cons_succ]
          refine wpAnyH_take (i := 15) (v := ?_) rfl (by kernel_rfl) (by kernel_rfl) (by kernel_rfl) (fun _ _ _ h => h.elim) (Or.inl ⟨by rfl, ?_⟩) (by assumption) ?_
          rotate_left
          · intro wx hSw
            try dsimp only at hSw
            go_simp
            try with_reducible rfl
          try simp only [Act.put, List.getElem_toArray, List.getElem_cons_zero, List.getElem_cons_succ, List.setIfInBounds_toArray, List.set_cons_zero, List.set_cons_succ]
          refine wpAnyH_take (i := 16) (v := ?_) rfl (by kernel_rfl) (by kernel_rfl) (by kernel_rfl) (fun _ _ _ h => h.elim) (Or.inl ⟨by rfl, ?_⟩) (by assumption) ?_
          rotate_left
          · intro wx hSw
            try dsimp only at hSw
            go_simp
            try with_reducible rfl
          try simp only [Act.put, List.getElem_toArray, List.getElem_cons_zero, List.getElem_cons_succ, List.setIfInBounds_toArray, List.set_cons_zero, List.set_cons_succ]
          refine wpAnyH_take (i := 17) (v := ?_) rfl (by kernel_rfl) (by kernel_rfl) (by kernel_rfl) (fun _ _ _ h => h.elim) (Or.inl ⟨by rfl, ?_⟩) (by assumption) ?_
          rotate_left
          · intro wx hSw
            try dsimp only at hSw
            go_simp
            try with_reducible rfl
          try simp only [Act.put, List.getElem_toArray, List.getElem_cons_zero, List.getElem_cons_succ, List.setIfInBounds_toArray, List.set_cons_zero, List.set_cons_succ]
          refine wpAnyH_take (i := 19) (v := ?_) rfl (by kernel_rfl) (by kernel_rfl) (by kernel_rfl) (fun _ _ _ h => h.elim) (Or.inl ⟨by rfl, ?_⟩) (by assumption) ?_
          rotate_left
          · intro wx hSw
            try dsimp only at hSw
            go_simp
            try with_reducible rfl
          try simp only [Act.put, List.getElem_toArray, List.getElem_cons_zero, List.getElem_cons_succ, List.setIfInBounds_toArray, List.set_cons_zero, List.set_cons_succ]
          refine wpAnyH_take (i := 20) (v := ?_) rfl (by kernel_rfl) (by kernel_rfl) (by kernel_rfl) (fun _ _ _ h => h.elim) (Or.inl ⟨by rfl, ?_⟩) (by assumption) ?_
          rotate_left
          · intro wx hSw
            try dsimp only at hSw
            go_simp
            try with_reducible rfl
          try simp only [Act.put, List.getElem_toArray, List.getElem_cons_zero, List.getElem_cons_succ, List.setIfInBounds_toArray, List.set_cons_zero, List.set_cons_succ]
          refine wpAnyH_take (i := 21) (v := ?_) rfl (by kernel_rfl) (by kernel_rfl) (by kernel_rfl) (fun _ _ _ h => h.elim) (Or.inl ⟨by rfl, ?_⟩) (by assumption) ?_
          rotate_left
          · intro wx hSw
            try dsimp only at hSw
            go_simp
            try with_reducible rfl
          try simp only [Act.put, List.getElem_toArray, List.getElem_cons_zero, List.getElem_cons_succ, List.setIfInBounds_toArray, List.set_cons_zero, List.set_cons_succ]
          refine wpAnyH_take (i := 22) (v := ?_) rfl (by kernel_rfl) (by kernel_rfl) (by kernel_rfl) (fun _ _ _ h => h.elim) (Or.inl ⟨by rfl, ?_⟩) (by assumption) ?_
          rotate_left
          · intro wx hSw
            try dsimp only at hSw
            go_simp
            try with_reducible rfl
          try simp only [Act.put, List.getElem_toArray, List.getElem_cons_zero, List.getElem_cons_succ, List.setIfInBounds_toArray, List.set_cons_zero, List.set_cons_succ]
          refine wpAnyH_take (i := 23) (v := ?_) rfl (by kernel_rfl) (by kernel_rfl) (by kernel_rfl) (fun _ _ _ h => h.elim) (Or.inl ⟨by rfl, ?_⟩) (by assumption) ?_
          rotate_left
          · intro wx hSw
            try dsimp only at hSw
            go_simp
            try with_reducible rfl
          try simp only [Act.put, List.getElem_toArray, List.getElem_cons_zero, List.getElem_cons_succ, List.setIfInBounds_toArray, List.set_cons_zero, List.set_cons_succ]
          refine wpAnyH_take (i := 24) (v := ?_) rfl (by kernel_rfl) (by kernel_rfl) (by kernel_rfl) (fun _ _ _ h => h.elim) (Or.inl ⟨by rfl, ?_⟩) (by assumption) ?_
          rotate_left
          · intro wx hSw
            try dsimp only at hSw
            go_simp
            try with_reducible rfl
          try simp only [Act.put, List.getElem_toArray, List.getElem_cons_zero, List.getElem_cons_succ, List.setIfInBounds_toArray, List.set_cons_zero, List.set_cons_succ]
          refine wpAnyH_ready (rs := [18, 25]) (by kernel_rfl) (by simp) ?_
          refine AllReadyH.cons rfl (fun K hK => ?_) ?_
          · go_simp
            refine hK.out _ _ ?_ (fun hHeld => ?_)
            · first | exact hS0 | exact hS1 | exact hS2
            clear hK K
            try simp only [Act.put, List.getElem_toArray, List.getElem_cons_zero, List.getElem_cons_succ, List.setIfInBounds_toArray, List.set_cons_zero, List.set_cons_succ]
            refine wpAnyH_ready (rs := [25]) (by kernel_rfl) (by simp) ?_
            refine AllReadyH.cons rfl (fun K hK => ?_) ?_
            · go_simp
              refine hK.out _ _ ?_ (fun hHeld => ?_)
              · first | exact hS0 | exact hS1 | exact hS2
              clear hK K
              try simp only [Act.put, List.getElem_toArray, List.getElem_cons_zero, List.getElem_cons_succ, List.setIfInBounds_toArray, List.set_cons_zero, List.set_cons_succ]
              refine wpAnyH_take (i := 26) (v := ?_) rfl (by kernel_rfl) (by kernel_rfl) (by kernel_rfl) (fun _ _ _ h => h.elim) (Or.inl ⟨by rfl, ?_⟩) (by assumption) ?_
              rotate_left
              · intro wx hSw
                try dsimp only at hSw
                go_simp
                try with_reducible rfl
              try simp only [Act.put, List.getElem_toArray, List.getElem_cons_zero, List.getElem_cons_succ, List.setIfInBounds_toArray, List.set_cons_zero, List.set_cons_succ]
              refine wpAnyH_ready (rs := [27]) (by kernel_rfl) (by simp) ?_
              refine AllReadyH.cons rfl (fun K hK => ?_) ?_
              · go_simp
                rw [HV.out]
                refine hK.out _ _ ?_ (fun hHeld => ?_)
                · first | exact hS0 | exact hS1 | exact hS2
                clear hK K
                try simp only [Act.put, List.getElem_toArray, List.getElem_cons_zero, List.getElem_cons_succ, List.setIfInBounds_toArray, List.set_cons_zero, List.set_cons_succ]
                refine wpAnyH_take (i := 28) (v := ?_) rfl (by kernel_rfl) (by kernel_rfl) (by kernel_rfl) (fun _ _ _ h => h.elim) (Or.inl ⟨by rfl, ?_⟩) (by assumption) ?_
                rotate_left
                · intro wx hSw
                  try dsimp only at hSw
                  go_simp
                  try with_reducible rfl
                try simp only [Act.put, List.getElem_toArray, List.getElem_cons_zero, List.getElem_cons_succ, List.setIfInBounds_toArray, List.set_cons_zero, List.set_cons_succ]
                refine wpAnyH_ready (rs := [29]) (by kernel_rfl) (by simp) ?_
                refine AllReadyH.cons rfl (fun K hK => ?_) ?_
                · go_simp
                  rw [HU.out]
                  refine hK.out _ _ ?_ (fun hHeld => ?_)
                  · first | exact hS0 | exact hS1 | exact hS2
                  clear hK K
                  try simp only [Act.put, List.getElem_toArray, List.getElem_cons_zero, List.getElem_cons_succ, List.setIfInBounds_toArray, List.set_cons_zero, List.set_cons_succ]
                  refine wpAnyH_done (by kernel_rfl) ?_ _
                  exact ⟨rfl, _, _, _, _, _, _, _, _, _, _, _, _, _, _, _, _, _, _, _, _, _, _, _, _, _, _, _, _, _, _, _, _, _, _, _, _, _, _, _, _, _, _, _, _, _, _, _, _, _, _, _, _, rfl⟩
                exact AllReadyH.nil
              exact AllReadyH.nil
            exact AllReadyH.nil
          refine AllReadyH.cons rfl (fun K hK => ?_) ?_
          · go_simp
            refine hK.out _ _ ?_ (fun hHeld => ?_)
            · first | exact hS0 | exact hS1 | exact hS2
            clear hK K
            try simp only [Act.put, List.getElem_toArray, List.getElem_cons_zero, List.getElem_cons_succ, List.setIfInBounds_toArray, List.set_cons_zero, List.set_cons_succ]
            refine wpAnyH_ready (rs := [18]) (by kernel_rfl) (by simp) ?_
            refine AllReadyH.cons rfl (fun K hK => ?_) ?_
            · go_simp
              refine hK.out _ _ ?_ (fun hHeld => ?_)
              · first | exact hS0 | exact hS1 | exact hS2
              clear hK K
              try simp only [Act.put, List.getElem_toArray, List.getElem_cons_zero, List.getElem_cons_succ, List.setIfInBounds_toArray, List.set_cons_zero, List.set_cons_succ]
              refine wpAnyH_take (i := 26) (v := ?_) rfl (by kernel_rfl) (by kernel_rfl) (by kernel_rfl) (fun _ _ _ h => h.elim) (Or.inl ⟨by rfl, ?_⟩) (by assumption) ?_
              rotate_left
              · intro wx hSw
                try dsimp only at hSw
                go_simp
                try with_reducible rfl
              try simp only [Act.put, List.getElem_toArray, List.getElem_cons_zero, List.getElem_cons_succ, List.setIfInBounds_toArray, List.set_cons_zero, List.set_cons_succ]
              refine wpAnyH_ready (rs := [27]) (by kernel_rfl) (by simp) ?_
              refine AllReadyH.cons rfl (fun K hK => ?_) ?_
              · go_simp
                rw [HV.out]
                refine hK.out _ _ ?_ (fun hHeld => ?_)
                · first | exact hS0 | exact hS1 | exact hS2
                clear hK K
                try simp only [Act.put, List.getElem_toArray, List.getElem_cons_zero, List.getElem_cons_succ, List.setIfInBounds_toArray, List.set_cons_zero, List.set_cons_succ]
                refine wpAnyH_take (i := 28) (v := ?_) rfl (by kernel_rfl) (by kernel_rfl) (by kernel_rfl) (fun _ _ _ h => h.elim) (Or.inl ⟨by rfl, ?_⟩) (by assumption) ?_
                rotate_left
                · intro wx hSw
                  try dsimp only at hSw
                  go_simp
                  try with_reducible rfl
                try simp only [Act.put, List.getElem_toArray, List.getElem_cons_zero, List.getElem_cons_succ, List.setIfInBounds_toArray, List.set_cons_zero, List.set_cons_succ]
                refine wpAnyH_ready (rs := [29]) (by kernel_rfl) (by simp) ?_
                refine AllReadyH.cons rfl (fun K hK => ?_) ?_
                · go_simp
                  rw [HU.out]
                  refine hK.out _ _ ?_ (fun hHeld => ?_)
                  · first | exact hS0 | exact hS1 | exact hS2
                  clear hK K
                  try simp only [Act.put, List.getElem_toArray, List.getElem_cons_zero, List.getElem_cons_succ, List.setIfInBounds_toArray, List.set_cons_zero, List.set_cons_succ]
                  refine wpAnyH_done (by kernel_rfl) ?_ _
                  exact ⟨rfl, _, _, _, _, _, _, _, _, _, _, _, _, _, _, _, _, _, _, _, _, _, _, _, _, _, _, _, _, _, _, _, _, _, _, _, _, _, _, _, _, _, _, _, _, _, _, _, _, _, _, _, _, rfl⟩
                exact AllReadyH.nil
              exact AllReadyH.nil
            exact AllReadyH.nil
          exact AllReadyH.nil
        · have hltd : decide (t.id < s.id) = false := decide_eq_false hlt
          go_wp2_with fail
          refine wp_region_lat (by kernel_rfl) (by kernel_rfl) ?_
          repeat (go_big_quiet_step (fail))
          refine wpQuiet_nil ?_
          rintro _ ⟨n, rfl⟩
          clear e0 e1
          go_wp2_with fail
          have hEnd := hide (sh_stop HS.out hk HG.out HSM.out hm2 (by omega))
          have BN := n.h
          have hdB := hdr.kept (Turns.of_below (S := NoB) BN) id
          have heB := her.kept (Turns.of_below (S := NoB) BN) (fun _ _ => id)
          have FB := Fr.kept (Turns.of_below (S := NoB) BN) id
          have hrB : Bds n.w _ _ := (hrow.bds (sh_len hk)).kept (Turns.of_below (S := NoB) BN) (fun _ _ => id)
          have TB : Turns (fun j => j = g3) w4 n.w := hT.trans (Turns.of_below BN)
          obtain ⟨wB, hwB⟩ : ∃ wB, n.w = wB := ⟨_, rfl⟩
          rw [hwB] at hdB heB FB hrB TB ⊢
          have HDB := hide hdB
          have HEB := hide heB
          have HRB := hide hrB
          have HTB := hide TB
          clear hwB BN n hdr her Fr hrow hT c3r hne hgl hrw'
          have hS0 : (wB.cell? ⟨w.heap.size, 0, none⟩ = some (.int .i64 t.id) ∧ wB.cell? ⟨w.heap.size, 1, none⟩ = some (.int .i64 t.x) ∧ wB.cell? ⟨w.heap.size, 2, none⟩ = some (.int .i64 t.y) ∧ wB.cell? ⟨w.heap.size, 3, none⟩ = some (.int .i64 t.a) ∧ wB.cell? ⟨w.heap.size, 4, none⟩ = some (.int .i64 t.b)) := hfive FB
          have hS1 : ∀ o, ((wB.alloc o).cell? ⟨w.heap.size, 0, none⟩ = some (.int .i64 t.id) ∧ (wB.alloc o).cell? ⟨w.heap.size, 1, none⟩ = some (.int .i64 t.x) ∧ (wB.alloc o).cell? ⟨w.heap.size, 2, none⟩ = some (.int .i64 t.y) ∧ (wB.alloc o).cell? ⟨w.heap.size, 3, none⟩ = some (.int .i64 t.a) ∧ (wB.alloc o).cell? ⟨w.heap.size, 4, none⟩ = some (.int .i64 t.b)) := fun o => hfive (FB.kept (Turns.of_below (S := NoB) (box1 wB o)) id)
          have hTX : ∀ {wx : World} {o : Obj}, (wB.alloc o).drew.grownBy wx ev.ownBlock → Turns (fun k => ev.ownBlock = some k) wB wx := fun {wx o} hg => (Turns.of_below (box1 wB o)).trans ((Turns.of_grown (w := (wB.alloc o).drew) hg (fun k e => Or.inl e)).undrew)
          have hS2 : ∀ {wx : World} {o : Obj}, (wB.alloc o).drew.grownBy wx ev.ownBlock → (wx.cell? ⟨w.heap.size, 0, none⟩ = some (.int .i64 t.id) ∧ wx.cell? ⟨w.heap.size, 1, none⟩ = some (.int .i64 t.x) ∧ wx.cell? ⟨w.heap.size, 2, none⟩ = some (.int .i64 t.y) ∧ wx.cell? ⟨w.heap.size, 3, none⟩ = some (.int .i64 t.a) ∧ wx.cell? ⟨w.heap.size, 4, none⟩ = some (.int .i64 t.b)) := fun {wx o} hg => hfive (FB.kept (hTX hg) hevn)
          have hS3 : ∀ {wx : World} {o : Obj} {v : Value}, (wB.alloc o).drew.grownBy wx ev.ownBlock → ((wx.setCell ⟨r, 4, none⟩ v).cell? ⟨w.heap.size, 0, none⟩ = some (.int .i64 t.id) ∧ (wx.setCell ⟨r, 4, none⟩ v).cell? ⟨w.heap.size, 1, none⟩ = some (.int .i64 t.x) ∧ (wx.setCell ⟨r, 4, none⟩ v).cell? ⟨w.heap.size, 2, none⟩ = some (.int .i64 t.y) ∧ (wx.setCell ⟨r, 4, none⟩ v).cell? ⟨w.heap.size, 3, none⟩ = some (.int .i64 t.a) ∧ (wx.setCell ⟨r, 4, none⟩ v).cell? ⟨w.heap.size, 4, none⟩ = some (.int .i64 t.b)) := fun {wx o v} hg => hfive ((FB.kept (hTX hg) hevn).kept (Turns.set (S := fun k => k = r) wx (p := ⟨r, 4, none⟩) rfl v) (by omega))
          have c4 : wB.cell? ⟨r, 4, none⟩ = some ev := hdB.c 4
          have c4' : ∀ o, (wB.alloc o).cell? ⟨r, 4, none⟩ = some ev := fun o => (hdB.kept (Turns.of_below (S := NoB) (box1 wB o)) id).c 4
          clear hdB heB hrB TB
          refine Code.wp_mono (Q := Only (fun a' w' => ∃ g5 cap5 w5, w' = w5.setCell ⟨r, 4, none⟩ (.slice (some ⟨g5, 0, none⟩) (es.length + 1) cap5) ∧ (wB.alloc (.cells #[.int .i64 t.x, .int .i64 t.y, .int .i64 t.a, .int .i64 t.b] 43)).drew.grownBy w5 ev.ownBlock ∧ w5.ownsRow 0 43 4 (.slice (some ⟨g5, 0, none⟩) (es.length + 1) cap5) (es.length + 1) (es.flatMap Rc.cs ++ t.foot.cs) ∧ ((Value.slice (some ⟨g5, 0, none⟩) (es.length + 1) cap5).ownBlock = ev.ownBlock ∨ (Value.slice (some ⟨g5, 0, none⟩) (es.length + 1) cap5).ownBlock = some (wB.alloc (.cells #[.int .i64 t.x, .int .i64 t.y, .int .i64 t.a, .int .i64 t.b] 43)).drew.heap.size) ∧ ∃ s0 s1 s2 s3 s4 s5 s6 s7 s8 s9 s10 s11 s12 s13 s14 s15 s16 s17 s18 s19 s20 s21 s22 s23 s24 s25 s26 s27 s28 s29 s30 s31 s32 s33 s34 s35 s36 s37 s38 s39 s40 s41 s42 s43 s44 s45 s46 s47 s48 s49 s50 s51 s52 s53 s54 s55 s56 s57 s58 s59 s60 s61 s62 s63 s64 s65 s66 s67 s68 s69 s70 s71 s72 s73 s74 s75 s76 s77 s78 s79 s80 s81 s82 s83 s84 s85 s86 s87 s88 s89 s90 s91 : Value, a' = { tmps := #[s0, s1, s2, s3, s4, s5, s6, s7, s8, s9, s10, s11, s12, s13, s14, s15, s16, s17, s18, s19, s20, s21, s22, s23, s24, s25, s26, s27, s28, s29, s30, s31, s32, s33, s34, s35, s36, s37, s38, s39, s40, s41, s42, s43, s44, s45, s46, s47, s48, s49, s50, s51, s52, s53, s54, s55, s56, s57, s58, s59, s60, s61, s62, s63, s64, s65, s66, s67, s68, s69, s70, s71, s72, s73, s74, s75, s76, s77, s78, s79, s80, s81, s82, s83, s84, s85, s86, s87, s88, s89, s90, s91], defers := [] })) ?rest ?_
          case rest =>
            rintro (_ | _ | _ | _ | _) a' w' hO
            all_goals first | exact hO.elim | skip
            obtain ⟨g5, cap5, w5, rfl, hg5, hown5, hloc5, s0, s1, s2, s3, s4, s5, s6, s7, s8, s9, s10, s11, s12, s13, s14, s15, s16, s17, s18, s19, s20, s21, s22, s23, s24, s25, s26, s27, s28, s29, s30, s31, s32, s33, s34, s35, s36, s37, s38, s39, s40, s41, s42, s43, s44, s45, s46, s47, s48, s49, s50, s51, s52, s53, s54, s55, s56, s57, s58, s59, s60, s61, s62, s63, s64, s65, s66, s67, s68, s69, s70, s71, s72, s73, s74, s75, s76, s77, s78, s79, s80, s81, s82, s83, s84, s85, s86, s87, s88, s89, s90, s91, rfl⟩ := hO
            have HF := hide (place_fin BA HT4.out HN4.out HTB.out HDB.out HRB.out hEnd.out HEB.out hg5 hown5 hloc5)
            clear hg5 hown5 hloc5 hS0 hS1 hS2 hS3 hTX c4 c4'
            go_wp2_with fail
            go_ret
            exact ⟨rfl, HF.out⟩
          refine wp_region_held_drew (S := fun w' => (w'.cell? ⟨w.heap.size, 0, none⟩ = some (.int .i64 t.id) ∧ w'.cell? ⟨w.heap.size, 1, none⟩ = some (.int .i64 t.x) ∧ w'.cell? ⟨w.heap.size, 2, none⟩ = some (.int .i64 t.y) ∧ w'.cell? ⟨w.heap.size, 3, none⟩ = some (.int .i64 t.a) ∧ w'.cell? ⟨w.heap.size, 4, none⟩ = some (.int .i64 t.b))) (by kernel_rfl) hS0 (fun hHeld => ?_)
          refine wpAnyH_take (i := 0) (v := ?_) rfl (by kernel_rfl) (by kernel_rfl) (by kernel_rfl) (fun _ _ _ h => h.elim) (Or.inl ⟨by rfl, ?_⟩) (by assumption) ?_
          rotate_left
          · intro wx hSw
            try dsimp only at hSw
            go_simp
            try with_reducible rfl
          try simp only [Act.put, List.getElem_toArray, List.getElem_cons_zero, List.getElem_cons_succ, List.setIfInBounds_toArray, List.set_cons_zero, List.set_cons_succ]
          refine wpAnyH_take (i := 1) (v := ?_) rfl (by kernel_rfl) (by kernel_rfl) (by kernel_rfl) (fun _ _ _ h => h.elim) (Or.inl ⟨by rfl, ?_⟩) (by assumption) ?_
          rotate_left
          · intro wx hSw
            try dsimp only at hSw
            go_simp
            try with_reducible rfl
          try simp only [Act.put, List.getElem_toArray, List.getElem_cons_zero, List.getElem_cons_succ, List.setIfInBounds_toArray, List.set_cons_zero, List.set_cons_succ]
          refine wpAnyH_take (i := 2) (v := ?_) rfl (by kernel_rfl) (by kernel_rfl) (by kernel_rfl) (fun _ _ _ h => h.elim) (Or.inl ⟨by rfl, ?_⟩) (by assumption) ?_
          rotate_left
          · intro wx hSw
            try dsimp only at hSw
            go_simp
            try with_reducible rfl
          try simp only [Act.put, List.getElem_toArray, List.getElem_cons_zero, List.getElem_cons_succ, List.setIfInBounds_toArray, List.set_cons_zero, List.set_cons_succ]
          refine wpAnyH_take (i := 3) (v := ?_) rfl (by kernel_rfl) (by kernel_rfl) (by kernel_rfl) (fun _ _ _ h => h.elim) (Or.inl ⟨by rfl, ?_⟩) (by assumption) ?_
          rotate_left
          · intro wx hSw
            try dsimp only at hSw
            go_simp
            try with_reducible rfl
          try simp only [Act.put, List.getElem_toArray, List.getElem_cons_zero, List.getElem_cons_succ, List.setIfInBounds_toArray, List.set_cons_zero, List.set_cons_succ]
          refine wpAnyH_take (i := 5) (v := ?_) rfl (by kernel_rfl) (by kernel_rfl) (by kernel_rfl) (fun _ _ _ h => h.elim) (Or.inl ⟨by rfl, ?_⟩) (by assumption) ?_
          rotate_left
          · intro wx hSw
            try dsimp only at hSw
            go_simp
            try with_reducible rfl
          try simp only [Act.put, List.getElem_toArray, List.getElem_cons_zero, List.getElem_cons_succ, List.setIfInBounds_toArray, List.set_cons_zero, List.set_cons_succ]
          refine wpAnyH_take (i := 6) (v := ?_) rfl (by kernel_rfl) (by kernel_rfl) (by kernel_rfl) (fun _ _ _ h => h.elim) (Or.inl ⟨by rfl, ?_⟩) (by assumption) ?_
          rotate_left
          · intro wx hSw
            try dsimp only at hSw
            go_simp
            try with_reducible rfl
          try simp only [Act.put, List.getElem_toArray, List.getElem_cons_zero, List.getElem_cons_succ, List.setIfInBounds_toArray, List.set_cons_zero, List.set_cons_succ]
          refine wpAnyH_ready (rs := [4, 7]) (by kernel_rfl) (by simp) ?_
          refine AllReadyH.cons rfl (fun K hK => ?_) ?_
          · go_simp
            refine hK.out _ _ ?_ (fun hHeld => ?_)
            · first | exact hS0 | exact hS1 _ | exact hS2 (by assumption) | exact hS3 (by assumption)
            clear hK K
            try simp only [Act.put, List.getElem_toArray, List.getElem_cons_zero, List.getElem_cons_succ, List.setIfInBounds_toArray, List.set_cons_zero, List.set_cons_succ]
            refine wpAnyH_ready (rs := [7]) (by kernel_rfl) (by simp) ?_
            refine AllReadyH.cons rfl (fun K hK => ?_) ?_
            · go_simp
              refine hK.out _ _ ?_ (fun hHeld => ?_)
              · first | exact hS0 | exact hS1 _ | exact hS2 (by assumption) | exact hS3 (by assumption)
              clear hK K
              try simp only [Act.put, List.getElem_toArray, List.getElem_cons_zero, List.getElem_cons_succ, List.setIfInBounds_toArray, List.set_cons_zero, List.set_cons_succ]
              refine wpAnyH_ready (rs := [8]) (by kernel_rfl) (by simp) ?_
              refine AllReadyH.cons rfl (fun K hK => ?_) ?_
              · refine step_append_row rfl _ _ 48 rfl 43 fj z43 4 32 Try.underlying48 hfj hzj h4 h32 rfl (by decide) ev es.length _ (by simp [Act.eval]) (HEB.out.alloc _) ⟨wB.heap.size, 0, none⟩ 1 1 t.foot.cs (by simp [Act.eval]) rfl (rc_new wB t.foot) one_rc hmj hes ?_
                intro v' w5 hown hgrow hloc'
                obtain ⟨g5, cap5, rfl⟩ := row_form hown
                have hd5 := HDB.out.kept (hTX hgrow) (HDB.out.ne_row HEB.out (by decide))
                have c45 : w5.cell? ⟨r, 4, none⟩ = some ev := hd5.c 4
                have f45 := hd5.f 4
                refine hK.out _ _ ?_ (fun hHeld => ?_)
                · first | exact hS0 | exact hS1 _ | exact hS2 (by assumption) | exact hS3 (by assumption)
                clear hK K
                try simp only [Act.put, List.getElem_toArray, List.getElem_cons_zero, List.getElem_cons_succ, List.setIfInBounds_toArray, List.set_cons_zero, List.set_cons_succ]
                refine wpAnyH_take (i := 9) (v := ?_) rfl (by kernel_rfl) (by kernel_rfl) (by kernel_rfl) (fun _ _ _ h => h.elim) (Or.inl ⟨by rfl, ?_⟩) (by assumption) ?_
                rotate_left
                · intro wx hSw
                  try dsimp only at hSw
                  go_simp
                  try with_reducible rfl
                try simp only [Act.put, List.getElem_toArray, List.getElem_cons_zero, List.getElem_cons_succ, List.setIfInBounds_toArray, List.set_cons_zero, List.set_cons_succ]
                refine wpAnyH_take (i := 10) (v := ?_) rfl (by kernel_rfl) (by kernel_rfl) (by kernel_rfl) (fun _ _ _ h => h.elim) (Or.inl ⟨by rfl, ?_⟩) (by assumption) ?_
                rotate_left
                · intro wx hSw
                  try dsimp only at hSw
                  go_simp
                  try with_reducible rfl
                try simp only [Act.put, List.getElem_toArray, List.getElem_cons_zero, List.getElem_cons_succ, List.setIfInBounds_toArray, List.set_cons_zero, List.set_cons_succ]
                refine wpAnyH_ready (rs := [11]) (by kernel_rfl) (by simp) ?_
                refine AllReadyH.cons rfl (fun K hK => ?_) ?_
                · go_simp
                  refine hK.out _ _ ?_ (fun hHeld => ?_)
                  · first | exact hS0 | exact hS1 _ | exact hS2 (by assumption) | exact hS3 (by assumption)
                  clear hK K
                  try simp only [Act.put, List.getElem_toArray, List.getElem_cons_zero, List.getElem_cons_succ, List.setIfInBounds_toArray, List.set_cons_zero, List.set_cons_succ]
                  refine wpAnyH_done (by kernel_rfl) ?_ _
                  exact ⟨g5, cap5, w5, rfl, hgrow, hown, hloc', _, _, _, _, _, _, _, _, _, _, _, _, _, _, _, _, _, _, _, _, _, _, _, _, _, _, _, _, _, _, _, _, _, _, _, _, _, _, _, _, _, _, _, _, _, _, _, _, _, _, _, _, _, _, _, _, _, _, _, _, _, _, _, _, _, _, _, _, _, _, _, _, _, _, _, _, _, _, _, _, _, _, _, _, _, _, _, _, _, _, _, _, rfl⟩
                exact AllReadyH.nil
              exact AllReadyH.nil
            exact AllReadyH.nil
          refine AllReadyH.cons rfl (fun K hK => ?_) ?_
          · go_simp
            refine hK.out _ _ ?_ (fun hHeld => ?_)
            · first | exact hS0 | exact hS1 _ | exact hS2 (by assumption) | exact hS3 (by assumption)
            clear hK K
            try simp only [Act.put, List.getElem_toArray, List.getElem_cons_zero, List.getElem_cons_succ, List.setIfInBounds_toArray, List.set_cons_zero, List.set_cons_succ]
            refine wpAnyH_ready (rs := [4]) (by kernel_rfl) (by simp) ?_
            refine AllReadyH.cons rfl (fun K hK => ?_) ?_
            · go_simp
              refine hK.out _ _ ?_ (fun hHeld => ?_)
              · first | exact hS0 | exact hS1 _ | exact hS2 (by assumption) | exact hS3 (by assumption)
              clear hK K
              try simp only [Act.put, List.getElem_toArray, List.getElem_cons_zero, List.getElem_cons_succ, List.setIfInBounds_toArray, List.set_cons_zero, List.set_cons_succ]
              refine wpAnyH_ready (rs := [8]) (by kernel_rfl) (by simp) ?_
              refine AllReadyH.cons rfl (fun K hK => ?_) ?_
              · refine step_append_row rfl _ _ 48 rfl 43 fj z43 4 32 Try.underlying48 hfj hzj h4 h32 rfl (by decide) ev es.length _ (by simp [Act.eval]) (HEB.out.alloc _) ⟨wB.heap.size, 0, none⟩ 1 1 t.foot.cs (by simp [Act.eval]) rfl (rc_new wB t.foot) one_rc hmj hes ?_
                intro v' w5 hown hgrow hloc'
                obtain ⟨g5, cap5, rfl⟩ := row_form hown
                have hd5 := HDB.out.kept (hTX hgrow) (HDB.out.ne_row HEB.out (by decide))
                have c45 : w5.cell? ⟨r, 4, none⟩ = some ev := hd5.c 4
                have f45 := hd5.f 4
                refine hK.out _ _ ?_ (fun hHeld => ?_)
                · first | exact hS0 | exact hS1 _ | exact hS2 (by assumption) | exact hS3 (by assumption)
                clear hK K
                try simp only [Act.put, List.getElem_toArray, List.getElem_cons_zero, List.getElem_cons_succ, List.setIfInBounds_toArray, List.set_cons_zero, List.set_cons_succ]
                refine wpAnyH_take (i := 9) (v := ?_) rfl (by kernel_rfl) (by kernel_rfl) (by kernel_rfl) (fun _ _ _ h => h.elim) (Or.inl ⟨by rfl, ?_⟩) (by assumption) ?_
                rotate_left
                · intro wx hSw
                  try dsimp only at hSw
                  go_simp
                  try with_reducible rfl
                try simp only [Act.put, List.getElem_toArray, List.getElem_cons_zero, List.getElem_cons_succ, List.setIfInBounds_toArray, List.set_cons_zero, List.set_cons_succ]
                refine wpAnyH_take (i := 10) (v := ?_) rfl (by kernel_rfl) (by kernel_rfl) (by kernel_rfl) (fun _ _ _ h => h.elim) (Or.inl ⟨by rfl, ?_⟩) (by assumption) ?_
                rotate_left
                · intro wx hSw
                  try dsimp only at hSw
                  go_simp
                  try with_reducible rfl
                try simp only [Act.put, List.getElem_toArray, List.getElem_cons_zero, List.getElem_cons_succ, List.setIfInBounds_toArray, List.set_cons_zero, List.set_cons_succ]
                refine wpAnyH_ready (rs := [11]) (by kernel_rfl) (by simp) ?_
                refine AllReadyH.cons rfl (fun K hK => ?_) ?_
                · go_simp
                  refine hK.out _ _ ?_ (fun hHeld => ?_)
                  · first | exact hS0 | exact hS1 _ | exact hS2 (by assumption) | exact hS3 (by assumption)
                  clear hK K
                  try simp only [Act.put, List.getElem_toArray, List.getElem_cons_zero, List.getElem_cons_succ, List.setIfInBounds_toArray, List.set_cons_zero, List.set_cons_succ]
                  refine wpAnyH_done (by kernel_rfl) ?_ _
                  exact ⟨g5, cap5, w5, rfl, hgrow, hown, hloc', _, _, _, _, _, _, _, _, _, _, _, _, _, _, _, _, _, _, _, _, _, _, _, _, _, _, _, _, _, _, _, _, _, _, _, _, _, _, _, _, _, _, _, _, _, _, _, _, _, _, _, _, _, _, _, _, _, _, _, _, _, _, _, _, _, _, _, _, _, _, _, _, _, _, _, _, _, _, _, _, _, _, _, _, _, _, _, _, _, _, _, _, rfl⟩
                exact AllReadyH.nil
              exact AllReadyH.nil
            exact AllReadyH.nil
          exact AllReadyH.nil
  refine wp_region_held_drew (S := fun w' => (w'.cell? ⟨w.heap.size, 0, none⟩ = some (.int .i64 t.id) ∧ w'.cell? ⟨w.heap.size, 1, none⟩ = some (.int .i64 t.x) ∧ w'.cell? ⟨w.heap.size, 2, none⟩ = some (.int .i64 t.y) ∧ w'.cell? ⟨w.heap.size, 3, none⟩ = some (.int .i64 t.a) ∧ w'.cell? ⟨w.heap.size, 4, none⟩ = some (.int .i64 t.b))) (by kernel_rfl) hS0 (fun hHeld => ?_)
  refine wpAnyH_take (i := 0) (v := ?_) rfl (by kernel_rfl) (by kernel_rfl) (by kernel_rfl) (fun _ _ _ h => h.elim) (Or.inl ⟨by rfl, ?_⟩) (by assumption) ?_
  rotate_left
  · intro wx hSw
    try dsimp only at hSw
    go_simp
    try with_reducible rfl
  try simp only [Act.put, List.getElem_toArray, List.getElem_cons_zero, List.getElem_cons_succ, List.setIfInBounds_toArray, List.set_cons_zero, List.set_cons_succ]
  refine wpAnyH_take (i := 1) (v := ?_) rfl (by kernel_rfl) (by kernel_rfl) (by kernel_rfl) (fun _ _ _ h => h.elim) (Or.inl ⟨by rfl, ?_⟩) (by assumption) ?_
  rotate_left
  · intro wx hSw
    try dsimp only at hSw
    go_simp
    try with_reducible rfl
  try simp only [Act.put, List.getElem_toArray, List.getElem_cons_zero, List.getElem_cons_succ, List.setIfInBounds_toArray, List.set_cons_zero, List.set_cons_succ]
  refine wpAnyH_take (i := 2) (v := ?_) rfl (by kernel_rfl) (by kernel_rfl) (by kernel_rfl) (fun _ _ _ h => h.elim) (Or.inl ⟨by rfl, ?_⟩) (by assumption) ?_
  rotate_left
  · intro wx hSw
    try dsimp only at hSw
    go_simp
    try with_reducible rfl
  try simp only [Act.put, List.getElem_toArray, List.getElem_cons_zero, List.getElem_cons_succ, List.setIfInBounds_toArray, List.set_cons_zero, List.set_cons_succ]
  refine wpAnyH_take (i := 3) (v := ?_) rfl (by kernel_rfl) (by kernel_rfl) (by kernel_rfl) (fun _ _ _ h => h.elim) (Or.inl ⟨by rfl, ?_⟩) (by assumption) ?_
  rotate_left
  · intro wx hSw
    try dsimp only at hSw
    go_simp
    try with_reducible rfl
  try simp only [Act.put, List.getElem_toArray, List.getElem_cons_zero, List.getElem_cons_succ, List.setIfInBounds_toArray, List.set_cons_zero, List.set_cons_succ]
  refine wpAnyH_take (i := 5) (v := ?_) rfl (by kernel_rfl) (by kernel_rfl) (by kernel_rfl) (fun _ _ _ h => h.elim) (Or.inl ⟨by rfl, ?_⟩) (by assumption) ?_
  rotate_left
  · intro wx hSw
    try dsimp only at hSw
    go_simp
    try with_reducible rfl
  try simp only [Act.put, List.getElem_toArray, List.getElem_cons_zero, List.getElem_cons_succ, List.setIfInBounds_toArray, List.set_cons_zero, List.set_cons_succ]
  refine wpAnyH_ready (rs := [4, 6]) (by kernel_rfl) (by simp) ?_
  refine AllReadyH.cons rfl (fun K hK => ?_) ?_
  · go_simp
    refine hK.out _ _ ?_ (fun hHeld => ?_)
    · first | exact hS0 | exact hS1 _ | exact hS2 (by assumption) | exact hS3 (by assumption)
    clear hK K
    try simp only [Act.put, List.getElem_toArray, List.getElem_cons_zero, List.getElem_cons_succ, List.setIfInBounds_toArray, List.set_cons_zero, List.set_cons_succ]
    refine wpAnyH_ready (rs := [6]) (by kernel_rfl) (by simp) ?_
    refine AllReadyH.cons rfl (fun K hK => ?_) ?_
    · go_simp
      refine hK.out _ _ ?_ (fun hHeld => ?_)
      · first | exact hS0 | exact hS1 _ | exact hS2 (by assumption) | exact hS3 (by assumption)
      clear hK K
      try simp only [Act.put, List.getElem_toArray, List.getElem_cons_zero, List.getElem_cons_succ, List.setIfInBounds_toArray, List.set_cons_zero, List.set_cons_succ]
      refine wpAnyH_ready (rs := [7]) (by kernel_rfl) (by simp) ?_
      refine AllReadyH.cons rfl (fun K hK => ?_) ?_
      · refine step_append_row rfl _ _ 23 rfl 55 fi z55 5 40 Try.underlying23 hfi hz h5 h40 rfl (by decide) bv l.length _ (by simp [Act.eval]) (HLA.out.alloc _) ⟨wA.heap.size, 0, none⟩ 1 1 t.cs (by simp [Act.eval]) rfl (cells_vb (heap_alloc_new wA _)) one_cs hmA hmB ?_
        intro v' w3 hown hgrow hloc'
        obtain ⟨g3, cap3, rfl⟩ := row_form hown
        have hd3 := HDA.out.kept (hTX hgrow) (HDA.out.ne_row HLA.out (by decide))
        have c33 : w3.cell? ⟨r, 3, none⟩ = some bv := hd3.c 3
        have f33 := hd3.f 3
        refine hK.out _ _ ?_ (fun hHeld => ?_)
        · first | exact hS0 | exact hS1 _ | exact hS2 (by assumption) | exact hS3 (by assumption)
        clear hK K
        try simp only [Act.put, List.getElem_toArray, List.getElem_cons_zero, List.getElem_cons_succ, List.setIfInBounds_toArray, List.set_cons_zero, List.set_cons_succ]
        refine wpAnyH_take (i := 8) (v := ?_) rfl (by kernel_rfl) (by kernel_rfl) (by kernel_rfl) (fun _ _ _ h => h.elim) (Or.inl ⟨by rfl, ?_⟩) (by assumption) ?_
        rotate_left
        · intro wx hSw
          try dsimp only at hSw
          go_simp
          try with_reducible rfl
        try simp only [Act.put, List.getElem_toArray, List.getElem_cons_zero, List.getElem_cons_succ, List.setIfInBounds_toArray, List.set_cons_zero, List.set_cons_succ]
        refine wpAnyH_take (i := 9) (v := ?_) rfl (by kernel_rfl) (by kernel_rfl) (by kernel_rfl) (fun _ _ _ h => h.elim) (Or.inl ⟨by rfl, ?_⟩) (by assumption) ?_
        rotate_left
        · intro wx hSw
          try dsimp only at hSw
          go_simp
          try with_reducible rfl
        try simp only [Act.put, List.getElem_toArray, List.getElem_cons_zero, List.getElem_cons_succ, List.setIfInBounds_toArray, List.set_cons_zero, List.set_cons_succ]
        refine wpAnyH_ready (rs := [10]) (by kernel_rfl) (by simp) ?_
        refine AllReadyH.cons rfl (fun K hK => ?_) ?_
        · go_simp
          refine hK.out _ _ ?_ (fun hHeld => ?_)
          · first | exact hS0 | exact hS1 _ | exact hS2 (by assumption) | exact hS3 (by assumption)
          clear hK K
          try simp only [Act.put, List.getElem_toArray, List.getElem_cons_zero, List.getElem_cons_succ, List.setIfInBounds_toArray, List.set_cons_zero, List.set_cons_succ]
          refine wpAnyH_done (by kernel_rfl) ?_ _
          exact ⟨_, g3, cap3, w3, rfl, rfl, rfl, hgrow, hown, hloc'⟩
        exact AllReadyH.nil
      exact AllReadyH.nil
    exact AllReadyH.nil
  refine AllReadyH.cons rfl (fun K hK => ?_) ?_
  · go_simp
    refine hK.out _ _ ?_ (fun hHeld => ?_)
    · first | exact hS0 | exact hS1 _ | exact hS2 (by assumption) | exact hS3 (by assumption)
    clear hK K
    try simp only [Act.put, List.getElem_toArray, List.getElem_cons_zero, List.getElem_cons_succ, List.setIfInBounds_toArray, List.set_cons_zero, List.set_cons_succ]
    refine wpAnyH_ready (rs := [4]) (by kernel_rfl) (by simp) ?_
    refine AllReadyH.cons rfl (fun K hK => ?_) ?_
    · go_simp
      refine hK.out _ _ ?_ (fun hHeld => ?_)
      · first | exact hS0 | exact hS1 _ | exact hS2 (by assumption) | exact hS3 (by assumption)
      clear hK K
      try simp only [Act.put, List.getElem_toArray, List.getElem_cons_zero, List.getElem_cons_succ, List.setIfInBounds_toArray, List.set_cons_zero, List.set_cons_succ]
      refine wpAnyH_ready (rs := [7]) (by kernel_rfl) (by simp) ?_
      refine AllReadyH.cons rfl (fun K hK => ?_) ?_
      · refine step_append_row rfl _ _ 23 rfl 55 fi z55 5 40 Try.underlying23 hfi hz h5 h40 rfl (by decide) bv l.length _ (by simp [Act.eval]) (HLA.out.alloc _) ⟨wA.heap.size, 0, none⟩ 1 1 t.cs (by simp [Act.eval]) rfl (cells_vb (heap_alloc_new wA _)) one_cs hmA hmB ?_
        intro v' w3 hown hgrow hloc'
        obtain ⟨g3, cap3, rfl⟩ := row_form hown
        have hd3 := HDA.out.kept (hTX hgrow) (HDA.out.ne_row HLA.out (by decide))
        have c33 : w3.cell? ⟨r, 3, none⟩ = some bv := hd3.c 3
        have f33 := hd3.f 3
        refine hK.out _ _ ?_ (fun hHeld => ?_)
        · first | exact hS0 | exact hS1 _ | exact hS2 (by assumption) | exact hS3 (by assumption)
        clear hK K
        try simp only [Act.put, List.getElem_toArray, List.getElem_cons_zero, List.getElem_cons_succ, List.setIfInBounds_toArray, List.set_cons_zero, List.set_cons_succ]
        refine wpAnyH_take (i := 8) (v := ?_) rfl (by kernel_rfl) (by kernel_rfl) (by kernel_rfl) (fun _ _ _ h => h.elim) (Or.inl ⟨by rfl, ?_⟩) (by assumption) ?_
        rotate_left
        · intro wx hSw
          try dsimp only at hSw
          go_simp
          try with_reducible rfl
        try simp only [Act.put, List.getElem_toArray, List.getElem_cons_zero, List.getElem_cons_succ, List.setIfInBounds_toArray, List.set_cons_zero, List.set_cons_succ]
        refine wpAnyH_take (i := 9) (v := ?_) rfl (by kernel_rfl) (by kernel_rfl) (by kernel_rfl) (fun _ _ _ h => h.elim) (Or.inl ⟨by rfl, ?_⟩) (by assumption) ?_
        rotate_left
        · intro wx hSw
          try dsimp only at hSw
          go_simp
          try with_reducible rfl
        try simp only [Act.put, List.getElem_toArray, List.getElem_cons_zero, List.getElem_cons_succ, List.setIfInBounds_toArray, List.set_cons_zero, List.set_cons_succ]
        refine wpAnyH_ready (rs := [10]) (by kernel_rfl) (by simp) ?_
        refine AllReadyH.cons rfl (fun K hK => ?_) ?_
        · go_simp
          refine hK.out _ _ ?_ (fun hHeld => ?_)
          · first | exact hS0 | exact hS1 _ | exact hS2 (by assumption) | exact hS3 (by assumption)
          clear hK K
          try simp only [Act.put, List.getElem_toArray, List.getElem_cons_zero, List.getElem_cons_succ, List.setIfInBounds_toArray, List.set_cons_zero, List.set_cons_succ]
          refine wpAnyH_done (by kernel_rfl) ?_ _
          exact ⟨_, g3, cap3, w3, rfl, rfl, rfl, hgrow, hown, hloc'⟩
        exact AllReadyH.nil
      exact AllReadyH.nil
    exact AllReadyH.nil
  exact AllReadyH.nil
end Go.Proofs.Ytobjadfchpgjeaa
