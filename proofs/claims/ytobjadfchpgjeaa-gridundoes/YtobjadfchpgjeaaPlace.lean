/-
  Place of a World.
-/
import Derived.Test.YtobjadfchpgjeaaMayW
namespace Go.Proofs.Ytobjadfchpgjeaa
open Go.RowKit
set_option linter.unusedVariables false
structure Rc where
  x : Int
  y : Int
  a : Int
  b : Int
def Rc.cs (r : Rc) : List Value := [.int .i64 r.x, .int .i64 r.y, .int .i64 r.a, .int .i64 r.b]
def Bd.foot (t : Bd) : Rc := ⟨t.x, t.y, t.a, t.b⟩
/-- The slice v reads as the rectangles l. -/
def Rcs (w : World) (v : Value) (l : List Rc) : Prop := w.ownsRow 0 43 4 v l.length (l.flatMap Rc.cs)
theorem row_kept {w w' : World} {e : TypeId} {k n : Nat} {v : Value} {xs : List Value} {S : Nat → Prop} (h : w.ownsRow 0 e k v n xs) (ht : Turns S w w') (hs : ∀ k, v.ownBlock = some k → ¬ S k) : w'.ownsRow 0 e k v n xs := by
  refine ⟨h.1, ?_⟩
  rcases h.2 with h1 | ⟨g, cap, cur, e, hb, hg, r⟩
  · exact .inl h1
  · exact .inr ⟨g, cap, cur, e, hb, ht.same (hs g (by rw [e]; rfl)) hg, r⟩
theorem rows_ne {w : World} {e e' : TypeId} {k k' n n' : Nat} {v v' : Value} {xs xs' : List Value} (h : w.ownsRow 0 e k v n xs) (h' : w.ownsRow 0 e' k' v' n' xs') (he : e ≠ e') {b : Nat} (hb : v.ownBlock = some b) : v'.ownBlock ≠ some b := by
  intro hb'
  rcases h.2 with ⟨rfl, _⟩ | ⟨g, cap, cur, rfl, _, hg, _⟩
  · simp [Value.ownBlock] at hb
  · rcases h'.2 with ⟨rfl, _⟩ | ⟨g', cap', cur', rfl, _, hg', _⟩
    · simp [Value.ownBlock] at hb'
    · simp [Value.ownBlock] at hb hb'
      subst hb; subst hb'
      rw [hg] at hg'
      simp at hg'
      exact he hg'.2
theorem Rcs.kept {w w' : World} {v : Value} {l : List Rc} {S : Nat → Prop} (h : Rcs w v l) (ht : Turns S w w') (hs : ∀ k, v.ownBlock = some k → ¬ S k) : Rcs w' v l := row_kept h ht hs
def z43 : Value := .agg #[.int .i64 0, .int .i64 0, .int .i64 0, .int .i64 0]
theorem info43 : (Try.prog.info? 43).map (fun i => (i.zero, i.size, i.bytes)) = some (some z43, 4, 32) := by kernel_rfl
theorem one_rc {r : Rc} : ∀ u ∈ r.cs, u.oneCell' = true := by
  intro u hu
  simp only [Rc.cs, List.mem_cons, List.not_mem_nil, or_false] at hu
  rcases hu with rfl | rfl | rfl | rfl <;> rfl
/-- append as one step of a region that draws its order, onto a row of the call's own. -/
theorem step_append_row {P : Program} {ops : Array Oper} {o : Oper} {a : Act} {w : World} {K : Act → World → Prop} {Q : Exit → Act → World → Prop} {E : Prop} (hgd : o.guard = none) (s x : Operand) (t : TypeId)
    (ho : o.op = .call { callee := .builtin .append, args := #[s, x], argTypes := #[t, t] })
    (e : TypeId) (i : TypeInfo) (z : Value) (size bytes : Nat) (ht : P.underlying t = some (.slice e)) (hi : P.info? e = some i) (hz : i.zero = some z)
    (hsize : i.size = size) (hby : i.bytes = bytes) (hzs : z.cells.size = size) (hsz : 0 < size)
    (v : Value) (n : Nat) (xs : List Value) (hs : a.eval s = v) (hown : w.ownsRow 0 e size v n xs)
    (ad : Addr) (m c : Nat) (news : List Value) (hx : a.eval x = .slice (some ad) m c) (hl : news.length = m * size) (hnews : ∀ j u, news[j]? = some u → w.cell? (ad.add j) = some u) (h1 : ∀ u ∈ news, u.oneCell' = true)
    (h63 : n + m ≤ maxLen) (hbytes : (n + m) * bytes ≤ 140737488355328)
    (h : ∀ v' w', w'.ownsRow 0 e size v' (n + m) (xs ++ news) → w.grownBy w' v.ownBlock → (v'.ownBlock = v.ownBlock ∨ v'.ownBlock = some w.heap.size) → K (a.put o.dst v') w') :
    if Region.wanted o (yielded ops a.tmps) = true then Oper.wp P o a w K Q else E := by
  have hw : Region.wanted o (yielded ops a.tmps) = true := by simp [Region.wanted, hgd]
  rw [if_pos hw]
  obtain ⟨v', w', hr, h2, h3, h4, h5⟩ := run_append_own_at (P := P) w 0 t o.type e i z size bytes ht hi hz hsize hby hzs hsz v n xs hown ad m c news hl hnews h1 h63 hbytes (Nat.zero_le _)
  unfold Oper.wp execOp
  simp only [ho, resolve, invoke, builtin, Sem.run_bind, Sem.run_pure, Result.andThen_ok, List.map_toArray, List.map_cons, List.map_nil, hs, hx, hr]
  exact h v' w' h2 h3 h5
theorem rc_new (w : World) (r : Rc) : ∀ j u, r.cs[j]? = some u → (w.alloc (.cells #[.int .i64 r.x, .int .i64 r.y, .int .i64 r.a, .int .i64 r.b] 43)).cell? ((⟨w.heap.size, 0, none⟩ : Addr).add j) = some u := by
  intro j u hu
  rw [Addr.add_lit, Nat.zero_add, cell_of_row _ w.heap.size j _ _ _ (heap_alloc_new w _)]
  simpa [Rc.cs] using hu
theorem mb_len {W H : Int} {t : Bd} (h : mb W H t = true) : (allC t.x t.y t.a t.b).length ≤ 64 := by
  simp only [mb, Bool.and_eq_true, gs, decide_eq_true_iff] at h
  obtain ⟨h1, h2, ⟨a0, a1⟩, ⟨b0, b1⟩, h5⟩ := h
  unfold allC
  split
  · rw [upto_length]
    have : t.b.toNat ≤ 8 := by omega
    have : t.a.toNat ≤ 8 := by omega
    calc t.b.toNat * t.a.toNat ≤ 8 * 8 := Nat.mul_le_mul (by omega) (by omega)
      _ = 64 := rfl
  · simp
theorem mb_id {W H : Int} {t : Bd} (h : mb W H t = true) : W64 t.id := by
  simp only [mb, Bool.and_eq_true, decide_eq_true_iff] at h
  exact w64_of (by omega)
theorem code_zero {W H : Int} {f : Int → Int → Option Int} {l : List Bd} {t : Bd} (h : code W H f l t = 0) : mb W H t = true ∧ found l t.id = false ∧ l.length < 256 ∧ takenB f t.x t.y t.a t.b = false := by
  unfold code at h
  cases h1 : mb W H t
  · simp [h1] at h
  · cases h2 : found l t.id
    · by_cases h3 : 256 ≤ l.length
      · simp [h1, h2, h3] at h
      · cases h4 : takenB f t.x t.y t.a t.b
        · exact ⟨rfl, rfl, by omega, rfl⟩
        · simp [h1, h2, h3, h4] at h
    · simp [h1, h2] at h
/-- What Place leaves. -/
def Placed (w : World) (p bm n : Nat) (W H : Int) (tv bv ev : Value) (f : Int → Int → Option Int) (l : List Bd) (es : List Rc) (t : Bd) (w' : World) : Prop :=
  ∃ bv' ev', Wd w' p W H tv bv' bm ev' ∧ Bds w' bv' (ins l t) ∧ Who w' bm (n + 64) (putAll f (allC t.x t.y t.a t.b) t.id) ∧ Rcs w' ev' (es ++ [t.foot]) ∧
    Turns (fun k => k = p ∨ k = bm ∨ bv.ownBlock = some k ∨ ev.ownBlock = some k) w w' ∧ (∀ k, bv'.ownBlock = some k → bv.ownBlock = some k ∨ w.heap.size ≤ k) ∧ (∀ k, ev'.ownBlock = some k → ev.ownBlock = some k ∨ w.heap.size ≤ k)
theorem place_no (p bm n : Nat) (W_ H : Int) (tv bv ev : Value) (f : Int → Int → Option Int) (l : List Bd) (t : Bd) (w : World) (hd : Wd w p W_ H tv bv bm ev) (hw : Who w bm n f) (hl : Bds w bv l) (hs : Sorted l) (hlen : l.length ≤ 256) (hc : code W_ H f l t ≠ 0) :
    Calls Try.prog 23 #[ptr p, t.v] w fun e w' => e = .returned (.int .i64 (code W_ H f l t)) ∧ Below w.heap.size w w' := by
  have B0 : Below w.heap.size w (w.alloc (.cells #[.int .i64 t.id, .int .i64 t.x, .int .i64 t.y, .int .i64 t.a, .int .i64 t.b] 55)) := box1 _ _
  have T0 : Turns NoB w (w.alloc (.cells #[.int .i64 t.id, .int .i64 t.x, .int .i64 t.y, .int .i64 t.a, .int .i64 t.b] 55)) := Turns.of_below B0
  have HM := hide (may_world p bm n W_ H tv bv ev f l t _ (hd.kept T0 id) (hw.kept T0 id) (hl.kept T0 (fun _ _ => id)) hs hlen)
  obtain ⟨c, hcc⟩ : ∃ c, code W_ H f l t = c := ⟨_, rfl⟩
  rw [hcc] at HM hc ⊢
  have hc' : (c != 0) = true := by simp [hc]
  clear hd hw hl hs hcc T0
  go_enter Try.func23, Try.ntmps23
  go_wp2_with (go_at_call 28; refine HM.out.mono ?_; rintro e w1 ⟨rfl, hb1⟩)
  go_ret
  exact ⟨rfl, bt B0 hb1⟩
set_option maxRecDepth 100000 in
set_option maxHeartbeats 2000000 in
theorem place_yes (p bm n : Nat) (W_ H : Int) (tv bv ev : Value) (f : Int → Int → Option Int) (l : List Bd) (es : List Rc) (t : Bd) (w : World) (hd : Wd w p W_ H tv bv bm ev) (hw : Who w bm n f) (hl : Bds w bv l) (he : Rcs w ev es) (hs : Sorted l) (hlen : l.length ≤ 256) (hn : n + 64 ≤ maxLen) (hes : (es.length + 1) * 32 ≤ 140737488355328) (hc : code W_ H f l t = 0) :
    Calls Try.prog 23 #[ptr p, t.v] w fun e w' => e = .returned (.int .i64 0) ∧ Placed w p bm n W_ H tv bv ev f l es t w' := by
  obtain ⟨m1, m2, m3, m4⟩ := code_zero hc
  have m5 := mb_len m1
  have m6 := mb_id m1
  have B0 : Below w.heap.size w (w.alloc (.cells #[.int .i64 t.id, .int .i64 t.x, .int .i64 t.y, .int .i64 t.a, .int .i64 t.b] 55)) := box1 _ _
  have T0 : Turns NoB w (w.alloc (.cells #[.int .i64 t.id, .int .i64 t.x, .int .i64 t.y, .int .i64 t.a, .int .i64 t.b] 55)) := Turns.of_below B0
  have F0 : Five (w.alloc (.cells #[.int .i64 t.id, .int .i64 t.x, .int .i64 t.y, .int .i64 t.a, .int .i64 t.b] 55)) w.heap.size t := heap_alloc_new w _
  have hd0 := hd.kept T0 id
  have hw0 := hw.kept T0 id
  have hl0 := hl.kept T0 (fun _ _ => id)
  have he0 := he.kept T0 (fun _ _ => id)
  have HM := hide (may_world p bm n W_ H tv bv ev f l t _ hd0 hw0 hl0 hs hlen)
  rw [hc] at HM
  have key : ∀ w1, Below (w.alloc (.cells #[.int .i64 t.id, .int .i64 t.x, .int .i64 t.y, .int .i64 t.a, .int .i64 t.b] 55)).heap.size (w.alloc (.cells #[.int .i64 t.id, .int .i64 t.x, .int .i64 t.y, .int .i64 t.a, .int .i64 t.b] 55)) w1 →
      Wd w1 p W_ H tv bv bm ev ∧ Who w1 bm n f ∧ Bds w1 bv l ∧ Five w1 w.heap.size t ∧ Rcs w1 ev es := fun w1 hb => by
    have T : Turns NoB (w.alloc (.cells #[.int .i64 t.id, .int .i64 t.x, .int .i64 t.y, .int .i64 t.a, .int .i64 t.b] 55)) w1 := Turns.of_below hb
    exact ⟨hd0.kept T id, hw0.kept T id, hl0.kept T (fun _ _ => id), F0.kept T id, he0.kept T (fun _ _ => id)⟩
  have HK := hide key
  have HS := hide hs
  have hp0 := hd.lt
  have hb0 := hw.lt
  have hrow := fun k e => (hl.lt k e).2
  have hrowe := fun k e => (he.lt k e).2
  have hpb := hd.ne_map hw
  clear key hd0 hw0 hl0 he0 hs hc T0
  go_enter Try.func23, Try.ntmps23
  go_wp2_with (go_at_call 28; refine HM.out.mono ?_; rintro e w1 ⟨rfl, hb1⟩; obtain ⟨k1, k2, k3, k4, k5⟩ := HK.out w1 hb1; have z0 : w1.cell? ⟨w.heap.size, 0, none⟩ = some (.int .i64 t.id) := k4.c 0; have z1 : w1.cell? ⟨w.heap.size, 1, none⟩ = some (.int .i64 t.x) := k4.c 1; have z2 : w1.cell? ⟨w.heap.size, 2, none⟩ = some (.int .i64 t.y) := k4.c 2; have z3 : w1.cell? ⟨w.heap.size, 3, none⟩ = some (.int .i64 t.a) := k4.c 3; have z4 : w1.cell? ⟨w.heap.size, 4, none⟩ = some (.int .i64 t.b) := k4.c 4)
  refine (stand_any p bm n W_ H tv bv ev f l t w1 k1 k2 k3 HS.out m3 m6 (by omega)).mono ?_
  rintro e w2 ⟨rfl, g, cap, hd2, hl2, hw2, T2, hloc⟩
  have F2 : Five w2 w.heap.size t := k4.kept T2 (fun h => h.elim (fun h => by omega) (fun h => h.elim (fun h => by omega) (fun h => by have := hrow _ h; omega)))
  have he2 : Rcs w2 ev es := k5.kept T2 (fun k e => by
    rintro (h | h | h)
    · subst h; exact k1.ne_row k5 (by decide) e
    · subst h; exact row_ne_map k5 k2 e
    · exact rows_ne k5 k3 (by decide) e h)
  have TW1 : Turns NoB w w1 := (Turns.of_below B0).trans ((Turns.of_below hb1).mono (fun _ _ h => h))
  clear z0 z1 z2 z3 z4 k1 k2 k3 k4 k5 HM HK
  obtain ⟨fi, hf, hz, h4, h32⟩ := info_parts info43
  have hm1 : es.length + 1 ≤ maxLen := by unfold maxLen; omega
  have hS0 : (w2.cell? ⟨w.heap.size, 1, none⟩ = some (.int .i64 t.x) ∧ w2.cell? ⟨w.heap.size, 2, none⟩ = some (.int .i64 t.y) ∧ w2.cell? ⟨w.heap.size, 3, none⟩ = some (.int .i64 t.a) ∧ w2.cell? ⟨w.heap.size, 4, none⟩ = some (.int .i64 t.b)) := ⟨F2.c 1, F2.c 2, F2.c 3, F2.c 4⟩
  have hS1 : ∀ o, ((w2.alloc o).cell? ⟨w.heap.size, 1, none⟩ = some (.int .i64 t.x) ∧ (w2.alloc o).cell? ⟨w.heap.size, 2, none⟩ = some (.int .i64 t.y) ∧ (w2.alloc o).cell? ⟨w.heap.size, 3, none⟩ = some (.int .i64 t.a) ∧ (w2.alloc o).cell? ⟨w.heap.size, 4, none⟩ = some (.int .i64 t.b)) := fun o => by
    have F := F2.kept (Turns.of_below (S := NoB) (box1 w2 o)) id
    exact ⟨F.c 1, F.c 2, F.c 3, F.c 4⟩
  have hev : ev.ownBlock ≠ some w.heap.size := fun e => by have := hrowe _ e; omega
  have hevp : ev.ownBlock ≠ some p := hd2.ne_row he2 (by decide)
  have hT3 : ∀ {wx : World} {o : Obj}, (w2.alloc o).drew.grownBy wx ev.ownBlock → Turns (fun k => ev.ownBlock = some k) w2 wx := fun {wx o} hg =>
    (Turns.of_below (box1 w2 o)).trans ((Turns.of_grown (w := (w2.alloc o).drew) hg (fun k e => Or.inl e)).undrew)
  have hS2 : ∀ {wx : World} {o : Obj}, (w2.alloc o).drew.grownBy wx ev.ownBlock → (wx.cell? ⟨w.heap.size, 1, none⟩ = some (.int .i64 t.x) ∧ wx.cell? ⟨w.heap.size, 2, none⟩ = some (.int .i64 t.y) ∧ wx.cell? ⟨w.heap.size, 3, none⟩ = some (.int .i64 t.a) ∧ wx.cell? ⟨w.heap.size, 4, none⟩ = some (.int .i64 t.b)) := fun {wx o} hg => by
    have F := F2.kept (hT3 hg) hev
    exact ⟨F.c 1, F.c 2, F.c 3, F.c 4⟩
  have hS3 : ∀ {wx : World} {o : Obj} {v : Value}, (w2.alloc o).drew.grownBy wx ev.ownBlock → ((wx.setCell ⟨p, 7, none⟩ v).cell? ⟨w.heap.size, 1, none⟩ = some (.int .i64 t.x) ∧ (wx.setCell ⟨p, 7, none⟩ v).cell? ⟨w.heap.size, 2, none⟩ = some (.int .i64 t.y) ∧ (wx.setCell ⟨p, 7, none⟩ v).cell? ⟨w.heap.size, 3, none⟩ = some (.int .i64 t.a) ∧ (wx.setCell ⟨p, 7, none⟩ v).cell? ⟨w.heap.size, 4, none⟩ = some (.int .i64 t.b)) := fun {wx o v} hg => by
    have F := (F2.kept (hT3 hg) hev).kept (Turns.set (S := fun k => k = p) wx (p := ⟨p, 7, none⟩) rfl v) (by omega)
    exact ⟨F.c 1, F.c 2, F.c 3, F.c 4⟩
  have hW3 : ∀ {wx : World} {o : Obj}, (w2.alloc o).drew.grownBy wx ev.ownBlock → Wd wx p W_ H tv (.slice (some ⟨g, 0, none⟩) (l.length + 1) cap) bm ev := fun {wx o} hg => hd2.kept (hT3 hg) hevp
  have c7 : w2.cell? ⟨p, 7, none⟩ = some ev := hd2.c 7
  have c7' : ∀ o, (w2.alloc o).cell? ⟨p, 7, none⟩ = some ev := fun o => (hd2.kept (Turns.of_below (S := NoB) (box1 w2 o)) id).c 7
  have HE := hide he2
  have HFin : ∀ {w3 : World} {g3 cap3 : Nat}, (w2.alloc (.cells #[.int .i64 t.x, .int .i64 t.y, .int .i64 t.a, .int .i64 t.b] 43)).drew.grownBy w3 ev.ownBlock → w3.ownsRow 0 43 4 (.slice (some ⟨g3, 0, none⟩) (es.length + 1) cap3) (es.length + 1) (es.flatMap Rc.cs ++ t.foot.cs) → ((Value.slice (some ⟨g3, 0, none⟩) (es.length + 1) cap3).ownBlock = ev.ownBlock ∨ (Value.slice (some ⟨g3, 0, none⟩) (es.length + 1) cap3).ownBlock = some (w2.alloc (.cells #[.int .i64 t.x, .int .i64 t.y, .int .i64 t.a, .int .i64 t.b] 43)).drew.heap.size) →
      Placed w p bm n W_ H tv bv ev f l es t (w3.setCell ⟨p, 7, none⟩ (.slice (some ⟨g3, 0, none⟩) (es.length + 1) cap3)) := fun {w3 g3 cap3} hg hown hl3 => by
    have T3 := hT3 hg
    have TS : Turns (fun k => k = p) w3 (w3.setCell ⟨p, 7, none⟩ (.slice (some ⟨g3, 0, none⟩) (es.length + 1) cap3)) := Turns.set (S := fun k => k = p) w3 (p := ⟨p, 7, none⟩) rfl _
    have hd3 := hd2.kept T3 hevp
    have hw3 := (hw2.mono (show _ ≤ n + 64 by omega)).kept T3 (row_ne_map he2 hw2)
    have hl3' := hl2.kept T3 (fun k e h => rows_ne hl2 he2 (by decide) e h)
    have hr3 : Rcs w3 (.slice (some ⟨g3, 0, none⟩) (es.length + 1) cap3) (es ++ [t.foot]) := by simpa [Rcs] using hown
    refine ⟨_, _, hd3.set7 _, hl3'.kept TS (fun k e h => ?_), hw3.kept TS hpb, hr3.kept TS (fun k e h => ?_), ?_, fun k e => ?_, fun k e => ?_⟩
    · subst h; exact hd3.ne_row hl3' (by decide) e
    · subst h; exact hd3.ne_row hr3 (by decide) e
    · refine (((TW1.mono (fun _ _ h => h.elim)).trans (T2.mono (fun k _ h => .inl ?_))).trans (T3.mono (fun k _ h => .inl (.inr (.inr (.inr h)))))).trans (TS.mono (fun k _ h => .inl (.inl h)))
      rcases h with h | h | h
      · exact .inl h
      · exact .inr (.inl h)
      · exact .inr (.inr (.inl h))
    · simp only [Value.ownBlock, Option.some.injEq] at e
      subst e
      rcases hloc with h | h
      · exact .inl h
      · exact .inr (by have := TW1.size; omega)
    · rcases hl3 with h | h
      · exact .inl (by rw [← h]; exact e)
      · rw [h] at e
        simp at e
        right
        have h1 := TW1.size
        have h2 := T2.size
        omega
  have HF := @HFin
  clear HFin hd2 hl2 hw2 he2 hev hevp hloc T2 TW1 F2 F0 B0 hb1
  go_wp2_with fail
  refine Code.wp_mono (Q := Only (fun a' w' => ∃ v3, a' = { tmps := #[ptr p, t.v, undef, ptr w.heap.size, .int .i64 0, .int .i64 0, ptr p, t.v, .int .i64 0, .int .i64 0, .bool false, undef, ptr p, t.v, .tuple #[], ptr p, ptr p, ptr p, .pointer (some ⟨p, 7, none⟩), ev, .pointer (some ⟨w.heap.size, 1, none⟩), rct t.x t.y t.a t.b, .slice (some ⟨w2.heap.size, 0, none⟩) 1 1, v3, ptr p, .pointer (some ⟨p, 7, none⟩)], defers := [] } ∧ Placed w p bm n W_ H tv bv ev f l es t w')) ?rest ?_
  case rest =>
    rintro (_ | _ | _ | _ | _) a' w' hO
    all_goals first | exact hO.elim | skip
    obtain ⟨v3, rfl, hP⟩ := hO
    have HP := hide hP
    clear hP
    go_wp2_with fail
    go_ret
    exact ⟨rfl, HP.out⟩
  refine wp_region_held_drew (S := fun w' => (w'.cell? ⟨w.heap.size, 1, none⟩ = some (.int .i64 t.x) ∧ w'.cell? ⟨w.heap.size, 2, none⟩ = some (.int .i64 t.y) ∧ w'.cell? ⟨w.heap.size, 3, none⟩ = some (.int .i64 t.a) ∧ w'.cell? ⟨w.heap.size, 4, none⟩ = some (.int .i64 t.b))) (by kernel_rfl) hS0 (fun hHeld => ?_)
  refine wpAnyH_take (i := 0) (v := ?_) rfl (by kernel_rfl) (by kernel_rfl) (by kernel_rfl) (fun _ _ _ h => h.elim) (Or.inl ⟨by rfl, ?_⟩) (by assumption) ?_
  rotate_left
  · intro wx hSw
    try dsimp only at hSw
    go_simp
    try with_reducible rfl
  try simp only [Act.put, List.getElem_toArray, List.getElem_cons_zero, List.setIfInBounds_toArray, List.set_cons_zero, List.set_cons_succ]
  refine wpAnyH_take (i := 1) (v := ?_) rfl (by kernel_rfl) (by kernel_rfl) (by kernel_rfl) (fun _ _ _ h => h.elim) (Or.inl ⟨by rfl, ?_⟩) (by assumption) ?_
  rotate_left
  · intro wx hSw
    try dsimp only at hSw
    go_simp
    try with_reducible rfl
  try simp only [Act.put, List.getElem_toArray, List.getElem_cons_zero, List.getElem_cons_succ, List.setIfInBounds_toArray, List.set_cons_zero, List.set_cons_succ]
  refine wpAnyH_take (i := 2) (v := ?_) rfl (by kernel_rfl) (by kernel_rfl) (by kernel_rfl) (fun _ _ _ h => h.elim) (Or.inl ⟨by rfl, ?_⟩) (by assumption) ?_
  rotate_left
  · intro wx hSw
    try dsimp only at hSw
    go_simp
    try with_reducible rfl
  try simp only [Act.put, List.getElem_toArray, List.getElem_cons_zero, List.getElem_cons_succ, List.setIfInBounds_toArray, List.set_cons_zero, List.set_cons_succ]
  refine wpAnyH_take (i := 3) (v := ?_) rfl (by kernel_rfl) (by kernel_rfl) (by kernel_rfl) (fun _ _ _ h => h.elim) (Or.inl ⟨by rfl, ?_⟩) (by assumption) ?_
  rotate_left
  · intro wx hSw
    try dsimp only at hSw
    go_simp
    try with_reducible rfl
  try simp only [Act.put, List.getElem_toArray, List.getElem_cons_zero, List.getElem_cons_succ, List.setIfInBounds_toArray, List.set_cons_zero, List.set_cons_succ]
  refine wpAnyH_take (i := 5) (v := ?_) rfl (by kernel_rfl) (by kernel_rfl) (by kernel_rfl) (fun _ _ _ h => h.elim) (Or.inl ⟨by rfl, ?_⟩) (by assumption) ?_
  rotate_left
  · intro wx hSw
    try dsimp only at hSw
    go_simp
    try with_reducible rfl
  try simp only [Act.put, List.getElem_toArray, List.getElem_cons_zero, List.getElem_cons_succ, List.setIfInBounds_toArray, List.set_cons_zero, List.set_cons_succ]
  refine wpAnyH_take (i := 6) (v := ?_) rfl (by kernel_rfl) (by kernel_rfl) (by kernel_rfl) (fun _ _ _ h => h.elim) (Or.inl ⟨by rfl, ?_⟩) (by assumption) ?_
  rotate_left
  · intro wx hSw
    try dsimp only at hSw
    go_simp
    try with_reducible rfl
  try simp only [Act.put, List.getElem_toArray, List.getElem_cons_zero, List.getElem_cons_succ, List.setIfInBounds_toArray, List.set_cons_zero, List.set_cons_succ]
  refine wpAnyH_ready (rs := [4, 7]) (by kernel_rfl) (by simp) ?_
  refine AllReadyH.cons rfl (fun K hK => ?_) ?_
  · go_simp
    refine hK.out _ _ ?_ (fun hHeld => ?_)
    · first | exact hS0 | exact hS1 _ | exact hS2 (by assumption) | exact hS3 (by assumption)
    clear hK K
    try simp only [Act.put, List.getElem_toArray, List.getElem_cons_zero, List.getElem_cons_succ, List.setIfInBounds_toArray, List.set_cons_zero, List.set_cons_succ]
    refine wpAnyH_ready (rs := [7]) (by kernel_rfl) (by simp) ?_
    refine AllReadyH.cons rfl (fun K hK => ?_) ?_
    · go_simp
      refine hK.out _ _ ?_ (fun hHeld => ?_)
      · first | exact hS0 | exact hS1 _ | exact hS2 (by assumption) | exact hS3 (by assumption)
      clear hK K
      try simp only [Act.put, List.getElem_toArray, List.getElem_cons_zero, List.getElem_cons_succ, List.setIfInBounds_toArray, List.set_cons_zero, List.set_cons_succ]
      refine wpAnyH_ready (rs := [8]) (by kernel_rfl) (by simp) ?_
      refine AllReadyH.cons rfl (fun K hK => ?_) ?_
      · refine step_append_row rfl _ _ 48 rfl 43 fi z43 4 32 Try.underlying48 hf hz h4 h32 rfl (by decide) ev es.length _ (by simp [Act.eval]) (HE.out.alloc _) ⟨w2.heap.size, 0, none⟩ 1 1 t.foot.cs (by simp [Act.eval]) rfl (rc_new w2 t.foot) one_rc hm1 hes ?_
        intro v' w3 hown hgrow hloc'
        obtain ⟨g3, cap3, rfl⟩ := row_form hown
        have hd3 := hW3 hgrow
        have c73 : w3.cell? ⟨p, 7, none⟩ = some ev := hd3.c 7
        have f73 := hd3.f 7
        refine hK.out _ _ ?_ (fun hHeld => ?_)
        · first | exact hS0 | exact hS1 _ | exact hS2 (by assumption) | exact hS3 (by assumption)
        clear hK K
        try simp only [Act.put, List.getElem_toArray, List.getElem_cons_zero, List.getElem_cons_succ, List.setIfInBounds_toArray, List.set_cons_zero, List.set_cons_succ]
        refine wpAnyH_take (i := 9) (v := ?_) rfl (by kernel_rfl) (by kernel_rfl) (by kernel_rfl) (fun _ _ _ h => h.elim) (Or.inl ⟨by rfl, ?_⟩) (by assumption) ?_
        rotate_left
        · intro wx hSw
          try dsimp only at hSw
          go_simp
          try with_reducible rfl
        try simp only [Act.put, List.getElem_toArray, List.getElem_cons_zero, List.getElem_cons_succ, List.setIfInBounds_toArray, List.set_cons_zero, List.set_cons_succ]
        refine wpAnyH_take (i := 10) (v := ?_) rfl (by kernel_rfl) (by kernel_rfl) (by kernel_rfl) (fun _ _ _ h => h.elim) (Or.inl ⟨by rfl, ?_⟩) (by assumption) ?_
        rotate_left
        · intro wx hSw
          try dsimp only at hSw
          go_simp
          try with_reducible rfl
        try simp only [Act.put, List.getElem_toArray, List.getElem_cons_zero, List.getElem_cons_succ, List.setIfInBounds_toArray, List.set_cons_zero, List.set_cons_succ]
        refine wpAnyH_ready (rs := [11]) (by kernel_rfl) (by simp) ?_
        refine AllReadyH.cons rfl (fun K hK => ?_) ?_
        · go_simp
          refine hK.out _ _ ?_ (fun hHeld => ?_)
          · first | exact hS0 | exact hS1 _ | exact hS2 (by assumption) | exact hS3 (by assumption)
          clear hK K
          try simp only [Act.put, List.getElem_toArray, List.getElem_cons_zero, List.getElem_cons_succ, List.setIfInBounds_toArray, List.set_cons_zero, List.set_cons_succ]
          refine wpAnyH_done (by kernel_rfl) ?_ _
          exact ⟨_, rfl, HF hgrow hown hloc'⟩
        exact AllReadyH.nil
      exact AllReadyH.nil
    exact AllReadyH.nil
  refine AllReadyH.cons rfl (fun K hK => ?_) ?_
  · go_simp
    refine hK.out _ _ ?_ (fun hHeld => ?_)
    · first | exact hS0 | exact hS1 _ | exact hS2 (by assumption) | exact hS3 (by assumption)
    clear hK K
    try simp only [Act.put, List.getElem_toArray, List.getElem_cons_zero, List.getElem_cons_succ, List.setIfInBounds_toArray, List.set_cons_zero, List.set_cons_succ]
    refine wpAnyH_ready (rs := [4]) (by kernel_rfl) (by simp) ?_
    refine AllReadyH.cons rfl (fun K hK => ?_) ?_
    · go_simp
      refine hK.out _ _ ?_ (fun hHeld => ?_)
      · first | exact hS0 | exact hS1 _ | exact hS2 (by assumption) | exact hS3 (by assumption)
      clear hK K
      try simp only [Act.put, List.getElem_toArray, List.getElem_cons_zero, List.getElem_cons_succ, List.setIfInBounds_toArray, List.set_cons_zero, List.set_cons_succ]
      refine wpAnyH_ready (rs := [8]) (by kernel_rfl) (by simp) ?_
      refine AllReadyH.cons rfl (fun K hK => ?_) ?_
      · refine step_append_row rfl _ _ 48 rfl 43 fi z43 4 32 Try.underlying48 hf hz h4 h32 rfl (by decide) ev es.length _ (by simp [Act.eval]) (HE.out.alloc _) ⟨w2.heap.size, 0, none⟩ 1 1 t.foot.cs (by simp [Act.eval]) rfl (rc_new w2 t.foot) one_rc hm1 hes ?_
        intro v' w3 hown hgrow hloc'
        obtain ⟨g3, cap3, rfl⟩ := row_form hown
        have hd3 := hW3 hgrow
        have c73 : w3.cell? ⟨p, 7, none⟩ = some ev := hd3.c 7
        have f73 := hd3.f 7
        refine hK.out _ _ ?_ (fun hHeld => ?_)
        · first | exact hS0 | exact hS1 _ | exact hS2 (by assumption) | exact hS3 (by assumption)
        clear hK K
        try simp only [Act.put, List.getElem_toArray, List.getElem_cons_zero, List.getElem_cons_succ, List.setIfInBounds_toArray, List.set_cons_zero, List.set_cons_succ]
        refine wpAnyH_take (i := 9) (v := ?_) rfl (by kernel_rfl) (by kernel_rfl) (by kernel_rfl) (fun _ _ _ h => h.elim) (Or.inl ⟨by rfl, ?_⟩) (by assumption) ?_
        rotate_left
        · intro wx hSw
          try dsimp only at hSw
          go_simp
          try with_reducible rfl
        try simp only [Act.put, List.getElem_toArray, List.getElem_cons_zero, List.getElem_cons_succ, List.setIfInBounds_toArray, List.set_cons_zero, List.set_cons_succ]
        refine wpAnyH_take (i := 10) (v := ?_) rfl (by kernel_rfl) (by kernel_rfl) (by kernel_rfl) (fun _ _ _ h => h.elim) (Or.inl ⟨by rfl, ?_⟩) (by assumption) ?_
        rotate_left
        · intro wx hSw
          try dsimp only at hSw
          go_simp
          try with_reducible rfl
        try simp only [Act.put, List.getElem_toArray, List.getElem_cons_zero, List.getElem_cons_succ, List.setIfInBounds_toArray, List.set_cons_zero, List.set_cons_succ]
        refine wpAnyH_ready (rs := [11]) (by kernel_rfl) (by simp) ?_
        refine AllReadyH.cons rfl (fun K hK => ?_) ?_
        · go_simp
          refine hK.out _ _ ?_ (fun hHeld => ?_)
          · first | exact hS0 | exact hS1 _ | exact hS2 (by assumption) | exact hS3 (by assumption)
          clear hK K
          try simp only [Act.put, List.getElem_toArray, List.getElem_cons_zero, List.getElem_cons_succ, List.setIfInBounds_toArray, List.set_cons_zero, List.set_cons_succ]
          refine wpAnyH_done (by kernel_rfl) ?_ _
          exact ⟨_, rfl, HF hgrow hown hloc'⟩
        exact AllReadyH.nil
      exact AllReadyH.nil
    exact AllReadyH.nil
  exact AllReadyH.nil
end Go.Proofs.Ytobjadfchpgjeaa
