/-
  A world of the program in memory; a building put into its list.
-/
import Derived.Test.YtekpamilcpeanaaDoorTaken
import Derived.Test.YtekpamilcpeanaaDoorInsert
import Derived.Deep.RegionHeld3
import Derived.BigRegionIn
import Derived.RegionIn
namespace Go.Proofs.YtekpamilcpeanaaDoor
open Go.RowKit Go.Shelf
set_option linter.unusedVariables false
attribute [local go_sem] Oper.semAt_some
/-- In block p lies a World. -/
def Wd (w : World) (p : Nat) (W H : Int) (tv bv : Value) (bm : Nat) (ev : Value) : Prop :=
  w.heap[p]? = some (.cells #[.int .i64 0, .int .i64 0, .int .i64 W, .int .i64 H, tv, bv, .map (some bm), ev] 76 (0, 0))
section
variable {w w' : World} {p bm : Nat} {W H : Int} {tv bv ev : Value}
theorem Wd.lt (h : Wd w p W H tv bv bm ev) : p < w.heap.size := (Array.getElem?_eq_some_iff.1 h).1
theorem Wd.kept {S : Nat → Prop} (h : Wd w p W H tv bv bm ev) (ht : Turns S w w') (hs : ¬ S p) : Wd w' p W H tv bv bm ev := ht.same hs h
theorem Wd.c (h : Wd w p W H tv bv bm ev) (j : Nat) : w.cell? ⟨p, j, none⟩ = (#[.int .i64 0, .int .i64 0, .int .i64 W, .int .i64 H, tv, bv, .map (some bm), ev] : Array Value)[j]? := cell_of_row w p j _ _ _ h
theorem Wd.f (h : Wd w p W H tv bv bm ev) (j : Nat) : w.frozen? ⟨p, j, none⟩ = false := by
  have h' : w.heap[p]? = _ := h
  simp [World.frozen?, h']
theorem Wd.ne_row (h : Wd w p W H tv bv bm ev) {v : Value} {e : TypeId} {k n : Nat} {xs : List Value} (hv : w.ownsRow 0 e k v n xs) (he : e ≠ 76) : v.ownBlock ≠ some p := by
  intro hh
  rcases hv.2 with ⟨rfl, _⟩ | ⟨g, cap, cur, rfl, hb, hg, _⟩
  · simp [Value.ownBlock] at hh
  · simp [Value.ownBlock] at hh
    subst hh
    rw [show w.heap[g]? = _ from h] at hg
    simp at hg
    exact he hg.2.symm
theorem Wd.ne_map (h : Wd w p W H tv bv bm ev) {b n : Nat} {f : Int → Int → Option Int} (hf : Who w b n f) : b ≠ p := by
  obtain ⟨D, ⟨es, clock, h1, _⟩, _⟩ := hf
  intro e
  subst e
  rw [show w.heap[b]? = _ from h] at h1
  cases h1
theorem row_ne_map {b n k m : Nat} {f : Int → Int → Option Int} {v : Value} {e : TypeId} {xs : List Value} (hv : w.ownsRow 0 e k v m xs) (hf : Who w b n f) : v.ownBlock ≠ some b := by
  obtain ⟨D, ⟨es, clock, h1, _⟩, _⟩ := hf
  intro hh
  rcases hv.2 with ⟨rfl, _⟩ | ⟨g, cap, cur, rfl, hb, hg, _⟩
  · simp [Value.ownBlock] at hh
  · simp [Value.ownBlock] at hh
    subst hh
    rw [hg] at h1
    cases h1
theorem Wd.set5 (h : Wd w p W H tv bv bm ev) (v : Value) : Wd (w.setCell ⟨p, 5, none⟩ v) p W H tv v bm ev := by
  have h' : w.heap[p]? = _ := h
  have hlt := h.lt
  unfold Wd
  simp [World.setCell, Array.getElem?_modify, h']
theorem Wd.set7 (h : Wd w p W H tv bv bm ev) (v : Value) : Wd (w.setCell ⟨p, 7, none⟩ v) p W H tv bv bm v := by
  have h' : w.heap[p]? = _ := h
  have hlt := h.lt
  unfold Wd
  simp [World.setCell, Array.getElem?_modify, h']
end
theorem Turns.undrew {S : Nat → Prop} {w w' : World} (h : Turns S w.drew w') : Turns S w w' := ⟨h.os, h.tape, h.output, h.size, h.block⟩
/-- What is left where the code goes on as usual, and no other way out. -/
def Only (R : Act → World → Prop) : Exit → Act → World → Prop
  | .normal, a, w => R a w
  | _, _, _ => False
/-- f, but i on the cells of pre. -/
def putAll (f : Int → Int → Option Int) (pre : List Cel) (i : Int) : Int → Int → Option Int := fun x y => if pre.any (fun q => decide (q.1.1 = x ∧ q.1.2 = y)) = true then some i else f x y
theorem putAll_nil (f : Int → Int → Option Int) (i : Int) : putAll f [] i = f := by funext x y; simp [putAll]
theorem putAll_snoc (f : Int → Int → Option Int) (pre : List Cel) (q : Cel) (i : Int) : putAll f (pre ++ [q]) i = fun u v => if u = q.1.1 ∧ v = q.1.2 then some i else putAll f pre i u v := by
  funext u v
  unfold putAll
  rw [List.any_append]
  by_cases h : u = q.1.1 ∧ v = q.1.2
  · rw [if_pos h, if_pos]; simp [h.1, h.2]
  · rw [if_neg h]
    have : ([q].any fun q => decide (q.1.1 = u ∧ q.1.2 = v)) = false := by simp; intro h1 h2; exact h ⟨h1.symm, h2.symm⟩
    rw [this, Bool.or_false]
/-- A box of five cells. -/
def Five (w : World) (b : Nat) (t : Bd) : Prop := w.heap[b]? = some (.cells t.cs.toArray 78 (0, 0))
theorem Five.c {w : World} {b : Nat} {t : Bd} (h : Five w b t) (j : Nat) : w.cell? ⟨b, j, none⟩ = t.cs[j]? := by rw [cell_of_row w b j _ _ _ h]; simp
/-- A building put where its number comes. -/
def ins (l : List Bd) (t : Bd) : List Bd := l.take (pos l t.id) ++ t :: l.drop (pos l t.id)
theorem ins_len (l : List Bd) (t : Bd) : (ins l t).length = l.length + 1 := by
  have := pos_le l t.id
  simp [ins]; omega
theorem ins_any (l : List Bd) (v : Value) (t : Bd) (vb : Nat) (w : World) (hv : Bds w v l) (hl : l.length < 256) (hvb : w.heap[vb]? = some (.cells t.cs.toArray 78 (0, 0))) (hne : v.ownBlock ≠ some vb) :
    Calls Tryd.prog 64 #[v, .int .i64 (pos l t.id : Nat), .slice (some ⟨vb, 0, none⟩) 1 1] w fun e w' => ∃ g cap, e = .returned (.slice (some ⟨g, 0, none⟩) (l.length + 1) cap) ∧ Bds w' (.slice (some ⟨g, 0, none⟩) (l.length + 1) cap) (ins l t) ∧ w.grownBy w' v.ownBlock ∧ (v.ownBlock = some g ∨ w.heap.size ≤ g) := by
  refine (insert_any l v (pos l t.id) t vb w hv hl (pos_le l t.id) hvb hne).mono ?_
  rintro e w' ⟨g, cap, he, hb, hg, hloc⟩
  have hll := ins_len l t
  unfold ins at hll
  rw [hll] at he hb
  exact ⟨g, cap, he, hb, hg, hloc⟩
/-- What stand reads. -/
def Sst (p h : Nat) (t : Bd) (w : World) : Prop :=
  w.cell? ⟨h, 0, none⟩ = some (ptr p) ∧
  (w.cell? ⟨h + 1, 0, none⟩ = some (.int .i64 t.id) ∧ w.cell? ⟨h + 1, 1, none⟩ = some (.int .i64 t.x) ∧ w.cell? ⟨h + 1, 2, none⟩ = some (.int .i64 t.y) ∧ w.cell? ⟨h + 1, 3, none⟩ = some (.int .i64 t.a) ∧ w.cell? ⟨h + 1, 4, none⟩ = some (.int .i64 t.b))
theorem sst_of {w : World} {p h : Nat} {t : Bd} (hb : Boxed w h 40 (ptr p)) (h5 : Five w (h + 1) t) : Sst p h t w :=
  ⟨hb.cell, h5.c 0, h5.c 1, h5.c 2, h5.c 3, h5.c 4⟩
theorem boxed_kept {S : Nat → Prop} {W W' : World} {k : Nat} {t : TypeId} {v : Value} (h : Boxed W k t v) (ht : Turns S W W') (hs : ¬ S k) : Boxed W' k t v := ht.same hs h
theorem Five.kept {S : Nat → Prop} {W W' : World} {k : Nat} {t : Bd} (h : Five W k t) (ht : Turns S W W') (hs : ¬ S k) : Five W' k t := ht.same hs h
/-- What stand leaves. -/
def Stood (w : World) (p bm n : Nat) (W H : Int) (tv bv ev : Value) (f : Int → Int → Option Int) (l : List Bd) (t : Bd) (w' : World) : Prop :=
  ∃ g cap, Wd w' p W H tv (.slice (some ⟨g, 0, none⟩) (l.length + 1) cap) bm ev ∧ Bds w' (.slice (some ⟨g, 0, none⟩) (l.length + 1) cap) (ins l t) ∧ Who w' bm (n + (allC t.x t.y t.a t.b).length) (putAll f (allC t.x t.y t.a t.b) t.id) ∧
    Turns (fun k => k = p ∨ k = bm ∨ bv.ownBlock = some k) w w' ∧ (bv.ownBlock = some g ∨ w.heap.size ≤ g)
theorem ownFrom_who {B b n : Nat} {F : List Cel → Int → Int → Option Int} (hb : b < B) : OwnFrom B (fun (pre : List Cel) W => Who W b (n + pre.length) (F pre)) := fun s X Y row hs hg hr =>
  hs.kept (Turns.of_grown (S := fun k => row = some k) hg (fun k e => e)) (fun e => by have := (hr _ e).1; omega)
theorem ownFrom_turns {β : Type} {B : Nat} {S : Nat → Prop} {w0 : World} (hw : w0.heap.size ≤ B) : OwnFrom B (fun (_ : β) W => Turns S w0 W) := fun s X Y row hs hg hr =>
  hs.trans (Turns.of_grown hg (fun k e => .inr (by have := (hr k e).1; omega)))
theorem allC_le {x y a b : Int} : may x y a b = true → b.toNat * a.toNat ≤ (allC x y a b).length := fun h => by rw [allC, if_pos h, upto_length]; exact Nat.le_refl _
set_option maxRecDepth 100000 in
set_option maxHeartbeats 2000000 in
theorem stand_any (p bm n : Nat) (W_ H : Int) (tv bv ev : Value) (f : Int → Int → Option Int) (l : List Bd) (t : Bd) (w : World) (hd : Wd w p W_ H tv bv bm ev) (hw : Who w bm n f) (hl : Bds w bv l) (hs : Sorted l) (hlen : l.length < 256) (hid : W64 t.id) (hn : n + (allC t.x t.y t.a t.b).length ≤ maxLen) :
    Calls Tryd.prog 42 #[ptr p, t.v] w fun e w' => e = .returned (.tuple #[]) ∧ Stood w p bm n W_ H tv bv ev f l t w' := by
  refine (callsIn_wide (n := 10)).1 ?_
  refine callsIn_of_wp_marks Tryd.func42 rfl trivial ?_ rfl
  simp only [Tryd.ntmps42, List.size_toArray, List.length_cons, List.length_nil, Nat.reduceAdd, Nat.reduceSub, Array.replicate_succ, Array.replicate_zero, List.push_toArray, List.append_toArray, List.nil_append, List.cons_append]
  have hpl := hd.lt
  have HB0 : Below w.heap.size w ((w.alloc (.cells #[ptr p] 40)).alloc (.cells t.cs.toArray 78)) := box2 _ _ _
  have hsz : ((w.alloc (.cells #[ptr p] 40)).alloc (.cells t.cs.toArray 78)).heap.size = w.heap.size + 2 := by simp
  have P0 : Boxed ((w.alloc (.cells #[ptr p] 40)).alloc (.cells t.cs.toArray 78)) w.heap.size 40 (ptr p) := (Boxed.new w 40 (ptr p)).alloc _
  have F0 : Five ((w.alloc (.cells #[ptr p] 40)).alloc (.cells t.cs.toArray 78)) (w.heap.size + 1) t := by
    have := heap_alloc_new (w.alloc (.cells #[ptr p] 40)) (.cells t.cs.toArray 78)
    simpa [Five] using this
  gi_wp2_with fail
  refine ⟨trivial, ?_⟩
  obtain ⟨W0, hW0⟩ : ∃ W0, (w.alloc (.cells #[ptr p] 40)).alloc (.cells t.cs.toArray 78) = W0 := ⟨_, rfl⟩
  change CallsIn Fence.wide 9 Tryd.prog 62 #[ptr p, .int .i64 t.id] ((w.alloc (.cells #[ptr p] 40)).alloc (.cells t.cs.toArray 78)) _
  rw [hW0] at HB0 hsz P0 F0 ⊢
  clear hW0
  have T0 : Turns NoB w W0 := Turns.of_below HB0
  have hd0 := hd.kept T0 id
  have hw0 := hw.kept T0 id
  have hl0 := hl.kept T0 (fun _ _ => id)
  refine (callsIn_wide.2 (index_any l bv t.id p W0 (hd0.c 5) hl0 hs (by omega))).mono ?_
  rintro e w1 ⟨rfl, hb1⟩
  have T1 : Turns NoB W0 w1 := Turns.of_below hb1
  have hd1 := hd0.kept T1 id
  have hw1 := hw0.kept T1 id
  have hl1 := hl0.kept T1 (fun _ _ => id)
  have P1 := boxed_kept P0 T1 id
  have F1 := F0.kept T1 id
  have hS0 : Sst p w.heap.size t w1 := sst_of P1 F1
  have hS1 : ∀ o, Sst p w.heap.size t (w1.alloc o) := fun o => sst_of (P1.alloc o) (F1.kept (Turns.of_below (S := NoB) (box1 _ _)) id)
  have hne1 := hd1.ne_row hl1 (by decide)
  have hne0 : bv.ownBlock ≠ some w.heap.size := fun e => by
    rcases hl1.2 with ⟨rfl, _⟩ | ⟨g, cap, cur, rfl, hb, hg, _⟩
    · simp [Value.ownBlock] at e
    · simp [Value.ownBlock] at e; subst e; rw [show w1.heap[w.heap.size]? = _ from P1] at hg; simp at hg
  have hne2 : bv.ownBlock ≠ some (w.heap.size + 1) := fun e => by
    have := (hl.lt _ e).2; omega
  have hS2 : ∀ {wx : World} {o : Obj}, (w1.alloc o).drew.grownBy wx bv.ownBlock → Sst p w.heap.size t wx := fun {wx o} hg => by
    have TX : Turns (fun k => bv.ownBlock = some k) (w1.alloc o) wx := (Turns.of_grown (w := (w1.alloc o).drew) hg (fun k e => e)).undrew
    have TO : Turns NoB w1 (w1.alloc o) := Turns.of_below (box1 _ _)
    exact sst_of (boxed_kept (P1.alloc o) TX hne0) ((F1.kept TO id).kept TX hne2)
  have hvb : (w1.alloc (.cells t.cs.toArray 78)).heap[w1.heap.size]? = some (.cells t.cs.toArray 78 (0, 0)) := heap_alloc_new w1 _
  have hlA := hl1.alloc (.cells t.cs.toArray 78)
  have hneA : bv.ownBlock ≠ some w1.heap.size := fun e => by have := (hl1.lt _ e).2; omega
  have hS3 : ∀ {wx : World} {o : Obj} {v : Value}, (w1.alloc o).drew.grownBy wx bv.ownBlock → Sst p w.heap.size t (wx.setCell ⟨p, 5, none⟩ v) := fun {wx o v} hg => by
    have TX : Turns (fun k => bv.ownBlock = some k) (w1.alloc o) wx := (Turns.of_grown (w := (w1.alloc o).drew) hg (fun k e => e)).undrew
    have TO : Turns NoB w1 (w1.alloc o) := Turns.of_below (box1 _ _)
    have TS : Turns (fun k => k = p) wx (wx.setCell ⟨p, 5, none⟩ v) := Turns.set (S := fun k => k = p) wx (p := ⟨p, 5, none⟩) rfl v
    exact sst_of (boxed_kept (boxed_kept (P1.alloc o) TX hne0) TS (by omega)) (((F1.kept TO id).kept TX hne2).kept TS (by omega))
  have hW2 : ∀ {wx : World} {o : Obj}, (w1.alloc o).drew.grownBy wx bv.ownBlock → Wd wx p W_ H tv bv bm ev := fun {wx o} hg => by
    have TX : Turns (fun k => bv.ownBlock = some k) (w1.alloc o) wx := (Turns.of_grown (w := (w1.alloc o).drew) hg (fun k e => e)).undrew
    have TO : Turns NoB w1 (w1.alloc o) := Turns.of_below (box1 _ _)
    exact (hd1.kept TO id).kept TX hne1
  have c5 : w1.cell? ⟨p, 5, none⟩ = some bv := hd1.c 5
  have c5' : ∀ o, (w1.alloc o).cell? ⟨p, 5, none⟩ = some bv := fun o => (hd1.kept (Turns.of_below (S := NoB) (box1 _ o)) id).c 5
  have HI := hide (ins_any l bv t w1.heap.size (w1.alloc (.cells #[.int .i64 t.id, .int .i64 t.x, .int .i64 t.y, .int .i64 t.a, .int .i64 t.b] 78)).drew hlA hlen hvb hneA)
  gi_wp2_with fail
  refine wpIn_wide.2 ?_
  have hneM : bv.ownBlock ≠ some bm := row_ne_map hl hw
  clear hvb hlA hneA
  have hS00 := hS0
  obtain ⟨s0, s3, s4, s5, s6, s7⟩ := hS0
  refine Code.wp_mono (Q := Only (fun a' w' => ∃ w2 g cap, a' = { tmps := #[ptr p, t.v, ptr w.heap.size, ptr (w.heap.size + 1), .int .i64 (pos l t.id : Nat), .bool (found l t.id), undef, .tuple #[.int .i64 (pos l t.id : Nat), .bool (found l t.id)], ptr p, ptr (w.heap.size + 1), .int .i64 t.id, .tuple #[.int .i64 (pos l t.id : Nat), .bool (found l t.id)], .int .i64 (pos l t.id : Nat), .bool (found l t.id), ptr p, ptr p, ptr p, .pointer (some ⟨p, 5, none⟩), bv, .int .i64 (pos l t.id : Nat), t.v, .slice (some ⟨w1.heap.size, 0, none⟩) 1 1, .slice (some ⟨g, 0, none⟩) (l.length + 1) cap, ptr p, .pointer (some ⟨p, 5, none⟩), undef, undef, undef, undef, undef, undef, undef, undef, undef, undef, undef], defers := [] } ∧ w' = w2.setCell ⟨p, 5, none⟩ (.slice (some ⟨g, 0, none⟩) (l.length + 1) cap) ∧ Bds w2 (.slice (some ⟨g, 0, none⟩) (l.length + 1) cap) (ins l t) ∧ (w1.alloc (.cells #[.int .i64 t.id, .int .i64 t.x, .int .i64 t.y, .int .i64 t.a, .int .i64 t.b] 78)).drew.grownBy w2 bv.ownBlock ∧ (bv.ownBlock = some g ∨ (w1.alloc (.cells #[.int .i64 t.id, .int .i64 t.x, .int .i64 t.y, .int .i64 t.a, .int .i64 t.b] 78)).drew.heap.size ≤ g))) ?rest ?_
  case rest =>
    rintro (_ | _ | _ | _ | _) a' w' hO
    all_goals first | exact hO.elim | skip
    obtain ⟨w2, g, cap, rfl, rfl, hb2, hg2, hloc⟩ := hO
    have TX : Turns (fun k => bv.ownBlock = some k) (w1.alloc (.cells t.cs.toArray 78)) w2 := (Turns.of_grown (w := (w1.alloc (.cells t.cs.toArray 78)).drew) hg2 (fun k e => e)).undrew
    have TO : Turns NoB w1 (w1.alloc (.cells t.cs.toArray 78)) := Turns.of_below (box1 _ _)
    have hd2 := hW2 hg2
    have hw2 : Who w2 bm n f := (hw1.kept TO id).kept TX hneM
    have hd3 := hd2.set5 (.slice (some ⟨g, 0, none⟩) (l.length + 1) cap)
    have TS : Turns (fun k => k = p) w2 (w2.setCell ⟨p, 5, none⟩ (.slice (some ⟨g, 0, none⟩) (l.length + 1) cap)) := Turns.set (S := fun k => k = p) w2 (p := ⟨p, 5, none⟩) rfl _
    have hw3 := hw2.kept TS (hd.ne_map hw)
    have hl3 := hb2.kept TS (fun k e => by
      have := hd2.ne_row hb2 (by decide)
      rintro rfl
      exact this e)
    have P3 := boxed_kept (boxed_kept (P1.alloc (.cells t.cs.toArray 78)) TX hne0) TS (by omega)
    have F3 := ((F1.kept TO id).kept TX hne2).kept TS (by omega)
    obtain ⟨w3, hw3e⟩ : ∃ w3, w2.setCell ⟨p, 5, none⟩ (.slice (some ⟨g, 0, none⟩) (l.length + 1) cap) = w3 := ⟨_, rfl⟩
    have hsz3 : w1.heap.size + 1 ≤ w3.heap.size := by rw [← hw3e]; have := TX.size; simp [World.setCell] at this ⊢; omega
    have T3 : Turns (fun k => k = p ∨ bv.ownBlock = some k) w w3 := by
      refine ((((T0.mono (fun _ _ h => h.elim)).trans ((T1.mono (fun _ _ h => h.elim)))).trans (TO.mono (fun _ _ h => h.elim))).trans (TX.mono (fun k _ h => .inl (.inr h)))).trans ?_
      rw [← hw3e]
      exact TS.mono (fun k _ h => .inl (.inl h))
    rw [hw3e] at hd3 hw3 hl3 P3 F3 TS ⊢
    clear hw3e TS TX TO hd2 hw2 hb2 hg2
    have e0 := F3.c 0
    have e1 := F3.c 1
    have e2 := F3.c 2
    have e3 := F3.c 3
    have e4 := F3.c 4
    dsimp only [Bd.cs, List.getElem?_cons_zero, List.getElem?_cons_succ] at e0 e1 e2 e3 e4
    gi_wp2_with fail
    refine ⟨trivial, ?_⟩
    refine (callsIn_wide.2 (cells_any _ _ _ _ _)).mono ?_
    rintro e w4 ⟨rfl, rfl⟩
    gi_wp2_with fail
    have hbl := hw3.lt
    have hpl3 := hd3.lt
    have hPl := P3.lt
    have FB : Four (w3.alloc (.cells #[.int .i64 t.x, .int .i64 t.y, .int .i64 t.a, .int .i64 t.b] 67)) w3.heap.size t.x t.y t.a t.b := cells4 (Below.refl _ _)
    have TA : Turns NoB w3 (w3.alloc (.cells #[.int .i64 t.x, .int .i64 t.y, .int .i64 t.a, .int .i64 t.b] 67)) := Turns.of_below (box1 _ _)
    have hsz4 : (w3.alloc (.cells #[.int .i64 t.x, .int .i64 t.y, .int .i64 t.a, .int .i64 t.b] 67)).heap.size = w3.heap.size + 1 := by simp
    have hw4 := hw3.kept TA id
    have hd4 := hd3.kept TA id
    have hl4 := hl3.kept TA (fun _ _ => id)
    have P4 := boxed_kept P3 TA id
    have F4 := F3.kept TA id
    have T4 : Turns (fun k => k = p ∨ bv.ownBlock = some k) w (w3.alloc (.cells #[.int .i64 t.x, .int .i64 t.y, .int .i64 t.a, .int .i64 t.b] 67)) := T3.trans (TA.mono (fun _ _ h => h.elim))
    obtain ⟨w4, hw4e⟩ : ∃ w4, w3.alloc (.cells #[.int .i64 t.x, .int .i64 t.y, .int .i64 t.a, .int .i64 t.b] 67) = w4 := ⟨_, rfl⟩
    rw [hw4e] at FB hsz4 hw4 hd4 hl4 P4 F4 T4 TA ⊢
    clear hw4e e0 e1 e2 e3 e4 HI hS1 hS2 hS3 hW2 c5' s0 s3 s4 s5 s6 s7 hS00 c5 hw0 hd0 hl0 hw1 hd1 hl1 P0 P1 F0 F1
    obtain ⟨L, hL⟩ : ∃ L, allC t.x t.y t.a t.b = L := ⟨_, rfl⟩
    have hseq := cells_stops (10 - 1) w3.heap.size L.length t.x t.y t.a t.b w4 FB (by rw [← hL]; exact allC_le)
    rw [hL] at hseq hn
    refine wpIn_rangeFunc_ownH rfl (by omega) (gf := 84) (lb := #[ptr w3.heap.size]) rfl trivial (enters_of Tryd.func84 (by kernel_rfl) rfl)
      hseq kB_t (kB_b (by omega)) (Below.refl _ _) (fun _ => rfl)
      (fun pre W => Who W bm (n + pre.length) (putAll f pre t.id) ∧ Turns (fun k => k = bm) w4 W)
      (fun c pre W => False)
      (OwnFrom.and (ownFrom_who (by omega)) (ownFrom_turns (Nat.le_refl _)))
      (fun c s X Y row hs hg hr => hs)
      ⟨by rw [putAll_nil]; exact hw4, Turns.refl _ _⟩
      (fun q a' W => ∃ Bx, w4.heap.size ≤ Bx ∧ Two W Bx q.1.1 q.1.2 ∧ a' = { tmps := #[ptr p, t.v, ptr w.heap.size, ptr (w.heap.size + 1), .int .i64 (pos l t.id : Nat), .bool (found l t.id), ptr Bx, .tuple #[.int .i64 (pos l t.id : Nat), .bool (found l t.id)], ptr p, ptr (w.heap.size + 1), .int .i64 t.id, .tuple #[.int .i64 (pos l t.id : Nat), .bool (found l t.id)], .int .i64 (pos l t.id : Nat), .bool (found l t.id), ptr p, ptr p, ptr p, .pointer (some ⟨p, 5, none⟩), bv, .int .i64 (pos l t.id : Nat), t.v, .slice (some ⟨w1.heap.size, 0, none⟩) 1 1, .slice (some ⟨g, 0, none⟩) (l.length + 1) cap, ptr p, .pointer (some ⟨p, 5, none⟩), .pointer (some ⟨w.heap.size + 1, 1, none⟩), rct t.x t.y t.a t.b, .func (.func 84) #[] #[ptr w3.heap.size], cel q.1.1 q.1.2, undef, undef, undef, undef, undef, undef, undef], defers := [] })
      (fun q a' _ X Y row hs hg hr => by obtain ⟨Bx, e1, e2, e3⟩ := hs; exact ⟨Bx, e1, e2.own hg (fun r e => (hr r e).2), e3⟩)
      ?assign ?body ?done ?stop
    case assign =>
      rintro l pre q W K ⟨hwh, hT⟩ hK
      have hsB := hT.size
      gi_wp2
      exact hK _ _ ((KeepsOthers.alloc _ _).from _) (Below.heap_alloc _ _ _ (by omega)) ⟨hwh.kept (Turns.of_below (S := NoB) (box1 _ _)) id, hT.trans (Turns.of_below (box1 _ _))⟩ ⟨W.heap.size, by omega, Two.newAt rfl, rfl⟩
    case body =>
      rintro lo pre q a' W hl ⟨r, hr⟩ ⟨hwh, hT⟩ ⟨Bx, hBx, bX, rfl⟩ hlt
      have hsB := hT.size
      have hbp : bm ≠ p := hd4.ne_map hw4
      have hdW := hd4.kept hT (fun e => hbp e.symm)
      have PW := boxed_kept P4 hT (by have := P4.lt; intro e; have h1 := hw.lt; omega)
      have FW := F4.kept hT (by intro e; have h1 := hw.lt; omega)
      obtain ⟨W1, hput, hw5, hg5⟩ := (show Who W.drew bm (n + pre.length) (putAll f pre t.id) from hwh).put q.2.1 q.2.2 hid (by omega)
      have d0 := bX.1.1
      have d1 := bX.1.2
      have c0 := PW.cell
      have c6 : W.cell? ⟨p, 6, none⟩ = some (.map (some bm)) := hdW.c 6
      have e0 : W.cell? ⟨w.heap.size + 1, 0, none⟩ = some (.int .i64 t.id) := FW.c 0
      have KF : KeepsFrom w4.heap.size W W1 := ⟨hg5.size, fun k o hB hk ho => (hg5.block k (Array.getElem?_eq_some_iff.1 hk).1 (fun e => by cases e; omega)).trans hk⟩
      have KK : KB w3.heap.size W W1 := hg5.block w3.heap.size (show w3.heap.size < W.heap.size by omega) (fun e => by cases e; omega)
      have hI : Who W1 bm (n + (pre ++ [q]).length) (putAll f (pre ++ [q]) t.id) ∧ Turns (fun k => k = bm) w4 W1 :=
        ⟨by rw [putAll_snoc, List.length_append, ← Nat.add_assoc]; exact hw5, hT.trans ((Turns.of_grown (w := W.drew) hg5 (fun k e => by cases e; exact .inl rfl)).undrew)⟩
      have HI := hide hI
      clear hg5 hw5 hwh hdW PW FW hI
      gi_wp2_with fail
      gi_region
      all_goals
        gi_wp2
        exact ⟨KF, KK, HI.out⟩
    case done =>
      rintro D xs W hD hxs ⟨hwh, hT⟩ hK
      rw [hxs] at hwh
      have hdp : D ≠ p := by omega
      have hdb : D ≠ bm := by omega
      have TD : Turns (fun k => k = D) W (W.putObj D (.deferred none)) := Turns.of_grown (grownBy_putObj' W D (.deferred none)) (fun k e => by cases e; rfl)
      have hbp : bm ≠ p := hd4.ne_map hw4
      have hrowlt := hl4.lt g rfl
      have hSt : Stood w p bm n W_ H tv bv ev f l t (W.putObj D (.deferred none)) := by
        refine ⟨g, cap, (hd4.kept hT (fun e => hbp e.symm)).kept TD (fun e => hdp e.symm), (hl4.kept hT (fun k e h => ?_)).kept TD (fun k e h => ?_), ?_, ?_, ?_⟩
        · subst h; exact row_ne_map hl4 hw4 e
        · simp [Value.ownBlock] at e; omega
        · rw [hL]; exact hwh.kept TD (fun e => hdb e.symm)
        · refine ((T4.mono (fun k _ h => h.elim .inl (fun h => .inr (.inr h)))).trans (hT.mono (fun k _ h => .inl (.inr (.inl h))))).trans (TD.mono (fun k _ h => .inr ?_))
          have h1 := T4.size
          omega
        · rcases hloc with h | h
          · exact .inl h
          · right
            have h1 := T1.size
            have : w1.heap.size + 1 ≤ g := by simpa using h
            omega
      have HS := hide hSt
      clear hSt
      gi_wp2_with fail
      refine ⟨by simp, .inl ⟨_, _, rfl, run_takeDeferred hK, ?_⟩⟩
      exact ⟨.tuple #[], by simp [results, Tryd.f42, go_sem], rfl, HS.out⟩
    case stop =>
      rintro D c pre W hD hpre hIx hK
      exact hIx.elim
  refine wp_region_held_drew (S := fun w' => w'.cell? ⟨w.heap.size, 0, none⟩ = some (ptr p) ∧
      (w'.cell? ⟨w.heap.size + 1, 0, none⟩ = some (.int .i64 t.id) ∧ w'.cell? ⟨w.heap.size + 1, 1, none⟩ = some (.int .i64 t.x) ∧ w'.cell? ⟨w.heap.size + 1, 2, none⟩ = some (.int .i64 t.y) ∧ w'.cell? ⟨w.heap.size + 1, 3, none⟩ = some (.int .i64 t.a) ∧ w'.cell? ⟨w.heap.size + 1, 4, none⟩ = some (.int .i64 t.b))) (by kernel_rfl) hS00 (fun hHeld => ?_)
  refine wpAnyH_take (i := 0) (v := ?_) rfl (by kernel_rfl) (by kernel_rfl) (by kernel_rfl) (fun _ _ _ h => h.elim) (Or.inl ⟨by rfl, ?_⟩) (by assumption) ?_
  rotate_left
  · intro wx hSw
    try dsimp only at hSw
    go_simp
    try with_reducible rfl
  try simp only [Act.put, List.getElem_toArray, List.getElem_cons_zero, List.setIfInBounds_toArray, List.set_cons_zero, List.set_cons_succ]
  refine wpAnyH_take (i := 1) (v := ?_) rfl (by kernel_rfl) (by kernel_rfl) (by kernel_rfl) (fun _ _ _ h => h.elim) (Or.inl ⟨by rfl, ?_⟩) (by assumption) ?_
  rotate_left
  · intro wx hSw
    try dsimp only at hSw
    go_simp
    try with_reducible rfl
  try simp only [Act.put, List.getElem_toArray, List.getElem_cons_zero, List.getElem_cons_succ, List.setIfInBounds_toArray, List.set_cons_zero, List.set_cons_succ]
  refine wpAnyH_take (i := 2) (v := ?_) rfl (by kernel_rfl) (by kernel_rfl) (by kernel_rfl) (fun _ _ _ h => h.elim) (Or.inl ⟨by rfl, ?_⟩) (by assumption) ?_
  rotate_left
  · intro wx hSw
    try dsimp only at hSw
    go_simp
    try with_reducible rfl
  try simp only [Act.put, List.getElem_toArray, List.getElem_cons_zero, List.getElem_cons_succ, List.setIfInBounds_toArray, List.set_cons_zero, List.set_cons_succ]
  refine wpAnyH_take (i := 3) (v := ?_) rfl (by kernel_rfl) (by kernel_rfl) (by kernel_rfl) (fun _ _ _ h => h.elim) (Or.inl ⟨by rfl, ?_⟩) (by assumption) ?_
  rotate_left
  · intro wx hSw
    try dsimp only at hSw
    go_simp
    try with_reducible rfl
  try simp only [Act.put, List.getElem_toArray, List.getElem_cons_zero, List.getElem_cons_succ, List.setIfInBounds_toArray, List.set_cons_zero, List.set_cons_succ]
  refine wpAnyH_take (i := 5) (v := ?_) rfl (by kernel_rfl) (by kernel_rfl) (by kernel_rfl) (fun _ _ _ h => h.elim) (Or.inl ⟨by rfl, ?_⟩) (by assumption) ?_
  rotate_left
  · intro wx hSw
    try dsimp only at hSw
    go_simp
    try with_reducible rfl
  try simp only [Act.put, List.getElem_toArray, List.getElem_cons_zero, List.getElem_cons_succ, List.setIfInBounds_toArray, List.set_cons_zero, List.set_cons_succ]
  refine wpAnyH_take (i := 6) (v := ?_) rfl (by kernel_rfl) (by kernel_rfl) (by kernel_rfl) (fun _ _ _ h => h.elim) (Or.inl ⟨by rfl, ?_⟩) (by assumption) ?_
  rotate_left
  · intro wx hSw
    try dsimp only at hSw
    go_simp
    try with_reducible rfl
  try simp only [Act.put, List.getElem_toArray, List.getElem_cons_zero, List.getElem_cons_succ, List.setIfInBounds_toArray, List.set_cons_zero, List.set_cons_succ]
  refine wpAnyH_ready (rs := [4, 7]) (by kernel_rfl) (by simp) ?_
  refine AllReadyH.cons rfl (fun K hK => ?_) ?_
  · go_simp
    refine hK.out _ _ ?_ (fun hHeld => ?_)
    · first | exact hS00 | exact hS1 _ | exact hS2 (by assumption) | exact hS3 (by assumption)
    clear hK K
    try simp only [Act.put, List.getElem_toArray, List.getElem_cons_zero, List.getElem_cons_succ, List.setIfInBounds_toArray, List.set_cons_zero, List.set_cons_succ]
    refine wpAnyH_ready (rs := [7]) (by kernel_rfl) (by simp) ?_
    refine AllReadyH.cons rfl (fun K hK => ?_) ?_
    · go_simp
      refine hK.out _ _ ?_ (fun hHeld => ?_)
      · first | exact hS00 | exact hS1 _ | exact hS2 (by assumption) | exact hS3 (by assumption)
      clear hK K
      try simp only [Act.put, List.getElem_toArray, List.getElem_cons_zero, List.getElem_cons_succ, List.setIfInBounds_toArray, List.set_cons_zero, List.set_cons_succ]
      refine wpAnyH_ready (rs := [8]) (by kernel_rfl) (by simp) ?_
      refine AllReadyH.cons rfl (fun K hK => ?_) ?_
      · go_simp
        refine HI.out.mono ?_
        rintro e w2 ⟨g, cap, rfl, hb2, hg2, hloc⟩
        have hd2 := hW2 hg2
        have c52 : w2.cell? ⟨p, 5, none⟩ = some bv := hd2.c 5
        have f52 := hd2.f 5
        try go_wp2_with fail
        refine hK.out _ _ ?_ (fun hHeld => ?_)
        · first | exact hS00 | exact hS1 _ | exact hS2 (by assumption) | exact hS3 (by assumption)
        clear hK K
        try simp only [Act.put, List.getElem_toArray, List.getElem_cons_zero, List.getElem_cons_succ, List.setIfInBounds_toArray, List.set_cons_zero, List.set_cons_succ]
        refine wpAnyH_take (i := 9) (v := ?_) rfl (by kernel_rfl) (by kernel_rfl) (by kernel_rfl) (fun _ _ _ h => h.elim) (Or.inl ⟨by rfl, ?_⟩) (by assumption) ?_
        rotate_left
        · intro wx hSw
          try dsimp only at hSw
          go_simp
          try with_reducible rfl
        try simp only [Act.put, List.getElem_toArray, List.getElem_cons_zero, List.getElem_cons_succ, List.setIfInBounds_toArray, List.set_cons_zero, List.set_cons_succ]
        refine wpAnyH_take (i := 10) (v := ?_) rfl (by kernel_rfl) (by kernel_rfl) (by kernel_rfl) (fun _ _ _ h => h.elim) (Or.inl ⟨by rfl, ?_⟩) (by assumption) ?_
        rotate_left
        · intro wx hSw
          try dsimp only at hSw
          go_simp
          try with_reducible rfl
        try simp only [Act.put, List.getElem_toArray, List.getElem_cons_zero, List.getElem_cons_succ, List.setIfInBounds_toArray, List.set_cons_zero, List.set_cons_succ]
        refine wpAnyH_ready (rs := [11]) (by kernel_rfl) (by simp) ?_
        refine AllReadyH.cons rfl (fun K hK => ?_) ?_
        · go_simp
          refine hK.out _ _ ?_ (fun hHeld => ?_)
          · first | exact hS00 | exact hS1 _ | exact hS2 (by assumption) | exact hS3 (by assumption)
          clear hK K
          try simp only [Act.put, List.getElem_toArray, List.getElem_cons_zero, List.getElem_cons_succ, List.setIfInBounds_toArray, List.set_cons_zero, List.set_cons_succ]
          refine wpAnyH_done (by kernel_rfl) ?_ _
          exact ⟨w2, g, cap, rfl, rfl, hb2, hg2, hloc⟩
        exact AllReadyH.nil
      exact AllReadyH.nil
    exact AllReadyH.nil
  refine AllReadyH.cons rfl (fun K hK => ?_) ?_
  · go_simp
    refine hK.out _ _ ?_ (fun hHeld => ?_)
    · first | exact hS00 | exact hS1 _ | exact hS2 (by assumption) | exact hS3 (by assumption)
    clear hK K
    try simp only [Act.put, List.getElem_toArray, List.getElem_cons_zero, List.getElem_cons_succ, List.setIfInBounds_toArray, List.set_cons_zero, List.set_cons_succ]
    refine wpAnyH_ready (rs := [4]) (by kernel_rfl) (by simp) ?_
    refine AllReadyH.cons rfl (fun K hK => ?_) ?_
    · go_simp
      refine hK.out _ _ ?_ (fun hHeld => ?_)
      · first | exact hS00 | exact hS1 _ | exact hS2 (by assumption) | exact hS3 (by assumption)
      clear hK K
      try simp only [Act.put, List.getElem_toArray, List.getElem_cons_zero, List.getElem_cons_succ, List.setIfInBounds_toArray, List.set_cons_zero, List.set_cons_succ]
      refine wpAnyH_ready (rs := [8]) (by kernel_rfl) (by simp) ?_
      refine AllReadyH.cons rfl (fun K hK => ?_) ?_
      · go_simp
        refine HI.out.mono ?_
        rintro e w2 ⟨g, cap, rfl, hb2, hg2, hloc⟩
        have hd2 := hW2 hg2
        have c52 : w2.cell? ⟨p, 5, none⟩ = some bv := hd2.c 5
        have f52 := hd2.f 5
        try go_wp2_with fail
        refine hK.out _ _ ?_ (fun hHeld => ?_)
        · first | exact hS00 | exact hS1 _ | exact hS2 (by assumption) | exact hS3 (by assumption)
        clear hK K
        try simp only [Act.put, List.getElem_toArray, List.getElem_cons_zero, List.getElem_cons_succ, List.setIfInBounds_toArray, List.set_cons_zero, List.set_cons_succ]
        refine wpAnyH_take (i := 9) (v := ?_) rfl (by kernel_rfl) (by kernel_rfl) (by kernel_rfl) (fun _ _ _ h => h.elim) (Or.inl ⟨by rfl, ?_⟩) (by assumption) ?_
        rotate_left
        · intro wx hSw
          try dsimp only at hSw
          go_simp
          try with_reducible rfl
        try simp only [Act.put, List.getElem_toArray, List.getElem_cons_zero, List.getElem_cons_succ, List.setIfInBounds_toArray, List.set_cons_zero, List.set_cons_succ]
        refine wpAnyH_take (i := 10) (v := ?_) rfl (by kernel_rfl) (by kernel_rfl) (by kernel_rfl) (fun _ _ _ h => h.elim) (Or.inl ⟨by rfl, ?_⟩) (by assumption) ?_
        rotate_left
        · intro wx hSw
          try dsimp only at hSw
          go_simp
          try with_reducible rfl
        try simp only [Act.put, List.getElem_toArray, List.getElem_cons_zero, List.getElem_cons_succ, List.setIfInBounds_toArray, List.set_cons_zero, List.set_cons_succ]
        refine wpAnyH_ready (rs := [11]) (by kernel_rfl) (by simp) ?_
        refine AllReadyH.cons rfl (fun K hK => ?_) ?_
        · go_simp
          refine hK.out _ _ ?_ (fun hHeld => ?_)
          · first | exact hS00 | exact hS1 _ | exact hS2 (by assumption) | exact hS3 (by assumption)
          clear hK K
          try simp only [Act.put, List.getElem_toArray, List.getElem_cons_zero, List.getElem_cons_succ, List.setIfInBounds_toArray, List.set_cons_zero, List.set_cons_succ]
          refine wpAnyH_done (by kernel_rfl) ?_ _
          exact ⟨w2, g, cap, rfl, rfl, hb2, hg2, hloc⟩
        exact AllReadyH.nil
      exact AllReadyH.nil
    exact AllReadyH.nil
  exact AllReadyH.nil
end Go.Proofs.YtekpamilcpeanaaDoor
