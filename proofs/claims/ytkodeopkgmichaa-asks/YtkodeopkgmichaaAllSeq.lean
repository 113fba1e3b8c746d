/-
  All's function: the units by rising numbers; a range over it whose rounds may turn what they made themselves.
-/
import Derived.Test.YtkodeopkgmichaaSortB
namespace Go.Proofs.Ytkodeopkgmichaa
open Go.RowKit Go.Shelf
set_option linter.unusedVariables false
set_option linter.unusedSimpArgs false
attribute [local go_sem] Oper.semAt_some
def BdAt (w : World) (a : Option Addr) (i : Nat) (t : Bd) : Prop :=
  ∃ g, a = some ⟨g, 0, none⟩ ∧ g < w.heap.size ∧ w.cell? ⟨g, i * 5, none⟩ = some (.int .i64 t.id) ∧ w.cell? ⟨g, i * 5 + 1, none⟩ = some (.int .i64 t.r.x) ∧ w.cell? ⟨g, i * 5 + 2, none⟩ = some (.int .i64 t.r.y) ∧
    w.cell? ⟨g, i * 5 + 3, none⟩ = some (.int .i64 t.r.a) ∧ w.cell? ⟨g, i * 5 + 4, none⟩ = some (.int .i64 t.r.b)
theorem Bds.form {w : World} {v : Value} {l : List Bd} (h : Bds w v l) :
    ∃ a cap, v = .slice a l.length cap ∧ l.length ≤ cap ∧ cap ≤ maxLen ∧ ∀ i t, l[i]? = some t → BdAt w a i t := by
  rcases h.2 with ⟨e, h0⟩ | ⟨g, cap, cur, e, hb, hg, hn, hm, hs, ht⟩
  · exact ⟨none, 0, by rw [h0]; exact e, by omega, by decide, fun i t hi => by
      have := List.eq_nil_of_length_eq_zero h0; subst this; simp at hi⟩
  · refine ⟨_, cap, e, hn, hm, fun i t hi => ?_⟩
    have hc : ∀ j u, t.cs[j]? = some u → j < 5 → w.cell? ⟨g, i * 5 + j, none⟩ = some u := fun j u hu hj => by
      have := World.ownsRow.cells h (g := g) (by rw [e]; rfl) (i * 5 + j) u (by rw [cs_get l i t j hi hj]; exact hu)
      simpa [Addr.add_lit] using this
    exact ⟨g, rfl, (Array.getElem?_eq_some_iff.1 hg).1, hc 0 _ rfl (by omega), hc 1 _ rfl (by omega), hc 2 _ rfl (by omega), hc 3 _ rfl (by omega), hc 4 _ rfl (by omega)⟩
abbrev encT (u : Bd) : Array Value := #[.int .i64 u.id, u.r.v]
/-- The blocks from B up to C lie as they lay. -/
def Kr (B C : Nat) (X Y : World) : Prop := X.heap.size ≤ Y.heap.size ∧ ∀ k, B ≤ k → k < C → k < X.heap.size → Y.heap[k]? = X.heap[k]?
theorem Kr.refl (B C : Nat) (X : World) : Kr B C X X := ⟨Nat.le_refl _, fun _ _ _ _ => rfl⟩
theorem Kr.trans {B C : Nat} {X Y Z : World} (h : Kr B C X Y) (k : Kr B C Y Z) : Kr B C X Z := ⟨Nat.le_trans h.1 k.1, fun i h1 h2 hl => (k.2 i h1 h2 (Nat.lt_of_lt_of_le hl h.1)).trans (h.2 i h1 h2 hl)⟩
theorem Kr.of_turns {B C : Nat} {T : Nat → Prop} {X Y : World} (h : Turns T X Y) (hT : ∀ k, B ≤ k → k < C → k < X.heap.size → ¬ T k) : Kr B C X Y := ⟨h.size, fun k h1 h2 hl => h.block k hl (hT k h1 h2 hl)⟩
theorem Kr.of_below {B C : Nat} {X Y : World} (h : Below X.heap.size X Y) : Kr B C X Y := ⟨h.size, fun k _ _ hl => h.block k hl⟩
theorem Kr.mono {B B' C : Nat} {X Y : World} (h : Kr B C X Y) (hB : B ≤ B') : Kr B' C X Y := ⟨h.1, fun k h1 h2 => h.2 k (Nat.le_trans hB h1) h2⟩
theorem Kr.put {B C : Nat} (X : World) {l : Nat} (o : Obj) (hl : l < B) : Kr B C X (X.putObj l o) := ⟨by simp, fun k hB _ _ => World.putObj_heap_other (by omega)⟩
set_option maxRecDepth 100000 in
set_option maxHeartbeats 2000000 in
theorem all_seq (n c p fm bm m l : Nat) (L : List Bd) (J : Nat → List Bd → World → Prop) (W : World) (hc : Boxed W c 24 (ptr p)) (hs : St W p fm bm m L)
    (hJ0 : ∀ W1, Below W.heap.size W W1 → J W1.heap.size [] W1) (hJ : ∀ C pre X Y, J C pre X → Below X.heap.size X Y → J C pre Y)
    (hY : ∀ C pre x X, J C pre X → pre ++ [x] <+: L → C ≤ X.heap.size → YieldAt Fence.wide (n - 1) Try.prog l (encT x) X fun e Y => Kr W.heap.size C X Y ∧ e = .returned (.bool true) ∧ J C (pre ++ [x]) Y) :
    CallsIn Fence.wide n Try.prog 38 #[.func (.yield l) #[] #[], ptr c] W fun e Y => (∃ z, e = .returned z) ∧ ∃ C, J C L Y := by
  refine callsIn_of_wp Try.func38 rfl trivial ?_ rfl
  simp only [Try.ntmps38, List.size_toArray, List.length_cons, List.length_nil, Nat.reduceAdd, Nat.reduceSub, Array.replicate_succ, Array.replicate_zero, List.push_toArray, List.append_toArray, List.nil_append, List.cons_append]
  have c0 := hc.cell
  have HMd := hide (made_yes p fm W hs.ix.c0)
  have HIn := hide (inorder_is hs)
  have hlen := hs.fine.len
  have HJ := hide hJ
  have HY := hide hY
  have HJ0 := hide hJ0
  clear hJ hY hJ0 hs
  gi_wp2_with fail
  refine ⟨trivial, fun h => (by cases h), ?_⟩
  refine (callsIn_wide.2 HMd.out).mono ?_
  rintro e Z ⟨rfl, hz⟩
  rw [hz]
  clear hz Z HMd
  gi_wp2_with fail
  refine ⟨trivial, fun h => (by cases h), ?_⟩
  refine (callsIn_wide.2 HIn.out).mono ?_
  rintro e w1 ⟨v, kb, rfl, hvb, hkb, hr, hb1⟩
  obtain ⟨a1, cap1, rfl, hc1, hc2, hat⟩ := hr.form
  have kl : (0 : Int) ≤ (L.length : Nat) ∧ ((L.length : Nat) : Int) ≤ 256 := by omega
  have hge : ∀ g, a1 = some ⟨g, 0, none⟩ → W.heap.size ≤ g := fun g e => by subst e; simp [Value.ownBlock] at hvb; omega
  have j1 := HJ0.out w1 hb1
  have Hat := hide hat
  have Hge := hide hge
  clear HIn c0 hr hat hge hvb hkb
  gi_wp2_with fail
  gi_loopw [11] (fun d wr => ∃ k : Nat, k ≤ L.length ∧ d = .int .i64 k ∧ J w1.heap.size (L.take k) wr ∧ Kr W.heap.size w1.heap.size w1 wr) (fun d _ => L.length - (intOf d).toNat)
  case atStart => exact ⟨0, Nat.zero_le _, rfl, by rw [List.take_zero]; exact j1, Kr.refl _ _ _⟩
  case round =>
    obtain ⟨k, hk, rfl, hJk, hKk⟩ := hrel
    by_cases hlt : k < L.length
    · obtain ⟨t, ht⟩ : ∃ t, L[k]? = some t := ⟨_, List.getElem?_eq_getElem hlt⟩
      obtain ⟨g, rfl, hg, d0, d1, d2, d3, d4⟩ := Hat.out k t ht
      have hgb : wr.heap[g]? = w1.heap[g]? := hKk.2 g (Hge.out g rfl) hg hg
      have hcc := fun o => World.cell?_of_block (a := ⟨g, o, none⟩) hgb
      have e0 := (hcc _).trans d0
      have e1 := (hcc _).trans d1
      have e2 := (hcc _).trans d2
      have e3 := (hcc _).trans d3
      have e4 := (hcc _).trans d4
      have htk : L.take (k + 1) = L.take k ++ [t] := by rw [List.take_add_one, ht]; rfl
      have hki : (k : Int) < (L.length : Nat) := by omega
      have B5 : Below wr.heap.size wr (wr.alloc (.cells #[.int .i64 t.id, .int .i64 t.r.x, .int .i64 t.r.y, .int .i64 t.r.a, .int .i64 t.r.b] 83)) := box1 _ _
      have F5 : ∀ j, (wr.alloc (.cells #[.int .i64 t.id, .int .i64 t.r.x, .int .i64 t.r.y, .int .i64 t.r.a, .int .i64 t.r.b] 83)).cell? ⟨wr.heap.size, j, none⟩ = #[.int .i64 t.id, .int .i64 t.r.x, .int .i64 t.r.y, .int .i64 t.r.a, .int .i64 t.r.b][j]? := fun j => cell_of_row _ wr.heap.size j _ _ _ (heap_alloc_new wr _)
      obtain ⟨fn, tmps, assign, body, hy, hRd⟩ := HY.out w1.heap.size (L.take k) t _ (HJ.out _ _ _ _ hJk B5) (by rw [← htk]; exact List.take_prefix _ _) (by have := hKk.1; simp; omega)
      have f0 := F5 0
      have f1 := F5 1
      have f2 := F5 2
      have f3 := F5 3
      have f4 := F5 4
      simp only [List.getElem?_toArray, List.getElem?_cons_zero, List.getElem?_cons_succ] at f0 f1 f2 f3 f4
      dsimp only [encT] at hy
      have HKk := hide (hKk.trans (Kr.of_below B5))
      have HRd := hide hRd
      clear hcc hgb d0 d1 d2 d3 d4 F5 B5 hKk hRd
      gi_wp2_with fail
      refine ⟨fun h => (by cases h), ?_⟩
      refine HRd.out.mono ?_
      rintro e W3 ⟨hk3, rfl, hJ3⟩
      have HJ3 := hide hJ3
      have HK3 := hide (HKk.out.trans hk3)
      clear hJ3 hk3 f0 f1 f2 f3 f4 hy
      gi_wp2_with fail
      go_roundw
      case rel => exact ⟨k + 1, by omega, by go_num, by rw [htk]; exact HJ3.out, HK3.out⟩
      case measure => simp [intOf]; omega
    · have hkb : k = L.length := by omega
      subst hkb
      gi_wp2_with fail
      go_end0
      exact ⟨⟨_, rfl⟩, _, by rw [List.take_length] at hJk; exact hJk⟩
end Go.Proofs.Ytkodeopkgmichaa
