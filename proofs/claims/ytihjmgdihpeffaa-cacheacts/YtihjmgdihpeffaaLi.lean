/-
  Both caches side by side: what a round of acts keeps. Acts, as they lie in memory.
-/
import Derived.Test.YtihjmgdihpeffaaRputE
import Derived.Test.YtihjmgdihpeffaaAl
namespace Go.Proofs.Ytihjmgdihpeffaa
open Go.RowKit
set_option linter.unusedVariables false
set_option linter.unusedSimpArgs false
/-- An act. -/
structure Ac where
  g : Bool
  q : K6
  e : Int
  o : Int
  a : Option Addr
  n : Nat
  c : Nat
  P : List (Int × Int)
def acCs (t : Ac) : List Value := [.bool t.g, .int .i64 t.q.1, .int .i64 t.q.2.1, .int .i64 t.q.2.2.1, .int .i64 t.q.2.2.2.1, .int .i64 t.q.2.2.2.2.1, .int .i64 t.q.2.2.2.2.2, .int .i64 t.e, .int .i64 t.o, .slice t.a t.n t.c]
theorem acCs_len (t : Ac) : (acCs t).length = 10 := rfl
/-- The slice v reads as the acts l. -/
def AcR (w : World) (v : Value) (l : List Ac) : Prop := Rd 10 acCs w v l ∧ ∀ t ∈ l, W6 t.q ∧ CeR w (.slice t.a t.n t.c) t.P ∧ t.P.length * 16 ≤ 140737488355328
theorem Rd.low {α : Type} {k : Nat} {cs : α → List Value} {w w' : World} {v : Value} {l : List α} {B : Nat} (h : Rd k cs w v l) (hb : Below B w w') (hB : w.heap.size ≤ B) : Rd k cs w' v l := h.kept (hb.mono hB)
theorem AcR.kept {w w' : World} {v : Value} {l : List Ac} (h : AcR w v l) (hb : Below w.heap.size w w') : AcR w' v l := ⟨h.1.kept hb, fun t ht => ⟨(h.2 t ht).1, (h.2 t ht).2.1.kept hb, (h.2 t ht).2.2⟩⟩
/-- Both caches, and the boxes of the law. -/
structure LI (n h b c m d : Nat) (room : Int) (ov kx wx : Value) (ep : Int) (F : K6 → Value) (L : List En) (er : Int) (U : List Wv) (R : List En) (w : World) : Prop where
  pc : PC w c m ov room ep F L
  rc : RC w d kx wx room er U R
  ne : ∀ g, ov.ownBlock = some g → kx.ownBlock ≠ some g
  bh : Bk w h 4 [.bool false]
  bb : Bk w b 28 [ptr d]
  lo : ∀ g, PB c m ov g → n ≤ g
  ld : n ≤ d
section
variable {n h b c m d : Nat} {room : Int} {ov kx wx : Value} {ep : Int} {F : K6 → Value} {L : List En} {er : Int} {U : List Wv} {R : List En} {w w' : World}
theorem LI.upto (i : LI n h b c m d room ov kx wx ep F L er U R w) (hb : Below w.heap.size w w') : LI n h b c m d room ov kx wx ep F L er U R w' :=
  ⟨i.pc.upto hb, i.rc.upto hb, i.ne, i.bh.upto hb, i.bb.upto hb, i.lo, i.ld⟩
/-- A block of cells of another type is none of the cache's. -/
theorem PC.other (hp : PC w c m ov room ep F L) {g t : Nat} {l : List Value} (hg : Bk w g t l) (h1 : t ≠ 61) (h2 : t ≠ 36) : ¬ PB c m ov g := fun hs => by
  rcases hs with rfl | rfl | hs
  · have := hp.blk.one hg; exact h1 this.1.symm
  · obtain ⟨es, clock, hb⟩ := hp.map.blk
    rw [show w.heap[g]? = _ from hg] at hb
    cases hb
  · obtain ⟨cur, hc⟩ := hp.ord.blk hs
    rw [show w.heap[g]? = _ from hg] at hc
    simp at hc
    exact h2 hc.2
theorem LI.prog (i : LI n h b c m d room ov kx wx ep F L er U R w) {e : Int} {L' : List En} {q : K6} {o : Int} (hn : n ≤ w.heap.size) (hp : PcF w c m ov room e L' q o w') :
    ∃ ov' F', LI n h b c m d room ov' kx wx e F' L' er U R w' ∧ Below n w w' := by
  obtain ⟨ov', F', vq, h1, -, -, h4, h5⟩ := hp
  have hkl : ∀ g, kx.ownBlock = some g → g < w.heap.size := fun g e => by obtain ⟨cur, hc⟩ := i.rc.keys.blk e; exact (Array.getElem?_eq_some_iff.1 hc).1
  refine ⟨ov', F', ⟨h1, i.rc.kept h5 (i.pc.other i.rc.blk (by decide) (by decide)) (fun g hg hs => ?_) (fun g hg hs => ?_) (i.pc.tags (fun _ x => x)), fun g hg hk => ?_, i.bh.kept h5 (i.pc.other i.bh (by decide) (by decide)), i.bb.kept h5 (i.pc.other i.bb (by decide) (by decide)), fun g hg => ?_, i.ld⟩, h5.below i.lo hn⟩
  · obtain ⟨cur, hc⟩ := i.rc.keys.blk hg
    rcases hs with rfl | rfl | hs
    · exact i.rc.keys.notBk i.pc.blk (by decide) hg
    · exact i.rc.keys.notMap i.pc.map hg
    · exact i.ne g hs hg
  · obtain ⟨cur, hc⟩ := i.rc.ways.blk hg
    exact i.pc.other (t := 39) (l := cur.toList) (by unfold Bk; simpa using hc) (by decide) (by decide) hs
  · rcases h4 g hg with q1 | q1
    · exact i.ne g q1 hk
    · have := hkl g hk; omega
  · rcases hg with rfl | rfl | hg
    · exact i.lo _ (.inl rfl)
    · exact i.lo _ (.inr (.inl rfl))
    · rcases h4 g hg with q1 | q1
      · exact i.lo _ (.inr (.inr q1))
      · omega
theorem LI.ref (i : LI n h b c m d room ov kx wx ep F L er U R w) {e : Int} {L' : List En} (hn : n ≤ w.heap.size) (hp : RpE w d kx wx room e L' w') :
    ∃ kx' wx' U', LI n h b c m d room ov kx' wx' ep F L e U' L' w' ∧ Below n w w' := by
  obtain ⟨kx', wx', U', h1, h2, h3, h4⟩ := hp
  refine ⟨kx', wx', U', ⟨i.pc.kept h4 (fun g hg hs => ?_) (fun g hg cur hc => ?_), h1, fun g hg hk => ?_, i.bh.kept h4 (fun hs => ?_), i.bb.kept h4 (fun hs => ?_), i.lo, i.ld⟩, h4.below (fun k hk => hk ▸ i.ld) hn⟩
  · subst hs; exact i.pc.other i.rc.blk (by decide) (by decide) hg
  · subst hg; have := i.rc.blk.symm.trans hc; simp at this
  · rcases h2 g hk with q1 | q1
    · exact i.ne g hg q1
    · have := i.pc.lt (.inr (.inr hg)); omega
  · subst hs; have := i.rc.blk.one i.bh; simp at this
  · subst hs; have := i.rc.blk.one i.bb; simp at this
end
end Go.Proofs.Ytihjmgdihpeffaa
