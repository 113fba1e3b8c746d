/-
  The cache as a list of entries: what is there, what is put. The program's cache in memory: New, Len, begin.
-/
import Derived.Test.YtihjmgdihpeffaaCp
namespace Go.Proofs.Ytihjmgdihpeffaa
open Go.RowKit
set_option linter.unusedVariables false
set_option linter.unusedSimpArgs false
/-- A way: its outcome, its cells. An entry: a key and its way. -/
abbrev Wk := Int × List (Int × Int)
abbrev En := K6 × Wk
abbrev ks (L : List En) : List K6 := L.map (·.1)
/-- The program's cache in block c: its map in block m, its keys in the row ov. -/
structure PC (w : World) (c m : Nat) (ov : Value) (room ep : Int) (F : K6 → Value) (L : List En) : Prop where
  blk : Bk w c 61 [.int .i64 room, .int .i64 ep, .map (some m), ov]
  ord : KR w ov (ks L)
  map : MapK w m (ks L) F
  way : ∀ x ∈ L, ∃ v, F x.1 = wy x.2.1 v ∧ Cn w v x.2.2
  fit : ∀ x ∈ L, x.2.2.length * 16 ≤ 140737488355328
  rm : 1 ≤ room ∧ room ≤ 256
  le : (L.length : Int) ≤ room
/-- Blocks of a cache that a call may turn. -/
def PB (c m : Nat) (ov : Value) : Nat → Prop := fun g => g = c ∨ g = m ∨ ov.ownBlock = some g
section
variable {w w' : World} {c m : Nat} {ov : Value} {room ep : Int} {F : K6 → Value} {L : List En}
theorem Bk.notMap {g t : Nat} {l : List Value} {K : List K6} {G : K6 → Value} (h : Bk w g t l) {b : Nat} (hm : MapK w b K G) : g ≠ b := by
  rintro rfl
  obtain ⟨es, clock, hb⟩ := hm.blk
  rw [show w.heap[g]? = _ from h] at hb
  cases hb
theorem Rw.notMap {α : Type} {t k : Nat} {cs : α → List Value} {l : List α} {v : Value} (h : Rw t k cs w v l) {K : List K6} {G : K6 → Value} {b : Nat} (hm : MapK w b K G) : v.ownBlock ≠ some b := fun e => by
  obtain ⟨cur, hc⟩ := h.blk e
  obtain ⟨es, clock, hb⟩ := hm.blk
  rw [hc] at hb
  cases hb
theorem Rw.notBk {α : Type} {t t' k g : Nat} {cs : α → List Value} {l : List α} {v : Value} {l' : List Value} (h : Rw t k cs w v l) (hb : Bk w g t' l') (hn : t' ≠ t) : v.ownBlock ≠ some g := fun e => by
  obtain ⟨cur, hc⟩ := h.blk e
  rw [show w.heap[g]? = _ from hb] at hc
  simp at hc
  exact hn hc.2
theorem PC.upto (h : PC w c m ov room ep F L) (hb : Below w.heap.size w w') : PC w' c m ov room ep F L :=
  ⟨h.blk.upto hb, h.ord.upto hb, h.map.upto hb, fun x hx => by obtain ⟨v, e1, e2⟩ := h.way x hx; exact ⟨v, e1, e2.upto hb⟩, h.fit, h.rm, h.le⟩
theorem PC.kept {S : Nat → Prop} (h : PC w c m ov room ep F L) (ht : Turns S w w') (hn : ∀ g, PB c m ov g → ¬ S g) (hc : ∀ g, S g → ∀ cur, w.heap[g]? ≠ some (.cells cur 34 (0, 0))) : PC w' c m ov room ep F L :=
  ⟨h.blk.kept ht (hn c (.inl rfl)), h.ord.kept ht (fun g e => hn g (.inr (.inr e))), h.map.kept ht (hn m (.inr (.inl rfl))), fun x hx => by obtain ⟨v, e1, e2⟩ := h.way x hx; exact ⟨v, e1, e2.stay ht hc⟩, h.fit, h.rm, h.le⟩
/-- The blocks that may turn hold no cells of a way. -/
theorem PC.tags (h : PC w c m ov room ep F L) {S : Nat → Prop} (hS : ∀ g, S g → PB c m ov g) : ∀ g, S g → ∀ cur, w.heap[g]? ≠ some (.cells cur 34 (0, 0)) := by
  intro g hg cur hc
  rcases hS g hg with rfl | rfl | e
  · rw [show w.heap[g]? = _ from h.blk] at hc; simp at hc
  · obtain ⟨es, clock, hb⟩ := h.map.blk; rw [hb] at hc; cases hc
  · obtain ⟨cur', hc'⟩ := h.ord.blk e; rw [hc'] at hc; simp at hc
theorem PC.cm (h : PC w c m ov room ep F L) : c ≠ m := h.blk.notMap h.map
theorem PC.lt (h : PC w c m ov room ep F L) {g : Nat} (hg : PB c m ov g) : g < w.heap.size := by
  rcases hg with rfl | rfl | e
  · exact h.blk.lt
  · exact h.map.lt
  · obtain ⟨cur, hc⟩ := h.ord.blk e
    exact (Array.getElem?_eq_some_iff.1 hc).1
end
theorem run_makeMap59 (w : World) : (Instr.makeMap 59 none).run Try.prog w = .ok (.map (some w.heap.size)) (w.alloc (.map #[] 0)) := by kernel_rfl
/-- What New tells. -/
def NwE (w : World) (room : Int) (e : Ending) (w' : World) : Prop :=
  (1 ≤ room ∧ room ≤ 256 ∧ ∃ c m, e = .returned (.tuple #[ptr c, .int .i64 0]) ∧ PC w' c m (.slice none 0 0) room 0 (fun _ => zW) [] ∧ w.heap.size ≤ c ∧ w.heap.size ≤ m ∧ Below w.heap.size w w') ∨
  (¬ (1 ≤ room ∧ room ≤ 256) ∧ e = .returned (.tuple #[.pointer none, .int .i64 1]) ∧ w' = w)
set_option maxHeartbeats 1000000 in
theorem new_is (room : Int) (w : World) : Calls Try.prog 7 #[.int .i64 room] w (NwE w room) := by
  by_cases h1 : room < 1
  · go_enter Try.func7, Try.ntmps7
    go_wp2_with fail
    go_ret2
    exact .inr ⟨by omega, rfl, rfl⟩
  · by_cases h2 : 256 < room
    · go_enter Try.func7, Try.ntmps7
      go_wp2_with fail
      go_ret2
      exact .inr ⟨by omega, rfl, rfl⟩
    · have hm := run_makeMap59
      go_enter Try.func7, Try.ntmps7
      go_wp2_with fail
      go_ret2
      refine .inl ⟨by omega, by omega, _, w.heap.size, rfl, ⟨?_, Rw.nil _ _ _ _, ?_, fun x hx => by simp at hx, fun x hx => by simp at hx, by omega, by simp; omega⟩, by simp, Nat.le_refl _, box2 _ _ _⟩
      · have := Bk.new (w.alloc (.map #[] 0)) 61 [.int .i64 room, .int .i64 0, .map (some w.heap.size), .slice none 0 0]
        simpa using this
      · exact (MapK.made w).upto (box1 _ _)
set_option maxHeartbeats 1000000 in
theorem len_is {w : World} {c m : Nat} {ov : Value} {room ep : Int} {F : K6 → Value} {L : List En} (h : PC w c m ov room ep F L) :
    Calls Try.prog 15 #[ptr c] w fun e w' => e = .returned (.int .i64 (L.length : Nat)) ∧ w' = w := by
  have hm := made_yes c m w (h.blk.cell 2 _ rfl)
  have c3 := h.blk.cell 3 _ rfl
  have hl : (ks L).length = L.length := by simp
  obtain ⟨hn, hL⟩ | ⟨g, cap, rfl, -⟩ := h.ord.slice
  · subst hn
    have hL0 : L = [] := by simpa using hL
    subst hL0
    go_enter Try.func15, Try.ntmps15
    go_wp2_with (go_at_call 17; refine hm.mono ?_; rintro e w1 ⟨rfl, rfl⟩)
    go_ret
    exact ⟨rfl, rfl⟩
  · rw [hl] at c3
    go_enter Try.func15, Try.ntmps15
    go_wp2_with (go_at_call 17; refine hm.mono ?_; rintro e w1 ⟨rfl, rfl⟩)
    go_ret
    exact ⟨rfl, rfl⟩
set_option maxHeartbeats 1000000 in
theorem begin_is {w : World} {c m : Nat} {ov : Value} {room ep : Int} {F : K6 → Value} {L : List En} (h : PC w c m ov room ep F L) (e : Int) :
    Calls Try.prog 20 #[ptr c, .int .i64 e] w fun en w' => (∃ z, en = .returned z) ∧ ∃ ov', PC w' c m ov' room e (fun _ => zW) [] ∧ ov'.ownBlock = ov.ownBlock ∧ Turns (fun g => g = c ∨ g = m) w w' := by
  obtain ⟨w2, hr, hm2, hg2⟩ := h.map.clear
  have k2 : Bk w2 c 61 _ := h.blk.same (hg2.block c h.blk.lt (fun e => h.cm (by simpa using e)))
  have c2 := h.blk.cell 2 _ rfl
  have d3 := k2.cell 3 _ rfl
  have d1 := k2.cell 1 _ rfl
  have f1 := k2.frozen 1
  have f3 := k2.frozen 3
  have T2 : Turns (fun g => g = c ∨ g = m) w w2 := Turns.of_grown hg2 (fun k e => .inr (by simpa using e.symm))
  have fin : ∀ ov', (∀ W, KR W ov (ks L) → KR W ov' []) → ov'.ownBlock = ov.ownBlock → PC ((w2.setCell ⟨c, 3, none⟩ ov').setCell ⟨c, 1, none⟩ (.int .i64 e)) c m ov' room e (fun _ => zW) [] ∧ ov'.ownBlock = ov.ownBlock ∧ Turns (fun g => g = c ∨ g = m) w ((w2.setCell ⟨c, 3, none⟩ ov').setCell ⟨c, 1, none⟩ (.int .i64 e)) := fun ov' ho hb => by
    have T3 : Turns (fun g => g = c) w2 ((w2.setCell ⟨c, 3, none⟩ ov').setCell ⟨c, 1, none⟩ (.int .i64 e)) := (Turns.set (S := fun g => g = c) w2 rfl _).trans (Turns.set _ (.inl rfl) _)
    have T : Turns (fun g => g = c ∨ g = m) w ((w2.setCell ⟨c, 3, none⟩ ov').setCell ⟨c, 1, none⟩ (.int .i64 e)) := T2.trans (T3.mono (fun k _ hk => .inl (.inl hk)))
    have hov : ∀ g, ov.ownBlock = some g → ¬ (g = c ∨ g = m) := fun g hg hh => by
      rcases hh with rfl | rfl
      · exact h.ord.notBk h.blk (by decide) hg
      · exact h.ord.notMap h.map hg
    have O1 : KR ((w2.setCell ⟨c, 3, none⟩ ov').setCell ⟨c, 1, none⟩ (.int .i64 e)) ov (ks L) := h.ord.kept T hov
    exact ⟨⟨(k2.set 3 ov').set 1 (.int .i64 e), ho _ O1, hm2.kept T3 (fun q => h.cm q.symm), fun x hx => by simp at hx, fun x hx => by simp at hx, h.rm, by have := h.rm; simp; omega⟩, hb, T⟩
  have FIN := hide fin
  clear fin
  obtain ⟨hn, hL⟩ | ⟨g, cap, rfl, hcap, hmax, hlt⟩ := h.ord.slice
  · subst hn
    have HF := hide (FIN.out (.slice none 0 0) (fun W h => Rw.nil _ _ _ _) rfl)
    clear h k2 hm2 hg2 T2
    go_enter Try.func20, Try.ntmps20
    go_wp2_with fail
    go_end0
    exact ⟨⟨_, rfl⟩, _, HF.out.1, rfl, HF.out.2.2⟩
  · have HF := hide (FIN.out (.slice (some ⟨g, 0, none⟩) 0 cap) (fun W h => h.trunc) rfl)
    have hcz : (0 : Int) ≤ (cap : Nat) := by omega
    clear h k2 hm2 hg2 T2
    go_enter Try.func20, Try.ntmps20
    go_wp2_with fail
    go_end0
    exact ⟨⟨_, rfl⟩, _, HF.out.1, rfl, HF.out.2.2⟩
end Go.Proofs.Ytihjmgdihpeffaa
