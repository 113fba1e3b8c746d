/-
  What is put into a list of entries; what lies in memory behind it.
-/
import Derived.Test.YtihjmgdihpeffaaMr
namespace Go.Proofs.Ytihjmgdihpeffaa
open Go.RowKit
set_option linter.unusedVariables false
set_option linter.unusedSimpArgs false
/-- A way is put, where there is room. -/
def putIn (L : List En) (q : K6) (t : Wk) : List En := if q ∈ ks L then L.map (fun x => if x.1 = q then (q, t) else x) else L ++ [(q, t)]
/-- A way is put. -/
def putL (room : Int) (L : List En) (q : K6) (t : Wk) : List En := if q ∈ ks L then putIn L q t else putIn (mkr room L) q t
theorem mkr_sub {room : Int} {L : List En} {x : En} (h : x ∈ mkr room L) : x ∈ L := by
  unfold mkr at h
  split at h
  · exact h
  · exact List.mem_of_mem_tail h
theorem mkr_ks {room : Int} {L : List En} {q : K6} (h : q ∉ ks L) : q ∉ ks (mkr room L) := fun hh => by
  obtain ⟨x, hx, rfl⟩ := List.mem_map.1 hh
  exact h (mem_ks (mkr_sub hx))
theorem mkr_le {room : Int} {L : List En} (h1 : 1 ≤ room) (h : (L.length : Int) ≤ room) : ((mkr room L).length : Int) + 1 ≤ room := by
  unfold mkr
  split
  · omega
  · rw [List.length_tail]; omega
theorem ks_putIn (L : List En) (q : K6) (t : Wk) : ks (putIn L q t) = kput (ks L) q := by
  unfold putIn kput
  split
  · rw [ks, List.map_map]
    refine List.map_congr_left fun x hx => ?_
    simp only [Function.comp]
    split
    · rename_i e; exact e.symm
    · rfl
  · simp
theorem mem_putIn {L : List En} {q : K6} {t : Wk} {x : En} (h : x ∈ putIn L q t) : x = (q, t) ∨ (x ∈ L ∧ x.1 ≠ q) := by
  unfold putIn at h
  split at h
  · obtain ⟨y, hy, e⟩ := List.mem_map.1 h
    split at e
    · exact .inl e.symm
    · rename_i hne
      subst e
      exact .inr ⟨hy, hne⟩
  · rename_i hn
    rcases List.mem_append.1 h with h | h
    · exact .inr ⟨h, fun e => hn (e ▸ mem_ks h)⟩
    · exact .inl (by simpa using h)
/-- The program's cache but for the way that is about to be put: its key stands in the row already. -/
structure PH (w : World) (c m : Nat) (ov : Value) (room ep : Int) (F : K6 → Value) (L : List En) (q : K6) : Prop where
  blk : Bk w c 61 [.int .i64 room, .int .i64 ep, .map (some m), ov]
  ord : KR w ov (kput (ks L) q)
  map : MapK w m (ks L) F
  way : ∀ x ∈ L, ∃ v, F x.1 = wy x.2.1 v ∧ Cn w v x.2.2
  fit : ∀ x ∈ L, x.2.2.length * 16 ≤ 140737488355328
  rm : 1 ≤ room ∧ room ≤ 256
  le : ((kput (ks L) q).length : Int) ≤ room
theorem PC.ph {w : World} {c m : Nat} {ov : Value} {room ep : Int} {F : K6 → Value} {L : List En} (h : PC w c m ov room ep F L) {q : K6} (hq : q ∈ ks L) : PH w c m ov room ep F L q := by
  have e : kput (ks L) q = ks L := by unfold kput; rw [if_pos hq]
  exact ⟨h.blk, by rw [e]; exact h.ord, h.map, h.way, h.fit, h.rm, by rw [e]; simpa using h.le⟩
theorem PH.upto {w w' : World} {c m : Nat} {ov : Value} {room ep : Int} {F : K6 → Value} {L : List En} {q : K6} (h : PH w c m ov room ep F L q) (hb : Below w.heap.size w w') : PH w' c m ov room ep F L q :=
  ⟨h.blk.upto hb, h.ord.upto hb, h.map.upto hb, fun x hx => by obtain ⟨v, e1, e2⟩ := h.way x hx; exact ⟨v, e1, e2.upto hb⟩, h.fit, h.rm, h.le⟩
/-- A key is put behind the others. -/
theorem PC.pushed {w w1 w2 : World} {c m : Nat} {ov ov' : Value} {room ep : Int} {F : K6 → Value} {L : List En} (h : PC w c m ov room ep F L) {q : K6} (hq : q ∉ ks L) (hle : (L.length : Int) + 1 ≤ room) (hb : Below w.heap.size w w1) (ho : KR w2 ov' (ks L ++ [q])) (hob : ov'.ownBlock = ov.ownBlock ∨ ov'.ownBlock = some w1.heap.size) (ht : Turns (fun g => ov.ownBlock = some g) w1 w2) :
    PH (w2.setCell ⟨c, 3, none⟩ ov') c m ov' room ep F L q ∧ Turns (PB c m ov) w (w2.setCell ⟨c, 3, none⟩ ov') ∧ (∀ g, ov'.ownBlock = some g → ov.ownBlock = some g ∨ w.heap.size ≤ g) ∧ Bk w2 c 61 [.int .i64 room, .int .i64 ep, .map (some m), ov] := by
  have e : kput (ks L) q = ks L ++ [q] := by unfold kput; rw [if_neg hq]
  have h1 := h.upto hb
  have B2 : Bk w2 c 61 _ := h1.blk.kept ht (fun hh => h.ord.notBk h.blk (by decide) hh)
  have TS : Turns (fun k => k = c) w2 (w2.setCell ⟨c, 3, none⟩ ov') := Turns.set (S := fun k => k = c) w2 rfl _
  have T1 : Turns (PB c m ov) w1 (w2.setCell ⟨c, 3, none⟩ ov') := (ht.mono (fun k _ e => .inr (.inr e))).trans (TS.mono (fun k _ e => .inl (.inl e)))
  have hobc : ∀ g, ov'.ownBlock = some g → ¬ g = c := fun g e => ho.notBk B2 (by decide) ∘ (fun q => q ▸ e)
  refine ⟨⟨B2.set 3 ov', ?_, h1.map.same ?_, fun x hx => ?_, h.fit, h.rm, ?_⟩, (Turns.of_below hb).trans (T1.mono (fun k _ s => .inl s)), fun g e => ?_, B2⟩
  · rw [e]; exact ho.kept TS hobc
  · exact (TS.block m (Nat.lt_of_lt_of_le h1.map.lt ht.size) (fun q => h.cm q.symm)).trans (ht.block m h1.map.lt (fun hh => h1.ord.notMap h1.map hh))
  · obtain ⟨v, q1, q2⟩ := h1.way x hx
    exact ⟨v, q1, q2.stay T1 (h1.tags (fun _ hh => hh))⟩
  · rw [e]; simp; omega
  · rcases hob with q1 | q1
    · exact .inl (q1 ▸ e)
    · rw [q1] at e; cases e; exact .inr hb.size
/-- The way is put. -/
theorem PH.put {w w1 w2 : World} {c m : Nat} {ov : Value} {room ep : Int} {F : K6 → Value} {L : List En} {q : K6} (h : PH w c m ov room ep F L q) {o : Int} {v : Value} {P : List (Int × Int)} (hb : Below w.heap.size w w1) (hv : Cn w1 v P) (hl : P.length * 16 ≤ 140737488355328)
    (hm : MapK w2 m (kput (ks L) q) (fput F q (wy o v))) (hg : w1.grownBy w2 (some m)) :
    PC w2 c m ov room ep (fput F q (wy o v)) (putIn L q (o, P)) ∧ Turns (fun k => k = m) w w2 := by
  have h1 := h.upto hb
  have T2 : Turns (fun k => k = m) w1 w2 := Turns.of_grown hg (fun k e => by simpa using e.symm)
  have hmt : ∀ g, g = m → ∀ cur, w1.heap[g]? ≠ some (.cells cur 34 (0, 0)) := fun g e cur hc => by
    subst e
    obtain ⟨es, clock, hbk⟩ := h1.map.blk
    rw [hbk] at hc; cases hc
  refine ⟨⟨h1.blk.kept T2 (h1.blk.notMap h1.map), ?_, ?_, fun x hx => ?_, fun x hx => ?_, h.rm, ?_⟩, (Turns.of_below hb).trans (T2.mono (fun k _ s => .inl s))⟩
  · rw [ks_putIn]; exact h1.ord.kept T2 (fun g e q => h1.ord.notMap h1.map (q ▸ e))
  · rw [ks_putIn]; exact hm
  · rcases mem_putIn hx with rfl | ⟨hx, hne⟩
    · exact ⟨v, by unfold fput; rw [if_pos rfl], hv.stay T2 hmt⟩
    · obtain ⟨u, e1, e2⟩ := h1.way x hx
      exact ⟨u, by unfold fput; rw [if_neg hne]; exact e1, e2.stay T2 hmt⟩
  · rcases mem_putIn hx with rfl | ⟨hx, hne⟩
    · exact hl
    · exact h.fit x hx
  · have := h.le
    rw [← ks_putIn L q (o, P)] at this
    simpa using this
end Go.Proofs.Ytihjmgdihpeffaa
