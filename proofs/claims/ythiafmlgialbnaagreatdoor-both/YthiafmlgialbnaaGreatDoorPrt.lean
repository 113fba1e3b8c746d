/-
  A cluster's portals on all four sides, each with its own cell first; nodes and edges, as the document means them. Maps from cells to slices (or to nothing): which keys they have, and what lies at each. The keys of a map, as they come; all of them in a row, sorted. All keys of a map in a row, sorted: slices.SortedFunc over maps.Keys. A graph in memory; the portals between a cluster and a neighbour, its own cell first.
-/
import Derived.Test.YthiafmlgialbnaaGreatDoorDRun
import Derived.Test.YthiafmlgialbnaaGreatDoorPc
import Derived.Test.YthiafmlgialbnaaGreatDoorCmp
import Derived.Test.YthiafmlgialbnaaGreatDoorWho
import Derived.WideKeyEntry
import Derived.Maps.Range
import Derived.Maps.OwnSet
import Derived.Test.YthiafmlgialbnaaGreatDoorNestT
import Derived.Test.YthiafmlgialbnaaGreatDoorHeldIn
import Derived.Sort.MapsRangeIn
set_option linter.unusedSimpArgs false
namespace Go.Proofs.YthiafmlgialbnaaGreatDoor
open Go.RowKit Go.Shelf
set_option linter.unusedVariables false
theorem runs_all {op : Nat → Bool} : ∀ i, (∀ r ∈ (runs op i).1, ∀ j, r.1 ≤ j → j < r.1 + r.2 → op j = true) ∧ (runs op i).1.Pairwise (fun r r' => r.1 + r.2 < r'.1 + 1)
  | 0 => ⟨fun r h => absurd h List.not_mem_nil, List.Pairwise.nil⟩
  | i + 1 => by
    obtain ⟨h1, h2⟩ := runs_all (op := op) i
    obtain ⟨k1, k2, -⟩ := runs_ok op i
    cases ho : op i
    · rw [runs_no ho]; exact ⟨h1, h2⟩
    · cases hb : (runs op i).2
      · rw [runs_new ho hb]
        refine ⟨fun r hr j hj hj' => ?_, List.pairwise_append.2 ⟨h2, by simp, fun r hr r' hr' => ?_⟩⟩
        · rcases List.mem_append.1 hr with hr | hr
          · exact h1 r hr j hj hj'
          · simp at hr; subst hr
            simp only at hj hj'
            rw [show j = i by omega]; exact ho
        · simp at hr'; subst hr'
          have := (k2 r hr).2
          simp only; omega
      · obtain ⟨pre, a, n, hl, han⟩ := k1 hb
        rw [runs_on ho hb hl]
        rw [hl] at h1 h2 k2
        refine ⟨fun r hr j hj hj' => ?_, ?_⟩
        · rcases List.mem_append.1 hr with hr | hr
          · exact h1 r (List.mem_append_left _ hr) j hj hj'
          · simp at hr; subst hr
            simp only at hj hj'
            by_cases e : j = i
            · rw [e]; exact ho
            · exact h1 (a, n) (by simp) j hj (by simp only; omega)
        · obtain ⟨p1, -, p3⟩ := List.pairwise_append.1 h2
          refine List.pairwise_append.2 ⟨p1, by simp, fun r hr r' hr' => ?_⟩
          simp at hr'; subst hr'
          have := p3 r hr (a, n) (by simp)
          exact this
/-- The other way round. -/
def Q4.swap (t : Q4) : Q4 := ⟨t.a, t.b, t.x, t.y⟩
abbrev Q4.A (t : Q4) : Int × Int := (t.x, t.y)
abbrev Q4.B (t : Q4) : Int × Int := (t.a, t.b)
/-- A cluster's portals to one side, its own cell first. -/
def prtL (S : Int → Int → Bool) (W H kx ky : Int) (d : Nat) : List Q4 := match d with
  | 0 => ptQ S W H kx ky 0
  | 1 => ptQ S W H kx ky 1
  | 2 => (ptQ S W H (kx - 1) ky 0).map Q4.swap
  | 3 => (ptQ S W H kx (ky - 1) 1).map Q4.swap
  | _ => []
/-- .. to all sides. -/
def acL (S : Int → Int → Bool) (W H kx ky : Int) : List Q4 := [0, 1, 2, 3].flatMap (prtL S W H kx ky)
section
variable {S : Int → Int → Bool} {W H kx ky : Int}
theorem ptQ_mem (hW : 1 ≤ W ∧ W ≤ 128) (hH : 1 ≤ H ∧ H ≤ 128) (hS : ∀ u v, S u v = true → (0 ≤ u ∧ u < W) ∧ 0 ≤ v ∧ v < H) {d : Int} (hd : d = 0 ∨ d = 1) {t : Q4} (ht : t ∈ ptQ S W H kx ky d) :
    rB W H kx ky = true ∧ (t.x / 8 = kx ∧ t.y / 8 = ky) ∧ (t.a = t.x + dX d.toNat ∧ t.b = t.y + dY d.toNat) ∧ (t.a / 8 = kx + dX d.toNat ∧ t.b / 8 = ky + dY d.toNat) ∧ S t.x t.y = true ∧ S t.a t.b = true := by
  unfold ptQ btL rnR at ht
  split at ht
  · rename_i hr
    obtain ⟨r, hr1, rfl⟩ := List.mem_map.1 ht
    have hk := (runs_ok (opB S d (bX W kx d) (bY H ky d)) 8).2.1 r hr1
    have hop := (runs_all (op := opB S d (bX W kx d) (bY H ky d)) 8).1 r hr1 (r.1 + (r.2 - 1) / 2) (by omega) (by omega)
    have hi : r.1 + (r.2 - 1) / 2 < 8 := by omega
    have ho := open_of hW hH hS hr.1 hr.2 hi hop
    unfold ptq
    generalize r.1 + (r.2 - 1) / 2 = i at *
    obtain ⟨hx, hy⟩ := (rB_iff hW hH).1 hr.1
    unfold opB lg at hop
    rw [Bool.and_eq_true, Bool.and_eq_true, Bool.and_eq_true] at hop
    obtain ⟨h1, h2, h3, -⟩ := hop
    have a1 := hS _ _ h2
    have a2 := hS _ _ h3
    simp only
    rw [sX_yes h1, sY_yes h1] at a2 h3 ⊢
    refine ⟨hr.1, ho.1, ⟨rfl, rfl⟩, ?_, h2, h3⟩
    clear ho h1 h2 h3 hk hr1
    rcases hd with rfl | rfl
    · simp only [clx, cly, bX, bY, if_true, rS, dX, dY, Int.toNat_zero] at *
      omega
    · simp only [clx, cly, bX, bY, if_neg (show ¬ (1 : Int) = 0 by decide), rS, dX, dY, show (1 : Int).toNat = 1 from rfl] at *
      omega
  · simp at ht
theorem ptQ_apart {d : Int} (hd : d = 0 ∨ d = 1) : (ptQ S W H kx ky d).Pairwise (fun t t' => t.A ≠ t'.A) := by
  unfold ptQ btL rnR
  split
  · refine List.pairwise_map.2 ?_
    have h1 := (runs_all (op := opB S d (bX W kx d) (bY H ky d)) 8).2
    have h2 := (runs_ok (opB S d (bX W kx d) (bY H ky d)) 8).2.1
    refine (List.Pairwise.imp_of_mem ?_ h1)
    intro r r' hr hr' hlt
    have k1 := h2 r hr
    have k2 := h2 r' hr'
    simp only [ptq, Q4.A, ne_eq, Prod.mk.injEq]
    rcases hd with rfl | rfl
    · simp only [clx, cly, if_true]
      omega
    · simp only [clx, cly, if_neg (show ¬ (1 : Int) = 0 by decide)]
      omega
  · exact List.Pairwise.nil
theorem ptQ_apartB (hW : 1 ≤ W ∧ W ≤ 128) (hH : 1 ≤ H ∧ H ≤ 128) (hS : ∀ u v, S u v = true → (0 ≤ u ∧ u < W) ∧ 0 ≤ v ∧ v < H) {d : Int} (hd : d = 0 ∨ d = 1) : (ptQ S W H kx ky d).Pairwise (fun t t' => t.B ≠ t'.B) := by
  refine (List.Pairwise.imp_of_mem ?_ (ptQ_apart hd))
  intro t t' ht ht' hne e
  have h1 := (ptQ_mem hW hH hS hd ht).2.2.1
  have h2 := (ptQ_mem hW hH hS hd ht').2.2.1
  simp only [Q4.A, Q4.B, Prod.mk.injEq, ne_eq] at e hne
  exact hne ⟨by omega, by omega⟩
theorem prtL_mem (hW : 1 ≤ W ∧ W ≤ 128) (hH : 1 ≤ H ∧ H ≤ 128) (hS : ∀ u v, S u v = true → (0 ≤ u ∧ u < W) ∧ 0 ≤ v ∧ v < H) {d : Nat} (hd : d < 4) {t : Q4} (ht : t ∈ prtL S W H kx ky d) :
    (t.x / 8 = kx ∧ t.y / 8 = ky) ∧ (t.a = t.x + dX d ∧ t.b = t.y + dY d) ∧ (t.a / 8 = kx + dX d ∧ t.b / 8 = ky + dY d) ∧ S t.x t.y = true ∧ S t.a t.b = true := by
  match d, hd with
  | 0, _ => exact (ptQ_mem hW hH hS (d := 0) (.inl rfl) ht).2
  | 1, _ => exact (ptQ_mem hW hH hS (d := 1) (.inr rfl) ht).2
  | 2, _ =>
    obtain ⟨u, hu, rfl⟩ := List.mem_map.1 ht
    obtain ⟨-, h1, h2, h3, h4, h5⟩ := ptQ_mem hW hH hS (d := 0) (.inl rfl) hu
    simp only [Q4.swap, dX, dY, Int.toNat_zero, show (1 : Int).toNat = 1 from rfl] at *
    exact ⟨⟨by omega, by omega⟩, ⟨by omega, by omega⟩, ⟨by omega, by omega⟩, h5, h4⟩
  | 3, _ =>
    obtain ⟨u, hu, rfl⟩ := List.mem_map.1 ht
    obtain ⟨-, h1, h2, h3, h4, h5⟩ := ptQ_mem hW hH hS (d := 1) (.inr rfl) hu
    simp only [Q4.swap, dX, dY, Int.toNat_zero, show (1 : Int).toNat = 1 from rfl] at *
    exact ⟨⟨by omega, by omega⟩, ⟨by omega, by omega⟩, ⟨by omega, by omega⟩, h5, h4⟩
theorem prtL_apart (hW : 1 ≤ W ∧ W ≤ 128) (hH : 1 ≤ H ∧ H ≤ 128) (hS : ∀ u v, S u v = true → (0 ≤ u ∧ u < W) ∧ 0 ≤ v ∧ v < H) (d : Nat) : (prtL S W H kx ky d).Pairwise (fun t t' => t.A ≠ t'.A) := by
  match d with
  | 0 => exact ptQ_apart (d := 0) (.inl rfl)
  | 1 => exact ptQ_apart (d := 1) (.inr rfl)
  | 2 => exact List.pairwise_map.2 (ptQ_apartB hW hH hS (d := 0) (.inl rfl))
  | 3 => exact List.pairwise_map.2 (ptQ_apartB hW hH hS (d := 1) (.inr rfl))
  | _ + 4 => exact List.Pairwise.nil
theorem prtL_len (d : Nat) : (prtL S W H kx ky d).length ≤ 8 := by
  have h : ∀ a b e, (ptQ S W H a b e).length ≤ 8 := fun a b e => by
    unfold ptQ btL
    rw [List.length_map]
    exact (rnR_ok S W H a b e).2
  match d with
  | 0 => exact h _ _ _
  | 1 => exact h _ _ _
  | 2 => show (List.map _ _).length ≤ 8; rw [List.length_map]; exact h _ _ _
  | 3 => show (List.map _ _).length ≤ 8; rw [List.length_map]; exact h _ _ _
  | _ + 4 => exact Nat.zero_le _
theorem mem_acL {t : Q4} : t ∈ acL S W H kx ky ↔ ∃ d, d < 4 ∧ t ∈ prtL S W H kx ky d := by
  unfold acL
  simp only [List.mem_flatMap]
  constructor
  · rintro ⟨d, hd, ht⟩
    exact ⟨d, by simp at hd; omega, ht⟩
  · rintro ⟨d, hd, ht⟩
    exact ⟨d, by simp; omega, ht⟩
theorem acL_apart (hW : 1 ≤ W ∧ W ≤ 128) (hH : 1 ≤ H ∧ H ≤ 128) (hS : ∀ u v, S u v = true → (0 ≤ u ∧ u < W) ∧ 0 ≤ v ∧ v < H) : (acL S W H kx ky).Pairwise (fun t t' => t.A = t'.A → t.B ≠ t'.B) := by
  unfold acL
  rw [List.pairwise_flatMap]
  refine ⟨fun d _ => (prtL_apart hW hH hS d).imp (fun h e => absurd e h), ?_⟩
  have key : ∀ d d' : Nat, d < 4 → d' < 4 → d ≠ d' → ∀ t ∈ prtL S W H kx ky d, ∀ t' ∈ prtL S W H kx ky d', t.A = t'.A → t.B ≠ t'.B := fun d d' h h' hne t ht t' ht' e e' => by
    have h1 := (prtL_mem hW hH hS h ht).2.1
    have h2 := (prtL_mem hW hH hS h' ht').2.1
    simp only [Q4.A, Q4.B, Prod.mk.injEq] at e e'
    have : dX d = dX d' ∧ dY d = dY d' := ⟨by omega, by omega⟩
    have hall : ∀ d d' : Fin 4, d ≠ d' → ¬ (dX d.val = dX d'.val ∧ dY d.val = dY d'.val) := by decide
    exact hall ⟨d, h⟩ ⟨d', h'⟩ (fun q => hne (by simpa using q)) this
  refine List.Pairwise.imp_of_mem (R := fun d d' => d ≠ d') ?_ (by decide)
  intro d d' hd hd' hne t ht t' ht'
  exact key d d' (by simp at hd; omega) (by simp at hd'; omega) hne t ht t' ht'
/-- A node of a cluster. -/
def Nd (S : Int → Int → Bool) (W H kx ky : Int) (q : Int × Int) : Prop := ∃ t ∈ acL S W H kx ky, t.A = q
theorem Nd.in (hW : 1 ≤ W ∧ W ≤ 128) (hH : 1 ≤ H ∧ H ≤ 128) (hS : ∀ u v, S u v = true → (0 ≤ u ∧ u < W) ∧ 0 ≤ v ∧ v < H) {q : Int × Int} (h : Nd S W H kx ky q) : (q.1 / 8 = kx ∧ q.2 / 8 = ky) ∧ S q.1 q.2 = true := by
  obtain ⟨t, ht, rfl⟩ := h
  obtain ⟨d, hd, ht⟩ := mem_acL.1 ht
  obtain ⟨h1, -, -, h2, -⟩ := prtL_mem hW hH hS hd ht
  exact ⟨h1, h2⟩
end
/-- A list of cells, by rising rows, each once. -/
def UpC (l : List (Int × Int)) : Prop := l.Pairwise clt
def UpE (l : List E3) : Prop := l.Pairwise (fun p q => clt p.to q.to)
theorem up_one {α : Type} {R : α → α → Prop} (hi : ∀ a, ¬ R a a) (ht : ∀ a b c, R a b → R b c → R a c) : ∀ {l m : List α}, l.Pairwise R → m.Pairwise R → (∀ a, a ∈ l ↔ a ∈ m) → l = m
  | [], [], _, _, _ => rfl
  | [], b :: m, _, _, h => absurd ((h b).2 (List.mem_cons_self ..)) List.not_mem_nil
  | a :: l, [], _, _, h => absurd ((h a).1 (List.mem_cons_self ..)) List.not_mem_nil
  | a :: l, b :: m, hl, hm, h => by
    obtain ⟨l1, l2⟩ := List.pairwise_cons.1 hl
    obtain ⟨m1, m2⟩ := List.pairwise_cons.1 hm
    have e : a = b := by
      rcases List.mem_cons.1 ((h a).1 (List.mem_cons_self ..)) with e | ha
      · exact e
      · rcases List.mem_cons.1 ((h b).2 (List.mem_cons_self ..)) with e | hb
        · exact e.symm
        · exact absurd (ht _ _ _ (l1 b hb) (m1 a ha)) (hi a)
    subst e
    rw [up_one hi ht l2 m2 (fun c => ?_)]
    have hc := h c
    rw [List.mem_cons, List.mem_cons] at hc
    constructor
    · intro q
      rcases hc.1 (.inr q) with rfl | q'
      · exact absurd (l1 _ q) (hi _)
      · exact q'
    · intro q
      rcases hc.2 (.inr q) with rfl | q'
      · exact absurd (m1 _ q) (hi _)
      · exact q'
theorem upE_one {l m : List E3} (hl : UpE l) (hm : UpE m) (h : ∀ a, a ∈ l ↔ a ∈ m) : l = m := up_one (R := fun p q : E3 => clt p.to q.to) (fun a => clt_irrefl a.to) (fun _ _ _ => clt_trans) hl hm h
theorem upC_of {l : List (Int × Int)} (h : SrtC l) (hn : l.Nodup) : UpC l := by
  refine List.Pairwise.imp ?_ (h.and hn)
  intro p q k
  exact Classical.byContradiction fun c => k.2 (clt_anti c k.1)
theorem upE_of {l : List E3} (h : SrtE l) (hn : (l.map E3.to).Nodup) : UpE l := by
  refine List.Pairwise.imp ?_ (h.and (List.pairwise_map.1 hn))
  intro p q k
  exact Classical.byContradiction fun c => k.2 (clt_anti c k.1)
theorem UpC.nodup {l : List (Int × Int)} (h : UpC l) : l.Nodup := by
  refine List.Pairwise.imp ?_ h
  intro a b k e
  subst e
  exact clt_irrefl _ k
/-- An edge of a node, as the document means it. -/
def Ed (W H : Int) (tl : List Nat) (f : Int → Int → Option Int) (c s : Int) (kx ky : Int) (q : Int × Int) (e : E3) : Prop :=
  (∃ t ∈ acL (stB W H tl f c s) W H kx ky, t.A = q ∧ e = ⟨t.a, t.b, 10⟩) ∨
  (Nd (stB W H tl f c s) W H kx ky e.to ∧ e.to ≠ q ∧ ∃ n : Nat, e.c = (n : Int) ∧ Std W H tl f c s (kx * 8) (ky * 8) (rS W kx) (rS H ky) q ∧ Least (stepR W H tl f c s (kx * 8) (ky * 8) (rS W kx) (rS H ky)) q e.to n)
/-- The nodes of a cluster, in their order. -/
def IsN (S : Int → Int → Bool) (W H kx ky : Int) (l : List (Int × Int)) : Prop := UpC l ∧ ∀ q, q ∈ l ↔ Nd S W H kx ky q
/-- The edges of a node, in their order. -/
def IsE (W H : Int) (tl : List Nat) (f : Int → Int → Option Int) (c s : Int) (kx ky : Int) (q : Int × Int) (l : List E3) : Prop := UpE l ∧ ∀ e, e ∈ l ↔ Ed W H tl f c s kx ky q e
end Go.Proofs.YthiafmlgialbnaaGreatDoor
set_option linter.unusedSimpArgs false
namespace Go.Proofs.YthiafmlgialbnaaGreatDoor
open Go.RowKit
set_option linter.unusedVariables false
/-- How a slice, or nothing, reads in a map: as itself. -/
def slElem : Value → Option (DataW Unit × List MemPlace)
  | .slice none n c => some (.agg [.lit (.int .i64 (n : Nat)), .lit (.int .i64 (c : Nat))], [])
  | .slice (some ⟨g, o, none⟩) n c => some (.agg [.lit (.int .i64 (g : Nat)), .lit (.int .i64 (o : Nat)), .lit (.int .i64 (n : Nat)), .lit (.int .i64 (c : Nat))], [])
  | .agg xs => match xs.toList with
    | [] => some (.agg [], [])
    | _ => none
  | _ => none
theorem slElem_inv {v : Value} {z : DataW Unit × List MemPlace} (h : slElem v = some z) : (∃ n c, v = .slice none n c ∧ z = (.agg [.lit (.int .i64 (n : Nat)), .lit (.int .i64 (c : Nat))], [])) ∨ (∃ g o n c, v = .slice (some ⟨g, o, none⟩) n c ∧ z = (.agg [.lit (.int .i64 (g : Nat)), .lit (.int .i64 (o : Nat)), .lit (.int .i64 (n : Nat)), .lit (.int .i64 (c : Nat))], [])) ∨ (v = .agg #[] ∧ z = (.agg [], [])) := by
  unfold slElem at h
  split at h
  · cases h; exact .inl ⟨_, _, rfl, rfl⟩
  · cases h; exact .inr (.inl ⟨_, _, _, _, rfl, rfl⟩)
  · rename_i xs
    split at h
    · rename_i e
      cases h
      refine .inr (.inr ⟨?_, rfl⟩)
      rw [← Array.toArray_toList (xs := xs), e]
    · cases h
  · cases h
theorem slElem_inj {u v : Value} {d : DataW Unit} {ps qs : List MemPlace} (hu : slElem u = some (d, ps)) (hv : slElem v = some (d, qs)) : u = v := by
  rcases slElem_inv hu with ⟨n, c, rfl, e⟩ | ⟨g, o, n, c, rfl, e⟩ | ⟨rfl, e⟩ <;> rcases slElem_inv hv with ⟨n', c', rfl, e'⟩ | ⟨g', o', n', c', rfl, e'⟩ | ⟨rfl, e'⟩ <;> simp only [Prod.mk.injEq] at e e' <;> obtain ⟨e, -⟩ := e <;> obtain ⟨e', -⟩ := e' <;> rw [e] at e' <;> simp at e'
  · obtain ⟨h1, h2⟩ := e'; have h1 : n = n' := by omega
    have h2 : c = c' := by omega
    subst h1 h2; rfl
  · obtain ⟨h1, h2, h3, h4⟩ := e'
    have h1 : g = g' := by omega
    have h2 : o = o' := by omega
    have h3 : n = n' := by omega
    have h4 : c = c' := by omega
    subst h1 h2 h3 h4; rfl
def dOf (v : Value) : DataW Unit := ((slElem v).map (·.1)).getD .nil
/-- A slice that lies in a row of its own, or nothing. -/
def IsS (v : Value) : Prop := slElem v = some (dOf v, [])
theorem isS_nil : IsS (.slice none 0 0) := rfl
theorem isS_some (g n c : Nat) : IsS (.slice (some ⟨g, 0, none⟩) n c) := rfl
theorem isS_row {w : World} {t k n : Nat} {v : Value} {xs : List Value} (h : w.ownsRow 0 t k v n xs) : IsS v := by
  rcases h.2 with ⟨rfl, -⟩ | ⟨g, cap, cur, rfl, -⟩
  · exact isS_nil
  · exact isS_some _ _ _
theorem isS_of {v : Value} {z : DataW Unit × List MemPlace} (h : slElem v = some z) : IsS v ∧ z = (dOf v, []) := by
  unfold IsS dOf
  rw [h]
  rcases slElem_inv h with ⟨n, c, rfl, e⟩ | ⟨g, o, n, c, rfl, e⟩ | ⟨rfl, e⟩ <;> subst e <;> exact ⟨rfl, rfl⟩
theorem IsS.inj {u v : Value} (hu : IsS u) (hv : IsS v) (h : dOf u = dOf v) : u = v := slElem_inj hu (by rw [h]; exact hv)
set_option maxRecDepth 100000 in
/-- What is a key is a cell. -/
theorem key_inv {v : Value} {kl : Lit} (h : keyOf Tryz.prog 47 v = some kl) : ∃ x y, v = cel x y ∧ (W64 x ∧ W64 y) ∧ kl = ck x y := by
  have hk := h
  unfold keyOf at hk
  rw [Tryz.underlying47] at hk
  simp only at hk
  split at hk
  · rename_i hf
    rw [Bool.and_eq_true] at hf
    obtain ⟨ls, hl, hls⟩ := Option.map_eq_some_iff.1 hk
    cases v with
    | agg cs =>
      have hsz : cs.size = 2 := by
        have := hf.2
        simpa [Value.formed, Tryz.underlying47, cells38] using this
      obtain ⟨a, b, rfl⟩ : ∃ a b, cs = #[a, b] := by
        rcases cs with ⟨l⟩
        match l, hsz with
        | [a, b], _ => exact ⟨a, b, rfl⟩
      rw [size_types] at hl
      unfold Program.keyLits at hl
      rw [Tryz.underlying47] at hl
      simp [cells38, cells3, Value.cells] at hl
      obtain ⟨la, ha⟩ : ∃ la, Tryz.prog.keyLits 275 3 [a] = some la := by
        cases hA : Tryz.prog.keyLits 275 3 [a] with
        | none => rw [hA] at hl; simp at hl
        | some la => exact ⟨la, rfl⟩
      obtain ⟨lb, hb⟩ : ∃ lb, Tryz.prog.keyLits 275 3 [b] = some lb := by
        cases hB : Tryz.prog.keyLits 275 3 [b] with
        | none => rw [ha, hB] at hl; simp at hl
        | some lb => exact ⟨lb, rfl⟩
      have key : ∀ {d : Nat} {u : Value} {lu : List Lit}, Tryz.prog.keyLits (d + 1) 3 [u] = some lu → ∃ x, u = .int .i64 x ∧ W64 x := fun {d u lu} hq => by
        unfold Program.keyLits at hq
        rw [Tryz.underlying3] at hq
        cases u <;> simp at hq
        obtain ⟨⟨rfl, hw⟩, -⟩ := hq
        exact ⟨_, rfl, hw⟩
      obtain ⟨x, rfl, hx⟩ := key (d := 274) ha
      obtain ⟨y, rfl, hy⟩ := key (d := 274) hb
      exact ⟨x, y, rfl, ⟨hx, hy⟩, Option.some.inj (h.symm.trans (hck hx hy))⟩
    | _ => simp [Value.formed, Tryz.underlying47] at hf
  · cases hk
set_option maxRecDepth 100000 in
theorem lawK : WideMaps.KeyLaw Tryz.prog 47 := deep_law_laid laidOut (m := 2) (by omega) row38 (by kernel_rfl) wide38
/-- In block b lies a map: K are its keys, F says what lies at a cell (z where nothing was put). -/
def MapS (z : Value) (w : World) (b : Nat) (K : List (Int × Int)) (F : Int → Int → Value) : Prop :=
  ∃ D : DataW Unit, w.ownsMap Tryz.prog 47 slElem b K.length D ∧ Maps.size D = K.length ∧ K.Nodup ∧ (∀ q ∈ K, W64 q.1 ∧ W64 q.2) ∧ IsS z ∧ (∀ x y, IsS (F x y)) ∧ (∀ x y, (x, y) ∉ K → F x y = z) ∧
    ∀ x y, W64 x → W64 y → Maps.has D (ck x y) = decide ((x, y) ∈ K) ∧ D.atKey (ck x y) (dOf z) = dOf (F x y)
section
variable {z : Value} {w w' : World} {b : Nat} {K : List (Int × Int)} {F : Int → Int → Value}
theorem MapS.lt (h : MapS z w b K F) : b < w.heap.size := by obtain ⟨D, h, _⟩ := h; exact h.lt
theorem MapS.nodup (h : MapS z w b K F) : K.Nodup := by obtain ⟨D, _, _, h, _⟩ := h; exact h
theorem MapS.w64 (h : MapS z w b K F) : ∀ q ∈ K, W64 q.1 ∧ W64 q.2 := by obtain ⟨D, _, _, _, h, _⟩ := h; exact h
theorem MapS.same (h : MapS z w b K F) (hb : w'.heap[b]? = w.heap[b]?) : MapS z w' b K F := by
  obtain ⟨D, ⟨es, clock, h1, h2⟩, h3⟩ := h
  exact ⟨D, ⟨es, clock, hb.trans h1, h2⟩, h3⟩
theorem MapS.kept {S : Nat → Prop} (h : MapS z w b K F) (ht : Turns S w w') (hb : ¬ S b) : MapS z w' b K F := h.same (ht.block b h.lt hb)
theorem MapS.upto (h : MapS z w b K F) (hb : Below w.heap.size w w') : MapS z w' b K F := h.same (hb.block b h.lt)
theorem MapS.blk (h : MapS z w b K F) : ∃ es clock, w.heap[b]? = some (.map es clock) := by
  obtain ⟨D, ⟨es, clock, h1, _⟩, _⟩ := h
  exact ⟨es, clock, h1⟩
theorem MapS.made (hz : IsS z) (w : World) : MapS z (w.alloc (.map #[] 0)) w.heap.size [] (fun _ _ => z) :=
  ⟨.map [], World.ownsMap_made w _ _ _, rfl, List.nodup_nil, fun q h => absurd h List.not_mem_nil, hz, fun _ _ => hz, fun _ _ _ => rfl, fun x y _ _ => ⟨rfl, rfl⟩⟩
theorem MapS.look (h : MapS z w b K F) {t e : TypeId} (ht : Tryz.prog.underlying t = some (.map 47 e)) (hz : (zeroValue e).run Tryz.prog w = .ok z w) {x y : Int} (hx : W64 x) (hy : W64 y) :
    (Instr.lookup t (.map (some b)) (cel x y) false).run Tryz.prog w = .ok (F x y) w := by
  obtain ⟨D, ho, hsz, hnd, h64, hzs, hF, hn, hD⟩ := h
  obtain ⟨v, ps, hrun, hR⟩ := ho.lookup law38 ht hz hzs (hck hx hy)
  rw [(hD x y hx hy).2] at hR
  obtain ⟨q1, q2⟩ := isS_of hR
  simp only [Prod.mk.injEq] at q2
  rw [hrun, q1.inj (hF x y) q2.1.symm]
theorem MapS.len (h : MapS z w b K F) {t e : TypeId} (ht : Tryz.prog.underlying t = some (.map 47 e)) (ty : TypeId) : (Builtin.len_ #[t] ty #[.map (some b)]).run Tryz.prog w = .ok (.int .i64 (K.length : Nat)) w := by
  obtain ⟨D, ho, hsz, _⟩ := h
  have := ho.len ht ty
  rwa [hsz] at this
/-- What is left of the keys, with one more. -/
def kput (K : List (Int × Int)) (q : Int × Int) : List (Int × Int) := if q ∈ K then K else K ++ [q]
theorem mem_kput {K : List (Int × Int)} {q r : Int × Int} : r ∈ kput K q ↔ r ∈ K ∨ r = q := by
  unfold kput
  split
  · rename_i h
    exact ⟨.inl, fun h' => h'.elim id (fun e => e ▸ h)⟩
  · simp
theorem kput_nodup {K : List (Int × Int)} (h : K.Nodup) (q : Int × Int) : (kput K q).Nodup := by
  unfold kput
  split
  · exact h
  · rename_i hn
    exact List.nodup_append.2 ⟨h, by simp, fun a ha b hb e => hn (by simp at hb; rw [← hb, ← e]; exact ha)⟩
def fput (F : Int → Int → Value) (x y : Int) (v : Value) : Int → Int → Value := fun u t => if u = x ∧ t = y then v else F u t
theorem MapS.put_of {D : DataW Unit} {w2 : World} (hnd : K.Nodup) (h64 : ∀ q ∈ K, W64 q.1 ∧ W64 q.2) (hzs : IsS z) (hF : ∀ x y, IsS (F x y)) (hn : ∀ x y, (x, y) ∉ K → F x y = z) (hD : ∀ x y, W64 x → W64 y → Maps.has D (ck x y) = decide ((x, y) ∈ K) ∧ D.atKey (ck x y) (dOf z) = dOf (F x y)) (htidy : Maps.Tidy D) (hmap : Maps.IsMap D) (hsz : Maps.size D = K.length)
    {x y : Int} (hx : W64 x) (hy : W64 y) {v : Value} (hv : IsS v) {n : Nat} (hown : w2.ownsMap Tryz.prog 47 slElem b n (D.put (ck x y) (dOf v))) : MapS z w2 b (kput K (x, y)) (fput F x y v) := by
  have hzz : Maps.size (D.put (ck x y) (dOf v)) = (kput K (x, y)).length := by
    rw [Maps.size_put htidy, (hD x y hx hy).1, hsz]
    unfold kput
    by_cases e : (x, y) ∈ K <;> simp [e]
  refine ⟨_, ?_, hzz, kput_nodup hnd _, fun q hq => ?_, hzs, fun u t => ?_, fun u t hu => ?_, fun u t hu ht' => ?_⟩
  · obtain ⟨es, clock, e1, e2, e3, e4⟩ := hown
    refine ⟨es, clock, e1, e2, ?_, e4⟩
    rw [← hzz, e4]; simp [Maps.size, length_sorted]
  · rcases mem_kput.1 hq with hq | rfl
    · exact h64 q hq
    · exact ⟨hx, hy⟩
  · unfold fput
    split
    · exact hv
    · exact hF u t
  · have hu' : (u, t) ∉ K ∧ (u, t) ≠ (x, y) := ⟨fun q => hu (mem_kput.2 (.inl q)), fun q => hu (mem_kput.2 (.inr q))⟩
    unfold fput
    rw [if_neg (fun e => hu'.2 (by rw [e.1, e.2]))]
    exact hn u t hu'.1
  · unfold fput
    by_cases e : u = x ∧ t = y
    · rw [if_pos e, e.1, e.2]
      have hm : (x, y) ∈ kput K (x, y) := mem_kput.2 (.inr rfl)
      exact ⟨by rw [Maps.has_put_same hmap (law38.key (hck hx hy))]; simp [hm], Maps.atKey_put_same hmap (law38.key (hck hx hy)) _ _⟩
    · rw [if_neg e]
      have hne : ck u t ≠ ck x y := fun hh => e (ck_inj hu ht' hx hy hh)
      rw [Maps.has_put_other hne, Maps.atKey_put_other hne]
      refine ⟨?_, (hD u t hu ht').2⟩
      rw [(hD u t hu ht').1]
      have : (u, t) ∈ kput K (x, y) ↔ (u, t) ∈ K := by
        rw [mem_kput]
        exact ⟨fun q => q.elim id (fun q => absurd (by simpa using q) e), .inl⟩
      simp [this]
theorem MapS.put (h : MapS z w b K F) {t e : TypeId} (ht : Tryz.prog.underlying t = some (.map 47 e)) {x y : Int} (hx : W64 x) (hy : W64 y) {v : Value} (hv : IsS v) (hlen : K.length < maxLen) :
    ∃ w2, (Instr.mapUpdate t (.map (some b)) (cel x y) v).run Tryz.prog w = .ok () w2 ∧ MapS z w2 b (kput K (x, y)) (fput F x y v) ∧ w.grownBy w2 (some b) := by
  obtain ⟨D, ho, hsz, hnd, h64, hzs, hF, hn, hD⟩ := h
  obtain ⟨w2, hrun, hown, hg⟩ := ho.update law38 ht hlen (hck hx hy) hv
  exact ⟨w2, hrun, MapS.put_of hnd h64 hzs hF hn hD (ho.tidy law38) ho.isMap hsz hx hy hv hown, hg⟩
theorem MapS.drop (h : MapS z w b K F) {t e : TypeId} (ht : Tryz.prog.underlying t = some (.map 47 e)) {x y : Int} (hx : W64 x) (hy : W64 y) (ty : TypeId) :
    ∃ w2, (Builtin.delete_ #[t, 47] ty #[.map (some b), cel x y]).run Tryz.prog w = .ok (.tuple #[]) w2 ∧ MapS z w2 b (K.erase (x, y)) (fput F x y z) ∧ w.grownBy w2 (some b) := by
  obtain ⟨D, ho, hsz, hnd, h64, hzs, hF, hn, hD⟩ := h
  obtain ⟨w2, hrun, hown, hg⟩ := ho.drop law38 ht (hck hx hy) ty
  have hzz : Maps.size (D.del (ck x y)) = (K.erase (x, y)).length := by
    have h1 := Maps.size_del (k := ck x y) (ho.tidy law38)
    rw [(hD x y hx hy).1, hsz] at h1
    by_cases e : (x, y) ∈ K
    · rw [List.length_erase_of_mem e]
      simp [e] at h1
      omega
    · rw [List.erase_of_not_mem e]
      simp [e] at h1
      omega
  have hme : ∀ q, q ∈ K.erase (x, y) ↔ q ≠ (x, y) ∧ q ∈ K := fun q => hnd.mem_erase_iff
  refine ⟨w2, hrun, ⟨_, ?_, hzz, hnd.erase _, fun q hq => h64 q ((hme q).1 hq).2, hzs, fun u t => ?_, fun u t hu => ?_, fun u t hu ht' => ?_⟩, hg.grown⟩
  · obtain ⟨es, clock, e1, e2, e3, e4⟩ := hown
    refine ⟨es, clock, e1, e2, ?_, e4⟩
    rw [← hzz, e4]; simp [Maps.size, length_sorted]
  · unfold fput
    split
    · exact hzs
    · exact hF u t
  · unfold fput
    split
    · rfl
    · rename_i hne
      exact hn u t (fun q => hu ((hme _).2 ⟨fun e => hne (by simpa using e), q⟩))
  · unfold fput
    by_cases e : u = x ∧ t = y
    · rw [if_pos e, e.1, e.2]
      have hm : (x, y) ∉ K.erase (x, y) := fun q => ((hme _).1 q).1 rfl
      exact ⟨by rw [Maps.has_del_same]; simp [hm], Maps.atKey_del_same _⟩
    · rw [if_neg e]
      have hne : ck u t ≠ ck x y := fun hh => e (ck_inj hu ht' hx hy hh)
      rw [Maps.has_del_other hne, Maps.atKey_del_other hne]
      refine ⟨?_, (hD u t hu ht').2⟩
      rw [(hD u t hu ht').1]
      have : (u, t) ∈ K.erase (x, y) ↔ (u, t) ∈ K := by
        rw [hme]
        exact ⟨fun q => q.2, fun q => ⟨fun e' => e (by simpa using e'), q⟩⟩
      simp [this]
theorem ok_one {α : Type} {a b : α} {w w' : World} (h : (Result.ok a w : Result α) = .ok b w') : a = b ∧ w = w' := by cases h; exact ⟨rfl, rfl⟩
/-- An entry is asked for, and stored anew later on. -/
theorem MapS.entry (h : MapS z w b K F) {t e : TypeId} (ht : Tryz.prog.underlying t = some (.map 47 e)) (hz : ∀ u : World, (zeroValue e).run Tryz.prog u = .ok z u) {x y : Int} (hx : W64 x) (hy : W64 y) (hlen : K.length < maxLen) :
    ∃ st w1, (Instr.mapEntry t (.map (some b)) (cel x y)).run Tryz.prog w = .ok (.tuple #[F x y, .int .i64 (st : Nat)]) w1 ∧ Turns (fun k => k = b) w w1 ∧ w1.heap.size = w.heap.size ∧
      ∀ (w2 : World) (v : Value), w2.heap[b]? = w1.heap[b]? → IsS v → ∃ w3, (Instr.entryStore t (.map (some b)) (.int .i64 (st : Nat)) v).run Tryz.prog w2 = .ok () w3 ∧ MapS z w3 b (kput K (x, y)) (fput F x y v) ∧ Turns (fun k => k = b) w2 w3 := by
  have hlt := h.lt
  have hlook := h.look ht (hz w) hx hy
  obtain ⟨D, ho, hsz, hnd, h64, hzs, hF, hn, hD⟩ := h
  obtain ⟨es, clock, hb, Fi, hs, hDe⟩ := id ho
  obtain ⟨v0, st, es1, clock1, hrun, hv0, hst⟩ := WideElems.entry_then_store lawK ht hz hb Fi (hck hx hy)
  have hset : ∀ (u : World) (o : Obj), b < u.heap.size → (ChangeMaps.setBlock u b o).heap[b]? = some o ∧ Turns (fun k => k = b) u (ChangeMaps.setBlock u b o) ∧ (ChangeMaps.setBlock u b o).heap.size = u.heap.size := fun u o hu => by
    refine ⟨?_, ⟨rfl, rfl, rfl, ?_, fun k hk hne => ?_⟩, ?_⟩
    · unfold ChangeMaps.setBlock; simp [hu]
    · unfold ChangeMaps.setBlock; simp
    · unfold ChangeMaps.setBlock
      exact Array.getElem?_setIfInBounds_ne (fun e => hne e.symm)
    · unfold ChangeMaps.setBlock; simp
  have hv : v0 = F x y := by
    rcases Maps.fit_look false law38 ht (hz w) hb Fi (hck hx hy) with ⟨hr, hno, _⟩ | ⟨e0, yy, he0, hek, hr, _⟩
    · have hr := (ok_one (hlook.symm.trans hr)).1
      rcases hv0 with ⟨e1, hm1, hk1, -⟩ | ⟨-, rfl⟩
      · exact absurd hk1 (hno e1 hm1)
      · exact hr.symm
    · have hr := (ok_one (hlook.symm.trans hr)).1
      rcases hv0 with ⟨e1, hm1, hk1, rfl⟩ | ⟨hno, -⟩
      · have hp : es.toList.Pairwise (fun a c => a.key ≠ c.key) := List.pairwise_map.1 Fi.stamped.2.2
        rw [entry_eq_of_key hp hm1 he0 (hk1.trans hek.symm)]
        exact hr.symm
      · exact absurd hek (hno e0 he0)
  subst hv
  obtain ⟨s1, s2, s3⟩ := hset w (.map es1 clock1) hlt
  refine ⟨st, _, hrun, s2, s3, fun w2 v hb2 hvS => ?_⟩
  rw [s1] at hb2
  obtain ⟨es', clock', r1, r2⟩ := hst w2 v hb2
  have hlt2 : b < w2.heap.size := (Array.getElem?_eq_some_iff.1 hb2).1
  obtain ⟨t1, t2, -⟩ := hset w2 (.map es' clock') hlt2
  refine ⟨_, r1, ?_, t2⟩
  obtain ⟨w4, hr4, hown, hg⟩ := ho.update law38 ht hlen (hck hx hy) hvS
  have hr4 := (ok_one (r2.symm.trans hr4)).2
  have hown' : (ChangeMaps.setBlock w2 b (.map es' clock')).ownsMap Tryz.prog 47 slElem b (K.length + 1) (D.put (ck x y) (dOf v)) := by
    obtain ⟨es3, clock3, f1, f2, f3, f4⟩ := hown
    rw [← hr4, (hset w (.map es' clock') hlt).1] at f1
    cases f1
    exact ⟨es', clock', t1, f2, f3, f4⟩
  exact MapS.put_of hnd h64 hzs hF hn hD (ho.tidy law38) ho.isMap hsz hx hy hvS hown'
end
end Go.Proofs.YthiafmlgialbnaaGreatDoor
set_option linter.unusedSimpArgs false
namespace Go.Proofs.YthiafmlgialbnaaGreatDoor
open Go.RowKit Go.Shelf
set_option linter.unusedVariables false
attribute [local go_sem] Oper.semAt_some
abbrev encQ (q : Int × Int) : Array Value := #[cel q.1 q.2]
theorem filter_moreQ : ∀ {l : List (Int × Int)} (hs : l.Nodup) (P : Int × Int → Bool) (t : Int × Int), t ∈ l → P t = false → (l.filter (fun s => P s || decide (s = t))).Perm (l.filter P ++ [t])
  | [], _, _, _, h, _ => by simp at h
  | s :: r, hs, P, t, h, hp => by
    have hs' := List.nodup_cons.1 hs
    rcases List.mem_cons.1 h with rfl | h
    · have hr : r.filter (fun s => P s || decide (s = t)) = r.filter P := by
        refine List.filter_congr (fun u hu => ?_)
        rw [show decide (u = t) = false by simp; rintro rfl; exact hs'.1 hu, Bool.or_false]
      rw [List.filter_cons, List.filter_cons, hp]
      simp only [Bool.false_or, decide_true, if_true, Bool.false_eq_true, if_false, hr]
      exact List.perm_append_comm (l₁ := [t])
    · have e : decide (s = t) = false := by simp; rintro rfl; exact hs'.1 h
      have ih := filter_moreQ hs'.2 P t h hp
      rw [List.filter_cons, List.filter_cons, e, Bool.or_false]
      cases P s
      · simpa using ih
      · simpa using ih.cons s
theorem ck_same {x y u v : Int} (hx : W64 x) (hy : W64 y) (hu : W64 u) (hv : W64 v) : (ck x y).sameKey (ck u v) = decide ((x, y) = (u, v)) := by
  by_cases e : (x, y) = (u, v)
  · cases e
    simp [ck, Lit.sameKey]
  · have hne : ck x y ≠ ck u v := fun h => e (by obtain ⟨rfl, rfl⟩ := ck_inj hx hy hu hv h; rfl)
    have : (ck x y).sameKey (ck u v) = false := by
      cases h : (ck x y).sameKey (ck u v)
      · rfl
      · exact absurd (by simpa [ck, Lit.sameKey] using h) hne
    rw [this]
    simp [e]
/-- What has come of the keys. -/
def ComeC (K L : List (Int × Int)) (left : Lit → Bool) : Prop := L.Perm (K.filter (fun q => !left (ck q.1 q.2)))
theorem ComeC.step {K L : List (Int × Int)} {left : Lit → Bool} (hs : K.Nodup) (h64 : ∀ q ∈ K, W64 q.1 ∧ W64 q.2) (h : ComeC K L left) {x y : Int} (hm : (x, y) ∈ K) (hl : left (ck x y) = true) : ComeC K (L ++ [(x, y)]) (fun z => left z && !z.sameKey (ck x y)) := by
  have := filter_moreQ hs (fun q => !left (ck q.1 q.2)) (x, y) hm (by simp [hl])
  unfold ComeC at *
  have e : K.filter (fun q => !(left (ck q.1 q.2) && !(ck q.1 q.2).sameKey (ck x y))) = K.filter (fun s => !left (ck s.1 s.2) || decide (s = (x, y))) := by
    refine List.filter_congr (fun u hu => ?_)
    have hu' := h64 u hu
    have hx' := h64 _ hm
    rw [ck_same hu'.1 hu'.2 hx'.1 hx'.2, show decide ((u.1, u.2) = (x, y)) = decide (u = (x, y)) from rfl]
    generalize decide (u = (x, y)) = t
    cases left (ck u.1 u.2) <;> cases t <;> rfl
  rw [e]
  exact (h.append_right [(x, y)]).trans this.symm
theorem ComeC.start {K : List (Int × Int)} {D : DataW Unit} (h : ∀ q ∈ K, Maps.has D (ck q.1 q.2) = true) : ComeC K [] (Maps.has D) := by
  unfold ComeC
  rw [List.filter_eq_nil_iff.2 (fun t ht => by simp [h t ht])]
theorem ComeC.done {K L : List (Int × Int)} {left : Lit → Bool} (h : ComeC K L left) (h0 : ∀ kl, left kl = false) : L.Perm K := by
  unfold ComeC at h
  rwa [List.filter_eq_self.2 (fun t ht => by simp [h0])] at h
theorem ComeC.len {K L : List (Int × Int)} {left : Lit → Bool} (h : ComeC K L left) : L.length ≤ K.length := by
  have h1 : L.length = _ := h.length_eq
  have h2 := List.length_filter_le (fun q : Int × Int => !left (ck q.1 q.2)) K
  omega
theorem ranges_sameS {w w' : World} {b r n cnt : Nat} {D : DataW Unit} {left : Lit → Bool} (h : w.ranges Tryz.prog 47 slElem b r n D left cnt) (hb : w'.heap[b]? = w.heap[b]?) (hr : w'.heap[r]? = w.heap[r]?) : w'.ranges Tryz.prog 47 slElem b r n D left cnt := by
  obtain ⟨es, clock, since, seen, c0, e1, F, hs, hD, e2, rest⟩ := h
  exact ⟨es, clock, since, seen, c0, hb.trans e1, F, hs, hD, hr.trans e2, rest⟩
set_option maxRecDepth 100000 in
set_option maxHeartbeats 4000000 in
theorem keys_seq117 (n h b : Nat) (z : Value) (K : List (Int × Int)) (F : Int → Int → Value) (w : World) (hP : Boxed w h 65 (.map (some b))) (hm : MapS z w b K F) (N : Nat) (hN : K.length ≤ N) :
    SeqOwnT 47 n 117 #[ptr h] encQ (Below w.heap.size) (fun xs => xs.Perm K) (fun _ => True) N w := fun lo J Jx W hW hJ hJx hY h0 => by
  refine callsIn_of_wp Tryz.func117 rfl trivial ?_ rfl
  simp only [Tryz.ntmps117, List.size_toArray, List.length_cons, List.length_nil, Nat.reduceAdd, Nat.reduceSub, Array.replicate_succ, Array.replicate_zero, List.push_toArray, List.append_toArray, List.nil_append, List.cons_append]
  have hbl := hm.lt
  have hhl := hP.lt
  have hsW := hW.size
  have mW := hm.upto hW
  have PW := boxed_upto hP hW hhl
  have c0 := PW.cell
  obtain ⟨D, hown, hsz, hnd, h64, -, -, -, hD⟩ := id mW
  have HY := hide hY
  have HJ := hide hJ
  have HD := hide hD
  have Hnd := hide (And.intro hnd h64)
  clear hY hD
  obtain ⟨w2, hrun, hrg0, hg2, hs2⟩ := hown.range law38 Tryz.underlying65
  gi_wp2_with fail
  have b2 : Below W.heap.size W w2 := ⟨hg2.os, hg2.tape, hg2.output, hg2.size, fun k hk => hg2.block k hk (by simp)⟩
  have hhas : ∀ q ∈ K, Maps.has D (ck q.1 q.2) = true := fun q hq => by rw [(HD.out q.1 q.2 (h64 q hq).1 (h64 q hq).2).1]; simpa using hq
  have j2 := own_below hJ h0 b2
  have HJ2 := hide j2
  have HRG := hide hrg0
  have hb2w : Below w.heap.size w w2 := hW.trans (b2.mono hsW)
  have HB2 := hide hb2w
  have HH := hide hhas
  clear hrun hrg0 hg2 c0 j2 hb2w b2 hown mW PW hsz hnd h64 hhas hm hP
  gi_loopw [] (fun wr => ∃ (left : Lit → Bool) (cnt : Nat) (L : List (Int × Int)), wr.ranges Tryz.prog 47 slElem b W.heap.size K.length D left cnt ∧ (ComeC K L left ∧ ∀ kl, left kl = true → Maps.has D kl = true) ∧ J L wr ∧ Below w.heap.size w wr ∧ W.heap.size < wr.heap.size) (fun wr => wr.rangeLeft b W.heap.size)
  case atStart => exact ⟨_, _, [], HRG.out, ⟨ComeC.start HH.out, fun kl e => e⟩, HJ2.out, HB2.out, by omega⟩
  case round =>
    obtain ⟨left, cnt, L, hrg, ⟨hcm, hsub⟩, hj, hB, hzr⟩ := hrel
    rename World => wo
    rcases hrg.next law38 0 with ⟨hc0, hl0, hrun⟩ | ⟨key, vv, kl, yv, w3, cnt3, hkey, hlk, hv, hat, hrun, hrg3, hlt, hg3, hs3, hen⟩
    · have HFn : Hid (L.Perm K ∧ J L wo) := hide ⟨hcm.done hl0, hj⟩
      clear hrg hcm hsub hB
      gi_wp2_with fail
      go_end0
      exact ⟨⟨_, rfl⟩, .inl ⟨_, HFn.out.1, HFn.out.2⟩⟩
    · obtain ⟨x, y, rfl, ⟨hx, hy⟩, rfl⟩ := key_inv hkey
      obtain ⟨hvS, -⟩ := isS_of hv
      have hmem : (x, y) ∈ K := by
        have h1 := (HD.out x y hx hy).1
        rw [hsub _ hlk] at h1
        simpa using h1.symm
      have hri : ∃ o : Obj, wo.heap[W.heap.size]? = some o ∧ o.isCells = false := by
        obtain ⟨_, _, _, _, _, _, _, _, _, e2, _⟩ := id hrg
        exact ⟨_, e2, rfl⟩
      have hj3 : J L w3 := HJ.out _ _ _ _ hj hg3 (fun r e => by cases e; exact ⟨Nat.le_refl _, hri⟩)
      have T3 : Turns (fun k => k = W.heap.size) wo w3 := Turns.of_grown hg3 (fun k e => by cases e; rfl)
      have hB3 : Below w.heap.size w w3 := hB.trans (T3.below (fun k e => by omega) hB.size)
      obtain ⟨W6, hW6⟩ : ∃ W6, w3.alloc (.cells #[.int .i64 x, .int .i64 y] 47) = W6 := ⟨_, rfl⟩
      have b6 : Below w3.heap.size w3 W6 := hW6 ▸ box1 _ _
      have F6 : Two W6 w3.heap.size x y := by rw [← hW6]; exact Two.newAt rfl
      have hB6 : Below w.heap.size w W6 := hB3.trans (b6.mono hB3.size)
      have hrg6 := ranges_sameS hrg3 (b6.block b (by omega)) (b6.block W.heap.size (by omega))
      have hj6 := own_below HJ.out hj3 b6
      have hz6 := b6.size
      have hcm5 := hcm.step Hnd.out.1 Hnd.out.2 hmem hlk
      have hsub5 : ∀ kl, (left kl && !kl.sameKey (ck x y)) = true → Maps.has D kl = true := fun kl e => by
        rw [Bool.and_eq_true] at e
        exact hsub kl e.1
      have hln := hcm5.len
      rw [List.length_append, List.length_singleton] at hln
      have HB6 := hide hB6
      have HR6 := hide hrg6
      have HW6 := hide hW6
      have HRo := hide hrg
      have HLt := hide hlt
      have HC5 := hide (And.intro hcm5 hsub5)
      obtain ⟨fn, tmps, assign, body, hyd, hRd⟩ := HY.out L (x, y) W6 hj6 (by omega)
      dsimp only [encQ] at hyd
      have HRd := hide hRd
      rw [hs3] at F6
      obtain ⟨⟨f0, f1⟩, -, -⟩ := id F6
      clear hj hj3 hrg hrg3 hcm hcm5 hsub hsub5 hB hB3 hB6 T3 hg3 F6 hkey hv hat hri hmem hj6 hRd b6 hW6 hrg6 hlt
      gi_wp2_with (rw [HW6.out])
      refine ⟨fun h => (by cases h), ?_⟩
      refine HRd.out.mono ?_
      rintro e W7 ⟨hk7, (⟨rfl, hJ7, hKp7⟩ | ⟨rfl, hJx7⟩)⟩
      · have HJ7 := hide hJ7
        have hrg7 := ranges_sameS HR6.out (hKp7.block b (by omega)) (by obtain ⟨es, clock, since, seen, cc, -, -, -, -, hwk, -⟩ := HR6.out; exact (hk7.at (Nat.le_refl _) hwk rfl).trans hwk.symm)
        have HR7 := hide hrg7
        have HB7 := hide (HB6.out.trans hKp7)
        have hz7 := hk7.1
        clear hJ7 hrg7 hKp7 hk7 hyd
        gi_wp2_with fail
        go_roundw
        case rel => exact ⟨_, _, L ++ [(x, y)], HR7.out, HC5.out, HJ7.out, HB7.out, by omega⟩
        case measure => rw [HR7.out.left_eq, HRo.out.left_eq]; exact HLt.out
      · have HJx := hide hJx7
        clear hJx7 hk7 hyd
        gi_wp2_with fail
        refine bodyPost_ret (results_none rfl _ _ _) rfl ?_
        exact ⟨⟨_, rfl⟩, .inr ⟨_, trivial, HJx.out⟩⟩
end Go.Proofs.YthiafmlgialbnaaGreatDoor
set_option linter.unusedSimpArgs false
namespace Go.Proofs.YthiafmlgialbnaaGreatDoor
open Go.RowKit Go.Shelf
set_option linter.unusedVariables false
attribute [local go_sem] Oper.semAt_some
theorem wpListIn_append_runC {F : Fence} {nF : Nat} {P : Program} {w : World} {ops : Array Oper} {rest : List Oper} {o : Oper} {a : Act} {Q : Exit → Act → World → Prop}
    (hgd : o.guard = none) (s x : Operand) (t : TypeId) (ho : o.op = .call { callee := .builtin .append, args := #[s, x], argTypes := #[t, t] })
    (v xv : Value) (hs : a.eval s = v) (hx : a.eval x = xv) {v' : Value} {w' : World} (hr : (Builtin.append_ #[t, t] o.type #[v, xv]).run P w = .ok v' w') (h : wpListIn F nF P ops Q rest (a.put o.dst v') w') :
    wpListIn F nF P ops Q (o :: rest) a w := by
  refine wpListIn_plain hgd fun K hK => ?_
  unfold Oper.wpIn
  refine ⟨by simp [Oper.about, ho, resolve, Target.leads, Sem.run_pure], ?_⟩
  rw [Oper.semAt_plain F _ _ (by rw [ho]; intro c hc'; cases hc')]
  simp [execOp, ho, resolve, invoke, builtin, hs, hx, hr, Result.andThen]
  exact hK _ _ h
theorem turns_putC {S : Nat → Prop} (w : World) (k : Nat) (o : Obj) (hk : S k) : Turns S w (w.putObj k o) := ⟨rfl, rfl, rfl, by simp, fun j _ hj => World.putObj_heap_other (fun e => hj (e ▸ hk))⟩
/-- What the loop of AppendSeq keeps. -/
structure GtC (w X : World) (v : Value) (pre : List (Int × Int)) : Prop where
  nn : RC X v pre
  own : ∀ k, v.ownBlock = some k → w.heap.size < k
  bx : Boxed X w.heap.size 68 v
  below : Below w.heap.size w X
theorem GtC.own_from {w : World} {B : Nat} (hB : w.heap.size ≤ B) : OwnFrom B (fun pre X => ∃ v, GtC w X v pre) := by
  rintro pre X Y row ⟨v, h⟩ hg hr
  have hc : ∀ k, row = some k → ∃ o : Obj, X.heap[k]? = some o ∧ o.isCells = false := fun k e => (hr k e).2
  have T : Turns (fun k => row = some k) X Y := Turns.of_grown hg (fun k e => e)
  have hb : row ≠ some w.heap.size := fun e => by
    obtain ⟨o, ho, hn⟩ := hc _ e
    rw [show X.heap[w.heap.size]? = _ from h.bx] at ho
    cases ho
    cases hn
  refine ⟨v, h.nn.kept T (fun k e q => ?_), h.own, boxed_kept h.bx T hb, ?_⟩
  · obtain ⟨cur, hk⟩ := h.nn.blk e
    obtain ⟨o, ho, hn⟩ := hc k q
    rw [hk] at ho
    cases ho
    cases hn
  · exact ownFrom_below (β := Unit) (Nat.le_refl _) hB () X Y row h.below hg hr
theorem GtC.push {w X : World} {v : Value} {pre : List (Int × Int)} (h : GtC w X v pre) (t : Int × Int) (hlen : pre.length ≤ 100000) {B : Nat} (hB : w.heap.size < B) :
    ∃ v' Y, (Builtin.append_ #[68, 68] 68 #[v, .slice (some ⟨X.heap.size, 0, none⟩) 1 1]).run Tryz.prog (X.alloc (.cells #[.int .i64 t.1, .int .i64 t.2] 47)) = .ok v' Y ∧ (∃ a n c, v' = .slice a n c) ∧ Y.cell? ⟨w.heap.size, 0, none⟩ = some v ∧ Y.frozen? ⟨w.heap.size, 0, none⟩ = false ∧
      KeepT 47 B X (Y.setCell ⟨w.heap.size, 0, none⟩ v') ∧ Below w.heap.size X (Y.setCell ⟨w.heap.size, 0, none⟩ v') ∧ GtC w (Y.setCell ⟨w.heap.size, 0, none⟩ v') v' (pre ++ [t]) := by
  obtain ⟨v', Y, r1, n1, o1, T1⟩ := push_C h.nn t (by omega)
  have hsz := h.below.size
  have hlt := h.bx.lt
  have hb : v.ownBlock ≠ some w.heap.size := fun e => by have := h.own _ e; omega
  have bY := boxed_kept h.bx T1 hb
  have T2 : Turns (fun k => k = w.heap.size) Y (Y.setCell ⟨w.heap.size, 0, none⟩ v') := Turns.set (S := fun k => k = w.heap.size) _ rfl _
  have own' : ∀ k, v'.ownBlock = some k → w.heap.size < k := fun k e => by
    rcases o1 k e with q | q
    · exact h.own k q
    · omega
  have bl : Below w.heap.size X (Y.setCell ⟨w.heap.size, 0, none⟩ v') := (T1.below (fun k e => Nat.le_of_lt (h.own k e)) hsz).trans (T2.below (fun k e => by omega) (by have := T1.size; omega))
  obtain ⟨a2, c2, e2⟩ := slice_C n1
  refine ⟨v', Y, r1, ⟨_, _, _, e2⟩, bY.cell, bY.frozen, ⟨Nat.le_trans T1.size T2.size, fun k o hk ho hn => ?_⟩, bl, ⟨n1.kept T2 (fun k e q => by have := own' k e; omega), own', bY.set _, h.below.trans bl⟩⟩
  have hv : v.ownBlock ≠ some k := fun e => by
    obtain ⟨cur, hk2⟩ := h.nn.blk e
    rw [ho] at hk2
    cases hk2
    cases hn
  exact T2.same (by omega) (T1.same hv ho)
set_option maxRecDepth 100000 in
set_option maxHeartbeats 4000000 in
theorem gather_C {g : Nat} {lb : Array Value} {S Sp : List (Int × Int) → Prop} {N : Nat} {w : World} (eg : ∀ args w, (callFunc g args).run Tryz.prog w = .ok (.enter g args) w) (hseq : SeqOwnT 47 (10 - 1) g lb encQ (Below w.heap.size) S Sp N w) (hN : N ≤ 100000) :
    Calls Tryz.prog 151 #[.slice none 0 0, .func (.func g) #[] lb] w fun e w' => ∃ v xs, e = .returned v ∧ S xs ∧ RC w' v xs ∧ (∀ k, v.ownBlock = some k → w.heap.size ≤ k) ∧ Below w.heap.size w w' := by
  refine (callsIn_wide (n := 10)).1 ?_
  refine callsIn_of_wp_marks Tryz.func151 rfl trivial ?_ rfl
  simp only [Tryz.ntmps151, List.size_toArray, List.length_cons, List.length_nil, Nat.reduceAdd, Nat.reduceSub, Array.replicate_succ, Array.replicate_zero, List.push_toArray, List.append_toArray, List.nil_append, List.cons_append]
  obtain ⟨X, hX⟩ : ∃ X, w.alloc (.cells #[.slice none 0 0] 68) = X := ⟨_, rfl⟩
  have bX : Below w.heap.size w X := hX ▸ box1 _ _
  have zX : X.heap.size = w.heap.size + 1 := by rw [← hX]; simp
  have mX : Boxed X w.heap.size 68 (.slice none 0 0) := hX ▸ Boxed.new w 68 _
  gi_wp2_with (rw [hX])
  clear hX
  refine range_nestT (n := 10) (by omega) (gf := g) (lb := lb) rfl eg hseq (fun h k => h.trans k) (belowK_b (by omega)) bX (fun _ => rfl)
    (fun pre Y => ∃ v, GtC w Y v pre) (fun _ _ => False) (GtC.own_from (by omega)) (fun _ _ _ _ h _ _ => h.elim)
    ⟨_, Rw.nil _ _ _ _, fun k e => by simp [Value.ownBlock] at e, mX, bX⟩
    (fun q a' Y => ∃ B, X.heap.size ≤ B ∧ Y.heap[B]? = some (.cells #[.int .i64 q.1, .int .i64 q.2] 47 (0, 0)) ∧ a' = { tmps := #[.slice none 0 0, .func (.func g) #[] lb, ptr w.heap.size, undef, .slice none 0 0, ptr B, .func (.func g) #[] lb, cel q.1 q.2, undef, undef, undef, undef, undef], defers := [] })
    (fun q a' _ Y Z row hs hg hr => by
      obtain ⟨B, h1, h2, h3⟩ := hs
      refine ⟨B, h1, (hg.block B (Array.getElem?_eq_some_iff.1 h2).1 (fun e => ?_)).trans h2, h3⟩
      obtain ⟨-, o, ho, hn⟩ := hr B e.symm
      rw [h2] at ho
      cases ho
      cases hn)
    ?assign ?body ?done ?stop
  case assign =>
    rintro lo pre q Y K hI hK
    obtain ⟨v, hG⟩ := hI
    gi_wp2
    refine hK _ _ (KeepT.of_below (box1 _ _)) ((box1 Y _).mono (by have := hG.below.size; omega)) ?_ ⟨Y.heap.size, by have := hG.bx.lt; omega, heap_alloc_new Y _, rfl⟩
    exact ⟨v, hG.nn.upto (box1 _ _), hG.own, boxed_upto hG.bx (box1 _ _) hG.bx.lt, hG.below.trans ((box1 Y _).mono hG.below.size)⟩
  case body =>
    rintro lo pre q a' Y hlo ⟨v, hG⟩ ⟨B, hB, hBc, rfl⟩ hlt
    obtain ⟨v2, Z, rA, ⟨a2, n2, c2, rfl⟩, c1, f1, hk, hb, hG2⟩ := hG.push q (by omega) (B := X.heap.size) (by omega)
    have cv := hG.bx.cell
    have HA := hide rA
    have HE := hide (show KeepT 47 X.heap.size Y (Z.setCell ⟨w.heap.size, 0, none⟩ (.slice a2 n2 c2)) ∧ Below w.heap.size Y (Z.setCell ⟨w.heap.size, 0, none⟩ (.slice a2 n2 c2)) ∧ ∃ v, GtC w (Z.setCell ⟨w.heap.size, 0, none⟩ (.slice a2 n2 c2)) v (pre ++ [q]) from ⟨hk, hb, _, hG2⟩)
    obtain ⟨a1, c3, hv1⟩ := slice_C hG.nn
    subst hv1
    have d1 : (Y.alloc (.cells #[.int .i64 q.1, .int .i64 q.2] 47)).cell? ⟨w.heap.size, 0, none⟩ = some (.slice a1 pre.length c3) := ((box1 Y _).cell (p := ⟨w.heap.size, 0, none⟩) hG.bx.lt).trans cv
    have b0 : Y.cell? ⟨B, 0, none⟩ = some (.int .i64 q.1) := by rw [cell_of_row Y B 0 _ _ _ hBc]; rfl
    have b1 : Y.cell? ⟨B, 1, none⟩ = some (.int .i64 q.2) := by rw [cell_of_row Y B 1 _ _ _ hBc]; rfl
    clear rA hk hb hG2 hG hBc
    gi_wp2_with (gi_at_builtin; refine wpListIn_append_runC rfl _ _ 68 rfl _ _ rfl rfl HA.out ?_)
    exact HE.out
  case done =>
    rintro D xs Y hD hS ⟨v, hG⟩ hK
    have cv := hG.bx.cell
    obtain ⟨a1, c3, hv1⟩ := slice_C hG.nn
    subst hv1
    have HG := hide hG
    clear hG
    gi_wp2_with fail
    refine ⟨by simp, .inl ⟨_, _, rfl, run_takeDeferred hK, ?_⟩⟩
    have tp : Turns (fun k => k = D) Y (Y.putObj D (.deferred none)) := turns_putC _ _ _ rfl
    refine ⟨.slice a1 xs.length c3, by simp [results, Tryz.f151, go_sem], _, xs, rfl, hS, HG.out.nn.kept tp (fun k e q => ?_), fun k e => Nat.le_of_lt (HG.out.own k e), HG.out.below.trans (tp.below (fun k e => by omega) HG.out.below.size)⟩
    obtain ⟨cur, hk⟩ := HG.out.nn.blk e
    subst q
    rw [hK] at hk
    cases hk
  case stop => exact fun D pre Y hD hp h hK => h.elim
set_option maxHeartbeats 1000000 in
theorem sorted_C {g : Nat} {lb : Array Value} {S Sp : List (Int × Int) → Prop} {N : Nat} {w : World} (eg : ∀ args w, (callFunc g args).run Tryz.prog w = .ok (.enter g args) w) (hseq : SeqOwnT 47 (10 - 1) g lb encQ (Below w.heap.size) S Sp N w) (hN : N ≤ 100000) (hS : ∀ xs, S xs → xs.length ≤ 1000000) :
    Calls Tryz.prog 72 #[.func (.func g) #[] lb, .func (.func 74) #[] #[]] w fun e w' => ∃ v xs L, e = .returned v ∧ S xs ∧ L.Perm xs ∧ SrtC L ∧ RC w' v L ∧ (∀ k, v.ownBlock = some k → w.heap.size ≤ k) ∧ Below w.heap.size w w' := by
  have HC : Hid (Calls Tryz.prog 108 #[.func (.func g) #[] lb] w fun e w' => ∃ v xs, e = .returned v ∧ S xs ∧ RC w' v xs ∧ (∀ k, v.ownBlock = some k → w.heap.size ≤ k) ∧ Below w.heap.size w w') := hide (by
    have HG := hide (gather_C eg hseq hN)
    clear hseq eg
    go_enter Tryz.func108, Tryz.ntmps108
    go_wp2_with fail
    refine HG.out.mono ?_
    rintro e w1 ⟨v, xs, rfl, h1, h2, h3, h4⟩
    obtain ⟨a1, c3, hv1⟩ := slice_C h2
    subst hv1
    have HE := hide (And.intro h1 (And.intro h2 (And.intro h3 h4)))
    clear h1 h2 h3 h4
    go_wp2_with fail
    go_ret
    exact ⟨_, xs, rfl, HE.out⟩)
  clear hseq eg
  have HS := hide hS
  clear hS
  go_enter Tryz.func72, Tryz.ntmps72
  go_wp2_with fail
  refine HC.out.mono ?_
  rintro e w1 ⟨v, xs, rfl, h1, h2, h3, h4⟩
  have Hs := hide (sort_C (HS.out xs h1) h2)
  obtain ⟨a1, c3, hv1⟩ := slice_C h2
  subst hv1
  have HE := hide (And.intro h1 (And.intro h3 h4))
  clear h1 h2 h3 h4
  go_wp2_with fail
  refine Hs.out.mono ?_
  rintro e w2 ⟨rfl, M, m1, m2, m3, m4⟩
  have HM := hide (show ∃ v ys L, Ending.returned (.slice a1 xs.length c3) = .returned v ∧ S ys ∧ L.Perm ys ∧ SrtC L ∧ RC w2 v L ∧ (∀ k, v.ownBlock = some k → w.heap.size ≤ k) ∧ Below w.heap.size w w2 from ⟨_, xs, M, rfl, HE.out.1, m1, m2, m3, HE.out.2.1, HE.out.2.2.trans (m4.below (fun k e => HE.out.2.1 k e) HE.out.2.2.size)⟩)
  clear m1 m2 m3 m4 Hs
  go_wp2_with fail
  go_ret
  exact HM.out
set_option maxHeartbeats 1000000 in
theorem inord43 {z : Value} {w : World} {b : Nat} {K : List (Int × Int)} {F : Int → Int → Value} (h : MapS z w b K F) (hlen : K.length ≤ 100000) :
    Calls Tryz.prog 43 #[.map (some b)] w fun e w' => ∃ v L, e = .returned v ∧ L.Perm K ∧ SrtC L ∧ RC w' v L ∧ (∀ k, v.ownBlock = some k → w.heap.size ≤ k) ∧ Below w.heap.size w w' := by
  have HK : Hid (Calls Tryz.prog 77 #[.map (some b)] w fun e w' => e = .returned (.func (.func 117) #[] #[ptr w.heap.size]) ∧ w' = w.alloc (.cells #[.map (some b)] 65)) := hide (by
    go_enter Tryz.func77, Tryz.ntmps77
    go_wp2_with fail
    go_ret
    exact ⟨rfl, rfl⟩)
  obtain ⟨X, hX⟩ : ∃ X, w.alloc (.cells #[.map (some b)] 65) = X := ⟨_, rfl⟩
  have bX : Below w.heap.size w X := hX ▸ box1 _ _
  have P1 : Boxed X w.heap.size 65 (.map (some b)) := hX ▸ Boxed.new w 65 _
  have HS := hide (sorted_C (enters_of Tryz.func117 (by kernel_rfl) rfl) (keys_seq117 (10 - 1) w.heap.size b z K F X P1 (h.upto bX) K.length (Nat.le_refl _)) hlen (fun xs e => by rw [e.length_eq]; omega))
  rw [hX] at HK
  have HB := hide bX
  clear hX bX P1 h
  go_enter Tryz.func43, Tryz.ntmps43
  go_wp2_with fail
  refine HK.out.mono ?_
  rintro e w1 ⟨rfl, rfl⟩
  go_wp2_with fail
  refine HS.out.mono ?_
  rintro e w2 ⟨v, xs, L, rfl, h1, h2, h3, h4, h5, h6⟩
  obtain ⟨a1, c3, hv1⟩ := slice_C h4
  subst hv1
  have HE := hide (show ∃ v L', Ending.returned (.slice a1 L.length c3) = .returned v ∧ L'.Perm K ∧ SrtC L' ∧ RC w2 v L' ∧ (∀ k, v.ownBlock = some k → w.heap.size ≤ k) ∧ Below w.heap.size w w2 from ⟨_, L, rfl, h2.trans h1, h3, h4, fun k e => Nat.le_trans HB.out.size (h5 k e), bt HB.out h6⟩)
  clear h1 h2 h3 h4 h5 h6
  go_wp2_with fail
  go_ret
  exact HE.out
end Go.Proofs.YthiafmlgialbnaaGreatDoor
set_option linter.unusedSimpArgs false
namespace Go.Proofs.YthiafmlgialbnaaGreatDoor
open Go.RowKit Go.Shelf
set_option linter.unusedVariables false
/-- In block gp lies a graph: of which world, for which shape, as of which edit; where its two maps lie. -/
def Gp (w : World) (gp p : Nat) (c s ep : Int) (wb eb : Nat) : Prop := w.heap[gp]? = some (.cells #[ptr p, .int .i64 c, .int .i64 s, .int .i64 ep, .map (some wb), .map (some eb)] 67 (0, 0))
section
variable {w w' : World} {gp p : Nat} {c s ep : Int} {wb eb : Nat}
theorem Gp.lt (h : Gp w gp p c s ep wb eb) : gp < w.heap.size := (Array.getElem?_eq_some_iff.1 h).1
theorem Gp.upto (h : Gp w gp p c s ep wb eb) (hb : Below w.heap.size w w') : Gp w' gp p c s ep wb eb := (hb.block gp h.lt).trans h
theorem Gp.kept {S : Nat → Prop} (h : Gp w gp p c s ep wb eb) (ht : Turns S w w') (hs : ¬ S gp) : Gp w' gp p c s ep wb eb := ht.same hs h
theorem Gp.c0 (h : Gp w gp p c s ep wb eb) : w.cell? ⟨gp, 0, none⟩ = some (ptr p) := by rw [cell_of_row w gp 0 _ _ _ h]; rfl
theorem Gp.c1 (h : Gp w gp p c s ep wb eb) : w.cell? ⟨gp, 1, none⟩ = some (.int .i64 c) := by rw [cell_of_row w gp 1 _ _ _ h]; rfl
theorem Gp.c2 (h : Gp w gp p c s ep wb eb) : w.cell? ⟨gp, 2, none⟩ = some (.int .i64 s) := by rw [cell_of_row w gp 2 _ _ _ h]; rfl
theorem Gp.c4 (h : Gp w gp p c s ep wb eb) : w.cell? ⟨gp, 4, none⟩ = some (.map (some wb)) := by rw [cell_of_row w gp 4 _ _ _ h]; rfl
theorem Gp.c5 (h : Gp w gp p c s ep wb eb) : w.cell? ⟨gp, 5, none⟩ = some (.map (some eb)) := by rw [cell_of_row w gp 5 _ _ _ h]; rfl
end
/-- The direction back. -/
def bkN (d : Fin 8) : Fin 8 := match d with
  | 0 => 2 | 1 => 3 | 2 => 0 | 3 => 1 | 4 => 6 | 5 => 7 | 6 => 4 | 7 => 5
set_option maxRecDepth 100000 in
set_option maxHeartbeats 1000000 in
theorem back_is (d : Fin 8) (w : World) : Calls Tryz.prog 125 #[.int .i64 ((d.val : Nat) : Int)] w fun e w' => e = .returned (.int .i64 (((bkN d).val : Nat) : Int)) ∧ w' = w := by
  have H1 := hide (isdir_any ((d.val : Nat) : Int) w)
  rw [show isD ((d.val : Nat) : Int) = true from (isD_iff _).2 (by have := d.isLt; omega)] at H1
  obtain ⟨z, hz⟩ : ∃ z : Int, (((bkN d).val : Nat) : Int) = z := ⟨_, rfl⟩
  obtain ⟨a, ha⟩ : ∃ a : Int, ((d.val : Nat) : Int) = a := ⟨_, rfl⟩
  rw [hz]
  rw [ha] at H1 ⊢
  have hc : (a = 0 ∧ z = 2) ∨ (a = 1 ∧ z = 3) ∨ (a = 2 ∧ z = 0) ∨ (a = 3 ∧ z = 1) ∨ (a = 4 ∧ z = 6) ∨ (a = 5 ∧ z = 7) ∨ (a = 6 ∧ z = 4) ∨ (a = 7 ∧ z = 5) := by
    rw [← ha, ← hz]
    exact (show ∀ d : Fin 8, ((((d.val : Nat) : Int) = 0 ∧ (((bkN d).val : Nat) : Int) = 2) ∨ (((d.val : Nat) : Int) = 1 ∧ (((bkN d).val : Nat) : Int) = 3) ∨ (((d.val : Nat) : Int) = 2 ∧ (((bkN d).val : Nat) : Int) = 0) ∨ (((d.val : Nat) : Int) = 3 ∧ (((bkN d).val : Nat) : Int) = 1) ∨ (((d.val : Nat) : Int) = 4 ∧ (((bkN d).val : Nat) : Int) = 6) ∨ (((d.val : Nat) : Int) = 5 ∧ (((bkN d).val : Nat) : Int) = 7) ∨ (((d.val : Nat) : Int) = 6 ∧ (((bkN d).val : Nat) : Int) = 4) ∨ (((d.val : Nat) : Int) = 7 ∧ (((bkN d).val : Nat) : Int) = 5)) by decide) d
  clear ha hz
  rcases hc with ⟨rfl, rfl⟩ | ⟨rfl, rfl⟩ | ⟨rfl, rfl⟩ | ⟨rfl, rfl⟩ | ⟨rfl, rfl⟩ | ⟨rfl, rfl⟩ | ⟨rfl, rfl⟩ | ⟨rfl, rfl⟩
  all_goals
    go_enter Tryz.func125, Tryz.ntmps125
    go_wp2_with fail
    refine H1.out.mono ?_
    rintro e w1 ⟨rfl, rfl⟩
    go_wp2_with fail
    go_ret
    exact ⟨rfl, rfl⟩
theorem run_c124 {ev : Operand → Value} {o : Oper} {w : World} {ar : Array Operand} {ts : Array TypeId} {vs : Array Value} (hop : o.op = .call { callee := .value (.func 124), args := ar, argTypes := ts }) (hf : ev (.func 124) = .func (.func 124) #[] #[]) (hvs : ar.map ev = vs) : (execOp ev o).run Tryz.prog w = .ok (.enter 124 vs) w := by
  unfold execOp
  simp only [hop, resolve, hf, hvs]
  go_simp
theorem run_c125 {ev : Operand → Value} {o : Oper} {w : World} {ar : Array Operand} {ts : Array TypeId} {vs : Array Value} (hop : o.op = .call { callee := .value (.func 125), args := ar, argTypes := ts }) (hf : ev (.func 125) = .func (.func 125) #[] #[]) (hvs : ar.map ev = vs) : (execOp ev o).run Tryz.prog w = .ok (.enter 125 vs) w := by
  unfold execOp
  simp only [hop, resolve, hf, hvs]
  go_simp
theorem flat_setAt : ∀ (L : List Q4) (i j : Nat) (u : Value) (r r' : Q4), L[i]? = some r → j < 4 → r.cs.set j u = r'.cs → (L.flatMap Q4.cs).set (i * 4 + j) u = (L.set i r').flatMap Q4.cs
  | [], i, j, u, r, r', h, _, _ => by simp at h
  | a :: L, 0, j, u, r, r', h, hj, e => by
    simp at h; subst h
    rw [List.flatMap_cons, List.set_cons_zero, List.flatMap_cons, Nat.zero_mul, Nat.zero_add, List.set_append_left _ _ (by rw [Q4.cs_len]; exact hj), e]
  | a :: L, i + 1, j, u, r, r', h, hj, e => by
    simp at h
    rw [List.flatMap_cons, List.set_cons_succ, List.flatMap_cons, List.set_append_right _ _ (by rw [Q4.cs_len]; omega), Q4.cs_len, show (i + 1) * 4 + j - 4 = i * 4 + j by omega, flat_setAt L i j u r r' h hj e]
theorem Rw.setAt1 {ty : Nat} {w : World} {g cap n : Nat} {L : List Q4} {r r' : Q4} (hn : n = L.length) (h : Rq ty w (.slice (some ⟨g, 0, none⟩) n cap) L) (i j : Nat) (u : Value) (hi : L[i]? = some r) (hj : j < 4) (hr : r.cs.set j u = r'.cs) :
    Rq ty (w.setCell ⟨g, i * 4 + j, none⟩ u) (.slice (some ⟨g, 0, none⟩) n cap) (L.set i r') := by
  subst hn
  have q := (World.ownsRow.stored h (i * 4 + j) u).1
  rw [flat_setAt L i j u r r' hi hj hr] at q
  have hl : (L.set i r').length = L.length := by simp
  unfold Rq Rw
  rw [hl]
  exact q
/-- One of them written anew. -/
theorem Rw.setAt4 {ty : Nat} {w : World} {g cap n : Nat} {L : List Q4} {r : Q4} (hn : n = L.length) (h : Rq ty w (.slice (some ⟨g, 0, none⟩) n cap) L) (i : Nat) (hi : L[i]? = some r) (t : Q4) :
    Rq ty ((((w.setCell ⟨g, i * 4, none⟩ (.int .i64 t.x)).setCell ⟨g, i * 4 + 1, none⟩ (.int .i64 t.y)).setCell ⟨g, i * 4 + 2, none⟩ (.int .i64 t.a)).setCell ⟨g, i * 4 + 3, none⟩ (.int .i64 t.b)) (.slice (some ⟨g, 0, none⟩) n cap) (L.set i t) ∧
    Turns (fun j => j = g) w ((((w.setCell ⟨g, i * 4, none⟩ (.int .i64 t.x)).setCell ⟨g, i * 4 + 1, none⟩ (.int .i64 t.y)).setCell ⟨g, i * 4 + 2, none⟩ (.int .i64 t.a)).setCell ⟨g, i * 4 + 3, none⟩ (.int .i64 t.b)) := by
  have hlt : i < L.length := (List.getElem?_eq_some_iff.1 hi).1
  constructor
  · have q0 := Rw.setAt1 (r' := ⟨t.x, r.y, r.a, r.b⟩) hn h i 0 (.int .i64 t.x) hi (by decide) rfl
    have q1 := Rw.setAt1 (r := ⟨t.x, r.y, r.a, r.b⟩) (r' := ⟨t.x, t.y, r.a, r.b⟩) (by simp [hn]) q0 i 1 (.int .i64 t.y) (by simp [hlt]) (by decide) rfl
    have q2 := Rw.setAt1 (r := ⟨t.x, t.y, r.a, r.b⟩) (r' := ⟨t.x, t.y, t.a, r.b⟩) (by simp [hn]) q1 i 2 (.int .i64 t.a) (by simp [hlt]) (by decide) rfl
    have q3 := Rw.setAt1 (r := ⟨t.x, t.y, t.a, r.b⟩) (r' := t) (by simp [hn]) q2 i 3 (.int .i64 t.b) (by simp [hlt]) (by decide) rfl
    simpa [List.set_set] using q3
  · exact (((Turns.set (S := fun j => j = g) w (p := ⟨g, i * 4, none⟩) rfl _).trans ((Turns.set (S := fun j => j = g) _ (p := ⟨g, i * 4 + 1, none⟩) rfl _).mono (fun _ _ h => .inl h))).trans ((Turns.set (S := fun j => j = g) _ (p := ⟨g, i * 4 + 2, none⟩) rfl _).mono (fun _ _ h => .inl h))).trans ((Turns.set (S := fun j => j = g) _ (p := ⟨g, i * 4 + 3, none⟩) rfl _).mono (fun _ _ h => .inl h))
theorem Rw.atq {ty : Nat} {w : World} {a : Option Addr} {m c : Nat} {L : List Q4} (h : Rq ty w (.slice a m c) L) {i : Nat} {t : Q4} (hi : L[i]? = some t) :
    ∃ g, a = some ⟨g, 0, none⟩ ∧ g < w.heap.size ∧ (w.cell? ⟨g, i * 4, none⟩ = some (.int .i64 t.x) ∧ w.cell? ⟨g, i * 4 + 1, none⟩ = some (.int .i64 t.y) ∧ w.cell? ⟨g, i * 4 + 2, none⟩ = some (.int .i64 t.a) ∧ w.cell? ⟨g, i * 4 + 3, none⟩ = some (.int .i64 t.b)) ∧ ∀ o, w.frozen? ⟨g, o, none⟩ = false := by
  obtain ⟨a', cap, e, hle, hc⟩ := Rw.form Q4.cs_len h
  obtain ⟨g, rfl, hg, hcell⟩ := hc i t hi
  cases e
  refine ⟨g, rfl, hg, ⟨hcell 0 _ rfl, hcell 1 _ rfl, hcell 2 _ rfl, hcell 3 _ rfl⟩, fun o => ?_⟩
  obtain ⟨cur, hb⟩ := Rw.blk h (g := g) rfl
  simp [World.frozen?, hb]
/-- The first i of them the other way round. -/
def swq (L : List Q4) (i : Nat) : List Q4 := (L.take i).map Q4.swap ++ L.drop i
theorem swq_len (L : List Q4) (i : Nat) : (swq L i).length = L.length := by
  unfold swq
  rw [List.length_append, List.length_map, List.length_take, List.length_drop]
  omega
theorem swq_at {L : List Q4} {i : Nat} {t : Q4} (h : L[i]? = some t) : (swq L i)[i]? = some t := by
  have hlt := (List.getElem?_eq_some_iff.1 h).1
  unfold swq
  rw [List.getElem?_append_right (by simp; omega), List.getElem?_drop, List.length_map, List.length_take, Nat.min_eq_left (by omega), show i + (i - i) = i by omega]
  exact h
theorem swq_set {L : List Q4} {i : Nat} {t : Q4} (h : L[i]? = some t) : (swq L i).set i t.swap = swq L (i + 1) := by
  have hlt := (List.getElem?_eq_some_iff.1 h).1
  unfold swq
  have hd : L.drop i = t :: L.drop (i + 1) := by
    rw [List.drop_eq_getElem_cons hlt]
    congr 1
    exact (List.getElem?_eq_some_iff.1 h).2
  rw [hd, List.take_add_one, h, List.set_append_right _ _ (by simp; omega), List.map_append]
  simp [Nat.min_eq_left (Nat.le_of_lt hlt)]
theorem swq_all (L : List Q4) : swq L L.length = L.map Q4.swap := by
  unfold swq
  simp
theorem prtL_lo {S : Int → Int → Bool} {W H kx ky : Int} {d : Fin 8} (h : d.val = 0 ∨ d.val = 1) : prtL S W H kx ky d.val = ptQ S W H kx ky ((d.val : Nat) : Int) := by
  rcases h with h | h <;> rw [h] <;> rfl
theorem prtL_hi {S : Int → Int → Bool} {W H kx ky : Int} {d : Fin 8} (h : ¬ (d.val = 0 ∨ d.val = 1)) : prtL S W H kx ky d.val = (ptQ S W H (kx + dX d.val) (ky + dY d.val) (((bkN d).val : Nat) : Int)).map Q4.swap := by
  have hno : ∀ a b e, ¬ (e = 0 ∨ e = 1) → ptQ S W H a b e = [] := fun a b e he => by
    unfold ptQ rnR
    rw [if_neg (fun q => he q.2)]
    rfl
  match d with
  | 0 => exact absurd (.inl rfl) h
  | 1 => exact absurd (.inr rfl) h
  | 2 => show (ptQ S W H (kx - 1) ky 0).map Q4.swap = (ptQ S W H (kx + -1) (ky + 0) 0).map Q4.swap; rw [Int.add_zero, Int.sub_eq_add_neg]
  | 3 => show (ptQ S W H kx (ky - 1) 1).map Q4.swap = (ptQ S W H (kx + 0) (ky + -1) 1).map Q4.swap; rw [Int.add_zero, Int.sub_eq_add_neg]
  | 4 => rw [hno _ _ _ (by decide)]; rfl
  | 5 => rw [hno _ _ _ (by decide)]; rfl
  | 6 => rw [hno _ _ _ (by decide)]; rfl
  | 7 => rw [hno _ _ _ (by decide)]; rfl
set_option maxRecDepth 100000 in
set_option maxHeartbeats 4000000 in
theorem portals_is {w : World} {gp p : Nat} {c s ep : Int} {wb eb : Nat} {W H : Int} {tl : List Nat} {f : Int → Int → Option Int} (hG : Gp w gp p c s ep wb eb) (hw : Wl w p W H tl f) (hg : Grnd w) (ho : Offs w) (hS : ∀ u v, stB W H tl f c s u v = true → (0 ≤ u ∧ u < W) ∧ 0 ≤ v ∧ v < H) (kx ky : Int) (d : Fin 8) :
    Calls Tryz.prog 89 #[ptr gp, cel kx ky, .int .i64 ((d.val : Nat) : Int), cel (kx + dX d.val) (ky + dY d.val)] w fun e w' => ∃ lv, e = .returned lv ∧ Rq 122 w' lv (prtL (stB W H tl f c s) W H kx ky d.val) ∧ Below w.heap.size w w' ∧ ∀ g, lv.ownBlock = some g → w.heap.size ≤ g := by
  obtain ⟨X, hX⟩ : ∃ X, (w.alloc (.cells #[.int .i64 kx, .int .i64 ky] 47)).alloc (.cells #[.int .i64 (kx + dX d.val), .int .i64 (ky + dY d.val)] 47) = X := ⟨_, rfl⟩
  have B0 : Below w.heap.size w X := hX ▸ box2 _ _ _
  have T0 : Two X w.heap.size kx ky := by rw [← hX]; exact (Two.newAt rfl).alloc
  have T1 : Two X (w.heap.size + 1) (kx + dX d.val) (ky + dY d.val) := by rw [← hX]; exact Two.newAt (by simp)
  have GX := hG.upto B0
  have HBe : Hid (∀ a b e, Calls Tryz.prog 124 #[ptr p, shv c s, cel a b, .int .i64 e] X.drew fun e' w' => ∃ lv, e' = .returned lv ∧ Rq 122 w' lv (ptQ (stB W H tl f c s) W H a b e) ∧ Below X.drew.heap.size X.drew w' ∧ ∀ g, lv.ownBlock = some g → X.drew.heap.size ≤ g) := hide fun a b e => by
    have hd : Below X.heap.size X X.drew := ⟨rfl, rfl, rfl, Nat.le_refl _, fun _ _ => rfl⟩
    exact pbet_is c s a b e (hw.kept (bt B0 hd)) (hg.kept (bt B0 hd)) (ho.kept (bt B0 hd)) hS
  have h0 := GX.c0
  have h1 := GX.c1
  have h2 := GX.c2
  obtain ⟨⟨c0, c1⟩, -, -⟩ := id T0
  obtain ⟨⟨e0, e1⟩, -, -⟩ := id T1
  have HX := hide hX
  have HB := hide B0
  have hdl := d.isLt
  generalize ha : kx + dX d.val = nx at *
  generalize hb : ky + dY d.val = ny at *
  have Hab := hide (And.intro ha hb)
  clear hX B0 T0 T1 GX hG hw hg ho hS ha hb
  by_cases hlo : d.val = 0 ∨ d.val = 1
  · rw [prtL_lo hlo]
    have HS : X.drew.cell? ⟨gp, 0, none⟩ = some (ptr p) ∧ X.drew.cell? ⟨gp, 1, none⟩ = some (.int .i64 c) ∧ X.drew.cell? ⟨gp, 2, none⟩ = some (.int .i64 s) ∧ X.drew.cell? ⟨w.heap.size, 0, none⟩ = some (.int .i64 kx) ∧ X.drew.cell? ⟨w.heap.size, 1, none⟩ = some (.int .i64 ky) := ⟨h0, h1, h2, c0, c1⟩
    have HB1 := hide (HBe.out kx ky ((d.val : Nat) : Int))
    have hdd0 : ((d.val : Nat) : Int) = 0 ∨ ((d.val : Nat) : Int) = 1 := by omega
    obtain ⟨dd, hdd'⟩ : ∃ dd : Int, ((d.val : Nat) : Int) = dd := ⟨_, rfl⟩
    rw [hdd'] at hdd0 HB1 ⊢
    have hdd := hdd0
    clear h0 h1 h2 c0 c1 e0 e1 HBe hlo hdl Hab hdd' hdd0
    rcases hdd with hdd | hdd
    · subst hdd
      go_enter Tryz.func89, Tryz.ntmps89
      go_wp2_with (rw [HX.out])
      refine wp_only ?_
      refine wp_region_z (fun wx : World => wx.cell? ⟨gp, 0, none⟩ = some (ptr p) ∧ wx.cell? ⟨gp, 1, none⟩ = some (.int .i64 c) ∧ wx.cell? ⟨gp, 2, none⟩ = some (.int .i64 s) ∧ wx.cell? ⟨w.heap.size, 0, none⟩ = some (.int .i64 kx) ∧ wx.cell? ⟨w.heap.size, 1, none⟩ = some (.int .i64 ky)) [10, 11] (by kernel_rfl) ?_
      refine anyZ_take 0 8 (v := ptr gp) rfl (by kernel_rfl) (fun _ _ _ h => h.elim) (Or.inl ⟨by rfl, fun wx hx => by obtain ⟨x0, x1, x2, x3, x4⟩ := hx; clear HS; go_simp⟩) HS ?_
      try simp only [Act.put, List.getElem_toArray, List.getElem_cons_zero, List.getElem_cons_succ, List.setIfInBounds_toArray, List.set_cons_zero, List.set_cons_succ]
      refine anyZ_take 1 8 (v := ptr gp) rfl (by kernel_rfl) (fun _ _ _ h => h.elim) (Or.inl ⟨by rfl, fun wx hx => by obtain ⟨x0, x1, x2, x3, x4⟩ := hx; clear HS; go_simp⟩) HS ?_
      try simp only [Act.put, List.getElem_toArray, List.getElem_cons_zero, List.getElem_cons_succ, List.setIfInBounds_toArray, List.set_cons_zero, List.set_cons_succ]
      refine anyZ_take 2 8 (v := .pointer (some ⟨gp, 0, none⟩)) rfl (by kernel_rfl) (fun _ _ _ h => h.elim) (Or.inl ⟨by rfl, fun wx hx => by obtain ⟨x0, x1, x2, x3, x4⟩ := hx; clear HS; go_simp⟩) HS ?_
      try simp only [Act.put, List.getElem_toArray, List.getElem_cons_zero, List.getElem_cons_succ, List.setIfInBounds_toArray, List.set_cons_zero, List.set_cons_succ]
      refine anyZ_take 3 8 (v := ptr p) rfl (by kernel_rfl) (fun _ _ _ h => h.elim) (Or.inl ⟨by rfl, fun wx hx => by obtain ⟨x0, x1, x2, x3, x4⟩ := hx; clear HS; go_simp⟩) HS ?_
      try simp only [Act.put, List.getElem_toArray, List.getElem_cons_zero, List.getElem_cons_succ, List.setIfInBounds_toArray, List.set_cons_zero, List.set_cons_succ]
      refine anyZ_take 4 8 (v := ptr gp) rfl (by kernel_rfl) (fun _ _ _ h => h.elim) (Or.inl ⟨by rfl, fun wx hx => by obtain ⟨x0, x1, x2, x3, x4⟩ := hx; clear HS; go_simp⟩) HS ?_
      try simp only [Act.put, List.getElem_toArray, List.getElem_cons_zero, List.getElem_cons_succ, List.setIfInBounds_toArray, List.set_cons_zero, List.set_cons_succ]
      refine anyZ_take 5 8 (v := ptr gp) rfl (by kernel_rfl) (fun _ _ _ h => h.elim) (Or.inl ⟨by rfl, fun wx hx => by obtain ⟨x0, x1, x2, x3, x4⟩ := hx; clear HS; go_simp⟩) HS ?_
      try simp only [Act.put, List.getElem_toArray, List.getElem_cons_zero, List.getElem_cons_succ, List.setIfInBounds_toArray, List.set_cons_zero, List.set_cons_succ]
      refine anyZ_take 6 8 (v := .pointer (some ⟨gp, 1, none⟩)) rfl (by kernel_rfl) (fun _ _ _ h => h.elim) (Or.inl ⟨by rfl, fun wx hx => by obtain ⟨x0, x1, x2, x3, x4⟩ := hx; clear HS; go_simp⟩) HS ?_
      try simp only [Act.put, List.getElem_toArray, List.getElem_cons_zero, List.getElem_cons_succ, List.setIfInBounds_toArray, List.set_cons_zero, List.set_cons_succ]
      refine anyZ_take 7 8 (v := shv c s) rfl (by kernel_rfl) (fun _ _ _ h => h.elim) (Or.inl ⟨by rfl, fun wx hx => by obtain ⟨x0, x1, x2, x3, x4⟩ := hx; clear HS; go_simp⟩) HS ?_
      try simp only [Act.put, List.getElem_toArray, List.getElem_cons_zero, List.getElem_cons_succ, List.setIfInBounds_toArray, List.set_cons_zero, List.set_cons_succ]
      refine anyZ_take 8 8 (v := cel kx ky) rfl (by kernel_rfl) (fun _ _ _ h => h.elim) (Or.inl ⟨by rfl, fun wx hx => by obtain ⟨x0, x1, x2, x3, x4⟩ := hx; clear HS; go_simp⟩) HS ?_
      try simp only [Act.put, List.getElem_toArray, List.getElem_cons_zero, List.getElem_cons_succ, List.setIfInBounds_toArray, List.set_cons_zero, List.set_cons_succ]
      refine anyZ_take 9 8 (v := .int .i64 0) rfl (by kernel_rfl) (fun _ _ _ h => h.elim) (Or.inl ⟨by rfl, fun wx hx => by obtain ⟨x0, x1, x2, x3, x4⟩ := hx; clear HS; go_simp⟩) HS ?_
      try simp only [Act.put, List.getElem_toArray, List.getElem_cons_zero, List.getElem_cons_succ, List.setIfInBounds_toArray, List.set_cons_zero, List.set_cons_succ]
      refine anyZ_ready (rs := [10]) (by kernel_rfl) (by simp) ?_
      refine readyZ.call rfl rfl (run_c124 (by rfl) (by rfl) (by simp only [List.map_toArray, List.map_cons, List.map_nil]; rfl)) (HB1.out) ?_ readyZ.nil
      rintro e w1 ⟨lv, rfl, q1, q2, q3⟩
      refine ⟨_, rfl, fun h => absurd (by decide) h, ?_⟩
      try simp only [Act.put, List.getElem_toArray, List.getElem_cons_zero, List.getElem_cons_succ, List.setIfInBounds_toArray, List.set_cons_zero, List.set_cons_succ]
      refine anyZ_ready (rs := [11]) (by kernel_rfl) (by simp) ?_
      refine readyZ.cons rfl rfl (run_assign (v := lv) (by rfl) (by rfl)) (fun h => absurd (by decide) h) ?_ readyZ.nil
      try simp only [Act.put, List.getElem_toArray, List.getElem_cons_zero, List.getElem_cons_succ, List.setIfInBounds_toArray, List.set_cons_zero, List.set_cons_succ]
      refine anyZ_done (by kernel_rfl) ?_ _
      dsimp only [Only, Exit.then]
      obtain ⟨la, lc, hlv⟩ := Rw.slice4 q1
      have HE := hide (And.intro q1 (And.intro (bt HB.out (show Below X.heap.size X w1 from ⟨q2.os, q2.tape, q2.output, q2.size, q2.block⟩)) (fun g e => Nat.le_trans HB.out.size (q3 g e))))
      subst hlv
      clear q1 q2 q3 HS HB1
      go_wp2_with fail
      refine bodyPost_ret (v := .slice la (ptQ (stB W H tl f c s) W H kx ky 0).length lc) (by simp [results, Tryz.f89, go_sem]) rfl ?_
      exact ⟨_, rfl, HE.out⟩
    · subst hdd
      go_enter Tryz.func89, Tryz.ntmps89
      go_wp2_with (rw [HX.out])
      refine wp_only ?_
      refine wp_region_z (fun wx : World => wx.cell? ⟨gp, 0, none⟩ = some (ptr p) ∧ wx.cell? ⟨gp, 1, none⟩ = some (.int .i64 c) ∧ wx.cell? ⟨gp, 2, none⟩ = some (.int .i64 s) ∧ wx.cell? ⟨w.heap.size, 0, none⟩ = some (.int .i64 kx) ∧ wx.cell? ⟨w.heap.size, 1, none⟩ = some (.int .i64 ky)) [10, 11] (by kernel_rfl) ?_
      refine anyZ_take 0 8 (v := ptr gp) rfl (by kernel_rfl) (fun _ _ _ h => h.elim) (Or.inl ⟨by rfl, fun wx hx => by obtain ⟨x0, x1, x2, x3, x4⟩ := hx; clear HS; go_simp⟩) HS ?_
      try simp only [Act.put, List.getElem_toArray, List.getElem_cons_zero, List.getElem_cons_succ, List.setIfInBounds_toArray, List.set_cons_zero, List.set_cons_succ]
      refine anyZ_take 1 8 (v := ptr gp) rfl (by kernel_rfl) (fun _ _ _ h => h.elim) (Or.inl ⟨by rfl, fun wx hx => by obtain ⟨x0, x1, x2, x3, x4⟩ := hx; clear HS; go_simp⟩) HS ?_
      try simp only [Act.put, List.getElem_toArray, List.getElem_cons_zero, List.getElem_cons_succ, List.setIfInBounds_toArray, List.set_cons_zero, List.set_cons_succ]
      refine anyZ_take 2 8 (v := .pointer (some ⟨gp, 0, none⟩)) rfl (by kernel_rfl) (fun _ _ _ h => h.elim) (Or.inl ⟨by rfl, fun wx hx => by obtain ⟨x0, x1, x2, x3, x4⟩ := hx; clear HS; go_simp⟩) HS ?_
      try simp only [Act.put, List.getElem_toArray, List.getElem_cons_zero, List.getElem_cons_succ, List.setIfInBounds_toArray, List.set_cons_zero, List.set_cons_succ]
      refine anyZ_take 3 8 (v := ptr p) rfl (by kernel_rfl) (fun _ _ _ h => h.elim) (Or.inl ⟨by rfl, fun wx hx => by obtain ⟨x0, x1, x2, x3, x4⟩ := hx; clear HS; go_simp⟩) HS ?_
      try simp only [Act.put, List.getElem_toArray, List.getElem_cons_zero, List.getElem_cons_succ, List.setIfInBounds_toArray, List.set_cons_zero, List.set_cons_succ]
      refine anyZ_take 4 8 (v := ptr gp) rfl (by kernel_rfl) (fun _ _ _ h => h.elim) (Or.inl ⟨by rfl, fun wx hx => by obtain ⟨x0, x1, x2, x3, x4⟩ := hx; clear HS; go_simp⟩) HS ?_
      try simp only [Act.put, List.getElem_toArray, List.getElem_cons_zero, List.getElem_cons_succ, List.setIfInBounds_toArray, List.set_cons_zero, List.set_cons_succ]
      refine anyZ_take 5 8 (v := ptr gp) rfl (by kernel_rfl) (fun _ _ _ h => h.elim) (Or.inl ⟨by rfl, fun wx hx => by obtain ⟨x0, x1, x2, x3, x4⟩ := hx; clear HS; go_simp⟩) HS ?_
      try simp only [Act.put, List.getElem_toArray, List.getElem_cons_zero, List.getElem_cons_succ, List.setIfInBounds_toArray, List.set_cons_zero, List.set_cons_succ]
      refine anyZ_take 6 8 (v := .pointer (some ⟨gp, 1, none⟩)) rfl (by kernel_rfl) (fun _ _ _ h => h.elim) (Or.inl ⟨by rfl, fun wx hx => by obtain ⟨x0, x1, x2, x3, x4⟩ := hx; clear HS; go_simp⟩) HS ?_
      try simp only [Act.put, List.getElem_toArray, List.getElem_cons_zero, List.getElem_cons_succ, List.setIfInBounds_toArray, List.set_cons_zero, List.set_cons_succ]
      refine anyZ_take 7 8 (v := shv c s) rfl (by kernel_rfl) (fun _ _ _ h => h.elim) (Or.inl ⟨by rfl, fun wx hx => by obtain ⟨x0, x1, x2, x3, x4⟩ := hx; clear HS; go_simp⟩) HS ?_
      try simp only [Act.put, List.getElem_toArray, List.getElem_cons_zero, List.getElem_cons_succ, List.setIfInBounds_toArray, List.set_cons_zero, List.set_cons_succ]
      refine anyZ_take 8 8 (v := cel kx ky) rfl (by kernel_rfl) (fun _ _ _ h => h.elim) (Or.inl ⟨by rfl, fun wx hx => by obtain ⟨x0, x1, x2, x3, x4⟩ := hx; clear HS; go_simp⟩) HS ?_
      try simp only [Act.put, List.getElem_toArray, List.getElem_cons_zero, List.getElem_cons_succ, List.setIfInBounds_toArray, List.set_cons_zero, List.set_cons_succ]
      refine anyZ_take 9 8 (v := .int .i64 1) rfl (by kernel_rfl) (fun _ _ _ h => h.elim) (Or.inl ⟨by rfl, fun wx hx => by obtain ⟨x0, x1, x2, x3, x4⟩ := hx; clear HS; go_simp⟩) HS ?_
      try simp only [Act.put, List.getElem_toArray, List.getElem_cons_zero, List.getElem_cons_succ, List.setIfInBounds_toArray, List.set_cons_zero, List.set_cons_succ]
      refine anyZ_ready (rs := [10]) (by kernel_rfl) (by simp) ?_
      refine readyZ.call rfl rfl (run_c124 (by rfl) (by rfl) (by simp only [List.map_toArray, List.map_cons, List.map_nil]; rfl)) (HB1.out) ?_ readyZ.nil
      rintro e w1 ⟨lv, rfl, q1, q2, q3⟩
      refine ⟨_, rfl, fun h => absurd (by decide) h, ?_⟩
      try simp only [Act.put, List.getElem_toArray, List.getElem_cons_zero, List.getElem_cons_succ, List.setIfInBounds_toArray, List.set_cons_zero, List.set_cons_succ]
      refine anyZ_ready (rs := [11]) (by kernel_rfl) (by simp) ?_
      refine readyZ.cons rfl rfl (run_assign (v := lv) (by rfl) (by rfl)) (fun h => absurd (by decide) h) ?_ readyZ.nil
      try simp only [Act.put, List.getElem_toArray, List.getElem_cons_zero, List.getElem_cons_succ, List.setIfInBounds_toArray, List.set_cons_zero, List.set_cons_succ]
      refine anyZ_done (by kernel_rfl) ?_ _
      dsimp only [Only, Exit.then]
      obtain ⟨la, lc, hlv⟩ := Rw.slice4 q1
      have HE := hide (And.intro q1 (And.intro (bt HB.out (show Below X.heap.size X w1 from ⟨q2.os, q2.tape, q2.output, q2.size, q2.block⟩)) (fun g e => Nat.le_trans HB.out.size (q3 g e))))
      subst hlv
      clear q1 q2 q3 HS HB1
      go_wp2_with fail
      refine bodyPost_ret (v := .slice la (ptQ (stB W H tl f c s) W H kx ky 1).length lc) (by simp [results, Tryz.f89, go_sem]) rfl ?_
      exact ⟨_, rfl, HE.out⟩
  · rw [prtL_hi hlo, Hab.out.1, Hab.out.2]
    have HS : X.drew.cell? ⟨gp, 0, none⟩ = some (ptr p) ∧ X.drew.cell? ⟨gp, 1, none⟩ = some (.int .i64 c) ∧ X.drew.cell? ⟨gp, 2, none⟩ = some (.int .i64 s) ∧ X.drew.cell? ⟨w.heap.size + 1, 0, none⟩ = some (.int .i64 nx) ∧ X.drew.cell? ⟨w.heap.size + 1, 1, none⟩ = some (.int .i64 ny) := ⟨h0, h1, h2, e0, e1⟩
    have HBk := hide (back_is d X.drew)
    have HB1 := hide (HBe.out nx ny (((bkN d).val : Nat) : Int))
    have hd0 : ¬ ((d.val : Nat) : Int) = 0 := by omega
    have hd1 : ¬ ((d.val : Nat) : Int) = 1 := by omega
    obtain ⟨dd, hdd'⟩ : ∃ dd : Int, ((d.val : Nat) : Int) = dd := ⟨_, rfl⟩
    obtain ⟨bk, hbk⟩ : ∃ bk : Int, (((bkN d).val : Nat) : Int) = bk := ⟨_, rfl⟩
    rw [hdd', hbk] at HBk
    rw [hbk] at HB1 ⊢
    rw [hdd'] at hd0 hd1 ⊢
    have hlen : (ptQ (stB W H tl f c s) W H nx ny bk).length ≤ 8 := by
      unfold ptQ btL
      rw [List.length_map]
      exact (rnR_ok _ W H nx ny bk).2
    generalize ptQ (stB W H tl f c s) W H nx ny bk = L at HB1 hlen ⊢
    clear h0 h1 h2 c0 c1 e0 e1 HBe hlo hdl Hab hdd' hbk
    have hp0 : decide (dd = 0) = false := decide_eq_false hd0
    have hp1 : decide (dd = 1) = false := decide_eq_false hd1
    have hp2 : (dd == 0) = false := by simpa using hd0
    have hp3 : (dd == 1) = false := by simpa using hd1
    go_enter Tryz.func89, Tryz.ntmps89
    go_wp2_with (rw [HX.out])
    refine wp_only ?_
    refine wp_region_z (fun wx : World => wx.cell? ⟨gp, 0, none⟩ = some (ptr p) ∧ wx.cell? ⟨gp, 1, none⟩ = some (.int .i64 c) ∧ wx.cell? ⟨gp, 2, none⟩ = some (.int .i64 s) ∧ wx.cell? ⟨w.heap.size + 1, 0, none⟩ = some (.int .i64 nx) ∧ wx.cell? ⟨w.heap.size + 1, 1, none⟩ = some (.int .i64 ny)) [11, 12] (by kernel_rfl) ?_
    refine anyZ_take 0 8 (v := ptr gp) rfl (by kernel_rfl) (fun _ _ _ h => h.elim) (Or.inl ⟨by rfl, fun wx hx => by obtain ⟨x0, x1, x2, x3, x4⟩ := hx; clear HS; go_simp⟩) HS ?_
    try simp only [Act.put, List.getElem_toArray, List.getElem_cons_zero, List.getElem_cons_succ, List.setIfInBounds_toArray, List.set_cons_zero, List.set_cons_succ]
    refine anyZ_take 1 8 (v := ptr gp) rfl (by kernel_rfl) (fun _ _ _ h => h.elim) (Or.inl ⟨by rfl, fun wx hx => by obtain ⟨x0, x1, x2, x3, x4⟩ := hx; clear HS; go_simp⟩) HS ?_
    try simp only [Act.put, List.getElem_toArray, List.getElem_cons_zero, List.getElem_cons_succ, List.setIfInBounds_toArray, List.set_cons_zero, List.set_cons_succ]
    refine anyZ_take 2 8 (v := .pointer (some ⟨gp, 0, none⟩)) rfl (by kernel_rfl) (fun _ _ _ h => h.elim) (Or.inl ⟨by rfl, fun wx hx => by obtain ⟨x0, x1, x2, x3, x4⟩ := hx; clear HS; go_simp⟩) HS ?_
    try simp only [Act.put, List.getElem_toArray, List.getElem_cons_zero, List.getElem_cons_succ, List.setIfInBounds_toArray, List.set_cons_zero, List.set_cons_succ]
    refine anyZ_take 3 8 (v := ptr p) rfl (by kernel_rfl) (fun _ _ _ h => h.elim) (Or.inl ⟨by rfl, fun wx hx => by obtain ⟨x0, x1, x2, x3, x4⟩ := hx; clear HS; go_simp⟩) HS ?_
    try simp only [Act.put, List.getElem_toArray, List.getElem_cons_zero, List.getElem_cons_succ, List.setIfInBounds_toArray, List.set_cons_zero, List.set_cons_succ]
    refine anyZ_take 4 8 (v := ptr gp) rfl (by kernel_rfl) (fun _ _ _ h => h.elim) (Or.inl ⟨by rfl, fun wx hx => by obtain ⟨x0, x1, x2, x3, x4⟩ := hx; clear HS; go_simp⟩) HS ?_
    try simp only [Act.put, List.getElem_toArray, List.getElem_cons_zero, List.getElem_cons_succ, List.setIfInBounds_toArray, List.set_cons_zero, List.set_cons_succ]
    refine anyZ_take 5 8 (v := ptr gp) rfl (by kernel_rfl) (fun _ _ _ h => h.elim) (Or.inl ⟨by rfl, fun wx hx => by obtain ⟨x0, x1, x2, x3, x4⟩ := hx; clear HS; go_simp⟩) HS ?_
    try simp only [Act.put, List.getElem_toArray, List.getElem_cons_zero, List.getElem_cons_succ, List.setIfInBounds_toArray, List.set_cons_zero, List.set_cons_succ]
    refine anyZ_take 6 8 (v := .pointer (some ⟨gp, 1, none⟩)) rfl (by kernel_rfl) (fun _ _ _ h => h.elim) (Or.inl ⟨by rfl, fun wx hx => by obtain ⟨x0, x1, x2, x3, x4⟩ := hx; clear HS; go_simp⟩) HS ?_
    try simp only [Act.put, List.getElem_toArray, List.getElem_cons_zero, List.getElem_cons_succ, List.setIfInBounds_toArray, List.set_cons_zero, List.set_cons_succ]
    refine anyZ_take 7 8 (v := shv c s) rfl (by kernel_rfl) (fun _ _ _ h => h.elim) (Or.inl ⟨by rfl, fun wx hx => by obtain ⟨x0, x1, x2, x3, x4⟩ := hx; clear HS; go_simp⟩) HS ?_
    try simp only [Act.put, List.getElem_toArray, List.getElem_cons_zero, List.getElem_cons_succ, List.setIfInBounds_toArray, List.set_cons_zero, List.set_cons_succ]
    refine anyZ_take 8 8 (v := cel nx ny) rfl (by kernel_rfl) (fun _ _ _ h => h.elim) (Or.inl ⟨by rfl, fun wx hx => by obtain ⟨x0, x1, x2, x3, x4⟩ := hx; clear HS; go_simp⟩) HS ?_
    try simp only [Act.put, List.getElem_toArray, List.getElem_cons_zero, List.getElem_cons_succ, List.setIfInBounds_toArray, List.set_cons_zero, List.set_cons_succ]
    refine anyZ_take 9 8 (v := .int .i64 dd) rfl (by kernel_rfl) (fun _ _ _ h => h.elim) (Or.inl ⟨by rfl, fun wx hx => by obtain ⟨x0, x1, x2, x3, x4⟩ := hx; clear HS; go_simp⟩) HS ?_
    try simp only [Act.put, List.getElem_toArray, List.getElem_cons_zero, List.getElem_cons_succ, List.setIfInBounds_toArray, List.set_cons_zero, List.set_cons_succ]
    refine anyZ_ready (rs := [10]) (by kernel_rfl) (by simp) ?_
    refine readyZ.call rfl rfl (run_c125 (by rfl) (by rfl) (by simp only [List.map_toArray, List.map_cons, List.map_nil]; rfl)) (HBk.out) ?_ readyZ.nil
    rintro e w1 ⟨rfl, rfl⟩
    refine ⟨_, rfl, fun _ => HS, ?_⟩
    try simp only [Act.put, List.getElem_toArray, List.getElem_cons_zero, List.getElem_cons_succ, List.setIfInBounds_toArray, List.set_cons_zero, List.set_cons_succ]
    refine anyZ_ready (rs := [11]) (by kernel_rfl) (by simp) ?_
    refine readyZ.call rfl rfl (run_c124 (by rfl) (by rfl) (by simp only [List.map_toArray, List.map_cons, List.map_nil]; rfl)) (HB1.out) ?_ readyZ.nil
    rintro e w1 ⟨lv, rfl, q1, q2, q3⟩
    refine ⟨_, rfl, fun h => absurd (by decide) h, ?_⟩
    try simp only [Act.put, List.getElem_toArray, List.getElem_cons_zero, List.getElem_cons_succ, List.setIfInBounds_toArray, List.set_cons_zero, List.set_cons_succ]
    refine anyZ_ready (rs := [12]) (by kernel_rfl) (by simp) ?_
    refine readyZ.cons rfl rfl (run_assign (v := lv) (by rfl) (by rfl)) (fun h => absurd (by decide) h) ?_ readyZ.nil
    try simp only [Act.put, List.getElem_toArray, List.getElem_cons_zero, List.getElem_cons_succ, List.setIfInBounds_toArray, List.set_cons_zero, List.set_cons_succ]
    refine anyZ_done (by kernel_rfl) ?_ _
    dsimp only [Only, Exit.then]
    obtain ⟨la, lc, hlv⟩ := Rw.slice4 q1
    subst hlv
    have bX : Below X.heap.size X w1 := ⟨q2.os, q2.tape, q2.output, q2.size, q2.block⟩
    have HE := hide (And.intro q1 (And.intro (bt HB.out bX) (show ∀ g, (Value.slice la L.length lc).ownBlock = some g → w.heap.size ≤ g from fun g e => Nat.le_trans HB.out.size (q3 g e))))
    clear q1 q2 q3 HS HB1 HBk bX
    go_wp2_with fail
    go_loopw [43] (fun v wr => ∃ i : Nat, v = .int .i64 (i : Nat) ∧ i ≤ L.length ∧ Rq 122 wr (.slice la L.length lc) (swq L i) ∧ Below w.heap.size w wr) (fun v _ => L.length - (intOf v).toNat)
    case atStart => exact ⟨0, rfl, Nat.zero_le _, HE.out.1, HE.out.2.1⟩
    case round =>
      obtain ⟨i, rfl, hi, hR, hB⟩ := hrel
      by_cases hlt : i < L.length
      · obtain ⟨t, ht⟩ : ∃ t, L[i]? = some t := ⟨_, List.getElem?_eq_getElem hlt⟩
        obtain ⟨g, rfl, hgl, ⟨a0, a1, a2, a3⟩, hfz⟩ := Rw.atq hR (swq_at ht)
        obtain ⟨Y, hY⟩ : ∃ Y, wr.alloc (.cells #[.int .i64 t.x, .int .i64 t.y, .int .i64 t.a, .int .i64 t.b] 122) = Y := ⟨_, rfl⟩
        have bY : Below wr.heap.size wr Y := hY ▸ box1 _ _
        have F4 : Four Y wr.heap.size t.x t.y t.a t.b := by rw [← hY]; exact Four.new12 _ _ _ _ _ _
        have hRY := Rw.upto hR bY
        obtain ⟨g', eg, -, ⟨b0, b1, b2, b3⟩, hfy⟩ := Rw.atq hRY (swq_at ht)
        have eg' : g' = g := by injection eg with eg; injection eg with eg; exact eg.symm
        subst eg'
        obtain ⟨z1, z2⟩ := Rw.setAt4 (swq_len L i).symm hRY i (swq_at ht) t.swap
        rw [swq_set ht] at z1
        simp only [Q4.swap] at z1 z2
        obtain ⟨Z, hZ⟩ : ∃ Z, (((Y.setCell ⟨g', i * 4, none⟩ (.int .i64 t.a)).setCell ⟨g', i * 4 + 1, none⟩ (.int .i64 t.b)).setCell ⟨g', i * 4 + 2, none⟩ (.int .i64 t.x)).setCell ⟨g', i * 4 + 3, none⟩ (.int .i64 t.y) = Z := ⟨_, rfl⟩
        rw [hZ] at z1 z2
        have hown := HE.out.2.2 g' rfl
        have HN := hide (show Rq 122 Z (.slice (some ⟨g', 0, none⟩) L.length lc) (swq L (i + 1)) ∧ Below w.heap.size w Z from ⟨z1, hB.trans (((bY.mono hB.size)).trans (z2.below (fun k e => by omega) (Nat.le_trans hB.size bY.size)))⟩)
        obtain ⟨⟨f0, f1, f2, f3⟩, -, -⟩ := id F4
        have HY := hide hY
        have HZ := hide hZ
        have hki : (i : Int) < (L.length : Nat) := by omega
        have hf0 := hfy (i * 4)
        have hf1 := hfy (i * 4 + 1)
        have hf2 := hfy (i * 4 + 2)
        have hf3 := hfy (i * 4 + 3)
        have hne : g' ≠ wr.heap.size := by omega
        clear hR hB hRY z1 z2 hY hZ bY F4 hfz hfy hown ht eg
        obtain ⟨tx, htx⟩ : ∃ z, t.x = z := ⟨_, rfl⟩
        obtain ⟨ty, hty⟩ : ∃ z, t.y = z := ⟨_, rfl⟩
        obtain ⟨ta, hta⟩ : ∃ z, t.a = z := ⟨_, rfl⟩
        obtain ⟨tb, htb⟩ : ∃ z, t.b = z := ⟨_, rfl⟩
        rw [htx, hty, hta, htb] at HY HZ
        rw [htx] at a0 f0 b0
        rw [hty] at a1 f1 b1
        rw [hta] at a2 f2 b2
        rw [htb] at a3 f3 b3
        clear htx hty hta htb t
        go_wp2_with (first | rw [HY.out] | rw [HZ.out])
        go_roundw
        case rel => exact ⟨i + 1, by go_num, by omega, HN.out.1, HN.out.2⟩
        case measure => simp only [intOf]; omega
      · have hi' : i = L.length := by omega
        subst hi'
        have HF := hide (show Rq 122 wr (.slice la L.length lc) (L.map Q4.swap) ∧ Below w.heap.size w wr ∧ ∀ g, (Value.slice la L.length lc).ownBlock = some g → w.heap.size ≤ g from ⟨swq_all L ▸ hR, hB, HE.out.2.2⟩)
        clear hR hB HE
        go_wp2_with fail
        refine bodyPost_ret (v := .slice la L.length lc) (by simp [results, Tryz.f89, go_sem]) rfl ?_
        exact ⟨_, rfl, HF.out⟩
end Go.Proofs.YthiafmlgialbnaaGreatDoor
