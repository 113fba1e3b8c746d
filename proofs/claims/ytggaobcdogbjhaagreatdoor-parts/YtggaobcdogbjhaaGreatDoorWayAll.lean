/-
  The way that is told: of those of least cost the one with the least directions. It is one. What Find tells is the way; what follows of it. What Find tells, as a way.
-/
import Derived.Test.YtggaobcdogbjhaaGreatDoorWkAll
namespace Go.Proofs.YtggaobcdogbjhaaGreatDoor
open Go.RowKit Go.Shelf
set_option linter.unusedVariables false
set_option linter.unusedSimpArgs false
/-- The direction back. -/
def bkF (t : Fin 8) : Fin 8 := match t with
  | 0 => 2 | 1 => 3 | 2 => 0 | 3 => 1 | 4 => 6 | 5 => 7 | 6 => 4 | 7 => 5
theorem bkF_X : ∀ t : Fin 8, dX (bkF t).val = - dX t.val := by decide
theorem bkF_Y : ∀ t : Fin 8, dY (bkF t).val = - dY t.val := by decide
theorem bkF_co : ∀ t : Fin 8, co (((bkF t).val : Nat) : Int) = co ((t.val : Nat) : Int) := by decide
theorem bkF_oc : ∀ t : Fin 8, oc (((bkF t).val : Nat) : Int) = oc ((t.val : Nat) : Int) := by decide
theorem fin8_D (t : Fin 8) : isD ((t.val : Nat) : Int) = true := (isD_iff _).2 (by have := t.isLt; omega)
theorem co_even : ∀ t : Fin 8, co ((t.val : Nat) : Int) % 2 = 0 := by decide
section
variable {W H : Int} {tl : List Nat} {f : Int → Int → Option Int} {c s ix iy iw ih : Int}
/-- A cell of the rectangle at which the shape stands. -/
def Std (W H : Int) (tl : List Nat) (f : Int → Int → Option Int) (c s ix iy iw ih : Int) (a : Int × Int) : Prop := has ix iy iw ih a.1 a.2 = true ∧ stB W H tl f c s a.1 a.2 = true
/-- A legal step from such a cell. -/
def stepS (W H : Int) (tl : List Nat) (f : Int → Int → Option Int) (c s ix iy iw ih : Int) (a b : Int × Int) (k : Nat) : Prop := Std W H tl f c s ix iy iw ih a ∧ stepR W H tl f c s ix iy iw ih a b k
theorem stepR_end {a b : Int × Int} {k : Nat} (h : stepR W H tl f c s ix iy iw ih a b k) : Std W H tl f c s ix iy iw ih b := by
  obtain ⟨t, h1, h2, rfl, h4⟩ := h
  unfold inn at h1
  unfold stp at h2
  rw [Bool.and_eq_true] at h1 h2
  exact ⟨h1.2, h2.1⟩
theorem stepR_ten {a b : Int × Int} {k : Nat} (h : stepR W H tl f c s ix iy iw ih a b k) : 10 ≤ k ∧ k ≤ 14 ∧ k % 2 = 0 := by
  obtain ⟨t, h1, h2, h3, h4⟩ := h
  have := co_pos t
  have := co_even t
  omega
theorem stepS_sym {a b : Int × Int} {k : Nat} (h : stepS W H tl f c s ix iy iw ih a b k) : stepS W H tl f c s ix iy iw ih b a k := by
  obtain ⟨ha, hs⟩ := h
  have hb := stepR_end hs
  obtain ⟨t, h1, h2, rfl, h4⟩ := hs
  obtain ⟨x, y⟩ := a
  refine ⟨hb, bkF t, ?_, ?_, ?_, by rw [bkF_co]; exact h4⟩
  · unfold inn sB at h1 ⊢
    have e1 : x + dX t.val + dX (bkF t).val = x := by rw [bkF_X]; omega
    have e2 : y + dY t.val + dY (bkF t).val = y := by rw [bkF_Y]; omega
    simp only [Bool.and_eq_true, Int.toNat_natCast] at h1 ⊢
    rw [e1, e2]
    exact ⟨⟨⟨fin8_D _, h1.1.2⟩, h1.1.1.2⟩, ha.1⟩
  · unfold stp at h2 ⊢
    have e1 : x + dX t.val + dX (bkF t).val = x := by rw [bkF_X]; omega
    have e2 : y + dY t.val + dY (bkF t).val = y := by rw [bkF_Y]; omega
    simp only [Int.toNat_natCast, bkF_oc] at h2 ⊢
    rw [e1, e2]
    have h3 : stB W H tl f c s x y = true := ha.2
    rw [Bool.and_eq_true] at h2 ⊢
    refine ⟨h3, ?_⟩
    have h5 := h2.2
    rw [Bool.or_eq_true, Bool.and_eq_true] at h5 ⊢
    rcases h5 with h5 | h5
    · exact .inl h5
    · exact .inr ⟨h5.2, h5.1⟩
  · simp only [bkF_X, bkF_Y, Prod.mk.injEq]
    omega
theorem Wk.toS {a b : Int × Int} {n : Nat} (ha : Std W H tl f c s ix iy iw ih a) (h : Wk (stepR W H tl f c s ix iy iw ih) a b n) : Wk (stepS W H tl f c s ix iy iw ih) a b n ∧ Std W H tl f c s ix iy iw ih b := by
  induction h using Wk.ind with
  | nil => exact ⟨.nil _, ha⟩
  | snoc _ hs ih => exact ⟨.snoc ih.1 ⟨ih.2, hs⟩, stepR_end hs⟩
theorem Wk.toR {a b : Int × Int} {n : Nat} (h : Wk (stepS W H tl f c s ix iy iw ih) a b n) : Wk (stepR W H tl f c s ix iy iw ih) a b n := by
  induction h using Wk.ind with
  | nil => exact .nil _
  | snoc _ hs ih => exact .snoc ih hs.2
theorem Wk.back {a b : Int × Int} {n : Nat} (ha : Std W H tl f c s ix iy iw ih a) (h : Wk (stepR W H tl f c s ix iy iw ih) a b n) : Wk (stepR W H tl f c s ix iy iw ih) b a n := Wk.toR (Wk.rev (step := stepS W H tl f c s ix iy iw ih) (fun a b k h => stepS_sym h) (h.toS ha).1)
theorem Wk.even {a b : Int × Int} {n : Nat} (h : Wk (stepR W H tl f c s ix iy iw ih) a b n) : n % 2 = 0 := by
  induction h using Wk.ind with
  | nil => rfl
  | snoc _ hs ih => have := stepR_ten hs; omega
theorem Wk.zero {a b : Int × Int} {n : Nat} (h : Wk (stepR W H tl f c s ix iy iw ih) a b n) (hn : n = 0) : a = b := by
  cases h using Wk.cs with
  | nil => rfl
  | snoc _ hs => have := stepR_ten hs; omega
/-- By this direction a way of least cost goes on. -/
def Gdn (W H : Int) (tl : List Nat) (f : Int → Int → Option Int) (c s ix iy iw ih : Int) (s0 : Int × Int) (x y r : Int) (t : Fin 8) : Prop :=
  inn x y ix iy iw ih t.val = true ∧ stp W H tl f c s x y ((t.val : Nat) : Int) = true ∧ co ((t.val : Nat) : Int) ≤ r ∧ Least (stepR W H tl f c s ix iy iw ih) s0 (x + dX t.val, y + dY t.val) (r - co ((t.val : Nat) : Int)).toNat
/-- The way: the least direction each time. -/
def Way (W H : Int) (tl : List Nat) (f : Int → Int → Option Int) (c s ix iy iw ih : Int) (s0 : Int × Int) : List (Int × Int) → Int → Int → Int → Prop
  | [], _, _, r => r = 0
  | q :: l, x, y, r => 0 < r ∧ ∃ t : Fin 8, Gdn W H tl f c s ix iy iw ih s0 x y r t ∧ (∀ u : Fin 8, u.val < t.val → ¬ Gdn W H tl f c s ix iy iw ih s0 x y r u) ∧ q = (x + dX t.val, y + dY t.val) ∧ Way W H tl f c s ix iy iw ih s0 l (x + dX t.val) (y + dY t.val) (r - co ((t.val : Nat) : Int))
theorem Way.eq {s0 : Int × Int} : ∀ {l m : List (Int × Int)} {x y r : Int}, Way W H tl f c s ix iy iw ih s0 l x y r → Way W H tl f c s ix iy iw ih s0 m x y r → l = m
  | [], [], _, _, _, _, _ => rfl
  | [], q :: m, x, y, r, h1, h2 => by have := h2.1; have : r = 0 := h1; omega
  | p :: l, [], x, y, r, h1, h2 => by have := h1.1; have : r = 0 := h2; omega
  | p :: l, q :: m, x, y, r, h1, h2 => by
    obtain ⟨-, t, a1, a2, rfl, a3⟩ := h1
    obtain ⟨-, u, b1, b2, rfl, b3⟩ := h2
    have e : t = u := by
      rcases Nat.lt_trichotomy t.val u.val with q | q | q
      · exact absurd a1 (b2 t q)
      · exact Fin.ext q
      · exact absurd b1 (a2 u q)
    subst e
    rw [Way.eq a3 b3]
/-- Where one is on the way. -/
structure At (W H : Int) (tl : List Nat) (f : Int → Int → Option Int) (c s ix iy iw ih : Int) (s0 : Int × Int) (x y r : Int) : Prop where
  std : Std W H tl f c s ix iy iw ih (x, y)
  pos : 0 ≤ r
  lst : Least (stepR W H tl f c s ix iy iw ih) s0 (x, y) r.toNat
theorem At.next {s0 : Int × Int} {x y r : Int} {t : Fin 8} (h : At W H tl f c s ix iy iw ih s0 x y r) (g : Gdn W H tl f c s ix iy iw ih s0 x y r t) : At W H tl f c s ix iy iw ih s0 (x + dX t.val) (y + dY t.val) (r - co ((t.val : Nat) : Int)) := by
  obtain ⟨g1, g2, g3, g4⟩ := g
  exact ⟨stepR_end (a := (x, y)) (k := (co ((t.val : Nat) : Int)).toNat) ⟨t, g1, g2, rfl, by have := co_pos t; omega⟩, by omega, g4⟩
theorem At.step {s0 : Int × Int} {x y r : Int} {t : Fin 8} (g : Gdn W H tl f c s ix iy iw ih s0 x y r t) : stepR W H tl f c s ix iy iw ih (x, y) (x + dX t.val, y + dY t.val) (co ((t.val : Nat) : Int)).toNat :=
  ⟨t, g.1, g.2.1, rfl, by have := co_pos t; omega⟩
/-- Who is not there yet can go on. -/
theorem At.some {s0 : Int × Int} {x y r : Int} (h0 : Std W H tl f c s ix iy iw ih s0) (h : At W H tl f c s ix iy iw ih s0 x y r) (hr : 0 < r) : ∃ t, Gdn W H tl f c s ix iy iw ih s0 x y r t := by
  obtain ⟨hl, hm⟩ := h.lst
  have hall := h.lst
  generalize hn : r.toNat = n at hl hall
  generalize hq : (x, y) = q at hl hall
  cases hl using Wk.cs with
  | nil => omega
  | @snoc b _ m k hb hs =>
    subst hq
    have hL := Least.part hb hs hall
    obtain ⟨-, t, t1, t2, t3, t4⟩ := stepS_sym ⟨(hb.toS h0).2, hs⟩
    refine ⟨t, t1, t2, by omega, ?_⟩
    rw [← t3, show (r - co ((t.val : Nat) : Int)).toNat = m by omega]
    exact hL
end
end Go.Proofs.YtggaobcdogbjhaaGreatDoor
namespace Go.Proofs.YtggaobcdogbjhaaGreatDoor
open Go.RowKit Go.Shelf
set_option linter.unusedVariables false
set_option linter.unusedSimpArgs false
theorem in_round {x y p q c d : Int} {u : Fin 8} (h : inn x y p q c d u.val = true) : u ∈ roundN x y p q c d 8 :=
  List.mem_filter.2 ⟨by simp [List.mem_take_iff_getElem]; exact ⟨u.val, u.isLt, rfl⟩, h⟩
theorem fin8_sorted : (List.finRange 8).Pairwise (fun a b => a.val < b.val) := by decide
theorem round_pre {x y p q c d : Int} {pre : List (Fin 8)} {t u : Fin 8} (h : pre ++ [t] <+: roundN x y p q c d 8) (hu : u ∈ roundN x y p q c d 8) (hlt : u.val < t.val) : u ∈ pre := by
  have hs : (roundN x y p q c d 8).Pairwise (fun a b => a.val < b.val) := (fin8_sorted.sublist (List.take_sublist _ _)).filter _
  obtain ⟨r, hr⟩ := h
  rw [← hr] at hu hs
  rcases List.mem_append.1 hu with hu | hu
  · rcases List.mem_append.1 hu with hu | hu
    · exact hu
    · simp at hu; subst hu; omega
  · have := (List.pairwise_append.1 hs).2.2 t (by simp) u hu
    omega
section
variable {W H : Int} {tl : List Nat} {f : Int → Int → Option Int} {c s ix iy iw ih : Int} {s0 : Int × Int} {C : List Int} {Hq : List ((Int × Int) × Nat)} {D : Nat} {fx fy : Int}
theorem fitG (hb : ∀ m ∈ C, -1 ≤ m) (hsk : Sk (stepR W H tl f c s ix iy iw ih) s0 (tab ix iy iw ih C) Hq) (hH : ∀ q g, (q, g) ∈ Hq → D < g + (ocN q.1 q.2 fx fy).toNat)
    (hadm : ∀ q k, Wk (stepR W H tl f c s ix iy iw ih) q (fx, fy) k → (ocN q.1 q.2 fx fy).toNat ≤ k) {x y r : Int} {n : Nat} (h : At W H tl f c s ix iy iw ih s0 x y r) (hw : Wk (stepR W H tl f c s ix iy iw ih) (x, y) (fx, fy) n) (hD : r.toNat + n ≤ D) {t : Fin 8} (hin : inn x y ix iy iw ih t.val = true) :
    fitF (fun d => stp W H tl f c s x y (d : Int)) ix iy iw C x y r t = true ↔ Gdn W H tl f c s ix iy iw ih s0 x y r t := by
  have hco := co_pos t
  have hce := co_even t
  have hev := h.lst.1.even
  have hpos := h.pos
  have hB : inB ix iy iw ih (x + dX t.val, y + dY t.val) := inn_in hin
  have hback : stp W H tl f c s x y ((t.val : Nat) : Int) = true → stepR W H tl f c s ix iy iw ih (x + dX t.val, y + dY t.val) (x, y) (co ((t.val : Nat) : Int)).toNat := fun hs => (stepS_sym ⟨h.std, t, hin, hs, rfl, by omega⟩).2
  constructor
  · intro hf
    unfold fitF at hf
    rw [Bool.and_eq_true, decide_eq_true_eq] at hf
    obtain ⟨h1, h2⟩ := hf
    have hm := hb _ (List.mem_of_getElem? h1)
    have ht := tab_of hB h1
    rw [if_neg (by omega)] at ht
    have hr := hsk.real _ _ ht
    refine ⟨hin, h2, by omega, hr, fun k hk => ?_⟩
    have := h.lst.2 _ (hk.snoc (hback h2))
    omega
  · rintro ⟨-, h2, h3, h4⟩
    have ht := hsk.ends (left := fun q : Int × Int => (ocN q.1 q.2 fx fy).toNat) (goal := (fx, fy)) hadm hH h4 ((Wk.one (hback h2)).trans hw) (by omega)
    have hg := tab_get hb ht
    unfold fitF
    rw [Bool.and_eq_true, decide_eq_true_eq]
    refine ⟨?_, h2⟩
    simp only at hg
    rw [hg]
    congr 1
    omega
theorem way_of (hb : ∀ m ∈ C, -1 ≤ m) (hsk : Sk (stepR W H tl f c s ix iy iw ih) s0 (tab ix iy iw ih C) Hq) (hH : ∀ q g, (q, g) ∈ Hq → D < g + (ocN q.1 q.2 fx fy).toNat)
    (hadm : ∀ q k, Wk (stepR W H tl f c s ix iy iw ih) q (fx, fy) k → (ocN q.1 q.2 fx fy).toNat ≤ k) (h0 : Std W H tl f c s ix iy iw ih s0) {x y r : Int} {P : List (Int × Int)} (hy : Wy W H tl f c s ix iy iw ih C x y r P) :
    ∀ n : Nat, At W H tl f c s ix iy iw ih s0 x y r → Wk (stepR W H tl f c s ix iy iw ih) (x, y) (fx, fy) n → r.toNat + n ≤ D → Way W H tl f c s ix iy iw ih s0 P x y r := by
  induction hy using Wy.ind with
  | ends h1 => intro n h hw hD; have := h.pos; show _ = (0 : Int); omega
  | @lost x y r h1 h2 =>
    intro n h hw hD
    obtain ⟨t, ht⟩ := h.some h0 h1
    have := (fitG hb hsk hH hadm h hw hD ht.1).2 ht
    rw [h2 t (in_round ht.1)] at this
    cases this
  | @next x y r pre t l h1 h2 h3 h4 h5 ih5 =>
    intro n h hw hD
    have hm : t ∈ roundN x y ix iy iw ih 8 := by obtain ⟨q, hq⟩ := h2; rw [← hq]; simp
    have hg := (fitG hb hsk hH hadm h hw hD (mem_inn hm)).1 h4
    have hco := co_pos t
    refine ⟨h1, t, hg, fun u hu hgu => ?_, rfl, ih5 (n + (co ((t.val : Nat) : Int)).toNat) (h.next hg) ?_ ?_⟩
    · have := (fitG hb hsk hH hadm h hw hD hgu.1).2 hgu
      rw [h3 u (round_pre h2 (in_round hgu.1) hu)] at this
      cases this
    · have := (Wk.one (stepS_sym ⟨h.std, At.step hg⟩).2).trans hw
      rwa [Nat.add_comm] at this
    · have := hg.2.2.1; omega
theorem Way.len {P : List (Int × Int)} : ∀ {x y r : Int}, Way W H tl f c s ix iy iw ih s0 P x y r → (P.length : Int) * 10 ≤ r := by
  induction P with
  | nil => intro x y r h; have : r = 0 := h; simp; omega
  | cons q l ihl =>
    rintro x y r ⟨h1, t, h2, h3, rfl, h4⟩
    have := ihl h4
    have := co_pos t
    simp
    omega
/-- All cells of the way lie in the rectangle. -/
theorem Way.all {P : List (Int × Int)} : ∀ {x y r : Int}, At W H tl f c s ix iy iw ih s0 x y r → Way W H tl f c s ix iy iw ih s0 P x y r → ∀ q ∈ P, Std W H tl f c s ix iy iw ih q := by
  induction P with
  | nil => intro x y r _ h q hq; cases hq
  | cons p l ihl =>
    rintro x y r ha ⟨h1, t, h2, h3, rfl, h4⟩ q hq
    have hn := ha.next h2
    rcases List.mem_cons.1 hq with rfl | hq
    · exact hn.std
    · exact ihl hn h4 q hq
/-- It ends where it is to. -/
theorem Way.last {P : List (Int × Int)} : ∀ {x y r : Int}, At W H tl f c s ix iy iw ih s0 x y r → Way W H tl f c s ix iy iw ih s0 P x y r → (((x, y) :: P).getLast? = Option.some s0) := by
  induction P with
  | nil =>
    intro x y r ha h
    have h' : r = 0 := h
    have := ha.lst.1.zero (by omega)
    simp [this]
  | cons p l ihl =>
    rintro x y r ha ⟨h1, t, h2, h3, rfl, h4⟩
    have := ihl (ha.next h2) h4
    rw [List.getLast?_cons_cons]
    exact this
end
end Go.Proofs.YtggaobcdogbjhaaGreatDoor
namespace Go.Proofs.YtggaobcdogbjhaaGreatDoor
open Go.RowKit Go.Shelf
set_option linter.unusedVariables false
set_option linter.unusedSimpArgs false
theorem mt_small {W H : Int} {tl : List Nat} (h : mt W H tl = true) : (0 ≤ W ∧ W ≤ 128) ∧ 0 ≤ H ∧ H ≤ 128 := by
  simp only [mt, gs, Bool.and_eq_true, decide_eq_true_eq] at h
  omega
section
variable {W H : Int} {tl : List Nat} {f : Int → Int → Option Int} {c s ix iy iw ih : Int}
theorem adm {fx fy : Int} (hi : 0 ≤ ix ∧ 0 ≤ iy ∧ ix + iw ≤ 1048576 ∧ iy + ih ≤ 1048576) (hf : inB ix iy iw ih (fx, fy)) (a : Int × Int) (n : Nat) (h : Wk (stepR W H tl f c s ix iy iw ih) a (fx, fy) n) : (ocN a.1 a.2 fx fy).toNat ≤ n := by
  have := Wk.left (left := fun q : Int × Int => (ocN q.1 q.2 fx fy).toNat) (ocN_con hi hf) h
  simp only [ocN_goal] at this
  omega
/-- What Find tells: the way, or that there is none, or that the budget is spent. -/
def Finds (W H : Int) (tl : List Nat) (f : Int → Int → Option Int) (c s ix iy iw ih fx fy tx ty bud o cost : Int) (P : List (Int × Int)) : Prop :=
  (o = 1 ∧ cost ≤ 229376 ∧ Std W H tl f c s ix iy iw ih (tx, ty) ∧ At W H tl f c s ix iy iw ih (tx, ty) fx fy cost ∧ Way W H tl f c s ix iy iw ih (tx, ty) P fx fy cost) ∨
  (o = 2 ∧ cost = 0 ∧ P = [] ∧ ¬ (Std W H tl f c s ix iy iw ih (fx, fy) ∧ Std W H tl f c s ix iy iw ih (tx, ty) ∧ ∃ k, Wk (stepR W H tl f c s ix iy iw ih) (tx, ty) (fx, fy) k)) ∨
  (o = 3 ∧ cost = 0 ∧ P = [] ∧ bud < iw * ih ∧ iw * ih ≤ 16384)
theorem FindEnd.way {ax ay aw ah fx fy tx ty bud : Int} {w w' : World} {e : Ending} (hm : mtV ax ay aw ah 0 0 W H = rct ix iy iw ih) (hW : W ≤ 128) (hH : H ≤ 128) (h : FindEnd W H tl f c s fx fy tx ty ix iy iw ih bud w e w') :
    ∃ (o : Int) (va : Option Addr) (vn vc : Nat) (cost : Int) (P : List (Int × Int)), e = .returned (.tuple #[.agg #[.int .i64 o, .slice va vn vc], .int .i64 cost]) ∧ Below w.heap.size w w' ∧ (Cn w' (.slice va vn vc) P ∧ ∀ j, (Value.slice va vn vc).ownBlock = some j → w.heap.size ≤ j) ∧ Finds W H tl f c s ix iy iw ih fx fy tx ty bud o cost P := by
  obtain ⟨o, v, cost, rfl, hB, ⟨q, rfl, rfl, rfl⟩ | ⟨q, hr⟩⟩ := h
  · refine ⟨_, _, _, _, _, [], rfl, hB, ⟨Cn.nil _, fun j e => by simp [Value.ownBlock] at e⟩, .inr (.inl ⟨rfl, rfl, rfl, fun k => ?_⟩)⟩
    obtain ⟨⟨k1, k2⟩, ⟨k3, k4⟩, -⟩ := k
    simp only at k1 k2 k3 k4
    rw [k1, k2, k3, k4] at q
    cases q
  · rw [Bool.and_eq_true, Bool.and_eq_true, Bool.and_eq_true] at q
    obtain ⟨⟨q1, q2⟩, q3, q4⟩ := q
    obtain ⟨r1, r2, r3⟩ := rect_ok hm hW hH q1
    obtain ⟨-, ha⟩ := area_le r1 (by omega) (by omega) hW hH
    rcases hr with ⟨rfl, rfl, rfl, h1⟩ | ⟨rfl, rfl, rfl, h1⟩ | ⟨rfl, h1, h2, C, P, ⟨hl, hC⟩, ⟨Hq, hsk, hH⟩, hwy, hcn, hown⟩
    · exact ⟨_, _, _, _, _, [], rfl, hB, ⟨Cn.nil _, fun j e => by simp [Value.ownBlock] at e⟩, .inr (.inr ⟨rfl, rfl, rfl, h1, ha⟩)⟩
    · exact ⟨_, _, _, _, _, [], rfl, hB, ⟨Cn.nil _, fun j e => by simp [Value.ownBlock] at e⟩, .inr (.inl ⟨rfl, rfl, rfl, fun k => by obtain ⟨-, -, n, hn⟩ := k; exact h1 n hn⟩)⟩
    · obtain ⟨va, vn, vc, rfl⟩ := hcn.slice
      have h0 : Std W H tl f c s ix iy iw ih (tx, ty) := ⟨q3, q4⟩
      have hA : At W H tl f c s ix iy iw ih (tx, ty) fx fy cost := ⟨⟨q1, q2⟩, h1.1, h2⟩
      refine ⟨_, _, _, _, _, P, rfl, hB, ⟨hcn, hown⟩, .inl ⟨rfl, h1.2, h0, hA, way_of (D := cost.toNat) (fx := fx) (fy := fy) (fun m hm => (hC m hm).1) hsk hH (adm (by omega) ⟨r2, r3⟩) h0 hwy 0 hA (.nil _) (by omega)⟩⟩
/-- A second way from a cell of the first is the rest of it. -/
theorem Finds.part {fx fy tx ty bud o cost r : Int} {P Q : List (Int × Int)} (hb : 16384 ≤ bud) (h0 : Std W H tl f c s ix iy iw ih (tx, ty)) (ha : At W H tl f c s ix iy iw ih (tx, ty) fx fy r) (hw : Way W H tl f c s ix iy iw ih (tx, ty) Q fx fy r) (h : Finds W H tl f c s ix iy iw ih fx fy tx ty bud o cost P) : o = 1 ∧ cost = r ∧ P = Q := by
  rcases h with ⟨rfl, h1, h2, h3, h4⟩ | ⟨rfl, rfl, rfl, h1⟩ | ⟨rfl, rfl, rfl, h1, h2⟩
  · have := h3.lst.eq ha.lst
    have := h3.pos
    have := ha.pos
    have e : cost = r := by omega
    subst e
    exact ⟨rfl, rfl, h4.eq hw⟩
  · exact absurd ⟨ha.std, h0, _, ha.lst.1⟩ h1
  · omega
end
end Go.Proofs.YtggaobcdogbjhaaGreatDoor
