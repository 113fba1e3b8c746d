/-
  How far all cells are from one, by rounds: what the rounds keep, and what holds where nothing turns any more. The document's Costs: how far all cells are from one, over the whole of a world. From each cell with a number a step leads nearer; a number of the list by its cell. The document's Find over the whole of a world: what it keeps, and where it finds nothing. The document's Find over the whole of a world, between two cells that stand. Joined of the package, Find of the document over all: both meet in Cn. PartsJoined: a map, a shape and two cells; where it asks no more than that all are awake. PartsJoined: the good case.
-/
import Derived.Test.YtoheibfijpdmfaaDoorPRight
import Derived.Test.YtoheibfijpdmfaaDoorRefMeet
set_option linter.unusedSimpArgs false
namespace Go.Proofs.YtoheibfijpdmfaaDoor
open Go.RowKit Go.Shelf
set_option linter.unusedSectionVars false
variable [DecCn : ∀ (St : Nat → Bool) (Ad : Nat → Nat → Prop) (k i : Nat), Decidable (Cn St Ad k i)]
set_option linter.unusedVariables false
/-- In block b lie n numbers, below 0 ones among them. -/
def Nmz (w : World) (b n : Nat) (C : Nat → Int) : Prop := w.heap[b]? = some (.cells ((List.range n).map (fun k => Value.int .i64 (C k))).toArray 3 (0, 0))
section
variable {w w' : World} {b n : Nat} {C C' : Nat → Int}
theorem Nmz.lt (h : Nmz w b n C) : b < w.heap.size := (Array.getElem?_eq_some_iff.1 h).1
theorem Nmz.kept {S : Nat → Prop} (h : Nmz w b n C) (ht : Turns S w w') (hs : ¬ S b) : Nmz w' b n C := ht.same hs h
theorem Nmz.upto (h : Nmz w b n C) (hb : Below w.heap.size w w') : Nmz w' b n C := (hb.block b h.lt).trans h
theorem Nmz.c (h : Nmz w b n C) {j : Nat} (hj : j < n) : w.cell? ⟨b, j, none⟩ = some (.int .i64 (C j)) := by
  rw [cell_of_row w b j _ _ _ h]; simp [hj]
theorem Nmz.fz (h : Nmz w b n C) (j : Nat) : w.frozen? ⟨b, j, none⟩ = false := by
  have h' : w.heap[b]? = _ := h
  simp [World.frozen?, h']
theorem Nmz.congr (h : Nmz w b n C) (e : ∀ k, k < n → C k = C' k) : Nmz w b n C' := by
  have h' : w.heap[b]? = _ := h
  unfold Nmz
  rw [h', List.map_congr_left (fun k hk => by rw [e k (List.mem_range.1 hk)])]
theorem Nmz.set (h : Nmz w b n C) {j : Nat} (hj : j < n) (x : Int) : Nmz (w.setCell ⟨b, j, none⟩ (.int .i64 x)) b n (fun i => if i = j then x else C i) := by
  have h' : w.heap[b]? = _ := h
  unfold Nmz
  have e : ((List.range n).map (fun k => Value.int .i64 (C k))).set j (.int .i64 x) = (List.range n).map (fun i => Value.int .i64 (if i = j then x else C i)) := by
    refine List.ext_getElem (by simp) (fun i h1 h2 => ?_)
    simp only [List.getElem_set, List.getElem_map, List.getElem_range]
    by_cases hik : j = i
    · subst hik; simp
    · rw [if_neg hik, if_neg (fun e => hik e.symm)]
  simp [World.setCell, Array.getElem?_modify, h', e]
theorem Nms.z {L : Nat → Nat} (h : Nms w b n L) : Nmz w b n (fun k => (L k : Nat)) := h
end
def cst (d : Nat) : Int := if d < 4 then 10 else 14
theorem cst_pos (d : Nat) : 10 ≤ cst d ∧ cst d ≤ 14 := by unfold cst; split <;> omega
/-- A legal step from i in direction d leads to k. -/
def Lg (wd ht : Nat) (St : Nat → Bool) (i d k : Nat) : Prop := lg (gS wd ht St) ((i % wd : Nat) : Int) ((i / wd : Nat) : Int) (d : Nat) = true ∧ nbr wd i k d
/-- How many have no number yet. -/
def zC (N : Nat) (C : Nat → Int) : Nat := cntP N (fun k => decide (C k < 0))
/-- The sum of all, those without a number counting as more than any. -/
def sC : Nat → (Nat → Int) → Nat
  | 0, _ => 0
  | N + 1, C => sC N C + (if C N < 0 then 20001 else (C N).toNat)
theorem sC_congr {C C' : Nat → Int} : ∀ {N : Nat}, (∀ k, k < N → C k = C' k) → sC N C = sC N C'
  | 0, _ => rfl
  | N + 1, h => by
    have := sC_congr (N := N) (fun k hk => h k (by omega))
    simp only [sC, this, h N (by omega)]
theorem sC_set {C : Nat → Int} {j : Nat} {x : Int} : ∀ {N : Nat}, j < N → 0 ≤ x → x ≤ 20000 → (C j < 0 ∨ x < C j) → sC N (fun i => if i = j then x else C i) < sC N C
  | 0, h, _, _, _ => by omega
  | N + 1, h, h0, h1, h2 => by
    by_cases e : j = N
    · subst e
      have := sC_congr (N := j) (C := fun i => if i = j then x else C i) (C' := C) (fun k hk => by rw [if_neg (by omega)])
      simp only [sC, this, if_true]
      rw [if_neg (by omega)]
      split <;> omega
    · have := sC_set (C := C) (N := N) (by omega) h0 h1 h2
      simp only [sC, if_neg (Ne.symm e)]
      omega
theorem sC_le {C : Nat → Int} : ∀ {N : Nat}, (∀ k, k < N → C k ≤ 20000) → sC N C ≤ 20001 * N
  | 0, _ => Nat.le_refl _
  | N + 1, h => by
    have := sC_le (N := N) (fun k hk => h k (by omega))
    have h2 := h N (by omega)
    simp only [sC]
    split <;> omega
/-- What the rounds keep. -/
structure Bf (wd ht N : Nat) (St : Nat → Bool) (tg : Nat) (C : Nat → Int) : Prop where
  c0 : C tg = 0
  ge : ∀ i, i < N → -1 ≤ C i
  cn : ∀ i, i < N → 0 ≤ C i → Cn St (adI wd) tg i
  pr : ∀ i, i < N → 0 ≤ C i → i ≠ tg → ∃ j d, j < N ∧ d < 8 ∧ Lg wd ht St j d i ∧ 0 ≤ C j ∧ C j + cst d ≤ C i
  bd : ∀ i, i < N → 0 ≤ C i → C i + 14 * (zC N C : Nat) + 14 ≤ 14 * (N : Nat)
section
variable {wd ht N : Nat} {St : Nat → Bool} {tg : Nat} {C : Nat → Int}
theorem Bf.le (h : Bf wd ht N St tg C) {i : Nat} (hi : i < N) : C i ≤ 14 * (N : Nat) := by
  by_cases h0 : 0 ≤ C i
  · have := h.bd i hi h0; omega
  · omega
theorem Bf.start (hto : tg < N) (hs : St tg = true) : Bf wd ht N St tg (fun i => if i = tg then 0 else -1) := by
  refine ⟨by simp, fun i _ => by show (-1 : Int) ≤ (if i = tg then 0 else -1); split <;> omega, fun i _ h => ?_, fun i _ h hne => ?_, fun i hi h => ?_⟩
  · by_cases e : i = tg
    · subst e; exact .refl _ hs
    · simp only [if_neg e] at h; omega
  · simp only [if_neg hne] at h; omega
  · have e : i = tg := by
      by_cases e : i = tg
      · exact e
      · simp only [if_neg e] at h; omega
    subst e
    have hz : zC N (fun j => if j = i then (0 : Int) else -1) + 1 = cntP N (fun _ => true) := cntP_less hi rfl (by simp) (fun j hj => by simp [hj])
    have hN : cntP N (fun _ => true) = N := by unfold cntP; rw [List.filter_eq_self.2 (fun _ _ => rfl), List.length_range]
    simp only [if_true]
    omega
/-- A cell nearer than was known. -/
theorem Bf.turn (h : Bf wd ht N St tg C) {i d k : Nat} (hi : i < N) (hk : k < N) (hd : d < 8) (hL : Lg wd ht St i d k) (hcn : Cn St (adI wd) i k) (h0 : 0 ≤ C i) (hv : C k < 0 ∨ C i + cst d < C k) : Bf wd ht N St tg (fun j => if j = k then C i + cst d else C j) := by
  have hc := cst_pos d
  have hkt : k ≠ tg := by
    rintro rfl
    rw [h.c0] at hv
    omega
  have hki : i ≠ k := by
    rintro rfl
    omega
  refine ⟨by rw [if_neg (Ne.symm hkt)]; exact h.c0, fun j hj => ?_, fun j hj hj0 => ?_, fun j hj hj0 hne => ?_, fun j hj hj0 => ?_⟩
  · by_cases e : j = k
    · simp only [if_pos e]; omega
    · simp only [if_neg e]; exact h.ge j hj
  · by_cases e : j = k
    · subst e; exact (h.cn i hi h0).trans hcn
    · simp only [if_neg e] at hj0; exact h.cn j hj hj0
  · by_cases e : j = k
    · subst e
      refine ⟨i, d, hi, hd, hL, by simp only [if_neg hki]; exact h0, by simp only [if_neg hki, if_true]; omega⟩
    · simp only [if_neg e] at hj0 ⊢
      obtain ⟨m, d', hm, hd', hL', hm0, hle⟩ := h.pr j hj hj0 hne
      refine ⟨m, d', hm, hd', hL', ?_, ?_⟩
      · by_cases e2 : m = k
        · simp only [if_pos e2]; omega
        · simp only [if_neg e2]; exact hm0
      · by_cases e2 : m = k
        · subst e2
          simp only [if_true]
          rcases hv with hv | hv <;> omega
        · simp only [if_neg e2]; exact hle
  · have hz : zC N (fun j => if j = k then C i + cst d else C j) = (if C k < 0 then zC N C - 1 else zC N C) ∧ (C k < 0 → 1 ≤ zC N C) := by
      by_cases hk0 : C k < 0
      · have := cntP_less (P := fun m => decide (C m < 0)) (Q := fun m => decide ((if m = k then C i + cst d else C m) < 0)) hk (by simp [hk0]) (by simp; omega) (fun m hm => by simp [hm])
        have e1 : zC N (fun j => if j = k then C i + cst d else C j) + 1 = zC N C := this
        rw [if_pos hk0]
        omega
      · rw [if_neg hk0]
        refine ⟨cntP_congr (fun m _ => ?_), fun h => absurd h hk0⟩
        by_cases e : m = k
        · subst e; simp only [if_true]; rw [decide_eq_false (by omega), decide_eq_false hk0]
        · simp only [if_neg e]
    have hbi := h.bd i hi h0
    by_cases e : j = k
    · subst e
      simp only [if_true]
      rw [hz.1]
      by_cases hk0 : C j < 0
      · rw [if_pos hk0]; have := hz.2 hk0; omega
      · rw [if_neg hk0]
        have hbk := h.bd j hj (by omega)
        omega
    · simp only [if_neg e] at hj0 ⊢
      have := h.bd j hj hj0
      rw [hz.1]
      split <;> omega
end
/-- Nothing turns at cell i in direction d. -/
def Fn (wd ht N : Nat) (St : Nat → Bool) (C : Nat → Int) (i d : Nat) : Prop := 0 ≤ C i → ∀ k, k < N → Lg wd ht St i d k → 0 ≤ C k ∧ C k ≤ C i + cst d
/-- Where nothing turns: all that are joined have a number. -/
theorem Bf.all {wd ht N : Nat} {St : Nat → Bool} {tg : Nat} {C : Nat → Int} (hwd : (1 ≤ wd ∧ wd ≤ 128) ∧ 1 ≤ ht ∧ ht ≤ 128) (hN : N = wd * ht) (hSN : ∀ i, St i = true → i < N) (h : Bf wd ht N St tg C) (hf : ∀ i, i < N → ∀ d, d < 8 → Fn wd ht N St C i d) (hto : tg < N) (i : Nat) (hi : i < N) : 0 ≤ C i ↔ Cn St (adI wd) tg i := by
  refine ⟨h.cn i hi, fun hc => ?_⟩
  induction hc using Cn.ind with
  | refl _ => rw [h.c0]; omega
  | step b c hb ha hs ih =>
    have hbN := hSN b hb.right
    obtain ⟨d, hd, hn⟩ := ad_nbr ha
    exact (hf b hbN d (by omega) (ih hbN) c (hSN c hs) ⟨lg_yes hwd hN hb.right hbN hd hn hs (hSN c hs), hn⟩).1
end Go.Proofs.YtoheibfijpdmfaaDoor
set_option linter.unusedSimpArgs false
namespace Go.Proofs.YtoheibfijpdmfaaDoor
open Go.RowKit Go.Shelf
set_option linter.unusedSectionVars false
variable [DecCn : ∀ (St : Nat → Bool) (Ad : Nat → Nat → Prop) (k i : Nat), Decidable (Cn St Ad k i)]
set_option linter.unusedVariables false
set_option maxHeartbeats 1000000 in
theorem refcost_is (d : Nat) (hd : d < 8) (w : World) : Calls Tryd.prog 35 #[.int .i64 (d : Nat)] w fun e w' => e = .returned (.int .i64 (cst d)) ∧ w' = w := by
  have h0 : ¬ ((d : Nat) : Int) < 0 := by omega
  have h8 : ¬ (8 : Int) ≤ ((d : Nat) : Int) := by omega
  by_cases h4 : d < 4
  · rw [show cst d = 10 by simp [cst, h4]]
    have h4I : ((d : Nat) : Int) < 4 := by omega
    go_enter Tryd.func35, Tryd.ntmps35
    go_wp2
    go_ret
    exact ⟨rfl, rfl⟩
  · rw [show cst d = 14 by simp [cst, h4]]
    have h4I : ¬ ((d : Nat) : Int) < 4 := by omega
    go_enter Tryd.func35, Tryd.ntmps35
    go_wp2
    go_ret
    exact ⟨rfl, rfl⟩
/-- The sum of a block's numbers. -/
def vN : Value → Nat
  | .int _ z => if z < 0 then 20001 else z.toNat
  | _ => 0
def sW (w : World) (b : Nat) : Nat := match w.heap[b]? with
  | some (.cells c _ _) => (c.toList.map vN).sum
  | _ => 0
theorem sum_sC (C : Nat → Int) : ∀ n : Nat, (((List.range n).map (fun k => Value.int .i64 (C k))).map vN).sum = sC n C
  | 0 => rfl
  | n + 1 => by
    rw [List.range_succ, List.map_append, List.map_append, List.sum_append, sum_sC C n]
    simp [sC, vN]
theorem sW_of {w : World} {b n : Nat} {C : Nat → Int} (h : Nmz w b n C) : sW w b = sC n C := by
  have h' : w.heap[b]? = _ := h
  unfold sW
  rw [h']
  exact sum_sC C n
def flag : Value → Nat
  | .bool true => 1
  | _ => 0
/-- What Costs keeps: the ground, the cell, the rectangle, the numbers. -/
structure Cx (w W : World) (wd ht N : Nat) (iv : Value) (fx fy : Int) (C : Nat → Int) : Prop where
  gb : GB W w.heap.size wd ht iv
  fr : Two W (w.heap.size + 1) fx fy
  rc : Four W (w.heap.size + 1 + 1) 0 0 wd ht
  nm : Nmz W (w.heap.size + 1 + 1 + 1) N C
  bl : Below w.heap.size w W
section
variable {w W W' : World} {wd ht N : Nat} {iv : Value} {fx fy : Int} {C : Nat → Int}
theorem Cx.upto (h : Cx w W wd ht N iv fx fy C) (hb : Below W.heap.size W W') : Cx w W' wd ht N iv fx fy C := ⟨h.gb.upto hb, h.fr.kept hb, h.rc.kept hb, h.nm.upto hb, bt h.bl hb⟩
theorem Cx.set {j : Nat} (h : Cx w W wd ht N iv fx fy C) (hj : j < N) (x : Int) : Cx w (W.setCell ⟨w.heap.size + 1 + 1 + 1, j, none⟩ (.int .i64 x)) wd ht N iv fx fy (fun i => if i = j then x else C i) :=
  ⟨h.gb.kept (Turns.set (S := fun k => k = w.heap.size + 1 + 1 + 1) W (p := ⟨w.heap.size + 1 + 1 + 1, j, none⟩) rfl _) (by omega), h.fr.past (by omega), h.rc.past (by omega), h.nm.set hj x, h.bl.setCell (p := ⟨w.heap.size + 1 + 1 + 1, j, none⟩) (by simp; omega) _⟩
theorem Cx.congr {C' : Nat → Int} (h : Cx w W wd ht N iv fx fy C) (e : ∀ k, k < N → C k = C' k) : Cx w W wd ht N iv fx fy C' := ⟨h.gb, h.fr, h.rc, h.nm.congr e, h.bl⟩
end
/-- A cell's place in the list, as the text reckons it. -/
theorem idx_wrap {wd ht N j : Nat} (hN : N = wd * ht) (hN2 : N ≤ 16384) (hj : j < N) {x y : Int} (hx : ((j % wd : Nat) : Int) = x) (hy : ((j / wd : Nat) : Int) = y) : ∃ z : Int, IntKind.i64.wrap (y * ((wd : Nat) : Int)) = z ∧ IntKind.i64.wrap (z + x) = (j : Nat) ∧ (0 ≤ x ∧ x ≤ 16384) ∧ (0 ≤ y ∧ y ≤ 16384) := by
  have e0 : j / wd * wd + j % wd = j := by rw [Nat.mul_comm]; exact Nat.div_add_mod j wd
  have h1 : j % wd ≤ j := Nat.mod_le _ _
  have h2 : j / wd ≤ j := Nat.div_le_self _ _
  subst hx hy
  generalize j / wd = q at *
  generalize j % wd = m at *
  refine ⟨((q * wd : Nat) : Int), ?_, ?_, ⟨by omega, by omega⟩, ⟨by omega, by omega⟩⟩
  · rw [show ((q : Nat) : Int) * ((wd : Nat) : Int) = ((q * wd : Nat) : Int) by push_cast; rfl]
    exact wrap_nat (by omega)
  · rw [show ((q * wd : Nat) : Int) + ((m : Nat) : Int) = ((q * wd + m : Nat) : Int) by push_cast; rfl, e0]
    exact wrap_nat (by omega)
set_option maxRecDepth 100000 in
set_option maxHeartbeats 16000000 in
theorem costs_any {w : World} {wd ht N tg : Nat} {St : Nat → Bool} {iv : Value} (h : Gd w wd ht N St iv) (hwd : (1 ≤ wd ∧ wd ≤ 128) ∧ 1 ≤ ht ∧ ht ≤ 128) (hN : N = wd * ht) (hN7 : N ≤ 700) (hSN : ∀ i, St i = true → i < N) (htg : St tg = true) :
    Calls Tryd.prog 32 #[gdv wd ht iv, cel ((tg % wd : Nat) : Int) ((tg / wd : Nat) : Int), rct 0 0 wd ht] w fun e w' => ∃ b C, e = .returned (sl b N) ∧ (Nmz w' b N C ∧ Bf wd ht N St tg C ∧ ∀ i, i < N → ∀ d, d < 8 → Fn wd ht N St C i d) ∧ Below w.heap.size w w' := by
  have hN2 : N ≤ 16384 := by omega
  have hw : wd ≤ 128 ∧ ht ≤ 128 := ⟨hwd.1.2, hwd.2.2⟩
  have htN : tg < N := hSN tg htg
  have hmul : IntKind.i64.wrap ((wd : Int) * (ht : Int)) = (N : Nat) := by
    rw [show (wd : Int) * (ht : Int) = ((wd * ht : Nat) : Int) by push_cast; rfl, ← hN]
    exact wrap_nat hN2
  have hmk := make_nums N hN2
  have HGd : Hid (∀ wx, Below w.heap.size w wx → Gd wx wd ht N St iv) := hide fun wx hx => h.upto hx
  obtain ⟨a0, cap0, hiv, -⟩ := h.form
  subst hiv
  have HSt : Hid (∀ wx, Below w.heap.size w wx → ∀ x y d, Calls Tryd.prog 34 #[gdv wd ht (.slice a0 N cap0), cel x y, .int .i64 d] wx fun e w' => e = .returned (.tuple #[cel (if lg (gS wd ht St) x y d = true then sX x y d else 0) (if lg (gS wd ht St) x y d = true then sY x y d else 0), .bool (lg (gS wd ht St) x y d)]) ∧ Below wx.heap.size wx w') := hide fun wx hx x y d =>
    gsteps_of (gS wd ht St) x y d a0 N cap0 rfl (fun wy hy u v => gstands_any u v (HGd.out wy (bt hx hy)) hw hN)
  have hgt : gS wd ht St ((tg % wd : Nat) : Int) ((tg / wd : Nat) : Int) = true := gS_of hwd.1.1 (by rw [← hN]; exact htN) htg
  have hhas : ∀ j, j < N → has 0 0 (wd : Int) (ht : Int) ((j % wd : Nat) : Int) ((j / wd : Nat) : Int) = true := fun j hj => by
    have h1 : j % wd < wd := Nat.mod_lt _ (by omega)
    have h2 : j / wd < ht := by rw [Nat.div_lt_iff_lt_mul (by omega), Nat.mul_comm, ← hN]; exact hj
    rw [has_in hw]
    generalize j % wd = X at *
    generalize j / wd = Y at *
    omega
  obtain ⟨z, hz1, hz2, hzx, hzy⟩ := idx_wrap hN hN2 htN rfl rfl
  have HGt : Hid (∀ wx, Below w.heap.size w wx → Calls Tryd.prog 15 #[gdv wd ht (.slice a0 N cap0), cel ((tg % wd : Nat) : Int) ((tg / wd : Nat) : Int)] wx fun e w' => e = .returned (.bool true) ∧ Below wx.heap.size wx w') := hide fun wx hx => by
    have := gstands_any ((tg % wd : Nat) : Int) ((tg / wd : Nat) : Int) (HGd.out wx hx) hw hN
    rwa [hgt] at this
  have HHt := hide (hhas tg htN)
  obtain ⟨fx, hfx⟩ : ∃ fx : Int, ((tg % wd : Nat) : Int) = fx := ⟨_, rfl⟩
  obtain ⟨fy, hfy⟩ : ∃ fy : Int, ((tg / wd : Nat) : Int) = fy := ⟨_, rfl⟩
  rw [hfx, hfy] at HGt HHt
  rw [hfx] at hz2 hzx
  rw [hfy] at hz1 hzy
  rw [hfx, hfy]
  obtain ⟨X, hX⟩ : ∃ X, (((w.alloc (.cells #[.int .i64 (wd : Nat), .int .i64 (ht : Nat), .slice a0 N cap0] 45)).alloc (.cells #[.int .i64 fx, .int .i64 fy] 41)).alloc (.cells #[.int .i64 0, .int .i64 0, .int .i64 (wd : Nat), .int .i64 (ht : Nat)] 53)).alloc (.cells (Array.replicate N (.int .i64 0)) 3) = X := ⟨_, rfl⟩
  have X0 : Cx w X wd ht N (.slice a0 N cap0) fx fy (fun _ => 0) := by
    rw [← hX]
    refine ⟨((((GB.new w wd ht _).upto (box1 _ _)).upto (box1 _ _)).upto (box1 _ _)), ?_, ?_, ?_, bt (box2 _ _ _) (box2 _ _ _)⟩
    · exact ((Two.newAt (by simp)).alloc).alloc
    · have f9 : Four ((((w.alloc (.cells #[.int .i64 (wd : Nat), .int .i64 (ht : Nat), .slice a0 N cap0] 45)).alloc (.cells #[.int .i64 fx, .int .i64 fy] 41))).alloc (.cells #[.int .i64 0, .int .i64 0, .int .i64 (wd : Nat), .int .i64 (ht : Nat)] 53)) (w.heap.size + 1 + 1) 0 0 wd ht := by
        have f0 : Four ((((w.alloc (.cells #[.int .i64 (wd : Nat), .int .i64 (ht : Nat), .slice a0 N cap0] 45)).alloc (.cells #[.int .i64 fx, .int .i64 fy] 41))).alloc (.cells #[.int .i64 0, .int .i64 0, .int .i64 (wd : Nat), .int .i64 (ht : Nat)] 53)) ((w.alloc (.cells #[.int .i64 (wd : Nat), .int .i64 (ht : Nat), .slice a0 N cap0] 45)).alloc (.cells #[.int .i64 fx, .int .i64 fy] 41)).heap.size 0 0 wd ht := cells4 (Below.refl _ _)
        rwa [World.size_alloc, World.size_alloc] at f0
      exact f9.kept (box1 _ _)
    · have := made_nums N (((w.alloc (.cells #[.int .i64 (wd : Nat), .int .i64 (ht : Nat), .slice a0 N cap0] 45)).alloc (.cells #[.int .i64 fx, .int .i64 fy] 41)).alloc (.cells #[.int .i64 0, .int .i64 0, .int .i64 (wd : Nat), .int .i64 (ht : Nat)] 53))
      have := this.z
      rw [World.size_alloc, World.size_alloc, World.size_alloc] at this
      exact this
  have HX0 := hide X0
  have HX := hide hX
  have HN := hide hN
  have HSN := hide hSN
  have Hhas := hide hhas
  have Hfx := hide hfx
  have Hfy := hide hfy
  have Htg := hide htg
  have hNI : ((N : Nat) : Int) ≤ 700 := by omega
  have hwI : (1 : Int) ≤ (wd : Nat) ∧ ((wd : Nat) : Int) ≤ 128 := by omega
  have hhI : (1 : Int) ≤ (ht : Nat) ∧ ((ht : Nat) : Int) ≤ 128 := by omega
  have hwd0 : ¬ wd = 0 := by omega
  have htI : (0 : Int) ≤ (tg : Nat) ∧ ((tg : Nat) : Int) < (N : Nat) := by omega
  clear hX X0 hN hSN hhas hfx hfy htg h hgt
  go_enter Tryd.func32, Tryd.ntmps32
  go_wp2_with fail
  rw [HX.out]
  clear hmk hmul
  go_loopw [8] (fun d wr => ∃ i : Nat, d = .int .i64 (i : Nat) ∧ i ≤ N ∧ Cx w wr wd ht N (.slice a0 N cap0) fx fy (fun k => if k < i then -1 else 0)) (fun d _ => N - (intOf d).toNat)
  case atStart => exact ⟨0, rfl, Nat.zero_le _, HX0.out.congr (fun k _ => by simp)⟩
  case round =>
    obtain ⟨i, rfl, hi, hC⟩ := hrel
    clear HX0 HX
    by_cases hlt : i < N
    · have hli : ((i : Nat) : Int) < (N : Nat) := by omega
      have hiI : (0 : Int) ≤ (i : Nat) ∧ ((i : Nat) : Int) ≤ 700 := by omega
      have cu := hC.nm.c hlt
      have fu := hC.nm.fz i
      have HC1 := hide ((hC.set hlt (-1)).congr (C' := fun k => if k < i + 1 then -1 else 0) (fun k _ => by
        by_cases e : k = i
        · subst e; simp
        · simp only [if_neg e]
          by_cases e2 : k < i
          · rw [if_pos e2, if_pos (by omega)]
          · rw [if_neg e2, if_neg (by omega)]))
      clear hC
      go_wp2_with fail
      go_roundw
      case rel => exact ⟨i + 1, by go_num, by omega, HC1.out⟩
      case measure => simp [intOf]; omega
    · have hie : i = N := by omega
      subst hie
      have hli : ¬ ((i : Nat) : Int) < (i : Nat) := by omega
      have hC2 : Cx w wr wd ht i (.slice a0 i cap0) fx fy (fun _ => -1) := hC.congr (fun k hk => by rw [if_pos hk])
      have HC2 := hide hC2
      obtain ⟨⟨g0, g1⟩, g2⟩ := hC2.gb.c
      obtain ⟨⟨t0, t1⟩, -, -⟩ := hC2.fr
      clear hC hC2
      go_wp2_with fail
      refine (HGt.out _ HC2.out.bl).mono ?_
      rintro e w2 ⟨rfl, hb2⟩
      have HC3 := hide (HC2.out.upto hb2)
      obtain ⟨⟨t2, t3⟩, -, -⟩ := HC3.out.fr
      obtain ⟨⟨r0, r1, r2, r3⟩, -, -⟩ := HC3.out.rc
      clear hb2 g0 g1 g2 t0 t1 HC2 HGt
      go_wp2_with fail
      refine (refhas_is _ HHt.out).mono ?_
      rintro e w3 ⟨rfl, hb3⟩
      have HC4 := hide (HC3.out.upto hb3)
      obtain ⟨⟨t4, t5⟩, -, -⟩ := HC4.out.fr
      obtain ⟨⟨s0, s1, s2, s3⟩, -, -⟩ := HC4.out.rc
      have cu := HC4.out.nm.c htN
      have fu := HC4.out.nm.fz tg
      have HC5 := hide (HC4.out.set htN 0)
      have HBf : Hid (Bf wd ht i St tg (fun j => if j = tg then 0 else -1)) := hide (Bf.start htN Htg.out)
      clear hb3 t2 t3 r0 r1 r2 r3 HC3 HHt
      go_wp2_with fail
      clear t4 t5 s0 s1 s2 s3 cu fu HC4
      obtain ⟨ob, hob⟩ : ∃ ob, w.heap.size + 1 + 1 + 1 = ob := ⟨_, rfl⟩
      obtain ⟨w4, hw4⟩ : ∃ w4, w3.setCell ⟨w.heap.size + 1 + 1 + 1, tg, none⟩ (.int .i64 0) = w4 := ⟨_, rfl⟩
      rw [hw4] at HC5
      rw [hw4]
      clear hw4 ob hob
      go_loopw [9] (fun tb wr => ∃ (C : Nat → Int) (b : Bool), tb = .bool b ∧ Cx w wr wd ht i (.slice a0 i cap0) fx fy C ∧ Bf wd ht i St tg C ∧ (b = false → ∀ i', i' < i → ∀ d, d < 8 → Fn wd ht i St C i' d)) (fun tb wr => 2 * sW wr (w.heap.size + 1 + 1 + 1) + flag tb)
      case atStart => exact ⟨_, true, rfl, HC5.out, HBf.out, fun e => by cases e⟩
      case round =>
        obtain ⟨C0, b0, rfl, hC, hBf, hFn⟩ := hrel
        clear HC5 HBf
        rename World => wa
        cases b0
        · have HC := hide hC
          have HR : Hid (Bf wd ht i St tg C0 ∧ ∀ i', i' < i → ∀ d, d < 8 → Fn wd ht i St C0 i' d) := hide ⟨hBf, hFn rfl⟩
          clear hC hBf hFn
          go_wp2_with fail
          go_ret
          exact ⟨_, C0, rfl, ⟨HC.out.nm, HR.out.1, HR.out.2⟩, HC.out.bl⟩
        · obtain ⟨s0, hs0⟩ : ∃ s0, sC i C0 = s0 := ⟨_, rfl⟩
          have Hs0 : Hid (sW wa (w.heap.size + 1 + 1 + 1) = s0) := hide ((sW_of hC.nm).trans hs0)
          have HC := hide hC
          have HBf := hide hBf
          have Hsc := hide hs0
          clear hC hBf hFn hs0
          go_wp2_with fail
          go_loopw [9, 10] (fun tb d wr => ∃ (k : Nat) (C : Nat → Int) (b : Bool), tb = .bool b ∧ d = .int .i64 (k : Nat) ∧ k ≤ i ∧ Cx w wr wd ht i (.slice a0 i cap0) fx fy C ∧ Bf wd ht i St tg C ∧ sC i C ≤ s0 ∧ (b = true → sC i C < s0) ∧ (b = false → ∀ i', i' < k → ∀ d, d < 8 → Fn wd ht i St C i' d)) (fun _ d _ => i - (intOf d).toNat)
          case atStart => exact ⟨0, C0, false, rfl, rfl, Nat.zero_le _, HC.out, HBf.out, by rw [Hsc.out]; exact Nat.le_refl _, (fun e => by cases e), fun _ i' hi' => by omega⟩
          case round =>
            obtain ⟨k, C1, b1, rfl, rfl, hk, hC, hBf, hle, hlts, hFn⟩ := hrel
            clear HC HBf
            rename World => wb
            by_cases hkl : k < i
            · have hkI : ((k : Nat) : Int) < (i : Nat) := by omega
              have hk0 : (0 : Int) ≤ (k : Nat) ∧ ((k : Nat) : Int) ≤ 700 := by omega
              obtain ⟨kx, hkx⟩ : ∃ kx : Int, ((k % wd : Nat) : Int) = kx := ⟨_, rfl⟩
              obtain ⟨ky, hky⟩ : ∃ ky : Int, ((k / wd : Nat) : Int) = ky := ⟨_, rfl⟩
              have hrem : (k : Int).tmod (wd : Int) = kx := hkx
              have hrem2 : (k : Int) % (wd : Int) = kx := by rw [← hkx]; exact (Int.natCast_emod k wd).symm
              have hquo : IntKind.i64.wrap ((k : Int) / (wd : Int)) = ky := by
                rw [← hky, ← Int.natCast_ediv]
                exact wrap_nat (Nat.le_trans (Nat.div_le_self k wd) (by omega))
              obtain ⟨-, -, -, hkxI, hkyI⟩ := idx_wrap HN.out hN2 hkl hkx hky
              have hkxw : IntKind.i64.wrap kx = kx := by rw [IntKind.wrap_i64]; omega
              have hkyw : IntKind.i64.wrap ky = ky := by rw [IntKind.wrap_i64]; omega
              have Hkx := hide hkx
              have Hky := hide hky
              have HC := hide hC
              have HBf := hide hBf
              have Hle := hide hle
              have Hlts := hide hlts
              have HFn := hide hFn
              have HCd := hide (hC.upto (Below.refl _ wb).drew)
              have HS : Hid (∀ wx C, Cx w wx wd ht i (.slice a0 i cap0) fx fy C → (wx.cell? ⟨w.heap.size + 1 + 1, 0, none⟩ = some (.int .i64 0) ∧ wx.cell? ⟨w.heap.size + 1 + 1, 1, none⟩ = some (.int .i64 0)) ∧ wx.cell? ⟨w.heap.size + 1 + 1, 2, none⟩ = some (.int .i64 (wd : Nat))) := hide fun wx C h => ⟨⟨h.rc.1.1, h.rc.1.2.1⟩, h.rc.1.2.2.1⟩
              clear hC hBf hle hlts hFn hkx hky
              go_wp2_with fail
              refine wp_only ?_
              refine wp_region_held_drew (S := fun wx => (wx.cell? ⟨w.heap.size + 1 + 1, 0, none⟩ = some (.int .i64 0) ∧ wx.cell? ⟨w.heap.size + 1 + 1, 1, none⟩ = some (.int .i64 0)) ∧ wx.cell? ⟨w.heap.size + 1 + 1, 2, none⟩ = some (.int .i64 (wd : Nat))) (by kernel_rfl) (HS.out _ _ HCd.out) (fun hHeld => ?_)
              refine wpAnyH_take (i := 0) (v := ?_) rfl (by kernel_rfl) (by kernel_rfl) (by kernel_rfl) (fun _ _ _ h => h.elim) (Or.inl ⟨by rfl, ?_⟩) (by assumption) ?_
              rotate_left
              · intro wx hSw
                try dsimp only at hSw
                go_simp
                try with_reducible rfl
              try simp only [Act.put, List.getElem_toArray, List.getElem_cons_zero, List.getElem_cons_succ, List.setIfInBounds_toArray, List.set_cons_zero, List.set_cons_succ]
              refine wpAnyH_take (i := 1) (v := ?_) rfl (by kernel_rfl) (by kernel_rfl) (by kernel_rfl) (fun _ _ _ h => h.elim) (Or.inl ⟨by rfl, ?_⟩) (by assumption) ?_
              rotate_left
              · intro wx hSw
                try dsimp only at hSw
                go_simp
                try with_reducible rfl
              try simp only [Act.put, List.getElem_toArray, List.getElem_cons_zero, List.getElem_cons_succ, List.setIfInBounds_toArray, List.set_cons_zero, List.set_cons_succ]
              refine wpAnyH_take (i := 2) (v := ?_) rfl (by kernel_rfl) (by kernel_rfl) (by kernel_rfl) (fun _ _ _ h => h.elim) (Or.inl ⟨by rfl, ?_⟩) (by assumption) ?_
              rotate_left
              · intro wx hSw
                try dsimp only at hSw
                go_simp
                try with_reducible rfl
              try simp only [Act.put, List.getElem_toArray, List.getElem_cons_zero, List.getElem_cons_succ, List.setIfInBounds_toArray, List.set_cons_zero, List.set_cons_succ]
              refine wpAnyH_take (i := 3) (v := ?_) rfl (by kernel_rfl) (by kernel_rfl) (by kernel_rfl) (fun _ _ _ h => h.elim) (Or.inl ⟨by rfl, ?_⟩) (by assumption) ?_
              rotate_left
              · intro wx hSw
                try dsimp only at hSw
                go_simp
                try with_reducible rfl
              try simp only [Act.put, List.getElem_toArray, List.getElem_cons_zero, List.getElem_cons_succ, List.setIfInBounds_toArray, List.set_cons_zero, List.set_cons_succ]
              refine wpAnyH_take (i := 4) (v := ?_) rfl (by kernel_rfl) (by kernel_rfl) (by kernel_rfl) (fun _ _ _ h => h.elim) (Or.inl ⟨by rfl, ?_⟩) (by assumption) ?_
              rotate_left
              · intro wx hSw
                try dsimp only at hSw
                go_simp
                try with_reducible rfl
              try simp only [Act.put, List.getElem_toArray, List.getElem_cons_zero, List.getElem_cons_succ, List.setIfInBounds_toArray, List.set_cons_zero, List.set_cons_succ]
              refine wpAnyH_take (i := 5) (v := ?_) rfl (by kernel_rfl) (by kernel_rfl) (by kernel_rfl) (fun _ _ _ h => h.elim) (Or.inl ⟨by rfl, ?_⟩) (by assumption) ?_
              rotate_left
              · intro wx hSw
                try dsimp only at hSw
                go_simp
                try with_reducible rfl
              try simp only [Act.put, List.getElem_toArray, List.getElem_cons_zero, List.getElem_cons_succ, List.setIfInBounds_toArray, List.set_cons_zero, List.set_cons_succ]
              refine wpAnyH_take (i := 6) (v := ?_) rfl (by kernel_rfl) (by kernel_rfl) (by kernel_rfl) (fun _ _ _ h => h.elim) (Or.inl ⟨by rfl, ?_⟩) (by assumption) ?_
              rotate_left
              · intro wx hSw
                try dsimp only at hSw
                go_simp
                try with_reducible rfl
              try simp only [Act.put, List.getElem_toArray, List.getElem_cons_zero, List.getElem_cons_succ, List.setIfInBounds_toArray, List.set_cons_zero, List.set_cons_succ]
              refine wpAnyH_take (i := 7) (v := ?_) rfl (by kernel_rfl) (by kernel_rfl) (by kernel_rfl) (fun _ _ _ h => h.elim) (Or.inl ⟨by rfl, ?_⟩) (by assumption) ?_
              rotate_left
              · intro wx hSw
                try dsimp only at hSw
                go_simp
                try with_reducible rfl
              try simp only [Act.put, List.getElem_toArray, List.getElem_cons_zero, List.getElem_cons_succ, List.setIfInBounds_toArray, List.set_cons_zero, List.set_cons_succ]
              refine wpAnyH_take (i := 8) (v := ?_) rfl (by kernel_rfl) (by kernel_rfl) (by kernel_rfl) (fun _ _ _ h => h.elim) (Or.inl ⟨by rfl, ?_⟩) (by assumption) ?_
              rotate_left
              · intro wx hSw
                try dsimp only at hSw
                go_simp
                try with_reducible rfl
              try simp only [Act.put, List.getElem_toArray, List.getElem_cons_zero, List.getElem_cons_succ, List.setIfInBounds_toArray, List.set_cons_zero, List.set_cons_succ]
              refine wpAnyH_take (i := 9) (v := ?_) rfl (by kernel_rfl) (by kernel_rfl) (by kernel_rfl) (fun _ _ _ h => h.elim) (Or.inl ⟨by rfl, ?_⟩) (by assumption) ?_
              rotate_left
              · intro wx hSw
                try dsimp only at hSw
                go_simp
                try with_reducible rfl
              try simp only [Act.put, List.getElem_toArray, List.getElem_cons_zero, List.getElem_cons_succ, List.setIfInBounds_toArray, List.set_cons_zero, List.set_cons_succ]
              refine wpAnyH_take (i := 10) (v := ?_) rfl (by kernel_rfl) (by kernel_rfl) (by kernel_rfl) (fun _ _ _ h => h.elim) (Or.inl ⟨by rfl, ?_⟩) (by assumption) ?_
              rotate_left
              · intro wx hSw
                try dsimp only at hSw
                go_simp
                try with_reducible rfl
              try simp only [Act.put, List.getElem_toArray, List.getElem_cons_zero, List.getElem_cons_succ, List.setIfInBounds_toArray, List.set_cons_zero, List.set_cons_succ]
              refine wpAnyH_take (i := 11) (v := ?_) rfl (by kernel_rfl) (by kernel_rfl) (by kernel_rfl) (fun _ _ _ h => h.elim) (Or.inl ⟨by rfl, ?_⟩) (by assumption) ?_
              rotate_left
              · intro wx hSw
                try dsimp only at hSw
                go_simp
                try with_reducible rfl
              try simp only [Act.put, List.getElem_toArray, List.getElem_cons_zero, List.getElem_cons_succ, List.setIfInBounds_toArray, List.set_cons_zero, List.set_cons_succ]
              refine wpAnyH_take (i := 12) (v := ?_) rfl (by kernel_rfl) (by kernel_rfl) (by kernel_rfl) (fun _ _ _ h => h.elim) (Or.inl ⟨by rfl, ?_⟩) (by assumption) ?_
              rotate_left
              · intro wx hSw
                try dsimp only at hSw
                go_simp
                try with_reducible rfl
              try simp only [Act.put, List.getElem_toArray, List.getElem_cons_zero, List.getElem_cons_succ, List.setIfInBounds_toArray, List.set_cons_zero, List.set_cons_succ]
              refine wpAnyH_take (i := 13) (v := ?_) rfl (by kernel_rfl) (by kernel_rfl) (by kernel_rfl) (fun _ _ _ h => h.elim) (Or.inl ⟨by rfl, ?_⟩) (by assumption) ?_
              rotate_left
              · intro wx hSw
                try dsimp only at hSw
                go_simp
                try with_reducible rfl
              try simp only [Act.put, List.getElem_toArray, List.getElem_cons_zero, List.getElem_cons_succ, List.setIfInBounds_toArray, List.set_cons_zero, List.set_cons_succ]
              refine wpAnyH_take (i := 14) (v := ?_) rfl (by kernel_rfl) (by kernel_rfl) (by kernel_rfl) (fun _ _ _ h => h.elim) (Or.inl ⟨by rfl, ?_⟩) (by assumption) ?_
              rotate_left
              · intro wx hSw
                try dsimp only at hSw
                go_simp
                try with_reducible rfl
              try simp only [Act.put, List.getElem_toArray, List.getElem_cons_zero, List.getElem_cons_succ, List.setIfInBounds_toArray, List.set_cons_zero, List.set_cons_succ]
              refine wpAnyH_take (i := 15) (v := ?_) rfl (by kernel_rfl) (by kernel_rfl) (by kernel_rfl) (fun _ _ _ h => h.elim) (Or.inl ⟨by rfl, ?_⟩) (by assumption) ?_
              rotate_left
              · intro wx hSw
                try dsimp only at hSw
                go_simp
                try with_reducible rfl
              try simp only [Act.put, List.getElem_toArray, List.getElem_cons_zero, List.getElem_cons_succ, List.setIfInBounds_toArray, List.set_cons_zero, List.set_cons_succ]
              refine wpAnyH_take (i := 16) (v := ?_) rfl (by kernel_rfl) (by kernel_rfl) (by kernel_rfl) (fun _ _ _ h => h.elim) (Or.inl ⟨by rfl, ?_⟩) (by assumption) ?_
              rotate_left
              · intro wx hSw
                try dsimp only at hSw
                go_simp
                try with_reducible rfl
              try simp only [Act.put, List.getElem_toArray, List.getElem_cons_zero, List.getElem_cons_succ, List.setIfInBounds_toArray, List.set_cons_zero, List.set_cons_succ]
              refine wpAnyH_ready (rs := [17]) (by kernel_rfl) (by simp) ?_
              refine AllReadyH.cons rfl (fun K hK => ?_) ?_
              · go_simp
                have HCe := hide (HC.out.upto ((box1 wb (.cells #[.int .i64 0, .int .i64 0] 41)).drew))
                refine hK.out _ _ ?_ (fun hHeld => ?_)
                · first | with_reducible exact HS.out _ _ HCd.out | with_reducible exact HS.out _ _ HCe.out | with_reducible exact HS.out _ _ HCf.out
                clear hK K
                try simp only [Act.put, List.getElem_toArray, List.getElem_cons_zero, List.getElem_cons_succ, List.setIfInBounds_toArray, List.set_cons_zero, List.set_cons_succ]
                refine wpAnyH_ready (rs := [18]) (by kernel_rfl) (by simp) ?_
                refine AllReadyH.cons rfl (fun K hK => ?_) ?_
                · go_simp
                  have HCf := hide (HC.out.upto ((box1 wb (.cells #[.int .i64 kx, .int .i64 ky] 41)).drew))
                  refine hK.out _ _ ?_ (fun hHeld => ?_)
                  · first | with_reducible exact HS.out _ _ HCd.out | with_reducible exact HS.out _ _ HCe.out | with_reducible exact HS.out _ _ HCf.out
                  clear hK K
                  try simp only [Act.put, List.getElem_toArray, List.getElem_cons_zero, List.getElem_cons_succ, List.setIfInBounds_toArray, List.set_cons_zero, List.set_cons_succ]
                  refine wpAnyH_done (by kernel_rfl) ?_ _
                  dsimp only [Only, Exit.then]
                  have BB : Below wb.heap.size wb (wb.alloc (.cells #[.int .i64 kx, .int .i64 ky] 41)).drew := (box1 wb (.cells #[.int .i64 kx, .int .i64 ky] 41)).drew
                  have HC1 := hide (HC.out.upto BB)
                  have HT1 : Hid (Two (wb.alloc (.cells #[.int .i64 kx, .int .i64 ky] 41)).drew wb.heap.size kx ky) := hide (show Two (wb.alloc (.cells #[.int .i64 kx, .int .i64 ky] 41)) wb.heap.size kx ky from Two.newAt rfl)
                  obtain ⟨Bc, hBc⟩ : ∃ Bc, wb.heap.size = Bc := ⟨_, rfl⟩
                  have Hbc : Hid (w.heap.size + 1 + 1 + 1 < Bc) := hide (by have := HC.out.nm.lt; omega)
                  obtain ⟨wn, hwn⟩ : ∃ wn, (wb.alloc (.cells #[.int .i64 kx, .int .i64 ky] 41)).drew = wn := ⟨_, rfl⟩
                  rw [hwn] at HC1 HT1
                  rw [hwn]
                  rw [hBc] at HT1
                  rw [hBc]
                  clear BB hBc hwn HC HCd hHeld HS hrem hrem2 hquo
                  go_wp2_with fail
                  go_loopw [9, 12] (fun tb d wr => ∃ (dd : Nat) (C : Nat → Int) (b : Bool), tb = .bool b ∧ d = .int .i64 (dd : Nat) ∧ dd ≤ 8 ∧ Cx w wr wd ht i (.slice a0 i cap0) fx fy C ∧ Bf wd ht i St tg C ∧ sC i C ≤ s0 ∧ (b = true → sC i C < s0) ∧ (b = false → (∀ i', i' < k → ∀ d, d < 8 → Fn wd ht i St C i' d) ∧ ∀ d, d < dd → Fn wd ht i St C k d) ∧ Two wr Bc kx ky) (fun _ d _ => 8 - (intOf d).toNat)
                  case atStart => exact ⟨0, C1, b1, rfl, rfl, by omega, HC1.out, HBf.out, Hle.out, Hlts.out, fun e => ⟨HFn.out e, fun d hd => by omega⟩, HT1.out⟩
                  case round =>
                    obtain ⟨dd, C, bb, rfl, rfl, hdd, hC, hBf, hle, hlts, hFn, hT⟩ := hrel
                    clear HC1 HT1 HBf Hle Hlts HFn
                    obtain ⟨ck, hck⟩ : ∃ ck, C k = ck := ⟨_, rfl⟩
                    have cu := hC.nm.c hkl
                    rw [hck] at cu
                    have HC := hide hC
                    have HBf := hide hBf
                    have Hle := hide hle
                    have Hlts := hide hlts
                    have HFn := hide hFn
                    have HT := hide hT
                    have Hck := hide hck
                    have hckb : ck ≤ 9800 := by rw [← hck]; have := hBf.le hkl; omega
                    clear hC hBf hle hlts hFn hT hck
                    by_cases hc0 : 0 ≤ ck
                    · by_cases hd8 : dd < 8
                      · have hdI : ((dd : Nat) : Int) < 8 := by omega
                        obtain ⟨r, hr⟩ : ∃ r, lg (gS wd ht St) kx ky (dd : Nat) = r := ⟨_, rfl⟩
                        obtain ⟨ox, hox⟩ : ∃ ox, (if r = true then sX kx ky (dd : Nat) else 0) = ox := ⟨_, rfl⟩
                        obtain ⟨oy, hoy⟩ : ∃ oy, (if r = true then sY kx ky (dd : Nat) else 0) = oy := ⟨_, rfl⟩
                        have HSp : Hid (∀ wx, Below w.heap.size w wx → Calls Tryd.prog 34 #[gdv wd ht (.slice a0 i cap0), cel kx ky, .int .i64 (dd : Nat)] wx fun e' w' => e' = .returned (.tuple #[cel ox oy, .bool r]) ∧ Below wx.heap.size wx w') := hide fun wx hx => by
                          have := HSt.out wx hx kx ky (dd : Nat)
                          rw [hr, hox, hoy] at this
                          exact this
                        have Hr := hide hr
                        have Hox := hide hox
                        have Hoy := hide hoy
                        obtain ⟨⟨g0, g1⟩, g2⟩ := HC.out.gb.c
                        obtain ⟨⟨y0, y1⟩, -, -⟩ := HT.out
                        clear hr hox hoy
                        go_wp2_with fail
                        refine (HSp.out _ HC.out.bl).mono ?_
                        rintro e' w5 ⟨rfl, hb5⟩
                        have B5 := bt hb5 (box1 w5 (.cells #[.int .i64 ox, .int .i64 oy] 41))
                        have HC5 := hide (HC.out.upto B5)
                        have HT5 := hide (HT.out.kept B5)
                        have b9 : Two (w5.alloc (.cells #[.int .i64 ox, .int .i64 oy] 41)) w5.heap.size ox oy := Two.newAt rfl
                        clear hb5 B5 HSp g0 g1 g2 y0 y1 cu HC HT
                        cases r
                        · have HF2 : Hid (bb = false → (∀ i', i' < k → ∀ d, d < 8 → Fn wd ht i St C i' d) ∧ ∀ d, d < dd + 1 → Fn wd ht i St C k d) := hide fun e => ⟨(HFn.out e).1, fun d hd => by
                            by_cases e2 : d = dd
                            · subst e2
                              intro _ k' _ hL
                              have h9 := hL.1
                              rw [Hkx.out, Hky.out, Hr.out] at h9
                              cases h9
                            · exact (HFn.out e).2 d (by omega)⟩
                          clear b9
                          go_wp2_with fail
                          go_roundw
                          case rel => exact ⟨dd + 1, C, bb, rfl, by go_num, by omega, HC5.out, HBf.out, Hle.out, Hlts.out, HF2.out, HT5.out⟩
                          case measure => simp [intOf]; omega
                        · have hlg := Hr.out
                          rw [← Hkx.out, ← Hky.out] at hlg
                          have hsk : St k = true := (HBf.out.cn k hkl (by rw [Hck.out]; exact hc0)).right
                          obtain ⟨j, hjN, hjn, hjs, hjc, hjx, hjy⟩ := lg_cn hwd HN.out hsk hkl hd8 hlg
                          rw [Hkx.out, Hky.out] at hjx hjy
                          have ex : ((j % wd : Nat) : Int) = ox := by rw [← Hox.out, if_pos rfl]; exact hjx.symm
                          have ey : ((j / wd : Nat) : Int) = oy := by rw [← Hoy.out, if_pos rfl]; exact hjy.symm
                          obtain ⟨z2, q1, q2, qx, qy⟩ := idx_wrap HN.out hN2 hjN ex ey
                          have hHj := Hhas.out j hjN
                          rw [ex, ey] at hHj
                          have HHj := hide hHj
                          have HLj : Hid (Lg wd ht St k dd j) := hide ⟨hlg, hjn⟩
                          have Hjc := hide hjc
                          have hone : ∀ j', nbr wd k j' dd → j' = j := fun j' hj' => idx_eq (wd := wd) (by have := hj'.1.trans hjn.1.symm; omega) (by have := hj'.2.trans hjn.2.symm; omega)
                          have Hone := hide hone
                          obtain ⟨co, hco⟩ : ∃ co, cst dd = co := ⟨_, rfl⟩
                          have hcoI : 10 ≤ co ∧ co ≤ 14 := by rw [← hco]; exact cst_pos dd
                          have HCo : Hid (∀ wx, Calls Tryd.prog 35 #[.int .i64 (dd : Nat)] wx fun e w' => e = .returned (.int .i64 co) ∧ w' = wx) := hide fun wx => by rw [← hco]; exact refcost_is dd hd8 wx
                          have Hco := hide hco
                          obtain ⟨⟨o0, o1⟩, -, -⟩ := id b9
                          obtain ⟨⟨r0, r1, r2, r3⟩, -, -⟩ := HC5.out.rc
                          have Hb9 := hide b9
                          clear hlg hjx hjy ex ey hHj hone hjn hjs hjc hco b9
                          go_wp2_with fail
                          refine (refhas_is _ HHj.out).mono ?_
                          rintro e' w6 ⟨rfl, hb6⟩
                          have HC6 := hide (HC5.out.upto hb6)
                          have HT6 := hide (HT5.out.kept hb6)
                          have Hb6 := hide (Hb9.out.kept hb6)
                          obtain ⟨⟨o2, o3⟩, -, -⟩ := Hb6.out
                          obtain ⟨⟨s4, s5, s6, s7⟩, -, -⟩ := HC6.out.rc
                          have ow : IntKind.i64.wrap oy = oy := by rw [IntKind.wrap_i64]; omega
                          have jw : IntKind.i64.wrap ((j : Nat) : Int) = (j : Nat) := wrap_nat (by omega)
                          have hjI : (0 : Int) ≤ (j : Nat) ∧ ((j : Nat) : Int) < (i : Nat) := by omega
                          clear hb6 o0 o1 r0 r1 r2 r3 HC5 HT5 Hb9
                          go_wp2_with fail
                          have cq : ∀ m : Lat w6, m.w.cell? ⟨w.heap.size + 1 + 1 + 1, k, none⟩ = some (.int .i64 ck) := fun m => by rw [← Hck.out]; exact (HC6.out.upto m.h).nm.c hkl
                          have hvw : IntKind.i64.wrap (ck + co) = ck + co := by rw [IntKind.wrap_i64]; omega
                          have hne := lat_some w6
                          clear o2 o3 s4 s5 s6 s7
                          refine wp_region_lat (by kernel_rfl) (by kernel_rfl) ?_
                          repeat (go_big_quiet_step (first | (go_at_call 35; exact calls_lat_same (HCo.out _))))
                          refine wpQuiet_nil ?_
                          rintro _ ⟨m, rfl⟩
                          have HCm := hide (HC6.out.upto m.h)
                          have HTm := hide (HT6.out.kept m.h)
                          obtain ⟨cj, hcj⟩ : ∃ cj, C j = cj := ⟨_, rfl⟩
                          have cu := HCm.out.nm.c hjN
                          rw [hcj] at cu
                          have fu := HCm.out.nm.fz j
                          have Hcj := hide hcj
                          clear cq hne HCo HC6 HT6 Hb6 hcj
                          by_cases hj0 : cj < 0
                          · have HCn := hide ((HCm.out.set hjN (ck + co)).congr (C' := fun m => if m = j then C k + cst dd else C m) (fun m _ => by rw [Hck.out, Hco.out]))
                            have HBn : Hid (Bf wd ht i St tg (fun m => if m = j then C k + cst dd else C m)) := hide (HBf.out.turn hkl hjN hd8 HLj.out Hjc.out (by rw [Hck.out]; exact hc0) (.inl (by rw [Hcj.out]; exact hj0)))
                            have HSn : Hid (sC i (fun m => if m = j then C k + cst dd else C m) < s0) := hide (Nat.lt_of_lt_of_le (sC_set hjN (by rw [Hck.out, Hco.out]; omega) (by rw [Hck.out, Hco.out]; omega) (.inl (by rw [Hcj.out]; exact hj0))) Hle.out)
                            have HTn := hide (HTm.out.past (k := w.heap.size + 1 + 1 + 1) (o := j) (s := .int .i64 (ck + co)) (by have := Hbc.out; omega))
                            clear HCm HTm
                            go_wp2_with fail
                            go_roundw
                            case rel => exact ⟨dd + 1, _, true, rfl, by go_num, by omega, HCn.out, HBn.out, Nat.le_of_lt HSn.out, fun _ => HSn.out, (fun e => by cases e), HTn.out⟩
                            case measure => simp [intOf]; omega
                          · by_cases hjv : ck + co < cj
                            · have HCn := hide ((HCm.out.set hjN (ck + co)).congr (C' := fun m => if m = j then C k + cst dd else C m) (fun m _ => by rw [Hck.out, Hco.out]))
                              have HBn : Hid (Bf wd ht i St tg (fun m => if m = j then C k + cst dd else C m)) := hide (HBf.out.turn hkl hjN hd8 HLj.out Hjc.out (by rw [Hck.out]; exact hc0) (.inr (by rw [Hcj.out, Hck.out, Hco.out]; exact hjv)))
                              have HSn : Hid (sC i (fun m => if m = j then C k + cst dd else C m) < s0) := hide (Nat.lt_of_lt_of_le (sC_set hjN (by rw [Hck.out, Hco.out]; omega) (by rw [Hck.out, Hco.out]; omega) (.inr (by rw [Hcj.out, Hck.out, Hco.out]; exact hjv))) Hle.out)
                              have HTn := hide (HTm.out.past (k := w.heap.size + 1 + 1 + 1) (o := j) (s := .int .i64 (ck + co)) (by have := Hbc.out; omega))
                              clear HCm HTm
                              go_wp2_with fail
                              go_roundw
                              case rel => exact ⟨dd + 1, _, true, rfl, by go_num, by omega, HCn.out, HBn.out, Nat.le_of_lt HSn.out, fun _ => HSn.out, (fun e => by cases e), HTn.out⟩
                              case measure => simp [intOf]; omega
                            · have HF2 : Hid (bb = false → (∀ i', i' < k → ∀ d, d < 8 → Fn wd ht i St C i' d) ∧ ∀ d, d < dd + 1 → Fn wd ht i St C k d) := hide fun e => ⟨(HFn.out e).1, fun d hd => by
                                by_cases e2 : d = dd
                                · subst e2
                                  intro _ k' hk' hL
                                  rw [Hone.out k' hL.2, Hcj.out, Hck.out, Hco.out]
                                  omega
                                · exact (HFn.out e).2 d (by omega)⟩
                              go_wp2_with fail
                              go_roundw
                              case rel => exact ⟨dd + 1, C, bb, rfl, by go_num, by omega, HCm.out, HBf.out, Hle.out, Hlts.out, HF2.out, HTm.out⟩
                              case measure => simp [intOf]; omega
                      · have hdI : ¬ ((dd : Nat) : Int) < 8 := by omega
                        have hde : dd = 8 := by omega
                        subst hde
                        have HF2 : Hid (bb = false → ∀ i', i' < k + 1 → ∀ d, d < 8 → Fn wd ht i St C i' d) := hide fun e i' hi' d hd => by
                          by_cases e2 : i' = k
                          · subst e2; exact (HFn.out e).2 d hd
                          · exact (HFn.out e).1 i' (by omega) d hd
                        go_wp2_with fail
                        go_roundw
                        case rel => exact ⟨k + 1, C, bb, rfl, by go_num, by omega, HC.out, HBf.out, Hle.out, Hlts.out, HF2.out⟩
                        case measure => simp [intOf]; omega
                    · have HF2 : Hid (bb = false → ∀ i', i' < k + 1 → ∀ d, d < 8 → Fn wd ht i St C i' d) := hide fun e i' hi' d hd => by
                        by_cases e2 : i' = k
                        · subst e2; intro h9; rw [Hck.out] at h9; exact absurd h9 hc0
                        · exact (HFn.out e).1 i' (by omega) d hd
                      go_wp2_with fail
                      go_roundw
                      case rel => exact ⟨k + 1, C, bb, rfl, by go_num, by omega, HC.out, HBf.out, Hle.out, Hlts.out, HF2.out⟩
                      case measure => simp [intOf]; omega
                  
                exact AllReadyH.nil
              exact AllReadyH.nil
            · have hkI : ¬ ((k : Nat) : Int) < (i : Nat) := by omega
              have hke : k = i := by omega
              subst hke
              have HC := hide hC
              have HBf := hide hBf
              have HFn := hide hFn
              have Hm : Hid (b1 = true → sC k C1 < s0) := hide hlts
              have Hl := hide hle
              have Hsw := hide (sW_of hC.nm)
              clear hC hBf hle hlts hFn
              go_wp2_with fail
              go_roundw
              case rel => exact ⟨C1, b1, rfl, HC.out, HBf.out, HFn.out⟩
              case measure =>
                rw [Hsw.out, Hs0.out]
                cases b1
                · have := Hl.out; simp only [flag]; omega
                · have := Hm.out rfl; simp only [flag]; omega
end Go.Proofs.YtoheibfijpdmfaaDoor
set_option linter.unusedSimpArgs false
namespace Go.Proofs.YtoheibfijpdmfaaDoor
open Go.RowKit Go.Shelf
set_option linter.unusedSectionVars false
variable [DecCn : ∀ (St : Nat → Bool) (Ad : Nat → Nat → Prop) (k i : Nat), Decidable (Cn St Ad k i)]
set_option linter.unusedVariables false
def bkN (d : Nat) : Nat := match d with
  | 0 => 2 | 1 => 3 | 2 => 0 | 3 => 1 | 4 => 6 | 5 => 7 | 6 => 4 | 7 => 5 | _ => 0
theorem bkN_lt (d : Nat) : bkN d < 8 := by unfold bkN; split <;> omega
theorem bkN_dir {d : Nat} (hd : d < 8) : dX (bkN d) = - dX d ∧ dY (bkN d) = - dY d ∧ cst (bkN d) = cst d ∧ oc ((bkN d : Nat) : Int) = oc (d : Nat) := by
  match d, hd with
  | 0, _ => decide
  | 1, _ => decide
  | 2, _ => decide
  | 3, _ => decide
  | 4, _ => decide
  | 5, _ => decide
  | 6, _ => decide
  | 7, _ => decide
/-- A legal step may be gone back. -/
theorem Lg.back {wd ht N : Nat} {St : Nat → Bool} (hwd : (1 ≤ wd ∧ wd ≤ 128) ∧ 1 ≤ ht ∧ ht ≤ 128) (hN : N = wd * ht) {i d k : Nat} (hi : i < N) (hk : k < N) (hd : d < 8) (h : Lg wd ht St i d k) : Lg wd ht St k (bkN d) i := by
  obtain ⟨b1, b2, -, b4⟩ := bkN_dir hd
  obtain ⟨hl, hn⟩ := h
  have hn' : nbr wd k i (bkN d) := by
    obtain ⟨h1, h2⟩ := hn
    refine ⟨?_, ?_⟩
    · rw [b1]; omega
    · rw [b2]; omega
  refine ⟨?_, hn'⟩
  obtain ⟨n1, n2, n3⟩ := step_near hwd (by rw [← hN]; exact hi) (a := i) hd
  obtain ⟨m1, m2, m3⟩ := step_near hwd (by rw [← hN]; exact hk) (a := k) (bkN_lt d)
  have e2 := n2.trans hn.1.symm
  have e3 := n3.trans hn.2.symm
  have f2 := m2.trans hn'.1.symm
  have f3 := m3.trans hn'.2.symm
  have g1 := hn.1
  have g2 := hn.2
  have g1' := hn'.1
  have g2' := hn'.2
  simp only [lg, Bool.and_eq_true] at hl
  obtain ⟨-, s1, s2, s3⟩ := hl
  rw [e2, e3] at s2
  simp only [lg, m1, f2, f3, s1, s2, Bool.true_and]
  cases ho : oc ((d : Nat) : Int) with
  | false =>
    have : siB ((k % wd : Nat) : Int) ((k / wd : Nat) : Int) ((bkN d : Nat) : Int) = false := by simp [siB, b4, ho]
    rw [this]; rfl
  | true =>
    have hs1 : siB ((i % wd : Nat) : Int) ((i / wd : Nat) : Int) ((d : Nat) : Int) = true := by unfold siB; rw [n1, ho]; rfl
    have hs2 : siB ((k % wd : Nat) : Int) ((k / wd : Nat) : Int) ((bkN d : Nat) : Int) = true := by unfold siB; rw [m1, b4, ho]; rfl
    rw [hs1] at s3
    simp only [Bool.not_true, Bool.false_or, Bool.and_eq_true, siX, si0, siY, hs1, if_true, Int.toNat_natCast, ← g1, ← g2] at s3
    rw [hs2]
    simp only [Bool.not_true, Bool.false_or, Bool.and_eq_true, siX, si0, siY, hs2, if_true, Int.toNat_natCast, ← g1', ← g2']
    exact ⟨s3.2, s3.1⟩
/-- From a cell with a number, other than the target, some step leads nearer by just what it costs. -/
theorem Bf.down {wd ht N : Nat} {St : Nat → Bool} {tg : Nat} {C : Nat → Int} (hwd : (1 ≤ wd ∧ wd ≤ 128) ∧ 1 ≤ ht ∧ ht ≤ 128) (hN : N = wd * ht) (h : Bf wd ht N St tg C) (hf : ∀ i, i < N → ∀ d, d < 8 → Fn wd ht N St C i d) {c : Nat} (hc : c < N) (h0 : 0 ≤ C c) (hne : c ≠ tg) :
    ∃ d n, d < 8 ∧ n < N ∧ Lg wd ht St c d n ∧ 0 ≤ C n ∧ C n + cst d = C c := by
  obtain ⟨j, d, hj, hd, hL, hj0, hle⟩ := h.pr c hc h0 hne
  have hu := (hf j hj d hd hj0 c hc hL).2
  obtain ⟨-, -, b3, -⟩ := bkN_dir hd
  exact ⟨bkN d, j, bkN_lt d, hj, hL.back hwd hN hj hc hd, hj0, by rw [b3]; omega⟩
set_option maxHeartbeats 1000000 in
/-- A number of the list by its cell. -/
theorem rat_is {w : World} {wd ht N b j : Nat} {C : Nat → Int} (h : Nmz w b N C) (hw : wd ≤ 128 ∧ ht ≤ 128) (hN : N = wd * ht) (hN2 : N ≤ 16384) (hj : j < N) {x y : Int} (hx : ((j % wd : Nat) : Int) = x) (hy : ((j / wd : Nat) : Int) = y) : Calls Tryd.prog 33 #[sl b N, rct 0 0 wd ht, cel x y] w fun e w' => e = .returned (.int .i64 (C j)) ∧ Below w.heap.size w w' := by
  obtain ⟨z, e1, e2, hxb, hyb⟩ := idx_wrap hN hN2 hj hx hy
  have hcell := h.c hj
  have hbl := h.lt
  have hjI : ¬ ((N : Nat) : Int) ≤ ((j : Nat) : Int) := by omega
  have e0 : IntKind.i64.wrap ((j : Nat) : Int) = ((j : Nat) : Int) := wrap_nat (by omega)
  have ey : IntKind.i64.wrap y = y := wrap_id (by omega) (by omega)
  clear hN
  go_enter Tryd.func33, Tryd.ntmps33
  go_wp2
  go_ret
  exact ⟨rfl, box2 _ _ _⟩
end Go.Proofs.YtoheibfijpdmfaaDoor
set_option linter.unusedSimpArgs false
namespace Go.Proofs.YtoheibfijpdmfaaDoor
open Go.RowKit Go.Shelf
set_option linter.unusedSectionVars false
variable [DecCn : ∀ (St : Nat → Bool) (Ad : Nat → Nat → Prop) (k i : Nat), Decidable (Cn St Ad k i)]
set_option linter.unusedVariables false
/-- In block B lies a path: how it ended, its cells. -/
def Pb (w : World) (B : Nat) (k : Int) (v : Value) : Prop := w.heap[B]? = some (.cells #[.int .i64 k, v] 49 (0, 0))
section
variable {w w' : World} {B : Nat} {k : Int} {v : Value}
theorem Pb.lt (h : Pb w B k v) : B < w.heap.size := (Array.getElem?_eq_some_iff.1 h).1
theorem Pb.upto (h : Pb w B k v) (hb : Below w.heap.size w w') : Pb w' B k v := (hb.block B h.lt).trans h
theorem Pb.kept {S : Nat → Prop} (h : Pb w B k v) (ht' : Turns S w w') (hs : ¬ S B) : Pb w' B k v := ht'.same hs h
theorem Pb.c (h : Pb w B k v) : w.cell? ⟨B, 0, none⟩ = some (.int .i64 k) ∧ w.cell? ⟨B, 1, none⟩ = some v := ⟨cell_of_row w B 0 _ _ _ h, cell_of_row w B 1 _ _ _ h⟩
theorem Pb.fz (h : Pb w B k v) (j : Nat) : w.frozen? ⟨B, j, none⟩ = false := by
  have h' : w.heap[B]? = _ := h
  simp [World.frozen?, h']
theorem Pb.set (h : Pb w B k v) (u : Value) : Pb (w.setCell ⟨B, 1, none⟩ u) B k u := by
  have h' : w.heap[B]? = _ := h
  unfold Pb
  simp [World.setCell, Array.getElem?_modify, h']
theorem Pb.all (h : Pb w B k v) (j : Int) (u : Value) : Pb ((w.setCell ⟨B, 0, none⟩ (.int .i64 j)).setCell ⟨B, 1, none⟩ u) B j u := by
  have h' : w.heap[B]? = _ := h
  unfold Pb
  simp [World.setCell, Array.getElem?_modify, h']
theorem Pb.new (w : World) (k : Int) (v : Value) : Pb (w.alloc (.cells #[.int .i64 k, v] 49)) w.heap.size k v := heap_alloc_new w _
end
/-- What Find keeps. -/
structure Fx (w W : World) (wd ht : Nat) (iv : Value) (ax ay cx cy : Int) : Prop where
  gb : GB W w.heap.size wd ht iv
  fa : Two W (w.heap.size + 1) ax ay
  fb : Two W (w.heap.size + 1 + 1) cx cy
  rc : Four W (w.heap.size + 1 + 1 + 1) 0 0 wd ht
  res : Pb W (w.heap.size + 1 + 1 + 1 + 1) 0 (.slice none 0 0)
  no : Pb W (w.heap.size + 1 + 1 + 1 + 1 + 1) 2 (.slice none 0 0)
  bl : Below w.heap.size w W
theorem Fx.upto {w W W' : World} {wd ht : Nat} {iv : Value} {ax ay cx cy : Int} (h : Fx w W wd ht iv ax ay cx cy) (hb : Below W.heap.size W W') : Fx w W' wd ht iv ax ay cx cy :=
  ⟨h.gb.upto hb, h.fa.kept hb, h.fb.kept hb, h.rc.kept hb, h.res.upto hb, h.no.upto hb, bt h.bl hb⟩
-- GEN
theorem Fx.new (w : World) (wd ht : Nat) (iv : Value) (ax ay cx cy : Int) : Fx w ((((((w.alloc (.cells #[.int .i64 (wd : Nat), .int .i64 (ht : Nat), iv] 45)).alloc (.cells #[.int .i64 ax, .int .i64 ay] 41)).alloc (.cells #[.int .i64 cx, .int .i64 cy] 41)).alloc (.cells #[.int .i64 0, .int .i64 0, .int .i64 (wd : Nat), .int .i64 (ht : Nat)] 53)).alloc (.cells #[.int .i64 0, .slice none 0 0] 49)).alloc (.cells #[.int .i64 2, .slice none 0 0] 49)) wd ht iv ax ay cx cy := by
  have f0 : Four ((((w.alloc (.cells #[.int .i64 (wd : Nat), .int .i64 (ht : Nat), iv] 45)).alloc (.cells #[.int .i64 ax, .int .i64 ay] 41)).alloc (.cells #[.int .i64 cx, .int .i64 cy] 41)).alloc (.cells #[.int .i64 0, .int .i64 0, .int .i64 (wd : Nat), .int .i64 (ht : Nat)] 53)) (((w.alloc (.cells #[.int .i64 (wd : Nat), .int .i64 (ht : Nat), iv] 45)).alloc (.cells #[.int .i64 ax, .int .i64 ay] 41)).alloc (.cells #[.int .i64 cx, .int .i64 cy] 41)).heap.size 0 0 wd ht := cells4 (Below.refl _ _)
  rw [World.size_alloc, World.size_alloc, World.size_alloc] at f0
  have r0 := Pb.new ((((w.alloc (.cells #[.int .i64 (wd : Nat), .int .i64 (ht : Nat), iv] 45)).alloc (.cells #[.int .i64 ax, .int .i64 ay] 41)).alloc (.cells #[.int .i64 cx, .int .i64 cy] 41)).alloc (.cells #[.int .i64 0, .int .i64 0, .int .i64 (wd : Nat), .int .i64 (ht : Nat)] 53)) 0 (.slice none 0 0)
  rw [World.size_alloc, World.size_alloc, World.size_alloc, World.size_alloc] at r0
  have n0 := Pb.new (((((w.alloc (.cells #[.int .i64 (wd : Nat), .int .i64 (ht : Nat), iv] 45)).alloc (.cells #[.int .i64 ax, .int .i64 ay] 41)).alloc (.cells #[.int .i64 cx, .int .i64 cy] 41)).alloc (.cells #[.int .i64 0, .int .i64 0, .int .i64 (wd : Nat), .int .i64 (ht : Nat)] 53)).alloc (.cells #[.int .i64 0, .slice none 0 0] 49)) 2 (.slice none 0 0)
  rw [World.size_alloc, World.size_alloc, World.size_alloc, World.size_alloc, World.size_alloc] at n0
  refine ⟨((GB.new w wd ht iv).upto (box1 _ _)).upto (bt (box2 _ _ _) (box2 _ _ _)), ?_, ?_, f0.kept (box2 _ _ _), r0.upto (box1 _ _), n0, bt (bt (box2 _ _ _) (box2 _ _ _)) (box2 _ _ _)⟩
  · exact ((((Two.newAt (by simp)).alloc).alloc).alloc).alloc
  · exact (((Two.newAt (by simp)).alloc).alloc).alloc
theorem meet_self {wd ht : Nat} (hw : (1 ≤ wd ∧ wd ≤ 128) ∧ 1 ≤ ht ∧ ht ≤ 128) (w : World) : Calls Tryd.prog 31 #[rct 0 0 wd ht, rct 0 0 wd ht] w fun e w' => e = .returned (.tuple #[rct 0 0 wd ht, .bool true]) ∧ Below w.heap.size w w' := by
  have hm : may 0 0 (wd : Int) (ht : Int) = true := by rw [may_iff]; omega
  have hB : mtB 0 0 (wd : Int) (ht : Int) 0 0 (wd : Int) (ht : Int) = true := by
    rw [mtB_eq hm hm]; simp; omega
  have hV : mtV 0 0 (wd : Int) (ht : Int) 0 0 (wd : Int) (ht : Int) = rct 0 0 wd ht := by
    rw [mtV_yes hB, span]
    simp [rct]
  have := refmeet_any 0 0 (wd : Int) (ht : Int) 0 0 (wd : Int) (ht : Int) w
  rwa [hB, hV] at this
set_option maxRecDepth 100000 in
set_option maxHeartbeats 4000000 in
theorem find_out1 {w : World} {wd ht N : Nat} {St : Nat → Bool} {iv : Value} {ax ay cx cy : Int} (h : Gd w wd ht N St iv) (hwd : (1 ≤ wd ∧ wd ≤ 128) ∧ 1 ≤ ht ∧ ht ≤ 128) (hN : N = wd * ht) (ha : has 0 0 (wd : Int) (ht : Int) ax ay = false) :
    Calls Tryd.prog 12 #[gdv wd ht iv, cel ax ay, cel cx cy, rct 0 0 wd ht] w fun e w' => e = .returned (.tuple #[.agg #[.int .i64 2, .slice none 0 0], .int .i64 0]) ∧ Below w.heap.size w w' := by
  have hw : wd ≤ 128 ∧ ht ≤ 128 := ⟨hwd.1.2, hwd.2.2⟩
  have HM : Hid (may 0 0 (wd : Int) (ht : Int) = true) := hide (by rw [may_iff]; omega)
  have HMt : Hid (∀ wx, Calls Tryd.prog 31 #[rct 0 0 wd ht, rct 0 0 wd ht] wx fun e w' => e = .returned (.tuple #[rct 0 0 wd ht, .bool true]) ∧ Below wx.heap.size wx w') := hide fun wx => meet_self hwd wx
  have HGd : Hid (∀ wx, Below w.heap.size w wx → Gd wx wd ht N St iv) := hide fun wx hx => h.upto hx
  obtain ⟨a0, cap0, hiv, -⟩ := h.form
  subst hiv
  have HSt : Hid (∀ wx, Below w.heap.size w wx → ∀ x y c, gS wd ht St x y = c → Calls Tryd.prog 15 #[gdv wd ht (.slice a0 N cap0), cel x y] wx fun e w' => e = .returned (.bool c) ∧ Below wx.heap.size wx w') := hide fun wx hx x y c hc => by
    have := gstands_any x y (HGd.out wx hx) hw hN
    rwa [hc] at this
  obtain ⟨X, hX⟩ : ∃ X, ((((((w.alloc (.cells #[.int .i64 (wd : Nat), .int .i64 (ht : Nat), .slice a0 N cap0] 45)).alloc (.cells #[.int .i64 ax, .int .i64 ay] 41)).alloc (.cells #[.int .i64 cx, .int .i64 cy] 41)).alloc (.cells #[.int .i64 0, .int .i64 0, .int .i64 (wd : Nat), .int .i64 (ht : Nat)] 53)).alloc (.cells #[.int .i64 0, .slice none 0 0] 49)).alloc (.cells #[.int .i64 2, .slice none 0 0] 49)) = X := ⟨_, rfl⟩
  have F0 : Hid (Fx w X wd ht (.slice a0 N cap0) ax ay cx cy) := hide (hX ▸ Fx.new w wd ht _ ax ay cx cy)
  have HX := hide hX
  have HN := hide hN
  clear hX hN h
  have HA := hide ha
  clear ha
  go_enter Tryd.func12, Tryd.ntmps12
  go_wp2_with fail
  rw [HX.out]
  refine (refmayr_is _ HM.out).mono ?_
  rintro e w1 ⟨rfl, hb1⟩
  have F1 := hide (F0.out.upto hb1)
  obtain ⟨⟨a10, a11⟩, -, -⟩ := F1.out.fa
  obtain ⟨⟨r10, r11, r12, r13⟩, -, -⟩ := F1.out.rc
  clear hb1 F0 
  go_wp2_with fail
  refine (refhas_is _ HA.out).mono ?_
  rintro e w2 ⟨rfl, hb2⟩
  have F2 := hide (F1.out.upto hb2)
  obtain ⟨n20, n21⟩ := F2.out.no.c
  obtain ⟨s20, s21⟩ := F2.out.res.c
  have z20 := F2.out.res.fz 0
  have z21 := F2.out.res.fz 1
  clear hb2 F1 a10 a11 r10 r11 r12 r13 
  go_wp2_with fail
  refine bodyPost_ret (v := .tuple #[.agg #[.int .i64 2, .slice none 0 0], .int .i64 0]) (by simp [results, Tryd.results12, go_sem, s20, s21, n20, n21]) rfl ⟨rfl, ?_⟩
  exact set2 F2.out.bl (by simp; omega) (by simp; omega)
set_option maxRecDepth 100000 in
set_option maxHeartbeats 4000000 in
theorem find_out2 {w : World} {wd ht N : Nat} {St : Nat → Bool} {iv : Value} {ax ay cx cy : Int} (h : Gd w wd ht N St iv) (hwd : (1 ≤ wd ∧ wd ≤ 128) ∧ 1 ≤ ht ∧ ht ≤ 128) (hN : N = wd * ht) (ha : has 0 0 (wd : Int) (ht : Int) ax ay = true) (hc : has 0 0 (wd : Int) (ht : Int) cx cy = false) :
    Calls Tryd.prog 12 #[gdv wd ht iv, cel ax ay, cel cx cy, rct 0 0 wd ht] w fun e w' => e = .returned (.tuple #[.agg #[.int .i64 2, .slice none 0 0], .int .i64 0]) ∧ Below w.heap.size w w' := by
  have hw : wd ≤ 128 ∧ ht ≤ 128 := ⟨hwd.1.2, hwd.2.2⟩
  have HM : Hid (may 0 0 (wd : Int) (ht : Int) = true) := hide (by rw [may_iff]; omega)
  have HMt : Hid (∀ wx, Calls Tryd.prog 31 #[rct 0 0 wd ht, rct 0 0 wd ht] wx fun e w' => e = .returned (.tuple #[rct 0 0 wd ht, .bool true]) ∧ Below wx.heap.size wx w') := hide fun wx => meet_self hwd wx
  have HGd : Hid (∀ wx, Below w.heap.size w wx → Gd wx wd ht N St iv) := hide fun wx hx => h.upto hx
  obtain ⟨a0, cap0, hiv, -⟩ := h.form
  subst hiv
  have HSt : Hid (∀ wx, Below w.heap.size w wx → ∀ x y c, gS wd ht St x y = c → Calls Tryd.prog 15 #[gdv wd ht (.slice a0 N cap0), cel x y] wx fun e w' => e = .returned (.bool c) ∧ Below wx.heap.size wx w') := hide fun wx hx x y c hc => by
    have := gstands_any x y (HGd.out wx hx) hw hN
    rwa [hc] at this
  obtain ⟨X, hX⟩ : ∃ X, ((((((w.alloc (.cells #[.int .i64 (wd : Nat), .int .i64 (ht : Nat), .slice a0 N cap0] 45)).alloc (.cells #[.int .i64 ax, .int .i64 ay] 41)).alloc (.cells #[.int .i64 cx, .int .i64 cy] 41)).alloc (.cells #[.int .i64 0, .int .i64 0, .int .i64 (wd : Nat), .int .i64 (ht : Nat)] 53)).alloc (.cells #[.int .i64 0, .slice none 0 0] 49)).alloc (.cells #[.int .i64 2, .slice none 0 0] 49)) = X := ⟨_, rfl⟩
  have F0 : Hid (Fx w X wd ht (.slice a0 N cap0) ax ay cx cy) := hide (hX ▸ Fx.new w wd ht _ ax ay cx cy)
  have HX := hide hX
  have HN := hide hN
  clear hX hN h
  have HA := hide ha
  have HC := hide hc
  clear ha hc
  go_enter Tryd.func12, Tryd.ntmps12
  go_wp2_with fail
  rw [HX.out]
  refine (refmayr_is _ HM.out).mono ?_
  rintro e w1 ⟨rfl, hb1⟩
  have F1 := hide (F0.out.upto hb1)
  obtain ⟨⟨a10, a11⟩, -, -⟩ := F1.out.fa
  obtain ⟨⟨r10, r11, r12, r13⟩, -, -⟩ := F1.out.rc
  clear hb1 F0 
  go_wp2_with fail
  refine (refhas_is _ HA.out).mono ?_
  rintro e w2 ⟨rfl, hb2⟩
  have F2 := hide (F1.out.upto hb2)
  obtain ⟨⟨c20, c21⟩, -, -⟩ := F2.out.fb
  obtain ⟨⟨r20, r21, r22, r23⟩, -, -⟩ := F2.out.rc
  clear hb2 F1 a10 a11 r10 r11 r12 r13 
  go_wp2_with fail
  refine (refhas_is _ HC.out).mono ?_
  rintro e w3 ⟨rfl, hb3⟩
  have F3 := hide (F2.out.upto hb3)
  obtain ⟨n30, n31⟩ := F3.out.no.c
  obtain ⟨s30, s31⟩ := F3.out.res.c
  have z30 := F3.out.res.fz 0
  have z31 := F3.out.res.fz 1
  clear hb3 F2 c20 c21 r20 r21 r22 r23 
  go_wp2_with fail
  refine bodyPost_ret (v := .tuple #[.agg #[.int .i64 2, .slice none 0 0], .int .i64 0]) (by simp [results, Tryd.results12, go_sem, s30, s31, n30, n31]) rfl ⟨rfl, ?_⟩
  exact set2 F3.out.bl (by simp; omega) (by simp; omega)
set_option maxRecDepth 100000 in
set_option maxHeartbeats 4000000 in
theorem find_no1 {w : World} {wd ht N : Nat} {St : Nat → Bool} {iv : Value} {ax ay cx cy : Int} (h : Gd w wd ht N St iv) (hwd : (1 ≤ wd ∧ wd ≤ 128) ∧ 1 ≤ ht ∧ ht ≤ 128) (hN : N = wd * ht) (ha : has 0 0 (wd : Int) (ht : Int) ax ay = true) (hc : has 0 0 (wd : Int) (ht : Int) cx cy = true) (ha2 : gS wd ht St ax ay = false) :
    Calls Tryd.prog 12 #[gdv wd ht iv, cel ax ay, cel cx cy, rct 0 0 wd ht] w fun e w' => e = .returned (.tuple #[.agg #[.int .i64 2, .slice none 0 0], .int .i64 0]) ∧ Below w.heap.size w w' := by
  have hw : wd ≤ 128 ∧ ht ≤ 128 := ⟨hwd.1.2, hwd.2.2⟩
  have HM : Hid (may 0 0 (wd : Int) (ht : Int) = true) := hide (by rw [may_iff]; omega)
  have HMt : Hid (∀ wx, Calls Tryd.prog 31 #[rct 0 0 wd ht, rct 0 0 wd ht] wx fun e w' => e = .returned (.tuple #[rct 0 0 wd ht, .bool true]) ∧ Below wx.heap.size wx w') := hide fun wx => meet_self hwd wx
  have HGd : Hid (∀ wx, Below w.heap.size w wx → Gd wx wd ht N St iv) := hide fun wx hx => h.upto hx
  obtain ⟨a0, cap0, hiv, -⟩ := h.form
  subst hiv
  have HSt : Hid (∀ wx, Below w.heap.size w wx → ∀ x y c, gS wd ht St x y = c → Calls Tryd.prog 15 #[gdv wd ht (.slice a0 N cap0), cel x y] wx fun e w' => e = .returned (.bool c) ∧ Below wx.heap.size wx w') := hide fun wx hx x y c hc => by
    have := gstands_any x y (HGd.out wx hx) hw hN
    rwa [hc] at this
  obtain ⟨X, hX⟩ : ∃ X, ((((((w.alloc (.cells #[.int .i64 (wd : Nat), .int .i64 (ht : Nat), .slice a0 N cap0] 45)).alloc (.cells #[.int .i64 ax, .int .i64 ay] 41)).alloc (.cells #[.int .i64 cx, .int .i64 cy] 41)).alloc (.cells #[.int .i64 0, .int .i64 0, .int .i64 (wd : Nat), .int .i64 (ht : Nat)] 53)).alloc (.cells #[.int .i64 0, .slice none 0 0] 49)).alloc (.cells #[.int .i64 2, .slice none 0 0] 49)) = X := ⟨_, rfl⟩
  have F0 : Hid (Fx w X wd ht (.slice a0 N cap0) ax ay cx cy) := hide (hX ▸ Fx.new w wd ht _ ax ay cx cy)
  have HX := hide hX
  have HN := hide hN
  clear hX hN h
  have HA := hide ha
  have HC := hide hc
  have HA2 := hide ha2
  clear ha hc ha2
  go_enter Tryd.func12, Tryd.ntmps12
  go_wp2_with fail
  rw [HX.out]
  refine (refmayr_is _ HM.out).mono ?_
  rintro e w1 ⟨rfl, hb1⟩
  have F1 := hide (F0.out.upto hb1)
  obtain ⟨⟨a10, a11⟩, -, -⟩ := F1.out.fa
  obtain ⟨⟨r10, r11, r12, r13⟩, -, -⟩ := F1.out.rc
  clear hb1 F0 
  go_wp2_with fail
  refine (refhas_is _ HA.out).mono ?_
  rintro e w2 ⟨rfl, hb2⟩
  have F2 := hide (F1.out.upto hb2)
  obtain ⟨⟨c20, c21⟩, -, -⟩ := F2.out.fb
  obtain ⟨⟨r20, r21, r22, r23⟩, -, -⟩ := F2.out.rc
  clear hb2 F1 a10 a11 r10 r11 r12 r13 
  go_wp2_with fail
  refine (refhas_is _ HC.out).mono ?_
  rintro e w3 ⟨rfl, hb3⟩
  have F3 := hide (F2.out.upto hb3)
  obtain ⟨⟨r30, r31, r32, r33⟩, -, -⟩ := F3.out.rc
  obtain ⟨⟨g30, g31⟩, g32⟩ := F3.out.gb.c
  clear hb3 F2 c20 c21 r20 r21 r22 r23 
  go_wp2_with fail
  refine (HMt.out _).mono ?_
  rintro e w4 ⟨rfl, hb4⟩
  have F4 := hide ((F3.out.upto hb4).upto (box1 w4 (.cells #[.int .i64 0, .int .i64 0, .int .i64 (wd : Nat), .int .i64 (ht : Nat)] 53)))
  have F4r : Hid (Four (w4.alloc (.cells #[.int .i64 0, .int .i64 0, .int .i64 (wd : Nat), .int .i64 (ht : Nat)] 53)) w4.heap.size 0 0 wd ht) := hide (cells4 (Below.refl _ _))
  have hs4 : Hid (w.heap.size + 1 + 1 + 1 + 1 + 1 < w4.heap.size) := hide ((F3.out.upto hb4).no.lt)
  obtain ⟨⟨g40, g41⟩, g42⟩ := F4.out.gb.c
  obtain ⟨⟨a40, a41⟩, -, -⟩ := F4.out.fa
  clear hb4 F3 r30 r31 r32 r33 g30 g31 g32 
  go_wp2_with fail
  refine (HSt.out _ F4.out.bl _ _ _ HA2.out).mono ?_
  rintro e w5 ⟨rfl, hb5⟩
  have F5 := hide (F4.out.upto hb5)
  obtain ⟨n50, n51⟩ := F5.out.no.c
  obtain ⟨s50, s51⟩ := F5.out.res.c
  have z50 := F5.out.res.fz 0
  have z51 := F5.out.res.fz 1
  clear hb5 F4 g40 g41 g42 a40 a41  F4r hs4
  go_wp2_with fail
  refine bodyPost_ret (v := .tuple #[.agg #[.int .i64 2, .slice none 0 0], .int .i64 0]) (by simp [results, Tryd.results12, go_sem, s50, s51, n50, n51]) rfl ⟨rfl, ?_⟩
  exact set2 F5.out.bl (by simp; omega) (by simp; omega)
set_option maxRecDepth 100000 in
set_option maxHeartbeats 4000000 in
theorem find_no2 {w : World} {wd ht N : Nat} {St : Nat → Bool} {iv : Value} {ax ay cx cy : Int} (h : Gd w wd ht N St iv) (hwd : (1 ≤ wd ∧ wd ≤ 128) ∧ 1 ≤ ht ∧ ht ≤ 128) (hN : N = wd * ht) (ha : has 0 0 (wd : Int) (ht : Int) ax ay = true) (hc : has 0 0 (wd : Int) (ht : Int) cx cy = true) (ha2 : gS wd ht St ax ay = true) (hc2 : gS wd ht St cx cy = false) :
    Calls Tryd.prog 12 #[gdv wd ht iv, cel ax ay, cel cx cy, rct 0 0 wd ht] w fun e w' => e = .returned (.tuple #[.agg #[.int .i64 2, .slice none 0 0], .int .i64 0]) ∧ Below w.heap.size w w' := by
  have hw : wd ≤ 128 ∧ ht ≤ 128 := ⟨hwd.1.2, hwd.2.2⟩
  have HM : Hid (may 0 0 (wd : Int) (ht : Int) = true) := hide (by rw [may_iff]; omega)
  have HMt : Hid (∀ wx, Calls Tryd.prog 31 #[rct 0 0 wd ht, rct 0 0 wd ht] wx fun e w' => e = .returned (.tuple #[rct 0 0 wd ht, .bool true]) ∧ Below wx.heap.size wx w') := hide fun wx => meet_self hwd wx
  have HGd : Hid (∀ wx, Below w.heap.size w wx → Gd wx wd ht N St iv) := hide fun wx hx => h.upto hx
  obtain ⟨a0, cap0, hiv, -⟩ := h.form
  subst hiv
  have HSt : Hid (∀ wx, Below w.heap.size w wx → ∀ x y c, gS wd ht St x y = c → Calls Tryd.prog 15 #[gdv wd ht (.slice a0 N cap0), cel x y] wx fun e w' => e = .returned (.bool c) ∧ Below wx.heap.size wx w') := hide fun wx hx x y c hc => by
    have := gstands_any x y (HGd.out wx hx) hw hN
    rwa [hc] at this
  obtain ⟨X, hX⟩ : ∃ X, ((((((w.alloc (.cells #[.int .i64 (wd : Nat), .int .i64 (ht : Nat), .slice a0 N cap0] 45)).alloc (.cells #[.int .i64 ax, .int .i64 ay] 41)).alloc (.cells #[.int .i64 cx, .int .i64 cy] 41)).alloc (.cells #[.int .i64 0, .int .i64 0, .int .i64 (wd : Nat), .int .i64 (ht : Nat)] 53)).alloc (.cells #[.int .i64 0, .slice none 0 0] 49)).alloc (.cells #[.int .i64 2, .slice none 0 0] 49)) = X := ⟨_, rfl⟩
  have F0 : Hid (Fx w X wd ht (.slice a0 N cap0) ax ay cx cy) := hide (hX ▸ Fx.new w wd ht _ ax ay cx cy)
  have HX := hide hX
  have HN := hide hN
  clear hX hN h
  have HA := hide ha
  have HC := hide hc
  have HA2 := hide ha2
  have HC2 := hide hc2
  clear ha hc ha2 hc2
  go_enter Tryd.func12, Tryd.ntmps12
  go_wp2_with fail
  rw [HX.out]
  refine (refmayr_is _ HM.out).mono ?_
  rintro e w1 ⟨rfl, hb1⟩
  have F1 := hide (F0.out.upto hb1)
  obtain ⟨⟨a10, a11⟩, -, -⟩ := F1.out.fa
  obtain ⟨⟨r10, r11, r12, r13⟩, -, -⟩ := F1.out.rc
  clear hb1 F0 
  go_wp2_with fail
  refine (refhas_is _ HA.out).mono ?_
  rintro e w2 ⟨rfl, hb2⟩
  have F2 := hide (F1.out.upto hb2)
  obtain ⟨⟨c20, c21⟩, -, -⟩ := F2.out.fb
  obtain ⟨⟨r20, r21, r22, r23⟩, -, -⟩ := F2.out.rc
  clear hb2 F1 a10 a11 r10 r11 r12 r13 
  go_wp2_with fail
  refine (refhas_is _ HC.out).mono ?_
  rintro e w3 ⟨rfl, hb3⟩
  have F3 := hide (F2.out.upto hb3)
  obtain ⟨⟨r30, r31, r32, r33⟩, -, -⟩ := F3.out.rc
  obtain ⟨⟨g30, g31⟩, g32⟩ := F3.out.gb.c
  clear hb3 F2 c20 c21 r20 r21 r22 r23 
  go_wp2_with fail
  refine (HMt.out _).mono ?_
  rintro e w4 ⟨rfl, hb4⟩
  have F4 := hide ((F3.out.upto hb4).upto (box1 w4 (.cells #[.int .i64 0, .int .i64 0, .int .i64 (wd : Nat), .int .i64 (ht : Nat)] 53)))
  have F4r : Hid (Four (w4.alloc (.cells #[.int .i64 0, .int .i64 0, .int .i64 (wd : Nat), .int .i64 (ht : Nat)] 53)) w4.heap.size 0 0 wd ht) := hide (cells4 (Below.refl _ _))
  have hs4 : Hid (w.heap.size + 1 + 1 + 1 + 1 + 1 < w4.heap.size) := hide ((F3.out.upto hb4).no.lt)
  obtain ⟨⟨g40, g41⟩, g42⟩ := F4.out.gb.c
  obtain ⟨⟨a40, a41⟩, -, -⟩ := F4.out.fa
  clear hb4 F3 r30 r31 r32 r33 g30 g31 g32 
  go_wp2_with fail
  refine (HSt.out _ F4.out.bl _ _ _ HA2.out).mono ?_
  rintro e w5 ⟨rfl, hb5⟩
  have F5 := hide (F4.out.upto hb5)
  obtain ⟨⟨g50, g51⟩, g52⟩ := F5.out.gb.c
  obtain ⟨⟨c50, c51⟩, -, -⟩ := F5.out.fb
  clear hb5 F4 g40 g41 g42 a40 a41  F4r hs4
  go_wp2_with fail
  refine (HSt.out _ F5.out.bl _ _ _ HC2.out).mono ?_
  rintro e w6 ⟨rfl, hb6⟩
  have F6 := hide (F5.out.upto hb6)
  obtain ⟨n60, n61⟩ := F6.out.no.c
  obtain ⟨s60, s61⟩ := F6.out.res.c
  have z60 := F6.out.res.fz 0
  have z61 := F6.out.res.fz 1
  clear hb6 F5 g50 g51 g52 c50 c51 
  go_wp2_with fail
  refine bodyPost_ret (v := .tuple #[.agg #[.int .i64 2, .slice none 0 0], .int .i64 0]) (by simp [results, Tryd.results12, go_sem, s60, s61, n60, n61]) rfl ⟨rfl, ?_⟩
  exact set2 F6.out.bl (by simp; omega) (by simp; omega)
end Go.Proofs.YtoheibfijpdmfaaDoor
set_option linter.unusedSimpArgs false
namespace Go.Proofs.YtoheibfijpdmfaaDoor
open Go.RowKit Go.Shelf
set_option linter.unusedSectionVars false
variable [DecCn : ∀ (St : Nat → Bool) (Ad : Nat → Nat → Prop) (k i : Nat), Decidable (Cn St Ad k i)]
set_option linter.unusedVariables false
theorem four_kept {S : Nat → Prop} {W W' : World} {k : Nat} {u v s t : Int} (h : Four W k u v s t) (ht : Turns S W W') (hs : ¬ S k) : Four W' k u v s t := by
  have hb := ht.block k h.2.2 hs
  have hf : ∀ o, W'.frozen? ⟨k, o, none⟩ = W.frozen? ⟨k, o, none⟩ := fun o => by simp [World.frozen?, hb]
  exact ⟨⟨ht.cell hs h.1.1, ht.cell hs h.1.2.1, ht.cell hs h.1.2.2.1, ht.cell hs h.1.2.2.2⟩, ⟨(hf 0).trans h.2.1.1, (hf 1).trans h.2.1.2.1, (hf 2).trans h.2.1.2.2.1, (hf 3).trans h.2.1.2.2.2⟩, Nat.lt_of_lt_of_le h.2.2 ht.size⟩
theorem Fx.kept {S : Nat → Prop} {w W W' : World} {wd ht : Nat} {iv : Value} {ax ay cx cy : Int} (h : Fx w W wd ht iv ax ay cx cy) (T : Turns S W W') (hS : ∀ k, S k → w.heap.size + 1 + 1 + 1 + 1 + 1 < k) : Fx w W' wd ht iv ax ay cx cy :=
  ⟨h.gb.kept T (fun e => by have := hS _ e; omega), two_kept h.fa T (fun e => by have := hS _ e; omega), two_kept h.fb T (fun e => by have := hS _ e; omega), four_kept h.rc T (fun e => by have := hS _ e; omega), h.res.kept T (fun e => by have := hS _ e; omega), h.no.kept T (fun e => by have := hS _ e; omega), h.bl.trans (T.below (fun k e => by have := hS _ e; omega) h.bl.size)⟩
/-- What Find's walk back keeps: the rectangle, the numbers, the path so far, the cell. -/
structure Fz (w W : World) (wd ht N : Nat) (iv : Value) (ax ay cx cy : Int) (rb cb ob : Nat) (C : Nat → Int) (bc : Nat) (ux uy : Int) (v : Value) (l : List Nat) : Prop where
  fx : Fx w W wd ht iv ax ay cx cy
  rc : Four W rb 0 0 wd ht
  nm : Nmz W cb N C
  out : Pb W ob 1 v
  ce : Two W bc ux uy
  row : Rw 41 2 (cA wd) W v l
  lo : ((w.heap.size + 1 + 1 + 1 + 1 + 1 < ob ∧ rb < ob) ∧ cb < ob) ∧ ob < bc
  own : ∀ g, v.ownBlock = some g → ob < g ∧ g ≠ bc
section
variable {w W W' : World} {wd ht N : Nat} {iv : Value} {ax ay cx cy : Int} {rb cb ob : Nat} {C : Nat → Int} {bc : Nat} {ux uy : Int} {v : Value} {l : List Nat}
theorem Fz.upto (h : Fz w W wd ht N iv ax ay cx cy rb cb ob C bc ux uy v l) (hb : Below W.heap.size W W') : Fz w W' wd ht N iv ax ay cx cy rb cb ob C bc ux uy v l :=
  ⟨h.fx.upto hb, h.rc.kept hb, h.nm.upto hb, h.out.upto hb, h.ce.kept hb, h.row.upto hb, h.lo, h.own⟩
theorem Fz.setc (h : Fz w W wd ht N iv ax ay cx cy rb cb ob C bc ux uy v l) (x y : Int) : Fz w ((W.setCell ⟨bc, 0, none⟩ (.int .i64 x)).setCell ⟨bc, 1, none⟩ (.int .i64 y)) wd ht N iv ax ay cx cy rb cb ob C bc x y v l := by
  have T : Turns (fun k => k = bc) W ((W.setCell ⟨bc, 0, none⟩ (.int .i64 x)).setCell ⟨bc, 1, none⟩ (.int .i64 y)) := (Turns.set (S := fun k => k = bc) W (p := ⟨bc, 0, none⟩) rfl _).trans ((Turns.set (S := fun k => k = bc) _ (p := ⟨bc, 1, none⟩) rfl _).mono (fun _ _ h => .inl h))
  have hl := h.lo
  exact ⟨h.fx.kept T (fun k e => by omega), four_kept h.rc T (by omega), h.nm.kept T (by omega), h.out.kept T (by omega), h.ce.set, h.row.kept T (fun g hg e => (h.own g hg).2 e), h.lo, h.own⟩
/-- A cell more. -/
theorem Fz.push {v' : Value} {j : Nat} (h : Fz w W wd ht N iv ax ay cx cy rb cb ob C bc ux uy v l) (hown : W'.ownsRow 0 41 2 v' (l.length + 1) (l.flatMap (cA wd) ++ cA wd j)) (hgrow : W.grownBy W' v.ownBlock) (hloc : v'.ownBlock = v.ownBlock ∨ v'.ownBlock = some W.heap.size) :
    Fz w (W'.setCell ⟨ob, 1, none⟩ v') wd ht N iv ax ay cx cy rb cb ob C bc ux uy v' (l ++ [j]) ∧ Pb W' ob 1 v ∧ Two W' bc ux uy := by
  have hl := h.lo
  have T : Turns (fun k => v.ownBlock = some k) W W' := Turns.of_grown hgrow (fun k e => e)
  have T2 : Turns (fun k => k = ob) W' (W'.setCell ⟨ob, 1, none⟩ v') := Turns.set (S := fun k => k = ob) W' (p := ⟨ob, 1, none⟩) rfl _
  have f1 := h.fx.kept T (fun k e => by have := (h.own k e).1; omega)
  have ho : Pb W' ob 1 v := h.out.kept T (fun e => by have := (h.own _ e).1; omega)
  have hc : Two W' bc ux uy := two_kept h.ce T (fun e => (h.own _ e).2 rfl)
  have how : ∀ g, v'.ownBlock = some g → ob < g ∧ g ≠ bc := fun g hg => by
    rcases hloc with e | e
    · exact h.own g (by rw [← e]; exact hg)
    · rw [e] at hg; cases hg
      have h1 := h.ce.2.2
      exact ⟨by omega, by omega⟩
  have hr : Rw 41 2 (cA wd) W' v' (l ++ [j]) := by
    unfold Rw
    rw [List.length_append, List.flatMap_append]
    simpa using hown
  refine ⟨⟨?_, four_kept (four_kept h.rc T (fun e => by have := (h.own _ e).1; omega)) T2 (by omega), (h.nm.kept T (fun e => by have := (h.own _ e).1; omega)).kept T2 (by omega), ho.set v', two_kept hc T2 (by omega), hr.kept T2 (fun g hg e => by have := (how g hg).1; omega), h.lo, how⟩, ho, hc⟩
  refine f1.kept (S := fun k => k = ob) T2 (fun k e => by omega)
/-- A box anew for the cell. -/
theorem Fz.box (h : Fz w W wd ht N iv ax ay cx cy rb cb ob C bc ux uy v l) : Fz w (W.alloc (.cells #[.int .i64 ux, .int .i64 uy] 41)) wd ht N iv ax ay cx cy rb cb ob C W.heap.size ux uy v l := by
  have h2 := h.upto (box1 W (.cells #[.int .i64 ux, .int .i64 uy] 41))
  have hl := h.lo
  have h9 := h.ce.2.2
  refine ⟨h2.fx, h2.rc, h2.nm, h2.out, Two.newAt rfl, h2.row, ⟨hl.1, by omega⟩, fun g hg => ⟨(h.own g hg).1, ?_⟩⟩
  obtain ⟨cur, hcur⟩ := h.row.blk hg
  have := (Array.getElem?_eq_some_iff.1 hcur).1
  omega
end
/-- Which cell a box holds. -/
def ixB (wd : Nat) (w : World) : Value → Nat
  | .pointer (some a) => match w.cell? ⟨a.block, 0, none⟩, w.cell? ⟨a.block, 1, none⟩ with
    | some (.int _ x), some (.int _ y) => y.toNat * wd + x.toNat
    | _, _ => 0
  | _ => 0
theorem ixB_of {wd j b : Nat} {w : World} {x y : Int} (h : Two w b x y) (hx : ((j % wd : Nat) : Int) = x) (hy : ((j / wd : Nat) : Int) = y) : ixB wd w (ptr b) = j := by
  obtain ⟨⟨h0, h1⟩, -, -⟩ := h
  simp only [ixB, ptr, h0, h1, ← hx, ← hy, Int.toNat_natCast]
  rw [Nat.mul_comm]; exact Nat.div_add_mod j wd
set_option maxRecDepth 100000 in
set_option maxHeartbeats 8000000 in
theorem find_yes {w : World} {wd ht N ia tg : Nat} {St : Nat → Bool} {iv : Value} (h : Gd w wd ht N St iv) (hwd : (1 ≤ wd ∧ wd ≤ 128) ∧ 1 ≤ ht ∧ ht ≤ 128) (hN : N = wd * ht) (hN7 : N ≤ 700) (hSN : ∀ i, St i = true → i < N) (hia : St ia = true) (htg : St tg = true) :
    Calls Tryd.prog 12 #[gdv wd ht iv, cel ((ia % wd : Nat) : Int) ((ia / wd : Nat) : Int), cel ((tg % wd : Nat) : Int) ((tg / wd : Nat) : Int), rct 0 0 wd ht] w fun e w' => ∃ (k : Int) (a : Option Addr) (n m : Nat) (z : Int), e = .returned (.tuple #[.agg #[.int .i64 k, .slice a n m], .int .i64 z]) ∧ (k = 1 ↔ Cn St (adI wd) ia tg) ∧ Below w.heap.size w w' := by
  have hN2 : N ≤ 16384 := by omega
  have hiN := hSN ia hia
  have htN := hSN tg htg
  have hgt : gS wd ht St ((tg % wd : Nat) : Int) ((tg / wd : Nat) : Int) = true := gS_of hwd.1.1 (by rw [← hN]; exact htN) htg
  have hga : gS wd ht St ((ia % wd : Nat) : Int) ((ia / wd : Nat) : Int) = true := gS_of hwd.1.1 (by rw [← hN]; exact hiN) hia
  have hhas : ∀ j, j < N → has 0 0 (wd : Int) (ht : Int) ((j % wd : Nat) : Int) ((j / wd : Nat) : Int) = true := fun j hj => by
    have h1 : j % wd < wd := Nat.mod_lt _ (by omega)
    have h2 : j / wd < ht := by rw [Nat.div_lt_iff_lt_mul (by omega), Nat.mul_comm, ← hN]; exact hj
    rw [has_in ⟨hwd.1.2, hwd.2.2⟩]
    generalize j % wd = X at *
    generalize j / wd = Y at *
    omega
  have ha := hhas ia hiN
  have hc := hhas tg htN
  have HCs0 : Hid (∀ wx, Below w.heap.size w wx → Calls Tryd.prog 32 #[gdv wd ht iv, cel ((tg % wd : Nat) : Int) ((tg / wd : Nat) : Int), rct 0 0 wd ht] wx fun e w' => ∃ b C, e = .returned (sl b N) ∧ (Nmz w' b N C ∧ Bf wd ht N St tg C ∧ ∀ i, i < N → ∀ d, d < 8 → Fn wd ht N St C i d) ∧ Below wx.heap.size wx w') := hide fun wx hx => costs_any (h.upto hx) hwd hN hN7 hSN htg
  obtain ⟨ax, hax⟩ : ∃ ax : Int, ((ia % wd : Nat) : Int) = ax := ⟨_, rfl⟩
  obtain ⟨ay, hay⟩ : ∃ ay : Int, ((ia / wd : Nat) : Int) = ay := ⟨_, rfl⟩
  obtain ⟨cx, hcx⟩ : ∃ cx : Int, ((tg % wd : Nat) : Int) = cx := ⟨_, rfl⟩
  obtain ⟨cy, hcy⟩ : ∃ cy : Int, ((tg / wd : Nat) : Int) = cy := ⟨_, rfl⟩
  rw [hcx, hcy] at HCs0 hgt hc
  rw [hax, hay] at hga ha
  rw [hax, hay, hcx, hcy]
  have HA := hide ha
  have HC := hide hc
  have HA2 := hide hga
  have HC2 := hide hgt
  have Hhas := hide hhas
  have HSN := hide hSN
  have Hax := hide hax
  have Hay := hide hay
  have Hcx := hide hcx
  have Hcy := hide hcy
  clear ha hc hgt hga hhas hSN hax hay hcx hcy
  obtain ⟨fi, hfi, hz9, h1, h8⟩ := info_parts info41
  have hw : wd ≤ 128 ∧ ht ≤ 128 := ⟨hwd.1.2, hwd.2.2⟩
  have HM : Hid (may 0 0 (wd : Int) (ht : Int) = true) := hide (by rw [may_iff]; omega)
  have HMt : Hid (∀ wx, Calls Tryd.prog 31 #[rct 0 0 wd ht, rct 0 0 wd ht] wx fun e w' => e = .returned (.tuple #[rct 0 0 wd ht, .bool true]) ∧ Below wx.heap.size wx w') := hide fun wx => meet_self hwd wx
  have HGd : Hid (∀ wx, Below w.heap.size w wx → Gd wx wd ht N St iv) := hide fun wx hx => h.upto hx
  obtain ⟨a0, cap0, hiv, -⟩ := h.form
  subst hiv
  have HSt : Hid (∀ wx, Below w.heap.size w wx → ∀ x y c, gS wd ht St x y = c → Calls Tryd.prog 15 #[gdv wd ht (.slice a0 N cap0), cel x y] wx fun e w' => e = .returned (.bool c) ∧ Below wx.heap.size wx w') := hide fun wx hx x y c hc => by
    have := gstands_any x y (HGd.out wx hx) hw hN
    rwa [hc] at this
  obtain ⟨X, hX⟩ : ∃ X, ((((((w.alloc (.cells #[.int .i64 (wd : Nat), .int .i64 (ht : Nat), .slice a0 N cap0] 45)).alloc (.cells #[.int .i64 ax, .int .i64 ay] 41)).alloc (.cells #[.int .i64 cx, .int .i64 cy] 41)).alloc (.cells #[.int .i64 0, .int .i64 0, .int .i64 (wd : Nat), .int .i64 (ht : Nat)] 53)).alloc (.cells #[.int .i64 0, .slice none 0 0] 49)).alloc (.cells #[.int .i64 2, .slice none 0 0] 49)) = X := ⟨_, rfl⟩
  have F0 : Hid (Fx w X wd ht (.slice a0 N cap0) ax ay cx cy) := hide (hX ▸ Fx.new w wd ht _ ax ay cx cy)
  have HX := hide hX
  have HN := hide hN
  clear hX hN h
  have HSp0 : Hid (∀ wx, Below w.heap.size w wx → ∀ x y d, Calls Tryd.prog 34 #[gdv wd ht (.slice a0 N cap0), cel x y, .int .i64 d] wx fun e w' => e = .returned (.tuple #[cel (if lg (gS wd ht St) x y d = true then sX x y d else 0) (if lg (gS wd ht St) x y d = true then sY x y d else 0), .bool (lg (gS wd ht St) x y d)]) ∧ Below wx.heap.size wx w') := hide fun wx hx x y d =>
    gsteps_of (gS wd ht St) x y d a0 N cap0 rfl (fun wy hy u v => gstands_any u v (HGd.out wy (bt hx hy)) hw HN.out)
  have HAt : Hid (∀ (wx : World) (b j : Nat) (C : Nat → Int) (x y z : Int), Nmz wx b N C → j < N → ((j % wd : Nat) : Int) = x → ((j / wd : Nat) : Int) = y → C j = z → Calls Tryd.prog 33 #[sl b N, rct 0 0 wd ht, cel x y] wx fun e w' => e = .returned (.int .i64 z) ∧ Below wx.heap.size wx w') := hide fun wx b j C x y z hn hj hx hy hz => by
    subst hz; exact rat_is hn hw HN.out hN2 hj hx hy
  go_enter Tryd.func12, Tryd.ntmps12
  go_wp2_with fail
  rw [HX.out]
  refine (refmayr_is _ HM.out).mono ?_
  rintro e w1 ⟨rfl, hb1⟩
  have F1 := hide (F0.out.upto hb1)
  obtain ⟨⟨a10, a11⟩, -, -⟩ := F1.out.fa
  obtain ⟨⟨r10, r11, r12, r13⟩, -, -⟩ := F1.out.rc
  clear hb1 F0 
  go_wp2_with fail
  refine (refhas_is _ HA.out).mono ?_
  rintro e w2 ⟨rfl, hb2⟩
  have F2 := hide (F1.out.upto hb2)
  obtain ⟨⟨c20, c21⟩, -, -⟩ := F2.out.fb
  obtain ⟨⟨r20, r21, r22, r23⟩, -, -⟩ := F2.out.rc
  clear hb2 F1 a10 a11 r10 r11 r12 r13 
  go_wp2_with fail
  refine (refhas_is _ HC.out).mono ?_
  rintro e w3 ⟨rfl, hb3⟩
  have F3 := hide (F2.out.upto hb3)
  obtain ⟨⟨r30, r31, r32, r33⟩, -, -⟩ := F3.out.rc
  obtain ⟨⟨g30, g31⟩, g32⟩ := F3.out.gb.c
  clear hb3 F2 c20 c21 r20 r21 r22 r23 
  go_wp2_with fail
  refine (HMt.out _).mono ?_
  rintro e w4 ⟨rfl, hb4⟩
  have F4 := hide ((F3.out.upto hb4).upto (box1 w4 (.cells #[.int .i64 0, .int .i64 0, .int .i64 (wd : Nat), .int .i64 (ht : Nat)] 53)))
  have R4 : Hid (Four (w4.alloc (.cells #[.int .i64 0, .int .i64 0, .int .i64 (wd : Nat), .int .i64 (ht : Nat)] 53)) w4.heap.size 0 0 wd ht) := hide (cells4 (Below.refl _ _))
  have Hs4 : Hid (w.heap.size + 1 + 1 + 1 + 1 + 1 < w4.heap.size) := hide ((F3.out.upto hb4).no.lt)
  obtain ⟨⟨g40, g41⟩, g42⟩ := F4.out.gb.c
  obtain ⟨⟨a40, a41⟩, -, -⟩ := F4.out.fa
  clear hb4 F3 r30 r31 r32 r33 g30 g31 g32 
  go_wp2_with fail
  refine (HSt.out _ F4.out.bl _ _ _ HA2.out).mono ?_
  rintro e w5 ⟨rfl, hb5⟩
  have F5 := hide (F4.out.upto hb5)
  have R5 := hide (R4.out.kept hb5)
  obtain ⟨⟨g50, g51⟩, g52⟩ := F5.out.gb.c
  obtain ⟨⟨c50, c51⟩, -, -⟩ := F5.out.fb
  clear hb5 F4 g40 g41 g42 a40 a41 R4 
  go_wp2_with fail
  refine (HSt.out _ F5.out.bl _ _ _ HC2.out).mono ?_
  rintro e w6 ⟨rfl, hb6⟩
  have F6 := hide (F5.out.upto hb6)
  have R6 := hide (R5.out.kept hb6)
  obtain ⟨⟨g60, g61⟩, g62⟩ := F6.out.gb.c
  obtain ⟨⟨c60, c61⟩, -, -⟩ := F6.out.fb
  obtain ⟨⟨q60, q61, q62, q63⟩, -, -⟩ := R6.out
  clear hb6 F5 g50 g51 g52 c50 c51 R5 
  go_wp2_with fail
  refine (HCs0.out _ F6.out.bl).mono ?_
  rintro e w7 ⟨cb, C, rfl, ⟨hnm, hBf, hFn⟩, hb7⟩
  have F7 := hide (F6.out.upto hb7)
  have R7 := hide (R6.out.kept hb7)
  have N7 := hide hnm
  have HBf := hide hBf
  have HFn := hide hFn
  obtain ⟨ca, hca⟩ : ∃ ca, C ia = ca := ⟨_, rfl⟩
  have Hca := hide hca
  have hcab : ca ≤ 9800 := by rw [← hca]; have := hBf.le hiN; omega
  obtain ⟨⟨a70, a71⟩, -, -⟩ := F7.out.fa
  obtain ⟨⟨q70, q71, q72, q73⟩, -, -⟩ := R7.out
  clear hb7 F6 R6 hnm hBf hFn hca HCs0 HA HC HA2 HC2 HMt HM HX HSt g60 g61 g62 c60 c61 q60 q61 q62 q63 
  go_wp2_with fail
  refine (HAt.out _ _ _ _ _ _ _ N7.out hiN Hax.out Hay.out Hca.out).mono ?_
  rintro e w8 ⟨rfl, hb8⟩
  have F8 := hide (F7.out.upto hb8)
  have R8 := hide (R7.out.kept hb8)
  have N8 := hide (N7.out.upto hb8)
  clear hb8 F7 R7 N7 a70 a71 q70 q71 q72 q73 
  by_cases hca0 : ca < 0
  · have HnC : Hid (¬ Cn St (adI wd) ia tg) := hide fun hC => by
      have := (Bf.all hwd HN.out HSN.out HBf.out HFn.out htN ia hiN).2 (hC.symm (adI_symm wd))
      rw [Hca.out] at this
      omega
    obtain ⟨n80, n81⟩ := F8.out.no.c
    obtain ⟨s80, s81⟩ := F8.out.res.c
    have z80 := F8.out.res.fz 0
    have z81 := F8.out.res.fz 1
    go_wp2_with fail
    refine bodyPost_ret (v := .tuple #[.agg #[.int .i64 2, .slice none 0 0], .int .i64 0]) (by simp [results, Tryd.results12, go_sem, s80, s81, n80, n81]) rfl ⟨2, none, 0, 0, 0, rfl, ⟨fun e => by omega, fun e => absurd e HnC.out⟩, ?_⟩
    exact set2 F8.out.bl (by simp; omega) (by simp; omega)
  · have HyC : Hid (Cn St (adI wd) ia tg) := hide ((HBf.out.cn ia hiN (by rw [Hca.out]; omega)).symm (adI_symm wd))
    have F9 := hide (F8.out.upto (box1 w8 (.cells #[.int .i64 1, .slice none 0 0] 49)))
    have R9 := hide (R8.out.kept (box1 w8 (.cells #[.int .i64 1, .slice none 0 0] 49)))
    have N9 := hide (N8.out.upto (box1 w8 (.cells #[.int .i64 1, .slice none 0 0] 49)))
    have O9 : Hid (Pb (w8.alloc (.cells #[.int .i64 1, .slice none 0 0] 49)) w8.heap.size 1 (.slice none 0 0)) := hide (Pb.new w8 1 _)
    have Hlo : Hid ((w.heap.size + 1 + 1 + 1 + 1 + 1 < w8.heap.size ∧ w4.heap.size < w8.heap.size) ∧ cb < w8.heap.size) := hide ⟨⟨F8.out.no.lt, R8.out.2.2⟩, N8.out.lt⟩
    obtain ⟨⟨a90, a91⟩, -, -⟩ := F9.out.fa
    obtain ⟨⟨q90, q91, q92, q93⟩, -, -⟩ := R9.out
    clear F8 R8 N8
    go_wp2_with fail
    refine (HAt.out _ _ _ _ _ _ _ N9.out hiN Hax.out Hay.out Hca.out).mono ?_
    rintro e w10 ⟨rfl, hb10⟩
    have F10 := hide (F9.out.upto hb10)
    have R10 := hide (R9.out.kept hb10)
    have N10 := hide (N9.out.upto hb10)
    have O10 := hide (O9.out.upto hb10)
    clear hb10 F9 R9 N9 O9 a90 a91 q90 q91 q92 q93
    have Z10 : Hid (Fz w (w10.alloc (.cells #[.int .i64 ax, .int .i64 ay] 41)) wd ht N (.slice a0 N cap0) ax ay cx cy w4.heap.size cb w8.heap.size C w10.heap.size ax ay (.slice none 0 0) []) := hide
      ⟨F10.out.upto (box1 _ _), R10.out.kept (box1 _ _), N10.out.upto (box1 _ _), O10.out.upto (box1 _ _), Two.newAt rfl, Rw.nil _ _ _ _, ⟨Hlo.out, O10.out.lt⟩, fun g hg => by cases hg⟩
    obtain ⟨⟨a0a, a0b⟩, -, -⟩ := F10.out.fa
    clear F10 R10 N10 O10 Hlo
    go_wp2_with fail
    obtain ⟨rb, hrb⟩ : ∃ rb, w4.heap.size = rb := ⟨_, rfl⟩
    obtain ⟨ob, hob⟩ : ∃ ob, w8.heap.size = ob := ⟨_, rfl⟩
    rw [hrb, hob] at Z10
    rw [hrb, hob]
    clear a0a a0b hrb hob
    go_loopw [16] (fun tc wr => ∃ (c bc : Nat) (ux uy : Int) (v : Value) (l : List Nat), tc = ptr bc ∧ c < N ∧ ((c % wd : Nat) : Int) = ux ∧ ((c / wd : Nat) : Int) = uy ∧ 0 ≤ C c ∧ Fz w wr wd ht N (.slice a0 N cap0) ax ay cx cy rb cb ob C bc ux uy v l ∧ l.length + (C c).toNat ≤ 9800) (fun tc wr => (C (ixB wd wr tc)).toNat)
    case atStart => exact ⟨ia, _, ax, ay, _, [], rfl, hiN, Hax.out, Hay.out, by rw [Hca.out]; omega, Z10.out, by rw [Hca.out]; simp; omega⟩
    case round =>
      obtain ⟨c, bc, ux, uy, v, l, rfl, hcN, hux, huy, hc0, hZ, hln⟩ := hrel
      clear Z10
      rename World => wo
      obtain ⟨a6, cap6, hv6, -⟩ := Rw.form (cA_len wd) hZ.row
      subst hv6
      have Hmx := hide (ixB_of hZ.ce hux huy)
      obtain ⟨⟨u0, u1⟩, -, -⟩ := hZ.ce
      obtain ⟨⟨t0, t1⟩, -, -⟩ := hZ.fx.fb
      have HZ := hide hZ
      have Hux := hide hux
      have Huy := hide huy
      have Hc0 := hide hc0
      have Hln := hide hln
      clear hZ hux huy hc0 hln
      by_cases hct : c = tg
      · have ex : ux = cx := by rw [← Hux.out, ← Hcx.out, hct]
        have ey : uy = cy := by rw [← Huy.out, ← Hcy.out, hct]
        subst ex ey
        obtain ⟨n0, n1⟩ := HZ.out.out.c
        obtain ⟨s0, s1⟩ := HZ.out.fx.res.c
        have z0 := HZ.out.fx.res.fz 0
        have z1 := HZ.out.fx.res.fz 1
        go_wp2_with fail
        refine bodyPost_ret (v := .tuple #[.agg #[.int .i64 1, .slice a6 l.length cap6], .int .i64 ca]) (by simp [results, Tryd.results12, go_sem, s0, s1, n0, n1]) rfl ⟨1, a6, l.length, cap6, ca, rfl, ⟨fun _ => HyC.out, fun _ => rfl⟩, ?_⟩
        exact set2 HZ.out.fx.bl (by simp; omega) (by simp; omega)
      · have hq : ux = cx → ¬ uy = cy := fun e1 e2 => hct (idx_eq (wd := wd) (by have h1 := Hux.out; have h2 := Hcx.out; omega) (by have h1 := Huy.out; have h2 := Hcy.out; omega))
        by_cases hx : ux = cx
        · have hy := hq hx
          go_wp2_with fail
          clear hy hx hq u0 u1 t0 t1
          go_loopw [17] (fun td wr => ∃ d : Nat, td = .int .i64 (d : Nat) ∧ d ≤ 8 ∧ Fz w wr wd ht N (.slice a0 N cap0) ax ay cx cy rb cb ob C bc ux uy (.slice a6 l.length cap6) l ∧ ∀ d' n, d' < d → n < N → Lg wd ht St c d' n → 0 ≤ C n → C n + cst d' = C c → False) (fun td _ => 8 - (intOf td).toNat)
          case atStart => exact ⟨0, rfl, by omega, HZ.out, fun d' n h => by omega⟩
          case round =>
            obtain ⟨dd, rfl, hdd, hZ2, hno⟩ := hrel
            clear HZ
            rename World => wi
            have HZ2 := hide hZ2
            have Hno := hide hno
            clear hZ2 hno
            by_cases hd8 : dd < 8
            · have hdI : ((dd : Nat) : Int) < 8 := by omega
              obtain ⟨r, hr⟩ : ∃ r, lg (gS wd ht St) ux uy (dd : Nat) = r := ⟨_, rfl⟩
              obtain ⟨ox, hox⟩ : ∃ ox, (if r = true then sX ux uy (dd : Nat) else 0) = ox := ⟨_, rfl⟩
              obtain ⟨oy, hoy⟩ : ∃ oy, (if r = true then sY ux uy (dd : Nat) else 0) = oy := ⟨_, rfl⟩
              have HSp : Hid (∀ wx, Below w.heap.size w wx → Calls Tryd.prog 34 #[gdv wd ht (.slice a0 N cap0), cel ux uy, .int .i64 (dd : Nat)] wx fun e' w' => e' = .returned (.tuple #[cel ox oy, .bool r]) ∧ Below wx.heap.size wx w') := hide fun wx hx => by
                have := HSp0.out wx hx ux uy (dd : Nat)
                rw [hr, hox, hoy] at this
                exact this
              have Hr := hide hr
              have Hox := hide hox
              have Hoy := hide hoy
              obtain ⟨⟨g0, g1⟩, g2⟩ := HZ2.out.fx.gb.c
              obtain ⟨⟨y0, y1⟩, -, -⟩ := HZ2.out.ce
              clear hr hox hoy
              go_wp2_with fail
              refine (HSp.out _ HZ2.out.fx.bl).mono ?_
              rintro e' w11 ⟨rfl, hb11⟩
              have B11 := bt hb11 (box1 w11 (.cells #[.int .i64 ox, .int .i64 oy] 41))
              have HZ11 := hide (HZ2.out.upto B11)
              have b9 : Two (w11.alloc (.cells #[.int .i64 ox, .int .i64 oy] 41)) w11.heap.size ox oy := Two.newAt rfl
              have Hb9 := hide b9
              have hne := lat_some (w11.alloc (.cells #[.int .i64 ox, .int .i64 oy] 41))
              clear hb11 B11 HSp g0 g1 g2 y0 y1 HZ2 b9
              cases r
              ·
                have HF2 : Hid (∀ d' n, d' < dd + 1 → n < N → Lg wd ht St c d' n → 0 ≤ C n → C n + cst d' = C c → False) := hide fun d' n h1 h2 h3 h4 h5 => by
                  by_cases e2 : d' = dd
                  · subst e2
                    have h9 := h3.1
                    rw [Hux.out, Huy.out, Hr.out] at h9
                    cases h9
                  · exact Hno.out d' n (by omega) h2 h3 h4 h5
                go_wp2_with fail
                refine wp_region_lat (by kernel_rfl) (by kernel_rfl) ?_
                repeat (go_big_quiet_step (fail))
                refine wpQuiet_nil ?_
                rintro _ ⟨m, rfl⟩
                have HZm := hide (HZ11.out.upto m.h)
                clear HZ11 hne
                go_wp2_with fail
                go_roundw
                case rel => exact ⟨dd + 1, by go_num, by omega, HZm.out, HF2.out⟩
                case measure => simp [intOf]; omega
              · have hlg := Hr.out
                rw [← Hux.out, ← Huy.out] at hlg
                have hsk : St c = true := (HBf.out.cn c hcN Hc0.out).right
                obtain ⟨j, hjN, hjn, hjs, hjc, hjx, hjy⟩ := lg_cn hwd HN.out hsk hcN hd8 hlg
                rw [Hux.out, Huy.out] at hjx hjy
                have ex : ((j % wd : Nat) : Int) = ox := by rw [← Hox.out, if_pos rfl]; exact hjx.symm
                have ey : ((j / wd : Nat) : Int) = oy := by rw [← Hoy.out, if_pos rfl]; exact hjy.symm
                have hHj := Hhas.out j hjN
                rw [ex, ey] at hHj
                have hone : ∀ j', nbr wd c j' dd → j' = j := fun j' hj' => idx_eq (wd := wd) (by have := hj'.1.trans hjn.1.symm; omega) (by have := hj'.2.trans hjn.2.symm; omega)
                have Hone := hide hone
                obtain ⟨co, hco⟩ : ∃ co, cst dd = co := ⟨_, rfl⟩
                have hcoI : 10 ≤ co ∧ co ≤ 14 := by rw [← hco]; exact cst_pos dd
                have HCo : Hid (∀ wx, Calls Tryd.prog 35 #[.int .i64 (dd : Nat)] wx fun e w' => e = .returned (.int .i64 co) ∧ w' = wx) := hide fun wx => by rw [← hco]; exact refcost_is dd hd8 wx
                obtain ⟨A, hA⟩ : ∃ A : Int → Int → Int, ∀ i : Nat, A ((i % wd : Nat) : Int) ((i / wd : Nat) : Int) = C i := ⟨fun x y => C (y.toNat * wd + x.toNat), fun i => by simp only [Int.toNat_natCast]; rw [Nat.mul_comm, Nat.div_add_mod]⟩
                have hcj : C j = A ox oy := by rw [← ex, ← ey]; exact (hA j).symm
                have hcv : C c = A ux uy := by rw [← Hux.out, ← Huy.out]; exact (hA c).symm
                clear hA
                have hcjb : -1 ≤ (A ox oy) ∧ (A ox oy) ≤ 9800 := by rw [← hcj]; exact ⟨HBf.out.ge j hjN, by have := HBf.out.le hjN; omega⟩
                have HHm : Hid (∀ m : Lat (w11.alloc (.cells #[.int .i64 ox, .int .i64 oy] 41)), Calls Tryd.prog 30 #[rct 0 0 wd ht, cel ox oy] m.w fun e w' => e = .returned (.bool true) ∧ Below m.w.heap.size m.w w') := hide fun m => refhas_is _ hHj
                have HAm : Hid (∀ (m : Lat (w11.alloc (.cells #[.int .i64 ox, .int .i64 oy] 41))) (x y : Int), ((x = ox ∧ y = oy) ∨ (x = ux ∧ y = uy)) → Calls Tryd.prog 33 #[sl cb N, rct 0 0 wd ht, cel x y] m.w fun e w' => e = .returned (.int .i64 (A x y)) ∧ Below m.w.heap.size m.w w') := hide fun m x y hq => by
                  rcases hq with ⟨rfl, rfl⟩ | ⟨rfl, rfl⟩
                  · exact HAt.out m.w cb j C _ _ _ (HZ11.out.upto m.h).nm hjN ex ey hcj
                  · exact HAt.out m.w cb c C _ _ _ (HZ11.out.upto m.h).nm hcN Hux.out Huy.out hcv
                have Hco := hide hco
                have Hcj := hide hcj
                have Hcv := hide hcv
                have Hex := hide ex
                have Hey := hide ey
                have hvw : IntKind.i64.wrap ((A ox oy) + co) = (A ox oy) + co := by rw [IntKind.wrap_i64]; omega
                have HLj : Hid (Lg wd ht St c dd j) := hide ⟨hlg, hjn⟩
                obtain ⟨k0, k1, k2, k3⟩ := Four.lat HZ11.out.rc
                obtain ⟨k4, k5⟩ := Two.lat Hb9.out
                obtain ⟨k6, k7⟩ := Two.lat HZ11.out.ce
                clear hlg hjx hjy ex ey hHj hone hjn hjs hjc hco hcj hcv
                by_cases hj0 : (A ox oy) < 0
                ·
                  have hjd : decide ((0 : Int) ≤ A ox oy) = false := by simp; omega
                  have hjd2 : decide (A ox oy ≥ (0 : Int)) = false := hjd
                  have HF2 : Hid (∀ d' n, d' < dd + 1 → n < N → Lg wd ht St c d' n → 0 ≤ C n → C n + cst d' = C c → False) := hide fun d' n h1 h2 h3 h4 h5 => by
                    by_cases e2 : d' = dd
                    · subst e2
                      have h9 := Hone.out n h3.2
                      subst h9
                      rw [Hcj.out] at h4
                      omega
                    · exact Hno.out d' n (by omega) h2 h3 h4 h5
                  go_wp2_with fail
                  refine wp_region_lat (by kernel_rfl) (by kernel_rfl) ?_
                  repeat (go_big_quiet_step (first | (go_at_call 30; exact calls_lat (HHm.out _)) | (go_at_call 35; exact calls_lat_same (HCo.out _)) | (go_at_call 33; refine calls_lat (HAm.out _ _ _ ?_); first | exact Or.inl ⟨rfl, rfl⟩ | exact Or.inr ⟨rfl, rfl⟩)))
                  refine wpQuiet_nil ?_
                  rintro _ ⟨m, rfl⟩
                  have HZm := hide (HZ11.out.upto m.h)
                  clear HZ11
                  go_wp2_with fail
                  go_roundw
                  case rel => exact ⟨dd + 1, by go_num, by omega, HZm.out, HF2.out⟩
                  case measure => simp [intOf]; omega
                · by_cases heq : (A ox oy) + co = (A ux uy)
                  ·
                    have hjd : decide ((0 : Int) ≤ A ox oy) = true := by simp; omega
                    have hjd2 : decide (A ox oy ≥ (0 : Int)) = true := hjd
                    go_wp2_with fail
                    refine wp_region_lat (by kernel_rfl) (by kernel_rfl) ?_
                    repeat (go_big_quiet_step (first | (go_at_call 30; exact calls_lat (HHm.out _)) | (go_at_call 35; exact calls_lat_same (HCo.out _)) | (go_at_call 33; refine calls_lat (HAm.out _ _ _ ?_); first | exact Or.inl ⟨rfl, rfl⟩ | exact Or.inr ⟨rfl, rfl⟩)))
                    refine wpQuiet_nil ?_
                    rintro _ ⟨m, rfl⟩
                    have HZm := hide (HZ11.out.upto m.h)
                    have Hbm := hide (Hb9.out.kept m.h)
                    obtain ⟨wm, hwm⟩ : ∃ wm, m.w = wm := ⟨_, rfl⟩
                    rw [hwm] at HZm Hbm
                    rw [hwm]
                    clear HZ11 Hb9 hwm m
                    have zw : wm.heap.size = ((wm.setCell ⟨bc, 0, none⟩ (.int .i64 ox)).setCell ⟨bc, 1, none⟩ (.int .i64 oy)).heap.size := by simp [World.setCell]
                    have HZs := hide (HZm.out.setc ox oy)
                    have HZb := hide (HZs.out.upto (box1 ((wm.setCell ⟨bc, 0, none⟩ (.int .i64 ox)).setCell ⟨bc, 1, none⟩ (.int .i64 oy)) (.cells #[.int .i64 ox, .int .i64 oy] 41)))
                    have hown := HZb.out.row
                    have HOw := hide hown
                    have hnw : ∀ i u, (cA wd j)[i]? = some u → (((wm.setCell ⟨bc, 0, none⟩ (.int .i64 ox)).setCell ⟨bc, 1, none⟩ (.int .i64 oy)).alloc (.cells #[.int .i64 ox, .int .i64 oy] 41)).cell? ((⟨wm.heap.size, 0, none⟩ : Addr).add i) = some u := by
                      have := cA_new ((wm.setCell ⟨bc, 0, none⟩ (.int .i64 ox)).setCell ⟨bc, 1, none⟩ (.int .i64 oy)) wd j 41
                      rw [Hex.out, Hey.out, ← zw] at this
                      exact this
                    have Hnw := hide hnw
                    have hlo := HZm.out.lo
                    have hn1 : ¬ ob = bc := by omega
                    have hn2 : ¬ bc = ob := by omega
                    obtain ⟨⟨u0, u1⟩, ⟨u2, u3⟩, -⟩ := HZm.out.ce
                    obtain ⟨⟨o0, o1⟩, -, -⟩ := Hbm.out
                    obtain ⟨p0, p1⟩ := HZm.out.out.c
                    have hm1 : l.length + 1 ≤ maxLen := by have := Hln.out; unfold maxLen; omega
                    have hm2 : (l.length + 1) * 16 ≤ 140737488355328 := by have := Hln.out; omega
                    clear hown hnw hlo zw
                    go_wp2_with (at_builtin; go_loud (refine wpList_append_own_at _ rfl _ _ 47 rfl 0 41 fi (cel 0 0) 2 16 Tryd.underlying47 hfi hz9 h1 h8 rfl (by decide) (.slice a6 l.length cap6) l.length _ rfl HOw.out ⟨wm.heap.size, 0, none⟩ 1 1 (cA wd j) rfl rfl Hnw.out (cA_one wd j) hm1 hm2 (Nat.zero_le _) ?_); intro v' w9 hown9 hgrow9 hnil9 hloc9; obtain ⟨hZ9, hO9, hT9⟩ := HZb.out.push hown9 hgrow9 hloc9; obtain ⟨a7, cap7, hv7, -⟩ := Rw.form (cA_len wd) hZ9.row; subst hv7; have HZ9 := hide hZ9; have fz9 := hO9.fz 1; obtain ⟨p9, pv9⟩ := hO9.c; obtain ⟨⟨v0, v1⟩, -, -⟩ := hT9; clear hown9 hgrow9 hnil9 hloc9 hZ9 hO9 u0 u1 u2 u3 o0 o1 p0 p1)
                    have hle : (l ++ [j]).length = l.length + 1 := by simp
                    have HZx := hide (HZ9.out.box)
                    have hsz : (w9.setCell ⟨ob, 1, none⟩ (.slice a7 (l ++ [j]).length cap7)).heap.size = w9.heap.size := by simp [World.setCell]
                    rw [hsz, hle] at HZx
                    have e1 := Hln.out
                    have e2 := Hcv.out
                    have e3 := Hcj.out
                    go_roundw
                    case rel => exact ⟨j, _, ox, oy, _, l ++ [j], rfl, hjN, Hex.out, Hey.out, by rw [e3]; omega, HZx.out, by rw [hle]; omega⟩
                    case measure =>
                      have e4 := Hmx.out
                      have e5 := ixB_of HZx.out.ce Hex.out Hey.out
                      simp only [ptr] at e4 e5
                      simp only [ptr]
                      rw [e4, e5]
                      omega
                  ·
                    have hjd : decide ((0 : Int) ≤ A ox oy) = true := by simp; omega
                    have hjd2 : decide (A ox oy ≥ (0 : Int)) = true := hjd
                    have HF2 : Hid (∀ d' n, d' < dd + 1 → n < N → Lg wd ht St c d' n → 0 ≤ C n → C n + cst d' = C c → False) := hide fun d' n h1 h2 h3 h4 h5 => by
                      by_cases e2 : d' = dd
                      · subst e2
                        have h9 := Hone.out n h3.2
                        subst h9
                        rw [Hcj.out, Hco.out, Hcv.out] at h5
                        exact heq h5
                      · exact Hno.out d' n (by omega) h2 h3 h4 h5
                    go_wp2_with fail
                    refine wp_region_lat (by kernel_rfl) (by kernel_rfl) ?_
                    repeat (go_big_quiet_step (first | (go_at_call 30; exact calls_lat (HHm.out _)) | (go_at_call 35; exact calls_lat_same (HCo.out _)) | (go_at_call 33; refine calls_lat (HAm.out _ _ _ ?_); first | exact Or.inl ⟨rfl, rfl⟩ | exact Or.inr ⟨rfl, rfl⟩)))
                    refine wpQuiet_nil ?_
                    rintro _ ⟨m, rfl⟩
                    have HZm := hide (HZ11.out.upto m.h)
                    clear HZ11
                    go_wp2_with fail
                    go_roundw
                    case rel => exact ⟨dd + 1, by go_num, by omega, HZm.out, HF2.out⟩
                    case measure => simp [intOf]; omega
            · exfalso
              obtain ⟨d, n, hd, hn, hL, h0, he⟩ := Bf.down hwd HN.out HBf.out HFn.out hcN Hc0.out hct
              exact Hno.out d n (by omega) hn hL h0 he
        · go_wp2_with fail
          clear hx hq u0 u1 t0 t1
          go_loopw [17] (fun td wr => ∃ d : Nat, td = .int .i64 (d : Nat) ∧ d ≤ 8 ∧ Fz w wr wd ht N (.slice a0 N cap0) ax ay cx cy rb cb ob C bc ux uy (.slice a6 l.length cap6) l ∧ ∀ d' n, d' < d → n < N → Lg wd ht St c d' n → 0 ≤ C n → C n + cst d' = C c → False) (fun td _ => 8 - (intOf td).toNat)
          case atStart => exact ⟨0, rfl, by omega, HZ.out, fun d' n h => by omega⟩
          case round =>
            obtain ⟨dd, rfl, hdd, hZ2, hno⟩ := hrel
            clear HZ
            rename World => wi
            have HZ2 := hide hZ2
            have Hno := hide hno
            clear hZ2 hno
            by_cases hd8 : dd < 8
            · have hdI : ((dd : Nat) : Int) < 8 := by omega
              obtain ⟨r, hr⟩ : ∃ r, lg (gS wd ht St) ux uy (dd : Nat) = r := ⟨_, rfl⟩
              obtain ⟨ox, hox⟩ : ∃ ox, (if r = true then sX ux uy (dd : Nat) else 0) = ox := ⟨_, rfl⟩
              obtain ⟨oy, hoy⟩ : ∃ oy, (if r = true then sY ux uy (dd : Nat) else 0) = oy := ⟨_, rfl⟩
              have HSp : Hid (∀ wx, Below w.heap.size w wx → Calls Tryd.prog 34 #[gdv wd ht (.slice a0 N cap0), cel ux uy, .int .i64 (dd : Nat)] wx fun e' w' => e' = .returned (.tuple #[cel ox oy, .bool r]) ∧ Below wx.heap.size wx w') := hide fun wx hx => by
                have := HSp0.out wx hx ux uy (dd : Nat)
                rw [hr, hox, hoy] at this
                exact this
              have Hr := hide hr
              have Hox := hide hox
              have Hoy := hide hoy
              obtain ⟨⟨g0, g1⟩, g2⟩ := HZ2.out.fx.gb.c
              obtain ⟨⟨y0, y1⟩, -, -⟩ := HZ2.out.ce
              clear hr hox hoy
              go_wp2_with fail
              refine (HSp.out _ HZ2.out.fx.bl).mono ?_
              rintro e' w11 ⟨rfl, hb11⟩
              have B11 := bt hb11 (box1 w11 (.cells #[.int .i64 ox, .int .i64 oy] 41))
              have HZ11 := hide (HZ2.out.upto B11)
              have b9 : Two (w11.alloc (.cells #[.int .i64 ox, .int .i64 oy] 41)) w11.heap.size ox oy := Two.newAt rfl
              have Hb9 := hide b9
              have hne := lat_some (w11.alloc (.cells #[.int .i64 ox, .int .i64 oy] 41))
              clear hb11 B11 HSp g0 g1 g2 y0 y1 HZ2 b9
              cases r
              ·
                have HF2 : Hid (∀ d' n, d' < dd + 1 → n < N → Lg wd ht St c d' n → 0 ≤ C n → C n + cst d' = C c → False) := hide fun d' n h1 h2 h3 h4 h5 => by
                  by_cases e2 : d' = dd
                  · subst e2
                    have h9 := h3.1
                    rw [Hux.out, Huy.out, Hr.out] at h9
                    cases h9
                  · exact Hno.out d' n (by omega) h2 h3 h4 h5
                go_wp2_with fail
                refine wp_region_lat (by kernel_rfl) (by kernel_rfl) ?_
                repeat (go_big_quiet_step (fail))
                refine wpQuiet_nil ?_
                rintro _ ⟨m, rfl⟩
                have HZm := hide (HZ11.out.upto m.h)
                clear HZ11 hne
                go_wp2_with fail
                go_roundw
                case rel => exact ⟨dd + 1, by go_num, by omega, HZm.out, HF2.out⟩
                case measure => simp [intOf]; omega
              · have hlg := Hr.out
                rw [← Hux.out, ← Huy.out] at hlg
                have hsk : St c = true := (HBf.out.cn c hcN Hc0.out).right
                obtain ⟨j, hjN, hjn, hjs, hjc, hjx, hjy⟩ := lg_cn hwd HN.out hsk hcN hd8 hlg
                rw [Hux.out, Huy.out] at hjx hjy
                have ex : ((j % wd : Nat) : Int) = ox := by rw [← Hox.out, if_pos rfl]; exact hjx.symm
                have ey : ((j / wd : Nat) : Int) = oy := by rw [← Hoy.out, if_pos rfl]; exact hjy.symm
                have hHj := Hhas.out j hjN
                rw [ex, ey] at hHj
                have hone : ∀ j', nbr wd c j' dd → j' = j := fun j' hj' => idx_eq (wd := wd) (by have := hj'.1.trans hjn.1.symm; omega) (by have := hj'.2.trans hjn.2.symm; omega)
                have Hone := hide hone
                obtain ⟨co, hco⟩ : ∃ co, cst dd = co := ⟨_, rfl⟩
                have hcoI : 10 ≤ co ∧ co ≤ 14 := by rw [← hco]; exact cst_pos dd
                have HCo : Hid (∀ wx, Calls Tryd.prog 35 #[.int .i64 (dd : Nat)] wx fun e w' => e = .returned (.int .i64 co) ∧ w' = wx) := hide fun wx => by rw [← hco]; exact refcost_is dd hd8 wx
                obtain ⟨A, hA⟩ : ∃ A : Int → Int → Int, ∀ i : Nat, A ((i % wd : Nat) : Int) ((i / wd : Nat) : Int) = C i := ⟨fun x y => C (y.toNat * wd + x.toNat), fun i => by simp only [Int.toNat_natCast]; rw [Nat.mul_comm, Nat.div_add_mod]⟩
                have hcj : C j = A ox oy := by rw [← ex, ← ey]; exact (hA j).symm
                have hcv : C c = A ux uy := by rw [← Hux.out, ← Huy.out]; exact (hA c).symm
                clear hA
                have hcjb : -1 ≤ (A ox oy) ∧ (A ox oy) ≤ 9800 := by rw [← hcj]; exact ⟨HBf.out.ge j hjN, by have := HBf.out.le hjN; omega⟩
                have HHm : Hid (∀ m : Lat (w11.alloc (.cells #[.int .i64 ox, .int .i64 oy] 41)), Calls Tryd.prog 30 #[rct 0 0 wd ht, cel ox oy] m.w fun e w' => e = .returned (.bool true) ∧ Below m.w.heap.size m.w w') := hide fun m => refhas_is _ hHj
                have HAm : Hid (∀ (m : Lat (w11.alloc (.cells #[.int .i64 ox, .int .i64 oy] 41))) (x y : Int), ((x = ox ∧ y = oy) ∨ (x = ux ∧ y = uy)) → Calls Tryd.prog 33 #[sl cb N, rct 0 0 wd ht, cel x y] m.w fun e w' => e = .returned (.int .i64 (A x y)) ∧ Below m.w.heap.size m.w w') := hide fun m x y hq => by
                  rcases hq with ⟨rfl, rfl⟩ | ⟨rfl, rfl⟩
                  · exact HAt.out m.w cb j C _ _ _ (HZ11.out.upto m.h).nm hjN ex ey hcj
                  · exact HAt.out m.w cb c C _ _ _ (HZ11.out.upto m.h).nm hcN Hux.out Huy.out hcv
                have Hco := hide hco
                have Hcj := hide hcj
                have Hcv := hide hcv
                have Hex := hide ex
                have Hey := hide ey
                have hvw : IntKind.i64.wrap ((A ox oy) + co) = (A ox oy) + co := by rw [IntKind.wrap_i64]; omega
                have HLj : Hid (Lg wd ht St c dd j) := hide ⟨hlg, hjn⟩
                obtain ⟨k0, k1, k2, k3⟩ := Four.lat HZ11.out.rc
                obtain ⟨k4, k5⟩ := Two.lat Hb9.out
                obtain ⟨k6, k7⟩ := Two.lat HZ11.out.ce
                clear hlg hjx hjy ex ey hHj hone hjn hjs hjc hco hcj hcv
                by_cases hj0 : (A ox oy) < 0
                ·
                  have hjd : decide ((0 : Int) ≤ A ox oy) = false := by simp; omega
                  have hjd2 : decide (A ox oy ≥ (0 : Int)) = false := hjd
                  have HF2 : Hid (∀ d' n, d' < dd + 1 → n < N → Lg wd ht St c d' n → 0 ≤ C n → C n + cst d' = C c → False) := hide fun d' n h1 h2 h3 h4 h5 => by
                    by_cases e2 : d' = dd
                    · subst e2
                      have h9 := Hone.out n h3.2
                      subst h9
                      rw [Hcj.out] at h4
                      omega
                    · exact Hno.out d' n (by omega) h2 h3 h4 h5
                  go_wp2_with fail
                  refine wp_region_lat (by kernel_rfl) (by kernel_rfl) ?_
                  repeat (go_big_quiet_step (first | (go_at_call 30; exact calls_lat (HHm.out _)) | (go_at_call 35; exact calls_lat_same (HCo.out _)) | (go_at_call 33; refine calls_lat (HAm.out _ _ _ ?_); first | exact Or.inl ⟨rfl, rfl⟩ | exact Or.inr ⟨rfl, rfl⟩)))
                  refine wpQuiet_nil ?_
                  rintro _ ⟨m, rfl⟩
                  have HZm := hide (HZ11.out.upto m.h)
                  clear HZ11
                  go_wp2_with fail
                  go_roundw
                  case rel => exact ⟨dd + 1, by go_num, by omega, HZm.out, HF2.out⟩
                  case measure => simp [intOf]; omega
                · by_cases heq : (A ox oy) + co = (A ux uy)
                  ·
                    have hjd : decide ((0 : Int) ≤ A ox oy) = true := by simp; omega
                    have hjd2 : decide (A ox oy ≥ (0 : Int)) = true := hjd
                    go_wp2_with fail
                    refine wp_region_lat (by kernel_rfl) (by kernel_rfl) ?_
                    repeat (go_big_quiet_step (first | (go_at_call 30; exact calls_lat (HHm.out _)) | (go_at_call 35; exact calls_lat_same (HCo.out _)) | (go_at_call 33; refine calls_lat (HAm.out _ _ _ ?_); first | exact Or.inl ⟨rfl, rfl⟩ | exact Or.inr ⟨rfl, rfl⟩)))
                    refine wpQuiet_nil ?_
                    rintro _ ⟨m, rfl⟩
                    have HZm := hide (HZ11.out.upto m.h)
                    have Hbm := hide (Hb9.out.kept m.h)
                    obtain ⟨wm, hwm⟩ : ∃ wm, m.w = wm := ⟨_, rfl⟩
                    rw [hwm] at HZm Hbm
                    rw [hwm]
                    clear HZ11 Hb9 hwm m
                    have zw : wm.heap.size = ((wm.setCell ⟨bc, 0, none⟩ (.int .i64 ox)).setCell ⟨bc, 1, none⟩ (.int .i64 oy)).heap.size := by simp [World.setCell]
                    have HZs := hide (HZm.out.setc ox oy)
                    have HZb := hide (HZs.out.upto (box1 ((wm.setCell ⟨bc, 0, none⟩ (.int .i64 ox)).setCell ⟨bc, 1, none⟩ (.int .i64 oy)) (.cells #[.int .i64 ox, .int .i64 oy] 41)))
                    have hown := HZb.out.row
                    have HOw := hide hown
                    have hnw : ∀ i u, (cA wd j)[i]? = some u → (((wm.setCell ⟨bc, 0, none⟩ (.int .i64 ox)).setCell ⟨bc, 1, none⟩ (.int .i64 oy)).alloc (.cells #[.int .i64 ox, .int .i64 oy] 41)).cell? ((⟨wm.heap.size, 0, none⟩ : Addr).add i) = some u := by
                      have := cA_new ((wm.setCell ⟨bc, 0, none⟩ (.int .i64 ox)).setCell ⟨bc, 1, none⟩ (.int .i64 oy)) wd j 41
                      rw [Hex.out, Hey.out, ← zw] at this
                      exact this
                    have Hnw := hide hnw
                    have hlo := HZm.out.lo
                    have hn1 : ¬ ob = bc := by omega
                    have hn2 : ¬ bc = ob := by omega
                    obtain ⟨⟨u0, u1⟩, ⟨u2, u3⟩, -⟩ := HZm.out.ce
                    obtain ⟨⟨o0, o1⟩, -, -⟩ := Hbm.out
                    obtain ⟨p0, p1⟩ := HZm.out.out.c
                    have hm1 : l.length + 1 ≤ maxLen := by have := Hln.out; unfold maxLen; omega
                    have hm2 : (l.length + 1) * 16 ≤ 140737488355328 := by have := Hln.out; omega
                    clear hown hnw hlo zw
                    go_wp2_with (at_builtin; go_loud (refine wpList_append_own_at _ rfl _ _ 47 rfl 0 41 fi (cel 0 0) 2 16 Tryd.underlying47 hfi hz9 h1 h8 rfl (by decide) (.slice a6 l.length cap6) l.length _ rfl HOw.out ⟨wm.heap.size, 0, none⟩ 1 1 (cA wd j) rfl rfl Hnw.out (cA_one wd j) hm1 hm2 (Nat.zero_le _) ?_); intro v' w9 hown9 hgrow9 hnil9 hloc9; obtain ⟨hZ9, hO9, hT9⟩ := HZb.out.push hown9 hgrow9 hloc9; obtain ⟨a7, cap7, hv7, -⟩ := Rw.form (cA_len wd) hZ9.row; subst hv7; have HZ9 := hide hZ9; have fz9 := hO9.fz 1; obtain ⟨p9, pv9⟩ := hO9.c; obtain ⟨⟨v0, v1⟩, -, -⟩ := hT9; clear hown9 hgrow9 hnil9 hloc9 hZ9 hO9 u0 u1 u2 u3 o0 o1 p0 p1)
                    have hle : (l ++ [j]).length = l.length + 1 := by simp
                    have HZx := hide (HZ9.out.box)
                    have hsz : (w9.setCell ⟨ob, 1, none⟩ (.slice a7 (l ++ [j]).length cap7)).heap.size = w9.heap.size := by simp [World.setCell]
                    rw [hsz, hle] at HZx
                    have e1 := Hln.out
                    have e2 := Hcv.out
                    have e3 := Hcj.out
                    go_roundw
                    case rel => exact ⟨j, _, ox, oy, _, l ++ [j], rfl, hjN, Hex.out, Hey.out, by rw [e3]; omega, HZx.out, by rw [hle]; omega⟩
                    case measure =>
                      have e4 := Hmx.out
                      have e5 := ixB_of HZx.out.ce Hex.out Hey.out
                      simp only [ptr] at e4 e5
                      simp only [ptr]
                      rw [e4, e5]
                      omega
                  ·
                    have hjd : decide ((0 : Int) ≤ A ox oy) = true := by simp; omega
                    have hjd2 : decide (A ox oy ≥ (0 : Int)) = true := hjd
                    have HF2 : Hid (∀ d' n, d' < dd + 1 → n < N → Lg wd ht St c d' n → 0 ≤ C n → C n + cst d' = C c → False) := hide fun d' n h1 h2 h3 h4 h5 => by
                      by_cases e2 : d' = dd
                      · subst e2
                        have h9 := Hone.out n h3.2
                        subst h9
                        rw [Hcj.out, Hco.out, Hcv.out] at h5
                        exact heq h5
                      · exact Hno.out d' n (by omega) h2 h3 h4 h5
                    go_wp2_with fail
                    refine wp_region_lat (by kernel_rfl) (by kernel_rfl) ?_
                    repeat (go_big_quiet_step (first | (go_at_call 30; exact calls_lat (HHm.out _)) | (go_at_call 35; exact calls_lat_same (HCo.out _)) | (go_at_call 33; refine calls_lat (HAm.out _ _ _ ?_); first | exact Or.inl ⟨rfl, rfl⟩ | exact Or.inr ⟨rfl, rfl⟩)))
                    refine wpQuiet_nil ?_
                    rintro _ ⟨m, rfl⟩
                    have HZm := hide (HZ11.out.upto m.h)
                    clear HZ11
                    go_wp2_with fail
                    go_roundw
                    case rel => exact ⟨dd + 1, by go_num, by omega, HZm.out, HF2.out⟩
                    case measure => simp [intOf]; omega
            · exfalso
              obtain ⟨d, n, hd, hn, hL, h0, he⟩ := Bf.down hwd HN.out HBf.out HFn.out hcN Hc0.out hct
              exact Hno.out d n (by omega) hn hL h0 he
end Go.Proofs.YtoheibfijpdmfaaDoor
set_option linter.unusedSimpArgs false
namespace Go.Proofs.YtoheibfijpdmfaaDoor
open Go.RowKit Go.Shelf
set_option linter.unusedSectionVars false
variable [DecCn : ∀ (St : Nat → Bool) (Ad : Nat → Nat → Prop) (k i : Nat), Decidable (Cn St Ad k i)]
set_option linter.unusedVariables false
set_option maxHeartbeats 1000000 in
/-- Joined, by what At tells. -/
theorem pjoin_of (vp : Value) (x y u v : Int) (n m : Nat) (w : World) (h : ∀ wx, Below w.heap.size w wx → Calls Tryd.prog 18 #[vp, cel x y] wx fun e w' => e = .returned (.int .i64 (n : Nat)) ∧ Below wx.heap.size wx w') (h2 : ∀ wx, Below w.heap.size w wx → Calls Tryd.prog 18 #[vp, cel u v] wx fun e w' => e = .returned (.int .i64 (m : Nat)) ∧ Below wx.heap.size wx w') : Calls Tryd.prog 14 #[vp, cel x y, cel u v] w fun e w' => e = .returned (.bool (decide (n ≠ 0 ∧ n = m))) ∧ Below w.heap.size w w' := by
  by_cases hn : n = 0
  · subst hn
    have := pjoin_zero vp x y u v w h
    simpa using this
  obtain ⟨X, hX⟩ : ∃ X, (w.alloc (.cells #[.int .i64 x, .int .i64 y] 41)).alloc (.cells #[.int .i64 u, .int .i64 v] 41) = X := ⟨_, rfl⟩
  have B0 : Below w.heap.size w X := hX ▸ box2 _ _ _
  have b0 : Two X w.heap.size x y := hX ▸ (Two.newAt rfl).alloc
  have b1 : Two X (w.heap.size + 1) u v := hX ▸ Two.newAt (by simp)
  obtain ⟨⟨x0, x1⟩, -, -⟩ := id b0
  have HA := hide (h X B0)
  have H2 := hide h2
  have hnI : ¬ ((n : Nat) : Int) = 0 := by omega
  have Hb1 := hide b1
  clear h h2 b0 b1
  go_enter Tryd.func14, Tryd.ntmps14
  go_wp2_with fail
  try rw [hX]
  refine HA.out.mono ?_
  rintro e w1 ⟨rfl, hb1⟩
  obtain ⟨⟨y0, y1⟩, -, -⟩ := Hb1.out.kept hb1
  clear hX x0 x1
  go_wp2_with fail
  refine (H2.out _ (bt B0 hb1)).mono ?_
  rintro e w2 ⟨rfl, hb2⟩
  clear y0 y1
  go_wp2_with fail
  go_ret
  refine ⟨ret_bool ?_, bt B0 (bt hb1 hb2)⟩
  rw [Bool.eq_iff_iff]
  simp
  omega
/-- Find over the whole of a world: it finds a path just where both cells are joined. -/
theorem find_any {w : World} {wd ht N : Nat} {St : Nat → Bool} {iv : Value} {ax ay cx cy : Int} (h : Gd w wd ht N St iv) (hwd : (1 ≤ wd ∧ wd ≤ 128) ∧ 1 ≤ ht ∧ ht ≤ 128) (hN : N = wd * ht) (hN7 : N ≤ 700) (hSN : ∀ i, St i = true → i < N) :
    Calls Tryd.prog 12 #[gdv wd ht iv, cel ax ay, cel cx cy, rct 0 0 wd ht] w fun e w' => ∃ (k : Int) (a : Option Addr) (n m : Nat) (z : Int), e = .returned (.tuple #[.agg #[.int .i64 k, .slice a n m], .int .i64 z]) ∧ (k = 1 ↔ (atF wd ht (lb St (adI wd) N).1 ax ay ≠ 0 ∧ atF wd ht (lb St (adI wd) N).1 ax ay = atF wd ht (lb St (adI wd) N).1 cx cy)) ∧ Below w.heap.size w w' := by
  have hw : wd ≤ 128 ∧ ht ≤ 128 := ⟨hwd.1.2, hwd.2.2⟩
  have key : ∀ {x y : Int}, gS wd ht St x y = false → atF wd ht (lb St (adI wd) N).1 x y = 0 := fun {x y} hg => by
    unfold atF
    split
    · rename_i hh
      rw [has_in hw] at hh
      unfold gS at hg
      rw [decide_eq_true hh, Bool.true_and] at hg
      by_cases h0 : (lb St (adI wd) N).1 (y.toNat * wd + x.toNat) = 0
      · exact h0
      · have := lb_st N h0
        rw [hg] at this
        cases this
    · rfl
  have no : ∀ {e : Ending} {w' : World}, e = .returned (.tuple #[.agg #[.int .i64 2, .slice none 0 0], .int .i64 0]) ∧ Below w.heap.size w w' → (gS wd ht St ax ay = false ∨ gS wd ht St cx cy = false) → ∃ (k : Int) (a : Option Addr) (n m : Nat) (z : Int), e = .returned (.tuple #[.agg #[.int .i64 k, .slice a n m], .int .i64 z]) ∧ (k = 1 ↔ (atF wd ht (lb St (adI wd) N).1 ax ay ≠ 0 ∧ atF wd ht (lb St (adI wd) N).1 ax ay = atF wd ht (lb St (adI wd) N).1 cx cy)) ∧ Below w.heap.size w w' := fun {e w'} hh hg => by
    refine ⟨2, none, 0, 0, 0, hh.1, ⟨fun e => by omega, fun ⟨n1, n2⟩ => ?_⟩, hh.2⟩
    rcases hg with hg | hg
    · exact absurd (key hg) n1
    · rw [key hg] at n2; exact absurd n2 n1
  have out : ∀ {x y : Int}, has 0 0 (wd : Int) (ht : Int) x y = false → gS wd ht St x y = false := fun {x y} hh => by
    unfold gS
    rw [Bool.and_eq_false_iff]
    left
    rw [decide_eq_false_iff_not, ← has_in hw, hh]
    simp
  cases ha : has 0 0 (wd : Int) (ht : Int) ax ay
  · exact (find_out1 h hwd hN ha).mono (fun e w' q => no q (.inl (out ha)))
  cases hc : has 0 0 (wd : Int) (ht : Int) cx cy
  · exact (find_out2 h hwd hN ha hc).mono (fun e w' q => no q (.inr (out hc)))
  cases ha2 : gS wd ht St ax ay
  · exact (find_no1 h hwd hN ha hc ha2).mono (fun e w' q => no q (.inl ha2))
  cases hc2 : gS wd ht St cx cy
  · exact (find_no2 h hwd hN ha hc ha2 hc2).mono (fun e w' q => no q (.inr hc2))
  obtain ⟨ia, -, i2, i3, i4, i5⟩ := gS_at ha2
  obtain ⟨tg, -, t2, t3, t4, t5⟩ := gS_at hc2
  rw [← i3, ← i4, ← t3, ← t4, atF_idx hwd i2, atF_idx hwd t2, ← lb_same (adI_symm wd) hSN]
  exact find_yes h hwd hN hN7 hSN i5 t5
end Go.Proofs.YtoheibfijpdmfaaDoor
set_option linter.unusedSimpArgs false
namespace Go.Proofs.YtoheibfijpdmfaaDoor
open Go.RowKit Go.Shelf
set_option linter.unusedSectionVars false
variable [DecCn : ∀ (St : Nat → Bool) (Ad : Nat → Nat → Prop) (k i : Nat), Decidable (Cn St Ad k i)]
set_option linter.unusedVariables false
/-- Two cells. -/
abbrev two (x y u v : Int) : Value := .agg #[.int .i64 x, .int .i64 y, .int .i64 u, .int .i64 v]
theorem join_boxes (w : World) (W H : Int) (tv bv : Value) (c s x y u v : Int) : ∃ X, ((w.alloc (.cells #[.int .i64 W, .int .i64 H, tv, bv] 25)).alloc (.cells #[.int .i64 c, .int .i64 s] 27)).alloc (.cells #[.int .i64 x, .int .i64 y, .int .i64 u, .int .i64 v] 42) = X ∧ Below w.heap.size w X ∧ MB X w.heap.size W H tv bv ∧ Two X (w.heap.size + 1) c s ∧ Four X (w.heap.size + 1 + 1) x y u v := by
  have f0 : Four (((w.alloc (.cells #[.int .i64 W, .int .i64 H, tv, bv] 25)).alloc (.cells #[.int .i64 c, .int .i64 s] 27)).alloc (.cells #[.int .i64 x, .int .i64 y, .int .i64 u, .int .i64 v] 42)) ((w.alloc (.cells #[.int .i64 W, .int .i64 H, tv, bv] 25)).alloc (.cells #[.int .i64 c, .int .i64 s] 27)).heap.size x y u v := cells4 (Below.refl _ _)
  rw [World.size_alloc, World.size_alloc] at f0
  exact ⟨_, rfl, bt (box2 _ _ _) (box1 _ _), ((MB.new w W H tv bv).kept (box1 _ _)).kept (box1 _ _), (Two.newAt (by simp)).alloc, f0⟩
set_option maxRecDepth 100000 in
set_option maxHeartbeats 4000000 in
theorem join_bad (W H : Int) (tv bv : Value) (tl : List Nat) (L : List Bd) (c s x y u v : Int) (w : World) (hv : TlR w tv tl) (hb : ∀ x ∈ tl, x < 256) (hl : BdR w bv L) (hg : Grnd w) (ho : Offs w) (hc : chkC W H tl L = 1) :
    Calls Tryd.prog 4 #[mp W H tv bv, shv c s, two x y u v] w fun e w' => e = .returned (.bool true) ∧ Below w.heap.size w w' := by
  obtain ⟨X, hX, B0, M0, T0, C0⟩ := join_boxes w W H tv bv c s x y u v
  have HB := hide (both_no W H tv bv tl L X (hv.kept B0) hb (hl.kept B0) hc)
  have HA : Hid (∀ wx, Below w.heap.size w wx → Calls Tryd.prog 9 #[] wx fun e w' => e = .returned (.bool true) ∧ Below wx.heap.size wx w') := hide fun wx hx => awake_any wx (hg.kept hx) (ho.kept hx)
  obtain ⟨m0, m1, m2, m3⟩ := M0.c
  obtain ⟨a1, cap1, rfl, -⟩ := hv
  obtain ⟨a2, cap2, rfl, -⟩ := hl
  clear hc hb hg ho
  go_enter Tryd.func4, Tryd.ntmps4
  go_wp2_with fail
  try rw [hX]
  refine HB.out.mono ?_
  rintro e w1 ⟨rfl, hb1⟩
  have HB1 := hide (bt B0 hb1)
  have T1 := T0.kept hb1
  obtain ⟨⟨t0, t1⟩, -, -⟩ := id T1
  clear hX m0 m1 m2 m3 M0 T0 HB B0 hb1
  go_wp2_with fail
  refine (pnew_nil c s _).mono ?_
  rintro e w2 ⟨rfl, hb2⟩
  have HB2 := hide (bt HB1.out hb2)
  clear hb2 t0 t1 T1
  go_wp2_with fail
  refine (HA.out _ HB2.out).mono ?_
  rintro e w3 ⟨rfl, hb3⟩
  have HB3 := hide (bt HB2.out hb3)
  clear hb3
  go_wp2_with fail
  go_ret
  exact ⟨rfl, HB3.out⟩
set_option maxRecDepth 100000 in
set_option maxHeartbeats 4000000 in
theorem join_shape (W H : Int) (tv bv : Value) (tl : List Nat) (L : List Bd) (c s x y u v : Int) (w : World) (hv : TlR w tv tl) (hb : ∀ x ∈ tl, x < 256) (hl : BdR w bv L) (hg : Grnd w) (ho : Offs w) (hc : chkC W H tl L = 0) (hk : shB c s = false) :
    Calls Tryd.prog 4 #[mp W H tv bv, shv c s, two x y u v] w fun e w' => e = .returned (.bool true) ∧ Below w.heap.size w w' := by
  obtain ⟨X, hX, B0, M0, T0, C0⟩ := join_boxes w W H tv bv c s x y u v
  have HB := hide (both_ok W H tv bv tl L X (hv.kept B0) hb (hl.kept B0) hc)
  have HA : Hid (∀ wx, Below w.heap.size w wx → Calls Tryd.prog 9 #[] wx fun e w' => e = .returned (.bool true) ∧ Below wx.heap.size wx w') := hide fun wx hx => awake_any wx (hg.kept hx) (ho.kept hx)
  have HK := hide hk
  obtain ⟨m0, m1, m2, m3⟩ := M0.c
  obtain ⟨a1, cap1, rfl, -⟩ := hv
  obtain ⟨a2, cap2, rfl, -⟩ := hl
  clear hc hb hg ho hk
  go_enter Tryd.func4, Tryd.ntmps4
  go_wp2_with fail
  try rw [hX]
  refine HB.out.mono ?_
  rintro e w1 ⟨q, r, rfl, -, -, hb1⟩
  have HB1 := hide (bt B0 hb1)
  have T1 := T0.kept hb1
  obtain ⟨⟨t0, t1⟩, -, -⟩ := id T1
  clear hX m0 m1 m2 m3 M0 T0 HB B0 hb1
  go_wp2_with fail
  refine (pnew_bad _ c s _ HK.out).mono ?_
  rintro e w2 ⟨rfl, hb2⟩
  have HB2 := hide (bt HB1.out hb2)
  have T2 := T1.kept hb2
  obtain ⟨⟨u0, u1⟩, -, -⟩ := id T2
  clear hb2 t0 t1 T1
  go_wp2_with fail
  refine (HA.out _ HB2.out).mono ?_
  rintro e w4 ⟨rfl, hb4⟩
  have HB4 := hide (bt HB2.out hb4)
  clear hb4
  go_wp2_with fail
  go_ret
  exact ⟨rfl, HB4.out⟩
set_option maxRecDepth 100000 in
set_option maxHeartbeats 4000000 in
theorem join_many (wd ht : Nat) (hwd : (1 ≤ wd ∧ wd ≤ 128) ∧ 1 ≤ ht ∧ ht ≤ 128) (tv bv : Value) (tl : List Nat) (L : List Bd) (c : Int) (s : Nat) (x y u v : Int) (w : World) (hv : TlR w tv tl) (hb : ∀ x ∈ tl, x < 256) (hl : BdR w bv L) (hg : Grnd w) (ho : Offs w) (hc : chkC wd ht tl L = 0) (hk : shB c (s : Nat) = true) (h7 : 700 < wd * ht) :
    Calls Tryd.prog 4 #[mp wd ht tv bv, shv c (s : Nat), two x y u v] w fun e w' => e = .returned (.bool true) ∧ Below w.heap.size w w' := by
  have hs : 1 ≤ s ∧ s ≤ 4 := by
    simp only [shB, Bool.and_eq_true, decide_eq_true_eq] at hk
    omega
  obtain ⟨X, hX, B0, M0, T0, C0⟩ := join_boxes w wd ht tv bv c (s : Nat) x y u v
  have HB := hide (both_ok wd ht tv bv tl L X (hv.kept B0) hb (hl.kept B0) hc)
  have HA : Hid (∀ wx, Below w.heap.size w wx → Calls Tryd.prog 9 #[] wx fun e w' => e = .returned (.bool true) ∧ Below wx.heap.size wx w') := hide fun wx hx => awake_any wx (hg.kept hx) (ho.kept hx)
  have HG := hide hg
  have hml : IntKind.i64.wrap ((wd : Int) * (ht : Int)) = ((wd * ht : Nat) : Int) := by
    rw [show (wd : Int) * (ht : Int) = ((wd * ht : Nat) : Int) by push_cast; rfl]
    exact wrap_nat (by have := Nat.mul_le_mul hwd.1.2 hwd.2.2; omega)
  have h7I : (700 : Int) < ((wd * ht : Nat) : Int) := by omega
  have HM0 := hide M0
  have HO := hide ho
  have HK := hide hk
  obtain ⟨m0, m1, m2, m3⟩ := M0.c
  obtain ⟨a1, cap1, rfl, -⟩ := hv
  obtain ⟨a2, cap2, rfl, -⟩ := hl
  clear hc hb hg ho hk
  go_enter Tryd.func4, Tryd.ntmps4
  go_wp2_with fail
  try rw [hX]
  refine HB.out.mono ?_
  rintro e w1 ⟨q, r, rfl, hW, hR, hb1⟩
  have HW := hide hW
  have HR := hide hR
  have HB1 := hide (bt B0 hb1)
  have M1 := hide (HM0.out.kept hb1)
  have T1 := T0.kept hb1
  obtain ⟨⟨t0, t1⟩, -, -⟩ := id T1
  clear hX m0 m1 m2 m3 M0 T0 HB B0 hb1 hW hR
  go_wp2_with fail
  refine (pnew_good (N := wd * ht) c s HW.out.1 HW.out.2 (HG.out.kept HB1.out) (HO.out.kept HB1.out) rfl HK.out).mono ?_
  rintro e V ⟨p, fl, b2, b, pv, rfl, ⟨hP, hRw⟩, hb2, -, -⟩
  have HB2 := hide (bt HB1.out hb2)
  obtain ⟨n0, n1, n2, n3⟩ := (M1.out.kept hb2).c
  have T2 := T1.kept hb2
  obtain ⟨⟨u0, u1⟩, -, -⟩ := id T2
  have HP := hide hP
  have HRw := hide hRw
  have HRl := hide (HR.out.kept hb2)
  clear hP hRw hb2 t0 t1 T1 HW HR
  go_wp2_with fail
  refine (HA.out _ HB2.out).mono ?_
  rintro e w5 ⟨rfl, hb5⟩
  have HB5 := hide (bt HB2.out hb5)
  clear hb5
  go_wp2_with fail
  go_ret
  exact ⟨rfl, HB5.out⟩
end Go.Proofs.YtoheibfijpdmfaaDoor
set_option linter.unusedSimpArgs false
namespace Go.Proofs.YtoheibfijpdmfaaDoor
open Go.RowKit Go.Shelf
set_option linter.unusedSectionVars false
variable [DecCn : ∀ (St : Nat → Bool) (Ad : Nat → Nat → Prop) (k i : Nat), Decidable (Cn St Ad k i)]
set_option linter.unusedVariables false
theorem stand_num {wd ht : Nat} {St : Nat → Bool} (hwd : (1 ≤ wd ∧ wd ≤ 128) ∧ 1 ≤ ht ∧ ht ≤ 128) (hSN : ∀ i, St i = true → i < wd * ht) (x y : Int) : (atF wd ht (lb St (adI wd) (wd * ht)).1 x y ≠ 0 ∧ atF wd ht (lb St (adI wd) (wd * ht)).1 x y = atF wd ht (lb St (adI wd) (wd * ht)).1 x y) ↔ gS wd ht St x y = true := by
  constructor
  · rintro ⟨h0, -⟩
    unfold atF at h0
    split at h0
    · rename_i hh
      rw [has_in ⟨hwd.1.2, hwd.2.2⟩] at hh
      unfold gS
      rw [decide_eq_true hh, Bool.true_and]
      exact lb_st _ h0
    · exact absurd rfl h0
  · intro hg
    obtain ⟨j, -, j2, j3, j4, j5⟩ := gS_at hg
    rw [← j3, ← j4, atF_idx hwd j2]
    exact (lb_same (adI_symm wd) hSN j j).1 (.refl j j5)
set_option maxRecDepth 100000 in
set_option maxHeartbeats 16000000 in
theorem join_good (wd ht : Nat) (hwd : (1 ≤ wd ∧ wd ≤ 128) ∧ 1 ≤ ht ∧ ht ≤ 128) (tv bv : Value) (tl : List Nat) (L : List Bd) (c : Int) (s : Nat) (x y u v : Int) (w : World) (hv : TlR w tv tl) (hb : ∀ x ∈ tl, x < 256) (hl : BdR w bv L) (hg : Grnd w) (ho : Offs w) (hc : chkC wd ht tl L = 0) (hk : shB c (s : Nat) = true) (h7 : wd * ht ≤ 700) :
    Calls Tryd.prog 4 #[mp wd ht tv bv, shv c (s : Nat), two x y u v] w fun e w' => e = .returned (.bool true) ∧ Below w.heap.size w w' := by
  have hs : 1 ≤ s ∧ s ≤ 4 := by
    simp only [shB, Bool.and_eq_true, decide_eq_true_eq] at hk
    omega
  obtain ⟨X, hX, B0, M0, T0, C0⟩ := join_boxes w wd ht tv bv c (s : Nat) x y u v
  have HB := hide (both_ok wd ht tv bv tl L X (hv.kept B0) hb (hl.kept B0) hc)
  have HA : Hid (∀ wx, Below w.heap.size w wx → Calls Tryd.prog 9 #[] wx fun e w' => e = .returned (.bool true) ∧ Below wx.heap.size wx w') := hide fun wx hx => awake_any wx (hg.kept hx) (ho.kept hx)
  have HG := hide hg
  have hml : IntKind.i64.wrap ((wd : Int) * (ht : Int)) = ((wd * ht : Nat) : Int) := by
    rw [show (wd : Int) * (ht : Int) = ((wd * ht : Nat) : Int) by push_cast; rfl]
    exact wrap_nat (by have := Nat.mul_le_mul hwd.1.2 hwd.2.2; omega)
  have h7I : ¬ (700 : Int) < ((wd * ht : Nat) : Int) := by omega
  have HM0 := hide M0
  have HO := hide ho
  have HK := hide hk
  obtain ⟨m0, m1, m2, m3⟩ := M0.c
  obtain ⟨a1, cap1, rfl, -⟩ := hv
  obtain ⟨a2, cap2, rfl, -⟩ := hl
  clear hc hb hg ho hk
  go_enter Tryd.func4, Tryd.ntmps4
  go_wp2_with fail
  try rw [hX]
  refine HB.out.mono ?_
  rintro e w1 ⟨q, r, rfl, hW, hR, hb1⟩
  have HW := hide hW
  have HR := hide hR
  have HB1 := hide (bt B0 hb1)
  have M1 := hide (HM0.out.kept hb1)
  have T1 := T0.kept hb1
  have C1 := hide (C0.kept hb1)
  obtain ⟨⟨t0, t1⟩, -, -⟩ := id T1
  clear hX m0 m1 m2 m3 M0 T0 HB B0 hb1 hW hR
  go_wp2_with fail
  refine (pnew_good (N := wd * ht) c s HW.out.1 HW.out.2 (HG.out.kept HB1.out) (HO.out.kept HB1.out) rfl HK.out).mono ?_
  rintro e V ⟨p, fl, b2, b, pv, rfl, ⟨hP, hRw⟩, hb2, -, -⟩
  have HB2 := hide (bt HB1.out hb2)
  obtain ⟨n0, n1, n2, n3⟩ := (M1.out.kept hb2).c
  have T2 := T1.kept hb2
  have C2 := hide (C1.out.kept hb2)
  obtain ⟨⟨u0, u1⟩, -, -⟩ := id T2
  have HP := hide hP
  have HRw := hide hRw
  have HRl := hide (HR.out.kept hb2)
  clear hP hRw hb2 t0 t1 T1 HW HR
  go_wp2_with fail
  refine (of_gr (N := wd * ht) c s HRl.out hwd rfl hs).mono ?_
  rintro e w3 ⟨iv, rfl, hGd, hb3⟩
  generalize hcar : carB wd ht tl (whoF L) c = car at hGd HP
  obtain ⟨St, hSt⟩ : ∃ St, stI car wd (wd * ht) s = St := ⟨_, rfl⟩
  rw [hSt] at hGd HP
  have hSN : ∀ i, St i = true → i < wd * ht := fun i hi => stI_lt i (hSt ▸ hi)
  have hGd' : Gd w3 wd ht (wd * ht) St iv := hGd
  obtain ⟨a0, cap0, hiv, -⟩ := hGd'.form
  subst hiv
  have HB3 := hide (bt HB2.out hb3)
  have HP3 := hide (HP.out.upto hb3)
  have HR3 := hide (HRl.out.kept hb3)
  have C3 := hide (C2.out.kept hb3)
  have HGd := hide hGd'
  have HSN := hide hSN
  clear hGd hGd' hb3 u0 u1 T2 HP HRw HRl C2 n0 n1 n2 n3 hcar hSt hSN
  go_wp2_with fail
  obtain ⟨W5, hW5⟩ : ∃ W5, w3.alloc (.cells #[.int .i64 (wd : Nat), .int .i64 (ht : Nat), .slice a0 (wd * ht) cap0] 45) = W5 := ⟨_, rfl⟩
  have B5 : Below w3.heap.size w3 W5 := hW5 ▸ box1 _ _
  have G5 : GB W5 w3.heap.size wd ht (.slice a0 (wd * ht) cap0) := hW5 ▸ GB.new w3 wd ht _
  have HB5 := hide (bt HB3.out B5)
  have HP5 := hide (HP3.out.upto B5)
  have HR5 := hide (HR3.out.kept B5)
  have C5 := hide (C3.out.kept B5)
  have HGd5 := hide (HGd.out.upto B5)
  have HG5 := hide G5
  rw [hW5]
  clear hW5 B5 G5 HB3 HP3 HR3 C3 HGd
  go_cut [13, 14] (fun s13 s14 wx => ∃ (nb : Nat) (k : Int) (pv2 : Value) (z : Int), s13 = ptr nb ∧ s14 = .int .i64 z ∧ Pb wx nb k pv2 ∧ (k = 1 ↔ (atF wd ht (lb St (adI wd) (wd * ht)).1 x y ≠ 0 ∧ atF wd ht (lb St (adI wd) (wd * ht)).1 x y = atF wd ht (lb St (adI wd) (wd * ht)).1 u v)) ∧ Below W5.heap.size W5 wx)
  case first =>
    have HRa : Hid (∀ wx, Below W5.heap.size W5 wx → Calls Tryd.prog 13 #[ptr r] wx fun e w' => e = .returned (rct 0 0 wd ht) ∧ Below wx.heap.size wx w') := hide fun wx hx => refall_is (HR5.out.kept hx)
    have HFi : Hid (∀ wx, Below W5.heap.size W5 wx → Calls Tryd.prog 12 #[gdv wd ht (.slice a0 (wd * ht) cap0), cel x y, cel u v, rct 0 0 wd ht] wx fun e w' => ∃ (k : Int) (a : Option Addr) (n m : Nat) (z : Int), e = .returned (.tuple #[.agg #[.int .i64 k, .slice a n m], .int .i64 z]) ∧ (k = 1 ↔ (atF wd ht (lb St (adI wd) (wd * ht)).1 x y ≠ 0 ∧ atF wd ht (lb St (adI wd) (wd * ht)).1 x y = atF wd ht (lb St (adI wd) (wd * ht)).1 u v)) ∧ Below wx.heap.size wx w') := hide fun wx hx => find_any (HGd5.out.upto hx) hwd rfl h7 HSN.out
    obtain ⟨NN, hNN⟩ : ∃ NN, wd * ht = NN := ⟨_, rfl⟩
    rw [hNN] at HFi HG5
    rw [hNN]
    have HS : Hid (∀ wx, Below W5.heap.size W5 wx → (((wx.cell? ⟨w3.heap.size, 0, none⟩ = some (.int .i64 (wd : Nat)) ∧ wx.cell? ⟨w3.heap.size, 1, none⟩ = some (.int .i64 (ht : Nat))) ∧ wx.cell? ⟨w3.heap.size, 2, none⟩ = some (.slice a0 NN cap0)) ∧ (wx.cell? ⟨w.heap.size + 1 + 1, 0, none⟩ = some (.int .i64 x) ∧ wx.cell? ⟨w.heap.size + 1 + 1, 1, none⟩ = some (.int .i64 y) ∧ wx.cell? ⟨w.heap.size + 1 + 1, 2, none⟩ = some (.int .i64 u) ∧ wx.cell? ⟨w.heap.size + 1 + 1, 3, none⟩ = some (.int .i64 v))) ∧ Below W5.heap.size W5 wx) := hide fun wx hx => ⟨⟨(HG5.out.upto hx).c, (C5.out.kept hx).1⟩, hx⟩
    clear HB5 HP5 HR5 C5 HGd5 HG5 HA HG HO HK HM0 HB1 M1 C1 HB2 HSN hml h7I C0
    have HNN := hide hNN
    clear hNN
    refine wp_only ?_
    refine wp_region_held_drew (S := fun wx => (((wx.cell? ⟨w3.heap.size, 0, none⟩ = some (.int .i64 (wd : Nat)) ∧ wx.cell? ⟨w3.heap.size, 1, none⟩ = some (.int .i64 (ht : Nat))) ∧ wx.cell? ⟨w3.heap.size, 2, none⟩ = some (.slice a0 NN cap0)) ∧ (wx.cell? ⟨w.heap.size + 1 + 1, 0, none⟩ = some (.int .i64 x) ∧ wx.cell? ⟨w.heap.size + 1 + 1, 1, none⟩ = some (.int .i64 y) ∧ wx.cell? ⟨w.heap.size + 1 + 1, 2, none⟩ = some (.int .i64 u) ∧ wx.cell? ⟨w.heap.size + 1 + 1, 3, none⟩ = some (.int .i64 v))) ∧ Below W5.heap.size W5 wx) (by kernel_rfl) (HS.out _ (Below.refl _ _).drew) (fun hHeld => ?_)
    refine wpAnyH_take (i := 0) (v := ?_) rfl (by kernel_rfl) (by kernel_rfl) (by kernel_rfl) (fun _ _ _ h => h.elim) (Or.inl ⟨by rfl, ?_⟩) (by assumption) ?_
    rotate_left
    · intro wx hSw
      try dsimp only at hSw
      go_simp
      try with_reducible rfl
    try simp only [Act.put, List.getElem_toArray, List.getElem_cons_zero, List.getElem_cons_succ, List.setIfInBounds_toArray, List.set_cons_zero, List.set_cons_succ]
    refine wpAnyH_take (i := 1) (v := ?_) rfl (by kernel_rfl) (by kernel_rfl) (by kernel_rfl) (fun _ _ _ h => h.elim) (Or.inl ⟨by rfl, ?_⟩) (by assumption) ?_
    rotate_left
    · intro wx hSw
      try dsimp only at hSw
      go_simp
      try with_reducible rfl
    try simp only [Act.put, List.getElem_toArray, List.getElem_cons_zero, List.getElem_cons_succ, List.setIfInBounds_toArray, List.set_cons_zero, List.set_cons_succ]
    refine wpAnyH_take (i := 2) (v := ?_) rfl (by kernel_rfl) (by kernel_rfl) (by kernel_rfl) (fun _ _ _ h => h.elim) (Or.inl ⟨by rfl, ?_⟩) (by assumption) ?_
    rotate_left
    · intro wx hSw
      try dsimp only at hSw
      go_simp
      try with_reducible rfl
    try simp only [Act.put, List.getElem_toArray, List.getElem_cons_zero, List.getElem_cons_succ, List.setIfInBounds_toArray, List.set_cons_zero, List.set_cons_succ]
    refine wpAnyH_take (i := 3) (v := ?_) rfl (by kernel_rfl) (by kernel_rfl) (by kernel_rfl) (fun _ _ _ h => h.elim) (Or.inl ⟨by rfl, ?_⟩) (by assumption) ?_
    rotate_left
    · intro wx hSw
      try dsimp only at hSw
      go_simp
      try with_reducible rfl
    try simp only [Act.put, List.getElem_toArray, List.getElem_cons_zero, List.getElem_cons_succ, List.setIfInBounds_toArray, List.set_cons_zero, List.set_cons_succ]
    refine wpAnyH_take (i := 4) (v := ?_) rfl (by kernel_rfl) (by kernel_rfl) (by kernel_rfl) (fun _ _ _ h => h.elim) (Or.inl ⟨by rfl, ?_⟩) (by assumption) ?_
    rotate_left
    · intro wx hSw
      try dsimp only at hSw
      go_simp
      try with_reducible rfl
    try simp only [Act.put, List.getElem_toArray, List.getElem_cons_zero, List.getElem_cons_succ, List.setIfInBounds_toArray, List.set_cons_zero, List.set_cons_succ]
    refine wpAnyH_take (i := 5) (v := ?_) rfl (by kernel_rfl) (by kernel_rfl) (by kernel_rfl) (fun _ _ _ h => h.elim) (Or.inl ⟨by rfl, ?_⟩) (by assumption) ?_
    rotate_left
    · intro wx hSw
      try dsimp only at hSw
      go_simp
      try with_reducible rfl
    try simp only [Act.put, List.getElem_toArray, List.getElem_cons_zero, List.getElem_cons_succ, List.setIfInBounds_toArray, List.set_cons_zero, List.set_cons_succ]
    refine wpAnyH_ready (rs := [6, 11]) (by kernel_rfl) (by simp) ?_
    refine AllReadyH.cons rfl (fun K hK => ?_) ?_
    · go_simp
      refine (HRa.out _ hHeld.2).mono ?_
      rintro e wA ⟨rfl, hbA⟩
      refine hK.out _ _ ?_ (fun hHeld => ?_)
      · first | exact HS.out _ (bt (bt (bt (Below.refl _ W5).drew hbA) hbB) (box1 _ _)) | exact HS.out _ (bt hHeld.2 hbA) | exact HS.out _ (bt hHeld.2 hbB) | exact HS.out _ (bt hHeld.2 (box1 _ _)) | exact HS.out _ (set2 hHeld.2 (by first | (simp; done) | (simp; omega)) (by first | (simp; done) | (simp; omega)))
      clear hK K
      try simp only [Act.put, List.getElem_toArray, List.getElem_cons_zero, List.getElem_cons_succ, List.setIfInBounds_toArray, List.set_cons_zero, List.set_cons_succ]
      refine wpAnyH_ready (rs := [7, 11]) (by kernel_rfl) (by simp) ?_
      refine AllReadyH.cons rfl (fun K hK => ?_) ?_
      · go_simp
        refine (HFi.out _ hHeld.2).mono ?_
        rintro e wB ⟨k, a9, n9, m9, z9, rfl, hk, hbB⟩
        refine hK.out _ _ ?_ (fun hHeld => ?_)
        · first | exact HS.out _ (bt (bt (bt (Below.refl _ W5).drew hbA) hbB) (box1 _ _)) | exact HS.out _ (bt hHeld.2 hbA) | exact HS.out _ (bt hHeld.2 hbB) | exact HS.out _ (bt hHeld.2 (box1 _ _)) | exact HS.out _ (set2 hHeld.2 (by first | (simp; done) | (simp; omega)) (by first | (simp; done) | (simp; omega)))
        clear hK K
        try simp only [Act.put, List.getElem_toArray, List.getElem_cons_zero, List.getElem_cons_succ, List.setIfInBounds_toArray, List.set_cons_zero, List.set_cons_succ]
        refine wpAnyH_take (i := 8) (v := ?_) rfl (by kernel_rfl) (by kernel_rfl) (by kernel_rfl) (fun _ _ _ h => h.elim) (Or.inl ⟨by rfl, ?_⟩) (by assumption) ?_
        rotate_left
        · intro wx hSw
          try dsimp only at hSw
          go_simp
          try with_reducible rfl
        try simp only [Act.put, List.getElem_toArray, List.getElem_cons_zero, List.getElem_cons_succ, List.setIfInBounds_toArray, List.set_cons_zero, List.set_cons_succ]
        refine wpAnyH_take (i := 9) (v := ?_) rfl (by kernel_rfl) (by kernel_rfl) (by kernel_rfl) (fun _ _ _ h => h.elim) (Or.inl ⟨by rfl, ?_⟩) (by assumption) ?_
        rotate_left
        · intro wx hSw
          try dsimp only at hSw
          go_simp
          try with_reducible rfl
        try simp only [Act.put, List.getElem_toArray, List.getElem_cons_zero, List.getElem_cons_succ, List.setIfInBounds_toArray, List.set_cons_zero, List.set_cons_succ]
        refine wpAnyH_take (i := 10) (v := ?_) rfl (by kernel_rfl) (by kernel_rfl) (by kernel_rfl) (fun _ _ _ h => h.elim) (Or.inl ⟨by rfl, ?_⟩) (by assumption) ?_
        rotate_left
        · intro wx hSw
          try dsimp only at hSw
          go_simp
          try with_reducible rfl
        try simp only [Act.put, List.getElem_toArray, List.getElem_cons_zero, List.getElem_cons_succ, List.setIfInBounds_toArray, List.set_cons_zero, List.set_cons_succ]
        refine wpAnyH_ready (rs := [11]) (by kernel_rfl) (by simp) ?_
        refine AllReadyH.cons rfl (fun K hK => ?_) ?_
        · go_simp
          refine hK.out _ _ ?_ (fun hHeld => ?_)
          · first | exact HS.out _ (bt (bt (bt (Below.refl _ W5).drew hbA) hbB) (box1 _ _)) | exact HS.out _ (bt hHeld.2 hbA) | exact HS.out _ (bt hHeld.2 hbB) | exact HS.out _ (bt hHeld.2 (box1 _ _)) | exact HS.out _ (set2 hHeld.2 (by first | (simp; done) | (simp; omega)) (by first | (simp; done) | (simp; omega)))
          clear hK K
          try simp only [Act.put, List.getElem_toArray, List.getElem_cons_zero, List.getElem_cons_succ, List.setIfInBounds_toArray, List.set_cons_zero, List.set_cons_succ]
          have P9 : Pb (wB.alloc (.cells #[.int .i64 0, .slice none 0 0] 49)) wB.heap.size 0 (.slice none 0 0) := Pb.new wB 0 (.slice none 0 0)
          have hn9 : W5.heap.size ≤ wB.heap.size := Nat.le_trans (show W5.heap.size ≤ wA.heap.size from hbA.size) hbB.size
          obtain ⟨p90, p91⟩ := P9.c
          have f90 := P9.fz 0
          have f91 := P9.fz 1
          have HP9 := hide P9
          clear P9
          refine wpAnyH_ready (rs := [12]) (by kernel_rfl) (by simp) ?_
          refine AllReadyH.cons rfl (fun K hK => ?_) ?_
          · go_simp
            refine hK.out _ _ ?_ (fun hHeld => ?_)
            · first | exact HS.out _ (bt (bt (bt (Below.refl _ W5).drew hbA) hbB) (box1 _ _)) | exact HS.out _ (bt hHeld.2 hbA) | exact HS.out _ (bt hHeld.2 hbB) | exact HS.out _ (bt hHeld.2 (box1 _ _)) | exact HS.out _ (set2 hHeld.2 (by first | (simp; done) | (simp; omega)) (by first | (simp; done) | (simp; omega)))
            clear hK K
            try simp only [Act.put, List.getElem_toArray, List.getElem_cons_zero, List.getElem_cons_succ, List.setIfInBounds_toArray, List.set_cons_zero, List.set_cons_succ]
            refine wpAnyH_take (i := 13) (v := ?_) rfl (by kernel_rfl) (by kernel_rfl) (by kernel_rfl) (fun _ _ _ h => h.elim) (Or.inl ⟨by rfl, ?_⟩) (by assumption) ?_
            rotate_left
            · intro wx hSw
              try dsimp only at hSw
              go_simp
              try with_reducible rfl
            try simp only [Act.put, List.getElem_toArray, List.getElem_cons_zero, List.getElem_cons_succ, List.setIfInBounds_toArray, List.set_cons_zero, List.set_cons_succ]
            refine wpAnyH_done (by kernel_rfl) ?_ _
            dsimp only [Only, Exit.then]
            go_wp2_with fail
            go_meet
            first | exact ⟨_, k, _, z9, rfl, rfl, HP9.out.all k _, (by rw [HNN.out]; exact hk), hHeld.2⟩ | exact ⟨_, k, _, z9, rfl, rfl, Pb.new _ k _, (by rw [HNN.out]; exact hk), hHeld.2⟩
          exact AllReadyH.nil
        exact AllReadyH.nil
      refine AllReadyH.cons rfl (fun K hK => ?_) ?_
      · go_simp
        refine hK.out _ _ ?_ (fun hHeld => ?_)
        · first | exact HS.out _ (bt (bt (bt (Below.refl _ W5).drew hbA) hbB) (box1 _ _)) | exact HS.out _ (bt hHeld.2 hbA) | exact HS.out _ (bt hHeld.2 hbB) | exact HS.out _ (bt hHeld.2 (box1 _ _)) | exact HS.out _ (set2 hHeld.2 (by first | (simp; done) | (simp; omega)) (by first | (simp; done) | (simp; omega)))
        clear hK K
        try simp only [Act.put, List.getElem_toArray, List.getElem_cons_zero, List.getElem_cons_succ, List.setIfInBounds_toArray, List.set_cons_zero, List.set_cons_succ]
        refine wpAnyH_ready (rs := [7]) (by kernel_rfl) (by simp) ?_
        refine AllReadyH.cons rfl (fun K hK => ?_) ?_
        · go_simp
          refine (HFi.out _ hHeld.2).mono ?_
          rintro e wB ⟨k, a9, n9, m9, z9, rfl, hk, hbB⟩
          refine hK.out _ _ ?_ (fun hHeld => ?_)
          · first | exact HS.out _ (bt (bt (bt (Below.refl _ W5).drew hbA) hbB) (box1 _ _)) | exact HS.out _ (bt hHeld.2 hbA) | exact HS.out _ (bt hHeld.2 hbB) | exact HS.out _ (bt hHeld.2 (box1 _ _)) | exact HS.out _ (set2 hHeld.2 (by first | (simp; done) | (simp; omega)) (by first | (simp; done) | (simp; omega)))
          clear hK K
          try simp only [Act.put, List.getElem_toArray, List.getElem_cons_zero, List.getElem_cons_succ, List.setIfInBounds_toArray, List.set_cons_zero, List.set_cons_succ]
          refine wpAnyH_take (i := 8) (v := ?_) rfl (by kernel_rfl) (by kernel_rfl) (by kernel_rfl) (fun _ _ _ h => h.elim) (Or.inl ⟨by rfl, ?_⟩) (by assumption) ?_
          rotate_left
          · intro wx hSw
            try dsimp only at hSw
            go_simp
            try with_reducible rfl
          try simp only [Act.put, List.getElem_toArray, List.getElem_cons_zero, List.getElem_cons_succ, List.setIfInBounds_toArray, List.set_cons_zero, List.set_cons_succ]
          refine wpAnyH_take (i := 9) (v := ?_) rfl (by kernel_rfl) (by kernel_rfl) (by kernel_rfl) (fun _ _ _ h => h.elim) (Or.inl ⟨by rfl, ?_⟩) (by assumption) ?_
          rotate_left
          · intro wx hSw
            try dsimp only at hSw
            go_simp
            try with_reducible rfl
          try simp only [Act.put, List.getElem_toArray, List.getElem_cons_zero, List.getElem_cons_succ, List.setIfInBounds_toArray, List.set_cons_zero, List.set_cons_succ]
          refine wpAnyH_take (i := 10) (v := ?_) rfl (by kernel_rfl) (by kernel_rfl) (by kernel_rfl) (fun _ _ _ h => h.elim) (Or.inl ⟨by rfl, ?_⟩) (by assumption) ?_
          rotate_left
          · intro wx hSw
            try dsimp only at hSw
            go_simp
            try with_reducible rfl
          try simp only [Act.put, List.getElem_toArray, List.getElem_cons_zero, List.getElem_cons_succ, List.setIfInBounds_toArray, List.set_cons_zero, List.set_cons_succ]
          have P9 : Pb wB wA.heap.size 0 (.slice none 0 0) := (Pb.new wA 0 (.slice none 0 0)).upto hbB
          have hn9 : W5.heap.size ≤ wA.heap.size := hbA.size
          obtain ⟨p90, p91⟩ := P9.c
          have f90 := P9.fz 0
          have f91 := P9.fz 1
          have HP9 := hide P9
          clear P9
          refine wpAnyH_ready (rs := [12]) (by kernel_rfl) (by simp) ?_
          refine AllReadyH.cons rfl (fun K hK => ?_) ?_
          · go_simp
            refine hK.out _ _ ?_ (fun hHeld => ?_)
            · first | exact HS.out _ (bt (bt (bt (Below.refl _ W5).drew hbA) hbB) (box1 _ _)) | exact HS.out _ (bt hHeld.2 hbA) | exact HS.out _ (bt hHeld.2 hbB) | exact HS.out _ (bt hHeld.2 (box1 _ _)) | exact HS.out _ (set2 hHeld.2 (by first | (simp; done) | (simp; omega)) (by first | (simp; done) | (simp; omega)))
            clear hK K
            try simp only [Act.put, List.getElem_toArray, List.getElem_cons_zero, List.getElem_cons_succ, List.setIfInBounds_toArray, List.set_cons_zero, List.set_cons_succ]
            refine wpAnyH_take (i := 13) (v := ?_) rfl (by kernel_rfl) (by kernel_rfl) (by kernel_rfl) (fun _ _ _ h => h.elim) (Or.inl ⟨by rfl, ?_⟩) (by assumption) ?_
            rotate_left
            · intro wx hSw
              try dsimp only at hSw
              go_simp
              try with_reducible rfl
            try simp only [Act.put, List.getElem_toArray, List.getElem_cons_zero, List.getElem_cons_succ, List.setIfInBounds_toArray, List.set_cons_zero, List.set_cons_succ]
            refine wpAnyH_done (by kernel_rfl) ?_ _
            dsimp only [Only, Exit.then]
            go_wp2_with fail
            go_meet
            first | exact ⟨_, k, _, z9, rfl, rfl, HP9.out.all k _, (by rw [HNN.out]; exact hk), hHeld.2⟩ | exact ⟨_, k, _, z9, rfl, rfl, Pb.new _ k _, (by rw [HNN.out]; exact hk), hHeld.2⟩
          exact AllReadyH.nil
        exact AllReadyH.nil
      exact AllReadyH.nil
    refine AllReadyH.cons rfl (fun K hK => ?_) ?_
    · go_simp
      refine hK.out _ _ ?_ (fun hHeld => ?_)
      · first | exact HS.out _ (bt (bt (bt (Below.refl _ W5).drew hbA) hbB) (box1 _ _)) | exact HS.out _ (bt hHeld.2 hbA) | exact HS.out _ (bt hHeld.2 hbB) | exact HS.out _ (bt hHeld.2 (box1 _ _)) | exact HS.out _ (set2 hHeld.2 (by first | (simp; done) | (simp; omega)) (by first | (simp; done) | (simp; omega)))
      clear hK K
      try simp only [Act.put, List.getElem_toArray, List.getElem_cons_zero, List.getElem_cons_succ, List.setIfInBounds_toArray, List.set_cons_zero, List.set_cons_succ]
      refine wpAnyH_ready (rs := [6]) (by kernel_rfl) (by simp) ?_
      refine AllReadyH.cons rfl (fun K hK => ?_) ?_
      · go_simp
        refine (HRa.out _ hHeld.2).mono ?_
        rintro e wA ⟨rfl, hbA⟩
        refine hK.out _ _ ?_ (fun hHeld => ?_)
        · first | exact HS.out _ (bt (bt (bt (Below.refl _ W5).drew hbA) hbB) (box1 _ _)) | exact HS.out _ (bt hHeld.2 hbA) | exact HS.out _ (bt hHeld.2 hbB) | exact HS.out _ (bt hHeld.2 (box1 _ _)) | exact HS.out _ (set2 hHeld.2 (by first | (simp; done) | (simp; omega)) (by first | (simp; done) | (simp; omega)))
        clear hK K
        try simp only [Act.put, List.getElem_toArray, List.getElem_cons_zero, List.getElem_cons_succ, List.setIfInBounds_toArray, List.set_cons_zero, List.set_cons_succ]
        refine wpAnyH_ready (rs := [7]) (by kernel_rfl) (by simp) ?_
        refine AllReadyH.cons rfl (fun K hK => ?_) ?_
        · go_simp
          refine (HFi.out _ hHeld.2).mono ?_
          rintro e wB ⟨k, a9, n9, m9, z9, rfl, hk, hbB⟩
          refine hK.out _ _ ?_ (fun hHeld => ?_)
          · first | exact HS.out _ (bt (bt (bt (Below.refl _ W5).drew hbA) hbB) (box1 _ _)) | exact HS.out _ (bt hHeld.2 hbA) | exact HS.out _ (bt hHeld.2 hbB) | exact HS.out _ (bt hHeld.2 (box1 _ _)) | exact HS.out _ (set2 hHeld.2 (by first | (simp; done) | (simp; omega)) (by first | (simp; done) | (simp; omega)))
          clear hK K
          try simp only [Act.put, List.getElem_toArray, List.getElem_cons_zero, List.getElem_cons_succ, List.setIfInBounds_toArray, List.set_cons_zero, List.set_cons_succ]
          refine wpAnyH_take (i := 8) (v := ?_) rfl (by kernel_rfl) (by kernel_rfl) (by kernel_rfl) (fun _ _ _ h => h.elim) (Or.inl ⟨by rfl, ?_⟩) (by assumption) ?_
          rotate_left
          · intro wx hSw
            try dsimp only at hSw
            go_simp
            try with_reducible rfl
          try simp only [Act.put, List.getElem_toArray, List.getElem_cons_zero, List.getElem_cons_succ, List.setIfInBounds_toArray, List.set_cons_zero, List.set_cons_succ]
          refine wpAnyH_take (i := 9) (v := ?_) rfl (by kernel_rfl) (by kernel_rfl) (by kernel_rfl) (fun _ _ _ h => h.elim) (Or.inl ⟨by rfl, ?_⟩) (by assumption) ?_
          rotate_left
          · intro wx hSw
            try dsimp only at hSw
            go_simp
            try with_reducible rfl
          try simp only [Act.put, List.getElem_toArray, List.getElem_cons_zero, List.getElem_cons_succ, List.setIfInBounds_toArray, List.set_cons_zero, List.set_cons_succ]
          refine wpAnyH_take (i := 10) (v := ?_) rfl (by kernel_rfl) (by kernel_rfl) (by kernel_rfl) (fun _ _ _ h => h.elim) (Or.inl ⟨by rfl, ?_⟩) (by assumption) ?_
          rotate_left
          · intro wx hSw
            try dsimp only at hSw
            go_simp
            try with_reducible rfl
          try simp only [Act.put, List.getElem_toArray, List.getElem_cons_zero, List.getElem_cons_succ, List.setIfInBounds_toArray, List.set_cons_zero, List.set_cons_succ]
          have P9 : Pb wB W5.heap.size 0 (.slice none 0 0) := ((Pb.new W5.drew 0 (.slice none 0 0)).upto hbA).upto hbB
          have hn9 : W5.heap.size ≤ W5.heap.size := Nat.le_refl _
          obtain ⟨p90, p91⟩ := P9.c
          have f90 := P9.fz 0
          have f91 := P9.fz 1
          have HP9 := hide P9
          clear P9
          refine wpAnyH_ready (rs := [12]) (by kernel_rfl) (by simp) ?_
          refine AllReadyH.cons rfl (fun K hK => ?_) ?_
          · go_simp
            refine hK.out _ _ ?_ (fun hHeld => ?_)
            · first | exact HS.out _ (bt (bt (bt (Below.refl _ W5).drew hbA) hbB) (box1 _ _)) | exact HS.out _ (bt hHeld.2 hbA) | exact HS.out _ (bt hHeld.2 hbB) | exact HS.out _ (bt hHeld.2 (box1 _ _)) | exact HS.out _ (set2 hHeld.2 (by first | (simp; done) | (simp; omega)) (by first | (simp; done) | (simp; omega)))
            clear hK K
            try simp only [Act.put, List.getElem_toArray, List.getElem_cons_zero, List.getElem_cons_succ, List.setIfInBounds_toArray, List.set_cons_zero, List.set_cons_succ]
            refine wpAnyH_take (i := 13) (v := ?_) rfl (by kernel_rfl) (by kernel_rfl) (by kernel_rfl) (fun _ _ _ h => h.elim) (Or.inl ⟨by rfl, ?_⟩) (by assumption) ?_
            rotate_left
            · intro wx hSw
              try dsimp only at hSw
              go_simp
              try with_reducible rfl
            try simp only [Act.put, List.getElem_toArray, List.getElem_cons_zero, List.getElem_cons_succ, List.setIfInBounds_toArray, List.set_cons_zero, List.set_cons_succ]
            refine wpAnyH_done (by kernel_rfl) ?_ _
            dsimp only [Only, Exit.then]
            go_wp2_with fail
            go_meet
            first | exact ⟨_, k, _, z9, rfl, rfl, HP9.out.all k _, (by rw [HNN.out]; exact hk), hHeld.2⟩ | exact ⟨_, k, _, z9, rfl, rfl, Pb.new _ k _, (by rw [HNN.out]; exact hk), hHeld.2⟩
          exact AllReadyH.nil
        exact AllReadyH.nil
      exact AllReadyH.nil
    exact AllReadyH.nil
  case rest =>
    obtain ⟨nb, k, pv2, z9, rfl, rfl, hPb, hk, hBc⟩ := hcut
    rename World => wc
    have hne := lat_some wc
    obtain ⟨A, hA⟩ : ∃ A : Int → Int → Nat, A = atF wd ht (lb St (adI wd) (wd * ht)).1 := ⟨_, rfl⟩
    have HAt : Hid (∀ (m : Lat wc) (x y : Int) wx, Below m.w.heap.size m.w wx → Calls Tryd.prog 18 #[ptr p, cel x y] wx fun e w' => e = .returned (.int .i64 (A x y : Nat)) ∧ Below wx.heap.size wx w') := hide fun m x y wx hx => by
      rw [hA]; exact pat_any x y (HP5.out.upto (bt hBc (bt m.h hx))) ⟨hwd.1.2, hwd.2.2⟩
    obtain ⟨J, hJ⟩ : ∃ J : Int → Int → Int → Int → Bool, ∀ x y u v, J x y u v = decide (A x y ≠ 0 ∧ A x y = A u v) := ⟨_, fun _ _ _ _ => rfl⟩
    have HJn : Hid (∀ (m : Lat wc) (x y u v : Int) (b : Bool), J x y u v = b → Calls Tryd.prog 14 #[ptr p, cel x y, cel u v] m.w fun e w' => e = .returned (.bool b) ∧ Below m.w.heap.size m.w w') := hide fun m x y u v b hb => by
      rw [← hb, hJ]; exact pjoin_of (ptr p) x y u v (A x y) (A u v) m.w (fun wx hx => HAt.out m x y wx hx) (fun wx hx => HAt.out m u v wx hx)
    have HSd : Hid (∀ (m : Lat wc) (x y : Int) (b : Bool), gS wd ht St x y = b → Calls Tryd.prog 15 #[gdv wd ht (.slice a0 (wd * ht) cap0), cel x y] m.w fun e w' => e = .returned (.bool b) ∧ Below m.w.heap.size m.w w') := hide fun m x y b hb => hb ▸ gstands_any x y (HGd5.out.upto (bt hBc m.h)) ⟨hwd.1.2, hwd.2.2⟩ rfl
    have HAw : Hid (∀ m : Lat wc, Calls Tryd.prog 9 #[] m.w fun e w' => e = .returned (.bool true) ∧ Below m.w.heap.size m.w w') := hide fun m => HA.out _ (bt HB5.out (bt hBc m.h))
    have e2 : J u v x y = J x y u v := by rw [hJ, hJ, decide_eq_decide]; constructor <;> (rintro ⟨q1, q2⟩; exact ⟨by rw [← q2]; exact q1, q2.symm⟩)
    have e3 : J x y x y = gS wd ht St x y := by
      rw [hJ, hA, Bool.eq_iff_iff, decide_eq_true_iff]
      exact stand_num hwd HSN.out x y
    have ek : decide (k = 1) = J x y u v := by rw [hJ, hA, decide_eq_decide]; exact hk
    have ek' : (k == 1) = J x y u v := by rw [← ek]; rfl
    obtain ⟨k0, k1, k2, k3⟩ := Four.lat (C5.out.kept hBc)
    have kp : ∀ m : Lat wc, m.w.cell? ⟨nb, 0, none⟩ = some (.int .i64 k) := fun m => (hPb.upto m.h).c.1
    have g0 : ∀ m : Lat wc, m.w.cell? ⟨w3.heap.size, 0, none⟩ = some (.int .i64 (wd : Nat)) := fun m => (HG5.out.upto (bt hBc m.h)).c.1.1
    have g1 : ∀ m : Lat wc, m.w.cell? ⟨w3.heap.size, 1, none⟩ = some (.int .i64 (ht : Nat)) := fun m => (HG5.out.upto (bt hBc m.h)).c.1.2
    have g2 : ∀ m : Lat wc, m.w.cell? ⟨w3.heap.size, 2, none⟩ = some (.slice a0 (wd * ht) cap0) := fun m => (HG5.out.upto (bt hBc m.h)).c.2
    have HBc := hide (bt HB5.out hBc)
    generalize gS wd ht St = S at HSd e3
    clear hJ hA HAt hk hPb hBc HB5 HP5 HR5 C5 HGd5 HG5 HG HO HK HM0 HB1 M1 C1 HB2 HSN hml h7I C0
    cases hr : J x y u v <;> cases hst : S x y
    all_goals
      rw [hr] at e2 ek ek'
      rw [hst] at e3
      go_wp2_with fail
      refine wp_region_lat (by kernel_rfl) (by kernel_rfl) ?_
      repeat (go_big_quiet_step (first | (go_at_call 14; exact calls_lat (HJn.out _ _ _ _ _ _ (by assumption))) | (go_at_call 15; exact calls_lat (HSd.out _ _ _ _ (by assumption))) | (go_at_call 9; exact calls_lat (HAw.out _))))
      refine wpQuiet_nil ?_
      rintro _ ⟨m, rfl⟩
      go_wp2_with fail
      go_ret
      exact ⟨rfl, bt HBc.out m.h⟩
end Go.Proofs.YtoheibfijpdmfaaDoor
