/-
  The sort of a row of structs, laid at this program (written by a tool: the table of numbers, and a row for each fact). The order of portals, and the sort of a row of them. A row of portals, sorted: one list alone is sorted.
-/
import Derived.Shelf.SlLaysF0
import Derived.Shelf.SlGeneric
import Derived.Test.YtkjogcnoaipniaaGreatDoorDRun
import Derived.Shelf.GgSortFunc.InsertionK
import Derived.Shelf.SlSortCmp.WholeK
import Derived.Shelf.SlSortCmp.NoneTotal
namespace Go.Proofs.YtkjogcnoaipniaaGreatDoor
open Go.Shelf
set_option linter.unusedVariables false
def sortSt_ren : Go.Shelf.Ren := ⟨fun | 6 => 31 | 15 => 61 | 14 => 60 | 28 => 96 | 29 => 97 | 20 => 88 | 21 => 89 | 22 => 90 | 23 => 91 | 24 => 92 | 25 => 93 | 26 => 94 | 27 => 95 | 46 => 109 | 47 => 110 | 48 => 111 | 49 => 112 | 50 => 113 | 57 => 117 | n => n, fun | 22 => 44 | 24 => 64 | 25 => 78 | 3 => 3 | 39 => 112 | 0 => 0 | 53 => 133 | 55 => 135 | 4 => 4 | 46 => 127 | 45 => 126 | 50 => 98 | 5 => 5 | 9 => 9 | 66 => 142 | 70 => 146 | 76 => 149 | 77 => 150 | n => n, fun | n => n⟩
theorem sortSt : Go.Proofs.SlLaysF0.n6 Tryz.prog sortSt_ren := {
  mixed := by kernel_rfl
  f6 := ⟨Tryz.f31.name, by decide, Tryz.func31.trans (congrArg some (by kernel_rfl))⟩
  f14 := ⟨Tryz.f60.name, by decide, Tryz.func60.trans (congrArg some (by kernel_rfl))⟩
  f15 := Tryz.func61.trans (congrArg some (by kernel_rfl))
  f20 := ⟨Tryz.f88.name, by decide, Tryz.func88.trans (congrArg some (by kernel_rfl))⟩
  f21 := ⟨Tryz.f89.name, by decide, Tryz.func89.trans (congrArg some (by kernel_rfl))⟩
  f22 := ⟨Tryz.f90.name, by decide, Tryz.func90.trans (congrArg some (by kernel_rfl))⟩
  f23 := ⟨Tryz.f91.name, by decide, Tryz.func91.trans (congrArg some (by kernel_rfl))⟩
  f24 := ⟨Tryz.f92.name, by decide, Tryz.func92.trans (congrArg some (by kernel_rfl))⟩
  f25 := ⟨Tryz.f93.name, by decide, Tryz.func93.trans (congrArg some (by kernel_rfl))⟩
  f26 := ⟨Tryz.f94.name, by decide, Tryz.func94.trans (congrArg some (by kernel_rfl))⟩
  f27 := ⟨Tryz.f95.name, by decide, Tryz.func95.trans (congrArg some (by kernel_rfl))⟩
  f28 := Tryz.func96.trans (congrArg some (by kernel_rfl))
  f29 := Tryz.func97.trans (congrArg some (by kernel_rfl))
  f46 := ⟨Tryz.f109.name, by decide, Tryz.func109.trans (congrArg some (by kernel_rfl))⟩
  f47 := Tryz.func110.trans (congrArg some (by kernel_rfl))
  f48 := Tryz.func111.trans (congrArg some (by kernel_rfl))
  f49 := ⟨Tryz.f112.name, by decide, Tryz.func112.trans (congrArg some (by kernel_rfl))⟩
  f50 := ⟨Tryz.f113.name, by decide, Tryz.func113.trans (congrArg some (by kernel_rfl))⟩
  f57 := ⟨Tryz.f117.name, by decide, Tryz.func117.trans (congrArg some (by kernel_rfl))⟩
  t0 := Tryz.underlying0
  a0 := Tryz.isAgg0
  z0 := Tryz.sizeOf0
  v0 := Tryz.zeroValue0
  t3 := Tryz.underlying3
  a3 := Tryz.isAgg3
  z3 := Tryz.sizeOf3
  v3 := Tryz.zeroValue3
  t4 := Tryz.underlying4
  a4 := Tryz.isAgg4
  z4 := Tryz.sizeOf4
  v4 := Tryz.zeroValue4
  t5 := Tryz.underlying5
  a5 := Tryz.isAgg5
  z5 := Tryz.sizeOf5
  v5 := Tryz.zeroValue5
  t9 := Tryz.underlying9
  a9 := Tryz.isAgg9
  z9 := Tryz.sizeOf9
  v9 := Tryz.zeroValue9
  t22 := Tryz.underlying44
  a22 := Tryz.isAgg44
  z22 := Tryz.sizeOf44
  v22 := Tryz.zeroValue44
  t25 := Tryz.underlying78
  a25 := Tryz.isAgg78
  z25 := Tryz.sizeOf78
  v25 := Tryz.zeroValue78
  t39 := Tryz.underlying112
  a39 := Tryz.isAgg112
  z39 := Tryz.sizeOf112
  v39 := Tryz.zeroValue112
  t45 := Tryz.underlying126
  a45 := Tryz.isAgg126
  z45 := Tryz.sizeOf126
  v45 := Tryz.zeroValue126
  t46 := Tryz.underlying127
  a46 := Tryz.isAgg127
  z46 := Tryz.sizeOf127
  v46 := Tryz.zeroValue127
  t50 := Tryz.underlying98
  a50 := Tryz.isAgg98
  z50 := Tryz.sizeOf98
  v50 := Tryz.zeroValue98
  t53 := Tryz.underlying133
  a53 := Tryz.isAgg133
  z53 := Tryz.sizeOf133
  v53 := Tryz.zeroValue133
  t55 := Tryz.underlying135
  a55 := Tryz.isAgg135
  z55 := Tryz.sizeOf135
  v55 := Tryz.zeroValue135
  t66 := Tryz.underlying142
  a66 := Tryz.isAgg142
  z66 := Tryz.sizeOf142
  v66 := Tryz.zeroValue142
  t70 := Tryz.underlying146
  a70 := Tryz.isAgg146
  z70 := Tryz.sizeOf146
  v70 := Tryz.zeroValue146
  t76 := Tryz.underlying149
  a76 := Tryz.isAgg149
  z76 := Tryz.sizeOf149
  v76 := Tryz.zeroValue149
  t77 := Tryz.underlying150
  a77 := Tryz.isAgg150
  z77 := Tryz.sizeOf150
  v77 := Tryz.zeroValue150 }
end Go.Proofs.YtkjogcnoaipniaaGreatDoor
namespace Go.Proofs.YtkjogcnoaipniaaGreatDoor
open Go.RowKit Go.Shelf Go.Sort Go.Lib
set_option linter.unusedVariables false
set_option linter.unusedSimpArgs false
def lessB (a b c d : Int) : Bool := decide (b < d ∨ (b = d ∧ a < c))
/-- A call that only makes memory. -/
def Gr (w w' : World) : Prop := ∃ os, w' = grow w os
theorem Gr.refl (w : World) : Gr w w := ⟨#[], by simp [grow]⟩
theorem Gr.box (w : World) (o : Obj) : Gr w (w.alloc o) := ⟨#[o], alloc_eq_grow w o⟩
theorem Gr.trans {a b c : World} (h : Gr a b) (k : Gr b c) : Gr a c := by
  obtain ⟨o1, rfl⟩ := h
  obtain ⟨o2, rfl⟩ := k
  exact ⟨o1 ++ o2, grow_grow a o1 o2⟩
theorem Gr.below {a b : World} (h : Gr a b) : Below a.heap.size a b := by
  obtain ⟨os, rfl⟩ := h
  refine ⟨rfl, rfl, rfl, by simp [grow], fun k hk => ?_⟩
  unfold grow
  exact Array.getElem?_append_left hk
set_option maxHeartbeats 1000000 in
theorem less98 (a b c d : Int) (w : World) : Calls Tryz.prog 98 #[cel a b, cel c d] w fun e w' => e = .returned (.bool (lessB a b c d)) ∧ Gr w w' := by
  have HB := hide ((Gr.box w (.cells #[.int .i64 a, .int .i64 b] 35)).trans (Gr.box _ (.cells #[.int .i64 c, .int .i64 d] 35)))
  unfold lessB
  by_cases h1 : b < d
  · go_enter Tryz.func98, Tryz.ntmps98
    go_wp2_with fail
    go_ret
    exact ⟨ret_bool (by simp [h1]), HB.out⟩
  · by_cases h2 : b = d
    · subst h2
      by_cases h3 : a < c
      · go_enter Tryz.func98, Tryz.ntmps98
        go_wp2_with fail
        go_ret
        exact ⟨ret_bool (by simp [h3]), HB.out⟩
      · go_enter Tryz.func98, Tryz.ntmps98
        go_wp2_with fail
        go_ret
        exact ⟨ret_bool (by simp; omega), HB.out⟩
    · go_enter Tryz.func98, Tryz.ntmps98
      go_wp2_with fail
      go_ret
      exact ⟨ret_bool (by simp [h2]; omega), HB.out⟩
def rbr (a b c d : Int) : Int := if lessB a b c d = true then -1 else if lessB c d a b = true then 1 else 0
set_option maxHeartbeats 1000000 in
theorem rbr62 (a b c d : Int) (w : World) : Calls Tryz.prog 62 #[cel a b, cel c d] w fun e w' => e = .returned (.int .i64 (rbr a b c d)) ∧ Gr w w' := by
  obtain ⟨X, hX⟩ : ∃ X, (w.alloc (.cells #[.int .i64 a, .int .i64 b] 35)).alloc (.cells #[.int .i64 c, .int .i64 d] 35) = X := ⟨_, rfl⟩
  have G0 : Gr w X := hX ▸ (Gr.box w _).trans (Gr.box _ _)
  have T0 : Two X w.heap.size a b := by rw [← hX]; exact (Two.newAt rfl).alloc
  have T1 : Two X (w.heap.size + 1) c d := by rw [← hX]; exact Two.newAt (by simp)
  have H1 := hide (less98 a b c d X)
  have H2 : Hid (∀ wx, Calls Tryz.prog 98 #[cel c d, cel a b] wx fun e w' => e = .returned (.bool (lessB c d a b)) ∧ Gr wx w') := hide fun wx => less98 c d a b wx
  have HX := hide hX
  have HG := hide G0
  unfold rbr
  obtain ⟨⟨c0, c1⟩, -, -⟩ := id T0
  obtain ⟨⟨c2, c3⟩, -, -⟩ := id T1
  clear hX G0
  cases h1 : lessB a b c d
  · rw [h1] at H1
    rw [if_neg (by decide)]
    cases h2 : lessB c d a b
    · rw [h2] at H2
      rw [if_neg (by decide)]
      go_enter Tryz.func62, Tryz.ntmps62
      go_wp2_with (rw [HX.out])
      refine H1.out.mono ?_
      rintro e w1 ⟨rfl, g1⟩
      obtain ⟨⟨e0, e1⟩, -, -⟩ := T0.kept g1.below
      obtain ⟨⟨e2, e3⟩, -, -⟩ := T1.kept g1.below
      have HG1 := hide (HG.out.trans g1)
      clear g1 c0 c1 c2 c3
      go_wp2_with fail
      refine (H2.out _).mono ?_
      rintro e w2 ⟨rfl, g2⟩
      have HG2 := hide (HG1.out.trans g2)
      clear g2 e0 e1 e2 e3
      go_wp2_with fail
      go_ret
      exact ⟨rfl, HG2.out⟩
    · rw [h2] at H2
      rw [if_pos rfl]
      go_enter Tryz.func62, Tryz.ntmps62
      go_wp2_with (rw [HX.out])
      refine H1.out.mono ?_
      rintro e w1 ⟨rfl, g1⟩
      obtain ⟨⟨e0, e1⟩, -, -⟩ := T0.kept g1.below
      obtain ⟨⟨e2, e3⟩, -, -⟩ := T1.kept g1.below
      have HG1 := hide (HG.out.trans g1)
      clear g1 c0 c1 c2 c3
      go_wp2_with fail
      refine (H2.out _).mono ?_
      rintro e w2 ⟨rfl, g2⟩
      have HG2 := hide (HG1.out.trans g2)
      clear g2 e0 e1 e2 e3
      go_wp2_with fail
      go_ret
      exact ⟨rfl, HG2.out⟩
  · rw [h1] at H1
    rw [if_pos rfl]
    go_enter Tryz.func62, Tryz.ntmps62
    go_wp2_with (rw [HX.out])
    refine H1.out.mono ?_
    rintro e w1 ⟨rfl, g1⟩
    have HG1 := hide (HG.out.trans g1)
    clear g1 c0 c1 c2 c3
    go_wp2_with fail
    go_ret
    exact ⟨rfl, HG1.out⟩
def cfP (p q : Q4) : Int := if p.x = q.x ∧ p.y = q.y then rbr p.a p.b q.a q.b else rbr p.x p.y q.x q.y
set_option maxHeartbeats 1000000 in
theorem cmp32 (p q : Q4) (w : World) : Calls Tryz.prog 32 #[p.v, q.v] w fun e w' => e = .returned (.int .i64 (cfP p q)) ∧ Gr w w' := by
  obtain ⟨px, py, pa, pb⟩ := p
  obtain ⟨qx, qy, qa, qb⟩ := q
  obtain ⟨X, hX⟩ : ∃ X, (w.alloc (.cells #[.int .i64 px, .int .i64 py, .int .i64 pa, .int .i64 pb] 64)).alloc (.cells #[.int .i64 qx, .int .i64 qy, .int .i64 qa, .int .i64 qb] 64) = X := ⟨_, rfl⟩
  have G0 : Gr w X := hX ▸ (Gr.box w _).trans (Gr.box _ _)
  have T0 : Four X w.heap.size px py pa pb := by rw [← hX]; exact (Four.newAt _ _ _ _ _ rfl).kept (box1 _ _)
  have T1 : Four X (w.heap.size + 1) qx qy qa qb := by rw [← hX]; exact Four.newAt _ _ _ _ _ (by simp)
  have H1 := hide (rbr62 px py qx qy X)
  have H2 := hide (rbr62 pa pb qa qb X)
  have HX := hide hX
  have HG := hide G0
  have hne : ∀ wx, (binOp .neq 35 (cel px py) (cel qx qy)).run Tryz.prog wx = .ok (.bool !(decide (px = qx) && decide (py = qy))) wx := fun wx => neC _ _ _ _ wx
  unfold cfP
  simp only
  obtain ⟨⟨c0, c1, c2, c3⟩, -, -⟩ := id T0
  obtain ⟨⟨d0, d1, d2, d3⟩, -, -⟩ := id T1
  clear hX G0 T0 T1
  by_cases h : px = qx ∧ py = qy
  · rw [if_pos h]
    rw [show (!(decide (px = qx) && decide (py = qy))) = false by simp [h]] at hne
    generalize rbr pa pb qa qb = r at H2 ⊢
    clear h
    go_enter Tryz.func32, Tryz.ntmps32
    go_wp2_with (rw [HX.out])
    refine H2.out.mono ?_
    rintro e w1 ⟨rfl, g1⟩
    have HG1 := hide (HG.out.trans g1)
    clear g1 c0 c1 c2 c3 d0 d1 d2 d3
    go_wp2_with fail
    go_ret
    exact ⟨rfl, HG1.out⟩
  · rw [if_neg h]
    rw [show (!(decide (px = qx) && decide (py = qy))) = true by
      rw [Bool.not_eq_true', Bool.and_eq_false_iff, decide_eq_false_iff_not, decide_eq_false_iff_not]
      by_cases h2 : px = qx
      · exact .inr (fun k => h ⟨h2, k⟩)
      · exact .inl h2] at hne
    generalize rbr px py qx qy = r at H1 ⊢
    clear h
    go_enter Tryz.func32, Tryz.ntmps32
    go_wp2_with (rw [HX.out])
    refine H1.out.mono ?_
    rintro e w1 ⟨rfl, g1⟩
    have HG1 := hide (HG.out.trans g1)
    clear g1 c0 c1 c2 c3 d0 d1 d2 d3
    go_wp2_with fail
    go_ret
    exact ⟨rfl, HG1.out⟩
end Go.Proofs.YtkjogcnoaipniaaGreatDoor
namespace Go.Proofs.YtkjogcnoaipniaaGreatDoor
open Go.RowKit Go.Shelf Go.Sort Go.Lib
set_option linter.unusedVariables false
set_option linter.unusedSimpArgs false
/-- Which portal comes ahead of another. -/
def klt (p q : Q4) : Prop := p.y < q.y ∨ (p.y = q.y ∧ (p.x < q.x ∨ (p.x = q.x ∧ (p.b < q.b ∨ (p.b = q.b ∧ p.a < q.a)))))
theorem rbr_neg (a b c d : Int) : rbr a b c d < 0 ↔ (b < d ∨ (b = d ∧ a < c)) := by
  unfold rbr lessB
  by_cases h : b < d ∨ (b = d ∧ a < c)
  · simp [h]
  · simp only [decide_eq_true_eq, h, if_false, iff_false]
    split <;> omega
theorem cfP_neg (p q : Q4) : cfP p q < 0 ↔ klt p q := by
  unfold cfP klt
  split
  · rw [rbr_neg]; omega
  · rw [rbr_neg]; omega
open Classical in
theorem ltP (p q : Q4) : ltOf cfP p q = decide (klt p q) := by
  unfold ltOf
  by_cases h : klt p q
  · have := (cfP_neg p q).2 h
    simp [h, this]
  · have : ¬ cfP p q < 0 := fun k => h ((cfP_neg p q).1 k)
    simp [h]; omega
theorem klt_irrefl (p : Q4) : ¬ klt p p := by unfold klt; omega
theorem klt_trans {p q r : Q4} (h : klt p q) (k : klt q r) : klt p r := by unfold klt at *; omega
theorem klt_ntrans {p q r : Q4} (h : ¬ klt p q) (k : ¬ klt q r) : ¬ klt p r := by unfold klt at *; omega
theorem klt_anti {p q : Q4} (h : ¬ klt p q) (k : ¬ klt q p) : p = q := by
  obtain ⟨a, b, c, d⟩ := p
  obtain ⟨e, f, g, i⟩ := q
  unfold klt at *
  simp only [Q4.mk.injEq]
  simp only at h k
  omega
theorem swoP : SWO (ltOf cfP) where
  irrefl x := by rw [ltP]; simp [klt_irrefl]
  trans x y z h1 h2 := by rw [ltP] at *; simp at *; exact klt_trans h1 h2
  ntrans x y z h1 h2 := by rw [ltP] at *; simp at *; exact klt_ntrans h1 h2
/-- By rising order. -/
def SrtP (l : List Q4) : Prop := l.Pairwise (fun p q => ¬ klt q p)
theorem srt_one {l m : List Q4} (h : l.Perm m) (hl : SrtP l) (hm : SrtP m) : l = m :=
  h.eq_of_pairwise (le := fun p q => ¬ klt q p) (fun a b _ _ h1 h2 => klt_anti h2 h1) hl hm
section
variable [hI : Inhabited Q4]
theorem flat_get (L : List Q4) (j : Nat) (h : j < L.length * 4) : (flatK Q4.cs 4 L.toArray)[j]! = (L.flatMap Q4.cs)[j]! ∧ (L.flatMap Q4.cs)[j]? = some (L.flatMap Q4.cs)[j]! := by
  have hj : j < (L.flatMap Q4.cs).length := by rw [flat_len]; exact h
  have h2 : (L.flatMap Q4.cs)[j]? = some (L.flatMap Q4.cs)[j]! := by rw [getElem!_pos _ j hj]; exact List.getElem?_eq_getElem hj
  refine ⟨?_, h2⟩
  rw [get_flatK _ _ _ j (by simpa using h)]
  have hq : j / 4 < L.length := by omega
  have h3 := rw_get Q4.cs_len L (j / 4) L[j / 4] (j % 4) (List.getElem?_eq_getElem hq) (by omega)
  rw [show j / 4 * 4 + j % 4 = j by omega, h2] at h3
  have h4 : L.toArray[j / 4]! = L[j / 4] := by rw [getElem!_pos _ _ (by simpa using hq)]; simp
  rw [h4]
  have h5 : j % 4 < L[j / 4].cs.length := by rw [Q4.cs_len]; omega
  rw [List.getElem?_eq_getElem h5] at h3
  rw [getElem!_pos L[j / 4].cs (j % 4) h5]
  exact (Option.some.inj h3).symm
theorem holds_of {w : World} {g cap : Nat} {cur : Array Value} {L : List Q4} (hg : w.heap[g]? = some (.cells cur 64 (0, 0))) (hn : L.length ≤ cap) (hs : cur.size = cap * 4) (ht : cur.toList.take (L.length * 4) = L.flatMap Q4.cs) : HoldsK Q4.cs 4 w g 0 L.toArray := by
  intro j hj
  have hj' : j < L.length * 4 := by simpa using hj
  obtain ⟨h1, h2⟩ := flat_get L j hj'
  constructor
  · rw [Nat.zero_add, cell_of_row w g j _ _ _ hg, h1]
    have : cur[j]? = (L.flatMap Q4.cs)[j]? := by rw [← ht, List.getElem?_take, if_pos hj', Array.getElem?_toList]
    rw [this, h2]
    rfl
  · have hlt : j < cur.size := by omega
    simp [World.frozen?, hg]
theorem row_after {w : World} {g cap : Nat} {cur : Array Value} {L : List Q4} {n : Nat} {os : Array Obj} (hg : w.heap[g]? = some (.cells cur 64 (0, 0))) (hn : L.length ≤ cap) (hm : cap ≤ maxLen) (hs : cur.size = cap * 4) :
    Rq 64 (sortWorldK Q4.cs 4 w g 0 n L.toArray os) (.slice (some ⟨g, 0, none⟩) L.length cap) L ∧ Turns (fun k => k = g) w (sortWorldK Q4.cs 4 w g 0 n L.toArray os) := by
  have hlt : g < w.heap.size := (Array.getElem?_eq_some_iff.1 hg).1
  have hh : ∀ k, k < w.heap.size → (sortWorldK Q4.cs 4 w g 0 n L.toArray os).heap[k]? = (w.heap.modify g (onCells (putCells id 0 (flatK Q4.cs 4 L.toArray))))[k]? := fun k hk => by
    unfold sortWorldK grow putRowK putRow mapBlock Sort.ahead
    exact Array.getElem?_append_left (by simpa using hk)
  have hg' : (sortWorldK Q4.cs 4 w g 0 n L.toArray os).heap[g]? = some (.cells (putCells id 0 (flatK Q4.cs 4 L.toArray) cur) 64 (0, 0)) := by
    rw [hh g hlt, Array.getElem?_modify, if_pos rfl, hg]
    rfl
  constructor
  · refine ⟨flat_len L, .inr ⟨g, cap, _, rfl, Nat.zero_le _, hg', hn, hm, by simp [putCells, hs], ?_⟩⟩
    refine List.ext_getElem? (fun j => ?_)
    rw [List.getElem?_take]
    by_cases hj : j < L.length * 4
    · rw [if_pos hj, Array.getElem?_toList]
      obtain ⟨h1, h2⟩ := flat_get L j hj
      have hc : j < cur.size := by omega
      simp only [putCells, Array.getElem?_mapIdx, Array.getElem?_eq_getElem hc, Option.map_some]
      rw [if_pos ⟨by omega, by simpa using hj⟩, Nat.sub_zero, h1, h2]
      rfl
    · rw [if_neg hj, List.getElem?_eq_none (by rw [flat_len]; omega)]
  · refine ⟨rfl, rfl, rfl, ?_, fun k hk hne => ?_⟩
    · show w.heap.size ≤ (grow _ _).heap.size
      unfold grow putRowK putRow mapBlock Sort.ahead
      simp
    · rw [hh k hk, Array.getElem?_modify, if_neg (fun e => hne e.symm)]
end
theorem one_q4 (x : Q4) : ∀ v ∈ x.cs, v.oneCell' = true := by
  intro u h
  simp [Q4.cs] at h
  rcases h with rfl | rfl | rfl | rfl <;> rfl
/-- The sort. -/
theorem sort31 {L : List Q4} {v : Value} {w : World} (hlen : L.length ≤ 1000000) (h : Rq 64 w v L) :
    Calls Tryz.prog 31 #[v, .func (.func 32) #[] #[]] w fun e w' => e = .returned (.tuple #[]) ∧ ∃ M, M.Perm L ∧ SrtP M ∧ Rq 64 w' v M ∧ Turns (fun j => v.ownBlock = some j) w w' := by
  rcases h.2 with ⟨rfl, h0⟩ | ⟨g, cap, cur, rfl, -, hg, hn, hm, hsz, ht⟩
  · have h1 : L = [] := List.eq_nil_of_length_eq_zero h0
    subst h1
    have hcon := AnyF.slices_SortFunc_none sortSt none 0 (.func (.func 32) #[] #[]) w
    change Calls Tryz.prog 31 _ _ _ at hcon
    refine hcon.mono ?_
    rintro e w' ⟨rfl, rfl⟩
    exact ⟨rfl, [], .refl _, List.Pairwise.nil, Rw.nil _ _ _ _, Turns.of_below (Below.refl _ _)⟩
  have hI : Inhabited Q4 := ⟨⟨0, 0, 0, 0⟩⟩
  have eg : ∀ args w, (callFunc 32 args).run Tryz.prog w = .ok (.enter 32 args) w := enters_of Tryz.func32 (by kernel_rfl) rfl
  have hcon := AnyQ.slices_SortFunc sortSt 4 Tryz.isAgg64 Tryz.sizeOf64 Q4.cs Q4.cs_len one_q4 cfP swoP 32 #[] g 0 cap L.toArray w eg (fun _ _ _ _ x y => (cmp32 x y _).mono (fun e w' ⟨h1, os, h2⟩ => ⟨h1, 0, os, h2⟩)) (holds_of hg hn hsz ht) (Array.getElem?_eq_some_iff.1 hg).1 (by simp; omega)
  change Calls Tryz.prog 31 _ _ _ at hcon
  rw [List.size_toArray] at hcon
  refine hcon.mono ?_
  rintro e w' ⟨rfl, d', n, os, hpm, hso, rfl⟩
  obtain ⟨z1, -, z3⟩ := hpm
  have zs : d'.size = L.length := by rw [z1]; simp
  have hp' : d'.toList.Perm L := by
    have e1 : d'.extract 0 L.length = d' := by rw [← zs]; simp
    have e2 : L.toArray.extract 0 L.length = L.toArray := by simp
    rwa [e1, e2] at z3
  have hlL : d'.toList.length = L.length := hp'.length_eq
  have hss : SrtP d'.toList := by
    unfold SrtP
    rw [List.pairwise_iff_getElem]
    intro i j hi hj hij
    have := hso i j (Nat.zero_le _) hij (by omega)
    rw [ltP] at this
    rw [getElem!_pos _ j (by simpa using hj), getElem!_pos _ i (by simpa using hi)] at this
    simpa using this
  obtain ⟨r1, r2⟩ := row_after (L := d'.toList) (n := n) (os := os) hg (by omega) hm hsz
  have hd : d'.toList.toArray = d' := by simp
  rw [hd, hlL] at r1
  rw [hd] at r2
  exact ⟨rfl, d'.toList, hp', hss, r1, r2.mono (fun j _ e => by rw [e]; rfl)⟩
end Go.Proofs.YtkjogcnoaipniaaGreatDoor
