/-
  A row of ints sorted, and each kept once: a rising list is told by its members. The document's At, Find and Within. The program's Within: the units that have a cell of a rectangle, by rising numbers. The program's Within, of an index and a rectangle.
-/
import Derived.Test.YtkodeopkgmichaaApPure
import Derived.Test.YtkodeopkgmichaaFreeG
import Derived.Lib.SlicesCompact
import Derived.Test.YtkodeopkgmichaaDoc
import Derived.Test.YtkodeopkgmichaaAsked
import Derived.Test.YtkodeopkgmichaaIntLay
import Derived.Shelf.SortM.Plain
import Derived.Shelf.SortM.SortNone
import Derived.Shelf.SlicesE.Compact
import Derived.Sort.OwnSortedInts
import Derived.Test.YtkodeopkgmichaaFreeSt
namespace Go.Proofs.Ytkodeopkgmichaa
open Go.RowKit Go.Shelf Go.Lib
set_option linter.unusedVariables false
set_option linter.unusedSimpArgs false
theorem rising_ext : ∀ {a b : List Int}, a.Pairwise (· < ·) → b.Pairwise (· < ·) → (∀ x, x ∈ a ↔ x ∈ b) → a = b
  | [], [], _, _, _ => rfl
  | [], y :: b, _, _, h => absurd ((h y).2 List.mem_cons_self) (by simp)
  | x :: a, [], _, _, h => absurd ((h x).1 List.mem_cons_self) (by simp)
  | x :: a, y :: b, ha, hb, h => by
    obtain ⟨a1, a2⟩ := List.pairwise_cons.1 ha
    obtain ⟨b1, b2⟩ := List.pairwise_cons.1 hb
    have e : x = y := by
      rcases List.mem_cons.1 ((h x).1 List.mem_cons_self) with q | q
      · exact q
      · rcases List.mem_cons.1 ((h y).2 List.mem_cons_self) with p | p
        · exact p.symm
        · have := b1 x q; have := a1 y p; omega
    subst e
    rw [rising_ext a2 b2 (fun z => ?_)]
    constructor
    · intro hz
      rcases List.mem_cons.1 ((h z).1 (List.mem_cons_of_mem _ hz)) with q | q
      · subst q; have := a1 z hz; omega
      · exact q
    · intro hz
      rcases List.mem_cons.1 ((h z).2 (List.mem_cons_of_mem _ hz)) with q | q
      · subst q; have := b1 z hz; omega
      · exact q
theorem compact_rising (d : Array Int) (hd : ∀ i j, i ≤ j → j < d.size → d[i]! ≤ d[j]!) : ∀ m, m ≤ d.size → (compactUpTo d m).Pairwise (· < ·) ∧ (∀ x, x ∈ compactUpTo d m ↔ ∃ j, j < m ∧ d[j]! = x)
  | 0, _ => ⟨List.Pairwise.nil, fun x => by simp [compactUpTo]⟩
  | m + 1, hm => by
    obtain ⟨h1, h2⟩ := compact_rising d hd m (by omega)
    rw [compactUpTo_succ]
    by_cases hk : keeps d m = true
    · rw [if_pos hk]
      refine ⟨List.pairwise_append.2 ⟨h1, by simp, fun x hx y hy => ?_⟩, fun x => ?_⟩
      · obtain ⟨j, hj, rfl⟩ := (h2 x).1 hx
        simp at hy
        subst hy
        have := hd j (m - 1) (by omega) (by omega)
        have := hd (m - 1) m (by omega) (by omega)
        simp only [keeps, decide_eq_true_eq] at hk
        rcases hk with q | q
        · omega
        · omega
      · rw [List.mem_append, h2]
        constructor
        · rintro (⟨j, hj, e⟩ | h)
          · exact ⟨j, by omega, e⟩
          · exact ⟨m, by omega, (List.mem_singleton.1 h).symm⟩
        · rintro ⟨j, hj, e⟩
          by_cases hjm : j = m
          · subst hjm; exact .inr (by simp [e])
          · exact .inl ⟨j, by omega, e⟩
    · rw [if_neg hk, List.append_nil]
      refine ⟨h1, fun x => ?_⟩
      rw [h2]
      simp only [keeps, decide_eq_true_eq, not_or, ne_eq, Decidable.not_not] at hk
      constructor
      · rintro ⟨j, hj, e⟩
        exact ⟨j, by omega, e⟩
      · rintro ⟨j, hj, e⟩
        by_cases hjm : j = m
        · subst hjm
          exact ⟨j - 1, by omega, hk.2 ▸ e⟩
        · exact ⟨j, by omega, e⟩
/-- Sorted, and each once: the rising list of the same members. -/
theorem sifted {xs zs : List Int} (hz : zs.Pairwise (· < ·)) (h : ∀ x, x ∈ xs ↔ x ∈ zs) : compactUpTo (xs.mergeSort (fun x y => decide (x ≤ y))).toArray (xs.mergeSort (fun x y => decide (x ≤ y))).toArray.size = zs := by
  have hs : (xs.mergeSort (fun x y => decide (x ≤ y))).Pairwise (fun x y => decide (x ≤ y) = true) := List.pairwise_mergeSort (by intro a b c; simp; omega) (by intro a b; simp; omega) xs
  have hm : ∀ x, x ∈ xs.mergeSort (fun x y => decide (x ≤ y)) ↔ x ∈ xs := fun x => List.mem_mergeSort
  generalize xs.mergeSort (fun x y => decide (x ≤ y)) = ys at hs hm
  have hd : ∀ i j, i ≤ j → j < ys.toArray.size → ys.toArray[i]! ≤ ys.toArray[j]! := fun i j hij hj => by
    have hj' : j < ys.length := by simpa using hj
    rw [getElem!_pos ys.toArray i (by simp; omega), getElem!_pos ys.toArray j hj]
    rcases Nat.lt_or_ge i j with q | q
    · have := List.pairwise_iff_getElem.1 hs i j (by omega) hj' q
      simpa using this
    · obtain rfl : i = j := by omega
      exact Int.le_refl _
  obtain ⟨h1, h2⟩ := compact_rising ys.toArray hd ys.toArray.size (Nat.le_refl _)
  refine rising_ext h1 hz (fun x => ?_)
  rw [h2, ← h, ← hm]
  constructor
  · rintro ⟨j, hj, rfl⟩
    rw [getElem!_pos ys.toArray j hj]
    simp
  · intro hx
    obtain ⟨j, hj, rfl⟩ := List.getElem_of_mem hx
    exact ⟨j, by simpa using hj, by rw [getElem!_pos ys.toArray j (by simpa using hj)]; simp⟩
theorem mem_mids {l : List Bd} {x y a b i : Int} : i ∈ mids l x y a b ↔ ∃ t ∈ l, mtB t.r.x t.r.y t.r.a t.r.b x y a b = true ∧ t.id = i := by
  unfold mids
  simp only [List.mem_map, List.mem_filter]
  constructor
  · rintro ⟨t, ⟨h1, h2⟩, e⟩; exact ⟨t, h1, h2, e⟩
  · rintro ⟨t, h1, h2, e⟩; exact ⟨t, ⟨h1, h2⟩, e⟩
theorem mids_rising {l : List Bd} (h : Sorted l) (x y a b : Int) : (mids l x y a b).Pairwise (· < ·) := by
  unfold mids
  exact List.pairwise_map.2 (List.Pairwise.filter _ h)
theorem mids_perm {l L : List Bd} (h : L.Perm l) {x y a b i : Int} : i ∈ mids L x y a b ↔ i ∈ mids l x y a b := by
  rw [mem_mids, mem_mids]
  constructor
  · rintro ⟨t, h1, h2⟩; exact ⟨t, h.mem_iff.1 h1, h2⟩
  · rintro ⟨t, h1, h2⟩; exact ⟨t, h.mem_iff.2 h1, h2⟩
/-- Who has a cell of a rectangle: by its cells, and by the units. -/
theorem on_mids {l : List Bd} (h : Apart l) {x y a b i : Int} : i ∈ onL (fOf l) (allC x y a b) ↔ i ∈ mids l x y a b := by
  rw [mem_mids]
  unfold onL
  rw [List.mem_filterMap]
  constructor
  · rintro ⟨q, hq, e⟩
    obtain ⟨t, ht, h1, h2⟩ := (fOf_iff h).1 e
    exact ⟨t, ht, (mtB_iff _ _ _ _ _ _ _ _).2 ⟨_, _, h1, (mem_allC x y a b q).1 hq⟩, h2⟩
  · rintro ⟨t, ht, h1, rfl⟩
    obtain ⟨u, v, p1, p2⟩ := (mtB_iff _ _ _ _ _ _ _ _).1 h1
    have hw := has_w64 p2
    exact ⟨⟨(u, v), hw.1, hw.2⟩, (mem_allC x y a b _).2 p2, (fOf_iff h).2 ⟨t, ht, p1, rfl⟩⟩
end Go.Proofs.Ytkodeopkgmichaa
namespace Go.Proofs.Ytkodeopkgmichaa
open Go.RowKit Go.Shelf
set_option linter.unusedVariables false
set_option linter.unusedSimpArgs false
theorem fOf_none {l : List Bd} (ha : Apart l) {u v : Int} (h : ∀ t ∈ l, t.has u v = false) : fOf l u v = none := by
  cases e : fOf l u v with
  | none => rfl
  | some i =>
    obtain ⟨t, ht, h1, -⟩ := (fOf_iff ha).1 e
    rw [h t ht] at h1
    cases h1
theorem rhas_is {x y a b p q : Int} {o : Bool} {w : World} (h : has x y a b p q = o) : Calls Try.prog 28 #[rct x y a b, cel p q] w fun e w' => e = .returned (.bool o) ∧ Below w.heap.size w w' := by subst h; exact refhas_any x y a b p q w
set_option maxRecDepth 100000 in
set_option maxHeartbeats 4000000 in
theorem refat_any (r : Nat) (av : Option Addr) (cap : Nat) (l : List Bd) (ha : Apart l) (p q : Int) (w : World) (h : RxR w r av cap l) :
    Calls Try.prog 12 #[ptr r, cel p q] w fun e w' => e = .returned (.tuple #[.int .i64 ((fOf l p q).getD 0), .bool (fOf l p q).isSome]) ∧ Below w.heap.size w w' := by
  obtain ⟨X, hX⟩ : ∃ X, w.alloc (.cells #[.int .i64 p, .int .i64 q] 32) = X := ⟨_, rfl⟩
  have B0 : Below w.heap.size w X := hX ▸ box1 _ _
  have F0 : Two X w.heap.size p q := hX ▸ Two.newAt rfl
  have key : ∀ n : Lat X, RxR n.w r av cap l ∧ Two n.w w.heap.size p q ∧ Below w.heap.size w n.w := fun n =>
    ⟨h.kept (bt B0 n.h), F0.kept n.h, bt B0 n.h⟩
  have HK := hide key
  have hln : l.length ≤ 256 := h.2.2.1
  go_enter Try.func12, Try.ntmps12
  go_wp2_with (rw [hX])
  clear h F0 B0 hX key
  go_loopw [6] (fun d wr => ∃ k : Nat, k ≤ l.length ∧ d = .int .i64 k ∧ (∀ (j : Nat) s, l[j]? = some s → j < k → s.has p q = false) ∧ ∃ n : Lat X, wr = n.w) (fun d _ => l.length - (intOf d).toNat)
  case atStart => exact ⟨0, Nat.zero_le _, rfl, fun j s _ hj => by omega, ⟨X, Below.refl _ _⟩, by first | rfl | assumption⟩
  case round =>
    obtain ⟨k, hk, rfl, hno, n0, rfl⟩ := hrel
    have z0 := (HK.out n0).1.1
    by_cases hlt : k < l.length
    · obtain ⟨t, ht⟩ : ∃ t, l[k]? = some t := ⟨_, List.getElem?_eq_getElem hlt⟩
      obtain ⟨g, o, rfl, hg, d0, d1, d2, d3, d4⟩ := (HK.out n0).1.2.2.2 k t ht
      have e0 : ∀ n : Lat n0.w, n.w.cell? ⟨g, o + k * 5, none⟩ = some (.int .i64 t.id) := fun n => (n.h.cell (p := ⟨g, o + k * 5, none⟩) hg).trans d0
      have e1 : ∀ n : Lat n0.w, n.w.cell? ⟨g, o + k * 5 + 1, none⟩ = some (.int .i64 t.r.x) := fun n => (n.h.cell (p := ⟨g, o + k * 5 + 1, none⟩) hg).trans d1
      have e2 : ∀ n : Lat n0.w, n.w.cell? ⟨g, o + k * 5 + 2, none⟩ = some (.int .i64 t.r.y) := fun n => (n.h.cell (p := ⟨g, o + k * 5 + 2, none⟩) hg).trans d2
      have e3 : ∀ n : Lat n0.w, n.w.cell? ⟨g, o + k * 5 + 3, none⟩ = some (.int .i64 t.r.a) := fun n => (n.h.cell (p := ⟨g, o + k * 5 + 3, none⟩) hg).trans d3
      have e4 : ∀ n : Lat n0.w, n.w.cell? ⟨g, o + k * 5 + 4, none⟩ = some (.int .i64 t.r.b) := fun n => (n.h.cell (p := ⟨g, o + k * 5 + 4, none⟩) hg).trans d4
      have q0 : ∀ n : Lat n0.w, n.w.cell? ⟨w.heap.size, 0, none⟩ = some (.int .i64 p) := fun n => (HK.out ⟨n.w, bt n0.h n.h⟩).2.1.1.1
      have q1 : ∀ n : Lat n0.w, n.w.cell? ⟨w.heap.size, 1, none⟩ = some (.int .i64 q) := fun n => (HK.out ⟨n.w, bt n0.h n.h⟩).2.1.1.2
      have q8 : ∀ n : Lat n0.w, n.w.cell? ⟨r, 0, none⟩ = some (.slice (some ⟨g, o, none⟩) l.length cap) := fun n => (HK.out ⟨n.w, bt n0.h n.h⟩).1.1
      have hki : (k : Int) < (l.length : Nat) := by omega
      have hkl : (0 : Int) ≤ (k : Nat) ∧ ((l.length : Nat) : Int) ≤ 256 := by omega
      have hne2 := lat_some n0.w
      have HT := hide ht
      have HN := hide hno
      clear d0 d1 d2 d3 d4 ht hno
      cases hb : t.has p q
      · have HB := hide (show has t.r.x t.r.y t.r.a t.r.b p q = false from hb)
        have HB2 := hide hb
        clear hb
        go_wp2_with fail
        refine wp_region_lat (by kernel_rfl) (by kernel_rfl) ?_
        repeat (go_big_quiet_step (first | (go_at_call 28; exact calls_lat (rhas_is HB.out))))
        refine wpQuiet_nil ?_
        rintro _ ⟨n2, rfl⟩
        go_wp2_with fail
        go_roundw
        case rel =>
          refine ⟨k + 1, by omega, by go_num, fun j s' hj hjk => ?_, ⟨n2.w, bt n0.h n2.h⟩, rfl⟩
          by_cases hjk' : j = k
          · subst hjk'; rw [HT.out] at hj; cases hj; exact HB2.out
          · exact HN.out j s' hj (by omega)
        case measure => simp [intOf]; omega
      · have HA : Hid (fOf l p q = some t.id) := hide ((fOf_iff ha).2 ⟨t, List.mem_of_getElem? HT.out, hb, rfl⟩)
        have HB := hide (show has t.r.x t.r.y t.r.a t.r.b p q = true from hb)
        clear hb
        go_wp2_with fail
        refine wp_region_lat (by kernel_rfl) (by kernel_rfl) ?_
        repeat (go_big_quiet_step (first | (go_at_call 28; exact calls_lat (rhas_is HB.out))))
        refine wpQuiet_nil ?_
        rintro _ ⟨n2, rfl⟩
        have z2 := q8 n2
        have y0 := e0 n2
        go_wp2_with fail
        go_ret2
        exact ⟨by rw [HA.out]; rfl, (HK.out ⟨n2.w, bt n0.h n2.h⟩).2.2⟩
    · obtain rfl : k = l.length := by omega
      have HA : Hid (fOf l p q = none) := hide (fOf_none ha (fun s hs => by
        obtain ⟨j, hj, rfl⟩ := List.getElem_of_mem hs
        exact hno j l[j] (List.getElem?_eq_getElem hj) hj))
      have hki : ¬ ((l.length : Nat) : Int) < (l.length : Nat) := by omega
      clear hno
      go_wp2_with fail
      go_ret2
      exact ⟨by rw [HA.out]; rfl, (HK.out n0).2.2⟩
set_option maxRecDepth 100000 in
set_option maxHeartbeats 4000000 in
theorem reffind_any (r : Nat) (a : Option Addr) (cap : Nat) (l : List Bd) (hs : Sorted l) (i : Int) (w : World) (h : RxR w r a cap l) :
    Calls Try.prog 14 #[ptr r, .int .i64 i] w fun e w' => e = .returned (.tuple #[((gOf l i).getD Rc.no).v, .bool (gOf l i).isSome]) ∧ Below w.heap.size w w' := by
  obtain ⟨X, hX⟩ : ∃ X, w.alloc (.cells #[.int .i64 0, .int .i64 0, .int .i64 0, .int .i64 0] 34) = X := ⟨_, rfl⟩
  have B0 : Below w.heap.size w X := hX ▸ box1 _ _
  have F0 : Four X w.heap.size 0 0 0 0 := hX ▸ cells4 (Below.refl _ _)
  have h0 := h.kept B0
  have HP := hide (place_any r a cap l i X h0)
  obtain ⟨⟨k0, k1, k2, k3⟩, ⟨f0, f1, f2, f3⟩, -⟩ := id F0
  go_enter Try.func14, Try.ntmps14
  go_wp2_with (rw [hX])
  refine HP.out.mono ?_
  rintro e w1 ⟨z, rfl, hw1, (⟨rfl, hno⟩ | ⟨k, t, rfl, hk, rfl⟩)⟩
  · subst hw1
    have hd : decide ((-1 : Int) < 0) = true := by decide
    have HB := hide B0
    clear B0 hX h0 h HP
    go_wp2_with fail
    refine bodyPost_ret (v := .tuple #[Rc.no.v, .bool false]) (by simp [results, Try.results14, go_sem, k0, k1, k2, k3, f0, f1, f2, f3, Rc.no]) rfl ⟨?_, ?_⟩
    · rw [hno]; rfl
    · exact (((HB.out.setCell (Nat.le_refl _) _).setCell (Nat.le_refl _) _).setCell (Nat.le_refl _) _).setCell (Nat.le_refl _) _
  · subst hw1
    have htr : gOf l t.id = some t.r := gOf_mem hs (List.mem_of_getElem? hk)
    have hkl : k < l.length := (List.getElem?_eq_some_iff.1 hk).1
    obtain ⟨g, o, rfl, hgl, d0, d1, d2, d3, d4⟩ := h0.2.2.2 k t hk
    have cL := h0.1
    have hln := h0.2.2.1
    have hki : (0 : Int) ≤ (k : Nat) ∧ (k : Int) < (l.length : Nat) ∧ (l.length : Int) ≤ 256 := by omega
    have hd : decide ((k : Int) < 0) = false := by simp
    have HB := hide B0
    have HTr := hide htr
    clear B0 hX h0 h HP htr
    go_wp2_with fail
    refine bodyPost_ret (v := .tuple #[t.r.v, .bool true]) (by simp [results, Try.results14, go_sem, k0, k1, k2, k3, f0, f1, f2, f3]) rfl ⟨?_, ?_⟩
    · rw [HTr.out]; rfl
    · exact (((HB.out.setCell (Nat.le_refl _) _).setCell (Nat.le_refl _) _).setCell (Nat.le_refl _) _).setCell (Nat.le_refl _) _
theorem take_next {l : List Bd} {k : Nat} {t : Bd} (h : l[k]? = some t) : l.take (k + 1) = l.take k ++ [t] := by
  rw [List.take_add_one, h]; rfl
set_option maxRecDepth 100000 in
set_option maxHeartbeats 4000000 in
theorem refwithin_any (r : Nat) (av : Option Addr) (cap : Nat) (l : List Bd) (x y a b : Int) (w : World) (h : RxR w r av cap l) :
    Calls Try.prog 16 #[ptr r, rct x y a b] w fun e w' => ∃ v, e = .returned v ∧ Nn w' v (mids l x y a b) ∧ Below w.heap.size w w' := by
  obtain ⟨X, hX⟩ : ∃ X, w.alloc (.cells #[.int .i64 x, .int .i64 y, .int .i64 a, .int .i64 b] 34) = X := ⟨_, rfl⟩
  have B0 : Below w.heap.size w X := hX ▸ box1 _ _
  have F0 : Four X w.heap.size x y a b := hX ▸ cells4 (Below.refl _ _)
  have zX : X.heap.size = w.heap.size + 1 := by rw [← hX]; simp
  have N0 : Nn (X.alloc (.cells #[] 3)) (.slice (some ⟨X.heap.size, 0, none⟩) 0 0) [] := ⟨rfl, .inr ⟨_, 0, #[], rfl, Nat.zero_le _, heap_alloc_new X _, Nat.le_refl _, by decide, rfl, rfl⟩⟩
  have B1 : Below w.heap.size w (X.alloc (.cells #[] 3)) := bt B0 (box1 _ _)
  have F1 := F0.kept (box1 X (.cells #[] 3))
  have hln : l.length ≤ 256 := h.2.2.1
  have HR := hide h
  go_enter Try.func16, Try.ntmps16
  go_wp2_with (rw [hX])
  rw [← zX]
  have H1 := hide N0
  have H2 := hide B1
  have H3 := hide F1
  have HZ := hide zX
  clear N0 B1 F1 B0 F0 hX h zX
  go_loopw [5, 6] (fun v d wr => ∃ k : Nat, k ≤ l.length ∧ d = .int .i64 k ∧ Nn wr v (mids (l.take k) x y a b) ∧ (∀ j, v.ownBlock = some j → w.heap.size < j) ∧ Below w.heap.size w wr ∧ Four wr w.heap.size x y a b) (fun _ d _ => l.length - (intOf d).toNat)
  case atStart => exact ⟨0, Nat.zero_le _, rfl, H1.out, fun j e => by have := HZ.out; simp [Value.ownBlock] at e; omega, H2.out, H3.out⟩
  case round =>
    clear H1 H2 H3
    obtain ⟨k, hk, rfl, hN, hown, hB, hF⟩ := hrel
    have hR := HR.out.kept hB
    have z0 := hR.1
    have hmk : (mids (l.take k) x y a b).length ≤ 256 := by
      unfold mids
      rw [List.length_map]
      have := List.length_filter_le (fun t : Bd => mtB t.r.x t.r.y t.r.a t.r.b x y a b) (l.take k)
      simp at this
      omega
    obtain ⟨sa, sn, sc, rfl⟩ := hN.slice
    by_cases hlt : k < l.length
    · obtain ⟨t, ht⟩ : ∃ t, l[k]? = some t := ⟨_, List.getElem?_eq_getElem hlt⟩
      obtain ⟨g, o, rfl, hg, d0, d1, d2, d3, d4⟩ := hR.2.2.2 k t ht
      have e0 : ∀ n : Lat wr, n.w.cell? ⟨g, o + k * 5, none⟩ = some (.int .i64 t.id) := fun n => (n.h.cell (p := ⟨g, o + k * 5, none⟩) hg).trans d0
      have e1 : ∀ n : Lat wr, n.w.cell? ⟨g, o + k * 5 + 1, none⟩ = some (.int .i64 t.r.x) := fun n => (n.h.cell (p := ⟨g, o + k * 5 + 1, none⟩) hg).trans d1
      have e2 : ∀ n : Lat wr, n.w.cell? ⟨g, o + k * 5 + 2, none⟩ = some (.int .i64 t.r.y) := fun n => (n.h.cell (p := ⟨g, o + k * 5 + 2, none⟩) hg).trans d2
      have e3 : ∀ n : Lat wr, n.w.cell? ⟨g, o + k * 5 + 3, none⟩ = some (.int .i64 t.r.a) := fun n => (n.h.cell (p := ⟨g, o + k * 5 + 3, none⟩) hg).trans d3
      have e4 : ∀ n : Lat wr, n.w.cell? ⟨g, o + k * 5 + 4, none⟩ = some (.int .i64 t.r.b) := fun n => (n.h.cell (p := ⟨g, o + k * 5 + 4, none⟩) hg).trans d4
      have q0 : ∀ n : Lat wr, n.w.cell? ⟨w.heap.size, 0, none⟩ = some (.int .i64 x) := fun n => (hF.kept n.h).1.1
      have q1 : ∀ n : Lat wr, n.w.cell? ⟨w.heap.size, 1, none⟩ = some (.int .i64 y) := fun n => (hF.kept n.h).1.2.1
      have q2 : ∀ n : Lat wr, n.w.cell? ⟨w.heap.size, 2, none⟩ = some (.int .i64 a) := fun n => (hF.kept n.h).1.2.2.1
      have q3 : ∀ n : Lat wr, n.w.cell? ⟨w.heap.size, 3, none⟩ = some (.int .i64 b) := fun n => (hF.kept n.h).1.2.2.2
      have q8 : ∀ n : Lat wr, n.w.cell? ⟨r, 0, none⟩ = some (.slice (some ⟨g, o, none⟩) l.length cap) := fun n => (hR.kept n.h).1
      have hki : (k : Int) < (l.length : Nat) := by omega
      have hkl : (0 : Int) ≤ (k : Nat) ∧ ((l.length : Nat) : Int) ≤ 256 := by omega
      have hne2 := lat_some wr
      have hsn := mids_snoc (l.take k) t x y a b
      rw [← take_next ht] at hsn
      have HT := hide ht
      have HN := hide hN
      have HF := hide hF
      have HB := hide hB
      have HSn := hide hsn
      clear d0 d1 d2 d3 d4 ht hN hF hB hR hsn
      cases hb : mtB t.r.x t.r.y t.r.a t.r.b x y a b
      · have Hb := hide hb
        clear hb
        go_wp2_with fail
        refine wp_region_lat (by kernel_rfl) (by kernel_rfl) ?_
        repeat (go_big_quiet_step (first | (go_at_call 34; exact calls_lat (meet34_is Hb.out))))
        refine wpQuiet_nil ?_
        rintro _ ⟨n2, rfl⟩
        go_wp2_with fail
        go_roundw
        case rel =>
          refine ⟨k + 1, by omega, by go_num, ?_, hown, bt HB.out n2.h, HF.out.kept n2.h⟩
          rw [HSn.out, Hb.out]
          simp only [Bool.false_eq_true, if_false, List.append_nil]
          exact row_kept (S := NoB) HN.out (Turns.of_below n2.h) (fun _ _ => id)
        case measure => simp [intOf]; omega
      · have Hb := hide hb
        clear hb
        go_wp2_with fail
        refine wp_region_lat (by kernel_rfl) (by kernel_rfl) ?_
        repeat (go_big_quiet_step (first | (go_at_call 34; exact calls_lat (meet34_is Hb.out))))
        refine wpQuiet_nil ?_
        rintro _ ⟨n2, rfl⟩
        have z2 := q8 n2
        have y0 := e0 n2
        have N2 : Nn n2.w (.slice sa sn sc) (mids (l.take k) x y a b) := row_kept (S := NoB) HN.out (Turns.of_below n2.h) (fun _ _ => id)
        obtain ⟨v3, w3, r3, n3, g3, o3⟩ := N2.append t.id (by omega)
        have b3 := box1 n2.w (.cells #[.int .i64 t.id] 3)
        have T3 : Turns (fun j => (Value.slice sa sn sc).ownBlock = some j) n2.w w3 := (Turns.of_below b3).trans ((Turns.of_grown (S := fun j => (Value.slice sa sn sc).ownBlock = some j) g3 (fun j e => e)).mono (fun j _ e => .inl e))
        have B2 := bt HB.out n2.h
        have HE : Hid (Nn w3 v3 (mids (l.take (k + 1)) x y a b) ∧ (∀ j, v3.ownBlock = some j → w.heap.size < j) ∧ Below w.heap.size w w3 ∧ Four w3 w.heap.size x y a b) := hide (by
          refine ⟨?_, fun j e => ?_, B2.trans (T3.below (fun j e => Nat.le_of_lt (hown j e)) B2.size), (HF.out.kept n2.h).turned T3 (fun e => by have := hown _ e; omega)⟩
          · rw [HSn.out, Hb.out]
            exact n3
          · rcases o3 with q | ⟨j', q, hj⟩
            · exact hown j (q ▸ e)
            · rw [q] at e; cases e
              have := (HF.out.kept n2.h).2.2
              omega)
        have HA := hide r3
        clear N2 n3 g3 o3 b3 T3 B2 r3
        go_wp2_with (at_builtin; refine wpList_append_run rfl _ _ 45 rfl _ _ rfl rfl HA.out ?_)
        go_roundw
        case rel => exact ⟨k + 1, by omega, by go_num, HE.out⟩
        case measure => simp [intOf]; omega
    · obtain rfl : k = l.length := by omega
      have hki : ¬ ((l.length : Nat) : Int) < (l.length : Nat) := by omega
      rw [List.take_length] at hN
      have HN := hide hN
      have HB := hide hB
      clear hN hB hF hR
      go_wp2_with fail
      go_ret
      exact ⟨_, rfl, HN.out, HB.out⟩
end Go.Proofs.Ytkodeopkgmichaa
namespace Go.Proofs.Ytkodeopkgmichaa
open Go.RowKit Go.Shelf Go.Lib Go.Sort
set_option linter.unusedVariables false
set_option linter.unusedSimpArgs false
abbrev srt (xs : List Int) : List Int := xs.mergeSort (fun x y => decide (x ≤ y))
theorem sort_any {w : World} {v : Value} {xs : List Int} (h : Nn w v xs) (hl : xs.length ≤ 1000) :
    Calls Try.prog 47 #[v] w fun e w' => e = .returned (.tuple #[]) ∧ Nn w' v (srt xs) ∧ Turns (fun k => v.ownBlock = some k) w w' := by
  rcases h.form with ⟨rfl, rfl⟩ | ⟨g, cap, cur, rfl, hb, h1, h2, h3, h4⟩
  · have hc : Calls Try.prog 47 #[.slice none 0 0] w fun e w' => e = .returned (.tuple #[]) ∧ w' = w := AnyM.slices_Sort_int_none sortIn none 0 w
    refine hc.mono ?_
    rintro e w' ⟨rfl, rfl⟩
    exact ⟨rfl, by simpa [srt] using h, Turns.refl _ _⟩
  · have hc : Calls Try.prog 47 #[.slice (some ⟨g, 0, none⟩) xs.length cap] w fun e w' => e = .returned (.tuple #[]) ∧ ∃ n os, w' = grow (putRow (Value.int .i64) (Sort.ahead w n) g 0 (srt xs).toArray) os :=
      AnyM.slices_Sort_int sortIn g 0 cap xs w (holds_of_blockI hb h4) (Array.getElem?_eq_some_iff.1 hb).1 (by omega)
    refine hc.mono ?_
    rintro e w' ⟨rfl, n, os, rfl⟩
    have hlen : (srt xs).length = xs.length := List.length_mergeSort xs
    refine ⟨rfl, ?_, Turns.of_grown (grownBy_sortedI _) (fun k e => by cases e; rfl)⟩
    have := ownsRow_sortedI (n := n) (os := os) (base := 0) (e := 3) hlen (Nat.zero_le _) hb h1 h2 h3
    unfold Nn
    rw [hlen]
    exact this
set_option maxRecDepth 100000 in
set_option maxHeartbeats 2000000 in
theorem compact_nil (w : World) : Calls Try.prog 31 #[.slice none 0 0] w fun e w' => e = .returned (.slice none 0 0) ∧ w' = w := by
  go_enter Try.func31, Try.ntmps31
  go_wp2
  go_ret
  exact ⟨rfl, rfl⟩
theorem zero3v (w : World) : (zeroValue 3).run Try.prog w = .ok (.int .i64 0) w := by kernel_rfl
/-- A row of ints, from the beginning of its block on. -/
def Nr (w : World) (v : Value) (zs : List Int) : Prop := ∃ a cap, v = .slice a zs.length cap ∧ ∀ i x, zs[i]? = some x → ∃ g, a = some ⟨g, 0, none⟩ ∧ g < w.heap.size ∧ w.cell? ⟨g, i, none⟩ = some (.int .i64 x)
theorem compact_any {w : World} {v : Value} {xs : List Int} (h : Nn w v xs) (hl : xs.length ≤ 1000) :
    Calls Try.prog 31 #[v] w fun e w' => ∃ v', e = .returned v' ∧ Nr w' v' (compactUpTo xs.toArray xs.toArray.size) ∧ Turns (fun k => v.ownBlock = some k) w w' := by
  rcases h.form with ⟨rfl, rfl⟩ | ⟨g, cap, cur, rfl, hb, h1, h2, h3, h4⟩
  · refine (compact_nil w).mono ?_
    rintro e w' ⟨rfl, rfl⟩
    exact ⟨_, rfl, ⟨none, 0, rfl, fun i x hx => by simp [compactUpTo] at hx⟩, Turns.refl _ _⟩
  · have hc : Calls Try.prog 31 #[.slice (some ⟨g, 0, none⟩) xs.toArray.size cap] w fun e w' => e = .returned (.slice (some ⟨g, 0, none⟩) (compactUpTo xs.toArray xs.toArray.size).length cap) ∧ ∃ q, w' = putRow (Value.int .i64) (Sort.ahead w q) g 0 (compactUpTo xs.toArray xs.toArray.size ++ List.replicate (xs.toArray.size - (compactUpTo xs.toArray xs.toArray.size).length) 0).toArray :=
      AnyE.slices_Compact compactIn (Value.int .i64) (fun _ => rfl) (EqlAt.intD _ _ .i64) (NeqAt.intD _ _ .i64) 0 zero3v g 0 cap xs.toArray w (holds_of_blockI hb h4) (by simp; omega) (by simpa using h1)
    rw [show xs.length = xs.toArray.size by simp]
    refine hc.mono ?_
    rintro e w' ⟨rfl, q, rfl⟩
    have hgl := (Array.getElem?_eq_some_iff.1 hb).1
    obtain ⟨d, hd⟩ : ∃ d, compactUpTo xs.toArray xs.toArray.size ++ List.replicate (xs.toArray.size - (compactUpTo xs.toArray xs.toArray.size).length) 0 = d := ⟨_, rfl⟩
    have hgr : w.grownBy (putRow (Value.int .i64) (Sort.ahead w q) g 0 d.toArray) (some g) := by
      refine ⟨rfl, rfl, rfl, by simp, fun k hk hne => ?_⟩
      have : g ≠ k := fun e => hne (by rw [e])
      simp [putRow, mapBlock, Sort.ahead, Array.getElem?_modify, this]
    have hbl : (putRow (Value.int .i64) (Sort.ahead w q) g 0 d.toArray).heap[g]? = some (.cells (putCells (Value.int .i64) 0 d.toArray cur) 3) := by
      simp [putRow, mapBlock, Sort.ahead, Array.getElem?_modify, hb, onCells]
    rw [hd]
    refine ⟨_, rfl, ⟨_, cap, rfl, fun i x hx => ⟨g, rfl, by have := hgr.size; omega, ?_⟩⟩, Turns.of_grown hgr (fun k e => by cases e; rfl)⟩
    have hcl : (compactUpTo xs.toArray xs.toArray.size).length ≤ xs.length := by
      unfold compactUpTo
      rw [List.length_map]
      exact Nat.le_trans (List.length_filter_le _ _) (by simp)
    have hi : i < (compactUpTo xs.toArray xs.toArray.size).length := (List.getElem?_eq_some_iff.1 hx).1
    have hdl : d.length = xs.length := by rw [← hd]; simp; simp at hcl; omega
    have hdi : d[i]? = some x := by rw [← hd, List.getElem?_append_left hi]; exact hx
    rw [cell_of_row _ g i _ _ _ hbl]
    have := take_putCellsI cur d (by omega)
    have h5 : ((putCells (Value.int .i64) 0 d.toArray cur).toList.take d.length)[i]? = (d.map (Value.int .i64))[i]? := by rw [this]
    rw [List.getElem?_take_of_lt (by omega), Array.getElem?_toList] at h5
    rw [h5, List.getElem?_map, hdi]
    rfl
set_option maxRecDepth 100000 in
set_option maxHeartbeats 2000000 in
theorem collect_any {g : Nat} {lb : Array Value} {S Sp : List Int → Prop} {N : Nat} {w : World} (eg : ∀ args w, (callFunc g args).run Try.prog w = .ok (.enter g args) w) (hseq : SeqOwnI (10 - 1) g lb encI (Below w.heap.size) S Sp N w) (hN : N ≤ 1000) :
    Calls Try.prog 46 #[.func (.func g) #[] lb] w fun e w' => ∃ v xs, e = .returned v ∧ S xs ∧ Nn w' v xs ∧ (∀ k, v.ownBlock = some k → w.heap.size ≤ k) ∧ Below w.heap.size w w' := by
  have HG := hide (gather_any eg hseq hN)
  clear hseq eg
  go_enter Try.func46, Try.ntmps46
  go_wp2_with fail
  refine HG.out.mono ?_
  rintro e w1 ⟨v, xs, rfl, h1, h2, h3, h4⟩
  have H2 := hide h2
  clear h2
  go_wp2_with fail
  go_ret
  exact ⟨_, _, rfl, h1, H2.out, h3, h4⟩
set_option maxRecDepth 100000 in
set_option maxHeartbeats 2000000 in
theorem sorted_any {g : Nat} {lb : Array Value} {S Sp : List Int → Prop} {N : Nat} {w : World} (eg : ∀ args w, (callFunc g args).run Try.prog w = .ok (.enter g args) w) (hseq : SeqOwnI (10 - 1) g lb encI (Below w.heap.size) S Sp N w) (hN : N ≤ 1000) (hS : ∀ xs, S xs → xs.length ≤ 1000) :
    Calls Try.prog 32 #[.func (.func g) #[] lb] w fun e w' => ∃ v xs, e = .returned v ∧ S xs ∧ Nn w' v (srt xs) ∧ (∀ k, v.ownBlock = some k → w.heap.size ≤ k) ∧ Below w.heap.size w w' := by
  have HG := hide (collect_any eg hseq hN)
  clear hseq eg
  go_enter Try.func32, Try.ntmps32
  go_wp2_with fail
  refine HG.out.mono ?_
  rintro e w1 ⟨v, xs, rfl, h1, h2, h3, h4⟩
  have HS := hide (sort_any h2 (hS xs h1))
  clear h2
  go_wp2_with fail
  refine HS.out.mono ?_
  rintro e w2 ⟨rfl, n2, t2⟩
  have HB := hide (h4.trans (t2.below (fun k e => h3 k e) h4.size))
  have HN := hide n2
  clear n2 t2 HS
  go_wp2_with fail
  go_ret
  exact ⟨_, _, rfl, h1, HN.out, h3, HB.out⟩
end Go.Proofs.Ytkodeopkgmichaa
namespace Go.Proofs.Ytkodeopkgmichaa
open Go.RowKit Go.Shelf Go.Lib Go.Sort
set_option linter.unusedVariables false
set_option linter.unusedSimpArgs false
theorem mids_none {l : List Bd} {x y a b : Int} (h : may x y a b = false) : mids l x y a b = [] := by
  rw [List.eq_nil_iff_forall_not_mem]
  intro i hi
  obtain ⟨t, -, h1, -⟩ := mem_mids.1 hi
  simp only [mtB, Bool.and_eq_true] at h1
  rw [h] at h1
  exact absurd h1.2.1 (by decide)
/-- The iterator of touching, collected and sorted. -/
theorem touched_any {p fm bm m : Nat} {l : List Bd} {x y a b : Int} {w : World} (h : St w p fm bm m l) (hm : may x y a b = true) :
    Calls Try.prog 33 #[ptr p, rct x y a b] w fun e w' => ∃ v, e = .returned v ∧ Below w.heap.size w w' ∧ Calls Try.prog 32 #[v] w' fun e w2 => ∃ u xs, e = .returned u ∧ (∀ i, i ∈ xs ↔ i ∈ mids l x y a b) ∧ xs.length ≤ 1000 ∧ Nn w2 u (srt xs) ∧ (∀ k, u.ownBlock = some k → w'.heap.size ≤ k) ∧ Below w'.heap.size w' w2 := by
  by_cases hs : sm a b = true
  · refine (touching_small p x y a b w hs).mono ?_
    rintro e w' ⟨v, rfl, q, rfl, hq, hP, hF, hB⟩
    have h' := h.kept hB
    have h16 := allC_16 hm hs
    refine ⟨_, rfl, hB, (sorted_any (enters_of Try.func60 (by kernel_rfl) rfl) (onCells_seqI (10 - 1) p q bm m 16 (fOf l) x y a b w' (by omega) hP hF h'.ix.c1 h'.ix.who (fun _ => by
      have ⟨h1, h2⟩ : a.toNat ≤ 4 ∧ b.toNat ≤ 4 := by simp only [sm, Bool.and_eq_true, decide_eq_true_eq] at hs; omega
      exact Nat.mul_le_mul h2 h1)) (by omega) (fun xs e => by rw [e]; have := onL_len (fOf l) (allC x y a b); omega)).mono ?_⟩
    rintro e w2 ⟨u, xs, rfl, rfl, h1, h2, h3⟩
    exact ⟨u, _, rfl, fun i => on_mids h.fine.apart, by have := onL_len (fOf l) (allC x y a b); omega, h1, h2, h3⟩
  · refine (touching_great p x y a b w (by simpa using hs)).mono ?_
    rintro e w' ⟨v, rfl, q, rfl, hq, hP, hF, hB⟩
    have h' := h.kept hB
    have hlen := h.fine.len
    have hml : ∀ L : List Bd, L.Perm l → (mids L x y a b).length ≤ 256 := fun L hL => by
      unfold mids
      rw [List.length_map]
      have := List.length_filter_le (fun t : Bd => mtB t.r.x t.r.y t.r.a t.r.b x y a b) L
      have := hL.length_eq
      omega
    refine ⟨_, rfl, hB, (sorted_any (enters_of Try.func61 (by kernel_rfl) rfl) (meeting_seqI (10 - 1) p q fm bm m l.length l (fOf l) x y a b w' hP hF h'.ix h.fine.sorted (fun t ht => (h.fine.all t ht).1) (Nat.le_refl _)) (by omega) (fun xs e => by obtain ⟨L, hL, rfl⟩ := e; have := hml L hL; omega)).mono ?_⟩
    rintro e w2 ⟨u, xs, rfl, ⟨L, hL, rfl⟩, h1, h2, h3⟩
    exact ⟨u, _, rfl, fun i => mids_perm hL, by have := hml L hL; omega, h1, h2, h3⟩
set_option maxRecDepth 100000 in
set_option maxHeartbeats 2000000 in
theorem within_st {p fm bm m : Nat} {l : List Bd} {x y a b : Int} {w : World} (h : St w p fm bm m l) :
    Calls Try.prog 15 #[ptr p, rct x y a b] w fun e w' => ∃ v, e = .returned v ∧ Nr w' v (mids l x y a b) ∧ Below w.heap.size w w' := by
  obtain ⟨X, hX⟩ : ∃ X, w.alloc (.cells #[.int .i64 x, .int .i64 y, .int .i64 a, .int .i64 b] 34) = X := ⟨_, rfl⟩
  have B0 : Below w.heap.size w X := hX ▸ box1 _ _
  have F0 : Four X w.heap.size x y a b := hX ▸ cells4 (Below.refl _ _)
  have h0 := h.kept B0
  have HM := hide (made_yes p fm X h0.ix.c0)
  obtain ⟨⟨k0, k1, k2, k3⟩, -, -⟩ := id F0
  go_enter Try.func15, Try.ntmps15
  go_wp2_with (rw [hX])
  refine HM.out.mono ?_
  rintro e w1 ⟨rfl, rfl⟩
  clear hX
  cases hm : may x y a b
  · have HY := hide (may_is w1 hm)
    go_wp2_with fail
    refine HY.out.mono ?_
    rintro e w2 ⟨rfl, hb2⟩
    have HB := hide (bt B0 hb2)
    clear hb2
    go_wp2_with fail
    go_ret
    exact ⟨_, rfl, by rw [mids_none hm]; exact ⟨none, 0, rfl, fun i z hz => by simp at hz⟩, HB.out⟩
  · have HY := hide (may_is w1 hm)
    go_wp2_with fail
    refine HY.out.mono ?_
    rintro e w2 ⟨rfl, hb2⟩
    have F2 := F0.kept hb2
    obtain ⟨⟨q0, q1, q2, q3⟩, -, -⟩ := id F2
    have h2 := h0.kept hb2
    have B2 := bt B0 hb2
    clear k0 k1 k2 k3 hb2 HM HY
    go_wp2_with fail
    refine (touched_any h2 hm).mono ?_
    rintro e w3 ⟨v, rfl, hb3, hc3⟩
    have HC := hide hc3
    clear hc3
    go_wp2_with fail
    refine HC.out.mono ?_
    rintro e w4 ⟨u, xs, rfl, hmem, hlen, hn, hown, hb4⟩
    have HK := hide (compact_any hn (by rw [List.length_mergeSort]; exact hlen))
    clear hn HC
    go_wp2_with fail
    refine HK.out.mono ?_
    rintro e w5 ⟨v5, rfl, hr, ht⟩
    have HR := hide hr
    have HB := hide ((bt B2 (bt hb3 hb4)).trans (ht.below (fun k e => by have := hown k e; have := (bt B2 hb3).size; omega) (bt B2 (bt hb3 hb4)).size))
    clear hr ht HK
    go_wp2_with fail
    go_ret
    refine ⟨_, rfl, ?_, HB.out⟩
    have := HR.out
    rw [sifted (mids_rising h.fine.sorted x y a b) hmem] at this
    exact this
end Go.Proofs.Ytkodeopkgmichaa
