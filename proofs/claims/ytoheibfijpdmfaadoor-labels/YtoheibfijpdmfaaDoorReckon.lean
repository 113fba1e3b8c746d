/-
  reckon: the clearances of the reached cells reckoned anew, from the last one back.
-/
import Derived.Test.YtoheibfijpdmfaaDoorReached
import Derived.Test.YtoheibfijpdmfaaDoorFld
set_option linter.unusedSimpArgs false
namespace Go.Proofs.YtoheibfijpdmfaaDoor
open Go.RowKit Go.Shelf
set_option linter.unusedVariables false
attribute [local go_sem] Oper.semAt_some
theorem reached_any (p : Nat) (a : Option Addr) (n c : Nat) (w : World) : Calls Tryd.prog 78 #[ptr p, .slice a n c] w fun e w' => e = .returned (.func (.func 94) #[] #[ptr (w.heap.size + 1), ptr w.heap.size]) ∧ w' = (w.alloc (.cells #[ptr p] 58)).alloc (.cells #[.slice a n c] 87) := by
  go_enter Tryd.func78, Tryd.ntmps78
  go_wp2_with fail
  go_ret
  exact ⟨rfl, rfl⟩
/-- What some cells reckoned anew make of a list, and how many turned. -/
def stL (car : Int → Int → Bool) (wd ht : Nat) {N : Nat} (l : List Nat) (pre : List (Fin N)) : List Nat × Nat := (pre.map Fin.val).foldl (stp car wd ht) (l, 0)
theorem stL_nil (car : Int → Int → Bool) (wd ht : Nat) {N : Nat} (l : List Nat) : stL car wd ht l ([] : List (Fin N)) = (l, 0) := rfl
theorem stL_snoc (car : Int → Int → Bool) (wd ht : Nat) {N : Nat} (l : List Nat) (pre : List (Fin N)) (k : Fin N) : stL car wd ht l (pre ++ [k]) = stp car wd ht (stL car wd ht l pre) k.val := by
  simp [stL]
theorem stL_len (car : Int → Int → Bool) (wd ht : Nat) {N : Nat} (l : List Nat) (pre : List (Fin N)) : (stL car wd ht l pre).1.length = l.length ∧ (stL car wd ht l pre).2 ≤ pre.length := by
  suffices H : ∀ (m : List (Fin N)) (x : List Nat × Nat), ((m.map Fin.val).foldl (stp car wd ht) x).1.length = x.1.length ∧ ((m.map Fin.val).foldl (stp car wd ht) x).2 ≤ x.2 + m.length by
    have := H pre (l, 0)
    simpa [stL] using this
  intro m
  induction m with
  | nil => intro x; simp
  | cons k m ih =>
    intro x
    have := ih (stp car wd ht x k.val)
    simp only [List.map_cons, List.foldl_cons, List.length_cons]
    refine ⟨this.1.trans (by simp [stp]), Nat.le_trans this.2 ?_⟩
    unfold stp
    simp only
    split <;> omega
theorem stp_bytes {car : Int → Int → Bool} {wd ht : Nat} {x : List Nat × Nat} {k : Nat} (h : ∀ u ∈ x.1, u < 256) : ∀ u ∈ (stp car wd ht x k).1, u < 256 := by
  intro u hu
  unfold stp at hu
  simp only at hu
  rcases List.mem_or_eq_of_mem_set hu with h1 | h1
  · exact h u h1
  · have := grw_le (car ((k % wd : Nat) : Int) ((k / wd : Nat) : Int)) (atL wd ht x.1 (((k % wd : Nat) : Int) + 1) ((k / wd : Nat) : Int)) (atL wd ht x.1 ((k % wd : Nat) : Int) (((k / wd : Nat) : Int) + 1)) (atL wd ht x.1 (((k % wd : Nat) : Int) + 1) (((k / wd : Nat) : Int) + 1))
    rw [h1]
    unfold grL
    omega
theorem stL_bytes (car : Int → Int → Bool) (wd ht : Nat) {N : Nat} {l : List Nat} (h : ∀ u ∈ l, u < 256) (pre : List (Fin N)) : ∀ u ∈ (stL car wd ht l pre).1, u < 256 := by
  suffices H : ∀ (m : List (Fin N)) (x : List Nat × Nat), (∀ u ∈ x.1, u < 256) → ∀ u ∈ ((m.map Fin.val).foldl (stp car wd ht) x).1, u < 256 from H pre (l, 0) h
  intro m
  induction m with
  | nil => intro x hx; simpa using hx
  | cons k m ih => intro x hx; exact ih _ (stp_bytes hx)
theorem szs_own {β : Type} {B b : Nat} {F : β → List Nat} : OwnFrom B (fun (s : β) W => Szs W b (F s)) := fun s X Y row hs hg hr => by
  refine (hg.block b hs.lt (fun e => ?_)).trans hs
  obtain ⟨-, o, ho, hc⟩ := hr b e.symm
  rw [show X.heap[b]? = _ from hs] at ho
  cases ho
  cases hc
theorem rng (t : Nat) (h : t < 128) : (0 : Int) ≤ (t : Int) ∧ (t : Int) < 128 := by omega
theorem set_self {l : List Nat} {k g : Nat} (h : l[k]? = some g) : l.set k g = l := by
  obtain ⟨h1, h2⟩ := List.getElem?_eq_some_iff.1 h
  subst h2
  exact List.set_getElem_self h1
set_option maxRecDepth 100000 in
set_option maxHeartbeats 8000000 in
theorem reckon_any (p q b N : Nat) (cl ep : Int) (wd ht : Nat) (l : List Nat) (tl : List Nat) (f : Int → Int → Option Int) (ev : Value) (rl : List Rc) (w : World) (hwd : (1 ≤ wd ∧ wd ≤ 128) ∧ 1 ≤ ht ∧ ht ≤ 128) (hN : N = wd * ht)
    (hd : Fd w p q cl wd ht b N ep) (hs : Szs w b l) (hl : l.length = N) (hb : ∀ u ∈ l, u < 256) (hE : ∀ X, Turns (fun k => k = b) w X → Wl X q wd ht tl f ∧ Grnd X ∧ Offs X)
    (hR : RcB w ev rl) (hrl : rl.length ≤ 1000000) (hwi : ∀ r ∈ rl, wi r.x r.y r.a r.b 0 0 wd ht = true) :
    Calls Tryd.prog 51 #[ptr p, ev] w fun e w' => e = .returned (.int .i64 ((stL (carB wd ht tl f cl) wd ht l (markL N wd rl)).2 : Nat)) ∧ Szs w' b (stL (carB wd ht tl f cl) wd ht l (markL N wd rl)).1 ∧ Turns (fun k => k = b) w w' := by
  obtain ⟨ea, ecap, hev, hcap, -⟩ := id hR
  obtain ⟨w0, hw0⟩ : ∃ w0, (w.alloc (.cells #[ptr p] 58)).alloc (.cells #[.int .i64 0] 3) = w0 := ⟨_, rfl⟩
  have B0 : Below w.heap.size w w0 := by rw [← hw0]; exact box2 _ _ _
  have z0 : w0.heap.size = w.heap.size + 2 := by rw [← hw0]; simp
  have P0 : Boxed w0 w.heap.size 58 (ptr p) := by rw [← hw0]; exact (Boxed.new w 58 (ptr p)).alloc _
  have T0 : Boxed w0 (w.heap.size + 1) 3 (.int .i64 0) := by
    rw [← hw0]
    have := Boxed.new (w.alloc (.cells #[ptr p] 58)) 3 (.int .i64 0)
    simpa using this
  have HZ := hide z0
  have HW0 := hide hw0
  subst hev
  clear z0 hw0
  refine (callsIn_wide (n := 10)).1 ?_
  refine callsIn_of_wp_marks Tryd.func51 rfl trivial ?_ rfl
  simp only [Tryd.ntmps51, List.size_toArray, List.length_cons, List.length_nil, Nat.reduceAdd, Nat.reduceSub, Array.replicate_succ, Array.replicate_zero, List.push_toArray, List.append_toArray, List.nil_append, List.cons_append]
  gi_wp2_with fail
  rw [HW0.out]
  refine ⟨trivial, ?_⟩
  refine (callsIn_wide.2 (reached_any _ _ _ _ _)).mono ?_
  rintro e w1 ⟨rfl, hw1⟩
  have B1 : Below w0.heap.size w0 w1 := by rw [hw1]; exact box2 _ _ _
  have z1 : w1.heap.size = w0.heap.size + 2 := by rw [hw1]; simp
  have F1 : Boxed w1 w0.heap.size 58 (ptr p) := by rw [hw1]; exact (Boxed.new w0 58 (ptr p)).alloc _
  have E1 : Boxed w1 (w0.heap.size + 1) 87 (.slice ea rl.length ecap) := by
    rw [hw1]
    have := Boxed.new (w0.alloc (.cells #[ptr p] 58)) 87 (.slice ea rl.length ecap)
    simpa using this
  have hB : Below w.heap.size w w1 := bt B0 B1
  have d1 := hd.upto hB
  have s1 := hs.upto hB
  have R1 := hR.kept hB
  have P1 := boxed_upto P0 B1 P0.lt
  have T1 := boxed_upto T0 B1 T0.lt
  have hpb : p ≠ b := hd.ne hs
  have zb := hs.lt
  have zp := hd.lt
  have z0 := HZ.out
  have hN2 : N ≤ 16384 := by have := Nat.mul_le_mul hwd.1.2 hwd.2.2; omega
  clear hw1 HW0 z0
  gi_wp2_with fail
  have z0 := HZ.out
  refine range_nest (n := 10) (w0 := w1) (by omega) (gf := 94) (lb := #[ptr (w0.heap.size + 1), ptr w0.heap.size]) rfl (enters_of Tryd.func94 (by kernel_rfl) rfl)
    (reached_seq (10 - 1) p q (w0.heap.size + 1) w0.heap.size b N cl ep wd ht (.slice ea rl.length ecap) rl w1 (by omega) hwd hN d1 E1 F1 R1 hrl hwi) kB2_t (fun W l o o' h1 h2 h3 h4 => ⟨kB_b (w := w1) (by omega) W l o o' h1 h2 h3 h4, kB_b (w := w1) (by omega) W l o o' h1 h2 h3 h4⟩) (Below.refl _ _) (fun _ => rfl)
    (fun pre X => (((Szs X b (stL (carB wd ht tl f cl) wd ht l pre).1 ∧ Boxed X (w.heap.size + 1) 3 (.int .i64 ((stL (carB wd ht tl f cl) wd ht l pre).2 : Nat))) ∧ Boxed X w.heap.size 58 (ptr p)) ∧ Turns (fun k => k = b) w X) ∧ w1.heap.size ≤ X.heap.size)
    (fun pre X => False)
    (OwnFrom.and (OwnFrom.and (OwnFrom.and (OwnFrom.and szs_own (Own.from (boxed_own (w.heap.size + 1) 3 (fun pre : List (Fin N) => .int .i64 ((stL (carB wd ht tl f cl) wd ht l pre).2 : Nat))) _)) (Own.from (boxed_own _ _ _) _)) (ownFrom_turns (by omega))) (ownFrom_size _ _))
    (ownFrom_pure _ _)
    ⟨⟨⟨⟨s1, T1⟩, P1⟩, Turns.of_below hB⟩, Nat.le_refl _⟩
    (fun k a' X => ∃ Bx, w1.heap.size ≤ Bx ∧ Two X Bx ((k.val % wd : Nat) : Int) ((k.val / wd : Nat) : Int) ∧ a' = { tmps := #[ptr p, .slice ea rl.length ecap, ptr w.heap.size, undef, .int .i64 0, ptr (w.heap.size + 1), ptr Bx, undef, undef, ptr p, .slice ea rl.length ecap, .func (.func 94) #[] #[ptr (w0.heap.size + 1), ptr w0.heap.size], cel ((k.val % wd : Nat) : Int) ((k.val / wd : Nat) : Int), undef, undef, undef, undef, undef, undef, undef, undef, undef, undef, undef, undef, undef, undef, undef, undef, undef, undef, undef, undef, undef, undef, undef, undef, undef], defers := [] })
    (fun k a' _ X Y row hs hg hr => by obtain ⟨Bx, e1, e2, e3⟩ := hs; exact ⟨Bx, e1, e2.own hg (fun r e => (hr r e).2), e3⟩)
    ?assign ?body ?done ?stop
  case assign =>
    rintro l' pre k X K ⟨⟨⟨⟨hS, hT⟩, hP⟩, hB'⟩, hz⟩ hK
    dsimp only [encK]
    generalize ((k.val % wd : Nat) : Int) = kx at hK ⊢
    generalize ((k.val / wd : Nat) : Int) = ky at hK ⊢
    clear z0
    gi_wp2
    have z0 := HZ.out
    exact hK _ _ (Keep.of_below (box1 _ _)) ⟨kB_below (box1 X _) (by omega), kB_below (box1 X _) (by omega)⟩ ⟨⟨⟨⟨hS.upto (box1 _ _), hT.alloc _⟩, hP.alloc _⟩, hB'.trans (Turns.of_below (box1 _ _))⟩, by simp; omega⟩ ⟨X.heap.size, hz, Two.newAt rfl, rfl⟩
  case body =>
    rintro l' pre ⟨k, hk⟩ a' X hl' ⟨⟨⟨⟨hS, hT⟩, hP⟩, hB'⟩, hz⟩ ⟨Bx, hBx, T, rfl⟩ hlt
    obtain ⟨hlen, hcnt⟩ := stL_len (carB wd ht tl f cl) wd ht l pre
    have hby := stL_bytes (carB wd ht tl f cl) wd ht hb pre
    have hsn := stL_snoc (carB wd ht tl f cl) wd ht l pre ⟨k, hk⟩
    unfold stp at hsn
    simp only at hsn T
    obtain ⟨L, hL⟩ : ∃ L, (stL (carB wd ht tl f cl) wd ht l pre).1 = L := ⟨_, rfl⟩
    obtain ⟨cn, hcn⟩ : ∃ cn, (stL (carB wd ht tl f cl) wd ht l pre).2 = cn := ⟨_, rfl⟩
    rw [hL] at hS hlen hby
    rw [hL, hcn] at hsn
    rw [hcn] at hT hcnt
    have hkx : k % wd < wd := Nat.mod_lt _ (by omega)
    have hky : k / wd < ht := by rw [Nat.div_lt_iff_lt_mul (by omega), Nat.mul_comm ht wd, ← hN]; exact hk
    have hke : k / wd * wd + k % wd = k := by rw [Nat.mul_comm]; exact Nat.div_add_mod k wd
    have dX : Fd X p q cl wd ht b N ep := hd.kept hB' hpb
    have hTn : ∀ n : Lat X, Turns (fun k => k = b) w n.w := fun n => hB'.trans (Turns.of_below n.h)
    have hq1 : IntKind.i64.wrap (((k / wd : Nat) : Int) * (wd : Int)) = ((k / wd * wd : Nat) : Int) := by
      rw [show ((k / wd : Nat) : Int) * (wd : Int) = ((k / wd * wd : Nat) : Int) by push_cast; rfl]
      exact wrap_nat (by omega)
    have hq2 : IntKind.i64.wrap (((k / wd * wd : Nat) : Int) + ((k % wd : Nat) : Int)) = (k : Nat) := by
      rw [show ((k / wd * wd : Nat) : Int) + ((k % wd : Nat) : Int) = (k : Int) by omega]
      exact wrap_nat (by omega)
    have HIx : Hid (∀ n : Lat X, Calls Tryd.prog 79 #[ptr p, cel ((k % wd : Nat) : Int) ((k / wd : Nat) : Int)] n.w fun e w' => e = .returned (.int .i64 (k : Nat)) ∧ Below n.w.heap.size n.w w') := hide fun n => findex_any _ _ _ k hq1 hq2 (dX.upto n.h)
    obtain ⟨g, hg⟩ : ∃ g, grL (carB wd ht tl f cl) wd ht L ((k % wd : Nat) : Int) ((k / wd : Nat) : Int) = g := ⟨_, rfl⟩
    have hg4 : g ≤ 4 := by rw [← hg]; exact grw_le _ _ _ _
    have HGr : Hid (∀ n : Lat X, Calls Tryd.prog 80 #[ptr p, cel ((k % wd : Nat) : Int) ((k / wd : Nat) : Int)] n.w fun e w' => e = .returned (.int .u8 (g : Nat)) ∧ Below n.w.heap.size n.w w') := hide fun n => by
      have hEn := hE n.w (hTn n)
      have := grown_any (tl := tl) (f := f) ((k % wd : Nat) : Int) ((k / wd : Nat) : Int) (rng _ (Nat.lt_of_lt_of_le hkx hwd.1.2)) (rng _ (Nat.lt_of_lt_of_le hky hwd.2.2)) (dX.upto n.h) (hS.upto n.h) ⟨hwd.1.2, hwd.2.2⟩ (by omega) (by omega) hby hEn.1 hEn.2.1 hEn.2.2
      rwa [hg] at this
    rw [hg] at hsn
    generalize hkxe : ((k % wd : Nat) : Int) = kx at HIx HGr T ⊢
    generalize hkye : ((k / wd : Nat) : Int) = ky at HIx HGr T ⊢
    have hPl : ∀ n : Lat X, n.w.cell? ⟨w.heap.size, 0, none⟩ = some (ptr p) := fun n => (boxed_upto hP n.h hP.lt).cell
    obtain ⟨t0, t1⟩ := T.lat
    have hne := lat_some X
    obtain ⟨old, hold⟩ : ∃ old, L[k]? = some old := ⟨_, List.getElem?_eq_getElem (by omega)⟩
    have hold' : L.getD k 0 = old := by rw [List.getD_eq_getElem?_getD, hold]; rfl
    rw [hold'] at hsn
    have hob : old < 256 := hby old (List.mem_of_getElem? hold)
    have Hsn := hide hsn
    have Hold := hide hold
    clear hsn hold hold' hkxe hkye hq1 hq2 hke z0 hg hL hcn
    gi_wp2_with fail
    refine wpIn_region_lat (by kernel_rfl) (by kernel_rfl) (by kernel_rfl) ?_
    repeat (refine wpQuietIn_step (fun _ _ _ _ => trivial) (fun K hK => ?_); go_simp; first | (refine hK _ ?_; clear hK K) | (apply Exists.intro; refine ⟨fun _ => ?_, hK _ ?_⟩; first | exact callsIn_lat (CallsIn.inRound l' (callsIn_wide.2 (HIx.out _))) | exact callsIn_lat (CallsIn.inRound l' (callsIn_wide.2 (HGr.out _))); clear hK K))
    refine wpQuietIn_nil ?_
    rintro _ ⟨m, rfl⟩
    have q0 := hPl m
    have dm := dX.upto m.h
    have sm := hS.upto m.h
    have q6 := dm.c 6
    simp only [List.getElem?_toArray, List.getElem?_cons_zero, List.getElem?_cons_succ] at q6
    have qk := sm.c Hold.out
    have fk := sm.f k
    have hkI : (0 : Int) ≤ (k : Nat) ∧ ((k : Nat) : Int) < (N : Nat) := by omega
    have hTm := boxed_upto hT m.h hT.lt
    have zm := m.h.size
    clear hPl t0 t1
    by_cases hog : old = g
    · subst hog
      have z0 := HZ.out
      clear z0
      gi_wp2_with fail
      have z0 := HZ.out
      refine ⟨Keep.of_below m.h, ⟨kB_below m.h (by omega), kB_below m.h (by omega)⟩, ⟨⟨⟨⟨?_, ?_⟩, boxed_upto hP m.h hP.lt⟩, hTn m⟩, by omega⟩⟩
      · rw [Hsn.out, set_self Hold.out]; exact sm
      · rw [Hsn.out]; exact hTm
    · have hogi : ¬ ((old : Nat) : Int) = (g : Nat) := by omega
      have hcI : (0 : Int) ≤ (cn : Nat) ∧ ((cn : Nat) : Int) < 16384 := by omega
      have cT : (m.w.setCell ⟨b, k, none⟩ (.int .u8 (g : Nat))).cell? ⟨w.heap.size + 1, 0, none⟩ = some (.int .i64 (cn : Nat)) := cell_other hTm.cell (by omega)
      have fT : (m.w.setCell ⟨b, k, none⟩ (.int .u8 (g : Nat))).frozen? ⟨w.heap.size + 1, 0, none⟩ = false := (World.frozen?_setCell _ _ _ _).trans hTm.frozen
      gi_wp2_with fail
      have z0 := HZ.out
      have hT2 : Boxed (m.w.setCell ⟨b, k, none⟩ (.int .u8 (g : Nat))) (w.heap.size + 1) 3 (.int .i64 (cn : Nat)) := (Below.heap_setCell _ _ _ _ (by simp; omega)).trans hTm
      refine ⟨((Keep.of_below m.h).trans (Keep.set _ _ (by simp; omega))).trans (Keep.set _ _ (by simp; omega)), ⟨kB_t (kB_t (kB_below m.h (by omega)) (kB_set _ _ (by simp; omega))) (kB_set _ _ (by simp; omega)), kB_t (kB_t (kB_below m.h (by omega)) (kB_set _ _ (by simp; omega))) (kB_set _ _ (by simp; omega))⟩, ⟨⟨⟨⟨?_, ?_⟩, ?_⟩, ?_⟩, ?_⟩⟩
      · rw [Hsn.out]; exact (Below.heap_setCell _ _ _ _ (by simp; omega)).trans (sm.set k g)
      · rw [Hsn.out, if_neg hog]; exact hT2.set _
      · exact (Below.heap_setCell _ _ _ _ (by simp)).trans ((Below.heap_setCell _ _ _ _ (by simp; omega)).trans (boxed_upto hP m.h hP.lt))
      · exact ((hTn m).trans (Turns.set m.w (p := ⟨b, k, none⟩) (.inl rfl) _)).trans (Turns.set _ (p := ⟨w.heap.size + 1, 0, none⟩) (.inr (by simp)) _)
      · simp [World.setCell]; omega
  case done =>
    rintro D xs X hD rfl ⟨⟨⟨⟨hS, hT⟩, hP⟩, hB'⟩, hz⟩ hK
    have cT := hT.cell
    have HSx := hide hS
    clear hS z0
    gi_wp2_with fail
    have z0 := HZ.out
    refine ⟨by simp, .inl ⟨_, _, rfl, run_takeDeferred hK, ?_⟩⟩
    refine ⟨.int .i64 ((stL (carB wd ht tl f cl) wd ht l (markL N wd rl)).2 : Nat), by simp [results, Tryd.f51, go_sem], rfl, (World.putObj_heap_other (by omega)).trans HSx.out, hB'.trans (Turns.of_grown (grownBy_putObj' X D (.deferred none)) (fun k e => .inr (by cases e; omega)))⟩
  case stop =>
    rintro D pre X hD hpre hno hK
    exact hno.elim
end Go.Proofs.YtoheibfijpdmfaaDoor
