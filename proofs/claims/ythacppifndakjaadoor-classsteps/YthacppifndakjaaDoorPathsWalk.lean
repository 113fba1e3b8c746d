/-
  phalanxlaw06.ClassPaths, walked.
-/
import Derived.Test.YthacppifndakjaaDoorLegal
import Derived.Test.YthacppifndakjaaDoorBoth
namespace Go.Proofs.YthacppifndakjaaDoor
open Go.RowKit
set_option linter.unusedVariables false
theorem append_nil51 (w : World) (g : Nat) (ty : TypeId) : (Builtin.append_ #[51, 51] ty #[.slice (some ⟨g, 0, none⟩) 0 0, .slice none 0 0]).run Tryd.prog w = .ok (.slice (some ⟨g, 0, none⟩) 0 0) w := by kernel_rfl
theorem info25 : (Tryd.prog.info? 25).map (fun i => (i.zero, i.size, i.bytes)) = some (some (.agg #[.int .i64 0, .int .i64 0]), 2, 16) := by kernel_rfl
def ceCs (q : Int × Int) : List Value := [.int .i64 q.1, .int .i64 q.2]
theorem ce_len (P : List (Int × Int)) : (P.flatMap ceCs).length = P.length * 2 := by
  induction P with
  | nil => rfl
  | cons q r ih => rw [List.flatMap_cons, List.length_append, ih, List.length_cons]; simp [ceCs]; omega
theorem ce_get : ∀ (P : List (Int × Int)) (i : Nat) (q : Int × Int) (j : Nat), P[i]? = some q → j < 2 → (P.flatMap ceCs)[i * 2 + j]? = (ceCs q)[j]?
  | [], i, q, j, h, hj => by simp at h
  | p :: r, 0, q, j, h, hj => by
    simp at h; subst h
    rw [List.flatMap_cons, Nat.zero_mul, Nat.zero_add, List.getElem?_append_left (by simpa [ceCs] using hj)]
  | p :: r, i + 1, q, j, h, hj => by
    have := ce_get r i q j (by simpa using h) hj
    rw [List.flatMap_cons, List.getElem?_append_right (by simp [ceCs]; omega)]
    rw [← this]
    congr 1
    simp [ceCs]; omega
theorem ce_one {P : List (Int × Int)} : ∀ u ∈ P.flatMap ceCs, u.oneCell' = true := by
  intro u hu
  obtain ⟨q, -, hq⟩ := List.mem_flatMap.1 hu
  simp [ceCs] at hq
  rcases hq with rfl | rfl <;> rfl
theorem CeR.cellsAt {w : World} {a : Option Addr} {P : List (Int × Int)} {cap : Nat} (h : CeR w (.slice a P.length cap) P) : ∀ ad, a = some ad → ∀ j u, (P.flatMap ceCs)[j]? = some u → w.cell? (ad.add j) = some u := fun ad ha j u hu => by
  obtain ⟨a', cap', e, -, -, -, hat⟩ := h
  injection e with e1
  subst e1
  have hj : j < P.length * 2 := by have := (List.getElem?_eq_some_iff.1 hu).1; rwa [ce_len] at this
  obtain ⟨q, hq⟩ : ∃ q, P[j / 2]? = some q := ⟨_, List.getElem?_eq_getElem (by omega)⟩
  have hg := ce_get P (j / 2) q (j % 2) hq (by omega)
  rw [show j / 2 * 2 + j % 2 = j by omega] at hg
  rw [hg] at hu
  obtain ⟨g, o, e1, e2, c0, c1⟩ := hat (j / 2) q hq
  rw [ha] at e1
  cases e1
  rw [Addr.add_lit]
  have hm : j % 2 < 2 := by omega
  have hj5 : o + j = o + j / 2 * 2 + j % 2 := by omega
  rw [hj5]
  match hq : j % 2, hm with
  | 0, _ => rw [hq] at hu; cases hu; simpa using c0
  | 1, _ => rw [hq] at hu; cases hu; exact c1
theorem ceR_own {w : World} {v : Value} {P : List (Int × Int)} (h : w.ownsRow 0 25 2 v P.length (P.flatMap ceCs)) : CeR w v P := by
  rcases h.2 with ⟨e, h0⟩ | ⟨g, cap, cur, e, hb, hg, hn, hm, hs, ht⟩
  · exact ⟨none, 0, by rw [h0]; exact e, by omega, by rw [h0]; decide, fun _ => ⟨h0, rfl⟩, fun i t hi => by
      have := List.eq_nil_of_length_eq_zero h0; subst this; simp at hi⟩
  · refine ⟨_, cap, e, hn, Nat.le_trans hn hm, (fun h => by cases h), fun i q hi => ?_⟩
    have hc : ∀ j u, (ceCs q)[j]? = some u → j < 2 → w.cell? ⟨g, 0 + i * 2 + j, none⟩ = some u := fun j u hu hj => by
      have := h.cells (g := g) (by rw [e]; rfl) (i * 2 + j) u (by rw [ce_get P i q j hi hj]; exact hu)
      simpa [Addr.add_lit] using this
    exact ⟨g, 0, rfl, (Array.getElem?_eq_some_iff.1 hg).1, hc 0 _ rfl (by omega), hc 1 _ rfl (by omega)⟩
/-- append of a path onto an empty slice. -/
theorem append_path (w : World) (a : Option Addr) (cap : Nat) (P : List (Int × Int)) (h : CeR w (.slice a P.length cap) P) (hlen : P.length * 16 ≤ 140737488355328) :
    ∃ v3 w3, (Builtin.append_ #[51, 51] 51 #[.slice (some ⟨w.heap.size, 0, none⟩) 0 0, .slice a P.length cap]).run Tryd.prog (w.alloc (.cells #[] 25)) = .ok v3 w3 ∧ CeR w3 v3 P ∧ Below w.heap.size w w3 := by
  have hA := h.kept (box1 w (.cells #[] 25))
  obtain ⟨a', cap', e, h1, h2, h3, h4⟩ := h
  injection e with e1 e2 e3
  subst e1; subst e3
  cases a with
  | none =>
    obtain ⟨h0, rfl⟩ := h3 rfl
    rw [h0]
    refine ⟨_, _, append_nil51 _ _ _, ?_, box1 _ _⟩
    have := List.eq_nil_of_length_eq_zero h0
    subst this
    exact ⟨some ⟨w.heap.size, 0, none⟩, 0, rfl, Nat.le_refl _, by decide, (fun h => by cases h), fun i q hq => by simp at hq⟩
  | some ad =>
    obtain ⟨fi, hf, hz, hs, hb⟩ := info_parts info25
    have hbase : (w.alloc (.cells #[] 25)).ownsRow 0 25 2 (.slice (some ⟨w.heap.size, 0, none⟩) 0 0) 0 [] := World.ownsRow_made w #[] 0 (Nat.zero_le _) (by decide) rfl
    obtain ⟨v', w', hr, g2, g3, g4, g6⟩ := run_append_own_at (P := Tryd.prog) (w.alloc (.cells #[] 25)) 0 51 51 25 fi (.agg #[.int .i64 0, .int .i64 0]) 2 16 Tryd.underlying51 hf hz hs hb rfl (by decide) (.slice (some ⟨w.heap.size, 0, none⟩) 0 0) 0 [] hbase ad P.length cap (P.flatMap ceCs) (ce_len P) (hA.cellsAt ad rfl) ce_one (by omega) (by omega) (Nat.zero_le _)
    rw [Nat.zero_add, List.nil_append] at g2
    exact ⟨v', w', hr, ceR_own g2, (box1 w _).grown g3 (by simp) (fun j e => by cases e; exact Nat.le_refl _)⟩
theorem refsteps_any (r : Nat) (W H : Int) (tl : List Nat) (L : List Bd) (c s x y d : Int) (w : World) (hw : Rl w r W H tl L) :
    Calls Tryd.prog 20 #[ptr r, shv c s, cel x y, .int .i64 d] w fun e w' => e = .returned (.bool (lg (stB W H tl (whoF L) c s) x y d)) ∧ Below w.heap.size w w' :=
  refsteps_of r _ c s x y d w (fun wx hb => refstep_any x y d wx) (fun wx hb => refsides_any x y d wx) (fun wx hb x y => refstands_any r W H tl L c s x y wx (hw.kept hb))
theorem legal_any (p : Nat) (W H : Int) (tl : List Nat) (f : Int → Int → Option Int) (c s x y : Int) (v : Value) (P : List (Int × Int)) (w : World) (hv : CeR w v P) (hw : Wl w p W H tl f) (hg : Grnd w) (ho : Offs w) :
    Calls Tryd.prog 24 #[ptr p, shv c s, cel x y, v] w fun e w' => e = .returned (.bool (legV (stB W H tl f c s) x y P)) ∧ Below w.heap.size w w' :=
  legal_of p _ c s x y v P w hv (stands_of c s hw hg) (fun wx hb x y d => steps_any p W H tl f c s x y d wx (hw.kept hb) (hg.kept hb) (ho.kept hb)) (fun wx hb => ho.kept hb)
theorem reflegal_any (r : Nat) (W H : Int) (tl : List Nat) (L : List Bd) (c s x y : Int) (v : Value) (P : List (Int × Int)) (w : World) (hv : CeR w v P) (hw : Rl w r W H tl L) :
    Calls Tryd.prog 25 #[ptr r, shv c s, cel x y, v] w fun e w' => e = .returned (.bool (legV (stB W H tl (whoF L) c s) x y P)) ∧ Below w.heap.size w w' :=
  reflegal_of r _ c s x y v P w hv (fun wx hb x y => refstands_any r W H tl L c s x y wx (hw.kept hb)) (fun wx hb x y d => refsteps_any r W H tl L c s x y d wx (hw.kept hb))
theorem pcost_is {x y c : Int} {v : Value} {P : List (Int × Int)} {w : World} (hv : CeR w v P) (ho : Offs w) (h : costV x y P = c) : Calls Tryd.prog 22 #[cel x y, v] w fun e w' => e = .returned (.int .i64 c) ∧ Below w.heap.size w w' := by subst h; exact pcost_any x y v P w hv ho
theorem refpcost_is {x y c : Int} {v : Value} {P : List (Int × Int)} {w : World} (hv : CeR w v P) (h : costV x y P = c) : Calls Tryd.prog 23 #[cel x y, v] w fun e w' => e = .returned (.int .i64 c) ∧ Below w.heap.size w w' := by subst h; exact refpcost_any x y v P w hv
/-- The box in which what is asked lies. -/
def AB (w : World) (k : Nat) (c s x y : Int) (v : Value) : Prop := w.heap[k]? = some (.cells #[.int .i64 c, .int .i64 s, .int .i64 x, .int .i64 y, v] 53 (0, 0))
theorem AB.kept {w w' : World} {k : Nat} {c s x y : Int} {v : Value} (h : AB w k c s x y v) (hb : Below w.heap.size w w') : AB w' k c s x y v := (hb.block k (Array.getElem?_eq_some_iff.1 h).1).trans h
theorem AB.c {w : World} {k : Nat} {c s x y : Int} {v : Value} (h : AB w k c s x y v) : w.cell? ⟨k, 0, none⟩ = some (.int .i64 c) ∧ w.cell? ⟨k, 1, none⟩ = some (.int .i64 s) ∧ w.cell? ⟨k, 2, none⟩ = some (.int .i64 x) ∧ w.cell? ⟨k, 3, none⟩ = some (.int .i64 y) ∧ w.cell? ⟨k, 4, none⟩ = some v :=
  ⟨cell_of_row w k 0 _ _ _ h, cell_of_row w k 1 _ _ _ h, cell_of_row w k 2 _ _ _ h, cell_of_row w k 3 _ _ _ h, cell_of_row w k 4 _ _ _ h⟩
abbrev ask (c s x y : Int) (v : Value) : Value := .agg #[.int .i64 c, .int .i64 s, .int .i64 x, .int .i64 y, v]
set_option maxRecDepth 100000 in
set_option maxHeartbeats 4000000 in
theorem paths_walk (W H : Int) (tv bv : Value) (tl : List Nat) (L : List Bd) (c s x y : Int) (v : Value) (P : List (Int × Int)) (w : World) (hv : TlR w tv tl) (hb : ∀ n ∈ tl, n < 256) (hl : BdR w bv L) (hp : CeR w v P) (hlen : P.length * 16 ≤ 140737488355328) (hg : Grnd w) (ho : Offs w) :
    Calls Tryd.prog 6 #[mp W H tv bv, ask c s x y v] w fun e w' => e = .returned (.bool true) ∧ Below w.heap.size w w' := by
  have B0 := box2 w (.cells #[.int .i64 W, .int .i64 H, tv, bv] 36) (.cells #[.int .i64 c, .int .i64 s, .int .i64 x, .int .i64 y, v] 53)
  have MX : MB ((w.alloc (.cells #[.int .i64 W, .int .i64 H, tv, bv] 36)).alloc (.cells #[.int .i64 c, .int .i64 s, .int .i64 x, .int .i64 y, v] 53)) w.heap.size W H tv bv := (MB.new w W H tv bv).kept (box1 _ _)
  have AX : AB ((w.alloc (.cells #[.int .i64 W, .int .i64 H, tv, bv] 36)).alloc (.cells #[.int .i64 c, .int .i64 s, .int .i64 x, .int .i64 y, v] 53)) (w.heap.size + 1) c s x y v := by
    have := heap_alloc_new (w.alloc (.cells #[.int .i64 W, .int .i64 H, tv, bv] 36)) (.cells #[.int .i64 c, .int .i64 s, .int .i64 x, .int .i64 y, v] 53)
    simpa [AB] using this
  obtain ⟨X, hX⟩ : ∃ X, (w.alloc (.cells #[.int .i64 W, .int .i64 H, tv, bv] 36)).alloc (.cells #[.int .i64 c, .int .i64 s, .int .i64 x, .int .i64 y, v] 53) = X := ⟨_, rfl⟩
  rw [hX] at B0 MX AX
  have HGO : Hid (∀ wx, Below w.heap.size w wx → Grnd wx ∧ Offs wx ∧ CeR wx v P) := hide fun wx hx => ⟨hg.kept hx, ho.kept hx, hp.kept hx⟩
  obtain ⟨m0, m1, m2, m3⟩ := MX.c
  obtain ⟨co, hco⟩ : ∃ co, costV x y P = co := ⟨_, rfl⟩
  have HCo := hide hco
  clear hco
  rcases chkC_two W H tl L with hc | hc
  · have HB := hide (both_ok W H tv bv tl L X (hv.kept B0) hb (hl.kept B0) hc)
    obtain ⟨a1, cap1, rfl, -⟩ := hv
    obtain ⟨a2, cap2, rfl, -⟩ := hl
    obtain ⟨a4, cap4, rfl, -⟩ := hp
    clear hg ho hc hb MX
    go_enter Tryd.func6, Tryd.ntmps6
    go_wp2_with fail
    refine HB.out.mono ?_
    rintro e w1 ⟨p, r, rfl, hW, hR, hb1⟩
    clear hX m0 m1 m2 m3 HB
    have A1 := AX.kept hb1
    have HB1 := hide (bt B0 hb1)
    have HW : Hid (∀ n : Lat w1, (Wl n.w p W H tl (whoF L) ∧ Rl n.w r W H tl L) ∧ Grnd n.w ∧ Offs n.w ∧ CeR n.w (.slice a4 P.length cap4) P) := hide fun n => ⟨⟨hW.kept n.h, hR.kept n.h⟩, HGO.out _ (bt HB1.out n.h)⟩
    have HA : Hid (∀ n : Lat w1, AB n.w (w.heap.size + 1) c s x y (.slice a4 P.length cap4)) := hide fun n => A1.kept n.h
    have q0 : ∀ n : Lat w1, n.w.cell? ⟨w.heap.size + 1, 0, none⟩ = some (.int .i64 c) := fun n => (A1.kept n.h).c.1
    have q1 : ∀ n : Lat w1, n.w.cell? ⟨w.heap.size + 1, 1, none⟩ = some (.int .i64 s) := fun n => (A1.kept n.h).c.2.1
    have q2 : ∀ n : Lat w1, n.w.cell? ⟨w.heap.size + 1, 2, none⟩ = some (.int .i64 x) := fun n => (A1.kept n.h).c.2.2.1
    have q3 : ∀ n : Lat w1, n.w.cell? ⟨w.heap.size + 1, 3, none⟩ = some (.int .i64 y) := fun n => (A1.kept n.h).c.2.2.2.1
    have q4 : ∀ n : Lat w1, n.w.cell? ⟨w.heap.size + 1, 4, none⟩ = some (.slice a4 P.length cap4) := fun n => (A1.kept n.h).c.2.2.2.2
    have hne := lat_some w1
    clear hW hR hb1 AX A1 HGO B0
    go_wp2_with fail
    refine wp_region_lat (by kernel_rfl) (by kernel_rfl) ?_
    repeat (go_big_quiet_step (first | (go_at_call 22; exact calls_lat (pcost_is (HW.out _).2.2.2 (HW.out _).2.2.1 HCo.out)) | (go_at_call 23; exact calls_lat (refpcost_is (HW.out _).2.2.2 HCo.out))))
    refine wpQuiet_nil ?_
    rintro _ ⟨n, rfl⟩
    clear q0 q1 q2 q3 q4
    go_wp2_with fail
    obtain ⟨bb, hbb⟩ : ∃ bb, legV (stB W H tl (whoF L) c s) x y P = bb := ⟨_, rfl⟩
    have hn := HW.out n
    obtain ⟨v3, w3, hrun3, hv3, hB3'⟩ := append_path n.w.drew a4 cap4 P (hn.2.2.2.kept (Below.refl _ _).drew) hlen
    have hB3 : Below n.w.heap.size n.w w3 := below_undrew hB3'
    clear hB3'
    have HL : Hid (∀ wx, Below w3.heap.size w3 wx → Calls Tryd.prog 24 #[ptr p, shv c s, cel x y, v3] wx fun e w' => e = .returned (.bool bb) ∧ Below wx.heap.size wx w') := hide fun wx hx => by
      have hx' := HW.out ⟨wx, bt n.h (bt hB3 hx)⟩
      rw [← hbb]; exact legal_any p W H tl (whoF L) c s x y v3 P wx (hv3.kept hx) hx'.1.1 hx'.2.1 hx'.2.2.1
    have HR : Hid (∀ wx, Below n.w.heap.size n.w wx → Calls Tryd.prog 25 #[ptr r, shv c s, cel x y, .slice a4 P.length cap4] wx fun e w' => e = .returned (.bool bb) ∧ Below wx.heap.size wx w') := hide fun wx hx => by
      have hx' := HW.out ⟨wx, bt n.h hx⟩
      rw [← hbb]; exact reflegal_any r W H tl L c s x y _ P wx hx'.2.2.2 hx'.1.2
    have HAw : Hid (∀ wx, Below n.w.heap.size n.w wx → Calls Tryd.prog 14 #[] wx fun e w' => e = .returned (.bool true) ∧ Below wx.heap.size wx w') := hide fun wx hx => by
      have hx' := HW.out ⟨wx, bt n.h hx⟩
      exact awake_any wx hx'.2.1 hx'.2.2.1
    have hS : ∀ wx, Below n.w.heap.size n.w wx → wx.cell? ⟨w.heap.size + 1, 0, none⟩ = some (.int .i64 c) ∧ wx.cell? ⟨w.heap.size + 1, 1, none⟩ = some (.int .i64 s) ∧ wx.cell? ⟨w.heap.size + 1, 2, none⟩ = some (.int .i64 x) ∧ wx.cell? ⟨w.heap.size + 1, 3, none⟩ = some (.int .i64 y) ∧ wx.cell? ⟨w.heap.size + 1, 4, none⟩ = some (.slice a4 P.length cap4) := fun wx hx => (HA.out ⟨wx, bt n.h hx⟩).c
    have HBn := hide (bt HB1.out n.h)
    clear hn HW HA hbb hlen HCo
    refine Code.wp_mono (Q := Only (fun a' w' => ∃ bz, a' = { tmps := #[mp W H (.slice a1 tl.length cap1) (.slice a2 L.length cap2), ask c s x y (.slice a4 P.length cap4), ptr w.heap.size, ptr (w.heap.size + 1), .bool true, ptr p, ptr r, .bool true, .tuple #[ptr p, ptr r, .bool true], mp W H (.slice a1 tl.length cap1) (.slice a2 L.length cap2), .tuple #[ptr p, ptr r, .bool true], ptr p, ptr r, .bool true, .pointer (some ⟨w.heap.size + 1, 2, none⟩), cel x y, .pointer (some ⟨w.heap.size + 1, 4, none⟩), .slice a4 P.length cap4, .int .i64 co, .pointer (some ⟨w.heap.size + 1, 2, none⟩), cel x y, .pointer (some ⟨w.heap.size + 1, 4, none⟩), .slice a4 P.length cap4, .int .i64 co, .bool false, .bool true, .bool false, undef, ptr p, .pointer (some ⟨w.heap.size + 1, 0, none⟩), shv c s, .pointer (some ⟨w.heap.size + 1, 2, none⟩), cel x y, .slice (some ⟨n.w.heap.size, 0, none⟩) 0 0, .pointer (some ⟨w.heap.size + 1, 4, none⟩), .slice a4 P.length cap4, v3, .bool bz, ptr r, .pointer (some ⟨w.heap.size + 1, 0, none⟩), shv c s, .pointer (some ⟨w.heap.size + 1, 2, none⟩), cel x y, .pointer (some ⟨w.heap.size + 1, 4, none⟩), .slice a4 P.length cap4, .bool bz, .bool true, .bool true, .bool true, .bool true], defers := [] } ∧ Below n.w.heap.size n.w w')) ?rest ?_
    case rest =>
      rintro (_ | _ | _ | _ | _) a' w' hO
      all_goals first | exact hO.elim | skip
      obtain ⟨bz, rfl, hB6⟩ := hO
      clear hS hrun3 HL HR HAw hv3 hB3
      go_wp2_with fail
      go_ret
      exact ⟨rfl, bt HBn.out hB6⟩
    cases bb
    all_goals
      refine wp_region_held_drew (S := fun w' => w'.cell? ⟨w.heap.size + 1, 0, none⟩ = some (.int .i64 c) ∧ w'.cell? ⟨w.heap.size + 1, 1, none⟩ = some (.int .i64 s) ∧ w'.cell? ⟨w.heap.size + 1, 2, none⟩ = some (.int .i64 x) ∧ w'.cell? ⟨w.heap.size + 1, 3, none⟩ = some (.int .i64 y) ∧ w'.cell? ⟨w.heap.size + 1, 4, none⟩ = some (.slice a4 P.length cap4)) (by kernel_rfl) (hS _ (Below.refl _ _).drew) (fun hHeld => ?_)
      refine wpAnyH_take (i := 0) (v := ?_) rfl (by kernel_rfl) (by kernel_rfl) (by kernel_rfl) (fun _ _ _ h => h.elim) (Or.inl ⟨by rfl, ?_⟩) (by assumption) ?_
      rotate_left
      · intro wx hSw
        try dsimp only at hSw
        go_simp
        try with_reducible rfl
      try simp only [Act.put, List.getElem_toArray, List.getElem_cons_zero, List.setIfInBounds_toArray, List.set_cons_zero, List.set_cons_succ]
      refine wpAnyH_take (i := 1) (v := ?_) rfl (by kernel_rfl) (by kernel_rfl) (by kernel_rfl) (fun _ _ _ h => h.elim) (Or.inl ⟨by rfl, ?_⟩) (by assumption) ?_
      rotate_left
      · intro wx hSw
        try dsimp only at hSw
        go_simp
        try with_reducible rfl
      try simp only [Act.put, List.getElem_toArray, List.getElem_cons_zero, List.getElem_cons_succ, List.setIfInBounds_toArray, List.set_cons_zero, List.set_cons_succ]
      refine wpAnyH_take (i := 2) (v := ?_) rfl (by kernel_rfl) (by kernel_rfl) (by kernel_rfl) (fun _ _ _ h => h.elim) (Or.inl ⟨by rfl, ?_⟩) (by assumption) ?_
      rotate_left
      · intro wx hSw
        try dsimp only at hSw
        go_simp
        try with_reducible rfl
      try simp only [Act.put, List.getElem_toArray, List.getElem_cons_zero, List.getElem_cons_succ, List.setIfInBounds_toArray, List.set_cons_zero, List.set_cons_succ]
      refine wpAnyH_take (i := 3) (v := ?_) rfl (by kernel_rfl) (by kernel_rfl) (by kernel_rfl) (fun _ _ _ h => h.elim) (Or.inl ⟨by rfl, ?_⟩) (by assumption) ?_
      rotate_left
      · intro wx hSw
        try dsimp only at hSw
        go_simp
        try with_reducible rfl
      try simp only [Act.put, List.getElem_toArray, List.getElem_cons_zero, List.getElem_cons_succ, List.setIfInBounds_toArray, List.set_cons_zero, List.set_cons_succ]
      refine wpAnyH_take (i := 4) (v := ?_) rfl (by kernel_rfl) (by kernel_rfl) (by kernel_rfl) (fun _ _ _ h => h.elim) (Or.inl ⟨by rfl, ?_⟩) (by assumption) ?_
      rotate_left
      · intro wx hSw
        try dsimp only at hSw
        go_simp
        try with_reducible rfl
      try simp only [Act.put, List.getElem_toArray, List.getElem_cons_zero, List.getElem_cons_succ, List.setIfInBounds_toArray, List.set_cons_zero, List.set_cons_succ]
      refine wpAnyH_take (i := 6) (v := ?_) rfl (by kernel_rfl) (by kernel_rfl) (by kernel_rfl) (fun _ _ _ h => h.elim) (Or.inl ⟨by rfl, ?_⟩) (by assumption) ?_
      rotate_left
      · intro wx hSw
        try dsimp only at hSw
        go_simp
        try with_reducible rfl
      try simp only [Act.put, List.getElem_toArray, List.getElem_cons_zero, List.getElem_cons_succ, List.setIfInBounds_toArray, List.set_cons_zero, List.set_cons_succ]
      refine wpAnyH_take (i := 7) (v := ?_) rfl (by kernel_rfl) (by kernel_rfl) (by kernel_rfl) (fun _ _ _ h => h.elim) (Or.inl ⟨by rfl, ?_⟩) (by assumption) ?_
      rotate_left
      · intro wx hSw
        try dsimp only at hSw
        go_simp
        try with_reducible rfl
      try simp only [Act.put, List.getElem_toArray, List.getElem_cons_zero, List.getElem_cons_succ, List.setIfInBounds_toArray, List.set_cons_zero, List.set_cons_succ]
      refine wpAnyH_take (i := 10) (v := ?_) rfl (by kernel_rfl) (by kernel_rfl) (by kernel_rfl) (fun _ _ _ h => h.elim) (Or.inl ⟨by rfl, ?_⟩) (by assumption) ?_
      rotate_left
      · intro wx hSw
        try dsimp only at hSw
        go_simp
        try with_reducible rfl
      try simp only [Act.put, List.getElem_toArray, List.getElem_cons_zero, List.getElem_cons_succ, List.setIfInBounds_toArray, List.set_cons_zero, List.set_cons_succ]
      refine wpAnyH_take (i := 11) (v := ?_) rfl (by kernel_rfl) (by kernel_rfl) (by kernel_rfl) (fun _ _ _ h => h.elim) (Or.inl ⟨by rfl, ?_⟩) (by assumption) ?_
      rotate_left
      · intro wx hSw
        try dsimp only at hSw
        go_simp
        try with_reducible rfl
      try simp only [Act.put, List.getElem_toArray, List.getElem_cons_zero, List.getElem_cons_succ, List.setIfInBounds_toArray, List.set_cons_zero, List.set_cons_succ]
      refine wpAnyH_take (i := 12) (v := ?_) rfl (by kernel_rfl) (by kernel_rfl) (by kernel_rfl) (fun _ _ _ h => h.elim) (Or.inl ⟨by rfl, ?_⟩) (by assumption) ?_
      rotate_left
      · intro wx hSw
        try dsimp only at hSw
        go_simp
        try with_reducible rfl
      try simp only [Act.put, List.getElem_toArray, List.getElem_cons_zero, List.getElem_cons_succ, List.setIfInBounds_toArray, List.set_cons_zero, List.set_cons_succ]
      refine wpAnyH_take (i := 13) (v := ?_) rfl (by kernel_rfl) (by kernel_rfl) (by kernel_rfl) (fun _ _ _ h => h.elim) (Or.inl ⟨by rfl, ?_⟩) (by assumption) ?_
      rotate_left
      · intro wx hSw
        try dsimp only at hSw
        go_simp
        try with_reducible rfl
      try simp only [Act.put, List.getElem_toArray, List.getElem_cons_zero, List.getElem_cons_succ, List.setIfInBounds_toArray, List.set_cons_zero, List.set_cons_succ]
      refine wpAnyH_take (i := 14) (v := ?_) rfl (by kernel_rfl) (by kernel_rfl) (by kernel_rfl) (fun _ _ _ h => h.elim) (Or.inl ⟨by rfl, ?_⟩) (by assumption) ?_
      rotate_left
      · intro wx hSw
        try dsimp only at hSw
        go_simp
        try with_reducible rfl
      try simp only [Act.put, List.getElem_toArray, List.getElem_cons_zero, List.getElem_cons_succ, List.setIfInBounds_toArray, List.set_cons_zero, List.set_cons_succ]
      refine wpAnyH_take (i := 15) (v := ?_) rfl (by kernel_rfl) (by kernel_rfl) (by kernel_rfl) (fun _ _ _ h => h.elim) (Or.inl ⟨by rfl, ?_⟩) (by assumption) ?_
      rotate_left
      · intro wx hSw
        try dsimp only at hSw
        go_simp
        try with_reducible rfl
      try simp only [Act.put, List.getElem_toArray, List.getElem_cons_zero, List.getElem_cons_succ, List.setIfInBounds_toArray, List.set_cons_zero, List.set_cons_succ]
      refine wpAnyH_take (i := 16) (v := ?_) rfl (by kernel_rfl) (by kernel_rfl) (by kernel_rfl) (fun _ _ _ h => h.elim) (Or.inl ⟨by rfl, ?_⟩) (by assumption) ?_
      rotate_left
      · intro wx hSw
        try dsimp only at hSw
        go_simp
        try with_reducible rfl
      try simp only [Act.put, List.getElem_toArray, List.getElem_cons_zero, List.getElem_cons_succ, List.setIfInBounds_toArray, List.set_cons_zero, List.set_cons_succ]
      refine wpAnyH_ready (rs := [5]) (by kernel_rfl) (by simp) ?_
      refine AllReadyH.cons rfl (fun K hK => ?_) ?_
      · go_simp
        refine hK.out _ _ ?_ (fun hHeld => ?_)
        · first | exact hS _ (Below.refl _ _).drew | exact hS _ (box1 _ _) | exact hS _ (box1 _ _).drew | exact hS _ (by assumption)
        clear hK K
        try simp only [Act.put, List.getElem_toArray, List.getElem_cons_zero, List.getElem_cons_succ, List.setIfInBounds_toArray, List.set_cons_zero, List.set_cons_succ]
        refine wpAnyH_ready (rs := [8]) (by kernel_rfl) (by simp) ?_
        refine AllReadyH.cons rfl (fun K hK => ?_) ?_
        · refine step_append_eq rfl _ _ 51 51 rfl (by simp [Act.eval]) (by simp [Act.eval]) (show _ = _ from hrun3) ?_
          refine hK.out _ _ ?_ (fun hHeld => ?_)
          · first | exact hS _ (Below.refl _ _).drew | exact hS _ (box1 _ _) | exact hS _ (box1 _ _).drew | exact hS _ (by assumption)
          clear hK K
          try simp only [Act.put, List.getElem_toArray, List.getElem_cons_zero, List.getElem_cons_succ, List.setIfInBounds_toArray, List.set_cons_zero, List.set_cons_succ]
          refine wpAnyH_ready (rs := [9]) (by kernel_rfl) (by simp) ?_
          refine AllReadyH.cons rfl (fun K hK => ?_) ?_
          · go_simp
            refine (HL.out _ (Below.refl _ _)).mono ?_
            rintro e w4 ⟨rfl, hb4⟩
            have hB4 := bt hB3 hb4
            clear hb4
            try go_wp2_with fail
            refine hK.out _ _ ?_ (fun hHeld => ?_)
            · first | exact hS _ (Below.refl _ _).drew | exact hS _ (box1 _ _) | exact hS _ (box1 _ _).drew | exact hS _ (by assumption)
            clear hK K
            try simp only [Act.put, List.getElem_toArray, List.getElem_cons_zero, List.getElem_cons_succ, List.setIfInBounds_toArray, List.set_cons_zero, List.set_cons_succ]
            refine wpAnyH_ready (rs := [17]) (by kernel_rfl) (by simp) ?_
            refine AllReadyH.cons rfl (fun K hK => ?_) ?_
            · go_simp
              refine (HR.out _ hB4).mono ?_
              rintro e w5 ⟨rfl, hb5⟩
              have hB5 := bt hB4 hb5
              clear hb5
              try go_wp2_with fail
              refine hK.out _ _ ?_ (fun hHeld => ?_)
              · first | exact hS _ (Below.refl _ _).drew | exact hS _ (box1 _ _) | exact hS _ (box1 _ _).drew | exact hS _ (by assumption)
              clear hK K
              try simp only [Act.put, List.getElem_toArray, List.getElem_cons_zero, List.getElem_cons_succ, List.setIfInBounds_toArray, List.set_cons_zero, List.set_cons_succ]
              refine wpAnyH_take (i := 18) (v := ?_) rfl (by kernel_rfl) (by kernel_rfl) (by kernel_rfl) (fun _ _ _ h => h.elim) (Or.inl ⟨by rfl, ?_⟩) (by assumption) ?_
              rotate_left
              · intro wx hSw
                try dsimp only at hSw
                go_simp
                try with_reducible rfl
              try simp only [Act.put, List.getElem_toArray, List.getElem_cons_zero, List.getElem_cons_succ, List.setIfInBounds_toArray, List.set_cons_zero, List.set_cons_succ]
              refine wpAnyH_take (i := 19) (v := ?_) rfl (by kernel_rfl) (by kernel_rfl) (by kernel_rfl) (fun _ _ _ h => h.elim) (Or.inl ⟨by rfl, ?_⟩) (by assumption) ?_
              rotate_left
              · intro wx hSw
                try dsimp only at hSw
                go_simp
                try with_reducible rfl
              try simp only [Act.put, List.getElem_toArray, List.getElem_cons_zero, List.getElem_cons_succ, List.setIfInBounds_toArray, List.set_cons_zero, List.set_cons_succ]
              refine wpAnyH_ready (rs := [20]) (by kernel_rfl) (by simp) ?_
              refine AllReadyH.cons rfl (fun K hK => ?_) ?_
              · go_simp
                refine (HAw.out _ hB5).mono ?_
                rintro e w6 ⟨rfl, hb6⟩
                have hB6 := bt hB5 hb6
                clear hb6
                try go_wp2_with fail
                refine hK.out _ _ ?_ (fun hHeld => ?_)
                · first | exact hS _ (Below.refl _ _).drew | exact hS _ (box1 _ _) | exact hS _ (box1 _ _).drew | exact hS _ (by assumption)
                clear hK K
                try simp only [Act.put, List.getElem_toArray, List.getElem_cons_zero, List.getElem_cons_succ, List.setIfInBounds_toArray, List.set_cons_zero, List.set_cons_succ]
                refine wpAnyH_take (i := 21) (v := ?_) rfl (by kernel_rfl) (by kernel_rfl) (by kernel_rfl) (fun _ _ _ h => h.elim) (Or.inl ⟨by rfl, ?_⟩) (by assumption) ?_
                rotate_left
                · intro wx hSw
                  try dsimp only at hSw
                  go_simp
                  try with_reducible rfl
                try simp only [Act.put, List.getElem_toArray, List.getElem_cons_zero, List.getElem_cons_succ, List.setIfInBounds_toArray, List.set_cons_zero, List.set_cons_succ]
                refine wpAnyH_take (i := 22) (v := ?_) rfl (by kernel_rfl) (by kernel_rfl) (by kernel_rfl) (fun _ _ _ h => h.elim) (Or.inl ⟨by rfl, ?_⟩) (by assumption) ?_
                rotate_left
                · intro wx hSw
                  try dsimp only at hSw
                  go_simp
                  try with_reducible rfl
                try simp only [Act.put, List.getElem_toArray, List.getElem_cons_zero, List.getElem_cons_succ, List.setIfInBounds_toArray, List.set_cons_zero, List.set_cons_succ]
                refine wpAnyH_done (by kernel_rfl) ?_ _
                exact ⟨_, rfl, hB6⟩
              exact AllReadyH.nil
            exact AllReadyH.nil
          exact AllReadyH.nil
        exact AllReadyH.nil
      exact AllReadyH.nil
  · have HB := hide (both_no W H tv bv tl L X (hv.kept B0) hb (hl.kept B0) hc)
    obtain ⟨a1, cap1, rfl, -⟩ := hv
    obtain ⟨a2, cap2, rfl, -⟩ := hl
    obtain ⟨a4, cap4, rfl, -⟩ := hp
    clear hg ho hc hb MX
    go_enter Tryd.func6, Tryd.ntmps6
    go_wp2_with fail
    refine HB.out.mono ?_
    rintro e w1 ⟨rfl, hb1⟩
    clear hX m0 m1 m2 m3 HB
    have A1 := AX.kept hb1
    have HB1 := hide (bt B0 hb1)
    have HW : Hid (∀ n : Lat w1, Grnd n.w ∧ Offs n.w ∧ CeR n.w (.slice a4 P.length cap4) P) := hide fun n => HGO.out _ (bt HB1.out n.h)
    have q2 : ∀ n : Lat w1, n.w.cell? ⟨w.heap.size + 1, 2, none⟩ = some (.int .i64 x) := fun n => (A1.kept n.h).c.2.2.1
    have q3 : ∀ n : Lat w1, n.w.cell? ⟨w.heap.size + 1, 3, none⟩ = some (.int .i64 y) := fun n => (A1.kept n.h).c.2.2.2.1
    have q4 : ∀ n : Lat w1, n.w.cell? ⟨w.heap.size + 1, 4, none⟩ = some (.slice a4 P.length cap4) := fun n => (A1.kept n.h).c.2.2.2.2
    have hne := lat_some w1
    clear hb1 AX A1 B0
    go_wp2_with fail
    refine wp_region_lat (by kernel_rfl) (by kernel_rfl) ?_
    repeat (go_big_quiet_step (first | (go_at_call 22; exact calls_lat (pcost_is (HW.out _).2.2 (HW.out _).2.1 HCo.out)) | (go_at_call 23; exact calls_lat (refpcost_is (HW.out _).2.2 HCo.out))))
    refine wpQuiet_nil ?_
    rintro _ ⟨n, rfl⟩
    clear q2 q3 q4
    go_wp2_with (go_at_call 14; refine (awake_any _ (HW.out n).1 (HW.out n).2.1).mono ?_; rintro e w3 ⟨rfl, hb3⟩)
    go_ret
    exact ⟨rfl, bt (bt HB1.out n.h) hb3⟩
end Go.Proofs.YthacppifndakjaaDoor
