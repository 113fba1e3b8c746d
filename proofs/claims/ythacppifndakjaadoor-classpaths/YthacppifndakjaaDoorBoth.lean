/-
  phalanxlaw06.Both: a map's world, both ways; and what is asked of nobody's World.
-/
import Derived.Test.YthacppifndakjaaDoorAwake
import Derived.Test.YthacppifndakjaaDoorRefStands
import Derived.Test.YthacppifndakjaaDoorRefNew
namespace Go.Proofs.YthacppifndakjaaDoor
open Go.RowKit Go.Shelf
set_option linter.unusedVariables false
attribute [local go_sem] Oper.semAt_some
theorem chkC_zero {W H : Int} {tl : List Nat} {L : List Bd} (h : chkC W H tl L = 0) : mt W H tl = true ∧ L.length ≤ 256 ∧ okL W H [] L = true ∧ whoL L = whoF L := by
  unfold chkC at h
  split at h
  · rename_i h'
    simp only [Bool.and_eq_true, decide_eq_true_eq] at h'
    have hok : okL W H [] L = true := by
      rw [okL_chk W H L [] (Fine.nil W H) rfl]
      simp [h'.2.1, h'.2.2]
    have := (okL_fine W H L [] (Fine.nil W H) rfl hok).2
    exact ⟨h'.1, h'.2.1, hok, by simpa using this⟩
  · cases h
theorem chkC_one {W H : Int} {tl : List Nat} {L : List Bd} (h : chkC W H tl L ≠ 0) (hm : mt W H tl = true) : okL W H [] L = false := by
  rw [okL_chk W H L [] (Fine.nil W H) rfl, Bool.eq_false_iff]
  intro e
  apply h
  simp only [Bool.and_eq_true, decide_eq_true_eq, List.length_nil, Nat.zero_add] at e
  simp [chkC, hm, e.1, e.2]
theorem chkC_two (W H : Int) (tl : List Nat) (L : List Bd) : chkC W H tl L = 0 ∨ chkC W H tl L = 1 := by
  unfold chkC
  split
  · exact .inl rfl
  · exact .inr rfl
theorem RefMade.rl {w w' : World} {W H : Int} {tl : List Nat} {L : List Bd} {r : Nat} (h : RefMade w W H tl L r w') (hm : mt W H tl = true) (hb : ∀ x ∈ tl, x < 256) (hl : L.length ≤ 256) : Rl w' r W H tl L ∧ Below w.heap.size w w' := by
  obtain ⟨tv, bv, d1, d2, d3, d4, -⟩ := h
  exact ⟨⟨⟨⟨hm, hb⟩, hl⟩, tv, bv, _, d1, d2, d3⟩, d4⟩
theorem newp_ok {W H : Int} {tv bv : Value} {tl : List Nat} {L : List Bd} {w : World} (hv : TlR w tv tl) (hb : ∀ x ∈ tl, x < 256) (hl : BdR w bv L) (hc : chkC W H tl L = 0) :
    Calls Tryd.prog 30 #[mp W H tv bv] w fun e w' => ∃ p, e = .returned (.tuple #[ptr p, .int .i64 0]) ∧ Wl w' p W H tl (whoF L) ∧ Below w.heap.size w w' := by
  obtain ⟨hm, hlen, hok, hw⟩ := chkC_zero hc
  refine (new_good W H tv bv tl L w hv hb hl hm).mono ?_
  rintro e w' (⟨-, p, he, hM⟩ | ⟨h, -⟩)
  · have := hM.wl hm hb
    rw [hw] at this
    exact ⟨p, he, this.1, this.2⟩
  · rw [hok] at h; cases h
theorem newp_no {W H : Int} {tv bv : Value} {tl : List Nat} {L : List Bd} {w : World} (hv : TlR w tv tl) (hb : ∀ x ∈ tl, x < 256) (hl : BdR w bv L) (hc : chkC W H tl L ≠ 0) :
    Calls Tryd.prog 30 #[mp W H tv bv] w fun e w' => e = .returned (.tuple #[.pointer none, .int .i64 1]) ∧ Below w.heap.size w w' := by
  cases hm : mt W H tl
  · obtain ⟨a2, cap2, rfl, -⟩ := hl
    exact new_bad W H tv a2 L.length cap2 tl w hv hb hm
  · refine (new_good W H tv bv tl L w hv hb hl hm).mono ?_
    rintro e w' (⟨h, -⟩ | ⟨-, he, hB⟩)
    · rw [chkC_one hc hm] at h; cases h
    · exact ⟨he, hB⟩
theorem newr_ok {W H : Int} {tv bv : Value} {tl : List Nat} {L : List Bd} {w : World} (hv : TlR w tv tl) (hb : ∀ x ∈ tl, x < 256) (hl : BdR w bv L) (hc : chkC W H tl L = 0) :
    Calls Tryd.prog 31 #[mp W H tv bv] w fun e w' => ∃ r, e = .returned (.tuple #[ptr r, .int .i64 0]) ∧ Rl w' r W H tl L ∧ Below w.heap.size w w' := by
  obtain ⟨hm, hlen, -, -⟩ := chkC_zero hc
  refine (refnew_good W H tv bv tl L w hv hb hl hc).mono ?_
  rintro e w' ⟨r, he, hM⟩
  have := hM.rl hm hb hlen
  exact ⟨r, he, this.1, this.2⟩
/-- The box in which a map lies, whatever made memory since. -/
def MB (w : World) (k : Nat) (W H : Int) (tv bv : Value) : Prop := w.heap[k]? = some (.cells #[.int .i64 W, .int .i64 H, tv, bv] 36 (0, 0))
theorem MB.kept {w w' : World} {k : Nat} {W H : Int} {tv bv : Value} (h : MB w k W H tv bv) (hb : Below w.heap.size w w') : MB w' k W H tv bv := (hb.block k (Array.getElem?_eq_some_iff.1 h).1).trans h
theorem MB.c {w : World} {k : Nat} {W H : Int} {tv bv : Value} (h : MB w k W H tv bv) : w.cell? ⟨k, 0, none⟩ = some (.int .i64 W) ∧ w.cell? ⟨k, 1, none⟩ = some (.int .i64 H) ∧ w.cell? ⟨k, 2, none⟩ = some tv ∧ w.cell? ⟨k, 3, none⟩ = some bv :=
  ⟨cell_of_row w k 0 _ _ _ h, cell_of_row w k 1 _ _ _ h, cell_of_row w k 2 _ _ _ h, cell_of_row w k 3 _ _ _ h⟩
theorem MB.new (w : World) (W H : Int) (tv bv : Value) : MB (w.alloc (.cells #[.int .i64 W, .int .i64 H, tv, bv] 36)) w.heap.size W H tv bv := heap_alloc_new w _
set_option maxHeartbeats 1000000 in
theorem both_ok (W H : Int) (tv bv : Value) (tl : List Nat) (L : List Bd) (w : World) (hv : TlR w tv tl) (hb : ∀ x ∈ tl, x < 256) (hl : BdR w bv L) (hc : chkC W H tl L = 0) :
    Calls Tryd.prog 15 #[mp W H tv bv] w fun e w' => ∃ p r, e = .returned (.tuple #[ptr p, ptr r, .bool true]) ∧ Wl w' p W H tl (whoF L) ∧ Rl w' r W H tl L ∧ Below w.heap.size w w' := by
  have MX := MB.new w W H tv bv
  have B0 : Below w.heap.size w (w.alloc (.cells #[.int .i64 W, .int .i64 H, tv, bv] 36)) := box1 _ _
  obtain ⟨X, hX⟩ : ∃ X, w.alloc (.cells #[.int .i64 W, .int .i64 H, tv, bv] 36) = X := ⟨_, rfl⟩
  rw [hX] at MX B0
  have HN : Hid (∀ wx, Below w.heap.size w wx → Calls Tryd.prog 30 #[mp W H tv bv] wx fun e w' => ∃ p, e = .returned (.tuple #[ptr p, .int .i64 0]) ∧ Wl w' p W H tl (whoF L) ∧ Below wx.heap.size wx w') := hide fun wx hx => newp_ok (hv.kept hx) hb (hl.kept hx) hc
  have HR : Hid (∀ wx, Below w.heap.size w wx → Calls Tryd.prog 31 #[mp W H tv bv] wx fun e w' => ∃ r, e = .returned (.tuple #[ptr r, .int .i64 0]) ∧ Rl w' r W H tl L ∧ Below wx.heap.size wx w') := hide fun wx hx => newr_ok (hv.kept hx) hb (hl.kept hx) hc
  have hvf := hv
  have hlf := hl
  obtain ⟨a1, cap1, rfl, -⟩ := hvf
  obtain ⟨a2, cap2, rfl, -⟩ := hlf
  clear hv hl hc hb
  obtain ⟨m0, m1, m2, m3⟩ := MX.c
  go_enter Tryd.func15, Tryd.ntmps15
  go_wp2_with fail
  refine (HN.out _ B0).mono ?_
  rintro e w1 ⟨p, rfl, hW, hb1⟩
  have HW := hide hW
  have HB1 := hide hb1
  have M1 := MX.kept hb1
  clear hX m0 m1 m2 m3 MX hW hb1
  obtain ⟨m0, m1, m2, m3⟩ := M1.c
  go_wp2_with fail
  refine (HR.out _ (bt B0 HB1.out)).mono ?_
  rintro e w2 ⟨r, rfl, hR, hb2⟩
  have HRR := hide hR
  have HB2 := hide hb2
  clear m0 m1 m2 m3 M1 hR hb2
  go_wp2_with fail
  refine bodyPost_ret (v := .tuple #[ptr p, ptr r, .bool true]) (by simp [results, Tryd.results15, go_sem]) rfl ?_
  exact ⟨p, r, rfl, HW.out.kept HB2.out, HRR.out, bt B0 (bt HB1.out HB2.out)⟩
set_option maxHeartbeats 1000000 in
theorem both_no (W H : Int) (tv bv : Value) (tl : List Nat) (L : List Bd) (w : World) (hv : TlR w tv tl) (hb : ∀ x ∈ tl, x < 256) (hl : BdR w bv L) (hc : chkC W H tl L = 1) :
    Calls Tryd.prog 15 #[mp W H tv bv] w fun e w' => e = .returned (.tuple #[.pointer none, .pointer none, .bool false]) ∧ Below w.heap.size w w' := by
  have MX := MB.new w W H tv bv
  have B0 : Below w.heap.size w (w.alloc (.cells #[.int .i64 W, .int .i64 H, tv, bv] 36)) := box1 _ _
  obtain ⟨X, hX⟩ : ∃ X, w.alloc (.cells #[.int .i64 W, .int .i64 H, tv, bv] 36) = X := ⟨_, rfl⟩
  rw [hX] at MX B0
  have HN : Hid (∀ wx, Below w.heap.size w wx → Calls Tryd.prog 30 #[mp W H tv bv] wx fun e w' => e = .returned (.tuple #[.pointer none, .int .i64 1]) ∧ Below wx.heap.size wx w') := hide fun wx hx => newp_no (hv.kept hx) hb (hl.kept hx) (by omega)
  have HR : Hid (∀ wx, Below w.heap.size w wx → Calls Tryd.prog 31 #[mp W H tv bv] wx fun e w' => e = .returned (.tuple #[.pointer none, .int .i64 1]) ∧ Below wx.heap.size wx w') := hide fun wx hx => refnew_bad W H tv bv tl L wx (hv.kept hx) hb (hl.kept hx) hc
  have hvf := hv
  have hlf := hl
  obtain ⟨a1, cap1, rfl, -⟩ := hvf
  obtain ⟨a2, cap2, rfl, -⟩ := hlf
  clear hv hl hc hb
  obtain ⟨m0, m1, m2, m3⟩ := MX.c
  go_enter Tryd.func15, Tryd.ntmps15
  go_wp2_with fail
  refine (HN.out _ B0).mono ?_
  rintro e w1 ⟨rfl, hb1⟩
  have HB1 := hide hb1
  have M1 := MX.kept hb1
  clear hX m0 m1 m2 m3 MX hb1
  obtain ⟨m0, m1, m2, m3⟩ := M1.c
  go_wp2_with fail
  refine (HR.out _ (bt B0 HB1.out)).mono ?_
  rintro e w2 ⟨rfl, hb2⟩
  have HB2 := hide hb2
  clear m0 m1 m2 m3 M1 hb2
  go_wp2_with fail
  refine bodyPost_ret (v := .tuple #[.pointer none, .pointer none, .bool false]) (by simp [results, Tryd.results15, go_sem]) rfl ?_
  exact ⟨rfl, bt B0 (bt HB1.out HB2.out)⟩
set_option maxHeartbeats 1000000 in
theorem all_nil (w : World) : Calls Tryd.prog 33 #[.pointer none] w fun e w' => e = .returned (rct 0 0 0 0) ∧ Below w.heap.size w w' := by
  obtain ⟨⟨c0, c1, c2, c3⟩, ⟨g0, g1, g2, g3⟩, zz⟩ : Four (w.alloc (.cells #[.int .i64 0, .int .i64 0, .int .i64 0, .int .i64 0] 29)) w.heap.size 0 0 0 0 := cells4 (Below.refl _ _)
  go_enter Tryd.func33, Tryd.ntmps33
  go_wp2_with (go_at_call 61; refine (made_nil _).mono ?_; rintro e w' ⟨rfl, rfl⟩)
  refine bodyPost_ret (v := rct 0 0 0 0) (by simp [results, Tryd.results33, go_sem, c0, c1, c2, c3]) rfl ⟨rfl, ?_⟩
  first | exact box1 _ _ | exact ((((box1 w _).setCell (by simp) _).setCell (by simp) _).setCell (by simp) _).setCell (by simp) _
theorem wi_zero (u v k : Int) : wi u v k k 0 0 0 0 = false := by
  have : has 0 0 0 0 u v = false := by rw [Bool.eq_false_iff]; intro h; have := ((has_iff _ _ _ _ _ _).1 h); omega
  simp [wi, this]
set_option maxRecDepth 100000 in
set_option maxHeartbeats 4000000 in
theorem stands_nil (c s x y : Int) (w : World) :
    Calls Tryd.prog 16 #[.pointer none, shv c s, cel x y] w fun e w' => e = .returned (.bool false) ∧ Below w.heap.size w w' := by
  have B4 : Below w.heap.size w ((((w.alloc (.cells #[.pointer none] 37)).alloc (.cells #[.int .i64 c, .int .i64 s] 23)).alloc (.cells #[.int .i64 x, .int .i64 y] 25)).alloc (.cells #[.bool false] 4)) := bt (box2 _ _ _) (box2 _ _ _)
  have z4 : ((((w.alloc (.cells #[.pointer none] 37)).alloc (.cells #[.int .i64 c, .int .i64 s] 23)).alloc (.cells #[.int .i64 x, .int .i64 y] 25)).alloc (.cells #[.bool false] 4)).heap.size = w.heap.size + 4 := by simp
  have P4 : Boxed ((((w.alloc (.cells #[.pointer none] 37)).alloc (.cells #[.int .i64 c, .int .i64 s] 23)).alloc (.cells #[.int .i64 x, .int .i64 y] 25)).alloc (.cells #[.bool false] 4)) w.heap.size 37 (.pointer none) := (((Boxed.new w 37 (.pointer none)).alloc _).alloc _).alloc _
  have R4 : Boxed ((((w.alloc (.cells #[.pointer none] 37)).alloc (.cells #[.int .i64 c, .int .i64 s] 23)).alloc (.cells #[.int .i64 x, .int .i64 y] 25)).alloc (.cells #[.bool false] 4)) (w.heap.size + 1 + 1 + 1) 4 (.bool false) := by
    have := Boxed.new (((w.alloc (.cells #[.pointer none] 37)).alloc (.cells #[.int .i64 c, .int .i64 s] 23)).alloc (.cells #[.int .i64 x, .int .i64 y] 25)) 4 (.bool false)
    simpa using this
  have HF := hide (foot_any c s x y ((((w.alloc (.cells #[.pointer none] 37)).alloc (.cells #[.int .i64 c, .int .i64 s] 23)).alloc (.cells #[.int .i64 x, .int .i64 y] 25)).alloc (.cells #[.bool false] 4)))
  unfold ftV at HF
  obtain ⟨u, hu⟩ : ∃ u, fi c s x y x = u := ⟨_, rfl⟩
  obtain ⟨v, hv⟩ : ∃ v, fi c s x y y = v := ⟨_, rfl⟩
  obtain ⟨k, hk⟩ : ∃ k, fi c s x y s = k := ⟨_, rfl⟩
  rw [hu, hv, hk] at HF
  clear hu hv hk
  refine (callsIn_wide (n := 10)).1 ?_
  refine callsIn_of_wp_marks Tryd.func16 rfl trivial ?_ rfl
  simp only [Tryd.ntmps16, List.size_toArray, List.length_cons, List.length_nil, Nat.reduceAdd, Nat.reduceSub, Array.replicate_succ, Array.replicate_zero, List.push_toArray, List.append_toArray, List.nil_append, List.cons_append]
  gi_wp2_with fail
  refine ⟨trivial, ?_⟩
  refine (callsIn_wide.2 HF.out).mono ?_
  rintro e w1 ⟨rfl, hb1⟩
  clear HF
  have z1 := hb1.size
  have P1 := boxed_upto P4 hb1 (by omega)
  have R1 := boxed_upto R4 hb1 (by omega)
  have HB1 := hide (bt B4 hb1)
  clear P4 R4 B4 hb1
  gi_wp2_with fail
  have FX : Four (w1.alloc (.cells #[.int .i64 u, .int .i64 v, .int .i64 k, .int .i64 k] 29)) w1.heap.size u v k k := cells4 (Below.refl _ _)
  have BX : Below w1.heap.size w1 (w1.alloc (.cells #[.int .i64 u, .int .i64 v, .int .i64 k, .int .i64 k] 29)) := box1 _ _
  obtain ⟨X, hX⟩ : ∃ X, w1.alloc (.cells #[.int .i64 u, .int .i64 v, .int .i64 k, .int .i64 k] 29) = X := ⟨_, rfl⟩
  have zX : X.heap.size = w1.heap.size + 1 := by rw [← hX]; simp
  rw [hX] at FX BX ⊢
  clear hX
  have TX : ∀ n : Lat X, Below w.heap.size w n.w := fun n => bt (bt HB1.out BX) n.h
  have PX := boxed_upto P1 BX P1.lt
  have c0 : ∀ n : Lat X, n.w.cell? ⟨w.heap.size, 0, none⟩ = some (.pointer none) := fun n => (n.h.cell (p := ⟨w.heap.size, 0, none⟩) PX.lt).trans PX.cell
  obtain ⟨d0, d1, d2, d3⟩ := FX.lat
  have hne := lat_some X
  have HI := hide (wi_zero u v k)
  gi_wp2_with fail
  refine wpIn_region_lat (by kernel_rfl) (by kernel_rfl) (by kernel_rfl) ?_
  repeat (refine wpQuietIn_step (fun _ _ _ _ => trivial) (fun K hK => ?_); go_simp; first | (refine hK _ ?_; clear hK K) | (apply Exists.intro; refine ⟨fun _ => ?_, hK _ ?_⟩; first | exact callsIn_lat (callsIn_wide.2 (all_nil _)) | exact callsIn_lat (callsIn_wide.2 (within_is _ HI.out)); clear hK K))
  refine wpQuietIn_nil ?_
  rintro _ ⟨n, rfl⟩
  have bR := boxed_upto (boxed_upto R1 BX R1.lt) n.h (by omega)
  have cR := bR.cell
  have fR := bR.frozen
  gi_wp2_with fail
  have hB := TX n
  exact ⟨.bool false, by simp [results, Tryd.f16, go_sem, cR], rfl, hB.setCell (p := ⟨w.heap.size + 1 + 1 + 1, 0, none⟩) (by simp; omega) _⟩
end Go.Proofs.YthacppifndakjaaDoor
