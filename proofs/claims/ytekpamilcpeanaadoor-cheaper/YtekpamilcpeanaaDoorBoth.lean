/-
  Where a shape stands, by the document. phalanxlaw06.Both: a map's world, both ways; and what is asked of nobody's World.
-/
import Derived.Test.YtekpamilcpeanaaDoorStands
import Derived.Test.YtekpamilcpeanaaDoorAsks
import Derived.Test.YtekpamilcpeanaaDoorAwake
import Derived.Test.YtekpamilcpeanaaDoorRefNew
namespace Go.Proofs.YtekpamilcpeanaaDoor
open Go.RowKit
set_option linter.unusedVariables false
/-- In block r lies the document's World. -/
def Rl (w : World) (r : Nat) (W H : Int) (tl : List Nat) (L : List Bd) : Prop :=
  ((mt W H tl = true ∧ ∀ n ∈ tl, n < 256) ∧ L.length ≤ 256) ∧ ∃ (tv bv ev : Value), Rd w r W H tv bv ev ∧ Tls w tv tl ∧ Bds w bv L
theorem Rl.kept {w w' : World} {r : Nat} {W H : Int} {tl : List Nat} {L : List Bd} (h : Rl w r W H tl L) (hb : Below w.heap.size w w') : Rl w' r W H tl L := by
  obtain ⟨h0, tv, bv, ev, h1, h2, h3⟩ := h
  have T : Turns NoB w w' := Turns.of_below hb
  exact ⟨h0, tv, bv, ev, h1.kept T id, h2.kept T (fun _ _ => id), h3.kept T (fun _ _ => id)⟩
theorem chkC_zero {W H : Int} {tl : List Nat} {L : List Bd} (h : chkC W H tl L = 0) : mt W H tl = true ∧ L.length ≤ 256 ∧ okL W H [] L = true ∧ whoL L = whoF L := by
  unfold chkC at h
  split at h
  · rename_i h'
    simp only [Bool.and_eq_true, decide_eq_true_eq] at h'
    have hok : okL W H [] L = true := by
      rw [okL_chk W H L [] (Fine.nil W H) rfl]
      simp [h'.2.1, h'.2.2]
    have := (okL_fine W H L [] (Fine.nil W H) rfl hok).2
    exact ⟨h'.1, h'.2.1, hok, by simpa using this⟩
  · cases h
theorem chkC_one {W H : Int} {tl : List Nat} {L : List Bd} (h : chkC W H tl L ≠ 0) (hm : mt W H tl = true) : okL W H [] L = false := by
  rw [okL_chk W H L [] (Fine.nil W H) rfl, Bool.eq_false_iff]
  intro e
  apply h
  simp only [Bool.and_eq_true, decide_eq_true_eq, List.length_nil, Nat.zero_add] at e
  simp [chkC, hm, e.1, e.2]
theorem chkC_two (W H : Int) (tl : List Nat) (L : List Bd) : chkC W H tl L = 0 ∨ chkC W H tl L = 1 := by
  unfold chkC
  split
  · exact .inl rfl
  · exact .inr rfl
theorem RefMade.rl {w w' : World} {W H : Int} {tl : List Nat} {L : List Bd} {r : Nat} (h : RefMade w W H tl L r w') (hm : mt W H tl = true) (hb : ∀ x ∈ tl, x < 256) (hl : L.length ≤ 256) : Rl w' r W H tl L ∧ Below w.heap.size w w' := by
  obtain ⟨tv, bv, d1, d2, d3, d4, -⟩ := h
  exact ⟨⟨⟨⟨hm, hb⟩, hl⟩, tv, bv, _, d1, d2, d3⟩, d4⟩
theorem newp_ok {W H : Int} {tv bv : Value} {tl : List Nat} {L : List Bd} {w : World} (hv : TlR w tv tl) (hb : ∀ x ∈ tl, x < 256) (hl : BdR w bv L) (hc : chkC W H tl L = 0) :
    Calls Tryd.prog 23 #[mp W H tv bv] w fun e w' => ∃ p, e = .returned (.tuple #[ptr p, .int .i64 0]) ∧ Wn w' p W H tl (whoF L) ∧ Below w.heap.size w w' := by
  obtain ⟨hm, hlen, hok, hw⟩ := chkC_zero hc
  refine (new_good W H tv bv tl L w hv hb hl hm).mono ?_
  rintro e w' (⟨-, p, he, hM⟩ | ⟨h, -⟩)
  · have := hM.wn hm hb
    rw [hw] at this
    exact ⟨p, he, this.1, this.2⟩
  · rw [hok] at h; cases h
theorem newp_no {W H : Int} {tv bv : Value} {tl : List Nat} {L : List Bd} {w : World} (hv : TlR w tv tl) (hb : ∀ x ∈ tl, x < 256) (hl : BdR w bv L) (hc : chkC W H tl L ≠ 0) :
    Calls Tryd.prog 23 #[mp W H tv bv] w fun e w' => e = .returned (.tuple #[.pointer none, .int .i64 1]) ∧ Below w.heap.size w w' := by
  cases hm : mt W H tl
  · obtain ⟨a2, cap2, rfl, -⟩ := hl
    exact new_bad W H tv a2 L.length cap2 tl w hv hb hm
  · refine (new_good W H tv bv tl L w hv hb hl hm).mono ?_
    rintro e w' (⟨h, -⟩ | ⟨-, he, hB⟩)
    · rw [chkC_one hc hm] at h; cases h
    · exact ⟨he, hB⟩
theorem newr_ok {W H : Int} {tv bv : Value} {tl : List Nat} {L : List Bd} {w : World} (hv : TlR w tv tl) (hb : ∀ x ∈ tl, x < 256) (hl : BdR w bv L) (hc : chkC W H tl L = 0) :
    Calls Tryd.prog 31 #[mp W H tv bv] w fun e w' => ∃ r, e = .returned (.tuple #[ptr r, .int .i64 0]) ∧ Rl w' r W H tl L ∧ Below w.heap.size w w' := by
  obtain ⟨hm, hlen, -, -⟩ := chkC_zero hc
  refine (refnew_good W H tv bv tl L w hv hb hl hc).mono ?_
  rintro e w' ⟨r, he, hM⟩
  have := hM.rl hm hb hlen
  exact ⟨r, he, this.1, this.2⟩
/-- The box in which a map lies, whatever made memory since. -/
def MB (w : World) (k : Nat) (W H : Int) (tv bv : Value) : Prop := w.heap[k]? = some (.cells #[.int .i64 W, .int .i64 H, tv, bv] 35 (0, 0))
theorem MB.kept {w w' : World} {k : Nat} {W H : Int} {tv bv : Value} (h : MB w k W H tv bv) (hb : Below w.heap.size w w') : MB w' k W H tv bv := (hb.block k (Array.getElem?_eq_some_iff.1 h).1).trans h
theorem MB.c {w : World} {k : Nat} {W H : Int} {tv bv : Value} (h : MB w k W H tv bv) : w.cell? ⟨k, 0, none⟩ = some (.int .i64 W) ∧ w.cell? ⟨k, 1, none⟩ = some (.int .i64 H) ∧ w.cell? ⟨k, 2, none⟩ = some tv ∧ w.cell? ⟨k, 3, none⟩ = some bv :=
  ⟨cell_of_row w k 0 _ _ _ h, cell_of_row w k 1 _ _ _ h, cell_of_row w k 2 _ _ _ h, cell_of_row w k 3 _ _ _ h⟩
theorem MB.new (w : World) (W H : Int) (tv bv : Value) : MB (w.alloc (.cells #[.int .i64 W, .int .i64 H, tv, bv] 35)) w.heap.size W H tv bv := heap_alloc_new w _
set_option maxHeartbeats 1000000 in
theorem both_ok (W H : Int) (tv bv : Value) (tl : List Nat) (L : List Bd) (w : World) (hv : TlR w tv tl) (hb : ∀ x ∈ tl, x < 256) (hl : BdR w bv L) (hc : chkC W H tl L = 0) :
    Calls Tryd.prog 15 #[mp W H tv bv] w fun e w' => ∃ p r, e = .returned (.tuple #[ptr p, ptr r, .bool true]) ∧ Wn w' p W H tl (whoF L) ∧ Rl w' r W H tl L ∧ Below w.heap.size w w' := by
  have MX := MB.new w W H tv bv
  have B0 : Below w.heap.size w (w.alloc (.cells #[.int .i64 W, .int .i64 H, tv, bv] 35)) := box1 _ _
  obtain ⟨X, hX⟩ : ∃ X, w.alloc (.cells #[.int .i64 W, .int .i64 H, tv, bv] 35) = X := ⟨_, rfl⟩
  rw [hX] at MX B0
  have HN : Hid (∀ wx, Below w.heap.size w wx → Calls Tryd.prog 23 #[mp W H tv bv] wx fun e w' => ∃ p, e = .returned (.tuple #[ptr p, .int .i64 0]) ∧ Wn w' p W H tl (whoF L) ∧ Below wx.heap.size wx w') := hide fun wx hx => newp_ok (hv.kept hx) hb (hl.kept hx) hc
  have HR : Hid (∀ wx, Below w.heap.size w wx → Calls Tryd.prog 31 #[mp W H tv bv] wx fun e w' => ∃ r, e = .returned (.tuple #[ptr r, .int .i64 0]) ∧ Rl w' r W H tl L ∧ Below wx.heap.size wx w') := hide fun wx hx => newr_ok (hv.kept hx) hb (hl.kept hx) hc
  have hvf := hv
  have hlf := hl
  obtain ⟨a1, cap1, rfl, -⟩ := hvf
  obtain ⟨a2, cap2, rfl, -⟩ := hlf
  clear hv hl hc hb
  obtain ⟨m0, m1, m2, m3⟩ := MX.c
  go_enter Tryd.func15, Tryd.ntmps15
  go_wp2_with fail
  refine (HN.out _ B0).mono ?_
  rintro e w1 ⟨p, rfl, hW, hb1⟩
  have HW := hide hW
  have HB1 := hide hb1
  have M1 := MX.kept hb1
  clear hX m0 m1 m2 m3 MX hW hb1
  obtain ⟨m0, m1, m2, m3⟩ := M1.c
  go_wp2_with fail
  refine (HR.out _ (bt B0 HB1.out)).mono ?_
  rintro e w2 ⟨r, rfl, hR, hb2⟩
  have HRR := hide hR
  have HB2 := hide hb2
  clear m0 m1 m2 m3 M1 hR hb2
  go_wp2_with fail
  refine bodyPost_ret (v := .tuple #[ptr p, ptr r, .bool true]) (by simp [results, Tryd.results15, go_sem]) rfl ?_
  exact ⟨p, r, rfl, HW.out.kept HB2.out, HRR.out, bt B0 (bt HB1.out HB2.out)⟩
set_option maxHeartbeats 1000000 in
theorem both_no (W H : Int) (tv bv : Value) (tl : List Nat) (L : List Bd) (w : World) (hv : TlR w tv tl) (hb : ∀ x ∈ tl, x < 256) (hl : BdR w bv L) (hc : chkC W H tl L = 1) :
    Calls Tryd.prog 15 #[mp W H tv bv] w fun e w' => e = .returned (.tuple #[.pointer none, .pointer none, .bool false]) ∧ Below w.heap.size w w' := by
  have MX := MB.new w W H tv bv
  have B0 : Below w.heap.size w (w.alloc (.cells #[.int .i64 W, .int .i64 H, tv, bv] 35)) := box1 _ _
  obtain ⟨X, hX⟩ : ∃ X, w.alloc (.cells #[.int .i64 W, .int .i64 H, tv, bv] 35) = X := ⟨_, rfl⟩
  rw [hX] at MX B0
  have HN : Hid (∀ wx, Below w.heap.size w wx → Calls Tryd.prog 23 #[mp W H tv bv] wx fun e w' => e = .returned (.tuple #[.pointer none, .int .i64 1]) ∧ Below wx.heap.size wx w') := hide fun wx hx => newp_no (hv.kept hx) hb (hl.kept hx) (by omega)
  have HR : Hid (∀ wx, Below w.heap.size w wx → Calls Tryd.prog 31 #[mp W H tv bv] wx fun e w' => e = .returned (.tuple #[.pointer none, .int .i64 1]) ∧ Below wx.heap.size wx w') := hide fun wx hx => refnew_bad W H tv bv tl L wx (hv.kept hx) hb (hl.kept hx) hc
  have hvf := hv
  have hlf := hl
  obtain ⟨a1, cap1, rfl, -⟩ := hvf
  obtain ⟨a2, cap2, rfl, -⟩ := hlf
  clear hv hl hc hb
  obtain ⟨m0, m1, m2, m3⟩ := MX.c
  go_enter Tryd.func15, Tryd.ntmps15
  go_wp2_with fail
  refine (HN.out _ B0).mono ?_
  rintro e w1 ⟨rfl, hb1⟩
  have HB1 := hide hb1
  have M1 := MX.kept hb1
  clear hX m0 m1 m2 m3 MX hb1
  obtain ⟨m0, m1, m2, m3⟩ := M1.c
  go_wp2_with fail
  refine (HR.out _ (bt B0 HB1.out)).mono ?_
  rintro e w2 ⟨rfl, hb2⟩
  have HB2 := hide hb2
  clear m0 m1 m2 m3 M1 hb2
  go_wp2_with fail
  refine bodyPost_ret (v := .tuple #[.pointer none, .pointer none, .bool false]) (by simp [results, Tryd.results15, go_sem]) rfl ?_
  exact ⟨rfl, bt B0 (bt HB1.out HB2.out)⟩
set_option maxHeartbeats 1000000 in
theorem all_nil (w : World) : Calls Tryd.prog 72 #[.pointer none] w fun e w' => e = .returned (rct 0 0 0 0) ∧ Below w.heap.size w w' := by
  obtain ⟨⟨c0, c1, c2, c3⟩, ⟨g0, g1, g2, g3⟩, zz⟩ : Four (w.alloc (.cells #[.int .i64 0, .int .i64 0, .int .i64 0, .int .i64 0] 67)) w.heap.size 0 0 0 0 := cells4 (Below.refl _ _)
  go_enter Tryd.func72, Tryd.ntmps72
  go_wp2_with (go_at_call 60; refine (made_nil _).mono ?_; rintro e w' ⟨rfl, rfl⟩)
  refine bodyPost_ret (v := rct 0 0 0 0) (by simp [results, Tryd.results72, go_sem, c0, c1, c2, c3]) rfl ⟨rfl, ?_⟩
  first | exact box1 _ _ | exact ((((box1 w _).setCell (by simp) _).setCell (by simp) _).setCell (by simp) _).setCell (by simp) _
end Go.Proofs.YtekpamilcpeanaaDoor
