/-
  Which tiles may be. A World laid anew: its tiles copied, nobody on its cells. New: a map's World.
-/
import Derived.Test.YtekpamilcpeanaaDoorTiles
namespace Go.Proofs.YtekpamilcpeanaaDoor
open Go.RowKit
set_option linter.unusedVariables false
def mt (W H : Int) (l : List Nat) : Bool := gs W 128 && (gs H 128 && (decide ((l.length : Int) = W * H) && l.all (fun x => decide (x < 4))))
theorem area {W H : Int} (h1 : gs W 128 = true) (h2 : gs H 128 = true) : 1 ≤ W * H ∧ W * H ≤ 16384 := by
  simp only [gs, decide_eq_true_iff] at h1 h2
  refine ⟨?_, ?_⟩
  · have := Int.mul_le_mul h1.1 h2.1 (by omega) (by omega); omega
  · have := Int.mul_le_mul h1.2 h2.2 (by omega) (by omega); omega
theorem mx_all (l : List Nat) : decide (((mx l : Nat) : Int) < 4) = l.all (fun x => decide (x < 4)) := by
  rw [Bool.eq_iff_iff, decide_eq_true_iff, List.all_eq_true]
  have := mx_lt (l := l) (show 0 < 4 by omega)
  simp only [decide_eq_true_iff]
  rw [← this]
  omega
abbrev mp (W H : Int) (tv bv : Value) : Value := .agg #[.int .i64 W, .int .i64 H, tv, bv]
set_option maxRecDepth 100000 in
set_option maxHeartbeats 2000000 in
theorem maytiles_any (W H : Int) (tv : Value) (b2 : Option Addr) (n2 c2 : Nat) (l : List Nat) (w : World) (hv : TlR w tv l) (hb : ∀ x ∈ l, x < 256) :
    Calls Tryd.prog 39 #[mp W H tv (.slice b2 n2 c2)] w fun e w' => e = .returned (.bool (mt W H l)) ∧ Below w.heap.size w w' := by
  have hv' := hv
  obtain ⟨a, cap, rfl, hcap, hmax, -, -⟩ := hv'
  have hl63 : (0 : Int) ≤ (l.length : Nat) ∧ ((l.length : Nat) : Int) ≤ 9223372036854775807 := by
    have : l.length ≤ 9223372036854775807 := hmax
    omega
  cases h1 : gs W 128
  · have hm : mt W H l = false := by simp [mt, h1]
    rw [hm]
    clear hm hv
    go_enter Tryd.func39, Tryd.ntmps39
    go_wp2_with (go_at_call 58; refine (gside_any _ _ _).mono ?_; rintro e w' ⟨rfl, rfl⟩)
    go_ret
    exact ⟨rfl, box1 _ _⟩
  · cases h2 : gs H 128
    · have hm : mt W H l = false := by simp [mt, h2]
      rw [hm]
      clear hm hv
      go_enter Tryd.func39, Tryd.ntmps39
      go_wp2_with (go_at_call 58; refine (gside_any _ _ _).mono ?_; rintro e w' ⟨rfl, rfl⟩)
      go_ret
      exact ⟨rfl, box1 _ _⟩
    · have hA := area h1 h2
      have hw : IntKind.i64.wrap (W * H) = W * H := by rw [IntKind.wrap_i64]; omega
      by_cases h3 : (l.length : Int) = W * H
      · have hm : mt W H l = l.all (fun x => decide (x < 4)) := by simp [mt, h1, h2, h3]
        have hbq : (((l.length : Nat) : Int) != W * H) = false := by simp [h3]
        have T0 := box1 w (.cells #[.int .i64 W, .int .i64 H, .slice a l.length cap, .slice b2 n2 c2] 35)
        have HX := hide (max_any l _ _ (hv.kept T0) (by omega) (by omega) hb)
        rw [hm, ← mx_all l]
        have hmx := mx_le hb
        obtain ⟨m, hmm⟩ : ∃ m, mx l = m := ⟨_, rfl⟩
        rw [hmm] at HX hmx ⊢
        have H3 := hide h3
        clear hm hv hmm h3 hA T0 hb
        go_enter Tryd.func39, Tryd.ntmps39
        go_wp2_with (first | (go_at_call 58; refine (gside_any _ _ _).mono ?_; rintro e w' ⟨rfl, rfl⟩) | (go_at_call 59; refine HX.out.mono ?_; rintro e w' ⟨rfl, rfl⟩))
        go_ret
        exact ⟨rfl, box1 _ _⟩
      · have hm : mt W H l = false := by simp [mt, h3]
        have hbq : (((l.length : Nat) : Int) != W * H) = true := by simp [h3]
        rw [hm]
        clear hm hv hA
        go_enter Tryd.func39, Tryd.ntmps39
        go_wp2_with (go_at_call 58; refine (gside_any _ _ _).mono ?_; rintro e w' ⟨rfl, rfl⟩)
        go_ret
        exact ⟨rfl, box1 _ _⟩
end Go.Proofs.YtekpamilcpeanaaDoor
namespace Go.Proofs.YtekpamilcpeanaaDoor
open Go.RowKit
set_option linter.unusedVariables false
/-- A World without buildings and edits, in memory of its own. -/
def Fresh (w1 : World) (W H : Int) (tl : List Nat) (p bm : Nat) (tv : Value) (w' : World) : Prop :=
  Wd w' p W H tv (.slice none 0 0) bm (.slice none 0 0) ∧ Tls w' tv tl ∧ Who w' bm 0 (fun _ _ => none) ∧ Below w1.heap.size w1 w' ∧ w1.heap.size ≤ p ∧ w1.heap.size ≤ bm ∧ ∀ b, tv.ownBlock = some b → w1.heap.size ≤ b
theorem fresh_a {w1 w2 : World} {W H : Int} {tl : List Nat} {tv : Value} (ho : Tls w2 tv tl) (hb : Below w1.heap.size w1 w2) (hf : ∀ b, tv.ownBlock = some b → w1.heap.size ≤ b) :
    Fresh w1 W H tl (w2.heap.size + 1) w2.heap.size tv ((w2.alloc (.map #[] 0)).alloc (.cells #[.int .i64 0, .int .i64 0, .int .i64 W, .int .i64 H, tv, .slice none 0 0, .map (some w2.heap.size), .slice none 0 0] 76)) := by
  have TB : Turns NoB (w2.alloc (.map #[] 0)) ((w2.alloc (.map #[] 0)).alloc (.cells #[.int .i64 0, .int .i64 0, .int .i64 W, .int .i64 H, tv, .slice none 0 0, .map (some w2.heap.size), .slice none 0 0] 76)) := Turns.of_below (box1 _ _)
  have TA : Turns NoB w2 (w2.alloc (.map #[] 0)) := Turns.of_below (box1 _ _)
  have hz := hb.size
  refine ⟨?_, (ho.kept TA (fun _ _ => id)).kept TB (fun _ _ => id), (Who.made w2).kept TB id, bt hb (box2 _ _ _), by omega, hz, hf⟩
  have := heap_alloc_new (w2.alloc (.map #[] 0)) (.cells #[.int .i64 0, .int .i64 0, .int .i64 W, .int .i64 H, tv, .slice none 0 0, .map (some w2.heap.size), .slice none 0 0] 76)
  simpa [Wd] using this
theorem fresh_b {w1 w2 : World} {W H : Int} {tl : List Nat} {tv : Value} (ho : Tls w2 tv tl) (hb : Below (w1.alloc (.map #[] 0)).heap.size (w1.alloc (.map #[] 0)) w2) (hf : ∀ b, tv.ownBlock = some b → w1.heap.size ≤ b) :
    Fresh w1 W H tl w2.heap.size w1.heap.size tv (w2.alloc (.cells #[.int .i64 0, .int .i64 0, .int .i64 W, .int .i64 H, tv, .slice none 0 0, .map (some w1.heap.size), .slice none 0 0] 76)) := by
  have TB : Turns NoB w2 (w2.alloc (.cells #[.int .i64 0, .int .i64 0, .int .i64 W, .int .i64 H, tv, .slice none 0 0, .map (some w1.heap.size), .slice none 0 0] 76)) := Turns.of_below (box1 _ _)
  have TA : Turns NoB (w1.alloc (.map #[] 0)) w2 := Turns.of_below hb
  have hz := hb.size
  simp at hz
  exact ⟨heap_alloc_new w2 _, ho.kept TB (fun _ _ => id), ((Who.made w1).kept TA id).kept TB id, bt (bt (box1 _ _) hb) (box1 _ _), by omega, Nat.le_refl _, hf⟩
end Go.Proofs.YtekpamilcpeanaaDoor
namespace Go.Proofs.YtekpamilcpeanaaDoor
open Go.RowKit
set_option linter.unusedVariables false
theorem below_undrew {N : Nat} {w w' : World} (h : Below N w.drew w') : Below N w w' := ⟨h.os, h.tape, h.output, h.size, h.block⟩
theorem BdAt.upto {w w' : World} {a : Option Addr} {i : Nat} {t : Bd} (h : BdAt w a i t) (hb : Below w.heap.size w w') : BdAt w' a i t := h.kept hb
/-- Who stands where, the buildings having been put one behind the other. -/
def whoL (l : List Bd) : Int → Int → Option Int := l.foldl (fun f t => putAll f (allC t.x t.y t.a t.b) t.id) (fun _ _ => none)
theorem whoL_snoc (l : List Bd) (t : Bd) : whoL (l ++ [t]) = putAll (whoL l) (allC t.x t.y t.a t.b) t.id := by simp [whoL]
def lastId (l : List Bd) : Int := (l.getLast?.map Bd.id).getD 0
theorem lastId_snoc (l : List Bd) (t : Bd) : lastId (l ++ [t]) = t.id := by simp [lastId]
def okL (W H : Int) : List Bd → List Bd → Bool
  | _, [] => true
  | done, t :: r => decide (lastId done < t.id) && (decide (code W H (whoL done) done t = 0) && okL W H (done ++ [t]) r)
def okM (W H : Int) (tl : List Nat) (L : List Bd) : Bool := mt W H tl && okL W H [] L
theorem pos_all : ∀ {l : List Bd} {i : Int}, (∀ t ∈ l, t.id < i) → pos l i = l.length
  | [], _, _ => rfl
  | t :: r, i, h => by
    have h1 := h t (by simp)
    have := pos_all (l := r) (i := i) (fun s hs => h s (by simp [hs]))
    unfold pos at this ⊢
    rw [List.takeWhile_cons]
    simp [h1, this]
theorem ins_all {l : List Bd} {t : Bd} (h : ∀ s ∈ l, s.id < t.id) : ins l t = l ++ [t] := by
  unfold ins
  rw [pos_all h]
  simp
theorem sorted_snoc {l : List Bd} {t : Bd} (hs : Sorted l) (h : ∀ s ∈ l, s.id < t.id) : Sorted (l ++ [t]) := by
  unfold Sorted at hs ⊢
  rw [List.pairwise_append]
  exact ⟨hs, by simp, fun a ha b hb => by simp at hb; subst hb; exact h a ha⟩
/-- What New leaves of a map that may be. -/
def Made (w : World) (W H : Int) (tl : List Nat) (L : List Bd) (p : Nat) (w' : World) : Prop :=
  ∃ bm tv bv, Wd w' p W H tv bv bm (.slice none 0 0) ∧ Tls w' tv tl ∧ Bds w' bv L ∧ Who w' bm (64 * L.length) (whoL L) ∧ Below w.heap.size w w' ∧
    (w.heap.size ≤ p ∧ w.heap.size ≤ bm ∧ (∀ b, tv.ownBlock = some b → w.heap.size ≤ b) ∧ ∀ b, bv.ownBlock = some b → w.heap.size ≤ b)
set_option maxRecDepth 100000 in
set_option maxHeartbeats 4000000 in
theorem new_bad (W H : Int) (tv : Value) (b2 : Option Addr) (n2 c2 : Nat) (tl : List Nat) (w : World) (hv : TlR w tv tl) (hb : ∀ x ∈ tl, x < 256) (hm : mt W H tl = false) :
    Calls Tryd.prog 23 #[mp W H tv (.slice b2 n2 c2)] w fun e w' => e = .returned (.tuple #[.pointer none, .int .i64 1]) ∧ Below w.heap.size w w' := by
  have T0 := box1 w (.cells #[.int .i64 W, .int .i64 H, tv, .slice b2 n2 c2] 35)
  have HM := hide (maytiles_any W H tv b2 n2 c2 tl _ (hv.kept T0) hb)
  rw [hm] at HM
  obtain ⟨a, cap, rfl, -⟩ := hv
  clear T0 hm
  go_enter Tryd.func23, Tryd.ntmps23
  go_wp2_with (go_at_call 39; refine HM.out.mono ?_; rintro e w1 ⟨rfl, hb1⟩)
  go_ret2
  exact ⟨rfl, bt (box1 _ _) hb1⟩
/-- The loop's relation: so many buildings stand. -/
def Nrel (w : World) (W H : Int) (tl : List Nat) (L : List Bd) (p bm : Nat) (tv : Value) (k : Nat) (wr : World) : Prop :=
  ∃ bv', Wd wr p W H tv bv' bm (.slice none 0 0) ∧ Tls wr tv tl ∧ Bds wr bv' (L.take k) ∧ Who wr bm (64 * k) (whoL (L.take k)) ∧ Below w.heap.size w wr ∧ (∀ b, bv'.ownBlock = some b → w.heap.size ≤ b) ∧
    (okL W H [] L = okL W H (L.take k) (L.drop k)) ∧ Sorted (L.take k) ∧ (∀ t ∈ L.take k, t.id ≤ lastId (L.take k)) ∧ k ≤ 256
set_option maxRecDepth 100000 in
set_option maxHeartbeats 4000000 in
theorem new_good (W H : Int) (tv bv : Value) (tl : List Nat) (L : List Bd) (w : World) (hv : TlR w tv tl) (hb : ∀ x ∈ tl, x < 256) (hl : BdR w bv L) (hm : mt W H tl = true) :
    Calls Tryd.prog 23 #[mp W H tv bv] w fun e w' => (okL W H [] L = true ∧ ∃ p, e = .returned (.tuple #[ptr p, .int .i64 0]) ∧ Made w W H tl L p w') ∨ (okL W H [] L = false ∧ e = .returned (.tuple #[.pointer none, .int .i64 1]) ∧ Below w.heap.size w w') := by
  have hv' := hv
  obtain ⟨a1, cap1, rfl, hc1, -, -⟩ := hv'
  obtain ⟨a2, cap2, rfl, hc2, hmx2, -, hat⟩ := hl
  have hl63 : (0 : Int) ≤ (L.length : Nat) ∧ ((L.length : Nat) : Int) ≤ 9223372036854775807 := by
    have : L.length ≤ 9223372036854775807 := hmx2
    omega
  have hlen : tl.length ≤ 16384 := by
    simp only [mt, Bool.and_eq_true, decide_eq_true_iff] at hm
    have := area hm.1 hm.2.1
    have := hm.2.2.1
    omega
  obtain ⟨X, hX⟩ : ∃ X, w.alloc (.cells #[.int .i64 W, .int .i64 H, .slice a1 tl.length cap1, .slice a2 L.length cap2] 35) = X := ⟨_, rfl⟩
  have B0 : Below w.heap.size w X := by rw [← hX]; exact box1 _ _
  have HBox : X.heap[w.heap.size]? = some (.cells #[.int .i64 W, .int .i64 H, .slice a1 tl.length cap1, .slice a2 L.length cap2] 35 (0, 0)) := by rw [← hX]; exact heap_alloc_new w _
  have HM := hide (maytiles_any W H _ a2 L.length cap2 tl X (hv.kept B0) hb)
  rw [hm] at HM
  have hmm := @run_makeMap Tryd.prog
  have x0 : X.cell? ⟨w.heap.size, 0, none⟩ = some (.int .i64 W) := cell_of_row X w.heap.size 0 _ _ _ HBox
  have x1 : X.cell? ⟨w.heap.size, 1, none⟩ = some (.int .i64 H) := cell_of_row X w.heap.size 1 _ _ _ HBox
  have x2 : X.cell? ⟨w.heap.size, 2, none⟩ = some (.slice a1 tl.length cap1) := cell_of_row X w.heap.size 2 _ _ _ HBox
  have x3 : X.cell? ⟨w.heap.size, 3, none⟩ = some (.slice a2 L.length cap2) := cell_of_row X w.heap.size 3 _ _ _ HBox
  go_enter Tryd.func23, Tryd.ntmps23
  go_wp2_with (go_at_call 39; refine HM.out.mono ?_; rintro e w1 ⟨rfl, hb1⟩)
  have HB1 : Below w.heap.size w w1 := bt B0 hb1
  have HBx1 := (hb1.block w.heap.size (Array.getElem?_eq_some_iff.1 HBox).1).trans HBox
  have hbxc : ∀ wx, Below w1.heap.size w1 wx → ∀ j : Nat, wx.cell? ⟨w.heap.size, j, none⟩ = (#[.int .i64 W, .int .i64 H, .slice a1 tl.length cap1, .slice a2 L.length cap2] : Array Value)[j]? := fun wx hx j =>
    cell_of_row wx w.heap.size j _ _ _ ((hx.block w.heap.size (Array.getElem?_eq_some_iff.1 HBx1).1).trans HBx1)
  have hS : ∀ wx, Below w1.heap.size w1 wx → wx.cell? ⟨w.heap.size, 0, none⟩ = some (.int .i64 W) ∧ wx.cell? ⟨w.heap.size, 1, none⟩ = some (.int .i64 H) ∧ wx.cell? ⟨w.heap.size, 2, none⟩ = some (.slice a1 tl.length cap1) := fun wx hx => ⟨hbxc wx hx 0, hbxc wx hx 1, hbxc wx hx 2⟩
  have HC : ∀ wx, Below w1.heap.size w1 wx → Hid (Calls Tryd.prog 40 #[.slice a1 tl.length cap1] wx (Cloned wx 5 1 tl.length (tl.map (fun n => Value.int .u8 (n : Nat))))) := fun wx hx =>
    clone22 tl _ wx ((hv.kept HB1).kept hx) hlen
  clear hX HM x0 x1 x2 x3
  refine Code.wp_mono (Q := Only (fun a' w' => ∃ p bm a3 cap3, a' = { tmps := #[mp W H (.slice a1 tl.length cap1) (.slice a2 L.length cap2), ptr w.heap.size, .pointer none, .int .i64 0, ptr p, undef, undef, undef, mp W H (.slice a1 tl.length cap1) (.slice a2 L.length cap2), .bool true, .bool false, ptr w.heap.size, .int .i64 W, .pointer (some ⟨w.heap.size, 1, none⟩), .int .i64 H, rct 0 0 W H, .pointer (some ⟨w.heap.size, 2, none⟩), .slice a1 tl.length cap1, .slice a3 tl.length cap3, .map (some bm), .agg #[.int .i64 0, .int .i64 0, .int .i64 W, .int .i64 H, .slice a3 tl.length cap3, .slice none 0 0, .map (some bm), .slice none 0 0], ptr p, undef, undef, undef, undef, undef, undef, undef, undef, undef, undef, undef, undef, undef, undef, undef, undef, undef, undef, undef, undef, undef, undef, undef, undef], defers := [] } ∧ Fresh w1 W H tl p bm (.slice a3 tl.length cap3) w')) ?rest ?_
  case rest =>
    rintro (_ | _ | _ | _ | _) a' w2 hO
    all_goals first | exact hO.elim | skip
    obtain ⟨p, bm, a3, cap3, rfl, hF⟩ := hO
    obtain ⟨f1, f2, f3, f4, f5, f6, f7⟩ := hF
    have y3 : w2.cell? ⟨w.heap.size, 3, none⟩ = some (.slice a2 L.length cap2) := hbxc w2 f4 3
    have hz1 := HB1.size
    have R0 : Nrel w W H tl L p bm (.slice a3 tl.length cap3) 0 w2 :=
      ⟨.slice none 0 0, f1, f2, World.ownsRow_nil _ _ _ _, by simpa [whoL] using f3, bt HB1 f4, fun b h => by simp [Value.ownBlock] at h, by simp, by simp [Sorted], by simp, by omega⟩
    have hps : w.heap.size ≤ p ∧ w.heap.size ≤ bm ∧ ∀ b, (Value.slice a3 tl.length cap3).ownBlock = some b → w.heap.size ≤ b := ⟨by omega, by omega, fun b h => Nat.le_trans hz1 (f7 b h)⟩
    have HR0 := hide R0
    clear f1 f2 f3 f4 f5 f6 f7 R0 HC hS hbxc HBx1 HB1 hb1 hv hmm HBox
    go_wp2_with fail
    go_loopw [5, 7, 25] (fun s5 s7 s25 wr => ∃ k : Nat, k ≤ L.length ∧ s25 = .int .i64 k ∧ s5 = .int .i64 (lastId (L.take k)) ∧ Nrel w W H tl L p bm (.slice a3 tl.length cap3) k wr) (fun s5 s7 s25 _ => L.length - (intOf s25).toNat)
    case atStart => exact ⟨0, Nat.zero_le _, rfl, rfl, HR0.out⟩
    case round =>
      obtain ⟨k, hk, rfl, rfl, hN⟩ := hrel
      by_cases hlt : k < L.length
      · obtain ⟨t, ht⟩ : ∃ t, L[k]? = some t := ⟨_, List.getElem?_eq_getElem hlt⟩
        obtain ⟨bv', n1, n2, n3, n4, n5, n6, n7, n8, n9, n10⟩ := hN
        obtain ⟨g, o, rfl, hg, c0, c1, c2, c3, c4⟩ := (hat k t ht).kept n5
        have hki : (k : Int) < (L.length : Nat) := by omega
        have hdr : L.drop k = t :: L.drop (k + 1) := by
          rw [List.drop_eq_getElem_cons hlt]
          have := (List.getElem?_eq_some_iff.1 ht).2
          rw [this]
        have htk : L.take (k + 1) = L.take k ++ [t] := by rw [List.take_add_one, ht]; rfl
        rw [hdr] at n7
        have TB : Turns NoB wr (wr.alloc (.cells #[.int .i64 t.id, .int .i64 t.x, .int .i64 t.y, .int .i64 t.a, .int .i64 t.b] 78)) := Turns.of_below (box1 _ _)
        have FB : Five (wr.alloc (.cells #[.int .i64 t.id, .int .i64 t.x, .int .i64 t.y, .int .i64 t.a, .int .i64 t.b] 78)) wr.heap.size t := heap_alloc_new wr _
        have HBr : Below w.heap.size w (wr.alloc (.cells #[.int .i64 t.id, .int .i64 t.x, .int .i64 t.y, .int .i64 t.a, .int .i64 t.b] 78)) := n5.alloc n5.size _
        have m1 := n1.kept TB id
        have m2 := n2.kept TB (fun _ _ => id)
        have m3 := n3.kept TB (fun _ _ => id)
        have m4 := n4.kept TB id
        have hlk : (L.take k).length = k := by rw [List.length_take]; omega
        have HMay := hide (may_world p bm (64 * k) W H _ bv' _ (whoL (L.take k)) (L.take k) t _ m1 m4 m3 n8 (by omega))
        obtain ⟨la, hla⟩ : ∃ la, lastId (L.take k) = la := ⟨_, rfl⟩
        rw [hla] at n9 ⊢
        by_cases hid : t.id ≤ la
        · have hok : okL W H [] L = false := by
            rw [n7, okL, hla, decide_eq_false (by omega)]; rfl
          have HOK := hide hok
          clear hok n7 n8 n9 n1 n2 n3 n4 m1 m2 m3 m4 hdr htk hla HMay hm hat
          go_wp2_with fail
          go_ret2
          exact .inr ⟨HOK.out, rfl, HBr⟩
        · obtain ⟨cd, hcd⟩ : ∃ cd, code W H (whoL (L.take k)) (L.take k) t = cd := ⟨_, rfl⟩
          rw [hcd] at HMay
          by_cases hc0 : cd = 0
          · subst hc0
            have HCD := hide hcd
            obtain ⟨z1, z2, z3, z4⟩ := code_zero hcd
            have hall : ∀ s ∈ L.take k, s.id < t.id := fun s hs => by have := n9 s hs; omega
            have hlc := mb_len z1
            have HK := hide (show ∀ w3, Below (wr.alloc (.cells #[.int .i64 t.id, .int .i64 t.x, .int .i64 t.y, .int .i64 t.a, .int .i64 t.b] 78)).heap.size (wr.alloc (.cells #[.int .i64 t.id, .int .i64 t.x, .int .i64 t.y, .int .i64 t.a, .int .i64 t.b] 78)) w3 →
                Calls Tryd.prog 42 #[ptr p, t.v] w3 (fun e w' => e = .returned (.tuple #[]) ∧ Nrel w W H tl L p bm (.slice a3 tl.length cap3) (k + 1) w' ∧ Five w' wr.heap.size t) ∧ Five w3 wr.heap.size t from fun w3 hb3 => by
              have T3 : Turns NoB (wr.alloc (.cells #[.int .i64 t.id, .int .i64 t.x, .int .i64 t.y, .int .i64 t.a, .int .i64 t.b] 78)) w3 := Turns.of_below hb3
              have q1 := m1.kept T3 id
              have q2 := m2.kept T3 (fun _ _ => id)
              have q3 := m3.kept T3 (fun _ _ => id)
              have q4 := m4.kept T3 id
              have q5 := FB.kept T3 id
              refine ⟨(stand_any p bm (64 * k) W H _ bv' _ (whoL (L.take k)) (L.take k) t w3 q1 q4 q3 n8 (by omega) (mb_id z1) (by unfold maxLen; omega)).mono ?_, q5⟩
              rintro e w4 ⟨rfl, g4, cap4, s1, s2, s3, s4, s5⟩
              have hB3 : Below w.heap.size w w3 := HBr.trans (hb3.mono HBr.size)
              have hz3 := hB3.size
              have hB4 : Below w.heap.size w w4 := hB3.trans (s4.below (fun j hj => by
                rcases hj with h | h | h
                · omega
                · omega
                · exact n6 j h) hz3)
              refine ⟨rfl, ⟨.slice (some ⟨g4, 0, none⟩) ((L.take k).length + 1) cap4, s1, q2.kept s4 (fun j e h => ?_), ?_, ?_, hB4, fun b h => ?_, ?_, ?_, ?_, by omega⟩, q5.kept s4 (fun h => ?_)⟩
              · rcases h with h | h | h
                · subst h; exact q1.ne_row q2 (by decide) e
                · subst h; exact row_ne_map q2 q4 e
                · exact rows_ne q2 q3 (by decide) e h
              · rw [htk, ← ins_all hall]; exact s2
              · rw [htk, whoL_snoc]; exact s3.mono (by omega)
              · simp only [Value.ownBlock, Option.some.injEq] at h
                subst h
                rcases s5 with h | h
                · exact n6 _ h
                · omega
              · rw [n7, okL, hla, decide_eq_true (by omega), HCD.out, htk]; rfl
              · rw [htk]; exact sorted_snoc n8 hall
              · rw [htk, lastId_snoc]
                intro s hs
                rcases List.mem_append.1 hs with h | h
                · have := hall s h; omega
                · simp at h; subst h; exact Int.le_refl _
              · have hw3 : wr.heap.size < w3.heap.size := by have := hb3.size; simp at this; omega
                rcases h with h | h | h
                · have := n1.lt; omega
                · have := n4.lt; omega
                · have := (n3.lt _ h).2; omega)
            have HL := hide (show lastId (L.take (k + 1)) = t.id by rw [htk, lastId_snoc])
            clear n7 n8 n9 n1 n2 n3 n4 m1 m2 m3 m4 hdr htk hla hm hat hcd hall z1 z2 z3 z4 FB TB
            go_wp2_with (first | (go_at_call 41; refine HMay.out.mono ?_; rintro e w3 ⟨rfl, hb3⟩; obtain ⟨HSt, HF3⟩ := HK.out w3 hb3; have z0 : w3.cell? ⟨wr.heap.size, 0, none⟩ = some (.int .i64 t.id) := HF3.c 0; have z1 : w3.cell? ⟨wr.heap.size, 1, none⟩ = some (.int .i64 t.x) := HF3.c 1; have z2 : w3.cell? ⟨wr.heap.size, 2, none⟩ = some (.int .i64 t.y) := HF3.c 2; have z3 : w3.cell? ⟨wr.heap.size, 3, none⟩ = some (.int .i64 t.a) := HF3.c 3; have z4 : w3.cell? ⟨wr.heap.size, 4, none⟩ = some (.int .i64 t.b) := HF3.c 4)  | (go_at_call 42; refine HSt.mono ?_; clear HSt; rintro e w4 ⟨rfl, HN4, HF4⟩; have z5 : w4.cell? ⟨wr.heap.size, 0, none⟩ = some (.int .i64 t.id) := HF4.c 0))
            go_roundw
            case rel => exact ⟨k + 1, by omega, by go_num, by rw [HL.out], HN4⟩
            case measure => simp [intOf]; omega
          · have hok : okL W H [] L = false := by
              rw [n7, okL, hcd, decide_eq_false hc0]; simp
            have HOK := hide hok
            have hc1 : (cd != 0) = true := by simp [hc0]
            clear hok n7 n8 n9 n1 n2 n3 n4 m1 m2 m3 m4 hdr htk hla hm hat hcd
            go_wp2_with (go_at_call 41; refine HMay.out.mono ?_; rintro e w3 ⟨rfl, hb3⟩)
            go_ret2
            exact .inr ⟨HOK.out, rfl, bt HBr hb3⟩
      · have hke : k = L.length := by omega
        subst hke
        have HN := hide hN
        clear hN
        go_wp2_with fail
        go_ret2
        left
        obtain ⟨bv', n1, n2, n3, n4, n5, n6, n7, n8, n9, n10⟩ := HN.out
        rw [List.take_length] at n3 n4 n7
        rw [List.drop_length] at n7
        exact ⟨by rw [n7]; rfl, p, rfl, bm, _, bv', n1, n2, n3, n4, n5, hps.1, hps.2.1, hps.2.2, n6⟩
  refine wp_region_held_drew (S := fun w' => w'.cell? ⟨w.heap.size, 0, none⟩ = some (.int .i64 W) ∧ w'.cell? ⟨w.heap.size, 1, none⟩ = some (.int .i64 H) ∧ w'.cell? ⟨w.heap.size, 2, none⟩ = some (.slice a1 tl.length cap1)) (by kernel_rfl) (hS w1 (Below.refl _ _)) (fun hHeld => ?_)
  refine wpAnyH_take (i := 0) (v := ?_) rfl (by kernel_rfl) (by kernel_rfl) (by kernel_rfl) (fun _ _ _ h => h.elim) (Or.inl ⟨by rfl, ?_⟩) (by assumption) ?_
  rotate_left
  · intro wx hSw
    try dsimp only at hSw
    go_simp
    try with_reducible rfl
  try simp only [Act.put, List.getElem_toArray, List.getElem_cons_zero, List.setIfInBounds_toArray, List.set_cons_zero, List.set_cons_succ]
  refine wpAnyH_take (i := 1) (v := ?_) rfl (by kernel_rfl) (by kernel_rfl) (by kernel_rfl) (fun _ _ _ h => h.elim) (Or.inl ⟨by rfl, ?_⟩) (by assumption) ?_
  rotate_left
  · intro wx hSw
    try dsimp only at hSw
    go_simp
    try with_reducible rfl
  try simp only [Act.put, List.getElem_toArray, List.getElem_cons_zero, List.getElem_cons_succ, List.setIfInBounds_toArray, List.set_cons_zero, List.set_cons_succ]
  refine wpAnyH_take (i := 2) (v := ?_) rfl (by kernel_rfl) (by kernel_rfl) (by kernel_rfl) (fun _ _ _ h => h.elim) (Or.inl ⟨by rfl, ?_⟩) (by assumption) ?_
  rotate_left
  · intro wx hSw
    try dsimp only at hSw
    go_simp
    try with_reducible rfl
  try simp only [Act.put, List.getElem_toArray, List.getElem_cons_zero, List.getElem_cons_succ, List.setIfInBounds_toArray, List.set_cons_zero, List.set_cons_succ]
  refine wpAnyH_take (i := 3) (v := ?_) rfl (by kernel_rfl) (by kernel_rfl) (by kernel_rfl) (fun _ _ _ h => h.elim) (Or.inl ⟨by rfl, ?_⟩) (by assumption) ?_
  rotate_left
  · intro wx hSw
    try dsimp only at hSw
    go_simp
    try with_reducible rfl
  try simp only [Act.put, List.getElem_toArray, List.getElem_cons_zero, List.getElem_cons_succ, List.setIfInBounds_toArray, List.set_cons_zero, List.set_cons_succ]
  refine wpAnyH_take (i := 4) (v := ?_) rfl (by kernel_rfl) (by kernel_rfl) (by kernel_rfl) (fun _ _ _ h => h.elim) (Or.inl ⟨by rfl, ?_⟩) (by assumption) ?_
  rotate_left
  · intro wx hSw
    try dsimp only at hSw
    go_simp
    try with_reducible rfl
  try simp only [Act.put, List.getElem_toArray, List.getElem_cons_zero, List.getElem_cons_succ, List.setIfInBounds_toArray, List.set_cons_zero, List.set_cons_succ]
  refine wpAnyH_take (i := 5) (v := ?_) rfl (by kernel_rfl) (by kernel_rfl) (by kernel_rfl) (fun _ _ _ h => h.elim) (Or.inl ⟨by rfl, ?_⟩) (by assumption) ?_
  rotate_left
  · intro wx hSw
    try dsimp only at hSw
    go_simp
    try with_reducible rfl
  try simp only [Act.put, List.getElem_toArray, List.getElem_cons_zero, List.getElem_cons_succ, List.setIfInBounds_toArray, List.set_cons_zero, List.set_cons_succ]
  refine wpAnyH_take (i := 6) (v := ?_) rfl (by kernel_rfl) (by kernel_rfl) (by kernel_rfl) (fun _ _ _ h => h.elim) (Or.inl ⟨by rfl, ?_⟩) (by assumption) ?_
  rotate_left
  · intro wx hSw
    try dsimp only at hSw
    go_simp
    try with_reducible rfl
  try simp only [Act.put, List.getElem_toArray, List.getElem_cons_zero, List.getElem_cons_succ, List.setIfInBounds_toArray, List.set_cons_zero, List.set_cons_succ]
  refine wpAnyH_ready (rs := [7, 8]) (by kernel_rfl) (by simp) ?_
  refine AllReadyH.cons rfl (fun K hK => ?_) ?_
  · go_simp
    refine (HC _ (Below.refl _ _).drew).out.mono ?_
    rintro e w2 ⟨a3, cap3, rfl, hown, hb2, hf2⟩
    have hBB : Below w1.heap.size w1 w2 := bt (Below.refl _ _).drew hb2
    try go_wp2_with fail
    refine hK.out _ _ ?_ (fun hHeld => ?_)
    · first | exact hS _ (Below.refl _ _) | exact hS _ (box1 _ _) | exact hS _ (box1 _ _).drew | exact hS _ (by assumption) | exact hS _ (bt (by assumption) (box1 _ _)) | exact hS _ (box1 _ _) | exact hS _ (bt (bt (by assumption) (box1 _ _)) (box1 _ _))
    clear hK K
    try simp only [Act.put, List.getElem_toArray, List.getElem_cons_zero, List.getElem_cons_succ, List.setIfInBounds_toArray, List.set_cons_zero, List.set_cons_succ]
    refine wpAnyH_ready (rs := [8]) (by kernel_rfl) (by simp) ?_
    refine AllReadyH.cons rfl (fun K hK => ?_) ?_
    · go_simp
      refine hK.out _ _ ?_ (fun hHeld => ?_)
      · first | exact hS _ (Below.refl _ _) | exact hS _ (box1 _ _) | exact hS _ (box1 _ _).drew | exact hS _ (by assumption) | exact hS _ (bt (by assumption) (box1 _ _)) | exact hS _ (box1 _ _) | exact hS _ (bt (bt (by assumption) (box1 _ _)) (box1 _ _))
      clear hK K
      try simp only [Act.put, List.getElem_toArray, List.getElem_cons_zero, List.getElem_cons_succ, List.setIfInBounds_toArray, List.set_cons_zero, List.set_cons_succ]
      refine wpAnyH_take (i := 9) (v := ?_) rfl (by kernel_rfl) (by kernel_rfl) (by kernel_rfl) (fun _ _ _ h => h.elim) (Or.inl ⟨by rfl, ?_⟩) (by assumption) ?_
      rotate_left
      · intro wx hSw
        try dsimp only at hSw
        go_simp
        try with_reducible rfl
      try simp only [Act.put, List.getElem_toArray, List.getElem_cons_zero, List.getElem_cons_succ, List.setIfInBounds_toArray, List.set_cons_zero, List.set_cons_succ]
      refine wpAnyH_ready (rs := [10]) (by kernel_rfl) (by simp) ?_
      refine AllReadyH.cons rfl (fun K hK => ?_) ?_
      · go_simp
        refine hK.out _ _ ?_ (fun hHeld => ?_)
        · first | exact hS _ (Below.refl _ _) | exact hS _ (box1 _ _) | exact hS _ (box1 _ _).drew | exact hS _ (by assumption) | exact hS _ (bt (by assumption) (box1 _ _)) | exact hS _ (box1 _ _) | exact hS _ (bt (bt (by assumption) (box1 _ _)) (box1 _ _))
        clear hK K
        try simp only [Act.put, List.getElem_toArray, List.getElem_cons_zero, List.getElem_cons_succ, List.setIfInBounds_toArray, List.set_cons_zero, List.set_cons_succ]
        refine wpAnyH_take (i := 11) (v := ?_) rfl (by kernel_rfl) (by kernel_rfl) (by kernel_rfl) (fun _ _ _ h => h.elim) (Or.inl ⟨by rfl, ?_⟩) (by assumption) ?_
        rotate_left
        · intro wx hSw
          try dsimp only at hSw
          go_simp
          try with_reducible rfl
        try simp only [Act.put, List.getElem_toArray, List.getElem_cons_zero, List.getElem_cons_succ, List.setIfInBounds_toArray, List.set_cons_zero, List.set_cons_succ]
        refine wpAnyH_done (by kernel_rfl) ?_ _
        first | exact ⟨_, _, _, _, rfl, fresh_a hown hBB hf2⟩ | exact ⟨_, _, _, _, rfl, fresh_b hown (below_undrew hb2) (fun b h => Nat.le_trans (by simp) (hf2 b h))⟩
      exact AllReadyH.nil
    exact AllReadyH.nil
  refine AllReadyH.cons rfl (fun K hK => ?_) ?_
  · go_simp
    refine hK.out _ _ ?_ (fun hHeld => ?_)
    · first | exact hS _ (Below.refl _ _) | exact hS _ (box1 _ _) | exact hS _ (box1 _ _).drew | exact hS _ (by assumption) | exact hS _ (bt (by assumption) (box1 _ _)) | exact hS _ (box1 _ _) | exact hS _ (bt (bt (by assumption) (box1 _ _)) (box1 _ _))
    clear hK K
    try simp only [Act.put, List.getElem_toArray, List.getElem_cons_zero, List.getElem_cons_succ, List.setIfInBounds_toArray, List.set_cons_zero, List.set_cons_succ]
    refine wpAnyH_ready (rs := [7]) (by kernel_rfl) (by simp) ?_
    refine AllReadyH.cons rfl (fun K hK => ?_) ?_
    · go_simp
      refine (HC _ (box1 _ _).drew).out.mono ?_
      rintro e w2 ⟨a3, cap3, rfl, hown, hb2, hf2⟩
      have hBB : Below w1.heap.size w1 w2 := bt (box1 _ _).drew hb2
      try go_wp2_with fail
      refine hK.out _ _ ?_ (fun hHeld => ?_)
      · first | exact hS _ (Below.refl _ _) | exact hS _ (box1 _ _) | exact hS _ (box1 _ _).drew | exact hS _ (by assumption) | exact hS _ (bt (by assumption) (box1 _ _)) | exact hS _ (box1 _ _) | exact hS _ (bt (bt (by assumption) (box1 _ _)) (box1 _ _))
      clear hK K
      try simp only [Act.put, List.getElem_toArray, List.getElem_cons_zero, List.getElem_cons_succ, List.setIfInBounds_toArray, List.set_cons_zero, List.set_cons_succ]
      refine wpAnyH_take (i := 9) (v := ?_) rfl (by kernel_rfl) (by kernel_rfl) (by kernel_rfl) (fun _ _ _ h => h.elim) (Or.inl ⟨by rfl, ?_⟩) (by assumption) ?_
      rotate_left
      · intro wx hSw
        try dsimp only at hSw
        go_simp
        try with_reducible rfl
      try simp only [Act.put, List.getElem_toArray, List.getElem_cons_zero, List.getElem_cons_succ, List.setIfInBounds_toArray, List.set_cons_zero, List.set_cons_succ]
      refine wpAnyH_ready (rs := [10]) (by kernel_rfl) (by simp) ?_
      refine AllReadyH.cons rfl (fun K hK => ?_) ?_
      · go_simp
        refine hK.out _ _ ?_ (fun hHeld => ?_)
        · first | exact hS _ (Below.refl _ _) | exact hS _ (box1 _ _) | exact hS _ (box1 _ _).drew | exact hS _ (by assumption) | exact hS _ (bt (by assumption) (box1 _ _)) | exact hS _ (box1 _ _) | exact hS _ (bt (bt (by assumption) (box1 _ _)) (box1 _ _))
        clear hK K
        try simp only [Act.put, List.getElem_toArray, List.getElem_cons_zero, List.getElem_cons_succ, List.setIfInBounds_toArray, List.set_cons_zero, List.set_cons_succ]
        refine wpAnyH_take (i := 11) (v := ?_) rfl (by kernel_rfl) (by kernel_rfl) (by kernel_rfl) (fun _ _ _ h => h.elim) (Or.inl ⟨by rfl, ?_⟩) (by assumption) ?_
        rotate_left
        · intro wx hSw
          try dsimp only at hSw
          go_simp
          try with_reducible rfl
        try simp only [Act.put, List.getElem_toArray, List.getElem_cons_zero, List.getElem_cons_succ, List.setIfInBounds_toArray, List.set_cons_zero, List.set_cons_succ]
        refine wpAnyH_done (by kernel_rfl) ?_ _
        first | exact ⟨_, _, _, _, rfl, fresh_a hown hBB hf2⟩ | exact ⟨_, _, _, _, rfl, fresh_b hown (below_undrew hb2) (fun b h => Nat.le_trans (by simp) (hf2 b h))⟩
      exact AllReadyH.nil
    exact AllReadyH.nil
  exact AllReadyH.nil
end Go.Proofs.YtekpamilcpeanaaDoor
