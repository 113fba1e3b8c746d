/-
  phalanxlaw04.Made: a map's world behind some edits, both ways.
-/
import Derived.Test.YtobjadfchpgjeaaPlay2
import Derived.Test.YtobjadfchpgjeaaOwn
import Derived.Test.YtobjadfchpgjeaaCheckW
set_option linter.unusedSimpArgs false
namespace Go.Proofs.Ytobjadfchpgjeaa
open Go.RowKit
set_option linter.unusedVariables false
theorem Bds.r {w : World} {v : Value} {l : List Bd} (h : Bds w v l) : BdR w v l := by
  have hf := h.form
  obtain ⟨a, cap, e, h1, h2, h3⟩ := hf
  refine ⟨a, cap, e, h1, Nat.le_trans h1 h2, fun ha => ?_, fun i x hx => ?_⟩
  · subst ha
    rcases h.2 with ⟨e', h0⟩ | ⟨g, cap', cur, e', _⟩
    · rw [e'] at e; injection e with _ _ hc; exact ⟨h0, hc.symm⟩
    · rw [e'] at e; injection e with h1; cases h1
  · obtain ⟨g, e1, e2, c0, c1, c2, c3, c4⟩ := h3 i x hx
    exact ⟨g, 0, e1, e2, by rw [Nat.zero_add]; exact c0, by rw [Nat.zero_add]; exact c1, by rw [Nat.zero_add]; exact c2, by rw [Nat.zero_add]; exact c3, by rw [Nat.zero_add]; exact c4⟩
theorem chkC_zero {W H : Int} {tl : List Nat} {L : List Bd} (h : chkC W H tl L = 0) : mt W H tl = true ∧ L.length ≤ 256 ∧ okL W H [] L = true ∧ whoL L = whoF L ∧ Fine W H L := by
  unfold chkC at h
  split at h
  · rename_i h'
    simp only [Bool.and_eq_true, decide_eq_true_eq] at h'
    have hok : okL W H [] L = true := by
      rw [okL_chk W H L [] (Fine.nil W H) rfl]
      simp [h'.2.1, h'.2.2]
    have := okL_fine W H L [] (Fine.nil W H) rfl hok
    exact ⟨h'.1, h'.2.1, hok, by simpa using this.2, by simpa using this.1⟩
  · cases h
theorem chkC_two (W H : Int) (tl : List Nat) (L : List Bd) : chkC W H tl L = 0 ∨ chkC W H tl L = 1 := by
  unfold chkC
  split
  · exact .inl rfl
  · exact .inr rfl
theorem nwc_chk (W H : Int) (tl : List Nat) (L : List Bd) : nwc W H tl L = chkC W H tl L := by
  unfold nwc chkC
  rw [okL_chk W H L [] (Fine.nil W H) rfl]
  simp
theorem chkC_one {W H : Int} {tl : List Nat} {L : List Bd} (h : chkC W H tl L = 1) (hm : mt W H tl = true) : okL W H [] L = false := by
  rw [okL_chk W H L [] (Fine.nil W H) rfl, Bool.eq_false_iff]
  intro e
  simp only [Bool.and_eq_true, decide_eq_true_eq, List.length_nil, Nat.zero_add] at e
  simp [chkC, hm, e.1, e.2] at h
theorem newp_no {W H : Int} {tv bv : Value} {tl : List Nat} {L : List Bd} {w : World} (hv : TlR w tv tl) (hb : ∀ x ∈ tl, x < 256) (hl : BdR w bv L) (hc : chkC W H tl L = 1) :
    Calls Try.prog 26 #[mp W H tv bv] w fun e w' => e = .returned (.tuple #[.pointer none, .int .i64 1]) ∧ Below w.heap.size w w' := by
  cases hm : mt W H tl
  · obtain ⟨a2, cap2, rfl, -⟩ := hl
    exact new_bad W H tv a2 L.length cap2 tl w hv hb hm
  · refine (new_good W H tv bv tl L w hv hb hl hm).mono ?_
    rintro e w' (⟨h, -⟩ | ⟨-, he, hB⟩)
    · rw [chkC_one hc hm] at h; cases h
    · exact ⟨he, hB⟩
theorem newp_ok {W H : Int} {tv bv : Value} {tl : List Nat} {L : List Bd} {w : World} (hv : TlR w tv tl) (hb : ∀ x ∈ tl, x < 256) (hl : BdR w bv L) (hc : chkC W H tl L = 0) :
    Calls Try.prog 26 #[mp W H tv bv] w fun e w' => ∃ p, e = .returned (.tuple #[ptr p, .int .i64 0]) ∧ Made w W H tl L p w' := by
  obtain ⟨hm, hlen, hok, hw⟩ := chkC_zero hc
  refine (new_good W H tv bv tl L w hv hb hl hm).mono ?_
  rintro e w' (⟨-, p, he, hM⟩ | ⟨h, -⟩)
  · exact ⟨p, he, hM⟩
  · rw [hok] at h; cases h
/-- The box in which a map lies, whatever made memory since. -/
def MB (w : World) (k : Nat) (W H : Int) (tv bv : Value) : Prop := w.heap[k]? = some (.cells #[.int .i64 W, .int .i64 H, tv, bv] 25 (0, 0))
theorem MB.kept {w w' : World} {k : Nat} {W H : Int} {tv bv : Value} (h : MB w k W H tv bv) (hb : Below w.heap.size w w') : MB w' k W H tv bv := (hb.block k (Array.getElem?_eq_some_iff.1 h).1).trans h
theorem MB.c {w : World} {k : Nat} {W H : Int} {tv bv : Value} (h : MB w k W H tv bv) : w.cell? ⟨k, 0, none⟩ = some (.int .i64 W) ∧ w.cell? ⟨k, 1, none⟩ = some (.int .i64 H) ∧ w.cell? ⟨k, 2, none⟩ = some tv ∧ w.cell? ⟨k, 3, none⟩ = some bv :=
  ⟨cell_of_row w k 0 _ _ _ h, cell_of_row w k 1 _ _ _ h, cell_of_row w k 2 _ _ _ h, cell_of_row w k 3 _ _ _ h⟩
/-- The box in which both worlds' places lie. -/
def BB (w : World) (k : Nat) (a b : Value) : Prop := w.heap[k]? = some (.cells #[a, b] 30 (0, 0))
theorem BB.lt {w : World} {k : Nat} {a b : Value} (h : BB w k a b) : k < w.heap.size := (Array.getElem?_eq_some_iff.1 h).1
theorem BB.kept {w w' : World} {k : Nat} {a b : Value} (h : BB w k a b) (hb : Below w.heap.size w w') : BB w' k a b := (hb.block k h.lt).trans h
theorem BB.c {w : World} {k : Nat} {a b : Value} (h : BB w k a b) : w.cell? ⟨k, 0, none⟩ = some a ∧ w.cell? ⟨k, 1, none⟩ = some b ∧ w.frozen? ⟨k, 0, none⟩ = false ∧ w.frozen? ⟨k, 1, none⟩ = false :=
  ⟨cell_of_row w k 0 _ _ _ h, cell_of_row w k 1 _ _ _ h, by simp only [BB] at h; simp [World.frozen?, h], by simp only [BB] at h; simp [World.frozen?, h]⟩
theorem BB.set {w : World} {k : Nat} {a b : Value} (h : BB w k a b) (c d : Value) : BB ((w.setCell ⟨k, 0, none⟩ c).setCell ⟨k, 1, none⟩ d) k c d := by
  simp only [BB] at h ⊢
  simp [World.setCell, Array.getElem?_modify, h]
/-- Edit number i of the slice that begins at a. -/
def EdAtR (w : World) (a : Option Addr) (i : Nat) (t : Bool × Bd) : Prop :=
  ∃ g o, a = some ⟨g, o, none⟩ ∧ g < w.heap.size ∧ w.cell? ⟨g, o + i * 6, none⟩ = some (.bool t.1) ∧ w.cell? ⟨g, o + i * 6 + 1, none⟩ = some (.int .i64 t.2.id) ∧ w.cell? ⟨g, o + i * 6 + 2, none⟩ = some (.int .i64 t.2.x) ∧ w.cell? ⟨g, o + i * 6 + 3, none⟩ = some (.int .i64 t.2.y) ∧ w.cell? ⟨g, o + i * 6 + 4, none⟩ = some (.int .i64 t.2.a) ∧ w.cell? ⟨g, o + i * 6 + 5, none⟩ = some (.int .i64 t.2.b)
theorem EdAtR.kept {w w' : World} {a : Option Addr} {i : Nat} {t : Bool × Bd} {N : Nat} (h : EdAtR w a i t) (hN : w.heap.size ≤ N) (hb : Below N w w') : EdAtR w' a i t := by
  obtain ⟨g, o, e1, e2, c0, c1, c2, c3, c4, c5⟩ := h
  have hc := fun o => hb.cell (p := ⟨g, o, none⟩) (Nat.lt_of_lt_of_le e2 hN)
  exact ⟨g, o, e1, Nat.lt_of_lt_of_le e2 hb.size, (hc _).trans c0, (hc _).trans c1, (hc _).trans c2, (hc _).trans c3, (hc _).trans c4, (hc _).trans c5⟩
/-- The slice v, wherever it begins, reads as the edits l. -/
def EdR (w : World) (v : Value) (l : List (Bool × Bd)) : Prop :=
  ∃ a cap, v = .slice a l.length cap ∧ l.length ≤ cap ∧ l.length * 48 ≤ 140737488355328 ∧ ∀ i t, l[i]? = some t → EdAtR w a i t
theorem EdR.kept {w w' : World} {v : Value} {l : List (Bool × Bd)} (h : EdR w v l) (hb : Below w.heap.size w w') : EdR w' v l := by
  obtain ⟨a, cap, e, h1, h2, h3⟩ := h
  exact ⟨a, cap, e, h1, h2, fun i t ht => (h3 i t ht).kept (Nat.le_refl _) hb⟩
set_option maxRecDepth 100000 in
set_option maxHeartbeats 4000000 in
theorem made_bad (W H : Int) (tv bv lv : Value) (tl : List Nat) (L : List Bd) (K : List (Bool × Bd)) (w : World) (hv : TlR w tv tl) (hb : ∀ x ∈ tl, x < 256) (hl : BdR w bv L) (ht : tl.length ≤ 140737488355328) (hL : L.length * 40 ≤ 140737488355328) (hK : EdR w lv K) (hc : chkC W H tl L = 1) :
    Calls Try.prog 8 #[mp W H tv bv, lv] w fun e w' => e = .returned (.tuple #[.agg #[.pointer none, .pointer none], .bool false, .bool true]) ∧ Below w.heap.size w w' := by
  have B0 := box2 w (.cells #[.int .i64 W, .int .i64 H, tv, bv] 25) (.cells #[.pointer none, .pointer none] 30)
  have M0 : MB ((w.alloc (.cells #[.int .i64 W, .int .i64 H, tv, bv] 25)).alloc (.cells #[.pointer none, .pointer none] 30)) w.heap.size W H tv bv := (Below.heap_alloc _ _ _ (by simp)).trans (heap_alloc_new w _)
  have R0 : BB ((w.alloc (.cells #[.int .i64 W, .int .i64 H, tv, bv] 25)).alloc (.cells #[.pointer none, .pointer none] 30)) (w.heap.size + 1) (.pointer none) (.pointer none) := by
    have := heap_alloc_new (w.alloc (.cells #[.int .i64 W, .int .i64 H, tv, bv] 25)) (.cells #[.pointer none, .pointer none] 30)
    simpa [BB] using this
  have z0 : ((w.alloc (.cells #[.int .i64 W, .int .i64 H, tv, bv] 25)).alloc (.cells #[.pointer none, .pointer none] 30)).heap.size = w.heap.size + 2 := by simp
  obtain ⟨X, hX⟩ : ∃ X, (w.alloc (.cells #[.int .i64 W, .int .i64 H, tv, bv] 25)).alloc (.cells #[.pointer none, .pointer none] 30) = X := ⟨_, rfl⟩
  rw [hX] at B0 M0 R0 z0
  have HO : Hid (∀ wx, Below w.heap.size w wx → Calls Try.prog 31 #[mp W H tv bv] wx fun e w' => ∃ tv' bv', e = .returned (mp W H tv' bv') ∧ Tls w' tv' tl ∧ Bds w' bv' L ∧ Below wx.heap.size wx w') := hide fun wx hx => own_any W H tv bv tl L wx (hv.kept hx) (hl.kept hx) ht hL
  have HR : Hid (∀ wx, Below w.heap.size w wx → Calls Try.prog 32 #[mp W H tv bv] wx fun e w' => e = .returned (.tuple #[.pointer none, .int .i64 1]) ∧ Below wx.heap.size wx w') := hide fun wx hx => refnew_bad W H tv bv tl L wx (hv.kept hx) hb (hl.kept hx) hc
  have HN : Hid (∀ wx tv' bv', Tls wx tv' tl → Bds wx bv' L → Calls Try.prog 26 #[mp W H tv' bv'] wx fun e w' => e = .returned (.tuple #[.pointer none, .int .i64 1]) ∧ Below wx.heap.size wx w') := hide fun wx tv' bv' h1 h2 => newp_no h1.r hb h2.r hc
  have HC : Hid (∀ wx tv' bv', Tls wx tv' tl → Bds wx bv' L → Calls Try.prog 33 #[mp W H tv' bv'] wx fun e w' => e = .returned (.int .i64 1) ∧ Below wx.heap.size wx w') := hide fun wx tv' bv' h1 h2 => by
    have := check_any W H tv' bv' tl L wx h1.r hb h2.r
    rwa [nwc_chk, hc] at this
  have hvf := hv
  have hlf := hl
  obtain ⟨a1, cap1, rfl, -⟩ := hvf
  obtain ⟨a2, cap2, rfl, -⟩ := hlf
  obtain ⟨a3, cap3, rfl, k1, k2, -⟩ := hK
  clear hv hl hc hb
  obtain ⟨m0, m1, m2, m3⟩ := M0.c
  go_enter Try.func8, Try.ntmps8
  go_wp2_with fail
  refine (HO.out _ B0).mono ?_
  rintro e w1 ⟨tv1, bv1, rfl, t1, b1, hb1⟩
  have M1 := M0.kept hb1
  have R1 := R0.kept hb1
  have B1 := bt B0 hb1
  clear hX m0 m1 m2 m3 M0 R0 B0 hb1
  have HT1 := hide t1
  have HBd1 := hide b1
  obtain ⟨_, _, rfl, -⟩ := t1.r
  obtain ⟨_, _, rfl, -⟩ := b1.r
  clear t1 b1
  go_wp2_with fail
  refine (HN.out _ _ _ HT1.out HBd1.out).mono ?_
  rintro e w2 ⟨rfl, hb2⟩
  have M2 := M1.kept hb2
  have R2 := R1.kept hb2
  have B2 := bt B1 hb2
  clear HT1 HBd1 M1 R1 B1 hb2
  obtain ⟨m0, m1, m2, m3⟩ := M2.c
  go_wp2_with fail
  refine (HR.out _ B2).mono ?_
  rintro e w3 ⟨rfl, hb3⟩
  have M3 := M2.kept hb3
  have R3 := R2.kept hb3
  have B3 := bt B2 hb3
  clear M2 R2 B2 hb3 m0 m1 m2 m3
  obtain ⟨m0, m1, m2, m3⟩ := M3.c
  go_wp2_with fail
  refine (HO.out _ B3).mono ?_
  rintro e w4 ⟨tv4, bv4, rfl, t4, b4, hb4⟩
  have R4 := R3.kept hb4
  have B4 := bt B3 hb4
  clear M3 R3 B3 hb4 m0 m1 m2 m3
  have HT4 := hide t4
  have HBd4 := hide b4
  obtain ⟨_, _, rfl, -⟩ := t4.r
  obtain ⟨_, _, rfl, -⟩ := b4.r
  clear t4 b4
  go_wp2_with fail
  refine (HC.out _ _ _ HT4.out HBd4.out).mono ?_
  rintro e w5 ⟨rfl, hb5⟩
  have R5 := R4.kept hb5
  have HB5 := hide (bt B4 hb5)
  clear HT4 HBd4 R4 B4 hb5
  have R6 := R5.set (.pointer none) (.pointer none)
  obtain ⟨c0, c1, f0, f1⟩ := R5.c
  obtain ⟨g0, g1, -, -⟩ := R6.c
  have kl : (0 : Int) ≤ (K.length : Nat) ∧ ((K.length : Nat) : Int) ≤ 9223372036854775807 := by omega
  have B6 : Below w.heap.size w ((w5.setCell ⟨w.heap.size + 1, 0, none⟩ (.pointer none)).setCell ⟨w.heap.size + 1, 1, none⟩ (.pointer none)) := (HB5.out.setCell (p := ⟨w.heap.size + 1, 0, none⟩) (by simp) _).setCell (p := ⟨w.heap.size + 1, 1, none⟩) (by simp) _
  have HE : Hid (∀ w6, (w5.setCell ⟨w.heap.size + 1, 0, none⟩ (.pointer none)).setCell ⟨w.heap.size + 1, 1, none⟩ (.pointer none) = w6 → BB w6 (w.heap.size + 1) (.pointer none) (.pointer none) ∧ Below w.heap.size w w6) := hide fun w6 e => e ▸ ⟨R6, B6⟩
  clear HO HR HN HC R5 R6 g0 g1 HB5 B6
  go_wp2_with fail
  go_loopw [6, 11] (fun s6 s11 wr => s6 = .bool true ∧ s11 = .int .i64 0 ∧ BB wr (w.heap.size + 1) (.pointer none) (.pointer none) ∧ Below w.heap.size w wr) (fun _ _ _ => 0)
  case atStart => exact ⟨rfl, rfl, HE.out _ rfl⟩
  case round =>
    obtain ⟨rfl, rfl, hR, hB⟩ := hrel
    have HB := hide hB
    obtain ⟨g0, g1, h0, h1⟩ := hR.c
    have R7 := hR.set (.pointer none) (.pointer none)
    obtain ⟨g2, g3, -, -⟩ := R7.c
    clear HE hB hR R7
    by_cases hk : (0 : Int) < (K.length : Nat)
    · go_wp2_with fail
      refine bodyPost_ret (v := .tuple #[.agg #[.pointer none, .pointer none], .bool false, .bool true]) (by simp [results, Try.results8, go_sem, g2, g3]) rfl ⟨rfl, ?_⟩
      exact (HB.out.setCell (p := ⟨w.heap.size + 1, 0, none⟩) (by simp) _).setCell (p := ⟨w.heap.size + 1, 1, none⟩) (by simp) _
    · go_wp2_with fail
      refine bodyPost_ret (v := .tuple #[.agg #[.pointer none, .pointer none], .bool false, .bool true]) (by simp [results, Try.results8, go_sem, g2, g3]) rfl ⟨rfl, ?_⟩
      exact (HB.out.setCell (p := ⟨w.heap.size + 1, 0, none⟩) (by simp) _).setCell (p := ⟨w.heap.size + 1, 1, none⟩) (by simp) _
end Go.Proofs.Ytobjadfchpgjeaa
