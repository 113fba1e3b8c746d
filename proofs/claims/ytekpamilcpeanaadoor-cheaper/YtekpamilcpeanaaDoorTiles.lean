/-
  Tiles in a slice; slices.Clone; the greatest of some bytes; which tiles may be.
-/
import Derived.Test.YtekpamilcpeanaaDoorAtW
namespace Go.Proofs.YtekpamilcpeanaaDoor
open Go.RowKit
set_option linter.unusedVariables false
/-- The slice v reads as the tiles l. -/
def Tls (w : World) (v : Value) (l : List Nat) : Prop := w.ownsRow 0 5 1 v l.length (l.map (fun n => Value.int .u8 (n : Nat)))
theorem Tls.kept {w w' : World} {v : Value} {l : List Nat} {S : Nat → Prop} (h : Tls w v l) (ht : Turns S w w') (hs : ∀ k, v.ownBlock = some k → ¬ S k) : Tls w' v l := row_kept h ht hs
theorem Tls.form {w : World} {v : Value} {l : List Nat} (h : Tls w v l) :
    ∃ a cap, v = .slice a l.length cap ∧ l.length ≤ cap ∧ cap ≤ maxLen ∧ ∀ i x, l[i]? = some x → ∃ g, a = some ⟨g, 0, none⟩ ∧ g < w.heap.size ∧ w.cell? ⟨g, i, none⟩ = some (.int .u8 (x : Nat)) := by
  rcases h.2 with ⟨e, h0⟩ | ⟨g, cap, cur, e, hb, hg, hn, hm, hs, ht⟩
  · exact ⟨none, 0, by rw [h0]; exact e, by omega, by decide, fun i t hi => by
      have := List.eq_nil_of_length_eq_zero h0; subst this; simp at hi⟩
  · refine ⟨_, cap, e, hn, hm, fun i x hi => ⟨g, rfl, (Array.getElem?_eq_some_iff.1 hg).1, ?_⟩⟩
    have := h.cells (g := g) (by rw [e]; rfl) i (.int .u8 (x : Nat)) (by simp [hi])
    simpa [Addr.add_lit] using this
/-- The slice v, wherever it begins, reads as the tiles l. -/
def TlR (w : World) (v : Value) (l : List Nat) : Prop :=
  ∃ a cap, v = .slice a l.length cap ∧ l.length ≤ cap ∧ l.length ≤ maxLen ∧ (a = none → l.length = 0 ∧ cap = 0) ∧ ∀ i x, l[i]? = some x → ∃ g o, a = some ⟨g, o, none⟩ ∧ g < w.heap.size ∧ w.cell? ⟨g, o + i, none⟩ = some (.int .u8 (x : Nat))
theorem TlR.kept {w w' : World} {v : Value} {l : List Nat} (h : TlR w v l) (hb : Below w.heap.size w w') : TlR w' v l := by
  obtain ⟨a, cap, e, h1, h2, h3, h4⟩ := h
  refine ⟨a, cap, e, h1, h2, h3, fun i x hx => ?_⟩
  obtain ⟨g, o, e1, e2, e3⟩ := h4 i x hx
  exact ⟨g, o, e1, Nat.lt_of_lt_of_le e2 hb.size, (hb.cell (p := ⟨g, o + i, none⟩) e2).trans e3⟩
theorem Tls.r {w : World} {v : Value} {l : List Nat} (h : Tls w v l) : TlR w v l := by
  have hf := h.form
  obtain ⟨a, cap, e, h1, h2, h3⟩ := hf
  refine ⟨a, cap, e, h1, Nat.le_trans h1 h2, fun ha => ?_, fun i x hx => ?_⟩
  · subst ha
    rcases h.2 with ⟨e', h0⟩ | ⟨g, cap', cur, e', _⟩
    · rw [e'] at e; injection e with _ _ hc; exact ⟨h0, hc.symm⟩
    · rw [e'] at e; injection e with h1; cases h1
  · obtain ⟨g, e1, e2, e3⟩ := h3 i x hx
    exact ⟨g, 0, e1, e2, by rw [Nat.zero_add]; exact e3⟩
/-- Building number i of the slice that begins at a. -/
def BdAtR (w : World) (a : Option Addr) (i : Nat) (t : Bd) : Prop :=
  ∃ g o, a = some ⟨g, o, none⟩ ∧ g < w.heap.size ∧ w.cell? ⟨g, o + i * 5, none⟩ = some (.int .i64 t.id) ∧ w.cell? ⟨g, o + i * 5 + 1, none⟩ = some (.int .i64 t.x) ∧ w.cell? ⟨g, o + i * 5 + 2, none⟩ = some (.int .i64 t.y) ∧ w.cell? ⟨g, o + i * 5 + 3, none⟩ = some (.int .i64 t.a) ∧ w.cell? ⟨g, o + i * 5 + 4, none⟩ = some (.int .i64 t.b)
theorem BdAtR.kept {w w' : World} {a : Option Addr} {i : Nat} {t : Bd} (h : BdAtR w a i t) (hb : Below w.heap.size w w') : BdAtR w' a i t := by
  obtain ⟨g, o, e1, e2, c0, c1, c2, c3, c4⟩ := h
  have hc := fun o => hb.cell (p := ⟨g, o, none⟩) e2
  exact ⟨g, o, e1, Nat.lt_of_lt_of_le e2 hb.size, (hc _).trans c0, (hc _).trans c1, (hc _).trans c2, (hc _).trans c3, (hc _).trans c4⟩
/-- The slice v, wherever it begins, reads as the buildings l. -/
def BdR (w : World) (v : Value) (l : List Bd) : Prop :=
  ∃ a cap, v = .slice a l.length cap ∧ l.length ≤ cap ∧ l.length ≤ maxLen ∧ (a = none → l.length = 0 ∧ cap = 0) ∧ ∀ i t, l[i]? = some t → BdAtR w a i t
theorem BdR.kept {w w' : World} {v : Value} {l : List Bd} (h : BdR w v l) (hb : Below w.heap.size w w') : BdR w' v l := by
  obtain ⟨a, cap, e, h1, h2, h3, h4⟩ := h
  exact ⟨a, cap, e, h1, h2, h3, fun i t ht => (h4 i t ht).kept hb⟩
theorem BdR.nil (w : World) : BdR w (.slice none 0 0) [] := ⟨none, 0, rfl, Nat.le_refl _, by decide, fun _ => ⟨rfl, rfl⟩, fun i t h => by simp at h⟩
theorem info5 : (Tryd.prog.info? 5).map (fun i => (i.zero, i.size, i.bytes)) = some (some (.int .u8 0), 1, 1) := by kernel_rfl
theorem one_tl {l : List Nat} : ∀ u ∈ l.map (fun n => Value.int .u8 (n : Nat)), u.oneCell' = true := by
  intro u hu
  obtain ⟨n, _, rfl⟩ := List.mem_map.1 hu
  rfl
/-- What slices.Clone tells. -/
def Cloned (w : World) (e : TypeId) (k n : Nat) (xs : List Value) (en : Ending) (w' : World) : Prop :=
  ∃ a cap, en = .returned (.slice a n cap) ∧ w'.ownsRow 0 e k (.slice a n cap) n xs ∧ Below w.heap.size w w' ∧ ∀ b, (Value.slice a n cap).ownBlock = some b → w.heap.size ≤ b
theorem cloned_end {w w1 : World} {e : TypeId} {k n : Nat} {xs : List Value} {v' : Value} (hown : w1.ownsRow 0 e k v' (0 + n) ([] ++ xs)) (hg : (w.alloc (.cells #[] e)).grownBy w1 (some w.heap.size)) (hloc : v'.ownBlock = some w.heap.size ∨ v'.ownBlock = some (w.alloc (.cells #[] e)).heap.size) : Cloned w e k n xs (.returned v') w1 := by
  have hB : Below w.heap.size w w1 := (box1 w _).grown hg (by simp) (fun j e => by cases e; exact Nat.le_refl _)
  rw [Nat.zero_add, List.nil_append] at hown
  rcases hown.2 with ⟨rfl, rfl⟩ | ⟨g, cap, cur, rfl, r⟩
  · exact ⟨none, 0, rfl, hown, hB, fun b h => by simp [Value.ownBlock] at h⟩
  · refine ⟨_, _, rfl, hown, hB, fun b h => ?_⟩
    rcases hloc with h' | h'
    · rw [h'] at h; simp at h; omega
    · rw [h'] at h; simp at h; omega
theorem eql22 (a : Addr) (n c : Nat) (w : World) : (binOp .eql 32 (.slice (some a) n c) (.slice none 0 0)).run Tryd.prog w = .ok (.bool false) w := by kernel_rfl
theorem eql22' (w : World) : (binOp .eql 32 (.slice none 0 0) (.slice none 0 0)).run Tryd.prog w = .ok (.bool true) w := by kernel_rfl
set_option maxHeartbeats 1000000 in
theorem clone22 (l : List Nat) (v : Value) (w : World) (hv : TlR w v l) (hl : l.length ≤ 16384) :
    Calls Tryd.prog 40 #[v] w (Cloned w 5 1 l.length (l.map (fun n => Value.int .u8 (n : Nat)))) := by
  obtain ⟨fi, hf, hz, h1, h2⟩ := info_parts info5
  have q1 := eql22
  have q2 := eql22'
  obtain ⟨a, cap, rfl, hn, hm, ha, hat⟩ := hv
  cases a with
  | none =>
    obtain ⟨h0, rfl⟩ := ha rfl
    have hE : Cloned w 5 1 l.length (l.map (fun n => Value.int .u8 (n : Nat))) (.returned (.slice none 0 0)) w := by
      obtain rfl := List.eq_nil_of_length_eq_zero h0
      exact ⟨none, 0, rfl, World.ownsRow_nil _ _ _ _, Below.refl _ _, fun b h => by simp [Value.ownBlock] at h⟩
    rw [h0] at hE ⊢
    have HE := hide hE
    clear hE h0 ha hat hn hm
    go_enter Tryd.func40, Tryd.ntmps40
    go_wp2_with fail
    go_ret
    exact HE.out
  | some ad =>
    have hcells : ∀ j u, (l.map (fun n => Value.int .u8 (n : Nat)))[j]? = some u → (w.alloc (.cells #[] 5)).cell? (ad.add j) = some u := fun j u hu => by
      rw [List.getElem?_map] at hu
      cases hx : l[j]? with
      | none => rw [hx] at hu; cases hu
      | some x =>
        rw [hx] at hu
        cases hu
        obtain ⟨g, o, e1, e2, e3⟩ := hat j x hx
        cases e1
        rw [Addr.add_lit]
        exact ((box1 w _).cell (p := ⟨g, o + j, none⟩) e2).trans e3
    have hm1 : 0 + l.length ≤ maxLen := by unfold maxLen; omega
    have hm2 : (0 + l.length) * 1 ≤ 140737488355328 := by omega
    have hbase : (w.alloc (.cells #[] 5)).ownsRow 0 5 1 (.slice (some ⟨w.heap.size, 0, none⟩) 0 0) 0 [] := World.ownsRow_made w #[] 0 (Nat.zero_le _) (by decide) rfl
    have HB := hide hbase
    have HC := hide hcells
    obtain ⟨n, hnn⟩ : ∃ n, n = l.length := ⟨_, rfl⟩
    have hln : (l.map (fun n => Value.int .u8 (n : Nat))).length = l.length * 1 := by simp
    clear hbase hcells ha hat hn hm
    go_enter Tryd.func40, Tryd.ntmps40
    go_wp2_with (at_builtin; refine wpList_append_own_at _ rfl _ _ 32 rfl 0 5 fi (.int .u8 0) 1 1 Tryd.underlying32 hf hz h1 h2 rfl (by decide) (.slice (some ⟨w.heap.size, 0, none⟩) 0 0) 0 [] rfl HB.out ad l.length cap (l.map (fun n => Value.int .u8 (n : Nat))) rfl hln HC.out one_tl hm1 hm2 (Nat.zero_le _) ?_; intro v' w1 hown' hgrow hnil hloc; have HE := hide (cloned_end hown' hgrow hloc); clear hown' hgrow hnil hloc)
    go_ret
    exact HE.out
def mx (l : List Nat) : Nat := l.foldl max 0
theorem mx_snoc (l : List Nat) (x : Nat) : mx (l ++ [x]) = max (mx l) x := by simp [mx]
theorem mx_lt {l : List Nat} {k : Nat} (hk : 0 < k) : mx l < k ↔ ∀ x ∈ l, x < k := by
  suffices h : ∀ (l : List Nat) (a : Nat), l.foldl max a < k ↔ a < k ∧ ∀ x ∈ l, x < k by
    unfold mx; rw [h]; exact ⟨fun h => h.2, fun h => ⟨hk, h⟩⟩
  intro l
  induction l with
  | nil => intro a; simp
  | cons x r ih => intro a; rw [List.foldl_cons, ih, Nat.max_lt]; simp only [List.mem_cons, forall_eq_or_imp]; exact and_assoc
theorem mx_le {l : List Nat} (h : ∀ x ∈ l, x < 256) : mx l < 256 := (mx_lt (by omega)).2 h
set_option maxRecDepth 100000 in
set_option maxHeartbeats 1000000 in
theorem max_any (l : List Nat) (v : Value) (w : World) (hv : TlR w v l) (hl : l.length ≤ 16384) (hp : 0 < l.length) (hb : ∀ x ∈ l, x < 256) :
    Calls Tryd.prog 59 #[v] w fun e w' => e = .returned (.int .u8 (mx l : Nat)) ∧ w' = w := by
  obtain ⟨a, cap, rfl, hcap, hmax, -, hat⟩ := hv
  obtain ⟨x0, hx0⟩ : ∃ x, l[0]? = some x := ⟨_, List.getElem?_eq_getElem hp⟩
  obtain ⟨g, o, rfl, hg, c0⟩ := hat 0 x0 hx0
  rw [Nat.add_zero] at c0
  have hlen : (0 : Int) < (l.length : Nat) ∧ ((l.length : Nat) : Int) ≤ 16384 := by omega
  have hone : mx (l.take 1) = x0 := by
    cases l with
    | nil => simp at hp
    | cons y r => simp at hx0; subst hx0; simp [mx]
  have hx256 : x0 < 256 := hb x0 (List.mem_of_getElem? hx0)
  go_enter Tryd.func59, Tryd.ntmps59
  go_wp2_with fail
  go_loopw [3, 4] (fun p q wr => ∃ k : Nat, 1 ≤ k ∧ k ≤ l.length ∧ q = .int .i64 k ∧ p = .int .u8 (mx (l.take k) : Nat) ∧ wr = w) (fun p q _ => l.length - (intOf q).toNat)
  case atStart => exact ⟨1, Nat.le_refl _, hp, rfl, by rw [hone], rfl⟩
  case round =>
    obtain ⟨k, hk1, hk2, rfl, rfl, rfl⟩ := hrel
    by_cases hlt : k < l.length
    · obtain ⟨x, hx⟩ : ∃ x, l[k]? = some x := ⟨_, List.getElem?_eq_getElem hlt⟩
      obtain ⟨g', o', hge, _, ck⟩ := hat k x hx
      have hgg : g' = g ∧ o' = o := by injection hge with h; injection h with h h'; exact ⟨h.symm, h'.symm⟩
      obtain ⟨rfl, rfl⟩ := hgg
      have hm := mx_le (l := l.take k) (fun y hy => hb y (List.mem_of_mem_take hy))
      have hx2 := hb x (List.mem_of_getElem? hx)
      have hstep : mx (l.take (k + 1)) = max (mx (l.take k)) x := by
        rw [List.take_add_one, hx]; exact mx_snoc _ _
      have Hs := hide hstep
      obtain ⟨m, hmm⟩ : ∃ m, mx (l.take k) = m := ⟨_, rfl⟩
      rw [hmm] at hm Hs ⊢
      clear hstep hat hmm hx hb hge
      have hki : (k : Int) < (l.length : Nat) := by omega
      by_cases hc : m < x
      · have hc' : (m : Int) < (x : Int) := by omega
        go_wp2_with fail
        go_roundw
        case rel => exact ⟨k + 1, by omega, by omega, by go_num, by rw [Hs.out, Nat.max_eq_right (by omega)], trivial⟩
        case measure => simp [intOf]; omega
      · have hc' : ¬ (m : Int) < (x : Int) := by omega
        go_wp2_with fail
        go_roundw
        case rel => exact ⟨k + 1, by omega, by omega, by go_num, by rw [Hs.out, Nat.max_eq_left (by omega)], trivial⟩
        case measure => simp [intOf]; omega
    · have hke : k = l.length := by omega
      subst hke
      rw [List.take_length]
      go_wp2_with fail
      go_ret
      exact ⟨rfl, rfl⟩
end Go.Proofs.YtekpamilcpeanaaDoor
