/-
  What was written stands there: what a reader tells of it. No function of the program is run in this text.
-/
import Derived.Test.YtaioniegggfcjaaWritesWalk
import Derived.Test.YtaioniegggfcjaaReads4
namespace Go.Proofs.Ytaioniegggfcjaa
open Go.RowKit
set_option linter.unusedVariables false
theorem rest_at {T r : List Nat} {P : Nat} (h : T.drop P = r) : restOf T P 0 = r := by rw [← h]; simp [restOf]
theorem back_uv {T r : List Nat} {P n : Nat} (h : T.drop P = enc n ++ r) (hn : n < 18446744073709551616) : numN (restOf T P 0) = n ∧ stand T P 0 = P + (enc n).length ∧ bad T P 0 = 0 := by
  have hd := dec_enc n 0 r (by omega) (by simpa using hn) (fun h => absurd h (by omega))
  have hs := num_some hd
  have hp := enc_pos n
  unfold stand bad
  rw [rest_at h, hs.1, hs.2]
  exact ⟨rfl, rfl, if_neg (by omega)⟩
theorem back_fix {T r : List Nat} {P m n : Nat} (h : T.drop P = le m n ++ r) (hn : n < 256 ^ m) : fixN T P 0 m = n ∧ fixK T P 0 m = P + m ∧ fixE T P 0 m = 0 := by
  have hl := le_length m n
  have hlen : ¬ (le m n ++ r).length < m := by rw [List.length_append, hl]; omega
  unfold fixN fixK fixE
  rw [rest_at h, if_neg hlen, if_neg hlen, if_neg hlen]
  refine ⟨?_, rfl, rfl⟩
  rw [List.take_append_of_le_length (by omega), List.take_of_length_le (by omega), unle_le m n hn]
theorem back_by {T r b : List Nat} {P : Nat} (h : T.drop P = enc b.length ++ b ++ r) (hb : b.length < 18446744073709551616) :
    byL T P 0 (b.length : Int) = b ∧ byK T P 0 (b.length : Int) = P + (enc b.length ++ b).length ∧ byE T P 0 (b.length : Int) = 0 := by
  have hd := dec_enc b.length 0 (b ++ r) (by omega) (by simpa using hb) (fun h => absurd h (by omega))
  rw [← List.append_assoc] at hd
  have hc : cnt (restOf T P 0) (b.length : Int) = (b.length, (enc b.length).length, 0) := by
    rw [rest_at h, cnt_some _ hd, if_neg (by omega)]
  have hw : byW T P 0 (b.length : Int) = 0 := by
    unfold byW
    rw [hc, rest_at h, if_neg]
    simp only [List.length_append]
    omega
  unfold byL byK byE
  rw [hw, hc, rest_at h, if_pos rfl, if_pos rfl, if_pos rfl]
  refine ⟨?_, by rw [List.length_append], rfl⟩
  simp only [List.append_assoc, List.drop_left, List.take_left]
theorem ibs_append (A B : List It) : ibs (A ++ B) = ibs A ++ ibs B := by
  induction A with
  | nil => rfl
  | cons x A ih => simp only [List.cons_append, ibs, ih, List.append_assoc]
/-- Where item number k stands. -/
theorem ibs_at (L : List It) (k : Nat) (t : It) (h : L[k]? = some t) : (ibs L).drop (ibs (L.take k)).length = ib t.d t.n t.b ++ ibs (L.drop (k + 1)) ∧ (ibs (L.take (k + 1))).length = (ibs (L.take k)).length + (ib t.d t.n t.b).length := by
  have e := (tot_part L k t h).2
  have e2 : ibs L = ibs (L.take k) ++ (ib t.d t.n t.b ++ ibs (L.drop (k + 1))) := by
    conv => lhs; rw [← List.take_append_drop (k + 1) L]
    rw [ibs_append, e, ibs_snoc, List.append_assoc]
  constructor
  · conv => lhs; rw [e2]
    rw [List.drop_left]
  · rw [e, ibs_snoc, List.length_append]
/-- The item's own variable, and the reader. -/
def BInv (w wx : World) (g gb : Nat) (T : List Nat) (P : Nat) (d z : Int) (sv : Value) : Prop :=
  (wx.cell? ⟨gb, 0, none⟩ = some (.int .i64 d) ∧ wx.cell? ⟨gb, 1, none⟩ = some (.int .u64 z) ∧ wx.cell? ⟨gb, 2, none⟩ = some sv) ∧ Rd wx g T P 0 ∧ Below w.heap.size w wx ∧ gb ≠ g ∧ w.heap.size ≤ g
theorem BInv.same {w wx wy : World} {g gb : Nat} {T : List Nat} {P : Nat} {d z : Int} {sv : Value} (h : BInv w wx g gb T P d z sv) (s : Same wx wy) : BInv w wy g gb T P d z sv := by
  obtain ⟨⟨h1, h2, h3⟩, h4, h5, h6, h7⟩ := h
  exact ⟨⟨by rw [s.cell]; exact h1, by rw [s.cell]; exact h2, by rw [s.cell]; exact h3⟩, h4.same s, h5.trans (s.below _), h6, h7⟩
theorem BInv.turned {w wx wy : World} {g gb : Nat} {T : List Nat} {P P' : Nat} {d z : Int} {sv : Value} (h : BInv w wx g gb T P d z sv) (hg : wx.grownBy wy (some g)) (hr : Rd wy g T P' 0) : BInv w wy g gb T P' d z sv := by
  obtain ⟨⟨h1, h2, h3⟩, h4, h5, h6, h7⟩ := h
  have hne : some gb ≠ some g := by simp; exact h6
  exact ⟨⟨hg.cell h1 hne, hg.cell h2 hne, hg.cell h3 hne⟩, hr, h5.trans (grown_below hg h5.size (fun k hk => by cases hk; exact h7)), h6, h7⟩
theorem bsame_drew (w : World) : Same w w.drew := ⟨rfl, rfl, rfl, rfl⟩
end Go.Proofs.Ytaioniegggfcjaa
