/-
  Edges go both ways, at one cost, and lead to nodes. What Nodes hands back goes through: all nodes, row by row. New of nobody's world, or for no shape. Which maps are light. How long the lists may be. phalanxlaw13.AbstractBoth, walked. Arguments that are shapes, opened. Proved: phalanxlaw13.AbstractBoth returns true for every map and every shape, and leaves them as they were. Conditions: none but the row's own: the packages' variables offsets and grounds hold what their initialisers lay (the card ties them).
-/
import Derived.Test.YthiafmlgialbnaaGreatDoorGnew
import Derived.Test.YthiafmlgialbnaaGreatDoorPc
import Derived.Test.YthiafmlgialbnaaGreatDoorAwk
import Derived.Test.YthiafmlgialbnaaGreatDoorPrt
import Derived.Test.YthiafmlgialbnaaGreatDoorRowS
import Derived.Test.YthiafmlgialbnaaGreatDoorLaid
import Derived.Test.YthiafmlgialbnaaGreatDoorCards
import Derived.Test.YthiafmlgialbnaaGreatDoorTie
set_option linter.unusedSimpArgs false
namespace Go.Proofs.YthiafmlgialbnaaGreatDoor
open Go.RowKit Go.Shelf
set_option linter.unusedVariables false
section
variable {S : Int → Int → Bool} {W H kx ky : Int}
theorem Q4.swap_swap (t : Q4) : t.swap.swap = t := by cases t; rfl
theorem acL_swap (hW : 1 ≤ W ∧ W ≤ 128) (hH : 1 ≤ H ∧ H ≤ 128) (hS : ∀ u v, S u v = true → (0 ≤ u ∧ u < W) ∧ 0 ≤ v ∧ v < H) {t : Q4} (ht : t ∈ acL S W H kx ky) : t.swap ∈ acL S W H (t.a / 8) (t.b / 8) := by
  obtain ⟨d, hd, ht⟩ := mem_acL.1 ht
  obtain ⟨-, -, ⟨h1, h2⟩, -, -⟩ := prtL_mem hW hH hS hd ht
  rw [h1, h2]
  match d, hd with
  | 0, _ =>
    refine mem_acL.2 ⟨2, by omega, List.mem_map.2 ⟨t, ?_, rfl⟩⟩
    rw [show kx + dX 0 - 1 = kx by simp [dX], show ky + dY 0 = ky by simp [dY]]
    exact ht
  | 1, _ =>
    refine mem_acL.2 ⟨3, by omega, List.mem_map.2 ⟨t, ?_, rfl⟩⟩
    rw [show kx + dX 1 = kx by simp [dX], show ky + dY 1 - 1 = ky by simp [dY]]
    exact ht
  | 2, _ =>
    obtain ⟨u, hu, rfl⟩ := List.mem_map.1 ht
    refine mem_acL.2 ⟨0, by omega, ?_⟩
    rw [Q4.swap_swap, show kx + dX 2 = kx - 1 by simp [dX]; omega, show ky + dY 2 = ky by simp [dY]]
    exact hu
  | 3, _ =>
    obtain ⟨u, hu, rfl⟩ := List.mem_map.1 ht
    refine mem_acL.2 ⟨1, by omega, ?_⟩
    rw [Q4.swap_swap, show kx + dX 3 = kx by simp [dX], show ky + dY 3 = ky - 1 by simp [dY]; omega]
    exact hu
end
section
variable {W H : Int} {tl : List Nat} {f : Int → Int → Option Int} {c s : Int}
theorem Least.flip {ix iy iw ih : Int} {a b : Int × Int} {n : Nat} (ha : Std W H tl f c s ix iy iw ih a) (h : Least (stepR W H tl f c s ix iy iw ih) a b n) : Std W H tl f c s ix iy iw ih b ∧ Least (stepR W H tl f c s ix iy iw ih) b a n := by
  have hb := (h.1.toS ha).2
  exact ⟨hb, h.1.back ha, fun m hm => h.2 m (hm.back hb)⟩
theorem Wk.ten {ix iy iw ih : Int} {a b : Int × Int} {n : Nat} (h : Wk (stepR W H tl f c s ix iy iw ih) a b n) (hne : b ≠ a) : 10 ≤ n := by
  cases h using Wk.cs with
  | nil => exact absurd rfl hne
  | snoc _ hs => have := stepR_ten hs; omega
/-- An edge leads to a node, and back. -/
theorem Ed.back (hW : 1 ≤ W ∧ W ≤ 128) (hH : 1 ≤ H ∧ H ≤ 128) (hS : ∀ u v, stB W H tl f c s u v = true → (0 ≤ u ∧ u < W) ∧ 0 ≤ v ∧ v < H) {q : Int × Int} {e : E3} (hq : Nd (stB W H tl f c s) W H (clu q).1 (clu q).2 q) (h : Ed W H tl f c s (clu q).1 (clu q).2 q e) :
    Nd (stB W H tl f c s) W H (clu e.to).1 (clu e.to).2 e.to ∧ Ed W H tl f c s (clu e.to).1 (clu e.to).2 e.to ⟨q.1, q.2, e.c⟩ ∧ 10 ≤ e.c := by
  rcases h with ⟨t, ht, rfl, rfl⟩ | ⟨h1, h2, n, h3, h4, h5⟩
  · have h9 := acL_swap hW hH hS ht
    exact ⟨⟨t.swap, h9, rfl⟩, .inl ⟨t.swap, h9, rfl, rfl⟩, Int.le_refl _⟩
  · have h9 := (h1.in hW hH hS).1
    have e1 : clu e.to = clu q := Prod.ext h9.1 h9.2
    obtain ⟨k1, k2⟩ := h5.flip h4
    rw [e1]
    refine ⟨h1, .inr ⟨hq, fun z => h2 z.symm, n, h3, k1, k2⟩, ?_⟩
    have := h5.1.ten h2
    rw [h3]; omega
variable {LW : Int × Int → List (Int × Int)} {KE : List (Int × Int)} {LE : Int × Int → List E3}
theorem GD.back (hW : 1 ≤ W ∧ W ≤ 128) (hH : 1 ≤ H ∧ H ≤ 128) (hS : ∀ u v, stB W H tl f c s u v = true → (0 ≤ u ∧ u < W) ∧ 0 ≤ v ∧ v < H) (h : GD W H tl f c s (fun k => rB W H k.1 k.2 = true) LW KE LE) {q : Int × Int} (hq : q ∈ KE) {e : E3} (he : e ∈ LE q) : e.to ∈ KE ∧ ⟨q.1, q.2, e.c⟩ ∈ LE e.to ∧ 10 ≤ e.c := by
  have hin : ∀ q : Int × Int, ((0 ≤ q.1 ∧ q.1 < W) ∧ 0 ≤ q.2 ∧ q.2 < H) → rB W H (clu q).1 (clu q).2 = true := fun q hq => (rB_iff hW hH).2 (by simp only [clu]; omega)
  have h1 := (h.fc q).1 hq
  have hD := hin q (h.fb _ q h1).2
  have hN := ((h.fa _ hD).2 q).1 h1
  have hE := ((h.fd q hD hq).2 e).1 he
  obtain ⟨k1, k2, k3⟩ := hE.back hW hH hS hN
  have hD2 := hin e.to (hS _ _ (k1.in hW hH hS).2)
  have hK : e.to ∈ KE := (h.fc e.to).2 (((h.fa _ hD2).2 e.to).2 k1)
  exact ⟨hK, ((h.fd e.to hD2 hK).2 _).2 k2, k3⟩
end
end Go.Proofs.YthiafmlgialbnaaGreatDoor
set_option linter.unusedSimpArgs false
namespace Go.Proofs.YthiafmlgialbnaaGreatDoor
open Go.RowKit Go.Shelf
set_option linter.unusedVariables false
attribute [local go_sem] Oper.semAt_some
theorem nod_len : ∀ (n : Nat) (l : List Nat), l.Nodup → (∀ x ∈ l, x < n) → l.length ≤ n
  | 0, l, _, h => by
    cases l with
    | nil => exact Nat.le_refl _
    | cons a l => exact absurd (h a (List.mem_cons_self ..)) (Nat.not_lt_zero _)
  | n + 1, l, hn, h => by
    have h1 := nod_len n (l.erase n) (hn.erase n) (fun x hx => by
      have h2 := hn.mem_erase_iff.1 hx
      have := h x h2.2
      have := h2.1
      omega)
    have h3 := List.length_erase (a := n) (l := l)
    split at h3 <;> omega
theorem GD.klen {W H : Int} {tl : List Nat} {f : Int → Int → Option Int} {c s : Int} {D : Int × Int → Prop} {LW : Int × Int → List (Int × Int)} {KE : List (Int × Int)} {LE : Int × Int → List E3} (hW : 1 ≤ W ∧ W ≤ 128) (hH : 1 ≤ H ∧ H ≤ 128) (h : GD W H tl f c s D LW KE LE) (hn : KE.Nodup) : KE.length ≤ 16384 := by
  have hin : ∀ q ∈ KE, (0 ≤ q.1 ∧ q.1 < W) ∧ 0 ≤ q.2 ∧ q.2 < H := fun q hq => (h.fb _ q ((h.fc q).1 hq)).2
  have h1 := nod_len 16384 (KE.map (fun q => (q.2 * 128 + q.1).toNat)) (List.pairwise_map.2 (List.Pairwise.imp_of_mem (fun {a b} ha hb hne e => hne (by
    have h2 := hin a ha
    have h3 := hin b hb
    exact Prod.ext (by omega) (by omega))) hn)) (fun x hx => by
    obtain ⟨q, hq, rfl⟩ := List.mem_map.1 hx
    have := hin q hq
    omega)
  rwa [List.length_map] at h1
theorem Rw.keep {α : Type} {t k : Nat} {cs : α → List Value} {w w' : World} {v : Value} {l : List α} {B : Nat} (h : Rw t k cs w v l) (hk : Keep B w w') (hs : ∀ g, v.ownBlock = some g → B ≤ g) : Rw t k cs w' v l := by
  rcases h with ⟨h0, h1 | ⟨g, cap, cur, e, hle, hg, rest⟩⟩
  · exact ⟨h0, .inl h1⟩
  · exact ⟨h0, .inr ⟨g, cap, cur, e, hle, hk.at (hs g (by rw [e]; rfl)) hg, rest⟩⟩
theorem cels_of : ∀ (L : List (Int × Int)), (∀ q ∈ L, W64 q.1 ∧ W64 q.2) → ∃ Lc : List Cel, Lc.map (·.1) = L
  | [], _ => ⟨[], rfl⟩
  | q :: L, h => by
    obtain ⟨M, hM⟩ := cels_of L (fun q hq => h q (List.mem_cons_of_mem _ hq))
    exact ⟨⟨q, h q (List.mem_cons_self ..)⟩ :: M, by rw [List.map_cons, hM]⟩
/-- How far the walk through the nodes is. -/
structure NdI (J : List Cel → World → Prop) (B : Nat) (wr : World) (v : Value) (L : List (Int × Int)) (Lc : List Cel) (i : Nat) : Prop where
  r : RC wr v L
  j : J (Lc.take i) wr
  z : B ≤ wr.heap.size
set_option maxRecDepth 100000 in
set_option maxHeartbeats 4000000 in
theorem nodes_seq (n B : Nat) {w : World} {gp p : Nat} {c s ep : Int} {wb eb : Nat} {KE : List (Int × Int)} {FE : Int → Int → Value} (hB : Boxed w B 34 (ptr gp)) (hg : Gp w gp p c s ep wb eb) (hm : MapS nilS w eb KE FE) (N : Nat) (hN : KE.length ≤ N) (hN2 : N ≤ 100000) :
    SeqOwn n 42 #[ptr B] encC (fun _ _ => True) (fun xs => ∃ L, UpC L ∧ L.Perm KE ∧ xs.map (·.1) = L) (fun pre => ∃ L, UpC L ∧ L.Perm KE ∧ pre.map (·.1) <+: L) N w := fun l J Jx W hW hJ hJx hY h0 => by
  refine callsIn_of_wp Tryz.func42 rfl trivial ?_ rfl
  simp only [Tryz.ntmps42, List.size_toArray, List.length_cons, List.length_nil, Nat.reduceAdd, Nat.reduceSub, Array.replicate_succ, Array.replicate_zero, List.push_toArray, List.append_toArray, List.nil_append, List.cons_append]
  have cB := (boxed_upto hB hW hB.lt).cell
  have gW := hg.upto hW
  have HM := hide (gmade_yes gW)
  have c5 := gW.c5
  have HIo := hide (inord43 (hm.upto hW) (Nat.le_trans hN hN2))
  have h64 := hm.w64
  have hnd := hm.nodup
  have HK := hide (And.intro h64 hnd)
  have HY := hide hY
  have HJ := hide (And.intro hJ (And.intro hJx h0))
  clear hB hg hm gW hY hJ hJx h0 h64 hnd
  gi_wp2_with fail
  refine ⟨trivial, fun h => (by cases h), ?_⟩
  refine (callsIn_wide.2 HM.out).mono ?_
  rintro e w1 ⟨rfl, hw1⟩
  have hw1' := hw1.symm
  subst hw1'
  clear hw1
  gi_wp2_with fail
  refine ⟨trivial, fun h => (by cases h), ?_⟩
  refine (callsIn_wide.2 HIo.out).mono ?_
  rintro e w2 ⟨lv, L, rfl, hpm, hst, hR, hown, hb2⟩
  obtain ⟨la, lc, hlv⟩ := slice_C hR
  subst hlv
  have hUp : UpC L := upC_of hst (hpm.nodup_iff.2 HK.out.2)
  obtain ⟨Lc, hLc⟩ := cels_of L (fun q hq => HK.out.1 q (hpm.mem_iff.1 hq))
  have hLl : Lc.length = L.length := by rw [← hLc, List.length_map]
  have hLN : L.length ≤ N := by rw [hpm.length_eq]; exact hN
  have I0 : NdI J W.heap.size w2 (.slice la L.length lc) L Lc 0 := ⟨hR, by rw [List.take_zero]; exact own_below HJ.out.1 HJ.out.2.2 hb2, hb2.size⟩
  have HI0 := hide I0
  have HU := hide (And.intro hUp (And.intro hpm (And.intro hLc hLl)))
  have HO := hide hown
  have HN := hide hLN
  clear I0 hR hown hb2 hUp hpm hst hLc hLl cB c5 HIo HM HK hLN
  gi_wp2_with fail
  have hN3 : L.length ≤ 100000 := Nat.le_trans HN.out hN2
  gi_loopw [14] (fun v wr => ∃ i : Nat, v = .int .i64 (i : Nat) ∧ i ≤ L.length ∧ NdI J W.heap.size wr (.slice la L.length lc) L Lc i) (fun v _ => L.length - (intOf v).toNat)
  case atStart => exact ⟨0, rfl, Nat.zero_le _, HI0.out⟩
  case round =>
    obtain ⟨i, rfl, hi, hR, hj, hz⟩ := hrel
    rename World => wr
    by_cases hlt : i < L.length
    · obtain ⟨x, hx⟩ : ∃ x, Lc[i]? = some x := ⟨_, List.getElem?_eq_getElem (by rw [HU.out.2.2.2]; exact hlt)⟩
      obtain ⟨⟨qx, qy⟩, hq64⟩ := x
      have hLi : L[i]? = some (qx, qy) := by rw [← HU.out.2.2.1, List.getElem?_map, hx]; rfl
      obtain ⟨gn, rfl, hgn, n0, n1⟩ := RC_at hR hLi
      obtain ⟨Y, hY⟩ : ∃ Y, wr.alloc (.cells #[.int .i64 qx, .int .i64 qy] 47) = Y := ⟨_, rfl⟩
      have bY : Below wr.heap.size wr Y := hY ▸ box1 _ _
      have TY : Two Y wr.heap.size qx qy := by rw [← hY]; exact Two.newAt rfl
      have RY := hR.upto bY
      have hjY := own_below HJ.out.1 hj bY
      have hltk : (Lc.take i).length < N := by rw [List.length_take]; have := HN.out; omega
      obtain ⟨fn, tmps, asg, bd, hyd, hRd⟩ := HY.out (Lc.take i) ⟨(qx, qy), hq64⟩ Y hjY hltk
      dsimp only [encC] at hyd
      have HRd := hide hRd
      have hzY := Nat.le_trans hz bY.size
      have HRY := hide (And.intro RY hzY)
      have htk : Lc.take i ++ [⟨(qx, qy), hq64⟩] = Lc.take (i + 1) := by rw [List.take_add_one, hx]; rfl
      have HT := hide htk
      obtain ⟨⟨f0, f1⟩, -, -⟩ := id TY
      have HY2 := hide hY
      have hki : (i : Int) < (L.length : Nat) := by omega
      simp only at n0 n1
      clear hR hj hz bY TY RY hjY hltk hRd hx hLi hgn hzY htk hY
      gi_wp2_with (rw [HY2.out])
      refine ⟨fun h => (by cases h), ?_⟩
      refine HRd.out.mono ?_
      rintro e W7 ⟨hk7, (⟨rfl, hJ7, -⟩ | ⟨rfl, hJx7⟩)⟩
      · rw [HT.out] at hJ7
        have HF : Hid (NdI J W.heap.size W7 (.slice (some ⟨gn, 0, none⟩) L.length lc) L Lc (i + 1)) := hide ⟨HRY.out.1.keep hk7 HO.out, hJ7, Nat.le_trans HRY.out.2 hk7.1⟩
        clear hJ7 hk7 hyd
        gi_wp2_with fail
        go_roundw
        case rel => exact ⟨i + 1, by go_num, by omega, HF.out⟩
        case measure => simp only [intOf]; omega
      · rw [HT.out] at hJx7
        have HJx := hide hJx7
        clear hJx7 hk7 hyd
        gi_wp2_with fail
        refine bodyPost_ret (results_none rfl _ _ _) rfl ?_
        refine ⟨⟨_, rfl⟩, .inr ⟨_, ⟨L, HU.out.1, HU.out.2.1, ?_⟩, HJx.out⟩⟩
        rw [← HU.out.2.2.1]
        exact (List.take_prefix (i + 1) Lc).map _
    · have hi' : i = L.length := by omega
      subst hi'
      rw [← HU.out.2.2.2, List.take_length] at hj
      have HF := hide hj
      clear hR hj hz
      gi_wp2_with fail
      go_end0
      exact ⟨⟨_, rfl⟩, .inl ⟨_, ⟨L, HU.out.1, HU.out.2.1, HU.out.2.2.1⟩, HF.out⟩⟩
end Go.Proofs.YthiafmlgialbnaaGreatDoor
set_option linter.unusedSimpArgs false
namespace Go.Proofs.YthiafmlgialbnaaGreatDoor
open Go.RowKit Go.Shelf
set_option linter.unusedVariables false
attribute [local go_sem] Oper.semAt_some
theorem GD.elen {W H : Int} {tl : List Nat} {f : Int → Int → Option Int} {c s : Int} {LW : Int × Int → List (Int × Int)} {KE : List (Int × Int)} {LE : Int × Int → List E3} (hW : 1 ≤ W ∧ W ≤ 128) (hH : 1 ≤ H ∧ H ≤ 128) (hS : ∀ u v, stB W H tl f c s u v = true → (0 ≤ u ∧ u < W) ∧ 0 ≤ v ∧ v < H) (h : GD W H tl f c s (fun k => rB W H k.1 k.2 = true) LW KE LE) (q : Int × Int) : (LE q).length ≤ 16384 := by
  by_cases hq : q ∈ KE
  · have hD : rB W H (clu q).1 (clu q).2 = true := in_rB hW hH (h.fb _ q ((h.fc q).1 hq)).2
    obtain ⟨hU, hm⟩ := h.fd q hD hq
    have hin : ∀ e ∈ LE q, (0 ≤ e.to.1 ∧ e.to.1 < W) ∧ 0 ≤ e.to.2 ∧ e.to.2 < H := fun e he => by
      have := (h.back hW hH hS hq he).1
      exact (h.fb _ e.to ((h.fc e.to).1 this)).2
    have h1 := nod_len 16384 ((LE q).map (fun e => (e.to.2 * 128 + e.to.1).toNat)) (List.pairwise_map.2 (List.Pairwise.imp_of_mem (fun {a b} ha hb hlt e => by
      have h2 := hin a ha
      have h3 := hin b hb
      have h4 : a.to = b.to := Prod.ext (by omega) (by omega)
      rw [h4] at hlt
      exact clt_irrefl _ hlt) hU)) (fun x hx => by
      obtain ⟨e, he, rfl⟩ := List.mem_map.1 hx
      have := hin e he
      omega)
    rwa [List.length_map] at h1
  · rw [h.fe q hq]; exact Nat.zero_le _
theorem RE_at {w : World} {a : Option Addr} {m c : Nat} {L : List E3} (h : RE w (.slice a m c) L) {i : Nat} {q : E3} (hi : L[i]? = some q) :
    ∃ g, a = some ⟨g, 0, none⟩ ∧ g < w.heap.size ∧ w.cell? ⟨g, i * 3, none⟩ = some (.int .i64 q.x) ∧ w.cell? ⟨g, i * 3 + 1, none⟩ = some (.int .i64 q.y) ∧ w.cell? ⟨g, i * 3 + 2, none⟩ = some (.int .i64 q.c) := by
  obtain ⟨a', cap, e, hle, hc⟩ := Rw.form E_len h
  obtain ⟨g, rfl, hg, hcell⟩ := hc i q hi
  cases e
  exact ⟨g, rfl, hg, hcell 0 _ rfl, hcell 1 _ rfl, hcell 2 _ rfl⟩
set_option maxHeartbeats 1000000 in
theorem light_is (W H : Int) (tv bv : Value) (w : World) (hW : 0 ≤ W ∧ W ≤ 128) (hH : 0 ≤ H ∧ H ≤ 128) : Calls Tryz.prog 9 #[mp W H tv bv] w fun e w' => e = .returned (.bool (decide (W * H ≤ 1000))) ∧ Below w.heap.size w w' := by
  have MX := MB.new w W H tv bv
  have B0 : Below w.heap.size w (w.alloc (.cells #[.int .i64 W, .int .i64 H, tv, bv] 25)) := box1 _ _
  obtain ⟨X, hX⟩ : ∃ X, w.alloc (.cells #[.int .i64 W, .int .i64 H, tv, bv] 25) = X := ⟨_, rfl⟩
  rw [hX] at MX B0
  obtain ⟨m0, m1, -, -⟩ := MX.c
  have h1 : W * H ≤ 128 * 128 := Int.mul_le_mul hW.2 hH.2 hH.1 (by omega)
  have h2 : 0 ≤ W * H := Int.mul_nonneg hW.1 hH.1
  have hw : ∀ wx, (binOp .mul 3 (.int .i64 W) (.int .i64 H)).run Tryz.prog wx = .ok (.int .i64 (W * H)) wx := fun wx => by
    go_simp
    exact wrap_id (by omega) (by omega)
  have HX := hide hX
  have HB := hide B0
  clear MX B0 hX
  go_enter Tryz.func9, Tryz.ntmps9
  go_wp2_with (rw [HX.out])
  go_ret
  exact ⟨rfl, HB.out⟩
set_option maxHeartbeats 1000000 in
theorem gnew_bad {w : World} {v : Value} {a b : Int} {c s : Int} (hno : (may 0 0 a b && shB c s) = false) (hv : ∀ wx, Below w.heap.size w wx → Calls Tryz.prog 26 #[v] wx fun e w' => e = .returned (rct 0 0 a b) ∧ Below wx.heap.size wx w') (hp : ∃ o, v = .pointer o) :
    Calls Tryz.prog 10 #[v, shv c s] w fun e w' => e = .returned (.tuple #[.pointer none, .int .i64 1]) ∧ Below w.heap.size w w' := by
  obtain ⟨o, rfl⟩ := hp
  refine (callsIn_wide (n := 10)).1 ?_
  refine callsIn_of_wp_marks Tryz.func10 rfl trivial ?_ rfl
  simp only [Tryz.ntmps10, List.size_toArray, List.length_cons, List.length_nil, Nat.reduceAdd, Nat.reduceSub, Array.replicate_succ, Array.replicate_zero, List.push_toArray, List.append_toArray, List.nil_append, List.cons_append]
  obtain ⟨X, hX⟩ : ∃ X, w.alloc (.cells #[.int .i64 c, .int .i64 s] 27) = X := ⟨_, rfl⟩
  have BX : Below w.heap.size w X := hX ▸ box1 _ _
  have TX : Two X w.heap.size c s := by rw [← hX]; exact Two.newAt rfl
  have HAl := hide (hv X BX)
  have HK : Hid (∀ wx, Below X.heap.size X wx → wx.cell? ⟨w.heap.size, 0, none⟩ = some (.int .i64 c) ∧ wx.cell? ⟨w.heap.size, 1, none⟩ = some (.int .i64 s)) := hide fun wx q => (TX.kept q).1
  have HX := hide hX
  have HB := hide BX
  have Hno := hide hno
  clear hX BX TX hv hno
  gi_wp2_with (rw [HX.out])
  refine ⟨trivial, ?_⟩
  refine (callsIn_wide.2 HAl.out).mono ?_
  rintro e w1 ⟨rfl, hb1⟩
  have Hb1 := hide hb1
  clear hb1 HAl
  gi_wp2_with fail
  cases hm : may 0 0 a b
  · have HMy : Hid (Calls Tryz.prog 25 #[rct 0 0 a b] w1 fun e w' => e = .returned (.bool false) ∧ Below w1.heap.size w1 w') := hide (mayr_is w1 hm)
    clear hm
    refine ⟨trivial, ?_⟩
    refine (callsIn_wide.2 HMy.out).mono ?_
    rintro e w2 ⟨rfl, hb2⟩
    have Hb2 := hide (bt HB.out (bt Hb1.out hb2))
    clear hb2 Hb1
    gi_wp2_with fail
    refine ⟨trivial, ?_⟩
    gi_wp2_with fail
    refine ⟨.tuple #[.pointer none, .int .i64 1], ?_, rfl, Hb2.out⟩
    simp [results, Tryz.f10, go_sem]
  · have HMy : Hid (Calls Tryz.prog 25 #[rct 0 0 a b] w1 fun e w' => e = .returned (.bool true) ∧ Below w1.heap.size w1 w') := hide (mayr_is w1 hm)
    have hs : shB c s = false := by have := Hno.out; rw [hm] at this; simpa using this
    have HSh : Hid (∀ wx, Calls Tryz.prog 27 #[shv c s] wx fun e w' => e = .returned (.bool false) ∧ Below wx.heap.size wx w') := hide fun wx => shmay_is wx hs
    clear hm hs
    refine ⟨trivial, ?_⟩
    refine (callsIn_wide.2 HMy.out).mono ?_
    rintro e w2 ⟨rfl, hb2⟩
    have Hb2 := hide (bt Hb1.out hb2)
    obtain ⟨c0, c1⟩ := HK.out w2 Hb2.out
    clear hb2 Hb1
    gi_wp2_with fail
    refine ⟨trivial, ?_⟩
    refine (callsIn_wide.2 (HSh.out w2)).mono ?_
    rintro e w3 ⟨rfl, hb3⟩
    have Hb3 := hide (bt HB.out (bt Hb2.out hb3))
    clear hb3 Hb2 c0 c1
    gi_wp2_with fail
    refine ⟨.tuple #[.pointer none, .int .i64 1], ?_, rfl, Hb3.out⟩
    simp [results, Tryz.f10, go_sem]
end Go.Proofs.YthiafmlgialbnaaGreatDoor
set_option linter.unusedSimpArgs false
namespace Go.Proofs.YthiafmlgialbnaaGreatDoor
open Go.RowKit Go.Shelf
set_option linter.unusedVariables false
attribute [local go_sem] Oper.semAt_some
theorem run_c20 {ev : Operand → Value} {o : Oper} {w : World} {ar : Array Operand} {ts : Array TypeId} {vs : Array Value} (hop : o.op = .call { callee := .value (.func 20), args := ar, argTypes := ts }) (hf : ev (.func 20) = .func (.func 20) #[] #[]) (hvs : ar.map ev = vs) : (execOp ev o).run Tryz.prog w = .ok (.enter 20 vs) w := by
  unfold execOp
  simp only [hop, resolve, hf, hvs]
  go_simp
theorem run_build63 {ev : Operand → Value} {o : Oper} {w : World} {x y : Operand} {a b c : Int} (ho : o.op = .build 63 #[(0, x), (1, y)]) (hx : ev x = cel a b) (hy : ev y = .int .i64 c) : (execOp ev o).run Tryz.prog w = .ok (.value (.agg #[.int .i64 a, .int .i64 b, .int .i64 c])) w := by
  unfold execOp
  simp only [ho, hx, hy]
  go_simp
theorem run_eq63 {ev : Operand → Value} {o : Oper} {w : World} {x y : Operand} {a b c d e f : Int} (ho : o.op = .binOp .eql 63 x y 63) (hx : ev x = .agg #[.int .i64 a, .int .i64 b, .int .i64 c]) (hy : ev y = .agg #[.int .i64 d, .int .i64 e, .int .i64 f]) : (execOp ev o).run Tryz.prog w = .ok (.value (.bool (decide (a = d ∧ b = e ∧ c = f)))) w := by
  unfold execOp
  simp only [ho, hx, hy]
  go_simp
  by_cases h1 : a = d <;> by_cases h2 : b = e <;> by_cases h3 : c = f <;> simp [h1, h2, h3]
theorem gnodes19 (a : Option Addr) (w : World) : Calls Tryz.prog 19 #[.pointer a] w fun e w' => e = .returned (.func (.func 42) #[] #[ptr w.heap.size]) ∧ w' = w.alloc (.cells #[.pointer a] 34) := by
  go_enter Tryz.func19, Tryz.ntmps19
  go_wp2_with fail
  go_ret
  exact ⟨rfl, rfl⟩
/-- What the law has laid ere it asks. -/
structure BtS (w X : World) (wd ht : Int) (tv bv : Value) (c s : Int) : Prop where
  bel : Below w.heap.size w X
  m : MB X w.heap.size wd ht tv bv
  t : Two X (w.heap.size + 1) c s
  r : Boxed X (w.heap.size + 2) 4 (.bool false)
  z : w.heap.size + 3 ≤ X.heap.size
theorem BtS.upto {w X Y : World} {wd ht : Int} {tv bv : Value} {c s : Int} (h : BtS w X wd ht tv bv c s) (hb : Below X.heap.size X Y) : BtS w Y wd ht tv bv c s :=
  ⟨bt h.bel hb, h.m.kept hb, h.t.kept hb, boxed_upto h.r hb h.r.lt, Nat.le_trans h.z hb.size⟩
theorem BtS.new (w : World) (wd ht : Int) (tv bv : Value) (c s : Int) : BtS w (((w.alloc (.cells #[.int .i64 wd, .int .i64 ht, tv, bv] 25)).alloc (.cells #[.int .i64 c, .int .i64 s] 27)).alloc (.cells #[.bool false] 4)) wd ht tv bv c s := by
  have h1 := MB.new w wd ht tv bv
  generalize hA : w.alloc (.cells #[.int .i64 wd, .int .i64 ht, tv, bv] 25) = A at h1 ⊢
  have zA : A.heap.size = w.heap.size + 1 := by rw [← hA]; simp
  have h2 : Two (A.alloc (.cells #[.int .i64 c, .int .i64 s] 27)) (w.heap.size + 1) c s := by rw [← zA]; exact Two.newAt rfl
  have bB := box1 A (.cells #[.int .i64 c, .int .i64 s] 27)
  generalize hB : A.alloc (.cells #[.int .i64 c, .int .i64 s] 27) = B at h2 bB ⊢
  have zB : B.heap.size = w.heap.size + 2 := by rw [← hB]; simp [zA]
  have h3 := Boxed.new B 4 (.bool false)
  rw [zB] at h3
  have bC := box1 B (.cells #[.bool false] 4)
  exact ⟨bt (hA ▸ box1 _ _) (bt bB bC), (h1.kept bB).kept bC, h2.kept bC, h3, by simp [zB]⟩
set_option maxRecDepth 100000 in
set_option maxHeartbeats 16000000 in
theorem both_is (wd ht : Int) (tv bv : Value) (tl : List Nat) (L : List Bd) (c s : Int) (w : World) (hv : TlR w tv tl) (hb : ∀ x ∈ tl, x < 256) (hl : BdR w bv L) (hg : Grnd w) (ho : Offs w) :
    Calls Tryz.prog 5 #[mp wd ht tv bv, shv c s] w fun e w' => e = .returned (.bool true) ∧ Below w.heap.size w w' := by
  refine (callsIn_wide (n := 10)).1 ?_
  refine callsIn_of_wp_marks Tryz.func5 rfl trivial ?_ rfl
  simp only [Tryz.ntmps5, List.size_toArray, List.length_cons, List.length_nil, Nat.reduceAdd, Nat.reduceSub, Array.replicate_succ, Array.replicate_zero, List.push_toArray, List.append_toArray, List.nil_append, List.cons_append]
  obtain ⟨a1, cap1, hv1, -⟩ := id hv
  obtain ⟨a2, cap2, hl1, -⟩ := id hl
  subst hv1 hl1
  have S0 := BtS.new w wd ht (.slice a1 tl.length cap1) (.slice a2 L.length cap2) c s
  obtain ⟨X, hX⟩ : ∃ X, ((w.alloc (.cells #[.int .i64 wd, .int .i64 ht, .slice a1 tl.length cap1, .slice a2 L.length cap2] 25)).alloc (.cells #[.int .i64 c, .int .i64 s] 27)).alloc (.cells #[.bool false] 4) = X := ⟨_, rfl⟩
  rw [hX] at S0
  have HAw : Hid (∀ wx, Below w.heap.size w wx → Calls Tryz.prog 7 #[] wx fun e w' => e = .returned (.bool true) ∧ Below wx.heap.size wx w') := hide fun wx q => awake_is wx (hg.kept q) (ho.kept q)
  have HS0 := hide S0
  have HX := hide hX
  have HGO := hide (And.intro hg ho)
  have Hin := hide (And.intro hv (And.intro hb hl))
  clear S0 hX hg ho hv hb hl
  gi_wp2_with (rw [HX.out])
  refine ⟨trivial, ?_⟩
  refine (callsIn_wide.2 (HAw.out X HS0.out.bel)).mono ?_
  rintro e w1 ⟨rfl, hb1⟩
  have HS1 := hide (HS0.out.upto hb1)
  obtain ⟨m0, m1, m2, m3⟩ := HS1.out.m.c
  clear hb1 HS0 HX
  gi_wp2_with fail
  rcases chkC_two wd ht tl L with hc | hc
  rotate_left
  · have HBo := hide (both_no wd ht _ _ tl L w1 (Hin.out.1.kept HS1.out.bel) Hin.out.2.1 (Hin.out.2.2.kept HS1.out.bel) hc)
    clear hc
    refine ⟨trivial, ?_⟩
    refine (callsIn_wide.2 HBo.out).mono ?_
    rintro e w2 ⟨rfl, hb2⟩
    have HS2 := hide (HS1.out.upto hb2)
    clear hb2 m0 m1 m2 m3 HS1 HBo
    gi_wp2_with fail
    refine ⟨trivial, ?_⟩
    gi_wp2_with fail
    refine ⟨trivial, ?_⟩
    refine (callsIn_wide.2 (HAw.out w2 HS2.out.bel)).mono ?_
    rintro e w3 ⟨rfl, hb3⟩
    have HS3 := hide (HS2.out.upto hb3)
    have r0 := HS3.out.r.cell
    have r1 : w3.frozen? ⟨w.heap.size + 2, 0, none⟩ = false := by simp [World.frozen?, show w3.heap[w.heap.size + 2]? = _ from HS3.out.r]
    clear hb3 HS2
    gi_wp2_with fail
    refine ⟨.bool true, ?_, rfl, HS3.out.bel.setCell (by simp only; omega) _⟩
    simp [results, Tryz.f5, go_sem, r0, r1]
  · have HBo := hide (both_ok wd ht _ _ tl L w1 (Hin.out.1.kept HS1.out.bel) Hin.out.2.1 (Hin.out.2.2.kept HS1.out.bel) hc)
    clear hc
    refine ⟨trivial, ?_⟩
    refine (callsIn_wide.2 HBo.out).mono ?_
    rintro e w2 ⟨p, r, rfl, hWn, -, hb2⟩
    have HS2 := hide (HS1.out.upto hb2)
    have HW2 := hide hWn
    have HE2 : Hid (En w2 p wd ht tl (whoF L)) := hide ⟨hWn.1, HGO.out.1.kept HS2.out.bel, HGO.out.2.kept HS2.out.bel⟩
    clear hb2 m0 m1 m2 m3 HS1 HBo hWn
    obtain ⟨m0, m1, m2, m3⟩ := HS2.out.m.c
    obtain ⟨hW, hH⟩ := HE2.out.1.sides
    have HLi := hide (light_is wd ht (.slice a1 tl.length cap1) (.slice a2 L.length cap2) w2 (by omega) (by omega))
    have HWH := hide (And.intro hW hH)
    clear hW hH
    gi_wp2_with fail
    refine ⟨trivial, ?_⟩
    refine (callsIn_wide.2 HLi.out).mono ?_
    rintro e w3 ⟨rfl, hb3⟩
    have HS3 := hide (HS2.out.upto hb3)
    have HW3 := hide (HW2.out.kept hb3)
    have HE3 := hide (HE2.out.upto hb3)
    clear hb3 m0 m1 m2 m3 HLi HS2 HW2 HE2
    cases hd : decide (wd * ht ≤ 1000)
    · clear hd
      gi_wp2_with fail
      refine ⟨trivial, ?_⟩
      refine (callsIn_wide.2 (HAw.out w3 HS3.out.bel)).mono ?_
      rintro e w4 ⟨rfl, hb4⟩
      have HS4 := hide (HS3.out.upto hb4)
      have r0 := HS4.out.r.cell
      have r1 : w4.frozen? ⟨w.heap.size + 2, 0, none⟩ = false := by simp [World.frozen?, show w4.heap[w.heap.size + 2]? = _ from HS4.out.r]
      clear hb4 HS3
      gi_wp2_with fail
      refine ⟨.bool true, ?_, rfl, HS4.out.bel.setCell (by simp only; omega) _⟩
      simp [results, Tryz.f5, go_sem, r0, r1]
    · clear hd
      obtain ⟨⟨t0, t1⟩, -, -⟩ := id HS3.out.t
      gi_wp2_with fail
      cases hsh : shB c s
      · have HNw := hide (gnew_bad (w := w3) (v := ptr p) (a := wd) (b := ht) (c := c) (s := s) (by rw [hsh, Bool.and_false]) (fun wx q => all_is (HE3.out.1.kept q)) ⟨_, rfl⟩)
        clear hsh
        refine ⟨trivial, ?_⟩
        refine (callsIn_wide.2 HNw.out).mono ?_
        rintro e w4 ⟨rfl, hb4⟩
        have HS4 := hide (HS3.out.upto hb4)
        clear hb4 t0 t1 HS3 HNw
        gi_wp2_with fail
        obtain ⟨V, hV⟩ : ∃ V, w4.alloc (.cells #[.pointer none] 34) = V := ⟨_, rfl⟩
        have bV : Below w4.heap.size w4 V := hV ▸ box1 _ _
        rw [hV]
        have HS5 := hide (HS4.out.upto bV)
        clear hV bV HS4
        refine ⟨trivial, ?_⟩
        refine (callsIn_wide.2 (HAw.out V HS5.out.bel)).mono ?_
        rintro e w5 ⟨rfl, hb5⟩
        have HS6 := hide (HS5.out.upto hb5)
        have r0 := HS6.out.r.cell
        have r1 : w5.frozen? ⟨w.heap.size + 2, 0, none⟩ = false := by simp [World.frozen?, show w5.heap[w.heap.size + 2]? = _ from HS6.out.r]
        clear hb5 HS5
        gi_wp2_with fail
        refine ⟨.bool true, ?_, rfl, HS6.out.bel.setCell (by simp only; omega) _⟩
        simp [results, Tryz.f5, go_sem, r0, r1]
      · have hS : ∀ u v, stB wd ht tl (whoF L) c s u v = true → (0 ≤ u ∧ u < wd) ∧ 0 ≤ v ∧ v < ht := fun u v h => st_in HWH.out.1 HWH.out.2 u v h
        have HNw := hide (gnew_good HE3.out hS hsh (fun wx q => epoch_is (HW3.out.2.kept q)))
        clear hsh
        refine ⟨trivial, ?_⟩
        refine (callsIn_wide.2 HNw.out).mono ?_
        rintro e w4 ⟨gp, wb, eb, rfl, ⟨KW, LW, KE, LE, hGS, hGD, -⟩, hb4, -, -, -⟩
        obtain ⟨FE, mE, rE⟩ := hGS.em
        have HG : Hid (Gp w4 gp p c s 0 wb eb ∧ MapS nilS w4 eb KE FE ∧ ∀ x y, RE w4 (FE x y) (LE (x, y))) := hide ⟨hGS.g, mE, rE⟩
        have HBk : Hid (∀ q ∈ KE, ∀ e ∈ LE q, e.to ∈ KE ∧ ⟨q.1, q.2, e.c⟩ ∈ LE e.to ∧ 10 ≤ e.c) := hide fun q hq e he => hGD.back HWH.out.1 HWH.out.2 hS hq he
        have HLe : Hid (∀ q, (LE q).length ≤ 16384) := hide fun q => hGD.elen HWH.out.1 HWH.out.2 hS q
        have HNo : Hid (∀ q, q ∉ KE → LE q = []) := hide hGD.fe
        have hKl : KE.length ≤ 16384 := hGD.klen HWH.out.1 HWH.out.2 mE.nodup
        have HS4 := hide (HS3.out.upto hb4)
        clear hb4 t0 t1 HS3 HNw hGS hGD mE rE hS HW3 HE3
        gi_wp2_with fail
        obtain ⟨V1, hV1⟩ : ∃ V, w4.alloc (.cells #[ptr gp] 34) = V := ⟨_, rfl⟩
        have bV1 : Below w4.heap.size w4 V1 := hV1 ▸ box1 _ _
        have gB : Boxed V1 w4.heap.size 34 (ptr gp) := hV1 ▸ Boxed.new w4 34 _
        rw [hV1]
        clear hV1
        refine ⟨trivial, ?_⟩
        refine (callsIn_wide.2 (gnodes19 _ V1)).mono ?_
        rintro e V ⟨rfl, hV⟩
        have bV : Below V1.heap.size V1 V := hV ▸ box1 _ _
        have nB : Boxed V V1.heap.size 34 (ptr gp) := hV ▸ Boxed.new V1 34 _
        have gB2 := boxed_upto gB bV gB.lt
        have bV4 := bt bV1 bV
        have hseq := nodes_seq 9 V1.heap.size nB (HG.out.1.upto bV4) (HG.out.2.1.upto bV4) 16384 hKl (by omega)
        have HSV := hide (HS4.out.upto bV4)
        have HV := hide (And.intro bV4 gB2)
        have hw4V : w4.heap.size < V.heap.size := gB2.lt
        clear hV bV nB gB2 bV4 bV1 gB HS4
        gi_wp2_with fail
        refine range_nest (n := 10) (by omega) (gf := 42) (lb := #[ptr V1.heap.size]) rfl (enters_of Tryz.func42 (by kernel_rfl) rfl)
          hseq (fun _ _ => trivial) (fun _ _ _ _ _ _ _ _ => trivial) (Below.refl _ _) (fun _ => rfl)
          (fun pre Y => Below V.heap.size V Y) (fun _ _ => False) (ownFrom_below (Nat.le_refl _) (Nat.le_refl _)) (fun _ _ _ _ h _ _ => h.elim) (Below.refl _ _)
          (fun q a' Y => ∃ Bx, V.heap.size ≤ Bx ∧ Y.heap[Bx]? = some (.cells #[.int .i64 q.1.1, .int .i64 q.1.2] 47 (0, 0)) ∧ a' = { tmps := #[mp wd ht (.slice a1 tl.length cap1) (.slice a2 L.length cap2), shv c s, ptr w.heap.size, ptr (w.heap.size + 1), ptr (w.heap.size + 1 + 1), ptr p, ptr r, .bool true, ptr w4.heap.size, .int .i64 0, ptr Bx, undef, undef, undef, undef, undef, .bool true, .bool false, .tuple #[ptr p, ptr r, .bool true], .agg #[.int .i64 wd, .int .i64 ht, .slice a1 tl.length cap1, .slice a2 L.length cap2], .tuple #[ptr p, ptr r, .bool true], ptr p, ptr r, .bool true, .bool true, .bool false, .bool false, .agg #[.int .i64 wd, .int .i64 ht, .slice a1 tl.length cap1, .slice a2 L.length cap2], .bool true, .bool false, .bool false, undef, .tuple #[ptr gp, .int .i64 0], ptr p, shv c s, .tuple #[ptr gp, .int .i64 0], ptr gp, .int .i64 0, .int .i64 0, .bool false, undef, ptr gp, .func (.func 42) #[] #[ptr V1.heap.size], cel q.1.1 q.1.2, undef, undef, undef, undef, undef, undef, undef, undef, undef, undef, undef, undef, undef, undef, undef, undef, undef, undef, undef, undef, undef, undef, undef, undef, undef, undef, undef, undef, undef, undef, undef, undef, undef, undef, undef, undef, undef, undef, undef, undef, undef, undef, undef, undef, undef, undef, undef, undef], defers := [] })
          (fun q a' _ Y Z row hs hg hr => by
            obtain ⟨B, h1, h2, h3⟩ := hs
            exact ⟨B, h1, cells_own (β := Unit) V.heap.size B _ _ () Y Z row h2 hg hr, h3⟩) ?assign ?body ?done ?stop
        case assign =>
          rintro lo pre q Y K hI hK
          have b1 := box1 Y (.cells #[.int .i64 q.1.1, .int .i64 q.1.2] 47)
          have hn := heap_alloc_new Y (.cells #[.int .i64 q.1.1, .int .i64 q.1.2] 47)
          have HE := hide (And.intro (bt hI b1) (And.intro b1 (And.intro hn hI.size)))
          clear b1 hn hI
          gi_wp2
          exact hK _ _ (Keep.of_below HE.out.2.1) trivial HE.out.1 ⟨Y.heap.size, HE.out.2.2.2, HE.out.2.2.1, rfl⟩
        case body =>
          rintro lo pre q a' Y hlo hI ⟨Bx, hBx, bX, rfl⟩ hlt
          obtain ⟨⟨qx, qy⟩, hqw⟩ := q
          simp only at bX hqw ⊢
          obtain ⟨hqx, hqy⟩ := hqw
          have b4Y := bt HV.out.1 hI
          have gc := (boxed_upto HV.out.2 hI HV.out.2.lt).cell
          have d0 : Y.cell? ⟨Bx, 0, none⟩ = some (.int .i64 qx) := by rw [cell_of_row Y _ 0 _ _ _ bX]; rfl
          have d1 : Y.cell? ⟨Bx, 1, none⟩ = some (.int .i64 qy) := by rw [cell_of_row Y _ 1 _ _ _ bX]; rfl
          have HEd := hide (gedges_yes (HG.out.1.upto b4Y) (HG.out.2.1.upto b4Y) hqx hqy ((HG.out.2.2 qx qy).upto b4Y) (by have := HLe.out (qx, qy); omega))
          have HbX := hide (And.intro hI (And.intro b4Y bX))
          have hBl := (Array.getElem?_eq_some_iff.1 bX).1
          clear hI bX b4Y hseq hlo hlt
          gi_wp2_with fail
          refine ⟨trivial, ?_⟩
          refine (callsIn_wide.2 HEd.out).mono ?_
          rintro e Y1 ⟨lv, rfl, hR, hbR, hown⟩
          obtain ⟨la, lc, hlv⟩ := slice_E hR
          subst hlv
          have hL16 := HLe.out (qx, qy)
          obtain ⟨LQ, hLQ⟩ : ∃ LQ, LE (qx, qy) = LQ := ⟨_, rfl⟩
          rw [hLQ] at hR hL16
          have HR := hide (And.intro hR (And.intro hbR hLQ))
          rw [hLQ]
          clear hR hown hbR hLQ gc d0 d1 HEd
          gi_wp2_with fail
          gi_loopw [12] (fun v wr => ∃ i : Nat, v = .int .i64 (i : Nat) ∧ i ≤ LQ.length ∧ Below Y1.heap.size Y1 wr) (fun v _ => LQ.length - (intOf v).toNat)
          case atStart => exact ⟨0, rfl, Nat.zero_le _, Below.refl _ _⟩
          case round =>
            obtain ⟨i, rfl, hi, hbr⟩ := hrel
            rename World => wr
            by_cases hlt : i < LQ.length
            · obtain ⟨t, hti⟩ : ∃ t, LQ[i]? = some t := ⟨_, List.getElem?_eq_getElem hlt⟩
              have htm : t ∈ LE (qx, qy) := by rw [HR.out.2.2]; exact List.mem_of_getElem? hti
              have hqK : (qx, qy) ∈ KE := Classical.byContradiction fun h => by rw [HNo.out _ h] at htm; cases htm
              obtain ⟨k1, k2, k3⟩ := HBk.out _ hqK t htm
              have hd : Below wr.heap.size wr wr.drew := ⟨rfl, rfl, rfl, Nat.le_refl _, fun _ _ => rfl⟩
              have hbr := bt hbr hd
              have b4r := bt HbX.out.2.1 (bt HR.out.2.1 hbr)
              have bYr := bt HR.out.2.1 hbr
              obtain ⟨t64x, t64y⟩ := HG.out.2.1.w64 _ k1
              have bVr := bt HbX.out.1 bYr
              have gc := (boxed_upto HV.out.2 bVr HV.out.2.lt).cell
              obtain ⟨gl, rfl, hgl, e0, e1, e2⟩ := RE_at (HR.out.1.upto hbr) hti
              have HEd := hide (gedges_yes (HG.out.1.upto b4r) (HG.out.2.1.upto b4r) t64x t64y ((HG.out.2.2 t.to.1 t.to.2).upto b4r) (Nat.le_trans (HLe.out t.to) (by omega)))
              have HK := hide (And.intro k2 k3)
              have Hbr := hide (And.intro hbr bYr)
              have hki : (i : Int) < (LQ.length : Nat) := by omega
              have HRr := hide (And.intro (HR.out.1.upto hbr) hti)
              clear k1 k2 k3 t64x t64y htm hqK hbr b4r bYr bVr hd hti e2
              obtain ⟨tx, ty, tc⟩ := t
              simp only at e0 e1 HEd
              have HS := And.intro gc (And.intro e0 e1)
              gi_wp2_with fail
              refine wpIn_only ?_
              refine wpIn_region_zR (fun wx : World => wx.cell? ⟨w4.heap.size, 0, none⟩ = some (ptr gp) ∧ wx.cell? ⟨gl, i * 3, none⟩ = some (.int .i64 tx) ∧ wx.cell? ⟨gl, i * 3 + 1, none⟩ = some (.int .i64 ty)) [6, 7] only_in (by kernel_rfl) (by kernel_rfl) ?_
              clear gc e0 e1
              refine anyZ_take 0 8 (v := ptr gp) rfl (by kernel_rfl) (fun _ _ _ h => h.elim) (Or.inl ⟨by rfl, fun wx hx => by obtain ⟨x0, x1, x2⟩ := hx; clear HS; go_simp⟩) HS ?_
              try simp only [Act.put, List.getElem_toArray, List.getElem_cons_zero, List.getElem_cons_succ, List.setIfInBounds_toArray, List.set_cons_zero, List.set_cons_succ]
              refine anyZ_take 1 8 (v := .slice (some ⟨gl, 0, none⟩) LQ.length lc) rfl (by kernel_rfl) (fun _ _ _ h => h.elim) (Or.inl ⟨by rfl, fun wx hx => run_moveO (by rfl) (by rfl)⟩) HS ?_
              try simp only [Act.put, List.getElem_toArray, List.getElem_cons_zero, List.getElem_cons_succ, List.setIfInBounds_toArray, List.set_cons_zero, List.set_cons_succ]
              refine anyZ_take 2 8 (v := .int .i64 (i : Nat)) rfl (by kernel_rfl) (fun _ _ _ h => h.elim) (Or.inl ⟨by rfl, fun wx hx => run_moveO (by rfl) (by rfl)⟩) HS ?_
              try simp only [Act.put, List.getElem_toArray, List.getElem_cons_zero, List.getElem_cons_succ, List.setIfInBounds_toArray, List.set_cons_zero, List.set_cons_succ]
              refine anyZ_take 3 8 (v := .pointer (some ⟨gl, i * 3, none⟩)) rfl (by kernel_rfl) (fun _ _ _ h => h.elim) (Or.inl ⟨by rfl, fun wx hx => by obtain ⟨x0, x1, x2⟩ := hx; clear HS; go_simp⟩) HS ?_
              try simp only [Act.put, List.getElem_toArray, List.getElem_cons_zero, List.getElem_cons_succ, List.setIfInBounds_toArray, List.set_cons_zero, List.set_cons_succ]
              refine anyZ_take 4 8 (v := .pointer (some ⟨gl, i * 3, none⟩)) rfl (by kernel_rfl) (fun _ _ _ h => h.elim) (Or.inl ⟨by rfl, fun wx hx => by obtain ⟨x0, x1, x2⟩ := hx; clear HS; go_simp⟩) HS ?_
              try simp only [Act.put, List.getElem_toArray, List.getElem_cons_zero, List.getElem_cons_succ, List.setIfInBounds_toArray, List.set_cons_zero, List.set_cons_succ]
              refine anyZ_take 5 8 (v := cel tx ty) rfl (by kernel_rfl) (fun _ _ _ h => h.elim) (Or.inl ⟨by rfl, fun wx hx => by obtain ⟨x0, x1, x2⟩ := hx; clear HS; go_simp⟩) HS ?_
              try simp only [Act.put, List.getElem_toArray, List.getElem_cons_zero, List.getElem_cons_succ, List.setIfInBounds_toArray, List.set_cons_zero, List.set_cons_succ]
              refine anyZ_ready (rs := [6]) (by kernel_rfl) (by simp) ?_
              refine readyZ.call rfl rfl (run_c20 (by rfl) (by rfl) (by simp only [List.map_toArray, List.map_cons, List.map_nil]; rfl)) (HEd.out) ?_ readyZ.nil
              rintro e w6 ⟨bv, rfl, hRb, hb6, -⟩
              obtain ⟨ba, bc, hbv⟩ := slice_E hRb
              subst hbv
              refine ⟨_, rfl, fun h => absurd (by decide) h, ?_⟩
              try simp only [Act.put, List.getElem_toArray, List.getElem_cons_zero, List.getElem_cons_succ, List.setIfInBounds_toArray, List.set_cons_zero, List.set_cons_succ]
              refine anyZ_ready (rs := [7]) (by kernel_rfl) (by simp) ?_
              refine readyZ.cons rfl rfl (run_assign (v := .slice ba (LE (tx, ty)).length bc) (by rfl) (by rfl)) (fun h => absurd (by decide) h) ?_ readyZ.nil
              try simp only [Act.put, List.getElem_toArray, List.getElem_cons_zero, List.getElem_cons_succ, List.setIfInBounds_toArray, List.set_cons_zero, List.set_cons_succ]
              refine anyZ_done (by kernel_rfl) ?_ _
              dsimp only [Only, Exit.then]
              clear HS
              have hB16 := HLe.out (tx, ty)
              obtain ⟨LB, hLB⟩ : ∃ LB, LE (tx, ty) = LB := ⟨_, rfl⟩
              have hK2 := HK.out.1
              change (⟨qx, qy, tc⟩ : E3) ∈ LE (tx, ty) at hK2
              rw [hLB] at hRb hB16 hK2
              rw [hLB]
              have Hw6 := hide (And.intro hRb (And.intro hb6 hK2))
              clear hRb hb6 hLB hK2
              gi_wp2_with fail
              gi_loopw [14, 15] (fun u v wk => ∃ (b : Bool) (k : Nat), u = .bool b ∧ v = .int .i64 (k : Nat) ∧ k ≤ LB.length ∧ (b = true ↔ (⟨qx, qy, tc⟩ : E3) ∈ LB.take k) ∧ Below w6.heap.size w6 wk) (fun _ v _ => LB.length - (intOf v).toNat)
              case atStart => exact ⟨false, 0, rfl, rfl, Nat.zero_le _, by simp, Below.refl _ _⟩
              case round =>
                obtain ⟨b, k, rfl, rfl, hk, hbk, hbw⟩ := hrel
                rename World => wk
                by_cases hltk : k < LB.length
                · obtain ⟨u, hu⟩ : ∃ u, LB[k]? = some u := ⟨_, List.getElem?_eq_getElem hltk⟩
                  have hd : Below wk.heap.size wk wk.drew := ⟨rfl, rfl, rfl, Nat.le_refl _, fun _ _ => rfl⟩
                  have hbwd := bt hbw hd
                  obtain ⟨gb, rfl, hgb, u0, u1, u2⟩ := RE_at (Hw6.out.1.upto hbwd) hu
                  have b6 := bt Hw6.out.2.1 hbwd
                  obtain ⟨gl2, hgl2, -, -, -, l2⟩ := RE_at (HRr.out.1.upto b6) HRr.out.2
                  cases hgl2
                  have bYd := bt Hbr.out.2 b6
                  have x0 : wk.drew.cell? ⟨Bx, 0, none⟩ = some (.int .i64 qx) := by rw [cell_of_row wk.drew _ 0 _ _ _ ((bYd.block Bx hBl).trans HbX.out.2.2)]; rfl
                  have x1 : wk.drew.cell? ⟨Bx, 1, none⟩ = some (.int .i64 qy) := by rw [cell_of_row wk.drew _ 1 _ _ _ ((bYd.block Bx hBl).trans HbX.out.2.2)]; rfl
                  obtain ⟨ux, uy, uc⟩ := u
                  simp only at u0 u1 u2 l2
                  have HS := And.intro (And.intro u0 (And.intro u1 u2)) (And.intro x0 (And.intro x1 l2))
                  have hkk : (k : Int) < (LB.length : Nat) := by omega
                  have Hbw := hide (And.intro hbwd hbk)
                  have hnx : LB.take (k + 1) = LB.take k ++ [⟨ux, uy, uc⟩] := by rw [List.take_add_one, hu]; rfl
                  have Hnx := hide hnx
                  clear u0 u1 u2 x0 x1 l2 hd hbwd b6 bYd hbw hbk hu hnx
                  cases b
                  · gi_wp2_with fail
                    refine wpIn_only ?_
                    refine wpIn_region_zR (fun wx : World => (wx.cell? ⟨gb, k * 3, none⟩ = some (.int .i64 ux) ∧ wx.cell? ⟨gb, k * 3 + 1, none⟩ = some (.int .i64 uy) ∧ wx.cell? ⟨gb, k * 3 + 2, none⟩ = some (.int .i64 uc)) ∧ wx.cell? ⟨Bx, 0, none⟩ = some (.int .i64 qx) ∧ wx.cell? ⟨Bx, 1, none⟩ = some (.int .i64 qy) ∧ wx.cell? ⟨gl, i * 3 + 2, none⟩ = some (.int .i64 tc)) [] only_in (by kernel_rfl) (by kernel_rfl) ?_
                    refine anyZ_take 0 8 (v := .bool false) rfl (by kernel_rfl) (fun _ _ _ h => h.elim) (Or.inl ⟨by rfl, fun wx hx => run_moveO (by rfl) (by rfl)⟩) HS ?_
                    try simp only [Act.put, List.getElem_toArray, List.getElem_cons_zero, List.getElem_cons_succ, List.setIfInBounds_toArray, List.set_cons_zero, List.set_cons_succ]
                    refine anyZ_take 1 8 (v := .bool false) rfl (by kernel_rfl) (fun _ _ _ h => h.elim) (Or.inl ⟨by rfl, fun wx hx => run_moveO (by rfl) (by rfl)⟩) HS ?_
                    try simp only [Act.put, List.getElem_toArray, List.getElem_cons_zero, List.getElem_cons_succ, List.setIfInBounds_toArray, List.set_cons_zero, List.set_cons_succ]
                    refine anyZ_take 2 8 (v := .slice (some ⟨gb, 0, none⟩) LB.length bc) rfl (by kernel_rfl) (fun _ _ _ h => h.elim) (Or.inl ⟨by rfl, fun wx hx => run_moveO (by rfl) (by rfl)⟩) HS ?_
                    try simp only [Act.put, List.getElem_toArray, List.getElem_cons_zero, List.getElem_cons_succ, List.setIfInBounds_toArray, List.set_cons_zero, List.set_cons_succ]
                    refine anyZ_take 3 8 (v := .int .i64 (k : Nat)) rfl (by kernel_rfl) (fun _ _ _ h => h.elim) (Or.inl ⟨by rfl, fun wx hx => run_moveO (by rfl) (by rfl)⟩) HS ?_
                    try simp only [Act.put, List.getElem_toArray, List.getElem_cons_zero, List.getElem_cons_succ, List.setIfInBounds_toArray, List.set_cons_zero, List.set_cons_succ]
                    refine anyZ_take 4 8 (v := .pointer (some ⟨gb, k * 3, none⟩)) rfl (by kernel_rfl) (fun _ _ _ h => h.elim) (Or.inl ⟨by rfl, fun wx hx => by obtain ⟨⟨q0, q1, q2⟩, q3, q4, q5⟩ := hx; clear HS; go_simp⟩) HS ?_
                    try simp only [Act.put, List.getElem_toArray, List.getElem_cons_zero, List.getElem_cons_succ, List.setIfInBounds_toArray, List.set_cons_zero, List.set_cons_succ]
                    refine anyZ_take 5 8 (v := .agg #[.int .i64 ux, .int .i64 uy, .int .i64 uc]) rfl (by kernel_rfl) (fun _ _ _ h => h.elim) (Or.inl ⟨by rfl, fun wx hx => by obtain ⟨⟨q0, q1, q2⟩, q3, q4, q5⟩ := hx; clear HS; go_simp⟩) HS ?_
                    try simp only [Act.put, List.getElem_toArray, List.getElem_cons_zero, List.getElem_cons_succ, List.setIfInBounds_toArray, List.set_cons_zero, List.set_cons_succ]
                    refine anyZ_take 6 8 (v := cel qx qy) rfl (by kernel_rfl) (fun _ _ _ h => h.elim) (Or.inl ⟨by rfl, fun wx hx => by obtain ⟨⟨q0, q1, q2⟩, q3, q4, q5⟩ := hx; clear HS; go_simp⟩) HS ?_
                    try simp only [Act.put, List.getElem_toArray, List.getElem_cons_zero, List.getElem_cons_succ, List.setIfInBounds_toArray, List.set_cons_zero, List.set_cons_succ]
                    refine anyZ_take 7 8 (v := .slice (some ⟨gl, 0, none⟩) LQ.length lc) rfl (by kernel_rfl) (fun _ _ _ h => h.elim) (Or.inl ⟨by rfl, fun wx hx => run_moveO (by rfl) (by rfl)⟩) HS ?_
                    try simp only [Act.put, List.getElem_toArray, List.getElem_cons_zero, List.getElem_cons_succ, List.setIfInBounds_toArray, List.set_cons_zero, List.set_cons_succ]
                    refine anyZ_take 8 8 (v := .int .i64 (i : Nat)) rfl (by kernel_rfl) (fun _ _ _ h => h.elim) (Or.inl ⟨by rfl, fun wx hx => run_moveO (by rfl) (by rfl)⟩) HS ?_
                    try simp only [Act.put, List.getElem_toArray, List.getElem_cons_zero, List.getElem_cons_succ, List.setIfInBounds_toArray, List.set_cons_zero, List.set_cons_succ]
                    refine anyZ_take 9 8 (v := .pointer (some ⟨gl, i * 3, none⟩)) rfl (by kernel_rfl) (fun _ _ _ h => h.elim) (Or.inl ⟨by rfl, fun wx hx => by obtain ⟨⟨q0, q1, q2⟩, q3, q4, q5⟩ := hx; clear HS; go_simp⟩) HS ?_
                    try simp only [Act.put, List.getElem_toArray, List.getElem_cons_zero, List.getElem_cons_succ, List.setIfInBounds_toArray, List.set_cons_zero, List.set_cons_succ]
                    refine anyZ_take 10 8 (v := .pointer (some ⟨gl, i * 3 + 2, none⟩)) rfl (by kernel_rfl) (fun _ _ _ h => h.elim) (Or.inl ⟨by rfl, fun wx hx => by obtain ⟨⟨q0, q1, q2⟩, q3, q4, q5⟩ := hx; clear HS; go_simp⟩) HS ?_
                    try simp only [Act.put, List.getElem_toArray, List.getElem_cons_zero, List.getElem_cons_succ, List.setIfInBounds_toArray, List.set_cons_zero, List.set_cons_succ]
                    refine anyZ_take 11 8 (v := .int .i64 tc) rfl (by kernel_rfl) (fun _ _ _ h => h.elim) (Or.inl ⟨by rfl, fun wx hx => by obtain ⟨⟨q0, q1, q2⟩, q3, q4, q5⟩ := hx; clear HS; go_simp⟩) HS ?_
                    try simp only [Act.put, List.getElem_toArray, List.getElem_cons_zero, List.getElem_cons_succ, List.setIfInBounds_toArray, List.set_cons_zero, List.set_cons_succ]
                    refine anyZ_take 12 8 (v := .agg #[.int .i64 qx, .int .i64 qy, .int .i64 tc]) rfl (by kernel_rfl) (fun _ _ _ h => h.elim) (Or.inl ⟨by rfl, fun wx hx => run_build63 (by rfl) (by rfl) (by rfl)⟩) HS ?_
                    try simp only [Act.put, List.getElem_toArray, List.getElem_cons_zero, List.getElem_cons_succ, List.setIfInBounds_toArray, List.set_cons_zero, List.set_cons_succ]
                    refine anyZ_take 13 8 (v := .bool (decide (ux = qx ∧ uy = qy ∧ uc = tc))) rfl (by kernel_rfl) (fun _ _ _ h => h.elim) (Or.inl ⟨by rfl, fun wx hx => run_eq63 (by rfl) (by rfl) (by rfl)⟩) HS ?_
                    try simp only [Act.put, List.getElem_toArray, List.getElem_cons_zero, List.getElem_cons_succ, List.setIfInBounds_toArray, List.set_cons_zero, List.set_cons_succ]
                    refine anyZ_take 14 8 (v := .bool (decide (ux = qx ∧ uy = qy ∧ uc = tc))) rfl (by kernel_rfl) (fun _ _ _ h => h.elim) (Or.inl ⟨by rfl, fun wx hx => by obtain ⟨⟨q0, q1, q2⟩, q3, q4, q5⟩ := hx; clear HS; go_simp⟩) HS ?_
                    try simp only [Act.put, List.getElem_toArray, List.getElem_cons_zero, List.getElem_cons_succ, List.setIfInBounds_toArray, List.set_cons_zero, List.set_cons_succ]
                    refine anyZ_take 15 8 (v := .bool (decide (ux = qx ∧ uy = qy ∧ uc = tc))) rfl (by kernel_rfl) (fun _ _ _ h => h.elim) (Or.inl ⟨by rfl, fun wx hx => run_assign (by rfl) (by rfl)⟩) HS ?_
                    try simp only [Act.put, List.getElem_toArray, List.getElem_cons_zero, List.getElem_cons_succ, List.setIfInBounds_toArray, List.set_cons_zero, List.set_cons_succ]
                    refine anyZ_done (by kernel_rfl) ?_ _
                    dsimp only [Only, Exit.then]
                    clear HS
                    gi_wp2_with fail
                    go_roundw
                    case rel =>
                      refine ⟨_, k + 1, rfl, by go_num, by omega, ?_, Hbw.out.1⟩
                      rw [Hnx.out, List.mem_append, ← Hbw.out.2]
                      simp only [Bool.false_eq_true, false_or, List.mem_singleton, decide_eq_true_eq, E3.mk.injEq]
                      exact ⟨fun h => ⟨h.1.symm, h.2.1.symm, h.2.2.symm⟩, fun h => ⟨h.1.symm, h.2.1.symm, h.2.2.symm⟩⟩
                    case measure => simp only [intOf]; omega
                  · gi_wp2_with fail
                    refine wpIn_only ?_
                    refine wpIn_region_zR (fun wx : World => True) [] only_in (by kernel_rfl) (by kernel_rfl) ?_
                    clear HS
                    have HS : True := trivial
                    refine anyZ_take 0 8 (v := .bool true) rfl (by kernel_rfl) (fun _ _ _ h => h.elim) (Or.inl ⟨by rfl, fun wx hx => run_moveO (by rfl) (by rfl)⟩) HS ?_
                    try simp only [Act.put, List.getElem_toArray, List.getElem_cons_zero, List.getElem_cons_succ, List.setIfInBounds_toArray, List.set_cons_zero, List.set_cons_succ]
                    refine anyZ_take 1 8 (v := .bool true) rfl (by kernel_rfl) (fun _ _ _ h => h.elim) (Or.inl ⟨by rfl, fun wx hx => run_moveO (by rfl) (by rfl)⟩) HS ?_
                    try simp only [Act.put, List.getElem_toArray, List.getElem_cons_zero, List.getElem_cons_succ, List.setIfInBounds_toArray, List.set_cons_zero, List.set_cons_succ]
                    refine anyZ_take 2 8 (v := undef) rfl (by kernel_rfl) (fun _ _ _ h => h.elim) (Or.inr ⟨by rfl, rfl⟩) HS ?_
                    try simp only [Act.put, List.getElem_toArray, List.getElem_cons_zero, List.getElem_cons_succ, List.setIfInBounds_toArray, List.set_cons_zero, List.set_cons_succ]
                    refine anyZ_take 3 8 (v := undef) rfl (by kernel_rfl) (fun _ _ _ h => h.elim) (Or.inr ⟨by rfl, rfl⟩) HS ?_
                    try simp only [Act.put, List.getElem_toArray, List.getElem_cons_zero, List.getElem_cons_succ, List.setIfInBounds_toArray, List.set_cons_zero, List.set_cons_succ]
                    refine anyZ_take 4 8 (v := undef) rfl (by kernel_rfl) (fun _ _ _ h => h.elim) (Or.inr ⟨by rfl, rfl⟩) HS ?_
                    try simp only [Act.put, List.getElem_toArray, List.getElem_cons_zero, List.getElem_cons_succ, List.setIfInBounds_toArray, List.set_cons_zero, List.set_cons_succ]
                    refine anyZ_take 5 8 (v := undef) rfl (by kernel_rfl) (fun _ _ _ h => h.elim) (Or.inr ⟨by rfl, rfl⟩) HS ?_
                    try simp only [Act.put, List.getElem_toArray, List.getElem_cons_zero, List.getElem_cons_succ, List.setIfInBounds_toArray, List.set_cons_zero, List.set_cons_succ]
                    refine anyZ_take 6 8 (v := undef) rfl (by kernel_rfl) (fun _ _ _ h => h.elim) (Or.inr ⟨by rfl, rfl⟩) HS ?_
                    try simp only [Act.put, List.getElem_toArray, List.getElem_cons_zero, List.getElem_cons_succ, List.setIfInBounds_toArray, List.set_cons_zero, List.set_cons_succ]
                    refine anyZ_take 7 8 (v := undef) rfl (by kernel_rfl) (fun _ _ _ h => h.elim) (Or.inr ⟨by rfl, rfl⟩) HS ?_
                    try simp only [Act.put, List.getElem_toArray, List.getElem_cons_zero, List.getElem_cons_succ, List.setIfInBounds_toArray, List.set_cons_zero, List.set_cons_succ]
                    refine anyZ_take 8 8 (v := undef) rfl (by kernel_rfl) (fun _ _ _ h => h.elim) (Or.inr ⟨by rfl, rfl⟩) HS ?_
                    try simp only [Act.put, List.getElem_toArray, List.getElem_cons_zero, List.getElem_cons_succ, List.setIfInBounds_toArray, List.set_cons_zero, List.set_cons_succ]
                    refine anyZ_take 9 8 (v := undef) rfl (by kernel_rfl) (fun _ _ _ h => h.elim) (Or.inr ⟨by rfl, rfl⟩) HS ?_
                    try simp only [Act.put, List.getElem_toArray, List.getElem_cons_zero, List.getElem_cons_succ, List.setIfInBounds_toArray, List.set_cons_zero, List.set_cons_succ]
                    refine anyZ_take 10 8 (v := undef) rfl (by kernel_rfl) (fun _ _ _ h => h.elim) (Or.inr ⟨by rfl, rfl⟩) HS ?_
                    try simp only [Act.put, List.getElem_toArray, List.getElem_cons_zero, List.getElem_cons_succ, List.setIfInBounds_toArray, List.set_cons_zero, List.set_cons_succ]
                    refine anyZ_take 11 8 (v := undef) rfl (by kernel_rfl) (fun _ _ _ h => h.elim) (Or.inr ⟨by rfl, rfl⟩) HS ?_
                    try simp only [Act.put, List.getElem_toArray, List.getElem_cons_zero, List.getElem_cons_succ, List.setIfInBounds_toArray, List.set_cons_zero, List.set_cons_succ]
                    refine anyZ_take 12 8 (v := undef) rfl (by kernel_rfl) (fun _ _ _ h => h.elim) (Or.inr ⟨by rfl, rfl⟩) HS ?_
                    try simp only [Act.put, List.getElem_toArray, List.getElem_cons_zero, List.getElem_cons_succ, List.setIfInBounds_toArray, List.set_cons_zero, List.set_cons_succ]
                    refine anyZ_take 13 8 (v := undef) rfl (by kernel_rfl) (fun _ _ _ h => h.elim) (Or.inr ⟨by rfl, rfl⟩) HS ?_
                    try simp only [Act.put, List.getElem_toArray, List.getElem_cons_zero, List.getElem_cons_succ, List.setIfInBounds_toArray, List.set_cons_zero, List.set_cons_succ]
                    refine anyZ_take 14 8 (v := .bool true) rfl (by kernel_rfl) (fun _ _ _ h => h.elim) (Or.inl ⟨by rfl, fun wx hx => by obtain - := hx; clear HS; go_simp⟩) HS ?_
                    try simp only [Act.put, List.getElem_toArray, List.getElem_cons_zero, List.getElem_cons_succ, List.setIfInBounds_toArray, List.set_cons_zero, List.set_cons_succ]
                    refine anyZ_take 15 8 (v := .bool true) rfl (by kernel_rfl) (fun _ _ _ h => h.elim) (Or.inl ⟨by rfl, fun wx hx => run_assign (by rfl) (by rfl)⟩) HS ?_
                    try simp only [Act.put, List.getElem_toArray, List.getElem_cons_zero, List.getElem_cons_succ, List.setIfInBounds_toArray, List.set_cons_zero, List.set_cons_succ]
                    refine anyZ_done (by kernel_rfl) ?_ _
                    dsimp only [Only, Exit.then]
                    clear HS
                    gi_wp2_with fail
                    go_roundw
                    case rel =>
                      refine ⟨true, k + 1, rfl, by go_num, by omega, ?_, Hbw.out.1⟩
                      rw [Hnx.out, List.mem_append, ← Hbw.out.2]
                      simp
                    case measure => simp only [intOf]; omega
                · have hk' : k = LB.length := by omega
                  subst hk'
                  rw [List.take_length] at hbk
                  obtain rfl : b = true := hbk.2 Hw6.out.2.2
                  have b6 := bt Hw6.out.2.1 hbw
                  obtain ⟨gl2, hgl2, -, -, -, l2⟩ := RE_at (HRr.out.1.upto b6) HRr.out.2
                  cases hgl2
                  have h10 : ¬ tc < 10 := by have h : 10 ≤ tc := HK.out.2; omega
                  have h10b : decide (tc < 10) = false := decide_eq_false h10
                  simp only at l2
                  have Hbw := hide (bt Hbr.out.1 b6)
                  clear hbk hbw b6
                  gi_wp2_with fail
                  go_roundw
                  case rel => exact ⟨i + 1, by go_num, by omega, Hbw.out⟩
                  case measure => simp only [intOf]; omega
            · have hi' : i = LQ.length := by omega
              subst hi'
              have HF := hide (bt HR.out.2.1 hbr)
              clear hbr
              gi_wp2_with fail
              exact ⟨Keep.of_below HF.out, trivial, bt HbX.out.1 HF.out⟩
        case stop => exact fun D pre Y hD hp h hK => h.elim
        case done =>
          rintro D xs Y hD hxs hI hK
          have HSY := hide (HSV.out.upto hI)
          have HIY := hide hI
          clear hI hseq
          gi_wp2_with fail
          refine ⟨trivial, ?_⟩
          refine (callsIn_wide.2 (HAw.out Y HSY.out.bel)).mono ?_
          rintro e w7 ⟨rfl, hb7⟩
          have HS7 := hide (HSY.out.upto hb7)
          have r0 := HS7.out.r.cell
          have r1 : w7.frozen? ⟨w.heap.size + 2, 0, none⟩ = false := by simp [World.frozen?, show w7.heap[w.heap.size + 2]? = _ from HS7.out.r]
          have hK7 := (hb7.block D (Array.getElem?_eq_some_iff.1 hK).1).trans hK
          clear hb7
          gi_wp2_with fail
          have hzD : w.heap.size + 3 ≤ D := Nat.le_trans HSV.out.z hD
          have hK8 : (w7.setCell ⟨w.heap.size + 1 + 1, 0, none⟩ (.bool true)).heap[D]? = some (.deferred (some [])) := (Below.heap_setCell _ _ _ _ (by simp only; omega)).trans hK7
          refine ⟨by simp, .inl ⟨_, _, rfl, run_takeDeferred hK8, ?_⟩⟩
          refine ⟨.bool true, ?_, rfl, (HS7.out.bel.setCell (by simp only; omega) _).trans (belowK_b (w := w) (Nat.le_refl _) _ D _ _ (by omega) hK8 rfl rfl)⟩
          have r2 : ((w7.setCell ⟨w.heap.size + 1 + 1, 0, none⟩ (.bool true)).putObj D (.deferred none)).cell? ⟨w.heap.size + 2, 0, none⟩ = some (.bool true) := by
            have h1 : (w7.setCell ⟨w.heap.size + 1 + 1, 0, none⟩ (.bool true)).cell? ⟨w.heap.size + 2, 0, none⟩ = some (.bool true) := by simp [go_sem, r0, r1]
            simp only [World.cell?] at h1 ⊢
            rw [World.putObj_heap_other (by omega)]
            exact h1
          simp [results, Tryz.f5, go_sem, r2]
end Go.Proofs.YthiafmlgialbnaaGreatDoor
set_option linter.unusedSimpArgs false
namespace Go.Proofs.YthiafmlgialbnaaGreatDoor
open Go.ChangeShapes Go.WideShapes Go.ChangeAt Go.WideMaps Go.WideElems Go.RowKit Go.Deep
set_option linter.unusedVariables false
set_option maxRecDepth 100000
theorem c27 : Tryz.prog.cellsOf 27 = 2 := by kernel_rfl
theorem shape_of {H : Type} {enc : TypeId × Value → H} {W : World} {base : Nat} {sp : Nat → Bool} {held : Bool} {fuel : Nat} {cs : List Value} {z : DataW H × List MemPlace} (h : DataW.trod enc Tryz.prog W base sp held fuel 27 cs = some z) :
    ∃ x y : Int, cs = [.int .i64 x, .int .i64 y] := by
  obtain ⟨y0, y1, n, rfl, hl, h0, h1⟩ := trod_struct2 Tryz.underlying27 h
  obtain ⟨a, e0, rfl, w0⟩ := DataW.trod_int Tryz.underlying3 h0
  obtain ⟨b, e1, rfl, w1⟩ := DataW.trod_int Tryz.underlying3 h1
  rw [c27] at hl
  match cs, hl, e0, e1 with
  | [u, v], _, e0, e1 =>
    simp [c3] at e0 e1
    subst e0; subst e1
    exact ⟨a, b, rfl⟩
theorem opened_shape {H : Type} {enc : TypeId × Value → H} {W : World} {base b0 : Nat} {sp : Nat → Bool} {held : Bool} {r : Reach} {v : Value} {d : DataW H} {p : List MemPlace} (hv : Value.okWide Tryz.prog W r b0 27 v) (h : DataW.Trod enc Tryz.prog W base sp held 27 v d p) :
    ∃ x y : Int, v = .agg #[.int .i64 x, .int .i64 y] := by
  obtain ⟨cs, rfl, hsz⟩ := okWide_struct Tryz.underlying27 hv
  obtain ⟨fuel, hf⟩ := h
  obtain ⟨x, y, hcs⟩ := shape_of hf
  refine ⟨x, y, ?_⟩
  obtain ⟨l⟩ := cs
  simp [Value.cells] at hcs
  subst hcs
  rfl
end Go.Proofs.YthiafmlgialbnaaGreatDoor
namespace Go.Proofs.YthiafmlgialbnaaGreatDoor.abstractBoth
open Go.ChangeShapes Go.WideShapes Go.ChangeAt Go.WideMaps Go.WideElems Go.RowKit
set_option linter.unusedVariables false
set_option maxRecDepth 100000
theorem lifted (os : Os) (started : os.Started) (H : Type) (enc : TypeId × Value → H) :
    ReturnsInHanded {} Tryz.checked os 5 .any (fun w args => (Rows.abstractBothSpec.pre enc Tryz.prog Tryz.f5 [] false w args ∧ laidMetH Tryz.prog laid1 w) ∧ sizedMet enc Tryz.prog Tryz.f5 (OpenSpec.ofChange Rows.abstractBothSpec) false w args)
      (Rows.abstractBothSpec.post enc Tryz.prog Tryz.f5 false true false false) := by
  refine returnsInHanded_of_change_and (C := Tryz.checked) (X := fun w _ => laidMetH Tryz.prog laid1 w) (fun _ _ _ hh h => h.of_heap hh) own started (by kernel_rfl) Tryz.func5
    (ChangeSpec.witness_shaped (enc := enc) (C := Tryz.checked) (os := os) (X := fun w _ => laidMetH Tryz.prog laid1 w) false (World.doorLaid Tryz.prog 400 os) #[.agg #[.int .i64 0, .int .i64 0, .slice none 0 0, .slice none 0 0], .agg #[.int .i64 0, .int .i64 0]] 8 rfl (World.shaped_of_RefB (by kernel_rfl) (by kernel_rfl)) (by kernel_rfl) (by kernel_rfl) (by kernel_rfl) (door_met os _)) ?_
  intro W base args ds gs before hval0 hW _ _ hL _
  have hval : ∀ (j : Nat) t v, Tryz.f5.params[j]? = some t → args[j]? = some v → Value.okWide Tryz.prog W .any base t v := hval0
  have hW' := hW
  obtain ⟨p, q, hA0, hV, rfl, hfz, hnd⟩ := hW
  have hA : DataW.TrodAll enc Tryz.prog W 0 (fun _ => true) true Tryz.f5.params.toList args.toList ds p := hA0
  rw [Tryz.params5] at hA hval
  obtain ⟨v0, vs0, d0, ds0, p0, q0, hargs, rfl, rfl, h0, r0⟩ := trodAll_cons hA
  obtain ⟨v1, vs1, d1, ds1, p1, q1, rfl, rfl, rfl, h1, r1⟩ := trodAll_cons r0
  obtain ⟨rfl, rfl, rfl⟩ := trodAll_nil r1
  obtain rfl : args = #[v0, v1] := by cases args; simp_all
  obtain ⟨rfl, rfl⟩ := trodVars_none hV
  have lt0 : ∀ x ∈ p0, x.block < W.heap.size := by obtain ⟨m, hm⟩ := h0; exact DataW.trod_lt m _ _ _ hm
  have lt1 : ∀ x ∈ p1, x.block < W.heap.size := by obtain ⟨m, hm⟩ := h1; exact DataW.trod_lt m _ _ _ hm
  obtain ⟨wd, ht, tv, bv, tl, L, rfl, hT, hTb, hB⟩ := opened_map (hval 0 25 v0 rfl rfl) h0
  obtain ⟨c, s, rfl⟩ := opened_shape (hval 1 27 v1 rfl rfl) h1
  clear hA0 hval0
  simp only [List.append_nil] at hW'
  refine (both_is wd ht tv bv tl L c s W hT hTb hB (grnd_of_laid hL) (offs_of_laid hL)).mono fun e W' ⟨he, hg⟩ => ?_
  subst he
  exact ⟨_, rfl, _, _, _, [], _, [], hW', trodAll_mk1 (shut_bool Tryz.underlying4 _), (trodAll_cons_mk (Below.trod laidOut (by kernel_rfl) (of_decide_eq_true (by kernel_rfl)) h0 hg lt0) (trodAll_cons_mk (Below.trod laidOut (by kernel_rfl) (of_decide_eq_true (by kernel_rfl)) h1 hg lt1) trodAll_mk0)), rfl, hg.frame _, fun h => by cases h⟩
theorem over : Rows.AbstractBothSaid :=
  OpenClaim.holds_of_wide 5 Tryz.f5 rfl rfl rfl rfl rfl rfl rfl ⟨rfl, rfl, rfl, rfl, rfl⟩ rfl rfl rfl rfl rfl (by kernel_rfl) Tryz.func5 (by kernel_rfl)
    (of_decide_eq_true (by kernel_rfl)) (by unfold Func.isWrapper; first | (rw [if_pos (by decide +kernel)]; kernel_rfl) | (rw [if_neg (by decide +kernel)]; exact ⟨rfl, rfl⟩))
    (fun os started H enc _ => lifted os started H enc)
end Go.Proofs.YthiafmlgialbnaaGreatDoor.abstractBoth
namespace Go.Proofs.YthiafmlgialbnaaGreatDoor
open Go
theorem abstractBoth_holds : Rows.AbstractBothCardSaid :=
  Claim7.holds_tied_plain_at .later [] [.data, .data] true (true, "e67930b1747408f059aa0dc104d416096385e1a9ce28b207fa2f510cc49f96dc") false
    abstractBoth.over (fun _ h => by cases h) (by kernel_rfl) (fun _ h => by cases h) abstractBoth_row_tie rfl ⟨rfl, rfl⟩ (by kernel_rfl) rfl
    (fun f fn hf hfn => by
      obtain rfl : f = 5 := Option.some.inj ((show Tryz.prog.funcNamed Rows.abstractBothRow.func = some 5 by kernel_rfl).symm.trans hf) |>.symm
      obtain rfl : fn = Tryz.f5 := (Option.some.inj (Tryz.func5.symm.trans hfn)).symm
      exact ⟨by kernel_rfl, fun j t ht => by
        rw [Tryz.params5] at ht
        have hm : t ∈ [25, 27] := by simpa using Array.mem_of_getElem? ht
        have hall : ([25, 27].all fun u => !Tryz.prog.wantsStandIn u) = true := by kernel_rfl
        exact (show Tryz.prog.wantsStandIn t = false by simpa using List.all_eq_true.1 hall t hm)⟩)
    (by kernel_rfl)
#print axioms abstractBoth_holds
end Go.Proofs.YthiafmlgialbnaaGreatDoor
