/-
  The walk of phalanxlaw02.WireBack.
-/
import Derived.Test.YtaioniegggfcjaaWritesWalk
import Derived.Test.YtaioniegggfcjaaBackFacts
import Derived.Test.YtaioniegggfcjaaSame
import Derived.BigQuiet
import Derived.Deep.DeepCutAuto
import Derived.Deep.RegionHeld3
namespace Go.Proofs.Ytaioniegggfcjaa
open Go.RowKit
set_option linter.unusedVariables false
set_option maxRecDepth 100000 in
set_option maxHeartbeats 2000000 in
theorem back (w : World) (vl : Value) (L : List It) (hl : Items w vl L) (hB : ∀ (i : Nat) (t : It), L[i]? = some t → Bys w t.s t.b) (hb : tot L ≤ 1000000000) :
    Calls Try.prog 5 #[vl] w fun e w' => e = .returned (.bool true) ∧ Below w.heap.size w w' := by
  have hbd := hl.bound hB
  obtain ⟨a, cap, rfl, hc, hx⟩ := hl
  have hLt : L.length ≤ tot L := by
    clear hx hB hb hc hbd
    induction L with
    | nil => simp
    | cons t L ih => simp only [tot, List.length_cons]; omega
  have Hx := hide hx
  have HB := hide hB
  have Hb := hide hb
  have Hbd := hide hbd
  have hLi : (L.length : Int) ≤ 1000000000 := by omega
  clear hx hB hb hbd hLt
  go_enter Try.func5, Try.ntmps5
  go_wp2_with fail
  go_loopw [3, 4] (fun b i wr => ∃ k : Nat, i = .int .i64 (k : Nat) ∧ k ≤ L.length ∧ Mine w.heap.size wr b (ibs (L.take k)) ∧ Below w.heap.size w wr) (fun _ i _ => L.length - (intOf i).toNat)
  case atStart => exact ⟨0, rfl, by omega, Mine.nil _ _, Below.refl _ _⟩
  case round =>
    obtain ⟨k, rfl, hk, hmine, hbl⟩ := hrel
    have HP := hide hmine
    have Hbl := hide hbl
    clear hmine hbl
    by_cases hkn : k < L.length
    · obtain ⟨t, ht⟩ : ∃ t, L[k]? = some t := ⟨_, List.getElem?_eq_getElem hkn⟩
      have hat := (Hx.out k t ht).kept Hbl.out
      obtain ⟨⟨b, o, rfl, hblk, d0, d1, d2, d3⟩, ⟨sa, sn, sc, hts⟩, hn, hm⟩ := hat
      have hsB := (HB.out k t ht).kept Hbl.out
      have hpart := tot_part L k t ht
      have hil := ibs_len (L.take k) (fun x hx => Hbd.out x (List.mem_of_mem_take hx))
      have hwr := written_any wr u3 (ibs (L.take k)) t.b t.d t.n t.s t.m HP.out.bys hsB hn (by have := Hb.out; omega)
      have Hnew : Hid (ibs (L.take (k + 1)) = ibs (L.take k) ++ ib t.d t.n t.b) := by show _ = _; rw [hpart.2, ibs_snoc]
      rw [hts] at hwr d2
      have Hwr := hide hwr
      have Hkn := hide hkn
      have hk1 : (k : Int) < L.length := by omega
      have hk3 : (0 : Int) ≤ k := by omega
      clear hwr hpart hil hn hsB hkn
      go_wp2_with fail
      refine Hwr.out.mono ?_
      rintro e w3 ⟨a1, n1, c1, a2, n2, c2, rfl, hb2, hor, hB3⟩
      have Hst : Hid (Mine w.heap.size w3 (.slice a1 n1 c1) (ibs (L.take (k + 1)))) := by
        show Mine _ _ _ _
        rw [Hnew.out]
        rcases hor with h | ⟨rfl, he⟩
        · exact h.mono Hbl.out.size
        · rw [he, List.append_nil]; exact HP.out.kept hB3
      have Hbl3 := hide (Hbl.out.trans (hB3.mono Hbl.out.size))
      clear hor hB3 hb2 Hwr
      go_wp2_with fail
      go_roundw
      case rel => exact ⟨k + 1, rfl, by have := Hkn.out; omega, Hst.out, Hbl3.out⟩
      case measure => simp [intOf]; have := Hkn.out; omega
    · obtain rfl : k = L.length := by omega
      have hk1 : ¬ (L.length : Int) < L.length := by omega
      rw [List.take_length] at HP
      clear hkn
      go_wp2_with fail
      refine (read_any wr _ (ibs L) HP.out.bys).mono ?_
      rintro e w2 ⟨g, rfl, hg, hr, hb2⟩
      have Hr := hide hr
      have Hb2 := hide (Hbl.out.trans (hb2.mono Hbl.out.size))
      have Hg : Hid (w.heap.size ≤ g) := Nat.le_trans Hbl.out.size hg
      clear hr hb2 hg
      go_wp2_with fail
      rename World => wo
      go_loopw [6] (fun i wr => ∃ k : Nat, i = .int .i64 (k : Nat) ∧ k ≤ L.length ∧ Rd wr g (ibs L) (ibs (L.take k)).length 0 ∧ Below w.heap.size w wr) (fun i _ => L.length - (intOf i).toNat)
      case atStart => exact ⟨0, rfl, by omega, Hr.out, Hb2.out⟩
      case round =>
        obtain ⟨k, rfl, hk, hrd, hbl⟩ := hrel
        have HR := hide hrd
        have HL := hide hbl
        clear hrd hbl
        by_cases hkn : k < L.length
        · obtain ⟨t, ht⟩ : ∃ t, L[k]? = some t := ⟨_, List.getElem?_eq_getElem hkn⟩
          have hat := (Hx.out k t ht).kept HL.out
          obtain ⟨⟨b, o, rfl, hblk, d0, d1, d2, d3⟩, ⟨sa, sn, sc, hts⟩, hn, hm⟩ := hat
          rw [hts] at d2
          have Hkn := hide hkn
          have hk2 : (k : Int) < L.length := by omega
          have hk3 : (0 : Int) ≤ k := by omega
          clear hkn
          obtain ⟨W, hW⟩ := box_is wr t.d (t.n : Nat) t.m sa sn sc
          have hgb : wr.heap.size ≠ g := fun h => by have := HR.out.1.1; omega
          have hI0 : BInv w W g wr.heap.size (ibs L) (ibs (L.take k)).length t.d (t.n : Nat) (.slice sa sn sc) := ⟨⟨hW.c0, hW.c1, hW.c2⟩, HR.out.keptBy (below_grown hW.below) rfl, HL.out.trans (hW.below.mono HL.out.size), hgb, Hg.out⟩
          have hatL := ibs_at L k t ht
          have hbys := HB.out k t ht
          have hsn : sn = t.b.length := by
            obtain ⟨_, _, a', c', he, _⟩ := hbys
            rw [hts] at he
            injection he
          have HW := hide hW
          have Hat := hide hatL
          have Hbys := hide hbys
          have Hn := hide hn
          have Hsn := hide hsn
          clear hW hatL hbys hn hsn
          rw [hts] at Hbys
          obtain ⟨T, hT⟩ : ∃ T, T = ibs L := ⟨_, rfl⟩
          obtain ⟨P, hP⟩ : ∃ P, P = (ibs (L.take k)).length := ⟨_, rfl⟩
          rw [← hT, ← hP] at hI0 Hat
          have HI0 := hide hI0
          clear hI0
          go_wp2_with fail
          rw [← HW.out.eq]
          generalize wr.heap.size = gb at *
          by_cases hd : t.d = 0
          · have Hib : Hid (ib t.d t.n t.b = enc t.n) := by show _ = _; unfold ib; rw [if_pos hd]
            rw [Hib.out] at Hat
            rw [hd] at HI0
            go_cut [37] from 27 to 97 (fun s wx => s = .bool false ∧ BInv w wx g gb T (P + (enc t.n).length) 0 (t.n : Nat) (.slice sa sn sc))
            case first =>
              obtain ⟨q0, q1, q2⟩ := HI0.out.1
              have hkd := HI0.out.same (bsame_drew W)
              have hbk := back_uv Hat.out.1 Hn.out
              have hc := uv_any W.drew g T P 0 hkd.2.1
              rw [hbk.1, hbk.2.1, hbk.2.2] at hc
              have Hc := hide hc
              clear hc hbk
              have Hk := hide (fun (w1 : World) (g1 : W.drew.grownBy w1 (some g)) => And.intro (g1.cell (a := ⟨gb, 0, none⟩) q0 (by simp; exact hgb)) (g1.cell (a := ⟨gb, 1, none⟩) q1 (by simp; exact hgb)))
              go_region_held3 (fun w' => w'.cell? ⟨gb, 0, none⟩ = some (.int .i64 0) ∧ w'.cell? ⟨gb, 1, none⟩ = some (.int .u64 (t.n : Nat)))
                (first | exact ⟨q0, q1⟩ | exact Hk.out _ g1)
                (first
                  | (go_at_call 13; refine Hc.out.mono ?_; rintro x w1 ⟨rfl, h1, g1⟩))
              all_goals
                go_wp2_with fail
                go_meet
                exact ⟨rfl, hkd.turned g1 h1⟩
            case rest =>
            obtain ⟨rfl, hI⟩ := hcut
            have HJ1 := hide hI
            clear hI
            go_wp2_with fail
            rename World => wc1
            go_cut [48] from 27 to 97 (fun s wx => s = .bool false ∧ BInv w wx g gb T (P + (enc t.n).length) 0 (t.n : Nat) (.slice sa sn sc))
            case first =>
              obtain ⟨q0, q1, q2⟩ := HJ1.out.1
              go_quiet (fail)
              go_wp2_with fail
              go_meet
              exact ⟨rfl, HJ1.out.same (same_drewN _ _)⟩
            case rest =>
            obtain ⟨rfl, hI⟩ := hcut
            have HJ2 := hide hI
            clear hI
            go_wp2_with fail
            rename World => wc2
            go_cut [60] from 27 to 97 (fun s wx => s = .bool false ∧ BInv w wx g gb T (P + (enc t.n).length) 0 (t.n : Nat) (.slice sa sn sc))
            case first =>
              obtain ⟨q0, q1, q2⟩ := HJ2.out.1
              go_quiet (fail)
              go_wp2_with fail
              go_meet
              exact ⟨rfl, HJ2.out.same (same_drewN _ _)⟩
            case rest =>
            obtain ⟨rfl, hI⟩ := hcut
            have HJ3 := hide hI
            clear hI
            go_wp2_with fail
            rename World => wc3
            go_cut [72] from 27 to 97 (fun s wx => s = .bool false ∧ BInv w wx g gb T (P + (enc t.n).length) 0 (t.n : Nat) (.slice sa sn sc))
            case first =>
              obtain ⟨q0, q1, q2⟩ := HJ3.out.1
              go_quiet (fail)
              go_wp2_with fail
              go_meet
              exact ⟨rfl, HJ3.out.same (same_drewN _ _)⟩
            case rest =>
            obtain ⟨rfl, hI⟩ := hcut
            have HJ4 := hide hI
            clear hI
            go_wp2_with fail
            rename World => wc4
            go_cut [83] from 27 to 97 (fun s wx => s = .bool false ∧ BInv w wx g gb T (P + (enc t.n).length) 0 (t.n : Nat) (.slice sa sn sc))
            case first =>
              obtain ⟨q0, q1, q2⟩ := HJ4.out.1
              go_quiet (fail)
              go_wp2_with fail
              go_meet
              exact ⟨rfl, HJ4.out.same (same_drewN _ _)⟩
            case rest =>
            obtain ⟨rfl, hI⟩ := hcut
            have HJ5 := hide hI
            clear hI
            go_wp2_with fail
            rename World => wc5
            go_roundw
            case rel => exact ⟨k + 1, rfl, by have := Hkn.out; omega, by rw [Hat.out.2, ← hT]; exact HJ5.out.2.1, HJ5.out.2.2.1⟩
            case measure => simp [intOf]; have := Hkn.out; omega
          have n0 := hd
          clear hd
          by_cases hd : t.d = 1
          · have Hib : Hid (ib t.d t.n t.b = enc (zig (sgn t.n))) := by show _ = _; unfold ib; rw [if_neg (by omega), if_pos hd]
            rw [Hib.out] at Hat
            rw [hd] at HI0
            have hw := sgn_wrap t.n Hn.out
            have hw2 : IntKind.i64.wrap (t.n : Int) = sgn t.n := by rw [IntKind.wrap_i64]; have := Hn.out; unfold sgn; split <;> omega
            go_cut [37] from 27 to 97 (fun s wx => s = .bool false ∧ BInv w wx g gb T P 1 (t.n : Nat) (.slice sa sn sc))
            case first =>
              obtain ⟨q0, q1, q2⟩ := HI0.out.1
              go_quiet (fail)
              go_wp2_with fail
              go_meet
              exact ⟨rfl, HI0.out.same (same_drewN _ _)⟩
            case rest =>
            obtain ⟨rfl, hI⟩ := hcut
            have HJ1 := hide hI
            clear hI
            go_wp2_with fail
            rename World => wc1
            go_cut [48] from 27 to 97 (fun s wx => s = .bool false ∧ BInv w wx g gb T (P + (enc (zig (sgn t.n))).length) 1 (t.n : Nat) (.slice sa sn sc))
            case first =>
              obtain ⟨q0, q1, q2⟩ := HJ1.out.1
              have hkd := HJ1.out.same (bsame_drew wc1)
              have hbk := back_uv Hat.out.1 (zig_lt (sgn_range Hn.out))
              have hc := vr_any wc1.drew g T P 0 hkd.2.1
              rw [hbk.1, hbk.2.1, hbk.2.2, zag_zig] at hc
              have Hc := hide hc
              clear hc hbk
              have Hk := hide (fun (w1 : World) (g1 : wc1.drew.grownBy w1 (some g)) => And.intro (g1.cell (a := ⟨gb, 0, none⟩) q0 (by simp; exact hgb)) (g1.cell (a := ⟨gb, 1, none⟩) q1 (by simp; exact hgb)))
              go_region_held3 (fun w' => w'.cell? ⟨gb, 0, none⟩ = some (.int .i64 1) ∧ w'.cell? ⟨gb, 1, none⟩ = some (.int .u64 (t.n : Nat)))
                (first | exact ⟨q0, q1⟩ | exact Hk.out _ g1)
                (first
                  | (go_at_call 14; refine Hc.out.mono ?_; rintro x w1 ⟨rfl, h1, g1⟩))
              all_goals
                go_wp2_with fail
                go_meet
                exact ⟨rfl, hkd.turned g1 h1⟩
            case rest =>
            obtain ⟨rfl, hI⟩ := hcut
            have HJ2 := hide hI
            clear hI
            go_wp2_with fail
            rename World => wc2
            go_cut [60] from 27 to 97 (fun s wx => s = .bool false ∧ BInv w wx g gb T (P + (enc (zig (sgn t.n))).length) 1 (t.n : Nat) (.slice sa sn sc))
            case first =>
              obtain ⟨q0, q1, q2⟩ := HJ2.out.1
              go_quiet (fail)
              go_wp2_with fail
              go_meet
              exact ⟨rfl, HJ2.out.same (same_drewN _ _)⟩
            case rest =>
            obtain ⟨rfl, hI⟩ := hcut
            have HJ3 := hide hI
            clear hI
            go_wp2_with fail
            rename World => wc3
            go_cut [72] from 27 to 97 (fun s wx => s = .bool false ∧ BInv w wx g gb T (P + (enc (zig (sgn t.n))).length) 1 (t.n : Nat) (.slice sa sn sc))
            case first =>
              obtain ⟨q0, q1, q2⟩ := HJ3.out.1
              go_quiet (fail)
              go_wp2_with fail
              go_meet
              exact ⟨rfl, HJ3.out.same (same_drewN _ _)⟩
            case rest =>
            obtain ⟨rfl, hI⟩ := hcut
            have HJ4 := hide hI
            clear hI
            go_wp2_with fail
            rename World => wc4
            go_cut [83] from 27 to 97 (fun s wx => s = .bool false ∧ BInv w wx g gb T (P + (enc (zig (sgn t.n))).length) 1 (t.n : Nat) (.slice sa sn sc))
            case first =>
              obtain ⟨q0, q1, q2⟩ := HJ4.out.1
              go_quiet (fail)
              go_wp2_with fail
              go_meet
              exact ⟨rfl, HJ4.out.same (same_drewN _ _)⟩
            case rest =>
            obtain ⟨rfl, hI⟩ := hcut
            have HJ5 := hide hI
            clear hI
            go_wp2_with fail
            rename World => wc5
            go_roundw
            case rel => exact ⟨k + 1, rfl, by have := Hkn.out; omega, by rw [Hat.out.2, ← hT]; exact HJ5.out.2.1, HJ5.out.2.2.1⟩
            case measure => simp [intOf]; have := Hkn.out; omega
          have n1 := hd
          clear hd
          by_cases hd : t.d = 2
          · have Hib : Hid (ib t.d t.n t.b = le 4 (t.n % 4294967296)) := by show _ = _; unfold ib; rw [if_neg (by omega), if_neg (by omega), if_pos hd]
            rw [Hib.out] at Hat
            rw [hd] at HI0
            have hw : IntKind.u32.wrap (t.n : Int) = (t.n : Int) % 4294967296 := by rw [IntKind.wrap_u32]
            go_cut [37] from 27 to 97 (fun s wx => s = .bool false ∧ BInv w wx g gb T P 2 (t.n : Nat) (.slice sa sn sc))
            case first =>
              obtain ⟨q0, q1, q2⟩ := HI0.out.1
              go_quiet (fail)
              go_wp2_with fail
              go_meet
              exact ⟨rfl, HI0.out.same (same_drewN _ _)⟩
            case rest =>
            obtain ⟨rfl, hI⟩ := hcut
            have HJ1 := hide hI
            clear hI
            go_wp2_with fail
            rename World => wc1
            go_cut [48] from 27 to 97 (fun s wx => s = .bool false ∧ BInv w wx g gb T P 2 (t.n : Nat) (.slice sa sn sc))
            case first =>
              obtain ⟨q0, q1, q2⟩ := HJ1.out.1
              go_quiet (fail)
              go_wp2_with fail
              go_meet
              exact ⟨rfl, HJ1.out.same (same_drewN _ _)⟩
            case rest =>
            obtain ⟨rfl, hI⟩ := hcut
            have HJ2 := hide hI
            clear hI
            go_wp2_with fail
            rename World => wc2
            go_cut [60] from 27 to 97 (fun s wx => s = .bool false ∧ BInv w wx g gb T (P + 4) 2 (t.n : Nat) (.slice sa sn sc))
            case first =>
              obtain ⟨q0, q1, q2⟩ := HJ2.out.1
              have hkd := HJ2.out.same (bsame_drew wc2)
              have hbk := back_fix (m := 4) Hat.out.1 (by rw [show (256 : Nat) ^ 4 = 4294967296 by decide]; omega)
              have hc := fixed4_any wc2.drew g T P 0 hkd.2.1
              rw [hbk.1, hbk.2.1, hbk.2.2, show ((t.n % 4294967296 : Nat) : Int) = (t.n : Int) % 4294967296 by omega] at hc
              have Hc := hide hc
              clear hc hbk
              have Hk := hide (fun (w1 : World) (g1 : wc2.drew.grownBy w1 (some g)) => And.intro (g1.cell (a := ⟨gb, 0, none⟩) q0 (by simp; exact hgb)) (g1.cell (a := ⟨gb, 1, none⟩) q1 (by simp; exact hgb)))
              go_region_held3 (fun w' => w'.cell? ⟨gb, 0, none⟩ = some (.int .i64 2) ∧ w'.cell? ⟨gb, 1, none⟩ = some (.int .u64 (t.n : Nat)))
                (first | exact ⟨q0, q1⟩ | exact Hk.out _ g1)
                (first
                  | (go_at_call 15; refine Hc.out.mono ?_; rintro x w1 ⟨rfl, h1, g1⟩))
              all_goals
                go_wp2_with fail
                go_meet
                exact ⟨rfl, hkd.turned g1 h1⟩
            case rest =>
            obtain ⟨rfl, hI⟩ := hcut
            have HJ3 := hide hI
            clear hI
            go_wp2_with fail
            rename World => wc3
            go_cut [72] from 27 to 97 (fun s wx => s = .bool false ∧ BInv w wx g gb T (P + 4) 2 (t.n : Nat) (.slice sa sn sc))
            case first =>
              obtain ⟨q0, q1, q2⟩ := HJ3.out.1
              go_quiet (fail)
              go_wp2_with fail
              go_meet
              exact ⟨rfl, HJ3.out.same (same_drewN _ _)⟩
            case rest =>
            obtain ⟨rfl, hI⟩ := hcut
            have HJ4 := hide hI
            clear hI
            go_wp2_with fail
            rename World => wc4
            go_cut [83] from 27 to 97 (fun s wx => s = .bool false ∧ BInv w wx g gb T (P + 4) 2 (t.n : Nat) (.slice sa sn sc))
            case first =>
              obtain ⟨q0, q1, q2⟩ := HJ4.out.1
              go_quiet (fail)
              go_wp2_with fail
              go_meet
              exact ⟨rfl, HJ4.out.same (same_drewN _ _)⟩
            case rest =>
            obtain ⟨rfl, hI⟩ := hcut
            have HJ5 := hide hI
            clear hI
            go_wp2_with fail
            rename World => wc5
            go_roundw
            case rel => exact ⟨k + 1, rfl, by have := Hkn.out; omega, by rw [Hat.out.2, ← hT]; exact HJ5.out.2.1, HJ5.out.2.2.1⟩
            case measure => simp [intOf]; have := Hkn.out; omega
          have n2 := hd
          clear hd
          by_cases hd : t.d = 3
          · have Hib : Hid (ib t.d t.n t.b = le 8 t.n) := by show _ = _; unfold ib; rw [if_neg (by omega), if_neg (by omega), if_neg (by omega), if_pos hd]
            rw [Hib.out] at Hat
            rw [hd] at HI0
            go_cut [37] from 27 to 97 (fun s wx => s = .bool false ∧ BInv w wx g gb T P 3 (t.n : Nat) (.slice sa sn sc))
            case first =>
              obtain ⟨q0, q1, q2⟩ := HI0.out.1
              go_quiet (fail)
              go_wp2_with fail
              go_meet
              exact ⟨rfl, HI0.out.same (same_drewN _ _)⟩
            case rest =>
            obtain ⟨rfl, hI⟩ := hcut
            have HJ1 := hide hI
            clear hI
            go_wp2_with fail
            rename World => wc1
            go_cut [48] from 27 to 97 (fun s wx => s = .bool false ∧ BInv w wx g gb T P 3 (t.n : Nat) (.slice sa sn sc))
            case first =>
              obtain ⟨q0, q1, q2⟩ := HJ1.out.1
              go_quiet (fail)
              go_wp2_with fail
              go_meet
              exact ⟨rfl, HJ1.out.same (same_drewN _ _)⟩
            case rest =>
            obtain ⟨rfl, hI⟩ := hcut
            have HJ2 := hide hI
            clear hI
            go_wp2_with fail
            rename World => wc2
            go_cut [60] from 27 to 97 (fun s wx => s = .bool false ∧ BInv w wx g gb T P 3 (t.n : Nat) (.slice sa sn sc))
            case first =>
              obtain ⟨q0, q1, q2⟩ := HJ2.out.1
              go_quiet (fail)
              go_wp2_with fail
              go_meet
              exact ⟨rfl, HJ2.out.same (same_drewN _ _)⟩
            case rest =>
            obtain ⟨rfl, hI⟩ := hcut
            have HJ3 := hide hI
            clear hI
            go_wp2_with fail
            rename World => wc3
            go_cut [72] from 27 to 97 (fun s wx => s = .bool false ∧ BInv w wx g gb T (P + 8) 3 (t.n : Nat) (.slice sa sn sc))
            case first =>
              obtain ⟨q0, q1, q2⟩ := HJ3.out.1
              have hkd := HJ3.out.same (bsame_drew wc3)
              have hbk := back_fix (m := 8) Hat.out.1 (by rw [show (256 : Nat) ^ 8 = 18446744073709551616 by decide]; exact Hn.out)
              have hc := fixed8_any wc3.drew g T P 0 hkd.2.1
              rw [hbk.1, hbk.2.1, hbk.2.2] at hc
              have Hc := hide hc
              clear hc hbk
              have Hk := hide (fun (w1 : World) (g1 : wc3.drew.grownBy w1 (some g)) => And.intro (g1.cell (a := ⟨gb, 0, none⟩) q0 (by simp; exact hgb)) (g1.cell (a := ⟨gb, 1, none⟩) q1 (by simp; exact hgb)))
              go_region_held3 (fun w' => w'.cell? ⟨gb, 0, none⟩ = some (.int .i64 3) ∧ w'.cell? ⟨gb, 1, none⟩ = some (.int .u64 (t.n : Nat)))
                (first | exact ⟨q0, q1⟩ | exact Hk.out _ g1)
                (first
                  | (go_at_call 16; refine Hc.out.mono ?_; rintro x w1 ⟨rfl, h1, g1⟩))
              all_goals
                go_wp2_with fail
                go_meet
                exact ⟨rfl, hkd.turned g1 h1⟩
            case rest =>
            obtain ⟨rfl, hI⟩ := hcut
            have HJ4 := hide hI
            clear hI
            go_wp2_with fail
            rename World => wc4
            go_cut [83] from 27 to 97 (fun s wx => s = .bool false ∧ BInv w wx g gb T (P + 8) 3 (t.n : Nat) (.slice sa sn sc))
            case first =>
              obtain ⟨q0, q1, q2⟩ := HJ4.out.1
              go_quiet (fail)
              go_wp2_with fail
              go_meet
              exact ⟨rfl, HJ4.out.same (same_drewN _ _)⟩
            case rest =>
            obtain ⟨rfl, hI⟩ := hcut
            have HJ5 := hide hI
            clear hI
            go_wp2_with fail
            rename World => wc5
            go_roundw
            case rel => exact ⟨k + 1, rfl, by have := Hkn.out; omega, by rw [Hat.out.2, ← hT]; exact HJ5.out.2.1, HJ5.out.2.2.1⟩
            case measure => simp [intOf]; have := Hkn.out; omega
          have n3 := hd
          clear hd
          by_cases hd : t.d = 6
          · have Hib : Hid (ib t.d t.n t.b = enc sn ++ t.b) := by show _ = _; rw [Hsn.out]; unfold ib; rw [if_neg (by omega), if_neg (by omega), if_neg (by omega), if_neg (by omega), if_pos hd]
            rw [Hib.out] at Hat
            rw [hd] at HI0
            have hsz := Hbys.out.len
            go_cut [37] from 27 to 97 (fun s wx => s = .bool false ∧ BInv w wx g gb T P 6 (t.n : Nat) (.slice sa sn sc))
            case first =>
              obtain ⟨q0, q1, q2⟩ := HI0.out.1
              go_quiet (fail)
              go_wp2_with fail
              go_meet
              exact ⟨rfl, HI0.out.same (same_drewN _ _)⟩
            case rest =>
            obtain ⟨rfl, hI⟩ := hcut
            have HJ1 := hide hI
            clear hI
            go_wp2_with fail
            rename World => wc1
            go_cut [48] from 27 to 97 (fun s wx => s = .bool false ∧ BInv w wx g gb T P 6 (t.n : Nat) (.slice sa sn sc))
            case first =>
              obtain ⟨q0, q1, q2⟩ := HJ1.out.1
              go_quiet (fail)
              go_wp2_with fail
              go_meet
              exact ⟨rfl, HJ1.out.same (same_drewN _ _)⟩
            case rest =>
            obtain ⟨rfl, hI⟩ := hcut
            have HJ2 := hide hI
            clear hI
            go_wp2_with fail
            rename World => wc2
            go_cut [60] from 27 to 97 (fun s wx => s = .bool false ∧ BInv w wx g gb T P 6 (t.n : Nat) (.slice sa sn sc))
            case first =>
              obtain ⟨q0, q1, q2⟩ := HJ2.out.1
              go_quiet (fail)
              go_wp2_with fail
              go_meet
              exact ⟨rfl, HJ2.out.same (same_drewN _ _)⟩
            case rest =>
            obtain ⟨rfl, hI⟩ := hcut
            have HJ3 := hide hI
            clear hI
            go_wp2_with fail
            rename World => wc3
            go_cut [72] from 27 to 97 (fun s wx => s = .bool false ∧ BInv w wx g gb T P 6 (t.n : Nat) (.slice sa sn sc))
            case first =>
              obtain ⟨q0, q1, q2⟩ := HJ3.out.1
              go_quiet (fail)
              go_wp2_with fail
              go_meet
              exact ⟨rfl, HJ3.out.same (same_drewN _ _)⟩
            case rest =>
            obtain ⟨rfl, hI⟩ := hcut
            have HJ4 := hide hI
            clear hI
            go_wp2_with fail
            rename World => wc4
            go_cut [83] from 27 to 97 (fun s wx => s = .bool false ∧ BInv w wx g gb T (P + (enc sn ++ t.b).length) 6 (t.n : Nat) (.slice sa sn sc))
            case first =>
              obtain ⟨q0, q1, q2⟩ := HJ4.out.1
              have hkd := HJ4.out.same (bsame_drew wc4)
              have hbk := back_by (by rw [← Hsn.out]; exact Hat.out.1) (by omega)
              have hc := bytes_any wc4.drew g T P 0 (t.b.length : Nat) hkd.2.1 (by omega)
              rw [hbk.1, hbk.2.1, hbk.2.2, ← Hsn.out] at hc
              have Hc := hide hc
              clear hc hbk
              have Hsame := hide (fun (w1 : World) (v1 : Value) (b1 : Bys w1 v1 t.b) (h1 : Rd w1 g T (P + (enc sn ++ t.b).length) 0) (g1 : wc4.drew.grownBy w1 (some g)) => same_any w1 v1 (.slice sa sn sc) t.b t.b b1 (Hbys.out.kept (hkd.turned g1 h1).2.2.1))
              have Hk := hide (fun (w1 : World) (g1 : wc4.drew.grownBy w1 (some g)) => And.intro (g1.cell (a := ⟨gb, 0, none⟩) q0 (by simp; exact hgb)) (g1.cell (a := ⟨gb, 2, none⟩) q2 (by simp; exact hgb)))
              go_region_held3 (fun w' => w'.cell? ⟨gb, 0, none⟩ = some (.int .i64 6) ∧ w'.cell? ⟨gb, 2, none⟩ = some (.slice sa sn sc))
                (first | exact ⟨q0, q2⟩ | exact Hk.out _ g1)
                (first
                  | (go_at_call 17; refine Hc.out.mono ?_; rintro x w1 ⟨v1, rfl, b1, h1, g1⟩)
                  | (go_at_call 9; refine (Hsame.out _ _ b1 h1 g1).mono ?_; rintro x wz ⟨rfl, hwz⟩; rw [hwz]; clear hwz wz))
              all_goals
                go_wp2_with fail
                go_meet
                exact ⟨rfl, hkd.turned g1 h1⟩
            case rest =>
            obtain ⟨rfl, hI⟩ := hcut
            have HJ5 := hide hI
            clear hI
            go_wp2_with fail
            rename World => wc5
            go_roundw
            case rel => exact ⟨k + 1, rfl, by have := Hkn.out; omega, by rw [Hat.out.2, ← hT]; exact HJ5.out.2.1, HJ5.out.2.2.1⟩
            case measure => simp [intOf]; have := Hkn.out; omega
          have n6 := hd
          clear hd
          have Hib : Hid (ib t.d t.n t.b = []) := by show _ = _; unfold ib; rw [if_neg n0, if_neg n1, if_neg n2, if_neg n3, if_neg n6]
          rw [Hib.out] at Hat
          have z0 : (t.d == 0) = false := by simp; exact n0
          have z1 : (t.d == 1) = false := by simp; exact n1
          have z2 : (t.d == 2) = false := by simp; exact n2
          have z3 : (t.d == 3) = false := by simp; exact n3
          have z6 : (t.d == 6) = false := by simp; exact n6
          clear n0 n1 n2 n3 n6
          go_cut [37] from 27 to 97 (fun s wx => s = .bool false ∧ BInv w wx g gb T P t.d (t.n : Nat) (.slice sa sn sc))
          case first =>
            obtain ⟨q0, q1, q2⟩ := HI0.out.1
            go_quiet (fail)
            go_wp2_with fail
            go_meet
            exact ⟨rfl, HI0.out.same (same_drewN _ _)⟩
          case rest =>
          obtain ⟨rfl, hI⟩ := hcut
          have HJ1 := hide hI
          clear hI
          go_wp2_with fail
          rename World => wc1
          go_cut [48] from 27 to 97 (fun s wx => s = .bool false ∧ BInv w wx g gb T P t.d (t.n : Nat) (.slice sa sn sc))
          case first =>
            obtain ⟨q0, q1, q2⟩ := HJ1.out.1
            go_quiet (fail)
            go_wp2_with fail
            go_meet
            exact ⟨rfl, HJ1.out.same (same_drewN _ _)⟩
          case rest =>
          obtain ⟨rfl, hI⟩ := hcut
          have HJ2 := hide hI
          clear hI
          go_wp2_with fail
          rename World => wc2
          go_cut [60] from 27 to 97 (fun s wx => s = .bool false ∧ BInv w wx g gb T P t.d (t.n : Nat) (.slice sa sn sc))
          case first =>
            obtain ⟨q0, q1, q2⟩ := HJ2.out.1
            go_quiet (fail)
            go_wp2_with fail
            go_meet
            exact ⟨rfl, HJ2.out.same (same_drewN _ _)⟩
          case rest =>
          obtain ⟨rfl, hI⟩ := hcut
          have HJ3 := hide hI
          clear hI
          go_wp2_with fail
          rename World => wc3
          go_cut [72] from 27 to 97 (fun s wx => s = .bool false ∧ BInv w wx g gb T P t.d (t.n : Nat) (.slice sa sn sc))
          case first =>
            obtain ⟨q0, q1, q2⟩ := HJ3.out.1
            go_quiet (fail)
            go_wp2_with fail
            go_meet
            exact ⟨rfl, HJ3.out.same (same_drewN _ _)⟩
          case rest =>
          obtain ⟨rfl, hI⟩ := hcut
          have HJ4 := hide hI
          clear hI
          go_wp2_with fail
          rename World => wc4
          go_cut [83] from 27 to 97 (fun s wx => s = .bool false ∧ BInv w wx g gb T P t.d (t.n : Nat) (.slice sa sn sc))
          case first =>
            obtain ⟨q0, q1, q2⟩ := HJ4.out.1
            go_quiet (fail)
            go_wp2_with fail
            go_meet
            exact ⟨rfl, HJ4.out.same (same_drewN _ _)⟩
          case rest =>
          obtain ⟨rfl, hI⟩ := hcut
          have HJ5 := hide hI
          clear hI
          go_wp2_with fail
          rename World => wc5
          go_roundw
          case rel => exact ⟨k + 1, rfl, by have := Hkn.out; omega, by rw [Hat.out.2, ← hT]; exact HJ5.out.2.1, HJ5.out.2.2.1⟩
          case measure => simp [intOf]; have := Hkn.out; omega
        · obtain rfl : k = L.length := by omega
          rw [List.take_length] at HR
          have Hd := hide (done_any wr g (ibs L) _ 0 HR.out)
          have hdE : doneE (ibs L) (ibs L).length 0 = 0 := by simp [doneE]
          rw [hdE] at Hd
          have hk2 : ¬ (L.length : Int) < L.length := by omega
          clear hkn hdE
          go_wp2_with fail
          refine Hd.out.mono ?_
          rintro e w5 ⟨rfl, hs⟩
          have HL5 := hide (HL.out.trans (hs.below _))
          clear hs
          go_wp2_with fail
          refine (awake_any _).mono ?_; rintro e w9 ⟨rfl, hb9⟩
          have HB9 := hide (HL5.out.trans (hb9.mono HL5.out.size))
          clear hb9
          go_wp2_with fail
          go_ret
          exact ⟨rfl, HB9.out⟩
end Go.Proofs.Ytaioniegggfcjaa
