/-
  How many borders a path crosses, by the package and by the document.
-/
import Derived.Test.YtpikfplmghofbaaPath
set_option linter.unusedSimpArgs false
namespace Go.Proofs.Ytpikfplmghofbaa
open Go.RowKit
set_option linter.unusedVariables false
attribute [local go_sem] Oper.semAt_some
theorem apart_b (a b : Int) (w : World) (ha : smallK a) (hb : smallK b) : Calls Try.prog 20 #[.int .i64 a, .int .i64 b] w fun e w' => e = .returned (.int .i64 (apK a b)) ∧ Below w.heap.size w w' :=
  (apart_any a b w ha hb).mono fun e w' h => ⟨h.1, by rw [h.2]; exact Below.refl _ _⟩
theorem refapart_b (a b : Int) (w : World) (ha : smallK a) (hb : smallK b) : Calls Try.prog 21 #[.int .i64 a, .int .i64 b] w fun e w' => e = .returned (.int .i64 (apK a b)) ∧ Below w.heap.size w w' :=
  (refapart_any a b w ha hb).mono fun e w' h => ⟨h.1, by rw [h.2]; exact Below.refl _ _⟩
def crF : Int → Int → List (Int × Int) → Int → Int
  | _, _, [], n => n
  | kx, ky, q :: r, n => crF (q.1 / 8) (q.2 / 8) r (n + (apK kx (q.1 / 8) + apK ky (q.2 / 8)))
def crV (x y : Int) (P : List (Int × Int)) : Int := crF (x / 8) (y / 8) P 0
/-- All cells of a path are near. -/
def Nears (P : List (Int × Int)) : Prop := ∀ q ∈ P, nrC q.1 q.2 = true
theorem small_div {x : Int} (h : nr x = true) : smallK (x / 8) := by
  have := (nr_iff x).1 h
  unfold smallK
  omega
theorem near_w {x : Int} (h : nr x = true) : W64 x := w64_of (by have := (nr_iff x).1 h; omega)
theorem nrC_parts {x y : Int} (h : nrC x y = true) : nr x = true ∧ nr y = true := by rwa [nrC, Bool.and_eq_true] at h
set_option maxRecDepth 100000 in
set_option maxHeartbeats 4000000 in
theorem crossed_any (x y : Int) (v : Value) (P : List (Int × Int)) (w : World) (hv : CeR w v P) (hx : W64 x) (hy : W64 y) (hN : Nears P) (hF : P ≠ [] → nrC x y = true) (hlen : P.length * 16 ≤ 140737488355328) :
    Calls Try.prog 10 #[cel x y, v] w fun e w' => e = .returned (.int .i64 (crV x y P)) ∧ Below w.heap.size w w' := by
  have hv' := hv
  obtain ⟨a, cap, rfl, hcap, hmax, -, -⟩ := hv'
  have hl63 : (0 : Int) ≤ (P.length : Nat) ∧ ((P.length : Nat) : Int) ≤ 8796093022208 := by omega
  have B0 : Below w.heap.size w (w.alloc (.cells #[.int .i64 x, .int .i64 y] 23)) := box1 _ _
  have T0 : Two (w.alloc (.cells #[.int .i64 x, .int .i64 y] 23)) w.heap.size x y := Two.newAt rfl
  obtain ⟨X, hX⟩ : ∃ X, w.alloc (.cells #[.int .i64 x, .int .i64 y] 23) = X := ⟨_, rfl⟩
  rw [hX] at B0 T0
  obtain ⟨c, hc⟩ : ∃ c, crV x y P = c := ⟨_, rfl⟩
  have HO := hide (of_any x y hx hy)
  have hF' : P ≠ [] → smallK (x / 8) ∧ smallK (y / 8) := fun h => ⟨small_div (nrC_parts (hF h)).1, small_div (nrC_parts (hF h)).2⟩
  rw [hc]
  unfold crV at hc
  generalize x / 8 = kx0 at HO hc hF'
  generalize y / 8 = ky0 at HO hc hF'
  clear hx hy hF
  obtain ⟨⟨t0, t1⟩, -, -⟩ := id T0
  have HC := hide hc
  have HS := hide hF'
  have HN := hide hN
  have HL := hide hlen
  have HV := hide hv
  clear hc hF' hN hlen hv hmax hcap
  go_enter Try.func10, Try.ntmps10
  go_wp2_with fail
  have zX : X.heap.size = w.heap.size + 1 := by rw [← hX]; simp
  clear hX t0 t1 T0
  refine (HO.out X).mono ?_
  rintro e w1 ⟨rfl, hb1⟩
  clear HO
  have T1 : Two (w1.alloc (.cells #[.int .i64 kx0, .int .i64 ky0] 23)) w1.heap.size kx0 ky0 := Two.newAt rfl
  have B1 : Below w.heap.size w (w1.alloc (.cells #[.int .i64 kx0, .int .i64 ky0] 23)) := bt B0 (bt hb1 (box1 _ _))
  have hz1 : w.heap.size < w1.heap.size := by have := hb1.size; omega
  clear hb1
  go_wp2_with fail
  obtain ⟨Y0, hY0⟩ : ∃ Y0, w1.alloc (.cells #[.int .i64 kx0, .int .i64 ky0] 23) = Y0 := ⟨_, rfl⟩
  rw [hY0] at T1 B1 ⊢
  clear hY0
  go_loopw [5, 14] (fun s5 s14 wr => ∃ (k : Nat) (kx ky n : Int), k ≤ P.length ∧ s14 = .int .i64 k ∧ s5 = .int .i64 n ∧ (0 ≤ n ∧ n ≤ 524288 * k) ∧ crF kx ky (P.drop k) n = c ∧ (k < P.length → smallK kx ∧ smallK ky) ∧ Two wr w1.heap.size kx ky ∧ Below w.heap.size w wr) (fun s5 s14 _ => P.length - (intOf s14).toNat)
  case atStart => exact ⟨0, kx0, ky0, 0, Nat.zero_le _, rfl, rfl, by omega, by simpa using HC.out, fun h => HS.out (by rintro rfl; simp at h), T1, B1⟩
  case round =>
    obtain ⟨k, kx, ky, n, hk, rfl, rfl, hn, hco, hsk, hT, hB⟩ := hrel
    by_cases hlt : k < P.length
    · obtain ⟨q, hq⟩ : ∃ q, P[k]? = some q := ⟨_, List.getElem?_eq_getElem hlt⟩
      obtain ⟨g, o, hga, c0, c1⟩ : ∃ g o, a = some ⟨g, o, none⟩ ∧ wr.cell? ⟨g, o + k * 2, none⟩ = some (.int .i64 q.1) ∧ wr.cell? ⟨g, o + k * 2 + 1, none⟩ = some (.int .i64 q.2) := by
        obtain ⟨a', cap', he', _, _, _, hform⟩ := HV.out.kept hB
        obtain ⟨g', o', hgg, _, e1, e2⟩ := hform k q hq
        injection he' with h1 h2 h3
        exact ⟨g', o', h1.trans hgg, e1, e2⟩
      subst hga
      rw [drop_cons' hq, crF] at hco
      obtain ⟨hs1, hs2⟩ := hsk hlt
      have hnq := nrC_parts (HN.out q (List.mem_of_getElem? hq))
      have hs3 := small_div hnq.1
      have hs4 := small_div hnq.2
      have HQ := hide (of_any q.1 q.2 (near_w hnq.1) (near_w hnq.2))
      obtain ⟨qx, qy⟩ := q
      simp only at c0 c1 hco hs3 hs4 HQ
      generalize qx / 8 = nx at hco hs3 hs4 HQ
      generalize qy / 8 = ny at hco hs3 hs4 HQ
      have HA1 := hide (fun wx => apart_b kx nx wx hs1 hs3)
      have HA2 := hide (fun wx => apart_b ky ny wx hs2 hs4)
      obtain ⟨r1, r2⟩ := apK_range hs1 hs3
      obtain ⟨r3, r4⟩ := apK_range hs2 hs4
      have HS3 := hide (And.intro hs3 hs4)
      generalize apK kx nx = d1 at hco HA1 r1 r2
      generalize apK ky ny = d2 at hco HA2 r3 r4
      have HCo := hide hco
      have HLT := hide hlt
      clear hsk hs1 hs2 hs3 hs4 hnq hco hq
      have hki : (k : Int) < (P.length : Nat) := by omega
      obtain ⟨wa, hwa⟩ : ∃ wa, wr.alloc (.cells #[.int .i64 qx, .int .i64 qy] 23) = wa := ⟨_, rfl⟩
      have Ta : Two wa wr.heap.size qx qy := by rw [← hwa]; exact Two.newAt rfl
      have Ba : Below wr.heap.size wr wa := by rw [← hwa]; exact box1 _ _
      obtain ⟨⟨t0, t1⟩, -, -⟩ := id Ta
      go_wp2_with fail
      clear hwa c0 c1 t0 t1
      refine (HQ.out wa).mono ?_
      rintro e w2 ⟨rfl, hb2⟩
      clear HQ
      obtain ⟨wb, hwb⟩ : ∃ wb, w2.alloc (.cells #[.int .i64 nx, .int .i64 ny] 23) = wb := ⟨_, rfl⟩
      have Tb : Two wb w2.heap.size nx ny := by rw [← hwb]; exact Two.newAt rfl
      have Bb : Below w2.heap.size w2 wb := by rw [← hwb]; exact box1 _ _
      have BB : Below wr.heap.size wr wb := bt Ba (bt hb2 Bb)
      have Tk := hT.kept BB
      have HBB := hide (bt hB BB)
      clear hb2 Ba Bb BB hB hT Ta
      go_wp2_with fail
      clear hwb
      obtain ⟨k0, k1⟩ := Tk.lat
      obtain ⟨n0, n1⟩ := Tb.lat
      have hne := lat_some wb
      have HT := hide (And.intro Tk Tb)
      clear Tk Tb
      have e1 : IntKind.i64.wrap (d1 + d2) = d1 + d2 := by rw [IntKind.wrap_i64]; omega
      have e2 : IntKind.i64.wrap (n + (d1 + d2)) = n + (d1 + d2) := by rw [IntKind.wrap_i64]; omega
      have HR := hide (show 0 ≤ n + (d1 + d2) ∧ n + (d1 + d2) ≤ 524288 * ((k + 1 : Nat) : Int) by omega)
      have HK := hide hki
      clear r1 r2 r3 r4 hn hki hl63
      refine wp_region_lat (by kernel_rfl) (by kernel_rfl) ?_
      repeat (go_big_quiet_step (first | (go_at_call_of 20 kx; exact calls_lat (HA1.out _)) | (go_at_call_of 20 ky; exact calls_lat (HA2.out _))))
      refine wpQuiet_nil ?_
      rintro _ ⟨m, rfl⟩
      obtain ⟨Tk, Tb⟩ := HT.out
      have Tk2 := Tk.kept m.h
      have Tb2 := Tb.kept m.h
      obtain ⟨⟨f0, f1⟩, ⟨f2, f3⟩, fz⟩ := id Tk2
      obtain ⟨⟨u0, u1⟩, -, -⟩ := id Tb2
      have HM := hide (bt HBB.out m.h)
      clear k0 k1 n0 n1 hne HT Tk Tb Tb2 e1 e2 HA1 HA2 HBB
      have hkk : IntKind.i64.wrap ((k : Int) + 1) = (k : Int) + 1 := by have := HK.out; have := HL.out; rw [IntKind.wrap_i64]; omega
      generalize n + (d1 + d2) = n' at HR HCo ⊢
      go_wp2_with fail
      go_roundw
      case rel =>
        refine ⟨k + 1, nx, ny, n', by omega, by push_cast; rfl, rfl, HR.out, HCo.out, fun _ => HS3.out, Two.set Tk2, ?_⟩
        exact (HM.out.setCell (p := ⟨w1.heap.size, 0, none⟩) (by simp; omega) _).setCell (p := ⟨w1.heap.size, 1, none⟩) (by simp; omega) _
      case measure => simp [intOf]; omega
    · obtain rfl : k = P.length := by omega
      rw [List.drop_length, crF] at hco
      have hki : ¬ ((P.length : Nat) : Int) < (P.length : Nat) := by omega
      go_wp2_with fail
      go_ret
      first | exact ⟨ret_int hco, hB⟩ | exact ⟨rfl, hB⟩
set_option maxRecDepth 100000 in
set_option maxHeartbeats 8000000 in
theorem refcrossed_any (x y : Int) (v : Value) (P : List (Int × Int)) (w : World) (hv : CeR w v P) (hN : Nears P) (hF : P ≠ [] → nrC x y = true) (hlen : P.length * 16 ≤ 140737488355328) :
    Calls Try.prog 11 #[cel x y, v] w fun e w' => e = .returned (.int .i64 (crV x y P)) ∧ Below w.heap.size w w' := by
  have hv' := hv
  obtain ⟨a, cap, rfl, hcap, hmax, -, -⟩ := hv'
  have hl63 : (0 : Int) ≤ (P.length : Nat) ∧ ((P.length : Nat) : Int) ≤ 8796093022208 := by omega
  have B0 : Below w.heap.size w (w.alloc (.cells #[.int .i64 x, .int .i64 y] 23)) := box1 _ _
  have T0 : Two (w.alloc (.cells #[.int .i64 x, .int .i64 y] 23)) w.heap.size x y := Two.newAt rfl
  obtain ⟨X, hX⟩ : ∃ X, w.alloc (.cells #[.int .i64 x, .int .i64 y] 23) = X := ⟨_, rfl⟩
  rw [hX] at B0 T0
  obtain ⟨c, hc⟩ : ∃ c, crV x y P = c := ⟨_, rfl⟩
  rw [hc]
  unfold crV at hc
  have HC := hide hc
  have HN := hide hN
  have HF := hide hF
  have HL := hide hlen
  have HV := hide hv
  clear hc hF hN hlen hv hmax hcap
  go_enter Try.func11, Try.ntmps11
  go_wp2_with fail
  clear hX
  go_loopw [5, 6] (fun s5 s6 wr => ∃ (k : Nat) (fx fy n : Int), k ≤ P.length ∧ s6 = .int .i64 k ∧ s5 = .int .i64 n ∧ (0 ≤ n ∧ n ≤ 524288 * k) ∧ crF (fx / 8) (fy / 8) (P.drop k) n = c ∧ (k < P.length → nrC fx fy = true) ∧ Two wr w.heap.size fx fy ∧ Below w.heap.size w wr) (fun s5 s6 _ => P.length - (intOf s6).toNat)
  case atStart => exact ⟨0, x, y, 0, Nat.zero_le _, rfl, rfl, by omega, by simpa using HC.out, fun h => HF.out (by rintro rfl; simp at h), T0, B0⟩
  case round =>
    obtain ⟨k, fx, fy, n, hk, rfl, rfl, hn, hco, hsk, hT, hB⟩ := hrel
    by_cases hlt : k < P.length
    · obtain ⟨q, hq⟩ : ∃ q, P[k]? = some q := ⟨_, List.getElem?_eq_getElem hlt⟩
      obtain ⟨g, o, hga, hgl, c0, c1⟩ : ∃ g o, a = some ⟨g, o, none⟩ ∧ g < wr.heap.size ∧ wr.cell? ⟨g, o + k * 2, none⟩ = some (.int .i64 q.1) ∧ wr.cell? ⟨g, o + k * 2 + 1, none⟩ = some (.int .i64 q.2) := by
        obtain ⟨a', cap', he', _, _, _, hform⟩ := HV.out.kept hB
        obtain ⟨g', o', hgg, hl, e1, e2⟩ := hform k q hq
        injection he' with h1 h2 h3
        exact ⟨g', o', h1.trans hgg, hl, e1, e2⟩
      subst hga
      rw [drop_cons' hq, crF] at hco
      have hnf := nrC_parts (hsk hlt)
      have hnq := nrC_parts (HN.out q (List.mem_of_getElem? hq))
      have HNQ := hide (HN.out q (List.mem_of_getElem? hq))
      have hs1 := small_div hnf.1
      have hs2 := small_div hnf.2
      have hs3 := small_div hnq.1
      have hs4 := small_div hnq.2
      have HQ1 := hide (refof_any fx fy (near_w hnf.1) (near_w hnf.2))
      have HQ := hide (refof_any q.1 q.2 (near_w hnq.1) (near_w hnq.2))
      obtain ⟨qx, qy⟩ := q
      simp only at c0 c1 hco hs3 hs4 HQ HNQ
      have HE : Hid (∃ ex ey, qx / 8 = ex ∧ qy / 8 = ey) := hide ⟨_, _, rfl, rfl⟩
      obtain ⟨nx, hnx⟩ : ∃ e, qx / 8 = e := ⟨_, rfl⟩
      obtain ⟨ny, hny⟩ : ∃ e, qy / 8 = e := ⟨_, rfl⟩
      rw [hnx] at hco hs3 HQ
      rw [hny] at hco hs4 HQ
      have HX := hide (And.intro hnx hny)
      clear HE hnx hny
      generalize fx / 8 = kx at hco hs1 HQ1
      generalize fy / 8 = ky at hco hs2 HQ1
      have HA1 := hide (fun wx => refapart_b kx nx wx hs1 hs3)
      have HA2 := hide (fun wx => refapart_b ky ny wx hs2 hs4)
      obtain ⟨r1, r2⟩ := apK_range hs1 hs3
      obtain ⟨r3, r4⟩ := apK_range hs2 hs4
      generalize apK kx nx = d1 at hco HA1 r1 r2
      generalize apK ky ny = d2 at hco HA2 r3 r4
      have HCo := hide hco
      have HLT := hide hlt
      have e1 : IntKind.i64.wrap (n + d1) = n + d1 := by rw [IntKind.wrap_i64]; omega
      have e2 : IntKind.i64.wrap (n + d1 + d2) = n + (d1 + d2) := by rw [IntKind.wrap_i64]; omega
      have HR := hide (show 0 ≤ n + (d1 + d2) ∧ n + (d1 + d2) ≤ 524288 * ((k + 1 : Nat) : Int) by omega)
      have hki : (k : Int) < (P.length : Nat) := by omega
      have hkk : IntKind.i64.wrap ((k : Int) + 1) = (k : Int) + 1 := by rw [IntKind.wrap_i64]; omega
      clear hsk hs1 hs2 hs3 hs4 hnq hnf hco hq r1 r2 r3 r4 hn hl63
      have HG := hide hgl
      clear hgl
      obtain ⟨⟨t0, t1⟩, ⟨f0, f1⟩, z0⟩ := id hT
      go_wp2_with fail
      go_cut [7, 8] (fun s7 s8 wx => Ends wr wx s7 s8 kx ky nx ny)
      case first =>
        have HS : Hid (∀ w', Below wr.heap.size wr w' → (w'.cell? ⟨w.heap.size, 0, none⟩ = some (.int .i64 fx) ∧ w'.cell? ⟨w.heap.size, 1, none⟩ = some (.int .i64 fy) ∧ w'.cell? ⟨g, o + k * 2, none⟩ = some (.int .i64 qx) ∧ w'.cell? ⟨g, o + k * 2 + 1, none⟩ = some (.int .i64 qy)) ∧ Below wr.heap.size wr w') :=
          fun w' hb => ⟨⟨(hb.cell (p := ⟨w.heap.size, 0, none⟩) z0).trans t0, (hb.cell (p := ⟨w.heap.size, 1, none⟩) z0).trans t1, (hb.cell (p := ⟨g, o + k * 2, none⟩) HG.out).trans c0, (hb.cell (p := ⟨g, o + k * 2 + 1, none⟩) HG.out).trans c1⟩, hb⟩
        clear e1 e2 hkk
        go_region_held3 (fun w' => (w'.cell? ⟨w.heap.size, 0, none⟩ = some (.int .i64 fx) ∧ w'.cell? ⟨w.heap.size, 1, none⟩ = some (.int .i64 fy) ∧ w'.cell? ⟨g, o + k * 2, none⟩ = some (.int .i64 qx) ∧ w'.cell? ⟨g, o + k * 2 + 1, none⟩ = some (.int .i64 qy)) ∧ Below wr.heap.size wr w')
          (first
            | exact HS.out _ ((Below.refl _ _).drew)
            | exact HS.out _ (by assumption)
            | (refine HS.out _ ?_; repeat (first | exact hB2 | exact hB1 | exact Below.refl _ _ | refine Below.drew ?_ | refine Below.setCell ?_ (by first | omega | (simp; done) | (simp; omega)) _ | refine Below.alloc ?_ (by first | omega | (simp; done) | (simp; omega)) _)))
          (first
            | (go_at_call_of 7 fx
               refine (HQ1.out _).mono ?_
               rintro e v1 ⟨rfl, hb1⟩
               have hB1 := below_keep (W := wr) hb1 (by assumption)
               have hs1 := hB1.size
               first
                 | (have T01 : Two v1 wr.heap.size 0 0 ∧ Two v1 (wr.heap.size + 1) 0 0 := Two.at2d (t := 23) (t' := 23) hb1; obtain ⟨T0, T1⟩ := T01; obtain ⟨⟨_, _⟩, ⟨_, _⟩, _⟩ := id T0; obtain ⟨⟨_, _⟩, ⟨_, _⟩, _⟩ := id T1)
                 | (have T0 : Two v1 wr.heap.size 0 0 := Two.atd (t := 23) hb1; obtain ⟨⟨_, _⟩, ⟨_, _⟩, _⟩ := id T0)
                 | skip
               clear hb1)
            | (go_at_call_of 7 qx
               refine (HQ.out _).mono ?_
               rintro e v2 ⟨rfl, hb2⟩
               have hB2 := below_keep (W := wr) hb2 (by assumption)
               have hs2 := hB2.size
               have hX : Below v1.heap.size v1 v2 := by first | exact hb2 | exact bt (box1 _ _) hb2 | exact bt (box2 _ _ _) hb2
               have hs3 := hX.size
               first
                 | (have U0 := T0.kept hX; have U1 := T1.kept hX; obtain ⟨⟨_, _⟩, ⟨_, _⟩, _⟩ := id U0; obtain ⟨⟨_, _⟩, ⟨_, _⟩, _⟩ := id U1)
                 | (have U0 := T0.kept hX; have U1 : Two v2 v1.heap.size 0 0 := Two.at (t := 23) hb2; obtain ⟨⟨_, _⟩, ⟨_, _⟩, _⟩ := id U0; obtain ⟨⟨_, _⟩, ⟨_, _⟩, _⟩ := id U1)
                 | (have U0 := T0.kept hX; obtain ⟨⟨_, _⟩, ⟨_, _⟩, _⟩ := id U0)
                 | (have U01 : Two v2 v1.heap.size 0 0 ∧ Two v2 (v1.heap.size + 1) 0 0 := Two.at2 (t := 23) (t' := 23) hb2; obtain ⟨U0, U1⟩ := U01; obtain ⟨⟨_, _⟩, ⟨_, _⟩, _⟩ := id U0; obtain ⟨⟨_, _⟩, ⟨_, _⟩, _⟩ := id U1)
                 | (have U0 : Two v2 v1.heap.size 0 0 := Two.at (t := 23) hb2; obtain ⟨⟨_, _⟩, ⟨_, _⟩, _⟩ := id U0)
                 | skip
               clear hb2))
        all_goals
          go_wp2_with fail
          go_meet
          refine ⟨_, _, rfl, rfl, ?_, ?_, ?_, ⟨?_, ?_⟩, held_below (by assumption)⟩
          · repeat (first | with_reducible exact U0 | with_reducible exact U1 | (with_reducible refine Two.newAt ?_; first | rfl | (simp; done)) | with_reducible refine Two.set (u := 0) (v := 0) ?_ | (with_reducible refine Two.other ?_ (by omega)) | with_reducible refine Two.alloc ?_)
          · repeat (first | with_reducible exact U0 | with_reducible exact U1 | (with_reducible refine Two.newAt ?_; first | rfl | (simp; done)) | with_reducible refine Two.set (u := 0) (v := 0) ?_ | (with_reducible refine Two.other ?_ (by omega)) | with_reducible refine Two.alloc ?_)
          · omega
          · omega
          · omega
      case rest =>
        obtain ⟨b6, b7, rfl, rfl, T6, T7, hne, ⟨hl6, hl7⟩, hBc⟩ := hcut
        have TF := hT.kept hBc
        have d0 := (hBc.cell (p := ⟨g, o + k * 2, none⟩) HG.out).trans c0
        have d1' := (hBc.cell (p := ⟨g, o + k * 2 + 1, none⟩) HG.out).trans c1
        have hgc : g < wc.heap.size := Nat.lt_of_lt_of_le HG.out hBc.size
        have HBB := hide (bt hB hBc)
        clear c0 c1 t0 t1 f0 f1 z0 hT hBc hB HG HQ HQ1
        go_wp2_with fail
        obtain ⟨k0, k1⟩ := T6.lat
        obtain ⟨n0, n1⟩ := T7.lat
        have hnl := lat_some wc
        have HT := hide TF
        have HD := hide (And.intro d0 (And.intro d1' hgc))
        have HKI := hide hki
        clear T6 T7 TF d0 d1' hgc hki
        refine wp_region_lat (by kernel_rfl) (by kernel_rfl) ?_
        repeat (go_big_quiet_step (first | (go_at_call_of 21 kx; exact calls_lat (HA1.out _)) | (go_at_call_of 21 ky; exact calls_lat (HA2.out _))))
        refine wpQuiet_nil ?_
        rintro _ ⟨m, rfl⟩
        have Tk2 := HT.out.kept m.h
        obtain ⟨⟨f0, f1⟩, ⟨f2, f3⟩, fz⟩ := id Tk2
        have hki := HKI.out
        have d0 := (m.h.cell (p := ⟨g, o + k * 2, none⟩) HD.out.2.2).trans HD.out.1
        have d1' := (m.h.cell (p := ⟨g, o + k * 2 + 1, none⟩) HD.out.2.2).trans HD.out.2.1
        have HM := hide (bt HBB.out m.h)
        clear k0 k1 n0 n1 hnl HT HA1 HA2 HBB e1 HD HKI
        generalize n + (d1 + d2) = n' at HR HCo e2 ⊢
        clear e2
        go_wp2_with fail
        go_roundw
        case rel =>
          refine ⟨k + 1, qx, qy, n', by omega, by push_cast; rfl, rfl, HR.out, by rw [HX.out.1, HX.out.2]; exact HCo.out, fun _ => HNQ.out, Two.set Tk2, ?_⟩
          exact (HM.out.setCell (p := ⟨w.heap.size, 0, none⟩) (by simp) _).setCell (p := ⟨w.heap.size, 1, none⟩) (by simp) _
        case measure => simp [intOf]; omega
    · obtain rfl : k = P.length := by omega
      rw [List.drop_length, crF] at hco
      have hki : ¬ ((P.length : Nat) : Int) < (P.length : Nat) := by omega
      go_wp2_with fail
      go_ret
      first | exact ⟨ret_int hco, hB⟩ | exact ⟨rfl, hB⟩
end Go.Proofs.Ytpikfplmghofbaa
