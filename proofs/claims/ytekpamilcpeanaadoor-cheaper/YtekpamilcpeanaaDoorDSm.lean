/-
  The document's own Legal, over a ground. The document's Smooth.
-/
import Derived.Test.YtekpamilcpeanaaDoorLp
import Derived.Test.YtekpamilcpeanaaDoorFar
import Derived.Test.YtekpamilcpeanaaDoorLn
namespace Go.Proofs.YtekpamilcpeanaaDoor
open Go.RowKit Go.Shelf
set_option linter.unusedVariables false
set_option linter.unusedSimpArgs false
/-- A ground that tells of cells and steps what S tells. -/
structure DS (w : World) (wd ht : Nat) (iv : Value) (S : Int → Int → Bool) : Prop where
  sl : ∃ a n c, iv = .slice a n c
  st : ∀ wx, Below w.heap.size w wx → ∀ x y, Calls Tryd.prog 49 #[gdv wd ht iv, cel x y] wx fun e w' => e = .returned (.bool (S x y)) ∧ Below wx.heap.size wx w'
  sp : ∀ wx, Below w.heap.size w wx → ∀ x y d, Calls Tryd.prog 50 #[gdv wd ht iv, cel x y, .int .i64 d] wx fun e w' => ∃ A B, e = .returned (.tuple #[cel A B, .bool (lg S x y d)]) ∧ Below wx.heap.size wx w'
theorem DS.upto {w w' : World} {wd ht : Nat} {iv : Value} {S : Int → Int → Bool} (h : DS w wd ht iv S) (hb : Below w.heap.size w w') : DS w' wd ht iv S :=
  ⟨h.sl, fun wx q => h.st wx (bt hb q), fun wx q => h.sp wx (bt hb q)⟩
set_option maxRecDepth 100000 in
set_option maxHeartbeats 4000000 in
theorem rlegal_of (wd ht : Nat) (iv : Value) (S : Int → Int → Bool) (x y : Int) (v : Value) (P : List (Int × Int)) (w : World) (hv : CeR w v P) (hd : DS w wd ht iv S) :
    Calls Tryd.prog 34 #[gdv wd ht iv, cel x y, v] w fun e w' => e = .returned (.bool (legV S x y P)) ∧ Below w.heap.size w w' := by
  obtain ⟨⟨ia, inn, ic, rfl⟩, HS, HT⟩ := hd
  have hv' := hv
  obtain ⟨a, cap, rfl, hcap, hmax, -, -⟩ := hv'
  have hl63 : (0 : Int) ≤ (P.length : Nat) ∧ ((P.length : Nat) : Int) ≤ 9223372036854775807 := by
    have : P.length ≤ 9223372036854775807 := hmax
    omega
  obtain ⟨X, hX⟩ : ∃ X, (w.alloc (.cells #[.int .i64 (wd : Nat), .int .i64 (ht : Nat), .slice ia inn ic] 50)).alloc (.cells #[.int .i64 x, .int .i64 y] 23) = X := ⟨_, rfl⟩
  have B0 : Below w.heap.size w X := by rw [← hX]; exact box2 _ _ _
  have G0 : GB X w.heap.size wd ht (.slice ia inn ic) := by rw [← hX]; exact (GB.new w wd ht _).upto (box1 _ _)
  have C0 : Two X (w.heap.size + 1) x y := by rw [← hX]; exact Two.newAt (by simp)
  have HT' : Hid (∀ wx (b : Bool) u v d, Below w.heap.size w wx → lg S u v d = b → Calls Tryd.prog 50 #[gdv wd ht (.slice ia inn ic), cel u v, .int .i64 d] wx fun e w' => ∃ A B, e = .returned (.tuple #[cel A B, .bool b]) ∧ Below wx.heap.size wx w') := hide fun wx b u v d hb he => he ▸ HT wx hb u v d
  have HS' := hide (HS X B0 x y)
  obtain ⟨⟨s0, s1⟩, s2⟩ := G0.c
  obtain ⟨⟨c0, c1⟩, -, -⟩ := id C0
  have HX := hide hX
  unfold legV
  clear HT HS hX
  cases g : S x y
  · rw [g] at HS'
    go_enter Tryd.func34, Tryd.ntmps34
    go_wp2_with (rw [HX.out])
    refine HS'.out.mono ?_
    rintro e w1 ⟨rfl, hb1⟩
    have HB1 := hide (bt B0 hb1)
    clear s0 s1 s2 c0 c1 hb1
    go_wp2_with fail
    go_ret
    exact ⟨rfl, HB1.out⟩
  · rw [g] at HS'
    obtain ⟨r, hr⟩ : ∃ r, (true && legF S x y P) = r := ⟨_, rfl⟩
    have hc0 : legF S x y P = r := by rw [← hr, Bool.true_and]
    rw [hr]
    clear hr
    go_enter Tryd.func34, Tryd.ntmps34
    go_wp2_with (rw [HX.out])
    refine HS'.out.mono ?_
    rintro e w1 ⟨rfl, hb1⟩
    have S1 := G0.upto hb1
    have C1 := C0.kept hb1
    have B1 := bt B0 hb1
    clear s0 s1 s2 c0 c1 hb1 G0 C0 B0 HS'
    go_wp2_with fail
    go_loopw [7] (fun s18 wr => ∃ (k : Nat) (fx fy : Int), k ≤ P.length ∧ s18 = .int .i64 k ∧ legF S fx fy (P.drop k) = r ∧ Two wr (w.heap.size + 1) fx fy ∧ GB wr w.heap.size wd ht (.slice ia inn ic) ∧ Below w.heap.size w wr) (fun s18 _ => P.length - (intOf s18).toNat)
    case atStart => exact ⟨0, x, y, Nat.zero_le _, rfl, by simpa using hc0, C1, S1, B1⟩
    case round =>
      obtain ⟨k, fx, fy, hk, rfl, hco, hT, hS, hB⟩ := hrel
      by_cases hlt : k < P.length
      · obtain ⟨q, hq⟩ : ∃ q, P[k]? = some q := ⟨_, List.getElem?_eq_getElem hlt⟩
        obtain ⟨g, o, hga, hgl, c0, c1⟩ : ∃ g o, a = some ⟨g, o, none⟩ ∧ g < wr.heap.size ∧ wr.cell? ⟨g, o + k * 2, none⟩ = some (.int .i64 q.1) ∧ wr.cell? ⟨g, o + k * 2 + 1, none⟩ = some (.int .i64 q.2) := by
          obtain ⟨a', cap', he', _, _, _, hform⟩ := hv.kept hB
          obtain ⟨g', o', hgg, h0, e1, e2⟩ := hform k q hq
          injection he' with h1 h2 h3
          exact ⟨g', o', h1.trans hgg, h0, e1, e2⟩
        subst hga
        rw [drop_cons' hq, legF] at hco
        have hki : (k : Int) < (P.length : Nat) := by omega
        have l0 : ∀ n : Lat wr, n.w.cell? ⟨g, o + k * 2, none⟩ = some (.int .i64 q.1) := fun n => (n.h.cell (p := ⟨g, _, none⟩) hgl).trans c0
        have l1 : ∀ n : Lat wr, n.w.cell? ⟨g, o + k * 2 + 1, none⟩ = some (.int .i64 q.2) := fun n => (n.h.cell (p := ⟨g, _, none⟩) hgl).trans c1
        obtain ⟨f0, f1⟩ := hT.lat
        have hne := lat_some wr
        obtain ⟨d, hd⟩ : ∃ d, dirN fx fy q.1 q.2 = d := ⟨_, rfl⟩
        have HDd := hide hd
        rw [hd] at hco
        have HCO := hide hco
        clear hd c0 c1 hco
        go_wp2_with fail
        refine wp_region_lat (by kernel_rfl) (by kernel_rfl) ?_
        repeat (go_big_quiet_step (first | (go_at_call 29; exact calls_lat (refdir_is _ HDd.out))))
        refine wpQuiet_nil ?_
        rintro _ ⟨m, rfl⟩
        have TF2 := hT.kept m.h
        have TS2 := hS.upto m.h
        have HB2 := hide (bt hB m.h)
        have t0 := l0 m
        have t1 := l1 m
        clear HDd l0 l1 f0 f1 hT hS hB
        by_cases hneg : d < 0
        · have hF := HCO.out
          rw [lg_neg hneg, Bool.false_and] at hF
          have HF := hide hF
          clear hF
          go_wp2_with fail
          go_ret
          exact ⟨ret_bool HF.out, HB2.out⟩
        · obtain ⟨⟨f0, f1⟩, -, -⟩ := id TF2
          obtain ⟨⟨s0, s1⟩, s2⟩ := TS2.c
          cases hlg : lg S fx fy d
          · have hF := HCO.out
            rw [hlg, Bool.false_and] at hF
            have HF := hide hF
            have HLG := hide hlg
            clear hF hlg
            go_wp2_with fail
            refine (HT'.out _ _ _ _ _ HB2.out HLG.out).mono ?_
            rintro e w3 ⟨A, B, rfl, hb3⟩
            have HB3 := hide (bt HB2.out hb3)
            clear f0 f1 s0 s1 s2 t0 t1 hb3
            go_wp2_with fail
            go_ret
            exact ⟨ret_bool HF.out, bt HB3.out (box1 _ _)⟩
          · have hF := HCO.out
            rw [hlg, Bool.true_and] at hF
            have HF := hide hF
            have HLG := hide hlg
            clear hF hlg
            go_wp2_with fail
            refine (HT'.out _ _ _ _ _ HB2.out HLG.out).mono ?_
            rintro e w3 ⟨A, B, rfl, hb3⟩
            obtain ⟨Z, hZ⟩ : ∃ Z, w3.alloc (.cells #[.int .i64 A, .int .i64 B] 23) = Z := ⟨_, rfl⟩
            have hb4 : Below m.w.heap.size m.w Z := by rw [← hZ]; exact bt hb3 (box1 _ _)
            have HZ := hide hZ
            have HB3 := hide (bt HB2.out hb4)
            have TF3 := TF2.kept hb4
            have TS3 := TS2.upto hb4
            have u0 := (hb4.cell (p := ⟨g, o + k * 2, none⟩) (World.block_lt_of_cell? _ _ t0)).trans t0
            have u1 := (hb4.cell (p := ⟨g, o + k * 2 + 1, none⟩) (World.block_lt_of_cell? _ _ t1)).trans t1
            obtain ⟨⟨g0, g1⟩, ⟨g2, g3⟩, gz⟩ := id TF3
            clear f0 f1 s0 s1 s2 t0 t1 hb3 hb4 hZ
            go_wp2_with (rw [HZ.out])
            go_roundw
            case rel =>
              have TZ := (Turns.set (S := fun j => j = w.heap.size + 1) Z (p := ⟨w.heap.size + 1, 0, none⟩) rfl (.int .i64 q.1)).trans (Turns.set (S := fun j => j = w.heap.size + 1 ∨ Z.heap.size ≤ j) _ (p := ⟨w.heap.size + 1, 1, none⟩) (.inl rfl) (.int .i64 q.2))
              refine ⟨k + 1, q.1, q.2, by omega, by go_num, HF.out, Two.set TF3, TS3.kept TZ (by omega), ?_⟩
              exact (HB3.out.setCell (p := ⟨w.heap.size + 1, 0, none⟩) (by simp) _).setCell (p := ⟨w.heap.size + 1, 1, none⟩) (by simp) _
            case measure => simp [intOf]; omega
      · obtain rfl : k = P.length := by omega
        rw [List.drop_length, legF] at hco
        have HCO := hide hco
        clear hco
        have hki : ¬ ((P.length : Nat) : Int) < (P.length : Nat) := by omega
        go_wp2_with fail
        go_ret
        exact ⟨ret_bool HCO.out, hB⟩
end Go.Proofs.YtekpamilcpeanaaDoor
namespace Go.Proofs.YtekpamilcpeanaaDoor
open Go.RowKit Go.Shelf
set_option linter.unusedVariables false
set_option linter.unusedSimpArgs false
theorem Rrline : Rcl 11 := zl fun _ _ => by go_simp
theorem Rrleg : Rcl 34 := zl fun _ _ => by go_simp
theorem run_appC {ev : Operand → Value} {o : Oper} {w w' : World} {s x : Operand} {v xv v' : Value} (ho : o.op = .call { callee := .builtin .append, args := #[s, x], argTypes := #[26, 26] }) (ht : o.type = 26) (hs : ev s = v) (hx : ev x = xv) (hr : (Builtin.append_ #[26, 26] 26 #[v, xv]).run Tryd.prog w = .ok v' w') : (execOp ev o).run Tryd.prog w = .ok (.value v') w' := by
  simp [execOp, ho, resolve, invoke, builtin, hs, hx, ht, hr, Result.andThen]
/-- What the document's loop keeps. -/
structure DsI (w : World) (wd ht : Nat) (iv : Value) (S : Int → Int → Bool) (P L : List (Int × Int)) (s8 : Value) (wr : World) (k : Nat) (fx fy : Int) (acc : List (Int × Int)) (m : Nat) : Prop where
  le : k ≤ P.length
  two : Two wr (w.heap.size + 1) fx fy
  gb : GB wr w.heap.size wd ht iv
  leg : legF S fx fy (P.drop k) = true
  row : Cn wr s8 acc
  own : ∀ j, s8.ownBlock = some j → w.heap.size + 1 < j
  fuel : (P.drop k).length ≤ m
  all : acc ++ smF S m fx fy (P.drop k) = L
  bl : Below w.heap.size w wr
set_option maxRecDepth 100000 in
set_option maxHeartbeats 4000000 in
theorem dsmooth_no (wd ht : Nat) (iv : Value) (x y : Int) (v : Value) (P : List (Int × Int)) (S : Int → Int → Bool) (w : World) (hv : CeR w v P) (hd : DS w wd ht iv S) (ho : smO S x y P = none) :
    Calls Tryd.prog 17 #[gdv wd ht iv, cel x y, v] w (SmE w none) := by
  have hd' := hd
  obtain ⟨⟨ia, inn, ic, rfl⟩, -, -⟩ := hd'
  have hv' := hv
  obtain ⟨a, cap, rfl, hcap, hmax, -, -⟩ := hv'
  obtain ⟨X, hX⟩ : ∃ X, (w.alloc (.cells #[.int .i64 (wd : Nat), .int .i64 (ht : Nat), .slice ia inn ic] 50)).alloc (.cells #[.int .i64 x, .int .i64 y] 23) = X := ⟨_, rfl⟩
  have B0 : Below w.heap.size w X := by rw [← hX]; exact box2 _ _ _
  have G0 : GB X w.heap.size wd ht (.slice ia inn ic) := by rw [← hX]; exact (GB.new w wd ht _).upto (box1 _ _)
  obtain ⟨⟨s0, s1⟩, s2⟩ := G0.c
  obtain ⟨⟨c0, c1⟩, -, -⟩ : Two X (w.heap.size + 1) x y := by rw [← hX]; exact Two.newAt (by simp)
  have HX := hide hX
  have HC := hide (rlegal_of wd ht _ S x y _ P X (hv.kept B0) (hd.upto B0))
  clear hX hd G0
  by_cases hl : P.length ≤ 16384
  · have hl' : ¬ (16384 : Int) < (P.length : Nat) := by omega
    have hf : legV S x y P = false := by
      cases h : legV S x y P
      · rfl
      · rw [smO, if_pos ⟨hl, h⟩] at ho; cases ho
    rw [hf] at HC
    go_enter Tryd.func17, Tryd.ntmps17
    go_wp2_with (rw [HX.out])
    refine HC.out.mono ?_
    rintro e w1 ⟨rfl, hb1⟩
    have HB := hide (bt B0 hb1)
    clear hb1 B0 s0 s1 s2 c0 c1
    go_wp2_with fail
    refine bodyPost_ret (v := .tuple #[.slice none 0 0, .int .i64 1]) (by simp [results, Tryd.results17, go_sem]) rfl ⟨rfl, HB.out⟩
  · have hl' : (16384 : Int) < (P.length : Nat) := by omega
    go_enter Tryd.func17, Tryd.ntmps17
    go_wp2_with (rw [HX.out])
    refine bodyPost_ret (v := .tuple #[.slice none 0 0, .int .i64 1]) (by simp [results, Tryd.results17, go_sem]) rfl ⟨rfl, B0⟩
set_option maxRecDepth 100000 in
set_option maxHeartbeats 8000000 in
theorem dsmooth_yes (wd ht : Nat) (iv : Value) (x y : Int) (v : Value) (P : List (Int × Int)) (S : Int → Int → Bool) (w : World) (hv : CeR w v P) (hd : DS w wd ht iv S) (hl : P.length ≤ 16384) (hleg : legV S x y P = true) :
    Calls Tryd.prog 17 #[gdv wd ht iv, cel x y, v] w (SmE w (some (smF S P.length x y P))) := by
  have hlF : legF S x y P = true := by rw [legV, Bool.and_eq_true] at hleg; exact hleg.2
  have hgood := sm_good S P.length x y P (Nat.le_refl _) hlF
  obtain ⟨L, hL⟩ : ∃ L, smF S P.length x y P = L := ⟨_, rfl⟩
  have hLl : L.length ≤ 16384 := by rw [← hL]; exact Nat.le_trans hgood.2.2.2 hl
  have hd' := hd
  obtain ⟨⟨ia, inn, ic, rfl⟩, -, -⟩ := hd'
  have hv' := hv
  obtain ⟨a, cap, rfl, hcap, hmax, -, -⟩ := hv'
  obtain ⟨X, hX⟩ : ∃ X, (w.alloc (.cells #[.int .i64 (wd : Nat), .int .i64 (ht : Nat), .slice ia inn ic] 50)).alloc (.cells #[.int .i64 x, .int .i64 y] 23) = X := ⟨_, rfl⟩
  have B0 : Below w.heap.size w X := by rw [← hX]; exact box2 _ _ _
  have G0 : GB X w.heap.size wd ht (.slice ia inn ic) := by rw [← hX]; exact (GB.new w wd ht _).upto (box1 _ _)
  have A1 : Two X (w.heap.size + 1) x y := by rw [← hX]; exact Two.newAt (by simp)
  obtain ⟨⟨s0, s1⟩, s2⟩ := G0.c
  obtain ⟨⟨c0, c1⟩, -, -⟩ := id A1
  have HX := hide hX
  have HC := hide (rlegal_of wd ht _ S x y _ P X (hv.kept B0) (hd.upto B0))
  rw [hleg] at HC
  have hl' : ¬ (16384 : Int) < (P.length : Nat) := by omega
  have HD := hide hd
  have HV := hide (And.intro hv (And.intro hlF hL))
  rw [hL]
  clear hX hd hleg hlF hgood hL hv
  go_enter Tryd.func17, Tryd.ntmps17
  go_wp2_with (rw [HX.out])
  refine HC.out.mono ?_
  rintro e w1 ⟨rfl, hb1⟩
  have G1 := G0.upto hb1
  have A1' := A1.kept hb1
  have B1 := bt B0 hb1
  have sz1 := A1'.2.2
  obtain ⟨Z1, hZ1⟩ : ∃ Z1, w1.alloc (.cells #[] 23) = Z1 := ⟨_, rfl⟩
  have HI := hide (show DsI w wd ht (.slice ia inn ic) S P L (.slice (some ⟨w1.heap.size, 0, none⟩) 0 0) Z1 0 x y [] P.length from {
    le := Nat.zero_le _
    two := by rw [← hZ1]; exact A1'.alloc
    gb := by rw [← hZ1]; exact G1.upto (box1 _ _)
    leg := HV.out.2.1
    row := by rw [← hZ1]; exact Cn.built w1
    own := fun k e => by have e' : w1.heap.size = k := Option.some.inj e; omega
    fuel := Nat.le_refl _
    all := HV.out.2.2
    bl := by rw [← hZ1]; exact bt B1 (box1 _ _) })
  have HZ1 := hide hZ1
  clear s0 s1 s2 c0 c1 A1 A1' B0 B1 hb1 sz1 HC HX G0 G1 hZ1
  go_wp2_with (rw [HZ1.out])
  go_loopw [8, 9] (fun s8 s9 wr => ∃ k fx fy acc m, s9 = .int .i64 ((k : Nat) : Int) ∧ DsI w wd ht (.slice ia inn ic) S P L s8 wr k fx fy acc m) (fun _ s9 _ => P.length - (intOf s9).toNat)
  case atStart => exact ⟨0, _, _, _, _, rfl, HI.out⟩
  case round =>
    obtain ⟨k, fx, fy, acc, m, rfl, hI⟩ := hrel
    clear HI
    obtain ⟨⟨k0, k1⟩, ⟨kf0, kf1⟩, kz⟩ := id hI.two
    obtain ⟨⟨l0, l1⟩, l2⟩ := hI.gb.c
    have hle := hI.le
    by_cases hR : k = P.length
    · subst hR
      have hall := hI.all
      rw [List.drop_length, smF_nil, List.append_nil] at hall
      have HJ := hide (show SmE w (some L) (.returned (.tuple #[u8, .int .i64 0])) wr from ⟨u8, rfl, hall ▸ hI.row, fun k e => by have := hI.own k e; omega, hI.bl⟩)
      have hz : ¬ ((P.length : Nat) : Int) < (P.length : Nat) := by omega
      clear hI hall
      go_wp2_with fail
      refine bodyPost_ret (v := .tuple #[u8, .int .i64 0]) (by simp [results, Tryd.results17, go_sem]) rfl HJ.out
    · have hlt : k < P.length := by omega
      have hlti : (k : Int) < (P.length : Nat) := by omega
      have hkw : IntKind.i64.wrap ((k : Int) + 32) = (k : Int) + 32 := by rw [IntKind.wrap_i64]; omega
      have hkw2 : IntKind.i64.wrap ((k : Int) + 31) = (k : Int) + 31 := by rw [IntKind.wrap_i64]; omega
      obtain ⟨R, hRR⟩ : ∃ R, P.drop k = R := ⟨_, rfl⟩
      have hRl : R.length = P.length - k := by rw [← hRR, List.length_drop]
      have hRn : R ≠ [] := fun e => by rw [e] at hRl; simp at hRl; omega
      obtain ⟨n, hn⟩ : ∃ n, far S fx fy R = n := ⟨_, rfl⟩
      obtain ⟨mm, hmm⟩ : ∃ mm : Nat, min R.length 32 = mm := ⟨_, rfl⟩
      have hr := far_range (S := S) (x := fx) (y := fy) hRn
      have hmr : 1 ≤ mm ∧ mm ≤ R.length ∧ mm ≤ 32 := by omega
      have hfar : farF S fx fy R mm = n := by rw [← hmm]; exact hn
      obtain ⟨m', rfl⟩ : ∃ m', m = m' + 1 := ⟨m - 1, by have := hI.fuel; rw [hRR] at this; omega⟩
      have hlegR : legF S fx fy R = true := by rw [← hRR]; exact hI.leg
      have HI' := hide hI
      have HN := hide (And.intro (And.intro hRR hRl) (And.intro (And.intro hRn hn) (And.intro hlegR hfar)))
      by_cases hge : P.length ≤ k + 31
      · have hgi : ((P.length : Nat) : Int) ≤ (k : Int) + 31 := by omega
        have hlw : IntKind.i64.wrap (((P.length : Nat) : Int) - 1) = ((P.length : Nat) : Int) - 1 := by rw [IntKind.wrap_i64]; omega
        obtain ⟨j0, hj0⟩ : ∃ j0 : Nat, k + mm - 1 = j0 := ⟨_, rfl⟩
        have hval : (((P.length : Nat) : Int) - 1 : Int) = (j0 : Nat) := by omega
        have Hj := hide hj0
        clear hI hRR hRl hRn hn hmm hr hlegR hfar hj0 kf0 kf1 kz
        go_wp2_with fail
        rename World => wo
        go_loopw [10] (fun s10 wi => ∃ kk : Nat, (1 ≤ kk ∧ kk ≤ mm) ∧ s10 = .int .i64 ((k + kk - 1 : Nat) : Int) ∧ farF S fx fy R kk = n ∧ Below wo.heap.size wo wi) (fun s10 _ => (intOf s10).toNat)
        case atStart => exact ⟨mm, ⟨hmr.1, Nat.le_refl _⟩, by rw [Hj.out], HN.out.2.2.2, Below.refl _ _⟩
        case round =>
          obtain ⟨kk, hkk, rfl, hf, hbi⟩ := hrel
          have hI := HI'.out
          obtain ⟨⟨hRR, hRl⟩, ⟨hRn, hn⟩, hlegR, hfar⟩ := HN.out
          obtain ⟨q, hq⟩ : ∃ q, R[kk - 1]? = some q := ⟨_, List.getElem?_eq_getElem (by omega)⟩
          have hqP : P[k + kk - 1]? = some q := by
            rw [← hRR, List.getElem?_drop, show k + (kk - 1) = k + kk - 1 by omega] at hq
            exact hq
          obtain ⟨i, hi⟩ : ∃ i : Nat, k + kk - 1 = i := ⟨_, rfl⟩
          have hil : (i : Int) < (P.length : Nat) := by omega
          rw [hi] at hqP ⊢
          have bwi := bt hI.bl hbi
          obtain ⟨Y, hY⟩ : ∃ Y, wr.drew = Y := ⟨_, rfl⟩
          have BY : Below wr.heap.size wr Y := by rw [← hY]; exact (Below.refl _ _).drew
          obtain ⟨g, o, hga, hgl, c0, c1⟩ : ∃ g o, a = some ⟨g, o, none⟩ ∧ g < Y.heap.size ∧ Y.cell? ⟨g, o + i * 2, none⟩ = some (.int .i64 q.1) ∧ Y.cell? ⟨g, o + i * 2 + 1, none⟩ = some (.int .i64 q.2) := by
            obtain ⟨a', cap', he', _, _, _, hform⟩ := HV.out.1.kept (bt bwi BY)
            obtain ⟨g', o', hgg, h0, e1, e2⟩ := hform i q hqP
            injection he' with h1 h2 h3
            exact ⟨g', o', h1.trans hgg, h0, e1, e2⟩
          subst hga
          have tY := hI.two.kept (bt hbi BY)
          have gY := hI.gb.upto (bt hbi BY)
          clear k0 k1 l0 l1 l2
          have HK : Hid (∀ wx, Below Y.heap.size Y wx → ((wx.cell? ⟨w.heap.size + 1, 0, none⟩ = some (.int .i64 fx) ∧ wx.cell? ⟨w.heap.size + 1, 1, none⟩ = some (.int .i64 fy)) ∧ ((wx.cell? ⟨w.heap.size, 0, none⟩ = some (.int .i64 (wd : Nat)) ∧ wx.cell? ⟨w.heap.size, 1, none⟩ = some (.int .i64 (ht : Nat))) ∧ wx.cell? ⟨w.heap.size, 2, none⟩ = some (.slice ia inn ic)) ∧ (wx.cell? ⟨g, o + i * 2, none⟩ = some (.int .i64 q.1) ∧ wx.cell? ⟨g, o + i * 2 + 1, none⟩ = some (.int .i64 q.2)))) := hide fun wx hx => ⟨(tY.kept hx).1, (gY.upto hx).c, (hx.cell (p := ⟨g, _, none⟩) hgl).trans c0, (hx.cell (p := ⟨g, _, none⟩) hgl).trans c1⟩
          have HY := hide (And.intro hY (And.intro (bt hbi BY) (bt bwi BY)))
          have HQ := hide (And.intro hf (And.intro hq hi))
          have HLi := hide (rline_any fx fy q.1 q.2 Y)
          clear hI hRR hRl hRn hn hlegR hfar hq hqP hi bwi hY BY hgl tY gY hf hbi hval c0 c1
          go_wp2_with fail
          refine wp_only ?_
          refine wp_region_z (fun wx : World => Below Y.heap.size Y wx) [8, 9] (by kernel_rfl) ?_
          rw [HY.out.1]
          refine zx 0 7 12 rfl (by kernel_rfl) (Below.refl _ _) ?_
          iterate 7 (refine zxc rfl (by rfl) (fun wx hx => by obtain ⟨⟨k0, k1⟩, ⟨⟨l0, l1⟩, l2⟩, c0, c1⟩ := HK.out wx hx; go_simp; rfl) ?_; simp only [zp])
          refine zxn ?_
          refine zw 7 [] (by kernel_rfl) ?_
          refine readyZ.call rfl rfl (Rrline (by rfl) (by rfl) (by simp only [zj]; rfl)) HLi.out ?_ readyZ.nil
          rintro e W ⟨lv, rfl, hcn, hown, hbW⟩
          refine ⟨_, rfl, fun _ => hbW, ?_⟩
          simp only [zp]
          have bYW := bt HY.out.2.2 hbW
          refine zw 8 [] (by kernel_rfl) ?_
          refine readyZ.call rfl rfl (Rrleg (by rfl) (by rfl) (by simp only [zj]; rfl)) (rlegal_of wd ht _ S fx fy lv _ W hcn.ceR (HD.out.upto bYW)) ?_ readyZ.nil
          rintro e W2 ⟨rfl, hb2⟩
          refine ⟨_, rfl, fun h => absurd (by decide) h, ?_⟩
          simp only [zp]
          have HE := hide (And.intro (bt HY.out.2.1 (bt hbW hb2)) (bt bYW hb2))
          clear hcn hown hbW bYW hb2 HLi HY HK
          cases hleg : legV S fx fy (lineL fx fy q.1 q.2)
          · -- no: one less
            have hk2 : 2 ≤ kk := by
              rcases Nat.lt_or_ge 1 kk with h | h
              · exact h
              · exfalso
                have h1 : kk = 1 := by omega
                obtain ⟨⟨hRR, hRl⟩, ⟨hRn, hn⟩, hlegR, hfar⟩ := HN.out
                obtain ⟨hf, hq, hi⟩ := HQ.out
                rw [h1] at hq
                rw [h1, farF_one (Nat.le_refl _)] at hf
                rw [far_leg hlegR hRn (hn.trans hf.symm) hq] at hleg
                cases hleg
            have hf' := farF_miss (S := S) (x := fx) (y := fy) (P := R) (n := kk) hk2 HQ.out.2.1 hleg
            have HR := hide (show farF S fx fy R (kk - 1) = n by rw [← hf']; exact HQ.out.1)
            have hi1 : (i : Int) - 1 = ((i - 1 : Nat) : Int) := by have := HQ.out.2.2; omega
            have hi2 : IntKind.i64.wrap (((i - 1 : Nat) : Nat) : Int) = ((i - 1 : Nat) : Int) := by have := HQ.out.2.2; rw [IntKind.wrap_i64]; omega
            have HI1 := hide (show i - 1 = k + (kk - 1) - 1 ∧ i - 1 < i by have := HQ.out.2.2; omega)
            obtain ⟨i1, hi1'⟩ : ∃ i1 : Nat, i - 1 = i1 := ⟨_, rfl⟩
            rw [hi1'] at hi1 hi2 HI1
            clear hleg hf' hi1' HQ
            refine zq 9 (by kernel_rfl) rfl rfl (by go_simp; exact ⟨rfl, rfl⟩) (fun h => absurd (by decide) h) ?_
            refine anyZ_done (by kernel_rfl) ?_ _
            dsimp only [Only, Exit.then]
            simp only [zp]
            go_wp2_with fail
            go_roundw
            case rel => exact ⟨kk - 1, by omega, by rw [HI1.out.1], HR.out, HE.out.1⟩
            case measure => simp [intOf]; exact HI1.out.2
          · refine zq 9 (by kernel_rfl) rfl rfl (by go_simp; exact ⟨rfl, rfl⟩) (fun h => absurd (by decide) h) ?_
            refine anyZ_done (by kernel_rfl) ?_ _
            dsimp only [Only, Exit.then]
            simp only [zp]
            have hkn : kk = n := by
              obtain ⟨hf, hq, hi⟩ := HQ.out
              by_cases h2 : 2 ≤ kk
              · rw [← hf, farF_hit h2 hq hleg]
              · rw [← hf, farF_one (by omega)]; omega
            subst hkn
            obtain ⟨Y2, hY2⟩ : ∃ Y2, W2.drew = Y2 := ⟨_, rfl⟩
            have BY2 : Below W2.heap.size W2 Y2 := by rw [← hY2]; exact (Below.refl _ _).drew
            have hI := HI'.out
            obtain ⟨⟨hRR, hRl⟩, ⟨hRn, hn⟩, hlegR, hfar⟩ := HN.out
            obtain ⟨hf, hq, hi⟩ := HQ.out
            have hqP : P[i]? = some q := by
              rw [← hRR, List.getElem?_drop, show k + (kk - 1) = i by omega] at hq
              exact hq
            have bo2 := bt HE.out.1 BY2
            have bw2 := bt HE.out.2 BY2
            have hgl : (some (⟨g, o, none⟩ : Addr) = some ⟨g, o, none⟩ ∧ g < w.heap.size) ∧ w.cell? ⟨g, o + i * 2, none⟩ = some (.int .i64 q.1) ∧ w.cell? ⟨g, o + i * 2 + 1, none⟩ = some (.int .i64 q.2) := by
              obtain ⟨a', cap', he', _, _, _, hform⟩ := HV.out.1
              obtain ⟨g', o', hgg, h0, e1, e2⟩ := hform i q hqP
              injection he' with h1 h2 h3
              rw [← h1] at hgg
              cases hgg
              exact ⟨⟨rfl, h0⟩, e1, e2⟩
            have tY := hI.two.kept bo2
            have HK2 : Hid (∀ wx, Below w.heap.size w wx → wx.cell? ⟨g, o + i * 2, none⟩ = some (.int .i64 q.1) ∧ wx.cell? ⟨g, o + i * 2 + 1, none⟩ = some (.int .i64 q.2)) := hide fun wx hx => ⟨(hx.cell (p := ⟨g, _, none⟩) hgl.1.2).trans hgl.2.1, (hx.cell (p := ⟨g, _, none⟩) hgl.1.2).trans hgl.2.2⟩
            have HK3 : Hid (∀ wx, Below Y2.heap.size Y2 wx → (wx.cell? ⟨w.heap.size + 1, 0, none⟩ = some (.int .i64 fx) ∧ wx.cell? ⟨w.heap.size + 1, 1, none⟩ = some (.int .i64 fy)) ∧ (wx.cell? ⟨g, o + i * 2, none⟩ = some (.int .i64 q.1) ∧ wx.cell? ⟨g, o + i * 2 + 1, none⟩ = some (.int .i64 q.2))) := hide fun wx hx => ⟨(tY.kept hx).1, HK2.out wx (bt bw2 hx)⟩
            have hrow : Cn Y2 u8 acc := hI.row.upto bo2
            have hall := hI.all
            rw [hRR, smF_more hRn hn hq, ← List.append_assoc] at hall
            have hlM := lineL_len fx fy q.1 q.2
            have hlL : acc.length + (lineL fx fy q.1 q.2).length ≤ 1000000000 := by have := congrArg List.length hall; rw [List.length_append, List.length_append] at this; omega
            have hdr : P.drop (i + 1) = R.drop kk := by rw [← hRR, List.drop_drop]; congr 1; omega
            have hlg1 : legF S q.1 q.2 (P.drop (i + 1)) = true := by
              rw [hdr]
              have := (leg_at hlegR hq).2.2.2.2.1
              rwa [show kk - 1 + 1 = kk by omega] at this
            rw [← hdr] at hall
            obtain ⟨va8, vc8, hu8, -⟩ := Rw.form ceCs_len hrow
            subst hu8
            have HY2 := hide (And.intro hY2 (And.intro bo2 bw2))
            have HLi := hide (rline_any fx fy q.1 q.2 Y2)
            have HA := hide (And.intro hrow (And.intro hall (And.intro hlL (And.intro hlg1 (And.intro hI.own (And.intro hI.gb hI.two))))))
            have hbnd : (i : Int) + 1 ≤ 16384 := by omega
            have hiw : IntKind.i64.wrap ((i : Int) + 1) = (i : Int) + 1 := by rw [IntKind.wrap_i64]; omega
            have HF1 := hide (show i + 1 ≤ P.length ∧ (P.drop (i + 1)).length ≤ m' ∧ k ≤ i by
              have := hI.fuel
              rw [hRR] at this
              rw [hdr, List.length_drop]
              omega)
            clear hleg hI hRR hRl hRn hn hlegR hfar hf hq hi hqP bo2 bw2 hgl tY hrow hall hlL hlM hdr hlg1 BY2 HE HQ HN HI'
            go_wp2_with fail
            refine wp_only ?_
            refine wp_region_z (fun wx : World => Below Y2.heap.size Y2 wx) [7, 8] (by kernel_rfl) ?_
            rw [HY2.out.1]
            refine zx 0 6 12 rfl (by kernel_rfl) (Below.refl _ _) ?_
            iterate 6 (refine zxc rfl (by rfl) (fun wx hx => by obtain ⟨⟨k0, k1⟩, c0, c1⟩ := HK3.out wx hx; go_simp; rfl) ?_; simp only [zp])
            refine zxn ?_
            refine zw 6 [] (by kernel_rfl) ?_
            refine readyZ.call rfl rfl (Rrline (by rfl) (by rfl) (by simp only [zj]; rfl)) HLi.out ?_ readyZ.nil
            rintro e W3 ⟨lv, rfl, hcn, hown, hb3⟩
            refine ⟨_, rfl, fun _ => hb3, ?_⟩
            simp only [zp]
            obtain ⟨v7, W7, hr7, hc7, ho7, hT7⟩ := Cn.more (HA.out.1.upto hb3) hcn.ceR HA.out.2.2.1
            refine zq 7 (by kernel_rfl) rfl rfl (run_appC rfl rfl rfl rfl hr7) (fun h => absurd (by decide) h) ?_
            refine zq 8 (v' := v7) (by kernel_rfl) rfl rfl (run_as rfl rfl) (fun h => absurd (by decide) h) ?_
            refine anyZ_done (by kernel_rfl) ?_ _
            dsimp only [Only, Exit.then]
            simp only [zp]
            obtain ⟨hrow, hall, hlL, hlg1, hIown, hIgb, hItwo⟩ := HA.out
            have hu7 : ∀ j, (Value.slice va8 acc.length vc8).ownBlock = some j → w.heap.size + 1 < j := hIown
            have bo3 := bt HY2.out.2.1 hb3
            have bw3 := bt HY2.out.2.2 hb3
            have bw7 : Below w.heap.size w W7 := bw3.trans (hT7.below (fun j e => by have := hu7 j e; omega) bw3.size)
            have t7 : Two W7 (w.heap.size + 1) fx fy := two_kept (hItwo.kept bo3) hT7 (fun e => by have := hu7 _ e; omega)
            have g7 : GB W7 w.heap.size wd ht (.slice ia inn ic) := (hIgb.upto bo3).kept hT7 (fun e => by have := hu7 _ e; omega)
            have TZ := (Turns.set (S := fun j => j = w.heap.size + 1) W7 (p := ⟨w.heap.size + 1, 0, none⟩) rfl (.int .i64 q.1)).trans (Turns.set (S := fun j => j = w.heap.size + 1 ∨ W7.heap.size ≤ j) _ (p := ⟨w.heap.size + 1, 1, none⟩) (.inl rfl) (.int .i64 q.2))
            have tz := t7.set (s := q.1) (t := q.2)
            obtain ⟨Z, hZ⟩ : ∃ Z, (W7.setCell ⟨w.heap.size + 1, 0, none⟩ (.int .i64 q.1)).setCell ⟨w.heap.size + 1, 1, none⟩ (.int .i64 q.2) = Z := ⟨_, rfl⟩
            rw [hZ] at TZ tz
            have sz3 := (hItwo.kept bo3).2.2
            have own7 : ∀ j, v7.ownBlock = some j → w.heap.size + 1 < j := fun j e => by
              rcases ho7 j e with h1 | h1
              · exact hu7 j h1
              · omega
            have HJ := hide (show DsI w wd ht (.slice ia inn ic) S P L v7 Z (i + 1) q.1 q.2 (acc ++ lineL fx fy q.1 q.2) m' from {
              le := HF1.out.1
              two := tz
              gb := g7.kept TZ (by omega)
              leg := hlg1
              row := hc7.kept TZ (fun j e h => by have := own7 j e; omega)
              own := own7
              fuel := HF1.out.2.1
              all := hall
              bl := bw7.trans (TZ.below (fun j e => by omega) bw7.size) })
            have HZ := hide hZ
            have HM := hide HF1.out.2.2
            obtain ⟨c0, c1⟩ := HK2.out W7 bw7
            obtain ⟨⟨k6, k7⟩, ⟨f6, f7⟩, -⟩ := id t7
            clear hrow hall hlL hlg1 hIown hIgb hItwo hu7 bo3 bw3 bw7 t7 g7 TZ tz hZ sz3 own7 HA HF1 HK2 HK3 HY2 HLi hr7 hc7 ho7 hT7 hcn hown hb3
            go_wp2_with (rw [HZ.out])
            go_roundw
            case rel => exact ⟨i + 1, _, _, _, _, by go_num, HJ.out⟩
            case measure => simp [intOf]; have := HM.out; omega
      · have hgi : ¬ ((P.length : Nat) : Int) ≤ (k : Int) + 31 := by omega
        obtain ⟨j0, hj0⟩ : ∃ j0 : Nat, k + mm - 1 = j0 := ⟨_, rfl⟩
        have hval : ((k : Int) + 31 : Int) = (j0 : Nat) := by omega
        have Hj := hide hj0
        clear hI hRR hRl hRn hn hmm hr hlegR hfar hj0 kf0 kf1 kz
        go_wp2_with fail
        rename World => wo
        go_loopw [10] (fun s10 wi => ∃ kk : Nat, (1 ≤ kk ∧ kk ≤ mm) ∧ s10 = .int .i64 ((k + kk - 1 : Nat) : Int) ∧ farF S fx fy R kk = n ∧ Below wo.heap.size wo wi) (fun s10 _ => (intOf s10).toNat)
        case atStart => exact ⟨mm, ⟨hmr.1, Nat.le_refl _⟩, by rw [Hj.out]; exact congrArg (Value.int .i64) (by omega), HN.out.2.2.2, Below.refl _ _⟩
        case round =>
          obtain ⟨kk, hkk, rfl, hf, hbi⟩ := hrel
          have hI := HI'.out
          obtain ⟨⟨hRR, hRl⟩, ⟨hRn, hn⟩, hlegR, hfar⟩ := HN.out
          obtain ⟨q, hq⟩ : ∃ q, R[kk - 1]? = some q := ⟨_, List.getElem?_eq_getElem (by omega)⟩
          have hqP : P[k + kk - 1]? = some q := by
            rw [← hRR, List.getElem?_drop, show k + (kk - 1) = k + kk - 1 by omega] at hq
            exact hq
          obtain ⟨i, hi⟩ : ∃ i : Nat, k + kk - 1 = i := ⟨_, rfl⟩
          have hil : (i : Int) < (P.length : Nat) := by omega
          rw [hi] at hqP ⊢
          have bwi := bt hI.bl hbi
          obtain ⟨Y, hY⟩ : ∃ Y, wr.drew = Y := ⟨_, rfl⟩
          have BY : Below wr.heap.size wr Y := by rw [← hY]; exact (Below.refl _ _).drew
          obtain ⟨g, o, hga, hgl, c0, c1⟩ : ∃ g o, a = some ⟨g, o, none⟩ ∧ g < Y.heap.size ∧ Y.cell? ⟨g, o + i * 2, none⟩ = some (.int .i64 q.1) ∧ Y.cell? ⟨g, o + i * 2 + 1, none⟩ = some (.int .i64 q.2) := by
            obtain ⟨a', cap', he', _, _, _, hform⟩ := HV.out.1.kept (bt bwi BY)
            obtain ⟨g', o', hgg, h0, e1, e2⟩ := hform i q hqP
            injection he' with h1 h2 h3
            exact ⟨g', o', h1.trans hgg, h0, e1, e2⟩
          subst hga
          have tY := hI.two.kept (bt hbi BY)
          have gY := hI.gb.upto (bt hbi BY)
          clear k0 k1 l0 l1 l2
          have HK : Hid (∀ wx, Below Y.heap.size Y wx → ((wx.cell? ⟨w.heap.size + 1, 0, none⟩ = some (.int .i64 fx) ∧ wx.cell? ⟨w.heap.size + 1, 1, none⟩ = some (.int .i64 fy)) ∧ ((wx.cell? ⟨w.heap.size, 0, none⟩ = some (.int .i64 (wd : Nat)) ∧ wx.cell? ⟨w.heap.size, 1, none⟩ = some (.int .i64 (ht : Nat))) ∧ wx.cell? ⟨w.heap.size, 2, none⟩ = some (.slice ia inn ic)) ∧ (wx.cell? ⟨g, o + i * 2, none⟩ = some (.int .i64 q.1) ∧ wx.cell? ⟨g, o + i * 2 + 1, none⟩ = some (.int .i64 q.2)))) := hide fun wx hx => ⟨(tY.kept hx).1, (gY.upto hx).c, (hx.cell (p := ⟨g, _, none⟩) hgl).trans c0, (hx.cell (p := ⟨g, _, none⟩) hgl).trans c1⟩
          have HY := hide (And.intro hY (And.intro (bt hbi BY) (bt bwi BY)))
          have HQ := hide (And.intro hf (And.intro hq hi))
          have HLi := hide (rline_any fx fy q.1 q.2 Y)
          clear hI hRR hRl hRn hn hlegR hfar hq hqP hi bwi hY BY hgl tY gY hf hbi hval c0 c1
          go_wp2_with fail
          refine wp_only ?_
          refine wp_region_z (fun wx : World => Below Y.heap.size Y wx) [8, 9] (by kernel_rfl) ?_
          rw [HY.out.1]
          refine zx 0 7 12 rfl (by kernel_rfl) (Below.refl _ _) ?_
          iterate 7 (refine zxc rfl (by rfl) (fun wx hx => by obtain ⟨⟨k0, k1⟩, ⟨⟨l0, l1⟩, l2⟩, c0, c1⟩ := HK.out wx hx; go_simp; rfl) ?_; simp only [zp])
          refine zxn ?_
          refine zw 7 [] (by kernel_rfl) ?_
          refine readyZ.call rfl rfl (Rrline (by rfl) (by rfl) (by simp only [zj]; rfl)) HLi.out ?_ readyZ.nil
          rintro e W ⟨lv, rfl, hcn, hown, hbW⟩
          refine ⟨_, rfl, fun _ => hbW, ?_⟩
          simp only [zp]
          have bYW := bt HY.out.2.2 hbW
          refine zw 8 [] (by kernel_rfl) ?_
          refine readyZ.call rfl rfl (Rrleg (by rfl) (by rfl) (by simp only [zj]; rfl)) (rlegal_of wd ht _ S fx fy lv _ W hcn.ceR (HD.out.upto bYW)) ?_ readyZ.nil
          rintro e W2 ⟨rfl, hb2⟩
          refine ⟨_, rfl, fun h => absurd (by decide) h, ?_⟩
          simp only [zp]
          have HE := hide (And.intro (bt HY.out.2.1 (bt hbW hb2)) (bt bYW hb2))
          clear hcn hown hbW bYW hb2 HLi HY HK
          cases hleg : legV S fx fy (lineL fx fy q.1 q.2)
          · -- no: one less
            have hk2 : 2 ≤ kk := by
              rcases Nat.lt_or_ge 1 kk with h | h
              · exact h
              · exfalso
                have h1 : kk = 1 := by omega
                obtain ⟨⟨hRR, hRl⟩, ⟨hRn, hn⟩, hlegR, hfar⟩ := HN.out
                obtain ⟨hf, hq, hi⟩ := HQ.out
                rw [h1] at hq
                rw [h1, farF_one (Nat.le_refl _)] at hf
                rw [far_leg hlegR hRn (hn.trans hf.symm) hq] at hleg
                cases hleg
            have hf' := farF_miss (S := S) (x := fx) (y := fy) (P := R) (n := kk) hk2 HQ.out.2.1 hleg
            have HR := hide (show farF S fx fy R (kk - 1) = n by rw [← hf']; exact HQ.out.1)
            have hi1 : (i : Int) - 1 = ((i - 1 : Nat) : Int) := by have := HQ.out.2.2; omega
            have hi2 : IntKind.i64.wrap (((i - 1 : Nat) : Nat) : Int) = ((i - 1 : Nat) : Int) := by have := HQ.out.2.2; rw [IntKind.wrap_i64]; omega
            have HI1 := hide (show i - 1 = k + (kk - 1) - 1 ∧ i - 1 < i by have := HQ.out.2.2; omega)
            obtain ⟨i1, hi1'⟩ : ∃ i1 : Nat, i - 1 = i1 := ⟨_, rfl⟩
            rw [hi1'] at hi1 hi2 HI1
            clear hleg hf' hi1' HQ
            refine zq 9 (by kernel_rfl) rfl rfl (by go_simp; exact ⟨rfl, rfl⟩) (fun h => absurd (by decide) h) ?_
            refine anyZ_done (by kernel_rfl) ?_ _
            dsimp only [Only, Exit.then]
            simp only [zp]
            go_wp2_with fail
            go_roundw
            case rel => exact ⟨kk - 1, by omega, by rw [HI1.out.1], HR.out, HE.out.1⟩
            case measure => simp [intOf]; exact HI1.out.2
          · refine zq 9 (by kernel_rfl) rfl rfl (by go_simp; exact ⟨rfl, rfl⟩) (fun h => absurd (by decide) h) ?_
            refine anyZ_done (by kernel_rfl) ?_ _
            dsimp only [Only, Exit.then]
            simp only [zp]
            have hkn : kk = n := by
              obtain ⟨hf, hq, hi⟩ := HQ.out
              by_cases h2 : 2 ≤ kk
              · rw [← hf, farF_hit h2 hq hleg]
              · rw [← hf, farF_one (by omega)]; omega
            subst hkn
            obtain ⟨Y2, hY2⟩ : ∃ Y2, W2.drew = Y2 := ⟨_, rfl⟩
            have BY2 : Below W2.heap.size W2 Y2 := by rw [← hY2]; exact (Below.refl _ _).drew
            have hI := HI'.out
            obtain ⟨⟨hRR, hRl⟩, ⟨hRn, hn⟩, hlegR, hfar⟩ := HN.out
            obtain ⟨hf, hq, hi⟩ := HQ.out
            have hqP : P[i]? = some q := by
              rw [← hRR, List.getElem?_drop, show k + (kk - 1) = i by omega] at hq
              exact hq
            have bo2 := bt HE.out.1 BY2
            have bw2 := bt HE.out.2 BY2
            have hgl : (some (⟨g, o, none⟩ : Addr) = some ⟨g, o, none⟩ ∧ g < w.heap.size) ∧ w.cell? ⟨g, o + i * 2, none⟩ = some (.int .i64 q.1) ∧ w.cell? ⟨g, o + i * 2 + 1, none⟩ = some (.int .i64 q.2) := by
              obtain ⟨a', cap', he', _, _, _, hform⟩ := HV.out.1
              obtain ⟨g', o', hgg, h0, e1, e2⟩ := hform i q hqP
              injection he' with h1 h2 h3
              rw [← h1] at hgg
              cases hgg
              exact ⟨⟨rfl, h0⟩, e1, e2⟩
            have tY := hI.two.kept bo2
            have HK2 : Hid (∀ wx, Below w.heap.size w wx → wx.cell? ⟨g, o + i * 2, none⟩ = some (.int .i64 q.1) ∧ wx.cell? ⟨g, o + i * 2 + 1, none⟩ = some (.int .i64 q.2)) := hide fun wx hx => ⟨(hx.cell (p := ⟨g, _, none⟩) hgl.1.2).trans hgl.2.1, (hx.cell (p := ⟨g, _, none⟩) hgl.1.2).trans hgl.2.2⟩
            have HK3 : Hid (∀ wx, Below Y2.heap.size Y2 wx → (wx.cell? ⟨w.heap.size + 1, 0, none⟩ = some (.int .i64 fx) ∧ wx.cell? ⟨w.heap.size + 1, 1, none⟩ = some (.int .i64 fy)) ∧ (wx.cell? ⟨g, o + i * 2, none⟩ = some (.int .i64 q.1) ∧ wx.cell? ⟨g, o + i * 2 + 1, none⟩ = some (.int .i64 q.2))) := hide fun wx hx => ⟨(tY.kept hx).1, HK2.out wx (bt bw2 hx)⟩
            have hrow : Cn Y2 u8 acc := hI.row.upto bo2
            have hall := hI.all
            rw [hRR, smF_more hRn hn hq, ← List.append_assoc] at hall
            have hlM := lineL_len fx fy q.1 q.2
            have hlL : acc.length + (lineL fx fy q.1 q.2).length ≤ 1000000000 := by have := congrArg List.length hall; rw [List.length_append, List.length_append] at this; omega
            have hdr : P.drop (i + 1) = R.drop kk := by rw [← hRR, List.drop_drop]; congr 1; omega
            have hlg1 : legF S q.1 q.2 (P.drop (i + 1)) = true := by
              rw [hdr]
              have := (leg_at hlegR hq).2.2.2.2.1
              rwa [show kk - 1 + 1 = kk by omega] at this
            rw [← hdr] at hall
            obtain ⟨va8, vc8, hu8, -⟩ := Rw.form ceCs_len hrow
            subst hu8
            have HY2 := hide (And.intro hY2 (And.intro bo2 bw2))
            have HLi := hide (rline_any fx fy q.1 q.2 Y2)
            have HA := hide (And.intro hrow (And.intro hall (And.intro hlL (And.intro hlg1 (And.intro hI.own (And.intro hI.gb hI.two))))))
            have hbnd : (i : Int) + 1 ≤ 16384 := by omega
            have hiw : IntKind.i64.wrap ((i : Int) + 1) = (i : Int) + 1 := by rw [IntKind.wrap_i64]; omega
            have HF1 := hide (show i + 1 ≤ P.length ∧ (P.drop (i + 1)).length ≤ m' ∧ k ≤ i by
              have := hI.fuel
              rw [hRR] at this
              rw [hdr, List.length_drop]
              omega)
            clear hleg hI hRR hRl hRn hn hlegR hfar hf hq hi hqP bo2 bw2 hgl tY hrow hall hlL hlM hdr hlg1 BY2 HE HQ HN HI'
            go_wp2_with fail
            refine wp_only ?_
            refine wp_region_z (fun wx : World => Below Y2.heap.size Y2 wx) [7, 8] (by kernel_rfl) ?_
            rw [HY2.out.1]
            refine zx 0 6 12 rfl (by kernel_rfl) (Below.refl _ _) ?_
            iterate 6 (refine zxc rfl (by rfl) (fun wx hx => by obtain ⟨⟨k0, k1⟩, c0, c1⟩ := HK3.out wx hx; go_simp; rfl) ?_; simp only [zp])
            refine zxn ?_
            refine zw 6 [] (by kernel_rfl) ?_
            refine readyZ.call rfl rfl (Rrline (by rfl) (by rfl) (by simp only [zj]; rfl)) HLi.out ?_ readyZ.nil
            rintro e W3 ⟨lv, rfl, hcn, hown, hb3⟩
            refine ⟨_, rfl, fun _ => hb3, ?_⟩
            simp only [zp]
            obtain ⟨v7, W7, hr7, hc7, ho7, hT7⟩ := Cn.more (HA.out.1.upto hb3) hcn.ceR HA.out.2.2.1
            refine zq 7 (by kernel_rfl) rfl rfl (run_appC rfl rfl rfl rfl hr7) (fun h => absurd (by decide) h) ?_
            refine zq 8 (v' := v7) (by kernel_rfl) rfl rfl (run_as rfl rfl) (fun h => absurd (by decide) h) ?_
            refine anyZ_done (by kernel_rfl) ?_ _
            dsimp only [Only, Exit.then]
            simp only [zp]
            obtain ⟨hrow, hall, hlL, hlg1, hIown, hIgb, hItwo⟩ := HA.out
            have hu7 : ∀ j, (Value.slice va8 acc.length vc8).ownBlock = some j → w.heap.size + 1 < j := hIown
            have bo3 := bt HY2.out.2.1 hb3
            have bw3 := bt HY2.out.2.2 hb3
            have bw7 : Below w.heap.size w W7 := bw3.trans (hT7.below (fun j e => by have := hu7 j e; omega) bw3.size)
            have t7 : Two W7 (w.heap.size + 1) fx fy := two_kept (hItwo.kept bo3) hT7 (fun e => by have := hu7 _ e; omega)
            have g7 : GB W7 w.heap.size wd ht (.slice ia inn ic) := (hIgb.upto bo3).kept hT7 (fun e => by have := hu7 _ e; omega)
            have TZ := (Turns.set (S := fun j => j = w.heap.size + 1) W7 (p := ⟨w.heap.size + 1, 0, none⟩) rfl (.int .i64 q.1)).trans (Turns.set (S := fun j => j = w.heap.size + 1 ∨ W7.heap.size ≤ j) _ (p := ⟨w.heap.size + 1, 1, none⟩) (.inl rfl) (.int .i64 q.2))
            have tz := t7.set (s := q.1) (t := q.2)
            obtain ⟨Z, hZ⟩ : ∃ Z, (W7.setCell ⟨w.heap.size + 1, 0, none⟩ (.int .i64 q.1)).setCell ⟨w.heap.size + 1, 1, none⟩ (.int .i64 q.2) = Z := ⟨_, rfl⟩
            rw [hZ] at TZ tz
            have sz3 := (hItwo.kept bo3).2.2
            have own7 : ∀ j, v7.ownBlock = some j → w.heap.size + 1 < j := fun j e => by
              rcases ho7 j e with h1 | h1
              · exact hu7 j h1
              · omega
            have HJ := hide (show DsI w wd ht (.slice ia inn ic) S P L v7 Z (i + 1) q.1 q.2 (acc ++ lineL fx fy q.1 q.2) m' from {
              le := HF1.out.1
              two := tz
              gb := g7.kept TZ (by omega)
              leg := hlg1
              row := hc7.kept TZ (fun j e h => by have := own7 j e; omega)
              own := own7
              fuel := HF1.out.2.1
              all := hall
              bl := bw7.trans (TZ.below (fun j e => by omega) bw7.size) })
            have HZ := hide hZ
            have HM := hide HF1.out.2.2
            obtain ⟨c0, c1⟩ := HK2.out W7 bw7
            obtain ⟨⟨k6, k7⟩, ⟨f6, f7⟩, -⟩ := id t7
            clear hrow hall hlL hlg1 hIown hIgb hItwo hu7 bo3 bw3 bw7 t7 g7 TZ tz hZ sz3 own7 HA HF1 HK2 HK3 HY2 HLi hr7 hc7 ho7 hT7 hcn hown hb3
            go_wp2_with (rw [HZ.out])
            go_roundw
            case rel => exact ⟨i + 1, _, _, _, _, by go_num, HJ.out⟩
            case measure => simp [intOf]; have := HM.out; omega
end Go.Proofs.YtekpamilcpeanaaDoor
