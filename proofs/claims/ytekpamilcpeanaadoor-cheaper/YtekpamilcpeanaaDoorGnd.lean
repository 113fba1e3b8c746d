/-
  The document's ground: where a shape stands, cell by cell of a world (Of, Stands). The document's ground: Stands, Steps.
-/
import Derived.Test.YtekpamilcpeanaaDoorRows4
import Derived.Test.YtekpamilcpeanaaDoorRStep
import Derived.Test.YtekpamilcpeanaaDoorRefSt
set_option linter.unusedSimpArgs false
namespace Go.Proofs.YtekpamilcpeanaaDoor
open Go.RowKit Go.Shelf
set_option linter.unusedVariables false
def cB (b : Bool) : List Value := [.bool b]
theorem cB_len (b : Bool) : (cB b).length = 1 := rfl
/-- The ground as a value. -/
abbrev gdv (wd ht : Nat) (iv : Value) : Value := .agg #[.int .i64 (wd : Nat), .int .i64 (ht : Nat), iv]
/-- A ground in a block of its own. -/
def GB (w : World) (B wd ht : Nat) (iv : Value) : Prop := w.heap[B]? = some (.cells #[.int .i64 (wd : Nat), .int .i64 (ht : Nat), iv] 50 (0, 0))
theorem GB.lt {w : World} {B wd ht : Nat} {iv : Value} (h : GB w B wd ht iv) : B < w.heap.size := (Array.getElem?_eq_some_iff.1 h).1
theorem GB.upto {w w' : World} {B wd ht : Nat} {iv : Value} (h : GB w B wd ht iv) (hb : Below w.heap.size w w') : GB w' B wd ht iv := (hb.block B h.lt).trans h
theorem GB.kept {S : Nat → Prop} {w w' : World} {B wd ht : Nat} {iv : Value} (h : GB w B wd ht iv) (ht' : Turns S w w') (hs : ¬ S B) : GB w' B wd ht iv := ht'.same hs h
theorem GB.c {w : World} {B wd ht : Nat} {iv : Value} (h : GB w B wd ht iv) : (w.cell? ⟨B, 0, none⟩ = some (.int .i64 (wd : Nat)) ∧ w.cell? ⟨B, 1, none⟩ = some (.int .i64 (ht : Nat))) ∧ w.cell? ⟨B, 2, none⟩ = some iv := ⟨⟨cell_of_row w B 0 _ _ _ h, cell_of_row w B 1 _ _ _ h⟩, cell_of_row w B 2 _ _ _ h⟩
theorem GB.fz {w : World} {B wd ht : Nat} {iv : Value} (h : GB w B wd ht iv) (j : Nat) : w.frozen? ⟨B, j, none⟩ = false := by
  have h' : w.heap[B]? = _ := h
  simp [World.frozen?, h']
theorem GB.set {w : World} {B wd ht : Nat} {iv : Value} (h : GB w B wd ht iv) (u : Value) : GB (w.setCell ⟨B, 2, none⟩ u) B wd ht u := by
  have h' : w.heap[B]? = _ := h
  unfold GB
  simp [World.setCell, Array.getElem?_modify, h']
theorem GB.all {w : World} {B a b : Nat} {iv : Value} (h : GB w B a b iv) (x y : Nat) (v : Value) : GB (((w.setCell ⟨B, 0, none⟩ (.int .i64 (x : Nat))).setCell ⟨B, 1, none⟩ (.int .i64 (y : Nat))).setCell ⟨B, 2, none⟩ v) B x y v := by
  have h' : w.heap[B]? = _ := h
  unfold GB
  simp [World.setCell, Array.getElem?_modify, h']
theorem set3 {S : Nat → Prop} (w : World) (B : Nat) (hS : S B) (x y z : Value) : Turns S w (((w.setCell ⟨B, 0, none⟩ x).setCell ⟨B, 1, none⟩ y).setCell ⟨B, 2, none⟩ z) := ((Turns.set (S := S) w (p := ⟨B, 0, none⟩) hS x).trans ((Turns.set (S := S) _ (p := ⟨B, 1, none⟩) hS y).mono (fun _ _ h => .inl h))).trans ((Turns.set (S := S) _ (p := ⟨B, 2, none⟩) hS z).mono (fun _ _ h => .inl h))
theorem GB.new (w : World) (wd ht : Nat) (iv : Value) : GB (w.alloc (.cells #[.int .i64 (wd : Nat), .int .i64 (ht : Nat), iv] 50)) w.heap.size wd ht iv := heap_alloc_new w _
theorem info4b : (Tryd.prog.info? 4).map (fun i => (i.zero, i.size, i.bytes)) = some (some (.bool false), 1, 1) := by kernel_rfl
/-- What Of keeps: so many cells told. -/
structure Og (w0 W : World) (B wd ht : Nat) (cl : Int) (s : Int) (f : Nat → Bool) (iv : Value) (k : Nat) : Prop where
  gb : GB W B wd ht iv
  row : Rw 4 1 cB W iv ((List.range k).map f)
  bl : Below w0.heap.size w0 W
  own : ∀ g, iv.ownBlock = some g → w0.heap.size + 2 ≤ g
  hB : w0.heap.size + 2 ≤ B
  sh : Two W w0.heap.size cl s
  res : GB W (w0.heap.size + 1) 0 0 (.slice none 0 0)
section
variable {w0 W W' : World} {B wd ht : Nat} {cl : Int} {s : Int} {f : Nat → Bool} {iv : Value} {k : Nat}
theorem Og.upto (h : Og w0 W B wd ht cl s f iv k) (hb : Below W.heap.size W W') : Og w0 W' B wd ht cl s f iv k := ⟨h.gb.upto hb, h.row.upto hb, bt h.bl hb, h.own, h.hB, h.sh.kept hb, h.res.upto hb⟩
theorem Og.grow {v' : Value} (h : Og w0 W B wd ht cl s f iv k) (hown : W'.ownsRow 0 4 1 v' (k + 1) (((List.range k).map f).flatMap cB ++ [.bool (f k)])) (hgrow : W.grownBy W' iv.ownBlock) (hloc : v'.ownBlock = iv.ownBlock ∨ v'.ownBlock = some W.heap.size) :
    GB W' B wd ht iv ∧ Two W' w0.heap.size cl s ∧ Og w0 (W'.setCell ⟨B, 2, none⟩ v') B wd ht cl s f v' (k + 1) := by
  obtain ⟨h1, hrow, hbl, how, hB, hsh, hres⟩ := h
  have T : Turns (fun k => iv.ownBlock = some k) W W' := Turns.of_grown hgrow (fun k e => e)
  have P' := h1.kept T (fun e => hrow.ne e h1 (by decide) rfl)
  have TS : Turns (fun k => k = B) W' (W'.setCell ⟨B, 2, none⟩ v') := Turns.set (S := fun k => k = B) W' (p := ⟨B, 2, none⟩) rfl _
  have hR : Rw 4 1 cB W' v' ((List.range (k + 1)).map f) := by
    unfold Rw
    rw [List.range_succ, List.map_append, List.length_append, List.flatMap_append]
    simpa [cB] using hown
  have hR2 := hR.kept TS (fun g hg e => hR.ne hg P' (by decide) e)
  have S' := two_kept hsh T (fun e => by have := how _ e; omega)
  refine ⟨P', S', P'.set v', hR2, ?_, fun g hg => ?_, hB, two_kept S' TS (by omega), (hres.kept T (fun e => by have := how _ e; omega)).kept TS (by omega)⟩
  · have b1 : Below w0.heap.size W W' := T.below (fun k e => by have := how k e; omega) hbl.size
    exact (hbl.trans b1).setCell (p := ⟨B, 2, none⟩) (by simp; omega) _
  rcases hloc with e | e
  · exact how g (by rw [← e]; exact hg)
  · rw [e] at hg; cases hg; have := hres.lt; omega
end
theorem cB_new (w : World) (b : Bool) : ∀ i u, ([.bool b] : List Value)[i]? = some u → (w.alloc (.cells #[.bool b] 4)).cell? ((⟨w.heap.size, 0, none⟩ : Addr).add i) = some u := by
  intro i u hu
  rw [Addr.add_lit, Nat.zero_add, cell_of_row _ w.heap.size i _ _ _ (heap_alloc_new w _)]
  simpa using hu
theorem cB_one (b : Bool) : ∀ u ∈ ([.bool b] : List Value), u.oneCell' = true := by
  intro u hu
  simp at hu
  subst hu
  rfl
set_option maxRecDepth 100000 in
set_option maxHeartbeats 8000000 in
theorem of_gr {w : World} {r wd ht N : Nat} {tl : List Nat} {L : List Bd} (cl : Int) (s : Int) (hw : Rl w r wd ht tl L) (hwd : (1 ≤ wd ∧ wd ≤ 128) ∧ 1 ≤ ht ∧ ht ≤ 128) (hN : N = wd * ht) :
    Calls Tryd.prog 18 #[ptr r, shv cl s] w fun e w' => ∃ iv, e = .returned (gdv wd ht iv) ∧ Rw 4 1 cB w' iv ((List.range N).map (fun k => stB wd ht tl (whoF L) cl s ((k % wd : Nat) : Int) ((k / wd : Nat) : Int))) ∧ Below w.heap.size w w' := by
  have hN2 : N ≤ 16384 := by have := Nat.mul_le_mul hwd.1.2 hwd.2.2; omega
  have hgs : gs (wd : Int) 128 = true ∧ gs (ht : Int) 128 = true := by constructor <;> (simp only [gs, decide_eq_true_eq]; omega)
  obtain ⟨f, hf⟩ : ∃ f, f = (fun k => stB wd ht tl (whoF L) cl s ((k % wd : Nat) : Int) ((k / wd : Nat) : Int)) := ⟨_, rfl⟩
  have HSt : Hid (∀ wx, Below w.heap.size w wx → ∀ x y : Nat, x < wd → y < ht → Calls Tryd.prog 36 #[ptr r, shv cl s, cel (x : Nat) (y : Nat)] wx fun e w' => e = .returned (.bool (f (y * wd + x))) ∧ Below wx.heap.size wx w') := hide fun wx hx x y h1 h2 => by
    have h3 := refstands_any r wd ht tl L cl s (x : Nat) (y : Nat) wx (hw.kept hx)
    have e := idx_mod (y := y) h1
    have h4 : f (y * wd + x) = stB wd ht tl (whoF L) cl s (x : Nat) (y : Nat) := by
      rw [hf]; simp only [e.1, e.2]
    rw [h4]; exact h3
  have HAl := hide (refall_is (hw.kept (bt (box1 w (.cells #[.int .i64 cl, .int .i64 s] 37)) (box1 _ (.cells #[.int .i64 0, .int .i64 0, .slice none 0 0] 50)))))
  rw [← hf]
  have HN := hide hN
  obtain ⟨X, hX⟩ : ∃ X, (w.alloc (.cells #[.int .i64 cl, .int .i64 s] 37)).alloc (.cells #[.int .i64 0, .int .i64 0, .slice none 0 0] 50) = X := ⟨_, rfl⟩
  have B0 : Below w.heap.size w X := hX ▸ box2 _ _ _
  have bX : Two X w.heap.size cl s := hX ▸ (Two.newAt rfl).alloc
  have gX : GB X (w.heap.size + 1) 0 0 (.slice none 0 0) := by
    rw [← hX]
    have := GB.new (w.alloc (.cells #[.int .i64 cl, .int .i64 s] 37)) 0 0 (.slice none 0 0)
    simpa using this
  rw [hX] at HAl
  have HX := hide hX
  have hmax := hN2
  clear hX hw hf hN
  go_enter Tryd.func18, Tryd.ntmps18
  go_wp2_with fail
  rw [HX.out]
  refine HAl.out.mono ?_
  rintro e w1 ⟨rfl, hb1⟩
  have b1 := bX.kept hb1
  have g1 := gX.upto hb1
  have B1 := bt B0 hb1
  clear bX gX HAl HX hb1
  have F2 : Four (w1.alloc (.cells #[.int .i64 0, .int .i64 0, .int .i64 wd, .int .i64 ht] 67)) w1.heap.size 0 0 wd ht := cells4 (Below.refl _ _)
  have B2 : Below w1.heap.size w1 (w1.alloc (.cells #[.int .i64 0, .int .i64 0, .int .i64 wd, .int .i64 ht] 67)) := box1 _ _
  obtain ⟨⟨f0, f1, f2, f3⟩, -, -⟩ := id F2
  have G3 : GB ((w1.alloc (.cells #[.int .i64 0, .int .i64 0, .int .i64 wd, .int .i64 ht] 67)).alloc (.cells #[.int .i64 wd, .int .i64 ht, .slice none 0 0] 50)) (w1.heap.size + 1) wd ht (.slice none 0 0) := by
    have := GB.new (w1.alloc (.cells #[.int .i64 0, .int .i64 0, .int .i64 wd, .int .i64 ht] 67)) wd ht (.slice none 0 0)
    simpa using this
  go_wp2_with fail
  have B3 := bt (bt B1 B2) (box1 (w1.alloc (.cells #[.int .i64 0, .int .i64 0, .int .i64 wd, .int .i64 ht] 67)) (.cells #[.int .i64 wd, .int .i64 ht, .slice none 0 0] 50))
  have T3 := (b1.kept B2).kept (box1 (w1.alloc (.cells #[.int .i64 0, .int .i64 0, .int .i64 wd, .int .i64 ht] 67)) (.cells #[.int .i64 wd, .int .i64 ht, .slice none 0 0] 50))
  have g3 := (g1.upto B2).upto (box1 (w1.alloc (.cells #[.int .i64 0, .int .i64 0, .int .i64 wd, .int .i64 ht] 67)) (.cells #[.int .i64 wd, .int .i64 ht, .slice none 0 0] 50))
  obtain ⟨V, hV⟩ : ∃ V, (w1.alloc (.cells #[.int .i64 0, .int .i64 0, .int .i64 wd, .int .i64 ht] 67)).alloc (.cells #[.int .i64 wd, .int .i64 ht, .slice none 0 0] 50) = V := ⟨_, rfl⟩
  rw [hV] at G3 B3 T3 g3
  try rw [hV]
  obtain ⟨B, hB⟩ : ∃ B, w1.heap.size + 1 = B := ⟨_, rfl⟩
  rw [hB] at G3
  try rw [hB]
  have zB1 := B1.size
  have zg := g1.lt
  have I0 : Og w V B wd ht cl s f (.slice none 0 0) 0 := ⟨G3, Rw.nil _ _ _ _, B3, (fun g hg => by cases hg), by omega, T3, g3⟩
  have HI0 := hide I0
  have hwI : (1 : Int) ≤ (wd : Nat) ∧ ((wd : Nat) : Int) ≤ 128 := by omega
  have hhI : (1 : Int) ≤ (ht : Nat) ∧ ((ht : Nat) : Int) ≤ 128 := by omega
  obtain ⟨fi, hfi, hz9, h1, h8⟩ := info_parts info4b
  have hBw : w.heap.size + 2 ≤ B := by omega
  clear I0 G3 B3 T3 g3 hB f0 f1 f2 f3 F2 B2 B1 b1 g1 hV zB1 zg
  go_loopw [7] (fun d wr => ∃ (y : Nat) (iv : Value), d = .int .i64 (y : Nat) ∧ y ≤ ht ∧ Og w wr B wd ht cl s f iv (y * wd)) (fun d _ => ht - (intOf d).toNat)
  case atStart => exact ⟨0, _, rfl, Nat.zero_le _, by rw [Nat.zero_mul]; exact HI0.out⟩
  case round =>
    obtain ⟨y, iv, rfl, hy, hI⟩ := hrel
    clear HI0
    rename World => wo
    obtain ⟨⟨c0, c1⟩, c2⟩ := hI.gb.c
    by_cases hlt : y < ht
    · have hli : ((y : Nat) : Int) < (ht : Nat) := by omega
      have hyI : (0 : Int) ≤ (y : Nat) ∧ ((y : Nat) : Int) ≤ 128 := by omega
      have HI := hide hI
      clear hI c0 c2
      go_wp2_with fail
      go_loopw [8] (fun d wr => ∃ (x : Nat) (iv : Value), d = .int .i64 (x : Nat) ∧ x ≤ wd ∧ Og w wr B wd ht cl s f iv (y * wd + x)) (fun d _ => wd - (intOf d).toNat)
      case atStart => exact ⟨0, _, rfl, Nat.zero_le _, HI.out⟩
      case round =>
        obtain ⟨x, iv, rfl, hx, hI⟩ := hrel
        clear HI c1
        obtain ⟨⟨c0, c1⟩, c2⟩ := hI.gb.c
        by_cases hltx : x < wd
        · have hlx : ((x : Nat) : Int) < (wd : Nat) := by omega
          have hxI : (0 : Int) ≤ (x : Nat) ∧ ((x : Nat) : Int) ≤ 128 := by omega
          have hkN : y * wd + x < N := by rw [HN.out]; exact idx_lt hltx hlt
          obtain ⟨fk, hfk⟩ : ∃ fk, f (y * wd + x) = fk := ⟨_, rfl⟩
          have HStk : Hid (∀ wx, Below w.heap.size w wx → Calls Tryd.prog 36 #[ptr r, shv cl s, cel (x : Nat) (y : Nat)] wx fun e w' => e = .returned (.bool fk) ∧ Below wx.heap.size wx w') := hide fun wx hx => by rw [← hfk]; exact HSt.out wx hx x y hltx hlt
          have HFk := hide hfk
          have HI := hide hI
          have HId := hide (hI.upto (Below.refl _ wr).drew)
          have HSx : Hid (∀ wx, Two wx w.heap.size cl s → wx.cell? ⟨w.heap.size, 0, none⟩ = some (.int .i64 cl) ∧ wx.cell? ⟨w.heap.size, 1, none⟩ = some (.int .i64 s)) := hide fun wx h => h.1
          have hlen : ((List.range (y * wd + x)).map f).length = y * wd + x := by simp
          have hm1 : ((List.range (y * wd + x)).map f).length + 1 ≤ maxLen := by rw [hlen]; unfold maxLen; omega
          have hm2 : (((List.range (y * wd + x)).map f).length + 1) * 1 ≤ 140737488355328 := by rw [hlen]; omega
          have Hlen := hide hlen
          clear hI hfk hlen c1
          go_wp2_with fail
          clear c0
          refine wp_only ?_
          refine wp_region_held_drew (S := fun wx => wx.cell? ⟨w.heap.size, 0, none⟩ = some (.int .i64 cl) ∧ wx.cell? ⟨w.heap.size, 1, none⟩ = some (.int .i64 s)) (by kernel_rfl) (HSx.out _ HId.out.sh) (fun hHeld => ?_)
          refine wpAnyH_take (i := 0) (v := ?_) rfl (by kernel_rfl) (by kernel_rfl) (by kernel_rfl) (fun _ _ _ h => h.elim) (Or.inl ⟨by rfl, ?_⟩) (by assumption) ?_
          rotate_left
          · intro wx hSw
            try dsimp only at hSw
            go_simp
            try with_reducible rfl
          try simp only [Act.put, List.getElem_toArray, List.getElem_cons_zero, List.getElem_cons_succ, List.setIfInBounds_toArray, List.set_cons_zero, List.set_cons_succ]
          refine wpAnyH_take (i := 2) (v := ?_) rfl (by kernel_rfl) (by kernel_rfl) (by kernel_rfl) (fun _ _ _ h => h.elim) (Or.inl ⟨by rfl, ?_⟩) (by assumption) ?_
          rotate_left
          · intro wx hSw
            try dsimp only at hSw
            go_simp
            try with_reducible rfl
          try simp only [Act.put, List.getElem_toArray, List.getElem_cons_zero, List.getElem_cons_succ, List.setIfInBounds_toArray, List.set_cons_zero, List.set_cons_succ]
          refine wpAnyH_take (i := 3) (v := ?_) rfl (by kernel_rfl) (by kernel_rfl) (by kernel_rfl) (fun _ _ _ h => h.elim) (Or.inl ⟨by rfl, ?_⟩) (by assumption) ?_
          rotate_left
          · intro wx hSw
            try dsimp only at hSw
            go_simp
            try with_reducible rfl
          try simp only [Act.put, List.getElem_toArray, List.getElem_cons_zero, List.getElem_cons_succ, List.setIfInBounds_toArray, List.set_cons_zero, List.set_cons_succ]
          refine wpAnyH_take (i := 4) (v := ?_) rfl (by kernel_rfl) (by kernel_rfl) (by kernel_rfl) (fun _ _ _ h => h.elim) (Or.inl ⟨by rfl, ?_⟩) (by assumption) ?_
          rotate_left
          · intro wx hSw
            try dsimp only at hSw
            go_simp
            try with_reducible rfl
          try simp only [Act.put, List.getElem_toArray, List.getElem_cons_zero, List.getElem_cons_succ, List.setIfInBounds_toArray, List.set_cons_zero, List.set_cons_succ]
          refine wpAnyH_take (i := 5) (v := ?_) rfl (by kernel_rfl) (by kernel_rfl) (by kernel_rfl) (fun _ _ _ h => h.elim) (Or.inl ⟨by rfl, ?_⟩) (by assumption) ?_
          rotate_left
          · intro wx hSw
            try dsimp only at hSw
            go_simp
            try with_reducible rfl
          try simp only [Act.put, List.getElem_toArray, List.getElem_cons_zero, List.getElem_cons_succ, List.setIfInBounds_toArray, List.set_cons_zero, List.set_cons_succ]
          refine wpAnyH_take (i := 6) (v := ?_) rfl (by kernel_rfl) (by kernel_rfl) (by kernel_rfl) (fun _ _ _ h => h.elim) (Or.inl ⟨by rfl, ?_⟩) (by assumption) ?_
          rotate_left
          · intro wx hSw
            try dsimp only at hSw
            go_simp
            try with_reducible rfl
          try simp only [Act.put, List.getElem_toArray, List.getElem_cons_zero, List.getElem_cons_succ, List.setIfInBounds_toArray, List.set_cons_zero, List.set_cons_succ]
          refine wpAnyH_ready (rs := [1, 7]) (by kernel_rfl) (by simp) ?_
          refine AllReadyH.cons rfl (fun K hK => ?_) ?_
          · go_simp
            refine hK.out _ _ ?_ (fun hHeld => ?_)
            · first | with_reducible exact HSx.out _ HI3.out.sh | with_reducible exact HSx.out _ HI2.out.sh | with_reducible exact HSx.out _ HS4.out | with_reducible exact HSx.out _ HG5.out.sh | with_reducible exact HSx.out _ HId.out.sh
            clear hK K
            try simp only [Act.put, List.getElem_toArray, List.getElem_cons_zero, List.getElem_cons_succ, List.setIfInBounds_toArray, List.set_cons_zero, List.set_cons_succ]
            refine wpAnyH_ready (rs := [7]) (by kernel_rfl) (by simp) ?_
            refine AllReadyH.cons rfl (fun K hK => ?_) ?_
            · go_simp
              refine (HStk.out _ HId.out.bl).mono ?_
              rintro e w2 ⟨rfl, hb2⟩
              have HI2 := hide (HId.out.upto hb2)
              have c22 := HI2.out.gb.c.2
              have c23 := (HI2.out.upto (box1 w2 (.cells #[.bool fk] 4))).gb.c.2
              have HI3 := hide (HI2.out.upto (box1 w2 (.cells #[.bool fk] 4)))
              clear hb2
              refine hK.out _ _ ?_ (fun hHeld => ?_)
              · first | with_reducible exact HSx.out _ HI3.out.sh | with_reducible exact HSx.out _ HI2.out.sh | with_reducible exact HSx.out _ HS4.out | with_reducible exact HSx.out _ HG5.out.sh | with_reducible exact HSx.out _ HId.out.sh
              clear hK K
              try simp only [Act.put, List.getElem_toArray, List.getElem_cons_zero, List.getElem_cons_succ, List.setIfInBounds_toArray, List.set_cons_zero, List.set_cons_succ]
              refine wpAnyH_ready (rs := [8]) (by kernel_rfl) (by simp) ?_
              refine AllReadyH.cons rfl (fun K hK => ?_) ?_
              · go_simp
                refine hK.out _ _ ?_ (fun hHeld => ?_)
                · first | with_reducible exact HSx.out _ HI3.out.sh | with_reducible exact HSx.out _ HI2.out.sh | with_reducible exact HSx.out _ HS4.out | with_reducible exact HSx.out _ HG5.out.sh | with_reducible exact HSx.out _ HId.out.sh
                clear hK K
                try simp only [Act.put, List.getElem_toArray, List.getElem_cons_zero, List.getElem_cons_succ, List.setIfInBounds_toArray, List.set_cons_zero, List.set_cons_succ]
                refine wpAnyH_ready (rs := [9]) (by kernel_rfl) (by simp) ?_
                refine AllReadyH.cons rfl (fun K hK => ?_) ?_
                · refine step_append_row rfl _ _ 48 rfl 4 fi (.bool false) 1 1 Tryd.underlying48 hfi hz9 h1 h8 rfl (by decide) iv _ _ (by simp [Act.eval]) HI3.out.row ⟨w2.heap.size, 0, none⟩ 1 1 [.bool fk] (by simp [Act.eval]) rfl (cB_new w2 fk) (cB_one fk) hm1 hm2 ?_
                  intro v4 w4 hown hgrow hloc
                  obtain ⟨P4, S4, G5⟩ := HI3.out.grow (by rw [HFk.out]; rw [Hlen.out] at hown; exact hown) hgrow hloc
                  obtain ⟨g4, cap4, hv4⟩ := row_form hown
                  rw [Hlen.out] at hv4
                  subst hv4
                  have f4 := P4.fz 2
                  have c4 := P4.c.2
                  have HP4 := hide P4
                  have HS4 := hide S4
                  have HG5 := hide G5
                  clear hown hgrow hloc P4 S4 G5
                  refine hK.out _ _ ?_ (fun hHeld => ?_)
                  · first | with_reducible exact HSx.out _ HI3.out.sh | with_reducible exact HSx.out _ HI2.out.sh | with_reducible exact HSx.out _ HS4.out | with_reducible exact HSx.out _ HG5.out.sh | with_reducible exact HSx.out _ HId.out.sh
                  clear hK K
                  try simp only [Act.put, List.getElem_toArray, List.getElem_cons_zero, List.getElem_cons_succ, List.setIfInBounds_toArray, List.set_cons_zero, List.set_cons_succ]
                  refine wpAnyH_take (i := 10) (v := ?_) rfl (by kernel_rfl) (by kernel_rfl) (by kernel_rfl) (fun _ _ _ h => h.elim) (Or.inl ⟨by rfl, ?_⟩) (by assumption) ?_
                  rotate_left
                  · intro wx hSw
                    try dsimp only at hSw
                    go_simp
                    try with_reducible rfl
                  try simp only [Act.put, List.getElem_toArray, List.getElem_cons_zero, List.getElem_cons_succ, List.setIfInBounds_toArray, List.set_cons_zero, List.set_cons_succ]
                  refine wpAnyH_ready (rs := [11]) (by kernel_rfl) (by simp) ?_
                  refine AllReadyH.cons rfl (fun K hK => ?_) ?_
                  · go_simp
                    refine hK.out _ _ ?_ (fun hHeld => ?_)
                    · first | with_reducible exact HSx.out _ HI3.out.sh | with_reducible exact HSx.out _ HI2.out.sh | with_reducible exact HSx.out _ HS4.out | with_reducible exact HSx.out _ HG5.out.sh | with_reducible exact HSx.out _ HId.out.sh
                    clear hK K
                    try simp only [Act.put, List.getElem_toArray, List.getElem_cons_zero, List.getElem_cons_succ, List.setIfInBounds_toArray, List.set_cons_zero, List.set_cons_succ]
                    refine wpAnyH_done (by kernel_rfl) ?_ _
                    dsimp only [Only, Exit.then]
                    go_wp2_with fail
                    go_roundw
                    case rel => exact ⟨x + 1, _, by go_num, by omega, HG5.out⟩
                    case measure => simp [intOf]; omega
              
                  exact AllReadyH.nil
                exact AllReadyH.nil
              exact AllReadyH.nil
            exact AllReadyH.nil
          refine AllReadyH.cons rfl (fun K hK => ?_) ?_
          · go_simp
            refine (HStk.out _ HId.out.bl).mono ?_
            rintro e w2 ⟨rfl, hb2⟩
            have HI2 := hide (HId.out.upto hb2)
            have c22 := HI2.out.gb.c.2
            have c23 := (HI2.out.upto (box1 w2 (.cells #[.bool fk] 4))).gb.c.2
            have HI3 := hide (HI2.out.upto (box1 w2 (.cells #[.bool fk] 4)))
            clear hb2
            refine hK.out _ _ ?_ (fun hHeld => ?_)
            · first | with_reducible exact HSx.out _ HI3.out.sh | with_reducible exact HSx.out _ HI2.out.sh | with_reducible exact HSx.out _ HS4.out | with_reducible exact HSx.out _ HG5.out.sh | with_reducible exact HSx.out _ HId.out.sh
            clear hK K
            try simp only [Act.put, List.getElem_toArray, List.getElem_cons_zero, List.getElem_cons_succ, List.setIfInBounds_toArray, List.set_cons_zero, List.set_cons_succ]
            refine wpAnyH_ready (rs := [1, 8]) (by kernel_rfl) (by simp) ?_
            refine AllReadyH.cons rfl (fun K hK => ?_) ?_
            · go_simp
              refine hK.out _ _ ?_ (fun hHeld => ?_)
              · first | with_reducible exact HSx.out _ HI3.out.sh | with_reducible exact HSx.out _ HI2.out.sh | with_reducible exact HSx.out _ HS4.out | with_reducible exact HSx.out _ HG5.out.sh | with_reducible exact HSx.out _ HId.out.sh
              clear hK K
              try simp only [Act.put, List.getElem_toArray, List.getElem_cons_zero, List.getElem_cons_succ, List.setIfInBounds_toArray, List.set_cons_zero, List.set_cons_succ]
              refine wpAnyH_ready (rs := [8]) (by kernel_rfl) (by simp) ?_
              refine AllReadyH.cons rfl (fun K hK => ?_) ?_
              · go_simp
                refine hK.out _ _ ?_ (fun hHeld => ?_)
                · first | with_reducible exact HSx.out _ HI3.out.sh | with_reducible exact HSx.out _ HI2.out.sh | with_reducible exact HSx.out _ HS4.out | with_reducible exact HSx.out _ HG5.out.sh | with_reducible exact HSx.out _ HId.out.sh
                clear hK K
                try simp only [Act.put, List.getElem_toArray, List.getElem_cons_zero, List.getElem_cons_succ, List.setIfInBounds_toArray, List.set_cons_zero, List.set_cons_succ]
                refine wpAnyH_ready (rs := [9]) (by kernel_rfl) (by simp) ?_
                refine AllReadyH.cons rfl (fun K hK => ?_) ?_
                · refine step_append_row rfl _ _ 48 rfl 4 fi (.bool false) 1 1 Tryd.underlying48 hfi hz9 h1 h8 rfl (by decide) iv _ _ (by simp [Act.eval]) HI3.out.row ⟨w2.heap.size, 0, none⟩ 1 1 [.bool fk] (by simp [Act.eval]) rfl (cB_new w2 fk) (cB_one fk) hm1 hm2 ?_
                  intro v4 w4 hown hgrow hloc
                  obtain ⟨P4, S4, G5⟩ := HI3.out.grow (by rw [HFk.out]; rw [Hlen.out] at hown; exact hown) hgrow hloc
                  obtain ⟨g4, cap4, hv4⟩ := row_form hown
                  rw [Hlen.out] at hv4
                  subst hv4
                  have f4 := P4.fz 2
                  have c4 := P4.c.2
                  have HP4 := hide P4
                  have HS4 := hide S4
                  have HG5 := hide G5
                  clear hown hgrow hloc P4 S4 G5
                  refine hK.out _ _ ?_ (fun hHeld => ?_)
                  · first | with_reducible exact HSx.out _ HI3.out.sh | with_reducible exact HSx.out _ HI2.out.sh | with_reducible exact HSx.out _ HS4.out | with_reducible exact HSx.out _ HG5.out.sh | with_reducible exact HSx.out _ HId.out.sh
                  clear hK K
                  try simp only [Act.put, List.getElem_toArray, List.getElem_cons_zero, List.getElem_cons_succ, List.setIfInBounds_toArray, List.set_cons_zero, List.set_cons_succ]
                  refine wpAnyH_take (i := 10) (v := ?_) rfl (by kernel_rfl) (by kernel_rfl) (by kernel_rfl) (fun _ _ _ h => h.elim) (Or.inl ⟨by rfl, ?_⟩) (by assumption) ?_
                  rotate_left
                  · intro wx hSw
                    try dsimp only at hSw
                    go_simp
                    try with_reducible rfl
                  try simp only [Act.put, List.getElem_toArray, List.getElem_cons_zero, List.getElem_cons_succ, List.setIfInBounds_toArray, List.set_cons_zero, List.set_cons_succ]
                  refine wpAnyH_ready (rs := [11]) (by kernel_rfl) (by simp) ?_
                  refine AllReadyH.cons rfl (fun K hK => ?_) ?_
                  · go_simp
                    refine hK.out _ _ ?_ (fun hHeld => ?_)
                    · first | with_reducible exact HSx.out _ HI3.out.sh | with_reducible exact HSx.out _ HI2.out.sh | with_reducible exact HSx.out _ HS4.out | with_reducible exact HSx.out _ HG5.out.sh | with_reducible exact HSx.out _ HId.out.sh
                    clear hK K
                    try simp only [Act.put, List.getElem_toArray, List.getElem_cons_zero, List.getElem_cons_succ, List.setIfInBounds_toArray, List.set_cons_zero, List.set_cons_succ]
                    refine wpAnyH_done (by kernel_rfl) ?_ _
                    dsimp only [Only, Exit.then]
                    go_wp2_with fail
                    go_roundw
                    case rel => exact ⟨x + 1, _, by go_num, by omega, HG5.out⟩
                    case measure => simp [intOf]; omega
              
                  exact AllReadyH.nil
                exact AllReadyH.nil
              exact AllReadyH.nil
            refine AllReadyH.cons rfl (fun K hK => ?_) ?_
            · go_simp
              refine hK.out _ _ ?_ (fun hHeld => ?_)
              · first | with_reducible exact HSx.out _ HI3.out.sh | with_reducible exact HSx.out _ HI2.out.sh | with_reducible exact HSx.out _ HS4.out | with_reducible exact HSx.out _ HG5.out.sh | with_reducible exact HSx.out _ HId.out.sh
              clear hK K
              try simp only [Act.put, List.getElem_toArray, List.getElem_cons_zero, List.getElem_cons_succ, List.setIfInBounds_toArray, List.set_cons_zero, List.set_cons_succ]
              refine wpAnyH_ready (rs := [1]) (by kernel_rfl) (by simp) ?_
              refine AllReadyH.cons rfl (fun K hK => ?_) ?_
              · go_simp
                refine hK.out _ _ ?_ (fun hHeld => ?_)
                · first | with_reducible exact HSx.out _ HI3.out.sh | with_reducible exact HSx.out _ HI2.out.sh | with_reducible exact HSx.out _ HS4.out | with_reducible exact HSx.out _ HG5.out.sh | with_reducible exact HSx.out _ HId.out.sh
                clear hK K
                try simp only [Act.put, List.getElem_toArray, List.getElem_cons_zero, List.getElem_cons_succ, List.setIfInBounds_toArray, List.set_cons_zero, List.set_cons_succ]
                refine wpAnyH_ready (rs := [9]) (by kernel_rfl) (by simp) ?_
                refine AllReadyH.cons rfl (fun K hK => ?_) ?_
                · refine step_append_row rfl _ _ 48 rfl 4 fi (.bool false) 1 1 Tryd.underlying48 hfi hz9 h1 h8 rfl (by decide) iv _ _ (by simp [Act.eval]) HI3.out.row ⟨w2.heap.size, 0, none⟩ 1 1 [.bool fk] (by simp [Act.eval]) rfl (cB_new w2 fk) (cB_one fk) hm1 hm2 ?_
                  intro v4 w4 hown hgrow hloc
                  obtain ⟨P4, S4, G5⟩ := HI3.out.grow (by rw [HFk.out]; rw [Hlen.out] at hown; exact hown) hgrow hloc
                  obtain ⟨g4, cap4, hv4⟩ := row_form hown
                  rw [Hlen.out] at hv4
                  subst hv4
                  have f4 := P4.fz 2
                  have c4 := P4.c.2
                  have HP4 := hide P4
                  have HS4 := hide S4
                  have HG5 := hide G5
                  clear hown hgrow hloc P4 S4 G5
                  refine hK.out _ _ ?_ (fun hHeld => ?_)
                  · first | with_reducible exact HSx.out _ HI3.out.sh | with_reducible exact HSx.out _ HI2.out.sh | with_reducible exact HSx.out _ HS4.out | with_reducible exact HSx.out _ HG5.out.sh | with_reducible exact HSx.out _ HId.out.sh
                  clear hK K
                  try simp only [Act.put, List.getElem_toArray, List.getElem_cons_zero, List.getElem_cons_succ, List.setIfInBounds_toArray, List.set_cons_zero, List.set_cons_succ]
                  refine wpAnyH_take (i := 10) (v := ?_) rfl (by kernel_rfl) (by kernel_rfl) (by kernel_rfl) (fun _ _ _ h => h.elim) (Or.inl ⟨by rfl, ?_⟩) (by assumption) ?_
                  rotate_left
                  · intro wx hSw
                    try dsimp only at hSw
                    go_simp
                    try with_reducible rfl
                  try simp only [Act.put, List.getElem_toArray, List.getElem_cons_zero, List.getElem_cons_succ, List.setIfInBounds_toArray, List.set_cons_zero, List.set_cons_succ]
                  refine wpAnyH_ready (rs := [11]) (by kernel_rfl) (by simp) ?_
                  refine AllReadyH.cons rfl (fun K hK => ?_) ?_
                  · go_simp
                    refine hK.out _ _ ?_ (fun hHeld => ?_)
                    · first | with_reducible exact HSx.out _ HI3.out.sh | with_reducible exact HSx.out _ HI2.out.sh | with_reducible exact HSx.out _ HS4.out | with_reducible exact HSx.out _ HG5.out.sh | with_reducible exact HSx.out _ HId.out.sh
                    clear hK K
                    try simp only [Act.put, List.getElem_toArray, List.getElem_cons_zero, List.getElem_cons_succ, List.setIfInBounds_toArray, List.set_cons_zero, List.set_cons_succ]
                    refine wpAnyH_done (by kernel_rfl) ?_ _
                    dsimp only [Only, Exit.then]
                    go_wp2_with fail
                    go_roundw
                    case rel => exact ⟨x + 1, _, by go_num, by omega, HG5.out⟩
                    case measure => simp [intOf]; omega
              
                  exact AllReadyH.nil
                exact AllReadyH.nil
              exact AllReadyH.nil
            exact AllReadyH.nil
          exact AllReadyH.nil
        · have hlx : ¬ ((x : Nat) : Int) < (wd : Nat) := by omega
          have hxe : x = wd := by omega
          subst hxe
          have HI := hide hI
          clear hI
          go_wp2_with fail
          go_roundw
          case rel => exact ⟨y + 1, iv, by go_num, by omega, by rw [Nat.succ_mul]; exact HI.out⟩
          case measure => simp [intOf]; omega
    · have hli : ¬ ((y : Nat) : Int) < (ht : Nat) := by omega
      have hye : y = ht := by omega
      subst hye
      obtain ⟨⟨r0, r1⟩, r2⟩ := hI.res.c
      have rf0 := hI.res.fz 0
      have rf1 := hI.res.fz 1
      have rf2 := hI.res.fz 2
      have HI := hide hI
      have G9 := hI.res.all wd y iv
      have T9 := set3 (S := fun k => k = w.heap.size + 1) wo (w.heap.size + 1) rfl (.int .i64 (wd : Nat)) (.int .i64 (y : Nat)) iv
      have R9 := hI.row.kept T9 (fun g hg e => by have := hI.own g hg; omega)
      have B9 : Below w.heap.size wo _ := T9.below (B := w.heap.size) (fun k e => by omega) hI.bl.size
      have HR9 : Hid (Rw 4 1 cB (((wo.setCell ⟨w.heap.size + 1, 0, none⟩ (.int .i64 (wd : Nat))).setCell ⟨w.heap.size + 1, 1, none⟩ (.int .i64 (y : Nat))).setCell ⟨w.heap.size + 1, 2, none⟩ iv) iv ((List.range N).map f)) := hide (by rw [HN.out, Nat.mul_comm]; exact R9)
      have HB9 := hide (hI.bl.trans B9)
      obtain ⟨⟨q0, q1⟩, q2⟩ := G9.c
      obtain ⟨a9, cap9, hiv, -, -⟩ := hI.row.form cB_len
      rw [List.length_map, List.length_range] at hiv
      clear hI T9 R9 B9 G9
      subst hiv
      go_wp2_with fail
      refine bodyPost_ret (v := gdv wd y _) (by simp [results, Tryd.results18, go_sem, q0, q1, q2]) rfl ⟨_, rfl, HR9.out, HB9.out⟩
end Go.Proofs.YtekpamilcpeanaaDoor
set_option linter.unusedSimpArgs false
namespace Go.Proofs.YtekpamilcpeanaaDoor
open Go.RowKit Go.Shelf
set_option linter.unusedVariables false
/-- Where the ground says that one stands. -/
def gS (wd ht : Nat) (St : Nat → Bool) (x y : Int) : Bool := decide ((0 ≤ x ∧ x < (wd : Nat)) ∧ 0 ≤ y ∧ y < (ht : Nat)) && St (y.toNat * wd + x.toNat)
/-- A step is legal. -/
def lg (S : Int → Int → Bool) (x y d : Int) : Bool := sB x y d && (S x y && (S (sX x y d) (sY x y d) && (!siB x y d || (S (siX x y d) (si0 x y d y) && S (si0 x y d x) (siY x y d)))))
/-- A ground that lies somewhere: its slice reads as St. -/
def Gd (w : World) (wd ht N : Nat) (St : Nat → Bool) (iv : Value) : Prop := Rw 4 1 cB w iv ((List.range N).map St)
theorem Gd.upto {w w' : World} {wd ht N : Nat} {St : Nat → Bool} {iv : Value} (h : Gd w wd ht N St iv) (hb : Below w.heap.size w w') : Gd w' wd ht N St iv := Rw.upto h hb
theorem Gd.form {w : World} {wd ht N : Nat} {St : Nat → Bool} {iv : Value} (h : Gd w wd ht N St iv) : ∃ a cap, iv = .slice a N cap ∧ ∀ k, k < N → ∃ g, a = some ⟨g, 0, none⟩ ∧ g < w.heap.size ∧ w.cell? ⟨g, k, none⟩ = some (.bool (St k)) := by
  obtain ⟨a, cap, h1, -, h3⟩ := Rw.form cB_len h
  rw [List.length_map, List.length_range] at h1
  refine ⟨a, cap, h1, fun k hk => ?_⟩
  obtain ⟨g, e1, e2, e3⟩ := h3 k (St k) (by rw [List.getElem?_map, List.getElem?_range hk]; rfl)
  exact ⟨g, e1, e2, by simpa using e3 0 _ rfl⟩
set_option maxRecDepth 100000 in
set_option maxHeartbeats 4000000 in
theorem gstands_any {w : World} {wd ht N : Nat} {St : Nat → Bool} {iv : Value} (x y : Int) (h : Gd w wd ht N St iv) (hw : wd ≤ 128 ∧ ht ≤ 128) (hN : N = wd * ht) :
    Calls Tryd.prog 49 #[gdv wd ht iv, cel x y] w fun e w' => e = .returned (.bool (gS wd ht St x y)) ∧ Below w.heap.size w w' := by
  have hN2 : N ≤ 16384 := by have := Nat.mul_le_mul hw.1 hw.2; omega
  obtain ⟨a, cap, rfl, hcs⟩ := h.form
  obtain ⟨X, hX⟩ : ∃ X, (w.alloc (.cells #[.int .i64 (wd : Nat), .int .i64 (ht : Nat), .slice a N cap] 50)).alloc (.cells #[.int .i64 x, .int .i64 y] 23) = X := ⟨_, rfl⟩
  have B0 : Below w.heap.size w X := hX ▸ box2 _ _ _
  have gX : GB X w.heap.size wd ht (.slice a N cap) := by rw [← hX]; exact (GB.new w wd ht _).upto (box1 _ _)
  have tX : Two X (w.heap.size + 1) x y := by rw [← hX]; exact Two.newAt (by simp)
  obtain ⟨⟨g0, g1⟩, g2⟩ := gX.c
  obtain ⟨⟨t0, t1⟩, -, -⟩ := id tX
  have HN := hide hN
  have HB0 := hide B0
  clear B0 gX tX hN
  by_cases h1 : 0 ≤ x
  · by_cases h2 : x < (wd : Nat)
    · by_cases h3 : 0 ≤ y
      · by_cases h4 : y < (ht : Nat)
        · obtain ⟨Xn, rfl⟩ := Int.eq_ofNat_of_zero_le h1
          obtain ⟨Yn, rfl⟩ := Int.eq_ofNat_of_zero_le h3
          have hk : Yn * wd + Xn < N := by rw [HN.out]; exact idx_lt (by omega) (by omega)
          obtain ⟨g, rfl, hg, hc⟩ := hcs _ hk
          obtain ⟨k, hke⟩ : ∃ k, Yn * wd + Xn = k := ⟨_, rfl⟩
          obtain ⟨b, hb⟩ : ∃ b, St k = b := ⟨_, rfl⟩
          have hgs : gS wd ht St (Xn : Nat) (Yn : Nat) = b := by
            rw [gS, decide_eq_true ⟨⟨h1, h2⟩, h3, h4⟩, Bool.true_and, Int.toNat_natCast, Int.toNat_natCast, hke, hb]
          rw [hke] at hk
          rw [hke, hb] at hc
          obtain ⟨z, hz⟩ : ∃ z : Int, IntKind.i64.wrap (((Yn : Nat) : Int) * ((wd : Nat) : Int)) = z := ⟨_, rfl⟩
          have hz2 : IntKind.i64.wrap (z + ((Xn : Nat) : Int)) = (k : Nat) := by
            rw [← hz, show ((Yn : Nat) : Int) * ((wd : Nat) : Int) = ((Yn * wd : Nat) : Int) by push_cast; rfl, wrap_nat (by omega), show ((Yn * wd : Nat) : Int) + ((Xn : Nat) : Int) = ((Yn * wd + Xn : Nat) : Int) by push_cast; rfl, hke]
            exact wrap_nat (by omega)
          have cX : X.cell? ⟨g, k, none⟩ = some (.bool b) := (HB0.out.cell (p := ⟨g, k, none⟩) hg).trans hc
          have hkI : (0 : Int) ≤ (k : Nat) ∧ ((k : Nat) : Int) < (N : Nat) ∧ ((N : Nat) : Int) ≤ 16384 := by omega
          have k1 := hkI.1
          have k2 := hkI.2.1
          rw [hgs]
          clear hcs hc hg hke hb hgs
          go_enter Tryd.func49, Tryd.ntmps49
          go_wp2_with fail
          go_ret
          exact ⟨rfl, HB0.out⟩
        · have e : gS wd ht St x y = false := by rw [gS, decide_eq_false (fun h => h4 h.2.2)]; rfl
          rw [e]
          clear hcs e
          go_enter Tryd.func49, Tryd.ntmps49
          go_wp2_with fail
          go_ret
          exact ⟨rfl, HB0.out⟩
      · have e : gS wd ht St x y = false := by rw [gS, decide_eq_false (fun h => h3 h.2.1)]; rfl
        rw [e]
        clear hcs e
        go_enter Tryd.func49, Tryd.ntmps49
        go_wp2_with fail
        go_ret
        exact ⟨rfl, HB0.out⟩
    · have e : gS wd ht St x y = false := by rw [gS, decide_eq_false (fun h => h2 h.1.2)]; rfl
      rw [e]
      clear hcs e
      go_enter Tryd.func49, Tryd.ntmps49
      go_wp2_with fail
      go_ret
      exact ⟨rfl, HB0.out⟩
  · have e : gS wd ht St x y = false := by rw [gS, decide_eq_false (fun h => h1 h.1.1)]; rfl
    rw [e]
    clear hcs e
    go_enter Tryd.func49, Tryd.ntmps49
    go_wp2_with fail
    go_ret
    exact ⟨rfl, HB0.out⟩
/-- What lies while Steps goes on: the ground, the cell, the answer. -/
structure Gx (w W : World) (wd ht : Nat) (iv : Value) (x y : Int) : Prop where
  gb : GB W w.heap.size wd ht iv
  fr : Two W (w.heap.size + 1) x y
  res : Two W (w.heap.size + 1 + 1) 0 0
  bl : Below w.heap.size w W
theorem Gx.upto {w W W' : World} {wd ht : Nat} {iv : Value} {x y : Int} (h : Gx w W wd ht iv x y) (hb : Below W.heap.size W W') : Gx w W' wd ht iv x y := ⟨h.gb.upto hb, h.fr.kept hb, h.res.kept hb, bt h.bl hb⟩
/-- The answer is laid: what is read, and that nothing else turned. -/
theorem Gx.answer {w W : World} {wd ht : Nat} {iv : Value} {x y : Int} (h : Gx w W wd ht iv x y) (u v : Int) : (((W.setCell ⟨w.heap.size + 1 + 1, 0, none⟩ (.int .i64 u)).setCell ⟨w.heap.size + 1 + 1, 1, none⟩ (.int .i64 v)).cell? ⟨w.heap.size + 1 + 1, 0, none⟩ = some (.int .i64 u) ∧ ((W.setCell ⟨w.heap.size + 1 + 1, 0, none⟩ (.int .i64 u)).setCell ⟨w.heap.size + 1 + 1, 1, none⟩ (.int .i64 v)).cell? ⟨w.heap.size + 1 + 1, 1, none⟩ = some (.int .i64 v)) ∧ Below w.heap.size w ((W.setCell ⟨w.heap.size + 1 + 1, 0, none⟩ (.int .i64 u)).setCell ⟨w.heap.size + 1 + 1, 1, none⟩ (.int .i64 v)) := by
  have y0 := h.res.set (s := u) (t := v)
  exact ⟨y0.1, (h.bl.setCell (p := ⟨w.heap.size + 1 + 1, 0, none⟩) (by simp; omega) _).setCell (p := ⟨w.heap.size + 1 + 1, 1, none⟩) (by simp; omega) _⟩
set_option maxRecDepth 100000 in
set_option maxHeartbeats 8000000 in
theorem gsteps_of {w : World} {wd ht : Nat} {iv : Value} (S : Int → Int → Bool) (x y d : Int) (a : Option Addr) (n cap : Nat) (hiv : iv = .slice a n cap)
    (HS : ∀ wx, Below w.heap.size w wx → ∀ x y, Calls Tryd.prog 49 #[gdv wd ht iv, cel x y] wx fun e w' => e = .returned (.bool (S x y)) ∧ Below wx.heap.size wx w') :
    Calls Tryd.prog 50 #[gdv wd ht iv, cel x y, .int .i64 d] w fun e w' => e = .returned (.tuple #[cel (if lg S x y d = true then sX x y d else 0) (if lg S x y d = true then sY x y d else 0), .bool (lg S x y d)]) ∧ Below w.heap.size w w' := by
  subst hiv
  obtain ⟨X, hX⟩ : ∃ X, ((w.alloc (.cells #[.int .i64 (wd : Nat), .int .i64 (ht : Nat), .slice a n cap] 50)).alloc (.cells #[.int .i64 x, .int .i64 y] 23)).alloc (.cells #[.int .i64 0, .int .i64 0] 23) = X := ⟨_, rfl⟩
  have B0 : Below w.heap.size w X := by rw [← hX]; exact bt (box2 _ _ _) (box1 _ _)
  have G0 : Gx w X wd ht (.slice a n cap) x y := by
    refine ⟨?_, ?_, ?_, B0⟩
    · rw [← hX]; exact ((GB.new w wd ht _).upto (box1 _ _)).upto (box1 _ _)
    · rw [← hX]; exact (Two.newAt (by simp)).alloc
    · rw [← hX]; exact Two.newAt (by simp)
  have HT : Hid (∀ wx, Calls Tryd.prog 45 #[cel x y, .int .i64 d] wx fun e w' => e = .returned (.tuple #[cel (sX x y d) (sY x y d), .bool (sB x y d)]) ∧ Below wx.heap.size wx w') := hide fun wx => refstep_any x y d wx
  have HD : Hid (∀ wx, Calls Tryd.prog 56 #[cel x y, .int .i64 d] wx fun e w' => e = .returned (.tuple #[cel (siX x y d) (si0 x y d y), cel (si0 x y d x) (siY x y d), .bool (siB x y d)]) ∧ Below wx.heap.size wx w') := hide fun wx => refsides_any x y d wx
  unfold lg
  obtain ⟨tx, htx⟩ : ∃ tx, sX x y d = tx := ⟨_, rfl⟩
  obtain ⟨ty, hty⟩ : ∃ ty, sY x y d = ty := ⟨_, rfl⟩
  obtain ⟨ax, hax⟩ : ∃ ax, siX x y d = ax := ⟨_, rfl⟩
  obtain ⟨ay, hay⟩ : ∃ ay, si0 x y d y = ay := ⟨_, rfl⟩
  obtain ⟨bx, hbx⟩ : ∃ bx, si0 x y d x = bx := ⟨_, rfl⟩
  obtain ⟨bY, hby⟩ : ∃ bY, siY x y d = bY := ⟨_, rfl⟩
  rw [htx, hty] at HT
  rw [hax, hay, hbx, hby] at HD
  rw [htx, hty, hax, hay, hbx, hby]
  clear htx hty hax hay hbx hby
  obtain ⟨r, hr⟩ : ∃ r, (sB x y d && (S x y && (S tx ty && (!siB x y d || (S ax ay && S bx bY))))) = r := ⟨_, rfl⟩
  rw [hr]
  obtain ⟨ox, hox⟩ : ∃ ox, (if r = true then tx else 0) = ox := ⟨_, rfl⟩
  obtain ⟨oy, hoy⟩ : ∃ oy, (if r = true then ty else 0) = oy := ⟨_, rfl⟩
  rw [hox, hoy]
  have Hr := hide hr
  have Hox := hide hox
  have Hoy := hide hoy
  clear hr hox hoy
  have HS' : Hid (∀ wx (b : Bool) u v, Below w.heap.size w wx → S u v = b → Calls Tryd.prog 49 #[gdv wd ht (.slice a n cap), cel u v] wx fun e w' => e = .returned (.bool b) ∧ Below wx.heap.size wx w') := hide fun wx b u v hb he => he ▸ HS wx hb u v
  clear HS
  have HG0 := hide G0
  obtain ⟨⟨t0, t1⟩, -, -⟩ := G0.fr
  have HX := hide hX
  clear hX G0 B0
  cases g1 : sB x y d
  · rw [g1] at HT
    have Hg1 := hide g1
    clear g1 HD HS'
    go_enter Tryd.func50, Tryd.ntmps50
    go_wp2_with fail
    rw [HX.out]
    refine (HT.out _).mono ?_
    rintro e w1 ⟨rfl, hb1⟩
    have HG1 := hide ((HG0.out.upto hb1).upto (box1 w1 (.cells #[.int .i64 tx, .int .i64 ty] 23)))
    clear hb1 t0 t1 HX HG0 HT
    obtain ⟨⟨a0, a1⟩, aB⟩ := HG1.out.answer 0 0
    obtain ⟨⟨r0, r1⟩, ⟨rf0, rf1⟩, -⟩ := HG1.out.res
    have HAB := hide aB
    clear aB
    go_wp2_with fail
    refine bodyPost_ret (v := .tuple #[cel 0 0, .bool false]) (by simp [results, Tryd.results50, go_sem, a0, a1]) rfl ⟨by rw [← Hox.out, ← Hoy.out, ← Hr.out]; simp [Hg1.out], HAB.out⟩
  rw [g1] at HT
  have Hg1 := hide g1
  clear g1
  go_enter Tryd.func50, Tryd.ntmps50
  go_wp2_with fail
  rw [HX.out]
  refine (HT.out _).mono ?_
  rintro e w1 ⟨rfl, hb1⟩
  have HG1 := hide ((HG0.out.upto hb1).upto (box1 w1 (.cells #[.int .i64 tx, .int .i64 ty] 23)))
  have b1 : Two (w1.alloc (.cells #[.int .i64 tx, .int .i64 ty] 23)) w1.heap.size tx ty := Two.newAt rfl
  have Hb1 := hide b1
  obtain ⟨⟨s0, s1⟩, -, -⟩ := HG1.out.fr
  obtain ⟨⟨g0, g9⟩, g2⟩ := HG1.out.gb.c
  clear hb1 t0 t1 HX HG0 HT b1
  cases q1 : S x y
  · have Hq := hide q1
    clear q1
    go_wp2_with fail
    refine (HS'.out _ _ _ _ HG1.out.bl Hq.out).mono ?_
    rintro e w2 ⟨rfl, hb2⟩
    have HG2 := hide (HG1.out.upto hb2)
    clear hb2 s0 s1 g0 g9 g2 HG1 Hb1 HS' HD
    obtain ⟨⟨a0, a1⟩, aB⟩ := HG2.out.answer 0 0
    obtain ⟨⟨r0, r1⟩, ⟨rf0, rf1⟩, -⟩ := HG2.out.res
    have HAB := hide aB
    clear aB
    go_wp2_with fail
    refine bodyPost_ret (v := .tuple #[cel 0 0, .bool false]) (by simp [results, Tryd.results50, go_sem, a0, a1]) rfl ⟨by rw [← Hox.out, ← Hoy.out, ← Hr.out]; simp [Hg1.out, Hq.out], HAB.out⟩
  have Hq1 := hide q1
  clear q1
  go_wp2_with fail
  refine (HS'.out _ _ _ _ HG1.out.bl Hq1.out).mono ?_
  rintro e w2 ⟨rfl, hb2⟩
  have HG2 := hide (HG1.out.upto hb2)
  have Hb2 := hide (Hb1.out.kept hb2)
  obtain ⟨⟨u0, u1⟩, -, -⟩ := Hb2.out
  obtain ⟨⟨v0, v9⟩, v2⟩ := HG2.out.gb.c
  clear hb2 s0 s1 g0 g9 g2 HG1 Hb1
  cases q2 : S tx ty
  · have Hq := hide q2
    clear q2
    go_wp2_with fail
    refine (HS'.out _ _ _ _ HG2.out.bl Hq.out).mono ?_
    rintro e w3 ⟨rfl, hb3⟩
    have HG3 := hide (HG2.out.upto hb3)
    clear hb3 u0 u1 v0 v9 v2 HG2 Hb2 HS' HD
    obtain ⟨⟨a0, a1⟩, aB⟩ := HG3.out.answer 0 0
    obtain ⟨⟨r0, r1⟩, ⟨rf0, rf1⟩, -⟩ := HG3.out.res
    have HAB := hide aB
    clear aB
    go_wp2_with fail
    refine bodyPost_ret (v := .tuple #[cel 0 0, .bool false]) (by simp [results, Tryd.results50, go_sem, a0, a1]) rfl ⟨by rw [← Hox.out, ← Hoy.out, ← Hr.out]; simp [Hg1.out, Hq1.out, Hq.out], HAB.out⟩
  have Hq2 := hide q2
  clear q2
  go_wp2_with fail
  refine (HS'.out _ _ _ _ HG2.out.bl Hq2.out).mono ?_
  rintro e w3 ⟨rfl, hb3⟩
  have HG3 := hide (HG2.out.upto hb3)
  have Hb3 := hide (Hb2.out.kept hb3)
  obtain ⟨⟨s0, s1⟩, -, -⟩ := HG3.out.fr
  clear hb3 u0 u1 v0 v9 v2 HG2 Hb2
  go_wp2_with fail
  refine (HD.out _).mono ?_
  rintro e w4 ⟨rfl, hb4⟩
  have B4 := bt hb4 (box2 w4 (.cells #[.int .i64 ax, .int .i64 ay] 23) (.cells #[.int .i64 bx, .int .i64 bY] 23))
  have HG4 := hide (HG3.out.upto B4)
  have Hb4 := hide (Hb3.out.kept B4)
  have A4 : Two ((w4.alloc (.cells #[.int .i64 ax, .int .i64 ay] 23)).alloc (.cells #[.int .i64 bx, .int .i64 bY] 23)) w4.heap.size ax ay := (Two.newAt rfl).alloc
  have C4 : Two ((w4.alloc (.cells #[.int .i64 ax, .int .i64 ay] 23)).alloc (.cells #[.int .i64 bx, .int .i64 bY] 23)) (w4.heap.size + 1) bx bY := Two.newAt (by simp)
  have HA4 := hide A4
  have HC4 := hide C4
  obtain ⟨⟨u0, u1⟩, -, -⟩ := A4
  obtain ⟨⟨v0, v9⟩, v2⟩ := HG4.out.gb.c
  clear hb4 s0 s1 HG3 Hb3 HD B4 C4
  cases q3 : siB x y d
  · rw [q3] at Hr
    clear q3 u0 u1 v0 v9 v2 HS'
    obtain ⟨⟨a0, a1⟩, aB⟩ := HG4.out.answer tx ty
    obtain ⟨⟨r0, r1⟩, ⟨rf0, rf1⟩, -⟩ := HG4.out.res
    obtain ⟨⟨b0, b1⟩, -, -⟩ := Hb4.out
    have HAB := hide aB
    clear aB
    go_wp2_with fail
    refine bodyPost_ret (v := .tuple #[cel tx ty, .bool true]) (by simp [results, Tryd.results50, go_sem, a0, a1]) rfl ⟨by rw [← Hox.out, ← Hoy.out, ← Hr.out]; simp [Hg1.out, Hq1.out, Hq2.out], HAB.out⟩
  rw [q3] at Hr
  clear q3
  cases q4 : S ax ay
  · have Hq := hide q4
    clear q4
    go_wp2_with fail
    refine (HS'.out _ _ _ _ HG4.out.bl Hq.out).mono ?_
    rintro e w5 ⟨rfl, hb5⟩
    have HG5 := hide (HG4.out.upto hb5)
    clear hb5 u0 u1 v0 v9 v2 HG4 Hb4 HS' HA4 HC4
    obtain ⟨⟨a0, a1⟩, aB⟩ := HG5.out.answer 0 0
    obtain ⟨⟨r0, r1⟩, ⟨rf0, rf1⟩, -⟩ := HG5.out.res
    have HAB := hide aB
    clear aB
    go_wp2_with fail
    refine bodyPost_ret (v := .tuple #[cel 0 0, .bool false]) (by simp [results, Tryd.results50, go_sem, a0, a1]) rfl ⟨by rw [← Hox.out, ← Hoy.out, ← Hr.out]; simp [Hg1.out, Hq1.out, Hq2.out, Hq.out], HAB.out⟩
  have Hq4 := hide q4
  clear q4
  go_wp2_with fail
  refine (HS'.out _ _ _ _ HG4.out.bl Hq4.out).mono ?_
  rintro e w5 ⟨rfl, hb5⟩
  have HG5 := hide (HG4.out.upto hb5)
  have Hb5 := hide (Hb4.out.kept hb5)
  obtain ⟨⟨p0, p1⟩, -, -⟩ := HC4.out.kept hb5
  obtain ⟨⟨k0, k9⟩, k2⟩ := HG5.out.gb.c
  clear hb5 u0 u1 v0 v9 v2 HG4 Hb4 HA4 HC4
  cases q5 : S bx bY
  · have Hq := hide q5
    clear q5
    go_wp2_with fail
    refine (HS'.out _ _ _ _ HG5.out.bl Hq.out).mono ?_
    rintro e w6 ⟨rfl, hb6⟩
    have HG6 := hide (HG5.out.upto hb6)
    clear hb6 p0 p1 k0 k9 k2 HG5 Hb5 HS'
    obtain ⟨⟨a0, a1⟩, aB⟩ := HG6.out.answer 0 0
    obtain ⟨⟨r0, r1⟩, ⟨rf0, rf1⟩, -⟩ := HG6.out.res
    have HAB := hide aB
    clear aB
    go_wp2_with fail
    refine bodyPost_ret (v := .tuple #[cel 0 0, .bool false]) (by simp [results, Tryd.results50, go_sem, a0, a1]) rfl ⟨by rw [← Hox.out, ← Hoy.out, ← Hr.out]; simp [Hg1.out, Hq1.out, Hq2.out, Hq4.out, Hq.out], HAB.out⟩
  have Hq5 := hide q5
  clear q5
  go_wp2_with fail
  refine (HS'.out _ _ _ _ HG5.out.bl Hq5.out).mono ?_
  rintro e w6 ⟨rfl, hb6⟩
  have HG6 := hide (HG5.out.upto hb6)
  have Hb6 := hide (Hb5.out.kept hb6)
  clear hb6 p0 p1 k0 k9 k2 HG5 Hb5 HS'
  obtain ⟨⟨a0, a1⟩, aB⟩ := HG6.out.answer tx ty
  obtain ⟨⟨r0, r1⟩, ⟨rf0, rf1⟩, -⟩ := HG6.out.res
  obtain ⟨⟨b0, b1⟩, -, -⟩ := Hb6.out
  have HAB := hide aB
  clear aB
  go_wp2_with fail
  refine bodyPost_ret (v := .tuple #[cel tx ty, .bool true]) (by simp [results, Tryd.results50, go_sem, a0, a1]) rfl ⟨by rw [← Hox.out, ← Hoy.out, ← Hr.out]; simp [Hg1.out, Hq1.out, Hq2.out, Hq4.out, Hq5.out], HAB.out⟩
end Go.Proofs.YtekpamilcpeanaaDoor
