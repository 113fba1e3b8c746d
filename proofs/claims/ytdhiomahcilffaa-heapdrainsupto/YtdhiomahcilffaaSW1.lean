/-
  phalanxlaw09.HeapSorts, walked.
-/
import Derived.Test.YtdhiomahcilffaaRound
namespace Go.Proofs.Ytdhiomahcilffaa
open Go.RowKit Go.Shelf
set_option linter.unusedVariables false
set_option linter.unusedSimpArgs false
attribute [local go_sem] Oper.semAt_some
theorem Hs.perm {w : World} {b : Nat} {v : Value} {n : Int} {S T : List It} (h : Hs w b v n S) (hp : S.Perm T) : Hs w b v n T := by
  obtain ⟨l, h1, h2, h3, h4⟩ := h
  exact ⟨l, h1, h2, h3, h4.trans hp⟩
theorem drain_it (o : Option Addr) (w : World) : Calls Try.prog 15 #[.pointer o] w fun e w' => e = .returned (.func (.func 25) #[] #[ptr w.heap.size]) ∧ w' = w.alloc (.cells #[.pointer o] 23) := by
  go_enter Try.func15, Try.ntmps15
  go_wp2_with fail
  go_ret
  exact ⟨rfl, rfl⟩
def lastK (pre : List It) : Int := (pre.getLast?.map It.k).getD 0
def lastN (pre : List It) : Int := (pre.getLast?.map It.n).getD 0
/-- What HeapSorts keeps while it drains. -/
structure So (w : World) (v : Value) (m n : Nat) (pre : List It) (W : World) : Prop where
  a : Boxed W w.heap.size 22 v
  r : Boxed W (w.heap.size + 1) 4 (.bool false)
  ms : Mks W m n (fun j => pre.any (fun x => decide (x.n = (j : Nat))))
  mb : Boxed W (m + 1) 36 (.slice (some ⟨m, 0, none⟩) n n)
  nb : Boxed W (m + 1 + 1) 3 (.int .i64 (pre.length : Nat))
  lb : B2 W (m + 1 + 1 + 1) (lastK pre) (lastN pre)
  bl : Below w.heap.size w W
theorem So.turn {w : World} {v : Value} {m n : Nat} {pre : List It} {X Y : World} {T : Nat → Prop} (h : So w v m n pre X) (t : Turns T X Y) (h1 : ¬ T w.heap.size) (h2 : ¬ T (w.heap.size + 1)) (h3 : ∀ k, m ≤ k → k ≤ m + 3 → ¬ T k) (h4 : ∀ k, T k → w.heap.size ≤ k) : So w v m n pre Y :=
  ⟨t.same h1 h.a, t.same h2 h.r, t.same (h3 _ (by omega) (by omega)) h.ms, t.same (h3 _ (by omega) (by omega)) h.mb, t.same (h3 _ (by omega) (by omega)) h.nb, t.same (h3 _ (by omega) (by omega)) h.lb, h.bl.trans (t.below h4 h.bl.size)⟩
theorem So.upto {w : World} {v : Value} {m n : Nat} {pre : List It} {X Y : World} (h : So w v m n pre X) (hb : Below X.heap.size X Y) : So w v m n pre Y := h.turn (T := NoB) (Turns.of_below hb) id id (fun _ _ _ => id) (fun _ h => h.elim)
theorem B2.set {w : World} {x : Nat} {k n : Int} (h : B2 w x k n) (k' n' : Int) : B2 ((w.setCell ⟨x, 0, none⟩ (.int .i64 k')).setCell ⟨x, 1, none⟩ (.int .i64 n')) x k' n' := by
  have h' : w.heap[x]? = _ := h
  unfold B2
  simp [World.setCell, Array.getElem?_modify, h']
theorem So.step {w : World} {v : Value} {m n q i : Nat} {z : Int} {pre : List It} {M X1 X3 X4 : World} (h : So w v m n pre M) (hq : B2 M q z (i : Nat)) (hi : i < n) (hqm : m + 3 < q) (hwm : w.heap.size + 1 < m)
    (e1 : M.setCell ⟨m, i, none⟩ (.bool true) = X1) (e3 : (X1.setCell ⟨m + 1 + 1 + 1, 0, none⟩ (.int .i64 z)).setCell ⟨m + 1 + 1 + 1, 1, none⟩ (.int .i64 (i : Nat)) = X3) (e4 : X3.setCell ⟨m + 1 + 1, 0, none⟩ (.int .i64 ((pre.length : Nat) + 1)) = X4) :
    (B2 X1 q z (i : Nat) ∧ B2 X1 (m + 1 + 1 + 1) (lastK pre) (lastN pre)) ∧ Boxed X3 (m + 1 + 1) 3 (.int .i64 (pre.length : Nat)) ∧ So w v m n (pre ++ [⟨z, (i : Nat), (i : Nat)⟩]) X4 ∧ Turns (fun k => m ≤ k ∧ k ≤ m + 3) M X4 := by
  have t1 : Turns (fun k => k = m) M X1 := by rw [← e1]; exact Turns.set (S := fun k => k = m) M (p := ⟨m, i, none⟩) rfl _
  have t3 : Turns (fun k => k = m + 1 + 1 + 1) X1 X3 := by
    rw [← e3]
    exact (Turns.set (S := fun k => k = m + 1 + 1 + 1) X1 (p := ⟨m + 1 + 1 + 1, 0, none⟩) rfl _).trans ((Turns.set (S := fun k => k = m + 1 + 1 + 1) _ (p := ⟨m + 1 + 1 + 1, 1, none⟩) rfl _).mono (fun _ _ e => .inl e))
  have t4 : Turns (fun k => k = m + 1 + 1) X3 X4 := by rw [← e4]; exact Turns.set (S := fun k => k = m + 1 + 1) X3 (p := ⟨m + 1 + 1, 0, none⟩) rfl _
  have q1 := hq.kept t1 (by omega)
  have l1 := h.lb.kept t1 (by omega)
  have m1 := h.ms.set hi true
  rw [e1] at m1
  have l3 := l1.set z (i : Nat)
  rw [e3] at l3
  have n3 : Boxed X3 (m + 1 + 1) 3 (.int .i64 (pre.length : Nat)) := t3.same (by omega) (t1.same (by omega) h.nb)
  have n4 := n3.set (.int .i64 ((pre.length : Nat) + 1))
  rw [e4] at n4
  have tt : Turns (fun k => m ≤ k ∧ k ≤ m + 3) M X4 := ((t1.mono (fun k _ e => by omega)).trans (t3.mono (fun k _ e => .inl (by omega)))).trans (t4.mono (fun k _ e => .inl (by omega)))
  refine ⟨⟨q1, l1⟩, n3, ⟨tt.same (by omega) h.a, tt.same (by omega) h.r, ?_, ?_, ?_, ?_, h.bl.trans (tt.below (fun k e => by omega) h.bl.size)⟩, tt⟩
  · refine Mks.congr (t4.same (by omega) (t3.same (by omega) m1)) (fun k hk => ?_)
    by_cases hki : k = i
    · subst hki; simp
    · rw [if_neg hki]
      have : ¬ ((i : Nat) : Int) = (k : Nat) := by omega
      simp [this]
  · exact t4.same (by omega) (t3.same (by omega) (t1.same (by omega) h.mb))
  · have e : (((pre ++ [(⟨z, (i : Nat), (i : Nat)⟩ : It)]).length : Nat) : Int) = (pre.length : Nat) + 1 := by simp
    rw [e]; exact n4
  · have e1 : lastK (pre ++ [(⟨z, (i : Nat), (i : Nat)⟩ : It)]) = z := by simp [lastK]
    have e2 : lastN (pre ++ [(⟨z, (i : Nat), (i : Nat)⟩ : It)]) = (i : Nat) := by simp [lastN]
    rw [e1, e2]
    exact t4.same (by omega) l3
theorem ahead_lat {k n j o : Int} {r : Bool} (w : World) (h : ah k j = r) : Calls Try.prog 8 #[itv k n, itv j o] w fun e w' => e = .returned (.bool r) ∧ Below w.heap.size w w' := by
  refine (ahead_any k n j o w).mono ?_
  rintro e w' ⟨rfl, rfl⟩
  exact ⟨by rw [h], box2 _ _ _⟩
set_option maxRecDepth 100000 in
set_option maxHeartbeats 8000000 in
theorem sorts_is (v : Value) (zs : List Int) (w : World) (h : Nr w v zs) (hlen : zs.length ≤ 1048576) : Calls Try.prog 4 #[v] w fun e w' => e = .returned (.bool true) ∧ Below w.heap.size w w' := by
  obtain ⟨a, cap, rfl, -, hcells⟩ := h
  have HC : Hid (∀ wr, Below w.heap.size w wr → ∀ (i : Nat) z, zs[i]? = some z → ∃ g o, a = some ⟨g, o, none⟩ ∧ wr.cell? ⟨g, o + i, none⟩ = some (.int .i64 z)) := hide fun wr hb i z hz => by
    obtain ⟨g, o, e1, e2⟩ := hcells i z hz
    exact ⟨g, o, e1, (hb.cell (World.block_lt_of_cell? w _ e2)).trans e2⟩
  clear hcells
  refine (callsIn_wide (n := 10)).1 ?_
  refine callsIn_of_wp_marks Try.func4 rfl trivial ?_ rfl
  simp only [Try.ntmps4, List.size_toArray, List.length_cons, List.length_nil, Nat.reduceAdd, Nat.reduceSub, Array.replicate_succ, Array.replicate_zero, List.push_toArray, List.append_toArray, List.nil_append, List.cons_append]
  have A0 : Boxed ((w.alloc (.cells #[.slice a zs.length cap] 22)).alloc (.cells #[.bool false] 4)) w.heap.size 22 (.slice a zs.length cap) := (Boxed.new w 22 (.slice a zs.length cap)).alloc (.cells #[.bool false] 4)
  have R0 : Boxed ((w.alloc (.cells #[.slice a zs.length cap] 22)).alloc (.cells #[.bool false] 4)) (w.heap.size + 1) 4 (.bool false) := by
    have := Boxed.new (w.alloc (.cells #[.slice a zs.length cap] 22)) 4 (.bool false)
    simpa using this
  have B0 := box2 w (.cells #[.slice a zs.length cap] 22) (.cells #[.bool false] 4)
  obtain ⟨W0, hW0⟩ : ∃ W0, (w.alloc (.cells #[.slice a zs.length cap] 22)).alloc (.cells #[.bool false] 4) = W0 := ⟨_, rfl⟩
  have z0 : W0.heap.size = w.heap.size + 2 := by rw [← hW0]; simp
  rw [hW0] at A0 R0 B0
  have HW0 := hide hW0
  have HZ0 := hide z0
  clear hW0 z0
  gi_wp2_with (rw [HW0.out])
  refine ⟨trivial, ?_⟩
  refine (callsIn_wide.2 (awake_is _)).mono ?_
  rintro e W1 ⟨rfl, hb1⟩
  have HA1 := hide (boxed_upto A0 hb1)
  have HR1 := hide (boxed_upto R0 hb1)
  have HB1 := hide (bt B0 hb1)
  have z1 := hb1.size
  have HZ1 : Hid (w.heap.size + 2 ≤ W1.heap.size) := hide (by have := HZ0.out; omega)
  clear A0 R0 B0 hb1 z1
  gi_wp2_with fail
  refine ⟨trivial, ?_⟩
  refine (callsIn_wide.2 (hnew_is _)).mono ?_
  rintro e W2 ⟨rfl, h2, b2, z2⟩
  have HA2 := hide (boxed_upto HA1.out b2)
  have HR2 := hide (boxed_upto HR1.out b2)
  have HB2 := hide (bt HB1.out b2)
  have HH2 := hide h2
  have HZ2 := hide z2
  clear h2 b2 z2
  gi_wp2_with fail
  gi_loopw [4] (fun i wr => ∃ (k : Nat) (u : Value), i = .int .i64 (k : Nat) ∧ k ≤ zs.length ∧ Hs wr W1.heap.size u (k : Nat) ((its zs).take k) ∧ (∀ j, u.ownBlock = some j → W1.heap.size ≤ j) ∧ Below W1.heap.size W2 wr) (fun i _ => zs.length - (intOf i).toNat)
  case atStart => exact ⟨0, _, rfl, Nat.zero_le _, HH2.out, fun j e => by simp [Value.ownBlock] at e, Below.refl _ _⟩
  case round =>
    obtain ⟨k, u, rfl, hk, hh, hu, hb⟩ := hrel
    rename World => wo
    have HH := hide hh
    have HU := hide hu
    have HB := hide hb
    have hA : Boxed wo w.heap.size 22 (.slice a zs.length cap) := (hb.block _ (by have := HZ1.out; omega)).trans HA2.out
    have hR : Boxed wo (w.heap.size + 1) 4 (.bool false) := (hb.block _ (by have := HZ1.out; omega)).trans HR2.out
    have cA := hA.cell
    have HBw : Hid (Below w.heap.size w wo) := hide (HB2.out.trans (hb.mono (by have := HZ1.out; omega)))
    have HAo := hide hA
    have HRo := hide hR
    clear hh hu hb hA hR
    by_cases hkl : k < zs.length
    · obtain ⟨z, hzk⟩ : ∃ z, zs[k]? = some z := ⟨_, List.getElem?_eq_getElem hkl⟩
      obtain ⟨g, o, ha, c0⟩ := HC.out wo HBw.out k z hzk
      have d1 : (k : Int) < (zs.length : Nat) := by omega
      have d3 : (k : Int) + 1 ≤ 1048577 := by omega
      subst ha
      gi_wp2_with fail
      refine ⟨trivial, ?_⟩
      refine (callsIn_wide.2 (push_is _ _ _ _ z (k : Nat) wo HH.out (by omega) (by rw [List.length_take]; omega))).mono ?_
      rintro e w3 ⟨rfl, v3, q1, q2, q3⟩
      have hz : zs.getD k 0 = z := by simp [List.getD, hzk]
      have H3 := hide (q1.perm (show ((⟨z, (k : Nat), (k : Nat)⟩ : It) :: (its zs).take k).Perm ((its zs).take (k + 1)) from by rw [its_take hkl, hz]; exact List.perm_append_comm (l₁ := [_])))
      have HU3 : Hid (∀ j, v3.ownBlock = some j → W1.heap.size ≤ j) := hide fun j e => by
        have := HB.out.size
        have := HZ2.out
        rcases q3 j e with r | r
        · exact HU.out j r
        · omega
      have HB3 := hide (HB.out.trans (q2.below (fun j e => by rcases e with e | e; omega; exact HU.out j e) (by have := HB.out.size; have := HZ2.out; omega)))
      clear q1 q2 q3 hz
      gi_wp2_with fail
      go_roundw
      case rel => exact ⟨k + 1, v3, by go_num, by omega, by have := H3.out; push_cast; exact this, HU3.out, HB3.out⟩
      case measure => simp [intOf]; omega
    · have d1 : ¬ (k : Int) < (zs.length : Nat) := by omega
      have hke : k = zs.length := by omega
      subst hke
      have HS : Hid (Hs wo W1.heap.size u (zs.length : Nat) (its zs)) := hide (by have := HH.out; rwa [List.take_of_length_le (by rw [its_len]; exact Nat.le_refl _)] at this)
      have hmk := make_marks zs.length hlen
      gi_wp2_with fail
      refine ⟨trivial, ?_⟩
      refine (callsIn_wide.2 (drain_it (some ⟨W1.heap.size, 0, none⟩) _)).mono ?_
      rintro e wD ⟨rfl, rfl⟩
      gi_wp2_with fail
      have own0 := HS.out.own
      have hHb : Hid (∀ k, Hb W1.heap.size u k → W1.heap.size ≤ k ∧ k < wo.heap.size) := hide fun k e => by
        rcases e with e | e
        · subst e; exact ⟨Nat.le_refl _, own0.1⟩
        · exact ⟨HU.out k e, own0.2.1 k e⟩
      obtain ⟨E1, hE1⟩ : ∃ E, wo.alloc (.cells (List.map (fun x => Value.bool false) (List.range zs.length)).toArray 4) = E := ⟨_, rfl⟩
      have m1 : Mks E1 wo.heap.size zs.length (fun _ => false) := by rw [← hE1]; exact made_marks _ _
      have z1 : E1.heap.size = wo.heap.size + 1 := by rw [← hE1]; simp
      have b1 : Below wo.heap.size wo E1 := by rw [← hE1]; exact box1 _ _
      rw [hE1]
      obtain ⟨E2, hE2⟩ : ∃ E, E1.alloc (.cells #[.slice (some ⟨wo.heap.size, 0, none⟩) zs.length zs.length] 36) = E := ⟨_, rfl⟩
      have m2 : Boxed E2 (wo.heap.size + 1) 36 (.slice (some ⟨wo.heap.size, 0, none⟩) zs.length zs.length) := by rw [← hE2, ← z1]; exact Boxed.new _ _ _
      have z2 : E2.heap.size = wo.heap.size + 1 + 1 := by rw [← hE2]; simp [z1]
      have b2 : Below E1.heap.size E1 E2 := by rw [← hE2]; exact box1 _ _
      rw [hE2]
      obtain ⟨E3, hE3⟩ : ∃ E, E2.alloc (.cells #[.int .i64 0] 3) = E := ⟨_, rfl⟩
      have m3 : Boxed E3 (wo.heap.size + 1 + 1) 3 (.int .i64 0) := by rw [← hE3, ← z2]; exact Boxed.new _ _ _
      have z3 : E3.heap.size = wo.heap.size + 1 + 1 + 1 := by rw [← hE3]; simp [z2]
      have b3 : Below E2.heap.size E2 E3 := by rw [← hE3]; exact box1 _ _
      rw [hE3]
      obtain ⟨E4, hE4⟩ : ∃ E, E3.alloc (.cells #[.int .i64 0, .int .i64 0] 26) = E := ⟨_, rfl⟩
      have m4 : B2 E4 (wo.heap.size + 1 + 1 + 1) 0 0 := by rw [← hE4, ← z3]; exact B2.new _ _ _
      have z4 : E4.heap.size = wo.heap.size + 1 + 1 + 1 + 1 := by rw [← hE4]; simp [z3]
      have b4 : Below E3.heap.size E3 E4 := by rw [← hE4]; exact box1 _ _
      rw [hE4]
      obtain ⟨V, hV⟩ : ∃ E, E4.alloc (.cells #[.pointer (some ⟨W1.heap.size, 0, none⟩)] 23) = E := ⟨_, rfl⟩
      have m5 : Boxed V (wo.heap.size + 1 + 1 + 1 + 1) 23 (ptr W1.heap.size) := by rw [← hV, ← z4]; exact Boxed.new _ _ _
      have z5 : V.heap.size = wo.heap.size + 1 + 1 + 1 + 1 + 1 := by rw [← hV]; simp [z4]
      have b5 : Below E4.heap.size E4 V := by rw [← hV]; exact box1 _ _
      rw [hV]
      have bV : Below wo.heap.size wo V := bt b1 (bt b2 (bt b3 (bt b4 b5)))
      have so0 : So w (.slice a zs.length cap) wo.heap.size zs.length [] V := ⟨boxed_upto HAo.out bV, boxed_upto HRo.out bV, (((bt b2 (bt b3 (bt b4 b5))).block _ m1.lt).trans m1), boxed_upto m2 (bt b3 (bt b4 b5)), boxed_upto m3 (bt b4 b5), m4.upto b5, bt HBw.out bV⟩
      have HSV := hide (HS.out.upto bV)
      have HV5 := hide z5
      have HSo := hide so0
      have hww : w.heap.size + 2 ≤ W1.heap.size := HZ1.out
      have hwo : W1.heap.size < wo.heap.size := own0.1
      clear hE1 hE2 hE3 hE4 hV m1 m2 m3 m4 b1 b2 b3 b4 b5 z1 z2 z3 z4 z5 hmk so0
      have HnT : Hid (∀ k, (Hb W1.heap.size u k ∨ V.heap.size ≤ k) → (W1.heap.size ≤ k ∧ k < wo.heap.size) ∨ V.heap.size ≤ k) := hide fun k e => e.imp (hHb.out k) id
      refine range_drain (by omega) (c := wo.heap.size + 1 + 1 + 1 + 1) (b := W1.heap.size) (v := u) (cnt := (zs.length : Nat)) (S := its zs) rfl m5 HSV.out (by rw [its_len]; omega) (fun e => by have := hHb.out _ e; omega) rfl
        (fun pre W => So w (.slice a zs.length cap) wo.heap.size zs.length pre W) (fun cd pre W => False)
        (fun pre X Y h t => h.turn t (fun e => by have := HnT.out _ e; have := HV5.out; omega) (fun e => by have := HnT.out _ e; have := HV5.out; omega) (fun k h1 h2 e => by have := HnT.out _ e; have := HV5.out; omega) (fun k e => by have := HnT.out _ e; have := HV5.out; omega))
        (fun cd pre X Y h t => h) HSo.out
        (fun x a' W => ∃ q, V.heap.size + 2 ≤ q ∧ B2 W q x.k x.n ∧ a' = { tmps := #[.slice a zs.length cap, .pointer (some ⟨w.heap.size, 0, none⟩), .pointer (some ⟨w.heap.size + 1, 0, none⟩), ptr W1.heap.size, .int .i64 (zs.length : Nat), .pointer (some ⟨wo.heap.size + 1, 0, none⟩), .pointer (some ⟨wo.heap.size + 1 + 1, 0, none⟩), .pointer (some ⟨wo.heap.size + 1 + 1 + 1, 0, none⟩), .pointer (some ⟨q, 0, none⟩), .bool true, .bool false, ptr W1.heap.size, .int .i64 (zs.length : Nat), .slice a zs.length cap, .int .i64 (zs.length : Nat), .bool false, u16, u17, u18, u19, u20, u21, u22, u23, u24, u25, .slice a zs.length cap, .int .i64 (zs.length : Nat), .slice (some ⟨wo.heap.size, 0, none⟩) zs.length zs.length, .agg #[.int .i64 0, .int .i64 0], ptr W1.heap.size, .func (.func 25) #[] #[ptr (wo.heap.size + 1 + 1 + 1 + 1)], itv x.k x.n, undef, undef, undef, undef, undef, undef, undef, undef, undef, undef, undef, undef, undef, undef, undef, undef, undef, undef, undef, undef, undef, undef, undef, undef, undef, undef, undef, undef, undef, undef, undef, undef, undef, undef, undef, undef, undef, undef, undef, undef, undef, undef, undef, undef, undef, undef, undef, undef, undef, undef, undef, undef, undef, undef, undef, undef, undef, undef, undef, undef, undef, undef, undef, undef, undef, undef, undef, undef], defers := [] }) ?hax ?assign ?body ?done ?stop
      case hax =>
        rintro x a' _ X Y ⟨q, h1, h2, h3⟩ t
        exact ⟨q, h1, t.same (fun e => by omega) h2, h3⟩
      case assign =>
        rintro l pre x W K hI hz hK
        gi_wp2
        have hb1 := box1 W (.cells #[.int .i64 x.k, .int .i64 x.n] 26)
        exact hK _ _ (Kq.of_below hb1) (hI.turn (T := NoB) (Turns.of_below hb1) id id (fun _ _ _ => id) (fun _ h => h.elim)) ⟨W.heap.size, hz, B2.new _ _ _, rfl⟩
      case body =>
        rintro l pre x a' W hl hI ⟨q, hq, hX, rfl⟩ hnx hz
        obtain ⟨⟨i, hi, hxe, hxn⟩, hpl, hxo⟩ := hnx.facts
        obtain ⟨z, hzi⟩ : ∃ z, zs[i]? = some z := ⟨_, List.getElem?_eq_getElem hi⟩
        have hzd : zs.getD i 0 = z := by simp [List.getD, hzi]
        rw [hzd] at hxe
        subst hxe
        obtain ⟨g, o, ha, c0⟩ := HC.out W hI.bl i z hzi
        subst ha
        dsimp only at hX hxo
        have hne := lat_some W
        have cA : ∀ m : Lat W, m.w.cell? ⟨w.heap.size, 0, none⟩ = some (.slice (some ⟨g, o, none⟩) zs.length cap) := fun m => (boxed_upto hI.a m.h).cell
        have cZ : ∀ m : Lat W, m.w.cell? ⟨g, o + i, none⟩ = some (.int .i64 z) := fun m => (m.h.cell (World.block_lt_of_cell? W _ c0)).trans c0
        have cMb : ∀ m : Lat W, m.w.cell? ⟨wo.heap.size + 1, 0, none⟩ = some (.slice (some ⟨wo.heap.size, 0, none⟩) zs.length zs.length) := fun m => (boxed_upto hI.mb m.h).cell
        have hmf : (pre.any (fun x => decide (x.n = (i : Nat)))) = false := by
          rw [List.any_eq_false]
          intro y hy
          simpa using hxn y hy
        have cM : ∀ m : Lat W, m.w.cell? ⟨wo.heap.size, i, none⟩ = some (.bool false) := fun m => by
          have := (hI.ms.upto m.h hI.ms.lt).cell hi
          rw [hmf] at this
          exact this
        have cN : ∀ m : Lat W, m.w.cell? ⟨wo.heap.size + 1 + 1, 0, none⟩ = some (.int .i64 (pre.length : Nat)) := fun m => (boxed_upto hI.nb m.h).cell
        have cX0 : ∀ m : Lat W, m.w.cell? ⟨q, 0, none⟩ = some (.int .i64 z) := fun m => (hX.upto m.h).c.1
        have cX1 : ∀ m : Lat W, m.w.cell? ⟨q, 1, none⟩ = some (.int .i64 (i : Nat)) := fun m => (hX.upto m.h).c.2
        have d1 : (i : Int) < (zs.length : Nat) := by omega
        have d2 : (0 : Int) ≤ (i : Nat) := by omega
        have d4 : decide ((i : Int) < 0) = false := by simp
        have d5 : decide ((zs.length : Int) ≤ (i : Nat)) = false := by simp; omega
        have d6 : ¬ ((zs.length : Int) ≤ (i : Nat)) := by omega
        have d7 : decide (zs.length ≤ i) = false := by simp; omega
        have HI := hide hI
        have HXb := hide hX
        clear hI hX hmf hxn
        rcases List.eq_nil_or_concat pre with rfl | ⟨ys, y, rfl⟩
        · skip
          gi_wp2_with fail
          refine wpIn_region_lat (by kernel_rfl) (by kernel_rfl) (by kernel_rfl) ?_
          repeat (refine wpQuietIn_step (fun _ _ _ _ => trivial) (fun K hK => ?_); go_simp; first | (refine hK _ ?_; clear hK K) | (apply Exists.intro; refine ⟨fun _ => ?_, hK _ ?_⟩; exact callsIn_lat (CallsIn.inRound l (callsIn_wide.2 (ahead_lat _ (by assumption)))); clear hK K))
          refine wpQuietIn_nil ?_
          rintro _ ⟨m, rfl⟩
          have sM := HI.out.upto m.h
          have xM := HXb.out.upto m.h
          obtain ⟨X1, hX1⟩ : ∃ X, m.w.setCell ⟨wo.heap.size, i, none⟩ (.bool true) = X := ⟨_, rfl⟩
          obtain ⟨X3, hX3⟩ : ∃ X, (X1.setCell ⟨wo.heap.size + 1 + 1 + 1, 0, none⟩ (.int .i64 z)).setCell ⟨wo.heap.size + 1 + 1 + 1, 1, none⟩ (.int .i64 (i : Nat)) = X := ⟨_, rfl⟩
          obtain ⟨X4, hX4⟩ : ∃ X, X3.setCell ⟨wo.heap.size + 1 + 1, 0, none⟩ (.int .i64 ((([] : List It).length : Nat) + 1)) = X := ⟨_, rfl⟩
          obtain ⟨⟨s1, s2⟩, s3, s4, s5⟩ := sM.step (q := q) xM hi (by have := HV5.out; omega) (by omega) hX1 hX3 hX4
          have hkq : Kq V.heap.size (fun k => Hb W1.heap.size u k ∨ k = wo.heap.size + 1 + 1 + 1 + 1) W X4 := (Kq.of_below m.h).trans (Kq.of_turns s5 (fun k _ e => by rcases e with e | e | e; have := HV5.out; omega; have := hHb.out _ e; omega; omega))
          have k1 := cMb m
          have k2 := cX1 m
          have k3 := cM m
          have k4 := sM.ms.f i
          obtain ⟨k5, k6⟩ := s1.c
          obtain ⟨k7, k8⟩ := s2.c
          have k9 := s2.f 0
          have k10 := s2.f 1
          have k11 := s3.cell
          have k12 := s3.frozen
          have HX1 := hide hX1
          have HX3 := hide hX3
          have HX4 := hide hX4
          have HK := hide hkq
          have H4 := hide s4
          clear cA cZ cMb cM cN cX0 cX1 sM xM s1 s2 s3 s4 s5 hX1 hX3 hX4 hkq
          gi_wp2_with (first | rw [HX1.out] | rw [HX3.out] | rw [HX4.out])
          rw [show X3.setCell ⟨wo.heap.size + 1 + 1, 0, none⟩ (.int .i64 1) = X4 from HX4.out]
          exact ⟨HK.out, H4.out⟩
        · obtain ⟨o1, o2⟩ := hxo ys y (List.concat_eq_append)
          have cL0 : ∀ m : Lat W, m.w.cell? ⟨wo.heap.size + 1 + 1 + 1, 0, none⟩ = some (.int .i64 y.k) := fun m => by have := (HI.out.lb.upto m.h).c.1; simpa [lastK] using this
          have cL1 : ∀ m : Lat W, m.w.cell? ⟨wo.heap.size + 1 + 1 + 1, 1, none⟩ = some (.int .i64 y.n) := fun m => by have := (HI.out.lb.upto m.h).c.2; simpa [lastN] using this
          have e1 : decide ((0 : Int) < (ys.length : Nat) + 1) = true := decide_eq_true (by omega)
          cases o3 : ah y.k z
          · have o4 : decide ((i : Int) < y.n) = false := by simpa using o2 o3
            gi_wp2_with fail
            refine wpIn_region_lat (by kernel_rfl) (by kernel_rfl) (by kernel_rfl) ?_
            repeat (refine wpQuietIn_step (fun _ _ _ _ => trivial) (fun K hK => ?_); go_simp; first | (refine hK _ ?_; clear hK K) | (apply Exists.intro; refine ⟨fun _ => ?_, hK _ ?_⟩; exact callsIn_lat (CallsIn.inRound l (callsIn_wide.2 (ahead_lat _ (by assumption)))); clear hK K))
            refine wpQuietIn_nil ?_
            rintro _ ⟨m, rfl⟩
            have sM := HI.out.upto m.h
            have xM := HXb.out.upto m.h
            obtain ⟨X1, hX1⟩ : ∃ X, m.w.setCell ⟨wo.heap.size, i, none⟩ (.bool true) = X := ⟨_, rfl⟩
            obtain ⟨X3, hX3⟩ : ∃ X, (X1.setCell ⟨wo.heap.size + 1 + 1 + 1, 0, none⟩ (.int .i64 z)).setCell ⟨wo.heap.size + 1 + 1 + 1, 1, none⟩ (.int .i64 (i : Nat)) = X := ⟨_, rfl⟩
            obtain ⟨X4, hX4⟩ : ∃ X, X3.setCell ⟨wo.heap.size + 1 + 1, 0, none⟩ (.int .i64 (((ys.concat y).length : Nat) + 1)) = X := ⟨_, rfl⟩
            obtain ⟨⟨s1, s2⟩, s3, s4, s5⟩ := sM.step (q := q) xM hi (by have := HV5.out; omega) (by omega) hX1 hX3 hX4
            have hkq : Kq V.heap.size (fun k => Hb W1.heap.size u k ∨ k = wo.heap.size + 1 + 1 + 1 + 1) W X4 := (Kq.of_below m.h).trans (Kq.of_turns s5 (fun k _ e => by rcases e with e | e | e; have := HV5.out; omega; have := hHb.out _ e; omega; omega))
            have k1 := cMb m
            have k2 := cX1 m
            have k3 := cM m
            have k4 := sM.ms.f i
            obtain ⟨k5, k6⟩ := s1.c
            obtain ⟨k7, k8⟩ := s2.c
            have k9 := s2.f 0
            have k10 := s2.f 1
            have k11 := s3.cell
            have k12 := s3.frozen
            have HX1 := hide hX1
            have HX3 := hide hX3
            have HX4 := hide hX4
            have HK := hide hkq
            have H4 := hide s4
            clear cA cZ cMb cM cN cX0 cX1 sM xM s1 s2 s3 s4 s5 hX1 hX3 hX4 hkq cL0 cL1
            gi_wp2_with (first | rw [HX1.out] | rw [HX3.out] | rw [HX4.out])
            have e9 : wrap64 ((ys.length : Int) + 1 + 1) = ((ys.concat y).length : Nat) + 1 := by
              have hc : (ys.concat y).length = ys.length + 1 := by simp
              rw [hc] at hpl ⊢
              unfold wrap64
              omega
            rw [e9, HX4.out]
            exact ⟨HK.out, H4.out⟩
          · skip
            gi_wp2_with fail
            refine wpIn_region_lat (by kernel_rfl) (by kernel_rfl) (by kernel_rfl) ?_
            repeat (refine wpQuietIn_step (fun _ _ _ _ => trivial) (fun K hK => ?_); go_simp; first | (refine hK _ ?_; clear hK K) | (apply Exists.intro; refine ⟨fun _ => ?_, hK _ ?_⟩; exact callsIn_lat (CallsIn.inRound l (callsIn_wide.2 (ahead_lat _ (by assumption)))); clear hK K))
            refine wpQuietIn_nil ?_
            rintro _ ⟨m, rfl⟩
            have sM := HI.out.upto m.h
            have xM := HXb.out.upto m.h
            obtain ⟨X1, hX1⟩ : ∃ X, m.w.setCell ⟨wo.heap.size, i, none⟩ (.bool true) = X := ⟨_, rfl⟩
            obtain ⟨X3, hX3⟩ : ∃ X, (X1.setCell ⟨wo.heap.size + 1 + 1 + 1, 0, none⟩ (.int .i64 z)).setCell ⟨wo.heap.size + 1 + 1 + 1, 1, none⟩ (.int .i64 (i : Nat)) = X := ⟨_, rfl⟩
            obtain ⟨X4, hX4⟩ : ∃ X, X3.setCell ⟨wo.heap.size + 1 + 1, 0, none⟩ (.int .i64 (((ys.concat y).length : Nat) + 1)) = X := ⟨_, rfl⟩
            obtain ⟨⟨s1, s2⟩, s3, s4, s5⟩ := sM.step (q := q) xM hi (by have := HV5.out; omega) (by omega) hX1 hX3 hX4
            have hkq : Kq V.heap.size (fun k => Hb W1.heap.size u k ∨ k = wo.heap.size + 1 + 1 + 1 + 1) W X4 := (Kq.of_below m.h).trans (Kq.of_turns s5 (fun k _ e => by rcases e with e | e | e; have := HV5.out; omega; have := hHb.out _ e; omega; omega))
            have k1 := cMb m
            have k2 := cX1 m
            have k3 := cM m
            have k4 := sM.ms.f i
            obtain ⟨k5, k6⟩ := s1.c
            obtain ⟨k7, k8⟩ := s2.c
            have k9 := s2.f 0
            have k10 := s2.f 1
            have k11 := s3.cell
            have k12 := s3.frozen
            have HX1 := hide hX1
            have HX3 := hide hX3
            have HX4 := hide hX4
            have HK := hide hkq
            have H4 := hide s4
            clear cA cZ cMb cM cN cX0 cX1 sM xM s1 s2 s3 s4 s5 hX1 hX3 hX4 hkq cL0 cL1
            gi_wp2_with (first | rw [HX1.out] | rw [HX3.out] | rw [HX4.out])
            have e9 : wrap64 ((ys.length : Int) + 1 + 1) = ((ys.concat y).length : Nat) + 1 := by
              have hc : (ys.concat y).length = ys.length + 1 := by simp
              rw [hc] at hpl ⊢
              unfold wrap64
              omega
            rw [e9, HX4.out]
            exact ⟨HK.out, H4.out⟩
      case stop =>
        rintro D cd xs R v' W hD hd hI
        exact hI.elim
      case done =>
        rintro D xs v' W hD hd hI hh ho hK
        have hxl : xs.length = zs.length := by have := hd.perm.length_eq; rw [its_len] at this; simp at this; omega
        have cA := hI.a.cell
        have cN := hI.nb.cell
        rw [hxl] at cN
        have HL := hide (hlen_is _ _ _ _ _ hh)
        have HI := hide hI
        have HKD := hide hK
        clear hh hd ho hI hK
        gi_wp2_with fail
        refine ⟨trivial, ?_⟩
        refine (callsIn_wide.2 HL.out).mono ?_
        rintro e w5 ⟨rfl, hw5⟩
        have hw6 := hw5.symm
        subst hw6
        clear hw5
        gi_wp2_with fail
        refine ⟨trivial, ?_⟩
        refine (callsIn_wide.2 (awake_is _)).mono ?_
        rintro e w7 ⟨rfl, hb7⟩
        have hr7 := boxed_upto HI.out.r hb7
        have cR := hr7.cell
        have fR := hr7.frozen
        have HB7 := hide (bt HI.out.bl hb7)
        have hDlt := (Array.getElem?_eq_some_iff.1 HKD.out).1
        have hK7 : w7.heap[D]? = some (.deferred (some [])) := (hb7.block D hDlt).trans HKD.out
        have hK8 : (w7.setCell ⟨w.heap.size + 1, 0, none⟩ (.bool true)).heap[D]? = some (.deferred (some [])) := (Below.heap_setCell _ _ _ _ (by have := HV5.out; simp; omega)).trans hK7
        have hr8 := hr7.set (.bool true)
        have HR8 := hide hr8
        clear hb7 hr7 hK7 hr8
        gi_wp2_with fail
        refine ⟨by simp, .inl ⟨_, _, rfl, run_takeDeferred hK8, ?_⟩⟩
        have hV9 := HV5.out
        have hc9 : ((w7.setCell ⟨w.heap.size + 1, 0, none⟩ (.bool true)).putObj D (.deferred none)).cell? ⟨w.heap.size + 1, 0, none⟩ = some (.bool true) := by
          have hk : ((w7.setCell ⟨w.heap.size + 1, 0, none⟩ (.bool true)).putObj D (.deferred none)).heap[w.heap.size + 1]? = (w7.setCell ⟨w.heap.size + 1, 0, none⟩ (.bool true)).heap[w.heap.size + 1]? := World.putObj_heap_other (by omega)
          rw [World.cell?_of_block (a := ⟨w.heap.size + 1, 0, none⟩) hk]
          exact HR8.out.cell
        refine ⟨.bool true, ?_, rfl, (HB7.out.setCell (p := ⟨w.heap.size + 1, 0, none⟩) (by simp) _).trans (belowK_b (w := w) (Nat.le_refl _) _ D _ _ (by omega) hK8 rfl rfl)⟩
        simp [results, Try.f4, go_sem, hc9]
end Go.Proofs.Ytdhiomahcilffaa
