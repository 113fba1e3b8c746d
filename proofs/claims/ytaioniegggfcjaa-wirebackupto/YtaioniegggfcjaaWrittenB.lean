/-
  'written' at four and at eight bytes.
-/
import Derived.Test.YtaioniegggfcjaaWritten
namespace Go.Proofs.Ytaioniegggfcjaa
open Go.RowKit
set_option linter.unusedVariables false
set_option maxHeartbeats 1000000 in
theorem written_2 (w : World) (v : Value) (l : List Nat) (n : Nat) (sa : Option Addr) (sn sc : Nat) (m : Int) (hv : Bys w v l) (hn : n < 18446744073709551616) (hlen : l.length + 10 ≤ 140737488355328) :
    Calls Try.prog 8 #[v, .agg #[.int .i64 2, .int .u64 (n : Nat), .slice sa sn sc, .int .i64 m]] w (Wrote w v l (le 4 (n % 4294967296))) := by
  obtain ⟨z, hz⟩ : ∃ z : Int, z = n := ⟨_, rfl⟩
  obtain ⟨W, hW⟩ := box_is w 2 z m sa sn sc
  have Hv := hide (hv.kept hW.below)
  have Huv := hide (fun (w' : World) (h : Below W.heap.size W w') => fixed4w_any w' v l (n % 4294967296) (Hv.out.kept h) (by omega) (by omega))
  have Href := hide (fun (w' : World) => reffixed_any w' (n % 4294967296) 4 (by omega) (by omega))
  have hlo := low32 n hn
  rw [← hz] at hlo
  rw [show (((n % 4294967296 : Nat) : Int)) = z % 4294967296 by omega] at Huv Href hlo
  rw [← hz]
  have hz0 : 0 ≤ z := by omega
  have hz1 : z < 18446744073709551616 := by omega
  have HW := hide hW
  have cj := hW.c1
  have cs := hW.c2
  have hlt := hW.lt
  clear hW hv hn hlen hz
  go_enter Try.func8, Try.ntmps8
  go_wp2_with fail
  rw [← HW.out.eq]
  go_region_held (fun w' => (w'.cell? ⟨w.heap.size, 1, none⟩ = some (.int .u64 z) ∧ w'.cell? ⟨w.heap.size, 2, none⟩ = some (.slice sa sn sc)) ∧ Below W.heap.size W w')
    (first | exact hs_drew cj cs | exact hs_of cj cs hlt hlt (by assumption))
    (first
      | (go_at_call 27; refine (Huv.out _ (hs_below (by assumption))).mono ?_; rintro e w1 ⟨v1, rfl, hm1, hb1⟩; have hB1 := below_next (wr := W) hb1 (by assumption))
      | (go_at_call 28; refine (Href.out _).mono ?_; rintro e w2 ⟨v2, rfl, hm2, hb2⟩; have hB2 := below_next (wr := W) hb2 (by assumption)))
  all_goals
    go_wp2_with fail
    go_ret2
    exact wrote_end HW.out.below hB2 (hm1.kept hb2) hm2.bys
set_option maxHeartbeats 1000000 in
theorem written_3 (w : World) (v : Value) (l : List Nat) (n : Nat) (sa : Option Addr) (sn sc : Nat) (m : Int) (hv : Bys w v l) (hn : n < 18446744073709551616) (hlen : l.length + 10 ≤ 140737488355328) :
    Calls Try.prog 8 #[v, .agg #[.int .i64 3, .int .u64 (n : Nat), .slice sa sn sc, .int .i64 m]] w (Wrote w v l (le 8 n)) := by
  obtain ⟨z, hz⟩ : ∃ z : Int, z = n := ⟨_, rfl⟩
  obtain ⟨W, hW⟩ := box_is w 3 z m sa sn sc
  have Hv := hide (hv.kept hW.below)
  have Huv := hide (fun (w' : World) (h : Below W.heap.size W w') => fixed8w_any w' v l n (Hv.out.kept h) hn (by omega))
  have Href := hide (fun (w' : World) => reffixed_any w' n 8 hn (by omega))
  rw [← hz] at Huv Href ⊢
  have HW := hide hW
  have cj := hW.c1
  have cs := hW.c2
  have hlt := hW.lt
  clear hW hv hn hlen hz
  go_enter Try.func8, Try.ntmps8
  go_wp2_with fail
  rw [← HW.out.eq]
  go_region_held (fun w' => (w'.cell? ⟨w.heap.size, 1, none⟩ = some (.int .u64 z) ∧ w'.cell? ⟨w.heap.size, 2, none⟩ = some (.slice sa sn sc)) ∧ Below W.heap.size W w')
    (first | exact hs_drew cj cs | exact hs_of cj cs hlt hlt (by assumption))
    (first
      | (go_at_call 29; refine (Huv.out _ (hs_below (by assumption))).mono ?_; rintro e w1 ⟨v1, rfl, hm1, hb1⟩; have hB1 := below_next (wr := W) hb1 (by assumption))
      | (go_at_call 28; refine (Href.out _).mono ?_; rintro e w2 ⟨v2, rfl, hm2, hb2⟩; have hB2 := below_next (wr := W) hb2 (by assumption)))
  all_goals
    go_wp2_with fail
    go_ret2
    exact wrote_end HW.out.below hB2 (hm1.kept hb2) hm2.bys
end Go.Proofs.Ytaioniegggfcjaa
