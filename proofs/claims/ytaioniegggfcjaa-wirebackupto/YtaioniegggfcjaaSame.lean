/-
  The law's own 'same': are these the same bytes?
-/
import Derived.Test.YtaioniegggfcjaaReads4
import Derived.Lib.Bytes
namespace Go.Proofs.Ytaioniegggfcjaa
open Go.RowKit
set_option linter.unusedVariables false
def ints (l : List Nat) : List Int := l.map fun d => ((d : Nat) : Int)
theorem ints_at (l : List Nat) (i : Nat) : (ints l).getD i 0 = ((dig l i : Nat) : Int) := by
  simp only [ints, dig, List.getD_eq_getElem?_getD, List.getElem?_map]
  cases l[i]? <;> simp
theorem str_list (l : List Nat) : (strOfNums (ints l)).toList = l.map fun d => UInt8.ofNat d := by
  rw [Lib.strOfNums_toList]
  simp [Lib.bytesOf, ints, Function.comp_def]
theorem str_inj {l m : List Nat} (hl : Small l) (hm : Small m) (h : (strOfNums (ints l)).toList = (strOfNums (ints m)).toList) : l = m := by
  rw [str_list, str_list] at h
  have hlen : l.length = m.length := by have := congrArg List.length h; simpa using this
  refine ext_dig hlen (fun i hi => ?_)
  have h2 := congrArg (fun x => x[i]?) h
  simp only [List.getElem?_map] at h2
  rw [List.getElem?_eq_getElem hi, List.getElem?_eq_getElem (by omega)] at h2
  simp only [Option.map_some, Option.some.injEq] at h2
  have a1 := hl i
  have a2 := hm i
  have e1 : dig l i = l[i] := by simp [dig, List.getD_eq_getElem?_getD, hi]
  have e2 : dig m i = m[i]'(by omega) := by simp [dig, List.getD_eq_getElem?_getD, show i < m.length by omega]
  rw [e1] at a1
  rw [e2] at a2
  rw [e1, e2]
  have h3 := congrArg UInt8.toNat h2
  simpa [Nat.mod_eq_of_lt a1, Nat.mod_eq_of_lt a2] using h3
theorem run_str (w : World) (v : Value) (l : List Nat) (h : Bys w v l) : (convert 22 9 v).run Try.prog w = .ok (.string (strOfNums (ints l))) w := by
  obtain ⟨hs, hl, a, cap, rfl, hc, ha, hr⟩ := h
  by_cases hne : l = []
  · subst hne
    have e : strOfNums (ints []) = ByteArray.empty := rfl
    rw [e]
    cases a with
    | none => exact run_convert_bytes_nil w 22 5 Try.underlying22 Try.underlying5 _ _ 9 Try.underlying9
    | some ad =>
      have hl0 : (loadCells ad 0).run Try.prog w = .ok (([] : List Int).map (Value.int .u8)).toArray w := by
        simpa using run_loadCells_list (P := Try.prog) w ad [] (fun j v hj => by simp at hj)
      rw [run_convert_bytes_string w 22 9 5 _ _ _ Try.underlying22 Try.underlying5 Try.underlying9]
      exact run_bytesToString w ad 0 cap [] hl0
  · obtain ⟨b, o, rfl, e2, e3⟩ := hr hne
    exact run_convert_bytes_arg w 22 5 Try.underlying22 Try.underlying5 b o l.length cap (ints l) (by simp [ints]) (fun i hi => by rw [ints_at]; exact e3 i hi) 9 Try.underlying9
theorem ret_b {p q : Bool} (h : p = q) : Ending.returned (.bool p) = .returned (.bool q) := by rw [h]
theorem same_any (w : World) (v x : Value) (l m : List Nat) (hv : Bys w v l) (hx : Bys w x m) :
    Calls Try.prog 9 #[v, x] w fun e w' => e = .returned (.bool (decide (l = m))) ∧ w' = w := by
  have k1 := run_str w v l hv
  have k2 := run_str w x m hx
  have hd : ((strOfNums (ints l)).toList == (strOfNums (ints m)).toList) = decide (l = m) := by
    by_cases h : l = m
    · subst h; simp
    · have : ¬ (strOfNums (ints l)).toList = (strOfNums (ints m)).toList := fun e => h (str_inj hv.small hx.small e)
      rw [decide_eq_false h]
      exact beq_eq_false_iff_ne.2 this
  have Hd := hide hd
  obtain ⟨a, c, rfl, _, _⟩ := hv.sl
  obtain ⟨a', c', rfl, _, _⟩ := hx.sl
  generalize strOfNums (ints l) = s1 at *
  generalize strOfNums (ints m) = s2 at *
  clear hv hx hd
  go_enter Try.func9, Try.ntmps9
  go_wp2
  go_ret
  exact ⟨ret_b Hd.out, rfl⟩
end Go.Proofs.Ytaioniegggfcjaa
