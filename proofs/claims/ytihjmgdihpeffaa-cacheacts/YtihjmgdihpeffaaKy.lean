/-
  Keys of six numbers; a map from them to ways: which keys it has, and what lies at each.
-/
import Derived.Test.YtihjmgdihpeffaaBa
namespace Go.Proofs.Ytihjmgdihpeffaa
open Go.RowKit
set_option linter.unusedVariables false
set_option linter.unusedSimpArgs false
/-- A key: a shape's two numbers, two cells. -/
abbrev K6 := Int × Int × Int × Int × Int × Int
abbrev kv (q : K6) : Value := .agg #[.int .i64 q.1, .int .i64 q.2.1, .int .i64 q.2.2.1, .int .i64 q.2.2.2.1, .int .i64 q.2.2.2.2.1, .int .i64 q.2.2.2.2.2]
def W6 (q : K6) : Prop := W64 q.1 ∧ W64 q.2.1 ∧ W64 q.2.2.1 ∧ W64 q.2.2.2.1 ∧ W64 q.2.2.2.2.1 ∧ W64 q.2.2.2.2.2
theorem laidOut : laidOutB Try.prog = true := by kernel_rfl
theorem row36 : (36 : TypeId) < Try.prog.types.size := of_decide_eq_true (by kernel_rfl)
theorem wide36 : (match Try.prog.underlying 36 with | some (.array _ _) | some (.struct _) => true | _ => false) = true := by rw [Try.underlying36]
set_option maxRecDepth 100000 in
theorem lawK : WideMaps.KeyLaw Try.prog 36 := deep_law_laid laidOut (m := 3) (by omega) row36 (by kernel_rfl) wide36
theorem law36 : Maps.Keyed Try.prog 36 := Maps.Keyed.of_law lawK
def kl (q : K6) : Lit := .string (keyBytes [.int .i64 q.1, .int .i64 q.2.1, .int .i64 q.2.2.1, .int .i64 q.2.2.2.1, .int .i64 q.2.2.2.2.1, .int .i64 q.2.2.2.2.2])
theorem c36 : Try.prog.cellsOf 36 = 6 := by kernel_rfl
theorem c34 : Try.prog.cellsOf 34 = 2 := by kernel_rfl
theorem c32 : Try.prog.cellsOf 32 = 2 := by kernel_rfl
theorem c3 : Try.prog.cellsOf 3 = 1 := by kernel_rfl
theorem keyType36 : Try.prog.keyType 36 = true := by kernel_rfl
theorem formed36 (q : K6) : (kv q).formed Try.prog 36 = true := by simp [Value.formed, Try.underlying36, c36]
theorem size_types : Try.prog.types.size = 85 + 1 + 1 + 1 := by kernel_rfl
theorem lits3 {d : Nat} {x : Int} (hx : W64 x) : Try.prog.keyLits (d + 1) 3 [.int .i64 x] = some [.int .i64 x] := by
  unfold Program.keyLits
  rw [Try.underlying3]
  simp only [true_and]
  rw [if_pos hx]
theorem lits32 {d : Nat} {x y : Int} (hx : W64 x) (hy : W64 y) : Try.prog.keyLits (d + 1 + 1) 32 [.int .i64 x, .int .i64 y] = some [.int .i64 x, .int .i64 y] := by
  unfold Program.keyLits
  rw [Try.underlying32]
  simp [c32, c3, lits3 hx, lits3 hy]
theorem lits34 {d : Nat} {x y : Int} (hx : W64 x) (hy : W64 y) : Try.prog.keyLits (d + 1 + 1) 34 [.int .i64 x, .int .i64 y] = some [.int .i64 x, .int .i64 y] := by
  unfold Program.keyLits
  rw [Try.underlying34]
  simp [c34, c3, lits3 hx, lits3 hy]
theorem hck {q : K6} (h : W6 q) : keyOf Try.prog 36 (kv q) = some (kl q) := by
  obtain ⟨a, b, c, d, e, f⟩ := q
  obtain ⟨ha, hb, hc, hd, he, hf⟩ := h
  have hl : Try.prog.keyLits (Try.prog.types.size + 1) 36 (kv (a, b, c, d, e, f)).cells.toList = some [.int .i64 a, .int .i64 b, .int .i64 c, .int .i64 d, .int .i64 e, .int .i64 f] := by
    rw [size_types]
    unfold Program.keyLits
    rw [Try.underlying36]
    simp [c36, c34, c32, Value.cells, lits32 ha hb, lits34 hc hd, lits34 he hf]
  unfold keyOf
  rw [Try.underlying36]
  simp only [keyType36, formed36, Bool.and_self, if_true, hl]
  rfl
theorem kv_inj {q r : K6} (h : kv q = kv r) : q = r := by
  obtain ⟨a, b, c, d, e, f⟩ := q
  obtain ⟨a', b', c', d', e', f'⟩ := r
  simp [kv] at h
  obtain ⟨rfl, rfl, rfl, rfl, rfl, rfl⟩ := h
  rfl
theorem kl_inj {q r : K6} (hq : W6 q) (hr : W6 r) (h : kl q = kl r) : q = r := kv_inj (law36.inj (hck hq) (h ▸ hck hr))
/-- How a way reads in a map: as itself. -/
def wyElem : Value → Option (DataW Unit × List MemPlace)
  | .agg xs => match xs.toList with
    | [.int .i64 o, .slice none n c] => some (.agg [.lit (.int .i64 o), .lit (.int .i64 (n : Nat)), .lit (.int .i64 (c : Nat))], [])
    | [.int .i64 o, .slice (some ⟨g, f, none⟩) n c] => some (.agg [.lit (.int .i64 o), .lit (.int .i64 (g : Nat)), .lit (.int .i64 (f : Nat)), .lit (.int .i64 (n : Nat)), .lit (.int .i64 (c : Nat))], [])
    | _ => none
  | _ => none
abbrev wy (o : Int) (v : Value) : Value := .agg #[.int .i64 o, v]
theorem wyElem_inv {v : Value} {z : DataW Unit × List MemPlace} (h : wyElem v = some z) : (∃ o n c, v = wy o (.slice none n c) ∧ z = (.agg [.lit (.int .i64 o), .lit (.int .i64 (n : Nat)), .lit (.int .i64 (c : Nat))], [])) ∨ (∃ o g f n c, v = wy o (.slice (some ⟨g, f, none⟩) n c) ∧ z = (.agg [.lit (.int .i64 o), .lit (.int .i64 (g : Nat)), .lit (.int .i64 (f : Nat)), .lit (.int .i64 (n : Nat)), .lit (.int .i64 (c : Nat))], [])) := by
  unfold wyElem at h
  split at h
  · rename_i xs
    split at h
    · rename_i e
      cases h
      exact .inl ⟨_, _, _, by rw [← Array.toArray_toList (xs := xs), e], rfl⟩
    · rename_i e
      cases h
      exact .inr ⟨_, _, _, _, _, by rw [← Array.toArray_toList (xs := xs), e], rfl⟩
    · cases h
  · cases h
theorem wyElem_inj {u v : Value} {d : DataW Unit} {ps qs : List MemPlace} (hu : wyElem u = some (d, ps)) (hv : wyElem v = some (d, qs)) : u = v := by
  rcases wyElem_inv hu with ⟨o, n, c, rfl, e⟩ | ⟨o, g, f, n, c, rfl, e⟩ <;> rcases wyElem_inv hv with ⟨o', n', c', rfl, e'⟩ | ⟨o', g', f', n', c', rfl, e'⟩ <;> simp only [Prod.mk.injEq] at e e' <;> obtain ⟨e, -⟩ := e <;> obtain ⟨e', -⟩ := e' <;> rw [e] at e' <;> simp at e'
  · obtain ⟨rfl, h1, h2⟩ := e'
    have h1 : n = n' := by omega
    have h2 : c = c' := by omega
    subst h1 h2; rfl
  · obtain ⟨rfl, h1, h2, h3, h4⟩ := e'
    have h1 : g = g' := by omega
    have h2 : f = f' := by omega
    have h3 : n = n' := by omega
    have h4 : c = c' := by omega
    subst h1 h2 h3 h4; rfl
def dOf (v : Value) : DataW Unit := ((wyElem v).map (·.1)).getD .nil
/-- A way whose cells lie somewhere in memory, or nowhere. -/
def IsS (v : Value) : Prop := wyElem v = some (dOf v, [])
theorem isS_nil (o : Int) (n c : Nat) : IsS (wy o (.slice none n c)) := rfl
theorem isS_some (o : Int) (g f n c : Nat) : IsS (wy o (.slice (some ⟨g, f, none⟩) n c)) := rfl
theorem isS_of {v : Value} {z : DataW Unit × List MemPlace} (h : wyElem v = some z) : IsS v ∧ z = (dOf v, []) := by
  unfold IsS dOf
  rw [h]
  rcases wyElem_inv h with ⟨o, n, c, rfl, e⟩ | ⟨o, g, f, n, c, rfl, e⟩ <;> subst e <;> exact ⟨rfl, rfl⟩
theorem IsS.inj {u v : Value} (hu : IsS u) (hv : IsS v) (h : dOf u = dOf v) : u = v := wyElem_inj hu (by rw [h]; exact hv)
abbrev zW : Value := wy 0 (.slice none 0 0)
/-- In block b lies a map: K are its keys, F says what lies at a key (the zero way where nothing was put). -/
def MapK (w : World) (b : Nat) (K : List K6) (F : K6 → Value) : Prop :=
  ∃ D : DataW Unit, w.ownsMap Try.prog 36 wyElem b K.length D ∧ Maps.size D = K.length ∧ K.Nodup ∧ (∀ q ∈ K, W6 q) ∧ (∀ q, IsS (F q)) ∧ (∀ q, q ∉ K → F q = zW) ∧
    ∀ q, W6 q → Maps.has D (kl q) = decide (q ∈ K) ∧ D.atKey (kl q) (dOf zW) = dOf (F q)
section
variable {w w' : World} {b : Nat} {K : List K6} {F : K6 → Value}
theorem MapK.lt (h : MapK w b K F) : b < w.heap.size := by obtain ⟨D, h, _⟩ := h; exact h.lt
theorem MapK.nodup (h : MapK w b K F) : K.Nodup := by obtain ⟨D, _, _, h, _⟩ := h; exact h
theorem MapK.w6 (h : MapK w b K F) : ∀ q ∈ K, W6 q := by obtain ⟨D, _, _, _, h, _⟩ := h; exact h
theorem MapK.isS (h : MapK w b K F) (q : K6) : IsS (F q) := by obtain ⟨D, _, _, _, _, h, _⟩ := h; exact h q
theorem MapK.none (h : MapK w b K F) {q : K6} (hn : q ∉ K) : F q = zW := by obtain ⟨D, _, _, _, _, _, h, _⟩ := h; exact h q hn
theorem MapK.same (h : MapK w b K F) (hb : w'.heap[b]? = w.heap[b]?) : MapK w' b K F := by
  obtain ⟨D, ⟨es, clock, h1, h2⟩, h3⟩ := h
  exact ⟨D, ⟨es, clock, hb.trans h1, h2⟩, h3⟩
theorem MapK.kept {S : Nat → Prop} (h : MapK w b K F) (ht : Turns S w w') (hb : ¬ S b) : MapK w' b K F := h.same (ht.block b h.lt hb)
theorem MapK.upto (h : MapK w b K F) (hb : Below w.heap.size w w') : MapK w' b K F := h.same (hb.block b h.lt)
theorem MapK.blk (h : MapK w b K F) : ∃ es clock, w.heap[b]? = some (.map es clock) := by
  obtain ⟨D, ⟨es, clock, h1, _⟩, _⟩ := h
  exact ⟨es, clock, h1⟩
theorem ok_one {α : Type} {a b : α} {w w' : World} (h : (Result.ok a w : Result α) = .ok b w') : a = b ∧ w = w' := by cases h; exact ⟨rfl, rfl⟩
theorem zero39 (w : World) : (zeroValue 39).run Try.prog w = .ok zW w := by kernel_rfl
theorem MapK.empty {es : Array MapEntry} {clock : Nat} (he : es = #[]) (hb : w.heap[b]? = some (.map es clock)) : MapK w b [] (fun _ => zW) := by
  subst he
  refine ⟨.map [], ⟨#[], clock, hb, ?_, Nat.le_refl _, rfl⟩, rfl, List.nodup_nil, fun q h => absurd h List.not_mem_nil, fun _ => isS_nil _ _ _, fun _ _ => rfl, fun q _ => ⟨rfl, rfl⟩⟩
  exact ⟨by simp, MapKept.stamped_empty clock, by simp⟩
theorem MapK.made (w : World) : MapK (w.alloc (.map #[] 0)) w.heap.size [] (fun _ => zW) := MapK.empty rfl (MapKept.heap_alloc w _).1
theorem MapK.look (h : MapK w b K F) {q : K6} (hq : W6 q) : (Instr.lookup 59 (.map (some b)) (kv q) false).run Try.prog w = .ok (F q) w := by
  obtain ⟨D, ho, hsz, hnd, h64, hF, hn, hD⟩ := h
  obtain ⟨v, ps, hrun, hR⟩ := ho.lookup law36 Try.underlying59 (zero39 w) (isS_nil 0 0 0) (hck hq)
  rw [(hD q hq).2] at hR
  obtain ⟨q1, q2⟩ := isS_of hR
  simp only [Prod.mk.injEq] at q2
  rw [hrun, q1.inj (hF q) q2.1.symm]
theorem MapK.look2 (h : MapK w b K F) {q : K6} (hq : W6 q) : (Instr.lookup 59 (.map (some b)) (kv q) true).run Try.prog w = .ok (.tuple #[F q, .bool (decide (q ∈ K))]) w := by
  obtain ⟨D, ho, hsz, hnd, h64, hF, hn, hD⟩ := h
  obtain ⟨v, ps, hrun, hR⟩ := ho.look_ok law36 Try.underlying59 (zero39 w) (isS_nil 0 0 0) (hck hq)
  rw [(hD q hq).2] at hR
  obtain ⟨q1, q2⟩ := isS_of hR
  simp only [Prod.mk.injEq] at q2
  rw [hrun, q1.inj (hF q) q2.1.symm, (hD q hq).1]
/-- What is left of the keys, with one more. -/
def kput (K : List K6) (q : K6) : List K6 := if q ∈ K then K else K ++ [q]
theorem mem_kput {K : List K6} {q r : K6} : r ∈ kput K q ↔ r ∈ K ∨ r = q := by
  unfold kput
  split
  · rename_i h
    exact ⟨.inl, fun h' => h'.elim id (fun e => e ▸ h)⟩
  · simp
theorem kput_nodup {K : List K6} (h : K.Nodup) (q : K6) : (kput K q).Nodup := by
  unfold kput
  split
  · exact h
  · rename_i hn
    exact List.nodup_append.2 ⟨h, by simp, fun a ha b hb e => hn (by simp at hb; rw [← hb, ← e]; exact ha)⟩
def fput (F : K6 → Value) (q : K6) (v : Value) : K6 → Value := fun r => if r = q then v else F r
theorem MapK.put (h : MapK w b K F) {q : K6} (hq : W6 q) {v : Value} (hv : IsS v) (hlen : K.length < maxLen) :
    ∃ w2, (Instr.mapUpdate 59 (.map (some b)) (kv q) v).run Try.prog w = .ok () w2 ∧ MapK w2 b (kput K q) (fput F q v) ∧ w.grownBy w2 (some b) := by
  obtain ⟨D, ho, hsz, hnd, h64, hF, hn, hD⟩ := h
  obtain ⟨w2, hrun, hown, hg⟩ := ho.update law36 Try.underlying59 hlen (hck hq) hv
  have hzz : Maps.size (D.put (kl q) (dOf v)) = (kput K q).length := by
    rw [Maps.size_put (ho.tidy law36), (hD q hq).1, hsz]
    unfold kput
    by_cases e : q ∈ K <;> simp [e]
  refine ⟨w2, hrun, ⟨_, ?_, hzz, kput_nodup hnd _, fun r hr => ?_, fun r => ?_, fun r hr => ?_, fun r hr => ?_⟩, hg⟩
  · obtain ⟨es, clock, e1, e2, e3, e4⟩ := hown
    refine ⟨es, clock, e1, e2, ?_, e4⟩
    rw [← hzz, e4]; simp [Maps.size, length_sorted]
  · rcases mem_kput.1 hr with hr | rfl
    · exact h64 r hr
    · exact hq
  · unfold fput
    split
    · exact hv
    · exact hF r
  · have hu' : r ∉ K ∧ r ≠ q := ⟨fun s => hr (mem_kput.2 (.inl s)), fun s => hr (mem_kput.2 (.inr s))⟩
    unfold fput
    rw [if_neg hu'.2]
    exact hn r hu'.1
  · unfold fput
    by_cases e : r = q
    · rw [if_pos e, e]
      have hm : q ∈ kput K q := mem_kput.2 (.inr rfl)
      exact ⟨by rw [Maps.has_put_same ho.isMap (law36.key (hck hq))]; simp [hm], Maps.atKey_put_same ho.isMap (law36.key (hck hq)) _ _⟩
    · rw [if_neg e]
      have hne : kl r ≠ kl q := fun hh => e (kl_inj hr hq hh)
      rw [Maps.has_put_other hne, Maps.atKey_put_other hne]
      refine ⟨?_, (hD r hr).2⟩
      rw [(hD r hr).1]
      have : r ∈ kput K q ↔ r ∈ K := by
        rw [mem_kput]
        exact ⟨fun s => s.elim id (fun s => absurd s e), .inl⟩
      simp [this]
theorem MapK.drop (h : MapK w b K F) {q : K6} (hq : W6 q) :
    ∃ w2, (∀ ty, (Builtin.delete_ #[59, 36] ty #[.map (some b), kv q]).run Try.prog w = .ok (.tuple #[]) w2) ∧ MapK w2 b (K.erase q) (fput F q zW) ∧ w.grownBy w2 (some b) := by
  obtain ⟨D, ho, hsz, hnd, h64, hF, hn, hD⟩ := h
  obtain ⟨w2, hrun0, hown, hg⟩ := ho.drop law36 Try.underlying59 (hck hq) 0
  have hrun : ∀ ty, (Builtin.delete_ #[59, 36] ty #[.map (some b), kv q]).run Try.prog w = .ok (.tuple #[]) w2 := fun ty => hrun0
  have hzz : Maps.size (D.del (kl q)) = (K.erase q).length := by
    have h1 := Maps.size_del (k := kl q) (ho.tidy law36)
    rw [(hD q hq).1, hsz] at h1
    by_cases e : q ∈ K
    · rw [List.length_erase_of_mem e]
      simp [e] at h1
      omega
    · rw [List.erase_of_not_mem e]
      simp [e] at h1
      omega
  have hme : ∀ r, r ∈ K.erase q ↔ r ≠ q ∧ r ∈ K := fun r => hnd.mem_erase_iff
  refine ⟨w2, hrun, ⟨_, ?_, hzz, hnd.erase _, fun r hr => h64 r ((hme r).1 hr).2, fun r => ?_, fun r hr => ?_, fun r hr => ?_⟩, hg.grown⟩
  · obtain ⟨es, clock, e1, e2, e3, e4⟩ := hown
    refine ⟨es, clock, e1, e2, ?_, e4⟩
    rw [← hzz, e4]; simp [Maps.size, length_sorted]
  · unfold fput
    split
    · exact isS_nil _ _ _
    · exact hF r
  · unfold fput
    split
    · rfl
    · rename_i hne
      exact hn r (fun s => hr ((hme _).2 ⟨hne, s⟩))
  · unfold fput
    by_cases e : r = q
    · rw [if_pos e, e]
      have hm : q ∉ K.erase q := fun s => ((hme _).1 s).1 rfl
      exact ⟨by rw [Maps.has_del_same]; simp [hm], Maps.atKey_del_same _⟩
    · rw [if_neg e]
      have hne : kl r ≠ kl q := fun hh => e (kl_inj hr hq hh)
      rw [Maps.has_del_other hne, Maps.atKey_del_other hne]
      refine ⟨?_, (hD r hr).2⟩
      rw [(hD r hr).1]
      have : r ∈ K.erase q ↔ r ∈ K := by
        rw [hme]
        exact ⟨fun s => s.2, fun s => ⟨e, s⟩⟩
      simp [this]
/-- All keys go. -/
theorem MapK.clear (h : MapK w b K F) : ∃ w2, (∀ ty, (Builtin.clear_ #[59] ty #[.map (some b)]).run Try.prog w = .ok (.tuple #[]) w2) ∧ MapK w2 b [] (fun _ => zW) ∧ w.grownBy w2 (some b) := by
  obtain ⟨es, clock, hb⟩ := h.blk
  refine ⟨ChangeMaps.setBlock w b (.map #[] clock), fun ty => ?_, MapK.empty rfl (ChangeMaps.heap_setBlock_same hb _), ⟨rfl, rfl, rfl, by simp [ChangeMaps.setBlock], fun i _ hi => ChangeMaps.heap_setBlock_other hb _ (fun e => hi (by rw [e]))⟩⟩
  simp [Builtin.clear_, run_underlying Try.underlying59, MapKept.run_getObj_map hb, MapKept.run_setObj_map _ hb, Result.andThen, ChangeMaps.setBlock]
end
end Go.Proofs.Ytihjmgdihpeffaa
