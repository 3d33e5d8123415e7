/-
  Maps keyed by int in memory: a block that holds a function from integers to values, of whatever element type.
-/
import Derived.Test.YtcfogoepoghedaaMem
import Derived.Maps.OwnSet
namespace Go.Proofs.Ytcfogoepoghedaa
open Go.ChangeShapes Go.WideShapes Go.ChangeAt Go.RowKit Go.Deep Go.Maps
set_option linter.unusedVariables false

/-- An element is held as it is. -/
def heldR (v : Value) : Option (DataW Value × List MemPlace) := some (.held v, [])
def i64k (i : Int) : Prop := (Lit.int .i64 i).wf = true

/-- Block b is a map of s entries: at each key i the value M i, or none. -/
def IMap (P : Program) (k : TypeId) (w : World) (b s : Nat) (M : Int → Option Value) : Prop :=
  ∃ D : DataW Value, w.ownsMap P k heldR b s D ∧ Maps.size D = s ∧ ∀ i, i64k i → Maps.has D (.int .i64 i) = (M i).isSome ∧ ∀ z, D.atKey (.int .i64 i) z = ((M i).map DataW.held).getD z

def put (M : Int → Option Value) (i : Int) (v : Option Value) : Int → Option Value := fun j => if j = i then v else M j
theorem put_same (M : Int → Option Value) (i : Int) (v : Option Value) : put M i v i = v := if_pos rfl
theorem put_other (M : Int → Option Value) {i j : Int} (v : Option Value) (h : j ≠ i) : put M i v j = M j := if_neg h

theorem i64k_of {i : Int} (h : -9223372036854775808 ≤ i ∧ i ≤ 9223372036854775807) : i64k i := by
  simpa [i64k, Lit.wf, IntKind.min, IntKind.max, IntKind.signed, IntKind.bits] using h

theorem Touch.ofGrown {w w' : World} {b : Nat} (h : w.grownBy w' (some b)) : Touch [b] w w' := (Touch.refl [b] w).grown h (by simp)

namespace IMap
variable {P : Program} {k t e : TypeId} {w w' : World} {b s : Nat} {M M' : Int → Option Value} {i : Int} {z v : Value}

theorem lt (h : IMap P k w b s M) : b < w.heap.size := by
  obtain ⟨D, h1, _⟩ := h
  exact h1.lt
theorem congr (h : IMap P k w b s M) (e : ∀ i, i64k i → M i = M' i) : IMap P k w b s M' := by
  obtain ⟨D, h1, h2, h3⟩ := h
  exact ⟨D, h1, h2, fun i hi => by rw [← e i hi]; exact h3 i hi⟩
theorem carry {S : List Nat} (h : IMap P k w b s M) (t : Touch S w w') (hb : b ∉ S) : IMap P k w' b s M := by
  obtain ⟨D, h1, h2, h3⟩ := h
  have hlt := h1.lt
  obtain ⟨es, clock, hh, F, hs, hD⟩ := h1
  exact ⟨D, ⟨es, clock, (t.block b hlt hb).trans hh, F, hs, hD⟩, h2, h3⟩
theorem made (w : World) : IMap P k (w.alloc (.map #[] 0)) w.heap.size 0 (fun _ => none) :=
  ⟨.map [], World.ownsMap_made w P k heldR, rfl, fun i _ => ⟨rfl, fun z => rfl⟩⟩
theorem notCell (h : IMap P k w b s M) {p : Nat} {a : Addr} {x : Value} (ha : a.block = p) (hc : w.cell? a = some x) : p ≠ b := by
  intro hb
  obtain ⟨D, ⟨es, clock, hh, _⟩, _⟩ := h
  subst ha hb
  simp [World.cell?, hh] at hc

theorem len (ht : P.underlying t = some (.map k e)) (h : IMap P k w b s M) (ty : TypeId) : (Builtin.len_ #[t] ty #[.map (some b)]).run P w = .ok (.int .i64 s) w := by
  obtain ⟨D, h1, h2, _⟩ := h
  have := h1.len ht ty
  rwa [h2] at this
/-- A block that holds the same entries. -/
theorem twin (h : IMap P k w b s M) : ∃ es clock, w.heap[b]? = some (.map es clock) ∧ IMap P k (w.alloc (.map es clock)) w.heap.size s M := by
  obtain ⟨D, ⟨es, clock, hh, F, hs, hD⟩, h2, h3⟩ := h
  exact ⟨es, clock, hh, D, ⟨es, clock, heap_alloc_new w _, F, hs, hD⟩, h2, h3⟩

section
variable (hk : P.underlying k = some (.int .i64)) (ht : P.underlying t = some (.map k e))
include hk ht

theorem look (h : IMap P k w b s M) (hz : (zeroValue e).run P w = .ok z w) (hi : i64k i) : (Instr.lookup t (.map (some b)) (.int .i64 i) false).run P w = .ok ((M i).getD z) w := by
  obtain ⟨D, h1, _, h3⟩ := h
  obtain ⟨v, ps, hrun, hv⟩ := h1.lookup (int_keyed hk) ht hz (zd := .held z) (zp := []) rfl (keyOf_int_mk hk hi)
  rw [hrun]
  rw [(h3 i hi).2] at hv
  cases hM : M i <;> simp_all [heldR]
theorem look_ok (h : IMap P k w b s M) (hz : (zeroValue e).run P w = .ok z w) (hi : i64k i) : (Instr.lookup t (.map (some b)) (.int .i64 i) true).run P w = .ok (.tuple #[(M i).getD z, .bool (M i).isSome]) w := by
  obtain ⟨D, h1, _, h3⟩ := h
  obtain ⟨v, ps, hrun, hv⟩ := h1.look_ok (int_keyed hk) ht hz (zd := .held z) (zp := []) rfl (keyOf_int_mk hk hi)
  rw [hrun, (h3 i hi).1]
  rw [(h3 i hi).2] at hv
  cases hM : M i <;> simp_all [heldR]
theorem store (h : IMap P k w b s M) (hs : s < maxLen) (hi : i64k i) (v : Value) :
    ∃ w', (Instr.mapUpdate t (.map (some b)) (.int .i64 i) v).run P w = .ok () w' ∧ IMap P k w' b (if (M i).isSome then s else s + 1) (put M i (some v)) ∧ Touch [b] w w' := by
  obtain ⟨D, h1, h2, h3⟩ := h
  have hT := h1.tidy (int_keyed hk)
  obtain ⟨w', hrun, ho, hm⟩ := h1.store (int_keyed hk) ht hs (keyOf_int_mk hk hi) (val := v) (d := .held v) (ps := []) rfl
  have hsz : Maps.size (D.put (.int .i64 i) (.held v)) = (if (M i).isSome then s else s + 1) := by rw [Maps.size_put hT, (h3 i hi).1, h2]
  refine ⟨w', hrun, ⟨_, ?_, hsz, fun j hj => ?_⟩, Touch.ofGrown hm.grown⟩
  · obtain ⟨es, clock, hh, F, hs', hD⟩ := ho
    refine ⟨es, clock, hh, F, ?_, hD⟩
    rw [← hsz, hD]
    simp [Maps.size, length_sorted]
  · by_cases hji : j = i
    · subst hji
      rw [put_same]
      exact ⟨Maps.has_put_same hT.isMap (by exact ⟨⟩) _, fun z => Maps.atKey_put_same hT.isMap (by exact ⟨⟩) _ z⟩
    · have hne : (Lit.int .i64 j) ≠ .int .i64 i := by simpa using hji
      rw [put_other _ _ hji, Maps.has_put_other hne]
      exact ⟨(h3 j hj).1, fun z => by rw [Maps.atKey_put_other hne]; exact (h3 j hj).2 z⟩
theorem drop (h : IMap P k w b s M) (hi : i64k i) (ty : TypeId) :
    ∃ w', (Builtin.delete_ #[t, k] ty #[.map (some b), .int .i64 i]).run P w = .ok (.tuple #[]) w' ∧ IMap P k w' b (if (M i).isSome then s - 1 else s) (put M i none) ∧ Touch [b] w w' := by
  obtain ⟨D, h1, h2, h3⟩ := h
  have hT := h1.tidy (int_keyed hk)
  obtain ⟨w', hrun, ho, hm⟩ := h1.drop (int_keyed hk) ht (keyOf_int_mk hk hi) ty
  have hsz : Maps.size (D.del (.int .i64 i)) = (if (M i).isSome then s - 1 else s) := by
    have := Maps.size_del (k := .int .i64 i) hT
    rw [(h3 i hi).1, h2] at this
    split <;> simp_all <;> omega
  refine ⟨w', hrun, ⟨_, ?_, hsz, fun j hj => ?_⟩, Touch.ofGrown hm.grown⟩
  · obtain ⟨es, clock, hh, F, hs', hD⟩ := ho
    refine ⟨es, clock, hh, F, ?_, hD⟩
    rw [← hsz, hD]
    simp [Maps.size, length_sorted]
  · by_cases hji : j = i
    · subst hji
      rw [put_same]
      exact ⟨Maps.has_del_same, fun z => Maps.atKey_del_same z⟩
    · have hne : (Lit.int .i64 j) ≠ .int .i64 i := by simpa using hji
      rw [put_other _ _ hji, Maps.has_del_other hne]
      exact ⟨(h3 j hj).1, fun z => by rw [Maps.atKey_del_other hne]; exact (h3 j hj).2 z⟩
end
end IMap
end Go.Proofs.Ytcfogoepoghedaa
