/-
  The keys of a map, in increasing order.
-/
import Derived.Test.YtcfogoepoghedaaSortInts
import Derived.Test.YtcfogoepoghedaaIMap
import Derived.Test.YtcfogoepoghedaaInts
import Derived.Maps.RangeWalk
namespace Go.Proofs.Ytcfogoepoghedaa
open Go.ChangeShapes Go.WideShapes Go.ChangeAt Go.RowKit Go.Deep Go.Maps
set_option linter.unusedVariables false
set_option linter.unusedSimpArgs false
/-- X is the keys of M, in increasing order. -/
def IdsOf {β : Type} (M : Int → Option β) (X : List Int) : Prop := X.Pairwise (· < ·) ∧ ∀ i, i ∈ X ↔ i64k i ∧ (M i).isSome = true
theorem ids_info : (Try.prog.info? 3).map (fun i => (i.zero, i.size, i.bytes)) = some (some (.int .i64 0), 1, 8) := by kernel_rfl
theorem ids_sorted {β : Type} {M : Int → Option β} {X : List Int} (hn : X.Nodup) (hX : ∀ i, i ∈ X ↔ i64k i ∧ (M i).isSome = true) : IdsOf M (X.mergeSort leI) := by
  have tr : ∀ a b c : Int, leI a b = true → leI b c = true → leI a c = true := fun a b c h1 h2 => by simp only [leI, decide_eq_true_eq] at *; omega
  have to : ∀ a b : Int, (leI a b || leI b a) = true := fun a b => by simp only [leI, Bool.or_eq_true, decide_eq_true_eq]; omega
  have hs := List.pairwise_mergeSort tr to X
  have hp := List.mergeSort_perm X leI
  have hn' : (X.mergeSort leI).Nodup := hp.nodup_iff.2 hn
  refine ⟨(hs.and hn').imp (fun {a b} h => ?_), fun i => ?_⟩
  · have h1 := h.1
    have h2 := h.2
    simp only [leI, decide_eq_true_eq] at h1
    omega
  · rw [hp.mem_iff]
    exact hX i
theorem ids_nodup {β : Type} {M : Int → Option β} {A : List Int} (h : IdsOf M A) : A.Nodup := h.1.imp (fun {a b} h => by omega)
theorem ids_unique {β : Type} {M : Int → Option β} {A B : List Int} (hA : IdsOf M A) (hB : IdsOf M B) : A = B :=
  List.Perm.eq_of_pairwise (le := fun a b : Int => a < b) (fun a b _ _ h1 h2 => by omega) hA.1 hB.1 ((List.perm_ext_iff_of_nodup (ids_nodup hA) (ids_nodup hB)).2 fun i => (hA.2 i).trans (hB.2 i).symm)
theorem row_ints {w : World} {base c : Nat} {A : Option Addr} {L : List Int} (h : w.ownsRow base 3 1 (.slice A L.length c) L.length (zv L)) : IntCells w w.heap.size A L.length (fun i => L.getD i 0) := fun i hi => by
  obtain ⟨g, hA, _, hg, hc⟩ := row_cell h (List.getElem?_eq_getElem hi)
  refine ⟨g, 0, hA, hg, ?_⟩
  rw [Nat.zero_add, hc]
  simp [List.getD, List.getElem?_eq_getElem hi]
theorem IntCells.new {w w' : World} {A : Option Addr} {n : Nat} {X : Nat → Int} (h : IntCells w w.heap.size A n X) (t : Touch [] w w') : IntCells w' w'.heap.size A n X := fun i hi => by
  obtain ⟨b, off, hA, hb, hc⟩ := h i hi
  exact ⟨b, off, hA, Nat.lt_of_lt_of_le hb t.size, (t.cell (a := ⟨b, off + i, none⟩) hb (by simp)).trans hc⟩
end Go.Proofs.Ytcfogoepoghedaa
