/-
  Contracts of layer 8 (pool): maps.Clone of the packets' map.
-/
import Derived.Test.YtkbjkijcabmbpaaPool7
import Derived.Shelf.SlMaps.Clone
namespace Go.Proofs.Ytkbjkijcabmbpaa
open Go.ChangeShapes Go.WideShapes Go.ChangeAt Go.RowKit Go.Deep Go.Maps
set_option linter.unusedVariables false

set_option maxRecDepth 100000 in
set_option maxHeartbeats 2000000 in
theorem cloneP_any (b : Nat) (es : Array MapEntry) (clock : Nat) (w : World) (hb : w.heap[b]? = some (.map es clock)) :
    Calls Try.prog 61 #[.map (some b)] w fun e w' => e = .returned (.map (some w.heap.size)) ∧ w' = w.alloc (.map es clock) := by
  have hq := fun w => run_eql_map_nil_sl (P := Try.prog) w 103 _ _ (some b) Try.underlying103
  go_enter Try.func61, Try.ntmps61
  go_wp2
  rw [run_callFunc_extern Try.func66 (by kernel_rfl) (by kernel_rfl) (by kernel_rfl) (e := Extern.MapsClone.clone) (by kernel_rfl), run_maps_clone_sl w 103 hb]
  simp only [Result.andThen]
  rw [Oper.upon_value]
  go_wp2
  rw [run_typeAssert_map_sl _ 103 20 _ _ _ Try.underlying103]
  simp only [Result.andThen]
  rw [Oper.upon_value]
  go_wp2
  go_ret
  exact ⟨rfl, rfl⟩
theorem cloneP_at {w : World} {b s : Nat} {M : Int → Option Value} (h : IMap Try.prog 3 w b s M) :
    Calls Try.prog 61 #[.map (some b)] w fun e w' => ∃ c, e = .returned (.map (some c)) ∧ IMap Try.prog 3 w' c s M ∧ w.heap.size ≤ c ∧ Touch [] w w' := by
  obtain ⟨es, clock, hb, hm⟩ := h.twin
  exact (cloneP_any b es clock w hb).mono fun e w' ⟨h1, h2⟩ => ⟨w.heap.size, h1, by subst h2; exact hm, Nat.le_refl _, by subst h2; exact (Touch.refl _ _).alloc _⟩
end Go.Proofs.Ytkbjkijcabmbpaa
