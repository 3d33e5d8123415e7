/-
  Contracts of layer 34 (ledger): Copy, by maps.Clone.
-/
import Derived.Test.YtbppccmkmpgibaaLedger6
import Derived.Shelf.SlMaps.Clone
namespace Go.Proofs.Ytbppccmkmpgibaa
open Go.ChangeShapes Go.WideShapes Go.ChangeAt Go.RowKit Go.Deep Go.Maps
set_option linter.unusedVariables false

set_option maxRecDepth 100000 in
set_option maxHeartbeats 2000000 in
theorem cloneL_any (b : Nat) (es : Array MapEntry) (clock : Nat) (w : World) (hb : w.heap[b]? = some (.map es clock)) :
    Calls Try.prog 34 #[.map (some b)] w fun e w' => e = .returned (.map (some w.heap.size)) ∧ w' = w.alloc (.map es clock) := by
  have hq := fun w => run_eql_map_nil_sl (P := Try.prog) w 50 _ _ (some b) Try.underlying50
  go_enter Try.func34, Try.ntmps34
  go_wp2
  rw [run_callFunc_extern Try.func39 (by kernel_rfl) (by kernel_rfl) (by kernel_rfl) (e := Extern.MapsClone.clone) (by kernel_rfl), run_maps_clone_sl w 50 hb]
  simp only [Result.andThen]
  rw [Oper.upon_value]
  go_wp2
  rw [run_typeAssert_map_sl _ 50 20 _ _ _ Try.underlying50]
  simp only [Result.andThen]
  rw [Oper.upon_value]
  go_wp2
  go_ret
  exact ⟨rfl, rfl⟩

theorem copyL_any {w : World} {p b s : Nat} {M : Int → Option Bk} (h : LgAt w p b s M) :
    Calls Try.prog 20 #[.pointer (some ⟨p, 0, none⟩)] w fun e w' => e = .returned (.pointer (some ⟨w.heap.size + 1, 0, none⟩)) ∧ LgAt w' (w.heap.size + 1) w.heap.size s M ∧ Touch [] w w' := by
  obtain ⟨es, clock, hb, hm⟩ := h.map.twin
  have c0 := h.box.c0
  have D := Lib.hid (cloneL_any b es clock w hb)
  have hm2 := hm.carry ((Touch.refl [] _).alloc (.cells #[.map (some w.heap.size)] 52)) (by simp)
  have hx := Box1.new (w.alloc (.map es clock)) 52 (.map (some w.heap.size))
  rw [show (w.alloc (.map es clock)).heap.size = w.heap.size + 1 by simp] at hx
  have HA := Lib.hid (show LgAt _ (w.heap.size + 1) w.heap.size s M from ⟨hx, hm2⟩)
  clear h hm hm2 hx hb
  go_enter Try.func20, Try.ntmps20
  go_wp2_with fail
  refine (D.out).mono ?_
  rintro e w' ⟨rfl, rfl⟩
  go_wp2_with fail
  go_ret
  exact ⟨rfl, HA.out, ((Touch.refl _ _).alloc _).alloc _⟩
end Go.Proofs.Ytbppccmkmpgibaa
