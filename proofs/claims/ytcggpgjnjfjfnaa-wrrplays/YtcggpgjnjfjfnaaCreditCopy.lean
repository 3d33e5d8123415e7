/-
  Contracts of layer 30 (credit): Copy, by maps.Clone.
-/
import Derived.Test.YtcggpgjnjfjfnaaCredit3
import Derived.Shelf.SlMaps.Clone
namespace Go.Proofs.Ytcggpgjnjfjfnaa
open Go.ChangeShapes Go.WideShapes Go.ChangeAt Go.RowKit Go.Deep Go.Maps
set_option linter.unusedVariables false

set_option maxRecDepth 100000 in
set_option maxHeartbeats 2000000 in
theorem cloneC_any (b : Nat) (es : Array MapEntry) (clock : Nat) (w : World) (hb : w.heap[b]? = some (.map es clock)) :
    Calls Try.prog 67 #[.map (some b)] w fun e w' => e = .returned (.map (some w.heap.size)) ∧ w' = w.alloc (.map es clock) := by
  have hq := fun w => run_eql_map_nil_sl (P := Try.prog) w 91 _ _ (some b) Try.underlying91
  go_enter Try.func67, Try.ntmps67
  go_wp2
  rw [run_callFunc_extern Try.func69 (by kernel_rfl) (by kernel_rfl) (by kernel_rfl) (e := Extern.MapsClone.clone) (by kernel_rfl), run_maps_clone_sl w 91 hb]
  simp only [Result.andThen]
  rw [Oper.upon_value]
  go_wp2
  rw [run_typeAssert_map_sl _ 91 20 _ _ _ Try.underlying91]
  simp only [Result.andThen]
  rw [Oper.upon_value]
  go_wp2
  go_ret
  exact ⟨rfl, rfl⟩

def AccCopyPost (s : Nat) (C : Int → Option (Int × Int)) (w : World) (e : Ending) (w' : World) : Prop :=
  e = .returned (.pointer (some ⟨w.heap.size + 1, 0, none⟩)) ∧ CredAt w' (w.heap.size + 1) w.heap.size s C ∧ Touch [] w w'
theorem credCopy_any {w : World} {p b s : Nat} {C : Int → Option (Int × Int)} (h : CredAt w p b s C) :
    Calls Try.prog 58 #[.pointer (some ⟨p, 0, none⟩)] w (AccCopyPost s C w) := by
  obtain ⟨es, clock, hb, hm⟩ := h.map.twin
  have c0 := h.box.c0
  have D := Lib.hid (cloneC_any b es clock w hb)
  have hm2 := hm.carry ((Touch.refl [] _).alloc (.cells #[.map (some w.heap.size)] 93)) (by simp)
  have hx := Box1.new (w.alloc (.map es clock)) 93 (.map (some w.heap.size))
  rw [show (w.alloc (.map es clock)).heap.size = w.heap.size + 1 by simp] at hx
  have HA := Lib.hid (show CredAt _ (w.heap.size + 1) w.heap.size s C from ⟨hx, hm2, h.ok⟩)
  clear h hm hm2 hx hb
  go_enter Try.func58, Try.ntmps58
  go_wp2_with fail
  refine (D.out).mono ?_
  rintro e w' ⟨rfl, rfl⟩
  go_wp2_with fail
  go_ret
  exact ⟨rfl, HA.out, ((Touch.refl _ _).alloc _).alloc _⟩
end Go.Proofs.Ytcggpgjnjfjfnaa
