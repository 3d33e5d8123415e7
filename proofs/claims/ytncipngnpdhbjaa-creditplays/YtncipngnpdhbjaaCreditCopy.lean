/-
  Contracts of layer 30 (credit): Copy, by maps.Clone.
-/
import Derived.Test.YtncipngnpdhbjaaCredit3
import Derived.Shelf.SlMaps.Clone
namespace Go.Proofs.Ytncipngnpdhbjaa
open Go.ChangeShapes Go.WideShapes Go.ChangeAt Go.RowKit Go.Deep Go.Maps
set_option linter.unusedVariables false

set_option maxHeartbeats 2000000 in
theorem cloneC_any (b : Nat) (es : Array MapEntry) (clock : Nat) (w : World) (hb : w.heap[b]? = some (.map es clock)) :
    Calls Try.prog 49 #[.map (some b)] w fun e w' => e = .returned (.map (some w.heap.size)) ∧ w' = w.alloc (.map es clock) := by
  have hq := fun w => run_eql_map_nil_sl (P := Try.prog) w 66 _ _ (some b) Try.underlying66
  go_enter Try.func49, Try.ntmps49
  go_wp2
  rw [run_callFunc_extern Try.func51 (by kernel_rfl) (by kernel_rfl) (by kernel_rfl) (e := Extern.MapsClone.clone) (by kernel_rfl), run_maps_clone_sl w 66 hb]
  simp only [Result.andThen]
  rw [Oper.upon_value]
  go_wp2
  rw [run_typeAssert_map_sl _ 66 20 _ _ _ Try.underlying66]
  simp only [Result.andThen]
  rw [Oper.upon_value]
  go_wp2
  go_ret
  exact ⟨rfl, rfl⟩

def CopyPost (s : Nat) (C : Int → Option (Int × Int)) (w : World) (e : Ending) (w' : World) : Prop :=
  e = .returned (.pointer (some ⟨w.heap.size + 1, 0, none⟩)) ∧ CredAt w' (w.heap.size + 1) w.heap.size s C ∧ Touch [] w w'
theorem credCopy_any {w : World} {p b s : Nat} {C : Int → Option (Int × Int)} (h : CredAt w p b s C) :
    Calls Try.prog 38 #[.pointer (some ⟨p, 0, none⟩)] w (CopyPost s C w) := by
  obtain ⟨es, clock, hb, hm⟩ := h.map.twin
  have c0 := h.box.c0
  have D := Lib.hid (cloneC_any b es clock w hb)
  have hm2 := hm.carry ((Touch.refl [] _).alloc (.cells #[.map (some w.heap.size)] 68)) (by simp)
  have hx := Box1.new (w.alloc (.map es clock)) 68 (.map (some w.heap.size))
  rw [show (w.alloc (.map es clock)).heap.size = w.heap.size + 1 by simp] at hx
  have HA := Lib.hid (show CredAt _ (w.heap.size + 1) w.heap.size s C from ⟨hx, hm2, h.ok⟩)
  clear h hm hm2 hx hb
  go_enter Try.func38, Try.ntmps38
  go_wp2_with fail
  refine (D.out).mono ?_
  rintro e w' ⟨rfl, rfl⟩
  go_wp2_with fail
  go_ret
  exact ⟨rfl, HA.out, ((Touch.refl _ _).alloc _).alloc _⟩
end Go.Proofs.Ytncipngnpdhbjaa
