/-
  All cells of a block, stored one after the other.
-/
import Derived.Test.YtinbicpefhnmnaaBoxV
namespace Go.Proofs.Ytinbicpefhnmnaa
open Go.ChangeShapes Go.WideShapes Go.ChangeAt Go.RowKit Go.Deep
set_option linter.unusedVariables false

section
variable {w : World} {b : Nat} {T : TypeId}
/-- The world behind 11 stores. -/
def fill11 (w : World) (b : Nat) (v0 v1 v2 v3 v4 v5 v6 v7 v8 v9 v10 : Value) : World := (((((((((((w).setCell ⟨b, 0, none⟩ v0).setCell ⟨b, 1, none⟩ v1).setCell ⟨b, 2, none⟩ v2).setCell ⟨b, 3, none⟩ v3).setCell ⟨b, 4, none⟩ v4).setCell ⟨b, 5, none⟩ v5).setCell ⟨b, 6, none⟩ v6).setCell ⟨b, 7, none⟩ v7).setCell ⟨b, 8, none⟩ v8).setCell ⟨b, 9, none⟩ v9).setCell ⟨b, 10, none⟩ v10
theorem BoxV.fill11 {z0 z1 z2 z3 z4 z5 z6 z7 z8 z9 z10 : Value} (h : BoxV w b T #[z0, z1, z2, z3, z4, z5, z6, z7, z8, z9, z10]) (v0 v1 v2 v3 v4 v5 v6 v7 v8 v9 v10 : Value) : BoxV (fill11 w b v0 v1 v2 v3 v4 v5 v6 v7 v8 v9 v10) b T #[v0, v1, v2, v3, v4, v5, v6, v7, v8, v9, v10] := by
  have h1 : BoxV ((w).setCell ⟨b, 0, none⟩ v0) b T #[v0, z1, z2, z3, z4, z5, z6, z7, z8, z9, z10] := h.set 0 v0
  have h2 : BoxV (((w).setCell ⟨b, 0, none⟩ v0).setCell ⟨b, 1, none⟩ v1) b T #[v0, v1, z2, z3, z4, z5, z6, z7, z8, z9, z10] := h1.set 1 v1
  have h3 : BoxV ((((w).setCell ⟨b, 0, none⟩ v0).setCell ⟨b, 1, none⟩ v1).setCell ⟨b, 2, none⟩ v2) b T #[v0, v1, v2, z3, z4, z5, z6, z7, z8, z9, z10] := h2.set 2 v2
  have h4 : BoxV (((((w).setCell ⟨b, 0, none⟩ v0).setCell ⟨b, 1, none⟩ v1).setCell ⟨b, 2, none⟩ v2).setCell ⟨b, 3, none⟩ v3) b T #[v0, v1, v2, v3, z4, z5, z6, z7, z8, z9, z10] := h3.set 3 v3
  have h5 : BoxV ((((((w).setCell ⟨b, 0, none⟩ v0).setCell ⟨b, 1, none⟩ v1).setCell ⟨b, 2, none⟩ v2).setCell ⟨b, 3, none⟩ v3).setCell ⟨b, 4, none⟩ v4) b T #[v0, v1, v2, v3, v4, z5, z6, z7, z8, z9, z10] := h4.set 4 v4
  have h6 : BoxV (((((((w).setCell ⟨b, 0, none⟩ v0).setCell ⟨b, 1, none⟩ v1).setCell ⟨b, 2, none⟩ v2).setCell ⟨b, 3, none⟩ v3).setCell ⟨b, 4, none⟩ v4).setCell ⟨b, 5, none⟩ v5) b T #[v0, v1, v2, v3, v4, v5, z6, z7, z8, z9, z10] := h5.set 5 v5
  have h7 : BoxV ((((((((w).setCell ⟨b, 0, none⟩ v0).setCell ⟨b, 1, none⟩ v1).setCell ⟨b, 2, none⟩ v2).setCell ⟨b, 3, none⟩ v3).setCell ⟨b, 4, none⟩ v4).setCell ⟨b, 5, none⟩ v5).setCell ⟨b, 6, none⟩ v6) b T #[v0, v1, v2, v3, v4, v5, v6, z7, z8, z9, z10] := h6.set 6 v6
  have h8 : BoxV (((((((((w).setCell ⟨b, 0, none⟩ v0).setCell ⟨b, 1, none⟩ v1).setCell ⟨b, 2, none⟩ v2).setCell ⟨b, 3, none⟩ v3).setCell ⟨b, 4, none⟩ v4).setCell ⟨b, 5, none⟩ v5).setCell ⟨b, 6, none⟩ v6).setCell ⟨b, 7, none⟩ v7) b T #[v0, v1, v2, v3, v4, v5, v6, v7, z8, z9, z10] := h7.set 7 v7
  have h9 : BoxV ((((((((((w).setCell ⟨b, 0, none⟩ v0).setCell ⟨b, 1, none⟩ v1).setCell ⟨b, 2, none⟩ v2).setCell ⟨b, 3, none⟩ v3).setCell ⟨b, 4, none⟩ v4).setCell ⟨b, 5, none⟩ v5).setCell ⟨b, 6, none⟩ v6).setCell ⟨b, 7, none⟩ v7).setCell ⟨b, 8, none⟩ v8) b T #[v0, v1, v2, v3, v4, v5, v6, v7, v8, z9, z10] := h8.set 8 v8
  have h10 : BoxV (((((((((((w).setCell ⟨b, 0, none⟩ v0).setCell ⟨b, 1, none⟩ v1).setCell ⟨b, 2, none⟩ v2).setCell ⟨b, 3, none⟩ v3).setCell ⟨b, 4, none⟩ v4).setCell ⟨b, 5, none⟩ v5).setCell ⟨b, 6, none⟩ v6).setCell ⟨b, 7, none⟩ v7).setCell ⟨b, 8, none⟩ v8).setCell ⟨b, 9, none⟩ v9) b T #[v0, v1, v2, v3, v4, v5, v6, v7, v8, v9, z10] := h9.set 9 v9
  have h11 : BoxV ((((((((((((w).setCell ⟨b, 0, none⟩ v0).setCell ⟨b, 1, none⟩ v1).setCell ⟨b, 2, none⟩ v2).setCell ⟨b, 3, none⟩ v3).setCell ⟨b, 4, none⟩ v4).setCell ⟨b, 5, none⟩ v5).setCell ⟨b, 6, none⟩ v6).setCell ⟨b, 7, none⟩ v7).setCell ⟨b, 8, none⟩ v8).setCell ⟨b, 9, none⟩ v9).setCell ⟨b, 10, none⟩ v10) b T #[v0, v1, v2, v3, v4, v5, v6, v7, v8, v9, v10] := h10.set 10 v10
  exact h11
theorem touch_fill11 (v0 v1 v2 v3 v4 v5 v6 v7 v8 v9 v10 : Value) : Touch [b] w (fill11 w b v0 v1 v2 v3 v4 v5 v6 v7 v8 v9 v10) :=
  (((((((((((Touch.refl [b] w).setCell (a := ⟨b, 0, none⟩) (.inl (List.mem_singleton.2 rfl)) v0).setCell (a := ⟨b, 1, none⟩) (.inl (List.mem_singleton.2 rfl)) v1).setCell (a := ⟨b, 2, none⟩) (.inl (List.mem_singleton.2 rfl)) v2).setCell (a := ⟨b, 3, none⟩) (.inl (List.mem_singleton.2 rfl)) v3).setCell (a := ⟨b, 4, none⟩) (.inl (List.mem_singleton.2 rfl)) v4).setCell (a := ⟨b, 5, none⟩) (.inl (List.mem_singleton.2 rfl)) v5).setCell (a := ⟨b, 6, none⟩) (.inl (List.mem_singleton.2 rfl)) v6).setCell (a := ⟨b, 7, none⟩) (.inl (List.mem_singleton.2 rfl)) v7).setCell (a := ⟨b, 8, none⟩) (.inl (List.mem_singleton.2 rfl)) v8).setCell (a := ⟨b, 9, none⟩) (.inl (List.mem_singleton.2 rfl)) v9).setCell (a := ⟨b, 10, none⟩) (.inl (List.mem_singleton.2 rfl)) v10
end
end Go.Proofs.Ytinbicpefhnmnaa
