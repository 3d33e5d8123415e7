/-
  append(append([]int{}, xs..), y) in a region that draws its order: what its steps ask for, laid once.
-/
import Derived.Test.YtdjgnciplohekaaAppendIn
namespace Go.Proofs.Ytdjgnciplohekaa
open Go.ChangeShapes Go.WideShapes Go.ChangeAt Go.RowKit Go.Deep
set_option linter.unusedVariables false

/-- What stands where the list and the element are read: at every world with new memory alone. -/
def Srcs (w : World) (A : Option Addr) (M : List Value) (b off : Nat) (y : Int) : Prop :=
  ∀ u, Touch [] w u → (∀ ad, A = some ad → ∀ j v, M[j]? = some v → u.cell? (ad.add j) = some v) ∧ u.cell? ⟨b, off, none⟩ = some (.int .i64 y)
def wE (w : World) : World := (w.alloc (.cells #[] 3)).drew
def wES (w : World) (y : Int) : World := ((w.alloc (.cells #[] 3)).alloc (.cells #[.int .i64 y] 3)).drew
def wSE (w : World) (y : Int) : World := ((w.alloc (.cells #[.int .i64 y] 3)).alloc (.cells #[] 3)).drew
section
variable {w : World} {A : Option Addr} {M : List Value} {b off : Nat} {y : Int}
theorem touchE (w : World) : Touch [] w (wE w) := ((Touch.refl [] w).alloc _).drew
theorem touchES (w : World) (y : Int) : Touch [] w (wES w y) := (((Touch.refl [] w).alloc _).alloc _).drew
theorem touchSE (w : World) (y : Int) : Touch [] w (wSE w y) := (((Touch.refl [] w).alloc _).alloc _).drew
theorem litE (w : World) : (wE w).ownsRow w.heap.size 3 1 (.slice (some ⟨w.heap.size, 0, none⟩) 0 0) 0 [] :=
  (World.ownsRow_lit (base := w.heap.size) (e := 3) (size := 1) w #[] 0 (by omega) (by unfold maxLen; omega) rfl).drew
theorem litES (w : World) (y : Int) : (wES w y).ownsRow w.heap.size 3 1 (.slice (some ⟨w.heap.size, 0, none⟩) 0 0) 0 [] :=
  ((World.ownsRow_lit (base := w.heap.size) (e := 3) (size := 1) w #[] 0 (by omega) (by unfold maxLen; omega) rfl).alloc (.cells #[.int .i64 y] 3)).drew
theorem litSE (w : World) (y : Int) : (wSE w y).ownsRow w.heap.size 3 1 (.slice (some ⟨w.heap.size + 1, 0, none⟩) 0 0) 0 [] := by
  have q3 := (World.ownsRow_lit (base := w.heap.size) (e := 3) (size := 1) (w.alloc (.cells #[.int .i64 y] 3)) #[] 0 (by simp) (by unfold maxLen; omega) rfl)
  rw [show (w.alloc (.cells #[.int .i64 y] 3)).heap.size = w.heap.size + 1 by simp] at q3
  exact q3.drew
theorem oneOf (u : World) (g : Nat) (hg : u.heap[g]? = some (.cells #[.int .i64 y] 3 (0, 0))) : ∀ j v, [Value.int .i64 y][j]? = some v → u.cell? ((⟨g, 0, none⟩ : Addr).add j) = some v := World.news_of_block (cs := #[.int .i64 y]) (t := 3) (fr := (0, 0)) hg
theorem afterE (k : Srcs w A M b off y) (hb : b < w.heap.size) : ∀ w18, (wE w).grownBy w18 (some w.heap.size) → Touch [] w w18 ∧ w18.cell? ⟨b, off, none⟩ = some (.int .i64 y) ∧ b < w18.heap.size ∧ w.heap.size ≤ w18.heap.size := fun w18 hg => by
  have t := (touchE w).grown hg (by simp)
  exact ⟨t, (k _ t).2, Nat.lt_of_lt_of_le hb t.size, t.size⟩
theorem afterES (hb : b < w.heap.size) : ∀ w18, (wES w y).grownBy w18 (some w.heap.size) → Touch [] w w18 ∧ (∀ j v, [Value.int .i64 y][j]? = some v → w18.cell? ((⟨w.heap.size + 1, 0, none⟩ : Addr).add j) = some v) ∧ b < w18.heap.size ∧ w.heap.size ≤ w18.heap.size := fun w18 hg => by
  have t := (touchES w y).grown hg (by simp)
  refine ⟨t, oneOf _ _ ((hg.block _ ?_ (by simp)).trans ?_), Nat.lt_of_lt_of_le hb t.size, t.size⟩
  · show w.heap.size + 1 < ((w.alloc _).alloc _).heap.size
    simp
  · have := heap_alloc_new (w.alloc (.cells #[] 3)) (.cells #[.int .i64 y] 3)
    rwa [show (w.alloc (.cells #[] 3)).heap.size = w.heap.size + 1 by simp] at this
theorem afterSE (hb : b < w.heap.size) : ∀ w18, (wSE w y).grownBy w18 (some (w.heap.size + 1)) → Touch [] w w18 ∧ (∀ j v, [Value.int .i64 y][j]? = some v → w18.cell? ((⟨w.heap.size, 0, none⟩ : Addr).add j) = some v) ∧ b < w18.heap.size ∧ w.heap.size ≤ w18.heap.size := fun w18 hg => by
  have t := (touchSE w y).grown hg (by simp)
  refine ⟨t, oneOf _ _ ((hg.block _ ?_ (by simp)).trans ?_), Nat.lt_of_lt_of_le hb t.size, t.size⟩
  · show w.heap.size < ((w.alloc _).alloc _).heap.size
    simp; omega
  · have := heap_alloc_new w (.cells #[.int .i64 y] 3)
    exact (((Touch.refl [] (w.alloc (.cells #[.int .i64 y] 3))).alloc (.cells #[] 3)).drew.block w.heap.size (by simp) (by simp)).trans this
theorem behindTwo (w : World) : ∀ (w18 w18' w19 : World) (v1 : Value) (xs : List Value) (m : Nat), Touch [] w w18 → Touch [] w18 w18' → w18.ownsRow w.heap.size 3 1 v1 m xs → w18'.grownBy w19 v1.ownBlock → Below w.heap.size w w19 := fun w18 w18' w19 v1 xs m t t' ho hg2 => by
  refine ((t.trans t' (by simp)).grown hg2 (fun k e => ?_)).below (by simp) (Nat.le_refl _)
  rcases ho.2 with ⟨rfl, _⟩ | ⟨g, cap, cur, rfl, hg, _⟩
  · simp [Value.ownBlock] at e
  · simp [Value.ownBlock] at e
    right
    omega
theorem sizeE (w : World) : w.heap.size ≤ (wE w).heap.size := (touchE w).size
theorem sizeES (w : World) (y : Int) : w.heap.size ≤ (wES w y).heap.size := (touchES w y).size
theorem sizeSE (w : World) (y : Int) : w.heap.size ≤ (wSE w y).heap.size := (touchSE w y).size
end
end Go.Proofs.Ytdjgnciplohekaa
