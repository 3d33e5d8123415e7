/-
  Slices of integers that came in: their cells.
-/
import Derived.Test.YtcfogoepoghedaaBase
namespace Go.Proofs.Ytcfogoepoghedaa
open Go.ChangeShapes Go.WideShapes Go.ChangeAt Go.RowKit
set_option linter.unusedVariables false

def fit64 (x : Int) : Prop := -9223372036854775808 ≤ x ∧ x ≤ 9223372036854775807

/-- The first n integers of a slice lie in old memory as X says. -/
def IntCells (w : World) (B : Nat) (A : Option Addr) (n : Nat) (X : Nat → Int) : Prop :=
  ∀ i, i < n → ∃ b off, A = some ⟨b, off, none⟩ ∧ b < B ∧ w.cell? ⟨b, off + i, none⟩ = some (.int .i64 (X i))

theorem IntCells.below {w w' : World} {B : Nat} {A : Option Addr} {n : Nat} {X : Nat → Int} (h : IntCells w B A n X) (hb : Below B w w') : IntCells w' B A n X := fun i hi => by
  obtain ⟨b, off, hA, hbB, hc⟩ := h i hi
  rw [← hb.cell (p := ⟨b, _, none⟩) hbB] at hc
  exact ⟨b, off, hA, hbB, hc⟩
theorem IntCells.mono {w : World} {B B' : Nat} {A : Option Addr} {n : Nat} {X : Nat → Int} (h : IntCells w B A n X) (hB : B ≤ B') : IntCells w B' A n X := fun i hi => by
  obtain ⟨b, off, hA, hbB, hc⟩ := h i hi
  exact ⟨b, off, hA, Nat.lt_of_lt_of_le hbB hB, hc⟩

set_option maxRecDepth 100000 in
theorem int_cells {W : World} {base : Nat} {H : Type} {enc : TypeId × Value → H} {v : Value} {d : DataW H} {p : List MemPlace} (hv : Value.okWide Try.prog W .any base 31 v)
    (h : DataW.Trod enc Try.prog W 0 (fun _ => true) true 31 v d p) : ∃ A len cap X, v = .slice A len cap ∧ len ≤ cap ∧ cap ≤ 9223372036854775807 ∧ IntCells W W.heap.size A len X ∧ ∀ i, i < len → fit64 (X i) := by
  have hC : Try.prog.cellsOf 3 = 1 := by kernel_rfl
  obtain ⟨A, len, cap, rfl, hl, hm, hi⟩ := slice_elems Try.underlying31 (by omega) hv h
  obtain ⟨X, hX⟩ := Deep.choose_lt (α := Int) (n := len) (p := fun i x => (∃ b off, A = some ⟨b, off, none⟩ ∧ b < W.heap.size ∧ W.cell? ⟨b, off + i, none⟩ = some (.int .i64 x)) ∧ fit64 x) (fun i hlt => by
    obtain ⟨b, off, n, cs, x, hA, hb, hlen, hat, hx⟩ := hi i hlt
    rw [hC] at hlen hat
    have h0 := hat 0 (by omega)
    obtain ⟨u, rfl⟩ : ∃ u, cs = [u] := by
      match cs, hlen with
      | [u], _ => exact ⟨u, rfl⟩
    obtain ⟨k, rfl, hw⟩ := cell_int Try.underlying3 hx
    exact ⟨k, ⟨b, off, hA, hb, by simpa using h0⟩, i64_in hw⟩)
  exact ⟨A, len, cap, X, rfl, hl, by simpa [maxLen] using hm, fun i hi => (hX i hi).1, fun i hi => (hX i hi).2⟩

/-- The first n numbers of kind k of a slice. -/
def NumCells (k : IntKind) (w : World) (B : Nat) (A : Option Addr) (n : Nat) (X : Nat → Int) : Prop :=
  ∀ i, i < n → ∃ b off, A = some ⟨b, off, none⟩ ∧ b < B ∧ w.cell? ⟨b, off + i, none⟩ = some (.int k (X i))
theorem num_cells {P : Program} {W : World} {base : Nat} {H : Type} {enc : TypeId × Value → H} {v : Value} {d : DataW H} {p : List MemPlace} {t e : TypeId} {k : IntKind} (ht : P.underlying t = some (.slice e)) (he : P.underlying e = some (.int k)) (hC : P.cellsOf e = 1)
    (hv : Value.okWide P W .any base t v) (h : DataW.Trod enc P W 0 (fun _ => true) true t v d p) : ∃ A len cap X, v = .slice A len cap ∧ len ≤ cap ∧ cap ≤ 9223372036854775807 ∧ NumCells k W W.heap.size A len X ∧ ∀ i, i < len → (Lit.int k (X i)).wf = true := by
  obtain ⟨A, len, cap, rfl, hl, hm, hi⟩ := slice_elems ht (by omega) hv h
  obtain ⟨X, hX⟩ := Deep.choose_lt (α := Int) (n := len) (p := fun i x => (∃ b off, A = some ⟨b, off, none⟩ ∧ b < W.heap.size ∧ W.cell? ⟨b, off + i, none⟩ = some (.int k x)) ∧ (Lit.int k x).wf = true) (fun i hlt => by
    obtain ⟨b, off, n, cs, x, hA, hb, hlen, hat, hx⟩ := hi i hlt
    rw [hC] at hlen hat
    have h0 := hat 0 (by omega)
    obtain ⟨u, rfl⟩ : ∃ u, cs = [u] := by
      match cs, hlen with
      | [u], _ => exact ⟨u, rfl⟩
    obtain ⟨y, rfl, hw⟩ := cell_int he hx
    exact ⟨y, ⟨b, off, hA, hb, by simpa using h0⟩, hw⟩)
  exact ⟨A, len, cap, X, rfl, hl, by simpa [maxLen] using hm, fun i hi => (hX i hi).1, fun i hi => (hX i hi).2⟩
theorem u16_in {n : Int} (h : (Lit.int .u16 n).wf = true) : 0 ≤ n ∧ n ≤ 65535 := by
  simpa [Lit.wf, IntKind.min, IntKind.max, IntKind.signed, IntKind.bits] using h

section
variable {H : Type} {enc : TypeId × Value → H} {P : Program} {w : World} {base : Nat} {sp : Nat → Bool}
theorem okWide_array {t e : TypeId} {n : Nat} {v : Value} {r : Reach} {b0 : Nat} (ht : P.underlying t = some (.array n e)) (h : Value.okWide P w r b0 t v) : ∃ cs, v = .agg cs ∧ cs.size = P.cellsOf t := by
  unfold Value.okWide at h
  rw [ht] at h
  cases v <;> simp_all
/-- An array of integers by value. -/
theorem open_ints_array {t e : TypeId} {n : Nat} {v : Value} {d : DataW H} {p : List MemPlace} {r : Reach} {b0 : Nat} (ht : P.underlying t = some (.array n e)) (he : P.underlying e = some (.int .i64)) (hC : P.cellsOf e = 1)
    (hv : Value.okWide P w r b0 t v) (h : DataW.Trod enc P w base sp true t v d p) : ∃ cs : Array Value, v = .agg cs ∧ cs.size = P.cellsOf t ∧ ∀ i, i < n → ∃ x, cs[i]? = some (.int .i64 x) ∧ fit64 x := by
  obtain ⟨cs, rfl, hsz⟩ := okWide_array ht hv
  obtain ⟨fuel, hf⟩ := h
  obtain ⟨xs, m, _, _, hlen, hn, hi⟩ := DataW.trod_array ht hf
  refine ⟨cs, rfl, hsz, fun i hlt => ?_⟩
  have g := hi i hlt
  rw [List.getElem?_eq_getElem (by omega), hC, Nat.mul_one] at g
  have hcs : (Value.agg cs).cells.toList = cs.toList := rfl
  rw [hcs] at g
  cases hd : cs.toList.drop i with
  | nil => 
    rw [hd] at g
    simp at g
    obtain ⟨k, hk, _, _⟩ := DataW.trod_int he g
    cases hk
  | cons u us =>
    rw [hd] at g
    simp at g
    obtain ⟨k, rfl, hw⟩ := cell_int he g
    refine ⟨k, ?_, i64_in hw⟩
    have : cs.toList[i]? = some (Value.int .i64 k) := by
      rw [← List.head?_drop, hd]
      rfl
    simpa using this
end
end Go.Proofs.Ytcfogoepoghedaa
