/-
  A class that came in by value.
-/
import Derived.Test.YtcfogoepoghedaaClass
namespace Go.Proofs.Ytcfogoepoghedaa
open Go.ChangeShapes Go.WideShapes Go.ChangeAt Go.RowKit Go.Joins Go.Deep
set_option linter.unusedVariables false

section
variable {H : Type} {enc : TypeId × Value → H} {P : Program} {w : World} {base : Nat} {sp : Nat → Bool}
theorem cell_float {t : TypeId} {u : Value} {m : Nat} {y : DataW H × List MemPlace} (ht : P.underlying t = some (.float .f64)) (h : DataW.trod enc P w base sp true m t [u] = some y) : ∃ b, u = .float .f64 b ∧ b < 18446744073709551616 := by
  cases m with
  | zero => simp [DataW.trod] at h
  | succ n =>
    unfold DataW.trod at h
    rw [ht] at h
    split at h <;> simp_all [Lit.wf]
    rename_i k k' b h1 h2
    subst h1
    by_cases hh : k' = FloatKind.f64 ∧ b < 18446744073709551616
    · exact ⟨b, ⟨hh.1, rfl⟩, hh.2⟩
    · simp [hh] at h
theorem arr11c {cs : Array Value} (h : cs.size = 11) : ∃ a0 a1 a2 a3 a4 a5 a6 a7 a8 a9 a10, cs = #[a0, a1, a2, a3, a4, a5, a6, a7, a8, a9, a10] := by
  obtain ⟨l⟩ := cs
  match l, h with
  | [a0, a1, a2, a3, a4, a5, a6, a7, a8, a9, a10], _ => exact ⟨a0, a1, a2, a3, a4, a5, a6, a7, a8, a9, a10, rfl⟩
/-- The fields are numbers of their kinds. -/
def Cl.Ok (c : Cl) : Prop := In64 c.id ∧ In64 c.parent ∧ c.share < 18446744073709551616 ∧ In64 c.prio ∧ In64 c.quantum ∧ In64 c.limit ∧ In64 c.weight ∧ In64 c.minIdle ∧ In64 c.maxIdle
set_option maxRecDepth 100000 in
theorem open_class {v : Value} {d : DataW H} {p : List MemPlace} {r : Reach} {b0 : Nat} (hv : Value.okWide Try.prog w r b0 36 v) (h : DataW.Trod enc Try.prog w base sp true 36 v d p) :
    ∃ c : Cl, v = .agg c.cells ∧ c.Ok := by
  obtain ⟨cs, rfl, hsz⟩ := okWide_struct Try.underlying36 hv
  obtain ⟨a0, a1, a2, a3, a4, a5, a6, a7, a8, a9, a10, rfl⟩ := arr11c (hsz.trans (by kernel_rfl))
  obtain ⟨fuel, hf⟩ := h
  have hcs : (Value.agg #[a0, a1, a2, a3, a4, a5, a6, a7, a8, a9, a10]).cells.toList = [a0, a1, a2, a3, a4, a5, a6, a7, a8, a9, a10] := rfl
  rw [hcs] at hf
  have hone := fun j f hj => one_fields (P := Try.prog) Try.underlying36 (by kernel_rfl) rfl hf j f hj
  obtain ⟨u0, m0, y0, e0, h0⟩ := hone 0 _ rfl
  obtain ⟨u1, m1, y1, e1, h1⟩ := hone 1 _ rfl
  obtain ⟨u2, m2, y2, e2, h2⟩ := hone 2 _ rfl
  obtain ⟨u3, m3, y3, e3, h3⟩ := hone 3 _ rfl
  obtain ⟨u4, m4, y4, e4, h4⟩ := hone 4 _ rfl
  obtain ⟨u5, m5, y5, e5, h5⟩ := hone 5 _ rfl
  obtain ⟨u6, m6, y6, e6, h6⟩ := hone 6 _ rfl
  obtain ⟨u7, m7, y7, e7, h7⟩ := hone 7 _ rfl
  obtain ⟨u8, m8, y8, e8, h8⟩ := hone 8 _ rfl
  obtain ⟨u9, m9, y9, e9, h9⟩ := hone 9 _ rfl
  obtain ⟨u10, m10, y10, e10, h10⟩ := hone 10 _ rfl
  simp at e0 e1 e2 e3 e4 e5 e6 e7 e8 e9 e10
  subst e0 e1 e2 e3 e4 e5 e6 e7 e8 e9 e10
  obtain ⟨b0, rfl, w0⟩ := cell_int Try.underlying3 h0
  obtain ⟨b1, rfl, w1⟩ := cell_int Try.underlying3 h1
  obtain ⟨b2, rfl, w2⟩ := cell_float Try.underlying34 h2
  obtain ⟨b3, rfl, w3⟩ := cell_int Try.underlying3 h3
  obtain ⟨b4, rfl, w4⟩ := cell_int Try.underlying3 h4
  obtain ⟨b5, rfl, w5⟩ := cell_int Try.underlying3 h5
  obtain ⟨b6, rfl, w6⟩ := cell_int Try.underlying3 h6
  obtain ⟨b7, rfl, w7⟩ := cell_int Try.underlying3 h7
  obtain ⟨b8, rfl, w8⟩ := cell_int Try.underlying3 h8
  obtain ⟨b9, rfl⟩ := cell_bool boolType h9
  obtain ⟨b10, rfl⟩ := cell_bool boolType h10
  exact ⟨⟨b0, b1, b2, b3, b4, b5, b6, b7, b8, b9, b10⟩, rfl, i64_in w0, i64_in w1, w2, i64_in w3, i64_in w4, i64_in w5, i64_in w6, i64_in w7, i64_in w8⟩
end
end Go.Proofs.Ytcfogoepoghedaa
