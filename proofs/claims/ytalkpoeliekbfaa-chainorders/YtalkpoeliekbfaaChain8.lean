/-
  math/bits.Mul of one and a small number; slices.Repeat of a row of one.
-/
import Derived.Test.YtalkpoeliekbfaaChain7
import Derived.Laws.CopyOwn
namespace Go.Proofs.Ytalkpoeliekbfaa
open Go.ChangeShapes Go.WideShapes Go.ChangeAt Go.RowKit Go.Deep
set_option linter.unusedVariables false
set_option linter.unusedSimpArgs false

theorem and_mask (n : Nat) (hn : n ≤ 5000) : bits BinOp.and .u64 (n : Int) 4294967295 = (n : Int) := by
  have h1 : (BitVec.ofInt 64 (n : Int) &&& BitVec.ofInt 64 4294967295).toNat = n := by
    rw [BitVec.toNat_and]
    have e1 : (BitVec.ofInt 64 (n : Int)).toNat = n := by
      rw [BitVec.toNat_ofInt]
      omega
    have e2 : (BitVec.ofInt 64 4294967295).toNat = 2 ^ 32 - 1 := by decide
    rw [e1, e2, Nat.and_two_pow_sub_one_eq_mod]
    omega
  show IntKind.u64.wrap _ = _
  rw [show (IntKind.u64).bits = 64 from rfl]
  simp only
  rw [h1]
  simp [IntKind.wrap, IntKind.signed, IntKind.bits]
  omega
set_option maxHeartbeats 1600000 in
theorem mul64_one (n : Nat) (hn : n ≤ 5000) (w : World) : Calls Try.prog 68 #[.int .u64 1, .int .u64 (n : Int)] w fun e w' => e = .returned (.tuple #[.int .u64 0, .int .u64 (n : Int)]) ∧ w' = w := by
  have b1 : bits BinOp.and .u64 1 4294967295 = 1 := and_mask 1 (by omega)
  have b2 := and_mask n hn
  have b3 : bits BinOp.and .u64 0 4294967295 = 0 := and_mask 0 (by omega)
  have s2 : (n : Int) / 4294967296 = 0 := by omega
  have s3 : (n : Int) / 2 ^ 32 = 0 := by omega
  have wn : IntKind.u64.wrap (n : Int) = (n : Int) := by
    simp [IntKind.wrap, IntKind.signed, IntKind.bits]
    omega
  have w0 : IntKind.u64.wrap 0 = 0 := by decide
  go_enter Try.func68, Try.ntmps68
  go_wp2
  go_ret2
  exact ⟨rfl, rfl⟩
end Go.Proofs.Ytalkpoeliekbfaa
