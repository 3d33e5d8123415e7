/-
  Layer 7 (chain): All's function called with ChainOrders' counting function.
-/
import Derived.Test.YtalkpoeliekbfaaChain21
namespace Go.Proofs.Ytalkpoeliekbfaa
open Go.ChangeShapes Go.WideShapes Go.ChangeAt Go.RowKit Go.Deep
set_option linter.unusedVariables false
set_option linter.unusedSimpArgs false
section
variable {w : World} {b m : Nat} {s most : Int} {L : List Nat}
theorem count_any (hb : Box1 w b 3 (.int .i64 s)) (hm : Box1 w m 3 (.int .i64 most)) (hbm : m ≠ b) (hs : 0 ≤ s ∧ s ≤ 10000) (x : Int) :
    Calls Try.prog 24 #[.int .i64 x, .pointer (some ⟨b, 0, none⟩), .pointer (some ⟨m, 0, none⟩)] w fun e w' => e = .returned (.bool (! (s + 1 == most))) ∧ Box1 w' b 3 (.int .i64 (s + 1)) ∧ Touch [b] w w' := by
  have c0 := hb.c0
  have f0 := hb.fr 0
  have lb := hb.lt
  have HB := Lib.hid (hb.set0 (.int .i64 (s + 1)))
  have t1 : Touch [b] w (w.setCell ⟨b, 0, none⟩ (.int .i64 (s + 1))) := (Touch.refl _ _).setCell (a := ⟨b, 0, none⟩) (.inl (by simp)) _
  have HM := Lib.hid (hm.carry t1 (by simpa using hbm))
  have T1 := Lib.hid t1
  have c2 := HM.out.c0
  have c1 := HB.out.c0
  clear hb hm t1
  go_enter Try.func24, Try.ntmps24
  go_upto_region 2 with fail
  generalize w.setCell ⟨b, 0, none⟩ (.int .i64 (s + 1)) = w1 at *
  go_wp2_with fail
  go_ret
  exact ⟨rfl, HB.out, T1.out⟩
end
end Go.Proofs.Ytalkpoeliekbfaa
