/-
  Layer 7 (chain): Join, where nothing moves; Join of a list that is not empty, by what attach makes of it.
-/
import Derived.Test.YtalkpoeliekbfaaChain13
namespace Go.Proofs.Ytalkpoeliekbfaa
open Go.ChangeShapes Go.WideShapes Go.ChangeAt Go.RowKit Go.Deep
set_option linter.unusedVariables false
set_option linter.unusedSimpArgs false
section
variable {w : World} {p gn gw gl n cn cw k cl : Nat} {N V E : Nat → Int}
theorem join_nil (a c : Int) (w : World) : Calls Try.prog 15 #[.pointer none, .int .i64 a, .int .i64 c] w fun e w' => e = .returned (.bool false) ∧ Touch [] w w' := by
  have t1 : Touch [] w ((w.alloc (.cells #[.pointer none] 23)).alloc (.cells #[.int .i64 a] 3)) := ((Touch.refl [] w).alloc _).alloc _
  have HB3 := Lib.hid ((Box1.new w 23 (.pointer none)).carry ((Touch.refl [] _).alloc (.cells #[.int .i64 a] 3)) (by simp))
  have hB4 := Box1.new (w.alloc (.cells #[.pointer none] 23)) 3 (.int .i64 a)
  rw [show (w.alloc (.cells #[.pointer none] 23)).heap.size = w.heap.size + 1 by simp] at hB4
  have HB4 := Lib.hid hB4
  have H1 := Lib.hid (hasList_nil a ((w.alloc (.cells #[.pointer none] 23)).alloc (.cells #[.int .i64 a] 3)))
  clear hB4
  have T1 := Lib.hid t1
  clear t1
  go_enter Try.func15, Try.ntmps15
  go_wp2_with fail
  refine (H1.out).mono ?_
  rintro e w1 ⟨rfl, hw⟩
  rw [hw]
  go_wp2_with fail
  go_ret
  exact ⟨rfl, T1.out⟩
theorem join_stay (h : ChainAt w p gn gw gl n cn cw k cl N V E) (a c : Int) (r : Bool)
    (hr : (inR a k = false ∧ r = false) ∨ (inR a k = true ∧ inR c k = false ∧ r = false) ∨ (inR a k = true ∧ inR c k = true ∧ (a == c) = true ∧ r = false) ∨ (inR a k = true ∧ inR c k = true ∧ (a == c) = false ∧ lenV k E c = 0 ∧ r = true)) :
    Calls Try.prog 15 #[.pointer (some ⟨p, 0, none⟩), .int .i64 a, .int .i64 c] w fun e w' => e = .returned (.bool r) ∧ Touch [] w w' := by
  have t1 : Touch [] w ((w.alloc (.cells #[.pointer (some ⟨p, 0, none⟩)] 23)).alloc (.cells #[.int .i64 a] 3)) := ((Touch.refl [] w).alloc _).alloc _
  have HB3 := Lib.hid ((Box1.new w 23 (.pointer (some ⟨p, 0, none⟩))).carry ((Touch.refl [] _).alloc (.cells #[.int .i64 a] 3)) (by simp))
  have hB4 := Box1.new (w.alloc (.cells #[.pointer (some ⟨p, 0, none⟩)] 23)) 3 (.int .i64 a)
  rw [show (w.alloc (.cells #[.pointer (some ⟨p, 0, none⟩)] 23)).heap.size = w.heap.size + 1 by simp] at hB4
  have h1 := h.new t1
  have D1 := hasList_any h1 a
  have D2 := hasList_any h1 c
  have D3 := len_any h1 c
  have HB4 := Lib.hid hB4
  have T1 := Lib.hid t1
  clear h h1 hB4 t1
  rcases hr with ⟨e1, rfl⟩ | ⟨e1, e2, rfl⟩ | ⟨e1, e2, e3, rfl⟩ | ⟨e1, e2, e3, e4, rfl⟩
  · rw [e1] at D1
    have H1 := Lib.hid D1
    clear D1 D2 D3
    go_enter Try.func15, Try.ntmps15
    go_wp2_with fail
    refine (H1.out).mono ?_
    rintro e w1 ⟨rfl, hw⟩
    rw [hw]
    go_wp2_with fail
    go_ret
    exact ⟨rfl, T1.out⟩
  · rw [e1] at D1
    rw [e2] at D2
    have H1 := Lib.hid D1
    have H2 := Lib.hid D2
    clear D1 D2 D3
    go_enter Try.func15, Try.ntmps15
    go_wp2_with fail
    refine (H1.out).mono ?_
    rintro e w1 ⟨rfl, hw⟩
    rw [hw]
    clear hw w1
    go_wp2_with fail
    refine (H2.out).mono ?_
    rintro e w1 ⟨rfl, hw⟩
    rw [hw]
    go_wp2_with fail
    go_ret
    exact ⟨rfl, T1.out⟩
  · rw [e1] at D1
    rw [e2] at D2
    have H1 := Lib.hid D1
    have H2 := Lib.hid D2
    clear D1 D2 D3
    go_enter Try.func15, Try.ntmps15
    go_wp2_with fail
    refine (H1.out).mono ?_
    rintro e w1 ⟨rfl, hw⟩
    rw [hw]
    clear hw w1
    go_wp2_with fail
    refine (H2.out).mono ?_
    rintro e w1 ⟨rfl, hw⟩
    rw [hw]
    go_wp2_with fail
    go_ret
    exact ⟨rfl, T1.out⟩
  · rw [e1] at D1
    rw [e2] at D2
    rw [e4] at D3
    have H1 := Lib.hid D1
    have H2 := Lib.hid D2
    have H3 := Lib.hid D3
    clear D1 D2 D3
    go_enter Try.func15, Try.ntmps15
    go_wp2_with fail
    refine (H1.out).mono ?_
    rintro e w1 ⟨rfl, hw⟩
    rw [hw]
    clear hw w1
    go_wp2_with fail
    refine (H2.out).mono ?_
    rintro e w1 ⟨rfl, hw⟩
    rw [hw]
    clear hw w1
    go_wp2_with fail
    refine (H3.out).mono ?_
    rintro e w1 ⟨rfl, hw⟩
    rw [hw]
    go_wp2_with fail
    go_ret
    exact ⟨rfl, T1.out⟩
end
end Go.Proofs.Ytalkpoeliekbfaa
