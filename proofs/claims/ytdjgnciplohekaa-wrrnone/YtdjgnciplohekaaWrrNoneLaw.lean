/-
  WrrNone: for every id, number and slice the law of the rings that aren't there returns true. No conditions.
-/
import Derived.Test.YtdjgnciplohekaaWrr6
import Derived.IntWalk
namespace Go.Proofs.Ytdjgnciplohekaa
open Go.ChangeShapes Go.WideShapes Go.ChangeAt Go.RowKit Go.Deep Go.Joins Go.Maps
set_option linter.unusedVariables false
set_option linter.unusedSimpArgs false

theorem cells_on {w w' : World} {A : Option Addr} {n : Nat} {X : Nat → Int} (h : IntCells w w.heap.size A n X) (t : Touch [] w w') : IntCells w' w'.heap.size A n X := (h.below (t.below (by simp) (Nat.le_refl _))).mono t.size
theorem pick_none {q c cb s : Nat} {R : Tri} {w : World} {A : Option Addr} {n cap : Nat} {X : Nat → Int} (h : WAt w q c cb s R (fun _ => []) (fun _ => none)) (hX : IntCells w w.heap.size A n X) (hn : n ≤ maxLen) (hF : ∀ i, i < n → fit64 (X i)) (hs : s < 1000) :
    Calls Try.prog 33 #[.pointer (some ⟨q, 0, none⟩), .slice A n cap] w fun e w' => e = .returned (.tuple #[.int .i64 0, .bool false]) ∧ WAt w' q c cb s R (fun _ => []) (fun _ => none) ∧ Touch (zone q c cb R) w w' := by
  refine (pickW h hX hn hF (by simp) hs (by simp)).mono ?_
  intro e w' hp
  rcases hp with ⟨_, h⟩ | ⟨k, i, _, h1, _⟩
  · exact h
  · exact Bool.noConfusion h1

set_option maxHeartbeats 4000000 in
set_option maxRecDepth 100000 in
theorem wrrNone_walk (id n : Int) (A : Option Addr) (len cap : Nat) (X : Nat → Int) (w : World) (hid : i64k id) (hl : len ≤ maxLen) (hX : IntCells w w.heap.size A len X) (hF : ∀ i, i < len → fit64 (X i)) :
    Calls Try.prog 6 #[.int .i64 id, .int .i64 n, .slice A len cap] w fun e w' => e = .returned (.bool true) ∧ Below w.heap.size w w' := by
  have HX := Lib.hid hX
  have HF := Lib.hid hF
  have P1 := Lib.hid (pickW_nil (cap := cap) hX hl hF)
  clear hX hF
  go_enter Try.func6, Try.ntmps6
  go_wp2_with fail
  refine (P1.out).mono ?_
  rintro e w1 ⟨rfl, t1⟩
  have T1 := Lib.hid t1
  clear t1 P1
  go_wp2_with fail
  refine (creditW_of _ _ _ (Lib.hid (creditsW_nil w1)) (Lib.hid (credOf_no id _ (nil_find _ _)))).mono ?_
  rintro e w2 ⟨rfl, t2⟩
  have T2 := Lib.hid (T1.out.trans t2 (by simp))
  clear t2 T1
  go_wp2_with fail
  refine (prioW_nil id w2).mono ?_
  rintro e w3 ⟨rfl, hw⟩
  subst hw
  go_wp2_with fail
  refine (joinW_bad (.pointer none) id 0 1 (Lib.hid (ringW_nil 0 w3))).mono ?_
  rintro e w4 ⟨rfl, hw⟩
  subst hw
  go_wp2_with fail
  refine (leaveW_no (.pointer none) id (Lib.hid (prioW_nil id w4))).mono ?_
  rintro e w5 ⟨rfl, hw⟩
  subst hw
  go_wp2_with fail
  refine (giveW_of (.pointer none) (.pointer none) id n (P := fun w' => Touch [] w5 w') (Lib.hid (creditsW_nil w5)) (Lib.hid (give_no id n _ (nil_find _ _)))).mono ?_
  rintro e w6 ⟨rfl, t6⟩
  have T6 := Lib.hid (T2.out.trans t6 (by simp))
  clear t6 T2
  go_wp2_with fail
  refine (sentW_of (.pointer none) (.pointer none) id n (P := fun w' => Touch [] w6 w') (Lib.hid (creditsW_nil w6)) (Lib.hid (spend_no id n _ (nil_find _ _)))).mono ?_
  rintro e w7 ⟨rfl, t7⟩
  have T7 := Lib.hid (T6.out.trans t7 (by simp))
  clear t7 T6
  go_wp2_with fail
  refine (orderW_nil (.pointer none) 0 (Lib.hid (ringW_nil 0 w7))).mono ?_
  rintro e w8 ⟨rfl, hw⟩
  subst hw
  go_wp2_with fail
  refine (copyW_nil w8).mono ?_
  rintro e w9 ⟨rfl, hw⟩
  subst hw
  go_wp2_with fail
  refine (newW w9).mono ?_
  rintro e w10 ⟨q, c, cb, R, rfl, a1, hz, t10⟩
  have HZ := Lib.hid hz
  have HX2 := cells_on HX.out (T7.out.trans t10 (by simp))
  have P2 := Lib.hid (pick_none (cap := cap) a1 HX2 hl HF.out (by omega))
  have T10 := Lib.hid (T7.out.trans t10 (by simp))
  have HZ0 := Lib.hid (show ∀ b ∈ zone q c cb R, b ∈ ([] : List Nat) ∨ w.heap.size ≤ b from fun b hb => .inr (Nat.le_trans T7.out.size (HZ.out b hb)))
  clear a1 hz t10 T7 HX2 HZ
  unfold pt
  go_wp2_with fail
  refine (P2.out).mono ?_
  rintro e w11 ⟨rfl, a2, t11⟩
  have T11 := Lib.hid (T10.out.trans t11 (fun b hb => HZ0.out b hb))
  have S2 := Lib.hid (sentW_of (.pointer (some ⟨q, 0, none⟩)) (.pointer (some ⟨c, 0, none⟩)) id n (P := fun w' => Touch [] w11 w') (Lib.hid (creditsW a2)) (Lib.hid (spend_no id n _ (Lib.hid (find_no a2.cred id hid rfl)))))
  have A2 := Lib.hid a2
  clear a2 t11 T10 P2
  go_wp2_with fail
  refine (S2.out).mono ?_
  rintro e w12 ⟨rfl, t12⟩
  have A3 := Lib.hid (A2.out.new t12)
  have T12 := Lib.hid (T11.out.trans t12 (by simp))
  have L2 := Lib.hid (leaveW_no (.pointer (some ⟨q, 0, none⟩)) id (Lib.hid (prioW_none A3.out id hid (by simp))))
  clear t12 A2 T11 S2
  go_wp2_with fail
  refine (L2.out).mono ?_
  rintro e w13 ⟨rfl, hw⟩
  subst hw
  clear L2
  have O2 : Calls Try.prog 42 #[.pointer (some ⟨q, 0, none⟩), .int .i64 n] w13 fun e w' => ∃ A' c', e = .returned (.slice A' 0 c') ∧ Below w13.heap.size w13 w' := by
    by_cases hn : 0 ≤ n ∧ n < 8
    · obtain ⟨k, rfl⟩ : ∃ k : Nat, n = (k : Int) := ⟨n.toNat, by omega⟩
      refine (orderW A3.out k (by omega) (by simp)).mono ?_
      rintro e w' ⟨v, rfl, ho, hb⟩
      obtain ⟨A', c', rfl, _⟩ := own_cells ho
      exact ⟨A', c', rfl, hb⟩
    · refine (orderW_nil _ n (Lib.hid (ringW_no _ (.inr rfl) n (by omega) w13))).mono ?_
      rintro e w' ⟨rfl, hw⟩
      subst hw
      exact ⟨none, 0, rfl, Below.refl _ _⟩
  have O2 := Lib.hid O2
  clear A3
  go_wp2_with fail
  refine (O2.out).mono ?_
  rintro e w14 ⟨A', c', rfl, hb⟩
  have HB := Lib.hid hb
  clear hb O2
  go_wp2_with fail
  refine (wrrLives_any _).mono ?_
  rintro e w15 ⟨rfl, hb2⟩
  have HB2 := Lib.hid hb2
  clear hb2
  go_wp2_with fail
  go_ret
  exact ⟨rfl, bnext (bnext (T12.out.below (by simp) (Nat.le_refl _)) HB.out) HB2.out⟩

set_option maxRecDepth 100000 in
theorem wrrNone_calls : LawCalls Try.prog 6 Try.f6 := by
  intro H enc W base args ds p hval hA hlt
  rw [Try.params6] at hA hval
  obtain ⟨v0, vs0, d0, ds0, p0, q0, hargs, rfl, rfl, h0, r0⟩ := trodAll_cons hA
  obtain ⟨v1, vs1, d1, ds1, p1, q1, rfl, rfl, rfl, h1, r1⟩ := trodAll_cons r0
  obtain ⟨v2, vs2, d2, ds2, p2, q2, rfl, rfl, rfl, h2, r2⟩ := trodAll_cons r1
  obtain ⟨rfl, rfl, rfl⟩ := trodAll_nil r2
  obtain rfl : args = #[v0, v1, v2] := by cases args; simp_all
  obtain ⟨a, rfl, rfl, rfl, wa⟩ := open_int Try.underlying3 (hval 0 3 v0 rfl rfl) h0
  obtain ⟨b, rfl, rfl, rfl, wb⟩ := open_int Try.underlying3 (hval 1 3 v1 rfl rfl) h1
  obtain ⟨A, len, cap, X, rfl, hl, hm, hX, hF⟩ := int_cells (hval 2 26 v2 rfl rfl) h2
  exact wrrNone_walk a b A len cap X W wa (by unfold maxLen; omega) hX hF

set_option maxRecDepth 100000 in
theorem wrrNone_lifted (os : Os) (started : os.Started) (H : Type) (enc : TypeId × Value → H) :
    ReturnsInHanded {} Try.checked os 6 .any (Rows.wrrNoneSpec.pre6 enc Try.prog Try.f6 Rows.wrrNoneRow.domain false) (Rows.wrrNoneSpec.post enc Try.prog Try.f6 false true false false) := by
  refine returnsInHanded_of_change (C := Try.checked) own started (by kernel_rfl) Try.func6
    (ChangeSpec.witness6 (enc := enc) (C := Try.checked) false ⟨#[], #[.int .i64 0, .int .i64 0, .slice none 0 0], []⟩ 8 (by kernel_rfl) (by kernel_rfl) (by kernel_rfl) (by kernel_rfl)) ?_
  intro W base args ds gs before hval hW _ _
  exact law_contract laidOut (by kernel_rfl) rfl rfl boolType (fun ds h => by match ds, h with | [_, _, _], _ => rfl) wrrNone_calls W base args ds gs before hval hW

theorem wrrNone_holds : Rows.WrrNoneSaid :=
  OpenClaim.holds_of_wide 6 Try.f6 rfl rfl rfl rfl rfl rfl rfl ⟨rfl, rfl, rfl, rfl, rfl⟩ rfl rfl rfl rfl rfl (by kernel_rfl) Try.func6 (by kernel_rfl)
    (of_decide_eq_true (by kernel_rfl)) (by unfold Func.isWrapper; first | (rw [if_pos (by decide +kernel)]; kernel_rfl) | (rw [if_neg (by decide +kernel)]; exact ⟨rfl, rfl⟩))
    (fun os started H enc _ => wrrNone_lifted os started H enc)
#print axioms wrrNone_holds
end Go.Proofs.Ytdjgnciplohekaa
