/-
  The reference's Num (layer 9).
-/
import Derived.Test.YtpmnnaghadpnnaaRefOct
import Derived.Test.YtpmnnaghadpnnaaBoxV
namespace Go.Proofs.Ytpmnnaghadpnnaa
open Go.ChangeShapes Go.WideShapes Go.ChangeAt Go.RowKit Go.Deep
set_option linter.unusedVariables false
set_option linter.unusedSimpArgs false

set_option maxHeartbeats 1000000 in
set_option maxRecDepth 100000 in
theorem refNum_core (l m t : List UInt8) (k j n : Int) (ht : t.length ≤ 8)
    (HT : ∀ w, Calls Try.prog 28 #[rv l k, .int .i64 n] w fun e w' => e = .returned (.tuple #[rv m j, .string (S t)]) ∧ Touch [] w w') (w : World) :
    Calls Try.prog 24 #[rv l k, .int .i64 n] w fun e w' => e = .returned (.tuple #[rv m j, .int .u64 (num t : Nat)]) ∧ Touch [] w w' := by
  have H := Lib.hid HT
  clear HT
  have hz := S_size t
  unfold rv at *
  have X0 := BoxV.new (w.alloc (.cells #[.string (S l), .int .i64 k] 38)) 38 #[.string ⟨#[]⟩, .int .i64 0]
  rw [show (w.alloc (.cells #[.string (S l), .int .i64 k] 38)).heap.size = w.heap.size + 1 by simp] at X0
  have T0 := t2w w (.cells #[.string (S l), .int .i64 k] 38) (.cells #[.string ⟨#[]⟩, .int .i64 0] 38)
  have HX0 := Lib.hid X0
  have HT0 := Lib.hid T0
  have HM := Lib.hid ht
  clear X0 T0
  go_enter Try.func24, Try.ntmps24
  go_wp2_with fail
  refine (H.out _).mono ?_
  rintro e w1 ⟨rfl, t1⟩
  have HX1 := Lib.hid ((HX0.out.carry t1 (by simp)).carry ((Touch.refl [] _).alloc (.cells #[.string (S m), .int .i64 j] 38)) (by simp))
  have HY1 := Lib.hid (BoxV.new w1 38 #[.string (S m), .int .i64 j])
  have HT1 := Lib.hid ((HT0.out.trans t1 (by simp)).alloc (.cells #[.string (S m), .int .i64 j] 38))
  have hne := (HX0.out.carry t1 (by simp)).lt
  have hge := (HT0.out.trans t1 (by simp)).size
  clear t1 HX0 HT0 H
  go_wp2_with fail
  generalize hW : w1.alloc (.cells #[.string (S m), .int .i64 j] 38) = W at *
  have HW := Lib.hid hW
  clear hW
  go_loopw [9, 8] (fun y u wr => ∃ i : Nat, i ≤ t.length ∧ y = .int .i64 i ∧ u = .int .u64 (num (t.take i) : Nat) ∧ wr = W) (fun y _ _ => t.length - (intOf y).toNat)
  case atStart => exact ⟨0, Nat.zero_le _, rfl, rfl, rfl⟩
  case round =>
    obtain ⟨i, hi, rfl, rfl, rfl⟩ := hrel
    by_cases hlt : i < t.length
    · have hx := ix_str t i hlt
      have hb := (t[i]).toNat_lt
      have hN : num (t.take i) < 72057594037927936 := by
        refine Nat.lt_of_lt_of_le (num_lt _) ?_
        rw [List.length_take, Nat.min_eq_left hi]
        exact Nat.le_trans (Nat.pow_le_pow_right (by omega) (show i ≤ 7 by omega)) (by decide)
      have hn2 : num (t.take (i + 1)) = num (t.take i) * 256 + (t[i]).toNat := by rw [take_snoc t i hlt, num_snoc]
      have HN2 := Lib.hid hn2
      clear hn2
      generalize num (t.take i) = N at *
      generalize (t[i]).toNat = b at *
      have f1 : IntKind.u64.wrap (256 * (N : Int)) = 256 * (N : Int) := by rw [IntKind.wrap_u64]; omega
      have f2 : IntKind.u64.wrap (b : Int) = (b : Int) := by rw [IntKind.wrap_u64]; omega
      have f3 : IntKind.u64.wrap (256 * (N : Int) + (b : Int)) = 256 * (N : Int) + (b : Int) := by rw [IntKind.wrap_u64]; omega
      go_wp2_with fail
      refine ⟨⟨i + 1, by omega, by go_num, by rw [HN2.out]; congr 1; omega, trivial⟩, by simp [intOf]; omega⟩
    · obtain rfl : i = t.length := by omega
      have y0 := HY1.out.cell 0
      have y1 := HY1.out.cell 1
      have ly := HY1.out.lt
      have x0 := HX1.out.cell 0
      have x1 := HX1.out.cell 1
      have lx := HX1.out.lt
      have fz := HX1.out.fr
      have g0 := show BoxV _ (w.heap.size + 1) 38 #[.string (S m), .int .i64 0] from HX1.out.set 0 (.string (S m))
      have g1 := show BoxV _ (w.heap.size + 1) 38 #[.string (S m), .int .i64 j] from g0.set 1 (.int .i64 j)
      have G := Lib.hid g1
      have ts := ((Touch.refl [w.heap.size + 1] wr).setCell (a := ⟨w.heap.size + 1, 0, none⟩) (Or.inl (by simp)) (.string (S m))).setCell (a := ⟨w.heap.size + 1, 1, none⟩) (Or.inl (by simp)) (.int .i64 j)
      have T2 := Lib.hid (HT1.out.trans ts (by intro b hb; simp at hb; omega))
      rw [List.take_of_length_le (Nat.le_refl _)]
      clear g0 g1 ts
      go_wp2_with fail
      have d0 := G.out.cell 0
      have d1 := G.out.cell 1
      refine bodyPost_ret (v := .tuple #[.agg #[.string (S m), .int .i64 j], .int .u64 (num t : Nat)]) (by simp [results, Try.results24, go_sem, d0, d1]) rfl ?_
      exact ⟨rfl, T2.out⟩
theorem refNum_err (l : List UInt8) (k n : Int) (hk : k ≠ 0) (w : World) : Calls Try.prog 24 #[rv l k, .int .i64 n] w fun e w' => e = .returned (.tuple #[rv l k, .int .u64 0]) ∧ Touch [] w w' :=
  refNum_core l l [] k k n (by simp) (fun w => refTake_err l k n hk w) w
theorem refNum_short (l : List UInt8) (n : Nat) (hn : l.length < n) (w : World) : Calls Try.prog 24 #[rv l 0, .int .i64 (n : Int)] w fun e w' => e = .returned (.tuple #[rv l 5, .int .u64 0]) ∧ Touch [] w w' :=
  refNum_core l l [] 0 5 n (by simp) (fun w => refTake_short l n (by omega) w) w
theorem refNum_ok (l : List UInt8) (n : Nat) (hn : n ≤ l.length) (h8 : n ≤ 8) (hl : l.length ≤ 1000000000) (w : World) : Calls Try.prog 24 #[rv l 0, .int .i64 (n : Int)] w fun e w' => e = .returned (.tuple #[rv (l.drop n) 0, .int .u64 (num (l.take n) : Nat)]) ∧ Touch [] w w' :=
  refNum_core l (l.drop n) (l.take n) 0 0 n (by rw [List.length_take]; omega) (fun w => refTake_ok l n hn hl w) w
end Go.Proofs.Ytpmnnaghadpnnaa
