/-
  The reference of ports (layer 13): two, Of.
-/
import Derived.Test.YtfeeaokeomcafaaPorts3
namespace Go.Proofs.Ytfeeaokeomcafaa
open Go.ChangeShapes Go.WideShapes Go.ChangeAt Go.RowKit Go.Deep
set_option linter.unusedVariables false
set_option linter.unusedSimpArgs false

theorem index_str (l : List UInt8) (i : Nat) (hi : i < l.length) (w : World) : (Instr.index 9 (.string (S l)) (.int .i64 (i : Int))).run Try.prog w = .ok (.int .u8 ((l[i]).toNat : Int)) w := by
  have h : (S l)[i]? = some l[i] := by
    have : i < (S l).size := by rw [S_size]; exact hi
    rw [getElem?_pos (S l) i this]
    rfl
  simp [Instr.index, run_underlying Try.underlying9, asIntOf, h]
theorem num_two (a b : UInt8) : num [a, b] = 256 * a.toNat + b.toNat := by simp [num]; omega
set_option maxRecDepth 100000 in
theorem refTwo (l : List UInt8) (i : Nat) (hi : i + 2 ≤ l.length) (h3 : i < 100) (w : World) :
    Calls Try.prog 94 #[.string (S l), .int .i64 (i : Int)] w fun e w' => e = .returned (.int .i64 (num ((l.drop i).take 2) : Nat)) ∧ Touch [] w w' := by
  have x1 := index_str l i (by omega)
  have x2 := index_str l (i + 1) (by omega)
  rw [show ((i + 1 : Nat) : Int) = (i : Int) + 1 by omega] at x2
  have hd : (l.drop i).take 2 = [l[i], l[i + 1]] := by
    rw [List.drop_eq_getElem_cons (by omega), List.drop_eq_getElem_cons (by omega)]
    rfl
  rw [hd, num_two]
  have h1 := (l[i]).toNat_lt
  have h2 := (l[i + 1]).toNat_lt
  generalize (l[i]).toNat = a at *
  generalize (l[i + 1]).toNat = b at *
  have f1 : IntKind.i64.wrap (a : Int) = (a : Int) := by rw [IntKind.wrap_i64]; omega
  have f2 : IntKind.i64.wrap (b : Int) = (b : Int) := by rw [IntKind.wrap_i64]; omega
  have f3 : IntKind.i64.wrap (256 * (a : Int)) = 256 * (a : Int) := by rw [IntKind.wrap_i64]; omega
  have f4 : IntKind.i64.wrap (256 * (a : Int) + (b : Int)) = 256 * (a : Int) + (b : Int) := by rw [IntKind.wrap_i64]; omega
  have f5 : IntKind.i64.wrap ((i : Int) + 1) = (i : Int) + 1 := by rw [IntKind.wrap_i64]; omega
  go_enter Try.func94, Try.ntmps94
  go_upto_region 1 with fail
  go_region
  all_goals go_wp2_with fail
  all_goals go_ret
  all_goals exact ⟨ret_int (by omega), (Touch.refl _ _).drew⟩

set_option maxHeartbeats 1000000 in
set_option maxRecDepth 100000 in
theorem refOf13 (x : Int) (l : List UInt8) (hl : l.length ≤ 1000000000) (w : World) :
    Calls Try.prog 47 #[.int .i64 x, .string (S l)] w fun e w' => e = .returned (.tuple #[.int .i64 (portsA x l : Nat), .int .i64 (portsB x l : Nat), .int .i64 (portsE x l)]) ∧ Touch [] w w' := by
  have hz := S_size l
  by_cases h6 : x = 6
  · subst h6
    by_cases hs : l.length < 20
    · have hE : portsE 6 l = 5 := by unfold portsE; rw [if_pos rfl, if_pos hs]
      have hA : portsA 6 l = 0 := by unfold portsA; rw [hE, if_neg (by simp)]
      have hB : portsB 6 l = 0 := by unfold portsB; rw [hE, if_neg (by simp)]
      rw [hA, hB, hE]
      have g : (l.length : Int) < 20 := by omega
      go_enter Try.func47, Try.ntmps47
      go_wp2_with fail
      refine bodyPost_ret (results_tmp3 rfl _ _ _) rfl ?_
      exact ⟨rfl, Touch.refl _ _⟩
    · have ht : tcpTold l = (l[12]'(by omega)).toNat / 16 * 4 := by unfold tcpTold; rw [List.getElem?_eq_getElem (by omega)]; rfl
      have xi := index_str l 12 (by omega)
      rw [show ((12 : Nat) : Int) = 12 from rfl] at xi
      have hb := (l[12]'(by omega)).toNat_lt
      have g : ¬ ((l.length : Int) < 20) := by omega
      have T0 := Lib.hid (fun w => refTwo l 0 (by omega) (by omega) w)
      have T2 := Lib.hid (fun w => refTwo l 2 (by omega) (by omega) w)
      simp only [List.drop_zero] at T0
      by_cases c : 20 ≤ tcpTold l ∧ tcpTold l ≤ l.length
      · have hE : portsE 6 l = 0 := by unfold portsE; rw [if_pos rfl, if_neg hs, if_pos c]
        have hA : portsA 6 l = num (l.take 2) := by unfold portsA; rw [hE, if_pos ⟨by decide, rfl⟩]
        have hB : portsB 6 l = num ((l.drop 2).take 2) := by unfold portsB; rw [hE, if_pos ⟨by decide, rfl⟩]
        rw [hA, hB, hE]
        rw [ht] at c
        generalize (l[12]'(by omega)).toNat = b at *
        have c1 : ¬ (4 * ((b : Int) / 16) < 20) := by omega
        have c2 : ¬ ((l.length : Int) < 4 * ((b : Int) / 16)) := by omega
        clear hE hA hB
        go_enter Try.func47, Try.ntmps47
        go_wp2_with fail
        refine (T0.out _).mono ?_
        rintro e w1 ⟨rfl, t1⟩
        go_wp2_with fail
        refine (T2.out _).mono ?_
        rintro e w2 ⟨rfl, t2⟩
        go_wp2_with fail
        refine bodyPost_ret (results_tmp3 rfl _ _ _) rfl ?_
        exact ⟨rfl, t1.trans t2 (by simp)⟩
      · have hE : portsE 6 l = 23 := by unfold portsE; rw [if_pos rfl, if_neg hs, if_neg c]
        have hA : portsA 6 l = 0 := by unfold portsA; rw [hE, if_neg (by simp)]
        have hB : portsB 6 l = 0 := by unfold portsB; rw [hE, if_neg (by simp)]
        rw [hA, hB, hE]
        rw [ht] at c
        generalize (l[12]'(by omega)).toNat = b at *
        clear hE hA hB
        by_cases c1 : 4 * ((b : Int) / 16) < 20
        · go_enter Try.func47, Try.ntmps47
          go_wp2_with fail
          refine bodyPost_ret (results_tmp3 rfl _ _ _) rfl ?_
          exact ⟨rfl, Touch.refl _ _⟩
        · have c2 : (l.length : Int) < 4 * ((b : Int) / 16) := by omega
          go_enter Try.func47, Try.ntmps47
          go_wp2_with fail
          refine bodyPost_ret (results_tmp3 rfl _ _ _) rfl ?_
          exact ⟨rfl, Touch.refl _ _⟩
  · have b6 : (x == 6) = false := by simpa using h6
    by_cases h17 : x = 17
    · subst h17
      by_cases hs : l.length < 8
      · have hE : portsE 17 l = 5 := by unfold portsE; rw [if_neg h6, if_pos rfl, if_pos hs]
        have hA : portsA 17 l = 0 := by unfold portsA; rw [hE, if_neg (by simp)]
        have hB : portsB 17 l = 0 := by unfold portsB; rw [hE, if_neg (by simp)]
        rw [hA, hB, hE]
        have g : (l.length : Int) < 8 := by omega
        go_enter Try.func47, Try.ntmps47
        go_wp2_with fail
        refine bodyPost_ret (results_tmp3 rfl _ _ _) rfl ?_
        exact ⟨rfl, Touch.refl _ _⟩
      · have g : ¬ ((l.length : Int) < 8) := by omega
        have T0 := Lib.hid (fun w => refTwo l 0 (by omega) (by omega) w)
        have T2 := Lib.hid (fun w => refTwo l 2 (by omega) (by omega) w)
        have T4 := Lib.hid (fun w => refTwo l 4 (by omega) (by omega) w)
        simp only [List.drop_zero] at T0
        by_cases c : 8 ≤ udpTold l ∧ udpTold l ≤ l.length
        · have hE : portsE 17 l = 0 := by unfold portsE; rw [if_neg h6, if_pos rfl, if_neg hs, if_pos c]
          have hA : portsA 17 l = num (l.take 2) := by unfold portsA; rw [hE, if_pos ⟨by decide, rfl⟩]
          have hB : portsB 17 l = num ((l.drop 2).take 2) := by unfold portsB; rw [hE, if_pos ⟨by decide, rfl⟩]
          rw [hA, hB, hE]
          unfold udpTold at c
          generalize num ((l.drop 4).take 2) = b at *
          have c1 : ¬ ((b : Int) < 8) := by omega
          have c2 : ¬ ((l.length : Int) < (b : Int)) := by omega
          clear hE hA hB
          go_enter Try.func47, Try.ntmps47
          go_wp2_with fail
          refine (T4.out _).mono ?_
          rintro e w1 ⟨rfl, t1⟩
          go_wp2_with fail
          refine (T4.out _).mono ?_
          rintro e w2 ⟨rfl, t2⟩
          go_wp2_with fail
          refine (T0.out _).mono ?_
          rintro e w3 ⟨rfl, t3⟩
          go_wp2_with fail
          refine (T2.out _).mono ?_
          rintro e w4 ⟨rfl, t4⟩
          go_wp2_with fail
          refine bodyPost_ret (results_tmp3 rfl _ _ _) rfl ?_
          exact ⟨rfl, ((t1.trans t2 (by simp)).trans t3 (by simp)).trans t4 (by simp)⟩
        · have hE : portsE 17 l = 6 := by unfold portsE; rw [if_neg h6, if_pos rfl, if_neg hs, if_neg c]
          have hA : portsA 17 l = 0 := by unfold portsA; rw [hE, if_neg (by simp)]
          have hB : portsB 17 l = 0 := by unfold portsB; rw [hE, if_neg (by simp)]
          rw [hA, hB, hE]
          unfold udpTold at c
          generalize num ((l.drop 4).take 2) = b at *
          clear hE hA hB
          by_cases c1 : (b : Int) < 8
          · go_enter Try.func47, Try.ntmps47
            go_wp2_with fail
            refine (T4.out _).mono ?_
            rintro e w1 ⟨rfl, t1⟩
            go_wp2_with fail
            refine bodyPost_ret (results_tmp3 rfl _ _ _) rfl ?_
            exact ⟨rfl, t1⟩
          · have c2 : (l.length : Int) < (b : Int) := by omega
            go_enter Try.func47, Try.ntmps47
            go_wp2_with fail
            refine (T4.out _).mono ?_
            rintro e w1 ⟨rfl, t1⟩
            go_wp2_with fail
            refine (T4.out _).mono ?_
            rintro e w2 ⟨rfl, t2⟩
            go_wp2_with fail
            refine bodyPost_ret (results_tmp3 rfl _ _ _) rfl ?_
            exact ⟨rfl, t1.trans t2 (by simp)⟩
    · have b17 : (x == 17) = false := by simpa using h17
      have hE : portsE x l = 0 := by unfold portsE; rw [if_neg h6, if_neg h17]
      have hx : ¬ 0 < leastV x := by unfold leastV; rw [if_neg h6, if_neg h17]; omega
      have hA : portsA x l = 0 := by unfold portsA; rw [if_neg (fun h => hx h.1)]
      have hB : portsB x l = 0 := by unfold portsB; rw [if_neg (fun h => hx h.1)]
      rw [hA, hB, hE]
      go_enter Try.func47, Try.ntmps47
      go_wp2_with fail
      refine bodyPost_ret (results_tmp3 rfl _ _ _) rfl ?_
      exact ⟨rfl, Touch.refl _ _⟩
end Go.Proofs.Ytfeeaokeomcafaa
