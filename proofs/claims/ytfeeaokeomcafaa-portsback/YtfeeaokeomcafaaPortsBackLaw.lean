/-
  PortsBack: for every protocol, all ports and all payloads the law on ports' Make and Of returns true. No conditions.
-/
import Derived.Test.YtfeeaokeomcafaaPortsTellsLaw
import Derived.Test.YtfeeaokeomcafaaInts
namespace Go.Proofs.Ytfeeaokeomcafaa
open Go.ChangeShapes Go.WideShapes Go.ChangeAt Go.RowKit Go.Deep
set_option linter.unusedVariables false

theorem num_be2 (u : Nat) : num (be u 2) = u % 65536 := by
  rw [be_two, num_two]
  simp
  omega
theorem back_of (x a b : Int) (l : List UInt8) (h : l.length ≤ 200) :
    portsE x (makeB x a b l) = 0 ∧ (x = 6 ∨ x = 17 → portsA x (makeB x a b l) = u64n a % 65536 ∧ portsB x (makeB x a b l) = u64n b % 65536) ∧ (¬ (x = 6 ∨ x = 17) → portsA x (makeB x a b l) = 0 ∧ portsB x (makeB x a b l) = 0 ∧ makeB x a b l = l) := by
  have hm : makeB x a b l = headB x a b l.length ++ l := by unfold makeB; rw [if_neg (by omega)]
  rw [hm]
  by_cases h6 : x = 6
  · subst h6
    have hh : headB 6 a b l.length = be (u64n a) 2 ++ be (u64n b) 2 ++ [0, 0, 0, 0, 0, 0, 0, 0, 80, 0, 0, 0, 0, 0, 0, 0] := by unfold headB; rw [if_pos rfl]
    rw [hh]
    have e : portsE 6 (be (u64n a) 2 ++ be (u64n b) 2 ++ [0, 0, 0, 0, 0, 0, 0, 0, 80, 0, 0, 0, 0, 0, 0, 0] ++ l) = 0 := by
      have ht : tcpTold (be (u64n a) 2 ++ be (u64n b) 2 ++ [0, 0, 0, 0, 0, 0, 0, 0, 80, 0, 0, 0, 0, 0, 0, 0] ++ l) = 20 := by rw [be_two, be_two]; simp [tcpTold]
      have hL : (be (u64n a) 2 ++ be (u64n b) 2 ++ [0, 0, 0, 0, 0, 0, 0, 0, 80, 0, 0, 0, 0, 0, 0, 0] ++ l).length = 20 + l.length := by simp [be_length]; omega
      unfold portsE
      rw [if_pos rfl, ht, hL, if_neg (by omega), if_pos ⟨by omega, by omega⟩]
    refine ⟨e, fun _ => ⟨?_, ?_⟩, fun hn => absurd (Or.inl rfl) hn⟩
    · unfold portsA
      rw [if_pos ⟨by decide, e⟩, ← num_be2, be_two, be_two]
      rfl
    · unfold portsB
      rw [if_pos ⟨by decide, e⟩, ← num_be2, be_two, be_two]
      rfl
  · by_cases h17 : x = 17
    · subst h17
      have hh : headB 17 a b l.length = be (u64n a) 2 ++ be (u64n b) 2 ++ be (u64n (8 + (l.length : Int))) 2 ++ [0, 0] := by unfold headB; rw [if_neg h6, if_pos rfl]
      rw [hh]
      have e : portsE 17 (be (u64n a) 2 ++ be (u64n b) 2 ++ be (u64n (8 + (l.length : Int))) 2 ++ [0, 0] ++ l) = 0 := by
        have ht : udpTold (be (u64n a) 2 ++ be (u64n b) 2 ++ be (u64n (8 + (l.length : Int))) 2 ++ [0, 0] ++ l) = 8 + l.length := by
          have e1 : udpTold (be (u64n a) 2 ++ be (u64n b) 2 ++ be (u64n (8 + (l.length : Int))) 2 ++ [0, 0] ++ l) = num (be (u64n (8 + (l.length : Int))) 2) := by rw [be_two, be_two, be_two]; rfl
          rw [e1, num_be2]
          unfold u64n
          omega
        have hL : (be (u64n a) 2 ++ be (u64n b) 2 ++ be (u64n (8 + (l.length : Int))) 2 ++ [0, 0] ++ l).length = 8 + l.length := by simp [be_length]; omega
        unfold portsE
        rw [if_neg h6, if_pos rfl, ht, hL, if_neg (by omega), if_pos ⟨by omega, by omega⟩]
      refine ⟨e, fun _ => ⟨?_, ?_⟩, fun hn => absurd (Or.inr rfl) hn⟩
      · unfold portsA
        rw [if_pos ⟨by decide, e⟩, ← num_be2, be_two, be_two]
        rfl
      · unfold portsB
        rw [if_pos ⟨by decide, e⟩, ← num_be2, be_two, be_two]
        rfl
    · have hh : headB x a b l.length = [] := by unfold headB; rw [if_neg h6, if_neg h17]
      rw [hh, List.nil_append]
      have hx : ¬ 0 < leastV x := by unfold leastV; rw [if_neg h6, if_neg h17]; omega
      refine ⟨?_, fun hor => absurd hor (by omega), fun _ => ⟨?_, ?_, rfl⟩⟩
      · unfold portsE; rw [if_neg h6, if_neg h17]
      · unfold portsA; rw [if_neg (fun h => hx h.1)]
      · unfold portsB; rw [if_neg (fun h => hx h.1)]
theorem u16_of (a : Int) : IntKind.i64.wrap (IntKind.u16.wrap a) = ((u64n a % 65536 : Nat) : Int) := by
  rw [IntKind.wrap_u16, IntKind.wrap_i64]
  unfold u64n
  omega

set_option maxHeartbeats 2000000 in
set_option maxRecDepth 100000 in
theorem portsBack_walk (x a b : Int) (l : List UInt8) (w : World) :
    Calls Try.prog 8 #[.int .i64 x, .agg #[.int .i64 a, .int .i64 b], .string (S l)] w fun e w' => e = .returned (.bool true) ∧ Below w.heap.size w w' := by
  have hz := S_size l
  have LV := Lib.hid (fun w => lives13 w)
  have T0 := Lib.hid ((Touch.refl [] w).alloc (.cells #[.int .i64 a, .int .i64 b] 29))
  have X0 := Lib.hid (Box2.new w 29 (.int .i64 a) (.int .i64 b))
  by_cases h : (200 < l.length ∧ l.length ≤ 65515) ∨ 70000 < l.length
  · by_cases g1 : (200 : Int) < (l.length : Int)
    · by_cases g2 : (l.length : Int) ≤ 65515
      · go_enter Try.func8, Try.ntmps8
        go_wp2_with fail
        refine (LV.out _).mono ?_
        rintro e w1 ⟨rfl, t1⟩
        go_wp2_with fail
        go_ret
        exact ⟨rfl, (T0.out.trans t1 (by simp)).below (by simp) (Nat.le_refl _)⟩
      · have g3 : (70000 : Int) < (l.length : Int) := by omega
        go_enter Try.func8, Try.ntmps8
        go_wp2_with fail
        refine (LV.out _).mono ?_
        rintro e w1 ⟨rfl, t1⟩
        go_wp2_with fail
        go_ret
        exact ⟨rfl, (T0.out.trans t1 (by simp)).below (by simp) (Nat.le_refl _)⟩
    · exfalso; omega
  · have M1 := Lib.hid (fun w => portsMake x a b l (by omega) w)
    have M2 := Lib.hid (fun w => refMake13 x a b l (by omega) w)
    have g3 : ¬ ((70000 : Int) < (l.length : Int)) := by omega
    have e1 : ((S (makeB x a b l)).toList != (S (makeB x a b l)).toList) = false := by simp
    by_cases g1 : (200 : Int) < (l.length : Int)
    · have g2 : ¬ ((l.length : Int) ≤ 65515) := by omega
      have g4 : (65515 : Int) < (l.length : Int) := by omega
      have hm : makeB x a b l = [] := by unfold makeB; rw [if_pos (by omega)]
      rw [hm] at M1 M2 e1
      rw [show S [] = (⟨#[]⟩ : ByteArray) from rfl] at M1 M2 e1
      go_enter Try.func8, Try.ntmps8
      go_wp2_with fail
      refine (M1.out _).mono ?_
      rintro e w1 ⟨rfl, t1⟩
      have X1 := X0.out.carry t1 (by simp)
      have c0 := X1.c0
      have c1 := X1.c1
      have lt1 := X1.lt
      have T1 := Lib.hid (T0.out.trans t1 (by simp))
      clear X1 t1
      go_wp2_with fail
      refine (M2.out _).mono ?_
      rintro e w2 ⟨rfl, t2⟩
      go_wp2_with fail
      refine (LV.out _).mono ?_
      rintro e w3 ⟨rfl, t3⟩
      go_wp2_with fail
      go_ret
      exact ⟨rfl, ((T1.out.trans t2 (by simp)).trans t3 (by simp)).below (by simp) (Nat.le_refl _)⟩
    · have g4 : ¬ ((65515 : Int) < (l.length : Int)) := by omega
      obtain ⟨hE, hP, hN⟩ := back_of x a b l (by omega)
      have O := Lib.hid (fun w => portsOf x (makeB x a b l) (by unfold makeB; rw [if_neg (by omega), List.length_append]; have := headB_length x a b l.length; omega) w)
      rw [hE] at O
      have ua := u16_of a
      have ub := u16_of b
      by_cases h6 : x = 6
      · subst h6
        obtain ⟨p1, p2⟩ := hP (Or.inl rfl)
        rw [p1, p2] at O
        clear hP hN p1 p2 hE
        generalize makeB 6 a b l = B at *
        generalize u64n a % 65536 = ua' at *
        generalize u64n b % 65536 = ub' at *
        go_enter Try.func8, Try.ntmps8
        go_wp2_with fail
        refine (M1.out _).mono ?_
        rintro e w1 ⟨rfl, t1⟩
        have X1 := X0.out.carry t1 (by simp)
        have c0 := X1.c0
        have c1 := X1.c1
        have lt1 := X1.lt
        have HX1 := Lib.hid X1
        have T1 := Lib.hid (T0.out.trans t1 (by simp))
        clear X1 t1
        go_wp2_with fail
        refine (M2.out _).mono ?_
        rintro e w2 ⟨rfl, t2⟩
        have HX2 := Lib.hid (HX1.out.carry t2 (by simp))
        have T2 := Lib.hid (T1.out.trans t2 (by simp))
        clear HX1 t2 T1 c0 c1 lt1
        go_wp2_with fail
        refine (O.out _).mono ?_
        rintro e w3 ⟨rfl, t3⟩
        have X3 := HX2.out.carry t3 (by simp)
        have c0 := X3.c0
        have c1 := X3.c1
        have lt3 := X3.lt
        have T3 := Lib.hid (T2.out.trans t3 (by simp))
        clear X3 t3 T2 HX2
        go_wp2_with fail
        refine (LV.out _).mono ?_
        rintro e w4 ⟨rfl, t4⟩
        go_wp2_with fail
        go_ret
        exact ⟨rfl, (T3.out.trans t4 (by simp)).below (by simp) (Nat.le_refl _)⟩
      · have b6 : (x == 6) = false := by simpa using h6
        by_cases h17 : x = 17
        · subst h17
          obtain ⟨p1, p2⟩ := hP (Or.inr rfl)
          rw [p1, p2] at O
          clear hP hN p1 p2 hE
          generalize makeB 17 a b l = B at *
          generalize u64n a % 65536 = ua' at *
          generalize u64n b % 65536 = ub' at *
          go_enter Try.func8, Try.ntmps8
          go_wp2_with fail
          refine (M1.out _).mono ?_
          rintro e w1 ⟨rfl, t1⟩
          have X1 := X0.out.carry t1 (by simp)
          have c0 := X1.c0
          have c1 := X1.c1
          have lt1 := X1.lt
          have HX1 := Lib.hid X1
          have T1 := Lib.hid (T0.out.trans t1 (by simp))
          clear X1 t1
          go_wp2_with fail
          refine (M2.out _).mono ?_
          rintro e w2 ⟨rfl, t2⟩
          have HX2 := Lib.hid (HX1.out.carry t2 (by simp))
          have T2 := Lib.hid (T1.out.trans t2 (by simp))
          clear HX1 t2 T1 c0 c1 lt1
          go_wp2_with fail
          refine (O.out _).mono ?_
          rintro e w3 ⟨rfl, t3⟩
          have X3 := HX2.out.carry t3 (by simp)
          have c0 := X3.c0
          have c1 := X3.c1
          have lt3 := X3.lt
          have T3 := Lib.hid (T2.out.trans t3 (by simp))
          clear X3 t3 T2 HX2
          go_wp2_with fail
          refine (LV.out _).mono ?_
          rintro e w4 ⟨rfl, t4⟩
          go_wp2_with fail
          go_ret
          exact ⟨rfl, (T3.out.trans t4 (by simp)).below (by simp) (Nat.le_refl _)⟩
        · have b17 : (x == 17) = false := by simpa using h17
          obtain ⟨p1, p2, p3⟩ := hN (by omega)
          have n6 : (x != 6) = true := by simpa using h6
          have n17 : (x != 17) = true := by simpa using h17
          rw [p1, p2] at O
          rw [p3] at O M1 M2 e1
          have e2 : ((S l).toList == (S l).toList) = true := by simp
          clear hP hN p1 p2 hE p3
          go_enter Try.func8, Try.ntmps8
          go_wp2_with fail
          refine (M1.out _).mono ?_
          rintro e w1 ⟨rfl, t1⟩
          have X1 := X0.out.carry t1 (by simp)
          have c0 := X1.c0
          have c1 := X1.c1
          have lt1 := X1.lt
          have T1 := Lib.hid (T0.out.trans t1 (by simp))
          clear X1 t1
          go_wp2_with fail
          refine (M2.out _).mono ?_
          rintro e w2 ⟨rfl, t2⟩
          have T2 := Lib.hid (T1.out.trans t2 (by simp))
          clear t2 T1 c0 c1 lt1
          go_wp2_with fail
          refine (O.out _).mono ?_
          rintro e w3 ⟨rfl, t3⟩
          have T3 := Lib.hid (T2.out.trans t3 (by simp))
          clear t3 T2
          go_wp2_with fail
          refine (LV.out _).mono ?_
          rintro e w4 ⟨rfl, t4⟩
          go_wp2_with fail
          go_ret
          exact ⟨rfl, (T3.out.trans t4 (by simp)).below (by simp) (Nat.le_refl _)⟩

theorem array2 {cs : Array Value} (h : cs.size = 2) : ∃ a b, cs = #[a, b] := by
  obtain ⟨l⟩ := cs
  match l, h with
  | [a, b], _ => exact ⟨a, b, rfl⟩
set_option maxRecDepth 100000 in
theorem portsBack_calls : LawCalls Try.prog 8 Try.f8 := by
  intro H enc W base args ds p hval hA hlt
  rw [Try.params8] at hA hval
  obtain ⟨v0, vs0, d0, ds0, p0, q0, hargs, rfl, rfl, h0, r0⟩ := trodAll_cons hA
  obtain ⟨v1, vs1, d1, ds1, p1, q1, rfl, rfl, rfl, h1, r1⟩ := trodAll_cons r0
  obtain ⟨v2, vs2, d2, ds2, p2, q2, rfl, rfl, rfl, h2, r2⟩ := trodAll_cons r1
  obtain ⟨rfl, rfl, rfl⟩ := trodAll_nil r2
  obtain rfl : args = #[v0, v1, v2] := by cases args; simp_all
  obtain ⟨x, rfl, rfl, rfl, wx⟩ := open_int Try.underlying3 (hval 0 3 v0 rfl rfl) h0
  obtain ⟨cs, rfl, hsz, hcs⟩ := open_ints_array Try.underlying29 Try.underlying3 (by kernel_rfl) (hval 1 29 v1 rfl rfl) h1
  obtain ⟨a, ha, _⟩ := hcs 0 (by omega)
  obtain ⟨b, hb, _⟩ := hcs 1 (by omega)
  have hC : Try.prog.cellsOf 29 = 2 := by kernel_rfl
  obtain ⟨c0, c1, rfl⟩ := array2 (hsz.trans hC)
  simp at ha hb
  subst ha hb
  obtain ⟨s, rfl, rfl, rfl, hs⟩ := Go.ChangeMaps.open_string Try.underlying9 (hval 2 9 v2 rfl rfl) h2
  obtain ⟨l, rfl⟩ := str_S s
  exact portsBack_walk x a b l W
set_option maxRecDepth 100000 in
theorem portsBack_lifted (os : Os) (started : os.Started) (H : Type) (enc : TypeId × Value → H) :
    ReturnsInHanded {} Try.checked os 8 .any (Rows.portsBackSpec.pre6 enc Try.prog Try.f8 Rows.portsBackRow.domain false) (Rows.portsBackSpec.post enc Try.prog Try.f8 false true false false) := by
  refine returnsInHanded_of_change (C := Try.checked) own started (by kernel_rfl) Try.func8
    (ChangeSpec.witness6 (enc := enc) (C := Try.checked) false ⟨#[], #[.int .i64 0, .agg #[.int .i64 0, .int .i64 0], .string ⟨#[]⟩], []⟩ 8 (by kernel_rfl) (by kernel_rfl) (by kernel_rfl) (by kernel_rfl)) ?_
  intro W base args ds gs before hval hW _ _
  exact law_contract laidOut (by kernel_rfl) rfl rfl boolType (fun ds h => by match ds, h with | [_, _, _], _ => rfl) portsBack_calls W base args ds gs before hval hW

theorem portsBack_holds : Rows.PortsBackSaid :=
  OpenClaim.holds_of_wide 8 Try.f8 rfl rfl rfl rfl rfl rfl rfl ⟨rfl, rfl, rfl, rfl, rfl⟩ rfl rfl rfl rfl rfl (by kernel_rfl) Try.func8 (by kernel_rfl)
    (of_decide_eq_true (by kernel_rfl)) (by unfold Func.isWrapper; first | (rw [if_pos (by decide +kernel)]; kernel_rfl) | (rw [if_neg (by decide +kernel)]; exact ⟨rfl, rfl⟩))
    (fun os started H enc _ => portsBack_lifted os started H enc)
#print axioms portsBack_holds
end Go.Proofs.Ytfeeaokeomcafaa
