/-
  The reference of layer 34 (ledger): Total.
-/
import Derived.Test.YtbppccmkmpgibaaLedger14
namespace Go.Proofs.Ytbppccmkmpgibaa
open Go.ChangeShapes Go.WideShapes Go.ChangeAt Go.RowKit Go.Deep Go.Maps
set_option linter.unusedVariables false
set_option linter.unusedSimpArgs false
theorem statV_F (B : Bk) : statV B = #[.int .i64 (statF B 0), .int .i64 (statF B 1), .int .i64 (statF B 2), .int .i64 (statF B 3), .int .i64 (statF B 4), .int .i64 (statF B 5)] := rfl
section
variable {w w' : World}
set_option maxRecDepth 100000 in
set_option maxHeartbeats 16000000 in
theorem refTotal_any {A : Option Addr} {m c : Nat} {X : Nat → Nt} (hX : NtCells w A m X) (hm : m ≤ 80) (hf : ∀ j, j < m → i64k (X j).i) {L : List Int} (hL : IdsOf (playM X m) L) (hLn : L.length ≤ 100) :
    Calls Try.prog 15 #[.slice A m c] w fun e w' => e = .returned (.agg #[.int .i64 (totF (playM X m) L 0), .int .i64 (totF (playM X m) L 1), .int .i64 (totF (playM X m) L 2), .int .i64 (totF (playM X m) L 3), .int .i64 (totF (playM X m) L 4), .int .i64 (totF (playM X m) L 5)]) ∧ Touch [] w w' := by
  have HX := Lib.hid hX
  have hB : ∀ i, Few (bookOf (playM X m) i) 200000 := fun i => few_mono (few_play X m i) (by omega)
  have T := Lib.hid (((Touch.refl [] w).alloc (.cells #[.int .i64 0, .int .i64 0, .int .i64 0, .int .i64 0, .int .i64 0, .int .i64 0] 27)).alloc (.cells #[.int .i64 0, .int .i64 0, .int .i64 0, .int .i64 0, .int .i64 0, .int .i64 0] 27))
  have I := Lib.hid (refIDs_any (c := c) (hX.new T.out) hm hf hL hLn)
  have R := Lib.hid (show BoxV ((w.alloc (.cells #[.int .i64 0, .int .i64 0, .int .i64 0, .int .i64 0, .int .i64 0, .int .i64 0] 27)).alloc (.cells #[.int .i64 0, .int .i64 0, .int .i64 0, .int .i64 0, .int .i64 0, .int .i64 0] 27)) w.heap.size 27 #[.int .i64 0, .int .i64 0, .int .i64 0, .int .i64 0, .int .i64 0, .int .i64 0] from (BoxV.new w 27 #[.int .i64 0, .int .i64 0, .int .i64 0, .int .i64 0, .int .i64 0, .int .i64 0]).carry ((Touch.refl [] _).alloc _) (by simp))
  have hr := BoxV.new (w.alloc (.cells #[.int .i64 0, .int .i64 0, .int .i64 0, .int .i64 0, .int .i64 0, .int .i64 0] 27)) 27 #[.int .i64 0, .int .i64 0, .int .i64 0, .int .i64 0, .int .i64 0, .int .i64 0]
  rw [show (w.alloc (.cells #[.int .i64 0, .int .i64 0, .int .i64 0, .int .i64 0, .int .i64 0, .int .i64 0] 27)).heap.size = w.heap.size + 1 by simp] at hr
  have Q := Lib.hid hr
  have HB := Lib.hid hB
  have e0 : w.heap.size + 1 < ((w.alloc (.cells #[.int .i64 0, .int .i64 0, .int .i64 0, .int .i64 0, .int .i64 0, .int .i64 0] 27)).alloc (.cells #[.int .i64 0, .int .i64 0, .int .i64 0, .int .i64 0, .int .i64 0, .int .i64 0] 27)).heap.size := by simp
  clear hr hX hB hL
  go_enter Try.func15, Try.ntmps15
  go_wp2_with fail
  generalize (w.alloc (.cells #[.int .i64 0, .int .i64 0, .int .i64 0, .int .i64 0, .int .i64 0, .int .i64 0] 27)).alloc (.cells #[.int .i64 0, .int .i64 0, .int .i64 0, .int .i64 0, .int .i64 0, .int .i64 0] 27) = w0 at *
  refine (I.out).mono ?_
  rintro e w1 ⟨A', c', rfl, hrow, t1⟩
  have RW := Lib.hid hrow
  have R1 := Lib.hid (R.out.carry t1 (by simp))
  have Q1 := Lib.hid (Q.out.carry t1 (by simp))
  have TT := Lib.hid (T.out.trans t1 (by simp))
  have lw := T.out.size
  clear hrow t1 I R Q T
  generalize eg : w.heap.size = g at *
  have lg := Nat.le_of_eq eg
  obtain ⟨q, eq⟩ : ∃ q, g + 1 = q := ⟨_, rfl⟩
  rw [eq] at Q1 ⊢
  have EQ := Lib.hid eq
  have e0' : q < w0.heap.size := by omega
  clear eq
  go_wp2_with fail
  go_loopw [5] (fun v wr => ∃ k : Nat, k ≤ L.length ∧ v = .int .i64 (k : Int) ∧ BoxV wr q 27 #[.int .i64 (totF (playM X m) (L.take k) 0), .int .i64 (totF (playM X m) (L.take k) 1), .int .i64 (totF (playM X m) (L.take k) 2), .int .i64 (totF (playM X m) (L.take k) 3), .int .i64 (totF (playM X m) (L.take k) 4), .int .i64 (totF (playM X m) (L.take k) 5)] ∧ Touch [q] w1 wr)
    (fun v _ => L.length - (intOf v).toNat)
  case atStart => exact ⟨0, by omega, rfl, Q1.out, Touch.refl _ _⟩
  case round =>
    obtain ⟨k, hk, rfl, hq, ht⟩ := hrel
    have TR := Lib.hid ht
    have HQ := Lib.hid hq
    clear hq ht Q1
    by_cases hlt : k < L.length
    · obtain ⟨x, hx⟩ : ∃ x, L[k]? = some x := ⟨_, List.getElem?_eq_getElem hlt⟩
      have hrw := TR.out.row RW.out (fun g' hg' hm => by have := rowBase RW.out hg'; simp at hm; omega)
      obtain ⟨gA, rfl, hbA, hlA, cA⟩ := row_cell hrw hx
      have tk : ∀ i, totF (playM X m) (L.take (k + 1)) i = totF (playM X m) (L.take k) i + statF (bookOf (playM X m) x) i := fun i => by rw [List.take_add_one, hx]; exact totF_append _ _ x i
      have hb : ∀ i, 0 ≤ totF (playM X m) (L.take k) i ∧ totF (playM X m) (L.take k) i ≤ 200000000 := fun i => by have := totF_few HB.out i (L.take k); have := List.length_take_le k L; omega
      have hs : ∀ i, 0 ≤ statF (bookOf (playM X m) x) i ∧ statF (bookOf (playM X m) x) i ≤ 1200000 := fun i => statF_few (HB.out x) i
      have OF := Lib.hid (show Calls Try.prog 8 #[.slice A m c, .int .i64 x] wr fun e w' => e = .returned (.agg (statV (bookOf (playM X m) x))) ∧ Touch [] wr w' from refOf_any (HX.out.new (TT.out.trans TR.out (fun b hb => .inr (by have := EQ.out; simp at hb; omega)))) hm x)
      rw [statV_F] at OF
      have HTK := Lib.hid tk
      clear tk hx
      generalize totF (playM X m) (L.take k) = S at *
      generalize statF (bookOf (playM X m) x) = C at *
      have bS0 := hb 0
      have bC0 := hs 0
      have bS1 := hb 1
      have bC1 := hs 1
      have bS2 := hb 2
      have bC2 := hs 2
      have bS3 := hb 3
      have bC3 := hs 3
      have bS4 := hb 4
      have bC4 := hs 4
      have bS5 := hb 5
      have bC5 := hs 5
      have hlt' : (k : Int) < (L.length : Int) := by omega
      clear hrw hb hs
      go_wp2_with fail
      refine (OF.out).mono ?_
      rintro e w2 ⟨rfl, t2⟩
      have T2 := Lib.hid (TR.out.trans t2 (by simp))
      have Q2 := Lib.hid (HQ.out.carry t2 (by simp))
      clear t2 cA OF TR HQ
      have Q3 := Lib.hid (Q2.out.carry ((Touch.refl [] w2).alloc (.cells #[.int .i64 (C 0), .int .i64 (C 1), .int .i64 (C 2), .int .i64 (C 3), .int .i64 (C 4), .int .i64 (C 5)] 27)) (by simp))
      have S3 := Lib.hid (BoxV.new w2 27 #[.int .i64 (C 0), .int .i64 (C 1), .int .i64 (C 2), .int .i64 (C 3), .int .i64 (C 4), .int .i64 (C 5)])
      have T3 := Lib.hid (T2.out.alloc (.cells #[.int .i64 (C 0), .int .i64 (C 1), .int .i64 (C 2), .int .i64 (C 3), .int .i64 (C 4), .int .i64 (C 5)] 27))
      have ls := T2.out.size
      have q0 := Q3.out.cell 0
      have s0 := S3.out.cell 0
      have q1 := Q3.out.cell 1
      have s1 := S3.out.cell 1
      have q2 := Q3.out.cell 2
      have s2 := S3.out.cell 2
      have q3 := Q3.out.cell 3
      have s3 := S3.out.cell 3
      have q4 := Q3.out.cell 4
      have s4 := S3.out.cell 4
      have q5 := Q3.out.cell 5
      have s5 := S3.out.cell 5
      have lS := S3.out.lt
      simp only [List.getElem?_toArray, List.getElem?_cons_zero, List.getElem?_cons_succ] at q0 s0 q1 s1 q2 s2 q3 s3 q4 s4 q5 s5
      have fr := Q3.out.fr
      have lr := Q3.out.lt
      have Z := Lib.hid ((((((Q3.out.set 0 (.int .i64 (S 0 + C 0))).set 1 (.int .i64 (S 1 + C 1))).set 2 (.int .i64 (S 2 + C 2))).set 3 (.int .i64 (S 3 + C 3))).set 4 (.int .i64 (S 4 + C 4))).set 5 (.int .i64 (S 5 + C 5)))
      go_upto_region 7 with fail
      clear Q2 T2
      generalize w2.alloc (.cells #[.int .i64 (C 0), .int .i64 (C 1), .int .i64 (C 2), .int .i64 (C 3), .int .i64 (C 4), .int .i64 (C 5)] 27) = w3 at *
      generalize w2.heap.size = sb at *
      go_wp2_with fail
      go_roundw
      case rel =>
        refine ⟨k + 1, by omega, by go_num, ?_, ?_⟩
        · simp only [HTK.out]
          exact Z.out
        · exact (((((T3.out.setCell (.inl (by simp)) _).setCell (.inl (by simp)) _).setCell (.inl (by simp)) _).setCell (.inl (by simp)) _).setCell (.inl (by simp)) _).setCell (.inl (by simp)) _
      case measure => simp [intOf]; omega
    · obtain rfl : k = L.length := by omega
      rw [List.take_length] at HQ
      have hq := HQ.out
      have R3 := Lib.hid (R1.out.carry TR.out (by have := EQ.out; simp; omega))
      have q0 := hq.cell 0
      have q1 := hq.cell 1
      have q2 := hq.cell 2
      have q3 := hq.cell 3
      have q4 := hq.cell 4
      have q5 := hq.cell 5
      have lq := hq.lt
      have r0 := R3.out.cell 0
      have r1 := R3.out.cell 1
      have r2 := R3.out.cell 2
      have r3 := R3.out.cell 3
      have r4 := R3.out.cell 4
      have r5 := R3.out.cell 5
      have fr := R3.out.fr
      have lr := R3.out.lt
      generalize eS : totF (playM X m) L = S at *
      simp only [List.getElem?_toArray, List.getElem?_cons_zero, List.getElem?_cons_succ] at r0 r1 r2 r3 r4 r5 q0 q1 q2 q3 q4 q5
      have Z := Lib.hid ((((((R3.out.set 0 (.int .i64 (S 0))).set 1 (.int .i64 (S 1))).set 2 (.int .i64 (S 2))).set 3 (.int .i64 (S 3))).set 4 (.int .i64 (S 4))).set 5 (.int .i64 (S 5)))
      have ES := Lib.hid eS
      have TW := Lib.hid (TT.out.trans TR.out (fun b hb => .inr (by have := EQ.out; simp at hb; omega)))
      have hlt' : ¬ (L.length : Int) < (L.length : Int) := by omega
      clear hq eS hlt hk
      go_wp2_with fail
      refine bodyPost_ret (ret_box rfl rfl (show BoxV _ _ 27 #[.int .i64 (S 0), .int .i64 (S 1), .int .i64 (S 2), .int .i64 (S 3), .int .i64 (S 4), .int .i64 (S 5)] from Z.out) Try.underlying27 rfl (by kernel_rfl)) rfl ⟨?_, ?_⟩
      · rw [ES.out]
      · exact (((((TW.out.setCell (.inr lg) _).setCell (.inr lg) _).setCell (.inr lg) _).setCell (.inr lg) _).setCell (.inr lg) _).setCell (.inr lg) _
end
end Go.Proofs.Ytbppccmkmpgibaa
