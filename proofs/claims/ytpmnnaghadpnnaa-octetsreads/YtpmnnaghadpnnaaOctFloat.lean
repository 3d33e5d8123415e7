/-
  OctetsReads' steps: the reference's Float and Bool.
-/
import Derived.Test.YtpmnnaghadpnnaaOctStep
import Derived.Test.YtpmnnaghadpnnaaRefVar
namespace Go.Proofs.Ytpmnnaghadpnnaa
open Go.ChangeShapes Go.WideShapes Go.ChangeAt Go.RowKit Go.Deep
set_option linter.unusedVariables false
set_option linter.unusedSimpArgs false
/-- What the reference's reader does. -/
def DidS (w : World) (r : Made) (e : Ending) (w' : World) : Prop :=
  match r with
  | .ok (t, m) => e = .returned (.tuple #[rv m 0, t.val]) ∧ Touch [] w w'
  | .error k => ∃ m t, e = .returned (.tuple #[rv m k, Tld.val t]) ∧ Touch [] w w'
theorem DidS.er {w w' : World} {k : Int} {e : Ending} (m : List UInt8) (t : Tld) (h : e = .returned (.tuple #[rv m k, Tld.val t])) (ht : Touch [] w w') : DidS w (.error k) e w' := ⟨m, t, h, ht⟩
theorem DidS.ok {w w' : World} {m : List UInt8} {t : Tld} {e : Ending} (h : e = .returned (.tuple #[rv m 0, Tld.val t])) (ht : Touch [] w w') : DidS w (.ok (t, m)) e w' := ⟨h, ht⟩
section
variable {w : World} {l : List UInt8}
set_option maxHeartbeats 1600000 in
set_option maxRecDepth 100000 in
theorem refFloat_short (hl : l.length ≤ 1000000000) (h8 : l.length < 8) (w : World) : Calls Try.prog 26 #[rv l 0] w fun e w' => e = .returned (.tuple #[rv (l) 5, .float .f64 0]) ∧ Touch [] w w' := by
  have t0 : Touch [] w ((w.alloc (.cells #[.string (S l), .int .i64 0] 38)).alloc (.cells #[.string ⟨#[]⟩, .int .i64 0] 38)) := ((Touch.refl [] w).alloc _).alloc _
  have s1 : (w.alloc (.cells #[.string (S l), .int .i64 0] 38)).heap.size = w.heap.size + 1 := by simp
  have HR := Lib.hid (show BoxV ((w.alloc (.cells #[.string (S l), .int .i64 0] 38)).alloc (.cells #[.string ⟨#[]⟩, .int .i64 0] 38)) (w.heap.size + 1) 38 #[.string ⟨#[]⟩, .int .i64 0] from by
    have := BoxV.new (w.alloc (.cells #[.string (S l), .int .i64 0] 38)) 38 #[.string ⟨#[]⟩, .int .i64 0]
    rwa [s1] at this)
  have T0 := Lib.hid t0
  clear t0 s1
  have U := Lib.hid (fun w => refNum_short l 8 (by omega) w)
  unfold rv at *
  rw [show ((8 : Nat) : Int) = 8 from rfl] at U
  have hf := fun w => float_of_bits 0 w
  rw [show (0 : Int).toNat = 0 from rfl] at hf
  have ho := order_self 0 (by unfold isN; decide)
  go_enter Try.func26, Try.ntmps26
  go_wp2_with fail
  refine (U.out _).mono ?_
  rintro e w1 ⟨rfl, t1⟩
  have a2 : Touch [] w1 (w1.alloc (.cells #[.string (S (l)), .int .i64 (5)] 38)) := (Touch.refl [] w1).alloc _
  have HR1 := Lib.hid ((HR.out.carry t1 (by simp)).carry a2 (by simp))
  have HY1 := Lib.hid (BoxV.new w1 38 #[.string (S (l)), .int .i64 (5)])
  have T1 := Lib.hid ((T0.out.trans t1 (by simp)).trans a2 (by simp))
  clear t1 a2 HR T0 U
  go_upto_region 2 with fail
  generalize w1.alloc (.cells #[.string (S (l)), .int .i64 (5)] 38) = W at *
  generalize w1.heap.size = b8 at *
  have y0 := HY1.out.cell 0
  have y1 := HY1.out.cell 1
  have ly := HY1.out.lt
  simp only [List.getElem?_toArray, List.getElem?_cons_zero, List.getElem?_cons_succ] at y0 y1
  have r0 := HR1.out.cell 0
  have r1 := HR1.out.cell 1
  have lr := HR1.out.lt
  have fr := HR1.out.fr
  simp only [List.getElem?_toArray, List.getElem?_cons_zero, List.getElem?_cons_succ] at r0 r1
  have ts : Touch [w.heap.size + 1] W ((W.setCell ⟨w.heap.size + 1, 0, none⟩ (.string (S (l)))).setCell ⟨w.heap.size + 1, 1, none⟩ (.int .i64 (5))) := ((Touch.refl _ W).setCell (a := ⟨w.heap.size + 1, 0, none⟩) (.inl (by simp)) _).setCell (a := ⟨w.heap.size + 1, 1, none⟩) (.inl (by simp)) _
  have G6 := Lib.hid ((HR1.out.set 0 (.string (S (l)))).set 1 (.int .i64 (5)))
  have TT := Lib.hid (T1.out.trans ts (fun b hb => .inr (by simp at hb; omega)))
  clear ts
  go_wp2_with fail
  have d0 := G6.out.cell 0
  have d1 := G6.out.cell 1
  simp only [List.setIfInBounds_toArray, List.set_cons_succ, List.set_cons_zero, List.getElem?_toArray, List.getElem?_cons_zero, List.getElem?_cons_succ] at d0 d1
  refine bodyPost_ret (v := .tuple #[.agg #[.string (S (l)), .int .i64 (5)], .float .f64 0]) (by simp [results, Try.results26, go_sem, d0, d1]) rfl ?_
  exact ⟨rfl, TT.out⟩
set_option maxHeartbeats 1600000 in
set_option maxRecDepth 100000 in
theorem refFloat_num (hl : l.length ≤ 1000000000) (h8 : 8 ≤ l.length) (hn : ¬ isN (num (l.take 8))) (w : World) : Calls Try.prog 26 #[rv l 0] w fun e w' => e = .returned (.tuple #[rv (l.drop 8) 0, .float .f64 (num (l.take 8))]) ∧ Touch [] w w' := by
  have t0 : Touch [] w ((w.alloc (.cells #[.string (S l), .int .i64 0] 38)).alloc (.cells #[.string ⟨#[]⟩, .int .i64 0] 38)) := ((Touch.refl [] w).alloc _).alloc _
  have s1 : (w.alloc (.cells #[.string (S l), .int .i64 0] 38)).heap.size = w.heap.size + 1 := by simp
  have HR := Lib.hid (show BoxV ((w.alloc (.cells #[.string (S l), .int .i64 0] 38)).alloc (.cells #[.string ⟨#[]⟩, .int .i64 0] 38)) (w.heap.size + 1) 38 #[.string ⟨#[]⟩, .int .i64 0] from by
    have := BoxV.new (w.alloc (.cells #[.string (S l), .int .i64 0] 38)) 38 #[.string ⟨#[]⟩, .int .i64 0]
    rwa [s1] at this)
  have T0 := Lib.hid t0
  clear t0 s1
  have U := Lib.hid (fun w => refNum_ok l 8 h8 (by omega) hl w)
  unfold rv at *
  rw [show ((8 : Nat) : Int) = 8 from rfl] at U
  have hf := fun w => float_of_bits ((num (l.take 8) : Nat) : Int) w
  rw [show (((num (l.take 8) : Nat) : Int)).toNat = num (l.take 8) by omega] at hf
  have ho := order_self _ hn
  clear hn
  generalize num (l.take 8) = N at *
  generalize l.drop 8 = m at *
  go_enter Try.func26, Try.ntmps26
  go_wp2_with fail
  refine (U.out _).mono ?_
  rintro e w1 ⟨rfl, t1⟩
  have a2 : Touch [] w1 (w1.alloc (.cells #[.string (S (m)), .int .i64 (0)] 38)) := (Touch.refl [] w1).alloc _
  have HR1 := Lib.hid ((HR.out.carry t1 (by simp)).carry a2 (by simp))
  have HY1 := Lib.hid (BoxV.new w1 38 #[.string (S (m)), .int .i64 (0)])
  have T1 := Lib.hid ((T0.out.trans t1 (by simp)).trans a2 (by simp))
  clear t1 a2 HR T0 U
  go_upto_region 2 with fail
  generalize w1.alloc (.cells #[.string (S (m)), .int .i64 (0)] 38) = W at *
  generalize w1.heap.size = b8 at *
  have y0 := HY1.out.cell 0
  have y1 := HY1.out.cell 1
  have ly := HY1.out.lt
  simp only [List.getElem?_toArray, List.getElem?_cons_zero, List.getElem?_cons_succ] at y0 y1
  have r0 := HR1.out.cell 0
  have r1 := HR1.out.cell 1
  have lr := HR1.out.lt
  have fr := HR1.out.fr
  simp only [List.getElem?_toArray, List.getElem?_cons_zero, List.getElem?_cons_succ] at r0 r1
  have ts : Touch [w.heap.size + 1] W ((W.setCell ⟨w.heap.size + 1, 0, none⟩ (.string (S (m)))).setCell ⟨w.heap.size + 1, 1, none⟩ (.int .i64 (0))) := ((Touch.refl _ W).setCell (a := ⟨w.heap.size + 1, 0, none⟩) (.inl (by simp)) _).setCell (a := ⟨w.heap.size + 1, 1, none⟩) (.inl (by simp)) _
  have G6 := Lib.hid ((HR1.out.set 0 (.string (S (m)))).set 1 (.int .i64 (0)))
  have TT := Lib.hid (T1.out.trans ts (fun b hb => .inr (by simp at hb; omega)))
  clear ts
  go_wp2_with fail
  have d0 := G6.out.cell 0
  have d1 := G6.out.cell 1
  simp only [List.setIfInBounds_toArray, List.set_cons_succ, List.set_cons_zero, List.getElem?_toArray, List.getElem?_cons_zero, List.getElem?_cons_succ] at d0 d1
  refine bodyPost_ret (v := .tuple #[.agg #[.string (S (m)), .int .i64 (0)], .float .f64 N]) (by simp [results, Try.results26, go_sem, d0, d1]) rfl ?_
  exact ⟨rfl, TT.out⟩
set_option maxHeartbeats 1600000 in
set_option maxRecDepth 100000 in
theorem refFloat_nan (hl : l.length ≤ 1000000000) (h8 : 8 ≤ l.length) (hn : isN (num (l.take 8))) (hq : num (l.take 8) = 9221120237041090560) (w : World) : Calls Try.prog 26 #[rv l 0] w fun e w' => e = .returned (.tuple #[rv (l.drop 8) 0, .float .f64 (num (l.take 8))]) ∧ Touch [] w w' := by
  have t0 : Touch [] w ((w.alloc (.cells #[.string (S l), .int .i64 0] 38)).alloc (.cells #[.string ⟨#[]⟩, .int .i64 0] 38)) := ((Touch.refl [] w).alloc _).alloc _
  have s1 : (w.alloc (.cells #[.string (S l), .int .i64 0] 38)).heap.size = w.heap.size + 1 := by simp
  have HR := Lib.hid (show BoxV ((w.alloc (.cells #[.string (S l), .int .i64 0] 38)).alloc (.cells #[.string ⟨#[]⟩, .int .i64 0] 38)) (w.heap.size + 1) 38 #[.string ⟨#[]⟩, .int .i64 0] from by
    have := BoxV.new (w.alloc (.cells #[.string (S l), .int .i64 0] 38)) 38 #[.string ⟨#[]⟩, .int .i64 0]
    rwa [s1] at this)
  have T0 := Lib.hid t0
  clear t0 s1
  have U := Lib.hid (fun w => refNum_ok l 8 h8 (by omega) hl w)
  unfold rv at *
  rw [show ((8 : Nat) : Int) = 8 from rfl] at U
  have hf := fun w => float_of_bits ((num (l.take 8) : Nat) : Int) w
  rw [show (((num (l.take 8) : Nat) : Int)).toNat = num (l.take 8) by omega] at hf
  have ho := order_self_nan _ hn
  clear hn
  generalize num (l.take 8) = N at *
  have bq : ((N : Int) != 9221120237041090560) = false := by rw [hq]; rfl
  clear hq
  generalize l.drop 8 = m at *
  go_enter Try.func26, Try.ntmps26
  go_wp2_with fail
  refine (U.out _).mono ?_
  rintro e w1 ⟨rfl, t1⟩
  have a2 : Touch [] w1 (w1.alloc (.cells #[.string (S (m)), .int .i64 (0)] 38)) := (Touch.refl [] w1).alloc _
  have HR1 := Lib.hid ((HR.out.carry t1 (by simp)).carry a2 (by simp))
  have HY1 := Lib.hid (BoxV.new w1 38 #[.string (S (m)), .int .i64 (0)])
  have T1 := Lib.hid ((T0.out.trans t1 (by simp)).trans a2 (by simp))
  clear t1 a2 HR T0 U
  go_upto_region 2 with fail
  generalize w1.alloc (.cells #[.string (S (m)), .int .i64 (0)] 38) = W at *
  generalize w1.heap.size = b8 at *
  have y0 := HY1.out.cell 0
  have y1 := HY1.out.cell 1
  have ly := HY1.out.lt
  simp only [List.getElem?_toArray, List.getElem?_cons_zero, List.getElem?_cons_succ] at y0 y1
  have r0 := HR1.out.cell 0
  have r1 := HR1.out.cell 1
  have lr := HR1.out.lt
  have fr := HR1.out.fr
  simp only [List.getElem?_toArray, List.getElem?_cons_zero, List.getElem?_cons_succ] at r0 r1
  have ts : Touch [w.heap.size + 1] W ((W.setCell ⟨w.heap.size + 1, 0, none⟩ (.string (S (m)))).setCell ⟨w.heap.size + 1, 1, none⟩ (.int .i64 (0))) := ((Touch.refl _ W).setCell (a := ⟨w.heap.size + 1, 0, none⟩) (.inl (by simp)) _).setCell (a := ⟨w.heap.size + 1, 1, none⟩) (.inl (by simp)) _
  have G6 := Lib.hid ((HR1.out.set 0 (.string (S (m)))).set 1 (.int .i64 (0)))
  have TT := Lib.hid (T1.out.trans ts (fun b hb => .inr (by simp at hb; omega)))
  clear ts
  go_wp2_with fail
  have d0 := G6.out.cell 0
  have d1 := G6.out.cell 1
  simp only [List.setIfInBounds_toArray, List.set_cons_succ, List.set_cons_zero, List.getElem?_toArray, List.getElem?_cons_zero, List.getElem?_cons_succ] at d0 d1
  refine bodyPost_ret (v := .tuple #[.agg #[.string (S (m)), .int .i64 (0)], .float .f64 N]) (by simp [results, Try.results26, go_sem, d0, d1]) rfl ?_
  exact ⟨rfl, TT.out⟩
set_option maxHeartbeats 1600000 in
set_option maxRecDepth 100000 in
theorem refFloat_bad (hl : l.length ≤ 1000000000) (h8 : 8 ≤ l.length) (hn : isN (num (l.take 8))) (hq : num (l.take 8) ≠ 9221120237041090560) (w : World) : Calls Try.prog 26 #[rv l 0] w fun e w' => e = .returned (.tuple #[rv (l.drop 8) 21, .float .f64 0]) ∧ Touch [] w w' := by
  have t0 : Touch [] w ((w.alloc (.cells #[.string (S l), .int .i64 0] 38)).alloc (.cells #[.string ⟨#[]⟩, .int .i64 0] 38)) := ((Touch.refl [] w).alloc _).alloc _
  have s1 : (w.alloc (.cells #[.string (S l), .int .i64 0] 38)).heap.size = w.heap.size + 1 := by simp
  have HR := Lib.hid (show BoxV ((w.alloc (.cells #[.string (S l), .int .i64 0] 38)).alloc (.cells #[.string ⟨#[]⟩, .int .i64 0] 38)) (w.heap.size + 1) 38 #[.string ⟨#[]⟩, .int .i64 0] from by
    have := BoxV.new (w.alloc (.cells #[.string (S l), .int .i64 0] 38)) 38 #[.string ⟨#[]⟩, .int .i64 0]
    rwa [s1] at this)
  have T0 := Lib.hid t0
  clear t0 s1
  have U := Lib.hid (fun w => refNum_ok l 8 h8 (by omega) hl w)
  unfold rv at *
  rw [show ((8 : Nat) : Int) = 8 from rfl] at U
  have hf := fun w => float_of_bits ((num (l.take 8) : Nat) : Int) w
  rw [show (((num (l.take 8) : Nat) : Int)).toNat = num (l.take 8) by omega] at hf
  have ho := order_self_nan _ hn
  clear hn
  generalize num (l.take 8) = N at *
  have bq : ((N : Int) != 9221120237041090560) = true := by simp; omega
  clear hq
  generalize l.drop 8 = m at *
  go_enter Try.func26, Try.ntmps26
  go_wp2_with fail
  refine (U.out _).mono ?_
  rintro e w1 ⟨rfl, t1⟩
  have a2 : Touch [] w1 (w1.alloc (.cells #[.string (S (m)), .int .i64 (0)] 38)) := (Touch.refl [] w1).alloc _
  have HR1 := Lib.hid ((HR.out.carry t1 (by simp)).carry a2 (by simp))
  have HY1 := Lib.hid (BoxV.new w1 38 #[.string (S (m)), .int .i64 (0)])
  have T1 := Lib.hid ((T0.out.trans t1 (by simp)).trans a2 (by simp))
  clear t1 a2 HR T0 U
  go_upto_region 2 with fail
  generalize w1.alloc (.cells #[.string (S (m)), .int .i64 (0)] 38) = W at *
  generalize w1.heap.size = b8 at *
  have y0 := HY1.out.cell 0
  have y1 := HY1.out.cell 1
  have ly := HY1.out.lt
  simp only [List.getElem?_toArray, List.getElem?_cons_zero, List.getElem?_cons_succ] at y0 y1
  have r0 := HR1.out.cell 0
  have r1 := HR1.out.cell 1
  have lr := HR1.out.lt
  have fr := HR1.out.fr
  simp only [List.getElem?_toArray, List.getElem?_cons_zero, List.getElem?_cons_succ] at r0 r1
  have ts : Touch [w.heap.size + 1] W ((W.setCell ⟨w.heap.size + 1, 0, none⟩ (.string (S (m)))).setCell ⟨w.heap.size + 1, 1, none⟩ (.int .i64 (21))) := ((Touch.refl _ W).setCell (a := ⟨w.heap.size + 1, 0, none⟩) (.inl (by simp)) _).setCell (a := ⟨w.heap.size + 1, 1, none⟩) (.inl (by simp)) _
  have G6 := Lib.hid ((HR1.out.set 0 (.string (S (m)))).set 1 (.int .i64 (21)))
  have TT := Lib.hid (T1.out.trans ts (fun b hb => .inr (by simp at hb; omega)))
  clear ts
  go_wp2_with fail
  have d0 := G6.out.cell 0
  have d1 := G6.out.cell 1
  simp only [List.setIfInBounds_toArray, List.set_cons_succ, List.set_cons_zero, List.getElem?_toArray, List.getElem?_cons_zero, List.getElem?_cons_succ] at d0 d1
  refine bodyPost_ret (v := .tuple #[.agg #[.string (S (m)), .int .i64 (21)], .float .f64 0]) (by simp [results, Try.results26, go_sem, d0, d1]) rfl ?_
  exact ⟨rfl, TT.out⟩
set_option maxHeartbeats 1600000 in
set_option maxRecDepth 100000 in
theorem refBool_short (hl : l.length ≤ 1000000000) (h1 : l.length < 1) (w : World) : Calls Try.prog 27 #[rv l 0] w fun e w' => e = .returned (.tuple #[rv (l) 5, .bool false]) ∧ Touch [] w w' := by
  have t0 : Touch [] w ((w.alloc (.cells #[.string (S l), .int .i64 0] 38)).alloc (.cells #[.string ⟨#[]⟩, .int .i64 0] 38)) := ((Touch.refl [] w).alloc _).alloc _
  have s1 : (w.alloc (.cells #[.string (S l), .int .i64 0] 38)).heap.size = w.heap.size + 1 := by simp
  have HR := Lib.hid (show BoxV ((w.alloc (.cells #[.string (S l), .int .i64 0] 38)).alloc (.cells #[.string ⟨#[]⟩, .int .i64 0] 38)) (w.heap.size + 1) 38 #[.string ⟨#[]⟩, .int .i64 0] from by
    have := BoxV.new (w.alloc (.cells #[.string (S l), .int .i64 0] 38)) 38 #[.string ⟨#[]⟩, .int .i64 0]
    rwa [s1] at this)
  have T0 := Lib.hid t0
  clear t0 s1
  have U := Lib.hid (fun w => refNum_short l 1 (by omega) w)
  unfold rv at *
  rw [show ((1 : Nat) : Int) = 1 from rfl] at U
  go_enter Try.func27, Try.ntmps27
  go_wp2_with fail
  refine (U.out _).mono ?_
  rintro e w1 ⟨rfl, t1⟩
  have a2 : Touch [] w1 (w1.alloc (.cells #[.string (S (l)), .int .i64 (5)] 38)) := (Touch.refl [] w1).alloc _
  have HR1 := Lib.hid ((HR.out.carry t1 (by simp)).carry a2 (by simp))
  have HY1 := Lib.hid (BoxV.new w1 38 #[.string (S (l)), .int .i64 (5)])
  have T1 := Lib.hid ((T0.out.trans t1 (by simp)).trans a2 (by simp))
  clear t1 a2 HR T0 U
  go_upto_region 2 with fail
  generalize w1.alloc (.cells #[.string (S (l)), .int .i64 (5)] 38) = W at *
  generalize w1.heap.size = b8 at *
  have y0 := HY1.out.cell 0
  have y1 := HY1.out.cell 1
  have ly := HY1.out.lt
  simp only [List.getElem?_toArray, List.getElem?_cons_zero, List.getElem?_cons_succ] at y0 y1
  have r0 := HR1.out.cell 0
  have r1 := HR1.out.cell 1
  have lr := HR1.out.lt
  have fr := HR1.out.fr
  simp only [List.getElem?_toArray, List.getElem?_cons_zero, List.getElem?_cons_succ] at r0 r1
  have ts : Touch [w.heap.size + 1] W ((W.setCell ⟨w.heap.size + 1, 0, none⟩ (.string (S (l)))).setCell ⟨w.heap.size + 1, 1, none⟩ (.int .i64 (5))) := ((Touch.refl _ W).setCell (a := ⟨w.heap.size + 1, 0, none⟩) (.inl (by simp)) _).setCell (a := ⟨w.heap.size + 1, 1, none⟩) (.inl (by simp)) _
  have G6 := Lib.hid ((HR1.out.set 0 (.string (S (l)))).set 1 (.int .i64 (5)))
  have TT := Lib.hid (T1.out.trans ts (fun b hb => .inr (by simp at hb; omega)))
  clear ts
  go_wp2_with fail
  have d0 := G6.out.cell 0
  have d1 := G6.out.cell 1
  simp only [List.setIfInBounds_toArray, List.set_cons_succ, List.set_cons_zero, List.getElem?_toArray, List.getElem?_cons_zero, List.getElem?_cons_succ] at d0 d1
  refine bodyPost_ret (v := .tuple #[.agg #[.string (S (l)), .int .i64 (5)], .bool false]) (by simp [results, Try.results27, go_sem, d0, d1]) rfl ?_
  exact ⟨rfl, TT.out⟩
set_option maxHeartbeats 1600000 in
set_option maxRecDepth 100000 in
theorem refBool_ok (hl : l.length ≤ 1000000000) (h1 : 1 ≤ l.length) (hb : num (l.take 1) ≤ 1) (w : World) : Calls Try.prog 27 #[rv l 0] w fun e w' => e = .returned (.tuple #[rv (l.drop 1) 0, .bool (num (l.take 1) == 1)]) ∧ Touch [] w w' := by
  have t0 : Touch [] w ((w.alloc (.cells #[.string (S l), .int .i64 0] 38)).alloc (.cells #[.string ⟨#[]⟩, .int .i64 0] 38)) := ((Touch.refl [] w).alloc _).alloc _
  have s1 : (w.alloc (.cells #[.string (S l), .int .i64 0] 38)).heap.size = w.heap.size + 1 := by simp
  have HR := Lib.hid (show BoxV ((w.alloc (.cells #[.string (S l), .int .i64 0] 38)).alloc (.cells #[.string ⟨#[]⟩, .int .i64 0] 38)) (w.heap.size + 1) 38 #[.string ⟨#[]⟩, .int .i64 0] from by
    have := BoxV.new (w.alloc (.cells #[.string (S l), .int .i64 0] 38)) 38 #[.string ⟨#[]⟩, .int .i64 0]
    rwa [s1] at this)
  have T0 := Lib.hid t0
  clear t0 s1
  have U := Lib.hid (fun w => refNum_ok l 1 h1 (by omega) hl w)
  unfold rv at *
  rw [show ((1 : Nat) : Int) = 1 from rfl] at U
  generalize num (l.take 1) = N at *
  generalize l.drop 1 = m at *
  have c1 : decide (1 < (N : Int)) = false := by simp; omega
  have c2 : ((N : Int) == 1) = (N == 1) := by rw [Bool.eq_iff_iff, beq_iff_eq, beq_iff_eq]; omega
  go_enter Try.func27, Try.ntmps27
  go_wp2_with fail
  refine (U.out _).mono ?_
  rintro e w1 ⟨rfl, t1⟩
  have a2 : Touch [] w1 (w1.alloc (.cells #[.string (S (m)), .int .i64 (0)] 38)) := (Touch.refl [] w1).alloc _
  have HR1 := Lib.hid ((HR.out.carry t1 (by simp)).carry a2 (by simp))
  have HY1 := Lib.hid (BoxV.new w1 38 #[.string (S (m)), .int .i64 (0)])
  have T1 := Lib.hid ((T0.out.trans t1 (by simp)).trans a2 (by simp))
  clear t1 a2 HR T0 U
  go_upto_region 2 with fail
  generalize w1.alloc (.cells #[.string (S (m)), .int .i64 (0)] 38) = W at *
  generalize w1.heap.size = b8 at *
  have y0 := HY1.out.cell 0
  have y1 := HY1.out.cell 1
  have ly := HY1.out.lt
  simp only [List.getElem?_toArray, List.getElem?_cons_zero, List.getElem?_cons_succ] at y0 y1
  have r0 := HR1.out.cell 0
  have r1 := HR1.out.cell 1
  have lr := HR1.out.lt
  have fr := HR1.out.fr
  simp only [List.getElem?_toArray, List.getElem?_cons_zero, List.getElem?_cons_succ] at r0 r1
  have ts : Touch [w.heap.size + 1] W ((W.setCell ⟨w.heap.size + 1, 0, none⟩ (.string (S (m)))).setCell ⟨w.heap.size + 1, 1, none⟩ (.int .i64 (0))) := ((Touch.refl _ W).setCell (a := ⟨w.heap.size + 1, 0, none⟩) (.inl (by simp)) _).setCell (a := ⟨w.heap.size + 1, 1, none⟩) (.inl (by simp)) _
  have G6 := Lib.hid ((HR1.out.set 0 (.string (S (m)))).set 1 (.int .i64 (0)))
  have TT := Lib.hid (T1.out.trans ts (fun b hb => .inr (by simp at hb; omega)))
  clear ts
  go_wp2_with fail
  have d0 := G6.out.cell 0
  have d1 := G6.out.cell 1
  simp only [List.setIfInBounds_toArray, List.set_cons_succ, List.set_cons_zero, List.getElem?_toArray, List.getElem?_cons_zero, List.getElem?_cons_succ] at d0 d1
  refine bodyPost_ret (v := .tuple #[.agg #[.string (S (m)), .int .i64 (0)], .bool (N == 1)]) (by simp [results, Try.results27, go_sem, d0, d1]) rfl ?_
  exact ⟨rfl, TT.out⟩
set_option maxHeartbeats 1600000 in
set_option maxRecDepth 100000 in
theorem refBool_bad (hl : l.length ≤ 1000000000) (h1 : 1 ≤ l.length) (hb : 1 < num (l.take 1)) (w : World) : Calls Try.prog 27 #[rv l 0] w fun e w' => e = .returned (.tuple #[rv (l.drop 1) 6, .bool false]) ∧ Touch [] w w' := by
  have t0 : Touch [] w ((w.alloc (.cells #[.string (S l), .int .i64 0] 38)).alloc (.cells #[.string ⟨#[]⟩, .int .i64 0] 38)) := ((Touch.refl [] w).alloc _).alloc _
  have s1 : (w.alloc (.cells #[.string (S l), .int .i64 0] 38)).heap.size = w.heap.size + 1 := by simp
  have HR := Lib.hid (show BoxV ((w.alloc (.cells #[.string (S l), .int .i64 0] 38)).alloc (.cells #[.string ⟨#[]⟩, .int .i64 0] 38)) (w.heap.size + 1) 38 #[.string ⟨#[]⟩, .int .i64 0] from by
    have := BoxV.new (w.alloc (.cells #[.string (S l), .int .i64 0] 38)) 38 #[.string ⟨#[]⟩, .int .i64 0]
    rwa [s1] at this)
  have T0 := Lib.hid t0
  clear t0 s1
  have U := Lib.hid (fun w => refNum_ok l 1 h1 (by omega) hl w)
  unfold rv at *
  rw [show ((1 : Nat) : Int) = 1 from rfl] at U
  generalize num (l.take 1) = N at *
  generalize l.drop 1 = m at *
  have c1 : decide (1 < (N : Int)) = true := by simp; omega
  go_enter Try.func27, Try.ntmps27
  go_wp2_with fail
  refine (U.out _).mono ?_
  rintro e w1 ⟨rfl, t1⟩
  have a2 : Touch [] w1 (w1.alloc (.cells #[.string (S (m)), .int .i64 (0)] 38)) := (Touch.refl [] w1).alloc _
  have HR1 := Lib.hid ((HR.out.carry t1 (by simp)).carry a2 (by simp))
  have HY1 := Lib.hid (BoxV.new w1 38 #[.string (S (m)), .int .i64 (0)])
  have T1 := Lib.hid ((T0.out.trans t1 (by simp)).trans a2 (by simp))
  clear t1 a2 HR T0 U
  go_upto_region 2 with fail
  generalize w1.alloc (.cells #[.string (S (m)), .int .i64 (0)] 38) = W at *
  generalize w1.heap.size = b8 at *
  have y0 := HY1.out.cell 0
  have y1 := HY1.out.cell 1
  have ly := HY1.out.lt
  simp only [List.getElem?_toArray, List.getElem?_cons_zero, List.getElem?_cons_succ] at y0 y1
  have r0 := HR1.out.cell 0
  have r1 := HR1.out.cell 1
  have lr := HR1.out.lt
  have fr := HR1.out.fr
  simp only [List.getElem?_toArray, List.getElem?_cons_zero, List.getElem?_cons_succ] at r0 r1
  have ts : Touch [w.heap.size + 1] W ((W.setCell ⟨w.heap.size + 1, 0, none⟩ (.string (S (m)))).setCell ⟨w.heap.size + 1, 1, none⟩ (.int .i64 (6))) := ((Touch.refl _ W).setCell (a := ⟨w.heap.size + 1, 0, none⟩) (.inl (by simp)) _).setCell (a := ⟨w.heap.size + 1, 1, none⟩) (.inl (by simp)) _
  have G6 := Lib.hid ((HR1.out.set 0 (.string (S (m)))).set 1 (.int .i64 (6)))
  have TT := Lib.hid (T1.out.trans ts (fun b hb => .inr (by simp at hb; omega)))
  clear ts
  go_wp2_with fail
  have d0 := G6.out.cell 0
  have d1 := G6.out.cell 1
  simp only [List.setIfInBounds_toArray, List.set_cons_succ, List.set_cons_zero, List.getElem?_toArray, List.getElem?_cons_zero, List.getElem?_cons_succ] at d0 d1
  refine bodyPost_ret (v := .tuple #[.agg #[.string (S (m)), .int .i64 (6)], .bool false]) (by simp [results, Try.results27, go_sem, d0, d1]) rfl ?_
  exact ⟨rfl, TT.out⟩
end
end Go.Proofs.Ytpmnnaghadpnnaa
