/-
  OctetsReads' steps: same, the reference's.
-/
import Derived.Test.YtpmnnaghadpnnaaOctFloat
import Derived.Test.YtpmnnaghadpnnaaLate
namespace Go.Proofs.Ytpmnnaghadpnnaa
open Go.ChangeShapes Go.WideShapes Go.ChangeAt Go.RowKit Go.Deep
set_option linter.unusedVariables false
set_option linter.unusedSimpArgs false
section
variable {w : World} {l : List UInt8}
set_option maxHeartbeats 1600000 in
set_option maxRecDepth 100000 in
theorem same_0 (hl : l.length ≤ 1000000000) (n : Int) (w : World) : Calls Try.prog 9 #[rv l 0, .int .i64 0, .int .i64 n] w (DidS w (numQ 1 l)) := by
  have t0 : Touch [] w (((w.alloc (.cells #[.string (S l), .int .i64 0] 38)).alloc (.cells #[.string ⟨#[]⟩, .int .i64 0] 38)).alloc (.cells #[.int .u64 0, .float .f64 0, .string ⟨#[]⟩, .bool false] 33)) := (((Touch.refl [] w).alloc _).alloc _).alloc _
  have s1 : (w.alloc (.cells #[.string (S l), .int .i64 0] 38)).heap.size = w.heap.size + 1 := by simp
  have s2 : ((w.alloc (.cells #[.string (S l), .int .i64 0] 38)).alloc (.cells #[.string ⟨#[]⟩, .int .i64 0] 38)).heap.size = w.heap.size + 1 + 1 := by simp
  have HP := Lib.hid (show BoxV (((w.alloc (.cells #[.string (S l), .int .i64 0] 38)).alloc (.cells #[.string ⟨#[]⟩, .int .i64 0] 38)).alloc (.cells #[.int .u64 0, .float .f64 0, .string ⟨#[]⟩, .bool false] 33)) w.heap.size 38 #[.string (S l), .int .i64 0] from ((BoxV.new w 38 #[.string (S l), .int .i64 0]).carry ((Touch.refl [] _).alloc (.cells #[.string ⟨#[]⟩, .int .i64 0] 38)) (by simp)).carry ((Touch.refl [] _).alloc (.cells #[.int .u64 0, .float .f64 0, .string ⟨#[]⟩, .bool false] 33)) (by simp))
  have HR := Lib.hid (show BoxV (((w.alloc (.cells #[.string (S l), .int .i64 0] 38)).alloc (.cells #[.string ⟨#[]⟩, .int .i64 0] 38)).alloc (.cells #[.int .u64 0, .float .f64 0, .string ⟨#[]⟩, .bool false] 33)) (w.heap.size + 1) 38 #[.string ⟨#[]⟩, .int .i64 0] from by
    have := (BoxV.new (w.alloc (.cells #[.string (S l), .int .i64 0] 38)) 38 #[.string ⟨#[]⟩, .int .i64 0]).carry ((Touch.refl [] _).alloc (.cells #[.int .u64 0, .float .f64 0, .string ⟨#[]⟩, .bool false] 33)) (by simp)
    rwa [s1] at this)
  have HT := Lib.hid (show BoxV (((w.alloc (.cells #[.string (S l), .int .i64 0] 38)).alloc (.cells #[.string ⟨#[]⟩, .int .i64 0] 38)).alloc (.cells #[.int .u64 0, .float .f64 0, .string ⟨#[]⟩, .bool false] 33)) (w.heap.size + 1 + 1) 33 #[.int .u64 0, .float .f64 0, .string ⟨#[]⟩, .bool false] from by
    have := BoxV.new ((w.alloc (.cells #[.string (S l), .int .i64 0] 38)).alloc (.cells #[.string ⟨#[]⟩, .int .i64 0] 38)) 33 #[.int .u64 0, .float .f64 0, .string ⟨#[]⟩, .bool false]
    rwa [s2] at this)
  have T0 := Lib.hid t0
  unfold rv at *
  clear t0 s1 s2
  by_cases h8 : 1 ≤ l.length
  · rw [show numQ 1 l = .ok (⟨num (l.take 1), 0, [], false⟩, l.drop 1) by unfold numQ; rw [if_pos h8]]
    have U := Lib.hid (fun w => refNum_ok l 1 h8 (by omega) hl w)
    unfold rv at U
    rw [show ((1 : Nat) : Int) = 1 from rfl] at U
    generalize num (l.take 1) = N at *
    generalize l.drop 1 = m at *
    go_enter Try.func9, Try.ntmps9
    go_upto_region 6 with fail
    generalize (((w.alloc (.cells #[.string (S l), .int .i64 0] 38)).alloc (.cells #[.string ⟨#[]⟩, .int .i64 0] 38)).alloc (.cells #[.int .u64 0, .float .f64 0, .string ⟨#[]⟩, .bool false] 33)) = w1 at *
    refine wp_region_late1 (wd := w1) 6 8 7 8 38 #[.string ⟨#[]⟩, .int .i64 0] ?aF (by kernel_rfl) (by kernel_rfl) (by kernel_rfl) (by decide) ((Touch.refl _ _).drew) (fun _ _ _ _ _ h => h) ⟨_, rfl, rfl, fun a w => rfl⟩ ?hwalk ?hend
    case hwalk =>
      intro wd ht
      have k0 : ∀ x : Cls wd, x.val.cell? ⟨w.heap.size, 0, none⟩ = some (.string (S l)) := fun x => ((HP.out.carry ht (by simp)).carry x.property (by simp)).cell 0
      have k1 : ∀ x : Cls wd, x.val.cell? ⟨w.heap.size, 1, none⟩ = some (.int .i64 0) := fun x => ((HP.out.carry ht (by simp)).carry x.property (by simp)).cell 1
      simp only [List.take_succ_cons, List.take_zero]
      repeat (first | go_big_quiet_step ((go_at_call 24; with_reducible exact Calls.cls_at (U.out _))) | quiet_step ((go_at_call 24; with_reducible exact Calls.cls_at (U.out _))))
      refine wpQuiet_nil ?_
      rfl
    case hend =>
    intro b w2 t2 y ly
    have y0 := y.cell 0
    have y1 := y.cell 1
    have ly' := y.lt
    have fy := y.fr
    simp only [List.getElem?_toArray, List.getElem?_cons_zero, List.getElem?_cons_succ] at y0 y1
    have a2 : Touch [b] w2 ((w2.setCell ⟨b, 0, none⟩ (.string (S (m)))).setCell ⟨b, 1, none⟩ (.int .i64 (0))) := ((Touch.refl [b] w2).setCell (a := ⟨b, 0, none⟩) (.inl (by simp)) _).setCell (a := ⟨b, 1, none⟩) (.inl (by simp)) _
    have HR1 := Lib.hid ((HR.out.carry t2 (by simp)).carry a2 (by have := HR.out.lt; simp; omega))
    have HT1 := Lib.hid ((HT.out.carry t2 (by simp)).carry a2 (by have := HT.out.lt; simp; omega))
    have HY0 := Lib.hid ((y.set 0 (.string (S (m)))).set 1 (.int .i64 (0)))
    have T1 := Lib.hid ((T0.out.trans t2 (by simp)).trans a2 (fun b' hb => .inr (by have := T0.out.size; simp at hb; omega)))
    clear t2 a2 HR HT HP T0 y U
    simp only [List.drop_succ_cons, List.drop_zero]
    go_upto_region 7 with fail
    have HY1 := Lib.hid (show BoxV ((w2.setCell ⟨b, 0, none⟩ (.string (S (m)))).setCell ⟨b, 1, none⟩ (.int .i64 (0))) b 38 #[.string (S (m)), .int .i64 (0)] from HY0.out)
    generalize ((w2.setCell ⟨b, 0, none⟩ (.string (S (m)))).setCell ⟨b, 1, none⟩ (.int .i64 (0))) = W at *
    clear HY0 y0 y1 ly' fy ly
    have y0 := HY1.out.cell 0
    have y1 := HY1.out.cell 1
    have ly := HY1.out.lt
    simp only [List.getElem?_toArray, List.getElem?_cons_zero, List.getElem?_cons_succ] at y0 y1
    have r0 := HR1.out.cell 0
    have r1 := HR1.out.cell 1
    have lr := HR1.out.lt
    have fr := HR1.out.fr
    have x0 := HT1.out.cell 0
    have x1 := HT1.out.cell 1
    have x2 := HT1.out.cell 2
    have x3 := HT1.out.cell 3
    have lx := HT1.out.lt
    have fx := HT1.out.fr
    simp only [List.getElem?_toArray, List.getElem?_cons_zero, List.getElem?_cons_succ] at r0 r1 x0 x1 x2 x3
    have ts : Touch [w.heap.size + 1] W ((W.setCell ⟨w.heap.size + 1, 0, none⟩ (.string (S (m)))).setCell ⟨w.heap.size + 1, 1, none⟩ (.int .i64 (0))) := ((Touch.refl _ W).setCell (a := ⟨w.heap.size + 1, 0, none⟩) (.inl (by simp)) _).setCell (a := ⟨w.heap.size + 1, 1, none⟩) (.inl (by simp)) _
    have ht2 := HT1.out.carry ts (by simp)
    have hs0 := ht2.set 0 (.int .u64 (N : Int))
    have z1 := hs0.cell 1
    have q1 := hs0.fr 1
    simp only [List.setIfInBounds_toArray, List.set_cons_succ, List.set_cons_zero, List.getElem?_toArray, List.getElem?_cons_zero, List.getElem?_cons_succ] at z1
    have sf := store_f64 (v := .float .f64 0) z1 q1 rfl
    clear z1 q1 hs0
    have G7 := Lib.hid ((((ht2.set 0 (.int .u64 (N : Int))).set 1 (.float .f64 0)).set 2 (.string ⟨#[]⟩)).set 3 (.bool false))
    have tt := (((((Touch.refl [w.heap.size + 1 + 1] ((W.setCell ⟨w.heap.size + 1, 0, none⟩ (.string (S (m)))).setCell ⟨w.heap.size + 1, 1, none⟩ (.int .i64 (0)))).setCell (a := ⟨w.heap.size + 1 + 1, 0, none⟩) (.inl (by simp)) (.int .u64 (N : Int))).setCell (a := ⟨w.heap.size + 1 + 1, 1, none⟩) (.inl (by simp)) (.float .f64 0)).setCell (a := ⟨w.heap.size + 1 + 1, 2, none⟩) (.inl (by simp)) (.string ⟨#[]⟩)).setCell (a := ⟨w.heap.size + 1 + 1, 3, none⟩) (.inl (by simp)) (.bool false))
    have G6 := Lib.hid (((HR1.out.set 0 (.string (S (m)))).set 1 (.int .i64 (0))).carry tt (by simp))
    have TT := Lib.hid ((T1.out.trans ts (fun b hb => .inr (by simp at hb; omega))).trans tt (fun b hb => .inr (by simp at hb; omega)))
    clear ts tt ht2
    go_wp2_with fail
    have d0 := G6.out.cell 0
    have d1 := G6.out.cell 1
    have f0 := G7.out.cell 0
    have f1 := G7.out.cell 1
    have f2 := G7.out.cell 2
    have f3 := G7.out.cell 3
    simp only [List.setIfInBounds_toArray, List.set_cons_succ, List.set_cons_zero, List.getElem?_toArray, List.getElem?_cons_zero, List.getElem?_cons_succ] at d0 d1 f0 f1 f2 f3
    refine bodyPost_ret (v := .tuple #[.agg #[.string (S (m)), .int .i64 (0)], .agg #[.int .u64 (N : Int), .float .f64 0, .string ⟨#[]⟩, .bool false]]) (by simp [results, Try.results9, go_sem, d0, d1, f0, f1, f2, f3]) rfl ?_
    exact DidS.ok rfl TT.out
  · rw [show numQ 1 l = .error 5 by unfold numQ; rw [if_neg h8]]
    have U := Lib.hid (fun w => refNum_short l 1 (by omega) w)
    unfold rv at U
    rw [show ((1 : Nat) : Int) = 1 from rfl] at U
    go_enter Try.func9, Try.ntmps9
    go_upto_region 6 with fail
    generalize (((w.alloc (.cells #[.string (S l), .int .i64 0] 38)).alloc (.cells #[.string ⟨#[]⟩, .int .i64 0] 38)).alloc (.cells #[.int .u64 0, .float .f64 0, .string ⟨#[]⟩, .bool false] 33)) = w1 at *
    refine wp_region_late1 (wd := w1) 6 8 7 8 38 #[.string ⟨#[]⟩, .int .i64 0] ?aF2 (by kernel_rfl) (by kernel_rfl) (by kernel_rfl) (by decide) ((Touch.refl _ _).drew) (fun _ _ _ _ _ h => h) ⟨_, rfl, rfl, fun a w => rfl⟩ ?hwalk2 ?hend2
    case hwalk2 =>
      intro wd ht
      have k0 : ∀ x : Cls wd, x.val.cell? ⟨w.heap.size, 0, none⟩ = some (.string (S l)) := fun x => ((HP.out.carry ht (by simp)).carry x.property (by simp)).cell 0
      have k1 : ∀ x : Cls wd, x.val.cell? ⟨w.heap.size, 1, none⟩ = some (.int .i64 0) := fun x => ((HP.out.carry ht (by simp)).carry x.property (by simp)).cell 1
      simp only [List.take_succ_cons, List.take_zero]
      repeat (first | go_big_quiet_step ((go_at_call 24; with_reducible exact Calls.cls_at (U.out _))) | quiet_step ((go_at_call 24; with_reducible exact Calls.cls_at (U.out _))))
      refine wpQuiet_nil ?_
      rfl
    case hend2 =>
    intro b w2 t2 y ly
    have y0 := y.cell 0
    have y1 := y.cell 1
    have ly' := y.lt
    have fy := y.fr
    simp only [List.getElem?_toArray, List.getElem?_cons_zero, List.getElem?_cons_succ] at y0 y1
    have a2 : Touch [b] w2 ((w2.setCell ⟨b, 0, none⟩ (.string (S (l)))).setCell ⟨b, 1, none⟩ (.int .i64 (5))) := ((Touch.refl [b] w2).setCell (a := ⟨b, 0, none⟩) (.inl (by simp)) _).setCell (a := ⟨b, 1, none⟩) (.inl (by simp)) _
    have HR1 := Lib.hid ((HR.out.carry t2 (by simp)).carry a2 (by have := HR.out.lt; simp; omega))
    have HT1 := Lib.hid ((HT.out.carry t2 (by simp)).carry a2 (by have := HT.out.lt; simp; omega))
    have HY0 := Lib.hid ((y.set 0 (.string (S (l)))).set 1 (.int .i64 (5)))
    have T1 := Lib.hid ((T0.out.trans t2 (by simp)).trans a2 (fun b' hb => .inr (by have := T0.out.size; simp at hb; omega)))
    clear t2 a2 HR HT HP T0 y U
    simp only [List.drop_succ_cons, List.drop_zero]
    go_upto_region 7 with fail
    have HY1 := Lib.hid (show BoxV ((w2.setCell ⟨b, 0, none⟩ (.string (S (l)))).setCell ⟨b, 1, none⟩ (.int .i64 (5))) b 38 #[.string (S (l)), .int .i64 (5)] from HY0.out)
    generalize ((w2.setCell ⟨b, 0, none⟩ (.string (S (l)))).setCell ⟨b, 1, none⟩ (.int .i64 (5))) = W at *
    clear HY0 y0 y1 ly' fy ly
    have y0 := HY1.out.cell 0
    have y1 := HY1.out.cell 1
    have ly := HY1.out.lt
    simp only [List.getElem?_toArray, List.getElem?_cons_zero, List.getElem?_cons_succ] at y0 y1
    have r0 := HR1.out.cell 0
    have r1 := HR1.out.cell 1
    have lr := HR1.out.lt
    have fr := HR1.out.fr
    have x0 := HT1.out.cell 0
    have x1 := HT1.out.cell 1
    have x2 := HT1.out.cell 2
    have x3 := HT1.out.cell 3
    have lx := HT1.out.lt
    have fx := HT1.out.fr
    simp only [List.getElem?_toArray, List.getElem?_cons_zero, List.getElem?_cons_succ] at r0 r1 x0 x1 x2 x3
    have ts : Touch [w.heap.size + 1] W ((W.setCell ⟨w.heap.size + 1, 0, none⟩ (.string (S (l)))).setCell ⟨w.heap.size + 1, 1, none⟩ (.int .i64 (5))) := ((Touch.refl _ W).setCell (a := ⟨w.heap.size + 1, 0, none⟩) (.inl (by simp)) _).setCell (a := ⟨w.heap.size + 1, 1, none⟩) (.inl (by simp)) _
    have ht2 := HT1.out.carry ts (by simp)
    have hs0 := ht2.set 0 (.int .u64 0)
    have z1 := hs0.cell 1
    have q1 := hs0.fr 1
    simp only [List.setIfInBounds_toArray, List.set_cons_succ, List.set_cons_zero, List.getElem?_toArray, List.getElem?_cons_zero, List.getElem?_cons_succ] at z1
    have sf := store_f64 (v := .float .f64 0) z1 q1 rfl
    clear z1 q1 hs0
    have G7 := Lib.hid ((((ht2.set 0 (.int .u64 0)).set 1 (.float .f64 0)).set 2 (.string ⟨#[]⟩)).set 3 (.bool false))
    have tt := (((((Touch.refl [w.heap.size + 1 + 1] ((W.setCell ⟨w.heap.size + 1, 0, none⟩ (.string (S (l)))).setCell ⟨w.heap.size + 1, 1, none⟩ (.int .i64 (5)))).setCell (a := ⟨w.heap.size + 1 + 1, 0, none⟩) (.inl (by simp)) (.int .u64 0)).setCell (a := ⟨w.heap.size + 1 + 1, 1, none⟩) (.inl (by simp)) (.float .f64 0)).setCell (a := ⟨w.heap.size + 1 + 1, 2, none⟩) (.inl (by simp)) (.string ⟨#[]⟩)).setCell (a := ⟨w.heap.size + 1 + 1, 3, none⟩) (.inl (by simp)) (.bool false))
    have G6 := Lib.hid (((HR1.out.set 0 (.string (S (l)))).set 1 (.int .i64 (5))).carry tt (by simp))
    have TT := Lib.hid ((T1.out.trans ts (fun b hb => .inr (by simp at hb; omega))).trans tt (fun b hb => .inr (by simp at hb; omega)))
    clear ts tt ht2
    go_wp2_with fail
    have d0 := G6.out.cell 0
    have d1 := G6.out.cell 1
    have f0 := G7.out.cell 0
    have f1 := G7.out.cell 1
    have f2 := G7.out.cell 2
    have f3 := G7.out.cell 3
    simp only [List.setIfInBounds_toArray, List.set_cons_succ, List.set_cons_zero, List.getElem?_toArray, List.getElem?_cons_zero, List.getElem?_cons_succ] at d0 d1 f0 f1 f2 f3
    refine bodyPost_ret (v := .tuple #[.agg #[.string (S (l)), .int .i64 (5)], .agg #[.int .u64 0, .float .f64 0, .string ⟨#[]⟩, .bool false]]) (by simp [results, Try.results9, go_sem, d0, d1, f0, f1, f2, f3]) rfl ?_
    exact DidS.er _ Tld.zero rfl TT.out
set_option maxHeartbeats 1600000 in
set_option maxRecDepth 100000 in
theorem same_1 (hl : l.length ≤ 1000000000) (n : Int) (w : World) : Calls Try.prog 9 #[rv l 0, .int .i64 1, .int .i64 n] w (DidS w (numQ 2 l)) := by
  have t0 : Touch [] w (((w.alloc (.cells #[.string (S l), .int .i64 0] 38)).alloc (.cells #[.string ⟨#[]⟩, .int .i64 0] 38)).alloc (.cells #[.int .u64 0, .float .f64 0, .string ⟨#[]⟩, .bool false] 33)) := (((Touch.refl [] w).alloc _).alloc _).alloc _
  have s1 : (w.alloc (.cells #[.string (S l), .int .i64 0] 38)).heap.size = w.heap.size + 1 := by simp
  have s2 : ((w.alloc (.cells #[.string (S l), .int .i64 0] 38)).alloc (.cells #[.string ⟨#[]⟩, .int .i64 0] 38)).heap.size = w.heap.size + 1 + 1 := by simp
  have HP := Lib.hid (show BoxV (((w.alloc (.cells #[.string (S l), .int .i64 0] 38)).alloc (.cells #[.string ⟨#[]⟩, .int .i64 0] 38)).alloc (.cells #[.int .u64 0, .float .f64 0, .string ⟨#[]⟩, .bool false] 33)) w.heap.size 38 #[.string (S l), .int .i64 0] from ((BoxV.new w 38 #[.string (S l), .int .i64 0]).carry ((Touch.refl [] _).alloc (.cells #[.string ⟨#[]⟩, .int .i64 0] 38)) (by simp)).carry ((Touch.refl [] _).alloc (.cells #[.int .u64 0, .float .f64 0, .string ⟨#[]⟩, .bool false] 33)) (by simp))
  have HR := Lib.hid (show BoxV (((w.alloc (.cells #[.string (S l), .int .i64 0] 38)).alloc (.cells #[.string ⟨#[]⟩, .int .i64 0] 38)).alloc (.cells #[.int .u64 0, .float .f64 0, .string ⟨#[]⟩, .bool false] 33)) (w.heap.size + 1) 38 #[.string ⟨#[]⟩, .int .i64 0] from by
    have := (BoxV.new (w.alloc (.cells #[.string (S l), .int .i64 0] 38)) 38 #[.string ⟨#[]⟩, .int .i64 0]).carry ((Touch.refl [] _).alloc (.cells #[.int .u64 0, .float .f64 0, .string ⟨#[]⟩, .bool false] 33)) (by simp)
    rwa [s1] at this)
  have HT := Lib.hid (show BoxV (((w.alloc (.cells #[.string (S l), .int .i64 0] 38)).alloc (.cells #[.string ⟨#[]⟩, .int .i64 0] 38)).alloc (.cells #[.int .u64 0, .float .f64 0, .string ⟨#[]⟩, .bool false] 33)) (w.heap.size + 1 + 1) 33 #[.int .u64 0, .float .f64 0, .string ⟨#[]⟩, .bool false] from by
    have := BoxV.new ((w.alloc (.cells #[.string (S l), .int .i64 0] 38)).alloc (.cells #[.string ⟨#[]⟩, .int .i64 0] 38)) 33 #[.int .u64 0, .float .f64 0, .string ⟨#[]⟩, .bool false]
    rwa [s2] at this)
  have T0 := Lib.hid t0
  unfold rv at *
  clear t0 s1 s2
  by_cases h8 : 2 ≤ l.length
  · rw [show numQ 2 l = .ok (⟨num (l.take 2), 0, [], false⟩, l.drop 2) by unfold numQ; rw [if_pos h8]]
    have U := Lib.hid (fun w => refNum_ok l 2 h8 (by omega) hl w)
    unfold rv at U
    rw [show ((2 : Nat) : Int) = 2 from rfl] at U
    generalize num (l.take 2) = N at *
    generalize l.drop 2 = m at *
    go_enter Try.func9, Try.ntmps9
    go_upto_region 6 with fail
    generalize (((w.alloc (.cells #[.string (S l), .int .i64 0] 38)).alloc (.cells #[.string ⟨#[]⟩, .int .i64 0] 38)).alloc (.cells #[.int .u64 0, .float .f64 0, .string ⟨#[]⟩, .bool false] 33)) = w1 at *
    refine wp_region_late1 (wd := w1) 6 8 7 8 38 #[.string ⟨#[]⟩, .int .i64 0] ?aF (by kernel_rfl) (by kernel_rfl) (by kernel_rfl) (by decide) ((Touch.refl _ _).drew) (fun _ _ _ _ _ h => h) ⟨_, rfl, rfl, fun a w => rfl⟩ ?hwalk ?hend
    case hwalk =>
      intro wd ht
      have k0 : ∀ x : Cls wd, x.val.cell? ⟨w.heap.size, 0, none⟩ = some (.string (S l)) := fun x => ((HP.out.carry ht (by simp)).carry x.property (by simp)).cell 0
      have k1 : ∀ x : Cls wd, x.val.cell? ⟨w.heap.size, 1, none⟩ = some (.int .i64 0) := fun x => ((HP.out.carry ht (by simp)).carry x.property (by simp)).cell 1
      simp only [List.take_succ_cons, List.take_zero]
      repeat (first | go_big_quiet_step ((go_at_call 24; with_reducible exact Calls.cls_at (U.out _))) | quiet_step ((go_at_call 24; with_reducible exact Calls.cls_at (U.out _))))
      refine wpQuiet_nil ?_
      rfl
    case hend =>
    intro b w2 t2 y ly
    have y0 := y.cell 0
    have y1 := y.cell 1
    have ly' := y.lt
    have fy := y.fr
    simp only [List.getElem?_toArray, List.getElem?_cons_zero, List.getElem?_cons_succ] at y0 y1
    have a2 : Touch [b] w2 ((w2.setCell ⟨b, 0, none⟩ (.string (S (m)))).setCell ⟨b, 1, none⟩ (.int .i64 (0))) := ((Touch.refl [b] w2).setCell (a := ⟨b, 0, none⟩) (.inl (by simp)) _).setCell (a := ⟨b, 1, none⟩) (.inl (by simp)) _
    have HR1 := Lib.hid ((HR.out.carry t2 (by simp)).carry a2 (by have := HR.out.lt; simp; omega))
    have HT1 := Lib.hid ((HT.out.carry t2 (by simp)).carry a2 (by have := HT.out.lt; simp; omega))
    have HY0 := Lib.hid ((y.set 0 (.string (S (m)))).set 1 (.int .i64 (0)))
    have T1 := Lib.hid ((T0.out.trans t2 (by simp)).trans a2 (fun b' hb => .inr (by have := T0.out.size; simp at hb; omega)))
    clear t2 a2 HR HT HP T0 y U
    simp only [List.drop_succ_cons, List.drop_zero]
    go_upto_region 7 with fail
    have HY1 := Lib.hid (show BoxV ((w2.setCell ⟨b, 0, none⟩ (.string (S (m)))).setCell ⟨b, 1, none⟩ (.int .i64 (0))) b 38 #[.string (S (m)), .int .i64 (0)] from HY0.out)
    generalize ((w2.setCell ⟨b, 0, none⟩ (.string (S (m)))).setCell ⟨b, 1, none⟩ (.int .i64 (0))) = W at *
    clear HY0 y0 y1 ly' fy ly
    have y0 := HY1.out.cell 0
    have y1 := HY1.out.cell 1
    have ly := HY1.out.lt
    simp only [List.getElem?_toArray, List.getElem?_cons_zero, List.getElem?_cons_succ] at y0 y1
    have r0 := HR1.out.cell 0
    have r1 := HR1.out.cell 1
    have lr := HR1.out.lt
    have fr := HR1.out.fr
    have x0 := HT1.out.cell 0
    have x1 := HT1.out.cell 1
    have x2 := HT1.out.cell 2
    have x3 := HT1.out.cell 3
    have lx := HT1.out.lt
    have fx := HT1.out.fr
    simp only [List.getElem?_toArray, List.getElem?_cons_zero, List.getElem?_cons_succ] at r0 r1 x0 x1 x2 x3
    have ts : Touch [w.heap.size + 1] W ((W.setCell ⟨w.heap.size + 1, 0, none⟩ (.string (S (m)))).setCell ⟨w.heap.size + 1, 1, none⟩ (.int .i64 (0))) := ((Touch.refl _ W).setCell (a := ⟨w.heap.size + 1, 0, none⟩) (.inl (by simp)) _).setCell (a := ⟨w.heap.size + 1, 1, none⟩) (.inl (by simp)) _
    have ht2 := HT1.out.carry ts (by simp)
    have hs0 := ht2.set 0 (.int .u64 (N : Int))
    have z1 := hs0.cell 1
    have q1 := hs0.fr 1
    simp only [List.setIfInBounds_toArray, List.set_cons_succ, List.set_cons_zero, List.getElem?_toArray, List.getElem?_cons_zero, List.getElem?_cons_succ] at z1
    have sf := store_f64 (v := .float .f64 0) z1 q1 rfl
    clear z1 q1 hs0
    have G7 := Lib.hid ((((ht2.set 0 (.int .u64 (N : Int))).set 1 (.float .f64 0)).set 2 (.string ⟨#[]⟩)).set 3 (.bool false))
    have tt := (((((Touch.refl [w.heap.size + 1 + 1] ((W.setCell ⟨w.heap.size + 1, 0, none⟩ (.string (S (m)))).setCell ⟨w.heap.size + 1, 1, none⟩ (.int .i64 (0)))).setCell (a := ⟨w.heap.size + 1 + 1, 0, none⟩) (.inl (by simp)) (.int .u64 (N : Int))).setCell (a := ⟨w.heap.size + 1 + 1, 1, none⟩) (.inl (by simp)) (.float .f64 0)).setCell (a := ⟨w.heap.size + 1 + 1, 2, none⟩) (.inl (by simp)) (.string ⟨#[]⟩)).setCell (a := ⟨w.heap.size + 1 + 1, 3, none⟩) (.inl (by simp)) (.bool false))
    have G6 := Lib.hid (((HR1.out.set 0 (.string (S (m)))).set 1 (.int .i64 (0))).carry tt (by simp))
    have TT := Lib.hid ((T1.out.trans ts (fun b hb => .inr (by simp at hb; omega))).trans tt (fun b hb => .inr (by simp at hb; omega)))
    clear ts tt ht2
    go_wp2_with fail
    have d0 := G6.out.cell 0
    have d1 := G6.out.cell 1
    have f0 := G7.out.cell 0
    have f1 := G7.out.cell 1
    have f2 := G7.out.cell 2
    have f3 := G7.out.cell 3
    simp only [List.setIfInBounds_toArray, List.set_cons_succ, List.set_cons_zero, List.getElem?_toArray, List.getElem?_cons_zero, List.getElem?_cons_succ] at d0 d1 f0 f1 f2 f3
    refine bodyPost_ret (v := .tuple #[.agg #[.string (S (m)), .int .i64 (0)], .agg #[.int .u64 (N : Int), .float .f64 0, .string ⟨#[]⟩, .bool false]]) (by simp [results, Try.results9, go_sem, d0, d1, f0, f1, f2, f3]) rfl ?_
    exact DidS.ok rfl TT.out
  · rw [show numQ 2 l = .error 5 by unfold numQ; rw [if_neg h8]]
    have U := Lib.hid (fun w => refNum_short l 2 (by omega) w)
    unfold rv at U
    rw [show ((2 : Nat) : Int) = 2 from rfl] at U
    go_enter Try.func9, Try.ntmps9
    go_upto_region 6 with fail
    generalize (((w.alloc (.cells #[.string (S l), .int .i64 0] 38)).alloc (.cells #[.string ⟨#[]⟩, .int .i64 0] 38)).alloc (.cells #[.int .u64 0, .float .f64 0, .string ⟨#[]⟩, .bool false] 33)) = w1 at *
    refine wp_region_late1 (wd := w1) 6 8 7 8 38 #[.string ⟨#[]⟩, .int .i64 0] ?aF2 (by kernel_rfl) (by kernel_rfl) (by kernel_rfl) (by decide) ((Touch.refl _ _).drew) (fun _ _ _ _ _ h => h) ⟨_, rfl, rfl, fun a w => rfl⟩ ?hwalk2 ?hend2
    case hwalk2 =>
      intro wd ht
      have k0 : ∀ x : Cls wd, x.val.cell? ⟨w.heap.size, 0, none⟩ = some (.string (S l)) := fun x => ((HP.out.carry ht (by simp)).carry x.property (by simp)).cell 0
      have k1 : ∀ x : Cls wd, x.val.cell? ⟨w.heap.size, 1, none⟩ = some (.int .i64 0) := fun x => ((HP.out.carry ht (by simp)).carry x.property (by simp)).cell 1
      simp only [List.take_succ_cons, List.take_zero]
      repeat (first | go_big_quiet_step ((go_at_call 24; with_reducible exact Calls.cls_at (U.out _))) | quiet_step ((go_at_call 24; with_reducible exact Calls.cls_at (U.out _))))
      refine wpQuiet_nil ?_
      rfl
    case hend2 =>
    intro b w2 t2 y ly
    have y0 := y.cell 0
    have y1 := y.cell 1
    have ly' := y.lt
    have fy := y.fr
    simp only [List.getElem?_toArray, List.getElem?_cons_zero, List.getElem?_cons_succ] at y0 y1
    have a2 : Touch [b] w2 ((w2.setCell ⟨b, 0, none⟩ (.string (S (l)))).setCell ⟨b, 1, none⟩ (.int .i64 (5))) := ((Touch.refl [b] w2).setCell (a := ⟨b, 0, none⟩) (.inl (by simp)) _).setCell (a := ⟨b, 1, none⟩) (.inl (by simp)) _
    have HR1 := Lib.hid ((HR.out.carry t2 (by simp)).carry a2 (by have := HR.out.lt; simp; omega))
    have HT1 := Lib.hid ((HT.out.carry t2 (by simp)).carry a2 (by have := HT.out.lt; simp; omega))
    have HY0 := Lib.hid ((y.set 0 (.string (S (l)))).set 1 (.int .i64 (5)))
    have T1 := Lib.hid ((T0.out.trans t2 (by simp)).trans a2 (fun b' hb => .inr (by have := T0.out.size; simp at hb; omega)))
    clear t2 a2 HR HT HP T0 y U
    simp only [List.drop_succ_cons, List.drop_zero]
    go_upto_region 7 with fail
    have HY1 := Lib.hid (show BoxV ((w2.setCell ⟨b, 0, none⟩ (.string (S (l)))).setCell ⟨b, 1, none⟩ (.int .i64 (5))) b 38 #[.string (S (l)), .int .i64 (5)] from HY0.out)
    generalize ((w2.setCell ⟨b, 0, none⟩ (.string (S (l)))).setCell ⟨b, 1, none⟩ (.int .i64 (5))) = W at *
    clear HY0 y0 y1 ly' fy ly
    have y0 := HY1.out.cell 0
    have y1 := HY1.out.cell 1
    have ly := HY1.out.lt
    simp only [List.getElem?_toArray, List.getElem?_cons_zero, List.getElem?_cons_succ] at y0 y1
    have r0 := HR1.out.cell 0
    have r1 := HR1.out.cell 1
    have lr := HR1.out.lt
    have fr := HR1.out.fr
    have x0 := HT1.out.cell 0
    have x1 := HT1.out.cell 1
    have x2 := HT1.out.cell 2
    have x3 := HT1.out.cell 3
    have lx := HT1.out.lt
    have fx := HT1.out.fr
    simp only [List.getElem?_toArray, List.getElem?_cons_zero, List.getElem?_cons_succ] at r0 r1 x0 x1 x2 x3
    have ts : Touch [w.heap.size + 1] W ((W.setCell ⟨w.heap.size + 1, 0, none⟩ (.string (S (l)))).setCell ⟨w.heap.size + 1, 1, none⟩ (.int .i64 (5))) := ((Touch.refl _ W).setCell (a := ⟨w.heap.size + 1, 0, none⟩) (.inl (by simp)) _).setCell (a := ⟨w.heap.size + 1, 1, none⟩) (.inl (by simp)) _
    have ht2 := HT1.out.carry ts (by simp)
    have hs0 := ht2.set 0 (.int .u64 0)
    have z1 := hs0.cell 1
    have q1 := hs0.fr 1
    simp only [List.setIfInBounds_toArray, List.set_cons_succ, List.set_cons_zero, List.getElem?_toArray, List.getElem?_cons_zero, List.getElem?_cons_succ] at z1
    have sf := store_f64 (v := .float .f64 0) z1 q1 rfl
    clear z1 q1 hs0
    have G7 := Lib.hid ((((ht2.set 0 (.int .u64 0)).set 1 (.float .f64 0)).set 2 (.string ⟨#[]⟩)).set 3 (.bool false))
    have tt := (((((Touch.refl [w.heap.size + 1 + 1] ((W.setCell ⟨w.heap.size + 1, 0, none⟩ (.string (S (l)))).setCell ⟨w.heap.size + 1, 1, none⟩ (.int .i64 (5)))).setCell (a := ⟨w.heap.size + 1 + 1, 0, none⟩) (.inl (by simp)) (.int .u64 0)).setCell (a := ⟨w.heap.size + 1 + 1, 1, none⟩) (.inl (by simp)) (.float .f64 0)).setCell (a := ⟨w.heap.size + 1 + 1, 2, none⟩) (.inl (by simp)) (.string ⟨#[]⟩)).setCell (a := ⟨w.heap.size + 1 + 1, 3, none⟩) (.inl (by simp)) (.bool false))
    have G6 := Lib.hid (((HR1.out.set 0 (.string (S (l)))).set 1 (.int .i64 (5))).carry tt (by simp))
    have TT := Lib.hid ((T1.out.trans ts (fun b hb => .inr (by simp at hb; omega))).trans tt (fun b hb => .inr (by simp at hb; omega)))
    clear ts tt ht2
    go_wp2_with fail
    have d0 := G6.out.cell 0
    have d1 := G6.out.cell 1
    have f0 := G7.out.cell 0
    have f1 := G7.out.cell 1
    have f2 := G7.out.cell 2
    have f3 := G7.out.cell 3
    simp only [List.setIfInBounds_toArray, List.set_cons_succ, List.set_cons_zero, List.getElem?_toArray, List.getElem?_cons_zero, List.getElem?_cons_succ] at d0 d1 f0 f1 f2 f3
    refine bodyPost_ret (v := .tuple #[.agg #[.string (S (l)), .int .i64 (5)], .agg #[.int .u64 0, .float .f64 0, .string ⟨#[]⟩, .bool false]]) (by simp [results, Try.results9, go_sem, d0, d1, f0, f1, f2, f3]) rfl ?_
    exact DidS.er _ Tld.zero rfl TT.out
set_option maxHeartbeats 1600000 in
set_option maxRecDepth 100000 in
theorem same_2 (hl : l.length ≤ 1000000000) (n : Int) (w : World) : Calls Try.prog 9 #[rv l 0, .int .i64 2, .int .i64 n] w (DidS w (numQ 4 l)) := by
  have t0 : Touch [] w (((w.alloc (.cells #[.string (S l), .int .i64 0] 38)).alloc (.cells #[.string ⟨#[]⟩, .int .i64 0] 38)).alloc (.cells #[.int .u64 0, .float .f64 0, .string ⟨#[]⟩, .bool false] 33)) := (((Touch.refl [] w).alloc _).alloc _).alloc _
  have s1 : (w.alloc (.cells #[.string (S l), .int .i64 0] 38)).heap.size = w.heap.size + 1 := by simp
  have s2 : ((w.alloc (.cells #[.string (S l), .int .i64 0] 38)).alloc (.cells #[.string ⟨#[]⟩, .int .i64 0] 38)).heap.size = w.heap.size + 1 + 1 := by simp
  have HP := Lib.hid (show BoxV (((w.alloc (.cells #[.string (S l), .int .i64 0] 38)).alloc (.cells #[.string ⟨#[]⟩, .int .i64 0] 38)).alloc (.cells #[.int .u64 0, .float .f64 0, .string ⟨#[]⟩, .bool false] 33)) w.heap.size 38 #[.string (S l), .int .i64 0] from ((BoxV.new w 38 #[.string (S l), .int .i64 0]).carry ((Touch.refl [] _).alloc (.cells #[.string ⟨#[]⟩, .int .i64 0] 38)) (by simp)).carry ((Touch.refl [] _).alloc (.cells #[.int .u64 0, .float .f64 0, .string ⟨#[]⟩, .bool false] 33)) (by simp))
  have HR := Lib.hid (show BoxV (((w.alloc (.cells #[.string (S l), .int .i64 0] 38)).alloc (.cells #[.string ⟨#[]⟩, .int .i64 0] 38)).alloc (.cells #[.int .u64 0, .float .f64 0, .string ⟨#[]⟩, .bool false] 33)) (w.heap.size + 1) 38 #[.string ⟨#[]⟩, .int .i64 0] from by
    have := (BoxV.new (w.alloc (.cells #[.string (S l), .int .i64 0] 38)) 38 #[.string ⟨#[]⟩, .int .i64 0]).carry ((Touch.refl [] _).alloc (.cells #[.int .u64 0, .float .f64 0, .string ⟨#[]⟩, .bool false] 33)) (by simp)
    rwa [s1] at this)
  have HT := Lib.hid (show BoxV (((w.alloc (.cells #[.string (S l), .int .i64 0] 38)).alloc (.cells #[.string ⟨#[]⟩, .int .i64 0] 38)).alloc (.cells #[.int .u64 0, .float .f64 0, .string ⟨#[]⟩, .bool false] 33)) (w.heap.size + 1 + 1) 33 #[.int .u64 0, .float .f64 0, .string ⟨#[]⟩, .bool false] from by
    have := BoxV.new ((w.alloc (.cells #[.string (S l), .int .i64 0] 38)).alloc (.cells #[.string ⟨#[]⟩, .int .i64 0] 38)) 33 #[.int .u64 0, .float .f64 0, .string ⟨#[]⟩, .bool false]
    rwa [s2] at this)
  have T0 := Lib.hid t0
  unfold rv at *
  clear t0 s1 s2
  by_cases h8 : 4 ≤ l.length
  · rw [show numQ 4 l = .ok (⟨num (l.take 4), 0, [], false⟩, l.drop 4) by unfold numQ; rw [if_pos h8]]
    have U := Lib.hid (fun w => refNum_ok l 4 h8 (by omega) hl w)
    unfold rv at U
    rw [show ((4 : Nat) : Int) = 4 from rfl] at U
    generalize num (l.take 4) = N at *
    generalize l.drop 4 = m at *
    go_enter Try.func9, Try.ntmps9
    go_upto_region 6 with fail
    generalize (((w.alloc (.cells #[.string (S l), .int .i64 0] 38)).alloc (.cells #[.string ⟨#[]⟩, .int .i64 0] 38)).alloc (.cells #[.int .u64 0, .float .f64 0, .string ⟨#[]⟩, .bool false] 33)) = w1 at *
    refine wp_region_late1 (wd := w1) 6 8 7 8 38 #[.string ⟨#[]⟩, .int .i64 0] ?aF (by kernel_rfl) (by kernel_rfl) (by kernel_rfl) (by decide) ((Touch.refl _ _).drew) (fun _ _ _ _ _ h => h) ⟨_, rfl, rfl, fun a w => rfl⟩ ?hwalk ?hend
    case hwalk =>
      intro wd ht
      have k0 : ∀ x : Cls wd, x.val.cell? ⟨w.heap.size, 0, none⟩ = some (.string (S l)) := fun x => ((HP.out.carry ht (by simp)).carry x.property (by simp)).cell 0
      have k1 : ∀ x : Cls wd, x.val.cell? ⟨w.heap.size, 1, none⟩ = some (.int .i64 0) := fun x => ((HP.out.carry ht (by simp)).carry x.property (by simp)).cell 1
      simp only [List.take_succ_cons, List.take_zero]
      repeat (first | go_big_quiet_step ((go_at_call 24; with_reducible exact Calls.cls_at (U.out _))) | quiet_step ((go_at_call 24; with_reducible exact Calls.cls_at (U.out _))))
      refine wpQuiet_nil ?_
      rfl
    case hend =>
    intro b w2 t2 y ly
    have y0 := y.cell 0
    have y1 := y.cell 1
    have ly' := y.lt
    have fy := y.fr
    simp only [List.getElem?_toArray, List.getElem?_cons_zero, List.getElem?_cons_succ] at y0 y1
    have a2 : Touch [b] w2 ((w2.setCell ⟨b, 0, none⟩ (.string (S (m)))).setCell ⟨b, 1, none⟩ (.int .i64 (0))) := ((Touch.refl [b] w2).setCell (a := ⟨b, 0, none⟩) (.inl (by simp)) _).setCell (a := ⟨b, 1, none⟩) (.inl (by simp)) _
    have HR1 := Lib.hid ((HR.out.carry t2 (by simp)).carry a2 (by have := HR.out.lt; simp; omega))
    have HT1 := Lib.hid ((HT.out.carry t2 (by simp)).carry a2 (by have := HT.out.lt; simp; omega))
    have HY0 := Lib.hid ((y.set 0 (.string (S (m)))).set 1 (.int .i64 (0)))
    have T1 := Lib.hid ((T0.out.trans t2 (by simp)).trans a2 (fun b' hb => .inr (by have := T0.out.size; simp at hb; omega)))
    clear t2 a2 HR HT HP T0 y U
    simp only [List.drop_succ_cons, List.drop_zero]
    go_upto_region 7 with fail
    have HY1 := Lib.hid (show BoxV ((w2.setCell ⟨b, 0, none⟩ (.string (S (m)))).setCell ⟨b, 1, none⟩ (.int .i64 (0))) b 38 #[.string (S (m)), .int .i64 (0)] from HY0.out)
    generalize ((w2.setCell ⟨b, 0, none⟩ (.string (S (m)))).setCell ⟨b, 1, none⟩ (.int .i64 (0))) = W at *
    clear HY0 y0 y1 ly' fy ly
    have y0 := HY1.out.cell 0
    have y1 := HY1.out.cell 1
    have ly := HY1.out.lt
    simp only [List.getElem?_toArray, List.getElem?_cons_zero, List.getElem?_cons_succ] at y0 y1
    have r0 := HR1.out.cell 0
    have r1 := HR1.out.cell 1
    have lr := HR1.out.lt
    have fr := HR1.out.fr
    have x0 := HT1.out.cell 0
    have x1 := HT1.out.cell 1
    have x2 := HT1.out.cell 2
    have x3 := HT1.out.cell 3
    have lx := HT1.out.lt
    have fx := HT1.out.fr
    simp only [List.getElem?_toArray, List.getElem?_cons_zero, List.getElem?_cons_succ] at r0 r1 x0 x1 x2 x3
    have ts : Touch [w.heap.size + 1] W ((W.setCell ⟨w.heap.size + 1, 0, none⟩ (.string (S (m)))).setCell ⟨w.heap.size + 1, 1, none⟩ (.int .i64 (0))) := ((Touch.refl _ W).setCell (a := ⟨w.heap.size + 1, 0, none⟩) (.inl (by simp)) _).setCell (a := ⟨w.heap.size + 1, 1, none⟩) (.inl (by simp)) _
    have ht2 := HT1.out.carry ts (by simp)
    have hs0 := ht2.set 0 (.int .u64 (N : Int))
    have z1 := hs0.cell 1
    have q1 := hs0.fr 1
    simp only [List.setIfInBounds_toArray, List.set_cons_succ, List.set_cons_zero, List.getElem?_toArray, List.getElem?_cons_zero, List.getElem?_cons_succ] at z1
    have sf := store_f64 (v := .float .f64 0) z1 q1 rfl
    clear z1 q1 hs0
    have G7 := Lib.hid ((((ht2.set 0 (.int .u64 (N : Int))).set 1 (.float .f64 0)).set 2 (.string ⟨#[]⟩)).set 3 (.bool false))
    have tt := (((((Touch.refl [w.heap.size + 1 + 1] ((W.setCell ⟨w.heap.size + 1, 0, none⟩ (.string (S (m)))).setCell ⟨w.heap.size + 1, 1, none⟩ (.int .i64 (0)))).setCell (a := ⟨w.heap.size + 1 + 1, 0, none⟩) (.inl (by simp)) (.int .u64 (N : Int))).setCell (a := ⟨w.heap.size + 1 + 1, 1, none⟩) (.inl (by simp)) (.float .f64 0)).setCell (a := ⟨w.heap.size + 1 + 1, 2, none⟩) (.inl (by simp)) (.string ⟨#[]⟩)).setCell (a := ⟨w.heap.size + 1 + 1, 3, none⟩) (.inl (by simp)) (.bool false))
    have G6 := Lib.hid (((HR1.out.set 0 (.string (S (m)))).set 1 (.int .i64 (0))).carry tt (by simp))
    have TT := Lib.hid ((T1.out.trans ts (fun b hb => .inr (by simp at hb; omega))).trans tt (fun b hb => .inr (by simp at hb; omega)))
    clear ts tt ht2
    go_wp2_with fail
    have d0 := G6.out.cell 0
    have d1 := G6.out.cell 1
    have f0 := G7.out.cell 0
    have f1 := G7.out.cell 1
    have f2 := G7.out.cell 2
    have f3 := G7.out.cell 3
    simp only [List.setIfInBounds_toArray, List.set_cons_succ, List.set_cons_zero, List.getElem?_toArray, List.getElem?_cons_zero, List.getElem?_cons_succ] at d0 d1 f0 f1 f2 f3
    refine bodyPost_ret (v := .tuple #[.agg #[.string (S (m)), .int .i64 (0)], .agg #[.int .u64 (N : Int), .float .f64 0, .string ⟨#[]⟩, .bool false]]) (by simp [results, Try.results9, go_sem, d0, d1, f0, f1, f2, f3]) rfl ?_
    exact DidS.ok rfl TT.out
  · rw [show numQ 4 l = .error 5 by unfold numQ; rw [if_neg h8]]
    have U := Lib.hid (fun w => refNum_short l 4 (by omega) w)
    unfold rv at U
    rw [show ((4 : Nat) : Int) = 4 from rfl] at U
    go_enter Try.func9, Try.ntmps9
    go_upto_region 6 with fail
    generalize (((w.alloc (.cells #[.string (S l), .int .i64 0] 38)).alloc (.cells #[.string ⟨#[]⟩, .int .i64 0] 38)).alloc (.cells #[.int .u64 0, .float .f64 0, .string ⟨#[]⟩, .bool false] 33)) = w1 at *
    refine wp_region_late1 (wd := w1) 6 8 7 8 38 #[.string ⟨#[]⟩, .int .i64 0] ?aF2 (by kernel_rfl) (by kernel_rfl) (by kernel_rfl) (by decide) ((Touch.refl _ _).drew) (fun _ _ _ _ _ h => h) ⟨_, rfl, rfl, fun a w => rfl⟩ ?hwalk2 ?hend2
    case hwalk2 =>
      intro wd ht
      have k0 : ∀ x : Cls wd, x.val.cell? ⟨w.heap.size, 0, none⟩ = some (.string (S l)) := fun x => ((HP.out.carry ht (by simp)).carry x.property (by simp)).cell 0
      have k1 : ∀ x : Cls wd, x.val.cell? ⟨w.heap.size, 1, none⟩ = some (.int .i64 0) := fun x => ((HP.out.carry ht (by simp)).carry x.property (by simp)).cell 1
      simp only [List.take_succ_cons, List.take_zero]
      repeat (first | go_big_quiet_step ((go_at_call 24; with_reducible exact Calls.cls_at (U.out _))) | quiet_step ((go_at_call 24; with_reducible exact Calls.cls_at (U.out _))))
      refine wpQuiet_nil ?_
      rfl
    case hend2 =>
    intro b w2 t2 y ly
    have y0 := y.cell 0
    have y1 := y.cell 1
    have ly' := y.lt
    have fy := y.fr
    simp only [List.getElem?_toArray, List.getElem?_cons_zero, List.getElem?_cons_succ] at y0 y1
    have a2 : Touch [b] w2 ((w2.setCell ⟨b, 0, none⟩ (.string (S (l)))).setCell ⟨b, 1, none⟩ (.int .i64 (5))) := ((Touch.refl [b] w2).setCell (a := ⟨b, 0, none⟩) (.inl (by simp)) _).setCell (a := ⟨b, 1, none⟩) (.inl (by simp)) _
    have HR1 := Lib.hid ((HR.out.carry t2 (by simp)).carry a2 (by have := HR.out.lt; simp; omega))
    have HT1 := Lib.hid ((HT.out.carry t2 (by simp)).carry a2 (by have := HT.out.lt; simp; omega))
    have HY0 := Lib.hid ((y.set 0 (.string (S (l)))).set 1 (.int .i64 (5)))
    have T1 := Lib.hid ((T0.out.trans t2 (by simp)).trans a2 (fun b' hb => .inr (by have := T0.out.size; simp at hb; omega)))
    clear t2 a2 HR HT HP T0 y U
    simp only [List.drop_succ_cons, List.drop_zero]
    go_upto_region 7 with fail
    have HY1 := Lib.hid (show BoxV ((w2.setCell ⟨b, 0, none⟩ (.string (S (l)))).setCell ⟨b, 1, none⟩ (.int .i64 (5))) b 38 #[.string (S (l)), .int .i64 (5)] from HY0.out)
    generalize ((w2.setCell ⟨b, 0, none⟩ (.string (S (l)))).setCell ⟨b, 1, none⟩ (.int .i64 (5))) = W at *
    clear HY0 y0 y1 ly' fy ly
    have y0 := HY1.out.cell 0
    have y1 := HY1.out.cell 1
    have ly := HY1.out.lt
    simp only [List.getElem?_toArray, List.getElem?_cons_zero, List.getElem?_cons_succ] at y0 y1
    have r0 := HR1.out.cell 0
    have r1 := HR1.out.cell 1
    have lr := HR1.out.lt
    have fr := HR1.out.fr
    have x0 := HT1.out.cell 0
    have x1 := HT1.out.cell 1
    have x2 := HT1.out.cell 2
    have x3 := HT1.out.cell 3
    have lx := HT1.out.lt
    have fx := HT1.out.fr
    simp only [List.getElem?_toArray, List.getElem?_cons_zero, List.getElem?_cons_succ] at r0 r1 x0 x1 x2 x3
    have ts : Touch [w.heap.size + 1] W ((W.setCell ⟨w.heap.size + 1, 0, none⟩ (.string (S (l)))).setCell ⟨w.heap.size + 1, 1, none⟩ (.int .i64 (5))) := ((Touch.refl _ W).setCell (a := ⟨w.heap.size + 1, 0, none⟩) (.inl (by simp)) _).setCell (a := ⟨w.heap.size + 1, 1, none⟩) (.inl (by simp)) _
    have ht2 := HT1.out.carry ts (by simp)
    have hs0 := ht2.set 0 (.int .u64 0)
    have z1 := hs0.cell 1
    have q1 := hs0.fr 1
    simp only [List.setIfInBounds_toArray, List.set_cons_succ, List.set_cons_zero, List.getElem?_toArray, List.getElem?_cons_zero, List.getElem?_cons_succ] at z1
    have sf := store_f64 (v := .float .f64 0) z1 q1 rfl
    clear z1 q1 hs0
    have G7 := Lib.hid ((((ht2.set 0 (.int .u64 0)).set 1 (.float .f64 0)).set 2 (.string ⟨#[]⟩)).set 3 (.bool false))
    have tt := (((((Touch.refl [w.heap.size + 1 + 1] ((W.setCell ⟨w.heap.size + 1, 0, none⟩ (.string (S (l)))).setCell ⟨w.heap.size + 1, 1, none⟩ (.int .i64 (5)))).setCell (a := ⟨w.heap.size + 1 + 1, 0, none⟩) (.inl (by simp)) (.int .u64 0)).setCell (a := ⟨w.heap.size + 1 + 1, 1, none⟩) (.inl (by simp)) (.float .f64 0)).setCell (a := ⟨w.heap.size + 1 + 1, 2, none⟩) (.inl (by simp)) (.string ⟨#[]⟩)).setCell (a := ⟨w.heap.size + 1 + 1, 3, none⟩) (.inl (by simp)) (.bool false))
    have G6 := Lib.hid (((HR1.out.set 0 (.string (S (l)))).set 1 (.int .i64 (5))).carry tt (by simp))
    have TT := Lib.hid ((T1.out.trans ts (fun b hb => .inr (by simp at hb; omega))).trans tt (fun b hb => .inr (by simp at hb; omega)))
    clear ts tt ht2
    go_wp2_with fail
    have d0 := G6.out.cell 0
    have d1 := G6.out.cell 1
    have f0 := G7.out.cell 0
    have f1 := G7.out.cell 1
    have f2 := G7.out.cell 2
    have f3 := G7.out.cell 3
    simp only [List.setIfInBounds_toArray, List.set_cons_succ, List.set_cons_zero, List.getElem?_toArray, List.getElem?_cons_zero, List.getElem?_cons_succ] at d0 d1 f0 f1 f2 f3
    refine bodyPost_ret (v := .tuple #[.agg #[.string (S (l)), .int .i64 (5)], .agg #[.int .u64 0, .float .f64 0, .string ⟨#[]⟩, .bool false]]) (by simp [results, Try.results9, go_sem, d0, d1, f0, f1, f2, f3]) rfl ?_
    exact DidS.er _ Tld.zero rfl TT.out
set_option maxHeartbeats 1600000 in
set_option maxRecDepth 100000 in
theorem same_3 (hl : l.length ≤ 1000000000) (n : Int) (w : World) : Calls Try.prog 9 #[rv l 0, .int .i64 3, .int .i64 n] w (DidS w (numQ 8 l)) := by
  have t0 : Touch [] w (((w.alloc (.cells #[.string (S l), .int .i64 0] 38)).alloc (.cells #[.string ⟨#[]⟩, .int .i64 0] 38)).alloc (.cells #[.int .u64 0, .float .f64 0, .string ⟨#[]⟩, .bool false] 33)) := (((Touch.refl [] w).alloc _).alloc _).alloc _
  have s1 : (w.alloc (.cells #[.string (S l), .int .i64 0] 38)).heap.size = w.heap.size + 1 := by simp
  have s2 : ((w.alloc (.cells #[.string (S l), .int .i64 0] 38)).alloc (.cells #[.string ⟨#[]⟩, .int .i64 0] 38)).heap.size = w.heap.size + 1 + 1 := by simp
  have HP := Lib.hid (show BoxV (((w.alloc (.cells #[.string (S l), .int .i64 0] 38)).alloc (.cells #[.string ⟨#[]⟩, .int .i64 0] 38)).alloc (.cells #[.int .u64 0, .float .f64 0, .string ⟨#[]⟩, .bool false] 33)) w.heap.size 38 #[.string (S l), .int .i64 0] from ((BoxV.new w 38 #[.string (S l), .int .i64 0]).carry ((Touch.refl [] _).alloc (.cells #[.string ⟨#[]⟩, .int .i64 0] 38)) (by simp)).carry ((Touch.refl [] _).alloc (.cells #[.int .u64 0, .float .f64 0, .string ⟨#[]⟩, .bool false] 33)) (by simp))
  have HR := Lib.hid (show BoxV (((w.alloc (.cells #[.string (S l), .int .i64 0] 38)).alloc (.cells #[.string ⟨#[]⟩, .int .i64 0] 38)).alloc (.cells #[.int .u64 0, .float .f64 0, .string ⟨#[]⟩, .bool false] 33)) (w.heap.size + 1) 38 #[.string ⟨#[]⟩, .int .i64 0] from by
    have := (BoxV.new (w.alloc (.cells #[.string (S l), .int .i64 0] 38)) 38 #[.string ⟨#[]⟩, .int .i64 0]).carry ((Touch.refl [] _).alloc (.cells #[.int .u64 0, .float .f64 0, .string ⟨#[]⟩, .bool false] 33)) (by simp)
    rwa [s1] at this)
  have HT := Lib.hid (show BoxV (((w.alloc (.cells #[.string (S l), .int .i64 0] 38)).alloc (.cells #[.string ⟨#[]⟩, .int .i64 0] 38)).alloc (.cells #[.int .u64 0, .float .f64 0, .string ⟨#[]⟩, .bool false] 33)) (w.heap.size + 1 + 1) 33 #[.int .u64 0, .float .f64 0, .string ⟨#[]⟩, .bool false] from by
    have := BoxV.new ((w.alloc (.cells #[.string (S l), .int .i64 0] 38)).alloc (.cells #[.string ⟨#[]⟩, .int .i64 0] 38)) 33 #[.int .u64 0, .float .f64 0, .string ⟨#[]⟩, .bool false]
    rwa [s2] at this)
  have T0 := Lib.hid t0
  unfold rv at *
  clear t0 s1 s2
  by_cases h8 : 8 ≤ l.length
  · rw [show numQ 8 l = .ok (⟨num (l.take 8), 0, [], false⟩, l.drop 8) by unfold numQ; rw [if_pos h8]]
    have U := Lib.hid (fun w => refNum_ok l 8 h8 (by omega) hl w)
    unfold rv at U
    rw [show ((8 : Nat) : Int) = 8 from rfl] at U
    generalize num (l.take 8) = N at *
    generalize l.drop 8 = m at *
    go_enter Try.func9, Try.ntmps9
    go_upto_region 6 with fail
    generalize (((w.alloc (.cells #[.string (S l), .int .i64 0] 38)).alloc (.cells #[.string ⟨#[]⟩, .int .i64 0] 38)).alloc (.cells #[.int .u64 0, .float .f64 0, .string ⟨#[]⟩, .bool false] 33)) = w1 at *
    refine wp_region_late1 (wd := w1) 6 8 7 8 38 #[.string ⟨#[]⟩, .int .i64 0] ?aF (by kernel_rfl) (by kernel_rfl) (by kernel_rfl) (by decide) ((Touch.refl _ _).drew) (fun _ _ _ _ _ h => h) ⟨_, rfl, rfl, fun a w => rfl⟩ ?hwalk ?hend
    case hwalk =>
      intro wd ht
      have k0 : ∀ x : Cls wd, x.val.cell? ⟨w.heap.size, 0, none⟩ = some (.string (S l)) := fun x => ((HP.out.carry ht (by simp)).carry x.property (by simp)).cell 0
      have k1 : ∀ x : Cls wd, x.val.cell? ⟨w.heap.size, 1, none⟩ = some (.int .i64 0) := fun x => ((HP.out.carry ht (by simp)).carry x.property (by simp)).cell 1
      simp only [List.take_succ_cons, List.take_zero]
      repeat (first | go_big_quiet_step ((go_at_call 24; with_reducible exact Calls.cls_at (U.out _))) | quiet_step ((go_at_call 24; with_reducible exact Calls.cls_at (U.out _))))
      refine wpQuiet_nil ?_
      rfl
    case hend =>
    intro b w2 t2 y ly
    have y0 := y.cell 0
    have y1 := y.cell 1
    have ly' := y.lt
    have fy := y.fr
    simp only [List.getElem?_toArray, List.getElem?_cons_zero, List.getElem?_cons_succ] at y0 y1
    have a2 : Touch [b] w2 ((w2.setCell ⟨b, 0, none⟩ (.string (S (m)))).setCell ⟨b, 1, none⟩ (.int .i64 (0))) := ((Touch.refl [b] w2).setCell (a := ⟨b, 0, none⟩) (.inl (by simp)) _).setCell (a := ⟨b, 1, none⟩) (.inl (by simp)) _
    have HR1 := Lib.hid ((HR.out.carry t2 (by simp)).carry a2 (by have := HR.out.lt; simp; omega))
    have HT1 := Lib.hid ((HT.out.carry t2 (by simp)).carry a2 (by have := HT.out.lt; simp; omega))
    have HY0 := Lib.hid ((y.set 0 (.string (S (m)))).set 1 (.int .i64 (0)))
    have T1 := Lib.hid ((T0.out.trans t2 (by simp)).trans a2 (fun b' hb => .inr (by have := T0.out.size; simp at hb; omega)))
    clear t2 a2 HR HT HP T0 y U
    simp only [List.drop_succ_cons, List.drop_zero]
    go_upto_region 7 with fail
    have HY1 := Lib.hid (show BoxV ((w2.setCell ⟨b, 0, none⟩ (.string (S (m)))).setCell ⟨b, 1, none⟩ (.int .i64 (0))) b 38 #[.string (S (m)), .int .i64 (0)] from HY0.out)
    generalize ((w2.setCell ⟨b, 0, none⟩ (.string (S (m)))).setCell ⟨b, 1, none⟩ (.int .i64 (0))) = W at *
    clear HY0 y0 y1 ly' fy ly
    have y0 := HY1.out.cell 0
    have y1 := HY1.out.cell 1
    have ly := HY1.out.lt
    simp only [List.getElem?_toArray, List.getElem?_cons_zero, List.getElem?_cons_succ] at y0 y1
    have r0 := HR1.out.cell 0
    have r1 := HR1.out.cell 1
    have lr := HR1.out.lt
    have fr := HR1.out.fr
    have x0 := HT1.out.cell 0
    have x1 := HT1.out.cell 1
    have x2 := HT1.out.cell 2
    have x3 := HT1.out.cell 3
    have lx := HT1.out.lt
    have fx := HT1.out.fr
    simp only [List.getElem?_toArray, List.getElem?_cons_zero, List.getElem?_cons_succ] at r0 r1 x0 x1 x2 x3
    have ts : Touch [w.heap.size + 1] W ((W.setCell ⟨w.heap.size + 1, 0, none⟩ (.string (S (m)))).setCell ⟨w.heap.size + 1, 1, none⟩ (.int .i64 (0))) := ((Touch.refl _ W).setCell (a := ⟨w.heap.size + 1, 0, none⟩) (.inl (by simp)) _).setCell (a := ⟨w.heap.size + 1, 1, none⟩) (.inl (by simp)) _
    have ht2 := HT1.out.carry ts (by simp)
    have hs0 := ht2.set 0 (.int .u64 (N : Int))
    have z1 := hs0.cell 1
    have q1 := hs0.fr 1
    simp only [List.setIfInBounds_toArray, List.set_cons_succ, List.set_cons_zero, List.getElem?_toArray, List.getElem?_cons_zero, List.getElem?_cons_succ] at z1
    have sf := store_f64 (v := .float .f64 0) z1 q1 rfl
    clear z1 q1 hs0
    have G7 := Lib.hid ((((ht2.set 0 (.int .u64 (N : Int))).set 1 (.float .f64 0)).set 2 (.string ⟨#[]⟩)).set 3 (.bool false))
    have tt := (((((Touch.refl [w.heap.size + 1 + 1] ((W.setCell ⟨w.heap.size + 1, 0, none⟩ (.string (S (m)))).setCell ⟨w.heap.size + 1, 1, none⟩ (.int .i64 (0)))).setCell (a := ⟨w.heap.size + 1 + 1, 0, none⟩) (.inl (by simp)) (.int .u64 (N : Int))).setCell (a := ⟨w.heap.size + 1 + 1, 1, none⟩) (.inl (by simp)) (.float .f64 0)).setCell (a := ⟨w.heap.size + 1 + 1, 2, none⟩) (.inl (by simp)) (.string ⟨#[]⟩)).setCell (a := ⟨w.heap.size + 1 + 1, 3, none⟩) (.inl (by simp)) (.bool false))
    have G6 := Lib.hid (((HR1.out.set 0 (.string (S (m)))).set 1 (.int .i64 (0))).carry tt (by simp))
    have TT := Lib.hid ((T1.out.trans ts (fun b hb => .inr (by simp at hb; omega))).trans tt (fun b hb => .inr (by simp at hb; omega)))
    clear ts tt ht2
    go_wp2_with fail
    have d0 := G6.out.cell 0
    have d1 := G6.out.cell 1
    have f0 := G7.out.cell 0
    have f1 := G7.out.cell 1
    have f2 := G7.out.cell 2
    have f3 := G7.out.cell 3
    simp only [List.setIfInBounds_toArray, List.set_cons_succ, List.set_cons_zero, List.getElem?_toArray, List.getElem?_cons_zero, List.getElem?_cons_succ] at d0 d1 f0 f1 f2 f3
    refine bodyPost_ret (v := .tuple #[.agg #[.string (S (m)), .int .i64 (0)], .agg #[.int .u64 (N : Int), .float .f64 0, .string ⟨#[]⟩, .bool false]]) (by simp [results, Try.results9, go_sem, d0, d1, f0, f1, f2, f3]) rfl ?_
    exact DidS.ok rfl TT.out
  · rw [show numQ 8 l = .error 5 by unfold numQ; rw [if_neg h8]]
    have U := Lib.hid (fun w => refNum_short l 8 (by omega) w)
    unfold rv at U
    rw [show ((8 : Nat) : Int) = 8 from rfl] at U
    go_enter Try.func9, Try.ntmps9
    go_upto_region 6 with fail
    generalize (((w.alloc (.cells #[.string (S l), .int .i64 0] 38)).alloc (.cells #[.string ⟨#[]⟩, .int .i64 0] 38)).alloc (.cells #[.int .u64 0, .float .f64 0, .string ⟨#[]⟩, .bool false] 33)) = w1 at *
    refine wp_region_late1 (wd := w1) 6 8 7 8 38 #[.string ⟨#[]⟩, .int .i64 0] ?aF2 (by kernel_rfl) (by kernel_rfl) (by kernel_rfl) (by decide) ((Touch.refl _ _).drew) (fun _ _ _ _ _ h => h) ⟨_, rfl, rfl, fun a w => rfl⟩ ?hwalk2 ?hend2
    case hwalk2 =>
      intro wd ht
      have k0 : ∀ x : Cls wd, x.val.cell? ⟨w.heap.size, 0, none⟩ = some (.string (S l)) := fun x => ((HP.out.carry ht (by simp)).carry x.property (by simp)).cell 0
      have k1 : ∀ x : Cls wd, x.val.cell? ⟨w.heap.size, 1, none⟩ = some (.int .i64 0) := fun x => ((HP.out.carry ht (by simp)).carry x.property (by simp)).cell 1
      simp only [List.take_succ_cons, List.take_zero]
      repeat (first | go_big_quiet_step ((go_at_call 24; with_reducible exact Calls.cls_at (U.out _))) | quiet_step ((go_at_call 24; with_reducible exact Calls.cls_at (U.out _))))
      refine wpQuiet_nil ?_
      rfl
    case hend2 =>
    intro b w2 t2 y ly
    have y0 := y.cell 0
    have y1 := y.cell 1
    have ly' := y.lt
    have fy := y.fr
    simp only [List.getElem?_toArray, List.getElem?_cons_zero, List.getElem?_cons_succ] at y0 y1
    have a2 : Touch [b] w2 ((w2.setCell ⟨b, 0, none⟩ (.string (S (l)))).setCell ⟨b, 1, none⟩ (.int .i64 (5))) := ((Touch.refl [b] w2).setCell (a := ⟨b, 0, none⟩) (.inl (by simp)) _).setCell (a := ⟨b, 1, none⟩) (.inl (by simp)) _
    have HR1 := Lib.hid ((HR.out.carry t2 (by simp)).carry a2 (by have := HR.out.lt; simp; omega))
    have HT1 := Lib.hid ((HT.out.carry t2 (by simp)).carry a2 (by have := HT.out.lt; simp; omega))
    have HY0 := Lib.hid ((y.set 0 (.string (S (l)))).set 1 (.int .i64 (5)))
    have T1 := Lib.hid ((T0.out.trans t2 (by simp)).trans a2 (fun b' hb => .inr (by have := T0.out.size; simp at hb; omega)))
    clear t2 a2 HR HT HP T0 y U
    simp only [List.drop_succ_cons, List.drop_zero]
    go_upto_region 7 with fail
    have HY1 := Lib.hid (show BoxV ((w2.setCell ⟨b, 0, none⟩ (.string (S (l)))).setCell ⟨b, 1, none⟩ (.int .i64 (5))) b 38 #[.string (S (l)), .int .i64 (5)] from HY0.out)
    generalize ((w2.setCell ⟨b, 0, none⟩ (.string (S (l)))).setCell ⟨b, 1, none⟩ (.int .i64 (5))) = W at *
    clear HY0 y0 y1 ly' fy ly
    have y0 := HY1.out.cell 0
    have y1 := HY1.out.cell 1
    have ly := HY1.out.lt
    simp only [List.getElem?_toArray, List.getElem?_cons_zero, List.getElem?_cons_succ] at y0 y1
    have r0 := HR1.out.cell 0
    have r1 := HR1.out.cell 1
    have lr := HR1.out.lt
    have fr := HR1.out.fr
    have x0 := HT1.out.cell 0
    have x1 := HT1.out.cell 1
    have x2 := HT1.out.cell 2
    have x3 := HT1.out.cell 3
    have lx := HT1.out.lt
    have fx := HT1.out.fr
    simp only [List.getElem?_toArray, List.getElem?_cons_zero, List.getElem?_cons_succ] at r0 r1 x0 x1 x2 x3
    have ts : Touch [w.heap.size + 1] W ((W.setCell ⟨w.heap.size + 1, 0, none⟩ (.string (S (l)))).setCell ⟨w.heap.size + 1, 1, none⟩ (.int .i64 (5))) := ((Touch.refl _ W).setCell (a := ⟨w.heap.size + 1, 0, none⟩) (.inl (by simp)) _).setCell (a := ⟨w.heap.size + 1, 1, none⟩) (.inl (by simp)) _
    have ht2 := HT1.out.carry ts (by simp)
    have hs0 := ht2.set 0 (.int .u64 0)
    have z1 := hs0.cell 1
    have q1 := hs0.fr 1
    simp only [List.setIfInBounds_toArray, List.set_cons_succ, List.set_cons_zero, List.getElem?_toArray, List.getElem?_cons_zero, List.getElem?_cons_succ] at z1
    have sf := store_f64 (v := .float .f64 0) z1 q1 rfl
    clear z1 q1 hs0
    have G7 := Lib.hid ((((ht2.set 0 (.int .u64 0)).set 1 (.float .f64 0)).set 2 (.string ⟨#[]⟩)).set 3 (.bool false))
    have tt := (((((Touch.refl [w.heap.size + 1 + 1] ((W.setCell ⟨w.heap.size + 1, 0, none⟩ (.string (S (l)))).setCell ⟨w.heap.size + 1, 1, none⟩ (.int .i64 (5)))).setCell (a := ⟨w.heap.size + 1 + 1, 0, none⟩) (.inl (by simp)) (.int .u64 0)).setCell (a := ⟨w.heap.size + 1 + 1, 1, none⟩) (.inl (by simp)) (.float .f64 0)).setCell (a := ⟨w.heap.size + 1 + 1, 2, none⟩) (.inl (by simp)) (.string ⟨#[]⟩)).setCell (a := ⟨w.heap.size + 1 + 1, 3, none⟩) (.inl (by simp)) (.bool false))
    have G6 := Lib.hid (((HR1.out.set 0 (.string (S (l)))).set 1 (.int .i64 (5))).carry tt (by simp))
    have TT := Lib.hid ((T1.out.trans ts (fun b hb => .inr (by simp at hb; omega))).trans tt (fun b hb => .inr (by simp at hb; omega)))
    clear ts tt ht2
    go_wp2_with fail
    have d0 := G6.out.cell 0
    have d1 := G6.out.cell 1
    have f0 := G7.out.cell 0
    have f1 := G7.out.cell 1
    have f2 := G7.out.cell 2
    have f3 := G7.out.cell 3
    simp only [List.setIfInBounds_toArray, List.set_cons_succ, List.set_cons_zero, List.getElem?_toArray, List.getElem?_cons_zero, List.getElem?_cons_succ] at d0 d1 f0 f1 f2 f3
    refine bodyPost_ret (v := .tuple #[.agg #[.string (S (l)), .int .i64 (5)], .agg #[.int .u64 0, .float .f64 0, .string ⟨#[]⟩, .bool false]]) (by simp [results, Try.results9, go_sem, d0, d1, f0, f1, f2, f3]) rfl ?_
    exact DidS.er _ Tld.zero rfl TT.out
set_option maxHeartbeats 1600000 in
set_option maxRecDepth 100000 in
theorem same_4 (hl : l.length ≤ 1000000000) (n : Int) (w : World) : Calls Try.prog 9 #[rv l 0, .int .i64 4, .int .i64 n] w (DidS w (varQ l)) := by
  have t0 : Touch [] w (((w.alloc (.cells #[.string (S l), .int .i64 0] 38)).alloc (.cells #[.string ⟨#[]⟩, .int .i64 0] 38)).alloc (.cells #[.int .u64 0, .float .f64 0, .string ⟨#[]⟩, .bool false] 33)) := (((Touch.refl [] w).alloc _).alloc _).alloc _
  have s1 : (w.alloc (.cells #[.string (S l), .int .i64 0] 38)).heap.size = w.heap.size + 1 := by simp
  have s2 : ((w.alloc (.cells #[.string (S l), .int .i64 0] 38)).alloc (.cells #[.string ⟨#[]⟩, .int .i64 0] 38)).heap.size = w.heap.size + 1 + 1 := by simp
  have HP := Lib.hid (show BoxV (((w.alloc (.cells #[.string (S l), .int .i64 0] 38)).alloc (.cells #[.string ⟨#[]⟩, .int .i64 0] 38)).alloc (.cells #[.int .u64 0, .float .f64 0, .string ⟨#[]⟩, .bool false] 33)) w.heap.size 38 #[.string (S l), .int .i64 0] from ((BoxV.new w 38 #[.string (S l), .int .i64 0]).carry ((Touch.refl [] _).alloc (.cells #[.string ⟨#[]⟩, .int .i64 0] 38)) (by simp)).carry ((Touch.refl [] _).alloc (.cells #[.int .u64 0, .float .f64 0, .string ⟨#[]⟩, .bool false] 33)) (by simp))
  have HR := Lib.hid (show BoxV (((w.alloc (.cells #[.string (S l), .int .i64 0] 38)).alloc (.cells #[.string ⟨#[]⟩, .int .i64 0] 38)).alloc (.cells #[.int .u64 0, .float .f64 0, .string ⟨#[]⟩, .bool false] 33)) (w.heap.size + 1) 38 #[.string ⟨#[]⟩, .int .i64 0] from by
    have := (BoxV.new (w.alloc (.cells #[.string (S l), .int .i64 0] 38)) 38 #[.string ⟨#[]⟩, .int .i64 0]).carry ((Touch.refl [] _).alloc (.cells #[.int .u64 0, .float .f64 0, .string ⟨#[]⟩, .bool false] 33)) (by simp)
    rwa [s1] at this)
  have HT := Lib.hid (show BoxV (((w.alloc (.cells #[.string (S l), .int .i64 0] 38)).alloc (.cells #[.string ⟨#[]⟩, .int .i64 0] 38)).alloc (.cells #[.int .u64 0, .float .f64 0, .string ⟨#[]⟩, .bool false] 33)) (w.heap.size + 1 + 1) 33 #[.int .u64 0, .float .f64 0, .string ⟨#[]⟩, .bool false] from by
    have := BoxV.new ((w.alloc (.cells #[.string (S l), .int .i64 0] 38)).alloc (.cells #[.string ⟨#[]⟩, .int .i64 0] 38)) 33 #[.int .u64 0, .float .f64 0, .string ⟨#[]⟩, .bool false]
    rwa [s2] at this)
  have T0 := Lib.hid t0
  unfold rv at *
  clear t0 s1 s2
  have U := Lib.hid (fun w => refVar_zero l hl w)
  unfold rv at U
  by_cases h8 : varE l = 0
  · rw [show varQ l = .ok (⟨u64n (varV l), 0, [], false⟩, l.drop (lead l + 1)) by unfold varQ; rw [if_pos h8]]
    have hw := wrap_u64n (varV l)
    generalize u64n (varV l) = N at *
    generalize varV l = V at *
    generalize l.drop (lead l + 1) = m at *
    go_enter Try.func9, Try.ntmps9
    go_wp2_with fail
    refine (U.out _).mono ?_
    intro e w1 hj
    obtain ⟨rfl, t1⟩ := hj.1 h8
    clear hj U h8
    have a2 : Touch [] w1 (w1.alloc (.cells #[.string (S (m)), .int .i64 (0)] 38)) := (Touch.refl [] w1).alloc _
    have HR1 := Lib.hid ((HR.out.carry t1 (by simp)).carry a2 (by simp))
    have HT1 := Lib.hid ((HT.out.carry t1 (by simp)).carry a2 (by simp))
    have HY1 := Lib.hid (BoxV.new w1 38 #[.string (S (m)), .int .i64 (0)])
    have T1 := Lib.hid ((T0.out.trans t1 (by simp)).trans a2 (by simp))
    clear t1 a2 HR HT HP T0
    go_upto_region 10 with fail
    generalize w1.alloc (.cells #[.string (S (m)), .int .i64 (0)] 38) = W at *
    generalize w1.heap.size = b8 at *
    have y0 := HY1.out.cell 0
    have y1 := HY1.out.cell 1
    have ly := HY1.out.lt
    simp only [List.getElem?_toArray, List.getElem?_cons_zero, List.getElem?_cons_succ] at y0 y1
    have r0 := HR1.out.cell 0
    have r1 := HR1.out.cell 1
    have lr := HR1.out.lt
    have fr := HR1.out.fr
    have x0 := HT1.out.cell 0
    have x1 := HT1.out.cell 1
    have x2 := HT1.out.cell 2
    have x3 := HT1.out.cell 3
    have lx := HT1.out.lt
    have fx := HT1.out.fr
    simp only [List.getElem?_toArray, List.getElem?_cons_zero, List.getElem?_cons_succ] at r0 r1 x0 x1 x2 x3
    have ts : Touch [w.heap.size + 1] W ((W.setCell ⟨w.heap.size + 1, 0, none⟩ (.string (S (m)))).setCell ⟨w.heap.size + 1, 1, none⟩ (.int .i64 (0))) := ((Touch.refl _ W).setCell (a := ⟨w.heap.size + 1, 0, none⟩) (.inl (by simp)) _).setCell (a := ⟨w.heap.size + 1, 1, none⟩) (.inl (by simp)) _
    have ht2 := HT1.out.carry ts (by simp)
    have hs0 := ht2.set 0 (.int .u64 (N : Int))
    have z1 := hs0.cell 1
    have q1 := hs0.fr 1
    simp only [List.setIfInBounds_toArray, List.set_cons_succ, List.set_cons_zero, List.getElem?_toArray, List.getElem?_cons_zero, List.getElem?_cons_succ] at z1
    have sf := store_f64 (v := .float .f64 0) z1 q1 rfl
    clear z1 q1 hs0
    have G7 := Lib.hid ((((ht2.set 0 (.int .u64 (N : Int))).set 1 (.float .f64 0)).set 2 (.string ⟨#[]⟩)).set 3 (.bool false))
    have tt := (((((Touch.refl [w.heap.size + 1 + 1] ((W.setCell ⟨w.heap.size + 1, 0, none⟩ (.string (S (m)))).setCell ⟨w.heap.size + 1, 1, none⟩ (.int .i64 (0)))).setCell (a := ⟨w.heap.size + 1 + 1, 0, none⟩) (.inl (by simp)) (.int .u64 (N : Int))).setCell (a := ⟨w.heap.size + 1 + 1, 1, none⟩) (.inl (by simp)) (.float .f64 0)).setCell (a := ⟨w.heap.size + 1 + 1, 2, none⟩) (.inl (by simp)) (.string ⟨#[]⟩)).setCell (a := ⟨w.heap.size + 1 + 1, 3, none⟩) (.inl (by simp)) (.bool false))
    have G6 := Lib.hid (((HR1.out.set 0 (.string (S (m)))).set 1 (.int .i64 (0))).carry tt (by simp))
    have TT := Lib.hid ((T1.out.trans ts (fun b hb => .inr (by simp at hb; omega))).trans tt (fun b hb => .inr (by simp at hb; omega)))
    clear ts tt ht2
    go_wp2_with fail
    have d0 := G6.out.cell 0
    have d1 := G6.out.cell 1
    have f0 := G7.out.cell 0
    have f1 := G7.out.cell 1
    have f2 := G7.out.cell 2
    have f3 := G7.out.cell 3
    simp only [List.setIfInBounds_toArray, List.set_cons_succ, List.set_cons_zero, List.getElem?_toArray, List.getElem?_cons_zero, List.getElem?_cons_succ] at d0 d1 f0 f1 f2 f3
    refine bodyPost_ret (v := .tuple #[.agg #[.string (S (m)), .int .i64 (0)], .agg #[.int .u64 (N : Int), .float .f64 0, .string ⟨#[]⟩, .bool false]]) (by simp [results, Try.results9, go_sem, d0, d1, f0, f1, f2, f3]) rfl ?_
    exact DidS.ok rfl TT.out
  · rw [show varQ l = .error (varE l) by unfold varQ; rw [if_neg h8]]
    have hw : IntKind.u64.wrap 0 = 0 := by rw [IntKind.wrap_u64]; rfl
    generalize varV l = V at *
    generalize varE l = q at *
    go_enter Try.func9, Try.ntmps9
    go_wp2_with fail
    refine (U.out _).mono ?_
    intro e w1 hj
    obtain ⟨rfl, t1⟩ := hj.2 h8
    clear hj U
    have a2 : Touch [] w1 (w1.alloc (.cells #[.string (S (l)), .int .i64 (q)] 38)) := (Touch.refl [] w1).alloc _
    have HR1 := Lib.hid ((HR.out.carry t1 (by simp)).carry a2 (by simp))
    have HT1 := Lib.hid ((HT.out.carry t1 (by simp)).carry a2 (by simp))
    have HY1 := Lib.hid (BoxV.new w1 38 #[.string (S (l)), .int .i64 (q)])
    have T1 := Lib.hid ((T0.out.trans t1 (by simp)).trans a2 (by simp))
    clear t1 a2 HR HT HP T0
    go_upto_region 10 with fail
    generalize w1.alloc (.cells #[.string (S (l)), .int .i64 (q)] 38) = W at *
    generalize w1.heap.size = b8 at *
    have y0 := HY1.out.cell 0
    have y1 := HY1.out.cell 1
    have ly := HY1.out.lt
    simp only [List.getElem?_toArray, List.getElem?_cons_zero, List.getElem?_cons_succ] at y0 y1
    have r0 := HR1.out.cell 0
    have r1 := HR1.out.cell 1
    have lr := HR1.out.lt
    have fr := HR1.out.fr
    have x0 := HT1.out.cell 0
    have x1 := HT1.out.cell 1
    have x2 := HT1.out.cell 2
    have x3 := HT1.out.cell 3
    have lx := HT1.out.lt
    have fx := HT1.out.fr
    simp only [List.getElem?_toArray, List.getElem?_cons_zero, List.getElem?_cons_succ] at r0 r1 x0 x1 x2 x3
    have ts : Touch [w.heap.size + 1] W ((W.setCell ⟨w.heap.size + 1, 0, none⟩ (.string (S (l)))).setCell ⟨w.heap.size + 1, 1, none⟩ (.int .i64 (q))) := ((Touch.refl _ W).setCell (a := ⟨w.heap.size + 1, 0, none⟩) (.inl (by simp)) _).setCell (a := ⟨w.heap.size + 1, 1, none⟩) (.inl (by simp)) _
    have ht2 := HT1.out.carry ts (by simp)
    have hs0 := ht2.set 0 (.int .u64 0)
    have z1 := hs0.cell 1
    have q1 := hs0.fr 1
    simp only [List.setIfInBounds_toArray, List.set_cons_succ, List.set_cons_zero, List.getElem?_toArray, List.getElem?_cons_zero, List.getElem?_cons_succ] at z1
    have sf := store_f64 (v := .float .f64 0) z1 q1 rfl
    clear z1 q1 hs0
    have G7 := Lib.hid ((((ht2.set 0 (.int .u64 0)).set 1 (.float .f64 0)).set 2 (.string ⟨#[]⟩)).set 3 (.bool false))
    have tt := (((((Touch.refl [w.heap.size + 1 + 1] ((W.setCell ⟨w.heap.size + 1, 0, none⟩ (.string (S (l)))).setCell ⟨w.heap.size + 1, 1, none⟩ (.int .i64 (q)))).setCell (a := ⟨w.heap.size + 1 + 1, 0, none⟩) (.inl (by simp)) (.int .u64 0)).setCell (a := ⟨w.heap.size + 1 + 1, 1, none⟩) (.inl (by simp)) (.float .f64 0)).setCell (a := ⟨w.heap.size + 1 + 1, 2, none⟩) (.inl (by simp)) (.string ⟨#[]⟩)).setCell (a := ⟨w.heap.size + 1 + 1, 3, none⟩) (.inl (by simp)) (.bool false))
    have G6 := Lib.hid (((HR1.out.set 0 (.string (S (l)))).set 1 (.int .i64 (q))).carry tt (by simp))
    have TT := Lib.hid ((T1.out.trans ts (fun b hb => .inr (by simp at hb; omega))).trans tt (fun b hb => .inr (by simp at hb; omega)))
    clear ts tt ht2
    go_wp2_with fail
    have d0 := G6.out.cell 0
    have d1 := G6.out.cell 1
    have f0 := G7.out.cell 0
    have f1 := G7.out.cell 1
    have f2 := G7.out.cell 2
    have f3 := G7.out.cell 3
    simp only [List.setIfInBounds_toArray, List.set_cons_succ, List.set_cons_zero, List.getElem?_toArray, List.getElem?_cons_zero, List.getElem?_cons_succ] at d0 d1 f0 f1 f2 f3
    refine bodyPost_ret (v := .tuple #[.agg #[.string (S (l)), .int .i64 (q)], .agg #[.int .u64 0, .float .f64 0, .string ⟨#[]⟩, .bool false]]) (by simp [results, Try.results9, go_sem, d0, d1, f0, f1, f2, f3]) rfl ?_
    exact DidS.er _ Tld.zero rfl TT.out
set_option maxHeartbeats 1600000 in
set_option maxRecDepth 100000 in
theorem same_5 (hl : l.length ≤ 1000000000) (n : Int) (w : World) : Calls Try.prog 9 #[rv l 0, .int .i64 5, .int .i64 n] w (DidS w (floatQ l)) := by
  have t0 : Touch [] w (((w.alloc (.cells #[.string (S l), .int .i64 0] 38)).alloc (.cells #[.string ⟨#[]⟩, .int .i64 0] 38)).alloc (.cells #[.int .u64 0, .float .f64 0, .string ⟨#[]⟩, .bool false] 33)) := (((Touch.refl [] w).alloc _).alloc _).alloc _
  have s1 : (w.alloc (.cells #[.string (S l), .int .i64 0] 38)).heap.size = w.heap.size + 1 := by simp
  have s2 : ((w.alloc (.cells #[.string (S l), .int .i64 0] 38)).alloc (.cells #[.string ⟨#[]⟩, .int .i64 0] 38)).heap.size = w.heap.size + 1 + 1 := by simp
  have HP := Lib.hid (show BoxV (((w.alloc (.cells #[.string (S l), .int .i64 0] 38)).alloc (.cells #[.string ⟨#[]⟩, .int .i64 0] 38)).alloc (.cells #[.int .u64 0, .float .f64 0, .string ⟨#[]⟩, .bool false] 33)) w.heap.size 38 #[.string (S l), .int .i64 0] from ((BoxV.new w 38 #[.string (S l), .int .i64 0]).carry ((Touch.refl [] _).alloc (.cells #[.string ⟨#[]⟩, .int .i64 0] 38)) (by simp)).carry ((Touch.refl [] _).alloc (.cells #[.int .u64 0, .float .f64 0, .string ⟨#[]⟩, .bool false] 33)) (by simp))
  have HR := Lib.hid (show BoxV (((w.alloc (.cells #[.string (S l), .int .i64 0] 38)).alloc (.cells #[.string ⟨#[]⟩, .int .i64 0] 38)).alloc (.cells #[.int .u64 0, .float .f64 0, .string ⟨#[]⟩, .bool false] 33)) (w.heap.size + 1) 38 #[.string ⟨#[]⟩, .int .i64 0] from by
    have := (BoxV.new (w.alloc (.cells #[.string (S l), .int .i64 0] 38)) 38 #[.string ⟨#[]⟩, .int .i64 0]).carry ((Touch.refl [] _).alloc (.cells #[.int .u64 0, .float .f64 0, .string ⟨#[]⟩, .bool false] 33)) (by simp)
    rwa [s1] at this)
  have HT := Lib.hid (show BoxV (((w.alloc (.cells #[.string (S l), .int .i64 0] 38)).alloc (.cells #[.string ⟨#[]⟩, .int .i64 0] 38)).alloc (.cells #[.int .u64 0, .float .f64 0, .string ⟨#[]⟩, .bool false] 33)) (w.heap.size + 1 + 1) 33 #[.int .u64 0, .float .f64 0, .string ⟨#[]⟩, .bool false] from by
    have := BoxV.new ((w.alloc (.cells #[.string (S l), .int .i64 0] 38)).alloc (.cells #[.string ⟨#[]⟩, .int .i64 0] 38)) 33 #[.int .u64 0, .float .f64 0, .string ⟨#[]⟩, .bool false]
    rwa [s2] at this)
  have T0 := Lib.hid t0
  unfold rv at *
  clear t0 s1 s2
  by_cases h8 : 8 ≤ l.length
  · by_cases hn : isN (num (l.take 8))
    · by_cases hq : num (l.take 8) = 9221120237041090560
      · rw [show floatQ l = .ok (⟨0, num (l.take 8), [], false⟩, l.drop 8) by unfold floatQ; rw [if_pos h8, if_neg (fun h => h.2 hq)]]
        have U := Lib.hid (fun w => refFloat_nan hl h8 hn hq w)
        unfold rv at U
        generalize num (l.take 8) = N at *
        generalize l.drop 8 = m at *
        clear hn hq
        go_enter Try.func9, Try.ntmps9
        go_wp2_with fail
        refine (U.out _).mono ?_
        rintro e w1 ⟨rfl, t1⟩
        clear U
        have a2 : Touch [] w1 (w1.alloc (.cells #[.string (S (m)), .int .i64 (0)] 38)) := (Touch.refl [] w1).alloc _
        have HR1 := Lib.hid ((HR.out.carry t1 (by simp)).carry a2 (by simp))
        have HT1 := Lib.hid ((HT.out.carry t1 (by simp)).carry a2 (by simp))
        have HY1 := Lib.hid (BoxV.new w1 38 #[.string (S (m)), .int .i64 (0)])
        have T1 := Lib.hid ((T0.out.trans t1 (by simp)).trans a2 (by simp))
        clear t1 a2 HR HT HP T0
        go_upto_region 13 with fail
        generalize w1.alloc (.cells #[.string (S (m)), .int .i64 (0)] 38) = W at *
        generalize w1.heap.size = b8 at *
        have y0 := HY1.out.cell 0
        have y1 := HY1.out.cell 1
        have ly := HY1.out.lt
        simp only [List.getElem?_toArray, List.getElem?_cons_zero, List.getElem?_cons_succ] at y0 y1
        have r0 := HR1.out.cell 0
        have r1 := HR1.out.cell 1
        have lr := HR1.out.lt
        have fr := HR1.out.fr
        have x0 := HT1.out.cell 0
        have x1 := HT1.out.cell 1
        have x2 := HT1.out.cell 2
        have x3 := HT1.out.cell 3
        have lx := HT1.out.lt
        have fx := HT1.out.fr
        simp only [List.getElem?_toArray, List.getElem?_cons_zero, List.getElem?_cons_succ] at r0 r1 x0 x1 x2 x3
        have ts : Touch [w.heap.size + 1] W ((W.setCell ⟨w.heap.size + 1, 0, none⟩ (.string (S (m)))).setCell ⟨w.heap.size + 1, 1, none⟩ (.int .i64 (0))) := ((Touch.refl _ W).setCell (a := ⟨w.heap.size + 1, 0, none⟩) (.inl (by simp)) _).setCell (a := ⟨w.heap.size + 1, 1, none⟩) (.inl (by simp)) _
        have ht2 := HT1.out.carry ts (by simp)
        have hs0 := ht2.set 0 (.int .u64 0)
        have z1 := hs0.cell 1
        have q1 := hs0.fr 1
        simp only [List.setIfInBounds_toArray, List.set_cons_succ, List.set_cons_zero, List.getElem?_toArray, List.getElem?_cons_zero, List.getElem?_cons_succ] at z1
        have sf := store_f64 (v := .float .f64 N) z1 q1 rfl
        clear z1 q1 hs0
        have G7 := Lib.hid ((((ht2.set 0 (.int .u64 0)).set 1 (.float .f64 N)).set 2 (.string ⟨#[]⟩)).set 3 (.bool false))
        have tt := (((((Touch.refl [w.heap.size + 1 + 1] ((W.setCell ⟨w.heap.size + 1, 0, none⟩ (.string (S (m)))).setCell ⟨w.heap.size + 1, 1, none⟩ (.int .i64 (0)))).setCell (a := ⟨w.heap.size + 1 + 1, 0, none⟩) (.inl (by simp)) (.int .u64 0)).setCell (a := ⟨w.heap.size + 1 + 1, 1, none⟩) (.inl (by simp)) (.float .f64 N)).setCell (a := ⟨w.heap.size + 1 + 1, 2, none⟩) (.inl (by simp)) (.string ⟨#[]⟩)).setCell (a := ⟨w.heap.size + 1 + 1, 3, none⟩) (.inl (by simp)) (.bool false))
        have G6 := Lib.hid (((HR1.out.set 0 (.string (S (m)))).set 1 (.int .i64 (0))).carry tt (by simp))
        have TT := Lib.hid ((T1.out.trans ts (fun b hb => .inr (by simp at hb; omega))).trans tt (fun b hb => .inr (by simp at hb; omega)))
        clear ts tt ht2
        go_wp2_with fail
        have d0 := G6.out.cell 0
        have d1 := G6.out.cell 1
        have f0 := G7.out.cell 0
        have f1 := G7.out.cell 1
        have f2 := G7.out.cell 2
        have f3 := G7.out.cell 3
        simp only [List.setIfInBounds_toArray, List.set_cons_succ, List.set_cons_zero, List.getElem?_toArray, List.getElem?_cons_zero, List.getElem?_cons_succ] at d0 d1 f0 f1 f2 f3
        refine bodyPost_ret (v := .tuple #[.agg #[.string (S (m)), .int .i64 (0)], .agg #[.int .u64 0, .float .f64 N, .string ⟨#[]⟩, .bool false]]) (by simp [results, Try.results9, go_sem, d0, d1, f0, f1, f2, f3]) rfl ?_
        exact DidS.ok rfl TT.out
      · rw [show floatQ l = .error 21 by unfold floatQ; rw [if_pos h8, if_pos ⟨hn, hq⟩]]
        have U := Lib.hid (fun w => refFloat_bad hl h8 hn hq w)
        unfold rv at U
        generalize l.drop 8 = m at *
        go_enter Try.func9, Try.ntmps9
        go_wp2_with fail
        refine (U.out _).mono ?_
        rintro e w1 ⟨rfl, t1⟩
        clear U
        have a2 : Touch [] w1 (w1.alloc (.cells #[.string (S (m)), .int .i64 (21)] 38)) := (Touch.refl [] w1).alloc _
        have HR1 := Lib.hid ((HR.out.carry t1 (by simp)).carry a2 (by simp))
        have HT1 := Lib.hid ((HT.out.carry t1 (by simp)).carry a2 (by simp))
        have HY1 := Lib.hid (BoxV.new w1 38 #[.string (S (m)), .int .i64 (21)])
        have T1 := Lib.hid ((T0.out.trans t1 (by simp)).trans a2 (by simp))
        clear t1 a2 HR HT HP T0
        go_upto_region 13 with fail
        generalize w1.alloc (.cells #[.string (S (m)), .int .i64 (21)] 38) = W at *
        generalize w1.heap.size = b8 at *
        have y0 := HY1.out.cell 0
        have y1 := HY1.out.cell 1
        have ly := HY1.out.lt
        simp only [List.getElem?_toArray, List.getElem?_cons_zero, List.getElem?_cons_succ] at y0 y1
        have r0 := HR1.out.cell 0
        have r1 := HR1.out.cell 1
        have lr := HR1.out.lt
        have fr := HR1.out.fr
        have x0 := HT1.out.cell 0
        have x1 := HT1.out.cell 1
        have x2 := HT1.out.cell 2
        have x3 := HT1.out.cell 3
        have lx := HT1.out.lt
        have fx := HT1.out.fr
        simp only [List.getElem?_toArray, List.getElem?_cons_zero, List.getElem?_cons_succ] at r0 r1 x0 x1 x2 x3
        have ts : Touch [w.heap.size + 1] W ((W.setCell ⟨w.heap.size + 1, 0, none⟩ (.string (S (m)))).setCell ⟨w.heap.size + 1, 1, none⟩ (.int .i64 (21))) := ((Touch.refl _ W).setCell (a := ⟨w.heap.size + 1, 0, none⟩) (.inl (by simp)) _).setCell (a := ⟨w.heap.size + 1, 1, none⟩) (.inl (by simp)) _
        have ht2 := HT1.out.carry ts (by simp)
        have hs0 := ht2.set 0 (.int .u64 0)
        have z1 := hs0.cell 1
        have q1 := hs0.fr 1
        simp only [List.setIfInBounds_toArray, List.set_cons_succ, List.set_cons_zero, List.getElem?_toArray, List.getElem?_cons_zero, List.getElem?_cons_succ] at z1
        have sf := store_f64 (v := .float .f64 0) z1 q1 rfl
        clear z1 q1 hs0
        have G7 := Lib.hid ((((ht2.set 0 (.int .u64 0)).set 1 (.float .f64 0)).set 2 (.string ⟨#[]⟩)).set 3 (.bool false))
        have tt := (((((Touch.refl [w.heap.size + 1 + 1] ((W.setCell ⟨w.heap.size + 1, 0, none⟩ (.string (S (m)))).setCell ⟨w.heap.size + 1, 1, none⟩ (.int .i64 (21)))).setCell (a := ⟨w.heap.size + 1 + 1, 0, none⟩) (.inl (by simp)) (.int .u64 0)).setCell (a := ⟨w.heap.size + 1 + 1, 1, none⟩) (.inl (by simp)) (.float .f64 0)).setCell (a := ⟨w.heap.size + 1 + 1, 2, none⟩) (.inl (by simp)) (.string ⟨#[]⟩)).setCell (a := ⟨w.heap.size + 1 + 1, 3, none⟩) (.inl (by simp)) (.bool false))
        have G6 := Lib.hid (((HR1.out.set 0 (.string (S (m)))).set 1 (.int .i64 (21))).carry tt (by simp))
        have TT := Lib.hid ((T1.out.trans ts (fun b hb => .inr (by simp at hb; omega))).trans tt (fun b hb => .inr (by simp at hb; omega)))
        clear ts tt ht2
        go_wp2_with fail
        have d0 := G6.out.cell 0
        have d1 := G6.out.cell 1
        have f0 := G7.out.cell 0
        have f1 := G7.out.cell 1
        have f2 := G7.out.cell 2
        have f3 := G7.out.cell 3
        simp only [List.setIfInBounds_toArray, List.set_cons_succ, List.set_cons_zero, List.getElem?_toArray, List.getElem?_cons_zero, List.getElem?_cons_succ] at d0 d1 f0 f1 f2 f3
        refine bodyPost_ret (v := .tuple #[.agg #[.string (S (m)), .int .i64 (21)], .agg #[.int .u64 0, .float .f64 0, .string ⟨#[]⟩, .bool false]]) (by simp [results, Try.results9, go_sem, d0, d1, f0, f1, f2, f3]) rfl ?_
        exact DidS.er _ Tld.zero rfl TT.out
    · rw [show floatQ l = .ok (⟨0, num (l.take 8), [], false⟩, l.drop 8) by unfold floatQ; rw [if_pos h8, if_neg (fun h => hn h.1)]]
      have U := Lib.hid (fun w => refFloat_num hl h8 hn w)
      unfold rv at U
      generalize num (l.take 8) = N at *
      generalize l.drop 8 = m at *
      clear hn
      go_enter Try.func9, Try.ntmps9
      go_wp2_with fail
      refine (U.out _).mono ?_
      rintro e w1 ⟨rfl, t1⟩
      clear U
      have a2 : Touch [] w1 (w1.alloc (.cells #[.string (S (m)), .int .i64 (0)] 38)) := (Touch.refl [] w1).alloc _
      have HR1 := Lib.hid ((HR.out.carry t1 (by simp)).carry a2 (by simp))
      have HT1 := Lib.hid ((HT.out.carry t1 (by simp)).carry a2 (by simp))
      have HY1 := Lib.hid (BoxV.new w1 38 #[.string (S (m)), .int .i64 (0)])
      have T1 := Lib.hid ((T0.out.trans t1 (by simp)).trans a2 (by simp))
      clear t1 a2 HR HT HP T0
      go_upto_region 13 with fail
      generalize w1.alloc (.cells #[.string (S (m)), .int .i64 (0)] 38) = W at *
      generalize w1.heap.size = b8 at *
      have y0 := HY1.out.cell 0
      have y1 := HY1.out.cell 1
      have ly := HY1.out.lt
      simp only [List.getElem?_toArray, List.getElem?_cons_zero, List.getElem?_cons_succ] at y0 y1
      have r0 := HR1.out.cell 0
      have r1 := HR1.out.cell 1
      have lr := HR1.out.lt
      have fr := HR1.out.fr
      have x0 := HT1.out.cell 0
      have x1 := HT1.out.cell 1
      have x2 := HT1.out.cell 2
      have x3 := HT1.out.cell 3
      have lx := HT1.out.lt
      have fx := HT1.out.fr
      simp only [List.getElem?_toArray, List.getElem?_cons_zero, List.getElem?_cons_succ] at r0 r1 x0 x1 x2 x3
      have ts : Touch [w.heap.size + 1] W ((W.setCell ⟨w.heap.size + 1, 0, none⟩ (.string (S (m)))).setCell ⟨w.heap.size + 1, 1, none⟩ (.int .i64 (0))) := ((Touch.refl _ W).setCell (a := ⟨w.heap.size + 1, 0, none⟩) (.inl (by simp)) _).setCell (a := ⟨w.heap.size + 1, 1, none⟩) (.inl (by simp)) _
      have ht2 := HT1.out.carry ts (by simp)
      have hs0 := ht2.set 0 (.int .u64 0)
      have z1 := hs0.cell 1
      have q1 := hs0.fr 1
      simp only [List.setIfInBounds_toArray, List.set_cons_succ, List.set_cons_zero, List.getElem?_toArray, List.getElem?_cons_zero, List.getElem?_cons_succ] at z1
      have sf := store_f64 (v := .float .f64 N) z1 q1 rfl
      clear z1 q1 hs0
      have G7 := Lib.hid ((((ht2.set 0 (.int .u64 0)).set 1 (.float .f64 N)).set 2 (.string ⟨#[]⟩)).set 3 (.bool false))
      have tt := (((((Touch.refl [w.heap.size + 1 + 1] ((W.setCell ⟨w.heap.size + 1, 0, none⟩ (.string (S (m)))).setCell ⟨w.heap.size + 1, 1, none⟩ (.int .i64 (0)))).setCell (a := ⟨w.heap.size + 1 + 1, 0, none⟩) (.inl (by simp)) (.int .u64 0)).setCell (a := ⟨w.heap.size + 1 + 1, 1, none⟩) (.inl (by simp)) (.float .f64 N)).setCell (a := ⟨w.heap.size + 1 + 1, 2, none⟩) (.inl (by simp)) (.string ⟨#[]⟩)).setCell (a := ⟨w.heap.size + 1 + 1, 3, none⟩) (.inl (by simp)) (.bool false))
      have G6 := Lib.hid (((HR1.out.set 0 (.string (S (m)))).set 1 (.int .i64 (0))).carry tt (by simp))
      have TT := Lib.hid ((T1.out.trans ts (fun b hb => .inr (by simp at hb; omega))).trans tt (fun b hb => .inr (by simp at hb; omega)))
      clear ts tt ht2
      go_wp2_with fail
      have d0 := G6.out.cell 0
      have d1 := G6.out.cell 1
      have f0 := G7.out.cell 0
      have f1 := G7.out.cell 1
      have f2 := G7.out.cell 2
      have f3 := G7.out.cell 3
      simp only [List.setIfInBounds_toArray, List.set_cons_succ, List.set_cons_zero, List.getElem?_toArray, List.getElem?_cons_zero, List.getElem?_cons_succ] at d0 d1 f0 f1 f2 f3
      refine bodyPost_ret (v := .tuple #[.agg #[.string (S (m)), .int .i64 (0)], .agg #[.int .u64 0, .float .f64 N, .string ⟨#[]⟩, .bool false]]) (by simp [results, Try.results9, go_sem, d0, d1, f0, f1, f2, f3]) rfl ?_
      exact DidS.ok rfl TT.out
  · rw [show floatQ l = .error 5 by unfold floatQ; rw [if_neg h8]]
    have U := Lib.hid (fun w => refFloat_short hl (by omega) w)
    unfold rv at U
    go_enter Try.func9, Try.ntmps9
    go_wp2_with fail
    refine (U.out _).mono ?_
    rintro e w1 ⟨rfl, t1⟩
    clear U
    have a2 : Touch [] w1 (w1.alloc (.cells #[.string (S (l)), .int .i64 (5)] 38)) := (Touch.refl [] w1).alloc _
    have HR1 := Lib.hid ((HR.out.carry t1 (by simp)).carry a2 (by simp))
    have HT1 := Lib.hid ((HT.out.carry t1 (by simp)).carry a2 (by simp))
    have HY1 := Lib.hid (BoxV.new w1 38 #[.string (S (l)), .int .i64 (5)])
    have T1 := Lib.hid ((T0.out.trans t1 (by simp)).trans a2 (by simp))
    clear t1 a2 HR HT HP T0
    go_upto_region 13 with fail
    generalize w1.alloc (.cells #[.string (S (l)), .int .i64 (5)] 38) = W at *
    generalize w1.heap.size = b8 at *
    have y0 := HY1.out.cell 0
    have y1 := HY1.out.cell 1
    have ly := HY1.out.lt
    simp only [List.getElem?_toArray, List.getElem?_cons_zero, List.getElem?_cons_succ] at y0 y1
    have r0 := HR1.out.cell 0
    have r1 := HR1.out.cell 1
    have lr := HR1.out.lt
    have fr := HR1.out.fr
    have x0 := HT1.out.cell 0
    have x1 := HT1.out.cell 1
    have x2 := HT1.out.cell 2
    have x3 := HT1.out.cell 3
    have lx := HT1.out.lt
    have fx := HT1.out.fr
    simp only [List.getElem?_toArray, List.getElem?_cons_zero, List.getElem?_cons_succ] at r0 r1 x0 x1 x2 x3
    have ts : Touch [w.heap.size + 1] W ((W.setCell ⟨w.heap.size + 1, 0, none⟩ (.string (S (l)))).setCell ⟨w.heap.size + 1, 1, none⟩ (.int .i64 (5))) := ((Touch.refl _ W).setCell (a := ⟨w.heap.size + 1, 0, none⟩) (.inl (by simp)) _).setCell (a := ⟨w.heap.size + 1, 1, none⟩) (.inl (by simp)) _
    have ht2 := HT1.out.carry ts (by simp)
    have hs0 := ht2.set 0 (.int .u64 0)
    have z1 := hs0.cell 1
    have q1 := hs0.fr 1
    simp only [List.setIfInBounds_toArray, List.set_cons_succ, List.set_cons_zero, List.getElem?_toArray, List.getElem?_cons_zero, List.getElem?_cons_succ] at z1
    have sf := store_f64 (v := .float .f64 0) z1 q1 rfl
    clear z1 q1 hs0
    have G7 := Lib.hid ((((ht2.set 0 (.int .u64 0)).set 1 (.float .f64 0)).set 2 (.string ⟨#[]⟩)).set 3 (.bool false))
    have tt := (((((Touch.refl [w.heap.size + 1 + 1] ((W.setCell ⟨w.heap.size + 1, 0, none⟩ (.string (S (l)))).setCell ⟨w.heap.size + 1, 1, none⟩ (.int .i64 (5)))).setCell (a := ⟨w.heap.size + 1 + 1, 0, none⟩) (.inl (by simp)) (.int .u64 0)).setCell (a := ⟨w.heap.size + 1 + 1, 1, none⟩) (.inl (by simp)) (.float .f64 0)).setCell (a := ⟨w.heap.size + 1 + 1, 2, none⟩) (.inl (by simp)) (.string ⟨#[]⟩)).setCell (a := ⟨w.heap.size + 1 + 1, 3, none⟩) (.inl (by simp)) (.bool false))
    have G6 := Lib.hid (((HR1.out.set 0 (.string (S (l)))).set 1 (.int .i64 (5))).carry tt (by simp))
    have TT := Lib.hid ((T1.out.trans ts (fun b hb => .inr (by simp at hb; omega))).trans tt (fun b hb => .inr (by simp at hb; omega)))
    clear ts tt ht2
    go_wp2_with fail
    have d0 := G6.out.cell 0
    have d1 := G6.out.cell 1
    have f0 := G7.out.cell 0
    have f1 := G7.out.cell 1
    have f2 := G7.out.cell 2
    have f3 := G7.out.cell 3
    simp only [List.setIfInBounds_toArray, List.set_cons_succ, List.set_cons_zero, List.getElem?_toArray, List.getElem?_cons_zero, List.getElem?_cons_succ] at d0 d1 f0 f1 f2 f3
    refine bodyPost_ret (v := .tuple #[.agg #[.string (S (l)), .int .i64 (5)], .agg #[.int .u64 0, .float .f64 0, .string ⟨#[]⟩, .bool false]]) (by simp [results, Try.results9, go_sem, d0, d1, f0, f1, f2, f3]) rfl ?_
    exact DidS.er _ Tld.zero rfl TT.out
set_option maxHeartbeats 1600000 in
set_option maxRecDepth 100000 in
theorem same_6 (hl : l.length ≤ 1000000000) (n : Int) (w : World) : Calls Try.prog 9 #[rv l 0, .int .i64 6, .int .i64 n] w (DidS w (boolQ l)) := by
  have t0 : Touch [] w (((w.alloc (.cells #[.string (S l), .int .i64 0] 38)).alloc (.cells #[.string ⟨#[]⟩, .int .i64 0] 38)).alloc (.cells #[.int .u64 0, .float .f64 0, .string ⟨#[]⟩, .bool false] 33)) := (((Touch.refl [] w).alloc _).alloc _).alloc _
  have s1 : (w.alloc (.cells #[.string (S l), .int .i64 0] 38)).heap.size = w.heap.size + 1 := by simp
  have s2 : ((w.alloc (.cells #[.string (S l), .int .i64 0] 38)).alloc (.cells #[.string ⟨#[]⟩, .int .i64 0] 38)).heap.size = w.heap.size + 1 + 1 := by simp
  have HP := Lib.hid (show BoxV (((w.alloc (.cells #[.string (S l), .int .i64 0] 38)).alloc (.cells #[.string ⟨#[]⟩, .int .i64 0] 38)).alloc (.cells #[.int .u64 0, .float .f64 0, .string ⟨#[]⟩, .bool false] 33)) w.heap.size 38 #[.string (S l), .int .i64 0] from ((BoxV.new w 38 #[.string (S l), .int .i64 0]).carry ((Touch.refl [] _).alloc (.cells #[.string ⟨#[]⟩, .int .i64 0] 38)) (by simp)).carry ((Touch.refl [] _).alloc (.cells #[.int .u64 0, .float .f64 0, .string ⟨#[]⟩, .bool false] 33)) (by simp))
  have HR := Lib.hid (show BoxV (((w.alloc (.cells #[.string (S l), .int .i64 0] 38)).alloc (.cells #[.string ⟨#[]⟩, .int .i64 0] 38)).alloc (.cells #[.int .u64 0, .float .f64 0, .string ⟨#[]⟩, .bool false] 33)) (w.heap.size + 1) 38 #[.string ⟨#[]⟩, .int .i64 0] from by
    have := (BoxV.new (w.alloc (.cells #[.string (S l), .int .i64 0] 38)) 38 #[.string ⟨#[]⟩, .int .i64 0]).carry ((Touch.refl [] _).alloc (.cells #[.int .u64 0, .float .f64 0, .string ⟨#[]⟩, .bool false] 33)) (by simp)
    rwa [s1] at this)
  have HT := Lib.hid (show BoxV (((w.alloc (.cells #[.string (S l), .int .i64 0] 38)).alloc (.cells #[.string ⟨#[]⟩, .int .i64 0] 38)).alloc (.cells #[.int .u64 0, .float .f64 0, .string ⟨#[]⟩, .bool false] 33)) (w.heap.size + 1 + 1) 33 #[.int .u64 0, .float .f64 0, .string ⟨#[]⟩, .bool false] from by
    have := BoxV.new ((w.alloc (.cells #[.string (S l), .int .i64 0] 38)).alloc (.cells #[.string ⟨#[]⟩, .int .i64 0] 38)) 33 #[.int .u64 0, .float .f64 0, .string ⟨#[]⟩, .bool false]
    rwa [s2] at this)
  have T0 := Lib.hid t0
  unfold rv at *
  clear t0 s1 s2
  cases l with
  | nil =>
    rw [show boolQ [] = .error 5 from rfl]
    have U := Lib.hid (fun w => refBool_short (l := []) hl (by simp) w)
    unfold rv at U
    go_enter Try.func9, Try.ntmps9
    go_wp2_with fail
    refine (U.out _).mono ?_
    rintro e w1 ⟨rfl, t1⟩
    clear U
    have a2 : Touch [] w1 (w1.alloc (.cells #[.string (S ([])), .int .i64 (5)] 38)) := (Touch.refl [] w1).alloc _
    have HR1 := Lib.hid ((HR.out.carry t1 (by simp)).carry a2 (by simp))
    have HT1 := Lib.hid ((HT.out.carry t1 (by simp)).carry a2 (by simp))
    have HY1 := Lib.hid (BoxV.new w1 38 #[.string (S ([])), .int .i64 (5)])
    have T1 := Lib.hid ((T0.out.trans t1 (by simp)).trans a2 (by simp))
    clear t1 a2 HR HT HP T0
    go_upto_region 16 with fail
    generalize w1.alloc (.cells #[.string (S ([])), .int .i64 (5)] 38) = W at *
    generalize w1.heap.size = b8 at *
    have y0 := HY1.out.cell 0
    have y1 := HY1.out.cell 1
    have ly := HY1.out.lt
    simp only [List.getElem?_toArray, List.getElem?_cons_zero, List.getElem?_cons_succ] at y0 y1
    have r0 := HR1.out.cell 0
    have r1 := HR1.out.cell 1
    have lr := HR1.out.lt
    have fr := HR1.out.fr
    have x0 := HT1.out.cell 0
    have x1 := HT1.out.cell 1
    have x2 := HT1.out.cell 2
    have x3 := HT1.out.cell 3
    have lx := HT1.out.lt
    have fx := HT1.out.fr
    simp only [List.getElem?_toArray, List.getElem?_cons_zero, List.getElem?_cons_succ] at r0 r1 x0 x1 x2 x3
    have ts : Touch [w.heap.size + 1] W ((W.setCell ⟨w.heap.size + 1, 0, none⟩ (.string (S ([])))).setCell ⟨w.heap.size + 1, 1, none⟩ (.int .i64 (5))) := ((Touch.refl _ W).setCell (a := ⟨w.heap.size + 1, 0, none⟩) (.inl (by simp)) _).setCell (a := ⟨w.heap.size + 1, 1, none⟩) (.inl (by simp)) _
    have ht2 := HT1.out.carry ts (by simp)
    have hs0 := ht2.set 0 (.int .u64 0)
    have z1 := hs0.cell 1
    have q1 := hs0.fr 1
    simp only [List.setIfInBounds_toArray, List.set_cons_succ, List.set_cons_zero, List.getElem?_toArray, List.getElem?_cons_zero, List.getElem?_cons_succ] at z1
    have sf := store_f64 (v := .float .f64 0) z1 q1 rfl
    clear z1 q1 hs0
    have G7 := Lib.hid ((((ht2.set 0 (.int .u64 0)).set 1 (.float .f64 0)).set 2 (.string ⟨#[]⟩)).set 3 (.bool false))
    have tt := (((((Touch.refl [w.heap.size + 1 + 1] ((W.setCell ⟨w.heap.size + 1, 0, none⟩ (.string (S ([])))).setCell ⟨w.heap.size + 1, 1, none⟩ (.int .i64 (5)))).setCell (a := ⟨w.heap.size + 1 + 1, 0, none⟩) (.inl (by simp)) (.int .u64 0)).setCell (a := ⟨w.heap.size + 1 + 1, 1, none⟩) (.inl (by simp)) (.float .f64 0)).setCell (a := ⟨w.heap.size + 1 + 1, 2, none⟩) (.inl (by simp)) (.string ⟨#[]⟩)).setCell (a := ⟨w.heap.size + 1 + 1, 3, none⟩) (.inl (by simp)) (.bool false))
    have G6 := Lib.hid (((HR1.out.set 0 (.string (S ([])))).set 1 (.int .i64 (5))).carry tt (by simp))
    have TT := Lib.hid ((T1.out.trans ts (fun b hb => .inr (by simp at hb; omega))).trans tt (fun b hb => .inr (by simp at hb; omega)))
    clear ts tt ht2
    go_wp2_with fail
    have d0 := G6.out.cell 0
    have d1 := G6.out.cell 1
    have f0 := G7.out.cell 0
    have f1 := G7.out.cell 1
    have f2 := G7.out.cell 2
    have f3 := G7.out.cell 3
    simp only [List.setIfInBounds_toArray, List.set_cons_succ, List.set_cons_zero, List.getElem?_toArray, List.getElem?_cons_zero, List.getElem?_cons_succ] at d0 d1 f0 f1 f2 f3
    refine bodyPost_ret (v := .tuple #[.agg #[.string (S ([])), .int .i64 (5)], .agg #[.int .u64 0, .float .f64 0, .string ⟨#[]⟩, .bool false]]) (by simp [results, Try.results9, go_sem, d0, d1, f0, f1, f2, f3]) rfl ?_
    exact DidS.er _ Tld.zero rfl TT.out
  | cons b m =>
    have hnm : num ((b :: m).take 1) = b.toNat := by simp [num]
    by_cases hb : b.toNat ≤ 1
    · rw [show boolQ (b :: m) = .ok (⟨0, 0, [], b.toNat == 1⟩, m) by simp only [boolQ]; rw [if_pos hb]]
      have U := Lib.hid (fun w => refBool_ok hl (l := b :: m) (by simp) (by rw [hnm]; exact hb) w)
      unfold rv at U
      rw [hnm, show (b :: m).drop 1 = m from rfl] at U
      clear hnm hb
      generalize (b.toNat == 1) = q at *
      go_enter Try.func9, Try.ntmps9
      go_wp2_with fail
      refine (U.out _).mono ?_
      rintro e w1 ⟨rfl, t1⟩
      clear U
      have a2 : Touch [] w1 (w1.alloc (.cells #[.string (S (m)), .int .i64 (0)] 38)) := (Touch.refl [] w1).alloc _
      have HR1 := Lib.hid ((HR.out.carry t1 (by simp)).carry a2 (by simp))
      have HT1 := Lib.hid ((HT.out.carry t1 (by simp)).carry a2 (by simp))
      have HY1 := Lib.hid (BoxV.new w1 38 #[.string (S (m)), .int .i64 (0)])
      have T1 := Lib.hid ((T0.out.trans t1 (by simp)).trans a2 (by simp))
      clear t1 a2 HR HT HP T0
      go_upto_region 16 with fail
      generalize w1.alloc (.cells #[.string (S (m)), .int .i64 (0)] 38) = W at *
      generalize w1.heap.size = b8 at *
      have y0 := HY1.out.cell 0
      have y1 := HY1.out.cell 1
      have ly := HY1.out.lt
      simp only [List.getElem?_toArray, List.getElem?_cons_zero, List.getElem?_cons_succ] at y0 y1
      have r0 := HR1.out.cell 0
      have r1 := HR1.out.cell 1
      have lr := HR1.out.lt
      have fr := HR1.out.fr
      have x0 := HT1.out.cell 0
      have x1 := HT1.out.cell 1
      have x2 := HT1.out.cell 2
      have x3 := HT1.out.cell 3
      have lx := HT1.out.lt
      have fx := HT1.out.fr
      simp only [List.getElem?_toArray, List.getElem?_cons_zero, List.getElem?_cons_succ] at r0 r1 x0 x1 x2 x3
      have ts : Touch [w.heap.size + 1] W ((W.setCell ⟨w.heap.size + 1, 0, none⟩ (.string (S (m)))).setCell ⟨w.heap.size + 1, 1, none⟩ (.int .i64 (0))) := ((Touch.refl _ W).setCell (a := ⟨w.heap.size + 1, 0, none⟩) (.inl (by simp)) _).setCell (a := ⟨w.heap.size + 1, 1, none⟩) (.inl (by simp)) _
      have ht2 := HT1.out.carry ts (by simp)
      have hs0 := ht2.set 0 (.int .u64 0)
      have z1 := hs0.cell 1
      have q1 := hs0.fr 1
      simp only [List.setIfInBounds_toArray, List.set_cons_succ, List.set_cons_zero, List.getElem?_toArray, List.getElem?_cons_zero, List.getElem?_cons_succ] at z1
      have sf := store_f64 (v := .float .f64 0) z1 q1 rfl
      clear z1 q1 hs0
      have G7 := Lib.hid ((((ht2.set 0 (.int .u64 0)).set 1 (.float .f64 0)).set 2 (.string ⟨#[]⟩)).set 3 (.bool q))
      have tt := (((((Touch.refl [w.heap.size + 1 + 1] ((W.setCell ⟨w.heap.size + 1, 0, none⟩ (.string (S (m)))).setCell ⟨w.heap.size + 1, 1, none⟩ (.int .i64 (0)))).setCell (a := ⟨w.heap.size + 1 + 1, 0, none⟩) (.inl (by simp)) (.int .u64 0)).setCell (a := ⟨w.heap.size + 1 + 1, 1, none⟩) (.inl (by simp)) (.float .f64 0)).setCell (a := ⟨w.heap.size + 1 + 1, 2, none⟩) (.inl (by simp)) (.string ⟨#[]⟩)).setCell (a := ⟨w.heap.size + 1 + 1, 3, none⟩) (.inl (by simp)) (.bool q))
      have G6 := Lib.hid (((HR1.out.set 0 (.string (S (m)))).set 1 (.int .i64 (0))).carry tt (by simp))
      have TT := Lib.hid ((T1.out.trans ts (fun b hb => .inr (by simp at hb; omega))).trans tt (fun b hb => .inr (by simp at hb; omega)))
      clear ts tt ht2
      go_wp2_with fail
      have d0 := G6.out.cell 0
      have d1 := G6.out.cell 1
      have f0 := G7.out.cell 0
      have f1 := G7.out.cell 1
      have f2 := G7.out.cell 2
      have f3 := G7.out.cell 3
      simp only [List.setIfInBounds_toArray, List.set_cons_succ, List.set_cons_zero, List.getElem?_toArray, List.getElem?_cons_zero, List.getElem?_cons_succ] at d0 d1 f0 f1 f2 f3
      refine bodyPost_ret (v := .tuple #[.agg #[.string (S (m)), .int .i64 (0)], .agg #[.int .u64 0, .float .f64 0, .string ⟨#[]⟩, .bool q]]) (by simp [results, Try.results9, go_sem, d0, d1, f0, f1, f2, f3]) rfl ?_
      exact DidS.ok rfl TT.out
    · rw [show boolQ (b :: m) = .error 6 by simp only [boolQ]; rw [if_neg hb]]
      have U := Lib.hid (fun w => refBool_bad hl (l := b :: m) (by simp) (by rw [hnm]; omega) w)
      unfold rv at U
      rw [show (b :: m).drop 1 = m from rfl] at U
      clear hnm hb
      go_enter Try.func9, Try.ntmps9
      go_wp2_with fail
      refine (U.out _).mono ?_
      rintro e w1 ⟨rfl, t1⟩
      clear U
      have a2 : Touch [] w1 (w1.alloc (.cells #[.string (S (m)), .int .i64 (6)] 38)) := (Touch.refl [] w1).alloc _
      have HR1 := Lib.hid ((HR.out.carry t1 (by simp)).carry a2 (by simp))
      have HT1 := Lib.hid ((HT.out.carry t1 (by simp)).carry a2 (by simp))
      have HY1 := Lib.hid (BoxV.new w1 38 #[.string (S (m)), .int .i64 (6)])
      have T1 := Lib.hid ((T0.out.trans t1 (by simp)).trans a2 (by simp))
      clear t1 a2 HR HT HP T0
      go_upto_region 16 with fail
      generalize w1.alloc (.cells #[.string (S (m)), .int .i64 (6)] 38) = W at *
      generalize w1.heap.size = b8 at *
      have y0 := HY1.out.cell 0
      have y1 := HY1.out.cell 1
      have ly := HY1.out.lt
      simp only [List.getElem?_toArray, List.getElem?_cons_zero, List.getElem?_cons_succ] at y0 y1
      have r0 := HR1.out.cell 0
      have r1 := HR1.out.cell 1
      have lr := HR1.out.lt
      have fr := HR1.out.fr
      have x0 := HT1.out.cell 0
      have x1 := HT1.out.cell 1
      have x2 := HT1.out.cell 2
      have x3 := HT1.out.cell 3
      have lx := HT1.out.lt
      have fx := HT1.out.fr
      simp only [List.getElem?_toArray, List.getElem?_cons_zero, List.getElem?_cons_succ] at r0 r1 x0 x1 x2 x3
      have ts : Touch [w.heap.size + 1] W ((W.setCell ⟨w.heap.size + 1, 0, none⟩ (.string (S (m)))).setCell ⟨w.heap.size + 1, 1, none⟩ (.int .i64 (6))) := ((Touch.refl _ W).setCell (a := ⟨w.heap.size + 1, 0, none⟩) (.inl (by simp)) _).setCell (a := ⟨w.heap.size + 1, 1, none⟩) (.inl (by simp)) _
      have ht2 := HT1.out.carry ts (by simp)
      have hs0 := ht2.set 0 (.int .u64 0)
      have z1 := hs0.cell 1
      have q1 := hs0.fr 1
      simp only [List.setIfInBounds_toArray, List.set_cons_succ, List.set_cons_zero, List.getElem?_toArray, List.getElem?_cons_zero, List.getElem?_cons_succ] at z1
      have sf := store_f64 (v := .float .f64 0) z1 q1 rfl
      clear z1 q1 hs0
      have G7 := Lib.hid ((((ht2.set 0 (.int .u64 0)).set 1 (.float .f64 0)).set 2 (.string ⟨#[]⟩)).set 3 (.bool false))
      have tt := (((((Touch.refl [w.heap.size + 1 + 1] ((W.setCell ⟨w.heap.size + 1, 0, none⟩ (.string (S (m)))).setCell ⟨w.heap.size + 1, 1, none⟩ (.int .i64 (6)))).setCell (a := ⟨w.heap.size + 1 + 1, 0, none⟩) (.inl (by simp)) (.int .u64 0)).setCell (a := ⟨w.heap.size + 1 + 1, 1, none⟩) (.inl (by simp)) (.float .f64 0)).setCell (a := ⟨w.heap.size + 1 + 1, 2, none⟩) (.inl (by simp)) (.string ⟨#[]⟩)).setCell (a := ⟨w.heap.size + 1 + 1, 3, none⟩) (.inl (by simp)) (.bool false))
      have G6 := Lib.hid (((HR1.out.set 0 (.string (S (m)))).set 1 (.int .i64 (6))).carry tt (by simp))
      have TT := Lib.hid ((T1.out.trans ts (fun b hb => .inr (by simp at hb; omega))).trans tt (fun b hb => .inr (by simp at hb; omega)))
      clear ts tt ht2
      go_wp2_with fail
      have d0 := G6.out.cell 0
      have d1 := G6.out.cell 1
      have f0 := G7.out.cell 0
      have f1 := G7.out.cell 1
      have f2 := G7.out.cell 2
      have f3 := G7.out.cell 3
      simp only [List.setIfInBounds_toArray, List.set_cons_succ, List.set_cons_zero, List.getElem?_toArray, List.getElem?_cons_zero, List.getElem?_cons_succ] at d0 d1 f0 f1 f2 f3
      refine bodyPost_ret (v := .tuple #[.agg #[.string (S (m)), .int .i64 (6)], .agg #[.int .u64 0, .float .f64 0, .string ⟨#[]⟩, .bool false]]) (by simp [results, Try.results9, go_sem, d0, d1, f0, f1, f2, f3]) rfl ?_
      exact DidS.er _ Tld.zero rfl TT.out
set_option maxHeartbeats 1600000 in
set_option maxRecDepth 100000 in
theorem same_7 (hl : l.length ≤ 1000000000) (n : Int) (w : World) : Calls Try.prog 9 #[rv l 0, .int .i64 7, .int .i64 n] w (DidS w (takeQ n l)) := by
  have t0 : Touch [] w (((w.alloc (.cells #[.string (S l), .int .i64 0] 38)).alloc (.cells #[.string ⟨#[]⟩, .int .i64 0] 38)).alloc (.cells #[.int .u64 0, .float .f64 0, .string ⟨#[]⟩, .bool false] 33)) := (((Touch.refl [] w).alloc _).alloc _).alloc _
  have s1 : (w.alloc (.cells #[.string (S l), .int .i64 0] 38)).heap.size = w.heap.size + 1 := by simp
  have s2 : ((w.alloc (.cells #[.string (S l), .int .i64 0] 38)).alloc (.cells #[.string ⟨#[]⟩, .int .i64 0] 38)).heap.size = w.heap.size + 1 + 1 := by simp
  have HP := Lib.hid (show BoxV (((w.alloc (.cells #[.string (S l), .int .i64 0] 38)).alloc (.cells #[.string ⟨#[]⟩, .int .i64 0] 38)).alloc (.cells #[.int .u64 0, .float .f64 0, .string ⟨#[]⟩, .bool false] 33)) w.heap.size 38 #[.string (S l), .int .i64 0] from ((BoxV.new w 38 #[.string (S l), .int .i64 0]).carry ((Touch.refl [] _).alloc (.cells #[.string ⟨#[]⟩, .int .i64 0] 38)) (by simp)).carry ((Touch.refl [] _).alloc (.cells #[.int .u64 0, .float .f64 0, .string ⟨#[]⟩, .bool false] 33)) (by simp))
  have HR := Lib.hid (show BoxV (((w.alloc (.cells #[.string (S l), .int .i64 0] 38)).alloc (.cells #[.string ⟨#[]⟩, .int .i64 0] 38)).alloc (.cells #[.int .u64 0, .float .f64 0, .string ⟨#[]⟩, .bool false] 33)) (w.heap.size + 1) 38 #[.string ⟨#[]⟩, .int .i64 0] from by
    have := (BoxV.new (w.alloc (.cells #[.string (S l), .int .i64 0] 38)) 38 #[.string ⟨#[]⟩, .int .i64 0]).carry ((Touch.refl [] _).alloc (.cells #[.int .u64 0, .float .f64 0, .string ⟨#[]⟩, .bool false] 33)) (by simp)
    rwa [s1] at this)
  have HT := Lib.hid (show BoxV (((w.alloc (.cells #[.string (S l), .int .i64 0] 38)).alloc (.cells #[.string ⟨#[]⟩, .int .i64 0] 38)).alloc (.cells #[.int .u64 0, .float .f64 0, .string ⟨#[]⟩, .bool false] 33)) (w.heap.size + 1 + 1) 33 #[.int .u64 0, .float .f64 0, .string ⟨#[]⟩, .bool false] from by
    have := BoxV.new ((w.alloc (.cells #[.string (S l), .int .i64 0] 38)).alloc (.cells #[.string ⟨#[]⟩, .int .i64 0] 38)) 33 #[.int .u64 0, .float .f64 0, .string ⟨#[]⟩, .bool false]
    rwa [s2] at this)
  have T0 := Lib.hid t0
  unfold rv at *
  clear t0 s1 s2
  by_cases hn : n < 0
  · rw [show takeQ n l = .error 2 by unfold takeQ; rw [if_pos hn]]
    have U := Lib.hid (fun w => refTake_neg l n hn w)
    unfold rv at U
    clear hn
    go_enter Try.func9, Try.ntmps9
    go_wp2_with fail
    refine (U.out _).mono ?_
    rintro e w1 ⟨rfl, t1⟩
    clear U
    have a2 : Touch [] w1 (w1.alloc (.cells #[.string (S (l)), .int .i64 (2)] 38)) := (Touch.refl [] w1).alloc _
    have HR1 := Lib.hid ((HR.out.carry t1 (by simp)).carry a2 (by simp))
    have HT1 := Lib.hid ((HT.out.carry t1 (by simp)).carry a2 (by simp))
    have HY1 := Lib.hid (BoxV.new w1 38 #[.string (S (l)), .int .i64 (2)])
    have T1 := Lib.hid ((T0.out.trans t1 (by simp)).trans a2 (by simp))
    clear t1 a2 HR HT HP T0
    go_upto_region 19 with fail
    generalize w1.alloc (.cells #[.string (S (l)), .int .i64 (2)] 38) = W at *
    generalize w1.heap.size = b8 at *
    have y0 := HY1.out.cell 0
    have y1 := HY1.out.cell 1
    have ly := HY1.out.lt
    simp only [List.getElem?_toArray, List.getElem?_cons_zero, List.getElem?_cons_succ] at y0 y1
    have r0 := HR1.out.cell 0
    have r1 := HR1.out.cell 1
    have lr := HR1.out.lt
    have fr := HR1.out.fr
    have x0 := HT1.out.cell 0
    have x1 := HT1.out.cell 1
    have x2 := HT1.out.cell 2
    have x3 := HT1.out.cell 3
    have lx := HT1.out.lt
    have fx := HT1.out.fr
    simp only [List.getElem?_toArray, List.getElem?_cons_zero, List.getElem?_cons_succ] at r0 r1 x0 x1 x2 x3
    have ts : Touch [w.heap.size + 1] W ((W.setCell ⟨w.heap.size + 1, 0, none⟩ (.string (S (l)))).setCell ⟨w.heap.size + 1, 1, none⟩ (.int .i64 (2))) := ((Touch.refl _ W).setCell (a := ⟨w.heap.size + 1, 0, none⟩) (.inl (by simp)) _).setCell (a := ⟨w.heap.size + 1, 1, none⟩) (.inl (by simp)) _
    have ht2 := HT1.out.carry ts (by simp)
    have hs0 := ht2.set 0 (.int .u64 0)
    have z1 := hs0.cell 1
    have q1 := hs0.fr 1
    simp only [List.setIfInBounds_toArray, List.set_cons_succ, List.set_cons_zero, List.getElem?_toArray, List.getElem?_cons_zero, List.getElem?_cons_succ] at z1
    have sf := store_f64 (v := .float .f64 0) z1 q1 rfl
    clear z1 q1 hs0
    have G7 := Lib.hid ((((ht2.set 0 (.int .u64 0)).set 1 (.float .f64 0)).set 2 (.string (S []))).set 3 (.bool false))
    have tt := (((((Touch.refl [w.heap.size + 1 + 1] ((W.setCell ⟨w.heap.size + 1, 0, none⟩ (.string (S (l)))).setCell ⟨w.heap.size + 1, 1, none⟩ (.int .i64 (2)))).setCell (a := ⟨w.heap.size + 1 + 1, 0, none⟩) (.inl (by simp)) (.int .u64 0)).setCell (a := ⟨w.heap.size + 1 + 1, 1, none⟩) (.inl (by simp)) (.float .f64 0)).setCell (a := ⟨w.heap.size + 1 + 1, 2, none⟩) (.inl (by simp)) (.string (S []))).setCell (a := ⟨w.heap.size + 1 + 1, 3, none⟩) (.inl (by simp)) (.bool false))
    have G6 := Lib.hid (((HR1.out.set 0 (.string (S (l)))).set 1 (.int .i64 (2))).carry tt (by simp))
    have TT := Lib.hid ((T1.out.trans ts (fun b hb => .inr (by simp at hb; omega))).trans tt (fun b hb => .inr (by simp at hb; omega)))
    clear ts tt ht2
    go_wp2_with fail
    have d0 := G6.out.cell 0
    have d1 := G6.out.cell 1
    have f0 := G7.out.cell 0
    have f1 := G7.out.cell 1
    have f2 := G7.out.cell 2
    have f3 := G7.out.cell 3
    simp only [List.setIfInBounds_toArray, List.set_cons_succ, List.set_cons_zero, List.getElem?_toArray, List.getElem?_cons_zero, List.getElem?_cons_succ] at d0 d1 f0 f1 f2 f3
    refine bodyPost_ret (v := .tuple #[.agg #[.string (S (l)), .int .i64 (2)], .agg #[.int .u64 0, .float .f64 0, .string (S []), .bool false]]) (by simp [results, Try.results9, go_sem, d0, d1, f0, f1, f2, f3]) rfl ?_
    exact DidS.er _ Tld.zero rfl TT.out
  · obtain ⟨j, rfl⟩ := Int.eq_ofNat_of_zero_le (show 0 ≤ n by omega)
    by_cases hj : j ≤ l.length
    · rw [show takeQ (j : Int) l = .ok (⟨0, 0, l.take j, false⟩, l.drop j) by unfold takeQ; rw [if_neg hn, Int.toNat_natCast, if_pos hj]]
      have U := Lib.hid (fun w => refTake_ok l j hj hl w)
      unfold rv at U
      generalize l.take j = s at *
      generalize l.drop j = m at *
      clear hn
      go_enter Try.func9, Try.ntmps9
      go_wp2_with fail
      refine (U.out _).mono ?_
      rintro e w1 ⟨rfl, t1⟩
      clear U
      have a2 : Touch [] w1 (w1.alloc (.cells #[.string (S (m)), .int .i64 (0)] 38)) := (Touch.refl [] w1).alloc _
      have HR1 := Lib.hid ((HR.out.carry t1 (by simp)).carry a2 (by simp))
      have HT1 := Lib.hid ((HT.out.carry t1 (by simp)).carry a2 (by simp))
      have HY1 := Lib.hid (BoxV.new w1 38 #[.string (S (m)), .int .i64 (0)])
      have T1 := Lib.hid ((T0.out.trans t1 (by simp)).trans a2 (by simp))
      clear t1 a2 HR HT HP T0
      go_upto_region 19 with fail
      generalize w1.alloc (.cells #[.string (S (m)), .int .i64 (0)] 38) = W at *
      generalize w1.heap.size = b8 at *
      have y0 := HY1.out.cell 0
      have y1 := HY1.out.cell 1
      have ly := HY1.out.lt
      simp only [List.getElem?_toArray, List.getElem?_cons_zero, List.getElem?_cons_succ] at y0 y1
      have r0 := HR1.out.cell 0
      have r1 := HR1.out.cell 1
      have lr := HR1.out.lt
      have fr := HR1.out.fr
      have x0 := HT1.out.cell 0
      have x1 := HT1.out.cell 1
      have x2 := HT1.out.cell 2
      have x3 := HT1.out.cell 3
      have lx := HT1.out.lt
      have fx := HT1.out.fr
      simp only [List.getElem?_toArray, List.getElem?_cons_zero, List.getElem?_cons_succ] at r0 r1 x0 x1 x2 x3
      have ts : Touch [w.heap.size + 1] W ((W.setCell ⟨w.heap.size + 1, 0, none⟩ (.string (S (m)))).setCell ⟨w.heap.size + 1, 1, none⟩ (.int .i64 (0))) := ((Touch.refl _ W).setCell (a := ⟨w.heap.size + 1, 0, none⟩) (.inl (by simp)) _).setCell (a := ⟨w.heap.size + 1, 1, none⟩) (.inl (by simp)) _
      have ht2 := HT1.out.carry ts (by simp)
      have hs0 := ht2.set 0 (.int .u64 0)
      have z1 := hs0.cell 1
      have q1 := hs0.fr 1
      simp only [List.setIfInBounds_toArray, List.set_cons_succ, List.set_cons_zero, List.getElem?_toArray, List.getElem?_cons_zero, List.getElem?_cons_succ] at z1
      have sf := store_f64 (v := .float .f64 0) z1 q1 rfl
      clear z1 q1 hs0
      have G7 := Lib.hid ((((ht2.set 0 (.int .u64 0)).set 1 (.float .f64 0)).set 2 (.string (S s))).set 3 (.bool false))
      have tt := (((((Touch.refl [w.heap.size + 1 + 1] ((W.setCell ⟨w.heap.size + 1, 0, none⟩ (.string (S (m)))).setCell ⟨w.heap.size + 1, 1, none⟩ (.int .i64 (0)))).setCell (a := ⟨w.heap.size + 1 + 1, 0, none⟩) (.inl (by simp)) (.int .u64 0)).setCell (a := ⟨w.heap.size + 1 + 1, 1, none⟩) (.inl (by simp)) (.float .f64 0)).setCell (a := ⟨w.heap.size + 1 + 1, 2, none⟩) (.inl (by simp)) (.string (S s))).setCell (a := ⟨w.heap.size + 1 + 1, 3, none⟩) (.inl (by simp)) (.bool false))
      have G6 := Lib.hid (((HR1.out.set 0 (.string (S (m)))).set 1 (.int .i64 (0))).carry tt (by simp))
      have TT := Lib.hid ((T1.out.trans ts (fun b hb => .inr (by simp at hb; omega))).trans tt (fun b hb => .inr (by simp at hb; omega)))
      clear ts tt ht2
      go_wp2_with fail
      have d0 := G6.out.cell 0
      have d1 := G6.out.cell 1
      have f0 := G7.out.cell 0
      have f1 := G7.out.cell 1
      have f2 := G7.out.cell 2
      have f3 := G7.out.cell 3
      simp only [List.setIfInBounds_toArray, List.set_cons_succ, List.set_cons_zero, List.getElem?_toArray, List.getElem?_cons_zero, List.getElem?_cons_succ] at d0 d1 f0 f1 f2 f3
      refine bodyPost_ret (v := .tuple #[.agg #[.string (S (m)), .int .i64 (0)], .agg #[.int .u64 0, .float .f64 0, .string (S s), .bool false]]) (by simp [results, Try.results9, go_sem, d0, d1, f0, f1, f2, f3]) rfl ?_
      exact DidS.ok rfl TT.out
    · rw [show takeQ (j : Int) l = .error 5 by unfold takeQ; rw [if_neg hn, Int.toNat_natCast, if_neg hj]]
      have U := Lib.hid (fun w => refTake_short l j (by omega) w)
      unfold rv at U
      clear hn
      go_enter Try.func9, Try.ntmps9
      go_wp2_with fail
      refine (U.out _).mono ?_
      rintro e w1 ⟨rfl, t1⟩
      clear U
      have a2 : Touch [] w1 (w1.alloc (.cells #[.string (S (l)), .int .i64 (5)] 38)) := (Touch.refl [] w1).alloc _
      have HR1 := Lib.hid ((HR.out.carry t1 (by simp)).carry a2 (by simp))
      have HT1 := Lib.hid ((HT.out.carry t1 (by simp)).carry a2 (by simp))
      have HY1 := Lib.hid (BoxV.new w1 38 #[.string (S (l)), .int .i64 (5)])
      have T1 := Lib.hid ((T0.out.trans t1 (by simp)).trans a2 (by simp))
      clear t1 a2 HR HT HP T0
      go_upto_region 19 with fail
      generalize w1.alloc (.cells #[.string (S (l)), .int .i64 (5)] 38) = W at *
      generalize w1.heap.size = b8 at *
      have y0 := HY1.out.cell 0
      have y1 := HY1.out.cell 1
      have ly := HY1.out.lt
      simp only [List.getElem?_toArray, List.getElem?_cons_zero, List.getElem?_cons_succ] at y0 y1
      have r0 := HR1.out.cell 0
      have r1 := HR1.out.cell 1
      have lr := HR1.out.lt
      have fr := HR1.out.fr
      have x0 := HT1.out.cell 0
      have x1 := HT1.out.cell 1
      have x2 := HT1.out.cell 2
      have x3 := HT1.out.cell 3
      have lx := HT1.out.lt
      have fx := HT1.out.fr
      simp only [List.getElem?_toArray, List.getElem?_cons_zero, List.getElem?_cons_succ] at r0 r1 x0 x1 x2 x3
      have ts : Touch [w.heap.size + 1] W ((W.setCell ⟨w.heap.size + 1, 0, none⟩ (.string (S (l)))).setCell ⟨w.heap.size + 1, 1, none⟩ (.int .i64 (5))) := ((Touch.refl _ W).setCell (a := ⟨w.heap.size + 1, 0, none⟩) (.inl (by simp)) _).setCell (a := ⟨w.heap.size + 1, 1, none⟩) (.inl (by simp)) _
      have ht2 := HT1.out.carry ts (by simp)
      have hs0 := ht2.set 0 (.int .u64 0)
      have z1 := hs0.cell 1
      have q1 := hs0.fr 1
      simp only [List.setIfInBounds_toArray, List.set_cons_succ, List.set_cons_zero, List.getElem?_toArray, List.getElem?_cons_zero, List.getElem?_cons_succ] at z1
      have sf := store_f64 (v := .float .f64 0) z1 q1 rfl
      clear z1 q1 hs0
      have G7 := Lib.hid ((((ht2.set 0 (.int .u64 0)).set 1 (.float .f64 0)).set 2 (.string (S []))).set 3 (.bool false))
      have tt := (((((Touch.refl [w.heap.size + 1 + 1] ((W.setCell ⟨w.heap.size + 1, 0, none⟩ (.string (S (l)))).setCell ⟨w.heap.size + 1, 1, none⟩ (.int .i64 (5)))).setCell (a := ⟨w.heap.size + 1 + 1, 0, none⟩) (.inl (by simp)) (.int .u64 0)).setCell (a := ⟨w.heap.size + 1 + 1, 1, none⟩) (.inl (by simp)) (.float .f64 0)).setCell (a := ⟨w.heap.size + 1 + 1, 2, none⟩) (.inl (by simp)) (.string (S []))).setCell (a := ⟨w.heap.size + 1 + 1, 3, none⟩) (.inl (by simp)) (.bool false))
      have G6 := Lib.hid (((HR1.out.set 0 (.string (S (l)))).set 1 (.int .i64 (5))).carry tt (by simp))
      have TT := Lib.hid ((T1.out.trans ts (fun b hb => .inr (by simp at hb; omega))).trans tt (fun b hb => .inr (by simp at hb; omega)))
      clear ts tt ht2
      go_wp2_with fail
      have d0 := G6.out.cell 0
      have d1 := G6.out.cell 1
      have f0 := G7.out.cell 0
      have f1 := G7.out.cell 1
      have f2 := G7.out.cell 2
      have f3 := G7.out.cell 3
      simp only [List.setIfInBounds_toArray, List.set_cons_succ, List.set_cons_zero, List.getElem?_toArray, List.getElem?_cons_zero, List.getElem?_cons_succ] at d0 d1 f0 f1 f2 f3
      refine bodyPost_ret (v := .tuple #[.agg #[.string (S (l)), .int .i64 (5)], .agg #[.int .u64 0, .float .f64 0, .string (S []), .bool false]]) (by simp [results, Try.results9, go_sem, d0, d1, f0, f1, f2, f3]) rfl ?_
      exact DidS.er _ Tld.zero rfl TT.out
set_option maxHeartbeats 1600000 in
set_option maxRecDepth 100000 in
theorem same_8 (hl : l.length ≤ 1000000000) (n : Int) (w : World) : Calls Try.prog 9 #[rv l 0, .int .i64 8, .int .i64 n] w (DidS w (endQ l)) := by
  have t0 : Touch [] w (((w.alloc (.cells #[.string (S l), .int .i64 0] 38)).alloc (.cells #[.string ⟨#[]⟩, .int .i64 0] 38)).alloc (.cells #[.int .u64 0, .float .f64 0, .string ⟨#[]⟩, .bool false] 33)) := (((Touch.refl [] w).alloc _).alloc _).alloc _
  have s1 : (w.alloc (.cells #[.string (S l), .int .i64 0] 38)).heap.size = w.heap.size + 1 := by simp
  have s2 : ((w.alloc (.cells #[.string (S l), .int .i64 0] 38)).alloc (.cells #[.string ⟨#[]⟩, .int .i64 0] 38)).heap.size = w.heap.size + 1 + 1 := by simp
  have HP := Lib.hid (show BoxV (((w.alloc (.cells #[.string (S l), .int .i64 0] 38)).alloc (.cells #[.string ⟨#[]⟩, .int .i64 0] 38)).alloc (.cells #[.int .u64 0, .float .f64 0, .string ⟨#[]⟩, .bool false] 33)) w.heap.size 38 #[.string (S l), .int .i64 0] from ((BoxV.new w 38 #[.string (S l), .int .i64 0]).carry ((Touch.refl [] _).alloc (.cells #[.string ⟨#[]⟩, .int .i64 0] 38)) (by simp)).carry ((Touch.refl [] _).alloc (.cells #[.int .u64 0, .float .f64 0, .string ⟨#[]⟩, .bool false] 33)) (by simp))
  have HR := Lib.hid (show BoxV (((w.alloc (.cells #[.string (S l), .int .i64 0] 38)).alloc (.cells #[.string ⟨#[]⟩, .int .i64 0] 38)).alloc (.cells #[.int .u64 0, .float .f64 0, .string ⟨#[]⟩, .bool false] 33)) (w.heap.size + 1) 38 #[.string ⟨#[]⟩, .int .i64 0] from by
    have := (BoxV.new (w.alloc (.cells #[.string (S l), .int .i64 0] 38)) 38 #[.string ⟨#[]⟩, .int .i64 0]).carry ((Touch.refl [] _).alloc (.cells #[.int .u64 0, .float .f64 0, .string ⟨#[]⟩, .bool false] 33)) (by simp)
    rwa [s1] at this)
  have HT := Lib.hid (show BoxV (((w.alloc (.cells #[.string (S l), .int .i64 0] 38)).alloc (.cells #[.string ⟨#[]⟩, .int .i64 0] 38)).alloc (.cells #[.int .u64 0, .float .f64 0, .string ⟨#[]⟩, .bool false] 33)) (w.heap.size + 1 + 1) 33 #[.int .u64 0, .float .f64 0, .string ⟨#[]⟩, .bool false] from by
    have := BoxV.new ((w.alloc (.cells #[.string (S l), .int .i64 0] 38)).alloc (.cells #[.string ⟨#[]⟩, .int .i64 0] 38)) 33 #[.int .u64 0, .float .f64 0, .string ⟨#[]⟩, .bool false]
    rwa [s2] at this)
  have T0 := Lib.hid t0
  unfold rv at *
  clear t0 s1 s2
  by_cases hn : l = []
  · rw [show endQ l = .ok (Tld.zero, l) by unfold endQ; rw [if_pos hn, hn]]
    have hz : (S l).size = 0 := by rw [hn]; rfl
    have y0 : decide (0 < ((S l).size : Int)) = false := by rw [hz]; rfl
    have y0' : decide (0 < (S l).size) = false := by rw [hz]; rfl
    clear hn hz
    have a2 : Touch [w.heap.size] (((w.alloc (.cells #[.string (S l), .int .i64 0] 38)).alloc (.cells #[.string ⟨#[]⟩, .int .i64 0] 38)).alloc (.cells #[.int .u64 0, .float .f64 0, .string ⟨#[]⟩, .bool false] 33)) (((w.alloc (.cells #[.string (S l), .int .i64 0] 38)).alloc (.cells #[.string ⟨#[]⟩, .int .i64 0] 38)).alloc (.cells #[.int .u64 0, .float .f64 0, .string ⟨#[]⟩, .bool false] 33)) := Touch.refl _ _
    have HP1 := Lib.hid (show BoxV (((w.alloc (.cells #[.string (S l), .int .i64 0] 38)).alloc (.cells #[.string ⟨#[]⟩, .int .i64 0] 38)).alloc (.cells #[.int .u64 0, .float .f64 0, .string ⟨#[]⟩, .bool false] 33)) w.heap.size 38 #[.string (S l), .int .i64 (0)] from HP.out)
    have HR1 := Lib.hid (HR.out.carry a2 (by simp <;> omega))
    have HT1 := Lib.hid (HT.out.carry a2 (by simp <;> omega))
    have T1 := Lib.hid (T0.out.trans a2 (fun b hb => .inr (by simp at hb; omega)))
    have e0 := HP.out.cell 0
    have e1 := HP.out.cell 1
    have le := HP.out.lt
    have fe := HP.out.fr
    simp only [List.getElem?_toArray, List.getElem?_cons_zero, List.getElem?_cons_succ] at e0 e1
    clear a2 HP HR HT T0
    go_enter Try.func9, Try.ntmps9
    go_upto_region 25 with fail
    generalize (((w.alloc (.cells #[.string (S l), .int .i64 0] 38)).alloc (.cells #[.string ⟨#[]⟩, .int .i64 0] 38)).alloc (.cells #[.int .u64 0, .float .f64 0, .string ⟨#[]⟩, .bool false] 33)) = W at *
    clear e0 e1 le fe
    have p0 := HP1.out.cell 0
    have p1 := HP1.out.cell 1
    have lp := HP1.out.lt
    simp only [List.getElem?_toArray, List.getElem?_cons_zero, List.getElem?_cons_succ] at p0 p1
    have r0 := HR1.out.cell 0
    have r1 := HR1.out.cell 1
    have lr := HR1.out.lt
    have fr := HR1.out.fr
    have x0 := HT1.out.cell 0
    have x1 := HT1.out.cell 1
    have x2 := HT1.out.cell 2
    have x3 := HT1.out.cell 3
    have lx := HT1.out.lt
    have fx := HT1.out.fr
    simp only [List.getElem?_toArray, List.getElem?_cons_zero, List.getElem?_cons_succ] at r0 r1 x0 x1 x2 x3
    have ts : Touch [w.heap.size + 1] W ((W.setCell ⟨w.heap.size + 1, 0, none⟩ (.string (S (l)))).setCell ⟨w.heap.size + 1, 1, none⟩ (.int .i64 (0))) := ((Touch.refl _ W).setCell (a := ⟨w.heap.size + 1, 0, none⟩) (.inl (by simp)) _).setCell (a := ⟨w.heap.size + 1, 1, none⟩) (.inl (by simp)) _
    have ht2 := HT1.out.carry ts (by simp)
    have hs0 := ht2.set 0 (.int .u64 0)
    have z1 := hs0.cell 1
    have q1 := hs0.fr 1
    simp only [List.setIfInBounds_toArray, List.set_cons_succ, List.set_cons_zero, List.getElem?_toArray, List.getElem?_cons_zero, List.getElem?_cons_succ] at z1
    have sf := store_f64 (v := .float .f64 0) z1 q1 rfl
    clear z1 q1 hs0
    have G7 := Lib.hid ((((ht2.set 0 (.int .u64 0)).set 1 (.float .f64 0)).set 2 (.string ⟨#[]⟩)).set 3 (.bool false))
    have tt := (((((Touch.refl [w.heap.size + 1 + 1] ((W.setCell ⟨w.heap.size + 1, 0, none⟩ (.string (S (l)))).setCell ⟨w.heap.size + 1, 1, none⟩ (.int .i64 (0)))).setCell (a := ⟨w.heap.size + 1 + 1, 0, none⟩) (.inl (by simp)) (.int .u64 0)).setCell (a := ⟨w.heap.size + 1 + 1, 1, none⟩) (.inl (by simp)) (.float .f64 0)).setCell (a := ⟨w.heap.size + 1 + 1, 2, none⟩) (.inl (by simp)) (.string ⟨#[]⟩)).setCell (a := ⟨w.heap.size + 1 + 1, 3, none⟩) (.inl (by simp)) (.bool false))
    have G6 := Lib.hid (((HR1.out.set 0 (.string (S (l)))).set 1 (.int .i64 (0))).carry tt (by simp))
    have TT := Lib.hid ((T1.out.trans ts (fun b hb => .inr (by simp at hb; omega))).trans tt (fun b hb => .inr (by simp at hb; omega)))
    clear ts tt ht2
    go_wp2_with fail
    have d0 := G6.out.cell 0
    have d1 := G6.out.cell 1
    have f0 := G7.out.cell 0
    have f1 := G7.out.cell 1
    have f2 := G7.out.cell 2
    have f3 := G7.out.cell 3
    simp only [List.setIfInBounds_toArray, List.set_cons_succ, List.set_cons_zero, List.getElem?_toArray, List.getElem?_cons_zero, List.getElem?_cons_succ] at d0 d1 f0 f1 f2 f3
    refine bodyPost_ret (v := .tuple #[.agg #[.string (S (l)), .int .i64 (0)], .agg #[.int .u64 0, .float .f64 0, .string ⟨#[]⟩, .bool false]]) (by simp [results, Try.results9, go_sem, d0, d1, f0, f1, f2, f3]) rfl ?_
    exact DidS.ok rfl TT.out
  · rw [show endQ l = .error 4 by unfold endQ; rw [if_neg hn]]
    have hz : (S l).size = l.length := S_size l
    have y0 : decide (0 < ((S l).size : Int)) = true := by rw [hz]; have := List.length_pos_iff.2 hn; simp; omega
    have y0' : decide (0 < (S l).size) = true := by rw [hz]; have := List.length_pos_iff.2 hn; simp; omega
    clear hz
    go_enter Try.func9, Try.ntmps9
    go_upto_region 22 with fail
    generalize (((w.alloc (.cells #[.string (S l), .int .i64 0] 38)).alloc (.cells #[.string ⟨#[]⟩, .int .i64 0] 38)).alloc (.cells #[.int .u64 0, .float .f64 0, .string ⟨#[]⟩, .bool false] 33)) = V at *
    have a2 : Touch [w.heap.size] V (V.setCell ⟨w.heap.size, 1, none⟩ (.int .i64 (4))) := (Touch.refl _ _).setCell (a := ⟨w.heap.size, 1, none⟩) (.inl (by simp)) _
    have HP1 := Lib.hid (show BoxV (V.setCell ⟨w.heap.size, 1, none⟩ (.int .i64 (4))) w.heap.size 38 #[.string (S l), .int .i64 (4)] from HP.out.set 1 (.int .i64 (4)))
    have HR1 := Lib.hid (HR.out.carry a2 (by simp <;> omega))
    have HT1 := Lib.hid (HT.out.carry a2 (by simp <;> omega))
    have T1 := Lib.hid (T0.out.trans a2 (fun b hb => .inr (by simp at hb; omega)))
    have e0 := HP.out.cell 0
    have e1 := HP.out.cell 1
    have le := HP.out.lt
    have fe := HP.out.fr
    have v0 := HR.out.cell 0
    have v1 := HR.out.cell 1
    have lv := HR.out.lt
    have fv := HR.out.fr
    have u0 := HT.out.cell 0
    have u1 := HT.out.cell 1
    have u2 := HT.out.cell 2
    have u3 := HT.out.cell 3
    have lu := HT.out.lt
    have fu := HT.out.fr
    have p0 := HP1.out.cell 0
    have p1 := HP1.out.cell 1
    have lp := HP1.out.lt
    simp only [List.getElem?_toArray, List.getElem?_cons_zero, List.getElem?_cons_succ] at e0 e1 v0 v1 u0 u1 u2 u3 p0 p1
    clear a2 HP HR HT T0
    have r0 := HR1.out.cell 0
    have r1 := HR1.out.cell 1
    have lr := HR1.out.lt
    have fr := HR1.out.fr
    have x0 := HT1.out.cell 0
    have x1 := HT1.out.cell 1
    have x2 := HT1.out.cell 2
    have x3 := HT1.out.cell 3
    have lx := HT1.out.lt
    have fx := HT1.out.fr
    simp only [List.getElem?_toArray, List.getElem?_cons_zero, List.getElem?_cons_succ] at r0 r1 x0 x1 x2 x3
    have ts : Touch [w.heap.size + 1] (V.setCell ⟨w.heap.size, 1, none⟩ (.int .i64 (4))) (((V.setCell ⟨w.heap.size, 1, none⟩ (.int .i64 (4))).setCell ⟨w.heap.size + 1, 0, none⟩ (.string (S (l)))).setCell ⟨w.heap.size + 1, 1, none⟩ (.int .i64 (4))) := ((Touch.refl _ (V.setCell ⟨w.heap.size, 1, none⟩ (.int .i64 (4)))).setCell (a := ⟨w.heap.size + 1, 0, none⟩) (.inl (by simp)) _).setCell (a := ⟨w.heap.size + 1, 1, none⟩) (.inl (by simp)) _
    have ht2 := HT1.out.carry ts (by simp)
    have hs0 := ht2.set 0 (.int .u64 0)
    have z1 := hs0.cell 1
    have q1 := hs0.fr 1
    simp only [List.setIfInBounds_toArray, List.set_cons_succ, List.set_cons_zero, List.getElem?_toArray, List.getElem?_cons_zero, List.getElem?_cons_succ] at z1
    have sf := store_f64 (v := .float .f64 0) z1 q1 rfl
    clear z1 q1 hs0
    have G7 := Lib.hid ((((ht2.set 0 (.int .u64 0)).set 1 (.float .f64 0)).set 2 (.string ⟨#[]⟩)).set 3 (.bool false))
    have tt := (((((Touch.refl [w.heap.size + 1 + 1] (((V.setCell ⟨w.heap.size, 1, none⟩ (.int .i64 (4))).setCell ⟨w.heap.size + 1, 0, none⟩ (.string (S (l)))).setCell ⟨w.heap.size + 1, 1, none⟩ (.int .i64 (4)))).setCell (a := ⟨w.heap.size + 1 + 1, 0, none⟩) (.inl (by simp)) (.int .u64 0)).setCell (a := ⟨w.heap.size + 1 + 1, 1, none⟩) (.inl (by simp)) (.float .f64 0)).setCell (a := ⟨w.heap.size + 1 + 1, 2, none⟩) (.inl (by simp)) (.string ⟨#[]⟩)).setCell (a := ⟨w.heap.size + 1 + 1, 3, none⟩) (.inl (by simp)) (.bool false))
    have G6 := Lib.hid (((HR1.out.set 0 (.string (S (l)))).set 1 (.int .i64 (4))).carry tt (by simp))
    have TT := Lib.hid ((T1.out.trans ts (fun b hb => .inr (by simp at hb; omega))).trans tt (fun b hb => .inr (by simp at hb; omega)))
    clear ts tt ht2
    go_wp2_with fail
    have d0 := G6.out.cell 0
    have d1 := G6.out.cell 1
    have f0 := G7.out.cell 0
    have f1 := G7.out.cell 1
    have f2 := G7.out.cell 2
    have f3 := G7.out.cell 3
    simp only [List.setIfInBounds_toArray, List.set_cons_succ, List.set_cons_zero, List.getElem?_toArray, List.getElem?_cons_zero, List.getElem?_cons_succ] at d0 d1 f0 f1 f2 f3
    refine bodyPost_ret (v := .tuple #[.agg #[.string (S (l)), .int .i64 (4)], .agg #[.int .u64 0, .float .f64 0, .string ⟨#[]⟩, .bool false]]) (by simp [results, Try.results9, go_sem, d0, d1, f0, f1, f2, f3]) rfl ?_
    exact DidS.er _ Tld.zero rfl TT.out
set_option maxHeartbeats 1600000 in
set_option maxRecDepth 100000 in
theorem same_9 (hl : l.length ≤ 1000000000) (n : Int) (w : World) : Calls Try.prog 9 #[rv l 0, .int .i64 9, .int .i64 n] w (DidS w (needQ n l)) := by
  have t0 : Touch [] w (((w.alloc (.cells #[.string (S l), .int .i64 0] 38)).alloc (.cells #[.string ⟨#[]⟩, .int .i64 0] 38)).alloc (.cells #[.int .u64 0, .float .f64 0, .string ⟨#[]⟩, .bool false] 33)) := (((Touch.refl [] w).alloc _).alloc _).alloc _
  have s1 : (w.alloc (.cells #[.string (S l), .int .i64 0] 38)).heap.size = w.heap.size + 1 := by simp
  have s2 : ((w.alloc (.cells #[.string (S l), .int .i64 0] 38)).alloc (.cells #[.string ⟨#[]⟩, .int .i64 0] 38)).heap.size = w.heap.size + 1 + 1 := by simp
  have HP := Lib.hid (show BoxV (((w.alloc (.cells #[.string (S l), .int .i64 0] 38)).alloc (.cells #[.string ⟨#[]⟩, .int .i64 0] 38)).alloc (.cells #[.int .u64 0, .float .f64 0, .string ⟨#[]⟩, .bool false] 33)) w.heap.size 38 #[.string (S l), .int .i64 0] from ((BoxV.new w 38 #[.string (S l), .int .i64 0]).carry ((Touch.refl [] _).alloc (.cells #[.string ⟨#[]⟩, .int .i64 0] 38)) (by simp)).carry ((Touch.refl [] _).alloc (.cells #[.int .u64 0, .float .f64 0, .string ⟨#[]⟩, .bool false] 33)) (by simp))
  have HR := Lib.hid (show BoxV (((w.alloc (.cells #[.string (S l), .int .i64 0] 38)).alloc (.cells #[.string ⟨#[]⟩, .int .i64 0] 38)).alloc (.cells #[.int .u64 0, .float .f64 0, .string ⟨#[]⟩, .bool false] 33)) (w.heap.size + 1) 38 #[.string ⟨#[]⟩, .int .i64 0] from by
    have := (BoxV.new (w.alloc (.cells #[.string (S l), .int .i64 0] 38)) 38 #[.string ⟨#[]⟩, .int .i64 0]).carry ((Touch.refl [] _).alloc (.cells #[.int .u64 0, .float .f64 0, .string ⟨#[]⟩, .bool false] 33)) (by simp)
    rwa [s1] at this)
  have HT := Lib.hid (show BoxV (((w.alloc (.cells #[.string (S l), .int .i64 0] 38)).alloc (.cells #[.string ⟨#[]⟩, .int .i64 0] 38)).alloc (.cells #[.int .u64 0, .float .f64 0, .string ⟨#[]⟩, .bool false] 33)) (w.heap.size + 1 + 1) 33 #[.int .u64 0, .float .f64 0, .string ⟨#[]⟩, .bool false] from by
    have := BoxV.new ((w.alloc (.cells #[.string (S l), .int .i64 0] 38)).alloc (.cells #[.string ⟨#[]⟩, .int .i64 0] 38)) 33 #[.int .u64 0, .float .f64 0, .string ⟨#[]⟩, .bool false]
    rwa [s2] at this)
  have T0 := Lib.hid t0
  unfold rv at *
  clear t0 s1 s2
  by_cases hn : n = 0
  · subst hn
    rw [show needQ 0 l = .ok (Tld.zero, l) from rfl]
    go_enter Try.func9, Try.ntmps9
    go_upto_region 24 with fail
    generalize (((w.alloc (.cells #[.string (S l), .int .i64 0] 38)).alloc (.cells #[.string ⟨#[]⟩, .int .i64 0] 38)).alloc (.cells #[.int .u64 0, .float .f64 0, .string ⟨#[]⟩, .bool false] 33)) = V at *
    have a2 : Touch [w.heap.size] V (V.setCell ⟨w.heap.size, 1, none⟩ (.int .i64 (0))) := (Touch.refl _ _).setCell (a := ⟨w.heap.size, 1, none⟩) (.inl (by simp)) _
    have HP1 := Lib.hid (show BoxV (V.setCell ⟨w.heap.size, 1, none⟩ (.int .i64 (0))) w.heap.size 38 #[.string (S l), .int .i64 (0)] from HP.out.set 1 (.int .i64 (0)))
    have HR1 := Lib.hid (HR.out.carry a2 (by simp <;> omega))
    have HT1 := Lib.hid (HT.out.carry a2 (by simp <;> omega))
    have T1 := Lib.hid (T0.out.trans a2 (fun b hb => .inr (by simp at hb; omega)))
    have e0 := HP.out.cell 0
    have e1 := HP.out.cell 1
    have le := HP.out.lt
    have fe := HP.out.fr
    have v0 := HR.out.cell 0
    have v1 := HR.out.cell 1
    have lv := HR.out.lt
    have fv := HR.out.fr
    have u0 := HT.out.cell 0
    have u1 := HT.out.cell 1
    have u2 := HT.out.cell 2
    have u3 := HT.out.cell 3
    have lu := HT.out.lt
    have fu := HT.out.fr
    have p0 := HP1.out.cell 0
    have p1 := HP1.out.cell 1
    have lp := HP1.out.lt
    simp only [List.getElem?_toArray, List.getElem?_cons_zero, List.getElem?_cons_succ] at e0 e1 v0 v1 u0 u1 u2 u3 p0 p1
    clear a2 HP HR HT T0
    have r0 := HR1.out.cell 0
    have r1 := HR1.out.cell 1
    have lr := HR1.out.lt
    have fr := HR1.out.fr
    have x0 := HT1.out.cell 0
    have x1 := HT1.out.cell 1
    have x2 := HT1.out.cell 2
    have x3 := HT1.out.cell 3
    have lx := HT1.out.lt
    have fx := HT1.out.fr
    simp only [List.getElem?_toArray, List.getElem?_cons_zero, List.getElem?_cons_succ] at r0 r1 x0 x1 x2 x3
    have ts : Touch [w.heap.size + 1] (V.setCell ⟨w.heap.size, 1, none⟩ (.int .i64 (0))) (((V.setCell ⟨w.heap.size, 1, none⟩ (.int .i64 (0))).setCell ⟨w.heap.size + 1, 0, none⟩ (.string (S (l)))).setCell ⟨w.heap.size + 1, 1, none⟩ (.int .i64 (0))) := ((Touch.refl _ (V.setCell ⟨w.heap.size, 1, none⟩ (.int .i64 (0)))).setCell (a := ⟨w.heap.size + 1, 0, none⟩) (.inl (by simp)) _).setCell (a := ⟨w.heap.size + 1, 1, none⟩) (.inl (by simp)) _
    have ht2 := HT1.out.carry ts (by simp)
    have hs0 := ht2.set 0 (.int .u64 0)
    have z1 := hs0.cell 1
    have q1 := hs0.fr 1
    simp only [List.setIfInBounds_toArray, List.set_cons_succ, List.set_cons_zero, List.getElem?_toArray, List.getElem?_cons_zero, List.getElem?_cons_succ] at z1
    have sf := store_f64 (v := .float .f64 0) z1 q1 rfl
    clear z1 q1 hs0
    have G7 := Lib.hid ((((ht2.set 0 (.int .u64 0)).set 1 (.float .f64 0)).set 2 (.string ⟨#[]⟩)).set 3 (.bool false))
    have tt := (((((Touch.refl [w.heap.size + 1 + 1] (((V.setCell ⟨w.heap.size, 1, none⟩ (.int .i64 (0))).setCell ⟨w.heap.size + 1, 0, none⟩ (.string (S (l)))).setCell ⟨w.heap.size + 1, 1, none⟩ (.int .i64 (0)))).setCell (a := ⟨w.heap.size + 1 + 1, 0, none⟩) (.inl (by simp)) (.int .u64 0)).setCell (a := ⟨w.heap.size + 1 + 1, 1, none⟩) (.inl (by simp)) (.float .f64 0)).setCell (a := ⟨w.heap.size + 1 + 1, 2, none⟩) (.inl (by simp)) (.string ⟨#[]⟩)).setCell (a := ⟨w.heap.size + 1 + 1, 3, none⟩) (.inl (by simp)) (.bool false))
    have G6 := Lib.hid (((HR1.out.set 0 (.string (S (l)))).set 1 (.int .i64 (0))).carry tt (by simp))
    have TT := Lib.hid ((T1.out.trans ts (fun b hb => .inr (by simp at hb; omega))).trans tt (fun b hb => .inr (by simp at hb; omega)))
    clear ts tt ht2
    go_wp2_with fail
    have d0 := G6.out.cell 0
    have d1 := G6.out.cell 1
    have f0 := G7.out.cell 0
    have f1 := G7.out.cell 1
    have f2 := G7.out.cell 2
    have f3 := G7.out.cell 3
    simp only [List.setIfInBounds_toArray, List.set_cons_succ, List.set_cons_zero, List.getElem?_toArray, List.getElem?_cons_zero, List.getElem?_cons_succ] at d0 d1 f0 f1 f2 f3
    refine bodyPost_ret (v := .tuple #[.agg #[.string (S (l)), .int .i64 (0)], .agg #[.int .u64 0, .float .f64 0, .string ⟨#[]⟩, .bool false]]) (by simp [results, Try.results9, go_sem, d0, d1, f0, f1, f2, f3]) rfl ?_
    exact DidS.ok rfl TT.out
  · rw [show needQ n l = .error n by unfold needQ; rw [if_neg hn]]
    clear hn
    go_enter Try.func9, Try.ntmps9
    go_upto_region 24 with fail
    generalize (((w.alloc (.cells #[.string (S l), .int .i64 0] 38)).alloc (.cells #[.string ⟨#[]⟩, .int .i64 0] 38)).alloc (.cells #[.int .u64 0, .float .f64 0, .string ⟨#[]⟩, .bool false] 33)) = V at *
    have a2 : Touch [w.heap.size] V (V.setCell ⟨w.heap.size, 1, none⟩ (.int .i64 (n))) := (Touch.refl _ _).setCell (a := ⟨w.heap.size, 1, none⟩) (.inl (by simp)) _
    have HP1 := Lib.hid (show BoxV (V.setCell ⟨w.heap.size, 1, none⟩ (.int .i64 (n))) w.heap.size 38 #[.string (S l), .int .i64 (n)] from HP.out.set 1 (.int .i64 (n)))
    have HR1 := Lib.hid (HR.out.carry a2 (by simp <;> omega))
    have HT1 := Lib.hid (HT.out.carry a2 (by simp <;> omega))
    have T1 := Lib.hid (T0.out.trans a2 (fun b hb => .inr (by simp at hb; omega)))
    have e0 := HP.out.cell 0
    have e1 := HP.out.cell 1
    have le := HP.out.lt
    have fe := HP.out.fr
    have v0 := HR.out.cell 0
    have v1 := HR.out.cell 1
    have lv := HR.out.lt
    have fv := HR.out.fr
    have u0 := HT.out.cell 0
    have u1 := HT.out.cell 1
    have u2 := HT.out.cell 2
    have u3 := HT.out.cell 3
    have lu := HT.out.lt
    have fu := HT.out.fr
    have p0 := HP1.out.cell 0
    have p1 := HP1.out.cell 1
    have lp := HP1.out.lt
    simp only [List.getElem?_toArray, List.getElem?_cons_zero, List.getElem?_cons_succ] at e0 e1 v0 v1 u0 u1 u2 u3 p0 p1
    clear a2 HP HR HT T0
    have r0 := HR1.out.cell 0
    have r1 := HR1.out.cell 1
    have lr := HR1.out.lt
    have fr := HR1.out.fr
    have x0 := HT1.out.cell 0
    have x1 := HT1.out.cell 1
    have x2 := HT1.out.cell 2
    have x3 := HT1.out.cell 3
    have lx := HT1.out.lt
    have fx := HT1.out.fr
    simp only [List.getElem?_toArray, List.getElem?_cons_zero, List.getElem?_cons_succ] at r0 r1 x0 x1 x2 x3
    have ts : Touch [w.heap.size + 1] (V.setCell ⟨w.heap.size, 1, none⟩ (.int .i64 (n))) (((V.setCell ⟨w.heap.size, 1, none⟩ (.int .i64 (n))).setCell ⟨w.heap.size + 1, 0, none⟩ (.string (S (l)))).setCell ⟨w.heap.size + 1, 1, none⟩ (.int .i64 (n))) := ((Touch.refl _ (V.setCell ⟨w.heap.size, 1, none⟩ (.int .i64 (n)))).setCell (a := ⟨w.heap.size + 1, 0, none⟩) (.inl (by simp)) _).setCell (a := ⟨w.heap.size + 1, 1, none⟩) (.inl (by simp)) _
    have ht2 := HT1.out.carry ts (by simp)
    have hs0 := ht2.set 0 (.int .u64 0)
    have z1 := hs0.cell 1
    have q1 := hs0.fr 1
    simp only [List.setIfInBounds_toArray, List.set_cons_succ, List.set_cons_zero, List.getElem?_toArray, List.getElem?_cons_zero, List.getElem?_cons_succ] at z1
    have sf := store_f64 (v := .float .f64 0) z1 q1 rfl
    clear z1 q1 hs0
    have G7 := Lib.hid ((((ht2.set 0 (.int .u64 0)).set 1 (.float .f64 0)).set 2 (.string ⟨#[]⟩)).set 3 (.bool false))
    have tt := (((((Touch.refl [w.heap.size + 1 + 1] (((V.setCell ⟨w.heap.size, 1, none⟩ (.int .i64 (n))).setCell ⟨w.heap.size + 1, 0, none⟩ (.string (S (l)))).setCell ⟨w.heap.size + 1, 1, none⟩ (.int .i64 (n)))).setCell (a := ⟨w.heap.size + 1 + 1, 0, none⟩) (.inl (by simp)) (.int .u64 0)).setCell (a := ⟨w.heap.size + 1 + 1, 1, none⟩) (.inl (by simp)) (.float .f64 0)).setCell (a := ⟨w.heap.size + 1 + 1, 2, none⟩) (.inl (by simp)) (.string ⟨#[]⟩)).setCell (a := ⟨w.heap.size + 1 + 1, 3, none⟩) (.inl (by simp)) (.bool false))
    have G6 := Lib.hid (((HR1.out.set 0 (.string (S (l)))).set 1 (.int .i64 (n))).carry tt (by simp))
    have TT := Lib.hid ((T1.out.trans ts (fun b hb => .inr (by simp at hb; omega))).trans tt (fun b hb => .inr (by simp at hb; omega)))
    clear ts tt ht2
    go_wp2_with fail
    have d0 := G6.out.cell 0
    have d1 := G6.out.cell 1
    have f0 := G7.out.cell 0
    have f1 := G7.out.cell 1
    have f2 := G7.out.cell 2
    have f3 := G7.out.cell 3
    simp only [List.setIfInBounds_toArray, List.set_cons_succ, List.set_cons_zero, List.getElem?_toArray, List.getElem?_cons_zero, List.getElem?_cons_succ] at d0 d1 f0 f1 f2 f3
    refine bodyPost_ret (v := .tuple #[.agg #[.string (S (l)), .int .i64 (n)], .agg #[.int .u64 0, .float .f64 0, .string ⟨#[]⟩, .bool false]]) (by simp [results, Try.results9, go_sem, d0, d1, f0, f1, f2, f3]) rfl ?_
    exact DidS.er _ Tld.zero rfl TT.out
set_option maxHeartbeats 1600000 in
set_option maxRecDepth 100000 in
theorem same_x (hl : l.length ≤ 1000000000) (n : Int) (op : Int) (hop : op < 0 ∨ 9 < op) (w : World) : Calls Try.prog 9 #[rv l 0, .int .i64 op, .int .i64 n] w (DidS w (.ok (Tld.zero, l))) := by
  have t0 : Touch [] w (((w.alloc (.cells #[.string (S l), .int .i64 0] 38)).alloc (.cells #[.string ⟨#[]⟩, .int .i64 0] 38)).alloc (.cells #[.int .u64 0, .float .f64 0, .string ⟨#[]⟩, .bool false] 33)) := (((Touch.refl [] w).alloc _).alloc _).alloc _
  have s1 : (w.alloc (.cells #[.string (S l), .int .i64 0] 38)).heap.size = w.heap.size + 1 := by simp
  have s2 : ((w.alloc (.cells #[.string (S l), .int .i64 0] 38)).alloc (.cells #[.string ⟨#[]⟩, .int .i64 0] 38)).heap.size = w.heap.size + 1 + 1 := by simp
  have HP := Lib.hid (show BoxV (((w.alloc (.cells #[.string (S l), .int .i64 0] 38)).alloc (.cells #[.string ⟨#[]⟩, .int .i64 0] 38)).alloc (.cells #[.int .u64 0, .float .f64 0, .string ⟨#[]⟩, .bool false] 33)) w.heap.size 38 #[.string (S l), .int .i64 0] from ((BoxV.new w 38 #[.string (S l), .int .i64 0]).carry ((Touch.refl [] _).alloc (.cells #[.string ⟨#[]⟩, .int .i64 0] 38)) (by simp)).carry ((Touch.refl [] _).alloc (.cells #[.int .u64 0, .float .f64 0, .string ⟨#[]⟩, .bool false] 33)) (by simp))
  have HR := Lib.hid (show BoxV (((w.alloc (.cells #[.string (S l), .int .i64 0] 38)).alloc (.cells #[.string ⟨#[]⟩, .int .i64 0] 38)).alloc (.cells #[.int .u64 0, .float .f64 0, .string ⟨#[]⟩, .bool false] 33)) (w.heap.size + 1) 38 #[.string ⟨#[]⟩, .int .i64 0] from by
    have := (BoxV.new (w.alloc (.cells #[.string (S l), .int .i64 0] 38)) 38 #[.string ⟨#[]⟩, .int .i64 0]).carry ((Touch.refl [] _).alloc (.cells #[.int .u64 0, .float .f64 0, .string ⟨#[]⟩, .bool false] 33)) (by simp)
    rwa [s1] at this)
  have HT := Lib.hid (show BoxV (((w.alloc (.cells #[.string (S l), .int .i64 0] 38)).alloc (.cells #[.string ⟨#[]⟩, .int .i64 0] 38)).alloc (.cells #[.int .u64 0, .float .f64 0, .string ⟨#[]⟩, .bool false] 33)) (w.heap.size + 1 + 1) 33 #[.int .u64 0, .float .f64 0, .string ⟨#[]⟩, .bool false] from by
    have := BoxV.new ((w.alloc (.cells #[.string (S l), .int .i64 0] 38)).alloc (.cells #[.string ⟨#[]⟩, .int .i64 0] 38)) 33 #[.int .u64 0, .float .f64 0, .string ⟨#[]⟩, .bool false]
    rwa [s2] at this)
  have T0 := Lib.hid t0
  unfold rv at *
  clear t0 s1 s2
  have z0 : (op == 0) = false := by simp; omega
  have z1 : (op == 1) = false := by simp; omega
  have z2 : (op == 2) = false := by simp; omega
  have z3 : (op == 3) = false := by simp; omega
  have z4 : (op == 4) = false := by simp; omega
  have z5 : (op == 5) = false := by simp; omega
  have z6 : (op == 6) = false := by simp; omega
  have z7 : (op == 7) = false := by simp; omega
  have z8 : (op == 8) = false := by simp; omega
  have z9 : (op == 9) = false := by simp; omega
  have a2 : Touch [w.heap.size] (((w.alloc (.cells #[.string (S l), .int .i64 0] 38)).alloc (.cells #[.string ⟨#[]⟩, .int .i64 0] 38)).alloc (.cells #[.int .u64 0, .float .f64 0, .string ⟨#[]⟩, .bool false] 33)) (((w.alloc (.cells #[.string (S l), .int .i64 0] 38)).alloc (.cells #[.string ⟨#[]⟩, .int .i64 0] 38)).alloc (.cells #[.int .u64 0, .float .f64 0, .string ⟨#[]⟩, .bool false] 33)) := Touch.refl _ _
  have HP1 := Lib.hid (show BoxV (((w.alloc (.cells #[.string (S l), .int .i64 0] 38)).alloc (.cells #[.string ⟨#[]⟩, .int .i64 0] 38)).alloc (.cells #[.int .u64 0, .float .f64 0, .string ⟨#[]⟩, .bool false] 33)) w.heap.size 38 #[.string (S l), .int .i64 (0)] from HP.out)
  have HR1 := Lib.hid (HR.out.carry a2 (by simp <;> omega))
  have HT1 := Lib.hid (HT.out.carry a2 (by simp <;> omega))
  have T1 := Lib.hid (T0.out.trans a2 (fun b hb => .inr (by simp at hb; omega)))
  have e0 := HP.out.cell 0
  have e1 := HP.out.cell 1
  have le := HP.out.lt
  have fe := HP.out.fr
  simp only [List.getElem?_toArray, List.getElem?_cons_zero, List.getElem?_cons_succ] at e0 e1
  clear a2 HP HR HT T0
  go_enter Try.func9, Try.ntmps9
  go_upto_region 25 with fail
  generalize (((w.alloc (.cells #[.string (S l), .int .i64 0] 38)).alloc (.cells #[.string ⟨#[]⟩, .int .i64 0] 38)).alloc (.cells #[.int .u64 0, .float .f64 0, .string ⟨#[]⟩, .bool false] 33)) = W at *
  clear e0 e1 le fe
  have p0 := HP1.out.cell 0
  have p1 := HP1.out.cell 1
  have lp := HP1.out.lt
  simp only [List.getElem?_toArray, List.getElem?_cons_zero, List.getElem?_cons_succ] at p0 p1
  have r0 := HR1.out.cell 0
  have r1 := HR1.out.cell 1
  have lr := HR1.out.lt
  have fr := HR1.out.fr
  have x0 := HT1.out.cell 0
  have x1 := HT1.out.cell 1
  have x2 := HT1.out.cell 2
  have x3 := HT1.out.cell 3
  have lx := HT1.out.lt
  have fx := HT1.out.fr
  simp only [List.getElem?_toArray, List.getElem?_cons_zero, List.getElem?_cons_succ] at r0 r1 x0 x1 x2 x3
  have ts : Touch [w.heap.size + 1] W ((W.setCell ⟨w.heap.size + 1, 0, none⟩ (.string (S (l)))).setCell ⟨w.heap.size + 1, 1, none⟩ (.int .i64 (0))) := ((Touch.refl _ W).setCell (a := ⟨w.heap.size + 1, 0, none⟩) (.inl (by simp)) _).setCell (a := ⟨w.heap.size + 1, 1, none⟩) (.inl (by simp)) _
  have ht2 := HT1.out.carry ts (by simp)
  have hs0 := ht2.set 0 (.int .u64 0)
  have z1 := hs0.cell 1
  have q1 := hs0.fr 1
  simp only [List.setIfInBounds_toArray, List.set_cons_succ, List.set_cons_zero, List.getElem?_toArray, List.getElem?_cons_zero, List.getElem?_cons_succ] at z1
  have sf := store_f64 (v := .float .f64 0) z1 q1 rfl
  clear z1 q1 hs0
  have G7 := Lib.hid ((((ht2.set 0 (.int .u64 0)).set 1 (.float .f64 0)).set 2 (.string ⟨#[]⟩)).set 3 (.bool false))
  have tt := (((((Touch.refl [w.heap.size + 1 + 1] ((W.setCell ⟨w.heap.size + 1, 0, none⟩ (.string (S (l)))).setCell ⟨w.heap.size + 1, 1, none⟩ (.int .i64 (0)))).setCell (a := ⟨w.heap.size + 1 + 1, 0, none⟩) (.inl (by simp)) (.int .u64 0)).setCell (a := ⟨w.heap.size + 1 + 1, 1, none⟩) (.inl (by simp)) (.float .f64 0)).setCell (a := ⟨w.heap.size + 1 + 1, 2, none⟩) (.inl (by simp)) (.string ⟨#[]⟩)).setCell (a := ⟨w.heap.size + 1 + 1, 3, none⟩) (.inl (by simp)) (.bool false))
  have G6 := Lib.hid (((HR1.out.set 0 (.string (S (l)))).set 1 (.int .i64 (0))).carry tt (by simp))
  have TT := Lib.hid ((T1.out.trans ts (fun b hb => .inr (by simp at hb; omega))).trans tt (fun b hb => .inr (by simp at hb; omega)))
  clear ts tt ht2
  go_wp2_with fail
  have d0 := G6.out.cell 0
  have d1 := G6.out.cell 1
  have f0 := G7.out.cell 0
  have f1 := G7.out.cell 1
  have f2 := G7.out.cell 2
  have f3 := G7.out.cell 3
  simp only [List.setIfInBounds_toArray, List.set_cons_succ, List.set_cons_zero, List.getElem?_toArray, List.getElem?_cons_zero, List.getElem?_cons_succ] at d0 d1 f0 f1 f2 f3
  refine bodyPost_ret (v := .tuple #[.agg #[.string (S (l)), .int .i64 (0)], .agg #[.int .u64 0, .float .f64 0, .string ⟨#[]⟩, .bool false]]) (by simp [results, Try.results9, go_sem, d0, d1, f0, f1, f2, f3]) rfl ?_
  exact DidS.ok rfl TT.out
theorem same_any (hl : l.length ≤ 1000000000) (op n : Int) (w : World) : Calls Try.prog 9 #[rv l 0, .int .i64 op, .int .i64 n] w (DidS w (stepQ op n l)) := by
  by_cases h9 : op < 0 ∨ 9 < op
  · have e : stepQ op n l = .ok (Tld.zero, l) := by
      unfold stepQ
      rw [if_neg (by omega), if_neg (by omega), if_neg (by omega), if_neg (by omega), if_neg (by omega), if_neg (by omega), if_neg (by omega), if_neg (by omega), if_neg (by omega), if_neg (by omega)]
    rw [e]
    exact same_x hl n op h9 w
  · rcases (show op = 0 ∨ op = 1 ∨ op = 2 ∨ op = 3 ∨ op = 4 ∨ op = 5 ∨ op = 6 ∨ op = 7 ∨ op = 8 ∨ op = 9 by omega) with rfl | rfl | rfl | rfl | rfl | rfl | rfl | rfl | rfl | rfl
    · exact same_0 hl n w
    · exact same_1 hl n w
    · exact same_2 hl n w
    · exact same_3 hl n w
    · exact same_4 hl n w
    · exact same_5 hl n w
    · exact same_6 hl n w
    · exact same_7 hl n w
    · exact same_8 hl n w
    · exact same_9 hl n w
end
end Go.Proofs.Ytpmnnaghadpnnaa
