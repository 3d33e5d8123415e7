/-
  Contracts of the reference of layer 8 (pool): Get, Free of what is dead, Put of what does not fit.
-/
import Derived.Test.YtkbjkijcabmbpaaRefPool
import Derived.Test.YtkbjkijcabmbpaaWhole
import Derived.Test.YtkbjkijcabmbpaaPhi8
import Derived.Test.YtkbjkijcabmbpaaPool5
namespace Go.Proofs.Ytkbjkijcabmbpaa
open Go.ChangeShapes Go.WideShapes Go.ChangeAt Go.RowKit Go.Deep Go.Maps
set_option linter.unusedVariables false
set_option linter.unusedSimpArgs false

theorem pk_all (x : Pk) : x.cells.all (·.oneCell') = true := all_oneCell_toArray (cs := x.cells.toList) (pv_one x)
theorem three_all (A1 A2 A3 : Option Addr) (n1 n2 n3 c1 c2 c3 : Nat) : (#[.slice A1 n1 c1, .slice A2 n2 c2, .slice A3 n3 c3] : Array Value).all (·.oneCell') = true :=
  all_oneCell_toArray (cs := [.slice A1 n1 c1, .slice A2 n2 c2, .slice A3 n3 c3]) (by intro u hu; simp at hu; rcases hu with rfl | rfl | rfl <;> rfl)
theorem five_all (A1 A2 A3 A4 : Option Addr) (n1 n2 n3 n4 c1 c2 c3 c4 : Nat) (r : Int) : (#[.slice A1 n1 c1, .slice A2 n2 c2, .slice A3 n3 c3, .slice A4 n4 c4, .int .i64 r] : Array Value).all (·.oneCell') = true :=
  all_oneCell_toArray (cs := [.slice A1 n1 c1, .slice A2 n2 c2, .slice A3 n3 c3, .slice A4 n4 c4, .int .i64 r]) (by intro u hu; simp at hu; rcases hu with rfl | rfl | rfl | rfl | rfl <;> rfl)
section
variable {Z S : List Nat} {w w' : World} {vf vt vb vk : Value} {m n : Nat} {F T : Nat → Int} {B : Nat → Bool} {X : Nat → Pk}
set_option maxRecDepth 100000 in
set_option maxHeartbeats 1600000 in
theorem refGetP_no (h : RPool Z w vf vt vb vk m n F T B X) (room a t : Int) (hal : rlive n T B a t = false) :
    Calls Try.prog 33 #[.agg #[vf, vt, vb, vk, .int .i64 room], .int .i64 a, .int .i64 t] w (GetPost ⟨0, 0, 0, 0, 0, 0, 0, 0, 0, 0⟩ false w) := by
  obtain ⟨A1, c1, rfl, _, _, _⟩ := h.ref.free
  obtain ⟨A2, c2, rfl, _, _, _⟩ := h.ref.turns
  obtain ⟨A3, c3, rfl, _, _, _⟩ := h.ref.taken
  obtain ⟨A4, c4, rfl, _, _, _⟩ := h.rows
  have t1 : Touch [] w ((w.alloc (.cells (#[.slice A1 m c1, .slice A2 n c2, .slice A3 n c3, .slice A4 n c4, .int .i64 room] : Array Value) 58)).alloc (.cells (#[.int .i64 0, .int .i64 0, .int .i64 0, .int .u64 0, .int .u64 0, .int .u64 0, .int .u64 0, .int .i64 0, .int .i64 0, .int .i64 0] : Array Value) 66)) := ((Touch.refl [] w).alloc _).alloc _
  have HBX := Lib.hid (show BoxV ((w.alloc (.cells (#[.slice A1 m c1, .slice A2 n c2, .slice A3 n c3, .slice A4 n c4, .int .i64 room] : Array Value) 58)).alloc (.cells (#[.int .i64 0, .int .i64 0, .int .i64 0, .int .u64 0, .int .u64 0, .int .u64 0, .int .u64 0, .int .i64 0, .int .i64 0, .int .i64 0] : Array Value) 66)) w.heap.size 58 (#[.slice A1 m c1, .slice A2 n c2, .slice A3 n c3, .slice A4 n c4, .int .i64 room] : Array Value) from BoxV.of2)
  have HBR := Lib.hid (show BoxV ((w.alloc (.cells (#[.slice A1 m c1, .slice A2 n c2, .slice A3 n c3, .slice A4 n c4, .int .i64 room] : Array Value) 58)).alloc (.cells (#[.int .i64 0, .int .i64 0, .int .i64 0, .int .u64 0, .int .u64 0, .int .u64 0, .int .u64 0, .int .i64 0, .int .i64 0, .int .i64 0] : Array Value) 66)) (w.heap.size + 1) 66 (#[.int .i64 0, .int .i64 0, .int .i64 0, .int .u64 0, .int .u64 0, .int .u64 0, .int .u64 0, .int .i64 0, .int .i64 0, .int .i64 0] : Array Value) from BoxV.at1)
  have T1 := Lib.hid t1
  have HP := Lib.hid (h.new t1)
  have LV := Lib.hid (refLive_any (h.new t1).ref a t)
  rw [hal] at LV
  clear h t1
  unfold GetPost Pk.cells
  go_enter Try.func33, Try.ntmps33
  go_upto_region 1 with fail
  generalize (w.alloc (.cells (#[.slice A1 m c1, .slice A2 n c2, .slice A3 n c3, .slice A4 n c4, .int .i64 room] : Array Value) 58)).alloc (.cells (#[.int .i64 0, .int .i64 0, .int .i64 0, .int .u64 0, .int .u64 0, .int .u64 0, .int .u64 0, .int .i64 0, .int .i64 0, .int .i64 0] : Array Value) 66) = w1 at *
  generalize hbr : w.heap.size + 1 = br at *
  generalize hbx : w.heap.size = bx at *
  have HLB := Lib.hid (show w.heap.size ≤ br by omega)
  clear hbr
  have lx := HBX.out.lt
  have d0 := HBX.out.cell 0
  have d1 := HBX.out.cell 1
  have d2 := HBX.out.cell 2
  simp only [List.getElem?_toArray, List.getElem?_cons_zero, List.getElem?_cons_succ] at d0 d1 d2
  go_wp2_with fail
  refine (LV.out).mono ?_
  rintro e w2 ⟨rfl, t2⟩
  have HBX := Lib.hid (HBX.out.carry t2 (by simp))
  have HBR := Lib.hid (HBR.out.carry t2 (by simp))
  have HP := Lib.hid (HP.out.new t2)
  have T1 := Lib.hid (T1.out.trans t2 (by simp))
  clear d0 d1 d2 lx t2 LV
  go_wp2_with (refine wpList_store_mid rfl 66 (.tmp 6) (.tmp 14) rfl br 0 (#[.int .i64 0, .int .i64 0, .int .i64 0, .int .u64 0, .int .u64 0, .int .u64 0, .int .u64 0, .int .i64 0, .int .i64 0, .int .i64 0] : Array Value) rfl rfl (HBR.out.thereW 0 10 (by simp)) (by kernel_rfl) (pk_all ⟨0, 0, 0, 0, 0, 0, 0, 0, 0, 0⟩) ?_)
  exact bodyPost_ret (ret_box_slot (t := 66) Try.results33 rfl (HBR.out.wholeW (#[.int .i64 0, .int .i64 0, .int .i64 0, .int .u64 0, .int .u64 0, .int .u64 0, .int .u64 0, .int .i64 0, .int .i64 0, .int .i64 0] : Array Value) rfl) Try.underlying66 rfl (by kernel_rfl) (v2 := .bool false) rfl) rfl ⟨rfl, T1.out.trans (touch_cellsW _ _ _) (fun b hb => by simp at hb; subst hb; exact .inr HLB.out)⟩
set_option maxRecDepth 100000 in
set_option maxHeartbeats 1600000 in
theorem refGetP_yes (h : RPool Z w vf vt vb vk m n F T B X) (room : Int) (a : Nat) (t : Int) (han : a < n) (hal : rlive n T B a t = true) :
    Calls Try.prog 33 #[.agg #[vf, vt, vb, vk, .int .i64 room], .int .i64 (a : Int), .int .i64 t] w (GetPost (X a) true w) := by
  obtain ⟨A1, c1, rfl, _, _, _⟩ := h.ref.free
  obtain ⟨A2, c2, rfl, _, _, _⟩ := h.ref.turns
  obtain ⟨A3, c3, rfl, _, _, _⟩ := h.ref.taken
  obtain ⟨A4, c4, rfl, _, _, _⟩ := h.rows
  have t1 : Touch [] w ((w.alloc (.cells (#[.slice A1 m c1, .slice A2 n c2, .slice A3 n c3, .slice A4 n c4, .int .i64 room] : Array Value) 58)).alloc (.cells (#[.int .i64 0, .int .i64 0, .int .i64 0, .int .u64 0, .int .u64 0, .int .u64 0, .int .u64 0, .int .i64 0, .int .i64 0, .int .i64 0] : Array Value) 66)) := ((Touch.refl [] w).alloc _).alloc _
  have HBX := Lib.hid (show BoxV ((w.alloc (.cells (#[.slice A1 m c1, .slice A2 n c2, .slice A3 n c3, .slice A4 n c4, .int .i64 room] : Array Value) 58)).alloc (.cells (#[.int .i64 0, .int .i64 0, .int .i64 0, .int .u64 0, .int .u64 0, .int .u64 0, .int .u64 0, .int .i64 0, .int .i64 0, .int .i64 0] : Array Value) 66)) w.heap.size 58 (#[.slice A1 m c1, .slice A2 n c2, .slice A3 n c3, .slice A4 n c4, .int .i64 room] : Array Value) from BoxV.of2)
  have HBR := Lib.hid (show BoxV ((w.alloc (.cells (#[.slice A1 m c1, .slice A2 n c2, .slice A3 n c3, .slice A4 n c4, .int .i64 room] : Array Value) 58)).alloc (.cells (#[.int .i64 0, .int .i64 0, .int .i64 0, .int .u64 0, .int .u64 0, .int .u64 0, .int .u64 0, .int .i64 0, .int .i64 0, .int .i64 0] : Array Value) 66)) (w.heap.size + 1) 66 (#[.int .i64 0, .int .i64 0, .int .i64 0, .int .u64 0, .int .u64 0, .int .u64 0, .int .u64 0, .int .i64 0, .int .i64 0, .int .i64 0] : Array Value) from BoxV.at1)
  have T1 := Lib.hid t1
  have HP := Lib.hid (h.new t1)
  have LV := Lib.hid (refLive_any (h.new t1).ref a t)
  rw [hal] at LV
  clear h t1
  unfold GetPost
  go_enter Try.func33, Try.ntmps33
  go_upto_region 1 with fail
  generalize (w.alloc (.cells (#[.slice A1 m c1, .slice A2 n c2, .slice A3 n c3, .slice A4 n c4, .int .i64 room] : Array Value) 58)).alloc (.cells (#[.int .i64 0, .int .i64 0, .int .i64 0, .int .u64 0, .int .u64 0, .int .u64 0, .int .u64 0, .int .i64 0, .int .i64 0, .int .i64 0] : Array Value) 66) = w1 at *
  generalize hbr : w.heap.size + 1 = br at *
  generalize hbx : w.heap.size = bx at *
  have HLB := Lib.hid (show w.heap.size ≤ br by omega)
  clear hbr
  have lx := HBX.out.lt
  have d0 := HBX.out.cell 0
  have d1 := HBX.out.cell 1
  have d2 := HBX.out.cell 2
  simp only [List.getElem?_toArray, List.getElem?_cons_zero, List.getElem?_cons_succ] at d0 d1 d2
  go_wp2_with fail
  refine (LV.out).mono ?_
  rintro e w2 ⟨rfl, t2⟩
  have HBX := Lib.hid (HBX.out.carry t2 (by simp))
  have HBR := Lib.hid (HBR.out.carry t2 (by simp))
  have HP := Lib.hid (HP.out.new t2)
  have T1 := Lib.hid (T1.out.trans t2 (by simp))
  clear d0 d1 d2 lx t2 LV
  obtain ⟨A4', c4', e4, _, _, h4⟩ := HP.out.rows
  simp only [Value.slice.injEq, true_and] at e4
  obtain ⟨rfl, rfl⟩ := e4
  obtain ⟨b4, o4, rfl, l4, _, x4⟩ := h4 a han
  obtain ⟨x, hx⟩ : ∃ x, X a = x := ⟨_, rfl⟩
  rw [hx] at x4
  have HXA := Lib.hid hx
  clear hx
  have HR := Lib.hid x4
  have lx := HBX.out.lt
  have d3 := HBX.out.cell 3
  simp only [List.getElem?_toArray, List.getElem?_cons_zero, List.getElem?_cons_succ] at d3
  clear h4 x4
  go_wp2_with (first
    | (refine wpList_load_mid rfl 66 (.tmp 18) rfl b4 (o4 + a * 10) rfl x.cells.toList _ HR.out Try.underlying66 rfl (by kernel_rfl) ?_)
    | (refine wpList_store_mid rfl 66 (.tmp 6) (.tmp 19) rfl br 0 x.cells rfl rfl (HBR.out.thereW 0 10 (by simp)) (by kernel_rfl) (pk_all x) ?_))
  exact bodyPost_ret (ret_box_slot (t := 66) Try.results33 rfl (HBR.out.wholeW x.cells rfl) Try.underlying66 rfl (by kernel_rfl) (v2 := .bool true) rfl) rfl ⟨by rw [HXA.out], T1.out.trans (touch_cellsW _ _ _) (fun b hb => by simp at hb; subst hb; exact .inr HLB.out)⟩
set_option maxRecDepth 100000 in
set_option maxHeartbeats 1600000 in
theorem refPut_no (h : RPool Z w vf vt vb vk m n F T B X) (room : Int) (x : Pk) (hn : n ≤ 5000) (hs : ∀ i, i < n → 0 ≤ sizeIf B X i ∧ sizeIf B X i ≤ 2048) (hr : 0 ≤ room ∧ room ≤ 4194304) (y : Int) (hy : fitsV m (sumC (sizeIf B X) n) room x.size = y) (h0 : y ≠ 0) :
    Calls Try.prog 31 #[.agg #[vf, vt, vb, vk, .int .i64 room], .agg x.cells] w fun e w' => e = .returned (.tuple #[.agg #[vf, vt, vb, vk, .int .i64 room], .int .i64 0, .int .i64 0, .int .i64 y]) ∧ Touch [] w w' := by
  obtain ⟨A1, c1, rfl, _, _, _⟩ := h.ref.free
  obtain ⟨A2, c2, rfl, _, _, _⟩ := h.ref.turns
  obtain ⟨A3, c3, rfl, _, _, _⟩ := h.ref.taken
  obtain ⟨A4, c4, rfl, _, _, _⟩ := h.rows
  have t1 : Touch [] w (((w.alloc (.cells (#[.slice A1 m c1, .slice A2 n c2, .slice A3 n c3, .slice A4 n c4, .int .i64 room] : Array Value) 58)).alloc (.cells x.cells 66)).alloc (.cells (#[.slice none 0 0, .slice none 0 0, .slice none 0 0, .slice none 0 0, .int .i64 0] : Array Value) 58)) := (((Touch.refl [] w).alloc _).alloc _).alloc _
  have HBX := Lib.hid (show BoxV (((w.alloc (.cells (#[.slice A1 m c1, .slice A2 n c2, .slice A3 n c3, .slice A4 n c4, .int .i64 room] : Array Value) 58)).alloc (.cells x.cells 66)).alloc (.cells (#[.slice none 0 0, .slice none 0 0, .slice none 0 0, .slice none 0 0, .int .i64 0] : Array Value) 58)) w.heap.size 58 (#[.slice A1 m c1, .slice A2 n c2, .slice A3 n c3, .slice A4 n c4, .int .i64 room] : Array Value) from BoxV.of3)
  have HBP := Lib.hid (show BoxV (((w.alloc (.cells (#[.slice A1 m c1, .slice A2 n c2, .slice A3 n c3, .slice A4 n c4, .int .i64 room] : Array Value) 58)).alloc (.cells x.cells 66)).alloc (.cells (#[.slice none 0 0, .slice none 0 0, .slice none 0 0, .slice none 0 0, .int .i64 0] : Array Value) 58)) (w.heap.size + 1) 66 x.cells from BoxV.at1of3)
  have HBR := Lib.hid (show BoxV (((w.alloc (.cells (#[.slice A1 m c1, .slice A2 n c2, .slice A3 n c3, .slice A4 n c4, .int .i64 room] : Array Value) 58)).alloc (.cells x.cells 66)).alloc (.cells (#[.slice none 0 0, .slice none 0 0, .slice none 0 0, .slice none 0 0, .int .i64 0] : Array Value) 58)) (w.heap.size + 2) 58 (#[.slice none 0 0, .slice none 0 0, .slice none 0 0, .slice none 0 0, .int .i64 0] : Array Value) from BoxV.at2)
  have T1 := Lib.hid t1
  have LV := Lib.hid (refFits_any (h.new t1) room x.size hn hs hr)
  rw [hy] at LV
  have h0' : (y != 0) = true := by simpa using h0
  clear h t1 hy h0
  go_enter Try.func31, Try.ntmps31
  go_upto_region 1 with fail
  generalize ((w.alloc (.cells (#[.slice A1 m c1, .slice A2 n c2, .slice A3 n c3, .slice A4 n c4, .int .i64 room] : Array Value) 58)).alloc (.cells x.cells 66)).alloc (.cells (#[.slice none 0 0, .slice none 0 0, .slice none 0 0, .slice none 0 0, .int .i64 0] : Array Value) 58) = w1 at *
  generalize hbr : w.heap.size + 2 = br at *
  generalize hbp : w.heap.size + 1 = bp at *
  generalize hbx : w.heap.size = bx at *
  have HLB := Lib.hid (show w.heap.size ≤ br by omega)
  clear hbr hbp
  have lx := HBX.out.lt
  have lp := HBP.out.lt
  have p1 := HBP.out.cell 1
  rw [show x.cells[1]? = some (.int .i64 x.size) from rfl] at p1
  have d0 := HBX.out.cell 0
  have d1 := HBX.out.cell 1
  have d2 := HBX.out.cell 2
  have d3 := HBX.out.cell 3
  have d4 := HBX.out.cell 4
  simp only [List.getElem?_toArray, List.getElem?_cons_zero, List.getElem?_cons_succ] at d0 d1 d2 d3 d4
  go_wp2_with fail
  refine (LV.out).mono ?_
  rintro e w2 ⟨rfl, t2⟩
  have HBX := Lib.hid (HBX.out.carry t2 (by simp))
  have HBR := Lib.hid (HBR.out.carry t2 (by simp))
  have T1 := Lib.hid (T1.out.trans t2 (by simp))
  clear d0 d1 d2 d3 d4 p1 lp lx t2 LV HBP
  have lx := HBX.out.lt
  have d0 := HBX.out.cell 0
  have d1 := HBX.out.cell 1
  have d2 := HBX.out.cell 2
  have d3 := HBX.out.cell 3
  have d4 := HBX.out.cell 4
  simp only [List.getElem?_toArray, List.getElem?_cons_zero, List.getElem?_cons_succ] at d0 d1 d2 d3 d4
  go_wp2_with (refine wpList_store_mid rfl 58 (.tmp 4) (.tmp 20) rfl br 0 (#[.slice A1 m c1, .slice A2 n c2, .slice A3 n c3, .slice A4 n c4, .int .i64 room] : Array Value) rfl rfl (HBR.out.thereW 0 5 (by simp)) (by kernel_rfl) (five_all _ _ _ _ _ _ _ _ _ _ _ _ _) ?_)
  exact bodyPost_ret (ret_box3 (t := 58) Try.results31 rfl (HBR.out.wholeW (#[.slice A1 m c1, .slice A2 n c2, .slice A3 n c3, .slice A4 n c4, .int .i64 room] : Array Value) rfl) Try.underlying58 rfl (by kernel_rfl) (va := .int .i64 0) (vb := .int .i64 0) (vc := .int .i64 y) rfl rfl rfl) rfl ⟨rfl, T1.out.trans (touch_cellsW _ _ _) (fun b hb => by simp at hb; subst hb; exact .inr HLB.out)⟩
set_option maxRecDepth 100000 in
set_option maxHeartbeats 3200000 in
theorem refFreeP_no (h : RPool Z w vf vt vb vk m n F T B X) (room a t : Int) (hal : rlive n T B a t = false) :
    Calls Try.prog 35 #[.agg #[vf, vt, vb, vk, .int .i64 room], .int .i64 a, .int .i64 t] w fun e w' => e = .returned (.tuple #[.agg #[vf, vt, vb, vk, .int .i64 room], .agg (#[.int .i64 0, .int .i64 0, .int .i64 0, .int .u64 0, .int .u64 0, .int .u64 0, .int .u64 0, .int .i64 0, .int .i64 0, .int .i64 0] : Array Value), .bool false]) ∧ Touch [] w w' := by
  obtain ⟨A1, c1, rfl, _, _, _⟩ := h.ref.free
  obtain ⟨A2, c2, rfl, _, _, _⟩ := h.ref.turns
  obtain ⟨A3, c3, rfl, _, _, _⟩ := h.ref.taken
  obtain ⟨A4, c4, rfl, _, _, _⟩ := h.rows
  have t1 : Touch [] w (((w.alloc (.cells (#[.slice A1 m c1, .slice A2 n c2, .slice A3 n c3, .slice A4 n c4, .int .i64 room] : Array Value) 58)).alloc (.cells (#[.slice none 0 0, .slice none 0 0, .slice none 0 0, .slice none 0 0, .int .i64 0] : Array Value) 58)).alloc (.cells (#[.int .i64 0, .int .i64 0, .int .i64 0, .int .u64 0, .int .u64 0, .int .u64 0, .int .u64 0, .int .i64 0, .int .i64 0, .int .i64 0] : Array Value) 66)) := (((Touch.refl [] w).alloc _).alloc _).alloc _
  have HBX := Lib.hid (show BoxV (((w.alloc (.cells (#[.slice A1 m c1, .slice A2 n c2, .slice A3 n c3, .slice A4 n c4, .int .i64 room] : Array Value) 58)).alloc (.cells (#[.slice none 0 0, .slice none 0 0, .slice none 0 0, .slice none 0 0, .int .i64 0] : Array Value) 58)).alloc (.cells (#[.int .i64 0, .int .i64 0, .int .i64 0, .int .u64 0, .int .u64 0, .int .u64 0, .int .u64 0, .int .i64 0, .int .i64 0, .int .i64 0] : Array Value) 66)) w.heap.size 58 (#[.slice A1 m c1, .slice A2 n c2, .slice A3 n c3, .slice A4 n c4, .int .i64 room] : Array Value) from BoxV.of3)
  have HBR := Lib.hid (show BoxV (((w.alloc (.cells (#[.slice A1 m c1, .slice A2 n c2, .slice A3 n c3, .slice A4 n c4, .int .i64 room] : Array Value) 58)).alloc (.cells (#[.slice none 0 0, .slice none 0 0, .slice none 0 0, .slice none 0 0, .int .i64 0] : Array Value) 58)).alloc (.cells (#[.int .i64 0, .int .i64 0, .int .i64 0, .int .u64 0, .int .u64 0, .int .u64 0, .int .u64 0, .int .i64 0, .int .i64 0, .int .i64 0] : Array Value) 66)) (w.heap.size + 1) 58 (#[.slice none 0 0, .slice none 0 0, .slice none 0 0, .slice none 0 0, .int .i64 0] : Array Value) from BoxV.at1of3)
  have HBQ := Lib.hid (show BoxV (((w.alloc (.cells (#[.slice A1 m c1, .slice A2 n c2, .slice A3 n c3, .slice A4 n c4, .int .i64 room] : Array Value) 58)).alloc (.cells (#[.slice none 0 0, .slice none 0 0, .slice none 0 0, .slice none 0 0, .int .i64 0] : Array Value) 58)).alloc (.cells (#[.int .i64 0, .int .i64 0, .int .i64 0, .int .u64 0, .int .u64 0, .int .u64 0, .int .u64 0, .int .i64 0, .int .i64 0, .int .i64 0] : Array Value) 66)) (w.heap.size + 2) 66 (#[.int .i64 0, .int .i64 0, .int .i64 0, .int .u64 0, .int .u64 0, .int .u64 0, .int .u64 0, .int .i64 0, .int .i64 0, .int .i64 0] : Array Value) from BoxV.at2)
  have T1 := Lib.hid t1
  have HP := Lib.hid (h.new t1)
  have LV := Lib.hid (refGetP_no (h.new t1) room a t hal)
  unfold GetPost Pk.cells at LV
  clear h t1
  go_enter Try.func35, Try.ntmps35
  go_upto_region 1 with fail
  generalize ((w.alloc (.cells (#[.slice A1 m c1, .slice A2 n c2, .slice A3 n c3, .slice A4 n c4, .int .i64 room] : Array Value) 58)).alloc (.cells (#[.slice none 0 0, .slice none 0 0, .slice none 0 0, .slice none 0 0, .int .i64 0] : Array Value) 58)).alloc (.cells (#[.int .i64 0, .int .i64 0, .int .i64 0, .int .u64 0, .int .u64 0, .int .u64 0, .int .u64 0, .int .i64 0, .int .i64 0, .int .i64 0] : Array Value) 66) = w1 at *
  generalize hbq : w.heap.size + 2 = bq at *
  generalize hbr : w.heap.size + 1 = br at *
  generalize hbx : w.heap.size = bx at *
  have HLB := Lib.hid (show w.heap.size ≤ br ∧ w.heap.size ≤ bq ∧ w.heap.size ≤ bx ∧ br ≠ bq ∧ bx ≠ br ∧ bx ≠ bq by omega)
  clear hbr hbq
  have lx := HBX.out.lt
  have d0 := HBX.out.cell 0
  have d1 := HBX.out.cell 1
  have d2 := HBX.out.cell 2
  have d3 := HBX.out.cell 3
  have d4 := HBX.out.cell 4
  simp only [List.getElem?_toArray, List.getElem?_cons_zero, List.getElem?_cons_succ] at d0 d1 d2 d3 d4
  go_wp2_with fail
  refine (LV.out).mono ?_
  rintro e w2 ⟨rfl, t2⟩
  have t3 : Touch [] w1 (w2.alloc (.cells (#[.int .i64 0, .int .i64 0, .int .i64 0, .int .u64 0, .int .u64 0, .int .u64 0, .int .u64 0, .int .i64 0, .int .i64 0, .int .i64 0] : Array Value) 66)) := t2.alloc _
  have HB9 := Lib.hid (BoxV.new w2 66 (#[.int .i64 0, .int .i64 0, .int .i64 0, .int .u64 0, .int .u64 0, .int .u64 0, .int .u64 0, .int .i64 0, .int .i64 0, .int .i64 0] : Array Value))
  have HBL := Lib.hid (show bx < w2.heap.size ∧ br < w2.heap.size ∧ bq < w2.heap.size from ⟨Nat.lt_of_lt_of_le HBX.out.lt t2.size, Nat.lt_of_lt_of_le HBR.out.lt t2.size, Nat.lt_of_lt_of_le HBQ.out.lt t2.size⟩)
  have HBX := Lib.hid (HBX.out.carry t3 (by simp))
  have HBR := Lib.hid (HBR.out.carry t3 (by simp))
  have HBQ := Lib.hid (HBQ.out.carry t3 (by simp))
  have HP := Lib.hid (HP.out.new t3)
  have T1 := Lib.hid (T1.out.trans t3 (by simp))
  clear d0 d1 d2 d3 d4 lx t2 t3 LV
  go_upto_region 2 with fail
  generalize w2.alloc (.cells (#[.int .i64 0, .int .i64 0, .int .i64 0, .int .u64 0, .int .u64 0, .int .u64 0, .int .u64 0, .int .i64 0, .int .i64 0, .int .i64 0] : Array Value) 66) = w3 at *
  generalize w2.heap.size = b9 at *
  have HL9 := Lib.hid (show bx < b9 ∧ br < b9 ∧ bq < b9 from HBL.out)
  have LV := Lib.hid (refGive_no HP.out.ref a t hal)
  have HLX := Lib.hid HBX.out.lt
  have lx := HBX.out.lt
  have d0 := HBX.out.cell 0
  have d1 := HBX.out.cell 1
  have d2 := HBX.out.cell 2
  simp only [List.getElem?_toArray, List.getElem?_cons_zero, List.getElem?_cons_succ] at d0 d1 d2
  go_wp2_with fail
  refine (LV.out).mono ?_
  rintro e w4 ⟨rfl, t4⟩
  have t5 : Touch [] w3 (w4.alloc (.cells (#[.slice A1 m c1, .slice A2 n c2, .slice A3 n c3] : Array Value) 55)) := t4.alloc _
  have HB11 := Lib.hid (BoxV.new w4 55 (#[.slice A1 m c1, .slice A2 n c2, .slice A3 n c3] : Array Value))
  have HB9 := Lib.hid (HB9.out.carry t5 (by simp))
  have HBX := Lib.hid (HBX.out.carry t5 (by simp))
  have HBR := Lib.hid (HBR.out.carry t5 (by simp))
  have HBQ := Lib.hid (HBQ.out.carry t5 (by simp))
  have T1 := Lib.hid (T1.out.trans t5 (by simp))
  have HL4 := Lib.hid (show bx < w4.heap.size by have := HLX.out; have := t4.size; omega)
  clear d0 d1 d2 lx t4 t5 LV
  go_upto_region 3 with fail
  generalize w4.alloc (.cells (#[.slice A1 m c1, .slice A2 n c2, .slice A3 n c3] : Array Value) 55) = w5 at *
  generalize w4.heap.size = b11 at *
  have l11 := HB11.out.lt
  have g0 := HB11.out.cell 0
  have g1 := HB11.out.cell 1
  have g2 := HB11.out.cell 2
  simp only [List.getElem?_toArray, List.getElem?_cons_zero, List.getElem?_cons_succ] at g0 g1 g2
  go_upto_region 4 with (refine wpList_store_mid rfl 55 (.tmp 29) (.tmp 28) rfl bx 0 (#[.slice A1 m c1, .slice A2 n c2, .slice A3 n c3] : Array Value) rfl rfl (HBX.out.thereW 0 3 (by simp)) (by kernel_rfl) (three_all _ _ _ _ _ _ _ _ _) ?_)
  have t6 : Touch [] w5 w5 := Touch.refl _ _
  generalize hw6 : w5.setCells bx 0 ((#[.slice A1 m c1, .slice A2 n c2, .slice A3 n c3] : Array Value)).toList = w6 at *
  have T6 := Lib.hid (show Touch [bx] w5 w6 by rw [← hw6]; exact touch_cellsW _ _ _)
  have HBX := Lib.hid (show BoxV w6 bx 58 (#[.slice A1 m c1, .slice A2 n c2, .slice A3 n c3, .slice A4 n c4, .int .i64 room] : Array Value) by rw [← hw6]; exact HBX.out.putW _ _ _ _)
  clear hw6 t6 HB11 g0 g1 g2 l11
  have HNE := Lib.hid (show br ≠ bq ∧ bx ≠ br ∧ bx ≠ bq ∧ b9 ≠ bx ∧ b9 ≠ br ∧ b9 ≠ bq by have h1 := HLB.out; have h2 := HL9.out; omega)
  have HB9 := Lib.hid (HB9.out.carry T6.out (by have := HNE.out; simp; omega))
  have HBR := Lib.hid (HBR.out.carry T6.out (by have := HNE.out; simp; omega))
  have HBQ := Lib.hid (HBQ.out.carry T6.out (by have := HNE.out; simp; omega))
  refine wp_region_stores (wd := w6) [br, bq] (TwoJ br bq 3 4 58 66 (#[.slice none 0 0, .slice none 0 0, .slice none 0 0, .slice none 0 0, .int .i64 0] : Array Value) (#[.slice A1 m c1, .slice A2 n c2, .slice A3 n c3, .slice A4 n c4, .int .i64 room] : Array Value) (#[.int .i64 0, .int .i64 0, .int .i64 0, .int .u64 0, .int .u64 0, .int .u64 0, .int .u64 0, .int .i64 0, .int .i64 0, .int .i64 0] : Array Value) (#[.int .i64 0, .int .i64 0, .int .i64 0, .int .u64 0, .int .u64 0, .int .u64 0, .int .u64 0, .int .i64 0, .int .i64 0, .int .i64 0] : Array Value)) (Leaf.const (.agg (#[.slice A1 m c1, .slice A2 n c2, .slice A3 n c3, .slice A4 n c4, .int .i64 room] : Array Value)) :: Leaf.const (.agg (#[.int .i64 0, .int .i64 0, .int .i64 0, .int .u64 0, .int .u64 0, .int .u64 0, .int .u64 0, .int .i64 0, .int .i64 0, .int .i64 0] : Array Value)) :: Leaf.const (.bool false) :: Leaf.const undef :: Leaf.const undef :: Leaf.const (.bool false) :: []) (by kernel_rfl) (by kernel_rfl) (by kernel_rfl) ((Touch.refl _ _).drew) (trivial) (fun f hf => ⟨by rw [if_neg (by rw [hf]; decide)]; exact HBR.out, by rw [if_neg (by rw [hf]; decide)]; exact HBQ.out⟩) ?_ ?_
  · intro i o ho f ac w hfi ht hJ hk hf hd
    have hne := HNE.out
    match i, ho, hfi with
    | 0, ho, hfi =>
      have ho' : some _ = some o := ho
      cases ho'
      clear ho
      refine DoesG.toJ ?_ (fun w' t' => hJ.keep t' (by omega) (by omega))
      have e3 := known_slot hk 3 (by kernel_rfl) (v := .pointer (some ⟨bx, 0, none⟩)) rfl
      exact do_value (wanted_none rfl) (v := .agg (#[.slice A1 m c1, .slice A2 n c2, .slice A3 n c3, .slice A4 n c4, .int .i64 room] : Array Value)) (run_value rfl (by rw [e3]; exact load_box (HBX.out.carry ht (by simp; omega)) Try.underlying58 rfl (by kernel_rfl))) rfl
    | 1, ho, hfi =>
      have ho' : some _ = some o := ho
      cases ho'
      clear ho
      refine DoesG.toJ ?_ (fun w' t' => hJ.keep t' (by omega) (by omega))
      have e9 := known_slot hk 9 (by kernel_rfl) (v := .pointer (some ⟨b9, 0, none⟩)) rfl
      exact do_value (wanted_none rfl) (v := .agg (#[.int .i64 0, .int .i64 0, .int .i64 0, .int .u64 0, .int .u64 0, .int .u64 0, .int .u64 0, .int .i64 0, .int .i64 0, .int .i64 0] : Array Value)) (run_value rfl (by rw [e9]; exact load_box (HB9.out.carry ht (by simp; omega)) Try.underlying66 rfl (by kernel_rfl))) rfl
    | 2, ho, hfi =>
      have ho' : some _ = some o := ho
      cases ho'
      clear ho
      refine DoesG.toJ ?_ (fun w' t' => hJ.keep t' (by omega) (by omega))
      have e10 := known_slot hk 10 (by kernel_rfl) (v := .bool false) rfl
      exact do_value (wanted_none rfl) (by rw [BigFrame.run_move (.tmp 10) rfl, e10]) rfl
    | 3, ho, hfi =>
      have ho' : some _ = some o := ho
      cases ho'
      clear ho
      have e6 := known_slot hk 6 (by kernel_rfl) (v := .pointer (some ⟨br, 0, none⟩)) rfl
      have e30 := has_const (has_dep hd 0 (by kernel_rfl)) rfl rfl rfl (c := (.agg (#[.slice A1 m c1, .slice A2 n c2, .slice A3 n c3, .slice A4 n c4, .int .i64 room] : Array Value)))
      exact doJ_store (wanted_none rfl) rfl e6 e30 (hJ.there1 rfl) (by kernel_rfl) (five_all _ _ _ _ _ _ _ _ _ _ _ _ _) ⟨rfl, hJ.put1 hfi rfl hne.1 (by omega), (touch_cellsW _ _ _).mono (by simp)⟩
    | 4, ho, hfi =>
      have ho' : some _ = some o := ho
      cases ho'
      clear ho
      have e7 := known_slot hk 7 (by kernel_rfl) (v := .pointer (some ⟨bq, 0, none⟩)) rfl
      have e31 := has_const (has_dep hd 1 (by kernel_rfl)) rfl rfl rfl (c := (.agg (#[.int .i64 0, .int .i64 0, .int .i64 0, .int .u64 0, .int .u64 0, .int .u64 0, .int .u64 0, .int .i64 0, .int .i64 0, .int .i64 0] : Array Value)))
      exact doJ_store (wanted_none rfl) rfl e7 e31 (hJ.there2 rfl) (by kernel_rfl) (pk_all ⟨0, 0, 0, 0, 0, 0, 0, 0, 0, 0⟩) ⟨rfl, hJ.put2 hfi rfl hne.1 (by omega), (touch_cellsW _ _ _).mono (by simp)⟩
    | 5, ho, hfi =>
      have ho' : some _ = some o := ho
      cases ho'
      clear ho
      refine DoesG.toJ ?_ (fun w' t' => hJ.keep t' (by omega) (by omega))
      have e32 := has_const (has_dep hd 2 (by kernel_rfl)) rfl rfl rfl (c := (.bool false))
      exact do_value (wanted_none rfl) (by rw [BigFrame.run_assign (.tmp 32) rfl, e32]) rfl
    | q + 6, ho, hfi => exact absurd ho (by simp)
  · intro x w9 f T9 hJ hf hkn
    simp only [putL, Act.put, List.setIfInBounds_toArray, List.set_cons_succ, List.set_cons_zero]
    have h1 := hJ.1
    have h2 := hJ.2
    rw [if_pos (hf 3 (by simp))] at h1
    rw [if_pos (hf 4 (by simp))] at h2
    have H1 := Lib.hid h1
    have H2 := Lib.hid h2
    clear h1 h2 hJ hf hkn
    have T9 := Lib.hid T9
    go_wp2_with fail
    exact bodyPost_ret (ret_box2 (t := 58) (t' := 66) Try.results35 rfl H1.out Try.underlying58 rfl (by kernel_rfl) rfl H2.out Try.underlying66 rfl (by kernel_rfl) (va := .bool false) rfl) rfl ⟨rfl, (T1.out.trans T6.out (fun b hb => by simp at hb; subst hb; exact .inr HLB.out.2.2.1)).trans T9.out (fun b hb => by have := HLB.out; simp at hb; right; omega)⟩
end
end Go.Proofs.Ytkbjkijcabmbpaa
