/-
  Ipv4Back: for every header, every payload and every pair of places the law on ipv4's Make and Parse returns true. No conditions.
-/
import Derived.Test.YtonchibngcoefaaIpv4Flip
import Derived.Test.YtonchibngcoefaaIpv4MakesLaw
namespace Go.Proofs.Ytonchibngcoefaa
open Go.ChangeShapes Go.WideShapes Go.ChangeAt Go.RowKit Go.Deep Go.Joins
set_option linter.unusedVariables false
set_option linter.unusedSimpArgs false

theorem shr_bit (r : Nat) (h : r < 8) (w : World) : (binOp .shr 5 (.int .u8 128) (.int .i64 (r : Int))).run Try.prog w = .ok (.int .u8 ((128 / 2 ^ r : Nat) : Int)) w := by
  rcases (show r = 0 ∨ r = 1 ∨ r = 2 ∨ r = 3 ∨ r = 4 ∨ r = 5 ∨ r = 6 ∨ r = 7 by omega) with rfl | rfl | rfl | rfl | rfl | rfl | rfl | rfl <;> simp [go_sem]
def fitOr (h : Hd) (l : List UInt8) : Prop := (decide (200 < (l.length : Int)) = true) ∨ (decide (200 < (l.length : Int)) = false ∧ ((h.sh : Int) != 0) = true) ∨ (decide (200 < (l.length : Int)) = false ∧ ((h.sh : Int) != 0) = false ∧ ((h.dh : Int) != 0) = true) ∨ (decide (200 < (l.length : Int)) = false ∧ ((h.sh : Int) != 0) = false ∧ ((h.dh : Int) != 0) = false ∧ decide (4294967295 < (h.sl : Int)) = true) ∨ (decide (200 < (l.length : Int)) = false ∧ ((h.sh : Int) != 0) = false ∧ ((h.dh : Int) != 0) = false ∧ decide (4294967295 < (h.sl : Int)) = false ∧ decide (4294967295 < (h.dl : Int)) = true) ∨ (decide (200 < (l.length : Int)) = false ∧ ((h.sh : Int) != 0) = false ∧ ((h.dh : Int) != 0) = false ∧ decide (4294967295 < (h.sl : Int)) = false ∧ decide (4294967295 < (h.dl : Int)) = false ∧ decide (h.proto < 0) = true) ∨ (decide (200 < (l.length : Int)) = false ∧ ((h.sh : Int) != 0) = false ∧ ((h.dh : Int) != 0) = false ∧ decide (4294967295 < (h.sl : Int)) = false ∧ decide (4294967295 < (h.dl : Int)) = false ∧ decide (h.proto < 0) = false ∧ decide (255 < h.proto) = true) ∨ (decide (200 < (l.length : Int)) = false ∧ ((h.sh : Int) != 0) = false ∧ ((h.dh : Int) != 0) = false ∧ decide (4294967295 < (h.sl : Int)) = false ∧ decide (4294967295 < (h.dl : Int)) = false ∧ decide (h.proto < 0) = false ∧ decide (255 < h.proto) = false ∧ decide (h.off < 0) = true) ∨ (decide (200 < (l.length : Int)) = false ∧ ((h.sh : Int) != 0) = false ∧ ((h.dh : Int) != 0) = false ∧ decide (4294967295 < (h.sl : Int)) = false ∧ decide (4294967295 < (h.dl : Int)) = false ∧ decide (h.proto < 0) = false ∧ decide (255 < h.proto) = false ∧ decide (h.off < 0) = false ∧ decide (8191 < h.off) = true) ∨ (decide (200 < (l.length : Int)) = false ∧ ((h.sh : Int) != 0) = false ∧ ((h.dh : Int) != 0) = false ∧ decide (4294967295 < (h.sl : Int)) = false ∧ decide (4294967295 < (h.dl : Int)) = false ∧ decide (h.proto < 0) = false ∧ decide (255 < h.proto) = false ∧ decide (h.off < 0) = false ∧ decide (8191 < h.off) = false ∧ h.Fit ∧ l.length ≤ 200)
theorem fit_or (h : Hd) (l : List UInt8) : fitOr h l := by
  unfold fitOr
  have y1 : 200 < l.length → decide (200 < (l.length : Int)) = true := fun h => decide_eq_true (by omega)
  have z1 : ¬ (200 < l.length) → decide (200 < (l.length : Int)) = false := fun h => decide_eq_false (by omega)
  have y2 : h.sh ≠ 0 → ((h.sh : Int) != 0) = true := fun h => by simpa using h
  have z2 : ¬ (h.sh ≠ 0) → ((h.sh : Int) != 0) = false := fun h => by simpa using h
  have y3 : h.dh ≠ 0 → ((h.dh : Int) != 0) = true := fun h => by simpa using h
  have z3 : ¬ (h.dh ≠ 0) → ((h.dh : Int) != 0) = false := fun h => by simpa using h
  have y4 : 4294967295 < h.sl → decide (4294967295 < (h.sl : Int)) = true := fun h => decide_eq_true (by omega)
  have z4 : ¬ (4294967295 < h.sl) → decide (4294967295 < (h.sl : Int)) = false := fun h => decide_eq_false (by omega)
  have y5 : 4294967295 < h.dl → decide (4294967295 < (h.dl : Int)) = true := fun h => decide_eq_true (by omega)
  have z5 : ¬ (4294967295 < h.dl) → decide (4294967295 < (h.dl : Int)) = false := fun h => decide_eq_false (by omega)
  have y6 : h.proto < 0 → decide (h.proto < 0) = true := fun h => decide_eq_true (by omega)
  have z6 : ¬ (h.proto < 0) → decide (h.proto < 0) = false := fun h => decide_eq_false (by omega)
  have y7 : 255 < h.proto → decide (255 < h.proto) = true := fun h => decide_eq_true (by omega)
  have z7 : ¬ (255 < h.proto) → decide (255 < h.proto) = false := fun h => decide_eq_false (by omega)
  have y8 : h.off < 0 → decide (h.off < 0) = true := fun h => decide_eq_true (by omega)
  have z8 : ¬ (h.off < 0) → decide (h.off < 0) = false := fun h => decide_eq_false (by omega)
  have y9 : 8191 < h.off → decide (8191 < h.off) = true := fun h => decide_eq_true (by omega)
  have z9 : ¬ (8191 < h.off) → decide (8191 < h.off) = false := fun h => decide_eq_false (by omega)
  by_cases n1 : 200 < l.length
  · exact Or.inl (y1 n1)
  by_cases n2 : h.sh ≠ 0
  · exact Or.inr (Or.inl ⟨z1 n1, y2 n2⟩)
  by_cases n3 : h.dh ≠ 0
  · exact Or.inr (Or.inr (Or.inl ⟨z1 n1, z2 n2, y3 n3⟩))
  by_cases n4 : 4294967295 < h.sl
  · exact Or.inr (Or.inr (Or.inr (Or.inl ⟨z1 n1, z2 n2, z3 n3, y4 n4⟩)))
  by_cases n5 : 4294967295 < h.dl
  · exact Or.inr (Or.inr (Or.inr (Or.inr (Or.inl ⟨z1 n1, z2 n2, z3 n3, z4 n4, y5 n5⟩))))
  by_cases n6 : h.proto < 0
  · exact Or.inr (Or.inr (Or.inr (Or.inr (Or.inr (Or.inl ⟨z1 n1, z2 n2, z3 n3, z4 n4, z5 n5, y6 n6⟩)))))
  by_cases n7 : 255 < h.proto
  · exact Or.inr (Or.inr (Or.inr (Or.inr (Or.inr (Or.inr (Or.inl ⟨z1 n1, z2 n2, z3 n3, z4 n4, z5 n5, z6 n6, y7 n7⟩))))))
  by_cases n8 : h.off < 0
  · exact Or.inr (Or.inr (Or.inr (Or.inr (Or.inr (Or.inr (Or.inr (Or.inl ⟨z1 n1, z2 n2, z3 n3, z4 n4, z5 n5, z6 n6, z7 n7, y8 n8⟩)))))))
  by_cases n9 : 8191 < h.off
  · exact Or.inr (Or.inr (Or.inr (Or.inr (Or.inr (Or.inr (Or.inr (Or.inr (Or.inl ⟨z1 n1, z2 n2, z3 n3, z4 n4, z5 n5, z6 n6, z7 n7, z8 n8, y9 n9⟩))))))))
  exact Or.inr (Or.inr (Or.inr (Or.inr (Or.inr (Or.inr (Or.inr (Or.inr (Or.inr (⟨z1 n1, z2 n2, z3 n3, z4 n4, z5 n5, z6 n6, z7 n7, z8 n8, z9 n9, ⟨by omega, by omega, by omega, by omega, by omega, by omega⟩, by omega⟩)))))))))

set_option maxHeartbeats 4000000 in
set_option maxRecDepth 100000 in
theorem ipv4Back_walk (h : Hd) (ok : h.Ok) (l : List UInt8) (hl : l.length ≤ 9223372036854775807) (a0 a1 : UInt8) (w : World) :
    Calls Try.prog 7 #[.agg h.cells, .string (S l), .agg #[.int .u8 (a0.toNat : Int), .int .u8 (a1.toNat : Int)]] w fun e w' => e = .returned (.bool true) ∧ Below w.heap.size w w' := by
  have LV := Lib.hid (fun w => ipv4Lives w)
  have hss : (S l).size = l.length := S_size l
  have T0 := Lib.hid (((Touch.refl [] w).alloc (.cells h.cells 51)).alloc (.cells #[.int .u8 (a0.toNat : Int), .int .u8 (a1.toNat : Int)] 62))
  have B0 : Hid (BoxV ((w.alloc (.cells h.cells 51)).alloc (.cells #[.int .u8 (a0.toNat : Int), .int .u8 (a1.toNat : Int)] 62)) w.heap.size 51 h.cells) := Lib.hid BoxV.of2
  have B1 : Hid (BoxV ((w.alloc (.cells h.cells 51)).alloc (.cells #[.int .u8 (a0.toNat : Int), .int .u8 (a1.toNat : Int)] 62)) (w.heap.size + 1) 62 #[.int .u8 (a0.toNat : Int), .int .u8 (a1.toNat : Int)]) := Lib.hid BoxV.at1
  have ways := fit_or h l
  unfold fitOr at ways
  rcases ways with d1 | ⟨d1, d2⟩ | ⟨d1, d2, d3⟩ | ⟨d1, d2, d3, d4⟩ | ⟨d1, d2, d3, d4, d5⟩ | ⟨d1, d2, d3, d4, d5, d6⟩ | ⟨d1, d2, d3, d4, d5, d6, d7⟩ | ⟨d1, d2, d3, d4, d5, d6, d7, d8⟩ | ⟨d1, d2, d3, d4, d5, d6, d7, d8, d9⟩ | ⟨d1, d2, d3, d4, d5, d6, d7, d8, d9, ft, hl2⟩
  iterate 9
    · unfold Hd.cells at *
      clear B0 B1 ok
      go_enter Try.func7, Try.ntmps7
      go_wp2_with fail
      refine (LV.out _).mono ?_
      rintro e w1 ⟨rfl, t1⟩
      have T1 := Lib.hid (T0.out.trans t1 (by simp))
      clear t1
      go_wp2_with fail
      go_ret
      exact ⟨rfl, T1.out.below (by simp) (Nat.le_refl _)⟩
  obtain ⟨X, hX⟩ : ∃ X, packA h l = X := ⟨_, rfl⟩
  have M := Lib.hid (fun w => make11 h ok l (by omega) w)
  have PB := pack_back h ft l hl2
  have PL := pack_less h ft l hl2
  have PF := (pack_facts h ft l hl2).1
  have PN := pack_length h l hl2
  rw [hX] at M PB PL PF PN
  have P1 := fun w => parse11 X (by omega) w
  rw [PB.1, PB.2] at P1
  simp only [Int.natCast_add] at P1
  rw [show ((20 : Nat) : Int) = 20 from rfl] at P1
  have P1 := Lib.hid P1
  have P2 := Lib.hid (fun w => parse11 (X.take (19 + l.length)) (by rw [List.length_take]; omega) w)
  unfold Hd.cells at *
  generalize hdP (X.take (19 + l.length)) = D2 at *
  have HPB := Lib.hid PB.1
  clear PB hX
  generalize errP (X.take (19 + l.length)) = E2 at *
  go_enter Try.func7, Try.ntmps7
  go_wp2_with fail
  refine (M.out _).mono ?_
  rintro e w1 ⟨rfl, t1⟩
  have T1 := Lib.hid (T0.out.trans t1 (by simp))
  have B01 := Lib.hid (B0.out.carry t1 (by simp))
  have B11 := Lib.hid (B1.out.carry t1 (by simp))
  clear t1 T0 B0 B1
  go_wp2_with fail
  refine (P1.out _).mono ?_
  rintro e w2 ⟨rfl, t2⟩
  have hsX : (S X).size = 20 + l.length := by rw [S_size]; exact PN
  have C2 := BoxV.new w2 51 #[.int .u64 (h.sh : Int), .int .u64 (h.sl : Int), .int .u64 (h.dh : Int), .int .u64 (h.dl : Int), .int .i64 h.proto, .int .i64 20, .int .i64 (20 + (l.length : Int)), .int .i64 h.off, .bool h.more]
  have TA := (Touch.refl [] w2).alloc (.cells #[.int .u64 (h.sh : Int), .int .u64 (h.sl : Int), .int .u64 (h.dh : Int), .int .u64 (h.dl : Int), .int .i64 h.proto, .int .i64 20, .int .i64 (20 + (l.length : Int)), .int .i64 h.off, .bool h.more] 51)
  have B02 := (B01.out.carry t2 (by simp)).carry TA (by simp)
  have B12 := (B11.out.carry t2 (by simp)).carry TA (by simp)
  have T2 := (T1.out.trans t2 (by simp)).trans TA (by simp)
  have lw := B01.out.lt
  have lw2 := t2.size
  have v5 := B02.cell 5
  have f0 := B02.fr
  have l0 := B02.lt
  have HB2 := Lib.hid B02
  have HC2 := Lib.hid C2
  have HB12 := Lib.hid B12
  have HT2 := Lib.hid T2
  clear TA T2 B02 B12 C2 t2 B01 B11 T1
  go_upto_region 6 with fail
  have TB : Touch [w.heap.size] (w2.alloc (.cells #[.int .u64 (h.sh : Int), .int .u64 (h.sl : Int), .int .u64 (h.dh : Int), .int .u64 (h.dl : Int), .int .i64 h.proto, .int .i64 20, .int .i64 (20 + (l.length : Int)), .int .i64 h.off, .bool h.more] 51)) _ := (Touch.refl [w.heap.size] (w2.alloc (.cells #[.int .u64 (h.sh : Int), .int .u64 (h.sl : Int), .int .u64 (h.dh : Int), .int .u64 (h.dl : Int), .int .i64 h.proto, .int .i64 20, .int .i64 (20 + (l.length : Int)), .int .i64 h.off, .bool h.more] 51))).setCell (a := ⟨w.heap.size, 5, none⟩) (by simp) (.int .i64 20)
  have B3 : BoxV _ _ _ #[.int .u64 (h.sh : Int), .int .u64 (h.sl : Int), .int .u64 (h.dh : Int), .int .u64 (h.dl : Int), .int .i64 h.proto, .int .i64 20, .int .i64 h.size, .int .i64 h.off, .bool h.more] := HB2.out.set 5 (.int .i64 20)
  have C3 := Lib.hid (HC2.out.carry TB (by simp; omega))
  have B13 := Lib.hid (HB12.out.carry TB (by simp))
  have T3 := Lib.hid (HT2.out.trans TB (by simp))
  clear v5 f0 l0 HB2 HC2 HB12 HT2 TB
  generalize (w2.alloc (.cells #[.int .u64 (h.sh : Int), .int .u64 (h.sl : Int), .int .u64 (h.dh : Int), .int .u64 (h.dl : Int), .int .i64 h.proto, .int .i64 20, .int .i64 (20 + (l.length : Int)), .int .i64 h.off, .bool h.more] 51)).setCell ⟨w.heap.size, 5, none⟩ (.int .i64 20) = w3 at *
  have v6 := B3.cell 6
  have f0 := B3.fr
  have l0 := B3.lt
  have HB3 := Lib.hid B3
  clear B3
  go_upto_region 7 with fail
  have TB : Touch [w.heap.size] w3 _ := (Touch.refl [w.heap.size] w3).setCell (a := ⟨w.heap.size, 6, none⟩) (by simp) (.int .i64 (20 + (l.length : Int)))
  have B4 : BoxV _ _ _ #[.int .u64 (h.sh : Int), .int .u64 (h.sl : Int), .int .u64 (h.dh : Int), .int .u64 (h.dl : Int), .int .i64 h.proto, .int .i64 20, .int .i64 (20 + (l.length : Int)), .int .i64 h.off, .bool h.more] := HB3.out.set 6 (.int .i64 (20 + (l.length : Int)))
  have C4 := C3.out.carry TB (by simp; omega)
  have B14 := Lib.hid (B13.out.carry TB (by simp))
  have T4 := Lib.hid (T3.out.trans TB (by simp))
  clear v6 f0 l0 HB3 C3 B13 T3 TB
  generalize w3.setCell ⟨w.heap.size, 6, none⟩ (.int .i64 (20 + (l.length : Int))) = w4 at *
  have b0 := B4.cell 0
  have b1 := B4.cell 1
  have b2 := B4.cell 2
  have b3 := B4.cell 3
  have b4 := B4.cell 4
  have b5 := B4.cell 5
  have b6 := B4.cell 6
  have b7 := B4.cell 7
  have b8 := B4.cell 8
  have c0 := C4.cell 0
  have c1 := C4.cell 1
  have c2 := C4.cell 2
  have c3 := C4.cell 3
  have c4 := C4.cell 4
  have c5 := C4.cell 5
  have c6 := C4.cell 6
  have c7 := C4.cell 7
  have c8 := C4.cell 8
  clear B4 C4
  have hx : (S X).extract 0 (19 + l.length) = S (X.take (19 + l.length)) := S_take X _
  go_wp2_with fail
  refine (P2.out _).mono ?_
  rintro e w5 ⟨rfl, t5⟩
  clear b0 b1 b2 b3 b4 b5 b6 b7 b8 c0 c1 c2 c3 c4 c5 c6 c7 c8
  have TA := t5.alloc (.cells #[.int .u64 (D2.sh : Int), .int .u64 (D2.sl : Int), .int .u64 (D2.dh : Int), .int .u64 (D2.dl : Int), .int .i64 D2.proto, .int .i64 D2.start, .int .i64 D2.size, .int .i64 D2.off, .bool D2.more] 51)
  have B5 := Lib.hid (B14.out.carry TA (by simp))
  have T5 := Lib.hid (T4.out.trans TA (by simp))
  have dE : (E2 == 0) = false := by simpa using PL
  clear TA t5 B14 T4 d1 d2 d3 d4 d5 d6 d7 d8 d9
  go_upto_region 12 with fail
  generalize w5.alloc (.cells #[.int .u64 (D2.sh : Int), .int .u64 (D2.sl : Int), .int .u64 (D2.dh : Int), .int .u64 (D2.dl : Int), .int .i64 D2.proto, .int .i64 D2.start, .int .i64 D2.size, .int .i64 D2.off, .bool D2.more] 51) = w6 at *
  obtain ⟨c, cc1, cc2, cv, RF, TC⟩ := conv_bytes X (by omega) w6
  have B7 := B5.out.carry TC (by simp)
  have T7 := Lib.hid (T5.out.trans TC (by simp))
  have B6lt := B5.out.lt
  clear B5 T5 TC
  generalize Lib.bytesWorld w6 5 (S X) = w7 at *
  have x0 := B7.cell 0
  have x1 := B7.cell 1
  have HB7 := Lib.hid B7
  have HRF := Lib.hid RF
  clear B7
  obtain ⟨f, hf⟩ : ∃ f : Nat, f = 8 + a0.toNat % 152 := ⟨_, rfl⟩
  obtain ⟨s, hs⟩ : ∃ s : Nat, s = f + 1 + a1.toNat % 15 := ⟨_, rfl⟩
  have hf' : 8 + ((a0.toNat : Nat) : Int) % 152 = (f : Int) := by omega
  have hs' : (f : Int) + 1 + ((a1.toNat : Nat) : Int) % 15 = (s : Int) := by omega
  have ha0 := a0.toNat_lt
  have ha1 := a1.toNat_lt
  have f1 : 8 ≤ f := by omega
  have f2 : f < 160 := by omega
  have s1 : f < s := by omega
  have s2 : s ≤ f + 15 := by omega
  clear hf hs
  go_upto_region 15 with fail
  obtain ⟨q, hq⟩ : ∃ q : Nat, f / 8 = q := ⟨_, rfl⟩
  obtain ⟨r, hr⟩ : ∃ r : Nat, f % 8 = r := ⟨_, rfl⟩
  have hq' : (f : Int) / 8 = (q : Int) := by omega
  have hr' : (f : Int) % 8 = (r : Int) := by omega
  have q1 : q < 20 + l.length := by omega
  have r1 : r < 8 := by omega
  obtain ⟨y, hy⟩ : ∃ y, X[q]?.getD 0 = y := ⟨_, rfl⟩
  have hyX : X[q]'(by omega) = y := by rw [← hy, List.getElem?_eq_getElem (by omega)]; rfl
  have k0 : ∀ x : Cls w7, x.val.cell? ⟨w6.heap.size, q, none⟩ = some (.int .u8 (y.toNat : Int)) := fun x => by
    have := (HRF.out.carry x.property (by simp)).cell (i := q) (by omega)
    rwa [hyX] at this
  have hlt : ∀ x : Cls w7, w6.heap.size < x.val.heap.size := fun x => (HRF.out.carry x.property (by simp)).lt
  have hyl := y.toNat_lt
  have hxo := xor_bit y r r1
  have hsh := shr_bit r r1
  rw [show ((128 / 2 ^ r : Nat) : Int) = 128 / 2 ^ r by simp] at hxo
  have HQ := Lib.hid hq
  have HR := Lib.hid hr
  have HY := Lib.hid hy
  clear hq hr hy hyX
  refine wp_region_tail (wd := w7) 9 (by kernel_rfl) (by kernel_rfl) ((Touch.refl _ _).drew) ?_
  simp only [List.take_succ_cons, List.take_zero, List.drop_succ_cons, List.drop_zero]
  repeat (first | go_big_quiet_step (fail) | quiet_step (fail))
  refine wpQuiet_nil ?_
  intro z
  have RZ := HRF.out.carry z.property (by simp)
  have c0 := RZ.cell (i := q) (by omega)
  have fz := RZ.fr q (by omega)
  have lz := RZ.lt
  have hFL : X.set q (flipB y r) = flipL X f := by unfold flipL; rw [HQ.out, HR.out, HY.out]
  have R8 := RZ.set q (flipB y r) ((flipB y r).toNat : Int) rfl
  rw [hFL] at R8
  have T8 : Touch [] w _ := ((T7.out.trans z.property (by simp)).trans ((Touch.refl [w6.heap.size] z.val).setCell (a := ⟨w6.heap.size, q, none⟩) (by simp) (.int .u8 ((flipB y r).toNat : Int))) (by simp; omega))
  have HR8 := Lib.hid R8
  have HT8 := Lib.hid T8
  clear k0 hlt R8 T8 RZ HRF T7 HQ HR HY hFL
  go_upto_region 16 with fail
  generalize z.val.setCell ⟨w6.heap.size, q, none⟩ (.int .u8 ((flipB y r).toNat : Int)) = w8 at *
  have ln8 := flipL_length X f
  have e1 := flip_one X f PF HPB.out f1 f2
  have e2 := fun h => flip_two X f s PF HPB.out f1 s1 s2 h
  clear HPB hq' hr' q1 r1 hyl hxo hsh c0 fz lz
  generalize flipL X f = X8 at *
  by_cases h160 : s < 160
  · have d160 : decide ((s : Int) < 160) = true := decide_eq_true (by omega)
    go_upto_region 17 with fail
    obtain ⟨q, hq⟩ : ∃ q : Nat, s / 8 = q := ⟨_, rfl⟩
    obtain ⟨r, hr⟩ : ∃ r : Nat, s % 8 = r := ⟨_, rfl⟩
    have hq' : (s : Int) / 8 = (q : Int) := by omega
    have hr' : (s : Int) % 8 = (r : Int) := by omega
    have q1 : q < 20 + l.length := by omega
    have r1 : r < 8 := by omega
    obtain ⟨y, hy⟩ : ∃ y, X8[q]?.getD 0 = y := ⟨_, rfl⟩
    have hyX : X8[q]'(by omega) = y := by rw [← hy, List.getElem?_eq_getElem (by omega)]; rfl
    have k0 : ∀ x : Cls w8, x.val.cell? ⟨w6.heap.size, q, none⟩ = some (.int .u8 (y.toNat : Int)) := fun x => by
      have := (HR8.out.carry x.property (by simp)).cell (i := q) (by omega)
      rwa [hyX] at this
    have hlt : ∀ x : Cls w8, w6.heap.size < x.val.heap.size := fun x => (HR8.out.carry x.property (by simp)).lt
    have hyl := y.toNat_lt
    have hxo := xor_bit y r r1
    have hsh := shr_bit r r1
    rw [show ((128 / 2 ^ r : Nat) : Int) = 128 / 2 ^ r by simp] at hxo
    have hFL : X8.set q (flipB y r) = flipL X8 s := by unfold flipL; rw [hq, hr, hy]
    have HFL := Lib.hid hFL
    clear hq hr hy hyX hFL
    refine wp_region_tail (wd := w8) 9 (by kernel_rfl) (by kernel_rfl) ((Touch.refl _ _).drew) ?_
    simp only [List.take_succ_cons, List.take_zero, List.drop_succ_cons, List.drop_zero]
    repeat (first | go_big_quiet_step (fail) | quiet_step (fail))
    refine wpQuiet_nil ?_
    intro z'
    have RZ := HR8.out.carry z'.property (by simp)
    have c0 := RZ.cell (i := q) (by omega)
    have fz := RZ.fr q (by omega)
    have lz := RZ.lt
    have R9 := RZ.set q (flipB y r) ((flipB y r).toNat : Int) rfl
    rw [HFL.out] at R9
    have T9 : Touch [] w _ := ((HT8.out.trans z'.property (by simp)).trans ((Touch.refl [w6.heap.size] z'.val).setCell (a := ⟨w6.heap.size, q, none⟩) (by simp) (.int .u8 ((flipB y r).toNat : Int))) (by simp; omega))
    have HR9 := Lib.hid R9
    have HT9 := Lib.hid T9
    clear k0 hlt R9 T9 RZ HR8 HT8 HFL
    go_upto_region 18 with fail
    generalize z'.val.setCell ⟨w6.heap.size, q, none⟩ (.int .u8 ((flipB y r).toNat : Int)) = w9 at *
    have ln9 : (flipL X8 s).length = 20 + l.length := by rw [flipL_length]; omega
    have e9 := e2 h160
    have P3 := fun w => parse11 (flipL X8 s) (by omega) w
    have hst := str_of (HR9.out.bts c (by omega) cc2)
    rw [ln9] at hst
    generalize hdP (flipL X8 s) = D3 at *
    generalize errP (flipL X8 s) = E3 at *
    generalize flipL X8 s = X9 at *
    have dE3 : (E3 != 0) = true := by simpa using e9
    unfold Hd.cells at P3
    have P3 := Lib.hid P3
    clear hq' hr' q1 r1 hyl hxo hsh c0 fz lz HR9 e1 e2 e9
    go_wp2_with fail
    refine (P3.out _).mono ?_
    rintro e w10 ⟨rfl, t10⟩
    have T10 := Lib.hid ((HT9.out.trans t10 (by simp)).alloc (.cells #[.int .u64 (D3.sh : Int), .int .u64 (D3.sl : Int), .int .u64 (D3.dh : Int), .int .u64 (D3.dl : Int), .int .i64 D3.proto, .int .i64 D3.start, .int .i64 D3.size, .int .i64 D3.off, .bool D3.more] 51))
    clear t10 HT9
    go_wp2_with fail
    refine (LV.out _).mono ?_
    rintro e w11 ⟨rfl, t11⟩
    have T11 := Lib.hid (T10.out.trans t11 (by simp))
    clear t11
    go_wp2_with fail
    go_ret
    exact ⟨rfl, T11.out.below (by simp) (Nat.le_refl _)⟩
  · have d160 : decide ((s : Int) < 160) = false := decide_eq_false (by omega)
    go_upto_region 18 with fail
    have P3 := fun w => parse11 X8 (by omega) w
    have hst := str_of (HR8.out.bts c (by omega) cc2)
    rw [show X8.length = 20 + l.length by omega] at hst
    generalize hdP X8 = D3 at *
    generalize errP X8 = E3 at *
    have dE3 : (E3 != 0) = true := by simpa using e1
    unfold Hd.cells at P3
    have P3 := Lib.hid P3
    clear e1 e2 HR8
    go_wp2_with fail
    refine (P3.out _).mono ?_
    rintro e w10 ⟨rfl, t10⟩
    have T10 := Lib.hid ((HT8.out.trans t10 (by simp)).alloc (.cells #[.int .u64 (D3.sh : Int), .int .u64 (D3.sl : Int), .int .u64 (D3.dh : Int), .int .u64 (D3.dl : Int), .int .i64 D3.proto, .int .i64 D3.start, .int .i64 D3.size, .int .i64 D3.off, .bool D3.more] 51))
    clear t10 HT8
    go_wp2_with fail
    refine (LV.out _).mono ?_
    rintro e w11 ⟨rfl, t11⟩
    have T11 := Lib.hid (T10.out.trans t11 (by simp))
    clear t11
    go_wp2_with fail
    go_ret
    exact ⟨rfl, T11.out.below (by simp) (Nat.le_refl _)⟩

section
variable {P : Program} {H : Type} {enc : TypeId × Value → H} {w : World} {base : Nat} {sp : Nat → Bool}
theorem open_bytes_array {t e : TypeId} {n : Nat} {v : Value} {d : DataW H} {p : List MemPlace} {r : Reach} {b0 : Nat} (ht : P.underlying t = some (.array n e)) (he : P.underlying e = some (.int .u8)) (hC : P.cellsOf e = 1)
    (hv : Value.okWide P w r b0 t v) (h : DataW.Trod enc P w base sp true t v d p) : ∃ cs : Array Value, v = .agg cs ∧ cs.size = P.cellsOf t ∧ ∀ i, i < n → ∃ x : UInt8, cs[i]? = some (.int .u8 (x.toNat : Int)) := by
  obtain ⟨cs, rfl, hsz⟩ := okWide_array ht hv
  obtain ⟨fuel, hf⟩ := h
  obtain ⟨xs, m, _, _, hlen, hn, hi⟩ := DataW.trod_array ht hf
  refine ⟨cs, rfl, hsz, fun i hlt => ?_⟩
  have g := hi i hlt
  rw [List.getElem?_eq_getElem (by omega), hC, Nat.mul_one] at g
  have hcs : (Value.agg cs).cells.toList = cs.toList := rfl
  rw [hcs] at g
  cases hd : cs.toList.drop i with
  | nil =>
    rw [hd] at g
    simp at g
    obtain ⟨k, hk, _, _⟩ := DataW.trod_int he g
    cases hk
  | cons u us =>
    rw [hd] at g
    simp at g
    obtain ⟨k, rfl, hw⟩ := cell_int he g
    have hb := u8_in hw
    refine ⟨UInt8.ofNat k.toNat, ?_⟩
    have : cs.toList[i]? = some (Value.int .u8 k) := by
      rw [← List.head?_drop, hd]
      rfl
    rw [← Array.getElem?_toList, this]
    have e : (UInt8.ofNat k.toNat).toNat = k.toNat := by simp; omega
    rw [e, show ((k.toNat : Nat) : Int) = k by omega]
end

set_option maxRecDepth 100000 in
theorem ipv4Back_calls : LawCalls Try.prog 7 Try.f7 := by
  intro H enc W base args ds p hval hA hlt
  rw [Try.params7] at hA hval
  obtain ⟨v0, vs0, d0, ds0, p0, q0, hargs, rfl, rfl, h0, r0⟩ := trodAll_cons hA
  obtain ⟨v1, vs1, d1, ds1, p1, q1, rfl, rfl, rfl, h1, r1⟩ := trodAll_cons r0
  obtain ⟨v2, vs2, d2, ds2, p2, q2, rfl, rfl, rfl, h2, r2⟩ := trodAll_cons r1
  obtain ⟨rfl, rfl, rfl⟩ := trodAll_nil r2
  obtain rfl : args = #[v0, v1, v2] := by cases args; simp_all
  obtain ⟨q, rfl, hq⟩ := open_header (hval 0 51 v0 rfl rfl) h0
  obtain ⟨s, rfl, rfl, rfl, hs⟩ := Go.ChangeMaps.open_string Try.underlying9 (hval 1 9 v1 rfl rfl) h1
  obtain ⟨cs, rfl, hsz, hcs⟩ := open_bytes_array Try.underlying62 Try.underlying5 (by kernel_rfl) (hval 2 62 v2 rfl rfl) h2
  obtain ⟨x0, e0⟩ := hcs 0 (by omega)
  obtain ⟨x1, e1⟩ := hcs 1 (by omega)
  obtain rfl : cs = #[.int .u8 (x0.toNat : Int), .int .u8 (x1.toNat : Int)] := by
    have hz : cs.size = 2 := hsz.trans (by kernel_rfl)
    obtain ⟨L⟩ := cs
    match L, hz with
    | [a, b], _ => simp at e0 e1; rw [e0, e1]
  have es : s = S s.data.toList := by unfold S; simp
  have hz : s.data.toList.length = s.size := by simp
  rw [es]
  exact ipv4Back_walk q hq s.data.toList (by unfold maxLen at hs; omega) x0 x1 W

set_option maxRecDepth 100000 in
theorem ipv4Back_lifted (os : Os) (started : os.Started) (H : Type) (enc : TypeId × Value → H) :
    ReturnsInHanded {} Try.checked os 7 .any (Rows.ipv4BackSpec.pre6 enc Try.prog Try.f7 Rows.ipv4BackRow.domain false) (Rows.ipv4BackSpec.post enc Try.prog Try.f7 false true false false) := by
  refine returnsInHanded_of_change (C := Try.checked) own started (by kernel_rfl) Try.func7
    (ChangeSpec.witness6 (enc := enc) (C := Try.checked) false ⟨#[], #[.agg #[.int .u64 0, .int .u64 0, .int .u64 0, .int .u64 0, .int .i64 0, .int .i64 0, .int .i64 0, .int .i64 0, .bool false], .string ⟨#[]⟩, .agg #[.int .u8 0, .int .u8 0]], []⟩ 8 (by kernel_rfl) (by kernel_rfl) (by kernel_rfl) (by kernel_rfl)) ?_
  intro W base args ds gs before hval hW _ _
  exact law_contract laidOut (by kernel_rfl) rfl rfl boolType (fun ds h => by match ds, h with | [_, _, _], _ => rfl) ipv4Back_calls W base args ds gs before hval hW

theorem ipv4Back_holds : Rows.Ipv4BackSaid :=
  OpenClaim.holds_of_wide 7 Try.f7 rfl rfl rfl rfl rfl rfl rfl ⟨rfl, rfl, rfl, rfl, rfl⟩ rfl rfl rfl rfl rfl (by kernel_rfl) Try.func7 (by kernel_rfl)
    (of_decide_eq_true (by kernel_rfl)) (by unfold Func.isWrapper; first | (rw [if_pos (by decide +kernel)]; kernel_rfl) | (rw [if_neg (by decide +kernel)]; exact ⟨rfl, rfl⟩))
    (fun os started H enc _ => ipv4Back_lifted os started H enc)
#print axioms ipv4Back_holds
end Go.Proofs.Ytonchibngcoefaa
