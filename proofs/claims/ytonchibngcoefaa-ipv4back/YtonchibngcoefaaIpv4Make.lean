/-
  Layer 11 (ipv4): place, header, Make.
-/
import Derived.Test.YtonchibngcoefaaIpv4Ref
import Derived.Deep.RegionLaw
namespace Go.Proofs.Ytonchibngcoefaa
open Go.ChangeShapes Go.WideShapes Go.ChangeAt Go.RowKit Go.Deep
set_option linter.unusedVariables false
set_option linter.unusedSimpArgs false

/-- A header by its fields. -/
structure Hd where
  sh : Nat
  sl : Nat
  dh : Nat
  dl : Nat
  proto : Int
  start : Int
  size : Int
  off : Int
  more : Bool
def Hd.cells (h : Hd) : Array Value := #[.int .u64 (h.sh : Int), .int .u64 (h.sl : Int), .int .u64 (h.dh : Int), .int .u64 (h.dl : Int), .int .i64 h.proto, .int .i64 h.start, .int .i64 h.size, .int .i64 h.off, .bool h.more]
structure Hd.Ok (h : Hd) : Prop where
  sl : h.sl < 18446744073709551616
  dl : h.dl < 18446744073709551616
  proto : -9223372036854775808 ≤ h.proto ∧ h.proto ≤ 9223372036854775807
  off : -9223372036854775808 ≤ h.off ∧ h.off ≤ 9223372036854775807
def flagsA (h : Hd) : Nat := u64n h.off % 8192 + (if h.more then 8192 else 0)
theorem and13 (n : Int) : bits .and .i64 n 8191 = ((u64n n % 8192 : Nat) : Int) := by
  have e1 : (BitVec.ofInt 64 n).toNat = u64n n := by rw [BitVec.toNat_ofInt]; unfold u64n; rfl
  have e2 : (BitVec.ofInt 64 (8191 : Int)).toNat = 8191 := rfl
  show IntKind.i64.wrap ((BitVec.ofInt 64 n &&& BitVec.ofInt 64 (8191 : Int)).toNat : Int) = _
  rw [BitVec.toNat_and, e1, e2, show u64n n &&& 8191 = u64n n % 8192 from Nat.and_two_pow_sub_one_eq_mod _ 13, IntKind.wrap_i64]
  omega
theorem or13 (x : Nat) (h : x < 8192) : bits .or .i64 (x : Int) 8192 = ((x + 8192 : Nat) : Int) := by
  have e1 : (BitVec.ofInt 64 (x : Int)).toNat = x := by rw [BitVec.ofInt_natCast, BitVec.toNat_ofNat]; exact Nat.mod_eq_of_lt (by omega)
  have e2 : (BitVec.ofInt 64 (8192 : Int)).toNat = 8192 := rfl
  show IntKind.i64.wrap ((BitVec.ofInt 64 (x : Int) ||| BitVec.ofInt 64 (8192 : Int)).toNat : Int) = _
  have h3 := Nat.two_pow_add_eq_or_of_lt (i := 13) h 1
  rw [BitVec.toNat_or, e1, e2, Nat.or_comm, show (8192 : Nat) ||| x = 8192 + x from by simpa using h3.symm, IntKind.wrap_i64]
  omega
theorem place11 (h : Hd) (w : World) : Calls Try.prog 73 #[.agg h.cells] w fun e w' => e = .returned (.int .i64 (flagsA h : Nat)) ∧ Touch [] w w' := by
  have a := and13 h.off
  have ef : flagsA h = u64n h.off % 8192 + (if h.more then 8192 else 0) := rfl
  have hx : u64n h.off % 8192 < 8192 := by omega
  have o := or13 _ hx
  rw [ef]
  generalize u64n h.off % 8192 = x at *
  unfold Hd.cells
  cases h.more
  · clear ef o
    go_enter Try.func73, Try.ntmps73
    go_wp2_with fail
    go_ret
    exact ⟨ret_int (by simp), (Touch.refl _ _).alloc _⟩
  · clear ef
    go_enter Try.func73, Try.ntmps73
    go_wp2_with fail
    go_ret
    exact ⟨ret_int (by simp), (Touch.refl _ _).alloc _⟩

theorem u64n_nat (n : Nat) (h : n < 18446744073709551616) : u64n (n : Int) = n := by unfold u64n; omega
theorem tot_app (x y : List UInt8) (hx : x.length % 2 = 0) : ∀ k, tot (x ++ y) (x.length + k) = tot x x.length + tot y k
  | 0 => by
    have : ∀ j, j ≤ x.length → tot (x ++ y) j = tot x j := by
      intro j
      induction j with
      | zero => intro _; rfl
      | succ j ih =>
        intro hj
        simp only [tot]
        rw [ih (by omega)]
        have : byteAt (x ++ y) j = byteAt x j := by unfold byteAt; rw [List.getElem?_append_left (by omega)]
        rw [this]
    simpa [tot] using this x.length (Nat.le_refl _)
  | k + 1 => by
    have e : byteAt (x ++ y) (x.length + k) = byteAt y k := by unfold byteAt; rw [List.getElem?_append_right (by omega), Nat.add_sub_cancel_left]
    rw [← Nat.add_assoc]
    simp only [tot]
    rw [tot_app x y hx k, e, show (x.length + k) % 2 = k % 2 by omega]
    omega
theorem tot_zeros (x y : List UInt8) (hx : x.length % 2 = 0) : sumA (x ++ [0, 0] ++ y) = sumA (x ++ y) := by
  unfold sumA
  have e1 := tot_app (x ++ [0, 0]) y (by simp; omega) y.length
  have e2 := tot_app x y hx y.length
  have e3 := tot_app x [0, 0] hx 2
  have e4 : tot [0, 0] 2 = 0 := by simp [tot, byteAt]
  have q1 : (x ++ [0, 0] ++ y).length = (x ++ [0, 0]).length + y.length := List.length_append
  have q2 : (x ++ y).length = x.length + y.length := List.length_append
  have q3 : (x ++ [(0 : UInt8), 0]).length = x.length + 2 := by simp
  rw [q1, q2, e1, e2, q3, e3, e4]
  rfl
theorem splice_length (L m : List UInt8) (off : Nat) (h : off + m.length ≤ L.length) : (splice L off m).length = L.length := by
  unfold splice
  simp
  omega
def aA (h : Hd) (size : Int) : List UInt8 := [69, 0] ++ be (u64n size) 2 ++ [0, 0] ++ be (flagsA h) 2 ++ [0] ++ be (u64n h.proto) 1
def bA (h : Hd) : List UInt8 := be h.sl 4 ++ be h.dl 4
def headA (h : Hd) (size : Int) : List UInt8 := aA h size ++ be (u64n (sumA (aA h size ++ bA h))) 2 ++ bA h
theorem headA_length (h : Hd) (size : Int) : (headA h size).length = 20 := by simp [headA, aA, bA, be_length]

set_option maxHeartbeats 4000000 in
set_option maxRecDepth 100000 in
theorem header11 (h : Hd) (ok : h.Ok) (size : Int) (w : World) : Calls Try.prog 59 #[.agg h.cells, .int .i64 size] w fun e w' => e = .returned (.string (S (headA h size))) ∧ Touch [] w w' := by
  have hmk := fun w => make8 20 20 rfl (by omega) w
  have P1 := Lib.hid (fun w => put2 size w)
  have hfl : flagsA h < 18446744073709551616 := by unfold flagsA; split <;> omega
  have P2 := Lib.hid (fun w => put2 (flagsA h : Nat) w)
  rw [u64n_nat _ hfl] at P2
  have PL := Lib.hid (fun w => place11 h w)
  have LO1 := Lib.hid (fun w => low4 h.sh h.sl ok.sl w)
  have LO2 := Lib.hid (fun w => low4 h.dh h.dl ok.dl w)
  obtain ⟨L2, hL2⟩ : ∃ L2, splice (69 :: List.replicate 19 (0 : UInt8)) 2 ((be (u64n size) 2).take 18) = L2 := ⟨_, rfl⟩
  obtain ⟨L3, hL3⟩ : ∃ L3, splice L2 6 ((be (flagsA h) 2).take 14) = L3 := ⟨_, rfl⟩
  obtain ⟨L4, hL4⟩ : ∃ L4, L3.set 9 (UInt8.ofNat (u64n h.proto)) = L4 := ⟨_, rfl⟩
  obtain ⟨L5, hL5⟩ : ∃ L5, splice L4 12 (be h.sl 4) = L5 := ⟨_, rfl⟩
  obtain ⟨R6, hR6⟩ : ∃ R6, splice L5 16 (be h.dl 4) = R6 := ⟨_, rfl⟩
  have n2 : L2.length = 20 := by rw [← hL2, splice_length _ _ _ (by simp [be_length])]; simp
  have n3 : L3.length = 20 := by rw [← hL3, splice_length _ _ _ (by simp [be_length, n2]), n2]
  have n4 : L4.length = 20 := by rw [← hL4, List.length_set, n3]
  have n5 : L5.length = 20 := by rw [← hL5, splice_length _ _ _ (by simp [be_length, n4]), n4]
  have e6 : R6 = aA h size ++ [0, 0] ++ bA h := by
    rw [← hR6, ← hL5, ← hL4, ← hL3, ← hL2]
    unfold aA bA
    simp only [be, Nat.pow_zero, Nat.div_one]
    rfl
  have hl6 : R6.length = 20 := by rw [e6]; simp [aA, bA, be_length]
  have SU := Lib.hid (fun w => sum11 R6 (by omega) w)
  have hs6 : sumA R6 = sumA (aA h size ++ bA h) := by rw [e6]; exact tot_zeros _ _ (by simp [aA, be_length])
  have P3 := Lib.hid (fun w => put2 (sumA R6) w)
  have e7 : splice R6 10 ((be (u64n (sumA R6)) 2).take 10) = headA h size := by
    rw [hs6, e6]
    unfold headA
    generalize u64n (sumA (aA h size ++ bA h)) = q
    unfold aA bA
    simp only [be, Nat.pow_zero, Nat.div_one]
    rfl
  have h20 := headA_length h size
  have hpb : (h.proto % 256 : Int) = ((UInt8.ofNat (u64n h.proto)).toNat : Int) := by
    unfold u64n
    simp
    omega
  have HR6 := Lib.hid hR6
  have HL2 := Lib.hid hL2
  have HL3 := Lib.hid hL3
  have HL4 := Lib.hid hL4
  have HL5 := Lib.hid hL5
  have N2 := Lib.hid n2
  have N3 := Lib.hid n3
  have N4 := Lib.hid n4
  have N5 := Lib.hid n5
  have NZ3 := Lib.hid (be_length h.sl 4)
  have NZ4 := Lib.hid (be_length h.dl 4)
  have NZ5 := Lib.hid (be_length (u64n (sumA R6)) 2)
  have HE7 := Lib.hid e7
  have H20 := Lib.hid h20
  have HL6 := Lib.hid hl6
  have HPB := Lib.hid hpb
  generalize headA h size = HA at *
  generalize sumA R6 = sm at *
  generalize be (u64n size) 2 = Z1 at *
  generalize be (flagsA h) 2 = Z2 at *
  generalize be h.sl 4 = Z3 at *
  generalize be h.dl 4 = Z4 at *
  generalize be (u64n sm) 2 = Z5 at *
  generalize UInt8.ofNat (u64n h.proto) = pb at *
  have pw : IntKind.u8.wrap h.proto = h.proto % 256 := by rw [IntKind.wrap_u8]
  clear hR6 e7 h20 hl6 hpb e6 hs6 hfl ok hL2 hL3 hL4 hL5 n2 n3 n4 n5
  unfold Hd.cells av at *
  go_enter Try.func59, Try.ntmps59
  go_upto_region 3 with fail
  have X0 := BoxV.of2 (w := w) (cs := #[.int .u64 (h.sh : Int), .int .u64 (h.sl : Int), .int .u64 (h.dh : Int), .int .u64 (h.dl : Int), .int .i64 h.proto, .int .i64 h.start, .int .i64 h.size, .int .i64 h.off, .bool h.more]) (T := 51) (o := .cells ((Array.replicate 20 (.int .u8 0)).setIfInBounds 0 (.int .u8 69)) 5)
  have R1 : Row8 ((w.alloc (.cells #[.int .u64 (h.sh : Int), .int .u64 (h.sl : Int), .int .u64 (h.dh : Int), .int .u64 (h.dl : Int), .int .i64 h.proto, .int .i64 h.start, .int .i64 h.size, .int .i64 h.off, .bool h.more] 51)).alloc (.cells ((Array.replicate 20 (.int .u8 0)).setIfInBounds 0 (.int .u8 69)) 5)) (w.heap.size + 1) (69 :: List.replicate 19 (0 : UInt8)) := by
    have := heap_alloc_new (w.alloc (.cells #[.int .u64 (h.sh : Int), .int .u64 (h.sl : Int), .int .u64 (h.dh : Int), .int .u64 (h.dl : Int), .int .i64 h.proto, .int .i64 h.start, .int .i64 h.size, .int .i64 h.off, .bool h.more] 51)) (.cells ((Array.replicate 20 (.int .u8 0)).setIfInBounds 0 (.int .u8 69)) 5)
    rw [nblk_alloc] at this
    exact this
  have T1 := ((Touch.refl [] w).alloc (.cells #[.int .u64 (h.sh : Int), .int .u64 (h.sl : Int), .int .u64 (h.dh : Int), .int .u64 (h.dl : Int), .int .i64 h.proto, .int .i64 h.start, .int .i64 h.size, .int .i64 h.off, .bool h.more] 51)).alloc (.cells ((Array.replicate 20 (.int .u8 0)).setIfInBounds 0 (.int .u8 69)) 5)
  generalize (w.alloc (.cells #[.int .u64 (h.sh : Int), .int .u64 (h.sl : Int), .int .u64 (h.dh : Int), .int .u64 (h.dl : Int), .int .i64 h.proto, .int .i64 h.start, .int .i64 h.size, .int .i64 h.off, .bool h.more] 51)).alloc (.cells ((Array.replicate 20 (.int .u8 0)).setIfInBounds 0 (.int .u8 69)) 5) = w1 at *
  have HX := Lib.hid (show BoxV w1.drew w.heap.size 51 #[.int .u64 (h.sh : Int), .int .u64 (h.sl : Int), .int .u64 (h.dh : Int), .int .u64 (h.dl : Int), .int .i64 h.proto, .int .i64 h.start, .int .i64 h.size, .int .i64 h.off, .bool h.more] from X0)
  have HR := Lib.hid (show Row8 w1.drew (w.heap.size + 1) (69 :: List.replicate 19 (0 : UInt8)) from R1)
  have HT1 := Lib.hid T1.drew
  clear X0 R1 T1 hmk
  go_region_with (go_at_call 72; refine (P1.out _).mono ?_; intro e wp hf; obtain ⟨Ap, np, cp, rfl, bp, tp⟩ := fresh_bts hf; obtain ⟨w2, hcp, R2, T2⟩ := copy_run (HR.out.carry tp (by simp)) bp 2 18 18 (by simp); rw [HL2.out] at R2; have HR2 := Lib.hid R2; have HX2 := Lib.hid ((HX.out.carry tp (by simp)).carry T2 (by simp)); have HT2 := Lib.hid ((HT1.out.trans tp (by simp)).trans (S := []) T2 (by simp)); clear R2 T2 bp tp hf)
  go_upto_region 4 with fail
  clear hcp
  have x2 := HX2.out
  have k0 := x2.cell 0
  have k1 := x2.cell 1
  have k2 := x2.cell 2
  have k3 := x2.cell 3
  have k4 := x2.cell 4
  have k5 := x2.cell 5
  have k6 := x2.cell 6
  have k7 := x2.cell 7
  have k8 := x2.cell 8
  have ltx := x2.lt
  have HX2' := Lib.hid (show BoxV w2.drew w.heap.size 51 #[.int .u64 (h.sh : Int), .int .u64 (h.sl : Int), .int .u64 (h.dh : Int), .int .u64 (h.dl : Int), .int .i64 h.proto, .int .i64 h.start, .int .i64 h.size, .int .i64 h.off, .bool h.more] from x2)
  have HR2' := Lib.hid (show Row8 w2.drew (w.heap.size + 1) L2 from HR2.out)
  clear x2 HX2 HR2
  go_region_with (first
    | (go_at_call 73; refine (PL.out _).mono ?_; rintro e wq ⟨rfl, tq⟩; have TQ := Lib.hid tq; clear tq)
    | (go_at_call 72; refine (P2.out _).mono ?_; intro e wp hf; obtain ⟨Ap, np, cp, rfl, bp, tp⟩ := fresh_bts hf; obtain ⟨w3, hcp, R3, T3⟩ := copy_run ((HR2'.out.carry TQ.out (by simp)).carry tp (by simp)) bp 6 14 14 (by rw [N2.out]; omega); rw [HL3.out] at R3; have HR3 := Lib.hid R3; have HX3 := Lib.hid (((HX2'.out.carry TQ.out (by simp)).carry tp (by simp)).carry T3 (by simp)); have HT3 := Lib.hid (((HT2.out.drew.trans TQ.out (by simp)).trans tp (by simp)).trans (S := []) T3 (by simp)); clear R3 T3 bp tp hf))
  clear hcp k0 k1 k2 k3 k4 k5 k6 k7 k8 ltx HX2' HR2' HT2 TQ
  have k4 := HX3.out.cell 4
  have ltx := HX3.out.lt
  have ltr := HR3.out.lt
  have f9 := HR3.out.fr 9
  have c9 := HR3.out.cell (i := 9) (by rw [N3.out]; omega)
  have R4 := HR3.out.set 9 pb (h.proto % 256) HPB.out
  rw [HL4.out] at R4
  have X4 := HX3.out.carry ((Touch.refl [w.heap.size + 1] w3).setCell (a := ⟨w.heap.size + 1, 9, none⟩) (by simp) (.int .u8 (h.proto % 256))) (by simp)
  have T4 := HT3.out.setCell (a := ⟨w.heap.size + 1, 9, none⟩) (by simp) (.int .u8 (h.proto % 256))
  have HR4 := Lib.hid R4
  have HX4 := Lib.hid X4
  have HT4 := Lib.hid T4
  clear R4 X4 T4
  go_upto_region 6 with fail
  clear k4 ltx ltr f9 c9
  generalize w3.setCell ⟨w.heap.size + 1, 9, none⟩ (.int .u8 (h.proto % 256)) = w4 at *
  have k0 := HX4.out.cell 0
  have k1 := HX4.out.cell 1
  have ltx := HX4.out.lt
  have HX4' := Lib.hid (show BoxV w4.drew w.heap.size 51 #[.int .u64 (h.sh : Int), .int .u64 (h.sl : Int), .int .u64 (h.dh : Int), .int .u64 (h.dl : Int), .int .i64 h.proto, .int .i64 h.start, .int .i64 h.size, .int .i64 h.off, .bool h.more] from HX4.out)
  have HR4' := Lib.hid (show Row8 w4.drew (w.heap.size + 1) L4 from HR4.out)
  go_region_with (go_at_call 74; refine (LO1.out _).mono ?_; rintro e wq ⟨rfl, tq⟩; obtain ⟨w5, hcp, R5, T5⟩ := copy_str (HR4'.out.carry tq (by simp)) Z3 12 8 8 (by rw [NZ3.out]; omega) (by rw [NZ3.out, N4.out]; omega); rw [HL5.out] at R5; have HR5 := Lib.hid R5; have HX5 := Lib.hid ((HX4'.out.carry tq (by simp)).carry T5 (by simp)); have HT5 := Lib.hid ((HT4.out.drew.trans tq (by simp)).trans (S := []) T5 (by simp)); clear R5 T5 tq)
  go_upto_region 7 with fail
  clear hcp k0 k1 ltx HX4' HR4' HT4 HX4 HR4
  have k2 := HX5.out.cell 2
  have k3 := HX5.out.cell 3
  have ltx := HX5.out.lt
  have HR5' := Lib.hid (show Row8 w5.drew (w.heap.size + 1) L5 from HR5.out)
  go_region_with (go_at_call 74; refine (LO2.out _).mono ?_; rintro e wq ⟨rfl, tq⟩; obtain ⟨w6, hcp, R6', T6⟩ := copy_str (HR5'.out.carry tq (by simp)) Z4 16 4 4 (by rw [NZ4.out]; omega) (by rw [NZ4.out, N5.out]; omega); rw [HR6.out] at R6'; have HRR := Lib.hid R6'; have HT6 := Lib.hid ((HT5.out.drew.trans tq (by simp)).trans (S := []) T6 (by simp)); clear R6' T6 tq)
  go_upto_region 8 with fail
  clear hcp k2 k3 ltx HR5' HT5 HX5 HR5
  have HRR' := Lib.hid (show Row8 w6.drew (w.heap.size + 1) R6 from HRR.out)
  have hcv := str_of (HRR'.out.bts 20 (by rw [HL6.out]; exact Nat.le_refl _) (by omega))
  rw [HL6.out] at hcv
  go_region_with (first
    | (go_at_call 24; refine (SU.out _).mono ?_; rintro e wq ⟨rfl, rfl⟩)
    | (go_at_call 72; refine (P3.out _).mono ?_; intro e wp hf; obtain ⟨Ap, np, cp, rfl, bp, tp⟩ := fresh_bts hf; obtain ⟨w7, hcp, R7, T7⟩ := copy_run (HRR'.out.carry tp (by simp)) bp 10 10 10 (by rw [HL6.out]; omega); rw [HE7.out] at R7; have hcv7 := str_of (R7.bts 20 (by rw [H20.out]; exact Nat.le_refl _) (by omega)); rw [H20.out] at hcv7; have HT7 := Lib.hid ((HT6.out.drew.trans tp (by simp)).trans (S := []) T7 (by simp)); clear R7 T7 bp tp hf))
  go_wp2_with fail
  go_ret
  exact ⟨rfl, HT7.out⟩
end Go.Proofs.Ytonchibngcoefaa
