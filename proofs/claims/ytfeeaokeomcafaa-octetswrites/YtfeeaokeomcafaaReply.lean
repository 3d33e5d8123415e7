/-
  reply's Put and Bad, and the reference's (layer 39).
-/
import Derived.Test.YtfeeaokeomcafaaRefPut2
import Derived.Test.YtfeeaokeomcafaaCls
namespace Go.Proofs.Ytfeeaokeomcafaa
open Go.ChangeShapes Go.WideShapes Go.ChangeAt Go.RowKit Go.Deep
set_option linter.unusedVariables false

def fitI (x : Int) : Prop := -9223372036854775808 ≤ x ∧ x ≤ 9223372036854775807
/-- A reply's numbers. -/
structure Rep where
  op : Int
  err : Int
  ver : Int
  cnt : Int
  sum : Nat
  st : Nat → Int
structure Rep.Ok (r : Rep) : Prop where
  op : fitI r.op
  err : fitI r.err
  ver : fitI r.ver
  cnt : fitI r.cnt
  sum : r.sum < 4294967296
  st : ∀ k, fitI (r.st k)
def Rep.statCells (r : Rep) : Array Value := #[.int .i64 (r.st 0), .int .i64 (r.st 1), .int .i64 (r.st 2), .int .i64 (r.st 3), .int .i64 (r.st 4), .int .i64 (r.st 5)]
def Rep.cells (r : Rep) : Array Value := #[.int .i64 r.op, .int .i64 r.err, .int .i64 r.ver, .int .i64 r.cnt, .int .u32 (r.sum : Int), .int .i64 (r.st 0), .int .i64 (r.st 1), .int .i64 (r.st 2), .int .i64 (r.st 3), .int .i64 (r.st 4), .int .i64 (r.st 5)]
/-- The bytes of the first k counts. -/
def statB (t : Nat → Int) : Nat → List UInt8
  | 0 => []
  | k + 1 => statB t k ++ varB (zz (t k))
def Rep.headB (r : Rep) : List UInt8 := be (u64n r.op) 1 ++ be (u64n r.err) 1 ++ varB (zz r.ver) ++ varB (zz r.cnt) ++ be r.sum 4
def Rep.bytes (r : Rep) : List UInt8 := r.headB ++ statB r.st 6
theorem varB_length : ∀ (u k : Nat), u < 128 ^ (k + 1) → (varB u).length ≤ k + 1
  | u, 0, h => by
    have : u < 128 := by simpa using h
    rw [varB_small this]; simp
  | u, k + 1, h => by
    by_cases hu : u < 128
    · rw [varB_small hu]; simp
    · rw [varB_large hu]
      have := varB_length (u / 128) k (Nat.div_lt_of_lt_mul (by rw [Nat.pow_succ, Nat.mul_comm] at h; exact h))
      simp; omega
theorem varB_ten (n : Int) (h : fitI n) : (varB (zz n)).length ≤ 10 := varB_length _ 9 (Nat.lt_of_lt_of_le (zz_lt n h) (by decide))
theorem statB_length (t : Nat → Int) (h : ∀ k, fitI (t k)) : ∀ k, (statB t k).length ≤ 10 * k
  | 0 => by simp [statB]
  | k + 1 => by
    have := statB_length t h k
    have := varB_ten (t k) (h k)
    simp only [statB, List.length_append]
    omega
theorem Rep.headB_length (r : Rep) (h : r.Ok) : r.headB.length ≤ 30 := by
  have h1 := varB_ten r.ver h.ver
  have h2 := varB_ten r.cnt h.cnt
  simp only [Rep.headB, List.length_append, be_length]
  omega

/-- The cells of the box that a reply by value is laid in. -/
theorem Rep.boxed (r : Rep) {w w' : World} (t : Touch [] (w.alloc (.cells r.cells 78)) w') (j : Nat) (hj : j < 11) : w'.cell? ⟨w.heap.size, j, none⟩ = r.cells[j]? := by
  rw [t.cell (a := ⟨w.heap.size, j, none⟩) (by simp) (by simp)]
  exact World.cell?_alloc_mark w r.cells 78 (0, 0) j

theorem Bts.lit2 (w : World) (x y : UInt8) (a b : Int) (ha : a = (x.toNat : Int)) (hb : b = (y.toNat : Int)) : Bts (w.alloc (.cells #[.int .u8 a, .int .u8 b] 5)) (.slice (some ⟨w.heap.size, 0, none⟩) 2 2) [x, y] := by
  subst ha hb
  refine ⟨_, 2, rfl, Nat.le_refl _, by unfold maxLen; omega, fun e => by simp at e, fun ad ha j u hu => ?_⟩
  obtain rfl : ⟨w.heap.size, 0, none⟩ = ad := by simpa using ha
  rw [show (⟨w.heap.size, 0, none⟩ : Addr).add j = ⟨w.heap.size, j, none⟩ by unfold Addr.add; split <;> simp_all, World.cell?_alloc_mark]
  match j, hu with
  | 0, hu => simpa [byt] using hu
  | 1, hu => simpa [byt] using hu

theorem fresh_bts {w w' : World} {l : List UInt8} {e : Ending} (h : Fresh w l e w') : ∃ A n c, e = .returned (.slice A n c) ∧ Bts w' (.slice A n c) l ∧ Touch [] w w' := by
  obtain ⟨v, rfl, hown, ht⟩ := h
  have hb := Bts.own hown
  obtain ⟨A, c, rfl, _⟩ := id hb
  exact ⟨A, _, c, rfl, hb, ht⟩

theorem arr6 : Try.prog.underlying 140 = some (.array 6 3) := by kernel_rfl
theorem int_size : (Try.prog.info? 3).map (fun i => i.size) = some 1 := by kernel_rfl
set_option maxRecDepth 100000 in
theorem index6 (a0 a1 a2 a3 a4 a5 : Int) (w : World) :
    ((Instr.index 140 (.agg #[.int .i64 a0, .int .i64 a1, .int .i64 a2, .int .i64 a3, .int .i64 a4, .int .i64 a5]) (.int .i64 0)).run Try.prog w = .ok (.int .i64 a0) w) ∧
    ((Instr.index 140 (.agg #[.int .i64 a0, .int .i64 a1, .int .i64 a2, .int .i64 a3, .int .i64 a4, .int .i64 a5]) (.int .i64 1)).run Try.prog w = .ok (.int .i64 a1) w) ∧
    ((Instr.index 140 (.agg #[.int .i64 a0, .int .i64 a1, .int .i64 a2, .int .i64 a3, .int .i64 a4, .int .i64 a5]) (.int .i64 2)).run Try.prog w = .ok (.int .i64 a2) w) ∧
    ((Instr.index 140 (.agg #[.int .i64 a0, .int .i64 a1, .int .i64 a2, .int .i64 a3, .int .i64 a4, .int .i64 a5]) (.int .i64 3)).run Try.prog w = .ok (.int .i64 a3) w) ∧
    ((Instr.index 140 (.agg #[.int .i64 a0, .int .i64 a1, .int .i64 a2, .int .i64 a3, .int .i64 a4, .int .i64 a5]) (.int .i64 4)).run Try.prog w = .ok (.int .i64 a4) w) ∧
    ((Instr.index 140 (.agg #[.int .i64 a0, .int .i64 a1, .int .i64 a2, .int .i64 a3, .int .i64 a4, .int .i64 a5]) (.int .i64 5)).run Try.prog w = .ok (.int .i64 a5) w) := by
  refine ⟨?_, ?_, ?_, ?_, ?_, ?_⟩ <;> kernel_rfl

set_option maxHeartbeats 2000000 in
set_option maxRecDepth 100000 in
theorem replyPut (r : Rep) (h : r.Ok) (w : World) :
    Calls Try.prog 57 #[.agg r.cells] w fun e w' => e = .returned (.string (S r.bytes)) ∧ Touch [] w w' := by
  have t0 := (Touch.refl [] (w.alloc (.cells r.cells 78)))
  have hbox := Lib.hid (fun w' (t : Touch [] (w.alloc (.cells r.cells 78)) w') => r.boxed t)
  have hl := r.headB_length h
  have H := Lib.hid h
  have lit := Lib.hid (Bts.lit2 (w.alloc (.cells r.cells 78)) (UInt8.ofNat (u64n r.op)) (UInt8.ofNat (u64n r.err)) (r.op % 256) (r.err % 256) (by rw [u8_nat]; unfold u64n; omega) (by rw [u8_nat]; unfold u64n; omega))
  have c1 := Lib.hid (putVar_any lit.out r.ver h.ver (by simp))
  rw [show (w.alloc (.cells r.cells 78)).heap.size = w.heap.size + 1 by simp] at c1
  have tl := Lib.hid (t0.alloc (.cells #[.int .u8 (r.op % 256), .int .u8 (r.err % 256)] 5))
  have TW := Lib.hid ((Touch.refl [] w).alloc (.cells r.cells 78))
  have eqv : Hid (r.headB = [UInt8.ofNat (u64n r.op), UInt8.ofNat (u64n r.err)] ++ varB (zz r.ver) ++ varB (zz r.cnt) ++ be r.sum 4) := Lib.hid (by simp [Rep.headB, be])
  have l1 := varB_ten r.ver h.ver
  have l2 := varB_ten r.cnt h.cnt
  have us : u64n (r.sum : Int) = r.sum := by have := h.sum; unfold u64n; omega
  have us2 := h.sum
  clear h t0
  unfold Rep.bytes
  unfold Rep.cells at c1 tl TW hbox ⊢
  go_enter Try.func57, Try.ntmps57
  go_wp2_with fail
  refine (c1.out).mono ?_
  intro e w1 hf
  obtain ⟨A1, n1, d1, rfl, b1, t1⟩ := fresh_bts hf
  have T1 := tl.out.trans t1 (by simp)
  have c2 := Lib.hid (putVar_any b1 r.cnt H.out.cnt (by simp; omega))
  have k1 := hbox.out w1 T1 3 (by omega)
  simp at k1
  clear b1 t1 hf c1 lit tl
  go_wp2_with fail
  refine (c2.out).mono ?_
  intro e w2 hf
  obtain ⟨A2, n2, d2, rfl, b2, t2⟩ := fresh_bts hf
  have T2 := T1.trans t2 (by simp)
  have c3 := Lib.hid (putU32_any b2 (r.sum : Int) (by simp; omega))
  rw [us, ← eqv.out] at c3
  have k2 := hbox.out w2 T2 4 (by omega)
  simp at k2
  clear b2 t2 hf c2 T1 k1
  go_wp2_with fail
  refine (c3.out).mono ?_
  intro e w3 hf
  obtain ⟨A3, n3, d3, rfl, b3, t3⟩ := fresh_bts hf
  have T3 := T2.trans t3 (by simp)
  have k5 := hbox.out w3 T3 5 (by omega)
  have k6 := hbox.out w3 T3 6 (by omega)
  have k7 := hbox.out w3 T3 7 (by omega)
  have k8 := hbox.out w3 T3 8 (by omega)
  have k9 := hbox.out w3 T3 9 (by omega)
  have k10 := hbox.out w3 T3 10 (by omega)
  simp at k5 k6 k7 k8 k9 k10
  have T4 := Lib.hid T3
  have sl := Lib.hid (statB_length r.st H.out.st)
  clear t3 hf c3 T2 k2 T3
  go_wp2_with fail
  go_loopw [3, 42] (fun x y wr => ∃ k : Nat, k ≤ 6 ∧ y = .int .i64 k ∧ (∃ A n d, x = .slice A n d ∧ Bts wr (.slice A n d) (r.headB ++ statB r.st k)) ∧ Touch [] w3 wr) (fun _ y _ => 6 - (intOf y).toNat)
  case atStart =>
    have tt := (Touch.refl [] w3).alloc (.cells #[.int .i64 (r.st 0), .int .i64 (r.st 1), .int .i64 (r.st 2), .int .i64 (r.st 3), .int .i64 (r.st 4), .int .i64 (r.st 5)] 76)
    exact ⟨0, by omega, rfl, ⟨_, _, _, rfl, by simpa [statB] using b3.carry tt (by simp)⟩, tt⟩
  case round =>
    obtain ⟨k, hk, rfl, ⟨A, n, d, rfl, hb⟩, ht⟩ := hrel
    have hsl := sl.out k
    by_cases hlt : k < 6
    · have c4 := Lib.hid (putVar_any hb (r.st k) (H.out.st k) (by simp; omega))
      have HT := Lib.hid ht
      clear hb ht k5 k6 k7 k8 k9 k10
      obtain ⟨i0, i1, i2, i3, i4, i5⟩ := index6 (r.st 0) (r.st 1) (r.st 2) (r.st 3) (r.st 4) (r.st 5) wr
      obtain ⟨kk, hkk⟩ : ∃ kk, kk = k + 1 := ⟨_, rfl⟩
      have E : Hid (r.headB ++ statB r.st kk = r.headB ++ statB r.st k ++ varB (zz (r.st k))) := Lib.hid (by rw [hkk, statB, List.append_assoc])
      have hk6 : k = 0 ∨ k = 1 ∨ k = 2 ∨ k = 3 ∨ k = 4 ∨ k = 5 := by omega
      rcases hk6 with rfl | rfl | rfl | rfl | rfl | rfl
      all_goals
        go_wp2_with fail
        refine (c4.out).mono ?_
        intro e w5 hf
        obtain ⟨A5, n5, d5, rfl, b5, t5⟩ := fresh_bts hf
        have HT5 := Lib.hid (HT.out.trans t5 (by simp))
        have B5 := Lib.hid b5
        clear t5 hf b5 c4
        go_wp2_with fail
        go_roundw
        case rel => exact ⟨kk, by omega, by rw [hkk]; rfl, ⟨_, _, _, rfl, by rw [E.out]; exact B5.out⟩, HT5.out⟩
        case measure => simp [intOf]
    · obtain rfl : k = 6 := by omega
      have hs := str_of hb
      have HT := Lib.hid ht
      clear hb ht k5 k6 k7 k8 k9 k10
      go_wp2_with fail
      go_ret
      exact ⟨rfl, (TW.out.trans T4.out (by simp)).trans HT.out (by simp)⟩
end Go.Proofs.Ytfeeaokeomcafaa
