/-
  octets' PutU16, PutU32, PutU64 and PutVar (layer 9).
-/
import Derived.Test.YtpmnnaghadpnnaaPut
import Derived.Laws.BitsAllLaws
namespace Go.Proofs.Ytpmnnaghadpnnaa
open Go.ChangeShapes Go.WideShapes Go.ChangeAt Go.RowKit Go.Deep
set_option linter.unusedVariables false

/-- A number of kind int as one of 64 bits without a sign. -/
def u64n (n : Int) : Nat := (n % 18446744073709551616).toNat
theorem u64n_cast (n : Int) : n % 18446744073709551616 = ((u64n n : Nat) : Int) := by unfold u64n; omega
theorem u64n_lt (n : Int) : u64n n < 18446744073709551616 := by unfold u64n; omega

/-- The number of a number with a sign: twice it, or less twice it, less one. -/
def zz (n : Int) : Nat := if 0 ≤ n then (2 * n).toNat else (-2 * n - 1).toNat
/-- Seven bits a byte, the least significant ones first. -/
def varB (u : Nat) : List UInt8 := if h : u < 128 then [UInt8.ofNat u] else UInt8.ofNat (u % 128 + 128) :: varB (u / 128)
termination_by u
decreasing_by omega
theorem varB_small {u : Nat} (h : u < 128) : varB u = [UInt8.ofNat u] := by rw [varB, dif_pos h]
theorem varB_large {u : Nat} (h : ¬ u < 128) : varB u = UInt8.ofNat (u % 128 + 128) :: varB (u / 128) := by rw [varB, dif_neg h]
theorem pow128 {u k : Nat} (hu : u < 18446744073709551616) (h : 128 ≤ u / 128 ^ k) : k ≤ 8 := by
  rcases Nat.lt_or_ge 8 k with hk | hk
  · exfalso
    have h1 : 128 ^ 9 ≤ 128 ^ k := Nat.pow_le_pow_right (by omega) hk
    have h2 : u / 128 ^ k ≤ u / 128 ^ 9 := Nat.div_le_div_left h1 (by decide)
    have h3 : u / 128 ^ 9 ≤ 2 := by
      rw [show (128 : Nat) ^ 9 = 9223372036854775808 from rfl]
      omega
    omega
  · exact hk

theorem xor_ones (x : Nat) (hx : x < 18446744073709551616) : x ^^^ 18446744073709551615 = 18446744073709551615 - x := by
  apply Nat.eq_of_testBit_eq
  intro i
  have h1 : (18446744073709551615 : Nat) = 2 ^ 64 - 1 := rfl
  have h2 : (18446744073709551615 : Nat) - x = 2 ^ 64 - (x + 1) := by omega
  rw [Nat.testBit_xor, h2, Nat.testBit_two_pow_sub_succ (by omega), h1, Nat.testBit_two_pow_sub_one]
  by_cases hi : i < 64
  · simp [hi]
  · have : x.testBit i = false := Nat.testBit_lt_two_pow (Nat.lt_of_lt_of_le (show x < 2 ^ 64 by omega) (Nat.pow_le_pow_right (by omega) (by omega)))
    simp [hi, this]
theorem zz_bits (n : Int) (hn : -9223372036854775808 ≤ n ∧ n ≤ 9223372036854775807) :
    bits .xor .u64 (IntKind.u64.wrap (IntKind.u64.wrap n * 2)) (IntKind.u64.wrap (n / 9223372036854775808)) = ((zz n : Nat) : Int) := by
  rw [IntKind.wrap_u64, IntKind.wrap_u64, IntKind.wrap_u64]
  unfold zz
  by_cases h : 0 ≤ n
  · have e1 : (n % 18446744073709551616 * 2) % 18446744073709551616 = (((2 * n).toNat : Nat) : Int) := by omega
    have e2 : n / 9223372036854775808 % 18446744073709551616 = ((0 : Nat) : Int) := by omega
    rw [if_pos h, e1, e2, u64_xor_nat _ _ (by omega) (by omega), Nat.xor_zero]
  · have e1 : (n % 18446744073709551616 * 2) % 18446744073709551616 = (((2 * n + 18446744073709551616).toNat : Nat) : Int) := by omega
    have e2 : n / 9223372036854775808 % 18446744073709551616 = ((18446744073709551615 : Nat) : Int) := by omega
    rw [if_neg h, e1, e2, u64_xor_nat _ _ (by omega) (by omega), xor_ones _ (by omega)]
    omega
theorem zz_lt (n : Int) (hn : -9223372036854775808 ≤ n ∧ n ≤ 9223372036854775807) : zz n < 18446744073709551616 := by
  unfold zz
  split <;> omega
set_option maxRecDepth 100000 in
theorem or128 (x : Nat) : x % 256 ||| 128 = (UInt8.ofNat (x % 128 + 128)).toNat := by
  have h : ∀ y < 256, y ||| 128 = y % 128 + 128 := by decide
  rw [h _ (Nat.mod_lt _ (by omega))]
  simp
  omega

theorem or128' (q : Nat) : bits .or .u8 ((q : Int) % 256) 128 = ((UInt8.ofNat (q % 128 + 128)).toNat : Int) := by
  rw [show (q : Int) % 256 = ((q % 256 : Nat) : Int) by omega, show (128 : Int) = ((128 : Nat) : Int) from rfl, u8_or_nat _ _ (Nat.mod_lt _ (by omega)) (by omega), or128]
theorem Bts.lit (w : World) (x : UInt8) : Bts (w.alloc (.cells #[.int .u8 (x.toNat : Int)] 5)) (.slice (some ⟨w.heap.size, 0, none⟩) 1 1) [x] := by
  refine ⟨_, 1, rfl, Nat.le_refl _, by unfold maxLen; omega, fun e => by simp at e, fun ad ha j u hu => ?_⟩
  obtain rfl : ⟨w.heap.size, 0, none⟩ = ad := by simpa using ha
  exact cell_one_new w (.int .u8 (x.toNat : Int)) 5 j u hu

set_option maxHeartbeats 1000000 in
set_option maxRecDepth 100000 in
theorem putVar_any {w : World} {v : Value} {b : List UInt8} (hb : Bts w v b) (n : Int) (hn : -9223372036854775808 ≤ n ∧ n ≤ 9223372036854775807) (hl : b.length ≤ 10000000) :
    Calls Try.prog 13 #[v, .int .i64 n] w (Fresh w (b ++ varB (zz n))) := by
  have HB := Lib.hid hb
  obtain ⟨A0, c0, rfl, _, _, _, _⟩ := hb
  have hz := zz_bits n hn
  have hu := zz_lt n hn
  go_enter Try.func13, Try.ntmps13
  go_wp2_with fail
  clear hz
  generalize zz n = u at *
  go_loopw [5, 6] (fun y x wr => ∃ (k : Nat) (m : List UInt8), m.length = k ∧ k ≤ 10 ∧ y = .int .u64 ((u / 128 ^ k : Nat) : Int) ∧ m ++ varB (u / 128 ^ k) = varB u ∧ wr.ownsRow w.heap.size 5 1 x m.length (byt m) ∧ Touch [] w wr) (fun y _ _ => (intOf y).toNat)
  case atStart => exact ⟨0, [], rfl, by omega, by simp, by simp, World.ownsRow_nil _ _ _ _, Touch.refl _ _⟩
  case round =>
    obtain ⟨k, m, hm, hk, rfl, hcat, hown, ht⟩ := hrel
    have S2 : w.heap.size ≤ wr.heap.size := ht.size
    by_cases hlt : u / 128 ^ k < 128
    · rw [varB_small hlt] at hcat
      obtain ⟨A1, c1, hv, _, _, _⟩ := own_shape hown
      have b1 := Bts.own hown
      subst hv
      have b0 := HB.out.carry ht (by simp)
      have tl := (Touch.refl [] wr).alloc (.cells #[.int .u8 ((UInt8.ofNat (u / 128 ^ k)).toNat : Int)] 5)
      have C := Lib.hid (concat3 (b0.carry tl (by simp)) (b1.carry tl (by simp)) (Bts.lit wr (UInt8.ofNat (u / 128 ^ k))) (by simp; omega))
      have q1 : ((UInt8.ofNat (u / 128 ^ k)).toNat : Int) = ((u / 128 ^ k : Nat) : Int) := by rw [u8_nat, Nat.mod_eq_of_lt (by omega)]
      have HC := Lib.hid hcat
      have HT := Lib.hid (ht.alloc (.cells #[.int .u8 ((UInt8.ofNat (u / 128 ^ k)).toNat : Int)] 5))
      have hs : (wr.alloc (.cells #[.int .u8 ((UInt8.ofNat (u / 128 ^ k)).toNat : Int)] 5)).heap.size = wr.heap.size + 1 := by simp
      rw [hs] at C
      rw [q1] at C HT hs
      rw [hm] at C
      clear hcat b0 b1 tl hown ht
      generalize hx8 : UInt8.ofNat (u / 128 ^ k) = x8 at *
      generalize hq : u / 128 ^ k = q at *
      have q0 : (q : Int) < 128 := by omega
      go_wp2_with fail
      refine (C.out).mono ?_
      rintro e w1 ⟨v1, rfl, hown1, ht1⟩
      go_wp2_with fail
      go_ret
      rw [← HC.out, ← List.append_assoc]
      exact ⟨_, rfl, own_base hown1 (by rw [hs]; omega), HT.out.trans ht1 (by simp)⟩
    · have hk8 := pow128 hu (Nat.le_of_not_lt hlt)
      rw [varB_large hlt] at hcat
      have hnx : u / 128 ^ (k + 1) = u / 128 ^ k / 128 := by rw [Nat.pow_succ, Nat.div_div_eq_div_mul]
      have HC := Lib.hid hcat
      have HN := Lib.hid hnx
      have HO := Lib.hid hown
      have HT := Lib.hid ht
      clear hcat hnx hown ht
      generalize u / 128 ^ k = q at *
      have q0 : ¬ ((q : Int) < 128) := by omega
      have q1 : bits .or .u8 ((q : Int) % 256) 128 = ((UInt8.ofNat (q % 128 + 128)).toNat : Int) := or128' q
      generalize UInt8.ofNat (q % 128 + 128) = x8 at *
      go_wp2_with (at_builtin; refine wpList_append_bts rfl (.tmp 16) (.tmp 20) rfl u6 m rfl (HO.out.alloc _) (.slice (some ⟨wr.heap.size, 0, none⟩) 1 1) [x8] rfl (Bts.lit wr x8) (by simp; omega) (by simp; omega) ?_; intro v' w2 hown2 hgrow)
      have t2 := own_touch (HO.out.alloc _) (HT.out.alloc _) hgrow
      go_roundw
      case rel => exact ⟨k + 1, m ++ [x8], by simp [hm], by omega, by rw [HN.out]; simp, by rw [HN.out, List.append_assoc]; exact HC.out, hown2, t2⟩
      case measure => simp [intOf]; omega
end Go.Proofs.Ytpmnnaghadpnnaa
