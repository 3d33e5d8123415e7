/-
  octets' Var (layer 9): the length of a variable-length integer, and its number.
-/
import Derived.Test.YtpmnnaghadpnnaaReader2
namespace Go.Proofs.Ytpmnnaghadpnnaa
open Go.ChangeShapes Go.WideShapes Go.ChangeAt Go.RowKit Go.Deep
set_option linter.unusedVariables false
set_option linter.unusedSimpArgs false

/-- How many bytes at the beginning are not the last one of a number. -/
def lead : List UInt8 → Nat
  | [] => 0
  | b :: l => if 128 ≤ b.toNat then lead l + 1 else 0
theorem lead_le : ∀ l, lead l ≤ l.length
  | [] => by simp [lead]
  | b :: l => by
    have := lead_le l
    simp only [lead, List.length_cons]
    split <;> omega
theorem lead_high : ∀ (l : List UInt8) (i : Nat) (h : i < l.length), i < lead l → 128 ≤ (l[i]).toNat
  | [], i, h, _ => by simp at h
  | b :: l, i, h, hi => by
    simp only [lead] at hi
    split at hi
    · rename_i hb
      cases i with
      | zero => exact hb
      | succ i => exact lead_high l i (by simpa using h) (by omega)
    · omega
theorem lead_low : ∀ (l : List UInt8) (h : lead l < l.length), (l[lead l]).toNat < 128
  | [], h => by simp [lead] at h
  | b :: l, h => by
    by_cases hb : 128 ≤ b.toNat
    · have e : lead (b :: l) = lead l + 1 := by simp only [lead]; rw [if_pos hb]
      simp only [e] at h ⊢
      exact lead_low l (by simpa using h)
    · have e : lead (b :: l) = 0 := by simp only [lead]; rw [if_neg hb]
      simp only [e]
      simp
      omega
theorem lead_is (l : List UInt8) (k : Nat) (hk : k ≤ lead l) (h : k < l.length) (hb : (l[k]).toNat < 128) : lead l = k := by
  rcases Nat.lt_or_ge k (lead l) with h1 | h1
  · have := lead_high l k h h1; omega
  · omega

theorem ix_str (l : List UInt8) (i : Nat) (hi : i < l.length) (w : World) : (Instr.index 9 (.string (S l)) (.int .i64 (i : Int))).run Try.prog w = .ok (.int .u8 ((l[i]).toNat : Int)) w := by
  have h : (S l)[i]? = some l[i] := by
    have : i < (S l).size := by rw [S_size]; exact hi
    rw [getElem?_pos (S l) i this]
    rfl
  simp [Instr.index, run_underlying Try.underlying9, asIntOf, h]
section
variable {w : World} {p : Nat} {l : List UInt8}
set_option maxHeartbeats 1000000 in
set_option maxRecDepth 100000 in
theorem varLen_any (h : At w p l) (hl : l.length ≤ 1000000000) :
    Calls Try.prog 33 #[.pointer (some ⟨p, 0, none⟩)] w fun e w' =>
      (lead l < l.length ∧ lead l < 10 → e = .returned (.int .i64 ((lead l : Nat) + 1 : Int)) ∧ w' = w) ∧
      (¬ (lead l < l.length ∧ lead l < 10) → 10 ≤ l.length → e = .panicked [{ v := failV p 6, recovered := false }] ∧ w' = w) ∧
      (¬ (lead l < l.length ∧ lead l < 10) → l.length < 10 → e = .returned (.int .i64 ((l.length : Nat) + 1 : Int)) ∧ w' = w) := by
  have c0 := h.c0
  have lt := h.lt
  have hs := S_size l
  have L := Lib.hid (left_any h)
  have N := Lib.hid (need_yes (.pointer (some ⟨p, 0, none⟩)) 6)
  have M := Lib.hid (need_no p 6 (by decide))
  have hle := lead_le l
  clear h
  obtain ⟨m, hm, hm1, hm2⟩ : ∃ m : Nat, (if (10 : Int) < (l.length : Int) then (10 : Int) else (l.length : Int)) = (m : Int) ∧ m ≤ l.length ∧ m ≤ 10 := by
    by_cases g : (10 : Int) < (l.length : Int)
    · exact ⟨10, if_pos g, by omega, by omega⟩
    · exact ⟨l.length, if_neg g, by omega, by omega⟩
  have hm3 : m = l.length ∨ m = 10 := by
    by_cases g : (10 : Int) < (l.length : Int)
    · rw [if_pos g] at hm; omega
    · rw [if_neg g] at hm; omega
  go_enter Try.func33, Try.ntmps33
  go_wp2_with fail
  refine (L.out).mono ?_
  rintro e w1 ⟨rfl, rfl⟩
  go_wp2_with fail
  go_loopw [7] (fun y wr => ∃ k : Nat, k ≤ m ∧ k ≤ lead l ∧ y = .int .i64 k ∧ wr = w1) (fun y _ => m - (intOf y).toNat)
  case atStart => exact ⟨0, by omega, by omega, rfl, rfl⟩
  case round =>
    obtain ⟨k, hk, hkl, rfl, rfl⟩ := hrel
    by_cases hlt : k < m
    · have hx := ix_str l k (by omega)
      have hb := (l[k]).toNat_lt
      by_cases hv : ((l[k]).toNat : Int) < 128
      · have hle2 := lead_is l k hkl (by omega) (by omega)
        go_wp2_with fail
        go_ret
        exact ⟨fun _ => ⟨ret_int (by omega), rfl⟩, fun h => absurd ⟨by omega, by omega⟩ h, fun h => absurd ⟨by omega, by omega⟩ h⟩
      · have hk2 : k + 1 ≤ lead l := by
          rcases Nat.lt_or_ge k (lead l) with h1 | h1
          · exact h1
          · exfalso
            have e : lead l = k := by omega
            have := lead_low l (by omega)
            simp only [e] at this
            omega
        go_wp2_with fail
        go_roundw
        case rel => exact ⟨k + 1, by omega, by omega, by go_num, trivial⟩
        case measure => simp [intOf]; omega
    · obtain rfl : k = m := by omega
      by_cases hten : (l.length : Int) < 10
      · go_wp2_with fail
        refine (L.out).mono ?_
        rintro e w2 ⟨rfl, rfl⟩
        go_wp2_with fail
        refine (N.out _).mono ?_
        rintro e w2 ⟨rfl, rfl⟩
        go_wp2_with fail
        refine (L.out).mono ?_
        rintro e w2 ⟨rfl, rfl⟩
        go_wp2_with fail
        go_ret
        exact ⟨fun h => by omega, fun _ h => by omega, fun _ _ => ⟨ret_int (by omega), rfl⟩⟩
      · have hdb : decide ((l.length : Int) < 10) = false := by simpa using hten
        go_wp2_with fail
        refine (L.out).mono ?_
        rintro e w2 ⟨rfl, rfl⟩
        go_wp2_with fail
        refine (M.out _).mono ?_
        rintro e w2 ⟨rfl, rfl⟩
        go_wp2_with fail
        exact ⟨rfl, fun h => by omega, fun _ _ => ⟨rfl, rfl⟩, fun _ h => by omega⟩

/-- The number of the low seven bits of bytes, the least significant ones first. -/
def varU : List UInt8 → Nat
  | [] => 0
  | b :: l => b.toNat % 128 + 128 * varU l
def unzz (u : Nat) : Int := if u % 2 = 0 then ((u / 2 : Nat) : Int) else -((u / 2 : Nat) : Int) - 1
def varE (l : List UInt8) : Int :=
  if h : lead l < l.length ∧ lead l < 10 then
    (if (lead l = 9 ∧ 1 < (l[lead l]'h.1).toNat) ∨ (0 < lead l ∧ (l[lead l]'h.1).toNat = 0) then 6 else 0)
  else if 10 ≤ l.length then 6 else 5
def varV (l : List UInt8) : Int := unzz (varU (l.take (lead l + 1)))
theorem varU_lt : ∀ l : List UInt8, varU l < 128 ^ l.length
  | [] => by simp [varU]
  | b :: l => by
    have := varU_lt l
    simp only [varU, List.length_cons, Nat.pow_succ]
    have h1 := Nat.mod_lt b.toNat (show 128 > 0 by omega)
    omega
theorem varU_append : ∀ l m : List UInt8, varU (l ++ m) = varU l + 128 ^ l.length * varU m
  | [], m => by simp [varU]
  | b :: l, m => by
    simp only [List.cons_append, varU, List.length_cons, Nat.pow_succ, varU_append l m]
    rw [Nat.mul_add, Nat.mul_comm (128 ^ l.length) 128, Nat.mul_assoc]
    omega
theorem varU_top (G : List UInt8) (k : Nat) (hk : k < 10) (hG : G.length = k + 1) (h9 : ∀ i : Nat, ∀ hi : i < G.length, i = 9 → (G[i]).toNat % 128 ≤ 1) : varU G < 18446744073709551616 := by
  have hs : G = G.take k ++ [G[k]'(by omega)] := by rw [← take_snoc G k (by omega), List.take_of_length_le (by omega)]
  have hl : (G.take k).length = k := by rw [List.length_take]; omega
  have hu : varU G = varU (G.take k) + 128 ^ k * ((G[k]'(by omega)).toNat % 128) := by
    conv => lhs; rw [hs]
    rw [varU_append, hl]
    simp [varU]
  have h1 := varU_lt (G.take k)
  rw [hl] at h1
  have h2 : (G[k]'(by omega)).toNat % 128 < 128 := Nat.mod_lt _ (by omega)
  have h3 := h9 k (by omega)
  rw [hu]
  generalize (G[k]'(by omega)).toNat % 128 = c at *
  rcases Nat.lt_or_ge k 9 with h | h
  · have e1 : 128 ^ k ≤ 128 ^ 8 := Nat.pow_le_pow_right (by omega) (by omega)
    have e2 : (128 : Nat) ^ 8 = 72057594037927936 := rfl
    have e3 : 128 ^ k * c ≤ 128 ^ 8 * 127 := Nat.mul_le_mul e1 (by omega)
    omega
  · obtain rfl : k = 9 := by omega
    have := h3 rfl
    have e2 : (128 : Nat) ^ 9 = 9223372036854775808 := rfl
    rw [e2] at h1 ⊢
    have : 9223372036854775808 * c ≤ 9223372036854775808 * 1 := Nat.mul_le_mul_left _ this
    omega
set_option maxRecDepth 100000 in
theorem andnot128 (b : Nat) (hb : b < 256) : bits .andNot .u8 (b : Int) 128 = ((b % 128 : Nat) : Int) := by
  rw [show (128 : Int) = ((128 : Nat) : Int) from rfl, u8_andNot_nat b 128 hb (by omega)]
  have h : ∀ y < 256, y &&& (255 - 128) = y % 128 := by decide
  rw [h b hb]
theorem or_high (u c k : Nat) (hu : u < 128 ^ k) (hk : k ≤ 9) (hc : c < 128) (h9 : k = 9 → c ≤ 1) : bits .or .u64 (u : Int) ((c * 128 ^ k : Nat) : Int) = ((u + 128 ^ k * c : Nat) : Int) := by
  have hp : c * 128 ^ k < 18446744073709551616 := by
    rcases Nat.lt_or_ge k 9 with h | h
    · have h1 : 128 ^ k ≤ 128 ^ 8 := Nat.pow_le_pow_right (by omega) (by omega)
      have h2 : (128 : Nat) ^ 8 = 72057594037927936 := rfl
      have h3 : c * 128 ^ k ≤ 127 * 128 ^ 8 := Nat.mul_le_mul (by omega) h1
      omega
    · obtain rfl : k = 9 := by omega
      have := h9 rfl
      have h2 : (128 : Nat) ^ 9 = 9223372036854775808 := rfl
      rw [h2]
      omega
  have hu' : u < 18446744073709551616 := by
    have h1 : 128 ^ k ≤ 128 ^ 9 := Nat.pow_le_pow_right (by omega) hk
    have h2 : (128 : Nat) ^ 9 = 9223372036854775808 := rfl
    omega
  rw [u64_or_nat _ _ hu' hp]
  congr 1
  have e : (128 : Nat) ^ k = 2 ^ (7 * k) := by rw [Nat.pow_mul]
  rw [e] at hu ⊢
  have := Nat.two_pow_add_eq_or_of_lt hu c
  rw [Nat.or_comm, Nat.mul_comm c, ← this]
  omega
theorem or_high' (u c k : Nat) (hu : u < 128 ^ k) (hk : k ≤ 9) (hc : c < 128) (h9 : k = 9 → c ≤ 1) : bits .or .u64 (u : Int) (IntKind.u64.wrap (IntKind.u64.wrap (c : Int) * 2 ^ (k * 7))) = ((u + 128 ^ k * c : Nat) : Int) := by
  rw [← or_high u c k hu hk hc h9]
  congr 1
  have hp : c * 128 ^ k < 18446744073709551616 := by
    rcases Nat.lt_or_ge k 9 with h | h
    · have h1 : 128 ^ k ≤ 128 ^ 8 := Nat.pow_le_pow_right (by omega) (by omega)
      have h2 : (128 : Nat) ^ 8 = 72057594037927936 := rfl
      have h3 : c * 128 ^ k ≤ 127 * 128 ^ 8 := Nat.mul_le_mul (by omega) h1
      omega
    · obtain rfl : k = 9 := by omega
      have := h9 rfl
      have h2 : (128 : Nat) ^ 9 = 9223372036854775808 := rfl
      rw [h2]
      omega
  have e : (128 : Nat) ^ k = 2 ^ (k * 7) := by rw [Nat.mul_comm, Nat.pow_mul]
  have e1 : IntKind.u64.wrap (c : Int) = (c : Int) := by rw [IntKind.wrap_u64]; omega
  rw [e] at hp ⊢
  have e2 : (c : Int) * 2 ^ (k * 7) = ((c * 2 ^ (k * 7) : Nat) : Int) := by rw [Int.natCast_mul, Int.natCast_pow]; rfl
  rw [e1, e2, IntKind.wrap_u64]
  omega
theorem and_one (x : Nat) (hx : x < 18446744073709551616) : bits .and .u64 (x : Int) 1 = ((x % 2 : Nat) : Int) := by
  rw [show (1 : Int) = ((1 : Nat) : Int) from rfl, u64_and_nat x 1 hx (by omega), Nat.and_one_is_mod]
theorem xor_minus (a : Int) (h0 : 0 ≤ a) (h1 : a < 9223372036854775808) : bits .xor .i64 a (-1) = -a - 1 := by
  obtain ⟨n, rfl⟩ : ∃ n : Nat, a = n := ⟨a.toNat, by omega⟩
  show IntKind.i64.wrap ((BitVec.ofInt 64 (n : Int) ^^^ BitVec.ofInt 64 (-1)).toNat : Int) = _
  rw [BitVec.toNat_xor, ofInt_u64 n (by omega), show (BitVec.ofInt 64 (-1)).toNat = 18446744073709551615 from rfl, xor_ones n (by omega), IntKind.wrap_i64]
  omega
theorem xor_zero (a : Int) (h0 : 0 ≤ a) (h1 : a < 9223372036854775808) : bits .xor .i64 a 0 = a := by
  obtain ⟨n, rfl⟩ : ∃ n : Nat, a = n := ⟨a.toNat, by omega⟩
  show IntKind.i64.wrap ((BitVec.ofInt 64 (n : Int) ^^^ BitVec.ofInt 64 0).toNat : Int) = _
  rw [BitVec.toNat_xor, ofInt_u64 n (by omega), show (BitVec.ofInt 64 0).toNat = 0 from rfl, Nat.xor_zero, IntKind.wrap_i64]
  omega

set_option maxHeartbeats 1000000 in
set_option maxRecDepth 100000 in
theorem var_no (h : At w p l) (hl : l.length ≤ 1000000000) (hf : ¬ (lead l < l.length ∧ lead l < 10)) :
    Calls Try.prog 18 #[.pointer (some ⟨p, 0, none⟩)] w (Fails p w (varE l)) := by
  have V := Lib.hid (varLen_any h hl)
  unfold varE
  rw [dif_neg hf]
  by_cases h10 : 10 ≤ l.length
  · rw [if_pos h10]
    go_enter Try.func18, Try.ntmps18
    go_wp2_with fail
    refine (V.out).mono ?_
    intro e w1 hv
    obtain ⟨rfl, rfl⟩ := hv.2.1 hf h10
    go_wp2_with fail
    exact ⟨rfl, rfl, Touch.refl _ _⟩
  · rw [if_neg h10]
    have T := Lib.hid (take_short h (l.length + 1) (by omega) hl)
    rw [show ((l.length + 1 : Nat) : Int) = (l.length : Int) + 1 by omega] at T
    go_enter Try.func18, Try.ntmps18
    go_wp2_with fail
    refine (V.out).mono ?_
    intro e w1 hv
    obtain ⟨rfl, rfl⟩ := hv.2.2 hf (by omega)
    clear hv
    go_wp2_with fail
    refine (T.out).mono ?_
    rintro e w2 ⟨rfl, t2⟩
    go_wp2_with fail
    exact ⟨rfl, rfl, t2⟩

set_option maxHeartbeats 1000000 in
set_option maxRecDepth 100000 in
theorem var_core (k : Nat) (hk : k < 10) (G R : List UInt8) (hG : G.length = k + 1) (hlow : (G[k]'(by omega)).toNat < 128)
    (V : Calls Try.prog 33 #[.pointer (some ⟨p, 0, none⟩)] w fun e w' => e = .returned (.int .i64 ((k : Int) + 1)) ∧ w' = w)
    (T : Calls Try.prog 21 #[.pointer (some ⟨p, 0, none⟩), .int .i64 ((k : Int) + 1)] w (Reads p w (.string (S G)) R)) :
    Calls Try.prog 18 #[.pointer (some ⟨p, 0, none⟩)] w fun e w' =>
      (((k = 9 ∧ 1 < (G[k]'(by omega)).toNat) ∨ (0 < k ∧ (G[k]'(by omega)).toNat = 0)) → Fails p w 6 e w') ∧
      (¬ ((k = 9 ∧ 1 < (G[k]'(by omega)).toNat) ∨ (0 < k ∧ (G[k]'(by omega)).toNat = 0)) → Reads p w (.int .i64 (unzz (varU G))) R e w') := by
  have HV := Lib.hid V
  have HT := Lib.hid T
  have N := Lib.hid (need_yes (.pointer (some ⟨p, 0, none⟩)) 6)
  have M := Lib.hid (need_no p 6 (by decide))
  have hz : (S G).size = k + 1 := by rw [S_size]; exact hG
  have hx := fun i hi w => ix_str G i hi w
  have HX := Lib.hid hx
  have hxk := hx k (by omega)
  have HG := Lib.hid hG
  have HU : Hid (∀ i : Nat, i < k + 1 → ∀ hi : i < G.length, varU (G.take (i + 1)) = varU (G.take i) + 128 ^ i * ((G[i]).toNat % 128) ∧ varU (G.take i) < 128 ^ i) := Lib.hid (fun i hi hi' => by
    rw [take_snoc G i hi', varU_append]
    have hl : (G.take i).length = i := by rw [List.length_take]; omega
    have := varU_lt (G.take i)
    rw [hl] at this ⊢
    exact ⟨by simp [varU], this⟩)
  have HU2 : Hid (varU (G.take (k + 1)) = varU G) := Lib.hid (by rw [List.take_of_length_le (by omega)])
  have HL := Lib.hid (show ∀ hi : k < G.length, (G[k]'hi).toNat < 128 from fun _ => hlow)
  clear V T hx
  generalize hb : (G[k]'(by omega)).toNat = b at *
  have f1 : IntKind.i64.wrap ((k : Int) + 1 - 1) = (k : Int) := by rw [IntKind.wrap_i64]; omega
  by_cases c1 : k = 9 ∧ 1 < b
  · have d1 : decide ((k : Int) + 1 < 10) = false := by simp; omega
    have d2 : decide ((b : Int) ≤ 1) = false := by simp; omega
    have C1 := Lib.hid c1
    clear c1 hb hlow HL
    go_enter Try.func18, Try.ntmps18
    go_wp2_with fail
    refine (HV.out).mono ?_
    rintro e w ⟨rfl, rfl⟩
    go_wp2_with fail
    refine (HT.out).mono ?_
    rintro e w1 ⟨rfl, a1, t1⟩
    have T1 := Lib.hid t1
    clear a1 t1
    go_wp2_with fail
    refine (M.out _).mono ?_
    rintro e w1 ⟨rfl, rfl⟩
    go_wp2_with fail
    exact ⟨rfl, fun _ => ⟨rfl, T1.out⟩, fun h => absurd (Or.inl C1.out) h⟩
  · by_cases c2 : 0 < k ∧ b = 0
    · have e1 : ((k : Int) + 1 == 1) = false := by simp; omega
      have e2 : decide (0 < b) = false := by simp; omega
      have d2 : decide ((b : Int) ≤ 1) = true := by simp; omega
      have C2 := Lib.hid c2
      clear c1 c2 hb hlow HL
      rcases (show decide ((k : Int) + 1 < 10) = true ∨ decide ((k : Int) + 1 < 10) = false by cases decide ((k : Int) + 1 < 10) <;> simp) with d1 | d1
      all_goals
        go_enter Try.func18, Try.ntmps18
        go_wp2_with fail
        refine (HV.out).mono ?_
        rintro e w ⟨rfl, rfl⟩
        go_wp2_with fail
        refine (HT.out).mono ?_
        rintro e w1 ⟨rfl, a1, t1⟩
        have T1 := Lib.hid t1
        clear a1 t1
        go_wp2_with fail
        refine (N.out _).mono ?_
        rintro e w1 ⟨rfl, rfl⟩
        go_wp2_with fail
        refine (M.out _).mono ?_
        rintro e w1 ⟨rfl, rfl⟩
        go_wp2_with fail
        exact ⟨rfl, fun _ => ⟨rfl, T1.out⟩, fun h => absurd (Or.inr C2.out) h⟩
    · have C0 := Lib.hid (show ¬ ((k = 9 ∧ 1 < b) ∨ (0 < k ∧ b = 0)) from fun h => h.elim c1 c2)
      have C9 := Lib.hid (show ∀ i : Nat, ∀ hi : i < G.length, i = 9 → (G[i]).toNat % 128 ≤ 1 from fun i hi e => by
        have : i = k := by omega
        subst this
        rw [hb]
        omega)
      have ways : (decide ((k : Int) + 1 < 10) = true ∧ ((k : Int) + 1 == 1) = true) ∨ (decide ((k : Int) + 1 < 10) = true ∧ ((k : Int) + 1 == 1) = false ∧ decide (0 < b) = true) ∨
          (decide ((k : Int) + 1 < 10) = false ∧ decide ((b : Int) ≤ 1) = true ∧ ((k : Int) + 1 == 1) = false ∧ decide (0 < b) = true) := by
        simp only [decide_eq_true_eq, decide_eq_false_iff_not, beq_iff_eq, beq_eq_false_iff_ne, ne_eq]
        omega
      clear c1 c2 hlow HL
      rcases ways with ⟨d1, e1⟩ | ⟨d1, e1, e2⟩ | ⟨d1, d2, e1, e2⟩
      all_goals
        clear hb
        go_enter Try.func18, Try.ntmps18
        go_wp2_with fail
        refine (HV.out).mono ?_
        rintro e w ⟨rfl, rfl⟩
        go_wp2_with fail
        refine (HT.out).mono ?_
        rintro e w1 ⟨rfl, a1, t1⟩
        have T1 := Lib.hid t1
        have A1 := Lib.hid a1
        clear a1 t1
        go_wp2_with fail
        refine (N.out _).mono ?_
        rintro e w1 ⟨rfl, rfl⟩
        go_wp2_with fail
        refine (N.out _).mono ?_
        rintro e w1 ⟨rfl, rfl⟩
        go_wp2_with fail
        go_loopw [36, 5] (fun y u wr => ∃ i : Nat, i ≤ k + 1 ∧ y = .int .i64 i ∧ u = .int .u64 (varU (G.take i) : Nat) ∧ wr = w1) (fun y _ _ => k + 1 - (intOf y).toNat)
        case atStart => exact ⟨0, by omega, rfl, by simp [varU], rfl⟩
        case round =>
          obtain ⟨i, hi, rfl, rfl, rfl⟩ := hrel
          by_cases hlt : i < k + 1
          · have hiG : i < G.length := by rw [HG.out]; exact hlt
            have hx := HX.out i hiG
            have hb8 := (G[i]).toNat_lt
            have an := andnot128 (G[i]).toNat (by omega)
            obtain ⟨hu1, hu2⟩ := HU.out i hlt hiG
            have hor := or_high' (varU (G.take i)) ((G[i]).toNat % 128) i hu2 (by omega) (Nat.mod_lt _ (by omega)) (C9.out i hiG)
            rw [← hu1] at hor
            have HU1 := Lib.hid hu1
            clear hu1 hu2
            generalize hU' : varU (G.take (i + 1)) = U' at *
            have HU' := Lib.hid hU'
            clear hU'
            generalize varU (G.take i) = U at *
            generalize (G[i]).toNat % 128 = c at *
            generalize (G[i]).toNat = b8 at *
            have k7 : (i : Int) * 7 < 64 := by omega
            go_wp2_with fail
            refine ⟨⟨i + 1, by omega, by go_num, by rw [HU'.out], trivial⟩, by simp [intOf]; omega⟩
          · obtain rfl : i = k + 1 := by omega
            have hX := Lib.hid (show varU G < 18446744073709551616 from by
              have := varU_top G k (by omega) (HG.out) (C9.out)
              exact this)
            rw [HU2.out]
            generalize hVX : varU G = X at *
            have HVX := Lib.hid hVX
            have hX' := hX.out
            clear hVX
            have ew : wrap64 ((X : Int) / 2) = (X : Int) / 2 := by unfold wrap64; omega
            rcases (show X % 2 = 0 ∨ X % 2 = 1 by omega) with hp | hp
            · have q1 := and_one X hX.out
              rw [hp] at q1
              have q2 := xor_zero ((X : Int) / 2) (by omega) (by omega)
              have q3 : unzz X = (X : Int) / 2 := by unfold unzz; rw [if_pos hp]; omega
              have Q3 := Lib.hid q3
              clear hp q3
              go_wp2_with fail
              go_ret
              exact ⟨fun h => absurd h C0.out, fun _ => ⟨by rw [HVX.out, Q3.out]; rfl, A1.out, T1.out⟩⟩
            · have q1 := and_one X hX.out
              rw [hp] at q1
              have q2 := xor_minus ((X : Int) / 2) (by omega) (by omega)
              have q3 : unzz X = -((X : Int) / 2) - 1 := by unfold unzz; rw [if_neg (by omega)]; omega
              have Q3 := Lib.hid q3
              clear hp q3
              go_wp2_with fail
              go_ret
              exact ⟨fun h => absurd h C0.out, fun _ => ⟨by rw [HVX.out, Q3.out]; rfl, A1.out, T1.out⟩⟩
theorem var_any (h : At w p l) (hl : l.length ≤ 1000000000) :
    Calls Try.prog 18 #[.pointer (some ⟨p, 0, none⟩)] w fun e w' =>
      (varE l = 0 → Reads p w (.int .i64 (varV l)) (l.drop (lead l + 1)) e w') ∧ (varE l ≠ 0 → Fails p w (varE l) e w') := by
  by_cases hf : lead l < l.length ∧ lead l < 10
  · have hgl : (l.take (lead l + 1)).length = lead l + 1 := by rw [List.length_take]; omega
    have hg : (l.take (lead l + 1))[lead l]'(by omega) = l[lead l]'hf.1 := by rw [List.getElem_take]
    have T := take_ok h (lead l + 1) (by omega) hl
    rw [show ((lead l + 1 : Nat) : Int) = (lead l : Int) + 1 by omega] at T
    have c := var_core (w := w) (p := p) (lead l) hf.2 (l.take (lead l + 1)) (l.drop (lead l + 1)) hgl (by rw [hg]; exact lead_low l hf.1) ((varLen_any h hl).mono fun e w' q => q.1 hf) T
    refine c.mono ?_
    intro e w' q
    rw [hg] at q
    have hE : varE l = if (lead l = 9 ∧ 1 < (l[lead l]'hf.1).toNat) ∨ (0 < lead l ∧ (l[lead l]'hf.1).toNat = 0) then 6 else 0 := by unfold varE; rw [dif_pos hf]
    by_cases hc : (lead l = 9 ∧ 1 < (l[lead l]'hf.1).toNat) ∨ (0 < lead l ∧ (l[lead l]'hf.1).toNat = 0)
    · rw [if_pos hc] at hE
      rw [hE]
      exact ⟨fun h => by omega, fun _ => q.1 hc⟩
    · rw [if_neg hc] at hE
      rw [hE]
      exact ⟨fun _ => q.2 hc, fun h => absurd rfl h⟩
  · refine (var_no h hl hf).mono ?_
    intro e w' q
    refine ⟨fun h0 => ?_, fun _ => q⟩
    exfalso
    unfold varE at h0
    rw [dif_neg hf] at h0
    split at h0 <;> omega
end
end Go.Proofs.Ytpmnnaghadpnnaa
