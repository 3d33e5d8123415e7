/-
  octets' Reader (layer 9): the numbers of two, four and eight bytes.
-/
import Derived.Test.YtpmnnaghadpnnaaReader
namespace Go.Proofs.Ytpmnnaghadpnnaa
open Go.ChangeShapes Go.WideShapes Go.ChangeAt Go.RowKit Go.Deep
set_option linter.unusedVariables false

/-- The number of bytes, the most significant one first. -/
def num (l : List UInt8) : Nat := l.foldl (fun u b => u * 256 + b.toNat) 0
theorem num_snoc (l : List UInt8) (b : UInt8) : num (l ++ [b]) = num l * 256 + b.toNat := by simp [num]
theorem num_lt' (l : List UInt8) : ∀ u, l.foldl (fun u b => u * 256 + b.toNat) u < (u + 1) * 256 ^ l.length := by
  induction l with
  | nil => intro u; simp
  | cons b l ih =>
    intro u
    have hb := b.toNat_lt
    simp only [List.foldl_cons, List.length_cons]
    refine Nat.lt_of_lt_of_le (ih _) ?_
    rw [Nat.pow_succ, Nat.mul_comm (256 ^ l.length) 256, ← Nat.mul_assoc]
    exact Nat.mul_le_mul_right _ (by omega)
theorem num_lt (l : List UInt8) : num l < 256 ^ l.length := by simpa [num] using num_lt' l 0
theorem num_be (u n : Nat) (h : u < 256 ^ n) : num (be u n) = u := by
  induction n generalizing u with
  | zero =>
    simp at h
    simp [be, num, h]
  | succ n ih =>
    rw [be_next, num_snoc, ih (u / 256) (Nat.div_lt_of_lt_mul (by rw [Nat.pow_succ, Nat.mul_comm] at h; exact h))]
    simp
    omega
theorem take_snoc (l : List UInt8) (k : Nat) (hk : k < l.length) : l.take (k + 1) = l.take k ++ [l[k]] := by
  rw [List.take_add_one, List.getElem?_eq_getElem hk]
  rfl
theorem or_low (N b : Nat) (hN : N < 72057594037927936) (hb : b < 256) : bits .or .u64 ((N : Int) * 256) (b : Int) = ((N * 256 + b : Nat) : Int) := by
  rw [show (N : Int) * 256 = ((N * 256 : Nat) : Int) by omega, u64_or_nat _ _ (by omega) (by omega)]
  congr 1
  have := Nat.two_pow_add_eq_or_of_lt (i := 8) hb N
  rw [Nat.mul_comm N 256]
  exact this.symm

section
variable {w : World} {p : Nat} {l : List UInt8}
set_option maxHeartbeats 1000000 in
set_option maxRecDepth 100000 in
theorem join_any (h : At w p l) (n : Nat) (hn : n ≤ 8) (hl : l.length ≤ 1000000000) :
    Calls Try.prog 31 #[.func (.func 15) #[.pointer (some ⟨p, 0, none⟩)] #[], .int .i64 (n : Int)] w fun e w' =>
      (n ≤ l.length → Reads p w (.int .u64 (num (l.take n) : Nat)) (l.drop n) e w') ∧ (l.length < n → Fails p w 5 e w') := by
  have H := Lib.hid h
  clear h
  go_enter Try.func31, Try.ntmps31
  go_wp2_with fail
  go_loopw [5, 7] (fun u y wr => ∃ k : Nat, k ≤ n ∧ k ≤ l.length ∧ y = .int .i64 k ∧ u = .int .u64 ((num (l.take k) : Nat) : Int) ∧ At wr p (l.drop k) ∧ Touch [p] w wr) (fun _ y _ => n - (intOf y).toNat)
  case atStart => exact ⟨0, Nat.zero_le _, Nat.zero_le _, rfl, by simp [num], by simpa using H.out, Touch.refl _ _⟩
  case round =>
    obtain ⟨k, hk, hkl, rfl, rfl, ha, ht⟩ := hrel
    have HT := Lib.hid ht
    by_cases hlt : k < n
    · by_cases hll : k < l.length
      · have hd : l.drop k = l[k] :: l.drop (k + 1) := List.drop_eq_getElem_cons hll
        rw [hd] at ha
        have U := Lib.hid (u8_ok ha (by rw [List.length_drop]; omega))
        have hb := (l[k]).toNat_lt
        have hN : num (l.take k) < 72057594037927936 := by
          refine Nat.lt_of_lt_of_le (num_lt _) ?_
          rw [List.length_take, Nat.min_eq_left hkl]
          exact Nat.le_trans (Nat.pow_le_pow_right (by omega) (show k ≤ 7 by omega)) (by decide)
        have f2 := or_low _ _ hN hb
        rw [← num_snoc, ← take_snoc l k hll] at f2
        clear ha ht hd
        generalize num (l.take k) = N at *
        generalize hN' : num (l.take (k + 1)) = N' at *
        generalize (l[k]).toNat = b at *
        have f1 : IntKind.u64.wrap ((N : Int) * 256) = (N : Int) * 256 := by rw [IntKind.wrap_u64]; omega
        have f3 : IntKind.u64.wrap (b : Int) = (b : Int) := by rw [IntKind.wrap_u64]; omega
        go_wp2_with fail
        refine (U.out).mono ?_
        rintro e w1 ⟨rfl, a1, t1⟩
        have F := Lib.hid (And.intro a1 (HT.out.trans t1 (fun b hb => Or.inl hb)))
        clear a1 t1
        go_wp2_with fail
        go_roundw
        case rel => exact ⟨k + 1, by omega, by omega, by go_num, by rw [hN'], F.out.1, F.out.2⟩
        case measure => simp [intOf]; omega
      · obtain rfl : k = l.length := by omega
        rw [List.drop_length] at ha
        have U := Lib.hid (u8_short ha)
        clear ha ht
        generalize num (l.take l.length) = N at *
        go_wp2_with fail
        refine (U.out).mono ?_
        rintro e w1 ⟨rfl, t1⟩
        exact ⟨rfl, fun h => by omega, fun _ => ⟨rfl, HT.out.trans t1 (fun b hb => Or.inl hb)⟩⟩
    · obtain rfl : k = n := by omega
      have HA := Lib.hid ha
      clear ha ht
      go_wp2_with fail
      go_ret
      exact ⟨fun _ => ⟨rfl, HA.out, HT.out⟩, fun h => by omega⟩

set_option maxRecDepth 100000 in
theorem u16_any (h : At w p l) (hl : l.length ≤ 1000000000) :
    Calls Try.prog 12 #[.pointer (some ⟨p, 0, none⟩)] w fun e w' =>
      (2 ≤ l.length → Reads p w (.int .i64 (num (l.take 2) : Nat)) (l.drop 2) e w') ∧ (l.length < 2 → Fails p w 5 e w') := by
  have hmf : ∀ (fn : Fn) (first cap : Array Value) (w : World), (Instr.makeFunc fn first cap).run Try.prog w = .ok (.func fn first cap) w := fun _ _ _ _ => rfl
  have J := Lib.hid (join_any h 2 (by omega) hl)
  have hN : num (l.take 2) < 18446744073709551616 := Nat.lt_of_lt_of_le (num_lt _) (Nat.le_trans (Nat.pow_le_pow_right (by omega) (List.length_take_le 2 l)) (by decide))
  have hN : num (l.take 2) < 65536 := Nat.lt_of_lt_of_le (num_lt _) (Nat.le_trans (Nat.pow_le_pow_right (by omega) (List.length_take_le 2 l)) (by decide))
  clear h
  generalize num (l.take 2) = N at *
  go_enter Try.func12, Try.ntmps12
  go_wp2_with fail
  refine (J.out).mono ?_
  intro e w1 hj
  by_cases hc : 2 ≤ l.length
  · obtain ⟨rfl, a1, t1⟩ := hj.1 hc
    have F := Lib.hid (And.intro a1 t1)
    clear a1 t1 hj
    go_wp2_with fail
    go_ret
    exact ⟨fun _ => ⟨ret_int (by first | rfl | omega), F.out⟩, fun h => by omega⟩
  · obtain ⟨rfl, t1⟩ := hj.2 (by omega)
    exact ⟨rfl, fun h => by omega, fun _ => ⟨rfl, t1⟩⟩
set_option maxRecDepth 100000 in
theorem u32_any (h : At w p l) (hl : l.length ≤ 1000000000) :
    Calls Try.prog 16 #[.pointer (some ⟨p, 0, none⟩)] w fun e w' =>
      (4 ≤ l.length → Reads p w (.int .i64 (num (l.take 4) : Nat)) (l.drop 4) e w') ∧ (l.length < 4 → Fails p w 5 e w') := by
  have hmf : ∀ (fn : Fn) (first cap : Array Value) (w : World), (Instr.makeFunc fn first cap).run Try.prog w = .ok (.func fn first cap) w := fun _ _ _ _ => rfl
  have J := Lib.hid (join_any h 4 (by omega) hl)
  have hN : num (l.take 4) < 4294967296 := Nat.lt_of_lt_of_le (num_lt _) (Nat.le_trans (Nat.pow_le_pow_right (by omega) (List.length_take_le 4 l)) (by decide))
  clear h
  generalize num (l.take 4) = N at *
  go_enter Try.func16, Try.ntmps16
  go_wp2_with fail
  refine (J.out).mono ?_
  intro e w1 hj
  by_cases hc : 4 ≤ l.length
  · obtain ⟨rfl, a1, t1⟩ := hj.1 hc
    have F := Lib.hid (And.intro a1 t1)
    clear a1 t1 hj
    go_wp2_with fail
    go_ret
    exact ⟨fun _ => ⟨ret_int (by first | rfl | omega), F.out⟩, fun h => by omega⟩
  · obtain ⟨rfl, t1⟩ := hj.2 (by omega)
    exact ⟨rfl, fun h => by omega, fun _ => ⟨rfl, t1⟩⟩
set_option maxRecDepth 100000 in
theorem u64_any (h : At w p l) (hl : l.length ≤ 1000000000) :
    Calls Try.prog 17 #[.pointer (some ⟨p, 0, none⟩)] w fun e w' =>
      (8 ≤ l.length → Reads p w (.int .u64 (num (l.take 8) : Nat)) (l.drop 8) e w') ∧ (l.length < 8 → Fails p w 5 e w') := by
  have hmf : ∀ (fn : Fn) (first cap : Array Value) (w : World), (Instr.makeFunc fn first cap).run Try.prog w = .ok (.func fn first cap) w := fun _ _ _ _ => rfl
  have J := Lib.hid (join_any h 8 (by omega) hl)
  clear h
  generalize num (l.take 8) = N at *
  go_enter Try.func17, Try.ntmps17
  go_wp2_with fail
  refine (J.out).mono ?_
  intro e w1 hj
  by_cases hc : 8 ≤ l.length
  · obtain ⟨rfl, a1, t1⟩ := hj.1 hc
    have F := Lib.hid (And.intro a1 t1)
    clear a1 t1 hj
    go_wp2_with fail
    go_ret
    exact ⟨fun _ => ⟨rfl, F.out⟩, fun h => by omega⟩
  · obtain ⟨rfl, t1⟩ := hj.2 (by omega)
    exact ⟨rfl, fun h => by omega, fun _ => ⟨rfl, t1⟩⟩
end
end Go.Proofs.Ytpmnnaghadpnnaa
