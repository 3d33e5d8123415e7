/-
  Variable-length integers: what is written is read, and what is read was written so; octets' Float, Bool, End (layer 9).
-/
import Derived.Test.YtpmnnaghadpnnaaVar
import Derived.Test.YtpmnnaghadpnnaaOctWrite
namespace Go.Proofs.Ytpmnnaghadpnnaa
open Go.ChangeShapes Go.WideShapes Go.ChangeAt Go.RowKit Go.Deep
set_option linter.unusedVariables false
set_option linter.unusedSimpArgs false

theorem unzz_zz (n : Int) : unzz (zz n) = n := by
  unfold unzz zz
  by_cases h : 0 ≤ n
  · rw [if_pos h]
    split <;> omega
  · rw [if_neg h]
    split <;> omega
theorem zz_unzz (u : Nat) : zz (unzz u) = u := by
  unfold unzz zz
  by_cases h : u % 2 = 0
  · rw [if_pos h, if_pos (by omega)]; omega
  · rw [if_neg h, if_neg (by omega)]; omega
theorem varB_pos (u : Nat) : 0 < (varB u).length := by
  by_cases h : u < 128
  · rw [varB_small h]; simp
  · rw [varB_large h]; simp
theorem varU_varB (u : Nat) : varU (varB u) = u := by
  induction u using Nat.strongRecOn with
  | _ u ih =>
    by_cases h : u < 128
    · rw [varB_small h]
      simp [varU]
      omega
    · rw [varB_large h]
      simp only [varU, ih (u / 128) (by omega)]
      simp
      omega
theorem lead_varB (u : Nat) (m : List UInt8) : lead (varB u ++ m) + 1 = (varB u).length := by
  induction u using Nat.strongRecOn with
  | _ u ih =>
    by_cases h : u < 128
    · rw [varB_small h]
      simp only [List.cons_append, List.nil_append, lead, List.length_cons, List.length_nil]
      rw [if_neg (by simp; omega)]
    · rw [varB_large h]
      have := ih (u / 128) (by omega)
      simp only [List.cons_append, lead, List.length_cons]
      rw [if_pos (by simp; omega), this]
/-- The last byte of a number's bytes. -/
theorem varB_last (u : Nat) (m : List UInt8) (k : Nat) (hk : k + 1 = (varB u).length) (hh : k < (varB u ++ m).length) : ((varB u ++ m)[k]).toNat = u / 128 ^ k ∧ (0 < k → 0 < u / 128 ^ k) := by
  induction u using Nat.strongRecOn generalizing k with
  | _ u ih =>
    by_cases h : u < 128
    · simp only [varB_small h] at hk ⊢
      obtain rfl : k = 0 := by simpa using hk
      simp
      omega
    · simp only [varB_large h] at hk ⊢
      simp only [List.length_cons] at hk
      have hp := varB_pos (u / 128)
      obtain ⟨j, rfl⟩ : ∃ j, k = j + 1 := ⟨k - 1, by omega⟩
      have hlen : j < (varB (u / 128) ++ m).length := by simp only [List.length_append]; omega
      have := ih (u / 128) (by omega) j (by omega) hlen
      simp only [List.cons_append, List.getElem_cons_succ]
      have e : u / 128 ^ (j + 1) = u / 128 / 128 ^ j := by rw [Nat.pow_succ, Nat.mul_comm, Nat.div_div_eq_div_mul]
      rw [e]
      refine ⟨this.1, fun _ => ?_⟩
      rcases Nat.eq_zero_or_pos j with rfl | hj
      · simp; omega
      · exact this.2 hj
theorem var_read (u : Nat) (hu : u < 18446744073709551616) (m : List UInt8) : varE (varB u ++ m) = 0 ∧ varV (varB u ++ m) = unzz u ∧ (varB u ++ m).drop (lead (varB u ++ m) + 1) = m := by
  have h1 := lead_varB u m
  have h2 := varB_length u 9 (Nat.lt_of_lt_of_le hu (by decide))
  refine ⟨?_, ?_, ?_⟩
  · have hf : lead (varB u ++ m) < (varB u ++ m).length ∧ lead (varB u ++ m) < 10 := ⟨by simp only [List.length_append]; omega, by omega⟩
    obtain ⟨q1, q2⟩ := varB_last u m (lead (varB u ++ m)) h1 hf.1
    unfold varE
    rw [dif_pos hf, if_neg]
    rw [q1]
    rintro (⟨e9, hb⟩ | ⟨h0, hb⟩)
    · rw [e9] at hb
      have : u / 128 ^ 9 ≤ 1 := by
        rw [show (128 : Nat) ^ 9 = 9223372036854775808 from rfl]
        omega
      omega
    · have := q2 h0
      omega
  · unfold varV
    rw [h1, List.take_left, varU_varB]
  · rw [h1, List.drop_left]
theorem varU_pos : ∀ (s : List UInt8) (h : s ≠ []), (s.getLast h).toNat % 128 ≠ 0 → 0 < varU s
  | [b], _, hb => by simp [varU] at *; omega
  | b :: c :: s, _, hb => by
    have := varU_pos (c :: s) (by simp) (by simpa using hb)
    have e : varU (b :: c :: s) = b.toNat % 128 + 128 * varU (c :: s) := rfl
    omega
theorem varB_varU : ∀ (s : List UInt8) (h : s ≠ []), lead s + 1 = s.length → (1 < s.length → (s.getLast h).toNat ≠ 0) → varB (varU s) = s
  | [b], _, h1, _ => by
    have hb : ¬ 128 ≤ b.toNat := fun hb => by simp [lead, hb] at h1
    have e : varU [b] = b.toNat := by simp [varU]; omega
    rw [e, varB_small (by omega)]
    simp
  | b :: c :: s, _, h1, h2 => by
    have hb : 128 ≤ b.toNat := by
      rcases Nat.lt_or_ge b.toNat 128 with h | h
      · simp only [lead] at h1
        rw [if_neg (by omega)] at h1
        simp at h1
      · exact h
    have hl : lead (b :: c :: s) = lead (c :: s) + 1 := by
      show (if 128 ≤ b.toNat then _ else _) = _
      rw [if_pos hb]
    have h3 : lead (c :: s) + 1 = (c :: s).length := by rw [hl] at h1; simpa using h1
    have hlast : ((c :: s).getLast (by simp)).toNat ≠ 0 := by simpa using h2 (by simp)
    have hlow : ((c :: s).getLast (by simp)).toNat < 128 := by
      have := lead_low (c :: s) (by omega)
      rw [List.getLast_eq_getElem]
      have e : (c :: s).length - 1 = lead (c :: s) := by omega
      simp only [e]
      exact this
    have ih := varB_varU (c :: s) (by simp) h3 (fun _ => hlast)
    have hp := varU_pos (c :: s) (by simp) (by omega)
    have e : varU (b :: c :: s) = b.toNat % 128 + 128 * varU (c :: s) := rfl
    have hm : b.toNat % 128 < 128 := Nat.mod_lt _ (by omega)
    have h8 := b.toNat_lt
    rw [e, varB_large (by omega), show (b.toNat % 128 + 128 * varU (c :: s)) / 128 = varU (c :: s) by omega, ih, show (b.toNat % 128 + 128 * varU (c :: s)) % 128 + 128 = b.toNat by omega]
    simp
theorem var_back (s : List UInt8) (hE : varE s = 0) (hR : s.drop (lead s + 1) = []) : varB (zz (varV s)) = s := by
  have hf : lead s < s.length ∧ lead s < 10 := by
    by_cases hf : lead s < s.length ∧ lead s < 10
    · exact hf
    · unfold varE at hE
      rw [dif_neg hf] at hE
      split at hE <;> omega
  have hlen : s.length ≤ lead s + 1 := by simpa using hR
  have hne : s ≠ [] := by intro e; subst e; simp at hf
  unfold varV
  rw [zz_unzz, List.take_of_length_le hlen]
  refine varB_varU s hne (by omega) (fun h1 => ?_)
  unfold varE at hE
  rw [dif_pos hf] at hE
  by_cases hc : (lead s = 9 ∧ 1 < (s[lead s]'hf.1).toNat) ∨ (0 < lead s ∧ (s[lead s]'hf.1).toNat = 0)
  · rw [if_pos hc] at hE; omega
  · intro e0
    apply hc
    right
    refine ⟨by omega, ?_⟩
    rw [List.getLast_eq_getElem] at e0
    have e : s.length - 1 = lead s := by omega
    simp only [e] at e0
    exact e0
theorem varV_fit (s : List UInt8) (hE : varE s = 0) : -9223372036854775808 ≤ varV s ∧ varV s ≤ 9223372036854775807 := by
  have hf : lead s < s.length ∧ lead s < 10 := by
    by_cases hf : lead s < s.length ∧ lead s < 10
    · exact hf
    · unfold varE at hE
      rw [dif_neg hf] at hE
      split at hE <;> omega
  have hc : ¬ ((lead s = 9 ∧ 1 < (s[lead s]'hf.1).toNat) ∨ (0 < lead s ∧ (s[lead s]'hf.1).toNat = 0)) := by
    intro hc
    unfold varE at hE
    rw [dif_pos hf, if_pos hc] at hE
    omega
  have hgl : (s.take (lead s + 1)).length = lead s + 1 := by rw [List.length_take]; omega
  have := varU_top (s.take (lead s + 1)) (lead s) hf.2 hgl (fun i hi e => by
    have : lead s = 9 := by omega
    have e2 : (s.take (lead s + 1))[i] = s[lead s]'hf.1 := by
      rw [List.getElem_take]
      have : i = lead s := by omega
      simp only [this]
    rw [e2]
    have h8 := lead_low s hf.1
    have : ¬ 1 < (s[lead s]'hf.1).toNat := fun h => hc (Or.inl ⟨this, h⟩)
    omega)
  unfold varV unzz
  split <;> omega

section
variable {w : World} {p : Nat} {l : List UInt8}
theorem end_yes (h : At w p []) : Calls Try.prog 22 #[.pointer (some ⟨p, 0, none⟩)] w fun e w' => e = .returned (.tuple #[]) ∧ w' = w := by
  have L := Lib.hid (left_any h)
  have N := Lib.hid (need_yes (.pointer (some ⟨p, 0, none⟩)) 4)
  go_enter Try.func22, Try.ntmps22
  go_wp2_with fail
  refine (L.out).mono ?_
  rintro e w1 ⟨rfl, rfl⟩
  go_wp2_with fail
  refine (N.out _).mono ?_
  rintro e w1 ⟨rfl, rfl⟩
  go_wp2_with fail
  first | go_end0 | refine bodyPost_ret (results_none rfl _ _ _) rfl ?_
  exact ⟨rfl, rfl⟩
theorem end_no (h : At w p l) (hl : l ≠ []) : Calls Try.prog 22 #[.pointer (some ⟨p, 0, none⟩)] w (Fails p w 4) := by
  have L := Lib.hid (left_any h)
  have M := Lib.hid (need_no p 4 (by decide))
  have hpos : 0 < l.length := List.length_pos_iff.2 hl
  have b1 : ((l.length : Int) == 0) = false := by simp; omega
  obtain ⟨k, hk⟩ : ∃ k, l.length = k := ⟨_, rfl⟩
  rw [hk] at L b1 hpos
  clear h hl hk
  go_enter Try.func22, Try.ntmps22
  go_wp2_with fail
  refine (L.out).mono ?_
  rintro e w1 ⟨rfl, rfl⟩
  go_wp2_with fail
  refine (M.out _).mono ?_
  rintro e w1 ⟨rfl, rfl⟩
  go_wp2_with fail
  exact ⟨rfl, rfl, Touch.refl _ _⟩
/-- Bool: what is read, and the error. -/
theorem bool_any (h : At w p l) (hl : l.length ≤ 1000000000) :
    Calls Try.prog 20 #[.pointer (some ⟨p, 0, none⟩)] w fun e w' =>
      (∀ b m, l = b :: m → b.toNat ≤ 1 → Reads p w (.bool (b.toNat == 1)) m e w') ∧ (∀ b m, l = b :: m → 1 < b.toNat → Fails p w 6 e w') ∧ (l = [] → Fails p w 5 e w') := by
  have N := Lib.hid (need_yes (.pointer (some ⟨p, 0, none⟩)) 6)
  have M := Lib.hid (need_no p 6 (by decide))
  cases l with
  | nil =>
    have U := Lib.hid (u8_short h)
    go_enter Try.func20, Try.ntmps20
    go_wp2_with fail
    refine (U.out).mono ?_
    rintro e w1 ⟨rfl, t1⟩
    go_wp2_with fail
    exact ⟨rfl, (fun b m h => by cases h), (fun b m h => by cases h), fun _ => ⟨rfl, t1⟩⟩
  | cons b m =>
    have U := Lib.hid (u8_ok h (by simp at hl; omega))
    clear h
    obtain ⟨x, hx⟩ : ∃ x, b.toNat = x := ⟨_, rfl⟩
    have hb := b.toNat_lt
    rw [hx] at U hb
    by_cases c : (x : Int) ≤ 1
    · go_enter Try.func20, Try.ntmps20
      go_wp2_with fail
      refine (U.out).mono ?_
      rintro e w1 ⟨rfl, a1, t1⟩
      have F := Lib.hid (And.intro a1 t1)
      clear a1 t1
      go_wp2_with fail
      refine (N.out _).mono ?_
      rintro e w1 ⟨rfl, rfl⟩
      go_wp2_with fail
      go_ret
      refine ⟨fun b' m' he hle => ?_, fun b' m' he hgt => ?_, fun h => by cases h⟩
      · obtain ⟨rfl, rfl⟩ : b = b' ∧ m = m' := by simpa using he
        refine ⟨?_, F.out.1, F.out.2⟩
        rw [hx]
        refine ret_bool ?_
        rw [Bool.eq_iff_iff, beq_iff_eq, beq_iff_eq]
        omega
      · obtain ⟨rfl, rfl⟩ : b = b' ∧ m = m' := by simpa using he
        omega
    · have d : decide ((x : Int) ≤ 1) = false := by simpa using c
      have d2 : decide (x ≤ 1) = false := by simp; omega
      have C := Lib.hid c
      clear c
      go_enter Try.func20, Try.ntmps20
      go_wp2_with fail
      refine (U.out).mono ?_
      rintro e w1 ⟨rfl, a1, t1⟩
      have F := Lib.hid (And.intro a1 t1)
      clear a1 t1
      go_wp2_with fail
      refine (M.out _).mono ?_
      rintro e w1 ⟨rfl, rfl⟩
      go_wp2_with fail
      have c := C.out
      refine ⟨rfl, fun b' m' he hle => ?_, fun b' m' he hgt => ⟨rfl, F.out.2⟩, fun h => by cases h⟩
      obtain ⟨rfl, rfl⟩ : b = b' ∧ m = m' := by simpa using he
      omega
/-- Float: what is read, and the error. -/
theorem float_any (h : At w p l) (hl : l.length ≤ 1000000000) :
    Calls Try.prog 19 #[.pointer (some ⟨p, 0, none⟩)] w fun e w' =>
      (8 ≤ l.length → (¬ isN (num (l.take 8)) ∨ num (l.take 8) = 9221120237041090560) → Reads p w (.float .f64 (num (l.take 8))) (l.drop 8) e w') ∧
      (8 ≤ l.length → ¬ (¬ isN (num (l.take 8)) ∨ num (l.take 8) = 9221120237041090560) → Fails p w 21 e w') ∧ (l.length < 8 → Fails p w 5 e w') := by
  have U := Lib.hid (u64_any h hl)
  have N := Lib.hid (need_yes (.pointer (some ⟨p, 0, none⟩)) 21)
  have M := Lib.hid (need_no p 21 (by decide))
  have hf := fun w => float_of_bits ((num (l.take 8) : Nat) : Int) w
  rw [show (((num (l.take 8) : Nat) : Int)).toNat = num (l.take 8) by omega] at hf
  by_cases h8 : 8 ≤ l.length
  · by_cases hn : isN (num (l.take 8))
    · have I := Lib.hid (fun w => isNaN_yes _ hn w)
      have HN := Lib.hid hn
      generalize num (l.take 8) = x at *
      by_cases hq : x = 9221120237041090560
      · have q : ((x : Int) == 9221120237041090560) = true := by rw [hq]; rfl
        have HQ := Lib.hid hq
        clear hn hq h
        go_enter Try.func19, Try.ntmps19
        go_wp2_with fail
        refine (U.out).mono ?_
        intro e w1 hj
        obtain ⟨rfl, a1, t1⟩ := hj.1 h8
        have F := Lib.hid (And.intro a1 t1)
        clear a1 t1 hj
        go_wp2_with fail
        refine (I.out _).mono ?_
        rintro e w1 ⟨rfl, rfl⟩
        go_wp2_with fail
        refine (N.out _).mono ?_
        rintro e w1 ⟨rfl, rfl⟩
        go_wp2_with fail
        go_ret
        exact ⟨fun _ _ => ⟨rfl, F.out.1, F.out.2⟩, fun _ hx => absurd (Or.inr HQ.out) hx, fun h => by omega⟩
      · have q : ((x : Int) == 9221120237041090560) = false := by simp; omega
        have HQ := Lib.hid hq
        clear hn hq h
        go_enter Try.func19, Try.ntmps19
        go_wp2_with fail
        refine (U.out).mono ?_
        intro e w1 hj
        obtain ⟨rfl, a1, t1⟩ := hj.1 h8
        have F := Lib.hid (And.intro a1 t1)
        clear a1 t1 hj
        go_wp2_with fail
        refine (I.out _).mono ?_
        rintro e w1 ⟨rfl, rfl⟩
        go_wp2_with fail
        refine (M.out _).mono ?_
        rintro e w1 ⟨rfl, rfl⟩
        go_wp2_with fail
        exact ⟨rfl, fun _ hx => by rcases hx with hx | hx; exact absurd HN.out hx; exact absurd hx HQ.out, fun _ hx => ⟨rfl, F.out.2⟩, fun h => by omega⟩
    · have I := Lib.hid (fun w => isNaN_no _ hn w)
      have HN := Lib.hid hn
      generalize num (l.take 8) = x at *
      clear hn h
      go_enter Try.func19, Try.ntmps19
      go_wp2_with fail
      refine (U.out).mono ?_
      intro e w1 hj
      obtain ⟨rfl, a1, t1⟩ := hj.1 h8
      have F := Lib.hid (And.intro a1 t1)
      clear a1 t1 hj
      go_wp2_with fail
      refine (I.out _).mono ?_
      rintro e w1 ⟨rfl, rfl⟩
      go_wp2_with fail
      refine (N.out _).mono ?_
      rintro e w1 ⟨rfl, rfl⟩
      go_wp2_with fail
      go_ret
      exact ⟨fun _ _ => ⟨rfl, F.out.1, F.out.2⟩, fun _ hx => absurd (Or.inl HN.out) hx, fun h => by omega⟩
  · go_enter Try.func19, Try.ntmps19
    go_wp2_with fail
    refine (U.out).mono ?_
    intro e w1 hj
    obtain ⟨rfl, t1⟩ := hj.2 (by omega)
    exact ⟨rfl, fun h => by omega, fun h => by omega, fun _ => ⟨rfl, t1⟩⟩
end
end Go.Proofs.Ytpmnnaghadpnnaa
