/-
  ShareOrders: for all three floats, by their bits, and every n the law on the order and on units returns true. No conditions.
-/
import Derived.Test.YtcegpapfcfpblaaShareTotal
import Derived.Deep.QuietTactic
import Derived.BigQuiet
import Derived.Deep.DeepCutAuto
namespace Go.Proofs.Ytcegpapfcfpblaa
open Go.ChangeShapes Go.WideShapes Go.ChangeAt Go.RowKit Go.Joins
set_option linter.unusedVariables false

theorem units_share (x : Nat) (h64 : x < 18446744073709551616) (hs : sgn x = false) (hr : rung x ≤ 4607182418800017408) (w : World) :
    Calls Try.prog 27 #[.float .f64 x] w fun e w' => e = .returned (tup2 (unitsOf x) 0) ∧ w' = w := by
  have hk := key_pos x (.inl hs)
  rcases share_ways x h64 with hn | ⟨hn, h1, _⟩ | ⟨hn, h1, _⟩ | ⟨hn, h0, h1, hr', hs', hk'⟩
  · unfold isN at hn; omega
  · omega
  · omega
  · exact units_in x h64 hn h1 hr' hs' hk' w

theorem clamp_share (x : Nat) (h64 : x < 18446744073709551616) : clampOf x < 18446744073709551616 ∧ sgn (clampOf x) = false ∧ rung (clampOf x) ≤ 4607182418800017408 := by
  by_cases hle : kindOf x ≤ 3
  · rw [clampOf_low x hle]
    exact ⟨by omega, by unfold sgn; rfl, by unfold rung; omega⟩
  · by_cases h1 : 4607182418800017408 < key x
    · rw [clampOf_high x hle h1]
      exact ⟨by omega, by unfold sgn; rfl, by unfold rung; omega⟩
    · rw [clampOf_mid x hle h1]
      rcases kind_ways x h64 with ⟨hn, hk⟩ | ⟨hn, hr, hs, hk⟩ | ⟨hn, hr, hs, hk⟩ | ⟨hn, hr, hs, hk⟩ | ⟨hn, hr, hs, hk⟩ | ⟨hn, hr, hr', hs, hk⟩ | ⟨hn, hr, hr', hs, hk⟩
      all_goals
        first
          | (exfalso; omega)
          | (have hkk := key_pos x (.inl hs); exact ⟨h64, hs, by omega⟩)

theorem less_trans {x y z : Nat} (h1 : lessOf x y = true) (h2 : lessOf y z = true) : lessOf x z = true := by
  unfold lessOf at *
  rw [decide_eq_true_iff] at *
  omega
theorem less_asym {x y : Nat} (h1 : lessOf x y = true) (h2 : lessOf y x = true) : False := by
  unfold lessOf at *
  rw [decide_eq_true_iff] at *
  omega
theorem same_less (x y : Nat) (hx : x < 18446744073709551616) (hy : y < 18446744073709551616) : sameOf x y = !(lessOf x y || lessOf y x) := by
  have key : sameOf x y = true ↔ kindOf x = kindOf y ∧ key' x = key' y := by
    unfold sameOf
    rw [Bool.or_eq_true, Bool.and_eq_true, decide_eq_true_iff]
    constructor
    · rintro (⟨a, b⟩ | h)
      · have a' : isN x := by unfold isNb at a; unfold isN; exact of_decide_eq_true a
        have b' : isN y := by unfold isNb at b; unfold isN; exact of_decide_eq_true b
        have k1 := kind_nan x a'
        have k2 := kind_nan y b'
        unfold key'
        rw [if_neg (by omega), if_neg (by omega)]
        omega
      · rw [h]; exact ⟨rfl, rfl⟩
    · rintro ⟨hk, hk'⟩
      have e1 : ∀ z, z < 18446744073709551616 → (kindOf z = 0 ∧ isN z) ∨ (kindOf z ≠ 0 ∧ ¬ isN z ∧ z = FloatKind.f64.format.word (sgn z) (rung z) ∧ (kindOf z = 1 → sgn z = true ∧ rung z = 9218868437227405312) ∧ (kindOf z = 6 → sgn z = false ∧ rung z = 9218868437227405312) ∧ (kindOf z = 3 → sgn z = true ∧ rung z = 0) ∧ (kindOf z = 4 → sgn z = false ∧ rung z = 0) ∧ (kindOf z = 2 → sgn z = true) ∧ (kindOf z = 5 → sgn z = false) ∧ (kindOf z = 1 ∨ kindOf z = 2 ∨ kindOf z = 3 ∨ kindOf z = 4 ∨ kindOf z = 5 ∨ kindOf z = 6)) := by
        intro z hz
        have hw := word_of z hz
        rcases kind_ways z hz with ⟨hn, hk⟩ | ⟨hn, hr, hs, hk⟩ | ⟨hn, hr, hs, hk⟩ | ⟨hn, hr, hs, hk⟩ | ⟨hn, hr, hs, hk⟩ | ⟨hn, hr, hr', hs, hk⟩ | ⟨hn, hr, hr', hs, hk⟩
        · exact .inl ⟨hk, hn⟩
        all_goals
          refine .inr ⟨by omega, hn, hw, ?_, ?_, ?_, ?_, ?_, ?_, by omega⟩
          all_goals
            intro g
            first
              | (exfalso; omega)
              | exact ⟨hs, hr⟩
              | exact hs
      rcases e1 x hx with ⟨a1, a2⟩ | ⟨a0, a1, a2, a3, a4, a5, a6, a7, a8, a9⟩
      · rcases e1 y hy with ⟨b1, b2⟩ | ⟨b0, _⟩
        · exact .inl ⟨decide_eq_true a2, decide_eq_true b2⟩
        · omega
      · rcases e1 y hy with ⟨b1, b2⟩ | ⟨b0, b1, b2, b3, b4, b5, b6, b7, b8, b9⟩
        · omega
        · right
          rw [a2, b2]
          rcases a9 with g | g | g | g | g | g
          · obtain ⟨p1, p2⟩ := a3 g; obtain ⟨q1, q2⟩ := b3 (by omega); rw [p1, p2, q1, q2]
          · have p1 := a7 g
            have q1 := b7 (by omega)
            unfold key' at hk'
            rw [if_pos (.inl g), if_pos (.inl (by omega))] at hk'
            unfold key at hk'
            rw [p1, q1] at hk'
            rw [p1, q1]
            have : rung x = rung y := by simp at hk'; omega
            rw [this]
          · obtain ⟨p1, p2⟩ := a5 g; obtain ⟨q1, q2⟩ := b5 (by omega); rw [p1, p2, q1, q2]
          · obtain ⟨p1, p2⟩ := a6 g; obtain ⟨q1, q2⟩ := b6 (by omega); rw [p1, p2, q1, q2]
          · have p1 := a8 g
            have q1 := b8 (by omega)
            unfold key' at hk'
            rw [if_pos (.inr g), if_pos (.inr (by omega))] at hk'
            unfold key at hk'
            rw [p1, q1] at hk'
            rw [p1, q1]
            have : rung x = rung y := by simp at hk'; omega
            rw [this]
          · obtain ⟨p1, p2⟩ := a4 g; obtain ⟨q1, q2⟩ := b4 (by omega); rw [p1, p2, q1, q2]
  rw [Bool.eq_iff_iff, key]
  unfold lessOf
  rw [Bool.not_eq_true', Bool.or_eq_false_iff, decide_eq_false_iff_not, decide_eq_false_iff_not]
  omega

set_option maxHeartbeats 4000000 in
set_option maxRecDepth 100000 in
theorem shareOrders_walk (x y z : Nat) (n : Int) (hx : x < 18446744073709551616) (hy : y < 18446744073709551616) (hz : z < 18446744073709551616) (w : World) :
    Calls Try.prog 8 #[.agg #[.int .u64 x, .int .u64 y, .int .u64 z], .int .i64 n] w fun e w' => e = .returned (.bool true) ∧ Below w.heap.size w w' := by
  obtain ⟨r, hr, O1, _⟩ := of_both n
  have hu := units_of_of n r hr
  have U1 := fun w => units_share r hr.1 hr.2.1 hr.2.2.1 w
  obtain ⟨c1, c2, c3⟩ := clamp_share x hx
  have U2 := fun w => units_share (clampOf x) c1 c2 c3 w
  have hle := units_le (clampOf x) c3
  unfold tup2 at U1 U2
  have L1 := Lib.hid (fun w => less_any x y hx hy w)
  have L2 := Lib.hid (fun w => less_any y z hy hz w)
  have L3 := Lib.hid (fun w => less_any x z hx hz w)
  have L4 := Lib.hid (fun w => less_any y x hy hx w)
  have S1 := Lib.hid (fun w => same_any x y w)
  have S2 := fun w => same_any x x w
  rw [show sameOf x x = true by unfold sameOf; simp] at S2
  have S2 := Lib.hid S2
  have T1 : lessOf x y = true → lessOf y z = true → lessOf x z = true := less_trans
  have T2 : lessOf x y = true → lessOf y x = true → False := less_asym
  have T3 := same_less x y hx hy
  have C1 := Lib.hid (fun w => clamp_any x hx w)
  have D1 := Lib.hid O1
  have D2 := Lib.hid U1
  have D3 := Lib.hid U2
  clear O1 U1 U2 hr c1 c2 c3
  generalize lessOf x y = l1 at *
  generalize lessOf y z = l2 at *
  generalize lessOf x z = l3 at *
  generalize lessOf y x = l4 at *
  generalize sameOf x y = s at *
  generalize clampOf x = c at *
  generalize ((unitsOf r : Nat) : Int) = u at *
  obtain ⟨v, hv⟩ : ∃ v : Int, v = ((unitsOf c : Nat) : Int) := ⟨_, rfl⟩
  rw [← hv] at D3
  have hv1 : 0 ≤ v ∧ v ≤ 1048576 := by omega
  clear hv hle hx hy hz
  have hb := float_of_bits
  subst T3
  go_enter Try.func8, Try.ntmps8
  go_wp2
  go_quiet (fail)
  go_upto_region 2 with fail
  have hbW : Below w.heap.size w ((w.alloc (.cells #[.int .u64 x, .int .u64 y, .int .u64 z] 49)).drewN nq) := (below_alloc1 w _).trans (below_draws _ _ _)
  generalize (w.alloc (.cells #[.int .u64 x, .int .u64 y, .int .u64 z] 49)).drewN nq = W at *
  have T1 := Lib.hid T1
  have T2 := Lib.hid T2
  have hu := Lib.hid hu
  go_cut [34] (fun v wx => v = .bool false ∧ wx = W)
  case first =>
    cases l1
    · go_wp2_with (go_at_call 33; (with_reducible refine (L1.out _).mono ?_); rintro e W ⟨rfl, rfl⟩)
      go_meet
      exact ⟨rfl, rfl⟩
    · cases l2
      · go_wp2_with (first | (go_at_call 33; (with_reducible refine (L1.out _).mono ?_); rintro e W ⟨rfl, rfl⟩) | (go_at_call 33; (with_reducible refine (L2.out _).mono ?_); rintro e W ⟨rfl, rfl⟩))
        go_meet
        exact ⟨rfl, rfl⟩
      · obtain rfl : l3 = true := T1.out rfl rfl
        go_wp2_with (first | (go_at_call 33; (with_reducible refine (L1.out _).mono ?_); rintro e W ⟨rfl, rfl⟩) | (go_at_call 33; (with_reducible refine (L2.out _).mono ?_); rintro e W ⟨rfl, rfl⟩) | (go_at_call 33; (with_reducible refine (L3.out _).mono ?_); rintro e W ⟨rfl, rfl⟩))
        go_meet
        exact ⟨rfl, rfl⟩
  case rest =>
    obtain ⟨rfl, rfl⟩ := hcut
    clear L2 L3 T1
    go_upto_region 4 with fail
    go_cut [62] (fun v wx' => v = .bool false ∧ wx' = wc)
    case first =>
      cases l1 <;> cases l4
      · go_wp2_with (first | (go_at_call 33; (with_reducible refine (L1.out _).mono ?_); rintro e wc ⟨rfl, rfl⟩) | (go_at_call 33; (with_reducible refine (L4.out _).mono ?_); rintro e wc ⟨rfl, rfl⟩) | (go_at_call 31; (with_reducible refine (S1.out _).mono ?_); rintro e wc ⟨rfl, rfl⟩) | (go_at_call 31; (with_reducible refine (S2.out _).mono ?_); rintro e wc ⟨rfl, rfl⟩))
        go_meet
        exact ⟨rfl, rfl⟩
      · go_wp2_with (first | (go_at_call 33; (with_reducible refine (L1.out _).mono ?_); rintro e wc ⟨rfl, rfl⟩) | (go_at_call 33; (with_reducible refine (L4.out _).mono ?_); rintro e wc ⟨rfl, rfl⟩) | (go_at_call 31; (with_reducible refine (S1.out _).mono ?_); rintro e wc ⟨rfl, rfl⟩) | (go_at_call 31; (with_reducible refine (S2.out _).mono ?_); rintro e wc ⟨rfl, rfl⟩))
        go_meet
        exact ⟨rfl, rfl⟩
      · go_wp2_with (first | (go_at_call 33; (with_reducible refine (L1.out _).mono ?_); rintro e wc ⟨rfl, rfl⟩) | (go_at_call 33; (with_reducible refine (L4.out _).mono ?_); rintro e wc ⟨rfl, rfl⟩) | (go_at_call 31; (with_reducible refine (S1.out _).mono ?_); rintro e wc ⟨rfl, rfl⟩) | (go_at_call 31; (with_reducible refine (S2.out _).mono ?_); rintro e wc ⟨rfl, rfl⟩))
        go_meet
        exact ⟨rfl, rfl⟩
      · exact (T2.out rfl rfl).elim
    case rest =>
      obtain ⟨rfl, rfl⟩ := hcut
      go_wp2_with fail
      refine (D1.out _).mono ?_
      rintro e wc ⟨rfl, rfl⟩
      go_wp2_with fail
      refine (D2.out _).mono ?_
      rintro e wc ⟨rfl, rfl⟩
      go_wp2_with fail
      refine (C1.out _).mono ?_
      rintro e wc ⟨rfl, rfl⟩
      go_wp2_with fail
      refine (D3.out _).mono ?_
      rintro e wc ⟨rfl, rfl⟩
      have hu' := hu.out
      clear hu D1 D2 D3 C1 L1 L4 S1 S2 T2
      rcases (show (n ≤ 0 ∧ (u == 0) = true) ∨ (0 < n ∧ n ≤ 1048576 ∧ (u == n) = true) ∨ (1048576 < n ∧ (u == 1048576) = true) by simp only [beq_iff_eq]; omega) with ⟨h1, h2⟩ | ⟨h1, h2, h3⟩ | ⟨h1, h2⟩
      all_goals
        clear hu'
        go_wp2_with (go_at_call 39; refine (shareLives_any _).mono ?_; rintro e w5 ⟨rfl, hb5⟩)
        go_ret
        exact ⟨rfl, hbW.trans (hb5.mono hbW.size)⟩

set_option maxRecDepth 100000 in
theorem shareOrders_calls : LawCalls Try.prog 8 Try.f8 := by
  intro H enc W base args ds p hval hA hlt
  rw [Try.params8] at hA hval
  obtain ⟨v0, vs0, d0, ds0, p0, q0, hargs, rfl, rfl, h0, r0⟩ := trodAll_cons hA
  obtain ⟨v1, vs1, d1, ds1, p1, q1, rfl, rfl, rfl, h1, r1⟩ := trodAll_cons r0
  obtain ⟨rfl, rfl, rfl⟩ := trodAll_nil r1
  obtain rfl : args = #[v0, v1] := by cases args; simp_all
  obtain ⟨c, rfl, rfl, rfl, wc⟩ := open_int Try.underlying3 (hval 1 3 v1 rfl rfl) h1
  have hv := hval 0 49 v0 rfl rfl
  have k1 : Try.prog.cellsOf 30 = 1 := by kernel_rfl
  have k3 : Try.prog.cellsOf 49 = 3 := by kernel_rfl
  obtain ⟨cs, rfl, hsz⟩ : ∃ cs, v0 = .agg cs ∧ cs.size = 3 := by
    simp only [Value.okWide, Try.underlying49] at hv
    cases v0 <;> simp_all
  obtain ⟨a, b, c', rfl⟩ := array3 hsz
  obtain ⟨fuel, hf⟩ := h0
  obtain ⟨xs, m, _, _, _, hl, hi⟩ := DataW.trod_array Try.underlying49 hf
  rw [k1] at hi
  have i0 := hi 0 (by omega)
  have i1 := hi 1 (by omega)
  have i2 := hi 2 (by omega)
  rw [List.getElem?_eq_getElem (by omega)] at i0 i1 i2
  simp only [Value.cells, List.drop_zero, Nat.zero_mul, Nat.one_mul, List.drop_succ_cons, List.take_succ_cons, List.take_zero] at i0 i1 i2
  obtain ⟨x, rfl, wx⟩ := cell_int Try.underlying30 i0
  obtain ⟨y, rfl, wy⟩ := cell_int Try.underlying30 i1
  obtain ⟨z, rfl, wz⟩ := cell_int Try.underlying30 i2
  have bx := u64_in wx
  have bY := u64_in wy
  have bz := u64_in wz
  obtain ⟨x, rfl⟩ := Int.eq_ofNat_of_zero_le bx.1
  obtain ⟨y, rfl⟩ := Int.eq_ofNat_of_zero_le bY.1
  obtain ⟨z, rfl⟩ := Int.eq_ofNat_of_zero_le bz.1
  exact shareOrders_walk x y z c (by omega) (by omega) (by omega) W

set_option maxRecDepth 100000 in
theorem shareOrders_lifted (os : Os) (started : os.Started) (H : Type) (enc : TypeId × Value → H) :
    ReturnsInHanded {} Try.checked os 8 .any (Rows.shareOrdersSpec.pre6 enc Try.prog Try.f8 Rows.shareOrdersRow.domain false) (Rows.shareOrdersSpec.post enc Try.prog Try.f8 false true false false) := by
  refine returnsInHanded_of_change (C := Try.checked) own started (by kernel_rfl) Try.func8
    (ChangeSpec.witness6 (enc := enc) (C := Try.checked) false ⟨#[], #[.agg #[.int .u64 0, .int .u64 0, .int .u64 0], .int .i64 0], []⟩ 8 (by kernel_rfl) (by kernel_rfl) (by kernel_rfl) (by kernel_rfl)) ?_
  intro W base args ds gs before hval hW _ _
  exact law_contract laidOut (by kernel_rfl) rfl rfl boolType (fun ds h => by match ds, h with | [_, _], _ => rfl) shareOrders_calls W base args ds gs before hval hW

theorem shareOrders_holds : Rows.ShareOrdersSaid :=
  OpenClaim.holds_of_wide 8 Try.f8 rfl rfl rfl rfl rfl rfl rfl ⟨rfl, rfl, rfl, rfl, rfl⟩ rfl rfl rfl rfl rfl (by kernel_rfl) Try.func8 (by kernel_rfl)
    (of_decide_eq_true (by kernel_rfl)) (by unfold Func.isWrapper; first | (rw [if_pos (by decide +kernel)]; kernel_rfl) | (rw [if_neg (by decide +kernel)]; exact ⟨rfl, rfl⟩))
    (fun os started H enc _ => shareOrders_lifted os started H enc)
#print axioms shareOrders_holds
end Go.Proofs.Ytcegpapfcfpblaa
