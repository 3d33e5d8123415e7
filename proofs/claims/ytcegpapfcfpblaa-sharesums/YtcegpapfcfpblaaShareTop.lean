/-
  Contracts of share.Top and of the reference's.
-/
import Derived.Test.YtcegpapfcfpblaaShareSums
namespace Go.Proofs.Ytcegpapfcfpblaa
open Go.ChangeShapes Go.WideShapes Go.ChangeAt Go.RowKit Go.Joins
set_option linter.unusedVariables false

def topV (X : Nat → Nat) (n : Nat) : Value := .tuple #[.int .i64 (if n = 0 then 0 else topOf X (n - 1) : Nat), .bool (decide (n ≠ 0))]

set_option maxHeartbeats 1000000 in
theorem top_any (A : Option Addr) (n c : Nat) (X : Nat → Nat) (w : World) (hn : n ≤ 1000) (B : Nat) (hF : FCells w B A n X) (hX : ∀ i, X i < 18446744073709551616) :
    Calls Try.prog 41 #[.slice A n c] w fun e w' => e = .returned (topV X n) ∧ w' = w := by
  by_cases h0 : n = 0
  · subst h0
    go_enter Try.func41, Try.ntmps41
    go_wp2
    go_ret2
    exact ⟨rfl, rfl⟩
  · have hne : ((n : Int) == 0) = false := beq_eq_false_iff_ne.2 (by omega)
    have htop : topV X n = .tuple #[.int .i64 (topOf X (n - 1) : Nat), .bool true] := by unfold topV; rw [if_neg h0, decide_eq_true h0]
    rw [htop]
    go_enter Try.func41, Try.ntmps41
    go_wp2
    go_loopw [4, 12] (fun v i wr => ∃ k t : Nat, k ≤ n ∧ t < n ∧ i = .int .i64 k ∧ v = .int .i64 t ∧ t = topOf X (k - 1) ∧ wr = w) (fun _ i _ => n - (intOf i).toNat)
    case atStart => exact ⟨0, 0, Nat.zero_le _, by omega, rfl, rfl, rfl, rfl⟩
    case round =>
      obtain ⟨k, t, hk, htn, rfl, rfl, ht, hw⟩ := hrel
      subst hw
      by_cases hlt : k < n
      · obtain ⟨b, off, hA, hbB, hc⟩ := hF k hlt
        obtain ⟨b', off', hA', _, hc'⟩ := hF t htn
        subst hA
        obtain ⟨rfl, rfl⟩ : b = b' ∧ off = off' := by simpa using hA'
        have hstep : topOf X k = if lessOf (X t) (X k) = true then k else t := by
          rcases Nat.eq_zero_or_pos k with rfl | hp
          · have ht0 : t = 0 := by rw [ht]; rfl
            subst ht0
            rw [less_irr]
            rfl
          · obtain ⟨j, rfl⟩ : ∃ j, k = j + 1 := ⟨k - 1, by omega⟩
            rw [Nat.add_sub_cancel] at ht
            rw [ht]
            rfl
        have HS := Lib.hid hstep
        have LS := Lib.hid (fun w => less_any (X t) (X k) (hX t) (hX k) w)
        clear hstep hA' hF ht
        generalize lessOf (X t) (X k) = l at *
        generalize X t = xt at *
        generalize X k = xk at *
        cases l
        all_goals
          go_wp2_with (go_at_call 33; (with_reducible refine (LS.out _).mono ?_); rintro e wr ⟨rfl, rfl⟩)
          go_roundw
          case rel => exact ⟨k + 1, topOf X k, by omega, by rw [HS.out]; simp; omega, by go_num, by rw [HS.out]; simp, rfl, trivial⟩
          case measure => simp [intOf]; omega
      · obtain rfl : k = n := by omega
        subst ht
        go_wp2
        go_ret2
        exact ⟨rfl, rfl⟩

/-- A world that has only drawn. -/
def Drawn (w w' : World) : Prop := ∃ m, w' = w.drewN m
theorem Drawn.refl (w : World) : Drawn w w := ⟨0, rfl⟩
theorem Drawn.ex {w w' : World} (h : Drawn w w') : ∃ m, w' = w.drewN m := h
theorem Drawn.drewN {w w' : World} (h : Drawn w w') (n : Nat) : Drawn w (w'.drewN n) := by
  obtain ⟨m, rfl⟩ := h
  exact ⟨m + n, World.drewN_drewN _ _ _⟩
theorem Drawn.cell {w w' : World} (h : Drawn w w') {a : Addr} : w'.cell? a = w.cell? a := by
  obtain ⟨m, rfl⟩ := h
  rfl

/-- The first that nothing stands behind is the first greatest. -/
theorem top_unique (X : Nat → Nat) (n i : Nat) (hi : i < n) (h1 : ∀ j, j < n → lessOf (X i) (X j) = false) (h2 : ∀ a, a < i → ∃ j, j < n ∧ lessOf (X a) (X j) = true) : i = topOf X (n - 1) := by
  obtain ⟨g1, g2⟩ := topOf_best X (n - 1)
  have hle := topOf_le X (n - 1)
  rcases Nat.lt_trichotomy i (topOf X (n - 1)) with h | h | h
  · have := g2 i h
    rw [h1 _ (by omega)] at this
    cases this
  · exact h
  · obtain ⟨j, hj, hl⟩ := h2 _ h
    rw [g1 j (by omega)] at hl
    cases hl

set_option maxHeartbeats 2000000 in
theorem refTop_any (A : Option Addr) (n c : Nat) (X : Nat → Nat) (w : World) (hn : n ≤ 1000) (B : Nat) (hF : FCells w B A n X) (hX : ∀ i, X i < 18446744073709551616) :
    Calls Try.prog 42 #[.slice A n c] w fun e w' => e = .returned (topV X n) ∧ ∃ m, w' = w.drewN m := by
  have HF := Lib.hid hF
  have HX := Lib.hid hX
  clear hF hX
  go_enter Try.func42, Try.ntmps42
  go_wp2
  go_loopw [4] (fun i wr => ∃ k : Nat, k ≤ n ∧ i = .int .i64 k ∧ (∀ a, a < k → ∃ j, j < n ∧ lessOf (X a) (X j) = true) ∧ Drawn w wr) (fun i _ => n - (intOf i).toNat)
  case atStart => exact ⟨0, Nat.zero_le _, rfl, fun a ha => absurd ha (Nat.not_lt_zero _), Drawn.refl _⟩
  case round =>
    obtain ⟨k, hk, rfl, hno, hdr⟩ := hrel
    have HN := Lib.hid hno
    clear hno
    obtain ⟨wo, rfl⟩ : ∃ wo : World, wo = wr := ⟨_, rfl⟩
    by_cases hlt : k < n
    · go_wp2
      go_loopw [5, 6] (fun b i wr => ∃ j : Nat, ∃ bb : Bool, j ≤ n ∧ i = .int .i64 j ∧ b = .bool bb ∧ (bb = true ↔ ∀ a, a < j → lessOf (X k) (X a) = false) ∧ Drawn w wr) (fun _ i _ => n - (intOf i).toNat)
      case atStart => exact ⟨0, true, Nat.zero_le _, rfl, rfl, ⟨fun _ a ha => absurd ha (Nat.not_lt_zero _), fun _ => rfl⟩, hdr⟩
      case round =>
        clear hdr
        obtain ⟨j, bb, hj, rfl, rfl, hbb, hdr⟩ := hrel
        have HB := Lib.hid hbb
        clear hbb
        by_cases hjn : j < n
        · obtain ⟨b, off, hA, hbB, hc⟩ := HF.out k hlt
          obtain ⟨b', off', hA', _, hc'⟩ := HF.out j hjn
          subst hA
          obtain ⟨rfl, rfl⟩ : b = b' ∧ off = off' := by simpa using hA'
          rw [← hdr.cell] at hc hc'
          have i1 : (k : Int) < (n : Int) := by omega
          have i2 : (j : Int) < (n : Int) := by omega
          have LS := Lib.hid (fun w => refLess_any (X k) (X j) (HX.out k) (HX.out j) w)
          have hstep : (bb && !lessOf (X k) (X j)) = true ↔ ∀ a, a < j + 1 → lessOf (X k) (X a) = false := by
            rw [Bool.and_eq_true, HB.out]
            constructor
            · rintro ⟨h1, h2⟩ a ha
              rcases Nat.lt_succ_iff_lt_or_eq.1 ha with ha | rfl
              · exact h1 a ha
              · simpa using h2
            · intro h
              exact ⟨fun a ha => h a (by omega), by rw [h j (by omega)]; rfl⟩
          have HS := Lib.hid hstep
          clear hstep hA'
          generalize hl : lessOf (X k) (X j) = l at *
          generalize hxk : X k = xk at *
          generalize hxj : X j = xj at *
          have HL := Lib.hid hl
          have H1 := Lib.hid hxk
          have H2 := Lib.hid hxj
          clear hl hxk hxj
          go_wp2
          go_quiet ((go_at_call 34; exact Calls.quiet_of_same (LS.out _)))
          cases l
          · go_wp2
            go_roundw
            case rel => exact ⟨j + 1, bb, by omega, by go_num, rfl, by rw [← HS.out]; simp, hdr.drewN nq⟩
            case measure => simp [intOf]; omega
          · go_wp2
            go_roundw
            case rel => exact ⟨j + 1, false, by omega, by go_num, rfl, by rw [← HS.out]; simp, hdr.drewN nq⟩
            case measure => simp [intOf]; omega
        · obtain rfl : j = n := by omega
          cases bb
          · have hno' : ∃ a, a < j ∧ lessOf (X k) (X a) = true := by
              have h := HB.out
              by_cases hex : ∃ a, a < j ∧ lessOf (X k) (X a) = true
              · exact hex
              · have := h.2 fun a ha => by
                  by_cases g : lessOf (X k) (X a) = true
                  · exact absurd ⟨a, ha, g⟩ hex
                  · simpa using g
                cases this
            have HE := Lib.hid hno'
            clear hno'
            go_wp2
            go_roundw
            case rel =>
              refine ⟨k + 1, by omega, by go_num, fun a ha => ?_, hdr⟩
              rcases Nat.lt_succ_iff_lt_or_eq.1 ha with ha | rfl
              · exact HN.out a ha
              · exact HE.out
            case measure => simp [intOf]; omega
          · have hu := top_unique X j k hlt (HB.out.1 rfl) HN.out
            have hv : topV X j = .tuple #[.int .i64 (k : Nat), .bool true] := by unfold topV; rw [if_neg (by omega), decide_eq_true (by omega), ← hu]
            have HV := Lib.hid hv
            clear hv hu
            go_wp2
            go_ret2
            exact ⟨by rw [HV.out]; rfl, hdr.ex⟩
    · obtain rfl : k = n := by omega
      have hz : k = 0 := by
        rcases Nat.eq_zero_or_pos k with h | h
        · exact h
        · have hle := topOf_le X (k - 1)
          obtain ⟨j, hj, hl⟩ := HN.out (topOf X (k - 1)) (by omega)
          rw [(topOf_best X (k - 1)).1 j (by omega)] at hl
          cases hl
      have hv : topV X k = .tuple #[.int .i64 0, .bool false] := by rw [hz]; rfl
      have HV := Lib.hid hv
      clear hv hz
      go_wp2
      go_ret2
      exact ⟨by rw [HV.out]; rfl, hdr.ex⟩
end Go.Proofs.Ytcegpapfcfpblaa
