/-
  The reference's Var (layer 9).
-/
import Derived.Test.YtpmnnaghadpnnaaRefNum
namespace Go.Proofs.Ytpmnnaghadpnnaa
open Go.ChangeShapes Go.WideShapes Go.ChangeAt Go.RowKit Go.Deep
set_option linter.unusedVariables false
set_option linter.unusedSimpArgs false

set_option maxRecDepth 100000 in
theorem refVar_err (l : List UInt8) (k : Int) (hk : k ≠ 0) (w : World) :
    Calls Try.prog 25 #[rv l k] w fun e w' => e = .returned (.tuple #[rv l k, .int .i64 0]) ∧ Touch [] w w' := by
  have b1 : (k != 0) = true := by simpa using hk
  unfold rv
  go_enter Try.func25, Try.ntmps25
  go_wp2_with fail
  refine bodyPost_ret (v := .tuple #[.agg #[.string (S l), .int .i64 k], .int .i64 0]) (by simp [results, Try.results25, go_sem]) rfl ?_
  exact ⟨rfl, t2w _ _ _⟩

theorem mulmod (a b : Nat) : ((a % 18446744073709551616 : Nat) : Int) * (b : Int) % 18446744073709551616 = ((a * b % 18446744073709551616 : Nat) : Int) := by
  have h : a % 18446744073709551616 * b % 18446744073709551616 = a * b % 18446744073709551616 := by rw [Nat.mul_mod, Nat.mod_mod, ← Nat.mul_mod]
  rw [← Int.natCast_mul]
  generalize a % 18446744073709551616 * b = x at *
  generalize a * b = y at *
  omega
theorem addmod (a b : Nat) : (((a % 18446744073709551616 : Nat) : Int) + ((b % 18446744073709551616 : Nat) : Int)) % 18446744073709551616 = (((a + b) % 18446744073709551616 : Nat) : Int) := by
  omega
/-- The end of the first loop: where the last byte stands. -/
def kk (l : List UInt8) : Nat := if lead l < 10 then lead l else 10

set_option maxHeartbeats 2000000 in
set_option maxRecDepth 100000 in
theorem refVar_zero (l : List UInt8) (hl : l.length ≤ 1000000000) (w : World) :
    Calls Try.prog 25 #[rv l 0] w fun e w' =>
      (varE l = 0 → e = .returned (.tuple #[rv (l.drop (lead l + 1)) 0, .int .i64 (varV l)]) ∧ Touch [] w w') ∧ (varE l ≠ 0 → e = .returned (.tuple #[rv l (varE l), .int .i64 0]) ∧ Touch [] w w') := by
  have hz := S_size l
  have hle := lead_le l
  obtain ⟨K, hK, hK1, hK2⟩ : ∃ K, K = kk l ∧ K ≤ lead l ∧ K ≤ 10 := ⟨kk l, rfl, by unfold kk; split <;> omega, by unfold kk; split <;> omega⟩
  have hK3 : lead l < 10 → K = lead l := fun h => by rw [hK]; unfold kk; rw [if_pos h]
  have hK4 : ¬ lead l < 10 → K = 10 := fun h => by rw [hK]; unfold kk; rw [if_neg h]
  have HH := Lib.hid (fun i hi (h : i < K) => lead_high l i hi (by omega))
  unfold rv
  go_enter Try.func25, Try.ntmps25
  go_wp2_with fail
  have x0 := (BoxV.new w 38 #[.string (S l), .int .i64 0]).carry ((Touch.refl [] _).alloc (.cells #[.string ⟨#[]⟩, .int .i64 0] 38)) (by simp)
  have y0 := BoxV.new (w.alloc (.cells #[.string (S l), .int .i64 0] 38)) 38 #[.string ⟨#[]⟩, .int .i64 0]
  rw [show (w.alloc (.cells #[.string (S l), .int .i64 0] 38)).heap.size = w.heap.size + 1 by simp] at y0
  have t0 := t2w w (.cells #[.string (S l), .int .i64 0] 38) (.cells #[.string ⟨#[]⟩, .int .i64 0] 38)
  generalize (w.alloc (.cells #[.string (S l), .int .i64 0] 38)).alloc (.cells #[.string ⟨#[]⟩, .int .i64 0] 38) = W at *
  have HX := Lib.hid x0
  have HY := Lib.hid y0
  have HT := Lib.hid t0
  have c0 := x0.cell 0
  have lx := x0.lt
  clear x0 y0 t0
  go_loopw [4] (fun y wr => ∃ i : Nat, i ≤ K ∧ y = .int .i64 i ∧ wr = W) (fun y _ => K - (intOf y).toNat)
  case atStart => exact ⟨0, Nat.zero_le _, rfl, rfl⟩
  case round =>
    obtain ⟨i, hi, rfl, rfl⟩ := hrel
    by_cases hlt : i < K
    · have hx := ix_str l i (by omega)
      have hb := HH.out i (by omega) hlt
      have hb8 := (l[i]'(by omega)).toNat_lt
      generalize (l[i]'(by omega)).toNat = b at *
      have g1 : decide ((i : Int) < (l.length : Int)) = true := by simp; omega
      have g2 : decide ((i : Int) < 10) = true := by simp; omega
      have g3 : decide ((128 : Int) ≤ (b : Int)) = true := by simp; omega
      go_wp2_with fail
      refine ⟨⟨i + 1, by omega, by go_num, trivial⟩, by simp [intOf]; omega⟩
    · obtain rfl : i = K := by omega
      by_cases hf : lead l < l.length ∧ lead l < 10
      · have hli : lead l = i := (hK3 hf.2).symm
        have hlow := lead_low l hf.1
        have hix : i < l.length := by omega
        have hgi : (l[lead l]'hf.1) = l[i] := by simp only [hli]
        have hE : varE l = if (i = 9 ∧ 1 < (l[i]).toNat) ∨ (0 < i ∧ (l[i]).toNat = 0) then 6 else 0 := by
          unfold varE
          rw [dif_pos hf, hgi]
          simp only [hli]
        have hV : varV l = unzz (varU (l.take (i + 1))) := by unfold varV; rw [hli]
        have hfit : ¬ ((i = 9 ∧ 1 < (l[i]).toNat) ∨ (0 < i ∧ (l[i]).toNat = 0)) → varU (l.take (i + 1)) < 18446744073709551616 := fun hn => by
          refine varU_top (l.take (i + 1)) i (by omega) (by rw [List.length_take]; omega) (fun q hq e => ?_)
          subst e
          rw [List.getElem_take]
          have : i = 9 := by rw [List.length_take] at hq; omega
          subst this
          have h8 : ¬ 1 < (l[9]).toNat := fun h => hn (Or.inl ⟨rfl, h⟩)
          omega
        rw [hgi] at hlow
        have hx := ix_str l i hix
        have HU := Lib.hid (fun n (hn : n < l.length) => show varU (l.take (n + 1)) = varU (l.take n) + 128 ^ n * ((l[n]).toNat % 128) from by
          rw [take_snoc l n hn, varU_append, List.length_take, Nat.min_eq_left (by omega)]
          simp [varU])
        have HIX := Lib.hid (fun n (hn : n < l.length) => ix_str l n hn)
        have HE := Lib.hid hE
        have HV := Lib.hid hV
        have HF := Lib.hid hfit
        have HLI := Lib.hid hli
        generalize hbb : (l[i]).toNat = b at *
        have g1 : decide (i < l.length) = true := by simp; omega
        have g2 : decide ((i : Int) < 10) = true := by simp; omega
        have g2' : decide (i < 10) = true := by simp; omega
        have g3 : decide ((128 : Int) ≤ (b : Int)) = false := by simp; omega
        have g3' : decide (128 ≤ b) = false := by simp; omega
        have b10 : ((i : Int) == 10) = false := by simp; omega
        have bl : ((i : Int) == (l.length : Int)) = false := by simp; omega
        have bl' : (i == l.length) = false := by simp; omega
        have hi9 : i ≤ 9 := by omega
        have HIL := Lib.hid hix
        clear hE hV hfit hli hgi hK hK3 hK4 hbb hlow hf hix hlt HH hle hK1 hK2
        go_wp2_with fail
        go_loopw [7, 5, 6] (fun y u v wz => ∃ n : Nat, n ≤ i + 1 ∧ y = .int .i64 n ∧ u = .int .u64 ((varU (l.take n) % 18446744073709551616 : Nat) : Int) ∧ v = .int .u64 ((128 ^ n % 18446744073709551616 : Nat) : Int) ∧ wz = wr) (fun y _ _ _ => i + 1 - (intOf y).toNat)
        case atStart => exact ⟨0, Nat.zero_le _, rfl, rfl, rfl, rfl⟩
        case round =>
          obtain ⟨n, hn, rfl, rfl, rfl, rfl⟩ := hrel
          by_cases hlt : n < i + 1
          · have hnl : n < l.length := by have := HIL.out; omega
            have hxn := HIX.out n hnl
            have h8 := (l[n]).toNat_lt
            have hU := HU.out n hnl
            generalize hc : (l[n]).toNat = c8 at *
            have m1 : IntKind.u64.wrap (((128 ^ n % 18446744073709551616 : Nat) : Int) * ((c8 % 128 : Nat) : Int)) = ((128 ^ n * (c8 % 128) % 18446744073709551616 : Nat) : Int) := by rw [IntKind.wrap_u64, mulmod]
            have m2 : IntKind.u64.wrap (((varU (l.take n) % 18446744073709551616 : Nat) : Int) + ((128 ^ n * (c8 % 128) % 18446744073709551616 : Nat) : Int)) = ((varU (l.take (n + 1)) % 18446744073709551616 : Nat) : Int) := by rw [IntKind.wrap_u64, addmod, hU]
            have m3 : IntKind.u64.wrap (((128 ^ n % 18446744073709551616 : Nat) : Int) * 128) = ((128 ^ (n + 1) % 18446744073709551616 : Nat) : Int) := by rw [IntKind.wrap_u64, show (128 : Int) = ((128 : Nat) : Int) from rfl, mulmod, Nat.pow_succ]
            have m4 : IntKind.u8.wrap ((c8 : Int).tmod 128) = ((c8 % 128 : Nat) : Int) := by rw [IntKind.wrap_u8, Int.tmod_eq_emod_of_nonneg (by omega)]; omega
            have m5 : IntKind.u64.wrap ((c8 % 128 : Nat) : Int) = ((c8 % 128 : Nat) : Int) := by rw [IntKind.wrap_u64]; omega
            have m6 : (c8 : Int) % 128 = ((c8 % 128 : Nat) : Int) := by omega
            have q1 : decide ((n : Int) ≤ (i : Int)) = true := by simp; omega
            have q2 : decide (n ≤ i) = true := by simp; omega
            have P1 := Lib.hid hU
            clear hU hc
            generalize hu1 : varU (l.take (n + 1)) % 18446744073709551616 = U1 at *
            generalize varU (l.take n) % 18446744073709551616 = U0 at *
            generalize hb1 : 128 ^ (n + 1) % 18446744073709551616 = B1 at *
            generalize 128 ^ n * (c8 % 128) % 18446744073709551616 = P0 at *
            generalize 128 ^ n % 18446744073709551616 = B0 at *
            have hclt : c8 % 128 < 128 := Nat.mod_lt _ (by omega)
            generalize c8 % 128 = c at *
            have HU1 := Lib.hid hu1
            have HB1 := Lib.hid hb1
            clear hu1 hb1 P1
            go_wp2_with fail
            refine ⟨⟨n + 1, by omega, by go_num, by rw [HU1.out], by rw [HB1.out], trivial⟩, by simp [intOf]; omega⟩
          · obtain rfl : n = i + 1 := by omega
            have q1 : decide (((i + 1 : Nat) : Int) ≤ (i : Int)) = false := by simp; omega
            have q2 : decide (i + 1 ≤ i) = false := by simp
            have q3 : decide ((i : Int) + 1 ≤ (i : Int)) = false := by simp; omega
            have W6 := Lib.hid (show (i = 9 ∧ 1 < b) ∨ (0 < i ∧ b = 0) → varE l = 6 from fun h => by rw [HE.out, if_pos h])
            have W0 := Lib.hid (show ¬ ((i = 9 ∧ 1 < b) ∨ (0 < i ∧ b = 0)) → varE l = 0 from fun h => by rw [HE.out, if_neg h])
            have ways : (((i : Int) == 9) = true ∧ decide (1 < b) = true ∧ decide ((1 : Int) < (b : Int)) = true ∧ varE l = 6) ∨
                (((i : Int) == 9) = true ∧ decide (1 < b) = false ∧ decide ((1 : Int) < (b : Int)) = false ∧ decide (0 < i) = true ∧ ((b : Int) == 0) = true ∧ (b == 0) = true ∧ varE l = 6) ∨
                (((i : Int) == 9) = false ∧ decide (0 < i) = true ∧ ((b : Int) == 0) = true ∧ (b == 0) = true ∧ varE l = 6) ∨
                (((i : Int) == 9) = true ∧ decide (1 < b) = false ∧ decide ((1 : Int) < (b : Int)) = false ∧ decide (0 < i) = true ∧ ((b : Int) == 0) = false ∧ (b == 0) = false ∧ varE l = 0 ∧ varU (l.take (i + 1)) < 18446744073709551616) ∨
                (((i : Int) == 9) = false ∧ decide (0 < i) = true ∧ ((b : Int) == 0) = false ∧ (b == 0) = false ∧ varE l = 0 ∧ varU (l.take (i + 1)) < 18446744073709551616) ∨
                (((i : Int) == 9) = false ∧ decide (0 < i) = false ∧ varE l = 0 ∧ varU (l.take (i + 1)) < 18446744073709551616) := by
              have a6 := W6.out
              have a0 := W0.out
              have af := HF.out
              simp only [decide_eq_true_eq, decide_eq_false_iff_not, beq_iff_eq, beq_eq_false_iff_ne, ne_eq]
              by_cases c9 : i = 9
              · by_cases c1 : 1 < b
                · left; exact ⟨by omega, c1, by omega, a6 (Or.inl ⟨c9, c1⟩)⟩
                · by_cases cz : b = 0
                  · right; left; exact ⟨by omega, c1, by omega, by omega, by omega, cz, a6 (Or.inr ⟨by omega, cz⟩)⟩
                  · have hn : ¬ ((i = 9 ∧ 1 < b) ∨ (0 < i ∧ b = 0)) := by omega
                    right; right; right; left; exact ⟨by omega, c1, by omega, by omega, by omega, cz, a0 hn, af hn⟩
              · by_cases cp : 0 < i
                · by_cases cz : b = 0
                  · right; right; left; exact ⟨by omega, cp, by omega, cz, a6 (Or.inr ⟨cp, cz⟩)⟩
                  · have hn : ¬ ((i = 9 ∧ 1 < b) ∨ (0 < i ∧ b = 0)) := by omega
                    right; right; right; right; left; exact ⟨by omega, cp, by omega, cz, a0 hn, af hn⟩
                · have hn : ¬ ((i = 9 ∧ 1 < b) ∨ (0 < i ∧ b = 0)) := by omega
                  right; right; right; right; right; exact ⟨by omega, cp, a0 hn, af hn⟩
            clear W6 W0
            rcases ways with ⟨e9, p1, p1', e6'⟩ | ⟨e9, p1, p1', p2, z1, z2, e6'⟩ | ⟨e9, p2, z1, z2, e6'⟩ | ⟨e9, p1, p1', p2, z1, z2, e0', hlt'⟩ | ⟨e9, p2, z1, z2, e0', hlt'⟩ | ⟨e9, p2, e0', hlt'⟩
            iterate 3
              next =>
                have hE : varE l = 6 := by exact e6'
                have HE := Lib.hid hE
                clear hE
                have q0 := HY.out.cell 0
                have q1 := HY.out.cell 1
                have ly := HY.out.lt
                have fz := HY.out.fr
                have g0 := show BoxV _ (w.heap.size + 1) 38 #[.string (S l), .int .i64 0] from HY.out.set 0 (.string (S l))
                have G := Lib.hid (show BoxV _ (w.heap.size + 1) 38 #[.string (S l), .int .i64 6] from g0.set 1 (.int .i64 6))
                have ts := ((Touch.refl [w.heap.size + 1] wr).setCell (a := ⟨w.heap.size + 1, 0, none⟩) (Or.inl (by simp)) (.string (S l))).setCell (a := ⟨w.heap.size + 1, 1, none⟩) (Or.inl (by simp)) (.int .i64 6)
                have T2 := Lib.hid (HT.out.trans ts (by intro b hb; simp at hb; omega))
                clear g0 ts
                go_wp2_with fail
                have d0 := G.out.cell 0
                have d1 := G.out.cell 1
                refine bodyPost_ret (v := .tuple #[.agg #[.string (S l), .int .i64 6], .int .i64 0]) (by simp [results, Try.results25, go_sem, d0, d1]) rfl ?_
                exact ⟨fun h => by rw [HE.out] at h; omega, fun _ => ⟨by rw [HE.out], T2.out⟩⟩
            all_goals
              have hmod : varU (l.take (i + 1)) % 18446744073709551616 = varU (l.take (i + 1)) := Nat.mod_eq_of_lt hlt'
              rw [hmod]
              have SG := Lib.hid (fun w => refSigned (varU (l.take (i + 1))) hlt' w)
              have s2 := S_drop l (i + 1)
              have hv' := HV.out
              rw [← hv'] at SG
              have E0 := Lib.hid e0'
              have hln := HIL.out
              have hle1 : (i : Int) + 1 ≤ (l.length : Int) := by omega
              have fw : IntKind.i64.wrap ((i : Int) + 1) = (i : Int) + 1 := by rw [IntKind.wrap_i64]; omega
              clear hmod hv' e0' hlt'
              generalize varU (l.take (i + 1)) = X at *
              generalize hvV : varV l = V at *
              have HVV := Lib.hid hvV
              clear hvV
              have r0 := HY.out.cell 0
              have r1 := HY.out.cell 1
              have ly := HY.out.lt
              have fz := HY.out.fr
              go_upto_region 18 with fail
              go_region_with (go_at_call 36; refine (SG.out _).mono ?_; rintro e w2 ⟨rfl, rfl⟩)
              all_goals go_wp2_with fail
              all_goals
                have g0 := show BoxV _ (w.heap.size + 1) 38 #[.string (S (l.drop (i + 1))), .int .i64 0] from HY.out.set 0 (.string (S (l.drop (i + 1))))
                have g1 := show BoxV _ (w.heap.size + 1) 38 #[.string (S (l.drop (i + 1))), .int .i64 0] from g0.set 1 (.int .i64 0)
                have b0 := g0.cell 0
                have d0 := g1.cell 0
                have d1 := g1.cell 1
                refine bodyPost_ret (v := .tuple #[.agg #[.string (S (l.drop (i + 1))), .int .i64 0], .int .i64 V]) (by simp [results, Try.results25, go_sem, d0, d1, b0]) rfl ?_
                exact ⟨fun _ => ⟨by rw [HLI.out, HVV.out], ((HT.out.setCell (a := ⟨w.heap.size + 1, 0, none⟩) (Or.inr (by simp)) (.string (S (l.drop (i + 1))))).setCell (a := ⟨w.heap.size + 1, 1, none⟩) (Or.inr (by simp)) (.int .i64 0)).drew⟩, fun h => absurd E0.out h⟩
      · have e5 : l.length < 10 → varE l = 5 := fun h => by unfold varE; rw [dif_neg hf, if_neg (by omega)]
        have e6 : 10 ≤ l.length → varE l = 6 := fun h => by unfold varE; rw [dif_neg hf, if_pos h]
        by_cases h10 : i = 10
        · have b10 : ((i : Int) == 10) = true := by simp; omega
          have g2 : decide ((i : Int) < 10) = false := by simp; omega
          have h10l : 10 ≤ l.length := by omega
          have g2' : decide (i < 10) = false := by simp; omega
          rcases (show decide (i < l.length) = true ∨ decide (i < l.length) = false by cases decide (i < l.length) <;> simp) with g1 | g1
          all_goals
            have H10 := Lib.hid h10
            have e6' := e6 h10l
            clear h10 hK hK3 hK4 e5 e6
            have hE : varE l = 6 := by exact e6'
            have HE := Lib.hid hE
            clear hE
            have q0 := HY.out.cell 0
            have q1 := HY.out.cell 1
            have ly := HY.out.lt
            have fz := HY.out.fr
            have g0 := show BoxV _ (w.heap.size + 1) 38 #[.string (S l), .int .i64 0] from HY.out.set 0 (.string (S l))
            have G := Lib.hid (show BoxV _ (w.heap.size + 1) 38 #[.string (S l), .int .i64 6] from g0.set 1 (.int .i64 6))
            have ts := ((Touch.refl [w.heap.size + 1] wr).setCell (a := ⟨w.heap.size + 1, 0, none⟩) (Or.inl (by simp)) (.string (S l))).setCell (a := ⟨w.heap.size + 1, 1, none⟩) (Or.inl (by simp)) (.int .i64 6)
            have T2 := Lib.hid (HT.out.trans ts (by intro b hb; simp at hb; omega))
            clear g0 ts
            go_wp2_with fail
            have d0 := G.out.cell 0
            have d1 := G.out.cell 1
            refine bodyPost_ret (v := .tuple #[.agg #[.string (S l), .int .i64 6], .int .i64 0]) (by simp [results, Try.results25, go_sem, d0, d1]) rfl ?_
            exact ⟨fun h => by rw [HE.out] at h; omega, fun _ => ⟨by rw [HE.out], T2.out⟩⟩
        · have hlen : i = l.length := by omega
          have b10 : ((i : Int) == 10) = false := by simp; omega
          have g1 : decide (i < l.length) = false := by simp; omega
          have bl : ((i : Int) == (l.length : Int)) = true := by simp; omega
          have bl' : (i == l.length) = true := by simp; omega
          have e5' := e5 (by omega)
          clear h10 hK hK3 hK4 e5 e6 hlen
          have hE : varE l = 5 := by exact e5'
          have HE := Lib.hid hE
          clear hE
          have q0 := HY.out.cell 0
          have q1 := HY.out.cell 1
          have ly := HY.out.lt
          have fz := HY.out.fr
          have g0 := show BoxV _ (w.heap.size + 1) 38 #[.string (S l), .int .i64 0] from HY.out.set 0 (.string (S l))
          have G := Lib.hid (show BoxV _ (w.heap.size + 1) 38 #[.string (S l), .int .i64 5] from g0.set 1 (.int .i64 5))
          have ts := ((Touch.refl [w.heap.size + 1] wr).setCell (a := ⟨w.heap.size + 1, 0, none⟩) (Or.inl (by simp)) (.string (S l))).setCell (a := ⟨w.heap.size + 1, 1, none⟩) (Or.inl (by simp)) (.int .i64 5)
          have T2 := Lib.hid (HT.out.trans ts (by intro b hb; simp at hb; omega))
          clear g0 ts
          go_wp2_with fail
          have d0 := G.out.cell 0
          have d1 := G.out.cell 1
          refine bodyPost_ret (v := .tuple #[.agg #[.string (S l), .int .i64 5], .int .i64 0]) (by simp [results, Try.results25, go_sem, d0, d1]) rfl ?_
          exact ⟨fun h => by rw [HE.out] at h; omega, fun _ => ⟨by rw [HE.out], T2.out⟩⟩
end Go.Proofs.Ytpmnnaghadpnnaa
