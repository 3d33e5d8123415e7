/-
  The contract of sat.divide: the quotient, as long as it is within the bound, and whether something is left.
-/
import Derived.Test.YtbhjljffcgfcdaaSatMul
import Derived.WalkMore
import Derived.Deep.LoopGhost
namespace Go.Proofs.Ytbhjljffcgfcdaa
open Go.ChangeShapes Go.WideShapes Go.ChangeAt Go.RowKit Go.Joins
set_option linter.unusedVariables false

def DivRes (N c : Nat) (q : Int) (r : Bool) : Prop :=
  0 ≤ q ∧ q ≤ 2305843009213693953 ∧ (N / c ≤ 1152921504606846976 → q = (N / c : Nat) ∧ r = decide (0 < N % c)) ∧ (1152921504606846976 < N / c → 1152921504606846976 < q)
def DivPost (N c : Nat) (w : World) (e : Ending) (w' : World) : Prop := ∃ (q : Int) (r : Bool), DivRes N c q r ∧ e = .returned (.tuple #[.int .i64 q, .bool r]) ∧ Below w.heap.size w w'

/-- What has been read of the number when k words are still to come. -/
def pre (lo hi : Nat) : Nat → Nat
  | 0 => hi * 18446744073709551616 + lo
  | 1 => hi
  | _ => 0
/-- .. and, inside a word, when j bits of it are. -/
def mid (A W j : Nat) : Nat := A * 2 ^ (64 - j) + W / 2 ^ j

theorem mid_step (A W j : Nat) (h : j + 1 ≤ 64) : mid A W j = 2 * mid A W (j + 1) + W / 2 ^ j % 2 := by
  unfold mid
  have e1 : 64 - j = (64 - (j + 1)) + 1 := by omega
  rw [e1, Nat.pow_succ, ← Nat.mul_assoc, Nat.pow_succ, ← Nat.div_div_eq_div_mul]
  omega
theorem mid_start (A W : Nat) (h : W < 18446744073709551616) : mid A W 64 = A := by
  unfold mid
  rw [Nat.div_eq_of_lt (by simpa using h)]
  simp
theorem mid_end (A W : Nat) : mid A W 0 = A * 18446744073709551616 + W := by
  unfold mid
  simp
theorem mid_le (A W : Nat) : ∀ j, j ≤ 64 → mid A W j ≤ A * 18446744073709551616 + W
  | 0, _ => by rw [mid_end]; exact Nat.le_refl _
  | j + 1, h => by
    have := mid_le A W j (by omega)
    rw [mid_step A W j h] at this
    omega
theorem mid0_le (lo hi j : Nat) (h : j ≤ 64) : mid 0 hi j ≤ hi * 18446744073709551616 + lo := by
  have h1 := mid_le 0 hi j h
  rw [Nat.zero_mul, Nat.zero_add] at h1
  have h2 : hi * 1 ≤ hi * 18446744073709551616 := Nat.mul_le_mul_left hi (by omega)
  exact Nat.le_trans h1 (Nat.le_trans (by simpa using h2) (Nat.le_add_right _ _))
theorem div_up (S b c : Nat) (hc : 0 < c) (hb : b < 2) (h : c ≤ 2 * (S % c) + b) : (2 * S + b) / c = 2 * (S / c) + 1 ∧ (2 * S + b) % c = 2 * (S % c) + b - c := by
  have hs := Nat.div_add_mod S c
  have hm := Nat.mod_lt S hc
  generalize S / c = x at *
  generalize S % c = y at *
  have e : 2 * S + b = (2 * y + b - c) + c * (2 * x + 1) := by
    rw [← hs, Nat.mul_add c (2 * x) 1, Nat.mul_left_comm c 2 x]
    omega
  have hlt : 2 * y + b - c < c := by omega
  rw [e, Nat.add_mul_div_left _ _ hc, Nat.add_mul_mod_self_left, Nat.div_eq_of_lt hlt, Nat.mod_eq_of_lt hlt]
  exact ⟨by omega, rfl⟩
theorem div_down (S b c : Nat) (hc : 0 < c) (hb : b < 2) (h : 2 * (S % c) + b < c) : (2 * S + b) / c = 2 * (S / c) ∧ (2 * S + b) % c = 2 * (S % c) + b := by
  have hs := Nat.div_add_mod S c
  generalize S / c = x at *
  generalize S % c = y at *
  have e : 2 * S + b = (2 * y + b) + c * (2 * x) := by
    rw [← hs, Nat.mul_left_comm c 2 x]
    omega
  rw [e, Nat.add_mul_div_left _ _ hc, Nat.add_mul_mod_self_left, Nat.div_eq_of_lt h, Nat.mod_eq_of_lt h]
  exact ⟨by omega, rfl⟩

/-- The run leaves early: the quotient so far is above the bound, and so is the whole one. -/
theorem res_big {N S c : Nat} {q : Int} {r : Bool} (hS : S ≤ N) (hq : q = (S / c : Nat)) (h : 1152921504606846976 < q) (h' : q ≤ 2305843009213693953) : DivRes N c q r := by
  have : S / c ≤ N / c := Nat.div_le_div_right hS
  exact ⟨by omega, h', fun hn => absurd hn (by omega), fun _ => h⟩
theorem res_whole {N c : Nat} {q y : Int} (hq : q = (N / c : Nat)) (hy : y = (N % c : Nat)) (h : q ≤ 1152921504606846976) : DivRes N c q (decide (0 < y)) :=
  ⟨by rw [hq]; exact Int.natCast_nonneg _, by omega, fun _ => ⟨hq, by rw [hy, decide_eq_decide]; omega⟩, fun hn => by omega⟩

theorem bit_and (W j : Nat) (h : W < 18446744073709551616) : bits .and .u64 ((W : Int) / 2 ^ j) 1 = ((W / 2 ^ j % 2 : Nat) : Int) := by
  have hw : W / 2 ^ j < 18446744073709551616 := Nat.lt_of_le_of_lt (Nat.div_le_self _ _) h
  have := u64_and_nat (W / 2 ^ j) 1 hw (by omega)
  rw [nat_mask1] at this
  rw [← this]
  congr 1
theorem bit_or (y b : Int) (hy : 0 ≤ y) (hy' : y ≤ 1152921504606846976) (hb : 0 ≤ b) (hb' : b < 2) : bits .or .u64 (y * 2) b = 2 * y + b := by
  obtain ⟨u, rfl⟩ := Int.eq_ofNat_of_zero_le hy
  obtain ⟨v, rfl⟩ := Int.eq_ofNat_of_zero_le hb
  have h := u64_or_nat (u * 2) v (by omega) (by omega)
  rw [nat_join 1 (u * 2) v (by omega) (by omega)] at h
  rw [show ((u : Int) * 2) = ((u * 2 : Nat) : Int) by omega, h]
  omega
theorem or_one (x : Int) (hx : 0 ≤ x) (hx' : x ≤ 1152921504606846976) : bits .or .i64 (x * 2) 1 = 2 * x + 1 := by
  obtain ⟨u, rfl⟩ := Int.eq_ofNat_of_zero_le hx
  have e1 : (BitVec.ofInt 64 ((u * 2 : Nat) : Int)).toNat = u * 2 := by
    rw [BitVec.ofInt_natCast, BitVec.toNat_ofNat]; exact Nat.mod_eq_of_lt (by omega)
  rw [show ((u : Int) * 2) = ((u * 2 : Nat) : Int) by omega]
  show IntKind.i64.wrap ((BitVec.ofInt 64 ((u * 2 : Nat) : Int) ||| BitVec.ofInt 64 1).toNat : Int) = _
  rw [BitVec.toNat_or, e1, show (BitVec.ofInt 64 1).toNat = 1 from rfl, nat_join 1 (u * 2) 1 (by omega) (by omega), IntKind.wrap_i64]
  omega

set_option maxHeartbeats 2000000 in
theorem divide_any (lo hi c : Nat) (hlo : lo < 18446744073709551616) (hhi : hi < 18446744073709551616) (hc : 0 < c) (hc' : c ≤ 1152921504606846976) (w : World) :
    Calls Try.prog 58 #[.agg #[.int .u64 lo, .int .u64 hi], .int .u64 c] w (DivPost (hi * 18446744073709551616 + lo) c w) := by
  go_enter Try.func58, Try.ntmps58
  go_wp2
  go_step3
  go_wp2
  go_step3
  go_wp2
  go_loopg [4, 6, 7] 2 (fun k q l h wr => ∃ (x y z : Int), q = .int .i64 x ∧ l = .int .u64 y ∧ h = .int .i64 z ∧ z + 1 = k ∧ k ≤ 2 ∧ x = (pre lo hi k / c : Nat) ∧ y = (pre lo hi k % c : Nat) ∧ x ≤ 1152921504606846976 ∧ wr = w.alloc (.cells #[.int .u64 lo, .int .u64 hi] 63))
  case atStart => exact ⟨0, 0, 1, rfl, rfl, rfl, by omega, by omega, by simp [pre], by simp [pre], by omega, rfl⟩
  case round =>
    obtain ⟨x, y, z, rfl, rfl, rfl, hz, hk, hx, hy, hxm, rfl⟩ := hrel
    have bx : 0 ≤ x := by rw [hx]; exact Int.natCast_nonneg _
    have bY : 0 ≤ y := by rw [hy]; exact Int.natCast_nonneg _
    have bY' : y < c := by rw [hy]; exact Int.ofNat_lt.2 (Nat.mod_lt _ hc)
    have HX := Lib.hid hx
    have HY := Lib.hid hy
    clear hx hy
    rcases (show gk = 0 ∨ gk = 1 ∨ gk = 2 by omega) with rfl | rfl | rfl
    · obtain rfl : z = -1 := by omega
      clear hz
      go_wp2
      try rw [Exit.noGoto_ret]
      go_ret2
      exact ⟨x, decide (0 < y), res_whole HX.out HY.out hxm, rfl, (below_alloc1 w _)⟩
    · obtain rfl : z = 0 := by omega
      clear hz
      go_wp2
      go_loopg [4, 6, 8] 64 (fun j q l b wr => ∃ (x y z : Int), q = .int .i64 x ∧ l = .int .u64 y ∧ b = .int .i64 z ∧ z + 1 = j ∧ j ≤ 64 ∧ x = (mid hi lo j / c : Nat) ∧ y = (mid hi lo j % c : Nat) ∧ x ≤ 1152921504606846976 ∧ wr = w.alloc (.cells #[.int .u64 lo, .int .u64 hi] 63))
      case atStart => exact ⟨x, y, 63, rfl, rfl, rfl, by omega, by omega, by rw [mid_start _ _ hlo]; exact HX.out, by rw [mid_start _ _ hlo]; exact HY.out, hxm, rfl⟩
      case round =>
        clear HX HY bx bY bY' hxm
        obtain ⟨x', y', z', rfl, rfl, rfl, hz, hj, hx, hy, hxm', rfl⟩ := hrel
        have bx' : 0 ≤ x' := by rw [hx]; exact Int.natCast_nonneg _
        have bY : 0 ≤ y' := by rw [hy]; exact Int.natCast_nonneg _
        have bY' : y' < c := by rw [hy]; exact Int.ofNat_lt.2 (Nat.mod_lt _ hc)
        rcases Nat.eq_zero_or_pos gk with rfl | hpos
        · obtain rfl : z' = -1 := by omega
          rw [mid_end] at hx hy
          have HX' := Lib.hid hx
          have HY' := Lib.hid hy
          clear hx hy hz
          go_wp2
          go_roundg 0
          case measure => omega
          case rel => exact ⟨x', y', 0 - 1, rfl, rfl, rfl, by omega, by omega, by rw [HX'.out]; simp [pre], by rw [HY'.out]; simp [pre], hxm', rfl⟩
        · obtain ⟨j, rfl⟩ : ∃ j, gk = j + 1 := ⟨gk - 1, by omega⟩
          obtain rfl : z' = j := by omega
          clear hz hpos
          have hle := mid_le hi lo j (by omega)
          have hN : mid hi lo j ≤ hi * 18446744073709551616 + lo := hle
          clear hle
          have hst := mid_step hi lo j hj
          have hand := bit_and lo j hlo
          have hb2 : lo / 2 ^ j % 2 < 2 := Nat.mod_lt _ (by omega)
          generalize lo / 2 ^ j % 2 = bt at *
          have hor := bit_or y' bt bY (by omega) (by omega) (by omega)
          have ho1 := or_one x' bx' hxm'
          rcases Nat.lt_or_ge (2 * (mid hi lo (j + 1) % c) + bt) c with hd | hd
          · have hq := div_down (mid hi lo (j + 1)) bt c hc hb2 hd
            rw [← hst] at hq
            have hlt : ¬ (c : Int) ≤ 2 * y' + bt := by omega
            have hx2 : x' * 2 = (mid hi lo j / c : Nat) := by rw [hq.1, hx]; omega
            have hy2 : 2 * y' + bt = (mid hi lo j % c : Nat) := by rw [hq.2, hy]; omega
            have HX2 := Lib.hid hx2
            have HY2 := Lib.hid hy2
            clear hx hy hx2 hy2 hst hq hd ho1
            by_cases hbig : 1152921504606846976 < x' * 2
            · go_wp2
              try rw [Exit.noGoto_ret]
              go_ret2
              exact ⟨x' * 2, _, res_big hN HX2.out hbig (by omega), rfl, (below_alloc1 w _)⟩
            · go_wp2
              go_roundg j
              case measure => omega
              case rel => exact ⟨x' * 2, 2 * y' + bt, (j : Int) - 1, rfl, rfl, rfl, by omega, by omega, HX2.out, HY2.out, by omega, rfl⟩
          · have hq := div_up (mid hi lo (j + 1)) bt c hc hb2 hd
            rw [← hst] at hq
            have hlt : (c : Int) ≤ 2 * y' + bt := by omega
            have hx2 : 2 * x' + 1 = (mid hi lo j / c : Nat) := by rw [hq.1, hx]; omega
            have hy2 : 2 * y' + bt - c = (mid hi lo j % c : Nat) := by rw [hq.2, hy]; omega
            have HX2 := Lib.hid hx2
            have HY2 := Lib.hid hy2
            clear hx hy hx2 hy2 hst hq hd
            by_cases hbig : 1152921504606846976 < 2 * x' + 1
            · go_wp2
              try rw [Exit.noGoto_ret]
              go_ret2
              exact ⟨2 * x' + 1, _, res_big hN HX2.out hbig (by omega), rfl, (below_alloc1 w _)⟩
            · go_wp2
              go_roundg j
              case measure => omega
              case rel => exact ⟨2 * x' + 1, 2 * y' + bt - c, (j : Int) - 1, rfl, rfl, rfl, by omega, by omega, HX2.out, HY2.out, by omega, rfl⟩
    · obtain rfl : z = 1 := by omega
      clear hz
      go_wp2
      go_loopg [4, 6, 8] 64 (fun j q l b wr => ∃ (x y z : Int), q = .int .i64 x ∧ l = .int .u64 y ∧ b = .int .i64 z ∧ z + 1 = j ∧ j ≤ 64 ∧ x = (mid 0 hi j / c : Nat) ∧ y = (mid 0 hi j % c : Nat) ∧ x ≤ 1152921504606846976 ∧ wr = w.alloc (.cells #[.int .u64 lo, .int .u64 hi] 63))
      case atStart => exact ⟨x, y, 63, rfl, rfl, rfl, by omega, by omega, by rw [mid_start _ _ hhi]; exact HX.out, by rw [mid_start _ _ hhi]; exact HY.out, hxm, rfl⟩
      case round =>
        clear HX HY bx bY bY' hxm
        obtain ⟨x', y', z', rfl, rfl, rfl, hz, hj, hx, hy, hxm', rfl⟩ := hrel
        have bx' : 0 ≤ x' := by rw [hx]; exact Int.natCast_nonneg _
        have bY : 0 ≤ y' := by rw [hy]; exact Int.natCast_nonneg _
        have bY' : y' < c := by rw [hy]; exact Int.ofNat_lt.2 (Nat.mod_lt _ hc)
        rcases Nat.eq_zero_or_pos gk with rfl | hpos
        · obtain rfl : z' = -1 := by omega
          rw [mid_end] at hx hy
          have HX' := Lib.hid hx
          have HY' := Lib.hid hy
          clear hx hy hz
          go_wp2
          go_roundg 1
          case measure => omega
          case rel => exact ⟨x', y', 1 - 1, rfl, rfl, rfl, by omega, by omega, by rw [HX'.out]; simp [pre], by rw [HY'.out]; simp [pre], hxm', rfl⟩
        · obtain ⟨j, rfl⟩ : ∃ j, gk = j + 1 := ⟨gk - 1, by omega⟩
          obtain rfl : z' = j := by omega
          clear hz hpos
          have hle := mid_le 0 hi j (by omega)
          have hN : mid 0 hi j ≤ hi * 18446744073709551616 + lo := mid0_le lo hi j (by omega)
          clear hle
          have hst := mid_step 0 hi j hj
          have hand := bit_and hi j hhi
          have hb2 : hi / 2 ^ j % 2 < 2 := Nat.mod_lt _ (by omega)
          generalize hi / 2 ^ j % 2 = bt at *
          have hor := bit_or y' bt bY (by omega) (by omega) (by omega)
          have ho1 := or_one x' bx' hxm'
          rcases Nat.lt_or_ge (2 * (mid 0 hi (j + 1) % c) + bt) c with hd | hd
          · have hq := div_down (mid 0 hi (j + 1)) bt c hc hb2 hd
            rw [← hst] at hq
            have hlt : ¬ (c : Int) ≤ 2 * y' + bt := by omega
            have hx2 : x' * 2 = (mid 0 hi j / c : Nat) := by rw [hq.1, hx]; omega
            have hy2 : 2 * y' + bt = (mid 0 hi j % c : Nat) := by rw [hq.2, hy]; omega
            have HX2 := Lib.hid hx2
            have HY2 := Lib.hid hy2
            clear hx hy hx2 hy2 hst hq hd ho1
            by_cases hbig : 1152921504606846976 < x' * 2
            · go_wp2
              try rw [Exit.noGoto_ret]
              go_ret2
              exact ⟨x' * 2, _, res_big hN HX2.out hbig (by omega), rfl, (below_alloc1 w _)⟩
            · go_wp2
              go_roundg j
              case measure => omega
              case rel => exact ⟨x' * 2, 2 * y' + bt, (j : Int) - 1, rfl, rfl, rfl, by omega, by omega, HX2.out, HY2.out, by omega, rfl⟩
          · have hq := div_up (mid 0 hi (j + 1)) bt c hc hb2 hd
            rw [← hst] at hq
            have hlt : (c : Int) ≤ 2 * y' + bt := by omega
            have hx2 : 2 * x' + 1 = (mid 0 hi j / c : Nat) := by rw [hq.1, hx]; omega
            have hy2 : 2 * y' + bt - c = (mid 0 hi j % c : Nat) := by rw [hq.2, hy]; omega
            have HX2 := Lib.hid hx2
            have HY2 := Lib.hid hy2
            clear hx hy hx2 hy2 hst hq hd
            by_cases hbig : 1152921504606846976 < 2 * x' + 1
            · go_wp2
              try rw [Exit.noGoto_ret]
              go_ret2
              exact ⟨2 * x' + 1, _, res_big hN HX2.out hbig (by omega), rfl, (below_alloc1 w _)⟩
            · go_wp2
              go_roundg j
              case measure => omega
              case rel => exact ⟨2 * x' + 1, 2 * y' + bt - c, (j : Int) - 1, rfl, rfl, rfl, by omega, by omega, HX2.out, HY2.out, by omega, rfl⟩
end Go.Proofs.Ytbhjljffcgfcdaa
