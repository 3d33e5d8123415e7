/-
  Contracts of layer 17 (class) that only read: Right, Units, Borrows, and the reference's Right and Units.
-/
import Derived.Test.YtcfogoepoghedaaShareRefUnits
import Derived.Test.YtcfogoepoghedaaShareLess
import Derived.Test.YtcfogoepoghedaaMem
import Derived.Lib.SmallJoins
namespace Go.Proofs.Ytcfogoepoghedaa
open Go.ChangeShapes Go.WideShapes Go.ChangeAt Go.RowKit Go.Joins Go.Deep
set_option linter.unusedVariables false

/-- A class by its fields. -/
structure Cl where
  id : Int
  parent : Int
  share : Nat
  prio : Int
  quantum : Int
  limit : Int
  weight : Int
  minIdle : Int
  maxIdle : Int
  bounded : Bool
  isolated : Bool
def Cl.cells (c : Cl) : Array Value := #[.int .i64 c.id, .int .i64 c.parent, .float .f64 c.share, .int .i64 c.prio, .int .i64 c.quantum, .int .i64 c.limit, .int .i64 c.weight, .int .i64 c.minIdle, .int .i64 c.maxIdle, .bool c.bounded, .bool c.isolated]
def In64 (n : Int) : Prop := -9223372036854775808 ≤ n ∧ n ≤ 9223372036854775807

instance (x : Nat) : Decidable (isN x) := by unfold isN; infer_instance
section
variable {w w2 : World} {cs : Array Value} {T : TypeId}
theorem kept (t : Touch [] (w.alloc (.cells cs T)) w2) (j : Nat) (v : Value) (h : cs[j]? = some v) : w2.cell? ⟨w.heap.size, j, none⟩ = some v := by
  rw [t.cell (by rw [nblk_alloc]; exact Nat.lt_succ_self _) (by simp), cell_of_row _ w.heap.size j cs T (0, 0) (heap_alloc_new w _), h]
theorem kept_lt (t : Touch [] (w.alloc (.cells cs T)) w2) : w.heap.size < w2.heap.size := by
  have := t.size
  rw [nblk_alloc] at this
  omega
end
/-- What share's Units says of a float: its units, its error. -/
def unitE (x : Nat) : Int := if isN x then 21 else if key x < 0 ∨ 4607182418800017408 < key x then 2 else 0
def unitU (x : Nat) : Int := if isN x then 0 else if key x < 0 ∨ 4607182418800017408 < key x then 0 else (unitsOf x : Int)
theorem unit_nan {x : Nat} (h : isN x) : unitE x = 21 ∧ unitU x = 0 := by unfold unitE unitU; rw [if_pos h, if_pos h]; exact ⟨rfl, rfl⟩
theorem unit_out {x : Nat} (h : ¬ isN x) (k : key x < 0 ∨ 4607182418800017408 < key x) : unitE x = 2 ∧ unitU x = 0 := by unfold unitE unitU; rw [if_neg h, if_neg h, if_pos k, if_pos k]; exact ⟨rfl, rfl⟩
theorem unit_in {x : Nat} (h : ¬ isN x) (k : ¬ (key x < 0 ∨ 4607182418800017408 < key x)) : unitE x = 0 ∧ unitU x = unitsOf x := by unfold unitE unitU; rw [if_neg h, if_neg h, if_neg k, if_neg k]; exact ⟨rfl, rfl⟩

theorem shareUnits (x : Nat) (h64 : x < 18446744073709551616) (w : World) : Calls Try.prog 49 #[.float .f64 x] w fun e w' => e = .returned (tup2 (unitU x) (unitE x)) ∧ w' = w := by
  rcases share_ways x h64 with hn | ⟨hn, h1, hk⟩ | ⟨hn, h1, hk⟩ | ⟨hn, h0, h1, hr, hs, hk⟩
  · rw [(unit_nan hn).1, (unit_nan hn).2]
    exact units_nan x h64 hn w
  · rw [(unit_out hn (.inl h1)).1, (unit_out hn (.inl h1)).2]
    exact units_below x h64 hk w
  · rw [(unit_out hn (.inr h1)).1, (unit_out hn (.inr h1)).2]
    exact units_above x h64 hn h1 hk w
  · rw [(unit_in hn (by omega)).1, (unit_in hn (by omega)).2]
    exact units_in x h64 hn h1 hr hs hk w
theorem refShareUnits (x : Nat) (h64 : x < 18446744073709551616) (w : World) : Calls Try.prog 37 #[.float .f64 x] w fun e w' => e = .returned (tup2 (unitU x) (unitE x)) ∧ w' = w := by
  rcases share_ways x h64 with hn | ⟨hn, h1, hk⟩ | ⟨hn, h1, hk⟩ | ⟨hn, h0, h1, hr, hs, hk⟩
  · rw [(unit_nan hn).1, (unit_nan hn).2]
    exact refUnits_nan x hn w
  · rw [(unit_out hn (.inl h1)).1, (unit_out hn (.inl h1)).2]
    exact refUnits_out x hn (.inl h1) w
  · rw [(unit_out hn (.inr h1)).1, (unit_out hn (.inr h1)).2]
    exact refUnits_out x hn (.inr h1) w
  · rw [(unit_in hn (by omega)).1, (unit_in hn (by omega)).2]
    exact refUnits_in x hn h0 h1 hr hs w
theorem unit_bd (x : Nat) (h64 : x < 18446744073709551616) : 0 ≤ unitU x ∧ unitU x ≤ 1048576 ∧ (isN x ↔ unitE x = 21) ∧ (unitE x = 0 ∨ unitU x = 0) := by
  rcases share_ways x h64 with hn | ⟨hn, h1, hk⟩ | ⟨hn, h1, hk⟩ | ⟨hn, h0, h1, hr, hs, hk⟩
  · have := unit_nan hn
    simp [this, hn]
  · have := unit_out hn (.inl h1)
    simp [this, hn]
  · have := unit_out hn (.inr h1)
    simp [this, hn]
  · have := unit_in hn (by omega)
    have := units_le x hr
    refine ⟨by omega, by omega, ?_, by omega⟩
    constructor
    · intro h; exact absurd h hn
    · omega

/-- The error of a class's parameters. -/
def rightV (c : Cl) : Int :=
  if ¬ (1 ≤ c.id ∧ c.id ≤ 65535 ∧ 0 ≤ c.parent ∧ c.parent ≤ 65535) then 2
  else if c.parent = c.id then 11
  else if unitE c.share = 21 then 21
  else if unitU c.share = 0 then 13
  else if ¬ (0 ≤ c.prio ∧ c.prio ≤ 7) then 14
  else if ¬ (1 ≤ c.quantum ∧ c.quantum ≤ 65536 ∧ 1 ≤ c.limit ∧ c.limit ≤ 1024) then 16
  else if ¬ (0 ≤ c.weight ∧ c.weight ≤ 16 ∧ -1099511627776 ≤ c.minIdle ∧ c.minIdle ≤ 0 ∧ 0 ≤ c.maxIdle ∧ c.maxIdle ≤ 1099511627776) then 2
  else 0
theorem right_zero {c : Cl} (h : rightV c = 0) : 0 ≤ c.weight ∧ c.weight ≤ 16 ∧ -1099511627776 ≤ c.minIdle ∧ c.minIdle ≤ 0 ∧ 0 ≤ c.maxIdle ∧ c.maxIdle ≤ 1099511627776 := by
  unfold rightV at h
  repeat' split at h
  all_goals first | omega | (rename_i k; exact Decidable.of_not_not k)

def inn (n a b : Int) : Bool := decide (a ≤ n ∧ n ≤ b)
theorem within_any (n a b : Int) (w : World) : Calls Try.prog 43 #[.int .i64 n, .int .i64 a, .int .i64 b] w fun e w' => e = .returned (.bool (inn n a b)) ∧ w' = w := by
  by_cases h : a ≤ n
  · by_cases k : n ≤ b
    · have e : inn n a b = true := by unfold inn; simp [h, k]
      rw [e]
      go_enter Try.func43, Try.ntmps43
      go_wp2
      go_ret
      exact ⟨rfl, rfl⟩
    · have e : inn n a b = false := by unfold inn; simp [h]; omega
      rw [e]
      have k' : decide (n ≤ b) = false := by simp; omega
      clear k
      go_enter Try.func43, Try.ntmps43
      go_wp2
      go_ret
      exact ⟨rfl, rfl⟩
  · have e : inn n a b = false := by unfold inn; simp; omega
    rw [e]
    go_enter Try.func43, Try.ntmps43
    go_wp2
    go_ret
    exact ⟨rfl, rfl⟩

theorem classUnits (c : Cl) (h64 : c.share < 18446744073709551616) (w : World) : Calls Try.prog 45 #[.agg c.cells] w fun e w' => e = .returned (.int .i64 (unitU c.share)) ∧ Touch [] w w' := by
  have K := Lib.hid (fun w => shareUnits c.share h64 w)
  unfold Cl.cells
  generalize unitU c.share = u at *
  generalize unitE c.share = e at *
  clear h64
  go_enter Try.func45, Try.ntmps45
  go_wp2_with fail
  refine (K.out _).mono ?_
  rintro e w' ⟨rfl, rfl⟩
  unfold tup2
  go_wp2_with fail
  go_ret
  exact ⟨rfl, (Touch.refl _ _).alloc _⟩
end Go.Proofs.Ytcfogoepoghedaa
