/-
  Contracts of layer 30 (credit).
-/
import Derived.Test.YtcggpgjnjfjfnaaBox
import Derived.Test.YtcggpgjnjfjfnaaIMap
import Derived.Test.YtcggpgjnjfjfnaaVSat
import Derived.Deep.QuietTactic
import Derived.BigQuiet
import Derived.BigRegion
import Derived.RegionTactic
import Derived.WalkLawsBesides
import Derived.Deep.RegionWith
import Derived.Deep.DeepCutAuto
namespace Go.Proofs.Ytcggpgjnjfjfnaa
open Go.ChangeShapes Go.WideShapes Go.ChangeAt Go.RowKit Go.Deep Go.Maps
set_option linter.unusedVariables false

def accV (x : Int × Int) : Value := .agg #[.int .i64 x.1, .int .i64 x.2]
def accM (C : Int → Option (Int × Int)) : Int → Option Value := fun i => (C i).map accV
def okAcc (x : Int × Int) : Prop := 1 ≤ x.2 ∧ x.2 ≤ 65536 ∧ -65536 ≤ x.1 ∧ x.1 ≤ x.2

/-- A set of accounts in block p, its map in block b. -/
structure CredAt (w : World) (p b s : Nat) (C : Int → Option (Int × Int)) : Prop where
  box : Box1 w p 93 (.map (some b))
  map : IMap Try.prog 3 w b s (accM C)
  ok : ∀ i x, C i = some x → okAcc x

namespace CredAt
variable {w w' : World} {p b s : Nat} {C : Int → Option (Int × Int)}
theorem ne (h : CredAt w p b s C) : p ≠ b := h.map.notCell rfl h.box.c0
theorem carry {S : List Nat} (h : CredAt w p b s C) (t : Touch S w w') (hp : p ∉ S) (hb : b ∉ S) : CredAt w' p b s C := ⟨h.box.carry t hp, h.map.carry t hb, h.ok⟩
end CredAt

theorem accZero (w : World) : (zeroValue 95).run Try.prog w = .ok (.agg #[.int .i64 0, .int .i64 0]) w := by kernel_rfl

def got (C : Int → Option (Int × Int)) (i : Int) : Int × Int := (C i).getD (0, 0)

theorem accM_get (C : Int → Option (Int × Int)) (i : Int) : (accM C i).getD (.agg #[.int .i64 0, .int .i64 0]) = .agg #[.int .i64 (got C i).1, .int .i64 (got C i).2] := by
  unfold accM got
  cases C i <;> rfl

section
variable {w : World} {p b s : Nat} {C : Int → Option (Int × Int)}
def FindPost (x : Int × Int) (ok : Bool) (w : World) (e : Ending) (w' : World) : Prop := e = .returned (.tuple #[.agg #[.int .i64 x.1, .int .i64 x.2], .bool ok]) ∧ Touch [] w w'

theorem find_yes (h : CredAt w p b s C) (i : Int) (hi : i64k i) (x : Int × Int) (hx : C i = some x) :
    Calls Try.prog 63 #[.pointer (some ⟨p, 0, none⟩), .int .i64 i] w (FindPost x true w) := by
  have t1 := (Touch.refl [] w).alloc (.cells #[.int .i64 0, .int .i64 0] 95)
  have h1 := h.carry t1 (by simp) (by simp)
  have c0 := h.box.c0
  have lp := h.box.lt
  have hl := h1.map.look Try.underlying3 Try.underlying91 (accZero _) hi
  rw [accM_get] at hl
  have hg : got C i = x := by simp [got, hx]
  rw [hg] at hl
  have ho := h.ok i x hx
  obtain ⟨c, q⟩ := x
  simp only at hl
  unfold okAcc at ho
  simp only at ho
  have b1 : (q == 0) = false := by simp; omega
  have b2 : (q != 0) = true := by simp; omega
  clear h h1 hg hx t1
  go_enter Try.func63, Try.ntmps63
  go_wp2
  go_region
  all_goals
    go_wp2
    exact bodyPost_ret (v := .tuple #[.agg #[.int .i64 c, .int .i64 q], .bool true]) (by simp [results, Try.results63, go_sem]) rfl ⟨rfl, (by repeat (first | exact Touch.refl _ _ | apply Touch.drew | apply Touch.alloc | refine Touch.setCell ?_ (by simp) _))⟩
theorem find_no (h : CredAt w p b s C) (i : Int) (hi : i64k i) (hx : C i = none) :
    Calls Try.prog 63 #[.pointer (some ⟨p, 0, none⟩), .int .i64 i] w (FindPost (0, 0) false w) := by
  have t1 := (Touch.refl [] w).alloc (.cells #[.int .i64 0, .int .i64 0] 95)
  have h1 := h.carry t1 (by simp) (by simp)
  have c0 := h.box.c0
  have lp := h.box.lt
  have hl := h1.map.look Try.underlying3 Try.underlying91 (accZero _) hi
  rw [accM_get] at hl
  have hg : got C i = (0, 0) := by simp [got, hx]
  rw [hg] at hl
  simp only at hl
  clear h h1 hg hx t1
  go_enter Try.func63, Try.ntmps63
  go_wp2
  go_region
  all_goals
    go_wp2
    exact bodyPost_ret (v := .tuple #[.agg #[.int .i64 0, .int .i64 0], .bool false]) (by simp [results, Try.results63, go_sem]) rfl ⟨rfl, (by repeat (first | exact Touch.refl _ _ | apply Touch.drew | apply Touch.alloc | refine Touch.setCell ?_ (by simp) _))⟩
theorem find_nil (i : Int) (w : World) :
    Calls Try.prog 63 #[.pointer none, .int .i64 i] w (FindPost (0, 0) false w) := by
  go_enter Try.func63, Try.ntmps63
  go_wp2
  exact bodyPost_ret (v := .tuple #[.agg #[.int .i64 0, .int .i64 0], .bool false]) (by simp [results, Try.results63, go_sem]) rfl ⟨rfl, (by repeat (first | exact Touch.refl _ _ | apply Touch.drew | apply Touch.alloc | refine Touch.setCell ?_ (by simp) _))⟩

theorem credNew_any (w : World) :
    Calls Try.prog 43 #[] w fun e w' => e = .returned (.pointer (some ⟨w.heap.size + 1, 0, none⟩)) ∧ w' = (w.alloc (.map #[] 0)).alloc (.cells #[.map (some w.heap.size)] 93) := by
  have hmm := @run_makeMap Try.prog
  go_enter Try.func43, Try.ntmps43
  go_wp2
  go_ret
  exact ⟨rfl, rfl⟩
theorem credNew_at (w : World) : CredAt ((w.alloc (.map #[] 0)).alloc (.cells #[.map (some w.heap.size)] 93)) (w.heap.size + 1) w.heap.size 0 (fun _ => none) := by
  have hm := (IMap.made (P := Try.prog) (k := 3) w).carry ((Touch.refl [] _).alloc (.cells #[.map (some w.heap.size)] 93)) (by simp)
  have hb := Box1.new (w.alloc (.map #[] 0)) 93 (.map (some w.heap.size))
  rw [show (w.alloc (.map #[] 0)).heap.size = w.heap.size + 1 by simp] at hb
  exact ⟨hb, hm, fun i x h => by cases h⟩

/-- What Of tells. -/
theorem credOf_yes (h : CredAt w p b s C) (i : Int) (hi : i64k i) (x : Int × Int) (hx : C i = some x) :
    Calls Try.prog 59 #[.pointer (some ⟨p, 0, none⟩), .int .i64 i] w fun e w' => e = .returned (.tuple #[.int .i64 x.1, .bool true]) ∧ Touch [] w w' := by
  have D := Lib.hid (find_yes h i hi x hx)
  clear h hx
  obtain ⟨c, q⟩ := x
  go_enter Try.func59, Try.ntmps59
  go_wp2_with fail
  refine (D.out).mono ?_
  rintro e w1 ⟨rfl, t1⟩
  have T1 := Lib.hid t1
  clear t1
  go_wp2_with fail
  go_ret2
  exact ⟨rfl, T1.out.alloc _⟩
theorem credOf_no (i : Int) (v : Value) (D : Hid (Calls Try.prog 63 #[v, .int .i64 i] w (FindPost (0, 0) false w))) :
    Calls Try.prog 59 #[v, .int .i64 i] w fun e w' => e = .returned (.tuple #[.int .i64 0, .bool false]) ∧ Touch [] w w' := by
  go_enter Try.func59, Try.ntmps59
  go_wp2_with fail
  refine (D.out).mono ?_
  rintro e w1 ⟨rfl, t1⟩
  have T1 := Lib.hid t1
  clear t1
  go_wp2_with fail
  go_ret2
  exact ⟨rfl, T1.out.alloc _⟩

def clampC (q n : Int) : Int := if q < n then q else if -65536 < n then n else -65536
theorem set_any (c q n : Int) (w : World) (hq : 1 ≤ q) :
    Calls Try.prog 64 #[.agg #[.int .i64 c, .int .i64 q], .int .i64 n] w fun e w' => e = .returned (.agg #[.int .i64 (clampC q n), .int .i64 q]) ∧
      w' = (w.alloc (.cells #[.int .i64 (clampC q n), .int .i64 q] 95)).alloc (.cells #[.int .i64 (clampC q n), .int .i64 q] 95) := by
  rcases (show q < n ∨ (n ≤ q ∧ -65536 < n) ∨ (n ≤ q ∧ n ≤ -65536) by omega) with g | g | g
  · rw [show clampC q n = q by unfold clampC; rw [if_pos (by omega)]]
    go_enter Try.func64, Try.ntmps64
    go_wp2
    exact bodyPost_ret (v := .agg #[.int .i64 q, .int .i64 q]) (by simp [results, Try.results64, go_sem]) rfl ⟨rfl, rfl⟩
  · rw [show clampC q n = n by unfold clampC; rw [if_neg (by omega), if_pos (by omega)]]
    go_enter Try.func64, Try.ntmps64
    go_wp2
    exact bodyPost_ret (v := .agg #[.int .i64 n, .int .i64 q]) (by simp [results, Try.results64, go_sem]) rfl ⟨rfl, rfl⟩
  · rw [show clampC q n = -65536 by unfold clampC; rw [if_neg (by omega), if_neg (by omega)]]
    go_enter Try.func64, Try.ntmps64
    go_wp2
    exact bodyPost_ret (v := .agg #[.int .i64 (-65536), .int .i64 q]) (by simp [results, Try.results64, go_sem]) rfl ⟨rfl, rfl⟩
end
end Go.Proofs.Ytcggpgjnjfjfnaa
