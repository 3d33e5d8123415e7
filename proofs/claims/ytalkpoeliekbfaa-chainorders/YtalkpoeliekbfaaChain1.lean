/-
  Contracts of layer 7 (chain): the lists in memory; hasList, hasNode, Len, First, Where.
-/
import Derived.Test.YtalkpoeliekbfaaSlab4
import Derived.Test.YtalkpoeliekbfaaWhole
import Derived.Test.YtalkpoeliekbfaaPhi7
namespace Go.Proofs.Ytalkpoeliekbfaa
open Go.ChangeShapes Go.WideShapes Go.ChangeAt Go.RowKit Go.Deep
set_option linter.unusedVariables false
set_option linter.unusedSimpArgs false

/-- Lists at block p: what is behind each node (gn), where each node is (gw), the ends of each list (gl: first, last, count). -/
structure ChainAt (w : World) (p gn gw gl n cn cw k cl : Nat) (N V E : Nat → Int) : Prop where
  box : BoxV w p 91 #[.slice (some ⟨gn, 0, none⟩) n cn, .slice (some ⟨gw, 0, none⟩) n cw, .slice (some ⟨gl, 0, none⟩) k cl]
  next : w.ownsRow 0 3 1 (.slice (some ⟨gn, 0, none⟩) n cn) n (iv N n)
  wher : w.ownsRow 0 3 1 (.slice (some ⟨gw, 0, none⟩) n cw) n (iv V n)
  ends : w.ownsRow 0 96 3 (.slice (some ⟨gl, 0, none⟩) k cl) k (iv E (k * 3))
  far : p ≠ gn ∧ p ≠ gw ∧ p ≠ gl ∧ gn ≠ gw ∧ gn ≠ gl ∧ gw ≠ gl

namespace ChainAt
variable {w w' : World} {p gn gw gl n cn cw k cl : Nat} {N V E : Nat → Int}
theorem c0 (h : ChainAt w p gn gw gl n cn cw k cl N V E) : w.cell? ⟨p, 0, none⟩ = some (.slice (some ⟨gn, 0, none⟩) n cn) := h.box.cell 0
theorem c1 (h : ChainAt w p gn gw gl n cn cw k cl N V E) : w.cell? ⟨p, 1, none⟩ = some (.slice (some ⟨gw, 0, none⟩) n cw) := h.box.cell 1
theorem c2 (h : ChainAt w p gn gw gl n cn cw k cl N V E) : w.cell? ⟨p, 2, none⟩ = some (.slice (some ⟨gl, 0, none⟩) k cl) := h.box.cell 2
theorem cN (h : ChainAt w p gn gw gl n cn cw k cl N V E) {i : Nat} (hi : i < n) : w.cell? ⟨gn, i, none⟩ = some (.int .i64 (N i)) := by rw [h.next.cellAt i (by omega), iv_get _ hi]
theorem cV (h : ChainAt w p gn gw gl n cn cw k cl N V E) {i : Nat} (hi : i < n) : w.cell? ⟨gw, i, none⟩ = some (.int .i64 (V i)) := by rw [h.wher.cellAt i (by omega), iv_get _ hi]
theorem cE (h : ChainAt w p gn gw gl n cn cw k cl N V E) {i : Nat} (hi : i < k * 3) : w.cell? ⟨gl, i, none⟩ = some (.int .i64 (E i)) := by rw [h.ends.cellAt i hi, iv_get _ hi]
theorem lts (h : ChainAt w p gn gw gl n cn cw k cl N V E) : p < w.heap.size ∧ gn < w.heap.size ∧ gw < w.heap.size ∧ gl < w.heap.size := ⟨h.box.lt, own_lt h.next rfl, own_lt h.wher rfl, own_lt h.ends rfl⟩
theorem carry {T : List Nat} (h : ChainAt w p gn gw gl n cn cw k cl N V E) (t : Touch T w w') (hT : ∀ b ∈ [p, gn, gw, gl], b ∉ T) : ChainAt w' p gn gw gl n cn cw k cl N V E :=
  ⟨h.box.carry t (hT p (by simp)), t.row h.next (by simpa [Value.ownBlock] using hT gn (by simp)), t.row h.wher (by simpa [Value.ownBlock] using hT gw (by simp)), t.row h.ends (by simpa [Value.ownBlock] using hT gl (by simp)), h.far⟩
theorem new (h : ChainAt w p gn gw gl n cn cw k cl N V E) (t : Touch [] w w') : ChainAt w' p gn gw gl n cn cw k cl N V E := h.carry t (by simp)
theorem congr {N' V' E' : Nat → Int} (h : ChainAt w p gn gw gl n cn cw k cl N V E) (hN : ∀ i, i < n → N i = N' i) (hV : ∀ i, i < n → V i = V' i) (hE : ∀ i, i < k * 3 → E i = E' i) : ChainAt w p gn gw gl n cn cw k cl N' V' E' :=
  ⟨h.box, iv_congr hN ▸ h.next, iv_congr hV ▸ h.wher, iv_congr hE ▸ h.ends, h.far⟩
theorem setN (h : ChainAt w p gn gw gl n cn cw k cl N V E) (i : Nat) (x : Int) : ChainAt (w.setCell ⟨gn, i, none⟩ (.int .i64 x)) p gn gw gl n cn cw k cl (upd N i x) V E := by
  have t : Touch [gn] w (w.setCell ⟨gn, i, none⟩ (.int .i64 x)) := (Touch.refl _ _).setCell (by simp) _
  have hf := h.far
  refine ⟨h.box.carry t (by simp; omega), ?_, t.row h.wher (by simp [Value.ownBlock]; omega), t.row h.ends (by simp [Value.ownBlock]; omega), hf⟩
  rw [← iv_set]
  exact (h.next.stored i _).1
theorem setV (h : ChainAt w p gn gw gl n cn cw k cl N V E) (i : Nat) (x : Int) : ChainAt (w.setCell ⟨gw, i, none⟩ (.int .i64 x)) p gn gw gl n cn cw k cl N (upd V i x) E := by
  have t : Touch [gw] w (w.setCell ⟨gw, i, none⟩ (.int .i64 x)) := (Touch.refl _ _).setCell (by simp) _
  have hf := h.far
  refine ⟨h.box.carry t (by simp; omega), t.row h.next (by simp [Value.ownBlock]; omega), ?_, t.row h.ends (by simp [Value.ownBlock]; omega), hf⟩
  rw [← iv_set]
  exact (h.wher.stored i _).1
theorem setE (h : ChainAt w p gn gw gl n cn cw k cl N V E) (i : Nat) (x : Int) : ChainAt (w.setCell ⟨gl, i, none⟩ (.int .i64 x)) p gn gw gl n cn cw k cl N V (upd E i x) := by
  have t : Touch [gl] w (w.setCell ⟨gl, i, none⟩ (.int .i64 x)) := (Touch.refl _ _).setCell (by simp) _
  have hf := h.far
  refine ⟨h.box.carry t (by simp; omega), t.row h.next (by simp [Value.ownBlock]; omega), t.row h.wher (by simp [Value.ownBlock]; omega), ?_, hf⟩
  rw [← iv_set]
  exact (h.ends.stored i _).1
end ChainAt

def inR (x : Int) (n : Nat) : Bool := decide (0 ≤ x) && decide (x < n)
theorem inR_yes {x : Int} {n : Nat} (h : 0 ≤ x ∧ x < n) : inR x n = true := by simp [inR, h]
theorem inR_no {x : Int} {n : Nat} (h : ¬ (0 ≤ x ∧ x < n)) : inR x n = false := by simp [inR]; omega
section
variable {w : World} {p gn gw gl n cn cw k cl : Nat} {N V E : Nat → Int}
theorem hasList_nil (l : Int) (w : World) : Calls Try.prog 43 #[.pointer none, .int .i64 l] w fun e w' => e = .returned (.bool false) ∧ w' = w := by
  go_enter Try.func43, Try.ntmps43
  go_wp2
  go_ret
  exact ⟨rfl, rfl⟩
theorem hasNode_nil (l : Int) (w : World) : Calls Try.prog 44 #[.pointer none, .int .i64 l] w fun e w' => e = .returned (.bool false) ∧ w' = w := by
  go_enter Try.func44, Try.ntmps44
  go_wp2
  go_ret
  exact ⟨rfl, rfl⟩
theorem hasList_any (h : ChainAt w p gn gw gl n cn cw k cl N V E) (l : Int) : Calls Try.prog 43 #[.pointer (some ⟨p, 0, none⟩), .int .i64 l] w fun e w' => e = .returned (.bool (inR l k)) ∧ w' = w := by
  have c2 := h.c2
  have lp := h.lts.1
  clear h
  unfold inR
  by_cases h0 : 0 ≤ l
  · have b0 : decide (0 ≤ l) = true := by simpa using h0
    by_cases h1 : l < k
    · have b1 : decide (l < (k : Int)) = true := by simpa using h1
      rw [b0, b1]
      go_enter Try.func43, Try.ntmps43
      go_wp2
      go_ret
      exact ⟨rfl, rfl⟩
    · have b1 : decide (l < (k : Int)) = false := by simpa using h1
      rw [b0, b1]
      go_enter Try.func43, Try.ntmps43
      go_wp2
      go_ret
      exact ⟨rfl, rfl⟩
  · have b0 : decide (0 ≤ l) = false := by simpa using h0
    rw [b0, Bool.false_and]
    go_enter Try.func43, Try.ntmps43
    go_wp2
    go_ret
    exact ⟨rfl, rfl⟩
theorem hasNode_any (h : ChainAt w p gn gw gl n cn cw k cl N V E) (l : Int) : Calls Try.prog 44 #[.pointer (some ⟨p, 0, none⟩), .int .i64 l] w fun e w' => e = .returned (.bool (inR l n)) ∧ w' = w := by
  have c2 := h.c0
  have lp := h.lts.1
  clear h
  unfold inR
  by_cases h0 : 0 ≤ l
  · have b0 : decide (0 ≤ l) = true := by simpa using h0
    by_cases h1 : l < n
    · have b1 : decide (l < (n : Int)) = true := by simpa using h1
      rw [b0, b1]
      go_enter Try.func44, Try.ntmps44
      go_wp2
      go_ret
      exact ⟨rfl, rfl⟩
    · have b1 : decide (l < (n : Int)) = false := by simpa using h1
      rw [b0, b1]
      go_enter Try.func44, Try.ntmps44
      go_wp2
      go_ret
      exact ⟨rfl, rfl⟩
  · have b0 : decide (0 ≤ l) = false := by simpa using h0
    rw [b0, Bool.false_and]
    go_enter Try.func44, Try.ntmps44
    go_wp2
    go_ret
    exact ⟨rfl, rfl⟩
/-- How many nodes the list has. -/
def lenV (k : Nat) (E : Nat → Int) (l : Int) : Int := if inR l k = true then E (l.toNat * 3 + 2) else 0
theorem len_nil (l : Int) (w : World) : Calls Try.prog 19 #[.pointer none, .int .i64 l] w fun e w' => e = .returned (.int .i64 0) ∧ w' = w := by
  have D := Lib.hid (hasList_nil l w)
  go_enter Try.func19, Try.ntmps19
  go_wp2_with fail
  refine (D.out).mono ?_
  rintro e w1 ⟨rfl, rfl⟩
  go_wp2
  go_ret
  exact ⟨rfl, rfl⟩
theorem len_any (h : ChainAt w p gn gw gl n cn cw k cl N V E) (l : Int) : Calls Try.prog 19 #[.pointer (some ⟨p, 0, none⟩), .int .i64 l] w fun e w' => e = .returned (.int .i64 (lenV k E l)) ∧ w' = w := by
  have D := Lib.hid (hasList_any h l)
  have c2 := h.c2
  have hk := own_cap h.ends
  obtain ⟨lp, ln, lw, ll⟩ := h.lts
  unfold maxLen at hk
  unfold lenV
  by_cases h0 : 0 ≤ l ∧ l < k
  · obtain ⟨a, rfl⟩ := Int.eq_ofNat_of_zero_le h0.1
    have ha : a < k := by omega
    have ce := h.cE (i := a * 3 + 2) (by omega)
    rw [inR_yes h0] at D ⊢
    rw [if_pos rfl, Int.toNat_natCast]
    generalize E (a * 3 + 2) = x at *
    clear h h0
    go_enter Try.func19, Try.ntmps19
    go_wp2_with fail
    refine (D.out).mono ?_
    rintro e w1 ⟨rfl, rfl⟩
    go_wp2
    go_ret
    exact ⟨rfl, rfl⟩
  · rw [inR_no h0] at D ⊢
    rw [if_neg (by decide)]
    clear h h0
    go_enter Try.func19, Try.ntmps19
    go_wp2_with fail
    refine (D.out).mono ?_
    rintro e w1 ⟨rfl, rfl⟩
    go_wp2
    go_ret
    exact ⟨rfl, rfl⟩
def firstTold (x : Int) (ok : Bool) : Ending := .returned (.tuple #[.int .i64 x, .bool ok])
theorem first_of_none (v : Value) (l : Int) (w : World) (D : Hid (Calls Try.prog 19 #[v, .int .i64 l] w fun e w' => e = .returned (.int .i64 0) ∧ w' = w)) :
    Calls Try.prog 11 #[v, .int .i64 l] w fun e w' => e = firstTold 0 false ∧ w' = w := by
  unfold firstTold
  go_enter Try.func11, Try.ntmps11
  go_wp2_with fail
  refine (D.out).mono ?_
  rintro e w1 ⟨rfl, rfl⟩
  go_wp2
  go_ret2
  exact ⟨rfl, rfl⟩
theorem first_none (h : ChainAt w p gn gw gl n cn cw k cl N V E) (l : Int) (hl : lenV k E l = 0) : Calls Try.prog 11 #[.pointer (some ⟨p, 0, none⟩), .int .i64 l] w fun e w' => e = firstTold 0 false ∧ w' = w := by
  have := len_any h l
  rw [hl] at this
  exact first_of_none _ l w (Lib.hid this)
theorem first_some (h : ChainAt w p gn gw gl n cn cw k cl N V E) (a : Nat) (ha : a < k) (hl : E (a * 3 + 2) ≠ 0) : Calls Try.prog 11 #[.pointer (some ⟨p, 0, none⟩), .int .i64 (a : Int)] w fun e w' => e = firstTold (E (a * 3)) true ∧ w' = w := by
  have D0 := len_any h a
  unfold lenV at D0
  rw [if_pos (inR_yes ⟨by omega, by omega⟩), Int.toNat_natCast] at D0
  have D := Lib.hid D0
  have c2 := h.c2
  have hk := own_cap h.ends
  obtain ⟨lp, ln, lw, ll⟩ := h.lts
  unfold maxLen at hk
  unfold firstTold
  have ce := h.cE (i := a * 3) (by omega)
  have b1 : (E (a * 3 + 2) == 0) = false := by simpa using hl
  generalize E (a * 3 + 2) = x at *
  generalize E (a * 3) = y at *
  clear h hl D0
  go_enter Try.func11, Try.ntmps11
  go_wp2_with fail
  refine (D.out).mono ?_
  rintro e w1 ⟨rfl, rfl⟩
  go_wp2
  go_ret2
  exact ⟨rfl, rfl⟩
theorem where_nil (l : Int) (w : World) : Calls Try.prog 17 #[.pointer none, .int .i64 l] w fun e w' => e = firstTold 0 false ∧ w' = w := by
  have D := Lib.hid (hasNode_nil l w)
  unfold firstTold
  go_enter Try.func17, Try.ntmps17
  go_wp2_with fail
  refine (D.out).mono ?_
  rintro e w1 ⟨rfl, rfl⟩
  go_wp2
  go_ret2
  exact ⟨rfl, rfl⟩
def placeOf (n : Nat) (V : Nat → Int) (x : Int) : Int := if inR x n = true then V x.toNat else -1
theorem where_none (h : ChainAt w p gn gw gl n cn cw k cl N V E) (l : Int) (hl : placeOf n V l = -1) : Calls Try.prog 17 #[.pointer (some ⟨p, 0, none⟩), .int .i64 l] w fun e w' => e = firstTold 0 false ∧ w' = w := by
  have D := Lib.hid (hasNode_any h l)
  have c1 := h.c1
  have hk := own_cap h.wher
  obtain ⟨lp, ln, lw, ll⟩ := h.lts
  unfold maxLen at hk
  unfold firstTold
  unfold placeOf at hl
  by_cases h0 : 0 ≤ l ∧ l < n
  · obtain ⟨a, rfl⟩ := Int.eq_ofNat_of_zero_le h0.1
    have ha : a < n := by omega
    have ce := h.cV ha
    rw [inR_yes h0] at D hl
    rw [if_pos rfl, Int.toNat_natCast] at hl
    rw [hl] at ce
    clear h h0 hl
    go_enter Try.func17, Try.ntmps17
    go_wp2_with fail
    refine (D.out).mono ?_
    rintro e w1 ⟨rfl, rfl⟩
    go_wp2
    go_ret2
    exact ⟨rfl, rfl⟩
  · rw [inR_no h0] at D
    clear h h0 hl
    go_enter Try.func17, Try.ntmps17
    go_wp2_with fail
    refine (D.out).mono ?_
    rintro e w1 ⟨rfl, rfl⟩
    go_wp2
    go_ret2
    exact ⟨rfl, rfl⟩
theorem where_some (h : ChainAt w p gn gw gl n cn cw k cl N V E) (a : Nat) (ha : a < n) (hl : V a ≠ -1) : Calls Try.prog 17 #[.pointer (some ⟨p, 0, none⟩), .int .i64 (a : Int)] w fun e w' => e = firstTold (V a) true ∧ w' = w := by
  have D0 := hasNode_any h a
  rw [inR_yes ⟨by omega, by omega⟩] at D0
  have D := Lib.hid D0
  have c1 := h.c1
  have hk := own_cap h.wher
  obtain ⟨lp, ln, lw, ll⟩ := h.lts
  unfold maxLen at hk
  unfold firstTold
  have ce := h.cV ha
  have b1 : (V a == -1) = false := by simpa using hl
  generalize V a = x at *
  clear h hl D0
  go_enter Try.func17, Try.ntmps17
  go_wp2_with fail
  refine (D.out).mono ?_
  rintro e w1 ⟨rfl, rfl⟩
  go_wp2
  go_ret2
  exact ⟨rfl, rfl⟩
end
end Go.Proofs.Ytalkpoeliekbfaa
