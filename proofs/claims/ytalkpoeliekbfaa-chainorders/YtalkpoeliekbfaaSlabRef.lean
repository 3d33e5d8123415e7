/-
  Contracts of the reference of layer 6 (slab): its slices are read, never written.
-/
import Derived.Test.YtalkpoeliekbfaaMem
import Derived.Deep.DeepCutAuto
import Derived.OwnWalk
import Derived.IntWalk
namespace Go.Proofs.Ytalkpoeliekbfaa
open Go.ChangeShapes Go.WideShapes Go.ChangeAt Go.RowKit Go.Deep
set_option linter.unusedVariables false

/-- A slice of n one-cell elements X, none of them in a block of Z. -/
def Rd (Z : List Nat) (w : World) (v : Value) (n : Nat) (X : Nat → Value) : Prop :=
  ∃ A c, v = .slice A n c ∧ n ≤ c ∧ c ≤ maxLen ∧ ∀ i, i < n → ∃ b off, A = some ⟨b, off, none⟩ ∧ b < w.heap.size ∧ b ∉ Z ∧ w.cell? ⟨b, off + i, none⟩ = some (X i)

section
variable {Z Z' S : List Nat} {w w' : World} {v : Value} {n : Nat} {X Y : Nat → Value}
theorem Rd.carry (h : Rd Z w v n X) (t : Touch S w w') (hS : ∀ b ∈ S, b ∈ Z ∨ w.heap.size ≤ b) : Rd Z w' v n X := by
  obtain ⟨A, c, rfl, h1, h2, h3⟩ := h
  refine ⟨A, c, rfl, h1, h2, fun i hi => ?_⟩
  obtain ⟨b, off, hA, hb, hz, hc⟩ := h3 i hi
  exact ⟨b, off, hA, Nat.lt_of_lt_of_le hb t.size, hz, (t.cell (a := ⟨b, off + i, none⟩) hb (fun hm => by rcases hS b hm with h | h <;> first | exact hz h | omega)).trans hc⟩
theorem Rd.avoid (h : Rd Z w v n X) (hZ : ∀ b ∈ Z', b ∈ Z ∨ w.heap.size ≤ b) : Rd Z' w v n X := by
  obtain ⟨A, c, rfl, h1, h2, h3⟩ := h
  refine ⟨A, c, rfl, h1, h2, fun i hi => ?_⟩
  obtain ⟨b, off, hA, hb, hz, hc⟩ := h3 i hi
  exact ⟨b, off, hA, hb, fun hm => by rcases hZ b hm with h | h <;> first | exact hz h | omega, hc⟩
theorem Rd.congr (h : Rd Z w v n X) (e : ∀ i, i < n → X i = Y i) : Rd Z w v n Y := by
  obtain ⟨A, c, rfl, h1, h2, h3⟩ := h
  refine ⟨A, c, rfl, h1, h2, fun i hi => ?_⟩
  rw [← e i hi]
  exact h3 i hi
theorem Rd.own {base : Nat} {e : TypeId} {xs : List Value} (h : w.ownsRow base e 1 v n xs) (hx : ∀ i, i < n → xs[i]? = some (X i)) (hZ : ∀ b ∈ Z, b < base) : Rd Z w v n X := by
  have hc := h.2
  rcases h.2 with ⟨rfl, rfl⟩ | ⟨g, cap, cur, rfl, h1, hh, h2, h3, h4, h5⟩
  · exact ⟨none, 0, rfl, Nat.le_refl _, Nat.zero_le _, fun i hi => absurd hi (Nat.not_lt_zero _)⟩
  · refine ⟨_, _, rfl, h2, h3, fun i hi => ⟨g, 0, rfl, (Array.getElem?_eq_some_iff.1 hh).1, fun hm => by have := hZ g hm; omega, ?_⟩⟩
    rw [Nat.zero_add, h.cellAt i (by omega), hx i hi]
end

def bv (f : Nat → Bool) (n : Nat) : List Value := (List.range n).map fun i => .bool (f i)
theorem bv_get (f : Nat → Bool) {n i : Nat} (h : i < n) : (bv f n)[i]? = some (.bool (f i)) := by simp [bv, h]
theorem bv_succ (f : Nat → Bool) (n : Nat) : bv f (n + 1) = bv f n ++ [.bool (f n)] := by unfold bv; rw [List.range_succ, List.map_append]; rfl
theorem iv_next (f : Nat → Int) (n : Nat) : iv f (n + 1) = iv f n ++ [.int .i64 (f n)] := by unfold iv; rw [List.range_succ, List.map_append]; rfl

theorem bool_info : (Try.prog.info? 4).map (fun i => (i.zero, i.size, i.bytes)) = some (some (.bool false), 1, 1) := by kernel_rfl
theorem rint_info : (Try.prog.info? 3).map (fun i => (i.zero, i.size, i.bytes)) = some (some (.int .i64 0), 1, 8) := by kernel_rfl

/-- Behind an append of one element to what the call owns, old memory is as it was. -/
theorem below_push {B n size : Nat} {w wr w1 : World} {e : TypeId} {v : Value} {xs : List Value} {o : Obj} (hbl : Below B w wr) (hown : wr.ownsRow B e size v n xs) (hgrow : (wr.alloc o).grownBy w1 v.ownBlock) (hB : B ≤ wr.heap.size) : Below B w w1 := by
  refine (hbl.alloc hB _).grown hgrow (by simp; omega) ?_
  intro j hj
  rcases hown.2 with ⟨rfl, _⟩ | ⟨g, cap, cur, rfl, hg, _⟩
  · simp [Value.ownBlock] at hj
  · simp [Value.ownBlock] at hj
    omega

def withAt (B : Nat → Bool) (at' : Int) (b : Bool) : Nat → Bool := fun i => if (i : Int) = at' then b else B i

def WithPost (w : World) (n : Nat) (B : Nat → Bool) (e : Ending) (w' : World) : Prop := ∃ v, e = .returned v ∧ w'.ownsRow w.heap.size 4 1 v n (bv B n) ∧ Below w.heap.size w w'

set_option maxHeartbeats 1600000 in
theorem with_any {Z : List Nat} (v : Value) (n : Nat) (B : Nat → Bool) (at' : Int) (b : Bool) (w : World) (hn : n ≤ 5000) (h : Rd Z w v n (fun i => .bool (B i))) :
    Calls Try.prog 64 #[v, .int .i64 at', .bool b] w (WithPost w n (withAt B at' b)) := by
  obtain ⟨A, c, rfl, hc1, hc2, hc⟩ := h
  obtain ⟨i0, hi0, hz0, hz1, hz2⟩ := info_parts bool_info
  have HC := Lib.hid hc
  unfold maxLen at hc2
  clear hc
  go_enter Try.func64, Try.ntmps64
  go_wp2
  go_loopw [7, 8] (fun v i wr => ∃ k : Nat, k ≤ n ∧ i = .int .i64 k ∧ wr.ownsRow w.heap.size 4 1 v k (bv (withAt B at' b) k) ∧ Below w.heap.size w wr) (fun _ i _ => n - (intOf i).toNat)
  case atStart => exact ⟨0, Nat.zero_le _, rfl, World.ownsRow_nil _ _ _ _, Below.refl _ _⟩
  case round =>
    obtain ⟨k, hk, rfl, hown, hbl⟩ := hrel
    by_cases hlt : k < n
    · obtain ⟨bb, off, hA, hbB, _, hc⟩ := HC.out k hlt
      rw [← hbl.cell (p := ⟨bb, _, none⟩) hbB] at hc
      subst hA
      have HF := Lib.hid (bv_succ (withAt B at' b) k)
      have HV := Lib.hid (show withAt B at' b k = if (k : Int) = at' then b else B k from rfl)
      generalize withAt B at' b k = y at *
      generalize bv (withAt B at' b) k = L at *
      generalize B k = z at *
      have hsz := hbl.size
      by_cases e : (k : Int) = at'
      · subst e
        have hy : y = b := by rw [HV.out, if_pos rfl]
        subst hy
        clear HV
        go_wp2_with (at_builtin; refine wpList_append_own _ rfl (.tmp 18) (.tmp 20) 45 rfl w.heap.size 4 i0 (.bool false) 1 1 Try.underlying45 hi0 hz0 hz1 hz2 rfl (by decide) u7 k L rfl (hown.alloc _) ⟨wr.heap.size, 0, none⟩ 1 1 [.bool y] rfl rfl (cell_one_new _ _ _) (by intro u hu; simp at hu; subst hu; rfl) (by unfold maxLen; omega) (by omega) (by simp; omega) ?_; intro v' w1 hown' hgrow hnil)
        go_roundw
        case rel => exact ⟨k + 1, by omega, by go_num, by rw [HF.out]; exact hown', below_push hbl hown hgrow hsz⟩
        case measure => simp [intOf]; omega
      · have hy : y = z := by rw [HV.out, if_neg e]
        subst hy
        have b1 : ((k : Int) == at') = false := by simpa using e
        clear HV e
        go_wp2_with (at_builtin; refine wpList_append_own _ rfl (.tmp 22) (.tmp 27) 45 rfl w.heap.size 4 i0 (.bool false) 1 1 Try.underlying45 hi0 hz0 hz1 hz2 rfl (by decide) u7 k L rfl (hown.alloc _) ⟨wr.heap.size, 0, none⟩ 1 1 [.bool y] rfl rfl (cell_one_new _ _ _) (by intro u hu; simp at hu; subst hu; rfl) (by unfold maxLen; omega) (by omega) (by simp; omega) ?_; intro v' w1 hown' hgrow hnil)
        go_roundw
        case rel => exact ⟨k + 1, by omega, by go_num, by rw [HF.out]; exact hown', below_push hbl hown hgrow hsz⟩
        case measure => simp [intOf]; omega
    · obtain rfl : k = n := by omega
      go_wp2
      go_ret
      exact ⟨_, rfl, hown, hbl⟩

/-- The reference's slots: m free ones F, n slots with turns T, taken B. -/
structure RefAt (Z : List Nat) (w : World) (vf vt vb : Value) (m n : Nat) (F T : Nat → Int) (B : Nat → Bool) : Prop where
  free : Rd Z w vf m fun i => .int .i64 (F i)
  turns : Rd Z w vt n fun i => .int .i64 (T i)
  taken : Rd Z w vb n fun i => .bool (B i)

theorem RefAt.carry {Z S : List Nat} {w w' : World} {vf vt vb : Value} {m n : Nat} {F T : Nat → Int} {B : Nat → Bool} (h : RefAt Z w vf vt vb m n F T B) (t : Touch S w w') (hS : ∀ b ∈ S, b ∈ Z ∨ w.heap.size ≤ b) : RefAt Z w' vf vt vb m n F T B :=
  ⟨h.free.carry t hS, h.turns.carry t hS, h.taken.carry t hS⟩
theorem RefAt.avoid {Z Z' : List Nat} {w : World} {vf vt vb : Value} {m n : Nat} {F T : Nat → Int} {B : Nat → Bool} (h : RefAt Z w vf vt vb m n F T B) (hZ : ∀ b ∈ Z', b ∈ Z ∨ w.heap.size ≤ b) : RefAt Z' w vf vt vb m n F T B :=
  ⟨h.free.avoid hZ, h.turns.avoid hZ, h.taken.avoid hZ⟩

def rlive (n : Nat) (T : Nat → Int) (B : Nat → Bool) (a t : Int) : Bool := decide (0 ≤ a ∧ a < n ∧ B a.toNat = true ∧ T a.toNat = t)

set_option maxHeartbeats 1600000 in
theorem refLive_any {Z : List Nat} {w : World} {vf vt vb : Value} {m n : Nat} {F T : Nat → Int} {B : Nat → Bool} (h : RefAt Z w vf vt vb m n F T B) (a t : Int) :
    Calls Try.prog 57 #[.agg #[vf, vt, vb], .int .i64 a, .int .i64 t] w fun e w' => e = .returned (.bool (rlive n T B a t)) ∧ Touch [] w w' := by
  obtain ⟨A1, c1, rfl, _, _, _⟩ := h.free
  obtain ⟨A2, c2, rfl, hc2, hm2, h2⟩ := h.turns
  obtain ⟨A3, c3, rfl, hc3, hm3, h3⟩ := h.taken
  unfold maxLen at hm2 hm3
  clear h
  by_cases x0 : a < 0
  · have hr : rlive n T B a t = false := by simp only [rlive, decide_eq_false_iff_not]; omega
    rw [hr]
    clear h2 h3 hr
    go_enter Try.func57, Try.ntmps57
    go_wp2
    go_ret
    exact ⟨rfl, (Touch.refl _ _).alloc _⟩
  · obtain ⟨j, rfl⟩ : ∃ j : Nat, a = j := ⟨a.toNat, by omega⟩
    by_cases x1 : n ≤ j
    · have hr : rlive n T B j t = false := by simp only [rlive, decide_eq_false_iff_not]; omega
      rw [hr]
      clear h2 h3 hr x0
      go_enter Try.func57, Try.ntmps57
      go_wp2
      go_ret
      exact ⟨rfl, (Touch.refl _ _).alloc _⟩
    · have hlt : j < n := by omega
      obtain ⟨b2, o2, rfl, l2, _, d2⟩ := h2 j hlt
      obtain ⟨b3, o3, rfl, l3, _, d3⟩ := h3 j hlt
      dsimp only at d2 d3
      have hr : Hid (rlive n T B j t = (B j && decide (T j = t))) := Lib.hid (by
        simp [rlive, hlt, Bool.decide_and])
      generalize rlive n T B j t = r at *
      generalize B j = y at *
      generalize T j = s at *
      clear h2 h3 x0 x1
      cases y
      · have hrr : r = false := by rw [hr.out]; rfl
        subst hrr
        clear hr
        go_enter Try.func57, Try.ntmps57
        go_wp2
        go_ret
        exact ⟨rfl, (Touch.refl _ _).alloc _⟩
      · by_cases e : s = t
        · subst e
          have hrr : r = true := by rw [hr.out]; simp
          subst hrr
          clear hr
          go_enter Try.func57, Try.ntmps57
          go_wp2
          go_ret
          exact ⟨ret_bool (by simp), (Touch.refl _ _).alloc _⟩
        · have hrr : r = false := by rw [hr.out]; simp [e]
          subst hrr
          have b1 : (s == t) = false := by simpa using e
          clear hr e
          go_enter Try.func57, Try.ntmps57
          go_wp2
          go_ret
          exact ⟨ret_bool (by simp), (Touch.refl _ _).alloc _⟩
end Go.Proofs.Ytalkpoeliekbfaa
