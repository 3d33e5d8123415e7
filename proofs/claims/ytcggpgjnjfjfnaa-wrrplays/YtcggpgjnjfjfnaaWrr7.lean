/-
  Layer 31 (wrr): how long a member waits that is able at each turn.
-/
import Derived.Test.YtcggpgjnjfjfnaaWrr6
namespace Go.Proofs.Ytcggpgjnjfjfnaa
open Go.ChangeShapes Go.WideShapes Go.ChangeAt Go.RowKit Go.Deep Go.Maps
set_option linter.unusedVariables false
set_option linter.unusedSimpArgs false

def lS (n : Nat) : List Int := (List.range n).map fun i : Nat => (i : Int)
def l3 (n : Nat) : List Int := (List.range n).map fun i : Nat => 100 + (i : Int)
theorem lS_length (n : Nat) : (lS n).length = n := by simp [lS]
theorem l3_length (n : Nat) : (l3 n).length = n := by simp [l3]
theorem lS_succ (n : Nat) : lS (n + 1) = lS n ++ [(n : Int)] := by simp [lS, List.range_succ]
theorem l3_succ (n : Nat) : l3 (n + 1) = l3 n ++ [100 + (n : Int)] := by simp [l3, List.range_succ]
theorem lS_mem {n : Nat} {x : Int} : x ∈ lS n ↔ 0 ≤ x ∧ x < n := by
  unfold lS
  simp only [List.mem_map, List.mem_range]
  constructor
  · rintro ⟨i, hi, rfl⟩; omega
  · intro h; exact ⟨x.toNat, by omega, by omega⟩
theorem l3_mem {n : Nat} {x : Int} : x ∈ l3 n ↔ 100 ≤ x ∧ x < 100 + n := by
  unfold l3
  simp only [List.mem_map, List.mem_range]
  constructor
  · rintro ⟨i, hi, rfl⟩; omega
  · intro h; exact ⟨(x - 100).toNat, by omega, by omega⟩
/-- Ring 0 holds l, ring 3 the numbers from 100 on. -/
def LW (n : Nat) (l : List Int) : Nat → List Int := fun j => if j = 0 then l else if j = 3 then l3 n else []
theorem LW_zero (n : Nat) (l : List Int) : LW n l 0 = l := rfl
theorem LW_three (n : Nat) (l : List Int) : LW n l 3 = l3 n := rfl
theorem LW_none : LW 0 (lS 0) = fun _ => [] := by
  funext j
  unfold LW
  split
  · rfl
  · split <;> rfl
theorem LW_upd0 (n : Nat) (l l' : List Int) : updL (LW n l) 0 l' = LW n l' := by
  funext j
  unfold LW updL
  by_cases h : j = 0
  · simp [h]
  · simp [h]
theorem LW_upd3 (n : Nat) (l : List Int) : updL (LW n l) 3 (l3 (n + 1)) = LW (n + 1) l := by
  funext j
  unfold LW updL
  by_cases h : j = 3
  · subst h; simp
  · simp [h]
theorem LW_len {n : Nat} {l : List Int} (h : l.length ≤ 100000) (hn : n ≤ 100000) : ∀ k, k < 8 → (LW n l k).length ≤ 100000 := by
  intro k _
  unfold LW
  split
  · exact h
  · split
    · rw [l3_length]; exact hn
    · simp
theorem hdx_rotL (L : List Int) (a i : Nat) : hdx (rotL a L) i = hdx L (i + a) := by unfold hdx; rw [rotL_add]
theorem hdx_lS (n i : Nat) (hn : 0 < n) : hdx (lS n) i = ((i % n : Nat) : Int) := by
  have hl := lS_length n
  have h1 := hdx_pers (lS n) (i % n) (i / n)
  rw [hl, Nat.mul_comm, Nat.mod_add_div] at h1
  rw [h1, hdx_lt (by rw [hl]; exact Nat.mod_lt _ hn)]
  simp [at0, lS, Nat.mod_lt _ hn]
theorem hdx_rot (n a i : Nat) (hn : 0 < n) : hdx (rotL a (lS n)) i = (((a + i) % n : Nat) : Int) := by
  rw [hdx_rotL, hdx_lS n _ hn, Nat.add_comm]
/-- How many stand ahead of leaf 0. -/
def ahead0 (n x : Nat) : Nat := if x % n = 0 then 0 else n - x % n
theorem ahead0_step (n x : Nat) (hn : 0 < n) : (x % n = 0 → ahead0 n x = 0 ∧ ahead0 n (x + 1) = n - 1) ∧ (x % n ≠ 0 → ahead0 n (x + 1) + 1 = ahead0 n x) := by
  have hr : x % n < n := Nat.mod_lt _ hn
  have e := Nat.mod_add_mod x n 1
  unfold ahead0
  rw [← e]
  generalize x % n = r at *
  by_cases h : r + 1 = n
  · rw [h, Nat.mod_self]
    constructor
    · intro h0; simp; omega
    · intro h0; simp [h0]; omega
  · rw [Nat.mod_eq_of_lt (by omega)]
    constructor
    · intro h0; subst h0; simp
    · intro h0; simp [h0]; omega
/-- The turns of others before leaf 0 is told: by the place and the visits that it wants. -/
def waits (n x : Nat) (v : Int) : Int := (ahead0 n x : Int) + (v - 1) * ((n : Int) - 1)
theorem waits_pos {n x : Nat} {v : Int} (hn : 0 < n) (hv : 1 ≤ v) : 0 ≤ waits n x v := by
  unfold waits
  have := Int.mul_nonneg (show 0 ≤ v - 1 by omega) (show 0 ≤ (n : Int) - 1 by omega)
  omega
theorem crs_same {able : Int → Bool} {L : List Int} {C : Acc} {i : Nat} {c q : Int} (h : crs able L C i (hdx L i) = some (c, q)) (hab : able (hdx L i) = true) : crs able L C (i + 1) (hdx L i) = some (clampC q (satAdd c q), q) := by
  rw [crs, if_pos hab]
  unfold visC
  rw [h]
  simp only
  exact updC_same _ _ _
theorem crs_other {able : Int → Bool} {L : List Int} {C : Acc} {i : Nat} {id : Int} (h : hdx L i ≠ id) : crs able L C (i + 1) id = crs able L C i id := by
  rw [crs]
  split
  · unfold visC
    cases hz : crs able L C i (hdx L i) with
    | none => rfl
    | some z =>
      simp only
      rw [updC_other _ _ (Ne.symm h)]
  · rfl
theorem wait_falls {able : Int → Bool} {C : Acc} {n a : Nat} {c0 q : Int} (hn : 0 < n) (hok : ∀ i x, C i = some x → okAcc x) (hC : C 0 = some (c0, q)) (hab : able 0 = true) (N : Nat) (hno : ∀ i, i < N → ¬ stops able (rotL a (lS n)) C i) :
    ∀ i, i ≤ N → ∃ c, crs able (rotL a (lS n)) C i 0 = some (c, q) ∧ 1 ≤ visitsV c q ∧ waits n (a + i) (visitsV c q) ≤ waits n a (visitsV c0 q) := by
  intro i
  induction i with
  | zero =>
    intro _
    have ho := hok 0 _ hC
    exact ⟨c0, by rw [crs, hC], (visit_step (c := c0) (q := q) ⟨ho.1, ho.2.1⟩ ⟨ho.2.2.1, ho.2.2.2⟩ rfl).1, Int.le_refl _⟩
  | succ i ih =>
    intro hi
    obtain ⟨c, hc, hv1, hv⟩ := ih (by omega)
    have ho := crs_ok (able := able) (L := rotL a (lS n)) hok i 0 _ hc
    have hh := hdx_rot n a i hn
    obtain ⟨s0, s1⟩ := ahead0_step n (a + i) hn
    by_cases e : (a + i) % n = 0
    · have e0 : hdx (rotL a (lS n)) i = 0 := by rw [hh, e]; rfl
      have hnew := crs_same (able := able) (L := rotL a (lS n)) (C := C) (i := i) (by rw [e0]; exact hc) (by rw [e0]; exact hab)
      rw [e0] at hnew
      have hs := hno i (by omega)
      unfold stops crd at hs
      rw [e0, hnew] at hs
      have hneg : ¬ 0 < clampC q (satAdd c q) := fun h => hs ⟨hab, h⟩
      have st := visit_step (c := c) (q := q) (m := visitsV c q) ⟨ho.1, ho.2.1⟩ ⟨ho.2.2.1, ho.2.2.2⟩ rfl
      have h2 : 2 ≤ visitsV c q := by
        rcases (show visitsV c q = 1 ∨ 2 ≤ visitsV c q by omega) with h | h
        · exact absurd (st.2.2.1 h) hneg
        · exact h
      have s2 := (st.2.1 h2).2
      refine ⟨_, hnew, by rw [s2]; omega, ?_⟩
      rw [s2]
      refine Int.le_trans ?_ hv
      obtain ⟨p0, p1⟩ := s0 e
      unfold waits
      rw [show a + (i + 1) = a + i + 1 by omega, p1, p0]
      generalize visitsV c q = v at *
      have : (v - 1) * ((n : Int) - 1) = (v - 1 - 1) * ((n : Int) - 1) + ((n : Int) - 1) := by
        rw [Int.sub_mul (v - 1) 1, Int.one_mul]; omega
      rw [this]
      omega
    · have e0 : hdx (rotL a (lS n)) i ≠ 0 := by rw [hh]; omega
      refine ⟨c, by rw [crs_other e0]; exact hc, hv1, Int.le_trans ?_ hv⟩
      have p1 := s1 e
      unfold waits
      rw [show a + (i + 1) = a + i + 1 by omega]
      omega
/-- Where another is told, leaf 0 waits for one less; where leaf 0 is told, its credit is above 0. -/
theorem told_other {able : Int → Bool} {C : Acc} {n a i : Nat} {c0 q : Int} (hn : 0 < n) (hok : ∀ i x, C i = some x → okAcc x) (hC : C 0 = some (c0, q)) (hab : able 0 = true) (hno : ∀ j, j < i → ¬ stops able (rotL a (lS n)) C j) (h : (a + i) % n ≠ 0) :
    ∃ c, crs able (rotL a (lS n)) C (i + 1) 0 = some (c, q) ∧ waits n (a + (i + 1)) (visitsV c q) + 1 ≤ waits n a (visitsV c0 q) := by
  obtain ⟨c, hc, hv1, hv⟩ := wait_falls hn hok hC hab i hno i (Nat.le_refl _)
  have e0 : hdx (rotL a (lS n)) i ≠ 0 := by rw [hdx_rot n a i hn]; omega
  refine ⟨c, by rw [crs_other e0]; exact hc, Int.le_trans ?_ hv⟩
  have p1 := (ahead0_step n (a + i) hn).2 h
  unfold waits
  rw [show a + (i + 1) = a + i + 1 by omega]
  omega
theorem told_zero {able : Int → Bool} {C : Acc} {n a i : Nat} {c0 q : Int} (hn : 0 < n) (hok : ∀ i x, C i = some x → okAcc x) (hC : C 0 = some (c0, q)) (hab : able 0 = true) (hs : stops able (rotL a (lS n)) C i) (hno : ∀ j, j < i → ¬ stops able (rotL a (lS n)) C j) (h : (a + i) % n = 0) :
    ∃ c, crs able (rotL a (lS n)) C (i + 1) 0 = some (c, q) ∧ 0 < c ∧ c ≤ q := by
  obtain ⟨c, hc, hv1, hv⟩ := wait_falls hn hok hC hab i hno i (Nat.le_refl _)
  have e0 : hdx (rotL a (lS n)) i = 0 := by rw [hdx_rot n a i hn, h]; rfl
  have hnew := crs_same (able := able) (L := rotL a (lS n)) (C := C) (i := i) (by rw [e0]; exact hc) (by rw [e0]; exact hab)
  rw [e0] at hnew
  have ho := crs_ok (able := able) (L := rotL a (lS n)) hok (i + 1) 0 _ hnew
  unfold stops crd at hs
  rw [e0, hnew] at hs
  exact ⟨_, hnew, hs.2, ho.2.2.2⟩
/-- What leaf 0 may wait for behind its packet. -/
theorem waits_most {n x : Nat} {c q d : Int} (hn : 0 < n) (hq : 1 ≤ q ∧ q ≤ 65536) (hc : 0 < c ∧ c ≤ q) (hd : 1 ≤ d ∧ d ≤ 2048) (hx : x % n = 0) :
    waits n (x + 1) (visitsV (clampC q (satSub c (size2048 d))) q) ≤ ((n : Int) - 1) * ((2047 + q) / q) := by
  have h1 := visits_most hq (spend_in hq hc hd)
  obtain ⟨_, p1⟩ := (ahead0_step n x hn).1 hx
  unfold waits
  rw [p1]
  generalize visitsV (clampC q (satSub c (size2048 d))) q = v at *
  have h2 := Int.mul_le_mul_of_nonneg_left h1 (show 0 ≤ (n : Int) - 1 by omega)
  have : (v - 1) * ((n : Int) - 1) + ((n : Int) - 1) = ((n : Int) - 1) * v := by
    rw [Int.sub_mul, Int.one_mul, Int.mul_comm]; omega
  omega
theorem visits21 {q : Int} (hq : 100 ≤ q) : (2047 + q) / q ≤ 21 := by
  have : (2047 + q) / q < 22 := by
    rw [Int.ediv_lt_iff_lt_mul (by omega)]
    omega
  omega
end Go.Proofs.Ytcggpgjnjfjfnaa
