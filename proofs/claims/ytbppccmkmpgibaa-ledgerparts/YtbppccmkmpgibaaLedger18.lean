/-
  Layer 34 (ledger): what is kept and what is left add up.
-/
import Derived.Test.YtbppccmkmpgibaaLedger17
namespace Go.Proofs.Ytbppccmkmpgibaa
open Go.ChangeShapes Go.WideShapes Go.ChangeAt Go.RowKit Go.Deep Go.Maps
set_option linter.unusedVariables false
set_option linter.unusedSimpArgs false
/-- Is i among the first k of X? -/
def inX (X : Nat → Int) : Nat → Int → Bool
  | 0, _ => false
  | k + 1, i => inX X k i || (X k == i)
theorem inX_iff (X : Nat → Int) : ∀ k i, inX X k i = true ↔ ∃ j, j < k ∧ X j = i
  | 0, i => by simp [inX]
  | k + 1, i => by
    unfold inX
    rw [Bool.or_eq_true, inX_iff X k i, beq_iff_eq]
    constructor
    · rintro (⟨j, h1, h2⟩ | h)
      · exact ⟨j, by omega, h2⟩
      · exact ⟨k, by omega, h⟩
    · rintro ⟨j, h1, h2⟩
      by_cases hjk : j = k
      · subst hjk
        exact .inr h2
      · exact .inl ⟨j, by omega, h2⟩
theorem keepM_in (M : Int → Option Bk) (X : Nat → Int) (k : Nat) (i : Int) : keepM M X k i = if inX X k i = true then M i else none := by
  rw [keepM_eq]
  by_cases h : ∃ j, j < k ∧ X j = i
  · rw [if_pos h, if_pos ((inX_iff X k i).2 h)]
  · rw [if_neg h, if_neg (fun e => h ((inX_iff X k i).1 e))]
theorem book_in {M : Int → Option Bk} {X : Nat → Int} {k : Nat} {i : Int} (h : inX X k i = true) : bookOf (keepM M X k) i = bookOf M i := by
  unfold bookOf
  rw [keepM_in, if_pos h]
theorem book_out {M : Int → Option Bk} {X : Nat → Int} {k : Nat} {i : Int} (h : inX X k i = false) : bookOf (keepM M X k) i = fun _ => 0 := by
  unfold bookOf
  rw [keepM_in, if_neg (by rw [h]; simp)]
  rfl
theorem few_keep {M : Int → Option Bk} {c : Int} (h : ∀ i, Few (bookOf M i) c) (hc : 0 ≤ c) (X : Nat → Int) (k : Nat) (i : Int) : Few (bookOf (keepM M X k) i) c := by
  cases e : inX X k i with
  | true =>
    rw [book_in e]
    exact h i
  | false =>
    rw [book_out e]
    intro j hj
    simp
    exact hc
theorem ids_keep {M : Int → Option Bk} {L : List Int} (h : IdsOf M L) (X : Nat → Int) (k : Nat) : IdsOf (keepM M X k) (L.filter fun i => inX X k i) := by
  refine ⟨h.1.filter _, fun i => ?_⟩
  rw [List.mem_filter, h.2 i, keepM_in]
  cases e : inX X k i <;> simp
theorem ids_rest {M : Int → Option Bk} {L R : List Int} (h : IdsOf M L) (hR : R.Sublist L) : IdsOf (keepM M (fun i => R.getD i 0) R.length) R := by
  have hin : ∀ i, inX (fun i => R.getD i 0) R.length i = true ↔ i ∈ R := fun i => by
    rw [inX_iff]
    constructor
    · rintro ⟨j, h1, h2⟩
      simp only [List.getD, List.getElem?_eq_getElem h1, Option.getD_some] at h2
      rw [← h2]
      exact List.getElem_mem h1
    · intro hi
      obtain ⟨j, hj, e⟩ := List.mem_iff_getElem.1 hi
      exact ⟨j, hj, by simp only [List.getD, List.getElem?_eq_getElem hj, Option.getD_some]; exact e⟩
  refine ⟨h.1.sublist hR, fun i => ?_⟩
  rw [keepM_in]
  by_cases hi : i ∈ R
  · rw [if_pos ((hin i).2 hi)]
    exact ⟨fun _ => (h.2 i).1 (hR.subset hi), fun _ => hi⟩
  · rw [if_neg (fun e => hi ((hin i).1 e))]
    simp [hi]
theorem tot_in (M : Int → Option Bk) (X : Nat → Int) (k : Nat) (R : List Int) (hR : ∀ i ∈ R, inX X k i = true) (c : Nat) : totF (keepM M X k) R c = totF M R c := by
  unfold totF
  congr 1
  exact List.map_congr_left fun i hi => by rw [book_in (hR i hi)]
theorem tot_split (M : Int → Option Bk) (f : Int → Bool) (c : Nat) : ∀ L : List Int, totF M (L.filter f) c + totF M (L.filter fun i => !f i) c = totF M L c
  | [] => by simp [totF]
  | x :: L => by
    have h := tot_split M f c L
    have e : ∀ (R : List Int), totF M (x :: R) c = statF (bookOf M x) c + totF M R c := fun R => by simp [totF]
    cases hf : f x with
    | true =>
      rw [List.filter_cons_of_pos hf, List.filter_cons_of_neg (by simp [hf]), e, e]
      omega
    | false =>
      rw [List.filter_cons_of_neg (by simp [hf]), List.filter_cons_of_pos (by simp [hf]), e, e]
      omega
/-- What is kept of some, and of the others, is all. -/
theorem tot_parts (M : Int → Option Bk) (X : Nat → Int) (k : Nat) (L : List Int) (c : Nat) :
    totF (keepM M X k) (L.filter fun i => inX X k i) c + totF (keepM M (fun i => (L.filter fun i => !inX X k i).getD i 0) (L.filter fun i => !inX X k i).length) (L.filter fun i => !inX X k i) c = totF M L c := by
  rw [tot_in M X k _ (fun i hi => (List.mem_filter.1 hi).2), tot_in M _ _ (L.filter fun i => !inX X k i) (fun i hi => ?_), tot_split]
  rw [inX_iff]
  obtain ⟨j, hj, e⟩ := List.mem_iff_getElem.1 hi
  exact ⟨j, hj, by simp only [List.getD, List.getElem?_eq_getElem hj, Option.getD_some]; exact e⟩
/-- Total, where the ids are known. -/
theorem total_of {w : World} {p b s : Nat} {M : Int → Option Bk} (h : LgAt w p b s M) (hs : s ≤ 100) (hB : ∀ i, Few (bookOf M i) 200000) {L : List Int} (hL : IdsOf M L) :
    Calls Try.prog 14 #[.pointer (some ⟨p, 0, none⟩)] w fun e w' => e = .returned (.agg #[.int .i64 (totF M L 0), .int .i64 (totF M L 1), .int .i64 (totF M L 2), .int .i64 (totF M L 3), .int .i64 (totF M L 4), .int .i64 (totF M L 5)]) ∧ Touch [] w w' := by
  refine (total_any h hs hB).mono ?_
  rintro e w' ⟨X, hX, rfl, t⟩
  obtain rfl : L = X := ids_unique hL hX
  exact ⟨rfl, t⟩
end Go.Proofs.Ytbppccmkmpgibaa
