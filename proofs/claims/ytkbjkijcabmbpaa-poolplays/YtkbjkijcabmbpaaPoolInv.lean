/-
  What holds of a packet buffer through puttings and freeings: plain mathematics.
-/
import Derived.Test.YtkbjkijcabmbpaaSlabInv
import Derived.Test.YtkbjkijcabmbpaaPool7
namespace Go.Proofs.Ytkbjkijcabmbpaa
open Go.ChangeShapes Go.WideShapes Go.ChangeAt Go.RowKit Go.Deep
set_option linter.unusedVariables false

def sizes (L : List Pk) : Int := (L.map Pk.size).sum
/-- N: the handles that are out, L: what is kept under them, in the same order. -/
structure PInv (n m : Nat) (S K : Nat → Int) (E N : List (Nat × Int)) (j : Nat) (M : Pks) (L : List Pk) (s : Nat) (bytes room : Int) : Prop where
  inv : Inv n m S K E N j
  len : L.length = N.length
  has : ∀ (i : Nat) (x : Nat × Int) (y : Pk), N[i]? = some x → L[i]? = some y → M x.1 = some y
  free : ∀ a : Nat, (∀ x ∈ N, x.1 ≠ a) → M a = none
  each : ∀ y ∈ L, 1 ≤ y.size ∧ y.size ≤ 2048
  sum : bytes = sizes L
  count : s = N.length
  fits : bytes ≤ room
section
variable {n m j s : Nat} {S K : Nat → Int} {E N : List (Nat × Int)} {M : Pks} {L : List Pk} {bytes room : Int}
theorem sizes_pos : ∀ {L : List Pk}, (∀ y ∈ L, 1 ≤ y.size ∧ y.size ≤ 2048) → 0 ≤ sizes L
  | [], _ => by simp [sizes]
  | y :: L, h => by
    have h1 := h y (by simp)
    have h2 := sizes_pos (L := L) fun z hz => h z (by simp [hz])
    unfold sizes at *
    simp only [List.map_cons, List.sum_cons]
    omega
theorem pinv_new (h1 : 1 ≤ n) (h : 0 ≤ room) : PInv n n (fun _ => 0) (fun i => (n : Int) - 1 - i) [] [] 0 (fun _ => none) [] 0 0 room where
  inv := inv_new h1
  len := rfl
  has := fun i x y hx => by simp at hx
  free := fun a _ => rfl
  each := fun y hy => by simp at hy
  sum := by simp [sizes]
  count := rfl
  fits := h
theorem fits_why {x : Int} (hf : fitsV m bytes room x = 0) : 1 ≤ x ∧ x ≤ 2048 ∧ m ≠ 0 ∧ bytes + x ≤ room := by
  unfold fitsV at hf
  by_cases h1 : x < 1 ∨ 2048 < x
  · rw [if_pos h1] at hf; cases hf
  rw [if_neg h1] at hf
  by_cases h2 : m = 0
  · rw [if_pos h2] at hf; cases hf
  rw [if_neg h2] at hf
  by_cases h3 : room < bytes + x
  · rw [if_pos h3] at hf; cases hf
  omega
theorem PInv.put (h : PInv n (m + 1) S K E N j M L s bytes room) (a : Nat) (hK : K m = a) (ha : a < n) (h0 : S (a * 2) = 0) (x : Pk) (hf : fitsV (m + 1) bytes room x.size = 0) :
    M a = none ∧ PInv n m (upd S (a * 2) 1) K (E ++ [(a, S (a * 2 + 1))]) (N ++ [(a, S (a * 2 + 1))]) (j + 1) (putP M a (some x)) (L ++ [x]) (s + 1) (bytes + x.size) room := by
  obtain ⟨f1, f2, _, f3⟩ := fits_why hf
  have hout : ∀ y ∈ N, y.1 ≠ a := fun y hy e => by
    have := (h.inv.out y hy).2.1
    rw [e, h0] at this
    cases this
  refine ⟨h.free a hout, (h.inv.take a hK ha h0).1, by simp [h.len], ?_, ?_, ?_, ?_, by simp [h.count], f3⟩
  · intro i y z hy hz
    by_cases hi : i < N.length
    · rw [List.getElem?_append_left hi] at hy
      rw [List.getElem?_append_left (by rw [h.len]; exact hi)] at hz
      have hne := hout y (List.mem_of_getElem? hy)
      unfold putP
      rw [if_neg (by omega)]
      exact h.has i y z hy hz
    · rw [List.getElem?_append_right (by omega)] at hy
      rw [List.getElem?_append_right (by rw [h.len]; omega), h.len] at hz
      have hi0 : i - N.length = 0 := by
        have := (List.getElem?_eq_some_iff.1 hy).1
        simp at this
        omega
      rw [hi0] at hy hz
      simp at hy hz
      subst hy hz
      unfold putP
      rw [if_pos rfl]
  · intro b hb
    have hba : a ≠ b := hb (a, S (a * 2 + 1)) (by simp)
    unfold putP
    rw [if_neg (by omega)]
    exact h.free b fun y hy => hb y (by simp [hy])
  · intro y hy
    rcases List.mem_append.1 hy with hy | hy
    · exact h.each y hy
    · simp at hy
      subst hy
      exact ⟨f1, f2⟩
  · have := h.sum
    unfold sizes at *
    simp
    omega
theorem PInv.head {x : Nat × Int} {y : Pk} {N : List (Nat × Int)} {L : List Pk} (h : PInv n m S K E (x :: N) j M (y :: L) s bytes room) :
    M x.1 = some y ∧ alive n S x.1 x.2 = true ∧ 1 ≤ y.size ∧ y.size ≤ 2048 ∧ x.1 < n ∧ S (x.1 * 2 + 1) = x.2 ∧ 1 ≤ s :=
  ⟨h.has 0 x y rfl rfl, h.inv.alive (by simp), (h.each y (by simp)).1, (h.each y (by simp)).2, (h.inv.out x (by simp)).1, (h.inv.out x (by simp)).2.2, by rw [h.count]; simp⟩
theorem PInv.freed {x : Nat × Int} {y : Pk} {N : List (Nat × Int)} {L : List Pk} (h : PInv n m S K E (x :: N) j M (y :: L) s bytes room) :
    PInv n (m + 1) (upd (upd S (x.1 * 2) 0) (x.1 * 2 + 1) (x.2 + 1)) (upd K m x.1) E N (j + 1) (putP M x.1 none) L (s - 1) (bytes - y.size) room := by
  have hI := Inv.give (A := []) (B := N) h.inv
  have hp := h.inv.once
  rw [List.pairwise_cons] at hp
  have he := h.each y (by simp)
  refine ⟨hI, by have := h.len; simpa using this, ?_, ?_, fun z hz => h.each z (by simp [hz]), ?_, by rw [h.count]; simp, by have := h.fits; omega⟩
  · intro i a b ha hb
    have hne := hp.1 a (List.mem_of_getElem? ha)
    unfold putP
    rw [if_neg (by omega)]
    exact h.has (i + 1) a b (by simpa using ha) (by simpa using hb)
  · intro a ha
    unfold putP
    by_cases e : a = x.1
    · subst e
      rw [if_pos rfl]
    · rw [if_neg (by omega)]
      exact h.free a fun z hz => by
        rcases List.mem_cons.1 hz with rfl | hz
        · exact Ne.symm e
        · exact ha z hz
  · have := h.sum
    unfold sizes at *
    simp at this
    omega
theorem PInv.bounds (h : PInv n m S K E N j M L s bytes room) : 0 ≤ bytes ∧ bytes ≤ room ∧ s + m = n :=
  ⟨by rw [h.sum]; exact sizes_pos h.each, h.fits, by have := h.inv.sum; have := h.count; omega⟩
end
end Go.Proofs.Ytkbjkijcabmbpaa
