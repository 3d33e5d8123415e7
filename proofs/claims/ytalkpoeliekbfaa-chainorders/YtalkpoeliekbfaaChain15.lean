/-
  Layer 7 (chain): what push, pop and join make of the lists (mathematics only).
-/
import Derived.Test.YtalkpoeliekbfaaChain14
namespace Go.Proofs.Ytalkpoeliekbfaa
set_option linter.unusedVariables false
set_option linter.unusedSimpArgs false
theorem upd_at (f : Nat → Int) (i : Nat) (x : Int) : upd f i x i = x := by simp [upd]
theorem upd_ne {f : Nat → Int} {i j : Nat} {x : Int} (h : j ≠ i) : upd f i x j = f j := by simp [upd, h]
theorem linked_upd {N : Nat → Int} {z : Nat} {y : Int} : ∀ {L : List Nat}, z ∉ L → Linked N L → Linked (upd N z y) L
  | [], _, _ => trivial
  | x :: l, hz, ⟨h1, h2⟩ => by
    simp only [List.mem_cons, not_or] at hz
    exact ⟨(upd_ne (Ne.symm hz.1)).trans h1, linked_upd hz.2 h2⟩
theorem linked_join {N : Nat → Int} {z : Nat} {M : List Nat} : ∀ {L : List Nat}, z ∉ L → z ∉ M → Linked N (L ++ [z]) → Linked N M → Linked (upd N z (headI M)) (L ++ z :: M)
  | [], _, hM, _, h => ⟨upd_at _ _ _, linked_upd hM h⟩
  | x :: l, hz, hM, ⟨h1, h2⟩, h => by
    simp only [List.mem_cons, not_or] at hz
    refine ⟨?_, linked_join hz.2 hM h2 h⟩
    rw [upd_ne (Ne.symm hz.1), h1]
    cases l <;> rfl
theorem headI_append {L M : List Nat} (h : L ≠ []) : headI (L ++ M) = headI L := by
  cases L with
  | nil => exact absurd rfl h
  | cons x l => rfl
theorem last_form {L : List Nat} (h : L ≠ []) : ∃ l z, L = l ++ [z] := ⟨L.dropLast, L.getLast h, (List.dropLast_concat_getLast h).symm⟩
section
variable {n a c : Nat} {N E : Nat → Int} {L M : List Nat}
/-- What is appended to an empty list. -/
theorem ListAt.onNone (hf : M ≠ []) (la : Nat) (hla : M.getLast? = some la) (hl : Linked N M) (ht : ∀ x ∈ M, x < n) :
    ListAt n N (upd (upd (upd E (a * 3) (headI M)) (a * 3 + 1) la) (a * 3 + 2) M.length) a M where
  count := upd_at _ _ _
  first := fun _ => by rw [upd_ne (by omega), upd_ne (by omega), upd_at]
  last := fun x hx => by
    rw [hla] at hx
    cases hx
    rw [upd_ne (by omega), upd_at]
  link := hl
  lt := ht
/-- What is appended to a list with a last node z. -/
theorem ListAt.onMore {l : List Nat} {z : Nat} (h : ListAt n N E a (l ++ [z])) (hz : z ∉ l) (hzM : z ∉ M) (la : Nat) (hla : M.getLast? = some la) (hl : Linked N M) (ht : ∀ x ∈ M, x < n) :
    ListAt n (upd N z (headI M)) (upd (upd E (a * 3 + 1) la) (a * 3 + 2) (((l ++ [z]).length : Nat) + M.length)) a (l ++ [z] ++ M) where
  count := by rw [upd_at]; simp; omega
  first := fun _ => by
    rw [upd_ne (by omega), upd_ne (by omega), h.first (by simp)]
    exact (headI_append (by simp)).symm
  last := fun x hx => by
    rw [List.getLast?_append, hla] at hx
    cases hx
    rw [upd_ne (by omega), upd_at]
  link := by
    rw [List.append_assoc]
    exact linked_join hz hzM h.link hl
  lt := fun x hx => by
    rcases List.mem_append.1 hx with hx | hx
    · exact h.lt x hx
    · exact ht x hx
/-- Another list, where only list a's ends and a node's next one changed. -/
theorem ListAt.keep {N' E' : Nat → Int} {i : Nat} (h : ListAt n N E i L) (hE : ∀ j, j < 3 → E' (i * 3 + j) = E (i * 3 + j)) (hN : Linked N' L) : ListAt n N' E' i L where
  count := (hE 2 (by omega)).trans h.count
  first := fun hh => (hE 0 (by omega)).trans (h.first hh)
  last := fun x hx => (hE 1 (by omega)).trans (h.last x hx)
  link := hN
  lt := h.lt
theorem ListAt.empty (h : E (a * 3 + 2) = 0) : ListAt n N E a [] where
  count := h
  first := fun hh => absurd rfl hh
  last := fun x hx => by simp at hx
  link := trivial
  lt := fun x hx => by simp at hx
/-- The list without its first node. -/
theorem ListAt.tail {x : Nat} (h : ListAt n N E a (x :: L)) (hx : x ∉ L) : ListAt n (upd N x (-1)) (upd (upd E (a * 3) (N x)) (a * 3 + 2) (L.length : Nat)) a L where
  count := upd_at _ _ _
  first := fun hh => by rw [upd_ne (by omega), upd_at]; exact h.link.1
  last := fun y hy => by
    rw [upd_ne (by omega), upd_ne (by omega)]
    refine h.last y ?_
    cases L with
    | nil => simp at hy
    | cons z l => simpa [List.getLast?_cons_cons] using hy
  link := linked_upd hx h.link.2
  lt := fun y hy => h.lt y (by simp [hy])
end
/-- k lists of n nodes: what each holds, where each node is; nothing is behind a free node. -/
structure Lists (n k : Nat) (N V E : Nat → Int) (X : Nat → List Nat) : Prop where
  at_ : ∀ i, i < k → ListAt n N E i (X i)
  own : ∀ i x, i < k → x ∈ X i → V x = (i : Int)
  free : ∀ x, x < n → (∀ i, i < k → x ∉ X i) → V x = -1 ∧ N x = -1
  nodup : ∀ i, i < k → (X i).Nodup
def setL (X : Nat → List Nat) (a : Nat) (L : List Nat) : Nat → List Nat := fun i => if i = a then L else X i
theorem setL_at (X : Nat → List Nat) (a : Nat) (L : List Nat) : setL X a L a = L := by simp [setL]
theorem setL_ne {X : Nat → List Nat} {a i : Nat} {L : List Nat} (h : i ≠ a) : setL X a L i = X i := by simp [setL, h]
theorem Lists.new (n k : Nat) : Lists n k (fun _ => -1) (fun _ => -1) (fun _ => 0) (fun _ => []) where
  at_ := fun i _ => ListAt.empty rfl
  own := fun i x _ hx => by simp at hx
  free := fun _ _ _ => ⟨rfl, rfl⟩
  nodup := fun _ _ => List.nodup_nil
theorem Lists.one {n k : Nat} {N V E : Nat → Int} {X : Nat → List Nat} (h : Lists n k N V E X) {i j x : Nat} (hi : i < k) (hj : j < k) (hx : x ∈ X i) (hy : x ∈ X j) : i = j := by
  have := h.own i x hi hx
  rw [h.own j x hj hy] at this
  omega
/-- A list without its first node. -/
theorem Lists.pop {n k a x : Nat} {N V E : Nat → Int} {X : Nat → List Nat} {L : List Nat} (h : Lists n k N V E X) (ha : a < k) (hX : X a = x :: L) :
    Lists n k (upd N x (-1)) (upd V x (-1)) (upd (upd E (a * 3) (N x)) (a * 3 + 2) (L.length : Nat)) (setL X a L) where
  at_ := fun i hi => by
    have hn := h.nodup a ha
    rw [hX, List.nodup_cons] at hn
    by_cases e : i = a
    · subst e
      rw [setL_at]
      have := h.at_ i hi
      rw [hX] at this
      exact this.tail hn.1
    · rw [setL_ne e]
      refine (h.at_ i hi).keep (fun j hj => by rw [upd_ne (by omega), upd_ne (by omega)]) (linked_upd (fun hm => e (h.one hi ha hm (by rw [hX]; simp))) (h.at_ i hi).link)
  own := fun i y hi hy => by
    have hn := h.nodup a ha
    rw [hX, List.nodup_cons] at hn
    by_cases e : i = a
    · subst e
      rw [setL_at] at hy
      rw [upd_ne (by rintro rfl; exact hn.1 hy)]
      exact h.own i y hi (by rw [hX]; simp [hy])
    · rw [setL_ne e] at hy
      rw [upd_ne (by rintro rfl; exact e (h.one hi ha hy (by rw [hX]; simp)))]
      exact h.own i y hi hy
  free := fun y hy hno => by
    by_cases e : y = x
    · subst e
      exact ⟨upd_at _ _ _, upd_at _ _ _⟩
    · rw [upd_ne e, upd_ne e]
      refine h.free y hy fun i hi hm => ?_
      by_cases e' : i = a
      · subst e'
        refine hno i hi ?_
        rw [setL_at]
        rw [hX] at hm
        simpa [e] using hm
      · exact hno i hi (by rw [setL_ne e']; exact hm)
  nodup := fun i hi => by
    have hn := h.nodup a ha
    rw [hX, List.nodup_cons] at hn
    by_cases e : i = a
    · subst e
      rw [setL_at]
      exact hn.2
    · rw [setL_ne e]
      exact h.nodup i hi
end Go.Proofs.Ytalkpoeliekbfaa
