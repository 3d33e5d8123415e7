/-
  What holds of a slab through takings and givings: plain mathematics.
-/
import Derived.Test.YtkbjkijcabmbpaaSlab4
namespace Go.Proofs.Ytkbjkijcabmbpaa
open Go.ChangeShapes Go.WideShapes Go.ChangeAt Go.RowKit Go.Deep
set_option linter.unusedVariables false

/-- The cells of a list of handles. -/
def hv (L : List (Nat × Int)) : List Value := L.flatMap fun h => [.int .i64 h.1, .int .i64 h.2]
theorem hv_append (A B : List (Nat × Int)) : hv (A ++ B) = hv A ++ hv B := by unfold hv; rw [List.flatMap_append]
theorem hv_length : ∀ L : List (Nat × Int), (hv L).length = L.length * 2
  | [] => rfl
  | x :: L => by
    have := hv_length L
    show ([_, _] ++ hv L).length = _
    rw [List.length_append, this]
    simp
    omega
theorem hv_drop : ∀ (L : List (Nat × Int)) (i : Nat), (hv L).drop (i * 2) = hv (L.drop i)
  | [], i => by simp [hv]
  | x :: L, 0 => by simp
  | x :: L, i + 1 => by
    show (_ :: _ :: hv L).drop ((i + 1) * 2) = _
    rw [show (i + 1) * 2 = i * 2 + 1 + 1 by omega, List.drop_succ_cons, List.drop_succ_cons, hv_drop L i]
    rfl
theorem hv_take : ∀ (L : List (Nat × Int)) (i : Nat), (hv L).take (i * 2) = hv (L.take i)
  | [], i => by simp [hv]
  | x :: L, 0 => by simp [hv]
  | x :: L, i + 1 => by
    show (_ :: _ :: hv L).take ((i + 1) * 2) = _
    rw [show (i + 1) * 2 = i * 2 + 1 + 1 by omega, List.take_succ_cons, List.take_succ_cons, hv_take L i]
    rfl
theorem hv_get {L : List (Nat × Int)} {i : Nat} {x : Nat × Int} (h : L[i]? = some x) : (hv L)[i * 2]? = some (.int .i64 x.1) ∧ (hv L)[i * 2 + 1]? = some (.int .i64 x.2) := by
  have hd := hv_drop L i
  have : L.drop i = x :: L.drop (i + 1) := by
    obtain ⟨hi, he⟩ := List.getElem?_eq_some_iff.1 h
    rw [← he]
    exact List.drop_eq_getElem_cons hi
  rw [this] at hd
  constructor
  · have := congrArg (fun l => l[0]?) hd
    simpa [hv] using this
  · have := congrArg (fun l => l[1]?) hd
    simpa [hv] using this
theorem hv_one (L : List (Nat × Int)) : ∀ u ∈ hv L, u.oneCell' = true := by
  intro u hu
  simp only [hv, List.mem_flatMap] at hu
  obtain ⟨x, _, hu⟩ := hu
  simp at hu
  rcases hu with rfl | rfl <;> rfl

/-- n slots, m of them on the stack; E: the handles that were ever told, N: those that are out. -/
structure Inv (n m : Nat) (S K : Nat → Int) (E N : List (Nat × Int)) (j : Nat) : Prop where
  sum : m + N.length = n
  free : ∀ i, i < m → ∃ a : Nat, K i = a ∧ a < n ∧ S (a * 2) = 0
  apart : ∀ i i', i < m → i' < m → K i = K i' → i = i'
  out : ∀ h ∈ N, h.1 < n ∧ S (h.1 * 2) = 1 ∧ S (h.1 * 2 + 1) = h.2
  once : N.Pairwise fun x y => x.1 ≠ y.1
  ever : ∀ h ∈ E, h.1 < n ∧ (h.2 < S (h.1 * 2 + 1) ∨ h.2 = S (h.1 * 2 + 1) ∧ S (h.1 * 2) = 1)
  turns : ∀ a, a < n → 0 ≤ S (a * 2 + 1) ∧ S (a * 2 + 1) ≤ j
  few : E.length ≤ j

theorem inv_new {n : Nat} (h1 : 1 ≤ n) : Inv n n (fun _ => 0) (fun i => (n : Int) - 1 - i) [] [] 0 where
  sum := by simp
  free := fun i hi => ⟨n - 1 - i, by omega, by omega, rfl⟩
  apart := fun i i' hi hi' h => by omega
  out := fun h hh => by simp at hh
  once := List.Pairwise.nil
  ever := fun h hh => by simp at hh
  turns := fun a ha => ⟨Int.le_refl _, Int.le_refl _⟩
  few := Nat.le_refl _

section
variable {n m j : Nat} {S K : Nat → Int} {E N : List (Nat × Int)}
theorem Inv.next (h : Inv n m S K E N j) : Inv n m S K E N (j + 1) :=
  ⟨h.sum, h.free, h.apart, h.out, h.once, h.ever, fun a ha => by have := h.turns a ha; omega, by have := h.few; omega⟩

theorem Inv.take (h : Inv n (m + 1) S K E N j) (a : Nat) (hK : K m = a) (ha : a < n) (h0 : S (a * 2) = 0) :
    Inv n m (upd S (a * 2) 1) K (E ++ [(a, S (a * 2 + 1))]) (N ++ [(a, S (a * 2 + 1))]) (j + 1) ∧ ∀ e ∈ E, e ≠ (a, S (a * 2 + 1)) := by
  have hodd : ∀ b, upd S (a * 2) 1 (b * 2 + 1) = S (b * 2 + 1) := fun b => upd_other _ _ (by omega)
  have heq : upd S (a * 2) 1 (a * 2) = 1 := upd_same _ _ _
  have hne : ∀ b, b ≠ a → upd S (a * 2) 1 (b * 2) = S (b * 2) := fun b hb => upd_other _ _ (by omega)
  have hout : ∀ x ∈ N, x.1 ≠ a := fun x hx e => by
    have := (h.out x hx).2.1
    rw [e, h0] at this
    cases this
  have hold : ∀ e ∈ E, e.1 = a → e.2 < S (a * 2 + 1) := fun e he hea => by
    rcases (h.ever e he).2 with hx | ⟨_, hx⟩
    · rwa [hea] at hx
    · rw [hea, h0] at hx
      cases hx
  refine ⟨⟨?_, ?_, ?_, ?_, ?_, ?_, ?_, ?_⟩, ?_⟩
  · have := h.sum
    simp
    omega
  · intro i hi
    obtain ⟨b, hb, hbn, hb0⟩ := h.free i (by omega)
    have : b ≠ a := fun e => by
      have := h.apart i m (by omega) (by omega) (by rw [hb, hK, e])
      omega
    exact ⟨b, hb, hbn, by rw [hne b this, hb0]⟩
  · exact fun i i' hi hi' => h.apart i i' (by omega) (by omega)
  · intro x hx
    rcases List.mem_append.1 hx with hx | hx
    · obtain ⟨x0, x1, x2⟩ := h.out x hx
      exact ⟨x0, by rw [hne _ (hout x hx), x1], by rw [hodd, x2]⟩
    · simp at hx
      subst hx
      exact ⟨ha, heq, hodd a⟩
  · rw [List.pairwise_append]
    refine ⟨h.once, by simp, fun x hx y hy => ?_⟩
    simp at hy
    subst hy
    exact hout x hx
  · intro e he
    rcases List.mem_append.1 he with he | he
    · refine ⟨(h.ever e he).1, ?_⟩
      by_cases hea : e.1 = a
      · exact .inl (by rw [hodd, hea]; exact hold e he hea)
      · rw [hodd, hne _ hea]
        exact (h.ever e he).2
    · simp at he
      subst he
      exact ⟨ha, .inr ⟨(hodd a).symm, heq⟩⟩
  · intro b hb
    rw [hodd]
    have := h.turns b hb
    omega
  · have := h.few
    simp
    omega
  · intro e he hea
    have := hold e he (by rw [hea])
    rw [hea] at this
    simp at this

theorem Inv.give {x : Nat × Int} {A B : List (Nat × Int)} (h : Inv n m S K E (A ++ x :: B) j) :
    Inv n (m + 1) (upd (upd S (x.1 * 2) 0) (x.1 * 2 + 1) (x.2 + 1)) (upd K m x.1) E (A ++ B) (j + 1) := by
  obtain ⟨xn, x1, x2⟩ := h.out x (by simp)
  have hodd : ∀ b, b ≠ x.1 → upd (upd S (x.1 * 2) 0) (x.1 * 2 + 1) (x.2 + 1) (b * 2 + 1) = S (b * 2 + 1) := fun b hb => by rw [upd_other _ _ (by omega), upd_other _ _ (by omega)]
  have hev : ∀ b, b ≠ x.1 → upd (upd S (x.1 * 2) 0) (x.1 * 2 + 1) (x.2 + 1) (b * 2) = S (b * 2) := fun b hb => by rw [upd_other _ _ (by omega), upd_other _ _ (by omega)]
  have h0 : upd (upd S (x.1 * 2) 0) (x.1 * 2 + 1) (x.2 + 1) (x.1 * 2) = 0 := by rw [upd_other _ _ (by omega), upd_same]
  have h1 : upd (upd S (x.1 * 2) 0) (x.1 * 2 + 1) (x.2 + 1) (x.1 * 2 + 1) = x.2 + 1 := upd_same _ _ _
  have hAB : ∀ y, y ∈ A ++ B → y.1 ≠ x.1 ∧ y ∈ A ++ x :: B := fun y hy => by
    have hp := h.once
    rw [List.pairwise_append, List.pairwise_cons] at hp
    obtain ⟨_, ⟨p2, _⟩, p3⟩ := hp
    rcases List.mem_append.1 hy with hy | hy
    · exact ⟨p3 y hy x (by simp), by simp [hy]⟩
    · exact ⟨Ne.symm (p2 y hy), by simp [hy]⟩
  refine ⟨?_, ?_, ?_, ?_, ?_, ?_, ?_, ?_⟩
  · have := h.sum
    simp at this ⊢
    omega
  · intro i hi
    by_cases e : i = m
    · subst e
      exact ⟨x.1, upd_same _ _ _, xn, h0⟩
    · obtain ⟨b, hb, hbn, hb0⟩ := h.free i (by omega)
      have : b ≠ x.1 := fun e => by rw [e, x1] at hb0; cases hb0
      exact ⟨b, by rw [upd_other _ _ e, hb], hbn, by rw [hev b this, hb0]⟩
  · have key : ∀ i, i < m → K i ≠ x.1 := fun i hi e => by
      obtain ⟨b, hb, _, hb0⟩ := h.free i hi
      have : b = x.1 := by omega
      rw [this, x1] at hb0
      cases hb0
    intro i i' hi hi' e
    by_cases e1 : i = m <;> by_cases e2 : i' = m
    · omega
    · subst e1
      rw [upd_same, upd_other _ _ e2] at e
      exact absurd e.symm (key i' (by omega))
    · subst e2
      rw [upd_same, upd_other _ _ e1] at e
      exact absurd e (key i (by omega))
    · rw [upd_other _ _ e1, upd_other _ _ e2] at e
      exact h.apart i i' (by omega) (by omega) e
  · intro y hy
    obtain ⟨hne, hm⟩ := hAB y hy
    obtain ⟨y0, y1, y2⟩ := h.out y hm
    exact ⟨y0, by rw [hev _ hne, y1], by rw [hodd _ hne, y2]⟩
  · have hp := h.once
    rw [List.pairwise_append, List.pairwise_cons] at hp
    obtain ⟨p1, ⟨_, p2⟩, p3⟩ := hp
    rw [List.pairwise_append]
    exact ⟨p1, p2, fun y hy z hz => p3 y hy z (by simp [hz])⟩
  · intro e he
    obtain ⟨e0, e1⟩ := h.ever e he
    refine ⟨e0, ?_⟩
    by_cases hx : e.1 = x.1
    · left
      rw [hx, h1]
      rw [hx, x2] at e1
      omega
    · rw [hev _ hx, hodd _ hx]
      exact e1
  · intro b hb
    have t1 := h.turns b hb
    have t2 := h.turns x.1 xn
    by_cases e : b = x.1
    · rw [e, h1]
      omega
    · rw [hodd _ e]
      omega
  · have := h.few
    omega

theorem Inv.alive (h : Inv n m S K E N j) {x : Nat × Int} (hx : x ∈ N) : alive n S x.1 x.2 = true := by
  obtain ⟨a, b, c⟩ := h.out x hx
  simp [Go.Proofs.Ytkbjkijcabmbpaa.alive, a, b, c]
end
theorem dead_after {n : Nat} {S : Nat → Int} {a : Nat} {t u : Int} : alive n (upd (upd S (a * 2) 0) (a * 2 + 1) u) a t = false := by
  have : upd (upd S (a * 2) 0) (a * 2 + 1) u (a * 2) = 0 := by rw [upd_other _ _ (by omega), upd_same]
  simp [alive, this]
end Go.Proofs.Ytkbjkijcabmbpaa
