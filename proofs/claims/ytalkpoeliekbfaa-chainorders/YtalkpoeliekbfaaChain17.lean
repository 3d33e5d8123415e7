/-
  Layer 7 (chain): what join makes of the lists (mathematics only).
-/
import Derived.Test.YtalkpoeliekbfaaChain16
namespace Go.Proofs.Ytalkpoeliekbfaa
set_option linter.unusedVariables false
set_option linter.unusedSimpArgs false
def joinX (X : Nat → List Nat) (a c : Nat) : Nat → List Nat := setL (setL X a (X a ++ X c)) c []
def zero3 (E : Nat → Int) (c : Nat) : Nat → Int := upd (upd (upd E (c * 3) 0) (c * 3 + 1) 0) (c * 3 + 2) 0
theorem zero3_ne {E : Nat → Int} {c j : Nat} (h : j < c * 3 ∨ c * 3 + 2 < j) : zero3 E c j = E j := by
  unfold zero3
  rw [upd_ne (by omega), upd_ne (by omega), upd_ne (by omega)]
section
variable {n k a c : Nat} {N V E N' E' : Nat → Int} {X : Nat → List Nat}
theorem joinX_at (X : Nat → List Nat) (h : a ≠ c) : joinX X a c a = X a ++ X c := by
  unfold joinX
  rw [setL_ne h, setL_at]
theorem joinX_no (X : Nat → List Nat) (a c : Nat) : joinX X a c c = [] := setL_at _ _ _
theorem joinX_ne (X : Nat → List Nat) {i : Nat} (h : i ≠ a) (h' : i ≠ c) : joinX X a c i = X i := by
  unfold joinX
  rw [setL_ne h', setL_ne h]
theorem setAll_in {V : Nat → Int} {L : List Nat} {a y : Nat} (h : y ∈ L) : setAll V L a y = a := by simp [setAll, h]
theorem setAll_out {V : Nat → Int} {L : List Nat} {a y : Nat} (h : y ∉ L) : setAll V L a y = V y := by simp [setAll, h]
theorem Lists.joined (h : Lists n k N V E X) (ha : a < k) (hc : c < k) (hac : a ≠ c) (hat : ListAt n N' E' a (X a ++ X c)) (hz : E' (c * 3 + 2) = 0)
    (hot : ∀ i, i < k → i ≠ a → i ≠ c → ListAt n N' E' i (X i)) (hN : ∀ y, y ∉ X a → N' y = N y) : Lists n k N' (setAll V (X c) a) E' (joinX X a c) where
  at_ := fun i hi => by
    by_cases e : i = a
    · subst e
      rw [joinX_at X hac]
      exact hat
    · by_cases e' : i = c
      · subst e'
        rw [joinX_no]
        exact ListAt.empty hz
      · rw [joinX_ne X e e']
        exact hot i hi e e'
  own := fun i y hi hy => by
    by_cases e : i = a
    · subst e
      rw [joinX_at X hac, List.mem_append] at hy
      by_cases hm : y ∈ X c
      · exact setAll_in hm
      · rw [setAll_out hm]
        exact h.own i y hi (hy.resolve_right hm)
    · by_cases e' : i = c
      · subst e'
        rw [joinX_no] at hy
        simp at hy
      · rw [joinX_ne X e e'] at hy
        rw [setAll_out (fun hm => e' (h.one hi hc hy hm))]
        exact h.own i y hi hy
  free := fun y hy hno => by
    have h1 : y ∉ X a ++ X c := by
      have := hno a ha
      rwa [joinX_at X hac] at this
    rw [List.mem_append, not_or] at h1
    rw [setAll_out h1.2, hN y h1.1]
    refine h.free y hy fun i hi hm => ?_
    by_cases e : i = a
    · subst e
      exact h1.1 hm
    · by_cases e' : i = c
      · subst e'
        exact h1.2 hm
      · exact hno i hi (by rw [joinX_ne X e e']; exact hm)
  nodup := fun i hi => by
    by_cases e : i = a
    · subst e
      rw [joinX_at X hac, List.nodup_append]
      refine ⟨h.nodup i hi, h.nodup c hc, fun y hy z hz => ?_⟩
      rintro rfl
      exact hac (h.one hi hc hy hz)
    · by_cases e' : i = c
      · subst e'
        rw [joinX_no]
        exact List.nodup_nil
      · rw [joinX_ne X e e']
        exact h.nodup i hi
/-- A list that holds something, behind an empty one. -/
theorem Lists.joinNone (h : Lists n k N V E X) (ha : a < k) (hc : c < k) (hac : a ≠ c) (h0 : X a = []) (hne : X c ≠ []) :
    Lists n k N (setAll V (X c) a) (zero3 (upd (upd (upd E (a * 3) (E (c * 3))) (a * 3 + 1) (E (c * 3 + 1))) (a * 3 + 2) (E (c * 3 + 2))) c) (joinX X a c) := by
  have hC := h.at_ c hc
  obtain ⟨l, z, hl⟩ := last_form hne
  have hz : (X c).getLast? = some z := by rw [hl]; simp
  refine h.joined ha hc hac ?_ (by unfold zero3; exact upd_at _ _ _) (fun i hi e e' => ?_) (fun _ _ => rfl)
  · rw [h0, List.nil_append, hC.first hne, hC.last z hz, hC.count]
    exact (ListAt.onNone (E := E) hne z hz hC.link hC.lt).keep (fun j hj => zero3_ne (by omega)) hC.link
  · exact (h.at_ i hi).keep (fun j hj => by rw [zero3_ne (by omega), upd_ne (by omega), upd_ne (by omega), upd_ne (by omega)]) (h.at_ i hi).link
/-- A list that holds something, behind the last node, z, of another. -/
theorem Lists.joinMore {l : List Nat} {z : Nat} (h : Lists n k N V E X) (ha : a < k) (hc : c < k) (hac : a ≠ c) (hl : X a = l ++ [z]) (hne : X c ≠ []) :
    Lists n k (upd N z (E (c * 3))) (setAll V (X c) a) (zero3 (upd (upd E (a * 3 + 1) (E (c * 3 + 1))) (a * 3 + 2) (((X a).length : Nat) + E (c * 3 + 2))) c) (joinX X a c) := by
  have hC := h.at_ c hc
  have hA := h.at_ a ha
  have hn := h.nodup a ha
  rw [hl] at hn hA
  have hzl : z ∉ l := by
    intro hm
    rw [List.nodup_append] at hn
    exact hn.2.2 z hm z (by simp) rfl
  have hza : z ∈ X a := by rw [hl]; simp
  have hzc : z ∉ X c := fun hm => hac (h.one ha hc hza hm)
  obtain ⟨m, la, hm⟩ := last_form hne
  have hla : (X c).getLast? = some la := by rw [hm]; simp
  refine h.joined ha hc hac ?_ (by unfold zero3; exact upd_at _ _ _) (fun i hi e e' => ?_) (fun y hy => upd_ne (by rintro rfl; exact hy hza))
  · rw [hl, hC.first hne, hC.last la hla, hC.count]
    have H := ListAt.onMore hA hzl hzc la hla hC.link hC.lt
    exact H.keep (fun j hj => zero3_ne (by omega)) H.link
  · exact (h.at_ i hi).keep (fun j hj => by rw [zero3_ne (by omega), upd_ne (by omega), upd_ne (by omega)]) (linked_upd (fun hm => e (h.one hi ha hm hza)) (h.at_ i hi).link)
end
end Go.Proofs.Ytalkpoeliekbfaa
