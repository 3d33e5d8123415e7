/-
  Layer 7 (chain): what push and join make of the lists (mathematics only).
-/
import Derived.Test.YtalkpoeliekbfaaChain15
namespace Go.Proofs.Ytalkpoeliekbfaa
set_option linter.unusedVariables false
set_option linter.unusedSimpArgs false
section
variable {n k a c x : Nat} {N V E : Nat → Int} {X : Nat → List Nat}
theorem Lists.out (h : Lists n k N V E X) (hv : V x = -1) (i : Nat) (hi : i < k) : x ∉ X i := fun hm => by
  have := h.own i x hi hm
  omega
/-- A node on an empty list. -/
theorem Lists.pushNone (h : Lists n k N V E X) (ha : a < k) (hx : x < n) (hv : V x = -1) (h0 : X a = []) :
    Lists n k N (upd V x a) (upd (upd (upd E (a * 3) x) (a * 3 + 1) x) (a * 3 + 2) 1) (setL X a (X a ++ [x])) where
  at_ := fun i hi => by
    by_cases e : i = a
    · subst e
      rw [setL_at, h0]
      exact ListAt.onNone (M := [x]) (by simp) x rfl ⟨(h.free x hx (h.out hv)).2, trivial⟩ (by simpa using hx)
    · rw [setL_ne e]
      exact (h.at_ i hi).keep (fun j hj => by rw [upd_ne (by omega), upd_ne (by omega), upd_ne (by omega)]) (h.at_ i hi).link
  own := fun i y hi hy => by
    by_cases e : i = a
    · subst e
      rw [setL_at, h0] at hy
      obtain rfl : y = x := by simpa using hy
      exact upd_at _ _ _
    · rw [setL_ne e] at hy
      rw [upd_ne (by rintro rfl; exact h.out hv i hi hy)]
      exact h.own i y hi hy
  free := fun y hy hno => by
    have e : y ≠ x := by
      rintro rfl
      exact hno a ha (by rw [setL_at]; simp)
    rw [upd_ne e]
    refine h.free y hy fun i hi hm => ?_
    by_cases e' : i = a
    · subst e'
      exact hno i hi (by rw [setL_at]; simp [hm])
    · exact hno i hi (by rw [setL_ne e']; exact hm)
  nodup := fun i hi => by
    by_cases e : i = a
    · subst e
      rw [setL_at, h0]
      simp
    · rw [setL_ne e]
      exact h.nodup i hi
/-- A node behind the last one, z. -/
theorem Lists.pushMore {l : List Nat} {z : Nat} (h : Lists n k N V E X) (ha : a < k) (hx : x < n) (hv : V x = -1) (hl : X a = l ++ [z]) :
    Lists n k (upd N z x) (upd V x a) (upd (upd E (a * 3 + 1) x) (a * 3 + 2) (((X a).length : Nat) + 1)) (setL X a (X a ++ [x])) where
  at_ := fun i hi => by
    have hn := h.nodup a ha
    rw [hl] at hn
    have hzl : z ∉ l := by
      intro hm
      rw [List.nodup_append] at hn
      exact hn.2.2 z hm z (by simp) rfl
    by_cases e : i = a
    · subst e
      rw [setL_at]
      have h1 := h.at_ i hi
      rw [hl] at h1
      rw [hl]
      have hzx : z ≠ x := by rintro rfl; exact h.out hv i hi (by rw [hl]; simp)
      exact ListAt.onMore (M := [x]) h1 hzl (by simpa using hzx) x rfl ⟨(h.free x hx (h.out hv)).2, trivial⟩ (by simpa using hx)
    · rw [setL_ne e]
      exact (h.at_ i hi).keep (fun j hj => by rw [upd_ne (by omega), upd_ne (by omega)]) (linked_upd (fun hm => e (h.one hi ha hm (by rw [hl]; simp))) (h.at_ i hi).link)
  own := fun i y hi hy => by
    by_cases e : i = a
    · subst e
      rw [setL_at] at hy
      by_cases e' : y = x
      · subst e'
        exact upd_at _ _ _
      · rw [upd_ne e']
        exact h.own i y hi (by simpa [e'] using hy)
    · rw [setL_ne e] at hy
      rw [upd_ne (by rintro rfl; exact h.out hv i hi hy)]
      exact h.own i y hi hy
  free := fun y hy hno => by
    have e : y ≠ x := by
      rintro rfl
      exact hno a ha (by rw [setL_at]; simp)
    have ez : y ≠ z := by
      rintro rfl
      exact hno a ha (by rw [setL_at, hl]; simp)
    rw [upd_ne e, upd_ne ez]
    refine h.free y hy fun i hi hm => ?_
    by_cases e' : i = a
    · subst e'
      exact hno i hi (by rw [setL_at]; simp [hm])
    · exact hno i hi (by rw [setL_ne e']; exact hm)
  nodup := fun i hi => by
    by_cases e : i = a
    · subst e
      rw [setL_at, List.nodup_append]
      refine ⟨h.nodup i hi, by simp, fun y hy w hw => ?_⟩
      obtain rfl : w = x := by simpa using hw
      rintro rfl
      exact h.out hv i hi hy
    · rw [setL_ne e]
      exact h.nodup i hi
end
end Go.Proofs.Ytalkpoeliekbfaa
