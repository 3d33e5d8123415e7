/-
  Layer 7 (chain): the contracts, of what each list holds.
-/
import Derived.Test.YtalkpoeliekbfaaChain17
namespace Go.Proofs.Ytalkpoeliekbfaa
open Go.ChangeShapes Go.WideShapes Go.ChangeAt Go.RowKit Go.Deep
set_option linter.unusedVariables false
set_option linter.unusedSimpArgs false
theorem nodup_len : ∀ (n : Nat) (L : List Nat), L.Nodup → (∀ x ∈ L, x < n) → L.length ≤ n
  | 0, L, _, h => by
    cases L with
    | nil => simp
    | cons x l => exact absurd (h x (by simp)) (by omega)
  | n + 1, L, hn, h => by
    have := nodup_len n (L.erase n) (hn.erase n) (fun x hx => by
      have h1 := hn.mem_erase_iff.1 hx
      have := h x h1.2
      omega)
    rw [List.length_erase] at this
    split at this <;> omega
/-- Lists at block p that hold X. -/
def Chained (w : World) (p gn gw gl n cn cw k cl : Nat) (X : Nat → List Nat) : Prop := ∃ N V E, ChainAt w p gn gw gl n cn cw k cl N V E ∧ Lists n k N V E X
namespace Chained
variable {w w' : World} {p gn gw gl n cn cw k cl a c x : Nat} {X : Nat → List Nat}
theorem carry {T : List Nat} (h : Chained w p gn gw gl n cn cw k cl X) (t : Touch T w w') (hT : ∀ b ∈ [p, gn, gw, gl], b ∉ T) : Chained w' p gn gw gl n cn cw k cl X := by
  obtain ⟨N, V, E, h1, h2⟩ := h
  exact ⟨N, V, E, h1.carry t hT, h2⟩
theorem new (h : Chained w p gn gw gl n cn cw k cl X) (t : Touch [] w w') : Chained w' p gn gw gl n cn cw k cl X := h.carry t (by simp)
theorem len (h : Chained w p gn gw gl n cn cw k cl X) (ha : a < k) : (X a).length ≤ n := by
  obtain ⟨N, V, E, h1, h2⟩ := h
  exact nodup_len n _ (h2.nodup a ha) (h2.at_ a ha).lt
theorem push_yes (h : Chained w p gn gw gl n cn cw k cl X) (hn : n ≤ 5000) (ha : a < k) (hx : x < n) (hno : ∀ i, i < k → x ∉ X i) :
    Calls Try.prog 10 #[.pointer (some ⟨p, 0, none⟩), .int .i64 (a : Int), .int .i64 (x : Int)] w fun e w' => e = .returned (.bool true) ∧
      Chained w' p gn gw gl n cn cw k cl (setL X a (X a ++ [x])) ∧ Touch [gn, gw, gl] w w' := by
  have hlen := h.len ha
  obtain ⟨N, V, E, h1, h2⟩ := h
  have hv := (h2.free x hx hno).1
  have hc := (h2.at_ a ha).count
  have t0 : Touch [gn, gw, gl] w (w.setCell ⟨gw, x, none⟩ (.int .i64 (a : Int))) := (Touch.refl _ w).setCell (a := ⟨gw, x, none⟩) (.inl (by simp)) _
  refine push_of h1 a x ha hx hv (fun w' => Chained w' p gn gw gl n cn cw k cl (setL X a (X a ++ [x])) ∧ Touch [gn, gw, gl] w w') fun hA => ?_
  by_cases h0 : X a = []
  · refine (attach_first hA a ha (by rw [hc, h0]; rfl) x x 1).mono ?_
    rintro e w' ⟨he, hc', t⟩
    exact ⟨he, ⟨_, _, _, hc', h2.pushNone ha hx hv h0⟩, t0.trans t (by simp)⟩
  · obtain ⟨l, z, hl⟩ := last_form h0
    refine (attach_more hA a ha z ((h2.at_ a ha).last z (by rw [hl]; simp)) ((h2.at_ a ha).lt z (by rw [hl]; simp)) _ hc (by have := List.length_pos_iff.2 h0; omega) x x 1 (by omega) (by omega)).mono ?_
    rintro e w' ⟨he, hc', t⟩
    exact ⟨he, ⟨_, _, _, hc', h2.pushMore ha hx hv hl⟩, t0.trans t (by simp)⟩
theorem pop_yes {L : List Nat} (h : Chained w p gn gw gl n cn cw k cl X) (hn : n ≤ 5000) (ha : a < k) (hX : X a = x :: L) :
    Calls Try.prog 12 #[.pointer (some ⟨p, 0, none⟩), .int .i64 (a : Int)] w fun e w' => e = firstTold x true ∧
      Chained w' p gn gw gl n cn cw k cl (setL X a L) ∧ Touch [gn, gw, gl] w w' := by
  have hlen := h.len ha
  obtain ⟨N, V, E, h1, h2⟩ := h
  have hA := h2.at_ a ha
  rw [hX] at hA hlen
  simp only [List.length_cons] at hlen
  refine (pop_some h1 a ha ((L.length : Int) + 1) (by rw [hA.count]; simp) (by omega) (hA.first (by simp)) (hA.lt x (by simp)) (N x) rfl).mono ?_
  rintro e w' ⟨he, hc', t⟩
  rw [show (L.length : Int) + 1 - 1 = L.length by omega] at hc'
  exact ⟨he, ⟨_, _, _, hc', h2.pop ha hX⟩, t⟩
theorem join_yes (h : Chained w p gn gw gl n cn cw k cl X) (hn : n ≤ 5000) (ha : a < k) (hc : c < k) (hac : a ≠ c) (hne : X c ≠ []) :
    Calls Try.prog 15 #[.pointer (some ⟨p, 0, none⟩), .int .i64 (a : Int), .int .i64 (c : Int)] w fun e w' => e = .returned (.bool true) ∧
      Chained w' p gn gw gl n cn cw k cl (joinX X a c) ∧ Touch [gn, gw, gl] w w' := by
  have hlen := h.len ha
  have hlec := h.len hc
  obtain ⟨N, V, E, h1, h2⟩ := h
  have hA := h2.at_ a ha
  have hC := h2.at_ c hc
  have qA := hA.count
  have qC := hC.count
  by_cases h0 : X a = []
  · refine (join_of h1 a c ha hc hac (X c) hC hne (by omega) (fun N' E' => N' = N ∧ E' = upd (upd (upd E (a * 3) (E (c * 3))) (a * 3 + 1) (E (c * 3 + 1))) (a * 3 + 2) (E (c * 3 + 2))) (fun W hW => ?_)).mono ?_
    · refine (attach_first hW a ha (by rw [qA, h0]; rfl) _ _ _).mono ?_
      rintro e w' ⟨he, hc', t⟩
      exact ⟨he, ⟨_, _, ⟨rfl, rfl⟩, hc'⟩, t.mono (by simp)⟩
    · rintro e w' ⟨he, ⟨_, _, ⟨rfl, rfl⟩, hc', t⟩⟩
      exact ⟨he, ⟨_, _, _, hc', h2.joinNone ha hc hac h0 hne⟩, t⟩
  · obtain ⟨l, z, hl⟩ := last_form h0
    refine (join_of h1 a c ha hc hac (X c) hC hne (by omega) (fun N' E' => N' = upd N z (E (c * 3)) ∧ E' = upd (upd E (a * 3 + 1) (E (c * 3 + 1))) (a * 3 + 2) (((X a).length : Nat) + E (c * 3 + 2))) (fun W hW => ?_)).mono ?_
    · refine (attach_more hW a ha z (hA.last z (by rw [hl]; simp)) (hA.lt z (by rw [hl]; simp)) _ qA (by have := List.length_pos_iff.2 h0; omega) _ _ _ (by omega) (by omega)).mono ?_
      rintro e w' ⟨he, hc', t⟩
      exact ⟨he, ⟨_, _, ⟨rfl, rfl⟩, hc'⟩, t⟩
    · rintro e w' ⟨he, ⟨_, _, ⟨rfl, rfl⟩, hc', t⟩⟩
      exact ⟨he, ⟨_, _, _, hc', h2.joinMore ha hc hac hl hne⟩, t⟩
end Chained
end Go.Proofs.Ytalkpoeliekbfaa
