/-
  Layer 7 (chain): the contracts, of what each list holds: answers that change nothing.
-/
import Derived.Test.YtalkpoeliekbfaaChain18
namespace Go.Proofs.Ytalkpoeliekbfaa
open Go.ChangeShapes Go.WideShapes Go.ChangeAt Go.RowKit Go.Deep
set_option linter.unusedVariables false
set_option linter.unusedSimpArgs false
/-- What list l holds; nothing, if there is none. -/
def listOf (k : Nat) (X : Nat → List Nat) (l : Int) : List Nat := if inR l k = true then X l.toNat else []
theorem inR_form {l : Int} {k : Nat} (h : inR l k = true) : ∃ a : Nat, l = (a : Int) ∧ a < k := by
  simp [inR] at h
  exact ⟨l.toNat, by omega, by omega⟩
theorem listOf_at {k : Nat} (X : Nat → List Nat) {a : Nat} (h : a < k) : listOf k X (a : Int) = X a := by
  unfold listOf
  rw [if_pos (inR_yes ⟨by omega, by omega⟩), Int.toNat_natCast]
theorem listOf_no {k : Nat} (X : Nat → List Nat) {l : Int} (h : inR l k = false) : listOf k X l = [] := by
  unfold listOf
  rw [if_neg (by simp [h])]
namespace Chained
variable {w w' : World} {p gn gw gl n cn cw k cl a c x : Nat} {X : Nat → List Nat}
theorem lenOf {N V E : Nat → Int} (h2 : Lists n k N V E X) (l : Int) : lenV k E l = (listOf k X l).length := by
  cases hl : inR l k
  · rw [listOf_no X hl]
    unfold lenV
    rw [if_neg (by simp [hl])]
    rfl
  · obtain ⟨a, rfl, ha⟩ := inR_form hl
    rw [listOf_at X ha]
    exact lenV_list (h2.at_ a ha) ha
theorem lenC (h : Chained w p gn gw gl n cn cw k cl X) (l : Int) : Calls Try.prog 19 #[.pointer (some ⟨p, 0, none⟩), .int .i64 l] w fun e w' => e = .returned (.int .i64 ((listOf k X l).length : Nat)) ∧ w' = w := by
  obtain ⟨N, V, E, h1, h2⟩ := h
  have := len_any h1 l
  rwa [lenOf h2] at this
theorem first_no (h : Chained w p gn gw gl n cn cw k cl X) (l : Int) (h0 : listOf k X l = []) : Calls Try.prog 11 #[.pointer (some ⟨p, 0, none⟩), .int .i64 l] w fun e w' => e = firstTold 0 false ∧ w' = w := by
  obtain ⟨N, V, E, h1, h2⟩ := h
  exact first_none h1 l (by rw [lenOf h2, h0]; rfl)
theorem pop_no (h : Chained w p gn gw gl n cn cw k cl X) (l : Int) (h0 : listOf k X l = []) : Calls Try.prog 12 #[.pointer (some ⟨p, 0, none⟩), .int .i64 l] w fun e w' => e = firstTold 0 false ∧ w' = w := by
  obtain ⟨N, V, E, h1, h2⟩ := h
  exact pop_none h1 l (by rw [lenOf h2, h0]; rfl)
theorem first_yes {L : List Nat} (h : Chained w p gn gw gl n cn cw k cl X) (ha : a < k) (hX : X a = x :: L) : Calls Try.prog 11 #[.pointer (some ⟨p, 0, none⟩), .int .i64 (a : Int)] w fun e w' => e = firstTold x true ∧ w' = w := by
  obtain ⟨N, V, E, h1, h2⟩ := h
  have hA := h2.at_ a ha
  rw [hX] at hA
  have := first_some h1 a ha (by rw [hA.count]; simp; omega)
  rwa [hA.first (by simp)] at this
theorem where_yes (h : Chained w p gn gw gl n cn cw k cl X) (ha : a < k) (hx : x ∈ X a) : Calls Try.prog 17 #[.pointer (some ⟨p, 0, none⟩), .int .i64 (x : Int)] w fun e w' => e = firstTold a true ∧ w' = w := by
  obtain ⟨N, V, E, h1, h2⟩ := h
  have hv := h2.own a x ha hx
  have := where_some h1 x ((h2.at_ a ha).lt x hx) (by omega)
  rwa [hv] at this
/-- Is a node in no list? -/
def Free (k : Nat) (X : Nat → List Nat) (l : Int) : Prop := ∀ (x : Nat), l = (x : Int) → ∀ i, i < k → x ∉ X i
theorem placeOf_free {N V E : Nat → Int} (h2 : Lists n k N V E X) {l : Int} (hf : Free k X l) : placeOf n V l = -1 := by
  unfold placeOf
  cases hl : inR l n
  · simp
  · obtain ⟨x, rfl, hx⟩ := inR_form hl
    simp only [if_true, Int.toNat_natCast]
    exact (h2.free x hx (hf x rfl)).1
theorem where_no (h : Chained w p gn gw gl n cn cw k cl X) (l : Int) (hf : Free k X l) : Calls Try.prog 17 #[.pointer (some ⟨p, 0, none⟩), .int .i64 l] w fun e w' => e = firstTold 0 false ∧ w' = w := by
  obtain ⟨N, V, E, h1, h2⟩ := h
  exact where_none h1 l (placeOf_free h2 hf)
theorem pushNo (h : Chained w p gn gw gl n cn cw k cl X) (l x : Int) (hno : inR l k = false ∨ inR x n = false ∨ ∃ (y i : Nat), x = (y : Int) ∧ i < k ∧ y ∈ X i) :
    Calls Try.prog 10 #[.pointer (some ⟨p, 0, none⟩), .int .i64 l, .int .i64 x] w fun e w' => e = .returned (.bool false) ∧ w' = w := by
  obtain ⟨N, V, E, h1, h2⟩ := h
  refine push_no h1 l x ?_
  rcases hno with h | h | ⟨y, i, rfl, hi, hy⟩
  · exact .inl h
  · exact .inr (.inl h)
  · refine .inr (.inr ?_)
    have hv := h2.own i y hi hy
    have hyn := (h2.at_ i hi).lt y hy
    unfold placeOf
    rw [if_pos (inR_yes ⟨by omega, by omega⟩), Int.toNat_natCast]
    omega
theorem joinNo (h : Chained w p gn gw gl n cn cw k cl X) (a c : Int) (hno : inR a k = false ∨ inR c k = false ∨ a = c) :
    Calls Try.prog 15 #[.pointer (some ⟨p, 0, none⟩), .int .i64 a, .int .i64 c] w fun e w' => e = .returned (.bool false) ∧ Touch [] w w' := by
  obtain ⟨N, V, E, h1, h2⟩ := h
  refine join_stay h1 a c false ?_
  cases ha : inR a k
  · exact .inl ⟨rfl, rfl⟩
  · cases hc : inR c k
    · exact .inr (.inl ⟨rfl, rfl, rfl⟩)
    · refine .inr (.inr (.inl ⟨rfl, rfl, ?_, rfl⟩))
      rw [ha, hc] at hno
      simpa using hno
theorem joinEmpty (h : Chained w p gn gw gl n cn cw k cl X) (ha : a < k) (hc : c < k) (hac : a ≠ c) (h0 : X c = []) :
    Calls Try.prog 15 #[.pointer (some ⟨p, 0, none⟩), .int .i64 (a : Int), .int .i64 (c : Int)] w fun e w' => e = .returned (.bool true) ∧ Touch [] w w' := by
  obtain ⟨N, V, E, h1, h2⟩ := h
  refine join_stay h1 a c true (.inr (.inr (.inr ⟨inR_yes ⟨by omega, by omega⟩, inR_yes ⟨by omega, by omega⟩, by simp; omega, ?_, rfl⟩)))
  rw [lenOf h2, listOf_at X hc, h0]
  rfl
theorem allC (h : Chained w p gn gw gl n cn cw k cl X) (hn : n ≤ 5000) (l : Int) :
    Calls Try.prog 22 #[.pointer (some ⟨p, 0, none⟩), .int .i64 l] w fun e w' => ∃ u, e = .returned u ∧ w'.ownsRow w.heap.size 3 1 u (listOf k X l).length (nv (listOf k X l)) ∧ Touch [] w w' := by
  obtain ⟨N, V, E, h1, h2⟩ := h
  cases hl : inR l k
  · rw [listOf_no X hl]
    refine all_any (L := []) _ l (by simp) (Lib.hid fun w1 t => ?_)
    exact nodes_none _ _ w1 (Lib.hid (first_none (h1.new t) l (by rw [lenOf h2, listOf_no X hl]; rfl)))
  · obtain ⟨a, rfl, ha⟩ := inR_form hl
    rw [listOf_at X ha]
    have hle := nodup_len n _ (h2.nodup a ha) (h2.at_ a ha).lt
    exact all_any _ _ (by omega) (Lib.hid fun w1 t => nodes_any (h1.new t) a ha (X a) (h2.at_ a ha) (by omega))
/-- A new one's lists, in blocks of its own. -/
def Fresh (w0 : World) (n k : Nat) (X : Nat → List Nat) (v : Value) (w : World) : Prop :=
  ∃ p gn gw gl cn cw cl, v = .pointer (some ⟨p, 0, none⟩) ∧ Chained w p gn gw gl n cn cw k cl X ∧ w0.heap.size ≤ p ∧ w0.heap.size ≤ gn ∧ w0.heap.size ≤ gw ∧ w0.heap.size ≤ gl
theorem fresh_of {w0 w : World} {N V E : Nat → Int} {v : Value} (h : ChainNew w0 n k N V E v w) (h2 : Lists n k N V E X) : Fresh w0 n k X v w := by
  obtain ⟨p, gn, gw, gl, cn, cw, cl, e, h1, r⟩ := h
  exact ⟨p, gn, gw, gl, cn, cw, cl, e, ⟨N, V, E, h1, h2⟩, r⟩
theorem newC (n k : Nat) (w : World) (hn1 : 1 ≤ n) (hn2 : n ≤ 4096) (hk1 : 1 ≤ k) (hk2 : k ≤ 256) :
    Calls Try.prog 7 #[.int .i64 (n : Int), .int .i64 (k : Int)] w fun e w' => ∃ v, e = .returned v ∧ Fresh w n k (fun _ => []) v w' ∧ Touch [] w w' := by
  refine (newC_any n k w hn1 hn2 hk1 hk2).mono ?_
  rintro e w' ⟨v, he, h, t⟩
  exact ⟨v, he, fresh_of h (Lists.new n k), t⟩
theorem copyC (h : Chained w p gn gw gl n cn cw k cl X) (hn : n ≤ 5000) (hk : k ≤ 5000) :
    Calls Try.prog 16 #[.pointer (some ⟨p, 0, none⟩)] w fun e w' => ∃ v, e = .returned v ∧ Fresh w n k X v w' ∧ Touch [] w w' := by
  obtain ⟨N, V, E, h1, h2⟩ := h
  refine (copyC_any h1 hn hk).mono ?_
  rintro e w' ⟨v, he, h, t⟩
  exact ⟨v, he, fresh_of h h2, t⟩
end Chained
end Go.Proofs.Ytalkpoeliekbfaa
