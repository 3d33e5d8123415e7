/-
  PoolPlays: a buffer and the reference's side by side.
-/
import Derived.Test.YtkbjkijcabmbpaaRefPool5
import Derived.Test.YtkbjkijcabmbpaaSlabPlay2
import Derived.Test.YtkbjkijcabmbpaaPool6
import Derived.Test.YtkbjkijcabmbpaaPoolCopy2
namespace Go.Proofs.Ytkbjkijcabmbpaa
open Go.ChangeShapes Go.WideShapes Go.ChangeAt Go.RowKit Go.Deep Go.Maps
set_option linter.unusedVariables false

def flag (S : Nat → Int) : Nat → Bool := fun a => decide (S (a * 2) = 1)
def turnsOf (S : Nat → Int) : Nat → Int := fun a => S (a * 2 + 1)
def cnt (S : Nat → Int) : Nat → Int := fun a => if S (a * 2) = 1 then 1 else 0
/-- What holds of the numbers: n slots, m of them on the stack K, s taken. -/
structure PMath (n m : Nat) (S K : Nat → Int) (M : Pks) (X : Nat → Pk) (s : Nat) (bytes room : Int) (j : Nat) : Prop where
  free : ∀ i, i < m → ∃ a : Nat, K i = a ∧ a < n ∧ S (a * 2) = 0
  apart : ∀ i i', i < m → i' < m → K i = K i' → i = i'
  turns : ∀ a, a < n → 0 ≤ S (a * 2 + 1) ∧ S (a * 2 + 1) ≤ j
  has : ∀ a : Nat, a < n → S (a * 2) = 1 → M a = some (X a)
  nil : ∀ a : Nat, a < n → S (a * 2) ≠ 1 → M a = none
  each : ∀ a, a < n → S (a * 2) = 1 → 1 ≤ (X a).size ∧ (X a).size ≤ 2048
  sum : sumC (sizeIf (flag S) X) n = bytes
  count : s + m = n
  taken : (s : Int) = sumC (cnt S) n
  fits : bytes ≤ room
section
variable {n m j s : Nat} {S K : Nat → Int} {M : Pks} {X : Nat → Pk} {bytes room : Int}
theorem PMath.next (h : PMath n m S K M X s bytes room j) : PMath n m S K M X s bytes room (j + 1) :=
  ⟨h.free, h.apart, fun a ha => by have := h.turns a ha; omega, h.has, h.nil, h.each, h.sum, h.count, h.taken, h.fits⟩
theorem PMath.sizes (h : PMath n m S K M X s bytes room j) : ∀ i, i < n → 0 ≤ sizeIf (flag S) X i ∧ sizeIf (flag S) X i ≤ 2048 := fun i hi => by
  unfold sizeIf flag
  by_cases e : S (i * 2) = 1
  · have := h.each i hi e
    simp [e]
    omega
  · simp [e]
theorem PMath.low (h : PMath n m S K M X s bytes room j) : 0 ≤ bytes := by rw [← h.sum]; exact (sumC_bounds h.sizes).1
theorem pmath_new (n : Nat) (room : Int) (hr : 0 ≤ room) : PMath n n (fun _ => 0) (fun i => (n : Int) - 1 - i) (fun _ => none) (fun _ => zeroPk) 0 0 room 0 where
  free := fun i hi => ⟨n - 1 - i, by omega, by omega, rfl⟩
  apart := fun i i' hi hi' h => by omega
  turns := fun a ha => by simp
  has := fun a ha h => by simp at h
  nil := fun a ha h => rfl
  each := fun a ha h => by simp at h
  sum := by
    rw [sumC_congr (c' := fun _ => 0) fun i hi => by simp [sizeIf, flag]]
    induction n with
    | zero => rfl
    | succ n ih => show sumC _ n + 0 = 0; rw [ih]; rfl
  count := by omega
  taken := by
    rw [sumC_congr (c' := fun _ => 0) fun i hi => by simp [cnt]]
    induction n with
    | zero => rfl
    | succ n ih => show _ = sumC _ n + 0; rw [← ih]; rfl
  fits := hr
theorem PMath.put {a : Nat} (h : PMath n (m + 1) S K M X s bytes room j) (hK : K m = a) (han : a < n) (h0 : S (a * 2) = 0) (x : Pk) (hf : fitsV (m + 1) bytes room x.size = 0) :
    PMath n m (upd S (a * 2) 1) K (putP M a (some x)) (fun i => if i = a then x else X i) (s + 1) (bytes + x.size) room (j + 1) := by
  obtain ⟨f1, f2, _, f3⟩ := fits_why hf
  have hS : ∀ b, b ≠ a → upd S (a * 2) 1 (b * 2) = S (b * 2) := fun b hb => upd_other _ _ (by omega)
  refine ⟨fun i hi => ?_, fun i i' hi hi' e => h.apart i i' (by omega) (by omega) e, fun b hb => ?_, fun b hb e => ?_, fun b hb e => ?_, fun b hb e => ?_, ?_, ?_, ?_, f3⟩
  · obtain ⟨b, h1, h2, h3⟩ := h.free i (by omega)
    refine ⟨b, h1, h2, ?_⟩
    rw [hS b (fun e => ?_)]
    · exact h3
    · subst e
      have := h.apart i m (by omega) (by omega) (by rw [h1, hK])
      omega
  · rw [upd_other _ _ (by omega)]
    have := h.turns b hb
    omega
  · unfold putP
    by_cases e2 : b = a
    · subst e2
      rw [if_pos rfl, if_pos rfl]
    · rw [if_neg (by omega), if_neg e2]
      rw [hS b e2] at e
      exact h.has b hb e
  · unfold putP
    by_cases e2 : b = a
    · subst e2
      rw [upd_same] at e
      exact absurd rfl e
    · rw [if_neg (by omega)]
      rw [hS b e2] at e
      exact h.nil b hb e
  · by_cases e2 : b = a
    · subst e2
      rw [if_pos rfl]
      exact ⟨f1, f2⟩
    · rw [if_neg e2]
      rw [hS b e2] at e
      exact h.each b hb e
  · rw [sumC_at (c := sizeIf (flag S) X) han fun i hi hne => ?_, h.sum]
    · simp [sizeIf, flag, upd_same, h0]
    · unfold sizeIf flag
      rw [hS i hne]
      simp only [hne, if_false]
  · have := h.count
    omega
  · rw [sumC_at (c := cnt S) han fun i hi hne => ?_, ← h.taken]
    · simp [cnt, upd_same, h0]
    · unfold cnt
      rw [hS i hne]
theorem PMath.give {a : Nat} {t : Int} (h : PMath n m S K M X s bytes room j) (han : a < n) (h1 : S (a * 2) = 1) (ht : S (a * 2 + 1) = t) :
    1 ≤ s ∧ PMath n (m + 1) (upd (upd S (a * 2) 0) (a * 2 + 1) (t + 1)) (upd K m a) (putP M a none) X (s - 1) (bytes - (X a).size) room (j + 1) := by
  have hS : ∀ b, b ≠ a → upd (upd S (a * 2) 0) (a * 2 + 1) (t + 1) (b * 2) = S (b * 2) := fun b hb => by rw [upd_other _ _ (by omega), upd_other _ _ (by omega)]
  have hSa : upd (upd S (a * 2) 0) (a * 2 + 1) (t + 1) (a * 2) = 0 := by rw [upd_other _ _ (by omega), upd_same]
  have hcnt : sumC (cnt (upd (upd S (a * 2) 0) (a * 2 + 1) (t + 1))) n = sumC (cnt S) n - 1 := by
    rw [sumC_at (c := cnt S) han fun i hi hne => ?_]
    · unfold cnt
      rw [hSa, h1]
      simp
      omega
    · unfold cnt
      rw [hS i hne]
  have hs1 : 1 ≤ s := by
    have := (sumC_bounds (c := cnt (upd (upd S (a * 2) 0) (a * 2 + 1) (t + 1))) (n := n) fun i hi => by unfold cnt; split <;> omega).1
    rw [hcnt, ← h.taken] at this
    omega
  have hx := h.each a han h1
  refine ⟨hs1, fun i hi => ?_, fun i i' hi hi' e => ?_, fun b hb => ?_, fun b hb e => ?_, fun b hb e => ?_, fun b hb e => ?_, ?_, ?_, ?_, ?_⟩
  · by_cases e : i = m
    · subst e
      exact ⟨a, upd_same _ _ _, han, hSa⟩
    · rw [upd_other _ _ e]
      obtain ⟨b, h2, h3, h4⟩ := h.free i (by omega)
      refine ⟨b, h2, h3, ?_⟩
      rw [hS b (fun e => by subst e; omega)]
      exact h4
  · have key : ∀ i, i < m → K i ≠ a := fun i hi e => by
      obtain ⟨b, h2, h3, h4⟩ := h.free i hi
      obtain rfl : b = a := by omega
      omega
    by_cases e1 : i = m
    · by_cases e2 : i' = m
      · omega
      · subst e1
        rw [upd_same, upd_other _ _ e2] at e
        exact absurd e.symm (key i' (by omega))
    · by_cases e2 : i' = m
      · subst e2
        rw [upd_same, upd_other _ _ e1] at e
        exact absurd e (key i (by omega))
      · rw [upd_other _ _ e1, upd_other _ _ e2] at e
        exact h.apart i i' (by omega) (by omega) e
  · have h2 := h.turns b hb
    have h3 := h.turns a han
    by_cases e : b = a
    · subst e
      rw [upd_same]
      omega
    · rw [upd_other _ _ (by omega), upd_other _ _ (by omega)]
      omega
  · by_cases e2 : b = a
    · subst e2
      rw [hSa] at e
      omega
    · rw [hS b e2] at e
      unfold putP
      rw [if_neg (by omega)]
      exact h.has b hb e
  · unfold putP
    by_cases e2 : b = a
    · subst e2
      rw [if_pos rfl]
    · rw [hS b e2] at e
      rw [if_neg (by omega)]
      exact h.nil b hb e
  · by_cases e2 : b = a
    · subst e2
      rw [hSa] at e
      omega
    · rw [hS b e2] at e
      exact h.each b hb e
  · rw [sumC_at (c := sizeIf (flag S) X) han fun i hi hne => ?_, h.sum]
    · unfold sizeIf flag
      rw [hSa, h1]
      simp
      omega
    · unfold sizeIf flag
      rw [hS i hne]
  · have := h.count
    omega
  · rw [hcnt, ← h.taken]
    omega
  · have := h.fits
    omega
end

/-- The two side by side: the buffer at q, the reference's in the law's block bx. -/
structure PPlay (W wr : World) (bx q p g k n ns m c : Nat) (S K : Nat → Int) (mb s : Nat) (M : Pks) (bytes room : Int) (vf vt vb vk : Value) (X : Nat → Pk) (j : Nat) : Prop where
  pool : PoolAt wr q p g k n ns m c S K mb s M bytes room
  box : BoxV wr bx 58 #[vf, vt, vb, vk, .int .i64 room]
  ref : RPool [q, p, g, k, mb, bx] wr vf vt vb vk m n (fun i => K (m - 1 - i)) (turnsOf S) (flag S) X
  ptr : ∃ ad cf, vf = .slice (some ad) m cf
  off : bx ∉ [q, p, g, k, mb]
  low : W.heap.size ≤ q ∧ W.heap.size ≤ p ∧ W.heap.size ≤ g ∧ W.heap.size ≤ k ∧ W.heap.size ≤ mb ∧ W.heap.size ≤ bx
  math : PMath n m S K M X s bytes room j
  below : Below W.heap.size W wr
section
variable {W wr w' : World} {bx q p g k n ns m c j mb s : Nat} {S K : Nat → Int} {M : Pks} {bytes room : Int} {vf vt vb vk : Value} {X : Nat → Pk}
theorem PPlay.lt (h : PPlay W wr bx q p g k n ns m c S K mb s M bytes room vf vt vb vk X j) : q < wr.heap.size ∧ p < wr.heap.size ∧ g < wr.heap.size ∧ k < wr.heap.size ∧ mb < wr.heap.size ∧ bx < wr.heap.size :=
  ⟨h.pool.box.lt, h.pool.slab.ltp, h.pool.slab.ltg, h.pool.slab.ltk, h.pool.map.lt, h.box.lt⟩
theorem PPlay.carry (h : PPlay W wr bx q p g k n ns m c S K mb s M bytes room vf vt vb vk X j) (t : Touch [] wr w') : PPlay W w' bx q p g k n ns m c S K mb s M bytes room vf vt vb vk X j :=
  ⟨h.pool.new t, h.box.carry t (by simp), h.ref.new t, h.ptr, h.off, h.low, h.math, h.below.trans (t.below (by simp) h.below.size)⟩
theorem PPlay.next (h : PPlay W wr bx q p g k n ns m c S K mb s M bytes room vf vt vb vk X j) : PPlay W wr bx q p g k n ns m c S K mb s M bytes room vf vt vb vk X (j + 1) :=
  ⟨h.pool, h.box, h.ref, h.ptr, h.off, h.low, h.math.next, h.below⟩
/-- Nothing was done, and the reference's old state is stored again. -/
theorem PPlay.again (h : PPlay W wr bx q p g k n ns m c S K mb s M bytes room vf vt vb vk X j) : PPlay W (wr.setCells bx 0 (#[vf, vt, vb, vk, .int .i64 room] : Array Value).toList) bx q p g k n ns m c S K mb s M bytes room vf vt vb vk X j := by
  have hb := h.below.size
  have hl := h.low
  have t : Touch [bx] wr (wr.setCells bx 0 (#[vf, vt, vb, vk, .int .i64 room] : Array Value).toList) := touch_cellsW _ _ _
  exact ⟨h.pool.carry t (fun b hb hm => h.off (by simp at hm; subst hm; exact hb)), h.box.wholeW _ rfl, h.ref.carry t (fun b hb => .inl (by simp at hb; simp [hb])), h.ptr, h.off, h.low, h.math, h.below.trans (t.below (by simp; omega) hb)⟩
/-- The buffer has turned (new blocks apart, only its own), and the reference's new state is stored. -/
theorem PPlay.turned {w1 w2 : World} {k' m' c' s' : Nat} {S' K' : Nat → Int} {M' : Pks} {bytes' : Int} {vf' vt' vb' vk' : Value} {X' : Nat → Pk} (h : PPlay W wr bx q p g k n ns m c S K mb s M bytes room vf vt vb vk X j)
    (hp : PoolAt w1 q p g k' n ns m' c' S' K' mb s' M' bytes' room) (t1 : Touch [q, p, g, k, mb] wr w1) (hk : k' = k ∨ wr.heap.size ≤ k') (t2 : Touch [] w1 w2)
    (hr : RPool [q, p, g, k', mb, bx] w2 vf' vt' vb' vk' m' n (fun i => K' (m' - 1 - i)) (turnsOf S') (flag S') X') (hf : ∃ ad cf, vf' = .slice (some ad) m' cf) (hm : PMath n m' S' K' M' X' s' bytes' room (j + 1)) :
    PPlay W (w2.setCells bx 0 (#[vf', vt', vb', vk', .int .i64 room] : Array Value).toList) bx q p g k' n ns m' c' S' K' mb s' M' bytes' room vf' vt' vb' vk' X' (j + 1) := by
  have hb := h.below.size
  have hl := h.low
  have hlt := h.lt
  have hoff := h.off
  simp only [List.mem_cons, List.not_mem_nil, or_false, not_or] at hoff
  have t3 : Touch [bx] w2 (w2.setCells bx 0 (#[vf', vt', vb', vk', .int .i64 room] : Array Value).toList) := touch_cellsW _ _ _
  have hbx : BoxV w2 bx 58 #[vf, vt, vb, vk, .int .i64 room] := (h.box.carry t1 (by simp; omega)).carry t2 (by simp)
  have hoff' : bx ∉ [q, p, g, k', mb] := by simp; omega
  have b1 := h.below.trans (t1.below (by simp; omega) hb)
  have b2 := b1.trans (t2.below (by simp) b1.size)
  exact ⟨(hp.new t2).carry t3 (fun b hb hm => hoff' (by simp at hm; subst hm; exact hb)), hbx.wholeW _ rfl, hr.carry t3 (fun b hb => .inl (by simp at hb; simp [hb])), hf, hoff', by omega, hm, b2.trans (t3.below (by simp; omega) b2.size)⟩
/-- What a copy has become. -/
theorem PPlay.copied {v : Value} (h : PPlay W wr bx q p g k n ns m c S K mb s M bytes room vf vt vb vk X j) (hv : PoolNew wr n m S K s M bytes room v w') (t : Touch [] wr w') :
    ∃ q' p' g' k' ns' c' mb', v = .pointer (some ⟨q', 0, none⟩) ∧ PPlay W w' bx q' p' g' k' n ns' m c' S K mb' s M bytes room vf vt vb vk X j := by
  obtain ⟨q', p', g', k', ns', c', mb', hv', hp, l1, l2, l3, l4, l5⟩ := hv
  have hb := h.below.size
  have hl := h.lt
  have hlow := h.low
  refine ⟨q', p', g', k', ns', c', mb', hv', hp, h.box.carry t (by simp), ((h.ref.avoid (Z' := [q', p', g', k', mb', bx]) ?_).new t), h.ptr, by simp; omega, by omega, h.math, h.below.trans (t.below (by simp) hb)⟩
  intro b hb
  simp at hb
  rcases hb with rfl | rfl | rfl | rfl | rfl | rfl
  · exact .inr l1
  · exact .inr l2
  · exact .inr l3
  · exact .inr l4
  · exact .inr l5
  · exact .inl (by simp)
end
end Go.Proofs.Ytkbjkijcabmbpaa
