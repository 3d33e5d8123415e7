/-
  Contracts of slices.Clone and of slab's Copy (layer 6).
-/
import Derived.Test.YtalkpoeliekbfaaSlab4
import Derived.Test.YtalkpoeliekbfaaSlabRef6
import Derived.Deep.RegionWith
import Derived.Deep.RegionHeld3
namespace Go.Proofs.Ytalkpoeliekbfaa
open Go.ChangeShapes Go.WideShapes Go.ChangeAt Go.RowKit Go.Deep
set_option linter.unusedVariables false

/-- The cells of a row, for an append. -/
theorem whole_news {w : World} {base : Nat} {e : TypeId} {size n cap g : Nat} {xs : List Value} (h : w.ownsRow base e size (.slice (some ⟨g, 0, none⟩) n cap) n xs) :
    ∀ j u, xs[j]? = some u → w.cell? ((⟨g, 0, none⟩ : Addr).add j) = some u := by
  intro j u hj
  have hadd : (⟨g, 0, none⟩ : Addr).add j = ⟨g, j, none⟩ := by unfold Addr.add; split <;> simp_all
  have hlt := (List.getElem?_eq_some_iff.1 hj).1
  rw [h.1] at hlt
  rw [hadd, h.cellAt _ hlt, hj]

def Cloned (w : World) (e : TypeId) (size n : Nat) (xs : List Value) (en : Ending) (w' : World) : Prop :=
  ∃ g c, en = .returned (.slice (some ⟨g, 0, none⟩) n c) ∧ w'.ownsRow w.heap.size e size (.slice (some ⟨g, 0, none⟩) n c) n xs ∧ Touch [] w w' ∧ w.heap.size ≤ g ∧ g < w'.heap.size

theorem cloned_of {w w1 : World} {e : TypeId} {size n : Nat} {xs : List Value} {v : Value} {o : Obj} (hown : w1.ownsRow w.heap.size e size v (0 + n) ([] ++ xs)) (hg : (w.alloc o).grownBy w1 (Value.slice (some ⟨w.heap.size, 0, none⟩) 0 0).ownBlock)
    (hnil : v = .slice none 0 0 ↔ (Value.slice (some ⟨w.heap.size, 0, none⟩) 0 0) = .slice none 0 0 ∧ n = 0) : ∃ g c, v = .slice (some ⟨g, 0, none⟩) n c ∧ w1.ownsRow w.heap.size e size (.slice (some ⟨g, 0, none⟩) n c) n xs ∧ Touch [] w w1 ∧ w.heap.size ≤ g ∧ g < w1.heap.size := by
  rw [Nat.zero_add, List.nil_append] at hown
  have ht : Touch [] w w1 := ((Touch.refl [] w).alloc o).grown hg (by simp [Value.ownBlock])
  rcases hown.2 with ⟨h1, h2⟩ | ⟨g, cap, cur, h1, h2, h3, _⟩
  · have := hnil.1 h1
    simp at this
  · subst h1
    exact ⟨g, cap, rfl, hown, ht, h2, own_lt hown rfl⟩

set_option maxRecDepth 100000 in
theorem clone_slots {w : World} {g n c : Nat} {xs : List Value} (h : w.ownsRow 0 124 2 (.slice (some ⟨g, 0, none⟩) n c) n xs) (hx : ∀ u ∈ xs, u.oneCell' = true) (hn : n ≤ 5000) :
    Calls Try.prog 65 #[.slice (some ⟨g, 0, none⟩) n c] w (Cloned w 124 2 n xs) := by
  obtain ⟨i0, hi0, hz0, hz1, hz2⟩ := info_parts slot_info
  have R1 := Lib.hid (World.ownsRow_lit (base := w.heap.size) (e := 124) (size := 2) w #[] 0 (Nat.le_refl _) (by unfold maxLen; omega) rfl)
  have R2 := Lib.hid (whole_news (h.alloc (.cells #[] 124)))
  have R3 := Lib.hid h.1
  have HX := Lib.hid hx
  clear h hx
  have he : ∀ w : World, (binOp .eql 120 (.slice (some ⟨g, 0, none⟩) n c) (.slice none 0 0)).run Try.prog w = .ok (.bool false) w := fun _ => rfl
  go_enter Try.func65, Try.ntmps65
  go_wp2_with (at_builtin; refine wpList_append_own _ rfl (.tmp 5) (.tmp 6) 120 rfl w.heap.size 124 i0 _ 2 16 Try.underlying120 hi0 hz0 hz1 hz2 rfl (by decide) (.slice (some ⟨w.heap.size, 0, none⟩) 0 0) 0 [] rfl R1.out ⟨g, 0, none⟩ n c xs rfl R3.out R2.out HX.out (by unfold maxLen; omega) (by omega) (by simp) ?_; intro v' w1 hown hgrow hnil; obtain ⟨g', c', rfl, q1, q2, q3, q4⟩ := cloned_of hown hgrow hnil; clear hown hgrow hnil)
  go_ret
  exact ⟨g', c', rfl, q1, q2, q3, q4⟩

set_option maxRecDepth 100000 in
theorem clone_ints {w : World} {g n c : Nat} {xs : List Value} (h : w.ownsRow 0 3 1 (.slice (some ⟨g, 0, none⟩) n c) n xs) (hx : ∀ u ∈ xs, u.oneCell' = true) (hn : n ≤ 5000) :
    Calls Try.prog 46 #[.slice (some ⟨g, 0, none⟩) n c] w (Cloned w 3 1 n xs) := by
  obtain ⟨i0, hi0, hz0, hz1, hz2⟩ := info_parts int_info
  have R1 := Lib.hid (World.ownsRow_lit (base := w.heap.size) (e := 3) (size := 1) w #[] 0 (Nat.le_refl _) (by unfold maxLen; omega) rfl)
  have R2 := Lib.hid (whole_news (h.alloc (.cells #[] 3)))
  have R3 := Lib.hid h.1
  have HX := Lib.hid hx
  clear h hx
  have he : ∀ w : World, (binOp .eql 40 (.slice (some ⟨g, 0, none⟩) n c) (.slice none 0 0)).run Try.prog w = .ok (.bool false) w := fun _ => rfl
  go_enter Try.func46, Try.ntmps46
  go_wp2_with (at_builtin; refine wpList_append_own _ rfl (.tmp 5) (.tmp 6) 40 rfl w.heap.size 3 i0 _ 1 8 Try.underlying40 hi0 hz0 hz1 hz2 rfl (by decide) (.slice (some ⟨w.heap.size, 0, none⟩) 0 0) 0 [] rfl R1.out ⟨g, 0, none⟩ n c xs rfl R3.out R2.out HX.out (by unfold maxLen; omega) (by omega) (by simp) ?_; intro v' w1 hown hgrow hnil; obtain ⟨g', c', rfl, q1, q2, q3, q4⟩ := cloned_of hown hgrow hnil; clear hown hgrow hnil)
  go_ret
  exact ⟨g', c', rfl, q1, q2, q3, q4⟩

section
variable {w : World} {p g k n ns m c : Nat} {S K : Nat → Int}

def Copied (w : World) (n m : Nat) (S K : Nat → Int) (e : Ending) (w' : World) : Prop :=
  ∃ p g k ns c, e = .returned (.pointer (some ⟨p, 0, none⟩)) ∧ SlabAt w' p g k n ns m c S K ∧ Touch [] w w' ∧ w.heap.size ≤ p ∧ w.heap.size ≤ g ∧ w.heap.size ≤ k

theorem own_zero {w : World} {base : Nat} {e : TypeId} {size n : Nat} {v : Value} {xs : List Value} (h : w.ownsRow base e size v n xs) : w.ownsRow 0 e size v n xs := by
  rcases h.2 with h' | ⟨g, cap, cur, h1, _, h2⟩
  · exact ⟨h.1, .inl h'⟩
  · exact ⟨h.1, .inr ⟨g, cap, cur, h1, Nat.zero_le _, h2⟩⟩

theorem copied_of {w1 w2 : World} {g1 g2 c1 c2 b1 b2 : Nat} (t1 : Touch [] w.drew w1) (t2 : Touch [] w1 w2) (o1 : w1.ownsRow b1 124 2 (.slice (some ⟨g1, 0, none⟩) n c1) n (iv S (n * 2)))
    (o2 : w2.ownsRow b2 3 1 (.slice (some ⟨g2, 0, none⟩) m c2) m (iv K m)) (l1 : w.drew.heap.size ≤ g1) (l1' : g1 < w1.heap.size) (l2 : w1.heap.size ≤ g2) (l2' : g2 < w2.heap.size) :
    Copied w n m S K (.returned (.pointer (some ⟨w2.heap.size, 0, none⟩))) (w2.alloc (.cells #[.slice (some ⟨g1, 0, none⟩) n c1, .slice (some ⟨g2, 0, none⟩) m c2] 122)) := by
  have l0 : w.heap.size ≤ g1 := l1
  have s1 : w.heap.size ≤ w1.heap.size := t1.size
  have s2 := t2.size
  refine ⟨w2.heap.size, g1, g2, c1, c2, rfl, ⟨⟨_, heap_alloc_new w2 _, rfl, fun i hi => ?_⟩, own_zero ((t2.row o1 (by simp)).alloc _), own_zero (o2.alloc _), by omega, by omega, by omega⟩, (((Touch.refl [] w).drew.trans t1 (by simp)).trans t2 (by simp)).alloc _, by omega, by omega, by omega⟩
  by_cases e : i = 0
  · subst e; rfl
  · obtain rfl : i = 1 := by omega
    rfl

set_option maxHeartbeats 1600000 in
theorem copy_any (h : SlabAt w p g k n ns m c S K) (hn : n ≤ 5000) (hm : m ≤ 5000) :
    Calls Try.prog 60 #[.pointer (some ⟨p, 0, none⟩)] w (Copied w n m S K) := by
  have c0 := h.c0
  have c1 := h.c1
  have lp := h.ltp
  have H1 := fun w1 (t : Touch [] w w1) => Lib.hid (clone_slots (t.row h.slots (by simp)) (iv_one _ _) hn)
  have H2 := fun w1 (t : Touch [] w w1) => Lib.hid (clone_ints (t.row h.stack (by simp)) (iv_one _ _) hm)
  have HS := Lib.hid h
  clear h
  go_enter Try.func60, Try.ntmps60
  go_wp2_with fail
  go_region_with (first
    | (go_at_call 65; refine ((H1 _ (Touch.refl _ _).drew).out).mono ?_; rintro e w1 ⟨g1, c1', rfl, o1, t1, l1, l1'⟩; have q1 := t1.cell (a := ⟨p, 1, none⟩) (by simpa using lp) (by simp); have T1 := Lib.hid t1; have O1 := Lib.hid o1; clear t1 o1)
    | (go_at_call 46; refine ((H2 _ ((Touch.refl _ _).drew.trans T1.out (by simp))).out).mono ?_; rintro e w2 ⟨g2, c2', rfl, o2, t2, l2, l2'⟩; have T2 := Lib.hid t2; have O2 := Lib.hid o2; clear t2 o2))
  all_goals
    go_wp2_with fail
    go_ret
    exact copied_of T1.out T2.out O1.out O2.out l1 l1' l2 l2'
end
end Go.Proofs.Ytalkpoeliekbfaa
