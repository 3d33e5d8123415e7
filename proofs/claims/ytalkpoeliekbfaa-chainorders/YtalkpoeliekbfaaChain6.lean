/-
  Layer 7 (chain): All, and the law's list of a list's nodes.
-/
import Derived.Test.YtalkpoeliekbfaaChain5
namespace Go.Proofs.Ytalkpoeliekbfaa
open Go.ChangeShapes Go.WideShapes Go.ChangeAt Go.RowKit Go.Deep
set_option linter.unusedVariables false
set_option linter.unusedSimpArgs false

theorem own_down {w : World} {base base' : Nat} {e : TypeId} {size n : Nat} {v : Value} {xs : List Value} (h : w.ownsRow base e size v n xs) (hb : base' ≤ base) : w.ownsRow base' e size v n xs := by
  rcases h.2 with h' | ⟨g, cap, cur, h1, h2, h3⟩
  · exact ⟨h.1, .inl h'⟩
  · exact ⟨h.1, .inr ⟨g, cap, cur, h1, by omega, h3⟩⟩
theorem all_fn (q : Option Addr) (l : Int) (w : World) : Calls Try.prog 23 #[.pointer q, .int .i64 l] w fun e w' =>
    e = .returned (.func (.func 49) #[] #[.pointer (some ⟨w.heap.size, 0, none⟩), .pointer (some ⟨w.heap.size + 1, 0, none⟩)]) ∧ w' = (w.alloc (.cells #[.pointer q] 23)).alloc (.cells #[.int .i64 l] 3) := by
  go_enter Try.func23, Try.ntmps23
  go_wp2
  go_ret
  exact ⟨by simp, rfl⟩
set_option maxHeartbeats 1600000 in
set_option maxRecDepth 100000 in
theorem all_any {w : World} {L : List Nat} (q : Option Addr) (l : Int) (hl5 : L.length ≤ 5000) (D : Hid (∀ w1, Touch [] w w1 → Calls Try.prog 50 #[.pointer q, .int .i64 l] w1 (NodesPost w1 L))) :
    Calls Try.prog 22 #[.pointer q, .int .i64 l] w fun e w' => ∃ u, e = .returned u ∧ w'.ownsRow w.heap.size 3 1 u L.length (nv L) ∧ Touch [] w w' := by
  have t1 : Touch [] w (w.alloc (.cells #[.slice none 0 0] 40)) := (Touch.refl [] w).alloc _
  have HB := Lib.hid (Box1.new w 40 (.slice none 0 0))
  have T1 := Lib.hid t1
  have hs1 : (w.alloc (.cells #[.slice none 0 0] 40)).heap.size = w.heap.size + 1 := by simp
  have AF := Lib.hid (all_fn q l (w.alloc (.cells #[.slice none 0 0] 40)))
  have hnf : ∀ (a b : Option Addr) (w : World), (binOp .eql 47 (.func (.func 49) #[] #[.pointer a, .pointer b]) .nilFunc).run Try.prog w = .ok (.bool false) w := fun a b w => by kernel_rfl
  clear t1
  go_enter Try.func22, Try.ntmps22
  go_wp2_with fail
  refine (AF.out).mono ?_
  rintro e w2 ⟨rfl, hw2⟩
  rw [hs1]
  have t2 : Touch [] (w.alloc (.cells #[.slice none 0 0] 40)) w2 := by rw [hw2]; exact ((Touch.refl [] _).alloc _).alloc _
  have p2 : w2.cell? ⟨w.heap.size + 1, 0, none⟩ = some (.pointer q) := by
    have := ((Box1.new (w.alloc (.cells #[.slice none 0 0] 40)) 23 (.pointer q)).carry ((Touch.refl [] _).alloc (.cells #[.int .i64 l] 3)) (by simp)).c0
    rw [hs1] at this
    rw [hw2]
    exact this
  have p3 : w2.cell? ⟨w.heap.size + 1 + 1, 0, none⟩ = some (.int .i64 l) := by
    have := (Box1.new ((w.alloc (.cells #[.slice none 0 0] 40)).alloc (.cells #[.pointer q] 23)) 3 (.int .i64 l)).c0
    rw [show ((w.alloc (.cells #[.slice none 0 0] 40)).alloc (.cells #[.pointer q] 23)).heap.size = w.heap.size + 1 + 1 by simp] at this
    rw [hw2]
    exact this
  have hb2 := HB.out.carry t2 (by simp)
  have T2 := Lib.hid (T1.out.trans t2 (by simp))
  have K := Lib.hid (allNodes hl5 hb2 p2 p3 ⟨⟨q, rfl⟩, l, rfl⟩ (Lib.hid (D.out w2 T2.out)))
  unfold Gathered at K
  clear hw2 t2 p2 p3 hb2 HB T1 AF D
  go_wp2_with fail
  refine (K.out).mono ?_
  rintro e w3 ⟨rfl, v, ho, t3⟩
  obtain ⟨A, c, rfl⟩ := own_form ho.row
  have c0 := ho.box.c0
  have lb := ho.box.lt
  have HO := Lib.hid ho
  have T3 := Lib.hid (T2.out.trans t3 (fun b hb => by simp at hb; subst hb; exact .inr (Nat.le_refl _)))
  have hs := T2.out.size
  clear ho t3 K
  go_wp2_with fail
  go_ret
  exact ⟨_, rfl, own_down HO.out.row hs, T3.out⟩
end Go.Proofs.Ytalkpoeliekbfaa
