/-
  The contracts on which the law's proof rests, bound together in build order: SlabCopy, Chain7, Chain8, Chain9, Chain10, Ranges, Chain11, Round, Chain12, Chain13, Chain14, Chain15, Chain16, Chain17, Chain18, Chain19, Ints, Chain20, Chain21, Chain22, Chain23, Chain24, Chain25.
-/
import Derived.Test.YtalkpoeliekbfaaAllA
import Derived.Test.YtalkpoeliekbfaaAllB
import Derived.Deep.RegionWith
import Derived.Deep.RegionHeld3
import Derived.Laws.CopyOwn
import Derived.Laws.CopyRow
import Derived.Deep.LoopGhost
import Derived.RangeFuncNested
import Derived.RangeFuncWrites
import Derived.RangeFuncBound
import Derived.RangeFuncCalls
import Derived.RangeFuncLeaves
import Derived.Shelf.Abstract
import Derived.Shelf.RegionOpen
import Derived.WalkKit
import Derived.OwnWalkIn
import Derived.TacticsInMore
import Derived.LoopNIn
import Derived.LoopIn
import Derived.TacticsIn
/-
  Contracts of slices.Clone and of slab's Copy (layer 6).
-/
namespace Go.Proofs.Ytalkpoeliekbfaa
open Go.ChangeShapes Go.WideShapes Go.ChangeAt Go.RowKit Go.Deep
set_option linter.unusedVariables false

/-- The cells of a row, for an append. -/
theorem whole_news {w : World} {base : Nat} {e : TypeId} {size n cap g : Nat} {xs : List Value} (h : w.ownsRow base e size (.slice (some ⟨g, 0, none⟩) n cap) n xs) :
    ∀ j u, xs[j]? = some u → w.cell? ((⟨g, 0, none⟩ : Addr).add j) = some u := by
  intro j u hj
  have hadd : (⟨g, 0, none⟩ : Addr).add j = ⟨g, j, none⟩ := by unfold Addr.add; split <;> simp_all
  have hlt := (List.getElem?_eq_some_iff.1 hj).1
  rw [h.1] at hlt
  rw [hadd, h.cellAt _ hlt, hj]

def Cloned (w : World) (e : TypeId) (size n : Nat) (xs : List Value) (en : Ending) (w' : World) : Prop :=
  ∃ g c, en = .returned (.slice (some ⟨g, 0, none⟩) n c) ∧ w'.ownsRow w.heap.size e size (.slice (some ⟨g, 0, none⟩) n c) n xs ∧ Touch [] w w' ∧ w.heap.size ≤ g ∧ g < w'.heap.size

theorem cloned_of {w w1 : World} {e : TypeId} {size n : Nat} {xs : List Value} {v : Value} {o : Obj} (hown : w1.ownsRow w.heap.size e size v (0 + n) ([] ++ xs)) (hg : (w.alloc o).grownBy w1 (Value.slice (some ⟨w.heap.size, 0, none⟩) 0 0).ownBlock)
    (hnil : v = .slice none 0 0 ↔ (Value.slice (some ⟨w.heap.size, 0, none⟩) 0 0) = .slice none 0 0 ∧ n = 0) : ∃ g c, v = .slice (some ⟨g, 0, none⟩) n c ∧ w1.ownsRow w.heap.size e size (.slice (some ⟨g, 0, none⟩) n c) n xs ∧ Touch [] w w1 ∧ w.heap.size ≤ g ∧ g < w1.heap.size := by
  rw [Nat.zero_add, List.nil_append] at hown
  have ht : Touch [] w w1 := ((Touch.refl [] w).alloc o).grown hg (by simp [Value.ownBlock])
  rcases hown.2 with ⟨h1, h2⟩ | ⟨g, cap, cur, h1, h2, h3, _⟩
  · have := hnil.1 h1
    simp at this
  · subst h1
    exact ⟨g, cap, rfl, hown, ht, h2, own_lt hown rfl⟩

set_option maxRecDepth 100000 in
theorem clone_slots {w : World} {g n c : Nat} {xs : List Value} (h : w.ownsRow 0 124 2 (.slice (some ⟨g, 0, none⟩) n c) n xs) (hx : ∀ u ∈ xs, u.oneCell' = true) (hn : n ≤ 5000) :
    Calls Try.prog 65 #[.slice (some ⟨g, 0, none⟩) n c] w (Cloned w 124 2 n xs) := by
  obtain ⟨i0, hi0, hz0, hz1, hz2⟩ := info_parts slot_info
  have R1 := Lib.hid (World.ownsRow_lit (base := w.heap.size) (e := 124) (size := 2) w #[] 0 (Nat.le_refl _) (by unfold maxLen; omega) rfl)
  have R2 := Lib.hid (whole_news (h.alloc (.cells #[] 124)))
  have R3 := Lib.hid h.1
  have HX := Lib.hid hx
  clear h hx
  have he : ∀ w : World, (binOp .eql 120 (.slice (some ⟨g, 0, none⟩) n c) (.slice none 0 0)).run Try.prog w = .ok (.bool false) w := fun _ => rfl
  go_enter Try.func65, Try.ntmps65
  go_wp2_with (at_builtin; refine wpList_append_own _ rfl (.tmp 5) (.tmp 6) 120 rfl w.heap.size 124 i0 _ 2 16 Try.underlying120 hi0 hz0 hz1 hz2 rfl (by decide) (.slice (some ⟨w.heap.size, 0, none⟩) 0 0) 0 [] rfl R1.out ⟨g, 0, none⟩ n c xs rfl R3.out R2.out HX.out (by unfold maxLen; omega) (by omega) (by simp) ?_; intro v' w1 hown hgrow hnil; obtain ⟨g', c', rfl, q1, q2, q3, q4⟩ := cloned_of hown hgrow hnil; clear hown hgrow hnil)
  go_ret
  exact ⟨g', c', rfl, q1, q2, q3, q4⟩

set_option maxRecDepth 100000 in
theorem clone_ints {w : World} {g n c : Nat} {xs : List Value} (h : w.ownsRow 0 3 1 (.slice (some ⟨g, 0, none⟩) n c) n xs) (hx : ∀ u ∈ xs, u.oneCell' = true) (hn : n ≤ 5000) :
    Calls Try.prog 46 #[.slice (some ⟨g, 0, none⟩) n c] w (Cloned w 3 1 n xs) := by
  obtain ⟨i0, hi0, hz0, hz1, hz2⟩ := info_parts int_info
  have R1 := Lib.hid (World.ownsRow_lit (base := w.heap.size) (e := 3) (size := 1) w #[] 0 (Nat.le_refl _) (by unfold maxLen; omega) rfl)
  have R2 := Lib.hid (whole_news (h.alloc (.cells #[] 3)))
  have R3 := Lib.hid h.1
  have HX := Lib.hid hx
  clear h hx
  have he : ∀ w : World, (binOp .eql 40 (.slice (some ⟨g, 0, none⟩) n c) (.slice none 0 0)).run Try.prog w = .ok (.bool false) w := fun _ => rfl
  go_enter Try.func46, Try.ntmps46
  go_wp2_with (at_builtin; refine wpList_append_own _ rfl (.tmp 5) (.tmp 6) 40 rfl w.heap.size 3 i0 _ 1 8 Try.underlying40 hi0 hz0 hz1 hz2 rfl (by decide) (.slice (some ⟨w.heap.size, 0, none⟩) 0 0) 0 [] rfl R1.out ⟨g, 0, none⟩ n c xs rfl R3.out R2.out HX.out (by unfold maxLen; omega) (by omega) (by simp) ?_; intro v' w1 hown hgrow hnil; obtain ⟨g', c', rfl, q1, q2, q3, q4⟩ := cloned_of hown hgrow hnil; clear hown hgrow hnil)
  go_ret
  exact ⟨g', c', rfl, q1, q2, q3, q4⟩

section
variable {w : World} {p g k n ns m c : Nat} {S K : Nat → Int}

def Copied (w : World) (n m : Nat) (S K : Nat → Int) (e : Ending) (w' : World) : Prop :=
  ∃ p g k ns c, e = .returned (.pointer (some ⟨p, 0, none⟩)) ∧ SlabAt w' p g k n ns m c S K ∧ Touch [] w w' ∧ w.heap.size ≤ p ∧ w.heap.size ≤ g ∧ w.heap.size ≤ k

theorem own_zero {w : World} {base : Nat} {e : TypeId} {size n : Nat} {v : Value} {xs : List Value} (h : w.ownsRow base e size v n xs) : w.ownsRow 0 e size v n xs := by
  rcases h.2 with h' | ⟨g, cap, cur, h1, _, h2⟩
  · exact ⟨h.1, .inl h'⟩
  · exact ⟨h.1, .inr ⟨g, cap, cur, h1, Nat.zero_le _, h2⟩⟩

theorem copied_of {w1 w2 : World} {g1 g2 c1 c2 b1 b2 : Nat} (t1 : Touch [] w.drew w1) (t2 : Touch [] w1 w2) (o1 : w1.ownsRow b1 124 2 (.slice (some ⟨g1, 0, none⟩) n c1) n (iv S (n * 2)))
    (o2 : w2.ownsRow b2 3 1 (.slice (some ⟨g2, 0, none⟩) m c2) m (iv K m)) (l1 : w.drew.heap.size ≤ g1) (l1' : g1 < w1.heap.size) (l2 : w1.heap.size ≤ g2) (l2' : g2 < w2.heap.size) :
    Copied w n m S K (.returned (.pointer (some ⟨w2.heap.size, 0, none⟩))) (w2.alloc (.cells #[.slice (some ⟨g1, 0, none⟩) n c1, .slice (some ⟨g2, 0, none⟩) m c2] 122)) := by
  have l0 : w.heap.size ≤ g1 := l1
  have s1 : w.heap.size ≤ w1.heap.size := t1.size
  have s2 := t2.size
  refine ⟨w2.heap.size, g1, g2, c1, c2, rfl, ⟨⟨_, heap_alloc_new w2 _, rfl, fun i hi => ?_⟩, own_zero ((t2.row o1 (by simp)).alloc _), own_zero (o2.alloc _), by omega, by omega, by omega⟩, (((Touch.refl [] w).drew.trans t1 (by simp)).trans t2 (by simp)).alloc _, by omega, by omega, by omega⟩
  by_cases e : i = 0
  · subst e; rfl
  · obtain rfl : i = 1 := by omega
    rfl

set_option maxHeartbeats 1600000 in
theorem copy_any (h : SlabAt w p g k n ns m c S K) (hn : n ≤ 5000) (hm : m ≤ 5000) :
    Calls Try.prog 60 #[.pointer (some ⟨p, 0, none⟩)] w (Copied w n m S K) := by
  have c0 := h.c0
  have c1 := h.c1
  have lp := h.ltp
  have H1 := fun w1 (t : Touch [] w w1) => Lib.hid (clone_slots (t.row h.slots (by simp)) (iv_one _ _) hn)
  have H2 := fun w1 (t : Touch [] w w1) => Lib.hid (clone_ints (t.row h.stack (by simp)) (iv_one _ _) hm)
  have HS := Lib.hid h
  clear h
  go_enter Try.func60, Try.ntmps60
  go_wp2_with fail
  go_region_with (first
    | (go_at_call 65; refine ((H1 _ (Touch.refl _ _).drew).out).mono ?_; rintro e w1 ⟨g1, c1', rfl, o1, t1, l1, l1'⟩; have q1 := t1.cell (a := ⟨p, 1, none⟩) (by simpa using lp) (by simp); have T1 := Lib.hid t1; have O1 := Lib.hid o1; clear t1 o1)
    | (go_at_call 46; refine ((H2 _ ((Touch.refl _ _).drew.trans T1.out (by simp))).out).mono ?_; rintro e w2 ⟨g2, c2', rfl, o2, t2, l2, l2'⟩; have T2 := Lib.hid t2; have O2 := Lib.hid o2; clear t2 o2))
  all_goals
    go_wp2_with fail
    go_ret
    exact copied_of T1.out T2.out O1.out O2.out l1 l1' l2 l2'
end
end Go.Proofs.Ytalkpoeliekbfaa

/-
  Layer 7 (chain): Copy.
-/
namespace Go.Proofs.Ytalkpoeliekbfaa
open Go.ChangeShapes Go.WideShapes Go.ChangeAt Go.RowKit Go.Deep
set_option linter.unusedVariables false
set_option linter.unusedSimpArgs false

theorem dep_f {o : Oper} {f : Nat → Bool} (hf : ∀ e ∈ o.after, Region.binds .any e = true → f e.on = true) (j : Nat) (hb : (o.after.any fun e => (e.on == j) && Region.binds .any e) = true) : f j = true := by
  rw [Array.any_eq_true'] at hb
  obtain ⟨e, he, h⟩ := hb
  simp only [Bool.and_eq_true, beq_iff_eq] at h
  have := hf e he h.2
  rwa [h.1] at this
theorem Apart.of {T : List (Nat × Nat)} {f : Nat → Bool} {a : Act} {w : World} (h : Apart T f a w) {x y : Nat × Nat} (hx : x ∈ T) (hy : y ∈ T) (hne : x.2 ≠ y.2) (f1 : f x.1 = true) (f2 : f y.1 = true) {g g' n c m d : Nat}
    (e1 : a.eval (.tmp x.2) = .slice (some ⟨g, 0, none⟩) n c) (e2 : a.eval (.tmp y.2) = .slice (some ⟨g', 0, none⟩) m d) : g ≠ g' := by
  rintro rfl
  simp only [Act.eval] at e1 e2
  exact h.2 x hx y hy hne f1 f2 g (by rw [e1]; rfl) (by rw [e2]; rfl)
theorem ends_info : (Try.prog.info? 96).map (fun i => (i.zero, i.size, i.bytes)) = some (some (.agg #[.int .i64 0, .int .i64 0, .int .i64 0]), 3, 24) := by kernel_rfl
set_option maxRecDepth 100000 in
theorem clone_ends {w : World} {g n c : Nat} {xs : List Value} (h : w.ownsRow 0 96 3 (.slice (some ⟨g, 0, none⟩) n c) n xs) (hx : ∀ u ∈ xs, u.oneCell' = true) (hn : n ≤ 5000) :
    Calls Try.prog 47 #[.slice (some ⟨g, 0, none⟩) n c] w (Cloned w 96 3 n xs) := by
  obtain ⟨i0, hi0, hz0, hz1, hz2⟩ := info_parts ends_info
  have R1 := Lib.hid (World.ownsRow_lit (base := w.heap.size) (e := 96) (size := 3) w #[] 0 (Nat.le_refl _) (by unfold maxLen; omega) rfl)
  have R2 := Lib.hid (whole_news (h.alloc (.cells #[] 96)))
  have R3 := Lib.hid h.1
  have HX := Lib.hid hx
  clear h hx
  have he : ∀ w : World, (binOp .eql 89 (.slice (some ⟨g, 0, none⟩) n c) (.slice none 0 0)).run Try.prog w = .ok (.bool false) w := fun _ => rfl
  go_enter Try.func47, Try.ntmps47
  go_wp2_with (at_builtin; refine wpList_append_own _ rfl (.tmp 5) (.tmp 6) 89 rfl w.heap.size 96 i0 _ 3 24 Try.underlying89 hi0 hz0 hz1 hz2 rfl (by decide) (.slice (some ⟨w.heap.size, 0, none⟩) 0 0) 0 [] rfl R1.out ⟨g, 0, none⟩ n c xs rfl R3.out R2.out HX.out (by unfold maxLen; omega) (by omega) (by simp) ?_; intro v' w1 hown hgrow hnil; obtain ⟨g', c', rfl, q1, q2, q3, q4⟩ := cloned_of hown hgrow hnil; clear hown hgrow hnil)
  go_ret
  exact ⟨g', c', rfl, q1, q2, q3, q4⟩

theorem ent46 (args : Array Value) (w : World) : (callFunc 46 args).run Try.prog w = .ok (.enter 46 args) w := by
  simp [callFunc, Try.func46]
  rfl
theorem ent47 (args : Array Value) (w : World) : (callFunc 47 args).run Try.prog w = .ok (.enter 47 args) w := by
  simp [callFunc, Try.func47]
  rfl
def RowNew (w0 : World) (e : TypeId) (size n : Nat) (xs : List Value) (v : Value) (w : World) : Prop := ∃ g c, v = .slice (some ⟨g, 0, none⟩) n c ∧ w.ownsRow 0 e size v n xs ∧ w0.heap.size ≤ g
def PartsC (w0 : World) (n k : Nat) (N V E : Nat → Int) (v : Value) (w : World) : Prop :=
  ∃ g1 d1 g2 d2 g3 d3, v = .agg #[.slice (some ⟨g1, 0, none⟩) n d1, .slice (some ⟨g2, 0, none⟩) n d2, .slice (some ⟨g3, 0, none⟩) k d3] ∧ w.ownsRow 0 3 1 (.slice (some ⟨g1, 0, none⟩) n d1) n (iv N n) ∧ w.ownsRow 0 3 1 (.slice (some ⟨g2, 0, none⟩) n d2) n (iv V n) ∧
    w.ownsRow 0 96 3 (.slice (some ⟨g3, 0, none⟩) k d3) k (iv E (k * 3)) ∧ w0.heap.size ≤ g1 ∧ w0.heap.size ≤ g2 ∧ w0.heap.size ≤ g3 ∧ g1 ≠ g2 ∧ g1 ≠ g3 ∧ g2 ≠ g3
def ChainNew (w0 : World) (n k : Nat) (N V E : Nat → Int) (v : Value) (w : World) : Prop :=
  ∃ p gn gw gl cn cw cl, v = .pointer (some ⟨p, 0, none⟩) ∧ ChainAt w p gn gw gl n cn cw k cl N V E ∧ w0.heap.size ≤ p ∧ w0.heap.size ≤ gn ∧ w0.heap.size ≤ gw ∧ w0.heap.size ≤ gl
section
variable {w0 : World} {n k : Nat} {N V E : Nat → Int}
theorem RowNew.stab {e : TypeId} {size : Nat} {xs : List Value} : Stab (RowNew w0 e size n xs) := fun v w w' ⟨g, c, h0, h1, h2⟩ t => ⟨g, c, h0, t.row h1 (by simp), h2⟩
theorem PartsC.stab : Stab (PartsC w0 n k N V E) := fun v w w' ⟨g1, d1, g2, d2, g3, d3, h0, r1, r2, r3, h⟩ t => ⟨g1, d1, g2, d2, g3, d3, h0, t.row r1 (by simp), t.row r2 (by simp), t.row r3 (by simp), h⟩
theorem ChainNew.stab : Stab (ChainNew w0 n k N V E) := fun v w w' ⟨p, gn, gw, gl, cn, cw, cl, h0, h1, h2⟩ t => ⟨p, gn, gw, gl, cn, cw, cl, h0, h1.new t, h2⟩
theorem RowNew.stabS {e : TypeId} {size : Nat} {xs : List Value} : StabS [] (RowNew w0 e size n xs) := fun v w w' h t => RowNew.stab v w w' h t
theorem buildC (g1 d1 g2 d2 g3 d3 n k : Nat) (w : World) : (Instr.build 91 #[(0, .slice (some ⟨g1, 0, none⟩) n d1), (1, .slice (some ⟨g2, 0, none⟩) n d2), (2, .slice (some ⟨g3, 0, none⟩) k d3)]).run Try.prog w = .ok (.agg #[.slice (some ⟨g1, 0, none⟩) n d1, .slice (some ⟨g2, 0, none⟩) n d2, .slice (some ⟨g3, 0, none⟩) k d3]) w := run_build w _ _ _ (by kernel_rfl)
theorem run_boxC {a : Act} {o : Oper} {s : Tmp} {w : World} {cs : Array Value} (h : o.op = .box 91 (.tmp s)) (hv : a.eval (.tmp s) = .agg cs) : (execOp a.eval o).run Try.prog w = .ok (.value (.pointer (some ⟨w.heap.size, 0, none⟩))) (w.alloc (.cells cs 91)) := by
  unfold execOp
  rw [h]
  simp only [hv]
  simp [go_sem]
theorem chainNew_box {w : World} {g1 d1 g2 d2 g3 d3 : Nat} (r1 : w.ownsRow 0 3 1 (.slice (some ⟨g1, 0, none⟩) n d1) n (iv N n)) (r2 : w.ownsRow 0 3 1 (.slice (some ⟨g2, 0, none⟩) n d2) n (iv V n)) (r3 : w.ownsRow 0 96 3 (.slice (some ⟨g3, 0, none⟩) k d3) k (iv E (k * 3)))
    (l1 : w0.heap.size ≤ g1) (l2 : w0.heap.size ≤ g2) (l3 : w0.heap.size ≤ g3) (n1 : g1 ≠ g2) (n2 : g1 ≠ g3) (n3 : g2 ≠ g3) (hs : w0.heap.size ≤ w.heap.size) :
    ChainNew w0 n k N V E (.pointer (some ⟨w.heap.size, 0, none⟩)) (w.alloc (.cells #[.slice (some ⟨g1, 0, none⟩) n d1, .slice (some ⟨g2, 0, none⟩) n d2, .slice (some ⟨g3, 0, none⟩) k d3] 91)) := by
  have t : Touch [] w (w.alloc (.cells #[.slice (some ⟨g1, 0, none⟩) n d1, .slice (some ⟨g2, 0, none⟩) n d2, .slice (some ⟨g3, 0, none⟩) k d3] 91)) := (Touch.refl [] w).alloc _
  have a1 : g1 < w.heap.size := own_lt r1 rfl
  have a2 : g2 < w.heap.size := own_lt r2 rfl
  have a3 : g3 < w.heap.size := own_lt r3 rfl
  exact ⟨w.heap.size, g1, g2, g3, d1, d2, d3, rfl, ⟨BoxV.new w 91 _, t.row r1 (by simp), t.row r2 (by simp), t.row r3 (by simp), by omega⟩, hs, l1, l2, l3⟩
end
theorem copyC_nil (w : World) : Calls Try.prog 16 #[.pointer none] w fun e w' => e = .returned (.pointer none) ∧ w' = w := by
  go_enter Try.func16, Try.ntmps16
  go_wp2
  go_ret
  exact ⟨rfl, rfl⟩
set_option maxRecDepth 100000 in
set_option maxHeartbeats 3200000 in
theorem copyC_any {w : World} {p gn gw gl n cn cw k cl : Nat} {N V E : Nat → Int} (h : ChainAt w p gn gw gl n cn cw k cl N V E) (hn5 : n ≤ 5000) (hk5 : k ≤ 5000) :
    Calls Try.prog 16 #[.pointer (some ⟨p, 0, none⟩)] w fun e w' => ∃ v, e = .returned v ∧ ChainNew w n k N V E v w' ∧ Touch [] w w' := by
  have HCH := Lib.hid h
  clear h
  generalize hw0 : w = w0 at *
  go_enter Try.func16, Try.ntmps16
  go_upto_region 3 with fail
  refine wp_region_joint (wd := w0) [] (Apart [(4, 9), (9, 14), (14, 19)]) (Leaf.const (.pointer (some ⟨p, 0, none⟩)) :: Leaf.const ((.pointer (some ⟨p, 0, none⟩))) :: Leaf.const (.pointer (some ⟨p, 0, none⟩)) :: Leaf.const (.slice (some ⟨gn, 0, none⟩) n cn) :: Leaf.pred (RowNew w0 3 1 n (iv N n)) :: Leaf.const (.pointer (some ⟨p, 0, none⟩)) :: Leaf.const ((.pointer (some ⟨p, 0, none⟩))) :: Leaf.const (.pointer (some ⟨p, 1, none⟩)) :: Leaf.const (.slice (some ⟨gw, 0, none⟩) n cw) :: Leaf.pred (RowNew w0 3 1 n (iv V n)) :: Leaf.const (.pointer (some ⟨p, 0, none⟩)) :: Leaf.const ((.pointer (some ⟨p, 0, none⟩))) :: Leaf.const (.pointer (some ⟨p, 2, none⟩)) :: Leaf.const (.slice (some ⟨gl, 0, none⟩) k cl) :: Leaf.pred (RowNew w0 96 3 k (iv E (k * 3))) :: Leaf.pred (PartsC w0 n k N V E) :: Leaf.pred (ChainNew w0 n k N V E) :: Leaf.pred (ChainNew w0 n k N V E) :: []) (by kernel_rfl) (by kernel_rfl) (by kernel_rfl) ((Touch.refl _ _).drew) (⟨RowNew.stab, RowNew.stab, RowNew.stab, PartsC.stab, ChainNew.stab, ChainNew.stab, trivial⟩) (fun f hf => apart_start hf) ?_ ?_
  · intro i o ho f ac w hfi ht hJ hk hf hd
    match i, ho, hfi with
    | 0, ho, hfi =>
      have ho' : some _ = some o := ho
      cases ho'
      clear ho
      refine DoesG.toJoint ?_ (fun v' w' hφ' t' => hJ.keep t' (by decide) (by decide) _)
      have e0 := known_slot hk 0 (by kernel_rfl) (v := .pointer (some ⟨p, 0, none⟩)) rfl
      exact do_value (wanted_none rfl) (by rw [BigFrame.run_move (.tmp 0) rfl, e0]) rfl
    | 1, ho, hfi =>
      have ho' : some _ = some o := ho
      cases ho'
      clear ho
      refine DoesG.toJoint ?_ (fun v' w' hφ' t' => hJ.keep t' (by decide) (by decide) _)
      have e5 := has_const (has_dep hd 0 (by kernel_rfl)) rfl rfl rfl (c := (.pointer (some ⟨p, 0, none⟩)))
      exact do_value (wanted_none rfl) (v := (.pointer (some ⟨p, 0, none⟩))) (by unfold execOp; simp only [e5]; rfl) rfl
    | 2, ho, hfi =>
      have ho' : some _ = some o := ho
      cases ho'
      clear ho
      refine DoesG.toJoint ?_ (fun v' w' hφ' t' => hJ.keep t' (by decide) (by decide) _)
      have e6 := has_const (has_dep hd 1 (by kernel_rfl)) rfl rfl rfl (c := (.pointer (some ⟨p, 0, none⟩)))
      exact do_value (wanted_none rfl) (v := .pointer (some ⟨p, 0, none⟩)) (run_value rfl (by rw [e6]; simp [go_sem])) rfl
    | 3, ho, hfi =>
      have ho' : some _ = some o := ho
      cases ho'
      clear ho
      refine DoesG.toJoint ?_ (fun v' w' hφ' t' => hJ.keep t' (by decide) (by decide) _)
      have e7 := has_const (has_dep hd 2 (by kernel_rfl)) rfl rfl rfl (c := (.pointer (some ⟨p, 0, none⟩)))
      have c0 := (HCH.out.new ht).c0
      exact do_value (wanted_none rfl) (v := .slice (some ⟨gn, 0, none⟩) n cn) (run_value rfl (by rw [e7]; simp [go_sem, c0])) rfl
    | 4, ho, hfi =>
      have ho' : some _ = some o := ho
      cases ho'
      clear ho
      have e8 := has_const (has_dep hd 3 (by kernel_rfl)) rfl rfl rfl (c := (.slice (some ⟨gn, 0, none⟩) n cn))
      refine doJ_enter (wanted_none rfl) (f := 46) (args := #[(.slice (some ⟨gn, 0, none⟩) n cn)]) (by rw [run_go3 46 _ _ rfl, ent46]; simp [eval_c, e8]) ?_
      exact (clone_ints (HCH.out.new ht).next (iv_one _ _) hn5).mono fun e w2 ⟨g, c, he, hr, t, h1, h2⟩ => ⟨_, he, ⟨⟨g, c, rfl, own_down hr (Nat.zero_le _), by have := ht.size; omega⟩, hJ.made t (by decide) (by rw [hk.2.1]; simp) (fun g' hg' => by simp [Value.ownBlock] at hg'; subst hg'; exact ⟨h1, h2⟩)⟩, t⟩
    | 5, ho, hfi =>
      have ho' : some _ = some o := ho
      cases ho'
      clear ho
      refine DoesG.toJoint ?_ (fun v' w' hφ' t' => hJ.keep t' (by decide) (by decide) _)
      have e0 := known_slot hk 0 (by kernel_rfl) (v := .pointer (some ⟨p, 0, none⟩)) rfl
      exact do_value (wanted_none rfl) (by rw [BigFrame.run_move (.tmp 0) rfl, e0]) rfl
    | 6, ho, hfi =>
      have ho' : some _ = some o := ho
      cases ho'
      clear ho
      refine DoesG.toJoint ?_ (fun v' w' hφ' t' => hJ.keep t' (by decide) (by decide) _)
      have e10 := has_const (has_dep hd 5 (by kernel_rfl)) rfl rfl rfl (c := (.pointer (some ⟨p, 0, none⟩)))
      exact do_value (wanted_none rfl) (v := (.pointer (some ⟨p, 0, none⟩))) (by unfold execOp; simp only [e10]; rfl) rfl
    | 7, ho, hfi =>
      have ho' : some _ = some o := ho
      cases ho'
      clear ho
      refine DoesG.toJoint ?_ (fun v' w' hφ' t' => hJ.keep t' (by decide) (by decide) _)
      have e11 := has_const (has_dep hd 6 (by kernel_rfl)) rfl rfl rfl (c := (.pointer (some ⟨p, 0, none⟩)))
      exact do_value (wanted_none rfl) (v := .pointer (some ⟨p, 1, none⟩)) (run_value rfl (by rw [e11]; simp [go_sem])) rfl
    | 8, ho, hfi =>
      have ho' : some _ = some o := ho
      cases ho'
      clear ho
      refine DoesG.toJoint ?_ (fun v' w' hφ' t' => hJ.keep t' (by decide) (by decide) _)
      have e12 := has_const (has_dep hd 7 (by kernel_rfl)) rfl rfl rfl (c := (.pointer (some ⟨p, 1, none⟩)))
      have c0 := (HCH.out.new ht).c1
      exact do_value (wanted_none rfl) (v := .slice (some ⟨gw, 0, none⟩) n cw) (run_value rfl (by rw [e12]; simp [go_sem, c0])) rfl
    | 9, ho, hfi =>
      have ho' : some _ = some o := ho
      cases ho'
      clear ho
      have e13 := has_const (has_dep hd 8 (by kernel_rfl)) rfl rfl rfl (c := (.slice (some ⟨gw, 0, none⟩) n cw))
      refine doJ_enter (wanted_none rfl) (f := 46) (args := #[(.slice (some ⟨gw, 0, none⟩) n cw)]) (by rw [run_go3 46 _ _ rfl, ent46]; simp [eval_c, e13]) ?_
      exact (clone_ints (HCH.out.new ht).wher (iv_one _ _) hn5).mono fun e w2 ⟨g, c, he, hr, t, h1, h2⟩ => ⟨_, he, ⟨⟨g, c, rfl, own_down hr (Nat.zero_le _), by have := ht.size; omega⟩, hJ.made t (by decide) (by rw [hk.2.1]; simp) (fun g' hg' => by simp [Value.ownBlock] at hg'; subst hg'; exact ⟨h1, h2⟩)⟩, t⟩
    | 10, ho, hfi =>
      have ho' : some _ = some o := ho
      cases ho'
      clear ho
      refine DoesG.toJoint ?_ (fun v' w' hφ' t' => hJ.keep t' (by decide) (by decide) _)
      have e0 := known_slot hk 0 (by kernel_rfl) (v := .pointer (some ⟨p, 0, none⟩)) rfl
      exact do_value (wanted_none rfl) (by rw [BigFrame.run_move (.tmp 0) rfl, e0]) rfl
    | 11, ho, hfi =>
      have ho' : some _ = some o := ho
      cases ho'
      clear ho
      refine DoesG.toJoint ?_ (fun v' w' hφ' t' => hJ.keep t' (by decide) (by decide) _)
      have e15 := has_const (has_dep hd 10 (by kernel_rfl)) rfl rfl rfl (c := (.pointer (some ⟨p, 0, none⟩)))
      exact do_value (wanted_none rfl) (v := (.pointer (some ⟨p, 0, none⟩))) (by unfold execOp; simp only [e15]; rfl) rfl
    | 12, ho, hfi =>
      have ho' : some _ = some o := ho
      cases ho'
      clear ho
      refine DoesG.toJoint ?_ (fun v' w' hφ' t' => hJ.keep t' (by decide) (by decide) _)
      have e16 := has_const (has_dep hd 11 (by kernel_rfl)) rfl rfl rfl (c := (.pointer (some ⟨p, 0, none⟩)))
      exact do_value (wanted_none rfl) (v := .pointer (some ⟨p, 2, none⟩)) (run_value rfl (by rw [e16]; simp [go_sem])) rfl
    | 13, ho, hfi =>
      have ho' : some _ = some o := ho
      cases ho'
      clear ho
      refine DoesG.toJoint ?_ (fun v' w' hφ' t' => hJ.keep t' (by decide) (by decide) _)
      have e17 := has_const (has_dep hd 12 (by kernel_rfl)) rfl rfl rfl (c := (.pointer (some ⟨p, 2, none⟩)))
      have c0 := (HCH.out.new ht).c2
      exact do_value (wanted_none rfl) (v := .slice (some ⟨gl, 0, none⟩) k cl) (run_value rfl (by rw [e17]; simp [go_sem, c0])) rfl
    | 14, ho, hfi =>
      have ho' : some _ = some o := ho
      cases ho'
      clear ho
      have e18 := has_const (has_dep hd 13 (by kernel_rfl)) rfl rfl rfl (c := (.slice (some ⟨gl, 0, none⟩) k cl))
      refine doJ_enter (wanted_none rfl) (f := 47) (args := #[(.slice (some ⟨gl, 0, none⟩) k cl)]) (by rw [run_go3 47 _ _ rfl, ent47]; simp [eval_c, e18]) ?_
      exact (clone_ends (HCH.out.new ht).ends (iv_one _ _) hk5).mono fun e w2 ⟨g, c, he, hr, t, h1, h2⟩ => ⟨_, he, ⟨⟨g, c, rfl, own_down hr (Nat.zero_le _), by have := ht.size; omega⟩, hJ.made t (by decide) (by rw [hk.2.1]; simp) (fun g' hg' => by simp [Value.ownBlock] at hg'; subst hg'; exact ⟨h1, h2⟩)⟩, t⟩
    | 15, ho, hfi =>
      have ho' : some _ = some o := ho
      cases ho'
      clear ho
      refine DoesG.toJoint ?_ (fun v' w' hφ' t' => hJ.keep t' (by decide) (by decide) _)
      obtain ⟨v9, e9, h9⟩ := has_pred (has_dep hd 4 (by kernel_rfl)) rfl rfl rfl (φ := RowNew w0 3 1 n (iv N n))
      obtain ⟨v14, e14, h14⟩ := has_pred (has_dep hd 9 (by kernel_rfl)) rfl rfl rfl (φ := RowNew w0 3 1 n (iv V n))
      obtain ⟨v19, e19, h19⟩ := has_pred (has_dep hd 14 (by kernel_rfl)) rfl rfl rfl (φ := RowNew w0 96 3 k (iv E (k * 3)))
      obtain ⟨g1, d1, rfl, r1, l1⟩ := h9
      obtain ⟨g2, d2, rfl, r2, l2⟩ := h14
      obtain ⟨g3, d3, rfl, r3, l3⟩ := h19
      have f4 := dep_f hf 4 (by kernel_rfl)
      have f9 := dep_f hf 9 (by kernel_rfl)
      have f14 := dep_f hf 14 (by kernel_rfl)
      exact do_value (wanted_none rfl) (v := .agg #[.slice (some ⟨g1, 0, none⟩) n d1, .slice (some ⟨g2, 0, none⟩) n d2, .slice (some ⟨g3, 0, none⟩) k d3]) (run_value rfl (by simp only [List.map_toArray, List.map_cons, List.map_nil, e9, e14, e19]; exact buildC _ _ _ _ _ _ _ _ w)) ⟨g1, d1, g2, d2, g3, d3, rfl, r1, r2, r3, l1, l2, l3, hJ.of (x := (4, 9)) (y := (9, 14)) (by decide) (by decide) (by decide) f4 f9 e9 e14, hJ.of (x := (4, 9)) (y := (14, 19)) (by decide) (by decide) (by decide) f4 f14 e9 e19, hJ.of (x := (9, 14)) (y := (14, 19)) (by decide) (by decide) (by decide) f9 f14 e14 e19⟩
    | 16, ho, hfi =>
      have ho' : some _ = some o := ho
      cases ho'
      clear ho
      refine DoesG.toJoint ?_ (fun v' w' hφ' t' => hJ.keep t' (by decide) (by decide) _)
      obtain ⟨v20, e20, h20⟩ := has_pred (has_dep hd 15 (by kernel_rfl)) rfl rfl rfl (φ := PartsC w0 n k N V E)
      obtain ⟨g1, d1, g2, d2, g3, d3, rfl, r1, r2, r3, l1, l2, l3, n1, n2, n3⟩ := h20
      exact .inl ⟨wanted_none rfl, by rw [run_boxC (a := ac) (o := _) (s := 20) rfl e20]; exact ⟨chainNew_box r1 r2 r3 l1 l2 l3 n1 n2 n3 ht.size, (Touch.refl [] w).alloc _⟩⟩
    | 17, ho, hfi =>
      have ho' : some _ = some o := ho
      cases ho'
      clear ho
      refine DoesG.toJoint ?_ (fun v' w' hφ' t' => hJ.keep t' (by decide) (by decide) _)
      obtain ⟨v21, e21, h21⟩ := has_pred (has_dep hd 16 (by kernel_rfl)) rfl rfl rfl (φ := ChainNew w0 n k N V E)
      exact do_value (wanted_none rfl) (by rw [BigFrame.run_assign (.tmp 21) rfl, e21]) h21
    | q + 18, ho, hfi => exact absurd ho (by simp)
  · intro x w9 f T9 hJ hf hkn
    obtain ⟨_, _, _, _, _, h2, _⟩ := hkn
    simp only [putL, Act.put, List.setIfInBounds_toArray, List.set_cons_succ, List.set_cons_zero]
    have H2 := Lib.hid h2
    have HT := Lib.hid T9
    clear hJ hf T9 h2
    go_wp2_with fail
    go_ret
    exact ⟨_, rfl, H2.out, HT.out⟩
end Go.Proofs.Ytalkpoeliekbfaa

/-
  math/bits.Mul of one and a small number; slices.Repeat of a row of one.
-/
namespace Go.Proofs.Ytalkpoeliekbfaa
open Go.ChangeShapes Go.WideShapes Go.ChangeAt Go.RowKit Go.Deep
set_option linter.unusedVariables false
set_option linter.unusedSimpArgs false

theorem and_mask (n : Nat) (hn : n ≤ 5000) : bits BinOp.and .u64 (n : Int) 4294967295 = (n : Int) := by
  have h1 : (BitVec.ofInt 64 (n : Int) &&& BitVec.ofInt 64 4294967295).toNat = n := by
    rw [BitVec.toNat_and]
    have e1 : (BitVec.ofInt 64 (n : Int)).toNat = n := by
      rw [BitVec.toNat_ofInt]
      omega
    have e2 : (BitVec.ofInt 64 4294967295).toNat = 2 ^ 32 - 1 := by decide
    rw [e1, e2, Nat.and_two_pow_sub_one_eq_mod]
    omega
  show IntKind.u64.wrap _ = _
  rw [show (IntKind.u64).bits = 64 from rfl]
  simp only
  rw [h1]
  simp [IntKind.wrap, IntKind.signed, IntKind.bits]
  omega
set_option maxHeartbeats 1600000 in
theorem mul64_one (n : Nat) (hn : n ≤ 5000) (w : World) : Calls Try.prog 68 #[.int .u64 1, .int .u64 (n : Int)] w fun e w' => e = .returned (.tuple #[.int .u64 0, .int .u64 (n : Int)]) ∧ w' = w := by
  have b1 : bits BinOp.and .u64 1 4294967295 = 1 := and_mask 1 (by omega)
  have b2 := and_mask n hn
  have b3 : bits BinOp.and .u64 0 4294967295 = 0 := and_mask 0 (by omega)
  have s2 : (n : Int) / 4294967296 = 0 := by omega
  have s3 : (n : Int) / 2 ^ 32 = 0 := by omega
  have wn : IntKind.u64.wrap (n : Int) = (n : Int) := by
    simp [IntKind.wrap, IntKind.signed, IntKind.bits]
    omega
  have w0 : IntKind.u64.wrap 0 = 0 := by decide
  go_enter Try.func68, Try.ntmps68
  go_wp2
  go_ret2
  exact ⟨rfl, rfl⟩
end Go.Proofs.Ytalkpoeliekbfaa

/-
  slices.Repeat of a row of one, -1.
-/
namespace Go.Proofs.Ytalkpoeliekbfaa
open Go.ChangeShapes Go.WideShapes Go.ChangeAt Go.RowKit Go.Deep
set_option linter.unusedVariables false
set_option linter.unusedSimpArgs false

theorem mul_one_any (n : Nat) (hn : n ≤ 5000) (w : World) : Calls Try.prog 62 #[.int .u64 1, .int .u64 (n : Int)] w fun e w' => e = .returned (.tuple #[.int .u64 0, .int .u64 (n : Int)]) ∧ w' = w := by
  have D := Lib.hid (mul64_one n hn w)
  go_enter Try.func62, Try.ntmps62
  go_wp2_with fail
  refine (D.out).mono ?_
  rintro e w1 ⟨rfl, rfl⟩
  go_wp2
  go_ret2
  exact ⟨rfl, rfl⟩
/-- A row of n integers, the first m of them -1, the others 0. -/
def rowM (n m : Nat) : List Value := List.replicate m (.int .i64 (-1)) ++ List.replicate (n - m) (.int .i64 0)
def RowM (w : World) (g n m : Nat) : Prop := w.heap[g]? = some (.cells (rowM n m).toArray 3 (0, 0))
theorem rowM_length {n m : Nat} (h : m ≤ n) : (rowM n m).length = n := by simp [rowM]; omega
section
variable {w w' : World} {g n m q : Nat}
theorem RowM.lt (h : RowM w g n m) : g < w.heap.size := (Array.getElem?_eq_some_iff.1 h).1
theorem RowM.carry {S : List Nat} (h : RowM w g n m) (t : Touch S w w') (hg : g ∉ S) : RowM w' g n m := (t.block g h.lt hg).trans h
theorem RowM.cell (h : RowM w g n m) (i : Nat) : w.cell? ⟨g, i, none⟩ = (rowM n m)[i]? := by
  rw [cell_of_row w g i _ _ (0, 0) h]
  simp
theorem touch_setR (w : World) (g : Nat) (cs : Array Value) : Touch [g] w (w.setRow g cs) := ⟨rfl, rfl, rfl, by simp [World.setRow], fun b _ hb => setRow_other w g b cs (by simpa using hb)⟩
theorem cint_size : (Try.prog.info? 3).map (·.size) = some 1 := by kernel_rfl
theorem rowM_copy (hq : m + q ≤ n) : List.take m (rowM n m) ++ List.replicate q (Value.int .i64 (-1)) ++ List.drop (m + q) (rowM n m) = rowM n (m + q) := by
  unfold rowM
  rw [List.take_left' (by simp), List.drop_append, List.drop_eq_nil_of_le (by simp), List.nil_append, List.drop_replicate, List.replicate_append_replicate, List.length_replicate]
  congr 2
  omega
/-- The first m go into the next ones. -/
theorem copyM (h : RowM w g n m) (hm : m < n) (hq : q = min m (n - m)) (ty : TypeId) :
    ∃ w', (Builtin.copy_ #[40, 40] ty #[.slice (some ⟨g, m, none⟩) (n - m) (n - m), .slice (some ⟨g, 0, none⟩) m n]).run Try.prog w = .ok (.int .i64 (q : Int)) w' ∧ RowM w' g n (m + q) ∧ Touch [g] w w' := by
  have hlen : (List.replicate q (Value.int .i64 (-1))).length = Nat.min m (n - m) := by simp [hq]
  have hr := run_copy_row (P := Try.prog) w 40 40 ty 3 g m (n - m) (n - m) ⟨g, 0, none⟩ m n (rowM n m).toArray 3 (List.replicate q (.int .i64 (-1))) Try.underlying40 cint_size h hlen
    (fun j v hv => by
      have hj := (List.getElem?_eq_some_iff.1 hv).1
      rw [List.length_replicate] at hj
      rw [show (⟨g, 0, none⟩ : Addr).add j = ⟨g, j, none⟩ by unfold Addr.add; split <;> simp_all, h.cell]
      unfold rowM
      rw [List.getElem?_append_left (by simp; omega)]
      rw [List.getElem?_replicate] at hv ⊢
      rw [if_pos hj] at hv
      rw [if_pos (by omega)]
      exact hv) (by simp [rowM]; omega) (fun v hv => by rw [List.eq_of_mem_replicate hv]; rfl)
  have hl : List.take m (rowM n m).toArray.toList ++ List.replicate q (Value.int .i64 (-1)) ++ List.drop (m + (List.replicate q (Value.int .i64 (-1))).length) (rowM n m).toArray.toList = rowM n (m + q) := by
    rw [List.length_replicate]
    exact rowM_copy (by omega)
  rw [hl, List.length_replicate] at hr
  exact ⟨w.setRow g (rowM n (m + q)).toArray, hr, setRow_heap w g _ _ 3 (0, 0) h, touch_setR w g _⟩
/-- A round's state, by what is through: slot 8 before it is assigned, the row before and behind the copy. -/
def RepJ (g n m q : Nat) (f : Nat → Bool) (a : Act) (w : World) : Prop :=
  (f 9 = true → ∀ j, j < 9 → f j = true) ∧ (f 9 = false → a.eval (.tmp 8) = .int .i64 (m : Int)) ∧ (f 7 = false → RowM w g n m) ∧ (f 7 = true → RowM w g n (m + q))
section
variable {f : Nat → Bool} {a : Act} {i d : Nat}
theorem repJ_start (hf : ∀ j, f j = false) (h8 : a.eval (.tmp 8) = .int .i64 (m : Int)) (h : RowM w g n m) : RepJ g n m q f a w.drew := by
  refine ⟨fun h9 => ?_, fun _ => h8, fun _ => h, fun h7 => ?_⟩
  · rw [hf] at h9; cases h9
  · rw [hf] at h7; cases h7
theorem RepJ.nine (h : RepJ g n m q f a w) (hi : i < 9) (hfi : f i = false) : f 9 = false := by
  cases h9 : f 9
  · rfl
  · rw [h.1 h9 i hi] at hfi
    cases hfi
theorem RepJ.slot (h : RepJ g n m q f a w) (h9 : f 9 = false) : a.eval (.tmp 8) = .int .i64 (m : Int) := h.2.1 h9
theorem eval_put_other {a : Act} {d e : Nat} (h : d ≠ e) (v : Value) : (a.put (some d) v).eval (.tmp e) = a.eval (.tmp e) := by
  simp only [Act.eval]
  have := getD_put_other (a := a) h v
  simpa [Array.getD_eq_getD_getElem?] using this
theorem RepJ.keep (h : RepJ g n m q f a w) (t : Touch [] w w') (hd : d ≠ 8) (hi : i ≠ 7) (hi9 : i < 9) (hfi : f i = false) (v : Value) : RepJ g n m q (mark f i) (a.put (some d) v) w' := by
  have h9 := h.nine hi9 hfi
  have e9 : mark f i 9 = false := by rw [mark_other f (by omega)]; exact h9
  have e7 : mark f i 7 = f 7 := mark_other f (Ne.symm hi)
  refine ⟨fun hh => ?_, fun _ => ?_, fun h7 => ?_, fun h7 => ?_⟩
  · rw [e9] at hh; cases hh
  · rw [eval_put_other hd]
    exact h.2.1 h9
  · rw [e7] at h7
    exact (h.2.2.1 h7).carry t (by simp)
  · rw [e7] at h7
    exact (h.2.2.2 h7).carry t (by simp)
theorem RepJ.last (h : RepJ g n m q f a w) (t : Touch [] w w') (hall : ∀ j, j < 9 → f j = true) (v : Value) : RepJ g n m q (mark f 9) (a.put (some 8) v) w' := by
  have e7 : mark f 9 7 = f 7 := mark_other f (by omega)
  refine ⟨fun _ j hj => ?_, fun hh => ?_, fun h7 => ?_, fun h7 => ?_⟩
  · rw [mark_other f (by omega)]
    exact hall j hj
  · rw [mark_same] at hh
    cases hh
  · rw [e7] at h7
    exact (h.2.2.1 h7).carry t (by simp)
  · rw [e7] at h7
    exact (h.2.2.2 h7).carry t (by simp)
theorem dep_all9 {o : Oper} (hf : ∀ e ∈ o.after, Region.binds .any e = true → f e.on = true) (hb : ((List.range 9).all fun j => o.after.any fun e => (e.on == j) && Region.binds .any e) = true) (j : Nat) (hj : j < 9) : f j = true :=
  dep_f hf j ((List.all_eq_true.1 hb) j (by simpa using hj))
theorem doJ_copy {ops : Array Oper} {o : Oper} {L : List Leaf} {s x : Tmp} (hw : Region.wanted o (yielded ops a.tmps) = true) (ho : o.op = .call { callee := .builtin .copy, args := #[.tmp s, .tmp x], argTypes := #[40, 40] } ∧ o.dst = some 45 ∧ okL L 7 = fun v _ => v = .int .i64 (q : Int))
    (hs : a.eval (.tmp s) = .slice (some ⟨g, m, none⟩) (n - m) (n - m)) (hx : a.eval (.tmp x) = .slice (some ⟨g, 0, none⟩) m n) (h : RepJ g n m q f a w) (hfi : f 7 = false) (hm : 1 ≤ m ∧ m < n ∧ n ≤ 5000 ∧ q = min m (n - m)) :
    DoesJ Try.prog ops [g] (fun v w' => okL L 7 v w' ∧ RepJ g n m q (mark f 7) (a.put o.dst v) w') (fun _ => True) o a w := by
  obtain ⟨w', hr, h1, h2⟩ := copyM (h.2.2.1 hfi) hm.2.1 hm.2.2.2 o.type
  refine .inl ⟨hw, ?_⟩
  unfold execOp
  simp only [ho.1, resolve, invoke, builtin, Sem.run_bind, Sem.run_pure, Result.andThen_ok, List.map_toArray, List.map_cons, List.map_nil, hs, hx, hr]
  have h9 := h.nine (by omega) hfi
  refine ⟨⟨by rw [ho.2.2], fun hh => ?_, fun _ => ?_, fun h7 => ?_, fun _ => h1⟩, trivial, h2⟩
  · rw [mark_other f (by omega), h9] at hh
    cases hh
  · rw [ho.2.1, eval_put_other (by decide)]
    exact h.2.1 h9
  · rw [mark_same] at h7
    cases h7
end
/-- What the copy of a round leaves. -/
def RowQ (g n m q : Nat) (v : Value) (w : World) : Prop := v = .int .i64 (q : Int) ∧ RowM w g n m
theorem rowQ_stab : StabS [] (RowQ g n m q) := fun v w w' h t => ⟨h.1, h.2.carry t (by simp)⟩
theorem doS_copy {ops : Array Oper} {o : Oper} {a : Act} {s x : Tmp} (hw : Region.wanted o (yielded ops a.tmps) = true) (ho : o.op = .call { callee := .builtin .copy, args := #[.tmp s, .tmp x], argTypes := #[40, 40] })
    (hs : a.eval (.tmp s) = .slice (some ⟨g, m, none⟩) (n - m) (n - m)) (hx : a.eval (.tmp x) = .slice (some ⟨g, 0, none⟩) m n) (h : RowM w g n m) (hm : 1 ≤ m ∧ m < n ∧ n ≤ 5000 ∧ q = min m (n - m)) : DoesS Try.prog ops [g] (RowQ g n (m + q) q) o a w := by
  obtain ⟨w', hr, h1, h2⟩ := copyM h hm.2.1 hm.2.2.2 o.type
  refine .inl ⟨hw, ?_⟩
  unfold execOp
  simp only [ho, resolve, invoke, builtin, Sem.run_bind, Sem.run_pure, Result.andThen_ok, List.map_toArray, List.map_cons, List.map_nil, hs, hx, hr]
  exact ⟨⟨rfl, h1⟩, h2⟩
theorem copy1 {b : Nat} (h : RowM w g n 0) (hn : 1 ≤ n) (hb : w.cell? ⟨b, 0, none⟩ = some (.int .i64 (-1))) :
    ∃ w', (∀ ty, (Builtin.copy_ #[40, 40] ty #[.slice (some ⟨g, 0, none⟩) n n, .slice (some ⟨b, 0, none⟩) 1 1]).run Try.prog w = .ok (.int .i64 1) w') ∧ RowM w' g n 1 ∧ Touch [g] w w' := by
  refine ⟨w.setRow g (rowM n 1).toArray, fun ty => ?_, setRow_heap w g _ _ 3 (0, 0) h, touch_setR w g _⟩
  have hr := run_copy_row (P := Try.prog) w 40 40 ty 3 g 0 n n ⟨b, 0, none⟩ 1 1 (rowM n 0).toArray 3 [.int .i64 (-1)] Try.underlying40 cint_size h (show 1 = Nat.min 1 n by simp [Nat.min_def]; omega)
    (fun j v hv => by
      match j, hv with
      | 0, hv => cases hv; exact hb) (by simp [rowM]; omega) (fun v hv => by simp at hv; subst hv; rfl)
  have hl : List.take 0 (rowM n 0).toArray.toList ++ [Value.int .i64 (-1)] ++ List.drop (0 + [Value.int .i64 (-1)].length) (rowM n 0).toArray.toList = rowM n 1 := by
    simp [rowM]
  rw [hl] at hr
  exact hr
theorem made_rowM (w : World) (n : Nat) : RowM (w.alloc (.cells (madeCells #[.int .i64 0] n) 3)) w.heap.size n 0 := by
  unfold RowM
  rw [heap_alloc_new]
  congr 2
  apply Array.ext'
  rw [toList_madeCells_one]
  simp [rowM]
set_option maxHeartbeats 1600000 in
set_option maxRecDepth 100000 in
theorem repeat_one (n : Nat) (h1 : 1 ≤ n) (hn : n ≤ 5000) {w : World} {b : Nat} (hb : w.cell? ⟨b, 0, none⟩ = some (.int .i64 (-1))) :
    Calls Try.prog 40 #[.slice (some ⟨b, 0, none⟩) 1 1, .int .i64 (n : Int)] w fun e w' => ∃ g, e = .returned (.slice (some ⟨g, 0, none⟩) n n) ∧ RowM w' g n n ∧ w.heap.size ≤ g ∧ Touch [] w w' := by
  have D := Lib.hid (mul_one_any n hn w)
  have hmk : (Instr.makeSlice 40 (.int .i64 (n : Int)) (.int .i64 (n : Int))).run Try.prog w = .ok (.slice (some ⟨w.heap.size, 0, none⟩) n n) (w.alloc (.cells (madeCells #[.int .i64 0] n) 3)) := by
    obtain ⟨i0, hi0, hz0, hz1, hz2⟩ := info_parts cint_info
    have := run_make (P := Try.prog) w 40 3 i0 _ Try.underlying40 hi0 hz0 .i64 .i64 n n (by omega) (by omega) (by rw [hz2]; omega) (by omega)
    rw [hz1] at this
    simpa [Value.cells] using this
  have wu : IntKind.u64.wrap (n : Int) = (n : Int) := by
    simp [IntKind.wrap, IntKind.signed, IntKind.bits]
    omega
  have lb : b < w.heap.size := cell_lt hb
  have t1 : Touch [] w (w.alloc (.cells (madeCells #[.int .i64 0] n) 3)) := (Touch.refl [] w).alloc _
  obtain ⟨w3, hcp, hr3, t3⟩ := copy1 (made_rowM w n) h1 ((t1.cell (a := ⟨b, 0, none⟩) lb (by simp)).trans hb)
  have HR3 := Lib.hid hr3
  have T3 := Lib.hid (t1.trans t3 (fun b hb => by simp at hb; subst hb; exact .inr (Nat.le_refl _)))
  have g1 : ¬ ((n : Int) < 0) := by omega
  have g2 : ¬ ((n : Int) > 9223372036854775807) := by omega
  clear hr3 t3 hb t1
  go_enter Try.func40, Try.ntmps40
  go_wp2_with fail
  refine (D.out).mono ?_
  rintro e w1 ⟨rfl, hw⟩
  rw [hw]
  clear hw w1
  go_wp2_with fail
  clear hcp hmk
  generalize hg : w.heap.size = g at *
  go_loopw [8] (fun i wr => ∃ m : Nat, 1 ≤ m ∧ m ≤ n ∧ i = .int .i64 (m : Int) ∧ RowM wr g n m ∧ Touch [] w wr) (fun i _ => n - (intOf i).toNat)
  case atStart => exact ⟨1, Nat.le_refl _, h1, rfl, HR3.out, T3.out⟩
  case round =>
    obtain ⟨m, hm1, hm2, rfl, hrow, ht⟩ := hrel
    have HRW := Lib.hid hrow
    have HT := Lib.hid ht
    clear hrow ht
    by_cases hlt : m < n
    · obtain ⟨q, hq⟩ : ∃ q, q = min m (n - m) := ⟨_, rfl⟩
      have HMN := Lib.hid (show 1 ≤ m ∧ m < n ∧ n ≤ 5000 ∧ q = min m (n - m) from ⟨hm1, hlt, hn, hq⟩)
      have HQ := Lib.hid (show q ≤ 5000 ∧ 1 ≤ q ∧ m + q ≤ n by omega)
      clear hq
      go_upto_region 9 with fail
      refine wp_region_joint (wd := _) [g] (RepJ g n m q) (Leaf.const (.int .i64 (m : Int)) :: Leaf.const (.slice (some ⟨g, 0, none⟩) n n) :: Leaf.const (.int .i64 (m : Int)) :: Leaf.const (.slice (some ⟨g, m, none⟩) (n - m) (n - m)) :: Leaf.const (.slice (some ⟨g, 0, none⟩) n n) :: Leaf.const (.int .i64 (m : Int)) :: Leaf.const (.slice (some ⟨g, 0, none⟩) m n) :: Leaf.const (.int .i64 (q : Int)) :: Leaf.const (.int .i64 ((m + q : Nat) : Int)) :: Leaf.const ((.int .i64 ((m + q : Nat) : Int))) :: []) (by kernel_rfl) (by kernel_rfl) (by kernel_rfl) ((Touch.refl _ _).drew) (trivial) (fun f hf => repJ_start hf rfl HRW.out) ?_ ?_
      · intro i o ho f ac w hfi ht hJ hk hf hd
        match i, ho, hfi with
        | 0, ho, hfi =>
          have ho' : some _ = some o := ho
          cases ho'
          clear ho
          refine DoesG.toJoint ?_ (fun v' w' hφ' t' => hJ.keep t' (by decide) (by omega) (by omega) hfi _)
          have e8 := hJ.slot (show f 9 = false from hJ.nine (by omega) hfi)
          exact do_value (wanted_none rfl) (by rw [BigFrame.run_move (.tmp 8) rfl, e8]) rfl
        | 1, ho, hfi =>
          have ho' : some _ = some o := ho
          cases ho'
          clear ho
          refine DoesG.toJoint ?_ (fun v' w' hφ' t' => hJ.keep t' (by decide) (by omega) (by omega) hfi _)
          have e7 := known_slot hk 7 (by kernel_rfl) (v := .slice (some ⟨g, 0, none⟩) n n) rfl
          exact do_value (wanted_none rfl) (by rw [BigFrame.run_move (.tmp 7) rfl, e7]) rfl
        | 2, ho, hfi =>
          have ho' : some _ = some o := ho
          cases ho'
          clear ho
          refine DoesG.toJoint ?_ (fun v' w' hφ' t' => hJ.keep t' (by decide) (by omega) (by omega) hfi _)
          have e8 := hJ.slot (show f 9 = false from hJ.nine (by omega) hfi)
          exact do_value (wanted_none rfl) (by rw [BigFrame.run_move (.tmp 8) rfl, e8]) rfl
        | 3, ho, hfi =>
          have ho' : some _ = some o := ho
          cases ho'
          clear ho
          refine DoesG.toJoint ?_ (fun v' w' hφ' t' => hJ.keep t' (by decide) (by omega) (by omega) hfi _)
          have e39 := has_const (has_dep hd 1 (by kernel_rfl)) rfl rfl rfl (c := (.slice (some ⟨g, 0, none⟩) n n))
          have e40 := has_const (has_dep hd 2 (by kernel_rfl)) rfl rfl rfl (c := (.int .i64 (m : Int)))
          exact do_value (wanted_none rfl) (v := .slice (some ⟨g, m, none⟩) (n - m) (n - m)) (run_value rfl (by rw [e39]; simp only [Option.map_some, Option.map_none, e40]; have h := HMN.out; have h3 : n ≠ m := (by omega); (first | (simp [go_sem, h3]; done) | (simp [go_sem, h3]; omega)))) rfl
        | 4, ho, hfi =>
          have ho' : some _ = some o := ho
          cases ho'
          clear ho
          refine DoesG.toJoint ?_ (fun v' w' hφ' t' => hJ.keep t' (by decide) (by omega) (by omega) hfi _)
          have e7 := known_slot hk 7 (by kernel_rfl) (v := .slice (some ⟨g, 0, none⟩) n n) rfl
          exact do_value (wanted_none rfl) (by rw [BigFrame.run_move (.tmp 7) rfl, e7]) rfl
        | 5, ho, hfi =>
          have ho' : some _ = some o := ho
          cases ho'
          clear ho
          refine DoesG.toJoint ?_ (fun v' w' hφ' t' => hJ.keep t' (by decide) (by omega) (by omega) hfi _)
          have e8 := hJ.slot (show f 9 = false from hJ.nine (by omega) hfi)
          exact do_value (wanted_none rfl) (by rw [BigFrame.run_move (.tmp 8) rfl, e8]) rfl
        | 6, ho, hfi =>
          have ho' : some _ = some o := ho
          cases ho'
          clear ho
          refine DoesG.toJoint ?_ (fun v' w' hφ' t' => hJ.keep t' (by decide) (by omega) (by omega) hfi _)
          have e42 := has_const (has_dep hd 4 (by kernel_rfl)) rfl rfl rfl (c := (.slice (some ⟨g, 0, none⟩) n n))
          have e43 := has_const (has_dep hd 5 (by kernel_rfl)) rfl rfl rfl (c := (.int .i64 (m : Int)))
          exact do_value (wanted_none rfl) (v := .slice (some ⟨g, 0, none⟩) m n) (run_value rfl (by rw [e42]; simp only [Option.map_some, Option.map_none, e43]; have h := HMN.out; have h3 : n ≠ m := (by omega); (first | (simp [go_sem, h3]; done) | (simp [go_sem, h3]; omega)))) rfl
        | 7, ho, hfi =>
          have ho' : some _ = some o := ho
          cases ho'
          clear ho
          have e41 := has_const (has_dep hd 3 (by kernel_rfl)) rfl rfl rfl (c := (.slice (some ⟨g, m, none⟩) (n - m) (n - m)))
          have e44 := has_const (has_dep hd 6 (by kernel_rfl)) rfl rfl rfl (c := (.slice (some ⟨g, 0, none⟩) m n))
          exact doJ_copy (wanted_none rfl) ⟨rfl, rfl, rfl⟩ e41 e44 hJ hfi HMN.out
        | 8, ho, hfi =>
          have ho' : some _ = some o := ho
          cases ho'
          clear ho
          refine DoesG.toJoint ?_ (fun v' w' hφ' t' => hJ.keep t' (by decide) (by omega) (by omega) hfi _)
          have e38 := has_const (has_dep hd 0 (by kernel_rfl)) rfl rfl rfl (c := (.int .i64 (m : Int)))
          have e45 := has_const (has_dep hd 7 (by kernel_rfl)) rfl rfl rfl (c := (.int .i64 (q : Int)))
          have h := HQ.out
          have h9 := HMN.out
          have hw : IntKind.i64.wrap ((m : Int) + (q : Int)) = (m : Int) + (q : Int) := by rw [IntKind.wrap_i64]; omega
          exact do_value (wanted_none rfl) (v := .int .i64 ((m + q : Nat) : Int)) (run_value rfl (by rw [e38, e45]; simp [go_sem, hw])) rfl
        | 9, ho, hfi =>
          have ho' : some _ = some o := ho
          cases ho'
          clear ho
          refine DoesG.toJoint ?_ (fun v' w' hφ' t' => hJ.last t' (fun j hj => dep_all9 hf (by kernel_rfl) j hj) _)
          have e46 := has_const (has_dep hd 8 (by kernel_rfl)) rfl rfl rfl (c := (.int .i64 ((m + q : Nat) : Int)))
          exact do_value (wanted_none rfl) (by rw [BigFrame.run_assign (.tmp 46) rfl, e46]) rfl
        | q + 10, ho, hfi => exact absurd ho (by simp)
      · intro y w9 f T9 hJ hf hkn
        have hr9 := hJ.2.2.2 (hf 7 (by simp))
        simp only [putL, Act.put, List.setIfInBounds_toArray, List.set_cons_succ, List.set_cons_zero]
        have HR9 := Lib.hid hr9
        have HT9 := Lib.hid (HT.out.trans T9 (fun b hb => by simp at hb; subst hb; right; omega))
        have hq2 := HQ.out
        clear hr9 T9 hJ hf hkn
        go_wp2_with fail
        go_roundw
        case rel => exact ⟨m + q, by omega, by omega, by go_num, HR9.out, HT9.out⟩
        case measure => simp [intOf]; omega
    · obtain rfl : m = n := by omega
      go_wp2_with fail
      go_ret
      exact ⟨g, rfl, HRW.out, by omega, HT.out⟩
end
end Go.Proofs.Ytalkpoeliekbfaa

/-
  Layer 7 (chain): New.
-/
namespace Go.Proofs.Ytalkpoeliekbfaa
open Go.ChangeShapes Go.WideShapes Go.ChangeAt Go.RowKit Go.Deep
set_option linter.unusedVariables false
set_option linter.unusedSimpArgs false

theorem ent40 (args : Array Value) (w : World) : (callFunc 40 args).run Try.prog w = .ok (.enter 40 args) w := by
  simp [callFunc, Try.func40]
  rfl
def LitNew (v : Value) (w : World) : Prop := ∃ b, v = .slice (some ⟨b, 0, none⟩) 1 1 ∧ w.cell? ⟨b, 0, none⟩ = some (.int .i64 (-1))
theorem LitNew.stab : Stab LitNew := fun v w w' ⟨b, h0, h1⟩ t => ⟨b, h0, (t.cell (a := ⟨b, 0, none⟩) (cell_lt h1) (by simp)).trans h1⟩
theorem litNew_new (w : World) : LitNew (.slice (some ⟨w.heap.size, 0, none⟩) 1 1) (w.alloc (.cells #[.int .i64 (-1)] 3)) := ⟨_, rfl, (Box1.new w 3 (.int .i64 (-1))).c0⟩
theorem run_lit1 {a : Act} {o : Oper} {w : World} (h : o.op = .buildSlice 40 1 #[(0, .const (.int .i64 (-1)))]) : (execOp a.eval o).run Try.prog w = .ok (.value (.slice (some ⟨w.heap.size, 0, none⟩) 1 1)) (w.alloc (.cells #[.int .i64 (-1)] 3)) := by
  unfold execOp
  rw [h]
  simp [go_sem]
theorem own_rowM {w : World} {g n : Nat} (h : RowM w g n n) (hn : n ≤ 5000) : w.ownsRow 0 3 1 (.slice (some ⟨g, 0, none⟩) n n) n (iv (fun _ => -1) n) := by
  have e : rowM n n = iv (fun _ => -1) n := by
    unfold rowM iv
    rw [Nat.sub_self, List.replicate_zero, List.append_nil, List.map_const', List.length_range]
  refine ⟨by rw [iv_length]; omega, .inr ⟨g, n, _, rfl, Nat.zero_le _, h, Nat.le_refl _, by unfold maxLen; omega, by simp [rowM_length (Nat.le_refl n)], ?_⟩⟩
  rw [← e, Nat.mul_one]
  simp [rowM]
theorem made_ends (k : Nat) : (madeCells #[.int .i64 0, .int .i64 0, .int .i64 0] (k * 3)).toList = iv (fun _ => 0) (k * 3) := by
  apply List.ext_getElem?
  intro j
  by_cases hj : j < k * 3
  · rw [iv_get _ hj]
    have : j % 3 = 0 ∨ j % 3 = 1 ∨ j % 3 = 2 := by omega
    simp [madeCells, hj]
    rcases this with h | h | h <;> simp [h]
  · simp [madeCells, iv, hj]
theorem run_makeE {a : Act} {o : Oper} {k : Nat} {w : World} (h : o.op = .makeSlice 89 (.tmp 25) (.tmp 25)) (hv : a.eval (.tmp 25) = .int .i64 (k : Int)) (hk : k ≤ 5000) :
    (execOp a.eval o).run Try.prog w = .ok (.value (.slice (some ⟨w.heap.size, 0, none⟩) k k)) (w.alloc (.cells (madeCells #[.int .i64 0, .int .i64 0, .int .i64 0] (k * 3)) 96)) := by
  obtain ⟨i0, hi0, hz0, hz1, hz2⟩ := info_parts ends_info
  have := run_make (P := Try.prog) w 89 96 i0 _ Try.underlying89 hi0 hz0 .i64 .i64 k k (by omega) (by omega) (by rw [hz2]; omega) (by omega)
  rw [hz1] at this
  simp only [Int.toNat_natCast, Value.cells] at this
  unfold execOp
  rw [h]
  simp only [hv]
  simp [go_sem, this]
theorem endsNew_made {w0 w : World} (k : Nat) (hk : k ≤ 5000) (hs : w0.heap.size ≤ w.heap.size) : RowNew w0 96 3 k (iv (fun _ => 0) (k * 3)) (.slice (some ⟨w.heap.size, 0, none⟩) k k) (w.alloc (.cells (madeCells #[.int .i64 0, .int .i64 0, .int .i64 0] (k * 3)) 96)) := by
  refine ⟨_, _, rfl, ⟨by rw [iv_length], .inr ⟨_, k, _, rfl, Nat.zero_le _, heap_alloc_new w _, Nat.le_refl _, by unfold maxLen; omega, size_madeCells _ _, ?_⟩⟩, hs⟩
  rw [made_ends, iv_take _ (Nat.le_refl _)]
theorem newC_bad (n k : Int) (w : World) (h : n < 1 ∨ 4096 < n ∨ k < 1 ∨ 256 < k) : Calls Try.prog 7 #[.int .i64 n, .int .i64 k] w fun e w' => e = .returned (.pointer none) ∧ w' = w := by
  by_cases z0 : n < 1
  · have y0 : decide (n < 1) = true := by simpa using z0
    clear h z0
    go_enter Try.func7, Try.ntmps7
    go_wp2_with fail
    go_ret
    exact ⟨rfl, rfl⟩
  · have y0 : decide (n < 1) = false := by simpa using z0
    by_cases z1 : 4096 < n
    · have y1 : decide (4096 < n) = true := by simpa using z1
      clear h z0 z1
      go_enter Try.func7, Try.ntmps7
      go_wp2_with fail
      go_ret
      exact ⟨rfl, rfl⟩
    · have y1 : decide (4096 < n) = false := by simpa using z1
      by_cases z2 : k < 1
      · have y2 : decide (k < 1) = true := by simpa using z2
        clear h z0 z1 z2
        go_enter Try.func7, Try.ntmps7
        go_wp2_with fail
        go_ret
        exact ⟨rfl, rfl⟩
      · have y2 : decide (k < 1) = false := by simpa using z2
        by_cases z3 : 256 < k
        · have y3 : decide (256 < k) = true := by simpa using z3
          clear h z0 z1 z2 z3
          go_enter Try.func7, Try.ntmps7
          go_wp2_with fail
          go_ret
          exact ⟨rfl, rfl⟩
        · have y3 : decide (256 < k) = false := by simpa using z3
          omega
set_option maxRecDepth 100000 in
set_option maxHeartbeats 3200000 in
theorem newC_any (n k : Nat) (w : World) (hn1 : 1 ≤ n) (hn2 : n ≤ 4096) (hk1 : 1 ≤ k) (hk2 : k ≤ 256) :
    Calls Try.prog 7 #[.int .i64 (n : Int), .int .i64 (k : Int)] w fun e w' => ∃ v, e = .returned v ∧ ChainNew w n k (fun _ => -1) (fun _ => -1) (fun _ => 0) v w' ∧ Touch [] w w' := by
  have y0 : decide ((n : Int) < 1) = false := by simp; omega
  have y1 : decide (4096 < (n : Int)) = false := by simp; omega
  have y2 : decide ((k : Int) < 1) = false := by simp; omega
  have y3 : decide (256 < (k : Int)) = false := by simp; omega
  have hn5 : n ≤ 5000 := by omega
  have hk5 : k ≤ 5000 := by omega
  generalize hw0 : w = w0 at *
  go_enter Try.func7, Try.ntmps7
  go_upto_region 3 with fail
  refine wp_region_joint (wd := w0) [] (Apart [(2, 21), (5, 24), (7, 26)]) (Leaf.pred (LitNew) :: Leaf.const (.int .i64 (n : Int)) :: Leaf.pred (RowNew w0 3 1 n (iv (fun _ => -1) n)) :: Leaf.pred (LitNew) :: Leaf.const (.int .i64 (n : Int)) :: Leaf.pred (RowNew w0 3 1 n (iv (fun _ => -1) n)) :: Leaf.const (.int .i64 (k : Int)) :: Leaf.pred (RowNew w0 96 3 k (iv (fun _ => 0) (k * 3))) :: Leaf.pred (PartsC w0 n k (fun _ => -1) (fun _ => -1) (fun _ => 0)) :: Leaf.pred (ChainNew w0 n k (fun _ => -1) (fun _ => -1) (fun _ => 0)) :: Leaf.pred (ChainNew w0 n k (fun _ => -1) (fun _ => -1) (fun _ => 0)) :: []) (by kernel_rfl) (by kernel_rfl) (by kernel_rfl) ((Touch.refl _ _).drew) (⟨LitNew.stab, RowNew.stab, LitNew.stab, RowNew.stab, RowNew.stab, PartsC.stab, ChainNew.stab, ChainNew.stab, trivial⟩) (fun f hf => apart_start hf) ?_ ?_
  · intro i o ho f ac w hfi ht hJ hk hf hd
    match i, ho, hfi with
    | 0, ho, hfi =>
      have ho' : some _ = some o := ho
      cases ho'
      clear ho
      refine DoesG.toJoint ?_ (fun v' w' hφ' t' => hJ.keep t' (by decide) (by decide) _)
      exact .inl ⟨wanted_none rfl, by rw [run_lit1 rfl]; exact ⟨litNew_new w, (Touch.refl [] w).alloc _⟩⟩
    | 1, ho, hfi =>
      have ho' : some _ = some o := ho
      cases ho'
      clear ho
      refine DoesG.toJoint ?_ (fun v' w' hφ' t' => hJ.keep t' (by decide) (by decide) _)
      have e0 := known_slot hk 0 (by kernel_rfl) (v := .int .i64 (n : Int)) rfl
      exact do_value (wanted_none rfl) (by rw [BigFrame.run_move (.tmp 0) rfl, e0]) rfl
    | 2, ho, hfi =>
      have ho' : some _ = some o := ho
      cases ho'
      clear ho
      obtain ⟨v19, e19, h19⟩ := has_pred (has_dep hd 0 (by kernel_rfl)) rfl rfl rfl (φ := LitNew)
      have e20 := has_const (has_dep hd 1 (by kernel_rfl)) rfl rfl rfl (c := (.int .i64 (n : Int)))
      obtain ⟨b, rfl, hb⟩ := h19
      refine doJ_enter (wanted_none rfl) (f := 40) (args := #[.slice (some ⟨b, 0, none⟩) 1 1, .int .i64 (n : Int)]) (by rw [run_go3 40 _ _ rfl, ent40]; simp [eval_c, e19, e20]) ?_
      exact (repeat_one n hn1 hn5 hb).mono fun e w2 ⟨g, he, hr, h1, t⟩ => ⟨_, he, ⟨⟨g, n, rfl, own_rowM hr hn5, by have := ht.size; omega⟩, hJ.made t (by decide) (by rw [hk.2.1]; simp) (fun g' hg' => by simp [Value.ownBlock] at hg'; subst hg'; exact ⟨h1, hr.lt⟩)⟩, t⟩
    | 3, ho, hfi =>
      have ho' : some _ = some o := ho
      cases ho'
      clear ho
      refine DoesG.toJoint ?_ (fun v' w' hφ' t' => hJ.keep t' (by decide) (by decide) _)
      exact .inl ⟨wanted_none rfl, by rw [run_lit1 rfl]; exact ⟨litNew_new w, (Touch.refl [] w).alloc _⟩⟩
    | 4, ho, hfi =>
      have ho' : some _ = some o := ho
      cases ho'
      clear ho
      refine DoesG.toJoint ?_ (fun v' w' hφ' t' => hJ.keep t' (by decide) (by decide) _)
      have e0 := known_slot hk 0 (by kernel_rfl) (v := .int .i64 (n : Int)) rfl
      exact do_value (wanted_none rfl) (by rw [BigFrame.run_move (.tmp 0) rfl, e0]) rfl
    | 5, ho, hfi =>
      have ho' : some _ = some o := ho
      cases ho'
      clear ho
      obtain ⟨v22, e22, h22⟩ := has_pred (has_dep hd 3 (by kernel_rfl)) rfl rfl rfl (φ := LitNew)
      have e23 := has_const (has_dep hd 4 (by kernel_rfl)) rfl rfl rfl (c := (.int .i64 (n : Int)))
      obtain ⟨b, rfl, hb⟩ := h22
      refine doJ_enter (wanted_none rfl) (f := 40) (args := #[.slice (some ⟨b, 0, none⟩) 1 1, .int .i64 (n : Int)]) (by rw [run_go3 40 _ _ rfl, ent40]; simp [eval_c, e22, e23]) ?_
      exact (repeat_one n hn1 hn5 hb).mono fun e w2 ⟨g, he, hr, h1, t⟩ => ⟨_, he, ⟨⟨g, n, rfl, own_rowM hr hn5, by have := ht.size; omega⟩, hJ.made t (by decide) (by rw [hk.2.1]; simp) (fun g' hg' => by simp [Value.ownBlock] at hg'; subst hg'; exact ⟨h1, hr.lt⟩)⟩, t⟩
    | 6, ho, hfi =>
      have ho' : some _ = some o := ho
      cases ho'
      clear ho
      refine DoesG.toJoint ?_ (fun v' w' hφ' t' => hJ.keep t' (by decide) (by decide) _)
      have e1 := known_slot hk 1 (by kernel_rfl) (v := .int .i64 (k : Int)) rfl
      exact do_value (wanted_none rfl) (by rw [BigFrame.run_move (.tmp 1) rfl, e1]) rfl
    | 7, ho, hfi =>
      have ho' : some _ = some o := ho
      cases ho'
      clear ho
      have e25 := has_const (has_dep hd 6 (by kernel_rfl)) rfl rfl rfl (c := (.int .i64 (k : Int)))
      exact doJ_made (wanted_none rfl) (run_makeE (k := k) rfl e25 hk5) ((Touch.refl [] w).alloc _) ⟨endsNew_made k hk5 ht.size, hJ.made ((Touch.refl [] w).alloc _) (by decide) (by rw [hk.2.1]; simp) (fun g' hg' => by simp [Value.ownBlock] at hg'; subst hg'; exact ⟨Nat.le_refl _, by simp⟩)⟩
    | 8, ho, hfi =>
      have ho' : some _ = some o := ho
      cases ho'
      clear ho
      refine DoesG.toJoint ?_ (fun v' w' hφ' t' => hJ.keep t' (by decide) (by decide) _)
      obtain ⟨v21, e21, h21⟩ := has_pred (has_dep hd 2 (by kernel_rfl)) rfl rfl rfl (φ := RowNew w0 3 1 n (iv (fun _ => -1) n))
      obtain ⟨v24, e24, h24⟩ := has_pred (has_dep hd 5 (by kernel_rfl)) rfl rfl rfl (φ := RowNew w0 3 1 n (iv (fun _ => -1) n))
      obtain ⟨v26, e26, h26⟩ := has_pred (has_dep hd 7 (by kernel_rfl)) rfl rfl rfl (φ := RowNew w0 96 3 k (iv (fun _ => 0) (k * 3)))
      obtain ⟨g1, d1, rfl, r1, l1⟩ := h21
      obtain ⟨g2, d2, rfl, r2, l2⟩ := h24
      obtain ⟨g3, d3, rfl, r3, l3⟩ := h26
      have f2 := dep_f hf 2 (by kernel_rfl)
      have f5 := dep_f hf 5 (by kernel_rfl)
      have f7 := dep_f hf 7 (by kernel_rfl)
      exact do_value (wanted_none rfl) (v := .agg #[.slice (some ⟨g1, 0, none⟩) n d1, .slice (some ⟨g2, 0, none⟩) n d2, .slice (some ⟨g3, 0, none⟩) k d3]) (run_value rfl (by simp only [List.map_toArray, List.map_cons, List.map_nil, e21, e24, e26]; exact buildC _ _ _ _ _ _ _ _ w)) ⟨g1, d1, g2, d2, g3, d3, rfl, r1, r2, r3, l1, l2, l3, hJ.of (x := (2, 21)) (y := (5, 24)) (by decide) (by decide) (by decide) f2 f5 e21 e24, hJ.of (x := (2, 21)) (y := (7, 26)) (by decide) (by decide) (by decide) f2 f7 e21 e26, hJ.of (x := (5, 24)) (y := (7, 26)) (by decide) (by decide) (by decide) f5 f7 e24 e26⟩
    | 9, ho, hfi =>
      have ho' : some _ = some o := ho
      cases ho'
      clear ho
      refine DoesG.toJoint ?_ (fun v' w' hφ' t' => hJ.keep t' (by decide) (by decide) _)
      obtain ⟨v27, e27, h27⟩ := has_pred (has_dep hd 8 (by kernel_rfl)) rfl rfl rfl (φ := PartsC w0 n k (fun _ => -1) (fun _ => -1) (fun _ => 0))
      obtain ⟨g1, d1, g2, d2, g3, d3, rfl, r1, r2, r3, l1, l2, l3, n1, n2, n3⟩ := h27
      exact .inl ⟨wanted_none rfl, by rw [run_boxC (a := ac) (o := _) (s := 27) rfl e27]; exact ⟨chainNew_box r1 r2 r3 l1 l2 l3 n1 n2 n3 ht.size, (Touch.refl [] w).alloc _⟩⟩
    | 10, ho, hfi =>
      have ho' : some _ = some o := ho
      cases ho'
      clear ho
      refine DoesG.toJoint ?_ (fun v' w' hφ' t' => hJ.keep t' (by decide) (by decide) _)
      obtain ⟨v28, e28, h28⟩ := has_pred (has_dep hd 9 (by kernel_rfl)) rfl rfl rfl (φ := ChainNew w0 n k (fun _ => -1) (fun _ => -1) (fun _ => 0))
      exact do_value (wanted_none rfl) (by rw [BigFrame.run_assign (.tmp 28) rfl, e28]) h28
    | q + 11, ho, hfi => exact absurd ho (by simp)
  · intro x w9 f T9 hJ hf hkn
    obtain ⟨_, _, _, _, _, _, _, h2, _⟩ := hkn
    simp only [putL, Act.put, List.setIfInBounds_toArray, List.set_cons_succ, List.set_cons_zero]
    have H2 := Lib.hid h2
    have HT := Lib.hid T9
    clear hJ hf T9 h2
    go_wp2_with fail
    go_ret
    exact ⟨_, rfl, H2.out, HT.out⟩
end Go.Proofs.Ytalkpoeliekbfaa

/-
  Ranges over functions: what a round keeps; a sequence by its first elements.
-/
namespace Go.Proofs.Ytalkpoeliekbfaa
open Go.ChangeShapes Go.WideShapes Go.ChangeAt Go.RowKit Go.Deep Go.Maps Go.Shelf
set_option linter.unusedVariables false

def upto {α : Type} (f : Nat → α) (k : Nat) : List α := (List.range k).map f
theorem upto_succ {α : Type} (f : Nat → α) (k : Nat) : upto f (k + 1) = upto f k ++ [f k] := by simp [upto, List.range_succ]
theorem upto_length {α : Type} (f : Nat → α) (k : Nat) : (upto f k).length = k := by simp [upto]
/-- What a round keeps: blocks but those of S, if they lay ahead of B or are cells. -/
def KpR (S : List Nat) (B : Nat) (W W' : World) : Prop := W.heap.size ≤ W'.heap.size ∧ ∀ b o, W.heap[b]? = some o → b ∉ S → (b < B ∨ o.isCells = true) → W'.heap[b]? = some o
theorem KpR.trans {S : List Nat} {B : Nat} {X Y Z : World} (h : KpR S B X Y) (k : KpR S B Y Z) : KpR S B X Z := ⟨Nat.le_trans h.1 k.1, fun b o hb hS ho => k.2 b o (h.2 b o hb hS ho) hS ho⟩
theorem KpR.put {S : List Nat} {B : Nat} (W : World) (l : Nat) (o o' : Obj) (hl : B ≤ l) (ho : W.heap[l]? = some o) (hc : o.isCells = false) : KpR S B W (W.putObj l o') := by
  refine ⟨by simp, fun b q hb _ hq => ?_⟩
  by_cases e : b = l
  · subst e
    rw [ho] at hb
    cases hb
    rcases hq with h | h
    · omega
    · rw [hc] at h; cases h
  · rw [World.putObj_heap_other e]
    exact hb
theorem KpR.of_touch {S : List Nat} {B : Nat} {W W' : World} (t : Touch S W W') : KpR S B W W' := ⟨t.size, fun b o hb hS _ => (t.block b (Array.getElem?_eq_some_iff.1 hb).1 hS).trans hb⟩
theorem KpR.own {S : List Nat} {B : Nat} {W W' : World} {base n : Nat} {e : TypeId} {v : Value} {xs : List Value} (k : KpR S B W W') (hS : ∀ b ∈ S, b < base) (h : W.ownsRow base e 1 v n xs) : W'.ownsRow base e 1 v n xs := by
  refine own_of_block h fun g hg => ?_
  rcases h.2 with ⟨rfl, _⟩ | ⟨g', cap, cur, rfl, hb, hh, _⟩
  · simp [Value.ownBlock] at hg
  · simp [Value.ownBlock] at hg
    subst hg
    rw [hh]
    exact k.2 _ _ hh (fun hm => by have := hS _ hm; omega) (.inr rfl)
theorem mem_upto {α : Type} {f : Nat → α} {n : Nat} {a : α} : a ∈ upto f n ↔ ∃ j, j < n ∧ f j = a := by simp [upto]
theorem upto_congr {α : Type} {f g : Nat → α} {n : Nat} (h : ∀ i, i < n → f i = g i) : upto f n = upto g n := by
  unfold upto
  exact List.map_congr_left fun i hi => h i (List.mem_range.1 hi)
theorem upto_get {α : Type} {f g : Nat → α} {n m : Nat} (h : upto f n = upto g m) : n = m ∧ ∀ i, i < n → f i = g i := by
  have e := congrArg List.length h
  simp only [upto_length] at e
  subst e
  refine ⟨rfl, fun i hi => ?_⟩
  have := congrArg (fun l => l[i]?) h
  simpa [upto, hi] using this
theorem grown_touch {W W' : World} {row : Option Nat} (hg : W.grownBy W' row) : Touch row.toList W W' := (Touch.refl row.toList W).grown hg (fun k e => by subst e; simp)
end Go.Proofs.Ytalkpoeliekbfaa

/-
  Layer 7 (chain): All's function hands the nodes of a list on, to a range over it.
-/
namespace Go.Proofs.Ytalkpoeliekbfaa
open Go.ChangeShapes Go.WideShapes Go.ChangeAt Go.RowKit Go.Deep Go.Shelf
set_option linter.unusedVariables false
attribute [local go_sem] Oper.semAt_some
theorem chain_stops {w : World} {p l : Value} {B2 B3 : Nat} {n : Nat} {L : List (Fin n)} (hpl : (∃ q, p = .pointer q) ∧ ∃ z, l = .int .i64 z) (S : List Nat) (hl5 : L.length ≤ 5000) (hS : ∀ b ∈ S, b < w.heap.size) (l2 : B2 < w.heap.size) (l3 : B3 < w.heap.size) (h2 : w.cell? ⟨B2, 0, none⟩ = some p) (h3 : w.cell? ⟨B3, 0, none⟩ = some l)
    (D : ∀ w1, Below w.heap.size w w1 → Calls Try.prog 50 #[p, l] w1 (NodesPost w1 (L.map fun y => y.val))) (m : Nat) :
    SeqStopsK Fence.wide m Try.prog 49 #[.pointer (some ⟨B2, 0, none⟩), .pointer (some ⟨B3, 0, none⟩)] (fun y : Fin n => #[Value.int .i64 (y.val : Int)]) (KpR S w.heap.size) (fun ys => ys = L) (fun _ => True) L.length w := fun lp J Jx W hW hJ hJx hY h0 => by
  obtain ⟨⟨q, rfl⟩, z, rfl⟩ := hpl
  have h2' := (hW.cell (p := ⟨B2, 0, none⟩) l2).trans h2
  have h3' := (hW.cell (p := ⟨B3, 0, none⟩) l3).trans h3
  obtain ⟨M, hM⟩ : ∃ M, M = L.map (fun y => y.val) := ⟨_, rfl⟩
  have hML : M.length = L.length := by rw [hM]; simp
  have O := Lib.hid (D W hW)
  rw [← hM] at O
  have HM := Lib.hid hM
  clear hM
  unfold NodesPost at O
  have HW := Lib.hid hW
  clear hW h2 h3 D
  refine callsIn_of_wp Try.func49 rfl trivial ?_ rfl
  simp only [Try.ntmps49, List.size_toArray, List.length_cons, List.length_nil, Nat.reduceAdd, Nat.reduceSub, Array.replicate_succ, Array.replicate_zero, List.push_toArray, List.append_toArray, List.nil_append, List.cons_append]
  gi_wp2
  refine ⟨trivial, fun h => (by cases h), ?_⟩
  refine (callsIn_wide.2 O.out).mono ?_
  rintro e w2 ⟨v, rfl, ho, hb⟩
  rw [hML] at ho
  obtain ⟨A, cap, rfl⟩ := own_form ho
  have hJ0 : J [] w2 := hJ [] W w2 none h0 ⟨hb.os, hb.tape, hb.output, hb.size, fun i hi _ => hb.block i hi⟩ (by simp)
  have hSW : ∀ b ∈ S, b < W.heap.size := fun b hb => Nat.lt_of_lt_of_le (hS b hb) HW.out.size
  have hcap : L.length ≤ cap ∧ cap ≤ maxLen := by
    rcases ho.2 with ⟨h', _⟩ | ⟨g', cap', cur, h', h1, hh, h2, h3, h4, h5⟩
    · simp at h'
      omega
    · simp only [Value.slice.injEq, true_and] at h'
      omega
  unfold maxLen at hcap
  clear hb O h2' h3'
  gi_wp2
  gi_loopw [10] (fun i wr => ∃ k : Nat, k ≤ L.length ∧ i = .int .i64 k ∧ J (L.take k) wr ∧ wr.ownsRow W.heap.size 3 1 (.slice A L.length cap) L.length (nv M)) (fun i _ => L.length - (intOf i).toNat)
  case atStart => exact ⟨0, Nat.zero_le _, rfl, hJ0, ho⟩
  case round =>
    obtain ⟨k, hk, rfl, hJk, hown⟩ := hrel
    by_cases hlt : k < L.length
    · obtain ⟨gn, cap', hAn, _, _⟩ := hown.form (by omega)
      simp only [Value.slice.injEq, true_and] at hAn
      obtain ⟨rfl, rfl⟩ := hAn
      obtain ⟨x, hx⟩ : ∃ x, L[k]? = some x := ⟨L[k]'hlt, List.getElem?_eq_getElem _⟩
      obtain ⟨fn, tmps, assign, body, hy, hR⟩ := hY _ x wr hJk (by rw [List.length_take]; omega)
      have z0 := hown.cellAt k (by omega)
      have hx2 : M[k]? = some x.val := by rw [HM.out, List.getElem?_map, hx]; rfl
      rw [nv_get hx2] at z0
      have lgn := own_lt hown rfl
      have HO := Lib.hid hown
      have HX := Lib.hid hx
      clear hown hx hx2
      gi_wp2
      refine ⟨fun h => (by cases h), hR.mono ?_⟩
      rintro e W3 (⟨rfl, hJ3, hk3⟩ | ⟨rfl, hJx3⟩)
      · have e := List.take_add_one (l := L) (i := k)
        rw [HX.out] at e
        have HJ3 := Lib.hid (show J (L.take (k + 1)) W3 by rw [e]; exact hJ3)
        clear e hJ3
        gi_wp2
        go_roundw
        case rel => exact ⟨k + 1, by omega, by go_num, HJ3.out, hk3.own hSW HO.out⟩
        case measure => simp [intOf]; omega
      · gi_wp2
        refine bodyPost_ret (results_none rfl _ _ _) rfl ?_
        exact ⟨⟨_, rfl⟩, .inr ⟨_, trivial, hJx3⟩⟩
    · obtain rfl : k = L.length := by omega
      rw [List.take_length] at hJk
      gi_wp2
      go_end0
      exact ⟨⟨_, rfl⟩, .inl ⟨_, rfl, hJk⟩⟩
end Go.Proofs.Ytalkpoeliekbfaa

/-
  A region that draws its order, in a round of a range over a function: by the laws of a region outside of one.
-/
namespace Go.Proofs.Ytalkpoeliekbfaa
open Go.ChangeShapes Go.WideShapes Go.ChangeAt Go.RowKit Go.Deep
set_option linter.unusedVariables false

section
variable {P : Program} {ops : Array Oper} {Q : Exit → Act → World → Prop}
theorem rows_wide {row : String} {args : Array Value} {w : World} {R : Value → World → Prop} {n l : Nat} (h : Rows P row args w R) : RowsIn (Fence.wide.inRound l) n P row args w R := by
  intro c cs _
  obtain ⟨v, w', r, s⟩ := h c cs
  exact ⟨v, w', r, stepsIn_wide.2 s⟩
theorem upon_round {o : Oper} {a : Act} {next next' : Act → World → Prop} {r : Result Next} {l n : Nat} (hn : ∀ a w, next a w → next' a w) (h : o.upon P a next Q r) : o.uponIn (Fence.wide.inRound l) n P a next' Q r := by
  cases r with
  | ok x w' =>
    cases x with
    | value v => exact hn _ _ h
    | skip => exact hn _ _ h
    | defer d => exact hn _ _ h
    | enter f args =>
      refine ⟨fun hd => (by cases hd), ?_⟩
      refine (CallsIn.inRound l (callsIn_wide.2 h)).mono fun e w'' he => ?_
      cases e with
      | returned v => exact hn _ _ he
      | panicked c => exact he
      | outgrown => exact he
    | row row args => exact ⟨fun hd => (by cases hd), (rows_wide h).mono fun v w'' he => hn _ _ he⟩
    | _ => exact h.elim
  | halt x w' =>
    cases x with
    | panic v => exact h
    | _ => exact h.elim
theorem ops_round {l n : Nat} (hno : ¬ LetsOut Q) (hd : ∀ (i : Nat) (o : Oper), ops[i]? = some o → ∀ c, o.op ≠ .defer c) : ∀ (is : List Nat) (a : Act) (w : World), wpOps P ops Q is a w → wpOpsIn (Fence.wide.inRound l) n P ops Q is a w
  | [], _, _, h => h
  | i :: is, a, w, h => by
    simp only [wpOps, wpOpsIn] at *
    cases ho : ops[i]? with
    | none => rw [ho] at h; exact ops_round hno hd is a w h
    | some o =>
      simp only [ho] at h ⊢
      by_cases hw : Region.wanted o (yielded ops a.tmps) = true
      · rw [if_pos hw] at h ⊢
        rcases h with h | ⟨_, h⟩
        · refine ⟨fun _ _ => trivial, ?_⟩
          rw [show (Fence.wide.inRound l).round = some l from rfl, Oper.semAt_some l a.eval o (hd i o ho)]
          exact upon_round (ops_round hno hd is) h
        · exact absurd h hno
      · rw [if_neg hw] at h ⊢
        exact ⟨fun _ _ => trivial, ops_round hno hd is _ w h⟩
/-- In a round a region that draws goes by the orders' own law. -/
theorem region_round {id : Nat} {a : Act} {w : World} {l n : Nat} (hm : P.follows .mixedOrders = true) (hno : ¬ LetsOut Q) (hd : (ops.all fun o => match o.op with | .defer _ => false | _ => true) = true)
    (h : wpAny P .any ops Q ops.size (Array.replicate ops.size false) a w.drew) : (Code.region id ops true).wpIn (Fence.wide.inRound l) n P Q a w :=
  wpIn_region_draw fun t => by
    simp only [Region.schedule, hm, Bool.true_or, if_true]
    refine ops_round hno (fun i o ho c e => ?_) _ _ _ (wpAny_sound ops.size t _ a _ h)
    have := Array.all_eq_true_iff_forall_mem.1 hd o (Array.mem_of_getElem? ho)
    simp [e] at this
end

/-- wp_region_tail's walk, as what the orders' own law asks. -/
theorem tail_start {P : Program} {Q : Exit → Act → World → Prop} {a : Act} {w wd : World} {l : List Oper} (n : Nat) (hB : Region.lexTailB .any l.toArray n = true) (hC : Touch [] wd w)
    (h : wpQuiet P l.toArray (fun w' => ∃ x : Cls wd, w' = x.val) (fun a' => ∀ x : Cls wd, wpList P l.toArray Q (l.drop n) a' x.val) (l.take n) a) : wpAny P .any l.toArray Q l.toArray.size (Array.replicate l.toArray.size false) a w := by
  simp only [Region.lexTailB, Bool.and_eq_true, decide_eq_true_eq] at hB
  obtain ⟨⟨⟨⟨hsel, hn⟩, hs⟩, hc⟩, hlex⟩ := hB
  have hn' : n < l.length := by simpa using hn
  have htl : (l.take n).length = n := by simp; omega
  have hdl : (l.drop n).length = l.toArray.size - n := by simp
  have inv0 : HeadInv .any l.toArray n (Array.replicate l.toArray.size false) := by
    constructor
    · simp
    · intro j oj _ hl
      rw [getD_replicate_false] at hl
      cases hl
    · intro t _ ht
      exact getD_in (by simpa using ht) (getD_replicate_false _ _)
  have H := Heads.text (g := l.toArray.size - n) hsel hs hc hn (l.take n) 0 _ a (fun j hj => by rw [htl] at hj; simp [hj]) (by omega) inv0 (by rw [htl]; exact hlex) h
  have := Heads.any (Q := Q) (g := l.toArray.size - n) (fun s a' w' ⟨x, hx⟩ hL => by
    subst hx
    have := wpAny_of_seq (md := .any) (Q' := Q) (l.drop n) n s a' x.val (fun j => by simp [List.getElem?_drop]) (by rw [hdl]; exact hL.1) (hL.2 x)
    rwa [hdl] at this) _ _ _ _ ⟨⟨_, hC⟩, rfl⟩ H
  rw [htl, show n + (l.toArray.size - n) = l.toArray.size by omega] at this
  exact this
end Go.Proofs.Ytalkpoeliekbfaa

/-
  Layer 7 (chain): Join.
-/
namespace Go.Proofs.Ytalkpoeliekbfaa
open Go.ChangeShapes Go.WideShapes Go.ChangeAt Go.RowKit Go.Deep Go.Shelf
set_option linter.unusedVariables false
set_option linter.unusedSimpArgs false
attribute [local go_sem] Oper.semAt_some

section
variable {P : Program} {ops : Array Oper} {Q : Exit → Act → World → Prop}
theorem rows_wide0 {row : String} {args : Array Value} {w : World} {R : Value → World → Prop} {n : Nat} (h : Rows P row args w R) : RowsIn Fence.wide n P row args w R := by
  intro c cs _
  obtain ⟨v, w', r, s⟩ := h c cs
  exact ⟨v, w', r, stepsIn_wide.2 s⟩
theorem upon_wide0 {o : Oper} {a : Act} {next next' : Act → World → Prop} {r : Result Next} {n : Nat} (hn : ∀ a w, next a w → next' a w) (h : o.upon P a next Q r) : o.uponIn Fence.wide n P a next' Q r := by
  cases r with
  | ok x w' =>
    cases x with
    | value v => exact hn _ _ h
    | skip => exact hn _ _ h
    | defer d => exact hn _ _ h
    | enter f args =>
      refine ⟨fun hd => (by cases hd), ?_⟩
      refine (callsIn_wide.2 h).mono fun e w'' he => ?_
      cases e with
      | returned v => exact hn _ _ he
      | panicked c => exact he
      | outgrown => exact he
    | row row args => exact ⟨fun hd => (by cases hd), (rows_wide0 h).mono fun v w'' he => hn _ _ he⟩
    | _ => exact h.elim
  | halt x w' =>
    cases x with
    | panic v => exact h
    | _ => exact h.elim
theorem ops_wide0 {n : Nat} (hno : ¬ LetsOut Q) : ∀ (is : List Nat) (a : Act) (w : World), wpOps P ops Q is a w → wpOpsIn Fence.wide n P ops Q is a w
  | [], _, _, h => h
  | i :: is, a, w, h => by
    simp only [wpOps, wpOpsIn] at *
    cases ho : ops[i]? with
    | none => rw [ho] at h; exact ops_wide0 hno is a w h
    | some o =>
      simp only [ho] at h ⊢
      by_cases hw : Region.wanted o (yielded ops a.tmps) = true
      · rw [if_pos hw] at h ⊢
        rcases h with h | ⟨_, h⟩
        · refine ⟨fun _ _ => trivial, ?_⟩
          rw [show Fence.wide.round = none from rfl, Oper.semAt_none]
          exact upon_wide0 (ops_wide0 hno is) h
        · exact absurd h hno
      · rw [if_neg hw] at h ⊢
        exact ⟨fun _ _ => trivial, ops_wide0 hno is _ w h⟩
theorem region_wide {id : Nat} {a : Act} {w : World} {n : Nat} (hm : P.follows .mixedOrders = true) (hno : ¬ LetsOut Q) (h : wpAny P .any ops Q ops.size (Array.replicate ops.size false) a w.drew) : (Code.region id ops true).wpIn Fence.wide n P Q a w :=
  wpIn_region_draw fun t => by
    simp only [Region.schedule, hm, Bool.true_or, if_true]
    exact ops_wide0 hno _ _ _ (wpAny_sound ops.size t _ a _ h)
end
end Go.Proofs.Ytalkpoeliekbfaa

/-
  Layer 7 (chain): Join of a list that is not empty.
-/
namespace Go.Proofs.Ytalkpoeliekbfaa
open Go.ChangeShapes Go.WideShapes Go.ChangeAt Go.RowKit Go.Deep Go.Shelf
set_option linter.unusedVariables false
set_option linter.unusedSimpArgs false
attribute [local go_sem] Oper.semAt_some

def setAll (V : Nat → Int) (L : List Nat) (a : Nat) : Nat → Int := fun i => if i ∈ L then (a : Int) else V i
theorem setAll_snoc (V : Nat → Int) (L : List Nat) (a x : Nat) : setAll V (L ++ [x]) a = upd (setAll V L a) x a := by
  funext i
  unfold setAll upd
  by_cases h : i = x
  · simp [h]
  · simp [h]
def ints {n : Nat} (pre : List (Fin n)) : List Nat := pre.map fun y => y.val
theorem ints_snoc {n : Nat} (pre : List (Fin n)) (y : Fin n) : ints (pre ++ [y]) = ints pre ++ [y.val] := by simp [ints]
theorem setAll_nil (V : Nat → Int) (a : Nat) : setAll V [] a = V := by funext i; simp [setAll]
def JoinI (w : World) (b3 b4 p gn gw gl n cn cw k cl : Nat) (N V E : Nat → Int) (a : Nat) (pre : List (Fin n)) (W : World) : Prop :=
  ChainAt W p gn gw gl n cn cw k cl N (setAll V (ints pre) a) E ∧ Box1 W b3 23 (.pointer (some ⟨p, 0, none⟩)) ∧ Box1 W b4 3 (.int .i64 (a : Int)) ∧ Touch [gw] w W
theorem joinI_own {w : World} {b3 b4 p gn gw gl n cn cw k cl : Nat} {N V E : Nat → Int} {a B : Nat} (hp : p < B ∧ gn < B ∧ gw < B ∧ gl < B) (h3 : b3 < B) (h4 : b4 < B) (hw : w.heap.size ≤ B) : OwnFrom B (JoinI w b3 b4 p gn gw gl n cn cw k cl N V E a) := by
  rintro pre W W' row ⟨hc, h3c, h4c, ht⟩ hg hrow
  have t := grown_touch hg
  have hn : ∀ b, b < B → b ∉ row.toList := fun b hb hm => by
    have := (hrow b (by simpa using hm)).1
    omega
  refine ⟨hc.carry t (fun b hb => ?_), h3c.carry t (hn _ h3), h4c.carry t (hn _ h4), ht.trans t (fun b hb => by have := (hrow b (by simpa using hb)).1; right; omega)⟩
  simp only [List.mem_cons, List.not_mem_nil, or_false] at hb
  rcases hb with rfl | rfl | rfl | rfl
  · exact hn _ hp.1
  · exact hn _ hp.2.1
  · exact hn _ hp.2.2.1
  · exact hn _ hp.2.2.2
set_option maxRecDepth 100000 in
set_option maxHeartbeats 2000000 in
theorem join_of {w : World} {p gn gw gl n cn cw k cl : Nat} {N V E : Nat → Int} (h : ChainAt w p gn gw gl n cn cw k cl N V E) (a c : Nat) (ha : a < k) (hc : c < k) (hac : a ≠ c) (L : List Nat) (hL : ListAt n N E c L) (hne : L ≠ []) (hl5 : L.length ≤ 5000) (R : (Nat → Int) → (Nat → Int) → Prop)
    (D : ∀ W, ChainAt W p gn gw gl n cn cw k cl N (setAll V L a) E → Calls Try.prog 45 #[.pointer (some ⟨p, 0, none⟩), .int .i64 (a : Int), .agg #[.int .i64 (E (c * 3)), .int .i64 (E (c * 3 + 1)), .int .i64 (E (c * 3 + 2))]] W fun e W' => e = .returned (.tuple #[]) ∧
      (∃ N' E', R N' E' ∧ ChainAt W' p gn gw gl n cn cw k cl N' (setAll V L a) E') ∧ Touch [gn, gl] W W') :
    Calls Try.prog 15 #[.pointer (some ⟨p, 0, none⟩), .int .i64 (a : Int), .int .i64 (c : Int)] w fun e w' => e = .returned (.bool true) ∧
      ∃ N' E', R N' E' ∧ ChainAt w' p gn gw gl n cn cw k cl N' (setAll V L a) (upd (upd (upd E' (c * 3) 0) (c * 3 + 1) 0) (c * 3 + 2) 0) ∧ Touch [gn, gw, gl] w w' := by
  have t1 : Touch [] w ((w.alloc (.cells #[.pointer (some ⟨p, 0, none⟩)] 23)).alloc (.cells #[.int .i64 (a : Int)] 3)) := ((Touch.refl [] w).alloc _).alloc _
  have hB3 := (Box1.new w 23 (.pointer (some ⟨p, 0, none⟩))).carry ((Touch.refl [] _).alloc (.cells #[.int .i64 (a : Int)] 3)) (by simp)
  have hB4 := Box1.new (w.alloc (.cells #[.pointer (some ⟨p, 0, none⟩)] 23)) 3 (.int .i64 (a : Int))
  rw [show (w.alloc (.cells #[.pointer (some ⟨p, 0, none⟩)] 23)).heap.size = w.heap.size + 1 by simp] at hB4
  have h1 := h.new t1
  have D1 := hasList_any h1 a
  rw [inR_yes ⟨by omega, by omega⟩] at D1
  have D2 := hasList_any h1 c
  rw [inR_yes ⟨by omega, by omega⟩] at D2
  have D3 := len_any h1 c
  rw [lenV_list hL hc] at D3
  have H1 := Lib.hid D1
  have H2 := Lib.hid D2
  have H3 := Lib.hid D3
  have HB3 := Lib.hid hB3
  have HB4 := Lib.hid hB4
  have HC1 := Lib.hid h1
  have T1 := Lib.hid t1
  have HL := Lib.hid hL
  have hpos : 0 < L.length := List.length_pos_iff.2 hne
  have bac : ((a : Int) == (c : Int)) = false := by simp; omega
  have bl : ((L.length : Int) == 0) = false := by simp; omega
  have L0 := Lib.hid h.lts
  clear h hL hB3 hB4 t1 h1 D1 D2 D3 hne
  refine (callsIn_wide (n := 6)).1 ?_
  refine callsIn_of_wp_marks Try.func15 rfl trivial ?_ rfl
  simp only [Try.ntmps15, List.size_toArray, List.length_cons, List.length_nil, Nat.reduceAdd, Nat.reduceSub, Array.replicate_succ, Array.replicate_zero, List.push_toArray, List.append_toArray, List.nil_append, List.cons_append]
  gi_wp2
  refine ⟨trivial, ?_⟩
  refine (callsIn_wide.2 H1.out).mono ?_
  rintro e w1 ⟨rfl, hw⟩
  rw [hw]
  clear hw w1
  gi_wp2
  refine ⟨trivial, ?_⟩
  refine (callsIn_wide.2 H2.out).mono ?_
  rintro e w1 ⟨rfl, hw⟩
  rw [hw]
  clear hw w1
  gi_wp2
  refine ⟨trivial, ?_⟩
  refine (callsIn_wide.2 H3.out).mono ?_
  rintro e w1 ⟨rfl, hw⟩
  rw [hw]
  clear hw w1
  gi_wp2
  refine ⟨trivial, ?_⟩
  generalize hw1 : (w.alloc (.cells #[.pointer (some ⟨p, 0, none⟩)] 23)).alloc (.cells #[.int .i64 (a : Int)] 3) = w1 at *
  refine (callsIn_wide.2 (all_fn (some ⟨p, 0, none⟩) c w1)).mono ?_
  rintro e w2 ⟨rfl, hw2⟩
  gi_wp2
  have t2 : Touch [] w1 w2 := by rw [hw2]; exact ((Touch.refl [] w1).alloc _).alloc _
  have s2 : w2.heap.size = w1.heap.size + 2 := by rw [hw2]; simp
  have cA : w2.cell? ⟨w1.heap.size, 0, none⟩ = some (.pointer (some ⟨p, 0, none⟩)) := by
    rw [hw2]
    exact (((Box1.new w1 23 (.pointer (some ⟨p, 0, none⟩))).carry ((Touch.refl [] _).alloc (.cells #[.int .i64 (c : Int)] 3)) (by simp)).c0)
  have cB : w2.cell? ⟨w1.heap.size + 1, 0, none⟩ = some (.int .i64 (c : Int)) := by
    rw [hw2]
    have := (Box1.new (w1.alloc (.cells #[.pointer (some ⟨p, 0, none⟩)] 23)) 3 (.int .i64 (c : Int))).c0
    rw [show (w1.alloc (.cells #[.pointer (some ⟨p, 0, none⟩)] 23)).heap.size = w1.heap.size + 1 by simp] at this
    exact this
  rw [← hw2]
  have C2 := HC1.out.new t2
  have B3 := HB3.out.carry t2 (by simp)
  have B4 := HB4.out.carry t2 (by simp)
  have T2 := T1.out.trans t2 (by simp)
  have lts := C2.lts
  have s1 := HB4.out.lt
  have hLn := HL.out.lt
  obtain ⟨LF, hLF⟩ : ∃ LF : List (Fin n), ints LF = L := ⟨L.pmap (fun x h => ⟨x, h⟩) hLn, by simp [ints, List.map_pmap]⟩
  have hLl : LF.length = L.length := by rw [← hLF]; simp [ints]
  have hgn := own_cap C2.next
  unfold maxLen at hgn
  have DN : ∀ W, Below w2.heap.size w2 W → Calls Try.prog 50 #[.pointer (some ⟨p, 0, none⟩), .int .i64 (c : Int)] W (NodesPost W (LF.map fun y => y.val)) := fun W hW => by
    rw [show (LF.map fun y => y.val) = L from hLF]
    exact nodes_any (C2.new (Touch.ofBelow hW)) c hc L HL.out hl5
  have HLF := Lib.hid hLF
  clear hw2 hLn hLF t2 HC1 HB3 HB4 T1 HL H1 H2 H3 hw1
  refine wpIn_rangeFunc_ownG rfl (by omega) (gf := 49) (lb := #[.pointer (some ⟨w1.heap.size, 0, none⟩), .pointer (some ⟨w1.heap.size + 1, 0, none⟩)]) rfl trivial (enters_of Try.func49 (by kernel_rfl) rfl)
    (chain_stops (L := LF) ⟨⟨_, rfl⟩, _, rfl⟩ [gw] (by omega) (by simp; omega) (by omega) (by omega) cA cB DN _) KpR.trans (fun W l o o' hl ho hc _ => KpR.put W l o o' hl ho hc) (Below.refl _ _) (fun _ => rfl)
    (JoinI w w.heap.size (w.heap.size + 1) p gn gw gl n cn cw k cl N V E a) (fun _ _ _ => False)
    (joinI_own lts (by omega) (by omega) (by omega)) (fun _ _ _ _ _ hs _ _ => hs)
    ⟨by rw [show ints ([] : List (Fin n)) = [] from rfl, setAll_nil]; exact C2, B3, B4, T2.mono (by simp)⟩
    (fun y => { tmps := #[.pointer (some ⟨p, 0, none⟩), .int .i64 (a : Int), .int .i64 (c : Int), .pointer (some ⟨w.heap.size, 0, none⟩), .pointer (some ⟨w.heap.size + 1, 0, none⟩), undef, .bool false, .int .i64 (y.val : Int), .pointer (some ⟨p, 0, none⟩), .int .i64 (a : Int), .bool true, .bool false, .bool false, .pointer (some ⟨p, 0, none⟩), .int .i64 (c : Int), .bool true, .bool false, .bool false, .bool false, .int .i64 (a : Int), .int .i64 (c : Int), .bool false, .bool false, .pointer (some ⟨p, 0, none⟩), .int .i64 (c : Int), .int .i64 (L.length : Int), .bool false, .pointer (some ⟨p, 0, none⟩), .int .i64 (c : Int), .func (.func 49) #[] #[.pointer (some ⟨w1.heap.size, 0, none⟩), .pointer (some ⟨w1.heap.size + 1, 0, none⟩)], .int .i64 (y.val : Int), undef, undef, undef, undef, undef, undef, undef, undef, undef, undef, undef, undef, undef, undef, undef, undef, undef, undef, undef, undef, undef, undef, undef, undef], defers := [] }) ?assign ?body ?done ?stop
  case assign =>
    intro l y W K hK
    gi_wp2
    exact hK
  case body =>
    rintro l pre y W ⟨hc2, hb3, hb4, ht⟩ hlt
    have hk := own_cap hc2.wher
    unfold maxLen at hk
    have C3 := Lib.hid hc2
    have HT := Lib.hid ht
    have X3 := Lib.hid hb3
    have X4 := Lib.hid hb4
    have hy := y.isLt
    have L0' := L0.out
    have HS := Lib.hid (ints_snoc pre y)
    generalize y.val = v at *
    have hv : (v : Int) < (n : Int) := by omega
    clear hc2 ht hb3 hb4
    have k0 : ∀ x : Cls W, x.val.cell? ⟨w.heap.size, 0, none⟩ = some (.pointer (some ⟨p, 0, none⟩)) := fun x => (X3.out.carry x.property (by simp)).c0
    have k1 : ∀ x : Cls W, x.val.cell? ⟨w.heap.size + 1, 0, none⟩ = some (.int .i64 (a : Int)) := fun x => (X4.out.carry x.property (by simp)).c0
    have k2 : ∀ x : Cls W, x.val.cell? ⟨p, 1, none⟩ = some (.slice (some ⟨gw, 0, none⟩) n cw) := fun x => (C3.out.carry x.property (by simp)).c1
    gi_wp2
    refine region_round (by kernel_rfl) (fun ⟨_, _, h⟩ => h) (by kernel_rfl) ?_
    refine tail_start (wd := W) 7 (by kernel_rfl) ((Touch.refl _ _).drew) ?_
    simp only [List.take_succ_cons, List.take_zero, List.drop_succ_cons, List.drop_zero]
    repeat (first | go_big_quiet_step (fail) | quiet_step (fail))
    refine wpQuiet_nil ?_
    intro z
    have Z3 := C3.out.carry z.property (by simp)
    have z0 := Z3.cV hy
    have z1 := Z3.wher.frozenAt v
    have z2 := Z3.lts
    have X3z := X3.out.carry z.property (by simp)
    have X4z := X4.out.carry z.property (by simp)
    have HTz := HT.out.trans z.property (by simp)
    have u5 : Touch [gw] z.val (z.val.setCell ⟨gw, v, none⟩ (.int .i64 (a : Int))) := (Touch.refl _ _).setCell (a := ⟨gw, v, none⟩) (by simp) _
    have HI := Lib.hid (show JoinI w w.heap.size (w.heap.size + 1) p gn gw gl n cn cw k cl N V E a (pre ++ [y]) (z.val.setCell ⟨gw, v, none⟩ (.int .i64 (a : Int))) from ⟨by rw [HS.out, setAll_snoc]; exact Z3.setV v a, X3z.carry u5 (by simp; omega), X4z.carry u5 (by simp; omega), HTz.trans u5 (by simp)⟩)
    have HU := Lib.hid ((z.property.mono (S' := [gw]) (by simp)).trans u5 (by simp))
    clear Z3 X3z X4z HTz u5 k0 k1 k2
    go_wp2_with fail
    gi_wp2
    exact ⟨⟨HU.out.size, fun k o hk ho _ => (HU.out.block k (Array.getElem?_eq_some_iff.1 ho).1 (fun hm => by simp at hm; omega)).trans ho⟩, KpR.of_touch HU.out, HI.out⟩
  case done =>
    rintro B ys W hB rfl ⟨hc2, hb3, hb4, ht⟩ hK
    rw [HLF.out] at hc2
    have hk := own_cap hc2.ends
    unfold maxLen at hk
    have L0' := L0.out
    have ha' : (c : Int) < (k : Int) := by omega
    have C3 := Lib.hid hc2
    have HT := Lib.hid ht
    have X3 := Lib.hid hb3
    have X4 := Lib.hid hb4
    have HK := Lib.hid hK
    clear hc2 ht hb3 hb4
    have k0 : ∀ x : Cls W, x.val.cell? ⟨w.heap.size, 0, none⟩ = some (.pointer (some ⟨p, 0, none⟩)) := fun x => (X3.out.carry x.property (by simp)).c0
    have k1 : ∀ x : Cls W, x.val.cell? ⟨w.heap.size + 1, 0, none⟩ = some (.int .i64 (a : Int)) := fun x => (X4.out.carry x.property (by simp)).c0
    have k2 : ∀ x : Cls W, x.val.cell? ⟨p, 2, none⟩ = some (.slice (some ⟨gl, 0, none⟩) k cl) := fun x => (C3.out.carry x.property (by simp)).c2
    have k3 : ∀ x : Cls W, x.val.cell? ⟨gl, c * 3, none⟩ = some (.int .i64 (E (c * 3))) := fun x => (C3.out.carry x.property (by simp)).cE (by omega)
    have k4 : ∀ x : Cls W, x.val.cell? ⟨gl, c * 3 + 1, none⟩ = some (.int .i64 (E (c * 3 + 1))) := fun x => (C3.out.carry x.property (by simp)).cE (by omega)
    have k5 : ∀ x : Cls W, x.val.cell? ⟨gl, c * 3 + 2, none⟩ = some (.int .i64 (E (c * 3 + 2))) := fun x => (C3.out.carry x.property (by simp)).cE (by omega)
    gi_wp2
    refine region_wide (by kernel_rfl) (fun ⟨_, _, h⟩ => by obtain ⟨e, _⟩ := h; cases e) ?_
    refine tail_start (wd := W) 9 (by kernel_rfl) ((Touch.refl _ _).drew) ?_
    simp only [List.take_succ_cons, List.take_zero, List.drop_succ_cons, List.drop_zero]
    repeat (first | go_big_quiet_step (fail) | quiet_step (fail))
    refine wpQuiet_nil ?_
    intro z
    have Z3 := C3.out.carry z.property (by simp)
    have DA := Lib.hid (D z.val Z3)
    clear k0 k1 k2 k3 k4 k5 Z3
    go_wp2_with fail
    refine (DA.out).mono ?_
    rintro e W5 ⟨rfl, ⟨N', E', hR, h5⟩, t5⟩
    have L5 := h5.lts
    have hk5 := own_cap h5.ends
    unfold maxLen at hk5
    have hW : Touch [gn, gl] W W5 := (z.property.mono (S' := [gn, gl]) (by simp)).trans t5 (by simp)
    have x3 := (X3.out.carry hW (by simp; omega)).c0
    have d2 := h5.c2
    have e0 := h5.cE (i := c * 3) (by omega)
    have e1 := h5.cE (i := c * 3 + 1) (by omega)
    have e2 := h5.cE (i := c * 3 + 2) (by omega)
    have f0 := h5.ends.frozenAt (c * 3)
    have f1 := h5.ends.frozenAt (c * 3 + 1)
    have f2 := h5.ends.frozenAt (c * 3 + 2)
    have H5 := Lib.hid h5
    have HR := Lib.hid hR
    have HW := Lib.hid hW
    have HE := Lib.hid (((h5.setE (c * 3) 0).setE (c * 3 + 1) 0).setE (c * 3 + 2) 0)
    have HF := Lib.hid ((((Touch.refl [gl] W5).setCell (a := ⟨gl, c * 3, none⟩) (.inl (by simp)) (.int .i64 0)).setCell (a := ⟨gl, c * 3 + 1, none⟩) (.inl (by simp)) (.int .i64 0)).setCell (a := ⟨gl, c * 3 + 2, none⟩) (.inl (by simp)) (.int .i64 0))
    clear h5 hR hW t5 DA
    go_wp2_with fail
    gi_wp2
    generalize ((W5.setCell ⟨gl, c * 3, none⟩ (.int .i64 0)).setCell ⟨gl, c * 3 + 1, none⟩ (.int .i64 0)).setCell ⟨gl, c * 3 + 2, none⟩ (.int .i64 0) = WF at *
    have hBlt : B < W.heap.size := (Array.getElem?_eq_some_iff.1 HK.out).1
    have hWF : Touch [gn, gl] W WF := HW.out.trans HF.out (by simp)
    have hK5 := (hWF.block B hBlt (by simp; omega)).trans HK.out
    have tp := grown_touch (grownBy_putObj' WF B (.deferred none))
    have hTT : Touch [gn, gw, gl] w WF := (HT.out.mono (S' := [gn, gw, gl]) (by simp)).trans hWF (by simp)
    refine ⟨by simp, .inl ⟨_, _, rfl, run_takeDeferred hK5, ?_⟩⟩
    exact ⟨_, results_tmp rfl _ _ _, rfl, N', E', HR.out, HE.out.carry tp (by simp; omega), hTT.trans tp (fun b hb => by simp at hb; right; omega)⟩
  case stop =>
    rintro D c pre W _ _ h _
    exact h.elim
end Go.Proofs.Ytalkpoeliekbfaa

/-
  Layer 7 (chain): Join, where nothing moves; Join of a list that is not empty, by what attach makes of it.
-/
namespace Go.Proofs.Ytalkpoeliekbfaa
open Go.ChangeShapes Go.WideShapes Go.ChangeAt Go.RowKit Go.Deep
set_option linter.unusedVariables false
set_option linter.unusedSimpArgs false
section
variable {w : World} {p gn gw gl n cn cw k cl : Nat} {N V E : Nat → Int}
theorem join_nil (a c : Int) (w : World) : Calls Try.prog 15 #[.pointer none, .int .i64 a, .int .i64 c] w fun e w' => e = .returned (.bool false) ∧ Touch [] w w' := by
  have t1 : Touch [] w ((w.alloc (.cells #[.pointer none] 23)).alloc (.cells #[.int .i64 a] 3)) := ((Touch.refl [] w).alloc _).alloc _
  have HB3 := Lib.hid ((Box1.new w 23 (.pointer none)).carry ((Touch.refl [] _).alloc (.cells #[.int .i64 a] 3)) (by simp))
  have hB4 := Box1.new (w.alloc (.cells #[.pointer none] 23)) 3 (.int .i64 a)
  rw [show (w.alloc (.cells #[.pointer none] 23)).heap.size = w.heap.size + 1 by simp] at hB4
  have HB4 := Lib.hid hB4
  have H1 := Lib.hid (hasList_nil a ((w.alloc (.cells #[.pointer none] 23)).alloc (.cells #[.int .i64 a] 3)))
  clear hB4
  have T1 := Lib.hid t1
  clear t1
  go_enter Try.func15, Try.ntmps15
  go_wp2_with fail
  refine (H1.out).mono ?_
  rintro e w1 ⟨rfl, hw⟩
  rw [hw]
  go_wp2_with fail
  go_ret
  exact ⟨rfl, T1.out⟩
theorem join_stay (h : ChainAt w p gn gw gl n cn cw k cl N V E) (a c : Int) (r : Bool)
    (hr : (inR a k = false ∧ r = false) ∨ (inR a k = true ∧ inR c k = false ∧ r = false) ∨ (inR a k = true ∧ inR c k = true ∧ (a == c) = true ∧ r = false) ∨ (inR a k = true ∧ inR c k = true ∧ (a == c) = false ∧ lenV k E c = 0 ∧ r = true)) :
    Calls Try.prog 15 #[.pointer (some ⟨p, 0, none⟩), .int .i64 a, .int .i64 c] w fun e w' => e = .returned (.bool r) ∧ Touch [] w w' := by
  have t1 : Touch [] w ((w.alloc (.cells #[.pointer (some ⟨p, 0, none⟩)] 23)).alloc (.cells #[.int .i64 a] 3)) := ((Touch.refl [] w).alloc _).alloc _
  have HB3 := Lib.hid ((Box1.new w 23 (.pointer (some ⟨p, 0, none⟩))).carry ((Touch.refl [] _).alloc (.cells #[.int .i64 a] 3)) (by simp))
  have hB4 := Box1.new (w.alloc (.cells #[.pointer (some ⟨p, 0, none⟩)] 23)) 3 (.int .i64 a)
  rw [show (w.alloc (.cells #[.pointer (some ⟨p, 0, none⟩)] 23)).heap.size = w.heap.size + 1 by simp] at hB4
  have h1 := h.new t1
  have D1 := hasList_any h1 a
  have D2 := hasList_any h1 c
  have D3 := len_any h1 c
  have HB4 := Lib.hid hB4
  have T1 := Lib.hid t1
  clear h h1 hB4 t1
  rcases hr with ⟨e1, rfl⟩ | ⟨e1, e2, rfl⟩ | ⟨e1, e2, e3, rfl⟩ | ⟨e1, e2, e3, e4, rfl⟩
  · rw [e1] at D1
    have H1 := Lib.hid D1
    clear D1 D2 D3
    go_enter Try.func15, Try.ntmps15
    go_wp2_with fail
    refine (H1.out).mono ?_
    rintro e w1 ⟨rfl, hw⟩
    rw [hw]
    go_wp2_with fail
    go_ret
    exact ⟨rfl, T1.out⟩
  · rw [e1] at D1
    rw [e2] at D2
    have H1 := Lib.hid D1
    have H2 := Lib.hid D2
    clear D1 D2 D3
    go_enter Try.func15, Try.ntmps15
    go_wp2_with fail
    refine (H1.out).mono ?_
    rintro e w1 ⟨rfl, hw⟩
    rw [hw]
    clear hw w1
    go_wp2_with fail
    refine (H2.out).mono ?_
    rintro e w1 ⟨rfl, hw⟩
    rw [hw]
    go_wp2_with fail
    go_ret
    exact ⟨rfl, T1.out⟩
  · rw [e1] at D1
    rw [e2] at D2
    have H1 := Lib.hid D1
    have H2 := Lib.hid D2
    clear D1 D2 D3
    go_enter Try.func15, Try.ntmps15
    go_wp2_with fail
    refine (H1.out).mono ?_
    rintro e w1 ⟨rfl, hw⟩
    rw [hw]
    clear hw w1
    go_wp2_with fail
    refine (H2.out).mono ?_
    rintro e w1 ⟨rfl, hw⟩
    rw [hw]
    go_wp2_with fail
    go_ret
    exact ⟨rfl, T1.out⟩
  · rw [e1] at D1
    rw [e2] at D2
    rw [e4] at D3
    have H1 := Lib.hid D1
    have H2 := Lib.hid D2
    have H3 := Lib.hid D3
    clear D1 D2 D3
    go_enter Try.func15, Try.ntmps15
    go_wp2_with fail
    refine (H1.out).mono ?_
    rintro e w1 ⟨rfl, hw⟩
    rw [hw]
    clear hw w1
    go_wp2_with fail
    refine (H2.out).mono ?_
    rintro e w1 ⟨rfl, hw⟩
    rw [hw]
    clear hw w1
    go_wp2_with fail
    refine (H3.out).mono ?_
    rintro e w1 ⟨rfl, hw⟩
    rw [hw]
    go_wp2_with fail
    go_ret
    exact ⟨rfl, T1.out⟩
end
end Go.Proofs.Ytalkpoeliekbfaa

/-
  Layer 7 (chain): what push, pop and join make of the lists (mathematics only).
-/
namespace Go.Proofs.Ytalkpoeliekbfaa
set_option linter.unusedVariables false
set_option linter.unusedSimpArgs false
theorem upd_at (f : Nat → Int) (i : Nat) (x : Int) : upd f i x i = x := by simp [upd]
theorem upd_ne {f : Nat → Int} {i j : Nat} {x : Int} (h : j ≠ i) : upd f i x j = f j := by simp [upd, h]
theorem linked_upd {N : Nat → Int} {z : Nat} {y : Int} : ∀ {L : List Nat}, z ∉ L → Linked N L → Linked (upd N z y) L
  | [], _, _ => trivial
  | x :: l, hz, ⟨h1, h2⟩ => by
    simp only [List.mem_cons, not_or] at hz
    exact ⟨(upd_ne (Ne.symm hz.1)).trans h1, linked_upd hz.2 h2⟩
theorem linked_join {N : Nat → Int} {z : Nat} {M : List Nat} : ∀ {L : List Nat}, z ∉ L → z ∉ M → Linked N (L ++ [z]) → Linked N M → Linked (upd N z (headI M)) (L ++ z :: M)
  | [], _, hM, _, h => ⟨upd_at _ _ _, linked_upd hM h⟩
  | x :: l, hz, hM, ⟨h1, h2⟩, h => by
    simp only [List.mem_cons, not_or] at hz
    refine ⟨?_, linked_join hz.2 hM h2 h⟩
    rw [upd_ne (Ne.symm hz.1), h1]
    cases l <;> rfl
theorem headI_append {L M : List Nat} (h : L ≠ []) : headI (L ++ M) = headI L := by
  cases L with
  | nil => exact absurd rfl h
  | cons x l => rfl
theorem last_form {L : List Nat} (h : L ≠ []) : ∃ l z, L = l ++ [z] := ⟨L.dropLast, L.getLast h, (List.dropLast_concat_getLast h).symm⟩
section
variable {n a c : Nat} {N E : Nat → Int} {L M : List Nat}
/-- What is appended to an empty list. -/
theorem ListAt.onNone (hf : M ≠ []) (la : Nat) (hla : M.getLast? = some la) (hl : Linked N M) (ht : ∀ x ∈ M, x < n) :
    ListAt n N (upd (upd (upd E (a * 3) (headI M)) (a * 3 + 1) la) (a * 3 + 2) M.length) a M where
  count := upd_at _ _ _
  first := fun _ => by rw [upd_ne (by omega), upd_ne (by omega), upd_at]
  last := fun x hx => by
    rw [hla] at hx
    cases hx
    rw [upd_ne (by omega), upd_at]
  link := hl
  lt := ht
/-- What is appended to a list with a last node z. -/
theorem ListAt.onMore {l : List Nat} {z : Nat} (h : ListAt n N E a (l ++ [z])) (hz : z ∉ l) (hzM : z ∉ M) (la : Nat) (hla : M.getLast? = some la) (hl : Linked N M) (ht : ∀ x ∈ M, x < n) :
    ListAt n (upd N z (headI M)) (upd (upd E (a * 3 + 1) la) (a * 3 + 2) (((l ++ [z]).length : Nat) + M.length)) a (l ++ [z] ++ M) where
  count := by rw [upd_at]; simp; omega
  first := fun _ => by
    rw [upd_ne (by omega), upd_ne (by omega), h.first (by simp)]
    exact (headI_append (by simp)).symm
  last := fun x hx => by
    rw [List.getLast?_append, hla] at hx
    cases hx
    rw [upd_ne (by omega), upd_at]
  link := by
    rw [List.append_assoc]
    exact linked_join hz hzM h.link hl
  lt := fun x hx => by
    rcases List.mem_append.1 hx with hx | hx
    · exact h.lt x hx
    · exact ht x hx
/-- Another list, where only list a's ends and a node's next one changed. -/
theorem ListAt.keep {N' E' : Nat → Int} {i : Nat} (h : ListAt n N E i L) (hE : ∀ j, j < 3 → E' (i * 3 + j) = E (i * 3 + j)) (hN : Linked N' L) : ListAt n N' E' i L where
  count := (hE 2 (by omega)).trans h.count
  first := fun hh => (hE 0 (by omega)).trans (h.first hh)
  last := fun x hx => (hE 1 (by omega)).trans (h.last x hx)
  link := hN
  lt := h.lt
theorem ListAt.empty (h : E (a * 3 + 2) = 0) : ListAt n N E a [] where
  count := h
  first := fun hh => absurd rfl hh
  last := fun x hx => by simp at hx
  link := trivial
  lt := fun x hx => by simp at hx
/-- The list without its first node. -/
theorem ListAt.tail {x : Nat} (h : ListAt n N E a (x :: L)) (hx : x ∉ L) : ListAt n (upd N x (-1)) (upd (upd E (a * 3) (N x)) (a * 3 + 2) (L.length : Nat)) a L where
  count := upd_at _ _ _
  first := fun hh => by rw [upd_ne (by omega), upd_at]; exact h.link.1
  last := fun y hy => by
    rw [upd_ne (by omega), upd_ne (by omega)]
    refine h.last y ?_
    cases L with
    | nil => simp at hy
    | cons z l => simpa [List.getLast?_cons_cons] using hy
  link := linked_upd hx h.link.2
  lt := fun y hy => h.lt y (by simp [hy])
end
/-- k lists of n nodes: what each holds, where each node is; nothing is behind a free node. -/
structure Lists (n k : Nat) (N V E : Nat → Int) (X : Nat → List Nat) : Prop where
  at_ : ∀ i, i < k → ListAt n N E i (X i)
  own : ∀ i x, i < k → x ∈ X i → V x = (i : Int)
  free : ∀ x, x < n → (∀ i, i < k → x ∉ X i) → V x = -1 ∧ N x = -1
  nodup : ∀ i, i < k → (X i).Nodup
def setL (X : Nat → List Nat) (a : Nat) (L : List Nat) : Nat → List Nat := fun i => if i = a then L else X i
theorem setL_at (X : Nat → List Nat) (a : Nat) (L : List Nat) : setL X a L a = L := by simp [setL]
theorem setL_ne {X : Nat → List Nat} {a i : Nat} {L : List Nat} (h : i ≠ a) : setL X a L i = X i := by simp [setL, h]
theorem Lists.new (n k : Nat) : Lists n k (fun _ => -1) (fun _ => -1) (fun _ => 0) (fun _ => []) where
  at_ := fun i _ => ListAt.empty rfl
  own := fun i x _ hx => by simp at hx
  free := fun _ _ _ => ⟨rfl, rfl⟩
  nodup := fun _ _ => List.nodup_nil
theorem Lists.one {n k : Nat} {N V E : Nat → Int} {X : Nat → List Nat} (h : Lists n k N V E X) {i j x : Nat} (hi : i < k) (hj : j < k) (hx : x ∈ X i) (hy : x ∈ X j) : i = j := by
  have := h.own i x hi hx
  rw [h.own j x hj hy] at this
  omega
/-- A list without its first node. -/
theorem Lists.pop {n k a x : Nat} {N V E : Nat → Int} {X : Nat → List Nat} {L : List Nat} (h : Lists n k N V E X) (ha : a < k) (hX : X a = x :: L) :
    Lists n k (upd N x (-1)) (upd V x (-1)) (upd (upd E (a * 3) (N x)) (a * 3 + 2) (L.length : Nat)) (setL X a L) where
  at_ := fun i hi => by
    have hn := h.nodup a ha
    rw [hX, List.nodup_cons] at hn
    by_cases e : i = a
    · subst e
      rw [setL_at]
      have := h.at_ i hi
      rw [hX] at this
      exact this.tail hn.1
    · rw [setL_ne e]
      refine (h.at_ i hi).keep (fun j hj => by rw [upd_ne (by omega), upd_ne (by omega)]) (linked_upd (fun hm => e (h.one hi ha hm (by rw [hX]; simp))) (h.at_ i hi).link)
  own := fun i y hi hy => by
    have hn := h.nodup a ha
    rw [hX, List.nodup_cons] at hn
    by_cases e : i = a
    · subst e
      rw [setL_at] at hy
      rw [upd_ne (by rintro rfl; exact hn.1 hy)]
      exact h.own i y hi (by rw [hX]; simp [hy])
    · rw [setL_ne e] at hy
      rw [upd_ne (by rintro rfl; exact e (h.one hi ha hy (by rw [hX]; simp)))]
      exact h.own i y hi hy
  free := fun y hy hno => by
    by_cases e : y = x
    · subst e
      exact ⟨upd_at _ _ _, upd_at _ _ _⟩
    · rw [upd_ne e, upd_ne e]
      refine h.free y hy fun i hi hm => ?_
      by_cases e' : i = a
      · subst e'
        refine hno i hi ?_
        rw [setL_at]
        rw [hX] at hm
        simpa [e] using hm
      · exact hno i hi (by rw [setL_ne e']; exact hm)
  nodup := fun i hi => by
    have hn := h.nodup a ha
    rw [hX, List.nodup_cons] at hn
    by_cases e : i = a
    · subst e
      rw [setL_at]
      exact hn.2
    · rw [setL_ne e]
      exact h.nodup i hi
end Go.Proofs.Ytalkpoeliekbfaa

/-
  Layer 7 (chain): what push and join make of the lists (mathematics only).
-/
namespace Go.Proofs.Ytalkpoeliekbfaa
set_option linter.unusedVariables false
set_option linter.unusedSimpArgs false
section
variable {n k a c x : Nat} {N V E : Nat → Int} {X : Nat → List Nat}
theorem Lists.out (h : Lists n k N V E X) (hv : V x = -1) (i : Nat) (hi : i < k) : x ∉ X i := fun hm => by
  have := h.own i x hi hm
  omega
/-- A node on an empty list. -/
theorem Lists.pushNone (h : Lists n k N V E X) (ha : a < k) (hx : x < n) (hv : V x = -1) (h0 : X a = []) :
    Lists n k N (upd V x a) (upd (upd (upd E (a * 3) x) (a * 3 + 1) x) (a * 3 + 2) 1) (setL X a (X a ++ [x])) where
  at_ := fun i hi => by
    by_cases e : i = a
    · subst e
      rw [setL_at, h0]
      exact ListAt.onNone (M := [x]) (by simp) x rfl ⟨(h.free x hx (h.out hv)).2, trivial⟩ (by simpa using hx)
    · rw [setL_ne e]
      exact (h.at_ i hi).keep (fun j hj => by rw [upd_ne (by omega), upd_ne (by omega), upd_ne (by omega)]) (h.at_ i hi).link
  own := fun i y hi hy => by
    by_cases e : i = a
    · subst e
      rw [setL_at, h0] at hy
      obtain rfl : y = x := by simpa using hy
      exact upd_at _ _ _
    · rw [setL_ne e] at hy
      rw [upd_ne (by rintro rfl; exact h.out hv i hi hy)]
      exact h.own i y hi hy
  free := fun y hy hno => by
    have e : y ≠ x := by
      rintro rfl
      exact hno a ha (by rw [setL_at]; simp)
    rw [upd_ne e]
    refine h.free y hy fun i hi hm => ?_
    by_cases e' : i = a
    · subst e'
      exact hno i hi (by rw [setL_at]; simp [hm])
    · exact hno i hi (by rw [setL_ne e']; exact hm)
  nodup := fun i hi => by
    by_cases e : i = a
    · subst e
      rw [setL_at, h0]
      simp
    · rw [setL_ne e]
      exact h.nodup i hi
/-- A node behind the last one, z. -/
theorem Lists.pushMore {l : List Nat} {z : Nat} (h : Lists n k N V E X) (ha : a < k) (hx : x < n) (hv : V x = -1) (hl : X a = l ++ [z]) :
    Lists n k (upd N z x) (upd V x a) (upd (upd E (a * 3 + 1) x) (a * 3 + 2) (((X a).length : Nat) + 1)) (setL X a (X a ++ [x])) where
  at_ := fun i hi => by
    have hn := h.nodup a ha
    rw [hl] at hn
    have hzl : z ∉ l := by
      intro hm
      rw [List.nodup_append] at hn
      exact hn.2.2 z hm z (by simp) rfl
    by_cases e : i = a
    · subst e
      rw [setL_at]
      have h1 := h.at_ i hi
      rw [hl] at h1
      rw [hl]
      have hzx : z ≠ x := by rintro rfl; exact h.out hv i hi (by rw [hl]; simp)
      exact ListAt.onMore (M := [x]) h1 hzl (by simpa using hzx) x rfl ⟨(h.free x hx (h.out hv)).2, trivial⟩ (by simpa using hx)
    · rw [setL_ne e]
      exact (h.at_ i hi).keep (fun j hj => by rw [upd_ne (by omega), upd_ne (by omega)]) (linked_upd (fun hm => e (h.one hi ha hm (by rw [hl]; simp))) (h.at_ i hi).link)
  own := fun i y hi hy => by
    by_cases e : i = a
    · subst e
      rw [setL_at] at hy
      by_cases e' : y = x
      · subst e'
        exact upd_at _ _ _
      · rw [upd_ne e']
        exact h.own i y hi (by simpa [e'] using hy)
    · rw [setL_ne e] at hy
      rw [upd_ne (by rintro rfl; exact h.out hv i hi hy)]
      exact h.own i y hi hy
  free := fun y hy hno => by
    have e : y ≠ x := by
      rintro rfl
      exact hno a ha (by rw [setL_at]; simp)
    have ez : y ≠ z := by
      rintro rfl
      exact hno a ha (by rw [setL_at, hl]; simp)
    rw [upd_ne e, upd_ne ez]
    refine h.free y hy fun i hi hm => ?_
    by_cases e' : i = a
    · subst e'
      exact hno i hi (by rw [setL_at]; simp [hm])
    · exact hno i hi (by rw [setL_ne e']; exact hm)
  nodup := fun i hi => by
    by_cases e : i = a
    · subst e
      rw [setL_at, List.nodup_append]
      refine ⟨h.nodup i hi, by simp, fun y hy w hw => ?_⟩
      obtain rfl : w = x := by simpa using hw
      rintro rfl
      exact h.out hv i hi hy
    · rw [setL_ne e]
      exact h.nodup i hi
end
end Go.Proofs.Ytalkpoeliekbfaa

/-
  Layer 7 (chain): what join makes of the lists (mathematics only).
-/
namespace Go.Proofs.Ytalkpoeliekbfaa
set_option linter.unusedVariables false
set_option linter.unusedSimpArgs false
def joinX (X : Nat → List Nat) (a c : Nat) : Nat → List Nat := setL (setL X a (X a ++ X c)) c []
def zero3 (E : Nat → Int) (c : Nat) : Nat → Int := upd (upd (upd E (c * 3) 0) (c * 3 + 1) 0) (c * 3 + 2) 0
theorem zero3_ne {E : Nat → Int} {c j : Nat} (h : j < c * 3 ∨ c * 3 + 2 < j) : zero3 E c j = E j := by
  unfold zero3
  rw [upd_ne (by omega), upd_ne (by omega), upd_ne (by omega)]
section
variable {n k a c : Nat} {N V E N' E' : Nat → Int} {X : Nat → List Nat}
theorem joinX_at (X : Nat → List Nat) (h : a ≠ c) : joinX X a c a = X a ++ X c := by
  unfold joinX
  rw [setL_ne h, setL_at]
theorem joinX_no (X : Nat → List Nat) (a c : Nat) : joinX X a c c = [] := setL_at _ _ _
theorem joinX_ne (X : Nat → List Nat) {i : Nat} (h : i ≠ a) (h' : i ≠ c) : joinX X a c i = X i := by
  unfold joinX
  rw [setL_ne h', setL_ne h]
theorem setAll_in {V : Nat → Int} {L : List Nat} {a y : Nat} (h : y ∈ L) : setAll V L a y = a := by simp [setAll, h]
theorem setAll_out {V : Nat → Int} {L : List Nat} {a y : Nat} (h : y ∉ L) : setAll V L a y = V y := by simp [setAll, h]
theorem Lists.joined (h : Lists n k N V E X) (ha : a < k) (hc : c < k) (hac : a ≠ c) (hat : ListAt n N' E' a (X a ++ X c)) (hz : E' (c * 3 + 2) = 0)
    (hot : ∀ i, i < k → i ≠ a → i ≠ c → ListAt n N' E' i (X i)) (hN : ∀ y, y ∉ X a → N' y = N y) : Lists n k N' (setAll V (X c) a) E' (joinX X a c) where
  at_ := fun i hi => by
    by_cases e : i = a
    · subst e
      rw [joinX_at X hac]
      exact hat
    · by_cases e' : i = c
      · subst e'
        rw [joinX_no]
        exact ListAt.empty hz
      · rw [joinX_ne X e e']
        exact hot i hi e e'
  own := fun i y hi hy => by
    by_cases e : i = a
    · subst e
      rw [joinX_at X hac, List.mem_append] at hy
      by_cases hm : y ∈ X c
      · exact setAll_in hm
      · rw [setAll_out hm]
        exact h.own i y hi (hy.resolve_right hm)
    · by_cases e' : i = c
      · subst e'
        rw [joinX_no] at hy
        simp at hy
      · rw [joinX_ne X e e'] at hy
        rw [setAll_out (fun hm => e' (h.one hi hc hy hm))]
        exact h.own i y hi hy
  free := fun y hy hno => by
    have h1 : y ∉ X a ++ X c := by
      have := hno a ha
      rwa [joinX_at X hac] at this
    rw [List.mem_append, not_or] at h1
    rw [setAll_out h1.2, hN y h1.1]
    refine h.free y hy fun i hi hm => ?_
    by_cases e : i = a
    · subst e
      exact h1.1 hm
    · by_cases e' : i = c
      · subst e'
        exact h1.2 hm
      · exact hno i hi (by rw [joinX_ne X e e']; exact hm)
  nodup := fun i hi => by
    by_cases e : i = a
    · subst e
      rw [joinX_at X hac, List.nodup_append]
      refine ⟨h.nodup i hi, h.nodup c hc, fun y hy z hz => ?_⟩
      rintro rfl
      exact hac (h.one hi hc hy hz)
    · by_cases e' : i = c
      · subst e'
        rw [joinX_no]
        exact List.nodup_nil
      · rw [joinX_ne X e e']
        exact h.nodup i hi
/-- A list that holds something, behind an empty one. -/
theorem Lists.joinNone (h : Lists n k N V E X) (ha : a < k) (hc : c < k) (hac : a ≠ c) (h0 : X a = []) (hne : X c ≠ []) :
    Lists n k N (setAll V (X c) a) (zero3 (upd (upd (upd E (a * 3) (E (c * 3))) (a * 3 + 1) (E (c * 3 + 1))) (a * 3 + 2) (E (c * 3 + 2))) c) (joinX X a c) := by
  have hC := h.at_ c hc
  obtain ⟨l, z, hl⟩ := last_form hne
  have hz : (X c).getLast? = some z := by rw [hl]; simp
  refine h.joined ha hc hac ?_ (by unfold zero3; exact upd_at _ _ _) (fun i hi e e' => ?_) (fun _ _ => rfl)
  · rw [h0, List.nil_append, hC.first hne, hC.last z hz, hC.count]
    exact (ListAt.onNone (E := E) hne z hz hC.link hC.lt).keep (fun j hj => zero3_ne (by omega)) hC.link
  · exact (h.at_ i hi).keep (fun j hj => by rw [zero3_ne (by omega), upd_ne (by omega), upd_ne (by omega), upd_ne (by omega)]) (h.at_ i hi).link
/-- A list that holds something, behind the last node, z, of another. -/
theorem Lists.joinMore {l : List Nat} {z : Nat} (h : Lists n k N V E X) (ha : a < k) (hc : c < k) (hac : a ≠ c) (hl : X a = l ++ [z]) (hne : X c ≠ []) :
    Lists n k (upd N z (E (c * 3))) (setAll V (X c) a) (zero3 (upd (upd E (a * 3 + 1) (E (c * 3 + 1))) (a * 3 + 2) (((X a).length : Nat) + E (c * 3 + 2))) c) (joinX X a c) := by
  have hC := h.at_ c hc
  have hA := h.at_ a ha
  have hn := h.nodup a ha
  rw [hl] at hn hA
  have hzl : z ∉ l := by
    intro hm
    rw [List.nodup_append] at hn
    exact hn.2.2 z hm z (by simp) rfl
  have hza : z ∈ X a := by rw [hl]; simp
  have hzc : z ∉ X c := fun hm => hac (h.one ha hc hza hm)
  obtain ⟨m, la, hm⟩ := last_form hne
  have hla : (X c).getLast? = some la := by rw [hm]; simp
  refine h.joined ha hc hac ?_ (by unfold zero3; exact upd_at _ _ _) (fun i hi e e' => ?_) (fun y hy => upd_ne (by rintro rfl; exact hy hza))
  · rw [hl, hC.first hne, hC.last la hla, hC.count]
    have H := ListAt.onMore hA hzl hzc la hla hC.link hC.lt
    exact H.keep (fun j hj => zero3_ne (by omega)) H.link
  · exact (h.at_ i hi).keep (fun j hj => by rw [zero3_ne (by omega), upd_ne (by omega), upd_ne (by omega)]) (linked_upd (fun hm => e (h.one hi ha hm hza)) (h.at_ i hi).link)
end
end Go.Proofs.Ytalkpoeliekbfaa

/-
  Layer 7 (chain): the contracts, of what each list holds.
-/
namespace Go.Proofs.Ytalkpoeliekbfaa
open Go.ChangeShapes Go.WideShapes Go.ChangeAt Go.RowKit Go.Deep
set_option linter.unusedVariables false
set_option linter.unusedSimpArgs false
theorem nodup_len : ∀ (n : Nat) (L : List Nat), L.Nodup → (∀ x ∈ L, x < n) → L.length ≤ n
  | 0, L, _, h => by
    cases L with
    | nil => simp
    | cons x l => exact absurd (h x (by simp)) (by omega)
  | n + 1, L, hn, h => by
    have := nodup_len n (L.erase n) (hn.erase n) (fun x hx => by
      have h1 := hn.mem_erase_iff.1 hx
      have := h x h1.2
      omega)
    rw [List.length_erase] at this
    split at this <;> omega
/-- Lists at block p that hold X. -/
def Chained (w : World) (p gn gw gl n cn cw k cl : Nat) (X : Nat → List Nat) : Prop := ∃ N V E, ChainAt w p gn gw gl n cn cw k cl N V E ∧ Lists n k N V E X
namespace Chained
variable {w w' : World} {p gn gw gl n cn cw k cl a c x : Nat} {X : Nat → List Nat}
theorem carry {T : List Nat} (h : Chained w p gn gw gl n cn cw k cl X) (t : Touch T w w') (hT : ∀ b ∈ [p, gn, gw, gl], b ∉ T) : Chained w' p gn gw gl n cn cw k cl X := by
  obtain ⟨N, V, E, h1, h2⟩ := h
  exact ⟨N, V, E, h1.carry t hT, h2⟩
theorem new (h : Chained w p gn gw gl n cn cw k cl X) (t : Touch [] w w') : Chained w' p gn gw gl n cn cw k cl X := h.carry t (by simp)
theorem len (h : Chained w p gn gw gl n cn cw k cl X) (ha : a < k) : (X a).length ≤ n := by
  obtain ⟨N, V, E, h1, h2⟩ := h
  exact nodup_len n _ (h2.nodup a ha) (h2.at_ a ha).lt
theorem push_yes (h : Chained w p gn gw gl n cn cw k cl X) (hn : n ≤ 5000) (ha : a < k) (hx : x < n) (hno : ∀ i, i < k → x ∉ X i) :
    Calls Try.prog 10 #[.pointer (some ⟨p, 0, none⟩), .int .i64 (a : Int), .int .i64 (x : Int)] w fun e w' => e = .returned (.bool true) ∧
      Chained w' p gn gw gl n cn cw k cl (setL X a (X a ++ [x])) ∧ Touch [gn, gw, gl] w w' := by
  have hlen := h.len ha
  obtain ⟨N, V, E, h1, h2⟩ := h
  have hv := (h2.free x hx hno).1
  have hc := (h2.at_ a ha).count
  have t0 : Touch [gn, gw, gl] w (w.setCell ⟨gw, x, none⟩ (.int .i64 (a : Int))) := (Touch.refl _ w).setCell (a := ⟨gw, x, none⟩) (.inl (by simp)) _
  refine push_of h1 a x ha hx hv (fun w' => Chained w' p gn gw gl n cn cw k cl (setL X a (X a ++ [x])) ∧ Touch [gn, gw, gl] w w') fun hA => ?_
  by_cases h0 : X a = []
  · refine (attach_first hA a ha (by rw [hc, h0]; rfl) x x 1).mono ?_
    rintro e w' ⟨he, hc', t⟩
    exact ⟨he, ⟨_, _, _, hc', h2.pushNone ha hx hv h0⟩, t0.trans t (by simp)⟩
  · obtain ⟨l, z, hl⟩ := last_form h0
    refine (attach_more hA a ha z ((h2.at_ a ha).last z (by rw [hl]; simp)) ((h2.at_ a ha).lt z (by rw [hl]; simp)) _ hc (by have := List.length_pos_iff.2 h0; omega) x x 1 (by omega) (by omega)).mono ?_
    rintro e w' ⟨he, hc', t⟩
    exact ⟨he, ⟨_, _, _, hc', h2.pushMore ha hx hv hl⟩, t0.trans t (by simp)⟩
theorem pop_yes {L : List Nat} (h : Chained w p gn gw gl n cn cw k cl X) (hn : n ≤ 5000) (ha : a < k) (hX : X a = x :: L) :
    Calls Try.prog 12 #[.pointer (some ⟨p, 0, none⟩), .int .i64 (a : Int)] w fun e w' => e = firstTold x true ∧
      Chained w' p gn gw gl n cn cw k cl (setL X a L) ∧ Touch [gn, gw, gl] w w' := by
  have hlen := h.len ha
  obtain ⟨N, V, E, h1, h2⟩ := h
  have hA := h2.at_ a ha
  rw [hX] at hA hlen
  simp only [List.length_cons] at hlen
  refine (pop_some h1 a ha ((L.length : Int) + 1) (by rw [hA.count]; simp) (by omega) (hA.first (by simp)) (hA.lt x (by simp)) (N x) rfl).mono ?_
  rintro e w' ⟨he, hc', t⟩
  rw [show (L.length : Int) + 1 - 1 = L.length by omega] at hc'
  exact ⟨he, ⟨_, _, _, hc', h2.pop ha hX⟩, t⟩
theorem join_yes (h : Chained w p gn gw gl n cn cw k cl X) (hn : n ≤ 5000) (ha : a < k) (hc : c < k) (hac : a ≠ c) (hne : X c ≠ []) :
    Calls Try.prog 15 #[.pointer (some ⟨p, 0, none⟩), .int .i64 (a : Int), .int .i64 (c : Int)] w fun e w' => e = .returned (.bool true) ∧
      Chained w' p gn gw gl n cn cw k cl (joinX X a c) ∧ Touch [gn, gw, gl] w w' := by
  have hlen := h.len ha
  have hlec := h.len hc
  obtain ⟨N, V, E, h1, h2⟩ := h
  have hA := h2.at_ a ha
  have hC := h2.at_ c hc
  have qA := hA.count
  have qC := hC.count
  by_cases h0 : X a = []
  · refine (join_of h1 a c ha hc hac (X c) hC hne (by omega) (fun N' E' => N' = N ∧ E' = upd (upd (upd E (a * 3) (E (c * 3))) (a * 3 + 1) (E (c * 3 + 1))) (a * 3 + 2) (E (c * 3 + 2))) (fun W hW => ?_)).mono ?_
    · refine (attach_first hW a ha (by rw [qA, h0]; rfl) _ _ _).mono ?_
      rintro e w' ⟨he, hc', t⟩
      exact ⟨he, ⟨_, _, ⟨rfl, rfl⟩, hc'⟩, t.mono (by simp)⟩
    · rintro e w' ⟨he, ⟨_, _, ⟨rfl, rfl⟩, hc', t⟩⟩
      exact ⟨he, ⟨_, _, _, hc', h2.joinNone ha hc hac h0 hne⟩, t⟩
  · obtain ⟨l, z, hl⟩ := last_form h0
    refine (join_of h1 a c ha hc hac (X c) hC hne (by omega) (fun N' E' => N' = upd N z (E (c * 3)) ∧ E' = upd (upd E (a * 3 + 1) (E (c * 3 + 1))) (a * 3 + 2) (((X a).length : Nat) + E (c * 3 + 2))) (fun W hW => ?_)).mono ?_
    · refine (attach_more hW a ha z (hA.last z (by rw [hl]; simp)) (hA.lt z (by rw [hl]; simp)) _ qA (by have := List.length_pos_iff.2 h0; omega) _ _ _ (by omega) (by omega)).mono ?_
      rintro e w' ⟨he, hc', t⟩
      exact ⟨he, ⟨_, _, ⟨rfl, rfl⟩, hc'⟩, t⟩
    · rintro e w' ⟨he, ⟨_, _, ⟨rfl, rfl⟩, hc', t⟩⟩
      exact ⟨he, ⟨_, _, _, hc', h2.joinMore ha hc hac hl hne⟩, t⟩
end Chained
end Go.Proofs.Ytalkpoeliekbfaa

/-
  Layer 7 (chain): the contracts, of what each list holds: answers that change nothing.
-/
namespace Go.Proofs.Ytalkpoeliekbfaa
open Go.ChangeShapes Go.WideShapes Go.ChangeAt Go.RowKit Go.Deep
set_option linter.unusedVariables false
set_option linter.unusedSimpArgs false
/-- What list l holds; nothing, if there is none. -/
def listOf (k : Nat) (X : Nat → List Nat) (l : Int) : List Nat := if inR l k = true then X l.toNat else []
theorem inR_form {l : Int} {k : Nat} (h : inR l k = true) : ∃ a : Nat, l = (a : Int) ∧ a < k := by
  simp [inR] at h
  exact ⟨l.toNat, by omega, by omega⟩
theorem listOf_at {k : Nat} (X : Nat → List Nat) {a : Nat} (h : a < k) : listOf k X (a : Int) = X a := by
  unfold listOf
  rw [if_pos (inR_yes ⟨by omega, by omega⟩), Int.toNat_natCast]
theorem listOf_no {k : Nat} (X : Nat → List Nat) {l : Int} (h : inR l k = false) : listOf k X l = [] := by
  unfold listOf
  rw [if_neg (by simp [h])]
namespace Chained
variable {w w' : World} {p gn gw gl n cn cw k cl a c x : Nat} {X : Nat → List Nat}
theorem lenOf {N V E : Nat → Int} (h2 : Lists n k N V E X) (l : Int) : lenV k E l = (listOf k X l).length := by
  cases hl : inR l k
  · rw [listOf_no X hl]
    unfold lenV
    rw [if_neg (by simp [hl])]
    rfl
  · obtain ⟨a, rfl, ha⟩ := inR_form hl
    rw [listOf_at X ha]
    exact lenV_list (h2.at_ a ha) ha
theorem lenC (h : Chained w p gn gw gl n cn cw k cl X) (l : Int) : Calls Try.prog 19 #[.pointer (some ⟨p, 0, none⟩), .int .i64 l] w fun e w' => e = .returned (.int .i64 ((listOf k X l).length : Nat)) ∧ w' = w := by
  obtain ⟨N, V, E, h1, h2⟩ := h
  have := len_any h1 l
  rwa [lenOf h2] at this
theorem first_no (h : Chained w p gn gw gl n cn cw k cl X) (l : Int) (h0 : listOf k X l = []) : Calls Try.prog 11 #[.pointer (some ⟨p, 0, none⟩), .int .i64 l] w fun e w' => e = firstTold 0 false ∧ w' = w := by
  obtain ⟨N, V, E, h1, h2⟩ := h
  exact first_none h1 l (by rw [lenOf h2, h0]; rfl)
theorem pop_no (h : Chained w p gn gw gl n cn cw k cl X) (l : Int) (h0 : listOf k X l = []) : Calls Try.prog 12 #[.pointer (some ⟨p, 0, none⟩), .int .i64 l] w fun e w' => e = firstTold 0 false ∧ w' = w := by
  obtain ⟨N, V, E, h1, h2⟩ := h
  exact pop_none h1 l (by rw [lenOf h2, h0]; rfl)
theorem first_yes {L : List Nat} (h : Chained w p gn gw gl n cn cw k cl X) (ha : a < k) (hX : X a = x :: L) : Calls Try.prog 11 #[.pointer (some ⟨p, 0, none⟩), .int .i64 (a : Int)] w fun e w' => e = firstTold x true ∧ w' = w := by
  obtain ⟨N, V, E, h1, h2⟩ := h
  have hA := h2.at_ a ha
  rw [hX] at hA
  have := first_some h1 a ha (by rw [hA.count]; simp; omega)
  rwa [hA.first (by simp)] at this
theorem where_yes (h : Chained w p gn gw gl n cn cw k cl X) (ha : a < k) (hx : x ∈ X a) : Calls Try.prog 17 #[.pointer (some ⟨p, 0, none⟩), .int .i64 (x : Int)] w fun e w' => e = firstTold a true ∧ w' = w := by
  obtain ⟨N, V, E, h1, h2⟩ := h
  have hv := h2.own a x ha hx
  have := where_some h1 x ((h2.at_ a ha).lt x hx) (by omega)
  rwa [hv] at this
/-- Is a node in no list? -/
def Free (k : Nat) (X : Nat → List Nat) (l : Int) : Prop := ∀ (x : Nat), l = (x : Int) → ∀ i, i < k → x ∉ X i
theorem placeOf_free {N V E : Nat → Int} (h2 : Lists n k N V E X) {l : Int} (hf : Free k X l) : placeOf n V l = -1 := by
  unfold placeOf
  cases hl : inR l n
  · simp
  · obtain ⟨x, rfl, hx⟩ := inR_form hl
    simp only [if_true, Int.toNat_natCast]
    exact (h2.free x hx (hf x rfl)).1
theorem where_no (h : Chained w p gn gw gl n cn cw k cl X) (l : Int) (hf : Free k X l) : Calls Try.prog 17 #[.pointer (some ⟨p, 0, none⟩), .int .i64 l] w fun e w' => e = firstTold 0 false ∧ w' = w := by
  obtain ⟨N, V, E, h1, h2⟩ := h
  exact where_none h1 l (placeOf_free h2 hf)
theorem pushNo (h : Chained w p gn gw gl n cn cw k cl X) (l x : Int) (hno : inR l k = false ∨ inR x n = false ∨ ∃ (y i : Nat), x = (y : Int) ∧ i < k ∧ y ∈ X i) :
    Calls Try.prog 10 #[.pointer (some ⟨p, 0, none⟩), .int .i64 l, .int .i64 x] w fun e w' => e = .returned (.bool false) ∧ w' = w := by
  obtain ⟨N, V, E, h1, h2⟩ := h
  refine push_no h1 l x ?_
  rcases hno with h | h | ⟨y, i, rfl, hi, hy⟩
  · exact .inl h
  · exact .inr (.inl h)
  · refine .inr (.inr ?_)
    have hv := h2.own i y hi hy
    have hyn := (h2.at_ i hi).lt y hy
    unfold placeOf
    rw [if_pos (inR_yes ⟨by omega, by omega⟩), Int.toNat_natCast]
    omega
theorem joinNo (h : Chained w p gn gw gl n cn cw k cl X) (a c : Int) (hno : inR a k = false ∨ inR c k = false ∨ a = c) :
    Calls Try.prog 15 #[.pointer (some ⟨p, 0, none⟩), .int .i64 a, .int .i64 c] w fun e w' => e = .returned (.bool false) ∧ Touch [] w w' := by
  obtain ⟨N, V, E, h1, h2⟩ := h
  refine join_stay h1 a c false ?_
  cases ha : inR a k
  · exact .inl ⟨rfl, rfl⟩
  · cases hc : inR c k
    · exact .inr (.inl ⟨rfl, rfl, rfl⟩)
    · refine .inr (.inr (.inl ⟨rfl, rfl, ?_, rfl⟩))
      rw [ha, hc] at hno
      simpa using hno
theorem joinEmpty (h : Chained w p gn gw gl n cn cw k cl X) (ha : a < k) (hc : c < k) (hac : a ≠ c) (h0 : X c = []) :
    Calls Try.prog 15 #[.pointer (some ⟨p, 0, none⟩), .int .i64 (a : Int), .int .i64 (c : Int)] w fun e w' => e = .returned (.bool true) ∧ Touch [] w w' := by
  obtain ⟨N, V, E, h1, h2⟩ := h
  refine join_stay h1 a c true (.inr (.inr (.inr ⟨inR_yes ⟨by omega, by omega⟩, inR_yes ⟨by omega, by omega⟩, by simp; omega, ?_, rfl⟩)))
  rw [lenOf h2, listOf_at X hc, h0]
  rfl
theorem allC (h : Chained w p gn gw gl n cn cw k cl X) (hn : n ≤ 5000) (l : Int) :
    Calls Try.prog 22 #[.pointer (some ⟨p, 0, none⟩), .int .i64 l] w fun e w' => ∃ u, e = .returned u ∧ w'.ownsRow w.heap.size 3 1 u (listOf k X l).length (nv (listOf k X l)) ∧ Touch [] w w' := by
  obtain ⟨N, V, E, h1, h2⟩ := h
  cases hl : inR l k
  · rw [listOf_no X hl]
    refine all_any (L := []) _ l (by simp) (Lib.hid fun w1 t => ?_)
    exact nodes_none _ _ w1 (Lib.hid (first_none (h1.new t) l (by rw [lenOf h2, listOf_no X hl]; rfl)))
  · obtain ⟨a, rfl, ha⟩ := inR_form hl
    rw [listOf_at X ha]
    have hle := nodup_len n _ (h2.nodup a ha) (h2.at_ a ha).lt
    exact all_any _ _ (by omega) (Lib.hid fun w1 t => nodes_any (h1.new t) a ha (X a) (h2.at_ a ha) (by omega))
/-- A new one's lists, in blocks of its own. -/
def Fresh (w0 : World) (n k : Nat) (X : Nat → List Nat) (v : Value) (w : World) : Prop :=
  ∃ p gn gw gl cn cw cl, v = .pointer (some ⟨p, 0, none⟩) ∧ Chained w p gn gw gl n cn cw k cl X ∧ w0.heap.size ≤ p ∧ w0.heap.size ≤ gn ∧ w0.heap.size ≤ gw ∧ w0.heap.size ≤ gl
theorem fresh_of {w0 w : World} {N V E : Nat → Int} {v : Value} (h : ChainNew w0 n k N V E v w) (h2 : Lists n k N V E X) : Fresh w0 n k X v w := by
  obtain ⟨p, gn, gw, gl, cn, cw, cl, e, h1, r⟩ := h
  exact ⟨p, gn, gw, gl, cn, cw, cl, e, ⟨N, V, E, h1, h2⟩, r⟩
theorem newC (n k : Nat) (w : World) (hn1 : 1 ≤ n) (hn2 : n ≤ 4096) (hk1 : 1 ≤ k) (hk2 : k ≤ 256) :
    Calls Try.prog 7 #[.int .i64 (n : Int), .int .i64 (k : Int)] w fun e w' => ∃ v, e = .returned v ∧ Fresh w n k (fun _ => []) v w' ∧ Touch [] w w' := by
  refine (newC_any n k w hn1 hn2 hk1 hk2).mono ?_
  rintro e w' ⟨v, he, h, t⟩
  exact ⟨v, he, fresh_of h (Lists.new n k), t⟩
theorem copyC (h : Chained w p gn gw gl n cn cw k cl X) (hn : n ≤ 5000) (hk : k ≤ 5000) :
    Calls Try.prog 16 #[.pointer (some ⟨p, 0, none⟩)] w fun e w' => ∃ v, e = .returned v ∧ Fresh w n k X v w' ∧ Touch [] w w' := by
  obtain ⟨N, V, E, h1, h2⟩ := h
  refine (copyC_any h1 hn hk).mono ?_
  rintro e w' ⟨v, he, h, t⟩
  exact ⟨v, he, fresh_of h h2, t⟩
end Chained
end Go.Proofs.Ytalkpoeliekbfaa

/-
  Slices of integers that came in: their cells.
-/
namespace Go.Proofs.Ytalkpoeliekbfaa
open Go.ChangeShapes Go.WideShapes Go.ChangeAt Go.RowKit
set_option linter.unusedVariables false

def fit64 (x : Int) : Prop := -9223372036854775808 ≤ x ∧ x ≤ 9223372036854775807

/-- The first n integers of a slice lie in old memory as X says. -/
def IntCells (w : World) (B : Nat) (A : Option Addr) (n : Nat) (X : Nat → Int) : Prop :=
  ∀ i, i < n → ∃ b off, A = some ⟨b, off, none⟩ ∧ b < B ∧ w.cell? ⟨b, off + i, none⟩ = some (.int .i64 (X i))

theorem IntCells.below {w w' : World} {B : Nat} {A : Option Addr} {n : Nat} {X : Nat → Int} (h : IntCells w B A n X) (hb : Below B w w') : IntCells w' B A n X := fun i hi => by
  obtain ⟨b, off, hA, hbB, hc⟩ := h i hi
  rw [← hb.cell (p := ⟨b, _, none⟩) hbB] at hc
  exact ⟨b, off, hA, hbB, hc⟩
theorem IntCells.mono {w : World} {B B' : Nat} {A : Option Addr} {n : Nat} {X : Nat → Int} (h : IntCells w B A n X) (hB : B ≤ B') : IntCells w B' A n X := fun i hi => by
  obtain ⟨b, off, hA, hbB, hc⟩ := h i hi
  exact ⟨b, off, hA, Nat.lt_of_lt_of_le hbB hB, hc⟩

set_option maxRecDepth 100000 in
theorem int_cells {W : World} {base : Nat} {H : Type} {enc : TypeId × Value → H} {v : Value} {d : DataW H} {p : List MemPlace} (hv : Value.okWide Try.prog W .any base 40 v)
    (h : DataW.Trod enc Try.prog W 0 (fun _ => true) true 40 v d p) : ∃ A len cap X, v = .slice A len cap ∧ len ≤ cap ∧ cap ≤ 9223372036854775807 ∧ IntCells W W.heap.size A len X ∧ ∀ i, i < len → fit64 (X i) := by
  have hC : Try.prog.cellsOf 3 = 1 := by kernel_rfl
  obtain ⟨A, len, cap, rfl, hl, hm, hi⟩ := slice_elems Try.underlying40 (by omega) hv h
  obtain ⟨X, hX⟩ := Deep.choose_lt (α := Int) (n := len) (p := fun i x => (∃ b off, A = some ⟨b, off, none⟩ ∧ b < W.heap.size ∧ W.cell? ⟨b, off + i, none⟩ = some (.int .i64 x)) ∧ fit64 x) (fun i hlt => by
    obtain ⟨b, off, n, cs, x, hA, hb, hlen, hat, hx⟩ := hi i hlt
    rw [hC] at hlen hat
    have h0 := hat 0 (by omega)
    obtain ⟨u, rfl⟩ : ∃ u, cs = [u] := by
      match cs, hlen with
      | [u], _ => exact ⟨u, rfl⟩
    obtain ⟨k, rfl, hw⟩ := cell_int Try.underlying3 hx
    exact ⟨k, ⟨b, off, hA, hb, by simpa using h0⟩, i64_in hw⟩)
  exact ⟨A, len, cap, X, rfl, hl, by simpa [maxLen] using hm, fun i hi => (hX i hi).1, fun i hi => (hX i hi).2⟩

/-- The first n numbers of kind k of a slice. -/
def NumCells (k : IntKind) (w : World) (B : Nat) (A : Option Addr) (n : Nat) (X : Nat → Int) : Prop :=
  ∀ i, i < n → ∃ b off, A = some ⟨b, off, none⟩ ∧ b < B ∧ w.cell? ⟨b, off + i, none⟩ = some (.int k (X i))
theorem num_cells {P : Program} {W : World} {base : Nat} {H : Type} {enc : TypeId × Value → H} {v : Value} {d : DataW H} {p : List MemPlace} {t e : TypeId} {k : IntKind} (ht : P.underlying t = some (.slice e)) (he : P.underlying e = some (.int k)) (hC : P.cellsOf e = 1)
    (hv : Value.okWide P W .any base t v) (h : DataW.Trod enc P W 0 (fun _ => true) true t v d p) : ∃ A len cap X, v = .slice A len cap ∧ len ≤ cap ∧ cap ≤ 9223372036854775807 ∧ NumCells k W W.heap.size A len X ∧ ∀ i, i < len → (Lit.int k (X i)).wf = true := by
  obtain ⟨A, len, cap, rfl, hl, hm, hi⟩ := slice_elems ht (by omega) hv h
  obtain ⟨X, hX⟩ := Deep.choose_lt (α := Int) (n := len) (p := fun i x => (∃ b off, A = some ⟨b, off, none⟩ ∧ b < W.heap.size ∧ W.cell? ⟨b, off + i, none⟩ = some (.int k x)) ∧ (Lit.int k x).wf = true) (fun i hlt => by
    obtain ⟨b, off, n, cs, x, hA, hb, hlen, hat, hx⟩ := hi i hlt
    rw [hC] at hlen hat
    have h0 := hat 0 (by omega)
    obtain ⟨u, rfl⟩ : ∃ u, cs = [u] := by
      match cs, hlen with
      | [u], _ => exact ⟨u, rfl⟩
    obtain ⟨y, rfl, hw⟩ := cell_int he hx
    exact ⟨y, ⟨b, off, hA, hb, by simpa using h0⟩, hw⟩)
  exact ⟨A, len, cap, X, rfl, hl, by simpa [maxLen] using hm, fun i hi => (hX i hi).1, fun i hi => (hX i hi).2⟩
theorem u16_in {n : Int} (h : (Lit.int .u16 n).wf = true) : 0 ≤ n ∧ n ≤ 65535 := by
  simpa [Lit.wf, IntKind.min, IntKind.max, IntKind.signed, IntKind.bits] using h

section
variable {H : Type} {enc : TypeId × Value → H} {P : Program} {w : World} {base : Nat} {sp : Nat → Bool}
theorem okWide_array {t e : TypeId} {n : Nat} {v : Value} {r : Reach} {b0 : Nat} (ht : P.underlying t = some (.array n e)) (h : Value.okWide P w r b0 t v) : ∃ cs, v = .agg cs ∧ cs.size = P.cellsOf t := by
  unfold Value.okWide at h
  rw [ht] at h
  cases v <;> simp_all
/-- An array of integers by value. -/
theorem open_ints_array {t e : TypeId} {n : Nat} {v : Value} {d : DataW H} {p : List MemPlace} {r : Reach} {b0 : Nat} (ht : P.underlying t = some (.array n e)) (he : P.underlying e = some (.int .i64)) (hC : P.cellsOf e = 1)
    (hv : Value.okWide P w r b0 t v) (h : DataW.Trod enc P w base sp true t v d p) : ∃ cs : Array Value, v = .agg cs ∧ cs.size = P.cellsOf t ∧ ∀ i, i < n → ∃ x, cs[i]? = some (.int .i64 x) ∧ fit64 x := by
  obtain ⟨cs, rfl, hsz⟩ := okWide_array ht hv
  obtain ⟨fuel, hf⟩ := h
  obtain ⟨xs, m, _, _, hlen, hn, hi⟩ := DataW.trod_array ht hf
  refine ⟨cs, rfl, hsz, fun i hlt => ?_⟩
  have g := hi i hlt
  rw [List.getElem?_eq_getElem (by omega), hC, Nat.mul_one] at g
  have hcs : (Value.agg cs).cells.toList = cs.toList := rfl
  rw [hcs] at g
  cases hd : cs.toList.drop i with
  | nil => 
    rw [hd] at g
    simp at g
    obtain ⟨k, hk, _, _⟩ := DataW.trod_int he g
    cases hk
  | cons u us =>
    rw [hd] at g
    simp at g
    obtain ⟨k, rfl, hw⟩ := cell_int he g
    refine ⟨k, ?_, i64_in hw⟩
    have : cs.toList[i]? = some (Value.int .i64 k) := by
      rw [← List.head?_drop, hd]
      rfl
    simpa using this
end
end Go.Proofs.Ytalkpoeliekbfaa

/-
  Layer 7 (chain): rows of integers told alike (SameInts).
-/
namespace Go.Proofs.Ytalkpoeliekbfaa
open Go.ChangeShapes Go.WideShapes Go.ChangeAt Go.RowKit Go.Deep
set_option linter.unusedVariables false
set_option linter.unusedSimpArgs false
theorem own_cells {w : World} {base : Nat} {v : Value} {n : Nat} {X : Nat → Int} (h : w.ownsRow base 3 1 v n (iv X n)) : ∃ A cap, v = .slice A n cap ∧ n ≤ cap ∧ cap ≤ maxLen ∧ IntCells w w.heap.size A n X := by
  rcases h.2 with ⟨rfl, rfl⟩ | ⟨g, cap, cur, rfl, hg, hh, h2, h3, h4, h5⟩
  · exact ⟨none, 0, rfl, Nat.le_refl _, by unfold maxLen; omega, fun i hi => by omega⟩
  · refine ⟨some ⟨g, 0, none⟩, cap, rfl, h2, h3, fun i hi => ⟨g, 0, rfl, (Array.getElem?_eq_some_iff.1 hh).1, ?_⟩⟩
    have hx := iv_get X hi
    rw [← h5] at hx
    rw [Nat.zero_add, World.cell?, hh]
    simpa [List.getElem?_take, hi] using hx

theorem IntCells.touch {w w' : World} {A : Option Addr} {n : Nat} {X : Nat → Int} (h : IntCells w w.heap.size A n X) (t : Touch [] w w') : IntCells w' w'.heap.size A n X := fun i hi => by
  obtain ⟨b, off, hA, hb, hc⟩ := h i hi
  exact ⟨b, off, hA, Nat.lt_of_lt_of_le hb t.size, (t.cell (a := ⟨b, off + i, none⟩) hb (by simp)).trans hc⟩

theorem sameInts_yes {A A' : Option Addr} {n c c' : Nat} {X X' : Nat → Int} {w : World} (h : IntCells w w.heap.size A n X) (h' : IntCells w w.heap.size A' n X') (he : ∀ i, i < n → X i = X' i) (hn : n ≤ 100000) :
    Calls Try.prog 21 #[.slice A n c, .slice A' n c'] w fun e w' => e = .returned (.bool true) ∧ Touch [] w w' := by
  have H := Lib.hid h
  have H' := Lib.hid h'
  have HE := Lib.hid he
  clear h h' he
  go_enter Try.func21, Try.ntmps21
  go_wp2
  go_loopw [5] (fun i wr => ∃ k : Nat, k ≤ n ∧ i = .int .i64 k ∧ Touch [] w wr) (fun i _ => n - (intOf i).toNat)
  case atStart => exact ⟨0, Nat.zero_le _, rfl, Touch.refl _ _⟩
  case round =>
    obtain ⟨k, hk, rfl, ht⟩ := hrel
    by_cases hlt : k < n
    · obtain ⟨b, off, hA, hb, hc⟩ := H.out.touch ht.drew k hlt
      obtain ⟨b', off', hA', hb', hc'⟩ := H'.out.touch ht.drew k hlt
      rw [← HE.out k hlt] at hc'
      subst hA hA'
      generalize X k = y at *
      have HT := Lib.hid ht
      clear ht
      go_wp2_with fail
      go_region
      all_goals
        go_wp2
        go_roundw
        case rel => exact ⟨k + 1, by omega, by go_num, HT.out.drew⟩
        case measure => simp [intOf]; omega
    · obtain rfl : k = n := by omega
      go_wp2
      go_ret
      exact ⟨rfl, ht⟩

theorem lit3 (w : World) (x y z : Int) (t : TypeId) (f : Nat → Int) (h0 : f 0 = x) (h1 : f 1 = y) (h2 : f 2 = z) : IntCells (w.alloc (.cells #[.int .i64 x, .int .i64 y, .int .i64 z] t)) (w.alloc (.cells #[.int .i64 x, .int .i64 y, .int .i64 z] t)).heap.size (some ⟨w.heap.size, 0, none⟩) 3 f := fun i hi => by
  have hb := heap_alloc_new w (.cells #[.int .i64 x, .int .i64 y, .int .i64 z] t)
  refine ⟨w.heap.size, 0, rfl, by simp, ?_⟩
  rw [cell_of_row _ _ _ _ t (0, 0) hb]
  rcases (show i = 0 ∨ i = 1 ∨ i = 2 by omega) with rfl | rfl | rfl
  · rw [h0]; rfl
  · rw [h1]; rfl
  · rw [h2]; rfl

/-- A list's nodes, as a row. -/
def ati (L : List Nat) (i : Nat) : Int := ((L.getD i 0 : Nat) : Int)
theorem nv_iv (L : List Nat) : nv L = iv (ati L) L.length := by
  apply List.ext_getElem?
  intro i
  by_cases hi : i < L.length
  · rw [iv_get _ hi, nv_get (List.getElem?_eq_getElem hi)]
    simp [ati, List.getD, List.getElem?_eq_getElem hi]
  · rw [List.getElem?_eq_none (by rw [nv_length]; omega), List.getElem?_eq_none (by rw [iv_length]; omega)]
end Go.Proofs.Ytalkpoeliekbfaa

/-
  The example of layer 7's laws.
-/
namespace Go.Proofs.Ytalkpoeliekbfaa
open Go.ChangeShapes Go.WideShapes Go.ChangeAt Go.RowKit Go.Deep
set_option linter.unusedVariables false
set_option linter.unusedSimpArgs false
set_option maxRecDepth 100000 in
set_option maxHeartbeats 3200000 in
theorem chainLives_any (w : World) :
    Calls Try.prog 8 #[] w fun e w' => e = .returned (.bool true) ∧ Touch [] w w' := by
  have H := Lib.hid (Chained.newC 9 2 w (by omega) (by omega) (by omega) (by omega))
  go_enter Try.func8, Try.ntmps8
  go_wp2_with fail
  refine (H.out).mono ?_
  rintro e w1 ⟨v, rfl, ⟨p, gn, gw, gl, cn, cw, cl, rfl, h1, lp, ln, lw, ll⟩, t1⟩
  have HL := Lib.hid (show w.heap.size ≤ p ∧ w.heap.size ≤ gn ∧ w.heap.size ≤ gw ∧ w.heap.size ≤ gl from ⟨lp, ln, lw, ll⟩)
  have H1 := Lib.hid (h1.push_yes (a := 0) (x := 5) (by omega) (by omega) (by omega) (by simp))
  have T1 := Lib.hid t1
  clear h1 t1 H lp ln lw ll
  go_wp2_with fail
  refine (H1.out).mono ?_
  rintro e w2 ⟨rfl, h2, t2⟩
  have H2 := Lib.hid (h2.push_yes (a := 0) (x := 3) (by omega) (by omega) (by omega) (by intro i hi; rcases (show i = 0 ∨ i = 1 by omega) with rfl | rfl <;> simp [setL]))
  have T2 := Lib.hid t2
  clear h2 t2 H1
  go_wp2_with fail
  refine (H2.out).mono ?_
  rintro e w3 ⟨rfl, h3, t3⟩
  have H3 := Lib.hid (h3.push_yes (a := 1) (x := 4) (by omega) (by omega) (by omega) (by intro i hi; rcases (show i = 0 ∨ i = 1 by omega) with rfl | rfl <;> simp [setL]))
  have T3 := Lib.hid t3
  clear h3 t3 H2
  go_wp2_with fail
  refine (H3.out).mono ?_
  rintro e w4 ⟨rfl, h4, t4⟩
  have H4 := Lib.hid (h4.join_yes (a := 1) (c := 0) (by omega) (by omega) (by omega) (by omega) (by simp [setL]))
  have T4 := Lib.hid t4
  clear h4 t4 H3
  go_wp2_with fail
  refine (H4.out).mono ?_
  rintro e w5 ⟨rfl, h5, t5⟩
  obtain ⟨X, hX⟩ : ∃ X, X = joinX (setL (setL (setL (fun _ => []) 0 ([] ++ [5])) 0 (setL (fun _ => []) 0 ([] ++ [5]) 0 ++ [3])) 1 (setL (setL (fun _ => []) 0 ([] ++ [5])) 0 (setL (fun _ => []) 0 ([] ++ [5]) 0 ++ [3]) 1 ++ [4])) 1 0 := ⟨_, rfl⟩
  rw [← hX] at h5
  have e1 : listOf 2 X 1 = [4, 5, 3] := by rw [hX]; rfl
  have e0 : listOf 2 X 0 = [] := by rw [hX]; rfl
  have D5 := h5.allC (by omega) 1
  rw [e1] at D5
  have H5 := Lib.hid D5
  have HC := Lib.hid h5
  have E0 := Lib.hid e0
  have T5 := Lib.hid t5
  clear h5 t5 H4 D5 hX e1 e0
  go_wp2_with fail
  refine (H5.out).mono ?_
  rintro e w6 ⟨u, rfl, ho, t6⟩
  rw [nv_iv] at ho
  obtain ⟨A, cap, rfl, c1, c2, hc⟩ := own_cells ho
  have HA := Lib.hid hc
  have T6 := Lib.hid t6
  have HC6 := Lib.hid (HC.out.new t6)
  clear ho hc t6 HC H5
  go_wp2_with fail
  refine (sameInts_yes (HA.out.touch ((Touch.refl [] _).alloc _)) (lit3 w6 4 5 3 _ (ati [4, 5, 3]) rfl rfl rfl) (fun _ _ => rfl) (by simp)).mono ?_
  rintro e w7 ⟨rfl, t7⟩
  have T7 := Lib.hid t7
  have D7 := ((HC6.out.new ((Touch.refl [] w6).alloc (.cells #[.int .i64 4, .int .i64 5, .int .i64 3] 3))).new t7).lenC 0
  rw [E0.out] at D7
  have H7 := Lib.hid D7
  clear t7 D7
  go_wp2_with fail
  refine (H7.out).mono ?_
  rintro e w8 ⟨rfl, rfl⟩
  go_wp2_with fail
  go_ret
  have hS : ∀ b ∈ [gn, gw, gl], b ∈ ([] : List Nat) ∨ w.heap.size ≤ b := by
    have h1 := HL.out
    intro b hb
    simp at hb
    right
    omega
  exact ⟨rfl, ((((((T1.out.trans T2.out hS).trans T3.out hS).trans T4.out hS).trans T5.out hS).trans T6.out (by simp)).alloc _).trans T7.out (by simp)⟩
end Go.Proofs.Ytalkpoeliekbfaa

/-
  Layer 7 (chain): All's function called with ChainOrders' counting function.
-/
namespace Go.Proofs.Ytalkpoeliekbfaa
open Go.ChangeShapes Go.WideShapes Go.ChangeAt Go.RowKit Go.Deep
set_option linter.unusedVariables false
set_option linter.unusedSimpArgs false
section
variable {w : World} {b m : Nat} {s most : Int} {L : List Nat}
theorem count_any (hb : Box1 w b 3 (.int .i64 s)) (hm : Box1 w m 3 (.int .i64 most)) (hbm : m ≠ b) (hs : 0 ≤ s ∧ s ≤ 10000) (x : Int) :
    Calls Try.prog 24 #[.int .i64 x, .pointer (some ⟨b, 0, none⟩), .pointer (some ⟨m, 0, none⟩)] w fun e w' => e = .returned (.bool (! (s + 1 == most))) ∧ Box1 w' b 3 (.int .i64 (s + 1)) ∧ Touch [b] w w' := by
  have c0 := hb.c0
  have f0 := hb.fr 0
  have lb := hb.lt
  have HB := Lib.hid (hb.set0 (.int .i64 (s + 1)))
  have t1 : Touch [b] w (w.setCell ⟨b, 0, none⟩ (.int .i64 (s + 1))) := (Touch.refl _ _).setCell (a := ⟨b, 0, none⟩) (.inl (by simp)) _
  have HM := Lib.hid (hm.carry t1 (by simpa using hbm))
  have T1 := Lib.hid t1
  have c2 := HM.out.c0
  have c1 := HB.out.c0
  clear hb hm t1
  go_enter Try.func24, Try.ntmps24
  go_upto_region 2 with fail
  generalize w.setCell ⟨b, 0, none⟩ (.int .i64 (s + 1)) = w1 at *
  go_wp2_with fail
  go_ret
  exact ⟨rfl, HB.out, T1.out⟩
end
end Go.Proofs.Ytalkpoeliekbfaa

/-
  Layer 7 (chain): All's function with ChainOrders' counting function: how many nodes are told.
-/
namespace Go.Proofs.Ytalkpoeliekbfaa
open Go.ChangeShapes Go.WideShapes Go.ChangeAt Go.RowKit Go.Deep
set_option linter.unusedVariables false
set_option linter.unusedSimpArgs false
/-- How many of n are told, if whoever counts stops at most. -/
def stopAt (most : Int) (n : Nat) : Int := if 1 ≤ most ∧ most ≤ n then most else n
def Counted (w : World) (b : Nat) (most : Int) (n : Nat) (e : Ending) (w' : World) : Prop := e = .returned (.tuple #[]) ∧ Box1 w' b 3 (.int .i64 (stopAt most n)) ∧ Touch [b] w w'
section
variable {w : World} {b m : Nat} {most : Int} {L : List Nat}
set_option maxHeartbeats 3200000 in
set_option maxRecDepth 100000 in
theorem countNodes {p l : Value} {B2 B3 : Nat} (hl5 : L.length ≤ 5000) (hb : Box1 w b 3 (.int .i64 0)) (hm : Box1 w m 3 (.int .i64 most)) (hbm : m ≠ b) (h2 : w.cell? ⟨B2, 0, none⟩ = some p) (h3 : w.cell? ⟨B3, 0, none⟩ = some l)
    (hp : (∃ q, p = .pointer q) ∧ ∃ z, l = .int .i64 z) (D : Hid (Calls Try.prog 50 #[p, l] w (NodesPost w L))) :
    Calls Try.prog 49 #[.func (.func 24) #[] #[.pointer (some ⟨b, 0, none⟩), .pointer (some ⟨m, 0, none⟩)], .pointer (some ⟨B2, 0, none⟩), .pointer (some ⟨B3, 0, none⟩)] w (Counted w b most L.length) := by
  obtain ⟨⟨q, rfl⟩, z, rfl⟩ := hp
  unfold NodesPost at D
  have HB := Lib.hid hb
  have HM := Lib.hid hm
  have lb := hb.lt
  clear hb hm
  unfold Counted
  go_enter Try.func49, Try.ntmps49
  go_wp2_with fail
  refine (D.out).mono ?_
  rintro e w2 ⟨v2, rfl, hrow, hbel⟩
  obtain ⟨An, cn, rfl⟩ := own_form hrow
  have t2 := Touch.ofBelow (S := []) hbel
  have HR := Lib.hid hrow
  have T2 := Lib.hid t2
  have HB2 := Lib.hid (HB.out.carry t2 (by simp))
  have HM2 := Lib.hid (HM.out.carry t2 (by simp))
  have hsz := t2.size
  have hcap : L.length ≤ cn ∧ cn ≤ maxLen := by
    rcases hrow.2 with ⟨h', _⟩ | ⟨g', cap', cur, h', h1, hh, h2, h3, h4, h5⟩
    · simp at h'
      omega
    · simp only [Value.slice.injEq, true_and] at h'
      omega
  unfold maxLen at hcap
  clear hrow hbel t2 D h2 h3
  go_wp2_with fail
  go_loopw [10] (fun i wr => ∃ k : Nat, k ≤ L.length ∧ i = .int .i64 k ∧ Box1 wr b 3 (.int .i64 (k : Int)) ∧ ¬ (1 ≤ most ∧ most ≤ k) ∧ Touch [b] w wr ∧ Box1 wr m 3 (.int .i64 most) ∧ wr.ownsRow w.heap.size 3 1 (.slice An L.length cn) L.length (nv L)) (fun i _ => L.length - (intOf i).toNat)
  case atStart => exact ⟨0, Nat.zero_le _, rfl, HB2.out, by omega, T2.out.mono (by simp), HM2.out, HR.out⟩
  case round =>
    obtain ⟨k, hk, rfl, hbk, hno, ht, hmk, hrow⟩ := hrel
    by_cases hlt : k < L.length
    · obtain ⟨gn, cn', hAn, _, _⟩ := hrow.form (by omega)
      simp only [Value.slice.injEq, true_and] at hAn
      obtain ⟨rfl, rfl⟩ := hAn
      obtain ⟨x, hx⟩ : ∃ x, L[k]? = some x := ⟨L[k]'hlt, List.getElem?_eq_getElem _⟩
      have z0 := hrow.cellAt k (by omega)
      rw [nv_get hx] at z0
      have Y := count_any hbk hmk hbm (by omega) (x : Int)
      have HW := Lib.hid hrow
      have HT := Lib.hid ht
      have HMK := Lib.hid hmk
      have lgn := own_lt hrow rfl
      have hgb : gn ≠ b := by
        have := own_base (b := gn) hrow rfl
        omega
      clear hbk ht hrow hx hmk
      by_cases e1 : (k : Int) + 1 = most
      · have eb : ((k : Int) + 1 == most) = true := by simpa using e1
        rw [eb] at Y
        have HY := Lib.hid Y
        clear Y
        go_wp2_with fail
        refine (HY.out).mono ?_
        rintro e w3 ⟨rfl, hb3, t3⟩
        have HB3 := Lib.hid hb3
        have T3 := Lib.hid (HT.out.trans t3 (by simp))
        have es : stopAt most L.length = (k : Int) + 1 := by unfold stopAt; rw [if_pos (by omega)]; omega
        clear hb3 t3 HY
        go_wp2_with fail
        refine bodyPost_ret (results_none rfl _ _ _) rfl ⟨rfl, ?_, T3.out⟩
        rw [es]
        exact HB3.out
      · have eb : ((k : Int) + 1 == most) = false := by simpa using e1
        rw [eb] at Y
        have HY := Lib.hid Y
        clear Y
        go_wp2_with fail
        refine (HY.out).mono ?_
        rintro e w3 ⟨rfl, hb3, t3⟩
        have HB3 := Lib.hid hb3
        have T3 := Lib.hid (HT.out.trans t3 (by simp))
        have HM3 := Lib.hid (HMK.out.carry t3 (by simpa using hbm))
        have HW3 := Lib.hid (t3.row HW.out (fun g hg hm' => by simp [Value.ownBlock] at hg hm'; omega))
        clear hb3 t3 HY HMK
        go_wp2_with fail
        go_roundw
        case rel => exact ⟨k + 1, by omega, by go_num, by simpa using HB3.out, by omega, T3.out, HM3.out, HW3.out⟩
        case measure => simp [intOf]; omega
    · obtain rfl : k = L.length := by omega
      have es : stopAt most L.length = (L.length : Int) := by unfold stopAt; rw [if_neg hno]
      rw [← es] at hbk
      have HB3 := Lib.hid hbk
      have HT := Lib.hid ht
      clear hbk ht hrow hmk
      go_wp2
      go_end0
      exact ⟨rfl, HB3.out, HT.out⟩
end
end Go.Proofs.Ytalkpoeliekbfaa

/-
  Layer 7 (chain): lists that aren't there, whose nodes are asked for.
-/
namespace Go.Proofs.Ytalkpoeliekbfaa
open Go.ChangeShapes Go.WideShapes Go.ChangeAt Go.RowKit Go.Deep
set_option linter.unusedVariables false
set_option linter.unusedSimpArgs false
theorem allNil (l : Int) (w : World) : Calls Try.prog 22 #[.pointer none, .int .i64 l] w fun e w' => (∃ A c, e = .returned (.slice A 0 c)) ∧ Touch [] w w' := by
  refine (all_any (L := []) none l (by simp) (Lib.hid fun w1 t => nodes_none _ _ w1 (Lib.hid (first_of_none _ l w1 (Lib.hid (len_nil l w1)))))).mono ?_
  rintro e w' ⟨u, rfl, ho, t⟩
  obtain ⟨A, c, rfl⟩ := own_form ho
  exact ⟨⟨A, c, rfl⟩, t⟩
set_option maxHeartbeats 1600000 in
set_option maxRecDepth 100000 in
theorem orders_long (A : Option Addr) (n c : Nat) (most : Int) (w : World) (h60 : 60 < n) :
    Calls Try.prog 4 #[.slice A n c, .int .i64 most] w fun e w' => e = .returned (.bool true) ∧ Touch [] w w' := by
  have HB := Lib.hid (Box1.new w 3 (.int .i64 most))
  have t1 : Touch [] w (w.alloc (.cells #[.int .i64 most] 3)) := (Touch.refl [] w).alloc _
  have T1 := Lib.hid t1
  have y0 : decide (60 < (n : Int)) = true := by simp; omega
  clear t1 h60
  go_enter Try.func4, Try.ntmps4
  go_upto_region 2 with fail
  generalize w.alloc (.cells #[.int .i64 most] 3) = w1 at *
  generalize hbm : w.heap.size = bm at *
  have H1 := Lib.hid (pop_nil 0 w1)
  unfold firstTold at H1
  go_wp2_with fail
  refine (H1.out).mono ?_
  rintro e w2 ⟨rfl, rfl⟩
  have H2 := Lib.hid (push_nil 0 0 w2)
  go_wp2_with fail
  refine (H2.out).mono ?_
  rintro e w3 ⟨rfl, rfl⟩
  have H3 := Lib.hid (join_nil 0 1 w3)
  go_wp2_with fail
  refine (H3.out).mono ?_
  rintro e w4 ⟨rfl, t4⟩
  have H4 := Lib.hid (len_nil 0 w4)
  go_wp2_with fail
  refine (H4.out).mono ?_
  rintro e w5 ⟨rfl, rfl⟩
  have H5 := Lib.hid (copyC_nil w5)
  go_wp2_with fail
  refine (H5.out).mono ?_
  rintro e w6 ⟨rfl, rfl⟩
  have H6 := Lib.hid (allNil 0 w6)
  go_wp2_with fail
  refine (H6.out).mono ?_
  rintro e w7 ⟨⟨A7, c7, rfl⟩, t7⟩
  have H7 := Lib.hid (where_nil 0 w7)
  unfold firstTold at H7
  go_wp2_with fail
  refine (H7.out).mono ?_
  rintro e w8 ⟨rfl, rfl⟩
  go_wp2_with fail
  refine (chainLives_any w8).mono ?_
  rintro e w9 ⟨rfl, t9⟩
  have T9 := Lib.hid (((T1.out.trans t4 (by simp)).trans t7 (by simp)).trans t9 (by simp))
  clear t4 t7 t9 H1 H2 H3 H4 H5 H6 H7 T1 HB
  go_wp2_with fail
  go_ret
  exact ⟨rfl, T9.out⟩
end Go.Proofs.Ytalkpoeliekbfaa

/-
  Layer 7 (chain): ChainOrders' two lists, by what it is given (mathematics only).
-/
namespace Go.Proofs.Ytalkpoeliekbfaa
set_option linter.unusedVariables false
set_option linter.unusedSimpArgs false
/-- The indices below k that are told so. -/
def pick (f : Nat → Bool) (k : Nat) : List Nat := (List.range k).filter f
theorem pick_succ (f : Nat → Bool) (k : Nat) : pick f (k + 1) = if f k = true then pick f k ++ [k] else pick f k := by
  unfold pick
  rw [List.range_succ, List.filter_append]
  by_cases h : f k = true
  · simp [h]
  · simp [h]
theorem pick_lt {f : Nat → Bool} {k x : Nat} (h : x ∈ pick f k) : x < k := by
  unfold pick at h
  simp at h
  exact h.1
theorem pick_len (f : Nat → Bool) (k : Nat) : (pick f k).length ≤ k := by
  unfold pick
  have := List.length_filter_le f (List.range k)
  simpa using this
/-- What the two lists hold after k pushes. -/
def twoX (f : Nat → Bool) (k : Nat) : Nat → List Nat := fun i => if i = 0 then pick f k else if i = 1 then pick (fun j => ! f j) k else []
theorem twoX_yes {f : Nat → Bool} {k : Nat} (h : f k = true) : setL (twoX f k) 0 (twoX f k 0 ++ [k]) = twoX f (k + 1) := by
  funext i
  unfold setL twoX
  rcases (show i = 0 ∨ i = 1 ∨ (i ≠ 0 ∧ i ≠ 1) by omega) with rfl | rfl | ⟨h0, h1⟩
  · simp [pick_succ, h]
  · simp [pick_succ, h]
  · simp [h0, h1]
theorem twoX_no {f : Nat → Bool} {k : Nat} (h : f k = false) : setL (twoX f k) 1 (twoX f k 1 ++ [k]) = twoX f (k + 1) := by
  funext i
  unfold setL twoX
  rcases (show i = 0 ∨ i = 1 ∨ (i ≠ 0 ∧ i ≠ 1) by omega) with rfl | rfl | ⟨h0, h1⟩
  · simp [pick_succ, h]
  · simp [pick_succ, h]
  · simp [h0, h1]
theorem twoX_zero (f : Nat → Bool) : twoX f 0 = fun _ => [] := by
  funext i
  unfold twoX pick
  simp
/-- The next one is in neither. -/
theorem twoX_free (f : Nat → Bool) (k i : Nat) : k ∉ twoX f k i := by
  unfold twoX
  intro h
  split at h
  · have := pick_lt h
    omega
  · split at h
    · have := pick_lt h
      omega
    · simp at h
end Go.Proofs.Ytalkpoeliekbfaa
