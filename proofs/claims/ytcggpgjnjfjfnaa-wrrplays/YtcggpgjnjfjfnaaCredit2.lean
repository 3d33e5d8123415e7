/-
  Contracts of layer 30 (credit): Give, Spend, Visit.
-/
import Derived.Test.YtcggpgjnjfjfnaaCredit
import Derived.Test.YtcggpgjnjfjfnaaCls
namespace Go.Proofs.Ytcggpgjnjfjfnaa
open Go.ChangeShapes Go.WideShapes Go.ChangeAt Go.RowKit Go.Deep Go.Maps
set_option linter.unusedVariables false

def updC (C : Int → Option (Int × Int)) (i : Int) (x : Option (Int × Int)) : Int → Option (Int × Int) := fun j => if j = i then x else C j
theorem updC_same (C : Int → Option (Int × Int)) (i : Int) (x : Option (Int × Int)) : updC C i x i = x := if_pos rfl
theorem updC_other (C : Int → Option (Int × Int)) {i j : Int} (x : Option (Int × Int)) (h : j ≠ i) : updC C i x j = C j := if_neg h
theorem put_acc (C : Int → Option (Int × Int)) (i : Int) (x : Option (Int × Int)) : put (accM C) i (x.map accV) = accM (updC C i x) := by
  funext j
  unfold put accM updC
  split <;> rfl
theorem clampC_in {q n : Int} (h1 : 1 ≤ q) : -65536 ≤ clampC q n ∧ clampC q n ≤ q := by
  unfold clampC
  repeat' split
  all_goals omega
theorem ok_upd {C : Int → Option (Int × Int)} (h : ∀ i x, C i = some x → okAcc x) (i : Int) (y : Option (Int × Int)) (hy : ∀ x, y = some x → okAcc x) : ∀ j x, updC C i y j = some x → okAcc x := by
  intro j x hx
  unfold updC at hx
  split at hx
  · exact hy x hx
  · exact h j x hx

section
variable {w : World} {p b s : Nat} {C : Int → Option (Int × Int)}

/-- A call that tells v, behind which the accounts are C'. -/
def CredPost (p b s : Nat) (C' : Int → Option (Int × Int)) (v : Value) (w : World) (e : Ending) (w' : World) : Prop := e = .returned v ∧ CredAt w' p b s C' ∧ Touch [b] w w'

theorem set_touch (c q n : Int) (w : World) (hq : 1 ≤ q) :
    Calls Try.prog 64 #[.agg #[.int .i64 c, .int .i64 q], .int .i64 n] w fun e w' => e = .returned (.agg #[.int .i64 (clampC q n), .int .i64 q]) ∧ Touch [] w w' :=
  (set_any c q n w hq).mono fun e w' ⟨he, hw⟩ => ⟨he, hw ▸ ((Touch.refl [] w).alloc _).alloc _⟩

/-- What a region that writes the account i sees: the map, the account's copy in block w1.heap.size. -/
structure Sees (w w1 w2 : World) (p b s : Nat) (C : Int → Option (Int × Int)) (c q : Int) : Prop where
  at2 : CredAt w2 p b s C
  a0 : w2.cell? ⟨w1.heap.size, 0, none⟩ = some (.int .i64 c)
  a1 : w2.cell? ⟨w1.heap.size, 1, none⟩ = some (.int .i64 q)
  lt : w1.heap.size < w2.heap.size
  t : Touch [] w w2
  le : w.heap.size ≤ w1.heap.size
theorem Sees.mk' {w w1 : World} {p b s : Nat} {C : Int → Option (Int × Int)} (h : CredAt w p b s C) (t : Touch [] w w1) (c q : Int) : Sees w w1 (w1.alloc (.cells #[.int .i64 c, .int .i64 q] 95)) p b s C c q := by
  have hb := Box2.new w1 95 (.int .i64 c) (.int .i64 q)
  exact ⟨h.carry (t.alloc _) (by simp) (by simp), hb.c0, hb.c1, hb.lt, t.alloc _, t.size⟩
theorem Sees.on {w w1 w2 w3 : World} {p b s : Nat} {C : Int → Option (Int × Int)} {c q : Int} (h : Sees w w1 w2 p b s C c q) (t : Touch [] w2 w3) : Sees w w1 w3 p b s C c q :=
  ⟨h.at2.carry t (by simp) (by simp), (t.cell (a := ⟨_, 0, none⟩) h.lt (by simp)).trans h.a0, (t.cell (a := ⟨_, 1, none⟩) h.lt (by simp)).trans h.a1, Nat.lt_of_lt_of_le h.lt t.size, h.t.trans t (by simp), h.le⟩

/-- The store that ends such a region. -/
theorem Sees.store {w w1 w2 : World} {p b s : Nat} {C : Int → Option (Int × Int)} {c q i : Int} (h : Sees w w1 w2 p b s C c q) (hi : i64k i) (hs : s < 1000) {x : Int × Int} (hx : C i = some x) (r q' : Int) (hr : okAcc (r, q')) :
    ∃ w3, (Instr.mapUpdate 91 (.map (some b)) (.int .i64 i) (.agg #[.int .i64 r, .int .i64 q'])).run Try.prog w2 = .ok () w3 ∧ CredAt w3 p b s (updC C i (some (r, q'))) ∧ Touch [b] w w3 ∧ Touch [b] w2 w3 := by
  obtain ⟨w3, hrun, hm, ht⟩ := h.at2.map.store Try.underlying3 Try.underlying91 (by unfold maxLen; omega) hi (.agg #[.int .i64 r, .int .i64 q'])
  have hi' : (accM C i).isSome = true := by simp [accM, hx]
  rw [if_pos hi'] at hm
  refine ⟨w3, hrun, ⟨h.at2.box.carry ht (by simpa using h.at2.ne), ?_, ok_upd h.at2.ok i _ (by rintro x ⟨⟩; exact hr)⟩, (h.t.mono (S' := [b]) (by simp)).trans ht (by simp), ht⟩
  rw [← put_acc]
  exact hm

set_option maxHeartbeats 1000000 in
theorem give_yes (h : CredAt w p b s C) (i n : Int) (hi : i64k i) (x : Int × Int) (hx : C i = some x) (hs : s < 1000) :
    Calls Try.prog 57 #[.pointer (some ⟨p, 0, none⟩), .int .i64 i, .int .i64 n] w (CredPost p b s (updC C i (some (clampC x.2 (n), x.2))) (.bool true) w) := by
  have D := Lib.hid (find_yes h i hi x hx)
  obtain ⟨c, q⟩ := x
  have hk := h.ok i _ hx
  have HX := Lib.hid hx
  have hq : 1 ≤ q := hk.1
  have hr := clampC_in (n := n) hq
  have HR := Lib.hid (show okAcc (clampC q (n), q) from ⟨hk.1, hk.2.1, hr.1, hr.2⟩)
  have H := Lib.hid h
  clear h hx hk hr
  go_enter Try.func57, Try.ntmps57
  go_wp2_with fail
  refine (D.out).mono ?_
  rintro e w1 ⟨rfl, t1⟩
  have h2 := Sees.mk' H.out t1 c q
  clear t1
  go_upto_region 3 with fail
  generalize w1.alloc (.cells #[.int .i64 c, .int .i64 q] 95) = w2 at *
  have k0 : ∀ x : Cls w2, x.val.cell? ⟨p, 0, none⟩ = some (.map (some b)) := fun x => (h2.on x.property).at2.box.c0
  have k1 : ∀ x : Cls w2, x.val.cell? ⟨w1.heap.size, 0, none⟩ = some (.int .i64 c) := fun x => (h2.on x.property).a0
  have k2 : ∀ x : Cls w2, x.val.cell? ⟨w1.heap.size, 1, none⟩ = some (.int .i64 q) := fun x => (h2.on x.property).a1
  have H2 := Lib.hid h2
  clear h2
  refine wp_region_tail (wd := w2) 8 (by kernel_rfl) (by kernel_rfl) ((Touch.refl _ _).drew) ?_
  simp only [List.take_succ_cons, List.take_zero, List.drop_succ_cons, List.drop_zero]
  repeat (first | go_big_quiet_step (((go_at_call 64; exact Calls.cls_at (set_touch _ _ _ _ hq)))) | quiet_step (((go_at_call 64; exact Calls.cls_at (set_touch _ _ _ _ hq)))))
  refine wpQuiet_nil ?_
  intro x
  obtain ⟨w3, hrun, ha, ht, _⟩ := (H2.out.on x.property).store hi hs HX.out _ q HR.out
  have HA := Lib.hid ha
  have HT := Lib.hid ht
  clear ha ht k0 k1 k2
  go_wp2_with fail
  go_ret
  exact ⟨rfl, HA.out, HT.out⟩
theorem give_no (i n : Int) (v : Value) (D : Hid (Calls Try.prog 63 #[v, .int .i64 i] w (FindPost (0, 0) false w))) :
    Calls Try.prog 57 #[v, .int .i64 i, .int .i64 n] w fun e w' => e = .returned (.bool false) ∧ Touch [] w w' := by
  go_enter Try.func57, Try.ntmps57
  go_wp2_with fail
  refine (D.out).mono ?_
  rintro e w1 ⟨rfl, t1⟩
  have T1 := Lib.hid t1
  clear t1
  go_wp2_with fail
  go_ret
  exact ⟨rfl, T1.out.alloc _⟩

end
end Go.Proofs.Ytcggpgjnjfjfnaa
