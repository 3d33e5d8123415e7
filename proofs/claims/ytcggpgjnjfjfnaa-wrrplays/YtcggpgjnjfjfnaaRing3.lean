/-
  Contracts of layer 29 (ring): Head, Turn, Order, and what a ring that isn't there tells; SameInts.
-/
import Derived.Test.YtcggpgjnjfjfnaaRing2
import Derived.Test.YtcggpgjnjfjfnaaInts
namespace Go.Proofs.Ytcggpgjnjfjfnaa
open Go.ChangeShapes Go.WideShapes Go.ChangeAt Go.RowKit Go.Deep Go.Maps
set_option linter.unusedVariables false

theorem rg_int_info : (Try.prog.info? 3).map (fun i => (i.zero, i.size, i.bytes)) = some (some (.int .i64 0), 1, 8) := by kernel_rfl

section
variable {w w' : World} {p b1 b2 n : Nat} {x : Nat → Int}
theorem Ringed.head (h : Ringed w p b1 b2 n x) (h0 : 0 < n) :
    Calls Try.prog 37 #[.pointer (some ⟨p, 0, none⟩)] w fun e w' => e = .returned (.tuple #[.int .i64 (x 0), .bool true]) ∧ w' = w := by
  have L := Lib.hid h.len
  obtain ⟨hd, N, Q, a, c⟩ := h
  have c2 := a.box.c2
  rw [← c.head h0]
  have b0 : ((n : Int) == 0) = false := by simp; omega
  clear a c h0
  go_enter Try.func37, Try.ntmps37
  go_wp2_with fail
  refine (L.out).mono ?_
  rintro e w ⟨rfl, rfl⟩
  go_wp2_with fail
  go_ret2
  exact ⟨rfl, rfl⟩
theorem head_none (v : Value) (w : World) (L : Hid (Calls Try.prog 38 #[v] w fun e w' => e = .returned (.int .i64 0) ∧ w' = w)) :
    Calls Try.prog 37 #[v] w fun e w' => e = .returned (.tuple #[.int .i64 0, .bool false]) ∧ w' = w := by
  go_enter Try.func37, Try.ntmps37
  go_wp2_with fail
  refine (L.out).mono ?_
  rintro e w ⟨rfl, rfl⟩
  go_wp2_with fail
  go_ret2
  exact ⟨rfl, rfl⟩
def TurnPost (p b1 b2 n : Nat) (x : Nat → Int) (w : World) (e : Ending) (w' : World) : Prop := e = .returned (.tuple #[.int .i64 (x 0), .bool true]) ∧ Ringed w' p b1 b2 n (fun i => x (i + 1)) ∧ Touch [p] w w'
theorem Ringed.turn (h : Ringed w p b1 b2 n x) (h0 : 0 < n) :
    Calls Try.prog 33 #[.pointer (some ⟨p, 0, none⟩)] w (TurnPost p b1 b2 n x w) := by
  have D := Lib.hid (h.head h0)
  obtain ⟨hd, N, Q, a, c⟩ := h
  have c0 := a.box.c0
  have c2 := a.box.c2
  have fr : w.frozen? ⟨p, 2, none⟩ = false := frozen_of_row w p 2 _ 89 a.box
  have hl := a.m1.look Try.underlying3 Try.underlying87 (intZero _) (c.i64 h0 0)
  rw [lnk_get, c.next h0] at hl
  simp only [Option.getD_some] at hl
  obtain ⟨a1, t1⟩ := a.head (x 1)
  have A1 := Lib.hid (show Ringed _ p b1 b2 n (fun i => x (i + 1)) from ⟨_, _, _, a1, c.turn h0⟩)
  have T1 := Lib.hid t1
  unfold TurnPost
  generalize x (0 + 1) = y at *
  generalize x 0 = x0 at *
  clear a a1 t1 c h0
  go_enter Try.func33, Try.ntmps33
  go_wp2_with fail
  refine (D.out).mono ?_
  rintro e w ⟨rfl, rfl⟩
  go_wp2_with fail
  go_ret2
  exact ⟨rfl, A1.out, T1.out⟩
theorem turn_none (v : Value) (w : World) (L : Hid (Calls Try.prog 38 #[v] w fun e w' => e = .returned (.int .i64 0) ∧ w' = w)) :
    Calls Try.prog 33 #[v] w fun e w' => e = .returned (.tuple #[.int .i64 0, .bool false]) ∧ w' = w := by
  go_enter Try.func33, Try.ntmps33
  go_wp2_with fail
  refine (head_none _ _ L).mono ?_
  rintro e w ⟨rfl, rfl⟩
  go_wp2_with fail
  go_ret2
  exact ⟨rfl, rfl⟩

def OrderPost (n : Nat) (x : Nat → Int) (w : World) (e : Ending) (w' : World) : Prop := ∃ v, e = .returned v ∧ w'.ownsRow w.heap.size 3 1 v n (iv x n) ∧ Below w.heap.size w w'
theorem order_none (v : Value) (w : World) (L : Hid (Calls Try.prog 38 #[v] w fun e w' => e = .returned (.int .i64 0) ∧ w' = w)) :
    Calls Try.prog 40 #[v] w fun e w' => e = .returned (.slice none 0 0) ∧ w' = w := by
  go_enter Try.func40, Try.ntmps40
  go_wp2_with fail
  refine (head_none _ _ L).mono ?_
  rintro e w ⟨rfl, rfl⟩
  go_wp2_with fail
  refine (L.out).mono ?_
  rintro e w ⟨rfl, rfl⟩
  go_wp2_with fail
  go_loopw [5, 13] (fun v i wr => v = .slice none 0 0 ∧ i = .int .i64 0 ∧ wr = w) (fun _ _ _ => 0)
  case atStart => exact ⟨rfl, rfl, rfl⟩
  case round =>
    obtain ⟨rfl, rfl, rfl⟩ := hrel
    go_wp2_with fail
    go_ret
    exact ⟨rfl, rfl⟩

set_option maxHeartbeats 1000000 in
theorem Ringed.order (h : Ringed w p b1 b2 n x) (hn : n ≤ 100000) :
    Calls Try.prog 40 #[.pointer (some ⟨p, 0, none⟩)] w (OrderPost n x w) := by
  by_cases h0 : n = 0
  · subst h0
    have hl := h.len
    rw [show (((0 : Nat) : Int)) = 0 from rfl] at hl
    refine (order_none _ _ (Lib.hid hl)).mono ?_
    rintro e w' ⟨rfl, rfl⟩
    exact ⟨_, rfl, World.ownsRow_nil _ _ _ _, Below.refl _ _⟩
  · have D := Lib.hid (h.head (by omega))
    have L := Lib.hid h.len
    obtain ⟨hd, N, Q, a, c⟩ := h
    have HB := Lib.hid a
    have C := Lib.hid c
    have H0 := Lib.hid h0
    obtain ⟨i0, hi0, hz0, hz1, hz2⟩ := info_parts rg_int_info
    have hp : ∀ wr, Below w.heap.size w wr → wr.cell? ⟨p, 0, none⟩ = some (.map (some b1)) := fun wr hb => (hb.cell (p := ⟨p, 0, none⟩) a.box.lt).trans a.box.c0
    have HP := Lib.hid hp
    have HK := Lib.hid (show ∀ wr, Below w.heap.size w wr → ∀ k, (Instr.lookup 87 (.map (some b1)) (.int .i64 (x k)) false).run Try.prog wr = .ok (.int .i64 (x (k + 1))) wr from fun wr hb k => by
      have := (a.m1.carry (Touch.ofBelow (S := []) hb) (by simp)).look Try.underlying3 Try.underlying87 (intZero _) (c.i64 (by omega) k)
      rwa [lnk_get, c.next (by omega)] at this)
    clear a c h0 hp
    go_enter Try.func40, Try.ntmps40
    go_wp2_with fail
    refine (D.out).mono ?_
    rintro e w ⟨rfl, rfl⟩
    go_wp2_with fail
    refine (L.out).mono ?_
    rintro e w ⟨rfl, rfl⟩
    go_wp2_with fail
    go_loopw [3, 5, 13] (fun z v i wr => ∃ k : Nat, k ≤ n ∧ z = .int .i64 (x k) ∧ i = .int .i64 k ∧ wr.ownsRow w.heap.size 3 1 v k (iv x k) ∧ Below w.heap.size w wr) (fun _ _ i _ => n - (intOf i).toNat)
    case atStart => exact ⟨0, Nat.zero_le _, rfl, rfl, World.ownsRow_nil _ _ _ _, Below.refl _ _⟩
    case round =>
      obtain ⟨k, hk, rfl, rfl, hown, hbl⟩ := hrel
      by_cases hlt : k < n
      · have HF := Lib.hid (iv_next' x k)
        have hsz := hbl.size
        generalize iv x k = L at *
        go_upto_region 6 with (at_builtin; refine wpList_append_own _ rfl (.tmp 15) (.tmp 17) 31 rfl w.heap.size 3 i0 (.int .i64 0) 1 8 Try.underlying31 hi0 hz0 hz1 hz2 rfl (by decide) u5 k L rfl (hown.alloc _) ⟨wr.heap.size, 0, none⟩ 1 1 [.int .i64 (x k)] rfl rfl (cell_one_new _ _ _) (by intro u hu; simp at hu; subst hu; rfl) (by unfold maxLen; omega) (by omega) (by simp; omega) ?_; intro v' w2 hown' hgrow hnil)
        have hb2 : Below w.heap.size w w2 := by
          refine (hbl.alloc hsz _).grown hgrow (by simp; omega) ?_
          intro j hj
          rcases hown.2 with ⟨rfl, _⟩ | ⟨g, cap, cur, rfl, hg, _⟩
          · simp [Value.ownBlock] at hj
          · simp [Value.ownBlock] at hj
            omega
        have HB2 := Lib.hid hb2
        have e0 := HP.out w2 hb2
        have e1 := HK.out w2 hb2 k
        rw [← HF.out] at hown'
        have HO := Lib.hid hown'
        clear hb2 hgrow hown hbl hown' hnil
        go_wp2_with fail
        go_roundw
        case rel => exact ⟨k + 1, by omega, rfl, by go_num, HO.out, HB2.out⟩
        case measure => simp [intOf]; omega
      · obtain rfl : k = n := by omega
        go_wp2
        go_ret
        exact ⟨_, rfl, hown, hbl⟩

theorem own_cells {w : World} {base : Nat} {v : Value} {n : Nat} {X : Nat → Int} (h : w.ownsRow base 3 1 v n (iv X n)) : ∃ A cap, v = .slice A n cap ∧ n ≤ cap ∧ cap ≤ maxLen ∧ IntCells w w.heap.size A n X := by
  rcases h.2 with ⟨rfl, rfl⟩ | ⟨g, cap, cur, rfl, hg, hh, h2, h3, h4, h5⟩
  · exact ⟨none, 0, rfl, Nat.le_refl _, by unfold maxLen; omega, fun i hi => by omega⟩
  · refine ⟨some ⟨g, 0, none⟩, cap, rfl, h2, h3, fun i hi => ⟨g, 0, rfl, (Array.getElem?_eq_some_iff.1 hh).1, ?_⟩⟩
    have hx := iv_get X hi
    rw [← h5] at hx
    rw [Nat.zero_add, World.cell?, hh]
    simpa [List.getElem?_take, hi] using hx

theorem IntCells.touch {w w' : World} {A : Option Addr} {n : Nat} {X : Nat → Int} (h : IntCells w w.heap.size A n X) (t : Touch [] w w') : IntCells w' w'.heap.size A n X := fun i hi => by
  obtain ⟨b, off, hA, hb, hc⟩ := h i hi
  exact ⟨b, off, hA, Nat.lt_of_lt_of_le hb t.size, (t.cell (a := ⟨b, off + i, none⟩) hb (by simp)).trans hc⟩

theorem sameInts_yes {A A' : Option Addr} {n c c' : Nat} {X X' : Nat → Int} {w : World} (h : IntCells w w.heap.size A n X) (h' : IntCells w w.heap.size A' n X') (he : ∀ i, i < n → X i = X' i) (hn : n ≤ 100000) :
    Calls Try.prog 25 #[.slice A n c, .slice A' n c'] w fun e w' => e = .returned (.bool true) ∧ Touch [] w w' := by
  have H := Lib.hid h
  have H' := Lib.hid h'
  have HE := Lib.hid he
  clear h h' he
  go_enter Try.func25, Try.ntmps25
  go_wp2
  go_loopw [5] (fun i wr => ∃ k : Nat, k ≤ n ∧ i = .int .i64 k ∧ Touch [] w wr) (fun i _ => n - (intOf i).toNat)
  case atStart => exact ⟨0, Nat.zero_le _, rfl, Touch.refl _ _⟩
  case round =>
    obtain ⟨k, hk, rfl, ht⟩ := hrel
    by_cases hlt : k < n
    · obtain ⟨b, off, hA, hb, hc⟩ := H.out.touch ht.drew k hlt
      obtain ⟨b', off', hA', hb', hc'⟩ := H'.out.touch ht.drew k hlt
      rw [← HE.out k hlt] at hc'
      subst hA hA'
      generalize X k = y at *
      have HT := Lib.hid ht
      clear ht
      go_wp2_with fail
      go_region
      all_goals
        go_wp2
        go_roundw
        case rel => exact ⟨k + 1, by omega, by go_num, HT.out.drew⟩
        case measure => simp [intOf]; omega
    · obtain rfl : k = n := by omega
      go_wp2
      go_ret
      exact ⟨rfl, ht⟩

theorem add_nil (i : Int) (w : World) : Calls Try.prog 29 #[.pointer none, .int .i64 i] w fun e w' => e = .returned (.bool false) ∧ w' = w := by
  go_enter Try.func29, Try.ntmps29
  go_wp2
  go_ret
  exact ⟨rfl, rfl⟩
theorem drop_nil (i : Int) (w : World) : Calls Try.prog 31 #[.pointer none, .int .i64 i] w fun e w' => e = .returned (.bool false) ∧ w' = w := by
  go_enter Try.func31, Try.ntmps31
  go_wp2_with fail
  refine (ringHas_nil _ _).mono ?_
  rintro e w ⟨rfl, rfl⟩
  go_wp2_with fail
  go_ret
  exact ⟨rfl, rfl⟩
theorem clear_nil (w : World) : Calls Try.prog 36 #[.pointer none] w fun e w' => e = .returned (.tuple #[]) ∧ w' = w := by
  go_enter Try.func36, Try.ntmps36
  go_wp2
  exact bodyPost_ret (v := .tuple #[]) (by simp [results, Try.results36, go_sem]) rfl ⟨rfl, rfl⟩
theorem ringCopy_nil (w : World) : Calls Try.prog 35 #[.pointer none] w fun e w' => e = .returned (.pointer none) ∧ w' = w := by
  go_enter Try.func35, Try.ntmps35
  go_wp2
  go_ret
  exact ⟨rfl, rfl⟩
end
end Go.Proofs.Ytcggpgjnjfjfnaa
