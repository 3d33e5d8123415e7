/-
  Layer 29 (ring): All's function called with the law's own function, which counts up to a number.
-/
import Derived.Test.YtcggpgjnjfjfnaaRingRef
namespace Go.Proofs.Ytcggpgjnjfjfnaa
open Go.ChangeShapes Go.WideShapes Go.ChangeAt Go.RowKit Go.Deep Go.Maps
set_option linter.unusedVariables false

theorem counter_any {w : World} {bn bm : Nat} {c m : Int} (y : Int) (t : TypeId) (hn : Box1 w bn t (.int .i64 c)) (hm : w.cell? ⟨bm, 0, none⟩ = some (.int .i64 m)) (hne : bm ≠ bn) (hc : 0 ≤ c ∧ c ≤ 1000000) (q : Bool) (hq : q = (c + 1 != m)) :
    Calls Try.prog 42 #[.int .i64 y, .pointer (some ⟨bn, 0, none⟩), .pointer (some ⟨bm, 0, none⟩)] w fun e w' => e = .returned (.bool q) ∧ w' = w.setCell ⟨bn, 0, none⟩ (.int .i64 (c + 1)) := by
  have c0 := hn.c0
  have fr := hn.fr 0
  have b1 : (c + 1 != m) = q := hq.symm
  clear hn hq
  go_enter Try.func42, Try.ntmps42
  go_wp2
  go_ret
  exact ⟨rfl, rfl⟩

set_option maxHeartbeats 1000000 in
theorem allCounted {w : World} {p b1 b2 n Bs bn bm : Nat} {x : Nat → Int} {m : Int} (t : TypeId) (h : Ringed w p b1 b2 n x) (hn : n ≤ 1000) (hBs : w.cell? ⟨Bs, 0, none⟩ = some (.pointer (some ⟨p, 0, none⟩)))
    (hb : Box1 w bn t (.int .i64 0)) (hm : w.cell? ⟨bm, 0, none⟩ = some (.int .i64 m)) (hml : bm < w.heap.size) (hne : bm ≠ bn) :
    Calls Try.prog 62 #[.func (.func 42) #[] #[.pointer (some ⟨bn, 0, none⟩), .pointer (some ⟨bm, 0, none⟩)], .pointer (some ⟨Bs, 0, none⟩)] w fun e w' =>
      e = .returned (.tuple #[]) ∧ (∃ c : Int, Box1 w' bn t (.int .i64 c) ∧ (c = n ∨ c = m)) ∧ Touch [bn] w w' := by
  have O := Lib.hid (h.order (by omega))
  clear h
  have HB := Lib.hid hb
  have HM := Lib.hid hm
  have hnl := hb.lt
  clear hb hm
  go_enter Try.func62, Try.ntmps62
  go_wp2_with fail
  refine (O.out).mono ?_
  rintro e w2 ⟨v, rfl, ho, hb⟩
  obtain ⟨A, cap, rfl, hcap, hmax, hfar⟩ := own_far ho
  have tb := Touch.ofBelow (S := []) hb
  have HB2 := Lib.hid (HB.out.carry tb (by simp))
  have HM2 := Lib.hid ((tb.cell (a := ⟨bm, 0, none⟩) hml (by simp)).trans HM.out)
  have HF := Lib.hid hfar
  have HT := Lib.hid tb
  have hsz := tb.size
  generalize w.heap.size = lo at *
  clear ho hb hfar hcap hmax O hBs tb
  go_wp2_with fail
  go_loopw [8] (fun i wr => ∃ k : Nat, k ≤ n ∧ i = .int .i64 k ∧ Box1 wr bn t (.int .i64 (k : Int)) ∧ Touch [bn] w2 wr) (fun i _ => n - (intOf i).toNat)
  case atStart => exact ⟨0, Nat.zero_le _, rfl, HB2.out, Touch.refl _ _⟩
  case round =>
    obtain ⟨k, hk, rfl, hbk, ht⟩ := hrel
    by_cases hlt : k < n
    · obtain ⟨b, off, rfl, _, hbl, hcell⟩ := HF.out.touch ht (by simpa using hnl) k hlt
      have hmc := (ht.cell (a := ⟨bm, 0, none⟩) (by simp; omega) (by simpa using hne)).trans HM2.out
      have HT2 := Lib.hid ht
      have HBk := Lib.hid hbk
      clear ht
      generalize x k = y at *
      by_cases hq : (k : Int) + 1 = m
      · have Y := Lib.hid (counter_any y t hbk hmc hne (by omega) false (by simpa using hq))
        clear hbk
        go_wp2_with fail
        refine (Y.out).mono ?_
        rintro e w3 ⟨rfl, rfl⟩
        go_wp2_with fail
        exact bodyPost_ret (v := .tuple #[]) (by simp [results, Try.results62, go_sem]) rfl ⟨rfl, ⟨_, HBk.out.set0 _, .inr rfl⟩, ((HT.out.mono (S' := [bn]) (by simp)).trans HT2.out (by simp)).setCell (a := ⟨bn, 0, none⟩) (by simp) _⟩
      · have Y := Lib.hid (counter_any y t hbk hmc hne (by omega) true (by simpa using hq))
        clear hbk
        go_wp2_with fail
        refine (Y.out).mono ?_
        rintro e w3 ⟨rfl, rfl⟩
        go_wp2_with fail
        go_roundw
        case rel => exact ⟨k + 1, by omega, by go_num, HBk.out.set0 _, HT2.out.setCell (by simp) _⟩
        case measure => simp [intOf]; omega
    · obtain rfl : k = n := by omega
      go_wp2
      go_end0
      exact ⟨rfl, ⟨_, hbk, .inl rfl⟩, (HT.out.mono (by simp)).trans ht (by simp)⟩
end Go.Proofs.Ytcggpgjnjfjfnaa
