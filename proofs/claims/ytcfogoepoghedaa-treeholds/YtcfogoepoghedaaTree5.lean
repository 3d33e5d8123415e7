/-
  Layer 18 (tree): circular: does some class never leave the tree on its way up?
-/
import Derived.Test.YtcfogoepoghedaaTree3
namespace Go.Proofs.Ytcfogoepoghedaa
open Go.ChangeShapes Go.WideShapes Go.ChangeAt Go.RowKit Go.Deep Go.Maps
set_option linter.unusedVariables false
set_option linter.unusedSimpArgs false
section
variable {w w' : World} {b : TB} {d : TD} {sC sK sL : Nat}
theorem entAbove (args : Array Value) (w : World) : (callFunc 36 args).run Try.prog w = .ok (.enter 36 args) w := by
  simp [callFunc, Try.func36]
  rfl
theorem rise_in64 {up : Int → Int} (hU : ∀ i, i64k (up i)) {i : Int} (hi : i64k i) : ∀ k, i64k (rise up k i)
  | 0 => hi
  | k + 1 => by rw [rise_succ]; exact hU _
set_option maxRecDepth 100000 in
set_option maxHeartbeats 3200000 in
theorem tree_circular (h : TreeAt w b d sC sK sL) (hs : sC ≤ 1000) (hU : ∀ i, i64k (upC d.C i)) : Calls Try.prog 26 #[.pointer (some ⟨b.p, 0, Option.none⟩)] w fun e w' =>
    (e = .returned (.bool true) ∧ (∃ i, i64k i ∧ (d.C i).isSome = true ∧ rise (upC d.C) sC i ≠ 0) ∨ e = .returned (.bool false) ∧ ∀ i, i64k i → (d.C i).isSome = true → rise (upC d.C) sC i = 0) ∧ Touch [] w w' := by
  obtain ⟨c0, c1, c2, c3⟩ := h.cells
  have lp := h.box.lt
  obtain ⟨D, hown, hsz, hD⟩ := h.cls
  have hD' : ∀ i, i64k i → has D (.int .i64 i) = (d.C i).isSome := fun i hi => by
    rw [(hD i hi).1]
    unfold clsV
    cases d.C i <;> rfl
  have HD := Lib.hid hD'
  have KK := Lib.hid (int_keyed Try.underlying3)
  have KO := Lib.hid hown
  have H := Lib.hid h
  have HU := Lib.hid hU
  clear hD hD' h hown hU
  go_enter Try.func26, Try.ntmps26
  go_wp2_with (at_range; refine wpList_range_own _ rfl _ 47 rfl 3 36 KK.out Try.underlying47 heldR b.bC sC D rfl KO.out ?_; intro w0 hrg0 hg0 hs0)
  go_frame
  have T0 := Lib.hid ((Touch.refl [] w).grown hg0 (by simp))
  clear hg0
  have HS0 := Lib.hid hs0
  clear hs0
  go_loopw [4] (fun v wr => ∃ (left : Lit → Bool) (cnt : Nat), wr.ranges Try.prog 3 heldR b.bC w.heap.size sC D left cnt ∧ (∀ i, i64k i → has D (.int .i64 i) = true → left (.int .i64 i) = false → rise (upC d.C) sC i = 0) ∧ Touch [] w wr ∧ w.heap.size + 1 ≤ wr.heap.size)
    (fun _ wr => wr.rangeLeft b.bC w.heap.size)
  case atStart => exact ⟨_, _, hrg0, (fun i _ h1 h2 => by rw [h1] at h2; cases h2), T0.out, by rw [HS0.out]; omega⟩
  case round =>
    obtain ⟨left, cnt, hrg, hC, ht, hl⟩ := hrel
    have RG := Lib.hid hrg
    have HC := Lib.hid hC
    have HT := Lib.hid ht
    clear hrg hC ht hrg0
    go_wp2_with (at_next; refine wpList_next_ranges _ rfl _ rfl 3 KK.out heldR (Value.int .i64) id (fun key kl hk => by obtain ⟨x, rfl, _, _⟩ := Maps.keyOf_int_inv Try.underlying3 hk; exact ⟨x, rfl⟩) (fun v y _ => ⟨v, rfl⟩) b.bC w.heap.size sC D left cnt rfl RG.out ?_ ?_)
    · intro hc0 hl0
      have HL := Lib.hid hl0
      clear hl0
      go_wp2_with fail
      go_ret
      exact ⟨.inr ⟨rfl, fun i hi hs => HC.out i hi (by rw [HD.out i hi]; exact hs) (HL.out _)⟩, HT.out⟩
    · intro x y kl yd yp w2 cnt2 hkey hlk hv hat hrg2 hlt hg2 hs2 hen
      obtain ⟨x', ex, rfl, hx⟩ := Maps.keyOf_int_inv Try.underlying3 hkey
      cases ex
      have HX := Lib.hid (show has D (.int .i64 x) = true from has_true_of_atKey hat)
      have HI := Lib.hid (show i64k x from hx)
      have HT2 := Lib.hid (HT.out.grown hg2 (fun k hk => by cases hk; exact .inr (Nat.le_refl _)))
      have l2 : w.heap.size + 1 ≤ w2.heap.size := by have := hg2.size; omega
      have RG2 := Lib.hid hrg2
      have HLT := Lib.hid hlt
      have hen' := hen
      have LEN := Lib.hid (tree_len (H.out.new HT2.out))
      clear hs2 hkey hlk hv hat hrg2 hg2 hen hx
      go_wp2_with fail
      refine (LEN.out).mono ?_
      rintro e w3 ⟨rfl, hw3⟩
      rw [hw3]
      clear hw3 w3 hen'
      go_wp2_with fail
      go_loopw [4, 18] (fun u v wi => ∃ j : Nat, j ≤ sC ∧ v = .int .i64 (j : Int) ∧ u = .int .i64 (rise (upC d.C) j x) ∧ wi = w2) (fun _ v _ => sC - (intOf v).toNat)
      case atStart => exact ⟨0, by omega, rfl, rfl, rfl⟩
      case round =>
        obtain ⟨j, hj, rfl, rfl, rfl⟩ := hrel
        by_cases hjn : j < sC
        · have hjn' : (j : Int) < (sC : Int) := by omega
          have AB := Lib.hid (tree_above (H.out.new HT2.out) (rise (upC d.C) j x) (rise_in64 HU.out HI.out j))
          have ea := entAbove
          have er := rise_succ (upC d.C) j x
          have ER := Lib.hid er
          clear er
          go_wp2_with fail
          refine (AB.out).mono ?_
          rintro e w3 ⟨rfl, hw3⟩
          rw [hw3]
          clear hw3 w3
          go_wp2_with fail
          go_roundw
          case rel => exact ⟨j + 1, by omega, by go_num, by rw [ER.out], trivial⟩
          case measure => simp [intOf]; omega
        · obtain rfl : j = sC := by omega
          have hjn' : ¬ (j : Int) < (j : Int) := by omega
          by_cases hz : rise (upC d.C) j x = 0
          · have hb : (rise (upC d.C) j x != 0) = false := by simpa using hz
            have HZ := Lib.hid hz
            clear hz
            go_wp2_with fail
            go_roundw
            case rel => exact ⟨_, cnt2, RG2.out, (fun i hi h1 h2 => by
              by_cases hix : i = x
              · rw [hix]
                exact HZ.out
              · refine HC.out i hi h1 ?_
                have : (left (.int .i64 i) && !(Lit.int .i64 i).sameKey (.int .i64 x)) = false := h2
                simpa [Lit.sameKey, hix] using this), HT2.out, l2⟩
            case measure => rw [RG2.out.left_eq, RG.out.left_eq]; exact HLT.out
          · have hb : (rise (upC d.C) j x != 0) = true := by simpa using hz
            have HZ := Lib.hid hz
            clear hz
            go_wp2_with fail
            go_ret
            exact ⟨.inl ⟨rfl, x, HI.out, by rw [← HD.out x HI.out]; exact HX.out, HZ.out⟩, HT2.out⟩
end
end Go.Proofs.Ytcfogoepoghedaa
