/-
  RingTurns: for every list of members the law that a ring turned round is as it was returns true. No conditions.
-/
import Derived.Test.YtncipngnpdhbjaaRingLaws
import Derived.IntWalk
import Derived.Lib.SmallJoins
namespace Go.Proofs.Ytncipngnpdhbjaa
open Go.ChangeShapes Go.WideShapes Go.ChangeAt Go.RowKit Go.Deep Go.Joins Go.Maps
set_option linter.unusedVariables false

def Adding (wd : World) (p b1 b2 n : Nat) (many i : Value) (wr : World) : Prop :=
  ∃ (k m : Nat) (x : Nat → Int), k ≤ n ∧ m ≤ k ∧ many = .int .i64 m ∧ i = .int .i64 k ∧ Ringed wr p b1 b2 m x ∧ Touch [] wd wr
def Turning (w0 : World) (p b1 b2 m : Nat) (x : Nat → Int) (i : Value) (wr : World) : Prop :=
  ∃ k : Nat, k ≤ m ∧ i = .int .i64 k ∧ Ringed wr p b1 b2 m (fun j => x (j + k)) ∧ Touch [p] w0 wr

set_option maxHeartbeats 2000000 in
set_option maxRecDepth 100000 in
theorem ringTurns_walk (A : Option Addr) (n c : Nat) (X : Nat → Int) (wd : World) (hc : n ≤ 9223372036854775807) (hX : IntCells wd wd.heap.size A n X) (hF : ∀ i, i < n → fit64 (X i)) :
    Calls Try.prog 4 #[.slice A n c] wd fun e w' => e = .returned (.bool true) ∧ Below wd.heap.size wd w' := by
  have HX := Lib.hid hX
  have HF := Lib.hid hF
  clear hX hF
  go_enter Try.func4, Try.ntmps4
  go_wp2_with fail
  refine (clear_nil _).mono ?_
  rintro e wd ⟨rfl, rfl⟩
  go_wp2_with fail
  refine (turn_none _ _ (Lib.hid (ringLen_nil _))).mono ?_
  rintro e wd ⟨rfl, rfl⟩
  go_wp2_with fail
  refine (add_nil _ _).mono ?_
  rintro e wd ⟨rfl, rfl⟩
  go_wp2_with fail
  refine (drop_nil _ _).mono ?_
  rintro e wd ⟨rfl, rfl⟩
  go_wp2_with fail
  refine (ringHas_nil _ _).mono ?_
  rintro e wd ⟨rfl, rfl⟩
  go_wp2_with fail
  refine (ringLen_nil _).mono ?_
  rintro e wd ⟨rfl, rfl⟩
  go_wp2_with fail
  refine (order_none _ _ (Lib.hid (ringLen_nil _))).mono ?_
  rintro e wd ⟨rfl, rfl⟩
  go_wp2_with fail
  refine (ringCopy_nil _).mono ?_
  rintro e wd ⟨rfl, rfl⟩
  go_wp2_with fail
  refine (head_none _ _ (Lib.hid (ringLen_nil _))).mono ?_
  rintro e wd ⟨rfl, rfl⟩
  by_cases hn : 60 < n
  · go_wp2_with fail
    refine (ringLives_any _).mono ?_
    rintro e w8 ⟨rfl, hb⟩
    go_wp2_with fail
    go_ret
    exact ⟨rfl, hb⟩
  · go_wp2_with fail
    refine (ringNew_any _).mono ?_
    rintro e w1 ⟨rfl, a1, t1⟩
    have R1 := Lib.hid (show Ringed w1 (wd.heap.size + 2) wd.heap.size (wd.heap.size + 1) 0 (fun _ => 0) from ⟨_, _, _, a1, Cyc.new⟩)
    have T1 := Lib.hid t1
    clear a1 t1
    have S0 : ∀ b ∈ [wd.heap.size + 2, wd.heap.size, wd.heap.size + 1], b ∈ ([] : List Nat) ∨ wd.heap.size ≤ b := by
      intro b hb
      simp at hb
      right
      omega
    have HS := Lib.hid S0
    clear S0
    generalize wd.heap.size + 2 = p at *
    generalize wd.heap.size + 1 = b2 at *
    go_wp2_with fail
    go_loopw [9, 71] (fun many i wr => Adding wd p wd.heap.size b2 n many i wr) (fun _ i _ => n - (intOf i).toNat)
    case atStart => exact ⟨0, 0, _, Nat.zero_le _, Nat.le_refl _, rfl, rfl, R1.out, T1.out⟩
    case round =>
      obtain ⟨k, m, x, hk, hm, rfl, rfl, hr, ht⟩ := hrel
      by_cases hlt : k < n
      · obtain ⟨bl, off, hA, hbB, hcell⟩ := HX.out k hlt
        have hid : i64k (X k) := i64k_of (HF.out k hlt)
        have hcell := (ht.cell (a := ⟨bl, off + k, none⟩) hbB (by simp)).trans hcell
        subst hA
        generalize X k = id at *
        by_cases hin : ∃ j, j < m ∧ x j = id
        · have Y1 := Lib.hid (hr.add_no id hid hin)
          have Y2 := Lib.hid (hr.has id hid true (by simpa using hin))
          have HR := Lib.hid hr
          have HT := Lib.hid ht
          clear hr ht hin hid
          go_wp2_with fail
          refine (Y1.out).mono ?_
          rintro e wr ⟨rfl, rfl⟩
          go_wp2_with fail
          refine (Y1.out).mono ?_
          rintro e wr ⟨rfl, rfl⟩
          go_wp2_with fail
          refine (Y2.out).mono ?_
          rintro e wr ⟨rfl, rfl⟩
          go_wp2_with fail
          go_roundw
          case rel => exact ⟨k + 1, m, x, by omega, by omega, rfl, by go_num, HR.out, HT.out⟩
          case measure => simp [intOf]; omega
        · have Y1 := Lib.hid (hr.add_yes id hid (fun j hj e => hin ⟨j, hj, e⟩) (by omega))
          have HT := Lib.hid ht
          have HI := Lib.hid hid
          clear hr ht hin hid
          go_wp2_with fail
          refine (Y1.out).mono ?_
          rintro e w2 ⟨rfl, r2, t2⟩
          have hin : ∃ j, j < m + 1 ∧ ext m x id j = id := ⟨m, by omega, ext_at _ _ _⟩
          have Y2 := Lib.hid (r2.add_no id HI.out hin)
          have Y3 := Lib.hid (r2.has id HI.out true (by simpa using hin))
          have HR := Lib.hid r2
          have HT := Lib.hid (HT.out.trans t2 HS.out)
          clear r2 t2 hin
          go_wp2_with fail
          refine (Y2.out).mono ?_
          rintro e w2 ⟨rfl, rfl⟩
          go_wp2_with fail
          refine (Y3.out).mono ?_
          rintro e w2 ⟨rfl, rfl⟩
          go_wp2_with fail
          go_roundw
          case rel => exact ⟨k + 1, m + 1, _, by omega, by omega, by go_num, by go_num, HR.out, HT.out⟩
          case measure => simp [intOf]; omega
      · obtain rfl : k = n := by omega
        have hm60 : m ≤ 60 := by omega
        have HP := Lib.hid hr.per
        have HL := Lib.hid hr.lt
        have Y1 := Lib.hid (hr.order (by omega))
        have HR := Lib.hid hr
        have HT := Lib.hid ht
        clear hr ht hm hk hlt hn HX HF R1 T1
        go_wp2_with fail
        refine (Y1.out).mono ?_
        rintro e w2 ⟨v, rfl, ho, hb⟩
        obtain ⟨A2, cap, rfl, hcap, hmax, hfar⟩ := own_far ho
        have r2 := HR.out.carry (Touch.ofBelow (S := []) hb) (by simp) (by simp) (by simp)
        have Y2 := Lib.hid r2.len
        have HR := Lib.hid r2
        have HT := Lib.hid (HT.out.trans (Touch.ofBelow (S := []) hb) (by simp))
        have HC := Lib.hid hfar
        have hpl : p < wr.heap.size := HL.out.1
        have HPL := Lib.hid hpl
        generalize wr.heap.size = lo at *
        clear ho hb r2 hfar Y1 HL hpl hc
        go_wp2_with fail
        refine (Y2.out).mono ?_
        rintro e w2 ⟨rfl, rfl⟩
        go_wp2_with fail
        go_loopw [13] (fun i wx => Turning w2 p wd.heap.size b2 m x i wx) (fun i _ => m - (intOf i).toNat)
        case atStart => exact ⟨0, Nat.zero_le _, rfl, HR.out, Touch.refl _ _⟩
        case round =>
          obtain ⟨k2, hk2, rfl, hr, ht⟩ := hrel
          by_cases hlt : k2 < m
          · have Y3 := hr.turn (by omega)
            unfold TurnPost at Y3
            simp only [Nat.zero_add] at Y3
            have Y3 := Lib.hid Y3
            have HT2 := Lib.hid ht
            clear hr ht
            go_wp2_with fail
            refine (Y3.out).mono ?_
            rintro e w4 ⟨rfl, r4, t4⟩
            have ht := HT2.out.trans t4 (by simp)
            obtain ⟨bl, off, hA, _, hbl, hcell⟩ := HC.out.touch ht (by have := HPL.out; simpa using this) k2 hlt
            subst hA
            have HT2 := Lib.hid ht
            have HR4 := Lib.hid (show Ringed w4 p wd.heap.size b2 m (fun j => x (j + (k2 + 1))) by
              have e : (fun j => x (j + (k2 + 1))) = (fun i => x (i + 1 + k2)) := by
                funext j
                rw [show j + (k2 + 1) = j + 1 + k2 by omega]
              rw [e]
              exact r4)
            clear r4 t4 ht Y3
            generalize x k2 = y at *
            go_wp2_with fail
            go_roundw
            case rel => exact ⟨k2 + 1, by omega, by go_num, HR4.out, HT2.out⟩
            case measure => simp [intOf]; omega
          · obtain rfl : k2 = m := by omega
            have Y3 := Lib.hid (hr.order (by omega))
            have HC2 := Lib.hid (HC.out.touch ht (by have := HPL.out; simpa using this))
            have HT2 := Lib.hid ht
            clear hr ht
            go_wp2_with fail
            refine (Y3.out).mono ?_
            rintro e w4 ⟨v, rfl, ho, hb⟩
            obtain ⟨A4, cap4, rfl, _, _, hc4⟩ := own_cells ho
            have Y4 := Lib.hid (sameInts_yes (c := cap4) (c' := cap) hc4 (HC2.out.touch (Touch.ofBelow (S := []) hb) (by simp)).ints (fun i hi => HP.out i) (by omega))
            have HB := Lib.hid hb
            clear ho hb hc4
            go_wp2_with fail
            refine (Y4.out).mono ?_
            rintro e w5 ⟨rfl, t5⟩
            have T5 := Lib.hid t5
            clear t5
            go_wp2_with fail
            refine (ringLives_any _).mono ?_
            rintro e w6 ⟨rfl, hb6⟩
            have H6 := Lib.hid hb6
            clear hb6
            go_wp2_with fail
            go_ret
            refine ⟨rfl, ?_⟩
            have q1 := HT.out.trans HT2.out (fun b hb => HS.out b (by simp at hb; simp [hb]))
            have q2 := bnext (q1.below (by simp) (Nat.le_refl _)) HB.out
            have q3 := bnext q2 (T5.out.below (by simp) (Nat.le_refl _))
            exact bnext q3 H6.out

set_option maxRecDepth 100000 in
theorem ringTurns_calls : LawCalls Try.prog 4 Try.f4 := by
  intro H enc W base args ds p hval hA hlt
  rw [Try.params4] at hA hval
  obtain ⟨v0, vs0, d0, ds0, p0, q0, hargs, rfl, rfl, h0, r0⟩ := trodAll_cons hA
  obtain ⟨rfl, rfl, rfl⟩ := trodAll_nil r0
  obtain rfl : args = #[v0] := by cases args; simp_all
  obtain ⟨A, len, cap, X, rfl, hl, hm, hX, hF⟩ := int_cells (hval 0 26 v0 rfl rfl) h0
  exact ringTurns_walk A len cap X W (by omega) hX hF

set_option maxRecDepth 100000 in
theorem ringTurns_lifted (os : Os) (started : os.Started) (H : Type) (enc : TypeId × Value → H) :
    ReturnsInHanded {} Try.checked os 4 .any (Rows.ringTurnsSpec.pre6 enc Try.prog Try.f4 Rows.ringTurnsRow.domain false) (Rows.ringTurnsSpec.post enc Try.prog Try.f4 false true false false) := by
  refine returnsInHanded_of_change (C := Try.checked) own started (by kernel_rfl) Try.func4
    (ChangeSpec.witness6 (enc := enc) (C := Try.checked) false ⟨#[], #[.slice none 0 0], []⟩ 8 (by kernel_rfl) (by kernel_rfl) (by kernel_rfl) (by kernel_rfl)) ?_
  intro W base args ds gs before hval hW _ _
  exact law_contract laidOut (by kernel_rfl) rfl rfl boolType (fun ds h => by match ds, h with | [_], _ => rfl) ringTurns_calls W base args ds gs before hval hW

theorem ringTurns_holds : Rows.RingTurnsSaid :=
  OpenClaim.holds_of_wide 4 Try.f4 rfl rfl rfl rfl rfl rfl rfl ⟨rfl, rfl, rfl, rfl, rfl⟩ rfl rfl rfl rfl rfl (by kernel_rfl) Try.func4 (by kernel_rfl)
    (of_decide_eq_true (by kernel_rfl)) (by unfold Func.isWrapper; first | (rw [if_pos (by decide +kernel)]; kernel_rfl) | (rw [if_neg (by decide +kernel)]; exact ⟨rfl, rfl⟩))
    (fun os started H enc _ => ringTurns_lifted os started H enc)
#print axioms ringTurns_holds
end Go.Proofs.Ytncipngnpdhbjaa
