/-
  Layer 7 (chain): All's function with ChainOrders' counting function: how many nodes are told.
-/
import Derived.Test.YtalkpoeliekbfaaChain22
namespace Go.Proofs.Ytalkpoeliekbfaa
open Go.ChangeShapes Go.WideShapes Go.ChangeAt Go.RowKit Go.Deep
set_option linter.unusedVariables false
set_option linter.unusedSimpArgs false
/-- How many of n are told, if whoever counts stops at most. -/
def stopAt (most : Int) (n : Nat) : Int := if 1 ≤ most ∧ most ≤ n then most else n
def Counted (w : World) (b : Nat) (most : Int) (n : Nat) (e : Ending) (w' : World) : Prop := e = .returned (.tuple #[]) ∧ Box1 w' b 3 (.int .i64 (stopAt most n)) ∧ Touch [b] w w'
section
variable {w : World} {b m : Nat} {most : Int} {L : List Nat}
set_option maxHeartbeats 3200000 in
set_option maxRecDepth 100000 in
theorem countNodes {p l : Value} {B2 B3 : Nat} (hl5 : L.length ≤ 5000) (hb : Box1 w b 3 (.int .i64 0)) (hm : Box1 w m 3 (.int .i64 most)) (hbm : m ≠ b) (h2 : w.cell? ⟨B2, 0, none⟩ = some p) (h3 : w.cell? ⟨B3, 0, none⟩ = some l)
    (hp : (∃ q, p = .pointer q) ∧ ∃ z, l = .int .i64 z) (D : Hid (Calls Try.prog 50 #[p, l] w (NodesPost w L))) :
    Calls Try.prog 49 #[.func (.func 24) #[] #[.pointer (some ⟨b, 0, none⟩), .pointer (some ⟨m, 0, none⟩)], .pointer (some ⟨B2, 0, none⟩), .pointer (some ⟨B3, 0, none⟩)] w (Counted w b most L.length) := by
  obtain ⟨⟨q, rfl⟩, z, rfl⟩ := hp
  unfold NodesPost at D
  have HB := Lib.hid hb
  have HM := Lib.hid hm
  have lb := hb.lt
  clear hb hm
  unfold Counted
  go_enter Try.func49, Try.ntmps49
  go_wp2_with fail
  refine (D.out).mono ?_
  rintro e w2 ⟨v2, rfl, hrow, hbel⟩
  obtain ⟨An, cn, rfl⟩ := own_form hrow
  have t2 := Touch.ofBelow (S := []) hbel
  have HR := Lib.hid hrow
  have T2 := Lib.hid t2
  have HB2 := Lib.hid (HB.out.carry t2 (by simp))
  have HM2 := Lib.hid (HM.out.carry t2 (by simp))
  have hsz := t2.size
  have hcap : L.length ≤ cn ∧ cn ≤ maxLen := by
    rcases hrow.2 with ⟨h', _⟩ | ⟨g', cap', cur, h', h1, hh, h2, h3, h4, h5⟩
    · simp at h'
      omega
    · simp only [Value.slice.injEq, true_and] at h'
      omega
  unfold maxLen at hcap
  clear hrow hbel t2 D h2 h3
  go_wp2_with fail
  go_loopw [10] (fun i wr => ∃ k : Nat, k ≤ L.length ∧ i = .int .i64 k ∧ Box1 wr b 3 (.int .i64 (k : Int)) ∧ ¬ (1 ≤ most ∧ most ≤ k) ∧ Touch [b] w wr ∧ Box1 wr m 3 (.int .i64 most) ∧ wr.ownsRow w.heap.size 3 1 (.slice An L.length cn) L.length (nv L)) (fun i _ => L.length - (intOf i).toNat)
  case atStart => exact ⟨0, Nat.zero_le _, rfl, HB2.out, by omega, T2.out.mono (by simp), HM2.out, HR.out⟩
  case round =>
    obtain ⟨k, hk, rfl, hbk, hno, ht, hmk, hrow⟩ := hrel
    by_cases hlt : k < L.length
    · obtain ⟨gn, cn', hAn, _, _⟩ := hrow.form (by omega)
      simp only [Value.slice.injEq, true_and] at hAn
      obtain ⟨rfl, rfl⟩ := hAn
      obtain ⟨x, hx⟩ : ∃ x, L[k]? = some x := ⟨L[k]'hlt, List.getElem?_eq_getElem _⟩
      have z0 := hrow.cellAt k (by omega)
      rw [nv_get hx] at z0
      have Y := count_any hbk hmk hbm (by omega) (x : Int)
      have HW := Lib.hid hrow
      have HT := Lib.hid ht
      have HMK := Lib.hid hmk
      have lgn := own_lt hrow rfl
      have hgb : gn ≠ b := by
        have := own_base (b := gn) hrow rfl
        omega
      clear hbk ht hrow hx hmk
      by_cases e1 : (k : Int) + 1 = most
      · have eb : ((k : Int) + 1 == most) = true := by simpa using e1
        rw [eb] at Y
        have HY := Lib.hid Y
        clear Y
        go_wp2_with fail
        refine (HY.out).mono ?_
        rintro e w3 ⟨rfl, hb3, t3⟩
        have HB3 := Lib.hid hb3
        have T3 := Lib.hid (HT.out.trans t3 (by simp))
        have es : stopAt most L.length = (k : Int) + 1 := by unfold stopAt; rw [if_pos (by omega)]; omega
        clear hb3 t3 HY
        go_wp2_with fail
        refine bodyPost_ret (results_none rfl _ _ _) rfl ⟨rfl, ?_, T3.out⟩
        rw [es]
        exact HB3.out
      · have eb : ((k : Int) + 1 == most) = false := by simpa using e1
        rw [eb] at Y
        have HY := Lib.hid Y
        clear Y
        go_wp2_with fail
        refine (HY.out).mono ?_
        rintro e w3 ⟨rfl, hb3, t3⟩
        have HB3 := Lib.hid hb3
        have T3 := Lib.hid (HT.out.trans t3 (by simp))
        have HM3 := Lib.hid (HMK.out.carry t3 (by simpa using hbm))
        have HW3 := Lib.hid (t3.row HW.out (fun g hg hm' => by simp [Value.ownBlock] at hg hm'; omega))
        clear hb3 t3 HY HMK
        go_wp2_with fail
        go_roundw
        case rel => exact ⟨k + 1, by omega, by go_num, by simpa using HB3.out, by omega, T3.out, HM3.out, HW3.out⟩
        case measure => simp [intOf]; omega
    · obtain rfl : k = L.length := by omega
      have es : stopAt most L.length = (L.length : Int) := by unfold stopAt; rw [if_neg hno]
      rw [← es] at hbk
      have HB3 := Lib.hid hbk
      have HT := Lib.hid ht
      clear hbk ht hrow hmk
      go_wp2
      go_end0
      exact ⟨rfl, HB3.out, HT.out⟩
end
end Go.Proofs.Ytalkpoeliekbfaa
