/-
  Layer 7 (chain): All's function hands the nodes of a list on, to a range over it.
-/
import Derived.Test.YtalkpoeliekbfaaChain10
import Derived.Test.YtalkpoeliekbfaaRanges
namespace Go.Proofs.Ytalkpoeliekbfaa
open Go.ChangeShapes Go.WideShapes Go.ChangeAt Go.RowKit Go.Deep Go.Shelf
set_option linter.unusedVariables false
attribute [local go_sem] Oper.semAt_some
theorem chain_stops {w : World} {p l : Value} {B2 B3 : Nat} {n : Nat} {L : List (Fin n)} (hpl : (∃ q, p = .pointer q) ∧ ∃ z, l = .int .i64 z) (S : List Nat) (hl5 : L.length ≤ 5000) (hS : ∀ b ∈ S, b < w.heap.size) (l2 : B2 < w.heap.size) (l3 : B3 < w.heap.size) (h2 : w.cell? ⟨B2, 0, none⟩ = some p) (h3 : w.cell? ⟨B3, 0, none⟩ = some l)
    (D : ∀ w1, Below w.heap.size w w1 → Calls Try.prog 50 #[p, l] w1 (NodesPost w1 (L.map fun y => y.val))) (m : Nat) :
    SeqStopsK Fence.wide m Try.prog 49 #[.pointer (some ⟨B2, 0, none⟩), .pointer (some ⟨B3, 0, none⟩)] (fun y : Fin n => #[Value.int .i64 (y.val : Int)]) (KpR S w.heap.size) (fun ys => ys = L) (fun _ => True) L.length w := fun lp J Jx W hW hJ hJx hY h0 => by
  obtain ⟨⟨q, rfl⟩, z, rfl⟩ := hpl
  have h2' := (hW.cell (p := ⟨B2, 0, none⟩) l2).trans h2
  have h3' := (hW.cell (p := ⟨B3, 0, none⟩) l3).trans h3
  obtain ⟨M, hM⟩ : ∃ M, M = L.map (fun y => y.val) := ⟨_, rfl⟩
  have hML : M.length = L.length := by rw [hM]; simp
  have O := Lib.hid (D W hW)
  rw [← hM] at O
  have HM := Lib.hid hM
  clear hM
  unfold NodesPost at O
  have HW := Lib.hid hW
  clear hW h2 h3 D
  refine callsIn_of_wp Try.func49 rfl trivial ?_ rfl
  simp only [Try.ntmps49, List.size_toArray, List.length_cons, List.length_nil, Nat.reduceAdd, Nat.reduceSub, Array.replicate_succ, Array.replicate_zero, List.push_toArray, List.append_toArray, List.nil_append, List.cons_append]
  gi_wp2
  refine ⟨trivial, fun h => (by cases h), ?_⟩
  refine (callsIn_wide.2 O.out).mono ?_
  rintro e w2 ⟨v, rfl, ho, hb⟩
  rw [hML] at ho
  obtain ⟨A, cap, rfl⟩ := own_form ho
  have hJ0 : J [] w2 := hJ [] W w2 none h0 ⟨hb.os, hb.tape, hb.output, hb.size, fun i hi _ => hb.block i hi⟩ (by simp)
  have hSW : ∀ b ∈ S, b < W.heap.size := fun b hb => Nat.lt_of_lt_of_le (hS b hb) HW.out.size
  have hcap : L.length ≤ cap ∧ cap ≤ maxLen := by
    rcases ho.2 with ⟨h', _⟩ | ⟨g', cap', cur, h', h1, hh, h2, h3, h4, h5⟩
    · simp at h'
      omega
    · simp only [Value.slice.injEq, true_and] at h'
      omega
  unfold maxLen at hcap
  clear hb O h2' h3'
  gi_wp2
  gi_loopw [10] (fun i wr => ∃ k : Nat, k ≤ L.length ∧ i = .int .i64 k ∧ J (L.take k) wr ∧ wr.ownsRow W.heap.size 3 1 (.slice A L.length cap) L.length (nv M)) (fun i _ => L.length - (intOf i).toNat)
  case atStart => exact ⟨0, Nat.zero_le _, rfl, hJ0, ho⟩
  case round =>
    obtain ⟨k, hk, rfl, hJk, hown⟩ := hrel
    by_cases hlt : k < L.length
    · obtain ⟨gn, cap', hAn, _, _⟩ := hown.form (by omega)
      simp only [Value.slice.injEq, true_and] at hAn
      obtain ⟨rfl, rfl⟩ := hAn
      obtain ⟨x, hx⟩ : ∃ x, L[k]? = some x := ⟨L[k]'hlt, List.getElem?_eq_getElem _⟩
      obtain ⟨fn, tmps, assign, body, hy, hR⟩ := hY _ x wr hJk (by rw [List.length_take]; omega)
      have z0 := hown.cellAt k (by omega)
      have hx2 : M[k]? = some x.val := by rw [HM.out, List.getElem?_map, hx]; rfl
      rw [nv_get hx2] at z0
      have lgn := own_lt hown rfl
      have HO := Lib.hid hown
      have HX := Lib.hid hx
      clear hown hx hx2
      gi_wp2
      refine ⟨fun h => (by cases h), hR.mono ?_⟩
      rintro e W3 (⟨rfl, hJ3, hk3⟩ | ⟨rfl, hJx3⟩)
      · have e := List.take_add_one (l := L) (i := k)
        rw [HX.out] at e
        have HJ3 := Lib.hid (show J (L.take (k + 1)) W3 by rw [e]; exact hJ3)
        clear e hJ3
        gi_wp2
        go_roundw
        case rel => exact ⟨k + 1, by omega, by go_num, HJ3.out, hk3.own hSW HO.out⟩
        case measure => simp [intOf]; omega
      · gi_wp2
        refine bodyPost_ret (results_none rfl _ _ _) rfl ?_
        exact ⟨⟨_, rfl⟩, .inr ⟨_, trivial, hJx3⟩⟩
    · obtain rfl : k = L.length := by omega
      rw [List.take_length] at hJk
      gi_wp2
      go_end0
      exact ⟨⟨_, rfl⟩, .inl ⟨_, rfl, hJk⟩⟩
end Go.Proofs.Ytalkpoeliekbfaa
