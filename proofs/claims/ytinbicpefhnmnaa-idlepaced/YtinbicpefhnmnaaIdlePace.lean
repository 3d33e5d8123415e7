/-
  The contract of idle.Paced (layer 25).
-/
import Derived.Test.YtinbicpefhnmnaaIdleLaws
import Derived.Test.YtinbicpefhnmnaaCloneInts
namespace Go.Proofs.Ytinbicpefhnmnaa
open Go.ChangeShapes Go.WideShapes Go.ChangeAt Go.RowKit Go.Joins Go.Deep
set_option linter.unusedVariables false

/-- The state behind the first n packets. -/
def paceV (c : Cl) (time : Int) (X : Nat → Int) (s : St) : Nat → St
  | 0 => s
  | n + 1 => sentV c (paceV c time X s n) time (X n)

/-- What holds at the loop's head. -/
def PaceAt (c : Cl) (time : Int) (X : Nat → Int) (s : St) (n B : Nat) (w2 : World) (st i : Value) (wr : World) : Prop :=
  ∃ k : Nat, k ≤ n ∧ i = .int .i64 k ∧ ∃ f : Bool, st = .bool f ∧ (f = true → 0 < k ∧ sentV c (paceV c time X s k) time (X (k - 1)) = paceV c time X s k) ∧
    BoxV wr B 41 #[.int .i64 (paceV c time X s k).last, .int .i64 (paceV c time X s k).avg, .int .i64 (paceV c time X s k).till] ∧ Touch [B] w2 wr
theorem pace_next {c : Cl} {time : Int} {X : Nat → Int} {s : St} {n B k : Nat} {w2 w4 : World} {r p : St} {f : Bool} {u0 u1 u2 : Int} (hk : k < n) (hp : paceV c time X s k = p) (hr : sentV c p time (X k) = r) (h0 : u0 = r.last) (h1 : u1 = r.avg) (h2 : u2 = r.till)
    (hf : f = true → r = p) (hb : BoxV w4 B 41 #[.int .i64 p.last, .int .i64 p.avg, .int .i64 p.till]) (ht : Touch [B] w2 w4) (o : Obj) :
    PaceAt c time X s n B w2 (.bool f) (.int .i64 ((k : Int) + 1)) ((((w4.setCell ⟨B, 0, none⟩ (.int .i64 u0)).setCell ⟨B, 1, none⟩ (.int .i64 u1)).setCell ⟨B, 2, none⟩ (.int .i64 u2)).alloc o) := by
  subst h0 h1 h2
  have e1 : paceV c time X s (k + 1) = r := by
    show sentV c (paceV c time X s k) time (X k) = r
    rw [hp, hr]
  refine ⟨k + 1, by omega, by rw [Int.natCast_add]; rfl, f, rfl, fun h => ⟨by omega, ?_⟩, ?_, ?_⟩
  · rw [e1, show k + 1 - 1 = k by omega, hf h]
    rw [hf h] at hr
    exact hr
  · rw [e1]
    have hz : BoxV _ B 41 #[.int .i64 r.last, .int .i64 r.avg, .int .i64 r.till] := ((hb.set 0 (.int .i64 r.last)).set 1 (.int .i64 r.avg)).set 2 (.int .i64 r.till)
    exact hz.carry ((Touch.refl [] _).alloc _) (by simp)
  · exact (((ht.setCell (by simp) _).setCell (by simp) _).setCell (by simp) _).alloc _
theorem pace_stay {c : Cl} {time : Int} {X : Nat → Int} {s : St} {n B k : Nat} {w2 wr : World} {p : St} (hk : k < n) (hp : paceV c time X s k = p) (hs : sentV c p time (X k) = p)
    (hb : BoxV wr B 41 #[.int .i64 p.last, .int .i64 p.avg, .int .i64 p.till]) (ht : Touch [B] w2 wr) : PaceAt c time X s n B w2 (.bool true) (.int .i64 ((k : Int) + 1)) wr := by
  have e1 : paceV c time X s (k + 1) = p := by
    show sentV c (paceV c time X s k) time (X k) = p
    rw [hp, hs]
  refine ⟨k + 1, by omega, by rw [Int.natCast_add]; rfl, true, rfl, fun h => ⟨by omega, ?_⟩, ?_, ht⟩
  · rw [e1, show k + 1 - 1 = k by omega]
    exact hs
  · rw [e1]
    exact hb

set_option maxHeartbeats 2000000 in
theorem idlePaced (c : Cl) (h64 : c.share < 18446744073709551616) (s : St) (time : Int) (A : Option Addr) (n cap : Nat) (X : Nat → Int) (w : World) (hX : IntCells w w.heap.size A n X) (hn : n ≤ 50) :
    Calls Try.prog 33 #[.agg s.cells, .agg c.cells, .int .i64 time, .slice A n cap] w fun e w' => e = .returned (.agg (paceV c time X s n).cells) ∧ Touch [] w w' := by
  have TA := (((Touch.refl [] w).alloc (.cells s.cells 41)).alloc (.cells c.cells 24)).alloc (.cells #[.int .i64 0, .int .i64 0, .int .i64 0] 41)
  have CL := Lib.hid (clone_arg (c := cap) ((hX.below (TA.below (by simp) (Nat.le_refl _))).mono TA.size) (by omega))
  have SA := Lib.hid (fun p now w => idleSent c h64 p time now w)
  have HF := Lib.hid (Eq.refl (paceV c time X s n))
  have PE := Lib.hid (show (.agg (paceV c time X s n).cells : Value) = .agg #[.int .i64 (paceV c time X s n).last, .int .i64 (paceV c time X s n).avg, .int .i64 (paceV c time X s n).till] from rfl)
  have TA := Lib.hid TA
  rw [PE.out]
  generalize hfin : paceV c time X s n = fin at *
  have HFIN := Lib.hid hfin
  clear hfin HF PE hX h64
  unfold Cl.cells St.cells at *
  go_enter Try.func33, Try.ntmps33
  go_wp2_with fail
  refine (CL.out).mono ?_
  rintro e w2 ⟨A', c', rfl, hX, t, hfr⟩
  have B0 := Lib.hid (BoxV.of3.carry t (by simp))
  have B1 := Lib.hid (BoxV.at1of3.carry t (by simp))
  have B2 := Lib.hid (BoxV.at2.carry t (by simp))
  have T2 := Lib.hid (TA.out.trans t (by simp))
  have HX := Lib.hid hX
  have HB := Lib.hid (show ∀ b off, A' = some ⟨b, off, none⟩ → w.heap.size + 3 ≤ b by
    intro b off h
    have := hfr b off h
    rwa [nblk_alloc, nblk_alloc, nblk_alloc] at this)
  clear t hX hfr CL TA
  go_wp2_with fail
  go_loopw [10, 18] (fun st i wr => PaceAt c time X s n w.heap.size w2 st i wr) (fun _ i _ => n - (intOf i).toNat)
  case atStart => exact ⟨0, Nat.zero_le _, rfl, false, rfl, fun h => (by cases h), B0.out, Touch.refl _ _⟩
  case round =>
    obtain ⟨k, hk, rfl, f, rfl, hf, hb, tr⟩ := hrel
    have TR := Lib.hid tr
    have BS := Lib.hid hb
    have HF := Lib.hid hf
    have BC := Lib.hid (B1.out.carry tr (by simp))
    have BR := Lib.hid (B2.out.carry tr (by simp))
    by_cases hlt : k < n
    · obtain ⟨bl, off, hA, hbB, hc⟩ := HX.out k hlt
      have hbl := HB.out bl off hA
      have hcell := (tr.cell (a := ⟨bl, off + k, none⟩) hbB (by simp; omega)).trans hc
      have ltb : bl < wr.heap.size := Nat.lt_of_lt_of_le hbB tr.size
      have hprev : 0 < k → wr.cell? ⟨bl, off + (k - 1), none⟩ = some (.int .i64 (X (k - 1))) := by
        intro hk0
        obtain ⟨bl', off', hA', hbB', hc'⟩ := HX.out (k - 1) (by omega)
        rw [hA] at hA'
        simp only [Option.some.injEq, Addr.mk.injEq, and_true] at hA'
        obtain ⟨rfl, rfl⟩ := hA'
        exact (tr.cell (a := ⟨bl, off + (k - 1), none⟩) hbB (by simp; omega)).trans hc'
      subst hA
      generalize hp : paceV c time X s k = p at *
      have SE := Lib.hid (fun w => SA.out p (X k) w)
      generalize hr : sentV c p time (X k) = r at *
      have HP := Lib.hid hp
      have HR := Lib.hid hr
      clear hp hr hf hb tr hc hbl
      cases f with
      | false =>
        clear hprev
        have k0 := BC.out.cell 0
        have k1 := BC.out.cell 1
        have k2 := BC.out.cell 2
        have k3 := BC.out.cell 3
        have k4 := BC.out.cell 4
        have k5 := BC.out.cell 5
        have k6 := BC.out.cell 6
        have k7 := BC.out.cell 7
        have k8 := BC.out.cell 8
        have k9 := BC.out.cell 9
        have k10 := BC.out.cell 10
        have v0 := BS.out.cell 0
        have v1 := BS.out.cell 1
        have v2 := BS.out.cell 2
        have ltc := BC.out.lt
        have lts := BS.out.lt
        go_wp2_with fail
        refine (SE.out _).mono ?_
        rintro e w4 ⟨rfl, t4⟩
        clear k0 k1 k2 k3 k4 k5 k6 k7 k8 k9 k10 v0 v1 v2 ltc lts
        have CS := BS.out.carry t4 (by simp)
        have TT := Lib.hid (TR.out.trans t4 (by simp))
        have fz := CS.fr
        have v0 := CS.cell 0
        have v1 := CS.cell 1
        have v2 := CS.cell 2
        have lt4 := CS.lt
        have HS := Lib.hid CS
        clear t4 CS
        go_wp2_with fail
        all_goals
          go_round
          case rel => exact pace_next hlt HP.out HR.out (by first | rfl | (symm; assumption)) (by first | rfl | (symm; assumption)) (by first | rfl | (symm; assumption)) (by intro hh; first | (cases hh; done) | (cases r; cases p; simp_all)) HS.out TT.out _
          case measure => simp [intOf]; omega
      | true =>
        obtain ⟨hk0, hst⟩ := HF.out rfl
        have hpc := hprev hk0
        clear hprev
        have hsub : (k : Int) - 1 = ((k - 1 : Nat) : Int) := by omega
        by_cases hxx : X k = X (k - 1)
        · have HST := Lib.hid (show sentV c p time (X k) = p by rw [hxx]; exact hst)
          rw [← hxx] at hpc
          clear hst hxx HR SE
          go_wp2_with fail
          go_round
          case rel => exact pace_stay hlt HP.out HST.out BS.out TR.out
          case measure => simp [intOf]; omega
        · have dxx : (X k == X (k - 1)) = false := by simpa using hxx
          clear hst hxx
          have k0 := BC.out.cell 0
          have k1 := BC.out.cell 1
          have k2 := BC.out.cell 2
          have k3 := BC.out.cell 3
          have k4 := BC.out.cell 4
          have k5 := BC.out.cell 5
          have k6 := BC.out.cell 6
          have k7 := BC.out.cell 7
          have k8 := BC.out.cell 8
          have k9 := BC.out.cell 9
          have k10 := BC.out.cell 10
          have v0 := BS.out.cell 0
          have v1 := BS.out.cell 1
          have v2 := BS.out.cell 2
          have ltc := BC.out.lt
          have lts := BS.out.lt
          go_wp2_with fail
          refine (SE.out _).mono ?_
          rintro e w4 ⟨rfl, t4⟩
          clear k0 k1 k2 k3 k4 k5 k6 k7 k8 k9 k10 v0 v1 v2 ltc lts
          have CS := BS.out.carry t4 (by simp)
          have TT := Lib.hid (TR.out.trans t4 (by simp))
          have fz := CS.fr
          have v0 := CS.cell 0
          have v1 := CS.cell 1
          have v2 := CS.cell 2
          have lt4 := CS.lt
          have HS := Lib.hid CS
          clear t4 CS
          go_wp2_with fail
          all_goals
            go_round
            case rel => exact pace_next hlt HP.out HR.out (by first | rfl | (symm; assumption)) (by first | rfl | (symm; assumption)) (by first | rfl | (symm; assumption)) (by intro hh; first | (cases hh; done) | (cases r; cases p; simp_all)) HS.out TT.out _
            case measure => simp [intOf]; omega
    · obtain rfl : k = n := by omega
      have bs := BS.out
      rw [HFIN.out] at bs
      have v0 := bs.cell 0
      have v1 := bs.cell 1
      have v2 := bs.cell 2
      have lts := bs.lt
      have br := BR.out
      have fz := br.fr
      have y0 := br.cell 0
      have y1 := br.cell 1
      have y2 := br.cell 2
      have lty := br.lt
      have TE := Lib.hid (T2.out.trans TR.out (by simp))
      clear bs br hf hb tr
      go_wp2_with fail
      have Z : BoxV _ _ 41 #[.int .i64 fin.last, .int .i64 fin.avg, .int .i64 fin.till] := ((BR.out.set 0 (.int .i64 fin.last)).set 1 (.int .i64 fin.avg)).set 2 (.int .i64 fin.till)
      refine bodyPost_ret (ret_box rfl rfl Z Try.underlying41 rfl (by kernel_rfl)) rfl ⟨rfl, ?_⟩
      exact ((TE.out.setCell (by simp <;> omega) _).setCell (by simp <;> omega) _).setCell (by simp <;> omega) _
end Go.Proofs.Ytinbicpefhnmnaa
