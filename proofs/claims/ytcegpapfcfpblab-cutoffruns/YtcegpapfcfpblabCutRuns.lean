/-
  CutoffRuns: for every top and every list of events the law of layer 28 returns true. No conditions.
-/
import Derived.Test.YtcegpapfcfpblabCutRun
import Derived.Deep.Fields
namespace Go.Proofs.Ytcegpapfcfpblab
open Go.ChangeShapes Go.WideShapes Go.ChangeAt Go.RowKit Go.Joins

theorem step_come {kd lv top : Int} {ov em : Bool} (h : (kd == 0) = true) : Ev.step ⟨kd, lv, ov, em⟩ top = come top lv ov := by simp_all [Ev.step]
theorem step_gone {kd lv top : Int} {ov em : Bool} (h : (kd == 1) = true) : Ev.step ⟨kd, lv, ov, em⟩ top = gone top lv ov em := by simp_all [Ev.step]
theorem step_none {kd lv top : Int} {ov em : Bool} (h : (kd == 0) = false) (h' : (kd == 1) = false) : Ev.step ⟨kd, lv, ov, em⟩ top = top := by simp_all [Ev.step]

set_option maxHeartbeats 800000 in
theorem runs_walk (t : Int) (A : Option Addr) (n c : Nat) (E : Nat → Ev) (w : World) (hm : n ≤ 9223372036854775807) (hE : EvCells w w.heap.size A n E) :
    Calls Try.prog 7 #[.int .i64 t, .slice A n c] w fun e w' => e = .returned (.bool true) ∧ Below w.heap.size w w' := by
  by_cases hn : 60 < n
  · go_enter Try.func7, Try.ntmps7
    go_wp2_with (go_at_call 39; refine (cutLives_any _).mono ?_; rintro e w' ⟨rfl, rfl⟩)
    go_ret
    exact ⟨rfl, Below.refl _ _⟩
  · go_enter Try.func7, Try.ntmps7
    go_wp2
    go_loopw [5, 15] (fun v i wr => ∃ k : Nat, k ≤ n ∧ i = .int .i64 k ∧ v = .int .i64 (runTo E t k) ∧ Below w.heap.size w wr) (fun _ i _ => n - (intOf i).toNat)
    case atStart => exact ⟨0, Nat.zero_le _, rfl, rfl, Below.refl _ _⟩
    case round =>
      obtain ⟨k, hk, rfl, rfl, hb⟩ := hrel
      by_cases hlt : k < n
      · obtain ⟨b, off, hA, hbB, c0, c1, c2, c3⟩ := hE k hlt
        rw [← hb.cell (p := ⟨b, _, none⟩) hbB] at c0 c1 c2 c3
        subst hA
        obtain ⟨kd, lv, ov, em, hev⟩ : ∃ kd lv ov em, E k = ⟨kd, lv, ov, em⟩ := ⟨_, _, _, _, rfl⟩
        have HS : runTo E t (k + 1) = Ev.step ⟨kd, lv, ov, em⟩ (runTo E t k) := by rw [← hev]; rfl
        rw [hev] at c0 c1 c2 c3
        have HT := Lib.hid HS
        clear hev hE HS
        generalize runTo E t k = top at *
        have hbn : Below w.heap.size w (wr.alloc (.cells #[.int .i64 kd, .int .i64 lv, .bool ov, .bool em] 77)) := hb.alloc hb.size _
        have q1 : (come top lv ov != come top lv ov) = false := by simp
        have q2 : (gone top lv ov em != gone top lv ov em) = false := by simp
        go_wp2_with fail
        go_quiet (first | (go_at_call 40; exact Calls.quiet_of_same (come_any _ _ _ _)) | (go_at_call 41; exact Calls.quiet_of_same (refCome_any _ _ _ _)) | (go_at_call 42; exact Calls.quiet_of_same (gone_any _ _ _ _ _)) | (go_at_call 43; exact Calls.quiet_of_same (refGone_any _ _ _ _ _)))
        go_wp2_with (first | (go_at_call 41; refine (refCome_any _ _ _ _).mono ?_; rintro e w' ⟨rfl, rfl⟩) | (go_at_call 43; refine (refGone_any _ _ _ _ _).mono ?_; rintro e w' ⟨rfl, rfl⟩))
        all_goals
          go_roundw
          case rel =>
            refine ⟨k + 1, by omega, by go_num, ?_, hbn.trans (below_draws _ _ _)⟩
            rw [HT.out]
            first
              | exact congrArg (Value.int .i64) (step_come ‹(kd == 0) = true›).symm
              | exact congrArg (Value.int .i64) (step_gone ‹(kd == 1) = true›).symm
              | exact congrArg (Value.int .i64) (step_none ‹(kd == 0) = false› ‹(kd == 1) = false›).symm
          case measure => simp [intOf]; omega
      · obtain rfl : k = n := by omega
        have q1 : (runTo E t k == runTo E t k) = true := by simp
        have hE' : EvCells wr wr.heap.size A k E := fun i hi => by
          obtain ⟨b, off, hA, hbB, c0, c1, c2, c3⟩ := hE i hi
          rw [← hb.cell (p := ⟨b, _, none⟩) hbB] at c0 c1 c2 c3
          exact ⟨b, off, hA, Nat.lt_of_lt_of_le hbB hb.size, c0, c1, c2, c3⟩
        go_wp2_with (first | (go_at_call 44; refine (run_any _ _ _ _ E _ (by omega) hE').mono ?_; rintro e w' ⟨rfl, hb1⟩) | (go_at_call 39; refine (cutLives_any _).mono ?_; rintro e w' ⟨rfl, rfl⟩))
        go_ret
        exact ⟨rfl, hb.trans (hb1.mono hb.size)⟩

set_option maxRecDepth 100000 in
theorem event_cells (W : World) (base : Nat) (H : Type) (enc : TypeId × Value → H) (v : Value) (d : DataW H) (p : List MemPlace) (hv : Value.okWide Try.prog W .any base 75 v)
    (h : DataW.Trod enc Try.prog W 0 (fun _ => true) true 75 v d p) : ∃ A len cap E, v = .slice A len cap ∧ len ≤ maxLen ∧ EvCells W W.heap.size A len E := by
  obtain ⟨A, len, cap, rfl, hl, hm, hi⟩ := slice_structs Try.underlying75 Try.underlying77 (by kernel_rfl) (by kernel_rfl) (Nat.zero_lt_succ _) hv h
  haveI : Inhabited Ev := ⟨⟨0, 0, false, false⟩⟩
  obtain ⟨E, hE⟩ := Deep.choose_lt (α := Ev) (n := len) (p := fun i e => ∃ b off, A = some ⟨b, off, none⟩ ∧ b < W.heap.size ∧ W.cell? ⟨b, off + i * 4, none⟩ = some (.int .i64 e.kind) ∧ W.cell? ⟨b, off + i * 4 + 1, none⟩ = some (.int .i64 e.level) ∧
    W.cell? ⟨b, off + i * 4 + 2, none⟩ = some (.bool e.over) ∧ W.cell? ⟨b, off + i * 4 + 3, none⟩ = some (.bool e.empty)) (fun i hlt => by
      obtain ⟨b, off, hA, hb, hf⟩ := hi i hlt
      obtain ⟨u0, _, _, c0, g0⟩ := hf 0 _ rfl
      obtain ⟨u1, _, _, c1, g1⟩ := hf 1 _ rfl
      obtain ⟨u2, _, _, c2, g2⟩ := hf 2 _ rfl
      obtain ⟨u3, _, _, c3, g3⟩ := hf 3 _ rfl
      obtain ⟨k, rfl, _⟩ := cell_int Try.underlying3 g0
      obtain ⟨l, rfl, _⟩ := cell_int Try.underlying3 g1
      obtain ⟨o, rfl⟩ := cell_bool Try.underlying4 g2
      obtain ⟨m, rfl⟩ := cell_bool Try.underlying4 g3
      exact ⟨⟨k, l, o, m⟩, b, off, hA, hb, c0, c1, c2, c3⟩)
  exact ⟨A, len, cap, E, rfl, Nat.le_trans hl hm, hE⟩

set_option maxRecDepth 100000 in
theorem runs_calls : LawCalls Try.prog 7 Try.f7 := by
  intro H enc W base args ds p hval hA hlt
  rw [Try.params7] at hA hval
  obtain ⟨v0, vs0, d0, ds0, p0, q0, hargs, rfl, rfl, h0, r0⟩ := trodAll_cons hA
  obtain ⟨v1, vs1, d1, ds1, p1, q1, rfl, rfl, rfl, h1, r1⟩ := trodAll_cons r0
  obtain ⟨rfl, rfl, rfl⟩ := trodAll_nil r1
  obtain rfl : args = #[v0, v1] := by cases args; simp_all
  obtain ⟨t, rfl, rfl, rfl, wt⟩ := open_int Try.underlying3 (hval 0 3 v0 rfl rfl) h0
  obtain ⟨A, len, cap, E, rfl, hm, hE⟩ := event_cells W base H enc v1 d1 p1 (hval 1 75 v1 rfl rfl) h1
  exact runs_walk t A len cap E W hm hE

set_option maxRecDepth 100000 in
theorem cutoffRuns_lifted (os : Os) (started : os.Started) (H : Type) (enc : TypeId × Value → H) :
    ReturnsInHanded {} Try.checked os 7 .any (Rows.cutoffRunsSpec.pre6 enc Try.prog Try.f7 Rows.cutoffRunsRow.domain false) (Rows.cutoffRunsSpec.post enc Try.prog Try.f7 false true false false) := by
  refine returnsInHanded_of_change (C := Try.checked) own started (by kernel_rfl) Try.func7
    (ChangeSpec.witness6 (enc := enc) (C := Try.checked) false ⟨#[], #[.int .i64 0, .slice none 0 0], []⟩ 8 (by kernel_rfl) (by kernel_rfl) (by kernel_rfl) (by kernel_rfl)) ?_
  intro W base args ds gs before hval hW _ _
  exact law_contract laidOut (by kernel_rfl) rfl rfl boolType (fun ds h => by match ds, h with | [_, _], _ => rfl) runs_calls W base args ds gs before hval hW

theorem cutoffRuns_holds : Rows.CutoffRunsSaid :=
  OpenClaim.holds_of_wide 7 Try.f7 rfl rfl rfl rfl rfl rfl rfl ⟨rfl, rfl, rfl, rfl, rfl⟩ rfl rfl rfl rfl rfl (by kernel_rfl) Try.func7 (by kernel_rfl)
    (of_decide_eq_true (by kernel_rfl)) (by unfold Func.isWrapper; first | (rw [if_pos (by decide +kernel)]; kernel_rfl) | (rw [if_neg (by decide +kernel)]; exact ⟨rfl, rfl⟩))
    (fun os started H enc _ => cutoffRuns_lifted os started H enc)
#print axioms cutoffRuns_holds
end Go.Proofs.Ytcegpapfcfpblab
