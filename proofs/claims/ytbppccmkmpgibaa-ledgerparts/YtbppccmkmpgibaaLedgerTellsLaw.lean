/-
  Layer 34 (ledger): LedgerTells is true for every input: whatever comes, goes and is lost, what is counted, of each and of all, is the document's.
  No condition.
-/
import Derived.Test.YtbppccmkmpgibaaLedger16
namespace Go.Proofs.Ytbppccmkmpgibaa
open Go.ChangeShapes Go.WideShapes Go.ChangeAt Go.RowKit Go.Deep Go.Maps
set_option linter.unusedVariables false
set_option linter.unusedSimpArgs false
set_option maxRecDepth 100000 in
theorem nt_cells (W : World) (base : Nat) (H : Type) (enc : TypeId × Value → H) (v : Value) (d : DataW H) (p : List MemPlace) (hv : Value.okWide Try.prog W .any base 22 v)
    (h : DataW.Trod enc Try.prog W 0 (fun _ => true) true 22 v d p) : ∃ A len cap X, v = .slice A len cap ∧ NtCells W A len X ∧ ∀ j, j < len → fit64 (X j).i := by
  obtain ⟨A, len, cap, rfl, hl, hm, hi⟩ := slice_structs Try.underlying22 Try.underlying44 (by kernel_rfl) (by kernel_rfl) (Nat.zero_lt_succ _) hv h
  haveI : Inhabited Nt := ⟨⟨0, 0, 0⟩⟩
  obtain ⟨X, hX⟩ := Deep.choose_lt (α := Nt) (n := len) (p := fun i e => (∃ b off, A = some ⟨b, off, none⟩ ∧ b < W.heap.size ∧ W.cell? ⟨b, off + i * 3, none⟩ = some (.int .i64 e.k) ∧ W.cell? ⟨b, off + i * 3 + 1, none⟩ = some (.int .i64 e.i) ∧ W.cell? ⟨b, off + i * 3 + 2, none⟩ = some (.int .i64 e.n)) ∧ fit64 e.i) (fun i hlt => by
      obtain ⟨b, off, hA, hb, hf⟩ := hi i hlt
      obtain ⟨u0, _, _, c0, g0⟩ := hf 0 _ rfl
      obtain ⟨u1, _, _, c1, g1⟩ := hf 1 _ rfl
      obtain ⟨u2, _, _, c2, g2⟩ := hf 2 _ rfl
      obtain ⟨y0, rfl, _⟩ := cell_int Try.underlying3 g0
      obtain ⟨y1, rfl, w1⟩ := cell_int Try.underlying3 g1
      obtain ⟨y2, rfl, _⟩ := cell_int Try.underlying3 g2
      exact ⟨⟨y0, y1, y2⟩, ⟨b, off, hA, hb, c0, c1, c2⟩, i64_in w1⟩)
  exact ⟨A, len, cap, X, rfl, fun i hi => (hX i hi).1, fun i hi => (hX i hi).2⟩
set_option maxRecDepth 100000 in
set_option maxHeartbeats 8000000 in
theorem ledgerTells_walk (A : Option Addr) (m c : Nat) (X : Nat → Nt) (id r : Int) (w : World) (hX : NtCells w A m X) (hf : ∀ j, j < m → fit64 (X j).i) (hid : i64k id) :
    Calls Try.prog 3 #[.slice A m c, .int .i64 id, .int .i64 r] w fun e w' => e = .returned (.bool true) ∧ Touch [] w w' := by
  by_cases hm : 80 < m
  · have LV := Lib.hid (lives34 w)
    have hm' : (80 : Int) < (m : Int) := by omega
    clear hX hf
    go_enter Try.func3, Try.ntmps3
    go_wp2_with fail
    refine (LV.out).mono ?_
    rintro e w2 ⟨rfl, t2⟩
    have T := Lib.hid t2
    clear t2
    go_wp2_with fail
    go_ret
    exact ⟨rfl, T.out⟩
  · have hm8 : m ≤ 80 := by omega
    have hm' : ¬ (80 : Int) < (m : Int) := by omega
    have PL := Lib.hid (play_any (c := c) hX hm8 hf)
    have HX := Lib.hid hX
    have HF := Lib.hid (show ∀ j, j < m → i64k (X j).i from fun j hj => i64k_of (hf j hj))
    have HI := Lib.hid hid
    have fB := fun i => few_play X m i
    have F1 := Lib.hid (show ∀ i, Few (bookOf (playM X m) i) 200000 from fun i => few_mono (fB i) (by omega))
    clear hX hf hid fB hm
    go_enter Try.func3, Try.ntmps3
    go_wp2_with fail
    refine (PL.out).mono ?_
    rintro e w1 ⟨p, rfl, b, s, h1, hs, t1, hp, hb⟩
    have H1 := Lib.hid h1
    have T1 := Lib.hid t1
    have O1 := Lib.hid (of_any h1 id HI.out (few_mono (F1.out id) (by omega)))
    clear h1 t1 PL
    unfold statV st6 at O1
    go_wp2_with fail
    refine (O1.out).mono ?_
    rintro e w2 ⟨rfl, t2⟩
    have H2 := Lib.hid (H1.out.new t2)
    have T2 := Lib.hid (T1.out.trans t2 (by simp))
    have O2 := Lib.hid (refOf_any (c := c) (HX.out.new T2.out) hm8 id)
    unfold statV st6 at O2
    clear t2 O1 H1 T1
    go_wp2_with fail
    refine (O2.out).mono ?_
    rintro e w3 ⟨rfl, t3⟩
    have H3 := Lib.hid (H2.out.new t3)
    have T3 := Lib.hid (T2.out.trans t3 (by simp))
    have O3 := Lib.hid (reason_any H3.out id HI.out r)
    have E1 := st_eql (bookOf (playM X m) id 0) (bookOf (playM X m) id 1) (bookOf (playM X m) id 2) (bookOf (playM X m) id 3) (lostTo (bookOf (playM X m) id) 6) (waitB (bookOf (playM X m) id))
    clear t3 O2 H2 T2
    go_wp2_with fail
    refine (O3.out).mono ?_
    rintro e w4 ⟨rfl, hw4⟩
    rw [hw4]
    clear hw4 w4 E1
    have O4 := Lib.hid (refReason_any (c := c) (HX.out.new T3.out) hm8 id r)
    clear O3
    go_wp2_with fail
    refine (O4.out).mono ?_
    rintro e w4 ⟨rfl, t4⟩
    have H4 := Lib.hid (H3.out.new t4)
    have T4 := Lib.hid (T3.out.trans t4 (by simp))
    have O5 := Lib.hid (ids_any H4.out (by omega))
    clear t4 O4 H3 T3
    go_wp2_with fail
    refine (O5.out).mono ?_
    rintro e w5 ⟨A5, c5, L, rfl, r5, hL, hLn, t5⟩
    have H5 := Lib.hid (H4.out.new t5)
    have T5 := Lib.hid (T4.out.trans t5 (by simp))
    have R5 := Lib.hid (row_ints r5)
    have HL := Lib.hid hL
    have O6 := Lib.hid (refIDs_any (c := c) (HX.out.new T5.out) hm8 HF.out hL (by omega))
    clear t5 O5 H4 T4 r5 hL
    go_wp2_with fail
    refine (O6.out).mono ?_
    rintro e w6 ⟨A6, c6, rfl, r6, t6⟩
    have H6 := Lib.hid (H5.out.new t6)
    have T6 := Lib.hid (T5.out.trans t6 (by simp))
    have O7 := Lib.hid (same_yes (c := c5) (c' := c6) (R5.out.new t6) (row_ints r6) (by omega))
    clear t6 O6 H5 T5 r6 R5
    go_wp2_with fail
    refine (O7.out).mono ?_
    rintro e w7 ⟨rfl, t7⟩
    have H7 := Lib.hid (H6.out.new t7)
    have T7 := Lib.hid (T6.out.trans t7 (by simp))
    have O8 := Lib.hid (total_any H7.out (by omega) F1.out)
    clear t7 O7 H6 T6
    go_wp2_with fail
    refine (O8.out).mono ?_
    rintro e w8 ⟨L', hL', rfl, t8⟩
    obtain rfl : L = L' := ids_unique HL.out hL'
    have T8 := Lib.hid (T7.out.trans t8 (by simp))
    have O9 := Lib.hid (refTotal_any (c := c) (HX.out.new T8.out) hm8 HF.out HL.out (by omega))
    have E2 := st_eql (totF (playM X m) L 0) (totF (playM X m) L 1) (totF (playM X m) L 2) (totF (playM X m) L 3) (totF (playM X m) L 4) (totF (playM X m) L 5)
    clear t8 O8 H7 T7 hL'
    go_wp2_with fail
    refine (O9.out).mono ?_
    rintro e w9 ⟨rfl, t9⟩
    have T9 := Lib.hid (T8.out.trans t9 (by simp))
    have LV := Lib.hid (lives34 w9)
    clear t9 O9 T8
    go_wp2_with fail
    refine (LV.out).mono ?_
    rintro e w10 ⟨rfl, t10⟩
    have T10 := Lib.hid (T9.out.trans t10 (by simp))
    clear t10 LV T9 E2
    go_wp2_with fail
    go_ret
    exact ⟨rfl, T10.out⟩
set_option maxRecDepth 100000 in
theorem ledgerTells_calls : LawCalls Try.prog 3 Try.f3 := by
  intro H enc W base args ds p hval hA hlt
  rw [Try.params3] at hA hval
  obtain ⟨v0, vs0, d0, ds0, p0, q0, hargs, rfl, rfl, h0, r0⟩ := trodAll_cons hA
  obtain ⟨v1, vs1, d1, ds1, p1, q1, rfl, rfl, rfl, h1, r1⟩ := trodAll_cons r0
  obtain ⟨v2, vs2, d2, ds2, p2, q2, rfl, rfl, rfl, h2, r2⟩ := trodAll_cons r1
  obtain ⟨rfl, rfl, rfl⟩ := trodAll_nil r2
  obtain rfl : args = #[v0, v1, v2] := by cases args; simp_all
  obtain ⟨A, len, cap, X, rfl, hX, hf⟩ := nt_cells W base H enc v0 d0 p0 (hval 0 22 v0 rfl rfl) h0
  obtain ⟨id, rfl, rfl, rfl, wi⟩ := open_int Try.underlying3 (hval 1 3 v1 rfl rfl) h1
  obtain ⟨r, rfl, rfl, rfl, wr⟩ := open_int Try.underlying3 (hval 2 3 v2 rfl rfl) h2
  refine (ledgerTells_walk A len cap X id r W hX hf wi).mono ?_
  rintro e w' ⟨he, t⟩
  exact ⟨he, t.below (by simp) (Nat.le_refl _)⟩

set_option maxRecDepth 100000 in
theorem ledgerTells_lifted (os : Os) (started : os.Started) (H : Type) (enc : TypeId × Value → H) :
    ReturnsInHanded {} Try.checked os 3 .any (Rows.ledgerTellsSpec.pre6 enc Try.prog Try.f3 Rows.ledgerTellsRow.domain false) (Rows.ledgerTellsSpec.post enc Try.prog Try.f3 false true false false) := by
  refine returnsInHanded_of_change (C := Try.checked) own started (by kernel_rfl) Try.func3
    (ChangeSpec.witness6 (enc := enc) (C := Try.checked) false ⟨#[], #[.slice none 0 0, .int .i64 0, .int .i64 0], []⟩ 8 (by kernel_rfl) (by kernel_rfl) (by kernel_rfl) (by kernel_rfl)) ?_
  intro W base args ds gs before hval hW _ _
  exact law_contract laidOut (by kernel_rfl) rfl rfl boolType (fun ds h => by match ds, h with | [_, _, _], _ => rfl) ledgerTells_calls W base args ds gs before hval hW

theorem ledgerTells_holds : Rows.LedgerTellsSaid :=
  OpenClaim.holds_of_wide 3 Try.f3 rfl rfl rfl rfl rfl rfl rfl ⟨rfl, rfl, rfl, rfl, rfl⟩ rfl rfl rfl rfl rfl (by kernel_rfl) Try.func3 (by kernel_rfl)
    (of_decide_eq_true (by kernel_rfl)) (by unfold Func.isWrapper; first | (rw [if_pos (by decide +kernel)]; kernel_rfl) | (rw [if_neg (by decide +kernel)]; exact ⟨rfl, rfl⟩))
    (fun os started H enc _ => ledgerTells_lifted os started H enc)
#print axioms ledgerTells_holds
end Go.Proofs.Ytbppccmkmpgibaa
