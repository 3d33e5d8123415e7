/-
  Layer 7 (chain): ChainPlays is true for every input: whatever is pushed, popped and joined, each answer, and each list, is the document's.
  No condition.
-/
import Derived.Test.YtalkpoeliekbfaaAllD
namespace Go.Proofs.Ytalkpoeliekbfaa
open Go.ChangeShapes Go.WideShapes Go.ChangeAt Go.RowKit Go.Deep Go.Maps
set_option linter.unusedVariables false
set_option linter.unusedSimpArgs false
set_option maxRecDepth 100000 in
set_option maxHeartbeats 6400000 in
theorem chainPlays_edge (n k : Int) (A : Option Addr) (m cap : Nat) (W : World) (h : n < 1 ∨ 30 < n ∨ k < 1 ∨ 8 < k ∨ 80 < (m : Int)) :
    Calls Try.prog 3 #[.int .i64 n, .int .i64 k, .slice A m cap] W fun e w' => e = .returned (.bool true) ∧ Touch [] W w' := by
  by_cases zn1 : n < 1
  · have gn1 : decide (n < 1) = true := by simpa using zn1
    have Q0 := Lib.hid (newC_bad n k W (by omega))
    clear h
    go_enter Try.func3, Try.ntmps3
    go_wp2_with fail
    refine (Q0.out).mono ?_
    rintro e w1 ⟨rfl, rfl⟩
    have T1 := Lib.hid (Touch.refl [] w1)
    go_wp2_with fail
    refine (chainLives_any w1).mono ?_
    rintro e w9 ⟨rfl, t9⟩
    have T9 := Lib.hid (T1.out.trans t9 (by simp))
    clear t9
    go_wp2_with fail
    go_ret
    exact ⟨rfl, T9.out⟩
  · have gn1 : decide (n < 1) = false := by simpa using zn1
    by_cases zn30 : 30 < n
    · have gn30 : decide (30 < n) = true := by simpa using zn30
      by_cases zn4 : 4096 < n
      · have gn4 : decide (4096 < n) = true := by simpa using zn4
        have Q0 := Lib.hid (newC_bad n k W (by omega))
        clear h
        go_enter Try.func3, Try.ntmps3
        go_wp2_with fail
        refine (Q0.out).mono ?_
        rintro e w1 ⟨rfl, rfl⟩
        have T1 := Lib.hid (Touch.refl [] w1)
        go_wp2_with fail
        refine (chainLives_any w1).mono ?_
        rintro e w9 ⟨rfl, t9⟩
        have T9 := Lib.hid (T1.out.trans t9 (by simp))
        clear t9
        go_wp2_with fail
        go_ret
        exact ⟨rfl, T9.out⟩
      · have gn4 : decide (4096 < n) = false := by simpa using zn4
        by_cases zk1 : k < 1
        · have gk1 : decide (k < 1) = true := by simpa using zk1
          have Q0 := Lib.hid (newC_bad n k W (by omega))
          clear h
          go_enter Try.func3, Try.ntmps3
          go_wp2_with fail
          refine (Q0.out).mono ?_
          rintro e w1 ⟨rfl, rfl⟩
          have T1 := Lib.hid (Touch.refl [] w1)
          go_wp2_with fail
          refine (chainLives_any w1).mono ?_
          rintro e w9 ⟨rfl, t9⟩
          have T9 := Lib.hid (T1.out.trans t9 (by simp))
          clear t9
          go_wp2_with fail
          go_ret
          exact ⟨rfl, T9.out⟩
        · have gk1 : decide (k < 1) = false := by simpa using zk1
          by_cases zk256 : 256 < k
          · have gk256 : decide (256 < k) = true := by simpa using zk256
            have Q0 := Lib.hid (newC_bad n k W (by omega))
            clear h
            go_enter Try.func3, Try.ntmps3
            go_wp2_with fail
            refine (Q0.out).mono ?_
            rintro e w1 ⟨rfl, rfl⟩
            have T1 := Lib.hid (Touch.refl [] w1)
            go_wp2_with fail
            refine (chainLives_any w1).mono ?_
            rintro e w9 ⟨rfl, t9⟩
            have T9 := Lib.hid (T1.out.trans t9 (by simp))
            clear t9
            go_wp2_with fail
            go_ret
            exact ⟨rfl, T9.out⟩
          · have gk256 : decide (256 < k) = false := by simpa using zk256
            obtain ⟨n0, rfl⟩ := Int.eq_ofNat_of_zero_le (show 0 ≤ n by omega)
            obtain ⟨k0, rfl⟩ := Int.eq_ofNat_of_zero_le (show 0 ≤ k by omega)
            have Q0 := Lib.hid (Chained.newC n0 k0 W (by omega) (by omega) (by omega) (by omega))
            clear h
            go_enter Try.func3, Try.ntmps3
            go_wp2_with fail
            refine (Q0.out).mono ?_
            rintro e w1 ⟨v, rfl, ⟨p, gn, gw, gl, cn, cw, cl, rfl, _⟩, t1⟩
            have T1 := Lib.hid t1
            clear t1
            go_wp2_with fail
            refine (chainLives_any w1).mono ?_
            rintro e w9 ⟨rfl, t9⟩
            have T9 := Lib.hid (T1.out.trans t9 (by simp))
            clear t9
            go_wp2_with fail
            go_ret
            exact ⟨rfl, T9.out⟩
    · have gn30 : decide (30 < n) = false := by simpa using zn30
      by_cases zn4 : 4096 < n
      · have gn4 : decide (4096 < n) = true := by simpa using zn4
        omega
      · have gn4 : decide (4096 < n) = false := by simpa using zn4
        by_cases zk1 : k < 1
        · have gk1 : decide (k < 1) = true := by simpa using zk1
          have Q0 := Lib.hid (newC_bad n k W (by omega))
          clear h
          go_enter Try.func3, Try.ntmps3
          go_wp2_with fail
          refine (Q0.out).mono ?_
          rintro e w1 ⟨rfl, rfl⟩
          have T1 := Lib.hid (Touch.refl [] w1)
          go_wp2_with fail
          refine (chainLives_any w1).mono ?_
          rintro e w9 ⟨rfl, t9⟩
          have T9 := Lib.hid (T1.out.trans t9 (by simp))
          clear t9
          go_wp2_with fail
          go_ret
          exact ⟨rfl, T9.out⟩
        · have gk1 : decide (k < 1) = false := by simpa using zk1
          by_cases zk8 : 8 < k
          · have gk8 : decide (8 < k) = true := by simpa using zk8
            by_cases zk256 : 256 < k
            · have gk256 : decide (256 < k) = true := by simpa using zk256
              have Q0 := Lib.hid (newC_bad n k W (by omega))
              clear h
              go_enter Try.func3, Try.ntmps3
              go_wp2_with fail
              refine (Q0.out).mono ?_
              rintro e w1 ⟨rfl, rfl⟩
              have T1 := Lib.hid (Touch.refl [] w1)
              go_wp2_with fail
              refine (chainLives_any w1).mono ?_
              rintro e w9 ⟨rfl, t9⟩
              have T9 := Lib.hid (T1.out.trans t9 (by simp))
              clear t9
              go_wp2_with fail
              go_ret
              exact ⟨rfl, T9.out⟩
            · have gk256 : decide (256 < k) = false := by simpa using zk256
              obtain ⟨n0, rfl⟩ := Int.eq_ofNat_of_zero_le (show 0 ≤ n by omega)
              obtain ⟨k0, rfl⟩ := Int.eq_ofNat_of_zero_le (show 0 ≤ k by omega)
              have Q0 := Lib.hid (Chained.newC n0 k0 W (by omega) (by omega) (by omega) (by omega))
              clear h
              go_enter Try.func3, Try.ntmps3
              go_wp2_with fail
              refine (Q0.out).mono ?_
              rintro e w1 ⟨v, rfl, ⟨p, gn, gw, gl, cn, cw, cl, rfl, _⟩, t1⟩
              have T1 := Lib.hid t1
              clear t1
              go_wp2_with fail
              refine (chainLives_any w1).mono ?_
              rintro e w9 ⟨rfl, t9⟩
              have T9 := Lib.hid (T1.out.trans t9 (by simp))
              clear t9
              go_wp2_with fail
              go_ret
              exact ⟨rfl, T9.out⟩
          · have gk8 : decide (8 < k) = false := by simpa using zk8
            by_cases zk256 : 256 < k
            · have gk256 : decide (256 < k) = true := by simpa using zk256
              omega
            · have gk256 : decide (256 < k) = false := by simpa using zk256
              by_cases zl80 : 80 < (m : Int)
              · have gl80 : decide (80 < (m : Int)) = true := by simpa using zl80
                obtain ⟨n0, rfl⟩ := Int.eq_ofNat_of_zero_le (show 0 ≤ n by omega)
                obtain ⟨k0, rfl⟩ := Int.eq_ofNat_of_zero_le (show 0 ≤ k by omega)
                have Q0 := Lib.hid (Chained.newC n0 k0 W (by omega) (by omega) (by omega) (by omega))
                clear h
                go_enter Try.func3, Try.ntmps3
                go_wp2_with fail
                refine (Q0.out).mono ?_
                rintro e w1 ⟨v, rfl, ⟨p, gn, gw, gl, cn, cw, cl, rfl, _⟩, t1⟩
                have T1 := Lib.hid t1
                clear t1
                go_wp2_with fail
                refine (chainLives_any w1).mono ?_
                rintro e w9 ⟨rfl, t9⟩
                have T9 := Lib.hid (T1.out.trans t9 (by simp))
                clear t9
                go_wp2_with fail
                go_ret
                exact ⟨rfl, T9.out⟩
              · have gl80 : decide (80 < (m : Int)) = false := by simpa using zl80
                omega
section
variable {H : Type} {enc : TypeId × Value → H} {w : World} {base : Nat} {sp : Nat → Bool}
theorem field_at {P : Program} {t : TypeId} {fs : Array Field} {n : Nat} {cs : List Value} {x : DataW H × List MemPlace} (he : P.underlying t = some (.struct fs)) (hx : DataW.trod enc P w base sp true n t cs = some x) (j : Nat) (f : Field) (hj : fs[j]? = some f) :
    ∃ m y, DataW.trod enc P w base sp true m f.type ((cs.drop f.offset).take (P.cellsOf f.type)) = some y := by
  obtain ⟨xs, m, _, _, _, hl, hf⟩ := DataW.trod_struct he hx
  have hlt : j < fs.size := (Array.getElem?_eq_some_iff.1 hj).1
  have := hf j f hj
  rw [List.getElem?_eq_getElem (by omega)] at this
  exact ⟨m, _, this⟩
end
set_option maxRecDepth 100000 in
/-- An argument that is a slice of such acts. -/
theorem actC_cells (W : World) (base : Nat) (H : Type) (enc : TypeId × Value → H) (v : Value) (d : DataW H) (p : List MemPlace) (hv : Value.okWide Try.prog W .any base 22 v)
    (h : DataW.Trod enc Try.prog W 0 (fun _ => true) true 22 v d p) : ∃ A len cap X, v = .slice A len cap ∧ len ≤ maxLen ∧ ActCCells W W.heap.size A len X := by
  have kC : Try.prog.cellsOf 28 = 3 := by kernel_rfl
  have c3 : Try.prog.cellsOf 3 = 1 := by kernel_rfl
  obtain ⟨A, len, cap, rfl, hl, hm, hi⟩ := slice_elems Try.underlying22 (by rw [kC]; omega) hv h
  haveI : Inhabited ActC := ⟨⟨0, 0, 0⟩⟩
  obtain ⟨X, hX⟩ := Deep.choose_lt (α := ActC) (n := len) (p := fun i e => ∃ b off, A = some ⟨b, off, none⟩ ∧ b < W.heap.size ∧ ∀ t v, e.cells.toList[t]? = some v → W.cell? ⟨b, off + i * 3 + t, none⟩ = some v) (fun i hlt => by
      obtain ⟨b, off, m, cs, x, hA, hb, hlen, hat, hx⟩ := hi i hlt
      rw [kC] at hlen hat
      obtain ⟨m0, y0, h0⟩ := field_at Try.underlying28 hx 0 _ rfl
      obtain ⟨m1, y1, h1⟩ := field_at Try.underlying28 hx 1 _ rfl
      obtain ⟨m2, y2, h2⟩ := field_at Try.underlying28 hx 2 _ rfl
      obtain ⟨a0, a1, a2, rfl⟩ : ∃ a0 a1 a2, cs = [a0, a1, a2] := by
        match cs, hlen with
        | [a0, a1, a2], _ => exact ⟨a0, a1, a2, rfl⟩
      simp [c3] at h0 h1 h2
      obtain ⟨b0, rfl, _⟩ := cell_int Try.underlying3 h0
      obtain ⟨b1, rfl, _⟩ := cell_int Try.underlying3 h1
      obtain ⟨b2, rfl, _⟩ := cell_int Try.underlying3 h2
      refine ⟨⟨b0, b1, b2⟩, b, off, hA, hb, fun t v hv => ?_⟩
      have ht : t < 3 := by
        have := (List.getElem?_eq_some_iff.1 hv).1
        simpa [ActC.cells] using this
      rw [hat t ht]
      exact hv)
  exact ⟨A, len, cap, X, rfl, Nat.le_trans hl hm, hX⟩

set_option maxRecDepth 100000 in
theorem chainPlays_calls : LawCalls Try.prog 3 Try.f3 := by
  intro H enc W base args ds p hval hA hlt
  rw [Try.params3] at hA hval
  obtain ⟨v0, vs0, d0, ds0, p0, q0, hargs, rfl, rfl, h0, r0⟩ := trodAll_cons hA
  obtain ⟨v1, vs1, d1, ds1, p1, q1, rfl, rfl, rfl, h1, r1⟩ := trodAll_cons r0
  obtain ⟨v2, vs2, d2, ds2, p2, q2, rfl, rfl, rfl, h2, r2⟩ := trodAll_cons r1
  obtain ⟨rfl, rfl, rfl⟩ := trodAll_nil r2
  obtain rfl : args = #[v0, v1, v2] := by cases args; simp_all
  obtain ⟨t, rfl, rfl, rfl, wt⟩ := open_int Try.underlying3 (hval 0 3 v0 rfl rfl) h0
  obtain ⟨r, rfl, rfl, rfl, wr⟩ := open_int Try.underlying3 (hval 1 3 v1 rfl rfl) h1
  obtain ⟨A, len, cap, X, rfl, hm, hX⟩ := actC_cells W base H enc v2 d2 p2 (hval 2 22 v2 rfl rfl) h2
  by_cases hn : t < 1 ∨ 30 < t ∨ r < 1 ∨ 8 < r ∨ 80 < (len : Int)
  · refine (chainPlays_edge t r A len cap W hn).mono ?_
    rintro e w' ⟨he, t⟩
    exact ⟨he, t.below (by simp) (Nat.le_refl _)⟩
  · obtain ⟨z, rfl⟩ := Int.eq_ofNat_of_zero_le (show 0 ≤ t by omega)
    obtain ⟨y, rfl⟩ := Int.eq_ofNat_of_zero_le (show 0 ≤ r by omega)
    refine (chainPlays_main z y A len cap X W (by omega) (by omega) (by omega) (by omega) (by omega) hX).mono ?_
    rintro e w' ⟨he, t⟩
    exact ⟨he, t.below (by simp) (Nat.le_refl _)⟩

set_option maxRecDepth 100000 in
theorem chainPlays_lifted (os : Os) (started : os.Started) (H : Type) (enc : TypeId × Value → H) :
    ReturnsInHanded {} Try.checked os 3 .any (Rows.chainPlaysSpec.pre6 enc Try.prog Try.f3 Rows.chainPlaysRow.domain false) (Rows.chainPlaysSpec.post enc Try.prog Try.f3 false true false false) := by
  refine returnsInHanded_of_change (C := Try.checked) own started (by kernel_rfl) Try.func3
    (ChangeSpec.witness6 (enc := enc) (C := Try.checked) false ⟨#[], #[.int .i64 0, .int .i64 0, .slice none 0 0], []⟩ 8 (by kernel_rfl) (by kernel_rfl) (by kernel_rfl) (by kernel_rfl)) ?_
  intro W base args ds gs before hval hW _ _
  exact law_contract laidOut (by kernel_rfl) rfl rfl boolType (fun ds h => by match ds, h with | [_, _, _], _ => rfl) chainPlays_calls W base args ds gs before hval hW

theorem chainPlays_holds : Rows.ChainPlaysSaid :=
  OpenClaim.holds_of_wide 3 Try.f3 rfl rfl rfl rfl rfl rfl rfl ⟨rfl, rfl, rfl, rfl, rfl⟩ rfl rfl rfl rfl rfl (by kernel_rfl) Try.func3 (by kernel_rfl)
    (of_decide_eq_true (by kernel_rfl)) (by unfold Func.isWrapper; first | (rw [if_pos (by decide +kernel)]; kernel_rfl) | (rw [if_neg (by decide +kernel)]; exact ⟨rfl, rfl⟩))
    (fun os started H enc _ => chainPlays_lifted os started H enc)
#print axioms chainPlays_holds
end Go.Proofs.Ytalkpoeliekbfaa
