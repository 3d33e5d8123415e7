/-
  PoolPlays: for every number of slots, every room and every list of calls the law returns true. No conditions.
-/
import Derived.Test.YtkbjkijcabmbpaaPoolPlaysMain
import Derived.Test.YtkbjkijcabmbpaaPoolOpen
import Derived.Test.YtkbjkijcabmbpaaPoolLives
import Derived.Deep.LoopGhost
import Derived.Deep.CutBlock
import Derived.OwnWalk
import Derived.IntWalk
namespace Go.Proofs.Ytkbjkijcabmbpaa
open Go.ChangeShapes Go.WideShapes Go.ChangeAt Go.RowKit Go.Deep Go.Maps Go.Joins
set_option linter.unusedVariables false
set_option linter.unusedSimpArgs false

theorem list13 {cs : List Value} (h : cs.length = 13) : ∃ a0 a1 a2 a3 a4 a5 a6 a7 a8 a9 a10 a11 a12, cs = [a0, a1, a2, a3, a4, a5, a6, a7, a8, a9, a10, a11, a12] := by
  match cs, h with
  | [a0, a1, a2, a3, a4, a5, a6, a7, a8, a9, a10, a11, a12], _ => exact ⟨a0, a1, a2, a3, a4, a5, a6, a7, a8, a9, a10, a11, a12, rfl⟩
set_option maxRecDepth 100000 in
set_option maxHeartbeats 6400000 in
theorem poolPlays_edge (slots room : Int) (A : Option Addr) (n cap : Nat) (W : World) (h : slots < 1 ∨ 4096 < slots ∨ room < 0 ∨ 4194304 < room ∨ 20 < slots ∨ 60 < (n : Int)) :
    Calls Try.prog 5 #[.int .i64 slots, .int .i64 room, .slice A n cap] W fun e w' => e = .returned (.bool true) ∧ Below W.heap.size W w' := by
  have N8 := Lib.hid (fun w => poolLives_any w)
  by_cases z0 : slots < 1
  · have g1 : decide (slots < 1) = true := by simpa using z0
    have Q0 := Lib.hid (poolNew_no slots room W (by omega))
    clear h z0
    go_enter Try.func5, Try.ntmps5
    go_wp2_with fail
    refine (Q0.out).mono ?_
    rintro e w1 ⟨rfl, rfl⟩
    have T1 := Lib.hid (Touch.refl [] w1)
    go_wp2_with fail
    refine (N8.out _).mono ?_
    rintro e w9 ⟨rfl, t9⟩
    go_wp2_with fail
    go_ret
    exact ⟨rfl, (T1.out.trans t9 (by simp)).below (by simp) (Nat.le_refl _)⟩
  · have g1 : decide (slots < 1) = false := by simpa using z0
    by_cases z1 : 4096 < slots
    · have g2 : decide (4096 < slots) = true := by simpa using z1
      have Q0 := Lib.hid (poolNew_no slots room W (by omega))
      clear h z0 z1
      go_enter Try.func5, Try.ntmps5
      go_wp2_with fail
      refine (Q0.out).mono ?_
      rintro e w1 ⟨rfl, rfl⟩
      have T1 := Lib.hid (Touch.refl [] w1)
      go_wp2_with fail
      refine (N8.out _).mono ?_
      rintro e w9 ⟨rfl, t9⟩
      go_wp2_with fail
      go_ret
      exact ⟨rfl, (T1.out.trans t9 (by simp)).below (by simp) (Nat.le_refl _)⟩
    · have g2 : decide (4096 < slots) = false := by simpa using z1
      by_cases z2 : room < 0
      · have g3 : decide (room < 0) = true := by simpa using z2
        have Q0 := Lib.hid (poolNew_no slots room W (by omega))
        clear h z0 z1 z2
        go_enter Try.func5, Try.ntmps5
        go_wp2_with fail
        refine (Q0.out).mono ?_
        rintro e w1 ⟨rfl, rfl⟩
        have T1 := Lib.hid (Touch.refl [] w1)
        go_wp2_with fail
        refine (N8.out _).mono ?_
        rintro e w9 ⟨rfl, t9⟩
        go_wp2_with fail
        go_ret
        exact ⟨rfl, (T1.out.trans t9 (by simp)).below (by simp) (Nat.le_refl _)⟩
      · have g3 : decide (room < 0) = false := by simpa using z2
        by_cases z3 : 4194304 < room
        · have g4 : decide (4194304 < room) = true := by simpa using z3
          have Q0 := Lib.hid (poolNew_no slots room W (by omega))
          clear h z0 z1 z2 z3
          go_enter Try.func5, Try.ntmps5
          go_wp2_with fail
          refine (Q0.out).mono ?_
          rintro e w1 ⟨rfl, rfl⟩
          have T1 := Lib.hid (Touch.refl [] w1)
          go_wp2_with fail
          refine (N8.out _).mono ?_
          rintro e w9 ⟨rfl, t9⟩
          go_wp2_with fail
          go_ret
          exact ⟨rfl, (T1.out.trans t9 (by simp)).below (by simp) (Nat.le_refl _)⟩
        · have g4 : decide (4194304 < room) = false := by simpa using z3
          by_cases z4 : 20 < slots
          · have g5 : decide (20 < slots) = true := by simpa using z4
            obtain ⟨ns0, rfl⟩ := Int.eq_ofNat_of_zero_le (show 0 ≤ slots by omega)
            have Q0 := Lib.hid (poolNew_yes ns0 room W (by omega) (by omega) (by omega) (by omega))
            unfold PoolFresh at Q0
            clear h z0 z1 z2 z3 z4
            go_enter Try.func5, Try.ntmps5
            go_wp2_with fail
            refine (Q0.out).mono ?_
            rintro e w1 ⟨q, p, g, k, mb, rfl, hp1, t1, _⟩
            have T1 := Lib.hid t1
            clear hp1 t1
            go_wp2_with fail
            refine (N8.out _).mono ?_
            rintro e w9 ⟨rfl, t9⟩
            go_wp2_with fail
            go_ret
            exact ⟨rfl, (T1.out.trans t9 (by simp)).below (by simp) (Nat.le_refl _)⟩
          · have g5 : decide (20 < slots) = false := by simpa using z4
            by_cases z5 : 60 < (n : Int)
            · have g6 : decide (60 < (n : Int)) = true := by simpa using z5
              obtain ⟨ns0, rfl⟩ := Int.eq_ofNat_of_zero_le (show 0 ≤ slots by omega)
              have Q0 := Lib.hid (poolNew_yes ns0 room W (by omega) (by omega) (by omega) (by omega))
              unfold PoolFresh at Q0
              clear h z0 z1 z2 z3 z4 z5
              go_enter Try.func5, Try.ntmps5
              go_wp2_with fail
              refine (Q0.out).mono ?_
              rintro e w1 ⟨q, p, g, k, mb, rfl, hp1, t1, _⟩
              have T1 := Lib.hid t1
              clear hp1 t1
              go_wp2_with fail
              refine (N8.out _).mono ?_
              rintro e w9 ⟨rfl, t9⟩
              go_wp2_with fail
              go_ret
              exact ⟨rfl, (T1.out.trans t9 (by simp)).below (by simp) (Nat.le_refl _)⟩
            · have g6 : decide (60 < (n : Int)) = false := by simpa using z5
              omega
set_option maxRecDepth 100000 in
/-- An argument that is a slice of such acts. -/
theorem actP_cells (W : World) (base : Nat) (H : Type) (enc : TypeId × Value → H) (v : Value) (d : DataW H) (p : List MemPlace) (hv : Value.okWide Try.prog W .any base 51 v)
    (h : DataW.Trod enc Try.prog W 0 (fun _ => true) true 51 v d p) : ∃ A len cap X, v = .slice A len cap ∧ len ≤ maxLen ∧ ActPCells W W.heap.size A len X := by
  have kC : Try.prog.cellsOf 70 = 13 := by kernel_rfl
  have c3 : Try.prog.cellsOf 3 = 1 := by kernel_rfl
  have c10 : Try.prog.cellsOf 66 = 10 := by kernel_rfl
  have c2 : Try.prog.cellsOf 68 = 2 := by kernel_rfl
  obtain ⟨A, len, cap, rfl, hl, hm, hi⟩ := slice_elems Try.underlying51 (by rw [kC]; omega) hv h
  haveI : Inhabited ActP := ⟨⟨0, zeroPk, 0, 0⟩⟩
  obtain ⟨X, hX⟩ := Deep.choose_lt (α := ActP) (n := len) (p := fun i e => ∃ b off, A = some ⟨b, off, none⟩ ∧ b < W.heap.size ∧ ∀ t v, e.cells.toList[t]? = some v → W.cell? ⟨b, off + i * 13 + t, none⟩ = some v) (fun i hlt => by
      obtain ⟨b, off, m, cs, x, hA, hb, hlen, hat, hx⟩ := hi i hlt
      rw [kC] at hlen hat
      obtain ⟨m0, y0, h0⟩ := field_in Try.underlying70 hx 0 _ rfl
      obtain ⟨m1, y1, h1⟩ := field_in Try.underlying70 hx 1 _ rfl
      obtain ⟨m2, y2, h2⟩ := field_in Try.underlying70 hx 2 _ rfl
      obtain ⟨a0, a1, a2, a3, a4, a5, a6, a7, a8, a9, a10, a11, a12, rfl⟩ := list13 hlen
      simp [c3, c10, c2] at h0 h1 h2
      obtain ⟨b0, rfl, _⟩ := cell_int Try.underlying3 h0
      obtain ⟨q, hq, _⟩ := pk_open (by rfl) h1
      obtain ⟨n0, z0, k0⟩ := field_in Try.underlying68 h2 0 _ rfl
      obtain ⟨n1, z1, k1⟩ := field_in Try.underlying68 h2 1 _ rfl
      simp [c3] at k0 k1
      obtain ⟨b1, rfl, _⟩ := cell_int Try.underlying3 k0
      obtain ⟨b2, rfl, _⟩ := cell_int Try.underlying3 k1
      have hcs : [Value.int .i64 b0, a1, a2, a3, a4, a5, a6, a7, a8, a9, a10, .int .i64 b1, .int .i64 b2] = (ActP.cells ⟨b0, q, b1, b2⟩).toList := by
        have e : [a1, a2, a3, a4, a5, a6, a7, a8, a9, a10] = q.cells.toList := hq
        simp only [Pk.cells, List.cons.injEq] at e
        obtain ⟨rfl, rfl, rfl, rfl, rfl, rfl, rfl, rfl, rfl, rfl, _⟩ := e
        rfl
      refine ⟨⟨b0, q, b1, b2⟩, b, off, hA, hb, fun t v hv => ?_⟩
      have ht : t < 13 := by
        have := (List.getElem?_eq_some_iff.1 hv).1
        simpa [ActP.cells] using this
      rw [hat t ht, hcs]
      exact hv)
  exact ⟨A, len, cap, X, rfl, Nat.le_trans hl hm, hX⟩

set_option maxRecDepth 100000 in
theorem poolPlays_calls : LawCalls Try.prog 5 Try.f5 := by
  intro H enc W base args ds p hval hA hlt
  rw [Try.params5] at hA hval
  obtain ⟨v0, vs0, d0, ds0, p0, q0, hargs, rfl, rfl, h0, r0⟩ := trodAll_cons hA
  obtain ⟨v1, vs1, d1, ds1, p1, q1, rfl, rfl, rfl, h1, r1⟩ := trodAll_cons r0
  obtain ⟨v2, vs2, d2, ds2, p2, q2, rfl, rfl, rfl, h2, r2⟩ := trodAll_cons r1
  obtain ⟨rfl, rfl, rfl⟩ := trodAll_nil r2
  obtain rfl : args = #[v0, v1, v2] := by cases args; simp_all
  obtain ⟨t, rfl, rfl, rfl, wt⟩ := open_int Try.underlying3 (hval 0 3 v0 rfl rfl) h0
  obtain ⟨r, rfl, rfl, rfl, wr⟩ := open_int Try.underlying3 (hval 1 3 v1 rfl rfl) h1
  obtain ⟨A, len, cap, X, rfl, hm, hX⟩ := actP_cells W base H enc v2 d2 p2 (hval 2 51 v2 rfl rfl) h2
  by_cases hn : t < 1 ∨ 4096 < t ∨ r < 0 ∨ 4194304 < r ∨ 20 < t ∨ 60 < (len : Int)
  · exact poolPlays_edge t r A len cap W hn
  · obtain ⟨z, rfl⟩ := Int.eq_ofNat_of_zero_le (show 0 ≤ t by omega)
    exact poolPlays_main z r A len cap X W (by omega) (by omega) (by omega) (by omega) hX

set_option maxRecDepth 100000 in
theorem poolPlays_lifted (os : Os) (started : os.Started) (H : Type) (enc : TypeId × Value → H) :
    ReturnsInHanded {} Try.checked os 5 .any (Rows.poolPlaysSpec.pre6 enc Try.prog Try.f5 Rows.poolPlaysRow.domain false) (Rows.poolPlaysSpec.post enc Try.prog Try.f5 false true false false) := by
  refine returnsInHanded_of_change (C := Try.checked) own started (by kernel_rfl) Try.func5
    (ChangeSpec.witness6 (enc := enc) (C := Try.checked) false ⟨#[], #[.int .i64 0, .int .i64 0, .slice none 0 0], []⟩ 8 (by kernel_rfl) (by kernel_rfl) (by kernel_rfl) (by kernel_rfl)) ?_
  intro W base args ds gs before hval hW _ _
  exact law_contract laidOut (by kernel_rfl) rfl rfl boolType (fun ds h => by match ds, h with | [_, _, _], _ => rfl) poolPlays_calls W base args ds gs before hval hW

theorem poolPlays_holds : Rows.PoolPlaysSaid :=
  OpenClaim.holds_of_wide 5 Try.f5 rfl rfl rfl rfl rfl rfl rfl ⟨rfl, rfl, rfl, rfl, rfl⟩ rfl rfl rfl rfl rfl (by kernel_rfl) Try.func5 (by kernel_rfl)
    (of_decide_eq_true (by kernel_rfl)) (by unfold Func.isWrapper; first | (rw [if_pos (by decide +kernel)]; kernel_rfl) | (rw [if_neg (by decide +kernel)]; exact ⟨rfl, rfl⟩))
    (fun os started H enc _ => poolPlays_lifted os started H enc)
#print axioms poolPlays_holds

end Go.Proofs.Ytkbjkijcabmbpaa
