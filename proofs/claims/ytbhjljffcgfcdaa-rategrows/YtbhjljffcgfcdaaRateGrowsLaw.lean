/-
  RateGrows: for every link, share and lengths the law on the order of transmission times returns true. No conditions.
-/
import Derived.Test.YtbhjljffcgfcdaaRate3
import Derived.Test.YtbhjljffcgfcdaaInts
import Derived.Lib.SmallJoins
namespace Go.Proofs.Ytbhjljffcgfcdaa
open Go.ChangeShapes Go.WideShapes Go.ChangeAt Go.RowKit Go.Deep Go.Joins
set_option linter.unusedVariables false

def cut (x : Int) : Int := if 2048 < x then 2048 else if 0 < x then x else 0
theorem cut_cases (x : Int) : (x ≤ 0 ∧ cut x = 0) ∨ (0 < x ∧ x ≤ 2048 ∧ cut x = x) ∨ (2048 < x ∧ cut x = 2048) := by
  unfold cut
  repeat' split
  all_goals omega
theorem cut_in (x : Int) : 0 ≤ cut x ∧ cut x ≤ 2048 := by have := cut_cases x; omega
theorem cells_round {n : Int} (h : 0 ≤ n ∧ n ≤ 2048) : n ≤ 8 * cellsV n ∧ 8 * cellsV n < n + 8 := by
  unfold cellsV
  repeat' split
  all_goals omega
theorem cells_mono {n m : Int} (h : n ≤ m) : cellsV n ≤ cellsV m := by
  unfold cellsV
  repeat' split
  all_goals omega

section
variable {tpb units : Int}
theorem time_part (h : okRate tpb units) {n : Int} (hn : 0 ≤ n ∧ n ≤ 2048) : n * tpb * 1048576 ≤ timeV tpb units (cellsV n) * units ∧ timeV tpb units (cellsV n) * units ≤ 4503599627370496 ∧ 0 ≤ timeV tpb units (cellsV n) * units ∧ 0 ≤ n * tpb ∧ n * tpb ≤ 2147483648 := by
  have hc := cells_round hn
  have hin := cellsV_in n
  have ha := arg_in h hin
  have hu := upV_ceil ha ⟨h.2.2.1, h.2.2.2⟩
  unfold okRate at h
  have h1 : n * tpb ≤ 8 * cellsV n * tpb := Int.mul_le_mul_of_nonneg_right hc.1 (by omega)
  have h2 : 0 ≤ n * tpb := Int.mul_nonneg hn.1 (by omega)
  have h3 : 0 ≤ upV (8 * cellsV n * tpb) 1048576 units * units := Int.mul_nonneg hu.1 (by omega)
  have h4 : upV (8 * cellsV n * tpb) 1048576 units * units ≤ 4503599627370496 := by
    rcases Int.lt_or_le 0 (upV (8 * cellsV n * tpb) 1048576 units) with p | p
    · have := hu.2.2.2 p
      rw [Int.sub_mul, Int.one_mul] at this
      omega
    · have : upV (8 * cellsV n * tpb) 1048576 units = 0 := by have := hu.1; omega
      rw [this, Int.zero_mul]
      omega
  unfold timeV
  omega
theorem time_share (h : okRate tpb units) {u' : Int} (h' : okRate tpb u') (hu : u' ≤ units) {k : Int} (hk : 0 ≤ k ∧ k ≤ 256) : timeV tpb units k ≤ timeV tpb u' k := by
  have a := upV_ceil (arg_in h hk) ⟨h.2.2.1, h.2.2.2⟩
  have b := upV_ceil (arg_in h' hk) ⟨h'.2.2.1, h'.2.2.2⟩
  refine ceil_le (u := units) (v := 0) h.2.2.1 a.2.2.2 ?_ b.1
  have : timeV tpb u' k * u' ≤ timeV tpb u' k * units := Int.mul_le_mul_of_nonneg_left hu b.1
  unfold timeV at *
  omega
theorem bytes_back (h : okRate tpb units) {n : Int} (hn : 0 ≤ n ∧ n ≤ 2048) : bytesV tpb units (timeV tpb units (cellsV n)) = 8 * cellsV n := by
  have hin := cellsV_in n
  obtain ⟨k, hk⟩ : ∃ k : Nat, cellsV n = k := ⟨(cellsV n).toNat, by omega⟩
  rw [hk] at hin ⊢
  have ht := (timeV_in h hin).1
  have hs := fitsV_spec h ht 256 (Nat.le_refl _)
  have hle := fitsV_le tpb units (timeV tpb units k) 256
  unfold bytesV
  rw [if_neg (by omega)]
  generalize fitsV tpb units (timeV tpb units k) 256 = f at *
  rcases Nat.lt_trichotomy f k with g | g | g
  · have := hs.2 k g (by omega)
    omega
  · rw [g]
  · have := timeV_strict h (j := k) (k := f) (by omega) (by omega) (by omega)
    omega
end

def half (u : Int) : Int := if 1 < u.tdiv 2 then u.tdiv 2 else 1
theorem half_ok {tpb units : Int} (h : okRate tpb units) : okRate tpb (half units) ∧ half units ≤ units := by
  unfold okRate half at *
  rw [Int.tdiv_eq_ediv_of_nonneg (by omega)]
  split <;> omega

def NewAny (w : World) (e : Ending) (w' : World) : Prop := ∃ v x, e = .returned (.tuple #[v, .int .i64 x]) ∧ Touch [] w w'
theorem new4_any (tpb u : Int) (w : World) : Calls Try.prog 21 #[.int .i64 tpb, .int .i64 u] w (NewAny w) := by
  by_cases h : okRate tpb u
  · exact (new4_yes w h).mono fun e w' ⟨he, _, hb⟩ => ⟨_, _, he, Touch.ofBelow hb⟩
  · exact (new4_no w h).mono fun e w' ⟨he, hb⟩ => ⟨_, _, he, hb ▸ Touch.refl _ _⟩

set_option maxHeartbeats 2000000 in
set_option maxRecDepth 100000 in
theorem rateGrows_walk (tpb units x y : Int) (wd : World) (hu : fit64 units) :
    Calls Try.prog 7 #[.int .i64 tpb, .int .i64 units, .agg #[.int .i64 x, .int .i64 y]] wd fun e w' => e = .returned (.bool true) ∧ Below wd.heap.size wd w' := by
  have bx := Box2.new wd 33 (.int .i64 x) (.int .i64 y)
  have T0 := Lib.hid ((Touch.refl [] wd).alloc (.cells #[.int .i64 x, .int .i64 y] 33))
  have L := Lib.hid (fun w => rateLives_any w)
  have X := Lib.hid (cut_cases x)
  have Y := Lib.hid (cut_cases y)
  have hn := cut_in x
  have hm := cut_in y
  have hsz : (wd.alloc (.cells #[.int .i64 x, .int .i64 y] 33)).heap.size = wd.heap.size + 1 := by simp
  have HS := Lib.hid hsz
  clear hsz
  generalize cut x = n at *
  generalize cut y = m at *
  have BX := Lib.hid bx
  clear bx
  unfold fit64 at hu
  go_enter Try.func7, Try.ntmps7
  go_upto_region 1 with fail
  generalize wd.alloc (.cells #[.int .i64 x, .int .i64 y] 33) = w1 at *
  go_cut [7, 8] (fun u v wx => u = .int .i64 n ∧ v = .int .i64 m ∧ Touch [] w1 wx)
  case first =>
    have k0 : ∀ z : Cls w1, z.val.cell? ⟨wd.heap.size, 0, none⟩ = some (.int .i64 x) := fun z => (BX.out.carry z.property (by simp)).c0
    have k1 : ∀ z : Cls w1, z.val.cell? ⟨wd.heap.size, 1, none⟩ = some (.int .i64 y) := fun z => (BX.out.carry z.property (by simp)).c1
    rcases X.out with ⟨g, rfl⟩ | ⟨g, g', rfl⟩ | ⟨g, rfl⟩ <;> rcases Y.out with ⟨k, rfl⟩ | ⟨k, k', rfl⟩ | ⟨k, rfl⟩
    all_goals
      refine wp_region_cls (wd := w1) (by kernel_rfl) (by kernel_rfl) ((Touch.refl _ _).drew) ?_
      repeat (first | go_big_quiet_step (fail) | quiet_step (fail))
      refine wpQuiet_nil ?_
      rintro _ ⟨z, rfl⟩
      go_wp2_with fail
      go_meet
      exact ⟨rfl, rfl, z.property⟩
  case rest =>
    obtain ⟨rfl, rfl, tc⟩ := hcut
    have T1 := Lib.hid (T0.out.trans tc (by simp))
    have le1 := T0.out.size
    clear tc X Y BX T0 HS le1
    by_cases h : okRate tpb units
    · obtain ⟨h', hle⟩ := half_ok h
      have N1 := Lib.hid (fun w => new4_yes w h)
      have N2 := Lib.hid (fun w => new4_yes w h')
      have HH := Lib.hid h
      have HH' := Lib.hid h'
      have hc := cellsV_in n
      have p1 := time_part h hn
      have p2 : n ≤ m → timeV tpb units (cellsV n) ≤ timeV tpb units (cellsV m) := fun g => timeV_mono h hc.1 (cells_mono g) (cellsV_in m).2
      have p3 := time_share h h' hle hc
      have p4 := bytes_back h hn
      have p5 := cells_round hn
      have P2 := Lib.hid p2
      have P4 := Lib.hid p4
      have EH := Lib.hid (show half units = if 1 < units.tdiv 2 then units.tdiv 2 else 1 from rfl)
      unfold okRate at h
      have ed : units.tdiv 2 = units / 2 := Int.tdiv_eq_ediv_of_nonneg (by omega)
      rw [ed] at EH
      clear p2 p4 ed
      generalize half units = u' at *
      go_wp2_with fail
      refine (N1.out _).mono ?_
      rintro e w2 ⟨rfl, ta, b2⟩
      have TA := Lib.hid ta
      have T2 := Lib.hid (T1.out.trans (Touch.ofBelow (S := []) b2) (by simp))
      have pl := ta.lt
      clear ta b2
      have F : ∀ w, Hid (Calls Try.prog 21 #[.int .i64 tpb, .int .i64 u'] w (NewPost tpb u' w)) := fun w => Lib.hid (N2.out w)
      have cases : (1 < units / 2 ∧ u' = units / 2) ∨ (units / 2 ≤ 1 ∧ u' = 1) := by
        rw [EH.out]
        split <;> omega
      have g1 : decide (timeV tpb u' (cellsV n) < timeV tpb units (cellsV n)) = false := by simp; omega
      have g2 : decide (timeV tpb units (cellsV n) * units < n * tpb * 1048576) = false := by simp; omega
      have e1 : wrap64 (timeV tpb units (cellsV n) * units) = timeV tpb units (cellsV n) * units := by unfold wrap64; omega
      have e2 : wrap64 (n * tpb) = n * tpb := by unfold wrap64; omega
      have e3 : wrap64 (n * tpb * 1048576) = n * tpb * 1048576 := by unfold wrap64; omega
      clear p1 p3
      rcases cases with ⟨hh, rfl⟩ | ⟨hh, rfl⟩
      all_goals
        clear EH
        go_wp2_with fail
        refine ((F _).out).mono ?_
        rintro e w3 ⟨rfl, tb, b3⟩
        have TA3 := Lib.hid (TA.out.carry (Touch.ofBelow (S := []) b3) (by simp))
        have TB3 := Lib.hid tb
        have T3 := Lib.hid (T2.out.trans (Touch.ofBelow (S := []) b3) (by simp))
        clear tb b3 F
        by_cases hnm : n ≤ m
        · have hp := P2.out hnm
          have g3 : decide (timeV tpb units (cellsV m) < timeV tpb units (cellsV n)) = false := by simp; omega
          clear hp
          go_wp2_with fail
          refine (time_any TA3.out n).mono ?_
          rintro e w4 ⟨rfl, t4⟩
          have TA4 := Lib.hid (TA3.out.carry t4 (by simp))
          have TB4 := Lib.hid (TB3.out.carry t4 (by simp))
          have T4 := Lib.hid (T3.out.trans t4 (by simp))
          clear t4 TA3 TB3 T3
          go_wp2_with fail
          refine (time_any TA4.out m).mono ?_
          rintro e w5 ⟨rfl, t5⟩
          have TA5 := Lib.hid (TA4.out.carry t5 (by simp))
          have TB5 := Lib.hid (TB4.out.carry t5 (by simp))
          have T5 := Lib.hid (T4.out.trans t5 (by simp))
          clear t5 TA4 TB4 T4
          go_wp2_with fail
          refine (time_any TA5.out n).mono ?_
          rintro e w6 ⟨rfl, t6⟩
          have TA6 := Lib.hid (TA5.out.carry t6 (by simp))
          have TB6 := Lib.hid (TB5.out.carry t6 (by simp))
          have T6 := Lib.hid (T5.out.trans t6 (by simp))
          clear t6 TA5 TB5 T5
          go_wp2_with fail
          refine (time_any TB6.out n).mono ?_
          rintro e w7 ⟨rfl, t7⟩
          have TA7 := Lib.hid (TA6.out.carry t7 (by simp))
          have TB7 := Lib.hid (TB6.out.carry t7 (by simp))
          have T7 := Lib.hid (T6.out.trans t7 (by simp))
          clear t7 TA6 TB6 T6
          go_wp2_with fail
          refine (time_any TA7.out n).mono ?_
          rintro e w8 ⟨rfl, t8⟩
          have TA8 := Lib.hid (TA7.out.carry t8 (by simp))
          have TB8 := Lib.hid (TB7.out.carry t8 (by simp))
          have T8 := Lib.hid (T7.out.trans t8 (by simp))
          clear t8 TA7 TB7 T7
          go_wp2_with fail
          refine (time_any TA8.out n).mono ?_
          rintro e w9 ⟨rfl, t9⟩
          have TA9 := Lib.hid (TA8.out.carry t9 (by simp))
          have TB9 := Lib.hid (TB8.out.carry t9 (by simp))
          have T9 := Lib.hid (T8.out.trans t9 (by simp))
          clear t9 TA8 TB8 T8
          go_wp2_with fail
          refine (bytes_any TA9.out HH.out _).mono ?_
          rw [P4.out]
          rintro e w10 ⟨rfl, t10⟩
          have T10 := Lib.hid (T9.out.trans t10 (by simp))
          clear t10 TA9 TB9 T9
          go_wp2_with fail
          refine (L.out _).mono ?_
          rintro e wz ⟨rfl, hz⟩
          go_wp2_with fail
          go_ret
          exact ⟨rfl, bnext (T10.out.below (by simp) (Nat.le_refl _)) hz⟩
        · have g4 : decide (n ≤ m) = false := by simp; omega
          go_wp2_with fail
          refine (time_any TA3.out n).mono ?_
          rintro e w4 ⟨rfl, t4⟩
          have TA4 := Lib.hid (TA3.out.carry t4 (by simp))
          have TB4 := Lib.hid (TB3.out.carry t4 (by simp))
          have T4 := Lib.hid (T3.out.trans t4 (by simp))
          clear t4 TA3 TB3 T3
          go_wp2_with fail
          refine (time_any TB4.out n).mono ?_
          rintro e w5 ⟨rfl, t5⟩
          have TA5 := Lib.hid (TA4.out.carry t5 (by simp))
          have TB5 := Lib.hid (TB4.out.carry t5 (by simp))
          have T5 := Lib.hid (T4.out.trans t5 (by simp))
          clear t5 TA4 TB4 T4
          go_wp2_with fail
          refine (time_any TA5.out n).mono ?_
          rintro e w6 ⟨rfl, t6⟩
          have TA6 := Lib.hid (TA5.out.carry t6 (by simp))
          have TB6 := Lib.hid (TB5.out.carry t6 (by simp))
          have T6 := Lib.hid (T5.out.trans t6 (by simp))
          clear t6 TA5 TB5 T5
          go_wp2_with fail
          refine (time_any TA6.out n).mono ?_
          rintro e w7 ⟨rfl, t7⟩
          have TA7 := Lib.hid (TA6.out.carry t7 (by simp))
          have TB7 := Lib.hid (TB6.out.carry t7 (by simp))
          have T7 := Lib.hid (T6.out.trans t7 (by simp))
          clear t7 TA6 TB6 T6
          go_wp2_with fail
          refine (bytes_any TA7.out HH.out _).mono ?_
          rw [P4.out]
          rintro e w8 ⟨rfl, t8⟩
          have T8 := Lib.hid (T7.out.trans t8 (by simp))
          clear t8 TA7 TB7 T7
          go_wp2_with fail
          refine (L.out _).mono ?_
          rintro e wz ⟨rfl, hz⟩
          go_wp2_with fail
          go_ret
          exact ⟨rfl, bnext (T8.out.below (by simp) (Nat.le_refl _)) hz⟩
    · have N1 := Lib.hid (fun w => new4_no w h)
      unfold okRate at h
      go_wp2_with fail
      refine (N1.out _).mono ?_
      rintro e w2 ⟨rfl, rfl⟩
      go_wp2_with fail
      all_goals
        refine (new4_any _ _ _).mono ?_
        rintro e w3 ⟨v, x3, rfl, t3⟩
        have T3 := Lib.hid (T1.out.trans t3 (by simp))
        clear t3
        rcases (show tpb < 1 ∨ (1 ≤ tpb ∧ 1048576 < tpb) ∨ (1 ≤ tpb ∧ tpb ≤ 1048576 ∧ units < 1) ∨ (1 ≤ tpb ∧ tpb ≤ 1048576 ∧ 1 ≤ units ∧ 1048576 < units) by omega) with g | g | g | g
        all_goals
          go_wp2_with fail
          refine (L.out _).mono ?_
          rintro e w5 ⟨rfl, hb5⟩
          go_wp2_with fail
          go_ret
          exact ⟨rfl, bnext (T3.out.below (by simp) (Nat.le_refl _)) hb5⟩

set_option maxRecDepth 100000 in
theorem rateGrows_calls : LawCalls Try.prog 7 Try.f7 := by
  intro H enc W base args ds p hval hA hlt
  rw [Try.params7] at hA hval
  obtain ⟨v0, vs0, d0, ds0, p0, q0, hargs, rfl, rfl, h0, r0⟩ := trodAll_cons hA
  obtain ⟨v1, vs1, d1, ds1, p1, q1, rfl, rfl, rfl, h1, r1⟩ := trodAll_cons r0
  obtain ⟨v2, vs2, d2, ds2, p2, q2, rfl, rfl, rfl, h2, r2⟩ := trodAll_cons r1
  obtain ⟨rfl, rfl, rfl⟩ := trodAll_nil r2
  obtain rfl : args = #[v0, v1, v2] := by cases args; simp_all
  obtain ⟨a, rfl, rfl, rfl, wa⟩ := open_int Try.underlying3 (hval 0 3 v0 rfl rfl) h0
  obtain ⟨b, rfl, rfl, rfl, wb⟩ := open_int Try.underlying3 (hval 1 3 v1 rfl rfl) h1
  obtain ⟨cs, rfl, hsz, hcs⟩ := open_ints_array Try.underlying33 Try.underlying3 (by kernel_rfl) (hval 2 33 v2 rfl rfl) h2
  obtain ⟨x, hx, fx⟩ := hcs 0 (by omega)
  obtain ⟨y, hy, fy⟩ := hcs 1 (by omega)
  have hC : Try.prog.cellsOf 33 = 2 := by kernel_rfl
  obtain ⟨c0, c1, rfl⟩ := array2 (hsz.trans hC)
  simp at hx hy
  subst hx hy
  exact rateGrows_walk a b x y W (i64_in wb)

set_option maxRecDepth 100000 in
theorem rateGrows_lifted (os : Os) (started : os.Started) (H : Type) (enc : TypeId × Value → H) :
    ReturnsInHanded {} Try.checked os 7 .any (Rows.rateGrowsSpec.pre6 enc Try.prog Try.f7 Rows.rateGrowsRow.domain false) (Rows.rateGrowsSpec.post enc Try.prog Try.f7 false true false false) := by
  refine returnsInHanded_of_change (C := Try.checked) own started (by kernel_rfl) Try.func7
    (ChangeSpec.witness6 (enc := enc) (C := Try.checked) false ⟨#[], #[.int .i64 0, .int .i64 0, .agg #[.int .i64 0, .int .i64 0]], []⟩ 8 (by kernel_rfl) (by kernel_rfl) (by kernel_rfl) (by kernel_rfl)) ?_
  intro W base args ds gs before hval hW _ _
  exact law_contract laidOut (by kernel_rfl) rfl rfl boolType (fun ds h => by match ds, h with | [_, _, _], _ => rfl) rateGrows_calls W base args ds gs before hval hW

theorem rateGrows_holds : Rows.RateGrowsSaid :=
  OpenClaim.holds_of_wide 7 Try.f7 rfl rfl rfl rfl rfl rfl rfl ⟨rfl, rfl, rfl, rfl, rfl⟩ rfl rfl rfl rfl rfl (by kernel_rfl) Try.func7 (by kernel_rfl)
    (of_decide_eq_true (by kernel_rfl)) (by unfold Func.isWrapper; first | (rw [if_pos (by decide +kernel)]; kernel_rfl) | (rw [if_neg (by decide +kernel)]; exact ⟨rfl, rfl⟩))
    (fun os started H enc _ => rateGrows_lifted os started H enc)
#print axioms rateGrows_holds
end Go.Proofs.Ytbhjljffcgfcdaa
