/-
  CreditAgain: for every quantum and list of packets the law that a credit is above 0 again in time returns true. No conditions.
-/
import Derived.Test.YtncipngnpdhbjaaCreditLaws
import Derived.IntWalk
namespace Go.Proofs.Ytncipngnpdhbjaa
open Go.ChangeShapes Go.WideShapes Go.ChangeAt Go.RowKit Go.Deep Go.Joins Go.Maps
set_option linter.unusedVariables false

/-- One account, 7, with quantum q and a credit that a packet can leave. -/
def One (wd : World) (q : Int) (wr : World) (lo : Int) : Prop :=
  ∃ (c : Int) (C : Int → Option (Int × Int)), C 7 = some (c, q) ∧ lo ≤ c ∧ CredAt wr (wd.heap.size + 1) wd.heap.size 1 C ∧ Touch [wd.heap.size] wd wr
def Outer (wd : World) (n : Nat) (q : Int) (i : Value) (wr : World) : Prop := ∃ k : Nat, k ≤ n ∧ i = .int .i64 k ∧ One wd q wr (-2047)
def Inner (wd : World) (q m : Int) (i : Value) (wr : World) : Prop :=
  ∃ (k c : Int) (C : Int → Option (Int × Int)), i = .int .i64 (k + 1) ∧ 0 ≤ k ∧ k ≤ m ∧ C 7 = some (c, q) ∧ (k < m → visitsV c q = m - k) ∧ (k = m → 0 < c) ∧ CredAt wr (wd.heap.size + 1) wd.heap.size 1 C ∧ Touch [wd.heap.size] wd wr

set_option maxHeartbeats 2000000 in
set_option maxRecDepth 100000 in
theorem creditAgain_walk (u : Int) (A : Option Addr) (n c : Nat) (X : Nat → Int) (wd : World) (hu : 0 ≤ u ∧ u ≤ 65535) (hc : n ≤ 9223372036854775807) (hX : NumCells .u16 wd wd.heap.size A n X) (hF : ∀ i, i < n → (Lit.int .u16 (X i)).wf = true) :
    Calls Try.prog 6 #[.int .u16 u, .slice A n c] wd fun e w' => e = .returned (.bool true) ∧ Below wd.heap.size wd w' := by
  have HX := Lib.hid hX
  have HF := Lib.hid hF
  clear hX hF
  go_enter Try.func6, Try.ntmps6
  go_wp2_with fail
  refine (visit_no _ _ (nil_find _ _)).mono ?_
  rintro e w1 ⟨rfl, t1⟩
  go_wp2_with fail
  refine (open_nil _ _ _).mono ?_
  rintro e w2 ⟨rfl, t2⟩
  have T2 := Lib.hid (t1.trans t2 (by simp))
  clear t1 t2
  go_wp2_with fail
  refine (close_no _ _ (nil_find _ _)).mono ?_
  rintro e w3 ⟨rfl, t3⟩
  have T3 := Lib.hid (T2.out.trans t3 (by simp))
  clear t3 T2
  go_wp2_with fail
  refine (spend_no _ _ _ (nil_find _ _)).mono ?_
  rintro e w4 ⟨rfl, t4⟩
  have T4 := Lib.hid (T3.out.trans t4 (by simp))
  clear t4 T3
  go_wp2_with fail
  refine (give_no _ _ _ (nil_find _ _)).mono ?_
  rintro e w5 ⟨rfl, t5⟩
  have T5 := Lib.hid (T4.out.trans t5 (by simp))
  clear t5 T4
  go_wp2_with fail
  refine (visits_no _ _ (nil_find _ _)).mono ?_
  rintro e w6 ⟨rfl, t6⟩
  have T6 := Lib.hid (T5.out.trans t6 (by simp))
  clear t6 T5
  go_wp2_with fail
  refine (copy_nil _).mono ?_
  rintro e w6' ⟨rfl, rfl⟩
  go_wp2_with fail
  refine (credOf_no _ _ (nil_find _ _)).mono ?_
  rintro e w7 ⟨rfl, t7⟩
  have T7 := Lib.hid (T6.out.trans t7 (by simp))
  clear t7 T6
  by_cases hn : 40 < n
  · go_wp2_with fail
    refine (creditLives_any _).mono ?_
    rintro e w8 ⟨rfl, hb⟩
    go_wp2_with fail
    go_ret
    exact ⟨rfl, bnext (T7.out.below (by simp) (Nat.le_refl _)) hb⟩
  · go_wp2_with fail
    refine (credNew_any _).mono ?_
    rintro e w8 ⟨rfl, rfl⟩
    have A8 := credNew_at w7
    have t8 := ((Touch.refl [w7.heap.size] w7).alloc (.map #[] 0)).alloc (.cells #[.map (some w7.heap.size)] 68)
    obtain ⟨q, hq⟩ : ∃ q, q = 1 + u := ⟨_, rfl⟩
    have HQ := Lib.hid hq
    have q1 : 1 ≤ q ∧ q ≤ 65536 := by omega
    clear hq
    have O := Lib.hid (open_new A8 7 q (by exact rfl) rfl q1 (by omega))
    clear A8
    generalize (w7.alloc (.map #[] 0)).alloc (.cells #[.map (some w7.heap.size)] 68) = w8 at *
    go_wp2_with fail
    rw [← HQ.out]
    refine (O.out).mono ?_
    rintro e w9 ⟨rfl, a9, t9⟩
    have O2 := Lib.hid (open_twice a9 7 q (by exact rfl) (0, q) (updC_same _ _ _) q1)
    have T9 := Lib.hid (t8.trans t9 (by simp))
    have A9 := Lib.hid a9
    clear a9 t9 t8
    go_wp2_with fail
    refine (O2.out).mono ?_
    rintro e w10 ⟨rfl, t10⟩
    have HO := Lib.hid (show One w7 q w10 (-2047) from ⟨0, _, updC_same _ _ _, by omega, A9.out.carry t10 (by simp) (by simp), T9.out.trans t10 (by simp)⟩)
    clear t10 A9 O O2
    go_wp2_with fail
    go_loopw [82] (fun i wr => Outer w7 n q i wr) (fun i _ => n - (intOf i).toNat)
    case atStart => exact ⟨0, Nat.zero_le _, rfl, HO.out⟩
    case round =>
      obtain ⟨k, hk, rfl, c0, C, h7, hlo, ha, ht⟩ := hrel
      by_cases hlt : k < n
      · obtain ⟨bl, off, hA, hbB, hcell⟩ := HX.out k hlt
        have hx := u16_in (HF.out k hlt)
        have hcell := ((ht.cell (a := ⟨bl, off + k, none⟩) (Nat.lt_of_lt_of_le hbB T7.out.size) (by have := T7.out.size; simp; omega)).trans (T7.out.cell (a := ⟨bl, off + k, none⟩) hbB (by simp))).trans hcell
        subst hA
        generalize X k = x at *
        have hok := ha.ok 7 _ h7
        have hup : c0 ≤ q := hok.2.2.2
        have HV := Lib.hid (fun (y : Cls wr) => visits_yes (ha.carry y.property (by simp) (by simp)) 7 (by exact rfl) (c0, q) h7)
        have hm1 := (visit_step q1 ⟨by omega, hup⟩ rfl).1
        have hm2 := visits_most q1 ⟨hlo, hup⟩
        have hm3 : visitsV c0 q ≤ 2048 := by
          have : (2047 + q) / q ≤ 2048 := by
            have e := Int.add_mul_ediv_right 2047 1 (c := q) (by omega)
            rw [Int.one_mul] at e
            have := Int.ediv_le_self (a := 2047) q (by omega)
            omega
          omega
        have HM := Lib.hid (show visitsV c0 q = visitsV c0 q from rfl)
        have HA := Lib.hid ha
        have HT := Lib.hid ht
        have H7 := Lib.hid h7
        clear ha ht h7 hok
        generalize hm : visitsV c0 q = m at *
        have HMM := Lib.hid hm
        clear hm HM
        have z1 : (q == 0) = false := by simp; omega
        have z2 : (q == -1) = false := by simp; omega
        have z3 : q ≠ 0 := by omega
        have w1 : IntKind.i64.wrap (2048 + q) = 2048 + q := IntWalk.i64_in _ (by omega)
        have w2 : IntKind.i64.wrap (2048 + q - 1) = 2048 + q - 1 := IntWalk.i64_in _ (by omega)
        go_upto_region 15 with fail
        refine wp_region_cls (wd := wr) (by kernel_rfl) (by kernel_rfl) ((Touch.refl _ _).drew) ?_
        repeat (first | go_big_quiet_step ((go_at_call 40; exact Calls.cls_at (HV.out _))) | quiet_step ((go_at_call 40; exact Calls.cls_at (HV.out _))))
        refine wpQuiet_nil ?_
        rintro _ ⟨y, rfl⟩
        go_upto_region 16 with fail
        have hM : m ≤ (2048 + q - 1) / q := by rw [show 2048 + q - 1 = 2047 + q by omega]; exact hm2
        have A1 := Lib.hid (HA.out.carry y.property (by simp) (by simp))
        have T1 := Lib.hid (HT.out.trans y.property (by simp))
        generalize (2048 + q - 1) / q = M at *
        generalize y.val = wy at *
        clear w1 w2 hm2 HA HT HV z1 z2 z3 hcell
        have g1 : decide (m < 1) = false := by simp; omega
        have g2 : decide (M < m) = false := by simp; omega
        go_wp2_with fail
        clear g1 g2 hM
        go_loopw [16] (fun i wx => Inner w7 q m i wx) (fun i _ => (m + 1 - intOf i).toNat)
        case atStart => exact ⟨0, c0, C, rfl, by omega, by omega, H7.out, fun _ => by rw [HMM.out]; omega, fun h => by omega, A1.out, T1.out⟩
        case round =>
          clear A1 T1 H7 HMM hlo hup
          obtain ⟨j, c1, C1, rfl, j0, jm, h7, hv, hp, ha, ht⟩ := hrel
          have hok := ha.ok 7 _ h7
          unfold okAcc at hok
          simp only at hok
          by_cases hjm : j < m
          · obtain ⟨s1, s2, s3, s4, s5⟩ := visit_step q1 ⟨hok.2.2.1, hok.2.2.2⟩ (hv hjm)
            have V := Lib.hid (visit_yes ha 7 (by exact rfl) (c1, q) h7 (by omega))
            have HT := Lib.hid ht
            have e1 : j + 1 ≤ m := by omega
            simp only at V
            generalize clampC q (satAdd c1 q) = r at *
            clear ha ht h7 hv hp hok
            have e2 : decide (q < r) = false := by simp; omega
            by_cases hlast : j + 1 = m
            · have e3 : (j + 1 == m) = true := by simpa using hlast
              have e4 : decide (0 < r) = true := by simp; omega
              have hL := Lib.hid hlast
              have S3 := Lib.hid (s3 (by omega))
              clear hlast s2 s3
              go_wp2_with fail
              refine (V.out).mono ?_
              rintro e w11 ⟨rfl, a11, t11⟩
              have A11 := Lib.hid a11
              have T11 := Lib.hid (HT.out.trans t11 (by simp))
              clear a11 t11
              go_wp2_with fail
              go_roundw
              case rel => exact ⟨j + 1, r, _, by go_num, by omega, by omega, updC_same _ _ _, fun h => by have := hL.out; omega, fun _ => S3.out, A11.out, T11.out⟩
              case measure => simp [intOf]; omega
            · have e3 : (j + 1 == m) = false := by simpa using hlast
              have h2 := s2 (by omega)
              have e4 : decide (0 < r) = false := by simp; omega
              have H2 := Lib.hid h2
              have hL := Lib.hid hlast
              clear hlast s2 s3 h2
              go_wp2_with fail
              refine (V.out).mono ?_
              rintro e w11 ⟨rfl, a11, t11⟩
              have A11 := Lib.hid a11
              have T11 := Lib.hid (HT.out.trans t11 (by simp))
              clear a11 t11
              go_wp2_with fail
              go_roundw
              case rel => exact ⟨j + 1, r, _, by go_num, by omega, by omega, updC_same _ _ _, fun h => by have := H2.out.2; omega, fun h => absurd h hL.out, A11.out, T11.out⟩
              case measure => simp [intOf]; omega
          · obtain rfl : j = m := by omega
            have hpos := hp rfl
            have b1 : decide (j + 1 ≤ j) = false := by simp; omega
            have hx2 : 0 ≤ x % 2048 ∧ x % 2048 ≤ 2047 := by omega
            have S := Lib.hid (spend_yes ha 7 (1 + x % 2048) (by exact rfl) (c1, q) h7 (by omega))
            have hsp := spend_in (c := c1) (q := q) (d := 1 + x % 2048) q1 ⟨hpos, hok.2.2.2⟩ (by omega)
            have HT := Lib.hid ht
            simp only at S
            generalize clampC q (satSub c1 (size2048 (1 + x % 2048))) = r at *
            clear ha ht h7 hv hp hok
            go_wp2_with fail
            refine (S.out).mono ?_
            rintro e w11 ⟨rfl, a11, t11⟩
            have A11 := Lib.hid a11
            have T11 := Lib.hid (HT.out.trans t11 (by simp))
            clear a11 t11
            go_wp2_with fail
            go_roundw
            case rel => exact ⟨k + 1, by omega, by go_num, r, _, updC_same _ _ _, by omega, A11.out, T11.out⟩
            case measure => simp [intOf]; omega
      · obtain rfl : k = n := by omega
        have HT := Lib.hid ht
        clear ha ht h7
        go_wp2_with fail
        refine (creditLives_any _).mono ?_
        rintro e w12 ⟨rfl, hb⟩
        go_wp2_with fail
        go_ret
        exact ⟨rfl, bnext ((T7.out.trans HT.out (by simpa using T7.out.size)).below (by simp) (Nat.le_refl _)) hb⟩

set_option maxRecDepth 100000 in
theorem creditAgain_calls : LawCalls Try.prog 6 Try.f6 := by
  intro H enc W base args ds p hval hA hlt
  rw [Try.params6] at hA hval
  obtain ⟨v0, vs0, d0, ds0, p0, q0, hargs, rfl, rfl, h0, r0⟩ := trodAll_cons hA
  obtain ⟨v1, vs1, d1, ds1, p1, q1, rfl, rfl, rfl, h1, r1⟩ := trodAll_cons r0
  obtain ⟨rfl, rfl, rfl⟩ := trodAll_nil r1
  obtain rfl : args = #[v0, v1] := by cases args; simp_all
  obtain ⟨u, rfl, rfl, rfl, wu⟩ := open_int Try.underlying59 (hval 0 59 v0 rfl rfl) h0
  obtain ⟨A, len, cap, X, rfl, hl, hm, hX, hF⟩ := num_cells Try.underlying60 Try.underlying59 (by kernel_rfl) (hval 1 60 v1 rfl rfl) h1
  exact creditAgain_walk u A len cap X W (u16_in wu) (by omega) hX hF

set_option maxRecDepth 100000 in
theorem creditAgain_lifted (os : Os) (started : os.Started) (H : Type) (enc : TypeId × Value → H) :
    ReturnsInHanded {} Try.checked os 6 .any (Rows.creditAgainSpec.pre6 enc Try.prog Try.f6 Rows.creditAgainRow.domain false) (Rows.creditAgainSpec.post enc Try.prog Try.f6 false true false false) := by
  refine returnsInHanded_of_change (C := Try.checked) own started (by kernel_rfl) Try.func6
    (ChangeSpec.witness6 (enc := enc) (C := Try.checked) false ⟨#[], #[.int .u16 0, .slice none 0 0], []⟩ 8 (by kernel_rfl) (by kernel_rfl) (by kernel_rfl) (by kernel_rfl)) ?_
  intro W base args ds gs before hval hW _ _
  exact law_contract laidOut (by kernel_rfl) rfl rfl boolType (fun ds h => by match ds, h with | [_, _], _ => rfl) creditAgain_calls W base args ds gs before hval hW

theorem creditAgain_holds : Rows.CreditAgainSaid :=
  OpenClaim.holds_of_wide 6 Try.f6 rfl rfl rfl rfl rfl rfl rfl ⟨rfl, rfl, rfl, rfl, rfl⟩ rfl rfl rfl rfl rfl (by kernel_rfl) Try.func6 (by kernel_rfl)
    (of_decide_eq_true (by kernel_rfl)) (by unfold Func.isWrapper; first | (rw [if_pos (by decide +kernel)]; kernel_rfl) | (rw [if_neg (by decide +kernel)]; exact ⟨rfl, rfl⟩))
    (fun os started H enc _ => creditAgain_lifted os started H enc)
#print axioms creditAgain_holds
end Go.Proofs.Ytncipngnpdhbjaa
