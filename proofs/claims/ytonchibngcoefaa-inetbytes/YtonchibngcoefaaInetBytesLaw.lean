/-
  InetBytes: for every version, every address and all bytes the law on inet's Of and Bytes returns true. No conditions.
-/
import Derived.Test.YtonchibngcoefaaInetH
import Derived.Lib.SmallJoins
namespace Go.Proofs.Ytonchibngcoefaa
open Go.ChangeShapes Go.WideShapes Go.ChangeAt Go.RowKit Go.Deep Go.Joins
set_option linter.unusedVariables false
set_option linter.unusedSimpArgs false

theorem be_num (k : Nat) : ∀ l : List UInt8, l.length = k → be (num l) k = l := by
  induction k with
  | zero =>
    intro l hl
    rw [List.eq_nil_of_length_eq_zero hl]
    rfl
  | succ k ih =>
    intro l hl
    obtain ⟨m, b, rfl⟩ : ∃ m b, l = m ++ [b] := ⟨l.dropLast, l.getLast (by intro h; rw [h] at hl; cases hl), (List.dropLast_concat_getLast _).symm⟩
    have hm : m.length = k := by simp at hl; omega
    have hb : b.toNat < 256 := b.toNat_lt
    rw [num_snoc, be_next, show (num m * 256 + b.toNat) / 256 = num m by omega, ih m hm]
    congr 2
    apply UInt8.toNat_inj.1
    simp
theorem bytes_back (l : List UInt8) (h : okA l = true) : bytesA (verA l) (hiA l) (loA l) = l := by
  have hl : l.length = 4 ∨ l.length = 16 := by unfold okA at h; simpa using h
  rcases hl with h4 | h16
  · have hlt := num_lt l
    rw [h4] at hlt
    have e1 : hiA l = 0 := by unfold hiA; rw [if_neg (by omega)]
    have e2 : loA l = num l := by unfold loA; rw [if_pos h4]
    have e3 : verA l = 4 := by unfold verA; rw [if_pos h4]
    rw [e1, e2, e3]
    have hr : rightA 4 0 (num l) = true := by unfold rightA; simp; omega
    unfold bytesA
    rw [hr, if_pos rfl, if_pos rfl]
    exact be_num 4 l h4
  · have e1 : hiA l = num (l.take 8) := by unfold hiA; rw [if_pos h16]
    have e2 : loA l = num (l.drop 8) := by unfold loA; rw [if_neg (by omega), if_pos h16]
    have e3 : verA l = 6 := by unfold verA; rw [if_neg (by omega), if_pos h16]
    rw [e1, e2, e3]
    have hr : rightA 6 (num (l.take 8)) (num (l.drop 8)) = true := by unfold rightA; simp
    unfold bytesA
    rw [hr, if_pos rfl, if_neg (by decide), be_num 8 _ (by rw [List.length_take]; omega), be_num 8 _ (by rw [List.length_drop]; omega), List.take_append_drop]
theorem bytes_ok (v : Int) (hi lo : Nat) (hhi : hi < 18446744073709551616) (hlo : lo < 18446744073709551616) :
    okA (bytesA v hi lo) = rightA v hi lo ∧ (rightA v hi lo = true → hiA (bytesA v hi lo) = hi ∧ loA (bytesA v hi lo) = lo ∧ verA (bytesA v hi lo) = v) ∧ (bytesA v hi lo).length ≤ 16 := by
  cases hr : rightA v hi lo with
  | false =>
    have e : bytesA v hi lo = [] := by unfold bytesA; rw [hr]; rfl
    rw [e]
    exact ⟨rfl, (fun h => by cases h), by simp⟩
  | true =>
    have hv : v = 4 ∧ hi = 0 ∧ lo ≤ 4294967295 ∨ v = 6 := by
      unfold rightA at hr
      split at hr
      · left; rename_i h; exact ⟨h, by simpa using hr⟩
      · right; simpa using hr
    rcases hv with ⟨rfl, rfl, h32⟩ | rfl
    · have e : bytesA 4 0 lo = be lo 4 := by unfold bytesA; rw [hr, if_pos rfl, if_pos rfl]
      have hl : (be lo 4).length = 4 := be_length lo 4
      rw [e]
      refine ⟨by unfold okA; simp [hl], fun _ => ⟨?_, ?_, ?_⟩, by omega⟩
      · unfold hiA; rw [if_neg (by omega)]
      · unfold loA; rw [if_pos hl]; exact num_be lo 4 (by omega)
      · unfold verA; rw [if_pos hl]
    · have e : bytesA 6 hi lo = be hi 8 ++ be lo 8 := by unfold bytesA; rw [hr, if_pos rfl, if_neg (by decide)]
      have hl : (be hi 8 ++ be lo 8).length = 16 := by simp [be_length]
      rw [e]
      refine ⟨by unfold okA; simp [hl], fun _ => ⟨?_, ?_, ?_⟩, by omega⟩
      · unfold hiA; rw [if_pos hl, List.take_append_of_le_length (by rw [be_length]; omega), List.take_of_length_le (by rw [be_length]; omega)]; exact num_be hi 8 (by omega)
      · unfold loA; rw [if_neg (by omega), if_pos hl, List.drop_append, be_length, List.drop_of_length_le (by rw [be_length]; omega), List.nil_append]; exact num_be lo 8 (by omega)
      · unfold verA; rw [if_neg (by omega), if_pos hl]

set_option maxRecDepth 100000 in
set_option maxHeartbeats 4000000 in
theorem inetBytes_walk (v : Int) (hi lo : Nat) (hhi : hi < 18446744073709551616) (hlo : lo < 18446744073709551616) (l : List UInt8) (hl : l.length ≤ 9223372036854775807) (w : World) :
    Calls Try.prog 4 #[.int .i64 v, av hi lo, .string (S l)] w fun e w' => e = .returned (.bool true) ∧ Below w.heap.size w w' := by
  have LV := Lib.hid (fun w => inetLives w)
  have hss : (S l).size = l.length := S_size l
  have BA := Lib.hid (BoxV.new w 44 #[.int .u64 (hi : Int), .int .u64 (lo : Int)])
  have T0 := Lib.hid ((Touch.refl [] w).alloc (.cells #[.int .u64 (hi : Int), .int .u64 (lo : Int)] 44))
  by_cases h40 : l.length ≤ 40
  · have d40 : decide (40 < (l.length : Int)) = false := by simp; omega
    have O1 := Lib.hid (fun w => of10 l (by omega) w)
    have O2 := Lib.hid (fun w => refOf10 l (by omega) w)
    have B1 := Lib.hid (fun w => bytes10 v hi lo hhi hlo w)
    have B2 := Lib.hid (fun w => refBytes10 v hi lo hhi hlo w)
    have RI := Lib.hid (fun w => right10 v hi lo w)
    obtain ⟨ob, ov, obl⟩ := bytes_ok v hi lo hhi hlo
    have O3 := Lib.hid (fun w => of10 (bytesA v hi lo) (by omega) w)
    have hx : hiA l < 18446744073709551616 ∧ loA l < 18446744073709551616 := by
      constructor
      · unfold hiA
        split
        · have := num_lt (l.take 8)
          rw [List.length_take, Nat.min_eq_left (by omega)] at this
          omega
        · omega
      · unfold loA
        split
        · rename_i h4
          have := num_lt l
          rw [h4] at this
          omega
        · split
          · rename_i h16
            have := num_lt (l.drop 8)
            rw [List.length_drop, h16] at this
            omega
          · omega
    have B3 := Lib.hid (fun w => bytes10 (verA l) (hiA l) (loA l) hx.1 hx.2 w)
    have hb3 : okA l = true → bytesA (verA l) (hiA l) (loA l) = l := bytes_back l
    generalize bytesA (verA l) (hiA l) (loA l) = l3 at *
    generalize hiA l = xh at *
    generalize loA l = xl at *
    generalize verA l = xv at *
    generalize okA l = ok at *
    generalize bytesA v hi lo = B at *
    rw [ob] at O3
    generalize rightA v hi lo = may at *
    obtain ⟨bh, bl, bv, hbb⟩ : ∃ bh bl bv, hiA B = bh ∧ loA B = bl ∧ verA B = bv := ⟨_, _, _, rfl, rfl, rfl⟩
    rw [hbb.1, hbb.2.1, hbb.2.2] at O3 ov
    clear hbb ob obl hx hhi hlo
    unfold av at *
    have hways : may = false ∨ (may = true ∧ hi = bh ∧ lo = bl ∧ v = bv) := by
      cases may
      · exact .inl rfl
      · exact .inr ⟨rfl, (ov rfl).1.symm, (ov rfl).2.1.symm, (ov rfl).2.2.symm⟩
    clear ov
    cases ok
    case' true => obtain rfl := hb3 rfl
    all_goals
      rcases hways with rfl | ⟨rfl, rfl, rfl, rfl⟩
      all_goals
        clear hb3 h40
        go_enter Try.func4, Try.ntmps4
        go_wp2_with fail
        refine (O1.out _).mono ?_
        rintro e w1 ⟨rfl, t1⟩
        have T1 := Lib.hid ((T0.out.trans t1 (by simp)).alloc (.cells #[.int .u64 (xh : Int), .int .u64 (xl : Int)] 44))
        have A1 := Lib.hid ((BA.out.carry t1 (by simp)).carry ((Touch.refl [] _).alloc (.cells #[.int .u64 (xh : Int), .int .u64 (xl : Int)] 44)) (by simp))
        have X1 := Lib.hid (BoxV.new w1 44 #[.int .u64 (xh : Int), .int .u64 (xl : Int)])
        clear t1
        go_wp2_with fail
        refine (O2.out _).mono ?_
        rintro e w2 ⟨rfl, t2⟩
        have T2 := Lib.hid ((T1.out.trans t2 (by simp)).alloc (.cells #[.int .u64 (xh : Int), .int .u64 (xl : Int)] 44))
        have A2 := Lib.hid ((A1.out.carry t2 (by simp)).carry ((Touch.refl [] _).alloc (.cells #[.int .u64 (xh : Int), .int .u64 (xl : Int)] 44)) (by simp))
        have X2 := Lib.hid ((X1.out.carry t2 (by simp)).carry ((Touch.refl [] _).alloc (.cells #[.int .u64 (xh : Int), .int .u64 (xl : Int)] 44)) (by simp))
        have Y2 := Lib.hid (BoxV.new w2 44 #[.int .u64 (xh : Int), .int .u64 (xl : Int)])
        clear t2 T1 A1 X1
        go_upto_region 5 with fail
        generalize w2.alloc (.cells #[.int .u64 (xh : Int), .int .u64 (xl : Int)] 44) = w3 at *
        have a0 : ∀ x : Cls w3, x.val.cell? ⟨w.heap.size, 0, none⟩ = some (.int .u64 (hi : Int)) := fun x => (A2.out.carry x.property (by simp)).cell 0
        have a1 : ∀ x : Cls w3, x.val.cell? ⟨w.heap.size, 1, none⟩ = some (.int .u64 (lo : Int)) := fun x => (A2.out.carry x.property (by simp)).cell 1
        have x0 : ∀ x : Cls w3, x.val.cell? ⟨w1.heap.size, 0, none⟩ = some (.int .u64 (xh : Int)) := fun x => (X2.out.carry x.property (by simp)).cell 0
        have x1 : ∀ x : Cls w3, x.val.cell? ⟨w1.heap.size, 1, none⟩ = some (.int .u64 (xl : Int)) := fun x => (X2.out.carry x.property (by simp)).cell 1
        have y0 : ∀ x : Cls w3, x.val.cell? ⟨w2.heap.size, 0, none⟩ = some (.int .u64 (xh : Int)) := fun x => (Y2.out.carry x.property (by simp)).cell 0
        have y1 : ∀ x : Cls w3, x.val.cell? ⟨w2.heap.size, 1, none⟩ = some (.int .u64 (xl : Int)) := fun x => (Y2.out.carry x.property (by simp)).cell 1
        refine wp_region_cls (wd := w3) (by kernel_rfl) (by kernel_rfl) ((Touch.refl _ _).drew) ?_
        repeat (first | go_big_quiet_step ((first | (go_at_call 18; first | with_reducible exact Calls.cls_at (B1.out _) | with_reducible exact Calls.cls_at (B3.out _)) | (go_at_call 19; first | with_reducible exact Calls.cls_at (B2.out _)))) | quiet_step ((first | (go_at_call 18; first | with_reducible exact Calls.cls_at (B1.out _) | with_reducible exact Calls.cls_at (B3.out _)) | (go_at_call 19; first | with_reducible exact Calls.cls_at (B2.out _)))))
        refine wpQuiet_nil ?_
        rintro _ ⟨q, rfl⟩
        clear a0 a1 x0 x1 y0 y1
        have TQ := Lib.hid (T2.out.trans q.property (by simp))
        have AQ := Lib.hid (A2.out.carry q.property (by simp))
        clear T2 A2 X2 Y2
        generalize q.val = w4 at *
        have a0 := AQ.out.cell 0
        have a1 := AQ.out.cell 1
        have lta := AQ.out.lt
        go_wp2_with fail
        refine (B1.out _).mono ?_
        rintro e w5 ⟨rfl, t5⟩
        have T5 := Lib.hid (TQ.out.trans t5 (by simp))
        have A5 := Lib.hid (AQ.out.carry t5 (by simp))
        clear t5 a0 a1 lta TQ AQ
        go_wp2_with fail
        refine (O3.out _).mono ?_
        rintro e w6 ⟨rfl, t6⟩
        have T6 := Lib.hid ((T5.out.trans t6 (by simp)))
        have a6 := A5.out.carry t6 (by simp)
        have a0 := a6.cell 0
        have a1 := a6.cell 1
        have lta := a6.lt
        have A6 := Lib.hid a6
        clear t6 a6 T5 A5
        go_wp2_with fail
        refine (RI.out _).mono ?_
        rintro e w7 ⟨rfl, t7⟩
        have b7 := (BoxV.new w6 44 _).carry t7 (by simp)
        have a7 := (A6.out.carry ((Touch.refl [] _).alloc _) (by simp)).carry t7 (by simp)
        have T7 := Lib.hid ((T6.out.alloc _).trans t7 (by simp))
        clear a0 a1 lta
        have a0 := a7.cell 0
        have a1 := a7.cell 1
        have lta := a7.lt
        have e0 := b7.cell 0
        have e1 := b7.cell 1
        have lte := b7.lt
        clear t7 b7 a7 T6 A6
        go_wp2_with fail
        refine (LV.out _).mono ?_
        rintro e w8 ⟨rfl, t8⟩
        have T8 := Lib.hid (T7.out.trans t8 (by simp))
        clear t8
        go_wp2_with fail
        go_ret
        exact ⟨rfl, T8.out.below (by simp) (Nat.le_refl _)⟩
  · have d40 : decide (40 < (l.length : Int)) = true := by simp; omega
    unfold av at *
    go_enter Try.func4, Try.ntmps4
    go_wp2_with fail
    refine (LV.out _).mono ?_
    rintro e w1 ⟨rfl, t1⟩
    have T1 := Lib.hid (T0.out.trans t1 (by simp))
    clear t1
    go_wp2_with fail
    go_ret
    exact ⟨rfl, T1.out.below (by simp) (Nat.le_refl _)⟩

set_option maxRecDepth 100000 in
theorem inetBytes_calls : LawCalls Try.prog 4 Try.f4 := by
  intro H enc W base args ds p hval hA hlt
  rw [Try.params4] at hA hval
  obtain ⟨v0, vs0, d0, ds0, p0, q0, hargs, rfl, rfl, h0, r0⟩ := trodAll_cons hA
  obtain ⟨v1, vs1, d1, ds1, p1, q1, rfl, rfl, rfl, h1, r1⟩ := trodAll_cons r0
  obtain ⟨v2, vs2, d2, ds2, p2, q2, rfl, rfl, rfl, h2, r2⟩ := trodAll_cons r1
  obtain ⟨rfl, rfl, rfl⟩ := trodAll_nil r2
  obtain rfl : args = #[v0, v1, v2] := by cases args; simp_all
  obtain ⟨v, rfl, rfl, rfl, wv⟩ := open_int Try.underlying3 (hval 0 3 v0 rfl rfl) h0
  obtain ⟨u0, u1, y0, y1, k, rfl, _, _, g0, g1⟩ := open_agg2 Try.underlying44 (by kernel_rfl) (by kernel_rfl) (hval 1 44 v1 rfl rfl) h1
  obtain ⟨x, rfl, wx⟩ := cell_int Try.underlying30 g0
  obtain ⟨y, rfl, wy⟩ := cell_int Try.underlying30 g1
  obtain ⟨s, rfl, rfl, rfl, hs⟩ := Go.ChangeMaps.open_string Try.underlying9 (hval 2 9 v2 rfl rfl) h2
  have bx := u64_in wx
  have by' := u64_in wy
  obtain ⟨hi, rfl⟩ := Int.eq_ofNat_of_zero_le bx.1
  obtain ⟨lo, rfl⟩ := Int.eq_ofNat_of_zero_le by'.1
  have es : s = S s.data.toList := by unfold S; simp
  have hz : s.data.toList.length = s.size := by simp
  rw [es]
  exact inetBytes_walk v hi lo (by omega) (by omega) s.data.toList (by unfold maxLen at hs; omega) W

set_option maxRecDepth 100000 in
theorem inetBytes_lifted (os : Os) (started : os.Started) (H : Type) (enc : TypeId × Value → H) :
    ReturnsInHanded {} Try.checked os 4 .any (Rows.inetBytesSpec.pre6 enc Try.prog Try.f4 Rows.inetBytesRow.domain false) (Rows.inetBytesSpec.post enc Try.prog Try.f4 false true false false) := by
  refine returnsInHanded_of_change (C := Try.checked) own started (by kernel_rfl) Try.func4
    (ChangeSpec.witness6 (enc := enc) (C := Try.checked) false ⟨#[], #[.int .i64 0, .agg #[.int .u64 0, .int .u64 0], .string ⟨#[]⟩], []⟩ 8 (by kernel_rfl) (by kernel_rfl) (by kernel_rfl) (by kernel_rfl)) ?_
  intro W base args ds gs before hval hW _ _
  exact law_contract laidOut (by kernel_rfl) rfl rfl boolType (fun ds h => by match ds, h with | [_, _, _], _ => rfl) inetBytes_calls W base args ds gs before hval hW

theorem inetBytes_holds : Rows.InetBytesSaid :=
  OpenClaim.holds_of_wide 4 Try.f4 rfl rfl rfl rfl rfl rfl rfl ⟨rfl, rfl, rfl, rfl, rfl⟩ rfl rfl rfl rfl rfl (by kernel_rfl) Try.func4 (by kernel_rfl)
    (of_decide_eq_true (by kernel_rfl)) (by unfold Func.isWrapper; first | (rw [if_pos (by decide +kernel)]; kernel_rfl) | (rw [if_neg (by decide +kernel)]; exact ⟨rfl, rfl⟩))
    (fun os started H enc _ => inetBytes_lifted os started H enc)
#print axioms inetBytes_holds
end Go.Proofs.Ytonchibngcoefaa
