/-
  OctetsBack: for all numbers and bytes the law on what octets writes and reads returns true. No conditions.
-/
import Derived.Test.YtfeeaokeomcafaaOctBack
import Derived.Test.YtfeeaokeomcafaaCls
import Derived.Deep.RegionWith
import Derived.Deep.Cut
import Derived.ChangeMaps5
namespace Go.Proofs.Ytfeeaokeomcafaa
open Go.ChangeShapes Go.WideShapes Go.ChangeAt Go.RowKit Go.Deep
set_option linter.unusedVariables false

theorem strS (s : ByteArray) : ∃ l, s = S l := ⟨s.data.toList, by unfold S; simp⟩
theorem entB1 (args : Array Value) (w : World) : (callFunc 32 args).run Try.prog w = .ok (.enter 32 args) w := by
  simp [callFunc, Try.func32]
  rfl
theorem entB2 (args : Array Value) (w : World) : (callFunc 38 args).run Try.prog w = .ok (.enter 38 args) w := by
  simp [callFunc, Try.func38]
  rfl
def backW (w : World) : World := (((w.alloc (.cells #[.int .i64 0] 3)).alloc (.cells #[.int .u64 0] 30)).alloc (.cells #[.float .f64 0] 31)).alloc (.cells #[.bool false] 4)
set_option maxRecDepth 100000 in
theorem backTry (w : World) (x : Nat) (hx : x < 18446744073709551616) (n : Int) (hn : -9223372036854775808 ≤ n ∧ n ≤ 9223372036854775807) :
    Calls Try.prog 15 #[.string (S (backB x n)), .func (.func 32) #[] #[.pointer (some ⟨w.heap.size + 1, 0, none⟩), .pointer (some ⟨w.heap.size, 0, none⟩), .pointer (some ⟨w.heap.size + 1 + 1, 0, none⟩), .pointer (some ⟨w.heap.size + 1 + 1 + 1, 0, none⟩)]] (backW w) fun e w' =>
      e = .returned (.int .i64 0) ∧ Box1 w' w.heap.size 3 (.int .i64 n) ∧ Box1 w' (w.heap.size + 1) 30 (.int .u64 (x : Int)) ∧ Box1 w' (w.heap.size + 1 + 1) 31 (.float .f64 (fltN x)) ∧ Box1 w' (w.heap.size + 1 + 1 + 1) 4 (.bool (decide (0 < n))) ∧ Touch [] w w' := by
  have hsz : (backW w).heap.size = w.heap.size + 4 := by simp [backW]
  have TW : Touch [] w (backW w) := ((((Touch.refl [] w).alloc _).alloc _).alloc _).alloc _
  have B2 : Box1 (backW w) w.heap.size 3 (.int .i64 0) := (((Box1.new w _ _).carry ((Touch.refl [] _).alloc _) (by simp)).carry ((Touch.refl [] _).alloc _) (by simp)).carry ((Touch.refl [] _).alloc _) (by simp)
  have B1 : Box1 (backW w) (w.heap.size + 1) 30 (.int .u64 0) := by
    have := (((Box1.new (w.alloc (.cells #[.int .i64 0] 3)) 30 (.int .u64 0))).carry ((Touch.refl [] _).alloc (.cells #[.float .f64 0] 31)) (by simp)).carry ((Touch.refl [] _).alloc (.cells #[.bool false] 4)) (by simp)
    rwa [show (w.alloc (.cells #[.int .i64 0] 3)).heap.size = w.heap.size + 1 by simp] at this
  have B3 : Box1 (backW w) (w.heap.size + 1 + 1) 31 (.float .f64 0) := by
    have := ((Box1.new ((w.alloc (.cells #[.int .i64 0] 3)).alloc (.cells #[.int .u64 0] 30)) 31 (.float .f64 0))).carry ((Touch.refl [] _).alloc (.cells #[.bool false] 4)) (by simp)
    rwa [show ((w.alloc (.cells #[.int .i64 0] 3)).alloc (.cells #[.int .u64 0] 30)).heap.size = w.heap.size + 1 + 1 by simp] at this
  have B4 : Box1 (backW w) (w.heap.size + 1 + 1 + 1) 4 (.bool false) := by
    have := (Box1.new (((w.alloc (.cells #[.int .i64 0] 3)).alloc (.cells #[.int .u64 0] 30)).alloc (.cells #[.float .f64 0] 31)) 4 (.bool false))
    rwa [show (((w.alloc (.cells #[.int .i64 0] 3)).alloc (.cells #[.int .u64 0] 30)).alloc (.cells #[.float .f64 0] 31)).heap.size = w.heap.size + 1 + 1 + 1 by simp] at this
  have tt : Touch [] (backW w) (tryW (backW w) (S (backB x n))) := (((Touch.refl [] _).alloc _).alloc _).alloc _
  have hat := tryAt (backW w) (backB x n)
  rw [hsz] at hat
  have sg : Four (tryW (backW w) (S (backB x n))) (w.heap.size + 4 + 1) (w.heap.size + 1) w.heap.size (w.heap.size + 1 + 1) (w.heap.size + 1 + 1 + 1) (backB x n) (.int .u64 0) (.int .i64 0) (.float .f64 0) (.bool false) :=
    ⟨hat, B1.carry tt (by simp), B2.carry tt (by simp), B3.carry tt (by simp), B4.carry tt (by simp), by omega⟩
  have key := try_any (s := S (backB x n)) (k := 32) (cap := #[.pointer (some ⟨w.heap.size + 1, 0, none⟩), .pointer (some ⟨w.heap.size, 0, none⟩), .pointer (some ⟨w.heap.size + 1 + 1, 0, none⟩), .pointer (some ⟨w.heap.size + 1 + 1 + 1, 0, none⟩)]) (w := backW w) (S := [w.heap.size + 4 + 1, w.heap.size + 1, w.heap.size, w.heap.size + 1 + 1, w.heap.size + 1 + 1 + 1])
    (Q := fun er w' => er = 0 ∧ Four w' (w.heap.size + 4 + 1) (w.heap.size + 1) w.heap.size (w.heap.size + 1 + 1) (w.heap.size + 1 + 1 + 1) [] (.int .u64 (x : Int)) (.int .i64 n) (.float .f64 (fltN x)) (.bool (decide (0 < n))))
    (by rw [hsz]; intro b hb; simp at hb; omega) entB1 (by
      rw [hsz]
      refine (back1 x hx n hn sg).mono ?_
      rintro e w' ⟨rfl, q1, q2⟩
      exact ⟨q2, Or.inl ⟨rfl, rfl, q1⟩⟩)
  rw [hsz] at key
  refine key.mono ?_
  rintro e w2 ⟨er, w1, rfl, ⟨rfl, q⟩, t1, t2⟩
  refine ⟨rfl, q.m.carry t2 (by simp), q.y.carry t2 (by simp), q.g.carry t2 (by simp), q.i.carry t2 (by simp), ?_⟩
  exact (TW.trans t1 (by intro b hb; simp at hb; omega)).trans t2 (by intro b hb; simp at hb; omega)
theorem backTry2 (w : World) (l : List UInt8) (hl : l.length ≤ 1000000000) (b : Nat) (v : Value) (hb : Box1 w b 3 v) :
    Calls Try.prog 15 #[.string (S l), .func (.func 38) #[] #[.pointer (some ⟨b, 0, none⟩)]] w fun e w' =>
      e = .returned (.int .i64 (dE l)) ∧ (dE l = 0 → Box1 w' b 3 (.int .i64 (varV l))) ∧ Touch [b] w w' := by
  have hlt := hb.lt
  have tt : Touch [] w (tryW w (S l)) := (((Touch.refl [] _).alloc _).alloc _).alloc _
  have key := try_any (s := S l) (k := 38) (cap := #[.pointer (some ⟨b, 0, none⟩)]) (w := w) (S := [w.heap.size + 1, b]) (Q := fun er w' => er = dE l ∧ (dE l = 0 → Box1 w' b 3 (.int .i64 (varV l))))
    (by intro c hc; simp at hc; omega) entB2 (by
      refine (back2 hl (tryAt w l) (hb.carry tt (by simp)) (by omega)).mono ?_
      rintro e w' ⟨q1, q2⟩
      refine ⟨q1, ?_⟩
      rcases q2 with ⟨h1, h2, h3⟩ | ⟨er, h1, h2, h3⟩
      · exact Or.inl ⟨h1, h2.symm, fun _ => h3⟩
      · exact Or.inr ⟨er, h1, h2, fun h0 => absurd h0 h3⟩)
  refine key.mono ?_
  rintro e w2 ⟨er, w1, rfl, ⟨rfl, q⟩, t1, t2⟩
  exact ⟨rfl, fun h0 => (q h0).carry t2 (by simp; omega), (t1.mono (by intro c hc; simp at hc ⊢; omega)).trans t2 (by intro c hc; simp at hc ⊢; omega)⟩
theorem same_flt (x : Nat) : sameOf x (fltN x) = true := by
  unfold sameOf fltN isNb
  by_cases h : 9218868437227405312 < rung x
  · rw [if_pos h, decide_eq_true h]
    have : 9218868437227405312 < rung 9221120237041090560 := by unfold rung; omega
    simp [this]
  · rw [if_neg h]
    simp

set_option maxHeartbeats 4000000 in
set_option maxRecDepth 100000 in
theorem octetsBack_walk (n : Int) (hn : -9223372036854775808 ≤ n ∧ n ≤ 9223372036854775807) (x : Nat) (hx : x < 18446744073709551616) (l : List UInt8) (w : World) :
    Calls Try.prog 5 #[.int .i64 n, .int .u64 (x : Int), .string (S l)] w fun e w' => e = .returned (.bool true) ∧ Below w.heap.size w w' := by
  have hz := S_size l
  have hmf : ∀ (fn : Fn) (first cap : Array Value) (w : World), (Instr.makeFunc fn first cap).run Try.prog w = .ok (.func fn first cap) w := fun _ _ _ _ => rfl
  have LV := Lib.hid (fun w => lives09 w)
  have hof := fun w => float_of_bits (x : Int) w
  rw [show ((x : Int)).toNat = x by omega] at hof
  have P1 := Lib.hid (fun w => putU64_any (Bts.nil w) x hx (by simp))
  have lv := varB_ten n hn
  have P2 := Lib.hid (fun w v (hb : Bts w v (be x 8)) => putVar_any hb n hn (by rw [be_length]; omega))
  have P3 := Lib.hid (fun w v (hb : Bts w v (be x 8 ++ varB (zz n))) => putFloat_any hb x hx (by rw [List.length_append, be_length]; omega))
  have P4 := Lib.hid (fun w v (hb : Bts w v (be x 8 ++ varB (zz n) ++ be (fltN x) 8)) => putBool_any hb (decide (0 < n)) (by rw [List.length_append, List.length_append, be_length, be_length]; omega))
  have TR := Lib.hid (fun w => backTry w x hx n hn)
  have SM := Lib.hid (fun w => refSame_any x (fltN x) hx (fltN_lt x hx) w)
  rw [same_flt] at SM
  rw [show be x 8 ++ varB (zz n) ++ be (fltN x) 8 ++ bitB (decide (0 < n)) = backB x n from rfl] at P4
  rw [List.nil_append] at P1
  clear lv hx
  generalize backB x n = BB at *
  generalize be x 8 ++ varB (zz n) ++ be (fltN x) 8 = z3 at *
  generalize be x 8 ++ varB (zz n) = z2 at *
  generalize be x 8 = z1 at *
  generalize fltN x = fx at *
  go_enter Try.func5, Try.ntmps5
  go_wp2_with fail
  refine (P1.out _).mono ?_
  intro e w1 hf
  obtain ⟨A1, n1, c1, rfl, b1, t1⟩ := fresh_bts hf
  have T1 := Lib.hid t1
  have R2 := Lib.hid (P2.out _ _ b1)
  clear hf b1 t1 P1 P2
  go_wp2_with fail
  refine (R2.out).mono ?_
  intro e w2 hf
  obtain ⟨A2, n2, c2, rfl, b2, t2⟩ := fresh_bts hf
  have T2 := Lib.hid (T1.out.trans t2 (by simp))
  have R3 := Lib.hid (P3.out _ _ b2)
  clear hf b2 t2 P3 R2 T1
  go_wp2_with fail
  refine (R3.out).mono ?_
  intro e w3 hf
  obtain ⟨A3, n3, c3, rfl, b3, t3⟩ := fresh_bts hf
  have T3 := Lib.hid (T2.out.trans t3 (by simp))
  have R4 := Lib.hid (P4.out _ _ b3)
  clear hf b3 t3 P4 R3 T2
  go_wp2_with fail
  refine (R4.out).mono ?_
  intro e w4 hf
  obtain ⟨A4, n4, c4, rfl, b4, t4⟩ := fresh_bts hf
  have T4 := Lib.hid (T3.out.trans t4 (by simp))
  have hcv := str_of (b4.carry (((((Touch.refl [] w4).alloc (.cells #[.int .i64 0] 3)).alloc (.cells #[.int .u64 0] 30)).alloc (.cells #[.float .f64 0] 31)).alloc (.cells #[.bool false] 4)) (by simp))
  have TR4 := Lib.hid (TR.out w4)
  unfold backW at TR4
  clear hf b4 t4 R4 T3 TR
  go_wp2_with fail
  refine (TR4.out).mono ?_
  rintro e w5 ⟨rfl, x2, x1, x3, x4, t5⟩
  have m0 := x2.c0
  have y0 := x1.c0
  have g0 := x3.c0
  have i0 := x4.c0
  have lt4 := x4.lt
  have T5 := Lib.hid (T4.out.trans t5 (by simp))
  clear x2 x1 x3 x4 t5 TR4 T4 hcv
  by_cases h60 : (60 : Int) < (l.length : Int)
  · go_wp2_with fail
    refine (SM.out _).mono ?_
    rintro e w5 ⟨rfl, rfl⟩
    go_wp2_with fail
    refine (LV.out _).mono ?_
    rintro e w6 ⟨rfl, t6⟩
    go_wp2_with fail
    go_ret
    exact ⟨rfl, (T5.out.trans t6 (by simp)).below (by simp) (Nat.le_refl _)⟩
  · have bx := Box1.new w5 3 (.int .i64 0)
    have TR2 := Lib.hid (backTry2 _ l (by omega) w5.heap.size _ bx)
    have T6 := Lib.hid (T5.out.alloc (.cells #[.int .i64 0] 3))
    have hge := T5.out.size
    clear bx
    go_wp2_with fail
    refine (SM.out _).mono ?_
    rintro e w5 ⟨rfl, rfl⟩
    go_wp2_with fail
    refine (TR2.out).mono ?_
    rintro e w7 ⟨rfl, q7, t7⟩
    have T7 := Lib.hid (T6.out.trans t7 (by intro c hc; simp at hc; subst hc; exact Or.inr hge))
    clear t7 T6 TR2
    by_cases hd : dE l = 0
    · have x7 := q7 hd
      have k7 := x7.c0
      have lt7 := x7.lt
      have hv : varE l = 0 := by
        unfold dE at hd
        by_cases h : varE l = 0
        · exact h
        · rw [if_pos h] at hd; exact absurd hd h
      have hR : l.drop (lead l + 1) = [] := by
        unfold dE at hd
        rw [if_neg (fun h => h hv)] at hd
        by_cases h : l.drop (lead l + 1) = []
        · exact h
        · rw [if_neg h] at hd; omega
      have hb := var_back l hv hR
      have P5 := Lib.hid (fun w => putVar_any (Bts.nil w) (varV l) (varV_fit l hv) (by simp))
      rw [List.nil_append, hb] at P5
      have es : ((S l).toList == (S l).toList) = true := by simp
      rw [hd]
      clear x7 q7 hv hR hb hd
      go_wp2_with fail
      refine (P5.out _).mono ?_
      intro e w8 hf
      obtain ⟨A8, n8, c8, rfl, b8, t8⟩ := fresh_bts hf
      have hc8 := str_of b8
      have T8 := Lib.hid (T7.out.trans t8 (by simp))
      clear hf b8 t8 T7 P5
      go_wp2_with fail
      refine (LV.out _).mono ?_
      rintro e w9 ⟨rfl, t9⟩
      go_wp2_with fail
      go_ret
      exact ⟨rfl, (T8.out.trans t9 (by simp)).below (by simp) (Nat.le_refl _)⟩
    · have nd : (dE l != 0) = true := by simpa using hd
      clear q7
      go_wp2_with fail
      refine (LV.out _).mono ?_
      rintro e w9 ⟨rfl, t9⟩
      go_wp2_with fail
      go_ret
      exact ⟨rfl, (T7.out.trans t9 (by simp)).below (by simp) (Nat.le_refl _)⟩

set_option maxRecDepth 100000 in
theorem octetsBack_calls : LawCalls Try.prog 5 Try.f5 := by
  intro H enc W base args ds p hval hA hlt
  rw [Try.params5] at hA hval
  obtain ⟨v0, vs0, d0, ds0, p0, q0, hargs, rfl, rfl, h0, r0⟩ := trodAll_cons hA
  obtain ⟨v1, vs1, d1, ds1, p1, q1, rfl, rfl, rfl, h1, r1⟩ := trodAll_cons r0
  obtain ⟨v2, vs2, d2, ds2, p2, q2, rfl, rfl, rfl, h2, r2⟩ := trodAll_cons r1
  obtain ⟨rfl, rfl, rfl⟩ := trodAll_nil r2
  obtain rfl : args = #[v0, v1, v2] := by cases args; simp_all
  obtain ⟨n, rfl, rfl, rfl, wn⟩ := open_int Try.underlying3 (hval 0 3 v0 rfl rfl) h0
  obtain ⟨x, rfl, rfl, rfl, wx⟩ := open_int Try.underlying30 (hval 1 30 v1 rfl rfl) h1
  obtain ⟨s, rfl, rfl, rfl, hs⟩ := Go.ChangeMaps.open_string Try.underlying9 (hval 2 9 v2 rfl rfl) h2
  obtain ⟨l, rfl⟩ := strS s
  have hx := u64_in wx
  obtain ⟨m, rfl⟩ : ∃ m : Nat, x = m := ⟨x.toNat, by omega⟩
  exact octetsBack_walk n (i64_in wn) m (by omega) l W
set_option maxRecDepth 100000 in
theorem octetsBack_lifted (os : Os) (started : os.Started) (H : Type) (enc : TypeId × Value → H) :
    ReturnsInHanded {} Try.checked os 5 .any (Rows.octetsBackSpec.pre6 enc Try.prog Try.f5 Rows.octetsBackRow.domain false) (Rows.octetsBackSpec.post enc Try.prog Try.f5 false true false false) := by
  refine returnsInHanded_of_change (C := Try.checked) own started (by kernel_rfl) Try.func5
    (ChangeSpec.witness6 (enc := enc) (C := Try.checked) false ⟨#[], #[.int .i64 0, .int .u64 0, .string ⟨#[]⟩], []⟩ 8 (by kernel_rfl) (by kernel_rfl) (by kernel_rfl) (by kernel_rfl)) ?_
  intro W base args ds gs before hval hW _ _
  exact law_contract laidOut (by kernel_rfl) rfl rfl boolType (fun ds h => by match ds, h with | [_, _, _], _ => rfl) octetsBack_calls W base args ds gs before hval hW

theorem octetsBack_holds : Rows.OctetsBackSaid :=
  OpenClaim.holds_of_wide 5 Try.f5 rfl rfl rfl rfl rfl rfl rfl ⟨rfl, rfl, rfl, rfl, rfl⟩ rfl rfl rfl rfl rfl (by kernel_rfl) Try.func5 (by kernel_rfl)
    (of_decide_eq_true (by kernel_rfl)) (by unfold Func.isWrapper; first | (rw [if_pos (by decide +kernel)]; kernel_rfl) | (rw [if_neg (by decide +kernel)]; exact ⟨rfl, rfl⟩))
    (fun os started H enc _ => octetsBack_lifted os started H enc)
#print axioms octetsBack_holds
end Go.Proofs.Ytfeeaokeomcafaa
