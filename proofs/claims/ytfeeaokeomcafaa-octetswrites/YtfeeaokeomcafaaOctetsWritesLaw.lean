/-
  OctetsWrites: for all bytes and numbers the law on octets' Put functions returns true. No conditions.
-/
import Derived.Test.YtfeeaokeomcafaaOctWrite
import Derived.Test.YtfeeaokeomcafaaPhi2
import Derived.BigRegion
import Derived.BigCall
namespace Go.Proofs.Ytfeeaokeomcafaa
open Go.ChangeShapes Go.WideShapes Go.ChangeAt Go.RowKit Go.Deep
set_option linter.unusedVariables false
set_option linter.unusedSimpArgs false

theorem ent14 (args : Array Value) (w : World) : (callFunc 14 args).run Try.prog w = .ok (.enter 14 args) w := by
  simp [callFunc, Try.func14]
  rfl
theorem ent22 (args : Array Value) (w : World) : (callFunc 22 args).run Try.prog w = .ok (.enter 22 args) w := by
  simp [callFunc, Try.func22]
  rfl
theorem ent23 (args : Array Value) (w : World) : (callFunc 23 args).run Try.prog w = .ok (.enter 23 args) w := by
  simp [callFunc, Try.func23]
  rfl
theorem ent24 (args : Array Value) (w : World) : (callFunc 24 args).run Try.prog w = .ok (.enter 24 args) w := by
  simp [callFunc, Try.func24]
  rfl
theorem ent25 (args : Array Value) (w : World) : (callFunc 25 args).run Try.prog w = .ok (.enter 25 args) w := by
  simp [callFunc, Try.func25]
  rfl
theorem ent26 (args : Array Value) (w : World) : (callFunc 26 args).run Try.prog w = .ok (.enter 26 args) w := by
  simp [callFunc, Try.func26]
  rfl
theorem ent27 (args : Array Value) (w : World) : (callFunc 27 args).run Try.prog w = .ok (.enter 27 args) w := by
  simp [callFunc, Try.func27]
  rfl
theorem ent28 (args : Array Value) (w : World) : (callFunc 28 args).run Try.prog w = .ok (.enter 28 args) w := by
  simp [callFunc, Try.func28]
  rfl
theorem ent29 (args : Array Value) (w : World) : (callFunc 29 args).run Try.prog w = .ok (.enter 29 args) w := by
  simp [callFunc, Try.func29]
  rfl
theorem ent30 (args : Array Value) (w : World) : (callFunc 30 args).run Try.prog w = .ok (.enter 30 args) w := by
  simp [callFunc, Try.func30]
  rfl
theorem ent31 (args : Array Value) (w : World) : (callFunc 31 args).run Try.prog w = .ok (.enter 31 args) w := by
  simp [callFunc, Try.func31]
  rfl
section
variable {P : Program} {ρ : Operand → Value} {a : Act} {o : Oper} {w : World}
theorem run_go (f : FuncId) (xs : Array Operand) (ats : Array TypeId) (h : o.op = .call { callee := .value (.func f), args := xs, argTypes := ats }) : (execOp a.eval o).run P w = (callFunc f (#[] ++ xs.map a.eval ++ #[])).run P w := by
  obtain ⟨dst, op, ty, pos, after, guard⟩ := o
  simp only at h
  subst h
  rfl
theorem run_bin (op : BinOp) (t : TypeId) (x y : Operand) (t' : TypeId) (h : o.op = .binOp op t x y t') : (execOp ρ o).run P w = ((eqGuard op t x y (ρ x) (ρ y)).run P w).andThen fun _ w' => ((binOp op t (ρ x) (ρ y)).run P w').andThen fun r w'' => .ok (.value r) w'' := by
  obtain ⟨dst, op, ty, pos, after, guard⟩ := o
  simp only at h
  subst h
  simp [execOp]
theorem run_pick {c x y : Operand} (h : o.op = .pick c x y) (hc : ρ c = .bool true) : (execOp ρ o).run P w = .ok (.value (ρ x)) w := by
  obtain ⟨dst, op, ty, pos, after, guard⟩ := o
  simp only at h
  subst h
  simp [execOp, hc, asBool]
theorem run_conv {s d : TypeId} {x : Operand} {v : Value} (h : o.op = .convert s d x) (hc : (convert s d (ρ x)).run P w = .ok v w) : (execOp ρ o).run P w = .ok (.value v) w := by
  obtain ⟨dst, op, ty, pos, after, guard⟩ := o
  simp only at h
  subst h
  simp [execOp, hc]
end
theorem evalc (a : Act) (v : Value) : a.eval (.const v) = v := rfl
/-- What each operation leaves: a constant, or a slice that holds those bytes. -/
def leaves (L : List (Value × Option (List UInt8))) (j : Nat) (v : Value) (w : World) : Prop :=
  match L[j]? with
  | some (_, some z) => Bts w v z
  | some (c, none) => v = c
  | none => True
theorem leaves_stab (L : List (Value × Option (List UInt8))) (j : Nat) : Stab (leaves L j) := by
  intro v w w' h t
  unfold leaves at *
  cases hx : L[j]? with
  | none => trivial
  | some q =>
    obtain ⟨c, z⟩ := q
    rw [hx] at h
    cases z with
    | none => exact h
    | some z => exact Bts.carry h t (by simp)
theorem has_dep {ops : Array Oper} {Φ : Nat → Value → World → Prop} {a : Act} {w : World} {o : Oper} (hd : ∀ e ∈ o.after, Region.binds .any e = true → Has ops Φ a w e.on) (j : Nat) (hb : (o.after.any fun e => (e.on == j) && Region.binds .any e) = true) : Has ops Φ a w j := by
  rw [Array.any_eq_true'] at hb
  obtain ⟨e, he, h⟩ := hb
  simp only [Bool.and_eq_true, beq_iff_eq] at h
  have := hd e he h.2
  rwa [h.1] at this
set_option maxHeartbeats 4000000 in
set_option maxRecDepth 100000 in
theorem octetsWrites_walk (v : Value) (b : List UInt8) (n : Int) (hn : -9223372036854775808 ≤ n ∧ n ≤ 9223372036854775807) (x : Nat) (hx : x < 18446744073709551616) (w : World) (hb : Bts w v b) :
    Calls Try.prog 4 #[v, .int .i64 n, .int .u64 (x : Int)] w fun e w' => e = .returned (.bool true) ∧ Below w.heap.size w w' := by
  have HB := Lib.hid hb
  have LV := Lib.hid (fun w => lives09 w)
  by_cases h : 100 < b.length
  · have g : (100 : Int) < (b.length : Int) := by omega
    obtain ⟨A0, c0, rfl, _, _, _, _⟩ := hb
    go_enter Try.func4, Try.ntmps4
    go_wp2_with fail
    refine (LV.out _).mono ?_
    rintro e w1 ⟨rfl, t1⟩
    go_wp2_with fail
    go_ret
    exact ⟨rfl, t1.below (by simp) (Nat.le_refl _)⟩
  · have g : ¬ ((100 : Int) < (b.length : Int)) := by omega
    have hof := fun w => float_of_bits (x : Int) w
    rw [show ((x : Int)).toNat = x by omega] at hof
    have lb : b.length ≤ 10000000 := by omega
    have l2 := be_length (u64n n) 2
    have l4 := be_length (u64n n) 4
    have l8 := be_length x 8
    have lf := be_length (fltN x) 8
    have lv := varB_ten n hn
    have lo : (bitB (decide (0 < n))).length = 1 := by unfold bitB; split <;> rfl
    have P1 := Lib.hid (fun w (t : Touch [] w w) (hb : Bts w v b) => putU16_any hb n lb)
    have C0 := Lib.hid (fun w (hb : Bts w v b) => str_of hb)
    have Q1 := Lib.hid (fun w (hb : Bts w v b) => putU16_any hb n lb)
    have Q2 := Lib.hid (fun w (hb : Bts w v b) => putU32_any hb n lb)
    have Q3 := Lib.hid (fun w (hb : Bts w v b) => putU64_any hb x hx lb)
    have Q4 := Lib.hid (fun w (hb : Bts w v b) => putVar_any hb n hn lb)
    have Q5 := Lib.hid (fun w (hb : Bts w v b) => putFloat_any hb x hx lb)
    have Q6 := Lib.hid (fun w (hb : Bts w v b) => putBool_any hb (decide (0 < n)) lb)
    have R1 := Lib.hid (fun w => refPutNum 2 (by omega) (u64n n) (u64n_lt n) w)
    have R2 := Lib.hid (fun w => refPutNum 4 (by omega) (u64n n) (u64n_lt n) w)
    have R3 := Lib.hid (fun w => refPutNum 8 (by omega) x hx w)
    have R4 := Lib.hid (fun w => refPutVar n hn w)
    have R5 := Lib.hid (fun w => refPutFloat x hx w)
    have R6 := Lib.hid (fun w => refPutBool (decide (0 < n)) w)
    rw [show ((2 : Nat) : Int) = 2 from rfl, ← u64n_cast, ← IntKind.wrap_u64] at R1
    rw [show ((4 : Nat) : Int) = 4 from rfl, ← u64n_cast, ← IntKind.wrap_u64] at R2
    rw [show ((8 : Nat) : Int) = 8 from rfl] at R3
    have a1 : ∀ w, (Op.stringOp .add (S b) (S (be (u64n n) 2))).run Try.prog w = .ok (.string (S (b ++ be (u64n n) 2))) w := fun w => add_str _ _ (by omega) w
    have a2 : ∀ w, (Op.stringOp .add (S b) (S (be (u64n n) 4))).run Try.prog w = .ok (.string (S (b ++ be (u64n n) 4))) w := fun w => add_str _ _ (by omega) w
    have a3 : ∀ w, (Op.stringOp .add (S b) (S (be x 8))).run Try.prog w = .ok (.string (S (b ++ be x 8))) w := fun w => add_str _ _ (by omega) w
    have a4 : ∀ w, (Op.stringOp .add (S b) (S (varB (zz n)))).run Try.prog w = .ok (.string (S (b ++ varB (zz n)))) w := fun w => add_str _ _ (by omega) w
    have a5 : ∀ w, (Op.stringOp .add (S b) (S (be (fltN x) 8))).run Try.prog w = .ok (.string (S (b ++ be (fltN x) 8))) w := fun w => add_str _ _ (by omega) w
    have a6 : ∀ w, (Op.stringOp .add (S b) (S (bitB (decide (0 < n))))).run Try.prog w = .ok (.string (S (b ++ bitB (decide (0 < n))))) w := fun w => add_str _ _ (by omega) w
    have e0 : ∀ l : List UInt8, ((S l).toList == (S l).toList) = true := fun l => by simp
    have hc0 := str_of hb
    clear hb l2 l4 l8 lf lv lo lb P1
    generalize b ++ be (u64n n) 2 = z1 at *
    generalize b ++ be (u64n n) 4 = z2 at *
    generalize b ++ be x 8 = z3 at *
    generalize b ++ varB (zz n) = z4 at *
    generalize b ++ be (fltN x) 8 = z5 at *
    generalize b ++ bitB (decide (0 < n)) = z6 at *
    generalize be (u64n n) 2 = y1 at *
    generalize be (u64n n) 4 = y2 at *
    generalize be x 8 = y3 at *
    generalize varB (zz n) = y4 at *
    generalize be (fltN x) 8 = y5 at *
    generalize bitB (decide (0 < n)) = y6 at *
    obtain ⟨A0, c0, rfl, _, _, _, _⟩ := HB.out
    have T0 := Lib.hid (Touch.refl [] w)
    go_enter Try.func4, Try.ntmps4
    go_wp2_with fail
    have hcu : ∀ w, (convert 3 30 (.int .i64 n)).run Try.prog w = .ok (.int .u64 (IntKind.u64.wrap n)) w := fun w => by simp [go_sem]
    refine wp_region_phi (wd := w) (Φ := leaves [(.slice A0 b.length c0, none), (.int .i64 n, none), (undef, some z1), (.string (S z1), none), (.string (S b), none), (.int .i64 n, none), (.int .u64 (IntKind.u64.wrap n), none), (.string (S y1), none), (.string (S z1), none), (.bool true, none), (.bool true, none), (.slice A0 b.length c0, none), (.int .i64 n, none), (undef, some z2), (.string (S z2), none), (.string (S b), none), (.int .i64 n, none), (.int .u64 (IntKind.u64.wrap n), none), (.string (S y2), none), (.string (S z2), none), (.bool true, none), (.bool true, none), (.bool true, none), (.slice A0 b.length c0, none), (.int .u64 (x : Int), none), (undef, some z3), (.string (S z3), none), (.string (S b), none), (.int .u64 (x : Int), none), (.string (S y3), none), (.string (S z3), none), (.bool true, none), (.bool true, none), (.bool true, none), (.slice A0 b.length c0, none), (.int .i64 n, none), (undef, some z4), (.string (S z4), none), (.string (S b), none), (.int .i64 n, none), (.string (S y4), none), (.string (S z4), none), (.bool true, none), (.bool true, none), (.bool true, none), (.slice A0 b.length c0, none), (.float .f64 x, none), (undef, some z5), (.string (S z5), none), (.string (S b), none), (.float .f64 x, none), (.string (S y5), none), (.string (S z5), none), (.bool true, none), (.bool true, none), (.bool true, none), (.slice A0 b.length c0, none), (.int .i64 n, none), (.bool (decide (0 < n)), none), (undef, some z6), (.string (S z6), none), (.string (S b), none), (.int .i64 n, none), (.bool (decide (0 < n)), none), (.string (S y6), none), (.string (S z6), none), (.bool true, none), (.bool true, none), (.bool true, none), (.slice A0 b.length c0, none), (.string (S b), none), (.string (S b), none), (.bool true, none), (.bool true, none), (.bool true, none), (.bool true, none), (.bool true, none), (.bool true, none)]) (by kernel_rfl) (by kernel_rfl) ((Touch.refl _ _).drew) (leaves_stab _) ?_ ?_
    · intro i o ho a w ht hk hd
      match i, ho with
      | 0, ho =>
        have ho' : some _ = some o := ho
        cases ho'
        clear ho
        have e0 := known_slot hk 0 (by kernel_rfl) (v := .slice A0 b.length c0) rfl
        exact does_value (wanted_none rfl) (by rw [BigFrame.run_move (.tmp 0) rfl, e0]) rfl
      | 1, ho =>
        have ho' : some _ = some o := ho
        cases ho'
        clear ho
        have e1 := known_slot hk 1 (by kernel_rfl) (v := .int .i64 n) rfl
        exact does_value (wanted_none rfl) (by rw [BigFrame.run_move (.tmp 1) rfl, e1]) rfl
      | 2, ho =>
        have ho' : some _ = some o := ho
        cases ho'
        clear ho
        obtain ⟨v17, e17, h17⟩ := has_slot (has_dep hd 0 (by kernel_rfl)) rfl rfl
        replace h17 : v17 = .slice A0 b.length c0 := h17
        subst h17
        obtain ⟨v18, e18, h18⟩ := has_slot (has_dep hd 1 (by kernel_rfl)) rfl rfl
        replace h18 : v18 = .int .i64 n := h18
        subst h18
        exact does_enter (wanted_none rfl) (f := 22) (args := #[.slice A0 b.length c0, .int .i64 n]) (by rw [run_go 22 _ _ rfl, ent22]; simp [evalc, e17, e18]) ((Q1.out _ (HB.out.carry ht (by simp))).mono fun e w2 hf => by obtain ⟨u, q1, q2, q3⟩ := hf; exact ⟨u, q1, Bts.own q2, q3⟩)
      | 3, ho =>
        have ho' : some _ = some o := ho
        cases ho'
        clear ho
        obtain ⟨v19, e19, h19⟩ := has_slot (has_dep hd 2 (by kernel_rfl)) rfl rfl
        replace h19 : Bts w v19 z1 := h19
        have hcv := str_of h19
        exact does_value (wanted_none rfl) (v := .string (S z1)) (run_conv (x := .tmp 19) rfl (by rw [e19]; exact hcv)) rfl
      | 4, ho =>
        have ho' : some _ = some o := ho
        cases ho'
        clear ho
        have e7 := known_slot hk 7 (by kernel_rfl) (v := .string (S b)) rfl
        exact does_value (wanted_none rfl) (by rw [BigFrame.run_move (.tmp 7) rfl, e7]) rfl
      | 5, ho =>
        have ho' : some _ = some o := ho
        cases ho'
        clear ho
        have e1 := known_slot hk 1 (by kernel_rfl) (v := .int .i64 n) rfl
        exact does_value (wanted_none rfl) (by rw [BigFrame.run_move (.tmp 1) rfl, e1]) rfl
      | 6, ho =>
        have ho' : some _ = some o := ho
        cases ho'
        clear ho
        obtain ⟨v22, e22, h22⟩ := has_slot (has_dep hd 5 (by kernel_rfl)) rfl rfl
        replace h22 : v22 = .int .i64 n := h22
        subst h22
        exact does_value (wanted_none rfl) (v := .int .u64 (IntKind.u64.wrap n)) (run_conv (x := .tmp 22) rfl (by rw [e22]; exact hcu _)) rfl
      | 7, ho =>
        have ho' : some _ = some o := ho
        cases ho'
        clear ho
        obtain ⟨v23, e23, h23⟩ := has_slot (has_dep hd 6 (by kernel_rfl)) rfl rfl
        replace h23 : v23 = .int .u64 (IntKind.u64.wrap n) := h23
        subst h23
        exact does_enter (wanted_none rfl) (f := 23) (args := #[.int .u64 (IntKind.u64.wrap n), .int .i64 2]) (by rw [run_go 23 _ _ rfl, ent23]; simp [evalc, e23]) ((R1.out _).mono fun e w2 ⟨q1, q2⟩ => ⟨_, q1, rfl, q2⟩)
      | 8, ho =>
        have ho' : some _ = some o := ho
        cases ho'
        clear ho
        obtain ⟨v21, e21, h21⟩ := has_slot (has_dep hd 4 (by kernel_rfl)) rfl rfl
        replace h21 : v21 = .string (S b) := h21
        subst h21
        obtain ⟨v24, e24, h24⟩ := has_slot (has_dep hd 7 (by kernel_rfl)) rfl rfl
        replace h24 : v24 = .string (S y1) := h24
        subst h24
        exact does_value (wanted_none rfl) (v := .string (S z1)) (by rw [run_bin .add 9 (.tmp 21) (.tmp 24) 9 rfl, e21, e24]; simp [go_sem, a1]) rfl
      | 9, ho =>
        have ho' : some _ = some o := ho
        cases ho'
        clear ho
        obtain ⟨v20, e20, h20⟩ := has_slot (has_dep hd 3 (by kernel_rfl)) rfl rfl
        replace h20 : v20 = .string (S z1) := h20
        subst h20
        obtain ⟨v25, e25, h25⟩ := has_slot (has_dep hd 8 (by kernel_rfl)) rfl rfl
        replace h25 : v25 = .string (S z1) := h25
        subst h25
        exact does_value (wanted_none rfl) (v := .bool true) (by rw [run_bin .eql 9 (.tmp 20) (.tmp 25) 9 rfl, e20, e25]; simp [go_sem]) rfl
      | 10, ho =>
        have ho' : some _ = some o := ho
        cases ho'
        clear ho
        obtain ⟨v26, e26, h26⟩ := has_slot (has_dep hd 9 (by kernel_rfl)) rfl rfl
        replace h26 : v26 = .bool true := h26
        subst h26
        exact does_value (wanted_none rfl) (by rw [BigFrame.run_move (.tmp 26) rfl, e26]) rfl
      | 11, ho =>
        have ho' : some _ = some o := ho
        cases ho'
        clear ho
        obtain ⟨v27, e27, h27⟩ := has_slot (has_dep hd 10 (by kernel_rfl)) rfl rfl
        replace h27 : v27 = .bool true := h27
        subst h27
        have e0 := known_slot hk 0 (by kernel_rfl) (v := .slice A0 b.length c0) rfl
        exact does_value (wanted_some (g := 10) rfl rfl rfl e27) (by rw [BigFrame.run_move (.tmp 0) rfl, e0]) rfl
      | 12, ho =>
        have ho' : some _ = some o := ho
        cases ho'
        clear ho
        obtain ⟨v27, e27, h27⟩ := has_slot (has_dep hd 10 (by kernel_rfl)) rfl rfl
        replace h27 : v27 = .bool true := h27
        subst h27
        have e1 := known_slot hk 1 (by kernel_rfl) (v := .int .i64 n) rfl
        exact does_value (wanted_some (g := 10) rfl rfl rfl e27) (by rw [BigFrame.run_move (.tmp 1) rfl, e1]) rfl
      | 13, ho =>
        have ho' : some _ = some o := ho
        cases ho'
        clear ho
        obtain ⟨v27, e27, h27⟩ := has_slot (has_dep hd 10 (by kernel_rfl)) rfl rfl
        replace h27 : v27 = .bool true := h27
        subst h27
        obtain ⟨v28, e28, h28⟩ := has_slot (has_dep hd 11 (by kernel_rfl)) rfl rfl
        replace h28 : v28 = .slice A0 b.length c0 := h28
        subst h28
        obtain ⟨v29, e29, h29⟩ := has_slot (has_dep hd 12 (by kernel_rfl)) rfl rfl
        replace h29 : v29 = .int .i64 n := h29
        subst h29
        exact does_enter (wanted_some (g := 10) rfl rfl rfl e27) (f := 24) (args := #[.slice A0 b.length c0, .int .i64 n]) (by rw [run_go 24 _ _ rfl, ent24]; simp [evalc, e28, e29]) ((Q2.out _ (HB.out.carry ht (by simp))).mono fun e w2 hf => by obtain ⟨u, q1, q2, q3⟩ := hf; exact ⟨u, q1, Bts.own q2, q3⟩)
      | 14, ho =>
        have ho' : some _ = some o := ho
        cases ho'
        clear ho
        obtain ⟨v27, e27, h27⟩ := has_slot (has_dep hd 10 (by kernel_rfl)) rfl rfl
        replace h27 : v27 = .bool true := h27
        subst h27
        obtain ⟨v30, e30, h30⟩ := has_slot (has_dep hd 13 (by kernel_rfl)) rfl rfl
        replace h30 : Bts w v30 z2 := h30
        have hcv := str_of h30
        exact does_value (wanted_some (g := 10) rfl rfl rfl e27) (v := .string (S z2)) (run_conv (x := .tmp 30) rfl (by rw [e30]; exact hcv)) rfl
      | 15, ho =>
        have ho' : some _ = some o := ho
        cases ho'
        clear ho
        obtain ⟨v27, e27, h27⟩ := has_slot (has_dep hd 10 (by kernel_rfl)) rfl rfl
        replace h27 : v27 = .bool true := h27
        subst h27
        have e7 := known_slot hk 7 (by kernel_rfl) (v := .string (S b)) rfl
        exact does_value (wanted_some (g := 10) rfl rfl rfl e27) (by rw [BigFrame.run_move (.tmp 7) rfl, e7]) rfl
      | 16, ho =>
        have ho' : some _ = some o := ho
        cases ho'
        clear ho
        obtain ⟨v27, e27, h27⟩ := has_slot (has_dep hd 10 (by kernel_rfl)) rfl rfl
        replace h27 : v27 = .bool true := h27
        subst h27
        have e1 := known_slot hk 1 (by kernel_rfl) (v := .int .i64 n) rfl
        exact does_value (wanted_some (g := 10) rfl rfl rfl e27) (by rw [BigFrame.run_move (.tmp 1) rfl, e1]) rfl
      | 17, ho =>
        have ho' : some _ = some o := ho
        cases ho'
        clear ho
        obtain ⟨v27, e27, h27⟩ := has_slot (has_dep hd 10 (by kernel_rfl)) rfl rfl
        replace h27 : v27 = .bool true := h27
        subst h27
        obtain ⟨v33, e33, h33⟩ := has_slot (has_dep hd 16 (by kernel_rfl)) rfl rfl
        replace h33 : v33 = .int .i64 n := h33
        subst h33
        exact does_value (wanted_some (g := 10) rfl rfl rfl e27) (v := .int .u64 (IntKind.u64.wrap n)) (run_conv (x := .tmp 33) rfl (by rw [e33]; exact hcu _)) rfl
      | 18, ho =>
        have ho' : some _ = some o := ho
        cases ho'
        clear ho
        obtain ⟨v27, e27, h27⟩ := has_slot (has_dep hd 10 (by kernel_rfl)) rfl rfl
        replace h27 : v27 = .bool true := h27
        subst h27
        obtain ⟨v34, e34, h34⟩ := has_slot (has_dep hd 17 (by kernel_rfl)) rfl rfl
        replace h34 : v34 = .int .u64 (IntKind.u64.wrap n) := h34
        subst h34
        exact does_enter (wanted_some (g := 10) rfl rfl rfl e27) (f := 23) (args := #[.int .u64 (IntKind.u64.wrap n), .int .i64 4]) (by rw [run_go 23 _ _ rfl, ent23]; simp [evalc, e34]) ((R2.out _).mono fun e w2 ⟨q1, q2⟩ => ⟨_, q1, rfl, q2⟩)
      | 19, ho =>
        have ho' : some _ = some o := ho
        cases ho'
        clear ho
        obtain ⟨v27, e27, h27⟩ := has_slot (has_dep hd 10 (by kernel_rfl)) rfl rfl
        replace h27 : v27 = .bool true := h27
        subst h27
        obtain ⟨v32, e32, h32⟩ := has_slot (has_dep hd 15 (by kernel_rfl)) rfl rfl
        replace h32 : v32 = .string (S b) := h32
        subst h32
        obtain ⟨v35, e35, h35⟩ := has_slot (has_dep hd 18 (by kernel_rfl)) rfl rfl
        replace h35 : v35 = .string (S y2) := h35
        subst h35
        exact does_value (wanted_some (g := 10) rfl rfl rfl e27) (v := .string (S z2)) (by rw [run_bin .add 9 (.tmp 32) (.tmp 35) 9 rfl, e32, e35]; simp [go_sem, a2]) rfl
      | 20, ho =>
        have ho' : some _ = some o := ho
        cases ho'
        clear ho
        obtain ⟨v27, e27, h27⟩ := has_slot (has_dep hd 10 (by kernel_rfl)) rfl rfl
        replace h27 : v27 = .bool true := h27
        subst h27
        obtain ⟨v31, e31, h31⟩ := has_slot (has_dep hd 14 (by kernel_rfl)) rfl rfl
        replace h31 : v31 = .string (S z2) := h31
        subst h31
        obtain ⟨v36, e36, h36⟩ := has_slot (has_dep hd 19 (by kernel_rfl)) rfl rfl
        replace h36 : v36 = .string (S z2) := h36
        subst h36
        exact does_value (wanted_some (g := 10) rfl rfl rfl e27) (v := .bool true) (by rw [run_bin .eql 9 (.tmp 31) (.tmp 36) 9 rfl, e31, e36]; simp [go_sem]) rfl
      | 21, ho =>
        have ho' : some _ = some o := ho
        cases ho'
        clear ho
        obtain ⟨v27, e27, h27⟩ := has_slot (has_dep hd 10 (by kernel_rfl)) rfl rfl
        replace h27 : v27 = .bool true := h27
        subst h27
        obtain ⟨v37, e37, h37⟩ := has_slot (has_dep hd 20 (by kernel_rfl)) rfl rfl
        replace h37 : v37 = .bool true := h37
        subst h37
        exact does_value (wanted_none rfl) (v := .bool true) (by rw [run_pick (c := .tmp 27) (x := .tmp 37) rfl e27, e37]) rfl
      | 22, ho =>
        have ho' : some _ = some o := ho
        cases ho'
        clear ho
        obtain ⟨v38, e38, h38⟩ := has_slot (has_dep hd 21 (by kernel_rfl)) rfl rfl
        replace h38 : v38 = .bool true := h38
        subst h38
        exact does_value (wanted_none rfl) (by rw [BigFrame.run_move (.tmp 38) rfl, e38]) rfl
      | 23, ho =>
        have ho' : some _ = some o := ho
        cases ho'
        clear ho
        obtain ⟨v39, e39, h39⟩ := has_slot (has_dep hd 22 (by kernel_rfl)) rfl rfl
        replace h39 : v39 = .bool true := h39
        subst h39
        have e0 := known_slot hk 0 (by kernel_rfl) (v := .slice A0 b.length c0) rfl
        exact does_value (wanted_some (g := 22) rfl rfl rfl e39) (by rw [BigFrame.run_move (.tmp 0) rfl, e0]) rfl
      | 24, ho =>
        have ho' : some _ = some o := ho
        cases ho'
        clear ho
        obtain ⟨v39, e39, h39⟩ := has_slot (has_dep hd 22 (by kernel_rfl)) rfl rfl
        replace h39 : v39 = .bool true := h39
        subst h39
        have e2 := known_slot hk 2 (by kernel_rfl) (v := .int .u64 (x : Int)) rfl
        exact does_value (wanted_some (g := 22) rfl rfl rfl e39) (by rw [BigFrame.run_move (.tmp 2) rfl, e2]) rfl
      | 25, ho =>
        have ho' : some _ = some o := ho
        cases ho'
        clear ho
        obtain ⟨v39, e39, h39⟩ := has_slot (has_dep hd 22 (by kernel_rfl)) rfl rfl
        replace h39 : v39 = .bool true := h39
        subst h39
        obtain ⟨v40, e40, h40⟩ := has_slot (has_dep hd 23 (by kernel_rfl)) rfl rfl
        replace h40 : v40 = .slice A0 b.length c0 := h40
        subst h40
        obtain ⟨v41, e41, h41⟩ := has_slot (has_dep hd 24 (by kernel_rfl)) rfl rfl
        replace h41 : v41 = .int .u64 (x : Int) := h41
        subst h41
        exact does_enter (wanted_some (g := 22) rfl rfl rfl e39) (f := 25) (args := #[.slice A0 b.length c0, .int .u64 (x : Int)]) (by rw [run_go 25 _ _ rfl, ent25]; simp [evalc, e40, e41]) ((Q3.out _ (HB.out.carry ht (by simp))).mono fun e w2 hf => by obtain ⟨u, q1, q2, q3⟩ := hf; exact ⟨u, q1, Bts.own q2, q3⟩)
      | 26, ho =>
        have ho' : some _ = some o := ho
        cases ho'
        clear ho
        obtain ⟨v39, e39, h39⟩ := has_slot (has_dep hd 22 (by kernel_rfl)) rfl rfl
        replace h39 : v39 = .bool true := h39
        subst h39
        obtain ⟨v42, e42, h42⟩ := has_slot (has_dep hd 25 (by kernel_rfl)) rfl rfl
        replace h42 : Bts w v42 z3 := h42
        have hcv := str_of h42
        exact does_value (wanted_some (g := 22) rfl rfl rfl e39) (v := .string (S z3)) (run_conv (x := .tmp 42) rfl (by rw [e42]; exact hcv)) rfl
      | 27, ho =>
        have ho' : some _ = some o := ho
        cases ho'
        clear ho
        obtain ⟨v39, e39, h39⟩ := has_slot (has_dep hd 22 (by kernel_rfl)) rfl rfl
        replace h39 : v39 = .bool true := h39
        subst h39
        have e7 := known_slot hk 7 (by kernel_rfl) (v := .string (S b)) rfl
        exact does_value (wanted_some (g := 22) rfl rfl rfl e39) (by rw [BigFrame.run_move (.tmp 7) rfl, e7]) rfl
      | 28, ho =>
        have ho' : some _ = some o := ho
        cases ho'
        clear ho
        obtain ⟨v39, e39, h39⟩ := has_slot (has_dep hd 22 (by kernel_rfl)) rfl rfl
        replace h39 : v39 = .bool true := h39
        subst h39
        have e2 := known_slot hk 2 (by kernel_rfl) (v := .int .u64 (x : Int)) rfl
        exact does_value (wanted_some (g := 22) rfl rfl rfl e39) (by rw [BigFrame.run_move (.tmp 2) rfl, e2]) rfl
      | 29, ho =>
        have ho' : some _ = some o := ho
        cases ho'
        clear ho
        obtain ⟨v39, e39, h39⟩ := has_slot (has_dep hd 22 (by kernel_rfl)) rfl rfl
        replace h39 : v39 = .bool true := h39
        subst h39
        obtain ⟨v45, e45, h45⟩ := has_slot (has_dep hd 28 (by kernel_rfl)) rfl rfl
        replace h45 : v45 = .int .u64 (x : Int) := h45
        subst h45
        exact does_enter (wanted_some (g := 22) rfl rfl rfl e39) (f := 23) (args := #[.int .u64 (x : Int), .int .i64 8]) (by rw [run_go 23 _ _ rfl, ent23]; simp [evalc, e45]) ((R3.out _).mono fun e w2 ⟨q1, q2⟩ => ⟨_, q1, rfl, q2⟩)
      | 30, ho =>
        have ho' : some _ = some o := ho
        cases ho'
        clear ho
        obtain ⟨v39, e39, h39⟩ := has_slot (has_dep hd 22 (by kernel_rfl)) rfl rfl
        replace h39 : v39 = .bool true := h39
        subst h39
        obtain ⟨v44, e44, h44⟩ := has_slot (has_dep hd 27 (by kernel_rfl)) rfl rfl
        replace h44 : v44 = .string (S b) := h44
        subst h44
        obtain ⟨v46, e46, h46⟩ := has_slot (has_dep hd 29 (by kernel_rfl)) rfl rfl
        replace h46 : v46 = .string (S y3) := h46
        subst h46
        exact does_value (wanted_some (g := 22) rfl rfl rfl e39) (v := .string (S z3)) (by rw [run_bin .add 9 (.tmp 44) (.tmp 46) 9 rfl, e44, e46]; simp [go_sem, a3]) rfl
      | 31, ho =>
        have ho' : some _ = some o := ho
        cases ho'
        clear ho
        obtain ⟨v39, e39, h39⟩ := has_slot (has_dep hd 22 (by kernel_rfl)) rfl rfl
        replace h39 : v39 = .bool true := h39
        subst h39
        obtain ⟨v43, e43, h43⟩ := has_slot (has_dep hd 26 (by kernel_rfl)) rfl rfl
        replace h43 : v43 = .string (S z3) := h43
        subst h43
        obtain ⟨v47, e47, h47⟩ := has_slot (has_dep hd 30 (by kernel_rfl)) rfl rfl
        replace h47 : v47 = .string (S z3) := h47
        subst h47
        exact does_value (wanted_some (g := 22) rfl rfl rfl e39) (v := .bool true) (by rw [run_bin .eql 9 (.tmp 43) (.tmp 47) 9 rfl, e43, e47]; simp [go_sem]) rfl
      | 32, ho =>
        have ho' : some _ = some o := ho
        cases ho'
        clear ho
        obtain ⟨v39, e39, h39⟩ := has_slot (has_dep hd 22 (by kernel_rfl)) rfl rfl
        replace h39 : v39 = .bool true := h39
        subst h39
        obtain ⟨v48, e48, h48⟩ := has_slot (has_dep hd 31 (by kernel_rfl)) rfl rfl
        replace h48 : v48 = .bool true := h48
        subst h48
        exact does_value (wanted_none rfl) (v := .bool true) (by rw [run_pick (c := .tmp 39) (x := .tmp 48) rfl e39, e48]) rfl
      | 33, ho =>
        have ho' : some _ = some o := ho
        cases ho'
        clear ho
        obtain ⟨v49, e49, h49⟩ := has_slot (has_dep hd 32 (by kernel_rfl)) rfl rfl
        replace h49 : v49 = .bool true := h49
        subst h49
        exact does_value (wanted_none rfl) (by rw [BigFrame.run_move (.tmp 49) rfl, e49]) rfl
      | 34, ho =>
        have ho' : some _ = some o := ho
        cases ho'
        clear ho
        obtain ⟨v50, e50, h50⟩ := has_slot (has_dep hd 33 (by kernel_rfl)) rfl rfl
        replace h50 : v50 = .bool true := h50
        subst h50
        have e0 := known_slot hk 0 (by kernel_rfl) (v := .slice A0 b.length c0) rfl
        exact does_value (wanted_some (g := 33) rfl rfl rfl e50) (by rw [BigFrame.run_move (.tmp 0) rfl, e0]) rfl
      | 35, ho =>
        have ho' : some _ = some o := ho
        cases ho'
        clear ho
        obtain ⟨v50, e50, h50⟩ := has_slot (has_dep hd 33 (by kernel_rfl)) rfl rfl
        replace h50 : v50 = .bool true := h50
        subst h50
        have e1 := known_slot hk 1 (by kernel_rfl) (v := .int .i64 n) rfl
        exact does_value (wanted_some (g := 33) rfl rfl rfl e50) (by rw [BigFrame.run_move (.tmp 1) rfl, e1]) rfl
      | 36, ho =>
        have ho' : some _ = some o := ho
        cases ho'
        clear ho
        obtain ⟨v50, e50, h50⟩ := has_slot (has_dep hd 33 (by kernel_rfl)) rfl rfl
        replace h50 : v50 = .bool true := h50
        subst h50
        obtain ⟨v51, e51, h51⟩ := has_slot (has_dep hd 34 (by kernel_rfl)) rfl rfl
        replace h51 : v51 = .slice A0 b.length c0 := h51
        subst h51
        obtain ⟨v52, e52, h52⟩ := has_slot (has_dep hd 35 (by kernel_rfl)) rfl rfl
        replace h52 : v52 = .int .i64 n := h52
        subst h52
        exact does_enter (wanted_some (g := 33) rfl rfl rfl e50) (f := 26) (args := #[.slice A0 b.length c0, .int .i64 n]) (by rw [run_go 26 _ _ rfl, ent26]; simp [evalc, e51, e52]) ((Q4.out _ (HB.out.carry ht (by simp))).mono fun e w2 hf => by obtain ⟨u, q1, q2, q3⟩ := hf; exact ⟨u, q1, Bts.own q2, q3⟩)
      | 37, ho =>
        have ho' : some _ = some o := ho
        cases ho'
        clear ho
        obtain ⟨v50, e50, h50⟩ := has_slot (has_dep hd 33 (by kernel_rfl)) rfl rfl
        replace h50 : v50 = .bool true := h50
        subst h50
        obtain ⟨v53, e53, h53⟩ := has_slot (has_dep hd 36 (by kernel_rfl)) rfl rfl
        replace h53 : Bts w v53 z4 := h53
        have hcv := str_of h53
        exact does_value (wanted_some (g := 33) rfl rfl rfl e50) (v := .string (S z4)) (run_conv (x := .tmp 53) rfl (by rw [e53]; exact hcv)) rfl
      | 38, ho =>
        have ho' : some _ = some o := ho
        cases ho'
        clear ho
        obtain ⟨v50, e50, h50⟩ := has_slot (has_dep hd 33 (by kernel_rfl)) rfl rfl
        replace h50 : v50 = .bool true := h50
        subst h50
        have e7 := known_slot hk 7 (by kernel_rfl) (v := .string (S b)) rfl
        exact does_value (wanted_some (g := 33) rfl rfl rfl e50) (by rw [BigFrame.run_move (.tmp 7) rfl, e7]) rfl
      | 39, ho =>
        have ho' : some _ = some o := ho
        cases ho'
        clear ho
        obtain ⟨v50, e50, h50⟩ := has_slot (has_dep hd 33 (by kernel_rfl)) rfl rfl
        replace h50 : v50 = .bool true := h50
        subst h50
        have e1 := known_slot hk 1 (by kernel_rfl) (v := .int .i64 n) rfl
        exact does_value (wanted_some (g := 33) rfl rfl rfl e50) (by rw [BigFrame.run_move (.tmp 1) rfl, e1]) rfl
      | 40, ho =>
        have ho' : some _ = some o := ho
        cases ho'
        clear ho
        obtain ⟨v50, e50, h50⟩ := has_slot (has_dep hd 33 (by kernel_rfl)) rfl rfl
        replace h50 : v50 = .bool true := h50
        subst h50
        obtain ⟨v56, e56, h56⟩ := has_slot (has_dep hd 39 (by kernel_rfl)) rfl rfl
        replace h56 : v56 = .int .i64 n := h56
        subst h56
        exact does_enter (wanted_some (g := 33) rfl rfl rfl e50) (f := 27) (args := #[.int .i64 n]) (by rw [run_go 27 _ _ rfl, ent27]; simp [evalc, e56]) ((R4.out _).mono fun e w2 ⟨q1, q2⟩ => ⟨_, q1, rfl, q2⟩)
      | 41, ho =>
        have ho' : some _ = some o := ho
        cases ho'
        clear ho
        obtain ⟨v50, e50, h50⟩ := has_slot (has_dep hd 33 (by kernel_rfl)) rfl rfl
        replace h50 : v50 = .bool true := h50
        subst h50
        obtain ⟨v55, e55, h55⟩ := has_slot (has_dep hd 38 (by kernel_rfl)) rfl rfl
        replace h55 : v55 = .string (S b) := h55
        subst h55
        obtain ⟨v57, e57, h57⟩ := has_slot (has_dep hd 40 (by kernel_rfl)) rfl rfl
        replace h57 : v57 = .string (S y4) := h57
        subst h57
        exact does_value (wanted_some (g := 33) rfl rfl rfl e50) (v := .string (S z4)) (by rw [run_bin .add 9 (.tmp 55) (.tmp 57) 9 rfl, e55, e57]; simp [go_sem, a4]) rfl
      | 42, ho =>
        have ho' : some _ = some o := ho
        cases ho'
        clear ho
        obtain ⟨v50, e50, h50⟩ := has_slot (has_dep hd 33 (by kernel_rfl)) rfl rfl
        replace h50 : v50 = .bool true := h50
        subst h50
        obtain ⟨v54, e54, h54⟩ := has_slot (has_dep hd 37 (by kernel_rfl)) rfl rfl
        replace h54 : v54 = .string (S z4) := h54
        subst h54
        obtain ⟨v58, e58, h58⟩ := has_slot (has_dep hd 41 (by kernel_rfl)) rfl rfl
        replace h58 : v58 = .string (S z4) := h58
        subst h58
        exact does_value (wanted_some (g := 33) rfl rfl rfl e50) (v := .bool true) (by rw [run_bin .eql 9 (.tmp 54) (.tmp 58) 9 rfl, e54, e58]; simp [go_sem]) rfl
      | 43, ho =>
        have ho' : some _ = some o := ho
        cases ho'
        clear ho
        obtain ⟨v50, e50, h50⟩ := has_slot (has_dep hd 33 (by kernel_rfl)) rfl rfl
        replace h50 : v50 = .bool true := h50
        subst h50
        obtain ⟨v59, e59, h59⟩ := has_slot (has_dep hd 42 (by kernel_rfl)) rfl rfl
        replace h59 : v59 = .bool true := h59
        subst h59
        exact does_value (wanted_none rfl) (v := .bool true) (by rw [run_pick (c := .tmp 50) (x := .tmp 59) rfl e50, e59]) rfl
      | 44, ho =>
        have ho' : some _ = some o := ho
        cases ho'
        clear ho
        obtain ⟨v60, e60, h60⟩ := has_slot (has_dep hd 43 (by kernel_rfl)) rfl rfl
        replace h60 : v60 = .bool true := h60
        subst h60
        exact does_value (wanted_none rfl) (by rw [BigFrame.run_move (.tmp 60) rfl, e60]) rfl
      | 45, ho =>
        have ho' : some _ = some o := ho
        cases ho'
        clear ho
        obtain ⟨v61, e61, h61⟩ := has_slot (has_dep hd 44 (by kernel_rfl)) rfl rfl
        replace h61 : v61 = .bool true := h61
        subst h61
        have e0 := known_slot hk 0 (by kernel_rfl) (v := .slice A0 b.length c0) rfl
        exact does_value (wanted_some (g := 44) rfl rfl rfl e61) (by rw [BigFrame.run_move (.tmp 0) rfl, e0]) rfl
      | 46, ho =>
        have ho' : some _ = some o := ho
        cases ho'
        clear ho
        obtain ⟨v61, e61, h61⟩ := has_slot (has_dep hd 44 (by kernel_rfl)) rfl rfl
        replace h61 : v61 = .bool true := h61
        subst h61
        have e8 := known_slot hk 8 (by kernel_rfl) (v := .float .f64 x) rfl
        exact does_value (wanted_some (g := 44) rfl rfl rfl e61) (by rw [BigFrame.run_move (.tmp 8) rfl, e8]) rfl
      | 47, ho =>
        have ho' : some _ = some o := ho
        cases ho'
        clear ho
        obtain ⟨v61, e61, h61⟩ := has_slot (has_dep hd 44 (by kernel_rfl)) rfl rfl
        replace h61 : v61 = .bool true := h61
        subst h61
        obtain ⟨v62, e62, h62⟩ := has_slot (has_dep hd 45 (by kernel_rfl)) rfl rfl
        replace h62 : v62 = .slice A0 b.length c0 := h62
        subst h62
        obtain ⟨v63, e63, h63⟩ := has_slot (has_dep hd 46 (by kernel_rfl)) rfl rfl
        replace h63 : v63 = .float .f64 x := h63
        subst h63
        exact does_enter (wanted_some (g := 44) rfl rfl rfl e61) (f := 28) (args := #[.slice A0 b.length c0, .float .f64 x]) (by rw [run_go 28 _ _ rfl, ent28]; simp [evalc, e62, e63]) ((Q5.out _ (HB.out.carry ht (by simp))).mono fun e w2 hf => by obtain ⟨u, q1, q2, q3⟩ := hf; exact ⟨u, q1, Bts.own q2, q3⟩)
      | 48, ho =>
        have ho' : some _ = some o := ho
        cases ho'
        clear ho
        obtain ⟨v61, e61, h61⟩ := has_slot (has_dep hd 44 (by kernel_rfl)) rfl rfl
        replace h61 : v61 = .bool true := h61
        subst h61
        obtain ⟨v64, e64, h64⟩ := has_slot (has_dep hd 47 (by kernel_rfl)) rfl rfl
        replace h64 : Bts w v64 z5 := h64
        have hcv := str_of h64
        exact does_value (wanted_some (g := 44) rfl rfl rfl e61) (v := .string (S z5)) (run_conv (x := .tmp 64) rfl (by rw [e64]; exact hcv)) rfl
      | 49, ho =>
        have ho' : some _ = some o := ho
        cases ho'
        clear ho
        obtain ⟨v61, e61, h61⟩ := has_slot (has_dep hd 44 (by kernel_rfl)) rfl rfl
        replace h61 : v61 = .bool true := h61
        subst h61
        have e7 := known_slot hk 7 (by kernel_rfl) (v := .string (S b)) rfl
        exact does_value (wanted_some (g := 44) rfl rfl rfl e61) (by rw [BigFrame.run_move (.tmp 7) rfl, e7]) rfl
      | 50, ho =>
        have ho' : some _ = some o := ho
        cases ho'
        clear ho
        obtain ⟨v61, e61, h61⟩ := has_slot (has_dep hd 44 (by kernel_rfl)) rfl rfl
        replace h61 : v61 = .bool true := h61
        subst h61
        have e8 := known_slot hk 8 (by kernel_rfl) (v := .float .f64 x) rfl
        exact does_value (wanted_some (g := 44) rfl rfl rfl e61) (by rw [BigFrame.run_move (.tmp 8) rfl, e8]) rfl
      | 51, ho =>
        have ho' : some _ = some o := ho
        cases ho'
        clear ho
        obtain ⟨v61, e61, h61⟩ := has_slot (has_dep hd 44 (by kernel_rfl)) rfl rfl
        replace h61 : v61 = .bool true := h61
        subst h61
        obtain ⟨v67, e67, h67⟩ := has_slot (has_dep hd 50 (by kernel_rfl)) rfl rfl
        replace h67 : v67 = .float .f64 x := h67
        subst h67
        exact does_enter (wanted_some (g := 44) rfl rfl rfl e61) (f := 29) (args := #[.float .f64 x]) (by rw [run_go 29 _ _ rfl, ent29]; simp [evalc, e67]) ((R5.out _).mono fun e w2 ⟨q1, q2⟩ => ⟨_, q1, rfl, q2⟩)
      | 52, ho =>
        have ho' : some _ = some o := ho
        cases ho'
        clear ho
        obtain ⟨v61, e61, h61⟩ := has_slot (has_dep hd 44 (by kernel_rfl)) rfl rfl
        replace h61 : v61 = .bool true := h61
        subst h61
        obtain ⟨v66, e66, h66⟩ := has_slot (has_dep hd 49 (by kernel_rfl)) rfl rfl
        replace h66 : v66 = .string (S b) := h66
        subst h66
        obtain ⟨v68, e68, h68⟩ := has_slot (has_dep hd 51 (by kernel_rfl)) rfl rfl
        replace h68 : v68 = .string (S y5) := h68
        subst h68
        exact does_value (wanted_some (g := 44) rfl rfl rfl e61) (v := .string (S z5)) (by rw [run_bin .add 9 (.tmp 66) (.tmp 68) 9 rfl, e66, e68]; simp [go_sem, a5]) rfl
      | 53, ho =>
        have ho' : some _ = some o := ho
        cases ho'
        clear ho
        obtain ⟨v61, e61, h61⟩ := has_slot (has_dep hd 44 (by kernel_rfl)) rfl rfl
        replace h61 : v61 = .bool true := h61
        subst h61
        obtain ⟨v65, e65, h65⟩ := has_slot (has_dep hd 48 (by kernel_rfl)) rfl rfl
        replace h65 : v65 = .string (S z5) := h65
        subst h65
        obtain ⟨v69, e69, h69⟩ := has_slot (has_dep hd 52 (by kernel_rfl)) rfl rfl
        replace h69 : v69 = .string (S z5) := h69
        subst h69
        exact does_value (wanted_some (g := 44) rfl rfl rfl e61) (v := .bool true) (by rw [run_bin .eql 9 (.tmp 65) (.tmp 69) 9 rfl, e65, e69]; simp [go_sem]) rfl
      | 54, ho =>
        have ho' : some _ = some o := ho
        cases ho'
        clear ho
        obtain ⟨v61, e61, h61⟩ := has_slot (has_dep hd 44 (by kernel_rfl)) rfl rfl
        replace h61 : v61 = .bool true := h61
        subst h61
        obtain ⟨v70, e70, h70⟩ := has_slot (has_dep hd 53 (by kernel_rfl)) rfl rfl
        replace h70 : v70 = .bool true := h70
        subst h70
        exact does_value (wanted_none rfl) (v := .bool true) (by rw [run_pick (c := .tmp 61) (x := .tmp 70) rfl e61, e70]) rfl
      | 55, ho =>
        have ho' : some _ = some o := ho
        cases ho'
        clear ho
        obtain ⟨v71, e71, h71⟩ := has_slot (has_dep hd 54 (by kernel_rfl)) rfl rfl
        replace h71 : v71 = .bool true := h71
        subst h71
        exact does_value (wanted_none rfl) (by rw [BigFrame.run_move (.tmp 71) rfl, e71]) rfl
      | 56, ho =>
        have ho' : some _ = some o := ho
        cases ho'
        clear ho
        obtain ⟨v72, e72, h72⟩ := has_slot (has_dep hd 55 (by kernel_rfl)) rfl rfl
        replace h72 : v72 = .bool true := h72
        subst h72
        have e0 := known_slot hk 0 (by kernel_rfl) (v := .slice A0 b.length c0) rfl
        exact does_value (wanted_some (g := 55) rfl rfl rfl e72) (by rw [BigFrame.run_move (.tmp 0) rfl, e0]) rfl
      | 57, ho =>
        have ho' : some _ = some o := ho
        cases ho'
        clear ho
        obtain ⟨v72, e72, h72⟩ := has_slot (has_dep hd 55 (by kernel_rfl)) rfl rfl
        replace h72 : v72 = .bool true := h72
        subst h72
        have e1 := known_slot hk 1 (by kernel_rfl) (v := .int .i64 n) rfl
        exact does_value (wanted_some (g := 55) rfl rfl rfl e72) (by rw [BigFrame.run_move (.tmp 1) rfl, e1]) rfl
      | 58, ho =>
        have ho' : some _ = some o := ho
        cases ho'
        clear ho
        obtain ⟨v72, e72, h72⟩ := has_slot (has_dep hd 55 (by kernel_rfl)) rfl rfl
        replace h72 : v72 = .bool true := h72
        subst h72
        obtain ⟨v74, e74, h74⟩ := has_slot (has_dep hd 57 (by kernel_rfl)) rfl rfl
        replace h74 : v74 = .int .i64 n := h74
        subst h74
        exact does_value (wanted_some (g := 55) rfl rfl rfl e72) (v := .bool (decide (0 < n))) (by rw [run_bin .gtr 3 (.tmp 74) (.const (.int .i64 0)) 3 rfl, e74, evalc]; simp [go_sem]) rfl
      | 59, ho =>
        have ho' : some _ = some o := ho
        cases ho'
        clear ho
        obtain ⟨v72, e72, h72⟩ := has_slot (has_dep hd 55 (by kernel_rfl)) rfl rfl
        replace h72 : v72 = .bool true := h72
        subst h72
        obtain ⟨v73, e73, h73⟩ := has_slot (has_dep hd 56 (by kernel_rfl)) rfl rfl
        replace h73 : v73 = .slice A0 b.length c0 := h73
        subst h73
        obtain ⟨v75, e75, h75⟩ := has_slot (has_dep hd 58 (by kernel_rfl)) rfl rfl
        replace h75 : v75 = .bool (decide (0 < n)) := h75
        subst h75
        exact does_enter (wanted_some (g := 55) rfl rfl rfl e72) (f := 30) (args := #[.slice A0 b.length c0, .bool (decide (0 < n))]) (by rw [run_go 30 _ _ rfl, ent30]; simp [evalc, e73, e75]) ((Q6.out _ (HB.out.carry ht (by simp))).mono fun e w2 hf => by obtain ⟨u, q1, q2, q3⟩ := hf; exact ⟨u, q1, Bts.own q2, q3⟩)
      | 60, ho =>
        have ho' : some _ = some o := ho
        cases ho'
        clear ho
        obtain ⟨v72, e72, h72⟩ := has_slot (has_dep hd 55 (by kernel_rfl)) rfl rfl
        replace h72 : v72 = .bool true := h72
        subst h72
        obtain ⟨v76, e76, h76⟩ := has_slot (has_dep hd 59 (by kernel_rfl)) rfl rfl
        replace h76 : Bts w v76 z6 := h76
        have hcv := str_of h76
        exact does_value (wanted_some (g := 55) rfl rfl rfl e72) (v := .string (S z6)) (run_conv (x := .tmp 76) rfl (by rw [e76]; exact hcv)) rfl
      | 61, ho =>
        have ho' : some _ = some o := ho
        cases ho'
        clear ho
        obtain ⟨v72, e72, h72⟩ := has_slot (has_dep hd 55 (by kernel_rfl)) rfl rfl
        replace h72 : v72 = .bool true := h72
        subst h72
        have e7 := known_slot hk 7 (by kernel_rfl) (v := .string (S b)) rfl
        exact does_value (wanted_some (g := 55) rfl rfl rfl e72) (by rw [BigFrame.run_move (.tmp 7) rfl, e7]) rfl
      | 62, ho =>
        have ho' : some _ = some o := ho
        cases ho'
        clear ho
        obtain ⟨v72, e72, h72⟩ := has_slot (has_dep hd 55 (by kernel_rfl)) rfl rfl
        replace h72 : v72 = .bool true := h72
        subst h72
        have e1 := known_slot hk 1 (by kernel_rfl) (v := .int .i64 n) rfl
        exact does_value (wanted_some (g := 55) rfl rfl rfl e72) (by rw [BigFrame.run_move (.tmp 1) rfl, e1]) rfl
      | 63, ho =>
        have ho' : some _ = some o := ho
        cases ho'
        clear ho
        obtain ⟨v72, e72, h72⟩ := has_slot (has_dep hd 55 (by kernel_rfl)) rfl rfl
        replace h72 : v72 = .bool true := h72
        subst h72
        obtain ⟨v79, e79, h79⟩ := has_slot (has_dep hd 62 (by kernel_rfl)) rfl rfl
        replace h79 : v79 = .int .i64 n := h79
        subst h79
        exact does_value (wanted_some (g := 55) rfl rfl rfl e72) (v := .bool (decide (0 < n))) (by rw [run_bin .gtr 3 (.tmp 79) (.const (.int .i64 0)) 3 rfl, e79, evalc]; simp [go_sem]) rfl
      | 64, ho =>
        have ho' : some _ = some o := ho
        cases ho'
        clear ho
        obtain ⟨v72, e72, h72⟩ := has_slot (has_dep hd 55 (by kernel_rfl)) rfl rfl
        replace h72 : v72 = .bool true := h72
        subst h72
        obtain ⟨v80, e80, h80⟩ := has_slot (has_dep hd 63 (by kernel_rfl)) rfl rfl
        replace h80 : v80 = .bool (decide (0 < n)) := h80
        subst h80
        exact does_enter (wanted_some (g := 55) rfl rfl rfl e72) (f := 31) (args := #[.bool (decide (0 < n))]) (by rw [run_go 31 _ _ rfl, ent31]; simp [evalc, e80]) ((R6.out _).mono fun e w2 ⟨q1, q2⟩ => ⟨_, q1, rfl, by rw [q2]; exact Touch.refl _ _⟩)
      | 65, ho =>
        have ho' : some _ = some o := ho
        cases ho'
        clear ho
        obtain ⟨v72, e72, h72⟩ := has_slot (has_dep hd 55 (by kernel_rfl)) rfl rfl
        replace h72 : v72 = .bool true := h72
        subst h72
        obtain ⟨v78, e78, h78⟩ := has_slot (has_dep hd 61 (by kernel_rfl)) rfl rfl
        replace h78 : v78 = .string (S b) := h78
        subst h78
        obtain ⟨v81, e81, h81⟩ := has_slot (has_dep hd 64 (by kernel_rfl)) rfl rfl
        replace h81 : v81 = .string (S y6) := h81
        subst h81
        exact does_value (wanted_some (g := 55) rfl rfl rfl e72) (v := .string (S z6)) (by rw [run_bin .add 9 (.tmp 78) (.tmp 81) 9 rfl, e78, e81]; simp [go_sem, a6]) rfl
      | 66, ho =>
        have ho' : some _ = some o := ho
        cases ho'
        clear ho
        obtain ⟨v72, e72, h72⟩ := has_slot (has_dep hd 55 (by kernel_rfl)) rfl rfl
        replace h72 : v72 = .bool true := h72
        subst h72
        obtain ⟨v77, e77, h77⟩ := has_slot (has_dep hd 60 (by kernel_rfl)) rfl rfl
        replace h77 : v77 = .string (S z6) := h77
        subst h77
        obtain ⟨v82, e82, h82⟩ := has_slot (has_dep hd 65 (by kernel_rfl)) rfl rfl
        replace h82 : v82 = .string (S z6) := h82
        subst h82
        exact does_value (wanted_some (g := 55) rfl rfl rfl e72) (v := .bool true) (by rw [run_bin .eql 9 (.tmp 77) (.tmp 82) 9 rfl, e77, e82]; simp [go_sem]) rfl
      | 67, ho =>
        have ho' : some _ = some o := ho
        cases ho'
        clear ho
        obtain ⟨v72, e72, h72⟩ := has_slot (has_dep hd 55 (by kernel_rfl)) rfl rfl
        replace h72 : v72 = .bool true := h72
        subst h72
        obtain ⟨v83, e83, h83⟩ := has_slot (has_dep hd 66 (by kernel_rfl)) rfl rfl
        replace h83 : v83 = .bool true := h83
        subst h83
        exact does_value (wanted_none rfl) (v := .bool true) (by rw [run_pick (c := .tmp 72) (x := .tmp 83) rfl e72, e83]) rfl
      | 68, ho =>
        have ho' : some _ = some o := ho
        cases ho'
        clear ho
        obtain ⟨v84, e84, h84⟩ := has_slot (has_dep hd 67 (by kernel_rfl)) rfl rfl
        replace h84 : v84 = .bool true := h84
        subst h84
        exact does_value (wanted_none rfl) (by rw [BigFrame.run_move (.tmp 84) rfl, e84]) rfl
      | 69, ho =>
        have ho' : some _ = some o := ho
        cases ho'
        clear ho
        obtain ⟨v85, e85, h85⟩ := has_slot (has_dep hd 68 (by kernel_rfl)) rfl rfl
        replace h85 : v85 = .bool true := h85
        subst h85
        have e0 := known_slot hk 0 (by kernel_rfl) (v := .slice A0 b.length c0) rfl
        exact does_value (wanted_some (g := 68) rfl rfl rfl e85) (by rw [BigFrame.run_move (.tmp 0) rfl, e0]) rfl
      | 70, ho =>
        have ho' : some _ = some o := ho
        cases ho'
        clear ho
        obtain ⟨v85, e85, h85⟩ := has_slot (has_dep hd 68 (by kernel_rfl)) rfl rfl
        replace h85 : v85 = .bool true := h85
        subst h85
        obtain ⟨v86, e86, h86⟩ := has_slot (has_dep hd 69 (by kernel_rfl)) rfl rfl
        replace h86 : v86 = .slice A0 b.length c0 := h86
        subst h86
        have hcv := str_of (HB.out.carry ht (by simp))
        exact does_value (wanted_some (g := 68) rfl rfl rfl e85) (v := .string (S b)) (run_conv (x := .tmp 86) rfl (by rw [e86]; exact hcv)) rfl
      | 71, ho =>
        have ho' : some _ = some o := ho
        cases ho'
        clear ho
        obtain ⟨v85, e85, h85⟩ := has_slot (has_dep hd 68 (by kernel_rfl)) rfl rfl
        replace h85 : v85 = .bool true := h85
        subst h85
        have e7 := known_slot hk 7 (by kernel_rfl) (v := .string (S b)) rfl
        exact does_value (wanted_some (g := 68) rfl rfl rfl e85) (by rw [BigFrame.run_move (.tmp 7) rfl, e7]) rfl
      | 72, ho =>
        have ho' : some _ = some o := ho
        cases ho'
        clear ho
        obtain ⟨v85, e85, h85⟩ := has_slot (has_dep hd 68 (by kernel_rfl)) rfl rfl
        replace h85 : v85 = .bool true := h85
        subst h85
        obtain ⟨v87, e87, h87⟩ := has_slot (has_dep hd 70 (by kernel_rfl)) rfl rfl
        replace h87 : v87 = .string (S b) := h87
        subst h87
        obtain ⟨v88, e88, h88⟩ := has_slot (has_dep hd 71 (by kernel_rfl)) rfl rfl
        replace h88 : v88 = .string (S b) := h88
        subst h88
        exact does_value (wanted_some (g := 68) rfl rfl rfl e85) (v := .bool true) (by rw [run_bin .eql 9 (.tmp 87) (.tmp 88) 9 rfl, e87, e88]; simp [go_sem]) rfl
      | 73, ho =>
        have ho' : some _ = some o := ho
        cases ho'
        clear ho
        obtain ⟨v85, e85, h85⟩ := has_slot (has_dep hd 68 (by kernel_rfl)) rfl rfl
        replace h85 : v85 = .bool true := h85
        subst h85
        obtain ⟨v89, e89, h89⟩ := has_slot (has_dep hd 72 (by kernel_rfl)) rfl rfl
        replace h89 : v89 = .bool true := h89
        subst h89
        exact does_value (wanted_none rfl) (v := .bool true) (by rw [run_pick (c := .tmp 85) (x := .tmp 89) rfl e85, e89]) rfl
      | 74, ho =>
        have ho' : some _ = some o := ho
        cases ho'
        clear ho
        obtain ⟨v90, e90, h90⟩ := has_slot (has_dep hd 73 (by kernel_rfl)) rfl rfl
        replace h90 : v90 = .bool true := h90
        subst h90
        exact does_value (wanted_none rfl) (by rw [BigFrame.run_move (.tmp 90) rfl, e90]) rfl
      | 75, ho =>
        have ho' : some _ = some o := ho
        cases ho'
        clear ho
        obtain ⟨v91, e91, h91⟩ := has_slot (has_dep hd 74 (by kernel_rfl)) rfl rfl
        replace h91 : v91 = .bool true := h91
        subst h91
        exact does_enter (wanted_some (g := 74) rfl rfl rfl e91) (f := 14) (args := #[]) (by rw [run_go 14 _ _ rfl, ent14]; simp [evalc]) ((LV.out _).mono fun e w2 ⟨q1, q2⟩ => ⟨_, q1, rfl, q2⟩)
      | 76, ho =>
        have ho' : some _ = some o := ho
        cases ho'
        clear ho
        obtain ⟨v91, e91, h91⟩ := has_slot (has_dep hd 74 (by kernel_rfl)) rfl rfl
        replace h91 : v91 = .bool true := h91
        subst h91
        obtain ⟨v92, e92, h92⟩ := has_slot (has_dep hd 75 (by kernel_rfl)) rfl rfl
        replace h92 : v92 = .bool true := h92
        subst h92
        exact does_value (wanted_none rfl) (v := .bool true) (by rw [run_pick (c := .tmp 91) (x := .tmp 92) rfl e91, e92]) rfl
      | 77, ho =>
        have ho' : some _ = some o := ho
        cases ho'
        clear ho
        obtain ⟨v93, e93, h93⟩ := has_slot (has_dep hd 76 (by kernel_rfl)) rfl rfl
        replace h93 : v93 = .bool true := h93
        subst h93
        exact does_value (wanted_none rfl) (by rw [BigFrame.run_assign (.tmp 93) rfl, e93]) rfl
      | q + 78, ho => exact absurd ho (by simp)
    · intro a w2 ht hk hd
      rename_i Qx Kx hx'
      refine hx' a w2 ?_
      obtain ⟨v, ev, hv⟩ := has_slot (hd 77 (by decide)) rfl rfl
      replace hv : v = .bool true := hv
      subst hv
      have ev' : a.tmps.getD 6 undef = .bool true := ev
      have ev2 : a.tmps[6]?.getD undef = .bool true := by simpa using ev'
      have hdf : a.defers = [] := hk.1
      refine wp_ret ?_
      refine bodyPost_ret (v := .bool true) ?_ hdf ?_
      · rw [results_tmp (t := 6) rfl, ev']
      · exact ⟨rfl, ht.below (by simp) (Nat.le_refl _)⟩

set_option maxRecDepth 100000 in
theorem octetsWrites_calls : LawCalls Try.prog 4 Try.f4 := by
  intro H enc W base args ds p hval hA hlt
  rw [Try.params4] at hA hval
  obtain ⟨v0, vs0, d0, ds0, p0, q0, hargs, rfl, rfl, h0, r0⟩ := trodAll_cons hA
  obtain ⟨v1, vs1, d1, ds1, p1, q1, rfl, rfl, rfl, h1, r1⟩ := trodAll_cons r0
  obtain ⟨v2, vs2, d2, ds2, p2, q2, rfl, rfl, rfl, h2, r2⟩ := trodAll_cons r1
  obtain ⟨rfl, rfl, rfl⟩ := trodAll_nil r2
  obtain rfl : args = #[v0, v1, v2] := by cases args; simp_all
  obtain ⟨n, rfl, rfl, rfl, wn⟩ := open_int Try.underlying3 (hval 1 3 v1 rfl rfl) h1
  obtain ⟨x, rfl, rfl, rfl, wx⟩ := open_int Try.underlying30 (hval 2 30 v2 rfl rfl) h2
  obtain ⟨l, hb⟩ := bts_in (hval 0 43 v0 rfl rfl) h0
  have hx := u64_in wx
  obtain ⟨m, rfl⟩ : ∃ m : Nat, x = m := ⟨x.toNat, by omega⟩
  exact octetsWrites_walk v0 l n (i64_in wn) m (by omega) W hb
set_option maxRecDepth 100000 in
theorem octetsWrites_lifted (os : Os) (started : os.Started) (H : Type) (enc : TypeId × Value → H) :
    ReturnsInHanded {} Try.checked os 4 .any (Rows.octetsWritesSpec.pre6 enc Try.prog Try.f4 Rows.octetsWritesRow.domain false) (Rows.octetsWritesSpec.post enc Try.prog Try.f4 false true false false) := by
  refine returnsInHanded_of_change (C := Try.checked) own started (by kernel_rfl) Try.func4
    (ChangeSpec.witness6 (enc := enc) (C := Try.checked) false ⟨#[], #[.slice none 0 0, .int .i64 0, .int .u64 0], []⟩ 8 (by kernel_rfl) (by kernel_rfl) (by kernel_rfl) (by kernel_rfl)) ?_
  intro W base args ds gs before hval hW _ _
  exact law_contract laidOut (by kernel_rfl) rfl rfl boolType (fun ds h => by match ds, h with | [_, _, _], _ => rfl) octetsWrites_calls W base args ds gs before hval hW

theorem octetsWrites_holds : Rows.OctetsWritesSaid :=
  OpenClaim.holds_of_wide 4 Try.f4 rfl rfl rfl rfl rfl rfl rfl ⟨rfl, rfl, rfl, rfl, rfl⟩ rfl rfl rfl rfl rfl (by kernel_rfl) Try.func4 (by kernel_rfl)
    (of_decide_eq_true (by kernel_rfl)) (by unfold Func.isWrapper; first | (rw [if_pos (by decide +kernel)]; kernel_rfl) | (rw [if_neg (by decide +kernel)]; exact ⟨rfl, rfl⟩))
    (fun os started H enc _ => octetsWrites_lifted os started H enc)
#print axioms octetsWrites_holds
end Go.Proofs.Ytfeeaokeomcafaa
