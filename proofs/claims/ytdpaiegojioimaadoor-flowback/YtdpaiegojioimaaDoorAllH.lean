/-
  The contracts on which the law's proof rests, bound together in build order: FlowBackLaw.
-/
import Derived.Test.YtdpaiegojioimaaDoorAllF
import Derived.Test.YtdpaiegojioimaaDoorAllG
import Derived.Deep.CutBlock
/-
  FlowBack: for any three keys and every size the law on flow's Less, Make and Of returns true, where ipv6.known holds what its initialiser lays. No other conditions.
-/
namespace Go.Proofs.YtdpaiegojioimaaDoor
open Go.ChangeShapes Go.WideShapes Go.ChangeAt Go.RowKit Go.Deep Go.Joins
set_option linter.unusedVariables false
set_option linter.unusedSimpArgs false

theorem three (w2 : World) (X Y Z : Array Value) : BoxV ((((w2.alloc (.cells X 41)).alloc (.cells Y 41)).alloc (.cells Z 41)).drew) w2.heap.size 41 X ∧ BoxV ((((w2.alloc (.cells X 41)).alloc (.cells Y 41)).alloc (.cells Z 41)).drew) (w2.heap.size + 1) 41 Y ∧
    BoxV ((((w2.alloc (.cells X 41)).alloc (.cells Y 41)).alloc (.cells Z 41)).drew) (w2.heap.size + 1 + 1) 41 Z ∧ Touch [] w2 ((((w2.alloc (.cells X 41)).alloc (.cells Y 41)).alloc (.cells Z 41)).drew) :=
  ⟨BoxV.of3, BoxV.at1of3, BoxV.at2, ((((Touch.refl [] w2).alloc _).alloc _).alloc _).drew⟩
theorem key_eq_run (a b : Ky) (v : Bool) (h : eqK a b = v) (w : World) : (binOp .eql 41 (.agg #[.int .i64 a.ver, .int .u64 (a.sh : Int), .int .u64 (a.sl : Int), .int .u64 (a.dh : Int), .int .u64 (a.dl : Int), .int .i64 a.proto, .int .i64 a.sp, .int .i64 a.dp]) (.agg #[.int .i64 b.ver, .int .u64 (b.sh : Int), .int .u64 (b.sl : Int), .int .u64 (b.dh : Int), .int .u64 (b.dl : Int), .int .i64 b.proto, .int .i64 b.sp, .int .i64 b.dp])).run Tryd.prog w = .ok (.bool v) w := by rw [key_eq, h]
theorem ent25 (args : Array Value) (w : World) : (callFunc 25 args).run Tryd.prog w = .ok (.enter 25 args) w := by
  simp [callFunc, Tryd.func25]
  rfl

set_option maxRecDepth 100000 in
set_option maxHeartbeats 16000000 in
theorem flowBack_walk (a b c : Ky) (oka : a.Ok) (sz : Int) (hsz : -9223372036854775808 ≤ sz ∧ sz ≤ 9223372036854775807) {w : World} (K : Tab6 w) :
    Calls Tryd.prog 8 #[.agg #[.int .i64 a.ver, .int .u64 (a.sh : Int), .int .u64 (a.sl : Int), .int .u64 (a.dh : Int), .int .u64 (a.dl : Int), .int .i64 a.proto, .int .i64 a.sp, .int .i64 a.dp, .int .i64 b.ver, .int .u64 (b.sh : Int), .int .u64 (b.sl : Int), .int .u64 (b.dh : Int), .int .u64 (b.dl : Int), .int .i64 b.proto, .int .i64 b.sp, .int .i64 b.dp, .int .i64 c.ver, .int .u64 (c.sh : Int), .int .u64 (c.sl : Int), .int .u64 (c.dh : Int), .int .u64 (c.dl : Int), .int .i64 c.proto, .int .i64 c.sp, .int .i64 c.dp], .int .i64 sz] w fun e w' => e = .returned (.bool true) ∧ Below w.heap.size w w' := by
  have B0 := BoxV.new w 52 #[.int .i64 a.ver, .int .u64 (a.sh : Int), .int .u64 (a.sl : Int), .int .u64 (a.dh : Int), .int .u64 (a.dl : Int), .int .i64 a.proto, .int .i64 a.sp, .int .i64 a.dp, .int .i64 b.ver, .int .u64 (b.sh : Int), .int .u64 (b.sl : Int), .int .u64 (b.dh : Int), .int .u64 (b.dl : Int), .int .i64 b.proto, .int .i64 b.sp, .int .i64 b.dp, .int .i64 c.ver, .int .u64 (c.sh : Int), .int .u64 (c.sl : Int), .int .u64 (c.dh : Int), .int .u64 (c.dl : Int), .int .i64 c.proto, .int .i64 c.sp, .int .i64 c.dp]
  have T0 := Lib.hid ((Touch.refl [] w).alloc (.cells #[.int .i64 a.ver, .int .u64 (a.sh : Int), .int .u64 (a.sl : Int), .int .u64 (a.dh : Int), .int .u64 (a.dl : Int), .int .i64 a.proto, .int .i64 a.sp, .int .i64 a.dp, .int .i64 b.ver, .int .u64 (b.sh : Int), .int .u64 (b.sl : Int), .int .u64 (b.dh : Int), .int .u64 (b.dl : Int), .int .i64 b.proto, .int .i64 b.sp, .int .i64 b.dp, .int .i64 c.ver, .int .u64 (c.sh : Int), .int .u64 (c.sl : Int), .int .u64 (c.dh : Int), .int .u64 (c.dl : Int), .int .i64 c.proto, .int .i64 c.sp, .int .i64 c.dp] 52))
  have HK := Lib.hid (K.carry T0.out (by simp))
  have Lab := Lib.hid (fun w => less14 a b w)
  have Lbc := Lib.hid (fun w => less14 b c w)
  have Lac := Lib.hid (fun w => less14 a c w)
  have Lba := Lib.hid (fun w => less14 b a w)
  have MK := Lib.hid (fun w (K : Tab6 w) => make14 a oka sz hsz K)
  have RI := Lib.hid (fun w (K : Tab6 w) => right14 a K)
  have LE := Lib.hid (fun w (K : Tab6 w) => leastAny14 a K)
  have LV := Lib.hid (fun w (K : Tab6 w) => flowLives K)
  have htr := @less_trans a b c
  have has := @less_asymm a b
  have heq := less_eq a b
  have mb := make_back a oka sz
  have OF := Lib.hid (fun w (K : Tab6 w) (h : (makeK a sz).length ≤ 100000) => of14 (makeK a sz) h K)
  have hbad : (rightK a = true → leastK a ≤ sz → ¬ sz ≤ 2048) → makeK a sz = [] := fun h => by unfold makeK; rw [if_neg (fun h' => h h'.1 h'.2.1 h'.2.2)]
  unfold Ky.cells at *
  generalize lessK a b = lab at *
  generalize lessK b c = lbc at *
  generalize lessK a c = lac at *
  generalize lessK b a = lba at *
  clear K
  go_enter Tryd.func8, Tryd.ntmps8
  go_upto_region 1 with fail
  generalize hw2 : w.alloc _ = w2 at *
  clear hw2
  have c0 := B0.cell 0
  have c1 := B0.cell 1
  have c2 := B0.cell 2
  have c3 := B0.cell 3
  have c4 := B0.cell 4
  have c5 := B0.cell 5
  have c6 := B0.cell 6
  have c7 := B0.cell 7
  have c8 := B0.cell 8
  have c9 := B0.cell 9
  have c10 := B0.cell 10
  have c11 := B0.cell 11
  have c12 := B0.cell 12
  have c13 := B0.cell 13
  have c14 := B0.cell 14
  have c15 := B0.cell 15
  have c16 := B0.cell 16
  have c17 := B0.cell 17
  have c18 := B0.cell 18
  have c19 := B0.cell 19
  have c20 := B0.cell 20
  have c21 := B0.cell 21
  have c22 := B0.cell 22
  have c23 := B0.cell 23
  simp only [List.getElem?_toArray, List.getElem?_cons_zero, List.getElem?_cons_succ] at c0 c1 c2 c3 c4 c5 c6 c7 c8 c9 c10 c11 c12 c13 c14 c15 c16 c17 c18 c19 c20 c21 c22 c23
  have l0 := B0.lt
  clear B0
  have n0 : w.heap.size ≠ w2.heap.size := by omega
  have n1 : w.heap.size ≠ w2.heap.size + 1 := by omega
  have n2 : w.heap.size ≠ w2.heap.size + 2 := by omega
  have m1 : w.heap.size < w2.heap.size + 1 := by omega
  have m2 : w.heap.size < w2.heap.size + 1 + 1 := by omega
  have m3 : w.heap.size < w2.heap.size + 2 := by omega
  go_cut [5, 6, 7] (fun s5 s6 s7 wx => ∃ p q r, s5 = .pointer (some ⟨p, 0, none⟩) ∧ s6 = .pointer (some ⟨q, 0, none⟩) ∧ s7 = .pointer (some ⟨r, 0, none⟩) ∧ BoxV wx p 41 #[.int .i64 a.ver, .int .u64 (a.sh : Int), .int .u64 (a.sl : Int), .int .u64 (a.dh : Int), .int .u64 (a.dl : Int), .int .i64 a.proto, .int .i64 a.sp, .int .i64 a.dp] ∧ BoxV wx q 41 #[.int .i64 b.ver, .int .u64 (b.sh : Int), .int .u64 (b.sl : Int), .int .u64 (b.dh : Int), .int .u64 (b.dl : Int), .int .i64 b.proto, .int .i64 b.sp, .int .i64 b.dp] ∧ BoxV wx r 41 #[.int .i64 c.ver, .int .u64 (c.sh : Int), .int .u64 (c.sl : Int), .int .u64 (c.dh : Int), .int .u64 (c.dl : Int), .int .i64 c.proto, .int .i64 c.sp, .int .i64 c.dp] ∧ Touch [] w2 wx)
  case first =>
    go_region
    all_goals
      go_wp2_with fail
      go_meet
      refine ⟨_, _, _, rfl, rfl, rfl, ?_, ?_, ?_, ?_⟩
      all_goals first | exact (three w2 _ _ _).1 | exact (three w2 _ _ _).2.1 | exact (three w2 _ _ _).2.2.1 | exact (three w2 _ _ _).2.2.2
  case rest =>
    clear n0 n1 n2 m1 m2 m3 l0 c0 c1 c2 c3 c4 c5 c6 c7 c8 c9 c10 c11 c12 c13 c14 c15 c16 c17 c18 c19 c20 c21 c22 c23
    obtain ⟨p, q, r, rfl, rfl, rfl, hP, hQ, hR, hT⟩ := hcut
    have HP := Lib.hid hP
    have HQ := Lib.hid hQ
    have HR := Lib.hid hR
    have HT := Lib.hid hT
    clear hP hQ hR hT
    go_upto_region 2 with fail
    go_cut [54] (fun s54 wx => s54 = .bool false ∧ Touch [] w2 wx ∧ BoxV wx p 41 #[.int .i64 a.ver, .int .u64 (a.sh : Int), .int .u64 (a.sl : Int), .int .u64 (a.dh : Int), .int .u64 (a.dl : Int), .int .i64 a.proto, .int .i64 a.sp, .int .i64 a.dp])
    case first =>
      have ways : (lab = true ∧ lbc = false ∧ lba = false ∧ eqK a b = false) ∨ (lab = true ∧ lbc = true ∧ lac = true ∧ lba = false ∧ eqK a b = false) ∨ (lab = false ∧ lba = true ∧ eqK a b = false) ∨ (lab = false ∧ lba = false ∧ eqK a b = true) := by
        rw [heq]
        cases lab
        · cases lba
          · right; right; right; exact ⟨rfl, rfl, rfl⟩
          · right; right; left; exact ⟨rfl, rfl, rfl⟩
        · have h := has rfl
          subst h
          cases lbc
          · left; exact ⟨rfl, rfl, rfl, rfl⟩
          · right; left; exact ⟨rfl, rfl, htr rfl rfl, rfl, rfl⟩
      clear htr has heq mb MK RI LE LV OF hbad
      rcases ways with ⟨rfl, rfl, rfl, he⟩ | ⟨rfl, rfl, rfl, rfl, he⟩ | ⟨rfl, rfl, he⟩ | ⟨rfl, rfl, he⟩
      · have HEQ := Lib.hid he
        clear he
        refine wp_region_leaves (wd := wc) (Leaf.const (.agg #[.int .i64 a.ver, .int .u64 (a.sh : Int), .int .u64 (a.sl : Int), .int .u64 (a.dh : Int), .int .u64 (a.dl : Int), .int .i64 a.proto, .int .i64 a.sp, .int .i64 a.dp]) :: Leaf.const (.agg #[.int .i64 b.ver, .int .u64 (b.sh : Int), .int .u64 (b.sl : Int), .int .u64 (b.dh : Int), .int .u64 (b.dl : Int), .int .i64 b.proto, .int .i64 b.sp, .int .i64 b.dp]) :: Leaf.const (.bool true) :: Leaf.const ((.bool true)) :: Leaf.const (.agg #[.int .i64 b.ver, .int .u64 (b.sh : Int), .int .u64 (b.sl : Int), .int .u64 (b.dh : Int), .int .u64 (b.dl : Int), .int .i64 b.proto, .int .i64 b.sp, .int .i64 b.dp]) :: Leaf.const (.agg #[.int .i64 c.ver, .int .u64 (c.sh : Int), .int .u64 (c.sl : Int), .int .u64 (c.dh : Int), .int .u64 (c.dl : Int), .int .i64 c.proto, .int .i64 c.sp, .int .i64 c.dp]) :: Leaf.const (.bool false) :: Leaf.const ((.bool false)) :: Leaf.const ((.bool false)) :: Leaf.const (undef) :: Leaf.const (undef) :: Leaf.const (undef) :: Leaf.const (undef) :: Leaf.const (.bool false) :: Leaf.const ((.bool false)) :: Leaf.const (.agg #[.int .i64 a.ver, .int .u64 (a.sh : Int), .int .u64 (a.sl : Int), .int .u64 (a.dh : Int), .int .u64 (a.dl : Int), .int .i64 a.proto, .int .i64 a.sp, .int .i64 a.dp]) :: Leaf.const (.agg #[.int .i64 b.ver, .int .u64 (b.sh : Int), .int .u64 (b.sl : Int), .int .u64 (b.dh : Int), .int .u64 (b.dl : Int), .int .i64 b.proto, .int .i64 b.sp, .int .i64 b.dp]) :: Leaf.const (.bool true) :: Leaf.const ((.bool true)) :: Leaf.const (.agg #[.int .i64 b.ver, .int .u64 (b.sh : Int), .int .u64 (b.sl : Int), .int .u64 (b.dh : Int), .int .u64 (b.dl : Int), .int .i64 b.proto, .int .i64 b.sp, .int .i64 b.dp]) :: Leaf.const (.agg #[.int .i64 a.ver, .int .u64 (a.sh : Int), .int .u64 (a.sl : Int), .int .u64 (a.dh : Int), .int .u64 (a.dl : Int), .int .i64 a.proto, .int .i64 a.sp, .int .i64 a.dp]) :: Leaf.const (.bool false) :: Leaf.const ((.bool false)) :: Leaf.const ((.bool false)) :: Leaf.const ((.bool false)) :: Leaf.const (.agg #[.int .i64 a.ver, .int .u64 (a.sh : Int), .int .u64 (a.sl : Int), .int .u64 (a.dh : Int), .int .u64 (a.dl : Int), .int .i64 a.proto, .int .i64 a.sp, .int .i64 a.dp]) :: Leaf.const (.agg #[.int .i64 b.ver, .int .u64 (b.sh : Int), .int .u64 (b.sl : Int), .int .u64 (b.dh : Int), .int .u64 (b.dl : Int), .int .i64 b.proto, .int .i64 b.sp, .int .i64 b.dp]) :: Leaf.const (.bool false) :: Leaf.const (.agg #[.int .i64 a.ver, .int .u64 (a.sh : Int), .int .u64 (a.sl : Int), .int .u64 (a.dh : Int), .int .u64 (a.dl : Int), .int .i64 a.proto, .int .i64 a.sp, .int .i64 a.dp]) :: Leaf.const (.agg #[.int .i64 b.ver, .int .u64 (b.sh : Int), .int .u64 (b.sl : Int), .int .u64 (b.dh : Int), .int .u64 (b.dl : Int), .int .i64 b.proto, .int .i64 b.sp, .int .i64 b.dp]) :: Leaf.const (.bool true) :: Leaf.const ((.bool true)) :: Leaf.const (undef) :: Leaf.const (undef) :: Leaf.const (undef) :: Leaf.const (.bool true) :: Leaf.const (.bool false) :: Leaf.const ((.bool false)) :: []) (by kernel_rfl) (by kernel_rfl) (by kernel_rfl) ((Touch.refl _ _).drew) (trivial) ?_ ?_
        · intro i o ho ac w ht hk hd
          match i, ho with
          | 0, ho =>
            have ho' : some _ = some o := ho
            cases ho'
            clear ho
            have e5 := known_slot hk 5 (by kernel_rfl) (v := .pointer (some ⟨p, 0, none⟩)) rfl
            obtain ⟨c0, c1, c2, c3, c4, c5, c6, c7⟩ := (HP.out.carry ht (by simp)).key
            exact do_value (wanted_none rfl) (v := .agg #[.int .i64 a.ver, .int .u64 (a.sh : Int), .int .u64 (a.sl : Int), .int .u64 (a.dh : Int), .int .u64 (a.dl : Int), .int .i64 a.proto, .int .i64 a.sp, .int .i64 a.dp]) (run_value rfl (by rw [e5]; simp [go_sem, c0, c1, c2, c3, c4, c5, c6, c7])) rfl
          | 1, ho =>
            have ho' : some _ = some o := ho
            cases ho'
            clear ho
            have e6 := known_slot hk 6 (by kernel_rfl) (v := .pointer (some ⟨q, 0, none⟩)) rfl
            obtain ⟨c0, c1, c2, c3, c4, c5, c6, c7⟩ := (HQ.out.carry ht (by simp)).key
            exact do_value (wanted_none rfl) (v := .agg #[.int .i64 b.ver, .int .u64 (b.sh : Int), .int .u64 (b.sl : Int), .int .u64 (b.dh : Int), .int .u64 (b.dl : Int), .int .i64 b.proto, .int .i64 b.sp, .int .i64 b.dp]) (run_value rfl (by rw [e6]; simp [go_sem, c0, c1, c2, c3, c4, c5, c6, c7])) rfl
          | 2, ho =>
            have ho' : some _ = some o := ho
            cases ho'
            clear ho
            have e17 := has_const (has_dep hd 0 (by kernel_rfl)) rfl rfl rfl (c := (.agg #[.int .i64 a.ver, .int .u64 (a.sh : Int), .int .u64 (a.sl : Int), .int .u64 (a.dh : Int), .int .u64 (a.dl : Int), .int .i64 a.proto, .int .i64 a.sp, .int .i64 a.dp]))
            have e18 := has_const (has_dep hd 1 (by kernel_rfl)) rfl rfl rfl (c := (.agg #[.int .i64 b.ver, .int .u64 (b.sh : Int), .int .u64 (b.sl : Int), .int .u64 (b.dh : Int), .int .u64 (b.dl : Int), .int .i64 b.proto, .int .i64 b.sp, .int .i64 b.dp]))
            refine do_enter (wanted_none rfl) (f := 25) (args := #[(.agg #[.int .i64 a.ver, .int .u64 (a.sh : Int), .int .u64 (a.sl : Int), .int .u64 (a.dh : Int), .int .u64 (a.dl : Int), .int .i64 a.proto, .int .i64 a.sp, .int .i64 a.dp]), (.agg #[.int .i64 b.ver, .int .u64 (b.sh : Int), .int .u64 (b.sl : Int), .int .u64 (b.dh : Int), .int .u64 (b.dl : Int), .int .i64 b.proto, .int .i64 b.sp, .int .i64 b.dp])]) (by rw [run_go3 25 _ _ rfl, ent25]; simp [eval_c, e17, e18]) ?_
            exact Calls.leaf (Lab.out _)
          | 3, ho =>
            have ho' : some _ = some o := ho
            cases ho'
            clear ho
            have e19 := has_const (has_dep hd 2 (by kernel_rfl)) rfl rfl rfl (c := (.bool true))
            exact do_value (wanted_none rfl) (by rw [BigFrame.run_move (.tmp 19) rfl, e19]) rfl
          | 4, ho =>
            have ho' : some _ = some o := ho
            cases ho'
            clear ho
            have e20 := has_const (has_dep hd 3 (by kernel_rfl)) rfl rfl rfl (c := (.bool true))
            have e6 := known_slot hk 6 (by kernel_rfl) (v := .pointer (some ⟨q, 0, none⟩)) rfl
            obtain ⟨c0, c1, c2, c3, c4, c5, c6, c7⟩ := (HQ.out.carry ht (by simp)).key
            exact do_value (wanted_some (g := 3) rfl rfl rfl e20) (v := .agg #[.int .i64 b.ver, .int .u64 (b.sh : Int), .int .u64 (b.sl : Int), .int .u64 (b.dh : Int), .int .u64 (b.dl : Int), .int .i64 b.proto, .int .i64 b.sp, .int .i64 b.dp]) (run_value rfl (by rw [e6]; simp [go_sem, c0, c1, c2, c3, c4, c5, c6, c7])) rfl
          | 5, ho =>
            have ho' : some _ = some o := ho
            cases ho'
            clear ho
            have e20 := has_const (has_dep hd 3 (by kernel_rfl)) rfl rfl rfl (c := (.bool true))
            have e7 := known_slot hk 7 (by kernel_rfl) (v := .pointer (some ⟨r, 0, none⟩)) rfl
            obtain ⟨c0, c1, c2, c3, c4, c5, c6, c7⟩ := (HR.out.carry ht (by simp)).key
            exact do_value (wanted_some (g := 3) rfl rfl rfl e20) (v := .agg #[.int .i64 c.ver, .int .u64 (c.sh : Int), .int .u64 (c.sl : Int), .int .u64 (c.dh : Int), .int .u64 (c.dl : Int), .int .i64 c.proto, .int .i64 c.sp, .int .i64 c.dp]) (run_value rfl (by rw [e7]; simp [go_sem, c0, c1, c2, c3, c4, c5, c6, c7])) rfl
          | 6, ho =>
            have ho' : some _ = some o := ho
            cases ho'
            clear ho
            have e20 := has_const (has_dep hd 3 (by kernel_rfl)) rfl rfl rfl (c := (.bool true))
            have e21 := has_const (has_dep hd 4 (by kernel_rfl)) rfl rfl rfl (c := (.agg #[.int .i64 b.ver, .int .u64 (b.sh : Int), .int .u64 (b.sl : Int), .int .u64 (b.dh : Int), .int .u64 (b.dl : Int), .int .i64 b.proto, .int .i64 b.sp, .int .i64 b.dp]))
            have e22 := has_const (has_dep hd 5 (by kernel_rfl)) rfl rfl rfl (c := (.agg #[.int .i64 c.ver, .int .u64 (c.sh : Int), .int .u64 (c.sl : Int), .int .u64 (c.dh : Int), .int .u64 (c.dl : Int), .int .i64 c.proto, .int .i64 c.sp, .int .i64 c.dp]))
            refine do_enter (wanted_some (g := 3) rfl rfl rfl e20) (f := 25) (args := #[(.agg #[.int .i64 b.ver, .int .u64 (b.sh : Int), .int .u64 (b.sl : Int), .int .u64 (b.dh : Int), .int .u64 (b.dl : Int), .int .i64 b.proto, .int .i64 b.sp, .int .i64 b.dp]), (.agg #[.int .i64 c.ver, .int .u64 (c.sh : Int), .int .u64 (c.sl : Int), .int .u64 (c.dh : Int), .int .u64 (c.dl : Int), .int .i64 c.proto, .int .i64 c.sp, .int .i64 c.dp])]) (by rw [run_go3 25 _ _ rfl, ent25]; simp [eval_c, e21, e22]) ?_
            exact Calls.leaf (Lbc.out _)
          | 7, ho =>
            have ho' : some _ = some o := ho
            cases ho'
            clear ho
            have e20 := has_const (has_dep hd 3 (by kernel_rfl)) rfl rfl rfl (c := (.bool true))
            have e23 := has_const (has_dep hd 6 (by kernel_rfl)) rfl rfl rfl (c := (.bool false))
            exact do_value (wanted_none rfl) (by rw [run_pickT (c := .tmp 20) (x := .tmp 23) (y := .const (.bool false)) rfl e20, e23]) rfl
          | 8, ho =>
            have ho' : some _ = some o := ho
            cases ho'
            clear ho
            have e24 := has_const (has_dep hd 7 (by kernel_rfl)) rfl rfl rfl (c := (.bool false))
            exact do_value (wanted_none rfl) (by rw [BigFrame.run_move (.tmp 24) rfl, e24]) rfl
          | 9, ho =>
            have ho' : some _ = some o := ho
            cases ho'
            clear ho
            have e25 := has_const (has_dep hd 8 (by kernel_rfl)) rfl rfl rfl (c := (.bool false))
            exact do_skip (wanted_not (g := 8) rfl rfl rfl e25) rfl
          | 10, ho =>
            have ho' : some _ = some o := ho
            cases ho'
            clear ho
            have e25 := has_const (has_dep hd 8 (by kernel_rfl)) rfl rfl rfl (c := (.bool false))
            exact do_skip (wanted_not (g := 8) rfl rfl rfl e25) rfl
          | 11, ho =>
            have ho' : some _ = some o := ho
            cases ho'
            clear ho
            have e25 := has_const (has_dep hd 8 (by kernel_rfl)) rfl rfl rfl (c := (.bool false))
            exact do_skip (wanted_not (g := 8) rfl rfl rfl e25) rfl
          | 12, ho =>
            have ho' : some _ = some o := ho
            cases ho'
            clear ho
            have e25 := has_const (has_dep hd 8 (by kernel_rfl)) rfl rfl rfl (c := (.bool false))
            exact do_skip (wanted_not (g := 8) rfl rfl rfl e25) rfl
          | 13, ho =>
            have ho' : some _ = some o := ho
            cases ho'
            clear ho
            have e25 := has_const (has_dep hd 8 (by kernel_rfl)) rfl rfl rfl (c := (.bool false))
            exact do_value (wanted_none rfl) (by rw [run_pickF (c := .tmp 25) (x := .tmp 29) (y := .const (.bool false)) rfl e25, eval_c]) rfl
          | 14, ho =>
            have ho' : some _ = some o := ho
            cases ho'
            clear ho
            have e30 := has_const (has_dep hd 13 (by kernel_rfl)) rfl rfl rfl (c := (.bool false))
            exact do_value (wanted_none rfl) (by rw [BigFrame.run_move (.tmp 30) rfl, e30]) rfl
          | 15, ho =>
            have ho' : some _ = some o := ho
            cases ho'
            clear ho
            have e31 := has_const (has_dep hd 14 (by kernel_rfl)) rfl rfl rfl (c := (.bool false))
            have e5 := known_slot hk 5 (by kernel_rfl) (v := .pointer (some ⟨p, 0, none⟩)) rfl
            obtain ⟨c0, c1, c2, c3, c4, c5, c6, c7⟩ := (HP.out.carry ht (by simp)).key
            exact do_value (wanted_some (g := 14) rfl rfl rfl e31) (v := .agg #[.int .i64 a.ver, .int .u64 (a.sh : Int), .int .u64 (a.sl : Int), .int .u64 (a.dh : Int), .int .u64 (a.dl : Int), .int .i64 a.proto, .int .i64 a.sp, .int .i64 a.dp]) (run_value rfl (by rw [e5]; simp [go_sem, c0, c1, c2, c3, c4, c5, c6, c7])) rfl
          | 16, ho =>
            have ho' : some _ = some o := ho
            cases ho'
            clear ho
            have e31 := has_const (has_dep hd 14 (by kernel_rfl)) rfl rfl rfl (c := (.bool false))
            have e6 := known_slot hk 6 (by kernel_rfl) (v := .pointer (some ⟨q, 0, none⟩)) rfl
            obtain ⟨c0, c1, c2, c3, c4, c5, c6, c7⟩ := (HQ.out.carry ht (by simp)).key
            exact do_value (wanted_some (g := 14) rfl rfl rfl e31) (v := .agg #[.int .i64 b.ver, .int .u64 (b.sh : Int), .int .u64 (b.sl : Int), .int .u64 (b.dh : Int), .int .u64 (b.dl : Int), .int .i64 b.proto, .int .i64 b.sp, .int .i64 b.dp]) (run_value rfl (by rw [e6]; simp [go_sem, c0, c1, c2, c3, c4, c5, c6, c7])) rfl
          | 17, ho =>
            have ho' : some _ = some o := ho
            cases ho'
            clear ho
            have e31 := has_const (has_dep hd 14 (by kernel_rfl)) rfl rfl rfl (c := (.bool false))
            have e32 := has_const (has_dep hd 15 (by kernel_rfl)) rfl rfl rfl (c := (.agg #[.int .i64 a.ver, .int .u64 (a.sh : Int), .int .u64 (a.sl : Int), .int .u64 (a.dh : Int), .int .u64 (a.dl : Int), .int .i64 a.proto, .int .i64 a.sp, .int .i64 a.dp]))
            have e33 := has_const (has_dep hd 16 (by kernel_rfl)) rfl rfl rfl (c := (.agg #[.int .i64 b.ver, .int .u64 (b.sh : Int), .int .u64 (b.sl : Int), .int .u64 (b.dh : Int), .int .u64 (b.dl : Int), .int .i64 b.proto, .int .i64 b.sp, .int .i64 b.dp]))
            refine do_enter (wanted_some (g := 14) rfl rfl rfl e31) (f := 25) (args := #[(.agg #[.int .i64 a.ver, .int .u64 (a.sh : Int), .int .u64 (a.sl : Int), .int .u64 (a.dh : Int), .int .u64 (a.dl : Int), .int .i64 a.proto, .int .i64 a.sp, .int .i64 a.dp]), (.agg #[.int .i64 b.ver, .int .u64 (b.sh : Int), .int .u64 (b.sl : Int), .int .u64 (b.dh : Int), .int .u64 (b.dl : Int), .int .i64 b.proto, .int .i64 b.sp, .int .i64 b.dp])]) (by rw [run_go3 25 _ _ rfl, ent25]; simp [eval_c, e32, e33]) ?_
            exact Calls.leaf (Lab.out _)
          | 18, ho =>
            have ho' : some _ = some o := ho
            cases ho'
            clear ho
            have e31 := has_const (has_dep hd 14 (by kernel_rfl)) rfl rfl rfl (c := (.bool false))
            have e34 := has_const (has_dep hd 17 (by kernel_rfl)) rfl rfl rfl (c := (.bool true))
            exact do_value (wanted_some (g := 14) rfl rfl rfl e31) (by rw [BigFrame.run_move (.tmp 34) rfl, e34]) rfl
          | 19, ho =>
            have ho' : some _ = some o := ho
            cases ho'
            clear ho
            have e35 := has_const (has_dep hd 18 (by kernel_rfl)) rfl rfl rfl (c := (.bool true))
            have e6 := known_slot hk 6 (by kernel_rfl) (v := .pointer (some ⟨q, 0, none⟩)) rfl
            obtain ⟨c0, c1, c2, c3, c4, c5, c6, c7⟩ := (HQ.out.carry ht (by simp)).key
            exact do_value (wanted_some (g := 18) rfl rfl rfl e35) (v := .agg #[.int .i64 b.ver, .int .u64 (b.sh : Int), .int .u64 (b.sl : Int), .int .u64 (b.dh : Int), .int .u64 (b.dl : Int), .int .i64 b.proto, .int .i64 b.sp, .int .i64 b.dp]) (run_value rfl (by rw [e6]; simp [go_sem, c0, c1, c2, c3, c4, c5, c6, c7])) rfl
          | 20, ho =>
            have ho' : some _ = some o := ho
            cases ho'
            clear ho
            have e35 := has_const (has_dep hd 18 (by kernel_rfl)) rfl rfl rfl (c := (.bool true))
            have e5 := known_slot hk 5 (by kernel_rfl) (v := .pointer (some ⟨p, 0, none⟩)) rfl
            obtain ⟨c0, c1, c2, c3, c4, c5, c6, c7⟩ := (HP.out.carry ht (by simp)).key
            exact do_value (wanted_some (g := 18) rfl rfl rfl e35) (v := .agg #[.int .i64 a.ver, .int .u64 (a.sh : Int), .int .u64 (a.sl : Int), .int .u64 (a.dh : Int), .int .u64 (a.dl : Int), .int .i64 a.proto, .int .i64 a.sp, .int .i64 a.dp]) (run_value rfl (by rw [e5]; simp [go_sem, c0, c1, c2, c3, c4, c5, c6, c7])) rfl
          | 21, ho =>
            have ho' : some _ = some o := ho
            cases ho'
            clear ho
            have e35 := has_const (has_dep hd 18 (by kernel_rfl)) rfl rfl rfl (c := (.bool true))
            have e36 := has_const (has_dep hd 19 (by kernel_rfl)) rfl rfl rfl (c := (.agg #[.int .i64 b.ver, .int .u64 (b.sh : Int), .int .u64 (b.sl : Int), .int .u64 (b.dh : Int), .int .u64 (b.dl : Int), .int .i64 b.proto, .int .i64 b.sp, .int .i64 b.dp]))
            have e37 := has_const (has_dep hd 20 (by kernel_rfl)) rfl rfl rfl (c := (.agg #[.int .i64 a.ver, .int .u64 (a.sh : Int), .int .u64 (a.sl : Int), .int .u64 (a.dh : Int), .int .u64 (a.dl : Int), .int .i64 a.proto, .int .i64 a.sp, .int .i64 a.dp]))
            refine do_enter (wanted_some (g := 18) rfl rfl rfl e35) (f := 25) (args := #[(.agg #[.int .i64 b.ver, .int .u64 (b.sh : Int), .int .u64 (b.sl : Int), .int .u64 (b.dh : Int), .int .u64 (b.dl : Int), .int .i64 b.proto, .int .i64 b.sp, .int .i64 b.dp]), (.agg #[.int .i64 a.ver, .int .u64 (a.sh : Int), .int .u64 (a.sl : Int), .int .u64 (a.dh : Int), .int .u64 (a.dl : Int), .int .i64 a.proto, .int .i64 a.sp, .int .i64 a.dp])]) (by rw [run_go3 25 _ _ rfl, ent25]; simp [eval_c, e36, e37]) ?_
            exact Calls.leaf (Lba.out _)
          | 22, ho =>
            have ho' : some _ = some o := ho
            cases ho'
            clear ho
            have e31 := has_const (has_dep hd 14 (by kernel_rfl)) rfl rfl rfl (c := (.bool false))
            have e35 := has_const (has_dep hd 18 (by kernel_rfl)) rfl rfl rfl (c := (.bool true))
            have e38 := has_const (has_dep hd 21 (by kernel_rfl)) rfl rfl rfl (c := (.bool false))
            exact do_value (wanted_some (g := 14) rfl rfl rfl e31) (by rw [run_pickT (c := .tmp 35) (x := .tmp 38) (y := .const (.bool false)) rfl e35, e38]) rfl
          | 23, ho =>
            have ho' : some _ = some o := ho
            cases ho'
            clear ho
            have e31 := has_const (has_dep hd 14 (by kernel_rfl)) rfl rfl rfl (c := (.bool false))
            have e39 := has_const (has_dep hd 22 (by kernel_rfl)) rfl rfl rfl (c := (.bool false))
            exact do_value (wanted_none rfl) (by rw [run_pickF (c := .tmp 31) (x := .const (.bool true)) (y := .tmp 39) rfl e31, e39]) rfl
          | 24, ho =>
            have ho' : some _ = some o := ho
            cases ho'
            clear ho
            have e40 := has_const (has_dep hd 23 (by kernel_rfl)) rfl rfl rfl (c := (.bool false))
            exact do_value (wanted_none rfl) (by rw [BigFrame.run_move (.tmp 40) rfl, e40]) rfl
          | 25, ho =>
            have ho' : some _ = some o := ho
            cases ho'
            clear ho
            have e41 := has_const (has_dep hd 24 (by kernel_rfl)) rfl rfl rfl (c := (.bool false))
            have e5 := known_slot hk 5 (by kernel_rfl) (v := .pointer (some ⟨p, 0, none⟩)) rfl
            obtain ⟨c0, c1, c2, c3, c4, c5, c6, c7⟩ := (HP.out.carry ht (by simp)).key
            exact do_value (wanted_some (g := 24) rfl rfl rfl e41) (v := .agg #[.int .i64 a.ver, .int .u64 (a.sh : Int), .int .u64 (a.sl : Int), .int .u64 (a.dh : Int), .int .u64 (a.dl : Int), .int .i64 a.proto, .int .i64 a.sp, .int .i64 a.dp]) (run_value rfl (by rw [e5]; simp [go_sem, c0, c1, c2, c3, c4, c5, c6, c7])) rfl
          | 26, ho =>
            have ho' : some _ = some o := ho
            cases ho'
            clear ho
            have e41 := has_const (has_dep hd 24 (by kernel_rfl)) rfl rfl rfl (c := (.bool false))
            have e6 := known_slot hk 6 (by kernel_rfl) (v := .pointer (some ⟨q, 0, none⟩)) rfl
            obtain ⟨c0, c1, c2, c3, c4, c5, c6, c7⟩ := (HQ.out.carry ht (by simp)).key
            exact do_value (wanted_some (g := 24) rfl rfl rfl e41) (v := .agg #[.int .i64 b.ver, .int .u64 (b.sh : Int), .int .u64 (b.sl : Int), .int .u64 (b.dh : Int), .int .u64 (b.dl : Int), .int .i64 b.proto, .int .i64 b.sp, .int .i64 b.dp]) (run_value rfl (by rw [e6]; simp [go_sem, c0, c1, c2, c3, c4, c5, c6, c7])) rfl
          | 27, ho =>
            have ho' : some _ = some o := ho
            cases ho'
            clear ho
            have e41 := has_const (has_dep hd 24 (by kernel_rfl)) rfl rfl rfl (c := (.bool false))
            have e42 := has_const (has_dep hd 25 (by kernel_rfl)) rfl rfl rfl (c := (.agg #[.int .i64 a.ver, .int .u64 (a.sh : Int), .int .u64 (a.sl : Int), .int .u64 (a.dh : Int), .int .u64 (a.dl : Int), .int .i64 a.proto, .int .i64 a.sp, .int .i64 a.dp]))
            have e43 := has_const (has_dep hd 26 (by kernel_rfl)) rfl rfl rfl (c := (.agg #[.int .i64 b.ver, .int .u64 (b.sh : Int), .int .u64 (b.sl : Int), .int .u64 (b.dh : Int), .int .u64 (b.dl : Int), .int .i64 b.proto, .int .i64 b.sp, .int .i64 b.dp]))
            have hq := key_eq_run a b _ HEQ.out w
            exact do_value (wanted_some (g := 24) rfl rfl rfl e41) (v := .bool false) (run_value rfl (by rw [e42, e43]; simp [eqGuard]; exact hq)) rfl
          | 28, ho =>
            have ho' : some _ = some o := ho
            cases ho'
            clear ho
            have e41 := has_const (has_dep hd 24 (by kernel_rfl)) rfl rfl rfl (c := (.bool false))
            have e5 := known_slot hk 5 (by kernel_rfl) (v := .pointer (some ⟨p, 0, none⟩)) rfl
            obtain ⟨c0, c1, c2, c3, c4, c5, c6, c7⟩ := (HP.out.carry ht (by simp)).key
            exact do_value (wanted_some (g := 24) rfl rfl rfl e41) (v := .agg #[.int .i64 a.ver, .int .u64 (a.sh : Int), .int .u64 (a.sl : Int), .int .u64 (a.dh : Int), .int .u64 (a.dl : Int), .int .i64 a.proto, .int .i64 a.sp, .int .i64 a.dp]) (run_value rfl (by rw [e5]; simp [go_sem, c0, c1, c2, c3, c4, c5, c6, c7])) rfl
          | 29, ho =>
            have ho' : some _ = some o := ho
            cases ho'
            clear ho
            have e41 := has_const (has_dep hd 24 (by kernel_rfl)) rfl rfl rfl (c := (.bool false))
            have e6 := known_slot hk 6 (by kernel_rfl) (v := .pointer (some ⟨q, 0, none⟩)) rfl
            obtain ⟨c0, c1, c2, c3, c4, c5, c6, c7⟩ := (HQ.out.carry ht (by simp)).key
            exact do_value (wanted_some (g := 24) rfl rfl rfl e41) (v := .agg #[.int .i64 b.ver, .int .u64 (b.sh : Int), .int .u64 (b.sl : Int), .int .u64 (b.dh : Int), .int .u64 (b.dl : Int), .int .i64 b.proto, .int .i64 b.sp, .int .i64 b.dp]) (run_value rfl (by rw [e6]; simp [go_sem, c0, c1, c2, c3, c4, c5, c6, c7])) rfl
          | 30, ho =>
            have ho' : some _ = some o := ho
            cases ho'
            clear ho
            have e41 := has_const (has_dep hd 24 (by kernel_rfl)) rfl rfl rfl (c := (.bool false))
            have e45 := has_const (has_dep hd 28 (by kernel_rfl)) rfl rfl rfl (c := (.agg #[.int .i64 a.ver, .int .u64 (a.sh : Int), .int .u64 (a.sl : Int), .int .u64 (a.dh : Int), .int .u64 (a.dl : Int), .int .i64 a.proto, .int .i64 a.sp, .int .i64 a.dp]))
            have e46 := has_const (has_dep hd 29 (by kernel_rfl)) rfl rfl rfl (c := (.agg #[.int .i64 b.ver, .int .u64 (b.sh : Int), .int .u64 (b.sl : Int), .int .u64 (b.dh : Int), .int .u64 (b.dl : Int), .int .i64 b.proto, .int .i64 b.sp, .int .i64 b.dp]))
            refine do_enter (wanted_some (g := 24) rfl rfl rfl e41) (f := 25) (args := #[(.agg #[.int .i64 a.ver, .int .u64 (a.sh : Int), .int .u64 (a.sl : Int), .int .u64 (a.dh : Int), .int .u64 (a.dl : Int), .int .i64 a.proto, .int .i64 a.sp, .int .i64 a.dp]), (.agg #[.int .i64 b.ver, .int .u64 (b.sh : Int), .int .u64 (b.sl : Int), .int .u64 (b.dh : Int), .int .u64 (b.dl : Int), .int .i64 b.proto, .int .i64 b.sp, .int .i64 b.dp])]) (by rw [run_go3 25 _ _ rfl, ent25]; simp [eval_c, e45, e46]) ?_
            exact Calls.leaf (Lab.out _)
          | 31, ho =>
            have ho' : some _ = some o := ho
            cases ho'
            clear ho
            have e41 := has_const (has_dep hd 24 (by kernel_rfl)) rfl rfl rfl (c := (.bool false))
            have e47 := has_const (has_dep hd 30 (by kernel_rfl)) rfl rfl rfl (c := (.bool true))
            exact do_value (wanted_some (g := 24) rfl rfl rfl e41) (by rw [BigFrame.run_move (.tmp 47) rfl, e47]) rfl
          | 32, ho =>
            have ho' : some _ = some o := ho
            cases ho'
            clear ho
            have e48 := has_const (has_dep hd 31 (by kernel_rfl)) rfl rfl rfl (c := (.bool true))
            exact do_skip (wanted_not (g := 31) rfl rfl rfl e48) rfl
          | 33, ho =>
            have ho' : some _ = some o := ho
            cases ho'
            clear ho
            have e48 := has_const (has_dep hd 31 (by kernel_rfl)) rfl rfl rfl (c := (.bool true))
            exact do_skip (wanted_not (g := 31) rfl rfl rfl e48) rfl
          | 34, ho =>
            have ho' : some _ = some o := ho
            cases ho'
            clear ho
            have e48 := has_const (has_dep hd 31 (by kernel_rfl)) rfl rfl rfl (c := (.bool true))
            exact do_skip (wanted_not (g := 31) rfl rfl rfl e48) rfl
          | 35, ho =>
            have ho' : some _ = some o := ho
            cases ho'
            clear ho
            have e41 := has_const (has_dep hd 24 (by kernel_rfl)) rfl rfl rfl (c := (.bool false))
            have e48 := has_const (has_dep hd 31 (by kernel_rfl)) rfl rfl rfl (c := (.bool true))
            exact do_value (wanted_some (g := 24) rfl rfl rfl e41) (by rw [run_pickT (c := .tmp 48) (x := .const (.bool true)) (y := .tmp 51) rfl e48, eval_c]) rfl
          | 36, ho =>
            have ho' : some _ = some o := ho
            cases ho'
            clear ho
            have e41 := has_const (has_dep hd 24 (by kernel_rfl)) rfl rfl rfl (c := (.bool false))
            have e44 := has_const (has_dep hd 27 (by kernel_rfl)) rfl rfl rfl (c := (.bool false))
            have e52 := has_const (has_dep hd 35 (by kernel_rfl)) rfl rfl rfl (c := (.bool true))
            exact do_value (wanted_some (g := 24) rfl rfl rfl e41) (v := .bool false) (run_value rfl (by rw [e44, e52]; simp [go_sem])) rfl
          | 37, ho =>
            have ho' : some _ = some o := ho
            cases ho'
            clear ho
            have e41 := has_const (has_dep hd 24 (by kernel_rfl)) rfl rfl rfl (c := (.bool false))
            have e53 := has_const (has_dep hd 36 (by kernel_rfl)) rfl rfl rfl (c := (.bool false))
            exact do_value (wanted_none rfl) (by rw [run_pickF (c := .tmp 41) (x := .const (.bool true)) (y := .tmp 53) rfl e41, e53]) rfl
          | q + 38, ho => exact absurd ho (by simp)
        · intro x w9 T9 _
          simp only [putL, Act.put, List.setIfInBounds_toArray, List.set_cons_succ, List.set_cons_zero]
          go_wp2_with fail
          go_meet
          exact ⟨rfl, HT.out.trans T9 (by simp), HP.out.carry T9 (by simp)⟩
      · have HEQ := Lib.hid he
        clear he
        refine wp_region_leaves (wd := wc) (Leaf.const (.agg #[.int .i64 a.ver, .int .u64 (a.sh : Int), .int .u64 (a.sl : Int), .int .u64 (a.dh : Int), .int .u64 (a.dl : Int), .int .i64 a.proto, .int .i64 a.sp, .int .i64 a.dp]) :: Leaf.const (.agg #[.int .i64 b.ver, .int .u64 (b.sh : Int), .int .u64 (b.sl : Int), .int .u64 (b.dh : Int), .int .u64 (b.dl : Int), .int .i64 b.proto, .int .i64 b.sp, .int .i64 b.dp]) :: Leaf.const (.bool true) :: Leaf.const ((.bool true)) :: Leaf.const (.agg #[.int .i64 b.ver, .int .u64 (b.sh : Int), .int .u64 (b.sl : Int), .int .u64 (b.dh : Int), .int .u64 (b.dl : Int), .int .i64 b.proto, .int .i64 b.sp, .int .i64 b.dp]) :: Leaf.const (.agg #[.int .i64 c.ver, .int .u64 (c.sh : Int), .int .u64 (c.sl : Int), .int .u64 (c.dh : Int), .int .u64 (c.dl : Int), .int .i64 c.proto, .int .i64 c.sp, .int .i64 c.dp]) :: Leaf.const (.bool true) :: Leaf.const ((.bool true)) :: Leaf.const ((.bool true)) :: Leaf.const (.agg #[.int .i64 a.ver, .int .u64 (a.sh : Int), .int .u64 (a.sl : Int), .int .u64 (a.dh : Int), .int .u64 (a.dl : Int), .int .i64 a.proto, .int .i64 a.sp, .int .i64 a.dp]) :: Leaf.const (.agg #[.int .i64 c.ver, .int .u64 (c.sh : Int), .int .u64 (c.sl : Int), .int .u64 (c.dh : Int), .int .u64 (c.dl : Int), .int .i64 c.proto, .int .i64 c.sp, .int .i64 c.dp]) :: Leaf.const (.bool true) :: Leaf.const (.bool false) :: Leaf.const ((.bool false)) :: Leaf.const ((.bool false)) :: Leaf.const (.agg #[.int .i64 a.ver, .int .u64 (a.sh : Int), .int .u64 (a.sl : Int), .int .u64 (a.dh : Int), .int .u64 (a.dl : Int), .int .i64 a.proto, .int .i64 a.sp, .int .i64 a.dp]) :: Leaf.const (.agg #[.int .i64 b.ver, .int .u64 (b.sh : Int), .int .u64 (b.sl : Int), .int .u64 (b.dh : Int), .int .u64 (b.dl : Int), .int .i64 b.proto, .int .i64 b.sp, .int .i64 b.dp]) :: Leaf.const (.bool true) :: Leaf.const ((.bool true)) :: Leaf.const (.agg #[.int .i64 b.ver, .int .u64 (b.sh : Int), .int .u64 (b.sl : Int), .int .u64 (b.dh : Int), .int .u64 (b.dl : Int), .int .i64 b.proto, .int .i64 b.sp, .int .i64 b.dp]) :: Leaf.const (.agg #[.int .i64 a.ver, .int .u64 (a.sh : Int), .int .u64 (a.sl : Int), .int .u64 (a.dh : Int), .int .u64 (a.dl : Int), .int .i64 a.proto, .int .i64 a.sp, .int .i64 a.dp]) :: Leaf.const (.bool false) :: Leaf.const ((.bool false)) :: Leaf.const ((.bool false)) :: Leaf.const ((.bool false)) :: Leaf.const (.agg #[.int .i64 a.ver, .int .u64 (a.sh : Int), .int .u64 (a.sl : Int), .int .u64 (a.dh : Int), .int .u64 (a.dl : Int), .int .i64 a.proto, .int .i64 a.sp, .int .i64 a.dp]) :: Leaf.const (.agg #[.int .i64 b.ver, .int .u64 (b.sh : Int), .int .u64 (b.sl : Int), .int .u64 (b.dh : Int), .int .u64 (b.dl : Int), .int .i64 b.proto, .int .i64 b.sp, .int .i64 b.dp]) :: Leaf.const (.bool false) :: Leaf.const (.agg #[.int .i64 a.ver, .int .u64 (a.sh : Int), .int .u64 (a.sl : Int), .int .u64 (a.dh : Int), .int .u64 (a.dl : Int), .int .i64 a.proto, .int .i64 a.sp, .int .i64 a.dp]) :: Leaf.const (.agg #[.int .i64 b.ver, .int .u64 (b.sh : Int), .int .u64 (b.sl : Int), .int .u64 (b.dh : Int), .int .u64 (b.dl : Int), .int .i64 b.proto, .int .i64 b.sp, .int .i64 b.dp]) :: Leaf.const (.bool true) :: Leaf.const ((.bool true)) :: Leaf.const (undef) :: Leaf.const (undef) :: Leaf.const (undef) :: Leaf.const (.bool true) :: Leaf.const (.bool false) :: Leaf.const ((.bool false)) :: []) (by kernel_rfl) (by kernel_rfl) (by kernel_rfl) ((Touch.refl _ _).drew) (trivial) ?_ ?_
        · intro i o ho ac w ht hk hd
          match i, ho with
          | 0, ho =>
            have ho' : some _ = some o := ho
            cases ho'
            clear ho
            have e5 := known_slot hk 5 (by kernel_rfl) (v := .pointer (some ⟨p, 0, none⟩)) rfl
            obtain ⟨c0, c1, c2, c3, c4, c5, c6, c7⟩ := (HP.out.carry ht (by simp)).key
            exact do_value (wanted_none rfl) (v := .agg #[.int .i64 a.ver, .int .u64 (a.sh : Int), .int .u64 (a.sl : Int), .int .u64 (a.dh : Int), .int .u64 (a.dl : Int), .int .i64 a.proto, .int .i64 a.sp, .int .i64 a.dp]) (run_value rfl (by rw [e5]; simp [go_sem, c0, c1, c2, c3, c4, c5, c6, c7])) rfl
          | 1, ho =>
            have ho' : some _ = some o := ho
            cases ho'
            clear ho
            have e6 := known_slot hk 6 (by kernel_rfl) (v := .pointer (some ⟨q, 0, none⟩)) rfl
            obtain ⟨c0, c1, c2, c3, c4, c5, c6, c7⟩ := (HQ.out.carry ht (by simp)).key
            exact do_value (wanted_none rfl) (v := .agg #[.int .i64 b.ver, .int .u64 (b.sh : Int), .int .u64 (b.sl : Int), .int .u64 (b.dh : Int), .int .u64 (b.dl : Int), .int .i64 b.proto, .int .i64 b.sp, .int .i64 b.dp]) (run_value rfl (by rw [e6]; simp [go_sem, c0, c1, c2, c3, c4, c5, c6, c7])) rfl
          | 2, ho =>
            have ho' : some _ = some o := ho
            cases ho'
            clear ho
            have e17 := has_const (has_dep hd 0 (by kernel_rfl)) rfl rfl rfl (c := (.agg #[.int .i64 a.ver, .int .u64 (a.sh : Int), .int .u64 (a.sl : Int), .int .u64 (a.dh : Int), .int .u64 (a.dl : Int), .int .i64 a.proto, .int .i64 a.sp, .int .i64 a.dp]))
            have e18 := has_const (has_dep hd 1 (by kernel_rfl)) rfl rfl rfl (c := (.agg #[.int .i64 b.ver, .int .u64 (b.sh : Int), .int .u64 (b.sl : Int), .int .u64 (b.dh : Int), .int .u64 (b.dl : Int), .int .i64 b.proto, .int .i64 b.sp, .int .i64 b.dp]))
            refine do_enter (wanted_none rfl) (f := 25) (args := #[(.agg #[.int .i64 a.ver, .int .u64 (a.sh : Int), .int .u64 (a.sl : Int), .int .u64 (a.dh : Int), .int .u64 (a.dl : Int), .int .i64 a.proto, .int .i64 a.sp, .int .i64 a.dp]), (.agg #[.int .i64 b.ver, .int .u64 (b.sh : Int), .int .u64 (b.sl : Int), .int .u64 (b.dh : Int), .int .u64 (b.dl : Int), .int .i64 b.proto, .int .i64 b.sp, .int .i64 b.dp])]) (by rw [run_go3 25 _ _ rfl, ent25]; simp [eval_c, e17, e18]) ?_
            exact Calls.leaf (Lab.out _)
          | 3, ho =>
            have ho' : some _ = some o := ho
            cases ho'
            clear ho
            have e19 := has_const (has_dep hd 2 (by kernel_rfl)) rfl rfl rfl (c := (.bool true))
            exact do_value (wanted_none rfl) (by rw [BigFrame.run_move (.tmp 19) rfl, e19]) rfl
          | 4, ho =>
            have ho' : some _ = some o := ho
            cases ho'
            clear ho
            have e20 := has_const (has_dep hd 3 (by kernel_rfl)) rfl rfl rfl (c := (.bool true))
            have e6 := known_slot hk 6 (by kernel_rfl) (v := .pointer (some ⟨q, 0, none⟩)) rfl
            obtain ⟨c0, c1, c2, c3, c4, c5, c6, c7⟩ := (HQ.out.carry ht (by simp)).key
            exact do_value (wanted_some (g := 3) rfl rfl rfl e20) (v := .agg #[.int .i64 b.ver, .int .u64 (b.sh : Int), .int .u64 (b.sl : Int), .int .u64 (b.dh : Int), .int .u64 (b.dl : Int), .int .i64 b.proto, .int .i64 b.sp, .int .i64 b.dp]) (run_value rfl (by rw [e6]; simp [go_sem, c0, c1, c2, c3, c4, c5, c6, c7])) rfl
          | 5, ho =>
            have ho' : some _ = some o := ho
            cases ho'
            clear ho
            have e20 := has_const (has_dep hd 3 (by kernel_rfl)) rfl rfl rfl (c := (.bool true))
            have e7 := known_slot hk 7 (by kernel_rfl) (v := .pointer (some ⟨r, 0, none⟩)) rfl
            obtain ⟨c0, c1, c2, c3, c4, c5, c6, c7⟩ := (HR.out.carry ht (by simp)).key
            exact do_value (wanted_some (g := 3) rfl rfl rfl e20) (v := .agg #[.int .i64 c.ver, .int .u64 (c.sh : Int), .int .u64 (c.sl : Int), .int .u64 (c.dh : Int), .int .u64 (c.dl : Int), .int .i64 c.proto, .int .i64 c.sp, .int .i64 c.dp]) (run_value rfl (by rw [e7]; simp [go_sem, c0, c1, c2, c3, c4, c5, c6, c7])) rfl
          | 6, ho =>
            have ho' : some _ = some o := ho
            cases ho'
            clear ho
            have e20 := has_const (has_dep hd 3 (by kernel_rfl)) rfl rfl rfl (c := (.bool true))
            have e21 := has_const (has_dep hd 4 (by kernel_rfl)) rfl rfl rfl (c := (.agg #[.int .i64 b.ver, .int .u64 (b.sh : Int), .int .u64 (b.sl : Int), .int .u64 (b.dh : Int), .int .u64 (b.dl : Int), .int .i64 b.proto, .int .i64 b.sp, .int .i64 b.dp]))
            have e22 := has_const (has_dep hd 5 (by kernel_rfl)) rfl rfl rfl (c := (.agg #[.int .i64 c.ver, .int .u64 (c.sh : Int), .int .u64 (c.sl : Int), .int .u64 (c.dh : Int), .int .u64 (c.dl : Int), .int .i64 c.proto, .int .i64 c.sp, .int .i64 c.dp]))
            refine do_enter (wanted_some (g := 3) rfl rfl rfl e20) (f := 25) (args := #[(.agg #[.int .i64 b.ver, .int .u64 (b.sh : Int), .int .u64 (b.sl : Int), .int .u64 (b.dh : Int), .int .u64 (b.dl : Int), .int .i64 b.proto, .int .i64 b.sp, .int .i64 b.dp]), (.agg #[.int .i64 c.ver, .int .u64 (c.sh : Int), .int .u64 (c.sl : Int), .int .u64 (c.dh : Int), .int .u64 (c.dl : Int), .int .i64 c.proto, .int .i64 c.sp, .int .i64 c.dp])]) (by rw [run_go3 25 _ _ rfl, ent25]; simp [eval_c, e21, e22]) ?_
            exact Calls.leaf (Lbc.out _)
          | 7, ho =>
            have ho' : some _ = some o := ho
            cases ho'
            clear ho
            have e20 := has_const (has_dep hd 3 (by kernel_rfl)) rfl rfl rfl (c := (.bool true))
            have e23 := has_const (has_dep hd 6 (by kernel_rfl)) rfl rfl rfl (c := (.bool true))
            exact do_value (wanted_none rfl) (by rw [run_pickT (c := .tmp 20) (x := .tmp 23) (y := .const (.bool false)) rfl e20, e23]) rfl
          | 8, ho =>
            have ho' : some _ = some o := ho
            cases ho'
            clear ho
            have e24 := has_const (has_dep hd 7 (by kernel_rfl)) rfl rfl rfl (c := (.bool true))
            exact do_value (wanted_none rfl) (by rw [BigFrame.run_move (.tmp 24) rfl, e24]) rfl
          | 9, ho =>
            have ho' : some _ = some o := ho
            cases ho'
            clear ho
            have e25 := has_const (has_dep hd 8 (by kernel_rfl)) rfl rfl rfl (c := (.bool true))
            have e5 := known_slot hk 5 (by kernel_rfl) (v := .pointer (some ⟨p, 0, none⟩)) rfl
            obtain ⟨c0, c1, c2, c3, c4, c5, c6, c7⟩ := (HP.out.carry ht (by simp)).key
            exact do_value (wanted_some (g := 8) rfl rfl rfl e25) (v := .agg #[.int .i64 a.ver, .int .u64 (a.sh : Int), .int .u64 (a.sl : Int), .int .u64 (a.dh : Int), .int .u64 (a.dl : Int), .int .i64 a.proto, .int .i64 a.sp, .int .i64 a.dp]) (run_value rfl (by rw [e5]; simp [go_sem, c0, c1, c2, c3, c4, c5, c6, c7])) rfl
          | 10, ho =>
            have ho' : some _ = some o := ho
            cases ho'
            clear ho
            have e25 := has_const (has_dep hd 8 (by kernel_rfl)) rfl rfl rfl (c := (.bool true))
            have e7 := known_slot hk 7 (by kernel_rfl) (v := .pointer (some ⟨r, 0, none⟩)) rfl
            obtain ⟨c0, c1, c2, c3, c4, c5, c6, c7⟩ := (HR.out.carry ht (by simp)).key
            exact do_value (wanted_some (g := 8) rfl rfl rfl e25) (v := .agg #[.int .i64 c.ver, .int .u64 (c.sh : Int), .int .u64 (c.sl : Int), .int .u64 (c.dh : Int), .int .u64 (c.dl : Int), .int .i64 c.proto, .int .i64 c.sp, .int .i64 c.dp]) (run_value rfl (by rw [e7]; simp [go_sem, c0, c1, c2, c3, c4, c5, c6, c7])) rfl
          | 11, ho =>
            have ho' : some _ = some o := ho
            cases ho'
            clear ho
            have e25 := has_const (has_dep hd 8 (by kernel_rfl)) rfl rfl rfl (c := (.bool true))
            have e26 := has_const (has_dep hd 9 (by kernel_rfl)) rfl rfl rfl (c := (.agg #[.int .i64 a.ver, .int .u64 (a.sh : Int), .int .u64 (a.sl : Int), .int .u64 (a.dh : Int), .int .u64 (a.dl : Int), .int .i64 a.proto, .int .i64 a.sp, .int .i64 a.dp]))
            have e27 := has_const (has_dep hd 10 (by kernel_rfl)) rfl rfl rfl (c := (.agg #[.int .i64 c.ver, .int .u64 (c.sh : Int), .int .u64 (c.sl : Int), .int .u64 (c.dh : Int), .int .u64 (c.dl : Int), .int .i64 c.proto, .int .i64 c.sp, .int .i64 c.dp]))
            refine do_enter (wanted_some (g := 8) rfl rfl rfl e25) (f := 25) (args := #[(.agg #[.int .i64 a.ver, .int .u64 (a.sh : Int), .int .u64 (a.sl : Int), .int .u64 (a.dh : Int), .int .u64 (a.dl : Int), .int .i64 a.proto, .int .i64 a.sp, .int .i64 a.dp]), (.agg #[.int .i64 c.ver, .int .u64 (c.sh : Int), .int .u64 (c.sl : Int), .int .u64 (c.dh : Int), .int .u64 (c.dl : Int), .int .i64 c.proto, .int .i64 c.sp, .int .i64 c.dp])]) (by rw [run_go3 25 _ _ rfl, ent25]; simp [eval_c, e26, e27]) ?_
            exact Calls.leaf (Lac.out _)
          | 12, ho =>
            have ho' : some _ = some o := ho
            cases ho'
            clear ho
            have e25 := has_const (has_dep hd 8 (by kernel_rfl)) rfl rfl rfl (c := (.bool true))
            have e28 := has_const (has_dep hd 11 (by kernel_rfl)) rfl rfl rfl (c := (.bool true))
            exact do_value (wanted_some (g := 8) rfl rfl rfl e25) (v := .bool false) (run_value rfl (by rw [e28]; simp [go_sem])) rfl
          | 13, ho =>
            have ho' : some _ = some o := ho
            cases ho'
            clear ho
            have e25 := has_const (has_dep hd 8 (by kernel_rfl)) rfl rfl rfl (c := (.bool true))
            have e29 := has_const (has_dep hd 12 (by kernel_rfl)) rfl rfl rfl (c := (.bool false))
            exact do_value (wanted_none rfl) (by rw [run_pickT (c := .tmp 25) (x := .tmp 29) (y := .const (.bool false)) rfl e25, e29]) rfl
          | 14, ho =>
            have ho' : some _ = some o := ho
            cases ho'
            clear ho
            have e30 := has_const (has_dep hd 13 (by kernel_rfl)) rfl rfl rfl (c := (.bool false))
            exact do_value (wanted_none rfl) (by rw [BigFrame.run_move (.tmp 30) rfl, e30]) rfl
          | 15, ho =>
            have ho' : some _ = some o := ho
            cases ho'
            clear ho
            have e31 := has_const (has_dep hd 14 (by kernel_rfl)) rfl rfl rfl (c := (.bool false))
            have e5 := known_slot hk 5 (by kernel_rfl) (v := .pointer (some ⟨p, 0, none⟩)) rfl
            obtain ⟨c0, c1, c2, c3, c4, c5, c6, c7⟩ := (HP.out.carry ht (by simp)).key
            exact do_value (wanted_some (g := 14) rfl rfl rfl e31) (v := .agg #[.int .i64 a.ver, .int .u64 (a.sh : Int), .int .u64 (a.sl : Int), .int .u64 (a.dh : Int), .int .u64 (a.dl : Int), .int .i64 a.proto, .int .i64 a.sp, .int .i64 a.dp]) (run_value rfl (by rw [e5]; simp [go_sem, c0, c1, c2, c3, c4, c5, c6, c7])) rfl
          | 16, ho =>
            have ho' : some _ = some o := ho
            cases ho'
            clear ho
            have e31 := has_const (has_dep hd 14 (by kernel_rfl)) rfl rfl rfl (c := (.bool false))
            have e6 := known_slot hk 6 (by kernel_rfl) (v := .pointer (some ⟨q, 0, none⟩)) rfl
            obtain ⟨c0, c1, c2, c3, c4, c5, c6, c7⟩ := (HQ.out.carry ht (by simp)).key
            exact do_value (wanted_some (g := 14) rfl rfl rfl e31) (v := .agg #[.int .i64 b.ver, .int .u64 (b.sh : Int), .int .u64 (b.sl : Int), .int .u64 (b.dh : Int), .int .u64 (b.dl : Int), .int .i64 b.proto, .int .i64 b.sp, .int .i64 b.dp]) (run_value rfl (by rw [e6]; simp [go_sem, c0, c1, c2, c3, c4, c5, c6, c7])) rfl
          | 17, ho =>
            have ho' : some _ = some o := ho
            cases ho'
            clear ho
            have e31 := has_const (has_dep hd 14 (by kernel_rfl)) rfl rfl rfl (c := (.bool false))
            have e32 := has_const (has_dep hd 15 (by kernel_rfl)) rfl rfl rfl (c := (.agg #[.int .i64 a.ver, .int .u64 (a.sh : Int), .int .u64 (a.sl : Int), .int .u64 (a.dh : Int), .int .u64 (a.dl : Int), .int .i64 a.proto, .int .i64 a.sp, .int .i64 a.dp]))
            have e33 := has_const (has_dep hd 16 (by kernel_rfl)) rfl rfl rfl (c := (.agg #[.int .i64 b.ver, .int .u64 (b.sh : Int), .int .u64 (b.sl : Int), .int .u64 (b.dh : Int), .int .u64 (b.dl : Int), .int .i64 b.proto, .int .i64 b.sp, .int .i64 b.dp]))
            refine do_enter (wanted_some (g := 14) rfl rfl rfl e31) (f := 25) (args := #[(.agg #[.int .i64 a.ver, .int .u64 (a.sh : Int), .int .u64 (a.sl : Int), .int .u64 (a.dh : Int), .int .u64 (a.dl : Int), .int .i64 a.proto, .int .i64 a.sp, .int .i64 a.dp]), (.agg #[.int .i64 b.ver, .int .u64 (b.sh : Int), .int .u64 (b.sl : Int), .int .u64 (b.dh : Int), .int .u64 (b.dl : Int), .int .i64 b.proto, .int .i64 b.sp, .int .i64 b.dp])]) (by rw [run_go3 25 _ _ rfl, ent25]; simp [eval_c, e32, e33]) ?_
            exact Calls.leaf (Lab.out _)
          | 18, ho =>
            have ho' : some _ = some o := ho
            cases ho'
            clear ho
            have e31 := has_const (has_dep hd 14 (by kernel_rfl)) rfl rfl rfl (c := (.bool false))
            have e34 := has_const (has_dep hd 17 (by kernel_rfl)) rfl rfl rfl (c := (.bool true))
            exact do_value (wanted_some (g := 14) rfl rfl rfl e31) (by rw [BigFrame.run_move (.tmp 34) rfl, e34]) rfl
          | 19, ho =>
            have ho' : some _ = some o := ho
            cases ho'
            clear ho
            have e35 := has_const (has_dep hd 18 (by kernel_rfl)) rfl rfl rfl (c := (.bool true))
            have e6 := known_slot hk 6 (by kernel_rfl) (v := .pointer (some ⟨q, 0, none⟩)) rfl
            obtain ⟨c0, c1, c2, c3, c4, c5, c6, c7⟩ := (HQ.out.carry ht (by simp)).key
            exact do_value (wanted_some (g := 18) rfl rfl rfl e35) (v := .agg #[.int .i64 b.ver, .int .u64 (b.sh : Int), .int .u64 (b.sl : Int), .int .u64 (b.dh : Int), .int .u64 (b.dl : Int), .int .i64 b.proto, .int .i64 b.sp, .int .i64 b.dp]) (run_value rfl (by rw [e6]; simp [go_sem, c0, c1, c2, c3, c4, c5, c6, c7])) rfl
          | 20, ho =>
            have ho' : some _ = some o := ho
            cases ho'
            clear ho
            have e35 := has_const (has_dep hd 18 (by kernel_rfl)) rfl rfl rfl (c := (.bool true))
            have e5 := known_slot hk 5 (by kernel_rfl) (v := .pointer (some ⟨p, 0, none⟩)) rfl
            obtain ⟨c0, c1, c2, c3, c4, c5, c6, c7⟩ := (HP.out.carry ht (by simp)).key
            exact do_value (wanted_some (g := 18) rfl rfl rfl e35) (v := .agg #[.int .i64 a.ver, .int .u64 (a.sh : Int), .int .u64 (a.sl : Int), .int .u64 (a.dh : Int), .int .u64 (a.dl : Int), .int .i64 a.proto, .int .i64 a.sp, .int .i64 a.dp]) (run_value rfl (by rw [e5]; simp [go_sem, c0, c1, c2, c3, c4, c5, c6, c7])) rfl
          | 21, ho =>
            have ho' : some _ = some o := ho
            cases ho'
            clear ho
            have e35 := has_const (has_dep hd 18 (by kernel_rfl)) rfl rfl rfl (c := (.bool true))
            have e36 := has_const (has_dep hd 19 (by kernel_rfl)) rfl rfl rfl (c := (.agg #[.int .i64 b.ver, .int .u64 (b.sh : Int), .int .u64 (b.sl : Int), .int .u64 (b.dh : Int), .int .u64 (b.dl : Int), .int .i64 b.proto, .int .i64 b.sp, .int .i64 b.dp]))
            have e37 := has_const (has_dep hd 20 (by kernel_rfl)) rfl rfl rfl (c := (.agg #[.int .i64 a.ver, .int .u64 (a.sh : Int), .int .u64 (a.sl : Int), .int .u64 (a.dh : Int), .int .u64 (a.dl : Int), .int .i64 a.proto, .int .i64 a.sp, .int .i64 a.dp]))
            refine do_enter (wanted_some (g := 18) rfl rfl rfl e35) (f := 25) (args := #[(.agg #[.int .i64 b.ver, .int .u64 (b.sh : Int), .int .u64 (b.sl : Int), .int .u64 (b.dh : Int), .int .u64 (b.dl : Int), .int .i64 b.proto, .int .i64 b.sp, .int .i64 b.dp]), (.agg #[.int .i64 a.ver, .int .u64 (a.sh : Int), .int .u64 (a.sl : Int), .int .u64 (a.dh : Int), .int .u64 (a.dl : Int), .int .i64 a.proto, .int .i64 a.sp, .int .i64 a.dp])]) (by rw [run_go3 25 _ _ rfl, ent25]; simp [eval_c, e36, e37]) ?_
            exact Calls.leaf (Lba.out _)
          | 22, ho =>
            have ho' : some _ = some o := ho
            cases ho'
            clear ho
            have e31 := has_const (has_dep hd 14 (by kernel_rfl)) rfl rfl rfl (c := (.bool false))
            have e35 := has_const (has_dep hd 18 (by kernel_rfl)) rfl rfl rfl (c := (.bool true))
            have e38 := has_const (has_dep hd 21 (by kernel_rfl)) rfl rfl rfl (c := (.bool false))
            exact do_value (wanted_some (g := 14) rfl rfl rfl e31) (by rw [run_pickT (c := .tmp 35) (x := .tmp 38) (y := .const (.bool false)) rfl e35, e38]) rfl
          | 23, ho =>
            have ho' : some _ = some o := ho
            cases ho'
            clear ho
            have e31 := has_const (has_dep hd 14 (by kernel_rfl)) rfl rfl rfl (c := (.bool false))
            have e39 := has_const (has_dep hd 22 (by kernel_rfl)) rfl rfl rfl (c := (.bool false))
            exact do_value (wanted_none rfl) (by rw [run_pickF (c := .tmp 31) (x := .const (.bool true)) (y := .tmp 39) rfl e31, e39]) rfl
          | 24, ho =>
            have ho' : some _ = some o := ho
            cases ho'
            clear ho
            have e40 := has_const (has_dep hd 23 (by kernel_rfl)) rfl rfl rfl (c := (.bool false))
            exact do_value (wanted_none rfl) (by rw [BigFrame.run_move (.tmp 40) rfl, e40]) rfl
          | 25, ho =>
            have ho' : some _ = some o := ho
            cases ho'
            clear ho
            have e41 := has_const (has_dep hd 24 (by kernel_rfl)) rfl rfl rfl (c := (.bool false))
            have e5 := known_slot hk 5 (by kernel_rfl) (v := .pointer (some ⟨p, 0, none⟩)) rfl
            obtain ⟨c0, c1, c2, c3, c4, c5, c6, c7⟩ := (HP.out.carry ht (by simp)).key
            exact do_value (wanted_some (g := 24) rfl rfl rfl e41) (v := .agg #[.int .i64 a.ver, .int .u64 (a.sh : Int), .int .u64 (a.sl : Int), .int .u64 (a.dh : Int), .int .u64 (a.dl : Int), .int .i64 a.proto, .int .i64 a.sp, .int .i64 a.dp]) (run_value rfl (by rw [e5]; simp [go_sem, c0, c1, c2, c3, c4, c5, c6, c7])) rfl
          | 26, ho =>
            have ho' : some _ = some o := ho
            cases ho'
            clear ho
            have e41 := has_const (has_dep hd 24 (by kernel_rfl)) rfl rfl rfl (c := (.bool false))
            have e6 := known_slot hk 6 (by kernel_rfl) (v := .pointer (some ⟨q, 0, none⟩)) rfl
            obtain ⟨c0, c1, c2, c3, c4, c5, c6, c7⟩ := (HQ.out.carry ht (by simp)).key
            exact do_value (wanted_some (g := 24) rfl rfl rfl e41) (v := .agg #[.int .i64 b.ver, .int .u64 (b.sh : Int), .int .u64 (b.sl : Int), .int .u64 (b.dh : Int), .int .u64 (b.dl : Int), .int .i64 b.proto, .int .i64 b.sp, .int .i64 b.dp]) (run_value rfl (by rw [e6]; simp [go_sem, c0, c1, c2, c3, c4, c5, c6, c7])) rfl
          | 27, ho =>
            have ho' : some _ = some o := ho
            cases ho'
            clear ho
            have e41 := has_const (has_dep hd 24 (by kernel_rfl)) rfl rfl rfl (c := (.bool false))
            have e42 := has_const (has_dep hd 25 (by kernel_rfl)) rfl rfl rfl (c := (.agg #[.int .i64 a.ver, .int .u64 (a.sh : Int), .int .u64 (a.sl : Int), .int .u64 (a.dh : Int), .int .u64 (a.dl : Int), .int .i64 a.proto, .int .i64 a.sp, .int .i64 a.dp]))
            have e43 := has_const (has_dep hd 26 (by kernel_rfl)) rfl rfl rfl (c := (.agg #[.int .i64 b.ver, .int .u64 (b.sh : Int), .int .u64 (b.sl : Int), .int .u64 (b.dh : Int), .int .u64 (b.dl : Int), .int .i64 b.proto, .int .i64 b.sp, .int .i64 b.dp]))
            have hq := key_eq_run a b _ HEQ.out w
            exact do_value (wanted_some (g := 24) rfl rfl rfl e41) (v := .bool false) (run_value rfl (by rw [e42, e43]; simp [eqGuard]; exact hq)) rfl
          | 28, ho =>
            have ho' : some _ = some o := ho
            cases ho'
            clear ho
            have e41 := has_const (has_dep hd 24 (by kernel_rfl)) rfl rfl rfl (c := (.bool false))
            have e5 := known_slot hk 5 (by kernel_rfl) (v := .pointer (some ⟨p, 0, none⟩)) rfl
            obtain ⟨c0, c1, c2, c3, c4, c5, c6, c7⟩ := (HP.out.carry ht (by simp)).key
            exact do_value (wanted_some (g := 24) rfl rfl rfl e41) (v := .agg #[.int .i64 a.ver, .int .u64 (a.sh : Int), .int .u64 (a.sl : Int), .int .u64 (a.dh : Int), .int .u64 (a.dl : Int), .int .i64 a.proto, .int .i64 a.sp, .int .i64 a.dp]) (run_value rfl (by rw [e5]; simp [go_sem, c0, c1, c2, c3, c4, c5, c6, c7])) rfl
          | 29, ho =>
            have ho' : some _ = some o := ho
            cases ho'
            clear ho
            have e41 := has_const (has_dep hd 24 (by kernel_rfl)) rfl rfl rfl (c := (.bool false))
            have e6 := known_slot hk 6 (by kernel_rfl) (v := .pointer (some ⟨q, 0, none⟩)) rfl
            obtain ⟨c0, c1, c2, c3, c4, c5, c6, c7⟩ := (HQ.out.carry ht (by simp)).key
            exact do_value (wanted_some (g := 24) rfl rfl rfl e41) (v := .agg #[.int .i64 b.ver, .int .u64 (b.sh : Int), .int .u64 (b.sl : Int), .int .u64 (b.dh : Int), .int .u64 (b.dl : Int), .int .i64 b.proto, .int .i64 b.sp, .int .i64 b.dp]) (run_value rfl (by rw [e6]; simp [go_sem, c0, c1, c2, c3, c4, c5, c6, c7])) rfl
          | 30, ho =>
            have ho' : some _ = some o := ho
            cases ho'
            clear ho
            have e41 := has_const (has_dep hd 24 (by kernel_rfl)) rfl rfl rfl (c := (.bool false))
            have e45 := has_const (has_dep hd 28 (by kernel_rfl)) rfl rfl rfl (c := (.agg #[.int .i64 a.ver, .int .u64 (a.sh : Int), .int .u64 (a.sl : Int), .int .u64 (a.dh : Int), .int .u64 (a.dl : Int), .int .i64 a.proto, .int .i64 a.sp, .int .i64 a.dp]))
            have e46 := has_const (has_dep hd 29 (by kernel_rfl)) rfl rfl rfl (c := (.agg #[.int .i64 b.ver, .int .u64 (b.sh : Int), .int .u64 (b.sl : Int), .int .u64 (b.dh : Int), .int .u64 (b.dl : Int), .int .i64 b.proto, .int .i64 b.sp, .int .i64 b.dp]))
            refine do_enter (wanted_some (g := 24) rfl rfl rfl e41) (f := 25) (args := #[(.agg #[.int .i64 a.ver, .int .u64 (a.sh : Int), .int .u64 (a.sl : Int), .int .u64 (a.dh : Int), .int .u64 (a.dl : Int), .int .i64 a.proto, .int .i64 a.sp, .int .i64 a.dp]), (.agg #[.int .i64 b.ver, .int .u64 (b.sh : Int), .int .u64 (b.sl : Int), .int .u64 (b.dh : Int), .int .u64 (b.dl : Int), .int .i64 b.proto, .int .i64 b.sp, .int .i64 b.dp])]) (by rw [run_go3 25 _ _ rfl, ent25]; simp [eval_c, e45, e46]) ?_
            exact Calls.leaf (Lab.out _)
          | 31, ho =>
            have ho' : some _ = some o := ho
            cases ho'
            clear ho
            have e41 := has_const (has_dep hd 24 (by kernel_rfl)) rfl rfl rfl (c := (.bool false))
            have e47 := has_const (has_dep hd 30 (by kernel_rfl)) rfl rfl rfl (c := (.bool true))
            exact do_value (wanted_some (g := 24) rfl rfl rfl e41) (by rw [BigFrame.run_move (.tmp 47) rfl, e47]) rfl
          | 32, ho =>
            have ho' : some _ = some o := ho
            cases ho'
            clear ho
            have e48 := has_const (has_dep hd 31 (by kernel_rfl)) rfl rfl rfl (c := (.bool true))
            exact do_skip (wanted_not (g := 31) rfl rfl rfl e48) rfl
          | 33, ho =>
            have ho' : some _ = some o := ho
            cases ho'
            clear ho
            have e48 := has_const (has_dep hd 31 (by kernel_rfl)) rfl rfl rfl (c := (.bool true))
            exact do_skip (wanted_not (g := 31) rfl rfl rfl e48) rfl
          | 34, ho =>
            have ho' : some _ = some o := ho
            cases ho'
            clear ho
            have e48 := has_const (has_dep hd 31 (by kernel_rfl)) rfl rfl rfl (c := (.bool true))
            exact do_skip (wanted_not (g := 31) rfl rfl rfl e48) rfl
          | 35, ho =>
            have ho' : some _ = some o := ho
            cases ho'
            clear ho
            have e41 := has_const (has_dep hd 24 (by kernel_rfl)) rfl rfl rfl (c := (.bool false))
            have e48 := has_const (has_dep hd 31 (by kernel_rfl)) rfl rfl rfl (c := (.bool true))
            exact do_value (wanted_some (g := 24) rfl rfl rfl e41) (by rw [run_pickT (c := .tmp 48) (x := .const (.bool true)) (y := .tmp 51) rfl e48, eval_c]) rfl
          | 36, ho =>
            have ho' : some _ = some o := ho
            cases ho'
            clear ho
            have e41 := has_const (has_dep hd 24 (by kernel_rfl)) rfl rfl rfl (c := (.bool false))
            have e44 := has_const (has_dep hd 27 (by kernel_rfl)) rfl rfl rfl (c := (.bool false))
            have e52 := has_const (has_dep hd 35 (by kernel_rfl)) rfl rfl rfl (c := (.bool true))
            exact do_value (wanted_some (g := 24) rfl rfl rfl e41) (v := .bool false) (run_value rfl (by rw [e44, e52]; simp [go_sem])) rfl
          | 37, ho =>
            have ho' : some _ = some o := ho
            cases ho'
            clear ho
            have e41 := has_const (has_dep hd 24 (by kernel_rfl)) rfl rfl rfl (c := (.bool false))
            have e53 := has_const (has_dep hd 36 (by kernel_rfl)) rfl rfl rfl (c := (.bool false))
            exact do_value (wanted_none rfl) (by rw [run_pickF (c := .tmp 41) (x := .const (.bool true)) (y := .tmp 53) rfl e41, e53]) rfl
          | q + 38, ho => exact absurd ho (by simp)
        · intro x w9 T9 _
          simp only [putL, Act.put, List.setIfInBounds_toArray, List.set_cons_succ, List.set_cons_zero]
          go_wp2_with fail
          go_meet
          exact ⟨rfl, HT.out.trans T9 (by simp), HP.out.carry T9 (by simp)⟩
      · have HEQ := Lib.hid he
        clear he
        refine wp_region_leaves (wd := wc) (Leaf.const (.agg #[.int .i64 a.ver, .int .u64 (a.sh : Int), .int .u64 (a.sl : Int), .int .u64 (a.dh : Int), .int .u64 (a.dl : Int), .int .i64 a.proto, .int .i64 a.sp, .int .i64 a.dp]) :: Leaf.const (.agg #[.int .i64 b.ver, .int .u64 (b.sh : Int), .int .u64 (b.sl : Int), .int .u64 (b.dh : Int), .int .u64 (b.dl : Int), .int .i64 b.proto, .int .i64 b.sp, .int .i64 b.dp]) :: Leaf.const (.bool false) :: Leaf.const ((.bool false)) :: Leaf.const (undef) :: Leaf.const (undef) :: Leaf.const (undef) :: Leaf.const (.bool false) :: Leaf.const ((.bool false)) :: Leaf.const (undef) :: Leaf.const (undef) :: Leaf.const (undef) :: Leaf.const (undef) :: Leaf.const (.bool false) :: Leaf.const ((.bool false)) :: Leaf.const (.agg #[.int .i64 a.ver, .int .u64 (a.sh : Int), .int .u64 (a.sl : Int), .int .u64 (a.dh : Int), .int .u64 (a.dl : Int), .int .i64 a.proto, .int .i64 a.sp, .int .i64 a.dp]) :: Leaf.const (.agg #[.int .i64 b.ver, .int .u64 (b.sh : Int), .int .u64 (b.sl : Int), .int .u64 (b.dh : Int), .int .u64 (b.dl : Int), .int .i64 b.proto, .int .i64 b.sp, .int .i64 b.dp]) :: Leaf.const (.bool false) :: Leaf.const ((.bool false)) :: Leaf.const (undef) :: Leaf.const (undef) :: Leaf.const (undef) :: Leaf.const (.bool false) :: Leaf.const ((.bool false)) :: Leaf.const ((.bool false)) :: Leaf.const (.agg #[.int .i64 a.ver, .int .u64 (a.sh : Int), .int .u64 (a.sl : Int), .int .u64 (a.dh : Int), .int .u64 (a.dl : Int), .int .i64 a.proto, .int .i64 a.sp, .int .i64 a.dp]) :: Leaf.const (.agg #[.int .i64 b.ver, .int .u64 (b.sh : Int), .int .u64 (b.sl : Int), .int .u64 (b.dh : Int), .int .u64 (b.dl : Int), .int .i64 b.proto, .int .i64 b.sp, .int .i64 b.dp]) :: Leaf.const (.bool false) :: Leaf.const (.agg #[.int .i64 a.ver, .int .u64 (a.sh : Int), .int .u64 (a.sl : Int), .int .u64 (a.dh : Int), .int .u64 (a.dl : Int), .int .i64 a.proto, .int .i64 a.sp, .int .i64 a.dp]) :: Leaf.const (.agg #[.int .i64 b.ver, .int .u64 (b.sh : Int), .int .u64 (b.sl : Int), .int .u64 (b.dh : Int), .int .u64 (b.dl : Int), .int .i64 b.proto, .int .i64 b.sp, .int .i64 b.dp]) :: Leaf.const (.bool false) :: Leaf.const ((.bool false)) :: Leaf.const (.agg #[.int .i64 b.ver, .int .u64 (b.sh : Int), .int .u64 (b.sl : Int), .int .u64 (b.dh : Int), .int .u64 (b.dl : Int), .int .i64 b.proto, .int .i64 b.sp, .int .i64 b.dp]) :: Leaf.const (.agg #[.int .i64 a.ver, .int .u64 (a.sh : Int), .int .u64 (a.sl : Int), .int .u64 (a.dh : Int), .int .u64 (a.dl : Int), .int .i64 a.proto, .int .i64 a.sp, .int .i64 a.dp]) :: Leaf.const (.bool true) :: Leaf.const ((.bool true)) :: Leaf.const (.bool false) :: Leaf.const ((.bool false)) :: []) (by kernel_rfl) (by kernel_rfl) (by kernel_rfl) ((Touch.refl _ _).drew) (trivial) ?_ ?_
        · intro i o ho ac w ht hk hd
          match i, ho with
          | 0, ho =>
            have ho' : some _ = some o := ho
            cases ho'
            clear ho
            have e5 := known_slot hk 5 (by kernel_rfl) (v := .pointer (some ⟨p, 0, none⟩)) rfl
            obtain ⟨c0, c1, c2, c3, c4, c5, c6, c7⟩ := (HP.out.carry ht (by simp)).key
            exact do_value (wanted_none rfl) (v := .agg #[.int .i64 a.ver, .int .u64 (a.sh : Int), .int .u64 (a.sl : Int), .int .u64 (a.dh : Int), .int .u64 (a.dl : Int), .int .i64 a.proto, .int .i64 a.sp, .int .i64 a.dp]) (run_value rfl (by rw [e5]; simp [go_sem, c0, c1, c2, c3, c4, c5, c6, c7])) rfl
          | 1, ho =>
            have ho' : some _ = some o := ho
            cases ho'
            clear ho
            have e6 := known_slot hk 6 (by kernel_rfl) (v := .pointer (some ⟨q, 0, none⟩)) rfl
            obtain ⟨c0, c1, c2, c3, c4, c5, c6, c7⟩ := (HQ.out.carry ht (by simp)).key
            exact do_value (wanted_none rfl) (v := .agg #[.int .i64 b.ver, .int .u64 (b.sh : Int), .int .u64 (b.sl : Int), .int .u64 (b.dh : Int), .int .u64 (b.dl : Int), .int .i64 b.proto, .int .i64 b.sp, .int .i64 b.dp]) (run_value rfl (by rw [e6]; simp [go_sem, c0, c1, c2, c3, c4, c5, c6, c7])) rfl
          | 2, ho =>
            have ho' : some _ = some o := ho
            cases ho'
            clear ho
            have e17 := has_const (has_dep hd 0 (by kernel_rfl)) rfl rfl rfl (c := (.agg #[.int .i64 a.ver, .int .u64 (a.sh : Int), .int .u64 (a.sl : Int), .int .u64 (a.dh : Int), .int .u64 (a.dl : Int), .int .i64 a.proto, .int .i64 a.sp, .int .i64 a.dp]))
            have e18 := has_const (has_dep hd 1 (by kernel_rfl)) rfl rfl rfl (c := (.agg #[.int .i64 b.ver, .int .u64 (b.sh : Int), .int .u64 (b.sl : Int), .int .u64 (b.dh : Int), .int .u64 (b.dl : Int), .int .i64 b.proto, .int .i64 b.sp, .int .i64 b.dp]))
            refine do_enter (wanted_none rfl) (f := 25) (args := #[(.agg #[.int .i64 a.ver, .int .u64 (a.sh : Int), .int .u64 (a.sl : Int), .int .u64 (a.dh : Int), .int .u64 (a.dl : Int), .int .i64 a.proto, .int .i64 a.sp, .int .i64 a.dp]), (.agg #[.int .i64 b.ver, .int .u64 (b.sh : Int), .int .u64 (b.sl : Int), .int .u64 (b.dh : Int), .int .u64 (b.dl : Int), .int .i64 b.proto, .int .i64 b.sp, .int .i64 b.dp])]) (by rw [run_go3 25 _ _ rfl, ent25]; simp [eval_c, e17, e18]) ?_
            exact Calls.leaf (Lab.out _)
          | 3, ho =>
            have ho' : some _ = some o := ho
            cases ho'
            clear ho
            have e19 := has_const (has_dep hd 2 (by kernel_rfl)) rfl rfl rfl (c := (.bool false))
            exact do_value (wanted_none rfl) (by rw [BigFrame.run_move (.tmp 19) rfl, e19]) rfl
          | 4, ho =>
            have ho' : some _ = some o := ho
            cases ho'
            clear ho
            have e20 := has_const (has_dep hd 3 (by kernel_rfl)) rfl rfl rfl (c := (.bool false))
            exact do_skip (wanted_not (g := 3) rfl rfl rfl e20) rfl
          | 5, ho =>
            have ho' : some _ = some o := ho
            cases ho'
            clear ho
            have e20 := has_const (has_dep hd 3 (by kernel_rfl)) rfl rfl rfl (c := (.bool false))
            exact do_skip (wanted_not (g := 3) rfl rfl rfl e20) rfl
          | 6, ho =>
            have ho' : some _ = some o := ho
            cases ho'
            clear ho
            have e20 := has_const (has_dep hd 3 (by kernel_rfl)) rfl rfl rfl (c := (.bool false))
            exact do_skip (wanted_not (g := 3) rfl rfl rfl e20) rfl
          | 7, ho =>
            have ho' : some _ = some o := ho
            cases ho'
            clear ho
            have e20 := has_const (has_dep hd 3 (by kernel_rfl)) rfl rfl rfl (c := (.bool false))
            exact do_value (wanted_none rfl) (by rw [run_pickF (c := .tmp 20) (x := .tmp 23) (y := .const (.bool false)) rfl e20, eval_c]) rfl
          | 8, ho =>
            have ho' : some _ = some o := ho
            cases ho'
            clear ho
            have e24 := has_const (has_dep hd 7 (by kernel_rfl)) rfl rfl rfl (c := (.bool false))
            exact do_value (wanted_none rfl) (by rw [BigFrame.run_move (.tmp 24) rfl, e24]) rfl
          | 9, ho =>
            have ho' : some _ = some o := ho
            cases ho'
            clear ho
            have e25 := has_const (has_dep hd 8 (by kernel_rfl)) rfl rfl rfl (c := (.bool false))
            exact do_skip (wanted_not (g := 8) rfl rfl rfl e25) rfl
          | 10, ho =>
            have ho' : some _ = some o := ho
            cases ho'
            clear ho
            have e25 := has_const (has_dep hd 8 (by kernel_rfl)) rfl rfl rfl (c := (.bool false))
            exact do_skip (wanted_not (g := 8) rfl rfl rfl e25) rfl
          | 11, ho =>
            have ho' : some _ = some o := ho
            cases ho'
            clear ho
            have e25 := has_const (has_dep hd 8 (by kernel_rfl)) rfl rfl rfl (c := (.bool false))
            exact do_skip (wanted_not (g := 8) rfl rfl rfl e25) rfl
          | 12, ho =>
            have ho' : some _ = some o := ho
            cases ho'
            clear ho
            have e25 := has_const (has_dep hd 8 (by kernel_rfl)) rfl rfl rfl (c := (.bool false))
            exact do_skip (wanted_not (g := 8) rfl rfl rfl e25) rfl
          | 13, ho =>
            have ho' : some _ = some o := ho
            cases ho'
            clear ho
            have e25 := has_const (has_dep hd 8 (by kernel_rfl)) rfl rfl rfl (c := (.bool false))
            exact do_value (wanted_none rfl) (by rw [run_pickF (c := .tmp 25) (x := .tmp 29) (y := .const (.bool false)) rfl e25, eval_c]) rfl
          | 14, ho =>
            have ho' : some _ = some o := ho
            cases ho'
            clear ho
            have e30 := has_const (has_dep hd 13 (by kernel_rfl)) rfl rfl rfl (c := (.bool false))
            exact do_value (wanted_none rfl) (by rw [BigFrame.run_move (.tmp 30) rfl, e30]) rfl
          | 15, ho =>
            have ho' : some _ = some o := ho
            cases ho'
            clear ho
            have e31 := has_const (has_dep hd 14 (by kernel_rfl)) rfl rfl rfl (c := (.bool false))
            have e5 := known_slot hk 5 (by kernel_rfl) (v := .pointer (some ⟨p, 0, none⟩)) rfl
            obtain ⟨c0, c1, c2, c3, c4, c5, c6, c7⟩ := (HP.out.carry ht (by simp)).key
            exact do_value (wanted_some (g := 14) rfl rfl rfl e31) (v := .agg #[.int .i64 a.ver, .int .u64 (a.sh : Int), .int .u64 (a.sl : Int), .int .u64 (a.dh : Int), .int .u64 (a.dl : Int), .int .i64 a.proto, .int .i64 a.sp, .int .i64 a.dp]) (run_value rfl (by rw [e5]; simp [go_sem, c0, c1, c2, c3, c4, c5, c6, c7])) rfl
          | 16, ho =>
            have ho' : some _ = some o := ho
            cases ho'
            clear ho
            have e31 := has_const (has_dep hd 14 (by kernel_rfl)) rfl rfl rfl (c := (.bool false))
            have e6 := known_slot hk 6 (by kernel_rfl) (v := .pointer (some ⟨q, 0, none⟩)) rfl
            obtain ⟨c0, c1, c2, c3, c4, c5, c6, c7⟩ := (HQ.out.carry ht (by simp)).key
            exact do_value (wanted_some (g := 14) rfl rfl rfl e31) (v := .agg #[.int .i64 b.ver, .int .u64 (b.sh : Int), .int .u64 (b.sl : Int), .int .u64 (b.dh : Int), .int .u64 (b.dl : Int), .int .i64 b.proto, .int .i64 b.sp, .int .i64 b.dp]) (run_value rfl (by rw [e6]; simp [go_sem, c0, c1, c2, c3, c4, c5, c6, c7])) rfl
          | 17, ho =>
            have ho' : some _ = some o := ho
            cases ho'
            clear ho
            have e31 := has_const (has_dep hd 14 (by kernel_rfl)) rfl rfl rfl (c := (.bool false))
            have e32 := has_const (has_dep hd 15 (by kernel_rfl)) rfl rfl rfl (c := (.agg #[.int .i64 a.ver, .int .u64 (a.sh : Int), .int .u64 (a.sl : Int), .int .u64 (a.dh : Int), .int .u64 (a.dl : Int), .int .i64 a.proto, .int .i64 a.sp, .int .i64 a.dp]))
            have e33 := has_const (has_dep hd 16 (by kernel_rfl)) rfl rfl rfl (c := (.agg #[.int .i64 b.ver, .int .u64 (b.sh : Int), .int .u64 (b.sl : Int), .int .u64 (b.dh : Int), .int .u64 (b.dl : Int), .int .i64 b.proto, .int .i64 b.sp, .int .i64 b.dp]))
            refine do_enter (wanted_some (g := 14) rfl rfl rfl e31) (f := 25) (args := #[(.agg #[.int .i64 a.ver, .int .u64 (a.sh : Int), .int .u64 (a.sl : Int), .int .u64 (a.dh : Int), .int .u64 (a.dl : Int), .int .i64 a.proto, .int .i64 a.sp, .int .i64 a.dp]), (.agg #[.int .i64 b.ver, .int .u64 (b.sh : Int), .int .u64 (b.sl : Int), .int .u64 (b.dh : Int), .int .u64 (b.dl : Int), .int .i64 b.proto, .int .i64 b.sp, .int .i64 b.dp])]) (by rw [run_go3 25 _ _ rfl, ent25]; simp [eval_c, e32, e33]) ?_
            exact Calls.leaf (Lab.out _)
          | 18, ho =>
            have ho' : some _ = some o := ho
            cases ho'
            clear ho
            have e31 := has_const (has_dep hd 14 (by kernel_rfl)) rfl rfl rfl (c := (.bool false))
            have e34 := has_const (has_dep hd 17 (by kernel_rfl)) rfl rfl rfl (c := (.bool false))
            exact do_value (wanted_some (g := 14) rfl rfl rfl e31) (by rw [BigFrame.run_move (.tmp 34) rfl, e34]) rfl
          | 19, ho =>
            have ho' : some _ = some o := ho
            cases ho'
            clear ho
            have e35 := has_const (has_dep hd 18 (by kernel_rfl)) rfl rfl rfl (c := (.bool false))
            exact do_skip (wanted_not (g := 18) rfl rfl rfl e35) rfl
          | 20, ho =>
            have ho' : some _ = some o := ho
            cases ho'
            clear ho
            have e35 := has_const (has_dep hd 18 (by kernel_rfl)) rfl rfl rfl (c := (.bool false))
            exact do_skip (wanted_not (g := 18) rfl rfl rfl e35) rfl
          | 21, ho =>
            have ho' : some _ = some o := ho
            cases ho'
            clear ho
            have e35 := has_const (has_dep hd 18 (by kernel_rfl)) rfl rfl rfl (c := (.bool false))
            exact do_skip (wanted_not (g := 18) rfl rfl rfl e35) rfl
          | 22, ho =>
            have ho' : some _ = some o := ho
            cases ho'
            clear ho
            have e31 := has_const (has_dep hd 14 (by kernel_rfl)) rfl rfl rfl (c := (.bool false))
            have e35 := has_const (has_dep hd 18 (by kernel_rfl)) rfl rfl rfl (c := (.bool false))
            exact do_value (wanted_some (g := 14) rfl rfl rfl e31) (by rw [run_pickF (c := .tmp 35) (x := .tmp 38) (y := .const (.bool false)) rfl e35, eval_c]) rfl
          | 23, ho =>
            have ho' : some _ = some o := ho
            cases ho'
            clear ho
            have e31 := has_const (has_dep hd 14 (by kernel_rfl)) rfl rfl rfl (c := (.bool false))
            have e39 := has_const (has_dep hd 22 (by kernel_rfl)) rfl rfl rfl (c := (.bool false))
            exact do_value (wanted_none rfl) (by rw [run_pickF (c := .tmp 31) (x := .const (.bool true)) (y := .tmp 39) rfl e31, e39]) rfl
          | 24, ho =>
            have ho' : some _ = some o := ho
            cases ho'
            clear ho
            have e40 := has_const (has_dep hd 23 (by kernel_rfl)) rfl rfl rfl (c := (.bool false))
            exact do_value (wanted_none rfl) (by rw [BigFrame.run_move (.tmp 40) rfl, e40]) rfl
          | 25, ho =>
            have ho' : some _ = some o := ho
            cases ho'
            clear ho
            have e41 := has_const (has_dep hd 24 (by kernel_rfl)) rfl rfl rfl (c := (.bool false))
            have e5 := known_slot hk 5 (by kernel_rfl) (v := .pointer (some ⟨p, 0, none⟩)) rfl
            obtain ⟨c0, c1, c2, c3, c4, c5, c6, c7⟩ := (HP.out.carry ht (by simp)).key
            exact do_value (wanted_some (g := 24) rfl rfl rfl e41) (v := .agg #[.int .i64 a.ver, .int .u64 (a.sh : Int), .int .u64 (a.sl : Int), .int .u64 (a.dh : Int), .int .u64 (a.dl : Int), .int .i64 a.proto, .int .i64 a.sp, .int .i64 a.dp]) (run_value rfl (by rw [e5]; simp [go_sem, c0, c1, c2, c3, c4, c5, c6, c7])) rfl
          | 26, ho =>
            have ho' : some _ = some o := ho
            cases ho'
            clear ho
            have e41 := has_const (has_dep hd 24 (by kernel_rfl)) rfl rfl rfl (c := (.bool false))
            have e6 := known_slot hk 6 (by kernel_rfl) (v := .pointer (some ⟨q, 0, none⟩)) rfl
            obtain ⟨c0, c1, c2, c3, c4, c5, c6, c7⟩ := (HQ.out.carry ht (by simp)).key
            exact do_value (wanted_some (g := 24) rfl rfl rfl e41) (v := .agg #[.int .i64 b.ver, .int .u64 (b.sh : Int), .int .u64 (b.sl : Int), .int .u64 (b.dh : Int), .int .u64 (b.dl : Int), .int .i64 b.proto, .int .i64 b.sp, .int .i64 b.dp]) (run_value rfl (by rw [e6]; simp [go_sem, c0, c1, c2, c3, c4, c5, c6, c7])) rfl
          | 27, ho =>
            have ho' : some _ = some o := ho
            cases ho'
            clear ho
            have e41 := has_const (has_dep hd 24 (by kernel_rfl)) rfl rfl rfl (c := (.bool false))
            have e42 := has_const (has_dep hd 25 (by kernel_rfl)) rfl rfl rfl (c := (.agg #[.int .i64 a.ver, .int .u64 (a.sh : Int), .int .u64 (a.sl : Int), .int .u64 (a.dh : Int), .int .u64 (a.dl : Int), .int .i64 a.proto, .int .i64 a.sp, .int .i64 a.dp]))
            have e43 := has_const (has_dep hd 26 (by kernel_rfl)) rfl rfl rfl (c := (.agg #[.int .i64 b.ver, .int .u64 (b.sh : Int), .int .u64 (b.sl : Int), .int .u64 (b.dh : Int), .int .u64 (b.dl : Int), .int .i64 b.proto, .int .i64 b.sp, .int .i64 b.dp]))
            have hq := key_eq_run a b _ HEQ.out w
            exact do_value (wanted_some (g := 24) rfl rfl rfl e41) (v := .bool false) (run_value rfl (by rw [e42, e43]; simp [eqGuard]; exact hq)) rfl
          | 28, ho =>
            have ho' : some _ = some o := ho
            cases ho'
            clear ho
            have e41 := has_const (has_dep hd 24 (by kernel_rfl)) rfl rfl rfl (c := (.bool false))
            have e5 := known_slot hk 5 (by kernel_rfl) (v := .pointer (some ⟨p, 0, none⟩)) rfl
            obtain ⟨c0, c1, c2, c3, c4, c5, c6, c7⟩ := (HP.out.carry ht (by simp)).key
            exact do_value (wanted_some (g := 24) rfl rfl rfl e41) (v := .agg #[.int .i64 a.ver, .int .u64 (a.sh : Int), .int .u64 (a.sl : Int), .int .u64 (a.dh : Int), .int .u64 (a.dl : Int), .int .i64 a.proto, .int .i64 a.sp, .int .i64 a.dp]) (run_value rfl (by rw [e5]; simp [go_sem, c0, c1, c2, c3, c4, c5, c6, c7])) rfl
          | 29, ho =>
            have ho' : some _ = some o := ho
            cases ho'
            clear ho
            have e41 := has_const (has_dep hd 24 (by kernel_rfl)) rfl rfl rfl (c := (.bool false))
            have e6 := known_slot hk 6 (by kernel_rfl) (v := .pointer (some ⟨q, 0, none⟩)) rfl
            obtain ⟨c0, c1, c2, c3, c4, c5, c6, c7⟩ := (HQ.out.carry ht (by simp)).key
            exact do_value (wanted_some (g := 24) rfl rfl rfl e41) (v := .agg #[.int .i64 b.ver, .int .u64 (b.sh : Int), .int .u64 (b.sl : Int), .int .u64 (b.dh : Int), .int .u64 (b.dl : Int), .int .i64 b.proto, .int .i64 b.sp, .int .i64 b.dp]) (run_value rfl (by rw [e6]; simp [go_sem, c0, c1, c2, c3, c4, c5, c6, c7])) rfl
          | 30, ho =>
            have ho' : some _ = some o := ho
            cases ho'
            clear ho
            have e41 := has_const (has_dep hd 24 (by kernel_rfl)) rfl rfl rfl (c := (.bool false))
            have e45 := has_const (has_dep hd 28 (by kernel_rfl)) rfl rfl rfl (c := (.agg #[.int .i64 a.ver, .int .u64 (a.sh : Int), .int .u64 (a.sl : Int), .int .u64 (a.dh : Int), .int .u64 (a.dl : Int), .int .i64 a.proto, .int .i64 a.sp, .int .i64 a.dp]))
            have e46 := has_const (has_dep hd 29 (by kernel_rfl)) rfl rfl rfl (c := (.agg #[.int .i64 b.ver, .int .u64 (b.sh : Int), .int .u64 (b.sl : Int), .int .u64 (b.dh : Int), .int .u64 (b.dl : Int), .int .i64 b.proto, .int .i64 b.sp, .int .i64 b.dp]))
            refine do_enter (wanted_some (g := 24) rfl rfl rfl e41) (f := 25) (args := #[(.agg #[.int .i64 a.ver, .int .u64 (a.sh : Int), .int .u64 (a.sl : Int), .int .u64 (a.dh : Int), .int .u64 (a.dl : Int), .int .i64 a.proto, .int .i64 a.sp, .int .i64 a.dp]), (.agg #[.int .i64 b.ver, .int .u64 (b.sh : Int), .int .u64 (b.sl : Int), .int .u64 (b.dh : Int), .int .u64 (b.dl : Int), .int .i64 b.proto, .int .i64 b.sp, .int .i64 b.dp])]) (by rw [run_go3 25 _ _ rfl, ent25]; simp [eval_c, e45, e46]) ?_
            exact Calls.leaf (Lab.out _)
          | 31, ho =>
            have ho' : some _ = some o := ho
            cases ho'
            clear ho
            have e41 := has_const (has_dep hd 24 (by kernel_rfl)) rfl rfl rfl (c := (.bool false))
            have e47 := has_const (has_dep hd 30 (by kernel_rfl)) rfl rfl rfl (c := (.bool false))
            exact do_value (wanted_some (g := 24) rfl rfl rfl e41) (by rw [BigFrame.run_move (.tmp 47) rfl, e47]) rfl
          | 32, ho =>
            have ho' : some _ = some o := ho
            cases ho'
            clear ho
            have e48 := has_const (has_dep hd 31 (by kernel_rfl)) rfl rfl rfl (c := (.bool false))
            have e6 := known_slot hk 6 (by kernel_rfl) (v := .pointer (some ⟨q, 0, none⟩)) rfl
            obtain ⟨c0, c1, c2, c3, c4, c5, c6, c7⟩ := (HQ.out.carry ht (by simp)).key
            exact do_value (wanted_some (g := 31) rfl rfl rfl e48) (v := .agg #[.int .i64 b.ver, .int .u64 (b.sh : Int), .int .u64 (b.sl : Int), .int .u64 (b.dh : Int), .int .u64 (b.dl : Int), .int .i64 b.proto, .int .i64 b.sp, .int .i64 b.dp]) (run_value rfl (by rw [e6]; simp [go_sem, c0, c1, c2, c3, c4, c5, c6, c7])) rfl
          | 33, ho =>
            have ho' : some _ = some o := ho
            cases ho'
            clear ho
            have e48 := has_const (has_dep hd 31 (by kernel_rfl)) rfl rfl rfl (c := (.bool false))
            have e5 := known_slot hk 5 (by kernel_rfl) (v := .pointer (some ⟨p, 0, none⟩)) rfl
            obtain ⟨c0, c1, c2, c3, c4, c5, c6, c7⟩ := (HP.out.carry ht (by simp)).key
            exact do_value (wanted_some (g := 31) rfl rfl rfl e48) (v := .agg #[.int .i64 a.ver, .int .u64 (a.sh : Int), .int .u64 (a.sl : Int), .int .u64 (a.dh : Int), .int .u64 (a.dl : Int), .int .i64 a.proto, .int .i64 a.sp, .int .i64 a.dp]) (run_value rfl (by rw [e5]; simp [go_sem, c0, c1, c2, c3, c4, c5, c6, c7])) rfl
          | 34, ho =>
            have ho' : some _ = some o := ho
            cases ho'
            clear ho
            have e48 := has_const (has_dep hd 31 (by kernel_rfl)) rfl rfl rfl (c := (.bool false))
            have e49 := has_const (has_dep hd 32 (by kernel_rfl)) rfl rfl rfl (c := (.agg #[.int .i64 b.ver, .int .u64 (b.sh : Int), .int .u64 (b.sl : Int), .int .u64 (b.dh : Int), .int .u64 (b.dl : Int), .int .i64 b.proto, .int .i64 b.sp, .int .i64 b.dp]))
            have e50 := has_const (has_dep hd 33 (by kernel_rfl)) rfl rfl rfl (c := (.agg #[.int .i64 a.ver, .int .u64 (a.sh : Int), .int .u64 (a.sl : Int), .int .u64 (a.dh : Int), .int .u64 (a.dl : Int), .int .i64 a.proto, .int .i64 a.sp, .int .i64 a.dp]))
            refine do_enter (wanted_some (g := 31) rfl rfl rfl e48) (f := 25) (args := #[(.agg #[.int .i64 b.ver, .int .u64 (b.sh : Int), .int .u64 (b.sl : Int), .int .u64 (b.dh : Int), .int .u64 (b.dl : Int), .int .i64 b.proto, .int .i64 b.sp, .int .i64 b.dp]), (.agg #[.int .i64 a.ver, .int .u64 (a.sh : Int), .int .u64 (a.sl : Int), .int .u64 (a.dh : Int), .int .u64 (a.dl : Int), .int .i64 a.proto, .int .i64 a.sp, .int .i64 a.dp])]) (by rw [run_go3 25 _ _ rfl, ent25]; simp [eval_c, e49, e50]) ?_
            exact Calls.leaf (Lba.out _)
          | 35, ho =>
            have ho' : some _ = some o := ho
            cases ho'
            clear ho
            have e41 := has_const (has_dep hd 24 (by kernel_rfl)) rfl rfl rfl (c := (.bool false))
            have e48 := has_const (has_dep hd 31 (by kernel_rfl)) rfl rfl rfl (c := (.bool false))
            have e51 := has_const (has_dep hd 34 (by kernel_rfl)) rfl rfl rfl (c := (.bool true))
            exact do_value (wanted_some (g := 24) rfl rfl rfl e41) (by rw [run_pickF (c := .tmp 48) (x := .const (.bool true)) (y := .tmp 51) rfl e48, e51]) rfl
          | 36, ho =>
            have ho' : some _ = some o := ho
            cases ho'
            clear ho
            have e41 := has_const (has_dep hd 24 (by kernel_rfl)) rfl rfl rfl (c := (.bool false))
            have e44 := has_const (has_dep hd 27 (by kernel_rfl)) rfl rfl rfl (c := (.bool false))
            have e52 := has_const (has_dep hd 35 (by kernel_rfl)) rfl rfl rfl (c := (.bool true))
            exact do_value (wanted_some (g := 24) rfl rfl rfl e41) (v := .bool false) (run_value rfl (by rw [e44, e52]; simp [go_sem])) rfl
          | 37, ho =>
            have ho' : some _ = some o := ho
            cases ho'
            clear ho
            have e41 := has_const (has_dep hd 24 (by kernel_rfl)) rfl rfl rfl (c := (.bool false))
            have e53 := has_const (has_dep hd 36 (by kernel_rfl)) rfl rfl rfl (c := (.bool false))
            exact do_value (wanted_none rfl) (by rw [run_pickF (c := .tmp 41) (x := .const (.bool true)) (y := .tmp 53) rfl e41, e53]) rfl
          | q + 38, ho => exact absurd ho (by simp)
        · intro x w9 T9 _
          simp only [putL, Act.put, List.setIfInBounds_toArray, List.set_cons_succ, List.set_cons_zero]
          go_wp2_with fail
          go_meet
          exact ⟨rfl, HT.out.trans T9 (by simp), HP.out.carry T9 (by simp)⟩
      · have HEQ := Lib.hid he
        clear he
        refine wp_region_leaves (wd := wc) (Leaf.const (.agg #[.int .i64 a.ver, .int .u64 (a.sh : Int), .int .u64 (a.sl : Int), .int .u64 (a.dh : Int), .int .u64 (a.dl : Int), .int .i64 a.proto, .int .i64 a.sp, .int .i64 a.dp]) :: Leaf.const (.agg #[.int .i64 b.ver, .int .u64 (b.sh : Int), .int .u64 (b.sl : Int), .int .u64 (b.dh : Int), .int .u64 (b.dl : Int), .int .i64 b.proto, .int .i64 b.sp, .int .i64 b.dp]) :: Leaf.const (.bool false) :: Leaf.const ((.bool false)) :: Leaf.const (undef) :: Leaf.const (undef) :: Leaf.const (undef) :: Leaf.const (.bool false) :: Leaf.const ((.bool false)) :: Leaf.const (undef) :: Leaf.const (undef) :: Leaf.const (undef) :: Leaf.const (undef) :: Leaf.const (.bool false) :: Leaf.const ((.bool false)) :: Leaf.const (.agg #[.int .i64 a.ver, .int .u64 (a.sh : Int), .int .u64 (a.sl : Int), .int .u64 (a.dh : Int), .int .u64 (a.dl : Int), .int .i64 a.proto, .int .i64 a.sp, .int .i64 a.dp]) :: Leaf.const (.agg #[.int .i64 b.ver, .int .u64 (b.sh : Int), .int .u64 (b.sl : Int), .int .u64 (b.dh : Int), .int .u64 (b.dl : Int), .int .i64 b.proto, .int .i64 b.sp, .int .i64 b.dp]) :: Leaf.const (.bool false) :: Leaf.const ((.bool false)) :: Leaf.const (undef) :: Leaf.const (undef) :: Leaf.const (undef) :: Leaf.const (.bool false) :: Leaf.const ((.bool false)) :: Leaf.const ((.bool false)) :: Leaf.const (.agg #[.int .i64 a.ver, .int .u64 (a.sh : Int), .int .u64 (a.sl : Int), .int .u64 (a.dh : Int), .int .u64 (a.dl : Int), .int .i64 a.proto, .int .i64 a.sp, .int .i64 a.dp]) :: Leaf.const (.agg #[.int .i64 b.ver, .int .u64 (b.sh : Int), .int .u64 (b.sl : Int), .int .u64 (b.dh : Int), .int .u64 (b.dl : Int), .int .i64 b.proto, .int .i64 b.sp, .int .i64 b.dp]) :: Leaf.const (.bool true) :: Leaf.const (.agg #[.int .i64 a.ver, .int .u64 (a.sh : Int), .int .u64 (a.sl : Int), .int .u64 (a.dh : Int), .int .u64 (a.dl : Int), .int .i64 a.proto, .int .i64 a.sp, .int .i64 a.dp]) :: Leaf.const (.agg #[.int .i64 b.ver, .int .u64 (b.sh : Int), .int .u64 (b.sl : Int), .int .u64 (b.dh : Int), .int .u64 (b.dl : Int), .int .i64 b.proto, .int .i64 b.sp, .int .i64 b.dp]) :: Leaf.const (.bool false) :: Leaf.const ((.bool false)) :: Leaf.const (.agg #[.int .i64 b.ver, .int .u64 (b.sh : Int), .int .u64 (b.sl : Int), .int .u64 (b.dh : Int), .int .u64 (b.dl : Int), .int .i64 b.proto, .int .i64 b.sp, .int .i64 b.dp]) :: Leaf.const (.agg #[.int .i64 a.ver, .int .u64 (a.sh : Int), .int .u64 (a.sl : Int), .int .u64 (a.dh : Int), .int .u64 (a.dl : Int), .int .i64 a.proto, .int .i64 a.sp, .int .i64 a.dp]) :: Leaf.const (.bool false) :: Leaf.const ((.bool false)) :: Leaf.const (.bool false) :: Leaf.const ((.bool false)) :: []) (by kernel_rfl) (by kernel_rfl) (by kernel_rfl) ((Touch.refl _ _).drew) (trivial) ?_ ?_
        · intro i o ho ac w ht hk hd
          match i, ho with
          | 0, ho =>
            have ho' : some _ = some o := ho
            cases ho'
            clear ho
            have e5 := known_slot hk 5 (by kernel_rfl) (v := .pointer (some ⟨p, 0, none⟩)) rfl
            obtain ⟨c0, c1, c2, c3, c4, c5, c6, c7⟩ := (HP.out.carry ht (by simp)).key
            exact do_value (wanted_none rfl) (v := .agg #[.int .i64 a.ver, .int .u64 (a.sh : Int), .int .u64 (a.sl : Int), .int .u64 (a.dh : Int), .int .u64 (a.dl : Int), .int .i64 a.proto, .int .i64 a.sp, .int .i64 a.dp]) (run_value rfl (by rw [e5]; simp [go_sem, c0, c1, c2, c3, c4, c5, c6, c7])) rfl
          | 1, ho =>
            have ho' : some _ = some o := ho
            cases ho'
            clear ho
            have e6 := known_slot hk 6 (by kernel_rfl) (v := .pointer (some ⟨q, 0, none⟩)) rfl
            obtain ⟨c0, c1, c2, c3, c4, c5, c6, c7⟩ := (HQ.out.carry ht (by simp)).key
            exact do_value (wanted_none rfl) (v := .agg #[.int .i64 b.ver, .int .u64 (b.sh : Int), .int .u64 (b.sl : Int), .int .u64 (b.dh : Int), .int .u64 (b.dl : Int), .int .i64 b.proto, .int .i64 b.sp, .int .i64 b.dp]) (run_value rfl (by rw [e6]; simp [go_sem, c0, c1, c2, c3, c4, c5, c6, c7])) rfl
          | 2, ho =>
            have ho' : some _ = some o := ho
            cases ho'
            clear ho
            have e17 := has_const (has_dep hd 0 (by kernel_rfl)) rfl rfl rfl (c := (.agg #[.int .i64 a.ver, .int .u64 (a.sh : Int), .int .u64 (a.sl : Int), .int .u64 (a.dh : Int), .int .u64 (a.dl : Int), .int .i64 a.proto, .int .i64 a.sp, .int .i64 a.dp]))
            have e18 := has_const (has_dep hd 1 (by kernel_rfl)) rfl rfl rfl (c := (.agg #[.int .i64 b.ver, .int .u64 (b.sh : Int), .int .u64 (b.sl : Int), .int .u64 (b.dh : Int), .int .u64 (b.dl : Int), .int .i64 b.proto, .int .i64 b.sp, .int .i64 b.dp]))
            refine do_enter (wanted_none rfl) (f := 25) (args := #[(.agg #[.int .i64 a.ver, .int .u64 (a.sh : Int), .int .u64 (a.sl : Int), .int .u64 (a.dh : Int), .int .u64 (a.dl : Int), .int .i64 a.proto, .int .i64 a.sp, .int .i64 a.dp]), (.agg #[.int .i64 b.ver, .int .u64 (b.sh : Int), .int .u64 (b.sl : Int), .int .u64 (b.dh : Int), .int .u64 (b.dl : Int), .int .i64 b.proto, .int .i64 b.sp, .int .i64 b.dp])]) (by rw [run_go3 25 _ _ rfl, ent25]; simp [eval_c, e17, e18]) ?_
            exact Calls.leaf (Lab.out _)
          | 3, ho =>
            have ho' : some _ = some o := ho
            cases ho'
            clear ho
            have e19 := has_const (has_dep hd 2 (by kernel_rfl)) rfl rfl rfl (c := (.bool false))
            exact do_value (wanted_none rfl) (by rw [BigFrame.run_move (.tmp 19) rfl, e19]) rfl
          | 4, ho =>
            have ho' : some _ = some o := ho
            cases ho'
            clear ho
            have e20 := has_const (has_dep hd 3 (by kernel_rfl)) rfl rfl rfl (c := (.bool false))
            exact do_skip (wanted_not (g := 3) rfl rfl rfl e20) rfl
          | 5, ho =>
            have ho' : some _ = some o := ho
            cases ho'
            clear ho
            have e20 := has_const (has_dep hd 3 (by kernel_rfl)) rfl rfl rfl (c := (.bool false))
            exact do_skip (wanted_not (g := 3) rfl rfl rfl e20) rfl
          | 6, ho =>
            have ho' : some _ = some o := ho
            cases ho'
            clear ho
            have e20 := has_const (has_dep hd 3 (by kernel_rfl)) rfl rfl rfl (c := (.bool false))
            exact do_skip (wanted_not (g := 3) rfl rfl rfl e20) rfl
          | 7, ho =>
            have ho' : some _ = some o := ho
            cases ho'
            clear ho
            have e20 := has_const (has_dep hd 3 (by kernel_rfl)) rfl rfl rfl (c := (.bool false))
            exact do_value (wanted_none rfl) (by rw [run_pickF (c := .tmp 20) (x := .tmp 23) (y := .const (.bool false)) rfl e20, eval_c]) rfl
          | 8, ho =>
            have ho' : some _ = some o := ho
            cases ho'
            clear ho
            have e24 := has_const (has_dep hd 7 (by kernel_rfl)) rfl rfl rfl (c := (.bool false))
            exact do_value (wanted_none rfl) (by rw [BigFrame.run_move (.tmp 24) rfl, e24]) rfl
          | 9, ho =>
            have ho' : some _ = some o := ho
            cases ho'
            clear ho
            have e25 := has_const (has_dep hd 8 (by kernel_rfl)) rfl rfl rfl (c := (.bool false))
            exact do_skip (wanted_not (g := 8) rfl rfl rfl e25) rfl
          | 10, ho =>
            have ho' : some _ = some o := ho
            cases ho'
            clear ho
            have e25 := has_const (has_dep hd 8 (by kernel_rfl)) rfl rfl rfl (c := (.bool false))
            exact do_skip (wanted_not (g := 8) rfl rfl rfl e25) rfl
          | 11, ho =>
            have ho' : some _ = some o := ho
            cases ho'
            clear ho
            have e25 := has_const (has_dep hd 8 (by kernel_rfl)) rfl rfl rfl (c := (.bool false))
            exact do_skip (wanted_not (g := 8) rfl rfl rfl e25) rfl
          | 12, ho =>
            have ho' : some _ = some o := ho
            cases ho'
            clear ho
            have e25 := has_const (has_dep hd 8 (by kernel_rfl)) rfl rfl rfl (c := (.bool false))
            exact do_skip (wanted_not (g := 8) rfl rfl rfl e25) rfl
          | 13, ho =>
            have ho' : some _ = some o := ho
            cases ho'
            clear ho
            have e25 := has_const (has_dep hd 8 (by kernel_rfl)) rfl rfl rfl (c := (.bool false))
            exact do_value (wanted_none rfl) (by rw [run_pickF (c := .tmp 25) (x := .tmp 29) (y := .const (.bool false)) rfl e25, eval_c]) rfl
          | 14, ho =>
            have ho' : some _ = some o := ho
            cases ho'
            clear ho
            have e30 := has_const (has_dep hd 13 (by kernel_rfl)) rfl rfl rfl (c := (.bool false))
            exact do_value (wanted_none rfl) (by rw [BigFrame.run_move (.tmp 30) rfl, e30]) rfl
          | 15, ho =>
            have ho' : some _ = some o := ho
            cases ho'
            clear ho
            have e31 := has_const (has_dep hd 14 (by kernel_rfl)) rfl rfl rfl (c := (.bool false))
            have e5 := known_slot hk 5 (by kernel_rfl) (v := .pointer (some ⟨p, 0, none⟩)) rfl
            obtain ⟨c0, c1, c2, c3, c4, c5, c6, c7⟩ := (HP.out.carry ht (by simp)).key
            exact do_value (wanted_some (g := 14) rfl rfl rfl e31) (v := .agg #[.int .i64 a.ver, .int .u64 (a.sh : Int), .int .u64 (a.sl : Int), .int .u64 (a.dh : Int), .int .u64 (a.dl : Int), .int .i64 a.proto, .int .i64 a.sp, .int .i64 a.dp]) (run_value rfl (by rw [e5]; simp [go_sem, c0, c1, c2, c3, c4, c5, c6, c7])) rfl
          | 16, ho =>
            have ho' : some _ = some o := ho
            cases ho'
            clear ho
            have e31 := has_const (has_dep hd 14 (by kernel_rfl)) rfl rfl rfl (c := (.bool false))
            have e6 := known_slot hk 6 (by kernel_rfl) (v := .pointer (some ⟨q, 0, none⟩)) rfl
            obtain ⟨c0, c1, c2, c3, c4, c5, c6, c7⟩ := (HQ.out.carry ht (by simp)).key
            exact do_value (wanted_some (g := 14) rfl rfl rfl e31) (v := .agg #[.int .i64 b.ver, .int .u64 (b.sh : Int), .int .u64 (b.sl : Int), .int .u64 (b.dh : Int), .int .u64 (b.dl : Int), .int .i64 b.proto, .int .i64 b.sp, .int .i64 b.dp]) (run_value rfl (by rw [e6]; simp [go_sem, c0, c1, c2, c3, c4, c5, c6, c7])) rfl
          | 17, ho =>
            have ho' : some _ = some o := ho
            cases ho'
            clear ho
            have e31 := has_const (has_dep hd 14 (by kernel_rfl)) rfl rfl rfl (c := (.bool false))
            have e32 := has_const (has_dep hd 15 (by kernel_rfl)) rfl rfl rfl (c := (.agg #[.int .i64 a.ver, .int .u64 (a.sh : Int), .int .u64 (a.sl : Int), .int .u64 (a.dh : Int), .int .u64 (a.dl : Int), .int .i64 a.proto, .int .i64 a.sp, .int .i64 a.dp]))
            have e33 := has_const (has_dep hd 16 (by kernel_rfl)) rfl rfl rfl (c := (.agg #[.int .i64 b.ver, .int .u64 (b.sh : Int), .int .u64 (b.sl : Int), .int .u64 (b.dh : Int), .int .u64 (b.dl : Int), .int .i64 b.proto, .int .i64 b.sp, .int .i64 b.dp]))
            refine do_enter (wanted_some (g := 14) rfl rfl rfl e31) (f := 25) (args := #[(.agg #[.int .i64 a.ver, .int .u64 (a.sh : Int), .int .u64 (a.sl : Int), .int .u64 (a.dh : Int), .int .u64 (a.dl : Int), .int .i64 a.proto, .int .i64 a.sp, .int .i64 a.dp]), (.agg #[.int .i64 b.ver, .int .u64 (b.sh : Int), .int .u64 (b.sl : Int), .int .u64 (b.dh : Int), .int .u64 (b.dl : Int), .int .i64 b.proto, .int .i64 b.sp, .int .i64 b.dp])]) (by rw [run_go3 25 _ _ rfl, ent25]; simp [eval_c, e32, e33]) ?_
            exact Calls.leaf (Lab.out _)
          | 18, ho =>
            have ho' : some _ = some o := ho
            cases ho'
            clear ho
            have e31 := has_const (has_dep hd 14 (by kernel_rfl)) rfl rfl rfl (c := (.bool false))
            have e34 := has_const (has_dep hd 17 (by kernel_rfl)) rfl rfl rfl (c := (.bool false))
            exact do_value (wanted_some (g := 14) rfl rfl rfl e31) (by rw [BigFrame.run_move (.tmp 34) rfl, e34]) rfl
          | 19, ho =>
            have ho' : some _ = some o := ho
            cases ho'
            clear ho
            have e35 := has_const (has_dep hd 18 (by kernel_rfl)) rfl rfl rfl (c := (.bool false))
            exact do_skip (wanted_not (g := 18) rfl rfl rfl e35) rfl
          | 20, ho =>
            have ho' : some _ = some o := ho
            cases ho'
            clear ho
            have e35 := has_const (has_dep hd 18 (by kernel_rfl)) rfl rfl rfl (c := (.bool false))
            exact do_skip (wanted_not (g := 18) rfl rfl rfl e35) rfl
          | 21, ho =>
            have ho' : some _ = some o := ho
            cases ho'
            clear ho
            have e35 := has_const (has_dep hd 18 (by kernel_rfl)) rfl rfl rfl (c := (.bool false))
            exact do_skip (wanted_not (g := 18) rfl rfl rfl e35) rfl
          | 22, ho =>
            have ho' : some _ = some o := ho
            cases ho'
            clear ho
            have e31 := has_const (has_dep hd 14 (by kernel_rfl)) rfl rfl rfl (c := (.bool false))
            have e35 := has_const (has_dep hd 18 (by kernel_rfl)) rfl rfl rfl (c := (.bool false))
            exact do_value (wanted_some (g := 14) rfl rfl rfl e31) (by rw [run_pickF (c := .tmp 35) (x := .tmp 38) (y := .const (.bool false)) rfl e35, eval_c]) rfl
          | 23, ho =>
            have ho' : some _ = some o := ho
            cases ho'
            clear ho
            have e31 := has_const (has_dep hd 14 (by kernel_rfl)) rfl rfl rfl (c := (.bool false))
            have e39 := has_const (has_dep hd 22 (by kernel_rfl)) rfl rfl rfl (c := (.bool false))
            exact do_value (wanted_none rfl) (by rw [run_pickF (c := .tmp 31) (x := .const (.bool true)) (y := .tmp 39) rfl e31, e39]) rfl
          | 24, ho =>
            have ho' : some _ = some o := ho
            cases ho'
            clear ho
            have e40 := has_const (has_dep hd 23 (by kernel_rfl)) rfl rfl rfl (c := (.bool false))
            exact do_value (wanted_none rfl) (by rw [BigFrame.run_move (.tmp 40) rfl, e40]) rfl
          | 25, ho =>
            have ho' : some _ = some o := ho
            cases ho'
            clear ho
            have e41 := has_const (has_dep hd 24 (by kernel_rfl)) rfl rfl rfl (c := (.bool false))
            have e5 := known_slot hk 5 (by kernel_rfl) (v := .pointer (some ⟨p, 0, none⟩)) rfl
            obtain ⟨c0, c1, c2, c3, c4, c5, c6, c7⟩ := (HP.out.carry ht (by simp)).key
            exact do_value (wanted_some (g := 24) rfl rfl rfl e41) (v := .agg #[.int .i64 a.ver, .int .u64 (a.sh : Int), .int .u64 (a.sl : Int), .int .u64 (a.dh : Int), .int .u64 (a.dl : Int), .int .i64 a.proto, .int .i64 a.sp, .int .i64 a.dp]) (run_value rfl (by rw [e5]; simp [go_sem, c0, c1, c2, c3, c4, c5, c6, c7])) rfl
          | 26, ho =>
            have ho' : some _ = some o := ho
            cases ho'
            clear ho
            have e41 := has_const (has_dep hd 24 (by kernel_rfl)) rfl rfl rfl (c := (.bool false))
            have e6 := known_slot hk 6 (by kernel_rfl) (v := .pointer (some ⟨q, 0, none⟩)) rfl
            obtain ⟨c0, c1, c2, c3, c4, c5, c6, c7⟩ := (HQ.out.carry ht (by simp)).key
            exact do_value (wanted_some (g := 24) rfl rfl rfl e41) (v := .agg #[.int .i64 b.ver, .int .u64 (b.sh : Int), .int .u64 (b.sl : Int), .int .u64 (b.dh : Int), .int .u64 (b.dl : Int), .int .i64 b.proto, .int .i64 b.sp, .int .i64 b.dp]) (run_value rfl (by rw [e6]; simp [go_sem, c0, c1, c2, c3, c4, c5, c6, c7])) rfl
          | 27, ho =>
            have ho' : some _ = some o := ho
            cases ho'
            clear ho
            have e41 := has_const (has_dep hd 24 (by kernel_rfl)) rfl rfl rfl (c := (.bool false))
            have e42 := has_const (has_dep hd 25 (by kernel_rfl)) rfl rfl rfl (c := (.agg #[.int .i64 a.ver, .int .u64 (a.sh : Int), .int .u64 (a.sl : Int), .int .u64 (a.dh : Int), .int .u64 (a.dl : Int), .int .i64 a.proto, .int .i64 a.sp, .int .i64 a.dp]))
            have e43 := has_const (has_dep hd 26 (by kernel_rfl)) rfl rfl rfl (c := (.agg #[.int .i64 b.ver, .int .u64 (b.sh : Int), .int .u64 (b.sl : Int), .int .u64 (b.dh : Int), .int .u64 (b.dl : Int), .int .i64 b.proto, .int .i64 b.sp, .int .i64 b.dp]))
            have hq := key_eq_run a b _ HEQ.out w
            exact do_value (wanted_some (g := 24) rfl rfl rfl e41) (v := .bool true) (run_value rfl (by rw [e42, e43]; simp [eqGuard]; exact hq)) rfl
          | 28, ho =>
            have ho' : some _ = some o := ho
            cases ho'
            clear ho
            have e41 := has_const (has_dep hd 24 (by kernel_rfl)) rfl rfl rfl (c := (.bool false))
            have e5 := known_slot hk 5 (by kernel_rfl) (v := .pointer (some ⟨p, 0, none⟩)) rfl
            obtain ⟨c0, c1, c2, c3, c4, c5, c6, c7⟩ := (HP.out.carry ht (by simp)).key
            exact do_value (wanted_some (g := 24) rfl rfl rfl e41) (v := .agg #[.int .i64 a.ver, .int .u64 (a.sh : Int), .int .u64 (a.sl : Int), .int .u64 (a.dh : Int), .int .u64 (a.dl : Int), .int .i64 a.proto, .int .i64 a.sp, .int .i64 a.dp]) (run_value rfl (by rw [e5]; simp [go_sem, c0, c1, c2, c3, c4, c5, c6, c7])) rfl
          | 29, ho =>
            have ho' : some _ = some o := ho
            cases ho'
            clear ho
            have e41 := has_const (has_dep hd 24 (by kernel_rfl)) rfl rfl rfl (c := (.bool false))
            have e6 := known_slot hk 6 (by kernel_rfl) (v := .pointer (some ⟨q, 0, none⟩)) rfl
            obtain ⟨c0, c1, c2, c3, c4, c5, c6, c7⟩ := (HQ.out.carry ht (by simp)).key
            exact do_value (wanted_some (g := 24) rfl rfl rfl e41) (v := .agg #[.int .i64 b.ver, .int .u64 (b.sh : Int), .int .u64 (b.sl : Int), .int .u64 (b.dh : Int), .int .u64 (b.dl : Int), .int .i64 b.proto, .int .i64 b.sp, .int .i64 b.dp]) (run_value rfl (by rw [e6]; simp [go_sem, c0, c1, c2, c3, c4, c5, c6, c7])) rfl
          | 30, ho =>
            have ho' : some _ = some o := ho
            cases ho'
            clear ho
            have e41 := has_const (has_dep hd 24 (by kernel_rfl)) rfl rfl rfl (c := (.bool false))
            have e45 := has_const (has_dep hd 28 (by kernel_rfl)) rfl rfl rfl (c := (.agg #[.int .i64 a.ver, .int .u64 (a.sh : Int), .int .u64 (a.sl : Int), .int .u64 (a.dh : Int), .int .u64 (a.dl : Int), .int .i64 a.proto, .int .i64 a.sp, .int .i64 a.dp]))
            have e46 := has_const (has_dep hd 29 (by kernel_rfl)) rfl rfl rfl (c := (.agg #[.int .i64 b.ver, .int .u64 (b.sh : Int), .int .u64 (b.sl : Int), .int .u64 (b.dh : Int), .int .u64 (b.dl : Int), .int .i64 b.proto, .int .i64 b.sp, .int .i64 b.dp]))
            refine do_enter (wanted_some (g := 24) rfl rfl rfl e41) (f := 25) (args := #[(.agg #[.int .i64 a.ver, .int .u64 (a.sh : Int), .int .u64 (a.sl : Int), .int .u64 (a.dh : Int), .int .u64 (a.dl : Int), .int .i64 a.proto, .int .i64 a.sp, .int .i64 a.dp]), (.agg #[.int .i64 b.ver, .int .u64 (b.sh : Int), .int .u64 (b.sl : Int), .int .u64 (b.dh : Int), .int .u64 (b.dl : Int), .int .i64 b.proto, .int .i64 b.sp, .int .i64 b.dp])]) (by rw [run_go3 25 _ _ rfl, ent25]; simp [eval_c, e45, e46]) ?_
            exact Calls.leaf (Lab.out _)
          | 31, ho =>
            have ho' : some _ = some o := ho
            cases ho'
            clear ho
            have e41 := has_const (has_dep hd 24 (by kernel_rfl)) rfl rfl rfl (c := (.bool false))
            have e47 := has_const (has_dep hd 30 (by kernel_rfl)) rfl rfl rfl (c := (.bool false))
            exact do_value (wanted_some (g := 24) rfl rfl rfl e41) (by rw [BigFrame.run_move (.tmp 47) rfl, e47]) rfl
          | 32, ho =>
            have ho' : some _ = some o := ho
            cases ho'
            clear ho
            have e48 := has_const (has_dep hd 31 (by kernel_rfl)) rfl rfl rfl (c := (.bool false))
            have e6 := known_slot hk 6 (by kernel_rfl) (v := .pointer (some ⟨q, 0, none⟩)) rfl
            obtain ⟨c0, c1, c2, c3, c4, c5, c6, c7⟩ := (HQ.out.carry ht (by simp)).key
            exact do_value (wanted_some (g := 31) rfl rfl rfl e48) (v := .agg #[.int .i64 b.ver, .int .u64 (b.sh : Int), .int .u64 (b.sl : Int), .int .u64 (b.dh : Int), .int .u64 (b.dl : Int), .int .i64 b.proto, .int .i64 b.sp, .int .i64 b.dp]) (run_value rfl (by rw [e6]; simp [go_sem, c0, c1, c2, c3, c4, c5, c6, c7])) rfl
          | 33, ho =>
            have ho' : some _ = some o := ho
            cases ho'
            clear ho
            have e48 := has_const (has_dep hd 31 (by kernel_rfl)) rfl rfl rfl (c := (.bool false))
            have e5 := known_slot hk 5 (by kernel_rfl) (v := .pointer (some ⟨p, 0, none⟩)) rfl
            obtain ⟨c0, c1, c2, c3, c4, c5, c6, c7⟩ := (HP.out.carry ht (by simp)).key
            exact do_value (wanted_some (g := 31) rfl rfl rfl e48) (v := .agg #[.int .i64 a.ver, .int .u64 (a.sh : Int), .int .u64 (a.sl : Int), .int .u64 (a.dh : Int), .int .u64 (a.dl : Int), .int .i64 a.proto, .int .i64 a.sp, .int .i64 a.dp]) (run_value rfl (by rw [e5]; simp [go_sem, c0, c1, c2, c3, c4, c5, c6, c7])) rfl
          | 34, ho =>
            have ho' : some _ = some o := ho
            cases ho'
            clear ho
            have e48 := has_const (has_dep hd 31 (by kernel_rfl)) rfl rfl rfl (c := (.bool false))
            have e49 := has_const (has_dep hd 32 (by kernel_rfl)) rfl rfl rfl (c := (.agg #[.int .i64 b.ver, .int .u64 (b.sh : Int), .int .u64 (b.sl : Int), .int .u64 (b.dh : Int), .int .u64 (b.dl : Int), .int .i64 b.proto, .int .i64 b.sp, .int .i64 b.dp]))
            have e50 := has_const (has_dep hd 33 (by kernel_rfl)) rfl rfl rfl (c := (.agg #[.int .i64 a.ver, .int .u64 (a.sh : Int), .int .u64 (a.sl : Int), .int .u64 (a.dh : Int), .int .u64 (a.dl : Int), .int .i64 a.proto, .int .i64 a.sp, .int .i64 a.dp]))
            refine do_enter (wanted_some (g := 31) rfl rfl rfl e48) (f := 25) (args := #[(.agg #[.int .i64 b.ver, .int .u64 (b.sh : Int), .int .u64 (b.sl : Int), .int .u64 (b.dh : Int), .int .u64 (b.dl : Int), .int .i64 b.proto, .int .i64 b.sp, .int .i64 b.dp]), (.agg #[.int .i64 a.ver, .int .u64 (a.sh : Int), .int .u64 (a.sl : Int), .int .u64 (a.dh : Int), .int .u64 (a.dl : Int), .int .i64 a.proto, .int .i64 a.sp, .int .i64 a.dp])]) (by rw [run_go3 25 _ _ rfl, ent25]; simp [eval_c, e49, e50]) ?_
            exact Calls.leaf (Lba.out _)
          | 35, ho =>
            have ho' : some _ = some o := ho
            cases ho'
            clear ho
            have e41 := has_const (has_dep hd 24 (by kernel_rfl)) rfl rfl rfl (c := (.bool false))
            have e48 := has_const (has_dep hd 31 (by kernel_rfl)) rfl rfl rfl (c := (.bool false))
            have e51 := has_const (has_dep hd 34 (by kernel_rfl)) rfl rfl rfl (c := (.bool false))
            exact do_value (wanted_some (g := 24) rfl rfl rfl e41) (by rw [run_pickF (c := .tmp 48) (x := .const (.bool true)) (y := .tmp 51) rfl e48, e51]) rfl
          | 36, ho =>
            have ho' : some _ = some o := ho
            cases ho'
            clear ho
            have e41 := has_const (has_dep hd 24 (by kernel_rfl)) rfl rfl rfl (c := (.bool false))
            have e44 := has_const (has_dep hd 27 (by kernel_rfl)) rfl rfl rfl (c := (.bool true))
            have e52 := has_const (has_dep hd 35 (by kernel_rfl)) rfl rfl rfl (c := (.bool false))
            exact do_value (wanted_some (g := 24) rfl rfl rfl e41) (v := .bool false) (run_value rfl (by rw [e44, e52]; simp [go_sem])) rfl
          | 37, ho =>
            have ho' : some _ = some o := ho
            cases ho'
            clear ho
            have e41 := has_const (has_dep hd 24 (by kernel_rfl)) rfl rfl rfl (c := (.bool false))
            have e53 := has_const (has_dep hd 36 (by kernel_rfl)) rfl rfl rfl (c := (.bool false))
            exact do_value (wanted_none rfl) (by rw [run_pickF (c := .tmp 41) (x := .const (.bool true)) (y := .tmp 53) rfl e41, e53]) rfl
          | q + 38, ho => exact absurd ho (by simp)
        · intro x w9 T9 _
          simp only [putL, Act.put, List.setIfInBounds_toArray, List.set_cons_succ, List.set_cons_zero]
          go_wp2_with fail
          go_meet
          exact ⟨rfl, HT.out.trans T9 (by simp), HP.out.carry T9 (by simp)⟩
    case rest =>
      clear HQ HR HP HT Lab Lbc Lac Lba htr has heq
      obtain ⟨rfl, hT, hP⟩ := hcut
      have HP := Lib.hid hP
      have HT := Lib.hid (T0.out.trans hT (by simp))
      have HK1 := Lib.hid (HK.out.carry hT (by simp))
      obtain ⟨c0, c1, c2, c3, c4, c5, c6, c7⟩ := hP.key
      have l0 := hP.lt
      clear hP hT
      rename_i wd _
      by_cases hgood : rightK a = true ∧ leastK a ≤ sz ∧ sz ≤ 2048
      · obtain ⟨g1, g2, g3⟩ := hgood
        obtain ⟨x1, x2, x3⟩ := mb g1 g2 g3
        have OF := Lib.hid (fun w (K : Tab6 w) => OF.out w K (by omega))
        have hne := not_empty (makeK a sz) (by have := leastV_in a.proto; have := headL_in a.ver; unfold leastK at g2; rw [if_pos g1] at g2; omega)
        rw [x2, x3] at OF
        rw [g1] at RI
        have hss := S_size (makeK a sz)
        have d1 : decide (sz < leastK a) = false := by simpa using g2
        have d2 : decide (2048 < sz) = false := by simpa using g3
        have d3 : (((makeK a sz).length : Int) == sz) = true := by simpa using x1
        clear mb hbad x1 x2 x3 g1 g2 g3 hsz
        generalize makeK a sz = L at *
        generalize leastK a = le at *
        go_wp2_with fail
        refine (MK.out _ HK1.out).mono ?_
        rintro e w3 ⟨rfl, t3⟩
        have HP3 := HP.out.carry t3 (by simp)
        have HT3 := Lib.hid (HT.out.trans t3 (by simp))
        have HK3 := Lib.hid (HK1.out.carry t3 (by simp))
        clear c0 c1 c2 c3 c4 c5 c6 c7 l0 t3
        obtain ⟨c0, c1, c2, c3, c4, c5, c6, c7⟩ := HP3.key
        have l0 := HP3.lt
        have HP4 := Lib.hid HP3
        clear HP3
        go_wp2_with fail
        refine (RI.out _ HK3.out).mono ?_
        rintro e w4 ⟨rfl, t4⟩
        have HP5 := HP4.out.carry t4 (by simp)
        have HT4 := Lib.hid (HT3.out.trans t4 (by simp))
        have HK4 := Lib.hid (HK3.out.carry t4 (by simp))
        clear c0 c1 c2 c3 c4 c5 c6 c7 l0 t4
        obtain ⟨c0, c1, c2, c3, c4, c5, c6, c7⟩ := HP5.key
        have l0 := HP5.lt
        have HP6 := Lib.hid HP5
        clear HP5
        go_wp2_with fail
        refine (LE.out _ HK4.out).mono ?_
        rintro e w5 ⟨rfl, t5⟩
        have HP7 := HP6.out.carry t5 (by simp)
        have HT5 := Lib.hid (HT4.out.trans t5 (by simp))
        have HK5 := Lib.hid (HK4.out.carry t5 (by simp))
        clear c0 c1 c2 c3 c4 c5 c6 c7 l0 t5
        go_wp2_with fail
        refine (OF.out _ HK5.out).mono ?_
        rintro e w6 ⟨rfl, t6⟩
        have TA := (Touch.refl [] w6).alloc (.cells #[.int .i64 a.ver, .int .u64 (a.sh : Int), .int .u64 (a.sl : Int), .int .u64 (a.dh : Int), .int .u64 (a.dl : Int), .int .i64 a.proto, .int .i64 a.sp, .int .i64 a.dp] 41)
        have B9 := BoxV.new w6 41 #[.int .i64 a.ver, .int .u64 (a.sh : Int), .int .u64 (a.sl : Int), .int .u64 (a.dh : Int), .int .u64 (a.dl : Int), .int .i64 a.proto, .int .i64 a.sp, .int .i64 a.dp]
        have HP8 := (HP7.carry t6 (by simp)).carry TA (by simp)
        have HT6 := Lib.hid ((HT5.out.trans t6 (by simp)).trans TA (by simp))
        have HK6 := Lib.hid ((HK5.out.carry t6 (by simp)).carry TA (by simp))
        clear HP7 t6
        go_upto_region 8 with fail
        generalize hw7 : w6.alloc _ = w7 at *
        clear hw7 TA
        obtain ⟨c0, c1, c2, c3, c4, c5, c6, c7⟩ := HP8.key
        obtain ⟨e0, e1, e2, e3, e4, e5, e6, e7⟩ := B9.key
        have l8 := HP8.lt
        have l9 := B9.lt
        clear HP8 B9
        go_wp2_with fail
        refine (LV.out _ HK6.out).mono ?_
        rintro e w8 ⟨rfl, t8⟩
        have HT8 := Lib.hid (HT6.out.trans t8 (by simp))
        clear t8
        go_wp2_with fail
        go_ret
        exact ⟨rfl, HT8.out.below (by simp) (Nat.le_refl _)⟩
      · have hmk : makeK a sz = [] := hbad fun h1 h2 h3 => hgood ⟨h1, h2, h3⟩
        rw [hmk] at MK
        have ways : rightK a = false ∨ (rightK a = true ∧ decide (sz < leastK a) = true) ∨ (rightK a = true ∧ decide (sz < leastK a) = false ∧ decide (2048 < sz) = true) := by
          cases hr : rightK a
          · exact .inl rfl
          · by_cases h2 : sz < leastK a
            · exact .inr (.inl ⟨rfl, by simpa using h2⟩)
            · refine .inr (.inr ⟨rfl, by simpa using h2, ?_⟩)
              by_cases h3 : sz ≤ 2048
              · exact absurd ⟨hr, by omega, h3⟩ hgood
              · simp; omega
        clear mb hbad OF hmk hgood hsz
        rw [show S [] = ⟨#[]⟩ from rfl] at MK
        rcases ways with hr | ⟨hr, d1⟩ | ⟨hr, d1, d2⟩
        all_goals
          rw [hr] at RI
          generalize leastK a = le at *
          go_wp2_with fail
          refine (MK.out _ HK1.out).mono ?_
          rintro e w3 ⟨rfl, t3⟩
          have HP3 := HP.out.carry t3 (by simp)
          have HT3 := Lib.hid (HT.out.trans t3 (by simp))
          have HK3 := Lib.hid (HK1.out.carry t3 (by simp))
          clear c0 c1 c2 c3 c4 c5 c6 c7 l0 t3
          obtain ⟨c0, c1, c2, c3, c4, c5, c6, c7⟩ := HP3.key
          have l0 := HP3.lt
          have HP4 := Lib.hid HP3
          clear HP3
          go_wp2_with fail
          refine (RI.out _ HK3.out).mono ?_
          rintro e w4 ⟨rfl, t4⟩
          have HP5 := HP4.out.carry t4 (by simp)
          have HT4 := Lib.hid (HT3.out.trans t4 (by simp))
          have HK4 := Lib.hid (HK3.out.carry t4 (by simp))
          clear c0 c1 c2 c3 c4 c5 c6 c7 l0 t4
          obtain ⟨c0, c1, c2, c3, c4, c5, c6, c7⟩ := HP5.key
          have l0 := HP5.lt
          clear HP5
          go_wp2_with fail
        · refine (LV.out _ HK4.out).mono ?_
          rintro e w8 ⟨rfl, t8⟩
          have HT8 := Lib.hid (HT4.out.trans t8 (by simp))
          clear t8
          go_wp2_with fail
          go_ret
          exact ⟨rfl, HT8.out.below (by simp) (Nat.le_refl _)⟩
        all_goals
          refine (LE.out _ HK4.out).mono ?_
          rintro e w5 ⟨rfl, t5⟩
          have HT5 := Lib.hid (HT4.out.trans t5 (by simp))
          have HK5 := Lib.hid (HK4.out.carry t5 (by simp))
          clear c0 c1 c2 c3 c4 c5 c6 c7 l0 t5
          go_wp2_with fail
          refine (LV.out _ HK5.out).mono ?_
          rintro e w8 ⟨rfl, t8⟩
          have HT8 := Lib.hid (HT5.out.trans t8 (by simp))
          clear t8
          go_wp2_with fail
          go_ret
          exact ⟨rfl, HT8.out.below (by simp) (Nat.le_refl _)⟩
end Go.Proofs.YtdpaiegojioimaaDoor
