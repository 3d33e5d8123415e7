/-
  Contracts of layer 30 (credit): Spend, Visit.
-/
import Derived.Test.YtcggpgjnjfjfnaaCredit2
namespace Go.Proofs.Ytcggpgjnjfjfnaa
open Go.ChangeShapes Go.WideShapes Go.ChangeAt Go.RowKit Go.Deep Go.Maps
set_option linter.unusedVariables false

def size2048 (n : Int) : Int := if 2048 < n then 2048 else if 0 < n then n else 0
theorem size_cases (n : Int) : (n ≤ 0 ∧ size2048 n = 0) ∨ (0 < n ∧ n ≤ 2048 ∧ size2048 n = n) ∨ (2048 < n ∧ size2048 n = 2048) := by
  unfold size2048
  repeat' split
  all_goals omega

section
variable {w : World} {p b s : Nat} {C : Int → Option (Int × Int)}

set_option maxHeartbeats 1000000 in
theorem spend_yes (h : CredAt w p b s C) (i n : Int) (hi : i64k i) (x : Int × Int) (hx : C i = some x) (hs : s < 1000) :
    Calls Try.prog 55 #[.pointer (some ⟨p, 0, none⟩), .int .i64 i, .int .i64 n] w (CredPost p b s (updC C i (some (clampC x.2 (satSub x.1 (size2048 n)), x.2))) (.bool true) w) := by
  have D := Lib.hid (find_yes h i hi x hx)
  obtain ⟨c, q⟩ := x
  have hk := h.ok i _ hx
  have HX := Lib.hid hx
  have hq : 1 ≤ q := hk.1
  have hr := clampC_in (n := satSub c (size2048 n)) hq
  have HR := Lib.hid (show okAcc (clampC q (satSub c (size2048 n)), q) from ⟨hk.1, hk.2.1, hr.1, hr.2⟩)
  have H := Lib.hid h
  clear h hx hk hr
  have hz := size_cases n
  generalize size2048 n = z at *
  go_enter Try.func55, Try.ntmps55
  go_wp2_with fail
  refine (D.out).mono ?_
  rintro e w1 ⟨rfl, t1⟩
  have h2 := Sees.mk' H.out t1 c q
  clear t1
  go_upto_region 3 with fail
  generalize w1.alloc (.cells #[.int .i64 c, .int .i64 q] 95) = w2 at *
  have k0 : ∀ x : Cls w2, x.val.cell? ⟨p, 0, none⟩ = some (.map (some b)) := fun x => (h2.on x.property).at2.box.c0
  have k1 : ∀ x : Cls w2, x.val.cell? ⟨w1.heap.size, 0, none⟩ = some (.int .i64 c) := fun x => (h2.on x.property).a0
  have k2 : ∀ x : Cls w2, x.val.cell? ⟨w1.heap.size, 1, none⟩ = some (.int .i64 q) := fun x => (h2.on x.property).a1
  have H2 := Lib.hid h2
  clear h2
  rcases hz with ⟨g, rfl⟩ | ⟨g, g', rfl⟩ | ⟨g, rfl⟩
  all_goals
    refine wp_region_tail (wd := w2) 13 (by kernel_rfl) (by kernel_rfl) ((Touch.refl _ _).drew) ?_
    simp only [List.take_succ_cons, List.take_zero, List.drop_succ_cons, List.drop_zero]
    repeat (first | go_big_quiet_step ((first | (go_at_call 66; exact Calls.cls_same (sub_any' _ _ _)) | (go_at_call 64; exact Calls.cls_at (set_touch _ _ _ _ hq)))) | quiet_step ((first | (go_at_call 66; exact Calls.cls_same (sub_any' _ _ _)) | (go_at_call 64; exact Calls.cls_at (set_touch _ _ _ _ hq)))))
    refine wpQuiet_nil ?_
    intro x
    obtain ⟨w3, hrun, ha, ht, _⟩ := (H2.out.on x.property).store hi hs HX.out _ q HR.out
    have HA := Lib.hid ha
    have HT := Lib.hid ht
    clear ha ht k0 k1 k2
    go_wp2_with fail
    go_ret
    exact ⟨rfl, HA.out, HT.out⟩
theorem spend_no (i n : Int) (v : Value) (D : Hid (Calls Try.prog 63 #[v, .int .i64 i] w (FindPost (0, 0) false w))) :
    Calls Try.prog 55 #[v, .int .i64 i, .int .i64 n] w fun e w' => e = .returned (.bool false) ∧ Touch [] w w' := by
  go_enter Try.func55, Try.ntmps55
  go_wp2_with fail
  refine (D.out).mono ?_
  rintro e w1 ⟨rfl, t1⟩
  have T1 := Lib.hid t1
  clear t1
  go_wp2_with fail
  go_ret
  exact ⟨rfl, T1.out.alloc _⟩

set_option maxHeartbeats 1000000 in
theorem visit_yes (h : CredAt w p b s C) (i : Int) (hi : i64k i) (x : Int × Int) (hx : C i = some x) (hs : s < 1000) :
    Calls Try.prog 53 #[.pointer (some ⟨p, 0, none⟩), .int .i64 i] w
      (CredPost p b s (updC C i (some (clampC x.2 (satAdd x.1 x.2), x.2))) (.tuple #[.int .i64 (clampC x.2 (satAdd x.1 x.2)), .bool true]) w) := by
  have D := Lib.hid (find_yes h i hi x hx)
  obtain ⟨c, q⟩ := x
  have hk := h.ok i _ hx
  have HX := Lib.hid hx
  have hq : 1 ≤ q := hk.1
  have hr := clampC_in (n := satAdd c q) hq
  have HR := Lib.hid (show okAcc (clampC q (satAdd c q), q) from ⟨hk.1, hk.2.1, hr.1, hr.2⟩)
  have HS := Lib.hid (fun w => set_touch c q (satAdd c q) w hq)
  have HS0 := Lib.hid (fun w => add_any' c q w)
  generalize clampC q (satAdd c q) = r at *
  generalize satAdd c q = d at *
  have H := Lib.hid h
  clear h hx hk hr
  go_enter Try.func53, Try.ntmps53
  go_wp2_with fail
  refine (D.out).mono ?_
  rintro e w1 ⟨rfl, t1⟩
  have h2 := Sees.mk' H.out t1 c q
  have fz := (Box2.new w1 95 (.int .i64 c) (.int .i64 q)).fr
  have bx := Box2.new w1 95 (.int .i64 c) (.int .i64 q)
  have ne : p ≠ w1.heap.size := by have := H.out.box.lt; have := t1.size; omega
  have nb : b ≠ w1.heap.size := by have := H.out.map.lt; have := t1.size; omega
  clear t1
  go_upto_region 4 with fail
  generalize w1.alloc (.cells #[.int .i64 c, .int .i64 q] 95) = w2 at *
  have k0 : ∀ x : Cls w2, x.val.cell? ⟨p, 0, none⟩ = some (.map (some b)) := fun x => (h2.on x.property).at2.box.c0
  have k1 : ∀ x : Cls w2, x.val.cell? ⟨w1.heap.size, 0, none⟩ = some (.int .i64 c) := fun x => (h2.on x.property).a0
  have k2 : ∀ x : Cls w2, x.val.cell? ⟨w1.heap.size, 1, none⟩ = some (.int .i64 q) := fun x => (h2.on x.property).a1
  have H2 := Lib.hid h2
  have BX := Lib.hid bx
  clear h2 fz bx
  refine wp_region_tail (wd := w2) 7 (by kernel_rfl) (by kernel_rfl) ((Touch.refl _ _).drew) ?_
  simp only [List.take_succ_cons, List.take_zero, List.drop_succ_cons, List.drop_zero]
  repeat (first | go_big_quiet_step ((first | (go_at_call 65; exact Calls.cls_same (HS0.out _)) | (go_at_call 64; exact Calls.cls_at (HS.out _)))) | quiet_step ((first | (go_at_call 65; exact Calls.cls_same (HS0.out _)) | (go_at_call 64; exact Calls.cls_at (HS.out _)))))
  refine wpQuiet_nil ?_
  intro x
  have bx := BX.out.carry x.property (by simp)
  have f0 := bx.fr 0
  have f1 := bx.fr 1
  have e0 := bx.c0
  have e1 := bx.c1
  have h3 := H2.out.on x.property
  have T3 := Lib.hid (((Touch.refl [w1.heap.size] x.val).setCell (a := ⟨w1.heap.size, 0, none⟩) (by simp) (.int .i64 r)).setCell (a := ⟨w1.heap.size, 1, none⟩) (by simp) (.int .i64 q))
  have h4 := h3.at2.carry T3.out (by simpa using ne) (by simpa using nb)
  have T4 := Lib.hid ((h3.t.mono (S' := [b]) (by simp)).trans T3.out (by simpa using Or.inr h3.le))
  have B4 := Lib.hid ((bx.set0 (.int .i64 r)).set1 (.int .i64 q))
  have H4 := Lib.hid h4
  clear h3 h4 bx k0 k1 k2
  go_upto_region 5 with fail
  generalize (x.val.setCell ⟨w1.heap.size, 0, none⟩ (.int .i64 r)).setCell ⟨w1.heap.size, 1, none⟩ (.int .i64 q) = w4 at *
  have k0 : ∀ x : Cls w4, x.val.cell? ⟨p, 0, none⟩ = some (.map (some b)) := fun x => (H4.out.carry x.property (by simp) (by simp)).box.c0
  have k1 : ∀ x : Cls w4, x.val.cell? ⟨w1.heap.size, 0, none⟩ = some (.int .i64 r) := fun x => (B4.out.carry x.property (by simp)).c0
  have k2 : ∀ x : Cls w4, x.val.cell? ⟨w1.heap.size, 1, none⟩ = some (.int .i64 q) := fun x => (B4.out.carry x.property (by simp)).c1
  clear e0 e1 f0 f1
  refine wp_region_tail (wd := w4) 6 (by kernel_rfl) (by kernel_rfl) ((Touch.refl _ _).drew) ?_
  simp only [List.take_succ_cons, List.take_zero, List.drop_succ_cons, List.drop_zero]
  repeat (first | go_big_quiet_step (fail) | quiet_step (fail))
  refine wpQuiet_nil ?_
  intro y
  have h5 := H4.out.carry y.property (by simp) (by simp)
  obtain ⟨w5, hrun, hm, ht⟩ := h5.map.store Try.underlying3 Try.underlying91 (by unfold maxLen; omega) hi (.agg #[.int .i64 r, .int .i64 q])
  have hi' : (accM C i).isSome = true := by simp [accM, HX.out]
  rw [if_pos hi'] at hm
  have hm' : IMap Try.prog 3 w5 b s (accM (updC C i (some (r, q)))) := by rw [← put_acc]; exact hm
  have HA := Lib.hid (show CredAt w5 p b s (updC C i (some (r, q))) from ⟨h5.box.carry ht (by simpa using h5.ne), hm', ok_upd h5.ok i _ (by rintro x ⟨⟩; exact HR.out)⟩)
  have b6 := ((B4.out.carry y.property (by simp)).carry ht (by simpa using Ne.symm nb)).c0
  have HT := Lib.hid ((T4.out.trans y.property (by simp)).trans ht (by simp))
  clear hm hm' hi' ht h5 k0 k1 k2
  go_wp2_with fail
  go_ret2
  exact ⟨rfl, HA.out, HT.out⟩
theorem visit_no (i : Int) (v : Value) (D : Hid (Calls Try.prog 63 #[v, .int .i64 i] w (FindPost (0, 0) false w))) :
    Calls Try.prog 53 #[v, .int .i64 i] w fun e w' => e = .returned (.tuple #[.int .i64 0, .bool false]) ∧ Touch [] w w' := by
  go_enter Try.func53, Try.ntmps53
  go_wp2_with fail
  refine (D.out).mono ?_
  rintro e w1 ⟨rfl, t1⟩
  have T1 := Lib.hid t1
  clear t1
  go_wp2_with fail
  go_ret2
  exact ⟨rfl, T1.out.alloc _⟩

def visitsV (c q : Int) : Int := (if 0 < -c then -c else 0) / q + 1
theorem wrap_visits {c q : Int} (h1 : 1 ≤ q) (h2 : -65536 ≤ c) (hc : 0 < -c) : wrap64 (wrap64 (-c.tdiv q) + 1) = -c / q + 1 := by
  have e : -c.tdiv q = -c / q := by rw [← Int.neg_tdiv, Int.tdiv_eq_ediv_of_nonneg (by omega)]
  have hd := Int.ediv_nonneg (a := -c) (b := q) (by omega) (by omega)
  have hd' := Int.ediv_le_self (a := -c) q (by omega)
  rw [e]
  generalize -c / q = z at *
  unfold wrap64
  omega
theorem close_no (i : Int) (v : Value) (D : Hid (Calls Try.prog 63 #[v, .int .i64 i] w (FindPost (0, 0) false w))) :
    Calls Try.prog 50 #[v, .int .i64 i] w fun e w' => e = .returned (.bool false) ∧ Touch [] w w' := by
  go_enter Try.func50, Try.ntmps50
  go_wp2_with fail
  refine (D.out).mono ?_
  rintro e w1 ⟨rfl, t1⟩
  have T1 := Lib.hid t1
  clear t1
  go_wp2_with fail
  go_ret
  exact ⟨rfl, T1.out.alloc _⟩
theorem close_yes (h : CredAt w p b s C) (i : Int) (hi : i64k i) (x : Int × Int) (hx : C i = some x) :
    Calls Try.prog 50 #[.pointer (some ⟨p, 0, none⟩), .int .i64 i] w (CredPost p b (s - 1) (updC C i none) (.bool true) w) := by
  have D := Lib.hid (find_yes h i hi x hx)
  have hi' : (accM C i).isSome = true := by simp [accM, hx]
  obtain ⟨c, q⟩ := x
  have H := Lib.hid h
  clear h hx
  go_enter Try.func50, Try.ntmps50
  go_wp2_with fail
  refine (D.out).mono ?_
  rintro e w1 ⟨rfl, t1⟩
  have h1 := H.out.carry (t1.alloc (.cells #[.int .i64 c, .int .i64 q] 95)) (by simp) (by simp)
  have c0 := h1.box.c0
  have lp : p < w1.heap.size := Nat.lt_of_lt_of_le H.out.box.lt t1.size
  obtain ⟨w3, hrun, hm, ht⟩ := h1.map.drop Try.underlying3 Try.underlying91 hi 0
  rw [if_pos hi'] at hm
  have hm' : IMap Try.prog 3 w3 b (s - 1) (accM (updC C i none)) := by rw [← put_acc]; exact hm
  have HA := Lib.hid (show CredAt w3 p b (s - 1) (updC C i none) from ⟨h1.box.carry ht (by simpa using h1.ne), hm', ok_upd h1.ok i _ (by rintro x ⟨⟩)⟩)
  have HT := Lib.hid (((t1.mono (S' := [b]) (by simp)).alloc _).trans ht (by simp))
  clear h1 hm hm' ht t1
  go_wp2_with fail
  go_ret
  exact ⟨rfl, HA.out, HT.out⟩

theorem open_bad (i n : Int) (v : Value) (hn : ¬ (1 ≤ n ∧ n ≤ 65536)) (hv : v = .pointer none ∨ ∃ p, v = .pointer (some ⟨p, 0, none⟩)) (w : World) :
    Calls Try.prog 48 #[v, .int .i64 i, .int .i64 n] w fun e w' => e = .returned (.bool false) ∧ Touch [] w w' := by
  rcases hv with rfl | ⟨p, rfl⟩ <;> by_cases h1 : n < 1
  all_goals
    go_enter Try.func48, Try.ntmps48
    go_wp2
    go_ret
    exact ⟨rfl, Touch.refl _ _⟩
theorem open_nil (i n : Int) (w : World) :
    Calls Try.prog 48 #[.pointer none, .int .i64 i, .int .i64 n] w fun e w' => e = .returned (.bool false) ∧ Touch [] w w' := by
  go_enter Try.func48, Try.ntmps48
  go_wp2
  go_ret
  exact ⟨rfl, Touch.refl _ _⟩
theorem open_twice (h : CredAt w p b s C) (i n : Int) (hi : i64k i) (x : Int × Int) (hx : C i = some x) (hn : 1 ≤ n ∧ n ≤ 65536) :
    Calls Try.prog 48 #[.pointer (some ⟨p, 0, none⟩), .int .i64 i, .int .i64 n] w fun e w' => e = .returned (.bool false) ∧ Touch [] w w' := by
  have D := Lib.hid (find_yes h i hi x hx)
  obtain ⟨c, q⟩ := x
  clear h hx
  go_enter Try.func48, Try.ntmps48
  go_wp2_with fail
  refine (D.out).mono ?_
  rintro e w1 ⟨rfl, t1⟩
  have T1 := Lib.hid t1
  clear t1
  go_wp2_with fail
  go_ret
  exact ⟨rfl, T1.out.alloc _⟩
theorem open_new (h : CredAt w p b s C) (i n : Int) (hi : i64k i) (hx : C i = none) (hn : 1 ≤ n ∧ n ≤ 65536) (hs : s < 1000) :
    Calls Try.prog 48 #[.pointer (some ⟨p, 0, none⟩), .int .i64 i, .int .i64 n] w (CredPost p b (s + 1) (updC C i (some (0, n))) (.bool true) w) := by
  have D := Lib.hid (find_no h i hi hx)
  have hi' : ¬ (accM C i).isSome = true := by simp [accM, hx]
  have H := Lib.hid h
  clear h hx
  go_enter Try.func48, Try.ntmps48
  go_wp2_with fail
  refine (D.out).mono ?_
  rintro e w1 ⟨rfl, t1⟩
  have h1 := H.out.carry (t1.alloc (.cells #[.int .i64 0, .int .i64 0] 95)) (by simp) (by simp)
  have c0 := h1.box.c0
  have lp : p < w1.heap.size := Nat.lt_of_lt_of_le H.out.box.lt t1.size
  obtain ⟨w3, hrun, hm, ht⟩ := h1.map.store Try.underlying3 Try.underlying91 (by unfold maxLen; omega) hi (.agg #[.int .i64 0, .int .i64 n])
  rw [if_neg hi'] at hm
  have hm' : IMap Try.prog 3 w3 b (s + 1) (accM (updC C i (some (0, n)))) := by rw [← put_acc]; exact hm
  have HA := Lib.hid (show CredAt w3 p b (s + 1) (updC C i (some (0, n))) from ⟨h1.box.carry ht (by simpa using h1.ne), hm', ok_upd h1.ok i _ (by rintro x ⟨⟩; unfold okAcc; simp only; omega)⟩)
  have HT := Lib.hid (((t1.mono (S' := [b]) (by simp)).alloc _).trans ht (by simp))
  clear h1 hm hm' ht t1
  go_wp2_with fail
  go_ret
  exact ⟨rfl, HA.out, HT.out⟩
end
end Go.Proofs.Ytcggpgjnjfjfnaa
