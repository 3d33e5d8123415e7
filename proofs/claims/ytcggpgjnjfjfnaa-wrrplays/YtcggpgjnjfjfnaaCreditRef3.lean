/-
  The reference of layer 30 (credit): Open, Of, Visit, Spend, Give, Visits.
-/
import Derived.Test.YtcggpgjnjfjfnaaCreditRef2
import Derived.Laws.AppendOwnNone
namespace Go.Proofs.Ytcggpgjnjfjfnaa
open Go.ChangeShapes Go.WideShapes Go.ChangeAt Go.RowKit Go.Deep Go.Maps
set_option linter.unusedVariables false

theorem own_lower {w : World} {base base' : Nat} {e : TypeId} {size n : Nat} {v : Value} {xs : List Value} (h : w.ownsRow base e size v n xs) (hb : base' ≤ base) : w.ownsRow base' e size v n xs := by
  rcases h.2 with ⟨rfl, hn⟩ | ⟨g, cap, cur, hv, h1, rest⟩
  · exact ⟨h.1, .inl ⟨rfl, hn⟩⟩
  · exact ⟨h.1, .inr ⟨g, cap, cur, hv, Nat.le_trans hb h1, rest⟩⟩

section
variable {Z : List Nat} {w : World} {v : Value} {L : List RowC}

theorem refGive_any (h : RowsAt Z w v L) (i m : Int) (hL : L.length ≤ 1000) :
    Calls Try.prog 19 #[v, .int .i64 i, .int .i64 m] w (RowsPost w (L.map (putRow i m))) := by
  have D := Lib.hid (refPut_any h i m hL)
  obtain ⟨A, c, rfl, ⟨h1, hnil⟩, h2, h3⟩ := h
  clear h1 h2 h3 hnil
  go_enter Try.func19, Try.ntmps19
  go_wp2_with fail
  refine (D.out).mono ?_
  rintro e w1 ⟨v1, rfl, ho, hb⟩
  have HO := Lib.hid ho
  have HB := Lib.hid hb
  clear ho hb
  go_wp2_with fail
  go_ret
  exact ⟨_, rfl, HO.out, HB.out⟩

theorem refOf_yes (h : RowsAt Z w v L) (i : Int) (k : Nat) (r : RowC) (hat : AtYes L i k r) (hL : L.length ≤ 1000) :
    Calls Try.prog 24 #[v, .int .i64 i] w fun e w' => e = .returned (.tuple #[.int .i64 r.c, .bool true]) ∧ w = w' := by
  have D := Lib.hid (refAt_yes h i k r hat hL)
  have hk : k < L.length := (List.getElem?_eq_some_iff.1 hat.1).1
  obtain ⟨A, c, rfl, ⟨h1, hnil⟩, h2, h3⟩ := h
  obtain ⟨b, off, rfl, hb, _, c0, c1, c2⟩ := h3 k r hat.1
  unfold maxLen at h2
  obtain ⟨ri, rq, rc⟩ := r
  generalize L.length = n at *
  clear h3 hat c0 c1 hnil
  go_enter Try.func24, Try.ntmps24
  go_wp2_with fail
  refine (D.out).mono ?_
  rintro e w' ⟨rfl, rfl⟩
  go_wp2_with fail
  go_ret2
  exact ⟨rfl, rfl⟩
theorem refOf_no (h : RowsAt Z w v L) (i : Int) (hf : Far L i L.length) (hL : L.length ≤ 1000) :
    Calls Try.prog 24 #[v, .int .i64 i] w fun e w' => e = .returned (.tuple #[.int .i64 0, .bool false]) ∧ w = w' := by
  have D := Lib.hid (refAt_no h i hf hL)
  obtain ⟨A, c, rfl, ⟨h1, hnil⟩, h2, h3⟩ := h
  clear h3 hf h1 h2 hnil
  go_enter Try.func24, Try.ntmps24
  go_wp2_with fail
  refine (D.out).mono ?_
  rintro e w' ⟨rfl, rfl⟩
  go_wp2_with fail
  go_ret2
  exact ⟨rfl, rfl⟩
theorem refVisit_no (h : RowsAt Z w v L) (i : Int) (hf : Far L i L.length) (hL : L.length ≤ 1000) :
    Calls Try.prog 52 #[v, .int .i64 i] w fun e w' => e = .returned v ∧ w = w' := by
  have D := Lib.hid (refAt_no h i hf hL)
  obtain ⟨A, c, rfl, ⟨h1, hnil⟩, h2, h3⟩ := h
  clear h3 hf h1 h2 hnil
  go_enter Try.func52, Try.ntmps52
  go_wp2_with fail
  refine (D.out).mono ?_
  rintro e w' ⟨rfl, rfl⟩
  go_wp2_with fail
  go_ret
  exact ⟨rfl, rfl⟩
theorem refSpend_no (h : RowsAt Z w v L) (i m : Int) (hf : Far L i L.length) (hL : L.length ≤ 1000) :
    Calls Try.prog 54 #[v, .int .i64 i, .int .i64 m] w fun e w' => e = .returned v ∧ w = w' := by
  have D := Lib.hid (refAt_no h i hf hL)
  obtain ⟨A, c, rfl, ⟨h1, hnil⟩, h2, h3⟩ := h
  clear h3 hf h1 h2 hnil
  go_enter Try.func54, Try.ntmps54
  go_wp2_with fail
  refine (D.out).mono ?_
  rintro e w' ⟨rfl, rfl⟩
  go_wp2_with fail
  go_ret
  exact ⟨rfl, rfl⟩

set_option maxHeartbeats 1000000 in
theorem refVisit_yes (h : RowsAt Z w v L) (i : Int) (k : Nat) (r : RowC) (hat : AtYes L i k r) (hL : L.length ≤ 1000) (hq : 1 ≤ r.q ∧ r.q ≤ 65536) (hc : -65536 ≤ r.c ∧ r.c ≤ r.q) :
    Calls Try.prog 52 #[v, .int .i64 i] w (RowsPost w (L.map (putRow i (r.c + r.q)))) := by
  have D := Lib.hid (refAt_yes h i k r hat hL)
  have hk : k < L.length := (List.getElem?_eq_some_iff.1 hat.1).1
  have P := Lib.hid (fun x : Cls w => refPut_any (h.carry x.property (by simp)) i (r.c + r.q) hL)
  obtain ⟨A, c, rfl, ⟨h1, hnil⟩, h2, h3⟩ := h
  obtain ⟨b, off, rfl, hb, _, c0, c1, c2⟩ := h3 k r hat.1
  unfold maxLen at h2
  obtain ⟨ri, rq, rc⟩ := r
  simp only at c0 c1 c2 hq hc P ⊢
  generalize L.length = n at *
  have k1 : ∀ x : Cls w, x.val.cell? ⟨b, off + k * 3 + 1, none⟩ = some (.int .i64 rq) := fun x => (x.property.cell (a := ⟨b, _, none⟩) hb (by simp)).trans c1
  have k2 : ∀ x : Cls w, x.val.cell? ⟨b, off + k * 3 + 2, none⟩ = some (.int .i64 rc) := fun x => (x.property.cell (a := ⟨b, _, none⟩) hb (by simp)).trans c2
  have wr : IntKind.i64.wrap (rc + rq) = rc + rq := IntWalk.i64_in _ (by omega)
  clear h3 hat c0 c1 c2 hnil
  go_enter Try.func52, Try.ntmps52
  go_wp2_with fail
  refine (D.out).mono ?_
  rintro e w' ⟨rfl, rfl⟩
  go_upto_region 4 with fail
  refine wp_region_tail (wd := w) 13 (by kernel_rfl) (by kernel_rfl) ((Touch.refl _ _).drew) ?_
  simp only [List.take_succ_cons, List.take_zero, List.drop_succ_cons, List.drop_zero]
  repeat (first | go_big_quiet_step (fail) | quiet_step (fail))
  refine wpQuiet_nil ?_
  intro x
  have T := Lib.hid x.property
  have PX := Lib.hid (P.out x)
  clear k1 k2 wr
  generalize x.val = wx at *
  go_wp2_with fail
  refine (PX.out).mono ?_
  rintro e w1 ⟨v1, rfl, ho, hbl⟩
  have HO := Lib.hid ho
  have HB := Lib.hid hbl
  clear ho hbl
  go_wp2_with fail
  go_ret
  exact ⟨_, rfl, own_lower HO.out T.out.size, (T.out.below (by simp) (Nat.le_refl _)).trans (HB.out.mono T.out.size)⟩

set_option maxHeartbeats 1000000 in
theorem refSpend_yes (h : RowsAt Z w v L) (i m : Int) (k : Nat) (r : RowC) (hat : AtYes L i k r) (hL : L.length ≤ 1000) (hq : 1 ≤ r.q ∧ r.q ≤ 65536) (hc : -65536 ≤ r.c ∧ r.c ≤ r.q) :
    Calls Try.prog 54 #[v, .int .i64 i, .int .i64 m] w (RowsPost w (L.map (putRow i (r.c - size2048 m)))) := by
  have D := Lib.hid (refAt_yes h i k r hat hL)
  have hk : k < L.length := (List.getElem?_eq_some_iff.1 hat.1).1
  have P := Lib.hid (refPut_any h i (r.c - size2048 m) hL)
  obtain ⟨A, c, rfl, ⟨h1, hnil⟩, h2, h3⟩ := h
  obtain ⟨b, off, rfl, hb, _, c0, c1, c2⟩ := h3 k r hat.1
  unfold maxLen at h2
  obtain ⟨ri, rq, rc⟩ := r
  simp only at c0 c1 c2 hq hc P ⊢
  generalize L.length = n at *
  have hz := size_cases m
  generalize size2048 m = z at *
  clear h3 hat c0 c1 hnil
  rcases (show (m < 0 ∧ z = 0) ∨ (0 ≤ m ∧ m ≤ 2048 ∧ z = m) ∨ (2048 < m ∧ z = 2048) by omega) with ⟨g, rfl⟩ | ⟨g, g', rfl⟩ | ⟨g, rfl⟩
  · clear hz
    rw [Int.sub_zero] at P ⊢
    go_enter Try.func54, Try.ntmps54
    go_wp2_with fail
    refine (D.out).mono ?_
    rintro e w' ⟨rfl, rfl⟩
    go_wp2_with fail
    refine (P.out).mono ?_
    rintro e w1 ⟨v1, rfl, ho, hbl⟩
    have HO := Lib.hid ho
    have HB := Lib.hid hbl
    clear ho hbl
    go_wp2_with fail
    go_ret
    exact ⟨_, rfl, HO.out, HB.out⟩
  · clear hz
    go_enter Try.func54, Try.ntmps54
    go_wp2_with fail
    refine (D.out).mono ?_
    rintro e w' ⟨rfl, rfl⟩
    go_wp2_with fail
    refine (P.out).mono ?_
    rintro e w1 ⟨v1, rfl, ho, hbl⟩
    have HO := Lib.hid ho
    have HB := Lib.hid hbl
    clear ho hbl
    go_wp2_with fail
    go_ret
    exact ⟨_, rfl, HO.out, HB.out⟩
  · clear hz
    go_enter Try.func54, Try.ntmps54
    go_wp2_with fail
    refine (D.out).mono ?_
    rintro e w' ⟨rfl, rfl⟩
    go_wp2_with fail
    refine (P.out).mono ?_
    rintro e w1 ⟨v1, rfl, ho, hbl⟩
    have HO := Lib.hid ho
    have HB := Lib.hid hbl
    clear ho hbl
    go_wp2_with fail
    go_ret
    exact ⟨_, rfl, HO.out, HB.out⟩

/-- What the rows' cells are, one behind the other. -/
theorem RowsAt.news {ad : Addr} {c : Nat} (h : RowsAt Z w (.slice (some ad) L.length c) L) : ∀ j u, (rv L)[j]? = some u → w.cell? (ad.add j) = some u := by
  obtain ⟨A, c', hv, _, _, h3⟩ := h
  simp only [Value.slice.injEq, true_and] at hv
  obtain ⟨rfl, rfl⟩ := hv
  intro j u hu
  have hj : j < L.length * 3 := by have := (List.getElem?_eq_some_iff.1 hu).1; rwa [rv_length] at this
  have hk : j / 3 < L.length := by omega
  have hr := List.getElem?_eq_getElem hk
  obtain ⟨b, off, hA, hb, _, c0, c1, c2⟩ := h3 _ _ hr
  obtain ⟨g0, g1, g2⟩ := rv_get hr
  simp only [Option.some.injEq] at hA
  subst hA
  rw [add_plain]
  rcases (show j = j / 3 * 3 ∨ j = j / 3 * 3 + 1 ∨ j = j / 3 * 3 + 2 by omega) with e | e | e
  · rw [e] at hu ⊢
    rw [g0] at hu
    rw [c0, hu]
  · rw [e] at hu ⊢
    rw [g1] at hu
    rw [← Nat.add_assoc, c1, hu]
  · rw [e] at hu ⊢
    rw [g2] at hu
    rw [← Nat.add_assoc, c2, hu]
def OpenPost (w : World) (L : List RowC) (e : Ending) (w' : World) : Prop := ∃ v, e = .returned (.tuple #[v, .bool true]) ∧ w'.ownsRow w.heap.size 86 3 v L.length (rv L) ∧ Below w.heap.size w w'

set_option maxHeartbeats 1000000 in
theorem refOpen_bad (h : RowsAt Z w v L) (i m : Int) (hbad : (∃ k r, AtYes L i k r) ∨ m < 1 ∨ 65536 < m) (hL : L.length ≤ 1000) :
    Calls Try.prog 44 #[v, .int .i64 i, .int .i64 m] w fun e w' => e = .returned (.tuple #[v, .bool false]) ∧ w = w' := by
  rcases at_cases L i with ⟨k, r, hat⟩ | hf
  · have D := Lib.hid (refAt_yes h i k r hat hL)
    obtain ⟨A, c, rfl, ⟨h1, hnil⟩, h2, h3⟩ := h
    clear h3 hat hbad h1 h2 hnil
    go_enter Try.func44, Try.ntmps44
    go_wp2_with fail
    refine (D.out).mono ?_
    rintro e w' ⟨rfl, rfl⟩
    go_wp2_with fail
    go_ret2
    exact ⟨rfl, rfl⟩
  · have D := Lib.hid (refAt_no h i hf hL)
    have hm : m < 1 ∨ (1 ≤ m ∧ 65536 < m) := by
      rcases hbad with ⟨k, r, hat⟩ | hb
      · exact absurd hat.2.1 (hf k r (List.getElem?_eq_some_iff.1 hat.1).1 hat.1)
      · omega
    obtain ⟨A, c, rfl, ⟨h1, hnil⟩, h2, h3⟩ := h
    clear h3 hf hbad h1 h2 hnil
    rcases hm with g | g
    all_goals
      go_enter Try.func44, Try.ntmps44
      go_wp2_with fail
      refine (D.out).mono ?_
      rintro e w' ⟨rfl, rfl⟩
      go_wp2_with fail
      go_ret2
      exact ⟨rfl, rfl⟩

set_option maxHeartbeats 2000000 in
theorem refOpen_yes (h : RowsAt Z w v L) (i m : Int) (hf : Far L i L.length) (hm : 1 ≤ m ∧ m ≤ 65536) (hL : L.length ≤ 1000) :
    Calls Try.prog 44 #[v, .int .i64 i, .int .i64 m] w (OpenPost w (L ++ [⟨i, m, 0⟩])) := by
  have D := Lib.hid (refAt_no h i hf hL)
  have H := Lib.hid h
  obtain ⟨A, c, rfl, ⟨h1, hnil⟩, h2, h3⟩ := h
  obtain ⟨i0, hi0, hz0, hz1, hz2⟩ := info_parts row_info
  clear h3 hf
  have O0 := Lib.hid (show (w.alloc (.cells #[] 86)).ownsRow w.heap.size 86 3 (.slice (some ⟨w.heap.size, 0, none⟩) 0 0) 0 [] from
    ⟨rfl, .inr ⟨w.heap.size, 0, #[], rfl, Nat.le_refl _, heap_alloc_new w _, Nat.le_refl _, Nat.zero_le _, rfl, rfl⟩⟩)
  have B0 := Lib.hid ((Below.refl w.heap.size w).alloc (Nat.le_refl _) (.cells #[] 86))
  have H0 := Lib.hid (H.out.carry ((Touch.refl [] w).alloc (.cells #[] 86)) (by simp))
  have d1 : decide (m < 1) = false := by simp; omega
  have d2 : decide (65536 < m) = false := by simp; omega
  have HR := Lib.hid (show rv (L ++ [⟨i, m, 0⟩]) = rv L ++ [.int .i64 i, .int .i64 m, .int .i64 0] from rv_snoc L ⟨i, m, 0⟩)
  have HL := Lib.hid (show (L ++ ([⟨i, m, 0⟩] : List RowC)).length = L.length + 1 by simp)
  have HO := Lib.hid (rv_one L)
  have HW := Lib.hid (rv_length L)
  unfold OpenPost
  rw [HR.out, HL.out]
  have hs0 : (w.alloc (.cells #[] 86)).heap.size = w.heap.size + 1 := by simp
  have HS0 := Lib.hid hs0
  clear hs0
  cases A with
  | none =>
    obtain rfl : c = 0 := hnil rfl
    have hl0 : L.length = 0 := by omega
    have hL0 : L = [] := List.eq_nil_of_length_eq_zero hl0
    subst hL0
    clear HO HW HL HR H H0
    go_enter Try.func44, Try.ntmps44
    go_wp2_with fail
    refine (D.out).mono ?_
    rintro e w' ⟨rfl, rfl⟩
    go_wp2_with (first | (at_builtin; refine wpList_append_own_none rfl (.tmp 21) (.tmp 22) 27 rfl w.heap.size 86 i0 3 Try.underlying27 hi0 (.slice (some ⟨w.heap.size, 0, none⟩) 0 0) 0 [] rfl O0.out rfl ?_) | (at_builtin; refine wpList_append_own _ rfl (.tmp 23) (.tmp 27) 27 rfl w.heap.size 86 i0 _ 3 24 Try.underlying27 hi0 hz0 hz1 hz2 rfl (by decide) (.slice (some ⟨w.heap.size, 0, none⟩) 0 0) 0 [] rfl (O0.out.alloc _) ⟨w.heap.size + 1, 0, none⟩ 1 1 [.int .i64 i, .int .i64 m, .int .i64 0] rfl rfl (news3 w _ _ _ _) (by intro u hu; simp at hu; rcases hu with rfl | rfl | rfl <;> rfl) (by unfold maxLen; omega) (by omega) (by simp; omega) ?_; intro v2 w2 hown2 hgrow2 hnil2))
    go_ret2
    exact ⟨_, rfl, hown2, below_grown (B0.out.alloc (by have := HS0.out; omega) _) (O0.out.alloc _) hgrow2 (by simp; omega)⟩
  | some ad =>
    have NW := Lib.hid H0.out.news
    generalize rv L = M at *
    generalize L.length = n at *
    clear H H0
    go_enter Try.func44, Try.ntmps44
    go_wp2_with fail
    refine (D.out).mono ?_
    rintro e w' ⟨rfl, rfl⟩
    go_wp2_with (first | (at_builtin; refine wpList_append_own _ rfl (.tmp 21) (.tmp 22) 27 rfl w.heap.size 86 i0 _ 3 24 Try.underlying27 hi0 hz0 hz1 hz2 rfl (by decide) (.slice (some ⟨w.heap.size, 0, none⟩) 0 0) 0 [] rfl O0.out ad n c M rfl HW.out NW.out HO.out (by unfold maxLen; omega) (by omega) (by have := HS0.out; omega) ?_; intro v1 w1 hown1 hgrow1 hnil1) | (at_builtin; refine wpList_append_own _ rfl (.tmp 23) (.tmp 27) 27 rfl w.heap.size 86 i0 _ 3 24 Try.underlying27 hi0 hz0 hz1 hz2 rfl (by decide) v1 (0 + n) ([] ++ M) rfl (hown1.alloc _) ⟨w1.heap.size, 0, none⟩ 1 1 [.int .i64 i, .int .i64 m, .int .i64 0] rfl rfl (World.news_of_block (cs := #[.int .i64 i, .int .i64 m, .int .i64 0]) (t := 86) (fr := (0, 0)) (heap_alloc_new w1 _)) (by intro u hu; simp at hu; rcases hu with rfl | rfl | rfl <;> rfl) (by unfold maxLen; omega) (by omega) (by have := hgrow1.size; have := HS0.out; simp; omega) ?_; intro v2 w2 hown2 hgrow2 hnil2))
    go_ret2
    have hb1 := below_grown B0.out O0.out hgrow1 (by have := HS0.out; omega)
    have hz1 := hb1.size
    exact ⟨_, rfl, by simpa using hown2, below_grown (hb1.alloc hz1 _) (hown1.alloc _) hgrow2 (by simp; omega)⟩
end
end Go.Proofs.Ytcggpgjnjfjfnaa
