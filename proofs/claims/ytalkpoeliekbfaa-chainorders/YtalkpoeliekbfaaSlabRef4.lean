/-
  Contracts of the reference of layer 6 (slab): Give of a live handle.
-/
import Derived.Test.YtalkpoeliekbfaaSlabRef3
namespace Go.Proofs.Ytalkpoeliekbfaa
open Go.ChangeShapes Go.WideShapes Go.ChangeAt Go.RowKit Go.Deep
set_option linter.unusedVariables false

def turned (T : Nat → Int) (a : Nat) : Nat → Int := fun i => if i = a then T i + 1 else T i
def freed (F : Nat → Int) (a : Nat) : Nat → Int := fun i => if i = 0 then a else F (i - 1)
theorem freed_iv (F : Nat → Int) (a m : Nat) : iv (freed F a) (m + 1) = [.int .i64 a] ++ iv F m := by
  unfold iv
  rw [List.range_succ_eq_map, List.map_cons, List.map_map]
  rfl

theorem own_form {w : World} {base : Nat} {e : TypeId} {size n : Nat} {v : Value} {xs : List Value} (h : w.ownsRow base e size v n xs) : ∃ A c, v = .slice A n c := by
  rcases h.2 with ⟨h1, h2⟩ | ⟨g', cap, cur, h1, _⟩
  · exact ⟨_, _, by rw [h1, h2]⟩
  · exact ⟨_, _, h1⟩
theorem own_base {w : World} {base : Nat} {e : TypeId} {size n b : Nat} {v : Value} {xs : List Value} (h : w.ownsRow base e size v n xs) (hb : v.ownBlock = some b) : base ≤ b := by
  rcases h.2 with ⟨h1, h2⟩ | ⟨g', cap, cur, h1, hg, _⟩
  · rw [h1] at hb
    simp [Value.ownBlock] at hb
  · rw [h1] at hb
    simp [Value.ownBlock] at hb
    omega

theorem Rd.news {Z : List Nat} {w : World} {ad : Addr} {m c : Nat} {F : Nat → Int} (h : Rd Z w (.slice (some ad) m c) m fun i => .int .i64 (F i)) : ∀ j u, (iv F m)[j]? = some u → w.cell? (ad.add j) = some u := by
  intro j u hj
  have hlt : j < m := by have := (List.getElem?_eq_some_iff.1 hj).1; rwa [iv_length] at this
  obtain ⟨A, c', e, _, _, hc⟩ := h
  simp only [Value.slice.injEq, true_and] at e
  obtain ⟨rfl, _⟩ := e
  obtain ⟨b, off, e, _, _, hcell⟩ := hc j hlt
  cases e
  rw [iv_get _ hlt] at hj
  have hadd : (⟨b, off, none⟩ : Addr).add j = ⟨b, off + j, none⟩ := by unfold Addr.add; split <;> simp_all
  rw [hadd, hcell, ← hj]

def RefGiven (Z : List Nat) (w : World) (m n : Nat) (F T : Nat → Int) (B : Nat → Bool) (a : Nat) (e : Ending) (w' : World) : Prop :=
  ∃ vf' vt' vb' ad c, e = .returned (.tuple #[.agg #[vf', vt', vb'], .bool true]) ∧ vf' = .slice (some ad) (m + 1) c ∧ RefAt Z w' vf' vt' vb' (m + 1) n (freed F a) (turned T a) (withAt B a false) ∧ Touch [] w w'

section
variable {Z : List Nat} {w : World} {vt vb : Value} {m n : Nat} {F T : Nat → Int} {B : Nat → Bool}

set_option maxRecDepth 100000 in
set_option maxHeartbeats 3200000 in
theorem refGive_yes (ad : Addr) (c1 : Nat) (h : RefAt Z w (.slice (some ad) m c1) vt vb m n F T B) (hZ : ∀ b ∈ Z, b < w.heap.size) (hn : n ≤ 5000) (hm : m ≤ 5000) (a : Nat) (han : a < n) (h0 : 0 ≤ T a) (h1 : T a < 1000000) (hyes : rlive n T B a (T a) = true) :
    Calls Try.prog 59 #[.agg #[.slice (some ad) m c1, vt, vb], .int .i64 a, .int .i64 (T a)] w (RefGiven Z w m n F T B a) := by
  obtain ⟨i0, hi0, hz0, hz1, hz2⟩ := info_parts rint_info
  have tW := ((Touch.refl [] w).alloc (.cells #[.slice (some ad) m c1, vt, vb] 55)).alloc (.cells #[.slice none 0 0, .slice none 0 0, .slice none 0 0] 55)
  have q := refLive_any (h.carry tW (by simp)) a (T a)
  rw [hyes] at q
  have Q := Lib.hid q
  obtain ⟨A2, c2, rfl, hc2, hm2, ht⟩ := h.turns
  obtain ⟨A3, c3, rfl, _, _, _⟩ := h.taken
  unfold maxLen at hm2
  have b0 := (Box3.new w 55 (.slice (some ad) m c1) (.slice A2 n c2) (.slice A3 n c3)).carry ((Touch.refl [] _).alloc (.cells #[.slice none 0 0, .slice none 0 0, .slice none 0 0] 55)) (by simp)
  have b1 := Box3.new (w.alloc (.cells #[.slice (some ad) m c1, .slice A2 n c2, .slice A3 n c3] 55)) 55 (.slice none 0 0) (.slice none 0 0) (.slice none 0 0)
  rw [show (w.alloc (.cells #[.slice (some ad) m c1, .slice A2 n c2, .slice A3 n c3] 55)).heap.size = w.heap.size + 1 by simp] at b1
  have B0 := Lib.hid b0
  have B1 := Lib.hid b1
  have TW := Lib.hid tW
  have HR := Lib.hid h
  have HT := Lib.hid ht
  generalize hta : T a = t at *
  have HTA := Lib.hid hta
  clear h hyes q tW b0 b1 ht hta
  go_enter Try.func59, Try.ntmps59
  go_wp2_with fail
  refine (Q.out).mono ?_
  rintro e w2 ⟨rfl, t2⟩
  have b0 := B0.out.carry t2 (by simp)
  have b1 := B1.out.carry t2 (by simp)
  have T2 := Lib.hid (TW.out.trans t2 (by simp))
  have s2 : w.heap.size + 2 ≤ w2.heap.size := by have := b1.lt; omega
  clear B0 B1
  have B0 := Lib.hid b0
  have B1 := Lib.hid b1
  clear b0 b1 t2 Q TW
  go_wp2_with fail
  go_loopw [8, 9] (fun v i wr => ∃ k : Nat, k ≤ n ∧ i = .int .i64 k ∧ wr.ownsRow w2.heap.size 3 1 v k (iv (turned T a) k) ∧ Below w2.heap.size w2 wr) (fun _ i _ => n - (intOf i).toNat)
  case atStart => exact ⟨0, Nat.zero_le _, rfl, World.ownsRow_nil _ _ _ _, Below.refl _ _⟩
  case round =>
    obtain ⟨k, hk, rfl, hown, hbl⟩ := hrel
    have bw := B0.out.carry (Touch.ofBelow (S := []) hbl) (by simp)
    have hsz := hbl.size
    by_cases hlt : k < n
    · obtain ⟨bb, off, hA, hbB, _, hc⟩ := HT.out k hlt
      have hc := (hbl.cell (p := ⟨bb, off + k, none⟩) (Nat.lt_of_lt_of_le hbB T2.out.size)).trans ((T2.out.cell (a := ⟨bb, off + k, none⟩) hbB (by simp)).trans hc)
      subst hA
      have e1 := bw.c1
      have HF := Lib.hid (iv_next (turned T a) k)
      have HV := Lib.hid (show turned T a k = if k = a then T k + 1 else T k from rfl)
      generalize turned T a k = y at *
      generalize iv (turned T a) k = L at *
      by_cases e : k = a
      · subst e
        have hy : y = t + 1 := by rw [HV.out, if_pos rfl, HTA.out]
        rw [HTA.out] at hc
        subst hy
        clear HV bw
        go_wp2_with (at_builtin; refine wpList_append_own _ rfl (.tmp 34) (.tmp 36) 40 rfl w2.heap.size 3 i0 (.int .i64 0) 1 8 Try.underlying40 hi0 hz0 hz1 hz2 rfl (by decide) u8 k L rfl (hown.alloc _) ⟨wr.heap.size, 0, none⟩ 1 1 [.int .i64 (t + 1)] rfl rfl (cell_one_new _ _ _) (by intro u hu; simp at hu; subst hu; rfl) (by unfold maxLen; omega) (by omega) (by simp; omega) ?_; intro v' w1 hown' hgrow hnil)
        go_roundw
        case rel => exact ⟨k + 1, by omega, by go_num, by rw [HF.out]; exact hown', below_push hbl hown hgrow hsz⟩
        case measure => simp [intOf]; omega
      · have hy : y = T k := by rw [HV.out, if_neg e]
        rw [← hy] at hc
        have b1 : ((k : Int) == (a : Int)) = false := by rw [beq_eq_false_iff_ne]; omega
        have b2 : (k == a) = false := by rw [beq_eq_false_iff_ne]; exact e
        clear HV hy bw
        go_wp2_with (at_builtin; refine wpList_append_own _ rfl (.tmp 34) (.tmp 36) 40 rfl w2.heap.size 3 i0 (.int .i64 0) 1 8 Try.underlying40 hi0 hz0 hz1 hz2 rfl (by decide) u8 k L rfl (hown.alloc _) ⟨wr.heap.size, 0, none⟩ 1 1 [.int .i64 y] rfl rfl (cell_one_new _ _ _) (by intro u hu; simp at hu; subst hu; rfl) (by unfold maxLen; omega) (by omega) (by simp; omega) ?_; intro v' w1 hown' hgrow hnil)
        go_roundw
        case rel => exact ⟨k + 1, by omega, by go_num, by rw [HF.out]; exact hown', below_push hbl hown hgrow hsz⟩
        case measure => simp [intOf]; omega
    · obtain rfl : k = n := by omega
      obtain ⟨A8, c8, rfl⟩ := own_form hown
      have e1 := bw.c1
      have e2 := bw.c2
      have f1 := bw.fr 1
      have lb := bw.lt
      have t3 := Touch.ofBelow (S := []) hbl
      have t4 := (Touch.refl [w.heap.size] wr).setCell (a := ⟨w.heap.size, 1, none⟩) (by simp) (.slice A8 k c8)
      have TB := Lib.hid ((T2.out.trans t3 (by simp)).setCell (a := ⟨w.heap.size, 1, none⟩) (.inr (Nat.le_refl _)) (.slice A8 k c8))
      have Q3 := Lib.hid (with_any (Z := Z) (.slice A3 k c3) k B a false (wr.setCell ⟨w.heap.size, 1, none⟩ (.slice A8 k c8)) hn (HR.out.taken.carry TB.out (by simp)))
      have B0' := Lib.hid (bw.set1 (.slice A8 k c8))
      have B1' := Lib.hid ((B1.out.carry t3 (by simp)).carry t4 (by simp))
      have O8 := Lib.hid (t4.row hown (fun b hb hm => by have := own_base hown hb; simp at hm; omega))
      clear hown hbl bw t3 t4 B0 B1
      go_wp2_with fail
      refine (Q3.out).mono ?_
      rintro e w5 ⟨v5, rfl, hown5, hb5⟩
      obtain ⟨A5, c5, rfl⟩ := own_form hown5
      have t5 := Touch.ofBelow (S := []) hb5
      have s5 := t5.size
      have s4 : (wr.setCell ⟨w.heap.size, 1, none⟩ (.slice A8 k c8)).heap.size = wr.heap.size := by simp
      rw [s4] at s5 hown5
      have x0 := B0'.out.carry t5 (by simp)
      have x1 := B1'.out.carry t5 (by simp)
      have f2 := x0.fr 2
      have d0 := x0.c0
      have d2 := x0.c2
      have t6 := (Touch.refl [w.heap.size] w5).setCell (a := ⟨w.heap.size, 2, none⟩) (by simp) (.slice A5 k c5)
      have t7 := t6.alloc (.cells #[.int .i64 a] 3)
      have T5 := Lib.hid (TB.out.trans t5 (by simp))
      have T7 := Lib.hid ((T5.out.setCell (a := ⟨w.heap.size, 2, none⟩) (.inr (Nat.le_refl _)) (.slice A5 k c5)).alloc (.cells #[.int .i64 a] 3))
      have FB := Lib.hid (show ∀ w9, ((w5.setCell ⟨w.heap.size, 2, none⟩ (.slice A5 k c5)).alloc (.cells #[.int .i64 a] 3)).grownBy w9 (some w5.heap.size) →
          Box3 w9 w.heap.size 55 (.slice (some ad) m c1) (.slice A8 k c8) (.slice A5 k c5) ∧ Box3 w9 (w.heap.size + 1) 55 (.slice none 0 0) (.slice none 0 0) (.slice none 0 0) from fun w9 hg => by
        have tA := ((Touch.refl [w5.heap.size] (w5.setCell ⟨w.heap.size, 2, none⟩ (.slice A5 k c5))).alloc (.cells #[.int .i64 a] 3)).grown hg (by simp)
        exact ⟨(x0.set2 _).carry tA (by simp; omega), (x1.carry t6 (by simp)).carry tA (by simp; omega)⟩)
      have RW := Lib.hid (show ((w5.setCell ⟨w.heap.size, 2, none⟩ (.slice A5 k c5)).alloc (.cells #[.int .i64 a] 3)).ownsRow w2.heap.size 3 1 (.slice (some ⟨w5.heap.size, 0, none⟩) 1 1) 1 [.int .i64 a] by
        have := World.ownsRow_lit (base := w2.heap.size) (e := 3) (size := 1) (w5.setCell ⟨w.heap.size, 2, none⟩ (.slice A5 k c5)) #[.int .i64 a] 1 (by simp; omega) (by unfold maxLen; omega) rfl
        simpa using this)
      have NW := Lib.hid ((HR.out.free.carry T7.out (by simp)).news)
      have SW : w2.heap.size ≤ ((w5.setCell ⟨w.heap.size, 2, none⟩ (.slice A5 k c5)).alloc (.cells #[.int .i64 a] 3)).heap.size := by simp; omega
      have SW' := Lib.hid SW
      have lw5 : w.heap.size < w5.heap.size := by omega
      have O5 := Lib.hid hown5
      have t7' := Lib.hid (t7.mono (S' := [w.heap.size, w.heap.size + 1, w5.heap.size]) (by simp))
      have BL8 := Lib.hid (show ∀ b, (Value.slice A8 k c8).ownBlock = some b → b < w5.heap.size from fun b hb => by have := own_lt O8.out hb; simp at this; omega)
      have O8' := Lib.hid (t5.row O8.out (by simp))
      clear hown5 hb5 x0 x1 t5 t6 t7 B0' B1' O8 Q3 TB s4 SW
      go_wp2_with (at_builtin; refine wpList_append_own _ rfl (.tmp 46) (.tmp 48) 40 rfl w2.heap.size 3 i0 (.int .i64 0) 1 8 Try.underlying40 hi0 hz0 hz1 hz2 rfl (by decide) (.slice (some ⟨w5.heap.size, 0, none⟩) 1 1) 1 [.int .i64 a] rfl RW.out ad m c1 (iv F m) rfl (by rw [iv_length, Nat.mul_one]) NW.out (iv_one _ _) (by unfold maxLen; omega) (by omega) SW'.out ?_; intro v9 w9 hown9 hgrow9 hnil9; obtain ⟨g9, cp9, rfl, _, _⟩ := hown9.form (by omega); obtain ⟨x0, x1⟩ := FB.out _ hgrow9; have d0 := x0.c0; have d1 := x0.c1; have d2 := x0.c2; have f0 := x0.fr 0; have r0 := x1.c0; have r1 := x1.c1; have r2 := x1.c2; have p0 := x1.fr 0; have p1 := x1.fr 1; have p2 := x1.fr 2; have HO9 := Lib.hid hown9; have HG9 := Lib.hid hgrow9; clear hown9 hgrow9 hnil9 x0 x1)
      have tG := ((t7'.out).grown HG9.out (by simp [Value.ownBlock]))
      have tE := ((((tG.setCell (a := ⟨w.heap.size, 0, none⟩) (by simp) (.slice (some ⟨g9, 0, none⟩) (1 + m) cp9)).setCell (a := ⟨w.heap.size + 1, 0, none⟩) (by simp) (.slice (some ⟨g9, 0, none⟩) (1 + m) cp9)).setCell (a := ⟨w.heap.size + 1, 1, none⟩) (by simp) (.slice A8 k c8)).setCell (a := ⟨w.heap.size + 1, 2, none⟩) (by simp) (.slice A5 k c5))
      have tR := (((((Touch.refl [w.heap.size, w.heap.size + 1] w9).setCell (a := ⟨w.heap.size, 0, none⟩) (by simp) (.slice (some ⟨g9, 0, none⟩) (1 + m) cp9)).setCell (a := ⟨w.heap.size + 1, 0, none⟩) (by simp) (.slice (some ⟨g9, 0, none⟩) (1 + m) cp9)).setCell (a := ⟨w.heap.size + 1, 1, none⟩) (by simp) (.slice A8 k c8)).setCell (a := ⟨w.heap.size + 1, 2, none⟩) (by simp) (.slice A5 k c5))
      have tF := T5.out.trans tE (by simp; omega)
      refine bodyPost_ret (v := .tuple #[.agg #[.slice (some ⟨g9, 0, none⟩) (1 + m) cp9, .slice A8 k c8, .slice A5 k c5], .bool true]) (by simp [results, Try.results59, go_sem, r0, r1, r2]) rfl ⟨_, _, _, ⟨g9, 0, none⟩, cp9, rfl, by rw [Nat.add_comm], ⟨?_, ?_, ?_⟩, tF⟩
      · have hr := tR.row HO9.out (fun b hb hm => by have := own_base HO9.out hb; simp at hm; omega)
        rw [Nat.add_comm 1 m, ← freed_iv] at hr
        rw [Nat.add_comm 1 m]
        exact Rd.own hr (fun i hi => iv_get _ hi) (fun b hb => by have := hZ b hb; omega)
      · exact Rd.own (tE.row O8'.out (fun b hb hm => by
          have h1 := own_base O8'.out hb
          have h2 := BL8.out b hb
          simp at hm
          omega)) (fun i hi => iv_get _ hi) (fun b hb => by have := hZ b hb; omega)
      · exact Rd.own (tE.row O5.out (fun b hb hm => by
          have h1 := own_base O5.out hb
          have h2 := own_lt O5.out hb
          simp at hm
          omega)) (fun i hi => bv_get _ hi) (fun b hb => by have := hZ b hb; omega)
end
end Go.Proofs.Ytalkpoeliekbfaa
