/-
  Contracts of the reference of layer 8 (pool): New.
-/
import Derived.Test.YtkbjkijcabmbpaaRefPool4
import Derived.Test.YtkbjkijcabmbpaaPhi7
namespace Go.Proofs.Ytkbjkijcabmbpaa
open Go.ChangeShapes Go.WideShapes Go.ChangeAt Go.RowKit Go.Deep Go.Maps
set_option linter.unusedVariables false
set_option linter.unusedSimpArgs false

theorem ent52 (args : Array Value) (w : World) : (callFunc 52 args).run Try.prog w = .ok (.enter 52 args) w := by
  simp [callFunc, Try.func52]
  rfl
section
variable {w0 : World} {n : Nat} {room : Int}
def SNew (w0 : World) (n : Nat) (v : Value) (w : World) : Prop := ∃ vf vt vb ad c, v = .agg #[vf, vt, vb] ∧ vf = .slice (some ad) n c ∧ ∀ Z, (∀ b ∈ Z, b < w0.heap.size) → RefAt Z w vf vt vb n n (fun i => i) (fun _ => 0) (fun _ => false)
def KNew (w0 : World) (n : Nat) (v : Value) (w : World) : Prop := ∃ g, v = .slice (some ⟨g, 0, none⟩) n n ∧ ∀ Z, (∀ b ∈ Z, b < w0.heap.size) → RdP Z w v n (fun _ => zeroPk)
def ANew (w0 : World) (n : Nat) (room : Int) (v : Value) (w : World) : Prop := ∃ vf vt vb vk ad c, v = .agg #[vf, vt, vb, vk, .int .i64 room] ∧ vf = .slice (some ad) n c ∧ ∀ Z, (∀ b ∈ Z, b < w0.heap.size) → RPool Z w vf vt vb vk n n (fun i => i) (fun _ => 0) (fun _ => false) (fun _ => zeroPk)
theorem SNew.stab : Stab (SNew w0 n) := fun v w w' ⟨vf, vt, vb, ad, c, h0, h1, h2⟩ t => ⟨vf, vt, vb, ad, c, h0, h1, fun Z hZ => (h2 Z hZ).carry t (by simp)⟩
theorem KNew.stab : Stab (KNew w0 n) := fun v w w' ⟨g, h0, h1⟩ t => ⟨g, h0, fun Z hZ => (h1 Z hZ).carry t (by simp)⟩
theorem ANew.stab : Stab (ANew w0 n room) := fun v w w' ⟨vf, vt, vb, vk, ad, c, h0, h1, h2⟩ t => ⟨vf, vt, vb, vk, ad, c, h0, h1, fun Z hZ => (h2 Z hZ).new t⟩
end
theorem kNew_made {w0 w : World} (n : Nat) (hn : n ≤ 5000) (hs : w0.heap.size ≤ w.heap.size) : KNew w0 n (.slice (some ⟨w.heap.size, 0, none⟩) n n) (w.alloc (.cells (madeCells zeroPk.cells (n * 10)) 66)) := by
  refine ⟨_, rfl, fun Z hZ => ⟨_, _, rfl, Nat.le_refl _, by unfold maxLen; omega, fun i hi => ⟨_, 0, rfl, by simp, fun hm => by have := hZ _ hm; omega, fun t v hv => ?_⟩⟩⟩
  have ht : t < 10 := by
    have := (List.getElem?_eq_some_iff.1 hv).1
    simpa [Pk.cells] using this
  rw [cell_of_row _ _ _ _ _ (0, 0) (heap_alloc_new w _), Nat.zero_add]
  have hlt : i * 10 + t < n * 10 := by omega
  have hmod : (i * 10 + t) % 10 = t := by omega
  rw [← hv]
  simp only [madeCells, Array.getElem?_map, Array.getElem?_range, hlt, if_true, Option.map_some]
  rw [show zeroPk.cells.size = 10 from rfl, hmod]
  match t, ht with
  | 0, _ => rfl
  | 1, _ => rfl
  | 2, _ => rfl
  | 3, _ => rfl
  | 4, _ => rfl
  | 5, _ => rfl
  | 6, _ => rfl
  | 7, _ => rfl
  | 8, _ => rfl
  | 9, _ => rfl
theorem run_makeP {a : Act} {o : Oper} {n : Nat} {w : World} (h : o.op = .makeSlice 56 (.tmp 7) (.tmp 7)) (hv : a.eval (.tmp 7) = .int .i64 (n : Int)) (hn : n ≤ 5000) :
    (execOp a.eval o).run Try.prog w = .ok (.value (.slice (some ⟨w.heap.size, 0, none⟩) n n)) (w.alloc (.cells (madeCells zeroPk.cells (n * 10)) 66)) := by
  obtain ⟨i0, hi0, hz0, hz1, hz2⟩ := info_parts pk_info
  have := run_make (P := Try.prog) w 56 66 i0 _ Try.underlying56 hi0 hz0 .i64 .i64 n n (by omega) (by omega) (by rw [hz2]; omega) (by omega)
  rw [hz1] at this
  simp only [Int.toNat_natCast, Value.cells] at this
  unfold execOp
  rw [h]
  simp only [hv]
  simp [go_sem, this]
theorem buildP (a : Addr) (A2 A3 : Option Addr) (g n c c2 c3 : Nat) (n2 n3 : Nat) (r : Int) (w : World) : (Instr.build 58 #[(0, .agg #[.slice (some a) n c, .slice A2 n2 c2, .slice A3 n3 c3]), (1, .slice (some ⟨g, 0, none⟩) n n), (2, .int .i64 r)]).run Try.prog w = .ok (.agg #[.slice (some a) n c, .slice A2 n2 c2, .slice A3 n3 c3, .slice (some ⟨g, 0, none⟩) n n, .int .i64 r]) w := run_build w _ _ _ (by kernel_rfl)
def RNewed (w : World) (n : Nat) (room : Int) (e : Ending) (w' : World) : Prop :=
  ∃ vf vt vb vk ad c, e = .returned (.agg #[vf, vt, vb, vk, .int .i64 room]) ∧ vf = .slice (some ad) n c ∧ (∀ Z, (∀ b ∈ Z, b < w.heap.size) → RPool Z w' vf vt vb vk n n (fun i => i) (fun _ => 0) (fun _ => false) (fun _ => zeroPk)) ∧ Touch [] w w'
set_option maxRecDepth 100000 in
set_option maxHeartbeats 3200000 in
theorem refNewP (n : Nat) (room : Int) (w : World) (h1 : 1 ≤ n) (h2 : n ≤ 5000) : Calls Try.prog 27 #[.int .i64 (n : Int), .int .i64 room] w (RNewed w n room) := by
  have HBR := Lib.hid (BoxV.new w 58 (#[.slice none 0 0, .slice none 0 0, .slice none 0 0, .slice none 0 0, .int .i64 0] : Array Value))
  have T1 := Lib.hid ((Touch.refl [] w).alloc (.cells (#[.slice none 0 0, .slice none 0 0, .slice none 0 0, .slice none 0 0, .int .i64 0] : Array Value) 58))
  go_enter Try.func27, Try.ntmps27
  go_upto_region 1 with fail
  generalize w.alloc (.cells (#[.slice none 0 0, .slice none 0 0, .slice none 0 0, .slice none 0 0, .int .i64 0] : Array Value) 58) = w1 at *
  generalize hbr : w.heap.size = br at *
  have HLB := Lib.hid (show w.heap.size = br by omega)
  clear hbr
  have HLT := Lib.hid HBR.out.lt
  refine wp_region_store (wd := w1) 6 (Leaf.const (.int .i64 (n : Int)) :: Leaf.pred (SNew w1 n) :: Leaf.const (.int .i64 (n : Int)) :: Leaf.pred (KNew w1 n) :: Leaf.const (.int .i64 room) :: Leaf.pred (ANew w1 n room) :: Leaf.const undef :: []) (by kernel_rfl) (by kernel_rfl) (by kernel_rfl) (by kernel_rfl) ((Touch.refl _ _).drew) (⟨SNew.stab, KNew.stab, ANew.stab, trivial⟩) ?_ ?_
  · intro i o ho hin ac w ht hk hd
    match i, ho, hin with
    | 0, ho, hin =>
      have ho' : some _ = some o := ho
      cases ho'
      clear ho
      have e0 := known_slot hk 0 (by kernel_rfl) (v := .int .i64 (n : Int)) rfl
      exact do_value (wanted_none rfl) (by rw [BigFrame.run_move (.tmp 0) rfl, e0]) rfl
    | 1, ho, hin =>
      have ho' : some _ = some o := ho
      cases ho'
      clear ho
      have e5 := has_const (has_dep hd 0 (by kernel_rfl)) rfl rfl rfl (c := (.int .i64 (n : Int)))
      refine do_enter (wanted_none rfl) (f := 52) (args := #[(.int .i64 (n : Int))]) (by rw [run_go3 52 _ _ rfl, ent52]; simp [eval_c, e5]) ?_
      exact (refNew_any n w h1 h2).mono fun e w2 ⟨vf, vt, vb, ad, c, he, hf, hr, t⟩ => ⟨_, he, ⟨vf, vt, vb, ad, c, rfl, hf, fun Z hZ => hr Z (fun b hb => Nat.lt_of_lt_of_le (hZ b hb) ht.size)⟩, t⟩
    | 2, ho, hin =>
      have ho' : some _ = some o := ho
      cases ho'
      clear ho
      have e0 := known_slot hk 0 (by kernel_rfl) (v := .int .i64 (n : Int)) rfl
      exact do_value (wanted_none rfl) (by rw [BigFrame.run_move (.tmp 0) rfl, e0]) rfl
    | 3, ho, hin =>
      have ho' : some _ = some o := ho
      cases ho'
      clear ho
      have e7 := has_const (has_dep hd 2 (by kernel_rfl)) rfl rfl rfl (c := (.int .i64 (n : Int)))
      exact .inl ⟨wanted_none rfl, by rw [run_makeP (a := ac) (n := n) rfl e7 (by omega)]; exact ⟨kNew_made n (by omega) ht.size, (Touch.refl [] w).alloc _⟩⟩
    | 4, ho, hin =>
      have ho' : some _ = some o := ho
      cases ho'
      clear ho
      have e1 := known_slot hk 1 (by kernel_rfl) (v := .int .i64 room) rfl
      exact do_value (wanted_none rfl) (by rw [BigFrame.run_move (.tmp 1) rfl, e1]) rfl
    | 5, ho, hin =>
      have ho' : some _ = some o := ho
      cases ho'
      clear ho
      obtain ⟨v6, e6, h6⟩ := has_pred (has_dep hd 1 (by kernel_rfl)) rfl rfl rfl (φ := SNew w1 n)
      obtain ⟨v8, e8, h8⟩ := has_pred (has_dep hd 3 (by kernel_rfl)) rfl rfl rfl (φ := KNew w1 n)
      have e9 := has_const (has_dep hd 4 (by kernel_rfl)) rfl rfl rfl (c := (.int .i64 room))
      obtain ⟨vf, vt, vb, ad, c, rfl, rfl, hr⟩ := h6
      obtain ⟨gk, rfl, hk⟩ := h8
      obtain ⟨A2, c2, rfl, _, _, _⟩ := (hr [] (by simp)).turns
      obtain ⟨A3, c3, rfl, _, _, _⟩ := (hr [] (by simp)).taken
      exact do_value (wanted_none rfl) (v := .agg #[.slice (some ad) n c, .slice A2 n c2, .slice A3 n c3, .slice (some ⟨gk, 0, none⟩) n n, .int .i64 room]) (run_value rfl (by simp only [List.map_toArray, List.map_cons, List.map_nil, e6, e8, e9]; exact buildP _ _ _ _ _ _ _ _ _ _ _ w)) ⟨_, _, _, _, ad, c, rfl, rfl, fun Z hZ => ⟨hr Z hZ, hk Z hZ⟩⟩
    | 6, ho, hin => exact absurd hin (by omega)
    | q + 7, ho, hin => exact absurd ho (by simp)
  · intro x w2 T2 hkn
    obtain ⟨_, _, h10, _⟩ := hkn
    obtain ⟨vf, vt, vb, vk, ad, c, hx, hf, hr⟩ := h10
    simp only [putL, Act.put, List.setIfInBounds_toArray, List.set_cons_succ, List.set_cons_zero, List.drop]
    rw [hx]
    subst hf
    obtain ⟨A2, c2, rfl, _, _, _⟩ := (hr [] (by simp)).ref.turns
    obtain ⟨A3, c3, rfl, _, _, _⟩ := (hr [] (by simp)).ref.taken
    obtain ⟨A4, c4, rfl, _, _, _⟩ := (hr [] (by simp)).rows
    have HR := Lib.hid hr
    have T2 := Lib.hid T2
    have HBR := Lib.hid (HBR.out.carry T2.out (by simp))
    clear hr hx
    go_wp2_with (refine wpList_store_mid rfl 58 (.tmp 4) (.tmp 10) rfl br 0 #[.slice (some ad) n c, .slice A2 n c2, .slice A3 n c3, .slice A4 n c4, .int .i64 room] rfl rfl (HBR.out.thereW 0 5 (by simp)) (by kernel_rfl) (five_all _ _ _ _ _ _ _ _ _ _ _ _ _) ?_)
    exact bodyPost_ret (ret_box (t := 58) Try.results27 rfl (HBR.out.wholeW #[.slice (some ad) n c, .slice A2 n c2, .slice A3 n c3, .slice A4 n c4, .int .i64 room] rfl) Try.underlying58 rfl (by kernel_rfl)) rfl
      ⟨_, _, _, _, ad, c, rfl, rfl, fun Z hZ => ((HR.out (br :: Z) (fun b hb => by have h := T1.out.size; have h3 := HLT.out; simp at hb; rcases hb with rfl | hb; omega; exact Nat.lt_of_lt_of_le (hZ b hb) h)).carry (touch_cellsW _ _ _) (fun b hb => .inl (by simp at hb; simp [hb]))).avoid (fun b hb => .inl (by simp [hb])),
        (T1.out.trans T2.out (by simp)).trans (touch_cellsW _ _ _) (fun b hb => by have := HLB.out; simp at hb; right; omega)⟩
end Go.Proofs.Ytkbjkijcabmbpaa
