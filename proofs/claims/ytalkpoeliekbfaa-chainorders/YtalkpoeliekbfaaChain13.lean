/-
  Layer 7 (chain): Join of a list that is not empty.
-/
import Derived.Test.YtalkpoeliekbfaaChain12
namespace Go.Proofs.Ytalkpoeliekbfaa
open Go.ChangeShapes Go.WideShapes Go.ChangeAt Go.RowKit Go.Deep Go.Shelf
set_option linter.unusedVariables false
set_option linter.unusedSimpArgs false
attribute [local go_sem] Oper.semAt_some

def setAll (V : Nat → Int) (L : List Nat) (a : Nat) : Nat → Int := fun i => if i ∈ L then (a : Int) else V i
theorem setAll_snoc (V : Nat → Int) (L : List Nat) (a x : Nat) : setAll V (L ++ [x]) a = upd (setAll V L a) x a := by
  funext i
  unfold setAll upd
  by_cases h : i = x
  · simp [h]
  · simp [h]
def ints {n : Nat} (pre : List (Fin n)) : List Nat := pre.map fun y => y.val
theorem ints_snoc {n : Nat} (pre : List (Fin n)) (y : Fin n) : ints (pre ++ [y]) = ints pre ++ [y.val] := by simp [ints]
theorem setAll_nil (V : Nat → Int) (a : Nat) : setAll V [] a = V := by funext i; simp [setAll]
def JoinI (w : World) (b3 b4 p gn gw gl n cn cw k cl : Nat) (N V E : Nat → Int) (a : Nat) (pre : List (Fin n)) (W : World) : Prop :=
  ChainAt W p gn gw gl n cn cw k cl N (setAll V (ints pre) a) E ∧ Box1 W b3 23 (.pointer (some ⟨p, 0, none⟩)) ∧ Box1 W b4 3 (.int .i64 (a : Int)) ∧ Touch [gw] w W
theorem joinI_own {w : World} {b3 b4 p gn gw gl n cn cw k cl : Nat} {N V E : Nat → Int} {a B : Nat} (hp : p < B ∧ gn < B ∧ gw < B ∧ gl < B) (h3 : b3 < B) (h4 : b4 < B) (hw : w.heap.size ≤ B) : OwnFrom B (JoinI w b3 b4 p gn gw gl n cn cw k cl N V E a) := by
  rintro pre W W' row ⟨hc, h3c, h4c, ht⟩ hg hrow
  have t := grown_touch hg
  have hn : ∀ b, b < B → b ∉ row.toList := fun b hb hm => by
    have := (hrow b (by simpa using hm)).1
    omega
  refine ⟨hc.carry t (fun b hb => ?_), h3c.carry t (hn _ h3), h4c.carry t (hn _ h4), ht.trans t (fun b hb => by have := (hrow b (by simpa using hb)).1; right; omega)⟩
  simp only [List.mem_cons, List.not_mem_nil, or_false] at hb
  rcases hb with rfl | rfl | rfl | rfl
  · exact hn _ hp.1
  · exact hn _ hp.2.1
  · exact hn _ hp.2.2.1
  · exact hn _ hp.2.2.2
set_option maxRecDepth 100000 in
set_option maxHeartbeats 2000000 in
theorem join_of {w : World} {p gn gw gl n cn cw k cl : Nat} {N V E : Nat → Int} (h : ChainAt w p gn gw gl n cn cw k cl N V E) (a c : Nat) (ha : a < k) (hc : c < k) (hac : a ≠ c) (L : List Nat) (hL : ListAt n N E c L) (hne : L ≠ []) (hl5 : L.length ≤ 5000) (R : (Nat → Int) → (Nat → Int) → Prop)
    (D : ∀ W, ChainAt W p gn gw gl n cn cw k cl N (setAll V L a) E → Calls Try.prog 45 #[.pointer (some ⟨p, 0, none⟩), .int .i64 (a : Int), .agg #[.int .i64 (E (c * 3)), .int .i64 (E (c * 3 + 1)), .int .i64 (E (c * 3 + 2))]] W fun e W' => e = .returned (.tuple #[]) ∧
      (∃ N' E', R N' E' ∧ ChainAt W' p gn gw gl n cn cw k cl N' (setAll V L a) E') ∧ Touch [gn, gl] W W') :
    Calls Try.prog 15 #[.pointer (some ⟨p, 0, none⟩), .int .i64 (a : Int), .int .i64 (c : Int)] w fun e w' => e = .returned (.bool true) ∧
      ∃ N' E', R N' E' ∧ ChainAt w' p gn gw gl n cn cw k cl N' (setAll V L a) (upd (upd (upd E' (c * 3) 0) (c * 3 + 1) 0) (c * 3 + 2) 0) ∧ Touch [gn, gw, gl] w w' := by
  have t1 : Touch [] w ((w.alloc (.cells #[.pointer (some ⟨p, 0, none⟩)] 23)).alloc (.cells #[.int .i64 (a : Int)] 3)) := ((Touch.refl [] w).alloc _).alloc _
  have hB3 := (Box1.new w 23 (.pointer (some ⟨p, 0, none⟩))).carry ((Touch.refl [] _).alloc (.cells #[.int .i64 (a : Int)] 3)) (by simp)
  have hB4 := Box1.new (w.alloc (.cells #[.pointer (some ⟨p, 0, none⟩)] 23)) 3 (.int .i64 (a : Int))
  rw [show (w.alloc (.cells #[.pointer (some ⟨p, 0, none⟩)] 23)).heap.size = w.heap.size + 1 by simp] at hB4
  have h1 := h.new t1
  have D1 := hasList_any h1 a
  rw [inR_yes ⟨by omega, by omega⟩] at D1
  have D2 := hasList_any h1 c
  rw [inR_yes ⟨by omega, by omega⟩] at D2
  have D3 := len_any h1 c
  rw [lenV_list hL hc] at D3
  have H1 := Lib.hid D1
  have H2 := Lib.hid D2
  have H3 := Lib.hid D3
  have HB3 := Lib.hid hB3
  have HB4 := Lib.hid hB4
  have HC1 := Lib.hid h1
  have T1 := Lib.hid t1
  have HL := Lib.hid hL
  have hpos : 0 < L.length := List.length_pos_iff.2 hne
  have bac : ((a : Int) == (c : Int)) = false := by simp; omega
  have bl : ((L.length : Int) == 0) = false := by simp; omega
  have L0 := Lib.hid h.lts
  clear h hL hB3 hB4 t1 h1 D1 D2 D3 hne
  refine (callsIn_wide (n := 6)).1 ?_
  refine callsIn_of_wp_marks Try.func15 rfl trivial ?_ rfl
  simp only [Try.ntmps15, List.size_toArray, List.length_cons, List.length_nil, Nat.reduceAdd, Nat.reduceSub, Array.replicate_succ, Array.replicate_zero, List.push_toArray, List.append_toArray, List.nil_append, List.cons_append]
  gi_wp2
  refine ⟨trivial, ?_⟩
  refine (callsIn_wide.2 H1.out).mono ?_
  rintro e w1 ⟨rfl, hw⟩
  rw [hw]
  clear hw w1
  gi_wp2
  refine ⟨trivial, ?_⟩
  refine (callsIn_wide.2 H2.out).mono ?_
  rintro e w1 ⟨rfl, hw⟩
  rw [hw]
  clear hw w1
  gi_wp2
  refine ⟨trivial, ?_⟩
  refine (callsIn_wide.2 H3.out).mono ?_
  rintro e w1 ⟨rfl, hw⟩
  rw [hw]
  clear hw w1
  gi_wp2
  refine ⟨trivial, ?_⟩
  generalize hw1 : (w.alloc (.cells #[.pointer (some ⟨p, 0, none⟩)] 23)).alloc (.cells #[.int .i64 (a : Int)] 3) = w1 at *
  refine (callsIn_wide.2 (all_fn (some ⟨p, 0, none⟩) c w1)).mono ?_
  rintro e w2 ⟨rfl, hw2⟩
  gi_wp2
  have t2 : Touch [] w1 w2 := by rw [hw2]; exact ((Touch.refl [] w1).alloc _).alloc _
  have s2 : w2.heap.size = w1.heap.size + 2 := by rw [hw2]; simp
  have cA : w2.cell? ⟨w1.heap.size, 0, none⟩ = some (.pointer (some ⟨p, 0, none⟩)) := by
    rw [hw2]
    exact (((Box1.new w1 23 (.pointer (some ⟨p, 0, none⟩))).carry ((Touch.refl [] _).alloc (.cells #[.int .i64 (c : Int)] 3)) (by simp)).c0)
  have cB : w2.cell? ⟨w1.heap.size + 1, 0, none⟩ = some (.int .i64 (c : Int)) := by
    rw [hw2]
    have := (Box1.new (w1.alloc (.cells #[.pointer (some ⟨p, 0, none⟩)] 23)) 3 (.int .i64 (c : Int))).c0
    rw [show (w1.alloc (.cells #[.pointer (some ⟨p, 0, none⟩)] 23)).heap.size = w1.heap.size + 1 by simp] at this
    exact this
  rw [← hw2]
  have C2 := HC1.out.new t2
  have B3 := HB3.out.carry t2 (by simp)
  have B4 := HB4.out.carry t2 (by simp)
  have T2 := T1.out.trans t2 (by simp)
  have lts := C2.lts
  have s1 := HB4.out.lt
  have hLn := HL.out.lt
  obtain ⟨LF, hLF⟩ : ∃ LF : List (Fin n), ints LF = L := ⟨L.pmap (fun x h => ⟨x, h⟩) hLn, by simp [ints, List.map_pmap]⟩
  have hLl : LF.length = L.length := by rw [← hLF]; simp [ints]
  have hgn := own_cap C2.next
  unfold maxLen at hgn
  have DN : ∀ W, Below w2.heap.size w2 W → Calls Try.prog 50 #[.pointer (some ⟨p, 0, none⟩), .int .i64 (c : Int)] W (NodesPost W (LF.map fun y => y.val)) := fun W hW => by
    rw [show (LF.map fun y => y.val) = L from hLF]
    exact nodes_any (C2.new (Touch.ofBelow hW)) c hc L HL.out hl5
  have HLF := Lib.hid hLF
  clear hw2 hLn hLF t2 HC1 HB3 HB4 T1 HL H1 H2 H3 hw1
  refine wpIn_rangeFunc_ownG rfl (by omega) (gf := 49) (lb := #[.pointer (some ⟨w1.heap.size, 0, none⟩), .pointer (some ⟨w1.heap.size + 1, 0, none⟩)]) rfl trivial (enters_of Try.func49 (by kernel_rfl) rfl)
    (chain_stops (L := LF) ⟨⟨_, rfl⟩, _, rfl⟩ [gw] (by omega) (by simp; omega) (by omega) (by omega) cA cB DN _) KpR.trans (fun W l o o' hl ho hc _ => KpR.put W l o o' hl ho hc) (Below.refl _ _) (fun _ => rfl)
    (JoinI w w.heap.size (w.heap.size + 1) p gn gw gl n cn cw k cl N V E a) (fun _ _ _ => False)
    (joinI_own lts (by omega) (by omega) (by omega)) (fun _ _ _ _ _ hs _ _ => hs)
    ⟨by rw [show ints ([] : List (Fin n)) = [] from rfl, setAll_nil]; exact C2, B3, B4, T2.mono (by simp)⟩
    (fun y => { tmps := #[.pointer (some ⟨p, 0, none⟩), .int .i64 (a : Int), .int .i64 (c : Int), .pointer (some ⟨w.heap.size, 0, none⟩), .pointer (some ⟨w.heap.size + 1, 0, none⟩), undef, .bool false, .int .i64 (y.val : Int), .pointer (some ⟨p, 0, none⟩), .int .i64 (a : Int), .bool true, .bool false, .bool false, .pointer (some ⟨p, 0, none⟩), .int .i64 (c : Int), .bool true, .bool false, .bool false, .bool false, .int .i64 (a : Int), .int .i64 (c : Int), .bool false, .bool false, .pointer (some ⟨p, 0, none⟩), .int .i64 (c : Int), .int .i64 (L.length : Int), .bool false, .pointer (some ⟨p, 0, none⟩), .int .i64 (c : Int), .func (.func 49) #[] #[.pointer (some ⟨w1.heap.size, 0, none⟩), .pointer (some ⟨w1.heap.size + 1, 0, none⟩)], .int .i64 (y.val : Int), undef, undef, undef, undef, undef, undef, undef, undef, undef, undef, undef, undef, undef, undef, undef, undef, undef, undef, undef, undef, undef, undef, undef, undef], defers := [] }) ?assign ?body ?done ?stop
  case assign =>
    intro l y W K hK
    gi_wp2
    exact hK
  case body =>
    rintro l pre y W ⟨hc2, hb3, hb4, ht⟩ hlt
    have hk := own_cap hc2.wher
    unfold maxLen at hk
    have C3 := Lib.hid hc2
    have HT := Lib.hid ht
    have X3 := Lib.hid hb3
    have X4 := Lib.hid hb4
    have hy := y.isLt
    have L0' := L0.out
    have HS := Lib.hid (ints_snoc pre y)
    generalize y.val = v at *
    have hv : (v : Int) < (n : Int) := by omega
    clear hc2 ht hb3 hb4
    have k0 : ∀ x : Cls W, x.val.cell? ⟨w.heap.size, 0, none⟩ = some (.pointer (some ⟨p, 0, none⟩)) := fun x => (X3.out.carry x.property (by simp)).c0
    have k1 : ∀ x : Cls W, x.val.cell? ⟨w.heap.size + 1, 0, none⟩ = some (.int .i64 (a : Int)) := fun x => (X4.out.carry x.property (by simp)).c0
    have k2 : ∀ x : Cls W, x.val.cell? ⟨p, 1, none⟩ = some (.slice (some ⟨gw, 0, none⟩) n cw) := fun x => (C3.out.carry x.property (by simp)).c1
    gi_wp2
    refine region_round (by kernel_rfl) (fun ⟨_, _, h⟩ => h) (by kernel_rfl) ?_
    refine tail_start (wd := W) 7 (by kernel_rfl) ((Touch.refl _ _).drew) ?_
    simp only [List.take_succ_cons, List.take_zero, List.drop_succ_cons, List.drop_zero]
    repeat (first | go_big_quiet_step (fail) | quiet_step (fail))
    refine wpQuiet_nil ?_
    intro z
    have Z3 := C3.out.carry z.property (by simp)
    have z0 := Z3.cV hy
    have z1 := Z3.wher.frozenAt v
    have z2 := Z3.lts
    have X3z := X3.out.carry z.property (by simp)
    have X4z := X4.out.carry z.property (by simp)
    have HTz := HT.out.trans z.property (by simp)
    have u5 : Touch [gw] z.val (z.val.setCell ⟨gw, v, none⟩ (.int .i64 (a : Int))) := (Touch.refl _ _).setCell (a := ⟨gw, v, none⟩) (by simp) _
    have HI := Lib.hid (show JoinI w w.heap.size (w.heap.size + 1) p gn gw gl n cn cw k cl N V E a (pre ++ [y]) (z.val.setCell ⟨gw, v, none⟩ (.int .i64 (a : Int))) from ⟨by rw [HS.out, setAll_snoc]; exact Z3.setV v a, X3z.carry u5 (by simp; omega), X4z.carry u5 (by simp; omega), HTz.trans u5 (by simp)⟩)
    have HU := Lib.hid ((z.property.mono (S' := [gw]) (by simp)).trans u5 (by simp))
    clear Z3 X3z X4z HTz u5 k0 k1 k2
    go_wp2_with fail
    gi_wp2
    exact ⟨⟨HU.out.size, fun k o hk ho _ => (HU.out.block k (Array.getElem?_eq_some_iff.1 ho).1 (fun hm => by simp at hm; omega)).trans ho⟩, KpR.of_touch HU.out, HI.out⟩
  case done =>
    rintro B ys W hB rfl ⟨hc2, hb3, hb4, ht⟩ hK
    rw [HLF.out] at hc2
    have hk := own_cap hc2.ends
    unfold maxLen at hk
    have L0' := L0.out
    have ha' : (c : Int) < (k : Int) := by omega
    have C3 := Lib.hid hc2
    have HT := Lib.hid ht
    have X3 := Lib.hid hb3
    have X4 := Lib.hid hb4
    have HK := Lib.hid hK
    clear hc2 ht hb3 hb4
    have k0 : ∀ x : Cls W, x.val.cell? ⟨w.heap.size, 0, none⟩ = some (.pointer (some ⟨p, 0, none⟩)) := fun x => (X3.out.carry x.property (by simp)).c0
    have k1 : ∀ x : Cls W, x.val.cell? ⟨w.heap.size + 1, 0, none⟩ = some (.int .i64 (a : Int)) := fun x => (X4.out.carry x.property (by simp)).c0
    have k2 : ∀ x : Cls W, x.val.cell? ⟨p, 2, none⟩ = some (.slice (some ⟨gl, 0, none⟩) k cl) := fun x => (C3.out.carry x.property (by simp)).c2
    have k3 : ∀ x : Cls W, x.val.cell? ⟨gl, c * 3, none⟩ = some (.int .i64 (E (c * 3))) := fun x => (C3.out.carry x.property (by simp)).cE (by omega)
    have k4 : ∀ x : Cls W, x.val.cell? ⟨gl, c * 3 + 1, none⟩ = some (.int .i64 (E (c * 3 + 1))) := fun x => (C3.out.carry x.property (by simp)).cE (by omega)
    have k5 : ∀ x : Cls W, x.val.cell? ⟨gl, c * 3 + 2, none⟩ = some (.int .i64 (E (c * 3 + 2))) := fun x => (C3.out.carry x.property (by simp)).cE (by omega)
    gi_wp2
    refine region_wide (by kernel_rfl) (fun ⟨_, _, h⟩ => by obtain ⟨e, _⟩ := h; cases e) ?_
    refine tail_start (wd := W) 9 (by kernel_rfl) ((Touch.refl _ _).drew) ?_
    simp only [List.take_succ_cons, List.take_zero, List.drop_succ_cons, List.drop_zero]
    repeat (first | go_big_quiet_step (fail) | quiet_step (fail))
    refine wpQuiet_nil ?_
    intro z
    have Z3 := C3.out.carry z.property (by simp)
    have DA := Lib.hid (D z.val Z3)
    clear k0 k1 k2 k3 k4 k5 Z3
    go_wp2_with fail
    refine (DA.out).mono ?_
    rintro e W5 ⟨rfl, ⟨N', E', hR, h5⟩, t5⟩
    have L5 := h5.lts
    have hk5 := own_cap h5.ends
    unfold maxLen at hk5
    have hW : Touch [gn, gl] W W5 := (z.property.mono (S' := [gn, gl]) (by simp)).trans t5 (by simp)
    have x3 := (X3.out.carry hW (by simp; omega)).c0
    have d2 := h5.c2
    have e0 := h5.cE (i := c * 3) (by omega)
    have e1 := h5.cE (i := c * 3 + 1) (by omega)
    have e2 := h5.cE (i := c * 3 + 2) (by omega)
    have f0 := h5.ends.frozenAt (c * 3)
    have f1 := h5.ends.frozenAt (c * 3 + 1)
    have f2 := h5.ends.frozenAt (c * 3 + 2)
    have H5 := Lib.hid h5
    have HR := Lib.hid hR
    have HW := Lib.hid hW
    have HE := Lib.hid (((h5.setE (c * 3) 0).setE (c * 3 + 1) 0).setE (c * 3 + 2) 0)
    have HF := Lib.hid ((((Touch.refl [gl] W5).setCell (a := ⟨gl, c * 3, none⟩) (.inl (by simp)) (.int .i64 0)).setCell (a := ⟨gl, c * 3 + 1, none⟩) (.inl (by simp)) (.int .i64 0)).setCell (a := ⟨gl, c * 3 + 2, none⟩) (.inl (by simp)) (.int .i64 0))
    clear h5 hR hW t5 DA
    go_wp2_with fail
    gi_wp2
    generalize ((W5.setCell ⟨gl, c * 3, none⟩ (.int .i64 0)).setCell ⟨gl, c * 3 + 1, none⟩ (.int .i64 0)).setCell ⟨gl, c * 3 + 2, none⟩ (.int .i64 0) = WF at *
    have hBlt : B < W.heap.size := (Array.getElem?_eq_some_iff.1 HK.out).1
    have hWF : Touch [gn, gl] W WF := HW.out.trans HF.out (by simp)
    have hK5 := (hWF.block B hBlt (by simp; omega)).trans HK.out
    have tp := grown_touch (grownBy_putObj' WF B (.deferred none))
    have hTT : Touch [gn, gw, gl] w WF := (HT.out.mono (S' := [gn, gw, gl]) (by simp)).trans hWF (by simp)
    refine ⟨by simp, .inl ⟨_, _, rfl, run_takeDeferred hK5, ?_⟩⟩
    exact ⟨_, results_tmp rfl _ _ _, rfl, N', E', HR.out, HE.out.carry tp (by simp; omega), hTT.trans tp (fun b hb => by simp at hb; right; omega)⟩
  case stop =>
    rintro D c pre W _ _ h _
    exact h.elim
end Go.Proofs.Ytalkpoeliekbfaa
