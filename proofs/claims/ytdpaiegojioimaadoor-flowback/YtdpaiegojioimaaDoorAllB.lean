/-
  The contracts on which the law's proof rests, bound together in build order: BoxV, RefOct, RefNum, Row8, Inet, InetB, InetC, InetD, InetE, InetF, InetG, InetH, Ipv4Sum, Ipv4Ref, Ipv4Make, Ipv4Pack, Ipv4Parse.
-/
import Derived.Test.YtdpaiegojioimaaDoorAllA
import Derived.Deep.MidRow
import Derived.Deep.Cut
import Derived.Deep.RegionWith
import Derived.Laws.CopyOwn
import Derived.Deep.RegionLaw
import Derived.Laws.OwnMore
import Derived.Lib.BufferWrite
/-
  A block of its own, by all its cells.
-/
namespace Go.Proofs.YtdpaiegojioimaaDoor
open Go.ChangeShapes Go.WideShapes Go.ChangeAt Go.RowKit Go.Deep
set_option linter.unusedVariables false

/-- A block of its own with those cells. -/
def BoxV (w : World) (b : Nat) (t : TypeId) (cs : Array Value) : Prop := w.heap[b]? = some (.cells cs t (0, 0))
section
variable {w w' : World} {b : Nat} {t : TypeId} {cs : Array Value}
theorem BoxV.lt (h : BoxV w b t cs) : b < w.heap.size := (Array.getElem?_eq_some_iff.1 h).1
theorem BoxV.cell (h : BoxV w b t cs) (i : Nat) : w.cell? ⟨b, i, none⟩ = cs[i]? := cell_of_row w b i _ t (0, 0) h
theorem BoxV.fr (h : BoxV w b t cs) (i : Nat) : w.frozen? ⟨b, i, none⟩ = false := frozen_of_row w b i _ t h
theorem BoxV.carry {S : List Nat} (h : BoxV w b t cs) (k : Touch S w w') (hb : b ∉ S) : BoxV w' b t cs := (k.block b h.lt hb).trans h
theorem BoxV.set (h : BoxV w b t cs) (i : Nat) (v : Value) : BoxV (w.setCell ⟨b, i, none⟩ v) b t (cs.setIfInBounds i v) := heap_setCell_same w b i _ t v h
theorem BoxV.new (w : World) (t : TypeId) (cs : Array Value) : BoxV (w.alloc (.cells cs t)) w.heap.size t cs := heap_alloc_new w _
end

section
variable {w w2 : World} {cs : Array Value} {T : TypeId} {o o' : Obj}
theorem BoxV.of2 : BoxV ((w.alloc (.cells cs T)).alloc o) w.heap.size T cs := (BoxV.new w T cs).carry ((Touch.refl [] _).alloc o) (by simp)
theorem BoxV.of3 : BoxV (((w.alloc (.cells cs T)).alloc o).alloc o') w.heap.size T cs := BoxV.of2.carry ((Touch.refl [] _).alloc o') (by simp)
theorem BoxV.at1 : BoxV ((w.alloc o).alloc (.cells cs T)) (w.heap.size + 1) T cs := by
  have := BoxV.new (w.alloc o) T cs
  rwa [nblk_alloc] at this
theorem BoxV.at1of3 : BoxV (((w.alloc o).alloc (.cells cs T)).alloc o') (w.heap.size + 1) T cs := BoxV.at1.carry ((Touch.refl [] _).alloc o') (by simp)
theorem BoxV.at2 : BoxV (((w.alloc o).alloc o').alloc (.cells cs T)) (w.heap.size + 2) T cs := by
  have := BoxV.new ((w.alloc o).alloc o') T cs
  rwa [nblk_alloc, nblk_alloc] at this
end
theorem BoxV.range {w : World} {b : Nat} {T : TypeId} {cs : Array Value} (h : BoxV w b T cs) : w.rangeAt b 0 cs.toList := by
  intro j v hv
  rw [Nat.zero_add, h.cell]
  simpa using hv
/-- A result that lies in a block of its own: a struct, handed back by value. -/
theorem ret_box {P : Program} {fn : Func} {s : Tmp} {t : TypeId} {tmps : Array Value} {w : World} {b : Nat} {T : TypeId} {cs : Array Value} {d : TypeDesc} (h : fn.results = #[.cell s t]) (hx : tmps.getD s undef = .pointer (some ⟨b, 0, none⟩)) (hB : BoxV w b T cs)
    (hu : P.underlying t = some d) (hd : d.isRow = true) (hi : (P.info? t).map (·.size) = some cs.size) : (results fn tmps).run P w = .ok (.agg cs) w := by
  have L := run_loadVar_mid (P := P) w b 0 t cs.toList d hB.range hu hd (by simpa using hi)
  rw [Array.toArray_toList] at L
  have hx' : tmps[s]?.getD undef = .pointer (some ⟨b, 0, none⟩) := by simpa using hx
  simp [results, h, hx', asAddr, L]
end Go.Proofs.YtdpaiegojioimaaDoor

/-
  The reference's readers of bytes (layer 9): Take, Num, Signed.
-/
namespace Go.Proofs.YtdpaiegojioimaaDoor
open Go.ChangeShapes Go.WideShapes Go.ChangeAt Go.RowKit Go.Deep
set_option linter.unusedVariables false
set_option linter.unusedSimpArgs false

/-- A reader of the reference: what is left, and the error's number. -/
def rv (l : List UInt8) (k : Int) : Value := .agg #[.string (S l), .int .i64 k]
def emptyS : ByteArray := ⟨#[]⟩
theorem t2w (w : World) (a b : Obj) : Touch [] w ((w.alloc a).alloc b) := ((Touch.refl [] w).alloc a).alloc b

set_option maxRecDepth 100000 in
theorem refTake_err (l : List UInt8) (k n : Int) (hk : k ≠ 0) (w : World) :
    Calls Tryd.prog 112 #[rv l k, .int .i64 n] w fun e w' => e = .returned (.tuple #[rv l k, .string (S [])]) ∧ Touch [] w w' := by
  have b1 : (k != 0) = true := by simpa using hk
  unfold rv
  go_enter Tryd.func112, Tryd.ntmps112
  go_wp2_with fail
  refine bodyPost_ret (v := .tuple #[.agg #[.string (S l), .int .i64 k], .string (S [])]) (by simp [results, Tryd.results112, go_sem]; rfl) rfl ?_
  exact ⟨rfl, t2w _ _ _⟩
set_option maxRecDepth 100000 in
theorem refTake_neg (l : List UInt8) (n : Int) (hn : n < 0) (w : World) :
    Calls Tryd.prog 112 #[rv l 0, .int .i64 n] w fun e w' => e = .returned (.tuple #[rv l 2, .string (S [])]) ∧ Touch [] w w' := by
  unfold rv
  go_enter Tryd.func112, Tryd.ntmps112
  go_wp2_with fail
  refine bodyPost_ret (v := .tuple #[.agg #[.string (S l), .int .i64 2], .string (S [])]) (by simp [results, Tryd.results112, go_sem]; rfl) rfl ?_
  exact ⟨rfl, t2w _ _ _⟩
set_option maxRecDepth 100000 in
theorem refTake_short (l : List UInt8) (n : Int) (hn : (l.length : Int) < n) (w : World) :
    Calls Tryd.prog 112 #[rv l 0, .int .i64 n] w fun e w' => e = .returned (.tuple #[rv l 5, .string (S [])]) ∧ Touch [] w w' := by
  have hz := S_size l
  have h0 : ¬ (n < 0) := by omega
  unfold rv
  go_enter Tryd.func112, Tryd.ntmps112
  go_wp2_with fail
  refine bodyPost_ret (v := .tuple #[.agg #[.string (S l), .int .i64 5], .string (S [])]) (by simp [results, Tryd.results112, go_sem]; rfl) rfl ?_
  exact ⟨rfl, t2w _ _ _⟩
set_option maxHeartbeats 1000000 in
set_option maxRecDepth 100000 in
theorem refTake_ok (l : List UInt8) (n : Nat) (hn : n ≤ l.length) (hl : l.length ≤ 1000000000) (w : World) :
    Calls Tryd.prog 112 #[rv l 0, .int .i64 (n : Int)] w fun e w' => e = .returned (.tuple #[rv (l.drop n) 0, .string (S (l.take n))]) ∧ Touch [] w w' := by
  have hz := S_size l
  have h1 : ¬ ((l.length : Int) < (n : Int)) := by omega
  have s1 := S_take l n
  have s2 := S_drop l n
  have hx : (n : Int) ≤ (l.length : Int) := by omega
  unfold rv
  go_enter Tryd.func112, Tryd.ntmps112
  go_upto_region 7 with fail
  go_region
  all_goals go_wp2_with fail
  all_goals refine bodyPost_ret (v := .tuple #[.agg #[.string (S (l.drop n)), .int .i64 0], .string (S (l.take n))]) (by simp [results, Tryd.results112, go_sem]) rfl ?_
  all_goals exact ⟨rfl, by first | exact (t2w _ _ _).drew | exact t2w _ _ _⟩

end Go.Proofs.YtdpaiegojioimaaDoor

/-
  The reference's Num (layer 9).
-/
namespace Go.Proofs.YtdpaiegojioimaaDoor
open Go.ChangeShapes Go.WideShapes Go.ChangeAt Go.RowKit Go.Deep
set_option linter.unusedVariables false
set_option linter.unusedSimpArgs false

set_option maxHeartbeats 1000000 in
set_option maxRecDepth 100000 in
theorem refNum_core (l m t : List UInt8) (k j n : Int) (ht : t.length ≤ 8)
    (HT : ∀ w, Calls Tryd.prog 112 #[rv l k, .int .i64 n] w fun e w' => e = .returned (.tuple #[rv m j, .string (S t)]) ∧ Touch [] w w') (w : World) :
    Calls Tryd.prog 104 #[rv l k, .int .i64 n] w fun e w' => e = .returned (.tuple #[rv m j, .int .u64 (num t : Nat)]) ∧ Touch [] w w' := by
  have H := Lib.hid HT
  clear HT
  have hz := S_size t
  unfold rv at *
  have X0 := BoxV.new (w.alloc (.cells #[.string (S l), .int .i64 k] 138)) 138 #[.string ⟨#[]⟩, .int .i64 0]
  rw [show (w.alloc (.cells #[.string (S l), .int .i64 k] 138)).heap.size = w.heap.size + 1 by simp] at X0
  have T0 := t2w w (.cells #[.string (S l), .int .i64 k] 138) (.cells #[.string ⟨#[]⟩, .int .i64 0] 138)
  have HX0 := Lib.hid X0
  have HT0 := Lib.hid T0
  have HM := Lib.hid ht
  clear X0 T0
  go_enter Tryd.func104, Tryd.ntmps104
  go_wp2_with fail
  refine (H.out _).mono ?_
  rintro e w1 ⟨rfl, t1⟩
  have HX1 := Lib.hid ((HX0.out.carry t1 (by simp)).carry ((Touch.refl [] _).alloc (.cells #[.string (S m), .int .i64 j] 138)) (by simp))
  have HY1 := Lib.hid (BoxV.new w1 138 #[.string (S m), .int .i64 j])
  have HT1 := Lib.hid ((HT0.out.trans t1 (by simp)).alloc (.cells #[.string (S m), .int .i64 j] 138))
  have hne := (HX0.out.carry t1 (by simp)).lt
  have hge := (HT0.out.trans t1 (by simp)).size
  clear t1 HX0 HT0 H
  go_wp2_with fail
  generalize hW : w1.alloc (.cells #[.string (S m), .int .i64 j] 138) = W at *
  have HW := Lib.hid hW
  clear hW
  go_loopw [9, 8] (fun y u wr => ∃ i : Nat, i ≤ t.length ∧ y = .int .i64 i ∧ u = .int .u64 (num (t.take i) : Nat) ∧ wr = W) (fun y _ _ => t.length - (intOf y).toNat)
  case atStart => exact ⟨0, Nat.zero_le _, rfl, rfl, rfl⟩
  case round =>
    obtain ⟨i, hi, rfl, rfl, rfl⟩ := hrel
    by_cases hlt : i < t.length
    · have hx := ix_str t i hlt
      have hb := (t[i]).toNat_lt
      have hN : num (t.take i) < 72057594037927936 := by
        refine Nat.lt_of_lt_of_le (num_lt _) ?_
        rw [List.length_take, Nat.min_eq_left hi]
        exact Nat.le_trans (Nat.pow_le_pow_right (by omega) (show i ≤ 7 by omega)) (by decide)
      have hn2 : num (t.take (i + 1)) = num (t.take i) * 256 + (t[i]).toNat := by rw [take_snoc t i hlt, num_snoc]
      have HN2 := Lib.hid hn2
      clear hn2
      generalize num (t.take i) = N at *
      generalize (t[i]).toNat = b at *
      have f1 : IntKind.u64.wrap (256 * (N : Int)) = 256 * (N : Int) := by rw [IntKind.wrap_u64]; omega
      have f2 : IntKind.u64.wrap (b : Int) = (b : Int) := by rw [IntKind.wrap_u64]; omega
      have f3 : IntKind.u64.wrap (256 * (N : Int) + (b : Int)) = 256 * (N : Int) + (b : Int) := by rw [IntKind.wrap_u64]; omega
      go_wp2_with fail
      refine ⟨⟨i + 1, by omega, by go_num, by rw [HN2.out]; congr 1; omega, trivial⟩, by simp [intOf]; omega⟩
    · obtain rfl : i = t.length := by omega
      have y0 := HY1.out.cell 0
      have y1 := HY1.out.cell 1
      have ly := HY1.out.lt
      have x0 := HX1.out.cell 0
      have x1 := HX1.out.cell 1
      have lx := HX1.out.lt
      have fz := HX1.out.fr
      have g0 := show BoxV _ (w.heap.size + 1) 138 #[.string (S m), .int .i64 0] from HX1.out.set 0 (.string (S m))
      have g1 := show BoxV _ (w.heap.size + 1) 138 #[.string (S m), .int .i64 j] from g0.set 1 (.int .i64 j)
      have G := Lib.hid g1
      have ts := ((Touch.refl [w.heap.size + 1] wr).setCell (a := ⟨w.heap.size + 1, 0, none⟩) (Or.inl (by simp)) (.string (S m))).setCell (a := ⟨w.heap.size + 1, 1, none⟩) (Or.inl (by simp)) (.int .i64 j)
      have T2 := Lib.hid (HT1.out.trans ts (by intro b hb; simp at hb; omega))
      rw [List.take_of_length_le (Nat.le_refl _)]
      clear g0 g1 ts
      go_wp2_with fail
      have d0 := G.out.cell 0
      have d1 := G.out.cell 1
      refine bodyPost_ret (v := .tuple #[.agg #[.string (S m), .int .i64 j], .int .u64 (num t : Nat)]) (by simp [results, Tryd.results104, go_sem, d0, d1]) rfl ?_
      exact ⟨rfl, T2.out⟩
theorem refNum_err (l : List UInt8) (k n : Int) (hk : k ≠ 0) (w : World) : Calls Tryd.prog 104 #[rv l k, .int .i64 n] w fun e w' => e = .returned (.tuple #[rv l k, .int .u64 0]) ∧ Touch [] w w' :=
  refNum_core l l [] k k n (by simp) (fun w => refTake_err l k n hk w) w
theorem refNum_short (l : List UInt8) (n : Nat) (hn : l.length < n) (w : World) : Calls Tryd.prog 104 #[rv l 0, .int .i64 (n : Int)] w fun e w' => e = .returned (.tuple #[rv l 5, .int .u64 0]) ∧ Touch [] w w' :=
  refNum_core l l [] 0 5 n (by simp) (fun w => refTake_short l n (by omega) w) w
theorem refNum_ok (l : List UInt8) (n : Nat) (hn : n ≤ l.length) (h8 : n ≤ 8) (hl : l.length ≤ 1000000000) (w : World) : Calls Tryd.prog 104 #[rv l 0, .int .i64 (n : Int)] w fun e w' => e = .returned (.tuple #[rv (l.drop n) 0, .int .u64 (num (l.take n) : Nat)]) ∧ Touch [] w w' :=
  refNum_core l (l.drop n) (l.take n) 0 0 n (by rw [List.length_take]; omega) (fun w => refTake_ok l n hn hl w) w
end Go.Proofs.YtdpaiegojioimaaDoor

/-
  Rows of bytes that the call itself made: stores, copies of bytes and of strings into them, and what they are as strings.
-/
namespace Go.Proofs.YtdpaiegojioimaaDoor
open Go.ChangeShapes Go.WideShapes Go.ChangeAt Go.RowKit Go.Deep
set_option linter.unusedVariables false

/-- The block g is a row of the bytes L. -/
def Row8 (w : World) (g : Nat) (L : List UInt8) : Prop := w.heap[g]? = some (.cells (byt L).toArray 5 (0, 0))
section
variable {w w' : World} {g : Nat} {L : List UInt8}
theorem Row8.lt (h : Row8 w g L) : g < w.heap.size := (Array.getElem?_eq_some_iff.1 h).1
theorem Row8.carry {S : List Nat} (h : Row8 w g L) (t : Touch S w w') (hg : g ∉ S) : Row8 w' g L := (t.block g h.lt hg).trans h
theorem Row8.cell (h : Row8 w g L) {i : Nat} (hi : i < L.length) : w.cell? ⟨g, i, none⟩ = some (.int .u8 ((L[i]).toNat : Int)) := by
  rw [cell_of_row w g i _ _ _ h]
  simp [byt, hi]
theorem Row8.fr (h : Row8 w g L) (i : Nat) : w.frozen? ⟨g, i, none⟩ = false := frozen_of_row w g i _ _ h
theorem Row8.set (h : Row8 w g L) (i : Nat) (b : UInt8) (x : Int) (hx : x = (b.toNat : Int)) : Row8 (w.setCell ⟨g, i, none⟩ (.int .u8 x)) g (L.set i b) := by
  have := heap_setCell_same w g i _ _ (.int .u8 x) h
  unfold Row8
  rw [this, hx]
  simp [byt, List.map_set]
theorem Row8.made (w : World) (n : Nat) : Row8 (w.alloc (.cells (Array.replicate n (.int .u8 0)) 5)) w.heap.size (List.replicate n 0) := by
  have := heap_alloc_new w (.cells (Array.replicate n (.int .u8 0)) 5)
  unfold Row8
  rw [this]
  simp [byt]
theorem Row8.bts (h : Row8 w g L) (c : Nat) (hc : L.length ≤ c) (hm : c ≤ 1000000) : Bts w (.slice (some ⟨g, 0, none⟩) L.length c) L := by
  refine ⟨_, c, rfl, hc, by unfold maxLen; omega, fun e => by simp at e, fun ad ha j u hu => ?_⟩
  obtain rfl : ⟨g, 0, none⟩ = ad := by simpa using ha
  have hj : j < L.length := by have := (List.getElem?_eq_some_iff.1 hu).1; rwa [byt_length] at this
  rw [show (⟨g, 0, none⟩ : Addr).add j = ⟨g, j, none⟩ by unfold Addr.add; split <;> simp_all, h.cell hj]
  simpa [byt, hj] using hu
end
theorem splice_byt (L : List UInt8) (off : Nat) (m : List UInt8) : splice (byt L) off (byt m) = byt (splice L off m) := by
  simp [splice, byt]
theorem byte_size : (Tryd.prog.info? 5).map (·.size) = some 1 := by kernel_rfl

theorem touch_setRow (w : World) (g : Nat) (cs : Array Value) : Touch [g] w (w.setRow g cs) :=
  ⟨rfl, rfl, rfl, by simp [World.setRow], fun b _ hb => setRow_other w g b cs (by simpa using hb)⟩
/-- copy of bytes into a row. -/
theorem copy_run {w : World} {g : Nat} {L m : List UInt8} {vx : Value} (hr : Row8 w g L) (hb : Bts w vx m) (off dLen dCap : Nat) (hfit : off + dLen ≤ L.length) :
    ∃ w', (∀ ty, (Builtin.copy_ #[89, 89] ty #[.slice (some ⟨g, off, none⟩) dLen dCap, vx]).run Tryd.prog w = .ok (goInt (m.take dLen).length) w') ∧ Row8 w' g (splice L off (m.take dLen)) ∧ Touch [g] w w' := by
  obtain ⟨A, c, rfl, h1, h2, h3, h4⟩ := hb
  have hlen : (byt (m.take dLen)).length = Nat.min m.length dLen := by rw [byt_length, List.length_take, Nat.min_comm]
  by_cases h0 : (m.take dLen).length = 0
  · have e : m.take dLen = [] := List.eq_nil_of_length_eq_zero h0
    refine ⟨w, fun ty => ?_, ?_, Touch.refl _ _⟩
    · rw [e]
      exact run_copy_none (P := Tryd.prog) w _ _ ty 5 (some ⟨g, off, none⟩) A dLen dCap m.length c Tryd.underlying89 byte_size (by rw [← hlen, byt_length, h0])
    · rw [e]
      simpa [splice] using hr
  · cases A with
    | none =>
      obtain rfl := h3 rfl
      simp at h0
    | some ad =>
      refine ⟨w.setRow g (byt (splice L off (m.take dLen))).toArray, fun ty => ?_, setRow_heap w g _ _ 5 (0, 0) hr, touch_setRow w g _⟩
      · have := run_copy_row (P := Tryd.prog) w 89 89 ty 5 g off dLen dCap ad m.length c (byt L).toArray 5 (byt (m.take dLen)) Tryd.underlying89 byte_size hr hlen
          (fun j v hv => h4 ad rfl j v (by
            rw [show byt (m.take dLen) = (byt m).take dLen by simp [byt], List.getElem?_take] at hv
            split at hv
            · exact hv
            · cases hv)) (by rw [byt_length, List.length_take]; simp [byt_length]; omega) (byt_one _)
        rw [this, ← splice_byt, byt_length]
        simp [splice, byt_length]
/-- copy of a string into a row. -/
theorem copy_str {w : World} {g : Nat} {L : List UInt8} (hr : Row8 w g L) (m : List UInt8) (off dLen dCap : Nat) (hm : m.length ≤ dLen) (hfit : off + m.length ≤ L.length) :
    ∃ w', (∀ ty, (Builtin.copy_ #[89, 9] ty #[.slice (some ⟨g, off, none⟩) dLen dCap, .string (S m)]).run Tryd.prog w = .ok (goInt m.length) w') ∧ Row8 w' g (splice L off m) ∧ Touch [g] w w' := by
  refine ⟨w.setRow g (byt (splice L off m)).toArray, fun ty => ?_, setRow_heap w g _ _ 5 (0, 0) hr, touch_setRow w g _⟩
  · have := Lib.run_copy_row_string (P := Tryd.prog) w 89 9 ty 5 g off dLen dCap (S m) (byt L).toArray 5 Tryd.underlying89 byte_size hr (by rw [S_size]; exact hm) (by rw [S_size]; simpa [byt_length] using hfit)
    rw [this, ← splice_byt, S_size]
    simp [splice, byt, S, Lib.byteCells]
theorem make8 (n : Nat) (x : Int) (hx : x = (n : Int)) (hn : n ≤ 1000000) (w : World) : (Instr.makeSlice 89 (.int .i64 x) (.int .i64 x)).run Tryd.prog w = .ok (.slice (some ⟨w.heap.size, 0, none⟩) n n) (w.alloc (.cells (Array.replicate n (.int .u8 0)) 5)) := by
  subst hx
  have := run_make_row' (P := Tryd.prog) (w := w) 89 5 (.int .u8 0) 1 Tryd.underlying89 byte_info rfl .i64 .i64 n (by omega) (by omega)
  rw [this, show madeCells #[Value.int .u8 0] n = Array.replicate n (.int .u8 0) from Array.toList_inj.1 (by rw [toList_madeCells_one, Array.toList_replicate])]
theorem put2 (a : Int) (w : World) : Calls Tryd.prog 66 #[.slice none 0 0, .int .i64 a] w (Fresh w (be (u64n a) 2)) := by
  have := putU16_any (Bts.nil w) a (by simp)
  simpa using this
end Go.Proofs.YtdpaiegojioimaaDoor

/-
  inet (layer 10): Bits, Right, own; the reference's Right.
-/
namespace Go.Proofs.YtdpaiegojioimaaDoor
open Go.ChangeShapes Go.WideShapes Go.ChangeAt Go.RowKit Go.Deep
set_option linter.unusedVariables false
set_option linter.unusedSimpArgs false

def av (hi lo : Nat) : Value := .agg #[.int .u64 (hi : Int), .int .u64 (lo : Int)]
def sizeV (v : Int) : Int := if v = 4 then 32 else if v = 6 then 128 else 0
theorem bits10 (v : Int) (w : World) : Calls Tryd.prog 114 #[.int .i64 v] w fun e w' => e = .returned (.int .i64 (sizeV v)) ∧ w' = w := by
  unfold sizeV
  by_cases h4 : v = 4
  · subst h4
    rw [if_pos rfl]
    go_enter Tryd.func114, Tryd.ntmps114
    go_wp2
    go_ret
    exact ⟨rfl, rfl⟩
  · rw [if_neg h4]
    have b4 : (v == 4) = false := by simpa using h4
    by_cases h6 : v = 6
    · subst h6
      rw [if_pos rfl]
      go_enter Tryd.func114, Tryd.ntmps114
      go_wp2
      go_ret
      exact ⟨rfl, rfl⟩
    · rw [if_neg h6]
      have b6 : (v == 6) = false := by simpa using h6
      go_enter Tryd.func114, Tryd.ntmps114
      go_wp2
      go_ret
      exact ⟨rfl, rfl⟩
theorem ahead10 (v : Int) (w : World) : Calls Tryd.prog 107 #[.int .i64 v] w fun e w' => e = .returned (.int .i64 (128 - sizeV v)) ∧ w' = w := by
  have B := Lib.hid (fun w => bits10 v w)
  have hs : 0 ≤ sizeV v ∧ sizeV v ≤ 128 := by unfold sizeV; split <;> (try split) <;> omega
  generalize sizeV v = s at *
  have f : IntKind.i64.wrap (128 - s) = 128 - s := by rw [IntKind.wrap_i64]; omega
  go_enter Tryd.func107, Tryd.ntmps107
  go_wp2_with fail
  refine (B.out _).mono ?_
  rintro e w ⟨rfl, rfl⟩
  go_wp2_with fail
  go_ret
  exact ⟨rfl, rfl⟩
def rightA (v : Int) (hi lo : Nat) : Bool := if v = 4 then decide (hi = 0 ∧ lo ≤ 4294967295) else decide (v = 6)
set_option maxRecDepth 100000 in
theorem right10 (v : Int) (hi lo : Nat) (w : World) : Calls Tryd.prog 41 #[.int .i64 v, av hi lo] w fun e w' => e = .returned (.bool (rightA v hi lo)) ∧ Touch [] w w' := by
  unfold rightA av
  have T := Lib.hid ((Touch.refl [] w).alloc (.cells #[.int .u64 (hi : Int), .int .u64 (lo : Int)] 25))
  by_cases h4 : v = 4
  · subst h4
    rw [if_pos rfl]
    by_cases h0 : hi = 0
    · have b0 : ((hi : Int) == 0) = true := by simp; omega
      have b0' : (hi == 0) = true := by simp; omega
      have e : decide (hi = 0 ∧ lo ≤ 4294967295) = decide (lo ≤ 4294967295) := by simp [h0]
      rw [e]
      rcases (show decide (lo ≤ 4294967295) = true ∨ decide (lo ≤ 4294967295) = false by cases decide (lo ≤ 4294967295) <;> simp) with q | q
      all_goals
        have q' : decide ((lo : Int) ≤ 4294967295) = decide (lo ≤ 4294967295) := by rw [decide_eq_decide]; omega
        rw [q] at q'
        rw [q]
        clear e h0
        go_enter Tryd.func41, Tryd.ntmps41
        go_wp2_with fail
        go_ret
        exact ⟨rfl, T.out⟩
    · have b0 : ((hi : Int) == 0) = false := by simp; omega
      have b0' : (hi == 0) = false := by simp; omega
      have e : decide (hi = 0 ∧ lo ≤ 4294967295) = false := by simp [h0]
      rw [e]
      clear e h0
      go_enter Tryd.func41, Tryd.ntmps41
      go_wp2_with fail
      go_ret
      exact ⟨rfl, T.out⟩
  · rw [if_neg h4]
    have b4 : (v == 4) = false := by simpa using h4
    rcases (show decide (v = 6) = true ∨ decide (v = 6) = false by cases decide (v = 6) <;> simp) with q | q
    all_goals
      have q' : (v == 6) = decide (v = 6) := rfl
      rw [q] at q'
      rw [q]
      clear h4 q
      go_enter Tryd.func41, Tryd.ntmps41
      go_wp2_with fail
      go_ret
      exact ⟨rfl, T.out⟩
set_option maxRecDepth 100000 in
theorem refRight10 (v : Int) (hi lo : Nat) (w : World) : Calls Tryd.prog 44 #[.int .i64 v, av hi lo] w fun e w' => e = .returned (.bool (rightA v hi lo)) ∧ Touch [] w w' := by
  unfold rightA av
  have T := Lib.hid ((Touch.refl [] w).alloc (.cells #[.int .u64 (hi : Int), .int .u64 (lo : Int)] 25))
  by_cases h4 : v = 4
  · subst h4
    rw [if_pos rfl]
    by_cases h0 : hi = 0
    · have b0 : ((hi : Int) == 0) = true := by simp; omega
      have b0' : (hi == 0) = true := by simp; omega
      have e : decide (hi = 0 ∧ lo ≤ 4294967295) = decide (lo ≤ 4294967295) := by simp [h0]
      rw [e]
      rcases (show decide (lo ≤ 4294967295) = true ∨ decide (lo ≤ 4294967295) = false by cases decide (lo ≤ 4294967295) <;> simp) with q | q
      all_goals
        have q' : decide ((lo : Int) < 4294967296) = decide (lo ≤ 4294967295) := by rw [decide_eq_decide]; omega
        have q2 : decide (lo < 4294967296) = decide (lo ≤ 4294967295) := by rw [decide_eq_decide]; omega
        rw [q] at q' q2
        rw [q]
        clear e h0
        go_enter Tryd.func44, Tryd.ntmps44
        go_wp2_with fail
        go_ret
        exact ⟨rfl, T.out⟩
    · have b0 : ((hi : Int) == 0) = false := by simp; omega
      have b0' : (hi == 0) = false := by simp; omega
      have e : decide (hi = 0 ∧ lo ≤ 4294967295) = false := by simp [h0]
      rw [e]
      clear e h0
      go_enter Tryd.func44, Tryd.ntmps44
      go_wp2_with fail
      go_ret
      exact ⟨rfl, T.out⟩
  · rw [if_neg h4]
    have b4 : (v == 4) = false := by simpa using h4
    have q' : (v == 6) = decide (v = 6) := rfl
    generalize decide (v = 6) = q at *
    go_enter Tryd.func44, Tryd.ntmps44
    go_wp2_with fail
    go_ret
    exact ⟨rfl, T.out⟩

theorem ahead10t (v : Int) (w : World) : Calls Tryd.prog 107 #[.int .i64 v] w fun e w' => e = .returned (.int .i64 (128 - sizeV v)) ∧ Touch [] w w' :=
  (ahead10 v w).mono fun e w' ⟨h1, h2⟩ => ⟨h1, by rw [h2]; exact Touch.refl _ _⟩
/-- own: the last four, or all sixteen, of the bytes of an image. -/
theorem own4 {w : World} {b : Nat} {cs : Array Value} (h : BoxV w b 124 cs) : Calls Tryd.prog 91 #[.int .i64 4, .pointer (some ⟨b, 0, none⟩)] w fun e w' => e = .returned (.slice (some ⟨b, 12, none⟩) 4 4) ∧ Touch [] w w' := by
  have A := Lib.hid (fun w => ahead10t 4 w)
  rw [show (128 : Int) - sizeV 4 = 96 from rfl] at A
  go_enter Tryd.func91, Tryd.ntmps91
  go_upto_region 1 with fail
  refine wp_region_cls (wd := w) (by kernel_rfl) (by kernel_rfl) ((Touch.refl _ _).drew) ?_
  repeat (first | go_big_quiet_step ((go_at_call 107; exact Calls.cls_at (A.out _))) | quiet_step ((go_at_call 107; exact Calls.cls_at (A.out _))))
  refine wpQuiet_nil ?_
  rintro _ ⟨y, rfl⟩
  go_wp2_with fail
  go_ret
  exact ⟨rfl, y.property⟩
theorem own6 {w : World} {b : Nat} {cs : Array Value} (h : BoxV w b 124 cs) : Calls Tryd.prog 91 #[.int .i64 6, .pointer (some ⟨b, 0, none⟩)] w fun e w' => e = .returned (.slice (some ⟨b, 0, none⟩) 16 16) ∧ Touch [] w w' := by
  have A := Lib.hid (fun w => ahead10t 6 w)
  rw [show (128 : Int) - sizeV 6 = 0 from rfl] at A
  go_enter Tryd.func91, Tryd.ntmps91
  go_upto_region 1 with fail
  refine wp_region_cls (wd := w) (by kernel_rfl) (by kernel_rfl) ((Touch.refl _ _).drew) ?_
  repeat (first | go_big_quiet_step ((go_at_call 107; exact Calls.cls_at (A.out _))) | quiet_step ((go_at_call 107; exact Calls.cls_at (A.out _))))
  refine wpQuiet_nil ?_
  rintro _ ⟨y, rfl⟩
  go_wp2_with fail
  go_ret
  exact ⟨rfl, y.property⟩
end Go.Proofs.YtdpaiegojioimaaDoor

/-
  inet (layer 10): spread and gather.
-/
namespace Go.Proofs.YtdpaiegojioimaaDoor
open Go.ChangeShapes Go.WideShapes Go.ChangeAt Go.RowKit Go.Deep
set_option linter.unusedVariables false
set_option linter.unusedSimpArgs false

abbrev imgT : TypeId := 124
/-- copy of bytes into an image. -/
theorem copy_img {w : World} {g : Nat} {L m : List UInt8} {vx : Value} (hr : BoxV w g imgT (byt L).toArray) (hb : Bts w vx m) (off dLen dCap : Nat) (hfit : off + dLen ≤ L.length) :
    ∃ w', (∀ ty, (Builtin.copy_ #[89, 89] ty #[.slice (some ⟨g, off, none⟩) dLen dCap, vx]).run Tryd.prog w = .ok (goInt (m.take dLen).length) w') ∧ BoxV w' g imgT (byt (splice L off (m.take dLen))).toArray ∧ Touch [g] w w' := by
  obtain ⟨A, c, rfl, h1, h2, h3, h4⟩ := hb
  have hlen : (byt (m.take dLen)).length = Nat.min m.length dLen := by rw [byt_length, List.length_take, Nat.min_comm]
  by_cases h0 : (m.take dLen).length = 0
  · have e : m.take dLen = [] := List.eq_nil_of_length_eq_zero h0
    refine ⟨w, fun ty => ?_, ?_, Touch.refl _ _⟩
    · rw [e]
      exact run_copy_none (P := Tryd.prog) w _ _ ty 5 (some ⟨g, off, none⟩) A dLen dCap m.length c Tryd.underlying89 byte_size (by rw [← hlen, byt_length, h0])
    · rw [e]
      simpa [splice] using hr
  · cases A with
    | none =>
      obtain rfl := h3 rfl
      simp at h0
    | some ad =>
      refine ⟨w.setRow g (byt (splice L off (m.take dLen))).toArray, fun ty => ?_, setRow_heap w g _ _ imgT (0, 0) hr, touch_setRow w g _⟩
      have := run_copy_row (P := Tryd.prog) w 89 89 ty 5 g off dLen dCap ad m.length c (byt L).toArray imgT (byt (m.take dLen)) Tryd.underlying89 byte_size hr hlen
          (fun j v hv => h4 ad rfl j v (by
            rw [show byt (m.take dLen) = (byt m).take dLen by simp [byt], List.getElem?_take] at hv
            split at hv
            · exact hv
            · cases hv)) (by rw [byt_length, List.length_take]; simp [byt_length]; omega) (byt_one _)
      rw [this, ← splice_byt, byt_length]
      simp [splice, byt_length]
/-- copy of a string into an image. -/
theorem copy_img_str {w : World} {g : Nat} {L : List UInt8} (hr : BoxV w g imgT (byt L).toArray) (m : List UInt8) (off dLen dCap : Nat) (hm : m.length ≤ dLen) (hfit : off + m.length ≤ L.length) :
    ∃ w', (∀ ty, (Builtin.copy_ #[89, 9] ty #[.slice (some ⟨g, off, none⟩) dLen dCap, .string (S m)]).run Tryd.prog w = .ok (goInt m.length) w') ∧ BoxV w' g imgT (byt (splice L off m)).toArray ∧ Touch [g] w w' := by
  refine ⟨w.setRow g (byt (splice L off m)).toArray, fun ty => ?_, setRow_heap w g _ _ imgT (0, 0) hr, touch_setRow w g _⟩
  have := Lib.run_copy_row_string (P := Tryd.prog) w 89 9 ty 5 g off dLen dCap (S m) (byt L).toArray imgT Tryd.underlying89 byte_size hr (by rw [S_size]; exact hm) (by rw [S_size]; simpa [byt_length] using hfit)
  rw [this, ← splice_byt, S_size]
  simp [splice, byt, S, Lib.byteCells]
theorem img_bts {w : World} {g : Nat} {L : List UInt8} (h : BoxV w g imgT (byt L).toArray) (off n c : Nat) (hn : off + n ≤ L.length) (hc : n ≤ c) (hm : c ≤ 1000000) : Bts w (.slice (some ⟨g, off, none⟩) n c) ((L.drop off).take n) := by
  have hl : ((L.drop off).take n).length = n := by rw [List.length_take, List.length_drop]; omega
  refine ⟨_, c, by rw [hl], by rw [hl]; exact hc, by unfold maxLen; omega, fun e => by simp at e, fun ad ha j u hu => ?_⟩
  obtain rfl : ⟨g, off, none⟩ = ad := by simpa using ha
  have hj : j < n := by have := (List.getElem?_eq_some_iff.1 hu).1; rwa [byt_length, hl] at this
  rw [show (⟨g, off, none⟩ : Addr).add j = ⟨g, off + j, none⟩ by unfold Addr.add; split <;> simp_all, h.cell, ← hu]
  simp [byt, List.getElem?_take, hj, List.getElem?_drop]
theorem list16 {L : List UInt8} (h : L.length = 16) : ∃ a0 a1 a2 a3 a4 a5 a6 a7 a8 a9 a10 a11 a12 a13 a14 a15, L = [a0, a1, a2, a3, a4, a5, a6, a7, a8, a9, a10, a11, a12, a13, a14, a15] := by
  match L, h with
  | [a0, a1, a2, a3, a4, a5, a6, a7, a8, a9, a10, a11, a12, a13, a14, a15], _ => exact ⟨a0, a1, a2, a3, a4, a5, a6, a7, a8, a9, a10, a11, a12, a13, a14, a15, rfl⟩

theorem load_box {w : World} {b : Nat} {t : TypeId} {C : Array Value} {n : Nat} (h : BoxV w b t C) (hC : C.size = n) : (loadCellsFrom ⟨b, 0, none⟩ 0 n #[]).run Tryd.prog w = .ok C w := by
  have := run_loadCells_list (P := Tryd.prog) w ⟨b, 0, none⟩ C.toList (fun j v hv => by
    rw [show (⟨b, 0, none⟩ : Addr).add j = ⟨b, j, none⟩ by unfold Addr.add; split <;> simp_all, h.cell]
    simpa using hv)
  unfold loadCells at this
  rw [show C.toList.length = n by simpa using hC] at this
  simpa using this
end Go.Proofs.YtdpaiegojioimaaDoor

/-
  inet (layer 10): spread.
-/
namespace Go.Proofs.YtdpaiegojioimaaDoor
open Go.ChangeShapes Go.WideShapes Go.ChangeAt Go.RowKit Go.Deep
set_option linter.unusedVariables false
set_option linter.unusedSimpArgs false

section
variable {w : World} {b : Nat} {T : TypeId}
def place (cs : Array Value) : Nat → List Value → Array Value
  | _, [] => cs
  | o, v :: r => place (cs.setIfInBounds o v) (o + 1) r
theorem BoxV.cellsPut : ∀ (vs : List Value) (o : Nat) (w : World) (cs : Array Value), BoxV w b T cs → BoxV (w.setCells b o vs) b T (place cs o vs)
  | [], _, _, _, h => h
  | v :: r, o, w, cs, h => BoxV.cellsPut r (o + 1) (w.setCell ⟨b, o, none⟩ v) _ (h.set o v)
theorem touch_setCells : ∀ (vs : List Value) (o : Nat) (w : World), Touch [b] w (w.setCells b o vs)
  | [], _, w => Touch.refl _ _
  | v :: r, o, w => ((Touch.refl [b] w).setCell (a := ⟨b, o, none⟩) (.inl (List.mem_singleton.2 rfl)) v).trans (touch_setCells r (o + 1) _) (fun q hq => .inl hq)
theorem place_get (i : Nat) : ∀ (vs : List Value) (o : Nat) (cs : Array Value), o + vs.length ≤ cs.size → (place cs o vs)[i]? = if o ≤ i ∧ i < o + vs.length then vs[i - o]? else cs[i]?
  | [], o, cs, _ => by
    rw [if_neg (by simp only [List.length_nil]; omega)]
    rfl
  | v :: r, o, cs, h => by
    simp only [List.length_cons] at h ⊢
    show (place (cs.setIfInBounds o v) (o + 1) r)[i]? = _
    rw [place_get i r (o + 1) _ (by simp; omega)]
    by_cases h1 : o = i
    · subst h1
      rw [if_neg (by omega), if_pos (by omega), Nat.sub_self, List.getElem?_cons_zero, Array.getElem?_setIfInBounds_self_of_lt (by omega)]
    · by_cases h2 : o + 1 ≤ i ∧ i < o + 1 + r.length
      · rw [if_pos h2, if_pos (by omega), show i - o = (i - (o + 1)) + 1 by omega, List.getElem?_cons_succ]
      · rw [if_neg h2, if_neg (by omega), Array.getElem?_setIfInBounds_ne h1]
theorem place_all (cs cs' : Array Value) (h : cs'.size = cs.size) : place cs 0 cs'.toList = cs' := by
  apply Array.ext_getElem?
  intro i
  rw [place_get i cs'.toList 0 cs (by simp; omega)]
  by_cases hi : i < cs'.size
  · rw [if_pos (by simp; omega)]
    simp
  · rw [if_neg (by simp; omega), Array.getElem?_eq_none (by omega), Array.getElem?_eq_none (by omega)]
theorem BoxV.whole {cs : Array Value} (h : BoxV w b T cs) (cs' : Array Value) (hs : cs'.size = cs.size) : BoxV (w.setCells b 0 cs'.toList) b T cs' := by
  have := BoxV.cellsPut cs'.toList 0 w cs h
  rwa [place_all cs cs' hs] at this
theorem BoxV.there {cs : Array Value} (h : BoxV w b T cs) : w.there b 0 cs.size := by
  intro j hj
  rw [Nat.zero_add]
  exact ⟨by rw [h.cell]; simp [hj], h.fr j⟩
end

set_option maxRecDepth 100000 in
set_option maxHeartbeats 1000000 in
theorem spread10 (hi lo : Nat) (hhi : hi < 18446744073709551616) (hlo : lo < 18446744073709551616) (w : World) :
    Calls Tryd.prog 90 #[av hi lo] w fun e w' => e = .returned (.agg (byt (be hi 8 ++ be lo 8)).toArray) ∧ Touch [] w w' := by
  have P1 := Lib.hid (fun w => putU64_any (Bts.nil w) hi hhi (by simp))
  have HC := Lib.hid (show (byt (be hi 8 ++ be lo 8)).toArray.all (·.oneCell') = true from all_oneCell_toArray (byt_one _))
  unfold av
  go_enter Tryd.func90, Tryd.ntmps90
  go_upto_region 1 with fail
  have X0 := BoxV.of2 (w := w) (cs := #[.int .u64 (hi : Int), .int .u64 (lo : Int)]) (T := 25) (o := .cells (byt (List.replicate 16 (0 : UInt8))).toArray imgT)
  have X1 := BoxV.at1 (w := w) (o := .cells #[.int .u64 (hi : Int), .int .u64 (lo : Int)] 25) (cs := (byt (List.replicate 16 (0 : UInt8))).toArray) (T := imgT)
  have T := Lib.hid (((Touch.refl [] w).alloc (.cells #[.int .u64 (hi : Int), .int .u64 (lo : Int)] 25)).alloc (.cells (byt (List.replicate 16 (0 : UInt8))).toArray imgT))
  have h0 : (byt (List.replicate 16 (0 : UInt8))).toArray = #[.int .u8 0, .int .u8 0, .int .u8 0, .int .u8 0, .int .u8 0, .int .u8 0, .int .u8 0, .int .u8 0, .int .u8 0, .int .u8 0, .int .u8 0, .int .u8 0, .int .u8 0, .int .u8 0, .int .u8 0, .int .u8 0] := rfl
  rw [← h0]
  clear h0
  generalize (w.alloc (.cells #[.int .u64 (hi : Int), .int .u64 (lo : Int)] 25)).alloc (.cells (byt (List.replicate 16 (0 : UInt8))).toArray imgT) = w1 at *
  have c0 := X0.cell 0
  have c1 := X0.cell 1
  have lt0 := X0.lt
  have lt1 := X1.lt
  have H0 := Lib.hid (show BoxV w1.drew w.heap.size 25 #[.int .u64 (hi : Int), .int .u64 (lo : Int)] from X0)
  have H1 := Lib.hid (show BoxV w1.drew (w.heap.size + 1) imgT (byt (List.replicate 16 (0 : UInt8))).toArray from X1)
  have HL := Lib.hid hlo
  clear X0 X1
  go_region_with (go_at_call 106; first
    | (refine (putU64_any B1.out lo HL.out (by simp [be_length])).mono ?_; intro e w3 hf; obtain ⟨A3, n3, d3, rfl, b3, t3⟩ := fresh_bts hf; obtain ⟨w4, hcp, R4, T4⟩ := copy_img ((H1.out.carry T1.out (by simp)).carry t3 (by simp)) b3 0 16 16 (by simp); have HR4 := Lib.hid R4; have T5 := Lib.hid (((T.out.drew.trans T1.out (by simp)).trans t3 (by simp)).trans (S := []) T4 (by simp)); clear R4 T4 t3 b3 hf)
    | (refine (P1.out _).mono ?_; intro e w2 hf; obtain ⟨A2, n2, d2, rfl, b2, t2⟩ := fresh_bts hf; have z0 := (H0.out.carry t2 (by simp)).cell 1; have zl := (H0.out.carry t2 (by simp)).lt; have B1 := Lib.hid b2; have T1 := Lib.hid t2; clear t2 b2 hf))
  all_goals
    have e : splice (List.replicate 16 (0 : UInt8)) 0 (([] ++ be hi 8 ++ be lo 8).take 16) = be hi 8 ++ be lo 8 := by
      have hl : (be hi 8 ++ be lo 8).length = 16 := by simp [be_length]
      rw [List.nil_append, List.take_of_length_le (by omega)]
      simp [splice, be_length]
    have R5 := HR4.out
    rw [e] at R5
    have hz : (byt (be hi 8 ++ be lo 8)).toArray.size = 16 := by simp [byt_length, be_length]
    generalize hCe : (byt (be hi 8 ++ be lo 8)).toArray = C at *
    have HR := Lib.hid R5.range
    have HT := Lib.hid R5.there
    have HZ := Lib.hid (show (Tryd.prog.info? 124).map (·.size) = some C.toList.length by rw [Array.length_toList, hz]; kernel_rfl)
    have HZ' := Lib.hid (show (Tryd.prog.info? 124).map (·.size) = some C.size by rw [hz]; kernel_rfl)
    have B := Lib.hid (R5.whole C rfl)
    have TT := Lib.hid (T5.out.trans (touch_setCells (b := w.heap.size + 1) C.toList 0 w4) (by simp))
    have HCe := Lib.hid hCe
    clear e R5 HR4 hcp hz hCe
    go_wp2_with (first
      | (refine wpList_load_mid rfl 124 (.tmp 2) rfl (w.heap.size + 1) 0 rfl C.toList _ HR.out Tryd.underlying124 rfl HZ.out ?_)
      | (refine wpList_store_mid rfl 124 (.tmp 2) (.tmp 11) rfl (w.heap.size + 1) 0 C rfl rfl HT.out HZ'.out HC.out ?_))
    refine bodyPost_ret (ret_box rfl rfl B.out Tryd.underlying124 rfl HZ'.out) rfl ⟨by rw [HCe.out], TT.out⟩
end Go.Proofs.YtdpaiegojioimaaDoor

/-
  inet (layer 10): Bytes, gather.
-/
namespace Go.Proofs.YtdpaiegojioimaaDoor
open Go.ChangeShapes Go.WideShapes Go.ChangeAt Go.RowKit Go.Deep
set_option linter.unusedVariables false
set_option linter.unusedSimpArgs false

def bytesA (v : Int) (hi lo : Nat) : List UInt8 := if rightA v hi lo then (if v = 4 then be lo 4 else be hi 8 ++ be lo 8) else []
theorem img_there (w : World) (C : Array Value) (h : C.size = 16) : (w.alloc (.cells #[.int .u8 0, .int .u8 0, .int .u8 0, .int .u8 0, .int .u8 0, .int .u8 0, .int .u8 0, .int .u8 0, .int .u8 0, .int .u8 0, .int .u8 0, .int .u8 0, .int .u8 0, .int .u8 0, .int .u8 0, .int .u8 0] 124)).there w.heap.size 0 C.size := by
  have := (BoxV.new w 124 #[.int .u8 0, .int .u8 0, .int .u8 0, .int .u8 0, .int .u8 0, .int .u8 0, .int .u8 0, .int .u8 0, .int .u8 0, .int .u8 0, .int .u8 0, .int .u8 0, .int .u8 0, .int .u8 0, .int .u8 0, .int .u8 0]).there
  rw [h]
  exact this
theorem img_size (C : Array Value) (h : C.size = 16) : (Tryd.prog.info? 124).map (·.size) = some C.size := by rw [h]; kernel_rfl

set_option maxRecDepth 100000 in
set_option maxHeartbeats 1000000 in
theorem bytes10 (v : Int) (hi lo : Nat) (hhi : hi < 18446744073709551616) (hlo : lo < 18446744073709551616) (w : World) :
    Calls Tryd.prog 68 #[.int .i64 v, av hi lo] w fun e w' => e = .returned (.string (S (bytesA v hi lo))) ∧ Touch [] w w' := by
  have R := Lib.hid (fun w => right10 v hi lo w)
  have SP := Lib.hid (fun w => spread10 hi lo hhi hlo w)
  have X0 := Lib.hid (BoxV.new w 25 #[.int .u64 (hi : Int), .int .u64 (lo : Int)])
  have T0 := Lib.hid ((Touch.refl [] w).alloc (.cells #[.int .u64 (hi : Int), .int .u64 (lo : Int)] 25))
  unfold bytesA
  cases hr : rightA v hi lo with
  | false =>
    rw [if_neg (by simp)]
    rw [hr] at R
    unfold av at *
    go_enter Tryd.func68, Tryd.ntmps68
    go_wp2_with fail
    refine (R.out _).mono ?_
    rintro e w2 ⟨rfl, t⟩
    have T := Lib.hid (T0.out.trans t (by simp))
    clear t
    go_wp2_with fail
    go_ret
    exact ⟨rfl, T.out⟩
  | true =>
    rw [if_pos rfl]
    rw [hr] at R
    have hl16 : (be hi 8 ++ be lo 8).length = 16 := by simp [be_length]
    have hC : (byt (be hi 8 ++ be lo 8)).toArray.size = 16 := by simp [byt_length, be_length]
    have HC := Lib.hid (show (byt (be hi 8 ++ be lo 8)).toArray.all (·.oneCell') = true from all_oneCell_toArray (byt_one _))
    have HTh := Lib.hid (fun w => img_there w _ hC)
    have HZ := Lib.hid (img_size _ hC)
    have HCs := Lib.hid hC
    have hv : v = 4 ∨ v = 6 := by
      unfold rightA at hr
      split at hr
      · left; assumption
      · right; simpa using hr
    have h4 : v = 4 → ((be hi 8 ++ be lo 8).drop 12).take 4 = be lo 4 := by
      intro _
      rw [List.drop_append, be_length, List.drop_of_length_le (by rw [be_length]; omega), List.nil_append, show (be lo 8).drop (12 - 8) = be lo 4 from rfl, List.take_of_length_le (by rw [be_length]; omega)]
    unfold av at *
    generalize be hi 8 ++ be lo 8 = L at *
    rcases hv with rfl | rfl
    · rw [if_pos rfl]
      have H4 := Lib.hid (h4 rfl)
      have HL := Lib.hid hl16
      have HO := Lib.hid (fun (w : World) (b : Nat) (h : BoxV w b imgT (byt L).toArray) => own4 h)
      clear h4 hr hC hl16
      go_enter Tryd.func68, Tryd.ntmps68
      go_wp2_with fail
      refine (R.out _).mono ?_
      rintro e w2 ⟨rfl, t⟩
      have T := Lib.hid (T0.out.trans t (by simp))
      have X := X0.out.carry t (by simp)
      have c0 := X.cell 0
      have c1 := X.cell 1
      have lt0 := X.lt
      clear t X
      go_wp2_with fail
      refine (SP.out _).mono ?_
      rintro e w3 ⟨rfl, t3⟩
      clear c0 c1 lt0
      have T3 := Lib.hid (T.out.trans t3 (by simp))
      clear t3
      go_wp2_with (refine wpList_store_mid rfl 124 (.tmp 5) (.tmp 11) rfl w3.heap.size 0 (byt L).toArray rfl rfl (HTh.out w3) HZ.out HC.out ?_)
      have B := (BoxV.new w3 124 #[.int .u8 0, .int .u8 0, .int .u8 0, .int .u8 0, .int .u8 0, .int .u8 0, .int .u8 0, .int .u8 0, .int .u8 0, .int .u8 0, .int .u8 0, .int .u8 0, .int .u8 0, .int .u8 0, .int .u8 0, .int .u8 0]).whole (byt L).toArray (by rw [HCs.out]; rfl)
      refine (HO.out _ _ B).mono ?_
      rintro e w5 ⟨rfl, t5⟩
      have hcv := str_of (img_bts (B.carry t5 (by simp)) 12 4 4 (by rw [HL.out]; omega) (by omega) (by omega))
      rw [H4.out] at hcv
      have TT := Lib.hid (((T3.out.alloc _).trans (touch_setCells (b := w3.heap.size) (byt L).toArray.toList 0 (w3.alloc (.cells #[.int .u8 0, .int .u8 0, .int .u8 0, .int .u8 0, .int .u8 0, .int .u8 0, .int .u8 0, .int .u8 0, .int .u8 0, .int .u8 0, .int .u8 0, .int .u8 0, .int .u8 0, .int .u8 0, .int .u8 0, .int .u8 0] 124))) (by intro q hq; right; have := T3.out.size; simp at hq; omega)).trans t5 (by simp))
      clear B t5
      go_wp2_with fail
      go_ret
      exact ⟨rfl, TT.out⟩
    · rw [if_neg (by decide)]
      have HL := Lib.hid hl16
      have H6 := Lib.hid (show (L.drop 0).take 16 = L by rw [List.drop_zero, List.take_of_length_le (by omega)])
      have HO := Lib.hid (fun (w : World) (b : Nat) (h : BoxV w b imgT (byt L).toArray) => own6 h)
      clear h4 hr hC hl16
      go_enter Tryd.func68, Tryd.ntmps68
      go_wp2_with fail
      refine (R.out _).mono ?_
      rintro e w2 ⟨rfl, t⟩
      have T := Lib.hid (T0.out.trans t (by simp))
      have X := X0.out.carry t (by simp)
      have c0 := X.cell 0
      have c1 := X.cell 1
      have lt0 := X.lt
      clear t X
      go_wp2_with fail
      refine (SP.out _).mono ?_
      rintro e w3 ⟨rfl, t3⟩
      clear c0 c1 lt0
      have T3 := Lib.hid (T.out.trans t3 (by simp))
      clear t3
      go_wp2_with (refine wpList_store_mid rfl 124 (.tmp 5) (.tmp 11) rfl w3.heap.size 0 (byt L).toArray rfl rfl (HTh.out w3) HZ.out HC.out ?_)
      have B := (BoxV.new w3 124 #[.int .u8 0, .int .u8 0, .int .u8 0, .int .u8 0, .int .u8 0, .int .u8 0, .int .u8 0, .int .u8 0, .int .u8 0, .int .u8 0, .int .u8 0, .int .u8 0, .int .u8 0, .int .u8 0, .int .u8 0, .int .u8 0]).whole (byt L).toArray (by rw [HCs.out]; rfl)
      refine (HO.out _ _ B).mono ?_
      rintro e w5 ⟨rfl, t5⟩
      have hcv := str_of (img_bts (B.carry t5 (by simp)) 0 16 16 (by rw [HL.out]; omega) (by omega) (by omega))
      rw [H6.out] at hcv
      have TT := Lib.hid (((T3.out.alloc _).trans (touch_setCells (b := w3.heap.size) (byt L).toArray.toList 0 (w3.alloc (.cells #[.int .u8 0, .int .u8 0, .int .u8 0, .int .u8 0, .int .u8 0, .int .u8 0, .int .u8 0, .int .u8 0, .int .u8 0, .int .u8 0, .int .u8 0, .int .u8 0, .int .u8 0, .int .u8 0, .int .u8 0, .int .u8 0] 124))) (by intro q hq; right; have := T3.out.size; simp at hq; omega)).trans t5 (by simp))
      clear B t5
      go_wp2_with fail
      go_ret
      exact ⟨rfl, TT.out⟩
end Go.Proofs.YtdpaiegojioimaaDoor

/-
  inet (layer 10): gather.
-/
namespace Go.Proofs.YtdpaiegojioimaaDoor
open Go.ChangeShapes Go.WideShapes Go.ChangeAt Go.RowKit Go.Deep
set_option linter.unusedVariables false
set_option linter.unusedSimpArgs false

set_option maxHeartbeats 1000000 in
theorem gather1 {w : World} {p q : Nat} {l : List UInt8} {x y : Value} (h : At w p l) (hq : BoxV w q 25 #[x, y]) (hne : p ≠ q) (hl : l.length = 16) :
    Calls Tryd.prog 110 #[.pointer (some ⟨p, 0, none⟩), .pointer (some ⟨q, 0, none⟩)] w fun e w' =>
      e = .returned (.tuple #[]) ∧ BoxV w' q 25 #[.int .u64 (num (l.take 8) : Nat), .int .u64 (num (l.drop 8) : Nat)] ∧ Touch [p, q] w w' := by
  have U := Lib.hid (u64_any h (by omega))
  have HL := Lib.hid hl
  have e8 : (l.drop 8).take 8 = l.drop 8 := List.take_of_length_le (by rw [List.length_drop]; omega)
  have HE := Lib.hid e8
  have HQ := Lib.hid hq
  have HN := Lib.hid hne
  clear h hq e8 hl hne
  go_enter Tryd.func110, Tryd.ntmps110
  go_wp2_with fail
  refine (U.out).mono ?_
  intro e w1 hu
  obtain ⟨rfl, a1, t1⟩ := hu.1 (by have := HL.out; omega)
  have q1 := HQ.out.carry t1 (by have := HN.out; simp; omega)
  have c0 := q1.cell 0
  have f0 := q1.fr
  have lt1 := q1.lt
  have q2 : BoxV (w1.setCell ⟨q, 0, none⟩ (.int .u64 (num (l.take 8) : Nat))) q 25 #[.int .u64 (num (l.take 8) : Nat), y] := q1.set 0 _
  have a2 : At (w1.setCell ⟨q, 0, none⟩ (.int .u64 (num (l.take 8) : Nat))) p (l.drop 8) := a1.carry ((Touch.refl [q] _).setCell (a := ⟨q, 0, none⟩) (by simp) _) (by have := HN.out; simp; omega)
  have V := Lib.hid (u64_any a2 (by rw [List.length_drop]; have := HL.out; omega))
  have Q2 := Lib.hid q2
  have T2 := Lib.hid ((t1.mono (S' := [p, q]) (by simp)).setCell (a := ⟨q, 0, none⟩) (by simp) (.int .u64 (num (l.take 8) : Nat)))
  clear hu a1 t1 q1 q2 a2
  go_wp2_with fail
  refine (V.out).mono ?_
  intro e w2 hv
  obtain ⟨rfl, a3, t3⟩ := hv.1 (by rw [List.length_drop]; have := HL.out; omega)
  rw [HE.out]
  have q3 := Q2.out.carry t3 (by have := HN.out; simp; omega)
  clear c0 f0 lt1
  have c1 := q3.cell 1
  have f1 := q3.fr
  have lt2 := q3.lt
  have Q3 : BoxV (w2.setCell ⟨q, 1, none⟩ (.int .u64 (num (l.drop 8) : Nat))) q 25 #[.int .u64 (num (l.take 8) : Nat), .int .u64 (num (l.drop 8) : Nat)] := q3.set 1 _
  have Q3 := Lib.hid Q3
  have T3 := Lib.hid ((T2.out.trans t3 (by simp)).setCell (a := ⟨q, 1, none⟩) (by simp) (.int .u64 (num (l.drop 8) : Nat)))
  clear hv a3 t3 q3
  go_wp2_with fail
  first | go_end0 | refine bodyPost_ret (results_none rfl _ _ _) rfl ?_
  exact ⟨rfl, Q3.out, T3.out⟩

theorem ent70 (args : Array Value) (w : World) : (callFunc 110 args).run Tryd.prog w = .ok (.enter 110 args) w := by
  simp [callFunc, Tryd.func110]
  rfl
def gatW (w : World) (C : Array Value) : World := (w.alloc (.cells C 124)).alloc (.cells #[.int .u64 0, .int .u64 0] 25)
set_option maxRecDepth 100000 in
set_option maxHeartbeats 1000000 in
theorem gather10 (L : List UInt8) (hL : L.length = 16) (w : World) :
    Calls Tryd.prog 103 #[.agg (byt L).toArray] w fun e w' => e = .returned (av (num (L.take 8)) (num (L.drop 8))) ∧ Touch [] w w' := by
  have hmf : ∀ (fn : Fn) (first cap : Array Value) (w : World), (Instr.makeFunc fn first cap).run Tryd.prog w = .ok (.func fn first cap) w := fun _ _ _ _ => rfl
  have hsz : (gatW w (byt L).toArray).heap.size = w.heap.size + 2 := by unfold gatW; simp
  have B0 : BoxV (gatW w (byt L).toArray) w.heap.size imgT (byt L).toArray := BoxV.of2
  have B1 : BoxV (gatW w (byt L).toArray) (w.heap.size + 1) 25 #[.int .u64 0, .int .u64 0] := BoxV.at1
  have hcv := str_of (img_bts B0 0 16 16 (by omega) (by omega) (by omega))
  rw [List.drop_zero, List.take_of_length_le (by omega)] at hcv
  have TW : Touch [] w (gatW w (byt L).toArray) := ((Touch.refl [] w).alloc _).alloc _
  have tt : Touch [] (gatW w (byt L).toArray) (tryW (gatW w (byt L).toArray) (S L)) := (((Touch.refl [] _).alloc _).alloc _).alloc _
  have hat : At (tryW (gatW w (byt L).toArray) (S L)) (w.heap.size + 3) L := by
    have := (Box1.new ((gatW w (byt L).toArray).alloc (.cells #[.int .i64 0] 28)) 116 (.string (S L))).carry ((Touch.refl [] _).alloc (.cells #[.pointer (some ⟨(gatW w (byt L).toArray).heap.size + 1, 0, none⟩)] 82)) (by simp)
    rwa [show ((gatW w (byt L).toArray).alloc (.cells #[.int .i64 0] 28)).heap.size = w.heap.size + 3 by simp [hsz]] at this
  have key := try_any (s := S L) (k := 110) (cap := #[.pointer (some ⟨w.heap.size + 1, 0, none⟩)]) (w := gatW w (byt L).toArray) (S := [w.heap.size + 3, w.heap.size + 1])
    (Q := fun er w' => BoxV w' (w.heap.size + 1) 25 #[.int .u64 (num (L.take 8) : Nat), .int .u64 (num (L.drop 8) : Nat)])
    (by rw [hsz]; intro b hb; simp at hb; omega) ent70 (by
      rw [hsz]
      refine (gather1 hat (B1.carry tt (by simp)) (by omega) hL).mono ?_
      rintro e w' ⟨rfl, q1, q2⟩
      exact ⟨q2, Or.inl ⟨rfl, q1⟩⟩)
  rw [hsz] at key
  have K := Lib.hid key
  have T0 := Lib.hid TW
  have HCs := Lib.hid (show (byt L).toArray.size = 16 by simp [byt_length, hL])
  clear key TW tt hat B0 B1 hsz
  unfold gatW at *
  generalize (byt L).toArray = C at *
  go_enter Tryd.func103, Tryd.ntmps103
  go_wp2_with fail
  refine (K.out).mono ?_
  rintro e w2 ⟨er, w3, rfl, q3, t3, t4⟩
  have q4 := q3.carry t4 (by simp)
  have c0 := q4.cell 0
  have c1 := q4.cell 1
  have fz := q4.fr
  have lt2 := q4.lt
  have Q4 := Lib.hid q4
  have TT := Lib.hid ((T0.out.trans t3 (by intro b hb; simp at hb; omega)).trans t4 (by intro b hb; simp at hb; omega))
  clear q3 q4 t3 t4 K
  go_wp2_with fail
  unfold av
  have Z : BoxV _ _ 25 #[.int .u64 (num (L.take 8) : Nat), .int .u64 (num (L.drop 8) : Nat)] := (Q4.out.set 0 (.int .u64 (num (L.take 8) : Nat))).set 1 (.int .u64 (num (L.drop 8) : Nat))
  refine bodyPost_ret (ret_box rfl rfl Z Tryd.underlying25 rfl (by kernel_rfl)) rfl ⟨rfl, ?_⟩
  exact (TT.out.setCell (by simp) _).setCell (by simp) _
end Go.Proofs.YtdpaiegojioimaaDoor

/-
  inet (layer 10): Of.
-/
namespace Go.Proofs.YtdpaiegojioimaaDoor
open Go.ChangeShapes Go.WideShapes Go.ChangeAt Go.RowKit Go.Deep
set_option linter.unusedVariables false
set_option linter.unusedSimpArgs false

def hiA (l : List UInt8) : Nat := if l.length = 16 then num (l.take 8) else 0
def loA (l : List UInt8) : Nat := if l.length = 4 then num l else if l.length = 16 then num (l.drop 8) else 0
def verA (l : List UInt8) : Int := if l.length = 4 then 4 else if l.length = 16 then 6 else 0
def okA (l : List UInt8) : Bool := decide (l.length = 4 ∨ l.length = 16)
theorem num_zeros (n : Nat) (l : List UInt8) : num (List.replicate n 0 ++ l) = num l := by
  unfold num
  rw [List.foldl_append]
  congr 1
  induction n with
  | zero => rfl
  | succ n ih => rw [List.replicate_succ, List.foldl_cons]; simpa using ih

set_option maxRecDepth 100000 in
set_option maxHeartbeats 2000000 in
theorem of10 (l : List UInt8) (hl : l.length ≤ 1000000000) (w : World) :
    Calls Tryd.prog 87 #[.string (S l)] w fun e w' => e = .returned (.tuple #[av (hiA l) (loA l), .int .i64 (verA l), .bool (okA l)]) ∧ Touch [] w w' := by
  have hss : (S l).size = l.length := S_size l
  have h0 : (byt (List.replicate 16 (0 : UInt8))).toArray = #[.int .u8 0, .int .u8 0, .int .u8 0, .int .u8 0, .int .u8 0, .int .u8 0, .int .u8 0, .int .u8 0, .int .u8 0, .int .u8 0, .int .u8 0, .int .u8 0, .int .u8 0, .int .u8 0, .int .u8 0, .int .u8 0] := rfl
  have BI := Lib.hid (show BoxV ((w.alloc (.cells #[.int .u64 0, .int .u64 0] 25)).alloc (.cells #[.int .u8 0, .int .u8 0, .int .u8 0, .int .u8 0, .int .u8 0, .int .u8 0, .int .u8 0, .int .u8 0, .int .u8 0, .int .u8 0, .int .u8 0, .int .u8 0, .int .u8 0, .int .u8 0, .int .u8 0, .int .u8 0] 124)) (w.heap.size + 1) imgT (byt (List.replicate 16 (0 : UInt8))).toArray from BoxV.at1)
  have BR := Lib.hid (show BoxV ((w.alloc (.cells #[.int .u64 0, .int .u64 0] 25)).alloc (.cells #[.int .u8 0, .int .u8 0, .int .u8 0, .int .u8 0, .int .u8 0, .int .u8 0, .int .u8 0, .int .u8 0, .int .u8 0, .int .u8 0, .int .u8 0, .int .u8 0, .int .u8 0, .int .u8 0, .int .u8 0, .int .u8 0] 124)) w.heap.size 25 #[.int .u64 0, .int .u64 0] from BoxV.of2)
  have T0 := Lib.hid (((Touch.refl [] w).alloc (.cells #[.int .u64 0, .int .u64 0] 25)).alloc (.cells #[.int .u8 0, .int .u8 0, .int .u8 0, .int .u8 0, .int .u8 0, .int .u8 0, .int .u8 0, .int .u8 0, .int .u8 0, .int .u8 0, .int .u8 0, .int .u8 0, .int .u8 0, .int .u8 0, .int .u8 0, .int .u8 0] 124))
  clear h0
  by_cases h4 : l.length = 4
  · obtain ⟨M, hM⟩ : ∃ M, splice (List.replicate 16 (0 : UInt8)) 12 l = M := ⟨_, rfl⟩
    have HSp := Lib.hid hM
    have hMe : M = List.replicate 12 0 ++ l := by
      rw [← hM]
      simp [splice, h4]
    have hML : M.length = 16 := by rw [hMe]; simp [h4]
    have G := Lib.hid (fun w => gather10 M hML w)
    have HZ := Lib.hid (show (Tryd.prog.info? 124).map (·.size) = some (byt M).toArray.toList.length by have := img_size (byt M).toArray (by simp [byt_length, hML]); rwa [← Array.length_toList] at this)
    have e1 : hiA l = num (M.take 8) := by
      unfold hiA
      rw [if_neg (by omega), hMe]
      have : (List.replicate 12 (0 : UInt8) ++ l).take 8 = List.replicate 8 0 ++ [] := by simp [List.take_append]
      rw [this, num_zeros]
      rfl
    have e2 : loA l = num (M.drop 8) := by
      unfold loA
      rw [if_pos h4, hMe]
      have : (List.replicate 12 (0 : UInt8) ++ l).drop 8 = List.replicate 4 0 ++ l := by simp [List.drop_append]
      rw [this, num_zeros]
    have e3 : verA l = 4 := by unfold verA; rw [if_pos h4]
    have e4 : okA l = true := by unfold okA; simp [h4]
    rw [e1, e2, e3, e4]
    rw [h4] at hss
    have hl12 : l.length ≤ 4 := by omega
    clear e1 e2 e3 e4 hM hMe hML
    unfold av
    go_enter Tryd.func87, Tryd.ntmps87
    go_wp2_with fail
    refine (own4 (BI.out)).mono ?_
    rintro e w2 ⟨rfl, t2⟩
    obtain ⟨w3, hcp, R3, T3⟩ := copy_img_str (BI.out.carry t2 (by simp)) l 12 4 4 (by omega) (by simp; omega)
    rw [HSp.out] at R3
    have X3 := (BR.out.carry t2 (by simp)).carry T3 (by simp)
    have TW := Lib.hid (((T0.out).trans t2 (by simp)).trans T3 (by simp))
    have HR := Lib.hid R3.range
    have HX := Lib.hid X3
    clear t2 R3 T3 X3
    go_wp2_with (refine wpList_load_mid rfl 124 (.tmp 6) rfl (w.heap.size + 1) 0 rfl (byt M).toArray.toList _ HR.out Tryd.underlying124 rfl HZ.out ?_)
    refine (G.out _).mono ?_
    rintro e w4 ⟨rfl, t4⟩
    have x4 := HX.out.carry t4 (by simp)
    have c0 := x4.cell 0
    have c1 := x4.cell 1
    have fz := x4.fr
    have lt4 := x4.lt
    have X4 := Lib.hid x4
    have TT := Lib.hid (TW.out.trans t4 (by simp))
    clear x4 t4 hcp
    unfold av
    go_wp2_with fail
    have D := (X4.out.set 0 (.int .u64 (num (M.take 8) : Nat))).set 1 (.int .u64 (num (M.drop 8) : Nat))
    have d0 := D.cell 0
    have d1 := D.cell 1
    refine bodyPost_ret (v := .tuple #[.agg #[.int .u64 (num (M.take 8) : Nat), .int .u64 (num (M.drop 8) : Nat)], .int .i64 4, .bool true]) (by simp [results, Tryd.results87, go_sem, d0, d1]) rfl ⟨rfl, ?_⟩
    exact (TT.out.setCell (by simp) _).setCell (by simp) _
  · by_cases h16 : l.length = 16
    · obtain ⟨M, hM⟩ : ∃ M, splice (List.replicate 16 (0 : UInt8)) 0 l = M := ⟨_, rfl⟩
      have HSp := Lib.hid hM
      have hMe : M = l := by
        rw [← hM]
        simp [splice, h16]
      have hML : M.length = 16 := by rw [hMe]; exact h16
      have G := Lib.hid (fun w => gather10 M hML w)
      have HZ := Lib.hid (show (Tryd.prog.info? 124).map (·.size) = some (byt M).toArray.toList.length by have := img_size (byt M).toArray (by simp [byt_length, hML]); rwa [← Array.length_toList] at this)
      have e1 : hiA l = num (M.take 8) := by unfold hiA; rw [if_pos h16, hMe]
      have e2 : loA l = num (M.drop 8) := by unfold loA; rw [if_neg h4, if_pos h16, hMe]
      have e3 : verA l = 6 := by unfold verA; rw [if_neg h4, if_pos h16]
      have e4 : okA l = true := by unfold okA; simp [h16]
      rw [e1, e2, e3, e4]
      rw [h16] at hss
      clear e1 e2 e3 e4 hM hMe hML h4
      unfold av
      go_enter Tryd.func87, Tryd.ntmps87
      go_wp2_with fail
      refine (own6 (BI.out)).mono ?_
      rintro e w2 ⟨rfl, t2⟩
      obtain ⟨w3, hcp, R3, T3⟩ := copy_img_str (BI.out.carry t2 (by simp)) l 0 16 16 (by omega) (by simp; omega)
      rw [HSp.out] at R3
      have X3 := (BR.out.carry t2 (by simp)).carry T3 (by simp)
      have TW := Lib.hid (((T0.out).trans t2 (by simp)).trans T3 (by simp))
      have HR := Lib.hid R3.range
      have HX := Lib.hid X3
      clear t2 R3 T3 X3
      go_wp2_with (refine wpList_load_mid rfl 124 (.tmp 6) rfl (w.heap.size + 1) 0 rfl (byt M).toArray.toList _ HR.out Tryd.underlying124 rfl HZ.out ?_)
      refine (G.out _).mono ?_
      rintro e w4 ⟨rfl, t4⟩
      have x4 := HX.out.carry t4 (by simp)
      have c0 := x4.cell 0
      have c1 := x4.cell 1
      have fz := x4.fr
      have lt4 := x4.lt
      have X4 := Lib.hid x4
      have TT := Lib.hid (TW.out.trans t4 (by simp))
      clear x4 t4 hcp
      unfold av
      go_wp2_with fail
      have D := (X4.out.set 0 (.int .u64 (num (M.take 8) : Nat))).set 1 (.int .u64 (num (M.drop 8) : Nat))
      have d0 := D.cell 0
      have d1 := D.cell 1
      refine bodyPost_ret (v := .tuple #[.agg #[.int .u64 (num (M.take 8) : Nat), .int .u64 (num (M.drop 8) : Nat)], .int .i64 6, .bool true]) (by simp [results, Tryd.results87, go_sem, d0, d1]) rfl ⟨rfl, ?_⟩
      exact (TT.out.setCell (by simp) _).setCell (by simp) _
    · have e1 : hiA l = 0 := by unfold hiA; rw [if_neg h16]
      have e2 : loA l = 0 := by unfold loA; rw [if_neg h4, if_neg h16]
      have e3 : verA l = 0 := by unfold verA; rw [if_neg h4, if_neg h16]
      have e4 : okA l = false := by unfold okA; simp [h4, h16]
      rw [e1, e2, e3, e4]
      have b4 : ((l.length : Int) == 4) = false := by simp; omega
      have b16 : ((l.length : Int) == 16) = false := by simp; omega
      clear e1 e2 e3 e4 BI BR T0 h4 h16
      unfold av
      go_enter Tryd.func87, Tryd.ntmps87
      go_wp2_with fail
      refine bodyPost_ret (v := .tuple #[.agg #[.int .u64 0, .int .u64 0], .int .i64 0, .bool false]) (by simp [results, Tryd.results87, go_sem]) rfl ⟨rfl, ?_⟩
      exact (Touch.refl _ _).alloc _
end Go.Proofs.YtdpaiegojioimaaDoor

/-
  The reference of layer 10 (inet): number, Of, Bytes; inet's Mask at the law's example.
-/
namespace Go.Proofs.YtdpaiegojioimaaDoor
open Go.ChangeShapes Go.WideShapes Go.ChangeAt Go.RowKit Go.Deep
set_option linter.unusedVariables false
set_option linter.unusedSimpArgs false

theorem number10 (l : List UInt8) (h8 : l.length ≤ 8) (w : World) : Calls Tryd.prog 88 #[.string (S l)] w fun e w' => e = .returned (.int .u64 (num l : Nat)) ∧ Touch [] w w' := by
  have N := Lib.hid (fun w => refNum_ok l l.length (Nat.le_refl _) h8 (by omega) w)
  rw [List.take_length, List.drop_length] at N
  have hss : (S l).size = l.length := S_size l
  unfold rv at N
  generalize num l = x at *
  go_enter Tryd.func88, Tryd.ntmps88
  go_wp2_with fail
  refine (N.out _).mono ?_
  rintro e w1 ⟨rfl, t1⟩
  have T1 := Lib.hid t1
  clear t1
  go_wp2_with fail
  go_ret
  exact ⟨rfl, T1.out.alloc _⟩

end Go.Proofs.YtdpaiegojioimaaDoor

/-
  The reference of layer 10 (inet): Of; inet's Mask at the law's example.
-/
namespace Go.Proofs.YtdpaiegojioimaaDoor
open Go.ChangeShapes Go.WideShapes Go.ChangeAt Go.RowKit Go.Deep
set_option linter.unusedVariables false
set_option linter.unusedSimpArgs false

set_option maxRecDepth 100000 in
set_option maxHeartbeats 2000000 in
theorem refOf10 (l : List UInt8) (hl : l.length ≤ 1000000000) (w : World) :
    Calls Tryd.prog 64 #[.string (S l)] w fun e w' => e = .returned (.tuple #[av (hiA l) (loA l), .int .i64 (verA l), .bool (okA l)]) ∧ Touch [] w w' := by
  have hss : (S l).size = l.length := S_size l
  have BR := Lib.hid (BoxV.new w 25 #[.int .u64 0, .int .u64 0])
  have T0 := Lib.hid ((Touch.refl [] w).alloc (.cells #[.int .u64 0, .int .u64 0] 25))
  by_cases h4 : l.length = 4
  · have N := Lib.hid (fun w => number10 l (by omega) w)
    have e1 : hiA l = 0 := by unfold hiA; rw [if_neg (by omega)]
    have e2 : loA l = num l := by unfold loA; rw [if_pos h4]
    have e3 : verA l = 4 := by unfold verA; rw [if_pos h4]
    have e4 : okA l = true := by unfold okA; simp [h4]
    rw [e1, e2, e3, e4]
    rw [h4] at hss
    generalize num l = x at *
    clear e1 e2 e3 e4 h4
    unfold av
    go_enter Tryd.func64, Tryd.ntmps64
    go_wp2_with fail
    refine (N.out _).mono ?_
    rintro e w1 ⟨rfl, t1⟩
    have x1 := BR.out.carry t1 (by simp)
    have c0 := x1.cell 0
    have c1 := x1.cell 1
    have fz := x1.fr
    have lt1 := x1.lt
    have X1 := Lib.hid x1
    have T1 := Lib.hid (T0.out.trans t1 (by simp))
    clear t1 x1
    go_wp2_with fail
    have D := (X1.out.set 0 (.int .u64 0)).set 1 (.int .u64 (x : Int))
    have d0 := D.cell 0
    have d1 := D.cell 1
    refine bodyPost_ret (v := .tuple #[.agg #[.int .u64 0, .int .u64 (x : Int)], .int .i64 4, .bool true]) (by simp [results, Tryd.results64, go_sem, d0, d1]) rfl ⟨rfl, ?_⟩
    exact (T1.out.setCell (by simp) _).setCell (by simp) _
  · by_cases h16 : l.length = 16
    · have N1 := Lib.hid (fun w => number10 (l.take 8) (by rw [List.length_take]; omega) w)
      have N2 := Lib.hid (fun w => number10 (l.drop 8) (by rw [List.length_drop]; omega) w)
      have e1 : hiA l = num (l.take 8) := by unfold hiA; rw [if_pos h16]
      have e2 : loA l = num (l.drop 8) := by unfold loA; rw [if_neg h4, if_pos h16]
      have e3 : verA l = 6 := by unfold verA; rw [if_neg h4, if_pos h16]
      have e4 : okA l = true := by unfold okA; simp [h16]
      rw [e1, e2, e3, e4]
      have s1 : (S l).extract 0 8 = S (l.take 8) := S_take l 8
      have s2 : (S l).extract 8 16 = S (l.drop 8) := by have := S_drop l 8; rwa [h16] at this
      rw [h16] at hss
      generalize num (l.take 8) = x at *
      generalize num (l.drop 8) = y at *
      clear e1 e2 e3 e4 h4 h16
      unfold av
      go_enter Tryd.func64, Tryd.ntmps64
      go_upto_region 4 with fail
      generalize w.alloc (.cells #[.int .u64 0, .int .u64 0] 25) = w1 at *
      refine wp_region_tail (wd := w1) 7 (by kernel_rfl) (by kernel_rfl) ((Touch.refl _ _).drew) ?_
      simp only [List.take_succ_cons, List.take_zero, List.drop_succ_cons, List.drop_zero]
      repeat (first | go_big_quiet_step ((go_at_call 88; first | with_reducible exact Calls.cls_at (N1.out _) | with_reducible exact Calls.cls_at (N2.out _))) | quiet_step ((go_at_call 88; first | with_reducible exact Calls.cls_at (N1.out _) | with_reducible exact Calls.cls_at (N2.out _))))
      refine wpQuiet_nil ?_
      intro z
      have x1 := BR.out.carry z.property (by simp)
      have c0 := x1.cell 0
      have c1 := x1.cell 1
      have fz := x1.fr
      have lt1 := x1.lt
      have X1 := Lib.hid x1
      have T1 := Lib.hid (T0.out.trans z.property (by simp))
      clear x1
      go_wp2_with fail
      have D := (X1.out.set 0 (.int .u64 (x : Int))).set 1 (.int .u64 (y : Int))
      have d0 := D.cell 0
      have d1 := D.cell 1
      refine bodyPost_ret (v := .tuple #[.agg #[.int .u64 (x : Int), .int .u64 (y : Int)], .int .i64 6, .bool true]) (by simp [results, Tryd.results64, go_sem, d0, d1]) rfl ⟨rfl, ?_⟩
      exact (T1.out.setCell (by simp) _).setCell (by simp) _
    · have e1 : hiA l = 0 := by unfold hiA; rw [if_neg h16]
      have e2 : loA l = 0 := by unfold loA; rw [if_neg h4, if_neg h16]
      have e3 : verA l = 0 := by unfold verA; rw [if_neg h4, if_neg h16]
      have e4 : okA l = false := by unfold okA; simp [h4, h16]
      rw [e1, e2, e3, e4]
      have b4 : ((l.length : Int) == 4) = false := by simp; omega
      have b16 : ((l.length : Int) == 16) = false := by simp; omega
      clear e1 e2 e3 e4 BR T0 h4 h16
      unfold av
      go_enter Tryd.func64, Tryd.ntmps64
      go_wp2_with fail
      refine bodyPost_ret (v := .tuple #[.agg #[.int .u64 0, .int .u64 0], .int .i64 0, .bool false]) (by simp [results, Tryd.results64, go_sem]) rfl ⟨rfl, ?_⟩
      exact (Touch.refl _ _).alloc _

end Go.Proofs.YtdpaiegojioimaaDoor

/-
  Layer 11 (ipv4): Sum, and the reference's Two and Sum.
-/
namespace Go.Proofs.YtdpaiegojioimaaDoor
open Go.ChangeShapes Go.WideShapes Go.ChangeAt Go.RowKit Go.Deep
set_option linter.unusedVariables false
set_option linter.unusedSimpArgs false

def byteAt (l : List UInt8) (k : Nat) : Nat := (l[k]?.getD 0).toNat
theorem byteAt_lt (l : List UInt8) (k : Nat) : byteAt l k < 256 := (l[k]?.getD 0).toNat_lt
theorem byteAt_in (l : List UInt8) (k : Nat) (h : k < l.length) : byteAt l k = (l[k]).toNat := by unfold byteAt; simp [h]
theorem byteAt_out (l : List UInt8) (k : Nat) (h : ¬ k < l.length) : byteAt l k = 0 := by unfold byteAt; simp [List.getElem?_eq_none (Nat.le_of_not_lt h)]
/-- The sum of the first k bytes, each at its place in a number of 16 bits. -/
def tot (l : List UInt8) : Nat → Nat
  | 0 => 0
  | k + 1 => tot l k + (if k % 2 = 0 then byteAt l k * 256 else byteAt l k)
theorem tot_le (l : List UInt8) : ∀ k, tot l k ≤ k * 65280
  | 0 => by simp [tot]
  | k + 1 => by
    have := tot_le l k
    have hb := byteAt_lt l k
    simp only [tot]
    split <;> omega
/-- What a sum becomes by folding: the same but for multiples of 65535, and 0 only at 0. -/
def can (t : Nat) : Nat := if t = 0 then 0 else (t - 1) % 65535 + 1
theorem can_le (t : Nat) : can t ≤ 65535 := by unfold can; split <;> omega
theorem can_small {t : Nat} (h : t ≤ 65535) : can t = t := by
  unfold can
  split
  · omega
  · rw [Nat.mod_eq_of_lt (by omega)]; omega
theorem can_fold {t : Nat} (h : 65535 < t) : can (t / 65536 + t % 65536) = can t := by
  unfold can
  have h1 : t = 65536 * (t / 65536) + t % 65536 := (Nat.div_add_mod t 65536).symm
  have hq : 1 ≤ t / 65536 := by omega
  rw [if_neg (by omega), if_neg (by omega)]
  have e : t - 1 = (t / 65536 + t % 65536 - 1) + 65535 * (t / 65536) := by omega
  rw [e, Nat.add_mul_mod_self_left]
theorem can_add (t x : Nat) (hx : x ≤ 65535) : can (t + x) = if 65535 < can t + x then can t + x - 65535 else can t + x := by
  unfold can
  by_cases h0 : t = 0
  · subst h0
    simp only [if_true, Nat.zero_add]
    split
    · rename_i h; subst h; simp
    · rw [if_neg (by omega), Nat.mod_eq_of_lt (by omega)]; omega
  · rw [if_neg (by omega), if_neg h0]
    have hm := Nat.mod_lt (t - 1) (show 65535 > 0 by omega)
    have e : t + x - 1 = ((t - 1) % 65535 + x) + 65535 * ((t - 1) / 65535) := by have := Nat.div_add_mod (t - 1) 65535; omega
    rw [e, Nat.add_mul_mod_self_left]
    generalize (t - 1) % 65535 = r at *
    split
    · rw [show r + x = (r + x - 65535) + 65535 by omega, Nat.add_mod_right, Nat.mod_eq_of_lt (by omega)]; omega
    · rw [Nat.mod_eq_of_lt (by omega)]; omega
def sumA (l : List UInt8) : Int := 65535 - (can (tot l l.length) : Int)
theorem sumA_in (l : List UInt8) : 0 ≤ sumA l ∧ sumA l ≤ 65535 := by have := can_le (tot l l.length); unfold sumA; omega

theorem and16 (t : Nat) (h : t < 9223372036854775808) : bits .and .i64 (t : Int) 65535 = ((t % 65536 : Nat) : Int) := by
  have hx : t &&& 65535 = t % 65536 := Nat.and_two_pow_sub_one_eq_mod t 16
  have e1 : (BitVec.ofInt 64 (t : Int)).toNat = t := by rw [BitVec.ofInt_natCast, BitVec.toNat_ofNat]; exact Nat.mod_eq_of_lt (by omega)
  have e2 : (BitVec.ofInt 64 (65535 : Int)).toNat = 65535 := rfl
  show IntKind.i64.wrap ((BitVec.ofInt 64 (t : Int) &&& BitVec.ofInt 64 (65535 : Int)).toNat : Int) = _
  rw [BitVec.toNat_and, e1, e2, hx, IntKind.wrap_i64]
  omega

set_option maxHeartbeats 1000000 in
set_option maxRecDepth 100000 in
theorem sum11 (l : List UInt8) (hl : l.length ≤ 100000) (w : World) : Calls Tryd.prog 95 #[.string (S l)] w fun e w' => e = .returned (.int .i64 (sumA l)) ∧ w' = w := by
  have hss : (S l).size = l.length := S_size l
  unfold sumA
  go_enter Tryd.func95, Tryd.ntmps95
  go_wp2_with fail
  go_loop [3, 7] (fun s i => ∃ k : Nat, k ≤ l.length ∧ i = .int .i64 k ∧ s = .int .i64 (tot l k : Nat)) (fun _ i => l.length - (intOf i).toNat)
  case atStart => exact ⟨0, Nat.zero_le _, rfl, rfl⟩
  case round =>
    obtain ⟨k, hk, rfl, rfl⟩ := hrel
    have hb := tot_le l k
    by_cases hlt : k < l.length
    · have hx := ix_str l k hlt
      have hbt := byteAt_lt l k
      rw [← byteAt_in l k hlt] at hx
      have HT := Lib.hid (show tot l (k + 1) = tot l k + (if k % 2 = 0 then byteAt l k * 256 else byteAt l k) from rfl)
      generalize tot l k = t at *
      generalize byteAt l k = b at *
      have hkb : (k : Int) * 65280 ≤ 6528000000 := by omega
      by_cases h2 : k % 2 = 0
      · have m2 : ((k : Int) % 2 == 0) = true := by simp; omega
        have HT' := Lib.hid (show tot l (k + 1) = t + b * 256 by rw [HT.out, if_pos h2])
        clear HT h2
        go_wp2_with fail
        go_round
        case rel => exact ⟨k + 1, by omega, by go_num, by rw [HT'.out]; go_num⟩
        case measure => simp [intOf]; omega
      · have m2 : ((k : Int) % 2 == 0) = false := by simp; omega
        have HT' := Lib.hid (show tot l (k + 1) = t + b by rw [HT.out, if_neg h2])
        clear HT h2
        go_wp2_with fail
        go_round
        case rel => exact ⟨k + 1, by omega, by go_num, by rw [HT'.out]; go_num⟩
        case measure => simp [intOf]; omega
    · obtain rfl : k = l.length := by omega
      obtain ⟨T, hT⟩ : ∃ T, tot l l.length = T := ⟨_, rfl⟩
      have HTt := Lib.hid hT
      rw [hT] at hb ⊢
      clear hT
      go_wp2_with fail
      go_loop [3] (fun s => ∃ t : Nat, s = .int .i64 (t : Int) ∧ can t = can T ∧ t ≤ 10000000000) (fun s => (intOf s).toNat)
      case atStart => exact ⟨T, rfl, rfl, by omega⟩
      case round =>
        obtain ⟨t, rfl, hc, ht⟩ := hrel
        by_cases hg : 65535 < t
        · have ha := and16 t (by omega)
          have HC := Lib.hid (show can (t / 65536 + t % 65536) = can T by rw [can_fold hg]; exact hc)
          clear hc
          go_wp2_with fail
          go_round
          case rel => exact ⟨t / 65536 + t % 65536, by go_num, HC.out, by omega⟩
          case measure => simp [intOf]; omega
        · have HC := Lib.hid (show can T = t by rw [← hc]; exact can_small (by omega))
          clear hc
          go_wp2_with fail
          go_ret
          exact ⟨ret_int (by rw [HTt.out, HC.out]), rfl⟩
end Go.Proofs.YtdpaiegojioimaaDoor

/-
  Layer 11 (ipv4): the reference's Two, Sum and Low; ipv4's place and low.
-/
namespace Go.Proofs.YtdpaiegojioimaaDoor
open Go.ChangeShapes Go.WideShapes Go.ChangeAt Go.RowKit Go.Deep
set_option linter.unusedVariables false
set_option linter.unusedSimpArgs false

def twoA (l : List UInt8) (i : Nat) : Nat := byteAt l i * 256 + byteAt l (i + 1)
theorem twoA_le (l : List UInt8) (i : Nat) : twoA l i ≤ 65535 := by have := byteAt_lt l i; have := byteAt_lt l (i + 1); unfold twoA; omega
def twoN (l : List UInt8) (i : Nat) : Nat → Nat
  | 0 => 0
  | j + 1 => twoN l i j * 256 + byteAt l (i + j)

set_option maxHeartbeats 1000000 in
theorem two11 (l : List UInt8) (i : Nat) (hl : l.length ≤ 100000) (hi : i ≤ 200000) (w : World) : Calls Tryd.prog 29 #[.string (S l), .int .i64 (i : Int)] w fun e w' => e = .returned (.int .i64 (twoA l i : Nat)) ∧ w' = w := by
  have hss : (S l).size = l.length := S_size l
  have HE := Lib.hid (show twoA l i = twoN l i 2 by unfold twoA; simp [twoN])
  rw [HE.out]
  go_enter Tryd.func29, Tryd.ntmps29
  go_wp2_with fail
  go_loop [5, 6] (fun n k => ∃ j m : Nat, j ≤ 2 ∧ m = i + j ∧ k = .int .i64 (m : Int) ∧ n = .int .i64 (twoN l i j : Nat)) (fun _ k => i + 2 - (intOf k).toNat)
  case atStart => exact ⟨0, i, by omega, rfl, rfl, rfl⟩
  case round =>
    obtain ⟨j, m, hj, hm, rfl, rfl⟩ := hrel
    by_cases hlt : j < 2
    · have hn : twoN l i j ≤ 255 := by
        rcases (show j = 0 ∨ j = 1 by omega) with rfl | rfl
        · simp [twoN]
        · have := byteAt_lt l (i + 0); simp [twoN] at *; omega
      have HN := Lib.hid (show twoN l i (j + 1) = twoN l i j * 256 + byteAt l m by rw [hm]; rfl)
      generalize twoN l i j = n at *
      by_cases hin : m < l.length
      · have hx := ix_str l m hin
        have hbt := byteAt_lt l m
        rw [← byteAt_in l m hin] at hx
        have HM := Lib.hid hm
        have hm1 : (m : Int) < (i : Int) + 2 := by omega
        generalize byteAt l m = b at *
        clear hm
        go_wp2_with fail
        go_round
        case rel => exact ⟨j + 1, m + 1, by omega, by have := HM.out; omega, by go_num, by rw [HN.out]; go_num⟩
        case measure => have := HM.out; simp [intOf]; omega
      · have hb0 := byteAt_out l m hin
        rw [hb0] at HN
        have HM := Lib.hid hm
        have hm1 : (m : Int) < (i : Int) + 2 := by omega
        clear hb0 hm
        go_wp2_with fail
        go_round
        case rel => exact ⟨j + 1, m + 1, by omega, by have := HM.out; omega, by go_num, by rw [HN.out]; go_num⟩
        case measure => have := HM.out; simp [intOf]; omega
    · obtain rfl : j = 2 := by omega
      have hm1 : ¬ (m : Int) < (i : Int) + 2 := by omega
      go_wp2_with fail
      go_ret
      exact ⟨rfl, rfl⟩

theorem tot_two (l : List UInt8) (j : Nat) : tot l (2 * j + 2) = tot l (2 * j) + twoA l (2 * j) := by
  simp only [tot, twoA]
  rw [if_pos (by omega), if_neg (by omega)]
  omega
theorem tot_end (l : List UInt8) (i : Nat) (h1 : l.length ≤ i) (h2 : i ≤ l.length + 1) : tot l i = tot l l.length := by
  rcases (show i = l.length ∨ i = l.length + 1 by omega) with rfl | rfl
  · rfl
  · simp only [tot]
    rw [byteAt_out l l.length (by omega)]
    split <;> omega

set_option maxHeartbeats 1000000 in
theorem refSum11 (l : List UInt8) (hl : l.length ≤ 100000) (w : World) : Calls Tryd.prog 74 #[.string (S l)] w fun e w' => e = .returned (.int .i64 (sumA l)) ∧ w' = w := by
  have hss : (S l).size = l.length := S_size l
  unfold sumA
  go_enter Tryd.func74, Tryd.ntmps74
  go_wp2_with fail
  go_loop [3, 4] (fun n i => ∃ j : Nat, 2 * j ≤ l.length + 1 ∧ i = .int .i64 ((2 * j : Nat) : Int) ∧ n = .int .i64 (can (tot l (2 * j)) : Nat)) (fun _ i => l.length + 2 - (intOf i).toNat)
  case atStart => exact ⟨0, by omega, rfl, rfl⟩
  case round =>
    obtain ⟨j, hj, rfl, rfl⟩ := hrel
    have hc := can_le (tot l (2 * j))
    by_cases hlt : 2 * j < l.length
    · have TW := Lib.hid (fun w => two11 l (2 * j) hl (by omega) w)
      have ht := twoA_le l (2 * j)
      have HA := can_add (tot l (2 * j)) (twoA l (2 * j)) ht
      rw [← tot_two] at HA
      have HA := Lib.hid HA
      have HI := Lib.hid (show 2 * (j + 1) = 2 * j + 2 by omega)
      generalize can (tot l (2 * j)) = c at *
      generalize twoA l (2 * j) = x at *
      by_cases hg : 65535 < c + x
      · have HA' := Lib.hid (show can (tot l (2 * j + 2)) = c + x - 65535 by rw [HA.out, if_pos hg])
        clear HA
        go_wp2_with fail
        refine (TW.out _).mono ?_
        rintro e w1 ⟨rfl, rfl⟩
        go_wp2_with fail
        go_round
        case rel => exact ⟨j + 1, by omega, by go_num, by rw [HI.out, HA'.out]; go_num⟩
        case measure => simp [intOf]; omega
      · have HA' := Lib.hid (show can (tot l (2 * j + 2)) = c + x by rw [HA.out, if_neg hg])
        clear HA
        go_wp2_with fail
        refine (TW.out _).mono ?_
        rintro e w1 ⟨rfl, rfl⟩
        go_wp2_with fail
        go_round
        case rel => exact ⟨j + 1, by omega, by go_num, by rw [HI.out, HA'.out]; go_num⟩
        case measure => simp [intOf]; omega
    · have HT := Lib.hid (tot_end l (2 * j) (by omega) hj)
      rw [HT.out] at hc ⊢
      go_wp2_with fail
      go_ret
      exact ⟨rfl, rfl⟩

theorem low11 (n : Int) (k : Nat) (hk : k ≤ 100) (hn : -9223372036854775808 ≤ n ∧ n ≤ 9223372036854775807) (w : World) : Calls Tryd.prog 35 #[.int .i64 n, .int .i64 (k : Int)] w fun e w' => e = .returned (.string (S (be (u64n n) k))) ∧ Touch [] w w' := by
  have P := Lib.hid (fun w => refPutNum k hk (u64n n) (u64n_lt n) w)
  have f := u64n_cast n
  generalize u64n n = x at *
  have f' : IntKind.u64.wrap n = (x : Int) := by rw [IntKind.wrap_u64]; omega
  clear f
  go_enter Tryd.func35, Tryd.ntmps35
  go_wp2_with fail
  refine (P.out _).mono ?_
  rintro e w1 ⟨rfl, t1⟩
  have T1 := Lib.hid t1
  clear t1
  go_wp2_with fail
  go_ret
  exact ⟨rfl, T1.out⟩

theorem be_mod (u : Nat) : be (u % 4294967296) 4 = be u 4 := by
  have h : ∀ k, k < 4 → UInt8.ofNat (u % 4294967296 / 256 ^ k) = UInt8.ofNat (u / 256 ^ k) := by
    intro k hk
    apply UInt8.toNat_inj.1
    rcases (show k = 0 ∨ k = 1 ∨ k = 2 ∨ k = 3 by omega) with rfl | rfl | rfl | rfl <;> simp <;> omega
  simp only [be]
  rw [h 3 (by omega), h 2 (by omega), h 1 (by omega), h 0 (by omega)]
theorem low4 (hi lo : Nat) (hlo : lo < 18446744073709551616) (w : World) : Calls Tryd.prog 102 #[av hi lo] w fun e w' => e = .returned (.string (S (be lo 4))) ∧ Touch [] w w' := by
  have e : bytesA 4 0 (lo % 4294967296) = be lo 4 := by
    have hr : rightA 4 0 (lo % 4294967296) = true := by unfold rightA; simp; omega
    unfold bytesA
    rw [hr, if_pos rfl, if_pos rfl, be_mod]
  have B0 := fun w => bytes10 4 0 (lo % 4294967296) (by omega) (by omega) w
  rw [e] at B0
  clear e
  generalize be lo 4 = M at *
  have B : Hid (∀ w, Calls Tryd.prog 68 #[.int .i64 4, .agg #[.int .u64 0, .int .u64 ((lo % 4294967296 : Nat) : Int)]] w fun e w' => e = .returned (.string (S M)) ∧ Touch [] w w') := Lib.hid B0
  have ha := u64_and_nat lo 4294967295 hlo (by omega)
  rw [show lo &&& 4294967295 = lo % 4294967296 from Nat.and_two_pow_sub_one_eq_mod lo 32] at ha
  have ha' : bits .and .u64 (lo : Int) 4294967295 = ((lo % 4294967296 : Nat) : Int) := ha
  have T0 := Lib.hid ((Touch.refl [] w).alloc (.cells #[.int .u64 (hi : Int), .int .u64 (lo : Int)] 25))
  generalize lo % 4294967296 = lw at *
  unfold av
  clear B0 ha
  go_enter Tryd.func102, Tryd.ntmps102
  go_wp2_with fail
  refine (B.out _).mono ?_
  rintro e w1 ⟨rfl, t1⟩
  have T1 := Lib.hid (T0.out.trans t1 (by simp))
  clear t1
  go_wp2_with fail
  go_ret
  exact ⟨rfl, T1.out⟩
end Go.Proofs.YtdpaiegojioimaaDoor

/-
  Layer 11 (ipv4): place, header, Make.
-/
namespace Go.Proofs.YtdpaiegojioimaaDoor
open Go.ChangeShapes Go.WideShapes Go.ChangeAt Go.RowKit Go.Deep
set_option linter.unusedVariables false
set_option linter.unusedSimpArgs false

/-- A header by its fields. -/
structure Hd where
  sh : Nat
  sl : Nat
  dh : Nat
  dl : Nat
  proto : Int
  start : Int
  size : Int
  off : Int
  more : Bool
def Hd.cells (h : Hd) : Array Value := #[.int .u64 (h.sh : Int), .int .u64 (h.sl : Int), .int .u64 (h.dh : Int), .int .u64 (h.dl : Int), .int .i64 h.proto, .int .i64 h.start, .int .i64 h.size, .int .i64 h.off, .bool h.more]
structure Hd.Ok (h : Hd) : Prop where
  sl : h.sl < 18446744073709551616
  dl : h.dl < 18446744073709551616
  proto : -9223372036854775808 ≤ h.proto ∧ h.proto ≤ 9223372036854775807
  off : -9223372036854775808 ≤ h.off ∧ h.off ≤ 9223372036854775807
def flagsA (h : Hd) : Nat := u64n h.off % 8192 + (if h.more then 8192 else 0)
theorem and13 (n : Int) : bits .and .i64 n 8191 = ((u64n n % 8192 : Nat) : Int) := by
  have e1 : (BitVec.ofInt 64 n).toNat = u64n n := by rw [BitVec.toNat_ofInt]; unfold u64n; rfl
  have e2 : (BitVec.ofInt 64 (8191 : Int)).toNat = 8191 := rfl
  show IntKind.i64.wrap ((BitVec.ofInt 64 n &&& BitVec.ofInt 64 (8191 : Int)).toNat : Int) = _
  rw [BitVec.toNat_and, e1, e2, show u64n n &&& 8191 = u64n n % 8192 from Nat.and_two_pow_sub_one_eq_mod _ 13, IntKind.wrap_i64]
  omega
theorem or13 (x : Nat) (h : x < 8192) : bits .or .i64 (x : Int) 8192 = ((x + 8192 : Nat) : Int) := by
  have e1 : (BitVec.ofInt 64 (x : Int)).toNat = x := by rw [BitVec.ofInt_natCast, BitVec.toNat_ofNat]; exact Nat.mod_eq_of_lt (by omega)
  have e2 : (BitVec.ofInt 64 (8192 : Int)).toNat = 8192 := rfl
  show IntKind.i64.wrap ((BitVec.ofInt 64 (x : Int) ||| BitVec.ofInt 64 (8192 : Int)).toNat : Int) = _
  have h3 := Nat.two_pow_add_eq_or_of_lt (i := 13) h 1
  rw [BitVec.toNat_or, e1, e2, Nat.or_comm, show (8192 : Nat) ||| x = 8192 + x from by simpa using h3.symm, IntKind.wrap_i64]
  omega
theorem place11 (h : Hd) (w : World) : Calls Tryd.prog 101 #[.agg h.cells] w fun e w' => e = .returned (.int .i64 (flagsA h : Nat)) ∧ Touch [] w w' := by
  have a := and13 h.off
  have ef : flagsA h = u64n h.off % 8192 + (if h.more then 8192 else 0) := rfl
  have hx : u64n h.off % 8192 < 8192 := by omega
  have o := or13 _ hx
  rw [ef]
  generalize u64n h.off % 8192 = x at *
  unfold Hd.cells
  cases h.more
  · clear ef o
    go_enter Tryd.func101, Tryd.ntmps101
    go_wp2_with fail
    go_ret
    exact ⟨ret_int (by simp), (Touch.refl _ _).alloc _⟩
  · clear ef
    go_enter Tryd.func101, Tryd.ntmps101
    go_wp2_with fail
    go_ret
    exact ⟨ret_int (by simp), (Touch.refl _ _).alloc _⟩

theorem u64n_nat (n : Nat) (h : n < 18446744073709551616) : u64n (n : Int) = n := by unfold u64n; omega
theorem tot_app (x y : List UInt8) (hx : x.length % 2 = 0) : ∀ k, tot (x ++ y) (x.length + k) = tot x x.length + tot y k
  | 0 => by
    have : ∀ j, j ≤ x.length → tot (x ++ y) j = tot x j := by
      intro j
      induction j with
      | zero => intro _; rfl
      | succ j ih =>
        intro hj
        simp only [tot]
        rw [ih (by omega)]
        have : byteAt (x ++ y) j = byteAt x j := by unfold byteAt; rw [List.getElem?_append_left (by omega)]
        rw [this]
    simpa [tot] using this x.length (Nat.le_refl _)
  | k + 1 => by
    have e : byteAt (x ++ y) (x.length + k) = byteAt y k := by unfold byteAt; rw [List.getElem?_append_right (by omega), Nat.add_sub_cancel_left]
    rw [← Nat.add_assoc]
    simp only [tot]
    rw [tot_app x y hx k, e, show (x.length + k) % 2 = k % 2 by omega]
    omega
theorem tot_zeros (x y : List UInt8) (hx : x.length % 2 = 0) : sumA (x ++ [0, 0] ++ y) = sumA (x ++ y) := by
  unfold sumA
  have e1 := tot_app (x ++ [0, 0]) y (by simp; omega) y.length
  have e2 := tot_app x y hx y.length
  have e3 := tot_app x [0, 0] hx 2
  have e4 : tot [0, 0] 2 = 0 := by simp [tot, byteAt]
  have q1 : (x ++ [0, 0] ++ y).length = (x ++ [0, 0]).length + y.length := List.length_append
  have q2 : (x ++ y).length = x.length + y.length := List.length_append
  have q3 : (x ++ [(0 : UInt8), 0]).length = x.length + 2 := by simp
  rw [q1, q2, e1, e2, q3, e3, e4]
  rfl
theorem splice_length (L m : List UInt8) (off : Nat) (h : off + m.length ≤ L.length) : (splice L off m).length = L.length := by
  unfold splice
  simp
  omega
def aA (h : Hd) (size : Int) : List UInt8 := [69, 0] ++ be (u64n size) 2 ++ [0, 0] ++ be (flagsA h) 2 ++ [0] ++ be (u64n h.proto) 1
def bA (h : Hd) : List UInt8 := be h.sl 4 ++ be h.dl 4
def headA (h : Hd) (size : Int) : List UInt8 := aA h size ++ be (u64n (sumA (aA h size ++ bA h))) 2 ++ bA h
theorem headA_length (h : Hd) (size : Int) : (headA h size).length = 20 := by simp [headA, aA, bA, be_length]

set_option maxHeartbeats 4000000 in
set_option maxRecDepth 100000 in
theorem header11 (h : Hd) (ok : h.Ok) (size : Int) (w : World) : Calls Tryd.prog 84 #[.agg h.cells, .int .i64 size] w fun e w' => e = .returned (.string (S (headA h size))) ∧ Touch [] w w' := by
  have hmk := fun w => make8 20 20 rfl (by omega) w
  have P1 := Lib.hid (fun w => put2 size w)
  have hfl : flagsA h < 18446744073709551616 := by unfold flagsA; split <;> omega
  have P2 := Lib.hid (fun w => put2 (flagsA h : Nat) w)
  rw [u64n_nat _ hfl] at P2
  have PL := Lib.hid (fun w => place11 h w)
  have LO1 := Lib.hid (fun w => low4 h.sh h.sl ok.sl w)
  have LO2 := Lib.hid (fun w => low4 h.dh h.dl ok.dl w)
  obtain ⟨L2, hL2⟩ : ∃ L2, splice (69 :: List.replicate 19 (0 : UInt8)) 2 ((be (u64n size) 2).take 18) = L2 := ⟨_, rfl⟩
  obtain ⟨L3, hL3⟩ : ∃ L3, splice L2 6 ((be (flagsA h) 2).take 14) = L3 := ⟨_, rfl⟩
  obtain ⟨L4, hL4⟩ : ∃ L4, L3.set 9 (UInt8.ofNat (u64n h.proto)) = L4 := ⟨_, rfl⟩
  obtain ⟨L5, hL5⟩ : ∃ L5, splice L4 12 (be h.sl 4) = L5 := ⟨_, rfl⟩
  obtain ⟨R6, hR6⟩ : ∃ R6, splice L5 16 (be h.dl 4) = R6 := ⟨_, rfl⟩
  have n2 : L2.length = 20 := by rw [← hL2, splice_length _ _ _ (by simp [be_length])]; simp
  have n3 : L3.length = 20 := by rw [← hL3, splice_length _ _ _ (by simp [be_length, n2]), n2]
  have n4 : L4.length = 20 := by rw [← hL4, List.length_set, n3]
  have n5 : L5.length = 20 := by rw [← hL5, splice_length _ _ _ (by simp [be_length, n4]), n4]
  have e6 : R6 = aA h size ++ [0, 0] ++ bA h := by
    rw [← hR6, ← hL5, ← hL4, ← hL3, ← hL2]
    unfold aA bA
    simp only [be, Nat.pow_zero, Nat.div_one]
    rfl
  have hl6 : R6.length = 20 := by rw [e6]; simp [aA, bA, be_length]
  have SU := Lib.hid (fun w => sum11 R6 (by omega) w)
  have hs6 : sumA R6 = sumA (aA h size ++ bA h) := by rw [e6]; exact tot_zeros _ _ (by simp [aA, be_length])
  have P3 := Lib.hid (fun w => put2 (sumA R6) w)
  have e7 : splice R6 10 ((be (u64n (sumA R6)) 2).take 10) = headA h size := by
    rw [hs6, e6]
    unfold headA
    generalize u64n (sumA (aA h size ++ bA h)) = q
    unfold aA bA
    simp only [be, Nat.pow_zero, Nat.div_one]
    rfl
  have h20 := headA_length h size
  have hpb : (h.proto % 256 : Int) = ((UInt8.ofNat (u64n h.proto)).toNat : Int) := by
    unfold u64n
    simp
    omega
  have HR6 := Lib.hid hR6
  have HL2 := Lib.hid hL2
  have HL3 := Lib.hid hL3
  have HL4 := Lib.hid hL4
  have HL5 := Lib.hid hL5
  have N2 := Lib.hid n2
  have N3 := Lib.hid n3
  have N4 := Lib.hid n4
  have N5 := Lib.hid n5
  have NZ3 := Lib.hid (be_length h.sl 4)
  have NZ4 := Lib.hid (be_length h.dl 4)
  have NZ5 := Lib.hid (be_length (u64n (sumA R6)) 2)
  have HE7 := Lib.hid e7
  have H20 := Lib.hid h20
  have HL6 := Lib.hid hl6
  have HPB := Lib.hid hpb
  generalize headA h size = HA at *
  generalize sumA R6 = sm at *
  generalize be (u64n size) 2 = Z1 at *
  generalize be (flagsA h) 2 = Z2 at *
  generalize be h.sl 4 = Z3 at *
  generalize be h.dl 4 = Z4 at *
  generalize be (u64n sm) 2 = Z5 at *
  generalize UInt8.ofNat (u64n h.proto) = pb at *
  have pw : IntKind.u8.wrap h.proto = h.proto % 256 := by rw [IntKind.wrap_u8]
  clear hR6 e7 h20 hl6 hpb e6 hs6 hfl ok hL2 hL3 hL4 hL5 n2 n3 n4 n5
  unfold Hd.cells av at *
  go_enter Tryd.func84, Tryd.ntmps84
  go_upto_region 3 with fail
  have X0 := BoxV.of2 (w := w) (cs := #[.int .u64 (h.sh : Int), .int .u64 (h.sl : Int), .int .u64 (h.dh : Int), .int .u64 (h.dl : Int), .int .i64 h.proto, .int .i64 h.start, .int .i64 h.size, .int .i64 h.off, .bool h.more]) (T := 77) (o := .cells ((Array.replicate 20 (.int .u8 0)).setIfInBounds 0 (.int .u8 69)) 5)
  have R1 : Row8 ((w.alloc (.cells #[.int .u64 (h.sh : Int), .int .u64 (h.sl : Int), .int .u64 (h.dh : Int), .int .u64 (h.dl : Int), .int .i64 h.proto, .int .i64 h.start, .int .i64 h.size, .int .i64 h.off, .bool h.more] 77)).alloc (.cells ((Array.replicate 20 (.int .u8 0)).setIfInBounds 0 (.int .u8 69)) 5)) (w.heap.size + 1) (69 :: List.replicate 19 (0 : UInt8)) := by
    have := heap_alloc_new (w.alloc (.cells #[.int .u64 (h.sh : Int), .int .u64 (h.sl : Int), .int .u64 (h.dh : Int), .int .u64 (h.dl : Int), .int .i64 h.proto, .int .i64 h.start, .int .i64 h.size, .int .i64 h.off, .bool h.more] 77)) (.cells ((Array.replicate 20 (.int .u8 0)).setIfInBounds 0 (.int .u8 69)) 5)
    rw [nblk_alloc] at this
    exact this
  have T1 := ((Touch.refl [] w).alloc (.cells #[.int .u64 (h.sh : Int), .int .u64 (h.sl : Int), .int .u64 (h.dh : Int), .int .u64 (h.dl : Int), .int .i64 h.proto, .int .i64 h.start, .int .i64 h.size, .int .i64 h.off, .bool h.more] 77)).alloc (.cells ((Array.replicate 20 (.int .u8 0)).setIfInBounds 0 (.int .u8 69)) 5)
  generalize (w.alloc (.cells #[.int .u64 (h.sh : Int), .int .u64 (h.sl : Int), .int .u64 (h.dh : Int), .int .u64 (h.dl : Int), .int .i64 h.proto, .int .i64 h.start, .int .i64 h.size, .int .i64 h.off, .bool h.more] 77)).alloc (.cells ((Array.replicate 20 (.int .u8 0)).setIfInBounds 0 (.int .u8 69)) 5) = w1 at *
  have HX := Lib.hid (show BoxV w1.drew w.heap.size 77 #[.int .u64 (h.sh : Int), .int .u64 (h.sl : Int), .int .u64 (h.dh : Int), .int .u64 (h.dl : Int), .int .i64 h.proto, .int .i64 h.start, .int .i64 h.size, .int .i64 h.off, .bool h.more] from X0)
  have HR := Lib.hid (show Row8 w1.drew (w.heap.size + 1) (69 :: List.replicate 19 (0 : UInt8)) from R1)
  have HT1 := Lib.hid T1.drew
  clear X0 R1 T1 hmk
  go_region_with (go_at_call 66; refine (P1.out _).mono ?_; intro e wp hf; obtain ⟨Ap, np, cp, rfl, bp, tp⟩ := fresh_bts hf; obtain ⟨w2, hcp, R2, T2⟩ := copy_run (HR.out.carry tp (by simp)) bp 2 18 18 (by simp); rw [HL2.out] at R2; have HR2 := Lib.hid R2; have HX2 := Lib.hid ((HX.out.carry tp (by simp)).carry T2 (by simp)); have HT2 := Lib.hid ((HT1.out.trans tp (by simp)).trans (S := []) T2 (by simp)); clear R2 T2 bp tp hf)
  go_upto_region 4 with fail
  clear hcp
  have x2 := HX2.out
  have k0 := x2.cell 0
  have k1 := x2.cell 1
  have k2 := x2.cell 2
  have k3 := x2.cell 3
  have k4 := x2.cell 4
  have k5 := x2.cell 5
  have k6 := x2.cell 6
  have k7 := x2.cell 7
  have k8 := x2.cell 8
  have ltx := x2.lt
  have HX2' := Lib.hid (show BoxV w2.drew w.heap.size 77 #[.int .u64 (h.sh : Int), .int .u64 (h.sl : Int), .int .u64 (h.dh : Int), .int .u64 (h.dl : Int), .int .i64 h.proto, .int .i64 h.start, .int .i64 h.size, .int .i64 h.off, .bool h.more] from x2)
  have HR2' := Lib.hid (show Row8 w2.drew (w.heap.size + 1) L2 from HR2.out)
  clear x2 HX2 HR2
  go_region_with (first
    | (go_at_call 101; refine (PL.out _).mono ?_; rintro e wq ⟨rfl, tq⟩; have TQ := Lib.hid tq; clear tq)
    | (go_at_call 66; refine (P2.out _).mono ?_; intro e wp hf; obtain ⟨Ap, np, cp, rfl, bp, tp⟩ := fresh_bts hf; obtain ⟨w3, hcp, R3, T3⟩ := copy_run ((HR2'.out.carry TQ.out (by simp)).carry tp (by simp)) bp 6 14 14 (by rw [N2.out]; omega); rw [HL3.out] at R3; have HR3 := Lib.hid R3; have HX3 := Lib.hid (((HX2'.out.carry TQ.out (by simp)).carry tp (by simp)).carry T3 (by simp)); have HT3 := Lib.hid (((HT2.out.drew.trans TQ.out (by simp)).trans tp (by simp)).trans (S := []) T3 (by simp)); clear R3 T3 bp tp hf))
  clear hcp k0 k1 k2 k3 k4 k5 k6 k7 k8 ltx HX2' HR2' HT2 TQ
  have k4 := HX3.out.cell 4
  have ltx := HX3.out.lt
  have ltr := HR3.out.lt
  have f9 := HR3.out.fr 9
  have c9 := HR3.out.cell (i := 9) (by rw [N3.out]; omega)
  have R4 := HR3.out.set 9 pb (h.proto % 256) HPB.out
  rw [HL4.out] at R4
  have X4 := HX3.out.carry ((Touch.refl [w.heap.size + 1] w3).setCell (a := ⟨w.heap.size + 1, 9, none⟩) (by simp) (.int .u8 (h.proto % 256))) (by simp)
  have T4 := HT3.out.setCell (a := ⟨w.heap.size + 1, 9, none⟩) (by simp) (.int .u8 (h.proto % 256))
  have HR4 := Lib.hid R4
  have HX4 := Lib.hid X4
  have HT4 := Lib.hid T4
  clear R4 X4 T4
  go_upto_region 6 with fail
  clear k4 ltx ltr f9 c9
  generalize w3.setCell ⟨w.heap.size + 1, 9, none⟩ (.int .u8 (h.proto % 256)) = w4 at *
  have k0 := HX4.out.cell 0
  have k1 := HX4.out.cell 1
  have ltx := HX4.out.lt
  have HX4' := Lib.hid (show BoxV w4.drew w.heap.size 77 #[.int .u64 (h.sh : Int), .int .u64 (h.sl : Int), .int .u64 (h.dh : Int), .int .u64 (h.dl : Int), .int .i64 h.proto, .int .i64 h.start, .int .i64 h.size, .int .i64 h.off, .bool h.more] from HX4.out)
  have HR4' := Lib.hid (show Row8 w4.drew (w.heap.size + 1) L4 from HR4.out)
  go_region_with (go_at_call 102; refine (LO1.out _).mono ?_; rintro e wq ⟨rfl, tq⟩; obtain ⟨w5, hcp, R5, T5⟩ := copy_str (HR4'.out.carry tq (by simp)) Z3 12 8 8 (by rw [NZ3.out]; omega) (by rw [NZ3.out, N4.out]; omega); rw [HL5.out] at R5; have HR5 := Lib.hid R5; have HX5 := Lib.hid ((HX4'.out.carry tq (by simp)).carry T5 (by simp)); have HT5 := Lib.hid ((HT4.out.drew.trans tq (by simp)).trans (S := []) T5 (by simp)); clear R5 T5 tq)
  go_upto_region 7 with fail
  clear hcp k0 k1 ltx HX4' HR4' HT4 HX4 HR4
  have k2 := HX5.out.cell 2
  have k3 := HX5.out.cell 3
  have ltx := HX5.out.lt
  have HR5' := Lib.hid (show Row8 w5.drew (w.heap.size + 1) L5 from HR5.out)
  go_region_with (go_at_call 102; refine (LO2.out _).mono ?_; rintro e wq ⟨rfl, tq⟩; obtain ⟨w6, hcp, R6', T6⟩ := copy_str (HR5'.out.carry tq (by simp)) Z4 16 4 4 (by rw [NZ4.out]; omega) (by rw [NZ4.out, N5.out]; omega); rw [HR6.out] at R6'; have HRR := Lib.hid R6'; have HT6 := Lib.hid ((HT5.out.drew.trans tq (by simp)).trans (S := []) T6 (by simp)); clear R6' T6 tq)
  go_upto_region 8 with fail
  clear hcp k2 k3 ltx HR5' HT5 HX5 HR5
  have HRR' := Lib.hid (show Row8 w6.drew (w.heap.size + 1) R6 from HRR.out)
  have hcv := str_of (HRR'.out.bts 20 (by rw [HL6.out]; exact Nat.le_refl _) (by omega))
  rw [HL6.out] at hcv
  go_region_with (first
    | (go_at_call 95; refine (SU.out _).mono ?_; rintro e wq ⟨rfl, rfl⟩)
    | (go_at_call 66; refine (P3.out _).mono ?_; intro e wp hf; obtain ⟨Ap, np, cp, rfl, bp, tp⟩ := fresh_bts hf; obtain ⟨w7, hcp, R7, T7⟩ := copy_run (HRR'.out.carry tp (by simp)) bp 10 10 10 (by rw [HL6.out]; omega); rw [HE7.out] at R7; have hcv7 := str_of (R7.bts 20 (by rw [H20.out]; exact Nat.le_refl _) (by omega)); rw [H20.out] at hcv7; have HT7 := Lib.hid ((HT6.out.drew.trans tp (by simp)).trans (S := []) T7 (by simp)); clear R7 T7 bp tp hf))
  go_wp2_with fail
  go_ret
  exact ⟨rfl, HT7.out⟩
end Go.Proofs.YtdpaiegojioimaaDoor

/-
  Layer 11 (ipv4): Make and the reference's Make.
-/
namespace Go.Proofs.YtdpaiegojioimaaDoor
open Go.ChangeShapes Go.WideShapes Go.ChangeAt Go.RowKit Go.Deep
set_option linter.unusedVariables false
set_option linter.unusedSimpArgs false

def packA (h : Hd) (l : List UInt8) : List UInt8 := if 65515 < l.length then [] else headA h (20 + l.length) ++ l

set_option maxHeartbeats 1000000 in
theorem make11 (h : Hd) (ok : h.Ok) (l : List UInt8) (hl : l.length ≤ 1000000000) (w : World) : Calls Tryd.prog 49 #[.agg h.cells, .string (S l)] w fun e w' => e = .returned (.string (S (packA h l))) ∧ Touch [] w w' := by
  have hss : (S l).size = l.length := S_size l
  unfold packA
  by_cases hb : 65515 < l.length
  · rw [if_pos hb]
    have d : decide (65515 < (l.length : Int)) = true := by simp; omega
    unfold Hd.cells
    go_enter Tryd.func49, Tryd.ntmps49
    go_wp2_with fail
    go_ret
    exact ⟨rfl, (Touch.refl _ _).alloc _⟩
  · rw [if_neg hb]
    have d : decide (65515 < (l.length : Int)) = false := by simp; omega
    have HD := Lib.hid (fun w => header11 h ok (20 + (l.length : Int)) w)
    have ha := add_str (headA h (20 + (l.length : Int))) l (by rw [headA_length]; omega)
    generalize headA h (20 + (l.length : Int)) ++ l = R at *
    generalize headA h (20 + (l.length : Int)) = A at *
    have T0 := Lib.hid ((Touch.refl [] w).alloc (.cells h.cells 77))
    unfold Hd.cells at *
    clear ok
    go_enter Tryd.func49, Tryd.ntmps49
    go_wp2_with fail
    refine (HD.out _).mono ?_
    rintro e w1 ⟨rfl, t1⟩
    have T1 := Lib.hid (T0.out.trans t1 (by simp))
    clear t1
    go_wp2_with fail
    go_ret
    exact ⟨rfl, T1.out⟩

set_option maxHeartbeats 2000000 in
set_option maxRecDepth 100000 in
theorem refMake11 (h : Hd) (ok : h.Ok) (l : List UInt8) (hl : l.length ≤ 1000000000) (w : World) : Calls Tryd.prog 52 #[.agg h.cells, .string (S l)] w fun e w' => e = .returned (.string (S (packA h l))) ∧ Touch [] w w' := by
  have hss : (S l).size = l.length := S_size l
  unfold packA
  by_cases hb : 65515 < l.length
  · rw [if_pos hb]
    have d : decide (65515 < (l.length : Int)) = true := by simp; omega
    unfold Hd.cells
    go_enter Tryd.func52, Tryd.ntmps52
    go_wp2_with fail
    go_ret
    exact ⟨rfl, (Touch.refl _ _).alloc _⟩
  · rw [if_neg hb]
    have d : decide (65515 < (l.length : Int)) = false := by simp; omega
    have hx : u64n h.off % 8192 < 8192 := by omega
    have hfl : flagsA h ≤ 16383 := by unfold flagsA; split <;> omega
    have P1 : Hid (∀ w, Calls Tryd.prog 35 #[.int .i64 (20 + (l.length : Int)), .int .i64 2] w fun e w' => e = .returned (.string (S (be (u64n (20 + (l.length : Int))) 2))) ∧ Touch [] w w') := Lib.hid (fun w => low11 _ 2 (by omega) (by omega) w)
    have P2 : Hid (∀ w, Calls Tryd.prog 35 #[.int .i64 (flagsA h : Nat), .int .i64 2] w fun e w' => e = .returned (.string (S (be (flagsA h) 2))) ∧ Touch [] w w') := Lib.hid (fun w => by
      have := low11 (flagsA h : Nat) 2 (by omega) (by omega) w
      rwa [u64n_nat _ (by omega)] at this)
    have P6 : Hid (∀ w, Calls Tryd.prog 35 #[.int .i64 h.proto, .int .i64 1] w fun e w' => e = .returned (.string (S (be (u64n h.proto) 1))) ∧ Touch [] w w') := Lib.hid (fun w => low11 _ 1 (by omega) ok.proto w)
    have P3 : Hid (∀ w, Calls Tryd.prog 36 #[.int .u64 (h.sl : Int), .int .i64 4] w fun e w' => e = .returned (.string (S (be h.sl 4))) ∧ Touch [] w w') := Lib.hid (fun w => refPutNum 4 (by omega) h.sl ok.sl w)
    have P4 : Hid (∀ w, Calls Tryd.prog 36 #[.int .u64 (h.dl : Int), .int .i64 4] w fun e w' => e = .returned (.string (S (be h.dl 4))) ∧ Touch [] w w') := Lib.hid (fun w => refPutNum 4 (by omega) h.dl ok.dl w)
    have hlab : (aA h (20 + (l.length : Int)) ++ bA h).length = 18 := by simp [aA, bA, be_length]
    have SU := Lib.hid (fun w => refSum11 (aA h (20 + (l.length : Int)) ++ bA h) (by omega) w)
    have hsi := sumA_in (aA h (20 + (l.length : Int)) ++ bA h)
    have P5 : Hid (∀ w, Calls Tryd.prog 35 #[.int .i64 (sumA (aA h (20 + (l.length : Int)) ++ bA h)), .int .i64 2] w fun e w' => e = .returned (.string (S (be (u64n (sumA (aA h (20 + (l.length : Int)) ++ bA h))) 2))) ∧ Touch [] w w') := Lib.hid (fun w => low11 _ 2 (by omega) (by omega) w)
    have h1 := be_length (u64n (20 + (l.length : Int))) 2
    have h2 := be_length (flagsA h) 2
    have h6 := be_length (u64n h.proto) 1
    have h3 := be_length h.sl 4
    have h4 := be_length h.dl 4
    have h5 := be_length (u64n (sumA (aA h (20 + (l.length : Int)) ++ bA h))) 2
    have eh : headA h (20 + (l.length : Int)) = aA h (20 + (l.length : Int)) ++ be (u64n (sumA (aA h (20 + (l.length : Int)) ++ bA h))) 2 ++ bA h := rfl
    have ea : aA h (20 + (l.length : Int)) = [69, 0] ++ be (u64n (20 + (l.length : Int))) 2 ++ [0, 0] ++ be (flagsA h) 2 ++ [0] ++ be (u64n h.proto) 1 := rfl
    have eb : bA h = be h.sl 4 ++ be h.dl 4 := rfl
    rw [eh]
    generalize u64n (sumA (aA h (20 + (l.length : Int)) ++ bA h)) = sn at *
    generalize sumA (aA h (20 + (l.length : Int)) ++ bA h) = sm at *
    generalize be sn 2 = Z5 at *
    generalize be (u64n (20 + (l.length : Int))) 2 = Z1 at *
    generalize be (flagsA h) 2 = Z2 at *
    generalize be (u64n h.proto) 1 = Z6 at *
    generalize be h.sl 4 = Z3 at *
    generalize be h.dl 4 = Z4 at *
    have a1 : ∀ w : World, (Op.stringOp .add ⟨#[69, 0]⟩ (S Z1)).run Tryd.prog w = .ok (.string (S ([69, 0] ++ Z1))) w := fun w => add_str [69, 0] Z1 (by simp; omega) w
    have a2 : ∀ w : World, (Op.stringOp .add (S ([69, 0] ++ Z1)) ⟨#[0, 0]⟩).run Tryd.prog w = .ok (.string (S ([69, 0] ++ Z1 ++ [0, 0]))) w := fun w => add_str ([69, 0] ++ Z1) [0, 0] (by simp; omega) w
    have a3 : ∀ w : World, (Op.stringOp .add (S ([69, 0] ++ Z1 ++ [0, 0])) (S Z2)).run Tryd.prog w = .ok (.string (S ([69, 0] ++ Z1 ++ [0, 0] ++ Z2))) w := fun w => add_str _ _ (by simp; omega) w
    have a4 : ∀ w : World, (Op.stringOp .add (S ([69, 0] ++ Z1 ++ [0, 0] ++ Z2)) ⟨#[0]⟩).run Tryd.prog w = .ok (.string (S ([69, 0] ++ Z1 ++ [0, 0] ++ Z2 ++ [0]))) w := fun w => add_str ([69, 0] ++ Z1 ++ [0, 0] ++ Z2) [0] (by simp; omega) w
    have a5 : ∀ w : World, (Op.stringOp .add (S ([69, 0] ++ Z1 ++ [0, 0] ++ Z2 ++ [0])) (S Z6)).run Tryd.prog w = .ok (.string (S ([69, 0] ++ Z1 ++ [0, 0] ++ Z2 ++ [0] ++ Z6))) w := fun w => add_str _ _ (by simp; omega) w
    rw [← ea] at a5
    have a6 : ∀ w : World, (Op.stringOp .add (S Z3) (S Z4)).run Tryd.prog w = .ok (.string (S (Z3 ++ Z4))) w := fun w => add_str _ _ (by omega) w
    rw [← eb] at a6
    clear ea eb
    generalize [69, 0] ++ Z1 ++ [0, 0] ++ Z2 ++ [0] = q4 at *
    generalize [69, 0] ++ Z1 ++ [0, 0] ++ Z2 = q3 at *
    generalize [69, 0] ++ Z1 ++ [0, 0] = q2 at *
    generalize [69, 0] ++ Z1 = q1 at *
    have hla : (aA h (20 + (l.length : Int))).length ≤ 18 := by rw [List.length_append] at hlab; omega
    have hlb : (bA h).length ≤ 18 := by rw [List.length_append] at hlab; omega
    generalize aA h (20 + (l.length : Int)) = A at *
    generalize bA h = B at *
    have a7 : ∀ w : World, (Op.stringOp .add (S A) (S B)).run Tryd.prog w = .ok (.string (S (A ++ B))) w := fun w => add_str _ _ (by omega) w
    have a8 : ∀ w : World, (Op.stringOp .add (S A) (S Z5)).run Tryd.prog w = .ok (.string (S (A ++ Z5))) w := fun w => add_str _ _ (by omega) w
    have a9 : ∀ w : World, (Op.stringOp .add (S (A ++ Z5)) (S B)).run Tryd.prog w = .ok (.string (S (A ++ Z5 ++ B))) w := fun w => add_str _ _ (by rw [List.length_append]; omega) w
    have a10 : ∀ w : World, (Op.stringOp .add (S (A ++ Z5 ++ B)) (S l)).run Tryd.prog w = .ok (.string (S (A ++ Z5 ++ B ++ l))) w := fun w => add_str _ _ (by rw [List.length_append, List.length_append]; omega) w
    generalize A ++ Z5 ++ B ++ l = q9 at *
    generalize A ++ Z5 ++ B = q8 at *
    generalize A ++ Z5 = q7 at *
    generalize A ++ B = q6 at *
    have wo : IntKind.u64.wrap h.off = ((u64n h.off : Nat) : Int) := by rw [IntKind.wrap_u64]; exact u64n_cast h.off
    have ef : flagsA h = u64n h.off % 8192 + (if h.more then 8192 else 0) := rfl
    have hfx : flagsA h < 20000 := by omega
    obtain ⟨fl, hfl'⟩ : ∃ fl, flagsA h = fl := ⟨_, rfl⟩
    rw [hfl'] at P2 ef hfx
    have wm : ((u64n h.off : Nat) : Int) % 8192 = ((u64n h.off % 8192 : Nat) : Int) := by omega
    generalize u64n h.off % 8192 = xm at *
    generalize u64n h.off = xo at *
    have wc : IntKind.i64.wrap (xm : Int) = (xm : Int) := by rw [IntKind.wrap_i64]; omega
    have X0 := Lib.hid (BoxV.new w 31 h.cells)
    have T0 := Lib.hid ((Touch.refl [] w).alloc (.cells h.cells 31))
    unfold Hd.cells at *
    clear ok hla hlb hlab hsi h1 h2 h3 h4 h5 h6 hfl hfl' eh
    cases hm : h.more with
    | false =>
      rw [hm] at X0 T0 ef
      obtain rfl : fl = xm := by simpa using ef
      clear ef hm
      go_enter Tryd.func52, Tryd.ntmps52
      go_upto_region 6 with fail
      generalize w.alloc (.cells #[.int .u64 (h.sh : Int), .int .u64 (h.sl : Int), .int .u64 (h.dh : Int), .int .u64 (h.dl : Int), .int .i64 h.proto, .int .i64 h.start, .int .i64 h.size, .int .i64 h.off, .bool false] 31) = w1 at *
      have k1 : ∀ x : Cls w1, x.val.cell? ⟨w.heap.size, 1, none⟩ = some (.int .u64 (h.sl : Int)) := fun x => (X0.out.carry x.property (by simp)).cell 1
      have k3 : ∀ x : Cls w1, x.val.cell? ⟨w.heap.size, 3, none⟩ = some (.int .u64 (h.dl : Int)) := fun x => (X0.out.carry x.property (by simp)).cell 3
      have k4 : ∀ x : Cls w1, x.val.cell? ⟨w.heap.size, 4, none⟩ = some (.int .i64 h.proto) := fun x => (X0.out.carry x.property (by simp)).cell 4
      refine wp_region_cls (wd := w1) (by kernel_rfl) (by kernel_rfl) ((Touch.refl _ _).drew) ?_
      repeat (first | go_big_quiet_step ((first | (go_at_call 35; first | with_reducible exact Calls.cls_at (P1.out _) | with_reducible exact Calls.cls_at (P2.out _) | with_reducible exact Calls.cls_at (P6.out _)))) | quiet_step ((first | (go_at_call 35; first | with_reducible exact Calls.cls_at (P1.out _) | with_reducible exact Calls.cls_at (P2.out _) | with_reducible exact Calls.cls_at (P6.out _)))))
      refine wpQuiet_nil ?_
      rintro _ ⟨y, rfl⟩
      go_upto_region 7 with fail
      refine wp_region_cls (wd := w1) (by kernel_rfl) (by kernel_rfl) (y.property.drew) ?_
      repeat (first | go_big_quiet_step ((first | (go_at_call 36; first | with_reducible exact Calls.cls_at (P3.out _) | with_reducible exact Calls.cls_at (P4.out _)))) | quiet_step ((first | (go_at_call 36; first | with_reducible exact Calls.cls_at (P3.out _) | with_reducible exact Calls.cls_at (P4.out _)))))
      refine wpQuiet_nil ?_
      rintro _ ⟨z, rfl⟩
      clear k1 k3 k4
      go_wp2_with fail
      refine (SU.out _).mono ?_
      rintro e wq ⟨rfl, hq⟩
      subst hq
      go_wp2_with fail
      refine (P5.out _).mono ?_
      rintro e wq ⟨rfl, tq⟩
      have TQ := Lib.hid ((T0.out.trans z.property (by simp)).trans tq (by simp))
      clear tq
      go_wp2_with fail
      go_ret
      exact ⟨rfl, TQ.out⟩
    | true =>
      rw [hm] at X0 T0 ef
      obtain rfl : fl = xm + 8192 := by simpa using ef
      have P2 : Hid (∀ w, Calls Tryd.prog 35 #[.int .i64 ((xm : Int) + 8192), .int .i64 2] w fun e w' => e = .returned (.string (S Z2)) ∧ Touch [] w w') := P2
      clear ef hm
      go_enter Tryd.func52, Tryd.ntmps52
      go_upto_region 6 with fail
      generalize w.alloc (.cells #[.int .u64 (h.sh : Int), .int .u64 (h.sl : Int), .int .u64 (h.dh : Int), .int .u64 (h.dl : Int), .int .i64 h.proto, .int .i64 h.start, .int .i64 h.size, .int .i64 h.off, .bool true] 31) = w1 at *
      have k1 : ∀ x : Cls w1, x.val.cell? ⟨w.heap.size, 1, none⟩ = some (.int .u64 (h.sl : Int)) := fun x => (X0.out.carry x.property (by simp)).cell 1
      have k3 : ∀ x : Cls w1, x.val.cell? ⟨w.heap.size, 3, none⟩ = some (.int .u64 (h.dl : Int)) := fun x => (X0.out.carry x.property (by simp)).cell 3
      have k4 : ∀ x : Cls w1, x.val.cell? ⟨w.heap.size, 4, none⟩ = some (.int .i64 h.proto) := fun x => (X0.out.carry x.property (by simp)).cell 4
      refine wp_region_cls (wd := w1) (by kernel_rfl) (by kernel_rfl) ((Touch.refl _ _).drew) ?_
      repeat (first | go_big_quiet_step ((first | (go_at_call 35; first | with_reducible exact Calls.cls_at (P1.out _) | with_reducible exact Calls.cls_at (P2.out _) | with_reducible exact Calls.cls_at (P6.out _)))) | quiet_step ((first | (go_at_call 35; first | with_reducible exact Calls.cls_at (P1.out _) | with_reducible exact Calls.cls_at (P2.out _) | with_reducible exact Calls.cls_at (P6.out _)))))
      refine wpQuiet_nil ?_
      rintro _ ⟨y, rfl⟩
      go_upto_region 7 with fail
      refine wp_region_cls (wd := w1) (by kernel_rfl) (by kernel_rfl) (y.property.drew) ?_
      repeat (first | go_big_quiet_step ((first | (go_at_call 36; first | with_reducible exact Calls.cls_at (P3.out _) | with_reducible exact Calls.cls_at (P4.out _)))) | quiet_step ((first | (go_at_call 36; first | with_reducible exact Calls.cls_at (P3.out _) | with_reducible exact Calls.cls_at (P4.out _)))))
      refine wpQuiet_nil ?_
      rintro _ ⟨z, rfl⟩
      clear k1 k3 k4
      go_wp2_with fail
      refine (SU.out _).mono ?_
      rintro e wq ⟨rfl, hq⟩
      subst hq
      go_wp2_with fail
      refine (P5.out _).mono ?_
      rintro e wq ⟨rfl, tq⟩
      have TQ := Lib.hid ((T0.out.trans z.property (by simp)).trans tq (by simp))
      clear tq
      go_wp2_with fail
      go_ret
      exact ⟨rfl, TQ.out⟩
end Go.Proofs.YtdpaiegojioimaaDoor

/-
  Layer 11 (ipv4): what Parse tells; the reference's Parse.
-/
namespace Go.Proofs.YtdpaiegojioimaaDoor
open Go.ChangeShapes Go.WideShapes Go.ChangeAt Go.RowKit Go.Deep
set_option linter.unusedVariables false
set_option linter.unusedSimpArgs false

def startP (l : List UInt8) : Nat := byteAt l 0 % 16 * 4
def errP (l : List UInt8) : Int :=
  if l.length < 20 then 5 else if byteAt l 0 / 16 ≠ 4 then 22 else if ¬ (20 ≤ startP l ∧ startP l ≤ l.length) then 23
  else if ¬ (startP l ≤ twoA l 2 ∧ twoA l 2 ≤ l.length) then 6 else if sumA (l.take (startP l)) ≠ 0 then 24 else 0
def zeroP : Hd := ⟨0, 0, 0, 0, 0, 0, 0, 0, false⟩
def wholeP (l : List UInt8) : Hd := ⟨0, num ((l.drop 12).take 4), 0, num ((l.drop 16).take 4), (byteAt l 9 : Nat), (startP l : Nat), (twoA l 2 : Nat), (twoA l 6 % 8192 : Nat), decide (twoA l 6 / 8192 % 2 = 1)⟩
def hdP (l : List UInt8) : Hd := if errP l = 0 then wholeP l else zeroP
theorem S_slice (l : List UInt8) (a b : Nat) (h : b ≤ l.length) : (S l).extract a b = S ((l.drop a).take (b - a)) := by
  unfold S
  rw [ByteArray.extract_mk]
/-- The world behind 9 stores. -/
def fill9 (w : World) (b : Nat) (v0 v1 v2 v3 v4 v5 v6 v7 v8 : Value) : World := (((((((((w).setCell ⟨b, 0, none⟩ v0).setCell ⟨b, 1, none⟩ v1).setCell ⟨b, 2, none⟩ v2).setCell ⟨b, 3, none⟩ v3).setCell ⟨b, 4, none⟩ v4).setCell ⟨b, 5, none⟩ v5).setCell ⟨b, 6, none⟩ v6).setCell ⟨b, 7, none⟩ v7).setCell ⟨b, 8, none⟩ v8
theorem BoxV.fill9 {w : World} {b : Nat} {T : TypeId} {z0 z1 z2 z3 z4 z5 z6 z7 z8 : Value} (h : BoxV w b T #[z0, z1, z2, z3, z4, z5, z6, z7, z8]) (v0 v1 v2 v3 v4 v5 v6 v7 v8 : Value) : BoxV (fill9 w b v0 v1 v2 v3 v4 v5 v6 v7 v8) b T #[v0, v1, v2, v3, v4, v5, v6, v7, v8] := by
  have h1 : BoxV ((w).setCell ⟨b, 0, none⟩ v0) b T #[v0, z1, z2, z3, z4, z5, z6, z7, z8] := h.set 0 v0
  have h2 : BoxV (((w).setCell ⟨b, 0, none⟩ v0).setCell ⟨b, 1, none⟩ v1) b T #[v0, v1, z2, z3, z4, z5, z6, z7, z8] := h1.set 1 v1
  have h3 : BoxV ((((w).setCell ⟨b, 0, none⟩ v0).setCell ⟨b, 1, none⟩ v1).setCell ⟨b, 2, none⟩ v2) b T #[v0, v1, v2, z3, z4, z5, z6, z7, z8] := h2.set 2 v2
  have h4 : BoxV (((((w).setCell ⟨b, 0, none⟩ v0).setCell ⟨b, 1, none⟩ v1).setCell ⟨b, 2, none⟩ v2).setCell ⟨b, 3, none⟩ v3) b T #[v0, v1, v2, v3, z4, z5, z6, z7, z8] := h3.set 3 v3
  have h5 : BoxV ((((((w).setCell ⟨b, 0, none⟩ v0).setCell ⟨b, 1, none⟩ v1).setCell ⟨b, 2, none⟩ v2).setCell ⟨b, 3, none⟩ v3).setCell ⟨b, 4, none⟩ v4) b T #[v0, v1, v2, v3, v4, z5, z6, z7, z8] := h4.set 4 v4
  have h6 : BoxV (((((((w).setCell ⟨b, 0, none⟩ v0).setCell ⟨b, 1, none⟩ v1).setCell ⟨b, 2, none⟩ v2).setCell ⟨b, 3, none⟩ v3).setCell ⟨b, 4, none⟩ v4).setCell ⟨b, 5, none⟩ v5) b T #[v0, v1, v2, v3, v4, v5, z6, z7, z8] := h5.set 5 v5
  have h7 : BoxV ((((((((w).setCell ⟨b, 0, none⟩ v0).setCell ⟨b, 1, none⟩ v1).setCell ⟨b, 2, none⟩ v2).setCell ⟨b, 3, none⟩ v3).setCell ⟨b, 4, none⟩ v4).setCell ⟨b, 5, none⟩ v5).setCell ⟨b, 6, none⟩ v6) b T #[v0, v1, v2, v3, v4, v5, v6, z7, z8] := h6.set 6 v6
  have h8 : BoxV (((((((((w).setCell ⟨b, 0, none⟩ v0).setCell ⟨b, 1, none⟩ v1).setCell ⟨b, 2, none⟩ v2).setCell ⟨b, 3, none⟩ v3).setCell ⟨b, 4, none⟩ v4).setCell ⟨b, 5, none⟩ v5).setCell ⟨b, 6, none⟩ v6).setCell ⟨b, 7, none⟩ v7) b T #[v0, v1, v2, v3, v4, v5, v6, v7, z8] := h7.set 7 v7
  have h9 : BoxV ((((((((((w).setCell ⟨b, 0, none⟩ v0).setCell ⟨b, 1, none⟩ v1).setCell ⟨b, 2, none⟩ v2).setCell ⟨b, 3, none⟩ v3).setCell ⟨b, 4, none⟩ v4).setCell ⟨b, 5, none⟩ v5).setCell ⟨b, 6, none⟩ v6).setCell ⟨b, 7, none⟩ v7).setCell ⟨b, 8, none⟩ v8) b T #[v0, v1, v2, v3, v4, v5, v6, v7, v8] := h8.set 8 v8
  exact h9
theorem touch_fill9 (w : World) (b : Nat) (v0 v1 v2 v3 v4 v5 v6 v7 v8 : Value) : Touch [b] w (fill9 w b v0 v1 v2 v3 v4 v5 v6 v7 v8) :=
  (((((((((Touch.refl [b] w).setCell (a := ⟨b, 0, none⟩) (.inl (List.mem_singleton.2 rfl)) v0).setCell (a := ⟨b, 1, none⟩) (.inl (List.mem_singleton.2 rfl)) v1).setCell (a := ⟨b, 2, none⟩) (.inl (List.mem_singleton.2 rfl)) v2).setCell (a := ⟨b, 3, none⟩) (.inl (List.mem_singleton.2 rfl)) v3).setCell (a := ⟨b, 4, none⟩) (.inl (List.mem_singleton.2 rfl)) v4).setCell (a := ⟨b, 5, none⟩) (.inl (List.mem_singleton.2 rfl)) v5).setCell (a := ⟨b, 6, none⟩) (.inl (List.mem_singleton.2 rfl)) v6).setCell (a := ⟨b, 7, none⟩) (.inl (List.mem_singleton.2 rfl)) v7).setCell (a := ⟨b, 8, none⟩) (.inl (List.mem_singleton.2 rfl)) v8
theorem ret_box_tmp {P : Program} {fn : Func} {s u : Tmp} {t : TypeId} {tmps : Array Value} {w : World} {b : Nat} {T : TypeId} {cs : Array Value} {d : TypeDesc} (h : fn.results = #[.cell s t, .tmp u]) (hx : tmps.getD s undef = .pointer (some ⟨b, 0, none⟩)) (hB : BoxV w b T cs)
    (hu : P.underlying t = some d) (hd : d.isRow = true) (hi : (P.info? t).map (·.size) = some cs.size) : (results fn tmps).run P w = .ok (.tuple #[.agg cs, tmps.getD u undef]) w := by
  have L := run_loadVar_mid (P := P) w b 0 t cs.toList d hB.range hu hd (by simpa using hi)
  rw [Array.toArray_toList] at L
  have hx' : tmps[s]?.getD undef = .pointer (some ⟨b, 0, none⟩) := by simpa using hx
  simp [results, h, hx', asAddr, L]
theorem two11T (l : List UInt8) (i : Nat) (hl : l.length ≤ 100000) (hi : i ≤ 200000) (w : World) : Calls Tryd.prog 29 #[.string (S l), .int .i64 (i : Int)] w fun e w' => e = .returned (.int .i64 (twoA l i : Nat)) ∧ Touch [] w w' :=
  (two11 l i hl hi w).mono fun e w' ⟨h1, h2⟩ => ⟨h1, by rw [h2]; exact Touch.refl _ _⟩

set_option maxHeartbeats 2000000 in
set_option maxRecDepth 100000 in
theorem refParse11 (l : List UInt8) (hl : l.length ≤ 100000) (w : World) :
    Calls Tryd.prog 39 #[.string (S l)] w fun e w' => e = .returned (.tuple #[.agg (hdP l).cells, .int .i64 (errP l)]) ∧ Touch [] w w' := by
  have hss : (S l).size = l.length := S_size l
  have BR := Lib.hid (BoxV.new w 31 #[.int .u64 0, .int .u64 0, .int .u64 0, .int .u64 0, .int .i64 0, .int .i64 0, .int .i64 0, .int .i64 0, .bool false])
  have T0 := Lib.hid ((Touch.refl [] w).alloc (.cells #[.int .u64 0, .int .u64 0, .int .u64 0, .int .u64 0, .int .i64 0, .int .i64 0, .int .i64 0, .int .i64 0, .bool false] 31))
  by_cases h20 : l.length < 20
  · have e1 : errP l = 5 := by unfold errP; rw [if_pos h20]
    have e2 : hdP l = zeroP := by unfold hdP; rw [e1, if_neg (by decide)]
    rw [e1, e2]
    have d20 : decide ((l.length : Int) < 20) = true := by simp; omega
    unfold zeroP Hd.cells
    clear e1 e2 h20
    go_enter Tryd.func39, Tryd.ntmps39
    go_wp2_with fail
    refine bodyPost_ret (v := .tuple #[.agg #[.int .u64 0, .int .u64 0, .int .u64 0, .int .u64 0, .int .i64 0, .int .i64 0, .int .i64 0, .int .i64 0, .bool false], .int .i64 5]) (by simp [results, Tryd.results39, go_sem]) rfl ⟨rfl, (Touch.refl _ _).alloc _⟩
  have d20 : decide ((l.length : Int) < 20) = false := by simp; omega
  have hx0 : ∀ w : World, (Instr.index 9 (.string (S l)) (.int .i64 0)).run Tryd.prog w = .ok (.int .u8 ((byteAt l 0 : Nat) : Int)) w := fun w => by
    have := ix_str l 0 (by omega) w
    rwa [← byteAt_in l 0 (by omega)] at this
  have hb0 := byteAt_lt l 0
  by_cases h22 : byteAt l 0 / 16 ≠ 4
  · have e1 : errP l = 22 := by unfold errP; rw [if_neg h20, if_pos h22]
    have e2 : hdP l = zeroP := by unfold hdP; rw [e1, if_neg (by decide)]
    rw [e1, e2]
    have d22 : (((byteAt l 0 : Nat) : Int) / 16 != 4) = true := by simp; omega
    generalize byteAt l 0 = b0 at *
    unfold zeroP Hd.cells
    clear e1 e2 h20 h22
    go_enter Tryd.func39, Tryd.ntmps39
    go_wp2_with fail
    refine bodyPost_ret (v := .tuple #[.agg #[.int .u64 0, .int .u64 0, .int .u64 0, .int .u64 0, .int .i64 0, .int .i64 0, .int .i64 0, .int .i64 0, .bool false], .int .i64 22]) (by simp [results, Tryd.results39, go_sem]) rfl ⟨rfl, (Touch.refl _ _).alloc _⟩
  have d22 : (((byteAt l 0 : Nat) : Int) / 16 != 4) = false := by simp; omega
  have TW : Hid (∀ w, Calls Tryd.prog 29 #[.string (S l), .int .i64 2] w fun e w' => e = .returned (.int .i64 (twoA l 2 : Nat)) ∧ Touch [] w w') := Lib.hid (fun w => two11T l 2 hl (by omega) w)
  have hst : 4 * (((byteAt l 0 : Nat) : Int) % 16) = ((startP l : Nat) : Int) := by unfold startP; omega
  have ht2 := twoA_le l 2
  by_cases h23 : ¬ (20 ≤ startP l ∧ startP l ≤ l.length)
  · have e1 : errP l = 23 := by unfold errP; rw [if_neg h20, if_neg h22, if_pos h23]
    have e2 : hdP l = zeroP := by unfold hdP; rw [e1, if_neg (by decide)]
    rw [e1, e2]
    have ways : decide (((startP l : Nat) : Int) < 20) = true ∨ (decide (((startP l : Nat) : Int) < 20) = false ∧ decide (l.length < startP l) = true) := by simp only [decide_eq_true_eq, decide_eq_false_iff_not]; omega
    have hsp : startP l ≤ 60 := by unfold startP; omega
    generalize startP l = st at *
    generalize twoA l 2 = t2 at *
    generalize byteAt l 0 = b0 at *
    unfold zeroP Hd.cells
    clear e1 e2 h20 h22 h23
    rcases ways with d1 | ⟨d1, d2⟩
    all_goals
      go_enter Tryd.func39, Tryd.ntmps39
      go_upto_region 5 with fail
      generalize w.alloc (.cells #[.int .u64 0, .int .u64 0, .int .u64 0, .int .u64 0, .int .i64 0, .int .i64 0, .int .i64 0, .int .i64 0, .bool false] 31) = w1 at *
      refine wp_region_cls (wd := w1) (by kernel_rfl) (by kernel_rfl) ((Touch.refl _ _).drew) ?_
      repeat (first | go_big_quiet_step ((go_at_call 29; with_reducible exact Calls.cls_at (TW.out _))) | quiet_step ((go_at_call 29; with_reducible exact Calls.cls_at (TW.out _))))
      refine wpQuiet_nil ?_
      rintro _ ⟨y, rfl⟩
      have TY := Lib.hid (T0.out.trans y.property (by simp))
      have BQ := BR.out.carry y.property (by simp)
      generalize y.val = w2 at *
      have fz := BQ.fr
      have r0 := BQ.cell 0
      have r1 := BQ.cell 1
      have r2 := BQ.cell 2
      have r3 := BQ.cell 3
      have r4 := BQ.cell 4
      have r5 := BQ.cell 5
      have r6 := BQ.cell 6
      have r7 := BQ.cell 7
      have r8 := BQ.cell 8
      have ltq := BQ.lt
      have HB := Lib.hid BQ
      clear BQ
      go_wp2_with fail
      refine bodyPost_ret (ret_box_tmp rfl rfl (HB.out.fill9 (.int .u64 0) (.int .u64 0) (.int .u64 0) (.int .u64 0) (.int .i64 0) (.int .i64 0) (.int .i64 0) (.int .i64 0) (.bool false)) Tryd.underlying31 rfl (by kernel_rfl)) rfl ⟨rfl, TY.out.trans (touch_fill9 w2 w.heap.size (.int .u64 0) (.int .u64 0) (.int .u64 0) (.int .u64 0) (.int .i64 0) (.int .i64 0) (.int .i64 0) (.int .i64 0) (.bool false)) (by simp)⟩
  have hsp : startP l ≤ 60 := by unfold startP; omega
  have d1 : decide (((startP l : Nat) : Int) < 20) = false := by simp; omega
  have d2 : decide (l.length < startP l) = false := by simp; omega
  by_cases h6 : ¬ (startP l ≤ twoA l 2 ∧ twoA l 2 ≤ l.length)
  · have e1 : errP l = 6 := by unfold errP; rw [if_neg h20, if_neg h22, if_neg h23, if_pos h6]
    have e2 : hdP l = zeroP := by unfold hdP; rw [e1, if_neg (by decide)]
    rw [e1, e2]
    have ways : decide (twoA l 2 < startP l) = true ∨ (decide (twoA l 2 < startP l) = false ∧ decide (l.length < twoA l 2) = true) := by simp only [decide_eq_true_eq, decide_eq_false_iff_not]; omega
    generalize startP l = st at *
    generalize twoA l 2 = t2 at *
    generalize byteAt l 0 = b0 at *
    unfold zeroP Hd.cells
    clear e1 e2 h20 h22 h23 h6
    rcases ways with d3 | ⟨d3, d4⟩
    all_goals
      go_enter Tryd.func39, Tryd.ntmps39
      go_upto_region 5 with fail
      generalize w.alloc (.cells #[.int .u64 0, .int .u64 0, .int .u64 0, .int .u64 0, .int .i64 0, .int .i64 0, .int .i64 0, .int .i64 0, .bool false] 31) = w1 at *
      refine wp_region_cls (wd := w1) (by kernel_rfl) (by kernel_rfl) ((Touch.refl _ _).drew) ?_
      repeat (first | go_big_quiet_step ((go_at_call 29; with_reducible exact Calls.cls_at (TW.out _))) | quiet_step ((go_at_call 29; with_reducible exact Calls.cls_at (TW.out _))))
      refine wpQuiet_nil ?_
      rintro _ ⟨y, rfl⟩
      have TY := Lib.hid (T0.out.trans y.property (by simp))
      have BQ := BR.out.carry y.property (by simp)
      generalize y.val = w2 at *
      have fz := BQ.fr
      have r0 := BQ.cell 0
      have r1 := BQ.cell 1
      have r2 := BQ.cell 2
      have r3 := BQ.cell 3
      have r4 := BQ.cell 4
      have r5 := BQ.cell 5
      have r6 := BQ.cell 6
      have r7 := BQ.cell 7
      have r8 := BQ.cell 8
      have ltq := BQ.lt
      have HB := Lib.hid BQ
      clear BQ
      go_wp2_with fail
      refine bodyPost_ret (ret_box_tmp rfl rfl (HB.out.fill9 (.int .u64 0) (.int .u64 0) (.int .u64 0) (.int .u64 0) (.int .i64 0) (.int .i64 0) (.int .i64 0) (.int .i64 0) (.bool false)) Tryd.underlying31 rfl (by kernel_rfl)) rfl ⟨rfl, TY.out.trans (touch_fill9 w2 w.heap.size (.int .u64 0) (.int .u64 0) (.int .u64 0) (.int .u64 0) (.int .i64 0) (.int .i64 0) (.int .i64 0) (.int .i64 0) (.bool false)) (by simp)⟩
  have d3 : decide (twoA l 2 < startP l) = false := by simp; omega
  have d4 : decide (l.length < twoA l 2) = false := by simp; omega
  have s1 : (S l).extract 0 (startP l) = S (l.take (startP l)) := S_take l _
  have SU := Lib.hid (fun w => refSum11 (l.take (startP l)) (by rw [List.length_take]; omega) w)
  have hse : startP l ≤ l.length := by omega
  by_cases h24 : sumA (l.take (startP l)) ≠ 0
  · have e1 : errP l = 24 := by unfold errP; rw [if_neg h20, if_neg h22, if_neg h23, if_neg h6, if_pos h24]
    have e2 : hdP l = zeroP := by unfold hdP; rw [e1, if_neg (by decide)]
    rw [e1, e2]
    have d5 : (sumA (l.take (startP l)) != 0) = true := by simpa using h24
    generalize sumA (l.take (startP l)) = sm at *
    generalize l.take (startP l) = lt' at *
    generalize startP l = st at *
    generalize twoA l 2 = t2 at *
    generalize byteAt l 0 = b0 at *
    unfold zeroP Hd.cells
    clear e1 e2 h20 h22 h23 h6 h24
    go_enter Tryd.func39, Tryd.ntmps39
    go_upto_region 5 with fail
    generalize w.alloc (.cells #[.int .u64 0, .int .u64 0, .int .u64 0, .int .u64 0, .int .i64 0, .int .i64 0, .int .i64 0, .int .i64 0, .bool false] 31) = w1 at *
    refine wp_region_cls (wd := w1) (by kernel_rfl) (by kernel_rfl) ((Touch.refl _ _).drew) ?_
    repeat (first | go_big_quiet_step ((go_at_call 29; with_reducible exact Calls.cls_at (TW.out _))) | quiet_step ((go_at_call 29; with_reducible exact Calls.cls_at (TW.out _))))
    refine wpQuiet_nil ?_
    rintro _ ⟨y, rfl⟩
    have TY := Lib.hid (T0.out.trans y.property (by simp))
    have BQ := BR.out.carry y.property (by simp)
    generalize y.val = w2 at *
    go_wp2_with fail
    refine (SU.out _).mono ?_
    rintro e w2 ⟨rfl, rfl⟩
    have fz := BQ.fr
    have r0 := BQ.cell 0
    have r1 := BQ.cell 1
    have r2 := BQ.cell 2
    have r3 := BQ.cell 3
    have r4 := BQ.cell 4
    have r5 := BQ.cell 5
    have r6 := BQ.cell 6
    have r7 := BQ.cell 7
    have r8 := BQ.cell 8
    have ltq := BQ.lt
    have HB := Lib.hid BQ
    clear BQ
    go_wp2_with fail
    refine bodyPost_ret (ret_box_tmp rfl rfl (HB.out.fill9 (.int .u64 0) (.int .u64 0) (.int .u64 0) (.int .u64 0) (.int .i64 0) (.int .i64 0) (.int .i64 0) (.int .i64 0) (.bool false)) Tryd.underlying31 rfl (by kernel_rfl)) rfl ⟨rfl, TY.out.trans (touch_fill9 w2 w.heap.size (.int .u64 0) (.int .u64 0) (.int .u64 0) (.int .u64 0) (.int .i64 0) (.int .i64 0) (.int .i64 0) (.int .i64 0) (.bool false)) (by simp)⟩
  have e1 : errP l = 0 := by unfold errP; rw [if_neg h20, if_neg h22, if_neg h23, if_neg h6, if_neg h24]
  have e2 : hdP l = wholeP l := by unfold hdP; rw [if_pos e1]
  rw [e1, e2]
  have d5 : (sumA (l.take (startP l)) != 0) = false := by simpa using h24
  have hx9 : ∀ w : World, (Instr.index 9 (.string (S l)) (.int .i64 9)).run Tryd.prog w = .ok (.int .u8 ((byteAt l 9 : Nat) : Int)) w := fun w => by
    have := ix_str l 9 (by omega) w
    rwa [← byteAt_in l 9 (by omega)] at this
  have hb9 := byteAt_lt l 9
  have TW6 : Hid (∀ w, Calls Tryd.prog 29 #[.string (S l), .int .i64 6] w fun e w' => e = .returned (.int .i64 (twoA l 6 : Nat)) ∧ w' = w) := Lib.hid (fun w => two11 l 6 hl (by omega) w)
  have ht6 := twoA_le l 6
  have s12 : (S l).extract 12 16 = S ((l.drop 12).take 4) := S_slice l 12 16 (by omega)
  have s16 : (S l).extract 16 20 = S ((l.drop 16).take 4) := S_slice l 16 20 (by omega)
  have m1 : ((l.drop 12).take 4).length = 4 := by rw [List.length_take, List.length_drop]; omega
  have m2 : ((l.drop 16).take 4).length = 4 := by rw [List.length_take, List.length_drop]; omega
  have of4 : ∀ m : List UInt8, m.length = 4 → hiA m = 0 ∧ loA m = num m ∧ verA m = 4 ∧ okA m = true := by
    intro m hm
    refine ⟨?_, ?_, ?_, ?_⟩
    · unfold hiA; rw [if_neg (by omega)]
    · unfold loA; rw [if_pos hm]
    · unfold verA; rw [if_pos hm]
    · unfold okA; simp [hm]
  have O1 := fun w => refOf10 ((l.drop 12).take 4) (by omega) w
  have O2 := fun w => refOf10 ((l.drop 16).take 4) (by omega) w
  rw [(of4 _ m1).1, (of4 _ m1).2.1, (of4 _ m1).2.2.1, (of4 _ m1).2.2.2] at O1
  rw [(of4 _ m2).1, (of4 _ m2).2.1, (of4 _ m2).2.2.1, (of4 _ m2).2.2.2] at O2
  unfold wholeP av Hd.cells at *
  have w6 : ((twoA l 6 : Nat) : Int) % 8192 = ((twoA l 6 % 8192 : Nat) : Int) := by omega
  have w7 : (((twoA l 6 : Nat) : Int) / 8192 % 2 == 1) = decide (twoA l 6 / 8192 % 2 = 1) := by
    rw [show ((twoA l 6 : Nat) : Int) / 8192 % 2 = ((twoA l 6 / 8192 % 2 : Nat) : Int) by omega]
    by_cases h : twoA l 6 / 8192 % 2 = 1
    · simp [h]
    · rw [decide_eq_false h]; simp; omega
  have O1 := Lib.hid O1
  have O2 := Lib.hid O2
  generalize num ((l.drop 12).take 4) = n1 at *
  generalize num ((l.drop 16).take 4) = n2 at *
  generalize (l.drop 12).take 4 = q12 at *
  generalize (l.drop 16).take 4 = q16 at *
  generalize decide (twoA l 6 / 8192 % 2 = 1) = mo at *
  generalize twoA l 6 % 8192 = o6 at *
  generalize twoA l 6 = t6 at *
  generalize sumA (l.take (startP l)) = sm at *
  generalize l.take (startP l) = lt' at *
  generalize byteAt l 9 = b9 at *
  generalize startP l = st at *
  generalize twoA l 2 = t2 at *
  generalize byteAt l 0 = b0 at *
  have hl20 : 20 ≤ l.length := by omega
  have hl16 : 16 ≤ l.length := by omega
  have hi20 : (20 : Int) ≤ (l.length : Int) := by omega
  have hi16 : (16 : Int) ≤ (l.length : Int) := by omega
  clear e1 e2 h20 h22 h23 h6 h24 m1 m2 of4
  go_enter Tryd.func39, Tryd.ntmps39
  go_upto_region 5 with fail
  generalize w.alloc (.cells #[.int .u64 0, .int .u64 0, .int .u64 0, .int .u64 0, .int .i64 0, .int .i64 0, .int .i64 0, .int .i64 0, .bool false] 31) = w1 at *
  refine wp_region_cls (wd := w1) (by kernel_rfl) (by kernel_rfl) ((Touch.refl _ _).drew) ?_
  repeat (first | go_big_quiet_step ((go_at_call 29; with_reducible exact Calls.cls_at (TW.out _))) | quiet_step ((go_at_call 29; with_reducible exact Calls.cls_at (TW.out _))))
  refine wpQuiet_nil ?_
  rintro _ ⟨y, rfl⟩
  have TY := Lib.hid (T0.out.trans y.property (by simp))
  have BQ := Lib.hid (BR.out.carry y.property (by simp))
  generalize y.val = w2 at *
  go_wp2_with fail
  refine (SU.out _).mono ?_
  rintro e w2 ⟨rfl, rfl⟩
  go_wp2_with fail
  refine (O1.out _).mono ?_
  rintro e w3 ⟨rfl, t3⟩
  have T3 := Lib.hid ((TY.out.trans t3 (by simp)).alloc (.cells #[.int .u64 0, .int .u64 (n1 : Int)] 25))
  have B3 := Lib.hid (BQ.out.carry (t3.alloc (.cells #[.int .u64 0, .int .u64 (n1 : Int)] 25)) (by simp))
  have X3 := Lib.hid (BoxV.new w3 25 #[.int .u64 0, .int .u64 (n1 : Int)])
  clear t3 TY BQ
  go_wp2_with fail
  refine (O2.out _).mono ?_
  rintro e w4 ⟨rfl, t4⟩
  have T4 := Lib.hid ((T3.out.trans t4 (by simp)).alloc (.cells #[.int .u64 0, .int .u64 (n2 : Int)] 25))
  have B4 := Lib.hid (B3.out.carry (t4.alloc (.cells #[.int .u64 0, .int .u64 (n2 : Int)] 25)) (by simp))
  have X4 := Lib.hid (X3.out.carry (t4.alloc (.cells #[.int .u64 0, .int .u64 (n2 : Int)] 25)) (by simp))
  have Y4 := Lib.hid (BoxV.new w4 25 #[.int .u64 0, .int .u64 (n2 : Int)])
  clear t4 T3 B3 X3
  go_wp2_with fail
  refine (TW6.out _).mono ?_
  rintro e w5 ⟨rfl, hq⟩
  subst hq
  go_upto_region 15 with fail
  generalize w4.alloc (.cells #[.int .u64 0, .int .u64 (n2 : Int)] 25) = w6' at *
  have a0 : ∀ x : Cls w6', x.val.cell? ⟨w3.heap.size, 0, none⟩ = some (.int .u64 0) := fun x => (X4.out.carry x.property (by simp)).cell 0
  have a1 : ∀ x : Cls w6', x.val.cell? ⟨w3.heap.size, 1, none⟩ = some (.int .u64 (n1 : Int)) := fun x => (X4.out.carry x.property (by simp)).cell 1
  have c0 : ∀ x : Cls w6', x.val.cell? ⟨w4.heap.size, 0, none⟩ = some (.int .u64 0) := fun x => (Y4.out.carry x.property (by simp)).cell 0
  have c1 : ∀ x : Cls w6', x.val.cell? ⟨w4.heap.size, 1, none⟩ = some (.int .u64 (n2 : Int)) := fun x => (Y4.out.carry x.property (by simp)).cell 1
  refine wp_region_tail (wd := w6') 14 (by kernel_rfl) (by kernel_rfl) ((Touch.refl _ _).drew) ?_
  simp only [List.take_succ_cons, List.take_zero, List.drop_succ_cons, List.drop_zero]
  repeat (first | go_big_quiet_step (fail) | quiet_step (fail))
  refine wpQuiet_nil ?_
  intro z
  have BZ := B4.out.carry z.property (by simp)
  have fz := BZ.fr
  have r0 := BZ.cell 0
  have r1 := BZ.cell 1
  have r2 := BZ.cell 2
  have r3 := BZ.cell 3
  have r4 := BZ.cell 4
  have r5 := BZ.cell 5
  have r6 := BZ.cell 6
  have r7 := BZ.cell 7
  have r8 := BZ.cell 8
  have ltq := BZ.lt
  have HB := Lib.hid BZ
  have TZ := Lib.hid (T4.out.trans z.property (by simp))
  clear BZ a0 a1 c0 c1
  go_wp2_with fail
  refine bodyPost_ret (ret_box_tmp rfl rfl (HB.out.fill9 (.int .u64 0) (.int .u64 (n1 : Int)) (.int .u64 0) (.int .u64 (n2 : Int)) (.int .i64 (b9 : Int)) (.int .i64 (st : Int)) (.int .i64 (t2 : Int)) (.int .i64 (o6 : Int)) (.bool mo)) Tryd.underlying31 rfl (by kernel_rfl)) rfl ⟨rfl, TZ.out.trans (touch_fill9 z.val w.heap.size (.int .u64 0) (.int .u64 (n1 : Int)) (.int .u64 0) (.int .u64 (n2 : Int)) (.int .i64 (b9 : Int)) (.int .i64 (st : Int)) (.int .i64 (t2 : Int)) (.int .i64 (o6 : Int)) (.bool mo)) (by simp)⟩
end Go.Proofs.YtdpaiegojioimaaDoor
