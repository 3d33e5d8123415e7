/-
  Layer 18 (tree): a tree in memory; Len, above, Level, Leaf.
-/
import Derived.Test.YtcfogoepoghedaaClassRight
import Derived.Test.YtcfogoepoghedaaIds
import Derived.Test.YtcfogoepoghedaaTreeMath
import Derived.Test.YtcfogoepoghedaaBoxV
import Derived.Test.YtcfogoepoghedaaWhole
namespace Go.Proofs.Ytcfogoepoghedaa
open Go.ChangeShapes Go.WideShapes Go.ChangeAt Go.RowKit Go.Deep Go.Maps
set_option linter.unusedVariables false
set_option linter.unusedSimpArgs false
theorem ret_box_one {P : Program} {fn : Func} {s s2 : Tmp} {t : TypeId} {tmps : Array Value} {w : World} {b : Nat} {T : TypeId} {cs : Array Value} {d : TypeDesc} {v2 : Value} (h : fn.results = #[.cell s t, .tmp s2]) (hx : tmps.getD s undef = .pointer (some ⟨b, 0, none⟩)) (hB : BoxV w b T cs)
    (hu : P.underlying t = some d) (hd : d.isRow = true) (hi : (P.info? t).map (·.size) = some cs.size) (h2 : tmps.getD s2 undef = v2) : (results fn tmps).run P w = .ok (.tuple #[.agg cs, v2]) w := by
  have L := run_loadVar_mid (P := P) w b 0 t cs.toList d hB.range hu hd (by simpa using hi)
  rw [Array.toArray_toList] at L
  have hx' : tmps[s]?.getD undef = .pointer (some ⟨b, 0, none⟩) := by simpa using hx
  have h2' : tmps[s2]?.getD undef = v2 := by simpa using h2
  simp [results, h, hx', h2', asAddr, L]
/-- Where a tree lies: its box, its maps; from where on the lists of children do. -/
structure TB where
  p : Nat
  bC : Nat
  bK : Nat
  bL : Nat
  base : Nat
/-- What a tree holds: the root, the classes, the slices of children and what is in them, the levels. -/
structure TD where
  root : Int
  C : Int → Option Cl
  V : Int → Option Value
  K : Int → List Int
  Lm : Int → Option Int
def clsV (C : Int → Option Cl) : Int → Option Value := fun i => (C i).map fun c => .agg c.cells
def lvV (L : Int → Option Int) : Int → Option Value := fun i => (L i).map fun x => .int .i64 x
structure TreeAt (w : World) (b : TB) (d : TD) (sC sK sL : Nat) : Prop where
  box : BoxV w b.p 51 #[.int .i64 d.root, .map (some b.bC), .map (some b.bK), .map (some b.bL)]
  cls : IMap Try.prog 3 w b.bC sC (clsV d.C)
  kids : IMap Try.prog 3 w b.bK sK d.V
  lvs : IMap Try.prog 3 w b.bL sL (lvV d.Lm)
  rows : ∀ i v, d.V i = some v → w.ownsRow b.base 3 1 v (d.K i).length (zv (d.K i))
  none : ∀ i, d.V i = none → d.K i = []
  apart : ∀ i j u v, i ≠ j → d.V i = some u → d.V j = some v → ∀ g, u.ownBlock = some g → v.ownBlock ≠ some g
  low : b.p < b.base ∧ b.bC < b.base ∧ b.bK < b.base ∧ b.bL < b.base
  ne : b.bC ≠ b.bK ∧ b.bC ≠ b.bL ∧ b.bK ≠ b.bL
def zeroC : Cl := ⟨0, 0, 0, 0, 0, 0, 0, 0, 0, false, false⟩
def clsOf (C : Int → Option Cl) (i : Int) : Cl := (C i).getD zeroC
def upC (C : Int → Option Cl) (i : Int) : Int := (clsOf C i).parent
theorem cl_all (c : Cl) : c.cells.all (·.oneCell') = true := all_oneCell_toArray (cs := c.cells.toList) (by intro u hu; simp [Cl.cells] at hu; rcases hu with rfl | rfl | rfl | rfl | rfl | rfl | rfl | rfl | rfl | rfl | rfl <;> rfl)
theorem zero_class (w : World) : (zeroValue 36).run Try.prog w = .ok (.agg zeroC.cells) w := by kernel_rfl
theorem zero_ints (w : World) : (zeroValue 31).run Try.prog w = .ok (.slice none 0 0) w := by kernel_rfl
theorem zero_int (w : World) : (zeroValue 3).run Try.prog w = .ok (.int .i64 0) w := by kernel_rfl
section
variable {w w' : World} {b : TB} {d : TD} {sC sK sL : Nat}
theorem TreeAt.new (h : TreeAt w b d sC sK sL) (t : Touch [] w w') : TreeAt w' b d sC sK sL :=
  ⟨h.box.carry t (by simp), h.cls.carry t (by simp), h.kids.carry t (by simp), h.lvs.carry t (by simp), fun i v hv => t.row (h.rows i v hv) (by simp), h.none, h.apart, h.low, h.ne⟩
theorem TreeAt.cells (h : TreeAt w b d sC sK sL) : w.cell? ⟨b.p, 0, Option.none⟩ = some (.int .i64 d.root) ∧ w.cell? ⟨b.p, 1, Option.none⟩ = some (.map (some b.bC)) ∧ w.cell? ⟨b.p, 2, Option.none⟩ = some (.map (some b.bK)) ∧ w.cell? ⟨b.p, 3, Option.none⟩ = some (.map (some b.bL)) :=
  ⟨h.box.cell 0, h.box.cell 1, h.box.cell 2, h.box.cell 3⟩
theorem TreeAt.look (h : TreeAt w b d sC sK sL) (id : Int) (hi : i64k id) : (Instr.lookup 47 (.map (some b.bC)) (.int .i64 id) false).run Try.prog w = .ok (.agg (clsOf d.C id).cells) w := by
  have := h.cls.look Try.underlying3 Try.underlying47 (zero_class w) hi
  rw [this]
  unfold clsV clsOf
  cases d.C id <;> rfl
theorem TreeAt.look_ok (h : TreeAt w b d sC sK sL) (id : Int) (hi : i64k id) : (Instr.lookup 47 (.map (some b.bC)) (.int .i64 id) true).run Try.prog w = .ok (.tuple #[.agg (clsOf d.C id).cells, .bool (d.C id).isSome]) w := by
  have := h.cls.look_ok Try.underlying3 Try.underlying47 (zero_class w) hi
  rw [this]
  unfold clsV clsOf
  cases d.C id <;> rfl
theorem TreeAt.lookL (h : TreeAt w b d sC sK sL) (id : Int) (hi : i64k id) : (Instr.lookup 49 (.map (some b.bL)) (.int .i64 id) false).run Try.prog w = .ok (.int .i64 ((d.Lm id).getD 0)) w := by
  have := h.lvs.look Try.underlying3 Try.underlying49 (zero_int w) hi
  rw [this]
  unfold lvV
  cases d.Lm id <;> rfl
/-- What a look-up in the children's map hands back: a slice that holds them. -/
theorem TreeAt.lookK (h : TreeAt w b d sC sK sL) (id : Int) (hi : i64k id) : ∃ A c, (d.V id).getD (.slice Option.none 0 0) = .slice A (d.K id).length c ∧ w.ownsRow b.base 3 1 (.slice A (d.K id).length c) (d.K id).length (zv (d.K id)) ∧
    (Instr.lookup 48 (.map (some b.bK)) (.int .i64 id) false).run Try.prog w = .ok (.slice A (d.K id).length c) w := by
  have hl := h.kids.look Try.underlying3 Try.underlying48 (zero_ints w) hi
  cases hv : d.V id with
  | none =>
    have hk := h.none id hv
    rw [hv] at hl
    refine ⟨Option.none, 0, by rw [hk]; rfl, ?_, by rw [hk]; exact hl⟩
    rw [hk]
    exact ⟨rfl, .inl ⟨rfl, rfl⟩⟩
  | some v =>
    have hr := h.rows id v hv
    obtain ⟨A, c, rfl⟩ := rowForm hr
    rw [hv] at hl
    exact ⟨A, c, rfl, hr, hl⟩
theorem tree_len (h : TreeAt w b d sC sK sL) : Calls Try.prog 8 #[.pointer (some ⟨b.p, 0, Option.none⟩)] w fun e w' => e = .returned (.int .i64 (sC : Int)) ∧ w' = w := by
  obtain ⟨c0, c1, c2, c3⟩ := h.cells
  have lp := h.box.lt
  have hl := fun ty => h.cls.len (ty := ty) Try.underlying47
  clear h
  go_enter Try.func8, Try.ntmps8
  go_wp2_with fail
  go_ret
  exact ⟨rfl, rfl⟩
theorem tree_root (h : TreeAt w b d sC sK sL) : Calls Try.prog 9 #[.pointer (some ⟨b.p, 0, Option.none⟩)] w fun e w' => e = .returned (.int .i64 d.root) ∧ w' = w := by
  obtain ⟨c0, c1, c2, c3⟩ := h.cells
  have lp := h.box.lt
  clear h
  go_enter Try.func9, Try.ntmps9
  go_wp2_with fail
  go_ret
  exact ⟨rfl, rfl⟩
set_option maxRecDepth 100000 in
theorem tree_above (h : TreeAt w b d sC sK sL) (id : Int) (hi : i64k id) : Calls Try.prog 36 #[.pointer (some ⟨b.p, 0, Option.none⟩), .int .i64 id] w fun e w' => e = .returned (.int .i64 (upC d.C id)) ∧ w' = w := by
  obtain ⟨c0, c1, c2, c3⟩ := h.cells
  have lp := h.box.lt
  have kl := h.look id hi
  unfold upC
  generalize clsOf d.C id = c at *
  unfold Cl.cells at kl
  have fl : ∀ w, (Instr.field 36 (.agg #[.int .i64 c.id, .int .i64 c.parent, .float .f64 c.share, .int .i64 c.prio, .int .i64 c.quantum, .int .i64 c.limit, .int .i64 c.weight, .int .i64 c.minIdle, .int .i64 c.maxIdle, .bool c.bounded, .bool c.isolated]) 1).run Try.prog w = .ok (.int .i64 c.parent) w := fun w => by kernel_rfl
  clear h
  go_enter Try.func36, Try.ntmps36
  go_wp2_with fail
  go_ret
  exact ⟨rfl, rfl⟩
theorem tree_level (h : TreeAt w b d sC sK sL) (id : Int) (hi : i64k id) : Calls Try.prog 22 #[.pointer (some ⟨b.p, 0, Option.none⟩), .int .i64 id] w fun e w' => e = .returned (.int .i64 ((d.Lm id).getD 0)) ∧ w' = w := by
  obtain ⟨c0, c1, c2, c3⟩ := h.cells
  have lp := h.box.lt
  have kl := h.lookL id hi
  clear h
  go_enter Try.func22, Try.ntmps22
  go_wp2_with fail
  go_ret
  exact ⟨rfl, rfl⟩
set_option maxRecDepth 100000 in
set_option maxHeartbeats 3200000 in
/-- Class: what comes back, as a pair. -/
theorem tree_class (h : TreeAt w b d sC sK sL) (id : Int) (hi : i64k id) : Calls Try.prog 16 #[.pointer (some ⟨b.p, 0, Option.none⟩), .int .i64 id] w fun e w' => e = .returned (.tuple #[.agg (clsOf d.C id).cells, .bool (d.C id).isSome]) ∧ Touch [] w w' := by
  have t1 : Touch [] w (w.alloc (.cells #[.int .i64 0, .int .i64 0, .float .f64 0, .int .i64 0, .int .i64 0, .int .i64 0, .int .i64 0, .int .i64 0, .int .i64 0, .bool false, .bool false] 36)) := (Touch.refl [] w).alloc _
  have h1 := h.new t1
  obtain ⟨c0, c1, c2, c3⟩ := h1.cells
  have lp := h1.box.lt
  have kl := h1.look_ok id hi
  have R := Lib.hid (BoxV.new w 36 #[.int .i64 0, .int .i64 0, .float .f64 0, .int .i64 0, .int .i64 0, .int .i64 0, .int .i64 0, .int .i64 0, .int .i64 0, .bool false, .bool false])
  have T1 := Lib.hid t1
  generalize eC : clsOf d.C id = c at *
  generalize eO : (d.C id).isSome = ok at *
  have AL := Lib.hid (cl_all c)
  obtain ⟨x0, x1, x2, x3, x4, x5, x6, x7, x8, x9, x10⟩ := c
  unfold Cl.cells at kl AL ⊢
  simp only at kl AL ⊢
  have sf : ∀ (w : World) (a : Addr) (b : Nat), (store a (.float .f64 b)).run Try.prog w = stored Try.prog w a (.float .f64 b) .plain := fun w a b => run_store _ w a _ _ rfl
  clear h h1 t1 eC eO
  go_enter Try.func16, Try.ntmps16
  go_upto_region 3 with fail
  generalize w.alloc (.cells #[.int .i64 0, .int .i64 0, .float .f64 0, .int .i64 0, .int .i64 0, .int .i64 0, .int .i64 0, .int .i64 0, .int .i64 0, .bool false, .bool false] 36) = w1 at *
  generalize eg : w.heap.size = g at *
  have lg := Nat.le_of_eq eg
  go_upto_region 4 with fail
  have Q := Lib.hid (BoxV.new w1 36 #[.int .i64 x0, .int .i64 x1, .float .f64 x2, .int .i64 x3, .int .i64 x4, .int .i64 x5, .int .i64 x6, .int .i64 x7, .int .i64 x8, .bool x9, .bool x10])
  have R2 := Lib.hid (R.out.carry ((Touch.refl [] w1).alloc (.cells #[.int .i64 x0, .int .i64 x1, .float .f64 x2, .int .i64 x3, .int .i64 x4, .int .i64 x5, .int .i64 x6, .int .i64 x7, .int .i64 x8, .bool x9, .bool x10] 36)) (by simp))
  have T2 := Lib.hid (T1.out.alloc (.cells #[.int .i64 x0, .int .i64 x1, .float .f64 x2, .int .i64 x3, .int .i64 x4, .int .i64 x5, .int .i64 x6, .int .i64 x7, .int .i64 x8, .bool x9, .bool x10] 36))
  clear kl c0 c1 c2 c3 lp R T1
  generalize w1.alloc (.cells #[.int .i64 x0, .int .i64 x1, .float .f64 x2, .int .i64 x3, .int .i64 x4, .int .i64 x5, .int .i64 x6, .int .i64 x7, .int .i64 x8, .bool x9, .bool x10] 36) = w2 at *
  generalize w1.heap.size = q at *
  have HR := Lib.hid Q.out.range
  go_wp2_with (first
    | (refine wpList_load_mid rfl 36 (.tmp 6) rfl q 0 rfl [.int .i64 x0, .int .i64 x1, .float .f64 x2, .int .i64 x3, .int .i64 x4, .int .i64 x5, .int .i64 x6, .int .i64 x7, .int .i64 x8, .bool x9, .bool x10] _ HR.out Try.underlying36 rfl (by kernel_rfl) ?_)
    | (refine wpList_store_mid rfl 36 (.tmp 4) (.tmp 20) rfl g 0 #[.int .i64 x0, .int .i64 x1, .float .f64 x2, .int .i64 x3, .int .i64 x4, .int .i64 x5, .int .i64 x6, .int .i64 x7, .int .i64 x8, .bool x9, .bool x10] rfl rfl (R2.out.thereW 0 11 (by simp)) (by kernel_rfl) AL.out ?_))
  exact bodyPost_ret (ret_box_one (t := 36) Try.results16 rfl (R2.out.wholeW #[.int .i64 x0, .int .i64 x1, .float .f64 x2, .int .i64 x3, .int .i64 x4, .int .i64 x5, .int .i64 x6, .int .i64 x7, .int .i64 x8, .bool x9, .bool x10] rfl) Try.underlying36 rfl (by kernel_rfl) (v2 := .bool ok) rfl) rfl ⟨rfl, T2.out.trans (touch_cellsW _ _ _) (fun b hb => by simp at hb; subst hb; exact .inr lg)⟩
end
end Go.Proofs.Ytcfogoepoghedaa
