/-
  The contracts on which the law's proof rests, bound together in build order: Base, Mem, Bytes, Bytes2, Put, PutVar, RefPut, RefPut2, Cls, Reply, Box, Try, Reader, Reader2, FloatMath, FloatOps, Share, Ints, OctWrite, Var, VarBack.
-/
import Derived.Test.YtdpaiegojioimaaDoorRows
import Derived.WalkKit
import Derived.ProofKit
import Derived.OpenShut
import Derived.ShutString
import Derived.ChangeOld
import Derived.Below
import Derived.Carry
import Derived.Lib.Hide
import Derived.Deep.Slices
import Derived.Deep.Fields
import Derived.ChangeArms
import Derived.Deep.OwnRows
import Derived.Maps.AppendAt
import Derived.Deep.AppendLies
import Derived.Lib.AppendZerosOnto
import Derived.Deep.Upon
import Derived.Deep.LoopGhost
import Derived.OwnWalk
import Derived.IntWalk
import Derived.Laws.BitsAllLaws
import Derived.Deep.RegionWith
import Derived.Deep.RegionHeld3
import Derived.Deep.QuietTactic
import Derived.BigQuiet
import Derived.StillTail
import Derived.Defers
import Derived.Recover
import Derived.Laws.Pointers
import Derived.LaidEqlPtr
import Derived.Laws.FloatArith
import Derived.WalkLawsBesides
/-
  What every law's proof of this project shares: a law's row follows from one contract on calls: the law returns true and turns nothing that was there before the call.
-/
namespace Go.Proofs.YtdpaiegojioimaaDoor
open Go.ChangeShapes Go.WideShapes Go.ChangeAt Go.RowKit

theorem own : ownKnob Tryd.prog.godebug = none := by kernel_rfl
theorem laidOut : laidOutB Tryd.prog = true := by kernel_rfl
theorem boolType : Tryd.prog.underlying 4 = some .bool := by kernel_rfl

section
variable {H : Type} {enc : TypeId × Value → H} {P : Program}

/-- All that was read of the arguments lies in old blocks. -/
theorem places_old {W : World} : ∀ {ts : List TypeId} {vs : List Value} {ds : List (DataW H)} {p : List MemPlace},
    DataW.TrodAll enc P W 0 (fun _ => true) true ts vs ds p → ∀ x ∈ p, x.block < W.heap.size
  | [], [], [], _, h => by simp only [DataW.TrodAll] at h; subst h; simp
  | _ :: _, _ :: _, _ :: _, _, h => by
    simp only [DataW.TrodAll] at h
    obtain ⟨p, q, ⟨m, hm⟩, hr, rfl⟩ := h
    intro x hx
    rcases List.mem_append.1 hx with hx | hx
    · exact DataW.trod_lt m _ _ _ hm x hx
    · exact places_old hr x hx
  | [], [], _ :: _, _, h => by simp [DataW.TrodAll] at h
  | [], _ :: _, _, _, h => by simp [DataW.TrodAll] at h
  | _ :: _, [], _, _, h => by simp [DataW.TrodAll] at h
  | _ :: _, _ :: _, [], _, h => by simp [DataW.TrodAll] at h

/-- Where nothing old has turned, the arguments read as they did. -/
theorem args_again (hl : laidOutB P = true) {W W' : World} (hb : Below W.heap.size W W') : ∀ {ts : List TypeId} {vs : List Value} {ds : List (DataW H)} {p : List MemPlace},
    (∀ t ∈ ts, P.readableRec t = true ∧ t < P.types.size) → DataW.TrodAll enc P W 0 (fun _ => true) true ts vs ds p → DataW.TrodAll enc P W' 0 (fun b => decide (b < W.heap.size)) true ts vs ds p
  | [], [], [], _, _, h => h
  | t :: _, _ :: _, _ :: _, _, ht, h => by
    simp only [DataW.TrodAll] at h ⊢
    obtain ⟨p, q, ⟨m, hm⟩, hr, rfl⟩ := h
    obtain ⟨h1, h2⟩ := ht t (by simp)
    exact ⟨p, q, Below.trod hl h1 h2 ⟨m, hm⟩ hb (DataW.trod_lt m _ _ _ hm), args_again hl hb (fun u hu => ht u (by simp [hu])) hr, rfl⟩
  | [], [], _ :: _, _, _, h => by simp [DataW.TrodAll] at h
  | [], _ :: _, _, _, _, h => by simp [DataW.TrodAll] at h
  | _ :: _, [], _, _, _, h => by simp [DataW.TrodAll] at h
  | _ :: _, _ :: _, [], _, _, h => by simp [DataW.TrodAll] at h

theorem trod_length {W : World} : ∀ {ts : List TypeId} {vs : List Value} {ds : List (DataW H)} {p : List MemPlace},
    DataW.TrodAll enc P W 0 (fun _ => true) true ts vs ds p → ds.length = ts.length
  | [], [], [], _, _ => rfl
  | _ :: _, _ :: _, _ :: _, _, h => by
    simp only [DataW.TrodAll] at h
    obtain ⟨_, _, _, hr, _⟩ := h
    simp [trod_length hr]
  | [], [], _ :: _, _, h => by simp [DataW.TrodAll] at h
  | [], _ :: _, _, _, h => by simp [DataW.TrodAll] at h
  | _ :: _, [], _, _, h => by simp [DataW.TrodAll] at h
  | _ :: _, _ :: _, [], _, h => by simp [DataW.TrodAll] at h

/-- The contract that a law's row asks for. -/
def LawCalls (P : Program) (f : FuncId) (fn : Func) : Prop :=
  ∀ (H : Type) (enc : TypeId × Value → H) (W : World) (base : Nat) (args : Array Value) (ds : List (DataW H)) (p : List MemPlace),
    (∀ (j : Nat) (t : TypeId) (v : Value), fn.params[j]? = some t → args[j]? = some v → Value.okWide P W .any base t v) →
    DataW.TrodAll enc P W 0 (fun _ => true) true fn.params.toList args.toList ds p → (∀ x ∈ p, x.block < W.heap.size) →
    Calls P f args W fun e W' => e = .returned (.bool true) ∧ Below W.heap.size W W'

theorem law_contract {f : FuncId} {fn : Func} {s : ChangeSpec} {bt : TypeId} (hl : laidOutB P = true) (hread : (fn.params.toList.all fun t => P.readableRec t && decide (t < P.types.size)) = true)
    (hvars : s.vars = []) (hres : fn.resultTypes = #[bt]) (hbt : P.underlying bt = some .bool)
    (hspec : ∀ ds : List (DataW H), ds.length = fn.params.toList.length → s.fn H ds = { results := [.lit (.bool true)], args := ds })
    (hcall : LawCalls P f fn) (W : World) (base : Nat) (args : Array Value) (ds gs : List (DataW H)) (before : List MemPlace)
    (hval : ∀ (j : Nat) t v, fn.params[j]? = some t → args[j]? = some v → Value.okWide P W .any base t v)
    (hW : DataW.Whole enc P fn.params.toList s.vars false W args.toList ds gs before) :
    Calls P f args W fun e W' => ∃ v, e = .returned v ∧ s.post enc P fn false true false false W args v W' := by
  have hW' := hW
  obtain ⟨p, q, hA, hV, rfl, hfz, hnd⟩ := hW
  rw [hvars] at hV
  obtain ⟨rfl, rfl⟩ := trodVars_none hV
  refine (hcall H enc W base args ds p hval hA (places_old hA)).mono fun e W' ⟨he, hb⟩ => ?_
  subst he
  have hsp := hspec ds (trod_length hA)
  refine ⟨_, rfl, ds, [], _, [], p, [], hW', ?_, ?_, ?_, hb.frame _, fun h => by cases h⟩
  · rw [List.append_nil, hsp, hres]
    exact trodAll_mk1 (shut_bool hbt true)
  · rw [List.append_nil, hsp]
    refine args_again hl hb (fun t ht => ?_) hA
    have := List.all_eq_true.1 hread t ht
    simpa using this
  · rw [List.append_nil, hsp, hvars]
    rfl

theorem cell_lt {w : World} {a : Addr} {v : Value} (h : w.cell? a = some v) : a.block < w.heap.size := by
  rcases Nat.lt_or_ge a.block w.heap.size with hl | hg
  · exact hl
  · rw [World.cell?, Array.getElem?_eq_none hg] at h
    cases h

/-- An argument that is a slice: its shape, and for each element its cells and its own reading. -/
theorem slice_elems {W : World} {base : Nat} {sp : Nat → Bool} {t e : TypeId} {v : Value} {d : DataW H} {p : List MemPlace} {r : Reach} {b0 : Nat} (ht : P.underlying t = some (.slice e)) (hC : 0 < P.cellsOf e)
    (hv : Value.okWide P W r b0 t v) (h : DataW.Trod enc P W base sp true t v d p) :
    ∃ (A : Option Addr) (len cap : Nat), v = .slice A len cap ∧ len ≤ cap ∧ cap ≤ maxLen ∧ ∀ i, i < len → ∃ (b off n : Nat) (cs : List Value) (x : DataW H × List MemPlace), A = some ⟨b, off, none⟩ ∧ b < W.heap.size ∧
      cs.length = P.cellsOf e ∧ (∀ j, j < P.cellsOf e → W.cell? ⟨b, off + i * P.cellsOf e + j, none⟩ = cs[j]?) ∧ DataW.trod enc P W base sp true n e cs = some x := by
  obtain ⟨A, len, cap, rfl⟩ := okWide_slice ht hv
  refine ⟨A, len, cap, rfl, ?_⟩
  obtain ⟨fuel, hf⟩ := h
  rcases Deep.open_slice ht hf with ⟨hcs, _⟩ | ⟨a, l, c, m, n, D, Pl, hcs, _, hl, hm, hmm, _, hi⟩
  · simp [Value.cells] at hcs
    obtain ⟨rfl, rfl, rfl⟩ := hcs
    exact ⟨Nat.le_refl _, Nat.zero_le _, fun i hi => absurd hi (Nat.not_lt_zero _)⟩
  · simp [Value.cells] at hcs
    obtain ⟨rfl, rfl, rfl⟩ := hcs
    refine ⟨hl, hm, fun i hlt => ?_⟩
    have him : i < m := by rw [hmm]; split <;> omega
    obtain ⟨cs, hc, hx⟩ := hi i him
    obtain ⟨_, hlen, hat⟩ := World.cells?_some hc
    obtain ⟨b, off, spot⟩ := a
    have h0 := hat 0 hC
    rw [List.getElem?_eq_getElem (by omega)] at h0
    have hspot : spot = none := by
      obtain ⟨cs0, hc0, _⟩ := hi 0 (by omega)
      obtain ⟨_, hl0, ha0⟩ := World.cells?_some hc0
      have h00 := ha0 0 hC
      rw [List.getElem?_eq_getElem (by omega)] at h00
      simpa [Addr.add] using World.cell?_spot h00
    subst hspot
    refine ⟨b, off, n, cs, _, rfl, ?_, hlen, fun j hj => ?_, hx⟩
    · have := cell_lt h0
      simpa [add_plain] using this
    · have := hat j hj
      rwa [add_plain, add_plain] at this

/-- The fields of a struct of one-cell fields, each by its cell and its reading. -/
theorem one_fields {W : World} {base : Nat} {sp : Nat → Bool} {e : TypeId} {fs : Array Field} {n : Nat} {cs : List Value} {x : DataW H × List MemPlace} (he : P.underlying e = some (.struct fs)) (hone : Deep.oneCellFields P fs = true)
    (hlen : cs.length = fs.size) (hx : DataW.trod enc P W base sp true n e cs = some x) (j : Nat) (f : Field) (hj : fs[j]? = some f) : ∃ u m y, cs[j]? = some u ∧ DataW.trod enc P W base sp true m f.type [u] = some y := by
  obtain ⟨ys, m, _, _, _, hyl, hf⟩ := DataW.trod_struct he hx
  obtain ⟨ho, hk⟩ := Deep.hone_of hone j f hj
  have hlt : j < fs.size := (Array.getElem?_eq_some_iff.1 hj).1
  have hg := hf j f hj
  rw [ho, hk, List.drop_eq_getElem_cons (by omega), List.take_succ_cons, List.take_zero, List.getElem?_eq_getElem (by omega)] at hg
  exact ⟨_, m, _, List.getElem?_eq_getElem (by omega), hg⟩

/-- An argument that is a slice of such structs. -/
theorem slice_structs {W : World} {base : Nat} {sp : Nat → Bool} {t e : TypeId} {fs : Array Field} {v : Value} {d : DataW H} {p : List MemPlace} {r : Reach} {b0 : Nat} (ht : P.underlying t = some (.slice e)) (he : P.underlying e = some (.struct fs))
    (hone : Deep.oneCellFields P fs = true) (hC : P.cellsOf e = fs.size) (hpos : 0 < fs.size) (hv : Value.okWide P W r b0 t v) (h : DataW.Trod enc P W base sp true t v d p) :
    ∃ (A : Option Addr) (len cap : Nat), v = .slice A len cap ∧ len ≤ cap ∧ cap ≤ maxLen ∧ ∀ i, i < len → ∃ (b off : Nat), A = some ⟨b, off, none⟩ ∧ b < W.heap.size ∧
      ∀ (j : Nat) (f : Field), fs[j]? = some f → ∃ u m y, W.cell? ⟨b, off + i * fs.size + j, none⟩ = some u ∧ DataW.trod enc P W base sp true m f.type [u] = some y := by
  obtain ⟨A, len, cap, hv', hl, hm, hi⟩ := slice_elems ht (by omega) hv h
  refine ⟨A, len, cap, hv', hl, hm, fun i hlt => ?_⟩
  obtain ⟨b, off, n, cs, x, hA, hb, hlen, hat, hx⟩ := hi i hlt
  refine ⟨b, off, hA, hb, fun j f hj => ?_⟩
  have hjl : j < fs.size := (Array.getElem?_eq_some_iff.1 hj).1
  obtain ⟨u, m, y, hu, hy⟩ := one_fields he hone (by omega) hx j f hj
  have := hat j (by omega)
  rw [hC, hu] at this
  exact ⟨u, m, y, this, hy⟩

theorem cell_int {W : World} {base : Nat} {sp : Nat → Bool} {t : TypeId} {k : IntKind} {u : Value} {m : Nat} {y : DataW H × List MemPlace} (ht : P.underlying t = some (.int k)) (h : DataW.trod enc P W base sp true m t [u] = some y) :
    ∃ n, u = .int k n ∧ (Lit.int k n).wf = true := by
  obtain ⟨n, hu, _, hw⟩ := DataW.trod_int ht h
  exact ⟨n, by simpa using hu, hw⟩
theorem cell_bool {W : World} {base : Nat} {sp : Nat → Bool} {t : TypeId} {u : Value} {m : Nat} {y : DataW H × List MemPlace} (ht : P.underlying t = some .bool) (h : DataW.trod enc P W base sp true m t [u] = some y) :
    ∃ n, u = .bool n := by
  obtain ⟨n, hu, _⟩ := DataW.trod_bool ht h
  exact ⟨n, by simpa using hu⟩
end

/-- A number of kind int, as the walks want it. -/
theorem i64_in {n : Int} (h : (Lit.int .i64 n).wf = true) : -9223372036854775808 ≤ n ∧ n ≤ 9223372036854775807 := by
  simpa [Lit.wf, IntKind.min, IntKind.max, IntKind.signed, IntKind.bits] using h
theorem u8_in {n : Int} (h : (Lit.int .u8 n).wf = true) : 0 ≤ n ∧ n ≤ 255 := by
  simpa [Lit.wf, IntKind.min, IntKind.max, IntKind.signed, IntKind.bits] using h
theorem u64_in {n : Int} (h : (Lit.int .u64 n).wf = true) : 0 ≤ n ∧ n ≤ 18446744073709551615 := by
  simpa [Lit.wf, IntKind.min, IntKind.max, IntKind.signed, IntKind.bits] using h

theorem ret_int {k : IntKind} {a b : Int} (h : a = b) : Ending.returned (.int k a) = .returned (.int k b) := by rw [h]
theorem ret_bool {a b : Bool} (h : a = b) : Ending.returned (.bool a) = .returned (.bool b) := by rw [h]
theorem bnext {w w1 w2 : World} (h : Below w.heap.size w w1) (k : Below w1.heap.size w1 w2) : Below w.heap.size w w2 := h.trans (k.mono h.size)
end Go.Proofs.YtdpaiegojioimaaDoor

/-
  Memory that the call itself made and that methods write: a frame by blocks, and rows of integers.
-/
namespace Go.Proofs.YtdpaiegojioimaaDoor
open Go.ChangeShapes Go.WideShapes Go.ChangeAt Go.RowKit Go.Deep
set_option linter.unusedVariables false

/-- Only the blocks of S, and new ones, may have turned. -/
structure Touch (S : List Nat) (w w' : World) : Prop where
  os : w'.os = w.os
  tape : w'.tape = w.tape
  output : w'.output = w.output
  size : w.heap.size ≤ w'.heap.size
  block : ∀ b, b < w.heap.size → b ∉ S → w'.heap[b]? = w.heap[b]?

namespace Touch
variable {S S' : List Nat} {w w' w'' : World}
theorem refl (S : List Nat) (w : World) : Touch S w w := ⟨rfl, rfl, rfl, Nat.le_refl _, fun _ _ _ => rfl⟩
theorem trans (h : Touch S w w') (k : Touch S' w' w'') (hS : ∀ b ∈ S', b ∈ S ∨ w.heap.size ≤ b) : Touch S w w'' :=
  ⟨k.os.trans h.os, k.tape.trans h.tape, k.output.trans h.output, Nat.le_trans h.size k.size, fun b hb hn =>
    (k.block b (Nat.lt_of_lt_of_le hb h.size) (fun hm => by rcases hS b hm with h1 | h1 <;> first | exact hn h1 | omega)).trans (h.block b hb hn)⟩
theorem mono (h : Touch S w w') (hS : ∀ b ∈ S, b ∈ S' ∨ w.heap.size ≤ b) : Touch S' w w' := (Touch.refl S' w).trans h hS
theorem drew (h : Touch S w w') : Touch S w w'.drew := ⟨h.os, h.tape, h.output, h.size, h.block⟩
theorem alloc (h : Touch S w w') (o : Obj) : Touch S w (w'.alloc o) :=
  h.trans (S' := []) ⟨rfl, rfl, rfl, by rw [nblk_alloc]; omega, fun b hb _ => blk_alloc_lt _ _ _ hb⟩ (by simp)
theorem setCell (h : Touch S w w') {a : Addr} (ha : a.block ∈ S ∨ w.heap.size ≤ a.block) (v : Value) : Touch S w (w'.setCell a v) :=
  h.trans (S' := [a.block]) ⟨rfl, rfl, rfl, by rw [nblk_setCell]; exact Nat.le_refl _, fun b _ hb => blk_setCell_other _ _ _ _ (by simpa using hb)⟩ (by simpa using ha)
theorem grown {row : Option Nat} (h : Touch S w w') (hg : w'.grownBy w'' row) (hr : ∀ k, row = some k → k ∈ S ∨ w.heap.size ≤ k) : Touch S w w'' :=
  h.trans (S' := row.toList) ⟨hg.os, hg.tape, hg.output, hg.size, fun b hb hn => hg.block b hb (fun e => hn (by rw [← e]; simp))⟩ (fun b hb => hr b (by simpa using hb))
theorem below {B : Nat} (h : Touch S w w') (hS : ∀ b ∈ S, B ≤ b) (hB : B ≤ w.heap.size) : Below B w w' :=
  ⟨h.os, h.tape, h.output, h.size, fun b hb => h.block b (by omega) (fun hm => by have := hS b hm; omega)⟩
theorem ofBelow (h : Below w.heap.size w w') : Touch S w w' := ⟨h.os, h.tape, h.output, h.size, fun b hb _ => h.block b hb⟩
theorem cell (h : Touch S w w') {a : Addr} (ha : a.block < w.heap.size) (hn : a.block ∉ S) : w'.cell? a = w.cell? a := World.cell?_of_block (w := w) (h.block _ ha hn)
theorem frozen (h : Touch S w w') {a : Addr} (ha : a.block < w.heap.size) (hn : a.block ∉ S) : w'.frozen? a = w.frozen? a := World.frozen?_of_block (w := w) (h.block _ ha hn)
end Touch

section
variable {w w' : World} {base : Nat} {e : TypeId} {size : Nat} {v : Value} {n : Nat} {xs : List Value}
theorem own_lt (h : w.ownsRow base e size v n xs) {g : Nat} (hg : v.ownBlock = some g) : g < w.heap.size := by
  rcases h.2 with ⟨rfl, _⟩ | ⟨g', cap, cur, rfl, _, hh, _⟩
  · simp [Value.ownBlock] at hg
  · simp [Value.ownBlock] at hg
    subst hg
    exact (Array.getElem?_eq_some_iff.1 hh).1
theorem own_of_block (h : w.ownsRow base e size v n xs) (hb : ∀ g, v.ownBlock = some g → w'.heap[g]? = w.heap[g]?) : w'.ownsRow base e size v n xs := by
  rcases h.2 with ⟨rfl, rfl⟩ | ⟨g', cap, cur, rfl, h1, hh, h2⟩
  · exact ⟨h.1, .inl ⟨rfl, rfl⟩⟩
  · exact ⟨h.1, .inr ⟨g', cap, cur, rfl, h1, (hb g' rfl).trans hh, h2⟩⟩
theorem Touch.row {S : List Nat} (t : Touch S w w') (h : w.ownsRow base e size v n xs) (hn : ∀ g, v.ownBlock = some g → g ∉ S) : w'.ownsRow base e size v n xs :=
  own_of_block h fun g hg => t.block g (own_lt h hg) (hn g hg)
theorem own_shrink {g cap m : Nat} (h : w.ownsRow base e size (.slice (some ⟨g, 0, none⟩) n cap) n xs) (hm : m ≤ n) : w.ownsRow base e size (.slice (some ⟨g, 0, none⟩) m cap) m (xs.take (m * size)) := by
  have hl := h.1
  have hms : m * size ≤ n * size := Nat.mul_le_mul_right _ hm
  rcases h.2 with ⟨h', _⟩ | ⟨g', cap', cur, h', h1, hh, h2, h3, h4, h5⟩
  · simp at h'
  · simp only [Value.slice.injEq, Option.some.injEq, Addr.mk.injEq, and_true, true_and] at h'
    obtain ⟨rfl, rfl⟩ := h'
    refine ⟨by rw [List.length_take]; omega, .inr ⟨g, cap, cur, rfl, h1, hh, by omega, h3, h4, ?_⟩⟩
    rw [← h5, List.take_take, Nat.min_eq_left hms]
theorem own_cap {g cap : Nat} (h : w.ownsRow base e size (.slice (some ⟨g, 0, none⟩) n cap) n xs) : n ≤ cap ∧ cap ≤ maxLen := by
  rcases h.2 with ⟨h', _⟩ | ⟨g', cap', cur, h', h1, hh, h2, h3, h4, h5⟩
  · simp at h'
  · simp only [Value.slice.injEq, Option.some.injEq, Addr.mk.injEq, and_true, true_and] at h'
    obtain ⟨rfl, rfl⟩ := h'
    exact ⟨h2, h3⟩
end

/-! ### Rows of integers -/
def upd (f : Nat → Int) (i : Nat) (x : Int) : Nat → Int := fun j => if j = i then x else f j
theorem upd_same (f : Nat → Int) (i : Nat) (x : Int) : upd f i x i = x := if_pos rfl
theorem upd_other (f : Nat → Int) {i j : Nat} (x : Int) (h : j ≠ i) : upd f i x j = f j := if_neg h
def iv (f : Nat → Int) (n : Nat) : List Value := (List.range n).map fun i => .int .i64 (f i)
theorem iv_length (f : Nat → Int) (n : Nat) : (iv f n).length = n := by simp [iv]
theorem iv_get (f : Nat → Int) {n i : Nat} (h : i < n) : (iv f n)[i]? = some (.int .i64 (f i)) := by simp [iv, h]
theorem iv_set (f : Nat → Int) (n i : Nat) (x : Int) : (iv f n).set i (.int .i64 x) = iv (upd f i x) n := by
  apply List.ext_getElem?
  intro j
  by_cases hj : j < n
  · rw [iv_get _ hj, List.getElem?_set]
    by_cases e : i = j
    · subst e
      simp [iv_length, hj, upd_same]
    · rw [if_neg e, iv_get _ hj, upd_other _ _ (Ne.symm e)]
  · rw [List.getElem?_eq_none (by simp [iv_length]; omega), List.getElem?_eq_none (by simp [iv_length]; omega)]
theorem iv_take (f : Nat → Int) {n m : Nat} (h : m ≤ n) : (iv f n).take m = iv f m := by
  unfold iv
  rw [← List.map_take, List.take_range, Nat.min_eq_left h]
theorem iv_congr {f f' : Nat → Int} {n : Nat} (h : ∀ i, i < n → f i = f' i) : iv f n = iv f' n := by
  unfold iv
  apply List.map_congr_left
  intro i hi
  rw [h i (List.mem_range.1 hi)]
theorem iv_succ (f : Nat → Int) (n : Nat) (x : Int) : iv f n ++ [.int .i64 x] = iv (upd f n x) (n + 1) := by
  have h : iv f n = iv (upd f n x) n := iv_congr fun i hi => (upd_other _ _ (by omega)).symm
  rw [h]
  unfold iv
  rw [List.range_succ, List.map_append]
  simp [upd_same]
theorem iv_next' (f : Nat → Int) (n : Nat) : iv f (n + 1) = iv f n ++ [.int .i64 (f n)] := by unfold iv; rw [List.range_succ, List.map_append]; rfl
theorem iv_one (f : Nat → Int) (n : Nat) : ∀ u ∈ iv f n, u.oneCell' = true := by
  intro u hu
  simp [iv] at hu
  obtain ⟨_, _, rfl⟩ := hu
  rfl
end Go.Proofs.YtdpaiegojioimaaDoor

/-
  Rows of bytes: what a slice of bytes holds; slices.Grow and slices.Concat at bytes.
-/
namespace Go.Proofs.YtdpaiegojioimaaDoor
open Go.ChangeShapes Go.WideShapes Go.ChangeAt Go.RowKit Go.Deep
set_option linter.unusedVariables false

theorem byte_info : (Tryd.prog.info? 5).map (fun i => (i.zero, i.size, i.bytes)) = some (some (.int .u8 0), 1, 1) := by kernel_rfl
def byt (l : List UInt8) : List Value := l.map fun b => .int .u8 (b.toNat : Int)
theorem byt_length (l : List UInt8) : (byt l).length = l.length := by simp [byt]
theorem byt_append (l m : List UInt8) : byt (l ++ m) = byt l ++ byt m := by simp [byt]
theorem byt_one (l : List UInt8) : ∀ u ∈ byt l, u.oneCell' = true := by
  intro u hu
  simp [byt] at hu
  obtain ⟨_, _, rfl⟩ := hu
  rfl

/-- The slice v holds the bytes l. -/
def Bts (w : World) (v : Value) (l : List UInt8) : Prop :=
  ∃ A c, v = .slice A l.length c ∧ l.length ≤ c ∧ c ≤ maxLen ∧ (A = none → l = []) ∧ ∀ ad, A = some ad → ∀ j u, (byt l)[j]? = some u → w.cell? (ad.add j) = some u
theorem Bts.nil (w : World) : Bts w (.slice none 0 0) [] := ⟨none, 0, rfl, Nat.le_refl _, by unfold maxLen; omega, fun _ => rfl, fun _ h => by cases h⟩
theorem Bts.carry {w w' : World} {v : Value} {l : List UInt8} {S : List Nat} (h : Bts w v l) (t : Touch S w w') (hS : ∀ b ∈ S, w.heap.size ≤ b) : Bts w' v l := by
  obtain ⟨A, c, h1, h2, h3, h4, h5⟩ := h
  refine ⟨A, c, h1, h2, h3, h4, fun ad ha j u hu => ?_⟩
  have := h5 ad ha j u hu
  have hlt := cell_lt this
  exact (t.cell hlt (fun hm => by have := hS _ hm; omega)).trans this
theorem Bts.own {w : World} {base : Nat} {v : Value} {l : List UInt8} (h : w.ownsRow base 5 1 v l.length (byt l)) : Bts w v l := by
  rcases h.2 with ⟨rfl, hl⟩ | ⟨g, cap, cur, rfl, h1, hh, h2, h3, h4, h5⟩
  · have : l = [] := by simpa [byt] using hl
    subst this
    exact Bts.nil w
  · refine ⟨some ⟨g, 0, none⟩, cap, rfl, h2, h3, fun e => by simp at e, fun ad ha j u hu => ?_⟩
    obtain rfl : ⟨g, 0, none⟩ = ad := by simpa using ha
    exact h.cells (g := g) rfl j u hu
/-- The value is a fresh row of these bytes. -/
def Fresh (w : World) (l : List UInt8) (e : Ending) (w' : World) : Prop := ∃ v, e = .returned v ∧ w'.ownsRow w.heap.size 5 1 v l.length (byt l) ∧ Touch [] w w'

set_option maxRecDepth 100000 in
theorem grow_bytes (n : Nat) (hn : n ≤ 1000000000) (w : World) : Calls Tryd.prog 113 #[.slice none 0 0, .int .i64 (n : Int)] w (Fresh w []) := by
  obtain ⟨i0, hi0, hz0, hz1, hz2⟩ := info_parts byte_info
  by_cases h0 : n = 0
  · subst h0
    go_enter Tryd.func113, Tryd.ntmps113
    go_wp2
    go_ret
    exact ⟨_, rfl, World.ownsRow_nil _ _ _ _, Touch.refl _ _⟩
  · have hr := fun ty => Lib.run_append_nil_zeros (P := Tryd.prog) w 89 3 ty 5 i0 (.int .u8 0) .i64 .i64 Tryd.underlying89 Tryd.underlying3 hi0 hz0 n (by omega) (by omega) (by omega) (by rw [hz2]; omega)
    have f1 : ¬ ((n : Int) < 0) := by omega
    have f2 : (0 : Int) < (n : Int) := by omega
    obtain ⟨C, hC⟩ : ∃ C, C = Builtin.zeroCells (Value.int .u8 0).cells n ++ Builtin.zeroCells (Value.int .u8 0).cells (grownCap w n 0 5 - n) := ⟨_, rfl⟩
    rw [← hC] at hr
    have hg := grownCap_ge w n 0 5
    have hg2 : grownCap w n 0 5 ≤ maxLen := grownCap_le_maxLen w n 0 5 (by unfold maxLen; omega)
    have hCs : C.size = grownCap w n 0 5 * 1 := by
      rw [hC]
      simp [Builtin.zeroCells, Value.cells]
      omega
    have F := Lib.hid (show (w.drew.alloc (.cells C 5)).ownsRow w.heap.size 5 1 (.slice (some ⟨w.heap.size, 0, none⟩) 0 (grownCap w n 0 5)) 0 [] from World.ownsRow_made w.drew C _ (Nat.le_refl _) hg2 hCs)
    generalize grownCap w n 0 5 = G at *
    have k1 : (0 : Int) ≤ (G : Int) := by omega
    clear hC hCs
    go_enter Tryd.func113, Tryd.ntmps113
    go_wp2_with (at_builtin; refine Lib.wpList_append_run _ rfl (.tmp 20) (.tmp 21) 89 3 rfl (.slice none 0 0) (.int .i64 n) rfl (by first | rfl | simp [go_sem]) _ _ (hr _) ?_)
    go_ret
    exact ⟨_, rfl, F.out, ((Touch.refl [] w).drew).alloc _⟩
end Go.Proofs.YtdpaiegojioimaaDoor

/-
  append of bytes, and slices.Concat.
-/
namespace Go.Proofs.YtdpaiegojioimaaDoor
open Go.ChangeShapes Go.WideShapes Go.ChangeAt Go.RowKit Go.Deep
set_option linter.unusedVariables false

theorem own_shape {w : World} {base : Nat} {e : TypeId} {size : Nat} {v : Value} {n : Nat} {xs : List Value} (h : w.ownsRow base e size v n xs) : ∃ A cap, v = .slice A n cap ∧ n ≤ cap ∧ cap ≤ maxLen ∧ ∀ g, v.ownBlock = some g → base ≤ g := by
  rcases h.2 with ⟨rfl, hn⟩ | ⟨g, cap, cur, rfl, hg, hh, h2, h3, h4, h5⟩
  · refine ⟨none, 0, ?_, ?_, by unfold maxLen; omega, fun g hg => by simp [Value.ownBlock] at hg⟩
    · simp [hn]
    · omega
  · refine ⟨some ⟨g, 0, none⟩, cap, rfl, h2, h3, fun g' hg' => ?_⟩
    simp [Value.ownBlock] at hg'
    omega
theorem own_touch {W w w' : World} {e : TypeId} {size : Nat} {v : Value} {n : Nat} {xs : List Value} (h : w.ownsRow W.heap.size e size v n xs) (t : Touch [] W w) (hg : w.grownBy w' v.ownBlock) : Touch [] W w' :=
  t.grown hg fun k hk => by
    obtain ⟨_, _, _, _, _, h1⟩ := own_shape h
    exact Or.inr (h1 k hk)

/-- append of bytes onto a row of the call's own. -/
theorem run_append_bts {w : World} {base : Nat} {v : Value} {m : List UInt8} (ty : TypeId) (hown : w.ownsRow base 5 1 v m.length (byt m)) {vx : Value} {l : List UInt8} (hb : Bts w vx l) (hlen : m.length + l.length ≤ 1000000000) (hbase : base ≤ w.heap.size) :
    ∃ v' w', (Builtin.append_ #[89, 89] ty #[v, vx]).run Tryd.prog w = .ok v' w' ∧ w'.ownsRow base 5 1 v' (m ++ l).length (byt (m ++ l)) ∧ w.grownBy w' v.ownBlock := by
  obtain ⟨i0, hi0, hz0, hz1, hz2⟩ := info_parts byte_info
  obtain ⟨A, c, rfl, h1, h2, h3, h4⟩ := hb
  rw [List.length_append, byt_append]
  cases A with
  | none =>
    obtain rfl := h3 rfl
    obtain ⟨A', c', hv, hle, _, _⟩ := own_shape hown
    subst hv
    refine ⟨.slice A' m.length c', w, run_append_nothing w 89 89 ty 5 i0 Tryd.underlying89 hi0 A' m.length c' hle (.slice none 0 c) (by rw [hz1]; exact Src.ofNil _ Tryd.underlying89 c), ?_, ?_⟩
    · simpa [byt] using hown
    · exact ⟨rfl, rfl, rfl, Nat.le_refl _, fun _ _ _ => rfl⟩
  | some ad =>
    obtain ⟨v', w', hr, q1, q2, q3⟩ := run_append_own (P := Tryd.prog) w base 89 ty 5 i0 (.int .u8 0) 1 1 Tryd.underlying89 hi0 hz0 hz1 hz2 rfl (by decide) v m.length (byt m) hown ad l.length c (byt l) (by simp [byt]) (h4 ad rfl) (byt_one l) (by unfold maxLen; omega) (by omega) hbase
    exact ⟨v', w', hr, q1, q2⟩

theorem wpList_append_bts {w : World} {ops : Array Oper} {rest : List Oper} {o : Oper} {a : Act} {Q : Exit → Act → World → Prop} (hgd : o.guard = none) (s x : Operand) (ho : o.op = .call { callee := .builtin .append, args := #[s, x], argTypes := #[89, 89] })
    {base : Nat} (v : Value) (m : List UInt8) (hs : a.eval s = v) (hown : w.ownsRow base 5 1 v m.length (byt m)) (vx : Value) (l : List UInt8) (hx : a.eval x = vx) (hb : Bts w vx l) (hlen : m.length + l.length ≤ 1000000000) (hbase : base ≤ w.heap.size)
    (h : ∀ v' w', w'.ownsRow base 5 1 v' (m ++ l).length (byt (m ++ l)) → w.grownBy w' v.ownBlock → wpList Tryd.prog ops Q rest (a.put o.dst v') w') : wpList Tryd.prog ops Q (o :: rest) a w := by
  obtain ⟨v', w', hr, q1, q2⟩ := run_append_bts o.type hown hb hlen hbase
  exact Lib.wpList_append_run w hgd s x 89 89 ho v vx hs hx v' w' hr (h v' w' q1 q2)

set_option maxHeartbeats 1000000 in
set_option maxRecDepth 100000 in
theorem concat_bytes {w : World} {g n c : Nat} {vs : Nat → Value} {ls : Nat → List UInt8} {F : Nat → List UInt8} (hc : n ≤ c) (hn : n ≤ 10) (hrow : ∀ i, i < n → w.cell? ⟨g, i, none⟩ = some (vs i)) (hB : ∀ i, i < n → Bts w (vs i) (ls i))
    (hF0 : F 0 = []) (hF : ∀ k, k < n → F (k + 1) = F k ++ ls k) (hsum : ∀ k, k ≤ n → (F k).length ≤ 100000000) :
    Calls Tryd.prog 105 #[.slice (some ⟨g, 0, none⟩) n c] w (Fresh w (F n)) := by
  have HR := Lib.hid hrow
  have HB := Lib.hid hB
  have HF := Lib.hid hF
  have HS := Lib.hid hsum
  have H0 := Lib.hid hF0
  have G := Lib.hid (grow_bytes (F n).length (by have := hsum n (Nat.le_refl _); omega) w)
  clear hrow hB hF hsum hF0
  go_enter Tryd.func105, Tryd.ntmps105
  go_wp2_with fail
  go_loop [3, 11] (fun x y => ∃ k : Nat, k ≤ n ∧ y = .int .i64 k ∧ x = .int .i64 ((F k).length : Nat)) (fun _ y => n - (intOf y).toNat)
  case atStart => exact ⟨0, Nat.zero_le _, rfl, by rw [H0.out]; rfl⟩
  case round =>
    obtain ⟨k, hk, rfl, rfl⟩ := hrel
    by_cases hlt : k < n
    · have hcell := HR.out k hlt
      obtain ⟨A, c', hv, b1, b2, _, _⟩ := HB.out k hlt
      rw [hv] at hcell
      have hs := HS.out (k + 1) (by omega)
      have hf := HF.out k hlt
      rw [hf, List.length_append] at hs
      have E : Hid (((F (k + 1)).length : Int) = (F k).length + (ls k).length) := Lib.hid (by rw [hf, List.length_append]; omega)
      clear hf hv
      generalize (F k).length = a at *
      generalize hl : (ls k).length = b at *
      have z : ¬ ((a : Int) + (b : Int) < 0) := by omega
      go_wp2_with fail
      refine ⟨⟨k + 1, by omega, by go_num, by rw [E.out]⟩, ?_⟩
      simp [intOf]; omega
    · obtain rfl : k = n := by omega
      go_wp2_with fail
      refine (G.out).mono ?_
      rintro e w1 ⟨v, rfl, hown, ht⟩
      have S1 : w.heap.size ≤ w1.heap.size := ht.size
      clear G
      go_wp2_with fail
      go_loopw [6, 27] (fun x y wr => ∃ j : Nat, j ≤ k ∧ y = .int .i64 j ∧ wr.ownsRow w.heap.size 5 1 x (F j).length (byt (F j)) ∧ Touch [] w wr) (fun _ y _ => k - (intOf y).toNat)
      case atStart => exact ⟨0, Nat.zero_le _, rfl, by rw [H0.out]; exact hown, ht⟩
      case round =>
        obtain ⟨j, hj, rfl, hown', ht'⟩ := hrel
        by_cases hlt' : j < k
        · have hcell := HR.out j hlt'
          have hb := HB.out j hlt'
          have hcell' := (ht'.cell (cell_lt hcell) (by simp)).trans hcell
          have hb' := hb.carry ht' (by simp)
          have hs := HS.out (j + 1) (by omega)
          have hf := HF.out j hlt'
          rw [hf, List.length_append] at hs
          have E := Lib.hid hf
          have HO := Lib.hid hown'
          have HT := Lib.hid ht'
          have lb : g < wr.heap.size := cell_lt hcell'
          have S2 : w.heap.size ≤ wr.heap.size := ht'.size
          clear hf hcell hb hown' ht' hown ht
          generalize F j = m at *
          generalize ls j = l at *
          generalize vs j = vx at *
          go_wp2_with (at_builtin; refine wpList_append_bts rfl (.tmp 31) (.tmp 32) rfl u6 m rfl HO.out vx l rfl hb' (by omega) S2 ?_; intro v' w2 hown2 hgrow)
          have t2 := own_touch HO.out HT.out hgrow
          go_roundw
          case rel => exact ⟨j + 1, by omega, by go_num, by rw [E.out]; exact hown2, t2⟩
          case measure => simp [intOf]; omega
        · obtain rfl : j = k := by omega
          go_wp2_with fail
          go_ret
          exact ⟨_, rfl, hown', ht'⟩
end Go.Proofs.YtdpaiegojioimaaDoor

/-
  octets' put and what it is of (layer 9): numbers as bytes, the most significant one first.
-/
namespace Go.Proofs.YtdpaiegojioimaaDoor
open Go.ChangeShapes Go.WideShapes Go.ChangeAt Go.RowKit Go.Deep
set_option linter.unusedVariables false

/-- The low k bytes of u, the most significant one first. -/
def be (u : Nat) : Nat → List UInt8
  | 0 => []
  | k + 1 => UInt8.ofNat (u / 256 ^ k) :: be u k
theorem be_length (u k : Nat) : (be u k).length = k := by
  induction k with
  | zero => rfl
  | succ k ih => simp [be, ih]
theorem be_get (u : Nat) : ∀ (k i : Nat), i < k → (be u k)[i]? = some (UInt8.ofNat (u / 256 ^ (k - 1 - i)))
  | k + 1, 0, _ => by simp [be]
  | k + 1, i + 1, h => by
    rw [be, List.getElem?_cons_succ, be_get u k i (by omega)]
    congr 4
    omega
theorem be_next (u : Nat) : ∀ k, be u (k + 1) = be (u / 256) k ++ [UInt8.ofNat u]
  | 0 => by simp [be]
  | k + 1 => by
    rw [be, be_next u k, be]
    simp only [List.cons_append]
    rw [Nat.div_div_eq_div_mul, Nat.pow_succ, Nat.mul_comm (256 ^ k) 256]
theorem u8_nat (n : Nat) : ((UInt8.ofNat n).toNat : Int) = ((n % 256 : Nat) : Int) := by simp

/-- What lies at place i behind k rounds. -/
def putAt (u n k i : Nat) : Value := if n ≤ i + k then .int .u8 ((UInt8.ofNat (u / 256 ^ (n - 1 - i))).toNat : Int) else .int .u8 0

theorem sh8 (u k : Nat) : (u : Int) / 2 ^ (k * 8) % 256 = ((UInt8.ofNat (u / 256 ^ k)).toNat : Int) := by
  rw [u8_nat]
  have : (256 : Nat) ^ k = 2 ^ (k * 8) := by rw [Nat.mul_comm, Nat.pow_mul]
  rw [this, Int.natCast_emod, Int.natCast_ediv, Int.natCast_pow]
  rfl
theorem own_base {w : World} {base base' : Nat} {e : TypeId} {size n : Nat} {v : Value} {xs : List Value} (h : w.ownsRow base e size v n xs) (hb : base' ≤ base) : w.ownsRow base' e size v n xs := by
  rcases h.2 with h' | ⟨g, cap, cur, h1, h2, h3⟩
  · exact ⟨h.1, .inl h'⟩
  · exact ⟨h.1, .inr ⟨g, cap, cur, h1, Nat.le_trans hb h2, h3⟩⟩
/-- Concat of two slices that were just laid side by side. -/
theorem concat2 {w : World} {a b : Value} {l m : List UInt8} (ha : Bts w a l) (hb : Bts w b m) (hlen : l.length + m.length ≤ 100000000) :
    Calls Tryd.prog 105 #[.slice (some ⟨w.heap.size, 0, none⟩) 2 2] (w.alloc (.cells #[a, b] 89)) (Fresh w (l ++ m)) := by
  have t := (Touch.refl [] w).alloc (.cells #[a, b] 89)
  have h := concat_bytes (w := w.alloc (.cells #[a, b] 89)) (g := w.heap.size) (n := 2) (c := 2) (vs := fun i => if i = 0 then a else b) (ls := fun i => if i = 0 then l else m) (F := fun i => if i = 0 then [] else if i = 1 then l else l ++ m)
    (Nat.le_refl _) (by omega) (fun i hi => by
      rw [World.cell?_alloc_mark]
      match i, hi with
      | 0, _ => rfl
      | 1, _ => rfl) (fun i hi => by
      match i, hi with
      | 0, _ => exact ha.carry t (by simp)
      | 1, _ => exact hb.carry t (by simp)) rfl (fun k hk => by
      match k, hk with
      | 0, _ => simp
      | 1, _ => simp) (fun k hk => by
      match k, hk with
      | 0, _ => simp
      | 1, _ => simp; omega
      | 2, _ => simp; omega)
  refine h.mono ?_
  rintro e w' ⟨v, rfl, h1, h2⟩
  exact ⟨v, rfl, own_base h1 t.size, t.trans h2 (by simp)⟩
theorem concat3 {w : World} {a b c : Value} {l m n : List UInt8} (ha : Bts w a l) (hb : Bts w b m) (hc : Bts w c n) (hlen : l.length + m.length + n.length ≤ 100000000) :
    Calls Tryd.prog 105 #[.slice (some ⟨w.heap.size, 0, none⟩) 3 3] (w.alloc (.cells #[a, b, c] 89)) (Fresh w (l ++ m ++ n)) := by
  have t := (Touch.refl [] w).alloc (.cells #[a, b, c] 89)
  have h := concat_bytes (w := w.alloc (.cells #[a, b, c] 89)) (g := w.heap.size) (n := 3) (c := 3) (vs := fun i => if i = 0 then a else if i = 1 then b else c) (ls := fun i => if i = 0 then l else if i = 1 then m else n) (F := fun i => if i = 0 then [] else if i = 1 then l else if i = 2 then l ++ m else l ++ m ++ n)
    (Nat.le_refl _) (by omega) (fun i hi => by
      rw [World.cell?_alloc_mark]
      match i, hi with
      | 0, _ => rfl
      | 1, _ => rfl
      | 2, _ => rfl) (fun i hi => by
      match i, hi with
      | 0, _ => exact ha.carry t (by simp)
      | 1, _ => exact hb.carry t (by simp)
      | 2, _ => exact hc.carry t (by simp)) rfl (fun k hk => by
      match k, hk with
      | 0, _ => simp
      | 1, _ => simp
      | 2, _ => simp) (fun k hk => by
      match k, hk with
      | 0, _ => simp
      | 1, _ => simp; omega
      | 2, _ => simp; omega
      | 3, _ => simp; omega)
  refine h.mono ?_
  rintro e w' ⟨v, rfl, h1, h2⟩
  exact ⟨v, rfl, own_base h1 t.size, t.trans h2 (by simp)⟩

set_option maxHeartbeats 1000000 in
set_option maxRecDepth 100000 in
theorem put_bytes {w : World} {v : Value} {b : List UInt8} (hb : Bts w v b) (u n : Nat) (hu : u < 18446744073709551616) (hn : n ≤ 8) (hl : b.length ≤ 10000000) :
    Calls Tryd.prog 89 #[v, .int .u64 (u : Int), .int .i64 (n : Int)] w (Fresh w (b ++ be u n)) := by
  have hmk := fun w => run_make_row' (P := Tryd.prog) (w := w) 89 5 (.int .u8 0) 1 Tryd.underlying89 byte_info rfl .i64 .i64 n (by omega) (by omega)
  have HB := Lib.hid hb
  obtain ⟨A0, c0, rfl, _, _, _, _⟩ := hb
  go_enter Tryd.func89, Tryd.ntmps89
  go_wp2_with fail
  go_loopw [13] (fun y wr => ∃ k : Nat, k ≤ n ∧ y = .int .i64 k ∧ wr.rowIs w.heap.size 5 n (putAt u n k) ∧ Touch [] w wr) (fun y _ => n - (intOf y).toNat)
  case atStart => exact ⟨0, Nat.zero_le _, rfl, (World.rowIs_made w (.int .u8 0) n 5).congr (fun i hi => by unfold putAt; rw [if_neg (by omega)]), (Touch.refl _ _).alloc _⟩
  case round =>
    obtain ⟨k, hk, rfl, hrow, ht⟩ := hrel
    by_cases hlt : k < n
    · obtain ⟨i, hi⟩ : ∃ i : Nat, n = i + 1 + k := ⟨n - 1 - k, by omega⟩
      have hx : (n : Int) - 1 - (k : Int) = (i : Int) := by omega
      have hfz := hrow.frozen i
      have hcell := hrow.cell (i := i) (by omega)
      have lb := hrow.lt
      have k8 : (k : Int) * 8 < 64 := by omega
      have HR := Lib.hid hrow
      go_wp2_with fail
      refine ⟨⟨k + 1, by omega, by go_num, (HR.out.set i _).congr (fun j hj => ?_), ht.setCell (Or.inr (Nat.le_refl _)) _⟩, by simp [intOf]; omega⟩
      unfold putAt
      by_cases e : j = i
      · subst e
        rw [if_pos rfl, if_pos (by omega), show n - 1 - j = k by omega, sh8]
      · rw [if_neg e]
        by_cases h : n ≤ j + k
        · rw [if_pos h, if_pos (by omega)]
        · rw [if_neg h, if_neg (by omega)]
    · obtain rfl : k = n := by omega
      have htail : Bts wr (.slice (some ⟨w.heap.size, 0, none⟩) k k) (be u k) := by
        refine ⟨_, k, by rw [be_length], by rw [be_length]; exact Nat.le_refl _, by unfold maxLen; omega, fun e => by simp at e, fun ad ha j x hx => ?_⟩
        obtain rfl : ⟨w.heap.size, 0, none⟩ = ad := by simpa using ha
        have hj : j < k := by
          have := (List.getElem?_eq_some_iff.1 hx).1
          rwa [byt_length, be_length] at this
        rw [show (⟨w.heap.size, 0, none⟩ : Addr).add j = ⟨w.heap.size, j, none⟩ by unfold Addr.add; split <;> simp_all, hrow.cell hj]
        unfold byt at hx
        rw [List.getElem?_map, be_get u k j hj] at hx
        simp only [Option.map_some] at hx
        rw [← hx]
        unfold putAt
        rw [if_pos (by omega)]
      have HT := Lib.hid ht
      have hb' := HB.out.carry ht (by simp)
      have C := Lib.hid (concat2 hb' htail (by rw [be_length]; omega))
      clear hb' htail hrow ht
      go_wp2_with fail
      refine (C.out).mono ?_
      rintro e w1 ⟨v1, rfl, hown, ht1⟩
      go_wp2_with fail
      go_ret
      exact ⟨_, rfl, own_base hown HT.out.size, HT.out.trans ht1 (by simp)⟩
end Go.Proofs.YtdpaiegojioimaaDoor

/-
  octets' PutU16, PutU32, PutU64 and PutVar (layer 9).
-/
namespace Go.Proofs.YtdpaiegojioimaaDoor
open Go.ChangeShapes Go.WideShapes Go.ChangeAt Go.RowKit Go.Deep
set_option linter.unusedVariables false

/-- A number of kind int as one of 64 bits without a sign. -/
def u64n (n : Int) : Nat := (n % 18446744073709551616).toNat
theorem u64n_cast (n : Int) : n % 18446744073709551616 = ((u64n n : Nat) : Int) := by unfold u64n; omega
theorem u64n_lt (n : Int) : u64n n < 18446744073709551616 := by unfold u64n; omega

theorem putU16_any {w : World} {v : Value} {b : List UInt8} (hb : Bts w v b) (n : Int) (hl : b.length ≤ 10000000) :
    Calls Tryd.prog 66 #[v, .int .i64 n] w (Fresh w (b ++ be (u64n n) 2)) := by
  have H := Lib.hid (put_bytes hb (u64n n) 2 (u64n_lt n) (by omega) hl)
  rw [← u64n_cast] at H
  obtain ⟨A0, c0, rfl, _, _, _, _⟩ := hb
  go_enter Tryd.func66, Tryd.ntmps66
  go_wp2_with fail
  refine (H.out).mono ?_
  rintro e w1 ⟨v1, rfl, hown, ht1⟩
  go_wp2_with fail
  go_ret
  exact ⟨_, rfl, hown, ht1⟩
theorem putU64_any {w : World} {v : Value} {b : List UInt8} (hb : Bts w v b) (n : Nat) (hn : n < 18446744073709551616) (hl : b.length ≤ 10000000) :
    Calls Tryd.prog 106 #[v, .int .u64 (n : Int)] w (Fresh w (b ++ be n 8)) := by
  have H := Lib.hid (put_bytes hb n 8 hn (by omega) hl)
  obtain ⟨A0, c0, rfl, _, _, _, _⟩ := hb
  go_enter Tryd.func106, Tryd.ntmps106
  go_wp2_with fail
  refine (H.out).mono ?_
  rintro e w1 ⟨v1, rfl, hown, ht1⟩
  go_wp2_with fail
  go_ret
  exact ⟨_, rfl, hown, ht1⟩

/-- The number of a number with a sign: twice it, or less twice it, less one. -/
def zz (n : Int) : Nat := if 0 ≤ n then (2 * n).toNat else (-2 * n - 1).toNat
/-- Seven bits a byte, the least significant ones first. -/
def varB (u : Nat) : List UInt8 := if h : u < 128 then [UInt8.ofNat u] else UInt8.ofNat (u % 128 + 128) :: varB (u / 128)
termination_by u
decreasing_by omega
theorem varB_small {u : Nat} (h : u < 128) : varB u = [UInt8.ofNat u] := by rw [varB, dif_pos h]
theorem varB_large {u : Nat} (h : ¬ u < 128) : varB u = UInt8.ofNat (u % 128 + 128) :: varB (u / 128) := by rw [varB, dif_neg h]
theorem pow128 {u k : Nat} (hu : u < 18446744073709551616) (h : 128 ≤ u / 128 ^ k) : k ≤ 8 := by
  rcases Nat.lt_or_ge 8 k with hk | hk
  · exfalso
    have h1 : 128 ^ 9 ≤ 128 ^ k := Nat.pow_le_pow_right (by omega) hk
    have h2 : u / 128 ^ k ≤ u / 128 ^ 9 := Nat.div_le_div_left h1 (by decide)
    have h3 : u / 128 ^ 9 ≤ 2 := by
      rw [show (128 : Nat) ^ 9 = 9223372036854775808 from rfl]
      omega
    omega
  · exact hk

theorem xor_ones (x : Nat) (hx : x < 18446744073709551616) : x ^^^ 18446744073709551615 = 18446744073709551615 - x := by
  apply Nat.eq_of_testBit_eq
  intro i
  have h1 : (18446744073709551615 : Nat) = 2 ^ 64 - 1 := rfl
  have h2 : (18446744073709551615 : Nat) - x = 2 ^ 64 - (x + 1) := by omega
  rw [Nat.testBit_xor, h2, Nat.testBit_two_pow_sub_succ (by omega), h1, Nat.testBit_two_pow_sub_one]
  by_cases hi : i < 64
  · simp [hi]
  · have : x.testBit i = false := Nat.testBit_lt_two_pow (Nat.lt_of_lt_of_le (show x < 2 ^ 64 by omega) (Nat.pow_le_pow_right (by omega) (by omega)))
    simp [hi, this]
theorem zz_bits (n : Int) (hn : -9223372036854775808 ≤ n ∧ n ≤ 9223372036854775807) :
    bits .xor .u64 (IntKind.u64.wrap (IntKind.u64.wrap n * 2)) (IntKind.u64.wrap (n / 9223372036854775808)) = ((zz n : Nat) : Int) := by
  rw [IntKind.wrap_u64, IntKind.wrap_u64, IntKind.wrap_u64]
  unfold zz
  by_cases h : 0 ≤ n
  · have e1 : (n % 18446744073709551616 * 2) % 18446744073709551616 = (((2 * n).toNat : Nat) : Int) := by omega
    have e2 : n / 9223372036854775808 % 18446744073709551616 = ((0 : Nat) : Int) := by omega
    rw [if_pos h, e1, e2, u64_xor_nat _ _ (by omega) (by omega), Nat.xor_zero]
  · have e1 : (n % 18446744073709551616 * 2) % 18446744073709551616 = (((2 * n + 18446744073709551616).toNat : Nat) : Int) := by omega
    have e2 : n / 9223372036854775808 % 18446744073709551616 = ((18446744073709551615 : Nat) : Int) := by omega
    rw [if_neg h, e1, e2, u64_xor_nat _ _ (by omega) (by omega), xor_ones _ (by omega)]
    omega
theorem zz_lt (n : Int) (hn : -9223372036854775808 ≤ n ∧ n ≤ 9223372036854775807) : zz n < 18446744073709551616 := by
  unfold zz
  split <;> omega
set_option maxRecDepth 100000 in
theorem or128 (x : Nat) : x % 256 ||| 128 = (UInt8.ofNat (x % 128 + 128)).toNat := by
  have h : ∀ y < 256, y ||| 128 = y % 128 + 128 := by decide
  rw [h _ (Nat.mod_lt _ (by omega))]
  simp
  omega

theorem or128' (q : Nat) : bits .or .u8 ((q : Int) % 256) 128 = ((UInt8.ofNat (q % 128 + 128)).toNat : Int) := by
  rw [show (q : Int) % 256 = ((q % 256 : Nat) : Int) by omega, show (128 : Int) = ((128 : Nat) : Int) from rfl, u8_or_nat _ _ (Nat.mod_lt _ (by omega)) (by omega), or128]
theorem Bts.lit (w : World) (x : UInt8) : Bts (w.alloc (.cells #[.int .u8 (x.toNat : Int)] 5)) (.slice (some ⟨w.heap.size, 0, none⟩) 1 1) [x] := by
  refine ⟨_, 1, rfl, Nat.le_refl _, by unfold maxLen; omega, fun e => by simp at e, fun ad ha j u hu => ?_⟩
  obtain rfl : ⟨w.heap.size, 0, none⟩ = ad := by simpa using ha
  exact cell_one_new w (.int .u8 (x.toNat : Int)) 5 j u hu

end Go.Proofs.YtdpaiegojioimaaDoor

/-
  Strings of bytes; the reference's PutNum and PutVar (layer 9).
-/
namespace Go.Proofs.YtdpaiegojioimaaDoor
open Go.ChangeShapes Go.WideShapes Go.ChangeAt Go.RowKit Go.Deep
set_option linter.unusedVariables false

/-- A string by its bytes. -/
def S (l : List UInt8) : ByteArray := ⟨l.toArray⟩
theorem S_size (l : List UInt8) : (S l).size = l.length := by show l.toArray.size = _; simp
theorem S_nil : (⟨#[]⟩ : ByteArray) = S [] := rfl
theorem bytes_loop (bs : ByteArray) (i : Nat) (r : List UInt8) : ByteArray.toList.loop bs i r = r.reverse ++ bs.data.toList.drop i := by
  unfold ByteArray.toList.loop
  split
  · rename_i h
    rw [bytes_loop bs (i + 1)]
    have hs : i < bs.data.toList.length := by simpa using h
    rw [List.drop_eq_getElem_cons hs]
    simp [ByteArray.get!]
    have hd : i < bs.data.size := h
    rw [getElem!_pos bs.data i hd]
  · rename_i h
    rw [List.drop_eq_nil_of_le (by simpa using h)]
    simp
termination_by bs.size - i
theorem bytes_toList (bs : ByteArray) : bs.toList = bs.data.toList := by
  unfold ByteArray.toList
  rw [bytes_loop]
  simp
theorem S_toList (l : List UInt8) : (S l).toList = l := by rw [bytes_toList]; unfold S; simp
theorem add_str (l m : List UInt8) (h : l.length + m.length ≤ 9223372036854775807) (w : World) : (Op.stringOp .add (S l) (S m)).run Tryd.prog w = .ok (.string (S (l ++ m))) w := by
  rw [run_string_add_sum w _ _ (by rw [S_size, S_size]; exact h)]
  unfold S
  rw [ByteArray.mk_append_mk]
theorem str_of {w : World} {v : Value} {l : List UInt8} (h : Bts w v l) : (convert 89 9 v).run Tryd.prog w = .ok (.string (S l)) w := by
  obtain ⟨A, c, rfl, _, _, h3, h4⟩ := h
  cases A with
  | none =>
    obtain rfl := h3 rfl
    rw [run_convert_bytes_string w 89 9 5 none _ c Tryd.underlying89 Tryd.underlying5 Tryd.underlying9]
    rfl
  | some a =>
    exact run_convert_bytes_back w 89 9 5 a c l Tryd.underlying89 Tryd.underlying5 Tryd.underlying9 (fun j hj => h4 a rfl j _ (by simp [byt, hj]))

theorem litStr (x : Int) (x8 : UInt8) (hx : x = (x8.toNat : Int)) (w : World) : Bts (w.alloc (.cells #[.int .u8 x] 5)) (.slice (some ⟨w.heap.size, 0, none⟩) 1 1) [x8] := by
  subst hx
  exact Bts.lit w x8

set_option maxHeartbeats 1000000 in
set_option maxRecDepth 100000 in
theorem refPutNum (n : Nat) : n ≤ 100 → ∀ (x : Nat), x < 18446744073709551616 → ∀ (w : World),
    Calls Tryd.prog 36 #[.int .u64 (x : Int), .int .i64 (n : Int)] w fun e w' => e = .returned (.string (S (be x n))) ∧ Touch [] w w' := by
  induction n with
  | zero =>
    intro hn x hx w
    go_enter Tryd.func36, Tryd.ntmps36
    go_wp2_with fail
    go_ret
    exact ⟨rfl, Touch.refl _ _⟩
  | succ n ih =>
    intro hn x hx w
    have IH := Lib.hid (fun w => ih (by omega) (x / 256) (by omega) w)
    clear ih
    rw [show ((x / 256 : Nat) : Int) = (x : Int) / 256 by omega] at IH
    have hlit := Lib.hid (litStr ((x : Int) % 256) (UInt8.ofNat x) (by rw [u8_nat]; omega))
    have hcv : ∀ w : World, (convert 89 9 (.slice (some ⟨w.heap.size, 0, none⟩) 1 1)).run Tryd.prog (w.alloc (.cells #[.int .u8 ((x : Int) % 256)] 5)) = .ok (.string (S [UInt8.ofNat x])) (w.alloc (.cells #[.int .u8 ((x : Int) % 256)] 5)) := fun w => str_of (hlit.out w)
    have hcd : ∀ w : World, (convert 89 9 (.slice (some ⟨w.heap.size, 0, none⟩) 1 1)).run Tryd.prog (w.alloc (.cells #[.int .u8 ((x : Int) % 256)] 5)).drew = .ok (.string (S [UInt8.ofNat x])) (w.alloc (.cells #[.int .u8 ((x : Int) % 256)] 5)).drew := fun w => str_of (w := (w.alloc (.cells #[.int .u8 ((x : Int) % 256)] 5)).drew) (hlit.out w)
    have hadd : ∀ w, (Op.stringOp .add (S (be (x / 256) n)) (S [UInt8.ofNat x])).run Tryd.prog w = .ok (.string (S (be (x / 256) n ++ [UInt8.ofNat x]))) w := fun w => add_str _ _ (by rw [be_length]; simp; omega) w
    rw [be_next]
    generalize be (x / 256) n = B at *
    generalize UInt8.ofNat x = x8 at *
    have f1 : IntKind.u64.wrap ((x : Int) / 256) = (x : Int) / 256 := by rw [IntKind.wrap_u64]; omega
    have f2 : IntKind.i64.wrap (n : Int) = (n : Int) := by rw [IntKind.wrap_i64]; omega
    have f3 : IntKind.u64.wrap ((x : Int) % 256) = (x : Int) % 256 := by rw [IntKind.wrap_u64]; omega
    have f4 : IntKind.u8.wrap ((x : Int) % 256) = (x : Int) % 256 := by rw [IntKind.wrap_u8]; omega
    have f5 : IntKind.u8.wrap ((x : Int).tmod 256) = (x : Int) % 256 := by rw [IntKind.wrap_u8, Int.tmod_eq_emod_of_nonneg (by omega)]; omega
    have n0 : ((n : Int) + 1 == 0) = false := by simp; omega
    go_enter Tryd.func36, Tryd.ntmps36
    go_wp2_with fail
    go_region_with (go_at_call 36; first | rw [f1, f2] | skip; refine (IH.out _).mono ?_; rintro e w1 ⟨rfl, t1⟩; try have hcv1 := str_of (Bts.carry (w := (w.alloc (.cells #[.int .u8 ((x : Int) % 256)] 5)).drew) (hlit.out w) t1 (by simp)))
    all_goals
      go_wp2_with fail
      go_ret
    all_goals first | exact ⟨rfl, ((Touch.refl [] w).drew.trans t1 (by simp)).alloc _⟩ | exact ⟨rfl, ((Touch.refl [] w).alloc _).drew.trans t1 (by simp)⟩
end Go.Proofs.YtdpaiegojioimaaDoor

/-
  The reference's PutVar (layer 9).
-/
namespace Go.Proofs.YtdpaiegojioimaaDoor
open Go.ChangeShapes Go.WideShapes Go.ChangeAt Go.RowKit Go.Deep
set_option linter.unusedVariables false

end Go.Proofs.YtdpaiegojioimaaDoor

/-
  Regions that draw their order, whose operations read memory and call functions that make new memory alone: one walk in the order of the text; and the same with a forced tail that writes.
-/
namespace Go.Proofs.YtdpaiegojioimaaDoor
open Go.ChangeShapes Go.WideShapes Go.ChangeAt Go.RowKit Go.Deep
set_option linter.unusedVariables false

/-- The worlds that differ from wd in new blocks alone: a class of worlds, by an index. -/
structure Cls (wd : World) where
  val : World
  property : Touch [] wd val
instance (wd : World) : Nonempty (Cls wd) := ⟨⟨wd, Touch.refl _ _⟩⟩
theorem wp_region_cls {P : Program} {id : Nat} {Q : Exit → Act → World → Prop} {a : Act} {w wd : World} {l : List Oper} (hm : P.follows .mixedOrders = true) (hB : Region.lexB .any l.toArray = true) (hC : Touch [] wd w.drew)
    (h : wpQuiet P l.toArray (fun w' => ∃ x : Cls wd, w' = x.val) (fun a' => ∀ w', (∃ x : Cls wd, w' = x.val) → Q .normal a' w') l a) : (Code.region id l.toArray true).wp P Q a w :=
  wp_region_quiet (C := fun w' => ∃ x : Cls wd, w' = x.val) hm hB ⟨⟨_, hC⟩, rfl⟩ (by simpa using h)
theorem Calls.cls_of {P : Program} {f : FuncId} {args : Array Value} {w wd : World} {v : Value} (h : Calls P f args w fun e w' => e = .returned v ∧ Touch [] wd w') : Calls P f args w fun e w'' => e = .returned v ∧ ∃ x : Cls wd, w'' = x.val :=
  h.mono fun _ _ ⟨he, t⟩ => ⟨he, ⟨_, t⟩, rfl⟩
/-- A call that makes new memory alone, at a world of the class. -/
theorem Calls.cls_at {P : Program} {f : FuncId} {args : Array Value} {wd : World} {v : Value} {x : Cls wd} (h : Calls P f args x.val fun e w' => e = .returned v ∧ Touch [] x.val w') : Calls P f args x.val fun e w'' => e = .returned v ∧ ∃ y : Cls wd, w'' = y.val :=
  Calls.cls_of (h.mono fun _ _ ⟨he, t⟩ => ⟨he, x.property.trans t (by simp)⟩)
/-- A call that leaves the world alone. -/
theorem Calls.cls_same {P : Program} {f : FuncId} {args : Array Value} {wd : World} {v : Value} {x : Cls wd} (h : Calls P f args x.val fun e w' => e = .returned v ∧ x.val = w') : Calls P f args x.val fun e w'' => e = .returned v ∧ ∃ y : Cls wd, w'' = y.val :=
  h.mono fun _ _ ⟨he, t⟩ => ⟨he, x, t.symm⟩

section
variable {P : Program} {ops : Array Oper} {md : Region.Mode} {C : World → Prop} {n g : Nat}

/-- f picks among the first n operations, whichever are ready, then L. -/
def Heads (P : Program) (md : Region.Mode) (ops : Array Oper) (C : World → Prop) (n : Nat) (L : Array Bool → Act → Prop) : Nat → Array Bool → Act → Prop
  | 0, s, a => L s a
  | f + 1, s, a => Region.ready md ops s ≠ [] ∧ ∀ i, i ∈ Region.ready md ops s → i < n ∧ qOp P ops C i (fun a' => Heads P md ops C n L f (s.setIfInBounds i true) a') a

theorem Heads.any {L : Array Bool → Act → Prop} {Q : Exit → Act → World → Prop} (hL : ∀ s a w, C w → L s a → wpAny P md ops Q g s a w) (f : Nat) : ∀ (s : Array Bool) (a : Act) (w : World), C w → Heads P md ops C n L f s a → wpAny P md ops Q (f + g) s a w := by
  induction f with
  | zero => intro s a w hw h; rw [Nat.zero_add]; exact hL s a w hw h
  | succ f ih =>
    intro s a w hw h
    rw [show f + 1 + g = f + g + 1 by omega]
    refine ⟨fun h0 => absurd h0 h.1, fun i hi => ?_⟩
    exact wpOp_of_qOp hw (fun a' w' hw' h' => ih _ a' w' hw' h') (h.2 i hi).2

/-- Of the first n operations one that is ready and apart from the others may be taken first. -/
theorem Heads.front {L : Array Bool → Act → Prop} {i : Nat} {o : Oper} {v : Value} (ho : ops[i]? = some o) (hsel : ∀ (j : Nat) (o : Oper) cs b, ops[j]? = some o → o.op ≠ .select cs b)
    (hs : Region.sinkB md ops n = true) (hc : Region.chainB md ops n = true) (hn : n < ops.size) (hin : i < n) (hL : ∀ s a, L s a → ∀ j ∈ Region.ready md ops s, n ≤ j) (f : Nat) :
    ∀ (s : Array Bool) (a : Act), HeadInv md ops n s →
      (∀ j oj, ops[j]? = some oj → j ≠ i → s.getD j true = false → (∀ e ∈ oj.after, Region.binds md e = true → e.on ≠ i) → o.apart ops oj = true) →
      i ∈ Region.ready md ops s → YieldsIn P ops C o v a → Heads P md ops C n L f (s.setIfInBounds i true) (a.put o.dst v) → Heads P md ops C n L (f + 1) s a := by
  induction f with
  | zero =>
    intro s a inv _ hr hy h
    refine ⟨List.ne_nil_of_mem hr, fun j hj => ?_⟩
    by_cases hji : j = i
    · subst hji
      exact ⟨hin, hy.qOp ho h⟩
    · have hge := hL _ _ h j (ready_mono hj hji)
      exact absurd hj (tail_waits hs hc hn inv _ i rfl hin (mem_ready.1 hr).1 j hge)
  | succ f ih =>
    intro s a inv hap hr hy h
    have hun := (mem_ready.1 hr).1
    refine ⟨List.ne_nil_of_mem hr, fun j hj => ?_⟩
    have hjn : j < n := Nat.lt_of_not_le fun hge => tail_waits hs hc hn inv _ i rfl hin hun j hge hj
    refine ⟨hjn, ?_⟩
    by_cases hji : j = i
    · subst hji
      exact hy.qOp ho h
    · obtain ⟨hju, oj, hoj, hall⟩ := mem_ready.1 hj
      have hfree : ∀ e ∈ oj.after, Region.binds md e = true → e.on ≠ i := by
        intro e he hb heq
        have := hall e he hb
        rw [heq, getD_both hun] at this
        cases this
      have hput := qOp_put hoj (hap j oj hoj hji hju hfree) (fun cs b => hsel i o cs b ho) (fun cs b => hsel j oj cs b hoj) hy (h.2 j (ready_mono hj hji)).2
      refine qOp_mono (fun a' ⟨hy', h'⟩ => ?_) hput
      refine ih (s.setIfInBounds j true) a' (inv.set hj hjn) (fun k ok hk hki hun' hno => ?_) (ready_mono hr (Ne.symm hji)) hy' ?_
      · refine hap k ok hk hki ?_ hno
        by_cases hjk : j = k
        · subst hjk
          exact hju
        · rwa [getD_set_ne true hjk] at hun'
      · rw [Array.setIfInBounds_comm _ _ hji]
        exact h'

theorem Heads.text {Lq : Act → Prop} (hsel : Region.noSelect ops = true) (hs : Region.sinkB md ops n = true) (hc : Region.chainB md ops n = true) (hn : n < ops.size) (l : List Oper) :
    ∀ (k : Nat) (s : Array Bool) (a : Act), (∀ j, j < l.length → l[j]? = ops[k + j]?) → k + l.length = n → HeadInv md ops n s → Region.lexHead md ops g l.length k s = true → wpQuiet P ops C Lq l a →
      Heads P md ops C n (fun s' a' => Region.seqB md ops g n s' = true ∧ Lq a') l.length s a := by
  induction l with
  | nil =>
    intro k s a _ hk _ hB h
    obtain rfl : k = n := hk
    exact ⟨hB, h⟩
  | cons o l ih =>
    intro k s a hl hk inv hB h
    have h0 : ops[k]? = some o := (hl 0 (Nat.succ_pos _)).symm
    simp only [List.length_cons, Region.lexHead, Bool.and_eq_true] at hB
    simp only [List.length_cons] at hk
    have hkr : k ∈ Region.ready md ops s := by simpa using hB.1.1
    obtain ⟨v, hy, hK⟩ := yieldsIn_of_qOp (C := C) (P := P) (K := wpQuiet P ops C Lq l) (a := a) h0 (by unfold qOp; simp only [h0]; exact h)
    refine Heads.front h0 (Region.noSelect_spec hsel) hs hc hn (by omega) (fun s' a' hL => seqB_ready hL.1) l.length s a inv (Region.free_spec h0 hB.1.2) hkr hy ?_
    refine ih (k + 1) _ _ (fun j hj => ?_) (by omega) (inv.set hkr (by omega)) hB.2 hK
    have := hl (j + 1) (by simpa using hj)
    rw [show k + 1 + j = k + (j + 1) by omega, ← this]
    rfl
end

/-- One walk of the first n operations in the order of the text, each reading or calling what makes new memory alone; then the rest, whose order is forced, in whatever world of the class. -/
theorem wp_region_tail {P : Program} {id : Nat} {Q : Exit → Act → World → Prop} {a : Act} {w wd : World} {l : List Oper} (n : Nat) (hm : P.follows .mixedOrders = true) (hB : Region.lexTailB .any l.toArray n = true) (hC : Touch [] wd w.drew)
    (h : wpQuiet P l.toArray (fun w' => ∃ x : Cls wd, w' = x.val) (fun a' => ∀ x : Cls wd, wpList P l.toArray Q (l.drop n) a' x.val) (l.take n) a) : (Code.region id l.toArray true).wp P Q a w := by
  simp only [Region.lexTailB, Bool.and_eq_true, decide_eq_true_eq] at hB
  obtain ⟨⟨⟨⟨hsel, hn⟩, hs⟩, hc⟩, hlex⟩ := hB
  have hn' : n < l.length := by simpa using hn
  have htl : (l.take n).length = n := by simp; omega
  have hdl : (l.drop n).length = l.toArray.size - n := by simp
  have inv0 : HeadInv .any l.toArray n (Array.replicate l.toArray.size false) := by
    constructor
    · simp
    · intro j oj _ hl
      rw [getD_replicate_false] at hl
      cases hl
    · intro t _ ht
      exact getD_in (by simpa using ht) (getD_replicate_false _ _)
  have H := Heads.text (g := l.toArray.size - n) hsel hs hc hn (l.take n) 0 _ a (fun j hj => by rw [htl] at hj; simp [hj]) (by omega) inv0 (by rw [htl]; exact hlex) h
  refine wp_region_any hm ?_
  have := Heads.any (Q := Q) (g := l.toArray.size - n) (fun s a' w' ⟨x, hx⟩ hL => by
    subst hx
    have := wpAny_of_seq (md := .any) (Q' := Q) (l.drop n) n s a' x.val (fun j => by simp [List.getElem?_drop]) (by rw [hdl]; exact hL.1) (hL.2 x)
    rwa [hdl] at this) _ _ _ _ ⟨⟨_, hC⟩, rfl⟩ H
  rw [htl, show n + (l.toArray.size - n) = l.toArray.size by omega] at this
  exact this
end Go.Proofs.YtdpaiegojioimaaDoor

/-
  reply's Put and Bad, and the reference's (layer 39).
-/
namespace Go.Proofs.YtdpaiegojioimaaDoor
open Go.ChangeShapes Go.WideShapes Go.ChangeAt Go.RowKit Go.Deep
set_option linter.unusedVariables false

def fitI (x : Int) : Prop := -9223372036854775808 ≤ x ∧ x ≤ 9223372036854775807
/-- A reply's numbers. -/
structure Rep where
  op : Int
  err : Int
  ver : Int
  cnt : Int
  sum : Nat
  st : Nat → Int
structure Rep.Ok (r : Rep) : Prop where
  op : fitI r.op
  err : fitI r.err
  ver : fitI r.ver
  cnt : fitI r.cnt
  sum : r.sum < 4294967296
  st : ∀ k, fitI (r.st k)
def Rep.statCells (r : Rep) : Array Value := #[.int .i64 (r.st 0), .int .i64 (r.st 1), .int .i64 (r.st 2), .int .i64 (r.st 3), .int .i64 (r.st 4), .int .i64 (r.st 5)]
def Rep.cells (r : Rep) : Array Value := #[.int .i64 r.op, .int .i64 r.err, .int .i64 r.ver, .int .i64 r.cnt, .int .u32 (r.sum : Int), .int .i64 (r.st 0), .int .i64 (r.st 1), .int .i64 (r.st 2), .int .i64 (r.st 3), .int .i64 (r.st 4), .int .i64 (r.st 5)]
/-- The bytes of the first k counts. -/
def statB (t : Nat → Int) : Nat → List UInt8
  | 0 => []
  | k + 1 => statB t k ++ varB (zz (t k))
def Rep.headB (r : Rep) : List UInt8 := be (u64n r.op) 1 ++ be (u64n r.err) 1 ++ varB (zz r.ver) ++ varB (zz r.cnt) ++ be r.sum 4
def Rep.bytes (r : Rep) : List UInt8 := r.headB ++ statB r.st 6
theorem varB_length : ∀ (u k : Nat), u < 128 ^ (k + 1) → (varB u).length ≤ k + 1
  | u, 0, h => by
    have : u < 128 := by simpa using h
    rw [varB_small this]; simp
  | u, k + 1, h => by
    by_cases hu : u < 128
    · rw [varB_small hu]; simp
    · rw [varB_large hu]
      have := varB_length (u / 128) k (Nat.div_lt_of_lt_mul (by rw [Nat.pow_succ, Nat.mul_comm] at h; exact h))
      simp; omega
theorem varB_ten (n : Int) (h : fitI n) : (varB (zz n)).length ≤ 10 := varB_length _ 9 (Nat.lt_of_lt_of_le (zz_lt n h) (by decide))
theorem statB_length (t : Nat → Int) (h : ∀ k, fitI (t k)) : ∀ k, (statB t k).length ≤ 10 * k
  | 0 => by simp [statB]
  | k + 1 => by
    have := statB_length t h k
    have := varB_ten (t k) (h k)
    simp only [statB, List.length_append]
    omega
theorem Rep.headB_length (r : Rep) (h : r.Ok) : r.headB.length ≤ 30 := by
  have h1 := varB_ten r.ver h.ver
  have h2 := varB_ten r.cnt h.cnt
  simp only [Rep.headB, List.length_append, be_length]
  omega

theorem Bts.lit2 (w : World) (x y : UInt8) (a b : Int) (ha : a = (x.toNat : Int)) (hb : b = (y.toNat : Int)) : Bts (w.alloc (.cells #[.int .u8 a, .int .u8 b] 5)) (.slice (some ⟨w.heap.size, 0, none⟩) 2 2) [x, y] := by
  subst ha hb
  refine ⟨_, 2, rfl, Nat.le_refl _, by unfold maxLen; omega, fun e => by simp at e, fun ad ha j u hu => ?_⟩
  obtain rfl : ⟨w.heap.size, 0, none⟩ = ad := by simpa using ha
  rw [show (⟨w.heap.size, 0, none⟩ : Addr).add j = ⟨w.heap.size, j, none⟩ by unfold Addr.add; split <;> simp_all, World.cell?_alloc_mark]
  match j, hu with
  | 0, hu => simpa [byt] using hu
  | 1, hu => simpa [byt] using hu

theorem fresh_bts {w w' : World} {l : List UInt8} {e : Ending} (h : Fresh w l e w') : ∃ A n c, e = .returned (.slice A n c) ∧ Bts w' (.slice A n c) l ∧ Touch [] w w' := by
  obtain ⟨v, rfl, hown, ht⟩ := h
  have hb := Bts.own hown
  obtain ⟨A, c, rfl, _⟩ := id hb
  exact ⟨A, _, c, rfl, hb, ht⟩

theorem int_size : (Tryd.prog.info? 3).map (fun i => i.size) = some 1 := by kernel_rfl
end Go.Proofs.YtdpaiegojioimaaDoor

/-
  Structs of two cells in a block of their own.
-/
namespace Go.Proofs.YtdpaiegojioimaaDoor
open Go.ChangeShapes Go.WideShapes Go.ChangeAt Go.RowKit Go.Deep
set_option linter.unusedVariables false


/-- A struct of one cell in a block of its own. -/
def Box1 (w : World) (b : Nat) (t : TypeId) (x : Value) : Prop := w.heap[b]? = some (.cells #[x] t (0, 0))
section
variable {w w' : World} {b : Nat} {t : TypeId} {x : Value}
theorem Box1.lt (h : Box1 w b t x) : b < w.heap.size := (Array.getElem?_eq_some_iff.1 h).1
theorem Box1.c0 (h : Box1 w b t x) : w.cell? ⟨b, 0, none⟩ = some x := cell_of_row w b 0 _ t (0, 0) h
theorem Box1.fr (h : Box1 w b t x) (i : Nat) : w.frozen? ⟨b, i, none⟩ = false := frozen_of_row w b i _ t h
theorem Box1.carry {S : List Nat} (h : Box1 w b t x) (k : Touch S w w') (hb : b ∉ S) : Box1 w' b t x := (k.block b h.lt hb).trans h
theorem Box1.set0 (h : Box1 w b t x) (v : Value) : Box1 (w.setCell ⟨b, 0, none⟩ v) b t v := heap_setCell_same w b 0 _ t v h
theorem Box1.new (w : World) (t : TypeId) (x : Value) : Box1 (w.alloc (.cells #[x] t)) w.heap.size t x := heap_alloc_new w _
end

/-- A struct of two cells in a block of its own. -/
def Box2 (w : World) (b : Nat) (t : TypeId) (x y : Value) : Prop := w.heap[b]? = some (.cells #[x, y] t (0, 0))
section
variable {w w' : World} {b : Nat} {t : TypeId} {x y : Value}
theorem Box2.lt (h : Box2 w b t x y) : b < w.heap.size := (Array.getElem?_eq_some_iff.1 h).1
theorem Box2.c0 (h : Box2 w b t x y) : w.cell? ⟨b, 0, none⟩ = some x := cell_of_row w b 0 _ t (0, 0) h
theorem Box2.c1 (h : Box2 w b t x y) : w.cell? ⟨b, 1, none⟩ = some y := cell_of_row w b 1 _ t (0, 0) h
theorem Box2.fr (h : Box2 w b t x y) (i : Nat) : w.frozen? ⟨b, i, none⟩ = false := frozen_of_row w b i _ t h
theorem Box2.carry {S : List Nat} (h : Box2 w b t x y) (k : Touch S w w') (hb : b ∉ S) : Box2 w' b t x y := (k.block b h.lt hb).trans h
theorem Box2.set0 (h : Box2 w b t x y) (v : Value) : Box2 (w.setCell ⟨b, 0, none⟩ v) b t v y := heap_setCell_same w b 0 _ t v h
theorem Box2.set1 (h : Box2 w b t x y) (v : Value) : Box2 (w.setCell ⟨b, 1, none⟩ v) b t x v := heap_setCell_same w b 1 _ t v h
theorem Box2.new (w : World) (t : TypeId) (x y : Value) : Box2 (w.alloc (.cells #[x, y] t)) w.heap.size t x y := heap_alloc_new w _
end

/-- A struct of three cells in a block of its own. -/
def Box3C (w : World) (b : Nat) (t : TypeId) (x y z : Value) : Prop := w.heap[b]? = some (.cells #[x, y, z] t (0, 0))
section
variable {w w' : World} {b : Nat} {t : TypeId} {x y z : Value}
theorem Box3C.lt (h : Box3C w b t x y z) : b < w.heap.size := (Array.getElem?_eq_some_iff.1 h).1
theorem Box3C.c0 (h : Box3C w b t x y z) : w.cell? ⟨b, 0, none⟩ = some x := cell_of_row w b 0 _ t (0, 0) h
theorem Box3C.c1 (h : Box3C w b t x y z) : w.cell? ⟨b, 1, none⟩ = some y := cell_of_row w b 1 _ t (0, 0) h
theorem Box3C.c2 (h : Box3C w b t x y z) : w.cell? ⟨b, 2, none⟩ = some z := cell_of_row w b 2 _ t (0, 0) h
theorem Box3C.carry {S : List Nat} (h : Box3C w b t x y z) (k : Touch S w w') (hb : b ∉ S) : Box3C w' b t x y z := (k.block b h.lt hb).trans h
end
end Go.Proofs.YtdpaiegojioimaaDoor

/-
  octets' Try (layer 9): the deferred function, where the reader failed and where it did not; Try itself.
-/
namespace Go.Proofs.YtdpaiegojioimaaDoor
open Go.ChangeShapes Go.WideShapes Go.ChangeAt Go.RowKit Go.Deep
set_option linter.unusedVariables false

/-- What a reader at p that fails with k panics with. -/
def failV (p : Nat) (k : Int) : Value := .iface 118 (.agg #[.pointer (some ⟨p, 0, none⟩), .int .i64 k])

theorem reader_size : (Tryd.prog.info? 116).map (fun i => i.size) = some 1 := by kernel_rfl
theorem same_ptr (p : Nat) (w : World) : (binOp .eql 82 (.pointer (some ⟨p, 0, none⟩)) (.pointer (some ⟨p, 0, none⟩))).run Tryd.prog w = .ok (.bool true) w := by
  obtain ⟨j, hj, _⟩ := Option.map_eq_some_iff.1 reader_size
  exact run_eql_ptr_same w _ Tryd.underlying82 hj
theorem tmps59 (a b X : Value) : #[a, b] ++ ((Array.replicate 21 undef).setIfInBounds 3 X).setIfInBounds 0 X = #[a, b, X, undef, undef, X, undef, undef, undef, undef, undef, undef, undef, undef, undef, undef, undef, undef, undef, undef, undef, undef, undef] := by kernel_rfl
set_option maxHeartbeats 1000000 in
set_option maxRecDepth 100000 in
theorem catch_fail (b4 b5 p : Nat) (x k : Int) (older : List PanicEntry) (w : World) (h4 : Box1 w b4 28 (.int .i64 x)) (h5 : Box1 w b5 82 (.pointer (some ⟨p, 0, none⟩))) :
    CallsD Tryd.prog 85 #[.pointer (some ⟨b5, 0, none⟩), .pointer (some ⟨b4, 0, none⟩)] (.panicking ({ v := failV p k, recovered := false } :: older)) w fun e u' w' =>
      e = .returned (.tuple #[]) ∧ u' = .panicking ({ v := failV p k, recovered := true } :: older) ∧ Box1 w' b4 28 (.int .i64 k) ∧ Touch [b4] w w' := by
  unfold failV
  have c4 := h4.c0
  have f4 := h4.fr 0
  have c5 := h5.c0
  have l4 := h4.lt
  have l5 := h5.lt
  refine callsD_of_wpS Tryd.func85 rfl fun c₀ cs hu => ?_
  apply wpS_seq
  apply wpS_region
  generalize hQ : Exit.thenS _ _ = Q
  simp [wpOpsS, go_sem, recoverD, hu, Tryd.ntmps85]
  rw [← hQ]
  simp only [Exit.thenS]
  refine wpS_of_wp ?_
  clear hQ
  generalize hX : Value.iface 118 (.agg #[.pointer (some ⟨p, 0, none⟩), .int .i64 k]) = X
  generalize hP : (fun (e : Exit) (a' : Act) (w' : World) => bodyPostS _ _ _ _ _ e a' _ w') = Q0
  rw [tmps59]
  subst hX
  have he : ∀ w, (binOp .eql 20 (.iface 118 (.agg #[.pointer (some ⟨p, 0, none⟩), .int .i64 k])) .nilIface).run Tryd.prog w = .ok (.bool false) w := fun w => by kernel_rfl
  have hg : ∀ w, (eqGuard .eql 20 (Operand.tmp 6) (Operand.const Value.nilIface) (.iface 118 (.agg #[.pointer (some ⟨p, 0, none⟩), .int .i64 k])) .nilIface).run Tryd.prog w = .ok () w := fun w => by kernel_rfl
  have ha : ∀ w, (Instr.typeAssert (.iface 118 (.agg #[.pointer (some ⟨p, 0, none⟩), .int .i64 k])) 20 118 true).run Tryd.prog w = .ok (.tuple #[.agg #[.pointer (some ⟨p, 0, none⟩), .int .i64 k], .bool true]) w := fun w => by kernel_rfl
  have hp := fun w => same_ptr p w
  go_wp2_with fail
  subst hP
  simp [bodyPostS, results, Tryd.results85]
  exact ⟨(h4.set0 _).carry ((Touch.refl [] _).alloc _) (by simp), ((Touch.refl [b4] w).setCell (Or.inl (by simp)) _).alloc _⟩

theorem tmps59' (a b X : Value) : #[a, b] ++ ((Array.replicate 21 undef).setIfInBounds 3 X).setIfInBounds 0 X = #[a, b, X, undef, undef, X, undef, undef, undef, undef, undef, undef, undef, undef, undef, undef, undef, undef, undef, undef, undef, undef, undef] := by kernel_rfl
set_option maxHeartbeats 1000000 in
set_option maxRecDepth 100000 in
theorem catch_none (b4 b5 : Nat) (w : World) :
    CallsD Tryd.prog 85 #[.pointer (some ⟨b5, 0, none⟩), .pointer (some ⟨b4, 0, none⟩)] .returning w fun e u' w' => e = .returned (.tuple #[]) ∧ u' = .returning ∧ w' = w := by
  refine callsD_of_wpS Tryd.func85 rfl fun c₀ cs hu => ?_
  apply wpS_seq
  apply wpS_region
  generalize hQ : Exit.thenS _ _ = Q
  simp [wpOpsS, go_sem, recoverD, hu, Tryd.ntmps85]
  rw [← hQ]
  simp only [Exit.thenS]
  refine wpS_of_wp ?_
  clear hQ
  generalize hP : (fun (e : Exit) (a' : Act) (w' : World) => bodyPostS _ _ _ _ _ e a' _ w') = Q0
  rw [tmps59]
  have he : ∀ w, (binOp .eql 20 .nilIface .nilIface).run Tryd.prog w = .ok (.bool true) w := fun w => by kernel_rfl
  go_wp2_with fail
  subst hP
  simp [bodyPostS, results, Tryd.results85]
  cases c₀
  simp_all

/-- The world in which Try calls its function. -/
def tryW (w : World) (s : ByteArray) : World := ((w.alloc (.cells #[.int .i64 0] 28)).alloc (.cells #[.string s] 116)).alloc (.cells #[.pointer (some ⟨w.heap.size + 1, 0, none⟩)] 82)

set_option maxHeartbeats 1000000 in
set_option maxRecDepth 100000 in
theorem try_any {s : ByteArray} {k : FuncId} {cap : Array Value} {w : World} {S : List Nat} {Q : Int → World → Prop} (hS : ∀ b ∈ S, b < w.heap.size ∨ b = w.heap.size + 1) (hent : ∀ args w, (callFunc k args).run Tryd.prog w = .ok (.enter k args) w)
    (h : Calls Tryd.prog k (#[.pointer (some ⟨w.heap.size + 1, 0, none⟩)] ++ cap) (tryW w s) fun e w' => Touch S (tryW w s) w' ∧ (e = .returned (.tuple #[]) ∧ Q 0 w' ∨ ∃ er, e = .panicked [{ v := failV (w.heap.size + 1) er, recovered := false }] ∧ Q er w')) :
    Calls Tryd.prog 55 #[.string s, .func (.func k) #[] cap] w fun e w' => ∃ er w1, e = .returned (.int .i64 er) ∧ Q er w1 ∧ Touch S w w1 ∧ Touch [w.heap.size] w1 w' := by
  have hmf : ∀ (fn : Fn) (first cap : Array Value) (w : World), (Instr.makeFunc fn first cap).run Tryd.prog w = .ok (.func fn first cap) w := fun _ _ _ _ => rfl
  have HC := Lib.hid h
  clear h
  unfold tryW at HC
  have hnf : ∀ w, (binOp .eql 86 (.func (.func k) #[] cap) .nilFunc).run Tryd.prog w = .ok (.bool false) w := fun w => rfl
  go_enter_defers Tryd.func55, Tryd.ntmps55
  go_wp2_with fail
  refine (HC.out).mono ?_
  rintro e w1 ⟨ht, ⟨rfl, hq⟩ | ⟨er, rfl, hq⟩⟩
  · have l3 : w.heap.size + 2 < w1.heap.size := by have := ht.size; simp at this; omega
    have q4 : Box1 (((w.alloc (.cells #[.int .i64 0] 28)).alloc (.cells #[.string s] 116)).alloc (.cells #[.pointer (some ⟨w.heap.size + 1, 0, none⟩)] 82)) w.heap.size 28 (.int .i64 0) := ((Box1.new w 28 (.int .i64 0)).carry ((Touch.refl [] _).alloc _) (by simp)).carry ((Touch.refl [] _).alloc _) (by simp)
    have p4 := q4.carry ht (fun hm => by have := hS _ hm; omega)
    have c4 := p4.c0
    have f4 := p4.fr 0
    have T1 : Touch S w w1 := ((((Touch.refl S w).alloc _).alloc _).alloc _).trans ht (fun b hb => Or.inl hb)
    have F := Lib.hid (And.intro hq T1)
    clear HC hq T1 ht q4
    go_wp2_with fail
    refine leaves_cons (f := 85) (args := #[.pointer (some ⟨w.heap.size + 1 + 1, 0, none⟩), .pointer (some ⟨w.heap.size, 0, none⟩)]) (by simp) (by simp [go_sem]) ?_
    refine (catch_none w.heap.size (w.heap.size + 1 + 1) _).mono ?_
    rintro e u' w'' ⟨rfl, rfl, rfl⟩
    have p5 := p4.set0 (.int .i64 0)
    have c5 := p5.c0
    simp [Leaves, settle, results, Tryd.results55, go_sem, c5]
    exact ⟨w1, F.out.1, F.out.2, (Touch.refl _ _).setCell (Or.inl (by simp)) _⟩
  · have q4 : Box1 (((w.alloc (.cells #[.int .i64 0] 28)).alloc (.cells #[.string s] 116)).alloc (.cells #[.pointer (some ⟨w.heap.size + 1, 0, none⟩)] 82)) w.heap.size 28 (.int .i64 0) := ((Box1.new w 28 (.int .i64 0)).carry ((Touch.refl [] _).alloc _) (by simp)).carry ((Touch.refl [] _).alloc _) (by simp)
    have q5 : Box1 (((w.alloc (.cells #[.int .i64 0] 28)).alloc (.cells #[.string s] 116)).alloc (.cells #[.pointer (some ⟨w.heap.size + 1, 0, none⟩)] 82)) (w.heap.size + 1 + 1) 82 (.pointer (some ⟨w.heap.size + 1, 0, none⟩)) := by
      have := Box1.new ((w.alloc (.cells #[.int .i64 0] 28)).alloc (.cells #[.string s] 116)) 82 (.pointer (some ⟨w.heap.size + 1, 0, none⟩))
      rwa [show ((w.alloc (.cells #[.int .i64 0] 28)).alloc (.cells #[.string s] 116)).heap.size = w.heap.size + 1 + 1 by simp] at this
    have p4 := q4.carry ht (fun hm => by have := hS _ hm; omega)
    have p5 := q5.carry ht (fun hm => by have := hS _ hm; omega)
    have T1 : Touch S w w1 := ((((Touch.refl S w).alloc _).alloc _).alloc _).trans ht (fun b hb => Or.inl hb)
    have F := Lib.hid (And.intro hq T1)
    clear HC hq T1 ht q4 q5
    refine leaves_cons (f := 85) (args := #[.pointer (some ⟨w.heap.size + 1 + 1, 0, none⟩), .pointer (some ⟨w.heap.size, 0, none⟩)]) (by simp) (by simp [go_sem]) ?_
    refine (catch_fail w.heap.size (w.heap.size + 1 + 1) (w.heap.size + 1) 0 er [] _ p4 p5).mono ?_
    rintro e u' w'' ⟨rfl, rfl, hb, t2⟩
    have c5 := hb.c0
    simp [Leaves, settle, results, Tryd.results55, go_sem, c5]
    exact ⟨w1, F.out.1, F.out.2, t2⟩
end Go.Proofs.YtdpaiegojioimaaDoor

/-
  octets' Reader (layer 9): Left, Need, Take and the numbers of fixed length.
-/
namespace Go.Proofs.YtdpaiegojioimaaDoor
open Go.ChangeShapes Go.WideShapes Go.ChangeAt Go.RowKit Go.Deep
set_option linter.unusedVariables false

/-- A reader at p, with l before it. -/
abbrev At (w : World) (p : Nat) (l : List UInt8) : Prop := Box1 w p 116 (.string (S l))
/-- It returned v, with l before it. -/
def Reads (p : Nat) (w : World) (v : Value) (l : List UInt8) (e : Ending) (w' : World) : Prop := e = .returned v ∧ At w' p l ∧ Touch [p] w w'
/-- It failed with k. -/
def Fails (p : Nat) (w : World) (k : Int) (e : Ending) (w' : World) : Prop := e = .panicked [{ v := failV p k, recovered := false }] ∧ Touch [p] w w'

theorem S_take (l : List UInt8) (n : Nat) : (S l).extract 0 n = S (l.take n) := by
  unfold S
  rw [ByteArray.extract_mk]
  simp
theorem S_drop (l : List UInt8) (n : Nat) : (S l).extract n l.length = S (l.drop n) := by
  unfold S
  rw [ByteArray.extract_mk]
  simp
  exact List.take_of_length_le (by simp)

theorem need_yes (p : Value) (k : Int) (w : World) : Calls Tryd.prog 57 #[p, .bool true, .int .i64 k] w fun e w' => e = .returned (.tuple #[]) ∧ w' = w := by
  go_enter Tryd.func57, Tryd.ntmps57
  go_wp2
  first | go_end0 | refine bodyPost_ret (results_none rfl _ _ _) rfl ?_
  exact ⟨rfl, rfl⟩
theorem need_no (p : Nat) (k : Int) (hk : k ≠ 0) (w : World) : Calls Tryd.prog 57 #[.pointer (some ⟨p, 0, none⟩), .bool false, .int .i64 k] w fun e w' => e = .panicked [{ v := failV p k, recovered := false }] ∧ w' = w := by
  have b1 : (k == 0) = false := by simpa using hk
  have hpn : ∀ w, (Instr.panic (.iface 118 (.agg #[.pointer (some ⟨p, 0, none⟩), .int .i64 k]))).run Tryd.prog w = .halt (.panic (.iface 118 (.agg #[.pointer (some ⟨p, 0, none⟩), .int .i64 k]))) w := fun w => by kernel_rfl
  go_enter Tryd.func57, Tryd.ntmps57
  go_wp2
  exact ⟨rfl, rfl, rfl⟩

section
variable {w : World} {p : Nat} {l : List UInt8}
theorem left_any (h : At w p l) : Calls Tryd.prog 62 #[.pointer (some ⟨p, 0, none⟩)] w fun e w' => e = .returned (.int .i64 (l.length : Int)) ∧ w' = w := by
  have c0 := h.c0
  have lt := h.lt
  have hs := S_size l
  clear h
  go_enter Tryd.func62, Tryd.ntmps62
  go_wp2
  go_ret
  exact ⟨rfl, rfl⟩
set_option maxRecDepth 100000 in
theorem take_ok (h : At w p l) (n : Nat) (hn : n ≤ l.length) (hl : l.length ≤ 1000000000) : Calls Tryd.prog 59 #[.pointer (some ⟨p, 0, none⟩), .int .i64 (n : Int)] w (Reads p w (.string (S (l.take n))) (l.drop n)) := by
  have c0 := h.c0
  have f0 := h.fr 0
  have lt := h.lt
  have hs := S_size l
  have e1 := S_take l n
  have e2 := S_drop l n
  have N := Lib.hid (need_yes)
  have L := Lib.hid (left_any h)
  have H := Lib.hid h
  clear h
  have g0 : (0 : Int) ≤ (n : Int) := by omega
  have g1 : (n : Int) ≤ (l.length : Int) := by omega
  go_enter Tryd.func59, Tryd.ntmps59
  go_wp2_with fail
  refine (N.out _ _ _).mono ?_
  rintro e w1 ⟨rfl, rfl⟩
  go_wp2_with fail
  refine (L.out).mono ?_
  rintro e w2 ⟨rfl, rfl⟩
  go_wp2_with fail
  refine (N.out _ _ _).mono ?_
  rintro e w3 ⟨rfl, rfl⟩
  go_wp2_with fail
  go_ret
  exact ⟨rfl, H.out.set0 _, (Touch.refl _ _).setCell (Or.inl (by simp)) _⟩
set_option maxRecDepth 100000 in
theorem take_short (h : At w p l) (n : Nat) (hn : l.length < n) (hl : l.length ≤ 1000000000) : Calls Tryd.prog 59 #[.pointer (some ⟨p, 0, none⟩), .int .i64 (n : Int)] w (Fails p w 5) := by
  have N := Lib.hid (need_yes)
  have M := Lib.hid (need_no p 5 (by decide))
  have L := Lib.hid (left_any h)
  clear h
  have g0 : (0 : Int) ≤ (n : Int) := by omega
  have g1 : decide (n ≤ l.length) = false := by simp; omega
  go_enter Tryd.func59, Tryd.ntmps59
  go_wp2_with fail
  refine (N.out _ _ _).mono ?_
  rintro e w1 ⟨rfl, rfl⟩
  go_wp2_with fail
  refine (L.out).mono ?_
  rintro e w2 ⟨rfl, rfl⟩
  go_wp2_with fail
  refine (M.out _).mono ?_
  rintro e w3 ⟨rfl, rfl⟩
  exact ⟨rfl, rfl, Touch.refl _ _⟩
set_option maxRecDepth 100000 in
theorem take_neg (p : Nat) (n : Int) (hn : n < 0) : Calls Tryd.prog 59 #[.pointer (some ⟨p, 0, none⟩), .int .i64 n] w (Fails p w 2) := by
  have M := Lib.hid (need_no p 2 (by decide))
  have g1 : ¬ (0 ≤ n) := by omega
  go_enter Tryd.func59, Tryd.ntmps59
  go_wp2_with fail
  refine (M.out _).mono ?_
  rintro e w3 ⟨rfl, rfl⟩
  exact ⟨rfl, rfl, Touch.refl _ _⟩
theorem u8_ok {b : UInt8} (h : At w p (b :: l)) (hl : l.length < 1000000000) : Calls Tryd.prog 58 #[.pointer (some ⟨p, 0, none⟩)] w (Reads p w (.int .i64 (b.toNat : Int)) l) := by
  have T := Lib.hid (take_ok h 1 (by simp) (by simp; omega))
  have hi : (S (List.take 1 (b :: l))).size = 1 := by rw [S_size]; simp
  have hx : ∀ w, (Instr.index 9 (.string (S (List.take 1 (b :: l)))) (.int .i64 0)).run Tryd.prog w = .ok (.int .u8 (b.toNat : Int)) w := fun w => by
    simp [S, Instr.index, run_underlying Tryd.underlying9, asIntOf]
    rw [show (⟨#[b]⟩ : ByteArray)[0]? = some b from rfl]
    rfl
  have hw : wrap64 (b.toNat : Int) = (b.toNat : Int) := by have := b.toNat_lt; unfold wrap64; omega
  clear h
  generalize S (List.take 1 (b :: l)) = s1 at *
  simp only [List.drop_succ_cons, List.drop_zero] at T
  go_enter Tryd.func58, Tryd.ntmps58
  go_wp2_with fail
  refine (T.out).mono ?_
  rintro e w1 ⟨rfl, a1, t1⟩
  have F := Lib.hid (And.intro a1 t1)
  clear a1 t1
  go_wp2_with fail
  go_ret
  exact ⟨ret_int hw, F.out⟩
theorem u8_short (h : At w p []) : Calls Tryd.prog 58 #[.pointer (some ⟨p, 0, none⟩)] w (Fails p w 5) := by
  have T := Lib.hid (take_short h 1 (by simp) (by simp))
  go_enter Tryd.func58, Tryd.ntmps58
  go_wp2_with fail
  refine (T.out).mono ?_
  rintro e w1 ⟨rfl, t1⟩
  exact ⟨rfl, rfl, t1⟩
end
end Go.Proofs.YtdpaiegojioimaaDoor

/-
  octets' Reader (layer 9): the numbers of two, four and eight bytes.
-/
namespace Go.Proofs.YtdpaiegojioimaaDoor
open Go.ChangeShapes Go.WideShapes Go.ChangeAt Go.RowKit Go.Deep
set_option linter.unusedVariables false

/-- The number of bytes, the most significant one first. -/
def num (l : List UInt8) : Nat := l.foldl (fun u b => u * 256 + b.toNat) 0
theorem num_snoc (l : List UInt8) (b : UInt8) : num (l ++ [b]) = num l * 256 + b.toNat := by simp [num]
theorem num_lt' (l : List UInt8) : ∀ u, l.foldl (fun u b => u * 256 + b.toNat) u < (u + 1) * 256 ^ l.length := by
  induction l with
  | nil => intro u; simp
  | cons b l ih =>
    intro u
    have hb := b.toNat_lt
    simp only [List.foldl_cons, List.length_cons]
    refine Nat.lt_of_lt_of_le (ih _) ?_
    rw [Nat.pow_succ, Nat.mul_comm (256 ^ l.length) 256, ← Nat.mul_assoc]
    exact Nat.mul_le_mul_right _ (by omega)
theorem num_lt (l : List UInt8) : num l < 256 ^ l.length := by simpa [num] using num_lt' l 0
theorem num_be (u n : Nat) (h : u < 256 ^ n) : num (be u n) = u := by
  induction n generalizing u with
  | zero =>
    simp at h
    simp [be, num, h]
  | succ n ih =>
    rw [be_next, num_snoc, ih (u / 256) (Nat.div_lt_of_lt_mul (by rw [Nat.pow_succ, Nat.mul_comm] at h; exact h))]
    simp
    omega
theorem take_snoc (l : List UInt8) (k : Nat) (hk : k < l.length) : l.take (k + 1) = l.take k ++ [l[k]] := by
  rw [List.take_add_one, List.getElem?_eq_getElem hk]
  rfl
theorem or_low (N b : Nat) (hN : N < 72057594037927936) (hb : b < 256) : bits .or .u64 ((N : Int) * 256) (b : Int) = ((N * 256 + b : Nat) : Int) := by
  rw [show (N : Int) * 256 = ((N * 256 : Nat) : Int) by omega, u64_or_nat _ _ (by omega) (by omega)]
  congr 1
  have := Nat.two_pow_add_eq_or_of_lt (i := 8) hb N
  rw [Nat.mul_comm N 256]
  exact this.symm

section
variable {w : World} {p : Nat} {l : List UInt8}
set_option maxHeartbeats 1000000 in
set_option maxRecDepth 100000 in
theorem join_any (h : At w p l) (n : Nat) (hn : n ≤ 8) (hl : l.length ≤ 1000000000) :
    Calls Tryd.prog 86 #[.func (.func 58) #[.pointer (some ⟨p, 0, none⟩)] #[], .int .i64 (n : Int)] w fun e w' =>
      (n ≤ l.length → Reads p w (.int .u64 (num (l.take n) : Nat)) (l.drop n) e w') ∧ (l.length < n → Fails p w 5 e w') := by
  have H := Lib.hid h
  clear h
  go_enter Tryd.func86, Tryd.ntmps86
  go_wp2_with fail
  go_loopw [5, 7] (fun u y wr => ∃ k : Nat, k ≤ n ∧ k ≤ l.length ∧ y = .int .i64 k ∧ u = .int .u64 ((num (l.take k) : Nat) : Int) ∧ At wr p (l.drop k) ∧ Touch [p] w wr) (fun _ y _ => n - (intOf y).toNat)
  case atStart => exact ⟨0, Nat.zero_le _, Nat.zero_le _, rfl, by simp [num], by simpa using H.out, Touch.refl _ _⟩
  case round =>
    obtain ⟨k, hk, hkl, rfl, rfl, ha, ht⟩ := hrel
    have HT := Lib.hid ht
    by_cases hlt : k < n
    · by_cases hll : k < l.length
      · have hd : l.drop k = l[k] :: l.drop (k + 1) := List.drop_eq_getElem_cons hll
        rw [hd] at ha
        have U := Lib.hid (u8_ok ha (by rw [List.length_drop]; omega))
        have hb := (l[k]).toNat_lt
        have hN : num (l.take k) < 72057594037927936 := by
          refine Nat.lt_of_lt_of_le (num_lt _) ?_
          rw [List.length_take, Nat.min_eq_left hkl]
          exact Nat.le_trans (Nat.pow_le_pow_right (by omega) (show k ≤ 7 by omega)) (by decide)
        have f2 := or_low _ _ hN hb
        rw [← num_snoc, ← take_snoc l k hll] at f2
        clear ha ht hd
        generalize num (l.take k) = N at *
        generalize hN' : num (l.take (k + 1)) = N' at *
        generalize (l[k]).toNat = b at *
        have f1 : IntKind.u64.wrap ((N : Int) * 256) = (N : Int) * 256 := by rw [IntKind.wrap_u64]; omega
        have f3 : IntKind.u64.wrap (b : Int) = (b : Int) := by rw [IntKind.wrap_u64]; omega
        go_wp2_with fail
        refine (U.out).mono ?_
        rintro e w1 ⟨rfl, a1, t1⟩
        have F := Lib.hid (And.intro a1 (HT.out.trans t1 (fun b hb => Or.inl hb)))
        clear a1 t1
        go_wp2_with fail
        go_roundw
        case rel => exact ⟨k + 1, by omega, by omega, by go_num, by rw [hN'], F.out.1, F.out.2⟩
        case measure => simp [intOf]; omega
      · obtain rfl : k = l.length := by omega
        rw [List.drop_length] at ha
        have U := Lib.hid (u8_short ha)
        clear ha ht
        generalize num (l.take l.length) = N at *
        go_wp2_with fail
        refine (U.out).mono ?_
        rintro e w1 ⟨rfl, t1⟩
        exact ⟨rfl, fun h => by omega, fun _ => ⟨rfl, HT.out.trans t1 (fun b hb => Or.inl hb)⟩⟩
    · obtain rfl : k = n := by omega
      have HA := Lib.hid ha
      clear ha ht
      go_wp2_with fail
      go_ret
      exact ⟨fun _ => ⟨rfl, HA.out, HT.out⟩, fun h => by omega⟩

set_option maxRecDepth 100000 in
theorem u16_any (h : At w p l) (hl : l.length ≤ 1000000000) :
    Calls Tryd.prog 60 #[.pointer (some ⟨p, 0, none⟩)] w fun e w' =>
      (2 ≤ l.length → Reads p w (.int .i64 (num (l.take 2) : Nat)) (l.drop 2) e w') ∧ (l.length < 2 → Fails p w 5 e w') := by
  have hmf : ∀ (fn : Fn) (first cap : Array Value) (w : World), (Instr.makeFunc fn first cap).run Tryd.prog w = .ok (.func fn first cap) w := fun _ _ _ _ => rfl
  have J := Lib.hid (join_any h 2 (by omega) hl)
  have hN : num (l.take 2) < 18446744073709551616 := Nat.lt_of_lt_of_le (num_lt _) (Nat.le_trans (Nat.pow_le_pow_right (by omega) (List.length_take_le 2 l)) (by decide))
  have hN : num (l.take 2) < 65536 := Nat.lt_of_lt_of_le (num_lt _) (Nat.le_trans (Nat.pow_le_pow_right (by omega) (List.length_take_le 2 l)) (by decide))
  clear h
  generalize num (l.take 2) = N at *
  go_enter Tryd.func60, Tryd.ntmps60
  go_wp2_with fail
  refine (J.out).mono ?_
  intro e w1 hj
  by_cases hc : 2 ≤ l.length
  · obtain ⟨rfl, a1, t1⟩ := hj.1 hc
    have F := Lib.hid (And.intro a1 t1)
    clear a1 t1 hj
    go_wp2_with fail
    go_ret
    exact ⟨fun _ => ⟨ret_int (by first | rfl | omega), F.out⟩, fun h => by omega⟩
  · obtain ⟨rfl, t1⟩ := hj.2 (by omega)
    exact ⟨rfl, fun h => by omega, fun _ => ⟨rfl, t1⟩⟩
set_option maxRecDepth 100000 in
theorem u64_any (h : At w p l) (hl : l.length ≤ 1000000000) :
    Calls Tryd.prog 111 #[.pointer (some ⟨p, 0, none⟩)] w fun e w' =>
      (8 ≤ l.length → Reads p w (.int .u64 (num (l.take 8) : Nat)) (l.drop 8) e w') ∧ (l.length < 8 → Fails p w 5 e w') := by
  have hmf : ∀ (fn : Fn) (first cap : Array Value) (w : World), (Instr.makeFunc fn first cap).run Tryd.prog w = .ok (.func fn first cap) w := fun _ _ _ _ => rfl
  have J := Lib.hid (join_any h 8 (by omega) hl)
  clear h
  generalize num (l.take 8) = N at *
  go_enter Tryd.func111, Tryd.ntmps111
  go_wp2_with fail
  refine (J.out).mono ?_
  intro e w1 hj
  by_cases hc : 8 ≤ l.length
  · obtain ⟨rfl, a1, t1⟩ := hj.1 hc
    have F := Lib.hid (And.intro a1 t1)
    clear a1 t1 hj
    go_wp2_with fail
    go_ret
    exact ⟨fun _ => ⟨rfl, F.out⟩, fun h => by omega⟩
  · obtain ⟨rfl, t1⟩ := hj.2 (by omega)
    exact ⟨rfl, fun h => by omega, fun _ => ⟨rfl, t1⟩⟩
end
end Go.Proofs.YtdpaiegojioimaaDoor

/-
  Plain mathematics of float64 as words: a word is a sign and a rung; the order of words is the order of signed rungs; a number that has a word is rounded to that word.
-/
namespace Go.Proofs.YtdpaiegojioimaaDoor

def rung (x : Nat) : Nat := x % 9223372036854775808
def sgn (x : Nat) : Bool := x / 9223372036854775808 % 2 == 1
def isN (x : Nat) : Prop := 9218868437227405312 < rung x
def key (x : Nat) : Int := if sgn x = true then -(rung x : Int) else rung x
/-- A rung's magnitude, in units of the least one. -/
def V (r : Nat) : Nat := if r < 4503599627370496 then r else (4503599627370496 + r % 4503599627370496) * 2 ^ (r / 4503599627370496 - 1)

theorem fSign : FloatKind.f64.format.signWeight = 9223372036854775808 := by decide
theorem fBin : FloatKind.f64.format.binade = 4503599627370496 := by decide
theorem fInf : FloatKind.f64.format.infRung = 9218868437227405312 := by decide
theorem fLeast : FloatKind.f64.format.leastPlace = -1074 := by decide
theorem fFrac : FloatKind.f64.format.fractionBits = 52 := rfl

theorem read_eq (x : Nat) : FloatKind.f64.format.read x =
    if rung x < 4503599627370496 then .number (sgn x) (rung x) (-1074)
    else if rung x < 9218868437227405312 then .number (sgn x) (4503599627370496 + rung x % 4503599627370496) (-1074 + (rung x / 4503599627370496 - 1 : Nat))
    else if rung x = 9218868437227405312 then .infinity (sgn x) else .nan (sgn x) (rung x - 9218868437227405312) := by
  unfold Ieee.Format.read
  rw [fSign, fBin, fInf, fLeast]
  rfl

theorem read_fin (x : Nat) (h : rung x < 9218868437227405312) : ∃ m a : Nat, FloatKind.f64.format.read x = .number (sgn x) m (-1074 + (a : Int)) ∧ m * 2 ^ a = V (rung x) ∧ m < 9007199254740992 := by
  rw [read_eq]
  unfold V
  by_cases h1 : rung x < 4503599627370496
  · exact ⟨rung x, 0, by simp [h1], by simp [h1], by omega⟩
  · rw [if_neg h1, if_pos h, if_neg h1]
    exact ⟨_, rung x / 4503599627370496 - 1, rfl, rfl, by omega⟩
theorem read_inf (x : Nat) (h : rung x = 9218868437227405312) : FloatKind.f64.format.read x = .infinity (sgn x) := by
  rw [read_eq, if_neg (by omega), if_neg (by omega), if_pos h]
theorem read_nan (x : Nat) (h : isN x) : ∃ t, FloatKind.f64.format.read x = .nan (sgn x) t := by
  unfold isN at h
  rw [read_eq, if_neg (by omega), if_neg (by omega), if_neg (by omega)]
  exact ⟨_, rfl⟩

theorem V_zero : V 0 = 0 := by unfold V; rw [if_pos (by omega)]
theorem V_succ (r : Nat) : V r < V (r + 1) := by
  unfold V
  by_cases h1 : r + 1 < 4503599627370496
  · rw [if_pos (by omega), if_pos h1]; omega
  · rw [if_neg h1]
    by_cases h2 : r < 4503599627370496
    · rw [if_pos h2]
      have e : r + 1 = 4503599627370496 := by omega
      rw [e]
      simp
      omega
    · rw [if_neg h2]
      by_cases h3 : r % 4503599627370496 + 1 < 4503599627370496
      · have e1 : (r + 1) % 4503599627370496 = r % 4503599627370496 + 1 := by omega
        have e2 : (r + 1) / 4503599627370496 = r / 4503599627370496 := by omega
        rw [e1, e2]
        exact Nat.mul_lt_mul_of_pos_right (by omega) (Nat.two_pow_pos _)
      · have e1 : (r + 1) % 4503599627370496 = 0 := by omega
        have e2 : (r + 1) / 4503599627370496 = r / 4503599627370496 - 1 + 1 + 1 := by omega
        rw [e1, e2, Nat.add_sub_cancel, Nat.pow_succ, Nat.mul_comm (2 ^ _) 2, ← Nat.mul_assoc]
        exact Nat.mul_lt_mul_of_pos_right (by omega) (Nat.two_pow_pos _)
theorem V_lt {r s : Nat} (h : r < s) : V r < V s := by
  induction s with
  | zero => omega
  | succ s ih =>
    rcases Nat.lt_succ_iff_lt_or_eq.1 h with h | h
    · exact Nat.lt_trans (ih h) (V_succ s)
    · rw [h]; exact V_succ s
theorem V_lt_iff {r s : Nat} : V r < V s ↔ r < s := by
  refine ⟨fun h => ?_, V_lt⟩
  rcases Nat.lt_or_ge r s with h1 | h1
  · exact h1
  · rcases Nat.lt_or_eq_of_le h1 with h2 | h2
    · have := V_lt h2; omega
    · rw [h2] at h; omega
theorem V_inj {r s : Nat} (h : V r = V s) : r = s := by
  rcases Nat.lt_trichotomy r s with h1 | h1 | h1
  · have := V_lt h1; omega
  · exact h1
  · have := V_lt h1; omega

def sV (s : Bool) (n : Nat) : Int := if s = true then -(n : Int) else n
theorem sV_cmp (s t : Bool) (r u : Nat) : compare (sV s (V r)) (sV t (V u)) = compare (sV s r) (sV t u) := by
  have h1 := @V_lt_iff r u
  have h2 := @V_lt_iff u r
  have z1 := @V_lt_iff 0 r
  have z2 := @V_lt_iff 0 u
  rw [V_zero] at z1 z2
  have h3 : V r = V u ↔ r = u := ⟨V_inj, fun h => by rw [h]⟩
  generalize V r = a at *
  generalize V u = b at *
  unfold sV
  simp only [compare, compareOfLessAndEq]
  cases s <;> cases t <;> simp only [if_true, if_false, Bool.false_eq_true]
  all_goals
    repeat' split
  all_goals first | rfl | (exfalso; omega)

theorem signed_eq (s : Bool) (m u : Nat) : Ieee.signed s m u = sV s (m * 2 ^ u) := by
  unfold Ieee.signed sV
  rw [Nat.shiftLeft_eq]
theorem sV_scale (s t : Bool) (a b k : Nat) : compare (sV s (a * 2 ^ k)) (sV t (b * 2 ^ k)) = compare (sV s a) (sV t b) := by
  have hk : 0 < 2 ^ k := Nat.two_pow_pos k
  have h1 : a * 2 ^ k < b * 2 ^ k ↔ a < b := Nat.mul_lt_mul_right hk
  have h2 : b * 2 ^ k < a * 2 ^ k ↔ b < a := Nat.mul_lt_mul_right hk
  have z1 : 0 < a * 2 ^ k ↔ 0 < a := Nat.mul_pos_iff_of_pos_right hk
  have z2 : 0 < b * 2 ^ k ↔ 0 < b := Nat.mul_pos_iff_of_pos_right hk
  generalize a * 2 ^ k = a' at *
  generalize b * 2 ^ k = b' at *
  unfold sV
  simp only [compare, compareOfLessAndEq]
  cases s <;> cases t <;> simp only [if_true, if_false, Bool.false_eq_true]
  all_goals
    repeat' split
  all_goals first | rfl | (exfalso; omega)

/-- Two numbers, neither of them a NaN, stand as their signed rungs do. -/
theorem order_num (x y : Nat) (hx : ¬ isN x) (hy : ¬ isN y) : FloatKind.f64.format.order x y = some (compare (key x) (key y)) := by
  unfold isN at hx hy
  have kx : key x = sV (sgn x) (rung x) := rfl
  have ky : key y = sV (sgn y) (rung y) := rfl
  unfold Ieee.Format.order
  rcases Nat.lt_or_ge (rung x) 9218868437227405312 with fx | fx
  · obtain ⟨m, a, ex, vx, _⟩ := read_fin x fx
    rcases Nat.lt_or_ge (rung y) 9218868437227405312 with fy | fy
    · obtain ⟨n, b, ey, vy, _⟩ := read_fin y fy
      rw [ex, ey, kx, ky, ← sV_cmp, ← vx, ← vy]
      show some (compare (Ieee.signed _ _ _) (Ieee.signed _ _ _)) = _
      rw [signed_eq, signed_eq]
      congr 1
      rcases Nat.le_total a b with hab | hab
      · have e1 : (-1074 + (a : Int) - min (-1074 + (a : Int)) (-1074 + (b : Int))).toNat = 0 := by omega
        have e2 : (-1074 + (b : Int) - min (-1074 + (a : Int)) (-1074 + (b : Int))).toNat = b - a := by omega
        rw [e1, e2, ← sV_scale _ _ _ _ a, Nat.mul_assoc, Nat.mul_assoc, ← Nat.pow_add, ← Nat.pow_add, Nat.zero_add, Nat.sub_add_cancel hab]
      · have e1 : (-1074 + (a : Int) - min (-1074 + (a : Int)) (-1074 + (b : Int))).toNat = a - b := by omega
        have e2 : (-1074 + (b : Int) - min (-1074 + (a : Int)) (-1074 + (b : Int))).toNat = 0 := by omega
        rw [e1, e2, ← sV_scale _ _ _ _ b, Nat.mul_assoc, Nat.mul_assoc, ← Nat.pow_add, ← Nat.pow_add, Nat.zero_add, Nat.sub_add_cancel hab]
    · have ey := read_inf y (by omega)
      rw [ex, ey, kx, ky]
      show some _ = some _
      congr 1
      unfold sV
      simp only [compare, compareOfLessAndEq]
      cases sgn x <;> cases sgn y <;> simp only [if_true, if_false, Bool.false_eq_true]
      all_goals
        repeat' split
      all_goals first | rfl | (exfalso; omega)
  · have ex := read_inf x (by omega)
    rcases Nat.lt_or_ge (rung y) 9218868437227405312 with fy | fy
    · obtain ⟨n, b, ey, vy, _⟩ := read_fin y fy
      rw [ex, ey, kx, ky]
      show some _ = some _
      congr 1
      unfold sV
      simp only [compare, compareOfLessAndEq]
      cases sgn x <;> cases sgn y <;> simp only [if_true, if_false, Bool.false_eq_true]
      all_goals
        repeat' split
      all_goals first | rfl | (exfalso; omega)
    · have ey := read_inf y (by omega)
      rw [ex, ey, kx, ky]
      show some (compare _ _) = some _
      congr 1
      unfold sV
      simp only [compare, compareOfLessAndEq]
      cases sgn x <;> cases sgn y <;> simp only [if_true, if_false, Bool.false_eq_true, Bool.toNat_true, Bool.toNat_false]
      all_goals
        repeat' split
      all_goals first | rfl | (exfalso; omega)
theorem order_nan (x y : Nat) (h : isN x ∨ isN y) : FloatKind.f64.format.order x y = none := by
  unfold Ieee.Format.order
  rcases h with h | h
  · obtain ⟨t, e⟩ := read_nan x h
    rw [e]
    cases FloatKind.f64.format.read y <;> rfl
  · obtain ⟨t, e⟩ := read_nan y h
    rw [e]
    cases FloatKind.f64.format.read x <;> rfl

/-! ### Rounding -/

/-- A whole number of gaps is cut to that number. -/
theorem cut_whole (neg : Bool) (k d : Nat) : Ieee.Toward.even.cut neg (k * 2 ^ d) d = k := by
  unfold Ieee.Toward.cut
  rcases Nat.eq_zero_or_pos k with rfl | hk
  · simp [Nat.shiftLeft_eq]
  · have hl : d ≤ (k * 2 ^ d).log2 := (Nat.le_log2 (by have := Nat.two_pow_pos d; exact Nat.ne_of_gt (Nat.mul_pos hk this))).2 (Nat.le_mul_of_pos_left _ hk)
    rw [Nat.min_eq_left (by omega), Nat.shiftLeft_eq, Nat.one_mul]
    simp [Nat.mul_div_cancel _ (Nat.two_pow_pos d)]

theorem log2_of {n e : Nat} (h1 : 2 ^ e ≤ n) (h2 : n < 2 ^ (e + 1)) : n.log2 = e := by
  have hn : n ≠ 0 := by have := Nat.two_pow_pos e; omega
  have a := (Nat.le_log2 hn).2 h1
  have b := (Nat.log2_lt hn).2 h2
  omega

theorem word_eq (neg : Bool) (r : Nat) : FloatKind.f64.format.word neg r = if neg = true then 9223372036854775808 + r else r := by
  unfold Ieee.Format.word
  rw [fSign]

/-- A number that a finite rung has is rounded to that rung. -/
theorem nearest_exact (neg : Bool) (mag s p q : Nat) (place : Int) (hp : place + 1074 = (p : Int) - q) (hs : s < 9218868437227405312) (h : mag * 2 ^ p = V s * 2 ^ q) :
    FloatKind.f64.format.nearest neg mag place = FloatKind.f64.format.word neg s := by
  rcases Nat.eq_zero_or_pos s with rfl | hpos
  · rw [V_zero, Nat.zero_mul] at h
    have hm : mag = 0 := by
      rcases Nat.mul_eq_zero.1 h with h | h
      · exact h
      · have := Nat.two_pow_pos p; omega
    unfold Ieee.Format.nearest
    rw [if_pos hm]
  · have hV : 0 < V s := by have := V_lt hpos; rw [V_zero] at this; exact this
    have hm : mag ≠ 0 := by
      rintro rfl
      rw [Nat.zero_mul] at h
      have := Nat.mul_pos hV (Nat.two_pow_pos q)
      omega
    -- the significand and its exponent
    obtain ⟨f, e, hf, hse, hbig⟩ : ∃ f e : Nat, V s = f * 2 ^ e ∧ s = e * 4503599627370496 + f ∧ (f < 9007199254740992 ∧ (e = 0 ∨ 4503599627370496 ≤ f)) := by
      unfold V
      by_cases h1 : s < 4503599627370496
      · exact ⟨s, 0, by simp [h1], by omega, by omega, .inl rfl⟩
      · rw [if_neg h1]
        exact ⟨_, _, rfl, by omega, by omega, .inr (by omega)⟩
    have hfpos : 0 < f := by
      rcases Nat.eq_zero_or_pos f with rfl | hh
      · rw [Nat.zero_mul] at hf; omega
      · exact hh
    -- the number's greatest digit
    obtain ⟨L, hL1, hL2⟩ : ∃ L, 2 ^ L ≤ f ∧ f < 2 ^ (L + 1) := ⟨f.log2, Nat.log2_self_le (by omega), Nat.lt_log2_self⟩
    have hL52 : L ≤ 52 := by
      rcases Nat.lt_or_ge 52 L with hh | hh
      · have : 2 ^ 53 ≤ 2 ^ L := Nat.pow_le_pow_right (by omega) hh
        have e53 : (2 : Nat) ^ 53 = 9007199254740992 := by decide
        omega
      · exact hh
    have hLe : e = 0 ∨ L = 52 := by
      rcases hbig.2 with h0 | h0
      · exact .inl h0
      · right
        rcases Nat.lt_or_ge L 52 with hh | hh
        · have : 2 ^ (L + 1) ≤ 2 ^ 52 := Nat.pow_le_pow_right (by omega) hh
          have e52 : (2 : Nat) ^ 52 = 4503599627370496 := by decide
          omega
        · omega
    have hprod : mag * 2 ^ p = f * 2 ^ (e + q) := by rw [h, hf, Nat.mul_assoc, ← Nat.pow_add]
    have hlog : mag.log2 + p = L + e + q := by
      have h1 : (mag * 2 ^ p).log2 = mag.log2 + p := by
        refine log2_of ?_ ?_
        · rw [Nat.pow_add]; exact Nat.mul_le_mul_right _ (Nat.log2_self_le hm)
        · rw [show mag.log2 + p + 1 = (mag.log2 + 1) + p by omega, Nat.pow_add]; exact Nat.mul_lt_mul_of_pos_right Nat.lt_log2_self (Nat.two_pow_pos _)
      have h2 : (f * 2 ^ (e + q)).log2 = L + (e + q) := by
        refine log2_of ?_ ?_
        · rw [Nat.pow_add]; exact Nat.mul_le_mul_right _ hL1
        · rw [show L + (e + q) + 1 = (L + 1) + (e + q) by omega, Nat.pow_add 2 (L + 1) (e + q)]; exact Nat.mul_lt_mul_of_pos_right hL2 (Nat.two_pow_pos _)
      rw [hprod, h2] at h1
      omega
    have hlast : max (place + (mag.log2 : Int) - 52) (-1074) = -1074 + e := by omega
    unfold Ieee.Format.nearest
    rw [if_neg hm, fLeast, fFrac, fBin, fInf]
    show FloatKind.f64.format.word neg (min ((max (place + (mag.log2 : Int) - ((52 : Nat) : Int)) (-1074) - (-1074)).toNat * 4503599627370496 + Ieee.Toward.even.cut neg (mag <<< (place - max (place + (mag.log2 : Int) - ((52 : Nat) : Int)) (-1074)).toNat) (max (place + (mag.log2 : Int) - ((52 : Nat) : Int)) (-1074) - place).toNat) 9218868437227405312) = _
    rw [show ((52 : Nat) : Int) = 52 from rfl, hlast]
    have hkept : Ieee.Toward.even.cut neg (mag <<< (place - (-1074 + (e : Int))).toNat) (-1074 + (e : Int) - place).toNat = f := by
      rw [Nat.shiftLeft_eq]
      rcases Nat.le_total (e + q) p with hle | hle
      · -- the number is not finer than what is kept
        have e1 : (place - (-1074 + (e : Int))).toNat = p - (e + q) := by omega
        have e2 : (-1074 + (e : Int) - place).toNat = 0 := by omega
        have hmf : mag * 2 ^ (p - (e + q)) = f := by
          have : mag * 2 ^ (p - (e + q)) * 2 ^ (e + q) = f * 2 ^ (e + q) := by rw [Nat.mul_assoc, ← Nat.pow_add, Nat.sub_add_cancel hle, hprod]
          exact Nat.eq_of_mul_eq_mul_right (Nat.two_pow_pos _) this
        rw [e1, e2, hmf]
        have := cut_whole neg f 0
        rwa [Nat.pow_zero, Nat.mul_one] at this
      · have e1 : (place - (-1074 + (e : Int))).toNat = 0 := by omega
        have e2 : (-1074 + (e : Int) - place).toNat = e + q - p := by omega
        have hmf : mag = f * 2 ^ (e + q - p) := by
          have : mag * 2 ^ p = f * 2 ^ (e + q - p) * 2 ^ p := by rw [Nat.mul_assoc, ← Nat.pow_add, Nat.sub_add_cancel hle, hprod]
          exact Nat.eq_of_mul_eq_mul_right (Nat.two_pow_pos _) this
        rw [e1, e2, Nat.pow_zero, Nat.mul_one, hmf, cut_whole]
    rw [hkept]
    have e3 : (-1074 + (e : Int) - -1074).toNat = e := by omega
    rw [e3, ← hse, Nat.min_eq_left (by omega)]

/-- Every number of at most 53 digits, in units of the least one, has a rung. -/
theorem rung_of (a b : Nat) (ha : a < 9007199254740992) : ∃ s, V s = a * 2 ^ b := by
  rcases Nat.eq_zero_or_pos a with rfl | hpos
  · exact ⟨0, by rw [V_zero, Nat.zero_mul]⟩
  · obtain ⟨L, hL1, hL2⟩ : ∃ L, 2 ^ L ≤ a ∧ a < 2 ^ (L + 1) := ⟨a.log2, Nat.log2_self_le (by omega), Nat.lt_log2_self⟩
    have hL52 : L ≤ 52 := by
      rcases Nat.lt_or_ge 52 L with hh | hh
      · have : 2 ^ 53 ≤ 2 ^ L := Nat.pow_le_pow_right (by omega) hh
        have e53 : (2 : Nat) ^ 53 = 9007199254740992 := by decide
        omega
      · exact hh
    have e52 : (2 : Nat) ^ 52 = 4503599627370496 := by decide
    rcases Nat.le_total (L + b) 52 with hle | hle
    · have hlt : a * 2 ^ b < 9007199254740992 := by
        have h1 : a * 2 ^ b < 2 ^ (L + 1) * 2 ^ b := Nat.mul_lt_mul_of_pos_right hL2 (Nat.two_pow_pos _)
        rw [← Nat.pow_add] at h1
        have h2 : 2 ^ (L + 1 + b) ≤ 2 ^ 53 := Nat.pow_le_pow_right (by omega) (by omega)
        have e53 : (2 : Nat) ^ 53 = 9007199254740992 := by decide
        omega
      refine ⟨a * 2 ^ b, ?_⟩
      generalize a * 2 ^ b = n at *
      unfold V
      by_cases h1 : n < 4503599627370496
      · rw [if_pos h1]
      · rw [if_neg h1]
        have e1 : n / 4503599627370496 - 1 = 0 := by omega
        rw [e1, Nat.pow_zero, Nat.mul_one]
        omega
    · have hm1 : 4503599627370496 ≤ a * 2 ^ (52 - L) := by
        rw [← e52, show 2 ^ 52 = 2 ^ L * 2 ^ (52 - L) by rw [← Nat.pow_add]; congr 1; omega]
        exact Nat.mul_le_mul_right _ hL1
      have hm2 : a * 2 ^ (52 - L) < 9007199254740992 := by
        have h1 : a * 2 ^ (52 - L) < 2 ^ (L + 1) * 2 ^ (52 - L) := Nat.mul_lt_mul_of_pos_right hL2 (Nat.two_pow_pos _)
        rw [← Nat.pow_add, show L + 1 + (52 - L) = 53 by omega] at h1
        have e53 : (2 : Nat) ^ 53 = 9007199254740992 := by decide
        omega
      refine ⟨(L + b - 52) * 4503599627370496 + a * 2 ^ (52 - L), ?_⟩
      have hab : a * 2 ^ b = a * 2 ^ (52 - L) * 2 ^ (L + b - 52) := by rw [Nat.mul_assoc, ← Nat.pow_add]; congr 2; omega
      rw [hab]
      generalize a * 2 ^ (52 - L) = n at *
      generalize L + b - 52 = k at *
      unfold V
      rw [if_neg (by omega)]
      have e1 : (k * 4503599627370496 + n) / 4503599627370496 - 1 = k := by omega
      have e2 : 4503599627370496 + (k * 4503599627370496 + n) % 4503599627370496 = n := by omega
      rw [e1, e2]
end Go.Proofs.YtdpaiegojioimaaDoor

/-
  Float64 operations as plain functions on words: to the nearest whole number, times and by powers of two, differences, halves.
-/
namespace Go.Proofs.YtdpaiegojioimaaDoor

theorem rung_word (neg : Bool) (s : Nat) (h : s < 9223372036854775808) : rung (FloatKind.f64.format.word neg s) = s ∧ sgn (FloatKind.f64.format.word neg s) = neg := by
  rw [word_eq]
  unfold rung sgn
  cases neg
  · simp
    omega
  · simp
    omega
theorem word_of (x : Nat) (h : x < 18446744073709551616) : x = FloatKind.f64.format.word (sgn x) (rung x) := by
  rw [word_eq]
  unfold rung sgn
  by_cases hs : x / 9223372036854775808 % 2 = 1
  · simp [hs]; omega
  · simp [hs]; omega
theorem word_lt64 (neg : Bool) (s : Nat) (h : s < 9223372036854775808) : FloatKind.f64.format.word neg s < 18446744073709551616 := by
  rw [word_eq]
  split <;> omega

/-- To the nearest whole number of gaps, and between two to the even one. -/
def RE (n d : Nat) : Nat := n / 2 ^ d + if 2 ^ d < 2 * (n % 2 ^ d) ∨ 2 ^ d = 2 * (n % 2 ^ d) ∧ n / 2 ^ d % 2 = 1 then 1 else 0

theorem cut_even (neg : Bool) (n d : Nat) : Ieee.Toward.even.cut neg n d = RE n d := by
  unfold Ieee.Toward.cut RE
  rcases Nat.le_total d (n.log2 + 2) with h | h
  · rw [Nat.min_eq_left h, Nat.shiftLeft_eq, Nat.one_mul]
    congr 1
    by_cases h1 : 2 ^ d < 2 * (n % 2 ^ d)
    · simp [h1]
    · by_cases h2 : 2 ^ d = 2 * (n % 2 ^ d) ∧ n / 2 ^ d % 2 = 1
      · rw [if_pos (.inr h2)]
        simp [h2.2, ← h2.1]
      · rw [if_neg (by rintro (h | h) <;> contradiction)]
        simp only [h1, decide_false, Bool.false_or]
        rw [show ((2 ^ d == 2 * (n % 2 ^ d)) && (n / 2 ^ d % 2 == 1)) = false by
          rw [Bool.and_eq_false_iff]
          by_cases h3 : 2 ^ d = 2 * (n % 2 ^ d)
          · right; rw [beq_eq_false_iff_ne]; exact fun h4 => h2 ⟨h3, h4⟩
          · left; rw [beq_eq_false_iff_ne]; exact h3]
        rfl
  · rw [Nat.min_eq_right h, Nat.shiftLeft_eq, Nat.one_mul]
    have hn : 2 * n < 2 ^ (n.log2 + 2) := by
      have := @Nat.lt_log2_self n
      rw [Nat.pow_succ] at this ⊢
      rw [Nat.pow_succ]
      omega
    have hd : 2 ^ (n.log2 + 2) ≤ 2 ^ d := Nat.pow_le_pow_right (by omega) h
    dsimp only
    rw [Nat.div_eq_of_lt (show n < 2 ^ (n.log2 + 2) by omega), Nat.mod_eq_of_lt (show n < 2 ^ (n.log2 + 2) by omega), Nat.div_eq_of_lt (show n < 2 ^ d by omega), Nat.mod_eq_of_lt (show n < 2 ^ d by omega)]
    rw [if_neg (by omega)]
    have h1 : ¬ 2 ^ (n.log2 + 2) < 2 * n := by omega
    simp [h1]

theorem cut_zero (neg : Bool) (n d : Nat) : Ieee.Toward.zero.cut neg n d = n / 2 ^ d := by
  unfold Ieee.Toward.cut
  rcases Nat.le_total d (n.log2 + 2) with h | h
  · rw [Nat.min_eq_left h, Nat.shiftLeft_eq, Nat.one_mul]
    rfl
  · rw [Nat.min_eq_right h, Nat.shiftLeft_eq, Nat.one_mul]
    have hn : n < 2 ^ (n.log2 + 2) := by
      have := @Nat.lt_log2_self n
      have h2 : 2 ^ (n.log2 + 1) ≤ 2 ^ (n.log2 + 2) := Nat.pow_le_pow_right (by omega) (by omega)
      omega
    have hd : 2 ^ (n.log2 + 2) ≤ 2 ^ d := Nat.pow_le_pow_right (by omega) h
    dsimp only
    rw [Nat.div_eq_of_lt hn, Nat.div_eq_of_lt (show n < 2 ^ d by omega)]
    rfl

theorem RE_scale (n d k : Nat) : RE (n * 2 ^ k) (d + k) = RE n d := by
  unfold RE
  have hk : 0 < 2 ^ k := Nat.two_pow_pos k
  rw [Nat.pow_add, Nat.mul_div_mul_right _ _ hk, Nat.mul_mod_mul_right, ← Nat.mul_assoc]
  have e1 : 2 ^ d * 2 ^ k < 2 * (n % 2 ^ d) * 2 ^ k ↔ 2 ^ d < 2 * (n % 2 ^ d) := Nat.mul_lt_mul_right hk
  have e2 : 2 ^ d * 2 ^ k = 2 * (n % 2 ^ d) * 2 ^ k ↔ 2 ^ d = 2 * (n % 2 ^ d) := ⟨fun h => Nat.eq_of_mul_eq_mul_right hk h, fun h => congrArg (· * 2 ^ k) h⟩
  simp only [e1, e2]
theorem RE_whole (k d : Nat) : RE (k * 2 ^ d) d = k := by
  unfold RE
  have hd : 0 < 2 ^ d := Nat.two_pow_pos d
  rw [Nat.mul_div_cancel _ hd, Nat.mul_mod_left, if_neg (by omega)]
  rfl
theorem RE_le (n d k : Nat) (h : n ≤ k * 2 ^ d) : RE n d ≤ k := by
  unfold RE
  have hd : 0 < 2 ^ d := Nat.two_pow_pos d
  have hq : n / 2 ^ d ≤ k := by
    rw [← Nat.mul_div_cancel k hd]
    exact Nat.div_le_div_right h
  rcases Nat.lt_or_eq_of_le hq with hq | hq
  · split <;> omega
  · have hm := Nat.div_add_mod' n (2 ^ d)
    rw [hq] at hm
    rw [if_neg (by omega), hq]
    exact Nat.le_refl _

/-- The number of digits behind the point in the least unit. -/
def U : Nat := 1074
theorem hU : U = 1074 := rfl
attribute [irreducible] U

/-- A word's whole number, to the nearest and towards zero. -/
theorem integral_even (x : Nat) (h : rung x < 9218868437227405312) : (FloatKind.f64.decode x).integral .even = .number (sgn x) (RE (V (rung x)) U) 0 := by
  have hu := hU
  obtain ⟨m, a, ex, vx, _⟩ := read_fin x h
  show (FloatKind.f64.format.read x).integral .even = _
  rw [ex]
  show Ieee.Datum.number (sgn x) (Ieee.Toward.even.cut (sgn x) (m <<< (-1074 + (a : Int)).toNat) (-(-1074 + (a : Int))).toNat) 0 = _
  congr 1
  rw [cut_even, Nat.shiftLeft_eq, ← vx]
  rcases Nat.le_total a U with ha | ha
  · have e1 : (-1074 + (a : Int)).toNat = 0 := by omega
    have e2 : (-(-1074 + (a : Int))).toNat = U - a := by omega
    rw [e1, e2, Nat.pow_zero, Nat.mul_one]
    have := RE_scale m (U - a) a
    rw [Nat.sub_add_cancel ha] at this
    exact this.symm
  · have e1 : (-1074 + (a : Int)).toNat = a - U := by omega
    have e2 : (-(-1074 + (a : Int))).toNat = 0 := by omega
    rw [e1, e2]
    have h1 := RE_whole (m * 2 ^ (a - U)) 0
    rw [Nat.pow_zero, Nat.mul_one] at h1
    have h2 := RE_whole (m * 2 ^ (a - U)) U
    rw [Nat.mul_assoc, ← Nat.pow_add, Nat.sub_add_cancel ha] at h2
    rw [h1, h2]
theorem toInt_zero (x : Nat) (h : rung x < 9218868437227405312) : (FloatKind.f64.decode x).toInt .zero = some (sV (sgn x) (V (rung x) / 2 ^ U)) := by
  have hu := hU
  obtain ⟨m, a, ex, vx, _⟩ := read_fin x h
  unfold Ieee.Datum.toInt
  show (match (FloatKind.f64.format.read x).integral .zero with | .number s m _ => some (Ieee.signed s m 0) | _ => none) = _
  rw [ex]
  show some (Ieee.signed (sgn x) (Ieee.Toward.zero.cut (sgn x) (m <<< (-1074 + (a : Int)).toNat) (-(-1074 + (a : Int))).toNat) 0) = _
  rw [signed_eq, cut_zero, Nat.shiftLeft_eq, Nat.pow_zero, Nat.mul_one, ← vx]
  congr 2
  rcases Nat.le_total a U with ha | ha
  · have e1 : (-1074 + (a : Int)).toNat = 0 := by omega
    have e2 : (-(-1074 + (a : Int))).toNat = U - a := by omega
    rw [e1, e2, Nat.pow_zero, Nat.mul_one]
    have : m * 2 ^ a / (2 ^ (U - a) * 2 ^ a) = m / 2 ^ (U - a) := Nat.mul_div_mul_right _ _ (Nat.two_pow_pos a)
    rw [← Nat.pow_add, Nat.sub_add_cancel ha] at this
    exact this.symm
  · have e1 : (-1074 + (a : Int)).toNat = a - U := by omega
    have e2 : (-(-1074 + (a : Int))).toNat = 0 := by omega
    rw [e1, e2, Nat.pow_zero, Nat.div_one]
    have : m * 2 ^ (a - U) * 2 ^ U / 2 ^ U = m * 2 ^ (a - U) := Nat.mul_div_cancel _ (Nat.two_pow_pos _)
    rw [Nat.mul_assoc, ← Nat.pow_add, Nat.sub_add_cancel ha] at this
    exact this.symm

/-- The magnitude of a word with nothing in its fraction field. -/
theorem V_pow (e : Nat) (he : 0 < e) : V (e * 4503599627370496) = 2 ^ (51 + e) := by
  unfold V
  rw [if_neg (by omega)]
  have e1 : e * 4503599627370496 / 4503599627370496 - 1 = e - 1 := by omega
  have e2 : 4503599627370496 + e * 4503599627370496 % 4503599627370496 = 2 ^ 52 := by
    have : (2 : Nat) ^ 52 = 4503599627370496 := by decide
    omega
  rw [e1, e2, ← Nat.pow_add]
  congr 1
  omega

/-- A number of at most 53 digits times a power of two, written. -/
theorem write_exact (neg : Bool) (mag a b p q : Nat) (place : Int) (hp : place + 1074 = (p : Int) - q) (ha : a < 9007199254740992) (hb : b ≤ 2000) (h : mag * 2 ^ p = a * 2 ^ b * 2 ^ q) :
    ∃ s, s < 9218868437227405312 ∧ V s = a * 2 ^ b ∧ FloatKind.f64.format.nearest neg mag place = FloatKind.f64.format.word neg s := by
  obtain ⟨s, hs⟩ := rung_of a b ha
  have hlt : s < 9218868437227405312 := by
    obtain ⟨e, he⟩ : ∃ e, e = 2047 := ⟨_, rfl⟩
    have hV := V_pow e (by omega)
    rw [show 9218868437227405312 = e * 4503599627370496 by omega]
    rw [← V_lt_iff, hs, hV]
    have h53 : a < 2 ^ 53 := by
      have : (2 : Nat) ^ 53 = 9007199254740992 := by decide
      omega
    have h1 : a * 2 ^ b < 2 ^ 53 * 2 ^ b := Nat.mul_lt_mul_of_pos_right h53 (Nat.two_pow_pos _)
    rw [← Nat.pow_add] at h1
    exact Nat.lt_of_lt_of_le h1 (Nat.pow_le_pow_right (by omega) (by omega))
  exact ⟨s, hlt, hs, nearest_exact neg mag s p q place hp hlt (by rw [hs]; exact h)⟩

/-- A whole number as a float. -/
theorem ofInt_exact (n : Nat) (hn : n < 9007199254740992) : ∃ s, s < 9218868437227405312 ∧ V s = n * 2 ^ U ∧ floatOfInt .f64 (n : Int) = s := by
  have hu := hU
  obtain ⟨s, h1, h2, h3⟩ := write_exact false n n U U 0 0 (by omega) hn (by omega) (by rw [Nat.pow_zero, Nat.mul_one])
  refine ⟨s, h1, h2, ?_⟩
  show FloatKind.f64.format.nearest (decide ((n : Int) < 0)) (n : Int).natAbs 0 = s
  rw [show decide ((n : Int) < 0) = false by simp, Int.natAbs_natCast, h3, word_eq]
  rfl

theorem read_pow (e : Nat) (h1 : 0 < e) (h2 : e < 2047) : FloatKind.f64.format.read (e * 4503599627370496) = .number false 4503599627370496 (-1074 + ((e - 1 : Nat) : Int)) := by
  have hr : rung (e * 4503599627370496) = e * 4503599627370496 := by unfold rung; omega
  have hs : sgn (e * 4503599627370496) = false := by
    unfold sgn
    rw [show e * 4503599627370496 / 9223372036854775808 = 0 by omega]
    rfl
  rw [read_eq, hr, hs, if_neg (by omega), if_pos (by omega)]
  have e1 : e * 4503599627370496 % 4503599627370496 = 0 := by omega
  have e2 : e * 4503599627370496 / 4503599627370496 = e := by omega
  rw [e1, e2]
theorem read_small (x : Nat) (h : rung x < 9007199254740992) : FloatKind.f64.format.read x = .number (sgn x) (rung x) (-1074) := by
  rw [read_eq]
  by_cases h1 : rung x < 4503599627370496
  · rw [if_pos h1]
  · rw [if_neg h1, if_pos (by omega)]
    have e1 : rung x / 4503599627370496 - 1 = 0 := by omega
    have e2 : 4503599627370496 + rung x % 4503599627370496 = rung x := by omega
    rw [e1, e2]
    rfl

/-- A quotient by a power of two, ahead of its rounding. -/
theorem quo_pow (s : Bool) (m e : Nat) (i : Int) (hm : m < 9007199254740992) : ∃ more : Nat, 54 ≤ more ∧
    (Ieee.Datum.number s m i).quotient 54 (.number false 4503599627370496 (-1074 + ((e - 1 : Nat) : Int))) = some (.number s (m * 2 ^ (more - 51)) (i + 1074 - ((e - 1 : Nat) : Int) - more - 1)) := by
  have hl : (4503599627370496 : Nat).log2 = 52 := log2_of (by decide) (by decide)
  have hml : m.log2 ≤ 52 := by
    rcases Nat.eq_zero_or_pos m with rfl | hp
    · rw [Nat.log2_zero]; omega
    · have := (Nat.log2_lt (show m ≠ 0 by omega)).2 (show m < 2 ^ 53 by
        have : (2 : Nat) ^ 53 = 9007199254740992 := by decide
        omega)
      omega
  refine ⟨54 + 52 - m.log2, by omega, ?_⟩
  show (if (4503599627370496 : Nat) = 0 then (if m = 0 then none else some (Ieee.Datum.infinity (s ^^ false))) else some (Ieee.Datum.number (s ^^ false) (2 * (m <<< (54 + (4503599627370496 : Nat).log2 - m.log2) / 4503599627370496) + (m <<< (54 + (4503599627370496 : Nat).log2 - m.log2) % 4503599627370496 != 0).toNat) (i - (-1074 + ((e - 1 : Nat) : Int)) - ((54 + (4503599627370496 : Nat).log2 - m.log2 : Nat) : Int) - 1))) = _
  rw [if_neg (by omega), hl]
  generalize hmore : 54 + 52 - m.log2 = more
  have h54 : 54 ≤ more := by omega
  have e1 : m <<< more = m * 2 ^ (more - 52) * 4503599627370496 := by
    rw [Nat.shiftLeft_eq, Nat.mul_assoc, show (4503599627370496 : Nat) = 2 ^ 52 by decide, ← Nat.pow_add, Nat.sub_add_cancel (by omega)]
  rw [e1, Nat.mul_div_cancel _ (by omega), Nat.mul_mod_left]
  have e2 : 2 * (m * 2 ^ (more - 52)) = m * 2 ^ (more - 51) := by
    rw [show more - 51 = more - 52 + 1 by omega, Nat.pow_succ, Nat.mul_left_comm, Nat.mul_comm 2 (2 ^ (more - 52))]
  rw [e2, Bool.xor_false]
  congr 2
  omega

/-- Half a number that is not nought is another one. -/
theorem half_ne (x : Nat) (h0 : 0 < rung x) (h1 : rung x < 9218868437227405312) : ∃ r, FloatKind.f64.format.div x 4611686018427387904 = some r ∧ (FloatKind.f64.format.order x r == some .eq) = false ∧ ¬ isN r := by
  have hy : (4611686018427387904 : Nat) = 1024 * 4503599627370496 := by omega
  have hx : ¬ isN x := by unfold isN; omega
  have fin : ∀ s, s < 9218868437227405312 → s ≠ rung x → ∃ r, some (FloatKind.f64.format.word (sgn x) s) = some r ∧ (FloatKind.f64.format.order x r == some .eq) = false ∧ ¬ isN r := by
    intro s hs hne
    obtain ⟨hw1, hw2⟩ := rung_word (sgn x) s (by omega)
    have hr : ¬ isN (FloatKind.f64.format.word (sgn x) s) := by unfold isN; omega
    refine ⟨_, rfl, ?_, hr⟩
    rw [order_num x _ hx hr]
    unfold key
    rw [hw1, hw2]
    simp only [compare, compareOfLessAndEq]
    cases sgn x <;> simp only [if_true, if_false, Bool.false_eq_true]
    all_goals
      repeat' split
    all_goals first | rfl | (exfalso; omega)
  unfold Ieee.Format.div
  rw [fFrac, hy, read_pow 1024 (by omega) (by omega)]
  rcases Nat.lt_or_ge (rung x) 9007199254740992 with hs | hs
  · rw [read_small x hs]
    obtain ⟨more, h54, hq⟩ := quo_pow (sgn x) (rung x) 1024 (-1074) hs
    rw [hq]
    show ∃ r, some (FloatKind.f64.format.nearest _ _ _) = some r ∧ _
    have hn : FloatKind.f64.format.nearest (sgn x) (rung x * 2 ^ (more - 51)) (-1074 + 1074 - ((1024 - 1 : Nat) : Int) - more - 1) = FloatKind.f64.format.word (sgn x) (RE (rung x) 1) := by
      have hne : rung x * 2 ^ (more - 51) ≠ 0 := Nat.ne_of_gt (Nat.mul_pos h0 (Nat.two_pow_pos _))
      have hlog : (rung x * 2 ^ (more - 51)).log2 = (rung x).log2 + (more - 51) := by
        refine log2_of ?_ ?_
        · rw [Nat.pow_add]; exact Nat.mul_le_mul_right _ (Nat.log2_self_le (by omega))
        · rw [show (rung x).log2 + (more - 51) + 1 = ((rung x).log2 + 1) + (more - 51) by omega, Nat.pow_add]; exact Nat.mul_lt_mul_of_pos_right Nat.lt_log2_self (Nat.two_pow_pos _)
      have hl52 : (rung x).log2 ≤ 52 := by
        have := (Nat.log2_lt (show rung x ≠ 0 by omega)).2 (show rung x < 2 ^ 53 by
          have : (2 : Nat) ^ 53 = 9007199254740992 := by decide
          omega)
        omega
      unfold Ieee.Format.nearest
      rw [if_neg hne, fLeast, fFrac, fBin, fInf, hlog]
      generalize hplace : (-1074 + 1074 - ((1024 - 1 : Nat) : Int) - (more : Int) - 1) = place
      have hl : max (place + (((rung x).log2 + (more - 51) : Nat) : Int) - ((52 : Nat) : Int)) (-1074) = -1074 := by omega
      show FloatKind.f64.format.word (sgn x) (min ((max (place + (((rung x).log2 + (more - 51) : Nat) : Int) - ((52 : Nat) : Int)) (-1074) - (-1074)).toNat * 4503599627370496 + Ieee.Toward.even.cut (sgn x) ((rung x * 2 ^ (more - 51)) <<< (place - max (place + (((rung x).log2 + (more - 51) : Nat) : Int) - ((52 : Nat) : Int)) (-1074)).toNat) (max (place + (((rung x).log2 + (more - 51) : Nat) : Int) - ((52 : Nat) : Int)) (-1074) - place).toNat) 9218868437227405312) = _
      rw [hl, Nat.shiftLeft_eq]
      have e1 : (place - -1074).toNat = 0 := by omega
      have e2 : (-1074 - place).toNat = 1 + (more - 51) := by omega
      have e3 : ((-1074 : Int) - -1074).toNat = 0 := by omega
      rw [e1, e2, e3, Nat.pow_zero, Nat.mul_one, Nat.zero_mul, Nat.zero_add, cut_even, RE_scale]
      have := RE_le (rung x) 1 (rung x) (by omega)
      rw [Nat.min_eq_left (by omega)]
    rw [hn]
    have hle := RE_le (rung x) 1 (rung x) (by omega)
    refine fin _ (by omega) ?_
    unfold RE
    split <;> omega
  · obtain ⟨m, a, ex, vx, hm⟩ := read_fin x h1
    rw [ex]
    obtain ⟨more, h54, hq⟩ := quo_pow (sgn x) m 1024 (-1074 + (a : Int)) hm
    rw [hq]
    show ∃ r, some (FloatKind.f64.format.nearest _ _ _) = some r ∧ _
    have hV : V (rung x) = 2 * V (rung x - 4503599627370496) := by
      unfold V
      rw [if_neg (by omega), if_neg (by omega)]
      have e1 : (rung x - 4503599627370496) % 4503599627370496 = rung x % 4503599627370496 := by omega
      have e2 : rung x / 4503599627370496 - 1 = (rung x - 4503599627370496) / 4503599627370496 - 1 + 1 := by omega
      rw [e1, e2, Nat.pow_succ, Nat.mul_comm (2 ^ _) 2, Nat.mul_left_comm]
    rw [nearest_exact (sgn x) _ (rung x - 4503599627370496) (a + 51) (more + 1) _ (by omega) (by omega) (by
      rw [Nat.mul_assoc, ← Nat.pow_add, show more - 51 + (a + 51) = a + more by omega, Nat.pow_add, ← Nat.mul_assoc, vx, hV, Nat.pow_succ, Nat.mul_comm 2, Nat.mul_assoc, Nat.mul_comm (2 ^ more) 2])]
    exact fin _ (by omega) (by omega)
end Go.Proofs.YtdpaiegojioimaaDoor

/-
  Contracts of layer 3 (share) and of its reference: what a float is, whether two are the same, which stands ahead.
-/
namespace Go.Proofs.YtdpaiegojioimaaDoor
open Go.ChangeShapes Go.WideShapes Go.ChangeAt Go.RowKit
set_option linter.unusedVariables false

theorem xor_sign (r : Nat) (h : r < 9223372036854775808) : r ^^^ 9223372036854775808 = 9223372036854775808 + r := by
  have e63 : (9223372036854775808 : Nat) = 2 ^ 63 := by decide
  rw [e63] at h ⊢
  refine Nat.eq_of_testBit_eq fun i => ?_
  rw [Nat.testBit_xor, Nat.testBit_two_pow]
  rcases Nat.lt_trichotomy i 63 with h1 | h1 | h1
  · rw [Nat.testBit_two_pow_add_gt h1, decide_eq_false (by omega), Bool.xor_false]
  · subst h1
    rw [Nat.testBit_two_pow_add_eq]
    simp
  · have h2 : (2 : Nat) ^ 64 ≤ 2 ^ i := Nat.pow_le_pow_right (by omega) h1
    rw [Nat.testBit_lt_two_pow (show r < 2 ^ i by omega), Nat.testBit_lt_two_pow (show 2 ^ 63 + r < 2 ^ i by omega), decide_eq_false (by omega)]
    rfl
theorem neg_word (x : Nat) (hx : x < 18446744073709551616) : Op.negFloat .f64 x = FloatKind.f64.format.word (!sgn x) (rung x) := by
  have e : Op.negFloat .f64 x = x ^^^ 9223372036854775808 := by
    unfold Op.negFloat
    rfl
  rw [e, word_eq]
  unfold sgn rung
  have h := Nat.div_add_mod x 9223372036854775808
  have hm : x % 9223372036854775808 < 9223372036854775808 := Nat.mod_lt _ (by omega)
  generalize x % 9223372036854775808 = r at *
  rcases (show x / 9223372036854775808 = 0 ∨ x / 9223372036854775808 = 1 by omega) with h0 | h0
  · rw [h0] at h ⊢
    obtain rfl : x = r := by omega
    simpa using xor_sign x hm
  · rw [h0] at h ⊢
    obtain rfl : x = 9223372036854775808 + r := by omega
    rw [← xor_sign r hm, Nat.xor_assoc, Nat.xor_self, Nat.xor_zero]
    rfl

/-! ### What a float is -/
def kindOf (x : Nat) : Int :=
  if 9218868437227405312 < rung x then 0
  else if rung x = 9218868437227405312 then (if sgn x = true then 1 else 6)
  else if rung x = 0 then (if sgn x = true then 3 else 4)
  else if sgn x = true then 2 else 5

/-- The seven kinds, with what the comparisons say of each. -/
theorem kind_ways (x : Nat) (hx : x < 18446744073709551616) :
    (isN x ∧ kindOf x = 0) ∨ (¬ isN x ∧ rung x = 9218868437227405312 ∧ sgn x = true ∧ kindOf x = 1) ∨ (¬ isN x ∧ rung x = 9218868437227405312 ∧ sgn x = false ∧ kindOf x = 6) ∨
    (¬ isN x ∧ rung x = 0 ∧ sgn x = true ∧ kindOf x = 3) ∨ (¬ isN x ∧ rung x = 0 ∧ sgn x = false ∧ kindOf x = 4) ∨
    (¬ isN x ∧ 0 < rung x ∧ rung x < 9218868437227405312 ∧ sgn x = true ∧ kindOf x = 2) ∨ (¬ isN x ∧ 0 < rung x ∧ rung x < 9218868437227405312 ∧ sgn x = false ∧ kindOf x = 5) := by
  unfold kindOf isN
  cases sgn x
  all_goals
    by_cases h1 : 9218868437227405312 < rung x
    · left; exact ⟨h1, if_pos h1⟩
    · rw [if_neg h1]
      by_cases h2 : rung x = 9218868437227405312
      · rw [if_pos h2]; simp [h2]
      · rw [if_neg h2]
        by_cases h3 : rung x = 0
        · rw [if_pos h3]; simp [h3]
        · rw [if_neg h3]; simp [h1, h2, h3]; omega

/-- A comparison with a constant that is no NaN. -/
theorem order_key (x y : Nat) (c : Int) (hx : ¬ isN x) (hy : ¬ isN y) (hc : key y = c) : FloatKind.f64.format.order x y = some (compare (key x) c) := by rw [order_num x y hx hy, hc]
theorem cmp_lt {a b : Int} (h : a < b) : compare a b = .lt := by simp only [compare, compareOfLessAndEq]; rw [if_pos h]
theorem cmp_eq {a b : Int} (h : a = b) : compare a b = .eq := by simp only [compare, compareOfLessAndEq]; rw [if_neg (by omega), if_pos h]
theorem cmp_gt {a b : Int} (h : b < a) : compare a b = .gt := by simp only [compare, compareOfLessAndEq]; rw [if_neg (by omega), if_neg (by omega)]

theorem isN_zero : ¬ isN 0 := by unfold isN rung; omega
theorem key_zero : key 0 = 0 := by unfold key sgn rung; simp
theorem isN_max : ¬ isN 9218868437227405311 := by unfold isN rung; omega
theorem key_max : key 9218868437227405311 = 9218868437227405311 := by unfold key sgn rung; simp
theorem isN_one : ¬ isN 4607182418800017408 := by unfold isN rung; omega
theorem key_one : key 4607182418800017408 = 4607182418800017408 := by unfold key sgn rung; simp

theorem order_self (x : Nat) (hx : ¬ isN x) : FloatKind.f64.format.order x x = some .eq := by rw [order_num x x hx hx, cmp_eq rfl]
theorem order_self_nan (x : Nat) (hx : isN x) : FloatKind.f64.format.order x x = none := order_nan x x (.inl hx)

end Go.Proofs.YtdpaiegojioimaaDoor

/-
  Slices of integers that came in: their cells.
-/
namespace Go.Proofs.YtdpaiegojioimaaDoor
open Go.ChangeShapes Go.WideShapes Go.ChangeAt Go.RowKit
set_option linter.unusedVariables false

def fit64 (x : Int) : Prop := -9223372036854775808 ≤ x ∧ x ≤ 9223372036854775807

/-- The first n integers of a slice lie in old memory as X says. -/
def IntCells (w : World) (B : Nat) (A : Option Addr) (n : Nat) (X : Nat → Int) : Prop :=
  ∀ i, i < n → ∃ b off, A = some ⟨b, off, none⟩ ∧ b < B ∧ w.cell? ⟨b, off + i, none⟩ = some (.int .i64 (X i))

theorem IntCells.below {w w' : World} {B : Nat} {A : Option Addr} {n : Nat} {X : Nat → Int} (h : IntCells w B A n X) (hb : Below B w w') : IntCells w' B A n X := fun i hi => by
  obtain ⟨b, off, hA, hbB, hc⟩ := h i hi
  rw [← hb.cell (p := ⟨b, _, none⟩) hbB] at hc
  exact ⟨b, off, hA, hbB, hc⟩
theorem IntCells.mono {w : World} {B B' : Nat} {A : Option Addr} {n : Nat} {X : Nat → Int} (h : IntCells w B A n X) (hB : B ≤ B') : IntCells w B' A n X := fun i hi => by
  obtain ⟨b, off, hA, hbB, hc⟩ := h i hi
  exact ⟨b, off, hA, Nat.lt_of_lt_of_le hbB hB, hc⟩

set_option maxRecDepth 100000 in
theorem int_cells {W : World} {base : Nat} {H : Type} {enc : TypeId × Value → H} {v : Value} {d : DataW H} {p : List MemPlace} (hv : Value.okWide Tryd.prog W .any base 36 v)
    (h : DataW.Trod enc Tryd.prog W 0 (fun _ => true) true 36 v d p) : ∃ A len cap X, v = .slice A len cap ∧ len ≤ cap ∧ cap ≤ 9223372036854775807 ∧ IntCells W W.heap.size A len X ∧ ∀ i, i < len → fit64 (X i) := by
  have hC : Tryd.prog.cellsOf 3 = 1 := by kernel_rfl
  obtain ⟨A, len, cap, rfl, hl, hm, hi⟩ := slice_elems Tryd.underlying36 (by omega) hv h
  obtain ⟨X, hX⟩ := Deep.choose_lt (α := Int) (n := len) (p := fun i x => (∃ b off, A = some ⟨b, off, none⟩ ∧ b < W.heap.size ∧ W.cell? ⟨b, off + i, none⟩ = some (.int .i64 x)) ∧ fit64 x) (fun i hlt => by
    obtain ⟨b, off, n, cs, x, hA, hb, hlen, hat, hx⟩ := hi i hlt
    rw [hC] at hlen hat
    have h0 := hat 0 (by omega)
    obtain ⟨u, rfl⟩ : ∃ u, cs = [u] := by
      match cs, hlen with
      | [u], _ => exact ⟨u, rfl⟩
    obtain ⟨k, rfl, hw⟩ := cell_int Tryd.underlying3 hx
    exact ⟨k, ⟨b, off, hA, hb, by simpa using h0⟩, i64_in hw⟩)
  exact ⟨A, len, cap, X, rfl, hl, by simpa [maxLen] using hm, fun i hi => (hX i hi).1, fun i hi => (hX i hi).2⟩

/-- The first n numbers of kind k of a slice. -/
def NumCells (k : IntKind) (w : World) (B : Nat) (A : Option Addr) (n : Nat) (X : Nat → Int) : Prop :=
  ∀ i, i < n → ∃ b off, A = some ⟨b, off, none⟩ ∧ b < B ∧ w.cell? ⟨b, off + i, none⟩ = some (.int k (X i))
theorem num_cells {P : Program} {W : World} {base : Nat} {H : Type} {enc : TypeId × Value → H} {v : Value} {d : DataW H} {p : List MemPlace} {t e : TypeId} {k : IntKind} (ht : P.underlying t = some (.slice e)) (he : P.underlying e = some (.int k)) (hC : P.cellsOf e = 1)
    (hv : Value.okWide P W .any base t v) (h : DataW.Trod enc P W 0 (fun _ => true) true t v d p) : ∃ A len cap X, v = .slice A len cap ∧ len ≤ cap ∧ cap ≤ 9223372036854775807 ∧ NumCells k W W.heap.size A len X ∧ ∀ i, i < len → (Lit.int k (X i)).wf = true := by
  obtain ⟨A, len, cap, rfl, hl, hm, hi⟩ := slice_elems ht (by omega) hv h
  obtain ⟨X, hX⟩ := Deep.choose_lt (α := Int) (n := len) (p := fun i x => (∃ b off, A = some ⟨b, off, none⟩ ∧ b < W.heap.size ∧ W.cell? ⟨b, off + i, none⟩ = some (.int k x)) ∧ (Lit.int k x).wf = true) (fun i hlt => by
    obtain ⟨b, off, n, cs, x, hA, hb, hlen, hat, hx⟩ := hi i hlt
    rw [hC] at hlen hat
    have h0 := hat 0 (by omega)
    obtain ⟨u, rfl⟩ : ∃ u, cs = [u] := by
      match cs, hlen with
      | [u], _ => exact ⟨u, rfl⟩
    obtain ⟨y, rfl, hw⟩ := cell_int he hx
    exact ⟨y, ⟨b, off, hA, hb, by simpa using h0⟩, hw⟩)
  exact ⟨A, len, cap, X, rfl, hl, by simpa [maxLen] using hm, fun i hi => (hX i hi).1, fun i hi => (hX i hi).2⟩
theorem u16_in {n : Int} (h : (Lit.int .u16 n).wf = true) : 0 ≤ n ∧ n ≤ 65535 := by
  simpa [Lit.wf, IntKind.min, IntKind.max, IntKind.signed, IntKind.bits] using h

section
variable {H : Type} {enc : TypeId × Value → H} {P : Program} {w : World} {base : Nat} {sp : Nat → Bool}
theorem okWide_array {t e : TypeId} {n : Nat} {v : Value} {r : Reach} {b0 : Nat} (ht : P.underlying t = some (.array n e)) (h : Value.okWide P w r b0 t v) : ∃ cs, v = .agg cs ∧ cs.size = P.cellsOf t := by
  unfold Value.okWide at h
  rw [ht] at h
  cases v <;> simp_all
/-- An array of integers by value. -/
theorem open_ints_array {t e : TypeId} {n : Nat} {v : Value} {d : DataW H} {p : List MemPlace} {r : Reach} {b0 : Nat} (ht : P.underlying t = some (.array n e)) (he : P.underlying e = some (.int .i64)) (hC : P.cellsOf e = 1)
    (hv : Value.okWide P w r b0 t v) (h : DataW.Trod enc P w base sp true t v d p) : ∃ cs : Array Value, v = .agg cs ∧ cs.size = P.cellsOf t ∧ ∀ i, i < n → ∃ x, cs[i]? = some (.int .i64 x) ∧ fit64 x := by
  obtain ⟨cs, rfl, hsz⟩ := okWide_array ht hv
  obtain ⟨fuel, hf⟩ := h
  obtain ⟨xs, m, _, _, hlen, hn, hi⟩ := DataW.trod_array ht hf
  refine ⟨cs, rfl, hsz, fun i hlt => ?_⟩
  have g := hi i hlt
  rw [List.getElem?_eq_getElem (by omega), hC, Nat.mul_one] at g
  have hcs : (Value.agg cs).cells.toList = cs.toList := rfl
  rw [hcs] at g
  cases hd : cs.toList.drop i with
  | nil => 
    rw [hd] at g
    simp at g
    obtain ⟨k, hk, _, _⟩ := DataW.trod_int he g
    cases hk
  | cons u us =>
    rw [hd] at g
    simp at g
    obtain ⟨k, rfl, hw⟩ := cell_int he g
    refine ⟨k, ?_, i64_in hw⟩
    have : cs.toList[i]? = some (Value.int .i64 k) := by
      rw [← List.head?_drop, hd]
      rfl
    simpa using this
end
end Go.Proofs.YtdpaiegojioimaaDoor

/-
  octets' PutFloat and PutBool and the reference's (layer 9); the laws' example; bytes that came in.
-/
namespace Go.Proofs.YtdpaiegojioimaaDoor
open Go.ChangeShapes Go.WideShapes Go.ChangeAt Go.RowKit Go.Deep
set_option linter.unusedVariables false
set_option linter.unusedSimpArgs false

/-- The bits that are written of a float. -/
def fltN (x : Nat) : Nat := if 9218868437227405312 < rung x then 9221120237041090560 else x
theorem fltN_lt (x : Nat) (h : x < 18446744073709551616) : fltN x < 18446744073709551616 := by unfold fltN; split <;> omega

def bitB (c : Bool) : List UInt8 := if c then [1] else [0]
theorem tryAt (w : World) (l : List UInt8) : At (tryW w (S l)) (w.heap.size + 1) l := by
  have := (Box1.new (w.alloc (.cells #[.int .i64 0] 28)) 116 (.string (S l))).carry ((Touch.refl [] _).alloc (.cells #[.pointer (some ⟨w.heap.size + 1, 0, none⟩)] 82)) (by simp)
  rwa [show (w.alloc (.cells #[.int .i64 0] 28)).heap.size = w.heap.size + 1 by simp] at this
set_option maxRecDepth 100000 in
/-- Bytes that came in. -/
theorem bts_in {W : World} {base : Nat} {H : Type} {enc : TypeId × Value → H} {v : Value} {d : DataW H} {p : List MemPlace}
    (hv : Value.okWide Tryd.prog W .any base 89 v) (h : DataW.Trod enc Tryd.prog W 0 (fun _ => true) true 89 v d p) : ∃ l, Bts W v l := by
  obtain ⟨A, len, cap, X, rfl, hl, hm, hX, hF⟩ := num_cells (k := .u8) Tryd.underlying89 Tryd.underlying5 (by kernel_rfl) hv h
  refine ⟨(List.range len).map fun i => UInt8.ofNat (X i).toNat, A, cap, by simp, by simpa using hl, by simpa [maxLen] using hm, fun e => ?_, fun ad ha j u hu => ?_⟩
  · cases len with
    | zero => rfl
    | succ k =>
      obtain ⟨b, off, hA, _⟩ := hX 0 (by omega)
      rw [hA] at e
      cases e
  · have hj : j < len := by
      have := (List.getElem?_eq_some_iff.1 hu).1
      simpa [byt_length] using this
    obtain ⟨b, off, hA, hb, hc⟩ := hX j hj
    obtain rfl : ⟨b, off, none⟩ = ad := by rw [hA] at ha; simpa using ha
    have h8 := u8_in (hF j hj)
    rw [show (⟨b, off, none⟩ : Addr).add j = ⟨b, off + j, none⟩ by unfold Addr.add; split <;> simp_all, hc, ← hu]
    have e1 : ((X j).toNat % 256 : Nat) = (X j).toNat := by omega
    simp [byt, hj]
    omega
end Go.Proofs.YtdpaiegojioimaaDoor

/-
  octets' Var (layer 9): the length of a variable-length integer, and its number.
-/
namespace Go.Proofs.YtdpaiegojioimaaDoor
open Go.ChangeShapes Go.WideShapes Go.ChangeAt Go.RowKit Go.Deep
set_option linter.unusedVariables false
set_option linter.unusedSimpArgs false

/-- How many bytes at the beginning are not the last one of a number. -/
def lead : List UInt8 → Nat
  | [] => 0
  | b :: l => if 128 ≤ b.toNat then lead l + 1 else 0
theorem lead_le : ∀ l, lead l ≤ l.length
  | [] => by simp [lead]
  | b :: l => by
    have := lead_le l
    simp only [lead, List.length_cons]
    split <;> omega
theorem lead_high : ∀ (l : List UInt8) (i : Nat) (h : i < l.length), i < lead l → 128 ≤ (l[i]).toNat
  | [], i, h, _ => by simp at h
  | b :: l, i, h, hi => by
    simp only [lead] at hi
    split at hi
    · rename_i hb
      cases i with
      | zero => exact hb
      | succ i => exact lead_high l i (by simpa using h) (by omega)
    · omega
theorem lead_low : ∀ (l : List UInt8) (h : lead l < l.length), (l[lead l]).toNat < 128
  | [], h => by simp [lead] at h
  | b :: l, h => by
    by_cases hb : 128 ≤ b.toNat
    · have e : lead (b :: l) = lead l + 1 := by simp only [lead]; rw [if_pos hb]
      simp only [e] at h ⊢
      exact lead_low l (by simpa using h)
    · have e : lead (b :: l) = 0 := by simp only [lead]; rw [if_neg hb]
      simp only [e]
      simp
      omega
theorem lead_is (l : List UInt8) (k : Nat) (hk : k ≤ lead l) (h : k < l.length) (hb : (l[k]).toNat < 128) : lead l = k := by
  rcases Nat.lt_or_ge k (lead l) with h1 | h1
  · have := lead_high l k h h1; omega
  · omega

theorem ix_str (l : List UInt8) (i : Nat) (hi : i < l.length) (w : World) : (Instr.index 9 (.string (S l)) (.int .i64 (i : Int))).run Tryd.prog w = .ok (.int .u8 ((l[i]).toNat : Int)) w := by
  have h : (S l)[i]? = some l[i] := by
    have : i < (S l).size := by rw [S_size]; exact hi
    rw [getElem?_pos (S l) i this]
    rfl
  simp [Instr.index, run_underlying Tryd.underlying9, asIntOf, h]
section
variable {w : World} {p : Nat} {l : List UInt8}
/-- The number of the low seven bits of bytes, the least significant ones first. -/
def varU : List UInt8 → Nat
  | [] => 0
  | b :: l => b.toNat % 128 + 128 * varU l
def unzz (u : Nat) : Int := if u % 2 = 0 then ((u / 2 : Nat) : Int) else -((u / 2 : Nat) : Int) - 1
def varE (l : List UInt8) : Int :=
  if h : lead l < l.length ∧ lead l < 10 then
    (if (lead l = 9 ∧ 1 < (l[lead l]'h.1).toNat) ∨ (0 < lead l ∧ (l[lead l]'h.1).toNat = 0) then 6 else 0)
  else if 10 ≤ l.length then 6 else 5
def varV (l : List UInt8) : Int := unzz (varU (l.take (lead l + 1)))
theorem varU_lt : ∀ l : List UInt8, varU l < 128 ^ l.length
  | [] => by simp [varU]
  | b :: l => by
    have := varU_lt l
    simp only [varU, List.length_cons, Nat.pow_succ]
    have h1 := Nat.mod_lt b.toNat (show 128 > 0 by omega)
    omega
theorem varU_append : ∀ l m : List UInt8, varU (l ++ m) = varU l + 128 ^ l.length * varU m
  | [], m => by simp [varU]
  | b :: l, m => by
    simp only [List.cons_append, varU, List.length_cons, Nat.pow_succ, varU_append l m]
    rw [Nat.mul_add, Nat.mul_comm (128 ^ l.length) 128, Nat.mul_assoc]
    omega
theorem varU_top (G : List UInt8) (k : Nat) (hk : k < 10) (hG : G.length = k + 1) (h9 : ∀ i : Nat, ∀ hi : i < G.length, i = 9 → (G[i]).toNat % 128 ≤ 1) : varU G < 18446744073709551616 := by
  have hs : G = G.take k ++ [G[k]'(by omega)] := by rw [← take_snoc G k (by omega), List.take_of_length_le (by omega)]
  have hl : (G.take k).length = k := by rw [List.length_take]; omega
  have hu : varU G = varU (G.take k) + 128 ^ k * ((G[k]'(by omega)).toNat % 128) := by
    conv => lhs; rw [hs]
    rw [varU_append, hl]
    simp [varU]
  have h1 := varU_lt (G.take k)
  rw [hl] at h1
  have h2 : (G[k]'(by omega)).toNat % 128 < 128 := Nat.mod_lt _ (by omega)
  have h3 := h9 k (by omega)
  rw [hu]
  generalize (G[k]'(by omega)).toNat % 128 = c at *
  rcases Nat.lt_or_ge k 9 with h | h
  · have e1 : 128 ^ k ≤ 128 ^ 8 := Nat.pow_le_pow_right (by omega) (by omega)
    have e2 : (128 : Nat) ^ 8 = 72057594037927936 := rfl
    have e3 : 128 ^ k * c ≤ 128 ^ 8 * 127 := Nat.mul_le_mul e1 (by omega)
    omega
  · obtain rfl : k = 9 := by omega
    have := h3 rfl
    have e2 : (128 : Nat) ^ 9 = 9223372036854775808 := rfl
    rw [e2] at h1 ⊢
    have : 9223372036854775808 * c ≤ 9223372036854775808 * 1 := Nat.mul_le_mul_left _ this
    omega
set_option maxRecDepth 100000 in
theorem andnot128 (b : Nat) (hb : b < 256) : bits .andNot .u8 (b : Int) 128 = ((b % 128 : Nat) : Int) := by
  rw [show (128 : Int) = ((128 : Nat) : Int) from rfl, u8_andNot_nat b 128 hb (by omega)]
  have h : ∀ y < 256, y &&& (255 - 128) = y % 128 := by decide
  rw [h b hb]
theorem or_high (u c k : Nat) (hu : u < 128 ^ k) (hk : k ≤ 9) (hc : c < 128) (h9 : k = 9 → c ≤ 1) : bits .or .u64 (u : Int) ((c * 128 ^ k : Nat) : Int) = ((u + 128 ^ k * c : Nat) : Int) := by
  have hp : c * 128 ^ k < 18446744073709551616 := by
    rcases Nat.lt_or_ge k 9 with h | h
    · have h1 : 128 ^ k ≤ 128 ^ 8 := Nat.pow_le_pow_right (by omega) (by omega)
      have h2 : (128 : Nat) ^ 8 = 72057594037927936 := rfl
      have h3 : c * 128 ^ k ≤ 127 * 128 ^ 8 := Nat.mul_le_mul (by omega) h1
      omega
    · obtain rfl : k = 9 := by omega
      have := h9 rfl
      have h2 : (128 : Nat) ^ 9 = 9223372036854775808 := rfl
      rw [h2]
      omega
  have hu' : u < 18446744073709551616 := by
    have h1 : 128 ^ k ≤ 128 ^ 9 := Nat.pow_le_pow_right (by omega) hk
    have h2 : (128 : Nat) ^ 9 = 9223372036854775808 := rfl
    omega
  rw [u64_or_nat _ _ hu' hp]
  congr 1
  have e : (128 : Nat) ^ k = 2 ^ (7 * k) := by rw [Nat.pow_mul]
  rw [e] at hu ⊢
  have := Nat.two_pow_add_eq_or_of_lt hu c
  rw [Nat.or_comm, Nat.mul_comm c, ← this]
  omega
theorem or_high' (u c k : Nat) (hu : u < 128 ^ k) (hk : k ≤ 9) (hc : c < 128) (h9 : k = 9 → c ≤ 1) : bits .or .u64 (u : Int) (IntKind.u64.wrap (IntKind.u64.wrap (c : Int) * 2 ^ (k * 7))) = ((u + 128 ^ k * c : Nat) : Int) := by
  rw [← or_high u c k hu hk hc h9]
  congr 1
  have hp : c * 128 ^ k < 18446744073709551616 := by
    rcases Nat.lt_or_ge k 9 with h | h
    · have h1 : 128 ^ k ≤ 128 ^ 8 := Nat.pow_le_pow_right (by omega) (by omega)
      have h2 : (128 : Nat) ^ 8 = 72057594037927936 := rfl
      have h3 : c * 128 ^ k ≤ 127 * 128 ^ 8 := Nat.mul_le_mul (by omega) h1
      omega
    · obtain rfl : k = 9 := by omega
      have := h9 rfl
      have h2 : (128 : Nat) ^ 9 = 9223372036854775808 := rfl
      rw [h2]
      omega
  have e : (128 : Nat) ^ k = 2 ^ (k * 7) := by rw [Nat.mul_comm, Nat.pow_mul]
  have e1 : IntKind.u64.wrap (c : Int) = (c : Int) := by rw [IntKind.wrap_u64]; omega
  rw [e] at hp ⊢
  have e2 : (c : Int) * 2 ^ (k * 7) = ((c * 2 ^ (k * 7) : Nat) : Int) := by rw [Int.natCast_mul, Int.natCast_pow]; rfl
  rw [e1, e2, IntKind.wrap_u64]
  omega
theorem and_one (x : Nat) (hx : x < 18446744073709551616) : bits .and .u64 (x : Int) 1 = ((x % 2 : Nat) : Int) := by
  rw [show (1 : Int) = ((1 : Nat) : Int) from rfl, u64_and_nat x 1 hx (by omega), Nat.and_one_is_mod]
theorem xor_minus (a : Int) (h0 : 0 ≤ a) (h1 : a < 9223372036854775808) : bits .xor .i64 a (-1) = -a - 1 := by
  obtain ⟨n, rfl⟩ : ∃ n : Nat, a = n := ⟨a.toNat, by omega⟩
  show IntKind.i64.wrap ((BitVec.ofInt 64 (n : Int) ^^^ BitVec.ofInt 64 (-1)).toNat : Int) = _
  rw [BitVec.toNat_xor, ofInt_u64 n (by omega), show (BitVec.ofInt 64 (-1)).toNat = 18446744073709551615 from rfl, xor_ones n (by omega), IntKind.wrap_i64]
  omega
theorem xor_zero (a : Int) (h0 : 0 ≤ a) (h1 : a < 9223372036854775808) : bits .xor .i64 a 0 = a := by
  obtain ⟨n, rfl⟩ : ∃ n : Nat, a = n := ⟨a.toNat, by omega⟩
  show IntKind.i64.wrap ((BitVec.ofInt 64 (n : Int) ^^^ BitVec.ofInt 64 0).toNat : Int) = _
  rw [BitVec.toNat_xor, ofInt_u64 n (by omega), show (BitVec.ofInt 64 0).toNat = 0 from rfl, Nat.xor_zero, IntKind.wrap_i64]
  omega

end
end Go.Proofs.YtdpaiegojioimaaDoor

/-
  Variable-length integers: what is written is read, and what is read was written so; octets' Float, Bool, End (layer 9).
-/
namespace Go.Proofs.YtdpaiegojioimaaDoor
open Go.ChangeShapes Go.WideShapes Go.ChangeAt Go.RowKit Go.Deep
set_option linter.unusedVariables false
set_option linter.unusedSimpArgs false

theorem unzz_zz (n : Int) : unzz (zz n) = n := by
  unfold unzz zz
  by_cases h : 0 ≤ n
  · rw [if_pos h]
    split <;> omega
  · rw [if_neg h]
    split <;> omega
theorem zz_unzz (u : Nat) : zz (unzz u) = u := by
  unfold unzz zz
  by_cases h : u % 2 = 0
  · rw [if_pos h, if_pos (by omega)]; omega
  · rw [if_neg h, if_neg (by omega)]; omega
theorem varB_pos (u : Nat) : 0 < (varB u).length := by
  by_cases h : u < 128
  · rw [varB_small h]; simp
  · rw [varB_large h]; simp
theorem varU_varB (u : Nat) : varU (varB u) = u := by
  induction u using Nat.strongRecOn with
  | _ u ih =>
    by_cases h : u < 128
    · rw [varB_small h]
      simp [varU]
      omega
    · rw [varB_large h]
      simp only [varU, ih (u / 128) (by omega)]
      simp
      omega
theorem lead_varB (u : Nat) (m : List UInt8) : lead (varB u ++ m) + 1 = (varB u).length := by
  induction u using Nat.strongRecOn with
  | _ u ih =>
    by_cases h : u < 128
    · rw [varB_small h]
      simp only [List.cons_append, List.nil_append, lead, List.length_cons, List.length_nil]
      rw [if_neg (by simp; omega)]
    · rw [varB_large h]
      have := ih (u / 128) (by omega)
      simp only [List.cons_append, lead, List.length_cons]
      rw [if_pos (by simp; omega), this]
/-- The last byte of a number's bytes. -/
theorem varB_last (u : Nat) (m : List UInt8) (k : Nat) (hk : k + 1 = (varB u).length) (hh : k < (varB u ++ m).length) : ((varB u ++ m)[k]).toNat = u / 128 ^ k ∧ (0 < k → 0 < u / 128 ^ k) := by
  induction u using Nat.strongRecOn generalizing k with
  | _ u ih =>
    by_cases h : u < 128
    · simp only [varB_small h] at hk ⊢
      obtain rfl : k = 0 := by simpa using hk
      simp
      omega
    · simp only [varB_large h] at hk ⊢
      simp only [List.length_cons] at hk
      have hp := varB_pos (u / 128)
      obtain ⟨j, rfl⟩ : ∃ j, k = j + 1 := ⟨k - 1, by omega⟩
      have hlen : j < (varB (u / 128) ++ m).length := by simp only [List.length_append]; omega
      have := ih (u / 128) (by omega) j (by omega) hlen
      simp only [List.cons_append, List.getElem_cons_succ]
      have e : u / 128 ^ (j + 1) = u / 128 / 128 ^ j := by rw [Nat.pow_succ, Nat.mul_comm, Nat.div_div_eq_div_mul]
      rw [e]
      refine ⟨this.1, fun _ => ?_⟩
      rcases Nat.eq_zero_or_pos j with rfl | hj
      · simp; omega
      · exact this.2 hj
theorem var_read (u : Nat) (hu : u < 18446744073709551616) (m : List UInt8) : varE (varB u ++ m) = 0 ∧ varV (varB u ++ m) = unzz u ∧ (varB u ++ m).drop (lead (varB u ++ m) + 1) = m := by
  have h1 := lead_varB u m
  have h2 := varB_length u 9 (Nat.lt_of_lt_of_le hu (by decide))
  refine ⟨?_, ?_, ?_⟩
  · have hf : lead (varB u ++ m) < (varB u ++ m).length ∧ lead (varB u ++ m) < 10 := ⟨by simp only [List.length_append]; omega, by omega⟩
    obtain ⟨q1, q2⟩ := varB_last u m (lead (varB u ++ m)) h1 hf.1
    unfold varE
    rw [dif_pos hf, if_neg]
    rw [q1]
    rintro (⟨e9, hb⟩ | ⟨h0, hb⟩)
    · rw [e9] at hb
      have : u / 128 ^ 9 ≤ 1 := by
        rw [show (128 : Nat) ^ 9 = 9223372036854775808 from rfl]
        omega
      omega
    · have := q2 h0
      omega
  · unfold varV
    rw [h1, List.take_left, varU_varB]
  · rw [h1, List.drop_left]
theorem varU_pos : ∀ (s : List UInt8) (h : s ≠ []), (s.getLast h).toNat % 128 ≠ 0 → 0 < varU s
  | [b], _, hb => by simp [varU] at *; omega
  | b :: c :: s, _, hb => by
    have := varU_pos (c :: s) (by simp) (by simpa using hb)
    have e : varU (b :: c :: s) = b.toNat % 128 + 128 * varU (c :: s) := rfl
    omega
theorem varB_varU : ∀ (s : List UInt8) (h : s ≠ []), lead s + 1 = s.length → (1 < s.length → (s.getLast h).toNat ≠ 0) → varB (varU s) = s
  | [b], _, h1, _ => by
    have hb : ¬ 128 ≤ b.toNat := fun hb => by simp [lead, hb] at h1
    have e : varU [b] = b.toNat := by simp [varU]; omega
    rw [e, varB_small (by omega)]
    simp
  | b :: c :: s, _, h1, h2 => by
    have hb : 128 ≤ b.toNat := by
      rcases Nat.lt_or_ge b.toNat 128 with h | h
      · simp only [lead] at h1
        rw [if_neg (by omega)] at h1
        simp at h1
      · exact h
    have hl : lead (b :: c :: s) = lead (c :: s) + 1 := by
      show (if 128 ≤ b.toNat then _ else _) = _
      rw [if_pos hb]
    have h3 : lead (c :: s) + 1 = (c :: s).length := by rw [hl] at h1; simpa using h1
    have hlast : ((c :: s).getLast (by simp)).toNat ≠ 0 := by simpa using h2 (by simp)
    have hlow : ((c :: s).getLast (by simp)).toNat < 128 := by
      have := lead_low (c :: s) (by omega)
      rw [List.getLast_eq_getElem]
      have e : (c :: s).length - 1 = lead (c :: s) := by omega
      simp only [e]
      exact this
    have ih := varB_varU (c :: s) (by simp) h3 (fun _ => hlast)
    have hp := varU_pos (c :: s) (by simp) (by omega)
    have e : varU (b :: c :: s) = b.toNat % 128 + 128 * varU (c :: s) := rfl
    have hm : b.toNat % 128 < 128 := Nat.mod_lt _ (by omega)
    have h8 := b.toNat_lt
    rw [e, varB_large (by omega), show (b.toNat % 128 + 128 * varU (c :: s)) / 128 = varU (c :: s) by omega, ih, show (b.toNat % 128 + 128 * varU (c :: s)) % 128 + 128 = b.toNat by omega]
    simp
theorem var_back (s : List UInt8) (hE : varE s = 0) (hR : s.drop (lead s + 1) = []) : varB (zz (varV s)) = s := by
  have hf : lead s < s.length ∧ lead s < 10 := by
    by_cases hf : lead s < s.length ∧ lead s < 10
    · exact hf
    · unfold varE at hE
      rw [dif_neg hf] at hE
      split at hE <;> omega
  have hlen : s.length ≤ lead s + 1 := by simpa using hR
  have hne : s ≠ [] := by intro e; subst e; simp at hf
  unfold varV
  rw [zz_unzz, List.take_of_length_le hlen]
  refine varB_varU s hne (by omega) (fun h1 => ?_)
  unfold varE at hE
  rw [dif_pos hf] at hE
  by_cases hc : (lead s = 9 ∧ 1 < (s[lead s]'hf.1).toNat) ∨ (0 < lead s ∧ (s[lead s]'hf.1).toNat = 0)
  · rw [if_pos hc] at hE; omega
  · intro e0
    apply hc
    right
    refine ⟨by omega, ?_⟩
    rw [List.getLast_eq_getElem] at e0
    have e : s.length - 1 = lead s := by omega
    simp only [e] at e0
    exact e0
theorem varV_fit (s : List UInt8) (hE : varE s = 0) : -9223372036854775808 ≤ varV s ∧ varV s ≤ 9223372036854775807 := by
  have hf : lead s < s.length ∧ lead s < 10 := by
    by_cases hf : lead s < s.length ∧ lead s < 10
    · exact hf
    · unfold varE at hE
      rw [dif_neg hf] at hE
      split at hE <;> omega
  have hc : ¬ ((lead s = 9 ∧ 1 < (s[lead s]'hf.1).toNat) ∨ (0 < lead s ∧ (s[lead s]'hf.1).toNat = 0)) := by
    intro hc
    unfold varE at hE
    rw [dif_pos hf, if_pos hc] at hE
    omega
  have hgl : (s.take (lead s + 1)).length = lead s + 1 := by rw [List.length_take]; omega
  have := varU_top (s.take (lead s + 1)) (lead s) hf.2 hgl (fun i hi e => by
    have : lead s = 9 := by omega
    have e2 : (s.take (lead s + 1))[i] = s[lead s]'hf.1 := by
      rw [List.getElem_take]
      have : i = lead s := by omega
      simp only [this]
    rw [e2]
    have h8 := lead_low s hf.1
    have : ¬ 1 < (s[lead s]'hf.1).toNat := fun h => hc (Or.inl ⟨this, h⟩)
    omega)
  unfold varV unzz
  split <;> omega

section
variable {w : World} {p : Nat} {l : List UInt8}
end
end Go.Proofs.YtdpaiegojioimaaDoor
