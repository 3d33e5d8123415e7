/-
  The contracts on which the law's proof rests, bound together in build order: Base, Mem, Slab, Slab2, Slab3, Slab4, BoxV, Whole, Cls, Phi, Phi2, Phi3, Phi5, Phi6, Phi7, Chain1.
-/
import Derived.Test.YtalkpoeliekbfaaRows
import Derived.WalkKit
import Derived.ProofKit
import Derived.OpenShut
import Derived.ShutString
import Derived.ChangeOld
import Derived.Below
import Derived.Carry
import Derived.Lib.Hide
import Derived.Deep.Slices
import Derived.Deep.Fields
import Derived.ChangeArms
import Derived.Deep.OwnRows
import Derived.Maps.AppendAt
import Derived.Deep.AppendLies
import Derived.Deep.QuietTactic
import Derived.BigQuiet
import Derived.Deep.DeepCutAuto
import Derived.Deep.RegionLaw
import Derived.WalkSpells
import Derived.Deep.MidRow
import Derived.StillTail
import Derived.BigFrame
import Derived.BigRegion
import Derived.BigCall
/-
  What every law's proof of this project shares: a law's row follows from one contract on calls: the law returns true and turns nothing that was there before the call.
-/
namespace Go.Proofs.Ytalkpoeliekbfaa
open Go.ChangeShapes Go.WideShapes Go.ChangeAt Go.RowKit

theorem own : ownKnob Try.prog.godebug = none := by kernel_rfl
theorem laidOut : laidOutB Try.prog = true := by kernel_rfl
theorem boolType : Try.prog.underlying 4 = some .bool := by kernel_rfl

section
variable {H : Type} {enc : TypeId × Value → H} {P : Program}

/-- All that was read of the arguments lies in old blocks. -/
theorem places_old {W : World} : ∀ {ts : List TypeId} {vs : List Value} {ds : List (DataW H)} {p : List MemPlace},
    DataW.TrodAll enc P W 0 (fun _ => true) true ts vs ds p → ∀ x ∈ p, x.block < W.heap.size
  | [], [], [], _, h => by simp only [DataW.TrodAll] at h; subst h; simp
  | _ :: _, _ :: _, _ :: _, _, h => by
    simp only [DataW.TrodAll] at h
    obtain ⟨p, q, ⟨m, hm⟩, hr, rfl⟩ := h
    intro x hx
    rcases List.mem_append.1 hx with hx | hx
    · exact DataW.trod_lt m _ _ _ hm x hx
    · exact places_old hr x hx
  | [], [], _ :: _, _, h => by simp [DataW.TrodAll] at h
  | [], _ :: _, _, _, h => by simp [DataW.TrodAll] at h
  | _ :: _, [], _, _, h => by simp [DataW.TrodAll] at h
  | _ :: _, _ :: _, [], _, h => by simp [DataW.TrodAll] at h

/-- Where nothing old has turned, the arguments read as they did. -/
theorem args_again (hl : laidOutB P = true) {W W' : World} (hb : Below W.heap.size W W') : ∀ {ts : List TypeId} {vs : List Value} {ds : List (DataW H)} {p : List MemPlace},
    (∀ t ∈ ts, P.readableRec t = true ∧ t < P.types.size) → DataW.TrodAll enc P W 0 (fun _ => true) true ts vs ds p → DataW.TrodAll enc P W' 0 (fun b => decide (b < W.heap.size)) true ts vs ds p
  | [], [], [], _, _, h => h
  | t :: _, _ :: _, _ :: _, _, ht, h => by
    simp only [DataW.TrodAll] at h ⊢
    obtain ⟨p, q, ⟨m, hm⟩, hr, rfl⟩ := h
    obtain ⟨h1, h2⟩ := ht t (by simp)
    exact ⟨p, q, Below.trod hl h1 h2 ⟨m, hm⟩ hb (DataW.trod_lt m _ _ _ hm), args_again hl hb (fun u hu => ht u (by simp [hu])) hr, rfl⟩
  | [], [], _ :: _, _, _, h => by simp [DataW.TrodAll] at h
  | [], _ :: _, _, _, _, h => by simp [DataW.TrodAll] at h
  | _ :: _, [], _, _, _, h => by simp [DataW.TrodAll] at h
  | _ :: _, _ :: _, [], _, _, h => by simp [DataW.TrodAll] at h

theorem trod_length {W : World} : ∀ {ts : List TypeId} {vs : List Value} {ds : List (DataW H)} {p : List MemPlace},
    DataW.TrodAll enc P W 0 (fun _ => true) true ts vs ds p → ds.length = ts.length
  | [], [], [], _, _ => rfl
  | _ :: _, _ :: _, _ :: _, _, h => by
    simp only [DataW.TrodAll] at h
    obtain ⟨_, _, _, hr, _⟩ := h
    simp [trod_length hr]
  | [], [], _ :: _, _, h => by simp [DataW.TrodAll] at h
  | [], _ :: _, _, _, h => by simp [DataW.TrodAll] at h
  | _ :: _, [], _, _, h => by simp [DataW.TrodAll] at h
  | _ :: _, _ :: _, [], _, h => by simp [DataW.TrodAll] at h

/-- The contract that a law's row asks for. -/
def LawCalls (P : Program) (f : FuncId) (fn : Func) : Prop :=
  ∀ (H : Type) (enc : TypeId × Value → H) (W : World) (base : Nat) (args : Array Value) (ds : List (DataW H)) (p : List MemPlace),
    (∀ (j : Nat) (t : TypeId) (v : Value), fn.params[j]? = some t → args[j]? = some v → Value.okWide P W .any base t v) →
    DataW.TrodAll enc P W 0 (fun _ => true) true fn.params.toList args.toList ds p → (∀ x ∈ p, x.block < W.heap.size) →
    Calls P f args W fun e W' => e = .returned (.bool true) ∧ Below W.heap.size W W'

theorem law_contract {f : FuncId} {fn : Func} {s : ChangeSpec} {bt : TypeId} (hl : laidOutB P = true) (hread : (fn.params.toList.all fun t => P.readableRec t && decide (t < P.types.size)) = true)
    (hvars : s.vars = []) (hres : fn.resultTypes = #[bt]) (hbt : P.underlying bt = some .bool)
    (hspec : ∀ ds : List (DataW H), ds.length = fn.params.toList.length → s.fn H ds = { results := [.lit (.bool true)], args := ds })
    (hcall : LawCalls P f fn) (W : World) (base : Nat) (args : Array Value) (ds gs : List (DataW H)) (before : List MemPlace)
    (hval : ∀ (j : Nat) t v, fn.params[j]? = some t → args[j]? = some v → Value.okWide P W .any base t v)
    (hW : DataW.Whole enc P fn.params.toList s.vars false W args.toList ds gs before) :
    Calls P f args W fun e W' => ∃ v, e = .returned v ∧ s.post enc P fn false true false false W args v W' := by
  have hW' := hW
  obtain ⟨p, q, hA, hV, rfl, hfz, hnd⟩ := hW
  rw [hvars] at hV
  obtain ⟨rfl, rfl⟩ := trodVars_none hV
  refine (hcall H enc W base args ds p hval hA (places_old hA)).mono fun e W' ⟨he, hb⟩ => ?_
  subst he
  have hsp := hspec ds (trod_length hA)
  refine ⟨_, rfl, ds, [], _, [], p, [], hW', ?_, ?_, ?_, hb.frame _, fun h => by cases h⟩
  · rw [List.append_nil, hsp, hres]
    exact trodAll_mk1 (shut_bool hbt true)
  · rw [List.append_nil, hsp]
    refine args_again hl hb (fun t ht => ?_) hA
    have := List.all_eq_true.1 hread t ht
    simpa using this
  · rw [List.append_nil, hsp, hvars]
    rfl

theorem cell_lt {w : World} {a : Addr} {v : Value} (h : w.cell? a = some v) : a.block < w.heap.size := by
  rcases Nat.lt_or_ge a.block w.heap.size with hl | hg
  · exact hl
  · rw [World.cell?, Array.getElem?_eq_none hg] at h
    cases h

/-- An argument that is a slice: its shape, and for each element its cells and its own reading. -/
theorem slice_elems {W : World} {base : Nat} {sp : Nat → Bool} {t e : TypeId} {v : Value} {d : DataW H} {p : List MemPlace} {r : Reach} {b0 : Nat} (ht : P.underlying t = some (.slice e)) (hC : 0 < P.cellsOf e)
    (hv : Value.okWide P W r b0 t v) (h : DataW.Trod enc P W base sp true t v d p) :
    ∃ (A : Option Addr) (len cap : Nat), v = .slice A len cap ∧ len ≤ cap ∧ cap ≤ maxLen ∧ ∀ i, i < len → ∃ (b off n : Nat) (cs : List Value) (x : DataW H × List MemPlace), A = some ⟨b, off, none⟩ ∧ b < W.heap.size ∧
      cs.length = P.cellsOf e ∧ (∀ j, j < P.cellsOf e → W.cell? ⟨b, off + i * P.cellsOf e + j, none⟩ = cs[j]?) ∧ DataW.trod enc P W base sp true n e cs = some x := by
  obtain ⟨A, len, cap, rfl⟩ := okWide_slice ht hv
  refine ⟨A, len, cap, rfl, ?_⟩
  obtain ⟨fuel, hf⟩ := h
  rcases Deep.open_slice ht hf with ⟨hcs, _⟩ | ⟨a, l, c, m, n, D, Pl, hcs, _, hl, hm, hmm, _, hi⟩
  · simp [Value.cells] at hcs
    obtain ⟨rfl, rfl, rfl⟩ := hcs
    exact ⟨Nat.le_refl _, Nat.zero_le _, fun i hi => absurd hi (Nat.not_lt_zero _)⟩
  · simp [Value.cells] at hcs
    obtain ⟨rfl, rfl, rfl⟩ := hcs
    refine ⟨hl, hm, fun i hlt => ?_⟩
    have him : i < m := by rw [hmm]; split <;> omega
    obtain ⟨cs, hc, hx⟩ := hi i him
    obtain ⟨_, hlen, hat⟩ := World.cells?_some hc
    obtain ⟨b, off, spot⟩ := a
    have h0 := hat 0 hC
    rw [List.getElem?_eq_getElem (by omega)] at h0
    have hspot : spot = none := by
      obtain ⟨cs0, hc0, _⟩ := hi 0 (by omega)
      obtain ⟨_, hl0, ha0⟩ := World.cells?_some hc0
      have h00 := ha0 0 hC
      rw [List.getElem?_eq_getElem (by omega)] at h00
      simpa [Addr.add] using World.cell?_spot h00
    subst hspot
    refine ⟨b, off, n, cs, _, rfl, ?_, hlen, fun j hj => ?_, hx⟩
    · have := cell_lt h0
      simpa [add_plain] using this
    · have := hat j hj
      rwa [add_plain, add_plain] at this

/-- The fields of a struct of one-cell fields, each by its cell and its reading. -/
theorem one_fields {W : World} {base : Nat} {sp : Nat → Bool} {e : TypeId} {fs : Array Field} {n : Nat} {cs : List Value} {x : DataW H × List MemPlace} (he : P.underlying e = some (.struct fs)) (hone : Deep.oneCellFields P fs = true)
    (hlen : cs.length = fs.size) (hx : DataW.trod enc P W base sp true n e cs = some x) (j : Nat) (f : Field) (hj : fs[j]? = some f) : ∃ u m y, cs[j]? = some u ∧ DataW.trod enc P W base sp true m f.type [u] = some y := by
  obtain ⟨ys, m, _, _, _, hyl, hf⟩ := DataW.trod_struct he hx
  obtain ⟨ho, hk⟩ := Deep.hone_of hone j f hj
  have hlt : j < fs.size := (Array.getElem?_eq_some_iff.1 hj).1
  have hg := hf j f hj
  rw [ho, hk, List.drop_eq_getElem_cons (by omega), List.take_succ_cons, List.take_zero, List.getElem?_eq_getElem (by omega)] at hg
  exact ⟨_, m, _, List.getElem?_eq_getElem (by omega), hg⟩

/-- An argument that is a slice of such structs. -/
theorem slice_structs {W : World} {base : Nat} {sp : Nat → Bool} {t e : TypeId} {fs : Array Field} {v : Value} {d : DataW H} {p : List MemPlace} {r : Reach} {b0 : Nat} (ht : P.underlying t = some (.slice e)) (he : P.underlying e = some (.struct fs))
    (hone : Deep.oneCellFields P fs = true) (hC : P.cellsOf e = fs.size) (hpos : 0 < fs.size) (hv : Value.okWide P W r b0 t v) (h : DataW.Trod enc P W base sp true t v d p) :
    ∃ (A : Option Addr) (len cap : Nat), v = .slice A len cap ∧ len ≤ cap ∧ cap ≤ maxLen ∧ ∀ i, i < len → ∃ (b off : Nat), A = some ⟨b, off, none⟩ ∧ b < W.heap.size ∧
      ∀ (j : Nat) (f : Field), fs[j]? = some f → ∃ u m y, W.cell? ⟨b, off + i * fs.size + j, none⟩ = some u ∧ DataW.trod enc P W base sp true m f.type [u] = some y := by
  obtain ⟨A, len, cap, hv', hl, hm, hi⟩ := slice_elems ht (by omega) hv h
  refine ⟨A, len, cap, hv', hl, hm, fun i hlt => ?_⟩
  obtain ⟨b, off, n, cs, x, hA, hb, hlen, hat, hx⟩ := hi i hlt
  refine ⟨b, off, hA, hb, fun j f hj => ?_⟩
  have hjl : j < fs.size := (Array.getElem?_eq_some_iff.1 hj).1
  obtain ⟨u, m, y, hu, hy⟩ := one_fields he hone (by omega) hx j f hj
  have := hat j (by omega)
  rw [hC, hu] at this
  exact ⟨u, m, y, this, hy⟩

theorem cell_int {W : World} {base : Nat} {sp : Nat → Bool} {t : TypeId} {k : IntKind} {u : Value} {m : Nat} {y : DataW H × List MemPlace} (ht : P.underlying t = some (.int k)) (h : DataW.trod enc P W base sp true m t [u] = some y) :
    ∃ n, u = .int k n ∧ (Lit.int k n).wf = true := by
  obtain ⟨n, hu, _, hw⟩ := DataW.trod_int ht h
  exact ⟨n, by simpa using hu, hw⟩
theorem cell_bool {W : World} {base : Nat} {sp : Nat → Bool} {t : TypeId} {u : Value} {m : Nat} {y : DataW H × List MemPlace} (ht : P.underlying t = some .bool) (h : DataW.trod enc P W base sp true m t [u] = some y) :
    ∃ n, u = .bool n := by
  obtain ⟨n, hu, _⟩ := DataW.trod_bool ht h
  exact ⟨n, by simpa using hu⟩
end

/-- A number of kind int, as the walks want it. -/
theorem i64_in {n : Int} (h : (Lit.int .i64 n).wf = true) : -9223372036854775808 ≤ n ∧ n ≤ 9223372036854775807 := by
  simpa [Lit.wf, IntKind.min, IntKind.max, IntKind.signed, IntKind.bits] using h
theorem u8_in {n : Int} (h : (Lit.int .u8 n).wf = true) : 0 ≤ n ∧ n ≤ 255 := by
  simpa [Lit.wf, IntKind.min, IntKind.max, IntKind.signed, IntKind.bits] using h
theorem u64_in {n : Int} (h : (Lit.int .u64 n).wf = true) : 0 ≤ n ∧ n ≤ 18446744073709551615 := by
  simpa [Lit.wf, IntKind.min, IntKind.max, IntKind.signed, IntKind.bits] using h

theorem ret_int {k : IntKind} {a b : Int} (h : a = b) : Ending.returned (.int k a) = .returned (.int k b) := by rw [h]
theorem ret_bool {a b : Bool} (h : a = b) : Ending.returned (.bool a) = .returned (.bool b) := by rw [h]
theorem bnext {w w1 w2 : World} (h : Below w.heap.size w w1) (k : Below w1.heap.size w1 w2) : Below w.heap.size w w2 := h.trans (k.mono h.size)
end Go.Proofs.Ytalkpoeliekbfaa

/-
  Memory that the call itself made and that methods write: a frame by blocks, and rows of integers.
-/
namespace Go.Proofs.Ytalkpoeliekbfaa
open Go.ChangeShapes Go.WideShapes Go.ChangeAt Go.RowKit Go.Deep
set_option linter.unusedVariables false

/-- Only the blocks of S, and new ones, may have turned. -/
structure Touch (S : List Nat) (w w' : World) : Prop where
  os : w'.os = w.os
  tape : w'.tape = w.tape
  output : w'.output = w.output
  size : w.heap.size ≤ w'.heap.size
  block : ∀ b, b < w.heap.size → b ∉ S → w'.heap[b]? = w.heap[b]?

namespace Touch
variable {S S' : List Nat} {w w' w'' : World}
theorem refl (S : List Nat) (w : World) : Touch S w w := ⟨rfl, rfl, rfl, Nat.le_refl _, fun _ _ _ => rfl⟩
theorem trans (h : Touch S w w') (k : Touch S' w' w'') (hS : ∀ b ∈ S', b ∈ S ∨ w.heap.size ≤ b) : Touch S w w'' :=
  ⟨k.os.trans h.os, k.tape.trans h.tape, k.output.trans h.output, Nat.le_trans h.size k.size, fun b hb hn =>
    (k.block b (Nat.lt_of_lt_of_le hb h.size) (fun hm => by rcases hS b hm with h1 | h1 <;> first | exact hn h1 | omega)).trans (h.block b hb hn)⟩
theorem mono (h : Touch S w w') (hS : ∀ b ∈ S, b ∈ S' ∨ w.heap.size ≤ b) : Touch S' w w' := (Touch.refl S' w).trans h hS
theorem drew (h : Touch S w w') : Touch S w w'.drew := ⟨h.os, h.tape, h.output, h.size, h.block⟩
theorem alloc (h : Touch S w w') (o : Obj) : Touch S w (w'.alloc o) :=
  h.trans (S' := []) ⟨rfl, rfl, rfl, by rw [nblk_alloc]; omega, fun b hb _ => blk_alloc_lt _ _ _ hb⟩ (by simp)
theorem setCell (h : Touch S w w') {a : Addr} (ha : a.block ∈ S ∨ w.heap.size ≤ a.block) (v : Value) : Touch S w (w'.setCell a v) :=
  h.trans (S' := [a.block]) ⟨rfl, rfl, rfl, by rw [nblk_setCell]; exact Nat.le_refl _, fun b _ hb => blk_setCell_other _ _ _ _ (by simpa using hb)⟩ (by simpa using ha)
theorem grown {row : Option Nat} (h : Touch S w w') (hg : w'.grownBy w'' row) (hr : ∀ k, row = some k → k ∈ S ∨ w.heap.size ≤ k) : Touch S w w'' :=
  h.trans (S' := row.toList) ⟨hg.os, hg.tape, hg.output, hg.size, fun b hb hn => hg.block b hb (fun e => hn (by rw [← e]; simp))⟩ (fun b hb => hr b (by simpa using hb))
theorem below {B : Nat} (h : Touch S w w') (hS : ∀ b ∈ S, B ≤ b) (hB : B ≤ w.heap.size) : Below B w w' :=
  ⟨h.os, h.tape, h.output, h.size, fun b hb => h.block b (by omega) (fun hm => by have := hS b hm; omega)⟩
theorem ofBelow (h : Below w.heap.size w w') : Touch S w w' := ⟨h.os, h.tape, h.output, h.size, fun b hb _ => h.block b hb⟩
theorem cell (h : Touch S w w') {a : Addr} (ha : a.block < w.heap.size) (hn : a.block ∉ S) : w'.cell? a = w.cell? a := World.cell?_of_block (w := w) (h.block _ ha hn)
theorem frozen (h : Touch S w w') {a : Addr} (ha : a.block < w.heap.size) (hn : a.block ∉ S) : w'.frozen? a = w.frozen? a := World.frozen?_of_block (w := w) (h.block _ ha hn)
end Touch

section
variable {w w' : World} {base : Nat} {e : TypeId} {size : Nat} {v : Value} {n : Nat} {xs : List Value}
theorem own_lt (h : w.ownsRow base e size v n xs) {g : Nat} (hg : v.ownBlock = some g) : g < w.heap.size := by
  rcases h.2 with ⟨rfl, _⟩ | ⟨g', cap, cur, rfl, _, hh, _⟩
  · simp [Value.ownBlock] at hg
  · simp [Value.ownBlock] at hg
    subst hg
    exact (Array.getElem?_eq_some_iff.1 hh).1
theorem own_of_block (h : w.ownsRow base e size v n xs) (hb : ∀ g, v.ownBlock = some g → w'.heap[g]? = w.heap[g]?) : w'.ownsRow base e size v n xs := by
  rcases h.2 with ⟨rfl, rfl⟩ | ⟨g', cap, cur, rfl, h1, hh, h2⟩
  · exact ⟨h.1, .inl ⟨rfl, rfl⟩⟩
  · exact ⟨h.1, .inr ⟨g', cap, cur, rfl, h1, (hb g' rfl).trans hh, h2⟩⟩
theorem Touch.row {S : List Nat} (t : Touch S w w') (h : w.ownsRow base e size v n xs) (hn : ∀ g, v.ownBlock = some g → g ∉ S) : w'.ownsRow base e size v n xs :=
  own_of_block h fun g hg => t.block g (own_lt h hg) (hn g hg)
theorem own_shrink {g cap m : Nat} (h : w.ownsRow base e size (.slice (some ⟨g, 0, none⟩) n cap) n xs) (hm : m ≤ n) : w.ownsRow base e size (.slice (some ⟨g, 0, none⟩) m cap) m (xs.take (m * size)) := by
  have hl := h.1
  have hms : m * size ≤ n * size := Nat.mul_le_mul_right _ hm
  rcases h.2 with ⟨h', _⟩ | ⟨g', cap', cur, h', h1, hh, h2, h3, h4, h5⟩
  · simp at h'
  · simp only [Value.slice.injEq, Option.some.injEq, Addr.mk.injEq, and_true, true_and] at h'
    obtain ⟨rfl, rfl⟩ := h'
    refine ⟨by rw [List.length_take]; omega, .inr ⟨g, cap, cur, rfl, h1, hh, by omega, h3, h4, ?_⟩⟩
    rw [← h5, List.take_take, Nat.min_eq_left hms]
theorem own_cap {g cap : Nat} (h : w.ownsRow base e size (.slice (some ⟨g, 0, none⟩) n cap) n xs) : n ≤ cap ∧ cap ≤ maxLen := by
  rcases h.2 with ⟨h', _⟩ | ⟨g', cap', cur, h', h1, hh, h2, h3, h4, h5⟩
  · simp at h'
  · simp only [Value.slice.injEq, Option.some.injEq, Addr.mk.injEq, and_true, true_and] at h'
    obtain ⟨rfl, rfl⟩ := h'
    exact ⟨h2, h3⟩
end

/-! ### Rows of integers -/
def upd (f : Nat → Int) (i : Nat) (x : Int) : Nat → Int := fun j => if j = i then x else f j
theorem upd_same (f : Nat → Int) (i : Nat) (x : Int) : upd f i x i = x := if_pos rfl
theorem upd_other (f : Nat → Int) {i j : Nat} (x : Int) (h : j ≠ i) : upd f i x j = f j := if_neg h
def iv (f : Nat → Int) (n : Nat) : List Value := (List.range n).map fun i => .int .i64 (f i)
theorem iv_length (f : Nat → Int) (n : Nat) : (iv f n).length = n := by simp [iv]
theorem iv_get (f : Nat → Int) {n i : Nat} (h : i < n) : (iv f n)[i]? = some (.int .i64 (f i)) := by simp [iv, h]
theorem iv_set (f : Nat → Int) (n i : Nat) (x : Int) : (iv f n).set i (.int .i64 x) = iv (upd f i x) n := by
  apply List.ext_getElem?
  intro j
  by_cases hj : j < n
  · rw [iv_get _ hj, List.getElem?_set]
    by_cases e : i = j
    · subst e
      simp [iv_length, hj, upd_same]
    · rw [if_neg e, iv_get _ hj, upd_other _ _ (Ne.symm e)]
  · rw [List.getElem?_eq_none (by simp [iv_length]; omega), List.getElem?_eq_none (by simp [iv_length]; omega)]
theorem iv_take (f : Nat → Int) {n m : Nat} (h : m ≤ n) : (iv f n).take m = iv f m := by
  unfold iv
  rw [← List.map_take, List.take_range, Nat.min_eq_left h]
theorem iv_congr {f f' : Nat → Int} {n : Nat} (h : ∀ i, i < n → f i = f' i) : iv f n = iv f' n := by
  unfold iv
  apply List.map_congr_left
  intro i hi
  rw [h i (List.mem_range.1 hi)]
theorem iv_succ (f : Nat → Int) (n : Nat) (x : Int) : iv f n ++ [.int .i64 x] = iv (upd f n x) (n + 1) := by
  have h : iv f n = iv (upd f n x) n := iv_congr fun i hi => (upd_other _ _ (by omega)).symm
  rw [h]
  unfold iv
  rw [List.range_succ, List.map_append]
  simp [upd_same]
theorem iv_next' (f : Nat → Int) (n : Nat) : iv f (n + 1) = iv f n ++ [.int .i64 (f n)] := by unfold iv; rw [List.range_succ, List.map_append]; rfl
theorem iv_one (f : Nat → Int) (n : Nat) : ∀ u ∈ iv f n, u.oneCell' = true := by
  intro u hu
  simp [iv] at hu
  obtain ⟨_, _, rfl⟩ := hu
  rfl
end Go.Proofs.Ytalkpoeliekbfaa

/-
  Contracts of the methods of layer 6 (slab).
-/
namespace Go.Proofs.Ytalkpoeliekbfaa
open Go.ChangeShapes Go.WideShapes Go.ChangeAt Go.RowKit Go.Deep
set_option linter.unusedVariables false

/-- A slab at block p: its slots lie in block g (state and turn of each), the stack of the free ones in block k. -/
structure SlabAt (w : World) (p g k n ns m c : Nat) (S K : Nat → Int) : Prop where
  box : w.rowIs p 122 2 fun i => if i = 0 then .slice (some ⟨g, 0, none⟩) n ns else .slice (some ⟨k, 0, none⟩) m c
  slots : w.ownsRow 0 124 2 (.slice (some ⟨g, 0, none⟩) n ns) n (iv S (n * 2))
  stack : w.ownsRow 0 3 1 (.slice (some ⟨k, 0, none⟩) m c) m (iv K m)
  pg : p ≠ g
  pk : p ≠ k
  gk : g ≠ k

namespace SlabAt
variable {w w' : World} {p g k n ns m c : Nat} {S K : Nat → Int}
theorem c0 (h : SlabAt w p g k n ns m c S K) : w.cell? ⟨p, 0, none⟩ = some (.slice (some ⟨g, 0, none⟩) n ns) := h.box.cell (by omega)
theorem c1 (h : SlabAt w p g k n ns m c S K) : w.cell? ⟨p, 1, none⟩ = some (.slice (some ⟨k, 0, none⟩) m c) := h.box.cell (by omega)
theorem cs (h : SlabAt w p g k n ns m c S K) {i : Nat} (hi : i < n * 2) : w.cell? ⟨g, i, none⟩ = some (.int .i64 (S i)) := by rw [h.slots.cellAt i hi, iv_get _ hi]
theorem ck (h : SlabAt w p g k n ns m c S K) {i : Nat} (hi : i < m) : w.cell? ⟨k, i, none⟩ = some (.int .i64 (K i)) := by rw [h.stack.cellAt i (by omega), iv_get _ hi]
theorem ltp (h : SlabAt w p g k n ns m c S K) : p < w.heap.size := h.box.lt
theorem ltg (h : SlabAt w p g k n ns m c S K) : g < w.heap.size := own_lt h.slots rfl
theorem ltk (h : SlabAt w p g k n ns m c S K) : k < w.heap.size := own_lt h.stack rfl
theorem carry {T : List Nat} (h : SlabAt w p g k n ns m c S K) (t : Touch T w w') (hp : p ∉ T) (hg : g ∉ T) (hk : k ∉ T) : SlabAt w' p g k n ns m c S K :=
  ⟨h.box.of_block (t.block _ h.ltp hp), t.row h.slots (by simpa [Value.ownBlock] using hg), t.row h.stack (by simpa [Value.ownBlock] using hk), h.pg, h.pk, h.gk⟩
theorem congr {S' K' : Nat → Int} (h : SlabAt w p g k n ns m c S K) (hS : ∀ i, i < n * 2 → S i = S' i) (hK : ∀ i, i < m → K i = K' i) : SlabAt w p g k n ns m c S' K' :=
  ⟨h.box, iv_congr hS ▸ h.slots, iv_congr hK ▸ h.stack, h.pg, h.pk, h.gk⟩
theorem setSlot (h : SlabAt w p g k n ns m c S K) (i : Nat) (x : Int) : SlabAt (w.setCell ⟨g, i, none⟩ (.int .i64 x)) p g k n ns m c (upd S i x) K := by
  have t : Touch [g] w (w.setCell ⟨g, i, none⟩ (.int .i64 x)) := (Touch.refl _ _).setCell (by simp) _
  refine ⟨h.box.of_block (t.block _ h.ltp (by simpa using h.pg)), ?_, t.row h.stack (by simpa [Value.ownBlock] using Ne.symm h.gk), h.pg, h.pk, h.gk⟩
  rw [← iv_set]
  exact (h.slots.stored i _).1
theorem setStack (h : SlabAt w p g k n ns m c S K) {m' : Nat} (hm : m' ≤ m) : SlabAt (w.setCell ⟨p, 1, none⟩ (.slice (some ⟨k, 0, none⟩) m' c)) p g k n ns m' c S K := by
  have t : Touch [p] w (w.setCell ⟨p, 1, none⟩ (.slice (some ⟨k, 0, none⟩) m' c)) := (Touch.refl _ _).setCell (by simp) _
  refine ⟨(h.box.set 1 _).congr fun i hi => ?_, t.row h.slots (by simpa [Value.ownBlock] using Ne.symm h.pg), ?_, h.pg, h.pk, h.gk⟩
  · by_cases e : i = 0
    · subst e; rfl
    · obtain rfl : i = 1 := by omega
      rfl
  · have := own_shrink h.stack hm
    rw [Nat.mul_one, iv_take _ hm] at this
    exact t.row this (by simpa [Value.ownBlock] using Ne.symm h.pk)
end SlabAt

section
variable {w : World} {p g k n ns m c : Nat} {S K : Nat → Int}

theorem left_any (h : SlabAt w p g k n ns m c S K) :
    Calls Try.prog 53 #[.pointer (some ⟨p, 0, none⟩)] w fun e w' => e = .returned (.int .i64 m) ∧ w = w' := by
  have c1 := h.c1
  clear h
  go_enter Try.func53, Try.ntmps53
  go_wp2
  go_ret
  exact ⟨rfl, rfl⟩
theorem left_nil (w : World) :
    Calls Try.prog 53 #[.pointer none] w fun e w' => e = .returned (.int .i64 0) ∧ w = w' := by
  go_enter Try.func53, Try.ntmps53
  go_wp2
  go_ret
  exact ⟨rfl, rfl⟩

/-- What Of, Take tell. -/
def told (a t : Int) (ok : Bool) : Ending := .returned (.tuple #[.agg #[.int .i64 a, .int .i64 t], .bool ok])

theorem of_nil (a : Int) (w : World) :
    Calls Try.prog 63 #[.pointer none, .int .i64 a] w fun e w' => e = told 0 0 false ∧ Touch [] w w' := by
  go_enter Try.func63, Try.ntmps63
  go_wp2
  exact bodyPost_ret (v := .tuple #[.agg #[.int .i64 0, .int .i64 0], .bool false]) (by simp [results, Try.results63, go_sem]) rfl ⟨rfl, (Touch.refl _ _).alloc _⟩

theorem of_yes (h : SlabAt w p g k n ns m c S K) (a : Nat) (ha : a < n) (hS : S (a * 2) = 1) :
    Calls Try.prog 63 #[.pointer (some ⟨p, 0, none⟩), .int .i64 a] w fun e w' => e = told a (S (a * 2 + 1)) true ∧ Touch [] w w' := by
  have c0 := h.c0
  have s0 := h.cs (i := a * 2) (by omega)
  have s1 := h.cs (i := a * 2 + 1) (by omega)
  have lp := h.ltp
  have lg := h.ltg
  rw [hS] at s0
  generalize S (a * 2 + 1) = t at *
  have hn := (own_cap h.slots)
  unfold maxLen at hn
  clear h hS
  go_enter Try.func63, Try.ntmps63
  go_wp2
  exact bodyPost_ret (v := .tuple #[.agg #[.int .i64 a, .int .i64 t], .bool true]) (by simp [results, Try.results63, go_sem]) rfl ⟨rfl, (((Touch.refl _ _).alloc _))⟩
end
end Go.Proofs.Ytalkpoeliekbfaa

/-
  Contracts of the methods of layer 6 (slab): Of, Live, Take.
-/
namespace Go.Proofs.Ytalkpoeliekbfaa
open Go.ChangeShapes Go.WideShapes Go.ChangeAt Go.RowKit Go.Deep
set_option linter.unusedVariables false

theorem tcell {W w1 : World} (hb : Touch [] W w1) : (∀ b o, b < W.heap.size → w1.cell? ⟨b, o, none⟩ = W.cell? ⟨b, o, none⟩) ∧ (∀ b o, b < W.heap.size → w1.frozen? ⟨b, o, none⟩ = W.frozen? ⟨b, o, none⟩) :=
  ⟨fun b o h => hb.cell (a := ⟨b, o, none⟩) h (by simp), fun b o h => hb.frozen (a := ⟨b, o, none⟩) h (by simp)⟩

section
variable {w : World} {p g k n ns m c : Nat} {S K : Nat → Int}

theorem of_no (h : SlabAt w p g k n ns m c S K) (a : Int) (hno : a < 0 ∨ n ≤ a ∨ ∃ j : Nat, a = j ∧ j < n ∧ S (j * 2) ≠ 1) :
    Calls Try.prog 63 #[.pointer (some ⟨p, 0, none⟩), .int .i64 a] w fun e w' => e = told 0 0 false ∧ Touch [] w w' := by
  have c0 := h.c0
  have lp := h.ltp
  have lg := h.ltg
  have hn := (own_cap h.slots)
  unfold maxLen at hn
  by_cases h1 : a < 0
  · clear h hno
    go_enter Try.func63, Try.ntmps63
    go_wp2
    exact bodyPost_ret (v := .tuple #[.agg #[.int .i64 0, .int .i64 0], .bool false]) (by simp [results, Try.results63, go_sem]) rfl ⟨rfl, (Touch.refl _ _).alloc _⟩
  · obtain ⟨j, rfl⟩ : ∃ j : Nat, a = j := ⟨a.toNat, by omega⟩
    by_cases h2 : n ≤ j
    · clear h hno
      go_enter Try.func63, Try.ntmps63
      go_wp2
      exact bodyPost_ret (v := .tuple #[.agg #[.int .i64 0, .int .i64 0], .bool false]) (by simp [results, Try.results63, go_sem]) rfl ⟨rfl, (Touch.refl _ _).alloc _⟩
    · have h3 : S (j * 2) ≠ 1 := by
        rcases hno with hx | hx | ⟨i, hi, _, hx⟩
        · omega
        · omega
        · obtain rfl : j = i := by omega
          exact hx
      have s0 := h.cs (i := j * 2) (by omega)
      generalize S (j * 2) = s at *
      have b1 : (s == 1) = false := by simpa using h3
      have b2 : (s != 1) = true := by simpa using h3
      have h2' : j < n := by omega
      clear h hno h1 h2 h3
      go_enter Try.func63, Try.ntmps63
      go_wp2
      exact bodyPost_ret (v := .tuple #[.agg #[.int .i64 0, .int .i64 0], .bool false]) (by simp [results, Try.results63, go_sem]) rfl ⟨rfl, (Touch.refl _ _).alloc _⟩

/-- Is this the present handle of a slot that is taken? -/
def alive (n : Nat) (S : Nat → Int) (a t : Int) : Bool := decide (0 ≤ a ∧ a < n ∧ S (a.toNat * 2) = 1 ∧ S (a.toNat * 2 + 1) = t)

theorem live_nil (a t : Int) (w : World) :
    Calls Try.prog 56 #[.pointer none, .agg #[.int .i64 a, .int .i64 t]] w fun e w' => e = .returned (.bool false) ∧ Touch [] w w' := by
  have H := fun w => Lib.hid (of_nil a w)
  go_enter Try.func56, Try.ntmps56
  go_wp2_with fail
  refine ((H _).out).mono ?_
  rintro e w1 ⟨rfl, ht⟩
  unfold told
  go_wp2
  go_ret
  exact ⟨rfl, (((Touch.refl _ _).alloc _).trans ht (by simp)).alloc _⟩

set_option maxHeartbeats 800000 in
theorem live_any (h : SlabAt w p g k n ns m c S K) (a t : Int) :
    Calls Try.prog 56 #[.pointer (some ⟨p, 0, none⟩), .agg #[.int .i64 a, .int .i64 t]] w fun e w' => e = .returned (.bool (alive n S a t)) ∧ Touch [] w w' := by
  have h' := h.carry ((Touch.refl [] _).alloc (.cells #[.int .i64 a, .int .i64 t] 68)) (by simp) (by simp) (by simp)
  by_cases hy : 0 ≤ a ∧ a < n ∧ S (a.toNat * 2) = 1
  · obtain ⟨h0, h1, h2⟩ := hy
    obtain ⟨j, rfl⟩ : ∃ j : Nat, a = j := ⟨a.toNat, by omega⟩
    rw [Int.toNat_natCast] at h2
    have H := Lib.hid (of_yes h' j (by omega) h2)
    have hjn : j < n := by omega
    have hal : Hid (alive n S j t = decide (S (j * 2 + 1) = t)) := Lib.hid (by simp [alive, h2, hjn])
    generalize alive n S j t = r at *
    clear h h' h2
    generalize S (j * 2 + 1) = s at *
    by_cases e : s = t
    · subst e
      have hr : r = true := by rw [hal.out]; simp
      subst hr
      go_enter Try.func56, Try.ntmps56
      go_wp2_with fail
      refine (H.out).mono ?_
      rintro e w1 ⟨rfl, ht⟩
      unfold told
      have hsz : w.heap.size < w1.heap.size := by have := ht.size; simp at this; omega
      have d0 := ht.cell (a := ⟨w.heap.size, 0, none⟩) (by simp) (by simp)
      have d1 := ht.cell (a := ⟨w.heap.size, 1, none⟩) (by simp) (by simp)
      simp at d0 d1
      go_wp2
      go_ret
      exact ⟨ret_bool (by simp), (((Touch.refl _ _).alloc _).trans ht (by simp)).alloc _⟩
    · have b1 : (s == t) = false := by simpa using e
      have hr : r = false := by rw [hal.out]; simp [e]
      subst hr
      go_enter Try.func56, Try.ntmps56
      go_wp2_with fail
      refine (H.out).mono ?_
      rintro e w1 ⟨rfl, ht⟩
      unfold told
      have hsz : w.heap.size < w1.heap.size := by have := ht.size; simp at this; omega
      have d0 := ht.cell (a := ⟨w.heap.size, 0, none⟩) (by simp) (by simp)
      have d1 := ht.cell (a := ⟨w.heap.size, 1, none⟩) (by simp) (by simp)
      simp at d0 d1
      go_wp2
      go_ret
      exact ⟨ret_bool (by simp), (((Touch.refl _ _).alloc _).trans ht (by simp)).alloc _⟩
  · have H := Lib.hid (of_no h' a (by
      by_cases x0 : a < 0
      · exact .inl x0
      · by_cases x1 : (n : Int) ≤ a
        · exact .inr (.inl x1)
        · exact .inr (.inr ⟨a.toNat, by omega, by omega, fun x2 => hy ⟨by omega, by omega, x2⟩⟩)))
    have hr : alive n S a t = false := by
      simp only [alive, decide_eq_false_iff_not]
      exact fun ⟨x0, x1, x2, _⟩ => hy ⟨x0, x1, x2⟩
    rw [hr]
    clear h h' hy hr
    go_enter Try.func56, Try.ntmps56
    go_wp2_with fail
    refine (H.out).mono ?_
    rintro e w1 ⟨rfl, ht⟩
    unfold told
    go_wp2
    go_ret
    exact ⟨rfl, (((Touch.refl _ _).alloc _).trans ht (by simp)).alloc _⟩

theorem take_nil (w : World) :
    Calls Try.prog 54 #[.pointer none] w fun e w' => e = told 0 0 false ∧ Touch [] w w' := by
  have H := fun w => Lib.hid (left_nil w)
  go_enter Try.func54, Try.ntmps54
  go_wp2_with fail
  refine ((H _).out).mono ?_
  rintro e w1 ⟨rfl, rfl⟩
  go_wp2
  exact bodyPost_ret (v := .tuple #[.agg #[.int .i64 0, .int .i64 0], .bool false]) (by simp [results, Try.results54, go_sem]) rfl ⟨rfl, (Touch.refl _ _).alloc _⟩

theorem take_none (h : SlabAt w p g k n ns 0 c S K) :
    Calls Try.prog 54 #[.pointer (some ⟨p, 0, none⟩)] w fun e w' => e = told 0 0 false ∧ Touch [] w w' := by
  have h' := h.carry ((Touch.refl [] _).alloc (.cells #[.int .i64 0, .int .i64 0] 68)) (by simp) (by simp) (by simp)
  have H := Lib.hid (left_any h')
  clear h h'
  go_enter Try.func54, Try.ntmps54
  go_wp2_with fail
  refine (H.out).mono ?_
  rintro e w1 ⟨rfl, rfl⟩
  go_wp2
  exact bodyPost_ret (v := .tuple #[.agg #[.int .i64 0, .int .i64 0], .bool false]) (by simp [results, Try.results54, go_sem]) rfl ⟨rfl, (Touch.refl _ _).alloc _⟩

set_option maxHeartbeats 800000 in
theorem take_some (h : SlabAt w p g k n ns (m + 1) c S K) (a : Nat) (hK : K m = a) (ha : a < n) :
    Calls Try.prog 54 #[.pointer (some ⟨p, 0, none⟩)] w fun e w' => e = told a (S (a * 2 + 1)) true ∧ SlabAt w' p g k n ns m c (upd S (a * 2) 1) K ∧ Touch [p, g] w w' := by
  have h' := h.carry ((Touch.refl [] _).alloc (.cells #[.int .i64 0, .int .i64 0] 68)) (by simp) (by simp) (by simp)
  have H := Lib.hid (left_any h')
  have h2 := ((h.setStack (m' := m) (by omega)).setSlot (a * 2) 1).carry ((Touch.refl [] _).alloc (.cells #[.int .i64 0, .int .i64 0] 68)) (by simp) (by simp) (by simp)
  have H2 := Lib.hid (of_yes h2 a ha (upd_same _ _ _))
  rw [upd_other _ _ (by omega)] at H2
  generalize S (a * 2 + 1) = t at *
  have c0 := h.c0
  have c1 := h.c1
  have f1 := h.box.frozen 1
  have s0 := h.cs (i := a * 2) (by omega)
  have fs := h.slots.frozenAt (a * 2)
  have k0 := h.ck (i := m) (by omega)
  rw [hK] at k0
  have lp := h.ltp
  have lg := h.ltg
  have lk := h.ltk
  have n1 := h.pg
  have n2 := h.pk
  have n3 := h.gk
  have hn := own_cap h.slots
  have hm := own_cap h.stack
  unfold maxLen at hn hm
  have HS := Lib.hid h2
  clear h h' h2 hK
  go_enter Try.func54, Try.ntmps54
  go_wp2_with fail
  refine (H.out).mono ?_
  rintro e w1 ⟨rfl, rfl⟩
  go_wp2_with fail
  refine (H2.out).mono ?_
  rintro e w1 ⟨rfl, ht⟩
  unfold told
  obtain ⟨tc, tf⟩ := tcell ht
  have hsz := ht.size
  simp at hsz
  go_wp2
  refine bodyPost_ret (v := .tuple #[.agg #[.int .i64 a, .int .i64 t], .bool true]) (by simp [results, Try.results54, go_sem, tc]) rfl ⟨rfl, ?_, ?_⟩
  · exact HS.out.carry (((ht.mono (S' := [w.heap.size]) (by simp)).setCell (a := ⟨w.heap.size, 0, none⟩) (by simp) _).setCell (a := ⟨w.heap.size, 1, none⟩) (by simp) _) (by simp; omega) (by simp; omega) (by simp; omega)
  · exact ((((((Touch.refl _ _).setCell (by simp) _).setCell (by simp) _).alloc _).trans ht (by simp)).setCell (a := ⟨w.heap.size, 0, none⟩) (by simp) _).setCell (a := ⟨w.heap.size, 1, none⟩) (by simp) _
end
end Go.Proofs.Ytalkpoeliekbfaa

/-
  Contracts of the methods of layer 6 (slab): Give.
-/
namespace Go.Proofs.Ytalkpoeliekbfaa
open Go.ChangeShapes Go.WideShapes Go.ChangeAt Go.RowKit Go.Deep
set_option linter.unusedVariables false

theorem int_info : (Try.prog.info? 3).map (fun i => (i.zero, i.size, i.bytes)) = some (some (.int .i64 0), 1, 8) := by kernel_rfl

section
variable {w : World} {p g k n ns m c : Nat} {S K : Nat → Int}

theorem give_nil (a t : Int) (w : World) :
    Calls Try.prog 58 #[.pointer none, .agg #[.int .i64 a, .int .i64 t]] w fun e w' => e = .returned (.bool false) ∧ Touch [] w w' := by
  have H := fun w => Lib.hid (live_nil a t w)
  go_enter Try.func58, Try.ntmps58
  go_wp2_with fail
  refine ((H _).out).mono ?_
  rintro e w1 ⟨rfl, ht⟩
  go_wp2
  go_ret
  exact ⟨rfl, ((Touch.refl _ _).alloc _).trans ht (by simp)⟩

theorem give_no (h : SlabAt w p g k n ns m c S K) (a t : Int) (hno : alive n S a t = false) :
    Calls Try.prog 58 #[.pointer (some ⟨p, 0, none⟩), .agg #[.int .i64 a, .int .i64 t]] w fun e w' => e = .returned (.bool false) ∧ Touch [] w w' := by
  have h' := h.carry ((Touch.refl [] _).alloc (.cells #[.int .i64 a, .int .i64 t] 68)) (by simp) (by simp) (by simp)
  have H := Lib.hid (live_any h' a t)
  rw [hno] at H
  clear h h' hno
  go_enter Try.func58, Try.ntmps58
  go_wp2_with fail
  refine (H.out).mono ?_
  rintro e w1 ⟨rfl, ht⟩
  go_wp2
  go_ret
  exact ⟨rfl, ((Touch.refl _ _).alloc _).trans ht (by simp)⟩

theorem grew_cell {w2 w3 : World} {o : Obj} {row : Option Nat} (hg : (w2.alloc o).drew.grownBy w3 row) {b : Nat} (hb : b < w2.heap.size) (hne : some b ≠ row) (i : Nat) :
    w3.cell? ⟨b, i, none⟩ = w2.cell? ⟨b, i, none⟩ ∧ w3.frozen? ⟨b, i, none⟩ = w2.frozen? ⟨b, i, none⟩ := by
  have t : Touch row.toList w2 w3 := ((Touch.refl row.toList w2).alloc o).drew.grown hg (by intro k hk; rw [hk]; simp)
  have hn : b ∉ row.toList := by cases row with
    | none => simp
    | some k => simpa using hne
  exact ⟨t.cell (a := ⟨b, i, none⟩) hb hn, t.frozen (a := ⟨b, i, none⟩) hb hn⟩

theorem SlabAt.pushed {w3 : World} {gg cap : Nat} {x : Int} (h : SlabAt w p g k n ns m c S K) (t : Touch [k] w w3) (hown : w3.ownsRow 0 3 1 (.slice (some ⟨gg, 0, none⟩) (m + 1) cap) (m + 1) (iv K m ++ [.int .i64 x])) (hat : gg = k ∨ w.heap.size ≤ gg) :
    SlabAt (w3.setCell ⟨p, 1, none⟩ (.slice (some ⟨gg, 0, none⟩) (m + 1) cap)) p g gg n ns (m + 1) cap S (upd K m x) := by
  have n1 := h.pg
  have n2 := h.pk
  have n3 := h.gk
  have lp := h.ltp
  have lg := h.ltg
  have t3 : Touch [p] w3 (w3.setCell ⟨p, 1, none⟩ (.slice (some ⟨gg, 0, none⟩) (m + 1) cap)) := (Touch.refl _ _).setCell (by simp) _
  refine ⟨((h.box.of_block (t.block _ lp (by simpa using n2))).set 1 _).congr fun i hi => ?_, t3.row (t.row h.slots (by simpa [Value.ownBlock] using n3)) (by simpa [Value.ownBlock] using Ne.symm n1), ?_, n1, by omega, by omega⟩
  · by_cases e : i = 0
    · subst e; rfl
    · obtain rfl : i = 1 := by omega
      rfl
  · rw [← iv_succ]
    exact t3.row hown (by simp [Value.ownBlock]; omega)

def Given (w : World) (p g k n ns m : Nat) (S K : Nat → Int) (a : Nat) (t : Int) (e : Ending) (w' : World) : Prop :=
  ∃ k' c', e = .returned (.bool true) ∧ SlabAt w' p g k' n ns (m + 1) c' (upd (upd S (a * 2) 0) (a * 2 + 1) (t + 1)) (upd K m a) ∧ Touch [p, g, k] w w' ∧ (k' = k ∨ w.heap.size ≤ k')

set_option maxHeartbeats 1600000 in
theorem give_yes (h : SlabAt w p g k n ns m c S K) (a : Nat) (t : Int) (hal : alive n S a t = true) (hm : m ≤ 5000) (h0 : 0 ≤ t) (h1 : t < 1000000) :
    Calls Try.prog 58 #[.pointer (some ⟨p, 0, none⟩), .agg #[.int .i64 a, .int .i64 t]] w (Given w p g k n ns m S K a t) := by
  obtain ⟨i0, hi0, hz0, hz1, hz2⟩ := info_parts int_info
  have h' := h.carry ((Touch.refl [] _).alloc (.cells #[.int .i64 a, .int .i64 t] 68)) (by simp) (by simp) (by simp)
  have H := Lib.hid (live_any h' a t)
  rw [hal] at H
  have ha : a < n := by
    simp only [alive, decide_eq_true_eq] at hal
    omega
  have HS := Lib.hid h'
  have lp := h.ltp
  have lg := h.ltg
  have lk := h.ltk
  have n1 := h.pg
  have n2 := h.pk
  have n3 := h.gk
  have hn := own_cap h.slots
  unfold maxLen at hn
  clear h h' hal
  go_enter Try.func58, Try.ntmps58
  go_wp2_with fail
  refine (H.out).mono ?_
  rintro e w1 ⟨rfl, ht⟩
  have h2 := HS.out.carry ht (by simp) (by simp) (by simp)
  have hsz : w.heap.size < w1.heap.size := by have := ht.size; simp at this; omega
  have d0 := ht.cell (a := ⟨w.heap.size, 0, none⟩) (by simp) (by simp)
  have d1 := ht.cell (a := ⟨w.heap.size, 1, none⟩) (by simp) (by simp)
  simp at d0 d1
  have c0 := h2.c0
  have c1 := h2.c1
  have f1 := h2.box.frozen 1
  have s0 := h2.cs (i := a * 2) (by omega)
  have s1 := h2.cs (i := a * 2 + 1) (by omega)
  have fs := h2.slots.frozenAt (a * 2)
  have fs1 := h2.slots.frozenAt (a * 2 + 1)
  have a0 : (0 : Int) ≤ (a : Int) := Int.natCast_nonneg _
  have a1 : (a : Int) < (n : Int) := by omega
  have HS2 := Lib.hid h2
  have T1 := Lib.hid (((Touch.refl [] w).alloc _).trans ht (by simp))
  clear h2 HS ht H
  go_wp2_with fail
  go_region
  go_wp2_with fail
  have h3 := ((HS2.out.setSlot (a * 2) 0).setSlot (a * 2 + 1) (t + 1)).carry ((Touch.refl [] _).drew) (by simp) (by simp) (by simp)
  have T2 := ((((T1.out.mono (S' := [p, g, k]) (by simp)).setCell (a := ⟨g, a * 2, none⟩) (by simp) (.int .i64 0)).setCell (a := ⟨g, a * 2 + 1, none⟩) (by simp) (.int .i64 (t + 1)))).drew
  have e0 : (((w1.setCell ⟨g, a * 2, none⟩ (.int .i64 0)).setCell ⟨g, a * 2 + 1, none⟩ (.int .i64 (t + 1))).drew).cell? ⟨w.heap.size, 0, none⟩ = some (.int .i64 a) := by
    rw [← d0]
    exact (((Touch.refl [g] w1).setCell (a := ⟨g, a * 2, none⟩) (by simp) (.int .i64 0)).setCell (a := ⟨g, a * 2 + 1, none⟩) (by simp) (.int .i64 (t + 1))).drew.cell (a := ⟨w.heap.size, 0, none⟩) hsz (by simp; omega)
  have hs2 : w1.heap.size = (((w1.setCell ⟨g, a * 2, none⟩ (.int .i64 0)).setCell ⟨g, a * 2 + 1, none⟩ (.int .i64 (t + 1))).drew).heap.size := by simp
  rw [hs2] at hsz
  clear HS2 T1 d0 d1 c0 c1 f1 s0 s1 fs fs1 hs2
  generalize ((w1.setCell ⟨g, a * 2, none⟩ (.int .i64 0)).setCell ⟨g, a * 2 + 1, none⟩ (.int .i64 (t + 1))).drew = w2 at *
  have c1 := h3.c1
  have f1 := h3.box.frozen 1
  have lp2 := h3.ltp
  have lk2 := h3.ltk
  have hown := h3.stack
  have HO := Lib.hid hown
  have HS := Lib.hid h3
  have HT := Lib.hid T2
  clear hown h3 T2
  go_region_law (first | (refine step_append_lies _ (by rfl) _ _ _ (by rfl) 0 3 i0 _ 1 8 Try.underlying40 hi0 hz0 hz1 hz2 rfl (by omega) (.slice (some ⟨k, 0, none⟩) m c) m (iv K m) (by rfl) ((HO.out.alloc _).drew) ⟨w2.heap.size, 0, none⟩ 1 1 [.int .i64 a] (by rfl) (by rfl) (World.news_of_block (cs := #[.int .i64 a]) (t := 3) (fr := (0, 0)) (heap_alloc_new w2 _)) (by simp [Value.oneCell']) (by omega) (by unfold maxLen; omega) (by omega) (by simp) (w2.heap.size + 1) (by simp) ?_; intro gg cap w3 hown3 hgrow hat hlt; have q1 := (grew_cell hgrow lp2 (by simp [Value.ownBlock]; omega) 1).1.trans c1; have q2 := (grew_cell hgrow lp2 (by simp [Value.ownBlock]; omega) 1).2.trans f1))
  all_goals
    go_wp2
    go_ret
    have T3 : Touch [k] w2 w3 := ((Touch.refl [k] w2).alloc _).drew.grown hgrow (by simp [Value.ownBlock])
    have hat' : gg = k ∨ w2.heap.size ≤ gg := by
      rcases hat with h | h
      · simp [Value.ownBlock] at h
        omega
      · omega
    have hww := HT.out.size
    exact ⟨gg, cap, rfl, HS.out.pushed T3 hown3 hat', (HT.out.trans T3 (by simp)).setCell (by simp) _, by omega⟩
end
end Go.Proofs.Ytalkpoeliekbfaa

/-
  Contracts of layer 6 (slab): New, Copy of nothing, and the law's example.
-/
namespace Go.Proofs.Ytalkpoeliekbfaa
open Go.ChangeShapes Go.WideShapes Go.ChangeAt Go.RowKit Go.Deep
set_option linter.unusedVariables false

theorem slot_info : (Try.prog.info? 124).map (fun i => (i.zero, i.size, i.bytes)) = some (some (.agg #[.int .i64 0, .int .i64 0]), 2, 16) := by kernel_rfl

theorem copy_nil (w : World) :
    Calls Try.prog 60 #[.pointer none] w fun e w' => e = .returned (.pointer none) ∧ w = w' := by
  go_enter Try.func60, Try.ntmps60
  go_wp2
  go_ret
  exact ⟨rfl, rfl⟩

theorem new_no (n : Int) (w : World) (h : n < 1 ∨ 4096 < n) :
    Calls Try.prog 51 #[.int .i64 n] w fun e w' => e = .returned (.pointer none) ∧ w = w' := by
  rcases h with h | h
  · go_enter Try.func51, Try.ntmps51
    go_wp2
    go_ret
    exact ⟨rfl, rfl⟩
  · have h1 : ¬ n < 1 := by omega
    go_enter Try.func51, Try.ntmps51
    go_wp2
    go_ret
    exact ⟨rfl, rfl⟩

theorem make_slots (n : Nat) (hn : n ≤ 4096) (w : World) : (Instr.makeSlice 120 (.int .i64 (n : Int)) (.int .i64 (n : Int))).run Try.prog w =
    .ok (.slice (some ⟨w.heap.size, 0, none⟩) n n) (w.alloc (.cells (madeCells #[.int .i64 0, .int .i64 0] (n * 2)) 124)) := by
  obtain ⟨i0, hi0, hz0, hz1, hz2⟩ := info_parts slot_info
  have := run_make (P := Try.prog) w 120 124 i0 _ Try.underlying120 hi0 hz0 .i64 .i64 n n (by omega) (by omega) (by rw [hz2]; omega) (by omega)
  rw [hz1] at this
  simpa [Value.cells] using this

theorem made_pairs (n : Nat) : (madeCells #[.int .i64 0, .int .i64 0] (n * 2)).toList = iv (fun _ => 0) (n * 2) := by
  apply List.ext_getElem?
  intro j
  by_cases hj : j < n * 2
  · rw [iv_get _ hj]
    have : j % 2 = 0 ∨ j % 2 = 1 := by omega
    simp [madeCells, hj]
    rcases this with h | h <;> simp [h]
  · simp [madeCells, iv, hj]
theorem made_ints (n : Nat) : (madeCells #[.int .i64 0] n).toList = iv (fun _ => 0) n := by
  rw [toList_madeCells_one]
  unfold iv
  rw [List.map_const', List.length_range]

def Fresh (w : World) (n : Nat) (K : Nat → Int) (v : Value) (w' : World) : Prop :=
  ∃ p g k, v = .pointer (some ⟨p, 0, none⟩) ∧ SlabAt w' p g k n n n n (fun _ => 0) K ∧ Touch [] w w' ∧ w.heap.size ≤ p ∧ w.heap.size ≤ g ∧ w.heap.size ≤ k

theorem fresh_of {w w' : World} {n p g k : Nat} (hn : n ≤ 4096) (hbox : w'.heap[p]? = some (.cells #[.slice (some ⟨g, 0, none⟩) n n, .slice (some ⟨k, 0, none⟩) n n] 122 (0, 0)))
    (hs : w'.heap[g]? = some (.cells (madeCells #[.int .i64 0, .int .i64 0] (n * 2)) 124 (0, 0))) (hk : w'.heap[k]? = some (.cells (madeCells #[.int .i64 0] n) 3 (0, 0)))
    (t : Touch [] w w') (lp : w.heap.size ≤ p) (lg : w.heap.size ≤ g) (lk : w.heap.size ≤ k) (n1 : p ≠ g) (n2 : p ≠ k) (n3 : g ≠ k) : Fresh w n (fun _ => 0) (.pointer (some ⟨p, 0, none⟩)) w' := by
  refine ⟨p, g, k, rfl, ⟨⟨_, hbox, rfl, fun i hi => ?_⟩, ⟨by rw [iv_length], .inr ⟨g, n, _, rfl, Nat.zero_le _, hs, Nat.le_refl _, by unfold maxLen; omega, size_madeCells _ _, ?_⟩⟩,
    ⟨by rw [iv_length]; omega, .inr ⟨k, n, _, rfl, Nat.zero_le _, hk, Nat.le_refl _, by unfold maxLen; omega, by rw [size_madeCells]; omega, ?_⟩⟩, n1, n2, n3⟩, t, lp, lg, lk⟩
  · by_cases e : i = 0
    · subst e; rfl
    · obtain rfl : i = 1 := by omega
      rfl
  · rw [made_pairs, List.take_of_length_le (by rw [iv_length]; omega)]
  · rw [made_ints, List.take_of_length_le (by rw [iv_length]; omega)]

theorem SlabAt.setK {w : World} {p g k n ns m c : Nat} {S K : Nat → Int} (h : SlabAt w p g k n ns m c S K) (i : Nat) (x : Int) : SlabAt (w.setCell ⟨k, i, none⟩ (.int .i64 x)) p g k n ns m c S (upd K i x) := by
  have t : Touch [k] w (w.setCell ⟨k, i, none⟩ (.int .i64 x)) := (Touch.refl _ _).setCell (by simp) _
  refine ⟨h.box.of_block (t.block _ h.ltp (by simpa using h.pk)), t.row h.slots (by simpa [Value.ownBlock] using h.gk), ?_, h.pg, h.pk, h.gk⟩
  rw [← iv_set]
  exact (h.stack.stored i _).1

theorem three_0 (w : World) (A B C : Obj) : ((((w.alloc A).alloc B).alloc C).drew).heap[w.heap.size]? = some A := by
  show (((w.heap.push A).push B).push C)[w.heap.size]? = some A
  rw [Array.getElem?_push, if_neg (by rw [Array.size_push, Array.size_push]; omega), Array.getElem?_push, if_neg (by rw [Array.size_push]; omega), Array.getElem?_push, if_pos rfl]
theorem three_1 (w : World) (A B C : Obj) : ((((w.alloc A).alloc B).alloc C).drew).heap[w.heap.size + 1]? = some B := by
  show (((w.heap.push A).push B).push C)[w.heap.size + 1]? = some B
  rw [Array.getElem?_push, if_neg (by rw [Array.size_push, Array.size_push]; omega), Array.getElem?_push, if_pos (by rw [Array.size_push])]
theorem three_2 (w : World) (A B C : Obj) : ((((w.alloc A).alloc B).alloc C).drew).heap[w.heap.size + 1 + 1]? = some C := by
  show (((w.heap.push A).push B).push C)[w.heap.size + 1 + 1]? = some C
  rw [Array.getElem?_push, if_pos (by rw [Array.size_push, Array.size_push])]

set_option maxHeartbeats 1600000 in
theorem new_yes (n : Nat) (w : World) (h1 : 1 ≤ n) (h2 : n ≤ 4096) :
    Calls Try.prog 51 #[.int .i64 n] w fun e w' => ∃ v, e = .returned v ∧ Fresh w n (fun i => (n : Int) - 1 - i) v w' := by
  have m1 := make_slots n h2
  have m2 := run_make_row' (P := Try.prog) 40 3 (.int .i64 0) 8 Try.underlying40 int_info rfl .i64 .i64 n (by omega) (by omega)
  go_enter Try.func51, Try.ntmps51
  go_upto_region 3 with fail
  go_cut [3] (fun v wx => Fresh w n (fun _ => 0) v wx)
  case first =>
    go_region
    all_goals go_wp2_with fail
    all_goals go_meet
    all_goals
      clear m1 m2
      first
      | exact fresh_of (g := w.heap.size) (k := w.heap.size + 1) h2 (three_2 _ _ _ _) (three_0 _ _ _ _) (three_1 _ _ _ _) ((((Touch.refl _ _).alloc _).alloc _).alloc _).drew (by omega) (by omega) (by omega) (by omega) (by omega) (by omega)
      | exact fresh_of (g := w.heap.size + 1) (k := w.heap.size) h2 (three_2 _ _ _ _) (three_1 _ _ _ _) (three_0 _ _ _ _) ((((Touch.refl _ _).alloc _).alloc _).alloc _).drew (by omega) (by omega) (by omega) (by omega) (by omega) (by omega)
  case rest =>
    obtain ⟨p, g, k, rfl, h0, t0, lp, lg, lk⟩ := hcut
    have c1 := h0.c1
    have HS := Lib.hid h0
    have HT := Lib.hid t0
    clear h0 t0 m1 m2
    go_wp2_with fail
    clear c1
    go_loopw [22] (fun i wr => ∃ j : Nat, j ≤ n ∧ i = .int .i64 j ∧ SlabAt wr p g k n n n n (fun _ => 0) (fun i => if i < j then (n : Int) - 1 - i else 0) ∧ Touch [] w wr) (fun i _ => n - (intOf i).toNat)
    case atStart => exact ⟨0, Nat.zero_le _, rfl, HS.out.congr (fun _ _ => rfl) (fun i _ => by simp), HT.out⟩
    case round =>
      obtain ⟨j, hj, rfl, h0, t0⟩ := hrel
      by_cases hlt : j < n
      · have c1 := h0.c1
        have k0 := h0.ck hlt
        have fk := h0.stack.frozenAt j
        have HS := Lib.hid h0
        have HT := Lib.hid t0
        clear h0 t0
        simp only [Nat.lt_irrefl, if_false] at k0
        go_wp2_with fail
        go_roundw
        case rel =>
          refine ⟨j + 1, by omega, by go_num, (HS.out.setK j ((n : Int) - 1 - j)).congr (fun _ _ => rfl) (fun i hi => ?_), HT.out.setCell (by simp; omega) _⟩
          by_cases e : i = j
          · subst e
            rw [upd_same, if_pos (by omega)]
          · rw [upd_other _ _ e]
            by_cases h : i < j
            · rw [if_pos h, if_pos (by omega)]
            · rw [if_neg h, if_neg (by omega)]
        case measure => simp [intOf]; omega
      · obtain rfl : j = n := by omega
        go_wp2
        go_ret
        exact ⟨_, rfl, p, g, k, rfl, h0.congr (fun _ _ => rfl) (fun i hi => by rw [if_pos hi]), t0, lp, lg, lk⟩
end Go.Proofs.Ytalkpoeliekbfaa

/-
  A block of its own, by all its cells.
-/
namespace Go.Proofs.Ytalkpoeliekbfaa
open Go.ChangeShapes Go.WideShapes Go.ChangeAt Go.RowKit Go.Deep
set_option linter.unusedVariables false

/-- A block of its own with those cells. -/
def BoxV (w : World) (b : Nat) (t : TypeId) (cs : Array Value) : Prop := w.heap[b]? = some (.cells cs t (0, 0))
section
variable {w w' : World} {b : Nat} {t : TypeId} {cs : Array Value}
theorem BoxV.lt (h : BoxV w b t cs) : b < w.heap.size := (Array.getElem?_eq_some_iff.1 h).1
theorem BoxV.cell (h : BoxV w b t cs) (i : Nat) : w.cell? ⟨b, i, none⟩ = cs[i]? := cell_of_row w b i _ t (0, 0) h
theorem BoxV.fr (h : BoxV w b t cs) (i : Nat) : w.frozen? ⟨b, i, none⟩ = false := frozen_of_row w b i _ t h
theorem BoxV.carry {S : List Nat} (h : BoxV w b t cs) (k : Touch S w w') (hb : b ∉ S) : BoxV w' b t cs := (k.block b h.lt hb).trans h
theorem BoxV.set (h : BoxV w b t cs) (i : Nat) (v : Value) : BoxV (w.setCell ⟨b, i, none⟩ v) b t (cs.setIfInBounds i v) := heap_setCell_same w b i _ t v h
theorem BoxV.new (w : World) (t : TypeId) (cs : Array Value) : BoxV (w.alloc (.cells cs t)) w.heap.size t cs := heap_alloc_new w _
end

section
variable {w w2 : World} {cs : Array Value} {T : TypeId} {o o' : Obj}
theorem BoxV.of2 : BoxV ((w.alloc (.cells cs T)).alloc o) w.heap.size T cs := (BoxV.new w T cs).carry ((Touch.refl [] _).alloc o) (by simp)
theorem BoxV.of3 : BoxV (((w.alloc (.cells cs T)).alloc o).alloc o') w.heap.size T cs := BoxV.of2.carry ((Touch.refl [] _).alloc o') (by simp)
theorem BoxV.at1 : BoxV ((w.alloc o).alloc (.cells cs T)) (w.heap.size + 1) T cs := by
  have := BoxV.new (w.alloc o) T cs
  rwa [nblk_alloc] at this
theorem BoxV.at1of3 : BoxV (((w.alloc o).alloc (.cells cs T)).alloc o') (w.heap.size + 1) T cs := BoxV.at1.carry ((Touch.refl [] _).alloc o') (by simp)
theorem BoxV.at2 : BoxV (((w.alloc o).alloc o').alloc (.cells cs T)) (w.heap.size + 2) T cs := by
  have := BoxV.new ((w.alloc o).alloc o') T cs
  rwa [nblk_alloc, nblk_alloc] at this
end
theorem BoxV.range {w : World} {b : Nat} {T : TypeId} {cs : Array Value} (h : BoxV w b T cs) : w.rangeAt b 0 cs.toList := by
  intro j v hv
  rw [Nat.zero_add, h.cell]
  simpa using hv
/-- A result that lies in a block of its own: a struct, handed back by value. -/
theorem ret_box {P : Program} {fn : Func} {s : Tmp} {t : TypeId} {tmps : Array Value} {w : World} {b : Nat} {T : TypeId} {cs : Array Value} {d : TypeDesc} (h : fn.results = #[.cell s t]) (hx : tmps.getD s undef = .pointer (some ⟨b, 0, none⟩)) (hB : BoxV w b T cs)
    (hu : P.underlying t = some d) (hd : d.isRow = true) (hi : (P.info? t).map (·.size) = some cs.size) : (results fn tmps).run P w = .ok (.agg cs) w := by
  have L := run_loadVar_mid (P := P) w b 0 t cs.toList d hB.range hu hd (by simpa using hi)
  rw [Array.toArray_toList] at L
  have hx' : tmps[s]?.getD undef = .pointer (some ⟨b, 0, none⟩) := by simpa using hx
  simp [results, h, hx', asAddr, L]
end Go.Proofs.Ytalkpoeliekbfaa

/-
  A whole block that is stored at once, and a result of a struct with words beside it.
-/
namespace Go.Proofs.Ytalkpoeliekbfaa
open Go.ChangeShapes Go.WideShapes Go.ChangeAt Go.RowKit Go.Deep
set_option linter.unusedVariables false

section
variable {w : World} {b : Nat} {T : TypeId}
def putAll (cs : Array Value) : Nat → List Value → Array Value
  | _, [] => cs
  | o, v :: r => putAll (cs.setIfInBounds o v) (o + 1) r
theorem BoxV.putW : ∀ (vs : List Value) (o : Nat) (w : World) (cs : Array Value), BoxV w b T cs → BoxV (w.setCells b o vs) b T (putAll cs o vs)
  | [], _, _, _, h => h
  | v :: r, o, w, cs, h => BoxV.putW r (o + 1) (w.setCell ⟨b, o, none⟩ v) _ (h.set o v)
theorem touch_cellsW : ∀ (vs : List Value) (o : Nat) (w : World), Touch [b] w (w.setCells b o vs)
  | [], _, w => Touch.refl _ _
  | v :: r, o, w => ((Touch.refl [b] w).setCell (a := ⟨b, o, none⟩) (.inl (List.mem_singleton.2 rfl)) v).trans (touch_cellsW r (o + 1) _) (fun q hq => .inl hq)
theorem putAll_get (i : Nat) : ∀ (vs : List Value) (o : Nat) (cs : Array Value), o + vs.length ≤ cs.size → (putAll cs o vs)[i]? = if o ≤ i ∧ i < o + vs.length then vs[i - o]? else cs[i]?
  | [], o, cs, _ => by
    rw [if_neg (by simp only [List.length_nil]; omega)]
    rfl
  | v :: r, o, cs, h => by
    simp only [List.length_cons] at h ⊢
    show (putAll (cs.setIfInBounds o v) (o + 1) r)[i]? = _
    rw [putAll_get i r (o + 1) _ (by simp; omega)]
    by_cases h1 : o = i
    · subst h1
      rw [if_neg (by omega), if_pos (by omega), Nat.sub_self, List.getElem?_cons_zero, Array.getElem?_setIfInBounds_self_of_lt (by omega)]
    · by_cases h2 : o + 1 ≤ i ∧ i < o + 1 + r.length
      · rw [if_pos h2, if_pos (by omega), show i - o = (i - (o + 1)) + 1 by omega, List.getElem?_cons_succ]
      · rw [if_neg h2, if_neg (by omega), Array.getElem?_setIfInBounds_ne h1]
theorem putAll_all (cs cs' : Array Value) (h : cs'.size = cs.size) : putAll cs 0 cs'.toList = cs' := by
  apply Array.ext_getElem?
  intro i
  rw [putAll_get i cs'.toList 0 cs (by simp; omega)]
  by_cases hi : i < cs'.size
  · rw [if_pos (by simp; omega)]
    simp
  · rw [if_neg (by simp; omega), Array.getElem?_eq_none (by omega), Array.getElem?_eq_none (by omega)]
theorem BoxV.wholeW {cs : Array Value} (h : BoxV w b T cs) (cs' : Array Value) (hs : cs'.size = cs.size) : BoxV (w.setCells b 0 cs'.toList) b T cs' := by
  have := BoxV.putW cs'.toList 0 w cs h
  rwa [putAll_all cs cs' hs] at this
theorem BoxV.thereW {cs : Array Value} (h : BoxV w b T cs) (o n : Nat) (hn : o + n ≤ cs.size) : w.there b o n := by
  intro j hj
  exact ⟨by rw [h.cell]; simp; omega, h.fr (o + j)⟩
theorem BoxV.rangeW {cs : Array Value} (h : BoxV w b T cs) (o : Nat) (l : List Value) (hl : ∀ j v, l[j]? = some v → cs[o + j]? = some v) : w.rangeAt b o l := fun j v hv => by
  rw [h.cell]
  exact hl j v hv
end
/-- A struct in a block of its own, and three words. -/
theorem ret_box3 {P : Program} {fn : Func} {s a b' c : Tmp} {t : TypeId} {tmps : Array Value} {w : World} {b : Nat} {T : TypeId} {cs : Array Value} {d : TypeDesc} {va vb vc : Value} (h : fn.results = #[.cell s t, .tmp a, .tmp b', .tmp c]) (hx : tmps.getD s undef = .pointer (some ⟨b, 0, none⟩)) (hB : BoxV w b T cs)
    (hu : P.underlying t = some d) (hd : d.isRow = true) (hi : (P.info? t).map (·.size) = some cs.size) (ha : tmps.getD a undef = va) (hb : tmps.getD b' undef = vb) (hc : tmps.getD c undef = vc) : (results fn tmps).run P w = .ok (.tuple #[.agg cs, va, vb, vc]) w := by
  have L := run_loadVar_mid (P := P) w b 0 t cs.toList d hB.range hu hd (by simpa using hi)
  rw [Array.toArray_toList] at L
  have hx' : tmps[s]?.getD undef = .pointer (some ⟨b, 0, none⟩) := by simpa using hx
  have ha' : tmps[a]?.getD undef = va := by simpa using ha
  have hb' : tmps[b']?.getD undef = vb := by simpa using hb
  have hc' : tmps[c]?.getD undef = vc := by simpa using hc
  simp [results, h, hx', ha', hb', hc', asAddr, L]
/-- Two structs in blocks of their own, and a word. -/
theorem ret_box2 {P : Program} {fn : Func} {s s' a : Tmp} {t t' : TypeId} {tmps : Array Value} {w : World} {b b' : Nat} {T T' : TypeId} {cs cs' : Array Value} {d d' : TypeDesc} {va : Value} (h : fn.results = #[.cell s t, .cell s' t', .tmp a]) (hx : tmps.getD s undef = .pointer (some ⟨b, 0, none⟩)) (hB : BoxV w b T cs)
    (hu : P.underlying t = some d) (hd : d.isRow = true) (hi : (P.info? t).map (·.size) = some cs.size) (hy : tmps.getD s' undef = .pointer (some ⟨b', 0, none⟩)) (hB' : BoxV w b' T' cs')
    (hu' : P.underlying t' = some d') (hd' : d'.isRow = true) (hi' : (P.info? t').map (·.size) = some cs'.size) (ha : tmps.getD a undef = va) : (results fn tmps).run P w = .ok (.tuple #[.agg cs, .agg cs', va]) w := by
  have L := run_loadVar_mid (P := P) w b 0 t cs.toList d hB.range hu hd (by simpa using hi)
  rw [Array.toArray_toList] at L
  have L' := run_loadVar_mid (P := P) w b' 0 t' cs'.toList d' hB'.range hu' hd' (by simpa using hi')
  rw [Array.toArray_toList] at L'
  have hx' : tmps[s]?.getD undef = .pointer (some ⟨b, 0, none⟩) := by simpa using hx
  have hy' : tmps[s']?.getD undef = .pointer (some ⟨b', 0, none⟩) := by simpa using hy
  have ha' : tmps[a]?.getD undef = va := by simpa using ha
  simp [results, h, hx', hy', ha', asAddr, L, L']
end Go.Proofs.Ytalkpoeliekbfaa

/-
  Regions that draw their order, whose operations read memory and call functions that make new memory alone: one walk in the order of the text; and the same with a forced tail that writes.
-/
namespace Go.Proofs.Ytalkpoeliekbfaa
open Go.ChangeShapes Go.WideShapes Go.ChangeAt Go.RowKit Go.Deep
set_option linter.unusedVariables false

/-- The worlds that differ from wd in new blocks alone: a class of worlds, by an index. -/
structure Cls (wd : World) where
  val : World
  property : Touch [] wd val
instance (wd : World) : Nonempty (Cls wd) := ⟨⟨wd, Touch.refl _ _⟩⟩
theorem wp_region_cls {P : Program} {id : Nat} {Q : Exit → Act → World → Prop} {a : Act} {w wd : World} {l : List Oper} (hm : P.follows .mixedOrders = true) (hB : Region.lexB .any l.toArray = true) (hC : Touch [] wd w.drew)
    (h : wpQuiet P l.toArray (fun w' => ∃ x : Cls wd, w' = x.val) (fun a' => ∀ w', (∃ x : Cls wd, w' = x.val) → Q .normal a' w') l a) : (Code.region id l.toArray true).wp P Q a w :=
  wp_region_quiet (C := fun w' => ∃ x : Cls wd, w' = x.val) hm hB ⟨⟨_, hC⟩, rfl⟩ (by simpa using h)
theorem Calls.cls_of {P : Program} {f : FuncId} {args : Array Value} {w wd : World} {v : Value} (h : Calls P f args w fun e w' => e = .returned v ∧ Touch [] wd w') : Calls P f args w fun e w'' => e = .returned v ∧ ∃ x : Cls wd, w'' = x.val :=
  h.mono fun _ _ ⟨he, t⟩ => ⟨he, ⟨_, t⟩, rfl⟩
/-- A call that makes new memory alone, at a world of the class. -/
theorem Calls.cls_at {P : Program} {f : FuncId} {args : Array Value} {wd : World} {v : Value} {x : Cls wd} (h : Calls P f args x.val fun e w' => e = .returned v ∧ Touch [] x.val w') : Calls P f args x.val fun e w'' => e = .returned v ∧ ∃ y : Cls wd, w'' = y.val :=
  Calls.cls_of (h.mono fun _ _ ⟨he, t⟩ => ⟨he, x.property.trans t (by simp)⟩)
/-- A call that leaves the world alone. -/
theorem Calls.cls_same {P : Program} {f : FuncId} {args : Array Value} {wd : World} {v : Value} {x : Cls wd} (h : Calls P f args x.val fun e w' => e = .returned v ∧ x.val = w') : Calls P f args x.val fun e w'' => e = .returned v ∧ ∃ y : Cls wd, w'' = y.val :=
  h.mono fun _ _ ⟨he, t⟩ => ⟨he, x, t.symm⟩

section
variable {P : Program} {ops : Array Oper} {md : Region.Mode} {C : World → Prop} {n g : Nat}

/-- f picks among the first n operations, whichever are ready, then L. -/
def Heads (P : Program) (md : Region.Mode) (ops : Array Oper) (C : World → Prop) (n : Nat) (L : Array Bool → Act → Prop) : Nat → Array Bool → Act → Prop
  | 0, s, a => L s a
  | f + 1, s, a => Region.ready md ops s ≠ [] ∧ ∀ i, i ∈ Region.ready md ops s → i < n ∧ qOp P ops C i (fun a' => Heads P md ops C n L f (s.setIfInBounds i true) a') a

theorem Heads.any {L : Array Bool → Act → Prop} {Q : Exit → Act → World → Prop} (hL : ∀ s a w, C w → L s a → wpAny P md ops Q g s a w) (f : Nat) : ∀ (s : Array Bool) (a : Act) (w : World), C w → Heads P md ops C n L f s a → wpAny P md ops Q (f + g) s a w := by
  induction f with
  | zero => intro s a w hw h; rw [Nat.zero_add]; exact hL s a w hw h
  | succ f ih =>
    intro s a w hw h
    rw [show f + 1 + g = f + g + 1 by omega]
    refine ⟨fun h0 => absurd h0 h.1, fun i hi => ?_⟩
    exact wpOp_of_qOp hw (fun a' w' hw' h' => ih _ a' w' hw' h') (h.2 i hi).2

/-- Of the first n operations one that is ready and apart from the others may be taken first. -/
theorem Heads.front {L : Array Bool → Act → Prop} {i : Nat} {o : Oper} {v : Value} (ho : ops[i]? = some o) (hsel : ∀ (j : Nat) (o : Oper) cs b, ops[j]? = some o → o.op ≠ .select cs b)
    (hs : Region.sinkB md ops n = true) (hc : Region.chainB md ops n = true) (hn : n < ops.size) (hin : i < n) (hL : ∀ s a, L s a → ∀ j ∈ Region.ready md ops s, n ≤ j) (f : Nat) :
    ∀ (s : Array Bool) (a : Act), HeadInv md ops n s →
      (∀ j oj, ops[j]? = some oj → j ≠ i → s.getD j true = false → (∀ e ∈ oj.after, Region.binds md e = true → e.on ≠ i) → o.apart ops oj = true) →
      i ∈ Region.ready md ops s → YieldsIn P ops C o v a → Heads P md ops C n L f (s.setIfInBounds i true) (a.put o.dst v) → Heads P md ops C n L (f + 1) s a := by
  induction f with
  | zero =>
    intro s a inv _ hr hy h
    refine ⟨List.ne_nil_of_mem hr, fun j hj => ?_⟩
    by_cases hji : j = i
    · subst hji
      exact ⟨hin, hy.qOp ho h⟩
    · have hge := hL _ _ h j (ready_mono hj hji)
      exact absurd hj (tail_waits hs hc hn inv _ i rfl hin (mem_ready.1 hr).1 j hge)
  | succ f ih =>
    intro s a inv hap hr hy h
    have hun := (mem_ready.1 hr).1
    refine ⟨List.ne_nil_of_mem hr, fun j hj => ?_⟩
    have hjn : j < n := Nat.lt_of_not_le fun hge => tail_waits hs hc hn inv _ i rfl hin hun j hge hj
    refine ⟨hjn, ?_⟩
    by_cases hji : j = i
    · subst hji
      exact hy.qOp ho h
    · obtain ⟨hju, oj, hoj, hall⟩ := mem_ready.1 hj
      have hfree : ∀ e ∈ oj.after, Region.binds md e = true → e.on ≠ i := by
        intro e he hb heq
        have := hall e he hb
        rw [heq, getD_both hun] at this
        cases this
      have hput := qOp_put hoj (hap j oj hoj hji hju hfree) (fun cs b => hsel i o cs b ho) (fun cs b => hsel j oj cs b hoj) hy (h.2 j (ready_mono hj hji)).2
      refine qOp_mono (fun a' ⟨hy', h'⟩ => ?_) hput
      refine ih (s.setIfInBounds j true) a' (inv.set hj hjn) (fun k ok hk hki hun' hno => ?_) (ready_mono hr (Ne.symm hji)) hy' ?_
      · refine hap k ok hk hki ?_ hno
        by_cases hjk : j = k
        · subst hjk
          exact hju
        · rwa [getD_set_ne true hjk] at hun'
      · rw [Array.setIfInBounds_comm _ _ hji]
        exact h'

theorem Heads.text {Lq : Act → Prop} (hsel : Region.noSelect ops = true) (hs : Region.sinkB md ops n = true) (hc : Region.chainB md ops n = true) (hn : n < ops.size) (l : List Oper) :
    ∀ (k : Nat) (s : Array Bool) (a : Act), (∀ j, j < l.length → l[j]? = ops[k + j]?) → k + l.length = n → HeadInv md ops n s → Region.lexHead md ops g l.length k s = true → wpQuiet P ops C Lq l a →
      Heads P md ops C n (fun s' a' => Region.seqB md ops g n s' = true ∧ Lq a') l.length s a := by
  induction l with
  | nil =>
    intro k s a _ hk _ hB h
    obtain rfl : k = n := hk
    exact ⟨hB, h⟩
  | cons o l ih =>
    intro k s a hl hk inv hB h
    have h0 : ops[k]? = some o := (hl 0 (Nat.succ_pos _)).symm
    simp only [List.length_cons, Region.lexHead, Bool.and_eq_true] at hB
    simp only [List.length_cons] at hk
    have hkr : k ∈ Region.ready md ops s := by simpa using hB.1.1
    obtain ⟨v, hy, hK⟩ := yieldsIn_of_qOp (C := C) (P := P) (K := wpQuiet P ops C Lq l) (a := a) h0 (by unfold qOp; simp only [h0]; exact h)
    refine Heads.front h0 (Region.noSelect_spec hsel) hs hc hn (by omega) (fun s' a' hL => seqB_ready hL.1) l.length s a inv (Region.free_spec h0 hB.1.2) hkr hy ?_
    refine ih (k + 1) _ _ (fun j hj => ?_) (by omega) (inv.set hkr (by omega)) hB.2 hK
    have := hl (j + 1) (by simpa using hj)
    rw [show k + 1 + j = k + (j + 1) by omega, ← this]
    rfl
end

/-- One walk of the first n operations in the order of the text, each reading or calling what makes new memory alone; then the rest, whose order is forced, in whatever world of the class. -/
theorem wp_region_tail {P : Program} {id : Nat} {Q : Exit → Act → World → Prop} {a : Act} {w wd : World} {l : List Oper} (n : Nat) (hm : P.follows .mixedOrders = true) (hB : Region.lexTailB .any l.toArray n = true) (hC : Touch [] wd w.drew)
    (h : wpQuiet P l.toArray (fun w' => ∃ x : Cls wd, w' = x.val) (fun a' => ∀ x : Cls wd, wpList P l.toArray Q (l.drop n) a' x.val) (l.take n) a) : (Code.region id l.toArray true).wp P Q a w := by
  simp only [Region.lexTailB, Bool.and_eq_true, decide_eq_true_eq] at hB
  obtain ⟨⟨⟨⟨hsel, hn⟩, hs⟩, hc⟩, hlex⟩ := hB
  have hn' : n < l.length := by simpa using hn
  have htl : (l.take n).length = n := by simp; omega
  have hdl : (l.drop n).length = l.toArray.size - n := by simp
  have inv0 : HeadInv .any l.toArray n (Array.replicate l.toArray.size false) := by
    constructor
    · simp
    · intro j oj _ hl
      rw [getD_replicate_false] at hl
      cases hl
    · intro t _ ht
      exact getD_in (by simpa using ht) (getD_replicate_false _ _)
  have H := Heads.text (g := l.toArray.size - n) hsel hs hc hn (l.take n) 0 _ a (fun j hj => by rw [htl] at hj; simp [hj]) (by omega) inv0 (by rw [htl]; exact hlex) h
  refine wp_region_any hm ?_
  have := Heads.any (Q := Q) (g := l.toArray.size - n) (fun s a' w' ⟨x, hx⟩ hL => by
    subst hx
    have := wpAny_of_seq (md := .any) (Q' := Q) (l.drop n) n s a' x.val (fun j => by simp [List.getElem?_drop]) (by rw [hdl]; exact hL.1) (hL.2 x)
    rwa [hdl] at this) _ _ _ _ ⟨⟨_, hC⟩, rfl⟩ H
  rw [htl, show n + (l.toArray.size - n) = l.toArray.size by omega] at this
  exact this
end Go.Proofs.Ytalkpoeliekbfaa

/-
  Regions that draw their order, whose operations make new memory alone and may hand back fresh pointers: each operation by itself, in whatever state in which what it waits for has been done.
-/
namespace Go.Proofs.Ytalkpoeliekbfaa
open Go.ChangeShapes Go.WideShapes Go.ChangeAt Go.RowKit Go.Deep
set_option linter.unusedVariables false

/-- A predicate on a value and a world that new memory does not disturb. -/
def Stab (φ : Value → World → Prop) : Prop := ∀ v w w', φ v w → Touch [] w w' → φ v w'
/-- What an operation has led to. -/
def RunsTo (P : Program) (φ : Value → World → Prop) (w : World) : Result Next → Prop
  | .ok (.value v) w' => φ v w' ∧ Touch [] w w'
  | .ok (.enter f args) w' => Touch [] w w' ∧ Calls P f args w' fun e w'' => ∃ v, e = .returned v ∧ φ v w'' ∧ Touch [] w' w''
  | _ => False
def Does (P : Program) (ops : Array Oper) (φ : Value → World → Prop) (o : Oper) (a : Act) (w : World) : Prop :=
  Region.wanted o (yielded ops a.tmps) = true ∧ RunsTo P φ w ((execOp a.eval o).run P w)

section
variable {P : Program} {ops : Array Oper} {Q : Exit → Act → World → Prop}
theorem Does.wpOp {i : Nat} {o : Oper} {a : Act} {w : World} {φ : Value → World → Prop} {K : Act → World → Prop} (hi : ops[i]? = some o) (h : Does P ops φ o a w) (hK : ∀ v w', φ v w' → Touch [] w w' → K (a.put o.dst v) w') :
    wpOp P ops Q i K a w := by
  unfold Go.wpOp
  simp only [hi]
  rw [if_pos h.1]
  left
  have h2 := h.2
  unfold Oper.wp
  generalize (execOp a.eval o).run P w = r at *
  cases r with
  | ok n w' =>
    cases n with
    | value v => exact hK v w' h2.1 h2.2
    | enter f args =>
      obtain ⟨t, hc⟩ := h2
      show Calls P f args w' _
      exact hc.mono fun e w'' ⟨v, he, hφ, t'⟩ => by subst he; exact hK v w'' hφ (t.trans t' (by simp))
    | _ => exact h2.elim
  | halt x w' => exact h2.elim

/-- The slots into which the region does not write are as they were. -/
def Known (ops : Array Oper) (a0 a : Act) : Prop := a.defers = a0.defers ∧ a.tmps.size = a0.tmps.size ∧ ∀ t : Nat, (∀ (j : Nat) (o : Oper), ops[j]? = some o → o.dst ≠ some t) → a.tmps[t]? = a0.tmps[t]?
/-- What operation j has left. -/
def Has (ops : Array Oper) (Φ : Nat → Value → World → Prop) (a : Act) (w : World) (j : Nat) : Prop := ∀ (o : Oper) (d : Tmp), ops[j]? = some o → o.dst = some d → ∃ v, a.tmps[d]? = some v ∧ Φ j v w

theorem all_listed {listed : Array Bool} (hacy : ∀ (i : Nat) (o : Oper) (e : Edge), ops[i]? = some o → e ∈ o.after → Region.binds .any e = true → e.on < i) (hs : listed.size = ops.size) (h0 : Region.ready .any ops listed = []) :
    ∀ i, i < ops.size → listed.getD i false = true := by
  intro i
  induction i using Nat.strongRecOn with
  | _ i ih =>
    intro hi
    have hil : i < listed.size := by omega
    by_cases hl : listed.getD i true = false
    · exfalso
      have hm : i ∈ Region.ready .any ops listed := by
        refine mem_ready.2 ⟨hl, ops[i], Array.getElem?_eq_getElem hi, fun e he hb => ?_⟩
        have hlt := hacy i _ e (Array.getElem?_eq_getElem hi) he hb
        exact ih e.on hlt (by omega)
      rw [h0] at hm
      cases hm
    · simp only [Array.getD_eq_getD_getElem?, Array.getElem?_eq_getElem hil, Option.getD_some] at hl ⊢
      cases hx : listed[i]
      · exact absurd hx hl
      · rfl
theorem none_ready {listed : Array Bool} (h : ∀ i, i < ops.size → listed.getD i false = true) : Region.ready .any ops listed = [] := by
  rw [List.eq_nil_iff_forall_not_mem]
  intro j hj
  obtain ⟨h1, o, ho, _⟩ := mem_ready.1 hj
  have hlt : j < ops.size := (Array.getElem?_eq_some_iff.1 ho).1
  have h2 := h j hlt
  simp only [Array.getD_eq_getD_getElem?] at h1 h2
  cases hx : listed[j]? with
  | none => rw [hx] at h2; simp at h2
  | some b => rw [hx] at h1 h2; simp at h1 h2; rw [h1] at h2; cases h2

theorem wpAny_phi {a0 : Act} {wd : World} {Φ : Nat → Value → World → Prop} (hst : ∀ j, Stab (Φ j)) (hdst : ∀ (i j : Nat) (o o' : Oper) (d : Tmp), ops[i]? = some o → ops[j]? = some o' → o.dst = some d → o'.dst = some d → i = j)
    (hin : ∀ (i : Nat) (o : Oper) (d : Tmp), ops[i]? = some o → o.dst = some d → d < a0.tmps.size) (hacy : ∀ (i : Nat) (o : Oper) (e : Edge), ops[i]? = some o → e ∈ o.after → Region.binds .any e = true → e.on < i)
    (hop : ∀ (i : Nat) (o : Oper), ops[i]? = some o → ∀ a w, Touch [] wd w → Known ops a0 a → (∀ e ∈ o.after, Region.binds .any e = true → Has ops Φ a w e.on) → Does P ops (Φ i) o a w)
    (hend : ∀ a w, Touch [] wd w → Known ops a0 a → (∀ j, j < ops.size → Has ops Φ a w j) → Q .normal a w) :
    ∀ (fuel : Nat) (listed : Array Bool) (a : Act) (w : World), listed.size = ops.size → listed.toList.count false ≤ fuel → Touch [] wd w → Known ops a0 a → (∀ j, listed.getD j false = true → Has ops Φ a w j) → wpAny P .any ops Q fuel listed a w := by
  intro fuel
  induction fuel with
  | zero =>
    intro listed a w hs hc ht hk hh
    have hall : ∀ i, i < ops.size → listed.getD i false = true := by
      intro i hi
      have hil : i < listed.size := by omega
      have h0 : listed.toList.count false = 0 := by omega
      rw [List.count_eq_zero] at h0
      simp only [Array.getD_eq_getD_getElem?, Array.getElem?_eq_getElem hil, Option.getD_some]
      cases hx : listed[i]
      · exact absurd (by rw [← hx]; simp) h0
      · rfl
    exact ⟨none_ready hall, hend a w ht hk fun j hj => hh j (hall j hj)⟩
  | succ fuel ih =>
    intro listed a w hs hc ht hk hh
    refine ⟨fun h0 => hend a w ht hk fun j hj => hh j (all_listed hacy hs h0 j hj), fun i hi => ?_⟩
    obtain ⟨hun, o, ho, hall⟩ := mem_ready.1 hi
    have hlt : i < ops.size := (Array.getElem?_eq_some_iff.1 ho).1
    have hil : i < listed.size := by omega
    have hif : listed[i] = false := by simpa [Array.getD_eq_getD_getElem?, Array.getElem?_eq_getElem hil] using hun
    refine Does.wpOp ho (hop i o ho a w ht hk fun e he hb => hh e.on (hall e he hb)) fun v w' hφ t => ?_
    refine ih _ _ _ (by simpa using hs) ?_ (ht.trans t (by simp)) ?_ ?_
    · rw [Array.toList_setIfInBounds, List.count_set (by simpa using hil)]
      have : listed.toList[i]'(by simpa using hil) = false := by simpa using hif
      rw [this]
      have hpos : 0 < listed.toList.count false := List.count_pos_iff.2 (by rw [← this]; simp)
      have e1 : (if (false == false) = true then 1 else 0 : Nat) = 1 := rfl
      have e2 : (if (true == false) = true then 1 else 0 : Nat) = 0 := rfl
      rw [e1, e2]
      omega
    · obtain ⟨k1, k2, k3⟩ := hk
      cases hd : o.dst with
      | none => exact ⟨k1, k2, k3⟩
      | some d =>
        refine ⟨k1, by simp [Act.put, k2], fun q hq => ?_⟩
        have hne : d ≠ q := fun e => hq i o ho (by rw [hd, e])
        simp only [Act.put]
        rw [Array.getElem?_setIfInBounds_ne hne]
        exact k3 q hq
    · intro j hj o' d' ho' hd'
      by_cases e : j = i
      · subst e
        obtain rfl : o = o' := by rw [ho] at ho'; simpa using ho'
        refine ⟨v, ?_, hφ⟩
        rw [hd']
        have := hin j o d' ho hd'
        simp [Act.put, hk.2.1, this]
      · have hjl : listed.getD j false = true := by
          simp only [Array.getD_eq_getD_getElem?] at hj ⊢
          rwa [Array.getElem?_setIfInBounds_ne (fun h => e h.symm)] at hj
        obtain ⟨u, hu, hΦ⟩ := hh j hjl o' d' ho' hd'
        refine ⟨u, ?_, hst j u w w' hΦ t⟩
        cases hd : o.dst with
        | none => exact hu
        | some d =>
          have hne : d ≠ d' := fun e2 => e (hdst j i o' o d' ho' ho hd' (by rw [hd, e2]))
          simp only [Act.put]
          rw [Array.getElem?_setIfInBounds_ne hne]
          exact hu

/-- The conditions on a region's slots and edges, as one Bool. -/
def phiB (ops : Array Oper) (n : Nat) : Bool :=
  (List.range ops.size).all fun i => match ops[i]? with
    | none => true
    | some o => (o.after.all fun e => !Region.binds .any e || decide (e.on < i)) && (match o.dst with
      | none => true
      | some d => decide (d < n) && (List.range ops.size).all fun j => (j == i) || (match ops[j]? with | none => true | some o' => o'.dst != some d))
theorem phiB_spec {n : Nat} (h : phiB ops n = true) :
    (∀ (i j : Nat) (o o' : Oper) (d : Tmp), ops[i]? = some o → ops[j]? = some o' → o.dst = some d → o'.dst = some d → i = j) ∧ (∀ (i : Nat) (o : Oper) (d : Tmp), ops[i]? = some o → o.dst = some d → d < n) ∧ (∀ (i : Nat) (o : Oper) (e : Edge), ops[i]? = some o → e ∈ o.after → Region.binds .any e = true → e.on < i) := by
  unfold phiB at h
  rw [List.all_eq_true] at h
  have key : ∀ (i : Nat) (o : Oper), ops[i]? = some o → (o.after.all fun e => !Region.binds .any e || decide (e.on < i)) = true ∧ (match o.dst with
      | none => true
      | some d => decide (d < n) && (List.range ops.size).all fun j => (j == i) || (match ops[j]? with | none => true | some o' => o'.dst != some d)) = true := fun i o ho => by
    have := h i (List.mem_range.2 (Array.getElem?_eq_some_iff.1 ho).1)
    simp only [ho, Bool.and_eq_true] at this
    exact this
  refine ⟨fun i j o o' d ho ho' hd hd' => ?_, fun i o d ho hd => ?_, fun i o e ho he hb => ?_⟩
  · have := (key i o ho).2
    simp only [hd, Bool.and_eq_true, List.all_eq_true] at this
    have := this.2 j (List.mem_range.2 (Array.getElem?_eq_some_iff.1 ho').1)
    simp only [ho', hd', Bool.or_eq_true, beq_iff_eq, bne_self_eq_false, Bool.false_eq_true, or_false] at this
    exact this.symm
  · have := (key i o ho).2
    simp only [hd, Bool.and_eq_true, decide_eq_true_eq] at this
    exact this.1
  · have := (key i o ho).1
    rw [Array.all_eq_true'] at this
    have := this e he
    simpa [hb] using this

/-- A region that draws its order, by what each operation leaves. -/
theorem wp_region_phi {id : Nat} {a0 : Act} {w wd : World} {Φ : Nat → Value → World → Prop} (hm : P.follows .mixedOrders = true) (hB : phiB ops a0.tmps.size = true) (hw : Touch [] wd w.drew) (hst : ∀ j, Stab (Φ j))
    (hop : ∀ (i : Nat) (o : Oper), ops[i]? = some o → ∀ a w, Touch [] wd w → Known ops a0 a → (∀ e ∈ o.after, Region.binds .any e = true → Has ops Φ a w e.on) → Does P ops (Φ i) o a w)
    (hend : ∀ a w, Touch [] wd w → Known ops a0 a → (∀ j, j < ops.size → Has ops Φ a w j) → Q .normal a w) : (Code.region id ops true).wp P Q a0 w := by
  obtain ⟨h1, h2, h3⟩ := phiB_spec hB
  refine wp_region_any hm (wpAny_phi hst h1 h2 h3 hop hend ops.size (Array.replicate ops.size false) a0 _ (by simp) (by simp) hw ⟨rfl, rfl, fun _ _ => rfl⟩ (fun j hj => ?_))
  simp only [Array.getD_eq_getD_getElem?] at hj
  rcases Nat.lt_or_ge j ops.size with hlt | hge
  · simp [hlt] at hj
  · simp [Array.getElem?_eq_none (show (Array.replicate ops.size false).size ≤ j by simpa using hge)] at hj
end
end Go.Proofs.Ytalkpoeliekbfaa

/-
  Single operations of a region, for wp_region_phi.
-/
namespace Go.Proofs.Ytalkpoeliekbfaa
open Go.ChangeShapes Go.WideShapes Go.ChangeAt Go.RowKit Go.Deep
set_option linter.unusedVariables false

section
variable {P : Program} {ops : Array Oper} {a a0 : Act} {w : World} {φ : Value → World → Prop} {o : Oper}
theorem known_slot (hk : Known ops a0 a) (t : Nat) (hn : (ops.all fun o => o.dst != some t) = true) {v : Value} (h0 : a0.tmps[t]? = some v) : a.eval (.tmp t) = v := by
  have h := hk.2.2 t (fun j o ho hd => by
    have := Array.all_eq_true'.1 hn o (Array.mem_of_getElem? ho)
    simp [hd] at this)
  simp [Act.eval, h, h0]
theorem has_slot {Φ : Nat → Value → World → Prop} {j : Nat} (h : Has ops Φ a w j) {o : Oper} {d : Tmp} (ho : ops[j]? = some o) (hd : o.dst = some d) : ∃ v, a.eval (.tmp d) = v ∧ Φ j v w := by
  obtain ⟨v, h1, h2⟩ := h o d ho hd
  exact ⟨v, by simp [Act.eval, h1], h2⟩
theorem wanted_none (h : o.guard = none) : Region.wanted o (yielded ops a.tmps) = true := by unfold Region.wanted; rw [h]
theorem wanted_some {g : Nat} {b : Bool} {og : Oper} {d : Tmp} (h : o.guard = some (g, b)) (hg : ops[g]? = some og) (hd : og.dst = some d) (hv : a.eval (.tmp d) = .bool b) : Region.wanted o (yielded ops a.tmps) = true := by
  unfold Region.wanted
  rw [h]
  simp only [yielded, hg, Option.bind_some, hd]
  simp only [Act.eval, Array.getD_eq_getD_getElem?] at hv
  cases hx : a.tmps[d]? with
  | none => rw [hx] at hv; simp [undef] at hv
  | some u =>
    rw [hx] at hv
    simp at hv
    subst hv
    simp
theorem does_value (hw : Region.wanted o (yielded ops a.tmps) = true) {v : Value} (hrun : (execOp a.eval o).run P w = .ok (.value v) w) (h : φ v w) : Does P ops φ o a w := ⟨hw, by rw [hrun]; exact ⟨h, Touch.refl _ _⟩⟩
theorem does_enter (hw : Region.wanted o (yielded ops a.tmps) = true) {f : FuncId} {args : Array Value} (hrun : (execOp a.eval o).run P w = .ok (.enter f args) w)
    (h : Calls P f args w fun e w'' => ∃ v, e = .returned v ∧ φ v w'' ∧ Touch [] w w'') : Does P ops φ o a w := ⟨hw, by rw [hrun]; exact ⟨Touch.refl _ _, h⟩⟩
end
end Go.Proofs.Ytalkpoeliekbfaa

/-
  Regions that draw their order, whose operations make new memory alone: what each leaves is a value, or whatever meets a predicate that new memory does not disturb; guarded operations may be passed by; the rest goes on with the slots written out.
-/
namespace Go.Proofs.Ytalkpoeliekbfaa
open Go.ChangeShapes Go.WideShapes Go.ChangeAt Go.RowKit Go.Deep
set_option linter.unusedVariables false

/-- What an operation leaves. -/
inductive Leaf where
  | const (c : Value)
  | pred (φ : Value → World → Prop)
def Leaf.ok : Leaf → Value → World → Prop
  | .const c, v, _ => v = c
  | .pred φ, v, w => φ v w
def StabL : List Leaf → Prop
  | [] => True
  | .const _ :: L => StabL L
  | .pred φ :: L => Stab φ ∧ StabL L
def okL (L : List Leaf) (j : Nat) (v : Value) (w : World) : Prop := match L[j]? with | some l => l.ok v w | none => True
theorem okL_stab : ∀ {L : List Leaf}, StabL L → ∀ j, Stab (okL L j)
  | [], _, j, v, w, w', h, t => by simp [okL]
  | .const c :: L, hs, 0, v, w, w', h, t => by simpa [okL, Leaf.ok] using h
  | .pred φ :: L, hs, 0, v, w, w', h, t => by
    have : φ v w' := hs.1 v w w' (by simpa [okL, Leaf.ok] using h) t
    simpa [okL, Leaf.ok] using this
  | .const c :: L, hs, j + 1, v, w, w', h, t => okL_stab (L := L) hs j v w w' h t
  | .pred φ :: L, hs, j + 1, v, w, w', h, t => okL_stab (L := L) hs.2 j v w w' h t
/-- The slots behind the region. -/
def putL (x : Nat → Value) : List Leaf → List Oper → Nat → Act → Act
  | .const c :: L, o :: ops, k, a => putL x L ops (k + 1) (a.put o.dst c)
  | .pred _ :: L, o :: ops, k, a => putL x L ops (k + 1) (a.put o.dst (x k))
  | _, _, _, a => a
/-- What is known of the values that are not written out. -/
def KnowL (x : Nat → Value) (w : World) : List Leaf → Nat → Prop
  | [], _ => True
  | .const _ :: L, k => KnowL x w L (k + 1)
  | .pred φ :: L, k => φ (x k) w ∧ KnowL x w L (k + 1)

def DoesG (P : Program) (ops : Array Oper) (φ : Value → World → Prop) (o : Oper) (a : Act) (w : World) : Prop :=
  (Region.wanted o (yielded ops a.tmps) = true ∧ RunsTo P φ w ((execOp a.eval o).run P w)) ∨ (Region.wanted o (yielded ops a.tmps) = false ∧ φ undef w)

section
variable {P : Program} {ops : Array Oper} {Q : Exit → Act → World → Prop}
theorem DoesG.wpOp {i : Nat} {o : Oper} {a : Act} {w : World} {φ : Value → World → Prop} {K : Act → World → Prop} (hi : ops[i]? = some o) (h : DoesG P ops φ o a w) (hK : ∀ v w', φ v w' → Touch [] w w' → K (a.put o.dst v) w') :
    wpOp P ops Q i K a w := by
  rcases h with h | ⟨h1, h2⟩
  · exact Does.wpOp hi h hK
  · unfold Go.wpOp
    simp only [hi]
    rw [if_neg (by rw [h1]; decide)]
    exact hK _ _ h2 (Touch.refl _ _)

theorem wpAny_phi3 {a0 : Act} {wd : World} {Φ : Nat → Value → World → Prop} (hst : ∀ j, Stab (Φ j)) (hdst : ∀ (i j : Nat) (o o' : Oper) (d : Tmp), ops[i]? = some o → ops[j]? = some o' → o.dst = some d → o'.dst = some d → i = j)
    (hin : ∀ (i : Nat) (o : Oper) (d : Tmp), ops[i]? = some o → o.dst = some d → d < a0.tmps.size) (hacy : ∀ (i : Nat) (o : Oper) (e : Edge), ops[i]? = some o → e ∈ o.after → Region.binds .any e = true → e.on < i)
    (hop : ∀ (i : Nat) (o : Oper), ops[i]? = some o → ∀ a w, Touch [] wd w → Known ops a0 a → (∀ e ∈ o.after, Region.binds .any e = true → Has ops Φ a w e.on) → DoesG P ops (Φ i) o a w)
    (hend : ∀ a w, Touch [] wd w → Known ops a0 a → (∀ j, j < ops.size → Has ops Φ a w j) → Q .normal a w) :
    ∀ (fuel : Nat) (listed : Array Bool) (a : Act) (w : World), listed.size = ops.size → listed.toList.count false ≤ fuel → Touch [] wd w → Known ops a0 a → (∀ j, listed.getD j false = true → Has ops Φ a w j) → wpAny P .any ops Q fuel listed a w := by
  intro fuel
  induction fuel with
  | zero =>
    intro listed a w hs hc ht hk hh
    have hall : ∀ i, i < ops.size → listed.getD i false = true := by
      intro i hi
      have hil : i < listed.size := by omega
      have h0 : listed.toList.count false = 0 := by omega
      rw [List.count_eq_zero] at h0
      simp only [Array.getD_eq_getD_getElem?, Array.getElem?_eq_getElem hil, Option.getD_some]
      cases hx : listed[i]
      · exact absurd (by rw [← hx]; simp) h0
      · rfl
    exact ⟨none_ready hall, hend a w ht hk fun j hj => hh j (hall j hj)⟩
  | succ fuel ih =>
    intro listed a w hs hc ht hk hh
    refine ⟨fun h0 => hend a w ht hk fun j hj => hh j (all_listed hacy hs h0 j hj), fun i hi => ?_⟩
    obtain ⟨hun, o, ho, hall⟩ := mem_ready.1 hi
    have hlt : i < ops.size := (Array.getElem?_eq_some_iff.1 ho).1
    have hil : i < listed.size := by omega
    have hif : listed[i] = false := by simpa [Array.getD_eq_getD_getElem?, Array.getElem?_eq_getElem hil] using hun
    refine DoesG.wpOp ho (hop i o ho a w ht hk fun e he hb => hh e.on (hall e he hb)) fun v w' hφ t => ?_
    refine ih _ _ _ (by simpa using hs) ?_ (ht.trans t (by simp)) ?_ ?_
    · rw [Array.toList_setIfInBounds, List.count_set (by simpa using hil)]
      have : listed.toList[i]'(by simpa using hil) = false := by simpa using hif
      rw [this]
      have hpos : 0 < listed.toList.count false := List.count_pos_iff.2 (by rw [← this]; simp)
      have e1 : (if (false == false) = true then 1 else 0 : Nat) = 1 := rfl
      have e2 : (if (true == false) = true then 1 else 0 : Nat) = 0 := rfl
      rw [e1, e2]
      omega
    · obtain ⟨k1, k2, k3⟩ := hk
      cases hd : o.dst with
      | none => exact ⟨k1, k2, k3⟩
      | some d =>
        refine ⟨k1, by simp [Act.put, k2], fun q hq => ?_⟩
        have hne : d ≠ q := fun e => hq i o ho (by rw [hd, e])
        simp only [Act.put]
        rw [Array.getElem?_setIfInBounds_ne hne]
        exact k3 q hq
    · intro j hj o' d' ho' hd'
      by_cases e : j = i
      · subst e
        obtain rfl : o = o' := by rw [ho] at ho'; simpa using ho'
        refine ⟨v, ?_, hφ⟩
        rw [hd']
        have := hin j o d' ho hd'
        simp [Act.put, hk.2.1, this]
      · have hjl : listed.getD j false = true := by
          simp only [Array.getD_eq_getD_getElem?] at hj ⊢
          rwa [Array.getElem?_setIfInBounds_ne (fun h => e h.symm)] at hj
        obtain ⟨u, hu, hΦ⟩ := hh j hjl o' d' ho' hd'
        refine ⟨u, ?_, hst j u w w' hΦ t⟩
        cases hd : o.dst with
        | none => exact hu
        | some d =>
          have hne : d ≠ d' := fun e2 => e (hdst j i o' o d' ho' ho hd' (by rw [hd, e2]))
          simp only [Act.put]
          rw [Array.getElem?_setIfInBounds_ne hne]
          exact hu

theorem actPut_same {a : Act} {t : Nat} (h : t < a.tmps.size) (v : Value) : (a.put (some t) v).tmps[t]? = some v := by simp [Act.put, h]
theorem actPut_other {a : Act} {o : Oper} {t : Nat} (v : Value) (h : o.dst ≠ some t) : (a.put o.dst v).tmps[t]? = a.tmps[t]? := by
  cases hd : o.dst with
  | none => rfl
  | some d => exact Array.getElem?_setIfInBounds_ne (fun e => h (by rw [hd, e]))
theorem actPut_size (a : Act) (d : Option Tmp) (v : Value) : (a.put d v).tmps.size = a.tmps.size := by cases d <;> simp [Act.put]
theorem actPut_defers (a : Act) (d : Option Tmp) (v : Value) : (a.put d v).defers = a.defers := by cases d <;> rfl

theorem putL_all {a : Act} {w : World} {L0 : List Leaf} (x : Nat → Value) (hx : ∀ (j : Nat) (o : Oper) (d : Tmp), ops[j]? = some o → o.dst = some d → x j = a.tmps.getD d undef) (hh : ∀ j, j < ops.size → Has ops (okL L0) a w j) :
    ∀ (L : List Leaf) (l : List Oper) (k : Nat) (b : Act), (∀ j, L[j]? = L0[k + j]?) → (∀ j, l[j]? = ops[k + j]?) → L.length = l.length → b.defers = a.defers → b.tmps.size = a.tmps.size →
      (∀ t : Nat, (∀ (j : Nat) (o : Oper), k ≤ j → ops[j]? = some o → o.dst ≠ some t) → b.tmps[t]? = a.tmps[t]?) → putL x L l k b = a
  | [], [], k, b, hL, hl, _, hd, hs, ht => by
    have : b.tmps = a.tmps := Array.ext_getElem? fun t => ht t fun j o hkj ho => by
      have := hl (j - k)
      rw [show k + (j - k) = j by omega, ho] at this
      simp at this
    obtain ⟨bt, bd⟩ := b
    obtain ⟨at', ad⟩ := a
    simp only at this hd
    subst this hd
    rfl
  | lf :: L, o :: l, k, b, hL, hl, hlen, hd, hs, ht => by
    have ho : ops[k]? = some o := by simpa using (hl 0).symm
    have hlf : L0[k]? = some lf := by simpa using (hL 0).symm
    have hks : k < ops.size := (Array.getElem?_eq_some_iff.1 ho).1
    have step : ∀ v, (∀ d, o.dst = some d → a.tmps[d]? = some v) → putL x L l (k + 1) (b.put o.dst v) = a := fun v hv => by
      refine putL_all x hx hh L l (k + 1) _ (fun j => ?_) (fun j => ?_) (by simpa using hlen) (by rw [actPut_defers, hd]) (by rw [actPut_size, hs]) fun t hn => ?_
      · have := hL (j + 1)
        rw [show k + 1 + j = k + (j + 1) by omega, ← this]
        rfl
      · have := hl (j + 1)
        rw [show k + 1 + j = k + (j + 1) by omega, ← this]
        rfl
      · by_cases e : o.dst = some t
        · have h1 := hv t e
          rw [h1, e]
          have : t < a.tmps.size := (Array.getElem?_eq_some_iff.1 h1).1
          exact actPut_same (by omega) v
        · rw [actPut_other v e]
          refine ht t fun j o' hkj ho' => ?_
          by_cases ej : j = k
          · subst ej
            rw [ho] at ho'
            obtain rfl := Option.some.inj ho'
            exact e
          · exact hn j o' (by omega) ho'
    cases lf with
    | const c =>
      refine step c fun d hd' => ?_
      obtain ⟨v, h1, h2⟩ := hh k hks o d ho hd'
      unfold okL at h2
      rw [hlf] at h2
      rw [h1]
      exact congrArg some h2
    | pred φ =>
      refine step (x k) fun d hd' => ?_
      obtain ⟨v, h1, h2⟩ := hh k hks o d ho hd'
      rw [hx k o d ho hd', h1]
      simp [Array.getD_eq_getD_getElem?, h1]
  | [], _ :: _, _, _, _, _, hlen, _, _, _ => by simp at hlen
  | _ :: _, [], _, _, _, _, hlen, _, _, _ => by simp at hlen

/-- Every predicate stands at an operation that has a slot. -/
def slotsB : List Leaf → List Oper → Bool
  | .pred _ :: L, o :: ops => o.dst.isSome && slotsB L ops
  | .const _ :: L, _ :: ops => slotsB L ops
  | [], [] => true
  | _, _ => false
theorem slotsB_length : ∀ {L : List Leaf} {l : List Oper}, slotsB L l = true → L.length = l.length
  | [], [], _ => rfl
  | .pred _ :: L, o :: l, h => by simp only [slotsB, Bool.and_eq_true] at h; simp [slotsB_length h.2]
  | .const _ :: L, o :: l, h => by simp only [slotsB] at h; simp [slotsB_length h]
  | [], _ :: _, h => by simp [slotsB] at h
  | .pred _ :: _, [], h => by simp [slotsB] at h
  | .const _ :: _, [], h => by simp [slotsB] at h
theorem knowL_of {a : Act} {w : World} {L0 : List Leaf} (x : Nat → Value) (hx : ∀ (j : Nat) (o : Oper) (d : Tmp), ops[j]? = some o → o.dst = some d → x j = a.tmps.getD d undef) (hh : ∀ j, j < ops.size → Has ops (okL L0) a w j) :
    ∀ (L : List Leaf) (l : List Oper) (k : Nat), (∀ j, L[j]? = L0[k + j]?) → (∀ j, l[j]? = ops[k + j]?) → slotsB L l = true → KnowL x w L k
  | [], [], k, _, _, _ => trivial
  | .const c :: L, o :: l, k, hL, hl, hb => by
    refine knowL_of x hx hh L l (k + 1) (fun j => ?_) (fun j => ?_) hb
    · have := hL (j + 1)
      rw [show k + 1 + j = k + (j + 1) by omega, ← this]
      rfl
    · have := hl (j + 1)
      rw [show k + 1 + j = k + (j + 1) by omega, ← this]
      rfl
  | .pred φ :: L, o :: l, k, hL, hl, hb => by
    simp only [slotsB, Bool.and_eq_true] at hb
    have ho : ops[k]? = some o := by simpa using (hl 0).symm
    have hlf : L0[k]? = some (.pred φ) := by simpa using (hL 0).symm
    have hks : k < ops.size := (Array.getElem?_eq_some_iff.1 ho).1
    obtain ⟨d, hd⟩ := Option.isSome_iff_exists.1 hb.1
    obtain ⟨v, h1, h2⟩ := hh k hks o d ho hd
    refine ⟨?_, knowL_of x hx hh L l (k + 1) (fun j => ?_) (fun j => ?_) hb.2⟩
    · rw [hx k o d ho hd]
      simp only [Array.getD_eq_getD_getElem?, h1, Option.getD_some]
      unfold okL at h2
      rw [hlf] at h2
      exact h2
    · have := hL (j + 1)
      rw [show k + 1 + j = k + (j + 1) by omega, ← this]
      rfl
    · have := hl (j + 1)
      rw [show k + 1 + j = k + (j + 1) by omega, ← this]
      rfl
  | [], _ :: _, _, _, _, h => by simp [slotsB] at h
  | .pred _ :: _, [], _, _, _, h => by simp [slotsB] at h
  | .const _ :: _, [], _, _, _, h => by simp [slotsB] at h

/-- The same with the state behind it written out. -/
theorem wp_region_leaves {id : Nat} {a0 : Act} {w wd : World} {l : List Oper} (L : List Leaf) (hm : P.follows .mixedOrders = true) (hB : phiB l.toArray a0.tmps.size = true) (hL : slotsB L l = true) (hw : Touch [] wd w.drew) (hst : StabL L)
    (hop : ∀ (i : Nat) (o : Oper), l[i]? = some o → ∀ a w, Touch [] wd w → Known l.toArray a0 a → (∀ e ∈ o.after, Region.binds .any e = true → Has l.toArray (okL L) a w e.on) → DoesG P l.toArray (okL L i) o a w)
    (hend : ∀ (x : Nat → Value) (w : World), Touch [] wd w → KnowL x w L 0 → Q .normal (putL x L l 0 a0) w) : (Code.region id l.toArray true).wp P Q a0 w := by
  obtain ⟨h1, h2, h3⟩ := phiB_spec hB
  refine wp_region_any hm (wpAny_phi3 (okL_stab hst) h1 h2 h3 (fun i o ho => hop i o (by simpa using ho)) (fun a w ht hk hh => ?_) l.toArray.size (Array.replicate l.toArray.size false) a0 _ (by simp) (by simp) hw ⟨rfl, rfl, fun _ _ => rfl⟩ (fun j hj => ?_))
  · have hx : ∀ (j : Nat) (o : Oper) (d : Tmp), l.toArray[j]? = some o → o.dst = some d → (fun j => a.tmps.getD (((l[j]?).bind (·.dst)).getD 0) undef) j = a.tmps.getD d undef := fun j o d ho hd => by
      have ho' : l[j]? = some o := by simpa using ho
      simp [ho', hd]
    have e := putL_all (a := a) (w := w) (L0 := L) (fun j => a.tmps.getD (((l[j]?).bind (·.dst)).getD 0) undef) hx hh L l 0 a0 (fun j => by rw [Nat.zero_add]) (fun j => by rw [Nat.zero_add]; simp) (slotsB_length hL) hk.1.symm hk.2.1.symm
      (fun t hn => (hk.2.2 t fun j o ho => hn j o (Nat.zero_le _) ho).symm)
    have k := knowL_of (a := a) (w := w) (L0 := L) _ hx hh L l 0 (fun j => by rw [Nat.zero_add]) (fun j => by rw [Nat.zero_add]; simp) hL
    have := hend _ w ht k
    rwa [e] at this
  · simp only [Array.getD_eq_getD_getElem?] at hj
    rcases Nat.lt_or_ge j l.toArray.size with hlt | hge
    · simp [show j < l.length by simpa using hlt] at hj
    · simp only [List.size_toArray] at hj hge
      rw [Array.getElem?_eq_none (by simpa using hge)] at hj
      simp at hj
end

section
variable {P : Program} {ops : Array Oper} {a a0 : Act} {w : World} {φ : Value → World → Prop} {o : Oper} {L : List Leaf}
theorem has_const {j : Nat} (h : Has ops (okL L) a w j) {o : Oper} {d : Tmp} {c : Value} (ho : ops[j]? = some o) (hd : o.dst = some d) (hl : L[j]? = some (.const c)) : a.eval (.tmp d) = c := by
  obtain ⟨v, h1, h2⟩ := h o d ho hd
  unfold okL at h2
  rw [hl] at h2
  simp only [Act.eval, Array.getD_eq_getD_getElem?, h1, Option.getD_some]
  exact h2
theorem has_pred {j : Nat} {φ : Value → World → Prop} (h : Has ops (okL L) a w j) {o : Oper} {d : Tmp} (ho : ops[j]? = some o) (hd : o.dst = some d) (hl : L[j]? = some (.pred φ)) : ∃ v, a.eval (.tmp d) = v ∧ φ v w := by
  obtain ⟨v, h1, h2⟩ := h o d ho hd
  unfold okL at h2
  rw [hl] at h2
  exact ⟨v, by simp [Act.eval, Array.getD_eq_getD_getElem?, h1], h2⟩
theorem has_dep {Φ : Nat → Value → World → Prop} (hd : ∀ e ∈ o.after, Region.binds .any e = true → Has ops Φ a w e.on) (j : Nat) (hb : (o.after.any fun e => (e.on == j) && Region.binds .any e) = true) : Has ops Φ a w j := by
  rw [Array.any_eq_true'] at hb
  obtain ⟨e, he, h⟩ := hb
  simp only [Bool.and_eq_true, beq_iff_eq] at h
  have := hd e he h.2
  rwa [h.1] at this
theorem wanted_not {g : Nat} {b : Bool} {og : Oper} {d : Tmp} (h : o.guard = some (g, b)) (hg : ops[g]? = some og) (hd : og.dst = some d) (hv : a.eval (.tmp d) = .bool (!b)) : Region.wanted o (yielded ops a.tmps) = false := by
  unfold Region.wanted
  rw [h]
  simp only [yielded, hg, Option.bind_some, hd]
  simp only [Act.eval, Array.getD_eq_getD_getElem?] at hv
  cases hx : a.tmps[d]? with
  | none => rw [hx] at hv; simp [undef] at hv
  | some u =>
    rw [hx] at hv
    simp at hv
    subst hv
    cases b <;> simp
theorem wanted_undef {g : Nat} {b : Bool} {og : Oper} {d : Tmp} (h : o.guard = some (g, b)) (hg : ops[g]? = some og) (hd : og.dst = some d) (hv : a.eval (.tmp d) = undef) : Region.wanted o (yielded ops a.tmps) = false := by
  unfold Region.wanted
  rw [h]
  simp only [yielded, hg, Option.bind_some, hd]
  simp only [Act.eval, Array.getD_eq_getD_getElem?] at hv
  cases hx : a.tmps[d]? with
  | none => simp
  | some u =>
    rw [hx] at hv
    simp at hv
    subst hv
    simp [undef]
theorem do_value (hw : Region.wanted o (yielded ops a.tmps) = true) {v : Value} (hrun : (execOp a.eval o).run P w = .ok (.value v) w) (h : φ v w) : DoesG P ops φ o a w := .inl ⟨hw, by rw [hrun]; exact ⟨h, Touch.refl _ _⟩⟩
theorem do_enter (hw : Region.wanted o (yielded ops a.tmps) = true) {f : FuncId} {args : Array Value} (hrun : (execOp a.eval o).run P w = .ok (.enter f args) w)
    (h : Calls P f args w fun e w'' => ∃ v, e = .returned v ∧ φ v w'' ∧ Touch [] w w'') : DoesG P ops φ o a w := .inl ⟨hw, by rw [hrun]; exact ⟨Touch.refl _ _, h⟩⟩
theorem do_skip (hw : Region.wanted o (yielded ops a.tmps) = false) (h : φ undef w) : DoesG P ops φ o a w := .inr ⟨hw, h⟩
theorem run_value {ρ : Operand → Value} {s : Sem Value} {v : Value} (h : execOp ρ o = (do pure (.value (← s)))) (hs : s.run P w = .ok v w) : (execOp ρ o).run P w = .ok (.value v) w := by
  rw [h]
  simp [hs]
theorem run_go3 (f : FuncId) (xs : Array Operand) (ats : Array TypeId) (h : o.op = .call { callee := .value (.func f), args := xs, argTypes := ats }) : (execOp a.eval o).run P w = (callFunc f (#[] ++ xs.map a.eval ++ #[])).run P w := by
  obtain ⟨dst, op, ty, pos, after, guard⟩ := o
  simp only at h
  subst h
  rfl
theorem run_pickT {ρ : Operand → Value} {c x y : Operand} (h : o.op = .pick c x y) (hc : ρ c = .bool true) : (execOp ρ o).run P w = .ok (.value (ρ x)) w := by
  obtain ⟨dst, op, ty, pos, after, guard⟩ := o
  simp only at h
  subst h
  simp [execOp, hc, asBool]
theorem run_pickF {ρ : Operand → Value} {c x y : Operand} (h : o.op = .pick c x y) (hc : ρ c = .bool false) : (execOp ρ o).run P w = .ok (.value (ρ y)) w := by
  obtain ⟨dst, op, ty, pos, after, guard⟩ := o
  simp only at h
  subst h
  simp [execOp, hc, asBool]
theorem run_len3 {ρ : Operand → Value} {x : Operand} {t e : TypeId} {A : Option Addr} {n c : Nat} (h : o.op = .call { callee := .builtin .len, args := #[x], argTypes := #[t] }) (ht : P.underlying t = some (.slice e)) (hx : ρ x = .slice A n c) :
    (execOp ρ o).run P w = .ok (.value (.int .i64 (n : Int))) w := by
  obtain ⟨dst, op, ty, pos, after, guard⟩ := o
  simp only at h
  subst h
  have e : execOp ρ { dst, op := .call { callee := .builtin .len, args := #[x], argTypes := #[t] }, type := ty, pos, after, guard } = (do pure (.value (← Builtin.len_ #[t] ty #[ρ x]))) := by rw [BigFrame.execOp_builtin, BigFrame.builtin_len]; simp
  rw [e, hx]
  simp [Builtin.len_, ht, underlying, goInt]
theorem eval_c (a : Act) (v : Value) : a.eval (.const v) = v := rfl
end
/-- A contract with one value. -/
theorem Calls.leaf {P : Program} {f : FuncId} {args : Array Value} {w : World} {v : Value} (h : Calls P f args w fun e w' => e = .returned v ∧ Touch [] w w') : Calls P f args w fun e w'' => ∃ u, e = .returned u ∧ u = v ∧ Touch [] w w'' :=
  h.mono fun e w' ⟨h1, h2⟩ => ⟨_, h1, rfl, h2⟩
theorem Calls.leafSame {P : Program} {f : FuncId} {args : Array Value} {w : World} {v : Value} (h : Calls P f args w fun e w' => e = .returned v ∧ w' = w) : Calls P f args w fun e w'' => ∃ u, e = .returned u ∧ u = v ∧ Touch [] w w'' :=
  h.mono fun e w' ⟨h1, h2⟩ => ⟨_, h1, rfl, by rw [h2]; exact Touch.refl _ _⟩
end Go.Proofs.Ytalkpoeliekbfaa

/-
  Regions that draw their order, whose operations make new memory alone, up to the last one, a store that waits for all others.
-/
namespace Go.Proofs.Ytalkpoeliekbfaa
open Go.ChangeShapes Go.WideShapes Go.ChangeAt Go.RowKit Go.Deep
set_option linter.unusedVariables false

def lastB (ops : Array Oper) (n : Nat) : Bool :=
  decide (ops.size = n + 1) && match ops[n]? with
    | some o => o.dst.isNone && (List.range n).all fun j => o.after.any fun e => (e.on == j) && Region.binds .any e
    | none => false
section
variable {P : Program} {ops : Array Oper} {Q : Exit → Act → World → Prop}
theorem lastB_spec {n : Nat} (h : lastB ops n = true) : ops.size = n + 1 ∧ ∃ o, ops[n]? = some o ∧ o.dst = none ∧ ∀ j, j < n → ∃ e ∈ o.after, Region.binds .any e = true ∧ e.on = j := by
  unfold lastB at h
  rw [Bool.and_eq_true, decide_eq_true_eq] at h
  obtain ⟨h1, h2⟩ := h
  refine ⟨h1, ?_⟩
  cases ho : ops[n]? with
  | none => rw [ho] at h2; simp at h2
  | some o =>
    rw [ho] at h2
    simp only [Bool.and_eq_true, Option.isNone_iff_eq_none, List.all_eq_true, List.mem_range, Array.any_eq_true'] at h2
    refine ⟨o, rfl, h2.1, fun j hj => ?_⟩
    obtain ⟨e, he, h3, h4⟩ := by simpa using h2.2 j hj
    exact ⟨e, he, h4, by simpa using h3⟩

theorem wpAny_done {a : Act} {w : World} (h : Q .normal a w) : ∀ (fuel : Nat) (listed : Array Bool), (∀ i, i < ops.size → listed.getD i false = true) → wpAny P .any ops Q fuel listed a w
  | 0, listed, hall => ⟨none_ready hall, h⟩
  | fuel + 1, listed, hall => ⟨fun _ => h, fun i hi => by rw [none_ready hall] at hi; cases hi⟩

theorem wpAny_phi5 {a0 : Act} {wd : World} {Φ : Nat → Value → World → Prop} {n : Nat} (hst : ∀ j, Stab (Φ j)) (hdst : ∀ (i j : Nat) (o o' : Oper) (d : Tmp), ops[i]? = some o → ops[j]? = some o' → o.dst = some d → o'.dst = some d → i = j)
    (hin : ∀ (i : Nat) (o : Oper) (d : Tmp), ops[i]? = some o → o.dst = some d → d < a0.tmps.size) (hacy : ∀ (i : Nat) (o : Oper) (e : Edge), ops[i]? = some o → e ∈ o.after → Region.binds .any e = true → e.on < i)
    (hlast : lastB ops n = true)
    (hop : ∀ (i : Nat) (o : Oper), ops[i]? = some o → i < n → ∀ a w, Touch [] wd w → Known ops a0 a → (∀ e ∈ o.after, Region.binds .any e = true → Has ops Φ a w e.on) → DoesG P ops (Φ i) o a w)
    (hend : ∀ a w, Touch [] wd w → Known ops a0 a → (∀ j, j < ops.size → Has ops Φ a w j) → ∀ K : Act → World → Prop, (∀ a' w', Q .normal a' w' → K a' w') → wpOp P ops Q n K a w) :
    ∀ (fuel : Nat) (listed : Array Bool) (a : Act) (w : World), listed.size = ops.size → listed.getD n false = false → listed.toList.count false ≤ fuel → Touch [] wd w → Known ops a0 a → (∀ j, listed.getD j false = true → Has ops Φ a w j) → wpAny P .any ops Q fuel listed a w := by
  obtain ⟨hsz, on, hon, hdn, hwait⟩ := lastB_spec hlast
  intro fuel
  induction fuel with
  | zero =>
    intro listed a w hs hn hc ht hk hh
    exfalso
    have hil : n < listed.size := by omega
    have h0 : listed.toList.count false = 0 := by omega
    rw [List.count_eq_zero] at h0
    have hx : listed[n] = false := by simpa [Array.getD_eq_getD_getElem?, Array.getElem?_eq_getElem hil] using hn
    exact h0 (by rw [← hx]; simp)
  | succ fuel ih =>
    intro listed a w hs hn hc ht hk hh
    refine ⟨fun h0 => ?_, fun i hi => ?_⟩
    · have := all_listed hacy hs h0 n (by omega)
      rw [this] at hn
      cases hn
    obtain ⟨hun, o, ho, hall⟩ := mem_ready.1 hi
    have hlt : i < ops.size := (Array.getElem?_eq_some_iff.1 ho).1
    have hil : i < listed.size := by omega
    by_cases hin' : i = n
    · subst hin'
      obtain rfl : on = o := by rw [hon] at ho; simpa using ho
      have hl : ∀ j, j < i → listed.getD j false = true := fun j hj => by
        obtain ⟨e, he, hb, hej⟩ := hwait j hj
        have := hall e he hb
        rwa [hej] at this
      refine hend a w ht hk (fun j hj => ?_) _ fun a' w' hq => wpAny_done hq fuel _ fun j hj => ?_
      · rcases Nat.lt_or_ge j i with h | h
        · exact hh j (hl j h)
        · obtain rfl : j = i := by omega
          intro o' d' ho' hd'
          rw [hon] at ho'
          cases ho'
          rw [hdn] at hd'
          cases hd'
      · simp only [Array.getD_eq_getD_getElem?]
        by_cases e : j = i
        · subst e
          simp [hil]
        · rw [Array.getElem?_setIfInBounds_ne (fun h => e h.symm)]
          have := hl j (by omega)
          simpa only [Array.getD_eq_getD_getElem?] using this
    have hif : listed[i] = false := by simpa [Array.getD_eq_getD_getElem?, Array.getElem?_eq_getElem hil] using hun
    refine DoesG.wpOp ho (hop i o ho (by omega) a w ht hk fun e he hb => hh e.on (hall e he hb)) fun v w' hφ t => ?_
    refine ih _ _ _ (by simpa using hs) ?_ ?_ (ht.trans t (by simp)) ?_ ?_
    · simp only [Array.getD_eq_getD_getElem?] at hn ⊢
      rwa [Array.getElem?_setIfInBounds_ne (fun h => hin' h)]
    · rw [Array.toList_setIfInBounds, List.count_set (by simpa using hil)]
      have : listed.toList[i]'(by simpa using hil) = false := by simpa using hif
      rw [this]
      have hpos : 0 < listed.toList.count false := List.count_pos_iff.2 (by rw [← this]; simp)
      have e1 : (if (false == false) = true then 1 else 0 : Nat) = 1 := rfl
      have e2 : (if (true == false) = true then 1 else 0 : Nat) = 0 := rfl
      rw [e1, e2]
      omega
    · obtain ⟨k1, k2, k3⟩ := hk
      cases hd : o.dst with
      | none => exact ⟨k1, k2, k3⟩
      | some d =>
        refine ⟨k1, by simp [Act.put, k2], fun q hq => ?_⟩
        have hne : d ≠ q := fun e => hq i o ho (by rw [hd, e])
        simp only [Act.put]
        rw [Array.getElem?_setIfInBounds_ne hne]
        exact k3 q hq
    · intro j hj o' d' ho' hd'
      by_cases e : j = i
      · subst e
        obtain rfl : o = o' := by rw [ho] at ho'; simpa using ho'
        refine ⟨v, ?_, hφ⟩
        rw [hd']
        have := hin j o d' ho hd'
        simp [Act.put, hk.2.1, this]
      · have hjl : listed.getD j false = true := by
          simp only [Array.getD_eq_getD_getElem?] at hj ⊢
          rwa [Array.getElem?_setIfInBounds_ne (fun h => e h.symm)] at hj
        obtain ⟨u, hu, hΦ⟩ := hh j hjl o' d' ho' hd'
        refine ⟨u, ?_, hst j u w w' hΦ t⟩
        cases hd : o.dst with
        | none => exact hu
        | some d =>
          have hne : d ≠ d' := fun e2 => e (hdst j i o' o d' ho' ho hd' (by rw [hd, e2]))
          simp only [Act.put]
          rw [Array.getElem?_setIfInBounds_ne hne]
          exact hu

/-- The same with the state ahead of the store written out. -/
theorem wp_region_store {id : Nat} {a0 : Act} {w wd : World} {l : List Oper} (n : Nat) (L : List Leaf) (hm : P.follows .mixedOrders = true) (hB : phiB l.toArray a0.tmps.size = true) (hL : slotsB L l = true) (hlast : lastB l.toArray n = true) (hw : Touch [] wd w.drew) (hst : StabL L)
    (hop : ∀ (i : Nat) (o : Oper), l[i]? = some o → i < n → ∀ a w, Touch [] wd w → Known l.toArray a0 a → (∀ e ∈ o.after, Region.binds .any e = true → Has l.toArray (okL L) a w e.on) → DoesG P l.toArray (okL L i) o a w)
    (hend : ∀ (x : Nat → Value) (w : World), Touch [] wd w → KnowL x w L 0 → wpList P l.toArray Q (l.drop n) (putL x L l 0 a0) w) : (Code.region id l.toArray true).wp P Q a0 w := by
  obtain ⟨h1, h2, h3⟩ := phiB_spec hB
  obtain ⟨hsz, on, hon, hdn, hwait⟩ := lastB_spec hlast
  have hln : l.length = n + 1 := by simpa using hsz
  have hon' : l[n]? = some on := by simpa using hon
  have hdrop : l.drop n = [on] := by
    have hlt : n < l.length := by omega
    have e := List.drop_eq_getElem_cons hlt
    rw [e]
    have : l[n] = on := by
      rw [List.getElem?_eq_getElem hlt] at hon'
      simpa using hon'
    rw [this, List.drop_of_length_le (by omega)]
  refine wp_region_any hm (wpAny_phi5 (n := n) (okL_stab hst) h1 h2 h3 hlast (fun i o ho => hop i o (by simpa using ho)) (fun a w ht hk hh K hK => ?_) l.toArray.size (Array.replicate l.toArray.size false) a0 _ (by simp) ?_ (by simp) hw ⟨rfl, rfl, fun _ _ => rfl⟩ (fun j hj => ?_))
  · have hx : ∀ (j : Nat) (o : Oper) (d : Tmp), l.toArray[j]? = some o → o.dst = some d → (fun j => a.tmps.getD (((l[j]?).bind (·.dst)).getD 0) undef) j = a.tmps.getD d undef := fun j o d ho hd => by
      have ho' : l[j]? = some o := by simpa using ho
      simp [ho', hd]
    have e := putL_all (a := a) (w := w) (L0 := L) (fun j => a.tmps.getD (((l[j]?).bind (·.dst)).getD 0) undef) hx hh L l 0 a0 (fun j => by rw [Nat.zero_add]) (fun j => by rw [Nat.zero_add]; simp) (slotsB_length hL) hk.1.symm hk.2.1.symm
      (fun t hn => (hk.2.2 t fun j o ho => hn j o (Nat.zero_le _) ho).symm)
    have k := knowL_of (a := a) (w := w) (L0 := L) _ hx hh L l 0 (fun j => by rw [Nat.zero_add]) (fun j => by rw [Nat.zero_add]; simp) hL
    have := hend _ w ht k
    rw [e, hdrop] at this
    have hw' : wpOp P l.toArray Q n (wpList P l.toArray Q []) a w := by
      unfold wpOp
      simp only [hon]
      exact this
    exact wpOp_mono (fun a' w' h' => hK a' w' h') hw'
  · simp only [Array.getD_eq_getD_getElem?]
    rw [Array.getElem?_replicate]
    split <;> rfl
  · simp only [Array.getD_eq_getD_getElem?] at hj
    rw [Array.getElem?_replicate] at hj
    split at hj <;> simp at hj
end
end Go.Proofs.Ytalkpoeliekbfaa

/-
  Regions that draw their order, ahead of a store that waits for all others, in which one operation may write new memory that a few others have made (append onto a row of the region's own).
-/
namespace Go.Proofs.Ytalkpoeliekbfaa
open Go.ChangeShapes Go.WideShapes Go.ChangeAt Go.RowKit Go.Deep
set_option linter.unusedVariables false

def waitsB (ops : Array Oper) (i j : Nat) : Bool := match ops[i]? with
  | some o => o.after.any fun e => (e.on == j) && Region.binds .any e
  | none => false
/-- jw writes what the operations D have made: it waits for all of them, they serve it alone, and all behind it wait for it. -/
def localB (ops : Array Oper) (n jw : Nat) (D : List Nat) : Bool :=
  decide (jw < n) && (D.all fun d => decide (d < jw) && (waitsB ops jw d || D.any fun d' => waitsB ops jw d' && waitsB ops d' d)) &&
    ((List.range ops.size).all fun i => (decide (i ≤ jw) || waitsB ops i jw) && (i == jw || D.contains i || i == n || D.all fun d => !waitsB ops i d))
def constB (L : List Leaf) (jw : Nat) (D : List Nat) : Bool := (List.range jw).all fun j => D.contains j || match L[j]? with | some (.const _) => true | _ => false
def LocalDoes (P : Program) (ops : Array Oper) (wd : World) (φ : Value → World → Prop) (o : Oper) (a : Act) (w : World) : Prop :=
  Region.wanted o (yielded ops a.tmps) = true ∧ ∃ v w', (execOp a.eval o).run P w = .ok (.value v) w' ∧ φ v w' ∧ Touch [] wd w'
section
variable {P : Program} {ops : Array Oper} {Q : Exit → Act → World → Prop}
theorem waits_spec {i j : Nat} (h : waitsB ops i j = true) : ∃ o, ops[i]? = some o ∧ ∃ e ∈ o.after, Region.binds .any e = true ∧ e.on = j := by
  unfold waitsB at h
  cases ho : ops[i]? with
  | none => rw [ho] at h; cases h
  | some o =>
    rw [ho] at h
    simp only [Array.any_eq_true'] at h
    obtain ⟨e, he, h3⟩ := h
    simp only [Bool.and_eq_true, beq_iff_eq] at h3
    exact ⟨o, rfl, e, he, h3.2, h3.1⟩
theorem waits_of {i : Nat} {o : Oper} {e : Edge} (ho : ops[i]? = some o) (he : e ∈ o.after) (hb : Region.binds .any e = true) : waitsB ops i e.on = true := by
  unfold waitsB
  rw [ho]
  simp only [Array.any_eq_true']
  exact ⟨e, he, by simp [hb]⟩
/-- Whatever is listed has what it waits for listed. -/
def Closed (ops : Array Oper) (listed : Array Bool) : Prop := ∀ i j, waitsB ops i j = true → listed.getD i false = true → listed.getD j false = true

theorem wpAny_phi6 {a0 : Act} {wd : World} {L : List Leaf} {n jw : Nat} {D : List Nat} (hst : ∀ j, Stab (okL L j)) (hdst : ∀ (i j : Nat) (o o' : Oper) (d : Tmp), ops[i]? = some o → ops[j]? = some o' → o.dst = some d → o'.dst = some d → i = j)
    (hin : ∀ (i : Nat) (o : Oper) (d : Tmp), ops[i]? = some o → o.dst = some d → d < a0.tmps.size) (hacy : ∀ (i : Nat) (o : Oper) (e : Edge), ops[i]? = some o → e ∈ o.after → Region.binds .any e = true → e.on < i)
    (hlast : lastB ops n = true) (hloc : localB ops n jw D = true) (hcon : constB L jw D = true)
    (hop : ∀ (i : Nat) (o : Oper), ops[i]? = some o → i < n → i ≠ jw → ∀ a w, Touch [] wd w → Known ops a0 a → (∀ e ∈ o.after, Region.binds .any e = true → Has ops (okL L) a w e.on) → DoesG P ops (okL L i) o a w)
    (hwr : ∀ (o : Oper), ops[jw]? = some o → ∀ a w, Touch [] wd w → Known ops a0 a → (∀ e ∈ o.after, Region.binds .any e = true → Has ops (okL L) a w e.on) → LocalDoes P ops wd (okL L jw) o a w)
    (hend : ∀ a w, Touch [] wd w → Known ops a0 a → (∀ j, j < ops.size → j ∉ D → Has ops (okL L) a w j) → ∀ K : Act → World → Prop, (∀ a' w', Q .normal a' w' → K a' w') → wpOp P ops Q n K a w) :
    ∀ (fuel : Nat) (listed : Array Bool) (a : Act) (w : World), listed.size = ops.size → listed.getD n false = false → listed.toList.count false ≤ fuel → Touch [] wd w → Known ops a0 a → Closed ops listed →
      (∀ j, listed.getD j false = true → (j ∉ D ∨ listed.getD jw false = false) → Has ops (okL L) a w j) → wpAny P .any ops Q fuel listed a w := by
  obtain ⟨hsz, on, hon, hdn, hwait⟩ := lastB_spec hlast
  unfold localB at hloc
  simp only [Bool.and_eq_true, decide_eq_true_eq, List.all_eq_true, List.mem_range, Bool.or_eq_true, List.any_eq_true] at hloc
  obtain ⟨⟨hjn, hD⟩, hI⟩ := hloc
  have hDall : ∀ listed, Closed ops listed → ∀ d ∈ D, (∀ j, waitsB ops jw j = true → listed.getD j false = true) → listed.getD d false = true := by
    intro listed hcl d hd hr
    rcases (hD d hd).2 with h | ⟨d', _, h1, h2⟩
    · exact hr d h
    · exact hcl d' d h2 (hr d' h1)
  intro fuel
  induction fuel with
  | zero =>
    intro listed a w hs hn hc ht hk hcl hh
    exfalso
    have hil : n < listed.size := by omega
    have h0 : listed.toList.count false = 0 := by omega
    rw [List.count_eq_zero] at h0
    have hx : listed[n] = false := by simpa [Array.getD_eq_getD_getElem?, Array.getElem?_eq_getElem hil] using hn
    exact h0 (by rw [← hx]; simp)
  | succ fuel ih =>
    intro listed a w hs hn hc ht hk hcl hh
    refine ⟨fun h0 => ?_, fun i hi => ?_⟩
    · have := all_listed hacy hs h0 n (by omega)
      rw [this] at hn
      cases hn
    obtain ⟨hun, o, ho, hall⟩ := mem_ready.1 hi
    have hlt : i < ops.size := (Array.getElem?_eq_some_iff.1 ho).1
    have hil : i < listed.size := by omega
    have hready : ∀ j, waitsB ops i j = true → listed.getD j false = true := fun j hj => by
      obtain ⟨o', ho', e, he, hb, hej⟩ := waits_spec hj
      rw [ho] at ho'
      cases ho'
      have := hall e he hb
      rwa [hej] at this
    by_cases hin' : i = n
    · subst hin'
      obtain rfl : on = o := by rw [hon] at ho; simpa using ho
      have hl : ∀ j, j < i → listed.getD j false = true := fun j hj => by
        obtain ⟨e, he, hb, hej⟩ := hwait j hj
        have := hall e he hb
        rwa [hej] at this
      refine hend a w ht hk (fun j hj hjD => ?_) _ fun a' w' hq => wpAny_done hq fuel _ fun j hj => ?_
      · rcases Nat.lt_or_ge j i with h | h
        · exact hh j (hl j h) (.inl hjD)
        · obtain rfl : j = i := by omega
          intro o' d' ho' hd'
          rw [hon] at ho'
          cases ho'
          rw [hdn] at hd'
          cases hd'
      · simp only [Array.getD_eq_getD_getElem?]
        by_cases e : j = i
        · subst e
          simp [hil]
        · rw [Array.getElem?_setIfInBounds_ne (fun h => e h.symm)]
          have := hl j (by omega)
          simpa only [Array.getD_eq_getD_getElem?] using this
    have hif : listed[i] = false := by simpa [Array.getD_eq_getD_getElem?, Array.getElem?_eq_getElem hil] using hun
    have hun' : listed.getD i false = false := by simp [Array.getD_eq_getD_getElem?, Array.getElem?_eq_getElem hil, hif]
    have hset : ∀ j, (listed.setIfInBounds i true).getD j false = true ↔ (j = i ∨ listed.getD j false = true) := fun j => by
      simp only [Array.getD_eq_getD_getElem?]
      by_cases e : j = i
      · subst e; simp [hil]
      · rw [Array.getElem?_setIfInBounds_ne (fun h => e h.symm)]; simp [e]
    have hcl' : Closed ops (listed.setIfInBounds i true) := fun i' j' hw hl' => by
      rw [hset] at hl' ⊢
      rcases hl' with rfl | hl'
      · exact .inr (hready j' hw)
      · exact .inr (hcl i' j' hw hl')
    have hkn : ∀ v, Known ops a0 (a.put o.dst v) := fun v => by
      obtain ⟨k1, k2, k3⟩ := hk
      cases hd : o.dst with
      | none => exact ⟨k1, k2, k3⟩
      | some d =>
        refine ⟨k1, by simp [Act.put, k2], fun q hq => ?_⟩
        have hne : d ≠ q := fun e => hq i o ho (by rw [hd, e])
        simp only [Act.put]
        rw [Array.getElem?_setIfInBounds_ne hne]
        exact k3 q hq
    have hcount : (listed.setIfInBounds i true).toList.count false ≤ fuel := by
      rw [Array.toList_setIfInBounds, List.count_set (by simpa using hil)]
      have : listed.toList[i]'(by simpa using hil) = false := by simpa using hif
      rw [this]
      have hpos : 0 < listed.toList.count false := List.count_pos_iff.2 (by rw [← this]; simp)
      have e1 : (if (false == false) = true then 1 else 0 : Nat) = 1 := rfl
      have e2 : (if (true == false) = true then 1 else 0 : Nat) = 0 := rfl
      rw [e1, e2]
      omega
    have hnn : (listed.setIfInBounds i true).getD n false = false := by
      cases h : (listed.setIfInBounds i true).getD n false with
      | false => rfl
      | true =>
        rcases (hset n).1 h with h' | h'
        · exact absurd h'.symm hin'
        · rw [hn] at h'; cases h'
    have hput : ∀ (v : Value) (w' : World) (j : Nat) (o' : Oper) (d' : Tmp), ops[j]? = some o' → o'.dst = some d' → j ≠ i → (a.put o.dst v).eval (.tmp d') = a.eval (.tmp d') := fun v w' j o' d' ho' hd' hne => by
      cases hd : o.dst with
      | none => rfl
      | some d =>
        have hne2 : d ≠ d' := fun e2 => hne (hdst j i o' o d' ho' ho hd' (by rw [hd, e2]))
        simp [Act.put, Act.eval, Array.getElem?_setIfInBounds_ne hne2]
    have hown : ∀ (v : Value) (d' : Tmp), o.dst = some d' → (a.put o.dst v).tmps[d']? = some v := fun v d' hd' => by
      rw [hd']
      have := hin i o d' ho hd'
      simp [Act.put, hk.2.1, this]
    by_cases hij : i = jw
    · subst hij
      obtain ⟨hwant, v, w', hrun, hφ, ht'⟩ := hwr o ho a w ht hk fun e he hb => hh e.on (hall e he hb) (.inr hun')
      unfold Go.wpOp
      simp only [ho]
      rw [if_pos hwant]
      left
      unfold Oper.wp
      rw [hrun]
      refine ih _ _ _ (by simpa using hs) hnn hcount ht' (hkn v) hcl' fun j hj hjD => ?_
      intro o' d' ho' hd'
      by_cases e : j = i
      · subst e
        obtain rfl : o = o' := by rw [ho] at ho'; simpa using ho'
        exact ⟨v, hown v d' hd', hφ⟩
      · have hjl : listed.getD j false = true := by
          rcases (hset j).1 hj with h | h
          · exact absurd h e
          · exact h
        have hjD' : j ∉ D := by
          rcases hjD with h | h
          · exact h
          · have := (hset i).2 (.inl rfl)
            rw [this] at h
            cases h
        have hji : j < i := by
          rcases Nat.lt_or_ge i j with h | h
          · have hlj : j < ops.size := by
              rcases Nat.lt_or_ge j listed.size with h' | h'
              · omega
              · simp [Array.getD_eq_getD_getElem?, Array.getElem?_eq_none h'] at hjl
            rcases (hI j hlj).1 with h' | h'
            · omega
            · have := hcl j i h' hjl
              rw [hun'] at this
              cases this
          · omega
        obtain ⟨u, hu, hΦ⟩ := hh j hjl (.inl hjD') o' d' ho' hd'
        have hc0 : okL L j u w' := by
          unfold constB at hcon
          rw [List.all_eq_true] at hcon
          have := hcon j (List.mem_range.2 hji)
          simp only [Bool.or_eq_true, List.contains_iff_mem] at this
          rcases this with h | h
          · exact absurd h hjD'
          · unfold okL at hΦ ⊢
            cases hLj : L[j]? with
            | none => trivial
            | some l =>
              rw [hLj] at h hΦ
              cases l with
              | const c => exact hΦ
              | pred φ => cases h
        refine ⟨u, ?_, hc0⟩
        cases hd : o.dst with
        | none => exact hu
        | some d =>
          have hne : d ≠ d' := fun e2 => e (hdst j i o' o d' ho' ho hd' (by rw [hd, e2]))
          simp only [Act.put]
          rw [Array.getElem?_setIfInBounds_ne hne]
          exact hu
    · have hdeps : ∀ e ∈ o.after, Region.binds .any e = true → Has ops (okL L) a w e.on := fun e he hb => by
        refine hh e.on (hall e he hb) ?_
        by_cases hjl : listed.getD jw false = true
        · left
          intro hmem
          have hw := waits_of ho he hb
          rcases (hI i hlt).2 with ((h | h) | h) | h
          · exact hij (by simpa using h)
          · have hiD : i ∈ D := by simpa using h
            have hdl := hDall listed hcl i hiD (fun j hj => hcl jw j hj hjl)
            rw [hun'] at hdl
            cases hdl
          · exact hin' (by simpa using h)
          · have := h e.on hmem
            rw [hw] at this
            cases this
        · right
          simpa using hjl
      refine DoesG.wpOp ho (hop i o ho (by omega) hij a w ht hk hdeps) fun v w' hφ t => ?_
      refine ih _ _ _ (by simpa using hs) hnn hcount (ht.trans t (by simp)) (hkn v) hcl' fun j hj hjD => ?_
      intro o' d' ho' hd'
      by_cases e : j = i
      · subst e
        obtain rfl : o = o' := by rw [ho] at ho'; simpa using ho'
        exact ⟨v, hown v d' hd', hφ⟩
      · have hjl : listed.getD j false = true := by
          rcases (hset j).1 hj with h | h
          · exact absurd h e
          · exact h
        have hjD' : j ∉ D ∨ listed.getD jw false = false := by
          rcases hjD with h | h
          · exact .inl h
          · right
            cases hjw : listed.getD jw false with
            | false => rfl
            | true =>
              have := (hset jw).2 (.inr hjw)
              rw [this] at h
              cases h
        obtain ⟨u, hu, hΦ⟩ := hh j hjl hjD' o' d' ho' hd'
        refine ⟨u, ?_, hst j u w w' hΦ t⟩
        cases hd : o.dst with
        | none => exact hu
        | some d =>
          have hne : d ≠ d' := fun e2 => e (hdst j i o' o d' ho' ho hd' (by rw [hd, e2]))
          simp only [Act.put]
          rw [Array.getElem?_setIfInBounds_ne hne]
          exact hu

/-- The leaves without what D has left. -/
def forget (D : List Nat) (L : List Leaf) : List Leaf := L.mapIdx fun j l => if j ∈ D then .pred (fun _ _ => True) else l
theorem forget_get (D : List Nat) (L : List Leaf) (j : Nat) : (forget D L)[j]? = (L[j]?).map fun l => if j ∈ D then .pred (fun _ _ => True) else l := by
  unfold forget
  rw [List.getElem?_mapIdx]
/-- The same with the state ahead of the store written out. -/
theorem wp_region_local {id : Nat} {a0 : Act} {w wd : World} {l : List Oper} (n jw : Nat) (D : List Nat) (L : List Leaf) (hm : P.follows .mixedOrders = true) (hB : phiB l.toArray a0.tmps.size = true) (hL : slotsB (forget D L) l = true) (hlast : lastB l.toArray n = true)
    (hloc : localB l.toArray n jw D = true) (hcon : constB L jw D = true) (hw : Touch [] wd w.drew) (hst : StabL L)
    (hop : ∀ (i : Nat) (o : Oper), l[i]? = some o → i < n → i ≠ jw → ∀ a w, Touch [] wd w → Known l.toArray a0 a → (∀ e ∈ o.after, Region.binds .any e = true → Has l.toArray (okL L) a w e.on) → DoesG P l.toArray (okL L i) o a w)
    (hwr : ∀ (o : Oper), l[jw]? = some o → ∀ a w, Touch [] wd w → Known l.toArray a0 a → (∀ e ∈ o.after, Region.binds .any e = true → Has l.toArray (okL L) a w e.on) → LocalDoes P l.toArray wd (okL L jw) o a w)
    (hend : ∀ (x : Nat → Value) (w : World), Touch [] wd w → KnowL x w (forget D L) 0 → wpList P l.toArray Q (l.drop n) (putL x (forget D L) l 0 a0) w) : (Code.region id l.toArray true).wp P Q a0 w := by
  obtain ⟨h1, h2, h3⟩ := phiB_spec hB
  obtain ⟨hsz, on, hon, hdn, hwait⟩ := lastB_spec hlast
  have hln : l.length = n + 1 := by simpa using hsz
  have hon' : l[n]? = some on := by simpa using hon
  have hdrop : l.drop n = [on] := by
    have hlt : n < l.length := by omega
    have e := List.drop_eq_getElem_cons hlt
    rw [e]
    have : l[n] = on := by
      rw [List.getElem?_eq_getElem hlt] at hon'
      simpa using hon'
    rw [this, List.drop_of_length_le (by omega)]
  refine wp_region_any hm (wpAny_phi6 (n := n) (jw := jw) (D := D) (L := L) (okL_stab hst) h1 h2 h3 hlast hloc hcon (fun i o ho => hop i o (by simpa using ho)) (fun o ho => hwr o (by simpa using ho)) (fun a w ht hk hh K hK => ?_) l.toArray.size (Array.replicate l.toArray.size false) a0 _ (by simp) ?_ (by simp) hw ⟨rfl, rfl, fun _ _ => rfl⟩ (fun i j _ hj => ?_) (fun j hj => ?_))
  · have hh' : ∀ j, j < l.toArray.size → Has l.toArray (okL (forget D L)) a w j := fun j hj => by
      intro o' d' ho' hd'
      by_cases hjD : j ∈ D
      · have hd : d' < a.tmps.size := by rw [hk.2.1]; exact h2 j o' d' ho' hd'
        refine ⟨a.tmps[d'], Array.getElem?_eq_getElem hd, ?_⟩
        unfold okL
        rw [forget_get]
        cases hLj : L[j]? with
        | none => simp
        | some l => simp [hjD, Leaf.ok]
      · obtain ⟨u, hu, hΦ⟩ := hh j hj hjD o' d' ho' hd'
        refine ⟨u, hu, ?_⟩
        unfold okL at hΦ ⊢
        rw [forget_get]
        cases hLj : L[j]? with
        | none => simp
        | some l => rw [hLj] at hΦ; simpa [hjD] using hΦ
    have hx : ∀ (j : Nat) (o : Oper) (d : Tmp), l.toArray[j]? = some o → o.dst = some d → (fun j => a.tmps.getD (((l[j]?).bind (·.dst)).getD 0) undef) j = a.tmps.getD d undef := fun j o d ho hd => by
      have ho' : l[j]? = some o := by simpa using ho
      simp [ho', hd]
    have e := putL_all (a := a) (w := w) (L0 := forget D L) (fun j => a.tmps.getD (((l[j]?).bind (·.dst)).getD 0) undef) hx hh' (forget D L) l 0 a0 (fun j => by rw [Nat.zero_add]) (fun j => by rw [Nat.zero_add]; simp) (slotsB_length hL) hk.1.symm hk.2.1.symm
      (fun t hn => (hk.2.2 t fun j o ho => hn j o (Nat.zero_le _) ho).symm)
    have k := knowL_of (a := a) (w := w) (L0 := forget D L) _ hx hh' (forget D L) l 0 (fun j => by rw [Nat.zero_add]) (fun j => by rw [Nat.zero_add]; simp) hL
    have := hend _ w ht k
    rw [e, hdrop] at this
    have hw' : wpOp P l.toArray Q n (wpList P l.toArray Q []) a w := by
      unfold wpOp
      simp only [hon]
      exact this
    exact wpOp_mono (fun a' w' h' => hK a' w' h') hw'
  · simp only [Array.getD_eq_getD_getElem?]
    rw [Array.getElem?_replicate]
    split <;> rfl
  · simp only [Array.getD_eq_getD_getElem?] at hj
    rw [Array.getElem?_replicate] at hj
    split at hj <;> simp at hj
  · simp only [Array.getD_eq_getD_getElem?] at hj
    rw [Array.getElem?_replicate] at hj
    split at hj <;> simp at hj
end
end Go.Proofs.Ytalkpoeliekbfaa

/-
  Regions that draw their order, ahead of a store that waits for all others, be it by way of another one ('x.n += y').
-/
namespace Go.Proofs.Ytalkpoeliekbfaa
open Go.ChangeShapes Go.WideShapes Go.ChangeAt Go.RowKit Go.Deep
set_option linter.unusedVariables false

def lastB2 (ops : Array Oper) (n : Nat) : Bool :=
  decide (ops.size = n + 1) && (match ops[n]? with
    | some o => o.dst.isNone
    | none => false) && (List.range n).all fun j => waitsB ops n j || (List.range n).any fun j' => waitsB ops n j' && waitsB ops j' j
section
variable {P : Program} {ops : Array Oper} {Q : Exit → Act → World → Prop}
theorem lastB2_spec {n : Nat} (h : lastB2 ops n = true) : ops.size = n + 1 ∧ (∃ o, ops[n]? = some o ∧ o.dst = none) ∧ ∀ j, j < n → waitsB ops n j = true ∨ ∃ j', waitsB ops n j' = true ∧ waitsB ops j' j = true := by
  unfold lastB2 at h
  simp only [Bool.and_eq_true, decide_eq_true_eq, List.all_eq_true, List.mem_range, Bool.or_eq_true, List.any_eq_true] at h
  obtain ⟨⟨h1, h2⟩, h3⟩ := h
  refine ⟨h1, ?_, fun j hj => ?_⟩
  · cases ho : ops[n]? with
    | none => rw [ho] at h2; cases h2
    | some o => rw [ho] at h2; exact ⟨o, rfl, by simpa using h2⟩
  · rcases h3 j hj with h | ⟨j', _, h4, h5⟩
    · exact .inl h
    · exact .inr ⟨j', h4, h5⟩
theorem wpAny_phi7 {a0 : Act} {wd : World} {Φ : Nat → Value → World → Prop} {n : Nat} (hst : ∀ j, Stab (Φ j)) (hdst : ∀ (i j : Nat) (o o' : Oper) (d : Tmp), ops[i]? = some o → ops[j]? = some o' → o.dst = some d → o'.dst = some d → i = j)
    (hin : ∀ (i : Nat) (o : Oper) (d : Tmp), ops[i]? = some o → o.dst = some d → d < a0.tmps.size) (hacy : ∀ (i : Nat) (o : Oper) (e : Edge), ops[i]? = some o → e ∈ o.after → Region.binds .any e = true → e.on < i)
    (hlast : lastB2 ops n = true)
    (hop : ∀ (i : Nat) (o : Oper), ops[i]? = some o → i < n → ∀ a w, Touch [] wd w → Known ops a0 a → (∀ e ∈ o.after, Region.binds .any e = true → Has ops Φ a w e.on) → DoesG P ops (Φ i) o a w)
    (hend : ∀ a w, Touch [] wd w → Known ops a0 a → (∀ j, j < ops.size → Has ops Φ a w j) → ∀ K : Act → World → Prop, (∀ a' w', Q .normal a' w' → K a' w') → wpOp P ops Q n K a w) :
    ∀ (fuel : Nat) (listed : Array Bool) (a : Act) (w : World), listed.size = ops.size → listed.getD n false = false → listed.toList.count false ≤ fuel → Touch [] wd w → Known ops a0 a → Closed ops listed → (∀ j, listed.getD j false = true → Has ops Φ a w j) → wpAny P .any ops Q fuel listed a w := by
  obtain ⟨hsz, ⟨on, hon, hdn⟩, hwait⟩ := lastB2_spec hlast
  intro fuel
  induction fuel with
  | zero =>
    intro listed a w hs hn hc ht hk hcl hh
    exfalso
    have hil : n < listed.size := by omega
    have h0 : listed.toList.count false = 0 := by omega
    rw [List.count_eq_zero] at h0
    have hx : listed[n] = false := by simpa [Array.getD_eq_getD_getElem?, Array.getElem?_eq_getElem hil] using hn
    exact h0 (by rw [← hx]; simp)
  | succ fuel ih =>
    intro listed a w hs hn hc ht hk hcl hh
    refine ⟨fun h0 => ?_, fun i hi => ?_⟩
    · have := all_listed hacy hs h0 n (by omega)
      rw [this] at hn
      cases hn
    obtain ⟨hun, o, ho, hall⟩ := mem_ready.1 hi
    have hlt : i < ops.size := (Array.getElem?_eq_some_iff.1 ho).1
    have hil : i < listed.size := by omega
    have hready : ∀ j, waitsB ops i j = true → listed.getD j false = true := fun j hj => by
      obtain ⟨o', ho', e, he, hb, hej⟩ := waits_spec hj
      rw [ho] at ho'
      cases ho'
      have := hall e he hb
      rwa [hej] at this
    have hcl' : Closed ops (listed.setIfInBounds i true) := fun i' j' hw hl' => by
      simp only [Array.getD_eq_getD_getElem?] at hl' ⊢
      by_cases e' : j' = i
      · subst e'; simp [hil]
      · rw [Array.getElem?_setIfInBounds_ne (fun h => e' h.symm)]
        by_cases e : i' = i
        · subst e
          simpa only [Array.getD_eq_getD_getElem?] using hready j' hw
        · rw [Array.getElem?_setIfInBounds_ne (fun h => e h.symm)] at hl'
          simpa only [Array.getD_eq_getD_getElem?] using hcl i' j' hw (by simpa only [Array.getD_eq_getD_getElem?] using hl')
    by_cases hin' : i = n
    · subst hin'
      obtain rfl : on = o := by rw [hon] at ho; simpa using ho
      have hl : ∀ j, j < i → listed.getD j false = true := fun j hj => by
        rcases hwait j hj with h | ⟨j', h1, h2⟩
        · exact hready j h
        · exact hcl j' j h2 (hready j' h1)
      refine hend a w ht hk (fun j hj => ?_) _ fun a' w' hq => wpAny_done hq fuel _ fun j hj => ?_
      · rcases Nat.lt_or_ge j i with h | h
        · exact hh j (hl j h)
        · obtain rfl : j = i := by omega
          intro o' d' ho' hd'
          rw [hon] at ho'
          cases ho'
          rw [hdn] at hd'
          cases hd'
      · simp only [Array.getD_eq_getD_getElem?]
        by_cases e : j = i
        · subst e
          simp [hil]
        · rw [Array.getElem?_setIfInBounds_ne (fun h => e h.symm)]
          have := hl j (by omega)
          simpa only [Array.getD_eq_getD_getElem?] using this
    have hif : listed[i] = false := by simpa [Array.getD_eq_getD_getElem?, Array.getElem?_eq_getElem hil] using hun
    refine DoesG.wpOp ho (hop i o ho (by omega) a w ht hk fun e he hb => hh e.on (hall e he hb)) fun v w' hφ t => ?_
    refine ih _ _ _ (by simpa using hs) ?_ ?_ (ht.trans t (by simp)) ?_ hcl' ?_
    · simp only [Array.getD_eq_getD_getElem?] at hn ⊢
      rwa [Array.getElem?_setIfInBounds_ne (fun h => hin' h)]
    · rw [Array.toList_setIfInBounds, List.count_set (by simpa using hil)]
      have : listed.toList[i]'(by simpa using hil) = false := by simpa using hif
      rw [this]
      have hpos : 0 < listed.toList.count false := List.count_pos_iff.2 (by rw [← this]; simp)
      have e1 : (if (false == false) = true then 1 else 0 : Nat) = 1 := rfl
      have e2 : (if (true == false) = true then 1 else 0 : Nat) = 0 := rfl
      rw [e1, e2]
      omega
    · obtain ⟨k1, k2, k3⟩ := hk
      cases hd : o.dst with
      | none => exact ⟨k1, k2, k3⟩
      | some d =>
        refine ⟨k1, by simp [Act.put, k2], fun q hq => ?_⟩
        have hne : d ≠ q := fun e => hq i o ho (by rw [hd, e])
        simp only [Act.put]
        rw [Array.getElem?_setIfInBounds_ne hne]
        exact k3 q hq
    · intro j hj o' d' ho' hd'
      by_cases e : j = i
      · subst e
        obtain rfl : o = o' := by rw [ho] at ho'; simpa using ho'
        refine ⟨v, ?_, hφ⟩
        rw [hd']
        have := hin j o d' ho hd'
        simp [Act.put, hk.2.1, this]
      · have hjl : listed.getD j false = true := by
          simp only [Array.getD_eq_getD_getElem?] at hj ⊢
          rwa [Array.getElem?_setIfInBounds_ne (fun h => e h.symm)] at hj
        obtain ⟨u, hu, hΦ⟩ := hh j hjl o' d' ho' hd'
        refine ⟨u, ?_, hst j u w w' hΦ t⟩
        cases hd : o.dst with
        | none => exact hu
        | some d =>
          have hne : d ≠ d' := fun e2 => e (hdst j i o' o d' ho' ho hd' (by rw [hd, e2]))
          simp only [Act.put]
          rw [Array.getElem?_setIfInBounds_ne hne]
          exact hu

/-- The same with the state ahead of the store written out. -/
theorem wp_region_store2 {id : Nat} {a0 : Act} {w wd : World} {l : List Oper} (n : Nat) (L : List Leaf) (hm : P.follows .mixedOrders = true) (hB : phiB l.toArray a0.tmps.size = true) (hL : slotsB L l = true) (hlast : lastB2 l.toArray n = true) (hw : Touch [] wd w.drew) (hst : StabL L)
    (hop : ∀ (i : Nat) (o : Oper), l[i]? = some o → i < n → ∀ a w, Touch [] wd w → Known l.toArray a0 a → (∀ e ∈ o.after, Region.binds .any e = true → Has l.toArray (okL L) a w e.on) → DoesG P l.toArray (okL L i) o a w)
    (hend : ∀ (x : Nat → Value) (w : World), Touch [] wd w → KnowL x w L 0 → wpList P l.toArray Q (l.drop n) (putL x L l 0 a0) w) : (Code.region id l.toArray true).wp P Q a0 w := by
  obtain ⟨h1, h2, h3⟩ := phiB_spec hB
  obtain ⟨hsz, ⟨on, hon, hdn⟩, hwait⟩ := lastB2_spec hlast
  have hln : l.length = n + 1 := by simpa using hsz
  have hon' : l[n]? = some on := by simpa using hon
  have hdrop : l.drop n = [on] := by
    have hlt : n < l.length := by omega
    have e := List.drop_eq_getElem_cons hlt
    rw [e]
    have : l[n] = on := by
      rw [List.getElem?_eq_getElem hlt] at hon'
      simpa using hon'
    rw [this, List.drop_of_length_le (by omega)]
  refine wp_region_any hm (wpAny_phi7 (n := n) (okL_stab hst) h1 h2 h3 hlast (fun i o ho => hop i o (by simpa using ho)) (fun a w ht hk hh K hK => ?_) l.toArray.size (Array.replicate l.toArray.size false) a0 _ (by simp) ?_ (by simp) hw ⟨rfl, rfl, fun _ _ => rfl⟩ (fun i j _ hj => ?_) (fun j hj => ?_))
  · have hx : ∀ (j : Nat) (o : Oper) (d : Tmp), l.toArray[j]? = some o → o.dst = some d → (fun j => a.tmps.getD (((l[j]?).bind (·.dst)).getD 0) undef) j = a.tmps.getD d undef := fun j o d ho hd => by
      have ho' : l[j]? = some o := by simpa using ho
      simp [ho', hd]
    have e := putL_all (a := a) (w := w) (L0 := L) (fun j => a.tmps.getD (((l[j]?).bind (·.dst)).getD 0) undef) hx hh L l 0 a0 (fun j => by rw [Nat.zero_add]) (fun j => by rw [Nat.zero_add]; simp) (slotsB_length hL) hk.1.symm hk.2.1.symm
      (fun t hn => (hk.2.2 t fun j o ho => hn j o (Nat.zero_le _) ho).symm)
    have k := knowL_of (a := a) (w := w) (L0 := L) _ hx hh L l 0 (fun j => by rw [Nat.zero_add]) (fun j => by rw [Nat.zero_add]; simp) hL
    have := hend _ w ht k
    rw [e, hdrop] at this
    have hw' : wpOp P l.toArray Q n (wpList P l.toArray Q []) a w := by
      unfold wpOp
      simp only [hon]
      exact this
    exact wpOp_mono (fun a' w' h' => hK a' w' h') hw'
  · simp only [Array.getD_eq_getD_getElem?]
    rw [Array.getElem?_replicate]
    split <;> rfl
  · simp only [Array.getD_eq_getD_getElem?] at hj
    rw [Array.getElem?_replicate] at hj
    split at hj <;> simp at hj
  · simp only [Array.getD_eq_getD_getElem?] at hj
    rw [Array.getElem?_replicate] at hj
    split at hj <;> simp at hj
end
end Go.Proofs.Ytalkpoeliekbfaa

/-
  Contracts of layer 7 (chain): the lists in memory; hasList, hasNode, Len, First, Where.
-/
namespace Go.Proofs.Ytalkpoeliekbfaa
open Go.ChangeShapes Go.WideShapes Go.ChangeAt Go.RowKit Go.Deep
set_option linter.unusedVariables false
set_option linter.unusedSimpArgs false

/-- Lists at block p: what is behind each node (gn), where each node is (gw), the ends of each list (gl: first, last, count). -/
structure ChainAt (w : World) (p gn gw gl n cn cw k cl : Nat) (N V E : Nat → Int) : Prop where
  box : BoxV w p 91 #[.slice (some ⟨gn, 0, none⟩) n cn, .slice (some ⟨gw, 0, none⟩) n cw, .slice (some ⟨gl, 0, none⟩) k cl]
  next : w.ownsRow 0 3 1 (.slice (some ⟨gn, 0, none⟩) n cn) n (iv N n)
  wher : w.ownsRow 0 3 1 (.slice (some ⟨gw, 0, none⟩) n cw) n (iv V n)
  ends : w.ownsRow 0 96 3 (.slice (some ⟨gl, 0, none⟩) k cl) k (iv E (k * 3))
  far : p ≠ gn ∧ p ≠ gw ∧ p ≠ gl ∧ gn ≠ gw ∧ gn ≠ gl ∧ gw ≠ gl

namespace ChainAt
variable {w w' : World} {p gn gw gl n cn cw k cl : Nat} {N V E : Nat → Int}
theorem c0 (h : ChainAt w p gn gw gl n cn cw k cl N V E) : w.cell? ⟨p, 0, none⟩ = some (.slice (some ⟨gn, 0, none⟩) n cn) := h.box.cell 0
theorem c1 (h : ChainAt w p gn gw gl n cn cw k cl N V E) : w.cell? ⟨p, 1, none⟩ = some (.slice (some ⟨gw, 0, none⟩) n cw) := h.box.cell 1
theorem c2 (h : ChainAt w p gn gw gl n cn cw k cl N V E) : w.cell? ⟨p, 2, none⟩ = some (.slice (some ⟨gl, 0, none⟩) k cl) := h.box.cell 2
theorem cN (h : ChainAt w p gn gw gl n cn cw k cl N V E) {i : Nat} (hi : i < n) : w.cell? ⟨gn, i, none⟩ = some (.int .i64 (N i)) := by rw [h.next.cellAt i (by omega), iv_get _ hi]
theorem cV (h : ChainAt w p gn gw gl n cn cw k cl N V E) {i : Nat} (hi : i < n) : w.cell? ⟨gw, i, none⟩ = some (.int .i64 (V i)) := by rw [h.wher.cellAt i (by omega), iv_get _ hi]
theorem cE (h : ChainAt w p gn gw gl n cn cw k cl N V E) {i : Nat} (hi : i < k * 3) : w.cell? ⟨gl, i, none⟩ = some (.int .i64 (E i)) := by rw [h.ends.cellAt i hi, iv_get _ hi]
theorem lts (h : ChainAt w p gn gw gl n cn cw k cl N V E) : p < w.heap.size ∧ gn < w.heap.size ∧ gw < w.heap.size ∧ gl < w.heap.size := ⟨h.box.lt, own_lt h.next rfl, own_lt h.wher rfl, own_lt h.ends rfl⟩
theorem carry {T : List Nat} (h : ChainAt w p gn gw gl n cn cw k cl N V E) (t : Touch T w w') (hT : ∀ b ∈ [p, gn, gw, gl], b ∉ T) : ChainAt w' p gn gw gl n cn cw k cl N V E :=
  ⟨h.box.carry t (hT p (by simp)), t.row h.next (by simpa [Value.ownBlock] using hT gn (by simp)), t.row h.wher (by simpa [Value.ownBlock] using hT gw (by simp)), t.row h.ends (by simpa [Value.ownBlock] using hT gl (by simp)), h.far⟩
theorem new (h : ChainAt w p gn gw gl n cn cw k cl N V E) (t : Touch [] w w') : ChainAt w' p gn gw gl n cn cw k cl N V E := h.carry t (by simp)
theorem congr {N' V' E' : Nat → Int} (h : ChainAt w p gn gw gl n cn cw k cl N V E) (hN : ∀ i, i < n → N i = N' i) (hV : ∀ i, i < n → V i = V' i) (hE : ∀ i, i < k * 3 → E i = E' i) : ChainAt w p gn gw gl n cn cw k cl N' V' E' :=
  ⟨h.box, iv_congr hN ▸ h.next, iv_congr hV ▸ h.wher, iv_congr hE ▸ h.ends, h.far⟩
theorem setN (h : ChainAt w p gn gw gl n cn cw k cl N V E) (i : Nat) (x : Int) : ChainAt (w.setCell ⟨gn, i, none⟩ (.int .i64 x)) p gn gw gl n cn cw k cl (upd N i x) V E := by
  have t : Touch [gn] w (w.setCell ⟨gn, i, none⟩ (.int .i64 x)) := (Touch.refl _ _).setCell (by simp) _
  have hf := h.far
  refine ⟨h.box.carry t (by simp; omega), ?_, t.row h.wher (by simp [Value.ownBlock]; omega), t.row h.ends (by simp [Value.ownBlock]; omega), hf⟩
  rw [← iv_set]
  exact (h.next.stored i _).1
theorem setV (h : ChainAt w p gn gw gl n cn cw k cl N V E) (i : Nat) (x : Int) : ChainAt (w.setCell ⟨gw, i, none⟩ (.int .i64 x)) p gn gw gl n cn cw k cl N (upd V i x) E := by
  have t : Touch [gw] w (w.setCell ⟨gw, i, none⟩ (.int .i64 x)) := (Touch.refl _ _).setCell (by simp) _
  have hf := h.far
  refine ⟨h.box.carry t (by simp; omega), t.row h.next (by simp [Value.ownBlock]; omega), ?_, t.row h.ends (by simp [Value.ownBlock]; omega), hf⟩
  rw [← iv_set]
  exact (h.wher.stored i _).1
theorem setE (h : ChainAt w p gn gw gl n cn cw k cl N V E) (i : Nat) (x : Int) : ChainAt (w.setCell ⟨gl, i, none⟩ (.int .i64 x)) p gn gw gl n cn cw k cl N V (upd E i x) := by
  have t : Touch [gl] w (w.setCell ⟨gl, i, none⟩ (.int .i64 x)) := (Touch.refl _ _).setCell (by simp) _
  have hf := h.far
  refine ⟨h.box.carry t (by simp; omega), t.row h.next (by simp [Value.ownBlock]; omega), t.row h.wher (by simp [Value.ownBlock]; omega), ?_, hf⟩
  rw [← iv_set]
  exact (h.ends.stored i _).1
end ChainAt

def inR (x : Int) (n : Nat) : Bool := decide (0 ≤ x) && decide (x < n)
theorem inR_yes {x : Int} {n : Nat} (h : 0 ≤ x ∧ x < n) : inR x n = true := by simp [inR, h]
theorem inR_no {x : Int} {n : Nat} (h : ¬ (0 ≤ x ∧ x < n)) : inR x n = false := by simp [inR]; omega
section
variable {w : World} {p gn gw gl n cn cw k cl : Nat} {N V E : Nat → Int}
theorem hasList_nil (l : Int) (w : World) : Calls Try.prog 43 #[.pointer none, .int .i64 l] w fun e w' => e = .returned (.bool false) ∧ w' = w := by
  go_enter Try.func43, Try.ntmps43
  go_wp2
  go_ret
  exact ⟨rfl, rfl⟩
theorem hasNode_nil (l : Int) (w : World) : Calls Try.prog 44 #[.pointer none, .int .i64 l] w fun e w' => e = .returned (.bool false) ∧ w' = w := by
  go_enter Try.func44, Try.ntmps44
  go_wp2
  go_ret
  exact ⟨rfl, rfl⟩
theorem hasList_any (h : ChainAt w p gn gw gl n cn cw k cl N V E) (l : Int) : Calls Try.prog 43 #[.pointer (some ⟨p, 0, none⟩), .int .i64 l] w fun e w' => e = .returned (.bool (inR l k)) ∧ w' = w := by
  have c2 := h.c2
  have lp := h.lts.1
  clear h
  unfold inR
  by_cases h0 : 0 ≤ l
  · have b0 : decide (0 ≤ l) = true := by simpa using h0
    by_cases h1 : l < k
    · have b1 : decide (l < (k : Int)) = true := by simpa using h1
      rw [b0, b1]
      go_enter Try.func43, Try.ntmps43
      go_wp2
      go_ret
      exact ⟨rfl, rfl⟩
    · have b1 : decide (l < (k : Int)) = false := by simpa using h1
      rw [b0, b1]
      go_enter Try.func43, Try.ntmps43
      go_wp2
      go_ret
      exact ⟨rfl, rfl⟩
  · have b0 : decide (0 ≤ l) = false := by simpa using h0
    rw [b0, Bool.false_and]
    go_enter Try.func43, Try.ntmps43
    go_wp2
    go_ret
    exact ⟨rfl, rfl⟩
theorem hasNode_any (h : ChainAt w p gn gw gl n cn cw k cl N V E) (l : Int) : Calls Try.prog 44 #[.pointer (some ⟨p, 0, none⟩), .int .i64 l] w fun e w' => e = .returned (.bool (inR l n)) ∧ w' = w := by
  have c2 := h.c0
  have lp := h.lts.1
  clear h
  unfold inR
  by_cases h0 : 0 ≤ l
  · have b0 : decide (0 ≤ l) = true := by simpa using h0
    by_cases h1 : l < n
    · have b1 : decide (l < (n : Int)) = true := by simpa using h1
      rw [b0, b1]
      go_enter Try.func44, Try.ntmps44
      go_wp2
      go_ret
      exact ⟨rfl, rfl⟩
    · have b1 : decide (l < (n : Int)) = false := by simpa using h1
      rw [b0, b1]
      go_enter Try.func44, Try.ntmps44
      go_wp2
      go_ret
      exact ⟨rfl, rfl⟩
  · have b0 : decide (0 ≤ l) = false := by simpa using h0
    rw [b0, Bool.false_and]
    go_enter Try.func44, Try.ntmps44
    go_wp2
    go_ret
    exact ⟨rfl, rfl⟩
/-- How many nodes the list has. -/
def lenV (k : Nat) (E : Nat → Int) (l : Int) : Int := if inR l k = true then E (l.toNat * 3 + 2) else 0
theorem len_nil (l : Int) (w : World) : Calls Try.prog 19 #[.pointer none, .int .i64 l] w fun e w' => e = .returned (.int .i64 0) ∧ w' = w := by
  have D := Lib.hid (hasList_nil l w)
  go_enter Try.func19, Try.ntmps19
  go_wp2_with fail
  refine (D.out).mono ?_
  rintro e w1 ⟨rfl, rfl⟩
  go_wp2
  go_ret
  exact ⟨rfl, rfl⟩
theorem len_any (h : ChainAt w p gn gw gl n cn cw k cl N V E) (l : Int) : Calls Try.prog 19 #[.pointer (some ⟨p, 0, none⟩), .int .i64 l] w fun e w' => e = .returned (.int .i64 (lenV k E l)) ∧ w' = w := by
  have D := Lib.hid (hasList_any h l)
  have c2 := h.c2
  have hk := own_cap h.ends
  obtain ⟨lp, ln, lw, ll⟩ := h.lts
  unfold maxLen at hk
  unfold lenV
  by_cases h0 : 0 ≤ l ∧ l < k
  · obtain ⟨a, rfl⟩ := Int.eq_ofNat_of_zero_le h0.1
    have ha : a < k := by omega
    have ce := h.cE (i := a * 3 + 2) (by omega)
    rw [inR_yes h0] at D ⊢
    rw [if_pos rfl, Int.toNat_natCast]
    generalize E (a * 3 + 2) = x at *
    clear h h0
    go_enter Try.func19, Try.ntmps19
    go_wp2_with fail
    refine (D.out).mono ?_
    rintro e w1 ⟨rfl, rfl⟩
    go_wp2
    go_ret
    exact ⟨rfl, rfl⟩
  · rw [inR_no h0] at D ⊢
    rw [if_neg (by decide)]
    clear h h0
    go_enter Try.func19, Try.ntmps19
    go_wp2_with fail
    refine (D.out).mono ?_
    rintro e w1 ⟨rfl, rfl⟩
    go_wp2
    go_ret
    exact ⟨rfl, rfl⟩
def firstTold (x : Int) (ok : Bool) : Ending := .returned (.tuple #[.int .i64 x, .bool ok])
theorem first_of_none (v : Value) (l : Int) (w : World) (D : Hid (Calls Try.prog 19 #[v, .int .i64 l] w fun e w' => e = .returned (.int .i64 0) ∧ w' = w)) :
    Calls Try.prog 11 #[v, .int .i64 l] w fun e w' => e = firstTold 0 false ∧ w' = w := by
  unfold firstTold
  go_enter Try.func11, Try.ntmps11
  go_wp2_with fail
  refine (D.out).mono ?_
  rintro e w1 ⟨rfl, rfl⟩
  go_wp2
  go_ret2
  exact ⟨rfl, rfl⟩
theorem first_none (h : ChainAt w p gn gw gl n cn cw k cl N V E) (l : Int) (hl : lenV k E l = 0) : Calls Try.prog 11 #[.pointer (some ⟨p, 0, none⟩), .int .i64 l] w fun e w' => e = firstTold 0 false ∧ w' = w := by
  have := len_any h l
  rw [hl] at this
  exact first_of_none _ l w (Lib.hid this)
theorem first_some (h : ChainAt w p gn gw gl n cn cw k cl N V E) (a : Nat) (ha : a < k) (hl : E (a * 3 + 2) ≠ 0) : Calls Try.prog 11 #[.pointer (some ⟨p, 0, none⟩), .int .i64 (a : Int)] w fun e w' => e = firstTold (E (a * 3)) true ∧ w' = w := by
  have D0 := len_any h a
  unfold lenV at D0
  rw [if_pos (inR_yes ⟨by omega, by omega⟩), Int.toNat_natCast] at D0
  have D := Lib.hid D0
  have c2 := h.c2
  have hk := own_cap h.ends
  obtain ⟨lp, ln, lw, ll⟩ := h.lts
  unfold maxLen at hk
  unfold firstTold
  have ce := h.cE (i := a * 3) (by omega)
  have b1 : (E (a * 3 + 2) == 0) = false := by simpa using hl
  generalize E (a * 3 + 2) = x at *
  generalize E (a * 3) = y at *
  clear h hl D0
  go_enter Try.func11, Try.ntmps11
  go_wp2_with fail
  refine (D.out).mono ?_
  rintro e w1 ⟨rfl, rfl⟩
  go_wp2
  go_ret2
  exact ⟨rfl, rfl⟩
theorem where_nil (l : Int) (w : World) : Calls Try.prog 17 #[.pointer none, .int .i64 l] w fun e w' => e = firstTold 0 false ∧ w' = w := by
  have D := Lib.hid (hasNode_nil l w)
  unfold firstTold
  go_enter Try.func17, Try.ntmps17
  go_wp2_with fail
  refine (D.out).mono ?_
  rintro e w1 ⟨rfl, rfl⟩
  go_wp2
  go_ret2
  exact ⟨rfl, rfl⟩
def placeOf (n : Nat) (V : Nat → Int) (x : Int) : Int := if inR x n = true then V x.toNat else -1
theorem where_none (h : ChainAt w p gn gw gl n cn cw k cl N V E) (l : Int) (hl : placeOf n V l = -1) : Calls Try.prog 17 #[.pointer (some ⟨p, 0, none⟩), .int .i64 l] w fun e w' => e = firstTold 0 false ∧ w' = w := by
  have D := Lib.hid (hasNode_any h l)
  have c1 := h.c1
  have hk := own_cap h.wher
  obtain ⟨lp, ln, lw, ll⟩ := h.lts
  unfold maxLen at hk
  unfold firstTold
  unfold placeOf at hl
  by_cases h0 : 0 ≤ l ∧ l < n
  · obtain ⟨a, rfl⟩ := Int.eq_ofNat_of_zero_le h0.1
    have ha : a < n := by omega
    have ce := h.cV ha
    rw [inR_yes h0] at D hl
    rw [if_pos rfl, Int.toNat_natCast] at hl
    rw [hl] at ce
    clear h h0 hl
    go_enter Try.func17, Try.ntmps17
    go_wp2_with fail
    refine (D.out).mono ?_
    rintro e w1 ⟨rfl, rfl⟩
    go_wp2
    go_ret2
    exact ⟨rfl, rfl⟩
  · rw [inR_no h0] at D
    clear h h0 hl
    go_enter Try.func17, Try.ntmps17
    go_wp2_with fail
    refine (D.out).mono ?_
    rintro e w1 ⟨rfl, rfl⟩
    go_wp2
    go_ret2
    exact ⟨rfl, rfl⟩
theorem where_some (h : ChainAt w p gn gw gl n cn cw k cl N V E) (a : Nat) (ha : a < n) (hl : V a ≠ -1) : Calls Try.prog 17 #[.pointer (some ⟨p, 0, none⟩), .int .i64 (a : Int)] w fun e w' => e = firstTold (V a) true ∧ w' = w := by
  have D0 := hasNode_any h a
  rw [inR_yes ⟨by omega, by omega⟩] at D0
  have D := Lib.hid D0
  have c1 := h.c1
  have hk := own_cap h.wher
  obtain ⟨lp, ln, lw, ll⟩ := h.lts
  unfold maxLen at hk
  unfold firstTold
  have ce := h.cV ha
  have b1 : (V a == -1) = false := by simpa using hl
  generalize V a = x at *
  clear h hl D0
  go_enter Try.func17, Try.ntmps17
  go_wp2_with fail
  refine (D.out).mono ?_
  rintro e w1 ⟨rfl, rfl⟩
  go_wp2
  go_ret2
  exact ⟨rfl, rfl⟩
end
end Go.Proofs.Ytalkpoeliekbfaa
