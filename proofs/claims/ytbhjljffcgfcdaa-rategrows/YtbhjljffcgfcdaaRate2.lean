/-
  Contracts of layer 4 (rate): New, Time.
-/
import Derived.Test.YtbhjljffcgfcdaaRate
import Derived.Laws.CopyOwn
import Derived.Deep.RegionLaw
import Derived.Deep.RegionWith
namespace Go.Proofs.Ytbhjljffcgfcdaa
open Go.ChangeShapes Go.WideShapes Go.ChangeAt Go.RowKit Go.Deep
set_option linter.unusedVariables false

/-- A table in block p: the times of 0 to 256 cells. -/
def TableAt (w : World) (p : Nat) (tpb units : Int) : Prop := w.rowIs p 52 257 fun j => .int .i64 (timeV tpb units j)

theorem new4_no {tpb units : Int} (w : World) (h : ¬ okRate tpb units) :
    Calls Try.prog 21 #[.int .i64 tpb, .int .i64 units] w fun e w' => e = .returned (.tuple #[.pointer none, .int .i64 2]) ∧ w = w' := by
  have D1 := Lib.hid (fun w => defined_no w h)
  clear h
  go_enter Try.func21, Try.ntmps21
  go_wp2_with fail
  refine (D1.out _).mono ?_
  rintro e w' ⟨rfl, rfl⟩
  go_wp2_with fail
  go_ret2
  exact ⟨rfl, rfl⟩

theorem table_of {w : World} {p : Nat} {tpb units : Int} (h : w.heap[p]? = some (.cells (iv (fun j => timeV tpb units j) 257).toArray 52 (0, 0))) : TableAt w p tpb units := by
  refine ⟨_, h, by simp [iv_length], fun i hi => ?_⟩
  simpa using iv_get (fun j => timeV tpb units j) hi
def NewPost (tpb units : Int) (w : World) (e : Ending) (w' : World) : Prop := e = .returned (.tuple #[.pointer (some ⟨w.heap.size, 0, none⟩), .int .i64 0]) ∧ TableAt w' w.heap.size tpb units ∧ Below w.heap.size w w'

def zeros : List Value := List.replicate 257 (.int .i64 0)
theorem table_zero (w : World) : (zeroValue 52).run Try.prog w = .ok (.agg zeros.toArray) w := by kernel_rfl
theorem zeros_len : zeros.length = 257 := by unfold zeros; exact List.length_replicate

/-- A row that the call owns and that is not empty: where it lies. -/
theorem own_shape {w : World} {base : Nat} {e : TypeId} {v : Value} {n : Nat} {xs : List Value} (h : w.ownsRow base e 1 v n xs) (hn : 0 < n) : ∃ g cap, v = .slice (some ⟨g, 0, none⟩) n cap ∧ base ≤ g ∧ ∀ j, j < n → w.cell? ⟨g, j, none⟩ = xs[j]? := by
  rcases h.2 with ⟨hv, hx⟩ | ⟨g, cap, cur, rfl, hb, _⟩
  · omega
  · exact ⟨g, cap, rfl, hb, fun j hj => h.cellAt j (by omega)⟩

/-- What the copy into the table wants of the call ahead of it. -/
def Ready (tpb units : Int) (w w2 : World) (p : Nat) (zs : List Value) (e : Ending) (w3 : World) : Prop :=
  ∃ g cap, e = .returned (.slice (some ⟨g, 0, none⟩) 257 cap) ∧ Hid (w3.heap[p]? = some (.cells zs.toArray 52 (0, 0))) ∧
    Hid (0 < (iv (fun j => timeV tpb units j) 257).length → (some ⟨p, 0, none⟩ : Option Addr) = some ⟨p, 0, none⟩ ∧ ∃ ad, (some ⟨g, 0, none⟩ : Option Addr) = some ad ∧ ∀ j u, (iv (fun j => timeV tpb units j) 257)[j]? = some u → w3.cell? (ad.add j) = some u) ∧ Hid (Below p w w3)
theorem ready_any {tpb units : Int} (w w2 : World) (zs : List Value) (h : okRate tpb units) (hr : w2.heap[w.heap.size]? = some (.cells zs.toArray 52 (0, 0))) (hb : Below w.heap.size w w2) :
    Calls Try.prog 48 #[.int .i64 tpb, .int .i64 units] w2 (Ready tpb units w w2 w.heap.size zs) := by
  refine (exactTimes_any w2 h).mono ?_
  rintro e w3 ⟨v, rfl, hown, hb3⟩
  obtain ⟨g, cap, rfl, hg, hc⟩ := own_shape hown (by omega)
  have hlt : w.heap.size < w2.heap.size := (Array.getElem?_eq_some_iff.1 hr).1
  refine ⟨g, cap, rfl, Lib.hid ((hb3.block _ hlt).trans hr), Lib.hid fun _ => ⟨rfl, _, rfl, fun j u hu => ?_⟩, Lib.hid (hb.trans (hb3.mono hb.size))⟩
  have hj : j < 257 := by have := (List.getElem?_eq_some_iff.1 hu).1; rwa [iv_length] at this
  rw [add_plain, Nat.zero_add, hc j hj, hu]

set_option maxHeartbeats 1000000 in
theorem new4_yes {tpb units : Int} (w : World) (h : okRate tpb units) :
    Calls Try.prog 21 #[.int .i64 tpb, .int .i64 units] w (NewPost tpb units w) := by
  have D1 := Lib.hid (fun w => defined_yes w h)
  have hb := table_zero
  have hl := zeros_len
  generalize zeros = zs at *
  have HFt : Hid (0 + (iv (fun j => timeV tpb units j) 257).length ≤ zs.length) := Lib.hid (by rw [iv_length]; omega)
  have HLn : Hid ((iv (fun j => timeV tpb units j) 257).length = Nat.min 257 257) := Lib.hid (by rw [iv_length]; rfl)
  have HOne := Lib.hid (iv_one (fun j => timeV tpb units j) 257)
  have HL := Lib.hid hl
  have D2 := Lib.hid (ready_any (tpb := tpb) (units := units) w (w.alloc (.cells zs.toArray 52)).drew zs h (heap_alloc_new w _) (((Below.refl _ _).alloc (Nat.le_refl _) _).drew))
  clear hl
  go_enter Try.func21, Try.ntmps21
  go_wp2_with fail
  refine (D1.out _).mono ?_
  rintro e w' ⟨rfl, rfl⟩
  go_upto_region 4 with fail
  clear hb
  generalize w.alloc (.cells zs.toArray 52) = w2 at *
  go_region_law (first
    | (refine step_copy_splice rfl (.tmp 16) (.tmp 19) 23 23 rfl 3 Try.underlying23 (by kernel_rfl) (some ⟨w.heap.size, 0, none⟩) (some ⟨g, 0, none⟩) 257 257 257 cap (by simp [Act.eval]) (by simp [Act.eval]) w.heap.size 0 zs 52 HG.out (iv (fun j => timeV tpb units j) 257) HLn.out HP.out HFt.out HOne.out w.heap.size w HB.out (Nat.le_refl _) ?_; intro w4 hg4 hb4)
    | (go_simp; go_at_call 48; refine (D2.out).mono ?_; rintro e w3 ⟨g, cap, rfl, HG, HP, HB⟩))
  have hs : splice zs 0 (iv (fun j => timeV tpb units j) 257) = iv (fun j => timeV tpb units j) 257 := by
    unfold splice
    rw [List.take_zero, List.nil_append, Nat.zero_add, iv_length, List.drop_of_length_le (by have := HL.out; omega), List.append_nil]
  have ht : TableAt w4 w.heap.size tpb units := by
    have := hg4.out
    rw [hs] at this
    exact table_of this
  have HT := Lib.hid ht
  have H4 := Lib.hid hb4
  clear hs ht hg4 hb4
  go_wp2_with fail
  go_ret2
  exact ⟨rfl, HT.out, H4.out⟩

section
variable {w w' : World} {p : Nat} {tpb units : Int}
theorem TableAt.lt (h : TableAt w p tpb units) : p < w.heap.size := World.rowIs.lt h
theorem TableAt.carry {S : List Nat} (h : TableAt w p tpb units) (t : Touch S w w') (hp : p ∉ S) : TableAt w' p tpb units := World.rowIs.of_block h (t.block p h.lt hp)
theorem TableAt.at (h : TableAt w p tpb units) {k : Nat} (hk : k < 257) : w.cell? ⟨p, k, none⟩ = some (.int .i64 (timeV tpb units k)) := World.rowIs.cell h hk

theorem time_nil (n : Int) (w : World) : Calls Try.prog 27 #[.pointer none, .int .i64 n] w fun e w' => e = .returned (.int .i64 0) ∧ w = w' := by
  go_enter Try.func27, Try.ntmps27
  go_wp2
  go_ret
  exact ⟨rfl, rfl⟩
set_option maxHeartbeats 1000000 in
theorem time_any (h : TableAt w p tpb units) (n : Int) :
    Calls Try.prog 27 #[.pointer (some ⟨p, 0, none⟩), .int .i64 n] w fun e w' => e = .returned (.int .i64 (timeV tpb units (cellsV n))) ∧ Touch [] w w' := by
  have hc := cellsV_in n
  have C := Lib.hid (fun w => cells_any n w)
  generalize cellsV n = c at *
  obtain ⟨k, rfl⟩ : ∃ k : Nat, c = k := ⟨c.toNat, by omega⟩
  have hk : k < 257 := by omega
  have k0 : ∀ x : Cls w, x.val.cell? ⟨p, k, none⟩ = some (.int .i64 (timeV tpb units k)) := fun x => (h.carry x.property (by simp)).at hk
  generalize timeV tpb units k = r at *
  clear h
  go_enter Try.func27, Try.ntmps27
  go_upto_region 3 with fail
  refine wp_region_cls (wd := w) (by kernel_rfl) (by kernel_rfl) ((Touch.refl _ _).drew) ?_
  repeat (first | go_big_quiet_step ((go_at_call 22; exact Calls.cls_same (C.out _))) | quiet_step ((go_at_call 22; exact Calls.cls_same (C.out _))))
  refine wpQuiet_nil ?_
  rintro _ ⟨y, rfl⟩
  have T := Lib.hid y.property
  generalize y.val = wy at *
  clear k0
  go_wp2_with fail
  go_ret
  exact ⟨rfl, T.out⟩
end
end Go.Proofs.Ytbhjljffcgfcdaa
