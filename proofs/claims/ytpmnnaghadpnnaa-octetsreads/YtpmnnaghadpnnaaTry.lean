/-
  octets' Try (layer 9): the deferred function, where the reader failed and where it did not; Try itself.
-/
import Derived.Test.YtpmnnaghadpnnaaRefPut
import Derived.Test.YtpmnnaghadpnnaaBox
import Derived.Defers
import Derived.Recover
import Derived.Laws.Pointers
import Derived.LaidEqlPtr
namespace Go.Proofs.Ytpmnnaghadpnnaa
open Go.ChangeShapes Go.WideShapes Go.ChangeAt Go.RowKit Go.Deep
set_option linter.unusedVariables false

/-- What a reader at p that fails with k panics with. -/
def failV (p : Nat) (k : Int) : Value := .iface 48 (.agg #[.pointer (some ⟨p, 0, none⟩), .int .i64 k])

theorem reader_size : (Try.prog.info? 46).map (fun i => i.size) = some 1 := by kernel_rfl
theorem same_ptr (p : Nat) (w : World) : (binOp .eql 28 (.pointer (some ⟨p, 0, none⟩)) (.pointer (some ⟨p, 0, none⟩))).run Try.prog w = .ok (.bool true) w := by
  obtain ⟨j, hj, _⟩ := Option.map_eq_some_iff.1 reader_size
  exact run_eql_ptr_same w _ Try.underlying28 hj
theorem tmps59 (a b X : Value) : #[a, b] ++ ((Array.replicate 21 undef).setIfInBounds 3 X).setIfInBounds 0 X = #[a, b, X, undef, undef, X, undef, undef, undef, undef, undef, undef, undef, undef, undef, undef, undef, undef, undef, undef, undef, undef, undef] := by kernel_rfl
set_option maxHeartbeats 1000000 in
set_option maxRecDepth 100000 in
theorem catch_fail (b4 b5 p : Nat) (x k : Int) (older : List PanicEntry) (w : World) (h4 : Box1 w b4 26 (.int .i64 x)) (h5 : Box1 w b5 28 (.pointer (some ⟨p, 0, none⟩))) :
    CallsD Try.prog 14 #[.pointer (some ⟨b5, 0, none⟩), .pointer (some ⟨b4, 0, none⟩)] (.panicking ({ v := failV p k, recovered := false } :: older)) w fun e u' w' =>
      e = .returned (.tuple #[]) ∧ u' = .panicking ({ v := failV p k, recovered := true } :: older) ∧ Box1 w' b4 26 (.int .i64 k) ∧ Touch [b4] w w' := by
  unfold failV
  have c4 := h4.c0
  have f4 := h4.fr 0
  have c5 := h5.c0
  have l4 := h4.lt
  have l5 := h5.lt
  refine callsD_of_wpS Try.func14 rfl fun c₀ cs hu => ?_
  apply wpS_seq
  apply wpS_region
  generalize hQ : Exit.thenS _ _ = Q
  simp [wpOpsS, go_sem, recoverD, hu, Try.ntmps14]
  rw [← hQ]
  simp only [Exit.thenS]
  refine wpS_of_wp ?_
  clear hQ
  generalize hX : Value.iface 48 (.agg #[.pointer (some ⟨p, 0, none⟩), .int .i64 k]) = X
  generalize hP : (fun (e : Exit) (a' : Act) (w' : World) => bodyPostS _ _ _ _ _ e a' _ w') = Q0
  rw [tmps59]
  subst hX
  have he : ∀ w, (binOp .eql 20 (.iface 48 (.agg #[.pointer (some ⟨p, 0, none⟩), .int .i64 k])) .nilIface).run Try.prog w = .ok (.bool false) w := fun w => by kernel_rfl
  have hg : ∀ w, (eqGuard .eql 20 (Operand.tmp 6) (Operand.const Value.nilIface) (.iface 48 (.agg #[.pointer (some ⟨p, 0, none⟩), .int .i64 k])) .nilIface).run Try.prog w = .ok () w := fun w => by kernel_rfl
  have ha : ∀ w, (Instr.typeAssert (.iface 48 (.agg #[.pointer (some ⟨p, 0, none⟩), .int .i64 k])) 20 48 true).run Try.prog w = .ok (.tuple #[.agg #[.pointer (some ⟨p, 0, none⟩), .int .i64 k], .bool true]) w := fun w => by kernel_rfl
  have hp := fun w => same_ptr p w
  go_wp2_with fail
  subst hP
  simp [bodyPostS, results, Try.results14]
  exact ⟨(h4.set0 _).carry ((Touch.refl [] _).alloc _) (by simp), ((Touch.refl [b4] w).setCell (Or.inl (by simp)) _).alloc _⟩

theorem tmps59' (a b X : Value) : #[a, b] ++ ((Array.replicate 21 undef).setIfInBounds 3 X).setIfInBounds 0 X = #[a, b, X, undef, undef, X, undef, undef, undef, undef, undef, undef, undef, undef, undef, undef, undef, undef, undef, undef, undef, undef, undef] := by kernel_rfl
set_option maxHeartbeats 1000000 in
set_option maxRecDepth 100000 in
theorem catch_none (b4 b5 : Nat) (w : World) :
    CallsD Try.prog 14 #[.pointer (some ⟨b5, 0, none⟩), .pointer (some ⟨b4, 0, none⟩)] .returning w fun e u' w' => e = .returned (.tuple #[]) ∧ u' = .returning ∧ w' = w := by
  refine callsD_of_wpS Try.func14 rfl fun c₀ cs hu => ?_
  apply wpS_seq
  apply wpS_region
  generalize hQ : Exit.thenS _ _ = Q
  simp [wpOpsS, go_sem, recoverD, hu, Try.ntmps14]
  rw [← hQ]
  simp only [Exit.thenS]
  refine wpS_of_wp ?_
  clear hQ
  generalize hP : (fun (e : Exit) (a' : Act) (w' : World) => bodyPostS _ _ _ _ _ e a' _ w') = Q0
  rw [tmps59]
  have he : ∀ w, (binOp .eql 20 .nilIface .nilIface).run Try.prog w = .ok (.bool true) w := fun w => by kernel_rfl
  go_wp2_with fail
  subst hP
  simp [bodyPostS, results, Try.results14]
  cases c₀
  simp_all

/-- The world in which Try calls its function. -/
def tryW (w : World) (s : ByteArray) : World := ((w.alloc (.cells #[.int .i64 0] 26)).alloc (.cells #[.string s] 46)).alloc (.cells #[.pointer (some ⟨w.heap.size + 1, 0, none⟩)] 28)

set_option maxHeartbeats 1000000 in
set_option maxRecDepth 100000 in
theorem try_any {s : ByteArray} {k : FuncId} {cap : Array Value} {w : World} {S : List Nat} {Q : Int → World → Prop} (hS : ∀ b ∈ S, b < w.heap.size ∨ b = w.heap.size + 1) (hent : ∀ args w, (callFunc k args).run Try.prog w = .ok (.enter k args) w)
    (h : Calls Try.prog k (#[.pointer (some ⟨w.heap.size + 1, 0, none⟩)] ++ cap) (tryW w s) fun e w' => Touch S (tryW w s) w' ∧ (e = .returned (.tuple #[]) ∧ Q 0 w' ∨ ∃ er, e = .panicked [{ v := failV (w.heap.size + 1) er, recovered := false }] ∧ Q er w')) :
    Calls Try.prog 5 #[.string s, .func (.func k) #[] cap] w fun e w' => ∃ er w1, e = .returned (.int .i64 er) ∧ Q er w1 ∧ Touch S w w1 ∧ Touch [w.heap.size] w1 w' := by
  have hmf : ∀ (fn : Fn) (first cap : Array Value) (w : World), (Instr.makeFunc fn first cap).run Try.prog w = .ok (.func fn first cap) w := fun _ _ _ _ => rfl
  have HC := Lib.hid h
  clear h
  unfold tryW at HC
  have hnf : ∀ w, (binOp .eql 36 (.func (.func k) #[] cap) .nilFunc).run Try.prog w = .ok (.bool false) w := fun w => rfl
  go_enter_defers Try.func5, Try.ntmps5
  go_wp2_with fail
  refine (HC.out).mono ?_
  rintro e w1 ⟨ht, ⟨rfl, hq⟩ | ⟨er, rfl, hq⟩⟩
  · have l3 : w.heap.size + 2 < w1.heap.size := by have := ht.size; simp at this; omega
    have q4 : Box1 (((w.alloc (.cells #[.int .i64 0] 26)).alloc (.cells #[.string s] 46)).alloc (.cells #[.pointer (some ⟨w.heap.size + 1, 0, none⟩)] 28)) w.heap.size 26 (.int .i64 0) := ((Box1.new w 26 (.int .i64 0)).carry ((Touch.refl [] _).alloc _) (by simp)).carry ((Touch.refl [] _).alloc _) (by simp)
    have p4 := q4.carry ht (fun hm => by have := hS _ hm; omega)
    have c4 := p4.c0
    have f4 := p4.fr 0
    have T1 : Touch S w w1 := ((((Touch.refl S w).alloc _).alloc _).alloc _).trans ht (fun b hb => Or.inl hb)
    have F := Lib.hid (And.intro hq T1)
    clear HC hq T1 ht q4
    go_wp2_with fail
    refine leaves_cons (f := 14) (args := #[.pointer (some ⟨w.heap.size + 1 + 1, 0, none⟩), .pointer (some ⟨w.heap.size, 0, none⟩)]) (by simp) (by simp [go_sem]) ?_
    refine (catch_none w.heap.size (w.heap.size + 1 + 1) _).mono ?_
    rintro e u' w'' ⟨rfl, rfl, rfl⟩
    have p5 := p4.set0 (.int .i64 0)
    have c5 := p5.c0
    simp [Leaves, settle, results, Try.results5, go_sem, c5]
    exact ⟨w1, F.out.1, F.out.2, (Touch.refl _ _).setCell (Or.inl (by simp)) _⟩
  · have q4 : Box1 (((w.alloc (.cells #[.int .i64 0] 26)).alloc (.cells #[.string s] 46)).alloc (.cells #[.pointer (some ⟨w.heap.size + 1, 0, none⟩)] 28)) w.heap.size 26 (.int .i64 0) := ((Box1.new w 26 (.int .i64 0)).carry ((Touch.refl [] _).alloc _) (by simp)).carry ((Touch.refl [] _).alloc _) (by simp)
    have q5 : Box1 (((w.alloc (.cells #[.int .i64 0] 26)).alloc (.cells #[.string s] 46)).alloc (.cells #[.pointer (some ⟨w.heap.size + 1, 0, none⟩)] 28)) (w.heap.size + 1 + 1) 28 (.pointer (some ⟨w.heap.size + 1, 0, none⟩)) := by
      have := Box1.new ((w.alloc (.cells #[.int .i64 0] 26)).alloc (.cells #[.string s] 46)) 28 (.pointer (some ⟨w.heap.size + 1, 0, none⟩))
      rwa [show ((w.alloc (.cells #[.int .i64 0] 26)).alloc (.cells #[.string s] 46)).heap.size = w.heap.size + 1 + 1 by simp] at this
    have p4 := q4.carry ht (fun hm => by have := hS _ hm; omega)
    have p5 := q5.carry ht (fun hm => by have := hS _ hm; omega)
    have T1 : Touch S w w1 := ((((Touch.refl S w).alloc _).alloc _).alloc _).trans ht (fun b hb => Or.inl hb)
    have F := Lib.hid (And.intro hq T1)
    clear HC hq T1 ht q4 q5
    refine leaves_cons (f := 14) (args := #[.pointer (some ⟨w.heap.size + 1 + 1, 0, none⟩), .pointer (some ⟨w.heap.size, 0, none⟩)]) (by simp) (by simp [go_sem]) ?_
    refine (catch_fail w.heap.size (w.heap.size + 1 + 1) (w.heap.size + 1) 0 er [] _ p4 p5).mono ?_
    rintro e u' w'' ⟨rfl, rfl, hb, t2⟩
    have c5 := hb.c0
    simp [Leaves, settle, results, Try.results5, go_sem, c5]
    exact ⟨w1, F.out.1, F.out.2, t2⟩
end Go.Proofs.Ytpmnnaghadpnnaa
