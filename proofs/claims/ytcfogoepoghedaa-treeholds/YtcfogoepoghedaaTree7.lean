/-
  Layer 18 (tree): a child goes onto its parent's list (the region of rooted that draws its order).
-/
import Derived.Test.YtcfogoepoghedaaTree6
import Derived.Test.YtcfogoepoghedaaPhi9
import Derived.Maps.AppendAt
namespace Go.Proofs.Ytcfogoepoghedaa
open Go.ChangeShapes Go.WideShapes Go.ChangeAt Go.RowKit Go.Deep Go.Maps
set_option linter.unusedVariables false
set_option linter.unusedSimpArgs false
theorem dep_fK {o : Oper} {f : Nat → Bool} (hf : ∀ e ∈ o.after, Region.binds .any e = true → f e.on = true) (j : Nat) (hb : (o.after.any fun e => (e.on == j) && Region.binds .any e) = true) : f j = true := by
  rw [Array.any_eq_true'] at hb
  obtain ⟨e, he, h⟩ := hb
  simp only [Bool.and_eq_true, beq_iff_eq] at h
  have := hf e he h.2
  rwa [h.1] at this
/-- A literal of one id, made since wd. -/
def KidNew (wd : World) (x : Int) (v : Value) (w : World) : Prop := ∃ g, v = .slice (some ⟨g, 0, none⟩) 1 1 ∧ wd.heap.size ≤ g ∧ ∀ j u, ([.int .i64 x] : List Value)[j]? = some u → w.cell? ((⟨g, 0, none⟩ : Addr).add j) = some u
theorem KidNew.stab {wd : World} {x : Int} {S : List Nat} (hS : ∀ y ∈ S, y < wd.heap.size) : StabS S (KidNew wd x) := fun v w w' ⟨g, h0, h1, h2⟩ t => ⟨g, h0, h1, fun j u hj => by
  have hc := h2 j u hj
  have e : ((⟨g, 0, none⟩ : Addr).add j) = ⟨g, 0 + j, none⟩ := by unfold Addr.add; split <;> simp_all
  rw [e] at hc ⊢
  exact (t.cell (a := ⟨g, 0 + j, none⟩) (cell_lt hc) (fun hm => by have := hS _ hm; simp at this; omega)).trans hc⟩
theorem kidNew_new {wd w : World} (x : Int) (h : wd.heap.size ≤ w.heap.size) : KidNew wd x (.slice (some ⟨w.heap.size, 0, none⟩) 1 1) (w.alloc (.cells #[.int .i64 x] 3)) :=
  ⟨_, rfl, h, World.news_of_block (cs := #[.int .i64 x]) (t := 3) (fr := (0, 0)) (heap_alloc_new w _)⟩
theorem run_litK {a : Act} {o : Oper} {w : World} {s : Nat} {x : Int} (h : o.op = .buildSlice 31 1 #[(0, .tmp s)]) (hs : a.tmps[s]?.getD undef = .int .i64 x) : (execOp a.eval o).run Try.prog w = .ok (.value (.slice (some ⟨w.heap.size, 0, none⟩) 1 1)) (w.alloc (.cells #[.int .i64 x] 3)) := by
  unfold execOp
  rw [h]
  simp [go_sem, hs]
theorem run_appendK {P : Program} {a : Act} {o : Oper} {w w2 : World} {s x t : Nat} {v u v2 : Value} (h : o.op = .call { callee := .builtin .append, args := #[.tmp s, .tmp x], argTypes := #[t, t] }) (hs : a.eval (.tmp s) = v) (hx : a.eval (.tmp x) = u)
    (hr : (Builtin.append_ #[t, t] o.type #[v, u]).run P w = .ok v2 w2) : (execOp a.eval o).run P w = .ok (.value v2) w2 := by
  unfold execOp
  simp only [h, resolve, invoke, builtin, Sem.run_bind, Sem.run_pure, Result.andThen_ok, List.map_toArray, List.map_cons, List.map_nil, hs, hx, hr]
section
variable {P : Program} {ops : Array Oper}
theorem doJ_update {S : List Nat} {o : Oper} {a : Act} {w w2 : World} {φ : Value → World → Prop} (hw : Region.wanted o (yielded ops a.tmps) = true) {ty : TypeId} {m x y : Operand} (ho : o.op = .mapUpdate ty m x y) {mv kv ev : Value} (hm : a.eval m = mv) (hx : a.eval x = kv) (hy : a.eval y = ev)
    (hr : (Instr.mapUpdate ty mv kv ev).run P w = .ok () w2) (t : Touch S w w2) (h : φ undef w2) : DoesJ P ops S φ (fun _ => True) o a w := by
  refine .inl ⟨hw, ?_⟩
  unfold execOp
  simp only [ho, hm, hx, hy, Sem.run_bind, Sem.run_pure, Result.andThen_ok, hr]
  exact ⟨h, trivial, t⟩
end
/-- What is through, and what is in memory then. -/
structure KidJ (bK sK : Nat) (V : Int → Option Value) (par : Int) (base : Nat) (v : Value) (n : Nat) (xs : List Int) (x : Int) (size : Nat) (f : Nat → Bool) (a : Act) (w : World) : Prop where
  map : f 14 = false → IMap Try.prog 3 w bK sK V
  row : f 13 = false → w.ownsRow base 3 1 v n (zv xs)
  made : f 13 = true → w.ownsRow base 3 1 (a.tmps.getD 51 undef) (n + 1) (zv (xs ++ [x])) ∧ ((a.tmps.getD 51 undef).ownBlock = v.ownBlock ∨ ∃ g, (a.tmps.getD 51 undef).ownBlock = some g ∧ size ≤ g)
  done : f 14 = true → (∃ s', s' ≤ sK + 1 ∧ IMap Try.prog 3 w bK s' (put V par (some (a.tmps.getD 51 undef)))) ∧ ∀ j, j < 14 → f j = true
section
variable {bK sK base n size : Nat} {V : Int → Option Value} {par x : Int} {v : Value} {xs : List Int} {f : Nat → Bool} {a : Act} {w w' : World}
theorem KidJ.not14 (h : KidJ bK sK V par base v n xs x size f a w) {j : Nat} (hj : j < 14) (hfj : f j = false) : f 14 = false := by
  cases hf : f 14 with
  | false => rfl
  | true =>
    have := (h.done hf).2 j hj
    rw [hfj] at this
    cases this
theorem KidJ.keep (h : KidJ bK sK V par base v n xs x size f a w) (t : Touch [] w w') {i d : Nat} (h13 : i ≠ 13) (h14 : i ≠ 14) (hd : d ≠ 51) (u : Value) : KidJ bK sK V par base v n xs x size (mark f i) (a.put (some d) u) w' := by
  have e13 : mark f i 13 = f 13 := mark_other f (Ne.symm h13)
  have e14 : mark f i 14 = f 14 := mark_other f (Ne.symm h14)
  refine ⟨fun hf => ?_, fun hf => ?_, fun hf => ?_, fun hf => ?_⟩
  · rw [e14] at hf
    exact (h.map hf).carry t (by simp)
  · rw [e13] at hf
    exact t.row (h.row hf) (by simp)
  · rw [e13] at hf
    rw [getD_put_other hd]
    obtain ⟨h1, h2⟩ := h.made hf
    exact ⟨t.row h1 (by simp), h2⟩
  · rw [e14] at hf
    rw [getD_put_other hd]
    obtain ⟨⟨s', hs, hm⟩, hall⟩ := h.done hf
    refine ⟨⟨s', hs, hm.carry t (by simp)⟩, fun j hj => ?_⟩
    by_cases hji : j = i
    · rw [hji, mark_same]
    · rw [mark_other f hji]
      exact hall j hj
theorem KidJ.app (h : KidJ bK sK V par base v n xs x size f a w) (hfi : f 13 = false) {u : Value} (hr : w'.ownsRow base 3 1 u (n + 1) (zv xs ++ [.int .i64 x])) (hu : u.ownBlock = v.ownBlock ∨ ∃ g, u.ownBlock = some g ∧ size ≤ g) (t : Touch v.ownBlock.toList w w') (hsz : 51 < a.tmps.size) (hb : bK ∉ v.ownBlock.toList) : KidJ bK sK V par base v n xs x size (mark f 13) (a.put (some 51) u) w' := by
  have f14 := h.not14 (by omega) hfi
  have e14 : mark f 13 14 = false := by rw [mark_other f (by decide), f14]
  refine ⟨fun _ => (h.map f14).carry t hb, fun hf => ?_, fun _ => ?_, fun hf => ?_⟩
  · rw [mark_same] at hf
    cases hf
  · rw [getD_put_same hsz]
    exact ⟨by rw [zv_append]; exact hr, hu⟩
  · rw [e14] at hf
    cases hf
theorem KidJ.upd (h : KidJ bK sK V par base v n xs x size f a w) (hf13 : f 13 = true) {u : Value} (he : a.eval (.tmp 51) = u) (hm : IMap Try.prog 3 w' bK (if (V par).isSome then sK else sK + 1) (put V par (some u))) (t : Touch [bK] w w') (hall : ∀ j, j < 14 → f j = true) (hbK : bK < base) : KidJ bK sK V par base v n xs x size (mark f 14) (a.put none undef) w' := by
  have e13 : mark f 14 13 = true := by rw [mark_other f (by decide), hf13]
  have eu : a.tmps.getD 51 undef = u := by rw [← he]; simp [Act.eval]
  have ep : (a.put none undef) = a := rfl
  rw [ep]
  obtain ⟨s2, hs2, hm2⟩ : ∃ s2, s2 ≤ sK + 1 ∧ IMap Try.prog 3 w' bK s2 (put V par (some u)) := ⟨_, by split <;> omega, hm⟩
  refine ⟨fun hf => ?_, fun hf => ?_, fun _ => ?_, fun _ => ⟨⟨s2, hs2, by rw [eu]; exact hm2⟩, fun j hj => ?_⟩⟩
  · rw [mark_same] at hf
    cases hf
  · rw [e13] at hf
    cases hf
  · obtain ⟨h1, h2⟩ := h.made hf13
    exact ⟨t.row h1 (fun g hg hmem => by have := rowBase h1 hg; simp at hmem; omega), h2⟩
  · rw [mark_other f (by omega)]
    exact hall j hj
theorem kid_start (hf : ∀ j, f j = false) (hm : IMap Try.prog 3 w bK sK V) (hr : w.ownsRow base 3 1 v n (zv xs)) : KidJ bK sK V par base v n xs x size f a w :=
  ⟨fun _ => hm, fun _ => hr, (fun h => by rw [hf] at h; cases h), (fun h => by rw [hf] at h; cases h)⟩
end
end Go.Proofs.Ytcfogoepoghedaa
