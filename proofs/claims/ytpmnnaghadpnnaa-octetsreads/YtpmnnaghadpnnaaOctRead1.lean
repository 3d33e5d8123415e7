/-
  OctetsReads: what is read, step by step; a call of a Go function at a step of a region that draws its order.
-/
import Derived.Test.YtpmnnaghadpnnaaOctStep
import Derived.Test.YtpmnnaghadpnnaaAppendIn
import Derived.Test.YtpmnnaghadpnnaaPhi3
namespace Go.Proofs.Ytpmnnaghadpnnaa
open Go.ChangeShapes Go.WideShapes Go.ChangeAt Go.RowKit Go.Deep
set_option linter.unusedVariables false
set_option linter.unusedSimpArgs false
/-- What is left before step j, if all went well until then. -/
def restQ (X : Nat → Int × Int) (l : List UInt8) : Nat → Option (List UInt8)
  | 0 => some l
  | j + 1 => match restQ X l j with
    | some m => match stepQ (X j).1 (X j).2 m with
      | .ok (_, m') => some m'
      | .error _ => none
    | none => none
def toldQ (X : Nat → Int × Int) (l : List UInt8) (j : Nat) : Tld := match restQ X l j with
  | some m => match stepQ (X j).1 (X j).2 m with
    | .ok (t, _) => t
    | .error _ => Tld.zero
  | none => Tld.zero
def leftQ (X : Nat → Int × Int) (l : List UInt8) (j : Nat) : Int := match restQ X l (j + 1) with
  | some m => (m.length : Int)
  | none => 0
section
variable {X : Nat → Int × Int} {l m m' : List UInt8} {j : Nat} {t : Tld}
theorem restQ_next (h : restQ X l j = some m) (hs : stepQ (X j).1 (X j).2 m = .ok (t, m')) : restQ X l (j + 1) = some m' ∧ toldQ X l j = t ∧ leftQ X l j = (m'.length : Int) := by
  have e : restQ X l (j + 1) = some m' := by simp only [restQ, h, hs]
  refine ⟨e, by simp only [toldQ, h, hs], ?_⟩
  unfold leftQ
  rw [e]
theorem restQ_len : ∀ {j : Nat} {m : List UInt8}, restQ X l j = some m → m.length ≤ l.length
  | 0, m, h => by cases h; exact Nat.le_refl _
  | j + 1, m, h => by
    simp only [restQ] at h
    cases h1 : restQ X l j with
    | none => rw [h1] at h; cases h
    | some q =>
      rw [h1] at h
      cases h2 : stepQ (X j).1 (X j).2 q with
      | error k => simp only [h2] at h; cases h
      | ok r =>
        obtain ⟨t, m'⟩ := r
        simp only [h2] at h
        cases h
        exact Nat.le_trans (stepQ_len h2) (restQ_len h1)
end
/-- The cells of the first j that were told. -/
def tvs (f : Nat → Tld) (j : Nat) : List Value := (List.range j).flatMap fun i => (f i).cells.toList
theorem tvs_next (f : Nat → Tld) (j : Nat) : tvs f (j + 1) = tvs f j ++ (f j).cells.toList := by simp [tvs, List.range_succ]
theorem tvs_length (f : Nat → Tld) : ∀ j, (tvs f j).length = j * 4
  | 0 => rfl
  | j + 1 => by rw [tvs_next, List.length_append, tvs_length f j]; simp [Tld.cells]; omega
theorem tvs_get (f : Nat → Tld) : ∀ {j i t : Nat}, i < j → t < 4 → (tvs f j)[i * 4 + t]? = (f i).cells.toList[t]?
  | 0, i, t, h, _ => absurd h (Nat.not_lt_zero _)
  | j + 1, i, t, h, ht => by
    rw [tvs_next]
    rcases Nat.lt_or_ge i j with h' | h'
    · rw [List.getElem?_append_left (by rw [tvs_length]; omega)]
      exact tvs_get f h' ht
    · obtain rfl : i = j := by omega
      rw [List.getElem?_append_right (by rw [tvs_length]; omega), tvs_length]
      congr 1
      omega
theorem Tld.ones (t : Tld) : ∀ u ∈ t.cells.toList, u.oneCell' = true := by
  intro u hu
  simp [Tld.cells] at hu
  rcases hu with rfl | rfl | rfl | rfl <;> rfl
theorem told_info : (Try.prog.info? 33).map (fun i => (i.zero, i.size, i.bytes)) = some (some (.agg #[.int .u64 0, .float .f64 0, .string ⟨#[]⟩, .bool false]), 4, 40) := by kernel_rfl
theorem oint_info : (Try.prog.info? 3).map (fun i => (i.zero, i.size, i.bytes)) = some (some (.int .i64 0), 1, 8) := by kernel_rfl
/-- A call of a Go function, at a step of a region that draws. -/
theorem step_enter {P : Program} (w : World) {ops : Array Oper} {o : Oper} {a : Act} {K : Act → World → Prop} {Q : Exit → Act → World → Prop} {E : Prop} (hgd : o.guard = none) {f : FuncId} {args : Array Value} {post : Ending → World → Prop}
    (hrun : (execOp a.eval o).run P w = .ok (.enter f args) w) (h : Calls P f args w post)
    (hk : ∀ e w', post e w' → match e with | .returned v => K (a.put o.dst v) w' | .panicked c => Q (.panic c) a w' | .outgrown => LetsOut Q) :
    if Region.wanted o (yielded ops a.tmps) = true then Oper.wp P o a w K Q else E := by
  have hw : Region.wanted o (yielded ops a.tmps) = true := by simp [Region.wanted, hgd]
  rw [if_pos hw]
  unfold Oper.wp
  rw [hrun]
  refine h.mono fun e w' he => ?_
  have := hk e w' he
  cases e <;> exact this
theorem ent_one (args : Array Value) (w : World) : (callFunc 7 args).run Try.prog w = .ok (.enter 7 args) w := by
  simp [callFunc, Try.func7]
  rfl
theorem ent_left (args : Array Value) (w : World) : (callFunc 8 args).run Try.prog w = .ok (.enter 8 args) w := by
  simp [callFunc, Try.func8]
  rfl
theorem did_cases {p : Nat} {w w' : World} {r : Made} {e : Ending} (h : Did p w r e w') :
    (∃ k, r = .error k ∧ e = .panicked [{ v := failV p k, recovered := false }] ∧ Touch [p] w w') ∨ ∃ t m, r = .ok (t, m) ∧ e = .returned t.val ∧ At w' p m ∧ Touch [p] w w' := by
  cases r with
  | error k => exact .inl ⟨k, rfl, h.1, h.2⟩
  | ok q =>
    obtain ⟨t, m⟩ := q
    exact .inr ⟨t, m, rfl, h.1, h.2.1, h.2.2⟩
theorem row_is {w : World} {base : Nat} {e : TypeId} {size n : Nat} {v : Value} {xs : List Value} (h : w.ownsRow base e size v n xs) : ∃ A c, v = .slice A n c := by
  rcases h.2 with ⟨rfl, h0⟩ | ⟨g', cap, cur, rfl, h2, hh, h3, h4, h5⟩
  · exact ⟨none, 0, by rw [h0]⟩
  · exact ⟨_, _, rfl⟩
/-- What the closure keeps: the two variables, whose rows are the closure's own. -/
structure Kp (B p bg bl : Nat) (f : Nat → Tld) (g : Nat → Int) (jg jl : Nat) (vg vl : Value) (w : World) : Prop where
  xg : Box1 w bg 24 vg
  xl : Box1 w bl 25 vl
  rg : w.ownsRow B 33 4 vg jg (tvs f jg)
  rl : w.ownsRow B 3 1 vl jl (iv g jl)
  ap : ∀ b, vg.ownBlock = some b → vl.ownBlock ≠ some b
  lo : p < B ∧ bg < B ∧ bl < B ∧ p ≠ bg ∧ p ≠ bl ∧ bg ≠ bl
  sz : B ≤ w.heap.size
section
variable {B p bg bl jg jl x : Nat} {f : Nat → Tld} {g : Nat → Int} {v vg vl : Value} {w w' : World} {o : Obj}
theorem row_ge {base n size : Nat} {e : TypeId} {xs : List Value} (h : w.ownsRow base e size v n xs) {b : Nat} (hb : v.ownBlock = some b) : base ≤ b := (h.lt b hb).1
theorem Kp.reader (h : Kp B p bg bl f g jg jl vg vl w) (t : Touch [p] w w') : Kp B p bg bl f g jg jl vg vl w' := by
  have lo := h.lo
  exact ⟨h.xg.carry t (by simp; omega), h.xl.carry t (by simp; omega), t.row h.rg (fun b hb hm => by have := row_ge h.rg hb; simp at hm; omega), t.row h.rl (fun b hb hm => by have := row_ge h.rl hb; simp at hm; omega), h.ap, h.lo, Nat.le_trans h.sz t.size⟩
theorem Kp.new (h : Kp B p bg bl f g jg jl vg vl w) (t : Touch [] w w') : Kp B p bg bl f g jg jl vg vl w' := h.reader (t.mono (by simp))
theorem Kp.told (h : Kp B p bg bl f g jg jl vg vl w) (hg : (w.alloc o).grownBy w' vg.ownBlock) (ow : w'.ownsRow B 33 4 v (jg + 1) (tvs f jg ++ (f jg).cells.toList)) (hat : v.ownBlock = vg.ownBlock ∨ v.ownBlock = some (w.heap.size + 1)) :
    Box1 w' bg 24 vg ∧ Touch (bg :: vg.ownBlock.toList) w (w'.setCell ⟨bg, 0, none⟩ v) ∧ (∀ b ∈ vg.ownBlock.toList, B ≤ b) ∧ Kp B p bg bl f g (jg + 1) jl v vl (w'.setCell ⟨bg, 0, none⟩ v) := by
  have lo := h.lo
  have t : Touch vg.ownBlock.toList w w' := ((Touch.refl vg.ownBlock.toList w).alloc o).grown hg (by intro b hb; rw [hb]; simp)
  have hge : ∀ b ∈ vg.ownBlock.toList, B ≤ b := fun b hb => row_ge h.rg (by simpa using hb)
  have xg := h.xg.carry t (fun hm => by have := hge _ hm; omega)
  have xl := h.xl.carry t (fun hm => by have := hge _ hm; omega)
  have rl := t.row h.rl (fun b hb hm => by simp at hm; exact h.ap b hm hb)
  have ts : Touch [bg] w' (w'.setCell ⟨bg, 0, none⟩ v) := (Touch.refl _ _).setCell (a := ⟨bg, 0, none⟩) (.inl (by simp)) _
  refine ⟨xg, (t.mono (fun b hb => .inl (List.mem_cons_of_mem _ hb))).trans ts (fun b hb => .inl (by simp at hb; simp [hb])), hge, xg.set0 v, xl.carry ts (by simp; omega), ?_, ts.row rl (fun b hb hm => by have := row_ge h.rl hb; simp at hm; omega), fun b hb hl => ?_, lo, Nat.le_trans (Nat.le_trans h.sz t.size) ts.size⟩
  · rw [tvs_next]
    exact ts.row ow (fun b hb hm => by have := (ow.lt b hb).1; simp at hm; omega)
  · rcases hat with e | e
    · exact h.ap b (by rw [← e]; exact hb) hl
    · rw [e] at hb
      cases hb
      have := (h.rl.lt _ hl).2
      omega
theorem Kp.left (h : Kp B p bg bl f g jg jl vg vl w) (hg : (w.alloc o).grownBy w' vl.ownBlock) (ow : w'.ownsRow B 3 1 v (jl + 1) (iv g jl ++ [.int .i64 (g jl)])) (hat : v.ownBlock = vl.ownBlock ∨ v.ownBlock = some (w.heap.size + 1)) :
    Box1 w' bl 25 vl ∧ Touch (bl :: vl.ownBlock.toList) w (w'.setCell ⟨bl, 0, none⟩ v) ∧ (∀ b ∈ vl.ownBlock.toList, B ≤ b) ∧ Kp B p bg bl f g jg (jl + 1) vg v (w'.setCell ⟨bl, 0, none⟩ v) := by
  have lo := h.lo
  have t : Touch vl.ownBlock.toList w w' := ((Touch.refl vl.ownBlock.toList w).alloc o).grown hg (by intro b hb; rw [hb]; simp)
  have hge : ∀ b ∈ vl.ownBlock.toList, B ≤ b := fun b hb => row_ge h.rl (by simpa using hb)
  have xg := h.xg.carry t (fun hm => by have := hge _ hm; omega)
  have xl := h.xl.carry t (fun hm => by have := hge _ hm; omega)
  have rg := t.row h.rg (fun b hb hm => by simp at hm; exact h.ap b hb hm)
  have ts : Touch [bl] w' (w'.setCell ⟨bl, 0, none⟩ v) := (Touch.refl _ _).setCell (a := ⟨bl, 0, none⟩) (.inl (by simp)) _
  refine ⟨xl, (t.mono (fun b hb => .inl (List.mem_cons_of_mem _ hb))).trans ts (fun b hb => .inl (by simp at hb; simp [hb])), hge, xg.carry ts (by simp; omega), xl.set0 v, ts.row rg (fun b hb hm => by have := row_ge h.rg hb; simp at hm; omega), ?_, fun b hb hl => ?_, lo, Nat.le_trans (Nat.le_trans h.sz t.size) ts.size⟩
  · rw [iv_next']
    exact ts.row ow (fun b hb hm => by have := (ow.lt b hb).1; simp at hm; omega)
  · rcases hat with e | e
    · exact h.ap b hb (by rw [← e]; exact hl)
    · rw [e] at hl
      cases hl
      have := (h.rg.lt _ hb).2
      omega
end
end Go.Proofs.Ytpmnnaghadpnnaa
