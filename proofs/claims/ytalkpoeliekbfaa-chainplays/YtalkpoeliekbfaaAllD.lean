/-
  The contracts on which the law's proof rests, bound together in build order: AppendIn, Chain26, RefChain, RefChain2, RefChain3, Phi10, RefChain4, ChainBoth, Chain27, ChainPlaysMain.
-/
import Derived.Test.YtalkpoeliekbfaaAllA
import Derived.OwnWalk
import Derived.Deep.Upon
import Derived.Test.YtalkpoeliekbfaaAllC
import Derived.Great.BuildSlice
import Derived.Deep.LoopGhost
import Derived.Deep.CutBlock
import Derived.IntWalk
/-
  append at a step of a region that draws its order.
-/
namespace Go.Proofs.Ytalkpoeliekbfaa
open Go.ChangeShapes Go.WideShapes Go.ChangeAt Go.RowKit Go.Deep
set_option linter.unusedVariables false

/-- append onto a row of the call's own, at a step of a region that draws; nothing may be appended. -/
theorem step_append_own {P : Program} (w : World) {ops : Array Oper} {o : Oper} {a : Act} {K : Act → World → Prop} {Q : Exit → Act → World → Prop} {E : Prop} (hgd : o.guard = none) (s x : Operand) (t : TypeId)
    (ho : o.op = .call { callee := .builtin .append, args := #[s, x], argTypes := #[t, t] })
    (base : Nat) (e : TypeId) (i : TypeInfo) (z : Value) (size bytes : Nat) (ht : P.underlying t = some (.slice e)) (hi : P.info? e = some i) (hz : i.zero = some z)
    (hsize : i.size = size) (hby : i.bytes = bytes) (hzs : z.cells.size = size) (hsz : 0 < size)
    (v : Value) (n : Nat) (xs : List Value) (hs : a.eval s = v) (hown : w.ownsRow base e size v n xs)
    (ad : Addr) (m c : Nat) (news : List Value) (hx : a.eval x = .slice (some ad) m c) (hl : news.length = m * size) (hnews : ∀ j u, news[j]? = some u → w.cell? (ad.add j) = some u) (h1 : ∀ u ∈ news, u.oneCell' = true)
    (h63 : n + m ≤ maxLen) (hbytes : (n + m) * bytes ≤ 140737488355328) (hbase : base ≤ w.heap.size)
    (h : ∀ v' w', w'.ownsRow base e size v' (n + m) (xs ++ news) → w.grownBy w' v.ownBlock → (v'.ownBlock = v.ownBlock ∨ v'.ownBlock = some w.heap.size) → K (a.put o.dst v') w') :
    if Region.wanted o (yielded ops a.tmps) = true then Oper.wp P o a w K Q else E := by
  have hw : Region.wanted o (yielded ops a.tmps) = true := by simp [Region.wanted, hgd]
  rw [if_pos hw]
  obtain ⟨v', w', hr, h2, h3, h4, h5⟩ := run_append_own_at (P := P) w base t o.type e i z size bytes ht hi hz hsize hby hzs hsz v n xs hown ad m c news hl hnews h1 h63 hbytes hbase
  unfold Oper.wp execOp
  simp only [ho, resolve, invoke, builtin, Sem.run_bind, Sem.run_pure, Result.andThen_ok, List.map_toArray, List.map_cons, List.map_nil, hs, hx, hr]
  exact h v' w' h2 h3 h5

/-- The same, where what is appended may be a nil slice. -/
theorem step_append_ownA {P : Program} (w : World) {ops : Array Oper} {o : Oper} {a : Act} {K : Act → World → Prop} {Q : Exit → Act → World → Prop} {E : Prop} (hgd : o.guard = none) (s x : Operand) (t : TypeId)
    (ho : o.op = .call { callee := .builtin .append, args := #[s, x], argTypes := #[t, t] })
    (base : Nat) (e : TypeId) (i : TypeInfo) (z : Value) (size bytes : Nat) (ht : P.underlying t = some (.slice e)) (hi : P.info? e = some i) (hz : i.zero = some z)
    (hsize : i.size = size) (hby : i.bytes = bytes) (hzs : z.cells.size = size) (hsz : 0 < size)
    (v : Value) (n : Nat) (xs : List Value) (hs : a.eval s = v) (hown : w.ownsRow base e size v n xs)
    (A : Option Addr) (m c : Nat) (news : List Value) (hx : a.eval x = .slice A m c) (hA : A = none → m = 0) (hl : news.length = m * size) (hnews : ∀ ad, A = some ad → ∀ j u, news[j]? = some u → w.cell? (ad.add j) = some u) (h1 : ∀ u ∈ news, u.oneCell' = true)
    (h63 : n + m ≤ maxLen) (hbytes : (n + m) * bytes ≤ 140737488355328) (hbase : base ≤ w.heap.size)
    (h : ∀ v' w', w'.ownsRow base e size v' (n + m) (xs ++ news) → w.grownBy w' v.ownBlock → (v'.ownBlock = v.ownBlock ∨ v'.ownBlock = some w.heap.size) → K (a.put o.dst v') w') :
    if Region.wanted o (yielded ops a.tmps) = true then Oper.wp P o a w K Q else E := by
  cases A with
  | some ad => exact step_append_own w hgd s x t ho base e i z size bytes ht hi hz hsize hby hzs hsz v n xs hs hown ad m c news hx hl (hnews ad rfl) h1 h63 hbytes hbase h
  | none =>
    obtain rfl := hA rfl
    obtain rfl : news = [] := List.length_eq_zero_iff.1 (by omega)
    have hw : Region.wanted o (yielded ops a.tmps) = true := by simp [Region.wanted, hgd]
    rw [if_pos hw]
    obtain ⟨A', c', hv, hle⟩ : ∃ A' c', v = .slice A' n c' ∧ n ≤ c' := by
      rcases hown.2 with ⟨rfl, rfl⟩ | ⟨g', cap, cur, rfl, h2, hh, h3, h4, h5⟩
      · exact ⟨none, 0, rfl, Nat.le_refl _⟩
      · exact ⟨_, _, rfl, h3⟩
    subst hv
    have hr := run_append_nothing (P := P) w t t o.type e i ht hi A' n c' hle (.slice none 0 c) (by rw [hsize]; exact Src.ofNil _ ht c)
    unfold Oper.wp execOp
    simp only [ho, resolve, invoke, builtin, Sem.run_bind, Sem.run_pure, Result.andThen_ok, List.map_toArray, List.map_cons, List.map_nil, hs, hx, hr]
    refine h _ w (by simpa using hown) ⟨rfl, rfl, rfl, Nat.le_refl _, fun _ _ _ => rfl⟩ (.inl rfl)
end Go.Proofs.Ytalkpoeliekbfaa

/-
  Layer 7 (chain): ChainOrders' state: two rows of the call's own, the lists, and what came in.
-/
namespace Go.Proofs.Ytalkpoeliekbfaa
open Go.ChangeShapes Go.WideShapes Go.ChangeAt Go.RowKit Go.Deep
set_option linter.unusedVariables false
set_option linter.unusedSimpArgs false
/-- The first n booleans of a slice lie in old memory as f says. -/
def BoolCells (w : World) (B : Nat) (A : Option Addr) (n : Nat) (f : Nat → Bool) : Prop := ∀ i, i < n → ∃ b off, A = some ⟨b, off, none⟩ ∧ b < B ∧ w.cell? ⟨b, off + i, none⟩ = some (.bool (f i))
theorem BoolCells.carry {w w' : World} {B n : Nat} {A : Option Addr} {f : Nat → Bool} {S : List Nat} (h : BoolCells w B A n f) (t : Touch S w w') (hB : B ≤ w.heap.size) (hS : ∀ b ∈ S, B ≤ b) : BoolCells w' B A n f := fun i hi => by
  obtain ⟨b, off, hA, hb, hc⟩ := h i hi
  exact ⟨b, off, hA, hb, (t.cell (a := ⟨b, off + i, none⟩) (show b < w.heap.size by omega) (fun hm => by have := hS b hm; omega)).trans hc⟩
/-- A pushed row of the call's own, and another one apart from it. -/
structure Two (B : Nat) (v1 v2 : Value) (L1 L2 : List Nat) (w : World) : Prop where
  r1 : w.ownsRow B 3 1 v1 L1.length (nv L1)
  r2 : w.ownsRow B 3 1 v2 L2.length (nv L2)
  ap : ∀ g, v1.ownBlock = some g → v2.ownBlock ≠ some g
section
variable {B x : Nat} {v v' v1 v2 : Value} {L1 L2 M1 M2 : List Nat} {w w' : World} {o : Obj} {S : List Nat}
theorem Two.swap (h : Two B v1 v2 L1 L2 w) : Two B v2 v1 L2 L1 w := ⟨h.r2, h.r1, fun g h2 h1 => h.ap g h1 h2⟩
theorem Two.carry (h : Two B v1 v2 L1 L2 w) (t : Touch S w w') (hS : ∀ b ∈ S, b < B) : Two B v1 v2 L1 L2 w' :=
  ⟨t.row h.r1 (fun g hg hm => by have := own_base h.r1 hg; have := hS g hm; omega), t.row h.r2 (fun g hg hm => by have := own_base h.r2 hg; have := hS g hm; omega), h.ap⟩
theorem Two.first (h : Two B v1 v2 L1 L2 w) (hg : (w.alloc o).grownBy w' v1.ownBlock) (ow : w'.ownsRow B 3 1 v (L1.length + 1) (nv L1 ++ [.int .i64 (x : Int)])) (hat : v.ownBlock = v1.ownBlock ∨ v.ownBlock = some (w.heap.size + 1)) :
    Two B v v2 (L1 ++ [x]) L2 w' ∧ Touch v1.ownBlock.toList w w' ∧ ∀ b ∈ v1.ownBlock.toList, B ≤ b := by
  have t : Touch v1.ownBlock.toList w w' := ((Touch.refl v1.ownBlock.toList w).alloc o).grown hg (by intro b hb; rw [hb]; simp)
  refine ⟨⟨by rw [nv_append, List.length_append]; exact ow, t.row h.r2 (fun g hg hm => ?_), fun g hg => ?_⟩, t, fun b hb => ?_⟩
  · simp at hm
    exact h.ap g hm hg
  · rcases hat with e | e
    · exact h.ap g (by rw [← e]; exact hg)
    · rw [e] at hg
      cases hg
      intro h2
      have := own_lt h.r2 h2
      omega
  · exact own_base h.r1 (by simpa using hb)
/-- What ChainOrders knows between its steps. -/
structure OSt (W : World) (B p gn gw gl cn cw cl bm : Nat) (most : Int) (A : Option Addr) (n : Nat) (f : Nat → Bool) (X : Nat → List Nat) (v1 v2 : Value) (L1 L2 : List Nat) (w : World) : Prop where
  two : Two B v1 v2 L1 L2 w
  ch : Chained w p gn gw gl 60 cn cw 2 cl X
  t : Touch [] W w
  sz : B ≤ w.heap.size
  cells : BoolCells w W.heap.size A n f
  box : Box1 w bm 3 (.int .i64 most)
  lo : ∀ b ∈ [p, gn, gw, gl], W.heap.size < b ∧ b < B ∧ b ≠ bm
  bm : W.heap.size ≤ bm ∧ bm < B
variable {W : World} {p gn gw gl cn cw cl bm n : Nat} {most : Int} {A : Option Addr} {f : Nat → Bool} {X X' : Nat → List Nat}
theorem OSt.new (h : OSt W B p gn gw gl cn cw cl bm most A n f X v1 v2 L1 L2 w) (t : Touch [] w w') : OSt W B p gn gw gl cn cw cl bm most A n f X v1 v2 L1 L2 w' :=
  ⟨h.two.carry t (by simp), h.ch.new t, h.t.trans t (by simp), Nat.le_trans h.sz t.size, h.cells.carry t h.t.size (by simp), h.box.carry t (by simp), h.lo, h.bm⟩
theorem OSt.lists (h : OSt W B p gn gw gl cn cw cl bm most A n f X v1 v2 L1 L2 w) (hc : Chained w' p gn gw gl 60 cn cw 2 cl X') (t : Touch [gn, gw, gl] w w') : OSt W B p gn gw gl cn cw cl bm most A n f X' v1 v2 L1 L2 w' := by
  have hlo : ∀ b ∈ [gn, gw, gl], W.heap.size < b ∧ b < B ∧ b ≠ bm := fun b hb => h.lo b (List.mem_cons_of_mem _ hb)
  exact ⟨h.two.carry t (fun b hb => (hlo b hb).2.1), hc, h.t.trans t (fun b hb => .inr (by have := hlo b hb; omega)), Nat.le_trans h.sz t.size, h.cells.carry t h.t.size (fun b hb => by have := hlo b hb; omega), h.box.carry t (fun hm => (hlo bm hm).2.2 rfl), h.lo, h.bm⟩
theorem OSt.other (h : OSt W B p gn gw gl cn cw cl bm most A n f X v1 v2 L1 L2 w) (h2 : Two B v v' M1 M2 w') (t : Touch S w w') (hS : ∀ b ∈ S, B ≤ b) : OSt W B p gn gw gl cn cw cl bm most A n f X v v' M1 M2 w' := by
  have hb := h.bm
  have hlo := h.lo
  exact ⟨h2, h.ch.carry t (fun b hb hm => by have := hS b hm; have := hlo b hb; omega), h.t.trans t (fun b hb' => .inr (by have := hS b hb'; omega)), Nat.le_trans h.sz t.size, h.cells.carry t h.t.size (fun b hb' => by have := hS b hb'; omega), h.box.carry t (fun hm => by have := hS bm hm; omega), h.lo, h.bm⟩
theorem OSt.first (h : OSt W B p gn gw gl cn cw cl bm most A n f X v1 v2 L1 L2 w) (hg : (w.alloc o).grownBy w' v1.ownBlock) (ow : w'.ownsRow B 3 1 v (L1.length + 1) (nv L1 ++ [.int .i64 (x : Int)])) (hat : v.ownBlock = v1.ownBlock ∨ v.ownBlock = some (w.heap.size + 1)) :
    OSt W B p gn gw gl cn cw cl bm most A n f X v v2 (L1 ++ [x]) L2 w' := by
  obtain ⟨h1, h2, h3⟩ := h.two.first hg ow hat
  exact h.other h1 h2 h3
theorem OSt.second (h : OSt W B p gn gw gl cn cw cl bm most A n f X v1 v2 L1 L2 w) (hg : (w.alloc o).grownBy w' v2.ownBlock) (ow : w'.ownsRow B 3 1 v (L2.length + 1) (nv L2 ++ [.int .i64 (x : Int)])) (hat : v.ownBlock = v2.ownBlock ∨ v.ownBlock = some (w.heap.size + 1)) :
    OSt W B p gn gw gl cn cw cl bm most A n f X v1 v L1 (L2 ++ [x]) w' := by
  obtain ⟨h1, h2, h3⟩ := h.two.swap.first hg ow hat
  exact h.other h1.swap h2 h3
end
/-- What is left of the joined lists after k nodes. -/
def popX (Y : List Nat) (k : Nat) : Nat → List Nat := fun i => if i = 0 then Y.drop k else []
theorem popX_zero (Y : List Nat) (k : Nat) : popX Y k 0 = Y.drop k := rfl
theorem popX_one (Y : List Nat) (k : Nat) : popX Y k 1 = [] := rfl
theorem popX_next (Y : List Nat) (k : Nat) : setL (popX Y k) 0 (Y.drop (k + 1)) = popX Y (k + 1) := by
  funext i
  unfold setL popX
  split <;> rfl
theorem joinX_two (f : Nat → Bool) (n : Nat) : joinX (twoX f n) 0 1 = popX (pick f n ++ pick (fun j => ! f j) n) 0 := by
  funext i
  unfold joinX setL popX twoX
  rcases (show i = 0 ∨ i = 1 ∨ (i ≠ 0 ∧ i ≠ 1) by omega) with rfl | rfl | ⟨h0, h1⟩ <;> simp [*]
theorem joinX_none (X : Nat → List Nat) {a c : Nat} (h : X c = []) : joinX X a c = X := by
  funext i
  unfold joinX setL
  by_cases hc : i = c
  · subst hc; simp [h]
  · by_cases ha : i = a
    · subst ha; simp [hc, h]
    · simp [hc, ha]
theorem pick_all (f : Nat → Bool) (n : Nat) : (pick f n).length + (pick (fun j => ! f j) n).length = n := by
  induction n with
  | zero => rfl
  | succ n ih =>
    rw [pick_succ, pick_succ]
    cases h : f n
    · simp; omega
    · simp; omega
namespace Chained
variable {w w' : World} {p gn gw gl n cn cw k cl a c x : Nat} {X : Nat → List Nat}
theorem join_any (h : Chained w p gn gw gl n cn cw k cl X) (hn : n ≤ 5000) (ha : a < k) (hc : c < k) (hac : a ≠ c) :
    Calls Try.prog 15 #[.pointer (some ⟨p, 0, none⟩), .int .i64 (a : Int), .int .i64 (c : Int)] w fun e w' => e = .returned (.bool true) ∧
      Chained w' p gn gw gl n cn cw k cl (joinX X a c) ∧ Touch [gn, gw, gl] w w' := by
  by_cases h0 : X c = []
  · refine (h.joinEmpty ha hc hac h0).mono ?_
    rintro e w' ⟨he, t⟩
    rw [joinX_none X h0]
    exact ⟨he, h.new t, t.mono (by simp)⟩
  · exact h.join_yes hn ha hc hac h0
theorem nodesC (h : Chained w p gn gw gl n cn cw k cl X) (hn : n ≤ 5000) (l : Int) :
    Calls Try.prog 50 #[.pointer (some ⟨p, 0, none⟩), .int .i64 l] w (NodesPost w (listOf k X l)) := by
  obtain ⟨N, V, E, h1, h2⟩ := h
  cases hl : inR l k
  · rw [listOf_no X hl]
    exact nodes_none _ _ w (Lib.hid (first_none h1 l (by rw [lenOf h2, listOf_no X hl]; rfl)))
  · obtain ⟨a, rfl, ha⟩ := inR_form hl
    rw [listOf_at X ha]
    have hle := nodup_len n _ (h2.nodup a ha) (h2.at_ a ha).lt
    exact nodes_any h1 a ha (X a) (h2.at_ a ha) (by omega)
end Chained
/-- append onto a row of the call's own; what is appended may be nil. -/
theorem wpList_append_ownA {P : Program} {w : World} {ops : Array Oper} {rest : List Oper} {o : Oper} {a : Act} {Q : Exit → Act → World → Prop} (hgd : o.guard = none) (s x : Operand) (t : TypeId)
    (ho : o.op = .call { callee := .builtin .append, args := #[s, x], argTypes := #[t, t] })
    (base : Nat) (e : TypeId) (i : TypeInfo) (z : Value) (size bytes : Nat) (ht : P.underlying t = some (.slice e)) (hi : P.info? e = some i) (hz : i.zero = some z)
    (hsize : i.size = size) (hby : i.bytes = bytes) (hzs : z.cells.size = size) (hsz : 0 < size)
    (v : Value) (n : Nat) (xs : List Value) (hs : a.eval s = v) (hown : w.ownsRow base e size v n xs)
    (A : Option Addr) (m c : Nat) (news : List Value) (hx : a.eval x = .slice A m c) (hA : A = none → m = 0) (hl : news.length = m * size) (hnews : ∀ ad, A = some ad → ∀ j u, news[j]? = some u → w.cell? (ad.add j) = some u) (h1 : ∀ u ∈ news, u.oneCell' = true)
    (h63 : n + m ≤ maxLen) (hbytes : (n + m) * bytes ≤ 140737488355328) (hbase : base ≤ w.heap.size)
    (h : ∀ v' w', w'.ownsRow base e size v' (n + m) (xs ++ news) → w.grownBy w' v.ownBlock → (v'.ownBlock = v.ownBlock ∨ v'.ownBlock = some w.heap.size) → wpList P ops Q rest (a.put o.dst v') w') :
    wpList P ops Q (o :: rest) a w := by
  cases A with
  | some ad => exact wpList_append_own_at w hgd s x t ho base e i z size bytes ht hi hz hsize hby hzs hsz v n xs hs hown ad m c news hx hl (hnews ad rfl) h1 h63 hbytes hbase (fun v' w' k1 k2 _ k4 => h v' w' k1 k2 k4)
  | none =>
    obtain rfl := hA rfl
    obtain rfl : news = [] := List.length_eq_zero_iff.1 (by omega)
    obtain ⟨A', c', hv, hle⟩ : ∃ A' c', v = .slice A' n c' ∧ n ≤ c' := by
      rcases hown.2 with ⟨rfl, rfl⟩ | ⟨g', cap, cur, rfl, h2, hh, h3, h4, h5⟩
      · exact ⟨none, 0, rfl, Nat.le_refl _⟩
      · exact ⟨_, _, rfl, h3⟩
    subst hv
    have hr := run_append_nothing (P := P) w t t o.type e i ht hi A' n c' hle (.slice none 0 c) (by rw [hsize]; exact Src.ofNil _ ht c)
    refine wpList_plain hgd fun K hK => ?_
    unfold Oper.wp execOp
    simp only [ho, resolve, invoke, builtin, Sem.run_bind, Sem.run_pure, Result.andThen_ok, List.map_toArray, List.map_cons, List.map_nil, hs, hx, hr]
    exact hK _ _ (h _ w (by simpa using hown) ⟨rfl, rfl, rfl, Nat.le_refl _, fun _ _ _ => rfl⟩ (.inl rfl))
theorem own_news {w : World} {base n c : Nat} {e : TypeId} {A : Option Addr} {xs : List Value} (h : w.ownsRow base e 1 (.slice A n c) n xs) :
    (A = none → n = 0) ∧ ∀ ad, A = some ad → ∀ j u, xs[j]? = some u → w.cell? (ad.add j) = some u := by
  rcases h.2 with ⟨hv, hn⟩ | ⟨g, cap, cur, hv, hg, hh, h2, h3, h4, h5⟩
  · simp only [Value.slice.injEq] at hv
    exact ⟨fun _ => hv.2.1, fun ad h' => by rw [hv.1] at h'; cases h'⟩
  · simp only [Value.slice.injEq, true_and] at hv
    obtain ⟨rfl, rfl⟩ := hv
    refine ⟨fun h' => (by cases h'), fun ad h' j u hj => ?_⟩
    cases h'
    have hjl := (List.getElem?_eq_some_iff.1 hj).1
    have hx := h.1
    rw [show (⟨g, 0, none⟩ : Addr).add j = ⟨g, j, none⟩ by unfold Addr.add; split <;> simp_all]
    rw [h.cellAt j (by omega)]
    exact hj
end Go.Proofs.Ytalkpoeliekbfaa

/-
  The reference of layer 7 (chain): lists of nodes in slices that are read, never written; is, Of, In.
-/
namespace Go.Proofs.Ytalkpoeliekbfaa
open Go.ChangeShapes Go.WideShapes Go.ChangeAt Go.RowKit Go.Deep
set_option linter.unusedVariables false
set_option linter.unusedSimpArgs false

/-- A slice that holds the nodes l, away from the blocks Z. -/
def LNat (Z : List Nat) (w : World) (v : Value) (l : List Nat) : Prop :=
  ∃ A c, v = .slice A l.length c ∧ l.length ≤ c ∧ c ≤ maxLen ∧ ∀ i, i < l.length → ∃ b off, A = some ⟨b, off, none⟩ ∧ b < w.heap.size ∧ b ∉ Z ∧ w.cell? ⟨b, off + i, none⟩ = some (.int .i64 (ati l i))
section
variable {Z Z' S : List Nat} {w w' : World} {v : Value} {l : List Nat} {x : Nat}
theorem LNat.carry (h : LNat Z w v l) (t : Touch S w w') (hS : ∀ b ∈ S, b ∈ Z ∨ w.heap.size ≤ b) : LNat Z w' v l := by
  obtain ⟨A, c, hv, h1, h2, h3⟩ := h
  refine ⟨A, c, hv, h1, h2, fun i hi => ?_⟩
  obtain ⟨b, off, hA, hb, hz, hc⟩ := h3 i hi
  refine ⟨b, off, hA, Nat.lt_of_lt_of_le hb t.size, hz, (t.cell (a := ⟨b, off + i, none⟩) hb (fun hm => ?_)).trans hc⟩
  rcases hS b hm with h | h
  · exact hz h
  · omega
theorem LNat.avoid (h : LNat Z w v l) (hZ : ∀ b ∈ Z', b ∈ Z ∨ w.heap.size ≤ b) : LNat Z' w v l := by
  obtain ⟨A, c, hv, h1, h2, h3⟩ := h
  refine ⟨A, c, hv, h1, h2, fun i hi => ?_⟩
  obtain ⟨b, off, hA, hb, hz, hc⟩ := h3 i hi
  refine ⟨b, off, hA, hb, fun hm => ?_, hc⟩
  rcases hZ b hm with h | h
  · exact hz h
  · omega
theorem LNat.nil (Z : List Nat) (w : World) : LNat Z w (.slice none 0 0) [] := ⟨none, 0, rfl, Nat.le_refl _, Nat.zero_le _, fun i hi => by simp at hi⟩
theorem LNat.own {base : Nat} (h : w.ownsRow base 3 1 v l.length (nv l)) (hZ : ∀ b ∈ Z, b < base) : LNat Z w v l := by
  rw [nv_iv] at h
  rcases h.2 with ⟨rfl, hn⟩ | ⟨g, cap, cur, rfl, hg, hh, h2, h3, h4, h5⟩
  · exact ⟨none, 0, by rw [hn], by omega, Nat.zero_le _, fun i hi => by omega⟩
  · refine ⟨some ⟨g, 0, none⟩, cap, rfl, h2, h3, fun i hi => ⟨g, 0, rfl, (Array.getElem?_eq_some_iff.1 hh).1, fun hm => by have := hZ g hm; omega, ?_⟩⟩
    have hx := iv_get (ati l) hi
    rw [← h5] at hx
    rw [Nat.zero_add, World.cell?, hh]
    simpa [List.getElem?_take, hi] using hx
theorem LNat.form (h : LNat Z w v l) : ∃ A c, v = .slice A l.length c := by
  obtain ⟨A, c, hv, _⟩ := h
  exact ⟨A, c, hv⟩
theorem LNat.tail {b off c : Nat} (h : LNat Z w (.slice (some ⟨b, off, none⟩) (x :: l).length c) (x :: l)) (A : Option Addr) (hA : 0 < l.length → A = some ⟨b, off + 1, none⟩) : LNat Z w (.slice A l.length (c - 1)) l := by
  obtain ⟨A', c', hv, h1, h2, h3⟩ := h
  simp only [Value.slice.injEq, true_and] at hv
  obtain ⟨rfl, rfl⟩ := hv
  simp only [List.length_cons] at h1
  refine ⟨A, c - 1, rfl, by omega, by omega, fun i hi => ?_⟩
  obtain ⟨b', off', e, hb, hz, hc⟩ := h3 (i + 1) (by simp; omega)
  cases e
  refine ⟨b, off + 1, hA (by omega), hb, hz, ?_⟩
  rw [show off + 1 + i = off + (i + 1) by omega, hc]
  simp [ati]
theorem LNat.cells (h : LNat Z w v l) : ∃ A c, v = .slice A l.length c ∧ l.length ≤ c ∧ c ≤ maxLen ∧ IntCells w w.heap.size A l.length (ati l) := by
  obtain ⟨A, c, hv, h1, h2, h3⟩ := h
  refine ⟨A, c, hv, h1, h2, fun i hi => ?_⟩
  obtain ⟨b, off, hA, hb, hz, hc⟩ := h3 i hi
  exact ⟨b, off, hA, hb, hc⟩
theorem LNat.news {A : Option Addr} {c : Nat} (h : LNat Z w (.slice A l.length c) l) : (A = none → l.length = 0) ∧ ∀ ad, A = some ad → ∀ j u, (nv l)[j]? = some u → w.cell? (ad.add j) = some u := by
  obtain ⟨A', c', hv, h1, h2, h3⟩ := h
  simp only [Value.slice.injEq, true_and] at hv
  obtain ⟨rfl, rfl⟩ := hv
  refine ⟨fun hA => ?_, fun ad hA j u hj => ?_⟩
  · rcases Nat.eq_zero_or_pos l.length with h | h
    · exact h
    · obtain ⟨b, off, e, _⟩ := h3 0 h
      rw [hA] at e
      cases e
  · have hjl := (List.getElem?_eq_some_iff.1 hj).1
    rw [nv_length] at hjl
    obtain ⟨b, off, e, hb, hz, hc⟩ := h3 j hjl
    rw [hA] at e
    cases e
    rw [nv_iv, iv_get _ hjl] at hj
    cases hj
    rw [show (⟨b, off, none⟩ : Addr).add j = ⟨b, off + j, none⟩ by unfold Addr.add; split <;> simp_all]
    exact hc
end
/-- k slices in a row: the reference's lists. -/
def ListsAt (Z : List Nat) (w : World) (v : Value) (k : Nat) (L : Nat → List Nat) : Prop :=
  ∃ g c, v = .slice (some ⟨g, 0, none⟩) k c ∧ k ≤ c ∧ c ≤ maxLen ∧ g < w.heap.size ∧ g ∉ Z ∧ ∀ i, i < k → ∃ u, w.cell? ⟨g, i, none⟩ = some u ∧ LNat Z w u (L i)
section
variable {Z Z' S : List Nat} {w w' : World} {v : Value} {k : Nat} {L : Nat → List Nat}
theorem ListsAt.carry (h : ListsAt Z w v k L) (t : Touch S w w') (hS : ∀ b ∈ S, b ∈ Z ∨ w.heap.size ≤ b) : ListsAt Z w' v k L := by
  obtain ⟨g, c, hv, h1, h2, h3, h4, h5⟩ := h
  refine ⟨g, c, hv, h1, h2, Nat.lt_of_lt_of_le h3 t.size, h4, fun i hi => ?_⟩
  obtain ⟨u, hu, hl⟩ := h5 i hi
  refine ⟨u, (t.cell (a := ⟨g, i, none⟩) h3 (fun hm => ?_)).trans hu, hl.carry t hS⟩
  rcases hS g hm with h | h
  · exact h4 h
  · omega
theorem ListsAt.avoid (h : ListsAt Z w v k L) (hZ : ∀ b ∈ Z', b ∈ Z ∨ w.heap.size ≤ b) : ListsAt Z' w v k L := by
  obtain ⟨g, c, hv, h1, h2, h3, h4, h5⟩ := h
  refine ⟨g, c, hv, h1, h2, h3, fun hm => ?_, fun i hi => ?_⟩
  · rcases hZ g hm with h | h
    · exact h4 h
    · omega
  · obtain ⟨u, hu, hl⟩ := h5 i hi
    exact ⟨u, hu, hl.avoid hZ⟩
theorem ListsAt.congr {L' : Nat → List Nat} (h : ListsAt Z w v k L) (he : ∀ i, i < k → L i = L' i) : ListsAt Z w v k L' := by
  obtain ⟨g, c, hv, h1, h2, h3, h4, h5⟩ := h
  refine ⟨g, c, hv, h1, h2, h3, h4, fun i hi => ?_⟩
  rw [← he i hi]
  exact h5 i hi
theorem ListsAt.form (h : ListsAt Z w v k L) : ∃ g c, v = .slice (some ⟨g, 0, none⟩) k c := by
  obtain ⟨g, c, hv, _⟩ := h
  exact ⟨g, c, hv⟩
theorem refIs (h : ListsAt Z w v k L) (l : Int) : Calls Try.prog 41 #[v, .int .i64 l] w fun e w' => e = .returned (.bool (inR l k)) ∧ w' = w := by
  obtain ⟨g, c, rfl, _⟩ := h
  cases hl : inR l k
  · by_cases h0 : 0 ≤ l
    · have h1 : ¬ l < (k : Int) := fun h => by simp [inR, h0, h] at hl
      have b0 : decide (0 ≤ l) = true := by simpa using h0
      have b1 : decide (l < (k : Int)) = false := by simpa using h1
      go_enter Try.func41, Try.ntmps41
      go_wp2_with fail
      go_ret
      exact ⟨rfl, rfl⟩
    · have b0 : decide (0 ≤ l) = false := by simpa using h0
      go_enter Try.func41, Try.ntmps41
      go_wp2_with fail
      go_ret
      exact ⟨rfl, rfl⟩
  · obtain ⟨a, rfl, ha⟩ := inR_form hl
    have b0 : decide (0 ≤ (a : Int)) = true := by simp
    have b1 : decide ((a : Int) < (k : Int)) = true := by simpa using ha
    go_enter Try.func41, Try.ntmps41
    go_wp2_with fail
    go_ret
    exact ⟨rfl, rfl⟩
theorem refOf (h : ListsAt Z w v k L) (l : Int) : Calls Try.prog 20 #[v, .int .i64 l] w fun e w' => ∃ u, e = .returned u ∧ LNat Z w u (listOf k L l) ∧ w' = w := by
  have I := Lib.hid (refIs h l)
  obtain ⟨g, c, rfl, h1, h2, h3, h4, h5⟩ := h
  cases hl : inR l k
  · rw [hl] at I
    rw [listOf_no L hl]
    go_enter Try.func20, Try.ntmps20
    go_wp2_with fail
    refine (I.out).mono ?_
    rintro e w1 ⟨rfl, rfl⟩
    go_wp2_with fail
    go_ret
    exact ⟨_, rfl, LNat.nil Z _, rfl⟩
  · rw [hl] at I
    obtain ⟨a, rfl, ha⟩ := inR_form hl
    rw [listOf_at L ha]
    obtain ⟨u, hu, hlu⟩ := h5 a ha
    obtain ⟨A, c', rfl⟩ := hlu.form
    have HL := Lib.hid hlu
    have ha' : (a : Int) < (k : Int) := by omega
    clear h5 hlu
    go_enter Try.func20, Try.ntmps20
    go_wp2_with fail
    refine (I.out).mono ?_
    rintro e w1 ⟨rfl, hw⟩
    rw [hw]
    clear hw w1
    go_wp2_with fail
    go_ret
    exact ⟨_, rfl, HL.out, rfl⟩
end
/-- Is x in the list? -/
def inN (l : List Nat) (x : Int) : Prop := ∃ y ∈ l, (y : Int) = x
theorem inN_at {l : List Nat} {i : Nat} (h : i < l.length) : inN l (ati l i) := ⟨l[i], List.getElem_mem h, by simp [ati, h]⟩
theorem inN_ex {l : List Nat} {x : Int} (h : inN l x) : ∃ i, i < l.length ∧ ati l i = x := by
  obtain ⟨y, hy, rfl⟩ := h
  obtain ⟨i, hi, rfl⟩ := List.getElem_of_mem hy
  exact ⟨i, hi, by simp [ati, hi]⟩
/-- The list that holds x: the first one. -/
def PlaceIs (k : Nat) (L : Nat → List Nat) (x n : Int) (b : Bool) : Prop :=
  (b = true ∧ ∃ j : Nat, j < k ∧ n = (j : Int) ∧ inN (L j) x ∧ ∀ i, i < j → ¬ inN (L i) x) ∨ (b = false ∧ n = 0 ∧ ∀ i, i < k → ¬ inN (L i) x)
theorem place_is (k : Nat) (L : Nat → List Nat) (x : Int) : ∃ n b, PlaceIs k L x n b := by
  have key : ∀ m, m ≤ k → (∀ i, i < m → ¬ inN (L i) x) ∨ ∃ j, j < m ∧ inN (L j) x ∧ ∀ i, i < j → ¬ inN (L i) x := by
    intro m
    induction m with
    | zero => intro _; exact .inl fun k hk => absurd hk (Nat.not_lt_zero _)
    | succ m ih =>
      intro hm
      rcases ih (by omega) with h | ⟨j, hj, h1, h2⟩
      · by_cases hin : inN (L m) x
        · exact .inr ⟨m, by omega, hin, h⟩
        · left
          intro i hi
          rcases Nat.lt_or_ge i m with h' | h'
          · exact h i h'
          · rw [show i = m by omega]; exact hin
      · exact .inr ⟨j, by omega, h1, h2⟩
  rcases key k (Nat.le_refl _) with h | ⟨j, hj, h1, h2⟩
  · exact ⟨0, false, .inr ⟨rfl, rfl, h⟩⟩
  · exact ⟨j, true, .inl ⟨rfl, j, hj, rfl, h1, h2⟩⟩
set_option maxHeartbeats 1600000 in
set_option maxRecDepth 100000 in
theorem refIn {Z : List Nat} {w : World} {v : Value} {k : Nat} {L : Nat → List Nat} (h : ListsAt Z w v k L) (hl : ∀ i, i < k → (L i).length ≤ 5000) (hk : k ≤ 5000) (x : Int) {n : Int} {b : Bool} (hp : PlaceIs k L x n b) :
    Calls Try.prog 18 #[v, .int .i64 x] w fun e w' => e = .returned (.tuple #[.int .i64 n, .bool b]) ∧ w' = w := by
  obtain ⟨g, c, rfl, h1, h2, h3, h4, h5⟩ := h
  have H5 := Lib.hid h5
  have HL := Lib.hid hl
  clear h5 hl
  go_enter Try.func18, Try.ntmps18
  go_wp2_with fail
  go_loopw [6] (fun i wr => ∃ j : Nat, j ≤ k ∧ i = .int .i64 (j : Int) ∧ (∀ i, i < j → ¬ inN (L i) x) ∧ wr = w) (fun i _ => k - (intOf i).toNat)
  case atStart => exact ⟨0, Nat.zero_le _, rfl, fun i hi => absurd hi (Nat.not_lt_zero _), rfl⟩
  case round =>
    obtain ⟨j, hj, rfl, hno, hw⟩ := hrel
    subst hw
    by_cases hlt : j < k
    · obtain ⟨u, hu, hlu⟩ := H5.out j hlt
      obtain ⟨A, cu, rfl, k1, k2, k3⟩ := hlu
      have K3 := Lib.hid k3
      have HNO := Lib.hid hno
      have hlj := HL.out j hlt
      clear k3 hno
      go_wp2_with fail
      go_loopw [7] (fun i wq => ∃ t : Nat, t ≤ (L j).length ∧ i = .int .i64 (t : Int) ∧ (∀ s, s < t → ati (L j) s ≠ x) ∧ wq = wr) (fun i _ => (L j).length - (intOf i).toNat)
      case atStart => exact ⟨0, Nat.zero_le _, rfl, fun i hi => absurd hi (Nat.not_lt_zero _), rfl⟩
      case round =>
        obtain ⟨t, ht, rfl, hne, hw⟩ := hrel
        subst hw
        by_cases htl : t < (L j).length
        · obtain ⟨b', off, rfl, hb', hz', hc'⟩ := K3.out t htl
          have HNE := Lib.hid hne
          clear hne
          by_cases he : ati (L j) t = x
          · have hin : inN (L j) x := by rw [← he]; exact inN_at htl
            have hn : n = (j : Int) ∧ b = true := by
              rcases hp with ⟨rfl, q, hq, rfl, g1, g2⟩ | ⟨rfl, rfl, g1⟩
              · rcases Nat.lt_trichotomy j q with h | h | h
                · exact absurd hin (g2 j h)
                · exact ⟨by rw [h], rfl⟩
                · exact absurd g1 (HNO.out q h)
              · exact absurd hin (g1 j hlt)
            obtain ⟨rfl, rfl⟩ := hn
            have be : (ati (L j) t == x) = true := by simpa using he
            clear he hin hp
            go_wp2_with fail
            refine bodyPost_ret (v := .tuple #[.int .i64 (j : Int), .bool true]) (by simp [results, Try.results18, go_sem]) rfl ⟨rfl, rfl⟩
          · have be : (ati (L j) t == x) = false := by simpa using he
            have HE := Lib.hid he
            clear he
            go_wp2_with fail
            go_roundw
            case rel => exact ⟨t + 1, by omega, by go_num, fun s hs => by rcases Nat.lt_or_ge s t with h' | h'; (· exact HNE.out s h'); rw [show s = t by omega]; exact HE.out, trivial⟩
            case measure => simp [intOf]; omega
        · obtain rfl : t = (L j).length := by omega
          have hnj : ¬ inN (L j) x := fun hin => by
            obtain ⟨i, hi, e⟩ := inN_ex hin
            exact hne i hi e
          have HNJ := Lib.hid hnj
          clear hne hnj
          go_wp2_with fail
          go_roundw
          case rel => exact ⟨j + 1, by omega, by go_num, fun i hi => by rcases Nat.lt_or_ge i j with h' | h'; (· exact HNO.out i h'); rw [show i = j by omega]; exact HNJ.out, trivial⟩
          case measure => simp [intOf]; omega
    · obtain rfl : j = k := by omega
      have hn : n = 0 ∧ b = false := by
        rcases hp with ⟨rfl, q, hq, rfl, g1, g2⟩ | ⟨rfl, rfl, g1⟩
        · exact absurd g1 (hno q hq)
        · exact ⟨rfl, rfl⟩
      obtain ⟨rfl, rfl⟩ := hn
      clear hno hp
      go_wp2_with fail
      refine bodyPost_ret (v := .tuple #[.int .i64 0, .bool false]) (by simp [results, Try.results18, go_sem]) rfl ⟨rfl, rfl⟩
end Go.Proofs.Ytalkpoeliekbfaa

/-
  The reference of layer 7 (chain): With.
-/
namespace Go.Proofs.Ytalkpoeliekbfaa
open Go.ChangeShapes Go.WideShapes Go.ChangeAt Go.RowKit Go.Deep
set_option linter.unusedVariables false
set_option linter.unusedSimpArgs false
theorem clists_info : (Try.prog.info? 40).map (fun i => (i.zero, i.size, i.bytes)) = some (some (.slice none 0 0), 1, 24) := by kernel_rfl
/-- What With has built up to list j. -/
def Built (Z : List Nat) (w : World) (L : Nat → List Nat) (j : Nat) (us : List Value) : Prop :=
  us.length = j ∧ (∀ u ∈ us, u.oneCell' = true) ∧ ∀ k, k < j → ∃ u, us[k]? = some u ∧ LNat Z w u (L k)
theorem Built.next {Z : List Nat} {w w' : World} {L : Nat → List Nat} {j : Nat} {us : List Value} {u : Value} (h : Built Z w L j us) (t : Touch [] w w') (hu : LNat Z w' u (L j)) : Built Z w' L (j + 1) (us ++ [u]) := by
  obtain ⟨h1, h2, h3⟩ := h
  refine ⟨by simp [h1], fun x hx => ?_, fun k hk => ?_⟩
  · rw [List.mem_append] at hx
    rcases hx with hx | hx
    · exact h2 x hx
    · simp at hx
      subst hx
      obtain ⟨A, c, rfl, _⟩ := hu
      rfl
  · rcases Nat.lt_or_ge k j with hlt | hge
    · obtain ⟨x, hx, hl⟩ := h3 k hlt
      exact ⟨x, by rw [List.getElem?_append_left (by omega)]; exact hx, hl.carry t (by simp)⟩
    · obtain rfl : k = j := by omega
      exact ⟨u, by rw [← h1, List.getElem?_append_right (Nat.le_refl _)]; simp, hu⟩
theorem Built.lists {Z : List Nat} {w w0 : World} {base k : Nat} {v : Value} {L : Nat → List Nat} {us : List Value} (h : Built Z w0 L k us) (hk : 0 < k) (t : Touch [] w0 w) (ho : w.ownsRow base 40 1 v k us) (hZ : ∀ b ∈ Z, b < base) : ListsAt Z w v k L := by
  obtain ⟨h1, h2, h3⟩ := h
  rcases ho.2 with ⟨rfl, hn⟩ | ⟨g, cap, cur, rfl, hg, hh, q2, q3, q4, q5⟩
  · exact absurd hn (by omega)
  · refine ⟨g, cap, rfl, q2, q3, (Array.getElem?_eq_some_iff.1 hh).1, fun hm => by have := hZ g hm; omega, fun i hi => ?_⟩
    obtain ⟨u, hu, hl⟩ := h3 i hi
    refine ⟨u, ?_, hl.carry t (by simp)⟩
    rw [← q5] at hu
    rw [World.cell?, hh]
    simpa [List.getElem?_take, hi] using hu
def WithC (Z : List Nat) (k : Nat) (L : Nat → List Nat) (w : World) (e : Ending) (w' : World) : Prop :=
  ∃ rv, e = .returned rv ∧ ListsAt Z w' rv k L ∧ Touch [] w w'
set_option maxHeartbeats 2000000 in
set_option maxRecDepth 100000 in
theorem refWithC {Z : List Nat} {w : World} {rv u : Value} {k a : Nat} {L : Nat → List Nat} {l : List Nat} (h : ListsAt Z w rv k L) (hk : k ≤ 1000) (ha : a < k) (hu : LNat Z w u l) (hZ : ∀ b ∈ Z, b < w.heap.size) :
    Calls Try.prog 42 #[rv, .int .i64 (a : Int), u] w (WithC Z k (setL L a l) w) := by
  obtain ⟨i0, hi0, hz0, hz1, hz2⟩ := info_parts clists_info
  obtain ⟨g, c, rfl, h1, h2, h3, h4, h5⟩ := h
  obtain ⟨A, cu, rfl, k1, k2, k3⟩ := id hu
  have HU := Lib.hid hu
  have HG := Lib.hid (fun (j : Nat) (hj : j < k) => show ∃ u, LNat Z w u (L j) ∧ ∀ wr, Touch [] w wr → wr.cell? ⟨g, j, none⟩ = some u by
    obtain ⟨u, hu, hlu⟩ := h5 j hj
    exact ⟨u, hlu, fun wr t => (t.cell (a := ⟨g, j, none⟩) h3 (by simp)).trans hu⟩)
  have HZ := Lib.hid hZ
  unfold WithC
  generalize hn : l.length = n at *
  clear h5 h2 k3 hu hZ
  go_enter Try.func42, Try.ntmps42
  go_wp2_with fail
  go_loopw [7, 8] (fun v x wr => ∃ (j : Nat) (us : List Value), j ≤ k ∧ x = .int .i64 (j : Int) ∧ wr.ownsRow w.heap.size 40 1 v j us ∧ Built Z w (setL L a l) j us ∧ Touch [] w wr) (fun _ x _ => k - (intOf x).toNat)
  case atStart => exact ⟨0, [], Nat.zero_le _, rfl, World.ownsRow_nil _ _ _ _, ⟨rfl, fun u hu => by simp at hu, fun k hk => absurd hk (Nat.not_lt_zero _)⟩, Touch.refl _ _⟩
  case round =>
    obtain ⟨j, us, hj, rfl, hown, hbu, ht⟩ := hrel
    have hwsz := ht.size
    by_cases hlt : j < k
    · have hul := hbu.1
      by_cases hjk : j = a
      · subst hjk
        have HN := Lib.hid (hbu.next (u := .slice A n cu) (Touch.refl _ _) (by rw [setL_at]; exact HU.out))
        go_upto_region 4 with (at_builtin; refine wpList_append_own _ rfl (.tmp 18) (.tmp 20) 26 rfl w.heap.size 40 i0 (.slice none 0 0) 1 24 Try.underlying26 hi0 hz0 hz1 hz2 rfl (by decide) u7 j us rfl (hown.alloc _) ⟨wr.heap.size, 0, none⟩ 1 1 [.slice A n cu] rfl rfl (cell_one_new _ _ _) (by intro u hu; simp at hu; subst hu; rfl) (by unfold maxLen; omega) (by omega) (by simp; omega) ?_; intro v' w2 hown' hgrow hnil)
        have t2 : Touch [] w w2 := (ht.alloc _).grown hgrow (fun g hg => .inr (hown.lt g hg).1)
        have HO := Lib.hid hown'
        have HT := Lib.hid t2
        clear hown hbu ht hown' hgrow hnil t2
        go_wp2_with fail
        go_roundw
        case rel => exact ⟨j + 1, us ++ [.slice A n cu], by omega, by go_num, HO.out, HN.out, HT.out⟩
        case measure => simp [intOf]; omega
      · obtain ⟨u, hlu, hcu⟩ := HG.out j hlt
        have hcu := hcu wr ht
        have HN := Lib.hid (hbu.next (u := u) (Touch.refl _ _) (by rw [setL_ne hjk]; exact hlu))
        obtain ⟨A', c', rfl, _⟩ := hlu
        have bjk : ((j : Int) == (a : Int)) = false := by simp; omega
        have hg := Nat.lt_of_lt_of_le h3 ht.size
        go_upto_region 4 with (at_builtin; refine wpList_append_own _ rfl (.tmp 22) (.tmp 27) 26 rfl w.heap.size 40 i0 (.slice none 0 0) 1 24 Try.underlying26 hi0 hz0 hz1 hz2 rfl (by decide) u7 j us rfl (hown.alloc _) ⟨wr.heap.size, 0, none⟩ 1 1 [.slice A' (L j).length c'] rfl rfl (cell_one_new _ _ _) (by intro u hu; simp at hu; subst hu; rfl) (by unfold maxLen; omega) (by omega) (by simp; omega) ?_; intro v' w2 hown' hgrow hnil)
        have t2 : Touch [] w w2 := (ht.alloc _).grown hgrow (fun g hg => .inr (hown.lt g hg).1)
        have HO := Lib.hid hown'
        have HT := Lib.hid t2
        clear hown hbu ht hown' hgrow hnil t2
        go_wp2_with fail
        go_roundw
        case rel => exact ⟨j + 1, us ++ [.slice A' (L j).length c'], by omega, by go_num, HO.out, HN.out, HT.out⟩
        case measure => simp [intOf]; omega
    · obtain rfl : j = k := by omega
      have HR := Lib.hid (hbu.lists (by omega) ht hown HZ.out)
      have HT := Lib.hid ht
      clear hown hbu ht
      go_wp2_with fail
      go_ret
      exact ⟨_, rfl, HR.out, HT.out⟩
end Go.Proofs.Ytalkpoeliekbfaa

/-
  The reference of layer 7 (chain): Push and Pop.
-/
namespace Go.Proofs.Ytalkpoeliekbfaa
open Go.ChangeShapes Go.WideShapes Go.ChangeAt Go.RowKit Go.Deep
set_option linter.unusedVariables false
set_option linter.unusedSimpArgs false

section
variable {Z : List Nat} {w : World} {v : Value} {k : Nat} {L : Nat → List Nat}
set_option maxHeartbeats 1600000 in
set_option maxRecDepth 100000 in
theorem refPush_no (h : ListsAt Z w v k L) (hl : ∀ i, i < k → (L i).length ≤ 5000) (hk : k ≤ 5000) (nn l x : Int) {n : Int} {b : Bool} (hp : PlaceIs k L x n b) (hno : inR l k = false ∨ x < 0 ∨ nn ≤ x ∨ b = true) :
    Calls Try.prog 9 #[v, .int .i64 nn, .int .i64 l, .int .i64 x] w fun e w' => e = .returned (.tuple #[v, .bool false]) ∧ w' = w := by
  have J := Lib.hid (refIn h hl hk x hp)
  have K := Lib.hid (refIs h l)
  obtain ⟨g, c, rfl⟩ := h.form
  clear h hp hl
  generalize inR l k = y at *
  by_cases h1 : y = false
  · subst h1
    go_enter Try.func9, Try.ntmps9
    go_wp2_with fail
    refine (J.out).mono ?_
    rintro e w1 ⟨rfl, rfl⟩
    go_wp2_with fail
    refine (K.out).mono ?_
    rintro e w2 ⟨rfl, rfl⟩
    go_wp2_with fail
    exact bodyPost_ret (v := .tuple #[.slice (some ⟨g, 0, none⟩) k c, .bool false]) (by simp [results, Try.results9, go_sem]) rfl ⟨rfl, rfl⟩
  · obtain rfl : y = true := by simpa using h1
    by_cases h2 : x < 0
    · have d2 : decide (x < 0) = true := by simpa using h2
      go_enter Try.func9, Try.ntmps9
      go_wp2_with fail
      refine (J.out).mono ?_
      rintro e w1 ⟨rfl, rfl⟩
      go_wp2_with fail
      refine (K.out).mono ?_
      rintro e w2 ⟨rfl, rfl⟩
      go_wp2_with fail
      exact bodyPost_ret (v := .tuple #[.slice (some ⟨g, 0, none⟩) k c, .bool false]) (by simp [results, Try.results9, go_sem]) rfl ⟨rfl, rfl⟩
    · have d2 : decide (x < 0) = false := by simpa using h2
      by_cases h3 : nn ≤ x
      · have d3 : decide (nn ≤ x) = true := by simpa using h3
        go_enter Try.func9, Try.ntmps9
        go_wp2_with fail
        refine (J.out).mono ?_
        rintro e w1 ⟨rfl, rfl⟩
        go_wp2_with fail
        refine (K.out).mono ?_
        rintro e w2 ⟨rfl, rfl⟩
        go_wp2_with fail
        exact bodyPost_ret (v := .tuple #[.slice (some ⟨g, 0, none⟩) k c, .bool false]) (by simp [results, Try.results9, go_sem]) rfl ⟨rfl, rfl⟩
      · have d3 : decide (nn ≤ x) = false := by simpa using h3
        obtain rfl : b = true := by
          rcases hno with h | h | h | h
          · cases h
          · exact absurd h h2
          · exact absurd h h3
          · exact h
        go_enter Try.func9, Try.ntmps9
        go_wp2_with fail
        refine (J.out).mono ?_
        rintro e w1 ⟨rfl, rfl⟩
        go_wp2_with fail
        refine (K.out).mono ?_
        rintro e w2 ⟨rfl, rfl⟩
        go_wp2_with fail
        exact bodyPost_ret (v := .tuple #[.slice (some ⟨g, 0, none⟩) k c, .bool false]) (by simp [results, Try.results9, go_sem]) rfl ⟨rfl, rfl⟩
/-- The reference's lists, changed. -/
def ToldC (Z : List Nat) (k : Nat) (L : Nat → List Nat) (ok : Bool) (w : World) (e : Ending) (w' : World) : Prop :=
  ∃ u, e = .returned (.tuple #[u, .bool ok]) ∧ ListsAt Z w' u k L ∧ Touch [] w w'
set_option maxHeartbeats 1600000 in
set_option maxRecDepth 100000 in
theorem refPush_yes {a x : Nat} (h : ListsAt Z w v k L) (hl : ∀ i, i < k → (L i).length ≤ 5000) (hk : k ≤ 1000) (hZ : ∀ b ∈ Z, b < w.heap.size) (nn : Int) (ha : a < k) (hx : (x : Int) < nn) (hp : PlaceIs k L x 0 false) :
    Calls Try.prog 9 #[v, .int .i64 nn, .int .i64 (a : Int), .int .i64 (x : Int)] w (ToldC Z k (setL L a (L a ++ [x])) true w) := by
  have J := Lib.hid (refIn h hl (by omega) x hp)
  have K := Lib.hid (refIs h a)
  rw [inR_yes ⟨by omega, by omega⟩] at K
  have HQ := Lib.hid h
  have HZ := Lib.hid hZ
  have hla := hl a ha
  obtain ⟨g, c, rfl, h1, h2, h3, h4, h5⟩ := h
  obtain ⟨u, hu, hlu⟩ := h5 a ha
  obtain ⟨A, cx, rfl⟩ := hlu.form
  have HU := Lib.hid hlu
  have HCU := Lib.hid hu
  have ha' : (a : Int) < (k : Int) := by omega
  have d2 : decide ((x : Int) < 0) = false := by simp
  have d3 : decide (nn ≤ (x : Int)) = false := by simpa using hx
  have t1 : Touch [] w (w.alloc (.cells #[] 3)) := (Touch.refl [] w).alloc _
  have R0 := Lib.hid (World.ownsRow_lit (base := w.heap.size) (e := 3) (size := 1) w #[] 0 (by omega) (by unfold maxLen; omega) rfl)
  have N1 := Lib.hid ((hlu.carry t1 (by simp)).news)
  have hone : ∀ u ∈ nv (L a), u.oneCell' = true := by intro u hu; simp [nv] at hu; obtain ⟨a, _, rfl⟩ := hu; rfl
  have l1 : (nv (L a)).length = (L a).length * 1 := by rw [nv_length]; omega
  have T1 := Lib.hid t1
  obtain ⟨i0, hi0, hz0, hz1, hz2⟩ := info_parts cint_info
  unfold ToldC
  clear h5 hlu hp hl hZ t1
  go_enter Try.func9, Try.ntmps9
  go_wp2_with fail
  refine (J.out).mono ?_
  rintro e w1 ⟨rfl, hw⟩
  rw [hw]
  clear hw w1
  go_wp2_with fail
  refine (K.out).mono ?_
  rintro e w2 ⟨rfl, hw⟩
  rw [hw]
  clear hw w2
  go_wp2_with (first | (at_builtin; refine wpList_append_ownA rfl (.tmp 37) (.tmp 41) 40 rfl w.heap.size 3 i0 (.int .i64 0) 1 8 Try.underlying40 hi0 hz0 hz1 hz2 rfl (by decide) (.slice (some ⟨w.heap.size, 0, none⟩) 0 0) 0 [] rfl R0.out A (L a).length cx (nv (L a)) rfl N1.out.1 l1 N1.out.2 hone (by unfold maxLen; omega) (by omega) (by simp) ?_; intro v3 w3 hown hgrow hat; have T3 := Lib.hid (T1.out.grown hgrow (by simp [Value.ownBlock])); have HW3 := Lib.hid hown; have s3 := T3.out.size; clear hown hgrow hat) | (at_builtin; refine wpList_append_own_at _ rfl (.tmp 42) (.tmp 44) 40 rfl w.heap.size 3 i0 (.int .i64 0) 1 8 Try.underlying40 hi0 hz0 hz1 hz2 rfl (by decide) v3 (0 + (L a).length) ([] ++ nv (L a)) rfl (HW3.out.alloc _) ⟨w3.heap.size, 0, none⟩ 1 1 [.int .i64 (x : Int)] rfl rfl (World.news_of_block (cs := #[.int .i64 (x : Int)]) (t := 3) (fr := (0, 0)) (heap_alloc_new w3 _)) (by simp [Value.oneCell']) (by unfold maxLen; omega) (by omega) (by simp; omega) ?_; intro v4 w4 hown hgrow _ hat; have T4 := Lib.hid ((T3.out.alloc _).grown hgrow (fun b hb => by have := own_base HW3.out hb; omega)); have HW4 := Lib.hid (show LNat Z w4 v4 (L a ++ [x]) from LNat.own (base := w.heap.size) (by have hq := hown; rw [List.nil_append, Nat.zero_add] at hq; rw [nv_append, List.length_append]; exact hq) HZ.out); clear hown hgrow hat))
  refine (refWithC (HQ.out.carry T4.out (by simp)) hk ha HW4.out (fun b hb => Nat.lt_of_lt_of_le (HZ.out b hb) T4.out.size)).mono ?_
  rintro e w5 ⟨u5, rfl, h5, t5⟩
  obtain ⟨g5, c5, rfl⟩ := h5.form
  have H5 := Lib.hid h5
  have T5 := Lib.hid (T4.out.trans t5 (by simp))
  clear h5 t5
  go_wp2_with fail
  exact bodyPost_ret (v := .tuple #[.slice (some ⟨g5, 0, none⟩) k c5, .bool true]) (by simp [results, Try.results9, go_sem]) rfl ⟨_, rfl, H5.out, T5.out⟩
set_option maxRecDepth 100000 in
theorem refPop_no (h : ListsAt Z w v k L) (l : Int) (h0 : listOf k L l = []) :
    Calls Try.prog 13 #[v, .int .i64 l] w fun e w' => e = .returned (.tuple #[v, .int .i64 0, .bool false]) ∧ w' = w := by
  have J := Lib.hid (refOf h l)
  rw [h0] at J
  obtain ⟨g, c, rfl⟩ := h.form
  clear h
  go_enter Try.func13, Try.ntmps13
  go_wp2_with fail
  refine (J.out).mono ?_
  rintro e w1 ⟨u, rfl, hu, rfl⟩
  obtain ⟨A, cu, rfl⟩ := hu.form
  simp only [List.length_nil]
  clear hu
  go_wp2_with fail
  exact bodyPost_ret (v := .tuple #[.slice (some ⟨g, 0, none⟩) k c, .int .i64 0, .bool false]) (by simp [results, Try.results13, go_sem]) rfl ⟨rfl, rfl⟩
def PoppedC (Z : List Nat) (k : Nat) (L : Nat → List Nat) (x : Nat) (w : World) (e : Ending) (w' : World) : Prop :=
  ∃ u, e = .returned (.tuple #[u, .int .i64 (x : Int), .bool true]) ∧ ListsAt Z w' u k L ∧ Touch [] w w'
theorem ent42 (args : Array Value) (w : World) : (callFunc 42 args).run Try.prog w = .ok (.enter 42 args) w := by
  simp [callFunc, Try.func42]
  rfl
set_option maxHeartbeats 1600000 in
set_option maxRecDepth 100000 in
theorem refPop_yes {a x : Nat} {l : List Nat} (h : ListsAt Z w v k L) (hkk : k ≤ 1000) (hZ : ∀ b ∈ Z, b < w.heap.size) (ha : a < k) (hla : L a = x :: l) (hl5 : l.length ≤ 5000) :
    Calls Try.prog 13 #[v, .int .i64 (a : Int)] w (PoppedC Z k (setL L a l) x w) := by
  have J := Lib.hid (refOf h a)
  rw [listOf_at L ha, hla] at J
  have HQ := Lib.hid h
  have HZ := Lib.hid hZ
  obtain ⟨g, c, rfl⟩ := h.form
  unfold PoppedC
  clear h hZ
  go_enter Try.func13, Try.ntmps13
  go_wp2_with fail
  refine (J.out).mono ?_
  rintro e w1 ⟨u, rfl, hu, hw⟩
  obtain rfl := hw
  obtain ⟨Au, cx, rfl, k1, k2, k3⟩ := id hu
  obtain ⟨b, off, rfl, hb, hz, hc⟩ := k3 0 (by simp)
  obtain ⟨A2, hA2⟩ : ∃ A2, (if cx = 1 then some (⟨b, off, none⟩ : Addr) else some ⟨b, off + 1, none⟩) = A2 := ⟨_, rfl⟩
  simp only [List.length_cons] at k1
  have HT := Lib.hid (show LNat Z w1 (.slice A2 l.length (cx - 1)) l from hu.tail A2 (fun h => by rw [← hA2, if_neg (by omega)]))
  have h0 : w1.cell? ⟨b, off, none⟩ = some (.int .i64 (x : Int)) := by simpa [ati] using hc
  have hlx : l.length + 1 ≤ cx := by omega
  have hnl : ((l.length : Int) + 1 < 1) = False := by simp; omega
  simp only [List.length_cons]
  clear hu k3 hc J k1 k2
  go_upto_region 4 with fail
  refine wp_region_leaves (wd := w1) (Leaf.const (.slice (some ⟨g, 0, none⟩) k c) :: Leaf.const (.int .i64 (a : Int)) :: Leaf.const (.slice (some ⟨b, off, none⟩) (l.length + 1) cx) :: Leaf.const (.slice A2 l.length (cx - 1)) :: Leaf.pred (fun v w => ListsAt Z w v k (setL L a l)) :: Leaf.const (.slice (some ⟨b, off, none⟩) (l.length + 1) cx) :: Leaf.const (.pointer (some ⟨b, off, none⟩)) :: Leaf.const (.int .i64 (x : Int)) :: Leaf.pred (fun v w => ListsAt Z w v k (setL L a l)) :: Leaf.const ((.int .i64 (x : Int))) :: Leaf.const (.bool true) :: []) (by kernel_rfl) (by kernel_rfl) (by kernel_rfl) ((Touch.refl _ _).drew) (⟨fun v w w' h t => h.carry t (by simp), fun v w w' h t => h.carry t (by simp), trivial⟩) ?_ ?_
  · intro i o ho ac w ht hk hd
    match i, ho with
    | 0, ho =>
      have ho' : some _ = some o := ho
      cases ho'
      clear ho
      have e0 := known_slot hk 0 (by kernel_rfl) (v := .slice (some ⟨g, 0, none⟩) k c) rfl
      exact do_value (wanted_none rfl) (by rw [BigFrame.run_move (.tmp 0) rfl, e0]) rfl
    | 1, ho =>
      have ho' : some _ = some o := ho
      cases ho'
      clear ho
      have e1 := known_slot hk 1 (by kernel_rfl) (v := .int .i64 (a : Int)) rfl
      exact do_value (wanted_none rfl) (by rw [BigFrame.run_move (.tmp 1) rfl, e1]) rfl
    | 2, ho =>
      have ho' : some _ = some o := ho
      cases ho'
      clear ho
      have e7 := known_slot hk 7 (by kernel_rfl) (v := .slice (some ⟨b, off, none⟩) (l.length + 1) cx) rfl
      exact do_value (wanted_none rfl) (by rw [BigFrame.run_move (.tmp 7) rfl, e7]) rfl
    | 3, ho =>
      have ho' : some _ = some o := ho
      cases ho'
      clear ho
      have e17 := has_const (has_dep hd 2 (by kernel_rfl)) rfl rfl rfl (c := (.slice (some ⟨b, off, none⟩) (l.length + 1) cx))
      exact do_value (wanted_none rfl) (v := .slice A2 l.length (cx - 1)) (run_value rfl (by rw [e17]; simp [go_sem, hA2, hlx, hnl])) rfl
    | 4, ho =>
      have ho' : some _ = some o := ho
      cases ho'
      clear ho
      have e15 := has_const (has_dep hd 0 (by kernel_rfl)) rfl rfl rfl (c := (.slice (some ⟨g, 0, none⟩) k c))
      have e16 := has_const (has_dep hd 1 (by kernel_rfl)) rfl rfl rfl (c := (.int .i64 (a : Int)))
      have e18 := has_const (has_dep hd 3 (by kernel_rfl)) rfl rfl rfl (c := (.slice A2 l.length (cx - 1)))
      refine do_enter (wanted_none rfl) (f := 42) (args := #[(.slice (some ⟨g, 0, none⟩) k c), (.int .i64 (a : Int)), (.slice A2 l.length (cx - 1))]) (by rw [run_go3 42 _ _ rfl, ent42]; simp [eval_c, e15, e16, e18]) ?_
      exact refWithC (HQ.out.carry ht (by simp)) hkk ha (HT.out.carry ht (by simp)) (fun b hb => Nat.lt_of_lt_of_le (HZ.out b hb) ht.size)
    | 5, ho =>
      have ho' : some _ = some o := ho
      cases ho'
      clear ho
      have e7 := known_slot hk 7 (by kernel_rfl) (v := .slice (some ⟨b, off, none⟩) (l.length + 1) cx) rfl
      exact do_value (wanted_none rfl) (by rw [BigFrame.run_move (.tmp 7) rfl, e7]) rfl
    | 6, ho =>
      have ho' : some _ = some o := ho
      cases ho'
      clear ho
      have e20 := has_const (has_dep hd 5 (by kernel_rfl)) rfl rfl rfl (c := (.slice (some ⟨b, off, none⟩) (l.length + 1) cx))
      exact do_value (wanted_none rfl) (v := .pointer (some ⟨b, off, none⟩)) (run_value rfl (by rw [e20]; simp [go_sem])) rfl
    | 7, ho =>
      have ho' : some _ = some o := ho
      cases ho'
      clear ho
      have e21 := has_const (has_dep hd 6 (by kernel_rfl)) rfl rfl rfl (c := (.pointer (some ⟨b, off, none⟩)))
      have cb := (ht.cell (a := ⟨b, off, none⟩) hb (by simp)).trans h0
      exact do_value (wanted_none rfl) (v := .int .i64 (x : Int)) (run_value rfl (by rw [e21]; simp [go_sem, cb])) rfl
    | 8, ho =>
      have ho' : some _ = some o := ho
      cases ho'
      clear ho
      obtain ⟨v19, e19, h19⟩ := has_pred (has_dep hd 4 (by kernel_rfl)) rfl rfl rfl (φ := fun v w => ListsAt Z w v k (setL L a l))
      exact do_value (wanted_none rfl) (by rw [BigFrame.run_assign (.tmp 19) rfl, e19]) h19
    | 9, ho =>
      have ho' : some _ = some o := ho
      cases ho'
      clear ho
      have e22 := has_const (has_dep hd 7 (by kernel_rfl)) rfl rfl rfl (c := (.int .i64 (x : Int)))
      exact do_value (wanted_none rfl) (by rw [BigFrame.run_assign (.tmp 22) rfl, e22]) rfl
    | 10, ho =>
      have ho' : some _ = some o := ho
      cases ho'
      clear ho
      exact do_value (wanted_none rfl) (by rw [BigFrame.run_assign (.const (.bool true)) rfl, eval_c]) rfl
    | q + 11, ho => exact absurd ho (by simp)
  · intro x' w4 T4 hkn
    obtain ⟨hx4, hx8, _⟩ := hkn
    simp only [putL, Act.put, List.setIfInBounds_toArray, List.set_cons_succ, List.set_cons_zero]
    obtain ⟨g4, c4, hf⟩ := ListsAt.form hx8
    have hx8' : ListsAt Z w4 (x' 8) k (setL L a l) := hx8
    rw [hf] at hx8'
    rw [hf]
    have H8 := Lib.hid hx8'
    have TT := Lib.hid T4
    clear hx4 hx8 hx8' T4 hf
    go_wp2_with fail
    exact bodyPost_ret (v := .tuple #[.slice (some ⟨g4, 0, none⟩) k c4, .int .i64 (x : Int), .bool true]) (by simp [results, Try.results13, go_sem]) rfl ⟨_, rfl, H8.out, TT.out⟩
end
end Go.Proofs.Ytalkpoeliekbfaa

/-
  A region that draws its order whose last operation assigns to a slot and waits for all others, in which one operation may write what others of it have made (as Phi6).
-/
namespace Go.Proofs.Ytalkpoeliekbfaa
open Go.ChangeShapes Go.WideShapes Go.ChangeAt Go.RowKit Go.Deep
set_option linter.unusedVariables false
set_option linter.unusedSimpArgs false
def lastD (ops : Array Oper) (n : Nat) : Bool :=
  decide (ops.size = n + 1) && match ops[n]? with
    | some o => (List.range n).all fun j => o.after.any fun e => (e.on == j) && Region.binds .any e
    | none => false
section
variable {P : Program} {ops : Array Oper} {Q : Exit → Act → World → Prop}
theorem lastD_spec {n : Nat} (h : lastD ops n = true) : ops.size = n + 1 ∧ ∃ o, ops[n]? = some o ∧ ∀ j, j < n → ∃ e ∈ o.after, Region.binds .any e = true ∧ e.on = j := by
  unfold lastD at h
  rw [Bool.and_eq_true, decide_eq_true_eq] at h
  obtain ⟨h1, h2⟩ := h
  refine ⟨h1, ?_⟩
  cases ho : ops[n]? with
  | none => rw [ho] at h2; simp at h2
  | some o =>
    rw [ho] at h2
    simp only [List.all_eq_true, List.mem_range, Array.any_eq_true'] at h2
    refine ⟨o, rfl, fun j hj => ?_⟩
    obtain ⟨e, he, h3, h4⟩ := by simpa using h2 j hj
    exact ⟨e, he, h4, by simpa using h3⟩
theorem wpAny_phi6d {a0 : Act} {wd : World} {L : List Leaf} {n jw : Nat} {D : List Nat} (hst : ∀ j, Stab (okL L j)) (hdst : ∀ (i j : Nat) (o o' : Oper) (d : Tmp), ops[i]? = some o → ops[j]? = some o' → o.dst = some d → o'.dst = some d → i = j)
    (hin : ∀ (i : Nat) (o : Oper) (d : Tmp), ops[i]? = some o → o.dst = some d → d < a0.tmps.size) (hacy : ∀ (i : Nat) (o : Oper) (e : Edge), ops[i]? = some o → e ∈ o.after → Region.binds .any e = true → e.on < i)
    (hlast : lastD ops n = true) (hLn : ∀ v w, okL L n v w) (hloc : localB ops n jw D = true) (hcon : constB L jw D = true)
    (hop : ∀ (i : Nat) (o : Oper), ops[i]? = some o → i < n → i ≠ jw → ∀ a w, Touch [] wd w → Known ops a0 a → (∀ e ∈ o.after, Region.binds .any e = true → Has ops (okL L) a w e.on) → DoesG P ops (okL L i) o a w)
    (hwr : ∀ (o : Oper), ops[jw]? = some o → ∀ a w, Touch [] wd w → Known ops a0 a → (∀ e ∈ o.after, Region.binds .any e = true → Has ops (okL L) a w e.on) → LocalDoes P ops wd (okL L jw) o a w)
    (hend : ∀ a w, Touch [] wd w → Known ops a0 a → (∀ j, j < ops.size → j ∉ D → Has ops (okL L) a w j) → ∀ K : Act → World → Prop, (∀ a' w', Q .normal a' w' → K a' w') → wpOp P ops Q n K a w) :
    ∀ (fuel : Nat) (listed : Array Bool) (a : Act) (w : World), listed.size = ops.size → listed.getD n false = false → listed.toList.count false ≤ fuel → Touch [] wd w → Known ops a0 a → Closed ops listed →
      (∀ j, listed.getD j false = true → (j ∉ D ∨ listed.getD jw false = false) → Has ops (okL L) a w j) → wpAny P .any ops Q fuel listed a w := by
  obtain ⟨hsz, on, hon, hwait⟩ := lastD_spec hlast
  unfold localB at hloc
  simp only [Bool.and_eq_true, decide_eq_true_eq, List.all_eq_true, List.mem_range, Bool.or_eq_true, List.any_eq_true] at hloc
  obtain ⟨⟨hjn, hD⟩, hI⟩ := hloc
  have hDall : ∀ listed, Closed ops listed → ∀ d ∈ D, (∀ j, waitsB ops jw j = true → listed.getD j false = true) → listed.getD d false = true := by
    intro listed hcl d hd hr
    rcases (hD d hd).2 with h | ⟨d', _, h1, h2⟩
    · exact hr d h
    · exact hcl d' d h2 (hr d' h1)
  intro fuel
  induction fuel with
  | zero =>
    intro listed a w hs hn hc ht hk hcl hh
    exfalso
    have hil : n < listed.size := by omega
    have h0 : listed.toList.count false = 0 := by omega
    rw [List.count_eq_zero] at h0
    have hx : listed[n] = false := by simpa [Array.getD_eq_getD_getElem?, Array.getElem?_eq_getElem hil] using hn
    exact h0 (by rw [← hx]; simp)
  | succ fuel ih =>
    intro listed a w hs hn hc ht hk hcl hh
    refine ⟨fun h0 => ?_, fun i hi => ?_⟩
    · have := all_listed hacy hs h0 n (by omega)
      rw [this] at hn
      cases hn
    obtain ⟨hun, o, ho, hall⟩ := mem_ready.1 hi
    have hlt : i < ops.size := (Array.getElem?_eq_some_iff.1 ho).1
    have hil : i < listed.size := by omega
    have hready : ∀ j, waitsB ops i j = true → listed.getD j false = true := fun j hj => by
      obtain ⟨o', ho', e, he, hb, hej⟩ := waits_spec hj
      rw [ho] at ho'
      cases ho'
      have := hall e he hb
      rwa [hej] at this
    by_cases hin' : i = n
    · subst hin'
      obtain rfl : on = o := by rw [hon] at ho; simpa using ho
      have hl : ∀ j, j < i → listed.getD j false = true := fun j hj => by
        obtain ⟨e, he, hb, hej⟩ := hwait j hj
        have := hall e he hb
        rwa [hej] at this
      refine hend a w ht hk (fun j hj hjD => ?_) _ fun a' w' hq => wpAny_done hq fuel _ fun j hj => ?_
      · rcases Nat.lt_or_ge j i with h | h
        · exact hh j (hl j h) (.inl hjD)
        · obtain rfl : j = i := by omega
          intro o' d' ho' hd'
          have hd : d' < a.tmps.size := by rw [hk.2.1]; exact hin j o' d' ho' hd'
          exact ⟨a.tmps[d'], Array.getElem?_eq_getElem hd, hLn _ _⟩
      · simp only [Array.getD_eq_getD_getElem?]
        by_cases e : j = i
        · subst e
          simp [hil]
        · rw [Array.getElem?_setIfInBounds_ne (fun h => e h.symm)]
          have := hl j (by omega)
          simpa only [Array.getD_eq_getD_getElem?] using this
    have hif : listed[i] = false := by simpa [Array.getD_eq_getD_getElem?, Array.getElem?_eq_getElem hil] using hun
    have hun' : listed.getD i false = false := by simp [Array.getD_eq_getD_getElem?, Array.getElem?_eq_getElem hil, hif]
    have hset : ∀ j, (listed.setIfInBounds i true).getD j false = true ↔ (j = i ∨ listed.getD j false = true) := fun j => by
      simp only [Array.getD_eq_getD_getElem?]
      by_cases e : j = i
      · subst e; simp [hil]
      · rw [Array.getElem?_setIfInBounds_ne (fun h => e h.symm)]; simp [e]
    have hcl' : Closed ops (listed.setIfInBounds i true) := fun i' j' hw hl' => by
      rw [hset] at hl' ⊢
      rcases hl' with rfl | hl'
      · exact .inr (hready j' hw)
      · exact .inr (hcl i' j' hw hl')
    have hkn : ∀ v, Known ops a0 (a.put o.dst v) := fun v => by
      obtain ⟨k1, k2, k3⟩ := hk
      cases hd : o.dst with
      | none => exact ⟨k1, k2, k3⟩
      | some d =>
        refine ⟨k1, by simp [Act.put, k2], fun q hq => ?_⟩
        have hne : d ≠ q := fun e => hq i o ho (by rw [hd, e])
        simp only [Act.put]
        rw [Array.getElem?_setIfInBounds_ne hne]
        exact k3 q hq
    have hcount : (listed.setIfInBounds i true).toList.count false ≤ fuel := by
      rw [Array.toList_setIfInBounds, List.count_set (by simpa using hil)]
      have : listed.toList[i]'(by simpa using hil) = false := by simpa using hif
      rw [this]
      have hpos : 0 < listed.toList.count false := List.count_pos_iff.2 (by rw [← this]; simp)
      have e1 : (if (false == false) = true then 1 else 0 : Nat) = 1 := rfl
      have e2 : (if (true == false) = true then 1 else 0 : Nat) = 0 := rfl
      rw [e1, e2]
      omega
    have hnn : (listed.setIfInBounds i true).getD n false = false := by
      cases h : (listed.setIfInBounds i true).getD n false with
      | false => rfl
      | true =>
        rcases (hset n).1 h with h' | h'
        · exact absurd h'.symm hin'
        · rw [hn] at h'; cases h'
    have hput : ∀ (v : Value) (w' : World) (j : Nat) (o' : Oper) (d' : Tmp), ops[j]? = some o' → o'.dst = some d' → j ≠ i → (a.put o.dst v).eval (.tmp d') = a.eval (.tmp d') := fun v w' j o' d' ho' hd' hne => by
      cases hd : o.dst with
      | none => rfl
      | some d =>
        have hne2 : d ≠ d' := fun e2 => hne (hdst j i o' o d' ho' ho hd' (by rw [hd, e2]))
        simp [Act.put, Act.eval, Array.getElem?_setIfInBounds_ne hne2]
    have hown : ∀ (v : Value) (d' : Tmp), o.dst = some d' → (a.put o.dst v).tmps[d']? = some v := fun v d' hd' => by
      rw [hd']
      have := hin i o d' ho hd'
      simp [Act.put, hk.2.1, this]
    by_cases hij : i = jw
    · subst hij
      obtain ⟨hwant, v, w', hrun, hφ, ht'⟩ := hwr o ho a w ht hk fun e he hb => hh e.on (hall e he hb) (.inr hun')
      unfold Go.wpOp
      simp only [ho]
      rw [if_pos hwant]
      left
      unfold Oper.wp
      rw [hrun]
      refine ih _ _ _ (by simpa using hs) hnn hcount ht' (hkn v) hcl' fun j hj hjD => ?_
      intro o' d' ho' hd'
      by_cases e : j = i
      · subst e
        obtain rfl : o = o' := by rw [ho] at ho'; simpa using ho'
        exact ⟨v, hown v d' hd', hφ⟩
      · have hjl : listed.getD j false = true := by
          rcases (hset j).1 hj with h | h
          · exact absurd h e
          · exact h
        have hjD' : j ∉ D := by
          rcases hjD with h | h
          · exact h
          · have := (hset i).2 (.inl rfl)
            rw [this] at h
            cases h
        have hji : j < i := by
          rcases Nat.lt_or_ge i j with h | h
          · have hlj : j < ops.size := by
              rcases Nat.lt_or_ge j listed.size with h' | h'
              · omega
              · simp [Array.getD_eq_getD_getElem?, Array.getElem?_eq_none h'] at hjl
            rcases (hI j hlj).1 with h' | h'
            · omega
            · have := hcl j i h' hjl
              rw [hun'] at this
              cases this
          · omega
        obtain ⟨u, hu, hΦ⟩ := hh j hjl (.inl hjD') o' d' ho' hd'
        have hc0 : okL L j u w' := by
          unfold constB at hcon
          rw [List.all_eq_true] at hcon
          have := hcon j (List.mem_range.2 hji)
          simp only [Bool.or_eq_true, List.contains_iff_mem] at this
          rcases this with h | h
          · exact absurd h hjD'
          · unfold okL at hΦ ⊢
            cases hLj : L[j]? with
            | none => trivial
            | some l =>
              rw [hLj] at h hΦ
              cases l with
              | const c => exact hΦ
              | pred φ => cases h
        refine ⟨u, ?_, hc0⟩
        cases hd : o.dst with
        | none => exact hu
        | some d =>
          have hne : d ≠ d' := fun e2 => e (hdst j i o' o d' ho' ho hd' (by rw [hd, e2]))
          simp only [Act.put]
          rw [Array.getElem?_setIfInBounds_ne hne]
          exact hu
    · have hdeps : ∀ e ∈ o.after, Region.binds .any e = true → Has ops (okL L) a w e.on := fun e he hb => by
        refine hh e.on (hall e he hb) ?_
        by_cases hjl : listed.getD jw false = true
        · left
          intro hmem
          have hw := waits_of ho he hb
          rcases (hI i hlt).2 with ((h | h) | h) | h
          · exact hij (by simpa using h)
          · have hiD : i ∈ D := by simpa using h
            have hdl := hDall listed hcl i hiD (fun j hj => hcl jw j hj hjl)
            rw [hun'] at hdl
            cases hdl
          · exact hin' (by simpa using h)
          · have := h e.on hmem
            rw [hw] at this
            cases this
        · right
          simpa using hjl
      refine DoesG.wpOp ho (hop i o ho (by omega) hij a w ht hk hdeps) fun v w' hφ t => ?_
      refine ih _ _ _ (by simpa using hs) hnn hcount (ht.trans t (by simp)) (hkn v) hcl' fun j hj hjD => ?_
      intro o' d' ho' hd'
      by_cases e : j = i
      · subst e
        obtain rfl : o = o' := by rw [ho] at ho'; simpa using ho'
        exact ⟨v, hown v d' hd', hφ⟩
      · have hjl : listed.getD j false = true := by
          rcases (hset j).1 hj with h | h
          · exact absurd h e
          · exact h
        have hjD' : j ∉ D ∨ listed.getD jw false = false := by
          rcases hjD with h | h
          · exact .inl h
          · right
            cases hjw : listed.getD jw false with
            | false => rfl
            | true =>
              have := (hset jw).2 (.inr hjw)
              rw [this] at h
              cases h
        obtain ⟨u, hu, hΦ⟩ := hh j hjl hjD' o' d' ho' hd'
        refine ⟨u, ?_, hst j u w w' hΦ t⟩
        cases hd : o.dst with
        | none => exact hu
        | some d =>
          have hne : d ≠ d' := fun e2 => e (hdst j i o' o d' ho' ho hd' (by rw [hd, e2]))
          simp only [Act.put]
          rw [Array.getElem?_setIfInBounds_ne hne]
          exact hu
theorem wp_region_locald {id : Nat} {a0 : Act} {w wd : World} {l : List Oper} (n jw : Nat) (D : List Nat) (L : List Leaf) (hm : P.follows .mixedOrders = true) (hB : phiB l.toArray a0.tmps.size = true) (hL : slotsB (forget D L) l = true) (hlast : lastD l.toArray n = true) (hLn : ∀ v w, okL L n v w)
    (hloc : localB l.toArray n jw D = true) (hcon : constB L jw D = true) (hw : Touch [] wd w.drew) (hst : StabL L)
    (hop : ∀ (i : Nat) (o : Oper), l[i]? = some o → i < n → i ≠ jw → ∀ a w, Touch [] wd w → Known l.toArray a0 a → (∀ e ∈ o.after, Region.binds .any e = true → Has l.toArray (okL L) a w e.on) → DoesG P l.toArray (okL L i) o a w)
    (hwr : ∀ (o : Oper), l[jw]? = some o → ∀ a w, Touch [] wd w → Known l.toArray a0 a → (∀ e ∈ o.after, Region.binds .any e = true → Has l.toArray (okL L) a w e.on) → LocalDoes P l.toArray wd (okL L jw) o a w)
    (hend : ∀ (x : Nat → Value) (w : World), Touch [] wd w → KnowL x w (forget D L) 0 → wpList P l.toArray Q (l.drop n) (putL x (forget D L) l 0 a0) w) : (Code.region id l.toArray true).wp P Q a0 w := by
  obtain ⟨h1, h2, h3⟩ := phiB_spec hB
  obtain ⟨hsz, on, hon, hwait⟩ := lastD_spec hlast
  have hln : l.length = n + 1 := by simpa using hsz
  have hon' : l[n]? = some on := by simpa using hon
  have hdrop : l.drop n = [on] := by
    have hlt : n < l.length := by omega
    have e := List.drop_eq_getElem_cons hlt
    rw [e]
    have : l[n] = on := by
      rw [List.getElem?_eq_getElem hlt] at hon'
      simpa using hon'
    rw [this, List.drop_of_length_le (by omega)]
  refine wp_region_any hm (wpAny_phi6d (n := n) (jw := jw) (D := D) (L := L) (okL_stab hst) h1 h2 h3 hlast hLn hloc hcon (fun i o ho => hop i o (by simpa using ho)) (fun o ho => hwr o (by simpa using ho)) (fun a w ht hk hh K hK => ?_) l.toArray.size (Array.replicate l.toArray.size false) a0 _ (by simp) ?_ (by simp) hw ⟨rfl, rfl, fun _ _ => rfl⟩ (fun i j _ hj => ?_) (fun j hj => ?_))
  · have hh' : ∀ j, j < l.toArray.size → Has l.toArray (okL (forget D L)) a w j := fun j hj => by
      intro o' d' ho' hd'
      by_cases hjD : j ∈ D
      · have hd : d' < a.tmps.size := by rw [hk.2.1]; exact h2 j o' d' ho' hd'
        refine ⟨a.tmps[d'], Array.getElem?_eq_getElem hd, ?_⟩
        unfold okL
        rw [forget_get]
        cases hLj : L[j]? with
        | none => simp
        | some l => simp [hjD, Leaf.ok]
      · obtain ⟨u, hu, hΦ⟩ := hh j hj hjD o' d' ho' hd'
        refine ⟨u, hu, ?_⟩
        unfold okL at hΦ ⊢
        rw [forget_get]
        cases hLj : L[j]? with
        | none => simp
        | some l => rw [hLj] at hΦ; simpa [hjD] using hΦ
    have hx : ∀ (j : Nat) (o : Oper) (d : Tmp), l.toArray[j]? = some o → o.dst = some d → (fun j => a.tmps.getD (((l[j]?).bind (·.dst)).getD 0) undef) j = a.tmps.getD d undef := fun j o d ho hd => by
      have ho' : l[j]? = some o := by simpa using ho
      simp [ho', hd]
    have e := putL_all (a := a) (w := w) (L0 := forget D L) (fun j => a.tmps.getD (((l[j]?).bind (·.dst)).getD 0) undef) hx hh' (forget D L) l 0 a0 (fun j => by rw [Nat.zero_add]) (fun j => by rw [Nat.zero_add]; simp) (slotsB_length hL) hk.1.symm hk.2.1.symm
      (fun t hn => (hk.2.2 t fun j o ho => hn j o (Nat.zero_le _) ho).symm)
    have k := knowL_of (a := a) (w := w) (L0 := forget D L) _ hx hh' (forget D L) l 0 (fun j => by rw [Nat.zero_add]) (fun j => by rw [Nat.zero_add]; simp) hL
    have := hend _ w ht k
    rw [e, hdrop] at this
    have hw' : wpOp P l.toArray Q n (wpList P l.toArray Q []) a w := by
      unfold wpOp
      simp only [hon]
      exact this
    exact wpOp_mono (fun a' w' h' => hK a' w' h') hw'
  · simp only [Array.getD_eq_getD_getElem?]
    rw [Array.getElem?_replicate]
    split <;> rfl
  · simp only [Array.getD_eq_getD_getElem?] at hj
    rw [Array.getElem?_replicate] at hj
    split at hj <;> simp at hj
  · simp only [Array.getD_eq_getD_getElem?] at hj
    rw [Array.getElem?_replicate] at hj
    split at hj <;> simp at hj
end
end Go.Proofs.Ytalkpoeliekbfaa

/-
  The reference of layer 7 (chain): Join.
-/
namespace Go.Proofs.Ytalkpoeliekbfaa
open Go.ChangeShapes Go.WideShapes Go.ChangeAt Go.RowKit Go.Deep
set_option linter.unusedVariables false
set_option linter.unusedSimpArgs false
theorem nv_ones (l : List Nat) : ∀ u ∈ nv l, u.oneCell' = true := by
  intro u hu
  simp [nv] at hu
  obtain ⟨_, _, rfl⟩ := hu
  rfl
/-- A list appended to an empty literal: in new memory alone. -/
theorem append_nodes {Z : List Nat} {w : World} {b0 : Nat} {v u : Value} {l : List Nat} (ty : TypeId) (hv : ∃ g, v = .slice (some ⟨g, 0, none⟩) 0 0) (ho : w.ownsRow b0 3 1 v 0 []) (hu : LNat Z w u l) (hl : l.length ≤ 5000) (hb : b0 ≤ w.heap.size) :
    ∃ v' w', (Builtin.append_ #[40, 40] ty #[v, u]).run Try.prog w = .ok v' w' ∧ w'.ownsRow b0 3 1 v' l.length (nv l) ∧ Touch [] w w' := by
  obtain ⟨i0, hi0, hz0, hz1, hz2⟩ := info_parts cint_info
  obtain ⟨g, rfl⟩ := hv
  obtain ⟨A, c, rfl⟩ := hu.form
  obtain ⟨n0, n1⟩ := hu.news
  have hlen : (nv l).length = l.length * 1 := by rw [nv_length]; omega
  by_cases h0 : l.length = 0
  · have hsrc : Src Try.prog i0.size 40 (.slice A l.length c) 0 [] w := by
      rw [h0]
      cases A with
      | none => exact Src.ofNil w Try.underlying40 c
      | some a => exact Src.ofSlice w Try.underlying40 a 0 c [] (by simp) (fun j u h => by simp at h) (fun u h => by simp at h)
    have hr := run_append_nothing w 40 40 ty 3 i0 Try.underlying40 hi0 (some ⟨g, 0, none⟩) 0 0 (Nat.le_refl _) (.slice A l.length c) hsrc
    refine ⟨_, w, hr, ?_, Touch.refl _ _⟩
    rw [h0, List.length_eq_zero_iff.1 h0]
    exact ho
  · cases A with
    | none => exact absurd (n0 rfl) h0
    | some ad =>
      have hnews := n1 ad rfl
      have hg := run_append_grow (P := Try.prog) w 40 ty 3 i0 (.int .i64 0) Try.underlying40 hi0 hz0 ⟨g, 0, none⟩ 0 0 [] (by simp) (by simp) ad l.length c (nv l) (by rw [hz1]; exact hlen) hnews (by omega) (by omega) (by rw [hz2]; exact growslice_fits (by omega) (by omega))
      obtain ⟨v', w', hr, hown, _, _, _⟩ := run_append_own_at (P := Try.prog) w b0 40 ty 3 i0 (.int .i64 0) 1 8 Try.underlying40 hi0 hz0 hz1 hz2 rfl (by decide) _ 0 [] ho ad l.length c (nv l) hlen hnews (nv_ones _) (by unfold maxLen; omega) (by omega) hb
      rw [hr] at hg
      refine ⟨v', w', hr, by simpa using hown, ?_⟩
      cases hg
      exact (Touch.refl [] w).drew.alloc _
theorem do_new {P : Program} {ops : Array Oper} {a : Act} {w w' : World} {φ : Value → World → Prop} {o : Oper} (hw : Region.wanted o (yielded ops a.tmps) = true) {v : Value} (hrun : (execOp a.eval o).run P w = .ok (.value v) w') (h : φ v w') (t : Touch [] w w') : DoesG P ops φ o a w := .inl ⟨hw, by rw [hrun]; exact ⟨h, t⟩⟩
def NilLit (b0 : Nat) (v : Value) (w : World) : Prop := (∃ g, v = .slice (some ⟨g, 0, none⟩) 0 0) ∧ w.ownsRow b0 3 1 v 0 []
def OwnNat (b0 : Nat) (l : List Nat) (v : Value) (w : World) : Prop := w.ownsRow b0 3 1 v l.length (nv l)
theorem NilLit.stab {b0 : Nat} : Stab (NilLit b0) := fun v w w' ⟨h1, h2⟩ t => ⟨h1, t.row h2 (by simp)⟩
theorem OwnNat.stab {b0 : Nat} {l : List Nat} : Stab (OwnNat b0 l) := fun v w w' h t => t.row h (by simp)
theorem LNat.stab {Z : List Nat} {l : List Nat} : Stab (fun v w => LNat Z w v l) := fun v w w' h t => h.carry t (by simp)
section
variable {Z : List Nat} {w : World} {v : Value} {k : Nat} {L : Nat → List Nat}
set_option maxRecDepth 100000 in
theorem refJoin_no (h : ListsAt Z w v k L) (a c : Int) (hno : inR a k = false ∨ inR c k = false ∨ a = c) :
    Calls Try.prog 14 #[v, .int .i64 a, .int .i64 c] w fun e w' => e = .returned (.tuple #[v, .bool false]) ∧ w' = w := by
  have J := Lib.hid (refIs h a)
  have K := Lib.hid (refIs h c)
  obtain ⟨g, cc, rfl⟩ := h.form
  clear h
  generalize inR a k = y at *
  generalize inR c k = z at *
  by_cases h1 : y = false
  · subst h1
    go_enter Try.func14, Try.ntmps14
    go_wp2_with fail
    refine (J.out).mono ?_
    rintro e w1 ⟨rfl, rfl⟩
    go_wp2_with fail
    exact bodyPost_ret (v := .tuple #[.slice (some ⟨g, 0, none⟩) k cc, .bool false]) (by simp [results, Try.results14, go_sem]) rfl ⟨rfl, rfl⟩
  · obtain rfl : y = true := by simpa using h1
    by_cases h2 : z = false
    · subst h2
      go_enter Try.func14, Try.ntmps14
      go_wp2_with fail
      refine (J.out).mono ?_
      rintro e w1 ⟨rfl, rfl⟩
      go_wp2_with fail
      refine (K.out).mono ?_
      rintro e w1 ⟨rfl, rfl⟩
      go_wp2_with fail
      exact bodyPost_ret (v := .tuple #[.slice (some ⟨g, 0, none⟩) k cc, .bool false]) (by simp [results, Try.results14, go_sem]) rfl ⟨rfl, rfl⟩
    · obtain rfl : z = true := by simpa using h2
      obtain rfl : a = c := by simpa using hno
      have b0 : (a == a) = true := by simp
      go_enter Try.func14, Try.ntmps14
      go_wp2_with fail
      refine (J.out).mono ?_
      rintro e w1 ⟨rfl, rfl⟩
      go_wp2_with fail
      refine (K.out).mono ?_
      rintro e w1 ⟨rfl, rfl⟩
      go_wp2_with fail
      exact bodyPost_ret (v := .tuple #[.slice (some ⟨g, 0, none⟩) k cc, .bool false]) (by simp [results, Try.results14, go_sem]) rfl ⟨rfl, rfl⟩
theorem append_more {w : World} {b0 c : Nat} {v : Value} {A : Option Addr} {l m : List Nat} (ty : TypeId) (ho : w.ownsRow b0 3 1 v l.length (nv l)) (n0 : A = none → m.length = 0) (n1 : ∀ ad, A = some ad → ∀ j u, (nv m)[j]? = some u → w.cell? (ad.add j) = some u) (hl : l.length ≤ 5000) (hm : m.length ≤ 5000) (hb : b0 ≤ w.heap.size) :
    ∃ v' w', (Builtin.append_ #[40, 40] ty #[v, .slice A m.length c]).run Try.prog w = .ok v' w' ∧ w'.ownsRow b0 3 1 v' (l ++ m).length (nv (l ++ m)) ∧ w.grownBy w' v.ownBlock := by
  obtain ⟨i0, hi0, hz0, hz1, hz2⟩ := info_parts cint_info
  cases A with
  | none =>
    have h0 := n0 rfl
    obtain ⟨A', c', hv, hle⟩ : ∃ A' c', v = .slice A' l.length c' ∧ l.length ≤ c' := by
      rcases ho.2 with ⟨rfl, h⟩ | ⟨g', cap, cur, rfl, h2, hh, h3, h4, h5⟩
      · exact ⟨none, 0, by rw [h], by omega⟩
      · exact ⟨_, _, rfl, h3⟩
    subst hv
    have hr := run_append_nothing (P := Try.prog) w 40 40 ty 3 i0 Try.underlying40 hi0 A' l.length c' hle (.slice none 0 c) (by rw [hz1]; exact Src.ofNil _ Try.underlying40 c)
    refine ⟨_, w, by rw [h0]; exact hr, ?_, ⟨rfl, rfl, rfl, Nat.le_refl _, fun _ _ _ => rfl⟩⟩
    rw [List.length_eq_zero_iff.1 h0, List.append_nil]
    exact ho
  | some ad =>
    obtain ⟨v', w', hr, hown, hgrow, _, _⟩ := run_append_own_at (P := Try.prog) w b0 40 ty 3 i0 (.int .i64 0) 1 8 Try.underlying40 hi0 hz0 hz1 hz2 rfl (by decide) v l.length _ ho ad m.length c (nv m) (by rw [nv_length]; omega) (n1 ad rfl) (nv_ones _) (by unfold maxLen; omega) (by omega) hb
    exact ⟨v', w', hr, by rw [nv_append, List.length_append]; exact hown, hgrow⟩
set_option maxHeartbeats 1600000 in
set_option maxRecDepth 100000 in
theorem refJoin_yes {a c : Nat} (h : ListsAt Z w v k L) (hl : ∀ i, i < k → (L i).length ≤ 5000) (hkk : k ≤ 1000) (hZ : ∀ b ∈ Z, b < w.heap.size) (ha : a < k) (hc : c < k) (hac : a ≠ c) :
    Calls Try.prog 14 #[v, .int .i64 (a : Int), .int .i64 (c : Int)] w (ToldC Z k (joinX L a c) true w) := by
  have J := Lib.hid (refIs h a)
  have K := Lib.hid (refIs h c)
  rw [inR_yes ⟨by omega, by omega⟩] at J K
  have HQ := Lib.hid h
  have hla := hl a ha
  have hlc := hl c hc
  obtain ⟨g, cg, rfl, h1, h2, hg, h4, h5⟩ := h
  obtain ⟨u, hu, hlu⟩ := h5 a ha
  obtain ⟨Aa, ca, rfl⟩ := hlu.form
  have HUA := Lib.hid hlu
  have HCA := Lib.hid hu
  obtain ⟨u2, hu2, hlu2⟩ := h5 c hc
  obtain ⟨Ac, cc, rfl⟩ := hlu2.form
  have HUC := Lib.hid hlu2
  have HCC := Lib.hid hu2
  have ha8 : (a : Int) < (k : Int) := by omega
  have hc8 : (c : Int) < (k : Int) := by omega
  have bac : ((a : Int) == (c : Int)) = false := by simp; omega
  have HAC := Lib.hid hac
  unfold ToldC
  clear h5 hlu hlu2 hu hu2 hl hac
  go_enter Try.func14, Try.ntmps14
  go_wp2_with fail
  refine (J.out).mono ?_
  rintro e w1 ⟨rfl, hw⟩
  rw [hw]
  clear hw w1
  go_wp2_with fail
  refine (K.out).mono ?_
  rintro e w2 ⟨rfl, hw⟩
  rw [hw]
  clear hw w2 J K
  obtain ⟨b0, hb0⟩ : ∃ b0, b0 = w.heap.size := ⟨_, rfl⟩
  have HZ := Lib.hid hZ
  have HZB := Lib.hid (show ∀ b ∈ Z, b < b0 by rw [hb0]; exact hZ)
  have HSZ := Lib.hid (show b0 ≤ w.heap.size by omega)
  have HSE := Lib.hid (show w.heap.size ≤ b0 by omega)
  clear hb0 hZ
  go_upto_region 3 with fail
  refine wp_region_locald (wd := w) 11 10 [0, 5] (Leaf.pred (NilLit b0) :: Leaf.const (.slice (some ⟨g, 0, none⟩) k cg) :: Leaf.const (.int .i64 (a : Int)) :: Leaf.const (.pointer (some ⟨g, a, none⟩)) :: Leaf.const (.slice Aa (L a).length ca) :: Leaf.pred (OwnNat b0 (L a)) :: Leaf.const (.slice (some ⟨g, 0, none⟩) k cg) :: Leaf.const (.int .i64 (c : Int)) :: Leaf.const (.pointer (some ⟨g, c, none⟩)) :: Leaf.const (.slice Ac (L c).length cc) :: Leaf.pred (fun v w => LNat Z w v (L a ++ L c)) :: Leaf.pred (fun _ _ => True) :: []) (by kernel_rfl) (by kernel_rfl) (by kernel_rfl) (by kernel_rfl) (fun _ _ => trivial) (by kernel_rfl) (by kernel_rfl) ((Touch.refl _ _).drew) (⟨NilLit.stab, OwnNat.stab, LNat.stab, fun _ _ _ _ _ => trivial, trivial⟩) ?_ ?_ ?_
  · intro i o ho hin hij ac w ht hk hd
    match i, ho, hin, hij with
    | 0, ho, hin, hij =>
      have ho' : some _ = some o := ho
      cases ho'
      clear ho
      refine do_new (wanted_none rfl) (v := .slice (some ⟨w.heap.size, 0, none⟩) 0 0) (w' := w.alloc (.cells #[] 3)) ?_ ⟨⟨_, rfl⟩, World.ownsRow_lit (base := b0) (e := 3) (size := 1) w #[] 0 (Nat.le_trans HSZ.out ht.size) (by unfold maxLen; omega) rfl⟩ ((Touch.refl [] w).alloc _)
      simp [go_sem]
    | 1, ho, hin, hij =>
      have ho' : some _ = some o := ho
      cases ho'
      clear ho
      have e0 := known_slot hk 0 (by kernel_rfl) (v := .slice (some ⟨g, 0, none⟩) k cg) rfl
      exact do_value (wanted_none rfl) (by rw [BigFrame.run_move (.tmp 0) rfl, e0]) rfl
    | 2, ho, hin, hij =>
      have ho' : some _ = some o := ho
      cases ho'
      clear ho
      have e1 := known_slot hk 1 (by kernel_rfl) (v := .int .i64 (a : Int)) rfl
      exact do_value (wanted_none rfl) (by rw [BigFrame.run_move (.tmp 1) rfl, e1]) rfl
    | 3, ho, hin, hij =>
      have ho' : some _ = some o := ho
      cases ho'
      clear ho
      have e26 := has_const (has_dep hd 1 (by kernel_rfl)) rfl rfl rfl (c := (.slice (some ⟨g, 0, none⟩) k cg))
      have e27 := has_const (has_dep hd 2 (by kernel_rfl)) rfl rfl rfl (c := (.int .i64 (a : Int)))
      exact do_value (wanted_none rfl) (v := .pointer (some ⟨g, a, none⟩)) (run_value rfl (by rw [e26, e27]; simp [go_sem, ha8])) rfl
    | 4, ho, hin, hij =>
      have ho' : some _ = some o := ho
      cases ho'
      clear ho
      have e28 := has_const (has_dep hd 3 (by kernel_rfl)) rfl rfl rfl (c := (.pointer (some ⟨g, a, none⟩)))
      have cg1 := (ht.cell (a := ⟨g, a, none⟩) hg (by simp)).trans HCA.out
      exact do_value (wanted_none rfl) (v := .slice Aa (L a).length ca) (run_value rfl (by rw [e28]; simp [go_sem, cg1])) rfl
    | 5, ho, hin, hij =>
      have ho' : some _ = some o := ho
      cases ho'
      clear ho
      obtain ⟨v25, e25, h25⟩ := has_pred (has_dep hd 0 (by kernel_rfl)) rfl rfl rfl (φ := NilLit b0)
      have e29 := has_const (has_dep hd 4 (by kernel_rfl)) rfl rfl rfl (c := (.slice Aa (L a).length ca))
      obtain ⟨v', w', hr, ho2, t2⟩ := append_nodes 40 h25.1 h25.2 (HUA.out.carry ht (by simp)) hla (Nat.le_trans HSZ.out ht.size)
      refine do_new (wanted_none rfl) (v := v') (w' := w') ?_ ho2 t2
      simp [execOp, resolve, invoke, builtin, e25, e29, hr]
    | 6, ho, hin, hij =>
      have ho' : some _ = some o := ho
      cases ho'
      clear ho
      have e0 := known_slot hk 0 (by kernel_rfl) (v := .slice (some ⟨g, 0, none⟩) k cg) rfl
      exact do_value (wanted_none rfl) (by rw [BigFrame.run_move (.tmp 0) rfl, e0]) rfl
    | 7, ho, hin, hij =>
      have ho' : some _ = some o := ho
      cases ho'
      clear ho
      have e2 := known_slot hk 2 (by kernel_rfl) (v := .int .i64 (c : Int)) rfl
      exact do_value (wanted_none rfl) (by rw [BigFrame.run_move (.tmp 2) rfl, e2]) rfl
    | 8, ho, hin, hij =>
      have ho' : some _ = some o := ho
      cases ho'
      clear ho
      have e31 := has_const (has_dep hd 6 (by kernel_rfl)) rfl rfl rfl (c := (.slice (some ⟨g, 0, none⟩) k cg))
      have e32 := has_const (has_dep hd 7 (by kernel_rfl)) rfl rfl rfl (c := (.int .i64 (c : Int)))
      exact do_value (wanted_none rfl) (v := .pointer (some ⟨g, c, none⟩)) (run_value rfl (by rw [e31, e32]; simp [go_sem, hc8])) rfl
    | 9, ho, hin, hij =>
      have ho' : some _ = some o := ho
      cases ho'
      clear ho
      have e33 := has_const (has_dep hd 8 (by kernel_rfl)) rfl rfl rfl (c := (.pointer (some ⟨g, c, none⟩)))
      have cg2 := (ht.cell (a := ⟨g, c, none⟩) hg (by simp)).trans HCC.out
      exact do_value (wanted_none rfl) (v := .slice Ac (L c).length cc) (run_value rfl (by rw [e33]; simp [go_sem, cg2])) rfl
    | 10, ho, hin, hij => exact absurd rfl hij
    | 11, ho, hin, hij => exact absurd hin (by omega)
    | q + 12, ho, hin, hij => exact absurd ho (by simp)
  · intro o ho ac w ht hk hd
    have ho' : some _ = some o := ho
    cases ho'
    clear ho
    obtain ⟨v30, e30, h30⟩ := has_pred (has_dep hd 5 (by kernel_rfl)) rfl rfl rfl (φ := OwnNat b0 (L a))
    have e34 := has_const (has_dep hd 9 (by kernel_rfl)) rfl rfl rfl (c := (.slice Ac (L c).length cc))
    obtain ⟨n0, n1⟩ := (HUC.out.carry ht (by simp)).news
    obtain ⟨v', w', hr, hown, hbel⟩ := append_more (c := cc) 40 h30 n0 n1 hla hlc (Nat.le_trans HSZ.out ht.size)
    refine ⟨wanted_none rfl, v', w', ?_, LNat.own (base := b0) hown HZB.out, ht.grown hbel (fun g hg => .inr (by have h1 := own_base h30 hg; have h2 := HSE.out; omega))⟩
    simp [execOp, resolve, invoke, builtin, e30, e34, hr]
  · intro x' w4 T4 hkn
    obtain ⟨-, -, hx10, -⟩ := hkn
    rw [show forget [0, 5] (Leaf.pred (NilLit b0) :: Leaf.const (.slice (some ⟨g, 0, none⟩) k cg) :: Leaf.const (.int .i64 (a : Int)) :: Leaf.const (.pointer (some ⟨g, a, none⟩)) :: Leaf.const (.slice Aa (L a).length ca) :: Leaf.pred (OwnNat b0 (L a)) :: Leaf.const (.slice (some ⟨g, 0, none⟩) k cg) :: Leaf.const (.int .i64 (c : Int)) :: Leaf.const (.pointer (some ⟨g, c, none⟩)) :: Leaf.const (.slice Ac (L c).length cc) :: Leaf.pred (fun v w => LNat Z w v (L a ++ L c)) :: Leaf.pred (fun _ _ => True) :: []) = (Leaf.pred (fun _ _ => True) :: Leaf.const (.slice (some ⟨g, 0, none⟩) k cg) :: Leaf.const (.int .i64 (a : Int)) :: Leaf.const (.pointer (some ⟨g, a, none⟩)) :: Leaf.const (.slice Aa (L a).length ca) :: Leaf.pred (fun _ _ => True) :: Leaf.const (.slice (some ⟨g, 0, none⟩) k cg) :: Leaf.const (.int .i64 (c : Int)) :: Leaf.const (.pointer (some ⟨g, c, none⟩)) :: Leaf.const (.slice Ac (L c).length cc) :: Leaf.pred (fun v w => LNat Z w v (L a ++ L c)) :: Leaf.pred (fun _ _ => True) :: []) from rfl]
    simp only [putL, Act.put, List.setIfInBounds_toArray, List.set_cons_succ, List.set_cons_zero, List.drop]
    have hx : LNat Z w4 (x' 10) (L a ++ L c) := hx10
    obtain ⟨A4, c4, hf⟩ := hx.form
    rw [hf] at hx
    rw [hf]
    have HX := Lib.hid hx
    have TT := Lib.hid T4
    have W1 := Lib.hid (refWithC (HQ.out.carry TT.out (by simp)) hkk ha HX.out (fun b hb => Nat.lt_of_lt_of_le (HZ.out b hb) TT.out.size))
    clear hx hx10 T4 hf HUA HUC HCA HCC
    simp only [Nat.zero_add, Nat.reduceAdd]
    generalize x' 0 = q0
    generalize x' 5 = q5
    generalize x' 11 = q11
    clear x'
    generalize hM : L a ++ L c = M at *
    have HM := Lib.hid hM
    clear hM
    unfold WithC at W1
    go_wp2_with fail
    refine (W1.out).mono ?_
    rintro e w5 ⟨u5, rfl, h5, t5⟩
    obtain ⟨g5, c5, rfl⟩ := h5.form
    have T5 := Lib.hid (TT.out.trans t5 (by simp))
    have W2 := Lib.hid (refWithC h5 hkk hc (LNat.nil Z w5) (fun b hb => Nat.lt_of_lt_of_le (HZ.out b hb) T5.out.size))
    unfold WithC at W2
    clear h5 t5 W1
    go_wp2_with fail
    refine (W2.out).mono ?_
    rintro e w6 ⟨u6, rfl, h6, t6⟩
    obtain ⟨g6, c6, rfl⟩ := h6.form
    have T6 := Lib.hid (T5.out.trans t6 (by simp))
    have H6 := Lib.hid h6
    clear h6 t6 W2
    go_wp2_with fail
    exact bodyPost_ret (v := .tuple #[.slice (some ⟨g6, 0, none⟩) k c6, .bool true]) (by simp [results, Try.results14, go_sem]) rfl ⟨_, rfl, by unfold joinX; rw [HM.out]; exact H6.out, T6.out⟩
end
end Go.Proofs.Ytalkpoeliekbfaa

/-
  Layer 7 (chain): both sides of each call that ChainPlays makes.
-/
namespace Go.Proofs.Ytalkpoeliekbfaa
open Go.ChangeShapes Go.WideShapes Go.ChangeAt Go.RowKit Go.Deep
set_option linter.unusedVariables false
set_option linter.unusedSimpArgs false
theorem inR_to {a n : Nat} (h : a < n) : inR (a : Int) n = true := inR_yes ⟨by omega, by omega⟩
/-- The lists and the reference's, which hold the same. -/
structure CP (W w : World) (p gn gw gl nn cn cw k cl : Nat) (X : Nat → List Nat) (v : Value) : Prop where
  ch : Chained w p gn gw gl nn cn cw k cl X
  rf : ListsAt [p, gn, gw, gl] w v k X
  far : W.heap.size ≤ p ∧ W.heap.size ≤ gn ∧ W.heap.size ≤ gw ∧ W.heap.size ≤ gl
  t : Touch [] W w
section
variable {W w w' : World} {p gn gw gl nn cn cw k cl : Nat} {X X' : Nat → List Nat} {v u : Value}
theorem Chained.lts (h : Chained w p gn gw gl nn cn cw k cl X) : p < w.heap.size ∧ gn < w.heap.size ∧ gw < w.heap.size ∧ gl < w.heap.size := by
  obtain ⟨N, V, E, h1, h2⟩ := h
  exact h1.lts
/-- Either it is in some list, or in none. -/
theorem Chained.place (h : Chained w p gn gw gl nn cn cw k cl X) {x n : Int} {b : Bool} (hp : PlaceIs k X x n b) :
    Calls Try.prog 17 #[.pointer (some ⟨p, 0, none⟩), .int .i64 x] w fun e w' => e = .returned (.tuple #[.int .i64 n, .bool b]) ∧ w' = w := by
  rcases hp with ⟨rfl, j, hj, rfl, ⟨y, hy, rfl⟩, _⟩ | ⟨rfl, rfl, hno⟩
  · exact h.where_yes hj hy
  · exact h.where_no x fun y hy i hi hm => hno i hi ⟨y, hm, hy.symm⟩
/-- Pop, with whatever it returns. -/
theorem Chained.pop_way (h : Chained w p gn gw gl nn cn cw k cl X) (hn : nn ≤ 5000) (l : Int) : ∃ (n : Nat) (ok : Bool) (X' : Nat → List Nat),
    Calls Try.prog 11 #[.pointer (some ⟨p, 0, none⟩), .int .i64 l] w (fun e w' => e = .returned (.tuple #[.int .i64 (n : Int), .bool ok]) ∧ w' = w) ∧
    Calls Try.prog 12 #[.pointer (some ⟨p, 0, none⟩), .int .i64 l] w (fun e w' => e = .returned (.tuple #[.int .i64 (n : Int), .bool ok]) ∧ Chained w' p gn gw gl nn cn cw k cl X' ∧ Touch [gn, gw, gl] w w') ∧
    ((ok = false ∧ n = 0 ∧ X' = X ∧ listOf k X l = []) ∨ (ok = true ∧ ∃ (a : Nat) (L : List Nat), l = (a : Int) ∧ a < k ∧ X a = n :: L ∧ X' = setL X a L)) := by
  cases h0 : listOf k X l with
  | nil =>
    refine ⟨0, false, X, h.first_no l h0, (h.pop_no l h0).mono ?_, .inl ⟨rfl, rfl, rfl, rfl⟩⟩
    rintro e w' ⟨he, rfl⟩
    exact ⟨he, h, Touch.refl _ _⟩
  | cons x L =>
    cases hl : inR l k
    · rw [listOf_no X hl] at h0
      cases h0
    · obtain ⟨a, rfl, ha⟩ := inR_form hl
      rw [listOf_at X ha] at h0
      exact ⟨x, true, setL X a L, h.first_yes ha h0, h.pop_yes hn ha h0, .inr ⟨rfl, a, L, rfl, ha, h0, rfl⟩⟩
/-- What a push does. -/
def PushWay (nn k : Nat) (X : Nat → List Nat) (l x : Int) (ok : Bool) (X' : Nat → List Nat) : Prop :=
  (ok = false ∧ X' = X ∧ (inR l k = false ∨ inR x nn = false ∨ ∃ (y i : Nat), x = (y : Int) ∧ i < k ∧ y ∈ X i)) ∨
  (ok = true ∧ ∃ a y : Nat, l = (a : Int) ∧ x = (y : Int) ∧ a < k ∧ y < nn ∧ (∀ i, i < k → y ∉ X i) ∧ X' = setL X a (X a ++ [y]))
theorem push_is (nn k : Nat) (X : Nat → List Nat) (l x : Int) : ∃ ok X', PushWay nn k X l x ok X' := by
  cases hl : inR l k
  · exact ⟨false, X, .inl ⟨rfl, rfl, .inl hl⟩⟩
  · cases hx : inR x nn
    · exact ⟨false, X, .inl ⟨rfl, rfl, .inr (.inl hx)⟩⟩
    · obtain ⟨a, rfl, ha⟩ := inR_form hl
      obtain ⟨y, rfl, hy⟩ := inR_form hx
      by_cases h : ∃ i, i < k ∧ y ∈ X i
      · obtain ⟨i, hi, hm⟩ := h
        exact ⟨false, X, .inl ⟨rfl, rfl, .inr (.inr ⟨y, i, rfl, hi, hm⟩)⟩⟩
      · exact ⟨true, _, .inr ⟨rfl, a, y, rfl, rfl, ha, hy, fun i hi hm => h ⟨i, hi, hm⟩, rfl⟩⟩
theorem Chained.push_way (h : Chained w p gn gw gl nn cn cw k cl X) (hn : nn ≤ 5000) {l x : Int} {ok : Bool} (hw : PushWay nn k X l x ok X') :
    Calls Try.prog 10 #[.pointer (some ⟨p, 0, none⟩), .int .i64 l, .int .i64 x] w fun e w' => e = .returned (.bool ok) ∧ Chained w' p gn gw gl nn cn cw k cl X' ∧ Touch [gn, gw, gl] w w' := by
  rcases hw with ⟨rfl, rfl, hno⟩ | ⟨rfl, a, y, rfl, rfl, ha, hy, hf, rfl⟩
  · refine (h.pushNo l x hno).mono ?_
    rintro e w' ⟨he, rfl⟩
    exact ⟨he, h, Touch.refl _ _⟩
  · exact h.push_yes hn ha hy hf
namespace CP
theorem new (h : CP W w p gn gw gl nn cn cw k cl X v) (t : Touch [] w w') : CP W w' p gn gw gl nn cn cw k cl X v :=
  ⟨h.ch.new t, h.rf.carry t (by simp), h.far, h.t.trans t (by simp)⟩
theorem below (h : CP W w p gn gw gl nn cn cw k cl X v) : ∀ b ∈ [p, gn, gw, gl], b < w.heap.size := fun b hb => by
  have := h.ch.lts
  simp at hb
  omega
theorem mid (h : CP W w p gn gw gl nn cn cw k cl X v) (t : Touch [gn, gw, gl] w w') : ListsAt [p, gn, gw, gl] w' v k X ∧ Touch [] W w' :=
  ⟨h.rf.carry t (fun b hb => .inl (List.mem_cons_of_mem _ hb)), h.t.trans t (fun b hb => .inr (by have := h.far; simp at hb; omega))⟩
theorem lens (h : CP W w p gn gw gl nn cn cw k cl X v) (hn : nn ≤ 5000) : ∀ i, i < k → (X i).length ≤ 5000 := fun i hi => Nat.le_trans (h.ch.len hi) hn
theorem push_both (h : CP W w p gn gw gl nn cn cw k cl X v) (hn : nn ≤ 5000) (hk : k ≤ 1000) (l x : Int) : ∃ (ok : Bool) (X' : Nat → List Nat),
    Calls Try.prog 9 #[v, .int .i64 (nn : Int), .int .i64 l, .int .i64 x] w (ToldC [p, gn, gw, gl] k X' ok w) ∧
    ∀ w' u, Touch [] w w' → ListsAt [p, gn, gw, gl] w' u k X' → Calls Try.prog 10 #[.pointer (some ⟨p, 0, none⟩), .int .i64 l, .int .i64 x] w' fun e w'' => e = .returned (.bool ok) ∧ CP W w'' p gn gw gl nn cn cw k cl X' u ∧ Touch [gn, gw, gl] w' w'' := by
  obtain ⟨ok, X', hw⟩ := push_is nn k X l x
  refine ⟨ok, X', ?_, fun w' u t hu => ?_⟩
  · rcases hw with ⟨rfl, rfl, hno⟩ | ⟨rfl, a, y, rfl, rfl, ha, hy, hf, rfl⟩
    · obtain ⟨n, b, hp⟩ := place_is k X' x
      refine (refPush_no h.rf (h.lens hn) (by omega) nn l x hp ?_).mono ?_
      · rcases hno with h1 | h1 | ⟨y, i, rfl, hi, hm⟩
        · exact .inl h1
        · by_cases h2 : x < 0
          · exact .inr (.inl h2)
          · refine .inr (.inr (.inl ?_))
            by_cases h3 : (nn : Int) ≤ x
            · exact h3
            · rw [inR_yes ⟨by omega, by omega⟩] at h1
              cases h1
        · refine .inr (.inr (.inr ?_))
          rcases hp with ⟨hb, _⟩ | ⟨_, _, hno⟩
          · exact hb
          · exact absurd ⟨y, hm, rfl⟩ (hno i hi)
      · rintro e w' ⟨he, rfl⟩
        exact ⟨v, he, h.rf, Touch.refl _ _⟩
    · exact refPush_yes h.rf (h.lens hn) hk h.below nn ha (by omega) (.inr ⟨rfl, rfl, fun i hi ⟨z, hz, e⟩ => hf i hi (by rwa [show y = z by omega])⟩)
  · refine ((h.ch.new t).push_way hn hw).mono ?_
    rintro e w'' ⟨he, hc, t2⟩
    exact ⟨he, ⟨hc, hu.carry t2 (fun b hb => .inl (List.mem_cons_of_mem _ hb)), h.far, (h.new t).mid t2 |>.2⟩, t2⟩
theorem join_both (h : CP W w p gn gw gl nn cn cw k cl X v) (hn : nn ≤ 5000) (hk : k ≤ 1000) (a c : Int) : ∃ (ok : Bool) (X' : Nat → List Nat),
    Calls Try.prog 14 #[v, .int .i64 a, .int .i64 c] w (ToldC [p, gn, gw, gl] k X' ok w) ∧
    ∀ w' u, Touch [] w w' → ListsAt [p, gn, gw, gl] w' u k X' → Calls Try.prog 15 #[.pointer (some ⟨p, 0, none⟩), .int .i64 a, .int .i64 c] w' fun e w'' => e = .returned (.bool ok) ∧ CP W w'' p gn gw gl nn cn cw k cl X' u ∧ Touch [gn, gw, gl] w' w'' := by
  by_cases hno : inR a k = false ∨ inR c k = false ∨ a = c
  · refine ⟨false, X, (refJoin_no h.rf a c hno).mono ?_, fun w' u t hu => ((h.ch.new t).joinNo a c hno).mono ?_⟩
    · rintro e w' ⟨he, rfl⟩
      exact ⟨v, he, h.rf, Touch.refl _ _⟩
    · rintro e w'' ⟨he, t2⟩
      have hn := h.new (t.trans t2 (by simp))
      exact ⟨he, ⟨hn.ch, hu.carry t2 (by simp), h.far, hn.t⟩, t2.mono (by simp)⟩
  · obtain ⟨a, rfl, ha⟩ := inR_form (l := a) (k := k) (by cases h : inR a k; (· exact absurd (.inl h) hno); rfl)
    obtain ⟨c, rfl, hc⟩ := inR_form (l := c) (k := k) (by cases h : inR c k; (· exact absurd (.inr (.inl h)) hno); rfl)
    have hac : a ≠ c := fun e => hno (.inr (.inr (by rw [e])))
    refine ⟨true, joinX X a c, refJoin_yes h.rf (h.lens hn) hk h.below ha hc hac, fun w' u t hu => ((h.ch.new t).join_any hn ha hc hac).mono ?_⟩
    rintro e w'' ⟨he, hc, t2⟩
    exact ⟨he, ⟨hc, hu.carry t2 (fun b hb => .inl (List.mem_cons_of_mem _ hb)), h.far, (h.new t).mid t2 |>.2⟩, t2⟩
theorem pop_both (h : CP W w p gn gw gl nn cn cw k cl X v) (hn : nn ≤ 5000) (hk : k ≤ 1000) (l : Int) : ∃ (n : Int) (ok : Bool) (X' : Nat → List Nat),
    Calls Try.prog 11 #[.pointer (some ⟨p, 0, none⟩), .int .i64 l] w (fun e w' => e = .returned (.tuple #[.int .i64 n, .bool ok]) ∧ w' = w) ∧
    Calls Try.prog 12 #[.pointer (some ⟨p, 0, none⟩), .int .i64 l] w (fun e w' => e = .returned (.tuple #[.int .i64 n, .bool ok]) ∧ Chained w' p gn gw gl nn cn cw k cl X' ∧ Touch [gn, gw, gl] w w') ∧
    ∀ w', Chained w' p gn gw gl nn cn cw k cl X' → Touch [gn, gw, gl] w w' → Calls Try.prog 13 #[v, .int .i64 l] w' fun e w'' => ∃ u, e = .returned (.tuple #[u, .int .i64 n, .bool ok]) ∧ CP W w'' p gn gw gl nn cn cw k cl X' u ∧ Touch [] w' w'' := by
  obtain ⟨n, ok, X', h1, h2, h3⟩ := h.ch.pop_way hn l
  refine ⟨n, ok, X', h1, h2, fun w' hc t => ?_⟩
  obtain ⟨m1, m2⟩ := h.mid t
  rcases h3 with ⟨rfl, rfl, rfl, h0⟩ | ⟨rfl, a, L, rfl, ha, hX, rfl⟩
  · refine (refPop_no m1 l h0).mono ?_
    rintro e w'' ⟨he, rfl⟩
    exact ⟨v, he, ⟨hc, m1, h.far, m2⟩, Touch.refl _ _⟩
  · have hlen := h.lens hn a ha
    rw [hX] at hlen
    simp only [List.length_cons] at hlen
    refine (refPop_yes m1 hk (fun b hb => Nat.lt_of_lt_of_le (h.below b hb) t.size) ha hX (by omega)).mono ?_
    rintro e w'' ⟨u, he, hu, t2⟩
    exact ⟨u, he, ⟨hc.new t2, hu, h.far, m2.trans t2 (by simp)⟩, t2⟩
theorem where_both (h : CP W w p gn gw gl nn cn cw k cl X v) (hn : nn ≤ 5000) (hk : k ≤ 1000) (x : Int) : ∃ (n : Int) (b : Bool),
    Calls Try.prog 17 #[.pointer (some ⟨p, 0, none⟩), .int .i64 x] w (fun e w' => e = .returned (.tuple #[.int .i64 n, .bool b]) ∧ w' = w) ∧
    Calls Try.prog 18 #[v, .int .i64 x] w (fun e w' => e = .returned (.tuple #[.int .i64 n, .bool b]) ∧ w' = w) := by
  obtain ⟨n, b, hp⟩ := place_is k X x
  exact ⟨n, b, h.ch.place hp, refIn h.rf (h.lens hn) (by omega) x hp⟩
theorem copied (h : CP W w p gn gw gl nn cn cw k cl X v) {c : Value} (hf : Chained.Fresh w nn k X c w') (t : Touch [] w w') : ∃ p gn gw gl cn cw cl, c = .pointer (some ⟨p, 0, none⟩) ∧ CP W w' p gn gw gl nn cn cw k cl X v := by
  obtain ⟨p', gn', gw', gl', cn', cw', cl', e, hc, l1, l2, l3, l4⟩ := hf
  have := h.t.size
  refine ⟨p', gn', gw', gl', cn', cw', cl', e, hc, (h.rf.avoid (fun b hb => .inr ?_)).carry t (by simp), ⟨by omega, by omega, by omega, by omega⟩, h.t.trans t (by simp)⟩
  simp at hb
  omega
end CP
/-- Of, at whatever memory comes of new memory alone. -/
theorem refOfAt (h : ListsAt [p, gn, gw, gl] w v k X) (l : Int) : ∃ A c, LNat [p, gn, gw, gl] w (.slice A (listOf k X l).length c) (listOf k X l) ∧
    ∀ w', Touch [] w w' → Calls Try.prog 20 #[v, .int .i64 l] w' fun e w'' => e = .returned (.slice A (listOf k X l).length c) ∧ w'' = w' := by
  cases hl : inR l k
  · refine ⟨none, 0, by rw [listOf_no X hl]; exact LNat.nil _ w, fun w' t => ?_⟩
    rw [listOf_no X hl]
    have I := Lib.hid (refIs (h.carry t (by simp)) l)
    rw [hl] at I
    obtain ⟨g, c, rfl⟩ := h.form
    clear h
    go_enter Try.func20, Try.ntmps20
    go_wp2_with fail
    refine (I.out).mono ?_
    rintro e w1 ⟨rfl, rfl⟩
    go_wp2_with fail
    go_ret
    exact ⟨rfl, rfl⟩
  · obtain ⟨a, rfl, ha⟩ := inR_form hl
    rw [listOf_at X ha]
    obtain ⟨g, c, rfl, h1, h2, h3, h4, h5⟩ := id h
    obtain ⟨u, hu, hlu⟩ := h5 a ha
    obtain ⟨A, c', rfl⟩ := hlu.form
    refine ⟨A, c', hlu, fun w' t => ?_⟩
    have I := Lib.hid (refIs (h.carry t (by simp)) a)
    rw [hl] at I
    have hu' := (t.cell (a := ⟨g, a, none⟩) h3 (by simp)).trans hu
    have hg' := Nat.lt_of_lt_of_le h3 t.size
    have ha' : (a : Int) < (k : Int) := by omega
    clear h5 hlu hu h
    go_enter Try.func20, Try.ntmps20
    go_wp2_with fail
    refine (I.out).mono ?_
    rintro e w1 ⟨rfl, hw⟩
    rw [hw]
    clear hw w1
    go_wp2_with fail
    go_ret
    exact ⟨rfl, rfl⟩
end
end Go.Proofs.Ytalkpoeliekbfaa

/-
  Layer 7 (chain): ChainOrders on at most 60.
-/
namespace Go.Proofs.Ytalkpoeliekbfaa
open Go.ChangeShapes Go.WideShapes Go.ChangeAt Go.RowKit Go.Deep
set_option linter.unusedVariables false
set_option linter.unusedSimpArgs false
set_option maxHeartbeats 12800000 in
set_option maxRecDepth 100000 in
theorem orders_short (A : Option Addr) (n c : Nat) (most : Int) (f : Nat → Bool) (w : World) (h60 : n ≤ 60) (hf : BoolCells w w.heap.size A n f) :
    Calls Try.prog 4 #[.slice A n c, .int .i64 most] w fun e w' => e = .returned (.bool true) ∧ Touch [] w w' := by
  have HB := Lib.hid (Box1.new w 3 (.int .i64 most))
  have t1 : Touch [] w (w.alloc (.cells #[.int .i64 most] 3)) := (Touch.refl [] w).alloc _
  have HF := Lib.hid (hf.carry t1 (Nat.le_refl _) (by simp))
  have HZ1 := Lib.hid (show (w.alloc (.cells #[.int .i64 most] 3)).heap.size = w.heap.size + 1 by simp)
  have T1 := Lib.hid t1
  have y0 : decide (60 < (n : Int)) = false := by simp; omega
  clear t1 hf
  go_enter Try.func4, Try.ntmps4
  go_upto_region 2 with fail
  generalize w.alloc (.cells #[.int .i64 most] 3) = w1 at *
  generalize hbm : w.heap.size = bm at *
  have H1 := Lib.hid (pop_nil 0 w1)
  unfold firstTold at H1
  go_wp2_with fail
  refine (H1.out).mono ?_
  rintro e w2 ⟨rfl, rfl⟩
  have H2 := Lib.hid (push_nil 0 0 w2)
  go_wp2_with fail
  refine (H2.out).mono ?_
  rintro e w3 ⟨rfl, rfl⟩
  have H3 := Lib.hid (join_nil 0 1 w3)
  go_wp2_with fail
  refine (H3.out).mono ?_
  rintro e w4 ⟨rfl, t4⟩
  have H4 := Lib.hid (len_nil 0 w4)
  go_wp2_with fail
  refine (H4.out).mono ?_
  rintro e w5 ⟨rfl, rfl⟩
  have H5 := Lib.hid (copyC_nil w5)
  go_wp2_with fail
  refine (H5.out).mono ?_
  rintro e w6 ⟨rfl, rfl⟩
  have H6 := Lib.hid (allNil 0 w6)
  go_wp2_with fail
  refine (H6.out).mono ?_
  rintro e w7 ⟨⟨A7, c7, rfl⟩, t7⟩
  have H7 := Lib.hid (where_nil 0 w7)
  unfold firstTold at H7
  go_wp2_with fail
  refine (H7.out).mono ?_
  rintro e w8 ⟨rfl, rfl⟩
  have t17 := t4.trans t7 (by simp)
  have HN := Lib.hid (Chained.newC 60 2 w8 (by omega) (by omega) (by omega) (by omega))
  go_wp2_with fail
  refine (HN.out).mono ?_
  rintro e w9 ⟨v9, rfl, ⟨p, gn, gw, gl, cn, cw, cl, rfl, h9, lp, ln, lw, ll⟩, t9⟩
  obtain ⟨B, hB⟩ : ∃ B, B = w9.heap.size := ⟨_, rfl⟩
  have O9 := Lib.hid (show OSt w B p gn gw gl cn cw cl bm most A n f (twoX f 0) (.slice none 0 0) (.slice none 0 0) [] [] w9 from by
    have t19 := t17.trans t9 (by simp)
    have q1 := HZ1.out
    have q2 := t17.size
    have q3 := t9.size
    obtain ⟨N, V, E, hA9, hL9⟩ := h9
    obtain ⟨m1, m2, m3, m4⟩ := hA9.lts
    refine ⟨⟨⟨by simp [nv], .inl ⟨rfl, rfl⟩⟩, ⟨by simp [nv], .inl ⟨rfl, rfl⟩⟩, fun g h => by simp [Value.ownBlock] at h⟩, by rw [twoX_zero]; exact ⟨N, V, E, hA9, hL9⟩, T1.out.trans t19 (by simp), by omega, ?_, HB.out.carry t19 (by simp), ?_, by omega⟩
    · rw [hbm]; exact HF.out.carry t19 (by omega) (by simp)
    · intro b hb
      simp at hb
      omega)
  clear HB HF HZ1 t4 t7 t9 t17 T1 h9 lp ln lw ll H1 H2 H3 H4 H5 H6 H7 HN hB hbm
  go_wp2_with fail
  go_loopw [11, 12, 72] (fun v1 v2 i wr => ∃ k : Nat, k ≤ n ∧ i = .int .i64 k ∧ OSt w B p gn gw gl cn cw cl bm most A n f (twoX f k) v1 v2 (pick f k) (pick (fun j => ! f j) k) wr) (fun _ _ i _ => n - (intOf i).toNat)
  case atStart => exact ⟨0, Nat.zero_le _, rfl, O9.out⟩
  case round =>
    obtain ⟨k, hk, rfl, ho⟩ := hrel
    obtain ⟨i0, hi0, hz0, hz1, hz2⟩ := info_parts cint_info
    obtain ⟨A1, c1, rfl⟩ := own_form ho.two.r1
    obtain ⟨A2, c2, rfl⟩ := own_form ho.two.r2
    have hp1 := pick_len f k
    have hp2 := pick_len (fun j => ! f j) k
    by_cases hlt : k < n
    · obtain ⟨b, off, rfl, hbB, hc⟩ := ho.cells k hlt
      have hsz := ho.sz
      have HSZ := Lib.hid hsz
      have HO := Lib.hid ho
      have hn1 : pick f (k + 1) = if f k = true then pick f k ++ [k] else pick f k := pick_succ f k
      have hn2 : pick (fun j => ! f j) (k + 1) = if (! f k) = true then pick (fun j => ! f j) k ++ [k] else pick (fun j => ! f j) k := pick_succ _ k
      have hfree := Lib.hid (twoX_free f k)
      cases hfk : f k
      · rw [hfk] at hc hn1 hn2
        simp only [Bool.not_false, if_true, Bool.false_eq_true, if_false] at hn1 hn2
        have hX := Lib.hid (twoX_no hfk)
        have HN1 := Lib.hid hn1
        have HN2 := Lib.hid hn2
        clear ho hn1 hn2 hfk O9
        go_upto_region 16 with (at_builtin; refine wpList_append_own_at _ rfl (.tmp 82) (.tmp 84) 40 rfl B 3 i0 (.int .i64 0) 1 8 Try.underlying40 hi0 hz0 hz1 hz2 rfl (by decide) (.slice A2 (pick (fun j => ! f j) k).length c2) (pick (fun j => ! f j) k).length (nv (pick (fun j => ! f j) k)) rfl (HO.out.two.r2.alloc _) ⟨wr.heap.size, 0, none⟩ 1 1 [.int .i64 (k : Int)] rfl rfl (World.news_of_block (cs := #[.int .i64 (k : Int)]) (t := 3) (fr := (0, 0)) (heap_alloc_new wr _)) (by simp [Value.oneCell']) (by unfold maxLen; omega) (by omega) (by simp; omega) ?_; intro v2 w11 hown hgrow hnil hat)
        have O11 := Lib.hid (HO.out.second hgrow hown (by simpa using hat))
        clear hown hgrow hnil hat HO HSZ hsz hc
        have P1 := O11.out.ch.push_yes (a := 1) (x := k) (by omega) (by omega) (by omega) (fun i _ => hfree.out i)
        rw [hX.out] at P1
        have H1 := Lib.hid P1
        clear P1
        go_wp2_with fail
        refine (H1.out).mono ?_
        rintro e w12 ⟨rfl, h12, t12⟩
        have O12 := Lib.hid (O11.out.lists h12 t12)
        have H2 := Lib.hid (h12.pushNo 1 (k : Int) (.inr (.inr ⟨k, 1, rfl, by omega, by rw [show twoX f (k + 1) 1 = pick (fun j => ! f j) (k + 1) from rfl, HN2.out]; simp⟩)))
        clear h12 t12 H1 O11
        go_wp2_with fail
        refine (H2.out).mono ?_
        rintro e w13 ⟨rfl, rfl⟩
        go_wp2_with fail
        go_roundw
        case rel => exact ⟨k + 1, by omega, by go_num, by rw [HN1.out, HN2.out]; exact O12.out⟩
        case measure => simp [intOf]; omega
      · rw [hfk] at hc hn1 hn2
        simp only [Bool.not_true, if_true, Bool.false_eq_true, if_false] at hn1 hn2
        have hX := Lib.hid (twoX_yes hfk)
        have HN1 := Lib.hid hn1
        have HN2 := Lib.hid hn2
        clear ho hn1 hn2 hfk O9
        go_upto_region 16 with (at_builtin; refine wpList_append_own_at _ rfl (.tmp 78) (.tmp 80) 40 rfl B 3 i0 (.int .i64 0) 1 8 Try.underlying40 hi0 hz0 hz1 hz2 rfl (by decide) (.slice A1 (pick f k).length c1) (pick f k).length (nv (pick f k)) rfl (HO.out.two.r1.alloc _) ⟨wr.heap.size, 0, none⟩ 1 1 [.int .i64 (k : Int)] rfl rfl (World.news_of_block (cs := #[.int .i64 (k : Int)]) (t := 3) (fr := (0, 0)) (heap_alloc_new wr _)) (by simp [Value.oneCell']) (by unfold maxLen; omega) (by omega) (by simp; omega) ?_; intro v1 w11 hown hgrow hnil hat)
        have O11 := Lib.hid (HO.out.first hgrow hown (by simpa using hat))
        clear hown hgrow hnil hat HO HSZ hsz hc
        have P1 := O11.out.ch.push_yes (a := 0) (x := k) (by omega) (by omega) (by omega) (fun i _ => hfree.out i)
        rw [hX.out] at P1
        have H1 := Lib.hid P1
        clear P1
        go_wp2_with fail
        refine (H1.out).mono ?_
        rintro e w12 ⟨rfl, h12, t12⟩
        have O12 := Lib.hid (O11.out.lists h12 t12)
        have H2 := Lib.hid (h12.pushNo 1 (k : Int) (.inr (.inr ⟨k, 0, rfl, by omega, by rw [show twoX f (k + 1) 0 = pick f (k + 1) from rfl, HN1.out]; simp⟩)))
        clear h12 t12 H1 O11
        go_wp2_with fail
        refine (H2.out).mono ?_
        rintro e w13 ⟨rfl, rfl⟩
        go_wp2_with fail
        go_roundw
        case rel => exact ⟨k + 1, by omega, by go_num, by rw [HN1.out, HN2.out]; exact O12.out⟩
        case measure => simp [intOf]; omega
    · obtain rfl : k = n := by omega
      have hsum := pick_all f k
      obtain ⟨L1, hL1⟩ : ∃ L, L = pick f k := ⟨_, rfl⟩
      obtain ⟨L2, hL2⟩ : ∃ L, L = pick (fun j => ! f j) k := ⟨_, rfl⟩
      have hj := joinX_two f k
      have hx0 : listOf 2 (twoX f k) 0 = L1 := by rw [hL1]; exact listOf_at (a := 0) _ (by omega)
      rw [← hL1, ← hL2] at ho hsum hj
      rw [← hL1] at hp1
      rw [← hL2] at hp2
      rw [← hL1, ← hL2]
      generalize twoX f k = X at *
      clear hL1 hL2 O9 hlt
      have HO := Lib.hid ho
      have hb19 := Box1.new wr 3 (.int .i64 0)
      have t19 : Touch [] wr (wr.alloc (.cells #[.int .i64 0] 3)) := (Touch.refl [] wr).alloc _
      have HB19 := Lib.hid hb19
      have O19 := Lib.hid (ho.new t19)
      have HNE := Lib.hid (show bm ≠ wr.heap.size from by have := ho.box.lt; omega)
      have HSZ := Lib.hid ho.sz
      have HJ := Lib.hid hj
      have HX0 := Lib.hid hx0
      have O17 := Lib.hid ho.two
      clear ho hb19 t19 hj hx0 HO
      go_upto_region 20 with fail
      generalize wr.alloc (.cells #[.int .i64 0] 3) = w19 at *
      generalize hbs : wr.heap.size = bs at *
      have AF := Lib.hid (all_fn (some ⟨p, 0, none⟩) 0 w19)
      go_wp2_with fail
      refine (AF.out).mono ?_
      rintro e w20 ⟨rfl, hw20⟩
      have t20 : Touch [] w19 w20 := by rw [hw20]; exact ((Touch.refl [] _).alloc _).alloc _
      have e2 : w20.cell? ⟨w19.heap.size, 0, none⟩ = some (.pointer (some ⟨p, 0, none⟩)) := by
        have := ((Box1.new w19 23 (.pointer (some ⟨p, 0, none⟩))).carry ((Touch.refl [] _).alloc (.cells #[.int .i64 0] 3)) (by simp)).c0
        rw [hw20]
        exact this
      have e3 : w20.cell? ⟨w19.heap.size + 1, 0, none⟩ = some (.int .i64 0) := by
        have := (Box1.new (w19.alloc (.cells #[.pointer (some ⟨p, 0, none⟩)] 23)) 3 (.int .i64 0)).c0
        rw [show (w19.alloc (.cells #[.pointer (some ⟨p, 0, none⟩)] 23)).heap.size = w19.heap.size + 1 by simp] at this
        rw [hw20]
        exact this
      have O20 := Lib.hid (O19.out.new t20)
      have HB20 := Lib.hid (HB19.out.carry t20 (by simp))
      have D := O20.out.ch.nodesC (by omega) 0
      rw [HX0.out] at D
      have K := Lib.hid (countNodes (by omega) HB20.out O20.out.box HNE.out e2 e3 ⟨⟨_, rfl⟩, _, rfl⟩ (Lib.hid D))
      unfold Counted at K
      clear hw20 t20 e2 e3 D AF O19 HB19
      go_wp2_with fail
      refine (K.out).mono ?_
      rintro e w21 ⟨rfl, hb21, t21⟩
      have HB21 := Lib.hid hb21
      have H21 := Lib.hid (show Chained w21 p gn gw gl 60 cn cw 2 cl X ∧ Two B (.slice A1 L1.length c1) (.slice A2 L2.length c2) L1 L2 w21 ∧ Box1 w21 bm 3 (.int .i64 most) from by
        have hlo := O20.out.lo
        have hl1 := HNE.out
        have hl2 : B ≤ bs := HSZ.out
        exact ⟨O20.out.ch.carry t21 (fun b hb hm => by have := hlo b hb; simp at hm; omega), ⟨t21.row O20.out.two.r1 (fun g hg hm => by simp at hm; have := own_lt O17.out.r1 hg; omega), t21.row O20.out.two.r2 (fun g hg hm => by simp at hm; have := own_lt O17.out.r2 hg; omega), O20.out.two.ap⟩, O20.out.box.carry t21 (by simpa using hl1)⟩)
      have T21 := Lib.hid (O20.out.t.trans t21 (fun b hb => by simp at hb; subst hb; right; have := O20.out.lo; have := O20.out.bm; have := HSZ.out; omega))
      have HLO := Lib.hid O20.out.lo
      have hst : stopAt most L1.length = (L1.length : Int) ∨ stopAt most L1.length = most := by unfold stopAt; split <;> simp
      generalize stopAt most L1.length = s at *
      have JN := Lib.hid (H21.out.1.join_any (a := 0) (c := 1) (by omega) (by omega) (by omega) (by omega))
      rw [HJ.out] at JN
      have c15 := HB21.out.c0
      have c3 := H21.out.2.2.c0
      clear hb21 t21 K O20 HB20
      have hne : (s != (L1.length : Int)) = false ∨ ((s != (L1.length : Int)) = true ∧ (s != most) = false) := by
        rcases hst with h | h
        · exact .inl (by simp [h])
        · by_cases h2 : s = (L1.length : Int)
          · exact .inl (by simp [h2])
          · exact .inr ⟨by simpa using h2, by simp [h]⟩
      clear hst
      rcases hne with hne | ⟨hne, hne2⟩
      all_goals
        go_wp2_with fail
        refine (JN.out).mono ?_
        rintro e w22 ⟨rfl, h22, t22⟩
        have T2 := Lib.hid (H21.out.2.1.carry t22 (fun b hb => (HLO.out b (List.mem_cons_of_mem _ hb)).2.1))
        have C22 := Lib.hid h22
        have HPL := Lib.hid (show p < w22.heap.size ∧ gn < w22.heap.size ∧ gw < w22.heap.size ∧ gl < w22.heap.size from by
          obtain ⟨N, V, E, hA, hL⟩ := h22
          exact hA.lts)
        have T22 := Lib.hid (T21.out.trans t22 (fun b hb => by have := HLO.out b (List.mem_cons_of_mem _ hb); right; omega))
        have R0 := Lib.hid (World.ownsRow_lit (base := w22.heap.size) (e := 3) (size := 1) w22 #[] 0 (by omega) (by unfold maxLen; omega) rfl)
        have TL : Touch [] w22 (w22.alloc (.cells #[] 3)) := (Touch.refl [] w22).alloc _
        have N1 := Lib.hid (own_news (TL.row T2.out.r1 (by simp)))
        have hone : ∀ (L : List Nat), ∀ u ∈ nv L, u.oneCell' = true := by intro L u hu; simp [nv] at hu; obtain ⟨a, _, rfl⟩ := hu; rfl
        have HONE := Lib.hid hone
        have l1 : (nv L1).length = L1.length * 1 := by rw [nv_length]; omega
        have l2 : (nv L2).length = L2.length * 1 := by rw [nv_length]; omega
        have TLH := Lib.hid TL
        clear h22 t22 JN TL hone c15 c3 hne HB21
        go_upto_region 24 with (first | (at_builtin; refine wpList_append_ownA rfl (.tmp 127) (.tmp 128) 40 rfl w22.heap.size 3 i0 (.int .i64 0) 1 8 Try.underlying40 hi0 hz0 hz1 hz2 rfl (by decide) (.slice (some ⟨w22.heap.size, 0, none⟩) 0 0) 0 [] rfl R0.out A1 L1.length c1 (nv L1) rfl N1.out.1 l1 N1.out.2 (HONE.out L1) (by unfold maxLen; omega) (by omega) (by simp) ?_; intro v23 w23 hown hgrow hat; have t23 := TLH.out.grown hgrow (by simp [Value.ownBlock]); have T23 := Lib.hid t23; have HW23 := Lib.hid hown; have N2 := Lib.hid (own_news (t23.row T2.out.r2 (by simp))); clear hown hgrow hat t23) | (at_builtin; refine wpList_append_ownA rfl (.tmp 129) (.tmp 130) 40 rfl w22.heap.size 3 i0 (.int .i64 0) 1 8 Try.underlying40 hi0 hz0 hz1 hz2 rfl (by decide) v23 (0 + L1.length) ([] ++ nv L1) rfl HW23.out A2 L2.length c2 (nv L2) rfl N2.out.1 l2 N2.out.2 (HONE.out L2) (by unfold maxLen; omega) (by omega) T23.out.size ?_; intro v24 w24 hown hgrow hat; have T24 := Lib.hid (T23.out.grown hgrow (fun b hb => by have := own_base HW23.out hb; omega)); have HW24 := Lib.hid hown; clear hown hgrow hat))
        have HW := Lib.hid (show w24.ownsRow w22.heap.size 3 1 v24 (L1 ++ L2).length (nv (L1 ++ L2)) from by
          have := HW24.out
          rw [nv_append, List.length_append]
          simpa using this)
        have C24 := Lib.hid (C22.out.new T24.out)
        have TT := Lib.hid (T22.out.trans T24.out (by simp))
        have hY : (L1 ++ L2).length ≤ 60 := by rw [List.length_append]; omega
        clear HW24 HW23 C22 T22 T24 T23 T2 R0 N1 N2 HONE l1 l2 TLH hp1 hp2 H21 T21
        generalize L1 ++ L2 = Y at *
        obtain ⟨A3, c4, rfl⟩ := own_form HW.out
        go_wp2_with fail
        go_loopw [134] (fun i wq => ∃ j : Nat, j ≤ Y.length ∧ i = .int .i64 j ∧ Chained wq p gn gw gl 60 cn cw 2 cl (popX Y j) ∧ wq.ownsRow w22.heap.size 3 1 (.slice A3 Y.length c4) Y.length (nv Y) ∧ Touch [] w wq) (fun i _ => Y.length - (intOf i).toNat)
        case atStart => exact ⟨0, Nat.zero_le _, rfl, C24.out, HW.out, TT.out⟩
        case round =>
          obtain ⟨j, hj, rfl, hch, hrow, ht⟩ := hrel
          by_cases hjl : j < Y.length
          · obtain ⟨g3, c4', hA3, _, _⟩ := hrow.form (by omega)
            simp only [Value.slice.injEq, true_and] at hA3
            obtain ⟨rfl, rfl⟩ := hA3
            obtain ⟨x, hx⟩ : ∃ x, Y[j]? = some x := ⟨Y[j]'hjl, List.getElem?_eq_getElem _⟩
            have z0 := hrow.cellAt j (by omega)
            rw [nv_get hx] at z0
            have hdr : popX Y j 0 = x :: Y.drop (j + 1) := by
              rw [popX_zero]
              obtain ⟨h1, h2⟩ := List.getElem?_eq_some_iff.1 hx
              rw [← h2]
              exact List.drop_eq_getElem_cons h1
            have P := hch.pop_yes (a := 0) (by omega) (by omega) hdr
            rw [popX_next] at P
            have PP := Lib.hid P
            unfold firstTold at PP
            have HR := Lib.hid hrow
            have HT := Lib.hid ht
            have hq : ((x : Int) != (x : Int)) = false := by simp
            have lg := own_lt hrow rfl
            have hgb := own_base (b := g3) hrow rfl
            have HLT := Lib.hid (show p < w22.heap.size ∧ gn < w22.heap.size ∧ gw < w22.heap.size ∧ gl < w22.heap.size from HPL.out)
            clear P hch hrow ht hx hdr C24 HW TT
            go_wp2_with fail
            refine (PP.out).mono ?_
            rintro e w25 ⟨rfl, h25, t25⟩
            have C25 := Lib.hid h25
            have HR25 := Lib.hid (t25.row HR.out (fun g hg hm => by simp [Value.ownBlock] at hg hm; have := HLT.out; omega))
            have HT25 := Lib.hid (HT.out.trans t25 (fun b hb => by have := HLO.out b (List.mem_cons_of_mem _ hb); right; omega))
            clear h25 t25 PP HR HT
            go_wp2_with fail
            go_roundw
            case rel => exact ⟨j + 1, by omega, by go_num, C25.out, HR25.out, HT25.out⟩
            case measure => simp [intOf]; omega
          · obtain rfl : j = Y.length := by omega
            have P := hch.pop_no 0 (by rw [show (0 : Int) = ((0 : Nat) : Int) from rfl, listOf_at _ (by omega), popX_zero]; simp)
            have PP := Lib.hid P
            unfold firstTold at PP
            have D0 := hch.lenC 0
            rw [show listOf 2 (popX Y Y.length) 0 = [] by rw [show (0 : Int) = ((0 : Nat) : Int) from rfl, listOf_at _ (by omega), popX_zero]; simp] at D0
            have D1 := hch.lenC 1
            rw [show listOf 2 (popX Y Y.length) 1 = [] by rw [show (1 : Int) = ((1 : Nat) : Int) from rfl, listOf_at _ (by omega), popX_one]] at D1
            have HD0 := Lib.hid D0
            have HD1 := Lib.hid D1
            have HT := Lib.hid ht
            clear P D0 D1 hch hrow ht C24 HW TT
            go_wp2_with fail
            refine (PP.out).mono ?_
            rintro e w25 ⟨rfl, rfl⟩
            go_wp2_with fail
            refine (HD0.out).mono ?_
            rintro e w26 ⟨rfl, rfl⟩
            go_wp2_with fail
            refine (HD1.out).mono ?_
            rintro e w27 ⟨rfl, rfl⟩
            go_wp2_with fail
            refine (chainLives_any w27).mono ?_
            rintro e w28 ⟨rfl, t28⟩
            have T28 := Lib.hid (HT.out.trans t28 (by simp))
            clear t28 HT
            go_wp2_with fail
            go_ret
            exact ⟨rfl, T28.out⟩
end Go.Proofs.Ytalkpoeliekbfaa

/-
  ChainPlays: for every number of nodes from 1 to 30, of lists from 1 to 8 and every list of at most 80 calls the law returns true.
-/
namespace Go.Proofs.Ytalkpoeliekbfaa
open Go.ChangeShapes Go.WideShapes Go.ChangeAt Go.RowKit Go.Deep Go.Maps
set_option linter.unusedVariables false
set_option linter.unusedSimpArgs false

structure ActC where
  what : Int
  list : Int
  node : Int
def ActC.cells (a : ActC) : Array Value := #[.int .i64 a.what, .int .i64 a.list, .int .i64 a.node]
def ActCCells (w : World) (B : Nat) (A : Option Addr) (n : Nat) (X : Nat → ActC) : Prop :=
  ∀ i, i < n → ∃ b off, A = some ⟨b, off, none⟩ ∧ b < B ∧ ∀ t v, (X i).cells.toList[t]? = some v → w.cell? ⟨b, off + i * 3 + t, none⟩ = some v
theorem make_lists (k : Nat) (hk : k ≤ 1000) (w : World) : (Instr.makeSlice 26 (.int .i64 (k : Int)) (.int .i64 (k : Int))).run Try.prog w =
    .ok (.slice (some ⟨w.heap.size, 0, none⟩) k k) (w.alloc (.cells (madeCells #[.slice none 0 0] k) 40)) := by
  obtain ⟨i0, hi0, hz0, hz1, hz2⟩ := info_parts clists_info
  have := run_make (P := Try.prog) w 26 40 i0 _ Try.underlying26 hi0 hz0 .i64 .i64 k k (by omega) (by omega) (by rw [hz2]; omega) (by omega)
  rw [hz1] at this
  simpa [Value.cells] using this
theorem lists_made {Z : List Nat} (k : Nat) (hk : k ≤ 1000) (w : World) (hZ : ∀ b ∈ Z, b < w.heap.size) : ListsAt Z (w.alloc (.cells (madeCells #[.slice none 0 0] k) 40)) (.slice (some ⟨w.heap.size, 0, none⟩) k k) k (fun _ => []) := by
  refine ⟨w.heap.size, k, rfl, Nat.le_refl _, by unfold maxLen; omega, by simp, fun hm => by have := hZ _ hm; omega, fun i hi => ⟨.slice none 0 0, ?_, LNat.nil _ _⟩⟩
  have hb := heap_alloc_new w (.cells (madeCells #[.slice none 0 0] k) 40)
  have hl := toList_madeCells_one (z := .slice none 0 0) k
  rw [World.cell?, hb]
  have : (madeCells #[.slice none 0 0] k)[i]? = some (.slice none 0 0) := by
    rw [← Array.getElem?_toList, hl]
    simp [hi]
  simpa using this
/-- What the law knows between two calls. -/
def AnyC (W : World) (nn k a6 : Nat) (li nd : Int) (pv v : Value) (w : World) : Prop :=
  ∃ p gn gw gl cn cw cl X, pv = .pointer (some ⟨p, 0, none⟩) ∧ CP W w p gn gw gl nn cn cw k cl X v ∧ ∃ dw, BoxV w a6 28 #[.int .i64 dw, .int .i64 li, .int .i64 nd]
def AnyP (W : World) (nn k : Nat) (pv v : Value) (w : World) : Prop :=
  ∃ p gn gw gl cn cw cl X, pv = .pointer (some ⟨p, 0, none⟩) ∧ CP W w p gn gw gl nn cn cw k cl X v
theorem LNat.ints {Z : List Nat} {w : World} {A : Option Addr} {c : Nat} {l : List Nat} (h : LNat Z w (.slice A l.length c) l) : IntCells w w.heap.size A l.length (ati l) := by
  obtain ⟨A', c', e, h1, h2, h3⟩ := h
  simp only [Value.slice.injEq, true_and] at e
  obtain ⟨rfl, rfl⟩ := e
  intro i hi
  obtain ⟨b, off, hA, hb, hz, hc⟩ := h3 i hi
  exact ⟨b, off, hA, hb, hc⟩
theorem ent19 (args : Array Value) (w : World) : (callFunc 19 args).run Try.prog w = .ok (.enter 19 args) w := by
  simp [callFunc, Try.func19]
  rfl
theorem ent20 (args : Array Value) (w : World) : (callFunc 20 args).run Try.prog w = .ok (.enter 20 args) w := by
  simp [callFunc, Try.func20]
  rfl
theorem ent21 (args : Array Value) (w : World) : (callFunc 21 args).run Try.prog w = .ok (.enter 21 args) w := by
  simp [callFunc, Try.func21]
  rfl
theorem ent22 (args : Array Value) (w : World) : (callFunc 22 args).run Try.prog w = .ok (.enter 22 args) w := by
  simp [callFunc, Try.func22]
  rfl
set_option maxHeartbeats 12800000 in
set_option maxRecDepth 100000 in
theorem chainPlays_main (nn k : Nat) (A : Option Addr) (n cap : Nat) (X0 : Nat → ActC) (W : World) (hn1 : 1 ≤ nn) (hn2 : nn ≤ 30) (hk1 : 1 ≤ k) (hk2 : k ≤ 8) (hn80 : n ≤ 80) (hX : ActCCells W W.heap.size A n X0) :
    Calls Try.prog 3 #[.int .i64 (nn : Int), .int .i64 (k : Int), .slice A n cap] W fun e w' => e = .returned (.bool true) ∧ Touch [] W w' := by
  have HX := Lib.hid hX
  have Q0 := Lib.hid (Chained.newC nn k W hn1 (by omega) hk1 (by omega))
  have g1 : decide ((nn : Int) < 1) = false := by simp; omega
  have g2 : decide (30 < (nn : Int)) = false := by simp; omega
  have g3 : decide ((k : Int) < 1) = false := by simp; omega
  have g4 : decide (8 < (k : Int)) = false := by simp; omega
  have g5 : decide (80 < (n : Int)) = false := by simp; omega
  have ML := fun w => make_lists k (by omega) w
  clear hX
  go_enter Try.func3, Try.ntmps3
  go_wp2_with fail
  refine (Q0.out).mono ?_
  rintro e w1 ⟨v1, rfl, ⟨p, gn, gw, gl, cn, cw, cl, rfl, h1, l1, l2, l3, l4⟩, t1⟩
  have hm := ML w1
  have P0 := Lib.hid (show CP W (w1.alloc (.cells (madeCells #[.slice none 0 0] k) 40)) p gn gw gl nn cn cw k cl (fun _ => []) (.slice (some ⟨w1.heap.size, 0, none⟩) k k) from by
    have t2 : Touch [] w1 (w1.alloc (.cells (madeCells #[.slice none 0 0] k) 40)) := (Touch.refl [] w1).alloc _
    have hb := h1.lts
    exact ⟨h1.new t2, lists_made k (by omega) w1 (fun b hb' => by simp at hb'; omega), ⟨l1, l2, l3, l4⟩, t1.trans t2 (by simp)⟩)
  clear h1 l1 l2 l3 l4 t1 Q0 ML
  go_upto_region 5 with fail
  generalize w1.alloc (.cells (madeCells #[.slice none 0 0] k) 40) = w2 at *
  generalize w1.heap.size = g0 at *
  clear hm
  go_wp2_with fail
  go_loopw [7, 8, 73] (fun pv v i wr => ∃ j : Nat, j ≤ n ∧ i = .int .i64 j ∧ AnyP W nn k pv v wr) (fun _ _ i _ => n - (intOf i).toNat)
  case atStart => exact ⟨0, Nat.zero_le _, rfl, p, gn, gw, gl, cn, cw, cl, _, rfl, P0.out⟩
  case round =>
    clear P0
    obtain ⟨j, hj, rfl, hany⟩ := hrel
    obtain ⟨p, gn, gw, gl, cn, cw, cl, X, rfl, hP⟩ := hany
    by_cases hlt : j < n
    · obtain ⟨b, off, hA, hbB, hc⟩ := HX.out j hlt
      subst hA
      generalize X0 j = act at *
      obtain ⟨dw, li, nd⟩ := act
      simp only [ActC.cells] at hc
      have c0 := hc 0 _ rfl
      have c1 := hc 1 _ rfl
      have c2 := hc 2 _ rfl
      have c0 := (hP.t.cell (a := ⟨b, _, none⟩) hbB (by simp)).trans c0
      have c1 := (hP.t.cell (a := ⟨b, _, none⟩) hbB (by simp)).trans c1
      have c2 := (hP.t.cell (a := ⟨b, _, none⟩) hbB (by simp)).trans c2
      simp only [Nat.add_zero] at c0
      have hbl : b < wr.heap.size := Nat.lt_of_lt_of_le hbB hP.t.size
      have t6 : Touch [] wr (wr.alloc (.cells #[.int .i64 dw, .int .i64 li, .int .i64 nd] 28)) := (Touch.refl [] wr).alloc _
      have H6 := Lib.hid (hP.new t6)
      have HA6 := Lib.hid (show BoxV (wr.alloc (.cells #[.int .i64 dw, .int .i64 li, .int .i64 nd] 28)) wr.heap.size 28 #[.int .i64 dw, .int .i64 li, .int .i64 nd] from BoxV.new wr 28 #[.int .i64 dw, .int .i64 li, .int .i64 nd])
      have HNE := Lib.hid (show ∀ b ∈ [p, gn, gw, gl], b < wr.heap.size from hP.below)
      obtain ⟨gv, cv, rfl⟩ := hP.rf.form
      clear hc hP t6
      go_upto_region 8 with fail
      generalize wr.alloc (.cells #[.int .i64 dw, .int .i64 li, .int .i64 nd] 28) = w6 at *
      generalize wr.heap.size = a6 at *
      clear c0 c1 c2 hbl hbB
      have la := HA6.out.lt
      have e0 := HA6.out.cell 0
      simp only [List.getElem?_toArray, List.getElem?_cons_zero] at e0
      have HLA := Lib.hid la
      go_upto_block 2 with fail
      go_cut [7, 8] (fun pv v wx => AnyC W nn k a6 li nd pv v wx)
      case first =>
        rcases (show dw = 0 ∨ dw = 1 ∨ dw = 2 ∨ (dw ≠ 0 ∧ dw ≠ 1 ∧ dw ≠ 2) by omega) with rfl | rfl | rfl | ⟨z0, z1, z2⟩
        · as_aux_lemma =>
            obtain ⟨ok, X', hq1, hq2⟩ := H6.out.push_both (by omega) (by omega) li nd
            have J1 := Lib.hid hq1
            have J2 := Lib.hid hq2
            unfold ToldC at J1
            clear hq1 hq2 e0 la
            have la := HLA.out
            have e1 := HA6.out.cell 1
            have e2 := HA6.out.cell 2
            simp only [List.getElem?_toArray, List.getElem?_cons_zero, List.getElem?_cons_succ] at e1 e2
            go_wp2_with fail
            refine (J1.out).mono ?_
            rintro e w7 ⟨u7, rfl, hu, t7⟩
            obtain ⟨g7, c7, rfl⟩ := hu.form
            have HA7 := Lib.hid (HA6.out.carry t7 (by simp))
            have K1 := Lib.hid (J2.out w7 _ t7 hu)
            clear J1 J2 hu t7 e1 e2 la
            have la := HA7.out.lt
            have e1 := HA7.out.cell 1
            have e2 := HA7.out.cell 2
            simp only [List.getElem?_toArray, List.getElem?_cons_zero, List.getElem?_cons_succ] at e1 e2
            go_wp2_with fail
            refine (K1.out).mono ?_
            rintro e w8 ⟨rfl, h8, t8⟩
            have HA8 := Lib.hid (HA7.out.carry t8 (by have h1 := HNE.out; simp at h1 ⊢; omega))
            have H8 := Lib.hid h8
            clear K1 h8 t8 HA7 e1 e2 la
            cases ok
            all_goals
              go_wp2_with fail
              go_meet
              exact ⟨_, _, _, _, _, _, _, _, rfl, H8.out, _, HA8.out⟩
        · as_aux_lemma =>
            obtain ⟨m, ok, X', hq1, hq2, hq3⟩ := H6.out.pop_both (by omega) (by omega) li
            have J1 := Lib.hid hq1
            have J2 := Lib.hid hq2
            have J3 := Lib.hid hq3
            clear hq1 hq2 hq3 e0 la
            have la := HLA.out
            have e1 := HA6.out.cell 1
            simp only [List.getElem?_toArray, List.getElem?_cons_zero, List.getElem?_cons_succ] at e1
            go_wp2_with fail
            refine (J1.out).mono ?_
            rintro e wq ⟨rfl, hw⟩
            rw [hw]
            clear hw wq
            go_wp2_with fail
            refine (J2.out).mono ?_
            rintro e w7 ⟨rfl, hc7, t7⟩
            have HA7 := Lib.hid (HA6.out.carry t7 (by have h1 := HNE.out; simp at h1 ⊢; omega))
            have K1 := Lib.hid (J3.out w7 hc7 t7)
            clear J1 J2 J3 hc7 t7 e1 la
            have la := HA7.out.lt
            have e1 := HA7.out.cell 1
            simp only [List.getElem?_toArray, List.getElem?_cons_zero, List.getElem?_cons_succ] at e1
            go_wp2_with fail
            refine (K1.out).mono ?_
            rintro e w8 ⟨u8, rfl, h8, t8⟩
            obtain ⟨g8, c8, rfl⟩ := h8.rf.form
            have HA8 := Lib.hid (HA7.out.carry t8 (by simp))
            have H8 := Lib.hid h8
            have hq : (m != m) = false := by simp
            clear K1 h8 t8 HA7 e1 la
            cases ok
            all_goals
              go_wp2_with fail
              go_meet
              exact ⟨_, _, _, _, _, _, _, _, rfl, H8.out, _, HA8.out⟩
        · as_aux_lemma =>
            obtain ⟨ok, X', hq1, hq2⟩ := H6.out.join_both (by omega) (by omega) li nd
            have J1 := Lib.hid hq1
            have J2 := Lib.hid hq2
            unfold ToldC at J1
            clear hq1 hq2 e0 la
            have la := HLA.out
            have e1 := HA6.out.cell 1
            have e2 := HA6.out.cell 2
            simp only [List.getElem?_toArray, List.getElem?_cons_zero, List.getElem?_cons_succ] at e1 e2
            go_wp2_with fail
            refine (J1.out).mono ?_
            rintro e w7 ⟨u7, rfl, hu, t7⟩
            obtain ⟨g7, c7, rfl⟩ := hu.form
            have HA7 := Lib.hid (HA6.out.carry t7 (by simp))
            have K1 := Lib.hid (J2.out w7 _ t7 hu)
            clear J1 J2 hu t7 e1 e2 la
            have la := HA7.out.lt
            have e1 := HA7.out.cell 1
            have e2 := HA7.out.cell 2
            simp only [List.getElem?_toArray, List.getElem?_cons_zero, List.getElem?_cons_succ] at e1 e2
            go_wp2_with fail
            refine (K1.out).mono ?_
            rintro e w8 ⟨rfl, h8, t8⟩
            have HA8 := Lib.hid (HA7.out.carry t8 (by have h1 := HNE.out; simp at h1 ⊢; omega))
            have H8 := Lib.hid h8
            clear K1 h8 t8 HA7 e1 e2 la
            cases ok
            all_goals
              go_wp2_with fail
              go_meet
              exact ⟨_, _, _, _, _, _, _, _, rfl, H8.out, _, HA8.out⟩
        · as_aux_lemma =>
            have b0 : (dw == 0) = false := by simpa using z0
            have b1 : (dw == 1) = false := by simpa using z1
            have b2 : (dw == 2) = false := by simpa using z2
            have J1 := Lib.hid (H6.out.ch.copyC (by omega) (by omega))
            clear z0 z1 z2
            go_wp2_with fail
            refine (J1.out).mono ?_
            rintro e w7 ⟨v7, rfl, ⟨p', gn', gw', gl', cn', cw', cl', rfl, hc7, l1, l2, l3, l4⟩, t7⟩
            obtain ⟨m, ok, X2, _, hpop, _⟩ := hc7.pop_way (by omega) 0
            have J2 := Lib.hid hpop
            clear hpop hc7 J1 e0 la
            go_wp2_with fail
            refine (J2.out).mono ?_
            rintro e w8 ⟨rfl, hc8, t8⟩
            obtain ⟨ok2, X3, hw⟩ := push_is nn k X2 0 0
            have J3 := Lib.hid (hc8.push_way (by omega) hw)
            clear hw hc8 J2
            go_wp2_with fail
            refine (J3.out).mono ?_
            rintro e w9 ⟨rfl, hc9, t9⟩
            have t69 : Touch [] w6 w9 := (t7.trans t8 (fun b hb => .inr (by simp at hb; omega))).trans t9 (fun b hb => .inr (by simp at hb; omega))
            have H9 := Lib.hid (H6.out.new t69)
            have HA9 := Lib.hid (HA6.out.carry t69 (by simp))
            have J4 := Lib.hid (H9.out.ch.copyC (by omega) (by omega))
            clear t7 t8 t9 t69 hc9 J3 l1 l2 l3 l4
            go_wp2_with fail
            refine (J4.out).mono ?_
            rintro e w10 ⟨v10, rfl, hf, t10⟩
            obtain ⟨p2, gn2, gw2, gl2, cn2, cw2, cl2, rfl, hcp⟩ := H9.out.copied hf t10
            have H10 := Lib.hid hcp
            have HA10 := Lib.hid (HA9.out.carry t10 (by simp))
            clear hf t10 hcp J4
            go_wp2_with fail
            go_meet
            exact ⟨_, _, _, _, _, _, _, _, rfl, H10.out, _, HA10.out⟩
      case rest =>
        clear H6 HA6 HNE HLA e0 la
        obtain ⟨p, gn, gw, gl, cn, cw, cl, X, rfl, hP9, dw', hA9⟩ := hcut
        obtain ⟨gv, cv, rfl⟩ := hP9.rf.form
        obtain ⟨n1, b1, hw1, hw2⟩ := hP9.where_both (by omega) (by omega) nd
        obtain ⟨Ao, co, hlo, hof⟩ := refOfAt hP9.rf li
        have H9 := Lib.hid hP9
        have HA9 := Lib.hid hA9
        have J1 := Lib.hid hw1
        have J2 := Lib.hid hw2
        have HLO := Lib.hid hlo
        have HOF := Lib.hid hof
        have HLN := Lib.hid (fun w' (t : Touch [] _ w') => (hP9.new t).ch.lenC li)
        have HAL := Lib.hid (fun w' (t : Touch [] _ w') => (hP9.new t).ch.allC (by omega) li)
        have hl5 : (listOf k X li).length ≤ 5000 := by
          cases hl : inR li k
          · rw [listOf_no X hl]; simp
          · obtain ⟨a, rfl, ha⟩ := inR_form hl
            rw [listOf_at X ha]
            exact hP9.lens (by omega) a ha
        generalize listOf k X li = l at *
        clear hP9 hA9 hw1 hw2 hlo hof
        have la := HA9.out.lt
        have e1 := HA9.out.cell 1
        have e2 := HA9.out.cell 2
        simp only [List.getElem?_toArray, List.getElem?_cons_zero, List.getElem?_cons_succ] at e1 e2
        go_wp2_with fail
        refine (J1.out).mono ?_
        rintro e wq ⟨rfl, hw⟩
        rw [hw]
        clear hw wq
        go_wp2_with fail
        refine (J2.out).mono ?_
        rintro e wq ⟨rfl, hw⟩
        rw [hw]
        clear hw wq J1 J2
        go_upto_region 32 with fail
        refine wp_region_leaves (wd := _) (Leaf.const (.int .i64 n1) :: Leaf.const (.int .i64 n1) :: Leaf.const (.bool false) :: Leaf.const ((.bool false)) :: Leaf.const (.bool b1) :: Leaf.const (.bool b1) :: Leaf.const (.bool false) :: Leaf.const ((.bool false)) :: Leaf.const ((.bool false)) :: Leaf.const (.pointer (some ⟨p, 0, none⟩)) :: Leaf.const (.pointer (some ⟨a6, 1, none⟩)) :: Leaf.const (.int .i64 li) :: Leaf.const (.int .i64 (l.length : Nat)) :: Leaf.const (.slice (some ⟨gv, 0, none⟩) k cv) :: Leaf.const (.pointer (some ⟨a6, 1, none⟩)) :: Leaf.const (.int .i64 li) :: Leaf.const (.slice Ao l.length co) :: Leaf.const (.int .i64 (l.length : Nat)) :: Leaf.const (.bool false) :: Leaf.const ((.bool false)) :: Leaf.const ((.bool false)) :: Leaf.const (.pointer (some ⟨p, 0, none⟩)) :: Leaf.const (.pointer (some ⟨a6, 1, none⟩)) :: Leaf.const (.int .i64 li) :: Leaf.pred (fun v w => ∃ A c, v = .slice A l.length c ∧ IntCells w w.heap.size A l.length (ati l)) :: Leaf.const (.slice (some ⟨gv, 0, none⟩) k cv) :: Leaf.const (.pointer (some ⟨a6, 1, none⟩)) :: Leaf.const (.int .i64 li) :: Leaf.const (.slice Ao l.length co) :: Leaf.const (.bool true) :: Leaf.const (.bool false) :: Leaf.const ((.bool false)) :: []) (by kernel_rfl) (by kernel_rfl) (by kernel_rfl) ((Touch.refl _ _).drew) (⟨fun v w w' ⟨A, c, h1, h2⟩ t => ⟨A, c, h1, h2.touch t⟩, trivial⟩) ?_ ?_
        · intro i o ho ac w ht hk hd
          match i, ho with
          | 0, ho =>
            have ho' : some _ = some o := ho
            cases ho'
            clear ho
            have e23 := known_slot hk 23 (by kernel_rfl) (v := .int .i64 n1) rfl
            exact do_value (wanted_none rfl) (by rw [BigFrame.run_move (.tmp 23) rfl, e23]) rfl
          | 1, ho =>
            have ho' : some _ = some o := ho
            cases ho'
            clear ho
            have e25 := known_slot hk 25 (by kernel_rfl) (v := .int .i64 n1) rfl
            exact do_value (wanted_none rfl) (by rw [BigFrame.run_move (.tmp 25) rfl, e25]) rfl
          | 2, ho =>
            have ho' : some _ = some o := ho
            cases ho'
            clear ho
            have e185 := has_const (has_dep hd 0 (by kernel_rfl)) rfl rfl rfl (c := (.int .i64 n1))
            have e186 := has_const (has_dep hd 1 (by kernel_rfl)) rfl rfl rfl (c := (.int .i64 n1))
            exact do_value (wanted_none rfl) (v := .bool false) (run_value rfl (by rw [e185, e186]; simp [go_sem])) rfl
          | 3, ho =>
            have ho' : some _ = some o := ho
            cases ho'
            clear ho
            have e187 := has_const (has_dep hd 2 (by kernel_rfl)) rfl rfl rfl (c := (.bool false))
            exact do_value (wanted_none rfl) (by rw [BigFrame.run_move (.tmp 187) rfl, e187]) rfl
          | 4, ho =>
            have ho' : some _ = some o := ho
            cases ho'
            clear ho
            have e188 := has_const (has_dep hd 3 (by kernel_rfl)) rfl rfl rfl (c := (.bool false))
            have e24 := known_slot hk 24 (by kernel_rfl) (v := .bool b1) rfl
            exact do_value (wanted_some (g := 3) rfl rfl rfl e188) (by rw [BigFrame.run_move (.tmp 24) rfl, e24]) rfl
          | 5, ho =>
            have ho' : some _ = some o := ho
            cases ho'
            clear ho
            have e188 := has_const (has_dep hd 3 (by kernel_rfl)) rfl rfl rfl (c := (.bool false))
            have e26 := known_slot hk 26 (by kernel_rfl) (v := .bool b1) rfl
            exact do_value (wanted_some (g := 3) rfl rfl rfl e188) (by rw [BigFrame.run_move (.tmp 26) rfl, e26]) rfl
          | 6, ho =>
            have ho' : some _ = some o := ho
            cases ho'
            clear ho
            have e188 := has_const (has_dep hd 3 (by kernel_rfl)) rfl rfl rfl (c := (.bool false))
            have e189 := has_const (has_dep hd 4 (by kernel_rfl)) rfl rfl rfl (c := (.bool b1))
            have e190 := has_const (has_dep hd 5 (by kernel_rfl)) rfl rfl rfl (c := (.bool b1))
            exact do_value (wanted_some (g := 3) rfl rfl rfl e188) (v := .bool false) (run_value rfl (by rw [e189, e190]; simp [go_sem])) rfl
          | 7, ho =>
            have ho' : some _ = some o := ho
            cases ho'
            clear ho
            have e188 := has_const (has_dep hd 3 (by kernel_rfl)) rfl rfl rfl (c := (.bool false))
            have e191 := has_const (has_dep hd 6 (by kernel_rfl)) rfl rfl rfl (c := (.bool false))
            exact do_value (wanted_none rfl) (by rw [run_pickF (c := .tmp 188) (x := .const (.bool true)) (y := .tmp 191) rfl e188, e191]) rfl
          | 8, ho =>
            have ho' : some _ = some o := ho
            cases ho'
            clear ho
            have e192 := has_const (has_dep hd 7 (by kernel_rfl)) rfl rfl rfl (c := (.bool false))
            exact do_value (wanted_none rfl) (by rw [BigFrame.run_move (.tmp 192) rfl, e192]) rfl
          | 9, ho =>
            have ho' : some _ = some o := ho
            cases ho'
            clear ho
            have e193 := has_const (has_dep hd 8 (by kernel_rfl)) rfl rfl rfl (c := (.bool false))
            have e7 := known_slot hk 7 (by kernel_rfl) (v := .pointer (some ⟨p, 0, none⟩)) rfl
            exact do_value (wanted_some (g := 8) rfl rfl rfl e193) (by rw [BigFrame.run_move (.tmp 7) rfl, e7]) rfl
          | 10, ho =>
            have ho' : some _ = some o := ho
            cases ho'
            clear ho
            have e193 := has_const (has_dep hd 8 (by kernel_rfl)) rfl rfl rfl (c := (.bool false))
            have e10 := known_slot hk 10 (by kernel_rfl) (v := .pointer (some ⟨a6, 0, none⟩)) rfl
            exact do_value (wanted_some (g := 8) rfl rfl rfl e193) (v := .pointer (some ⟨a6, 1, none⟩)) (run_value rfl (by rw [e10]; simp [go_sem])) rfl
          | 11, ho =>
            have ho' : some _ = some o := ho
            cases ho'
            clear ho
            have e193 := has_const (has_dep hd 8 (by kernel_rfl)) rfl rfl rfl (c := (.bool false))
            have e195 := has_const (has_dep hd 10 (by kernel_rfl)) rfl rfl rfl (c := (.pointer (some ⟨a6, 1, none⟩)))
            have ce := (HA9.out.carry ht (by simp)).cell 1
            simp only [List.getElem?_toArray, List.getElem?_cons_zero, List.getElem?_cons_succ] at ce
            exact do_value (wanted_some (g := 8) rfl rfl rfl e193) (v := .int .i64 li) (run_value rfl (by rw [e195]; simp [go_sem, ce])) rfl
          | 12, ho =>
            have ho' : some _ = some o := ho
            cases ho'
            clear ho
            have e193 := has_const (has_dep hd 8 (by kernel_rfl)) rfl rfl rfl (c := (.bool false))
            have e194 := has_const (has_dep hd 9 (by kernel_rfl)) rfl rfl rfl (c := (.pointer (some ⟨p, 0, none⟩)))
            have e196 := has_const (has_dep hd 11 (by kernel_rfl)) rfl rfl rfl (c := (.int .i64 li))
            refine do_enter (wanted_some (g := 8) rfl rfl rfl e193) (f := 19) (args := #[(.pointer (some ⟨p, 0, none⟩)), (.int .i64 li)]) (by rw [run_go3 19 _ _ rfl, ent19]; simp [eval_c, e194, e196]) ?_
            exact (HLN.out _ ht).mono fun e w2 ⟨he, hw⟩ => ⟨_, he, rfl, by rw [hw]; exact Touch.refl _ _⟩
          | 13, ho =>
            have ho' : some _ = some o := ho
            cases ho'
            clear ho
            have e193 := has_const (has_dep hd 8 (by kernel_rfl)) rfl rfl rfl (c := (.bool false))
            have e8 := known_slot hk 8 (by kernel_rfl) (v := .slice (some ⟨gv, 0, none⟩) k cv) rfl
            exact do_value (wanted_some (g := 8) rfl rfl rfl e193) (by rw [BigFrame.run_move (.tmp 8) rfl, e8]) rfl
          | 14, ho =>
            have ho' : some _ = some o := ho
            cases ho'
            clear ho
            have e193 := has_const (has_dep hd 8 (by kernel_rfl)) rfl rfl rfl (c := (.bool false))
            have e10 := known_slot hk 10 (by kernel_rfl) (v := .pointer (some ⟨a6, 0, none⟩)) rfl
            exact do_value (wanted_some (g := 8) rfl rfl rfl e193) (v := .pointer (some ⟨a6, 1, none⟩)) (run_value rfl (by rw [e10]; simp [go_sem])) rfl
          | 15, ho =>
            have ho' : some _ = some o := ho
            cases ho'
            clear ho
            have e193 := has_const (has_dep hd 8 (by kernel_rfl)) rfl rfl rfl (c := (.bool false))
            have e199 := has_const (has_dep hd 14 (by kernel_rfl)) rfl rfl rfl (c := (.pointer (some ⟨a6, 1, none⟩)))
            have ce := (HA9.out.carry ht (by simp)).cell 1
            simp only [List.getElem?_toArray, List.getElem?_cons_zero, List.getElem?_cons_succ] at ce
            exact do_value (wanted_some (g := 8) rfl rfl rfl e193) (v := .int .i64 li) (run_value rfl (by rw [e199]; simp [go_sem, ce])) rfl
          | 16, ho =>
            have ho' : some _ = some o := ho
            cases ho'
            clear ho
            have e193 := has_const (has_dep hd 8 (by kernel_rfl)) rfl rfl rfl (c := (.bool false))
            have e198 := has_const (has_dep hd 13 (by kernel_rfl)) rfl rfl rfl (c := (.slice (some ⟨gv, 0, none⟩) k cv))
            have e200 := has_const (has_dep hd 15 (by kernel_rfl)) rfl rfl rfl (c := (.int .i64 li))
            refine do_enter (wanted_some (g := 8) rfl rfl rfl e193) (f := 20) (args := #[(.slice (some ⟨gv, 0, none⟩) k cv), (.int .i64 li)]) (by rw [run_go3 20 _ _ rfl, ent20]; simp [eval_c, e198, e200]) ?_
            exact (HOF.out _ ht).mono fun e w2 ⟨he, hw⟩ => ⟨_, he, rfl, by rw [hw]; exact Touch.refl _ _⟩
          | 17, ho =>
            have ho' : some _ = some o := ho
            cases ho'
            clear ho
            have e193 := has_const (has_dep hd 8 (by kernel_rfl)) rfl rfl rfl (c := (.bool false))
            have e201 := has_const (has_dep hd 16 (by kernel_rfl)) rfl rfl rfl (c := (.slice Ao l.length co))
            exact do_value (wanted_some (g := 8) rfl rfl rfl e193) (v := .int .i64 (l.length : Nat)) (run_len3 (x := .tmp 201) rfl Try.underlying40 e201) rfl
          | 18, ho =>
            have ho' : some _ = some o := ho
            cases ho'
            clear ho
            have e193 := has_const (has_dep hd 8 (by kernel_rfl)) rfl rfl rfl (c := (.bool false))
            have e197 := has_const (has_dep hd 12 (by kernel_rfl)) rfl rfl rfl (c := (.int .i64 (l.length : Nat)))
            have e202 := has_const (has_dep hd 17 (by kernel_rfl)) rfl rfl rfl (c := (.int .i64 (l.length : Nat)))
            exact do_value (wanted_some (g := 8) rfl rfl rfl e193) (v := .bool false) (run_value rfl (by rw [e197, e202]; simp [go_sem])) rfl
          | 19, ho =>
            have ho' : some _ = some o := ho
            cases ho'
            clear ho
            have e193 := has_const (has_dep hd 8 (by kernel_rfl)) rfl rfl rfl (c := (.bool false))
            have e203 := has_const (has_dep hd 18 (by kernel_rfl)) rfl rfl rfl (c := (.bool false))
            exact do_value (wanted_none rfl) (by rw [run_pickF (c := .tmp 193) (x := .const (.bool true)) (y := .tmp 203) rfl e193, e203]) rfl
          | 20, ho =>
            have ho' : some _ = some o := ho
            cases ho'
            clear ho
            have e204 := has_const (has_dep hd 19 (by kernel_rfl)) rfl rfl rfl (c := (.bool false))
            exact do_value (wanted_none rfl) (by rw [BigFrame.run_move (.tmp 204) rfl, e204]) rfl
          | 21, ho =>
            have ho' : some _ = some o := ho
            cases ho'
            clear ho
            have e205 := has_const (has_dep hd 20 (by kernel_rfl)) rfl rfl rfl (c := (.bool false))
            have e7 := known_slot hk 7 (by kernel_rfl) (v := .pointer (some ⟨p, 0, none⟩)) rfl
            exact do_value (wanted_some (g := 20) rfl rfl rfl e205) (by rw [BigFrame.run_move (.tmp 7) rfl, e7]) rfl
          | 22, ho =>
            have ho' : some _ = some o := ho
            cases ho'
            clear ho
            have e205 := has_const (has_dep hd 20 (by kernel_rfl)) rfl rfl rfl (c := (.bool false))
            have e10 := known_slot hk 10 (by kernel_rfl) (v := .pointer (some ⟨a6, 0, none⟩)) rfl
            exact do_value (wanted_some (g := 20) rfl rfl rfl e205) (v := .pointer (some ⟨a6, 1, none⟩)) (run_value rfl (by rw [e10]; simp [go_sem])) rfl
          | 23, ho =>
            have ho' : some _ = some o := ho
            cases ho'
            clear ho
            have e205 := has_const (has_dep hd 20 (by kernel_rfl)) rfl rfl rfl (c := (.bool false))
            have e207 := has_const (has_dep hd 22 (by kernel_rfl)) rfl rfl rfl (c := (.pointer (some ⟨a6, 1, none⟩)))
            have ce := (HA9.out.carry ht (by simp)).cell 1
            simp only [List.getElem?_toArray, List.getElem?_cons_zero, List.getElem?_cons_succ] at ce
            exact do_value (wanted_some (g := 20) rfl rfl rfl e205) (v := .int .i64 li) (run_value rfl (by rw [e207]; simp [go_sem, ce])) rfl
          | 24, ho =>
            have ho' : some _ = some o := ho
            cases ho'
            clear ho
            have e205 := has_const (has_dep hd 20 (by kernel_rfl)) rfl rfl rfl (c := (.bool false))
            have e206 := has_const (has_dep hd 21 (by kernel_rfl)) rfl rfl rfl (c := (.pointer (some ⟨p, 0, none⟩)))
            have e208 := has_const (has_dep hd 23 (by kernel_rfl)) rfl rfl rfl (c := (.int .i64 li))
            refine do_enter (wanted_some (g := 20) rfl rfl rfl e205) (f := 22) (args := #[(.pointer (some ⟨p, 0, none⟩)), (.int .i64 li)]) (by rw [run_go3 22 _ _ rfl, ent22]; simp [eval_c, e206, e208]) ?_
            exact (HAL.out _ ht).mono fun e w2 ⟨u, he, ho, t⟩ => ⟨u, he, by rw [nv_iv] at ho; obtain ⟨A, c, e1, _, _, h⟩ := own_cells ho; exact ⟨A, c, e1, h⟩, t⟩
          | 25, ho =>
            have ho' : some _ = some o := ho
            cases ho'
            clear ho
            have e205 := has_const (has_dep hd 20 (by kernel_rfl)) rfl rfl rfl (c := (.bool false))
            have e8 := known_slot hk 8 (by kernel_rfl) (v := .slice (some ⟨gv, 0, none⟩) k cv) rfl
            exact do_value (wanted_some (g := 20) rfl rfl rfl e205) (by rw [BigFrame.run_move (.tmp 8) rfl, e8]) rfl
          | 26, ho =>
            have ho' : some _ = some o := ho
            cases ho'
            clear ho
            have e205 := has_const (has_dep hd 20 (by kernel_rfl)) rfl rfl rfl (c := (.bool false))
            have e10 := known_slot hk 10 (by kernel_rfl) (v := .pointer (some ⟨a6, 0, none⟩)) rfl
            exact do_value (wanted_some (g := 20) rfl rfl rfl e205) (v := .pointer (some ⟨a6, 1, none⟩)) (run_value rfl (by rw [e10]; simp [go_sem])) rfl
          | 27, ho =>
            have ho' : some _ = some o := ho
            cases ho'
            clear ho
            have e205 := has_const (has_dep hd 20 (by kernel_rfl)) rfl rfl rfl (c := (.bool false))
            have e211 := has_const (has_dep hd 26 (by kernel_rfl)) rfl rfl rfl (c := (.pointer (some ⟨a6, 1, none⟩)))
            have ce := (HA9.out.carry ht (by simp)).cell 1
            simp only [List.getElem?_toArray, List.getElem?_cons_zero, List.getElem?_cons_succ] at ce
            exact do_value (wanted_some (g := 20) rfl rfl rfl e205) (v := .int .i64 li) (run_value rfl (by rw [e211]; simp [go_sem, ce])) rfl
          | 28, ho =>
            have ho' : some _ = some o := ho
            cases ho'
            clear ho
            have e205 := has_const (has_dep hd 20 (by kernel_rfl)) rfl rfl rfl (c := (.bool false))
            have e210 := has_const (has_dep hd 25 (by kernel_rfl)) rfl rfl rfl (c := (.slice (some ⟨gv, 0, none⟩) k cv))
            have e212 := has_const (has_dep hd 27 (by kernel_rfl)) rfl rfl rfl (c := (.int .i64 li))
            refine do_enter (wanted_some (g := 20) rfl rfl rfl e205) (f := 20) (args := #[(.slice (some ⟨gv, 0, none⟩) k cv), (.int .i64 li)]) (by rw [run_go3 20 _ _ rfl, ent20]; simp [eval_c, e210, e212]) ?_
            exact (HOF.out _ ht).mono fun e w2 ⟨he, hw⟩ => ⟨_, he, rfl, by rw [hw]; exact Touch.refl _ _⟩
          | 29, ho =>
            have ho' : some _ = some o := ho
            cases ho'
            clear ho
            have e205 := has_const (has_dep hd 20 (by kernel_rfl)) rfl rfl rfl (c := (.bool false))
            obtain ⟨v209, e209, h209⟩ := has_pred (has_dep hd 24 (by kernel_rfl)) rfl rfl rfl (φ := fun v w => ∃ A c, v = .slice A l.length c ∧ IntCells w w.heap.size A l.length (ati l))
            have e213 := has_const (has_dep hd 28 (by kernel_rfl)) rfl rfl rfl (c := (.slice Ao l.length co))
            obtain ⟨A9, c9, rfl, h9⟩ := h209
            refine do_enter (wanted_some (g := 20) rfl rfl rfl e205) (f := 21) (args := #[.slice A9 l.length c9, .slice Ao l.length co]) (by rw [run_go3 21 _ _ rfl, ent21]; simp [eval_c, e209, e213]) ?_
            exact (sameInts_yes h9 (HLO.out.carry ht (by simp)).ints (fun _ _ => rfl) (by omega)).mono fun e w2 ⟨he, t⟩ => ⟨_, he, rfl, t⟩
          | 30, ho =>
            have ho' : some _ = some o := ho
            cases ho'
            clear ho
            have e205 := has_const (has_dep hd 20 (by kernel_rfl)) rfl rfl rfl (c := (.bool false))
            have e214 := has_const (has_dep hd 29 (by kernel_rfl)) rfl rfl rfl (c := (.bool true))
            exact do_value (wanted_some (g := 20) rfl rfl rfl e205) (v := .bool false) (run_value rfl (by rw [e214]; simp [go_sem])) rfl
          | 31, ho =>
            have ho' : some _ = some o := ho
            cases ho'
            clear ho
            have e205 := has_const (has_dep hd 20 (by kernel_rfl)) rfl rfl rfl (c := (.bool false))
            have e215 := has_const (has_dep hd 30 (by kernel_rfl)) rfl rfl rfl (c := (.bool false))
            exact do_value (wanted_none rfl) (by rw [run_pickF (c := .tmp 205) (x := .const (.bool true)) (y := .tmp 215) rfl e205, e215]) rfl
          | q + 32, ho => exact absurd ho (by simp)
        · intro x' w10 T10 hkn
          simp only [putL, Act.put, List.setIfInBounds_toArray, List.set_cons_succ, List.set_cons_zero]
          obtain ⟨hx, -⟩ := hkn
          obtain ⟨A9, c9, hxe, -⟩ := hx
          have H10 := Lib.hid (H9.out.new T10)
          clear T10 H9
          go_wp2_with fail
          go_roundw
          case rel => exact ⟨j + 1, by omega, by go_num, _, _, _, _, _, _, _, _, rfl, H10.out⟩
          case measure => simp [intOf]; omega
    · obtain rfl : j = n := by omega
      have HB := Lib.hid hP.t
      clear hP
      go_wp2_with fail
      refine (chainLives_any wr).mono ?_
      rintro e w9 ⟨rfl, t9⟩
      have T9 := Lib.hid (HB.out.trans t9 (by simp))
      go_wp2_with fail
      go_ret
      exact ⟨rfl, T9.out⟩
end Go.Proofs.Ytalkpoeliekbfaa
