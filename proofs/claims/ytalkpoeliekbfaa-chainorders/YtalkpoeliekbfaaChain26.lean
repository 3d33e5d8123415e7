/-
  Layer 7 (chain): ChainOrders' state: two rows of the call's own, the lists, and what came in.
-/
import Derived.Test.YtalkpoeliekbfaaChain25
import Derived.Test.YtalkpoeliekbfaaInts
import Derived.Test.YtalkpoeliekbfaaAppendIn
namespace Go.Proofs.Ytalkpoeliekbfaa
open Go.ChangeShapes Go.WideShapes Go.ChangeAt Go.RowKit Go.Deep
set_option linter.unusedVariables false
set_option linter.unusedSimpArgs false
/-- The first n booleans of a slice lie in old memory as f says. -/
def BoolCells (w : World) (B : Nat) (A : Option Addr) (n : Nat) (f : Nat → Bool) : Prop := ∀ i, i < n → ∃ b off, A = some ⟨b, off, none⟩ ∧ b < B ∧ w.cell? ⟨b, off + i, none⟩ = some (.bool (f i))
theorem BoolCells.carry {w w' : World} {B n : Nat} {A : Option Addr} {f : Nat → Bool} {S : List Nat} (h : BoolCells w B A n f) (t : Touch S w w') (hB : B ≤ w.heap.size) (hS : ∀ b ∈ S, B ≤ b) : BoolCells w' B A n f := fun i hi => by
  obtain ⟨b, off, hA, hb, hc⟩ := h i hi
  exact ⟨b, off, hA, hb, (t.cell (a := ⟨b, off + i, none⟩) (show b < w.heap.size by omega) (fun hm => by have := hS b hm; omega)).trans hc⟩
/-- A pushed row of the call's own, and another one apart from it. -/
structure Two (B : Nat) (v1 v2 : Value) (L1 L2 : List Nat) (w : World) : Prop where
  r1 : w.ownsRow B 3 1 v1 L1.length (nv L1)
  r2 : w.ownsRow B 3 1 v2 L2.length (nv L2)
  ap : ∀ g, v1.ownBlock = some g → v2.ownBlock ≠ some g
section
variable {B x : Nat} {v v' v1 v2 : Value} {L1 L2 M1 M2 : List Nat} {w w' : World} {o : Obj} {S : List Nat}
theorem Two.swap (h : Two B v1 v2 L1 L2 w) : Two B v2 v1 L2 L1 w := ⟨h.r2, h.r1, fun g h2 h1 => h.ap g h1 h2⟩
theorem Two.carry (h : Two B v1 v2 L1 L2 w) (t : Touch S w w') (hS : ∀ b ∈ S, b < B) : Two B v1 v2 L1 L2 w' :=
  ⟨t.row h.r1 (fun g hg hm => by have := own_base h.r1 hg; have := hS g hm; omega), t.row h.r2 (fun g hg hm => by have := own_base h.r2 hg; have := hS g hm; omega), h.ap⟩
theorem Two.first (h : Two B v1 v2 L1 L2 w) (hg : (w.alloc o).grownBy w' v1.ownBlock) (ow : w'.ownsRow B 3 1 v (L1.length + 1) (nv L1 ++ [.int .i64 (x : Int)])) (hat : v.ownBlock = v1.ownBlock ∨ v.ownBlock = some (w.heap.size + 1)) :
    Two B v v2 (L1 ++ [x]) L2 w' ∧ Touch v1.ownBlock.toList w w' ∧ ∀ b ∈ v1.ownBlock.toList, B ≤ b := by
  have t : Touch v1.ownBlock.toList w w' := ((Touch.refl v1.ownBlock.toList w).alloc o).grown hg (by intro b hb; rw [hb]; simp)
  refine ⟨⟨by rw [nv_append, List.length_append]; exact ow, t.row h.r2 (fun g hg hm => ?_), fun g hg => ?_⟩, t, fun b hb => ?_⟩
  · simp at hm
    exact h.ap g hm hg
  · rcases hat with e | e
    · exact h.ap g (by rw [← e]; exact hg)
    · rw [e] at hg
      cases hg
      intro h2
      have := own_lt h.r2 h2
      omega
  · exact own_base h.r1 (by simpa using hb)
/-- What ChainOrders knows between its steps. -/
structure OSt (W : World) (B p gn gw gl cn cw cl bm : Nat) (most : Int) (A : Option Addr) (n : Nat) (f : Nat → Bool) (X : Nat → List Nat) (v1 v2 : Value) (L1 L2 : List Nat) (w : World) : Prop where
  two : Two B v1 v2 L1 L2 w
  ch : Chained w p gn gw gl 60 cn cw 2 cl X
  t : Touch [] W w
  sz : B ≤ w.heap.size
  cells : BoolCells w W.heap.size A n f
  box : Box1 w bm 3 (.int .i64 most)
  lo : ∀ b ∈ [p, gn, gw, gl], W.heap.size < b ∧ b < B ∧ b ≠ bm
  bm : W.heap.size ≤ bm ∧ bm < B
variable {W : World} {p gn gw gl cn cw cl bm n : Nat} {most : Int} {A : Option Addr} {f : Nat → Bool} {X X' : Nat → List Nat}
theorem OSt.new (h : OSt W B p gn gw gl cn cw cl bm most A n f X v1 v2 L1 L2 w) (t : Touch [] w w') : OSt W B p gn gw gl cn cw cl bm most A n f X v1 v2 L1 L2 w' :=
  ⟨h.two.carry t (by simp), h.ch.new t, h.t.trans t (by simp), Nat.le_trans h.sz t.size, h.cells.carry t h.t.size (by simp), h.box.carry t (by simp), h.lo, h.bm⟩
theorem OSt.lists (h : OSt W B p gn gw gl cn cw cl bm most A n f X v1 v2 L1 L2 w) (hc : Chained w' p gn gw gl 60 cn cw 2 cl X') (t : Touch [gn, gw, gl] w w') : OSt W B p gn gw gl cn cw cl bm most A n f X' v1 v2 L1 L2 w' := by
  have hlo : ∀ b ∈ [gn, gw, gl], W.heap.size < b ∧ b < B ∧ b ≠ bm := fun b hb => h.lo b (List.mem_cons_of_mem _ hb)
  exact ⟨h.two.carry t (fun b hb => (hlo b hb).2.1), hc, h.t.trans t (fun b hb => .inr (by have := hlo b hb; omega)), Nat.le_trans h.sz t.size, h.cells.carry t h.t.size (fun b hb => by have := hlo b hb; omega), h.box.carry t (fun hm => (hlo bm hm).2.2 rfl), h.lo, h.bm⟩
theorem OSt.other (h : OSt W B p gn gw gl cn cw cl bm most A n f X v1 v2 L1 L2 w) (h2 : Two B v v' M1 M2 w') (t : Touch S w w') (hS : ∀ b ∈ S, B ≤ b) : OSt W B p gn gw gl cn cw cl bm most A n f X v v' M1 M2 w' := by
  have hb := h.bm
  have hlo := h.lo
  exact ⟨h2, h.ch.carry t (fun b hb hm => by have := hS b hm; have := hlo b hb; omega), h.t.trans t (fun b hb' => .inr (by have := hS b hb'; omega)), Nat.le_trans h.sz t.size, h.cells.carry t h.t.size (fun b hb' => by have := hS b hb'; omega), h.box.carry t (fun hm => by have := hS bm hm; omega), h.lo, h.bm⟩
theorem OSt.first (h : OSt W B p gn gw gl cn cw cl bm most A n f X v1 v2 L1 L2 w) (hg : (w.alloc o).grownBy w' v1.ownBlock) (ow : w'.ownsRow B 3 1 v (L1.length + 1) (nv L1 ++ [.int .i64 (x : Int)])) (hat : v.ownBlock = v1.ownBlock ∨ v.ownBlock = some (w.heap.size + 1)) :
    OSt W B p gn gw gl cn cw cl bm most A n f X v v2 (L1 ++ [x]) L2 w' := by
  obtain ⟨h1, h2, h3⟩ := h.two.first hg ow hat
  exact h.other h1 h2 h3
theorem OSt.second (h : OSt W B p gn gw gl cn cw cl bm most A n f X v1 v2 L1 L2 w) (hg : (w.alloc o).grownBy w' v2.ownBlock) (ow : w'.ownsRow B 3 1 v (L2.length + 1) (nv L2 ++ [.int .i64 (x : Int)])) (hat : v.ownBlock = v2.ownBlock ∨ v.ownBlock = some (w.heap.size + 1)) :
    OSt W B p gn gw gl cn cw cl bm most A n f X v1 v L1 (L2 ++ [x]) w' := by
  obtain ⟨h1, h2, h3⟩ := h.two.swap.first hg ow hat
  exact h.other h1.swap h2 h3
end
/-- What is left of the joined lists after k nodes. -/
def popX (Y : List Nat) (k : Nat) : Nat → List Nat := fun i => if i = 0 then Y.drop k else []
theorem popX_zero (Y : List Nat) (k : Nat) : popX Y k 0 = Y.drop k := rfl
theorem popX_one (Y : List Nat) (k : Nat) : popX Y k 1 = [] := rfl
theorem popX_next (Y : List Nat) (k : Nat) : setL (popX Y k) 0 (Y.drop (k + 1)) = popX Y (k + 1) := by
  funext i
  unfold setL popX
  split <;> rfl
theorem joinX_two (f : Nat → Bool) (n : Nat) : joinX (twoX f n) 0 1 = popX (pick f n ++ pick (fun j => ! f j) n) 0 := by
  funext i
  unfold joinX setL popX twoX
  rcases (show i = 0 ∨ i = 1 ∨ (i ≠ 0 ∧ i ≠ 1) by omega) with rfl | rfl | ⟨h0, h1⟩ <;> simp [*]
theorem joinX_none (X : Nat → List Nat) {a c : Nat} (h : X c = []) : joinX X a c = X := by
  funext i
  unfold joinX setL
  by_cases hc : i = c
  · subst hc; simp [h]
  · by_cases ha : i = a
    · subst ha; simp [hc, h]
    · simp [hc, ha]
theorem pick_all (f : Nat → Bool) (n : Nat) : (pick f n).length + (pick (fun j => ! f j) n).length = n := by
  induction n with
  | zero => rfl
  | succ n ih =>
    rw [pick_succ, pick_succ]
    cases h : f n
    · simp; omega
    · simp; omega
namespace Chained
variable {w w' : World} {p gn gw gl n cn cw k cl a c x : Nat} {X : Nat → List Nat}
theorem join_any (h : Chained w p gn gw gl n cn cw k cl X) (hn : n ≤ 5000) (ha : a < k) (hc : c < k) (hac : a ≠ c) :
    Calls Try.prog 15 #[.pointer (some ⟨p, 0, none⟩), .int .i64 (a : Int), .int .i64 (c : Int)] w fun e w' => e = .returned (.bool true) ∧
      Chained w' p gn gw gl n cn cw k cl (joinX X a c) ∧ Touch [gn, gw, gl] w w' := by
  by_cases h0 : X c = []
  · refine (h.joinEmpty ha hc hac h0).mono ?_
    rintro e w' ⟨he, t⟩
    rw [joinX_none X h0]
    exact ⟨he, h.new t, t.mono (by simp)⟩
  · exact h.join_yes hn ha hc hac h0
theorem nodesC (h : Chained w p gn gw gl n cn cw k cl X) (hn : n ≤ 5000) (l : Int) :
    Calls Try.prog 50 #[.pointer (some ⟨p, 0, none⟩), .int .i64 l] w (NodesPost w (listOf k X l)) := by
  obtain ⟨N, V, E, h1, h2⟩ := h
  cases hl : inR l k
  · rw [listOf_no X hl]
    exact nodes_none _ _ w (Lib.hid (first_none h1 l (by rw [lenOf h2, listOf_no X hl]; rfl)))
  · obtain ⟨a, rfl, ha⟩ := inR_form hl
    rw [listOf_at X ha]
    have hle := nodup_len n _ (h2.nodup a ha) (h2.at_ a ha).lt
    exact nodes_any h1 a ha (X a) (h2.at_ a ha) (by omega)
end Chained
/-- append onto a row of the call's own; what is appended may be nil. -/
theorem wpList_append_ownA {P : Program} {w : World} {ops : Array Oper} {rest : List Oper} {o : Oper} {a : Act} {Q : Exit → Act → World → Prop} (hgd : o.guard = none) (s x : Operand) (t : TypeId)
    (ho : o.op = .call { callee := .builtin .append, args := #[s, x], argTypes := #[t, t] })
    (base : Nat) (e : TypeId) (i : TypeInfo) (z : Value) (size bytes : Nat) (ht : P.underlying t = some (.slice e)) (hi : P.info? e = some i) (hz : i.zero = some z)
    (hsize : i.size = size) (hby : i.bytes = bytes) (hzs : z.cells.size = size) (hsz : 0 < size)
    (v : Value) (n : Nat) (xs : List Value) (hs : a.eval s = v) (hown : w.ownsRow base e size v n xs)
    (A : Option Addr) (m c : Nat) (news : List Value) (hx : a.eval x = .slice A m c) (hA : A = none → m = 0) (hl : news.length = m * size) (hnews : ∀ ad, A = some ad → ∀ j u, news[j]? = some u → w.cell? (ad.add j) = some u) (h1 : ∀ u ∈ news, u.oneCell' = true)
    (h63 : n + m ≤ maxLen) (hbytes : (n + m) * bytes ≤ 140737488355328) (hbase : base ≤ w.heap.size)
    (h : ∀ v' w', w'.ownsRow base e size v' (n + m) (xs ++ news) → w.grownBy w' v.ownBlock → (v'.ownBlock = v.ownBlock ∨ v'.ownBlock = some w.heap.size) → wpList P ops Q rest (a.put o.dst v') w') :
    wpList P ops Q (o :: rest) a w := by
  cases A with
  | some ad => exact wpList_append_own_at w hgd s x t ho base e i z size bytes ht hi hz hsize hby hzs hsz v n xs hs hown ad m c news hx hl (hnews ad rfl) h1 h63 hbytes hbase (fun v' w' k1 k2 _ k4 => h v' w' k1 k2 k4)
  | none =>
    obtain rfl := hA rfl
    obtain rfl : news = [] := List.length_eq_zero_iff.1 (by omega)
    obtain ⟨A', c', hv, hle⟩ : ∃ A' c', v = .slice A' n c' ∧ n ≤ c' := by
      rcases hown.2 with ⟨rfl, rfl⟩ | ⟨g', cap, cur, rfl, h2, hh, h3, h4, h5⟩
      · exact ⟨none, 0, rfl, Nat.le_refl _⟩
      · exact ⟨_, _, rfl, h3⟩
    subst hv
    have hr := run_append_nothing (P := P) w t t o.type e i ht hi A' n c' hle (.slice none 0 c) (by rw [hsize]; exact Src.ofNil _ ht c)
    refine wpList_plain hgd fun K hK => ?_
    unfold Oper.wp execOp
    simp only [ho, resolve, invoke, builtin, Sem.run_bind, Sem.run_pure, Result.andThen_ok, List.map_toArray, List.map_cons, List.map_nil, hs, hx, hr]
    exact hK _ _ (h _ w (by simpa using hown) ⟨rfl, rfl, rfl, Nat.le_refl _, fun _ _ _ => rfl⟩ (.inl rfl))
theorem own_news {w : World} {base n c : Nat} {e : TypeId} {A : Option Addr} {xs : List Value} (h : w.ownsRow base e 1 (.slice A n c) n xs) :
    (A = none → n = 0) ∧ ∀ ad, A = some ad → ∀ j u, xs[j]? = some u → w.cell? (ad.add j) = some u := by
  rcases h.2 with ⟨hv, hn⟩ | ⟨g, cap, cur, hv, hg, hh, h2, h3, h4, h5⟩
  · simp only [Value.slice.injEq] at hv
    exact ⟨fun _ => hv.2.1, fun ad h' => by rw [hv.1] at h'; cases h'⟩
  · simp only [Value.slice.injEq, true_and] at hv
    obtain ⟨rfl, rfl⟩ := hv
    refine ⟨fun h' => (by cases h'), fun ad h' j u hj => ?_⟩
    cases h'
    have hjl := (List.getElem?_eq_some_iff.1 hj).1
    have hx := h.1
    rw [show (⟨g, 0, none⟩ : Addr).add j = ⟨g, j, none⟩ by unfold Addr.add; split <;> simp_all]
    rw [h.cellAt j (by omega)]
    exact hj
end Go.Proofs.Ytalkpoeliekbfaa
