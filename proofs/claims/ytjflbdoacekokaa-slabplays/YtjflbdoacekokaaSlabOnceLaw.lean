/-
  SlabOnce holds.
-/
import Derived.Test.YtjflbdoacekokaaSlabInv
import Derived.Test.YtjflbdoacekokaaSlabLives
import Derived.Deep.LoopGhost
import Derived.OwnWalk
import Derived.IntWalk
namespace Go.Proofs.Ytjflbdoacekokaa
open Go.ChangeShapes Go.WideShapes Go.ChangeAt Go.RowKit Go.Deep
set_option linter.unusedVariables false

/-- The first n numbers of a slice. -/
def ICells (w : World) (B : Nat) (A : Option Addr) (n : Nat) (X : Nat → Int) : Prop :=
  ∀ i, i < n → ∃ b off, A = some ⟨b, off, none⟩ ∧ b < B ∧ w.cell? ⟨b, off + i, none⟩ = some (.int .i64 (X i))

/-- The law's memory: the slab, ve with all handles that were ever told, vn with those that are out. -/
structure Held (W wr : World) (p g k n m c : Nat) (S K : Nat → Int) (E N : List (Nat × Int)) (ve vn : Value) : Prop where
  slab : SlabAt wr p g k n n m c S K
  oe : wr.ownsRow W.heap.size 32 2 ve E.length (hv E)
  on : wr.ownsRow W.heap.size 32 2 vn N.length (hv N)
  fe : ∀ b, ve.ownBlock = some b → b ∉ [p, g, k]
  fn : ∀ b, vn.ownBlock = some b → b ∉ [p, g, k]
  fen : ∀ b, ve.ownBlock = some b → vn.ownBlock ≠ some b
  low : W.heap.size ≤ k
  below : Below W.heap.size W wr

def Round (W : World) (p g n : Nat) (ve vn i : Value) (wr : World) : Prop := ∃ (j k m c : Nat) (S K : Nat → Int) (E N : List (Nat × Int)), i = .int .i64 j ∧ Held W wr p g k n m c S K E N ve vn ∧ Inv n m S K E N j

section
variable {W wr w' : World} {p g k n m c : Nat} {S K : Nat → Int} {E N : List (Nat × Int)} {ve vn : Value} {j : Nat}
theorem Held.carry (h : Held W wr p g k n m c S K E N ve vn) (t : Touch [] wr w') : Held W w' p g k n m c S K E N ve vn :=
  ⟨h.slab.carry t (by simp) (by simp) (by simp), t.row h.oe (by simp), t.row h.on (by simp), h.fe, h.fn, h.fen, h.low, h.below.trans (t.below (by simp) h.below.size)⟩
/-- The slab has turned; its stack may lie elsewhere now. -/
theorem Held.turned {k' m' c' : Nat} {S' K' : Nat → Int} (h : Held W wr p g k n m c S K E N ve vn) (lp : W.heap.size ≤ p) (lg : W.heap.size ≤ g) (hs : SlabAt w' p g k' n n m' c' S' K') (t : Touch [p, g, k] wr w') (hk : k' = k ∨ wr.heap.size ≤ k') :
    Held W w' p g k' n m' c' S' K' E N ve vn := by
  have hlow := h.low
  have hsz := h.below.size
  have key : ∀ {u : Value} {l : Nat} {xs : List Value}, wr.ownsRow W.heap.size 32 2 u l xs → (∀ b, u.ownBlock = some b → b ∉ [p, g, k]) → ∀ b, u.ownBlock = some b → b ∉ [p, g, k'] := fun {u l xs} ho hu b hb => by
    have h1 := own_lt ho hb
    have h2 := hu b hb
    simp at h2 ⊢
    omega
  exact ⟨hs, t.row h.oe h.fe, t.row h.on h.fn, key h.oe h.fe, key h.on h.fn, h.fen, by omega, h.below.trans (t.below (by simp; omega) hsz)⟩
/-- Another list of those that are out. -/
theorem Held.now {N' : List (Nat × Int)} {v : Value} (h : Held W wr p g k n m c S K E N ve vn) (ow : wr.ownsRow W.heap.size 32 2 v N'.length (hv N')) (fv : ∀ b, v.ownBlock = some b → b ∉ [p, g, k])
    (fev : ∀ b, ve.ownBlock = some b → v.ownBlock ≠ some b) : Held W wr p g k n m c S K E N' ve v :=
  ⟨h.slab, h.oe, ow, h.fe, fv, fev, h.low, h.below⟩
/-- One more was told. -/
theorem Held.more {o : Obj} {x : Nat × Int} {v : Value} (h : Held W wr p g k n m c S K E N ve vn) (hg : (wr.alloc o).grownBy w' ve.ownBlock) (ow : w'.ownsRow W.heap.size 32 2 v (E.length + 1) (hv E ++ [.int .i64 x.1, .int .i64 x.2]))
    (hat : v.ownBlock = ve.ownBlock ∨ v.ownBlock = some (wr.heap.size + 1)) : Held W w' p g k n m c S K (E ++ [x]) N v vn := by
  have lp := h.slab.ltp
  have lg := h.slab.ltg
  have lk := h.slab.ltk
  have hsz := h.below.size
  have t : Touch ve.ownBlock.toList wr w' := ((Touch.refl ve.ownBlock.toList wr).alloc o).grown hg (by intro b hb; rw [hb]; simp)
  have hno : ∀ b, (∀ b', ve.ownBlock = some b' → b ≠ b') → b ∉ ve.ownBlock.toList := fun b hb hm => by
    simp at hm
    exact hb b hm rfl
  have hp : ∀ b, b ∈ [p, g, k] → b ∉ ve.ownBlock.toList := fun b hb => hno b fun b' hb' e => h.fe b' hb' (e ▸ hb)
  refine ⟨h.slab.carry t (hp _ (by simp)) (hp _ (by simp)) (hp _ (by simp)), ?_, t.row h.on (fun b hb => hno b fun b' hb' e => h.fen b' hb' (e ▸ hb)), ?_, h.fn, ?_, h.low, h.below.trans (t.below ?_ hsz)⟩
  · rw [hv_append, List.length_append]
    exact ow
  · intro b hb
    rcases hat with e | e
    · exact h.fe b (e ▸ hb)
    · rw [e] at hb
      cases hb
      simp
      omega
  · intro b hb hv
    rcases hat with e | e
    · exact h.fen b (e ▸ hb) hv
    · rw [e] at hb
      cases hb
      have := own_lt h.on hv
      omega
  · intro b hb
    simp at hb
    rcases h.oe.2 with ⟨e, _⟩ | ⟨g', cap, cur, e, hg', _⟩
    · rw [e] at hb
      simp [Value.ownBlock] at hb
    · rw [e] at hb
      simp [Value.ownBlock] at hb
      omega
/-- One more is out. -/
theorem Held.out {o : Obj} {x : Nat × Int} {v : Value} (h : Held W wr p g k n m c S K E N ve vn) (hg : (wr.alloc o).grownBy w' vn.ownBlock) (ow : w'.ownsRow W.heap.size 32 2 v (N.length + 1) (hv N ++ [.int .i64 x.1, .int .i64 x.2]))
    (hat : v.ownBlock = vn.ownBlock ∨ v.ownBlock = some (wr.heap.size + 1)) : Held W w' p g k n m c S K E (N ++ [x]) ve v := by
  have h' : Held W wr p g k n m c S K N E vn ve := ⟨h.slab, h.on, h.oe, h.fn, h.fe, fun b hb he => h.fen b he hb, h.low, h.below⟩
  have r := h'.more hg ow hat
  exact ⟨r.slab, r.on, r.oe, r.fn, r.fe, fun b hb he => r.fen b he hb, r.low, r.below⟩
end

/-- append onto a row of the call's own, at a step of a region that draws; nothing may be appended. -/
theorem step_append_own {P : Program} (w : World) {ops : Array Oper} {o : Oper} {a : Act} {K : Act → World → Prop} {Q : Exit → Act → World → Prop} {E : Prop} (hgd : o.guard = none) (s x : Operand) (t : TypeId)
    (ho : o.op = .call { callee := .builtin .append, args := #[s, x], argTypes := #[t, t] })
    (base : Nat) (e : TypeId) (i : TypeInfo) (z : Value) (size bytes : Nat) (ht : P.underlying t = some (.slice e)) (hi : P.info? e = some i) (hz : i.zero = some z)
    (hsize : i.size = size) (hby : i.bytes = bytes) (hzs : z.cells.size = size) (hsz : 0 < size)
    (v : Value) (n : Nat) (xs : List Value) (hs : a.eval s = v) (hown : w.ownsRow base e size v n xs)
    (ad : Addr) (m c : Nat) (news : List Value) (hx : a.eval x = .slice (some ad) m c) (hl : news.length = m * size) (hnews : ∀ j u, news[j]? = some u → w.cell? (ad.add j) = some u) (h1 : ∀ u ∈ news, u.oneCell' = true)
    (h63 : n + m ≤ maxLen) (hbytes : (n + m) * bytes ≤ 140737488355328) (hbase : base ≤ w.heap.size)
    (h : ∀ v' w', w'.ownsRow base e size v' (n + m) (xs ++ news) → w.grownBy w' v.ownBlock → (v'.ownBlock = v.ownBlock ∨ v'.ownBlock = some w.heap.size) → K (a.put o.dst v') w') :
    if Region.wanted o (yielded ops a.tmps) = true then Oper.wp P o a w K Q else E := by
  have hw : Region.wanted o (yielded ops a.tmps) = true := by simp [Region.wanted, hgd]
  rw [if_pos hw]
  obtain ⟨v', w', hr, h2, h3, h4, h5⟩ := run_append_own_at (P := P) w base t o.type e i z size bytes ht hi hz hsize hby hzs hsz v n xs hown ad m c news hl hnews h1 h63 hbytes hbase
  unfold Oper.wp execOp
  simp only [ho, resolve, invoke, builtin, Sem.run_bind, Sem.run_pure, Result.andThen_ok, List.map_toArray, List.map_cons, List.map_nil, hs, hx, hr]
  exact h v' w' h2 h3 h5

/-- The cells of a part of a row. -/
theorem row_news {w : World} {base : Nat} {e : TypeId} {size n cap g : Nat} {xs : List Value} (h : w.ownsRow base e size (.slice (some ⟨g, 0, none⟩) n cap) n xs) (o l : Nat) :
    ∀ j u, ((xs.drop o).take l)[j]? = some u → w.cell? ((⟨g, o, none⟩ : Addr).add j) = some u := by
  intro j u hj
  rw [List.getElem?_take] at hj
  split at hj
  · rw [List.getElem?_drop] at hj
    have hadd : (⟨g, o, none⟩ : Addr).add j = ⟨g, o + j, none⟩ := by unfold Addr.add; split <;> simp_all
    have hlt := (List.getElem?_eq_some_iff.1 hj).1
    rw [h.1] at hlt
    rw [hadd, h.cellAt _ hlt, hj]
  · cases hj

/-- What the law makes of the handles that are out, when one is given back. -/
def Less (W w17 : World) (L : List (Nat × Int)) (v : Value) (wx : World) : Prop :=
  wx.ownsRow W.heap.size 32 2 v L.length (hv L) ∧ Touch [] w17 wx ∧ ∀ b, v.ownBlock = some b → w17.heap.size ≤ b

theorem less_of {W w17 w18 w19 : World} {o : Obj} {v2 : Value} {row row1 : Option Nat} {N : List (Nat × Int)} {q l : Nat} {xs : List Value} (hW : W.heap.size ≤ w17.heap.size) (hq : q < N.length) (hl : l = N.length - 1) (hrow : row = some w17.heap.size)
    (hxs : xs = hv (N.take q) ++ hv (N.drop (q + 1))) (hown : w19.ownsRow W.heap.size 32 2 v2 l xs) (g1 : (w17.alloc o).drew.grownBy w18 row) (g2 : w18.grownBy w19 row1)
    (a1 : row1 = row ∨ row1 = some (w17.heap.size + 1)) (a2 : v2.ownBlock = row1 ∨ v2.ownBlock = some w18.heap.size) : Less W w17 (N.take q ++ N.drop (q + 1)) v2 w19 := by
  have t1 : Touch [] w17 w18 := ((Touch.refl [] w17).alloc o).drew.grown g1 (by intro k hk; rw [hrow] at hk; cases hk; right; omega)
  have s1 := t1.size
  have t2 : Touch [] w17 w19 := t1.grown g2 (by
    intro k hk
    right
    rcases a1 with h | h
    · rw [h, hrow] at hk; cases hk; omega
    · rw [h] at hk; cases hk; omega)
  subst hl hxs
  refine ⟨?_, t2, fun b hb => ?_⟩
  · rw [hv_append]
    have : (N.take q ++ N.drop (q + 1)).length = N.length - 1 := by simp; omega
    rw [this]
    exact hown
  · rcases a2 with h | h
    · rcases a1 with h' | h'
      · rw [h, h', hrow] at hb; cases hb; omega
      · rw [h, h'] at hb; cases hb; omega
    · rw [h] at hb; cases hb; omega

theorem own_cap' {w : World} {base : Nat} {e : TypeId} {size n c : Nat} {A : Option Addr} {xs : List Value} (h : w.ownsRow base e size (.slice A n c) n xs) : n ≤ c ∧ c ≤ maxLen := by
  rcases h.2 with ⟨h', _⟩ | ⟨g', cap', cur, h', h1, hh, h2, h3, h4, h5⟩
  · simp at h'
    obtain ⟨_, rfl, rfl⟩ := h'
    exact ⟨Nat.le_refl _, Nat.zero_le _⟩
  · simp only [Value.slice.injEq, true_and] at h'
    obtain ⟨_, rfl⟩ := h'
    exact ⟨h2, h3⟩

theorem grown_cells2 {w w' : World} {o : Obj} {row : Option Nat} (hg : (w.alloc o).grownBy w' row) {b : Nat} {x y : Value} (hb : b < w.heap.size) (hn : ∀ b', row = some b' → b ≠ b') (h0 : w.cell? ⟨b, 0, none⟩ = some x) (h1 : w.cell? ⟨b, 1, none⟩ = some y) :
    w'.cell? ⟨b, 0, none⟩ = some x ∧ w'.cell? ⟨b, 1, none⟩ = some y :=
  (((Touch.refl row.toList w).alloc o).grown hg (by intro k hk; rw [hk]; simp)).cells2 hb (fun hm => by simp at hm; exact hn b hm rfl) h0 h1

theorem handle_info : (Try.prog.info? 32).map (fun i => (i.zero, i.size, i.bytes)) = some (some (.agg #[.int .i64 0, .int .i64 0]), 2, 16) := by kernel_rfl

end Go.Proofs.Ytjflbdoacekokaa
