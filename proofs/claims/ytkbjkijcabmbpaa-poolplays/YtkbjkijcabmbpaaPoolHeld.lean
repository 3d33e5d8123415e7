/-
  What PoolHolds' law has in memory: the buffer, a row of packets, a row of handles.
-/
import Derived.Test.YtkbjkijcabmbpaaPoolInv
namespace Go.Proofs.Ytkbjkijcabmbpaa
open Go.ChangeShapes Go.WideShapes Go.ChangeAt Go.RowKit Go.Deep Go.Maps
set_option linter.unusedVariables false

def pv (L : List Pk) : List Value := L.flatMap fun x => x.cells.toList
theorem pv_append (A B : List Pk) : pv (A ++ B) = pv A ++ pv B := by unfold pv; rw [List.flatMap_append]
theorem pv_length : ∀ L : List Pk, (pv L).length = L.length * 10
  | [] => rfl
  | x :: L => by
    have := pv_length L
    show (x.cells.toList ++ pv L).length = _
    rw [List.length_append, this]
    simp [Pk.cells]
    omega
theorem pv_drop : ∀ (L : List Pk) (i : Nat), (pv L).drop (i * 10) = pv (L.drop i)
  | [], i => by simp [pv]
  | x :: L, 0 => by simp
  | x :: L, i + 1 => by
    show (x.cells.toList ++ pv L).drop ((i + 1) * 10) = _
    rw [show (i + 1) * 10 = 10 + i * 10 by omega, ← List.drop_drop, List.drop_left' (by simp [Pk.cells]), pv_drop L i]
    rfl
theorem pv_get {L : List Pk} {i : Nat} {x : Pk} (h : L[i]? = some x) {t : Nat} (ht : t < 10) : (pv L)[i * 10 + t]? = x.cells.toList[t]? := by
  have hd := pv_drop L i
  have : L.drop i = x :: L.drop (i + 1) := by
    obtain ⟨hi, he⟩ := List.getElem?_eq_some_iff.1 h
    rw [← he]
    exact List.drop_eq_getElem_cons hi
  rw [this] at hd
  have h2 := congrArg (fun l => l[t]?) hd
  simp only [List.getElem?_drop] at h2
  rw [h2]
  show (x.cells.toList ++ pv (L.drop (i + 1)))[t]? = _
  rw [List.getElem?_append_left (by simpa [Pk.cells] using ht)]
theorem pv_one (x : Pk) : ∀ u ∈ x.cells.toList, u.oneCell' = true := by
  intro u hu
  simp [Pk.cells] at hu
  rcases hu with rfl | rfl | rfl | rfl | rfl | rfl | rfl | rfl | rfl | rfl <;> rfl
theorem row_pk {w : World} {base g n cap i : Nat} {L : List Pk} {x : Pk} (h : w.ownsRow base 66 10 (.slice (some ⟨g, 0, none⟩) n cap) n (pv L)) (hx : L[i]? = some x) (hn : n = L.length) :
    w.rangeAt g (i * 10) x.cells.toList := by
  intro t v hv
  have ht : t < 10 := by
    have := (List.getElem?_eq_some_iff.1 hv).1
    simpa [Pk.cells] using this
  have hi := (List.getElem?_eq_some_iff.1 hx).1
  rw [h.cellAt (i * 10 + t) (by omega), pv_get hx ht]
  exact hv
theorem pk_info : (Try.prog.info? 66).map (fun i => (i.zero, i.size, i.bytes)) = some (some (.agg zeroPk.cells), 10, 80) := by kernel_rfl
theorem hd_info : (Try.prog.info? 68).map (fun i => (i.zero, i.size, i.bytes)) = some (some (.agg #[.int .i64 0, .int .i64 0]), 2, 16) := by kernel_rfl
theorem row_cap {w : World} {base : Nat} {e : TypeId} {size n c : Nat} {A : Option Addr} {xs : List Value} (h : w.ownsRow base e size (.slice A n c) n xs) : n ≤ c ∧ c ≤ maxLen := by
  rcases h.2 with ⟨h', _⟩ | ⟨g', cap', cur, h', h1, hh, h2, h3, h4, h5⟩
  · simp at h'
    obtain ⟨_, rfl, rfl⟩ := h'
    exact ⟨Nat.le_refl _, Nat.zero_le _⟩
  · simp only [Value.slice.injEq, true_and] at h'
    obtain ⟨_, rfl⟩ := h'
    exact ⟨h2, h3⟩
theorem row_form {w : World} {base : Nat} {e : TypeId} {size n : Nat} {v : Value} {xs : List Value} (h : w.ownsRow base e size v n xs) : ∃ A c, v = .slice A n c := by
  rcases h.2 with ⟨h1, h2⟩ | ⟨g', cap, cur, h1, _⟩
  · exact ⟨_, _, by rw [h1, h2]⟩
  · exact ⟨_, _, h1⟩

/-- The law's memory: the buffer, vk with what was kept, va with the handles. -/
structure PHeld (W wr : World) (q p g k n m c : Nat) (S K : Nat → Int) (mb s : Nat) (M : Pks) (bytes room : Int) (N : List (Nat × Int)) (L : List Pk) (vk va : Value) : Prop where
  pool : PoolAt wr q p g k n n m c S K mb s M bytes room
  ok : wr.ownsRow W.heap.size 66 10 vk L.length (pv L)
  oa : wr.ownsRow W.heap.size 68 2 va N.length (hv N)
  fk : ∀ b, vk.ownBlock = some b → b ∉ [q, p, g, k, mb]
  fa : ∀ b, va.ownBlock = some b → b ∉ [q, p, g, k, mb]
  fka : ∀ b, vk.ownBlock = some b → va.ownBlock ≠ some b
  low : W.heap.size ≤ k
  below : Below W.heap.size W wr
section
variable {W wr w' : World} {q p g k n m c mb s : Nat} {S K : Nat → Int} {M : Pks} {bytes room : Int} {N : List (Nat × Int)} {L : List Pk} {vk va : Value}
theorem PHeld.lt (h : PHeld W wr q p g k n m c S K mb s M bytes room N L vk va) : q < wr.heap.size ∧ p < wr.heap.size ∧ g < wr.heap.size ∧ k < wr.heap.size ∧ mb < wr.heap.size :=
  ⟨h.pool.box.lt, h.pool.slab.ltp, h.pool.slab.ltg, h.pool.slab.ltk, h.pool.map.lt⟩
theorem PHeld.carry (h : PHeld W wr q p g k n m c S K mb s M bytes room N L vk va) (t : Touch [] wr w') : PHeld W w' q p g k n m c S K mb s M bytes room N L vk va :=
  ⟨h.pool.new t, t.row h.ok (by simp), t.row h.oa (by simp), h.fk, h.fa, h.fka, h.low, h.below.trans (t.below (by simp) h.below.size)⟩
/-- The buffer has turned; the stack of its slots may lie elsewhere now. -/
theorem PHeld.turned {k' m' c' s' : Nat} {S' K' : Nat → Int} {M' : Pks} {bytes' : Int} (h : PHeld W wr q p g k n m c S K mb s M bytes room N L vk va)
    (hl : W.heap.size ≤ q ∧ W.heap.size ≤ p ∧ W.heap.size ≤ g ∧ W.heap.size ≤ mb) (hs : PoolAt w' q p g k' n n m' c' S' K' mb s' M' bytes' room) (t : Touch [q, p, g, k, mb] wr w') (hk : k' = k ∨ wr.heap.size ≤ k') :
    PHeld W w' q p g k' n m' c' S' K' mb s' M' bytes' room N L vk va := by
  have hlow := h.low
  have hsz := h.below.size
  have key : ∀ {u : Value} {e : TypeId} {z l : Nat} {xs : List Value}, wr.ownsRow W.heap.size e z u l xs → (∀ b, u.ownBlock = some b → b ∉ [q, p, g, k, mb]) → ∀ b, u.ownBlock = some b → b ∉ [q, p, g, k', mb] := fun {u e z l xs} ho hu b hb => by
    have h1 := own_lt ho hb
    have h2 := hu b hb
    simp at h2 ⊢
    omega
  exact ⟨hs, t.row h.ok h.fk, t.row h.oa h.fa, key h.ok h.fk, key h.oa h.fa, h.fka, by omega, h.below.trans (t.below (by simp; omega) hsz)⟩
theorem row_low {w : World} {base : Nat} {e : TypeId} {size n : Nat} {v : Value} {xs : List Value} (h : w.ownsRow base e size v n xs) {b : Nat} (hb : v.ownBlock = some b) : base ≤ b := by
  rcases h.2 with ⟨e, _⟩ | ⟨g', cap, cur, e, hg', _⟩
  · rw [e] at hb
    simp [Value.ownBlock] at hb
  · rw [e] at hb
    simp [Value.ownBlock] at hb
    omega
/-- One packet more was kept. -/
theorem PHeld.more {o : Obj} {x : Pk} {v : Value} (h : PHeld W wr q p g k n m c S K mb s M bytes room N L vk va) (hg : (wr.alloc o).grownBy w' vk.ownBlock) (ow : w'.ownsRow W.heap.size 66 10 v (L.length + 1) (pv L ++ x.cells.toList))
    (hat : v.ownBlock = vk.ownBlock ∨ v.ownBlock = some (wr.heap.size + 1)) : PHeld W w' q p g k n m c S K mb s M bytes room N (L ++ [x]) v va := by
  have hl := h.lt
  have hsz := h.below.size
  have t : Touch vk.ownBlock.toList wr w' := ((Touch.refl vk.ownBlock.toList wr).alloc o).grown hg (by intro b hb; rw [hb]; simp)
  have hno : ∀ b, (∀ b', vk.ownBlock = some b' → b ≠ b') → b ∉ vk.ownBlock.toList := fun b hb hm => by
    simp at hm
    exact hb b hm rfl
  have hp : ∀ b, b ∈ [q, p, g, k, mb] → b ∉ vk.ownBlock.toList := fun b hb => hno b fun b' hb' e => h.fk b' hb' (e ▸ hb)
  refine ⟨h.pool.carry t hp, ?_, t.row h.oa (fun b hb => hno b fun b' hb' e => h.fka b' hb' (e ▸ hb)), ?_, h.fa, ?_, h.low, h.below.trans (t.below ?_ hsz)⟩
  · rw [pv_append, List.length_append]
    simpa [pv] using ow
  · intro b hb
    rcases hat with e | e
    · exact h.fk b (e ▸ hb)
    · rw [e] at hb
      cases hb
      simp
      omega
  · intro b hb hv
    rcases hat with e | e
    · exact h.fka b (e ▸ hb) hv
    · rw [e] at hb
      cases hb
      have := own_lt h.oa hv
      omega
  · intro b hb
    simp at hb
    exact row_low h.ok hb
/-- One handle more. -/
theorem PHeld.out {o : Obj} {x : Nat × Int} {v : Value} (h : PHeld W wr q p g k n m c S K mb s M bytes room N L vk va) (hg : (wr.alloc o).grownBy w' va.ownBlock) (ow : w'.ownsRow W.heap.size 68 2 v (N.length + 1) (hv N ++ [.int .i64 x.1, .int .i64 x.2]))
    (hat : v.ownBlock = va.ownBlock ∨ v.ownBlock = some (wr.heap.size + 1)) : PHeld W w' q p g k n m c S K mb s M bytes room (N ++ [x]) L vk v := by
  have hl := h.lt
  have hsz := h.below.size
  have t : Touch va.ownBlock.toList wr w' := ((Touch.refl va.ownBlock.toList wr).alloc o).grown hg (by intro b hb; rw [hb]; simp)
  have hno : ∀ b, (∀ b', va.ownBlock = some b' → b ≠ b') → b ∉ va.ownBlock.toList := fun b hb hm => by
    simp at hm
    exact hb b hm rfl
  have hp : ∀ b, b ∈ [q, p, g, k, mb] → b ∉ va.ownBlock.toList := fun b hb => hno b fun b' hb' e => h.fa b' hb' (e ▸ hb)
  refine ⟨h.pool.carry t hp, t.row h.ok (fun b hb => hno b fun b' hb' e => h.fka b hb (e ▸ hb')), ?_, h.fk, ?_, ?_, h.low, h.below.trans (t.below ?_ hsz)⟩
  · rw [hv_append, List.length_append]
    exact ow
  · intro b hb
    rcases hat with e | e
    · exact h.fa b (e ▸ hb)
    · rw [e] at hb
      cases hb
      simp
      omega
  · intro b hb hv
    rcases hat with e | e
    · exact h.fka b hb (e ▸ hv)
    · rw [e] at hv
      cases hv
      have := own_lt h.ok hb
      omega
  · intro b hb
    simp at hb
    exact row_low h.oa hb
end
section
variable {n m j s : Nat} {S K : Nat → Int} {E N : List (Nat × Int)} {M : Pks} {L : List Pk} {bytes room : Int}
theorem PInv.next (h : PInv n m S K E N j M L s bytes room) : PInv n m S K E N (j + 1) M L s bytes room :=
  ⟨h.inv.next, h.len, h.has, h.free, h.each, h.sum, h.count, h.fits⟩
end
end Go.Proofs.Ytkbjkijcabmbpaa
