/-
  PoolPlays: both sides of a call.
-/
import Derived.Test.YtkbjkijcabmbpaaPoolPlay
namespace Go.Proofs.Ytkbjkijcabmbpaa
open Go.ChangeShapes Go.WideShapes Go.ChangeAt Go.RowKit Go.Deep Go.Maps
set_option linter.unusedVariables false

section
variable {Z : List Nat} {w : World} {vf vt vb vk : Value} {m n : Nat} {F F' T T' : Nat → Int} {B B' : Nat → Bool} {X X' : Nat → Pk} {S K : Nat → Int}
theorem RPool.congr (h : RPool Z w vf vt vb vk m n F T B X) (hF : ∀ i, i < m → F i = F' i) (hT : ∀ i, i < n → T i = T' i) (hB : ∀ i, i < n → B i = B' i) : RPool Z w vf vt vb vk m n F' T' B' X := ⟨h.ref.congr hF hT hB, h.rows⟩
theorem rp_put {a : Nat} (h : RPool Z w vf vt vb vk m n (fun i => (fun i => K (m + 1 - 1 - i)) (i + 1)) (turnsOf S) (withAt (flag S) a true) X) : RPool Z w vf vt vb vk m n (fun i => K (m - 1 - i)) (turnsOf (upd S (a * 2) 1)) (flag (upd S (a * 2) 1)) X := by
  refine h.congr (fun i hi => ?_) (fun i hi => ?_) (fun i hi => ?_)
  · dsimp only
    congr 1
    omega
  · unfold turnsOf
    rw [upd_other _ _ (by omega)]
  · unfold withAt flag
    by_cases e : i = a
    · subst e
      simp [upd_same]
    · rw [if_neg (by omega), upd_other _ _ (by omega)]
theorem rp_give {a : Nat} {t : Int} (ht : S (a * 2 + 1) = t) (h : RPool Z w vf vt vb vk (m + 1) n (freed (fun i => K (m - 1 - i)) a) (turned (turnsOf S) a) (withAt (flag S) a false) X) :
    RPool Z w vf vt vb vk (m + 1) n (fun i => upd K m a (m + 1 - 1 - i)) (turnsOf (upd (upd S (a * 2) 0) (a * 2 + 1) (t + 1))) (flag (upd (upd S (a * 2) 0) (a * 2 + 1) (t + 1))) X := by
  refine h.congr (fun i hi => ?_) (fun i hi => ?_) (fun i hi => ?_)
  · unfold freed
    by_cases e : i = 0
    · subst e
      rw [if_pos rfl, show m + 1 - 1 - 0 = m by omega, upd_same]
    · rw [if_neg e, upd_other _ _ (by omega)]
      show K (m - 1 - (i - 1)) = K (m + 1 - 1 - i)
      rw [show m - 1 - (i - 1) = m + 1 - 1 - i by omega]
  · unfold turned turnsOf
    by_cases e : i = a
    · subst e
      rw [if_pos rfl, upd_same, ht]
    · rw [if_neg e, upd_other _ _ (by omega), upd_other _ _ (by omega)]
  · unfold withAt flag
    by_cases e : i = a
    · subst e
      rw [if_pos rfl, upd_other _ _ (by omega), upd_same]
      rfl
    · rw [if_neg (by omega), upd_other _ _ (by omega), upd_other _ _ (by omega)]
theorem rlive_pool (n : Nat) (S : Nat → Int) (a t : Int) : rlive n (turnsOf S) (flag S) a t = alive n S a t := by
  unfold rlive alive turnsOf flag
  simp
end

def AnyPPlay (W : World) (bx n : Nat) (room : Int) (j : Nat) (v : Value) (w : World) : Prop :=
  ∃ q p g k ns m c S K mb s M bytes vf vt vb vk X, v = .pointer (some ⟨q, 0, none⟩) ∧ PPlay W w bx q p g k n ns m c S K mb s M bytes room vf vt vb vk X j
/-- What the reference's call leaves, if the law stores it. -/
def Stored (W : World) (bx n : Nat) (room : Int) (j q : Nat) (vf vt vb vk : Value) (w : World) : Prop :=
  (∃ A c l, vf = .slice A l c) ∧ (∃ A c l, vt = .slice A l c) ∧ (∃ A c l, vb = .slice A l c) ∧ (∃ A c l, vk = .slice A l c) ∧
  ∀ w4, Touch [] w w4 → AnyPPlay W bx n room j (.pointer (some ⟨q, 0, none⟩)) (w4.setCells bx 0 (#[vf, vt, vb, vk, .int .i64 room] : Array Value).toList)
theorem rd_form {Z : List Nat} {w : World} {v : Value} {n : Nat} {X : Nat → Value} (h : Rd Z w v n X) : ∃ A c l, v = .slice A l c := by
  obtain ⟨A, c, h, _⟩ := h
  exact ⟨A, c, n, h⟩
theorem rdp_form {Z : List Nat} {w : World} {v : Value} {n : Nat} {X : Nat → Pk} (h : RdP Z w v n X) : ∃ A c l, v = .slice A l c := by
  obtain ⟨A, c, h, _⟩ := h
  exact ⟨A, c, n, h⟩
def PutBack (W : World) (bx n : Nat) (room : Int) (j q : Nat) (u v y : Int) (w2 : World) (e : Ending) (w3 : World) : Prop :=
  ∃ vf vt vb vk, e = .returned (.tuple #[.agg #[vf, vt, vb, vk, .int .i64 room], .int .i64 u, .int .i64 v, .int .i64 y]) ∧ Touch [] w2 w3 ∧ Stored W bx n room j q vf vt vb vk w3
def FreeBack (W : World) (bx n : Nat) (room : Int) (j q : Nat) (z : Pk) (ok : Bool) (w2 : World) (e : Ending) (w3 : World) : Prop :=
  ∃ vf vt vb vk, e = .returned (.tuple #[.agg #[vf, vt, vb, vk, .int .i64 room], .agg z.cells, .bool ok]) ∧ Touch [] w2 w3 ∧ Stored W bx n room j q vf vt vb vk w3
section
variable {W wr : World} {bx q p g k n ns m c j mb s : Nat} {S K : Nat → Int} {M : Pks} {bytes room : Int} {vf vt vb vk : Value} {X : Nat → Pk}
theorem stored_again (h : PPlay W wr bx q p g k n ns m c S K mb s M bytes room vf vt vb vk X j) : Stored W bx n room (j + 1) q vf vt vb vk wr :=
  ⟨rd_form h.ref.ref.free, rd_form h.ref.ref.turns, rd_form h.ref.ref.taken, rdp_form h.ref.rows, fun w4 t => ⟨q, p, g, k, ns, m, c, S, K, mb, s, M, bytes, vf, vt, vb, vk, X, rfl, ((h.carry t).again).next⟩⟩
theorem fits_both (h : PPlay W wr bx q p g k n ns m c S K mb s M bytes room vf vt vb vk X j) (hn : n ≤ 20) (hr : 0 ≤ room ∧ room ≤ 4194304) (size : Int) :
    Calls Try.prog 28 #[.pointer (some ⟨q, 0, none⟩), .int .i64 size] wr (fun e w' => e = .returned (.int .i64 (fitsV m bytes room size)) ∧ Touch [] wr w') ∧
    Calls Try.prog 29 #[.agg #[vf, vt, vb, vk, .int .i64 room], .int .i64 size] wr (fun e w' => e = .returned (.int .i64 (fitsV m bytes room size)) ∧ Touch [] wr w') := by
  have h1 := h.math.low
  have h2 := h.math.fits
  refine ⟨fits_any h.pool size ⟨h1, by omega⟩ hr, ?_⟩
  have := refFits_any h.ref room size (by omega) h.math.sizes hr
  rwa [h.math.sum] at this
theorem bytes_both (h : PPlay W wr bx q p g k n ns m c S K mb s M bytes room vf vt vb vk X j) (hn : n ≤ 20) :
    Calls Try.prog 38 #[.agg #[vf, vt, vb, vk, .int .i64 room]] wr (fun e w' => e = .returned (.int .i64 bytes) ∧ Touch [] wr w') := by
  have := refBytes_any h.ref room (by omega) h.math.sizes
  rwa [h.math.sum] at this
theorem put_both (h : PPlay W wr bx q p g k n ns m c S K mb s M bytes room vf vt vb vk X j) (hn : n ≤ 20) (hr : 0 ≤ room ∧ room ≤ 4194304) (x : Pk) :
    ∃ (u v y : Int) (Q : World → Prop), Calls Try.prog 30 #[.pointer (some ⟨q, 0, none⟩), .agg x.cells] wr (fun e w1 => e = .returned (.tuple #[.agg #[.int .i64 u, .int .i64 v], .int .i64 y]) ∧ Q w1) ∧
      ∀ w1, Q w1 → BoxV w1 bx 58 #[vf, vt, vb, vk, .int .i64 room] ∧ Touch [q, p, g, k, mb] wr w1 ∧ ∀ w2, Touch [] w1 w2 →
        Calls Try.prog 31 #[.agg #[vf, vt, vb, vk, .int .i64 room], .agg x.cells] w2 (PutBack W bx n room (j + 1) q u v y w2) := by
  have h1 := h.math.low
  have h2 := h.math.fits
  have hlt := h.lt
  have hoff := h.off
  simp only [List.mem_cons, List.not_mem_nil, or_false, not_or] at hoff
  have hcount := h.math.count
  by_cases hf : fitsV m bytes room x.size = 0
  · obtain ⟨f1, f2, f3, f4⟩ := fits_why hf
    obtain ⟨m, rfl⟩ : ∃ m', m = m' + 1 := ⟨m - 1, by omega⟩
    obtain ⟨a, hK, han, h0⟩ := h.math.free m (by omega)
    have hM := h.math.nil a han (by rw [h0]; decide)
    refine ⟨a, S (a * 2 + 1), 0, fun w1 => PoolAt w1 q p g k n ns m c (upd S (a * 2) 1) K mb (s + 1) (putP M a (some x)) (bytes + x.size) room ∧ Touch [q, p, g, mb] wr w1,
      (put_yes h.pool x a hK han (by omega) ⟨h1, by omega⟩ hr hf (by omega) hM).mono fun e w' h => h, fun w1 ⟨hp1, t1⟩ => ?_⟩
    have t1' : Touch [q, p, g, k, mb] wr w1 := t1.mono (by simp)
    refine ⟨h.box.carry t1 (by simp; omega), t1', fun w2 t2 => ?_⟩
    have hr2 := (h.ref.carry t1 (fun b hb => .inl (by simp at hb ⊢; omega))).new t2
    have hs2 := t1.size
    have hs3 := t2.size
    have hput := refPut_yes hr2 (fun b hb => by simp at hb; omega) room x (by omega) (by omega) h.math.sizes hr (by rw [h.math.sum]; exact hf) a (by simpa using hK) han
    refine hput.mono fun e w3 ⟨vf', vb', vk', ad, cf, he, hvf, hr3, t3⟩ => ⟨vf', vt, vb', vk', he, t3, rd_form hr3.ref.free, rd_form hr3.ref.turns, rd_form hr3.ref.taken, rdp_form hr3.rows, fun w4 t4 => ?_⟩
    exact ⟨q, p, g, k, ns, m, c, _, K, mb, s + 1, _, _, vf', vt, vb', vk', _, rfl, h.turned hp1 t1' (.inl rfl) ((t2.trans t3 (by simp)).trans t4 (by simp)) (rp_put (hr3.new t4)) ⟨ad, cf, hvf⟩ (h.math.put hK han h0 x hf)⟩
  · refine ⟨0, 0, fitsV m bytes room x.size, fun w1 => Touch [] wr w1, (put_no h.pool x ⟨h1, by omega⟩ hr hf).mono fun e w' h => h, fun w1 t1 => ?_⟩
    refine ⟨h.box.carry t1 (by simp), t1.mono (by simp), fun w2 t2 => ?_⟩
    have h3 := h.carry (t1.trans t2 (by simp))
    have hput := refPut_no h3.ref room x (by omega) h.math.sizes hr _ (by rw [h.math.sum]) hf
    exact hput.mono fun e w3 ⟨he, t3⟩ => ⟨vf, vt, vb, vk, he, t3, stored_again (h3.carry t3)⟩
theorem get_both (h : PPlay W wr bx q p g k n ns m c S K mb s M bytes room vf vt vb vk X j) (hn : n ≤ 20) (a t : Int) :
    ∃ (z : Pk) (ok : Bool), Calls Try.prog 32 #[.pointer (some ⟨q, 0, none⟩), .agg #[.int .i64 a, .int .i64 t]] wr (GetPost z ok wr) ∧
      ∀ w2, Touch [] wr w2 → Calls Try.prog 33 #[.agg #[vf, vt, vb, vk, .int .i64 room], .int .i64 a, .int .i64 t] w2 (GetPost z ok w2) := by
  cases hal : alive n S a t
  · exact ⟨zeroPk, false, get_no h.pool a t hal, fun w2 t2 => refGetP_no (h.ref.new t2) room a t (by rw [rlive_pool]; exact hal)⟩
  · obtain ⟨b, rfl, hb, h1, h2⟩ := alive_split hal
    exact ⟨X b, true, get_yes h.pool b t (X b) (i64k_of (by omega)) hal (h.math.has b hb h1), fun w2 t2 => refGetP_yes (h.ref.new t2) room b t hb (by rw [rlive_pool]; exact hal)⟩
theorem free_both (h : PPlay W wr bx q p g k n ns m c S K mb s M bytes room vf vt vb vk X j) (hn : n ≤ 20) (hj : j ≤ 100) (hr : 0 ≤ room ∧ room ≤ 4194304) (a t : Int) :
    ∃ (z : Pk) (ok : Bool) (Q : World → Prop), Calls Try.prog 34 #[.pointer (some ⟨q, 0, none⟩), .agg #[.int .i64 a, .int .i64 t]] wr (fun e w1 => e = .returned (.tuple #[.agg z.cells, .bool ok]) ∧ Q w1) ∧
      ∀ w1, Q w1 → BoxV w1 bx 58 #[vf, vt, vb, vk, .int .i64 room] ∧ Touch [q, p, g, k, mb] wr w1 ∧ ∀ w2, Touch [] w1 w2 →
        Calls Try.prog 35 #[.agg #[vf, vt, vb, vk, .int .i64 room], .int .i64 a, .int .i64 t] w2 (FreeBack W bx n room (j + 1) q z ok w2) := by
  have h1 := h.math.low
  have h2 := h.math.fits
  have hlt := h.lt
  have hoff := h.off
  simp only [List.mem_cons, List.not_mem_nil, or_false, not_or] at hoff
  have hcount := h.math.count
  cases hal : alive n S a t
  · refine ⟨zeroPk, false, fun w1 => Touch [] wr w1, (free_no h.pool a t hal).mono fun e w' h => h, fun w1 t1 => ⟨h.box.carry t1 (by simp), t1.mono (by simp), fun w2 t2 => ?_⟩⟩
    have h3 := h.carry (t1.trans t2 (by simp))
    exact (refFreeP_no h3.ref room a t (by rw [rlive_pool]; exact hal)).mono fun e w3 ⟨he, t3⟩ => ⟨vf, vt, vb, vk, he, t3, stored_again (h3.carry t3)⟩
  · obtain ⟨b, rfl, hb, hS, ht⟩ := alive_split hal
    have hx := h.math.each b hb hS
    have htu := h.math.turns b hb
    rw [ht] at htu
    obtain ⟨hs1, hm'⟩ := h.math.give hb hS ht
    refine ⟨X b, true, fun w1 => ∃ k' c', PoolAt w1 q p g k' n ns (m + 1) c' (upd (upd S (b * 2) 0) (b * 2 + 1) (t + 1)) (upd K m b) mb (s - 1) (putP M b none) (bytes - (X b).size) room ∧ Touch [q, p, g, k, mb] wr w1 ∧ (k' = k ∨ wr.heap.size ≤ k'),
      (free_yes h.pool b t (X b) hal (h.math.has b hb hS) (by omega) htu.1 (by omega) (i64k_of (by omega)) ⟨h1, by omega⟩ (by omega)).mono fun e w' ⟨k', c', he, h3⟩ => ⟨he, k', c', h3⟩, fun w1 ⟨k', c', hp1, t1, hk⟩ => ?_⟩
    refine ⟨h.box.carry t1 (by simp; omega), t1, fun w2 t2 => ?_⟩
    obtain ⟨ad0, cf0, hvf0⟩ := h.ptr
    have hs2 := t1.size
    have hs3 := t2.size
    have hr2 := ((h.ref.avoid (Z' := [q, p, g, k, k', mb, bx]) (fun y hy => by
      simp only [List.mem_cons, List.not_mem_nil, or_false] at hy ⊢
      rcases hy with rfl | rfl | rfl | rfl | rfl | rfl | rfl
      · simp
      · simp
      · simp
      · simp
      · rcases hk with e | e
        · subst e; simp
        · exact .inr e
      · simp
      · simp)).carry t1 (fun y hy => .inl (by simp at hy ⊢; omega))).new t2
    have hk2 : k' < w1.heap.size := hp1.slab.ltk
    subst hvf0
    have hfree := refFreeP_yes ad0 cf0 hr2 (fun y hy => by simp at hy; omega) room (by omega) (by omega) b t hb ht (by show 0 ≤ S (b * 2 + 1); rw [ht]; exact htu.1) (by show S (b * 2 + 1) < _; rw [ht]; omega) (by rw [rlive_pool]; exact hal)
    refine hfree.mono fun e w3 ⟨vf', vt', vb', ad, cf, he, hvf, hr3, t3⟩ => ⟨vf', vt', vb', vk, he, t3, rd_form hr3.ref.free, rd_form hr3.ref.turns, rd_form hr3.ref.taken, rdp_form hr3.rows, fun w4 t4 => ?_⟩
    exact ⟨q, p, g, k', ns, m + 1, c', _, _, mb, s - 1, _, _, vf', vt', vb', vk, X, rfl, h.turned hp1 t1 hk ((t2.trans t3 (by simp)).trans t4 (by simp)) ((rp_give ht (hr3.new t4)).avoid (fun y hy => .inl (by simp at hy ⊢; omega))) ⟨ad, cf, hvf⟩ hm'⟩
/-- A copy: its own memory, in the same state. -/
theorem copy_both (h : PPlay W wr bx q p g k n ns m c S K mb s M bytes room vf vt vb vk X j) (hn : n ≤ 20) :
    Calls Try.prog 36 #[.pointer (some ⟨q, 0, none⟩)] wr fun e w' => ∃ v, e = .returned v ∧ PoolNew wr n m S K s M bytes room v w' ∧ Touch [] wr w' := by
  have hcount := h.math.count
  refine poolCopy_of h.pool (Lib.hid fun w1 t1 => (copy_any (h.pool.slab.carry t1 (by simp) (by simp) (by simp)) (by omega) (by omega)).mono fun e w' ⟨p1, g1, k1, c1, c2, he, hs, t, l1, l2, l3⟩ => ⟨p1, g1, k1, _, _, he, hs, t, l1, l2, l3⟩)
/-- What is put into the copy touches new memory alone. -/
theorem copy_put (h : PPlay W wr bx q p g k n ns m c S K mb s M bytes room vf vt vb vk X j) (hn : n ≤ 20) (hr : 0 ≤ room ∧ room ≤ 4194304) {w1 w2 : World} {v : Value} (hv : PoolNew wr n m S K s M bytes room v w1) (t1 : Touch [] wr w1) (t2 : Touch [] w1 w2) (x : Pk) :
    Calls Try.prog 30 #[v, .agg x.cells] w2 fun e w3 => ∃ u v y : Int, e = .returned (.tuple #[.agg #[.int .i64 u, .int .i64 v], .int .i64 y]) ∧ Touch [] wr w3 := by
  obtain ⟨q', p', g', k', ns', c', mb', rfl, hp, l1, l2, l3, l4, l5⟩ := hv
  have h1 := h.math.low
  have h2 := h.math.fits
  have hcount := h.math.count
  have hp2 := hp.new t2
  have t12 := t1.trans t2 (by simp)
  by_cases hf : fitsV m bytes room x.size = 0
  · obtain ⟨f1, f2, f3, f4⟩ := fits_why hf
    obtain ⟨m, rfl⟩ : ∃ m', m = m' + 1 := ⟨m - 1, by omega⟩
    obtain ⟨a, hK, han, h0⟩ := h.math.free m (by omega)
    have hM := h.math.nil a han (by rw [h0]; decide)
    exact (put_yes hp2 x a hK han (by omega) ⟨h1, by omega⟩ hr hf (by omega) hM).mono fun e w3 ⟨he, _, t3⟩ => ⟨_, _, _, he, t12.trans t3 (fun b hb => by simp at hb; right; omega)⟩
  · exact (put_no hp2 x ⟨h1, by omega⟩ hr hf).mono fun e w3 ⟨he, t3⟩ => ⟨0, 0, _, he, t12.trans t3 (by simp)⟩
end
end Go.Proofs.Ytkbjkijcabmbpaa
