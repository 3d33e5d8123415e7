/-
  reply's Put and Bad, and the reference's (layer 39).
-/
import Derived.Test.YtpmnnaghadpnnaaRefPut2
import Derived.Test.YtpmnnaghadpnnaaCls
namespace Go.Proofs.Ytpmnnaghadpnnaa
open Go.ChangeShapes Go.WideShapes Go.ChangeAt Go.RowKit Go.Deep
set_option linter.unusedVariables false

def fitI (x : Int) : Prop := -9223372036854775808 ≤ x ∧ x ≤ 9223372036854775807
/-- A reply's numbers. -/
structure Rep where
  op : Int
  err : Int
  ver : Int
  cnt : Int
  sum : Nat
  st : Nat → Int
structure Rep.Ok (r : Rep) : Prop where
  op : fitI r.op
  err : fitI r.err
  ver : fitI r.ver
  cnt : fitI r.cnt
  sum : r.sum < 4294967296
  st : ∀ k, fitI (r.st k)
def Rep.statCells (r : Rep) : Array Value := #[.int .i64 (r.st 0), .int .i64 (r.st 1), .int .i64 (r.st 2), .int .i64 (r.st 3), .int .i64 (r.st 4), .int .i64 (r.st 5)]
def Rep.cells (r : Rep) : Array Value := #[.int .i64 r.op, .int .i64 r.err, .int .i64 r.ver, .int .i64 r.cnt, .int .u32 (r.sum : Int), .int .i64 (r.st 0), .int .i64 (r.st 1), .int .i64 (r.st 2), .int .i64 (r.st 3), .int .i64 (r.st 4), .int .i64 (r.st 5)]
/-- The bytes of the first k counts. -/
def statB (t : Nat → Int) : Nat → List UInt8
  | 0 => []
  | k + 1 => statB t k ++ varB (zz (t k))
def Rep.headB (r : Rep) : List UInt8 := be (u64n r.op) 1 ++ be (u64n r.err) 1 ++ varB (zz r.ver) ++ varB (zz r.cnt) ++ be r.sum 4
def Rep.bytes (r : Rep) : List UInt8 := r.headB ++ statB r.st 6
theorem varB_length : ∀ (u k : Nat), u < 128 ^ (k + 1) → (varB u).length ≤ k + 1
  | u, 0, h => by
    have : u < 128 := by simpa using h
    rw [varB_small this]; simp
  | u, k + 1, h => by
    by_cases hu : u < 128
    · rw [varB_small hu]; simp
    · rw [varB_large hu]
      have := varB_length (u / 128) k (Nat.div_lt_of_lt_mul (by rw [Nat.pow_succ, Nat.mul_comm] at h; exact h))
      simp; omega
theorem varB_ten (n : Int) (h : fitI n) : (varB (zz n)).length ≤ 10 := varB_length _ 9 (Nat.lt_of_lt_of_le (zz_lt n h) (by decide))
theorem statB_length (t : Nat → Int) (h : ∀ k, fitI (t k)) : ∀ k, (statB t k).length ≤ 10 * k
  | 0 => by simp [statB]
  | k + 1 => by
    have := statB_length t h k
    have := varB_ten (t k) (h k)
    simp only [statB, List.length_append]
    omega
theorem Rep.headB_length (r : Rep) (h : r.Ok) : r.headB.length ≤ 30 := by
  have h1 := varB_ten r.ver h.ver
  have h2 := varB_ten r.cnt h.cnt
  simp only [Rep.headB, List.length_append, be_length]
  omega

theorem Bts.lit2 (w : World) (x y : UInt8) (a b : Int) (ha : a = (x.toNat : Int)) (hb : b = (y.toNat : Int)) : Bts (w.alloc (.cells #[.int .u8 a, .int .u8 b] 5)) (.slice (some ⟨w.heap.size, 0, none⟩) 2 2) [x, y] := by
  subst ha hb
  refine ⟨_, 2, rfl, Nat.le_refl _, by unfold maxLen; omega, fun e => by simp at e, fun ad ha j u hu => ?_⟩
  obtain rfl : ⟨w.heap.size, 0, none⟩ = ad := by simpa using ha
  rw [show (⟨w.heap.size, 0, none⟩ : Addr).add j = ⟨w.heap.size, j, none⟩ by unfold Addr.add; split <;> simp_all, World.cell?_alloc_mark]
  match j, hu with
  | 0, hu => simpa [byt] using hu
  | 1, hu => simpa [byt] using hu

theorem fresh_bts {w w' : World} {l : List UInt8} {e : Ending} (h : Fresh w l e w') : ∃ A n c, e = .returned (.slice A n c) ∧ Bts w' (.slice A n c) l ∧ Touch [] w w' := by
  obtain ⟨v, rfl, hown, ht⟩ := h
  have hb := Bts.own hown
  obtain ⟨A, c, rfl, _⟩ := id hb
  exact ⟨A, _, c, rfl, hb, ht⟩

theorem int_size : (Try.prog.info? 3).map (fun i => i.size) = some 1 := by kernel_rfl
end Go.Proofs.Ytpmnnaghadpnnaa
