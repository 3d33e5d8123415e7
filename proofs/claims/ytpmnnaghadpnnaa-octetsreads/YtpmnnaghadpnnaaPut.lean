/-
  octets' put and what it is of (layer 9): numbers as bytes, the most significant one first.
-/
import Derived.Test.YtpmnnaghadpnnaaBytes2
namespace Go.Proofs.Ytpmnnaghadpnnaa
open Go.ChangeShapes Go.WideShapes Go.ChangeAt Go.RowKit Go.Deep
set_option linter.unusedVariables false

/-- The low k bytes of u, the most significant one first. -/
def be (u : Nat) : Nat → List UInt8
  | 0 => []
  | k + 1 => UInt8.ofNat (u / 256 ^ k) :: be u k
theorem be_length (u k : Nat) : (be u k).length = k := by
  induction k with
  | zero => rfl
  | succ k ih => simp [be, ih]
theorem be_get (u : Nat) : ∀ (k i : Nat), i < k → (be u k)[i]? = some (UInt8.ofNat (u / 256 ^ (k - 1 - i)))
  | k + 1, 0, _ => by simp [be]
  | k + 1, i + 1, h => by
    rw [be, List.getElem?_cons_succ, be_get u k i (by omega)]
    congr 4
    omega
theorem be_next (u : Nat) : ∀ k, be u (k + 1) = be (u / 256) k ++ [UInt8.ofNat u]
  | 0 => by simp [be]
  | k + 1 => by
    rw [be, be_next u k, be]
    simp only [List.cons_append]
    rw [Nat.div_div_eq_div_mul, Nat.pow_succ, Nat.mul_comm (256 ^ k) 256]
theorem u8_nat (n : Nat) : ((UInt8.ofNat n).toNat : Int) = ((n % 256 : Nat) : Int) := by simp

/-- What lies at place i behind k rounds. -/
def putAt (u n k i : Nat) : Value := if n ≤ i + k then .int .u8 ((UInt8.ofNat (u / 256 ^ (n - 1 - i))).toNat : Int) else .int .u8 0

theorem sh8 (u k : Nat) : (u : Int) / 2 ^ (k * 8) % 256 = ((UInt8.ofNat (u / 256 ^ k)).toNat : Int) := by
  rw [u8_nat]
  have : (256 : Nat) ^ k = 2 ^ (k * 8) := by rw [Nat.mul_comm, Nat.pow_mul]
  rw [this, Int.natCast_emod, Int.natCast_ediv, Int.natCast_pow]
  rfl
theorem own_base {w : World} {base base' : Nat} {e : TypeId} {size n : Nat} {v : Value} {xs : List Value} (h : w.ownsRow base e size v n xs) (hb : base' ≤ base) : w.ownsRow base' e size v n xs := by
  rcases h.2 with h' | ⟨g, cap, cur, h1, h2, h3⟩
  · exact ⟨h.1, .inl h'⟩
  · exact ⟨h.1, .inr ⟨g, cap, cur, h1, Nat.le_trans hb h2, h3⟩⟩
/-- Concat of two slices that were just laid side by side. -/
theorem concat2 {w : World} {a b : Value} {l m : List UInt8} (ha : Bts w a l) (hb : Bts w b m) (hlen : l.length + m.length ≤ 100000000) :
    Calls Try.prog 32 #[.slice (some ⟨w.heap.size, 0, none⟩) 2 2] (w.alloc (.cells #[a, b] 43)) (Fresh w (l ++ m)) := by
  have t := (Touch.refl [] w).alloc (.cells #[a, b] 43)
  have h := concat_bytes (w := w.alloc (.cells #[a, b] 43)) (g := w.heap.size) (n := 2) (c := 2) (vs := fun i => if i = 0 then a else b) (ls := fun i => if i = 0 then l else m) (F := fun i => if i = 0 then [] else if i = 1 then l else l ++ m)
    (Nat.le_refl _) (by omega) (fun i hi => by
      rw [World.cell?_alloc_mark]
      match i, hi with
      | 0, _ => rfl
      | 1, _ => rfl) (fun i hi => by
      match i, hi with
      | 0, _ => exact ha.carry t (by simp)
      | 1, _ => exact hb.carry t (by simp)) rfl (fun k hk => by
      match k, hk with
      | 0, _ => simp
      | 1, _ => simp) (fun k hk => by
      match k, hk with
      | 0, _ => simp
      | 1, _ => simp; omega
      | 2, _ => simp; omega)
  refine h.mono ?_
  rintro e w' ⟨v, rfl, h1, h2⟩
  exact ⟨v, rfl, own_base h1 t.size, t.trans h2 (by simp)⟩
theorem concat3 {w : World} {a b c : Value} {l m n : List UInt8} (ha : Bts w a l) (hb : Bts w b m) (hc : Bts w c n) (hlen : l.length + m.length + n.length ≤ 100000000) :
    Calls Try.prog 32 #[.slice (some ⟨w.heap.size, 0, none⟩) 3 3] (w.alloc (.cells #[a, b, c] 43)) (Fresh w (l ++ m ++ n)) := by
  have t := (Touch.refl [] w).alloc (.cells #[a, b, c] 43)
  have h := concat_bytes (w := w.alloc (.cells #[a, b, c] 43)) (g := w.heap.size) (n := 3) (c := 3) (vs := fun i => if i = 0 then a else if i = 1 then b else c) (ls := fun i => if i = 0 then l else if i = 1 then m else n) (F := fun i => if i = 0 then [] else if i = 1 then l else if i = 2 then l ++ m else l ++ m ++ n)
    (Nat.le_refl _) (by omega) (fun i hi => by
      rw [World.cell?_alloc_mark]
      match i, hi with
      | 0, _ => rfl
      | 1, _ => rfl
      | 2, _ => rfl) (fun i hi => by
      match i, hi with
      | 0, _ => exact ha.carry t (by simp)
      | 1, _ => exact hb.carry t (by simp)
      | 2, _ => exact hc.carry t (by simp)) rfl (fun k hk => by
      match k, hk with
      | 0, _ => simp
      | 1, _ => simp
      | 2, _ => simp) (fun k hk => by
      match k, hk with
      | 0, _ => simp
      | 1, _ => simp; omega
      | 2, _ => simp; omega
      | 3, _ => simp; omega)
  refine h.mono ?_
  rintro e w' ⟨v, rfl, h1, h2⟩
  exact ⟨v, rfl, own_base h1 t.size, t.trans h2 (by simp)⟩

end Go.Proofs.Ytpmnnaghadpnnaa
