/-
  Rows of bytes: what a slice of bytes holds; slices.Grow and slices.Concat at bytes.
-/
import Derived.Test.YtpmnnaghadpnnaaMem
import Derived.Lib.AppendZerosOnto
import Derived.Deep.Upon
import Derived.Deep.LoopGhost
import Derived.OwnWalk
import Derived.IntWalk
namespace Go.Proofs.Ytpmnnaghadpnnaa
open Go.ChangeShapes Go.WideShapes Go.ChangeAt Go.RowKit Go.Deep
set_option linter.unusedVariables false

theorem byte_info : (Try.prog.info? 5).map (fun i => (i.zero, i.size, i.bytes)) = some (some (.int .u8 0), 1, 1) := by kernel_rfl
def byt (l : List UInt8) : List Value := l.map fun b => .int .u8 (b.toNat : Int)
theorem byt_length (l : List UInt8) : (byt l).length = l.length := by simp [byt]
theorem byt_append (l m : List UInt8) : byt (l ++ m) = byt l ++ byt m := by simp [byt]
theorem byt_one (l : List UInt8) : ∀ u ∈ byt l, u.oneCell' = true := by
  intro u hu
  simp [byt] at hu
  obtain ⟨_, _, rfl⟩ := hu
  rfl

/-- The slice v holds the bytes l. -/
def Bts (w : World) (v : Value) (l : List UInt8) : Prop :=
  ∃ A c, v = .slice A l.length c ∧ l.length ≤ c ∧ c ≤ maxLen ∧ (A = none → l = []) ∧ ∀ ad, A = some ad → ∀ j u, (byt l)[j]? = some u → w.cell? (ad.add j) = some u
theorem Bts.nil (w : World) : Bts w (.slice none 0 0) [] := ⟨none, 0, rfl, Nat.le_refl _, by unfold maxLen; omega, fun _ => rfl, fun _ h => by cases h⟩
theorem Bts.carry {w w' : World} {v : Value} {l : List UInt8} {S : List Nat} (h : Bts w v l) (t : Touch S w w') (hS : ∀ b ∈ S, w.heap.size ≤ b) : Bts w' v l := by
  obtain ⟨A, c, h1, h2, h3, h4, h5⟩ := h
  refine ⟨A, c, h1, h2, h3, h4, fun ad ha j u hu => ?_⟩
  have := h5 ad ha j u hu
  have hlt := cell_lt this
  exact (t.cell hlt (fun hm => by have := hS _ hm; omega)).trans this
theorem Bts.own {w : World} {base : Nat} {v : Value} {l : List UInt8} (h : w.ownsRow base 5 1 v l.length (byt l)) : Bts w v l := by
  rcases h.2 with ⟨rfl, hl⟩ | ⟨g, cap, cur, rfl, h1, hh, h2, h3, h4, h5⟩
  · have : l = [] := by simpa [byt] using hl
    subst this
    exact Bts.nil w
  · refine ⟨some ⟨g, 0, none⟩, cap, rfl, h2, h3, fun e => by simp at e, fun ad ha j u hu => ?_⟩
    obtain rfl : ⟨g, 0, none⟩ = ad := by simpa using ha
    exact h.cells (g := g) rfl j u hu
/-- The value is a fresh row of these bytes. -/
def Fresh (w : World) (l : List UInt8) (e : Ending) (w' : World) : Prop := ∃ v, e = .returned v ∧ w'.ownsRow w.heap.size 5 1 v l.length (byt l) ∧ Touch [] w w'

set_option maxRecDepth 100000 in
theorem grow_bytes (n : Nat) (hn : n ≤ 1000000000) (w : World) : Calls Try.prog 37 #[.slice none 0 0, .int .i64 (n : Int)] w (Fresh w []) := by
  obtain ⟨i0, hi0, hz0, hz1, hz2⟩ := info_parts byte_info
  by_cases h0 : n = 0
  · subst h0
    go_enter Try.func37, Try.ntmps37
    go_wp2
    go_ret
    exact ⟨_, rfl, World.ownsRow_nil _ _ _ _, Touch.refl _ _⟩
  · have hr := fun ty => Lib.run_append_nil_zeros (P := Try.prog) w 43 3 ty 5 i0 (.int .u8 0) .i64 .i64 Try.underlying43 Try.underlying3 hi0 hz0 n (by omega) (by omega) (by omega) (by rw [hz2]; omega)
    have f1 : ¬ ((n : Int) < 0) := by omega
    have f2 : (0 : Int) < (n : Int) := by omega
    obtain ⟨C, hC⟩ : ∃ C, C = Builtin.zeroCells (Value.int .u8 0).cells n ++ Builtin.zeroCells (Value.int .u8 0).cells (grownCap w n 0 5 - n) := ⟨_, rfl⟩
    rw [← hC] at hr
    have hg := grownCap_ge w n 0 5
    have hg2 : grownCap w n 0 5 ≤ maxLen := grownCap_le_maxLen w n 0 5 (by unfold maxLen; omega)
    have hCs : C.size = grownCap w n 0 5 * 1 := by
      rw [hC]
      simp [Builtin.zeroCells, Value.cells]
      omega
    have F := Lib.hid (show (w.drew.alloc (.cells C 5)).ownsRow w.heap.size 5 1 (.slice (some ⟨w.heap.size, 0, none⟩) 0 (grownCap w n 0 5)) 0 [] from World.ownsRow_made w.drew C _ (Nat.le_refl _) hg2 hCs)
    generalize grownCap w n 0 5 = G at *
    have k1 : (0 : Int) ≤ (G : Int) := by omega
    clear hC hCs
    go_enter Try.func37, Try.ntmps37
    go_wp2_with (at_builtin; refine Lib.wpList_append_run _ rfl (.tmp 20) (.tmp 21) 43 3 rfl (.slice none 0 0) (.int .i64 n) rfl (by first | rfl | simp [go_sem]) _ _ (hr _) ?_)
    go_ret
    exact ⟨_, rfl, F.out, ((Touch.refl [] w).drew).alloc _⟩
end Go.Proofs.Ytpmnnaghadpnnaa
