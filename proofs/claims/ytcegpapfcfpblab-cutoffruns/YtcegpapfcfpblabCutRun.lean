/-
  The contract of cutoff.Run over a slice of events that came in.
-/
import Derived.Test.YtcegpapfcfpblabCut
import Derived.Lib.SmallJoins
import Derived.WalkMore
import Derived.ScopeJumps
namespace Go.Proofs.Ytcegpapfcfpblab
open Go.ChangeShapes Go.WideShapes Go.ChangeAt Go.RowKit Go.Joins

/-- A scope whose label lies ahead of every jump. -/
theorem wp_scope_ahead {P : Program} {a : Act} {w : World} {Q : Exit → Act → World → Prop} {c rest : Code} (l : Nat) (hf : findLabel c l = some rest)
    (h : c.wp P (Exit.jump l (fun a' w' => rest.wp P (Exit.noGoto Q) a' w') Q) a w) : (Code.scope c).wp P Q a w :=
  wp_scope_jumps l (fun a' w' => rest.wp P (Exit.noGoto Q) a' w') (fun _ _ => 0) hf h fun _ _ hJ =>
    wp_mono hJ fun e _ _ hq => by cases e <;> first | exact hq | exact hq.elim

section
variable {Q : Exit → Act → World → Prop} {J K : Act → World → Prop} {a : Act} {w : World} {l : Nat}
theorem jump_normal (h : Q .normal a w) : Exit.jump l J Q .normal a w := h
theorem jump_goto (h : J a w) : Exit.jump l J Q (.goto l) a w := ⟨rfl, h⟩
theorem then_goto (h : Q (.goto l) a w) : Exit.then K Q (.goto l) a w := h
end

structure Ev where
  kind : Int
  level : Int
  over : Bool
  empty : Bool

def Ev.step (e : Ev) (t : Int) : Int := if e.kind = 0 then come t e.level e.over else if e.kind = 1 then gone t e.level e.over e.empty else t
def runTo (E : Nat → Ev) (t : Int) : Nat → Int
  | 0 => t
  | k + 1 => (E k).step (runTo E t k)

/-- The first n events of a slice lie in the world as E says. -/
def EvCells (w : World) (B : Nat) (A : Option Addr) (n : Nat) (E : Nat → Ev) : Prop :=
  ∀ i, i < n → ∃ b off, A = some ⟨b, off, none⟩ ∧ b < B ∧ w.cell? ⟨b, off + i * 4, none⟩ = some (.int .i64 (E i).kind) ∧ w.cell? ⟨b, off + i * 4 + 1, none⟩ = some (.int .i64 (E i).level) ∧
    w.cell? ⟨b, off + i * 4 + 2, none⟩ = some (.bool (E i).over) ∧ w.cell? ⟨b, off + i * 4 + 3, none⟩ = some (.bool (E i).empty)

theorem apply_any (t k l : Int) (o m : Bool) (w : World) (hk : k = 0 ∨ k = 1) :
    Calls Try.prog 58 #[.int .i64 t, .agg #[.int .i64 k, .int .i64 l, .bool o, .bool m]] w fun e w' => e = .returned (.int .i64 (Ev.step ⟨k, l, o, m⟩ t)) ∧ Below w.heap.size w w' := by
  rcases hk with rfl | rfl
  all_goals
    go_enter Try.func58, Try.ntmps58
    go_wp2_with (first | (go_at_call 40; refine (come_any _ _ _ _).mono ?_; rintro e w' ⟨rfl, rfl⟩) | (go_at_call 42; refine (gone_any _ _ _ _ _).mono ?_; rintro e w' ⟨rfl, rfl⟩))
    go_ret
    exact ⟨ret_int (by simp [Ev.step]), below_alloc1 w _⟩

theorem run_any (t : Int) (A : Option Addr) (n c : Nat) (E : Nat → Ev) (w : World) (hn : n ≤ 1000) (hE : EvCells w w.heap.size A n E) :
    Calls Try.prog 44 #[.int .i64 t, .slice A n c] w fun e w' => e = .returned (.int .i64 (runTo E t n)) ∧ Below w.heap.size w w' := by
  go_enter Try.func44, Try.ntmps44
  go_wp2
  go_loopw [0, 9] (fun v i wr => ∃ k : Nat, k ≤ n ∧ i = .int .i64 k ∧ v = .int .i64 (runTo E t k) ∧ Below w.heap.size w wr) (fun _ i _ => n - (intOf i).toNat)
  case atStart => exact ⟨0, Nat.zero_le _, rfl, rfl, Below.refl _ _⟩
  case round =>
    obtain ⟨k, hk, rfl, rfl, hb⟩ := hrel
    by_cases hlt : k < n
    · obtain ⟨b, off, hA, hbB, c0, c1, c2, c3⟩ := hE k hlt
      rw [← hb.cell (p := ⟨b, _, none⟩) hbB] at c0 c1 c2 c3
      subst hA
      obtain ⟨kd, lv, ov, em, hev⟩ : ∃ kd lv ov em, E k = ⟨kd, lv, ov, em⟩ := ⟨_, _, _, _, rfl⟩
      have HS : runTo E t (k + 1) = Ev.step ⟨kd, lv, ov, em⟩ (runTo E t k) := by rw [← hev]; rfl
      rw [hev] at c0 c1 c2 c3
      have HT := Lib.hid HS
      clear hev hE HS
      generalize runTo E t k = top at *
      have hbn : Below w.heap.size w (wr.alloc (.cells #[.int .i64 kd, .int .i64 lv, .bool ov, .bool em] 77)) := hb.alloc hb.size _
      by_cases h0 : kd = 0 ∨ kd = 1
      · rcases h0 with rfl | rfl
        all_goals
          go_wp2_with fail
          refine wp_scope_ahead 0 rfl ?_
          go_wp2_with (go_at_call 58; refine (apply_any _ _ _ _ _ _ (by omega)).mono ?_; rintro e w' ⟨rfl, hb1⟩)
          go_step3
          refine jump_normal ?_
          go_wp2_with fail
          go_roundw
          case rel => exact ⟨k + 1, by omega, by go_num, by rw [HT.out], hbn.trans (hb1.mono (by simp; exact Nat.le_succ_of_le hb.size))⟩
          case measure => simp [intOf]; omega
      · have n0 : (kd != 0) = true := by rw [bne_iff_ne]; omega
        have n1 : (kd != 1) = true := by rw [bne_iff_ne]; omega
        go_wp2_with fail
        refine wp_scope_ahead 0 rfl ?_
        go_wp2_with fail
        go_step3
        refine then_goto (jump_goto ?_)
        go_wp2_with fail
        rw [Exit.noGoto_normal]
        go_wp2_with fail
        go_roundw
        case rel => exact ⟨k + 1, by omega, by go_num, by rw [HT.out]; simp [Ev.step]; rw [if_neg (by omega), if_neg (by omega)], hbn⟩
        case measure => simp [intOf]; omega
    · obtain rfl : k = n := by omega
      go_wp2
      go_ret
      exact ⟨rfl, hb⟩
end Go.Proofs.Ytcegpapfcfpblab
