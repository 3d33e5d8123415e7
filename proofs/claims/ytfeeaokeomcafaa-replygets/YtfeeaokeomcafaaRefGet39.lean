/-
  The reference's Get (layer 39), step by step.
-/
import Derived.Test.YtfeeaokeomcafaaRefVar
import Derived.Test.YtfeeaokeomcafaaReplyGet2
import Derived.Test.YtfeeaokeomcafaaCls
namespace Go.Proofs.Ytfeeaokeomcafaa
open Go.ChangeShapes Go.WideShapes Go.ChangeAt Go.RowKit Go.Deep
set_option linter.unusedVariables false
set_option linter.unusedSimpArgs false

/-- What the reference's reader has become, and what it told. -/
structure Out where
  m : List UInt8
  k : Int
  v : Int
def numS (n : Nat) (m : List UInt8) (k : Int) : Out := if k ≠ 0 then ⟨m, k, 0⟩ else if m.length < n then ⟨m, 5, 0⟩ else ⟨m.drop n, 0, (num (m.take n) : Nat)⟩
def varS (m : List UInt8) (k : Int) : Out := if k ≠ 0 then ⟨m, k, 0⟩ else if varE m = 0 then ⟨m.drop (lead m + 1), 0, varV m⟩ else ⟨m, varE m, 0⟩
theorem numS_zero (n : Nat) (m : List UInt8) : numS n m 0 = if m.length < n then ⟨m, 5, 0⟩ else ⟨m.drop n, 0, (num (m.take n) : Nat)⟩ := by unfold numS; rw [if_neg (fun h => h rfl)]
theorem varS_zero (m : List UInt8) : varS m 0 = if varE m = 0 then ⟨m.drop (lead m + 1), 0, varV m⟩ else ⟨m, varE m, 0⟩ := by unfold varS; rw [if_neg (fun h => h rfl)]
theorem numS_len (n : Nat) (m : List UInt8) (k : Int) : (numS n m k).m.length ≤ m.length := by
  unfold numS
  split
  · exact Nat.le_refl _
  · split
    · exact Nat.le_refl _
    · simp
theorem varS_len (m : List UInt8) (k : Int) : (varS m k).m.length ≤ m.length := by
  unfold varS
  split
  · exact Nat.le_refl _
  · split
    · simp
    · exact Nat.le_refl _
theorem refNumS (n : Nat) (h8 : n ≤ 8) (m : List UInt8) (hm : m.length ≤ 1000000000) (k : Int) (w : World) :
    Calls Try.prog 72 #[rv m k, .int .i64 (n : Int)] w fun e w' => e = .returned (.tuple #[rv (numS n m k).m (numS n m k).k, .int .u64 (numS n m k).v]) ∧ Touch [] w w' := by
  unfold numS
  by_cases hk : k = 0
  · subst hk
    rw [if_neg (fun h => h rfl)]
    by_cases hl : m.length < n
    · rw [if_pos hl]; exact refNum_short m n hl w
    · rw [if_neg hl]; exact refNum_ok m n (by omega) h8 hm w
  · rw [if_pos hk]; exact refNum_err m k n hk w
theorem refVarS (m : List UInt8) (hm : m.length ≤ 1000000000) (k : Int) (w : World) :
    Calls Try.prog 73 #[rv m k] w fun e w' => e = .returned (.tuple #[rv (varS m k).m (varS m k).k, .int .i64 (varS m k).v]) ∧ Touch [] w w' := by
  unfold varS
  by_cases hk : k = 0
  · subst hk
    rw [if_neg (fun h => h rfl)]
    by_cases hv : varE m = 0
    · rw [if_pos hv]; exact (refVar_zero m hm w).mono fun e w' q => q.1 hv
    · rw [if_neg hv]; exact (refVar_zero m hm w).mono fun e w' q => q.2 hv
  · rw [if_pos hk]; exact refVar_err m k hk w
/-- The state ahead of the counts. -/
def s1 (l : List UInt8) : Out := numS 1 l 0
def s2 (l : List UInt8) : Out := numS 1 (s1 l).m (s1 l).k
def s3 (l : List UInt8) : Out := varS (s2 l).m (s2 l).k
def s4 (l : List UInt8) : Out := varS (s3 l).m (s3 l).k
def s5 (l : List UInt8) : Out := numS 4 (s4 l).m (s4 l).k
/-- The state behind i counts. -/
def sc (l : List UInt8) : Nat → Out
  | 0 => s5 l
  | i + 1 => varS (sc l i).m (sc l i).k
theorem s5_len (l : List UInt8) : (s1 l).m.length ≤ l.length ∧ (s2 l).m.length ≤ l.length ∧ (s3 l).m.length ≤ l.length ∧ (s4 l).m.length ≤ l.length ∧ (s5 l).m.length ≤ l.length := by
  have h1 : (s1 l).m.length ≤ l.length := numS_len _ _ _
  have h2 : (s2 l).m.length ≤ (s1 l).m.length := numS_len _ _ _
  have h3 : (s3 l).m.length ≤ (s2 l).m.length := varS_len _ _
  have h4 : (s4 l).m.length ≤ (s3 l).m.length := varS_len _ _
  have h5 : (s5 l).m.length ≤ (s4 l).m.length := numS_len _ _ _
  omega
theorem sc_len (l : List UInt8) : ∀ i, (sc l i).m.length ≤ l.length
  | 0 => (s5_len l).2.2.2.2
  | i + 1 => Nat.le_trans (varS_len _ _) (sc_len l i)

theorem bad_num (n : Nat) (m : List UInt8) {k : Int} (hk : k ≠ 0) : (numS n m k).k = k := by unfold numS; rw [if_pos hk]
theorem bad_var (m : List UInt8) {k : Int} (hk : k ≠ 0) : (varS m k).k = k := by unfold varS; rw [if_pos hk]
theorem u8_num (m : List UInt8) : (∀ v m', u8P m = .ok (v, m') → numS 1 m 0 = ⟨m', 0, (v : Int)⟩) ∧ (∀ k, u8P m = .error k → numS 1 m 0 = ⟨m, k, 0⟩ ∧ k ≠ 0) := by
  rw [numS_zero]
  cases m with
  | nil =>
    refine ⟨fun v m' h => by simp [u8P] at h, fun k h => ?_⟩
    simp only [u8P, Except.error.injEq] at h
    subst h
    exact ⟨rfl, by decide⟩
  | cons b m =>
    refine ⟨fun v m' h => ?_, fun k h => by simp [u8P] at h⟩
    simp only [u8P, Except.ok.injEq, Prod.mk.injEq] at h
    obtain ⟨rfl, rfl⟩ := h
    rw [if_neg (by simp)]
    simp [num]
theorem u32_num (m : List UInt8) : (∀ v m', u32P m = .ok (v, m') → numS 4 m 0 = ⟨m', 0, (v : Int)⟩) ∧ (∀ k, u32P m = .error k → numS 4 m 0 = ⟨m, k, 0⟩ ∧ k ≠ 0) := by
  rw [numS_zero]
  unfold u32P
  by_cases h4 : 4 ≤ m.length
  · rw [if_pos h4, if_neg (by omega)]
    refine ⟨fun v m' h => ?_, fun k h => by cases h⟩
    simp only [Except.ok.injEq, Prod.mk.injEq] at h
    obtain ⟨rfl, rfl⟩ := h
    rfl
  · rw [if_neg h4, if_pos (by omega)]
    refine ⟨fun v m' h => (by cases h), fun k h => ?_⟩
    simp only [Except.error.injEq] at h
    subst h
    exact ⟨rfl, by decide⟩
theorem var_num (m : List UInt8) : (∀ v m', varP m = .ok (v, m') → varS m 0 = ⟨m', 0, v⟩) ∧ (∀ k, varP m = .error k → varS m 0 = ⟨m, k, 0⟩ ∧ k ≠ 0) := by
  rw [varS_zero]
  unfold varP
  by_cases hv : varE m = 0
  · rw [if_pos hv, if_pos hv]
    refine ⟨fun v m' h => ?_, fun k h => by cases h⟩
    simp only [Except.ok.injEq, Prod.mk.injEq] at h
    obtain ⟨rfl, rfl⟩ := h
    rfl
  · rw [if_neg hv, if_neg hv]
    refine ⟨fun v m' h => (by cases h), fun k h => ?_⟩
    simp only [Except.error.injEq] at h
    subst h
    exact ⟨rfl, hv⟩
theorem sc_bad (l : List UInt8) {k : Int} (hk : k ≠ 0) {i : Nat} (h : (sc l i).k = k) : ∀ j, (sc l (i + j)).k = k
  | 0 => h
  | j + 1 => by
    have ih := sc_bad l hk h j
    show (varS (sc l (i + j)).m (sc l (i + j)).k).k = k
    rw [ih]
    exact bad_var _ hk
/-- What the reference's Get tells, from its last state. -/
def refE (l : List UInt8) : Int := if (sc l 6).k = 0 ∧ 0 < (sc l 6).m.length then 4 else (sc l 6).k
theorem refE_is (l : List UInt8) :
    (∀ k, getP l = .error k → refE l = k ∧ k ≠ 0) ∧ (∀ r, getP l = .ok r → refE l = 0 ∧ (sc l 6).k = 0 ∧ (sc l 6).m = [] ∧ r.op = (s1 l).v ∧ r.err = (s2 l).v ∧ r.ver = (s3 l).v ∧ r.cnt = (s4 l).v ∧ (r.sum : Int) = (s5 l).v ∧ ∀ j, j < 6 → r.st j = (sc l (j + 1)).v) := by
  have fail : ∀ k, k ≠ 0 → (sc l 6).k = k → refE l = k := fun k hk h => by unfold refE; rw [if_neg (fun q => hk (h ▸ q.1)), h]
  unfold getP
  cases h1 : u8P l with
  | error k =>
    obtain ⟨e, hk⟩ := (u8_num l).2 k h1
    have a1 : (s1 l).k = k := by unfold s1; rw [e]
    have a2 : (s2 l).k = k := by unfold s2; rw [a1]; exact bad_num _ _ hk
    have a3 : (s3 l).k = k := by unfold s3; rw [a2]; exact bad_var _ hk
    have a4 : (s4 l).k = k := by unfold s4; rw [a3]; exact bad_var _ hk
    have a5 : (s5 l).k = k := by unfold s5; rw [a4]; exact bad_num _ _ hk
    have a6 := sc_bad l hk (i := 0) a5 6
    refine ⟨fun q h => ?_, fun r h => by cases h⟩
    simp only [Except.error.injEq] at h
    subst h
    exact ⟨fail _ hk a6, hk⟩
  | ok r1 =>
    obtain ⟨v1, l1⟩ := r1
    have e1 : s1 l = ⟨l1, 0, (v1 : Int)⟩ := (u8_num l).1 v1 l1 h1
    cases h2 : u8P l1 with
    | error k =>
      obtain ⟨e, hk⟩ := (u8_num l1).2 k h2
      have a2 : (s2 l).k = k := by unfold s2; rw [e1, e]
      have a3 : (s3 l).k = k := by unfold s3; rw [a2]; exact bad_var _ hk
      have a4 : (s4 l).k = k := by unfold s4; rw [a3]; exact bad_var _ hk
      have a5 : (s5 l).k = k := by unfold s5; rw [a4]; exact bad_num _ _ hk
      have a6 := sc_bad l hk (i := 0) a5 6
      simp only [h2]
      refine ⟨fun q h => ?_, fun r h => by cases h⟩
      simp only [Except.error.injEq] at h
      subst h
      exact ⟨fail _ hk a6, hk⟩
    | ok r2 =>
      obtain ⟨v2, l2⟩ := r2
      have e2 : s2 l = ⟨l2, 0, (v2 : Int)⟩ := by unfold s2; rw [e1]; exact (u8_num l1).1 v2 l2 h2
      cases h3 : varP l2 with
      | error k =>
        obtain ⟨e, hk⟩ := (var_num l2).2 k h3
        have a3 : (s3 l).k = k := by unfold s3; rw [e2, e]
        have a4 : (s4 l).k = k := by unfold s4; rw [a3]; exact bad_var _ hk
        have a5 : (s5 l).k = k := by unfold s5; rw [a4]; exact bad_num _ _ hk
        have a6 := sc_bad l hk (i := 0) a5 6
        simp only [h2, h3]
        refine ⟨fun q h => ?_, fun r h => by cases h⟩
        simp only [Except.error.injEq] at h
        subst h
        exact ⟨fail _ hk a6, hk⟩
      | ok r3 =>
        obtain ⟨v3, l3⟩ := r3
        have e3 : s3 l = ⟨l3, 0, v3⟩ := by unfold s3; rw [e2]; exact (var_num l2).1 v3 l3 h3
        cases h4 : varP l3 with
        | error k =>
          obtain ⟨e, hk⟩ := (var_num l3).2 k h4
          have a4 : (s4 l).k = k := by unfold s4; rw [e3, e]
          have a5 : (s5 l).k = k := by unfold s5; rw [a4]; exact bad_num _ _ hk
          have a6 := sc_bad l hk (i := 0) a5 6
          simp only [h2, h3, h4]
          refine ⟨fun q h => ?_, fun r h => by cases h⟩
          simp only [Except.error.injEq] at h
          subst h
          exact ⟨fail _ hk a6, hk⟩
        | ok r4 =>
          obtain ⟨v4, l4⟩ := r4
          have e4 : s4 l = ⟨l4, 0, v4⟩ := by unfold s4; rw [e3]; exact (var_num l3).1 v4 l4 h4
          cases h5 : u32P l4 with
          | error k =>
            obtain ⟨e, hk⟩ := (u32_num l4).2 k h5
            have a5 : (s5 l).k = k := by unfold s5; rw [e4, e]
            have a6 := sc_bad l hk (i := 0) a5 6
            simp only [h2, h3, h4, h5]
            refine ⟨fun q h => ?_, fun r h => by cases h⟩
            simp only [Except.error.injEq] at h
            subst h
            exact ⟨fail _ hk a6, hk⟩
          | ok r5 =>
            obtain ⟨v5, l5⟩ := r5
            have e5 : sc l 0 = ⟨l5, 0, (v5 : Int)⟩ := by show s5 l = _; unfold s5; rw [e4]; exact (u32_num l4).1 v5 l5 h5
            have e5' : s5 l = ⟨l5, 0, (v5 : Int)⟩ := e5
            -- the six counts
            have step : ∀ (i : Nat) (m m' : List UInt8) (v : Int) (x : Int), sc l i = ⟨m, 0, x⟩ → varP m = .ok (v, m') → sc l (i + 1) = ⟨m', 0, v⟩ := fun i m m' v x e h => by
              show varS (sc l i).m (sc l i).k = _
              rw [e]; exact (var_num m).1 v m' h
            have stop : ∀ (i : Nat) (m : List UInt8) (k x : Int), sc l i = ⟨m, 0, x⟩ → varP m = .error k → i < 6 → refE l = k ∧ k ≠ 0 := fun i m k x e h hi => by
              obtain ⟨e', hk⟩ := (var_num m).2 k h
              have a : (sc l (i + 1)).k = k := by show (varS (sc l i).m (sc l i).k).k = k; rw [e]; rw [e']
              have a6 := sc_bad l hk a (6 - (i + 1))
              rw [show i + 1 + (6 - (i + 1)) = 6 by omega] at a6
              exact ⟨fail _ hk a6, hk⟩
            simp only [h2, h3, h4, h5]
            unfold statP
            cases c1 : varP l5 with
            | error k =>
              refine ⟨fun q h => ?_, fun r h => by cases h⟩
              simp only [Except.error.injEq] at h
              subst h
              exact stop 0 _ _ _ e5 c1 (by omega)
            | ok q1 =>
              obtain ⟨x1, m1⟩ := q1
              have f1 := step 0 _ _ _ _ e5 c1
              cases c2 : varP m1 with
              | error k =>
                simp only [c2]
                refine ⟨fun q h => ?_, fun r h => by cases h⟩
                simp only [Except.error.injEq] at h
                subst h
                exact stop 1 _ _ _ f1 c2 (by omega)
              | ok q2 =>
                obtain ⟨x2, m2⟩ := q2
                have f2 := step 1 _ _ _ _ f1 c2
                cases c3 : varP m2 with
                | error k =>
                  simp only [c2, c3]
                  refine ⟨fun q h => ?_, fun r h => by cases h⟩
                  simp only [Except.error.injEq] at h
                  subst h
                  exact stop 2 _ _ _ f2 c3 (by omega)
                | ok q3 =>
                  obtain ⟨x3, m3⟩ := q3
                  have f3 := step 2 _ _ _ _ f2 c3
                  cases c4 : varP m3 with
                  | error k =>
                    simp only [c2, c3, c4]
                    refine ⟨fun q h => ?_, fun r h => by cases h⟩
                    simp only [Except.error.injEq] at h
                    subst h
                    exact stop 3 _ _ _ f3 c4 (by omega)
                  | ok q4 =>
                    obtain ⟨x4, m4⟩ := q4
                    have f4 := step 3 _ _ _ _ f3 c4
                    cases c5 : varP m4 with
                    | error k =>
                      simp only [c2, c3, c4, c5]
                      refine ⟨fun q h => ?_, fun r h => by cases h⟩
                      simp only [Except.error.injEq] at h
                      subst h
                      exact stop 4 _ _ _ f4 c5 (by omega)
                    | ok q5 =>
                      obtain ⟨x5, m5⟩ := q5
                      have f5 := step 4 _ _ _ _ f4 c5
                      cases c6 : varP m5 with
                      | error k =>
                        simp only [c2, c3, c4, c5, c6]
                        refine ⟨fun q h => ?_, fun r h => by cases h⟩
                        simp only [Except.error.injEq] at h
                        subst h
                        exact stop 5 _ _ _ f5 c6 (by omega)
                      | ok q6 =>
                        obtain ⟨x6, m6⟩ := q6
                        have f6 := step 5 _ _ _ _ f5 c6
                        simp only [c2, c3, c4, c5, c6]
                        by_cases he : m6 = []
                        · subst he
                          simp only [if_true]
                          refine ⟨fun q h => (by cases h), fun r h => ?_⟩
                          simp only [Except.ok.injEq] at h
                          subst h
                          have z : (sc l 6).k = 0 := by rw [f6]
                          have z2 : (sc l 6).m = [] := by rw [f6]
                          refine ⟨by unfold refE; rw [if_neg (fun q => by rw [z2] at q; simp at q), z], z, z2, by rw [e1], by rw [e2], by rw [e3], by rw [e4], by rw [e5'], fun j hj => ?_⟩
                          match j, hj with
                          | 0, _ => rw [f1]; rfl
                          | 1, _ => rw [f2]; rfl
                          | 2, _ => rw [f3]; rfl
                          | 3, _ => rw [f4]; rfl
                          | 4, _ => rw [f5]; rfl
                          | 5, _ => rw [f6]; rfl
                        · rw [if_neg he]
                          refine ⟨fun q h => ?_, fun r h => by cases h⟩
                          simp only [Except.error.injEq] at h
                          subst h
                          refine ⟨?_, by decide⟩
                          unfold refE
                          rw [f6]
                          rw [if_pos ⟨rfl, List.length_pos_iff.2 he⟩]
end Go.Proofs.Ytfeeaokeomcafaa
