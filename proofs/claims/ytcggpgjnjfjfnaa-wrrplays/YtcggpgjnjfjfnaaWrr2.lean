/-
  Layer 31 (wrr): Credit, Give, Sent, Join, Leave, New.
-/
import Derived.Test.YtcggpgjnjfjfnaaWrr1
namespace Go.Proofs.Ytcggpgjnjfjfnaa
open Go.ChangeShapes Go.WideShapes Go.ChangeAt Go.RowKit Go.Deep Go.Maps
set_option linter.unusedVariables false
set_option linter.unusedSimpArgs false

def updL (L : Nat → List Int) (k : Nat) (l : List Int) : Nat → List Int := fun j => if j = k then l else L j
theorem updL_same (L : Nat → List Int) (k : Nat) (l : List Int) : updL L k l k = l := if_pos rfl
theorem updL_other (L : Nat → List Int) {k j : Nat} (l : List Int) (h : j ≠ k) : updL L k l j = L j := if_neg h
section
variable {w w' : World} {q c cb s s' : Nat} {R : Tri} {L : Nat → List Int} {C C' : Int → Option (Int × Int)}
theorem WAt.credNow (h : WAt w q c cb s R L C) (hc : CredAt w' c cb s' C') (t : Touch [cb] w w') : WAt w' q c cb s' R L C' :=
  ⟨h.box.carry t (by simpa using h.apart.q.2.1), fun k hk => (h.ring k hk).carry t (by simpa using ((h.apart.out k hk _ (by simp [tri])).2.2)) (by simpa using ((h.apart.out k hk _ (by simp [tri])).2.2)) (by simpa using ((h.apart.out k hk _ (by simp [tri])).2.2)), hc, h.apart⟩
theorem WAt.ringNow (h : WAt w q c cb s R L C) {k : Nat} (hk : k < 8) {l : List Int} (hr : AsList w' (R k).1 (R k).2.1 (R k).2.2 l) (t : Touch (tri R k) w w') : WAt w' q c cb s R (updL L k l) C := by
  have out : ∀ b, (b = q ∨ b = c ∨ b = cb) → b ∉ tri R k := fun b hb hm => by
    have := h.apart.out k hk b hm
    rcases hb with rfl | rfl | rfl <;> simp_all
  refine ⟨h.box.carry t (out _ (.inl rfl)), fun j hj => ?_, h.cred.carry t (out _ (.inr (.inl rfl))) (out _ (.inr (.inr rfl))), h.apart⟩
  by_cases e : j = k
  · subst e
    rw [updL_same]
    exact hr
  · rw [updL_other _ _ e]
    exact (h.ring j hj).carry t (h.apart.two j k hj hk e _ (by simp [tri])) (h.apart.two j k hj hk e _ (by simp [tri])) (h.apart.two j k hj hk e _ (by simp [tri]))

/-! ### Calls that hand on -/
theorem creditW_of (v u : Value) (id : Int) {w : World} (CR : Hid (Calls Try.prog 47 #[v] w fun e w' => e = .returned u ∧ w' = w)) {n : Int} {b : Bool}
    (X : Hid (Calls Try.prog 59 #[u, .int .i64 id] w fun e w' => e = .returned (.tuple #[.int .i64 n, .bool b]) ∧ Touch [] w w')) :
    Calls Try.prog 23 #[v, .int .i64 id] w fun e w' => e = .returned (.tuple #[.int .i64 n, .bool b]) ∧ Touch [] w w' := by
  go_enter Try.func23, Try.ntmps23
  go_wp2_with fail
  refine (CR.out).mono ?_
  rintro e w1 ⟨rfl, hw⟩
  subst hw
  go_wp2_with fail
  refine (X.out).mono ?_
  rintro e w2 ⟨rfl, t⟩
  have T := Lib.hid t
  clear t
  go_wp2_with fail
  refine bodyPost_ret (v := .tuple #[.int .i64 n, .bool b]) (by simp [results, Try.results23, go_sem]) rfl ⟨rfl, T.out⟩
theorem giveW_of (v u : Value) (id n : Int) {w : World} (CR : Hid (Calls Try.prog 47 #[v] w fun e w' => e = .returned u ∧ w' = w)) {b : Bool} {P : World → Prop}
    (X : Hid (Calls Try.prog 57 #[u, .int .i64 id, .int .i64 n] w fun e w' => e = .returned (.bool b) ∧ P w')) :
    Calls Try.prog 20 #[v, .int .i64 id, .int .i64 n] w fun e w' => e = .returned (.bool b) ∧ P w' := by
  go_enter Try.func20, Try.ntmps20
  go_wp2_with fail
  refine (CR.out).mono ?_
  rintro e w1 ⟨rfl, hw⟩
  subst hw
  go_wp2_with fail
  refine (X.out).mono ?_
  rintro e w2 ⟨rfl, t⟩
  have T := Lib.hid t
  clear t
  go_wp2_with fail
  go_ret
  exact ⟨rfl, T.out⟩
theorem sentW_of (v u : Value) (id n : Int) {w : World} (CR : Hid (Calls Try.prog 47 #[v] w fun e w' => e = .returned u ∧ w' = w)) {b : Bool} {P : World → Prop}
    (X : Hid (Calls Try.prog 55 #[u, .int .i64 id, .int .i64 n] w fun e w' => e = .returned (.bool b) ∧ P w')) :
    Calls Try.prog 18 #[v, .int .i64 id, .int .i64 n] w fun e w' => e = .returned (.bool b) ∧ P w' := by
  go_enter Try.func18, Try.ntmps18
  go_wp2_with fail
  refine (CR.out).mono ?_
  rintro e w1 ⟨rfl, hw⟩
  subst hw
  go_wp2_with fail
  refine (X.out).mono ?_
  rintro e w2 ⟨rfl, t⟩
  have T := Lib.hid t
  clear t
  go_wp2_with fail
  go_ret
  exact ⟨rfl, T.out⟩
theorem joinW_bad (v : Value) (id k n : Int) {w : World} (R1 : Hid (Calls Try.prog 46 #[v, .int .i64 k] w fun e w' => e = .returned (.pointer none) ∧ w' = w)) :
    Calls Try.prog 12 #[v, .int .i64 id, .int .i64 k, .int .i64 n] w fun e w' => e = .returned (.bool false) ∧ w' = w := by
  go_enter Try.func12, Try.ntmps12
  go_wp2_with fail
  refine (R1.out).mono ?_
  rintro e w1 ⟨rfl, hw⟩
  subst hw
  go_wp2_with fail
  go_ret
  exact ⟨rfl, rfl⟩
theorem joinW_no (h : WAt w q c cb s R L C) (id n : Int) (k : Nat) (hk : k < 8) (X : Hid (Calls Try.prog 48 #[pt c, .int .i64 id, .int .i64 n] w fun e w' => e = .returned (.bool false) ∧ Touch [] w w')) :
    Calls Try.prog 12 #[pt q, .int .i64 id, .int .i64 (k : Int), .int .i64 n] w fun e w' => e = .returned (.bool false) ∧ Touch [] w w' := by
  have R1 := Lib.hid (ringW h k hk)
  have CR := Lib.hid (creditsW h)
  unfold pt at *
  clear h
  go_enter Try.func12, Try.ntmps12
  go_wp2_with fail
  refine (R1.out).mono ?_
  rintro e w1 ⟨rfl, hw⟩
  subst hw
  go_wp2_with fail
  refine (CR.out).mono ?_
  rintro e w1 ⟨rfl, hw⟩
  subst hw
  go_wp2_with fail
  refine (X.out).mono ?_
  rintro e w2 ⟨rfl, t⟩
  have T := Lib.hid t
  clear t
  go_wp2_with fail
  go_ret
  exact ⟨rfl, T.out⟩
theorem joinW_yes (h : WAt w q c cb s R L C) (id n : Int) (hid : i64k id) (k : Nat) (hk : k < 8) (hl : (L k).length ≤ 100000) (hC : C id = none) (hn : 1 ≤ n ∧ n ≤ 65536) (hs : s < 1000) (hnot : id ∉ L k) :
    Calls Try.prog 12 #[pt q, .int .i64 id, .int .i64 (k : Int), .int .i64 n] w fun e w' => e = .returned (.bool true) ∧ WAt w' q c cb (s + 1) R (updL L k (L k ++ [id])) (updC C id (some (0, n))) ∧ Touch (cb :: tri R k) w w' := by
  have R1 := Lib.hid (ringW h k hk)
  have CR := Lib.hid (creditsW h)
  have X := Lib.hid (open_new h.cred id n hid hC hn hs)
  have H := Lib.hid h
  unfold pt at *
  clear h
  go_enter Try.func12, Try.ntmps12
  go_wp2_with fail
  refine (R1.out).mono ?_
  rintro e w1 ⟨rfl, hw⟩
  subst hw
  go_wp2_with fail
  refine (CR.out).mono ?_
  rintro e w1 ⟨rfl, hw⟩
  subst hw
  go_wp2_with fail
  refine (X.out).mono ?_
  rintro e w2 ⟨rfl, hc, t⟩
  have H2 := Lib.hid (H.out.credNow hc t)
  have T := Lib.hid t
  have A2 := Lib.hid ((H2.out.ring k hk).addC id hid hnot hl)
  clear hc t
  go_wp2_with fail
  refine (A2.out).mono ?_
  rintro e w3 ⟨rfl, hr, t3⟩
  have H3 := Lib.hid (H2.out.ringNow hk hr t3)
  have T3 := Lib.hid ((T.out.mono (S' := cb :: tri R k) (by simp)).trans t3 (fun b hb => .inl (List.mem_cons_of_mem _ hb)))
  clear hr t3
  go_wp2_with fail
  go_ret
  exact ⟨rfl, H3.out, T3.out⟩
theorem leaveW_no (v : Value) (id : Int) {w : World} (P1 : Hid (Calls Try.prog 22 #[v, .int .i64 id] w fun e w' => e = .returned (.tuple #[.int .i64 0, .bool false]) ∧ w' = w)) :
    Calls Try.prog 14 #[v, .int .i64 id] w fun e w' => e = .returned (.bool false) ∧ w' = w := by
  go_enter Try.func14, Try.ntmps14
  go_wp2_with fail
  refine (P1.out).mono ?_
  rintro e w1 ⟨rfl, hw⟩
  subst hw
  go_wp2_with fail
  go_ret
  exact ⟨rfl, rfl⟩
theorem leaveW_yes (h : WAt w q c cb s R L C) (id : Int) (hid : i64k id) (k : Nat) (hk : k < 8) (hl : (L k).length ≤ 100000) (hin : id ∈ L k) (hfar : ∀ j, j < k → id ∉ L j) (x : Int × Int) (hx : C id = some x) :
    Calls Try.prog 14 #[pt q, .int .i64 id] w fun e w' => e = .returned (.bool true) ∧ WAt w' q c cb (s - 1) R (updL L k (without29 id (L k))) (updC C id none) ∧ Touch (cb :: tri R k) w w' := by
  have P1 := Lib.hid (prioW_yes h id hid k hk hin hfar)
  have R1 := Lib.hid (ringW h k hk)
  have D1 := Lib.hid ((h.ring k hk).dropC id hin hl)
  have H := Lib.hid h
  have HX := Lib.hid hx
  have CR := Lib.hid (fun w (h : WAt w q c cb s R (updL L k (without29 id (L k))) C) => creditsW h)
  unfold pt at *
  clear h hin hfar hx
  go_enter Try.func14, Try.ntmps14
  go_wp2_with fail
  refine (P1.out).mono ?_
  rintro e w1 ⟨rfl, hw⟩
  subst hw
  go_wp2_with fail
  refine (R1.out).mono ?_
  rintro e w1 ⟨rfl, hw⟩
  subst hw
  go_wp2_with fail
  refine (D1.out).mono ?_
  rintro e w2 ⟨rfl, hr, t⟩
  have H2 := Lib.hid (H.out.ringNow hk hr t)
  have T := Lib.hid t
  have CL := Lib.hid (close_yes H2.out.cred id hid x HX.out)
  have CR2 := Lib.hid (CR.out _ H2.out)
  clear hr t
  go_wp2_with fail
  refine (CR2.out).mono ?_
  rintro e w3 ⟨rfl, hw⟩
  subst hw
  go_wp2_with fail
  refine (CL.out).mono ?_
  rintro e w4 ⟨rfl, hc, t4⟩
  have H4 := Lib.hid (H2.out.credNow hc t4)
  have T4 := Lib.hid ((T.out.mono (S' := cb :: tri R k) (fun b hb => .inl (List.mem_cons_of_mem _ hb))).trans t4 (by simp))
  clear hc t4
  go_wp2_with fail
  go_ret
  exact ⟨rfl, H4.out, T4.out⟩
end

/-! ### New -/
def ncells (f : Nat → Value) (c : Nat) : Array Value := #[f 0, f 1, f 2, f 3, f 4, f 5, f 6, f 7, pt c]
theorem ncells_set (f : Nat → Value) (c i : Nat) (hi : i < 8) (v : Value) : (ncells f c).setIfInBounds i v = ncells (fun j => if j = i then v else f j) c := by
  unfold ncells
  match i, hi with
  | 0, _ => rfl
  | 1, _ => rfl
  | 2, _ => rfl
  | 3, _ => rfl
  | 4, _ => rfl
  | 5, _ => rfl
  | 6, _ => rfl
  | 7, _ => rfl
  | i + 8, h => omega
theorem ncells_get (f : Nat → Value) (c i : Nat) (hi : i < 8) : (ncells f c)[i]? = some (f i) := by
  unfold ncells
  match i, hi with
  | 0, _ => rfl
  | 1, _ => rfl
  | 2, _ => rfl
  | 3, _ => rfl
  | 4, _ => rfl
  | 5, _ => rfl
  | 6, _ => rfl
  | 7, _ => rfl
  | i + 8, h => omega
def upR (R : Tri) (i : Nat) (t : Nat × Nat × Nat) : Tri := fun j => if j = i then t else R j
/-- What New holds when i rings are made. -/
structure Half (w0 w : World) (q c cb i : Nat) (R : Tri) : Prop where
  box : BoxV w q 75 (ncells (fun j => if j < i then pt (R j).1 else .pointer none) c)
  ring : ∀ k, k < i → AsList w (R k).1 (R k).2.1 (R k).2.2 []
  cred : CredAt w c cb 0 (fun _ => none)
  two : ∀ j k, j < i → k < i → j ≠ k → ∀ b ∈ tri R j, b ∉ tri R k
  far : ∀ k, k < i → ∀ b ∈ tri R k, b ≠ q ∧ b ≠ c ∧ b ≠ cb
  qs : q ≠ c ∧ q ≠ cb ∧ c ≠ cb
  low : w0.heap.size ≤ q ∧ w0.heap.size ≤ c ∧ w0.heap.size ≤ cb ∧ ∀ k, k < i → ∀ b ∈ tri R k, w0.heap.size ≤ b
  t : Touch [] w0 w
theorem Half.step {w0 w w1 : World} {q c cb i p b1 b2 : Nat} {R : Tri} (h : Half w0 w q c cb i R) (hi : i < 8) (hr : AsList w1 p b1 b2 []) (hlow : w.heap.size ≤ p ∧ w.heap.size ≤ b1 ∧ w.heap.size ≤ b2) (t : Touch [] w w1) :
    Half w0 (w1.setCell ⟨q, i, none⟩ (pt p)) q c cb (i + 1) (upR R i (p, b1, b2)) := by
  have hq := h.box.lt
  have t2 : Touch [q] w1 (w1.setCell ⟨q, i, none⟩ (pt p)) := (Touch.refl [q] w1).setCell (a := ⟨q, i, none⟩) (by simp) (pt p)
  have hup : ∀ k, k < i → upR R i (p, b1, b2) k = R k := fun k hk => if_neg (by omega)
  have hup' : upR R i (p, b1, b2) i = (p, b1, b2) := if_pos rfl
  have htri : ∀ k, k < i → tri (upR R i (p, b1, b2)) k = tri R k := fun k hk => by unfold tri; rw [hup k hk]
  have htri' : tri (upR R i (p, b1, b2)) i = [p, b1, b2] := by unfold tri; rw [hup']
  have hc := h.cred.box.lt
  have hcb : cb < w.heap.size := by
    obtain ⟨es, clock, hb', _⟩ := h.cred.map.twin
    exact (Array.getElem?_eq_some_iff.1 hb').1
  have hold : ∀ k, k < i → ∀ b ∈ tri R k, b < w.heap.size := fun k hk b hb => by
    obtain ⟨l1, l2, l3⟩ := (h.ring k hk).lt
    simp [tri] at hb
    rcases hb with rfl | rfl | rfl <;> assumption
  have hnew : ∀ b ∈ [p, b1, b2], w.heap.size ≤ b := fun b hb => by
    simp at hb
    rcases hb with rfl | rfl | rfl <;> omega
  refine ⟨?_, fun k hk => ?_, ?_, fun j k hj hk hne b hb hm => ?_, fun k hk b hb => ?_, h.qs, ⟨h.low.1, h.low.2.1, h.low.2.2.1, fun k hk b hb => ?_⟩, (h.t.trans t (by simp)).trans t2 (fun b hb => by simp at hb; subst hb; exact .inr h.low.1)⟩
  · have := (h.box.carry t (by simp)).set i (pt p)
    rw [ncells_set _ _ _ hi] at this
    have e : (fun j => if j = i then pt p else if j < i then pt (R j).1 else Value.pointer none) = (fun j => if j < i + 1 then pt (upR R i (p, b1, b2) j).1 else Value.pointer none) := by
      funext j
      by_cases h1 : j = i
      · subst h1
        rw [if_pos rfl, if_pos (by omega), hup']
      · rw [if_neg h1]
        by_cases h2 : j < i
        · rw [if_pos h2, if_pos (by omega), hup j h2]
        · rw [if_neg h2, if_neg (by omega)]
    rwa [e] at this
  · by_cases hk' : k < i
    · rw [hup k hk']
      have far := h.far k hk'
      exact ((h.ring k hk').carry t (by simp) (by simp) (by simp)).carry t2 (by simpa using (far _ (by simp [tri])).1) (by simpa using (far _ (by simp [tri])).1) (by simpa using (far _ (by simp [tri])).1)
    · obtain rfl : k = i := by omega
      rw [hup']
      exact hr.carry t2 (by simp; omega) (by simp; omega) (by simp; omega)
  · exact (h.cred.carry t (by simp) (by simp)).carry t2 (by simpa using h.qs.1.symm) (by simpa using h.qs.2.1.symm)
  · by_cases hj' : j < i
    · rw [htri j hj'] at hb
      by_cases hk' : k < i
      · rw [htri k hk'] at hm
        exact h.two j k hj' hk' hne b hb hm
      · obtain rfl : k = i := by omega
        rw [htri'] at hm
        have := hold j hj' b hb
        have := hnew b hm
        omega
    · obtain rfl : j = i := by omega
      rw [htri'] at hb
      have hk' : k < j := by omega
      rw [htri k hk'] at hm
      have := hold k hk' b hm
      have := hnew b hb
      omega
  · by_cases hk' : k < i
    · rw [htri k hk'] at hb
      exact h.far k hk' b hb
    · obtain rfl : k = i := by omega
      rw [htri'] at hb
      have := hnew b hb
      omega
  · by_cases hk' : k < i
    · rw [htri k hk'] at hb
      exact h.low.2.2.2 k hk' b hb
    · obtain rfl : k = i := by omega
      rw [htri'] at hb
      have := hnew b hb
      have := h.t.size
      omega
theorem Half.all {w0 w : World} {q c cb : Nat} {R : Tri} (h : Half w0 w q c cb 8 R) : WAt w q c cb 0 R (fun _ => []) (fun _ => none) := by
  refine ⟨?_, h.ring, h.cred, ⟨h.far, h.two, h.qs⟩⟩
  have := h.box
  unfold ncells at this
  unfold wcells
  simpa using this
def NewPost (w : World) (e : Ending) (w' : World) : Prop :=
  ∃ q c cb R, e = .returned (pt q) ∧ WAt w' q c cb 0 R (fun _ => []) (fun _ => none) ∧ (∀ b ∈ zone q c cb R, w.heap.size ≤ b) ∧ Touch [] w w'
set_option maxHeartbeats 2000000 in
set_option maxRecDepth 100000 in
theorem newW (w : World) : Calls Try.prog 8 #[] w (NewPost w) := by
  have C1 := Lib.hid (credNew_any w)
  have A1 := Lib.hid (credNew_at w)
  unfold NewPost
  unfold pt
  go_enter Try.func8, Try.ntmps8
  go_wp2_with fail
  refine (C1.out).mono ?_
  rintro e w1 ⟨rfl, hw⟩
  have a1 := A1.out
  rw [← hw] at a1
  have t1 : Touch [] w w1 := by rw [hw]; exact ((Touch.refl [] w).alloc _).alloc _
  have sz : w1.heap.size = w.heap.size + 2 := by rw [hw]; simp
  have H0 : Half w (w1.alloc (.cells #[.pointer none, .pointer none, .pointer none, .pointer none, .pointer none, .pointer none, .pointer none, .pointer none, .pointer (some ⟨w.heap.size + 1, 0, none⟩)] 75)) w1.heap.size (w.heap.size + 1) w.heap.size 0 (fun _ => (0, 0, 0)) :=
    ⟨BoxV.new w1 _ _, fun k hk => absurd hk (by omega), a1.carry ((Touch.refl [] w1).alloc _) (by simp) (by simp), fun j k hj => absurd hj (by omega), fun k hk => absurd hk (by omega), by omega, ⟨by omega, by omega, Nat.le_refl _, fun k hk => absurd hk (by omega)⟩, t1.alloc _⟩
  have HH := Lib.hid H0
  clear hw a1 t1 H0 C1 A1
  go_upto_region 2 with fail
  generalize hw2 : w1.alloc _ = w2 at *
  clear hw2
  rw [sz] at HH
  clear sz
  go_wp2_with fail
  go_loopw [6] (fun x wr => ∃ (i : Nat) (R : Tri), i ≤ 8 ∧ x = .int .i64 (i : Int) ∧ Half w wr (w.heap.size + 2) (w.heap.size + 1) w.heap.size i R) (fun x _ => 8 - (intOf x).toNat)
  case atStart => exact ⟨0, _, Nat.zero_le _, rfl, HH.out⟩
  case round =>
    clear HH
    obtain ⟨i, R, hi, rfl, hH⟩ := hrel
    by_cases hlt : i < 8
    · have hi8 : (i : Int) < 8 := by omega
      have H := Lib.hid hH
      have ql := hH.box.lt
      clear hH
      have N1 := Lib.hid (fun u => asNew (w := u))
      go_upto_region 5 with fail
      go_region_with (go_at_call 28; refine (N1.out _).mono ?_; rintro e w5 ⟨p, b1, b2, rfl, hr, hlow, t5⟩; have HR5 := Lib.hid hr; have HL5 := Lib.hid hlow; have T5 := Lib.hid ((Touch.refl [] _).drew.trans t5 (by simp)); have B5 := H.out.box.carry T5.out (by simp); have k5 := (B5.cell i).trans (ncells_get _ _ i hlt); have f5 := B5.fr i; have l5 := B5.lt; clear hr hlow t5 B5)
      all_goals
        have HS := Lib.hid (H.out.step hlt HR5.out HL5.out T5.out)
        clear k5 f5 l5
        unfold pt at HS
        go_wp2_with fail
        go_roundw
        case rel => exact ⟨i + 1, _, by omega, by go_num, HS.out⟩
        case measure => simp [intOf]; omega
    · obtain rfl : i = 8 := by omega
      have H := Lib.hid hH
      clear hH
      go_wp2_with fail
      go_ret
      exact ⟨_, _, _, R, rfl, H.out.all, fun b hb => by
        have hl := H.out.low
        rcases mem_zone.1 hb with rfl | rfl | rfl | ⟨k, hk, hm⟩
        · exact hl.1
        · exact hl.2.1
        · exact hl.2.2.1
        · exact hl.2.2.2 k hk b hm, H.out.t⟩
end Go.Proofs.Ytcggpgjnjfjfnaa
