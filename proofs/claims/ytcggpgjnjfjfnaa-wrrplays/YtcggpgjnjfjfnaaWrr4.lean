/-
  Layer 31 (wrr): Pick.
-/
import Derived.Test.YtcggpgjnjfjfnaaWrr3
import Derived.WalkMore
namespace Go.Proofs.Ytcggpgjnjfjfnaa
open Go.ChangeShapes Go.WideShapes Go.ChangeAt Go.RowKit Go.Deep Go.Maps
set_option linter.unusedVariables false
set_option linter.unusedSimpArgs false

def ableB (X : Nat → Int) (n : Nat) (i : Int) : Bool := (List.range n).any fun j => X j == i
theorem ableB_succ (X : Nat → Int) (n : Nat) (i : Int) : ableB X (n + 1) i = (ableB X n i || X n == i) := by
  unfold ableB
  rw [List.range_succ, List.any_append]
  simp
def wantM (X : Nat → Int) (n : Nat) : Int → Option Value := fun i => if ableB X n i = true then some (.agg #[]) else none
theorem wantM_succ (X : Nat → Int) (n : Nat) : put (wantM X n) (X n) (some (.agg #[])) = wantM X (n + 1) := by
  funext i
  unfold put wantM
  rw [ableB_succ]
  by_cases h : i = X n
  · subst h; simp
  · rw [if_neg h, show (X n == i) = false by simpa using (Ne.symm h)]
    simp
theorem wantM_some (X : Nat → Int) (n : Nat) (i : Int) : (wantM X n i).isSome = ableB X n i := by
  unfold wantM
  cases ableB X n i <;> rfl
theorem emptyZero (w : World) : (zeroValue 82).run Try.prog w = .ok (.agg #[]) w := by kernel_rfl
def visited (able : Int → Bool) (L : List Int) (i : Nat) : Bool := (List.range i).any fun j => able (hdx L j)
theorem visited_succ (able : Int → Bool) (L : List Int) (i : Nat) : visited able L (i + 1) = (visited able L i || able (hdx L i)) := by
  unfold visited
  rw [List.range_succ, List.any_append]
  simp
theorem visited_all {able : Int → Bool} {L : List Int} (h : anyIn able L = true) {i : Nat} (hi : L.length ≤ i) : visited able L i = true := by
  unfold anyIn at h
  rw [List.any_eq_true] at h
  obtain ⟨x, hx, ha⟩ := h
  obtain ⟨j, hj, e⟩ := List.getElem_of_mem hx
  unfold visited
  rw [List.any_eq_true]
  exact ⟨j, List.mem_range.2 (by omega), by rw [hdx_lt hj, at0, List.getElem?_eq_getElem hj]; simpa [e] using ha⟩

theorem updL_self (L : Nat → List Int) (k : Nat) : updL L k (L k) = L := by
  funext j
  unfold updL
  split
  · rename_i h; rw [h]
  · rfl
theorem updL_updL (L : Nat → List Int) (k : Nat) (l l' : List Int) : updL (updL L k l) k l' = updL L k l' := by
  funext j
  unfold updL
  split <;> rfl
theorem exit_inBlock_ret {n : Nat} {Q : Exit → Act → World → Prop} {a : Act} {w : World} : Exit.inBlock n Q .ret a w = Q .ret a w := rfl
theorem exit_then_ret {K : Act → World → Prop} {Q : Exit → Act → World → Prop} {a : Act} {w : World} : Exit.then K Q .ret a w = Q .ret a w := rfl
section
variable {w : World} {q c cb s : Nat} {R : Tri} {L : Nat → List Int} {C : Acc}
theorem wantM_get (X : Nat → Int) (n : Nat) (i : Int) : (wantM X n i).getD (.agg #[]) = .agg #[] := by
  unfold wantM
  split <;> rfl
theorem visC_crd {C : Acc} {id : Int} {x : Int × Int} (h : C id = some x) : crd (visC C id) id = clampC x.2 (satAdd x.1 x.2) := by
  unfold crd visC
  rw [h]
  simp only
  rw [updC_same]
  rfl
theorem WAt.turnNow {i k : Nat} (h : WAt w q c cb s R (updL L k (rotL i (L k))) C) (hk : k < 8) (hne : L k ≠ []) :
    Calls Try.prog 33 #[.pointer (some ⟨(R k).1, 0, none⟩)] w fun e w' => e = .returned (.tuple #[.int .i64 (hdx (L k) i), .bool true]) ∧ WAt w' q c cb s R (updL L k (rotL (i + 1) (L k))) C ∧ Touch (zone q c cb R) w w' := by
  have hr := h.ring k hk
  rw [updL_same] at hr
  obtain ⟨M, hM⟩ := rotL_cons hne i
  rw [hM] at hr
  refine hr.turnC.mono ?_
  rintro e w' ⟨he, h1, t⟩
  have := h.ringNow hk h1 t
  rw [updL_updL] at this
  refine ⟨he, ?_, t.mono fun b hb => .inl (mem_zone.2 (.inr (.inr (.inr ⟨k, hk, hb⟩))))⟩
  rw [rotL, hM]
  exact this
theorem WAt.visitNow (h : WAt w q c cb s R L C) {id : Int} (hid : i64k id) (hC : (C id).isSome = true) (hs : s < 1000) :
    Calls Try.prog 53 #[.pointer (some ⟨c, 0, none⟩), .int .i64 id] w fun e w' => e = .returned (.tuple #[.int .i64 (crd (visC C id) id), .bool true]) ∧ WAt w' q c cb s R L (visC C id) ∧ Touch (zone q c cb R) w w' := by
  obtain ⟨x, hx⟩ := Option.isSome_iff_exists.1 hC
  refine (visit_yes h.cred id hid x hx hs).mono ?_
  rintro e w' ⟨he, h1, t⟩
  have hv : visC C id = updC C id (some (clampC x.2 (satAdd x.1 x.2), x.2)) := by unfold visC; rw [hx]
  rw [visC_crd hx, hv]
  exact ⟨he, h.credNow h1 t, t.mono fun b hb => by simp at hb; subst hb; exact .inl (mem_zone.2 (.inr (.inr (.inl rfl))))⟩
theorem WAt.hdI {i k : Nat} (h : WAt w q c cb s R L C) (hk : k < 8) (hne : L k ≠ []) : i64k (hdx (L k) i) := (h.ring k hk).i64 _ (hdx_mem hne i)
theorem WAt.hdI' {i k n : Nat} (h : WAt w q c cb s R (updL L k (rotL n (L k))) C) (hk : k < 8) (hne : L k ≠ []) : i64k (hdx (L k) i) := by
  have hr := h.ring k hk
  rw [updL_same] at hr
  exact hr.i64 _ (rotL_mem.2 (hdx_mem hne i))
def PickNone (q c cb s : Nat) (R : Tri) (L : Nat → List Int) (C : Acc) (w : World) (e : Ending) (w' : World) : Prop :=
  e = .returned (.tuple #[.int .i64 0, .bool false]) ∧ WAt w' q c cb s R L C ∧ Touch (zone q c cb R) w w'
def PickOne (able : Int → Bool) (k i : Nat) (q c cb s : Nat) (R : Tri) (L : Nat → List Int) (C : Acc) (w : World) (e : Ending) (w' : World) : Prop :=
  e = .returned (.tuple #[.int .i64 (hdx (L k) i), .bool true]) ∧ WAt w' q c cb s R (updL L k (rotL (i + 1) (L k))) (crs able (L k) C (i + 1)) ∧ Touch (zone q c cb R) w w'
set_option maxHeartbeats 4000000 in
set_option maxRecDepth 100000 in
theorem pickW {A : Option Addr} {n cap : Nat} {X : Nat → Int} (h : WAt w q c cb s R L C) (hX : IntCells w w.heap.size A n X) (hn : n ≤ maxLen) (hF : ∀ i, i < n → fit64 (X i)) (hl : ∀ k, k < 8 → (L k).length ≤ 100000) (hs : s < 1000) (hmem : ∀ k, k < 8 → ∀ i ∈ L k, (C i).isSome = true) :
    Calls Try.prog 16 #[pt q, .slice A n cap] w fun e w' =>
      ((∀ k, k < 8 → anyIn (ableB X n) (L k) = false) ∧ PickNone q c cb s R L C w e w') ∨ ∃ k i, k < 8 ∧ anyIn (ableB X n) (L k) = true ∧ (∀ j, j < k → anyIn (ableB X n) (L j) = false) ∧ stops (ableB X n) (L k) C i ∧ (∀ j, j < i → ¬ stops (ableB X n) (L k) C j) ∧ PickOne (ableB X n) k i q c cb s R L C w e w' := by
  have hmm := @run_makeMap Try.prog
  have hn9 : n ≤ 9223372036854775807 := by unfold maxLen at hn; omega
  have M0 := Lib.hid (IMap.made (P := Try.prog) (k := 3) w)
  have H := Lib.hid h
  have HX := Lib.hid hX
  have HF := Lib.hid hF
  have HL := Lib.hid hl
  have HM := Lib.hid hmem
  have T0 := Lib.hid ((Touch.refl [] w).alloc (.map #[] 0))
  unfold pt PickNone PickOne
  clear h hX hF hl hmem
  go_enter Try.func16, Try.ntmps16
  go_wp2
  go_step3
  go_wp2
  go_loopw [8, 22] (fun y x wr => ∃ (k s1 : Nat), k ≤ n ∧ s1 ≤ k ∧ x = .int .i64 (k : Int) ∧ IMap Try.prog 3 wr w.heap.size s1 (wantM X k) ∧ Touch [] w wr) (fun _ x _ => n - (intOf x).toNat)
  case atStart => exact ⟨0, 0, Nat.zero_le _, Nat.le_refl _, rfl, M0.out.congr (fun i hi => rfl), T0.out⟩
  case round =>
    clear M0 T0
    obtain ⟨k, s1, hk, hs1, rfl, hM, hT⟩ := hrel
    have HMp := Lib.hid hM
    have HT := Lib.hid hT
    clear hM hT
    by_cases hlt : k < n
    · obtain ⟨b, off, hA, hb, hc⟩ := HX.out k hlt
      have hcell := (HT.out.cell (a := ⟨b, off + k, none⟩) hb (by simp)).trans hc
      have hlw : b < wr.heap.size := Nat.lt_of_lt_of_le hb HT.out.size
      subst hA
      have hi : i64k (X k) := i64k_of (HF.out k hlt)
      clear hc hb
      have hlt' : (k : Int) < (n : Int) := by omega
      obtain ⟨w3, hrun, hM3, t3⟩ := HMp.out.store Try.underlying3 Try.underlying81 (by omega) hi (.agg #[])
      rw [wantM_succ] at hM3
      have HM3 := Lib.hid hM3
      have HT3 := Lib.hid (HT.out.trans t3 (fun b hb => by simp at hb; subst hb; exact .inr (Nat.le_refl _)))
      clear hM3 t3
      go_wp2
      go_roundw
      case rel => exact ⟨k + 1, (if (wantM X k (X k)).isSome = true then s1 else s1 + 1), by omega, by (split <;> omega), by go_num, HM3.out, HT3.out⟩
      case measure => simp [intOf]; omega
    · obtain rfl : k = n := by omega
      go_wp2
      go_step3
      go_wp2
      generalize hA : ableB X k = able at *
      generalize hm : w.heap.size = m at HMp
      go_loopw [30] (fun x wr => ∃ j : Nat, j ≤ 8 ∧ x = .int .i64 (j : Int) ∧ (∀ i, i < j → anyIn able (L i) = false) ∧ WAt wr q c cb s R L C ∧ IMap Try.prog 3 wr m s1 (wantM X k) ∧ Touch (zone q c cb R) w wr) (fun x _ => 8 - (intOf x).toNat)
      case atStart => exact ⟨0, Nat.zero_le _, rfl, fun i hi => absurd hi (Nat.not_lt_zero _), H.out.new HT.out, HMp.out, HT.out.mono (by simp)⟩
      case round =>
        obtain ⟨j, hj, rfl, hno, hW, hMp, hTz⟩ := hrel
        by_cases hlt : j < 8
        · have hj8 : (j : Int) < 8 := by omega
          have RW := Lib.hid (ringW hW j hlt)
          unfold pt at RW
          go_wp2_with fail
          go_step3
          go_wp2_with fail
          refine (RW.out).mono ?_
          rintro e w4 ⟨rfl, hw⟩
          subst hw
          go_wp2_with fail
          go_step3
          go_wp2_with fail
          have hout : ∀ b ∈ zone q c cb R, b ≠ m := fun b hb => by
            have := H.out.lt b hb
            omega
          have HOUT := Lib.hid hout
          have HW := Lib.hid hW
          have HMp2 := Lib.hid hMp
          have HTz := Lib.hid hTz
          have HNO := Lib.hid hno
          clear hW hMp hTz hno hout
          obtain ⟨an, han⟩ : ∃ an, anyIn able (L j) = an := ⟨_, rfl⟩
          cases an
          · go_loopw [11, 12] (fun v x wr => ∃ i : Nat, i ≤ (L j).length ∧ x = .int .i64 (i : Int) ∧ v = .bool false ∧ WAt wr q c cb s R (updL L j (rotL i (L j))) C ∧ IMap Try.prog 3 wr m s1 (wantM X k) ∧ Touch (zone q c cb R) w wr) (fun _ x _ => (L j).length - (intOf x).toNat)
            case atStart => exact ⟨0, Nat.zero_le _, rfl, rfl, by rw [show rotL 0 (L j) = L j from rfl, updL_self]; exact HW.out, HMp2.out, HTz.out⟩
            case round =>
              clear HW HMp2 HTz
              obtain ⟨i, hi, rfl, rfl, hW, hMp, hTz⟩ := hrel
              have HRj := hW.ring j hlt
              rw [updL_same] at HRj
              have LC := Lib.hid HRj.lenC
              rw [rotL_length] at LC
              by_cases hil : i = (L j).length
              · have d1 : ((i : Int) == ((L j).length : Int)) = true := by simp; omega
                have d1' : (i == (L j).length) = true := by simp; omega
                rw [hil, rotL_all, updL_self] at hW
                go_wp2_with fail
                refine (LC.out).mono ?_
                rintro e w5 ⟨rfl, hw⟩
                subst hw
                go_wp2_with fail
                rw [Exit.noGoto_exit]
                go_wp2_with fail
                go_roundw
                case rel => exact ⟨j + 1, by omega, by go_num, fun i hi => by rcases (show i < j ∨ i = j by omega) with h | h; exact HNO.out i h; rw [h]; exact han, hW, hMp, hTz⟩
                case measure => simp [intOf]; go_num
              · have d1 : ((i : Int) == ((L j).length : Int)) = false := by simp; omega
                have d1' : (i == (L j).length) = false := by simp; omega
                have hne : L j ≠ [] := fun h => by rw [h] at hil hi; simp at hil hi; omega
                have TC := Lib.hid (hW.turnNow hlt hne)
                have hid := hW.hdI' (i := i) hlt hne
                have hab := (crs_none (C := C) hne han i).2
                go_wp2_with fail
                refine (LC.out).mono ?_
                rintro e w5 ⟨rfl, hw⟩
                subst hw
                go_wp2_with fail
                refine (TC.out).mono ?_
                rintro e w5 ⟨rfl, hW5, t5⟩
                have hM5 := hMp.carry t5 (fun hb => HOUT.out _ hb rfl)
                have hl := hM5.look_ok Try.underlying3 Try.underlying81 (emptyZero _) hid
                rw [wantM_some, wantM_get, hA, hab] at hl
                go_wp2_with fail
                have hb := HL.out j hlt
                have hi1 : i + 1 ≤ (L j).length := by omega
                have hw64 : wrap64 ((i : Int) + 1) = ((i + 1 : Nat) : Int) := by unfold wrap64; omega
                rw [hw64]
                exact ⟨⟨i + 1, hi1, rfl, rfl, hW5.new ((Touch.refl [] _).alloc _), hM5.carry ((Touch.refl [] _).alloc _) (by simp), (hTz.trans t5 (fun b hb => .inl hb)).alloc _⟩, by show (L j).length - ((i + 1 : Nat) : Int).toNat < (L j).length - (i : Int).toNat; omega⟩
          · obtain ⟨x0, hx0, hab0⟩ := List.any_eq_true.1 han
            obtain ⟨i0, hi0, hs0⟩ := stop_in HW.out.cred.ok hx0 hab0 (HM.out j hlt x0 hx0)
            obtain ⟨ist, hist, hfirst⟩ := stop_first ⟨i0, hs0⟩
            have histb : ist < 6553800000 := by
              have hb := HL.out j hlt
              have : ist ≤ i0 := by
                apply Classical.byContradiction
                intro hn
                exact hfirst i0 (by omega) hs0
              have := Nat.mul_le_mul_left 65538 hb
              omega
            have hne : L j ≠ [] := fun h => by rw [h] at hx0; simp at hx0
            have HS := Lib.hid (And.intro hist hfirst)
            clear hi0 hs0 hist hfirst
            go_loopw [11, 12] (fun v x wr => ∃ i : Nat, i ≤ ist ∧ x = .int .i64 (i : Int) ∧ v = .bool (visited able (L j) i) ∧ WAt wr q c cb s R (updL L j (rotL i (L j))) (crs able (L j) C i) ∧ IMap Try.prog 3 wr m s1 (wantM X k) ∧ Touch (zone q c cb R) w wr) (fun _ x _ => ist + 1 - (intOf x).toNat)
            case atStart => exact ⟨0, Nat.zero_le _, rfl, rfl, by rw [show rotL 0 (L j) = L j from rfl, updL_self]; exact HW.out, HMp2.out, HTz.out⟩
            case round =>
              clear HW HMp2 HTz
              obtain ⟨i, hi, rfl, rfl, hW, hMp, hTz⟩ := hrel
              have HRj := hW.ring j hlt
              rw [updL_same] at HRj
              have LC := Lib.hid HRj.lenC
              rw [rotL_length] at LC
              have TC := Lib.hid (hW.turnNow hlt hne)
              have hid := hW.hdI' (i := i) hlt hne
              by_cases hil : i = (L j).length
              · have d1 : ((i : Int) == ((L j).length : Int)) = true := by simp; omega
                have d1' : (i == (L j).length) = true := by simp; omega
                have hv : visited able (L j) i = true := visited_all han (by omega)
                have HIL := Lib.hid hil
                clear hil
                go_wp2_with fail
                refine (LC.out).mono ?_
                rintro e w5 ⟨rfl, hw⟩
                subst hw
                go_wp2_with fail
                refine (TC.out).mono ?_
                rintro e w5 ⟨rfl, hW5, t5⟩
                have hM5 := hMp.carry t5 (fun hb => HOUT.out _ hb rfl)
                have hT5 := hTz.trans t5 (fun b hb => .inl hb)
                have hvs := visited_succ able (L j) i
                have hcs : crs able (L j) C (i + 1) = if able (hdx (L j) i) = true then visC (crs able (L j) C i) (hdx (L j) i) else crs able (L j) C i := rfl
                have hw64 : wrap64 ((i : Int) + 1) = ((i + 1 : Nat) : Int) := by unfold wrap64; omega
                have hl := hM5.look_ok Try.underlying3 Try.underlying81 (emptyZero _) hid
                rw [wantM_some, wantM_get, hA] at hl
                obtain ⟨ab, hab⟩ : ∃ ab, able (hdx (L j) i) = ab := ⟨_, rfl⟩
                rw [hab] at hl
                cases ab
                · have hne' : i ≠ ist := fun h => by have := HS.out.1.1; rw [← h, hab] at this; exact Bool.noConfusion this
                  have hi1 : i + 1 ≤ ist := by omega
                  rw [hab, if_neg Bool.false_ne_true] at hcs
                  rw [hab, Bool.or_false] at hvs
                  go_wp2_with fail
                  exact ⟨⟨i + 1, hi1, rfl, by rw [hvs, hv], by rw [hcs]; exact hW5.new ((Touch.refl [] _).alloc _), hM5.carry ((Touch.refl [] _).alloc _) (by simp), hT5.alloc _⟩, by show ist + 1 - ((i + 1 : Nat) : Int).toNat < ist + 1 - (i : Int).toNat; omega⟩
                · rw [hab, if_pos rfl] at hcs
                  rw [hab, Bool.or_true] at hvs
                  have CR := Lib.hid (fun w6 (h6 : WAt w6 q c cb s R (updL L j (rotL (i + 1) (L j))) (crs able (L j) C i)) => creditsW h6)
                  have VC := Lib.hid (fun w6 (h6 : WAt w6 q c cb s R (updL L j (rotL (i + 1) (L j))) (crs able (L j) C i)) => h6.visitNow hid (by rw [crs_dom]; exact HM.out j hlt _ (hdx_mem hne i)) hs)
                  have HST := Lib.hid (show stops able (L j) C i ↔ 0 < crd (visC (crs able (L j) C i) (hdx (L j) i)) (hdx (L j) i) by unfold stops; rw [hcs, hab]; simp)
                  unfold pt at CR
                  go_wp2_with fail
                  have hW6 := hW5.new ((Touch.refl [] w5).alloc (.cells #[] 82))
                  have hM6 := hM5.carry ((Touch.refl [] w5).alloc (.cells #[] 82)) (by simp)
                  have hT6 := hT5.alloc (.cells #[] 82)
                  refine (CR.out _ hW6).mono ?_
                  rintro e w7 ⟨rfl, hw⟩
                  subst hw
                  go_wp2_with fail
                  refine (VC.out _ hW6).mono ?_
                  rintro e w8 ⟨rfl, hW8, t8⟩
                  have hM8 := hM6.carry t8 (fun hb => HOUT.out _ hb rfl)
                  have hT8 := hT6.trans t8 (fun b hb => .inl hb)
                  rw [← hcs] at hW8
                  clear hW6 hM6 hT6 hW5 hM5 hT5 t5 t8 hl hW hMp hTz
                  generalize crd (visC (crs able (L j) C i) (hdx (L j) i)) (hdx (L j) i) = n at *
                  by_cases hp : 0 < n
                  · have hst := HST.out.2 hp
                    have HW8 := Lib.hid hW8
                    have HT8 := Lib.hid hT8
                    clear hW8 hT8 hM8
                    go_wp2_with fail
                    repeat (first | rw [Exit.noGoto_ret] | rw [exit_inBlock_ret] | rw [exit_then_ret])
                    show Exit.then _ _ Exit.ret _ _
                    rw [exit_then_ret]
                    repeat (first | rw [Exit.noGoto_ret] | rw [exit_inBlock_ret] | rw [exit_then_ret])
                    show bodyPost _ _ _ Exit.ret _ _
                    refine bodyPost_ret (v := .tuple #[.int .i64 (hdx (L j) i), .bool true]) (by simp [results, Try.results16, go_sem]) rfl ?_
                    have hie : i = ist := by
                      rcases Nat.lt_or_ge i ist with h | h
                      · exact absurd hst (HS.out.2 i h)
                      · exact Nat.le_antisymm hi h
                    exact Or.inr ⟨j, i, hlt, by rw [hA]; exact han, by rw [hA]; exact HNO.out, by rw [hA]; exact hst, by rw [hA, hie]; exact HS.out.2, rfl, by rw [hA]; exact HW8.out, HT8.out⟩
                  · have hne' : i ≠ ist := fun h => hp (HST.out.1 (by rw [h]; exact HS.out.1))
                    have hi1 : i + 1 ≤ ist := by omega
                    have HW8 := Lib.hid hW8
                    have HT8 := Lib.hid hT8
                    have HM8 := Lib.hid hM8
                    clear hW8 hT8 hM8
                    go_wp2_with fail
                    exact ⟨⟨i + 1, hi1, rfl, by rw [hvs], HW8.out, HM8.out, HT8.out⟩, by show ist + 1 - ((i + 1 : Nat) : Int).toNat < ist + 1 - (i : Int).toNat; omega⟩
              · have d1 : ((i : Int) == ((L j).length : Int)) = false := by simp; omega
                have d1' : (i == (L j).length) = false := by simp; omega
                go_wp2_with fail
                refine (LC.out).mono ?_
                rintro e w5 ⟨rfl, hw⟩
                subst hw
                go_wp2_with fail
                refine (TC.out).mono ?_
                rintro e w5 ⟨rfl, hW5, t5⟩
                have hM5 := hMp.carry t5 (fun hb => HOUT.out _ hb rfl)
                have hT5 := hTz.trans t5 (fun b hb => .inl hb)
                have hvs := visited_succ able (L j) i
                have hcs : crs able (L j) C (i + 1) = if able (hdx (L j) i) = true then visC (crs able (L j) C i) (hdx (L j) i) else crs able (L j) C i := rfl
                have hw64 : wrap64 ((i : Int) + 1) = ((i + 1 : Nat) : Int) := by unfold wrap64; omega
                have hl := hM5.look_ok Try.underlying3 Try.underlying81 (emptyZero _) hid
                rw [wantM_some, wantM_get, hA] at hl
                obtain ⟨ab, hab⟩ : ∃ ab, able (hdx (L j) i) = ab := ⟨_, rfl⟩
                rw [hab] at hl
                cases ab
                · have hne' : i ≠ ist := fun h => by have := HS.out.1.1; rw [← h, hab] at this; exact Bool.noConfusion this
                  have hi1 : i + 1 ≤ ist := by omega
                  rw [hab, if_neg Bool.false_ne_true] at hcs
                  rw [hab, Bool.or_false] at hvs
                  go_wp2_with fail
                  exact ⟨⟨i + 1, hi1, rfl, by rw [hvs], by rw [hcs]; exact hW5.new ((Touch.refl [] _).alloc _), hM5.carry ((Touch.refl [] _).alloc _) (by simp), hT5.alloc _⟩, by show ist + 1 - ((i + 1 : Nat) : Int).toNat < ist + 1 - (i : Int).toNat; omega⟩
                · rw [hab, if_pos rfl] at hcs
                  rw [hab, Bool.or_true] at hvs
                  have CR := Lib.hid (fun w6 (h6 : WAt w6 q c cb s R (updL L j (rotL (i + 1) (L j))) (crs able (L j) C i)) => creditsW h6)
                  have VC := Lib.hid (fun w6 (h6 : WAt w6 q c cb s R (updL L j (rotL (i + 1) (L j))) (crs able (L j) C i)) => h6.visitNow hid (by rw [crs_dom]; exact HM.out j hlt _ (hdx_mem hne i)) hs)
                  have HST := Lib.hid (show stops able (L j) C i ↔ 0 < crd (visC (crs able (L j) C i) (hdx (L j) i)) (hdx (L j) i) by unfold stops; rw [hcs, hab]; simp)
                  unfold pt at CR
                  go_wp2_with fail
                  have hW6 := hW5.new ((Touch.refl [] w5).alloc (.cells #[] 82))
                  have hM6 := hM5.carry ((Touch.refl [] w5).alloc (.cells #[] 82)) (by simp)
                  have hT6 := hT5.alloc (.cells #[] 82)
                  refine (CR.out _ hW6).mono ?_
                  rintro e w7 ⟨rfl, hw⟩
                  subst hw
                  go_wp2_with fail
                  refine (VC.out _ hW6).mono ?_
                  rintro e w8 ⟨rfl, hW8, t8⟩
                  have hM8 := hM6.carry t8 (fun hb => HOUT.out _ hb rfl)
                  have hT8 := hT6.trans t8 (fun b hb => .inl hb)
                  rw [← hcs] at hW8
                  clear hW6 hM6 hT6 hW5 hM5 hT5 t5 t8 hl hW hMp hTz
                  generalize crd (visC (crs able (L j) C i) (hdx (L j) i)) (hdx (L j) i) = n at *
                  by_cases hp : 0 < n
                  · have hst := HST.out.2 hp
                    have HW8 := Lib.hid hW8
                    have HT8 := Lib.hid hT8
                    clear hW8 hT8 hM8
                    go_wp2_with fail
                    repeat (first | rw [Exit.noGoto_ret] | rw [exit_inBlock_ret] | rw [exit_then_ret])
                    show Exit.then _ _ Exit.ret _ _
                    rw [exit_then_ret]
                    repeat (first | rw [Exit.noGoto_ret] | rw [exit_inBlock_ret] | rw [exit_then_ret])
                    show bodyPost _ _ _ Exit.ret _ _
                    refine bodyPost_ret (v := .tuple #[.int .i64 (hdx (L j) i), .bool true]) (by simp [results, Try.results16, go_sem]) rfl ?_
                    have hie : i = ist := by
                      rcases Nat.lt_or_ge i ist with h | h
                      · exact absurd hst (HS.out.2 i h)
                      · exact Nat.le_antisymm hi h
                    exact Or.inr ⟨j, i, hlt, by rw [hA]; exact han, by rw [hA]; exact HNO.out, by rw [hA]; exact hst, by rw [hA, hie]; exact HS.out.2, rfl, by rw [hA]; exact HW8.out, HT8.out⟩
                  · have hne' : i ≠ ist := fun h => hp (HST.out.1 (by rw [h]; exact HS.out.1))
                    have hi1 : i + 1 ≤ ist := by omega
                    have HW8 := Lib.hid hW8
                    have HT8 := Lib.hid hT8
                    have HM8 := Lib.hid hM8
                    clear hW8 hT8 hM8
                    go_wp2_with fail
                    exact ⟨⟨i + 1, hi1, rfl, by rw [hvs], HW8.out, HM8.out, HT8.out⟩, by show ist + 1 - ((i + 1 : Nat) : Int).toNat < ist + 1 - (i : Int).toNat; omega⟩
        · obtain rfl : j = 8 := by omega
          have F := Lib.hid (show (∀ k, k < 8 → anyIn able (L k) = false) ∧ WAt wr q c cb s R L C ∧ Touch (zone q c cb R) w wr from ⟨hno, hW, hTz⟩)
          clear hno hW hMp hTz
          go_wp2_with fail
          try rw [Exit.noGoto_ret]
          show bodyPost _ _ _ Exit.ret _ _
          refine bodyPost_ret (v := .tuple #[.int .i64 0, .bool false]) (by simp [results, Try.results16, go_sem]) rfl ?_
          exact Or.inl ⟨by rw [hA]; exact F.out.1, rfl, F.out.2⟩
end
end Go.Proofs.Ytcggpgjnjfjfnaa
