/-
  Layer 7 (chain): what a list holds; the row of its nodes.
-/
import Derived.Test.YtalkpoeliekbfaaChain3
import Derived.Test.YtalkpoeliekbfaaSlabRef4
import Derived.Deep.LoopGhost
import Derived.Laws.OwnMore
import Derived.OwnWalk
import Derived.IntWalk
namespace Go.Proofs.Ytalkpoeliekbfaa
open Go.ChangeShapes Go.WideShapes Go.ChangeAt Go.RowKit Go.Deep
set_option linter.unusedVariables false
set_option linter.unusedSimpArgs false

def headI : List Nat → Int
  | [] => -1
  | x :: _ => x
/-- Each node's next one. -/
def Linked (N : Nat → Int) : List Nat → Prop
  | [] => True
  | x :: l => N x = headI l ∧ Linked N l
/-- List a holds the nodes L. -/
structure ListAt (n : Nat) (N E : Nat → Int) (a : Nat) (L : List Nat) : Prop where
  count : E (a * 3 + 2) = L.length
  first : L ≠ [] → E (a * 3) = headI L
  last : ∀ x, L.getLast? = some x → E (a * 3 + 1) = x
  link : Linked N L
  lt : ∀ x ∈ L, x < n
def nv (L : List Nat) : List Value := L.map fun x : Nat => .int .i64 (x : Int)
theorem nv_append (A B : List Nat) : nv (A ++ B) = nv A ++ nv B := by simp [nv]
theorem nv_length (L : List Nat) : (nv L).length = L.length := by simp [nv]
theorem nv_get {L : List Nat} {i x : Nat} (h : L[i]? = some x) : (nv L)[i]? = some (.int .i64 (x : Int)) := by simp [nv, h]
def sliceLen : Value → Nat
  | .slice _ l _ => l
  | _ => 0
theorem cint_info : (Try.prog.info? 3).map (fun i => (i.zero, i.size, i.bytes)) = some (some (.int .i64 0), 1, 8) := by kernel_rfl
section
variable {w : World} {p gn gw gl n cn cw k cl : Nat} {N V E : Nat → Int}
theorem lenV_list {a : Nat} {L : List Nat} (h : ListAt n N E a L) (ha : a < k) : lenV k E a = L.length := by
  unfold lenV
  rw [if_pos (inR_yes ⟨by omega, by omega⟩), Int.toNat_natCast, h.count]
def NodesPost (w : World) (L : List Nat) (e : Ending) (w' : World) : Prop := ∃ v, e = .returned v ∧ w'.ownsRow w.heap.size 3 1 v L.length (nv L) ∧ Below w.heap.size w w'
theorem nodes_none (v : Value) (l : Int) (w : World) (D : Hid (Calls Try.prog 11 #[v, .int .i64 l] w fun e w' => e = firstTold 0 false ∧ w' = w)) :
    Calls Try.prog 50 #[v, .int .i64 l] w (NodesPost w []) := by
  unfold firstTold at D
  go_enter Try.func50, Try.ntmps50
  go_wp2_with fail
  refine (D.out).mono ?_
  rintro e w1 ⟨rfl, rfl⟩
  go_wp2
  go_ret
  exact ⟨.slice none 0 0, rfl, World.ownsRow_nil _ _ _ _, Below.refl _ _⟩
set_option maxHeartbeats 1600000 in
set_option maxRecDepth 100000 in
theorem nodes_any (h : ChainAt w p gn gw gl n cn cw k cl N V E) (a : Nat) (ha : a < k) (L : List Nat) (hL : ListAt n N E a L) (hl5 : L.length ≤ 5000) :
    Calls Try.prog 50 #[.pointer (some ⟨p, 0, none⟩), .int .i64 (a : Int)] w (NodesPost w L) := by
  cases L with
  | nil => exact nodes_none _ _ w (Lib.hid (first_none h a (by rw [lenV_list hL ha]; rfl)))
  | cons x0 L0 =>
    have D0 := first_some h a ha (by rw [hL.count]; simp; omega)
    rw [hL.first (by simp)] at D0
    have D := Lib.hid D0
    have D1 := len_any h a
    rw [lenV_list hL ha] at D1
    have DL := Lib.hid D1
    unfold firstTold at D
    obtain ⟨i0, hi0, hz0, hz1, hz2⟩ := info_parts cint_info
    generalize hLL : x0 :: L0 = L at *
    have hpos : 0 < L.length := by rw [← hLL]; simp
    obtain ⟨w2, hmk, hown, hgrow⟩ := run_makeSlice_owned (P := Try.prog) w w.heap.size 40 3 i0 (.int .i64 0) 1 Try.underlying40 hi0 hz0 hz1 .i64 .i64 L.length (by omega) (by rw [hz2]; omega) (by unfold maxLen; omega) (Nat.le_refl _)
    have t2 : Touch [] w w2 := (Touch.refl [] w).grown hgrow (by simp)
    have H2 := Lib.hid (h.new t2)
    have H0 := Lib.hid h
    have HOW := Lib.hid hown
    have T2 := Lib.hid t2
    have HL := Lib.hid hL
    have hbl := t2.below (by simp) (Nat.le_refl w.heap.size)
    have HB := Lib.hid hbl
    clear h D0 D1 hown hgrow t2 hbl hL
    unfold NodesPost
    go_enter Try.func50, Try.ntmps50
    go_wp2_with fail
    refine (D.out).mono ?_
    rintro e w1 ⟨rfl, hw⟩
    rw [hw]
    clear hw w1
    go_wp2_with fail
    refine (DL.out).mono ?_
    rintro e w1 ⟨rfl, hw⟩
    rw [hw]
    clear hw w1
    go_wp2_with fail
    clear hmk
    go_loopw [5, 7] (fun i v wr => ∃ A B : List Nat, L = A ++ B ∧ Linked N B ∧ i = .int .i64 (headI B) ∧ wr.ownsRow w.heap.size 3 1 v A.length (nv A) ∧ Touch [] w wr) (fun _ v _ => L.length - sliceLen v)
    case atStart => exact ⟨[], L, rfl, HL.out.link, rfl, HOW.out, T2.out⟩
    case round =>
      obtain ⟨A, B, hAB, hlk, rfl, hown, ht⟩ := hrel
      obtain ⟨Av, cv, rfl⟩ := own_form hown
      cases B with
      | nil =>
        rw [List.append_nil] at hAB
        subst hAB
        have HO := Lib.hid hown
        have HT := Lib.hid ht
        have hm1 : headI [] = -1 := rfl
        rw [hm1]
        clear hown ht hlk hm1
        go_wp2_with fail
        go_ret
        exact ⟨_, rfl, HO.out, HT.out.below (by simp) (Nat.le_refl _)⟩
      | cons x B =>
        have hx := HL.out.lt x (by rw [hAB]; simp)
        have hAl : A.length < L.length := by rw [hAB]; simp
        have hnx := hlk.1
        have hH := H0.out.new ht
        have c0 := hH.c0
        have n0 := hH.cN hx
        rw [hnx] at n0
        have hkn := own_cap hH.next
        obtain ⟨lp, ln, lw, ll⟩ := hH.lts
        have HO := Lib.hid hown
        have HT := Lib.hid ht
        have HK := Lib.hid hlk.2
        have hcv : A.length ≤ cv ∧ cv ≤ maxLen := by
          rcases hown.2 with ⟨h', _⟩ | ⟨g', cap', cur, h', h1, hh, h2, h3, h4, h5⟩
          · simp at h'
            omega
          · simp only [Value.slice.injEq, true_and] at h'
            omega
        have hsz := ht.size
        have hh1 : headI (x :: B) = (x : Int) := rfl
        have hb1 : ((x : Int) == -1) = false := by simp
        have hb2 : ((x : Int) != -1) = true := by simp
        have hx1 : (x : Int) < (n : Int) := by omega
        rw [hh1]
        unfold maxLen at hkn hcv
        have HAB := Lib.hid hAB
        obtain ⟨y, hy⟩ : ∃ y, headI B = y := ⟨_, rfl⟩
        rw [hy] at n0
        have HY := Lib.hid hy
        have NX := Lib.hid (show N x = y by rw [hnx, hy])
        clear hown ht hlk hnx hH hh1 hAB hy
        go_upto_region 6 with (at_builtin; refine wpList_append_own_at _ rfl (.tmp 29) (.tmp 31) 40 rfl w.heap.size 3 i0 (.int .i64 0) 1 8 Try.underlying40 hi0 hz0 hz1 hz2 rfl (by decide) (.slice Av A.length cv) A.length (nv A) rfl (HO.out.alloc _) ⟨wr.heap.size, 0, none⟩ 1 1 [.int .i64 (x : Int)] rfl rfl (World.news_of_block (cs := #[.int .i64 (x : Int)]) (t := 3) (fr := (0, 0)) (heap_alloc_new wr _)) (by simp [Value.oneCell']) (by unfold maxLen; omega) (by omega) (by simp; omega) ?_; intro v2 w9 hown2 hgrow2 hnil2 hat2)
        have tr : Touch (Value.slice Av A.length cv).ownBlock.toList wr w9 := ((Touch.refl (Value.slice Av A.length cv).ownBlock.toList wr).alloc _).grown hgrow2 (by intro b hb; rw [hb]; simp)
        have T9 := Lib.hid (HT.out.trans tr (fun b hb => .inr (own_base HO.out (by simpa using hb))))
        have HO2 := Lib.hid (show w9.ownsRow w.heap.size 3 1 v2 (A ++ [x]).length (nv (A ++ [x])) by rw [nv_append, List.length_append]; exact hown2)
        clear tr hown2 hgrow2 hnil2 hat2 c0 n0 lp ln lw ll
        have hH := H0.out.new T9.out
        have c0 := hH.c0
        have n0 := hH.cN hx
        rw [NX.out] at n0
        obtain ⟨lp, ln, lw, ll⟩ := hH.lts
        clear hH
        obtain ⟨Aw, cv2, rfl⟩ := own_form HO2.out
        go_wp2_with fail
        go_roundw
        case rel => exact ⟨A ++ [x], B, by rw [HAB.out]; simp, HK.out, by rw [HY.out], HO2.out, T9.out⟩
        case measure => simp [sliceLen]; omega
end
end Go.Proofs.Ytalkpoeliekbfaa
