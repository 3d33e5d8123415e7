/-
  SlabOnce holds.
-/
import Derived.Test.YtcegpapfcfpblabSlabInv
import Derived.Test.YtcegpapfcfpblabSlabLives
import Derived.Deep.LoopGhost
import Derived.OwnWalk
import Derived.IntWalk
namespace Go.Proofs.Ytcegpapfcfpblab
open Go.ChangeShapes Go.WideShapes Go.ChangeAt Go.RowKit Go.Deep
set_option linter.unusedVariables false

/-- The first n numbers of a slice. -/
def ICells (w : World) (B : Nat) (A : Option Addr) (n : Nat) (X : Nat → Int) : Prop :=
  ∀ i, i < n → ∃ b off, A = some ⟨b, off, none⟩ ∧ b < B ∧ w.cell? ⟨b, off + i, none⟩ = some (.int .i64 (X i))

/-- The law's memory: the slab, ve with all handles that were ever told, vn with those that are out. -/
structure Held (W wr : World) (p g k n m c : Nat) (S K : Nat → Int) (E N : List (Nat × Int)) (ve vn : Value) : Prop where
  slab : SlabAt wr p g k n n m c S K
  oe : wr.ownsRow W.heap.size 32 2 ve E.length (hv E)
  on : wr.ownsRow W.heap.size 32 2 vn N.length (hv N)
  fe : ∀ b, ve.ownBlock = some b → b ∉ [p, g, k]
  fn : ∀ b, vn.ownBlock = some b → b ∉ [p, g, k]
  fen : ∀ b, ve.ownBlock = some b → vn.ownBlock ≠ some b
  low : W.heap.size ≤ k
  below : Below W.heap.size W wr

def Round (W : World) (p g n : Nat) (ve vn i : Value) (wr : World) : Prop := ∃ (j k m c : Nat) (S K : Nat → Int) (E N : List (Nat × Int)), i = .int .i64 j ∧ Held W wr p g k n m c S K E N ve vn ∧ Inv n m S K E N j

section
variable {W wr w' : World} {p g k n m c : Nat} {S K : Nat → Int} {E N : List (Nat × Int)} {ve vn : Value} {j : Nat}
theorem Held.carry (h : Held W wr p g k n m c S K E N ve vn) (t : Touch [] wr w') : Held W w' p g k n m c S K E N ve vn :=
  ⟨h.slab.carry t (by simp) (by simp) (by simp), t.row h.oe (by simp), t.row h.on (by simp), h.fe, h.fn, h.fen, h.low, h.below.trans (t.below (by simp) h.below.size)⟩
/-- The slab has turned; its stack may lie elsewhere now. -/
theorem Held.turned {k' m' c' : Nat} {S' K' : Nat → Int} (h : Held W wr p g k n m c S K E N ve vn) (lp : W.heap.size ≤ p) (lg : W.heap.size ≤ g) (hs : SlabAt w' p g k' n n m' c' S' K') (t : Touch [p, g, k] wr w') (hk : k' = k ∨ wr.heap.size ≤ k') :
    Held W w' p g k' n m' c' S' K' E N ve vn := by
  have hlow := h.low
  have hsz := h.below.size
  have key : ∀ {u : Value} {l : Nat} {xs : List Value}, wr.ownsRow W.heap.size 32 2 u l xs → (∀ b, u.ownBlock = some b → b ∉ [p, g, k]) → ∀ b, u.ownBlock = some b → b ∉ [p, g, k'] := fun {u l xs} ho hu b hb => by
    have h1 := own_lt ho hb
    have h2 := hu b hb
    simp at h2 ⊢
    omega
  exact ⟨hs, t.row h.oe h.fe, t.row h.on h.fn, key h.oe h.fe, key h.on h.fn, h.fen, by omega, h.below.trans (t.below (by simp; omega) hsz)⟩
/-- Another list of those that are out. -/
theorem Held.now {N' : List (Nat × Int)} {v : Value} (h : Held W wr p g k n m c S K E N ve vn) (ow : wr.ownsRow W.heap.size 32 2 v N'.length (hv N')) (fv : ∀ b, v.ownBlock = some b → b ∉ [p, g, k])
    (fev : ∀ b, ve.ownBlock = some b → v.ownBlock ≠ some b) : Held W wr p g k n m c S K E N' ve v :=
  ⟨h.slab, h.oe, ow, h.fe, fv, fev, h.low, h.below⟩
/-- One more was told. -/
theorem Held.more {o : Obj} {x : Nat × Int} {v : Value} (h : Held W wr p g k n m c S K E N ve vn) (hg : (wr.alloc o).grownBy w' ve.ownBlock) (ow : w'.ownsRow W.heap.size 32 2 v (E.length + 1) (hv E ++ [.int .i64 x.1, .int .i64 x.2]))
    (hat : v.ownBlock = ve.ownBlock ∨ v.ownBlock = some (wr.heap.size + 1)) : Held W w' p g k n m c S K (E ++ [x]) N v vn := by
  have lp := h.slab.ltp
  have lg := h.slab.ltg
  have lk := h.slab.ltk
  have hsz := h.below.size
  have t : Touch ve.ownBlock.toList wr w' := ((Touch.refl ve.ownBlock.toList wr).alloc o).grown hg (by intro b hb; rw [hb]; simp)
  have hno : ∀ b, (∀ b', ve.ownBlock = some b' → b ≠ b') → b ∉ ve.ownBlock.toList := fun b hb hm => by
    simp at hm
    exact hb b hm rfl
  have hp : ∀ b, b ∈ [p, g, k] → b ∉ ve.ownBlock.toList := fun b hb => hno b fun b' hb' e => h.fe b' hb' (e ▸ hb)
  refine ⟨h.slab.carry t (hp _ (by simp)) (hp _ (by simp)) (hp _ (by simp)), ?_, t.row h.on (fun b hb => hno b fun b' hb' e => h.fen b' hb' (e ▸ hb)), ?_, h.fn, ?_, h.low, h.below.trans (t.below ?_ hsz)⟩
  · rw [hv_append, List.length_append]
    exact ow
  · intro b hb
    rcases hat with e | e
    · exact h.fe b (e ▸ hb)
    · rw [e] at hb
      cases hb
      simp
      omega
  · intro b hb hv
    rcases hat with e | e
    · exact h.fen b (e ▸ hb) hv
    · rw [e] at hb
      cases hb
      have := own_lt h.on hv
      omega
  · intro b hb
    simp at hb
    rcases h.oe.2 with ⟨e, _⟩ | ⟨g', cap, cur, e, hg', _⟩
    · rw [e] at hb
      simp [Value.ownBlock] at hb
    · rw [e] at hb
      simp [Value.ownBlock] at hb
      omega
/-- One more is out. -/
theorem Held.out {o : Obj} {x : Nat × Int} {v : Value} (h : Held W wr p g k n m c S K E N ve vn) (hg : (wr.alloc o).grownBy w' vn.ownBlock) (ow : w'.ownsRow W.heap.size 32 2 v (N.length + 1) (hv N ++ [.int .i64 x.1, .int .i64 x.2]))
    (hat : v.ownBlock = vn.ownBlock ∨ v.ownBlock = some (wr.heap.size + 1)) : Held W w' p g k n m c S K E (N ++ [x]) ve v := by
  have h' : Held W wr p g k n m c S K N E vn ve := ⟨h.slab, h.on, h.oe, h.fn, h.fe, fun b hb he => h.fen b he hb, h.low, h.below⟩
  have r := h'.more hg ow hat
  exact ⟨r.slab, r.on, r.oe, r.fn, r.fe, fun b hb he => r.fen b he hb, r.low, r.below⟩
end

/-- append onto a row of the call's own, at a step of a region that draws; nothing may be appended. -/
theorem step_append_own {P : Program} (w : World) {ops : Array Oper} {o : Oper} {a : Act} {K : Act → World → Prop} {Q : Exit → Act → World → Prop} {E : Prop} (hgd : o.guard = none) (s x : Operand) (t : TypeId)
    (ho : o.op = .call { callee := .builtin .append, args := #[s, x], argTypes := #[t, t] })
    (base : Nat) (e : TypeId) (i : TypeInfo) (z : Value) (size bytes : Nat) (ht : P.underlying t = some (.slice e)) (hi : P.info? e = some i) (hz : i.zero = some z)
    (hsize : i.size = size) (hby : i.bytes = bytes) (hzs : z.cells.size = size) (hsz : 0 < size)
    (v : Value) (n : Nat) (xs : List Value) (hs : a.eval s = v) (hown : w.ownsRow base e size v n xs)
    (ad : Addr) (m c : Nat) (news : List Value) (hx : a.eval x = .slice (some ad) m c) (hl : news.length = m * size) (hnews : ∀ j u, news[j]? = some u → w.cell? (ad.add j) = some u) (h1 : ∀ u ∈ news, u.oneCell' = true)
    (h63 : n + m ≤ maxLen) (hbytes : (n + m) * bytes ≤ 140737488355328) (hbase : base ≤ w.heap.size)
    (h : ∀ v' w', w'.ownsRow base e size v' (n + m) (xs ++ news) → w.grownBy w' v.ownBlock → (v'.ownBlock = v.ownBlock ∨ v'.ownBlock = some w.heap.size) → K (a.put o.dst v') w') :
    if Region.wanted o (yielded ops a.tmps) = true then Oper.wp P o a w K Q else E := by
  have hw : Region.wanted o (yielded ops a.tmps) = true := by simp [Region.wanted, hgd]
  rw [if_pos hw]
  obtain ⟨v', w', hr, h2, h3, h4, h5⟩ := run_append_own_at (P := P) w base t o.type e i z size bytes ht hi hz hsize hby hzs hsz v n xs hown ad m c news hl hnews h1 h63 hbytes hbase
  unfold Oper.wp execOp
  simp only [ho, resolve, invoke, builtin, Sem.run_bind, Sem.run_pure, Result.andThen_ok, List.map_toArray, List.map_cons, List.map_nil, hs, hx, hr]
  exact h v' w' h2 h3 h5

/-- The cells of a part of a row. -/
theorem row_news {w : World} {base : Nat} {e : TypeId} {size n cap g : Nat} {xs : List Value} (h : w.ownsRow base e size (.slice (some ⟨g, 0, none⟩) n cap) n xs) (o l : Nat) :
    ∀ j u, ((xs.drop o).take l)[j]? = some u → w.cell? ((⟨g, o, none⟩ : Addr).add j) = some u := by
  intro j u hj
  rw [List.getElem?_take] at hj
  split at hj
  · rw [List.getElem?_drop] at hj
    have hadd : (⟨g, o, none⟩ : Addr).add j = ⟨g, o + j, none⟩ := by unfold Addr.add; split <;> simp_all
    have hlt := (List.getElem?_eq_some_iff.1 hj).1
    rw [h.1] at hlt
    rw [hadd, h.cellAt _ hlt, hj]
  · cases hj

/-- What the law makes of the handles that are out, when one is given back. -/
def Less (W w17 : World) (L : List (Nat × Int)) (v : Value) (wx : World) : Prop :=
  wx.ownsRow W.heap.size 32 2 v L.length (hv L) ∧ Touch [] w17 wx ∧ ∀ b, v.ownBlock = some b → w17.heap.size ≤ b

theorem less_of {W w17 w18 w19 : World} {o : Obj} {v2 : Value} {row row1 : Option Nat} {N : List (Nat × Int)} {q l : Nat} {xs : List Value} (hW : W.heap.size ≤ w17.heap.size) (hq : q < N.length) (hl : l = N.length - 1) (hrow : row = some w17.heap.size)
    (hxs : xs = hv (N.take q) ++ hv (N.drop (q + 1))) (hown : w19.ownsRow W.heap.size 32 2 v2 l xs) (g1 : (w17.alloc o).drew.grownBy w18 row) (g2 : w18.grownBy w19 row1)
    (a1 : row1 = row ∨ row1 = some (w17.heap.size + 1)) (a2 : v2.ownBlock = row1 ∨ v2.ownBlock = some w18.heap.size) : Less W w17 (N.take q ++ N.drop (q + 1)) v2 w19 := by
  have t1 : Touch [] w17 w18 := ((Touch.refl [] w17).alloc o).drew.grown g1 (by intro k hk; rw [hrow] at hk; cases hk; right; omega)
  have s1 := t1.size
  have t2 : Touch [] w17 w19 := t1.grown g2 (by
    intro k hk
    right
    rcases a1 with h | h
    · rw [h, hrow] at hk; cases hk; omega
    · rw [h] at hk; cases hk; omega)
  subst hl hxs
  refine ⟨?_, t2, fun b hb => ?_⟩
  · rw [hv_append]
    have : (N.take q ++ N.drop (q + 1)).length = N.length - 1 := by simp; omega
    rw [this]
    exact hown
  · rcases a2 with h | h
    · rcases a1 with h' | h'
      · rw [h, h', hrow] at hb; cases hb; omega
      · rw [h, h'] at hb; cases hb; omega
    · rw [h] at hb; cases hb; omega

theorem own_cap' {w : World} {base : Nat} {e : TypeId} {size n c : Nat} {A : Option Addr} {xs : List Value} (h : w.ownsRow base e size (.slice A n c) n xs) : n ≤ c ∧ c ≤ maxLen := by
  rcases h.2 with ⟨h', _⟩ | ⟨g', cap', cur, h', h1, hh, h2, h3, h4, h5⟩
  · simp at h'
    obtain ⟨_, rfl, rfl⟩ := h'
    exact ⟨Nat.le_refl _, Nat.zero_le _⟩
  · simp only [Value.slice.injEq, true_and] at h'
    obtain ⟨_, rfl⟩ := h'
    exact ⟨h2, h3⟩

theorem grown_cells2 {w w' : World} {o : Obj} {row : Option Nat} (hg : (w.alloc o).grownBy w' row) {b : Nat} {x y : Value} (hb : b < w.heap.size) (hn : ∀ b', row = some b' → b ≠ b') (h0 : w.cell? ⟨b, 0, none⟩ = some x) (h1 : w.cell? ⟨b, 1, none⟩ = some y) :
    w'.cell? ⟨b, 0, none⟩ = some x ∧ w'.cell? ⟨b, 1, none⟩ = some y :=
  (((Touch.refl row.toList w).alloc o).grown hg (by intro k hk; rw [hk]; simp)).cells2 hb (fun hm => by simp at hm; exact hn b hm rfl) h0 h1

theorem handle_info : (Try.prog.info? 32).map (fun i => (i.zero, i.size, i.bytes)) = some (some (.agg #[.int .i64 0, .int .i64 0]), 2, 16) := by kernel_rfl

set_option maxRecDepth 100000 in
set_option maxHeartbeats 6400000 in
theorem slabOnce_walk (nn : Nat) (A : Option Addr) (nl cl : Nat) (X : Nat → Int) (W : World) (hnn : nn ≤ 255) (hnl : nl ≤ maxLen) (hX : ICells W W.heap.size A nl X) :
    Calls Try.prog 4 #[.int .u8 nn, .slice A nl cl] W fun e W' => e = .returned (.bool true) ∧ Below W.heap.size W W' := by
  unfold maxLen at hnl
  have HX := Lib.hid hX
  clear hX
  have TN := fun w => Lib.hid (take_nil w)
  have GN := fun w => Lib.hid (give_nil 0 0 w)
  have LN := fun w => Lib.hid (live_nil 0 0 w)
  have FN := fun w => Lib.hid (left_nil w)
  have CN := fun w => Lib.hid (copy_nil w)
  have ON := fun w => Lib.hid (of_nil 0 w)
  go_enter Try.func4, Try.ntmps4
  go_wp2_with fail
  refine ((TN _).out).mono ?_
  rintro e w1 ⟨rfl, t1⟩
  unfold told
  go_wp2_with fail
  refine ((GN _).out).mono ?_
  rintro e w2 ⟨rfl, t2⟩
  have t2 := (t1.alloc _).trans t2 (by simp)
  clear t1
  go_wp2_with fail
  refine ((LN _).out).mono ?_
  rintro e w3 ⟨rfl, t3⟩
  have t3 := t2.trans t3 (by simp)
  clear t2
  go_wp2_with fail
  refine ((FN _).out).mono ?_
  rintro e wx ⟨rfl, rfl⟩
  go_wp2_with fail
  refine ((CN _).out).mono ?_
  rintro e wx ⟨rfl, rfl⟩
  go_wp2_with fail
  refine ((ON _).out).mono ?_
  rintro e w4 ⟨rfl, t4⟩
  unfold told
  have t4 := t3.trans t4 (by simp)
  clear t3 TN GN LN FN CN ON
  by_cases h60 : 60 < nl
  · have HL := Lib.hid (slabLives_any (w4.alloc (.cells #[.int .i64 0, .int .i64 0] 32)))
    go_wp2_with fail
    refine (HL.out).mono ?_
    rintro e w5 ⟨rfl, t5⟩
    go_wp2
    go_ret
    exact ⟨rfl, ((t4.alloc _).trans (Touch.ofBelow (S := []) t5) (by simp)).below (by simp) (Nat.le_refl _)⟩
  · have h60' : nl ≤ 60 := by omega
    clear h60
    go_wp2_with fail
    obtain ⟨n, hn1, hn2, hn⟩ : ∃ n : Nat, 1 ≤ n ∧ n ≤ 30 ∧ 1 + (nn : Int) % 30 = n := ⟨1 + nn % 30, by omega, by omega, by omega⟩
    rw [hn]
    clear hn
    refine (new_yes n _ hn1 (by omega)).mono ?_
    rintro e w5 ⟨v, rfl, p, g, k0, rfl, hs5, t5, lp, lg, lk⟩
    rw [alloc_size] at lp lg lk
    have l4 := t4.size
    have HO := Lib.hid (show Held W w5 p g k0 n n n (fun _ => 0) (fun i => (n : Int) - 1 - i) [] [] (.slice none 0 0) (.slice none 0 0) from
      ⟨hs5, World.ownsRow_nil _ _ _ _, World.ownsRow_nil _ _ _ _, by simp [Value.ownBlock], by simp [Value.ownBlock], by simp [Value.ownBlock], by omega, ((t4.alloc _).trans t5 (by simp)).below (by simp) (Nat.le_refl _)⟩)
    have lp : W.heap.size ≤ p := by omega
    have lg : W.heap.size ≤ g := by omega
    clear hs5 t5 t4 lk
    go_wp2_with fail
    go_loopw [12, 13, 73] (fun ve vn i wr => Round W p g n ve vn i wr ∧ (intOf i).toNat ≤ nl) (fun _ _ i _ => nl - (intOf i).toNat)
    case atStart => exact ⟨⟨0, k0, n, n, _, _, [], [], rfl, HO.out, inv_new hn1⟩, by simp [intOf]⟩
    case round =>
      obtain ⟨⟨j, k, m, c, S, K, E, N, rfl, ho, hinv⟩, hj⟩ := hrel
      simp [intOf] at hj
      clear HO
      have HO := Lib.hid ho
      have HV := Lib.hid hinv
      have hsum := hinv.sum
      have hfew := hinv.few
      have bp := ho.slab.ltp
      have bg := ho.slab.ltg
      have bk := ho.slab.ltk
      clear hinv
      by_cases hlt : j < nl
      · obtain ⟨b, off, hA, hbB, hc⟩ := HX.out j hlt
        rw [← ho.below.cell (p := ⟨b, _, none⟩) hbB] at hc
        subst hA
        generalize X j = x at *
        have szE := ho.below.size
        by_cases hx : 0 ≤ x
        · obtain ⟨q, rfl⟩ : ∃ q : Nat, x = q := ⟨x.toNat, by omega⟩
          clear hx
          by_cases hq : N.length ≤ q
          · obtain ⟨Av, cv, rfl⟩ : ∃ Av cv, u13 = .slice Av N.length cv := by
              rcases ho.on.2 with ⟨h1, h2⟩ | ⟨g', cap, cur, h1, _⟩
              · exact ⟨_, _, by rw [h1, h2]⟩
              · exact ⟨_, _, h1⟩
            clear ho
            go_wp2_with fail
            go_roundw
            case rel => exact ⟨⟨j + 1, k, m, c, S, K, E, N, by go_num, HO.out, HV.out.next⟩, by simp [intOf]; omega⟩
            case measure => simp [intOf]; omega
          · obtain ⟨gn, cv, rfl, _, hgn⟩ := ho.on.form (by omega)
            obtain ⟨x, hx⟩ : ∃ x, N[q]? = some x := ⟨N[q]'(by omega), List.getElem?_eq_getElem _⟩
            obtain ⟨y0, y1⟩ := hv_get hx
            have z0 := ho.on.cellAt (q * 2) (by omega)
            have z1 := ho.on.cellAt (q * 2 + 1) (by omega)
            rw [y0] at z0
            rw [y1] at z1
            have hql : q < N.length := by omega
            have hNl : N.length ≤ 30 := by omega
            have hcv := own_cap ho.on
            unfold maxLen at hcv
            clear ho y0 y1 hq
            obtain ⟨i0, hi0, hz0, hz1, hz2⟩ := info_parts handle_info
            have HI := Lib.hid hz0
            go_upto_region 17 with fail
            generalize hw17 : wr.alloc (.cells #[.int .i64 x.1, .int .i64 x.2] 32) = w17 at *
            have hbx : Touch [] wr w17 := by rw [← hw17]; exact (Touch.refl [] wr).alloc _
            have o17 := Lib.hid (HO.out.carry hbx)
            have sz17 : wr.heap.size < w17.heap.size := by rw [← hw17, alloc_size]; omega
            have HB := Lib.hid (by rw [← hw17]; exact box_cells wr (.int .i64 x.1) (.int .i64 x.2) 32 : w17.cell? ⟨wr.heap.size, 0, none⟩ = some (.int .i64 x.1) ∧ w17.cell? ⟨wr.heap.size, 1, none⟩ = some (.int .i64 x.2))
            have HX1 := Lib.hid hx
            clear hbx hw17 z0 z1 hc hx
            go_cut [13] (fun v wx => Less W w17 (N.take q ++ N.drop (q + 1)) v wx)
            case first =>
              have R1 := Lib.hid (World.ownsRow_lit (base := W.heap.size) (e := 32) (size := 2) w17 #[] 0 (by omega) (by unfold maxLen; omega) rfl).drew
              have R2 := Lib.hid (by rw [hv_length, List.length_take]; omega : (hv (N.take q)).length = q * 2)
              have R3 := Lib.hid (show ∀ j u, (hv (N.take q))[j]? = some u → (w17.alloc (.cells #[] 32)).drew.cell? ((⟨gn, 0, none⟩ : Addr).add j) = some u by
                have := row_news (((Touch.refl [] w17).alloc (.cells #[] 32)).drew.row o17.out.on (by simp)) 0 (q * 2)
                rwa [List.drop_zero, hv_take] at this)
              have R4 := Lib.hid (show W.heap.size ≤ (w17.alloc (.cells #[] 32)).drew.heap.size by show W.heap.size ≤ (w17.alloc _).heap.size; rw [alloc_size]; omega)
              have R5 := Lib.hid (by rw [hv_length, List.length_drop] : (hv (N.drop (q + 1))).length = (N.length - (q + 1)) * 2)
              have R6 := Lib.hid (show ∀ w18, (w17.alloc (.cells #[] 32)).drew.grownBy w18 (some w17.heap.size) → W.heap.size ≤ w18.heap.size from fun w18 h => Nat.le_trans R4.out h.size)
              have R7 := Lib.hid (show ∀ w18, (w17.alloc (.cells #[] 32)).drew.grownBy w18 (some w17.heap.size) → ∀ j u, (hv (N.drop (q + 1)))[j]? = some u → w18.cell? ((⟨gn, (q + 1) * 2, none⟩ : Addr).add j) = some u from fun w18 h => by
                have := row_news ((((Touch.refl [w17.heap.size] w17).alloc (.cells #[] 32)).drew.grown h (by simp)).row o17.out.on (by simp [Value.ownBlock]; omega)) ((q + 1) * 2) (N.length * 2)
                rwa [hv_drop, List.take_of_length_le (by rw [hv_length, List.length_drop]; omega)] at this)
              have f1 : q ≤ cv := by omega
              have f2 : q + 1 ≤ N.length := by omega
              have f3 : N.length ≤ cv := by omega
              have f4 : (0 : Int) ≤ (q : Int) + 1 := by omega
              have f5 : ((q : Int) + 1).toNat = q + 1 := by omega
              have f7 : (q : Int) + 1 ≤ (N.length : Int) := by omega
              have f6 : IntKind.i64.wrap ((q : Int) + 1) = (q : Int) + 1 := IntWalk.i64_in _ (by omega)
              obtain ⟨A2, hA2, R8⟩ : ∃ A2, (if cv = q + 1 then some (⟨gn, 0, none⟩ : Addr) else some ⟨gn, (q + 1) * 2, none⟩) = some A2 ∧
                  Hid (∀ w18, (w17.alloc (.cells #[] 32)).drew.grownBy w18 (some w17.heap.size) → ∀ j u, (hv (N.drop (q + 1)))[j]? = some u → w18.cell? (A2.add j) = some u) := by
                by_cases hcq : cv = q + 1
                · refine ⟨_, if_pos hcq, Lib.hid fun w18 _ j u h => ?_⟩
                  rw [List.drop_eq_nil_of_le (by omega)] at h
                  cases h
                · exact ⟨_, if_neg hcq, Lib.hid R7.out⟩
              go_region_law (first | (refine step_append_own _ (by rfl) (.tmp 87) (.tmp 90) 47 (by rfl) W.heap.size 32 i0 _ 2 16 Try.underlying47 hi0 hz0 hz1 hz2 rfl (by omega) (.slice (some ⟨w17.heap.size, 0, none⟩) 0 0) 0 [] (by rfl) R1.out ⟨gn, 0, none⟩ q cv (hv (N.take q)) (by rfl) R2.out R3.out (hv_one _) (by unfold maxLen; omega) (by omega) R4.out ?_; intro v1 w18 hown1 hgrow1 hat1) | (refine step_append_own _ (by rfl) (.tmp 91) (.tmp 95) 47 (by rfl) W.heap.size 32 i0 _ 2 16 Try.underlying47 hi0 hz0 hz1 hz2 rfl (by omega) v1 (0 + q) ([] ++ hv (N.take q)) (by rfl) hown1 A2 (N.length - (q + 1)) (cv - (q + 1)) (hv (N.drop (q + 1))) (by rfl) R5.out (R8.out _ hgrow1) (hv_one _) (by unfold maxLen; omega) (by omega) (R6.out _ hgrow1) ?_; intro v2 w19 hown2 hgrow2 hat2))
              all_goals
                  go_wp2_with fail
                  go_meet
                  exact less_of (by omega) hql (by omega) rfl (by simp) hown2 hgrow1 hgrow2 (by simpa [Value.ownBlock] using hat1) hat2
            case rest =>
              obtain ⟨L1, L2, L3⟩ := hcut
              obtain ⟨A, B, hN, hA, hB⟩ : ∃ A B, N = A ++ x :: B ∧ N.take q = A ∧ N.drop (q + 1) = B := by
                refine ⟨_, _, ?_, rfl, rfl⟩
                obtain ⟨h1, h2⟩ := List.getElem?_eq_some_iff.1 HX1.out
                rw [← h2, ← List.drop_eq_getElem_cons h1, List.take_append_drop]
              rw [hA, hB] at L1
              subst hN
              clear hA hB HX1
              obtain ⟨d0, d1⟩ := L2.cells2 (b := wr.heap.size) sz17 (by simp) HB.out.1 HB.out.2
              have hal := HV.out.alive (x := x) (by simp)
              have hxn := (HV.out.out x (by simp)).1
              have hx2 := (HV.out.out x (by simp)).2.2
              have htu := HV.out.turns x.1 hxn
              rw [hx2] at htu
              have oc := (o17.out.carry L2).now L1 (fun b hb => by have := L3 b hb; simp; omega) (fun b hb he => by have := L3 b he; have := own_lt o17.out.oe hb; omega)
              have q1 := live_any oc.slab x.1 x.2
              rw [hal] at q1
              have Q1 := Lib.hid q1
              have OC := Lib.hid oc
              have sc := L2.size
              have HAL := Lib.hid hal
              clear q1 oc L1 L2 L3 hal HB o17 HO hx2
              go_wp2_with fail
              refine (Q1.out).mono ?_
              rintro e w20 ⟨rfl, t20⟩
              have oc := OC.out.carry t20
              have s20 := t20.size
              obtain ⟨e0, e1⟩ := t20.cells2 (b := wr.heap.size) (by omega) (by simp) d0 d1
              clear d0 d1
              have Q2 := Lib.hid (give_yes oc.slab x.1 x.2 HAL.out (by omega) (by omega) (by omega))
              have OC2 := Lib.hid oc
              clear oc t20 Q1 OC HAL
              go_wp2_with fail
              refine (Q2.out).mono ?_
              rintro e w21 ⟨k', c', rfl, hs21, t21, hk'⟩
              have s21 := t21.size
              obtain ⟨d0, d1⟩ := t21.cells2 (b := wr.heap.size) (by omega) (by simp; omega) e0 e1
              have oc := OC2.out.turned lp lg hs21 t21 hk'
              have q3 := live_any hs21 x.1 x.2
              rw [dead_after] at q3
              have Q3 := Lib.hid q3
              have OC3 := Lib.hid oc
              clear oc t21 hs21 q3 Q2 OC2 e0 e1 hk'
              go_wp2_with fail
              refine (Q3.out).mono ?_
              rintro e w22 ⟨rfl, t22⟩
              have oc := OC3.out.carry t22
              have s22 := t22.size
              obtain ⟨e0, e1⟩ := t22.cells2 (b := wr.heap.size) (by omega) (by simp) d0 d1
              have Q4 := Lib.hid (give_no oc.slab x.1 x.2 dead_after)
              have OC4 := Lib.hid oc
              clear oc t22 Q3 OC3 d0 d1
              go_wp2_with fail
              refine (Q4.out).mono ?_
              rintro e w23 ⟨rfl, t23⟩
              have OC5 := Lib.hid (OC4.out.carry t23)
              clear t23 OC4 Q4 e0 e1
              go_wp2_with fail
              go_roundw
              case rel => exact ⟨⟨j + 1, k', m + 1, c', _, _, E, A ++ B, by go_num, OC5.out, HV.out.give⟩, by simp [intOf]; omega⟩
              case measure => simp [intOf]; omega
        · have hx0 : x < 0 := by omega
          clear hx
          obtain ⟨An, cn, rfl⟩ : ∃ Av cv, u13 = .slice Av N.length cv := by
            rcases ho.on.2 with ⟨h1, h2⟩ | ⟨g', cap, cur, h1, _⟩
            · exact ⟨_, _, by rw [h1, h2]⟩
            · exact ⟨_, _, h1⟩
          obtain ⟨Ae, ce, rfl⟩ : ∃ Av cv, u12 = .slice Av E.length cv := by
            rcases ho.oe.2 with ⟨h1, h2⟩ | ⟨g', cap, cur, h1, _⟩
            · exact ⟨_, _, by rw [h1, h2]⟩
            · exact ⟨_, _, h1⟩
          rcases m with _ | m
          · have Q1 := Lib.hid (take_none ho.slab)
            have hNn : n ≤ N.length := by omega
            have hNb : decide (N.length < n) = false := by simp; omega
            clear ho
            go_wp2_with fail
            refine (Q1.out).mono ?_
            rintro e w20 ⟨rfl, t20⟩
            unfold told
            have OC := Lib.hid ((HO.out.carry t20).carry ((Touch.refl [] _).alloc (.cells #[.int .i64 0, .int .i64 0] 32)))
            clear t20 Q1 HO
            go_wp2_with fail
            go_roundw
            case rel => exact ⟨⟨j + 1, k, 0, c, S, K, E, N, by go_num, OC.out, HV.out.next⟩, by simp [intOf]; omega⟩
            case measure => simp [intOf]; omega
          · obtain ⟨a, hKa, han, hSa⟩ := HV.out.free m (by omega)
            have Q1 := Lib.hid (take_some ho.slab a hKa han)
            obtain ⟨V1, V2⟩ := HV.out.take a hKa han hSa
            have V1 := Lib.hid V1
            have V2 := Lib.hid V2
            generalize S (a * 2 + 1) = t at *
            have hNn : N.length < n := by omega
            have hNb : decide (N.length < n) = true := by simp; omega
            have hEl : E.length ≤ 60 := by omega
            have hce := own_cap' ho.oe
            clear ho hKa hSa
            go_wp2_with fail
            refine (Q1.out).mono ?_
            rintro e w20 ⟨rfl, hs20, t20⟩
            unfold told
            have o20 := HO.out.turned lp lg hs20 (t20.mono (S' := [p, g, k]) (by simp)) (.inl rfl)
            have s20 := t20.size
            have OC := Lib.hid (o20.carry ((Touch.refl [] _).alloc (.cells #[.int .i64 a, .int .i64 t] 32)))
            have HB := Lib.hid (box_cells w20 (.int .i64 a) (.int .i64 t) 32)
            have FBE := Lib.hid (show ∀ b', (Value.slice Ae E.length ce).ownBlock = some b' → w20.heap.size ≠ b' from fun b' hb' e => by have := own_lt o20.oe hb'; omega)
            clear hs20 t20 o20 Q1 HO
            go_wp2_with fail
            obtain ⟨i0, hi0, hz0, hz1, hz2⟩ := info_parts handle_info
            have lt20 : w20.heap.size < (w20.alloc (.cells #[.int .i64 a, .int .i64 t] 32)).heap.size := by rw [alloc_size]; omega
            generalize w20.alloc (.cells #[.int .i64 a, .int .i64 t] 32) = wt at *
            go_loopw [132] (fun i wl => ∃ i' : Nat, i' ≤ E.length ∧ i = .int .i64 i' ∧ Touch [] wt wl) (fun i _ => E.length - (intOf i).toNat)
            case atStart => exact ⟨0, Nat.zero_le _, rfl, Touch.refl _ _⟩
            case round =>
              obtain ⟨i', hi', rfl, tl⟩ := hrel
              have ol := OC.out.carry tl
              have sl := tl.size
              obtain ⟨d0, d1⟩ := tl.cells2 (b := w20.heap.size) lt20 (by simp) HB.out.1 HB.out.2
              by_cases hlt2 : i' < E.length
              · obtain ⟨ge, ce', hAe, _, hge⟩ := ol.oe.form (by omega)
                simp only [Value.slice.injEq, true_and] at hAe
                obtain ⟨rfl, rfl⟩ := hAe
                obtain ⟨y, hy⟩ : ∃ y, E[i']? = some y := ⟨E[i']'hlt2, List.getElem?_eq_getElem _⟩
                obtain ⟨y0, y1⟩ := hv_get hy
                have z0 := ol.oe.cellAt (i' * 2) (by omega)
                have z1 := ol.oe.cellAt (i' * 2 + 1) (by omega)
                rw [y0] at z0
                rw [y1] at z1
                have hne := V2.out y (List.mem_of_getElem? hy)
                have hne' : ¬ ((y.1 : Int) = (a : Int) ∧ y.2 = t) := fun ⟨h1, h2⟩ => hne (Prod.ext (by show y.1 = a; omega) h2)
                generalize (y.1 : Int) = r1 at *
                generalize y.2 = r2 at *
                have ll : w20.heap.size < wr.heap.size := by omega
                have TL := Lib.hid (tl.alloc (.cells #[.int .i64 r1, .int .i64 r2] 32))
                unfold maxLen at hce
                clear ol hy y0 y1 hne tl OC HB V1 V2
                by_cases h1 : r1 = a
                · have b1 : (r1 == (a : Int)) = true := by simpa using h1
                  have b2 : (r2 == t) = false := by rw [beq_eq_false_iff_ne]; exact fun h2 => hne' ⟨h1, h2⟩
                  clear h1 hne'
                  go_wp2_with fail
                  go_roundw
                  case rel => exact ⟨i' + 1, by omega, by go_num, TL.out⟩
                  case measure => simp [intOf]; omega
                · have b1 : (r1 == (a : Int)) = false := by simpa using h1
                  clear h1 hne'
                  go_wp2_with fail
                  go_roundw
                  case rel => exact ⟨i' + 1, by omega, by go_num, TL.out⟩
                  case measure => simp [intOf]; omega
              · obtain rfl : i' = E.length := by omega
                have OL := Lib.hid ol
                have ll : w20.heap.size < wr.heap.size := by omega
                have bl := ol.below.size
                clear ol tl OC HB
                have FB := Lib.hid (show ∀ b', (Value.slice Ae E.length ce).ownBlock = some b' → w20.heap.size ≠ b' from FBE.out)
                go_wp2_with (first | (at_builtin; refine wpList_append_own_at _ rfl (.tmp 140) (.tmp 142) 47 rfl W.heap.size 32 i0 _ 2 16 Try.underlying47 hi0 hz0 hz1 hz2 rfl (by decide) (.slice Ae E.length ce) E.length (hv E) rfl (OL.out.oe.alloc _) ⟨wr.heap.size, 0, none⟩ 1 1 [.int .i64 a, .int .i64 t] rfl rfl (World.news_of_block (cs := #[.int .i64 a, .int .i64 t]) (t := 32) (fr := (0, 0)) (heap_alloc_new wr _)) (by simp [Value.oneCell']) (by unfold maxLen; omega) (by omega) (by rw [alloc_size]; omega) ?_; intro ve w30 hown hgrow hnil hat; obtain ⟨e0, e1⟩ := grown_cells2 hgrow ll FB.out d0 d1; have OM := Lib.hid (OL.out.more (x := (a, t)) hgrow hown (by rw [alloc_size] at hat; exact hat)); have lm : w20.heap.size < w30.heap.size := (by have := hgrow.size; rw [alloc_size] at this; omega); have bm := OM.out.below.size; clear hown hgrow hnil hat) | (at_builtin; refine wpList_append_own_at _ rfl (.tmp 144) (.tmp 146) 47 rfl W.heap.size 32 i0 _ 2 16 Try.underlying47 hi0 hz0 hz1 hz2 rfl (by decide) (.slice An N.length cn) N.length (hv N) rfl (OM.out.on.alloc _) ⟨w30.heap.size, 0, none⟩ 1 1 [.int .i64 a, .int .i64 t] rfl rfl (World.news_of_block (cs := #[.int .i64 a, .int .i64 t]) (t := 32) (fr := (0, 0)) (heap_alloc_new w30 _)) (by simp [Value.oneCell']) (by unfold maxLen; omega) (by omega) (by rw [alloc_size]; omega) ?_; intro vn w31 hown2 hgrow2 hnil2 hat2; have OM2 := Lib.hid (OM.out.out (x := (a, t)) hgrow2 hown2 (by rw [alloc_size] at hat2; exact hat2)); clear hown2 hgrow2 hnil2 hat2))
                go_roundw
                case rel => exact ⟨⟨j + 1, k, m, c, _, _, _, _, by go_num, OM2.out, V1.out⟩, by simp [intOf]; omega⟩
                case measure => simp [intOf]; omega
      · obtain ⟨An, cn, rfl⟩ : ∃ Av cv, u13 = .slice Av N.length cv := by
          rcases ho.on.2 with ⟨h1, h2⟩ | ⟨g', cap, cur, h1, _⟩
          · exact ⟨_, _, by rw [h1, h2]⟩
          · exact ⟨_, _, h1⟩
        have hcn := own_cap' ho.on
        unfold maxLen at hcn
        clear ho HX
        go_wp2_with fail
        go_loopw [151] (fun i wl => ∃ (i' k m c : Nat) (S K : Nat → Int), i' ≤ N.length ∧ i = .int .i64 i' ∧ Held W wl p g k n m c S K E N u12 (.slice An N.length cn) ∧ Inv n m S K E (N.drop i') (j + i')) (fun i _ => N.length - (intOf i).toNat)
        case atStart => exact ⟨0, k, m, c, S, K, Nat.zero_le _, rfl, HO.out, HV.out⟩
        case round =>
          clear HO HV
          obtain ⟨i', k, m, c, S, K, hi', rfl, hh, hv'⟩ := hrel
          have HV := Lib.hid hv'
          have bp := hh.slab.ltp
          have bg := hh.slab.ltg
          have bk := hh.slab.ltk
          have bw := hh.below.size
          by_cases hlt2 : i' < N.length
          · obtain ⟨gn, cn', hAn, _, hgn⟩ := hh.on.form (by omega)
            simp only [Value.slice.injEq, true_and] at hAn
            obtain ⟨rfl, rfl⟩ := hAn
            obtain ⟨x, hx⟩ : ∃ x, N[i']? = some x := ⟨N[i']'hlt2, List.getElem?_eq_getElem _⟩
            have hdr : N.drop i' = [] ++ x :: N.drop (i' + 1) := by
              obtain ⟨h1, h2⟩ := List.getElem?_eq_some_iff.1 hx
              rw [← h2]
              exact List.drop_eq_getElem_cons h1
            rw [hdr] at hv'
            obtain ⟨y0, y1⟩ := hv_get hx
            have z0 := hh.on.cellAt (i' * 2) (by omega)
            have z1 := hh.on.cellAt (i' * 2 + 1) (by omega)
            rw [y0] at z0
            rw [y1] at z1
            have hal := hv'.alive (x := x) (by simp)
            have hxn := (hv'.out x (by simp)).1
            have hx2 := (hv'.out x (by simp)).2.2
            have htu := hv'.turns x.1 hxn
            rw [hx2] at htu
            have hsum2 := hv'.sum
            have h1 := hh.carry ((Touch.refl [] _).alloc (.cells #[.int .i64 x.1, .int .i64 x.2] 32))
            have Q1 := Lib.hid (give_yes h1.slab x.1 x.2 hal (by omega) (by omega) (by omega))
            have H1 := Lib.hid h1
            have G1 := Lib.hid hv'.give
            clear hh hv' HV hx hdr y0 y1 hal hx2 h1
            go_wp2_with fail
            refine (Q1.out).mono ?_
            rintro e w21 ⟨k', c', rfl, hs21, t21, hk'⟩
            have H2 := Lib.hid (H1.out.turned lp lg hs21 t21 hk')
            clear hs21 t21 hk' H1 Q1
            go_wp2_with fail
            go_roundw
            case rel => exact ⟨i' + 1, k', m + 1, c', _, _, by omega, by go_num, H2.out, G1.out⟩
            case measure => simp [intOf]; omega
          · obtain rfl : i' = N.length := by omega
            have hmn := hv'.sum
            rw [List.drop_length] at hmn
            simp at hmn
            subst hmn
            have Q1 := Lib.hid (left_any hh.slab)
            have Q2 := Lib.hid (slabLives_any wr)
            have HB := Lib.hid hh.below
            clear hh hv' HV
            go_wp2_with fail
            refine (Q1.out).mono ?_
            rintro e wr ⟨rfl, rfl⟩
            go_wp2_with fail
            refine (Q2.out).mono ?_
            rintro e w9 ⟨rfl, t9⟩
            go_wp2
            go_ret
            exact ⟨rfl, HB.out.trans (t9.mono (by omega))⟩
end Go.Proofs.Ytcegpapfcfpblab
