/- Merge: the program's. -/
import Derived.Test.YtmdoafmgakmjkaaMgTold
import Derived.Deep.LoopGhost
import Derived.WalkMore
import Derived.Deep.RegionHeld3
namespace Go.Proofs.Ytmdoafmgakmjkaa
open Go.RowKit Go.Shelf
set_option linter.unusedVariables false
set_option maxRecDepth 100000

/-- Which list has the least first one, of the first ones of so many. -/
def MinAt (L : List (List EntS)) (k : Nat) (d : Int) : Prop := (d < 0 ∧ -1 ≤ d ∧ minL (L.take k) = none) ∨ ∃ (j : Nat) (x : EntS) (t : List EntS), d = (j : Nat) ∧ j < k ∧ L[j]? = some (x :: t) ∧ minL (L.take k) = some x
theorem minAt_zero (L : List (List EntS)) : MinAt L 0 (-1) := Or.inl ⟨by omega, by omega, rfl⟩
theorem minAt_empty {L : List (List EntS)} {k : Nat} {d : Int} (h : L[k]? = some []) (hm : MinAt L k d) : MinAt L (k + 1) d := by
  unfold MinAt at *
  rw [minL_take h]
  rcases hm with ⟨h1, h2, h3⟩ | ⟨j, x, t, h1, h2, h3, h4⟩
  · exact Or.inl ⟨h1, h2, by rw [h3]; rfl⟩
  · exact Or.inr ⟨j, x, t, h1, by omega, h3, by rw [h4]; rfl⟩
theorem minAt_first {L : List (List EntS)} {k : Nat} {d : Int} {x : EntS} {t : List EntS} (h : L[k]? = some (x :: t)) (hm : MinAt L k d) (hd : d < 0) : MinAt L (k + 1) (k : Nat) := by
  unfold MinAt at *
  rw [minL_take h]
  rcases hm with ⟨h1, h2, h3⟩ | ⟨j, y, u, h1, h2, h3, h4⟩
  · exact Or.inr ⟨k, x, t, rfl, Nat.lt_succ_self _, h, by rw [h3]; rfl⟩
  · omega
theorem minAt_other {L : List (List EntS)} {k j : Nat} {x y : EntS} {t u : List EntS} (h : L[k]? = some (x :: t)) (hm : MinAt L k (j : Nat)) (hj : L[j]? = some (y :: u)) : MinAt L (k + 1) (if lessE x y = true then (k : Nat) else (j : Nat)) := by
  unfold MinAt at *
  rw [minL_take h]
  rcases hm with ⟨h1, h2, h3⟩ | ⟨i, z, v, h1, h2, h3, h4⟩
  · omega
  · obtain rfl : j = i := by omega
    rw [hj] at h3
    obtain ⟨rfl, rfl⟩ := List.cons.inj (Option.some.inj h3)
    rw [h4]
    split
    · rename_i hl
      exact Or.inr ⟨k, x, t, rfl, Nat.lt_succ_self _, h, if_pos hl⟩
    · rename_i hl
      exact Or.inr ⟨j, y, u, rfl, by omega, hj, if_neg hl⟩
/-- None of the first ones of so many lists was told last. -/
def NoLast (T : List EntS) (L : List (List EntS)) (k : Nat) : Prop := ∀ (i : Nat) (x : EntS) (t : List EntS), i < k → L[i]? = some (x :: t) → T.getLast? ≠ some x
theorem noLast_zero (T : List EntS) (L : List (List EntS)) : NoLast T L 0 := fun i x t h => absurd h (Nat.not_lt_zero _)
theorem noLast_empty {T : List EntS} {L : List (List EntS)} {k : Nat} (h : L[k]? = some []) (hn : NoLast T L k) : NoLast T L (k + 1) := fun i x t hi hx => by
  rcases Nat.lt_or_ge i k with c | c
  · exact hn i x t c hx
  · obtain rfl : i = k := by omega
    rw [h] at hx
    cases hx
theorem noLast_more {T : List EntS} {L : List (List EntS)} {k : Nat} {x : EntS} {t : List EntS} (h : L[k]? = some (x :: t)) (hx : T.getLast? ≠ some x) (hn : NoLast T L k) : NoLast T L (k + 1) := fun i y u hi hy => by
  rcases Nat.lt_or_ge i k with c | c
  · exact hn i y u c hy
  · obtain rfl : i = k := by omega
    rw [h] at hy
    obtain ⟨rfl, rfl⟩ := List.cons.inj (Option.some.inj hy)
    exact hx
theorem noLast_all {T : List EntS} {L : List (List EntS)} (hn : NoLast T L L.length) : ∀ l ∈ L, ∀ x t, l = x :: t → T.getLast? ≠ some x := fun l hl x t ht => by
  obtain ⟨i, hi⟩ := List.getElem?_of_mem hl
  have := (List.getElem?_eq_some_iff.1 hi).1
  subst ht
  exact hn i x t this hi
theorem minAt_all {L : List (List EntS)} {d : Int} (h : MinAt L L.length d) : (d < 0 ∧ -1 ≤ d ∧ minL L = none) ∨ ∃ (j : Nat) (x : EntS) (t : List EntS), d = (j : Nat) ∧ j < L.length ∧ L[j]? = some (x :: t) ∧ minL L = some x := by
  unfold MinAt at h
  rw [List.take_length] at h
  exact h
theorem els_at {L : List LstS} {k : Nat} {y : LstS} (h : L[k]? = some y) : (els L)[k]? = some y.l := by unfold els; rw [List.getElem?_map, h]; rfl
theorem els_length (L : List LstS) : (els L).length = L.length := List.length_map _
theorem els_set (L : List LstS) (i : Nat) (x : LstS) : els (L.set i x) = (els L).set i x.l := List.map_set
theorem Each.set {w : World} {L : List LstS} (h : Each w L) {i : Nat} {x : LstS} (hx : EntsIn w x.v x.l) : Each w (L.set i x) := fun y hy => by
  rcases List.mem_or_eq_of_mem_set hy with hy | rfl
  · exact h y hy
  · exact hx
/-- What holds ahead of each round. -/
def MgAt (w : World) (A1 : Option Addr) (n c1 : Nat) (R : List EntS) (g : Nat) (u : Value) (wr : World) : Prop := ∃ (T : List EntS) (Lc : List LstS) (A : Option Addr) (c : Nat), u = .slice A T.length c ∧
  EntRow wr w.heap.size (.slice A T.length c) T ∧ LRow wr w.heap.size (.slice A1 n c1) Lc ∧ Lc.length = n ∧ Each w Lc ∧ Goes g T (els Lc) ∧ finL T (els Lc) = R ∧ Below w.heap.size w wr
theorem MgAt.start {w w1 : World} {A1 : Option Addr} {c1 : Nat} {L : List LstS} (h : LRow w1 w.heap.size (.slice A1 L.length c1) L) (he : Each w L) (hb : Below w.heap.size w w1) : MgAt w A1 L.length c1 (mergeE (els L)) (2 * totL (els L) + 1) (.slice none 0 0) w1 :=
  ⟨[], L, none, 0, rfl, EntRow.nil _ _, h, rfl, he, goes_start _, rfl, hb⟩

/-- The last one that was told is taken away. -/
theorem MgAt.drop {w w2 : World} {n c1 c2 g go k tl c' : Nat} {A2 B' : Option Addr} {R T : List EntS} {Lc : List LstS} {x : EntS} {t : List EntS}
    (hT : EntRow w2 w.heap.size (.slice A2 T.length c2) T) (hr : LRow w2 w.heap.size (.slice (some ⟨g, 0, none⟩) n c1) Lc) (hlen : Lc.length = n) (he : Each w Lc) (hgo : Goes go T (els Lc)) (hfin : finL T (els Lc) = R) (hb : Below w.heap.size w w2)
    (htl : tl = T.length) (hg : w.heap.size ≤ g) (hx : (els Lc)[k]? = some (x :: t)) (hq : T.getLast? = some x) (hp : EntsIn w (.slice B' t.length c') t) :
    0 < go ∧ MgAt w (some ⟨g, 0, none⟩) n c1 R (go - 1) (.slice A2 tl c2) (w2.setCell ⟨g, k, none⟩ (.slice B' t.length c')) := by
  have h1 := goes_drop hgo hx
  subst htl
  refine ⟨h1.1, T, Lc.set k ⟨.slice B' t.length c', t⟩, A2, c2, rfl, EntRow.far_l hT hr, LRow.put hr hlen.symm ⟨.slice B' t.length c', t⟩, by rw [List.length_set, hlen], he.set hp, ?_, ?_, hb.setCell hg _⟩
  · rw [els_set]
    exact h1.2
  · rw [els_set, fin_drop hq hx]
    exact hfin
/-- The least one is told. -/
theorem MgAt.add {w w2 : World} {n c1 c2 go tl : Nat} {A1 A2 : Option Addr} {R T : List EntS} {Lc : List LstS} {x : EntS}
    (hT : EntRow w2 w.heap.size (.slice A2 T.length c2) T) (hr : LRow w2 w.heap.size (.slice A1 n c1) Lc) (hlen : Lc.length = n) (he : Each w Lc) (hgo : Goes go T (els Lc)) (hfin : finL T (els Lc) = R) (hb : Below w.heap.size w w2)
    (htl : tl = T.length) (hm : minL (els Lc) = some x) (hno : ∀ l ∈ els Lc, ∀ x t, l = x :: t → T.getLast? ≠ some x) (ht : T.length + 1 ≤ 1000000) :
    0 < go ∧ ∃ u w', (Builtin.append_ #[25, 25] 25 #[.slice A2 tl c2, .slice (some ⟨w2.heap.size, 0, none⟩) 1 1]).run Try.prog (w2.alloc (.cells #[.int .u64 (x.h : Nat), .int .i64 x.v, .int .i64 x.p] 30)) = .ok u w' ∧ MgAt w A1 n c1 R (go - 1) u w' := by
  subst htl
  have h1 := goes_add hgo hm hno
  have hr1 : LRow (w2.alloc (.cells #[.int .u64 (x.h : Nat), .int .i64 x.v, .int .i64 x.p] 30)) w.heap.size (.slice A1 n c1) Lc := LRow.alloc hr _
  have hT1 : EntRow (w2.alloc (.cells #[.int .u64 (x.h : Nat), .int .i64 x.v, .int .i64 x.p] 30)) w.heap.size (.slice A2 T.length c2) T := EntRow.below hT ((Below.refl w2.heap.size w2).alloc (Nat.le_refl _) _) (Nat.le_refl _)
  obtain ⟨A, c, w', e1, e2, e3, -⟩ := ents_append hT1 (ent_one w2 x) (by simpa using ht) (by have := hb.size; simp; omega) 25
  refine ⟨h1.1, _, w', e1, T ++ [x], Lc, A, c, ?_, ?_, LRow.grown hr1 hT1 e3, hlen, he, h1.2, by rw [fin_add hm hno]; exact hfin, ?_⟩
  · rw [List.length_append]
  · rw [List.length_append]
    exact e2
  · exact (hb.alloc hb.size _).trans (grown_below e3 (by have := hb.size; simp; omega) (EntRow.block hT1))

set_option maxHeartbeats 2000000 in
theorem merge_any (v : Value) (L : List LstS) (w : World) (hL : ListsIn w v L) (hn : L.length ≤ 500000) (ht : totL (els L) ≤ 500000) :
    Calls Try.prog 8 #[v] w (EntsOut w (mergeE (els L))) := by
  have HCL := Lib.hid (lclone_any v L w hL hn)
  have HST := Lib.hid (fun w1 A1 c1 h1 h2 => MgAt.start (w := w) (w1 := w1) (A1 := A1) (c1 := c1) (L := L) h1 hL.2 h2)
  have HRL := Lib.hid (Nat.le_trans (merge_length (els L)) ht)
  unfold ListsOut at HCL
  generalize mergeE (els L) = R at *
  generalize 2 * totL (els L) + 1 = G at *
  obtain ⟨n, hnn⟩ : ∃ n, n = L.length := ⟨_, rfl⟩
  rw [← hnn] at hn HST HCL
  clear hL ht hnn
  go_enter Try.func8, Try.ntmps8
  go_wp2_with fail
  go_step3
  go_wp2_with fail
  refine HCL.out.mono ?_
  rintro e w1 ⟨A1, c1, rfl, r1, b1⟩
  have HS := Lib.hid (HST.out w1 A1 c1 r1 b1)
  clear HST HCL r1 b1
  go_wp2
  go_step3
  go_wp2
  go_loopg [4] G (fun g u wr => MgAt w A1 n c1 R g u wr)
  case atStart => exact HS.out
  case round =>
    obtain ⟨wo, rfl⟩ : ∃ wo, wo = wr := ⟨_, rfl⟩
    obtain ⟨go, rfl⟩ : ∃ go, go = gk := ⟨_, rfl⟩
    obtain ⟨T, Lc, A2, c2, rfl, hT, hrow, hlen, heach, hgo, hfin, hbel⟩ := hrel
    have HT := Lib.hid hT
    have HROW := Lib.hid hrow
    have HEA := Lib.hid heach
    have HGO := Lib.hid hgo
    have HFIN := Lib.hid hfin
    have HBEL := Lib.hid hbel
    have HLEN := Lib.hid hlen
    have HTR := Lib.hid (show T.length ≤ 500000 by have := fin_length T (els Lc); rw [hfin] at this; have := HRL.out; omega)
    obtain ⟨tl, htl⟩ : ∃ tl, tl = T.length := ⟨_, rfl⟩
    have HTL := Lib.hid htl
    rw [← htl]
    clear hT hrow heach hgo hfin hbel hlen htl
    go_wp2
    go_loopg [5, 12] n (fun g2 s5 s12 wx => ∃ (k : Nat) (d : Int), k + g2 = n ∧ s12 = .int .i64 k ∧ s5 = .int .i64 d ∧ MinAt (els Lc) k d ∧ NoLast T (els Lc) k ∧ Below wo.heap.size wo wx)
    case atStart => exact ⟨0, -1, by omega, rfl, rfl, minAt_zero _, noLast_zero _ _, Below.refl _ _⟩
    case round =>
      obtain ⟨k, d, hkg, rfl, rfl, hmin, hnl, hbx⟩ := hrel
      have HMIN := Lib.hid hmin
      have HNL := Lib.hid hnl
      have HBX := Lib.hid hbx
      have HRX := Lib.hid (LRow.below HROW.out hbx (Nat.le_refl _))
      have HTX := Lib.hid (EntRow.below HT.out hbx (Nat.le_refl _))
      have HBW := Lib.hid (show Below w.heap.size w wr from HBEL.out.trans (hbx.mono HBEL.out.size))
      clear hmin hnl hbx
      cases gk with
      | zero =>
        obtain rfl : k = n := by omega
        have s1 : ¬ (k : Int) < (k : Int) := by omega
        have hma := minAt_all (L := els Lc) (d := d) (by rw [els_length, HLEN.out]; exact HMIN.out)
        have HNO := Lib.hid (noLast_all (T := T) (L := els Lc) (by rw [els_length, HLEN.out]; exact HNL.out))
        rcases hma with ⟨d0, d1, hmn⟩ | ⟨j, x, t, rfl, hj, hx, hmn⟩
        · have HEND := Lib.hid (show EntsOut w R (.returned (.slice A2 tl c2)) wr by
            rw [← HFIN.out, fin_end hmn, HTL.out]
            exact ⟨A2, c2, rfl, HTX.out, HBW.out⟩)
          clear hmn
          go_wp2
          (try rw [Exit.noGoto_ret])
          go_ret
          exact HEND.out
        · obtain ⟨hpos, u, w3, e1, e2⟩ := MgAt.add HTX.out HRX.out HLEN.out HEA.out HGO.out HFIN.out HBW.out HTL.out hmn HNO.out (by have := HTR.out; omega)
          have HE1 := Lib.hid e1
          have HE2 := Lib.hid e2
          have hjn : j < k := by rw [els_length, HLEN.out] at hj; exact hj
          obtain ⟨y, hy⟩ : ∃ y, Lc[j]? = some y := ⟨_, List.getElem?_eq_getElem (by rw [HLEN.out]; exact hjn)⟩
          obtain ⟨g, rfl, hg1, hg2, -⟩ := HROW.out.some_ (by rw [HLEN.out]; omega)
          obtain ⟨cy, -⟩ := LRow.cell HRX.out HLEN.out.symm hy
          have hin := HEA.out y (List.mem_of_getElem? hy)
          have hyl := els_at hy
          rw [hx] at hyl
          obtain ⟨yv, yl⟩ := y
          obtain rfl : x :: t = yl := Option.some.inj hyl
          simp only at cy hin
          obtain ⟨B, off, cap, rfl, hml, hc⟩ := hin.form
          obtain ⟨b, rfl, hbk, d0, d1, d2⟩ := hc 0 x rfl
          simp only [Nat.zero_mul, Nat.add_zero] at d0 d1 d2
          have f0 := (HBW.out.cell (p := ⟨b, off, none⟩) hbk).trans d0
          have f1 := (HBW.out.cell (p := ⟨b, off + 1, none⟩) hbk).trans d1
          have f2 := (HBW.out.cell (p := ⟨b, off + 2, none⟩) hbk).trans d2
          have s2 : (j : Int) < (k : Int) := by omega
          have s3 : (0 : Int) < (((t.length : Nat) : Int) + 1) := by omega
          clear e1 e2 hj hjn hx hmn hy hyl hin hml hc d0 d1 d2 hbk
          obtain ⟨xh, xv, xp⟩ := x
          simp only at f0 f1 f2 HE1
          simp only [List.length_cons] at cy
          go_wp2_with (first | (at_builtin; refine wpList_append_two rfl _ _ rfl rfl rfl HE1.out ?_) | fail)
          go_roundg (go - 1)
          case measure => omega
          case rel => exact HE2.out
      | succ gi =>
        have hkn : k < n := by omega
        have s1 : (k : Int) < (n : Int) := by omega
        obtain ⟨y, hy⟩ : ∃ y, Lc[k]? = some y := ⟨_, List.getElem?_eq_getElem (by rw [HLEN.out]; exact hkn)⟩
        obtain ⟨g, rfl, hg1, hg2, -⟩ := HROW.out.some_ (by rw [HLEN.out]; omega)
        obtain ⟨cy, fy⟩ := LRow.cell HRX.out HLEN.out.symm hy
        have HY := Lib.hid (els_at hy)
        have hin := HEA.out y (List.mem_of_getElem? hy)
        have HLY := Lib.hid hy
        clear hy
        obtain ⟨yv, yl⟩ := y
        simp only at cy hin HY
        have HIN := Lib.hid hin
        obtain ⟨B, off, cap, rfl, hml, hc⟩ := hin.form
        cases yl with
        | nil =>
          simp only [List.length_nil] at cy
          clear hc hml hin
          go_wp2
          go_roundg gi
          case measure => omega
          case rel => exact ⟨k + 1, d, by omega, by go_num, rfl, minAt_empty HY.out HMIN.out, noLast_empty HY.out HNL.out, HBX.out⟩
        | cons x t =>
          simp only [List.length_cons] at cy
          obtain ⟨b, rfl, hbk, d0, d1, d2⟩ := hc 0 x rfl
          simp only [Nat.zero_mul, Nat.add_zero] at d0 d1 d2
          have f0 := (HBW.out.cell (p := ⟨b, off, none⟩) hbk).trans d0
          have f1 := (HBW.out.cell (p := ⟨b, off + 1, none⟩) hbk).trans d1
          have f2 := (HBW.out.cell (p := ⟨b, off + 2, none⟩) hbk).trans d2
          have s3 : (0 : Int) < (((t.length : Nat) : Int) + 1) := by omega
          have s4 : (((t.length : Nat) : Int) + 1 == 0) = false := beq_eq_false_iff_ne.2 (by omega)
          have htold := told_any (.slice A2 tl c2) T x wr (by rw [HTL.out]; exact EntRow.in_ HTX.out) (by have := HTR.out; omega)
          have hbl : b < wr.heap.size := Nat.lt_of_lt_of_le hbk HBW.out.size
          have hgl : g < wr.heap.size := Nat.lt_of_lt_of_le hg2 HBX.out.size
          by_cases hq : T.getLast? = some x
          · rw [decide_eq_true hq] at htold
            have HTOLD := Lib.hid htold
            obtain ⟨B', c', hs, hp⟩ := ents_from (k := 1) HIN.out (by simp)
            have hs1 : ∀ W, (Instr.slice 25 (.slice (some ⟨b, off, none⟩) (t.length + 1) cap) (some (.int .i64 1)) none none).run Try.prog W = .ok (.slice B' t.length c') W := fun W => hs W
            have HP := Lib.hid (show EntsIn w (.slice B' t.length c') t from hp w.heap.size w (Nat.le_refl _) (Below.refl _ _))
            have HDROP := Lib.hid (fun w2 h1 h2 h3 => MgAt.drop (w := w) (w2 := w2) (c1 := c1) (c2 := c2) (A2 := A2) h1 h2 HLEN.out HEA.out HGO.out HFIN.out h3 HTL.out hg1 HY.out hq HP.out)
            have HG := Lib.hid hg1
            clear hq hs hp d0 d1 d2 hc hml hin htold hg1 hg2 hbk
            obtain ⟨xh, xv, xp⟩ := x
            simp only at f0 f1 f2
            go_wp2_with fail
            refine HTOLD.out.mono ?_
            rintro e w2 ⟨rfl, hb2⟩
            have cy2 := (hb2.cell (p := ⟨g, k, none⟩) hgl).trans cy
            have fy2 := (LRow.cell (LRow.below HRX.out hb2 (Nat.le_refl _)) HLEN.out.symm HLY.out).2
            have HD := Lib.hid (HDROP.out w2 (EntRow.below HTX.out hb2 (Nat.le_refl _)) (LRow.below HRX.out hb2 (Nat.le_refl _)) (HBW.out.trans (hb2.mono HBW.out.size)))
            clear f0 f1 f2 cy fy hb2
            go_wp2
            go_roundg (go - 1)
            case measure => have := HD.out.1; omega
            case rel => exact HD.out.2
          · rw [decide_eq_false hq] at htold
            have HTOLD := Lib.hid htold
            have HNM := Lib.hid (noLast_more HY.out hq HNL.out)
            clear hq htold hin hml hc d0 d1 d2
            by_cases hd : d < 0
            · have HMF := Lib.hid (minAt_first HY.out HMIN.out hd)
              obtain ⟨xh, xv, xp⟩ := x
              simp only at f0 f1 f2
              go_wp2_with fail
              refine HTOLD.out.mono ?_
              rintro e w2 ⟨rfl, hb2⟩
              have HB2 := Lib.hid (bj HBX.out hb2)
              clear f0 f1 f2 cy fy hb2
              go_wp2_with fail
              go_quiet (fail)
              go_wp2
              go_roundg gi
              case measure => omega
              case rel => exact ⟨k + 1, (k : Nat), by omega, by go_num, rfl, HMF.out, HNM.out, below_drewN HB2.out _⟩
            · obtain ⟨j, z, u, rfl, hj, hz, -⟩ : ∃ (j : Nat) (z : EntS) (u : List EntS), d = (j : Nat) ∧ j < k ∧ (els Lc)[j]? = some (z :: u) ∧ minL ((els Lc).take k) = some z := by
                rcases HMIN.out with ⟨h, _⟩ | h
                · exact absurd h hd
                · exact h
              have HMO := Lib.hid (minAt_other HY.out HMIN.out hz)
              obtain ⟨y2, hy2⟩ : ∃ y, Lc[j]? = some y := ⟨_, List.getElem?_eq_getElem (by rw [HLEN.out]; omega)⟩
              obtain ⟨gy, -⟩ := LRow.cell HRX.out HLEN.out.symm hy2
              have hin2 := HEA.out y2 (List.mem_of_getElem? hy2)
              have hyl := els_at hy2
              rw [hz] at hyl
              obtain ⟨yv2, yl2⟩ := y2
              obtain rfl : z :: u = yl2 := Option.some.inj hyl
              simp only at gy hin2
              obtain ⟨B2, off2, cap2, rfl, hml2, hc2⟩ := hin2.form
              obtain ⟨b2, rfl, hbk2, d0, d1, d2⟩ := hc2 0 z rfl
              simp only [Nat.zero_mul, Nat.add_zero] at d0 d1 d2
              simp only [List.length_cons] at gy
              have g0 := (HBW.out.cell (p := ⟨b2, off2, none⟩) hbk2).trans d0
              have g1 := (HBW.out.cell (p := ⟨b2, off2 + 1, none⟩) hbk2).trans d1
              have g2 := (HBW.out.cell (p := ⟨b2, off2 + 2, none⟩) hbk2).trans d2
              have hbl2 : b2 < wr.heap.size := Nat.lt_of_lt_of_le hbk2 HBW.out.size
              have s5 : (0 : Int) < (((u.length : Nat) : Int) + 1) := by omega
              have s6 : (j : Int) < (n : Int) := by omega
              have s7 : decide ((j : Int) < 0) = false := decide_eq_false (by omega)
              have HL := fun W => eless_any x z W
              clear d0 d1 d2 hj hz hy2 hyl hin2 hml2 hc2 hbk2 hd hbk
              cases o : lessE x z
              all_goals
                rw [o] at HL HMO
                have HLL := Lib.hid HL
                clear HL o
                obtain ⟨xh, xv, xp⟩ := x
                obtain ⟨zh, zv, zp⟩ := z
                simp only at f0 f1 f2 g0 g1 g2
                go_wp2_with fail
                refine HTOLD.out.mono ?_
                rintro e w2 ⟨rfl, hb2⟩
                have HB2 := Lib.hid (bj HBX.out hb2)
                have HS : Hid (∀ W, Below w2.heap.size w2 W → Below w2.heap.size w2 W ∧ W.cell? ⟨g, j, none⟩ = some (.slice (some ⟨b2, off2, none⟩) (u.length + 1) cap2) ∧ W.cell? ⟨b, off, none⟩ = some (.int .u64 (xh : Nat)) ∧ W.cell? ⟨b, off + 1, none⟩ = some (.int .i64 xv) ∧ W.cell? ⟨b, off + 2, none⟩ = some (.int .i64 xp) ∧
                  W.cell? ⟨b2, off2, none⟩ = some (.int .u64 (zh : Nat)) ∧ W.cell? ⟨b2, off2 + 1, none⟩ = some (.int .i64 zv) ∧ W.cell? ⟨b2, off2 + 2, none⟩ = some (.int .i64 zp)) := Lib.hid fun W hW => by
                  have hB := bj hb2 hW
                  exact ⟨hW, (hB.cell (p := ⟨g, j, none⟩) hgl).trans gy, (hB.cell (p := ⟨b, off, none⟩) hbl).trans f0, (hB.cell (p := ⟨b, off + 1, none⟩) hbl).trans f1, (hB.cell (p := ⟨b, off + 2, none⟩) hbl).trans f2, (hB.cell (p := ⟨b2, off2, none⟩) hbl2).trans g0, (hB.cell (p := ⟨b2, off2 + 1, none⟩) hbl2).trans g1, (hB.cell (p := ⟨b2, off2 + 2, none⟩) hbl2).trans g2⟩
                obtain ⟨-, t0, t1, t2, t3, t4, t5, t6⟩ := HS.out w2 (Below.refl _ _)
                clear f0 f1 f2 g0 g1 g2 cy fy hb2 gy HTOLD
                go_wp2_with fail
                go_region_held3 (fun W => Below w2.heap.size w2 W ∧ W.cell? ⟨g, j, none⟩ = some (.slice (some ⟨b2, off2, none⟩) (u.length + 1) cap2) ∧ W.cell? ⟨b, off, none⟩ = some (.int .u64 (xh : Nat)) ∧ W.cell? ⟨b, off + 1, none⟩ = some (.int .i64 xv) ∧ W.cell? ⟨b, off + 2, none⟩ = some (.int .i64 xp) ∧
                  W.cell? ⟨b2, off2, none⟩ = some (.int .u64 (zh : Nat)) ∧ W.cell? ⟨b2, off2 + 1, none⟩ = some (.int .i64 zv) ∧ W.cell? ⟨b2, off2 + 2, none⟩ = some (.int .i64 zp))
                  (first | (with_reducible assumption) | ((with_reducible refine HS.out _ ?_); (first | (with_reducible assumption) | (with_reducible exact Below.refl _ _) | (with_reducible exact (Below.refl _ _).drew) | exact (bj (And.left (by with_reducible assumption)) ‹Below _ _ _›)); done) | fail)
                  (first
                  | (go_at_call 14; ((with_reducible refine (HLL.out _).mono ?_); rintro e w3 ⟨rfl, hb3⟩; have hB3 : Below w2.heap.size w2 w3 := bj (And.left (by with_reducible assumption)) hb3))
                  | fail)
                all_goals
                  go_wp2
                  go_roundg gi
                  case measure => omega
                  case rel => exact ⟨k + 1, _, by omega, by go_num, rfl, HMO.out, HNM.out, bj HB2.out hB3⟩
end Go.Proofs.Ytmdoafmgakmjkaa
