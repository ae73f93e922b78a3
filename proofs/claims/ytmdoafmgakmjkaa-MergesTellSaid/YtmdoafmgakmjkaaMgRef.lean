/- Merge: the document's. -/
import Derived.Test.YtmdoafmgakmjkaaMgMerge
import Derived.Test.YtmdoafmgakmjkaaEntRef
namespace Go.Proofs.Ytmdoafmgakmjkaa
open Go.RowKit Go.Shelf
set_option linter.unusedVariables false
set_option maxRecDepth 100000

/-- What holds ahead of each round. -/
def RfAt (w : World) (A1 : Option Addr) (n c1 : Nat) (R : List EntS) (g : Nat) (u : Value) (wr : World) : Prop := ∃ (T : List EntS) (Lc : List LstS) (A : Option Addr) (c : Nat), u = .slice A T.length c ∧
  EntRow wr w.heap.size (.slice A T.length c) T ∧ LRow wr w.heap.size (.slice A1 n c1) Lc ∧ Lc.length = n ∧ Each w Lc ∧ totL (els Lc) ≤ g ∧ mrg T (els Lc) = R ∧ Below w.heap.size w wr
theorem RfAt.start {w w1 : World} {A1 : Option Addr} {c1 : Nat} {L : List LstS} (h : LRow w1 w.heap.size (.slice A1 L.length c1) L) (he : Each w L) (hb : Below w.heap.size w w1) : RfAt w A1 L.length c1 (mergeE (els L)) (totL (els L)) (.slice none 0 0) w1 :=
  ⟨[], L, none, 0, rfl, EntRow.nil _ _, h, rfl, he, Nat.le_refl _, rfl, hb⟩
/-- An entry is taken away from so many lists. -/
def Strip (e : EntS) (L : List (List EntS)) (k : Nat) (Ls : List LstS) : Prop := Ls.length = L.length ∧ ∀ (i : Nat) (l : List EntS), L[i]? = some l → ∃ t, (els Ls)[i]? = some t ∧ stripE e t = stripE e l ∧ (i < k → t = stripE e l)
theorem strip_start (e : EntS) (L : List LstS) : Strip e (els L) 0 L := ⟨(els_length L).symm, fun i l h => ⟨l, h, rfl, fun hi => absurd hi (Nat.not_lt_zero _)⟩⟩
theorem strip_end {e : EntS} {L : List (List EntS)} {Ls : List LstS} (h : Strip e L L.length Ls) : els Ls = L.map (stripE e) := by
  apply List.ext_getElem?
  intro i
  rw [show (L.map (stripE e))[i]? = (L[i]?).map (stripE e) from List.getElem?_map]
  cases hi : L[i]? with
  | none =>
    have := List.getElem?_eq_none_iff.1 hi
    have hl : (els Ls).length ≤ i := by rw [els_length, h.1]; exact this
    rw [show (els Ls)[i]? = none from List.getElem?_eq_none hl]
    rfl
  | some l =>
    obtain ⟨t, h1, h2, h3⟩ := h.2 i l hi
    rw [h1, h3 (List.getElem?_eq_some_iff.1 hi).1]
    rfl
theorem strip_put {e : EntS} {L : List (List EntS)} {Ls : List LstS} {k : Nat} {v : Value} {t : List EntS} (h : Strip e L k Ls) (hk : (els Ls)[k]? = some (e :: t)) : Strip e L k (Ls.set k ⟨v, t⟩) := by
  refine ⟨by rw [List.length_set]; exact h.1, fun i l hl => ?_⟩
  obtain ⟨u, h1, h2, h3⟩ := h.2 i l hl
  rw [els_set, List.getElem?_set]
  by_cases hik : k = i
  · subst hik
    rw [hk] at h1
    obtain rfl := Option.some.inj h1
    rw [if_pos rfl, if_pos (List.getElem?_eq_some_iff.1 hk).1]
    exact ⟨t, rfl, by rw [← h2, strip_cons], fun hi => absurd hi (Nat.lt_irrefl _)⟩
  · rw [if_neg hik]
    exact ⟨u, h1, h2, h3⟩
theorem strip_next {e : EntS} {L : List (List EntS)} {Ls : List LstS} {k : Nat} {t : List EntS} (h : Strip e L k Ls) (hk : (els Ls)[k]? = some t) (ht : ∀ x u, t = x :: u → x ≠ e) : Strip e L (k + 1) Ls := by
  refine ⟨h.1, fun i l hl => ?_⟩
  obtain ⟨u, h1, h2, h3⟩ := h.2 i l hl
  refine ⟨u, h1, h2, fun hi => ?_⟩
  rcases Nat.lt_or_ge i k with c | c
  · exact h3 c
  · obtain rfl : i = k := by omega
    rw [hk] at h1
    obtain rfl := Option.some.inj h1
    rw [← h2]
    cases t with
    | nil => rfl
    | cons x u => exact (strip_other (ht x u rfl) u).symm
/-- The least one so far, and where it lies. -/
def LeastAt (w : World) (b : Nat) (m : Option EntS) : Prop := ∃ x : EntS, (∀ y, m = some y → y = x) ∧ Blok w b 30 #[.int .u64 (x.h : Nat), .int .i64 x.v, .int .i64 x.p]
theorem LeastAt.below {w w' : World} {b : Nat} {m : Option EntS} (h : LeastAt w b m) (hb : Below w.heap.size w w') : LeastAt w' b m := by
  obtain ⟨x, h1, h2⟩ := h
  exact ⟨x, h1, h2.touch (Touch.of_below hb) (by simp)⟩
theorem blok3_of {w : World} {g : Nat} {a b c : Value} (h : Blok w g 30 #[a, b, c]) : w.cell? ⟨g, 0, none⟩ = some a ∧ w.cell? ⟨g, 1, none⟩ = some b ∧ w.cell? ⟨g, 2, none⟩ = some c ∧ w.frozen? ⟨g, 0, none⟩ = false ∧ w.frozen? ⟨g, 1, none⟩ = false ∧ w.frozen? ⟨g, 2, none⟩ = false :=
  ⟨Blok.cell h 0, Blok.cell h 1, Blok.cell h 2, Blok.frozen h 0, Blok.frozen h 1, Blok.frozen h 2⟩
theorem blok3_put {w : World} {g : Nat} {a b c : Value} (h : Blok w g 30 #[a, b, c]) (x y z : Value) : Blok (((w.setCell ⟨g, 0, none⟩ x).setCell ⟨g, 1, none⟩ y).setCell ⟨g, 2, none⟩ z) g 30 #[x, y, z] := Blok.put (Blok.put (Blok.put h 0 _) 1 _) 2 _
theorem below_three {B : Nat} {w0 w : World} {g : Nat} (h : Below B w0 w) (hg : B ≤ g) (a b c : Value) : Below B w0 (((w.setCell ⟨g, 0, none⟩ a).setCell ⟨g, 1, none⟩ b).setCell ⟨g, 2, none⟩ c) := ((h.setCell hg _).setCell hg _).setCell hg _
theorem minStep_some (m : Option EntS) (x : EntS) (t : List EntS) : (minStep m (x :: t)).isSome = true := by
  unfold minStep
  cases m with
  | none => rfl
  | some y => show (if lessE x y = true then some x else some y).isSome = true; split <;> rfl

theorem RfAt.same {w w2 : World} {n c1 c2 go tl : Nat} {A1 A2 : Option Addr} {R T : List EntS} {Lc Ls : List LstS} {e : EntS}
    (hT : EntRow w2 w.heap.size (.slice A2 T.length c2) T) (hr : LRow w2 w.heap.size (.slice A1 n c1) Ls) (hlen : Ls.length = n) (he : Each w Ls) (hb : Below w.heap.size w w2) (hgo : totL (els Lc) ≤ go) (hfin : mrg T (els Lc) = R)
    (htl : tl = T.length) (hm : minL (els Lc) = some e) (hs : els Ls = (els Lc).map (stripE e)) (hq : T.getLast? = some e) : 0 < go ∧ RfAt w A1 n c1 R (go - 1) (.slice A2 tl c2) w2 := by
  have h1 := tot_lt e _ (minL_mem hm)
  have h2 := mrg_some (a := T) hm
  unfold addE at h2
  rw [if_pos hq] at h2
  subst htl
  exact ⟨by omega, T, Ls, A2, c2, rfl, hT, hr, hlen, he, by rw [hs]; omega, by rw [hs, ← h2]; exact hfin, hb⟩
theorem RfAt.add {w w2 : World} {n c1 c2 go tl : Nat} {A1 A2 : Option Addr} {R T : List EntS} {Lc Ls : List LstS} {e : EntS}
    (hT : EntRow w2 w.heap.size (.slice A2 T.length c2) T) (hr : LRow w2 w.heap.size (.slice A1 n c1) Ls) (hlen : Ls.length = n) (he : Each w Ls) (hb : Below w.heap.size w w2) (hgo : totL (els Lc) ≤ go) (hfin : mrg T (els Lc) = R)
    (htl : tl = T.length) (hm : minL (els Lc) = some e) (hs : els Ls = (els Lc).map (stripE e)) (hq : T.getLast? ≠ some e) (ht : T.length + 1 ≤ 1000000) :
    0 < go ∧ ∃ u w', (Builtin.append_ #[25, 25] 25 #[.slice A2 tl c2, .slice (some ⟨w2.heap.size, 0, none⟩) 1 1]).run Try.prog (w2.alloc (.cells #[.int .u64 (e.h : Nat), .int .i64 e.v, .int .i64 e.p] 30)) = .ok u w' ∧ RfAt w A1 n c1 R (go - 1) u w' := by
  have h1 := tot_lt e _ (minL_mem hm)
  have h2 := mrg_some (a := T) hm
  unfold addE at h2
  rw [if_neg hq] at h2
  subst htl
  have hr1 : LRow (w2.alloc (.cells #[.int .u64 (e.h : Nat), .int .i64 e.v, .int .i64 e.p] 30)) w.heap.size (.slice A1 n c1) Ls := LRow.alloc hr _
  have hT1 : EntRow (w2.alloc (.cells #[.int .u64 (e.h : Nat), .int .i64 e.v, .int .i64 e.p] 30)) w.heap.size (.slice A2 T.length c2) T := EntRow.below hT ((Below.refl w2.heap.size w2).alloc (Nat.le_refl _) _) (Nat.le_refl _)
  obtain ⟨A, c, w', e1, e2, e3, -⟩ := ents_append hT1 (ent_one w2 e) (by simpa using ht) (by have := hb.size; simp; omega) 25
  refine ⟨by omega, _, w', e1, T ++ [e], Ls, A, c, ?_, ?_, LRow.grown hr1 hT1 e3, hlen, he, by rw [hs]; omega, by rw [hs, ← h2]; exact hfin, ?_⟩
  · rw [List.length_append]
  · rw [List.length_append]
    exact e2
  · exact (hb.alloc hb.size _).trans (grown_below e3 (by have := hb.size; simp; omega) (EntRow.block hT1))

set_option maxHeartbeats 4000000 in
theorem merger_any (v : Value) (L : List LstS) (w : World) (hL : ListsIn w v L) (hn : L.length ≤ 500000) (ht : totL (els L) ≤ 500000) :
    Calls Try.prog 10 #[v] w (EntsOut w (mergeE (els L))) := by
  obtain ⟨A1, c1, w1, e1, e2, e3, -⟩ := lists_append (LRow.nil w w.heap.size) hL.1 hL.2.one (by simp; omega) (Nat.le_refl _) 22
  simp only [List.length_nil, Nat.zero_add, List.nil_append] at e1 e2
  have hb1 : Below w.heap.size w w1 := grown_below e3 (Nat.le_refl _) (fun k hk => by cases hk)
  have HS := Lib.hid (RfAt.start e2 hL.2 hb1)
  have HRL := Lib.hid (Nat.le_trans (merge_length (els L)) ht)
  have HE1 := Lib.hid e1
  obtain ⟨A0, off0, cap0, rfl, -, -⟩ := hL.1.form
  generalize mergeE (els L) = R at *
  generalize totL (els L) = G at *
  obtain ⟨n, hnn⟩ : ∃ n, n = L.length := ⟨_, rfl⟩
  rw [← hnn] at hn HS HE1 ⊢
  clear hL ht hnn e1 e2 e3 hb1
  go_enter Try.func10, Try.ntmps10
  go_wp2_with (first | (at_builtin; refine wpList_append_two rfl _ _ rfl rfl rfl HE1.out ?_) | fail)
  go_loopg [3] G (fun g u wr => RfAt w A1 n c1 R g u wr)
  case atStart => exact HS.out
  case round =>
    obtain ⟨wo, rfl⟩ : ∃ wo, wo = wr := ⟨_, rfl⟩
    obtain ⟨go, rfl⟩ : ∃ go, go = gk := ⟨_, rfl⟩
    obtain ⟨T, Lc, A2, c2, rfl, hT, hrow, hlen, heach, hgo, hfin, hbel⟩ := hrel
    have HT := Lib.hid hT
    have HROW := Lib.hid hrow
    have HEA := Lib.hid heach
    have HGO := Lib.hid hgo
    have HFIN := Lib.hid hfin
    have HBEL := Lib.hid hbel
    have HLEN := Lib.hid hlen
    have HTR := Lib.hid (show T.length ≤ 500000 by have := mrg_length T (els Lc); rw [hfin] at this; have := HRL.out; omega)
    obtain ⟨tl, htl⟩ : ∃ tl, tl = T.length := ⟨_, rfl⟩
    have HTL := Lib.hid htl
    rw [← htl]
    clear hT hrow heach hgo hfin hbel hlen htl HS HE1
    have HLE0 := Lib.hid (show LeastAt (wo.alloc (.cells #[.int .u64 0, .int .i64 0, .int .i64 0] 30)) wo.heap.size none from ⟨⟨0, 0, 0⟩, fun y hy => (by cases hy), Blok.new _ _ _⟩)
    have HB0 := Lib.hid ((Below.refl wo.heap.size wo).alloc (Nat.le_refl _) (.cells #[.int .u64 0, .int .i64 0, .int .i64 0] 30))
    go_wp2
    obtain ⟨wl, hwl⟩ : ∃ wl, wl = wo.alloc (.cells #[.int .u64 0, .int .i64 0, .int .i64 0] 30) := ⟨_, rfl⟩
    obtain ⟨gl, hgl⟩ : ∃ gl, gl = wo.heap.size := ⟨_, rfl⟩
    have HGL := Lib.hid hgl
    rw [← hwl] at HLE0 HB0 ⊢
    rw [← hgl] at HLE0 ⊢
    clear hwl hgl
    go_loopg [6, 7] n (fun g2 s6 s7 wx => ∃ k : Nat, k + g2 = n ∧ s7 = .int .i64 k ∧ s6 = .bool (minL ((els Lc).take k)).isSome ∧ LeastAt wx gl (minL ((els Lc).take k)) ∧ Below wo.heap.size wo wx)
    case atStart => exact ⟨0, by omega, rfl, rfl, HLE0.out, HB0.out⟩
    case round =>
      obtain ⟨k, hkg, rfl, rfl, hla, hbx⟩ := hrel
      have HBX := Lib.hid hbx
      have HRX := Lib.hid (LRow.below HROW.out hbx (Nat.le_refl _))
      have HTX := Lib.hid (EntRow.below HT.out hbx (Nat.le_refl _))
      have HBW := Lib.hid (show Below w.heap.size w wr from HBEL.out.trans (hbx.mono HBEL.out.size))
      have HLA := Lib.hid hla
      clear hla hbx HLE0 HB0
      cases gk with
      | zero =>
        obtain rfl : k = n := by omega
        have s1 : ¬ (k : Int) < (k : Int) := by omega
        have hall : (els Lc).take k = els Lc := List.take_of_length_le (by rw [els_length, HLEN.out]; exact Nat.le_refl _)
        rw [hall] at HLA ⊢
        clear hall
        cases hm : minL (els Lc) with
        | none =>
          have HEND := Lib.hid (show EntsOut w R (.returned (.slice A2 tl c2)) wr by
            rw [← HFIN.out, mrg_none hm, HTL.out]
            exact ⟨A2, c2, rfl, HTX.out, HBW.out⟩)
          clear hm
          simp only [Option.isSome_none]
          go_wp2
          go_ret
          exact HEND.out
        | some e =>
          have HM := Lib.hid hm
          rw [hm] at HLA
          clear hm
          simp only [Option.isSome_some]
          have HGO2 := Lib.hid (show w.heap.size ≤ gl by rw [HGL.out]; exact HBEL.out.size)
          have HGO3 := Lib.hid (show wo.heap.size ≤ gl by rw [HGL.out]; exact Nat.le_refl _)
          go_wp2
          go_loopg [8] k (fun g2 s8 wx => ∃ (i : Nat) (Ls : List LstS), i + g2 = k ∧ s8 = .int .i64 i ∧ Strip e (els Lc) i Ls ∧ LRow wx w.heap.size (.slice A1 k c1) Ls ∧ Each w Ls ∧ EntRow wx w.heap.size (.slice A2 T.length c2) T ∧ LeastAt wx gl (some e) ∧ Below w.heap.size w wx)
          case atStart => exact ⟨0, Lc, by omega, rfl, strip_start _ _, HRX.out, HEA.out, HTX.out, HLA.out, HBW.out⟩
          case round =>
            obtain ⟨i, Ls, hig, rfl, hst, hrow, heach, hT, hla, hbx⟩ := hrel
            obtain ⟨wm, rfl⟩ : ∃ wm, wm = wr := ⟨_, rfl⟩
            clear HRX HTX HBX HBW HLA
            have HLS := Lib.hid (show Ls.length = k by rw [hst.1, els_length, HLEN.out])
            cases gk with
            | zero =>
              obtain rfl : i = k := by omega
              have s1 : ¬ (i : Int) < (i : Int) := by omega
              have hse := strip_end (e := e) (L := els Lc) (Ls := Ls) (by rw [els_length, HLEN.out]; exact hst)
              obtain ⟨z, hz', hbz⟩ := hla
              obtain rfl := hz' e rfl
              obtain ⟨z0, z1, z2, -, -, -⟩ := blok3_of hbz
              have HTH := Lib.hid hT
              have HDW := Lib.hid (show ∀ nq, EntRow (wm.drewN nq) w.heap.size (.slice A2 T.length c2) T ∧ LRow (wm.drewN nq) w.heap.size (.slice A1 i c1) Ls ∧ Blok (wm.drewN nq) gl 30 #[.int .u64 (e.h : Nat), .int .i64 e.v, .int .i64 e.p] ∧ Below w.heap.size w (wm.drewN nq) from fun nq =>
                ⟨EntRow.below hT (below_drewN (Below.refl wm.heap.size wm) nq) (Nat.le_refl _), LRow.below hrow (below_drewN (Below.refl wm.heap.size wm) nq) (Nat.le_refl _), hbz.drewN nq, below_drewN hbx nq⟩)
              have HEC := Lib.hid heach
              have HSE := Lib.hid hse
              clear hT hrow hbz hbx heach hse hst hz'
              by_cases h0 : T = []
              · have HT0 := Lib.hid h0
                obtain rfl : tl = 0 := by rw [HTL.out, h0]; rfl
                clear h0
                go_wp2_with fail
                go_quiet (fail)
                rename_i nq _
                obtain ⟨d1, d2, d3, d4⟩ := HDW.out nq
                clear z0 z1 z2 HDW
                generalize wm.drewN nq = wq at *
                obtain ⟨z0, z1, z2, -, -, -⟩ := blok3_of d3
                obtain ⟨hpos, u, w3, e1, e2⟩ := RfAt.add d1 d2 HLS.out HEC.out d4 HGO.out HFIN.out HTL.out HM.out HSE.out (by rw [HT0.out]; simp) (by have := HTR.out; omega)
                have HE1 := Lib.hid e1
                have HE2 := Lib.hid e2
                clear d1 d2 d3 d4 e1 e2
                obtain ⟨eh, ev, ep⟩ := e
                simp only at z0 z1 z2 HE1
                go_wp2_with (first | (at_builtin; refine wpList_append_two rfl _ _ rfl rfl rfl HE1.out ?_) | fail)
                go_roundg (go - 1)
                case measure => omega
                case rel => exact HE2.out
              · obtain ⟨m, hm⟩ : ∃ m, T.length = m + 1 := ⟨T.length - 1, by have := List.length_pos_iff.2 h0; omega⟩
                obtain ⟨y, hy⟩ : ∃ y, T[m]? = some y := ⟨_, List.getElem?_eq_getElem (by omega)⟩
                have hlast : T.getLast? = some y := by rw [last_at hm, hy]
                have hne := fun W => ent_neq y e W
                obtain ⟨b, off, rfl, -, hbk, f0, f1, f2⟩ := ent_cell (EntRow.in_ HTH.out) hy
                have hkm : tl = m + 1 := HTL.out.trans hm
                have htr : tl ≤ 500000 := by rw [HTL.out]; exact HTR.out
                have q1 : (tl : Int) - 1 = (m : Int) := by omega
                have q2 : ((tl : Int) == 0) = false := beq_eq_false_iff_ne.2 (by omega)
                have q3 : IntKind.i64.wrap ((m : Nat) : Int) = (m : Nat) := IntWalk.i64_in _ ⟨by omega, by omega⟩
                have q4 : (m : Int) < (tl : Int) := by omega
                have HLAST := Lib.hid hlast
                clear h0 hm hy hlast hkm hbk HTH
                by_cases hye : y = e
                · rw [decide_eq_true hye] at hne
                  have HYE := Lib.hid hye
                  have HX : Hid (∀ nq, 0 < go ∧ RfAt w A1 i c1 R (go - 1) (.slice (some ⟨b, off, none⟩) tl c2) (wm.drewN nq)) := Lib.hid fun nq => by
                    obtain ⟨d1, d2, d3, d4⟩ := HDW.out nq
                    exact RfAt.same d1 d2 HLS.out HEC.out d4 HGO.out HFIN.out HTL.out HM.out HSE.out (by rw [HLAST.out, HYE.out])
                  clear hye HDW
                  obtain ⟨yh, yv, yp⟩ := y
                  obtain ⟨eh, ev, ep⟩ := e
                  simp only at f0 f1 f2 z0 z1 z2 hne
                  go_wp2_with fail
                  go_quiet (fail)
                  rename_i nq _
                  have hx := HX.out nq
                  clear z0 z1 z2 f0 f1 f2 HX
                  generalize wm.drewN nq = wq at *
                  have HP := Lib.hid hx
                  clear hx
                  go_wp2
                  go_roundg (go - 1)
                  case measure => have := HP.out.1; omega
                  case rel => exact HP.out.2
                · rw [decide_eq_false hye] at hne
                  have HYE := Lib.hid (show T.getLast? ≠ some e by rw [HLAST.out]; exact fun h => hye (Option.some.inj h))
                  clear hye
                  obtain ⟨yh, yv, yp⟩ := y
                  obtain ⟨eh, ev, ep⟩ := e
                  simp only at f0 f1 f2 z0 z1 z2 hne
                  go_wp2_with fail
                  go_quiet (fail)
                  rename_i nq _
                  obtain ⟨d1, d2, d3, d4⟩ := HDW.out nq
                  clear z0 z1 z2 f0 f1 f2 HDW
                  generalize wm.drewN nq = wq at *
                  obtain ⟨z0, z1, z2, -, -, -⟩ := blok3_of d3
                  obtain ⟨hpos, u, w3, e1, e2⟩ := RfAt.add d1 d2 HLS.out HEC.out d4 HGO.out HFIN.out HTL.out HM.out HSE.out HYE.out (by have := HTR.out; omega)
                  have HE1 := Lib.hid e1
                  have HE2 := Lib.hid e2
                  clear d1 d2 d3 d4 e1 e2
                  simp only at z0 z1 z2 HE1
                  go_wp2_with (first | (at_builtin; refine wpList_append_two rfl _ _ rfl rfl rfl HE1.out ?_) | fail)
                  go_roundg (go - 1)
                  case measure => omega
                  case rel => exact HE2.out
            | succ gi =>
              have hik : i < k := by omega
              have s1 : (i : Int) < (k : Int) := by omega
              have HST := Lib.hid hst
              have HRW := Lib.hid hrow
              have HEC := Lib.hid heach
              have HTW := Lib.hid hT
              have HLW := Lib.hid hla
              have HBW := Lib.hid hbx
              obtain ⟨y, hy⟩ : ∃ y, Ls[i]? = some y := ⟨_, List.getElem?_eq_getElem (by rw [HLS.out]; exact hik)⟩
              have HY := Lib.hid hy
              clear hst hrow heach hT hla hbx hy
              go_wp2
              go_loopg [] y.l.length (fun g3 wx => ∃ (Ls : List LstS) (y : LstS), Ls[i]? = some y ∧ y.l.length ≤ g3 ∧ Strip e (els Lc) i Ls ∧ LRow wx w.heap.size (.slice A1 k c1) Ls ∧ Each w Ls ∧ EntRow wx w.heap.size (.slice A2 T.length c2) T ∧ LeastAt wx gl (some e) ∧ Below w.heap.size w wx)
              case atStart => exact ⟨Ls, y, HY.out, Nat.le_refl _, HST.out, HRW.out, HEC.out, HTW.out, HLW.out, HBW.out⟩
              case round =>
                clear HLS HST HRW HEC HTW HLW HBW HY
                clear y Ls
                obtain ⟨Ls, y, hy, hyg, hst, hrow, heach, hT, hla, hbx⟩ := hrel
                have HLS := Lib.hid (show Ls.length = k by rw [hst.1, els_length, HLEN.out])
                obtain ⟨g, rfl, hg1, hg2, -⟩ := LRow.some_ hrow (by rw [HLS.out]; omega)
                obtain ⟨cy, fy⟩ := LRow.cell hrow HLS.out.symm hy
                have hin := heach y (List.mem_of_getElem? hy)
                have hyl := els_at hy
                obtain ⟨z, hz', hbz⟩ := hla
                obtain rfl := hz' e rfl
                obtain ⟨z0, z1, z2, -, -, -⟩ := blok3_of hbz
                have HST := Lib.hid hst
                have HRW := Lib.hid hrow
                have HEC := Lib.hid heach
                have HTW := Lib.hid hT
                have HZ := Lib.hid hbz
                have HBW := Lib.hid hbx
                clear hst hrow heach hT hbx hz' hbz
                obtain ⟨yv, yl⟩ := y
                simp only at cy hin hyl hyg
                have HIN := Lib.hid hin
                obtain ⟨B, off, cap, rfl, hml, hc⟩ := hin.form
                cases yl with
                | nil =>
                  simp only [List.length_nil] at cy
                  have HNX := Lib.hid (strip_next HST.out hyl (fun x u h => (by cases h)))
                  have HX : Hid (∃ Ls, Strip e (els Lc) (i + 1) Ls ∧ LRow wr w.heap.size (.slice (some ⟨g, 0, none⟩) k c1) Ls ∧ Each w Ls ∧ EntRow wr w.heap.size (.slice A2 T.length c2) T ∧ LeastAt wr gl (some e) ∧ Below w.heap.size w wr) :=
                    Lib.hid ⟨Ls, HNX.out, HRW.out, HEC.out, HTW.out, ⟨e, fun y hy => (Option.some.inj hy).symm, HZ.out⟩, HBW.out⟩
                  clear hc hml hin hyl hy hyg fy HNX HST HRW HEC HTW HZ HBW HIN HLS
                  go_wp2_with fail
                  go_quiet (fail)
                  go_wp2
                  go_roundg gi
                  case measure => omega
                  case rel =>
                    obtain ⟨Ls, h1, h2, h3, h4, h5, h6⟩ := HX.out
                    have hbd := below_drewN (Below.refl wr.heap.size wr)
                    exact ⟨i + 1, Ls, by omega, by go_num, h1, h2.below (hbd _) (Nat.le_refl _), h3, EntRow.below h4 (hbd _) (Nat.le_refl _), h5.below (hbd _), below_drewN h6 _⟩
                | cons x t =>
                  simp only [List.length_cons] at cy hyg
                  obtain ⟨b, rfl, hbk, d0, d1, d2⟩ := hc 0 x rfl
                  simp only [Nat.zero_mul, Nat.add_zero] at d0 d1 d2
                  have f0 := (HBW.out.cell (p := ⟨b, off, none⟩) hbk).trans d0
                  have f1 := (HBW.out.cell (p := ⟨b, off + 1, none⟩) hbk).trans d1
                  have f2 := (HBW.out.cell (p := ⟨b, off + 2, none⟩) hbk).trans d2
                  have s3 : (0 : Int) < (((t.length : Nat) : Int) + 1) := by omega
                  have s4 : decide ((0 : Int) < (((t.length : Nat) : Int) + 1)) = true := decide_eq_true s3
                  have heq := fun W => ent_eql x e W
                  clear d0 d1 d2 hc hml hin
                  by_cases hxe : x = e
                  · rw [decide_eq_true hxe] at heq
                    obtain ⟨B', c', hs, hp⟩ := ents_from (k := 1) HIN.out (by simp)
                    have hs1 : ∀ W, (Instr.slice 25 (.slice (some ⟨b, off, none⟩) (t.length + 1) cap) (some (.int .i64 1)) none none).run Try.prog W = .ok (.slice B' t.length c') W := fun W => hs W
                    have HP := Lib.hid (show EntsIn w (.slice B' t.length c') t from hp w.heap.size w (Nat.le_refl _) (Below.refl _ _))
                    have HPUT := Lib.hid (strip_put (v := .slice B' t.length c') HST.out (by rw [hyl, hxe]))
                    have hgne : g ≠ gl := fun h => own_ne HRW.out HZ.out lst_ne (by rw [h]; rfl)
                    have HG := Lib.hid (And.intro hg1 hgne)
                    have HTG := Lib.hid (show i < Ls.length by rw [HLS.out]; exact hik)
                    have HSET := Lib.hid (HEC.out.set (i := i) (x := ⟨.slice B' t.length c', t⟩) HP.out)
                    clear hxe hs hp hg1 hg2 hgne hyl hy HIN HEC
                    obtain ⟨xh, xv, xp⟩ := x
                    obtain ⟨eh, ev, ep⟩ := e
                    simp only at f0 f1 f2 z0 z1 z2 heq
                    go_wp2_with fail
                    go_quiet (fail)
                    rename_i nq _
                    have cy2 : (wr.drewN nq).cell? ⟨g, i, none⟩ = some (.slice (some ⟨b, off, none⟩) (t.length + 1) cap) := cy
                    have fy2 : (wr.drewN nq).frozen? ⟨g, i, none⟩ = false := fy
                    have HZ2 := Lib.hid (HZ.out.drewN nq)
                    have HBD := Lib.hid (below_drewN HBW.out nq)
                    have HRW2 := Lib.hid (HRW.out.below (below_drewN (Below.refl wr.heap.size wr) nq) (Nat.le_refl _))
                    have HTW2 := Lib.hid (EntRow.below HTW.out (below_drewN (Below.refl wr.heap.size wr) nq) (Nat.le_refl _))
                    clear f0 f1 f2 z0 z1 z2 cy fy HZ HBW HRW HTW
                    generalize wr.drewN nq = wq at *
                    go_wp2
                    go_roundg (gk - 1)
                    case measure => omega
                    case rel => exact ⟨Ls.set i ⟨.slice B' t.length c', t⟩, ⟨.slice B' t.length c', t⟩, by rw [List.getElem?_set_self HTG.out], by show t.length ≤ _; omega, HPUT.out, LRow.put HRW2.out HLS.out.symm ⟨.slice B' t.length c', t⟩, HSET.out, EntRow.far_l HTW2.out HRW2.out, ⟨_, fun y hy => (Option.some.inj hy).symm, Blok.far HZ2.out (Ne.symm HG.out.2) _⟩, HBD.out.setCell HG.out.1 _⟩
                  · rw [decide_eq_false hxe] at heq
                    have HNX := Lib.hid (strip_next HST.out hyl (fun x' u h => by obtain ⟨h1, -⟩ := List.cons.inj h; rw [← h1]; exact hxe))
                    have HX : Hid (∃ Ls, Strip e (els Lc) (i + 1) Ls ∧ LRow wr w.heap.size (.slice (some ⟨g, 0, none⟩) k c1) Ls ∧ Each w Ls ∧ EntRow wr w.heap.size (.slice A2 T.length c2) T ∧ LeastAt wr gl (some e) ∧ Below w.heap.size w wr) :=
                      Lib.hid ⟨Ls, HNX.out, HRW.out, HEC.out, HTW.out, ⟨e, fun y hy => (Option.some.inj hy).symm, HZ.out⟩, HBW.out⟩
                    clear hyl hy hyg fy HNX HST HRW HEC HTW HZ HBW HIN HLS hxe
                    obtain ⟨xh, xv, xp⟩ := x
                    obtain ⟨eh, ev, ep⟩ := e
                    simp only at f0 f1 f2 z0 z1 z2 heq
                    go_wp2_with fail
                    go_quiet (fail)
                    go_wp2
                    go_roundg gi
                    case measure => omega
                    case rel =>
                      obtain ⟨Ls, h1, h2, h3, h4, h5, h6⟩ := HX.out
                      have hbd := below_drewN (Below.refl wr.heap.size wr)
                      exact ⟨i + 1, Ls, by omega, by go_num, h1, h2.below (hbd _) (Nat.le_refl _), h3, EntRow.below h4 (hbd _) (Nat.le_refl _), h5.below (hbd _), below_drewN h6 _⟩
      | succ gi =>
        have hkn : k < n := by omega
        have s1 : (k : Int) < (n : Int) := by omega
        obtain ⟨y, hy⟩ : ∃ y, Lc[k]? = some y := ⟨_, List.getElem?_eq_getElem (by rw [HLEN.out]; exact hkn)⟩
        obtain ⟨g, rfl, hg1, hg2, -⟩ := HROW.out.some_ (by rw [HLEN.out]; omega)
        obtain ⟨cy, fy⟩ := LRow.cell HRX.out HLEN.out.symm hy
        have hyl := els_at hy
        have hmt := minL_take hyl
        have hin := HEA.out y (List.mem_of_getElem? hy)
        clear hy
        obtain ⟨yv, yl⟩ := y
        simp only at cy hin hyl hmt
        obtain ⟨B, off, cap, rfl, hml, hc⟩ := hin.form
        cases yl with
        | nil =>
          simp only [List.length_nil] at cy
          have hmt2 : minL ((els Lc).take (k + 1)) = minL ((els Lc).take k) := hmt
          have HMT := Lib.hid hmt2
          clear hc hml hin hmt hmt2 hyl
          obtain ⟨q, hq⟩ : ∃ q, q = (minL ((els Lc).take k)).isSome := ⟨_, rfl⟩
          have HQ := Lib.hid hq
          rw [← hq]
          clear hq
          go_wp2_with fail
          go_quiet (fail)
          go_wp2
          go_roundg gi
          case measure => omega
          case rel => exact ⟨k + 1, by omega, by go_num, by rw [HMT.out, HQ.out], by rw [HMT.out]; exact HLA.out.below (below_drewN (Below.refl _ _) _), below_drewN HBX.out _⟩
        | cons x t =>
          simp only [List.length_cons] at cy
          obtain ⟨b, rfl, hbk, d0, d1, d2⟩ := hc 0 x rfl
          simp only [Nat.zero_mul, Nat.add_zero] at d0 d1 d2
          have f0 := (HBW.out.cell (p := ⟨b, off, none⟩) hbk).trans d0
          have f1 := (HBW.out.cell (p := ⟨b, off + 1, none⟩) hbk).trans d1
          have f2 := (HBW.out.cell (p := ⟨b, off + 2, none⟩) hbk).trans d2
          have s3 : (0 : Int) < (((t.length : Nat) : Int) + 1) := by omega
          have s4 : decide ((0 : Int) < (((t.length : Nat) : Int) + 1)) = true := decide_eq_true s3
          have hbl : b < wr.heap.size := Nat.lt_of_lt_of_le hbk HBW.out.size
          have hgl : g < wr.heap.size := Nat.lt_of_lt_of_le hg2 HBX.out.size
          have HGO2 := Lib.hid (show wo.heap.size ≤ gl by rw [HGL.out]; exact Nat.le_refl _)
          clear d0 d1 d2 hc hml hin hyl hbk
          cases hm : minL ((els Lc).take k) with
          | none =>
            rw [hm] at hmt HLA
            have hmt2 : minL ((els Lc).take (k + 1)) = some x := hmt
            have HMT := Lib.hid hmt2
            obtain ⟨z, -, hbz⟩ := HLA.out
            have HZ := Lib.hid hbz
            clear hmt hmt2 hm hbz HLA
            simp only [Option.isSome_none]
            obtain ⟨xh, xv, xp⟩ := x
            simp only at f0 f1 f2
            go_wp2_with fail
            go_quiet (fail)
            rename_i nq _
            have cy2 : (wr.drewN nq).cell? ⟨g, k, none⟩ = some (.slice (some ⟨b, off, none⟩) (t.length + 1) cap) := cy
            have F0 : (wr.drewN nq).cell? ⟨b, off, none⟩ = some (.int .u64 (xh : Nat)) := f0
            have F1 : (wr.drewN nq).cell? ⟨b, off + 1, none⟩ = some (.int .i64 xv) := f1
            have F2 : (wr.drewN nq).cell? ⟨b, off + 2, none⟩ = some (.int .i64 xp) := f2
            have HZ2 := Lib.hid (HZ.out.drewN nq)
            have HBD := Lib.hid (below_drewN HBX.out nq)
            clear f0 f1 f2 cy fy HZ
            generalize wr.drewN nq = wq at *
            obtain ⟨z0, z1, z2, z3, z4, z5⟩ := blok3_of HZ2.out
            have HZ3 := Lib.hid (blok3_put HZ2.out (.int .u64 (xh : Nat)) (.int .i64 xv) (.int .i64 xp))
            go_wp2
            go_roundg gi
            case measure => omega
            case rel => exact ⟨k + 1, by omega, by go_num, by rw [HMT.out]; rfl, by rw [HMT.out]; exact ⟨⟨xh, xv, xp⟩, fun y hy => (Option.some.inj hy).symm, HZ3.out⟩, below_three HBD.out HGO2.out _ _ _⟩
          | some z =>
            rw [hm] at hmt HLA
            obtain ⟨z', hz', hbz⟩ := HLA.out
            obtain rfl := hz' z rfl
            have HZ := Lib.hid hbz
            obtain ⟨g0, g1, g2, -, -, -⟩ := blok3_of hbz
            have hzl : gl < wr.heap.size := hbz.lt
            have HL := fun W => less_ref x z W
            clear hm hbz hz'
            simp only [Option.isSome_some]
            cases o : lessE x z
            all_goals
              rw [o] at HL
              have HLL := Lib.hid HL
              have HO := Lib.hid o
              have HMT := Lib.hid (show minL ((els Lc).take (k + 1)) = if lessE x z = true then some x else some z from hmt)
              rw [o] at HMT
              clear HL o hmt
              obtain ⟨xh, xv, xp⟩ := x
              obtain ⟨zh, zv, zp⟩ := z
              simp only at f0 f1 f2 g0 g1 g2
              have HS : Hid (∀ W, Below wr.heap.size wr W → Below wr.heap.size wr W ∧ W.cell? ⟨g, k, none⟩ = some (.slice (some ⟨b, off, none⟩) (t.length + 1) cap) ∧ W.cell? ⟨b, off, none⟩ = some (.int .u64 (xh : Nat)) ∧ W.cell? ⟨b, off + 1, none⟩ = some (.int .i64 xv) ∧ W.cell? ⟨b, off + 2, none⟩ = some (.int .i64 xp) ∧
                W.cell? ⟨gl, 0, none⟩ = some (.int .u64 (zh : Nat)) ∧ W.cell? ⟨gl, 1, none⟩ = some (.int .i64 zv) ∧ W.cell? ⟨gl, 2, none⟩ = some (.int .i64 zp)) := Lib.hid fun W hB =>
                ⟨hB, (hB.cell (p := ⟨g, k, none⟩) hgl).trans cy, (hB.cell (p := ⟨b, off, none⟩) hbl).trans f0, (hB.cell (p := ⟨b, off + 1, none⟩) hbl).trans f1, (hB.cell (p := ⟨b, off + 2, none⟩) hbl).trans f2, (hB.cell (p := ⟨gl, 0, none⟩) hzl).trans g0, (hB.cell (p := ⟨gl, 1, none⟩) hzl).trans g1, (hB.cell (p := ⟨gl, 2, none⟩) hzl).trans g2⟩
              clear fy
              go_wp2_with fail
              go_region_held3 (fun W => Below wr.heap.size wr W ∧ W.cell? ⟨g, k, none⟩ = some (.slice (some ⟨b, off, none⟩) (t.length + 1) cap) ∧ W.cell? ⟨b, off, none⟩ = some (.int .u64 (xh : Nat)) ∧ W.cell? ⟨b, off + 1, none⟩ = some (.int .i64 xv) ∧ W.cell? ⟨b, off + 2, none⟩ = some (.int .i64 xp) ∧
                  W.cell? ⟨gl, 0, none⟩ = some (.int .u64 (zh : Nat)) ∧ W.cell? ⟨gl, 1, none⟩ = some (.int .i64 zv) ∧ W.cell? ⟨gl, 2, none⟩ = some (.int .i64 zp))
                (first | (with_reducible assumption) | ((with_reducible refine HS.out _ ?_); (first | (with_reducible assumption) | (with_reducible exact Below.refl _ _) | (with_reducible exact (Below.refl _ _).drew) | exact (bj (And.left (by with_reducible assumption)) ‹Below _ _ _›)); done) | fail)
                (first
                | (go_at_call 18; ((with_reducible refine (HLL.out _).mono ?_); rintro e w3 ⟨rfl, hb3⟩; have hB3 : Below wr.heap.size wr w3 := bj (And.left (by with_reducible assumption)) hb3))
                | fail)
              all_goals
                have HB3 := Lib.hid hB3
                have HZ2 := Lib.hid (HZ.out.touch (Touch.of_below hB3) (by simp))
                obtain ⟨-, cy2, F0, F1, F2, -, -, -⟩ := HS.out _ hB3
                obtain ⟨z0, z1, z2, z3, z4, z5⟩ := blok3_of HZ2.out
                have HZ3 := Lib.hid (blok3_put HZ2.out (.int .u64 (xh : Nat)) (.int .i64 xv) (.int .i64 xp))
                clear f0 f1 f2 g0 g1 g2 cy hB3
                go_wp2
                go_roundg gi
                case measure => omega
                case rel =>
                  first
                  | exact ⟨k + 1, by omega, by go_num, by rw [HMT.out]; rfl, by rw [HMT.out]; exact ⟨⟨zh, zv, zp⟩, fun y hy => (Option.some.inj hy).symm, HZ2.out⟩, HBX.out.trans (HB3.out.mono HBX.out.size)⟩
                  | exact ⟨k + 1, by omega, by go_num, by rw [HMT.out]; rfl, by rw [HMT.out]; exact ⟨⟨xh, xv, xp⟩, fun y hy => (Option.some.inj hy).symm, HZ3.out⟩, below_three (HBX.out.trans (HB3.out.mono HBX.out.size)) HGO2.out _ _ _⟩
end Go.Proofs.Ytmdoafmgakmjkaa
