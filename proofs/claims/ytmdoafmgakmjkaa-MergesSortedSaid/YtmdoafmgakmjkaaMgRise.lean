/- What the statements ask of lists that came in: whether they are too many, those entries that rise. -/
import Derived.Test.YtmdoafmgakmjkaaMgMerge
import Derived.Test.YtmdoafmgakmjkaaEntCells
namespace Go.Proofs.Ytmdoafmgakmjkaa
open Go.RowKit Go.Shelf
set_option linter.unusedVariables false
set_option maxRecDepth 100000

/-- No more than is gone through. -/
def Few (L : List LstS) : Prop := L.length ≤ 12 ∧ ∀ x ∈ L, x.l.length ≤ 60
theorem few_tot {L : List LstS} (h : Few L) : totL (els L) ≤ 720 := by
  have h1 := tot_all (L := els L) (b := 60) (fun l hl => by obtain ⟨x, hx, rfl⟩ := List.mem_map.1 hl; exact h.2 x hx)
  rw [els_length] at h1
  have := h.1
  omega
def GreatEnd (w : World) (L : List LstS) (e : Ending) (w' : World) : Prop := ∃ q : Bool, e = .returned (.bool q) ∧ w = w' ∧ (q = false → Few L)
set_option maxHeartbeats 1000000 in
theorem great_any (v : Value) (L : List LstS) (w : World) (hL : ListsIn w v L) : Calls Try.prog 6 #[v] w (GreatEnd w L) := by
  obtain ⟨A, off, cap, rfl, hmx, hcell⟩ := hL.1.form
  have HC := Lib.hid hcell
  have HE := Lib.hid hL.2
  have HGE : Hid (∀ q : Bool, (q = false → Few L) → GreatEnd w L (.returned (.bool q)) w) := Lib.hid fun q h => ⟨q, rfl, rfl, h⟩
  have HF := Lib.hid (show L.length ≤ 12 → (∀ i x, i < L.length → L[i]? = some x → x.l.length ≤ 60) → Few L from fun h1 h2 => ⟨h1, fun x hx => by
    obtain ⟨i, hi⟩ := List.getElem?_of_mem hx
    exact h2 i x (List.getElem?_eq_some_iff.1 hi).1 hi⟩)
  obtain ⟨n, hnn⟩ : ∃ n, n = L.length := ⟨_, rfl⟩
  have HN := Lib.hid hnn
  rw [← hnn] at hmx HF ⊢
  clear hL hcell hnn
  by_cases hn : n ≤ 12
  case neg =>
    have t1 : (12 : Int) < (n : Int) := by omega
    have t2 : 12 < n := by omega
    clear hmx hn
    go_enter Try.func6, Try.ntmps6
    go_wp2
    go_ret
    exact HGE.out true (fun h => (by cases h))
  have t1 : ¬ (12 : Int) < (n : Int) := by omega
  have t2 : decide (12 < n) = false := decide_eq_false (by omega)
  clear hmx
  go_enter Try.func6, Try.ntmps6
  go_wp2
  go_loopw [3] (fun i wr => ∃ k : Nat, k ≤ n ∧ i = .int .i64 k ∧ (∀ i x, i < k → L[i]? = some x → x.l.length ≤ 60) ∧ w = wr) (fun i _ => n - (intOf i).toNat)
  case atStart => exact ⟨0, Nat.zero_le _, rfl, fun i x h => absurd h (Nat.not_lt_zero _), rfl⟩
  case round =>
    obtain ⟨k, hk, rfl, hall, rfl⟩ := hrel
    have HA := Lib.hid hall
    clear hall
    by_cases hlt : k < n
    · have s1 : (k : Int) < (n : Int) := by omega
      obtain ⟨y, hy⟩ : ∃ y, L[k]? = some y := ⟨_, List.getElem?_eq_getElem (by rw [← HN.out]; exact hlt)⟩
      obtain ⟨b, rfl, -, cy⟩ := HC.out k y hy
      have hin := HE.out y (List.mem_of_getElem? hy)
      have HY := Lib.hid hy
      clear hy
      obtain ⟨yv, yl⟩ := y
      simp only at cy hin
      obtain ⟨B, o2, c2, rfl, hm2, -⟩ := hin.form
      obtain ⟨m, hm⟩ : ∃ m, m = yl.length := ⟨_, rfl⟩
      have HM := Lib.hid hm
      rw [← hm] at cy hm2
      clear hm hin
      unfold maxLen at hm2
      by_cases h60 : m ≤ 60
      · have u1 : ¬ (60 : Int) < (m : Int) := by omega
        have u2 : decide (60 < m) = false := decide_eq_false (by omega)
        go_wp2
        go_roundw
        case rel => exact ⟨k + 1, by omega, by go_num, fun i x hi hx => by
          rcases Nat.lt_or_ge i k with c | c
          · exact HA.out i x c hx
          · obtain rfl : i = k := by omega
            rw [HY.out] at hx
            rw [← Option.some.inj hx]
            show yl.length ≤ 60
            rw [← HM.out]
            exact h60, by first | rfl | trivial⟩
        case measure => simp [intOf]; omega
      · have u1 : (60 : Int) < (m : Int) := by omega
        have u2 : 60 < m := by omega
        clear hm2
        go_wp2
        go_ret
        exact HGE.out true (fun h => (by cases h))
    · obtain rfl : k = n := by omega
      have s1 : ¬ (k : Int) < (k : Int) := by omega
      clear hlt
      go_wp2
      go_ret
      exact HGE.out false (fun _ => HF.out hn (fun i x hi hx => HA.out i x hi hx))

/-- Each of them a row of a call's own. -/
def EachR (w : World) (base : Nat) (M : List LstS) : Prop := ∀ x ∈ M, EntRow w base x.v x.l
theorem EachR.each {w : World} {base : Nat} {M : List LstS} (h : EachR w base M) : Each w M := fun x hx => EntRow.in_ (h x hx)
theorem EachR.below {w w' : World} {base B : Nat} {M : List LstS} (h : EachR w base M) (hb : Below B w w') (hB : w.heap.size ≤ B) : EachR w' base M := fun x hx => EntRow.below (h x hx) hb hB
theorem EachR.grown {w w' : World} {base base' : Nat} {M L : List LstS} {u : Value} (h : EachR w base M) (hr : LRow w base' u L) (hg : w.grownBy w' u.ownBlock) : EachR w' base M := fun x hx => EntRow.grown_l (h x hx) hr hg
theorem EachR.more {w : World} {base : Nat} {M : List LstS} {x : LstS} (h : EachR w base M) (hx : EntRow w base x.v x.l) : EachR w base (M ++ [x]) := fun y hy => by
  rcases List.mem_append.1 hy with hy | hy
  · exact h y hy
  · rw [List.mem_singleton.1 hy]; exact hx
/-- One list more of a call's own. -/
theorem lists_more {w : World} {base n c : Nat} {A : Option Addr} {M : List LstS} {x : LstS} (hrow : LRow w base (.slice A n c) M) (hn : n = M.length) (he : EachR w base M) (hx : EntRow w base x.v x.l) (hl : n + 1 ≤ 1000000) (hb : base ≤ w.heap.size) (ty : TypeId) :
    ∃ w' u, (Builtin.append_ #[22, 22] ty #[.slice A n c, .slice (some ⟨w.heap.size, 0, none⟩) 1 1]).run Try.prog (w.alloc (.cells #[x.v] 25)) = .ok u w' ∧
      (∃ A' c', u = .slice A' (n + 1) c' ∧ LRow w' base (.slice A' (n + 1) c') (M ++ [x])) ∧ EachR w' base (M ++ [x]) ∧ Below base w w' := by
  subst hn
  have ha := (Below.refl w.heap.size w).alloc (Nat.le_refl _) (.cells #[x.v] 25)
  have h1 := LRow.below hrow ha (Nat.le_refl _)
  have h2 := he.below ha (Nat.le_refl _)
  have h3 := EntRow.below hx ha (Nat.le_refl _)
  obtain ⟨A', c', w', e1, e2, e3, -⟩ := lists_append h1 (lst_one w x) (fun u hu => by
    obtain ⟨y, hy, rfl⟩ := List.mem_map.1 hu
    rw [List.mem_singleton.1 hy]
    obtain ⟨B, o, cp, e, -, -⟩ := (EntRow.in_ hx).form
    rw [e]
    rfl) (by simpa using hl) (by simp; omega) ty
  exact ⟨w', _, e1, ⟨A', c', rfl, e2⟩, (h2.grown h1 e3).more (EntRow.grown_l h3 h1 e3), ((Below.refl base w).alloc hb _).trans (grown_below e3 (by simp; omega) (LRow.block h1))⟩
def RisesEnd (w : World) (L : List LstS) (e : Ending) (w' : World) : Prop := ∃ (M : List LstS) (A : Option Addr) (c : Nat), e = .returned (.slice A L.length c) ∧ LRow w' w.heap.size (.slice A L.length c) M ∧ EachR w' w.heap.size M ∧ els M = (els L).map riseL ∧ Below w.heap.size w w'
theorem rises_length {M L : List LstS} (h : els M = (els L).map riseL) : M.length = L.length := by
  have := congrArg List.length h
  rw [els_length, List.length_map, els_length] at this
  exact this
theorem rise_none {a : List EntS} (x : EntS) (h : a = []) : riseStep a x = a ++ [x] := by subst h; rfl
theorem rise_yes {a : List EntS} {x y : EntS} (h : a.getLast? = some y) (hl : lessE y x = true) : riseStep a x = a ++ [x] := by unfold riseStep; rw [h]; exact if_pos hl
theorem rise_no {a : List EntS} {x y : EntS} (h : a.getLast? = some y) (hl : lessE y x = false) : riseStep a x = a := by unfold riseStep; rw [h]; exact if_neg (by rw [hl]; decide)
/-- One entry more of a call's own. -/
theorem ents_more {w : World} {base n c : Nat} {A : Option Addr} {l : List EntS} {x : EntS} (hrow : EntRow w base (.slice A n c) l) (hn : n = l.length) (hl : n + 1 ≤ 1000000) (hb : base ≤ w.heap.size) (ty : TypeId) :
    ∃ w' u, (Builtin.append_ #[25, 25] ty #[.slice A n c, .slice (some ⟨w.heap.size, 0, none⟩) 1 1]).run Try.prog (w.alloc (.cells #[.int .u64 (x.h : Nat), .int .i64 x.v, .int .i64 x.p] 30)) = .ok u w' ∧
      (∃ A' c', u = .slice A' (n + 1) c' ∧ EntRow w' base (.slice A' (n + 1) c') (l ++ [x])) ∧ Below base w w' := by
  subst hn
  have hrow1 : EntRow (w.alloc (.cells #[.int .u64 (x.h : Nat), .int .i64 x.v, .int .i64 x.p] 30)) base (.slice A l.length c) l := EntRow.below hrow ((Below.refl w.heap.size w).alloc (Nat.le_refl _) _) (Nat.le_refl _)
  obtain ⟨A', c', w', e1, e2, e3, -⟩ := ents_append hrow1 (ent_one w x) (by simpa using hl) (by simp; omega) ty
  exact ⟨w', _, e1, ⟨A', c', rfl, e2⟩, ((Below.refl base w).alloc hb _).trans (grown_below e3 (by simp; omega) (EntRow.block hrow1))⟩
set_option maxHeartbeats 4000000 in
theorem rising_any (v : Value) (L : List LstS) (w : World) (hL : ListsIn w v L) (hf : Few L) : Calls Try.prog 11 #[v] w (RisesEnd w L) := by
  obtain ⟨A, off, cap, rfl, -, hcell⟩ := hL.1.form
  have HC := Lib.hid hcell
  have HE := Lib.hid hL.2
  have HFW := Lib.hid hf.2
  have HEND := Lib.hid (show ∀ (M : List LstS) (A : Option Addr) (c : Nat) (w' : World), LRow w' w.heap.size (.slice A L.length c) M → EachR w' w.heap.size M → els M = ((els L).take L.length).map riseL → Below w.heap.size w w' → RisesEnd w L (.returned (.slice A L.length c)) w' from
    fun M A c w' h1 h2 h3 h4 => ⟨M, A, c, rfl, h1, h2, by rw [h3, show (els L).take L.length = els L from List.take_of_length_le (by rw [els_length]; exact Nat.le_refl _)], h4⟩)
  have hn := hf.1
  obtain ⟨n, hnn⟩ : ∃ n, n = L.length := ⟨_, rfl⟩
  have HN := Lib.hid hnn
  rw [← hnn] at hn HEND ⊢
  clear hL hcell hnn hf
  go_enter Try.func11, Try.ntmps11
  go_wp2
  go_loopg [3, 4] n (fun g u i wr => ∃ (k : Nat) (M : List LstS) (A : Option Addr) (c : Nat), k + g = n ∧ i = .int .i64 k ∧ u = .slice A k c ∧ LRow wr w.heap.size (.slice A k c) M ∧ EachR wr w.heap.size M ∧ els M = ((els L).take k).map riseL ∧ Below w.heap.size w wr)
  case atStart => exact ⟨0, [], none, 0, by omega, rfl, rfl, LRow.nil _ _, fun x hx => (by cases hx), rfl, Below.refl _ _⟩
  case round =>
    obtain ⟨k, M, A1, c1, hkg, rfl, rfl, hrow, heach, hels, hbel⟩ := hrel
    obtain ⟨wo, rfl⟩ : ∃ wo, wo = wr := ⟨_, rfl⟩
    have HROW := Lib.hid hrow
    have HEA := Lib.hid heach
    have HELS := Lib.hid hels
    have HBEL := Lib.hid hbel
    clear hrow heach hels hbel
    cases gk with
    | zero =>
      obtain rfl : k = n := by omega
      have s1 : ¬ (k : Int) < (k : Int) := by omega
      go_wp2
      go_ret
      exact HEND.out M A1 c1 wo HROW.out HEA.out HELS.out HBEL.out
    | succ gi =>
      have hkn : k < n := by omega
      have s1 : (k : Int) < (n : Int) := by omega
      obtain ⟨y, hy⟩ : ∃ y, L[k]? = some y := ⟨_, List.getElem?_eq_getElem (by rw [← HN.out]; exact hkn)⟩
      have HYL := Lib.hid (els_at hy)
      have hml := HFW.out y (List.mem_of_getElem? hy)
      obtain ⟨b, rfl, hbk, cy⟩ := HC.out k y hy
      have hin := HE.out y (List.mem_of_getElem? hy)
      clear hy
      obtain ⟨yv, yl⟩ := y
      simp only at cy hin hml HYL
      obtain ⟨B, o2, c2, rfl, -, hc2⟩ := hin.form
      have HC2 := Lib.hid hc2
      have HTK := Lib.hid (show riseL (yl.take yl.length) = riseL yl by rw [List.take_length])
      have HLEN := Lib.hid (show ∀ j, (riseL (yl.take j)).length ≤ 60 from fun j => by
        have := riseL_length (yl.take j)
        rw [List.length_take] at this
        omega)
      obtain ⟨m, hm⟩ : ∃ m, m = yl.length := ⟨_, rfl⟩
      have HM := Lib.hid hm
      rw [← hm] at cy hml HTK
      have HCY := Lib.hid (show ∀ W, Below wo.heap.size wo W → W.cell? ⟨b, off + k, none⟩ = some (.slice B m c2) from fun W hW => ((HBEL.out.trans (hW.mono HBEL.out.size)).cell (p := ⟨b, off + k, none⟩) hbk).trans cy)
      clear hm hin hc2 cy
      go_wp2
      go_loopg [5, 6] m (fun g2 u i wx => ∃ (j : Nat) (A : Option Addr) (c : Nat), j + g2 = m ∧ i = .int .i64 j ∧ u = .slice A (riseL (yl.take j)).length c ∧ EntRow wx wo.heap.size (.slice A (riseL (yl.take j)).length c) (riseL (yl.take j)) ∧ Below wo.heap.size wo wx)
      case atStart => exact ⟨0, none, 0, by omega, rfl, rfl, EntRow.nil _ _, Below.refl _ _⟩
      case round =>
        obtain ⟨j, A2, c2', hjg, rfl, rfl, hr, hb⟩ := hrel
        have HR := Lib.hid hr
        have HB := Lib.hid hb
        have cy := HCY.out wr hb
        clear hr hb
        cases gk with
        | zero =>
          obtain rfl : j = m := by omega
          have s2 : ¬ (j : Int) < (j : Int) := by omega
          rw [HTK.out] at HR ⊢
          have hMl : k = M.length := by have := congrArg List.length HELS.out; rw [els_length, List.length_map, List.length_take, els_length, ← HN.out] at this; omega
          obtain ⟨w', u, e1, e2, e3, e4⟩ := lists_more (x := ⟨.slice A2 (riseL yl).length c2', riseL yl⟩) (LRow.below HROW.out HB.out (Nat.le_refl _)) hMl (HEA.out.below HB.out (Nat.le_refl _)) (EntRow.down HR.out HBEL.out.size) (by omega) (Nat.le_trans HBEL.out.size HB.out.size) 22
          have HE1 := Lib.hid e1
          have HE2 := Lib.hid (show ∃ (M' : List LstS) (A' : Option Addr) (c' : Nat), u = .slice A' (k + 1) c' ∧ LRow w' w.heap.size (.slice A' (k + 1) c') M' ∧ EachR w' w.heap.size M' ∧ els M' = ((els L).take (k + 1)).map riseL ∧ Below w.heap.size w w' by
            obtain ⟨A', c', rfl, e2⟩ := e2
            refine ⟨_, A', c', rfl, e2, e3, ?_, (HBEL.out.trans (HB.out.mono HBEL.out.size)).trans e4⟩
            unfold els at *
            rw [List.take_add_one, HYL.out, List.map_append, List.map_append, HELS.out]
            rfl)
          simp only at HE1
          generalize (riseL yl).length = ll at *
          clear e1 e2 e3 e4 hMl
          go_wp2_with (first | (at_builtin; refine wpList_append_two rfl _ _ rfl rfl rfl HE1.out ?_) | fail)
          go_roundg gi
          case measure => omega
          case rel =>
            obtain ⟨M', A', c', h1, h2⟩ := HE2.out
            exact ⟨k + 1, M', A', c', by omega, by go_num, h1, h2⟩
        | succ gj =>
          have hjm : j < m := by omega
          have s2 : (j : Int) < (m : Int) := by omega
          obtain ⟨x, hx⟩ : ∃ x, yl[j]? = some x := ⟨_, List.getElem?_eq_getElem (by rw [← HM.out]; exact hjm)⟩
          have HTN := Lib.hid (rise_take hx)
          obtain ⟨b2, rfl, hbk2, d0, d1, d2⟩ := HC2.out j x hx
          have HBW := Lib.hid (show Below w.heap.size w wr from HBEL.out.trans (HB.out.mono HBEL.out.size))
          have f0 := (HBW.out.cell (p := ⟨b2, o2 + j * 3, none⟩) hbk2).trans d0
          have f1 := (HBW.out.cell (p := ⟨b2, o2 + j * 3 + 1, none⟩) hbk2).trans d1
          have f2 := (HBW.out.cell (p := ⟨b2, o2 + j * 3 + 2, none⟩) hbk2).trans d2
          have hl60 := HLEN.out j
          clear hx d0 d1 d2
          have HNEXT := Lib.hid (show ∀ (w' : World) (u : Value), (∃ A' c', u = .slice A' ((riseL (yl.take j)).length + 1) c' ∧ EntRow w' wo.heap.size (.slice A' ((riseL (yl.take j)).length + 1) c') (riseL (yl.take j) ++ [x])) → riseStep (riseL (yl.take j)) x = riseL (yl.take j) ++ [x] → Below wo.heap.size wo w' →
            ∃ (A : Option Addr) (c : Nat), u = .slice A (riseL (yl.take (j + 1))).length c ∧ EntRow w' wo.heap.size (.slice A (riseL (yl.take (j + 1))).length c) (riseL (yl.take (j + 1))) ∧ Below wo.heap.size wo w' from fun w' u h1 h2 h3 => by
              obtain ⟨A', c', rfl, h4⟩ := h1
              rw [HTN.out, h2, List.length_append, List.length_singleton]
              exact ⟨A', c', rfl, h4, h3⟩)
          have HSTAY := Lib.hid (show ∀ (w' : World), EntRow w' wo.heap.size (.slice A2 (riseL (yl.take j)).length c2') (riseL (yl.take j)) → riseStep (riseL (yl.take j)) x = riseL (yl.take j) → Below wo.heap.size wo w' →
            ∃ (A : Option Addr) (c : Nat), Value.slice A2 (riseL (yl.take j)).length c2' = .slice A (riseL (yl.take (j + 1))).length c ∧ EntRow w' wo.heap.size (.slice A (riseL (yl.take (j + 1))).length c) (riseL (yl.take (j + 1))) ∧ Below wo.heap.size wo w' from fun w' h1 h2 h3 => by
              rw [HTN.out, h2]
              exact ⟨A2, c2', rfl, h1, h3⟩)
          generalize riseL (yl.take j) = T at *
          obtain ⟨tl, htl⟩ : ∃ tl, tl = T.length := ⟨_, rfl⟩
          have HTL := Lib.hid htl
          rw [← htl] at HR HNEXT HSTAY hl60 ⊢
          by_cases h0 : T = []
          · have HT0 := Lib.hid h0
            obtain rfl : tl = 0 := by rw [htl, h0]; rfl
            clear h0 htl
            go_wp2_with fail
            go_quiet (fail)
            rename_i nq _
            have cy2 : (wr.drewN nq).cell? ⟨b, off + k, none⟩ = some (.slice (some ⟨b2, o2, none⟩) m c2) := cy
            have F0 : (wr.drewN nq).cell? ⟨b2, o2 + j * 3, none⟩ = some (.int .u64 (x.h : Nat)) := f0
            have F1 : (wr.drewN nq).cell? ⟨b2, o2 + j * 3 + 1, none⟩ = some (.int .i64 x.v) := f1
            have F2 : (wr.drewN nq).cell? ⟨b2, o2 + j * 3 + 2, none⟩ = some (.int .i64 x.p) := f2
            have hb2 := below_drewN HB.out nq
            have hr2 := EntRow.below HR.out (below_drewN (Below.refl wr.heap.size wr) nq) (Nat.le_refl _)
            clear f0 f1 f2 cy
            generalize wr.drewN nq = wq at *
            obtain ⟨w', u, e1, e2, e3⟩ := ents_more (x := x) hr2 HTL.out (by omega) hb2.size 25
            have HE1 := Lib.hid e1
            have HE2 := Lib.hid (HNEXT.out w' u e2 (rise_none x HT0.out) (hb2.trans e3))
            clear e1 e2 e3 hr2 hb2
            obtain ⟨xh, xv, xp⟩ := x
            simp only at F0 F1 F2 HE1
            go_wp2_with (first | (at_builtin; refine wpList_append_two rfl _ _ rfl rfl rfl HE1.out ?_) | fail)
            go_roundg gj
            case measure => omega
            case rel =>
              obtain ⟨A', c', h1, h2, h3⟩ := HE2.out
              exact ⟨j + 1, A', c', by omega, by go_num, h1, h2, h3⟩
          · obtain ⟨p, hp⟩ : ∃ p, T.length = p + 1 := ⟨T.length - 1, by have := List.length_pos_iff.2 h0; omega⟩
            obtain ⟨z, hz⟩ : ∃ z, T[p]? = some z := ⟨_, List.getElem?_eq_getElem (by omega)⟩
            have HLAST := Lib.hid (show T.getLast? = some z by rw [last_at hp, hz])
            obtain ⟨b3, o3, rfl, -, hbk3, g0, g1, g2⟩ := ent_cell (EntRow.in_ HR.out) hz
            have htp : tl = p + 1 := htl.trans hp
            have q1 : (tl : Int) - 1 = (p : Int) := by omega
            have q2 : ((tl : Int) == 0) = false := beq_eq_false_iff_ne.2 (by omega)
            have q3 : IntKind.i64.wrap ((p : Nat) : Int) = (p : Nat) := IntWalk.i64_in _ ⟨by omega, by omega⟩
            have q4 : (p : Int) < (tl : Int) := by omega
            have HLL := fun W => eless_any z x W
            have hbl : b < wr.heap.size := Nat.lt_of_lt_of_le hbk HBW.out.size
            have hbl2 : b2 < wr.heap.size := Nat.lt_of_lt_of_le hbk2 HBW.out.size
            clear h0 hp hz htl htp
            cases o : lessE z x
            all_goals
              rw [o] at HLL
              have HL := Lib.hid HLL
              have HO := Lib.hid o
              clear HLL o
              obtain ⟨xh, xv, xp⟩ := x
              obtain ⟨zh, zv, zp⟩ := z
              simp only at f0 f1 f2 g0 g1 g2
              have HS : Hid (∀ W, Below wr.heap.size wr W → Below wr.heap.size wr W ∧ W.cell? ⟨b, off + k, none⟩ = some (.slice (some ⟨b2, o2, none⟩) m c2) ∧ W.cell? ⟨b2, o2 + j * 3, none⟩ = some (.int .u64 (xh : Nat)) ∧ W.cell? ⟨b2, o2 + j * 3 + 1, none⟩ = some (.int .i64 xv) ∧ W.cell? ⟨b2, o2 + j * 3 + 2, none⟩ = some (.int .i64 xp) ∧
                W.cell? ⟨b3, o3 + p * 3, none⟩ = some (.int .u64 (zh : Nat)) ∧ W.cell? ⟨b3, o3 + p * 3 + 1, none⟩ = some (.int .i64 zv) ∧ W.cell? ⟨b3, o3 + p * 3 + 2, none⟩ = some (.int .i64 zp)) := Lib.hid fun W hB =>
                ⟨hB, (hB.cell (p := ⟨b, off + k, none⟩) hbl).trans cy, (hB.cell (p := ⟨b2, o2 + j * 3, none⟩) hbl2).trans f0, (hB.cell (p := ⟨b2, o2 + j * 3 + 1, none⟩) hbl2).trans f1, (hB.cell (p := ⟨b2, o2 + j * 3 + 2, none⟩) hbl2).trans f2, (hB.cell (p := ⟨b3, o3 + p * 3, none⟩) hbk3).trans g0, (hB.cell (p := ⟨b3, o3 + p * 3 + 1, none⟩) hbk3).trans g1, (hB.cell (p := ⟨b3, o3 + p * 3 + 2, none⟩) hbk3).trans g2⟩
              go_wp2_with fail
              go_region_held3 (fun W => Below wr.heap.size wr W ∧ W.cell? ⟨b, off + k, none⟩ = some (.slice (some ⟨b2, o2, none⟩) m c2) ∧ W.cell? ⟨b2, o2 + j * 3, none⟩ = some (.int .u64 (xh : Nat)) ∧ W.cell? ⟨b2, o2 + j * 3 + 1, none⟩ = some (.int .i64 xv) ∧ W.cell? ⟨b2, o2 + j * 3 + 2, none⟩ = some (.int .i64 xp) ∧
                  W.cell? ⟨b3, o3 + p * 3, none⟩ = some (.int .u64 (zh : Nat)) ∧ W.cell? ⟨b3, o3 + p * 3 + 1, none⟩ = some (.int .i64 zv) ∧ W.cell? ⟨b3, o3 + p * 3 + 2, none⟩ = some (.int .i64 zp))
                (first | (with_reducible assumption) | ((with_reducible refine HS.out _ ?_); (first | (with_reducible assumption) | (with_reducible exact Below.refl _ _) | (with_reducible exact (Below.refl _ _).drew) | exact (bj (And.left (by with_reducible assumption)) ‹Below _ _ _›)); done) | fail)
                (first
                | (go_at_call 14; ((with_reducible refine (HL.out _).mono ?_); rintro e w3 ⟨rfl, hb3⟩; have hB3 : Below wr.heap.size wr w3 := bj (And.left (by with_reducible assumption)) hb3))
                | fail)
              all_goals
                obtain ⟨-, cy2, F0, F1, F2, -, -, -⟩ := HS.out _ hB3
                have HB3 := Lib.hid hB3
                have HR3 := Lib.hid (EntRow.below HR.out hB3 (Nat.le_refl _))
                have hbo : Below wo.heap.size wo w3 := HB.out.trans (hB3.mono HB.out.size)
                have HBO := Lib.hid hbo
                obtain ⟨w', u, e1, e2, e3⟩ := ents_more (x := ⟨xh, xv, xp⟩) HR3.out HTL.out (by omega) hbo.size 25
                have HE1 := Lib.hid e1
                have HYES := Lib.hid (fun h => HNEXT.out w' u e2 (rise_yes HLAST.out h) (hbo.trans e3))
                have HNO := Lib.hid (fun h => HSTAY.out w3 HR3.out (rise_no HLAST.out h) hbo)
                clear e1 e2 e3 hB3 hbo f0 f1 f2 g0 g1 g2 cy
                simp only at HE1
                go_wp2_with (first | (at_builtin; refine wpList_append_two rfl _ _ rfl rfl rfl HE1.out ?_) | fail)
                go_roundg gj
                case measure => omega
                case rel =>
                  first
                  | (obtain ⟨A', c', h1, h2, h3⟩ := HYES.out HO.out
                     exact ⟨j + 1, A', c', by omega, by go_num, h1, h2, h3⟩)
                  | (obtain ⟨A', c', h1, h2, h3⟩ := HNO.out HO.out
                     exact ⟨j + 1, A', c', by omega, by go_num, h1, h2, h3⟩)
end Go.Proofs.Ytmdoafmgakmjkaa
