/- The document's Add. -/
import Derived.Test.YtiaobmgafhcfnaaMtRef
import Derived.Test.YtiaobmgafhcfnaaEntSortStep
import Derived.BigQuiet
namespace Go.Proofs.Ytiaobmgafhcfnaa
open Go.RowKit Go.Shelf
set_option linter.unusedVariables false
attribute [local go_sem ↓] Go.wp_at_zero Go.wp_at_succ

/-- What the append leaves to be stored. -/
def MoreAt (w : World) (base g : Nat) (F : List Nat) (l : List EntS) (x : EntS) (v' : Value) (w' : World) : Prop := LisEnd base g F w (.bool true) (moreE l x) (.returned (.bool true)) (w'.setCell ⟨g, 0, none⟩ v')
theorem step_more {ops : Array Oper} {o : Oper} {a : Act} {w wd W : World} {K : Act → World → Prop} {Q : Exit → Act → World → Prop} {E : Prop} {vx : Value} {base g n c : Nat} {A : Option Addr} {F : List Nat} {l : List EntS} {x : EntS}
    (h : LisAt w base g F l) (hx : EntOk x) (hne : x ∉ l) (hn : l.length ≤ 100000) (hv : EntRow w base (.slice A n c) l) (hc : w.cell? ⟨g, 0, none⟩ = some (.slice A n c)) (hwd : Touch [] w wd) (hW : Below wd.heap.size wd W)
    (hgd : o.guard = none) (s x' : Operand)
    (ho : o.op = .call { callee := .builtin .append, args := #[s, x'], argTypes := #[27, 27] }) (hs : a.eval s = .slice A n c) (hxx : a.eval x' = vx) (hsrc : EntsIn W vx [x])
    (hK : ∀ A' N c' w', w'.cell? ⟨g, 0, none⟩ = some (.slice A n c) → w'.frozen? ⟨g, 0, none⟩ = false → MoreAt w base g F l x (.slice A' N c') w' → K (a.put o.dst (.slice A' N c')) w') :
    if Region.wanted o (yielded ops a.tmps) = true then Oper.wp Try.prog o a W K Q else E := by
  have hb : Below w.heap.size w W := (hwd.below (Nat.le_refl _) (fun x hx => by cases hx)).trans (hW.mono hwd.size)
  have hbase : base ≤ W.heap.size := by
    obtain ⟨v, h1, h2, h3, h4, h5, h6⟩ := h
    have := (h5 g h4).1
    have := (h5 g h4).2
    have := hb.size
    omega
  refine step_append_ents hgd s x' ho hs hxx (EntRow.below hv hb (Nat.le_refl _)) hsrc (by simp; omega) hbase fun v' w' own gr at1 => ?_
  have B1 : Blok w g 29 #[.slice A n c] := by
    obtain ⟨v, h1, h2, h3, h4, h5, h6⟩ := h
    have hvv : v = .slice A n c := by
      have := (h1.cell 0).symm.trans hc
      simpa using this
    rw [← hvv]
    exact h1
  have B2 : Blok W g 29 #[.slice A n c] := B1.touch (Touch.of_below hb) (by simp)
  have B3 : Blok w' g 29 #[.slice A n c] := (gr.block g B2.lt (fun e => own_ne hv B1 lis_ne e.symm)).trans B2
  obtain ⟨A', c', rfl, -⟩ := EntRow.shape own
  exact hK A' _ c' w' (B3.cell 0) (B3.frozen 0) (more_end h hx hne hv hc hb gr own at1)
set_option maxHeartbeats 4000000 in
set_option maxRecDepth 100000 in
theorem radd_run {w : World} {base g : Nat} {F : List Nat} {l : List EntS} {x : EntS} (h : LisAt w base g F l) (hx : EntOk x) (hn : l.length ≤ 100000) :
    Calls Try.prog 18 #[mtp g, entB x] w (LisEnd base g F w (.bool (!decide (x ∈ l))) (moreE l x)) := by
  have HT := Lib.hid h
  obtain ⟨A, c, c0, f0, hrow, hg⟩ := h.shape
  have hin := EntRow.in_ hrow
  have hT1 : Touch [] w (w.alloc (.cells #[.int .u64 (x.h : Nat), .int .i64 x.v, .int .i64 x.p] 32)) := (Touch.refl [] w).alloc _
  have E2 : EnAt (w.alloc (.cells #[.int .u64 (x.h : Nat), .int .i64 x.v, .int .i64 x.p] 32)) w.heap.size x.h x.v x.p := Blok.new _ _ _
  obtain ⟨B, hB⟩ : ∃ B, w.heap.size = B := ⟨_, rfl⟩
  rw [hB] at E2
  obtain ⟨w1, hw1⟩ : ∃ w1, w.alloc (.cells #[.int .u64 (x.h : Nat), .int .i64 x.v, .int .i64 x.p] 32) = w1 := ⟨_, rfl⟩
  rw [hw1] at E2 hT1
  have hb1 : Below w.heap.size w w1 := hT1.below (Nat.le_refl _) (fun x hx => by cases hx)
  have hin1 : EntsIn w1 (.slice A l.length c) l := hin.below hb1 (Nat.le_refl _)
  have d0 : w1.cell? ⟨g, 0, none⟩ = some (.slice A l.length c) := (hb1.cell (p := ⟨g, 0, none⟩) hg).trans c0
  obtain ⟨x0, x1, x2, -, -, -⟩ := E2.facts
  have HX := Lib.hid hx
  have HH := Lib.hid (And.intro hrow c0)
  have HTW := Lib.hid hT1
  obtain ⟨n, hnn⟩ : ∃ n, n = l.length := ⟨_, rfl⟩
  have HNN := Lib.hid hnn
  have HIN := Lib.hid hin1
  have HLN := Lib.hid hn
  rw [← hnn] at d0 hn HIN HH
  clear h hrow hin hT1 E2 hb1 hin1 c0 f0 hnn hx
  go_enter Try.func18, Try.ntmps18
  go_wp2
  go_loopw [5] (fun i wr => ∃ k m : Nat, k ≤ n ∧ i = .int .i64 k ∧ (∀ (j : Nat) (y : EntS), j < k → l[j]? = some y → y ≠ x) ∧ wr = w1.drewN m) (fun i _ => n - (intOf i).toNat)
  case atStart => exact ⟨0, 0, Nat.zero_le _, rfl, fun j y hj => absurd hj (by omega), rfl⟩
  case round =>
    obtain ⟨k, m, hk, rfl, hall, rfl⟩ := hrel
    have HA := Lib.hid hall
    clear hall
    by_cases hlt : k < n
    · have t1 : (k : Int) < (n : Int) := by omega
      obtain ⟨y, hy⟩ : ∃ y, l[k]? = some y := ⟨_, List.getElem?_eq_getElem (by rw [← HNN.out]; exact hlt)⟩
      obtain ⟨b, off, rfl, -, -, y0, y1, y2⟩ := ent_cell HIN.out hy
      have heq := fun W => ent_eql y x W
      have HY := Lib.hid hy
      by_cases hyx : y = x
      · have hm : x ∈ l := by rw [← hyx]; exact List.mem_of_getElem? hy
        rw [decide_eq_true hyx] at heq
        have HM := Lib.hid hm
        clear hm hyx hy
        obtain ⟨xh, xv, xp⟩ := x
        obtain ⟨yh, yv, yp⟩ := y
        simp only at x0 x1 x2 y0 y1 y2
        go_wp2
        go_quiet (fail)
        go_wp2
        go_ret
        rw [decide_eq_true HM.out, show moreE l ⟨xh, xv, xp⟩ = l from if_pos HM.out]
        exact ⟨F, rfl, (HT.out.touch HTW.out (fun _ _ => by simp)).drewN _ |>.drewN _, fun y hy => Or.inl hy, ((HTW.out.drewN _).drewN _).more (fun y hy => by cases hy)⟩
      · rw [decide_eq_false hyx] at heq
        have HM := Lib.hid hyx
        clear hyx hy
        obtain ⟨xh, xv, xp⟩ := x
        obtain ⟨yh, yv, yp⟩ := y
        simp only at x0 x1 x2 y0 y1 y2
        go_wp2
        go_quiet (fail)
        go_wp2
        refine ⟨⟨k + 1, _, by omega, by go_num, fun j y hj hy => ?_, rfl⟩, by simp [intOf]; omega⟩
        rcases Nat.lt_or_ge j k with c | c
        · exact HA.out j y c hy
        · obtain rfl : j = k := by omega
          rw [HY.out] at hy
          rw [← Option.some.inj hy]
          exact HM.out
    · obtain rfl : k = n := by omega
      have t1 : ¬ (k : Int) < (k : Int) := by omega
      have t2 : decide (k < k) = false := decide_eq_false (by omega)
      have hne : x ∉ l := fun hm => by
        obtain ⟨j, hj⟩ := List.getElem?_of_mem hm
        exact HA.out j x (by have := (List.getElem?_eq_some_iff.1 hj).1; rw [← HNN.out] at this; exact this) hj rfl
      have HNE := Lib.hid hne
      clear hne HA hlt
      have hTd : Touch [] w (w1.drewN m) := HTW.out.drewN m
      have HTD := Lib.hid hTd
      have hbd : Below w1.heap.size w1 (w1.drewN m) := below_drewN (Below.refl _ _) m
      have z0 : (w1.drewN m).cell? ⟨g, 0, none⟩ = some (.slice A k c) := d0
      have z1 : (w1.drewN m).cell? ⟨B, 0, none⟩ = some (.int .u64 (x.h : Nat)) := x0
      have z2 : (w1.drewN m).cell? ⟨B, 1, none⟩ = some (.int .i64 x.v) := x1
      have z3 : (w1.drewN m).cell? ⟨B, 2, none⟩ = some (.int .i64 x.p) := x2
      have hgd : g < (w1.drewN m).heap.size := Nat.lt_of_lt_of_le hg hTd.size
      clear hTd hbd d0 x0 x1 x2 hw1
      generalize w1.drewN m = wd at *
      have za : ∀ o, (wd.alloc o).cell? ⟨g, 0, none⟩ = some (.slice A k c) := fun o => (((Below.refl wd.heap.size wd).alloc (Nat.le_refl _) o).cell (p := ⟨g, 0, none⟩) hgd).trans z0
      have zb : ∀ o, (wd.drew.alloc o).cell? ⟨g, 0, none⟩ = some (.slice A k c) := za
      go_wp2
      go_region_law (first
        | (refine step_more (wd := wd) HT.out HX.out HNE.out HLN.out HH.out.1 HH.out.2 HTD.out (by repeat' (first | with_reducible assumption | with_reducible exact Below.refl _ _ | with_reducible refine Below.drew ?_ | with_reducible refine st_alloc ?_ _)) (by rfl) _ _ (by rfl) (by rfl) (by rfl) (by first | exact ent_one _ x | exact (ent_one _ x).drew | exact (ent_one _ x).drew.drew) ?_; intro A1 N1 c1 V1 k1 f1 hfin; have HFIN := Lib.hid hfin; clear hfin)
        | fail)
      all_goals
        go_wp2
        go_ret
        rw [decide_eq_false HNE.out]
        exact HFIN.out
end Go.Proofs.Ytiaobmgafhcfnaa
