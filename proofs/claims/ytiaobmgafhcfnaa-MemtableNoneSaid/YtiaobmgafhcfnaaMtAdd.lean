/- Add: the program's. -/
import Derived.Test.YtiaobmgafhcfnaaMtLaid
import Derived.Test.YtiaobmgafhcfnaaMtSearch
import Derived.Test.YtiaobmgafhcfnaaMtAddAsk
namespace Go.Proofs.Ytiaobmgafhcfnaa
open Go.RowKit Go.Shelf
set_option linter.unusedVariables false
attribute [local go_sem ↓] Go.wp_at_zero Go.wp_at_succ

theorem TabEnd.since {w W : World} {base g : Nat} {F : List Nat} {r : Value} {l : List EntS} {e : Ending} {w' : World} (h : TabEnd base g F W r l e w') (ht : Touch [] w W) : TabEnd base g F w r l e w' := by
  obtain ⟨F', h1, h2, h3, h4⟩ := h
  refine ⟨F', h1, h2, fun x hx => ?_, (ht.more (G := F) (fun x hx => by cases hx)).trans h4 (fun x hx => Or.inl hx)⟩
  rcases h3 x hx with k | k
  · exact Or.inl k
  · exact Or.inr (Nat.le_trans ht.size k)
theorem TabEnd.same {w W : World} {base g : Nat} {F : List Nat} {r : Value} {l : List EntS} (h : TabAt W base g F l) (ht : Touch [] w W) : TabEnd base g F w r l (.returned r) W :=
  ⟨F, rfl, h, fun x hx => Or.inl hx, ht.more (fun x hx => by cases hx)⟩
set_option maxHeartbeats 4000000 in
set_option maxRecDepth 100000 in
theorem add_run {w : World} {base g : Nat} {F : List Nat} {l : List EntS} {x : EntS} (h : TabAt w base g F l) (hx : EntOk x) (hn : l.length ≤ 100000) :
    Calls Try.prog 17 #[mtp g, entB x] w (TabEnd base g F w (.bool (!decide (x ∈ l))) (layEn l x)) := by
  have HT := Lib.hid h
  obtain ⟨A, c, c0, c1, -, hrow, hg⟩ := h.shape
  have hr : RiseE l := by obtain ⟨v, h1, h2, h3, h4, h5, h6, h7⟩ := h; exact h6
  have hin := EntRow.in_ hrow
  have hT1 : Touch [] w ((w.alloc (.cells #[mtp g] 24)).alloc (.cells #[.int .u64 (x.h : Nat), .int .i64 x.v, .int .i64 x.p] 32)) := ((Touch.refl [] w).alloc _).alloc _
  have E1 : Blok ((w.alloc (.cells #[mtp g] 24)).alloc (.cells #[.int .u64 (x.h : Nat), .int .i64 x.v, .int .i64 x.p] 32)) w.heap.size 24 #[mtp g] := Blok.alloc (Blok.new _ _ _) _
  have E2 : EnAt ((w.alloc (.cells #[mtp g] 24)).alloc (.cells #[.int .u64 (x.h : Nat), .int .i64 x.v, .int .i64 x.p] 32)) (w.heap.size + 1) x.h x.v x.p := by
    have := Blok.new (w.alloc (.cells #[mtp g] 24)) 32 #[.int .u64 (x.h : Nat), .int .i64 x.v, .int .i64 x.p]
    rw [show (w.alloc (.cells #[mtp g] 24)).heap.size = w.heap.size + 1 by simp] at this
    exact this
  obtain ⟨B, hB⟩ : ∃ B, w.heap.size = B := ⟨_, rfl⟩
  rw [hB] at E1 E2
  obtain ⟨w2, hw2⟩ : ∃ w2, (w.alloc (.cells #[mtp g] 24)).alloc (.cells #[.int .u64 (x.h : Nat), .int .i64 x.v, .int .i64 x.p] 32) = w2 := ⟨_, rfl⟩
  rw [hw2] at E1 E2 hT1
  have hb1 : Below w.heap.size w w2 := hT1.below (Nat.le_refl _) (fun x hx => by cases hx)
  have hin2 : EntsIn w2 (.slice A l.length c) l := hin.below hb1 (Nat.le_refl _)
  have q : ∀ {p : Addr} {u : Value}, w.cell? p = some u → w2.cell? p = some u := fun {p u} k => (hb1.cell (p := p) (World.block_lt_of_cell? w _ k)).trans k
  have d0 := q c0
  have d1 := q c1
  have e0 := E1.cell 0
  obtain ⟨x0, x1, x2, -, -, -⟩ := E2.facts
  have hK := posE_le l x
  obtain ⟨n, hnn⟩ : ∃ n, n = l.length := ⟨_, rfl⟩
  obtain ⟨K, hKK⟩ : ∃ K, K = posE l x := ⟨_, rfl⟩
  have HF := Lib.hid hin2.form
  have HIN := Lib.hid hin2
  rw [← hnn] at c1 d1 hin2 hn hK HIN
  rw [← hKK] at hK
  have hen : Enters Try.prog 29 := aq_enters
  have hmf : ∀ (fn : Fn) (first cap : Array Value) (w : World), (Instr.makeFunc fn first cap).run Try.prog w = .ok (.func fn first cap) w := fun _ _ _ _ => rfl
  have HSE : Hid (Calls Try.prog 28 #[.int .i64 (n : Nat), .func (.func 29) #[] #[mtp B, mtp (B + 1)]] w2 (AtEnd K w2)) := Lib.hid (by
    refine ssearch_any _ _ _ n K w2 (by omega) hK hen (fun i W hi hW => ?_)
    obtain ⟨y, hy⟩ : ∃ y, l[i]? = some y := ⟨_, List.getElem?_eq_getElem (by rw [← hnn]; exact hi)⟩
    obtain ⟨b, off, rfl, -, -, y0, y1, y2⟩ := ent_cell HIN.out hy
    have hA : AskAt w2 B (B + 1) g b (off + i * 3) (.slice (some ⟨b, off, none⟩) n c) x y := ⟨e0, d1, x0, x1, x2, y0, y1, y2⟩
    have := addq_any B (B + 1) g b off n c i x y W hi (by omega) (hA.below hW)
    rw [pos_ask hr hy, ← hKK] at this
    exact this)
  have hno := Lib.hid (tnone_run d0)
  have HLAY : Hid (∀ W, Below w2.heap.size w2 W → x ∉ l → Calls Try.prog 31 #[mtp g, .int .i64 (K : Nat), entB x] W (TabEnd base g F W (.tuple #[]) (layEn l x))) := Lib.hid fun W hW hne => by
    have hA : TabAt W base g F l := (HT.out.touch hT1 (fun _ _ => by simp)).below hW
    have := lay_run hA hx (by rw [← hnn]; exact hn) hne
    rw [← hKK] at this
    exact this
  have HSW : Hid (∀ W, Below w2.heap.size w2 W → W.cell? ⟨B, 0, none⟩ = some (mtp g) ∧ W.cell? ⟨g, 1, none⟩ = some (.slice A n c) ∧ W.cell? ⟨B + 1, 0, none⟩ = some (.int .u64 (x.h : Nat)) ∧ W.cell? ⟨B + 1, 1, none⟩ = some (.int .i64 x.v) ∧ W.cell? ⟨B + 1, 2, none⟩ = some (.int .i64 x.p)) := Lib.hid fun W hW => by
    have q : ∀ {p : Addr} {u : Value}, w2.cell? p = some u → W.cell? p = some u := fun {p u} k => (hW.cell (p := p) (World.block_lt_of_cell? w2 _ k)).trans k
    exact ⟨q e0, q d1, q x0, q x1, q x2⟩
  have HME := Lib.hid (show l[K]? = some x ↔ x ∈ l by rw [hKK]; exact pos_mem_iff hr)
  have HOLD := Lib.hid (show x ∈ l → layEn l x = l from lay_old hr)
  have HTW : Hid (Touch [] w w2) := Lib.hid hT1
  have HX := Lib.hid hx
  have HNN := Lib.hid hnn
  clear h hr hin hT1 E1 E2 hb1 hin2 c0 c1 q hx hrow hnn hKK
  by_cases hlt : K < n
  · obtain ⟨y, hy⟩ : ∃ y, l[K]? = some y := ⟨_, List.getElem?_eq_getElem (by rw [← HNN.out]; exact hlt)⟩
    obtain ⟨b, off, rfl, -, hbk, y0, y1, y2⟩ := ent_cell HIN.out hy
    have heq := fun W => ent_eql y x W
    have t1 : (K : Int) < (n : Int) := by omega
    by_cases hyx : y = x
    · have hm : x ∈ l := by rw [hyx] at hy; exact HME.out.1 hy
      rw [decide_eq_true hyx] at heq
      rw [decide_eq_true hm, HOLD.out hm]
      have HHY := Lib.hid hyx
      have HBK := Lib.hid hbk
      clear hm hyx hy
      go_enter Try.func17, Try.ntmps17
      go_wp2_with fail
      refine hno.out.mono ?_
      rintro e w' ⟨rfl, rfl⟩
      go_wp2_with fail
      refine HSE.out.mono ?_
      rintro e w3 ⟨rfl, hb3⟩
      obtain ⟨z0, z1, z2, z3, z4⟩ := HSW.out w3 hb3
      have u0 := (hb3.cell (p := ⟨b, off + K * 3, none⟩) hbk).trans y0
      have u1 := (hb3.cell (p := ⟨b, off + K * 3 + 1, none⟩) hbk).trans y1
      have u2 := (hb3.cell (p := ⟨b, off + K * 3 + 2, none⟩) hbk).trans y2
      clear y0 y1 y2 d0 d1 e0 x0 x1 x2
      obtain ⟨xh, xv, xp⟩ := x
      obtain ⟨yh, yv, yp⟩ := y
      simp only at u0 u1 u2 z2 z3 z4
      go_wp2
      go_quiet (fail)
      go_wp2
      go_ret
      exact TabEnd.same (((HT.out.touch HTW.out (fun _ _ => by simp)).below hb3).drewN _) ((HTW.out.trans (Touch.of_below hb3) (fun x hx => by cases hx)).drewN _)
    · have hm : x ∉ l := fun k => hyx (by have := HME.out.2 k; rw [hy] at this; exact Option.some.inj this)
      rw [decide_eq_false hyx] at heq
      rw [decide_eq_false hm]
      have HM := Lib.hid hm
      clear hm hyx hy
      go_enter Try.func17, Try.ntmps17
      go_wp2_with fail
      refine hno.out.mono ?_
      rintro e w' ⟨rfl, rfl⟩
      go_wp2_with fail
      refine HSE.out.mono ?_
      rintro e w3 ⟨rfl, hb3⟩
      obtain ⟨z0, z1, z2, z3, z4⟩ := HSW.out w3 hb3
      have u0 := (hb3.cell (p := ⟨b, off + K * 3, none⟩) hbk).trans y0
      have u1 := (hb3.cell (p := ⟨b, off + K * 3 + 1, none⟩) hbk).trans y1
      have u2 := (hb3.cell (p := ⟨b, off + K * 3 + 2, none⟩) hbk).trans y2
      clear y0 y1 y2 d0 d1 e0 x0 x1 x2
      generalize layEn l x = R at *
      obtain ⟨xh, xv, xp⟩ := x
      obtain ⟨yh, yv, yp⟩ := y
      simp only at u0 u1 u2 z2 z3 z4
      go_wp2
      go_quiet (fail)
      go_wp2_with fail
      refine (HLAY.out _ (below_drewN hb3 _) HM.out).mono ?_
      rintro e w4 ⟨F', rfl, g2, g3, g4⟩
      go_wp2
      go_ret
      exact TabEnd.since ⟨F', rfl, g2, g3, g4⟩ ((HTW.out.trans (Touch.of_below hb3) (fun x hx => by cases hx)).drewN _)
  · have hm : x ∉ l := fun k => by
      have h2 := HME.out.2 k
      rw [List.getElem?_eq_none (by rw [← HNN.out]; omega)] at h2
      cases h2
    rw [decide_eq_false hm]
    have HM := Lib.hid hm
    have t1 : ¬ (K : Int) < (n : Int) := by omega
    have t2 : decide (K < n) = false := decide_eq_false hlt
    clear hm HF HIN
    generalize layEn l x = R at *
    go_enter Try.func17, Try.ntmps17
    go_wp2_with fail
    refine hno.out.mono ?_
    rintro e w' ⟨rfl, rfl⟩
    go_wp2_with fail
    refine HSE.out.mono ?_
    rintro e w3 ⟨rfl, hb3⟩
    obtain ⟨z0, z1, z2, z3, z4⟩ := HSW.out w3 hb3
    obtain ⟨xh, xv, xp⟩ := x
    simp only at z2 z3 z4
    go_wp2
    go_quiet (fail)
    go_wp2_with fail
    refine (HLAY.out _ (below_drewN hb3 _) HM.out).mono ?_
    rintro e w4 ⟨F', rfl, g2, g3, g4⟩
    go_wp2
    go_ret
    exact TabEnd.since ⟨F', rfl, g2, g3, g4⟩ ((HTW.out.trans (Touch.of_below hb3) (fun x hx => by cases hx)).drewN _)
end Go.Proofs.Ytiaobmgafhcfnaa
