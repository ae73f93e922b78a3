/- DOps, TfLaw, TfRise -/
import Derived.Test.YtedbgimmbapfaaaGreatPk22
import Derived.Test.YtedbgimmbapfaaaGreatPk17
import Derived.Test.YtedbgimmbapfaaaGreatPk20
/- DOps -/
namespace Go.Proofs.YtedbgimmbapfaaaGreat
open Go.RowKit
set_option linter.unusedVariables false

section
variable {w w1 w' : World} {base g mb : Nat} {vF : Value} {E E' : List Ent} {K : List Nat} {D D' : DiskS}
theorem blocks_sub (h : E'.map Ent.blocks = E.map Ent.blocks) : ∀ x ∈ blocksP g mb E' [], x ∈ blocksP g mb E K := by
  intro x hx
  rcases mem_blocks.1 hx with e | e | e | e
  · exact mem_blocks.2 (Or.inl e)
  · exact mem_blocks.2 (Or.inr (Or.inl e))
  · cases e
  · refine mem_blocks.2 (Or.inr (Or.inr (Or.inr ?_)))
    have : x ∈ FB E' := mem_FB.2 e
    rw [FB_of h] at this
    exact mem_FB.1 this
theorem mem_g : g ∈ blocksP g mb E K := mem_blocks.2 (Or.inl rfl)
theorem mem_mb : mb ∈ blocksP g mb E K := mem_blocks.2 (Or.inr (Or.inl rfl))
theorem mem_K {b : Nat} (h : b ∈ K) : b ∈ blocksP g mb E K := mem_blocks.2 (Or.inr (Or.inr (Or.inl h)))
theorem mem_E {b : Nat} {x : Ent} (hx : x ∈ E) (h : b ∈ x.blocks) : b ∈ blocksP g mb E K := mem_blocks.2 (Or.inr (Or.inr (Or.inr ⟨x, hx, h⟩)))
theorem fall_far : ∀ x ∈ g :: FB E, x ∈ blocksP g mb E K := by
  intro x hx
  rcases List.mem_cons.1 hx with rfl | hx
  · exact mem_g
  · obtain ⟨y, hy, hb⟩ := mem_FB.1 hx
    exact mem_E hy hb
theorem end_same (h : PAt w base g mb vF E K D) (v : Value) : EndAt ProgAt base g (blocksP g mb E K) w v D (.returned v) w := ⟨_, rfl, h.at, fun _ hx => Or.inl hx, Touch.refl _ _⟩
theorem end_put (h : PAt w' base g mb vF E K D') (ht : Touch (blocksP g mb E K) w w') (v : Value) : EndAt ProgAt base g (blocksP g mb E K) w v D' (.returned v) w' := ⟨_, rfl, h.at, fun _ hx => Or.inl hx, ht⟩
theorem end_sunk {vF' : Value} (h : PAt w' base g mb vF' E' [] D') (he : E'.map Ent.blocks = E.map Ent.blocks) (ht : Touch (g :: FB E) w w') (v : Value) : EndAt ProgAt base g (blocksP g mb E K) w v D' (.returned v) w' :=
  ⟨_, rfl, h.at, fun x hx => Or.inl (blocks_sub he x hx), ht.more (fun x hx => Or.inl (fall_far x hx))⟩
theorem EndAt.after {F G : List Nat} {v : Value} {e : Ending} (h : EndAt ProgAt base g G w1 v D' e w') (ht : Touch F w w1) (hG : ∀ x ∈ G, x ∈ F ∨ w.heap.size ≤ x) : EndAt ProgAt base g F w v D' e w' := by
  obtain ⟨F', h1, h2, h3, h4⟩ := h
  refine ⟨F', h1, h2, fun x hx => ?_, ht.trans h4 hG⟩
  rcases h3 x hx with h | h
  · exact hG x h
  · exact Or.inr (by have := ht.size; omega)

theorem up_run (h : PAt w base g mb vF E K D) : Calls Tryz.prog 43 #[ptr g] w fun e w' => e = .returned (.bool (!D.down)) ∧ w = w' := by
  obtain ⟨c0, c1, c2, c3, c4, c5, c6⟩ := h.cells
  have hn := Lib.hid (none_run c0)
  cases hd : D.down
  all_goals
    rw [hd] at c3
    clear hd h c1 c2 c4 c5 c6 c0
    go_enter Tryz.func43, Tryz.ntmps43
    go_wp2_with fail
    refine hn.out.mono ?_
    rintro e w' ⟨rfl, rfl⟩
    go_wp2
    go_ret
    exact ⟨rfl, rfl⟩
theorem starts_run (h : PAt w base g mb vF E K D) : Calls Tryz.prog 36 #[ptr g] w fun e w' => e = .returned (.int .i64 (D.starts : Nat)) ∧ w = w' := by
  obtain ⟨c0, c1, c2, c3, c4, c5, c6⟩ := h.cells
  have hn := Lib.hid (none_run c0)
  clear h c1 c2 c3 c4 c6 c0
  go_enter Tryz.func36, Tryz.ntmps36
  go_wp2_with fail
  refine hn.out.mono ?_
  rintro e w' ⟨rfl, rfl⟩
  go_wp2
  go_ret
  exact ⟨rfl, rfl⟩
theorem size_run (h : PAt w base g mb vF E K D) (hok : ProgOk D) (n : ByteArray) (hn : n.size ≤ maxLen) : Calls Tryz.prog 26 #[ptr g, .string n] w fun e w' => e = .returned (.tuple #[.int .i64 ((sizeS D n).1 : Nat), err (sizeS D n).2]) ∧ w = w' := by
  unfold sizeS
  cases hd : D.down
  · by_cases hf : findS D.l n < D.l.length
    · obtain ⟨x, hx, hl, hxn⟩ := ent_at h hf
      rw [hl]
      dsimp only [Bool.false_eq_true, if_false]
      have ho := Lib.hid (open_yes h hd hx (by rw [hxn]; exact hn))
      rw [hxn] at ho
      have hX := h.ents x (List.mem_of_getElem? hx)
      obtain ⟨d0, _, _, _⟩ := hX.cells
      obtain ⟨A, cap, hv, n1, n2, _⟩ := bytes_form hX.2.2
      rw [hv] at d0
      have hz := (hok.sizes x.f (List.mem_of_getElem? hl)).2
      clear h hok hx hl hxn hX hv hf hd n1 n2
      generalize x.f.data.size = m at *
      generalize x.b = b at *
      go_enter Tryz.func26, Tryz.ntmps26
      go_wp2_with fail
      refine ho.out.mono ?_
      rintro e w' ⟨rfl, rfl⟩
      go_wp2
      go_ret2
      exact ⟨rfl, rfl⟩
    · have ho := Lib.hid (open_no h hd hf hn)
      rw [none_at hf]
      clear h hok hf hd
      go_enter Tryz.func26, Tryz.ntmps26
      go_wp2_with fail
      refine ho.out.mono ?_
      rintro e w' ⟨rfl, rfl⟩
      go_wp2
      go_ret2
      exact ⟨rfl, rfl⟩
  · have ho := Lib.hid (open_down h hd n)
    clear h hok hd
    go_enter Tryz.func26, Tryz.ntmps26
    go_wp2_with fail
    refine ho.out.mono ?_
    rintro e w' ⟨rfl, rfl⟩
    go_wp2
    go_ret2
    exact ⟨rfl, rfl⟩
theorem crash_run (vK : Value) (keep : List Int) (h : PAt w base g mb vF E K D) (hok : ProgOk D) (hI : IntsIn w vK keep) (hV : ∀ b, vK.ownBlock = some b → b ∉ blocksP g mb E K) :
    Calls Tryz.prog 14 #[ptr g, vK] w (EndAt ProgAt base g (blocksP g mb E K) w (err (crashS D keep).1) (crashS D keep).2) := by
  have hr := Lib.hid (ready_run h)
  have HH := Lib.hid h
  have HF := Lib.hid (fall_run vK keep h hok hI (fun _ b hb hm => hV b hb (fall_far b (List.mem_cons_of_mem _ hm))))
  obtain ⟨A, off, cap, rfl, -⟩ := hI.cell
  generalize keep.length = kl at *
  unfold readyR at hr
  unfold crashS
  cases hd : D.down
  · rw [hd] at hr
    clear hd h hok hI hV
    go_enter Tryz.func14, Tryz.ntmps14
    go_wp2_with fail
    refine hr.out.mono ?_
    rintro e w' ⟨rfl, rfl⟩
    go_wp2_with fail
    refine HF.out.mono ?_
    rintro e w2 ⟨E2, rfl, h1, h2, h3⟩
    have H1 := Lib.hid h1
    have H2 := Lib.hid h2
    have H3 := Lib.hid h3
    clear h1 h2 h3 HF
    go_wp2
    go_ret
    exact end_sunk H1.out H2.out H3.out _
  · rw [hd] at hr
    clear hd h hok hI hV HF
    go_enter Tryz.func14, Tryz.ntmps14
    go_wp2_with fail
    refine hr.out.mono ?_
    rintro e w' ⟨rfl, rfl⟩
    go_wp2
    go_ret
    exact end_same HH.out _
end
end Go.Proofs.YtedbgimmbapfaaaGreat

namespace Go.Proofs.YtedbgimmbapfaaaGreat
open Go.RowKit Go.Maps
set_option linter.unusedVariables false

/-- The bytes of the files that are no longer to come. -/
def doneSum (E : List Ent) (left : Lit → Bool) : Nat := (E.map (fun x => if left (keyL x.f.name) then 0 else x.f.data.size)).sum
theorem doneSum_cons (x : Ent) (E : List Ent) (left : Lit → Bool) : doneSum (x :: E) left = (if left (keyL x.f.name) then 0 else x.f.data.size) + doneSum E left := by unfold doneSum; rw [List.map_cons, List.sum_cons]
theorem doneSum_start {E : List Ent} {left : Lit → Bool} (h : ∀ x ∈ E, left (keyL x.f.name) = true) : doneSum E left = 0 := by
  induction E with
  | nil => rfl
  | cons x E ih =>
    rw [doneSum_cons, if_pos (h x (by simp)), ih (fun y hy => h y (by simp [hy]))]
theorem doneSum_all {E : List Ent} {left : Lit → Bool} (h : ∀ kl, left kl = false) : doneSum E left = usedS (E.map Ent.f) := by
  induction E with
  | nil => rfl
  | cons x E ih =>
    rw [doneSum_cons, h, ih, List.map_cons, used_cons]
    rfl
theorem doneSum_same {E : List Ent} {l1 l2 : Lit → Bool} (h : ∀ x ∈ E, l1 (keyL x.f.name) = l2 (keyL x.f.name)) : doneSum E l1 = doneSum E l2 := by
  unfold doneSum
  congr 1
  apply List.map_congr_left
  intro x hx
  rw [h x hx]
theorem doneSum_le (E : List Ent) (left : Lit → Bool) : doneSum E left ≤ usedS (E.map Ent.f) := by
  induction E with
  | nil => exact Nat.le_refl _
  | cons x E ih =>
    rw [doneSum_cons, List.map_cons, used_cons]
    have : (if left (keyL x.f.name) then 0 else x.f.data.size) ≤ x.f.data.size := by split <;> omega
    omega
theorem doneSum_step {E : List Ent} (hp : E.Pairwise (fun x y => x.f.name ≠ y.f.name)) {left : Lit → Bool} {x : Ent} (hx : x ∈ E) (hl : left (keyL x.f.name) = true) : doneSum E (fun z => left z && !z.sameKey (keyL x.f.name)) = doneSum E left + x.f.data.size := by
  induction E with
  | nil => cases hx
  | cons y E ih =>
    obtain ⟨h1, h2⟩ := List.pairwise_cons.1 hp
    rw [doneSum_cons, doneSum_cons]
    have hself : (keyL x.f.name).sameKey (keyL x.f.name) = true := WideAt.sameKey_self (keyL_is _)
    rcases List.mem_cons.1 hx with rfl | hx
    · rw [hl, hself]
      have hs : doneSum E (fun z => left z && !z.sameKey (keyL x.f.name)) = doneSum E left := doneSum_same (fun y hy => by
        rw [sameKey_ne (fun e => h1 y hy (keyL_inj e).symm)]
        simp)
      rw [hs]
      show x.f.data.size + doneSum E left = 0 + doneSum E left + x.f.data.size
      omega
    · rw [ih h2 hx, sameKey_ne (fun e => h1 x hx (keyL_inj e))]
      simp only [Bool.not_false, Bool.and_true]
      omega
/-- What an element of the map may be. -/
def optP : Option Nat → Value
  | none => .pointer none
  | some b => .pointer (some ⟨b, 0, none⟩)
theorem inv_key (key : Value) (kl : Lit) (h : keyOf Tryz.prog 9 key = some kl) : ∃ x : List UInt8, key = encStr x := by
  obtain ⟨x, hx, _⟩ := Maps.keyOf_str Tryz.underlying9 h
  exact ⟨x, hx⟩
theorem inv_ent (v : Value) (y : DataW Unit × List MemPlace) (h : entR v = some y) : ∃ c, v = optP c := by
  rcases entR_inv h with ⟨rfl, _⟩ | ⟨b, rfl, _⟩
  · exact ⟨none, rfl⟩
  · exact ⟨some b, rfl⟩
section
variable {w : World} {base g mb : Nat} {vF : Value} {E : List Ent} {K : List Nat} {D : DiskS}
theorem key_ent {D0 : DataW Unit} (hi : MapIs D0 (E.map Ent.nb)) {x : List UInt8} {kl : Lit} (hk : keyOf Tryz.prog 9 (encStr x) = some kl) {c : Option Nat} {y : DataW Unit × List MemPlace} (hc : entR (optP c) = some y) (hat : ∀ zd, D0.atKey kl zd = y.1) :
    ∃ z ∈ E, kl = keyL z.f.name ∧ c = some z.b := by
  obtain ⟨x', _, rfl, _⟩ := Maps.keyOf_str Tryz.underlying9 hk
  have hh := Maps.has_true_of_atKey hat
  have e : (Lit.string x') = keyL ⟨x'.toArray⟩ := by unfold keyL; simp
  rw [e] at hh hat ⊢
  obtain ⟨p, hp, hn⟩ := hi.mem hh
  obtain ⟨z, hz, rfl⟩ := List.mem_map.1 hp
  have hn' : z.f.name = ⟨x'.toArray⟩ := hn
  refine ⟨z, hz, by rw [hn'], ?_⟩
  have h1 := hi.yes _ hp .nil
  have h2 := hat .nil
  rw [← hn'] at h2
  have h3 : y.1 = .lit (.int .i64 (z.b : Int)) := h2.symm.trans h1
  rcases entR_inv hc with ⟨e1, h4⟩ | ⟨b, e1, h4⟩
  · rw [h4] at h3
    simp only [DataW.lit.injEq, Lit.int.injEq, true_and] at h3
    omega
  · rw [h4] at h3
    simp only [DataW.lit.injEq, Lit.int.injEq, true_and] at h3
    have hb : b = z.b := by omega
    cases c with
    | none => cases (show Value.pointer none = .pointer (some ⟨b, 0, none⟩) from e1)
    | some b' =>
      have e2 : Value.pointer (some ⟨b', 0, none⟩) = .pointer (some ⟨b, 0, none⟩) := e1
      simp only [Value.pointer.injEq, Option.some.injEq, Addr.mk.injEq, and_true] at e2
      rw [e2, hb]
/-- The end of Free: nothing that was there has changed. -/
def FreeOut (w : World) (D : DiskS) (e : Ending) (w' : World) : Prop := e = .returned (.int .i64 ((D.cap : Int) - (usedS D.l : Nat))) ∧ Touch [] w w'
set_option maxRecDepth 100000 in
set_option maxHeartbeats 4000000 in
theorem free_run (h : PAt w base g mb vF E K D) (hok : ProgOk D) : Calls Tryz.prog 18 #[ptr g] w (FreeOut w D) := by
  obtain ⟨c0, c1, c2, c3, c4, c5, c6⟩ := h.cells
  have hn := Lib.hid (none_run c0)
  obtain ⟨n, D0, ho, hi⟩ := h.map
  have hpw : E.Pairwise (fun x y => x.f.name ≠ y.f.name) := by
    have := rise_names_ne h.rise
    rw [h.lst] at this
    exact (List.pairwise_map (f := Ent.f) (R := fun x y => x.name ≠ y.name)).1 this
  have hu : usedS (E.map Ent.f) ≤ 1048576 := by rw [← h.lst]; exact hok.used
  have hcap := hok.cap
  have hlst := h.lst
  have HE := Lib.hid h.ents
  have HI := Lib.hid hi
  have HPW := Lib.hid hpw
  have HU := Lib.hid hu
  have HLST := Lib.hid hlst
  have HCAP := Lib.hid hcap
  have HST := Lib.hid (doneSum_start (E := E) (left := Maps.has D0) (fun x hx => hi.has (List.mem_map.2 ⟨x, hx, rfl⟩)))
  have mlt := ho.lt
  clear h hok hi hpw hu hcap hlst c0 c3 c4 c5 c6
  go_enter Tryz.func18, Tryz.ntmps18
  go_wp2_with fail
  refine hn.out.mono ?_
  rintro e w' ⟨rfl, rfl⟩
  go_wp2_with (first
    | (at_range; refine wpList_range_own _ rfl _ 41 rfl 9 72 keysD Tryz.underlying41 entR mb n D0 rfl ho ?_; intro w0 hrg0 hg0 hs0)
    | go_in)
  go_frame
  go_loopw [3] (fun v wr => ∃ (left : Lit → Bool) (cnt : Nat), wr.ranges Tryz.prog 9 entR mb w.heap.size n D0 left cnt ∧ Touch [] w wr ∧ v = .int .i64 ((D.cap : Int) - (doneSum E left : Nat)))
    (fun _ wr => wr.rangeLeft mb w.heap.size)
  case atStart => exact ⟨_, _, hrg0, (Touch.refl [] w).grown hg0 (fun k hk => by cases hk), by rw [HST.out]; simp⟩
  case round =>
    obtain ⟨left, cnt, hrg, hT, rfl⟩ := hrel
    have b1 := doneSum_le E left
    have b0 := HU.out
    have b2 : -1048576 ≤ (D.cap : Int) - (doneSum E left : Nat) := by omega
    have b3 : (D.cap : Int) - (doneSum E left : Nat) ≤ 1048576 := by have := HCAP.out; omega
    have HT := Lib.hid hT
    have HB := Lib.hid b1
    clear hT b1 b0
    go_wp2_with (first
      | (at_next; refine wpList_next_ranges _ rfl _ rfl 9 keysD entR encStr optP inv_key inv_ent mb w.heap.size n D0 left cnt rfl hrg ?_ ?_)
      | go_in)
    · intro _ hl0
      have he := Lib.hid (doneSum_all (E := E) hl0)
      rw [← HLST.out] at he
      generalize doneSum E left = s at *
      clear hrg hl0
      go_wp2
      go_ret
      exact ⟨by rw [he.out]; rfl, HT.out⟩
    · intro x c kl y1 y2 w1 cnt1 hwx hlx hwc hat hrg1 hlt hg1 hs1 hen
      obtain ⟨z, hz, rfl, rfl⟩ := key_ent (y := (y1, y2)) HI.out hwx hwc hat
      have ht1 : Touch [] w w1 := (HT.out).grown hg1 (fun k hk => by injection hk with hk; exact Or.inr (Nat.le_of_eq hk))
      have hZ := (HE.out z hz).touch ht1 (fun b _ => by simp)
      obtain ⟨d0, _, _, _⟩ := hZ.cells
      obtain ⟨A, cap, hv, -, -, -⟩ := bytes_form hZ.2.2
      rw [hv] at d0
      have hst := doneSum_step HPW.out hz hlx
      have hle := doneSum_le E (fun z' => left z' && !z'.sameKey (keyL z.f.name))
      have hzb : (z.f.data.size : Int) ≤ 1048576 := by have := HU.out; omega
      have hm2 := Lib.hid (hrg1.left_eq)
      have hm1 := Lib.hid (hrg.left_eq)
      have HT1 := Lib.hid ht1
      have HR1 := Lib.hid hrg1
      have HS := Lib.hid hst
      have b4 : -1048576 ≤ (D.cap : Int) - (doneSum E left : Nat) - (z.f.data.size : Nat) := by have := HU.out; omega
      clear hat hrg1 hg1 hs1 hrg hZ hv hst hle hwx hlx hwc ht1 hz
      have hlt2 := Lib.hid hlt
      clear hlt
      generalize z.f.data.size = zs at *
      generalize doneSum E left = s at *
      generalize z.b = zb at *
      dsimp only [optP] at hen ⊢
      go_wp2
      go_roundw
      case rel => exact ⟨_, _, HR1.out, HT1.out, by rw [HS.out]; exact val_int (by omega)⟩
      case measure => rw [hm2.out, hm1.out]; exact hlt2.out
end
end Go.Proofs.YtedbgimmbapfaaaGreat

namespace Go.Proofs.YtedbgimmbapfaaaGreat
open Go.RowKit
set_option linter.unusedVariables false

theorem setF_set {l : List FileS} {k : Nat} {f : FileS} (h : l[k]? = some f) (g : FileS → FileS) : setF l k g = l.set k (g f) := by
  apply List.ext_getElem?
  intro j
  rw [setF_get, List.getElem?_set]
  have hk := (List.getElem?_eq_some_iff.1 h).1
  by_cases e : j = k
  · subst e
    rw [if_pos rfl, if_pos rfl, if_pos hk, h]
    rfl
  · rw [if_neg e, if_neg (fun e2 => e e2.symm)]
section
variable {w w1 w' : World} {base g mb : Nat} {vF : Value} {E E' : List Ent} {K G : List Nat} {D D' : DiskS}
/-- The end of a change of one file. -/
theorem end_ent (h : PAt w base g mb vF E K D) {k : Nat} {x : Ent} (hk : E[k]? = some x) (x' : Ent) (hb : x'.b = x.b) (hn : x'.f.name = x.f.name) (ht : Touch G w w') (hG : ∀ b ∈ G, b ∈ x.blocks) (he : EntAt w' base x')
    (hv : ∀ b, x'.v.ownBlock = some b → x.v.ownBlock = some b ∨ w.heap.size ≤ b) (v : Value) (hD : D' = { D with l := D.l.set k x'.f }) : EndAt ProgAt base g (blocksP g mb E K) w v D' (.returned v) w' := by
  subst hD
  have hx := List.mem_of_getElem? hk
  refine ⟨_, rfl, (h.putEnt hk x' hb hn ht hG he hv).at, fun y hy => ?_, ht.more (fun b hb => Or.inl (mem_E hx (hG b hb)))⟩
  rcases mem_blocks.1 hy with e | e | e | ⟨z, hz, hyz⟩
  · exact Or.inl (mem_blocks.2 (Or.inl e))
  · exact Or.inl (mem_blocks.2 (Or.inr (Or.inl e)))
  · exact Or.inl (mem_K e)
  · rcases List.mem_or_eq_of_mem_set hz with hz | rfl
    · exact Or.inl (mem_E hz hyz)
    · simp only [Ent.blocks, List.mem_cons, Option.mem_toList] at hyz
      rcases hyz with e | e
      · exact Or.inl (mem_E hx (by rw [e, hb]; simp [Ent.blocks]))
      · rcases hv y e with c | c
        · exact Or.inl (mem_E hx (by simp [Ent.blocks, c]))
        · exact Or.inr c
theorem doneS_goes {D E : DiskS} (h : goesS D = true) : doneS D E = (0, { E with fails := D.fails - 1 }) := by unfold doneS; rw [if_pos h]
theorem doneS_sinks {D E : DiskS} (h : goesS D = false) : doneS D E = (61, sinkS D D.keep) := by unfold doneS; rw [h]; rfl
theorem syncP_go {D : DiskS} {n : ByteArray} (hd : D.down = false) (hf : findS D.l n < D.l.length) : syncS D n = doneS D { D with l := setF D.l (findS D.l n) (fun f => { f with synced := f.data.size }) } := by unfold syncS; rw [hd, if_pos hf]; rfl
theorem syncP_none {D : DiskS} {n : ByteArray} (hd : D.down = false) (hf : ¬ findS D.l n < D.l.length) : syncS D n = (4, D) := by unfold syncS; rw [hd, if_neg hf]; rfl
theorem syncP_down {D : DiskS} {n : ByteArray} (hd : D.down = true) : syncS D n = (61, D) := by unfold syncS; rw [hd]; rfl
set_option maxRecDepth 100000 in
theorem sync_run (h : PAt w base g mb vF E K D) (hok : ProgOk D) (n : ByteArray) (hn : n.size ≤ maxLen) : Calls Tryz.prog 60 #[ptr g, .string n] w (EndAt ProgAt base g (blocksP g mb E K) w (err (syncS D n).1) (syncS D n).2) := by
  have HH := Lib.hid h
  cases hd : D.down
  · by_cases hf : findS D.l n < D.l.length
    · obtain ⟨x, hx, hl, hxn⟩ := ent_at h hf
      have ho := Lib.hid (open_yes h hd hx (by rw [hxn]; exact hn))
      rw [hxn] at ho
      rw [syncP_go hd hf]
      generalize findS D.l n = k at *
      cases hg : goesS D
      · have hfl := Lib.hid (fails_sinks h hok hg)
        rw [doneS_sinks hg]
        generalize sinkS D D.keep = D2 at *
        clear h hok hx hl hxn hf hd hg
        go_enter Tryz.func60, Tryz.ntmps60
        go_wp2_with fail
        refine ho.out.mono ?_
        rintro e w' ⟨rfl, rfl⟩
        go_wp2_with fail
        refine hfl.out.mono ?_
        rintro e w2 ⟨E', rfl, h1, h2, h3⟩
        have H1 := Lib.hid h1
        have H2 := Lib.hid h2
        have H3 := Lib.hid h3
        clear h1 h2 h3 hfl
        go_wp2
        go_ret
        exact end_sunk H1.out H2.out H3.out _
      · have hfl := Lib.hid (fails_goes h hg)
        rw [doneS_goes hg]
        have hz := (hok.sizes x.f (List.mem_of_getElem? hl)).2
        have HX := Lib.hid hx
        have HL := Lib.hid hl
        have HZ := Lib.hid hz
        clear h hok hx hl hxn hf hd hg hz
        go_enter Tryz.func60, Tryz.ntmps60
        go_wp2_with fail
        refine ho.out.mono ?_
        rintro e w' ⟨rfl, rfl⟩
        go_wp2_with fail
        refine hfl.out.mono ?_
        rintro e w2 ⟨rfl, h1, h2⟩
        have hX := h1.ents x (List.mem_of_getElem? HX.out)
        obtain ⟨d0, d1, g0, g1⟩ := hX.cells
        obtain ⟨A, cap, hv, -, -, -⟩ := bytes_form hX.2.2
        rw [hv] at d0
        have hle := HZ.out
        have HP := Lib.hid (hX.putSync x.f.data.size)
        have H1 := Lib.hid h1
        have H2 := Lib.hid h2
        clear h1 h2 hfl hX hv
        go_wp2
        go_ret
        refine EndAt.after (end_ent (G := [x.b]) H1.out HX.out ⟨⟨x.f.name, x.f.data, x.f.data.size⟩, x.b, x.v⟩ rfl rfl ((Touch.refl _ _).setCell (p := ⟨x.b, 1, none⟩) (Or.inl (List.mem_singleton.2 rfl)) _) (fun b hb => by rw [List.mem_singleton.1 hb]; simp [Ent.blocks]) HP.out (fun b hb => Or.inl hb) _ ?_) (H2.out.more (fun b hb => Or.inl (mem_K hb))) (fun b hb => Or.inl hb)
        show _ = ({ nextS D with l := D.l.set k _ } : DiskS)
        rw [setF_set HL.out]
        rfl
    · have ho := Lib.hid (open_no h hd hf hn)
      rw [syncP_none hd hf]
      clear h hok hf hd
      go_enter Tryz.func60, Tryz.ntmps60
      go_wp2_with fail
      refine ho.out.mono ?_
      rintro e w' ⟨rfl, rfl⟩
      go_wp2
      go_ret
      exact end_same HH.out _
  · have ho := Lib.hid (open_down h hd n)
    rw [syncP_down hd]
    clear h hok hd
    go_enter Tryz.func60, Tryz.ntmps60
    go_wp2_with fail
    refine ho.out.mono ?_
    rintro e w' ⟨rfl, rfl⟩
    go_wp2
    go_ret
    exact end_same HH.out _
end
end Go.Proofs.YtedbgimmbapfaaaGreat

namespace Go.Proofs.YtedbgimmbapfaaaGreat
open Go.RowKit
set_option linter.unusedVariables false

theorem wpList_append_two {P : Program} {w w' : World} {ops : Array Oper} {rest : List Oper} {o : Oper} {a : Act} {Q : Exit → Act → World → Prop} {vs vx v' : Value} {t tx : TypeId} (hgd : o.guard = none) (s x : Operand)
    (ho : o.op = .call { callee := .builtin .append, args := #[s, x], argTypes := #[t, tx] }) (hs : a.eval s = vs) (hx : a.eval x = vx) (hr : (Builtin.append_ #[t, tx] o.type #[vs, vx]).run P w = .ok v' w') (h : wpList P ops Q rest (a.put o.dst v') w') : wpList P ops Q (o :: rest) a w := by
  refine wpList_plain hgd fun K' hK' => ?_
  unfold Oper.wp execOp
  simp only [ho, resolve, invoke, builtin, Sem.run_bind, Sem.run_pure, Result.andThen_ok, List.map_toArray, List.map_cons, List.map_nil, hs, hx, hr]
  exact hK' _ _ h
section
variable {w w1 w' : World} {base g mb : Nat} {vF : Value} {E E' : List Ent} {K G : List Nat} {D D' : DiskS}
theorem appendP_down {n s : ByteArray} (hd : D.down = true) : appendS D n s = (61, D) := by unfold appendS; rw [hd]; rfl
theorem appendP_none {n s : ByteArray} (hd : D.down = false) (hf : ¬ findS D.l n < D.l.length) : appendS D n s = (4, D) := by unfold appendS; rw [hd, if_neg hf]; rfl
theorem appendP_full {n s : ByteArray} (hd : D.down = false) (hf : findS D.l n < D.l.length) (hu : D.cap < usedS D.l + s.size) : appendS D n s = (60, D) := by unfold appendS; rw [hd, if_pos hf, if_pos hu]; rfl
theorem appendP_goes {n s : ByteArray} (hd : D.down = false) (hf : findS D.l n < D.l.length) (hu : ¬ D.cap < usedS D.l + s.size) (hg : goesS D = true) : appendS D n s = (0, nextS (appE D n s)) := by unfold appendS; rw [hd, if_pos hf, if_neg hu, if_pos hg]; rfl
theorem appendP_sinks {n s : ByteArray} (hd : D.down = false) (hf : findS D.l n < D.l.length) (hu : ¬ D.cap < usedS D.l + s.size) (hg : goesS D = false) : appendS D n s = (61, sinkS (appE D n s) D.keep) := by unfold appendS; rw [hd, if_pos hf, if_neg hu, hg]; rfl
theorem ProgOk.app {D : DiskS} (h : ProgOk D) {k : Nat} {f : FileS} (hk : D.l[k]? = some f) (s : ByteArray) (hs : usedS D.l + s.size ≤ D.cap) : ProgOk { D with l := setF D.l k (fun f => { f with data := f.data ++ s }) } := by
  have h0 : RefOk { D with fails := 0 } := ⟨h.sizes, h.many, h.used, h.cap, Nat.zero_le _⟩
  have h1 := h0.app (k := k) (f := f) hk s hs
  exact ⟨h1.sizes, h1.many, h1.used, h1.cap⟩
theorem set_sub {k : Nat} {x : Ent} (hk : E[k]? = some x) {x' : Ent} (hb : x'.b = x.b) {z : Nat} (hv : ∀ b, x'.v.ownBlock = some b → x.v.ownBlock = some b ∨ z ≤ b) : ∀ y ∈ blocksP g mb (E.set k x') K, y ∈ blocksP g mb E K ∨ z ≤ y := by
  have hx := List.mem_of_getElem? hk
  intro y hy
  rcases mem_blocks.1 hy with e | e | e | ⟨z, hz, hyz⟩
  · exact Or.inl (mem_blocks.2 (Or.inl e))
  · exact Or.inl (mem_blocks.2 (Or.inr (Or.inl e)))
  · exact Or.inl (mem_K e)
  · rcases List.mem_or_eq_of_mem_set hz with hz | rfl
    · exact Or.inl (mem_E hz hyz)
    · simp only [Ent.blocks, List.mem_cons, Option.mem_toList] at hyz
      rcases hyz with e | e
      · exact Or.inl (mem_E hx (by rw [e, hb]; simp [Ent.blocks]))
      · rcases hv y e with c | c
        · exact Or.inl (mem_E hx (by simp [Ent.blocks, c]))
        · exact Or.inr c
/-- The bytes behind a file's: what is there then. -/
theorem append_ent (h : PAt w base g mb vF E K D) {k : Nat} {x : Ent} (hx : E[k]? = some x) {v' : Value} {s : ByteArray} (hb : BytesAt w1 base v' (x.f.data ++ s)) (hg : w.grownBy w1 x.v.ownBlock) (hv : v'.ownBlock = x.v.ownBlock ∨ v'.ownBlock = some w.heap.size) :
    EntAt (w1.setCell ⟨x.b, 0, none⟩ v') base ⟨⟨x.f.name, x.f.data ++ s, x.f.synced⟩, x.b, v'⟩ ∧ Touch x.blocks w (w1.setCell ⟨x.b, 0, none⟩ v') ∧ w1.cell? ⟨x.b, 0, none⟩ = some x.v ∧ w1.frozen? ⟨x.b, 0, none⟩ = false := by
  have hX := h.ents x (List.mem_of_getElem? hx)
  have ht : Touch x.blocks w w1 := (Touch.refl _ w).grown hg (fun k hk => Or.inl (by simp [Ent.blocks, hk]))
  have hbk : Blok w1 x.b 74 #[x.v, .int .i64 (x.f.synced : Nat)] := by
    refine (hg.block x.b hX.1.lt (fun e => ?_)).trans hX.1
    exact own_ne hX.2.2 hX.1 (by decide) e.symm
  exact ⟨⟨hbk.put 0 v', hX.2.1, own_far hb (own_ne hb hbk (by decide)) _⟩, ht.setCell (p := ⟨x.b, 0, none⟩) (Or.inl (by simp [Ent.blocks])) _, hbk.cell 0, hbk.frozen 0⟩
set_option maxRecDepth 100000 in
set_option maxHeartbeats 2000000 in
theorem append_run (h : PAt w base g mb vF E K D) (hok : ProgOk D) (n s : ByteArray) (hn : n.size ≤ maxLen) (hs : s.size ≤ 1099511627776) : Calls Tryz.prog 52 #[ptr g, .string n, .string s] w (EndAt ProgAt base g (blocksP g mb E K) w (err (appendS D n s).1) (appendS D n s).2) := by
  have HH := Lib.hid h
  cases hd : D.down
  · by_cases hf : findS D.l n < D.l.length
    · obtain ⟨x, hx, hl, hxn⟩ := ent_at h hf
      have ho := Lib.hid (open_yes h hd hx (by rw [hxn]; exact hn))
      rw [hxn] at ho
      have hfr := Lib.hid (free_run h hok)
      by_cases hu : D.cap < usedS D.l + s.size
      · rw [appendP_full hd hf hu]
        have q1 : (D.cap : Int) - (usedS D.l : Nat) < (s.size : Int) := by omega
        have q2 := hok.cap
        have q3 := hok.used
        clear h hok hx hl hxn hf hd hu
        unfold FreeOut at hfr
        generalize usedS D.l = u at *
        go_enter Tryz.func52, Tryz.ntmps52
        go_wp2_with fail
        refine ho.out.mono ?_
        rintro e w' ⟨rfl, rfl⟩
        go_wp2_with fail
        refine hfr.out.mono ?_
        rintro e w2 ⟨rfl, ht⟩
        have HT := Lib.hid ht
        clear ht hfr
        go_wp2
        go_ret
        exact end_put (HH.out.touch HT.out (fun _ _ => by simp)) (HT.out.more (fun x hx => by cases hx)) _
      · have q1 : decide ((D.cap : Int) - (usedS D.l : Nat) < (s.size : Int)) = false := decide_eq_false (by omega)
        have q2 := hok.cap
        have q3 := hok.used
        have hs2 : s.size ≤ 1048576 := by omega
        have HS0 := Lib.hid hs2
        have hoke := hok.app hl s (by omega)
        have hzs := (hok.sizes x.f (List.mem_of_getElem? hl)).2
        have happ : appE D n s = { D with l := setF D.l (findS D.l n) (fun f => { f with data := f.data ++ s }) } := rfl
        rw [← happ] at hoke
        have happ2 : appE D n s = { D with l := D.l.set (findS D.l n) ⟨x.f.name, x.f.data ++ s, x.f.synced⟩ } := by rw [happ, setF_set hl]
        have hg' : goesS (appE D n s) = goesS D := rfl
        have hk' : (appE D n s).keep = D.keep := rfl
        have hA := appendP_goes (s := s) hd hf hu
        have hB := appendP_sinks (s := s) hd hf hu
        have HOKE := Lib.hid hoke
        have HA := Lib.hid hA
        have HB := Lib.hid hB
        have HAPP := Lib.hid happ2
        have HX := Lib.hid hx
        have HZS := Lib.hid hzs
        have HG := Lib.hid hg'
        have HKK := Lib.hid hk'
        clear h hok hx hl hxn hf hd hu hs2 hoke hA hB happ happ2 hzs hg' hk'
        unfold FreeOut at hfr
        generalize findS D.l n = k at *
        generalize usedS D.l = u at *
        go_enter Tryz.func52, Tryz.ntmps52
        go_wp2_with fail
        refine ho.out.mono ?_
        rintro e w' ⟨rfl, rfl⟩
        go_wp2_with fail
        refine hfr.out.mono ?_
        rintro e w2 ⟨rfl, ht⟩
        have h2 := HH.out.touch ht (fun _ _ => by simp)
        have hX2 := h2.ents x (List.mem_of_getElem? HX.out)
        have hbase : base ≤ w2.heap.size := by have := h2.gb; have := h2.disk.lt; omega
        obtain ⟨v', w3, hap, hb3, hg3, hv3⟩ := bytes_append hX2.2.2 s (by have := HZS.out; have := HS0.out; omega) hbase 54
        obtain ⟨he3, ht3, d0', f0'⟩ := append_ent h2 HX.out hb3 hg3 hv3
        obtain ⟨d0, d1, g0, g1⟩ := hX2.cells
        obtain ⟨A, cap, hv, -, -, -⟩ := bytes_form hX2.2.2
        obtain ⟨A', cap', hv', -, -, -⟩ := bytes_form hb3
        have hown : ∀ b, v'.ownBlock = some b → x.v.ownBlock = some b ∨ w2.heap.size ≤ b := fun b hb => by
          rcases hv3 with c | c
          · exact Or.inl (c ▸ hb)
          · rw [c] at hb; injection hb with hb; exact Or.inr (Nat.le_of_eq hb)
        have hP := h2.putEnt HX.out ⟨⟨x.f.name, x.f.data ++ s, x.f.synced⟩, x.b, v'⟩ rfl rfl ht3 (fun b hb => hb) he3 hown
        have hD : ({ D with l := D.l.set k ⟨x.f.name, x.f.data ++ s, x.f.synced⟩ } : DiskS) = appE D n s := HAPP.out.symm
        dsimp only at hP
        rw [hD] at hP
        have hsub := set_sub (g := g) (mb := mb) (K := K) HX.out (x' := ⟨⟨x.f.name, x.f.data ++ s, x.f.synced⟩, x.b, v'⟩) rfl hown
        have hT2 : Touch (blocksP g mb E K) w (w3.setCell ⟨x.b, 0, none⟩ v') := (ht.more (fun x hx => by cases hx)).trans ht3 (fun b hb => Or.inl (mem_E (List.mem_of_getElem? HX.out) hb))
        have hsub2 : ∀ y ∈ blocksP g mb (E.set k ⟨⟨x.f.name, x.f.data ++ s, x.f.synced⟩, x.b, v'⟩) K, y ∈ blocksP g mb E K ∨ w.heap.size ≤ y := fun y hy => (hsub y hy).imp id (fun c => Nat.le_trans ht.size c)
        have HP := Lib.hid hP
        have HT2 := Lib.hid hT2
        have HS2 := Lib.hid hsub2
        rw [hv] at hap d0
        have hzz : (x.f.data ++ s).size = x.f.data.size + s.size := ByteArray.size_append
        rw [hzz] at hv'
        subst hv'
        clear h2 hX2 hbase hb3 hg3 hv3 he3 ht3 hv hown hP hD hsub hT2 hsub2 ht hfr hzz g1 d1 HAPP
        have HAP := Lib.hid hap
        clear hap
        go_wp2_with (first | (at_builtin; refine wpList_append_two rfl _ _ rfl rfl rfl HAP.out ?_) | fail)
        have hgd : goesS D = true ∨ goesS D = false := by cases goesS D <;> simp
        rcases hgd with hgd | hgd
        · have hfl := Lib.hid (fails_goes HP.out (HG.out.trans hgd))
          have HGD := Lib.hid (HA.out hgd)
          clear hgd
          go_wp2_with fail
          refine hfl.out.mono ?_
          rintro e w4 ⟨rfl, h4, ht4⟩
          have H4 := Lib.hid h4
          have HT4 := Lib.hid ht4
          clear h4 ht4 hfl
          go_wp2
          go_ret
          rw [HGD.out]
          exact EndAt.after (end_put H4.out (HT4.out.more (fun y hy => Or.inl (mem_K hy))) _) HT2.out HS2.out
        · have hfl := Lib.hid (fails_sinks HP.out HOKE.out (HG.out.trans hgd))
          have HGD := Lib.hid (HB.out hgd)
          rw [HKK.out] at hfl
          clear hgd
          go_wp2_with fail
          refine hfl.out.mono ?_
          rintro e w4 ⟨E4, rfl, h4, he4, ht4⟩
          have H4 := Lib.hid h4
          have HE4 := Lib.hid he4
          have HT4 := Lib.hid ht4
          clear h4 he4 ht4 hfl
          go_wp2
          go_ret
          rw [HGD.out]
          exact EndAt.after (end_sunk H4.out HE4.out HT4.out _) HT2.out HS2.out
    · have ho := Lib.hid (open_no h hd hf hn)
      rw [appendP_none hd hf]
      clear h hok hf hd
      go_enter Tryz.func52, Tryz.ntmps52
      go_wp2_with fail
      refine ho.out.mono ?_
      rintro e w' ⟨rfl, rfl⟩
      go_wp2
      go_ret
      exact end_same HH.out _
  · have ho := Lib.hid (open_down h hd n)
    rw [appendP_down hd]
    clear h hok hd
    go_enter Tryz.func52, Tryz.ntmps52
    go_wp2_with fail
    refine ho.out.mono ?_
    rintro e w' ⟨rfl, rfl⟩
    go_wp2
    go_ret
    exact end_same HH.out _
end
end Go.Proofs.YtedbgimmbapfaaaGreat

/- TfLaw -/
namespace Go.Proofs.YtedbgimmbapfaaaGreat
open Go.RowKit Go.Shelf
set_option linter.unusedVariables false

def strsV (l : List ByteArray) : List Value := l.map Value.string
theorem info_str : (Tryz.prog.info? 9).map (fun i => (i.zero, i.size, i.bytes)) = some (some (.string ByteArray.empty), 1, 16) := by kernel_rfl
section
variable {w : World} {base : Nat} {v : Value}
/-- One element more. -/
def Pushed (w : World) (base : Nat) (e t : TypeId) (v x : Value) (n : Nat) (xs : List Value) : Prop :=
  ∃ v' w', (∀ ty, (Builtin.append_ #[t, t] ty #[v, .slice (some ⟨w.heap.size, 0, none⟩) 1 1]).run Tryz.prog (w.alloc (.cells #[x] e)) = .ok v' w') ∧ w'.ownsRow base e 1 v' (n + 1) (xs ++ [x]) ∧ Touch v.ownBlock.toList w w' ∧
    (∀ b, v'.ownBlock = some b → v.ownBlock = some b ∨ w.heap.size ≤ b) ∧ ∃ A cap, v' = .slice A (n + 1) cap
theorem push_of {e t : TypeId} {i : TypeInfo} {z x : Value} {bytes n : Nat} {xs : List Value} (ht : Tryz.prog.underlying t = some (.slice e)) (hi : Tryz.prog.info? e = some i) (hz : i.zero = some z) (hsize : i.size = 1) (hby : i.bytes = bytes) (hzs : z.cells.size = 1)
    (hx1 : x.oneCell' = true) (h : w.ownsRow base e 1 v n xs) (hb : base ≤ w.heap.size) (hn : n ≤ 1000000) (hbb : bytes ≤ 100) : Pushed w base e t v x n xs := by
  have hsrc : SrcAt (w.alloc (.cells #[x] e)) 1 (.slice (some ⟨w.heap.size, 0, none⟩) 1 1) 1 [x] := ⟨rfl, Or.inr ⟨⟨w.heap.size, 0, none⟩, 1, rfl, fun j u hu => by
    cases j with
    | zero =>
      have eu : x = u := by simpa using hu
      rw [← eu]
      have ea : (⟨w.heap.size, 0, none⟩ : Addr).add 0 = ⟨w.heap.size, 0, none⟩ := by simp [Addr.add]
      rw [ea]
      exact (Blok.new w e #[x]).cell 0
    | succ j => simp at hu⟩⟩
  have hown : (w.alloc (.cells #[x] e)).ownsRow base e 1 v n xs := own_touch h ((Touch.refl [] w).alloc _) (fun _ _ => by simp)
  have hall : ∀ ty, ∃ v' w', (Builtin.append_ #[t, t] ty #[v, .slice (some ⟨w.heap.size, 0, none⟩) 1 1]).run Tryz.prog (w.alloc (.cells #[x] e)) = .ok v' w' ∧ w'.ownsRow base e 1 v' (n + 1) (xs ++ [x]) ∧ (w.alloc (.cells #[x] e)).grownBy w' v.ownBlock ∧ (v'.ownBlock = v.ownBlock ∨ v'.ownBlock = some (w.alloc (.cells #[x] e)).heap.size) :=
    fun ty => run_append_src (P := Tryz.prog) (w.alloc (.cells #[x] e)) base t e i z 1 bytes ty ht hi hz hsize hby hzs (by decide) v n xs hown (.slice (some ⟨w.heap.size, 0, none⟩) 1 1) 1 [x] hsrc (fun u hu => by
      obtain rfl : u = x := by simpa using hu
      exact hx1) (by unfold maxLen; omega) (by
        have : (n + 1) * bytes ≤ 1000001 * 100 := Nat.mul_le_mul (by omega) hbb
        omega) (by simp; omega)
  obtain ⟨v', w', e1, e2, e3, e4⟩ := hall t
  have hsame : ∀ ty, (Builtin.append_ #[t, t] ty #[v, .slice (some ⟨w.heap.size, 0, none⟩) 1 1]).run Tryz.prog (w.alloc (.cells #[x] e)) = .ok v' w' := fun ty => e1
  obtain ⟨A', cap', hv', -, -, -⟩ := own_form e2
  refine ⟨v', w', hsame, e2, ((Touch.refl [] w).alloc _).more (fun x hx => by cases hx) |>.grown e3 (fun k hk => Or.inl (by rw [hk]; simp)), fun b hb2 => ?_, A', cap', hv'⟩
  rcases e4 with c | c
  · exact Or.inl (by rw [← c]; exact hb2)
  · rw [c] at hb2
    injection hb2 with hb2
    exact Or.inr (by rw [← hb2]; simp)
theorem push_str {l : List ByteArray} (h : w.ownsRow base 9 1 v l.length (strsV l)) (hb : base ≤ w.heap.size) (hn : l.length ≤ 1000000) (p : ByteArray) : Pushed w base 9 46 v (.string p) l.length (strsV l) := by
  obtain ⟨i0, hi, hz0, hz1, hz2⟩ := info_parts info_str
  exact push_of Tryz.underlying46 hi hz0 hz1 hz2 rfl rfl h hb hn (by decide)
theorem push_int {l : List Int} (h : w.ownsRow base 3 1 v l.length (ints l)) (hb : base ≤ w.heap.size) (hn : l.length ≤ 1000000) (x : Int) : Pushed w base 3 47 v (.int .i64 x) l.length (ints l) := by
  obtain ⟨i0, hi, hz0, hz1, hz2⟩ := info_parts info_int
  exact push_of Tryz.underlying47 hi hz0 hz1 hz2 rfl rfl h hb hn (by decide)
end
theorem own_strs {w : World} {base : Nat} {v : Value} {l : List ByteArray} (h : w.ownsRow base 9 1 v l.length (strsV l)) : StrsAt w v l := by
  rcases h.2 with ⟨rfl, e⟩ | ⟨b, cap, cs, rfl, _, h2, h3, h4, _, h6⟩
  · exact Or.inl ⟨List.eq_nil_of_length_eq_zero e, none, 0, rfl⟩
  · refine Or.inr ⟨b, 0, cap, rfl, h3, h4, ?_, fun i x hx => ?_⟩
    · rcases Nat.lt_or_ge b w.heap.size with c | c
      · exact c
      · rw [Array.getElem?_eq_none c] at h2; cases h2
    · have hi : i < l.length := (List.getElem?_eq_some_iff.1 hx).1
      have e : (strsV l)[i]? = some (.string x) := by unfold strsV; rw [List.getElem?_map, hx]; rfl
      rw [cell_of_row w b (0 + i) cs _ (0, 0) h2, Nat.zero_add]
      rw [← h6, List.getElem?_take, if_pos (by omega)] at e
      simpa using e
theorem ends_run (en pos : Nat) (w : World) (h : pos = en ∨ (en % 4096 = 12 ∧ pos + 12 ≤ en)) (hb : en ≤ 1000000) (hp : pos ≤ 1000000) : Calls Tryz.prog 41 #[.int .i64 (en : Nat), .int .i64 (pos : Nat)] w fun e w' => e = .returned (.bool true) ∧ w = w' := by
  by_cases hq : pos = en
  · subst hq
    have t1 : ((pos : Int) == (pos : Int)) = true := by simp
    clear h
    go_enter Tryz.func41, Tryz.ntmps41
    go_wp2
    go_ret
    exact ⟨rfl, rfl⟩
  · have t1 : ((pos : Int) == (en : Int)) = false := by simp; omega
    have e2 : (en : Int).tmod 4096 = 12 := by rw [Int.tmod_eq_emod_of_nonneg (by omega)]; omega
    have hw : IntKind.i64.wrap ((en : Int) - 12) = (en : Int) - 12 := IntWalk.i64_in _ (by omega)
    have t3 : decide ((pos : Int) ≤ (en : Int) - 12) = true := decide_eq_true (by omega)
    clear h hq hb hp
    go_enter Tryz.func41, Tryz.ntmps41
    go_wp2
    go_ret
    exact ⟨rfl, rfl⟩
set_option maxHeartbeats 1000000 in
theorem begins_run {w : World} {va vb : Value} {l m : List ByteArray} (ha : StrsAt w va l) (hb : StrsAt w vb m) (hl : l = m) : Calls Tryz.prog 17 #[va, vb] w fun e w' => e = .returned (.bool true) ∧ ∃ n, w' = w.drewN n := by
  subst hl
  obtain ⟨A, oa, ca, rfl, ma, fa⟩ := strs_cell ha
  obtain ⟨B, ob, cb, rfl, mb, fb⟩ := strs_cell hb
  have FA := Lib.hid fa
  have FB := Lib.hid fb
  have HM := Lib.hid ma
  clear ha hb fa fb ma mb
  have t0 : decide ((l.length : Int) < (l.length : Int)) = false := decide_eq_false (by omega)
  go_enter Tryz.func17, Tryz.ntmps17
  go_wp2
  go_loopw [5] (fun i wr => ∃ k m : Nat, k ≤ l.length ∧ i = .int .i64 k ∧ wr = w.drewN m) (fun i _ => l.length - (intOf i).toNat)
  case atStart => exact ⟨0, 0, Nat.zero_le _, rfl, rfl⟩
  case round =>
    obtain ⟨k, m, hk, rfl, rfl⟩ := hrel
    by_cases hlt : k < l.length
    · have l1 : (k : Int) < (l.length : Int) := by omega
      have hx : l[k]? = some l[k] := List.getElem?_eq_getElem hlt
      obtain ⟨ba, rfl, d1⟩ := FA.out k _ hx
      obtain ⟨bb, rfl, d2⟩ := FB.out k _ hx
      have hw9 : IntKind.i64.wrap ((k : Int) + 1) = (k : Int) + 1 := IntWalk.i64_in _ (by have := HM.out; unfold maxLen at this; omega)
      have HLT := Lib.hid hlt
      clear hx
      generalize l[k] = x at *
      have t2 : (x.toList != x.toList) = false := by simp
      have t3 : (x.toList == x.toList) = true := by simp
      generalize l.length = q at *
      clear hlt
      go_wp2
      go_quiet (fail)
      go_wp2
      exact ⟨⟨k + 1, _, by have := HLT.out; omega, by go_num, rfl⟩, by simp [intOf]; have := HLT.out; omega⟩
    · obtain rfl : k = l.length := by omega
      generalize l.length = q at *
      go_wp2
      go_ret
      exact ⟨rfl, _, rfl⟩
end Go.Proofs.YtedbgimmbapfaaaGreat

/- TfRise -/
namespace Go.Proofs.YtedbgimmbapfaaaGreat
open Go.RowKit
set_option linter.unusedVariables false

abbrev Rec := Nat × ByteArray
def endR (x : Rec) : Nat := x.1 + (x.2.size + 12)
def RiseR (l : List Rec) : Prop := l.Pairwise (fun x y => endR x ≤ y.1)
/-- Behind so many of them. -/
def posK (l : List Rec) (k : Nat) : Nat := if k = 0 then 0 else (l[k - 1]?.map endR).getD 0
theorem posK_succ {l : List Rec} {k : Nat} {x : Rec} (h : l[k]? = some x) : posK l (k + 1) = endR x := by unfold posK; rw [if_neg (by omega), Nat.add_sub_cancel, h]; rfl
theorem rowP_rise : ∀ (l : List ByteArray) (k : Nat), RiseR (rowP k l) ∧ ∀ x ∈ rowP k l, k ≤ x.1 ∧ endR x ≤ k + rowZ l
  | [], k => ⟨List.Pairwise.nil, fun x h => by cases h⟩
  | p :: l, k => by
    obtain ⟨h1, h2⟩ := rowP_rise l (k + (p.size + 12))
    refine ⟨List.pairwise_cons.2 ⟨fun y hy => (h2 y hy).1, h1⟩, fun x hx => ?_⟩
    show _ ∧ _ ≤ k + (p.size + 12 + rowZ l)
    rcases List.mem_cons.1 hx with rfl | hx
    · refine ⟨Nat.le_refl _, ?_⟩
      show k + (p.size + 12) ≤ _
      omega
    · have := h2 x hx
      omega
theorem allAt_rise : ∀ (chs : List (List ByteArray)) (i : Nat), (∀ ps ∈ chs, 12 + rowZ ps ≤ 4096) → RiseR (allAt i chs) ∧ ∀ x ∈ allAt i chs, 4096 * i + 12 ≤ x.1 ∧ endR x ≤ 4096 * (i + chs.length)
  | [], i, _ => ⟨List.Pairwise.nil, fun x h => by cases h⟩
  | ps :: r, i, h => by
    obtain ⟨h1, h2⟩ := allAt_rise r (i + 1) (fun q hq => h q (List.mem_cons_of_mem _ hq))
    obtain ⟨h3, h4⟩ := rowP_rise ps (4096 * i + 12)
    have hz := h ps List.mem_cons_self
    refine ⟨List.pairwise_append.2 ⟨h3, h1, fun x hx y hy => ?_⟩, fun x hx => ?_⟩
    · have := (h4 x hx).2
      have := (h2 y hy).1
      omega
    · rw [List.length_cons]
      rcases List.mem_append.1 hx with hx | hx
      · have := h4 x hx
        omega
      · have := h2 x hx
        omega
theorem find_posK {l : List Rec} (h : RiseR l) {k : Nat} (hk : k ≤ l.length) : l.find? (fun x => decide ((posK l k : Int) ≤ (x.1 : Int))) = l[k]? := by
  have hp := List.pairwise_iff_getElem.1 h
  have hsp : l = l.take k ++ l.drop k := (List.take_append_drop k l).symm
  have h1 : (l.take k).find? (fun x => decide ((posK l k : Int) ≤ (x.1 : Int))) = none := by
    rw [List.find?_eq_none]
    intro x hx
    obtain ⟨i, hi⟩ := List.getElem?_of_mem hx
    have hil := (List.getElem?_eq_some_iff.1 hi).1
    rw [List.length_take] at hil
    rw [List.getElem?_take, if_pos (by omega)] at hi
    have hkl : k - 1 < l.length := by omega
    have e : posK l k = endR l[k - 1] := by unfold posK; rw [if_neg (by omega), List.getElem?_eq_getElem hkl]; rfl
    rw [e]
    have hx' : l[i] = x := by
      rw [List.getElem?_eq_getElem (by omega)] at hi
      simpa using hi
    have : x.1 < endR l[k - 1] := by
      rcases Nat.lt_or_ge i (k - 1) with c | c
      · have := hp i (k - 1) (by omega) hkl c
        rw [hx'] at this
        unfold endR at this ⊢
        omega
      · have e2 : i = k - 1 := by omega
        subst e2
        rw [hx']
        unfold endR
        omega
    simp
    omega
  rw [hsp, List.find?_append]
  rw [← hsp, h1]
  rcases Nat.lt_or_ge k l.length with c | c
  · rw [List.drop_eq_getElem_cons c, List.find?_cons]
    have : posK l k ≤ l[k].1 := by
      unfold posK
      by_cases h0 : k = 0
      · rw [if_pos h0]; exact Nat.zero_le _
      · rw [if_neg h0, List.getElem?_eq_getElem (by omega)]
        exact hp (k - 1) k (by omega) c (by omega)
    rw [decide_eq_true (by omega), List.getElem?_eq_getElem c]
    rfl
  · rw [List.drop_eq_nil_of_le c, List.getElem?_eq_none c]
    rfl
theorem end_posK (chs : List (List ByteArray)) (h : ∀ ps ∈ chs, 12 + rowZ ps ≤ 4096) : posK (allAt 0 chs) (allAt 0 chs).length = endS chs ∨ (endS chs % 4096 = 12 ∧ posK (allAt 0 chs) (allAt 0 chs).length + 12 ≤ endS chs) := by
  by_cases h0 : 0 < chs.length
  · obtain ⟨a, x, rfl⟩ := split_last h0
    rw [endS_snoc, allAt_app, allAt_one, Nat.zero_add]
    by_cases hx : 0 < x.length
    · left
      have hne : x ≠ [] := by intro e; rw [e] at hx; simp at hx
      obtain ⟨y, p, rfl⟩ : ∃ y p, x = y ++ [p] := ⟨x.dropLast, x.getLast hne, (List.dropLast_concat_getLast hne).symm⟩
      rw [rowP_snoc, ← List.append_assoc, List.length_append, List.length_singleton, rowZ_snoc]
      rw [posK_succ (x := (4096 * a.length + 12 + rowZ y, p)) (by rw [List.getElem?_append_right (Nat.le_refl _), Nat.sub_self]; rfl)]
      show 4096 * a.length + 12 + rowZ y + (p.size + 12) = _
      omega
    · have e : x = [] := List.eq_nil_of_length_eq_zero (by omega)
      subst e
      right
      show (4096 * a.length + (12 + 0)) % 4096 = 12 ∧ posK (allAt 0 a ++ []) (allAt 0 a ++ []).length + 12 ≤ 4096 * a.length + (12 + 0)
      rw [List.append_nil]
      refine ⟨by omega, ?_⟩
      obtain ⟨_, h2⟩ := allAt_rise a 0 (fun ps hps => h ps (List.mem_append_left _ hps))
      have : posK (allAt 0 a) (allAt 0 a).length ≤ 4096 * a.length := by
        unfold posK
        split
        · exact Nat.zero_le _
        · rw [List.getElem?_eq_getElem (by omega)]
          have := (h2 _ (List.getElem_mem (show (allAt 0 a).length - 1 < (allAt 0 a).length by omega))).2
          rw [Nat.zero_add] at this
          exact this
      omega
  · have e : chs = [] := List.eq_nil_of_length_eq_zero (by omega)
    subst e
    exact Or.inl rfl
theorem first_posK {D : DiskS} {chs : List (List ByteArray)} (g : GoodD D chs) (E : DiskS) {k : Nat} (hk : k ≤ (allAt 0 chs).length) : firstS (allAt 0 chs) (posK (allAt 0 chs) k : Nat) E = match (allAt 0 chs)[k]? with
    | none => ⟨ByteArray.empty, 0, 0, 4, E⟩
    | some x => ⟨x.2, (x.1 : Int), (endR x : Nat), 0, E⟩ := by
  have hr := (allAt_rise chs 0 (fun ps hps => (g.small ps hps).1)).1
  unfold firstS
  rw [find_posK hr hk]
  rfl
end Go.Proofs.YtedbgimmbapfaaaGreat
