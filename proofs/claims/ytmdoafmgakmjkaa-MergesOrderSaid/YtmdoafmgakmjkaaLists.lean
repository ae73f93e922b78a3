/- Lists of entries in a slice: as they came in; rows of a call's own. -/
import Derived.Test.YtmdoafmgakmjkaaEntRange
import Derived.Test.YtmdoafmgakmjkaaMgMath
import Derived.OpenShut
namespace Go.Proofs.Ytmdoafmgakmjkaa
open Go.ChangeShapes Go.WideShapes Go.ChangeAt Go.RowKit Go.Deep
set_option linter.unusedVariables false
set_option maxRecDepth 100000

/-- A list, and the slice that has it. -/
structure LstS where
  v : Value
  l : List EntS
abbrev els (L : List LstS) : List (List EntS) := L.map LstS.l
abbrev vals (L : List LstS) : List Value := L.map LstS.v
def Each (w : World) (L : List LstS) : Prop := ∀ x ∈ L, EntsIn w x.v x.l
def ListsAt (w : World) (v : Value) (L : List LstS) : Prop :=
  (L = [] ∧ ∃ a c, v = .slice a 0 c) ∨ ∃ b off cap, v = .slice (some ⟨b, off, none⟩) L.length cap ∧ L.length ≤ cap ∧ cap ≤ maxLen ∧ b < w.heap.size ∧ ∀ i x, L[i]? = some x → w.cell? ⟨b, off + i, none⟩ = some x.v
/-- A slice of them. -/
def ListsIn (w : World) (v : Value) (L : List LstS) : Prop := ListsAt w v L ∧ Each w L
theorem lsts_of {p : Nat → LstS → Prop} : ∀ n, (∀ i, i < n → ∃ x, p i x) → ∃ l : List LstS, l.length = n ∧ ∀ i x, l[i]? = some x → p i x
  | 0, _ => ⟨[], rfl, fun i x h => by simp at h⟩
  | n + 1, h => by
    obtain ⟨l, hl, hp⟩ := lsts_of n (fun i hi => h i (by omega))
    obtain ⟨x, hx⟩ := h n (by omega)
    refine ⟨l ++ [x], by rw [List.length_append, hl]; rfl, fun i y hy => ?_⟩
    rcases Nat.lt_or_ge i n with c | c
    · rw [List.getElem?_append_left (by omega)] at hy
      exact hp i y hy
    · rw [List.getElem?_append_right (by omega), hl] at hy
      have : i = n := by
        have := (List.getElem?_eq_some_iff.1 hy).1
        simp at this
        omega
      subst this
      rw [Nat.sub_self] at hy
      obtain rfl : x = y := by simpa using hy
      exact hx
theorem lst_cells : Try.prog.cellsOf 25 = 1 := by kernel_rfl
theorem ents_cell {H : Type} {enc : TypeId × Value → H} {W : World} {fuel : Nat} {c : Value} {d : DataW H} {p : List MemPlace}
    (hf : DataW.trod enc Try.prog W 0 (fun _ => true) true fuel 25 [c] = some (d, p)) (hlt : ∀ x ∈ p, x.block < W.heap.size) : ∃ l, EntsIn W c l ∧ ∀ x ∈ l, EntOk x := by
  have hv : ∃ a len cap, c = .slice a len cap := by
    rcases open_slice Try.underlying25 hf with ⟨hcs, _⟩ | ⟨a, len', cap', m, n, D, Pl, hcs, _⟩
    · exact ⟨none, 0, 0, by simpa using hcs⟩
    · exact ⟨some a, len', cap', by simpa using hcs⟩
  obtain ⟨a, len, cap, rfl⟩ := hv
  exact ents_in ⟨a, len, cap, rfl⟩ ⟨fuel, hf⟩ hlt
theorem lists_in {H : Type} {enc : TypeId × Value → H} {W : World} {v : Value} {d : DataW H} {p : List MemPlace} (hval : ∃ a len cap, v = .slice a len cap)
    (hd : DataW.Trod enc Try.prog W 0 (fun _ => true) true 22 v d p) (hlt : ∀ x ∈ p, x.block < W.heap.size) : ∃ L, ListsIn W v L ∧ ∀ x ∈ L, ∀ y ∈ x.l, EntOk y := by
  obtain ⟨a0, len, cap, rfl⟩ := hval
  obtain ⟨fuel, hf⟩ := hd
  rcases open_slice1 Try.underlying22 lst_cells hf with ⟨hcs, hx⟩ | ⟨a, len', cap', m, n, V, D, Pl, hcs, _, hl, hm, hmm, hx, hi⟩
  · simp [Value.cells] at hcs
    obtain ⟨rfl, rfl, rfl⟩ := hcs
    exact ⟨[], ⟨Or.inl ⟨rfl, _, _, rfl⟩, fun x hx => (by cases hx)⟩, fun x hx => (by cases hx)⟩
  · simp [Value.cells] at hcs
    obtain ⟨rfl, rfl, rfl⟩ := hcs
    simp only [Prod.mk.injEq] at hx
    obtain ⟨rfl, rfl⟩ := hx
    simp only [if_true] at hmm
    by_cases hl0 : len = 0
    · subst hl0
      exact ⟨[], ⟨Or.inl ⟨rfl, _, _, rfl⟩, fun x hx => (by cases hx)⟩, fun x hx => (by cases hx)⟩
    · have each : ∀ i, i < len → ∃ x : LstS, W.cell? (a.add i) = some x.v ∧ EntsIn W x.v x.l ∧ ∀ y ∈ x.l, EntOk y := by
        intro i hil
        obtain ⟨hc, ht⟩ := hi i (by omega)
        obtain ⟨l, h1, h2⟩ := ents_cell ht (fun x hx => hlt x (List.mem_append_right _ (List.mem_flatMap.2 ⟨i, List.mem_range.2 (by omega), hx⟩)))
        exact ⟨⟨V i, l⟩, hc, h1, h2⟩
      obtain ⟨b, off, spot⟩ := a
      have hspot : spot = none := by
        obtain ⟨x, hx, _⟩ := each 0 (by omega)
        simpa [Addr.add] using World.cell?_spot hx
      subst hspot
      obtain ⟨L, hll, hlp⟩ := lsts_of len each
      have hbW : b < W.heap.size := hlt (.cell b off) (List.mem_append_left _ (MemPlace.mem_row.2 ⟨0, by omega, by simp⟩))
      refine ⟨L, ⟨Or.inr ⟨b, off, cap, by rw [hll], by omega, hm, hbW, fun i x hx => ?_⟩, fun x hx => ?_⟩, fun x hx => ?_⟩
      · have h := (hlp i x hx).1
        have ea : (⟨b, off, none⟩ : Addr).add i = ⟨b, off + i, none⟩ := by unfold Addr.add; split <;> simp_all
        rw [ea] at h
        exact h
      · obtain ⟨i, hi⟩ := List.getElem?_of_mem hx
        exact (hlp i x hi).2.1
      · obtain ⟨i, hi⟩ := List.getElem?_of_mem hx
        exact (hlp i x hi).2.2
theorem lists_out {H : Type} {enc : TypeId × Value → H} {W W' : World} {v : Value} {d : DataW H} {p : List MemPlace}
    (hd : DataW.Trod enc Try.prog W 0 (fun _ => true) true 22 v d p) (hlt : ∀ x ∈ p, x.block < W.heap.size) (hb : Below W.heap.size W W') :
    DataW.Trod enc Try.prog W' 0 (fun b => decide (b < W.heap.size)) true 22 v d p :=
  Below.trod ents_laidOut (by kernel_rfl) (of_decide_eq_true (by kernel_rfl)) hd hb hlt

theorem Each.below {w w' : World} {L : List LstS} {B : Nat} (h : Each w L) (hb : Below B w w') (hB : w.heap.size ≤ B) : Each w' L := fun x hx => (h x hx).below hb hB
theorem ListsAt.below {w w' : World} {v : Value} {L : List LstS} {B : Nat} (h : ListsAt w v L) (hb : Below B w w') (hB : w.heap.size ≤ B) : ListsAt w' v L := by
  rcases h with h | ⟨b, off, cap, hv, hl, hm, hlt, hc⟩
  · exact Or.inl h
  · exact Or.inr ⟨b, off, cap, hv, hl, hm, Nat.lt_of_lt_of_le hlt hb.size, fun i x hx => (hb.cell (p := ⟨b, off + i, none⟩) (Nat.lt_of_lt_of_le hlt hB)).trans (hc i x hx)⟩
theorem ListsIn.below {w w' : World} {v : Value} {L : List LstS} {B : Nat} (h : ListsIn w v L) (hb : Below B w w') (hB : w.heap.size ≤ B) : ListsIn w' v L := ⟨h.1.below hb hB, h.2.below hb hB⟩
/-- A slice value, whichever it has; its elements. -/
theorem ListsAt.form {w : World} {v : Value} {L : List LstS} (h : ListsAt w v L) : ∃ A off cap, v = .slice A L.length cap ∧ L.length ≤ maxLen ∧
    ∀ i x, L[i]? = some x → ∃ b, A = some ⟨b, off, none⟩ ∧ b < w.heap.size ∧ w.cell? ⟨b, off + i, none⟩ = some x.v := by
  rcases h with ⟨rfl, a, c, rfl⟩ | ⟨b, off, cap, rfl, h2, h3, h4, h5⟩
  · exact ⟨a, 0, c, rfl, Nat.zero_le _, fun i x h => by simp at h⟩
  · exact ⟨some ⟨b, off, none⟩, off, cap, rfl, by omega, fun i x hx => ⟨b, rfl, h4, h5 i x hx⟩⟩
theorem Each.one {w : World} {L : List LstS} (h : Each w L) : ∀ u ∈ vals L, u.oneCell' = true := by
  intro u hu
  obtain ⟨x, hx, rfl⟩ := List.mem_map.1 hu
  obtain ⟨A, off, cap, e, -, -⟩ := (h x hx).form
  rw [e]
  rfl

/-- A row of a call's own. -/
abbrev LRow (w : World) (base : Nat) (v : Value) (L : List LstS) : Prop := w.ownsRow base 25 1 v L.length (vals L)
theorem LRow.nil (w : World) (base : Nat) : LRow w base (.slice none 0 0) [] := World.ownsRow_nil _ _ _ _
theorem LRow.at_ {w : World} {base : Nat} {v : Value} {L : List LstS} (h : LRow w base v L) : ListsAt w v L := by
  have h' := h
  rcases h.2 with ⟨hv, h0⟩ | ⟨g, cap, cur, hv, hg, hh, hn, hm, hsz, ht⟩
  · exact Or.inl ⟨List.length_eq_zero_iff.1 h0, none, 0, hv⟩
  · refine Or.inr ⟨g, 0, cap, hv, hn, hm, (Array.getElem?_eq_some_iff.1 hh).1, fun i x hx => ?_⟩
    have hi : i < L.length := (List.getElem?_eq_some_iff.1 hx).1
    rw [hv] at h'
    rw [Nat.zero_add]
    refine (h'.cellAt i (by omega)).trans ?_
    show (L.map LstS.v)[i]? = _
    rw [List.getElem?_map, hx]
    rfl
theorem LRow.in_ {w : World} {base : Nat} {v : Value} {L : List LstS} (h : LRow w base v L) (he : Each w L) : ListsIn w v L := ⟨h.at_, he⟩
theorem LRow.below {w w' : World} {base B : Nat} {v : Value} {L : List LstS} (h : LRow w base v L) (hb : Below B w w') (hB : w.heap.size ≤ B) : LRow w' base v L := by
  refine ⟨h.1, ?_⟩
  rcases h.2 with h0 | ⟨g, cap, cur, hv, hg, hh, r⟩
  · exact Or.inl h0
  · obtain ⟨hlt, _⟩ := Array.getElem?_eq_some_iff.1 hh
    exact Or.inr ⟨g, cap, cur, hv, hg, (hb.block g (Nat.lt_of_lt_of_le hlt hB)).trans hh, r⟩
theorem LRow.block {w : World} {base : Nat} {v : Value} {L : List LstS} (h : LRow w base v L) : ∀ k, v.ownBlock = some k → base ≤ k := by
  intro k hk
  rcases h.2 with ⟨rfl, _⟩ | ⟨g, cap, cur, rfl, hg, _⟩
  · cases hk
  · cases hk; exact hg
theorem LRow.down {w : World} {base base' : Nat} {v : Value} {L : List LstS} (h : LRow w base v L) (hb : base' ≤ base) : LRow w base' v L := by
  refine ⟨h.1, ?_⟩
  rcases h.2 with h0 | ⟨g, cap, cur, hv, hg, r⟩
  · exact Or.inl h0
  · exact Or.inr ⟨g, cap, cur, hv, Nat.le_trans hb hg, r⟩
/-- The shape of a row that has something. -/
theorem LRow.some_ {w : World} {base n c : Nat} {A : Option Addr} {L : List LstS} (h : LRow w base (.slice A n c) L) (hn : 0 < L.length) : ∃ g, A = some ⟨g, 0, none⟩ ∧ base ≤ g ∧ g < w.heap.size ∧ n = L.length := by
  rcases h.2 with ⟨hv, h0⟩ | ⟨g, cap, cur, hv, hg, hh, _⟩
  · omega
  · obtain ⟨rfl, rfl, -⟩ := Value.slice.inj hv
    exact ⟨g, rfl, hg, (Array.getElem?_eq_some_iff.1 hh).1, rfl⟩
theorem LRow.cell {w : World} {base g n c i : Nat} {L : List LstS} {x : LstS} (h : LRow w base (.slice (some ⟨g, 0, none⟩) n c) L) (hn : n = L.length) (hx : L[i]? = some x) : w.cell? ⟨g, i, none⟩ = some x.v ∧ w.frozen? ⟨g, i, none⟩ = false := by
  subst hn
  have hi : i < L.length := (List.getElem?_eq_some_iff.1 hx).1
  refine ⟨(h.cellAt i (by omega)).trans ?_, h.frozenAt i⟩
  show (L.map LstS.v)[i]? = _
  rw [List.getElem?_map, hx]
  rfl
/-- A list of it is another one. -/
theorem LRow.put {w : World} {base g n c i : Nat} {L : List LstS} (h : LRow w base (.slice (some ⟨g, 0, none⟩) n c) L) (hn : n = L.length) (x : LstS) : LRow (w.setCell ⟨g, i, none⟩ x.v) base (.slice (some ⟨g, 0, none⟩) n c) (L.set i x) := by
  subst hn
  have h1 := (h.stored i x.v).1
  unfold LRow vals
  rw [List.length_set, List.map_set]
  exact h1
theorem info_lst : (Try.prog.info? 25).map (fun i => (i.zero, i.size, i.bytes)) = some (some (.slice none 0 0), 1, 24) := by kernel_rfl
theorem ListsAt.src {w : World} {v : Value} {L : List LstS} (h : ListsAt w v L) : SrcAt w 1 v L.length (vals L) := by
  refine ⟨by unfold vals; rw [List.length_map, Nat.mul_one], ?_⟩
  rcases h with ⟨rfl, a, c, rfl⟩ | ⟨b, off, cap, rfl, h2, h3, h4, h5⟩
  · cases a with
    | none => exact Or.inl ⟨c, rfl, rfl⟩
    | some a => exact Or.inr ⟨a, c, rfl, fun j u hu => by cases hu⟩
  · refine Or.inr ⟨⟨b, off, none⟩, cap, rfl, fun j u hu => ?_⟩
    unfold vals at hu
    rw [List.getElem?_map] at hu
    obtain ⟨x, hx, rfl⟩ := Option.map_eq_some_iff.1 hu
    have ea : (⟨b, off, none⟩ : Addr).add j = ⟨b, off + j, none⟩ := by unfold Addr.add; split <;> simp_all
    rw [ea]
    exact h5 j x hx
theorem lst_one (w : World) (x : LstS) : ListsAt (w.alloc (.cells #[x.v] 25)) (.slice (some ⟨w.heap.size, 0, none⟩) 1 1) [x] := by
  refine Or.inr ⟨w.heap.size, 0, 1, rfl, Nat.le_refl _, by unfold maxLen; omega, by simp, fun i y hy => ?_⟩
  match i, hy with
  | 0, hy =>
    obtain rfl : x = y := by simpa using hy
    simp
/-- append to a row of a call's own. -/
theorem lists_append {w : World} {base : Nat} {vs vx : Value} {L M : List LstS} (hown : LRow w base vs L) (hsrc : ListsAt w vx M) (h1 : ∀ u ∈ vals M, u.oneCell' = true) (hl : L.length + M.length ≤ 1000000) (hb : base ≤ w.heap.size) (ty : TypeId) :
    ∃ A c w', (Builtin.append_ #[22, 22] ty #[vs, vx]).run Try.prog w = .ok (.slice A (L.length + M.length) c) w' ∧ LRow w' base (.slice A (L.length + M.length) c) (L ++ M) ∧ w.grownBy w' vs.ownBlock ∧ ((Value.slice A (L.length + M.length) c).ownBlock = vs.ownBlock ∨ (Value.slice A (L.length + M.length) c).ownBlock = some w.heap.size) := by
  obtain ⟨i0, hi, hz0, hz1, hz2⟩ := info_parts info_lst
  obtain ⟨v', w', e1, e2, e3, e4⟩ := run_append_src (P := Try.prog) w base 22 25 i0 _ 1 24 ty Try.underlying22 hi hz0 hz1 hz2 rfl (by decide) vs L.length (vals L) hown vx M.length (vals M) hsrc.src h1 (by unfold maxLen; omega) (by omega) hb
  obtain ⟨A, c, rfl, -, -, -⟩ := own_form e2
  refine ⟨A, c, w', e1, ?_, e3, e4⟩
  unfold LRow vals
  rw [List.map_append, List.length_append]
  exact e2
/-- Rows of both kinds do not lie in one block. -/
theorem lst_ne : (25 : TypeId) ≠ 30 := by decide
theorem LRow.grown {w w' : World} {base base' : Nat} {u v : Value} {L : List LstS} {l : List EntS} (h : LRow w base v L) (hr : EntRow w base' u l) (hg : w.grownBy w' u.ownBlock) : LRow w' base v L :=
  own_touch h (F := u.ownBlock.toList) (Touch.grown (Touch.refl _ w) hg (fun k hk => Or.inl (by rw [hk]; simp))) (fun b hb hm => own_own_ne hr h lst_ne.symm b hb (by simpa using hm))
theorem EntRow.grown_l {w w' : World} {base base' : Nat} {u v : Value} {L : List LstS} {l : List EntS} (h : EntRow w base v l) (hr : LRow w base' u L) (hg : w.grownBy w' u.ownBlock) : EntRow w' base v l :=
  own_touch h (F := u.ownBlock.toList) (Touch.grown (Touch.refl _ w) hg (fun k hk => Or.inl (by rw [hk]; simp))) (fun b hb hm => own_own_ne hr h lst_ne b hb (by simpa using hm))
theorem EntRow.far_l {w : World} {base base' g n c i : Nat} {v x : Value} {L : List LstS} {l : List EntS} (h : EntRow w base v l) (hr : LRow w base' (.slice (some ⟨g, 0, none⟩) n c) L) : EntRow (w.setCell ⟨g, i, none⟩ x) base v l :=
  own_far h (fun hb => own_own_ne hr h lst_ne g hb rfl) x
theorem LRow.alloc {w : World} {base : Nat} {v : Value} {L : List LstS} (h : LRow w base v L) (o : Obj) : LRow (w.alloc o) base v L := LRow.below h ((Below.refl w.heap.size w).alloc (Nat.le_refl _) o) (Nat.le_refl _)

/-- A list of lists of a call's own. -/
def ListsOut (w : World) (L : List LstS) (e : Ending) (w' : World) : Prop := ∃ A c, e = .returned (.slice A L.length c) ∧ LRow w' w.heap.size (.slice A L.length c) L ∧ Below w.heap.size w w'
theorem lists_isnil (A : Option Addr) (n c : Nat) (w : World) : (binOp .eql 22 (.slice A n c) (.slice none 0 0)).run Try.prog w = .ok (.bool A.isNone) w := by
  have he := run_equal_slice_nil (P := Try.prog) w 22 25 A n c Try.underlying22
  simp only [binOp]
  simp [he]
theorem lclone_any (v : Value) (L : List LstS) (w : World) (h : ListsIn w v L) (hl : L.length ≤ 500000) : Calls Try.prog 16 #[v] w (ListsOut w L) := by
  obtain ⟨A, off, cap, rfl, -, -⟩ := h.1.form
  cases A with
  | none =>
    have hn : L = [] := by
      rcases h.1 with ⟨e, _⟩ | ⟨b, off', cap', e, _⟩
      · exact e
      · cases e
    subst hn
    have hq := fun W => lists_isnil none 0 cap W
    clear h hl
    go_enter Try.func16, Try.ntmps16
    go_wp2
    go_ret
    exact ⟨none, 0, rfl, LRow.nil _ _, Below.refl _ _⟩
  | some a =>
    have hb := (Below.refl w.heap.size w).alloc (Nat.le_refl _) (.cells #[] 25)
    have hown : LRow (w.alloc (.cells #[] 25)) w.heap.size (.slice (some ⟨w.heap.size, 0, none⟩) 0 0) [] := World.ownsRow_made w #[] 0 (Nat.le_refl _) (Nat.zero_le _) rfl
    have h1 := h.1.below hb (Nat.le_refl _)
    obtain ⟨A', c', w', e1, e2, e3, e4⟩ := lists_append hown h1 h.2.one (by simp; omega) (by simp) 22
    have hT := hb.trans (grown_below e3 (B := w.heap.size) (by simp) (fun k hk => by simp [Value.ownBlock] at hk; omega))
    have HT := Lib.hid hT
    rw [List.nil_append] at e2
    have hz : ([] : List LstS).length + L.length = L.length := by simp
    rw [hz] at e1 e2
    have HK := Lib.hid e2
    clear h hl hb hown h1 e2 e3 e4 hT hz
    unfold ListsOut
    obtain ⟨m, hm⟩ : ∃ m, m = L.length := ⟨_, rfl⟩
    have HM := Lib.hid hm
    rw [← hm] at e1 HK ⊢
    clear hm
    have HE := Lib.hid e1
    have hq := fun W => lists_isnil (some a) m cap W
    clear e1
    go_enter Try.func16, Try.ntmps16
    go_wp2_with (first | (at_builtin; refine wpList_append_two rfl _ _ rfl rfl rfl HE.out ?_) | fail)
    go_ret
    exact ⟨A', c', rfl, HK.out, HT.out⟩
end Go.Proofs.Ytmdoafmgakmjkaa
