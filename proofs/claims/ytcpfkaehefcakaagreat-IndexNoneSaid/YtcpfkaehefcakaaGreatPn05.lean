/- ZnEnts, ZnIntRow, ZnLvs, ZnLvLit -/
import Derived.Test.YtcpfkaehefcakaaGreatPn02
import Derived.Deep.Slices
import Derived.Deep.Fields
import Derived.ChangeSame
import Derived.WideShapes
import Derived.Carry
import Derived.ProofKit
import Derived.OpenShut
namespace Go.Proofs.YtcpfkaehefcakaaGreat
set_option maxRecDepth 100000
set_option linter.unusedVariables false
section
open Go.ChangeShapes Go.WideShapes Go.ChangeAt Go.RowKit Go.Deep
structure EntS where
  h : Nat
  v : Int
  p : Int
def entCells (x : EntS) : List Value := [.int .u64 (x.h : Nat), .int .i64 x.v, .int .i64 x.p]
abbrev entB (x : EntS) : Value := .agg #[.int .u64 (x.h : Nat), .int .i64 x.v, .int .i64 x.p]
structure EntOk (x : EntS) : Prop where
  h : x.h < 18446744073709551616
  v0 : -9223372036854775808 ≤ x.v
  v1 : x.v ≤ 9223372036854775807
  p0 : -9223372036854775808 ≤ x.p
  p1 : x.p ≤ 9223372036854775807
def EntsIn (w : World) (v : Value) (l : List EntS) : Prop :=
  (l = [] ∧ ∃ a c, v = .slice a 0 c) ∨ ∃ b off cap, v = .slice (some ⟨b, off, none⟩) l.length cap ∧ l.length ≤ cap ∧ cap ≤ maxLen ∧ b < w.heap.size ∧
    ∀ i x, l[i]? = some x → ∀ j u, (entCells x)[j]? = some u → w.cell? ⟨b, off + (i * 3 + j), none⟩ = some u
theorem EntsIn.below {w w' : World} {v : Value} {l : List EntS} {B : Nat} (h : EntsIn w v l) (hb : Below B w w') (hB : w.heap.size ≤ B) : EntsIn w' v l := by
  rcases h with h | ⟨b, off, cap, hv, hl, hm, hlt, hc⟩
  · exact Or.inl h
  · exact Or.inr ⟨b, off, cap, hv, hl, hm, Nat.lt_of_lt_of_le hlt hb.size, fun i x hx j u hu => (hb.cell (p := ⟨b, off + (i * 3 + j), none⟩) (Nat.lt_of_lt_of_le hlt hB)).trans (hc i x hx j u hu)⟩
def intV (x : Int) : Value := .int .i64 x
theorem ints_laidOut : laidOutB Tryz.prog = true := by kernel_rfl
theorem cells_int : Tryz.prog.cellsOf 3 = 1 := by kernel_rfl
def InI64 (x : Int) : Prop := -9223372036854775808 ≤ x ∧ x ≤ 9223372036854775807
theorem ints_in {H : Type} {enc : TypeId × Value → H} {W : World} {v : Value} {d : DataW H} {p : List MemPlace} (hval : ∃ a len cap, v = .slice a len cap)
    (hd : DataW.Trod enc Tryz.prog W 0 (fun _ => true) true 68 v d p) (hlt : ∀ x ∈ p, x.block < W.heap.size) : ∃ l : List Int, IntsIn W v l ∧ ∀ x ∈ l, InI64 x := by
  obtain ⟨a0, len, cap, rfl⟩ := hval
  obtain ⟨fuel, hf⟩ := hd
  rcases open_ints Tryz.underlying68 Tryz.underlying3 cells_int hf with ⟨hcs, hx⟩ | ⟨a, len', cap', zs, hcs, _, hl, hm, hz, hx, hcell, hwz⟩
  · simp [Value.cells] at hcs
    obtain ⟨rfl, rfl, rfl⟩ := hcs
    exact ⟨[], Or.inl ⟨rfl, _, _, rfl⟩, fun x hx => by cases hx⟩
  · simp [Value.cells] at hcs
    obtain ⟨rfl, rfl, rfl⟩ := hcs
    simp only [Prod.mk.injEq] at hx
    obtain ⟨rfl, rfl⟩ := hx
    simp only [if_true] at hz
    by_cases hl0 : len = 0
    · subst hl0
      exact ⟨[], Or.inl ⟨rfl, _, _, rfl⟩, fun x hx => by cases hx⟩
    · obtain ⟨b, off, spot⟩ := a
      have hspot : spot = none := by simpa [Addr.add] using World.cell?_spot (hcell 0 (by omega))
      subst hspot
      have hbW : b < W.heap.size := hlt (.cell b off) (MemPlace.mem_row.2 ⟨0, by omega, by simp⟩)
      have hlen : (zs.take len).length = len := by rw [List.length_take]; omega
      refine ⟨zs.take len, Or.inr ⟨b, off, cap, by rw [hlen], by omega, hm, hbW, fun i x hx => ?_⟩, fun x hx => bounds_i64 (hwz x (List.mem_of_mem_take hx))⟩
      rw [List.getElem?_take] at hx
      by_cases hi : i < len
      · rw [if_pos hi] at hx
        have hi' : i < zs.length := by omega
        rw [List.getElem?_eq_getElem hi'] at hx
        obtain rfl : zs[i] = x := by simpa using hx
        have e1 : zs.getD i 0 = zs[i] := by rw [List.getD_eq_getElem?_getD, List.getElem?_eq_getElem hi']; rfl
        have ea : (⟨b, off, none⟩ : Addr).add i = ⟨b, off + i, none⟩ := by simp [Addr.add]
        have h := hcell i hi'
        rw [ea, e1] at h
        exact h
      · rw [if_neg hi] at hx
        cases hx
theorem IntsIn.form {w : World} {v : Value} {l : List Int} (h : IntsIn w v l) : ∃ A off cap, v = .slice A l.length cap ∧ l.length ≤ maxLen ∧
    ∀ i x, l[i]? = some x → ∃ b, A = some ⟨b, off, none⟩ ∧ b < w.heap.size ∧ w.cell? ⟨b, off + i, none⟩ = some (.int .i64 x) := by
  rcases h with ⟨rfl, a, c, rfl⟩ | ⟨b, off, cap, rfl, h2, h3, h4, h5⟩
  · exact ⟨a, 0, c, rfl, Nat.zero_le _, fun i x h => by simp at h⟩
  · exact ⟨some ⟨b, off, none⟩, off, cap, rfl, by omega, fun i x hx => ⟨b, rfl, h4, h5 i x hx⟩⟩
theorem intV_one {l : List Int} : ∀ u ∈ l.map intV, u.oneCell' = true := by
  intro u hu
  obtain ⟨x, -, rfl⟩ := List.mem_map.1 hu
  rfl
abbrev IRow (w : World) (base : Nat) (v : Value) (l : List Int) : Prop := w.ownsRow base 3 1 v l.length (l.map intV)
theorem IRow.nil (w : World) (base : Nat) : IRow w base (.slice none 0 0) [] := World.ownsRow_nil _ _ _ _
theorem IRow.in_ {w : World} {base : Nat} {v : Value} {l : List Int} (h : IRow w base v l) : IntsIn w v l := by
  have h' := h
  rcases h.2 with ⟨hv, h0⟩ | ⟨g, cap, cur, hv, hg, hh, hn, hm, hsz, ht⟩
  · exact Or.inl ⟨List.length_eq_zero_iff.1 h0, none, 0, hv⟩
  · refine Or.inr ⟨g, 0, cap, hv, hn, hm, (Array.getElem?_eq_some_iff.1 hh).1, fun i x hx => ?_⟩
    have hi : i < l.length := (List.getElem?_eq_some_iff.1 hx).1
    rw [hv] at h'
    rw [Nat.zero_add]
    refine (h'.cellAt i (by omega)).trans ?_
    show (l.map intV)[i]? = _
    rw [List.getElem?_map, hx]
    rfl
theorem IRow.below {w w' : World} {base B : Nat} {v : Value} {l : List Int} (h : IRow w base v l) (hb : Below B w w') (hB : w.heap.size ≤ B) : IRow w' base v l := by
  refine ⟨h.1, ?_⟩
  rcases h.2 with h0 | ⟨g, cap, cur, hv, hg, hh, r⟩
  · exact Or.inl h0
  · obtain ⟨hlt, _⟩ := Array.getElem?_eq_some_iff.1 hh
    exact Or.inr ⟨g, cap, cur, hv, hg, (hb.block g (Nat.lt_of_lt_of_le hlt hB)).trans hh, r⟩
theorem IRow.block {w : World} {base : Nat} {v : Value} {l : List Int} (h : IRow w base v l) : ∀ k, v.ownBlock = some k → base ≤ k ∧ k < w.heap.size := fun k hk => h.lt k hk
theorem IRow.down {w : World} {base base' : Nat} {v : Value} {l : List Int} (h : IRow w base v l) (hb : base' ≤ base) : IRow w base' v l := by
  refine ⟨h.1, ?_⟩
  rcases h.2 with h0 | ⟨g, cap, cur, hv, hg, r⟩
  · exact Or.inl h0
  · exact Or.inr ⟨g, cap, cur, hv, Nat.le_trans hb hg, r⟩
theorem IntsIn.src {w : World} {v : Value} {l : List Int} (h : IntsIn w v l) : SrcAt w 1 v l.length (l.map intV) := by
  refine ⟨by rw [List.length_map, Nat.mul_one], ?_⟩
  rcases h with ⟨rfl, a, c, rfl⟩ | ⟨b, off, cap, rfl, h2, h3, h4, h5⟩
  · cases a with
    | none => exact Or.inl ⟨c, rfl, rfl⟩
    | some a => exact Or.inr ⟨a, c, rfl, fun j u hu => by cases hu⟩
  · refine Or.inr ⟨⟨b, off, none⟩, cap, rfl, fun j u hu => ?_⟩
    rw [List.getElem?_map] at hu
    obtain ⟨x, hx, rfl⟩ := Option.map_eq_some_iff.1 hu
    have ea : (⟨b, off, none⟩ : Addr).add j = ⟨b, off + j, none⟩ := by unfold Addr.add; split <;> simp_all
    rw [ea]
    exact h5 j x hx
theorem int_one (w : World) (x : Int) : IntsIn (w.alloc (.cells #[.int .i64 x] 3)) (.slice (some ⟨w.heap.size, 0, none⟩) 1 1) [x] := by
  refine Or.inr ⟨w.heap.size, 0, 1, rfl, Nat.le_refl _, by unfold maxLen; omega, by simp, fun i y hy => ?_⟩
  match i, hy with
  | 0, hy =>
    obtain rfl : x = y := by simpa using hy
    simp
theorem ints_append {w : World} {base : Nat} {vs vx : Value} {l m : List Int} (hown : IRow w base vs l) (hsrc : IntsIn w vx m) (hl : l.length + m.length ≤ 1000000) (hb : base ≤ w.heap.size) (ty : TypeId) :
    ∃ A c w', (Builtin.append_ #[68, 68] ty #[vs, vx]).run Tryz.prog w = .ok (.slice A (l.length + m.length) c) w' ∧ IRow w' base (.slice A (l.length + m.length) c) (l ++ m) ∧ w.grownBy w' vs.ownBlock ∧ ((Value.slice A (l.length + m.length) c).ownBlock = vs.ownBlock ∨ (Value.slice A (l.length + m.length) c).ownBlock = some w.heap.size) := by
  obtain ⟨i0, hi, hz0, hz1, hz2⟩ := info_parts info_int
  obtain ⟨v', w', e1, e2, e3, e4⟩ := run_append_src (P := Tryz.prog) w base 68 3 i0 _ 1 8 ty Tryz.underlying68 hi hz0 hz1 hz2 rfl (by decide) vs l.length (l.map intV) hown vx m.length (m.map intV) hsrc.src intV_one (by unfold maxLen; omega) (by omega) hb
  obtain ⟨A, c, rfl, -, -, -⟩ := own_form e2
  refine ⟨A, c, w', e1, ?_, e3, e4⟩
  unfold IRow
  rw [List.map_append, List.length_append]
  exact e2
theorem igrown_below {B : Nat} {w w' : World} {v : Value} (h : w.grownBy w' v.ownBlock) (hB : B ≤ w.heap.size) (hv : ∀ k, v.ownBlock = some k → B ≤ k) : Below B w w' := ⟨h.os, h.tape, h.output, h.size, fun k hk => h.block k (by omega) (fun e => by have := hv k e.symm; omega)⟩
theorem ints_isnil (A : Option Addr) (n c : Nat) (w : World) : (binOp .eql 68 (.slice A n c) (.slice none 0 0)).run Tryz.prog w = .ok (.bool A.isNone) w := by
  have he := run_equal_slice_nil (P := Tryz.prog) w 68 3 A n c Tryz.underlying68
  simp only [binOp]
  simp [he]
def IntsOut (w : World) (l : List Int) (e : Ending) (w' : World) : Prop := ∃ A c, e = .returned (.slice A l.length c) ∧ IRow w' w.heap.size (.slice A l.length c) l ∧ Below w.heap.size w w'
theorem iclone_any (v : Value) (l : List Int) (w : World) (h : IntsIn w v l) (hl : l.length ≤ 500000) : Calls Tryz.prog 81 #[v] w (IntsOut w l) := by
  obtain ⟨A, off, cap, rfl, -, -⟩ := h.form
  cases A with
  | none =>
    have hn : l = [] := by
      rcases h with ⟨e, _⟩ | ⟨b, off', cap', e, _⟩
      · exact e
      · cases e
    subst hn
    have hq := fun W => ints_isnil none 0 cap W
    clear h hl
    go_enter Tryz.func81, Tryz.ntmps81
    go_wp2
    go_ret
    exact ⟨none, 0, rfl, IRow.nil _ _, Below.refl _ _⟩
  | some a =>
    have hb := (Below.refl w.heap.size w).alloc (Nat.le_refl _) (.cells #[] 3)
    have hown : IRow (w.alloc (.cells #[] 3)) w.heap.size (.slice (some ⟨w.heap.size, 0, none⟩) 0 0) [] := World.ownsRow_made w #[] 0 (Nat.le_refl _) (Nat.zero_le _) rfl
    have h1 := h.below hb (Nat.le_refl _)
    obtain ⟨A', c', w', e1, e2, e3, e4⟩ := ints_append hown h1 (by simp; omega) (by simp) 68
    have hT := hb.trans (igrown_below e3 (B := w.heap.size) (by simp) (fun k hk => by simp [Value.ownBlock] at hk; omega))
    have HT := Lib.hid hT
    rw [List.nil_append] at e2
    have hz : ([] : List Int).length + l.length = l.length := by simp
    rw [hz] at e1 e2
    have HK := Lib.hid e2
    clear h hl hb hown h1 e2 e3 e4 hT hz
    obtain ⟨m, hm⟩ : ∃ m, m = l.length := ⟨_, rfl⟩
    have HM := Lib.hid hm
    rw [← hm] at e1 HK ⊢
    clear hm
    have HE := Lib.hid e1
    have hq := fun W => ints_isnil (some a) m cap W
    clear e1
    go_enter Tryz.func81, Tryz.ntmps81
    go_wp2_with (first | (at_builtin; refine wpList_append_two rfl _ _ rfl rfl rfl HE.out ?_) | fail)
    go_ret
    exact ⟨A', c', by rw [← HM.out]; rfl, by rw [← HM.out]; exact HK.out, HT.out⟩
structure LvS where
  v : Value
  l : List Int
abbrev lvl (L : List LvS) : List (List Int) := L.map LvS.l
abbrev lvals (L : List LvS) : List Value := L.map LvS.v
def LvEach (w : World) (L : List LvS) : Prop := ∀ x ∈ L, IntsIn w x.v x.l
def LvsAt (w : World) (v : Value) (L : List LvS) : Prop :=
  (L = [] ∧ ∃ a c, v = .slice a 0 c) ∨ ∃ b off cap, v = .slice (some ⟨b, off, none⟩) L.length cap ∧ L.length ≤ cap ∧ cap ≤ maxLen ∧ b < w.heap.size ∧ ∀ i x, L[i]? = some x → w.cell? ⟨b, off + i, none⟩ = some x.v
def LvsIn (w : World) (v : Value) (L : List LvS) : Prop := LvsAt w v L ∧ LvEach w L
theorem lvs_of {p : Nat → LvS → Prop} : ∀ n, (∀ i, i < n → ∃ x, p i x) → ∃ l : List LvS, l.length = n ∧ ∀ i x, l[i]? = some x → p i x
  | 0, _ => ⟨[], rfl, fun i x h => by simp at h⟩
  | n + 1, h => by
    obtain ⟨l, hl, hp⟩ := lvs_of n (fun i hi => h i (by omega))
    obtain ⟨x, hx⟩ := h n (by omega)
    refine ⟨l ++ [x], by rw [List.length_append, hl]; rfl, fun i y hy => ?_⟩
    rcases Nat.lt_or_ge i n with c | c
    · rw [List.getElem?_append_left (by omega)] at hy
      exact hp i y hy
    · rw [List.getElem?_append_right (by omega), hl] at hy
      have : i = n := by
        have := (List.getElem?_eq_some_iff.1 hy).1
        simp at this
        omega
      subst this
      rw [Nat.sub_self] at hy
      obtain rfl : x = y := by simpa using hy
      exact hx
theorem lv_cells : Tryz.prog.cellsOf 68 = 1 := by kernel_rfl
theorem ints_cell {H : Type} {enc : TypeId × Value → H} {W : World} {fuel : Nat} {c : Value} {d : DataW H} {p : List MemPlace}
    (hf : DataW.trod enc Tryz.prog W 0 (fun _ => true) true fuel 68 [c] = some (d, p)) (hlt : ∀ x ∈ p, x.block < W.heap.size) : ∃ l, IntsIn W c l ∧ ∀ x ∈ l, InI64 x := by
  have hv : ∃ a len cap, c = .slice a len cap := by
    rcases open_slice Tryz.underlying68 hf with ⟨hcs, _⟩ | ⟨a, len', cap', m, n, D, Pl, hcs, _⟩
    · exact ⟨none, 0, 0, by simpa using hcs⟩
    · exact ⟨some a, len', cap', by simpa using hcs⟩
  obtain ⟨a, len, cap, rfl⟩ := hv
  exact ints_in ⟨a, len, cap, rfl⟩ ⟨fuel, hf⟩ hlt
theorem lvs_in {H : Type} {enc : TypeId × Value → H} {W : World} {v : Value} {d : DataW H} {p : List MemPlace} (hval : ∃ a len cap, v = .slice a len cap)
    (hd : DataW.Trod enc Tryz.prog W 0 (fun _ => true) true 36 v d p) (hlt : ∀ x ∈ p, x.block < W.heap.size) : ∃ L, LvsIn W v L ∧ ∀ x ∈ L, ∀ y ∈ x.l, InI64 y := by
  obtain ⟨a0, len, cap, rfl⟩ := hval
  obtain ⟨fuel, hf⟩ := hd
  rcases open_slice1 Tryz.underlying36 lv_cells hf with ⟨hcs, hx⟩ | ⟨a, len', cap', m, n, V, D, Pl, hcs, _, hl, hm, hmm, hx, hi⟩
  · simp [Value.cells] at hcs
    obtain ⟨rfl, rfl, rfl⟩ := hcs
    exact ⟨[], ⟨Or.inl ⟨rfl, _, _, rfl⟩, fun x hx => (by cases hx)⟩, fun x hx => (by cases hx)⟩
  · simp [Value.cells] at hcs
    obtain ⟨rfl, rfl, rfl⟩ := hcs
    simp only [Prod.mk.injEq] at hx
    obtain ⟨rfl, rfl⟩ := hx
    simp only [if_true] at hmm
    by_cases hl0 : len = 0
    · subst hl0
      exact ⟨[], ⟨Or.inl ⟨rfl, _, _, rfl⟩, fun x hx => (by cases hx)⟩, fun x hx => (by cases hx)⟩
    · have each : ∀ i, i < len → ∃ x : LvS, W.cell? (a.add i) = some x.v ∧ IntsIn W x.v x.l ∧ ∀ y ∈ x.l, InI64 y := by
        intro i hil
        obtain ⟨hc, ht⟩ := hi i (by omega)
        obtain ⟨l, h1, h2⟩ := ints_cell ht (fun x hx => hlt x (List.mem_append_right _ (List.mem_flatMap.2 ⟨i, List.mem_range.2 (by omega), hx⟩)))
        exact ⟨⟨V i, l⟩, hc, h1, h2⟩
      obtain ⟨b, off, spot⟩ := a
      have hspot : spot = none := by
        obtain ⟨x, hx, _⟩ := each 0 (by omega)
        simpa [Addr.add] using World.cell?_spot hx
      subst hspot
      obtain ⟨L, hll, hlp⟩ := lvs_of len each
      have hbW : b < W.heap.size := hlt (.cell b off) (List.mem_append_left _ (MemPlace.mem_row.2 ⟨0, by omega, by simp⟩))
      refine ⟨L, ⟨Or.inr ⟨b, off, cap, by rw [hll], by omega, hm, hbW, fun i x hx => ?_⟩, fun x hx => ?_⟩, fun x hx => ?_⟩
      · have h := (hlp i x hx).1
        have ea : (⟨b, off, none⟩ : Addr).add i = ⟨b, off + i, none⟩ := by unfold Addr.add; split <;> simp_all
        rw [ea] at h
        exact h
      · obtain ⟨i, hi⟩ := List.getElem?_of_mem hx
        exact (hlp i x hi).2.1
      · obtain ⟨i, hi⟩ := List.getElem?_of_mem hx
        exact (hlp i x hi).2.2
theorem LvEach.below {w w' : World} {L : List LvS} {B : Nat} (h : LvEach w L) (hb : Below B w w') (hB : w.heap.size ≤ B) : LvEach w' L := fun x hx => (h x hx).below hb hB
theorem LvsAt.below {w w' : World} {v : Value} {L : List LvS} {B : Nat} (h : LvsAt w v L) (hb : Below B w w') (hB : w.heap.size ≤ B) : LvsAt w' v L := by
  rcases h with h | ⟨b, off, cap, hv, hl, hm, hlt, hc⟩
  · exact Or.inl h
  · exact Or.inr ⟨b, off, cap, hv, hl, hm, Nat.lt_of_lt_of_le hlt hb.size, fun i x hx => (hb.cell (p := ⟨b, off + i, none⟩) (Nat.lt_of_lt_of_le hlt hB)).trans (hc i x hx)⟩
theorem LvsIn.below {w w' : World} {v : Value} {L : List LvS} {B : Nat} (h : LvsIn w v L) (hb : Below B w w') (hB : w.heap.size ≤ B) : LvsIn w' v L := ⟨h.1.below hb hB, h.2.below hb hB⟩
theorem LvsAt.form {w : World} {v : Value} {L : List LvS} (h : LvsAt w v L) : ∃ A off cap, v = .slice A L.length cap ∧ L.length ≤ maxLen ∧
    ∀ i x, L[i]? = some x → ∃ b, A = some ⟨b, off, none⟩ ∧ b < w.heap.size ∧ w.cell? ⟨b, off + i, none⟩ = some x.v := by
  rcases h with ⟨rfl, a, c, rfl⟩ | ⟨b, off, cap, rfl, h2, h3, h4, h5⟩
  · exact ⟨a, 0, c, rfl, Nat.zero_le _, fun i x h => by simp at h⟩
  · exact ⟨some ⟨b, off, none⟩, off, cap, rfl, by omega, fun i x hx => ⟨b, rfl, h4, h5 i x hx⟩⟩
theorem LvEach.one {w : World} {L : List LvS} (h : LvEach w L) : ∀ u ∈ lvals L, u.oneCell' = true := by
  intro u hu
  obtain ⟨x, hx, rfl⟩ := List.mem_map.1 hu
  obtain ⟨A, off, cap, e, -, -⟩ := (h x hx).form
  rw [e]
  rfl
abbrev LvRow (w : World) (base : Nat) (v : Value) (L : List LvS) : Prop := w.ownsRow base 68 1 v L.length (lvals L)
theorem LvRow.nil (w : World) (base : Nat) : LvRow w base (.slice none 0 0) [] := World.ownsRow_nil _ _ _ _
theorem LvRow.at_ {w : World} {base : Nat} {v : Value} {L : List LvS} (h : LvRow w base v L) : LvsAt w v L := by
  have h' := h
  rcases h.2 with ⟨hv, h0⟩ | ⟨g, cap, cur, hv, hg, hh, hn, hm, hsz, ht⟩
  · exact Or.inl ⟨List.length_eq_zero_iff.1 h0, none, 0, hv⟩
  · refine Or.inr ⟨g, 0, cap, hv, hn, hm, (Array.getElem?_eq_some_iff.1 hh).1, fun i x hx => ?_⟩
    have hi : i < L.length := (List.getElem?_eq_some_iff.1 hx).1
    rw [hv] at h'
    rw [Nat.zero_add]
    refine (h'.cellAt i (by omega)).trans ?_
    show (L.map LvS.v)[i]? = _
    rw [List.getElem?_map, hx]
    rfl
theorem LvRow.in_ {w : World} {base : Nat} {v : Value} {L : List LvS} (h : LvRow w base v L) (he : LvEach w L) : LvsIn w v L := ⟨h.at_, he⟩
theorem LvRow.below {w w' : World} {base B : Nat} {v : Value} {L : List LvS} (h : LvRow w base v L) (hb : Below B w w') (hB : w.heap.size ≤ B) : LvRow w' base v L := by
  refine ⟨h.1, ?_⟩
  rcases h.2 with h0 | ⟨g, cap, cur, hv, hg, hh, r⟩
  · exact Or.inl h0
  · obtain ⟨hlt, _⟩ := Array.getElem?_eq_some_iff.1 hh
    exact Or.inr ⟨g, cap, cur, hv, hg, (hb.block g (Nat.lt_of_lt_of_le hlt hB)).trans hh, r⟩
theorem LvRow.block {w : World} {base : Nat} {v : Value} {L : List LvS} (h : LvRow w base v L) : ∀ k, v.ownBlock = some k → base ≤ k := by
  intro k hk
  rcases h.2 with ⟨rfl, _⟩ | ⟨g, cap, cur, rfl, hg, _⟩
  · cases hk
  · cases hk; exact hg
theorem LvRow.down {w : World} {base base' : Nat} {v : Value} {L : List LvS} (h : LvRow w base v L) (hb : base' ≤ base) : LvRow w base' v L := by
  refine ⟨h.1, ?_⟩
  rcases h.2 with h0 | ⟨g, cap, cur, hv, hg, r⟩
  · exact Or.inl h0
  · exact Or.inr ⟨g, cap, cur, hv, Nat.le_trans hb hg, r⟩
theorem LvRow.some_ {w : World} {base n c : Nat} {A : Option Addr} {L : List LvS} (h : LvRow w base (.slice A n c) L) (hn : 0 < L.length) : ∃ g, A = some ⟨g, 0, none⟩ ∧ base ≤ g ∧ g < w.heap.size ∧ n = L.length := by
  rcases h.2 with ⟨hv, h0⟩ | ⟨g, cap, cur, hv, hg, hh, _⟩
  · omega
  · obtain ⟨rfl, rfl, -⟩ := Value.slice.inj hv
    exact ⟨g, rfl, hg, (Array.getElem?_eq_some_iff.1 hh).1, rfl⟩
theorem LvRow.cell {w : World} {base g n c i : Nat} {L : List LvS} {x : LvS} (h : LvRow w base (.slice (some ⟨g, 0, none⟩) n c) L) (hn : n = L.length) (hx : L[i]? = some x) : w.cell? ⟨g, i, none⟩ = some x.v ∧ w.frozen? ⟨g, i, none⟩ = false := by
  subst hn
  have hi : i < L.length := (List.getElem?_eq_some_iff.1 hx).1
  refine ⟨(h.cellAt i (by omega)).trans ?_, h.frozenAt i⟩
  show (L.map LvS.v)[i]? = _
  rw [List.getElem?_map, hx]
  rfl
theorem LvRow.put {w : World} {base g n c i : Nat} {L : List LvS} (h : LvRow w base (.slice (some ⟨g, 0, none⟩) n c) L) (hn : n = L.length) (x : LvS) : LvRow (w.setCell ⟨g, i, none⟩ x.v) base (.slice (some ⟨g, 0, none⟩) n c) (L.set i x) := by
  subst hn
  have h1 := (h.stored i x.v).1
  unfold LvRow lvals
  rw [List.length_set, List.map_set]
  exact h1
theorem info_lv : (Tryz.prog.info? 68).map (fun i => (i.zero, i.size, i.bytes)) = some (some (.slice none 0 0), 1, 24) := by kernel_rfl
theorem LvsAt.src {w : World} {v : Value} {L : List LvS} (h : LvsAt w v L) : SrcAt w 1 v L.length (lvals L) := by
  refine ⟨by unfold lvals; rw [List.length_map, Nat.mul_one], ?_⟩
  rcases h with ⟨rfl, a, c, rfl⟩ | ⟨b, off, cap, rfl, h2, h3, h4, h5⟩
  · cases a with
    | none => exact Or.inl ⟨c, rfl, rfl⟩
    | some a => exact Or.inr ⟨a, c, rfl, fun j u hu => by cases hu⟩
  · refine Or.inr ⟨⟨b, off, none⟩, cap, rfl, fun j u hu => ?_⟩
    unfold lvals at hu
    rw [List.getElem?_map] at hu
    obtain ⟨x, hx, rfl⟩ := Option.map_eq_some_iff.1 hu
    have ea : (⟨b, off, none⟩ : Addr).add j = ⟨b, off + j, none⟩ := by unfold Addr.add; split <;> simp_all
    rw [ea]
    exact h5 j x hx
theorem lvs_append {w : World} {base : Nat} {vs vx : Value} {L M : List LvS} (hown : LvRow w base vs L) (hsrc : LvsAt w vx M) (h1 : ∀ u ∈ lvals M, u.oneCell' = true) (hl : L.length + M.length ≤ 1000000) (hb : base ≤ w.heap.size) (ty : TypeId) :
    ∃ A c w', (Builtin.append_ #[36, 36] ty #[vs, vx]).run Tryz.prog w = .ok (.slice A (L.length + M.length) c) w' ∧ LvRow w' base (.slice A (L.length + M.length) c) (L ++ M) ∧ w.grownBy w' vs.ownBlock ∧ ((Value.slice A (L.length + M.length) c).ownBlock = vs.ownBlock ∨ (Value.slice A (L.length + M.length) c).ownBlock = some w.heap.size) := by
  obtain ⟨i0, hi, hz0, hz1, hz2⟩ := info_parts info_lv
  obtain ⟨v', w', e1, e2, e3, e4⟩ := run_append_src (P := Tryz.prog) w base 36 68 i0 _ 1 24 ty Tryz.underlying36 hi hz0 hz1 hz2 rfl (by decide) vs L.length (lvals L) hown vx M.length (lvals M) hsrc.src h1 (by unfold maxLen; omega) (by omega) hb
  obtain ⟨A, c, rfl, -, -, -⟩ := own_form e2
  refine ⟨A, c, w', e1, ?_, e3, e4⟩
  unfold LvRow lvals
  rw [List.map_append, List.length_append]
  exact e2
theorem lv_ne : (68 : TypeId) ≠ 3 := by decide
theorem LvRow.grown {w w' : World} {base base' : Nat} {u v : Value} {L : List LvS} {l : List Int} (h : LvRow w base v L) (hr : IRow w base' u l) (hg : w.grownBy w' u.ownBlock) : LvRow w' base v L :=
  own_touch h (F := u.ownBlock.toList) (Touch.grown (Touch.refl _ w) hg (fun k hk => Or.inl (by rw [hk]; simp))) (fun b hb hm => own_own_ne hr h lv_ne.symm b hb (by simpa using hm))
theorem IRow.far_l {w : World} {base base' g n c i : Nat} {v x : Value} {L : List LvS} {l : List Int} (h : IRow w base v l) (hr : LvRow w base' (.slice (some ⟨g, 0, none⟩) n c) L) : IRow (w.setCell ⟨g, i, none⟩ x) base v l :=
  own_far h (fun hb => own_own_ne hr h lv_ne g hb rfl) x
def LvOwn (w : World) (base : Nat) (M : List LvS) : Prop := ∀ x ∈ M, IRow w base x.v x.l
theorem LvOwn.each {w : World} {base : Nat} {M : List LvS} (h : LvOwn w base M) : LvEach w M := fun x hx => IRow.in_ (h x hx)
theorem LvOwn.below {w w' : World} {base B : Nat} {M : List LvS} (h : LvOwn w base M) (hb : Below B w w') (hB : w.heap.size ≤ B) : LvOwn w' base M := fun x hx => IRow.below (h x hx) hb hB
theorem LvOwn.down {w : World} {base base' : Nat} {M : List LvS} (h : LvOwn w base M) (hb : base' ≤ base) : LvOwn w base' M := fun x hx => IRow.down (h x hx) hb
theorem LvOwn.take {w : World} {base : Nat} {M : List LvS} (h : LvOwn w base M) (k : Nat) : LvOwn w base (M.take k) := fun x hx => h x (List.mem_of_mem_take hx)
def LvApart (M : List LvS) : Prop := ∀ (i j : Nat) (x y : LvS), M[i]? = some x → M[j]? = some y → i ≠ j → ∀ g, x.v.ownBlock = some g → y.v.ownBlock ≠ some g
theorem LvApart.set {M : List LvS} {k : Nat} {x : LvS} (h : LvApart M) (hx : ∀ g, x.v.ownBlock = some g → ∀ j y, j ≠ k → M[j]? = some y → y.v.ownBlock ≠ some g) : LvApart (M.set k x) := by
  intro i j a b ha hb hij g hg
  rw [List.getElem?_set] at ha hb
  split at ha
  · rename_i e
    subst e
    split at ha
    · obtain rfl : x = a := by simpa using ha
      rw [if_neg hij] at hb
      exact hx g hg j b (fun e => hij e.symm) hb
    · cases ha
  · rename_i e
    split at hb
    · rename_i e2
      subst e2
      split at hb
      · obtain rfl : x = b := by simpa using hb
        intro hbg
        exact hx g hbg i a (fun e3 => e e3.symm) ha hg
      · cases hb
    · exact h i j a b ha hb hij g hg
theorem lvl_at {L : List LvS} {k : Nat} {y : LvS} (h : L[k]? = some y) : (lvl L)[k]? = some y.l := by unfold lvl; rw [List.getElem?_map, h]; rfl
theorem lvl_length (L : List LvS) : (lvl L).length = L.length := List.length_map _
theorem lvl_set (L : List LvS) (i : Nat) (x : LvS) : lvl (L.set i x) = (lvl L).set i x.l := List.map_set
theorem lvl_take (L : List LvS) (k : Nat) : lvl (L.take k) = (lvl L).take k := List.map_take
theorem lvl_getD {L : List LvS} {k : Nat} {y : LvS} (h : L[k]? = some y) : (lvl L).getD k [] = y.l := by rw [List.getD_eq_getElem?_getD, lvl_at h]; rfl
def LvsNew (w : World) (base : Nat) (v : Value) (R : LvL) : Prop := ∃ M, LvRow w base v M ∧ LvOwn w base M ∧ lvl M = R
theorem LvsNew.down {w : World} {base base' : Nat} {v : Value} {R : LvL} (h : LvsNew w base v R) (hb : base' ≤ base) : LvsNew w base' v R := by
  obtain ⟨M, h1, h2, h3⟩ := h
  exact ⟨M, LvRow.down h1 hb, h2.down hb, h3⟩
theorem LvsNew.nil (w : World) (base : Nat) : LvsNew w base (.slice none 0 0) [] := ⟨[], LvRow.nil _ _, fun x hx => (by cases hx), rfl⟩
def LvsHas (w : World) (v : Value) (R : LvL) : Prop := ∃ M, LvsIn w v M ∧ lvl M = R
theorem LvsNew.has {w : World} {base : Nat} {v : Value} {R : LvL} (h : LvsNew w base v R) : LvsHas w v R := by
  obtain ⟨M, h1, h2, h3⟩ := h
  exact ⟨M, LvRow.in_ h1 h2.each, h3⟩
theorem LvsHas.below {w w' : World} {v : Value} {R : LvL} {B : Nat} (h : LvsHas w v R) (hb : Below B w w') (hB : w.heap.size ≤ B) : LvsHas w' v R := by
  obtain ⟨M, h1, h2⟩ := h
  exact ⟨M, h1.below hb hB, h2⟩
theorem LvsHas.form {w : World} {v : Value} {R : LvL} (h : LvsHas w v R) : ∃ A off cap, v = .slice A R.length cap ∧ R.length ≤ maxLen ∧
    ∀ i x, R[i]? = some x → ∃ b u, A = some ⟨b, off, none⟩ ∧ b < w.heap.size ∧ w.cell? ⟨b, off + i, none⟩ = some u ∧ IntsIn w u x := by
  obtain ⟨M, h1, rfl⟩ := h
  obtain ⟨A, off, cap, hv, hl, hc⟩ := h1.1.form
  rw [lvl_length]
  refine ⟨A, off, cap, hv, hl, fun i x hx => ?_⟩
  unfold lvl at hx
  rw [List.getElem?_map] at hx
  obtain ⟨y, hy, rfl⟩ := Option.map_eq_some_iff.1 hx
  obtain ⟨b, e1, e2, e3⟩ := hc i y hy
  exact ⟨b, y.v, e1, e2, e3, h1.2 y (List.mem_of_getElem? hy)⟩
theorem LvsHas.nil (w : World) (A : Option Addr) (c : Nat) : LvsHas w (.slice A 0 c) [] := ⟨[], ⟨Or.inl ⟨rfl, A, c, rfl⟩, fun x hx => (by cases hx)⟩, rfl⟩
end
section
open Go.RowKit
theorem ints_lit (w : World) (ns : List Int) (hm : ns.length ≤ 10000) : IntsIn (w.alloc (.cells (ns.map intV).toArray 3)) (.slice (some ⟨w.heap.size, 0, none⟩) ns.length ns.length) ns :=
  Or.inr ⟨w.heap.size, 0, ns.length, rfl, Nat.le_refl _, by unfold maxLen; omega, by simp, fun i x hx => by
    rw [Nat.zero_add]
    refine (Blok.new w 3 _).cell i |>.trans ?_
    rw [List.getElem?_toArray, List.getElem?_map, hx]
    rfl⟩
theorem lvs_lit (w : World) (M : List LvS) (n : Nat) (hn : M.length = n) (hm : n ≤ 10000) (he : LvEach w M) : LvsHas (w.alloc (.cells (lvals M).toArray 68)) (.slice (some ⟨w.heap.size, 0, none⟩) n n) (lvl M) := by
  subst hn
  exact ⟨M, ⟨Or.inr ⟨w.heap.size, 0, M.length, rfl, Nat.le_refl _, by unfold maxLen; omega, by simp, fun i x hx => by
    rw [Nat.zero_add]
    refine (Blok.new w 68 _).cell i |>.trans ?_
    rw [List.getElem?_toArray]
    unfold lvals
    rw [List.getElem?_map, hx]
    rfl⟩, he.below ((Below.refl _ _).alloc (Nat.le_refl _) _) (Nat.le_refl _)⟩, rfl⟩
end
end Go.Proofs.YtcpfkaehefcakaaGreat
