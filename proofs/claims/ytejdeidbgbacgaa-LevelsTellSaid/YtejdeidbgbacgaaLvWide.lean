/- Levels of a call's own that are filled one by one; copied: the program's; wide: the document's. -/
import Derived.Test.YtejdeidbgbacgaaLvConcat
namespace Go.Proofs.Ytejdeidbgbacgaa
open Go.RowKit Go.Shelf
set_option linter.unusedVariables false
set_option maxRecDepth 100000

def lvNil : LvS := ⟨.slice none 0 0, []⟩
theorem lv_zeros (n : Nat) : (madeCells #[Value.slice none 0 0] (n * 1)).toList = lvals (List.replicate n lvNil) := by
  unfold lvals
  rw [List.map_replicate]
  apply List.ext_getElem?
  intro i
  rw [Array.getElem?_toList, List.getElem?_replicate]
  by_cases h : i < n
  · rw [if_pos h]
    unfold madeCells
    simp [h, Nat.mod_one, lvNil]
  · rw [if_neg h, Array.getElem?_eq_none (by rw [size_madeCells]; omega)]
theorem lv_make (n : Nat) (hn : n ≤ 1000000) : ∃ Z : Array Value, (∀ w : World, (Instr.makeSlice 22 (.int .i64 (n : Nat)) (.int .i64 (n : Nat))).run Try.prog w = .ok (.slice (some ⟨w.heap.size, 0, none⟩) n n) (w.alloc (.cells Z 25))) ∧
    ∀ w : World, LvRow (w.alloc (.cells Z 25)) w.heap.size (.slice (some ⟨w.heap.size, 0, none⟩) n n) (List.replicate n lvNil) := by
  obtain ⟨i0, hi, hz0, hz1, hz2⟩ := info_parts info_lv
  refine ⟨madeCells #[Value.slice none 0 0] (n * 1), fun w => ?_, fun w => ?_⟩
  · have h := run_makeSlice (P := Try.prog) w 22 25 i0 _ Try.underlying22 hi hz0 .i64 .i64 (n : Int) (n : Int) (by omega) (Int.le_refl _) (by rw [hz1]; omega) (by rw [hz2]; omega) (by omega)
    rw [hz1, Int.toNat_natCast] at h
    exact h
  · have h := World.ownsRow_lit (base := w.heap.size) (e := 25) (size := 1) w (madeCells #[Value.slice none 0 0] (n * 1)) n (Nat.le_refl _) (by unfold maxLen; omega) (size_madeCells _ _)
    unfold LvRow
    rw [List.length_replicate, ← lv_zeros]
    exact h
/-- So many of them, and empty ones. -/
def fillTo (R : LvL) (n k : Nat) : LvL := R.take k ++ List.replicate (n - k) []
theorem fillTo_zero (R : LvL) (n : Nat) : fillTo R n 0 = List.replicate n [] := by unfold fillTo; rw [List.take_zero, List.nil_append, Nat.sub_zero]
theorem fillTo_length {R : LvL} {n k : Nat} (hk : k ≤ R.length) (h : R.length ≤ n) : (fillTo R n k).length = n := by
  unfold fillTo
  rw [List.length_append, List.length_take, List.length_replicate]
  omega
theorem fillTo_succ {R : LvL} {n k : Nat} {x : List Int} (hx : R[k]? = some x) (h : R.length ≤ n) : (fillTo R n k).set k x = fillTo R n (k + 1) := by
  have hk : k < R.length := (List.getElem?_eq_some_iff.1 hx).1
  have e : n - k = (n - (k + 1)) + 1 := by omega
  unfold fillTo
  rw [List.set_append_right _ _ (by rw [List.length_take]; omega), List.length_take, Nat.min_eq_left (by omega), Nat.sub_self, e, List.replicate_succ, List.set_cons_zero, List.take_add_one, hx]
  simp
theorem fillTo_full (R : LvL) : fillTo R R.length R.length = R := by
  unfold fillTo
  rw [List.take_length, Nat.sub_self]
  simp
theorem wide_fill (R : LvL) : fillTo R 5 R.length = wideL R := rfl
/-- Levels that are being filled, of a call whose world was w: so many stand in the block g. -/
def FillAt (w : World) (g n : Nat) (R : LvL) (k : Nat) (wr : World) : Prop := ∃ M, LvRow wr w.heap.size (.slice (some ⟨g, 0, none⟩) n n) M ∧ LvOwn wr w.heap.size M ∧ LvApart M ∧ lvl M = fillTo R n k ∧ Below w.heap.size w wr
theorem FillAt.start {w w1 : World} {Z : Array Value} (n : Nat) (R : LvL) (h : LvRow (w.alloc (.cells Z 25)) w.heap.size (.slice (some ⟨w.heap.size, 0, none⟩) n n) (List.replicate n lvNil)) : FillAt w w.heap.size n R 0 (w.alloc (.cells Z 25)) := by
  refine ⟨_, h, fun x hx => ?_, fun i j x y hx hy hij g hg => ?_, ?_, (Below.refl w.heap.size w).alloc (Nat.le_refl _) _⟩
  · rw [List.eq_of_mem_replicate hx]
    exact IRow.nil _ _
  · have hx' := List.eq_of_mem_replicate (List.mem_of_getElem? hx)
    rw [hx'] at hg
    cases hg
  · rw [fillTo_zero]
    unfold lvl
    rw [List.map_replicate]
    rfl
theorem FillAt.cell {w wr : World} {g n k m : Nat} {R : LvL} (h : FillAt w g n R k wr) (hm : m < n) (hk : k ≤ R.length) (hR : R.length ≤ n) : (∃ u, wr.cell? ⟨g, m, none⟩ = some u) ∧ wr.frozen? ⟨g, m, none⟩ = false ∧ w.heap.size ≤ g ∧ g < wr.heap.size := by
  obtain ⟨M, h1, h2, h3, h4, h5⟩ := h
  have hl : M.length = n := by rw [← lvl_length, h4, fillTo_length hk hR]
  obtain ⟨y, hy⟩ : ∃ y, M[m]? = some y := ⟨_, List.getElem?_eq_getElem (by omega)⟩
  obtain ⟨c1, c2⟩ := LvRow.cell h1 hl.symm hy
  obtain ⟨g', e, e1, e2, -⟩ := LvRow.some_ h1 (by omega)
  obtain rfl : g = g' := by cases e; rfl
  exact ⟨⟨_, c1⟩, c2, e1, e2⟩
/-- The next one is laid. -/
theorem FillAt.next {w wr w2 : World} {g n k m c : Nat} {A : Option Addr} {R : LvL} {x : List Int} (h : FillAt w g n R k wr) (hx : R[k]? = some x) (hR : R.length ≤ n) (hnew : IRow w2 wr.heap.size (.slice A m c) x) (hb2 : Below wr.heap.size wr w2) :
    FillAt w g n R (k + 1) (w2.setCell ⟨g, k, none⟩ (.slice A m c)) := by
  have hk : k < R.length := (List.getElem?_eq_some_iff.1 hx).1
  obtain ⟨-, -, hg1, hg2⟩ := h.cell (m := k) (by omega) (by omega) hR
  obtain ⟨M, h1, h2, h3, h4, h5⟩ := h
  have hl : M.length = n := by rw [← lvl_length, h4, fillTo_length (by omega) hR]
  have r1 := LvRow.below h1 hb2 (Nat.le_refl _)
  have r2 := h2.below hb2 (Nat.le_refl _)
  have r3 := LvRow.put r1 hl.symm (i := k) ⟨.slice A m c, x⟩
  refine ⟨M.set k ⟨.slice A m c, x⟩, r3, fun y hy => ?_, h3.set fun q hq j y hj hy hq2 => ?_, ?_, (h5.trans (hb2.mono h5.size)).setCell hg1 _⟩
  · rcases List.mem_or_eq_of_mem_set hy with hy | rfl
    · exact IRow.far_l (r2 y hy) r1
    · exact IRow.far_l (IRow.down hnew h5.size) r1
  · have b1 := (IRow.block hnew q hq).1
    have b2 := (IRow.block (h2 y (List.mem_of_getElem? hy)) q hq2).2
    omega
  · rw [lvl_set, h4]
    exact fillTo_succ hx hR
/-- What a filled one is, for what follows. -/
def WideEnd (w : World) (R : LvL) (e : Ending) (w' : World) : Prop := ∃ g, e = .returned (.slice (some ⟨g, 0, none⟩) 5 5) ∧ FillAt w g 5 R R.length w'
set_option maxHeartbeats 1000000 in
theorem copied_any (v : Value) (R : LvL) (w : World) (h : LvsHas w v R) (hl : R.flatten.length ≤ 100000) (hL : R.length ≤ 5) : Calls Try.prog 21 #[v] w (WideEnd w R) := by
  obtain ⟨A, off, cap, rfl, -, hc⟩ := h.form
  have HC := Lib.hid hc
  have HF1 := Lib.hid (fun k x (hx : R[k]? = some x) => flat_one hx)
  have HX := Lib.hid (fun wr g k w2 A m c x (h1 : FillAt w g 5 R k wr) (h2 : R[k]? = some x) (h3 : IRow w2 wr.heap.size (.slice A m c) x) h4 => h1.next h2 hL h3 h4)
  have HCE := Lib.hid (fun wr g k m (h1 : FillAt w g 5 R k wr) (h2 : m < 5) h3 => h1.cell h2 h3 hL)
  obtain ⟨Z, hZ1, hZ2⟩ := lv_make 5 (by omega)
  have HZ := Lib.hid (FillAt.start (w1 := w) 5 R (hZ2 w))
  have hZ : ∀ w : World, (Instr.makeSlice 22 (.int .i64 5) (.int .i64 5)).run Try.prog w = .ok (.slice (some ⟨w.heap.size, 0, none⟩) 5 5) (w.alloc (.cells Z 25)) := hZ1
  unfold WideEnd
  obtain ⟨n, hn⟩ : ∃ n, n = R.length := ⟨_, rfl⟩
  have HN := Lib.hid hn
  rw [← hn] at hL HCE ⊢
  clear h hc hn hZ2 hZ1
  go_enter Try.func21, Try.ntmps21
  go_wp2
  go_loopg [9] n (fun g i wr => ∃ (k : Nat), k + g = n ∧ i = .int .i64 k ∧ FillAt w w.heap.size 5 R k wr)
  case atStart => exact ⟨0, by omega, rfl, HZ.out⟩
  case round =>
    obtain ⟨k, hkg, rfl, hf⟩ := hrel
    have HF := Lib.hid hf
    clear hf
    cases gk with
    | zero =>
      obtain rfl : k = n := by omega
      have s1 : ¬ (k : Int) < (k : Int) := by omega
      go_wp2
      go_ret
      exact ⟨_, rfl, HF.out⟩
    | succ gi =>
      have hkn : k < n := by omega
      have s1 : (k : Int) < (n : Int) := by omega
      obtain ⟨x, hx⟩ : ∃ x, R[k]? = some x := ⟨_, List.getElem?_eq_getElem (by rw [← HN.out]; exact hkn)⟩
      obtain ⟨b, u, rfl, hb, c1, hin⟩ := HC.out k x hx
      obtain ⟨M, -, -, -, -, hbel⟩ := HF.out
      have c2 := (hbel.cell (p := ⟨b, off + k, none⟩) hb).trans c1
      have HCL := Lib.hid (iclone_any u x wr (hin.below hbel (Nat.le_refl _)) (by have := HF1.out k x hx; omega))
      obtain ⟨A2, o2, c2', rfl, -, -⟩ := hin.form
      have HXX := Lib.hid (fun w2 A c h3 h4 => HX.out wr _ k w2 A x.length c x HF.out hx h3 h4)
      obtain ⟨⟨y, d1⟩, d2, -, hgl⟩ := HCE.out wr _ k k HF.out (by omega) (by omega)
      unfold IntsOut at HCL
      clear hx hin hbel c1
      generalize x.length = m at *
      go_wp2_with fail
      refine HCL.out.mono ?_
      rintro e w2 ⟨A3, c3, rfl, h3, h4⟩
      have HNX := Lib.hid (HXX.out w2 A3 c3 h3 h4)
      have d3 := (h4.cell (p := ⟨w.heap.size, k, none⟩) hgl).trans d1
      have d4 : w2.frozen? ⟨w.heap.size, k, none⟩ = false := by rw [World.frozen?_of_block (w := wr) (h4.block _ hgl)]; exact d2
      clear h3 h4 d1 d2
      go_wp2
      go_roundg gi
      case measure => omega
      case rel => exact ⟨k + 1, by omega, by go_num, HNX.out⟩
set_option maxHeartbeats 1000000 in
theorem lwide_any (v : Value) (R : LvL) (w : World) (h : LvsHas w v R) (hl : R.flatten.length ≤ 100000) (hL : R.length ≤ 5) : Calls Try.prog 24 #[v] w (WideEnd w R) := by
  obtain ⟨A, off, cap, rfl, -, hc⟩ := h.form
  have HC := Lib.hid hc
  have HF1 := Lib.hid (fun k x (hx : R[k]? = some x) => flat_one hx)
  have HX := Lib.hid (fun wr g k w2 A m c x (h1 : FillAt w g 5 R k wr) (h2 : R[k]? = some x) (h3 : IRow w2 wr.heap.size (.slice A m c) x) h4 => h1.next h2 hL h3 h4)
  have HCE := Lib.hid (fun wr g k m (h1 : FillAt w g 5 R k wr) (h2 : m < 5) h3 => h1.cell h2 h3 hL)
  obtain ⟨Z, hZ1, hZ2⟩ := lv_make 5 (by omega)
  have HZ := Lib.hid (FillAt.start (w1 := w) 5 R (hZ2 w))
  have hZ : ∀ w : World, (Instr.makeSlice 22 (.int .i64 5) (.int .i64 5)).run Try.prog w = .ok (.slice (some ⟨w.heap.size, 0, none⟩) 5 5) (w.alloc (.cells Z 25)) := hZ1
  unfold WideEnd
  obtain ⟨n, hn⟩ : ∃ n, n = R.length := ⟨_, rfl⟩
  have HN := Lib.hid hn
  rw [← hn] at hL HCE ⊢
  clear h hc hn hZ2 hZ1
  go_enter Try.func24, Try.ntmps24
  go_wp2
  go_loopg [4] n (fun g i wr => ∃ (k : Nat), k + g = n ∧ i = .int .i64 k ∧ FillAt w w.heap.size 5 R k wr)
  case atStart => exact ⟨0, by omega, rfl, HZ.out⟩
  case round =>
    obtain ⟨k, hkg, rfl, hf⟩ := hrel
    have HF := Lib.hid hf
    clear hf
    cases gk with
    | zero =>
      obtain rfl : k = n := by omega
      have s1 : ¬ (k : Int) < (k : Int) := by omega
      go_wp2
      go_ret
      exact ⟨_, rfl, HF.out⟩
    | succ gi =>
      have hkn : k < n := by omega
      have s1 : (k : Int) < (n : Int) := by omega
      have s2 : (k : Int) < (5 : Int) := by omega
      obtain ⟨x, hx⟩ : ∃ x, R[k]? = some x := ⟨_, List.getElem?_eq_getElem (by rw [← HN.out]; exact hkn)⟩
      obtain ⟨b, u, rfl, hb, c1, hin⟩ := HC.out k x hx
      obtain ⟨M, -, -, -, -, hbel⟩ := HF.out
      have c2 := (hbel.cell (p := ⟨b, off + k, none⟩) hb).trans c1
      obtain ⟨A3, c3, w2, e1, e2, e3, -⟩ := ints_append (IRow.nil wr wr.heap.size) (hin.below hbel (Nat.le_refl _)) (by have := HF1.out k x hx; simp; omega) (Nat.le_refl _) 25
      simp only [List.length_nil, Nat.zero_add, List.nil_append] at e1 e2
      have h4 : Below wr.heap.size wr w2 := igrown_below e3 (Nat.le_refl _) (fun k hk => by cases hk)
      obtain ⟨A2, o2, c2', rfl, -, -⟩ := hin.form
      have HNX := Lib.hid (HX.out wr _ k w2 A3 x.length c3 x HF.out hx e2 h4)
      obtain ⟨⟨y, d1⟩, d2, -, hgl⟩ := HCE.out wr _ k k HF.out (by omega) (by omega)
      have d3 := (h4.cell (p := ⟨w.heap.size, k, none⟩) hgl).trans d1
      have d4 : w2.frozen? ⟨w.heap.size, k, none⟩ = false := by rw [World.frozen?_of_block (w := wr) (h4.block _ hgl)]; exact d2
      have HE := Lib.hid e1
      clear hx hin hbel c1 e1 e2 e3 h4 d1 d2
      generalize x.length = m at *
      go_wp2_with (first | (at_builtin; refine wpList_append_two rfl _ _ rfl rfl rfl HE.out ?_) | fail)
      go_roundg gi
      case measure => omega
      case rel => exact ⟨k + 1, by omega, by go_num, HNX.out⟩
end Go.Proofs.Ytejdeidbgbacgaa
