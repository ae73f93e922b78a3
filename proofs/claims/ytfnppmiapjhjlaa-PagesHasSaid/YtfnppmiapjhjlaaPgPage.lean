/- A page of a file, as it is loaded. -/
import Derived.Test.YtfnppmiapjhjlaaPgStep
import Derived.Test.YtfnppmiapjhjlaaOpenOne
import Derived.Lib.Hide
namespace Go.Proofs.Ytfnppmiapjhjlaa
open Go.RowKit
set_option linter.unusedVariables false

/-- What is told of a page: its bytes, if it is whole. -/
def pgL (t : ByteArray) (j : Nat) : List UInt8 := if pgW t j = true then (pgT t j).data.toList.take 60 else List.replicate 60 0
theorem opA_pg {t : ByteArray} {j : Nat} (h : pgW t j = true) : (opA (pgT t j)).data.toList = pgL t j ∧ (opA (pgT t j)).size = 60 := by
  obtain ⟨h1, h2⟩ := pgW_iff.1 h
  have hz := pgT_size h1
  unfold opA pgL
  rw [if_pos h2, if_pos h, hz]
  refine ⟨by rw [ext_list]; rfl, by rw [ByteArray.size_extract, hz]; rfl⟩

set_option maxRecDepth 100000 in
theorem page_none (Z : Array Value) (hZ : pgZ = Z) (t : ByteArray) (y : Nat) (j : Int) (w : World) (hj : 0 ≤ j ∧ j ≤ 100000) (hy : j * 64 = y) (hs : t.size ≤ 1000000) (h : (t.size : Int) < (y : Int) + 64) :
    Calls Try.prog 30 #[.string t, .int .i64 j] w fun e w' => e = .returned (.tuple #[.agg Z, .bool false]) ∧ Below w.heap.size w w' := by
  have z1 : Z.size = 60 := by rw [← hZ]; exact pgZ_size
  have z2 : Z.all (·.oneCell') = true := by rw [← hZ]; exact pgZ_one
  have hB := Lib.hid (Blok.new w 63 Z)
  have hb := Lib.hid ((Below.refl w.heap.size w).alloc (Nat.le_refl _) (.cells Z 63))
  go_enter Try.func30, Try.ntmps30
  go_wp2_with (first
    | (refine pg_alloc hZ rfl _ rfl rfl ?_)
    | (refine pg_zero hZ rfl _ rfl rfl ?_)
    | (refine pg_store rfl _ _ rfl rfl rfl hB.out z1 z1 z2 ?_))
  refine pg_ret rfl rfl rfl (hB.out.row Z) z1 rfl ?_
  exact ⟨rfl, below_row hb.out (Nat.le_refl _) Z⟩

set_option maxRecDepth 100000 in
/-- A page that is there. -/
theorem page_some (Z : Array Value) (hZ : pgZ = Z) (t s : ByteArray) (y : Nat) (j : Int) (q : Bool) (C : Array Value) (w : World) (hj : 0 ≤ j ∧ j ≤ 100000) (hy : j * 64 = y) (hs : t.size ≤ 1000000) (h : (y : Int) + 64 ≤ (t.size : Int))
    (hO : ∀ W, Calls Try.prog 19 #[.string (t.extract y (y + 64))] W fun e w' => e = .returned (.tuple #[.string s, .bool q]) ∧ Below W.heap.size W w')
    (hcase : (s = ByteArray.empty ∧ C = Z) ∨ (s.size = 60 ∧ C = pgC s.data.toList)) :
    Calls Try.prog 30 #[.string t, .int .i64 j] w fun e w' => e = .returned (.tuple #[.agg C, .bool q]) ∧ Below w.heap.size w w' := by
  have z1 : Z.size = 60 := by rw [← hZ]; exact pgZ_size
  have z2 : Z.all (·.oneCell') = true := by rw [← hZ]; exact pgZ_one
  have hB := Lib.hid (Blok.new w 63 Z)
  have hb := Lib.hid ((Below.refl w.heap.size w).alloc (Nat.le_refl _) (.cells Z 63))
  have HO := Lib.hid hO
  have hC : ∀ W, Blok W w.heap.size 63 Z → Below w.heap.size w W → ∃ v W', (∀ ty, (Builtin.copy_ #[36, 9] ty #[.slice (some ⟨w.heap.size, 0, none⟩) 60 60, .string s]).run Try.prog W = .ok v W') ∧ Blok W' w.heap.size 63 C ∧ Below w.heap.size w W' ∧ C.size = 60 ∧ C.all (·.oneCell') = true := by
    intro W hW hbW
    rcases hcase with ⟨rfl, rfl⟩ | ⟨h60, rfl⟩
    · exact ⟨_, _, fun ty => pg_copy0 W _ ty, hW, hbW, z1, z2⟩
    · exact ⟨_, _, fun ty => pg_copy hW z1 s h60 ty, hW.row _, below_row hbW (Nat.le_refl _) _, by rw [pgC_size, dl_size, h60], pgC_one _⟩
  have HC := Lib.hid hC
  clear hcase hO hC
  go_enter Try.func30, Try.ntmps30
  go_wp2_with (first
    | (refine pg_alloc hZ rfl _ rfl rfl ?_)
    | (refine (HO.out _).mono ?_; rintro e w1 ⟨rfl, b1⟩; obtain ⟨v, W', e1, e2, e3, e4, e5⟩ := HC.out w1 ((b1.block _ hB.out.lt).trans hB.out) (hb.out.trans (b1.mono hb.out.size)); have E2 := Lib.hid e2; have E3 := Lib.hid e3; clear e2 e3)
    | (refine pg_copied rfl _ _ rfl rfl rfl e1 ?_)
    | (refine pg_load rfl _ rfl rfl E2.out e4 ?_)
    | (refine pg_store rfl _ _ rfl rfl rfl E2.out e4 e4 e5 ?_))
  refine pg_ret rfl rfl rfl (E2.out.row C) e4 rfl ?_
  exact ⟨rfl, below_row E3.out (Nat.le_refl _) C⟩
/-- Of a page what is told is its bytes, and whether it is whole. -/
theorem page_any (t : ByteArray) (j : Nat) (w : World) (hj : j ≤ 100000) (hs : t.size ≤ 1000000) :
    Calls Try.prog 30 #[.string t, .int .i64 (j : Nat)] w fun e w' => e = .returned (.tuple #[pgV (pgL t j), .bool (pgW t j)]) ∧ Below w.heap.size w w' := by
  by_cases h : 64 * j + 64 ≤ t.size
  · have hO := fun W => open_any (t.extract (64 * j) (64 * j + 64)) W (by rw [ByteArray.size_extract]; unfold maxLen; omega)
    have hw : pgW t j = opOk (pgT t j) := by unfold pgW; rw [decide_eq_true h, Bool.true_and]
    rw [hw]
    refine page_some pgZ rfl t (opA (pgT t j)) (64 * j) (j : Int) (opOk (pgT t j)) (pgC (pgL t j)) w (by omega) (by omega) hs (by omega) hO ?_
    by_cases ho : opOk (pgT t j) = true
    · obtain ⟨h1, h2⟩ := opA_pg (t := t) (j := j) (hw.trans ho)
      exact Or.inr ⟨h2, by rw [h1]⟩
    · refine Or.inl ⟨by unfold opA; rw [if_neg ho], ?_⟩
      unfold pgL pgZ
      rw [if_neg (by rw [hw]; exact ho)]
  · have hw : pgW t j = false := by unfold pgW; rw [decide_eq_false h, Bool.false_and]
    have hl : pgL t j = List.replicate 60 0 := by unfold pgL; rw [hw]; rfl
    rw [hw, hl]
    exact page_none pgZ rfl t (64 * j) (j : Int) w (by omega) (by omega) hs (by omega)
theorem pgL_length (t : ByteArray) (j : Nat) : (pgL t j).length = 60 := by
  unfold pgL
  split
  · rename_i h
    have := pgB_length (t := t) (k := j - 1)
    rw [List.length_take, dl_size, pgT_size (pgW_iff.1 h).1]
    decide
  · rw [List.length_replicate]
theorem pgL_yes {t : ByteArray} {k : Nat} (h : pgW t (k + 1) = true) : pgL t (k + 1) = pgB t k := by unfold pgL pgB; rw [if_pos h]
end Go.Proofs.Ytfnppmiapjhjlaa
