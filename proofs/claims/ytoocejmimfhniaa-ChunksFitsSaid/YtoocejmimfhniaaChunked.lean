/- The chapter's examples of layer 11, over what the program's chunks answer. -/
import Derived.Test.YtoocejmimfhniaaChunksApi
namespace Go.Proofs.Ytoocejmimfhniaa
open Go.RowKit
set_option linter.unusedVariables false

def ckR : ByteArray := ⟨#[0, 0, 0, 2, 97, 98, 95, 47, 28, 109, 0, 0, 0, 2]⟩
theorem ck_put : prS ⟨#[97, 98]⟩ = ckR ∧ prE ⟨#[97, 98]⟩ = 0 := by
  constructor
  · unfold prS; rw [if_neg (by decide)]; kernel_rfl
  · unfold prE; rw [if_neg (by decide)]
theorem ck_1 : scL (hdS 3 ++ ckR) 3 = [12] ∧ scE (hdS 3 ++ ckR) 3 = 26 ∧ scOk (hdS 3 ++ ckR) 3 = true := ⟨by kernel_rfl, by kernel_rfl, by kernel_rfl⟩
theorem ck_2 : scL ((hdS 3 ++ ckR).extract 0 25) 3 = [] ∧ scE ((hdS 3 ++ ckR).extract 0 25) 3 = 12 ∧ scOk ((hdS 3 ++ ckR).extract 0 25) 3 = true := ⟨by kernel_rfl, by kernel_rfl, by kernel_rfl⟩
theorem ck_3 : scL (hdS 3) 4 = [] ∧ scE (hdS 3) 4 = 0 ∧ scOk (hdS 3) 4 = false := ⟨by kernel_rfl, by kernel_rfl, by kernel_rfl⟩
theorem ck_4 : scL ⟨#[99, 104, 110]⟩ 3 = [] ∧ scE ⟨#[99, 104, 110]⟩ 3 = 0 ∧ scOk ⟨#[99, 104, 110]⟩ 3 = true := ⟨by kernel_rfl, by kernel_rfl, by kernel_rfl⟩
theorem ck_5 : scL ⟨#[99, 104, 120]⟩ 3 = [] ∧ scE ⟨#[99, 104, 120]⟩ 3 = 0 ∧ scOk ⟨#[99, 104, 120]⟩ 3 = false := ⟨by kernel_rfl, by kernel_rfl, by kernel_rfl⟩
theorem ck_6 : scL ByteArray.empty 3 = [] ∧ scE ByteArray.empty 3 = 0 ∧ scOk ByteArray.empty 3 = true := ⟨by kernel_rfl, by kernel_rfl, by kernel_rfl⟩

theorem told_nil (api : ChunksApi) (s : ByteArray) (n : Int) (k : Nat) (b : Bool) (hs : s.size ≤ 1000000) (wn : (Lit.int .i64 n).wf = true) (h : scL s n = [] ∧ scE s n = k ∧ scOk s n = b) (w : World) :
    Calls Try.prog 19 #[.string s, .int .i64 n, .slice none 0 0, .int .i64 (k : Nat), .bool b] w fun e w' => e = .returned (.bool true) ∧ Below w.heap.size w w' :=
  told_yes api s n w hs wn none 0 [] h.1.symm (Or.inl ⟨rfl, _, _, rfl⟩) k h.2.1 b h.2.2
theorem told_one (api : ChunksApi) (s : ByteArray) (n x : Int) (k : Nat) (b : Bool) (hs : s.size ≤ 1000000) (wn : (Lit.int .i64 n).wf = true) (h : scL s n = [x] ∧ scE s n = k ∧ scOk s n = b) (w : World) :
    Calls Try.prog 19 #[.string s, .int .i64 n, .slice (some ⟨w.heap.size, 0, none⟩) 1 1, .int .i64 (k : Nat), .bool b] (w.alloc (.cells #[.int .i64 x] 3)) fun e w' => e = .returned (.bool true) ∧ Below (w.alloc (.cells #[.int .i64 x] 3)).heap.size (w.alloc (.cells #[.int .i64 x] 3)) w' :=
  told_yes api s n _ hs wn _ 1 [x] h.1.symm (by
    refine Or.inr ⟨w.heap.size, 0, 1, rfl, Nat.le_refl _, by unfold maxLen; omega, by simp, fun i z h => ?_⟩
    match i, h with
    | 0, h => simp at h; subst h; simp) k h.2.1 b h.2.2

theorem make_2001 : ∃ Z : Array Value, (∀ w : World, (Instr.makeSlice 41 (.int .i64 2001) (.int .i64 2001)).run Try.prog w = .ok (.slice (some ⟨w.heap.size, 0, none⟩) 2001 2001) (w.alloc (.cells Z 5))) ∧
    ∀ w : World, (convert 41 9 (.slice (some ⟨w.heap.size, 0, none⟩) 2001 2001)).run Try.prog (w.alloc (.cells Z 5)) = .ok (.string (bs (List.replicate 2001 0))) (w.alloc (.cells Z 5)) := by
  refine ⟨madeCells #[.int .u8 0] 2001, run_make_row' (P := Try.prog) 41 5 (.int .u8 0) 1 Try.underlying41 (by kernel_rfl) rfl .i64 .i64 2001 (by omega) (by omega), fun w => ?_⟩
  have hrow := World.rowIs_made w (.int .u8 0) 2001 5
  have h := run_convert_bytes_back (P := Try.prog) (w.alloc (.cells (madeCells #[.int .u8 0] 2001) 5)) 41 9 5 ⟨w.heap.size, 0, none⟩ 2001 (List.replicate 2001 0) Try.underlying41 Try.underlying5 Try.underlying9
    (fun j hj => by
      rw [List.length_replicate] at hj
      have e : (⟨w.heap.size, 0, none⟩ : Addr).add j = ⟨w.heap.size, j, none⟩ := by simp [Addr.add]; omega
      rw [List.getElem_replicate, e]
      exact hrow.cell hj)
  rw [List.length_replicate] at h
  exact h

theorem fits_is (api : ChunksApi) (size : Int) (p : ByteArray) (q : Bool) (hp : p.size ≤ maxLen) (hw : (Lit.int .i64 size).wf = true) (h : ftS size p = q) (w : World) :
    Calls Try.prog 16 #[.int .i64 size, .string p] w fun e w' => e = .returned (.bool q) ∧ w = w' := h ▸ api.fits size p w hp hw

set_option maxHeartbeats 1000000 in
set_option maxRecDepth 100000 in
theorem chunked_walk (w : World) (H R S long : ByteArray) (Z : Array Value)
    (hmk : ∀ w : World, (Instr.makeSlice 41 (.int .i64 2001) (.int .i64 2001)).run Try.prog w = .ok (.slice (some ⟨w.heap.size, 0, none⟩) 2001 2001) (w.alloc (.cells Z 5)))
    (hcv : ∀ w : World, (convert 41 9 (.slice (some ⟨w.heap.size, 0, none⟩) 2001 2001)).run Try.prog (w.alloc (.cells Z 5)) = .ok (.string long) (w.alloc (.cells Z 5)))
    (hz : S.size = 26) (hl : 2000 ≤ long.size)
    (ha : ∀ w : World, (Op.stringOp .add H R).run Try.prog w = .ok (.string S) w)
    (HP : Hid (∀ W : World, Calls Try.prog 18 #[.string ⟨#[97, 98]⟩] W fun e w' => e = .returned (.tuple #[.string R, .int .i64 0]) ∧ Below W.heap.size W w'))
    (HH HH2 : Hid (∀ W : World, Calls Try.prog 13 #[.int .i64 3] W fun e w' => e = .returned (.string H) ∧ Below W.heap.size W w'))
    (T1 : Hid (∀ (w : World) (g : Nat), w.heap.size = g → Calls Try.prog 19 #[.string S, .int .i64 3, .slice (some ⟨g, 0, none⟩) 1 1, .int .i64 26, .bool true] (w.alloc (.cells #[.int .i64 12] 3)) fun e w' => e = .returned (.bool true) ∧ Below (w.alloc (.cells #[.int .i64 12] 3)).heap.size (w.alloc (.cells #[.int .i64 12] 3)) w'))
    (T2 : Hid (∀ W : World, Calls Try.prog 19 #[.string (S.extract 0 25), .int .i64 3, .slice none 0 0, .int .i64 12, .bool true] W fun e w' => e = .returned (.bool true) ∧ Below W.heap.size W w'))
    (T3 : Hid (∀ W : World, Calls Try.prog 19 #[.string H, .int .i64 4, .slice none 0 0, .int .i64 0, .bool false] W fun e w' => e = .returned (.bool true) ∧ Below W.heap.size W w'))
    (T4 : Hid (∀ W : World, Calls Try.prog 19 #[.string ⟨#[99, 104, 110]⟩, .int .i64 3, .slice none 0 0, .int .i64 0, .bool true] W fun e w' => e = .returned (.bool true) ∧ Below W.heap.size W w'))
    (T5 : Hid (∀ W : World, Calls Try.prog 19 #[.string ⟨#[99, 104, 120]⟩, .int .i64 3, .slice none 0 0, .int .i64 0, .bool false] W fun e w' => e = .returned (.bool true) ∧ Below W.heap.size W w'))
    (T6 : Hid (∀ W : World, Calls Try.prog 19 #[.string ByteArray.empty, .int .i64 3, .slice none 0 0, .int .i64 0, .bool true] W fun e w' => e = .returned (.bool true) ∧ Below W.heap.size W w'))
    (F1 : Hid (∀ W : World, Calls Try.prog 16 #[.int .i64 4084, .string ByteArray.empty] W fun e w' => e = .returned (.bool true) ∧ W = w'))
    (F2 : Hid (∀ W : World, Calls Try.prog 16 #[.int .i64 4085, .string ByteArray.empty] W fun e w' => e = .returned (.bool false) ∧ W = w'))
    (F3 : Hid (∀ W : World, Calls Try.prog 16 #[.int .i64 0, .string long] W fun e w' => e = .returned (.bool false) ∧ W = w'))
    (F4 : Hid (∀ W : World, Calls Try.prog 16 #[.int .i64 0, .string (long.extract 0 2000)] W fun e w' => e = .returned (.bool true) ∧ W = w')) :
    Calls Try.prog 9 #[] w fun e w' => e = .returned (.bool true) ∧ Below w.heap.size w w' := by
  have hb0 : ∀ W : World, Below W.heap.size W (W.alloc (.cells Z 5)) := fun W => (Below.refl _ _).alloc (Nat.le_refl _) _
  go_enter Try.func9, Try.ntmps9
  go_wp2_with fail
  refine (HP.out _).mono ?_
  rintro e w1 ⟨rfl, hb1⟩
  go_wp2_with fail
  refine (HH.out _).mono ?_
  rintro e w2 ⟨rfl, hb2⟩
  have b12 := bj hb1 hb2
  clear hb1 hb2
  go_wp2_with fail
  refine (T1.out _ _ (by simp)).mono ?_
  rintro e w3 ⟨rfl, hb3⟩
  go_wp2_with fail
  refine (T2.out _).mono ?_
  rintro e w4 ⟨rfl, hb4⟩
  go_wp2_with fail
  refine (HH2.out _).mono ?_
  rintro e w5 ⟨rfl, hb5⟩
  go_wp2_with fail
  refine (T3.out _).mono ?_
  rintro e w6 ⟨rfl, hb6⟩
  go_wp2_with fail
  refine (T4.out _).mono ?_
  rintro e w7 ⟨rfl, hb7⟩
  go_wp2_with fail
  refine (T5.out _).mono ?_
  rintro e w8 ⟨rfl, hb8⟩
  go_wp2_with fail
  refine (T6.out _).mono ?_
  rintro e w9 ⟨rfl, hb9⟩
  go_wp2_with fail
  refine (F1.out _).mono ?_
  rintro e w10 ⟨rfl, rfl⟩
  go_wp2_with fail
  refine (F2.out _).mono ?_
  rintro e w11 ⟨rfl, rfl⟩
  go_wp2_with fail
  refine (F3.out _).mono ?_
  rintro e w12 ⟨rfl, rfl⟩
  go_wp2_with fail
  refine (F4.out _).mono ?_
  rintro e w13 ⟨rfl, rfl⟩
  have b2a := bj b12 (hb0 w2)
  have b2b := b2a.alloc b2a.size (.cells #[.int .i64 12] 3)
  have b39 := bj hb3 (bj hb4 (bj hb5 (bj hb6 (bj hb7 (bj hb8 hb9)))))
  go_wp2
  go_ret
  exact ⟨rfl, bj b2b b39⟩

theorem chunked_true (api : ChunksApi) (w : World) : Calls Try.prog 9 #[] w fun e w' => e = .returned (.bool true) ∧ Below w.heap.size w w' := by
  obtain ⟨Z, hmk, hcv⟩ := make_2001
  have hz : (hdS 3 ++ ckR).size = 26 := by kernel_rfl
  have hz3 : (hdS 3).size = 12 := by kernel_rfl
  have hzr : ckR.size = 14 := by kernel_rfl
  have hsz : (bs (List.replicate 2001 0)).size = 2001 := by rw [bs_size, List.length_replicate]
  have hex : ((bs (List.replicate 2001 0)).extract 0 2000).size = 2000 := by rw [ByteArray.size_extract, hsz]; rfl
  have hp := fun W => api.put ⟨#[97, 98]⟩ W (by decide)
  rw [ck_put.1, ck_put.2] at hp
  have f3 : ftS 0 (bs (List.replicate 2001 0)) = false := by unfold ftS; rw [hsz]; decide
  have f4 : ftS 0 ((bs (List.replicate 2001 0)).extract 0 2000) = true := by unfold ftS; rw [hex]; decide
  have l3 : (bs (List.replicate 2001 0)).size ≤ maxLen := by rw [hsz]; decide
  have l4 : ((bs (List.replicate 2001 0)).extract 0 2000).size ≤ maxLen := by rw [hex]; decide
  have z1 : (hdS 3 ++ ckR).size ≤ 1000000 := by rw [hz]; decide
  have z2 : ((hdS 3 ++ ckR).extract 0 25).size ≤ 1000000 := by rw [ByteArray.size_extract, hz]; decide
  have z3 : (hdS 3).size ≤ 1000000 := by rw [hz3]; decide
  exact chunked_walk w (hdS 3) ckR (hdS 3 ++ ckR) (bs (List.replicate 2001 0)) Z hmk hcv hz (by rw [hsz]; decide)
    (fun w => run_string_add_sum (P := Try.prog) (w := w) _ _ (by rw [hz3, hzr]; decide))
    (Lib.hid hp) (Lib.hid fun W => api.head 3 W (by decide)) (Lib.hid fun W => api.head 3 W (by decide))
    (Lib.hid fun W g hg => by subst hg; exact told_one api (hdS 3 ++ ckR) 3 12 26 true z1 (by decide) ck_1 W)
    (Lib.hid fun W => told_nil api ((hdS 3 ++ ckR).extract 0 25) 3 12 true z2 (by decide) ck_2 W)
    (Lib.hid fun W => told_nil api (hdS 3) 4 0 false z3 (by decide) ck_3 W)
    (Lib.hid fun W => told_nil api ⟨#[99, 104, 110]⟩ 3 0 true (by decide) (by decide) ck_4 W)
    (Lib.hid fun W => told_nil api ⟨#[99, 104, 120]⟩ 3 0 false (by decide) (by decide) ck_5 W)
    (Lib.hid fun W => told_nil api ByteArray.empty 3 0 true (by decide) (by decide) ck_6 W)
    (Lib.hid fun W => fits_is api 4084 ByteArray.empty true (by decide) (by decide) (by decide) W)
    (Lib.hid fun W => fits_is api 4085 ByteArray.empty false (by decide) (by decide) (by decide) W)
    (Lib.hid fun W => fits_is api 0 (bs (List.replicate 2001 0)) false l3 (by decide) f3 W)
    (Lib.hid fun W => fits_is api 0 ((bs (List.replicate 2001 0)).extract 0 2000) true l4 (by decide) f4 W)
end Go.Proofs.Ytoocejmimfhniaa
