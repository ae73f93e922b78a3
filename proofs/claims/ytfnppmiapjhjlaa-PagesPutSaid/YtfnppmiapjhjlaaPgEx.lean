/- The chapter's examples of pages. -/
import Derived.Test.YtfnppmiapjhjlaaPgLoads
import Derived.Test.YtfnppmiapjhjlaaBytes
import Derived.Test.YtfnppmiapjhjlaaBlRow
namespace Go.Proofs.Ytfnppmiapjhjlaa
open Go.RowKit
set_option linter.unusedVariables false

theorem lawmay_any (t : ByteArray) (g : Nat) (w : World) (hs : t.size ≤ 1000000) (hg : g < 18446744073709551616) :
    Calls Try.prog 20 #[.string t, .int .u64 (g : Nat)] w fun e w' => e = .returned (.bool (mayT t g)) ∧ Below w.heap.size w w' := by
  have H1 := Lib.hid fun W => load_any t W hs
  have H2 := Lib.hid fun f W h => may_any f g t W hg h
  go_enter Try.func20, Try.ntmps20
  go_wp2_with fail
  refine (H1.out _).mono ?_
  rintro e w1 ⟨f, rfl, hf, b1⟩
  go_wp2_with fail
  refine (H2.out f _ hf).mono ?_
  rintro e w2 ⟨rfl, b2⟩
  go_wp2
  go_ret
  exact ⟨rfl, bj b1 b2⟩

/-- The bytes of the example, of which k are set. -/
def exB (k j : Nat) : Value := .int .u8 (if j < k then 255 else 0)
/-- The example's array. -/
def exL : List UInt8 := List.replicate 60 255 ++ List.replicate 60 0
theorem exL_at (i : Nat) (hi : i < 120) : exB 60 i = u8At exL i := by
  unfold exB u8At exL
  by_cases h : i < 60
  · rw [if_pos h, List.getD_eq_getElem?_getD, List.getElem?_append_left (by simp; omega), List.getElem?_replicate, if_pos h]
    rfl
  · rw [if_neg h, List.getD_eq_getElem?_getD, List.getElem?_append_right (by simp; omega), List.getElem?_replicate, if_pos (by simp; omega)]
    rfl
theorem u8At_set (L : List UInt8) (k : Nat) (y : Nat) (hy : y < 256) (i : Nat) (hi : i < L.length) : (if i = k then Value.int .u8 (y : Int) else u8At L i) = u8At (L.set k (UInt8.ofNat y)) i := by
  unfold u8At
  by_cases e : i = k
  · subst e
    rw [if_pos rfl, List.getD_eq_getElem?_getD, List.getElem?_set_self hi]
    show _ = Value.int .u8 ((UInt8.ofNat y).toNat : Int)
    rw [UInt8.toNat_ofNat', Nat.mod_eq_of_lt (by omega)]
  · rw [if_neg e, List.getD_eq_getElem?_getD, List.getD_eq_getElem?_getD, List.getElem?_set_ne (fun h => e h.symm)]

set_option maxHeartbeats 2000000 in
theorem paged_walk (A S T U : ByteArray) (w : World) (x1 y1 x0 y0 : Nat) (hA : (⟨exL.toArray⟩ : ByteArray) = A) (hS : S.size = 192)
    (h1 : (S.data.toList.getD 191 0).toNat = x1) (h0 : (S.data.toList.getD 0 0).toNat = x0) (e1 : bits .xor .u8 (x1 : Int) 1 = (y1 : Int)) (e0 : bits .xor .u8 (x0 : Int) 1 = (y0 : Int)) (l1 : y1 < 256) (l0 : y0 < 256)
    (hT : (⟨(S.data.toList.set 191 (UInt8.ofNat y1)).toArray⟩ : ByteArray) = T) (hU : (⟨(S.data.toList.set 0 (UInt8.ofNat y0)).toArray⟩ : ByteArray) = U)
    (P1 : ∀ W, Calls Try.prog 10 #[.string A, .int .i64 1] W fun e w' => e = .returned (.string S) ∧ Below W.heap.size W w')
    (P2 : ∀ W, Calls Try.prog 10 #[.string ⟨#[]⟩, .int .i64 1] W fun e w' => e = .returned (.string ⟨#[]⟩) ∧ Below W.heap.size W w')
    (P3 : ∀ W, Calls Try.prog 10 #[.string A, .int .i64 17] W fun e w' => e = .returned (.string ⟨#[]⟩) ∧ Below W.heap.size W w')
    (M1 : ∀ W, Calls Try.prog 20 #[.string S, .int .u64 0] W fun e w' => e = .returned (.bool true) ∧ Below W.heap.size W w')
    (M2 : ∀ W, Calls Try.prog 20 #[.string S, .int .u64 480] W fun e w' => e = .returned (.bool false) ∧ Below W.heap.size W w')
    (M3 : ∀ W, Calls Try.prog 20 #[.string T, .int .u64 0] W fun e w' => e = .returned (.bool true) ∧ Below W.heap.size W w')
    (M4 : ∀ W, Calls Try.prog 20 #[.string T, .int .u64 480] W fun e w' => e = .returned (.bool true) ∧ Below W.heap.size W w')
    (M5 : ∀ W, Calls Try.prog 20 #[.string (S.extract 0 191), .int .u64 480] W fun e w' => e = .returned (.bool true) ∧ Below W.heap.size W w')
    (M6 : ∀ W, Calls Try.prog 20 #[.string ⟨#[]⟩, .int .u64 480] W fun e w' => e = .returned (.bool true) ∧ Below W.heap.size W w')
    (M7 : ∀ W, Calls Try.prog 20 #[.string U, .int .u64 480] W fun e w' => e = .returned (.bool true) ∧ Below W.heap.size W w') :
    Calls Try.prog 9 #[] w fun e w' => e = .returned (.bool true) ∧ Below w.heap.size w w' := by
  have HP1 := Lib.hid P1
  have HP2 := Lib.hid P2
  have HP3 := Lib.hid P3
  have HM1 := Lib.hid M1
  have HM2 := Lib.hid M2
  have HM3 := Lib.hid M3
  have HM4 := Lib.hid M4
  have HM5 := Lib.hid M5
  have HM6 := Lib.hid M6
  have HM7 := Lib.hid M7
  clear P1 P2 P3 M1 M2 M3 M4 M5 M6 M7
  have hmk := run_make_row' (P := Try.prog) 36 5 (.int .u8 0) 1 Try.underlying36 (by kernel_rfl) rfl .i64 .i64 120 (by omega) (by omega)
  have hR0 := rowB_made w (.int .u8 0) 120 5
  obtain ⟨Z, hZ⟩ : ∃ Z, madeCells #[Value.int .u8 0] 120 = Z := ⟨_, rfl⟩
  rw [hZ] at hmk hR0
  have hmk : ∀ w : World, (Instr.makeSlice 36 (.int .i64 120) (.int .i64 120)).run Try.prog w = .ok (.slice (some ⟨w.heap.size, 0, none⟩) 120 120) (w.alloc (.cells Z 5)) := hmk
  have hb0 := (Below.refl _ w).alloc (Nat.le_refl _) (.cells Z 5)
  obtain ⟨w1, hw1⟩ : ∃ w1, w.alloc (.cells Z 5) = w1 := ⟨_, rfl⟩
  rw [hw1] at hR0 hb0
  have HW1 := Lib.hid hw1
  clear hZ hw1
  have hs : ((S.size : Nat) : Int) = 192 := by omega
  go_enter Try.func9, Try.ntmps9
  go_wp2
  rw [HW1.out]
  go_loopw [2] (fun v wr => ∃ k : Nat, k ≤ 60 ∧ v = .int .i64 k ∧ RowB wr w.heap.size 120 (exB k) ∧ Below w.heap.size w wr) (fun v _ => 60 - (intOf v).toNat)
  case atStart => exact ⟨0, Nat.zero_le _, rfl, hR0.congr fun i hi => rfl, hb0⟩
  case round =>
    obtain ⟨k, hk, rfl, hR, hb⟩ := hrel
    by_cases hlt : k < 60
    · have s1 : (k : Int) < 60 := by omega
      have s2 : (k : Int) < 120 := by omega
      have f1 := hR.frozen (i := k) (by omega)
      have c1 := hR.cell (i := k) (by omega)
      have hR2 := (hR.set k (.int .u8 255)).congr (g := exB (k + 1)) fun i hi => by
        unfold exB
        by_cases e : i = k
        · rw [if_pos e, if_pos (by omega)]
        · rw [if_neg e]
          by_cases e2 : i < k
          · rw [if_pos e2, if_pos (by omega)]
          · rw [if_neg e2, if_neg (by omega)]
      have hb2 := hb.setCell (p := ⟨w.heap.size, k, none⟩) (Nat.le_refl _) (.int .u8 255)
      have HR := Lib.hid (And.intro hR2 hb2)
      clear hR hb hR2 hb2
      go_wp2
      go_roundw
      case rel => exact ⟨k + 1, hlt, by go_num, HR.out.1, HR.out.2⟩
      case measure => simp [intOf]; omega
    · obtain rfl : k = 60 := by omega
      have hRA := hR.congr exL_at
      have HCA := Lib.hid fun W (hW : Below wr.heap.size wr W) => conv_out (hRA.below hW) (show exL.length = 120 from rfl) 120
      rw [hA] at HCA
      have hcv := HCA.out wr (Below.refl _ _)
      have HB := Lib.hid hb
      clear hR hb
      go_wp2_with fail
      refine (HP1.out _).mono ?_
      rintro e w2 ⟨rfl, b2⟩
      have hcv1 := conv_in w2 S
      have hrow1 := bytesIn_row 5 w2 S
      have hb3 : Below w2.heap.size w2 (bytesIn 5 w2 S) := bytesIn_below 5 S (Below.refl _ _)
      obtain ⟨cap1, hcap1⟩ : ∃ cap, grownCap w2 S.size 0 5 = cap := ⟨_, rfl⟩
      obtain ⟨w3, hw3⟩ : ∃ w3, bytesIn 5 w2 S = w3 := ⟨_, rfl⟩
      rw [hcap1, hw3, hS] at hcv1
      rw [hw3, hS] at hrow1
      rw [hw3] at hb3
      have hcv2 := conv_in w3 S
      have hrow2 := bytesIn_row 5 w3 S
      have hb4 : Below w3.heap.size w3 (bytesIn 5 w3 S) := bytesIn_below 5 S (Below.refl _ _)
      obtain ⟨cap2, hcap2⟩ : ∃ cap, grownCap w3 S.size 0 5 = cap := ⟨_, rfl⟩
      obtain ⟨w4, hw4⟩ : ∃ w4, bytesIn 5 w3 S = w4 := ⟨_, rfl⟩
      rw [hcap2, hw4, hS] at hcv2
      rw [hw4, hS] at hrow2
      rw [hw4] at hb4
      have hlt1 := hrow1.lt
      have hrow1 := hrow1.below hb4
      have hbw2 := bj HB.out b2
      have hbw4 := bj hbw2 (bj hb3 hb4)
      obtain ⟨B1, hB1⟩ : ∃ B, w2.heap.size = B := ⟨_, rfl⟩
      obtain ⟨B2, hB2⟩ : ∃ B, w3.heap.size = B := ⟨_, rfl⟩
      rw [hB1] at hcv1 hrow1 hlt1
      rw [hB2] at hcv2 hrow2 hlt1
      have hle1 : w.heap.size ≤ B1 := by rw [← hB1]; exact hbw2.size
      have hne : B2 ≠ B1 := by omega
      have hle2 : w.heap.size ≤ B2 := by omega
      have c1 := hrow1.cell (i := 191) (by decide)
      have f1 := hrow1.frozen (i := 191) (by decide)
      have c0 := hrow2.cell (i := 0) (by decide)
      have f0 := hrow2.frozen (i := 0) (by decide)
      unfold u8At at c1 c0
      rw [h1] at c1
      rw [h0] at c0
      have hl : S.data.toList.length = 192 := by rw [← hS]; exact Array.length_toList
      have hrT := (hrow1.set 191 (.int .u8 (y1 : Int))).congr fun i hi => u8At_set S.data.toList 191 y1 l1 i (by rw [hl]; exact hi)
      have hrU := (hrow2.of_block (heap_setCell_other w4 ⟨B1, 191, none⟩ B2 (.int .u8 (y1 : Int)) hne)).set 0 (.int .u8 (y0 : Int))
      have hrU := hrU.congr fun i hi => u8At_set S.data.toList 0 y0 l0 i (by rw [hl]; exact hi)
      have hrT := hrT.of_block (heap_setCell_other (w4.setCell ⟨B1, 191, none⟩ (.int .u8 (y1 : Int))) ⟨B2, 0, none⟩ B1 (.int .u8 (y0 : Int)) hne.symm)
      have hbw6 := (hbw4.setCell (p := ⟨B1, 191, none⟩) hle1 (.int .u8 (y1 : Int))).setCell (p := ⟨B2, 0, none⟩) hle2 (.int .u8 (y0 : Int))
      have hrA := (((hRA.below b2).below (bj hb3 hb4)).of_block (heap_setCell_other w4 ⟨B1, 191, none⟩ w.heap.size (.int .u8 (y1 : Int)) (by have := hRA.lt; have := b2.size; show w.heap.size ≠ B1; omega))).of_block (heap_setCell_other (w4.setCell ⟨B1, 191, none⟩ (.int .u8 (y1 : Int))) ⟨B2, 0, none⟩ w.heap.size (.int .u8 (y0 : Int)) (by have := hRA.lt; have := b2.size; show w.heap.size ≠ B2; omega))
      have HHT := Lib.hid hrT
      have HHU := Lib.hid hrU
      have HHA := Lib.hid hrA
      have HB6 := Lib.hid hbw6
      have HL := Lib.hid hl
      clear hrT hrU hrA hbw6 hbw4 hbw2 hrow1 hrow2 hb3 hb4 b2 hRA HCA hcv hl hle1 hle2 hlt1 hcap1 hcap2 hw3 hw4 hB1 hB2 h1 h0
      go_wp2_with fail
      obtain ⟨w6, hw6⟩ : ∃ w6, (w4.setCell ⟨B1, 191, none⟩ (.int .u8 (y1 : Int))).setCell ⟨B2, 0, none⟩ (.int .u8 (y0 : Int)) = w6 := ⟨_, rfl⟩
      have HCT := Lib.hid fun W (hW : Below w6.heap.size w6 W) => conv_out ((show RowB w6 B1 192 _ from hw6 ▸ HHT.out).below hW) (by rw [List.length_set]; exact HL.out) cap1
      have HCU := Lib.hid fun W (hW : Below w6.heap.size w6 W) => conv_out ((show RowB w6 B2 192 _ from hw6 ▸ HHU.out).below hW) (by rw [List.length_set]; exact HL.out) cap2
      have HCA := Lib.hid fun W (hW : Below w6.heap.size w6 W) => conv_out ((show RowB w6 w.heap.size 120 _ from hw6 ▸ HHA.out).below hW) (show exL.length = 120 from rfl) 120
      rw [hT] at HCT
      rw [hU] at HCU
      rw [hA] at HCA
      rw [hw6] at HB6 ⊢
      clear HHT HHU HHA hw6 hT hU hA f1 f0 c1 c0 hcv1 hcv2 e1 e0
      refine (HM1.out _).mono ?_
      rintro e w7 ⟨rfl, b7⟩
      go_wp2_with fail
      refine (HM2.out _).mono ?_
      rintro e w8 ⟨rfl, b8⟩
      have b8 := bj b7 b8
      have t8 := HCT.out w8 b8
      go_wp2_with fail
      refine (HM3.out _).mono ?_
      rintro e w9 ⟨rfl, b9⟩
      have b9 := bj b8 b9
      have t9 := HCT.out w9 b9
      clear t8 b7 b8
      go_wp2_with fail
      refine (HM4.out _).mono ?_
      rintro e w10 ⟨rfl, b10⟩
      have b10 := bj b9 b10
      clear t9 b9
      go_wp2_with fail
      refine (HM5.out _).mono ?_
      rintro e w11 ⟨rfl, b11⟩
      have b11 := bj b10 b11
      clear b10
      go_wp2_with fail
      refine (HM6.out _).mono ?_
      rintro e w12 ⟨rfl, b12⟩
      have b12 := bj b11 b12
      have t12 := HCU.out w12 b12
      clear b11
      go_wp2_with fail
      refine (HM7.out _).mono ?_
      rintro e w13 ⟨rfl, b13⟩
      have b13 := bj b12 b13
      clear b12 t12
      go_wp2_with fail
      refine (HP2.out _).mono ?_
      rintro e w14 ⟨rfl, b14⟩
      have b14 := bj b13 b14
      have t14 := HCA.out w14 b14
      clear b13
      go_wp2_with fail
      refine (HP3.out _).mono ?_
      rintro e w15 ⟨rfl, b15⟩
      have b15 := bj b14 b15
      clear b14 t14
      have HB15 := Lib.hid (bj HB6.out b15)
      clear b15
      go_wp2
      go_ret
      exact ⟨rfl, HB15.out⟩
end Go.Proofs.Ytfnppmiapjhjlaa
