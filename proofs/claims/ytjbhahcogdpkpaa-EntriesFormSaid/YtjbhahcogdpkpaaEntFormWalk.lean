/- The walk of EntriesForm. -/
import Derived.Test.YtjbhahcogdpkpaaEntered
import Derived.Test.YtjbhahcogdpkpaaEntPut
import Derived.Test.YtjbhahcogdpkpaaEntGetRef
import Derived.Test.YtjbhahcogdpkpaaBytes24
namespace Go.Proofs.Ytjbhahcogdpkpaa.EnForm
open Go.RowKit Go.Shelf
set_option linter.unusedVariables false

theorem enG_ok (S : ByteArray) : EntOk (enG S) := by
  unfold enG
  split
  · rename_i h
    have h3 := of_decide_eq_true h
    exact ⟨getS_lt _, by show -9223372036854775808 ≤ ((enV S : Nat) : Int); omega, by show ((enV S : Nat) : Int) ≤ 9223372036854775807; omega, by show -9223372036854775808 ≤ ((enP S : Nat) : Int); omega, by show ((enP S : Nat) : Int) ≤ 9223372036854775807; omega⟩
  · exact ⟨by decide, by decide, by decide, by decide, by decide⟩
set_option maxHeartbeats 4000000 in
set_option maxRecDepth 100000 in
theorem small (l : List UInt8) (S : ByteArray) (c c8 c16 : Nat) (x : EntS) (ok : Bool) (w : World) (hl : l.length = 24) (hS : S = ⟨l.toArray⟩) (hc : c < 256) (h8 : u8At l 8 = .int .u8 (c8 : Nat)) (h16 : u8At l 16 = .int .u8 (c16 : Nat)) (hx : x = enG S) (hok : ok = enOk S)
    (hcase : (ok = true ∧ c8 < 128 ∧ c16 < 128) ∨ (ok = false ∧ ¬ c8 < 128) ∨ (ok = false ∧ c8 < 128 ∧ ¬ c16 < 128)) :
    Calls Try.prog 6 #[arr24 l, .int .u8 (c : Nat)] w fun e w' => e = .returned (.bool true) ∧ Below w.heap.size w w' := by
  have hz : S.size = 24 := by rw [hS]; show l.toArray.size = 24; rw [List.size_toArray]; exact hl
  obtain ⟨w1, hw1⟩ : ∃ w1, w.alloc (.cells (u8V l).toArray 40) = w1 := ⟨_, rfl⟩
  have hrow := arr24_row w l 40
  rw [hw1, hl] at hrow
  have hb1 : Below w.heap.size w w1 := by rw [← hw1]; exact (Below.refl _ _).alloc (Nat.le_refl _) _
  have hcv := conv_out hrow hl 24
  rw [← hS] at hcv
  have HR := Lib.hid hrow
  have G1 := fun W => eget_any S W (by unfold maxLen; omega)
  rw [← hx, ← hok] at G1
  have HG1 := Lib.hid G1
  have hm : c % 24 < 24 := Nat.mod_lt _ (by decide)
  have G2 := fun W => eget_any (S.extract 0 (c % 24)) W (by unfold maxLen; rw [ByteArray.size_extract]; omega)
  have n2 : (S.extract 0 (c % 24)).size ≠ 24 := by rw [ByteArray.size_extract]; omega
  rw [enG_no (en_size n2), en_size n2] at G2
  have HG2 := Lib.hid G2
  have G3 := fun W => eget_any (S ++ ⟨#[120]⟩) W (by unfold maxLen; rw [ByteArray.size_append, hz]; decide)
  have n3 : (S ++ (⟨#[120]⟩ : ByteArray)).size ≠ 24 := by rw [ByteArray.size_append, hz]; decide
  rw [enG_no (en_size n3), en_size n3] at G3
  have HG3 := Lib.hid G3
  have hadd : ∀ W : World, (Op.stringOp .add S ⟨#[120]⟩).run Try.prog W = .ok (.string (S ++ ⟨#[120]⟩)) W := fun W => run_string_add_sum (P := Try.prog) (w := W) S ⟨#[120]⟩ (by rw [hz]; decide)
  have hP := fun (h : ok = true) => show EntOk x ∧ putE x = S by
    rw [hx]
    refine ⟨enG_ok S, (en_form (by rw [← hok]; exact h)).2⟩
  have hZ := fun (h : ok = false) => show x = ⟨0, 0, 0⟩ by rw [hx]; exact enG_no (by rw [← hok]; exact h)
  have g8 : ∀ W, Below w1.heap.size w1 W → W.cell? ⟨w.heap.size, 8, none⟩ = some (.int .u8 (c8 : Nat)) ∧ W.cell? ⟨w.heap.size, 16, none⟩ = some (.int .u8 (c16 : Nat)) := fun W hW =>
    ⟨((hrow.below hW).cell (i := 8) (by decide)).trans (by rw [h8]), ((hrow.below hW).cell (i := 16) (by decide)).trans (by rw [h16])⟩
  have HC := Lib.hid g8
  have HPP := Lib.hid hP
  have HZZ := Lib.hid hZ
  have HE := Lib.hid entered_true
  have hc2 : (c : Int) ≤ 255 := by omega
  have eS : (S.toList == S.toList) = true := by simp
  have hxz := fun W => ent_neq ⟨0, 0, 0⟩ ⟨0, 0, 0⟩ W
  rw [decide_eq_true rfl] at hxz
  have HM := Lib.hid hm
  clear G1 G2 G3 n2 n3 hrow hl hS g8 hP hZ h8 h16 HR hx hok
  unfold arr24
  generalize u8V l = V at *
  rcases hcase with ⟨rfl, k8, k16⟩ | ⟨rfl, k8⟩ | ⟨rfl, k8, k16⟩
  · obtain ⟨hxo, rfl⟩ := HPP.out rfl
    have HQ := Lib.hid fun W => eput_any x W hxo
    clear hxo HPP HZZ hxz
    generalize putE x = S at *
    go_enter Try.func6, Try.ntmps6
    go_wp2_with fail
    refine (HG1.out _).mono ?_
    rintro e w2 ⟨rfl, hb2⟩
    have X2 : EntAt (w2.alloc (.cells #[.int .u64 (x.h : Nat), .int .i64 x.v, .int .i64 x.p] 24)) w2.heap.size x.h x.v x.p := Blok.new _ _ _
    have b2 : Below w1.heap.size w1 (w2.alloc (.cells #[.int .u64 (x.h : Nat), .int .i64 x.v, .int .i64 x.p] 24)) := hb2.alloc hb2.size _
    go_wp2_with fail
    refine (HG2.out _).mono ?_
    rintro e w3 ⟨rfl, hb3⟩
    have X3 : EntAt (w3.alloc (.cells #[.int .u64 0, .int .i64 0, .int .i64 0] 24)) w2.heap.size x.h x.v x.p := Blok.alloc (Blok.below X2 hb3) _
    have b3 : Below w1.heap.size w1 (w3.alloc (.cells #[.int .u64 0, .int .i64 0, .int .i64 0] 24)) := (bj b2 hb3).alloc (bj b2 hb3).size _
    clear X2 b2 hb2 hb3
    go_wp2_with fail
    refine (HG3.out _).mono ?_
    rintro e w4 ⟨rfl, hb4⟩
    have X4 : EntAt (w4.alloc (.cells #[.int .u64 0, .int .i64 0, .int .i64 0] 24)) w2.heap.size x.h x.v x.p := Blok.alloc (Blok.below X3 hb4) _
    have b4 : Below w1.heap.size w1 (w4.alloc (.cells #[.int .u64 0, .int .i64 0, .int .i64 0] 24)) := (bj b3 hb4).alloc (bj b3 hb4).size _
    obtain ⟨x0, x1, x2, -, -, -⟩ := X4.facts
    clear X3 b3 hb4 X4
    go_wp2_with fail
    refine (HQ.out _).mono ?_
    rintro e w5 ⟨rfl, hb5⟩
    obtain ⟨y8, y16⟩ := HC.out w5 (bj b4 hb5)
    clear x0 x1 x2
    go_wp2_with fail
    refine (HE.out _).mono ?_
    rintro e w6 ⟨rfl, hb6⟩
    go_wp2
    go_ret
    exact ⟨rfl, bj hb1 (bj (bj b4 hb5) hb6)⟩
  all_goals
    obtain rfl := HZZ.out rfl
    clear HPP HZZ
    (try have t16 : decide ((c16 : Int) < 128) = false := decide_eq_false (by omega))
    (try have t17 : ¬ ((c16 : Int) < 128) := by omega)
    go_enter Try.func6, Try.ntmps6
    go_wp2_with fail
    refine (HG1.out _).mono ?_
    rintro e w2 ⟨rfl, hb2⟩
    have X2 : EntAt (w2.alloc (.cells #[.int .u64 0, .int .i64 0, .int .i64 0] 24)) w2.heap.size 0 0 0 := Blok.new _ _ _
    have b2 : Below w1.heap.size w1 (w2.alloc (.cells #[.int .u64 0, .int .i64 0, .int .i64 0] 24)) := hb2.alloc hb2.size _
    go_wp2_with fail
    refine (HG2.out _).mono ?_
    rintro e w3 ⟨rfl, hb3⟩
    have X3 : EntAt (w3.alloc (.cells #[.int .u64 0, .int .i64 0, .int .i64 0] 24)) w2.heap.size 0 0 0 := Blok.alloc (Blok.below X2 hb3) _
    have b3 : Below w1.heap.size w1 (w3.alloc (.cells #[.int .u64 0, .int .i64 0, .int .i64 0] 24)) := (bj b2 hb3).alloc (bj b2 hb3).size _
    clear X2 b2 hb2 hb3
    go_wp2_with fail
    refine (HG3.out _).mono ?_
    rintro e w4 ⟨rfl, hb4⟩
    have X4 : EntAt (w4.alloc (.cells #[.int .u64 0, .int .i64 0, .int .i64 0] 24)) w2.heap.size 0 0 0 := Blok.alloc (Blok.below X3 hb4) _
    have b4 : Below w1.heap.size w1 (w4.alloc (.cells #[.int .u64 0, .int .i64 0, .int .i64 0] 24)) := (bj b3 hb4).alloc (bj b3 hb4).size _
    obtain ⟨x0, x1, x2, -, -, -⟩ := X4.facts
    obtain ⟨y8, y16⟩ := HC.out _ b4
    clear X3 b3 hb4 X4
    go_wp2_with fail
    refine (HE.out _).mono ?_
    rintro e w6 ⟨rfl, hb6⟩
    go_wp2
    go_ret
    exact ⟨rfl, bj hb1 (bj b4 hb6)⟩
theorem walk (W : World) (l : List UInt8) (c : Int) (wl : l.length = 24) (wc : (Lit.int .u8 c).wf = true) :
    Calls Try.prog 6 #[arr24 l, .int .u8 c] W fun e w' => e = .returned (.bool true) ∧ Below W.heap.size W w' := by
  obtain ⟨n, rfl, hn⟩ := u8_nat wc
  have hz : (⟨l.toArray⟩ : ByteArray).size = 24 := by show l.toArray.size = 24; rw [List.size_toArray]; exact wl
  have hok := enOk_bytes hz
  have e8 : u8At l 8 = .int .u8 (((⟨l.toArray⟩ : ByteArray)[8]'(by rw [hz]; decide)).toNat : Int) := by
    unfold u8At
    rw [List.getD_eq_getElem?_getD, List.getElem?_eq_getElem (by omega)]
    rfl
  have e16 : u8At l 16 = .int .u8 (((⟨l.toArray⟩ : ByteArray)[16]'(by rw [hz]; decide)).toNat : Int) := by
    unfold u8At
    rw [List.getD_eq_getElem?_getD, List.getElem?_eq_getElem (by omega)]
    rfl
  refine small l ⟨l.toArray⟩ n _ _ _ _ W wl rfl hn e8 e16 rfl rfl ?_
  rw [hok]
  generalize ((⟨l.toArray⟩ : ByteArray)[8]'(by rw [hz]; decide)).toNat = p
  generalize ((⟨l.toArray⟩ : ByteArray)[16]'(by rw [hz]; decide)).toNat = q
  by_cases h1 : p < 128
  · by_cases h2 : q < 128
    · exact Or.inl ⟨decide_eq_true ⟨by omega, by omega⟩, h1, h2⟩
    · exact Or.inr (Or.inr ⟨decide_eq_false (by omega), h1, h2⟩)
  · exact Or.inr (Or.inl ⟨decide_eq_false (by omega), h1⟩)
end Go.Proofs.Ytjbhahcogdpkpaa.EnForm
