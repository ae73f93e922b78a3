/- The chapter's tables. -/
import Derived.Test.YtifhiiokgpbhmaaTbGet
import Derived.Test.YtifhiiokgpbhmaaTbPut
namespace Go.Proofs.Ytifhiiokgpbhmaa
open Go.RowKit Go.Shelf
set_option linter.unusedVariables false

theorem ex_nil : tbS [] = tbB [] ∧ tbE [] = 0 := tb_yes rfl
theorem ex_size : (tbB []).size = 12 := tbB_size []
theorem ex_head : (tbB []).extract 0 8 = ⟨#[112, 116, 97, 98, 0, 0, 0, 0]⟩ := by
  have h : tbHead ([] : List EntS).length = [112, 116, 97, 98, 0, 0, 0, 0] := by decide +kernel
  have e := tbB_list []
  rw [h] at e
  rw [sl_extbs, e]
  rfl
theorem ex_none : tgOk ⟨#[112, 116, 97, 98]⟩ = false := by
  unfold tgOk
  exact decide_eq_false (fun h => absurd h.1 (by decide))
set_option maxRecDepth 100000 in
theorem tlaid_true (w : World) : Calls Try.prog 6 #[] w fun e w' => e = .returned (.bool true) ∧ Below w.heap.size w w' := by
  have HP := tput_any (.slice none 0 0) [] w (Or.inl ⟨rfl, none, 0, rfl⟩) (by decide) (fun x h => by cases h)
  unfold TbEnd at HP
  obtain ⟨e1, e2⟩ := ex_nil
  rw [e1, e2] at HP
  have HG := fun W => tget_any ⟨#[112, 116, 97, 98]⟩ W (by decide)
  obtain ⟨e3, e4⟩ := tg_no ex_none
  unfold TgEnd at HG
  rw [e3, e4] at HG
  have HS := fun W => tsize_any (0 : Nat) W
  rw [(tbSz_nat (n := 0) (by decide)).1] at HS
  have HA := fun W => tat_any (2 : Nat) W
  rw [(tbSz_nat (n := 2) (by decide)).2] at HA
  have HP2 := Lib.hid HP
  have HG2 := Lib.hid HG
  have HS2 : Hid (∀ W, Calls Try.prog 13 #[.int .i64 0] W fun e w' => e = .returned (.int .i64 12) ∧ W = w') := Lib.hid HS
  have HA2 : Hid (∀ W, Calls Try.prog 14 #[.int .i64 2] W fun e w' => e = .returned (.int .i64 56) ∧ W = w') := Lib.hid HA
  have hz := ex_size
  have hh := ex_head
  clear HP HG HS HA e1 e2 e3 e4
  generalize tbB [] = T at *
  have q1 : (T.extract 0 8).toList = [112, 116, 97, 98, 0, 0, 0, 0] := by rw [hh, Lib.toList_data]
  have q2 : ((T.extract 0 8).toList == [112, 116, 97, 98, 0, 0, 0, 0]) = true := beq_iff_eq.2 q1
  have l8 : (8 : Int) ≤ (T.size : Int) := by omega
  have l9 : 8 ≤ T.size := by omega
  have l10 : ((T.size : Int) == 12) = true := by rw [hz]; rfl
  have HH := Lib.hid hh
  clear hh
  go_enter Try.func6, Try.ntmps6
  go_wp2_with fail
  refine HP2.out.mono ?_
  rintro e w1 ⟨rfl, hb1⟩
  go_wp2_with fail
  refine (HG2.out _).mono ?_
  rintro e w2 ⟨A, c, rfl, -, hb2⟩
  go_wp2_with fail
  refine (HS2.out _).mono ?_
  rintro e w3 ⟨rfl, rfl⟩
  go_wp2_with fail
  refine (HA2.out _).mono ?_
  rintro e w3 ⟨rfl, rfl⟩
  go_wp2
  go_ret
  exact ⟨rfl, bj hb1 hb2⟩
end Go.Proofs.Ytifhiiokgpbhmaa
