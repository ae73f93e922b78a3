/- TbMath, TbSize, EntOne, EntGet, EntPut, EntRef -/
import Derived.Test.YtmbhafabphogdaaGreatRk27
import Derived.Test.YtmbhafabphogdaaGreatRk06
import Derived.Test.YtmbhafabphogdaaGreatRk03
import Derived.Test.YtmbhafabphogdaaGreatRk04
import Derived.Deep.RegionHeld3
import Derived.Laws.StructEq
/- TbMath -/
namespace Go.Proofs.YtmbhafabphogdaaGreat
open Go.RowKit
set_option linter.unusedVariables false

/-- The entries' bytes, one behind another. -/
def entsL (l : List EntS) : List UInt8 := l.flatMap putL
def ptabL : List UInt8 := [112, 116, 97, 98]
/-- What stands ahead of them. -/
def tbHead (n : Nat) : List UInt8 := ptabL ++ be 4 n
def tbBody (l : List EntS) : ByteArray := bs (tbHead l.length ++ entsL l)
/-- A table's bytes (P18.1). -/
def tbB (l : List EntS) : ByteArray := sealS (tbBody l)
def tbOk (l : List EntS) : Bool := sortedE l && l.all mayE
/-- What Put tells. -/
def tbS (l : List EntS) : ByteArray := if tbOk l = true then tbB l else ByteArray.empty
def tbE (l : List EntS) : Int := if tbOk l = true then 0 else 2

theorem tbHead_length (n : Nat) : (tbHead n).length = 8 := by unfold tbHead; rw [List.length_append, be_length]; rfl
theorem entsL_cons (x : EntS) (l : List EntS) : entsL (x :: l) = putL x ++ entsL l := by unfold entsL; rw [List.flatMap_cons]
theorem entsL_append (a b : List EntS) : entsL (a ++ b) = entsL a ++ entsL b := by unfold entsL; rw [List.flatMap_append]
theorem entsL_one (x : EntS) : entsL [x] = putL x := by rw [entsL_cons]; show _ ++ [] = _; rw [List.append_nil]
theorem entsL_length : ∀ l : List EntS, (entsL l).length = 24 * l.length
  | [] => rfl
  | x :: l => by rw [entsL_cons, List.length_append, putL_length, entsL_length l, List.length_cons]; omega
theorem entsL_take {l : List EntS} {k : Nat} {x : EntS} (h : l[k]? = some x) : entsL (l.take (k + 1)) = entsL (l.take k) ++ putL x := by rw [ent_take l k x h, entsL_append, entsL_one]
theorem tbBody_size (l : List EntS) : (tbBody l).size = 8 + 24 * l.length := by unfold tbBody; rw [bs_size, List.length_append, tbHead_length, entsL_length]
theorem tbB_size (l : List EntS) : (tbB l).size = 12 + 24 * l.length := by unfold tbB; rw [seal_size, tbBody_size]; omega
theorem tbB_list (l : List EntS) : (tbB l).data.toList = tbHead l.length ++ (entsL l ++ tailS (tbBody l).data.toList) := by
  unfold tbB
  rw [seal_list]
  unfold tbBody
  rw [sl_list, List.append_assoc]
theorem putE_list {x : EntS} (h : mayE x = true) : (putE x).data.toList = putL x := by unfold putE; rw [if_pos h, en_bs_list]
theorem tbOk_iff {l : List EntS} : tbOk l = true ↔ sortedE l = true ∧ ∀ x ∈ l, mayE x = true := by unfold tbOk; rw [Bool.and_eq_true, List.all_eq_true]
theorem tbOk_sorted {l : List EntS} (h : sortedE l = false) : tbOk l = false := by unfold tbOk; rw [h]; rfl
theorem tbOk_may {l : List EntS} {x : EntS} (hx : x ∈ l) (h : mayE x = false) : tbOk l = false := by
  cases e : tbOk l with
  | false => rfl
  | true => rw [(tbOk_iff.1 e).2 x hx] at h; cases h
theorem tb_no {l : List EntS} (h : tbOk l = false) : tbS l = ByteArray.empty ∧ tbE l = 2 := by unfold tbS tbE; rw [h]; exact ⟨rfl, rfl⟩
theorem tb_yes {l : List EntS} (h : tbOk l = true) : tbS l = tbB l ∧ tbE l = 0 := by unfold tbS tbE; rw [h]; exact ⟨rfl, rfl⟩

/-- The bytes of the entry i. -/
def tbPiece (s : ByteArray) (i : Nat) : ByteArray := s.extract (8 + 24 * i) (32 + 24 * i)
/-- The first n entries. -/
def tbGot (s : ByteArray) (n : Nat) : List EntS := (List.range n).map fun i => enG (tbPiece s i)
/-- How many the head says there are. -/
def tbN (s : ByteArray) : Nat := getS (s.extract 4 8)
/-- These are a table's bytes, in the program's words. -/
def tgOk (s : ByteArray) : Bool := decide (8 ≤ s.size ∧ s.extract 0 4 = bs ptabL ∧ tbN s ≤ 89478484 ∧ s.size = 12 + 24 * tbN s ∧ opOk s = true ∧ (∀ i, i < tbN s → enOk (tbPiece s i) = true) ∧ sortedE (tbGot s (tbN s)) = true)
/-- What Get tells. -/
def tgL (s : ByteArray) : List EntS := if tgOk s = true then tbGot s (tbN s) else []
def tgE (s : ByteArray) : Int := if tgOk s = true then 0 else 90
theorem tgOk_iff {s : ByteArray} : tgOk s = true ↔ (8 ≤ s.size ∧ s.extract 0 4 = bs ptabL ∧ tbN s ≤ 89478484 ∧ s.size = 12 + 24 * tbN s ∧ opOk s = true ∧ (∀ i, i < tbN s → enOk (tbPiece s i) = true) ∧ sortedE (tbGot s (tbN s)) = true) := by unfold tgOk; exact decide_eq_true_iff
theorem tg_no {s : ByteArray} (h : tgOk s = false) : tgL s = [] ∧ tgE s = 90 := by unfold tgL tgE; rw [h]; exact ⟨rfl, rfl⟩
theorem tg_yes {s : ByteArray} (h : tgOk s = true) : tgL s = tbGot s (tbN s) ∧ tgE s = 0 := by unfold tgL tgE; rw [h]; exact ⟨rfl, rfl⟩
theorem tbGot_length (s : ByteArray) (n : Nat) : (tbGot s n).length = n := by unfold tbGot; rw [List.length_map, List.length_range]
theorem tbGot_succ (s : ByteArray) (n : Nat) : tbGot s (n + 1) = tbGot s n ++ [enG (tbPiece s n)] := by unfold tbGot; rw [List.range_succ, List.map_append]; rfl
theorem tbGot_at (s : ByteArray) {n i : Nat} (h : i < n) : (tbGot s n)[i]? = some (enG (tbPiece s i)) := by unfold tbGot; rw [List.getElem?_map, List.getElem?_range h]; rfl
theorem tbPiece_list (s : ByteArray) (i : Nat) : (tbPiece s i).data.toList = (s.data.toList.drop (8 + 24 * i)).take 24 := by unfold tbPiece; rw [sl_ext, show 32 + 24 * i - (8 + 24 * i) = 24 by omega]
theorem tbPiece_size {s : ByteArray} {i : Nat} (h : 32 + 24 * i ≤ s.size) : (tbPiece s i).size = 24 := by unfold tbPiece; rw [ByteArray.size_extract]; omega
/-- The entries that are got have the bytes that stand there. -/
theorem got_bytes (s : ByteArray) : ∀ n, (∀ i, i < n → enOk (tbPiece s i) = true) → entsL (tbGot s n) = (s.data.toList.drop 8).take (24 * n)
  | 0, _ => by simp [tbGot, entsL]
  | n + 1, h => by
    obtain ⟨m, e⟩ := en_form (h n (Nat.lt_succ_self n))
    have e2 : putL (enG (tbPiece s n)) = (s.data.toList.drop (8 + 24 * n)).take 24 := by rw [← tbPiece_list, ← putE_list m, e]
    rw [tbGot_succ, entsL_append, entsL_one, got_bytes s n (fun i hi => h i (by omega)), e2, show 24 * (n + 1) = 24 * n + 24 by omega, List.take_add, List.drop_drop]
theorem got_may (s : ByteArray) {n : Nat} (h : ∀ i, i < n → enOk (tbPiece s i) = true) : ∀ x ∈ tbGot s n, mayE x = true := by
  intro x hx
  unfold tbGot at hx
  obtain ⟨i, hi, rfl⟩ := List.mem_map.1 hx
  exact (en_form (h i (List.mem_range.1 hi))).1
theorem un_four (n : Nat) (h : n < 4294967296) : un (be 4 n) = n := by
  have p : (256 : Nat) ^ 4 = 4294967296 := by decide
  rw [un_be, p, Nat.mod_eq_of_lt h]
theorem four_get {s : ByteArray} {l : List UInt8} (h : s.data.toList = l) (hl : l.length = 4) : getS s = un l := by unfold getS; rw [h, List.take_of_length_le (by omega)]
/-- What stands ahead in a table's bytes. -/
theorem tbB_head (l : List EntS) (hn : l.length < 4294967296) : (tbB l).extract 0 4 = bs ptabL ∧ tbN (tbB l) = l.length := by
  have e := tbB_list l
  have h4 : ptabL.length = 4 := rfl
  constructor
  · rw [sl_extbs, e]
    unfold tbHead
    rw [List.drop_zero, List.append_assoc, List.take_left' (by exact h4)]
  · unfold tbN
    rw [four_get (l := be 4 l.length) _ (be_length _ _), un_four _ hn]
    rw [sl_ext, e]
    unfold tbHead
    rw [List.append_assoc, List.drop_left' h4, List.take_left' (be_length 4 l.length)]
theorem tbB_piece {l : List EntS} {i : Nat} {x : EntS} (h : l[i]? = some x) (hm : mayE x = true) : tbPiece (tbB l) i = putE x := by
  have hi : i < l.length := (List.getElem?_eq_some_iff.1 h).1
  have e : (tbPiece (tbB l) i).data.toList = putL x := by
    rw [tbPiece_list, tbB_list, ← List.drop_drop, List.drop_left' (tbHead_length _)]
    have e1 : l = l.take i ++ (x :: l.drop (i + 1)) := by
      have := (List.getElem?_eq_some_iff.1 h).2
      rw [← this, ← List.drop_eq_getElem_cons hi, List.take_append_drop]
    have e2 : entsL l = entsL (l.take i) ++ (putL x ++ entsL (l.drop (i + 1))) := by
      conv => lhs; rw [e1]
      rw [entsL_append, entsL_cons]
    have e3 : (entsL (l.take i)).length = 24 * i := by rw [entsL_length, List.length_take]; omega
    rw [e2, List.append_assoc, List.drop_left' e3, List.append_assoc, List.take_left' (putL_length x)]
  rw [← bs_data (tbPiece (tbB l) i), e, ← putE_list hm, bs_data]
/-- What is put is got (P18.3). -/
theorem tb_back {l : List EntS} (hn : l.length ≤ 89478484) (hx : ∀ x ∈ l, EntOk x) (hok : tbOk l = true) : tgOk (tbB l) = true ∧ tbGot (tbB l) l.length = l ∧ tgL (tbB l) = l := by
  obtain ⟨hs, hm⟩ := tbOk_iff.1 hok
  obtain ⟨h1, h2⟩ := tbB_head l (by omega)
  have hp : ∀ i, i < l.length → enOk (tbPiece (tbB l) i) = true := fun i hi => by
    have hi' := List.getElem?_eq_getElem hi
    have hmem := List.getElem_mem hi
    rw [tbB_piece hi' (hm _ hmem), enOk_put (hx _ hmem), hm _ hmem]
  have hg : tbGot (tbB l) l.length = l := by
    apply List.ext_getElem?
    intro i
    rcases Nat.lt_or_ge i l.length with c | c
    · have hi' := List.getElem?_eq_getElem c
      have hmem := List.getElem_mem c
      rw [tbGot_at _ c, tbB_piece hi' (hm _ hmem), (en_put (hx _ hmem) (hm _ hmem)).2, hi']
    · rw [List.getElem?_eq_none c, List.getElem?_eq_none (by rw [tbGot_length]; exact c)]
  have hok2 : tgOk (tbB l) = true := tgOk_iff.2 ⟨by rw [tbB_size]; omega, h1, by rw [h2]; exact hn, by rw [tbB_size, h2], opOk_seal _, by rw [h2]; exact hp, by rw [h2, hg]; exact hs⟩
  exact ⟨hok2, hg, by rw [(tg_yes hok2).1, h2, hg]⟩
theorem ext_join (s : ByteArray) {k : Nat} (h : k ≤ s.size) : s.extract 0 k ++ s.extract k s.size = s := by
  have e9 : (s.data.toList.drop k).take (s.size - k) = s.data.toList.drop k := List.take_of_length_le (by rw [List.length_drop, sl_size]; exact Nat.le_refl _)
  rw [sl_extbs s 0 k, sl_extbs s k s.size, bs_append, e9, List.drop_zero, Nat.sub_zero, List.take_append_drop, bs_data]
/-- These are a table's bytes, in the document's words. -/
theorem tg_doc {s : ByteArray} (hs : s.size ≤ 1000000) : tgOk s = true ↔ (12 ≤ s.size ∧ (s.size - 12) % 24 = 0 ∧ (∀ i, i < (s.size - 12) / 24 → enOk (tbPiece s i) = true) ∧ tbOk (tbGot s ((s.size - 12) / 24)) = true ∧ tbB (tbGot s ((s.size - 12) / 24)) = s) := by
  constructor
  · intro h
    obtain ⟨h0, h1, h2, h3, h4, h5, h6⟩ := tgOk_iff.1 h
    have hn : (s.size - 12) / 24 = tbN s := by omega
    rw [hn]
    refine ⟨by omega, by omega, h5, tbOk_iff.2 ⟨h6, got_may s h5⟩, ?_⟩
    have hb := got_bytes s _ h5
    have hl := sl_size s
    obtain ⟨h7, h8⟩ := of_decide_eq_true h4
    have e4 : (s.data.toList.drop 4).take 4 = be 4 (tbN s) := by
      have hlen : ((s.data.toList.drop 4).take 4).length = 4 := by rw [List.length_take, List.length_drop]; omega
      have := be_un ((s.data.toList.drop 4).take 4)
      rw [hlen] at this
      rw [← this]
      unfold tbN
      rw [four_get (l := (s.data.toList.drop 4).take 4) (sl_ext s 4 8) hlen]
    have e0 : s.data.toList.take 4 = ptabL := by
      have := congrArg (fun s : ByteArray => s.data.toList) h1
      simp only [sl_ext, sl_list, List.drop_zero] at this
      exact this
    have eb : tbBody (tbGot s (tbN s)) = s.extract 0 (s.size - 4) := by
      rw [sl_extbs, List.drop_zero]
      unfold tbBody tbHead
      have e5 : 4 + 4 + 24 * tbN s = s.size - 4 - 0 := by omega
      rw [tbGot_length, hb, ← e4, ← e0, ← List.take_add, show (8 : Nat) = 4 + 4 from rfl, ← List.take_add, e5]
    have ej := ext_join s (k := s.size - 4) (by omega)
    rw [h8, ← eb] at ej
    exact ej
  · rintro ⟨h0, h1, h2, h3, h4⟩
    generalize hn : (s.size - 12) / 24 = n at *
    obtain ⟨g1, g2⟩ := tbB_head (tbGot s n) (by rw [tbGot_length]; omega)
    rw [h4, tbGot_length] at g2
    rw [h4] at g1
    have g3 := opOk_seal (tbBody (tbGot s n))
    have g4 : sealS (tbBody (tbGot s n)) = s := h4
    rw [g4] at g3
    exact tgOk_iff.2 ⟨by omega, g1, by omega, by omega, g3, by rw [g2]; exact h2, by rw [g2]; exact (tbOk_iff.1 h3).1⟩
theorem tg_no_doc {s : ByteArray} (hs : s.size ≤ 1000000) (h : ¬ (12 ≤ s.size ∧ (s.size - 12) % 24 = 0 ∧ (∀ i, i < (s.size - 12) / 24 → enOk (tbPiece s i) = true) ∧ tbOk (tbGot s ((s.size - 12) / 24)) = true ∧ tbB (tbGot s ((s.size - 12) / 24)) = s)) : tgOk s = false := by
  cases e : tgOk s with
  | false => rfl
  | true => exact absurd ((tg_doc hs).1 e) h
/-- A table of which one byte is another one is none. -/
theorem tg_turned {s t : ByteArray} (h : tgOk s = true) (k : Nat) (hl : s.size = t.size) (ho : ∀ j, j < k ∨ k + 4 ≤ j → s.data.toList[j]? = t.data.toList[j]?) (hne : s ≠ t) : tgOk t = false := by
  cases e : tgOk t with
  | false => rfl
  | true => exact absurd (sealed_near (tgOk_iff.1 h).2.2.2.2.1 (tgOk_iff.1 e).2.2.2.2.1 k hl ho) hne
/-- Nor is one whose length is another one, with the same head. -/
theorem tg_other {s t : ByteArray} (h : tgOk s = true) (hl : s.size ≠ t.size) (he : 8 ≤ t.size → t.extract 4 8 = s.extract 4 8) : tgOk t = false := by
  cases e : tgOk t with
  | false => rfl
  | true =>
    have h1 := tgOk_iff.1 h
    have h2 := tgOk_iff.1 e
    have h3 : tbN t = tbN s := by unfold tbN; rw [he h2.1]
    have h4 := h1.2.2.2.1
    have h5 := h2.2.2.2.1
    omega
theorem tg_cut {s : ByteArray} (h : tgOk s = true) {k : Nat} (hk : k < s.size) : tgOk (s.extract 0 k) = false := by
  refine tg_other h (by rw [ByteArray.size_extract]; omega) fun h8 => ?_
  rw [ByteArray.size_extract] at h8
  have hl := sl_size s
  rw [sl_extbs (s.extract 0 k), sl_extbs s 4 8, sl_ext, List.drop_zero, Nat.sub_zero, List.drop_take, List.take_take]
  congr 2
  omega
theorem tg_more {s x : ByteArray} (h : tgOk s = true) (hx : 0 < x.size) : tgOk (s ++ x) = false := by
  have h0 := (tgOk_iff.1 h).1
  refine tg_other h (by rw [ByteArray.size_append]; omega) fun _ => ?_
  have hl := sl_size s
  rw [sl_extbs (s ++ x), sl_extbs s, sl_append, List.drop_append_of_le_length (by omega), List.take_append_of_le_length (by rw [List.length_drop]; omega)]
end Go.Proofs.YtmbhafabphogdaaGreat

/- TbSize -/
namespace Go.Proofs.YtmbhafabphogdaaGreat
open Go.RowKit
set_option linter.unusedVariables false

/-- Size, At (P18.2). -/
def tbSz (n : Int) : Int := if n < 0 ∨ 89478484 < n then 0 else 12 + 24 * n
def tbAt (n : Int) : Int := if n < 0 ∨ 89478484 < n then 0 else 8 + 24 * n
theorem tbSz_no {n : Int} (h : n < 0 ∨ 89478484 < n) : tbSz n = 0 ∧ tbAt n = 0 := by unfold tbSz tbAt; rw [if_pos h, if_pos h]; exact ⟨rfl, rfl⟩
theorem tbSz_yes {n : Int} (h : ¬ (n < 0 ∨ 89478484 < n)) : tbSz n = 12 + 24 * n ∧ tbAt n = 8 + 24 * n := by unfold tbSz tbAt; rw [if_neg h, if_neg h]; exact ⟨rfl, rfl⟩
theorem tbSz_nat {n : Nat} (h : n ≤ 89478484) : tbSz (n : Nat) = ((12 + 24 * n : Nat) : Int) ∧ tbAt (n : Nat) = ((8 + 24 * n : Nat) : Int) := by
  obtain ⟨h1, h2⟩ := tbSz_yes (n := (n : Nat)) (by omega)
  rw [h1, h2]
  exact ⟨by omega, by omega⟩

theorem tsize_any (n : Int) (w : World) :
    Calls Tryz.prog 56 #[.int .i64 n] w fun e w' => e = .returned (.int .i64 (tbSz n)) ∧ w = w' := by
  by_cases h : n < 0
  · rw [(tbSz_no (Or.inl h)).1]
    go_enter Tryz.func56, Tryz.ntmps56
    go_wp2
    go_ret
    exact ⟨rfl, rfl⟩
  · by_cases h2 : 89478484 < n
    · rw [(tbSz_no (Or.inr h2)).1]
      go_enter Tryz.func56, Tryz.ntmps56
      go_wp2
      go_ret
      exact ⟨rfl, rfl⟩
    · rw [(tbSz_yes (n := n) (by omega)).1]
      obtain ⟨k, rfl⟩ : ∃ k : Nat, n = k := ⟨n.toNat, by omega⟩
      go_enter Tryz.func56, Tryz.ntmps56
      go_wp2
      go_ret
      exact ⟨ret_int (by omega), rfl⟩
theorem tat_any (n : Int) (w : World) :
    Calls Tryz.prog 59 #[.int .i64 n] w fun e w' => e = .returned (.int .i64 (tbAt n)) ∧ w = w' := by
  have HS := Lib.hid (tsize_any n w)
  by_cases h : n < 0 ∨ 89478484 < n
  · obtain ⟨h1, h2⟩ := tbSz_no h
    rw [h1] at HS
    rw [h2]
    clear h h1 h2
    go_enter Tryz.func59, Tryz.ntmps59
    go_wp2_with fail
    refine HS.out.mono ?_
    rintro e w' ⟨rfl, rfl⟩
    go_wp2
    go_ret
    exact ⟨rfl, rfl⟩
  · obtain ⟨h1, h2⟩ := tbSz_yes h
    obtain ⟨k, rfl⟩ : ∃ k : Nat, n = k := ⟨n.toNat, by omega⟩
    obtain ⟨z, hz⟩ : ∃ z : Nat, z = 12 + 24 * k := ⟨_, rfl⟩
    rw [h1, show (12 : Int) + 24 * (k : Nat) = (z : Nat) by omega] at HS
    rw [h2]
    have t1 : ((z : Int) == 0) = false := beq_eq_false_iff_ne.2 (by omega)
    have hk : k ≤ 89478484 := by omega
    clear h h1 h2 hz
    go_enter Tryz.func59, Tryz.ntmps59
    go_wp2_with fail
    refine HS.out.mono ?_
    rintro e w' ⟨rfl, rfl⟩
    go_wp2
    go_ret
    exact ⟨ret_int (by omega), rfl⟩

/-- There is a head. -/
def tbHas (s : ByteArray) : Bool := decide (8 ≤ s.size ∧ s.extract 0 4 = bs ptabL)
def tbMany (s : ByteArray) : Int := if tbHas s = true then (tbN s : Nat) else 0
theorem tb_letters : (⟨#[112, 116, 97, 98]⟩ : ByteArray) = bs ptabL := rfl
theorem pre_four (s : ByteArray) (h8 : 8 ≤ s.size) : preS s ⟨#[112, 116, 97, 98]⟩ = tbHas s := by
  unfold preS tbHas
  rw [tb_letters, decide_eq_decide]
  have : (bs ptabL).size = 4 := rfl
  rw [this]
  exact ⟨fun h => ⟨h8, h.2⟩, fun h => ⟨by omega, h.2⟩⟩
theorem tcount_any (s : ByteArray) (w : World) (hs : s.size ≤ maxLen) :
    Calls Tryz.prog 55 #[.string s] w fun e w' => e = .returned (.tuple #[.int .i64 (tbMany s), .bool (tbHas s)]) ∧ w = w' := by
  by_cases h8 : s.size < 8
  · have e0 : tbHas s = false := decide_eq_false (fun h => by omega)
    have e1 : tbMany s = 0 := by unfold tbMany; rw [e0]; rfl
    rw [e0, e1]
    have t1 : decide ((s.size : Int) < 8) = true := decide_eq_true (by omega)
    clear e0 e1
    unfold maxLen at hs
    go_enter Tryz.func55, Tryz.ntmps55
    go_wp2
    go_ret2
    exact ⟨rfl, rfl⟩
  · have HP := fun W => pre_any s ⟨#[112, 116, 97, 98]⟩ W hs (by decide)
    rw [pre_four s (by omega)] at HP
    have HG := Lib.hid fun W => get_any (s.extract 4 8) W (by unfold maxLen at *; rw [ByteArray.size_extract]; omega)
    have hN : getS (s.extract 4 8) = tbN s := rfl
    have hlt : tbN s < 4294967296 := by
      have h := un_lt ((s.extract 4 8).data.toList.take 8)
      have p : (256 : Nat) ^ 4 = 4294967296 := by decide
      have hl : ((s.extract 4 8).data.toList.take 8).length ≤ 4 := by rw [List.length_take, sl_size, ByteArray.size_extract]; omega
      exact Nat.lt_of_lt_of_le h (by rw [← p]; exact Nat.pow_le_pow_right (by decide) hl)
    unfold tbMany
    rw [hN] at HG
    clear hN
    have t1 : decide ((s.size : Int) < 8) = false := decide_eq_false (by omega)
    have t2 : (8 : Int) ≤ (s.size : Int) := by omega
    have t3 : 8 ≤ s.size := by omega
    generalize tbN s = n at *
    unfold maxLen at hs
    have HP2 := Lib.hid HP
    clear HP h8
    cases e : tbHas s
    all_goals
      rw [e] at HP2
      clear e
      go_enter Tryz.func55, Tryz.ntmps55
      go_wp2_with fail
      refine (HP2.out _).mono ?_
      rintro e w1 ⟨rfl, rfl⟩
      first
      | (go_wp2
         go_ret2
         exact ⟨rfl, rfl⟩)
      | (go_wp2_with fail
         refine (HG.out _).mono ?_
         rintro e w1 ⟨rfl, rfl⟩
         go_wp2
         go_ret2
         exact ⟨rfl, rfl⟩)
end Go.Proofs.YtmbhafabphogdaaGreat

/- EntOne -/
namespace Go.Proofs.YtmbhafabphogdaaGreat
open Go.RowKit
set_option linter.unusedVariables false

theorem ent_eqb (x y : EntS) : ((((x.h : Int) == (y.h : Int)) && (x.v == y.v)) && (x.p == y.p)) = decide (x = y) := by
  rw [Bool.eq_iff_iff, Bool.and_eq_true, Bool.and_eq_true, beq_iff_eq, beq_iff_eq, beq_iff_eq, decide_eq_true_iff]
  constructor
  · rintro ⟨⟨h1, h2⟩, h3⟩
    exact entS_ext (by omega) h2 h3
  · rintro rfl
    exact ⟨⟨rfl, rfl⟩, rfl⟩
set_option maxRecDepth 100000 in
theorem ent_equal (x y : EntS) (w : World) : (Op.equalIn 10000 56 (entB x) (entB y)).run Tryz.prog w = .ok (decide (x = y)) w := by
  rw [show (10000 : Nat) = 9998 + 1 + 1 from rfl, run_equalIn_agg w 9999 56 _ _ Tryz.underlying56 Tryz.stoodInHeld56]
  have e := ent_eqb x y
  by_cases h1 : (x.h : Int) = (y.h : Int)
  · by_cases h2 : x.v = y.v
    · by_cases h3 : x.p = y.p
      · have : x = y := entS_ext (by omega) h2 h3
        rw [decide_eq_true this]
        simp [Op.eqFields, go_sem, h1, h2, h3]
      · have : ¬ x = y := fun h => h3 (by rw [h])
        rw [decide_eq_false this]
        simp [Op.eqFields, go_sem, h1, h2, h3]
    · have : ¬ x = y := fun h => h2 (by rw [h])
      rw [decide_eq_false this]
      simp [Op.eqFields, go_sem, h1, h2]
  · have : ¬ x = y := fun h => h1 (by rw [h])
    rw [decide_eq_false this]
    simp [Op.eqFields, go_sem, h1]
theorem ent_eql (x y : EntS) (w : World) : (binOp .eql 56 (entB x) (entB y)).run Tryz.prog w = .ok (.bool (decide (x = y))) w := by
  rw [run_eql_struct, ent_equal]; rfl
theorem ent_neq (x y : EntS) (w : World) : (binOp .neq 56 (entB x) (entB y)).run Tryz.prog w = .ok (.bool (!decide (x = y))) w := by
  rw [run_neq_struct, ent_equal]; rfl

theorem below_two (w : World) (o o' : Obj) : Below w.heap.size w ((w.alloc o).alloc o') := ((Below.refl _ _).alloc (Nat.le_refl _) _).alloc (by simp) _

theorem eless_any (x y : EntS) (w : World) :
    Calls Tryz.prog 34 #[entB x, entB y] w fun e w' => e = .returned (.bool (lessE x y)) ∧ Below w.heap.size w w' := by
  obtain ⟨h, v, p⟩ := x
  obtain ⟨h', v', p'⟩ := y
  have hb := below_two w (.cells #[.int .u64 (h : Nat), .int .i64 v, .int .i64 p] 56) (.cells #[.int .u64 (h' : Nat), .int .i64 v', .int .i64 p'] 56)
  have e := lessE_iff (x := ⟨h, v, p⟩) (y := ⟨h', v', p'⟩)
  simp only at e
  generalize lessE ⟨h, v, p⟩ ⟨h', v', p'⟩ = q at *
  by_cases c : h = h'
  · subst c
    by_cases c : v = v'
    · subst c
      by_cases c : p < p'
      · obtain rfl : q = true := e.2 (by omega)
        clear e
        go_enter Tryz.func34, Tryz.ntmps34
        go_wp2
        go_ret
        exact ⟨rfl, hb⟩
      · obtain rfl : q = false := Bool.eq_false_iff.2 (fun t => by have := e.1 t; omega)
        clear e
        go_enter Tryz.func34, Tryz.ntmps34
        go_wp2
        go_ret
        exact ⟨rfl, hb⟩
    · by_cases c2 : v < v'
      · obtain rfl : q = true := e.2 (by omega)
        clear e
        go_enter Tryz.func34, Tryz.ntmps34
        go_wp2
        go_ret
        exact ⟨rfl, hb⟩
      · obtain rfl : q = false := Bool.eq_false_iff.2 (fun t => by have := e.1 t; omega)
        clear e
        go_enter Tryz.func34, Tryz.ntmps34
        go_wp2
        go_ret
        exact ⟨rfl, hb⟩
  · by_cases c2 : h < h'
    · obtain rfl : q = true := e.2 (by omega)
      clear e
      have c3 : ((h : Int) != (h' : Int)) = true := by simp; omega
      have c4 : decide ((h : Int) < (h' : Int)) = true := decide_eq_true (by omega)
      go_enter Tryz.func34, Tryz.ntmps34
      go_wp2
      go_ret
      exact ⟨rfl, hb⟩
    · obtain rfl : q = false := Bool.eq_false_iff.2 (fun t => by have := e.1 t; omega)
      clear e
      have c3 : ((h : Int) != (h' : Int)) = true := by simp; omega
      have c4 : decide ((h : Int) < (h' : Int)) = false := decide_eq_false (by omega)
      go_enter Tryz.func34, Tryz.ntmps34
      go_wp2
      go_ret
      exact ⟨rfl, hb⟩

theorem may_any (x : EntS) (w : World) :
    Calls Tryz.prog 89 #[entB x] w fun e w' => e = .returned (.bool (mayE x)) ∧ Below w.heap.size w w' := by
  obtain ⟨h, v, p⟩ := x
  have hb := (Below.refl w.heap.size w).alloc (Nat.le_refl _) (.cells #[.int .u64 (h : Nat), .int .i64 v, .int .i64 p] 56)
  have e : mayE ⟨h, v, p⟩ = decide (0 ≤ v ∧ 0 ≤ p) := rfl
  rw [e]
  clear e
  by_cases c : 0 ≤ v
  · by_cases c2 : 0 ≤ p
    · rw [decide_eq_true ⟨c, c2⟩]
      go_enter Tryz.func89, Tryz.ntmps89
      go_wp2
      go_ret
      exact ⟨rfl, hb⟩
    · rw [decide_eq_false (fun x => c2 x.2)]
      go_enter Tryz.func89, Tryz.ntmps89
      go_wp2
      go_ret
      exact ⟨rfl, hb⟩
  · rw [decide_eq_false (fun x => c x.1)]
    go_enter Tryz.func89, Tryz.ntmps89
    go_wp2
    go_ret
    exact ⟨rfl, hb⟩
end Go.Proofs.YtmbhafabphogdaaGreat

/- EntGet -/
namespace Go.Proofs.YtmbhafabphogdaaGreat
open Go.RowKit
set_option linter.unusedVariables false

theorem Blok.below {w w' : World} {g : Nat} {t : TypeId} {cs : Array Value} (h : Blok w g t cs) (hb : Below w.heap.size w w') : Blok w' g t cs := (hb.block g h.lt).trans h
/-- An entry in memory. -/
abbrev EnAt (w : World) (g : Nat) (h : Nat) (v p : Int) : Prop := Blok w g 56 #[.int .u64 (h : Nat), .int .i64 v, .int .i64 p]
theorem EnAt.put0 {w : World} {g h : Nat} {v p : Int} (H : EnAt w g h v p) (h' : Nat) : EnAt (w.setCell ⟨g, 0, none⟩ (.int .u64 (h' : Nat))) g h' v p := Blok.put H 0 _
theorem EnAt.put1 {w : World} {g h : Nat} {v p : Int} (H : EnAt w g h v p) (v' : Int) : EnAt (w.setCell ⟨g, 1, none⟩ (.int .i64 v')) g h v' p := Blok.put H 1 _
theorem EnAt.put2 {w : World} {g h : Nat} {v p : Int} (H : EnAt w g h v p) (p' : Int) : EnAt (w.setCell ⟨g, 2, none⟩ (.int .i64 p')) g h v p' := Blok.put H 2 _
theorem EnAt.facts {w : World} {g h : Nat} {v p : Int} (H : EnAt w g h v p) : w.cell? ⟨g, 0, none⟩ = some (.int .u64 (h : Nat)) ∧ w.cell? ⟨g, 1, none⟩ = some (.int .i64 v) ∧ w.cell? ⟨g, 2, none⟩ = some (.int .i64 p) ∧ w.frozen? ⟨g, 0, none⟩ = false ∧ w.frozen? ⟨g, 1, none⟩ = false ∧ w.frozen? ⟨g, 2, none⟩ = false :=
  ⟨Blok.cell H 0, Blok.cell H 1, Blok.cell H 2, Blok.frozen H 0, Blok.frozen H 1, Blok.frozen H 2⟩
theorem low3 {w w2 : World} {g : Nat} (h : Below w.heap.size w w2) (hg : w.heap.size ≤ g) (a b c : Value) :
    Below w.heap.size w (((w2.setCell ⟨g, 0, none⟩ a).setCell ⟨g, 1, none⟩ b).setCell ⟨g, 2, none⟩ c) := ((h.setCell hg _).setCell hg _).setCell hg _

theorem wrap_pos (n : Nat) (h : n < 18446744073709551616) : (0 ≤ IntKind.i64.wrap (n : Int) ↔ n < 9223372036854775808) ∧ (n < 9223372036854775808 → IntKind.i64.wrap (n : Int) = n) := by
  rw [IntKind.wrap_i64]
  constructor
  · omega
  · intro; omega
theorem may_got {s : ByteArray} (hz : s.size = 24) : mayE ⟨getS (s.extract 0 8), IntKind.i64.wrap (enV s : Nat), IntKind.i64.wrap (enP s : Nat)⟩ = enOk s ∧ (enOk s = true → enG s = ⟨getS (s.extract 0 8), IntKind.i64.wrap (enV s : Nat), IntKind.i64.wrap (enP s : Nat)⟩) := by
  have h1 := wrap_pos (enV s) (getS_lt _)
  have h2 := wrap_pos (enP s) (getS_lt _)
  constructor
  · unfold mayE enOk
    rw [decide_eq_decide]
    simp only
    rw [h1.1, h2.1]
    exact ⟨fun h => ⟨hz, h⟩, fun h => h.2⟩
  · intro h
    have h3 := of_decide_eq_true h
    unfold enG
    rw [if_pos h, h1.2 h3.2.1, h2.2 h3.2.2]

theorem eget_short (s : ByteArray) (w : World) (hs : s.size ≤ maxLen) (hz : s.size ≠ 24) :
    Calls Tryz.prog 58 #[.string s] w fun e w' => e = .returned (.tuple #[entB ⟨0, 0, 0⟩, .bool false]) ∧ Below w.heap.size w w' := by
  unfold maxLen at hs
  have t : ((s.size : Int) != 24) = true := by simp; omega
  have E0 : EnAt (w.alloc (.cells #[.int .u64 ((0 : Nat) : Int), .int .i64 0, .int .i64 0] 56)) w.heap.size 0 0 0 := Blok.new _ _ _
  have hb := (Below.refl w.heap.size w).alloc (Nat.le_refl _) (.cells #[.int .u64 ((0 : Nat) : Int), .int .i64 0, .int .i64 0] 56)
  obtain ⟨w1, hw1⟩ : ∃ w1, w.alloc (.cells #[.int .u64 ((0 : Nat) : Int), .int .i64 0, .int .i64 0] 56) = w1 := ⟨_, rfl⟩
  rw [hw1] at E0 hb
  have hw1' : w.alloc (.cells #[.int .u64 0, .int .i64 0, .int .i64 0] 56) = w1 := hw1
  clear hw1
  obtain ⟨k0, k1, k2, f0, f1, f2⟩ := E0.facts
  clear E0
  go_enter Tryz.func58, Tryz.ntmps58
  go_wp2
  exact bodyPost_ret (v := .tuple #[entB ⟨0, 0, 0⟩, .bool false]) (by simp [results, Tryz.results58, go_sem, k0, k1, k2]) rfl ⟨rfl, low3 hb (Nat.le_refl _) _ _ _⟩
set_option maxHeartbeats 1000000 in
theorem eget_long (s : ByteArray) (w : World) (hz : s.size = 24) :
    Calls Tryz.prog 58 #[.string s] w fun e w' => e = .returned (.tuple #[entB (enG s), .bool (enOk s)]) ∧ Below w.heap.size w w' := by
  have G0 := Lib.hid fun W => get_any (s.extract 0 8) W (by unfold maxLen; rw [ByteArray.size_extract]; omega)
  have G1 := Lib.hid fun W => get_any (s.extract 8 16) W (by unfold maxLen; rw [ByteArray.size_extract]; omega)
  have G2 := Lib.hid fun W => get_any (s.extract 16 24) W (by unfold maxLen; rw [ByteArray.size_extract]; omega)
  obtain ⟨m1, m2⟩ := may_got hz
  have HM := fun W => may_any ⟨getS (s.extract 0 8), IntKind.i64.wrap (enV s : Nat), IntKind.i64.wrap (enP s : Nat)⟩ W
  rw [m1] at HM
  have HM2 := Lib.hid HM
  have hN := enG_no (s := s)
  unfold enV enP at *
  clear HM m1
  generalize getS (s.extract 0 8) = h at *
  generalize getS (s.extract 8 16) = nv at *
  generalize getS (s.extract 16 24) = np at *
  obtain ⟨v, hv⟩ : ∃ v, IntKind.i64.wrap (nv : Int) = v := ⟨_, rfl⟩
  obtain ⟨p, hp⟩ : ∃ p, IntKind.i64.wrap (np : Int) = p := ⟨_, rfl⟩
  rw [hv, hp] at HM2 m2
  have t : ((s.size : Int) != 24) = false := by simp; omega
  have E0 : EnAt (w.alloc (.cells #[.int .u64 ((0 : Nat) : Int), .int .i64 0, .int .i64 0] 56)) w.heap.size 0 0 0 := Blok.new _ _ _
  have hb := (Below.refl w.heap.size w).alloc (Nat.le_refl _) (.cells #[.int .u64 ((0 : Nat) : Int), .int .i64 0, .int .i64 0] 56)
  obtain ⟨w1, hw1⟩ : ∃ w1, w.alloc (.cells #[.int .u64 ((0 : Nat) : Int), .int .i64 0, .int .i64 0] 56) = w1 := ⟨_, rfl⟩
  rw [hw1] at E0 hb
  have hw1' : w.alloc (.cells #[.int .u64 0, .int .i64 0, .int .i64 0] 56) = w1 := hw1
  clear hw1
  have E1 := Lib.hid (E0.put0 h)
  obtain ⟨k0, k1, k2, f0, f1, f2⟩ := E0.facts
  clear E0
  cases hok : enOk s
  all_goals
    rw [hok] at HM2
    first | rw [hN hok] | rw [m2 hok]
    clear hN m2 hok
    go_enter Tryz.func58, Tryz.ntmps58
    go_wp2_with fail
    refine (G0.out _).mono ?_
    rintro e w' ⟨rfl, rfl⟩
    go_wp2_with fail
    refine (G1.out _).mono ?_
    rintro e w' ⟨rfl, rfl⟩
    go_wp2_with fail
    refine (G2.out _).mono ?_
    rintro e w' ⟨rfl, rfl⟩
    have E3 := Lib.hid ((E1.out.put1 v).put2 p)
    have hb3 := low3 hb (Nat.le_refl _) (.int .u64 (h : Nat)) (.int .i64 v) (.int .i64 p)
    clear E1
    go_wp2_with fail
    refine (HM2.out _).mono ?_
    rintro e w2 ⟨rfl, hb4⟩
    have hb5 := bj hb3 hb4
    have E4 : EnAt w2 w.heap.size h v p := Blok.below E3.out hb4
    clear k0 k1 k2 f0 f1 f2 hb4 hb3 E3 hb hw1'
    obtain ⟨k0, k1, k2, f0, f1, f2⟩ := E4.facts
    go_wp2
    first
    | exact bodyPost_ret (v := .tuple #[entB ⟨0, 0, 0⟩, .bool false]) (by simp [results, Tryz.results58, go_sem, k0, k1, k2]) rfl ⟨rfl, low3 hb5 (Nat.le_refl _) _ _ _⟩
    | exact bodyPost_ret (v := .tuple #[entB ⟨h, v, p⟩, .bool true]) (by simp [results, Tryz.results58, go_sem, k0, k1, k2]) rfl ⟨rfl, low3 hb5 (Nat.le_refl _) _ _ _⟩
theorem eget_any (s : ByteArray) (w : World) (hs : s.size ≤ maxLen) :
    Calls Tryz.prog 58 #[.string s] w fun e w' => e = .returned (.tuple #[entB (enG s), .bool (enOk s)]) ∧ Below w.heap.size w w' := by
  by_cases hz : s.size = 24
  · exact eget_long s w hz
  · have h := en_size hz
    rw [enG_no h, h]
    exact eget_short s w hs hz
end Go.Proofs.YtmbhafabphogdaaGreat

/- EntPut -/
namespace Go.Proofs.YtmbhafabphogdaaGreat
open Go.RowKit
set_option linter.unusedVariables false

theorem kcell {W0 W : World} {p : Addr} {v : Value} (h : Below W0.heap.size W0 W) (hp : p.block < W0.heap.size) (hc : W0.cell? p = some v) : W.cell? p = some v := (h.cell hp).trans hc
/-- What is held while the three numbers are put. -/
def PutHeld (w1 : World) (b h v p : Nat) (W : World) : Prop := Below w1.heap.size w1 W ∧ W.cell? ⟨b, 0, none⟩ = some (.int .u64 (h : Nat)) ∧ W.cell? ⟨b, 1, none⟩ = some (.int .i64 (v : Nat)) ∧ W.cell? ⟨b, 2, none⟩ = some (.int .i64 (p : Nat))
theorem put_held {f : Nat} {w1 : World} {b h v p n : Nat} (hn : n < 18446744073709551616) (hp : ∀ W, Calls Tryz.prog f #[.int .u64 (n : Nat), .int .i64 8] W fun e w' => e = .returned (.string (bs (be 8 n))) ∧ Below W.heap.size W w') (W : World)
    (hS : Below w1.heap.size w1 W ∧ W.cell? ⟨b, 0, none⟩ = some (.int .u64 (h : Nat)) ∧ W.cell? ⟨b, 1, none⟩ = some (.int .i64 (v : Nat)) ∧ W.cell? ⟨b, 2, none⟩ = some (.int .i64 (p : Nat))) :
    Calls Tryz.prog f #[.int .u64 (n : Nat), .int .i64 8] W fun e w' => e = .returned (.string (bs (be 8 n))) ∧ Below w1.heap.size w1 w' := (hp W).mono fun e w' ⟨he, hb⟩ => ⟨he, bj hS.1 hb⟩

theorem put_no (x : EntS) (w : World) (hm : mayE x = false) :
    Calls Tryz.prog 71 #[entB x] w fun e w' => e = .returned (.string (putE x)) ∧ Below w.heap.size w w' := by
  have HM := fun W => may_any x W
  rw [hm] at HM
  rw [en_put_no hm]
  have HM2 := Lib.hid HM
  obtain ⟨h, v, p⟩ := x
  clear HM hm
  go_enter Tryz.func71, Tryz.ntmps71
  go_wp2_with fail
  refine (HM2.out _).mono ?_
  rintro e w1 ⟨rfl, hb1⟩
  go_wp2
  go_ret
  exact ⟨rfl, ((Below.refl _ _).alloc (Nat.le_refl _) _).trans (hb1.mono (by simp))⟩

set_option maxHeartbeats 1600000 in
set_option maxRecDepth 100000 in
theorem put_yes (h v p : Nat) (w : World) (hh : h < 18446744073709551616) (hv : v < 9223372036854775808) (hp : p < 9223372036854775808) :
    Calls Tryz.prog 71 #[entB ⟨h, (v : Nat), (p : Nat)⟩] w fun e w' => e = .returned (.string (putE ⟨h, (v : Nat), (p : Nat)⟩)) ∧ Below w.heap.size w w' := by
  have hm : mayE ⟨h, (v : Nat), (p : Nat)⟩ = true := decide_eq_true ⟨by show (0 : Int) ≤ (v : Int); omega, by show (0 : Int) ≤ (p : Int); omega⟩
  have HM := fun W => may_any ⟨h, (v : Nat), (p : Nat)⟩ W
  rw [hm] at HM
  have HM2 := Lib.hid HM
  have HP1 := Lib.hid fun W => put_some h 8 W (by omega) (by omega) hh
  have HP2 := Lib.hid fun W => put_some v 8 W (by omega) (by omega) (by omega)
  have HP3 := Lib.hid fun W => put_some p 8 W (by omega) (by omega) (by omega)
  have HH := Lib.hid (And.intro hh (And.intro hv hp))
  have s1 : (bs (be 8 h)).size = 8 := by rw [bs_size, be_length]
  have s2 : (bs (be 8 v)).size = 8 := by rw [bs_size, be_length]
  have s3 : (bs (be 8 p)).size = 8 := by rw [bs_size, be_length]
  have e : putE ⟨h, (v : Nat), (p : Nat)⟩ = bs (be 8 h) ++ bs (be 8 v) ++ bs (be 8 p) := by
    unfold putE
    rw [if_pos hm, bs_append, bs_append]
    unfold putL
    rw [List.append_assoc]
    rfl
  have a1 : ∀ w : World, (Op.stringOp .add (bs (be 8 h)) (bs (be 8 v))).run Tryz.prog w = .ok (.string (bs (be 8 h) ++ bs (be 8 v))) w := fun w => run_string_add_sum (P := Tryz.prog) (w := w) _ _ (by omega)
  have s4 : (bs (be 8 h) ++ bs (be 8 v)).size = 16 := by rw [ByteArray.size_append, s1, s2]
  have a2 : ∀ w : World, (Op.stringOp .add (bs (be 8 h) ++ bs (be 8 v)) (bs (be 8 p))).run Tryz.prog w = .ok (.string (putE ⟨h, (v : Nat), (p : Nat)⟩)) w := fun w => by rw [e]; exact run_string_add_sum (P := Tryz.prog) (w := w) _ _ (by omega)
  generalize putE ⟨h, (v : Nat), (p : Nat)⟩ = X at *
  clear e HM hm
  go_enter Tryz.func71, Tryz.ntmps71
  go_wp2_with fail
  refine (HM2.out _).mono ?_
  rintro e w1 ⟨rfl, hb1⟩
  have hz1 := hb1.size
  rw [World.size_alloc] at hz1
  have k0 : w1.cell? ⟨w.heap.size, 0, none⟩ = some (.int .u64 (h : Nat)) := kcell hb1 (by simp) (World.cell?_alloc_at _ _ _ _ rfl)
  have k1 : w1.cell? ⟨w.heap.size, 1, none⟩ = some (.int .i64 (v : Nat)) := kcell hb1 (by simp) (World.cell?_alloc_at _ _ _ _ rfl)
  have k2 : w1.cell? ⟨w.heap.size, 2, none⟩ = some (.int .i64 (p : Nat)) := kcell hb1 (by simp) (World.cell?_alloc_at _ _ _ _ rfl)
  have hbw : Below w.heap.size w w1 := ((Below.refl _ _).alloc (Nat.le_refl _) _).trans (hb1.mono (by simp))
  have HS : Hid (∀ W, Below w1.heap.size w1 W → Below w1.heap.size w1 W ∧ W.cell? ⟨w.heap.size, 0, none⟩ = some (.int .u64 (h : Nat)) ∧ W.cell? ⟨w.heap.size, 1, none⟩ = some (.int .i64 (v : Nat)) ∧ W.cell? ⟨w.heap.size, 2, none⟩ = some (.int .i64 (p : Nat))) :=
    Lib.hid fun W hW => ⟨hW, kcell hW (show w.heap.size < _ by omega) k0, kcell hW (show w.heap.size < _ by omega) k1, kcell hW (show w.heap.size < _ by omega) k2⟩
  have C1 := Lib.hid (put_held (w1 := w1) (b := w.heap.size) (h := h) (v := v) (p := p) HH.out.1 HP1.out)
  have C2 := Lib.hid (put_held (w1 := w1) (b := w.heap.size) (h := h) (v := v) (p := p) (n := v) (by have := HH.out; omega) HP2.out)
  have C3 := Lib.hid (put_held (w1 := w1) (b := w.heap.size) (h := h) (v := v) (p := p) (n := p) (by have := HH.out; omega) HP3.out)
  generalize bs (be 8 h) ++ bs (be 8 v) = X12 at *
  generalize bs (be 8 h) = X1 at *
  generalize bs (be 8 v) = X2 at *
  generalize bs (be 8 p) = X3 at *
  have q1 : IntKind.u64.wrap ((v : Nat) : Int) = (v : Nat) := IntWalk.u64_in _ ⟨by omega, by omega⟩
  have q2 : IntKind.u64.wrap ((p : Nat) : Int) = (p : Nat) := IntWalk.u64_in _ ⟨by omega, by omega⟩
  clear hb1 HP1 HP2 HP3 HM2 s1 s2 s3 s4
  go_wp2_with fail
  go_region_held3 (fun W => Below w1.heap.size w1 W ∧ W.cell? ⟨w.heap.size, 0, none⟩ = some (.int .u64 (h : Nat)) ∧ W.cell? ⟨w.heap.size, 1, none⟩ = some (.int .i64 (v : Nat)) ∧ W.cell? ⟨w.heap.size, 2, none⟩ = some (.int .i64 (p : Nat)))
    (first | assumption | exact HS.out _ (by assumption) | exact HS.out _ (Below.refl _ _).drew | fail) (first
    | (go_at_call 70; ((with_reducible refine (C1.out _ (by assumption)).mono ?_); rintro e w' ⟨rfl, hb⟩))
    | (go_at_call 70; ((with_reducible refine (C2.out _ (by assumption)).mono ?_); rintro e w' ⟨rfl, hb⟩))
    | (go_at_call 70; ((with_reducible refine (C3.out _ (by assumption)).mono ?_); rintro e w' ⟨rfl, hb⟩))
    | fail)
  all_goals
    go_wp2
    go_ret
    exact ⟨rfl, hbw.trans ((And.left (‹Below w1.heap.size w1 _ ∧ _›)).mono hbw.size)⟩
theorem ent_nat {x : EntS} (hx : EntOk x) (hm : mayE x = true) : ∃ v p : Nat, x = ⟨x.h, (v : Nat), (p : Nat)⟩ ∧ v < 9223372036854775808 ∧ p < 9223372036854775808 := by
  have h := of_decide_eq_true hm
  obtain ⟨h1, h2, h3, h4, h5⟩ := hx
  exact ⟨x.v.toNat, x.p.toNat, entS_ext rfl (by show x.v = ((x.v.toNat : Nat) : Int); omega) (by show x.p = ((x.p.toNat : Nat) : Int); omega), by omega, by omega⟩
theorem eput_any (x : EntS) (w : World) (hx : EntOk x) :
    Calls Tryz.prog 71 #[entB x] w fun e w' => e = .returned (.string (putE x)) ∧ Below w.heap.size w w' := by
  cases hm : mayE x with
  | false => exact put_no x w hm
  | true =>
    obtain ⟨v, p, e, hv, hp⟩ := ent_nat hx hm
    rw [e]
    exact put_yes x.h v p w hx.h hv hp
end Go.Proofs.YtmbhafabphogdaaGreat

/- EntRef -/
namespace Go.Proofs.YtmbhafabphogdaaGreat
open Go.RowKit
set_option linter.unusedVariables false

end Go.Proofs.YtmbhafabphogdaaGreat
