/- A table's bytes: the document's Put. -/
import Derived.Test.YtifhiiokgpbhmaaTbPut
import Derived.Test.YtifhiiokgpbhmaaEntLastRef
import Derived.Test.YtifhiiokgpbhmaaSealOneRef
namespace Go.Proofs.Ytifhiiokgpbhmaa
open Go.RowKit Go.Shelf
set_option linter.unusedVariables false

set_option maxHeartbeats 4000000 in
set_option maxRecDepth 100000 in
theorem tputr_any (v : Value) (l : List EntS) (w : World) (hl : EntsIn w v l) (hn : l.length ≤ 40000) (hx : ∀ x ∈ l, EntOk x) :
    Calls Try.prog 8 #[v] w (TbEnd w l) := by
  have HSR := Lib.hid (show ∀ W, Below w.heap.size w W → Calls Try.prog 24 #[v] W fun e w' => e = .returned (.bool (sortedE l)) ∧ Below W.heap.size W w' from fun W hW => sortedr_any v l W (hl.below hW (Nat.le_refl _)) (by omega))
  obtain ⟨A, off, cap, rfl, -, hcell⟩ := hl.form
  have HC := Lib.hid hcell
  have HX := Lib.hid (show ∀ i x, l[i]? = some x → EntOk x from fun i x h => hx x (List.mem_of_getElem? h))
  have HY := Lib.hid (show (0 < l.length → sortedE l = true) → (∀ x ∈ l, mayE x = true) → tbS l = sealS (tbBody l) ∧ tbE l = 0 from fun hs h => tb_yes (tbOk_iff.2 ⟨by
    rcases Nat.eq_zero_or_pos l.length with c | c
    · rw [List.length_eq_zero_iff.1 c]; rfl
    · exact hs c, h⟩))
  have HNo := Lib.hid (show ∀ x ∈ l, mayE x = false → tbS l = ByteArray.empty ∧ tbE l = 2 from fun x h1 h2 => tb_no (tbOk_may h1 h2))
  have HNs := Lib.hid (show sortedE l = false → tbS l = ByteArray.empty ∧ tbE l = 2 from fun h => tb_no (tbOk_sorted h))
  obtain ⟨n, hnn⟩ : ∃ n, n = l.length := ⟨_, rfl⟩
  have HN := Lib.hid hnn
  have HB : Hid (tbBody l = bs (tbHead n ++ entsL (l.take n))) := Lib.hid (by rw [hnn, List.take_length]; rfl)
  have HZ := Lib.hid (show (tbBody l).size = 8 + 24 * n by rw [hnn]; exact tbBody_size l)
  unfold TbEnd
  rw [← hnn] at hn HY HSR ⊢
  clear hl hcell hx hnn
  generalize tbS l = S at *
  generalize tbE l = E at *
  generalize tbBody l = T at *
  generalize sortedE l = so at *
  have HP := Lib.hid fun W => putr_some n 4 W (by omega) (by omega) (by omega)
  have ha : ∀ w : World, (Op.stringOp .add ⟨#[112, 116, 97, 98]⟩ (bs (be 4 n))).run Try.prog w = .ok (.string (bs (tbHead n))) w := fun w => by
    rw [show bs (tbHead n) = ⟨#[112, 116, 97, 98]⟩ ++ bs (be 4 n) by unfold tbHead; rw [← bs_append]; rfl]
    exact run_string_add_sum (P := Try.prog) (w := w) _ _ (by rw [bs_size, be_length]; decide)
  have hw : IntKind.u64.wrap (n : Int) = (n : Int) := by rw [IntKind.wrap_u64]; omega
  have HZK := Lib.hid (show ∀ k, k ≤ n → (bs (tbHead n ++ entsL (l.take k))).size ≤ 8 + 24 * k from fun k hk => by rw [bs_size, List.length_append, tbHead_length, entsL_length, List.length_take]; omega)
  have HTK := Lib.hid (show ∀ k x, l[k]? = some x → bs (tbHead n ++ entsL (l.take k)) ++ bs (putL x) = bs (tbHead n ++ entsL (l.take (k + 1))) from fun k x h => by rw [bs_append, entsL_take h, List.append_assoc])
  have H0 := Lib.hid (show bs (tbHead n) = bs (tbHead n ++ entsL (l.take 0)) by rw [List.take_zero]; unfold entsL; rw [List.flatMap_nil, List.append_nil])
  generalize bs (be 4 n) = R at *
  generalize bs (tbHead n) = H at *
  go_enter Try.func8, Try.ntmps8
  go_wp2_with fail
  refine (HP.out _).mono ?_
  rintro e w2 ⟨rfl, hb2⟩
  clear hw HP
  go_wp2
  go_loopw [4, 5] (fun u i wr => ∃ k : Nat, k ≤ n ∧ u = .string (bs (tbHead n ++ entsL (l.take k))) ∧ i = .int .i64 k ∧ (∀ i x, i < k → l[i]? = some x → mayE x = true) ∧ (0 < k → so = true) ∧ Below w.heap.size w wr) (fun _ i _ => n - (intOf i).toNat)
  case atStart => exact ⟨0, Nat.zero_le _, by rw [H0.out], rfl, fun i x h => absurd h (by omega), fun h => absurd h (by omega), hb2⟩
  case round =>
    obtain ⟨k, hk, rfl, rfl, hall, hso, hbel⟩ := hrel
    clear hb2 ha
    have HA := Lib.hid hall
    have HSO := Lib.hid hso
    clear hall hso
    by_cases hlt : k < n
    · have s1 : (k : Int) < (n : Int) := by omega
      obtain ⟨x, hxk⟩ : ∃ x, l[k]? = some x := ⟨_, List.getElem?_eq_getElem (by rw [← HN.out]; omega)⟩
      obtain ⟨b, rfl, hbk, d0, d1, d2⟩ := HC.out k x hxk
      have c0 := (hbel.cell (p := ⟨b, off + k * 3, none⟩) hbk).trans d0
      have c1 := (hbel.cell (p := ⟨b, off + k * 3 + 1, none⟩) hbk).trans d1
      have c2 := (hbel.cell (p := ⟨b, off + k * 3 + 2, none⟩) hbk).trans d2
      have HE := fun W => eput_ref x W (HX.out k x hxk)
      have hz3 := HZK.out k hk
      have HBEL := Lib.hid hbel
      cases hm : mayE x with
      | false =>
        rw [en_put_no hm] at HE
        have HE2 := Lib.hid HE
        obtain ⟨r1, r2⟩ := HNo.out x (List.mem_of_getElem? hxk) hm
        clear HE d0 d1 d2 hbk hxk hz3 hm hbel
        subst r1
        subst r2
        generalize bs (tbHead n ++ entsL (l.take k)) = Z at *
        obtain ⟨xh, xv, xp⟩ := x
        simp only at c0 c1 c2
        go_wp2_with fail
        refine (HE2.out _).mono ?_
        rintro e w5 ⟨rfl, hb5⟩
        go_wp2
        go_ret2
        exact ⟨rfl, bj HBEL.out hb5⟩
      | true =>
        have hM : ∀ i y, i < k + 1 → l[i]? = some y → mayE y = true := fun i y hi hy => by
          rcases Nat.lt_or_ge i k with c | c
          · exact HA.out i y c hy
          · obtain rfl : i = k := by omega
            rw [hxk] at hy
            rw [← Option.some.inj hy]
            exact hm
        have hz := putE_size hm
        have eT : putE x = bs (putL x) := by rw [← bs_data (putE x), putE_list hm]
        have HTN := Lib.hid (HTK.out k x hxk)
        rw [← eT] at HTN
        have HMM := Lib.hid hM
        obtain ⟨v2, v3⟩ := ne_nil_of_24 hz
        clear hM eT hm d0 d1 d2 hbk hxk hbel
        generalize putE x = Y at *
        have HE2 := Lib.hid HE
        clear HE
        have HCK := Lib.hid (show bs (tbHead n ++ entsL (l.take k)) = bs (tbHead n ++ entsL (l.take k)) from rfl)
        have hadd : ∀ w : World, (Op.stringOp .add (bs (tbHead n ++ entsL (l.take k))) Y).run Try.prog w = .ok (.string (bs (tbHead n ++ entsL (l.take k)) ++ Y)) w := fun w => run_string_add_sum (P := Try.prog) (w := w) _ _ (by omega)
        have HTN2 := HTN.out
        generalize bs (tbHead n ++ entsL (l.take k)) = Z at *
        rw [HTN2] at hadd
        generalize hZ2 : bs (tbHead n ++ entsL (l.take (k + 1))) = Z2 at *
        have HZ2 := Lib.hid hZ2
        obtain ⟨xh, xv, xp⟩ := x
        simp only at c0 c1 c2
        clear hz hz3 HTN HTN2 hZ2
        cases so with
        | false =>
          obtain ⟨r1, r2⟩ := HNs.out rfl
          subst r1
          subst r2
          go_wp2_with fail
          refine (HE2.out _).mono ?_
          rintro e w5 ⟨rfl, hb5⟩
          have hb6 := bj HBEL.out hb5
          go_wp2_with fail
          refine (HSR.out _ hb6).mono ?_
          rintro e w6 ⟨rfl, hb7⟩
          go_wp2
          go_ret2
          exact ⟨rfl, bj hb6 hb7⟩
        | true =>
          go_wp2_with fail
          refine (HE2.out _).mono ?_
          rintro e w5 ⟨rfl, hb5⟩
          have hb6 := bj HBEL.out hb5
          go_wp2_with fail
          refine (HSR.out _ hb6).mono ?_
          rintro e w6 ⟨rfl, hb7⟩
          go_wp2
          go_roundw
          case rel => exact ⟨k + 1, by omega, by rw [HZ2.out], by go_num, HMM.out, by simp, bj hb6 hb7⟩
          case measure => simp [intOf]; omega
    · obtain rfl : k = n := by omega
      have s1 : ¬ (k : Int) < (k : Int) := by omega
      obtain ⟨r1, r2⟩ := HY.out HSO.out fun x hx => by
        obtain ⟨i, hi⟩ := List.getElem?_of_mem hx
        exact HA.out i x (by have := (List.getElem?_eq_some_iff.1 hi).1; rw [← HN.out] at this; exact this) hi
      rw [← HB.out]
      have HQ := Lib.hid fun W => seal_ref T W (by have := HZ.out; unfold maxLen; omega)
      clear HB
      subst r1
      subst r2
      go_wp2_with fail
      refine (HQ.out _).mono ?_
      rintro e w7 ⟨rfl, hb7⟩
      go_wp2
      go_ret2
      exact ⟨rfl, bj hbel hb7⟩
end Go.Proofs.Ytifhiiokgpbhmaa
