/- The entries of bytes: the document's Get of tables. -/
import Derived.Test.YtifhiiokgpbhmaaTbGet
import Derived.Test.YtifhiiokgpbhmaaTbPutRef
import Derived.Test.YtifhiiokgpbhmaaEntGetRef
namespace Go.Proofs.Ytifhiiokgpbhmaa
open Go.RowKit Go.Shelf
set_option linter.unusedVariables false

theorem got_ok (s : ByteArray) : EntOk (enG s) := by
  unfold enG
  split
  · rename_i h
    have h3 := of_decide_eq_true h
    have := getS_lt (s.extract 0 8)
    exact ⟨this, by show (-9223372036854775808 : Int) ≤ ((enV s : Nat) : Int); omega, by show ((enV s : Nat) : Int) ≤ 9223372036854775807; omega, by show (-9223372036854775808 : Int) ≤ ((enP s : Nat) : Int); omega, by show ((enP s : Nat) : Int) ≤ 9223372036854775807; omega⟩
  · exact ⟨by decide, by decide, by decide, by decide, by decide⟩
theorem got_oks (s : ByteArray) (n : Nat) : ∀ x ∈ tbGot s n, EntOk x := by
  intro x hx
  unfold tbGot at hx
  obtain ⟨i, hi, rfl⟩ := List.mem_map.1 hx
  exact got_ok _
set_option maxHeartbeats 4000000 in
set_option maxRecDepth 100000 in
theorem tgetr_any (s : ByteArray) (w : World) (hs : s.size ≤ 900000) :
    Calls Try.prog 10 #[.string s] w (TgEnd w s) := by
  have hdoc := tg_no_doc (s := s) (by omega)
  by_cases h12 : s.size < 12
  · have HN := Lib.hid fun (w' : World) (hb : Below w.heap.size w w') => tg_none (hdoc (fun h => by omega)) rfl hb
    have t1 : decide ((s.size : Int) < 12) = true := decide_eq_true (by omega)
    have t2 : (s.size : Int) < 12 := by omega
    clear hdoc
    go_enter Try.func10, Try.ntmps10
    go_wp2
    go_ret2
    exact HN.out _ (Below.refl _ _)
  obtain ⟨d, hd⟩ : ∃ d : Nat, s.size = d + 12 := ⟨s.size - 12, by omega⟩
  have t1 : decide ((s.size : Int) < 12) = false := decide_eq_false (by omega)
  have t2 : (12 : Int) ≤ (s.size : Int) := by omega
  have t3 : 12 ≤ s.size := by omega
  have t4 : (s.size : Int) - 12 = (d : Int) := by omega
  by_cases hmod : d % 24 = 0
  case neg =>
    have HN := Lib.hid fun (w' : World) (hb : Below w.heap.size w w') => tg_none (hdoc (fun h => by omega)) rfl hb
    have m1 : ((d : Int) % 24 != 0) = true := by rw [bne_iff_ne]; omega
    have m2 : ((d : Int).tmod 24 != 0) = true := by rw [Int.tmod_eq_emod_of_nonneg (by omega)]; exact m1
    clear hdoc h12 hmod
    go_enter Try.func10, Try.ntmps10
    go_wp2
    go_ret2
    exact HN.out _ (Below.refl _ _)
  obtain ⟨n, hn⟩ : ∃ n, n = d / 24 := ⟨_, rfl⟩
  have hn2 : (s.size - 12) / 24 = n := by omega
  have hsz : s.size = 12 + 24 * n := by omega
  have m1 : ((d : Int) % 24 != 0) = false := by rw [bne_eq_false_iff_eq]; omega
  have m2 : ((d : Int).tmod 24 != 0) = false := by rw [Int.tmod_eq_emod_of_nonneg (by omega)]; exact m1
  have htg := tg_doc (s := s) (by omega)
  rw [hn2] at hdoc htg
  have HNo : Hid ((∃ i, i < n ∧ enOk (tbPiece s i) = false) ∨ tbOk (tbGot s n) = false ∨ tbB (tbGot s n) ≠ s → ∀ w' : World, Below w.heap.size w w' → TgEnd w s (.returned (.tuple #[.slice none 0 0, .int .i64 90])) w') := Lib.hid fun h w' hb => tg_none (hdoc (fun h2 => by
    obtain ⟨-, -, h3, h4, h5⟩ := h2
    rcases h with ⟨i, hi, h6⟩ | h6 | h6
    · rw [h3 i hi] at h6; cases h6
    · rw [h4] at h6; cases h6
    · exact h6 h5)) rfl hb
  have HYes : Hid ((∀ i, i < n → enOk (tbPiece s i) = true) → tbOk (tbGot s n) = true → tbB (tbGot s n) = s → ∀ (A : Option Addr) c (w' : World), EntRow w' w.heap.size (.slice A n c) (tbGot s n) → Below w.heap.size w w' → TgEnd w s (.returned (.tuple #[.slice A n c, .int .i64 0])) w') := Lib.hid fun h1 h2 h3 A c w' hr hb => by
    have hok := htg.2 ⟨by omega, by omega, h1, h2, h3⟩
    obtain ⟨e1, e2⟩ := tg_yes hok
    have e3 : tbN s = n := by have := (tgOk_iff.1 hok).2.2.2.1; omega
    unfold TgEnd
    rw [e1, e2, e3, tbGot_length]
    exact ⟨A, c, rfl, hr, hb⟩
  have HTL := Lib.hid fun k => tbGot_length s k
  have HTS := Lib.hid fun k => tbGot_succ s k
  have HTO := Lib.hid fun k => got_oks s k
  clear hdoc htg h12 hmod hn hn2
  have hs2 : n ≤ 40000 := by omega
  have HSZ := Lib.hid hsz
  have HD := Lib.hid hd
  go_enter Try.func10, Try.ntmps10
  go_wp2
  go_loopw [4, 5] (fun u i wr => ∃ k a : Nat, k ≤ n ∧ a = 8 + 24 * k ∧ i = .int .i64 a ∧ (∀ i, i < k → enOk (tbPiece s i) = true) ∧ (∃ A c, u = .slice A k c ∧ EntRow wr w.heap.size (.slice A k c) (tbGot s k)) ∧ Below w.heap.size w wr) (fun _ i _ => 24 * n + 100 - (intOf i).toNat)
  case atStart => exact ⟨0, 8, Nat.zero_le _, rfl, rfl, fun i h => absurd h (by omega), ⟨none, 0, rfl, EntRow.nil _ _⟩, Below.refl _ _⟩
  case round =>
    obtain ⟨k, a, hk, ha, rfl, hall, ⟨A1, c1, rfl, hrow⟩, hbel⟩ := hrel
    have HA := Lib.hid hall
    have HR := Lib.hid hrow
    clear hall hrow m1 m2
    by_cases hlt : k < n
    · have s1 : (a : Int) + 28 ≤ (s.size : Int) := by omega
      have s2 : a + 28 ≤ s.size := by omega
      have x1 : (a : Int) ≤ (a : Int) + 24 := by omega
      have x2 : (a : Int) + 24 ≤ (s.size : Int) := by omega
      have x4 : a + 24 ≤ s.size := by omega
      have eP : tbPiece s k = s.extract a (a + 24) := by rw [ha, show 8 + 24 * k + 24 = 32 + 24 * k by omega]; rfl
      have HG := fun W => eget_ref (s.extract a (a + 24)) W (by unfold maxLen; rw [ByteArray.size_extract]; omega)
      have HEP := Lib.hid eP
      have hTS := HTS.out k
      rw [eP] at hTS
      have HAA := Lib.hid ha
      have HBEL := Lib.hid hbel
      have w1 : IntKind.i64.wrap ((a : Int) + 28) = (a : Int) + 28 := IntWalk.i64_in _ ⟨by omega, by omega⟩
      have w2 : IntKind.i64.wrap ((a : Int) + 24) = (a : Int) + 24 := IntWalk.i64_in _ ⟨by omega, by omega⟩
      clear eP ha hsz hd t4
      cases hok : enOk (s.extract a (a + 24)) with
      | false =>
        rw [hok] at HG
        have HG2 := Lib.hid HG
        have HN := Lib.hid (HNo.out (Or.inl ⟨k, hlt, by rw [HEP.out]; exact hok⟩))
        clear HG hok hTS hbel
        generalize enG (s.extract a (a + 24)) = x at *
        obtain ⟨xh, xv, xp⟩ := x
        go_wp2_with fail
        refine (HG2.out _).mono ?_
        rintro e w3 ⟨rfl, hb3⟩
        go_wp2
        go_ret2
        exact HN.out _ ((bj HBEL.out hb3).alloc (bj HBEL.out hb3).size _)
      | true =>
        rw [hok] at HG
        have HG2 := Lib.hid HG
        have HALL := Lib.hid (show ∀ i, i < k + 1 → enOk (tbPiece s i) = true from fun i hi => by
          rcases Nat.lt_or_ge i k with c | c
          · exact HA.out i c
          · obtain rfl : i = k := by omega
            rw [HEP.out]
            exact hok)
        clear HG hok hbel
        generalize enG (s.extract a (a + 24)) = x at *
        have HTS2 := Lib.hid hTS
        clear hTS
        obtain ⟨xh, xv, xp⟩ := x
        go_wp2_with fail
        refine (HG2.out _).mono ?_
        rintro e w3 ⟨rfl, hb3⟩
        have B3 := bj HBEL.out hb3
        have B4 := B3.alloc B3.size (.cells #[.int .u64 (xh : Nat), .int .i64 xv, .int .i64 xp] 36)
        have B5 := B4.alloc B4.size (.cells #[.int .u64 (xh : Nat), .int .i64 xv, .int .i64 xp] 36)
        have hb5 := (hb3.alloc hb3.size (.cells #[.int .u64 (xh : Nat), .int .i64 xv, .int .i64 xp] 36)).alloc (hb3.alloc hb3.size _).size (.cells #[.int .u64 (xh : Nat), .int .i64 xv, .int .i64 xp] 36)
        have hR5 := EntRow.below HR.out hb5 (Nat.le_refl _)
        obtain ⟨A2, c2, w6, r1, r2, r3, r4⟩ := ents_append hR5 (ent_one _ ⟨xh, xv, xp⟩) (by rw [HTL.out]; show k + 1 ≤ _; omega) B5.size 22
        have B6 := B5.trans (grown_below r3 B5.size (EntRow.block HR.out))
        rw [← HTS2.out, HTL.out] at r2
        have R2 := Lib.hid (show EntRow w6 w.heap.size (.slice A2 (k + 1) c2) (tbGot s (k + 1)) from r2)
        rw [HTL.out] at r1
        have r1' : (Builtin.append_ #[22, 22] 22 #[.slice A1 k c1, .slice (some ⟨w3.heap.size + 1, 0, none⟩) 1 1]).run Try.prog ((w3.alloc (.cells #[.int .u64 (xh : Nat), .int .i64 xv, .int .i64 xp] 36)).alloc (.cells #[.int .u64 (xh : Nat), .int .i64 xv, .int .i64 xp] 36)) = .ok (.slice A2 (k + 1) c2) w6 := by
          rw [World.size_alloc] at r1
          exact r1
        have HAP := Lib.hid r1'
        clear r1 r2 r3 r4 r1' hR5 B3 B4 B5 hb3 hb5
        go_wp2_with (first | (at_builtin; refine wpList_append_two rfl _ _ rfl rfl rfl HAP.out ?_) | fail)
        have ha2 := HAA.out
        exact ⟨⟨k + 1, a + 24, by omega, by omega, by go_num, HALL.out, ⟨A2, c2, rfl, R2.out⟩, B6⟩, by simp [intOf]; omega⟩
    · obtain rfl : k = n := by omega
      have s1 : decide ((a : Int) + 28 ≤ (s.size : Int)) = false := decide_eq_false (by omega)
      have w1 : IntKind.i64.wrap ((a : Int) + 28) = (a : Int) + 28 := IntWalk.i64_in _ ⟨by omega, by omega⟩
      have HP := Lib.hid (tputr_any _ (tbGot s k) wr (EntRow.in_ HR.out) (by rw [tbGot_length]; omega) (HTO.out k))
      unfold TbEnd at HP
      have HALL := HA
      have HROW := HR
      have HBEL := Lib.hid hbel
      clear hbel hsz hd t4 ha
      cases hok : tbOk (tbGot s k) with
      | false =>
        obtain ⟨e1, e2⟩ := tb_no hok
        rw [e1, e2] at HP
        have HN := Lib.hid (HNo.out (Or.inr (Or.inl hok)))
        clear e1 e2 hok
        go_wp2_with fail
        refine HP.out.mono ?_
        rintro e w5 ⟨rfl, hb5⟩
        go_wp2
        go_ret2
        exact HN.out _ (bj HBEL.out hb5)
      | true =>
        obtain ⟨e1, e2⟩ := tb_yes hok
        rw [e1, e2] at HP
        by_cases heq : tbB (tbGot s k) = s
        · have HY := Lib.hid (HYes.out HA.out hok heq)
          rw [heq] at HP
          obtain ⟨q1, q2, q3⟩ := ctxt_eq (rfl : s = s)
          clear e1 e2 hok heq
          go_wp2_with fail
          refine HP.out.mono ?_
          rintro e w5 ⟨rfl, hb5⟩
          go_wp2
          go_ret2
          exact HY.out _ _ _ (EntRow.below HR.out hb5 (Nat.le_refl _)) (bj HBEL.out hb5)
        · have HN := Lib.hid (HNo.out (Or.inr (Or.inr heq)))
          obtain ⟨q1, q2, q3⟩ := ctxt_ne heq
          clear e1 e2 hok
          generalize tbB (tbGot s k) = t at *
          have HQ := Lib.hid heq
          clear heq
          go_wp2_with fail
          refine HP.out.mono ?_
          rintro e w5 ⟨rfl, hb5⟩
          go_wp2
          go_ret2
          exact HN.out _ (bj HBEL.out hb5)
end Go.Proofs.Ytifhiiokgpbhmaa
