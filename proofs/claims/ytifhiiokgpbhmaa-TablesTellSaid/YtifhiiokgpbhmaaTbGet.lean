/- The entries of bytes: the program's Get of tables. -/
import Derived.Test.YtifhiiokgpbhmaaTbSize
import Derived.Test.YtifhiiokgpbhmaaEntGet
import Derived.Test.YtifhiiokgpbhmaaEntSortedOwn
import Derived.Laws.MakeOwn
namespace Go.Proofs.Ytifhiiokgpbhmaa
open Go.RowKit Go.Shelf
set_option linter.unusedVariables false

/-- An entry of a row of a call's own is another one. -/
theorem entFlat_set : ∀ (l : List EntS) (k : Nat) (x : EntS), k < l.length → entFlat (l.set k x) = (((entFlat l).set (k * 3) (.int .u64 (x.h : Nat))).set (k * 3 + 1) (.int .i64 x.v)).set (k * 3 + 2) (.int .i64 x.p)
  | [], k, x, h => absurd h (Nat.not_lt_zero _)
  | y :: l, 0, x, _ => rfl
  | y :: l, k + 1, x, h => by
    have ih := entFlat_set l k x (by simpa using h)
    have e : (k + 1) * 3 = k * 3 + 3 := by omega
    unfold entFlat at *
    rw [List.set_cons_succ, List.flatMap_cons, List.flatMap_cons, ih, e]
    rfl
theorem EntRow.put {w : World} {base g n cap k : Nat} {l : List EntS} (h : EntRow w base (.slice (some ⟨g, 0, none⟩) n cap) l) (hn : n = l.length) (hk : k < n) (x : EntS) :
    EntRow (((w.setCell ⟨g, k * 3, none⟩ (.int .u64 (x.h : Nat))).setCell ⟨g, k * 3 + 1, none⟩ (.int .i64 x.v)).setCell ⟨g, k * 3 + 2, none⟩ (.int .i64 x.p)) base (.slice (some ⟨g, 0, none⟩) n cap) (l.set k x) := by
  subst hn
  have h1 := (h.stored (k * 3) (.int .u64 (x.h : Nat))).1
  have h2 := (h1.stored (k * 3 + 1) (.int .i64 x.v)).1
  have h3 := (h2.stored (k * 3 + 2) (.int .i64 x.p)).1
  unfold EntRow
  rw [entFlat_set l k x hk, List.length_set]
  exact h3
theorem EntRow.at_ {w : World} {base g n cap k : Nat} {l : List EntS} (h : EntRow w base (.slice (some ⟨g, 0, none⟩) n cap) l) (hn : n = l.length) (hk : k < n) :
    (∃ x : EntS, w.cell? ⟨g, k * 3, none⟩ = some (.int .u64 (x.h : Nat)) ∧ w.cell? ⟨g, k * 3 + 1, none⟩ = some (.int .i64 x.v) ∧ w.cell? ⟨g, k * 3 + 2, none⟩ = some (.int .i64 x.p)) ∧
    w.frozen? ⟨g, k * 3, none⟩ = false ∧ w.frozen? ⟨g, k * 3 + 1, none⟩ = false ∧ w.frozen? ⟨g, k * 3 + 2, none⟩ = false := by
  subst hn
  have hx := List.getElem?_eq_getElem hk
  refine ⟨⟨l[k], ?_, ?_, ?_⟩, h.frozenAt _, h.frozenAt _, h.frozenAt _⟩
  · exact (h.cellAt (k * 3) (by omega)).trans (entFlat_at l k _ hx 0 (by omega))
  · exact (h.cellAt (k * 3 + 1) (by omega)).trans (entFlat_at l k _ hx 1 (by omega))
  · exact (h.cellAt (k * 3 + 2) (by omega)).trans (entFlat_at l k _ hx 2 (by omega))
theorem EntRow.down {w : World} {base base' : Nat} {v : Value} {l : List EntS} (h : EntRow w base v l) (hb : base' ≤ base) : EntRow w base' v l := by
  refine ⟨h.1, ?_⟩
  rcases h.2 with h0 | ⟨g, cap, cur, hv, hg, r⟩
  · exact Or.inl h0
  · exact Or.inr ⟨g, cap, cur, hv, Nat.le_trans hb hg, r⟩
theorem put3 {w w2 : World} {g i j k : Nat} (h : Below w.heap.size w w2) (hg : w.heap.size ≤ g) (a b c : Value) :
    Below w.heap.size w (((w2.setCell ⟨g, i, none⟩ a).setCell ⟨g, j, none⟩ b).setCell ⟨g, k, none⟩ c) := ((h.setCell hg _).setCell hg _).setCell hg _
/-- What lies there while it is filled. -/
def tbMade (s : ByteArray) (n k : Nat) : List EntS := (List.range n).map fun i => if i < k then enG (tbPiece s i) else ⟨0, 0, 0⟩
theorem tbMade_length (s : ByteArray) (n k : Nat) : (tbMade s n k).length = n := by unfold tbMade; rw [List.length_map, List.length_range]
theorem tbMade_full (s : ByteArray) (n : Nat) : tbMade s n n = tbGot s n := by
  unfold tbMade tbGot
  apply List.map_congr_left
  intro i hi
  rw [if_pos (List.mem_range.1 hi)]
theorem tbMade_at (s : ByteArray) (n k i : Nat) : (tbMade s n k)[i]? = if i < n then some (if i < k then enG (tbPiece s i) else ⟨0, 0, 0⟩) else none := by
  unfold tbMade
  rw [List.getElem?_map]
  by_cases h : i < n
  · rw [List.getElem?_range h, if_pos h]; rfl
  · rw [List.getElem?_eq_none (by rw [List.length_range]; omega), if_neg h]; rfl
theorem tbMade_set (s : ByteArray) {n k : Nat} (hk : k < n) : (tbMade s n k).set k (enG (tbPiece s k)) = tbMade s n (k + 1) := by
  apply List.ext_getElem?
  intro i
  rw [List.getElem?_set, tbMade_length, tbMade_at, tbMade_at]
  by_cases h : k = i
  · subst h
    rw [if_pos rfl, if_pos hk, if_pos hk, if_pos (Nat.lt_succ_self _)]
  · rw [if_neg h]
    by_cases h2 : i < k
    · rw [if_pos h2, if_pos (show i < k + 1 by omega)]
    · rw [if_neg h2, if_neg (show ¬ i < k + 1 by omega)]
theorem tb_zeros (s : ByteArray) : ∀ n, entFlat (tbMade s n 0) = (madeCells #[Value.int .u64 0, .int .i64 0, .int .i64 0] (n * 3)).toList := by
  intro n
  apply List.ext_getElem?
  intro j
  by_cases hj : j < n * 3
  · have hi : j / 3 < n := by omega
    have h1 := entFlat_at (tbMade s n 0) (j / 3) ⟨0, 0, 0⟩ (by rw [tbMade_at, if_pos hi, if_neg (Nat.not_lt_zero _)]) (j % 3) (by omega)
    rw [show j / 3 * 3 + j % 3 = j by omega] at h1
    rw [h1]
    unfold madeCells entCells
    rw [Array.toList_map, List.getElem?_map, Array.toList_range, List.getElem?_range hj]
    have h3 : j % 3 < 3 := by omega
    show _ = some ((#[Value.int .u64 0, .int .i64 0, .int .i64 0] : Array Value)[j % 3]!)
    generalize j % 3 = r at *
    match r, h3 with
    | 0, _ => rfl
    | 1, _ => rfl
    | 2, _ => rfl
  · rw [List.getElem?_eq_none (by rw [entFlat_length, tbMade_length]; omega), List.getElem?_eq_none (by rw [Array.length_toList, size_madeCells]; omega)]
theorem tb_make (s : ByteArray) (n : Nat) (hn : n ≤ 1000000) : ∃ Z : Array Value, (∀ w : World, (Instr.makeSlice 22 (.int .i64 (n : Nat)) (.int .i64 (n : Nat))).run Try.prog w = .ok (.slice (some ⟨w.heap.size, 0, none⟩) n n) (w.alloc (.cells Z 36))) ∧
    ∀ w : World, EntRow (w.alloc (.cells Z 36)) w.heap.size (.slice (some ⟨w.heap.size, 0, none⟩) n n) (tbMade s n 0) := by
  obtain ⟨i0, hi, hz0, hz1, hz2⟩ := info_parts info_ent
  refine ⟨madeCells #[Value.int .u64 0, .int .i64 0, .int .i64 0] (n * 3), fun w => ?_, fun w => ?_⟩
  · have h := run_makeSlice (P := Try.prog) w 22 36 i0 _ Try.underlying22 hi hz0 .i64 .i64 (n : Int) (n : Int) (by omega) (Int.le_refl _) (by rw [hz1]; omega) (by rw [hz2]; omega) (by omega)
    rw [hz1, Int.toNat_natCast] at h
    exact h
  · have h := World.ownsRow_lit (base := w.heap.size) (e := 36) (size := 3) w (madeCells #[Value.int .u64 0, .int .i64 0, .int .i64 0] (n * 3)) n (Nat.le_refl _) (by unfold maxLen; omega) (size_madeCells _ _)
    unfold EntRow
    rw [tbMade_length, tb_zeros]
    exact h
/-- What Get tells. -/
def TgEnd (w : World) (s : ByteArray) (e : Ending) (w' : World) : Prop := ∃ A c, e = .returned (.tuple #[.slice A (tgL s).length c, .int .i64 (tgE s)]) ∧ EntRow w' w.heap.size (.slice A (tgL s).length c) (tgL s) ∧ Below w.heap.size w w'
theorem tg_none {w w' : World} {s : ByteArray} {e : Ending} (h : tgOk s = false) (he : e = .returned (.tuple #[.slice none 0 0, .int .i64 90])) (hb : Below w.heap.size w w') : TgEnd w s e w' := by
  obtain ⟨h1, h2⟩ := tg_no h
  unfold TgEnd
  rw [h1, h2]
  exact ⟨none, 0, he, EntRow.nil _ _, hb⟩
set_option maxHeartbeats 4000000 in
set_option maxRecDepth 100000 in
theorem tget_any (s : ByteArray) (w : World) (hs : s.size ≤ 1000000) :
    Calls Try.prog 9 #[.string s] w (TgEnd w s) := by
  have hm : s.size ≤ maxLen := by unfold maxLen; omega
  have HC := fun W => tcount_any s W hm
  have hno : tgOk s = false → Hid (∀ w' : World, Below w.heap.size w w' → TgEnd w s (.returned (.tuple #[.slice none 0 0, .int .i64 90])) w') := fun h => Lib.hid fun w' hb => tg_none h rfl hb
  cases hh : tbHas s with
  | false =>
    rw [hh] at HC
    have HC2 := Lib.hid HC
    have HN := hno (by
      cases e : tgOk s with
      | false => rfl
      | true =>
        have h := tgOk_iff.1 e
        rw [show tbHas s = true from decide_eq_true ⟨h.1, h.2.1⟩] at hh
        cases hh)
    generalize tbMany s = m at *
    clear HC hno hh hm
    go_enter Try.func9, Try.ntmps9
    go_wp2_with fail
    refine (HC2.out _).mono ?_
    rintro e w1 ⟨rfl, rfl⟩
    go_wp2
    go_ret2
    exact HN.out _ (Below.refl _ _)
  | true =>
  rw [hh] at HC
  have hmany : tbMany s = (tbN s : Nat) := by unfold tbMany; rw [hh]; rfl
  rw [hmany] at HC
  have HC2 := Lib.hid HC
  have hhead := of_decide_eq_true hh
  have HSZ := fun W => tsize_any (tbN s : Nat) W
  by_cases hsz : (s.size : Int) = tbSz (tbN s : Nat)
  case neg =>
    have HN := hno (by
      cases e : tgOk s with
      | false => rfl
      | true =>
        have h := tgOk_iff.1 e
        exact absurd (by rw [(tbSz_nat h.2.2.1).1, ← h.2.2.2.1]) hsz)
    have HSZ2 := Lib.hid HSZ
    have t1 : ((s.size : Int) != tbSz (tbN s : Nat)) = true := by rw [bne_iff_ne]; exact hsz
    clear HC hno hh hmany hsz hhead HSZ hm
    generalize tbSz (tbN s : Nat) = z at *
    generalize tbN s = n at *
    go_enter Try.func9, Try.ntmps9
    go_wp2_with fail
    refine (HC2.out _).mono ?_
    rintro e w1 ⟨rfl, rfl⟩
    go_wp2_with fail
    refine (HSZ2.out _).mono ?_
    rintro e w1 ⟨rfl, rfl⟩
    go_wp2
    go_ret2
    exact HN.out _ (Below.refl _ _)
  have hn : tbN s ≤ 89478484 ∧ s.size = 12 + 24 * tbN s := by
    by_cases h : tbN s ≤ 89478484
    · rw [(tbSz_nat h).1] at hsz
      exact ⟨h, by omega⟩
    · rw [(tbSz_no (Or.inr (by omega))).1] at hsz
      omega
  have hsz2 : tbSz (tbN s : Nat) = (s.size : Int) := hsz.symm
  rw [hsz2] at HSZ
  have HSZ2 := Lib.hid HSZ
  have HO := fun W => open_any s W hm
  cases ho : opOk s with
  | false =>
    rw [ho] at HO
    have HO2 := Lib.hid HO
    have HN := hno (by
      cases e : tgOk s with
      | false => rfl
      | true =>
        have h := tgOk_iff.1 e
        rw [h.2.2.2.2.1] at ho
        cases ho)
    generalize opA s = oa at *
    clear HC hno hh hmany hsz hhead HSZ hsz2 HO ho hn hm
    generalize tbN s = n at *
    go_enter Try.func9, Try.ntmps9
    go_wp2_with fail
    refine (HC2.out _).mono ?_
    rintro e w1 ⟨rfl, rfl⟩
    go_wp2_with fail
    refine (HSZ2.out _).mono ?_
    rintro e w1 ⟨rfl, rfl⟩
    go_wp2_with fail
    refine (HO2.out _).mono ?_
    rintro e w1 ⟨rfl, hb1⟩
    go_wp2
    go_ret2
    exact HN.out _ hb1
  | true =>
  rw [ho] at HO
  have HO2 := Lib.hid HO
  obtain ⟨Z, hZ1, hZ2⟩ := tb_make s (tbN s) (by omega)
  have HZ2 := Lib.hid hZ2
  have HYes : Hid ((∀ i, i < tbN s → enOk (tbPiece s i) = true) → sortedE (tbGot s (tbN s)) = true → ∀ (A : Option Addr) c (w' : World), EntRow w' w.heap.size (.slice A (tbN s) c) (tbGot s (tbN s)) → Below w.heap.size w w' → TgEnd w s (.returned (.tuple #[.slice A (tbN s) c, .int .i64 0])) w') := Lib.hid fun h1 h2 A c w' hr hb => by
    obtain ⟨e1, e2⟩ := tg_yes (tgOk_iff.2 ⟨hhead.1, hhead.2, hn.1, hn.2, ho, h1, h2⟩)
    unfold TgEnd
    rw [e1, e2, tbGot_length]
    exact ⟨A, c, rfl, hr, hb⟩
  have HNo : Hid ((∃ i, i < tbN s ∧ enOk (tbPiece s i) = false) ∨ sortedE (tbGot s (tbN s)) = false → ∀ w' : World, Below w.heap.size w w' → TgEnd w s (.returned (.tuple #[.slice none 0 0, .int .i64 90])) w') := Lib.hid fun h w' hb => (hno (by
    cases e : tgOk s with
    | false => rfl
    | true =>
      have h2 := tgOk_iff.1 e
      rcases h with ⟨i, hi, h3⟩ | h3
      · rw [h2.2.2.2.2.2.1 i hi] at h3; cases h3
      · rw [h2.2.2.2.2.2.2] at h3; cases h3)).out w' hb
  have HMS := Lib.hid (show ∀ k, k < tbN s → (tbMade s (tbN s) k).set k (enG (tbPiece s k)) = tbMade s (tbN s) (k + 1) from fun k hk => tbMade_set s hk)
  have HMF := Lib.hid (tbMade_full s (tbN s))
  have HML := Lib.hid (show ∀ k, (tbMade s (tbN s) k).length = tbN s from fun k => tbMade_length s (tbN s) k)
  have hsn := hn.2
  generalize opA s = oa at *
  clear HC hno hh hmany hsz hhead HSZ hsz2 HO ho hn hZ2 hm
  generalize tbN s = n at *
  have hw : IntKind.i64.wrap (n : Int) = (n : Int) := IntWalk.i64_in _ ⟨by omega, by omega⟩
  go_enter Try.func9, Try.ntmps9
  go_wp2_with fail
  refine (HC2.out _).mono ?_
  rintro e w1 ⟨rfl, rfl⟩
  go_wp2_with fail
  refine (HSZ2.out _).mono ?_
  rintro e w1 ⟨rfl, rfl⟩
  go_wp2_with fail
  refine (HO2.out _).mono ?_
  rintro e w1 ⟨rfl, hb1⟩
  have hR := HZ2.out w1
  have HB1 := Lib.hid hb1
  have hb2 := (Below.refl w1.heap.size w1).alloc (Nat.le_refl _) (.cells Z 36)
  clear HZ2 hb1 HC2 HSZ2 HO2
  go_wp2
  go_loopw [35] (fun i wr => ∃ k : Nat, k ≤ n ∧ i = .int .i64 k ∧ (∀ i, i < k → enOk (tbPiece s i) = true) ∧ EntRow wr w1.heap.size (.slice (some ⟨w1.heap.size, 0, none⟩) n n) (tbMade s n k) ∧ Below w1.heap.size w1 wr) (fun i _ => n - (intOf i).toNat)
  case atStart => exact ⟨0, Nat.zero_le _, rfl, fun i h => absurd h (by omega), hR, hb2⟩
  case round =>
    obtain ⟨k, hk, rfl, hall, hrow, hbel⟩ := hrel
    clear hR hb2 hZ1
    have HA := Lib.hid hall
    clear hall
    by_cases hlt : k < n
    · have s1 : (k : Int) < (n : Int) := by omega
      obtain ⟨a, ha⟩ : ∃ a, a = 8 + 24 * k := ⟨_, rfl⟩
      obtain ⟨b, hb⟩ : ∃ b, b = 32 + 24 * k := ⟨_, rfl⟩
      have HA1 : Hid (∀ W, Calls Try.prog 14 #[.int .i64 (k : Nat)] W fun e w' => e = .returned (.int .i64 (a : Nat)) ∧ W = w') := Lib.hid fun W => by
        have := tat_any (k : Nat) W
        rw [(tbSz_nat (by omega)).2, ← ha] at this
        exact this
      have HA2 : Hid (∀ W, Calls Try.prog 14 #[.int .i64 ((k : Int) + 1)] W fun e w' => e = .returned (.int .i64 (b : Nat)) ∧ W = w') := Lib.hid fun W => by
        have := tat_any ((k + 1 : Nat) : Int) W
        rw [(tbSz_nat (by omega)).2, show 8 + 24 * (k + 1) = b by omega] at this
        exact this
      have eP : tbPiece s k = s.extract a b := by rw [ha, hb]; rfl
      have HG := fun W => eget_any (s.extract a b) W (by unfold maxLen; rw [ByteArray.size_extract]; omega)
      rw [← eP] at HG
      have HMK := Lib.hid (HMS.out k hlt)
      have x1 : (a : Int) ≤ (b : Int) := by omega
      have x2 : (b : Int) ≤ (s.size : Int) := by omega
      have x3 : a ≤ b := by omega
      have x4 : b ≤ s.size := by omega
      have HROW := Lib.hid hrow
      have HBEL := Lib.hid hbel
      have HEQ : Hid (enOk (tbPiece s k) = enOk (tbPiece s k)) := Lib.hid rfl
      rw [eP] at HG HMK
      rw [eP] at HEQ
      have HEP := Lib.hid eP
      clear eP ha hb hrow hbel
      cases hok : enOk (s.extract a b) with
      | false =>
        rw [hok] at HG
        have HN := Lib.hid (HNo.out (Or.inl ⟨k, hlt, by rw [HEP.out]; exact hok⟩))
        have HG2 := Lib.hid HG
        clear HG hok HEQ HMK
        generalize enG (s.extract a b) = x at *
        obtain ⟨xh, xv, xp⟩ := x
        go_wp2_with fail
        refine (HA1.out _).mono ?_
        rintro e w2 ⟨rfl, rfl⟩
        go_wp2_with fail
        refine (HA2.out _).mono ?_
        rintro e w2 ⟨rfl, rfl⟩
        go_wp2_with fail
        refine (HG2.out _).mono ?_
        rintro e w2 ⟨rfl, hb3⟩
        have R2 := HROW.out.below hb3 (Nat.le_refl _)
        obtain ⟨⟨y, q0, q1, q2⟩, f0, f1, f2⟩ := R2.at_ (HML.out k).symm hlt
        have R3 := Lib.hid (R2.put (HML.out k).symm hlt ⟨xh, xv, xp⟩)
        go_wp2
        go_ret2
        exact HN.out _ (bj HB1.out (put3 (bj HBEL.out hb3) (Nat.le_refl _) _ _ _))
      | true =>
        rw [hok] at HG
        have HG2 := Lib.hid HG
        have HALL := Lib.hid (show ∀ i, i < k + 1 → enOk (tbPiece s i) = true from fun i hi => by
          rcases Nat.lt_or_ge i k with c | c
          · exact HA.out i c
          · obtain rfl : i = k := by omega
            rw [HEP.out]
            exact hok)
        clear HG hok HEQ
        generalize enG (s.extract a b) = x at *
        obtain ⟨xh, xv, xp⟩ := x
        go_wp2_with fail
        refine (HA1.out _).mono ?_
        rintro e w2 ⟨rfl, rfl⟩
        go_wp2_with fail
        refine (HA2.out _).mono ?_
        rintro e w2 ⟨rfl, rfl⟩
        go_wp2_with fail
        refine (HG2.out _).mono ?_
        rintro e w2 ⟨rfl, hb3⟩
        have R2 := HROW.out.below hb3 (Nat.le_refl _)
        obtain ⟨⟨y, q0, q1, q2⟩, f0, f1, f2⟩ := R2.at_ (HML.out k).symm hlt
        have R3 := R2.put (HML.out k).symm hlt ⟨xh, xv, xp⟩
        rw [HMK.out] at R3
        have R4 := Lib.hid R3
        clear R3 R2
        go_wp2
        exact ⟨⟨k + 1, by omega, by go_num, HALL.out, R4.out, put3 (bj HBEL.out hb3) (Nat.le_refl _) _ _ _⟩, by simp [intOf]; omega⟩
    · obtain rfl : k = n := by omega
      have s1 : ¬ (k : Int) < (k : Int) := by omega
      rw [HMF.out] at hrow
      have HS := sorted_any _ _ wr (EntRow.in_ hrow) (by rw [tbGot_length]; omega)
      have HROW := Lib.hid hrow
      clear hrow
      cases hso : sortedE (tbGot s k) with
      | false =>
        rw [hso] at HS
        have HS2 := Lib.hid HS
        have HN := Lib.hid (HNo.out (Or.inr hso))
        clear HS hso
        go_wp2_with fail
        refine HS2.out.mono ?_
        rintro e w2 ⟨rfl, hb3⟩
        go_wp2
        go_ret2
        exact HN.out _ (bj HB1.out (bj hbel hb3))
      | true =>
        rw [hso] at HS
        have HS2 := Lib.hid HS
        have HY := Lib.hid (HYes.out HA.out hso)
        clear HS hso
        go_wp2_with fail
        refine HS2.out.mono ?_
        rintro e w2 ⟨rfl, hb3⟩
        go_wp2
        go_ret2
        exact HY.out _ _ _ (EntRow.down (EntRow.below HROW.out hb3 (Nat.le_refl _)) HB1.out.size) (bj HB1.out (bj hbel hb3))
end Go.Proofs.Ytifhiiokgpbhmaa
