/- The program's own Stream, Chunk, Table, Bloom and Parse answer what the document's do. -/
import Derived.Test.YtaphmmbngjblhaaNamesApi
import Derived.Test.YtaphmmbngjblhaaBytes
namespace Go.Proofs.Ytaphmmbngjblhaa
open Go.RowKit
set_option linter.unusedVariables false

theorem stream_own (s : ByteArray) (w : World) (hs : s.size ≤ maxLen) :
    Calls Try.prog 12 #[.string s] w fun e w' => e = .returned (.bool (stS s)) ∧ Below w.heap.size w w' := by
  unfold maxLen at hs
  unfold stS
  by_cases h1 : 1 ≤ s.size
  · have t1 : decide ((1 : Int) ≤ (s.size : Int)) = true := decide_eq_true (by omega)
    by_cases h2 : s.size ≤ 32
    · have t2 : decide ((s.size : Int) ≤ 32) = true := decide_eq_true (by omega)
      rw [decide_eq_true ⟨h1, h2⟩]
      go_enter Try.func12, Try.ntmps12
      go_wp2
      go_ret
      exact ⟨rfl, Below.refl _ _⟩
    · have t2 : decide ((s.size : Int) ≤ 32) = false := decide_eq_false (by omega)
      rw [decide_eq_false (fun h => h2 h.2)]
      go_enter Try.func12, Try.ntmps12
      go_wp2
      go_ret
      exact ⟨rfl, Below.refl _ _⟩
  · have t1 : decide ((1 : Int) ≤ (s.size : Int)) = false := decide_eq_false (by omega)
    rw [decide_eq_false (fun h => h1 h.1)]
    go_enter Try.func12, Try.ntmps12
    go_wp2
    go_ret
    exact ⟨rfl, Below.refl _ _⟩

theorem numbered_no (c : UInt8) (n : Int) (w : World) (h : ¬ (0 ≤ n ∧ n ≤ 999999)) :
    Calls Try.prog 16 #[.int .u8 (c.toNat : Nat), .int .i64 n] w fun e w' => e = .returned (.string ByteArray.empty) ∧ Below w.heap.size w w' := by
  by_cases h0 : n < 0
  · have t1 : decide (n < 0) = true := decide_eq_true h0
    clear h
    go_enter Try.func16, Try.ntmps16
    go_wp2
    go_ret
    exact ⟨rfl, Below.refl _ _⟩
  · have t1 : decide (n < 0) = false := decide_eq_false h0
    have t2 : decide (999999 < n) = true := decide_eq_true (by omega)
    clear h
    go_enter Try.func16, Try.ntmps16
    go_wp2
    go_ret
    exact ⟨rfl, Below.refl _ _⟩

theorem u8At_set (l : List UInt8) (i : Nat) (b : UInt8) (hi : i < l.length) (j : Nat) : (if j = i then Value.int .u8 ((b.toNat : Nat) : Int) else u8At l j) = u8At (l.set i b) j := by
  unfold u8At
  by_cases e : j = i
  · subst e
    rw [if_pos rfl, List.getD_eq_getElem?_getD, List.getElem?_set_self hi]
    rfl
  · rw [if_neg e, List.getD_eq_getElem?_getD, List.getD_eq_getElem?_getD, List.getElem?_set_ne (fun h => e h.symm)]
/-- The bytes behind k rounds. -/
def nmL (c : UInt8) (k n : Nat) : List UInt8 := c :: (List.replicate (6 - k) 0 ++ de k n)
theorem nmL_length (c : UInt8) (k n : Nat) (hk : k ≤ 6) : (nmL c k n).length = 7 := by simp [nmL, de_length]; omega
theorem nmL_set (c : UInt8) (k n : Nat) (hk : k < 6) : (nmL c k n).set (6 - k) (UInt8.ofNat (48 + n / 10 ^ k % 10)) = nmL c (k + 1) n := by
  obtain ⟨j, hj⟩ : ∃ j, 6 - k = j + 1 := ⟨5 - k, by omega⟩
  have hj2 : 6 - (k + 1) = j := by omega
  have hl : (List.replicate j (0 : UInt8)).length = j := List.length_replicate
  unfold nmL
  rw [hj, hj2, List.set_cons_succ, de, List.replicate_succ', List.append_assoc, List.set_append_right _ _ (by omega), hl, Nat.sub_self, List.singleton_append, List.set_cons_zero]
set_option maxHeartbeats 800000 in
theorem numbered_yes (c : UInt8) (n : Nat) (w : World) (h : n ≤ 999999) :
    Calls Try.prog 16 #[.int .u8 (c.toNat : Nat), .int .i64 (n : Nat)] w fun e w' => e = .returned (.string (bs (c :: de 6 n))) ∧ Below w.heap.size w w' := by
  have t1 : decide ((n : Int) < 0) = false := decide_eq_false (by omega)
  have t2 : decide ((999999 : Int) < (n : Int)) = false := decide_eq_false (by omega)
  go_enter Try.func16, Try.ntmps16
  go_wp2
  go_loopw [1, 15] (fun m i wr => ∃ k : Nat, k ≤ 6 ∧ i = .int .i64 k ∧ m = .int .i64 (n / 10 ^ k : Nat) ∧ RowB wr w.heap.size 7 (u8At (nmL c k n)) ∧ Below w.heap.size w wr) (fun _ i _ => 6 - (intOf i).toNat)
  case atStart =>
    refine ⟨0, Nat.zero_le _, rfl, by simp, ?_, ?_⟩
    · refine ⟨_, 36, (0, 0), (show (w.heap.push _)[w.heap.size]? = _ from Array.getElem?_push_size), Nat.le_refl 7, Or.inl rfl, fun i hi => ?_⟩
      have hd : nmL c 0 n = [c, 0, 0, 0, 0, 0, 0] := rfl
      rw [hd]
      match i, hi with
      | 0, _ | 1, _ | 2, _ | 3, _ | 4, _ | 5, _ | 6, _ => rfl
    · exact (Below.refl _ _).alloc (Nat.le_refl _) _
  case round =>
    obtain ⟨k, hk, rfl, rfl, hrow, hbel⟩ := hrel
    by_cases hlt : k < 6
    · obtain ⟨m, hm⟩ : ∃ m, n / 10 ^ k = m := ⟨_, rfl⟩
      have hm2 : n / 10 ^ (k + 1) = m / 10 := by rw [Nat.pow_succ, ← Nat.div_div_eq_div_mul, hm]
      have hml : m ≤ 999999 := by rw [← hm]; exact Nat.le_trans (Nat.div_le_self _ _) h
      rw [hm]
      have Hm := Lib.hid hm2
      have hc := hrow.cell (i := 6 - k) (by omega)
      have hf := hrow.frozen (i := 6 - k) (by omega)
      have hs := hrow.set (6 - k) (.int .u8 ((UInt8.ofNat (48 + m % 10)).toNat : Nat))
      have hs2 := hs.congr (fun j _ => u8At_set _ _ _ (by rw [nmL_length c k n hk]; omega) j)
      rw [← hm, nmL_set c k n hlt, hm, dig_nat _ (Nat.mod_lt _ (by decide))] at hs2
      have HS := Lib.hid hs2
      clear hm hm2 hs hs2
      clear hrow
      go_wp2
      go_roundw
      case rel =>
        refine ⟨k + 1, by omega, by go_num, by rw [Hm.out]; go_num, ?_, ?_⟩
        · exact HS.out
        · exact hbel.setCell (by simp) _
      case measure => simp [intOf]; omega
    · obtain rfl : k = 6 := by omega
      have hcv := conv_out hrow (nmL_length c 6 n (Nat.le_refl _)) 7
      go_wp2
      go_ret
      exact ⟨rfl, hbel⟩

theorem numbered_any (c : UInt8) (n : Int) (w : World) :
    Calls Try.prog 16 #[.int .u8 (c.toNat : Nat), .int .i64 n] w fun e w' => e = .returned (.string (nmS c n)) ∧ Below w.heap.size w w' := by
  by_cases h : 0 ≤ n ∧ n ≤ 999999
  · obtain ⟨k, rfl⟩ : ∃ k : Nat, n = k := ⟨n.toNat, by omega⟩
    rw [nm_yes (by omega)]
    exact numbered_yes c k w (by omega)
  · rw [nm_no h]
    exact numbered_no _ n w h
theorem chunk_own (n : Int) (w : World) : Calls Try.prog 8 #[.int .i64 n] w fun e w' => e = .returned (.string (nmS 99 n)) ∧ Below w.heap.size w w' := by
  have h : Calls Try.prog 16 #[.int .u8 99, .int .i64 n] w fun e w' => e = .returned (.string (nmS 99 n)) ∧ Below w.heap.size w w' := numbered_any 99 n w
  generalize nmS 99 n = s at *
  have H := Lib.hid h
  clear h
  go_enter Try.func8, Try.ntmps8
  go_wp2_with fail
  refine (H.out).mono ?_
  rintro _ w1 ⟨rfl, hb⟩
  go_wp2
  go_ret
  exact ⟨rfl, hb⟩
theorem table_own (n : Int) (w : World) : Calls Try.prog 10 #[.int .i64 n] w fun e w' => e = .returned (.string (nmS 116 n)) ∧ Below w.heap.size w w' := by
  have h : Calls Try.prog 16 #[.int .u8 116, .int .i64 n] w fun e w' => e = .returned (.string (nmS 116 n)) ∧ Below w.heap.size w w' := numbered_any 116 n w
  generalize nmS 116 n = s at *
  have H := Lib.hid h
  clear h
  go_enter Try.func10, Try.ntmps10
  go_wp2_with fail
  refine (H.out).mono ?_
  rintro _ w1 ⟨rfl, hb⟩
  go_wp2
  go_ret
  exact ⟨rfl, hb⟩
theorem bloom_own (n : Int) (w : World) : Calls Try.prog 11 #[.int .i64 n] w fun e w' => e = .returned (.string (nmS 98 n)) ∧ Below w.heap.size w w' := by
  have h : Calls Try.prog 16 #[.int .u8 98, .int .i64 n] w fun e w' => e = .returned (.string (nmS 98 n)) ∧ Below w.heap.size w w' := numbered_any 98 n w
  generalize nmS 98 n = s at *
  have H := Lib.hid h
  clear h
  go_enter Try.func11, Try.ntmps11
  go_wp2_with fail
  refine (H.out).mono ?_
  rintro _ w1 ⟨rfl, hb⟩
  go_wp2
  go_ret
  exact ⟨rfl, hb⟩

theorem iskind_any (c : UInt8) (w : World) : Calls Try.prog 17 #[.int .u8 (c.toNat : Nat)] w fun e w' => e = .returned (.bool (isK c)) ∧ w = w' := by
  by_cases e1 : c.toNat = 99
  · obtain rfl : c = 99 := UInt8.toNat_inj.1 e1
    go_enter Try.func17, Try.ntmps17
    go_wp2
    go_ret
    exact ⟨rfl, rfl⟩
  · by_cases e2 : c.toNat = 116
    · obtain rfl : c = 116 := UInt8.toNat_inj.1 e2
      go_enter Try.func17, Try.ntmps17
      go_wp2
      go_ret
      exact ⟨rfl, rfl⟩
    · by_cases e3 : c.toNat = 98
      · obtain rfl : c = 98 := UInt8.toNat_inj.1 e3
        go_enter Try.func17, Try.ntmps17
        go_wp2
        go_ret
        exact ⟨rfl, rfl⟩
      · have hk : isK c = false := by
          simp only [isK, Bool.or_eq_false_iff, beq_eq_false_iff_ne]
          exact ⟨⟨fun e => e1 (by rw [e]; rfl), fun e => e2 (by rw [e]; rfl)⟩, fun e => e3 (by rw [e]; rfl)⟩
        have v1 : ((c.toNat : Int) == 99) = false := beq_eq_false_iff_ne.2 (by omega)
        have v2 : ((c.toNat : Int) == 116) = false := beq_eq_false_iff_ne.2 (by omega)
        have v3 : ((c.toNat : Int) == 98) = false := beq_eq_false_iff_ne.2 (by omega)
        rw [hk]
        clear hk e1 e2 e3
        go_enter Try.func17, Try.ntmps17
        go_wp2
        go_ret
        exact ⟨rfl, rfl⟩

def NoneParsed (w : World) (e : Ending) (w' : World) : Prop := e = .returned (.tuple #[.int .u8 0, .int .i64 0, .bool false]) ∧ w = w'
theorem parse_size (s : ByteArray) (w : World) (hs : s.size ≤ maxLen) (h : ¬ s.size = 7) :
    Calls Try.prog 14 #[.string s] w (NoneParsed w) := by
  unfold maxLen at hs
  have t1 : ((s.size : Int) != 7) = true := by simp; omega
  have t2 : ((s.size : Int) == 7) = false := beq_eq_false_iff_ne.2 (by omega)
  clear h
  go_enter Try.func14, Try.ntmps14
  go_wp2
  go_ret3
  exact ⟨rfl, rfl⟩

theorem parse_letter (s : ByteArray) (w : World) (hz : 0 < s.size) (h : s.size = 7) (c : UInt8) (hc : s[0]'hz = c) (hk : isK c = false) :
    Calls Try.prog 14 #[.string s] w (NoneParsed w) := by
  have t1 : ((s.size : Int) != 7) = false := by simp; omega
  have t2 : ((s.size : Int) == 7) = true := beq_iff_eq.2 (by omega)
  have hz' : (0 : Int) < (s.size : Int) := by omega
  have hi := Lib.hid (iskind_any c)
  clear h
  go_enter Try.func14, Try.ntmps14
  go_wp2_with fail
  refine (hi.out w).mono ?_
  rintro _ _ ⟨rfl, rfl⟩
  rw [hk]
  go_wp2
  go_ret3
  exact ⟨rfl, rfl⟩
set_option maxHeartbeats 1600000 in
theorem parse_loop (s : ByteArray) (w : World) (hz : 0 < s.size) (h : s.size = 7) (c : UInt8) (l : List UInt8) (hl : s.data.toList = c :: l) (hk : isK c = true) :
    Calls Try.prog 14 #[.string s] w fun e w' => e = .returned (.tuple #[.int .u8 (npK s : Nat), .int .i64 (npN s : Nat), .bool (npOk s)]) ∧ w = w' := by
  have t1 : ((s.size : Int) != 7) = false := by simp; omega
  have t2 : ((s.size : Int) == 7) = true := beq_iff_eq.2 (by omega)
  have hl6 : l.length = 6 := by have := dlen s; rw [hl, List.length_cons] at this; omega
  have hc := byte_zero hl hz
  have hz' : (0 : Int) < (s.size : Int) := by omega
  have HB := Lib.hid fun (j : Nat) (hj : j < l.length) => (⟨by omega, byte_of hl j hj (by omega)⟩ : ∃ hs : j + 1 < s.size, s[j + 1]'hs = l[j])
  have Hyes := Lib.hid fun (hall : ∀ x ∈ l, isD x = true) => np_of c l hl6 hk hall
  have hbs : bs (c :: l) = s := by rw [← hl, bs_self]
  rw [hbs] at Hyes
  have Hno := Lib.hid fun (j : Nat) (hj : j < l.length) (hd : isD l[j] = false) => np_wrong (s := s) (fun c' l' e => by
    rw [hl] at e
    cases e
    rintro ⟨_, _, ha⟩
    rw [ha _ (List.getElem_mem hj)] at hd
    cases hd)
  have Hd := Lib.hid fun (j : Nat) (hj : j ≤ l.length) (hall : ∀ i (hi : i < l.length), i < j → isD l[i] = true) => (by
    have h1 := dv_lt (l := l.take j) (fun x hx => by
      obtain ⟨i, hi⟩ := List.getElem?_of_mem hx
      rw [List.getElem?_take] at hi
      by_cases hij : i < j
      · rw [if_pos hij] at hi
        obtain ⟨hlt, e⟩ := List.getElem?_eq_some_iff.1 hi
        rw [← e]
        exact hall i hlt hij
      · rw [if_neg hij] at hi
        cases hi)
    rw [List.length_take] at h1
    have : 10 ^ min j l.length ≤ 10 ^ 6 := Nat.pow_le_pow_right (by decide) (by omega)
    omega : dv (l.take j) ≤ 999999)
  obtain ⟨K, hK⟩ : ∃ K, npK s = K := ⟨_, rfl⟩
  obtain ⟨N, hN⟩ : ∃ N, npN s = N := ⟨_, rfl⟩
  obtain ⟨o, ho⟩ : ∃ o, npOk s = o := ⟨_, rfl⟩
  rw [hK, hN, ho]
  have HK := Lib.hid (And.intro hK (And.intro hN ho))
  have HI := Lib.hid (iskind_any c)
  have HK1 := Lib.hid hk
  clear h hl hK hN ho hbs hk
  go_enter Try.func14, Try.ntmps14
  go_wp2_with fail
  refine (HI.out w).mono ?_
  rintro _ _ ⟨rfl, rfl⟩
  rw [HK1.out]
  go_wp2
  go_loopw [3, 16] (fun n i wr => ∃ j : Nat, j ≤ 6 ∧ i = .int .i64 (j : Nat) ∧ n = .int .i64 (dv (l.take j) : Nat) ∧ (∀ i (hi : i < l.length), i < j → isD l[i] = true) ∧ w = wr) (fun _ i _ => 6 - (intOf i).toNat)
  case atStart => exact ⟨0, Nat.zero_le _, rfl, rfl, fun i hi h => absurd h (by omega), rfl⟩
  case round =>
    obtain ⟨j, hj, rfl, rfl, hall, rfl⟩ := hrel
    have hdv := Hd.out j (by omega) hall
    have HA := Lib.hid hall
    clear hall
    by_cases hlt : j < 6
    · obtain ⟨hs1, hs2⟩ := HB.out j (by omega)
      have hx1 : (1 + (j : Int)).toNat = j + 1 := by omega
      have hs3 : (1 + (j : Int)) < (s.size : Int) := by omega
      have hd256 := (l[j]'(by omega)).toNat_lt
      cases hd : isD (l[j]'(by omega)) with
      | false =>
        have hno := Hno.out j (by omega) hd
        obtain ⟨x1, x2⟩ := np_no hno
        obtain ⟨y1, y2, y3⟩ := HK.out
        rw [x1] at y1
        rw [x2] at y2
        rw [hno] at y3
        subst y1 y2 y3
        simp only [isD, decide_eq_false_iff_not] at hd
        have hdd : (l[j]'(by omega)).toNat < 48 ∨ 57 < (l[j]'(by omega)).toNat := by omega
        generalize l[j]'(by omega) = d at *
        clear hd x1 x2 hno
        by_cases h48 : d.toNat < 48
        · have v1 : decide ((d.toNat : Int) < 48) = true := decide_eq_true (by omega)
          clear hdd
          go_wp2
          go_ret3
          exact ⟨rfl, rfl⟩
        · have v1 : decide ((d.toNat : Int) < 48) = false := decide_eq_false (by omega)
          have v2 : decide ((57 : Int) < (d.toNat : Int)) = true := decide_eq_true (by omega)
          clear hdd
          go_wp2
          go_ret3
          exact ⟨rfl, rfl⟩
      | true =>
        have HT := Lib.hid (dv_take (l := l) (j := j) (by omega))
        have HN : ∀ i (hi : i < l.length), i < j + 1 → isD l[i] = true := fun i hi hij => by
          by_cases e : i = j
          · subst e; exact hd
          · exact HA.out i hi (by omega)
        have HN' := Lib.hid HN
        simp only [isD, decide_eq_true_eq] at hd
        generalize l[j]'(by omega) = d at *
        obtain ⟨d1, d2⟩ := hd
        have v1 : decide ((d.toNat : Int) < 48) = false := decide_eq_false (by omega)
        have v2 : decide ((57 : Int) < (d.toNat : Int)) = false := decide_eq_false (by omega)
        generalize dv (l.take j) = m at *
        clear HN
        go_wp2
        go_roundw
        case rel => exact ⟨j + 1, by omega, by go_num, by rw [HT.out]; go_num, HN'.out, trivial⟩
        case measure => simp [intOf]; omega
    · obtain rfl : j = 6 := by omega
      have hall : ∀ x ∈ l, isD x = true := fun x hx => by
        obtain ⟨i, hi⟩ := List.getElem?_of_mem hx
        obtain ⟨hlt', e'⟩ := List.getElem?_eq_some_iff.1 hi
        rw [← e']
        exact HA.out i hlt' (by omega)
      obtain ⟨x1, x2, x3⟩ := Hyes.out hall
      obtain ⟨y1, y2, y3⟩ := HK.out
      rw [x2] at y1
      rw [x3] at y2
      rw [x1] at y3
      have ht : l.take 6 = l := List.take_of_length_le (by omega)
      rw [ht]
      subst y1 y2 y3
      clear x1 x2 x3 ht hall
      go_wp2
      go_ret3
      exact ⟨rfl, rfl⟩

/-- Parse. -/
theorem parse_own (s : ByteArray) (w : World) (hs : s.size ≤ maxLen) :
    Calls Try.prog 14 #[.string s] w fun e w' => e = .returned (.tuple #[.int .u8 (npK s : Nat), .int .i64 (npN s : Nat), .bool (npOk s)]) ∧ w = w' := by
  by_cases h7 : s.size = 7
  · cases hl : s.data.toList with
    | nil =>
      have := dlen s
      rw [hl, h7] at this
      cases this
    | cons c l =>
      cases hk : isK c with
      | true => exact parse_loop s w (by omega) h7 c l hl hk
      | false =>
        obtain ⟨x1, x2⟩ := np_no (np_wrong (s := s) (fun c' l' e => by
          rw [hl] at e
          cases e
          rintro ⟨_, h, _⟩
          rw [hk] at h
          cases h))
        have x3 := np_wrong (s := s) (fun c' l' e => by
          rw [hl] at e
          cases e
          rintro ⟨_, h, _⟩
          rw [hk] at h
          cases h)
        rw [x1, x2, x3]
        exact parse_letter s w (by omega) h7 c (byte_zero hl (by omega)) hk
  · have x3 := np_wrong (s := s) (fun c' l' e => by
      rintro ⟨h, _, _⟩
      have := dlen s
      rw [e, List.length_cons] at this
      omega)
    obtain ⟨x1, x2⟩ := np_no x3
    rw [x1, x2, x3]
    exact parse_size s w hs h7

theorem napi : NamesApi where
  stream := stream_own
  chunk := fun n w _ => chunk_own n w
  table := fun n w _ => table_own n w
  bloom := fun n w _ => bloom_own n w
  parse := fun s w hs => (parse_own s w hs).mono (by rintro e w' ⟨rfl, rfl⟩; exact ⟨rfl, Below.refl _ _⟩)
end Go.Proofs.Ytaphmmbngjblhaa
