/- The document's Stream, Name and Parse. -/
import Derived.Test.YtaphmmbngjblhaaNamesMath
import Derived.WalkArith
namespace Go.Proofs.Ytaphmmbngjblhaa
open Go.RowKit
set_option linter.unusedVariables false

/-- May a stream have a name (P10.1)? -/
def stS (s : ByteArray) : Bool := decide (1 ≤ s.size ∧ s.size ≤ 32)
theorem stream_ref (s : ByteArray) (w : World) (hs : s.size ≤ maxLen) :
    Calls Try.prog 13 #[.string s] w fun e w' => e = .returned (.bool (stS s)) ∧ w = w' := by
  unfold maxLen at hs
  unfold stS
  by_cases h1 : 1 ≤ s.size
  · have t1 : decide ((1 : Int) ≤ (s.size : Int)) = true := decide_eq_true (by omega)
    by_cases h2 : s.size ≤ 32
    · have t2 : decide ((s.size : Int) ≤ 32) = true := decide_eq_true (by omega)
      rw [decide_eq_true ⟨h1, h2⟩]
      go_enter Try.func13, Try.ntmps13
      go_wp2
      go_ret
      exact ⟨rfl, rfl⟩
    · have t2 : decide ((s.size : Int) ≤ 32) = false := decide_eq_false (by omega)
      rw [decide_eq_false (fun h => h2 h.2)]
      go_enter Try.func13, Try.ntmps13
      go_wp2
      go_ret
      exact ⟨rfl, rfl⟩
  · have t1 : decide ((1 : Int) ≤ (s.size : Int)) = false := decide_eq_false (by omega)
    rw [decide_eq_false (fun h => h1 h.1)]
    go_enter Try.func13, Try.ntmps13
    go_wp2
    go_ret
    exact ⟨rfl, rfl⟩

theorem namer_no (s : ByteArray) (n : Int) (w : World) (h : ¬ (0 ≤ n ∧ n ≤ 999999)) :
    Calls Try.prog 9 #[.string s, .int .i64 n] w fun e w' => e = .returned (.string ByteArray.empty) ∧ Below w.heap.size w w' := by
  by_cases h0 : n < 0
  · have t1 : decide (n < 0) = true := decide_eq_true h0
    clear h
    go_enter Try.func9, Try.ntmps9
    go_wp2
    go_ret
    exact ⟨rfl, Below.refl _ _⟩
  · have t1 : decide (n < 0) = false := decide_eq_false h0
    have t2 : decide (999999 < n) = true := decide_eq_true (by omega)
    clear h
    go_enter Try.func9, Try.ntmps9
    go_wp2
    go_ret
    exact ⟨rfl, Below.refl _ _⟩

theorem conv_dig (d : Nat) (hd : d < 10) (W : World) (g : Nat) (h : W.cell? ⟨g, 0, none⟩ = some (.int .u8 (48 + (d : Nat)))) : (convert 33 9 (.slice (some ⟨g, 0, none⟩) 1 1)).run Try.prog W = .ok (.string (bs [UInt8.ofNat (48 + d)])) W := by
  have h2 := run_convert_bytes_back (P := Try.prog) W 33 9 5 ⟨g, 0, none⟩ 1 [UInt8.ofNat (48 + d)] Try.underlying33 Try.underlying5 Try.underlying9
    (fun j hj => by
      have hj0 : j = 0 := by simpa using hj
      subst hj0
      have e : (⟨g, 0, none⟩ : Addr).add 0 = ⟨g, 0, none⟩ := rfl
      rw [e, h]
      simp
      omega)
  exact h2

set_option maxHeartbeats 800000 in
theorem namer_yes (c : UInt8) (n : Nat) (w : World) (h : n ≤ 999999) :
    Calls Try.prog 9 #[.string ⟨#[c]⟩, .int .i64 (n : Nat)] w fun e w' => e = .returned (.string (bs (c :: de 6 n))) ∧ Below w.heap.size w w' := by
  have t1 : decide ((n : Int) < 0) = false := decide_eq_false (by omega)
  have t2 : decide ((999999 : Int) < (n : Int)) = false := decide_eq_false (by omega)
  go_enter Try.func9, Try.ntmps9
  go_wp2
  go_loopw [1, 5, 6] (fun m s i wr => ∃ k : Nat, k ≤ 6 ∧ i = .int .i64 k ∧ m = .int .i64 (n / 10 ^ k : Nat) ∧ s = .string (bs (de k n)) ∧ Below w.heap.size w wr) (fun _ _ i _ => 6 - (intOf i).toNat)
  case atStart => exact ⟨0, Nat.zero_le _, rfl, by simp, rfl, Below.refl _ _⟩
  case round =>
    obtain ⟨k, hk, rfl, rfl, rfl, hbel⟩ := hrel
    by_cases hlt : k < 6
    · obtain ⟨m, hm⟩ : ∃ m, n / 10 ^ k = m := ⟨_, rfl⟩
      have hb : UInt8.ofNat (48 + m % 10) :: de k n = de (k + 1) n := by rw [de, hm]
      have hm2 : n / 10 ^ (k + 1) = m / 10 := by rw [Nat.pow_succ, ← Nat.div_div_eq_div_mul, hm]
      have hml : m ≤ 999999 := by rw [← hm]; exact Nat.le_trans (Nat.div_le_self _ _) h
      have hadd : ∀ wx : World, (Op.stringOp .add (bs [UInt8.ofNat (48 + m % 10)]) (bs (de k n))).run Try.prog wx = .ok (.string (bs (de (k + 1) n))) wx := fun wx => by
        have h := run_string_add_sum (P := Try.prog) (w := wx) (bs [UInt8.ofNat (48 + m % 10)]) (bs (de k n)) (by rw [bs_size, bs_size, de_length]; simp; omega)
        rw [bs_append, List.singleton_append, hb] at h
        exact h
      have hcv := fun W g h => conv_dig (m % 10) (Nat.mod_lt _ (by decide)) W g h
      rw [hm]
      have Hm := Lib.hid hm2
      generalize bs [UInt8.ofNat (48 + m % 10)] = x at *
      generalize hy : bs (de (k + 1) n) = y at *
      have Hy := Lib.hid hy
      clear hm hm2 hb hy
      go_wp2
      go_roundw
      case rel => exact ⟨k + 1, by omega, by go_num, by rw [Hm.out]; go_num, by rw [Hy.out], hbel.alloc hbel.size _⟩
      case measure => simp [intOf]; omega
    · obtain rfl : k = 6 := by omega
      have hadd : ∀ wx : World, (Op.stringOp .add ⟨#[c]⟩ (bs (de 6 n))).run Try.prog wx = .ok (.string (bs (c :: de 6 n))) wx := fun wx => by
        have h := run_string_add_sum (P := Try.prog) (w := wx) (bs [c]) (bs (de 6 n)) (by rw [bs_size, bs_size, de_length]; simp)
        rw [bs_append, List.singleton_append] at h
        exact h
      go_wp2
      go_ret
      exact ⟨rfl, hbel⟩

/-- The document's Name. -/
theorem namer_any (c : UInt8) (n : Int) (w : World) :
    Calls Try.prog 9 #[.string ⟨#[c]⟩, .int .i64 n] w fun e w' => e = .returned (.string (nmS c n)) ∧ Below w.heap.size w w' := by
  by_cases h : 0 ≤ n ∧ n ≤ 999999
  · obtain ⟨k, rfl⟩ : ∃ k : Nat, n = k := ⟨n.toNat, by omega⟩
    rw [nm_yes (by omega)]
    exact namer_yes c k w (by omega)
  · rw [nm_no h]
    exact namer_no _ n w h

def NoName (w : World) (e : Ending) (w' : World) : Prop := e = .returned (.tuple #[.int .u8 0, .int .i64 0, .bool false]) ∧ w = w'
theorem byte_of {s : ByteArray} {c : UInt8} {l : List UInt8} (h : s.data.toList = c :: l) (j : Nat) (hj : j < l.length) (hs : j + 1 < s.size) : s[j + 1]'hs = l[j] := by
  have h1 : s.data.toList[j + 1]'(by rw [dlen]; exact hs) = l[j] := by simp [h]
  exact h1
theorem byte_zero {s : ByteArray} {c : UInt8} {l : List UInt8} (h : s.data.toList = c :: l) (hs : 0 < s.size) : s[0]'hs = c := by
  have h1 : s.data.toList[0]'(by rw [dlen]; exact hs) = c := by simp [h]
  exact h1
theorem dv_take {l : List UInt8} {j : Nat} (hj : j < l.length) : dv (l.take (j + 1)) = dv (l.take j) * 10 + (l[j].toNat - 48) := by
  rw [List.take_add_one, List.getElem?_eq_getElem hj]
  exact dv_snoc _ _

theorem parser_size (s : ByteArray) (w : World) (hs : s.size ≤ maxLen) (h : ¬ s.size = 7) :
    Calls Try.prog 15 #[.string s] w (NoName w) := by
  unfold maxLen at hs
  have t1 : ((s.size : Int) != 7) = true := by simp; omega
  have t2 : ((s.size : Int) == 7) = false := beq_eq_false_iff_ne.2 (by omega)
  clear h
  go_enter Try.func15, Try.ntmps15
  go_wp2
  go_ret3
  exact ⟨rfl, rfl⟩

theorem parser_letter (s : ByteArray) (w : World) (hz : 0 < s.size) (h : s.size = 7) (c : UInt8) (hc : s[0]'hz = c) (hk : isK c = false) :
    Calls Try.prog 15 #[.string s] w (NoName w) := by
  have t1 : ((s.size : Int) != 7) = false := by simp; omega
  have t2 : ((s.size : Int) == 7) = true := beq_iff_eq.2 (by omega)
  simp only [isK, Bool.or_eq_false_iff, beq_eq_false_iff_ne] at hk
  obtain ⟨⟨h1, h2⟩, h3⟩ := hk
  have n1 : ¬ c.toNat = 99 := fun e => h1 (UInt8.toNat_inj.1 e)
  have n2 : ¬ c.toNat = 116 := fun e => h2 (UInt8.toNat_inj.1 e)
  have n3 : ¬ c.toNat = 98 := fun e => h3 (UInt8.toNat_inj.1 e)
  have u1 : ((c.toNat : Int) != 99) = true := by simp; omega
  have u2 : ((c.toNat : Int) != 116) = true := by simp; omega
  have u3 : ((c.toNat : Int) != 98) = true := by simp; omega
  have v1 : ((c.toNat : Int) == 99) = false := beq_eq_false_iff_ne.2 (by omega)
  have v2 : ((c.toNat : Int) == 116) = false := beq_eq_false_iff_ne.2 (by omega)
  have v3 : ((c.toNat : Int) == 98) = false := beq_eq_false_iff_ne.2 (by omega)
  have hz' : (0 : Int) < (s.size : Int) := by omega
  clear h h1 h2 h3 n1 n2 n3
  go_enter Try.func15, Try.ntmps15
  go_wp2
  go_ret3
  exact ⟨rfl, rfl⟩

set_option maxHeartbeats 1600000 in
theorem parser_loop (s : ByteArray) (w : World) (hz : 0 < s.size) (h : s.size = 7) (c : UInt8) (l : List UInt8) (hl : s.data.toList = c :: l) (hk : isK c = true) :
    Calls Try.prog 15 #[.string s] w fun e w' => e = .returned (.tuple #[.int .u8 (npK s : Nat), .int .i64 (npN s : Nat), .bool (npOk s)]) ∧ w = w' := by
  have t1 : ((s.size : Int) != 7) = false := by simp; omega
  have t2 : ((s.size : Int) == 7) = true := beq_iff_eq.2 (by omega)
  have hl6 : l.length = 6 := by have := dlen s; rw [hl, List.length_cons] at this; omega
  have hc := byte_zero hl hz
  have hz' : (0 : Int) < (s.size : Int) := by omega
  have HB := Lib.hid fun (j : Nat) (hj : j < l.length) => (⟨by omega, byte_of hl j hj (by omega)⟩ : ∃ hs : j + 1 < s.size, s[j + 1]'hs = l[j])
  have Hyes := Lib.hid fun (hall : ∀ x ∈ l, isD x = true) => np_of c l hl6 hk hall
  have hbs : bs (c :: l) = s := by rw [← hl, bs_self]
  rw [hbs] at Hyes
  have Hno := Lib.hid fun (j : Nat) (hj : j < l.length) (hd : isD l[j] = false) => np_wrong (s := s) (fun c' l' e => by
    rw [hl] at e
    cases e
    rintro ⟨_, _, ha⟩
    rw [ha _ (List.getElem_mem hj)] at hd
    cases hd)
  have Hd := Lib.hid fun (j : Nat) (hj : j ≤ l.length) (hall : ∀ i (hi : i < l.length), i < j → isD l[i] = true) => (by
    have h1 := dv_lt (l := l.take j) (fun x hx => by
      obtain ⟨i, hi⟩ := List.getElem?_of_mem hx
      rw [List.getElem?_take] at hi
      by_cases hij : i < j
      · rw [if_pos hij] at hi
        obtain ⟨hlt, e⟩ := List.getElem?_eq_some_iff.1 hi
        rw [← e]
        exact hall i hlt hij
      · rw [if_neg hij] at hi
        cases hi)
    rw [List.length_take] at h1
    have : 10 ^ min j l.length ≤ 10 ^ 6 := Nat.pow_le_pow_right (by decide) (by omega)
    omega : dv (l.take j) ≤ 999999)
  have H99 : c.toNat = 99 ∨ c.toNat = 116 ∨ c.toNat = 98 := by
    simp only [isK, Bool.or_eq_true, beq_iff_eq] at hk
    rcases hk with (rfl | rfl) | rfl
    · exact Or.inl rfl
    · exact Or.inr (Or.inl rfl)
    · exact Or.inr (Or.inr rfl)
  obtain ⟨K, hK⟩ : ∃ K, npK s = K := ⟨_, rfl⟩
  obtain ⟨N, hN⟩ : ∃ N, npN s = N := ⟨_, rfl⟩
  obtain ⟨o, ho⟩ : ∃ o, npOk s = o := ⟨_, rfl⟩
  rw [hK, hN, ho]
  have HK := Lib.hid (And.intro hK (And.intro hN ho))
  clear h hl hK hN ho hbs hk
  rcases H99 with e | e | e
  all_goals
    go_enter Try.func15, Try.ntmps15
    go_wp2
    go_loopw [5, 6] (fun n i wr => ∃ j : Nat, j ≤ 6 ∧ i = .int .i64 (j + 1 : Nat) ∧ n = .int .i64 (dv (l.take j) : Nat) ∧ (∀ i (hi : i < l.length), i < j → isD l[i] = true) ∧ w = wr) (fun _ i _ => 7 - (intOf i).toNat)
    case atStart => exact ⟨0, Nat.zero_le _, rfl, rfl, fun i hi h => absurd h (by omega), rfl⟩
    case round =>
      obtain ⟨j, hj, rfl, rfl, hall, rfl⟩ := hrel
      have hdv := Hd.out j (by omega) hall
      have HA := Lib.hid hall
      clear hall
      by_cases hlt : j < 6
      · obtain ⟨hs1, hs2⟩ := HB.out j (by omega)
        have hx1 : ((j : Int) + 1).toNat = j + 1 := by omega
        have hs3 : ((j : Int) + 1) < (s.size : Int) := by omega
        have hd256 := (l[j]'(by omega)).toNat_lt
        cases hd : isD (l[j]'(by omega)) with
        | false =>
          have hno := Hno.out j (by omega) hd
          obtain ⟨x1, x2⟩ := np_no hno
          obtain ⟨y1, y2, y3⟩ := HK.out
          rw [x1] at y1
          rw [x2] at y2
          rw [hno] at y3
          subst y1 y2 y3
          simp only [isD, decide_eq_false_iff_not] at hd
          have hdd : (l[j]'(by omega)).toNat < 48 ∨ 57 < (l[j]'(by omega)).toNat := by omega
          generalize l[j]'(by omega) = d at *
          clear hd x1 x2 hno
          by_cases h48 : d.toNat < 48
          · have v1 : decide ((d.toNat : Int) < 48) = true := decide_eq_true (by omega)
            clear hdd
            go_wp2
            go_ret3
            exact ⟨rfl, rfl⟩
          · have v1 : decide ((d.toNat : Int) < 48) = false := decide_eq_false (by omega)
            have v2 : decide ((57 : Int) < (d.toNat : Int)) = true := decide_eq_true (by omega)
            clear hdd
            go_wp2
            go_ret3
            exact ⟨rfl, rfl⟩
        | true =>
          have HT := Lib.hid (dv_take (l := l) (j := j) (by omega))
          have HN : ∀ i (hi : i < l.length), i < j + 1 → isD l[i] = true := fun i hi hij => by
            by_cases e : i = j
            · subst e; exact hd
            · exact HA.out i hi (by omega)
          have HN' := Lib.hid HN
          simp only [isD, decide_eq_true_eq] at hd
          generalize l[j]'(by omega) = d at *
          obtain ⟨d1, d2⟩ := hd
          have v1 : decide ((d.toNat : Int) < 48) = false := decide_eq_false (by omega)
          have v2 : decide ((57 : Int) < (d.toNat : Int)) = false := decide_eq_false (by omega)
          generalize dv (l.take j) = m at *
          clear HN
          go_wp2
          go_roundw
          case rel => exact ⟨j + 1, by omega, by go_num, by rw [HT.out]; go_num, HN'.out, trivial⟩
          case measure => simp [intOf]; omega
      · obtain rfl : j = 6 := by omega
        have hall : ∀ x ∈ l, isD x = true := fun x hx => by
          obtain ⟨i, hi⟩ := List.getElem?_of_mem hx
          obtain ⟨hlt', e'⟩ := List.getElem?_eq_some_iff.1 hi
          rw [← e']
          exact HA.out i hlt' (by omega)
        obtain ⟨x1, x2, x3⟩ := Hyes.out hall
        obtain ⟨y1, y2, y3⟩ := HK.out
        rw [x2, e] at y1
        rw [x3] at y2
        rw [x1] at y3
        have ht : l.take 6 = l := List.take_of_length_le (by omega)
        rw [ht]
        subst y1 y2 y3
        clear x1 x2 x3 ht hall
        go_wp2
        go_ret3
        exact ⟨rfl, rfl⟩

/-- The document's Parse. -/
theorem parser_any (s : ByteArray) (w : World) (hs : s.size ≤ maxLen) :
    Calls Try.prog 15 #[.string s] w fun e w' => e = .returned (.tuple #[.int .u8 (npK s : Nat), .int .i64 (npN s : Nat), .bool (npOk s)]) ∧ w = w' := by
  by_cases h7 : s.size = 7
  · cases hl : s.data.toList with
    | nil =>
      have := dlen s
      rw [hl, h7] at this
      cases this
    | cons c l =>
      cases hk : isK c with
      | true => exact parser_loop s w (by omega) h7 c l hl hk
      | false =>
        obtain ⟨x1, x2⟩ := np_no (np_wrong (s := s) (fun c' l' e => by
          rw [hl] at e
          cases e
          rintro ⟨_, h, _⟩
          rw [hk] at h
          cases h))
        have x3 := np_wrong (s := s) (fun c' l' e => by
          rw [hl] at e
          cases e
          rintro ⟨_, h, _⟩
          rw [hk] at h
          cases h)
        rw [x1, x2, x3]
        exact parser_letter s w (by omega) h7 c (byte_zero hl (by omega)) hk
  · have x3 := np_wrong (s := s) (fun c' l' e => by
      rintro ⟨h, _, _⟩
      have := dlen s
      rw [e, List.length_cons] at this
      omega)
    obtain ⟨x1, x2⟩ := np_no x3
    rw [x1, x2, x3]
    exact parser_size s w hs h7
end Go.Proofs.Ytaphmmbngjblhaa
