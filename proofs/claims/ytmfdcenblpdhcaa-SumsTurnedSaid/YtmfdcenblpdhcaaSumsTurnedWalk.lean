/- The walk of annalistlaw02.SumsTurned. -/
import Derived.Test.YtmfdcenblpdhcaaSumsEx
import Derived.Test.YtmfdcenblpdhcaaBytes
namespace Go.Proofs.Ytmfdcenblpdhcaa.sumsTurnedW
open Go.RowKit
set_option linter.unusedVariables false

theorem long (s : ByteArray) (x y : Int) (hs : s.size ≤ maxLen) (h : 5000 < s.size ∨ y = 0) (w : World) :
    Calls Try.prog 6 #[.string s, .int .u16 x, .int .u32 y] w fun e w' => e = .returned (.bool true) ∧ Below w.heap.size w w' := by
  unfold maxLen at hs
  by_cases h1 : 5000 < s.size
  · go_enter Try.func6, Try.ntmps6
    go_wp2_with fail
    refine (summed_true _).mono ?_
    rintro e w' ⟨rfl, hb⟩
    go_wp2
    go_ret
    exact ⟨rfl, ‹Below _ _ _›⟩
  · obtain rfl : y = 0 := by omega
    go_enter Try.func6, Try.ntmps6
    go_wp2_with fail
    refine (summed_true _).mono ?_
    rintro e w' ⟨rfl, hb⟩
    go_wp2
    go_ret
    exact ⟨rfl, ‹Below _ _ _›⟩

/-- A list of which i bytes from place k on are turned over by y's bytes, the lowest one first. -/
def tw (y k i : Nat) (l : List UInt8) : List UInt8 := l.mapIdx fun j c => if k ≤ j ∧ j < k + i then c ^^^ UInt8.ofNat (y / 256 ^ (j - k)) else c
theorem tw_length (y k i : Nat) (l : List UInt8) : (tw y k i l).length = l.length := by unfold tw; rw [List.length_mapIdx]
theorem tw_at (y k i : Nat) (l : List UInt8) (j : Nat) : (tw y k i l)[j]? = (l[j]?).map fun c => if k ≤ j ∧ j < k + i then c ^^^ UInt8.ofNat (y / 256 ^ (j - k)) else c := by
  unfold tw
  rw [List.getElem?_mapIdx]
theorem tw_zero (y k : Nat) (l : List UInt8) : tw y k 0 l = l := by
  apply List.ext_getElem?
  intro j
  rw [tw_at]
  cases h : l[j]? with
  | none => rfl
  | some c => simp; omega
theorem tw_out (y k i : Nat) (l : List UInt8) (j : Nat) (h : j < k ∨ k + i ≤ j) : (tw y k i l)[j]? = l[j]? := by
  rw [tw_at]
  cases h : l[j]? with
  | none => rfl
  | some c => rw [Option.map_some, if_neg (by omega)]
/-- One byte more. -/
theorem tw_step (y k i n : Nat) (l : List UInt8) (hl : l.length = n) (j : Nat) (hj : j < n) (hk : k + i < n) :
    (if j = k + i then Value.int .u8 (bits .xor .u8 (((tw y k i l).getD (k + i) 0).toNat : Int) ((y : Int) / 2 ^ (8 * i) % 256)) else u8At (tw y k i l) j) = u8At (tw y k (i + 1) l) j := by
  have hc : ((tw y k i l).getD (k + i) 0) = l.getD (k + i) 0 := by
    rw [List.getD_eq_getElem?_getD, List.getD_eq_getElem?_getD, tw_out y k i l _ (by omega)]
  by_cases h : j = k + i
  · rw [if_pos h, h, hc, byte_val, u8_xor_nat _ _ (UInt8.toNat_lt _) (Nat.mod_lt _ (by decide))]
    unfold u8At
    rw [List.getD_eq_getElem?_getD, List.getD_eq_getElem?_getD, tw_at, List.getElem?_eq_getElem (by omega)]
    simp only [Option.getD_some, Option.map_some]
    rw [if_pos (by omega), UInt8.toNat_xor, UInt8.toNat_ofNat', show k + i - k = i by omega]
  · rw [if_neg h]
    unfold u8At
    rw [List.getD_eq_getElem?_getD, List.getD_eq_getElem?_getD, tw_at, tw_at]
    cases e : l[j]? with
    | none => rfl
    | some c =>
      simp only [Option.map_some]
      by_cases h2 : k ≤ j ∧ j < k + i
      · rw [if_pos h2, if_pos (by omega)]
      · rw [if_neg h2, if_neg (by omega)]
theorem byte_zero (y : Nat) (hy : y < 4294967296) (h : ∀ i, i < 4 → UInt8.ofNat (y / 256 ^ i) = 0) : y = 0 := by
  have p1 : (256 : Nat) ^ 1 = 256 := by decide
  have p2 : (256 : Nat) ^ 2 = 65536 := by decide
  have p3 : (256 : Nat) ^ 3 = 16777216 := by decide
  have h' : ∀ i, i < 4 → y / 256 ^ i % 256 = 0 := fun i hi => by
    have e := congrArg UInt8.toNat (h i hi)
    rw [UInt8.toNat_ofNat'] at e
    exact e
  have h0 := h' 0 (by decide)
  have h1 := h' 1 (by decide)
  have h2 := h' 2 (by decide)
  have h3 := h' 3 (by decide)
  rw [Nat.pow_zero, Nat.div_one] at h0
  rw [p1] at h1
  rw [p2] at h2
  rw [p3] at h3
  omega
theorem xor_self8 {a b : UInt8} (h : a ^^^ b = a) : b = 0 := by
  have h1 := congrArg UInt8.toNat h
  rw [UInt8.toNat_xor] at h1
  have h2 : a.toNat ^^^ b.toNat = a.toNat ^^^ 0 := by rw [h1, Nat.xor_zero]
  exact UInt8.toNat_inj.1 (xor_cancel h2)
theorem tw_other (y k : Nat) (l : List UInt8) (hy : y < 4294967296) (h0 : y ≠ 0) (hk : k + 4 ≤ l.length) : tw y k 4 l ≠ l := by
  intro e
  apply h0
  apply byte_zero y hy
  intro i hi
  have h := tw_at y k 4 l (k + i)
  rw [e, List.getElem?_eq_getElem (by omega)] at h
  simp only [Option.map_some, Option.some.injEq] at h
  rw [if_pos (by omega), show k + i - k = i by omega] at h
  exact xor_self8 h.symm

/-- Lists that differ within four places, side by side, alone, and have one state behind them, are the same. -/
theorem window {x : Nat} (hx : x < 4294967296) (l m : List UInt8) (k : Nat) (hl : l.length = m.length) (ho : ∀ j, j < k ∨ k + 4 ≤ j → l[j]? = m[j]?) (e : foldS x l = foldS x m) : l = m := by
  have cut : ∀ l : List UInt8, l = l.take k ++ (l.drop k).take 4 ++ l.drop (k + 4) := fun l => by
    have h1 := List.take_append_drop k l
    have h2 := List.take_append_drop 4 (l.drop k)
    rw [List.drop_drop] at h2
    rw [List.append_assoc, h2, h1]
  have e1 : l.take k = m.take k := by
    apply List.ext_getElem?
    intro j
    rw [List.getElem?_take, List.getElem?_take]
    split
    · exact ho j (Or.inl (by omega))
    · rfl
  have e2 : l.drop (k + 4) = m.drop (k + 4) := by
    apply List.ext_getElem?
    intro j
    rw [List.getElem?_drop, List.getElem?_drop]
    exact ho _ (Or.inr (by omega))
  rw [cut l, cut m, e1, e2] at e
  have h := foldS_turned hx _ _ (by simp only [List.length_take, List.length_drop]; omega) (by rw [List.length_take]; omega) e
  rw [cut l, cut m, e1, e2, h]

theorem open_turned (s : ByteArray) (y k : Nat) (hy : y < 4294967296) (h0 : y ≠ 0) (hk : k + 4 ≤ s.size + 4) :
    opOk (bs (tw y k 4 (sealS s).data.toList)) = false ∧ opA (bs (tw y k 4 (sealS s).data.toList)) = ByteArray.empty := by
  have hsl : (sealS s).data.toList = s.data.toList ++ tailS s.data.toList := by simp [sealS, bs]
  have hl : s.data.toList.length = s.size := Array.length_toList
  have hL : (sealS s).data.toList.length = s.size + 4 := by rw [hsl, List.length_append, tailS_length, hl]
  have hf : foldS 4294967295 (sealS s).data.toList = stk 32 4294967295 := by
    rw [hsl]
    exact (sealed_iff _ _ (tailS_length _)).1 rfl
  have hne := tw_other y k (sealS s).data.toList hy h0 (by omega)
  generalize (sealS s).data.toList = L at *
  have hT := tw_length y k 4 L
  have hout := tw_out y k 4 L
  generalize tw y k 4 L = T at *
  have h1 : opOk (bs T) = false := by
    by_cases h : opOk (bs T) = true
    · exfalso
      apply hne
      refine window (x := 4294967295) (by decide) T L k hT hout ?_
      rw [hf]
      obtain ⟨h4, h5⟩ := of_decide_eq_true h
      have e1 : (bs T).size = T.length := bs_size T
      have e2 : (bs T).data.toList = T := by simp [bs]
      have e3 : ((bs T).extract 0 ((bs T).size - 4)).data.toList = T.take (T.length - 4) := by rw [e1]; simp [bs]
      have e4 : ((bs T).extract ((bs T).size - 4) (bs T).size).data.toList = T.drop (T.length - 4) := by
        rw [e1]
        simp [bs]
        exact List.take_of_length_le (by rw [List.length_drop]; omega)
      have h6 := congrArg (fun s : ByteArray => s.data.toList) h5
      simp only [e4, e3] at h6
      have e5 : (bs (tailS (T.take (T.length - 4)))).data.toList = tailS (T.take (T.length - 4)) := by simp [bs]
      rw [e5] at h6
      have h7 := (sealed_iff (T.take (T.length - 4)) (T.drop (T.length - 4)) (by rw [List.length_drop]; omega)).1 h6
      rw [List.take_append_drop] at h7
      exact h7
    · simpa using h
  refine ⟨h1, ?_⟩
  unfold opA
  rw [if_neg (by rw [h1]; decide)]

theorem sum_turned (l m : List UInt8) (k : Nat) (hl : l.length = m.length) (ho : ∀ j, j < k ∨ k + 4 ≤ j → l[j]? = m[j]?) (hne : l ≠ m) : sumS l ≠ sumS m :=
  fun e => hne (window (x := 4294967295) (by decide) l m k hl ho (sumS_inj e))

theorem tmod_val (a N : Nat) (hN : 3 < N) : (a : Int) % ((N : Int) - 3) = ((a % (N - 3) : Nat) : Int) := by
  have e : (N : Int) - 3 = ((N - 3 : Nat) : Int) := by omega
  rw [e]; rfl

set_option maxHeartbeats 2000000 in
theorem short (s : ByteArray) (a y : Nat) (ha : a < 65536) (hy : y < 4294967296) (h0 : 0 < y) (hs : s.size ≤ 5000) (w : World) :
    Calls Try.prog 6 #[.string s, .int .u16 (a : Nat), .int .u32 (y : Nat)] w fun e w' => e = .returned (.bool true) ∧ Below w.heap.size w w' := by
  have hseal := Lib.hid (fun w => seal_any s w (by unfold maxLen; omega))
  have hN : (sealS s).size = s.size + 4 := by
    unfold sealS
    rw [ByteArray.size_append, bs_size, tailS_length]
  obtain ⟨k, hk⟩ : ∃ k, k = a % ((sealS s).size - 3) := ⟨_, rfl⟩
  have hk2 : k + 4 ≤ (sealS s).size := by
    have := Nat.mod_lt a (show 0 < (sealS s).size - 3 by omega)
    omega
  have hkv := tmod_val a (sealS s).size (by omega)
  rw [← hk] at hkv
  have hop := open_turned s y k hy (by omega) (by omega)
  have hconv := fun W => conv_in W (sealS s)
  have hrow0 := fun W => bytesIn_row 5 W (sealS s)
  have hbel0 := fun (W : World) => bytesIn_below 5 (w0 := w) (w := W) (sealS s)
  have hLl : (sealS s).data.toList.length = (sealS s).size := Array.length_toList
  generalize sealS s = t at *
  have hy0 : ((y : Int) == 0) = false := by simp; omega
  have hsz : ((t.size : Int) != (s.size : Int) + 4) = false := by rw [hN]; simp
  have n1 : (4 : Int) ≤ (t.size : Int) := by omega
  have n2 : (t.size : Int) ≤ 5004 := by omega
  have Hrow0 := Lib.hid hrow0
  have Hbel0 := Lib.hid hbel0
  have HN := Lib.hid hN
  have Hk := Lib.hid hk
  have Hop := Lib.hid hop
  have HL := Lib.hid hLl
  clear hrow0 hbel0 hN hk hop hLl
  go_enter Try.func6, Try.ntmps6
  go_wp2_with fail
  refine (hseal.out _).mono ?_
  rintro e w1 ⟨rfl, hb1⟩
  go_wp2_with fail
  rw [hkv]
  have hrow := Hrow0.out w1
  have hbel := Hbel0.out w1 hb1
  have hB : w.heap.size ≤ w1.heap.size := hb1.size
  clear hkv hconv hsz Hrow0 Hbel0 Hk hy0 hb1
  generalize bytesIn 5 w1 t = w2 at *
  generalize grownCap w1 t.size 0 5 = cap at *
  generalize w1.heap.size = B at *
  have HN2 := HN.out
  have HL2 := HL.out
  clear HN HL
  clear hseal
  generalize t.size = N at *
  generalize t.data.toList = L at *
  have HN := Lib.hid HN2
  have HL := Lib.hid HL2
  clear HN2 HL2
  go_loopw [9] (fun i wr => ∃ m : Nat, m ≤ 4 ∧ i = .int .i64 m ∧ RowB wr B N (u8At (tw y k m L)) ∧ Below w.heap.size w wr) (fun i _ => 4 - (intOf i).toNat)
  case atStart => exact ⟨0, by omega, rfl, by rw [tw_zero]; exact hrow, hbel⟩
  case round =>
    clear hrow hbel
    obtain ⟨m, hm, rfl, hrow, hbel⟩ := hrel
    by_cases hlt : m < 4
    · have hcell := hrow.cell (i := k + m) (by omega)
      have hfz := hrow.frozen (i := k + m) (by omega)
      have hst := Lib.hid (fun j hj => tw_step y k m N L HL.out j hj (by omega))
      have s1 : (k : Int) + (m : Int) < (N : Int) := by omega
      unfold u8At at hcell
      generalize hz : (tw y k m L).getD (k + m) 0 = z at *
      have Hz := Lib.hid hz
      clear hz
      go_wp2_with fail
      go_region
      go_wp2
      go_roundw
      case rel => exact ⟨m + 1, by omega, by go_num, ((hrow.set _ _).congr (fun j hj => hst.out j hj)).drew, (hbel.setCell hB _).drew⟩
      case measure => simp [intOf]; omega
    · obtain rfl : m = 4 := by omega
      have hcv : (convert 33 9 (.slice (some ⟨B, 0, none⟩) N cap)).run Try.prog wr = .ok (.string (bs (tw y k 4 L))) wr := conv_out hrow (by rw [tw_length, HL.out]) cap
      have hopen := fun W => open_any (bs (tw y k 4 L)) W (by rw [bs_size, tw_length, HL.out]; unfold maxLen; omega)
      rw [Hop.out.1, Hop.out.2] at hopen
      have Hopen := Lib.hid hopen
      clear hopen hrow Hop hlt hm
      generalize bs (tw y k 4 L) = T at *
      have hconv := fun W => conv_in W s
      have hrow0 := fun W => bytesIn_row 5 W s
      have hbel0 := fun (W : World) => bytesIn_below 5 (w0 := w) (w := W) s
      have hLl : s.data.toList.length = s.size := Array.length_toList
      have Hrow0 := Lib.hid hrow0
      have Hbel0 := Lib.hid hbel0
      have HU := Lib.hid hLl
      clear hrow0 hbel0 hLl
      go_wp2_with fail
      refine (Hopen.out _).mono ?_
      rintro e w3 ⟨rfl, hb3⟩
      have hb4 := hbel.trans (hb3.mono hbel.size)
      have hrow := Hrow0.out w3
      have hbel2 := Hbel0.out w3 hb4
      have hB3 : w.heap.size ≤ w3.heap.size := hb4.size
      clear hbel hb3 hb4 hcv
      go_wp2_with fail
      clear hconv Hrow0 Hbel0
      generalize bytesIn 5 w3 s = w4 at *
      generalize grownCap w3 s.size 0 5 = cap2 at *
      generalize w3.heap.size = B3 at *
      have hsum := fun W => sum_any s W (by unfold maxLen; omega)
      have Hsum := Lib.hid hsum
      have hcmp := Lib.hid (fun (U : List UInt8) (h1 : U.length = s.data.toList.length) (h2 : ∀ j, j < k ∨ k + 4 ≤ j → U[j]? = s.data.toList[j]?) (hne : ¬ bs U = s) => sum_turned U s.data.toList k h1 h2 (fun e => hne (by rw [e, bs_data])))
      clear hsum
      generalize s.data.toList = U at *
      go_loopw [13] (fun i wr => ∃ m : Nat, m ≤ 4 ∧ i = .int .i64 m ∧ RowB wr B3 s.size (u8At (tw y k m U)) ∧ Below w.heap.size w wr) (fun i _ => 4 - (intOf i).toNat)
      case atStart => exact ⟨0, by omega, rfl, by rw [tw_zero]; exact hrow, hbel2⟩
      case round =>
        clear hrow hbel2
        obtain ⟨m, hm, rfl, hrow, hbel⟩ := hrel
        by_cases hlt : m < 4 ∧ k + m < s.size
        · obtain ⟨hlt, hlt2⟩ := hlt
          have hcell := hrow.cell (i := k + m) (by omega)
          have hfz := hrow.frozen (i := k + m) (by omega)
          have hst := Lib.hid (fun j hj => tw_step y k m s.size U HU.out j hj (by omega))
          have s1 : (k : Int) + (m : Int) < (s.size : Int) := by omega
          unfold u8At at hcell
          generalize hz : (tw y k m U).getD (k + m) 0 = z at *
          have Hz := Lib.hid hz
          clear hz
          go_wp2_with fail
          go_region
          go_wp2
          go_roundw
          case rel => exact ⟨m + 1, by omega, by go_num, ((hrow.set _ _).congr (fun j hj => hst.out j hj)).drew, (hbel.setCell hB3 _).drew⟩
          case measure => simp [intOf]; omega
        · have hend : 4 ≤ m ∨ s.size ≤ k + m := by omega
          have hcv : (convert 33 9 (.slice (some ⟨B3, 0, none⟩) s.size cap2)).run Try.prog wr = .ok (.string (bs (tw y k m U))) wr := conv_out hrow (by rw [tw_length, HU.out]) cap2
          have hsu := fun W => sum_any (bs (tw y k m U)) W (by rw [bs_size, tw_length, HU.out]; unfold maxLen; omega)
          have e1 : (bs (tw y k m U)).data.toList = tw y k m U := by simp [bs]
          rw [e1] at hsu
          have hne := Lib.hid (hcmp.out (tw y k m U) (tw_length y k m U) (fun j hj => tw_out y k m U j (by omega)))
          clear hrow e1
          have Hsu := Lib.hid hsu
          clear hsu
          generalize bs (tw y k m U) = V at *
          generalize sumS (tw y k m U) = r1 at *
          generalize sumS U = r2 at *
          have hcase : (m < 4 ∧ (s.size : Int) ≤ (k : Int) + (m : Int)) ∨ 4 ≤ m := by omega
          by_cases hV : V = s
          · have he := list_eq hV
            have HV := Lib.hid hV
            clear hV hlt hend
            rcases hcase with ⟨c1, c2⟩ | c1
            all_goals
              go_wp2_with fail
              refine (summed_true _).mono ?_
              rintro e w5 ⟨rfl, hb5⟩
              go_wp2
              go_ret
              exact ⟨rfl, hbel.trans (hb5.mono hbel.size)⟩
          · have he := list_ne hV
            have hr := hne.out hV
            have hr1 : ((r1 : Int) != (r2 : Int)) = true := by rw [bne_iff_ne]; omega
            clear hV hlt hend
            have Hr := Lib.hid hr
            clear hr
            rcases hcase with ⟨c1, c2⟩ | c1
            all_goals
              go_wp2_with fail
              refine (Hsu.out _).mono ?_
              rintro e w5 ⟨rfl, rfl⟩
              go_wp2_with fail
              refine (Hsum.out _).mono ?_
              rintro e w5 ⟨rfl, rfl⟩
              go_wp2_with fail
              refine (summed_true _).mono ?_
              rintro e w5 ⟨rfl, hb5⟩
              go_wp2
              go_ret
              exact ⟨rfl, hbel.trans (hb5.mono hbel.size)⟩

theorem walk (a0 : ByteArray) (a1 a2 : Int) (w0 : a0.size ≤ maxLen) (w1 : (Lit.int .u16 a1).wf = true) (w2 : (Lit.int .u32 a2).wf = true) (w : World) :
    Calls Try.prog 6 #[.string a0, .int .u16 a1, .int .u32 a2] w fun e w' => e = .returned (.bool true) ∧ Below w.heap.size w w' := by
  by_cases h : a0.size ≤ 5000 ∧ a2 ≠ 0
  · obtain ⟨i, rfl, hi⟩ := u16_nat w1
    obtain ⟨j, rfl, hj⟩ := u32_nat w2
    exact short a0 i j hi hj (by omega) h.1 w
  · exact long a0 a1 a2 w0 (by omega) w
end Go.Proofs.Ytmfdcenblpdhcaa.sumsTurnedW
