/- The walk of annalistlaw02.SumsAlike. -/
import Derived.Test.YtmfdcenblpdhcaaSumsEx
import Derived.Deep.DeepCutAuto
namespace Go.Proofs.Ytmfdcenblpdhcaa.sumsAlikeW
open Go.RowKit
set_option linter.unusedVariables false

/-- The byte at a place. -/
def at8 (s : ByteArray) (j : Nat) : UInt8 := s.data.toList.getD j 0
theorem at8_get (s : ByteArray) (j : Nat) (h : j < s.size) : at8 s j = s[j] := by
  unfold at8
  have hl : s.data.toList.length = s.size := Array.length_toList
  rw [List.getD_eq_getElem?_getD, List.getElem?_eq_getElem (by omega)]
  rfl
/-- What stands at place j of the new list, when k are laid. -/
def laidX (a b c : ByteArray) (k j : Nat) : Value := .int .u8 (if j < k then ((at8 a j ^^^ at8 b j ^^^ at8 c j).toNat : Int) else 0)
theorem laidX_step (a b c : ByteArray) (k j : Nat) : (if j = k then Value.int .u8 ((at8 a k ^^^ at8 b k ^^^ at8 c k).toNat : Int) else laidX a b c k j) = laidX a b c (k + 1) j := by
  unfold laidX
  by_cases h : j = k
  · rw [if_pos h, if_pos (by omega), h]
  · rw [if_neg h]
    by_cases h2 : j < k
    · rw [if_pos h2, if_pos (by omega)]
    · rw [if_neg h2, if_neg (by omega)]
theorem xor8 (x y z : UInt8) : bits .xor .u8 (bits .xor .u8 (x.toNat : Int) (y.toNat : Int)) (z.toNat : Int) = ((x ^^^ y ^^^ z).toNat : Int) := by
  rw [u8_xor_nat _ _ x.toNat_lt y.toNat_lt, ← UInt8.toNat_xor, u8_xor_nat _ _ (x ^^^ y).toNat_lt z.toNat_lt, ← UInt8.toNat_xor]
theorem xor3_length : ∀ l m n : List UInt8, l.length = m.length → m.length = n.length → (xor3 l m n).length = l.length
  | [], [], [], _, _ => rfl
  | a :: l, b :: m, c :: n, h1, h2 => by rw [xor3, List.length_cons, List.length_cons, xor3_length l m n (by simpa using h1) (by simpa using h2)]
  | [], _ :: _, _, h, _ => by simp at h
  | _ :: _, [], _, h, _ => by simp at h
  | _, [], _ :: _, _, h => by simp at h
  | _, _ :: _, [], _, h => by simp at h
theorem xor3_at : ∀ (l m n : List UInt8) (j : Nat), l.length = m.length → m.length = n.length → j < l.length → (xor3 l m n).getD j 0 = l.getD j 0 ^^^ m.getD j 0 ^^^ n.getD j 0
  | a :: l, b :: m, c :: n, 0, _, _, _ => rfl
  | a :: l, b :: m, c :: n, j + 1, h1, h2, h3 => by
    have h := xor3_at l m n j (by simpa using h1) (by simpa using h2) (by simpa using h3)
    simpa [xor3] using h
  | [], _, _, _, _, _, h => by simp at h
  | _ :: _, [], _, _, h, _, _ => by simp at h
  | _ :: _, _ :: _, [], _, _, h, _ => by simp at h
/-- The three texts, cut to n bytes, put against each other. -/
def allX (a b c : ByteArray) (n : Nat) : List UInt8 := xor3 (a.data.toList.take n) (b.data.toList.take n) (c.data.toList.take n)
theorem allX_length (a b c : ByteArray) (n : Nat) (ha : n ≤ a.size) (hb : n ≤ b.size) (hc : n ≤ c.size) : (allX a b c n).length = n := by
  have la : a.data.toList.length = a.size := Array.length_toList
  have lb : b.data.toList.length = b.size := Array.length_toList
  have lc : c.data.toList.length = c.size := Array.length_toList
  unfold allX
  rw [xor3_length _ _ _ (by simp only [List.length_take]; omega) (by simp only [List.length_take]; omega), List.length_take]
  omega
theorem laidX_full (a b c : ByteArray) (n j : Nat) (ha : n ≤ a.size) (hb : n ≤ b.size) (hc : n ≤ c.size) (h : j < (allX a b c n).length) : laidX a b c n j = .int .u8 ((allX a b c n)[j].toNat : Int) := by
  have la : a.data.toList.length = a.size := Array.length_toList
  have lb : b.data.toList.length = b.size := Array.length_toList
  have lc : c.data.toList.length = c.size := Array.length_toList
  have hj : j < n := by rw [allX_length a b c n ha hb hc] at h; exact h
  have e := xor3_at (a.data.toList.take n) (b.data.toList.take n) (c.data.toList.take n) j (by simp only [List.length_take]; omega) (by simp only [List.length_take]; omega) (by simp only [List.length_take]; omega)
  have e2 : (allX a b c n)[j] = (allX a b c n).getD j 0 := by rw [List.getD_eq_getElem?_getD, List.getElem?_eq_getElem h]; rfl
  have t : ∀ l : List UInt8, (l.take n).getD j 0 = l.getD j 0 := fun l => by simp [List.getD_eq_getElem?_getD, hj]
  unfold laidX
  rw [if_pos hj, e2]
  unfold allX at8
  rw [e, t, t, t]

theorem take_len (s : ByteArray) (k : Nat) (h : k ≤ s.size) : (s.data.toList.take k).length = k := by
  have hl : s.data.toList.length = s.size := Array.length_toList
  rw [List.length_take]
  omega
theorem ext_take (s : ByteArray) (n : Nat) : (s.extract 0 n).data.toList = s.data.toList.take n := by simp

/-- The new list is there, and below nothing has changed. -/
def Keep (w : World) (n : Nat) (f : Nat → Value) (W : World) : Prop := W.rowIs w.heap.size 5 n f ∧ Below w.heap.size w W
theorem Keep.drew {w W : World} {n : Nat} {f : Nat → Value} (h : Keep w n f W) : Keep w n f W.drew := ⟨h.1.drew, h.2.drew⟩
theorem Keep.step {w W W' : World} {n : Nat} {f : Nat → Value} (h : Keep w n f W) (hb : Below W.heap.size W W') : Keep w n f W' :=
  ⟨h.1.of_block (hb.block _ h.1.lt), h.2.trans (hb.mono h.2.size)⟩
theorem summed_keep (w W : World) (n : Nat) (f : Nat → Value) (h : Keep w n f W) : Calls Try.prog 8 #[] W fun e w' => e = .returned (.bool true) ∧ Keep w n f w' :=
  (summed_true W).mono fun e w' ⟨he, hb⟩ => ⟨he, h.step hb⟩
theorem conv_row (w : World) (n : Nat) (f : Nat → Value) (l : List UInt8) (hl : l.length = n) (hf : ∀ (j : Nat) (h : j < l.length), f j = .int .u8 (l[j].toNat : Int)) :
    ∀ W, Keep w n f W → (convert 33 9 (.slice (some ⟨w.heap.size, 0, none⟩) n n)).run Try.prog W = .ok (.string (bs l)) W := by
  intro W hW
  have h := run_convert_bytes_back (P := Try.prog) W 33 9 5 ⟨w.heap.size, 0, none⟩ n l Try.underlying33 Try.underlying5 Try.underlying9
    (fun j hj => by
      have e : (⟨w.heap.size, 0, none⟩ : Addr).add j = ⟨w.heap.size, j, none⟩ := by simp [Addr.add]; omega
      rw [e, hW.1.cell (by rw [hl] at hj; exact hj), hf j hj])
  rw [hl] at h
  exact h
theorem xor_eq (x y z r : Nat) (hx : x < 4294967296) (hy : y < 4294967296) (hz : z < 4294967296) (h : r = x ^^^ y ^^^ z) : ((r : Int) == bits .xor .u32 (bits .xor .u32 (x : Int) (y : Int)) (z : Int)) = true := by
  rw [u32_xor_nat x y hx hy, u32_xor_nat _ z (xor_lt hx hy) hz, h]
  exact beq_self_eq_true _

set_option maxHeartbeats 1000000 in
theorem short (a b c : ByteArray) (ha : a.size ≤ maxLen) (hb : b.size ≤ maxLen) (hc : c.size ≤ maxLen) (w : World) :
    Calls Try.prog 7 #[.string a, .string b, .string c] w fun e w' => e = .returned (.bool true) ∧ Below w.heap.size w w' := by
  unfold maxLen at ha hb hc
  go_enter Try.func7, Try.ntmps7
  go_upto_region 1 with fail
  go_cut [7] (fun v wx => ∃ n : Nat, v = .int .i64 n ∧ n ≤ a.size ∧ n ≤ b.size ∧ n ≤ c.size ∧ wx = w)
  case first =>
    go_wp2_with fail
    all_goals
      go_meet
      first
        | exact ⟨a.size, rfl, by omega, by omega, by omega, rfl⟩
        | exact ⟨b.size, rfl, by omega, by omega, by omega, rfl⟩
        | exact ⟨c.size, rfl, by omega, by omega, by omega, rfl⟩
  case rest =>
    obtain ⟨n, rfl, na, nb, nc, rfl⟩ := hcut
    by_cases hn : 3000 < n
    · go_wp2_with fail
      refine (summed_true _).mono ?_
      rintro e w' ⟨rfl, hb⟩
      go_wp2
      go_ret
      exact ⟨rfl, ‹Below _ _ _›⟩
    · have hmk := run_make_row' (P := Try.prog) 33 5 (.int .u8 0) 1 Try.underlying33 (by kernel_rfl) rfl .i64 .i64 n (by omega) (by omega)
      go_wp2_with fail
      go_loopw [9] (fun i wr => ∃ k : Nat, k ≤ n ∧ i = .int .i64 k ∧ wr.rowIs wc.heap.size 5 n (laidX a b c k) ∧ Below wc.heap.size wc wr) (fun i _ => n - (intOf i).toNat)
      case atStart => exact ⟨0, Nat.zero_le _, rfl, (World.rowIs_made _ _ _ _).congr (fun j hj => by unfold laidX; rw [if_neg (by omega)]), (Below.refl _ _).alloc (Nat.le_refl _) _⟩
      case round =>
        obtain ⟨k, hk, rfl, hrow, hbel⟩ := hrel
        by_cases hlt : k < n
        · have hcell := hrow.cell (i := k) hlt
          have hfz := hrow.frozen k
          have ka : (k : Int) < (a.size : Int) := by omega
          have kb : (k : Int) < (b.size : Int) := by omega
          have kc : (k : Int) < (c.size : Int) := by omega
          have kn : (k : Int) < (n : Int) := by omega
          go_wp2_with fail
          go_region
          go_wp2
          go_roundw
          case rel =>
            rw [← at8_get a k (by omega), ← at8_get b k (by omega), ← at8_get c k (by omega), xor8]
            exact ⟨k + 1, by omega, by go_num, ((hrow.set _ _).congr (fun j _ => laidX_step a b c k j)).drew, (hbel.setCell (Nat.le_refl _) _).drew⟩
          case measure => simp [intOf]; omega
        · obtain rfl : k = n := by omega
          have hcv := conv_row wc k (laidX a b c k) (allX a b c k) (allX_length a b c k na nb nc) (fun j h => laidX_full a b c k j na nb nc h)
          have hx := sumS_xor3 (a.data.toList.take k) (b.data.toList.take k) (c.data.toList.take k) (by rw [take_len a k na, take_len b k nb]) (by rw [take_len b k nb, take_len c k nc])
          have h1 := fun w => sum_any (bs (allX a b c k)) w (by rw [bs_size, allX_length a b c k na nb nc]; unfold maxLen; omega)
          have h2 := fun w => sum_any (a.extract 0 k) w (by rw [ByteArray.size_extract]; unfold maxLen; omega)
          have h3 := fun w => sum_any (b.extract 0 k) w (by rw [ByteArray.size_extract]; unfold maxLen; omega)
          have h4 := fun w => sum_any (c.extract 0 k) w (by rw [ByteArray.size_extract]; unfold maxLen; omega)
          have e1 : (bs (allX a b c k)).data.toList = allX a b c k := by simp [bs]
          rw [e1] at h1
          rw [ext_take] at h2 h3 h4
          have e2 : sumS (allX a b c k) = sumS (a.data.toList.take k) ^^^ sumS (b.data.toList.take k) ^^^ sumS (c.data.toList.take k) := hx
          have hbq := xor_eq _ _ _ _ (sumS_lt (a.data.toList.take k)) (sumS_lt (b.data.toList.take k)) (sumS_lt (c.data.toList.take k)) e2
          clear hx e1 e2
          generalize sumS (a.data.toList.take k) = x at *
          generalize sumS (b.data.toList.take k) = y at *
          generalize sumS (c.data.toList.take k) = z at *
          generalize sumS (allX a b c k) = r at *
          generalize bs (allX a b c k) = t at *
          have H1 := Lib.hid h1
          have H2 := Lib.hid h2
          have H3 := Lib.hid h3
          have H4 := Lib.hid h4
          clear h1 h2 h3 h4 hmk
          have ka : (k : Int) ≤ (a.size : Int) := by omega
          have kb : (k : Int) ≤ (b.size : Int) := by omega
          have kc : (k : Int) ≤ (c.size : Int) := by omega
          have hkeep : Keep wc k (laidX a b c k) wr := ⟨hrow, hbel⟩
          clear hrow hbel
          generalize laidX a b c k = f at *
          go_wp2_with fail
          go_region_held3 (fun w' => Keep wc k f w') (first | assumption | exact hkeep.drew) (first
            | (go_at_call_of 9 t; refine (H1.out _).mono ?_; rintro e w' ⟨rfl, rfl⟩)
            | (go_at_call_of 9 a; refine (H2.out _).mono ?_; rintro e w' ⟨rfl, rfl⟩)
            | (go_at_call_of 9 b; refine (H3.out _).mono ?_; rintro e w' ⟨rfl, rfl⟩)
            | (go_at_call_of 9 c; refine (H4.out _).mono ?_; rintro e w' ⟨rfl, rfl⟩)
            | (go_at_call 8; refine (summed_keep wc _ _ _ (by assumption)).mono ?_; rintro e w' ⟨rfl, hb⟩))
          all_goals
            go_wp2
            go_ret
            exact ⟨rfl, (‹Keep _ _ _ _› : Keep wc k f _).2⟩

theorem walk (a0 a1 a2 : ByteArray) (w0 : a0.size ≤ maxLen) (w1 : a1.size ≤ maxLen) (w2 : a2.size ≤ maxLen) (w : World) :
    Calls Try.prog 7 #[.string a0, .string a1, .string a2] w fun e w' => e = .returned (.bool true) ∧ Below w.heap.size w w' := short a0 a1 a2 w0 w1 w2 w
end Go.Proofs.Ytmfdcenblpdhcaa.sumsAlikeW
