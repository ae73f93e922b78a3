/- The walk of ChunksOther, over what the program's chunks answer. -/
import Derived.Test.YtoocejmimfhniaaChunked
import Derived.Test.YtoocejmimfhniaaChunksOtherMath
import Derived.Test.YtoocejmimfhniaaBytes
namespace Go.Proofs.Ytoocejmimfhniaa.chunksOtherV
open Go.RowKit
set_option linter.unusedVariables false

/-- One byte of a list is put against b. -/
def setB (l : List UInt8) (k b : Nat) : List UInt8 := l.set k (l.getD k 0 ^^^ UInt8.ofNat b)
theorem setB_length (l : List UInt8) (k b : Nat) : (setB l k b).length = l.length := List.length_set
theorem setB_row (l : List UInt8) (k b n : Nat) (hl : l.length = n) (hk : k < n) (hb : b < 256) (j : Nat) (hj : j < n) :
    (if j = k then Value.int .u8 (bits .xor .u8 ((l.getD k 0).toNat : Int) (b : Int)) else u8At l j) = u8At (setB l k b) j := by
  by_cases h : j = k
  · subst h
    rw [if_pos rfl, u8_xor_nat _ _ (UInt8.toNat_lt _) hb]
    unfold u8At setB
    have e : (l.set j (l.getD j 0 ^^^ UInt8.ofNat b)).getD j 0 = l.getD j 0 ^^^ UInt8.ofNat b := by
      rw [List.getD_eq_getElem?_getD (l := l.set j _), List.getElem?_set_self (by omega)]
      rfl
    rw [e, UInt8.toNat_xor, UInt8.toNat_ofNat', Nat.mod_eq_of_lt hb]
  · rw [if_neg h]
    unfold u8At setB
    rw [List.getD_eq_getElem?_getD, List.getD_eq_getElem?_getD (l := l.set k _), List.getElem?_set_ne (fun e => h e.symm)]

theorem box_cell (w W : World) (x y : Value) (h : Below (w.alloc (Obj.cells #[x, y] 37)).heap.size (w.alloc (Obj.cells #[x, y] 37)) W) :
    W.cell? ⟨w.heap.size, 0, none⟩ = some x ∧ W.cell? ⟨w.heap.size, 1, none⟩ = some y := by
  constructor
  · refine (h.cell (p := ⟨w.heap.size, 0, none⟩) (by simp)).trans ?_
    simp
  · refine (h.cell (p := ⟨w.heap.size, 1, none⟩) (by simp)).trans ?_
    simp

set_option maxHeartbeats 1000000 in
set_option maxRecDepth 100000 in
theorem walk (api : ChunksApi) (n o x y : Nat) (hn : n < 256) (ho : o < 256) (hx : x < 256) (hy : y < 256) (w : World) :
    Calls Try.prog 7 #[.int .u8 (n : Nat), .int .u8 (o : Nat), .agg #[.int .u8 (x : Nat), .int .u8 (y : Nat)]] w fun e w' => e = .returned (.bool true) ∧ Below w.heap.size w w' := by
  have HR := Lib.hid (chunked_true api)
  obtain ⟨a, ha⟩ : ∃ a : Nat, n % 200 = a := ⟨_, rfl⟩
  obtain ⟨b, hb⟩ : ∃ b : Nat, o % 200 = b := ⟨_, rfl⟩
  obtain ⟨i, hi⟩ : ∃ i : Nat, x % 12 = i := ⟨_, rfl⟩
  have a9 : a ≤ 199 := by omega
  have b9 : b ≤ 199 := by omega
  have i9 : i < 12 := by omega
  have a1 : Int.tmod (n : Int) 200 = (a : Int) := by rw [Int.tmod_eq_emod_of_nonneg (by omega)]; omega
  have a2 : (n : Int) % 200 = (a : Int) := by omega
  have b1 : Int.tmod (o : Int) 200 = (b : Int) := by rw [Int.tmod_eq_emod_of_nonneg (by omega)]; omega
  have b2 : (o : Int) % 200 = (b : Int) := by omega
  have i1 : Int.tmod (x : Int) 12 = (i : Int) := by rw [Int.tmod_eq_emod_of_nonneg (by omega)]; omega
  have i2 : (x : Int) % 12 = (i : Int) := by omega
  have HP := Lib.hid fun W => api.put ⟨#[120]⟩ W (by decide)
  have r1 : prE ⟨#[120]⟩ = 0 := by unfold prE; rw [if_neg (by decide)]
  have r2 : (prS ⟨#[120]⟩).size = 13 := by unfold prS; rw [if_neg (by decide), recS_size]; rfl
  rw [r1] at HP
  generalize prS ⟨#[120]⟩ = R at *
  have HH := Lib.hid fun W => api.head (a : Nat) W (WalkArith.wf_i64 (by omega))
  have hz := hd_size a9
  have hS : (hdS (a : Nat) ++ R).size = 25 := by rw [ByteArray.size_append]; omega
  have HO := Lib.hid (sc_of a9 b9 R)
  have HT := Lib.hid fun L hL => sc_turn a9 R L hL i i9 (UInt8.ofNat y)
  have hcat : ∀ w : World, (Op.stringOp .add (hdS (a : Nat)) R).run Try.prog w = .ok (.string (hdS (a : Nat) ++ R)) w := fun w => run_string_add_sum (P := Try.prog) (w := w) _ _ (by omega)
  obtain ⟨S, hSS⟩ : ∃ S, hdS (a : Nat) ++ R = S := ⟨_, rfl⟩
  rw [hSS] at hS hcat
  have HO2 : Hid (scOk S (b : Nat) = decide (a = b)) := Lib.hid (by rw [← hSS]; exact HO.out)
  have HT2 : Hid (scOk ⟨(setB S.data.toList i y).toArray⟩ (a : Nat) = decide (UInt8.ofNat y = 0)) := Lib.hid (HT.out S.data.toList (by rw [hSS]))
  have hl : S.data.toList.length = 25 := by rw [Array.length_toList]; exact hS
  have T1 := Lib.hid fun W => api.scan S (b : Nat) W (by omega) (WalkArith.wf_i64 (by omega))
  have T2 := Lib.hid fun W => api.scan ⟨(setB S.data.toList i y).toArray⟩ (a : Nat) W (by show (setB S.data.toList i y).toArray.size ≤ _; rw [List.size_toArray, setB_length, hl]; decide) (WalkArith.wf_i64 (by omega))
  have hT25 : 12 ≤ (ByteArray.mk (setB S.data.toList i y).toArray).size := by show 12 ≤ (setB S.data.toList i y).toArray.size; rw [List.size_toArray, setB_length, hl]; decide
  have HN := Lib.hid (sc_long a9 _ hT25).2
  unfold Scanned at T1 T2
  rw [HO2.out] at T1
  rw [HT2.out] at T2 HN
  have hyq : ((y : Int) == 0) = decide (UInt8.ofNat y = 0) := by
    have : (y = 0) ↔ (UInt8.ofNat y = 0) := by
      constructor
      · rintro rfl; rfl
      · intro h
        have h2 := congrArg UInt8.toNat h
        rw [UInt8.toNat_ofNat', Nat.mod_eq_of_lt hy] at h2
        exact h2
    rw [← decide_eq_decide.2 this]
    by_cases h : y = 0
    · subst h; rfl
    · rw [decide_eq_false h]; simp; omega
  have hab : ((a : Int) == (b : Int)) = decide (a = b) := by
    by_cases h : a = b
    · subst h; simp
    · rw [decide_eq_false h]; simp; omega
  generalize decide (UInt8.ofNat y = 0) = q at *
  generalize decide (a = b) = p at *
  have hpp : (p == p) = true := by simp
  have hqq : (q == q) = true := by simp
  have hconv := fun W => conv_in W S
  have hrow0 := fun W => bytesIn_row 5 W S
  have hst := Lib.hid (fun j hj => setB_row S.data.toList i y 25 hl (by omega) hy j hj)
  have hlen := Lib.hid ((setB_length S.data.toList i y).trans hl)
  have HL := Lib.hid hl
  have Hrow0 := Lib.hid hrow0
  have HBX := Lib.hid fun W h => box_cell w W (.int .u8 (x : Nat)) (.int .u8 (y : Nat)) h
  have hal := (Below.refl w.heap.size w).alloc (Nat.le_refl _) (Obj.cells #[Value.int .u8 (x : Nat), Value.int .u8 (y : Nat)] 37)
  have HAL := Lib.hid hal
  obtain ⟨H, hH⟩ : ∃ H, hdS (a : Nat) = H := ⟨_, rfl⟩
  rw [hH] at HH hcat
  clear hrow0 hal hl hT25 HO HT HO2 HT2 hSS hz hH ha hb hi r1 r2
  go_enter Try.func7, Try.ntmps7
  go_wp2_with fail
  generalize w.alloc (Obj.cells #[Value.int .u8 (x : Nat), Value.int .u8 (y : Nat)] 37) = W0 at *
  refine (HP.out _).mono ?_
  rintro e w1 ⟨rfl, hb1⟩
  go_wp2_with fail
  refine (HH.out _).mono ?_
  rintro e w2 ⟨rfl, hb2⟩
  have c2 := bj hb1 hb2
  clear hb1 hb2
  have hrow := Hrow0.out w2
  rw [hS] at hrow
  have hcv := conv_out hrow HL.out (grownCap w2 25 0 5)
  rw [show (ByteArray.mk S.data.toList.toArray) = S from ByteArray.ext (by simp)] at hcv
  have c3 := bytesIn_below 5 S c2
  have hg : W0.heap.size ≤ w2.heap.size := c2.size
  clear c2 Hrow0
  go_wp2_with fail
  refine (T1.out _).mono ?_
  rintro e w4 ⟨u1, rfl, j1, hb3⟩
  obtain ⟨A1, c1, rfl⟩ := j1.forms
  have hrow4 := hrow.below hb3
  have c4 := bj c3 hb3
  obtain ⟨hc0, hc1⟩ := HBX.out _ c4
  clear hrow hcv c3 hb3 j1 hconv
  generalize w2.heap.size = g at *
  generalize grownCap w2 25 0 5 = cap at *
  have hcell := hrow4.cell (i := i) (by omega)
  have hfz := hrow4.frozen (i := i) (by omega)
  have s1 : (i : Int) < 25 := by omega
  unfold u8At at hcell
  generalize (S.data.toList.getD i 0) = z at *
  have hrow5 := Lib.hid hrow4
  have c5 := Lib.hid c4
  clear hrow4 c4
  go_wp2_with fail
  go_region
  have hrow3 := ((hrow5.out.set i (Value.int .u8 (bits .xor .u8 (z.toNat : Int) (y : Int)))).congr (fun j hj => hst.out j hj)).drew
  have c6 := (c5.out.setCell (p := ⟨g, i, none⟩) hg (Value.int .u8 (bits .xor .u8 (z.toNat : Int) (y : Int)))).drew
  clear hcell hfz hrow5 c5 hc0 hc1 hst
  generalize (w4.setCell ⟨g, i, none⟩ (Value.int .u8 (bits .xor .u8 (z.toNat : Int) (y : Int)))).drew = w5 at *
  have hcv := conv_out hrow3 hlen.out cap
  clear hrow3 hlen
  generalize (ByteArray.mk (setB S.data.toList i y).toArray) = T at *
  go_wp2_with fail
  refine (T2.out _).mono ?_
  rintro e w6 ⟨u2, rfl, j2, hb6⟩
  obtain ⟨A2, c2, rfl⟩ := j2.forms
  have c7 := bj c6 hb6
  obtain ⟨hc0, hc1⟩ := HBX.out _ c7
  have hfin := Lib.hid (bj HAL.out c7)
  clear j2 c6 hb6 hcv c7
  cases q with
  | true =>
    go_wp2_with fail
    refine (HR.out _).mono ?_
    rintro e w7 ⟨rfl, hb7⟩
    go_wp2
    go_ret
    exact ⟨rfl, bj hfin.out hb7⟩
  | false =>
    obtain ⟨e1, e2⟩ := HN.out rfl
    rw [e1, e2]
    go_wp2_with fail
    refine (HR.out _).mono ?_
    rintro e w7 ⟨rfl, hb7⟩
    go_wp2
    go_ret
    exact ⟨rfl, bj hfin.out hb7⟩
end Go.Proofs.Ytoocejmimfhniaa.chunksOtherV
