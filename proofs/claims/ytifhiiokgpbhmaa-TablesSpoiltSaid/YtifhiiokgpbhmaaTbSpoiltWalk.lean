/- 'TablesSpoilt': the walk. -/
import Derived.Test.YtifhiiokgpbhmaaTbBackWalk
import Derived.Test.YtifhiiokgpbhmaaBytes
namespace Go.Proofs.Ytifhiiokgpbhmaa
open Go.RowKit Go.Shelf
set_option linter.unusedVariables false

namespace tablesSpoilt
/-- One byte of a list is put against b. -/
def setB (l : List UInt8) (k b : Nat) : List UInt8 := l.set k (l.getD k 0 ^^^ UInt8.ofNat b)
theorem setB_length (l : List UInt8) (k b : Nat) : (setB l k b).length = l.length := List.length_set
theorem setB_row (l : List UInt8) (k b n : Nat) (hl : l.length = n) (hk : k < n) (hb : b < 256) (j : Nat) (hj : j < n) :
    (if j = k then Value.int .u8 (bits .xor .u8 ((l.getD k 0).toNat : Int) (b : Int)) else u8At l j) = u8At (setB l k b) j := by
  by_cases h : j = k
  · subst h
    rw [if_pos rfl, u8_xor_nat _ _ (UInt8.toNat_lt _) hb]
    unfold u8At setB
    have e : (l.set j (l.getD j 0 ^^^ UInt8.ofNat b)).getD j 0 = l.getD j 0 ^^^ UInt8.ofNat b := by
      rw [List.getD_eq_getElem?_getD (l := l.set j _), List.getElem?_set_self (by omega)]
      rfl
    rw [e, UInt8.toNat_xor, UInt8.toNat_ofNat', Nat.mod_eq_of_lt hb]
  · rw [if_neg h]
    unfold u8At setB
    rw [List.getD_eq_getElem?_getD, List.getD_eq_getElem?_getD (l := l.set k _), List.getElem?_set_ne (fun e => h e.symm)]
theorem xor_ne {c : UInt8} {b : Nat} (hb : b < 256) (h0 : b ≠ 0) : c ^^^ UInt8.ofNat b ≠ c := by
  intro h
  have h1 := congrArg UInt8.toNat h
  rw [UInt8.toNat_xor, UInt8.toNat_ofNat', Nat.mod_eq_of_lt hb] at h1
  exact h0 (xor_cancel (a := c.toNat) (by rw [h1, Nat.xor_zero]))
theorem turned {s : ByteArray} (h : tgOk s = true) {k d : Nat} (hk : k < s.size) (hd : d < 256) (h0 : d ≠ 0) : tgOk (bs (setB s.data.toList k d)) = false := by
  have hl := sl_size s
  refine tg_turned h k (by rw [bs_size, setB_length, hl]) (fun j hj => ?_) (fun e => ?_)
  · rw [sl_list]
    unfold setB
    rw [List.getElem?_set_ne (by omega)]
  · have e1 := congrArg (fun s : ByteArray => s.data.toList[k]?) e
    simp only [sl_list] at e1
    unfold setB at e1
    rw [List.getElem?_set_self (by omega), List.getElem?_eq_getElem (by omega), List.getD_eq_getElem?_getD, List.getElem?_eq_getElem (by omega)] at e1
    exact xor_ne hd h0 (Option.some.inj e1).symm
theorem none_got (t : ByteArray) (ht : t.size ≤ 1000000) (h : tgOk t = false) (W : World) :
    Calls Try.prog 9 #[.string t] W fun e w' => ∃ A c, e = .returned (.tuple #[.slice A 0 c, .int .i64 90]) ∧ Below W.heap.size W w' := by
  have := tget_any t W ht
  obtain ⟨e1, e2⟩ := tg_no h
  unfold TgEnd at this
  rw [e1, e2] at this
  exact this.mono fun e w' ⟨A, c, he, _, hb⟩ => ⟨A, c, he, hb⟩
theorem walk_long (w : World) (v : Value) (l : List EntS) (a b c : Nat) (hl : EntsIn w v l) (h : 60 < l.length) :
    Calls Try.prog 5 #[v, .agg #[.int .u16 (a : Nat), .int .u16 (b : Nat)], .int .u8 (c : Nat)] w fun e w' => e = .returned (.bool true) ∧ Below w.heap.size w w' := by
  have HL := Lib.hid (fun W => tlaid_true W)
  obtain ⟨A, off, cap, rfl, hm, -⟩ := hl.form
  have hal := (Below.refl w.heap.size w).alloc (Nat.le_refl _) (Obj.cells #[Value.int .u16 (a : Nat), Value.int .u16 (b : Nat)] 39)
  clear hl
  unfold maxLen at hm
  have t1 : (60 : Int) < (l.length : Int) := by omega
  generalize l.length = k at *
  go_enter Try.func5, Try.ntmps5
  go_wp2_with fail
  refine (HL.out _).mono ?_
  rintro e w1 ⟨rfl, hb1⟩
  go_wp2
  go_ret
  exact ⟨rfl, bj hal hb1⟩
set_option maxHeartbeats 4000000 in
set_option maxRecDepth 100000 in
theorem walk_short (w : World) (v : Value) (l : List EntS) (a b c : Nat) (hl : EntsIn w v l) (h1 : l.length ≤ 60) (ha : a < 65536) (hb : b < 65536) (hc : c < 256) :
    Calls Try.prog 5 #[v, .agg #[.int .u16 (a : Nat), .int .u16 (b : Nat)], .int .u8 (c : Nat)] w fun e w' => e = .returned (.bool true) ∧ Below w.heap.size w w' := by
  have HL := Lib.hid (fun W => tlaid_true W)
  obtain ⟨w0, hw0⟩ : ∃ w0, w.alloc (Obj.cells #[Value.int .u16 (a : Nat), Value.int .u16 (b : Nat)] 39) = w0 := ⟨_, rfl⟩
  have hal : Below w.heap.size w w0 := by rw [← hw0]; exact (Below.refl w.heap.size w).alloc (Nat.le_refl _) _
  have hk0 : w0.cell? ⟨w.heap.size, 0, none⟩ = some (.int .u16 (a : Nat)) := by rw [← hw0]; exact World.cell?_alloc_at _ _ _ _ rfl
  have hk1 : w0.cell? ⟨w.heap.size, 1, none⟩ = some (.int .u16 (b : Nat)) := by rw [← hw0]; exact World.cell?_alloc_at _ _ _ _ rfl
  have hlt0 : w.heap.size < w0.heap.size := by rw [← hw0]; simp
  have HM := Lib.hid (made_any v l w0 (hl.below hal (Nat.le_refl _)) (by omega))
  obtain ⟨hx, hok⟩ := madeE_ok l
  have hlen := madeE_length l
  obtain ⟨A, off, cap, rfl, -, -⟩ := hl.form
  have t1 : ¬ (60 : Int) < (l.length : Int) := by omega
  have t2 : decide ((60 : Int) < (l.length : Int)) = false := decide_eq_false (by omega)
  unfold EntsOut at HM
  have h2 : (madeE l).length ≤ 60 := by omega
  generalize madeE l = L at *
  generalize l.length = n0 at *
  clear hl hlen h1
  obtain ⟨p1, p2⟩ := tb_yes hok
  obtain ⟨g1, g2, g3⟩ := tb_back (by omega) hx hok
  have HP := Lib.hid (show ∀ W v', EntsIn W v' L → Calls Try.prog 7 #[v'] W fun e w' => e = .returned (.tuple #[.string (tbB L), .int .i64 0]) ∧ Below W.heap.size W w' from fun W v' h => by
    have := tput_any v' L W h (by omega) hx
    unfold TbEnd at this
    rw [p1, p2] at this
    exact this)
  have hz := tbB_size L
  have hzr : 12 ≤ (tbB L).size ∧ (tbB L).size ≤ 1500 := by omega
  generalize tbB L = T at *
  generalize L.length = n at *
  obtain ⟨d, hd, hd2, hd0⟩ : ∃ d : Nat, bits .or .u8 (c : Int) 1 = (d : Int) ∧ d < 256 ∧ d ≠ 0 := by
    refine ⟨c ||| 1, u8_or_nat c 1 hc (by decide), Nat.or_lt_two_pow (n := 8) hc (by decide), fun e => ?_⟩
    have : 1 ≤ c ||| 1 := Nat.right_le_or
    omega
  obtain ⟨k, hk⟩ : ∃ k, k = a % T.size := ⟨_, rfl⟩
  obtain ⟨m, hm⟩ : ∃ m, m = b % T.size := ⟨_, rfl⟩
  have hkl : k < T.size := by rw [hk]; exact Nat.mod_lt _ (by omega)
  have hml : m < T.size := by rw [hm]; exact Nat.mod_lt _ (by omega)
  have hkm : (a : Int) % (T.size : Int) = (k : Int) := by rw [hk]; rfl
  have hmm : (b : Int) % (T.size : Int) = (m : Int) := by rw [hm]; rfl
  have HTL := sl_size T
  have G1 := Lib.hid fun W => none_got (bs (setB T.data.toList k d)) (by rw [bs_size, setB_length, HTL]; omega) (turned g1 hkl hd2 hd0) W
  have G2 := Lib.hid fun W => none_got (T.extract 0 m) (by rw [ByteArray.size_extract]; omega) (tg_cut g1 hml) W
  have G3 := Lib.hid fun W => none_got (T ++ ⟨#[120]⟩) (by rw [ByteArray.size_append]; show T.size + 1 ≤ _; omega) (tg_more g1 (by decide)) W
  have hadd : ∀ w : World, (Op.stringOp .add T ⟨#[120]⟩).run Try.prog w = .ok (.string (T ++ ⟨#[120]⟩)) w := fun w => run_string_add_sum (P := Try.prog) (w := w) _ _ (by show T.size + 1 ≤ _; omega)
  have hst := Lib.hid (fun j hj => setB_row T.data.toList k d T.size HTL hkl hd2 j hj)
  have hsl := Lib.hid ((setB_length T.data.toList k d).trans HTL)
  have n1 : ((T.size : Int) == 0) = false := beq_eq_false_iff_ne.2 (by omega)
  have n2 : (0 : Int) < (T.size : Int) := by omega
  have hconv := fun W => conv_in W T
  have HROW := Lib.hid fun W => bytesIn_row 5 W T
  have HBEL := Lib.hid fun (W : World) => bytesIn_below 5 (w0 := w0) (w := W) T
  have HK0 := Lib.hid hk0
  have HK1 := Lib.hid hk1
  have HAL := Lib.hid hal
  have HLT := Lib.hid hlt0
  have HKM := Lib.hid hkm
  have HMM := Lib.hid hmm
  have HW0 := Lib.hid hw0
  have HD := Lib.hid hd
  clear hx hok p1 p2 g1 g2 g3 hz hk0 hk1 hal hlt0 hw0 hk hm HTL
  go_enter Try.func5, Try.ntmps5
  go_wp2_with fail
  rw [HW0.out]
  refine HM.out.mono ?_
  rintro e w1 ⟨A1, c1, rfl, r1, hb1⟩
  have HP2 := Lib.hid (HP.out w1 _ (EntRow.in_ r1))
  clear r1 HP HM
  go_wp2_with fail
  refine HP2.out.mono ?_
  rintro e w2 ⟨rfl, hb2⟩
  have hb3 := bj hb1 hb2
  have hrow := HROW.out w2
  have hbel := HBEL.out w2 hb3
  have c0 := (hbel.cell (p := ⟨w.heap.size, 0, none⟩) HLT.out).trans HK0.out
  have hcell := hrow.cell (i := k) hkl
  have hfz := hrow.frozen (i := k) hkl
  have hB : w0.heap.size ≤ w2.heap.size := hb3.size
  obtain ⟨w3, hw3⟩ : ∃ w3, bytesIn 5 w2 T = w3 := ⟨_, rfl⟩
  obtain ⟨cp, hcp⟩ : ∃ cp, grownCap w2 T.size 0 5 = cp := ⟨_, rfl⟩
  obtain ⟨g, hg⟩ : ∃ g, w2.heap.size = g := ⟨_, rfl⟩
  have hcv0 := hconv w2
  rw [hw3, hcp, hg] at hcv0
  rw [hw3] at c0 hbel
  rw [hw3, hg] at hrow hcell hfz
  rw [hg] at hB
  clear hconv HROW HBEL hb1 hb2 hb3 HP2 hw3 hcp hg
  unfold u8At at hcell
  have HROW2 := Lib.hid hrow
  have HBEL2 := Lib.hid hbel
  clear hrow hbel
  have hs1 : (k : Int) < (T.size : Int) := by omega
  generalize hzz : (T.data.toList.getD k 0) = z at *
  have hrow3 : RowB (w3.setCell ⟨g, k, none⟩ (Value.int .u8 (bits .xor .u8 (z.toNat : Int) (d : Int)))) g T.size (u8At (setB T.data.toList k d)) := (HROW2.out.set k (Value.int .u8 (bits .xor .u8 (z.toNat : Int) (d : Int)))).congr (fun j hj => hst.out j hj)
  have hbel3 := HBEL2.out.setCell (p := ⟨g, k, none⟩) hB (Value.int .u8 (bits .xor .u8 (z.toNat : Int) (d : Int)))
  have hcv : (convert 40 9 (.slice (some ⟨g, 0, none⟩) T.size cp)).run Try.prog (w3.setCell ⟨g, k, none⟩ (Value.int .u8 (bits .xor .u8 (z.toNat : Int) (d : Int)))) = .ok (.string (bs (setB T.data.toList k d))) (w3.setCell ⟨g, k, none⟩ (Value.int .u8 (bits .xor .u8 (z.toNat : Int) (d : Int)))) := conv_out hrow3 hsl.out cp
  have HBEL3 := Lib.hid hbel3
  have hm1 : (m : Int) ≤ (T.size : Int) := by omega
  have hm2 : m ≤ T.size := by omega
  clear hrow3 hbel3 HROW2 HBEL2 hst hsl hzz
  generalize bs (setB T.data.toList k d) = T2 at *
  go_wp2_with fail
  refine (G1.out _).mono ?_
  rintro e w5 ⟨A5, c5, rfl, hb5⟩
  have b5 := bj HBEL3.out hb5
  have c1' := (b5.cell (p := ⟨w.heap.size, 1, none⟩) HLT.out).trans HK1.out
  have B5 := Lib.hid b5
  clear b5 hb5 hcv HBEL3 c0 hcell hfz hcv0
  go_wp2_with fail
  refine (G2.out _).mono ?_
  rintro e w6 ⟨A6, c6, rfl, hb6⟩
  have B6 := Lib.hid (bj B5.out hb6)
  clear hb6 c1'
  go_wp2_with fail
  refine (G3.out _).mono ?_
  rintro e w7 ⟨A7, c7, rfl, hb7⟩
  have B7 := Lib.hid (bj B6.out hb7)
  clear hb7
  go_wp2_with fail
  refine (HL.out _).mono ?_
  rintro e w8 ⟨rfl, hb8⟩
  go_wp2
  go_ret
  exact ⟨rfl, bj (bj HAL.out B7.out) hb8⟩
theorem walk (w : World) (v : Value) (l : List EntS) (a b c : Int) (hl : EntsIn w v l) (hx : ∀ x ∈ l, EntOk x) (wa : (Lit.int .u16 a).wf = true) (wb : (Lit.int .u16 b).wf = true) (wc : (Lit.int .u8 c).wf = true) :
    Calls Try.prog 5 #[v, .agg #[.int .u16 a, .int .u16 b], .int .u8 c] w fun e w' => e = .returned (.bool true) ∧ Below w.heap.size w w' := by
  obtain ⟨x, rfl, hx⟩ := u16_nat wa
  obtain ⟨y, rfl, hy⟩ := u16_nat wb
  obtain ⟨z, rfl, hz⟩ := u8_nat wc
  by_cases h : 60 < l.length
  · exact walk_long w v l x y z hl h
  · exact walk_short w v l x y z hl (by omega) hx hy hz
end tablesSpoilt
end Go.Proofs.Ytifhiiokgpbhmaa
