/- The walk of ManifestsSpoilt. -/
import Derived.Test.YtcfidpjhemjbjaaMfIn
import Derived.Test.YtcfidpjhemjbjaaMfEx
import Derived.Test.YtcfidpjhemjbjaaBytes
namespace Go.Proofs.Ytcfidpjhemjbjaa
open Go.RowKit Go.Shelf
set_option linter.unusedVariables false
set_option maxRecDepth 100000

namespace MfSpoilt
/-- One byte of a list is put against b. -/
def setB (l : List UInt8) (k b : Nat) : List UInt8 := l.set k (l.getD k 0 ^^^ UInt8.ofNat b)
theorem setB_length (l : List UInt8) (k b : Nat) : (setB l k b).length = l.length := List.length_set
theorem setB_row (l : List UInt8) (k b n : Nat) (hl : l.length = n) (hk : k < n) (hb : b < 256) (j : Nat) (hj : j < n) :
    (if j = k then Value.int .u8 (bits .xor .u8 ((l.getD k 0).toNat : Int) (b : Int)) else u8At l j) = u8At (setB l k b) j := by
  by_cases h : j = k
  · subst h
    rw [if_pos rfl, u8_xor_nat _ _ (UInt8.toNat_lt _) hb]
    unfold u8At setB
    have e : (l.set j (l.getD j 0 ^^^ UInt8.ofNat b)).getD j 0 = l.getD j 0 ^^^ UInt8.ofNat b := by
      rw [List.getD_eq_getElem?_getD (l := l.set j _), List.getElem?_set_self (by omega)]
      rfl
    rw [e, UInt8.toNat_xor, UInt8.toNat_ofNat', Nat.mod_eq_of_lt hb]
  · rw [if_neg h]
    unfold u8At setB
    rw [List.getD_eq_getElem?_getD, List.getD_eq_getElem?_getD (l := l.set k _), List.getElem?_set_ne (fun e => h e.symm)]
theorem xor_ne {c : UInt8} {b : Nat} (hb : b < 256) (h0 : b ≠ 0) : c ^^^ UInt8.ofNat b ≠ c := by
  intro h
  have h1 := congrArg UInt8.toNat h
  rw [UInt8.toNat_xor, UInt8.toNat_ofNat', Nat.mod_eq_of_lt hb] at h1
  exact h0 (xor_cancel (a := c.toNat) (by rw [h1, Nat.xor_zero]))
theorem turned {s : ByteArray} (h : GoodM s) {k d : Nat} (hk : k < s.size) (hd : d < 256) (h0 : d ≠ 0) : ¬ GoodM (bs (setB s.data.toList k d)) := by
  intro h2
  have hl := sl_size s
  have e := sealed_near (good_sealed h) (good_sealed h2) k (by rw [bs_size, setB_length, hl]) (fun j hj => by
    rw [sl_list]
    unfold setB
    rw [List.getElem?_set_ne (by omega)])
  have e1 := congrArg (fun s : ByteArray => s.data.toList[k]?) e
  simp only [sl_list] at e1
  unfold setB at e1
  rw [List.getElem?_set_self (by omega), List.getElem?_eq_getElem (by omega), List.getD_eq_getElem?_getD, List.getElem?_eq_getElem (by omega)] at e1
  exact xor_ne hd h0 (Option.some.inj e1).symm
theorem cut {s : ByteArray} (h : GoodM s) {k : Nat} (hk : k < s.size) : ¬ GoodM (s.extract 0 k) := by
  intro h2
  have hl := sl_size s
  have e : s = s.extract 0 k ++ s.extract k s.size := by
    rw [sl_extbs s 0 k, sl_extbs s k s.size, bs_append, List.drop_zero, Nat.sub_zero, List.take_of_length_le (l := s.data.toList.drop k) (by rw [List.length_drop]; omega), List.take_append_drop, bs_data]
  rw [e] at h
  have := mf_ahead h2 h
  rw [ByteArray.size_extract] at this
  omega
theorem more {s x : ByteArray} (h : GoodM s) (hx : 0 < x.size) : ¬ GoodM (s ++ x) := fun h2 => by have := mf_ahead h h2; omega
theorem none_got (t : ByteArray) (ht : t.size ≤ 100000) (h : ¬ GoodM t) (W : World) :
    Calls Try.prog 10 #[.string t] W fun e w' => ∃ (x0 x1 : Int) (x2 : Nat) (A : Option Addr) (n c : Nat), e = .returned (.tuple #[.agg #[.int .i64 x0, .int .i64 x1, .int .u64 (x2 : Nat), .slice A n c], .int .i64 90]) ∧ Below W.heap.size W (w'.alloc (manO x0 x1 x2 (.slice A n c))) :=
  (mget_any t W ht).mono fun e w' h2 => by
    obtain ⟨x0, x1, x2, A, n, c, R, h1, -, -, -, hb, -⟩ := h2
    rw [(mg_no h).1] at h1
    exact ⟨x0, x1, x2, A, n, c, h1, hb.alloc hb.size _⟩
set_option maxHeartbeats 4000000 in
theorem walk (W : World) (v0 : Value) (a b c : Int) (wx0 : ManIn W v0) (wa : (Lit.int .u16 a).wf = true) (wb : (Lit.int .u16 b).wf = true) (wc : (Lit.int .u8 c).wf = true) :
    Calls Try.prog 5 #[v0, .agg #[.int .u16 a, .int .u16 b], .int .u8 c] W fun e w' => e = .returned (.bool true) ∧ Below W.heap.size W w' := by
  obtain ⟨x0, x1, x2, A, l, lp, R, rfl, hl, hR, hx2, -⟩ := wx0
  obtain ⟨a, rfl, ha⟩ := u16_nat wa
  obtain ⟨b, rfl, hb⟩ := u16_nat wb
  obtain ⟨c, rfl, hc⟩ := u8_nat wc
  have hal : Below W.heap.size W ((W.alloc (manO x0 x1 x2 (.slice A l lp))).alloc (.cells #[.int .u16 (a : Nat), .int .u16 (b : Nat)] 38)) := ((Below.refl _ _).alloc (Nat.le_refl _) _).alloc (by simp) _
  have bm := (Blok.new W 25 #[.int .i64 x0, .int .i64 x1, .int .u64 (x2 : Nat), .slice A l lp]).alloc (.cells #[.int .u16 (a : Nat), .int .u16 (b : Nat)] 38)
  have bn := Blok.new (W.alloc (manO x0 x1 x2 (.slice A l lp))) 38 #[.int .u16 (a : Nat), .int .u16 (b : Nat)]
  rw [World.size_alloc] at bn
  obtain ⟨w0, hw0⟩ : ∃ w0, w0 = (W.alloc (manO x0 x1 x2 (.slice A l lp))).alloc (.cells #[.int .u16 (a : Nat), .int .u16 (b : Nat)] 38) := ⟨_, rfl⟩
  have hR0 := hR.below hal (Nat.le_refl _)
  rw [← hw0] at hal bm bn hR0
  have HAL := Lib.hid hal
  have HBM := Lib.hid bm
  have HBN := Lib.hid bn
  have HR := Lib.hid hR0
  have HW0 := Lib.hid hw0
  have HS := Lib.hid sealed_true
  have HG := Lib.hid (lgreat_any (.slice A l lp) R w0 hR0)
  have HL := Lib.hid hl
  have HX2 := Lib.hid hx2
  unfold manV
  unfold MfTrueEnd at HS
  unfold LvGreatEnd at HG
  obtain ⟨m0, m1, m2, m3⟩ : w0.cell? ⟨W.heap.size, 0, none⟩ = some (.int .i64 x0) ∧ w0.cell? ⟨W.heap.size, 1, none⟩ = some (.int .i64 x1) ∧ w0.cell? ⟨W.heap.size, 2, none⟩ = some (.int .u64 (x2 : Nat)) ∧ w0.cell? ⟨W.heap.size, 3, none⟩ = some (.slice A l lp) := ⟨bm.cell 0, bm.cell 1, bm.cell 2, bm.cell 3⟩
  have MC := Lib.hid (And.intro m0 (And.intro m1 (And.intro m2 m3)))
  clear hal bm bn hR hR0 hw0 hl hx2 wa wb wc m0 m1 m2 m3
  go_enter Try.func5, Try.ntmps5
  go_upto_region 1 with fail
  rw [← HW0.out]
  clear HW0
  obtain ⟨m0, m1, m2, m3⟩ := MC.out
  go_wp2_with fail
  refine HG.out.mono ?_
  rintro e wx ⟨q, rfl, hwx, hq1⟩
  obtain rfl : w0 = wx := hwx.symm
  cases q with
  | true =>
    clear hq1 HG
    go_wp2_with fail
    refine (HS.out _).mono ?_
    rintro e w3 ⟨rfl, hb3⟩
    have HB3 := Lib.hid hb3
    clear hb3
    go_wp2
    go_ret
    exact ⟨rfl, bj HAL.out HB3.out⟩
  | false =>
  have hfl := few_flat (hq1 rfl)
  have hll : R.length ≤ 10 := (hq1 rfl).1
  have hV := mval_any x0 x1 x2 A l lp R w0 HR.out (by omega) (by omega)
  have hP := fun W' (h : LvsHas W' (.slice A l lp) R) => mput_any x0 x1 x2 A l lp R W' h HL.out (by omega) (by omega) HX2.out
  unfold manV at hV hP
  unfold MfPutEnd at hP
  clear hq1 HG hfl hll
  by_cases hm : MayM ⟨x0, x1, x2, R⟩
  case neg =>
    rw [show mayM ⟨x0, x1, x2, R⟩ = false from decide_eq_false hm] at hV
    have HV := Lib.hid hV
    clear hV hP hm
    go_wp2_with fail
    refine HV.out.mono ?_
    rintro e w2 ⟨rfl, hb2⟩
    have HB2 := Lib.hid hb2
    clear hb2
    go_wp2_with fail
    refine (HS.out _).mono ?_
    rintro e w3 ⟨rfl, hb3⟩
    have HB3 := Lib.hid (bj HB2.out hb3)
    clear hb3
    go_wp2
    go_ret
    exact ⟨rfl, bj HAL.out HB3.out⟩
  rw [show mayM ⟨x0, x1, x2, R⟩ = true from decide_eq_true hm] at hV
  obtain ⟨r1, r2⟩ := mf_yes hm
  rw [r1, r2] at hP
  have HV := Lib.hid hV
  have HP := Lib.hid hP
  have hg : GoodM (mfB ⟨x0, x1, x2, R⟩) := ⟨_, ⟨hm, HX2.out⟩, rfl⟩
  have hz1 := mfB_small hm
  have hz2 := mfB_size ⟨x0, x1, x2, R⟩
  have hzr : 25 ≤ (mfB ⟨x0, x1, x2, R⟩).size ∧ (mfB ⟨x0, x1, x2, R⟩).size ≤ 190 := by omega
  clear hV hP hm r1 r2 hz1 hz2
  generalize mfB ⟨x0, x1, x2, R⟩ = T at *
  obtain ⟨d, hd, hd2, hd0⟩ : ∃ d : Nat, bits .or .u8 (c : Int) 1 = (d : Int) ∧ d < 256 ∧ d ≠ 0 := by
    refine ⟨c ||| 1, u8_or_nat c 1 hc (by decide), Nat.or_lt_two_pow (n := 8) hc (by decide), fun e => ?_⟩
    have : 1 ≤ c ||| 1 := Nat.right_le_or
    omega
  obtain ⟨k, hk⟩ : ∃ k, k = a % T.size := ⟨_, rfl⟩
  obtain ⟨m, hmo⟩ : ∃ m, m = b % T.size := ⟨_, rfl⟩
  have hkl : k < T.size := by rw [hk]; exact Nat.mod_lt _ (by omega)
  have hml : m < T.size := by rw [hmo]; exact Nat.mod_lt _ (by omega)
  have hkm : (a : Int) % (T.size : Int) = (k : Int) := by rw [hk]; rfl
  have hmm : (b : Int) % (T.size : Int) = (m : Int) := by rw [hmo]; rfl
  have HTL := sl_size T
  have G1 := Lib.hid fun W => none_got (bs (setB T.data.toList k d)) (by rw [bs_size, setB_length, HTL]; omega) (turned hg hkl hd2 hd0) W
  have G2 := Lib.hid fun W => none_got (T.extract 0 m) (by rw [ByteArray.size_extract]; omega) (cut hg hml) W
  have G3 := Lib.hid fun W => none_got (T ++ ⟨#[120]⟩) (by rw [ByteArray.size_append]; show T.size + 1 ≤ _; omega) (more hg (by decide)) W
  have hadd : ∀ w : World, (Op.stringOp .add T ⟨#[120]⟩).run Try.prog w = .ok (.string (T ++ ⟨#[120]⟩)) w := fun w => run_string_add_sum (P := Try.prog) (w := w) _ _ (by show T.size + 1 ≤ _; omega)
  have hst := Lib.hid (fun j hj => setB_row T.data.toList k d T.size HTL hkl hd2 j hj)
  have hsl := Lib.hid ((setB_length T.data.toList k d).trans HTL)
  have n1 : ((T.size : Int) == 0) = false := beq_eq_false_iff_ne.2 (by omega)
  have n2 : (0 : Int) < (T.size : Int) := by omega
  have hconv := fun W => conv_in W T
  have HROW := Lib.hid fun W => bytesIn_row 5 W T
  have HBEL := Lib.hid fun (W : World) => bytesIn_below 5 (w0 := w0) (w := W) T
  have HKM := Lib.hid hkm
  have HMM := Lib.hid hmm
  have HD := Lib.hid hd
  clear hk hmo HTL hg
  go_wp2_with fail
  refine HV.out.mono ?_
  rintro e w1 ⟨rfl, hb1⟩
  have HB1 := Lib.hid hb1
  have HP2 := Lib.hid (HP.out w1 (HR.out.below hb1 (Nat.le_refl _)))
  have dm := mblok_below HBM.out hb1
  obtain ⟨p0, p1, p2, p3⟩ : w1.cell? ⟨W.heap.size, 0, none⟩ = some (.int .i64 x0) ∧ w1.cell? ⟨W.heap.size, 1, none⟩ = some (.int .i64 x1) ∧ w1.cell? ⟨W.heap.size, 2, none⟩ = some (.int .u64 (x2 : Nat)) ∧ w1.cell? ⟨W.heap.size, 3, none⟩ = some (.slice A l lp) := ⟨dm.cell 0, dm.cell 1, dm.cell 2, dm.cell 3⟩
  clear hb1 dm m0 m1 m2 m3 HV HP
  go_wp2_with fail
  refine HP2.out.mono ?_
  rintro e w2 ⟨rfl, hb2⟩
  have hb3 := bj HB1.out hb2
  have hrow := HROW.out w2
  have hbel := HBEL.out w2 hb3
  have hBN := HBN.out.lt
  have n0' : w0.cell? ⟨W.heap.size + 1, 0, none⟩ = some (.int .u16 (a : Nat)) := HBN.out.cell 0
  have c0 := (hbel.cell (p := ⟨W.heap.size + 1, 0, none⟩) hBN).trans n0'
  clear n0'
  have hcell := hrow.cell (i := k) hkl
  have hfz := hrow.frozen (i := k) hkl
  have hB : w0.heap.size ≤ w2.heap.size := hb3.size
  obtain ⟨w3, hw3⟩ : ∃ w3, bytesIn 5 w2 T = w3 := ⟨_, rfl⟩
  obtain ⟨cp, hcp⟩ : ∃ cp, grownCap w2 T.size 0 5 = cp := ⟨_, rfl⟩
  obtain ⟨g, hgg⟩ : ∃ g, w2.heap.size = g := ⟨_, rfl⟩
  have hcv0 := hconv w2
  rw [hw3, hcp, hgg] at hcv0
  rw [hw3] at c0 hbel
  rw [hw3, hgg] at hrow hcell hfz
  rw [hgg] at hB
  clear hconv HROW HBEL hb2 hb3 HP2 hw3 hcp hgg p0 p1 p2 p3 hBN
  unfold u8At at hcell
  have HROW2 := Lib.hid hrow
  have HBEL2 := Lib.hid hbel
  clear hrow hbel
  have hs1 : (k : Int) < (T.size : Int) := by omega
  generalize hzz : (T.data.toList.getD k 0) = z at *
  have hrow3 : RowB (w3.setCell ⟨g, k, none⟩ (Value.int .u8 (bits .xor .u8 (z.toNat : Int) (d : Int)))) g T.size (u8At (setB T.data.toList k d)) := (HROW2.out.set k (Value.int .u8 (bits .xor .u8 (z.toNat : Int) (d : Int)))).congr (fun j hj => hst.out j hj)
  have hbel3 := HBEL2.out.setCell (p := ⟨g, k, none⟩) hB (Value.int .u8 (bits .xor .u8 (z.toNat : Int) (d : Int)))
  have hcv : (convert 39 9 (.slice (some ⟨g, 0, none⟩) T.size cp)).run Try.prog (w3.setCell ⟨g, k, none⟩ (Value.int .u8 (bits .xor .u8 (z.toNat : Int) (d : Int)))) = .ok (.string (bs (setB T.data.toList k d))) (w3.setCell ⟨g, k, none⟩ (Value.int .u8 (bits .xor .u8 (z.toNat : Int) (d : Int)))) := conv_out hrow3 hsl.out cp
  have HBEL3 := Lib.hid hbel3
  have hm1 : (m : Int) ≤ (T.size : Int) := by omega
  have hm2 : m ≤ T.size := by omega
  clear hrow3 hbel3 HROW2 HBEL2 hst hsl hzz
  generalize bs (setB T.data.toList k d) = T2 at *
  go_wp2_with fail
  refine (G1.out _).mono ?_
  rintro e w5 ⟨x5, y5, z5, A5, n5, c5, rfl, hb5⟩
  have b5 := bj HBEL3.out hb5
  have n1' : w0.cell? ⟨W.heap.size + 1, 1, none⟩ = some (.int .u16 (b : Nat)) := HBN.out.cell 1
  have c1' := (b5.cell (p := ⟨W.heap.size + 1, 1, none⟩) HBN.out.lt).trans n1'
  clear n1'
  have B5 := Lib.hid b5
  clear b5 hb5 hcv HBEL3 c0 hcell hfz hcv0
  go_wp2_with fail
  refine (G2.out _).mono ?_
  rintro e w6 ⟨x6, y6, z6, A6, n6, c6, rfl, hb6⟩
  have B6 := Lib.hid (bj B5.out hb6)
  clear hb6 c1'
  go_wp2_with fail
  refine (G3.out _).mono ?_
  rintro e w7 ⟨x7, y7, z7, A7, n7, c7, rfl, hb7⟩
  have B7 := Lib.hid (bj B6.out hb7)
  clear hb7
  go_wp2_with fail
  refine (HS.out _).mono ?_
  rintro e w8 ⟨rfl, hb8⟩
  have B8 := Lib.hid (bj B7.out hb8)
  clear hb8
  go_wp2
  go_ret
  exact ⟨rfl, bj HAL.out B8.out⟩
end MfSpoilt
end Go.Proofs.Ytcfidpjhemjbjaa
