/- PgOf, PgPutRef -/
import Derived.Test.YtfnppmiapjhjlaaPk15
import Derived.Test.YtfnppmiapjhjlaaPk06
import Derived.BigRegion
import Derived.Test.YtfnppmiapjhjlaaPk08
/- PgOf -/
namespace Go.Proofs.Ytfnppmiapjhjlaa
open Go.RowKit
set_option linter.unusedVariables false

theorem RowB.less {w : World} {b n m : Nat} {f : Nat → Value} (h : RowB w b n f) (hm : m ≤ n) : RowB w b m f := by
  obtain ⟨c, t, fr, hb, hn, hf, hc⟩ := h
  exact ⟨c, t, fr, hb, by omega, hf.imp id (by omega), fun i hi => hc i (by omega)⟩
theorem u8At_take (L : List UInt8) (m i : Nat) (hi : i < m) : u8At L i = u8At (L.take m) i := by
  unfold u8At
  rw [List.getD_eq_getElem?_getD, List.getD_eq_getElem?_getD, List.getElem?_take, if_pos hi]
theorem xor8 (a b : Nat) (ha : a < 256) (hb : b < 256) : ∃ d : Nat, bits .xor .u8 (a : Int) (b : Int) = (d : Int) ∧ d < 256 := by
  obtain ⟨n, e, h⟩ := u8_nat (wf_bits .xor .u8 (a : Int) (b : Int))
  exact ⟨n, e, h⟩
/-- Some text, at most so long. -/
def SomeText (w : World) (m : Nat) (e : Ending) (w' : World) : Prop := ∃ s : ByteArray, s.size ≤ m ∧ e = .returned (.string s) ∧ Below w.heap.size w w'

set_option maxHeartbeats 4000000 in
set_option maxRecDepth 100000 in
theorem of_any (x : Value) (t : ByteArray) (w : World) (hx : SpoIn w x) (ht : t.size ≤ 1000000) :
    Calls Try.prog 15 #[x, .string t] w (SomeText w (t.size + 100)) := by
  obtain ⟨u, v, c, s, la, lb, rfl, hs, hc, hU, oU, hV, oV⟩ := hx
  obtain ⟨A, offA, capA, rfl, lenA, atA⟩ := hU.form
  obtain ⟨B, offB, capB, rfl, lenB, atB⟩ := hV.form
  have hBx := Blok.new w 39 #[.slice A la.length capA, .slice B lb.length capB, .int .u16 c, .string s]
  have hb1 := (Below.refl w.heap.size w).alloc (Nat.le_refl _) (.cells #[.slice A la.length capA, .slice B lb.length capB, .int .u16 c, .string s] 39)
  obtain ⟨w1, hw1⟩ : ∃ w1, w.alloc (.cells #[.slice A la.length capA, .slice B lb.length capB, .int .u16 c, .string s] 39) = w1 := ⟨_, rfl⟩
  rw [hw1] at hBx hb1
  have hcv := conv_in w1 t
  have hrow := bytesIn_row 5 w1 t
  have hb2 : Below w1.heap.size w1 (bytesIn 5 w1 t) := bytesIn_below 5 t (Below.refl _ _)
  have hcap := grownCap_ge w1 t.size 0 5
  obtain ⟨cap, hcape⟩ : ∃ cap, grownCap w1 t.size 0 5 = cap := ⟨_, rfl⟩
  obtain ⟨w2, hw2⟩ : ∃ w2, bytesIn 5 w1 t = w2 := ⟨_, rfl⟩
  rw [hcape, hw2] at hcv
  rw [hw2] at hrow hb2
  rw [hcape] at hcap
  obtain ⟨n, hn⟩ : ∃ n, t.size = n := ⟨_, rfl⟩
  rw [hn] at hcv hrow hcap ht ⊢
  obtain ⟨gb, hgb⟩ : ∃ gb, w1.heap.size = gb := ⟨_, rfl⟩
  rw [hgb] at hcv hrow
  have hlen : t.data.toList.length = n := by rw [dl_size, hn]
  have HX := Lib.hid fun W (hW : Below w1.heap.size w1 W) => hBx.after hW
  have HB1 := Lib.hid hb1
  have HA := Lib.hid fun W (hW : Below w1.heap.size w1 W) i z (hz : la[i]? = some z) => show ∃ b, A = some ⟨b, offA, none⟩ ∧ W.cell? ⟨b, offA + i, none⟩ = some (.int .u16 (z : Nat)) from by
    obtain ⟨b, e1, e2, e3⟩ := atA i z hz
    exact ⟨b, e1, ((bj hb1 hW).cell (p := ⟨b, offA + i, none⟩) e2).trans e3⟩
  have HBB := Lib.hid fun W (hW : Below w1.heap.size w1 W) i z (hz : lb[i]? = some z) => show ∃ b, B = some ⟨b, offB, none⟩ ∧ W.cell? ⟨b, offB + i, none⟩ = some (.int .u8 (z : Nat)) from by
    obtain ⟨b, e1, e2, e3⟩ := atB i z hz
    exact ⟨b, e1, ((bj hb1 hW).cell (p := ⟨b, offB + i, none⟩) e2).trans e3⟩
  have HGB := Lib.hid (And.intro hgb (And.intro hlen (And.intro hs (And.intro hrow hb2))))
  have HO := Lib.hid (And.intro oU oV)
  unfold spoV
  unfold maxLen at hs lenA lenB
  clear atA atB hU hV hBx hb1 hcape hw2 hgb hn hrow hb2 hlen oU oV
  go_enter Try.func15, Try.ntmps15
  go_wp2_with fail
  go_loopw [6] (fun v wr => ∃ (k : Nat) (L : List UInt8), k ≤ la.length ∧ v = .int .i64 k ∧ L.length = n ∧ RowB wr gb n (u8At L) ∧ Below w1.heap.size w1 wr) (fun v _ => la.length - (intOf v).toNat)
  case atStart => exact ⟨0, _, Nat.zero_le _, rfl, HGB.out.2.1, HGB.out.2.2.2.1, HGB.out.2.2.2.2⟩
  case round =>
    obtain ⟨k, L, hk, rfl, hL, hR, hbel⟩ := hrel
    clear hcv
    have hbx := HX.out wr hbel
    have x0 : wr.cell? ⟨w.heap.size, 0, none⟩ = some (.slice A la.length capA) := hbx.cell 0
    have x1 : wr.cell? ⟨w.heap.size, 1, none⟩ = some (.slice B lb.length capB) := hbx.cell 1
    have x2 : wr.cell? ⟨w.heap.size, 2, none⟩ = some (.int .u16 c) := hbx.cell 2
    have x3 : wr.cell? ⟨w.heap.size, 3, none⟩ = some (.string s) := hbx.cell 3
    clear hbx
    by_cases hall : k < la.length ∧ k < lb.length ∧ k < 40 ∧ 0 < n
    · obtain ⟨h1, h2, h3, h4⟩ := hall
      have d1 : decide ((k : Int) < (la.length : Int)) = true := decide_eq_true (by omega)
      have d2 : decide ((k : Int) < (lb.length : Int)) = true := decide_eq_true (by omega)
      have d3 : decide ((k : Int) < 40) = true := decide_eq_true (by omega)
      have d4 : decide (0 < (n : Int)) = true := decide_eq_true (by omega)
      obtain ⟨ba, rfl, ca⟩ := HA.out wr hbel k _ (List.getElem?_eq_getElem h1)
      obtain ⟨bb, rfl, cb⟩ := HBB.out wr hbel k _ (List.getElem?_eq_getElem h2)
      have oa := HO.out.1 _ (List.getElem_mem h1)
      have ob := HO.out.2 _ (List.getElem_mem h2)
      generalize la[k] = za at *
      generalize lb[k] = zb at *
      obtain ⟨j, hj⟩ : ∃ j, za % n = j := ⟨_, rfl⟩
      have hjn : j < n := by rw [← hj]; exact Nat.mod_lt _ h4
      have e1 : (za : Int) % (n : Int) = (j : Int) := by rw [← hj]; rfl
      have e2 : ((n : Int) == 0) = false := beq_eq_false_iff_ne.2 (by omega)
      have c5 := hR.cell hjn
      have f5 := hR.frozen hjn
      unfold u8At at c5
      have h8 := (L.getD j 0).toNat_lt
      obtain ⟨zc, hzc⟩ : ∃ zc, (L.getD j 0).toNat = zc := ⟨_, rfl⟩
      rw [hzc] at c5 h8
      obtain ⟨zd, hzd, hzd2⟩ := xor8 zc zb h8 ob
      have hR2 := (hR.set j (.int .u8 (zd : Int))).congr fun i hi => u8At_set L j zd hzd2 i (by omega)
      have hb2 := hbel.setCell (p := ⟨gb, j, none⟩) (by rw [HGB.out.1]; exact Nat.le_refl _) (.int .u8 (zd : Int))
      have HR := Lib.hid (And.intro hR2 hb2)
      have hL2 : (L.set j (UInt8.ofNat zd)).length = n := by rw [List.length_set]; exact hL
      have s1 : (j : Int) < (n : Int) := by omega
      have s2 : (k : Int) < (la.length : Int) := by omega
      have s3 : (k : Int) < (lb.length : Int) := by omega
      clear hR2 hb2 hj hzc hR hbel
      go_wp2_with fail
      go_region
      all_goals
        go_wp2
        go_roundw
        case rel => exact ⟨k + 1, _, by omega, by go_num, hL2, HR.out.1.drew, HR.out.2.drew⟩
        case measure => simp [intOf]; omega
    · have hex : (k < la.length → k < lb.length → k < 40 → ¬ 0 < n) := fun a b d e => hall ⟨a, b, d, e⟩
      obtain ⟨m, hm⟩ : ∃ m, c / 2 % (n + 1) = m := ⟨_, rfl⟩
      have hmn : m ≤ n := by rw [← hm]; exact Nat.le_of_lt_succ (Nat.mod_lt _ (Nat.succ_pos n))
      obtain ⟨h2c, hh⟩ : ∃ h2c, c / 2 = h2c := ⟨_, rfl⟩
      have q1 : (c : Int) / 2 = (h2c : Int) := by omega
      have q2 : (h2c : Int) % ((n : Int) + 1) = (m : Int) := by rw [← hm, hh]; rfl
      have q3 : (((n : Int) + 1) == 0) = false := beq_eq_false_iff_ne.2 (by omega)
      have q4 : ¬ ((n : Int) + 1 = 0) := by omega
      have hLm : (L.take m).length = m := by rw [List.length_take]; omega
      have hRm := (hR.less hmn).congr fun i hi => u8At_take L m i hi
      have v1 := conv_out hR hL cap
      have v2 := conv_out hRm hLm cap
      have z1 : (bs L).size = n := by rw [bs_size]; exact hL
      have z2 : (bs (L.take m)).size = m := by rw [bs_size]; exact hLm
      obtain ⟨S1, hS1⟩ : ∃ S1, bs L = S1 := ⟨_, rfl⟩
      obtain ⟨S2, hS2⟩ : ∃ S2, bs (L.take m) = S2 := ⟨_, rfl⟩
      rw [show (⟨L.toArray⟩ : ByteArray) = bs L from rfl, hS1] at v1
      rw [show (⟨(L.take m).toArray⟩ : ByteArray) = bs (L.take m) from rfl, hS2] at v2
      rw [hS1] at z1
      rw [hS2] at z2
      have HB := Lib.hid (bj HB1.out hbel)
      have HZ := Lib.hid (And.intro z1 (And.intro z2 hmn))
      have l1 : (m : Int) ≤ (cap : Int) := by omega
      have l2 : m ≤ cap := by omega
      have hcut : ((c : Int) % 2 = 1) ∨ ¬ ((c : Int) % 2 = 1) := by omega
      have hA : decide (k < la.length) = false ∨ (decide (k < la.length) = true ∧ decide (k < lb.length) = false) ∨ (decide (k < la.length) = true ∧ decide (k < lb.length) = true ∧ decide ((k : Int) < 40) = false) ∨ (decide (k < la.length) = true ∧ decide (k < lb.length) = true ∧ decide ((k : Int) < 40) = true ∧ decide (0 < n) = false) := by
        by_cases a : k < la.length
        · by_cases b : k < lb.length
          · by_cases d : k < 40
            · exact Or.inr (Or.inr (Or.inr ⟨decide_eq_true a, decide_eq_true b, decide_eq_true (by omega), decide_eq_false (hex a b d)⟩))
            · exact Or.inr (Or.inr (Or.inl ⟨decide_eq_true a, decide_eq_true b, decide_eq_false (by omega)⟩))
          · exact Or.inr (Or.inl ⟨decide_eq_true a, decide_eq_false b⟩)
        · exact Or.inl (decide_eq_false a)
      clear hall hex hm hh hLm hRm hS1 hS2 z1 z2 hR hbel hmn hcap
      by_cases hs1 : 100 < s.size
      · have y1 : (100 : Int) < (s.size : Int) := by omega
        rcases hcut with hc2 | hc2
        all_goals
          rcases hA with d1 | ⟨d1, d2⟩ | ⟨d1, d2, d3⟩ | ⟨d1, d2, d3, d4⟩
          all_goals
            go_wp2
            go_ret
            exact ⟨_, by have := HZ.out; omega, rfl, HB.out⟩
      · have y1 : ¬ (100 : Int) < (s.size : Int) := by omega
        have a1 : ∀ W : World, (Op.stringOp .add S1 s).run Try.prog W = .ok (.string (S1 ++ s)) W := fun W => run_string_add_sum (P := Try.prog) (w := W) _ _ (by have := HZ.out; omega)
        have a2 : ∀ W : World, (Op.stringOp .add S2 s).run Try.prog W = .ok (.string (S2 ++ s)) W := fun W => run_string_add_sum (P := Try.prog) (w := W) _ _ (by have := HZ.out; omega)
        rcases hcut with hc2 | hc2
        all_goals
          rcases hA with d1 | ⟨d1, d2⟩ | ⟨d1, d2, d3⟩ | ⟨d1, d2, d3, d4⟩
          all_goals
            go_wp2
            go_ret
            exact ⟨_, by rw [ByteArray.size_append]; have := HZ.out; omega, rfl, HB.out⟩
end Go.Proofs.Ytfnppmiapjhjlaa

/- PgPutRef -/
namespace Go.Proofs.Ytfnppmiapjhjlaa
open Go.RowKit
set_option linter.unusedVariables false

theorem pputr_no (a : ByteArray) (p : Int) (w : World) (h : pgOk a.size p = false) :
    Calls Try.prog 11 #[.string a, .int .i64 p] w fun e w' => e = .returned (.string (putP a p)) ∧ Below w.heap.size w w' := by
  rw [putP_no h]
  have H1 := Lib.hid fun W => pmay_ref a.size p W
  rw [h] at H1
  go_enter Try.func11, Try.ntmps11
  go_wp2_with fail
  refine (H1.out _).mono ?_
  rintro e w1 ⟨rfl, rfl⟩
  go_wp2
  go_ret
  exact ⟨rfl, Below.refl _ _⟩

set_option maxHeartbeats 1000000 in
theorem pputr_yes (a : ByteArray) (p m : Nat) (w : World) (h : pgOk a.size p = true) (hm : a.size = 60 * m) (hm2 : m ≤ 2000) (hp : p ≤ 16) :
    Calls Try.prog 11 #[.string a, .int .i64 (p : Nat)] w fun e w' => e = .returned (.string (hdP a.size p ++ pgs a m)) ∧ Below w.heap.size w w' := by
  have H1 := Lib.hid fun W => pmay_ref a.size p W
  rw [h] at H1
  have H2 := Lib.hid fun W => headr_any a.size p W (by omega) (by omega)
  have HZ := hdP_size a.size p
  have hz : ∀ k, k ≤ m → (pgs a k).size = 64 * k := fun k hk => pgs_size a k (by omega)
  have H3 := Lib.hid fun (k : Nat) (W : World) (hk : k < m) => seal_ref (a.extract (60 * k) (60 * k + 60)) W (by rw [ByteArray.size_extract]; unfold maxLen; omega)
  have hs : ∀ k, k < m → (sealS (a.extract (60 * k) (60 * k + 60))).size = 64 := fun k hk => by rw [seal_size, ByteArray.size_extract]; omega
  have hpg := Lib.hid (pgs_succ a)
  have hp0 : pgs a 0 = ByteArray.empty := rfl
  generalize hdP a.size p = HD at *
  have HM := Lib.hid hm
  clear hm h
  go_enter Try.func11, Try.ntmps11
  go_wp2_with fail
  refine (H1.out _).mono ?_
  rintro e w1 ⟨rfl, rfl⟩
  go_wp2_with fail
  refine (H2.out _).mono ?_
  rintro e w1 ⟨rfl, b1⟩
  have hl : ((a.size : Nat) : Int) ≤ 120000 := by have := HM.out; omega
  go_wp2_with fail
  go_loopw [5, 6] (fun s v wr => ∃ k : Nat, k ≤ m ∧ v = .int .i64 ((60 * k : Nat) : Int) ∧ s = .string (HD ++ pgs a k) ∧ Below w.heap.size w wr) (fun _ v _ => 60 * m + 1 - (intOf v).toNat)
  case atStart => exact ⟨0, Nat.zero_le _, rfl, by rw [hp0, ByteArray.append_empty], b1⟩
  case round =>
    clear hp0 b1
    obtain ⟨k, hk, rfl, rfl, hb⟩ := hrel
    obtain ⟨y, hy⟩ : ∃ y, 60 * k = y := ⟨_, rfl⟩
    by_cases hlt : k < m
    · have H3k := Lib.hid fun W => H3.out k W hlt
      have hsk := hs k hlt
      have hp1 := hpg.out k
      have hzk := hz k hk
      rw [hy] at H3k hsk hp1
      have A1 : ∀ W : World, (Op.stringOp .add (HD ++ pgs a k) (sealS (a.extract y (y + 60)))).run Try.prog W = .ok (.string (HD ++ pgs a k ++ sealS (a.extract y (y + 60)))) W := fun W => run_string_add_sum (P := Try.prog) (w := W) _ _ (by rw [ByteArray.size_append, HZ, hzk, hsk]; omega)
      have e2 : HD ++ pgs a k ++ sealS (a.extract y (y + 60)) = HD ++ pgs a (k + 1) := by rw [hp1, ByteArray.append_assoc]
      rw [e2] at A1
      clear e2 hp1 hzk hsk
      generalize sealS (a.extract y (y + 60)) = SP at *
      obtain ⟨PN, hPN⟩ : ∃ PN, HD ++ pgs a (k + 1) = PN := ⟨_, rfl⟩
      rw [hPN] at A1
      have HPN := Lib.hid hPN
      clear hPN
      generalize HD ++ pgs a k = PK at *
      have s1 : (y : Int) < (a.size : Int) := by have := HM.out; omega
      have s2 : (y : Int) + 60 ≤ (a.size : Int) := by have := HM.out; omega
      rw [hy]
      have HY := Lib.hid hy
      clear hy hs hz
      go_wp2_with fail
      refine (H3k.out _).mono ?_
      rintro e w3 ⟨rfl, b3⟩
      have HB := Lib.hid (bj hb b3)
      clear hb b3
      go_wp2
      go_roundw
      case rel => exact ⟨k + 1, hlt, by rw [show 60 * (k + 1) = y + 60 by have := HY.out; omega]; go_num, by rw [HPN.out], HB.out⟩
      case measure =>
        have := HY.out
        simp [intOf]
        omega
    · obtain rfl : k = m := by omega
      have s1 : (a.size : Int) ≤ (y : Int) := by have := HM.out; omega
      rw [hy]
      go_wp2
      go_ret
      exact ⟨rfl, hb⟩
theorem pputr_any (a : ByteArray) (p : Int) (w : World) :
    Calls Try.prog 11 #[.string a, .int .i64 p] w fun e w' => e = .returned (.string (putP a p)) ∧ Below w.heap.size w w' := by
  cases h : pgOk a.size p with
  | false => exact pputr_no a p w h
  | true =>
    obtain ⟨g1, g2, g3, g4, g5⟩ := pgOk_iff.1 h
    obtain ⟨q, rfl⟩ : ∃ q : Nat, p = q := ⟨p.toNat, by omega⟩
    rw [putP_yes h, Int.toNat_natCast]
    exact pputr_yes a q (a.size / 60) w h (by omega) (by omega) (by omega)
end Go.Proofs.Ytfnppmiapjhjlaa
