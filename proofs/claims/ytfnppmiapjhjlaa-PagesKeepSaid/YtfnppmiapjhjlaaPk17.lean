/- BlMakeRef -/
import Derived.Test.YtfnppmiapjhjlaaPk10
import Derived.Test.YtfnppmiapjhjlaaPk01
/- BlMakeRef -/
namespace Go.Proofs.Ytfnppmiapjhjlaa
open Go.RowKit
set_option linter.unusedVariables false

theorem rowOf_form {mk : Nat → Value} {w : World} {v : Value} {l : List Nat} (h : RowOf mk w v l) : ∃ A c, v = .slice A l.length c := by
  rcases h with ⟨rfl, A, c, rfl⟩ | ⟨_, b, off, c, rfl, _⟩
  · exact ⟨A, c, rfl⟩
  · exact ⟨_, c, rfl⟩
theorem rowOf_at {mk : Nat → Value} {w : World} {A : Option Addr} {c : Nat} {l : List Nat} (h : RowOf mk w (.slice A l.length c) l) (h0 : 0 < l.length) :
    ∃ b off, A = some ⟨b, off, none⟩ ∧ b < w.heap.size ∧ l.length ≤ c ∧ ∀ i, i < l.length → w.cell? ⟨b, off + i, none⟩ = some (mk (l.getD i 0)) := by
  rcases h with ⟨rfl, _⟩ | ⟨_, b, off, cap, hv, hc, hb, hx⟩
  · cases h0
  · cases hv
    exact ⟨b, off, rfl, hb, hc, hx⟩

set_option maxHeartbeats 800000 in
theorem makeref_no (v : Value) (l : List Nat) (p b : Int) (w : World) (hv : RowOf u64V w v l) (wb : (Lit.int .i64 b).wf = true) (hk : mkOk b = false) :
    Calls Try.prog 16 #[v, .int .i64 p, .int .i64 b] w fun e w' => e = .returned (.string (bs (makeL l p b))) ∧ Below w.heap.size w w' := by
  have bb := bounds_i64 wb
  have hk2 : ¬ (1 ≤ b ∧ b ≤ 1000000 ∧ b % 8 = 0) := by unfold mkOk at hk; exact of_decide_eq_false hk
  rw [makeL_no hk]
  go_enter Try.func16, Try.ntmps16
  by_cases h1 : b < 1
  · go_wp2
    go_ret
    exact ⟨rfl, Below.refl _ _⟩
  · by_cases h2 : 1000000 < b
    · go_wp2
      go_ret
      exact ⟨rfl, Below.refl _ _⟩
    · obtain ⟨m, rfl⟩ : ∃ m : Nat, b = m := ⟨b.toNat, by omega⟩
      have h3 : (0 : Int) < (m : Int) % 8 := by omega
      go_wp2
      go_ret
      exact ⟨rfl, Below.refl _ _⟩

theorem hbit_step (D : List Nat) (j q : Nat) : hbit D j (q + 1) = hbit D j q * 2 + (on D (8 * j + (7 - q))).toNat := rfl

set_option maxRecDepth 100000 in
set_option maxHeartbeats 4000000 in
theorem makeref_yes (v : Value) (l : List Nat) (p : Int) (m n : Nat) (w : World) (hv : RowOf u64V w v l) (wl : Words l) (hl : l.length ≤ 1000) (wp : (Lit.int .i64 p).wf = true) (hm : m = 8 * n) (hn0 : 0 < n) (hn : n ≤ 125000) :
    Calls Try.prog 16 #[v, .int .i64 p, .int .i64 (m : Nat)] w fun e w' => e = .returned (.string (bs (bytesL (setL l p (m : Nat)) n))) ∧ Below w.heap.size w w' := by
  obtain ⟨A, c, rfl⟩ := rowOf_form hv
  have wb : (Lit.int .i64 (m : Nat)).wf = true := WalkArith.wf_i64 (by omega)
  have h1 : ¬ (m : Int) < 1 := by omega
  have h2 : ¬ 1000000 < (m : Int) := by omega
  have h3 : ¬ (0 : Int) < (m : Int) % 8 := by omega
  have h4 : IntKind.i64.wrap ((m : Int) / 8) = (n : Int) := by rw [IntKind.wrap_i64]; omega
  have hmk := run_make_row' (P := Try.prog) 69 4 (.bool false) 1 Try.underlying69 (by kernel_rfl) rfl .i64 .i64 m (by omega) (by omega)
  have hR0 := rowB_made w (.bool false) m 4
  obtain ⟨Z, hZ⟩ : ∃ Z, madeCells #[Value.bool false] m = Z := ⟨_, rfl⟩
  rw [hZ] at hmk hR0
  have hmk2 := run_make_row' (P := Try.prog) 36 5 (.int .u8 0) 1 Try.underlying36 (by kernel_rfl) rfl .i64 .i64 n (by omega) (by omega)
  have HR2 := Lib.hid fun W => rowB_made W (.int .u8 0) n 5
  obtain ⟨Z2, hZ2⟩ : ∃ Z, madeCells #[Value.int .u8 0] n = Z := ⟨_, rfl⟩
  rw [hZ2] at hmk2 HR2
  have HM := Lib.hid hm
  have bp := bounds_i64 wp
  have h64 := nps_le p
  have hnp : (nps p : Int) = max 0 (min p 64) := by unfold nps; omega
  clear hZ hZ2 hm
  go_enter Try.func16, Try.ntmps16
  go_wp2
  go_loopw [8] (fun kk wr => ∃ k : Nat, k ≤ l.length ∧ kk = .int .i64 k ∧ RowB wr w.heap.size m (fun i => .bool (on (setL (l.take k) p (m : Nat)) i)) ∧ Below w.heap.size w wr) (fun kk _ => l.length - (intOf kk).toNat)
  case atStart => exact ⟨0, Nat.zero_le _, rfl, hR0.congr fun i _ => by rw [List.take_zero, setL_nil]; rfl, (Below.refl _ w).alloc (Nat.le_refl _) _⟩
  case round =>
    obtain ⟨k, hk, rfl, hrow, hbel⟩ := hrel
    by_cases hlt : k < l.length
    · obtain ⟨q0, off, rfl, hb0, hcap, hcell⟩ := rowOf_at hv (by omega)
      have hcx := (hbel.cell (p := ⟨q0, off + k, none⟩) hb0).trans (hcell k hlt)
      have hg := words_at wl k
      have HT := Lib.hid (take_next l k hlt)
      unfold u64V at hcx
      have HC := Lib.hid (hcell k hlt)
      unfold u64V at HC
      generalize l.getD k 0 = g at *
      have s1 : (k : Int) < (l.length : Int) := by omega
      have HP := Lib.hid fun (i : Nat) (w : World) (hi : i < 64) => probe_ref g (i : Nat) (m : Nat) w hg (WalkArith.wf_i64 (by omega)) wb
      have HSN := Lib.hid (setL_snoc (l.take k) g p (m : Nat))
      obtain ⟨D0, hD0⟩ : ∃ D0, setL (l.take k) p (m : Nat) = D0 := ⟨_, rfl⟩
      rw [hD0] at hrow HSN
      clear hcell hD0
      go_wp2
      go_loopw [9] (fun ii wi => ∃ q : Nat, q ≤ nps p ∧ ii = .int .i64 q ∧ RowB wi w.heap.size m (fun i => .bool (on (D0 ++ asksTo g (m : Nat) q) i)) ∧ Below w.heap.size w wi) (fun ii _ => nps p - (intOf ii).toNat)
      case atStart => exact ⟨0, Nat.zero_le _, rfl, by rw [asksTo_zero, List.append_nil]; exact hrow, hbel⟩
      case round =>
        clear hrow hbel hcx hmk hmk2
        obtain ⟨q, hq, rfl, hri, hbi⟩ := hrel
        by_cases hql : q < nps p
        · have hci := (hbi.cell (p := ⟨q0, off + k, none⟩) hb0).trans ((show w.cell? ⟨q0, off + k, none⟩ = some (.int .u64 (g : Nat)) from HC.out))
          have HK := Lib.hid fun w => HP.out q w (by omega)
          have hlx := prb_lt g (q : Nat) (show (1 : Int) ≤ (m : Nat) by omega)
          have HA := Lib.hid (asksTo_succ g (m : Nat) q)
          generalize prb g (q : Nat) (m : Nat) = x at *
          have hxm : x < m := by omega
          have s2 : (x : Int) < (m : Int) := by omega
          have fR := hri.frozen hxm
          have cR := hri.cell hxm
          have hs := hri.set x (.bool true)
          have HR := Lib.hid (And.intro hs (And.intro hri hbi))
          have s4 : ((q : Int) < p) := by omega
          have s5 : ((q : Int) < 64) := by omega
          clear hs hri hbi
          go_wp2_with fail
          refine (HK.out _).mono ?_
          rintro e w' ⟨rfl, rfl⟩
          go_wp2
          go_roundw
          case rel =>
            obtain ⟨hs, hri, hbi⟩ := HR.out
            refine ⟨q + 1, by omega, by go_num, hs.congr fun i _ => ?_, hbi.setCell (p := ⟨w.heap.size, x, none⟩) (Nat.le_refl _) _⟩
            rw [HA.out, ← List.append_assoc, on_append (D0 ++ asksTo g (m : Nat) q) [x], on_one]
            by_cases e : i = x
            · rw [if_pos e, decide_eq_true e, Bool.or_true]
            · rw [if_neg e, decide_eq_false e, Bool.or_false]
          case measure => simp [intOf]; omega
        · obtain rfl : q = nps p := by omega
          have HR := Lib.hid (And.intro hri hbi)
          clear hri hbi
          by_cases h5 : (nps p : Int) < p
          · have h6 : ¬ (nps p : Int) < 64 := by omega
            go_wp2
            go_roundw
            case rel =>
              obtain ⟨hri, hbi⟩ := HR.out
              exact ⟨k + 1, hlt, by go_num, hri.congr fun i _ => by rw [asksTo_all, HT.out, HSN.out], hbi⟩
            case measure => simp [intOf]; omega
          · go_wp2
            go_roundw
            case rel =>
              obtain ⟨hri, hbi⟩ := HR.out
              exact ⟨k + 1, hlt, by go_num, hri.congr fun i _ => by rw [asksTo_all, HT.out, HSN.out], hbi⟩
            case measure => simp [intOf]; omega
    · obtain rfl : k = l.length := by omega
      rw [List.take_length] at hrow
      obtain ⟨D, hD⟩ : ∃ D, setL l p (m : Nat) = D := ⟨_, rfl⟩
      rw [hD] at hrow
      have HD := Lib.hid hD
      have s1 : ¬ (l.length : Int) < (l.length : Int) := by omega
      obtain ⟨wd, rfl⟩ : ∃ wd, wd = wr := ⟨_, rfl⟩
      have hR2 := HR2.out wd
      have hB1 : Below wd.heap.size wd (wd.alloc (.cells Z2 5)) := (Below.refl _ wd).alloc (Nat.le_refl _) _
      have HO := Lib.hid (And.intro hrow hbel)
      clear hD hmk hrow hbel
      go_wp2
      go_loopw [11] (fun jj wj => ∃ j : Nat, j ≤ n ∧ jj = .int .i64 j ∧ RowB wj wd.heap.size n (fun i => .int .u8 ((if i < j then byL D i else 0 : Nat) : Int)) ∧ Below wd.heap.size wd wj) (fun jj _ => n - (intOf jj).toNat)
      case atStart => exact ⟨0, Nat.zero_le _, rfl, hR2.congr fun i _ => by rw [if_neg (by omega)]; rfl, hB1⟩
      case round =>
        clear hR2 hB1 hmk2
        obtain ⟨j, hj, rfl, hrj, hbj⟩ := hrel
        by_cases hjl : j < n
        · have s2 : (j : Int) < (n : Int) := by omega
          go_wp2
          go_loopw [12] (fun kk wk => ∃ q : Nat, q ≤ 8 ∧ kk = .int .i64 (7 - (q : Int)) ∧ RowB wk wd.heap.size n (fun i => .int .u8 ((if i = j then hbit D j q else if i < j then byL D i else 0 : Nat) : Int)) ∧ Below wd.heap.size wd wk) (fun kk _ => (1 + intOf kk).toNat)
          case atStart =>
            refine ⟨0, by omega, rfl, hrj.congr fun i _ => ?_, hbj⟩
            by_cases e : i = j
            · rw [if_pos e, if_neg (by omega)]; rfl
            · rw [if_neg e]
          case round =>
            clear hrj hbj
            obtain ⟨q, hq, rfl, hrk, hbk⟩ := hrel
            by_cases hq8 : q < 8
            · obtain ⟨kk, hkk⟩ : ∃ kk : Nat, (7 - (q : Int)) = (kk : Int) := ⟨7 - q, by omega⟩
              have hk7 : 7 - q = kk := by omega
              rw [hkk]
              have h6 : (0 : Int) ≤ (kk : Int) := by omega
              have c1 := hrk.cell hjl
              have f1 := hrk.frozen hjl
              rw [if_pos rfl] at c1
              have hlt8 : hbit D j q * 2 < 256 := by
                have h1 := hbit_lt D j q
                have h2 : 2 ^ q ≤ 2 ^ 7 := Nat.pow_le_pow_right (by decide) (by omega)
                omega
              have hst := hbit_step D j q
              rw [hk7] at hst
              obtain ⟨z, hz⟩ : ∃ z, 8 * j + kk = z := ⟨_, rfl⟩
              rw [hz] at hst
              have hzm : z < m := by have := HM.out; omega
              have hzi : 8 * (j : Int) + (kk : Int) = (z : Int) := by omega
              have s3 : (z : Int) < (m : Int) := by omega
              obtain ⟨cv, hcv⟩ : ∃ cv, hbit D j q = cv := ⟨_, rfl⟩
              simp only [hcv] at c1 hlt8 hst
              obtain ⟨e2, he2⟩ : ∃ e2, cv * 2 = e2 := ⟨_, rfl⟩
              obtain ⟨e3, he3⟩ : ∃ e3, e2 + 1 = e3 := ⟨_, rfl⟩
              have w1 : IntKind.u8.wrap ((cv : Int) * 2) = (e2 : Int) := by rw [IntKind.wrap_u8]; omega
              have w2 : IntKind.u8.wrap ((e2 : Int) + 1) = (e3 : Int) := by rw [IntKind.wrap_u8]; omega
              have r1 := hrk.set j (.int .u8 (e2 : Int))
              have b1 := hbk.setCell (p := ⟨wd.heap.size, j, none⟩) (Nat.le_refl _) (.int .u8 (e2 : Int))
              have con := (HO.out.1.below b1).cell hzm
              have c2 := r1.cell hjl
              have f2 := r1.frozen hjl
              rw [if_pos rfl] at c2
              have r2 := r1.set j (.int .u8 (e3 : Int))
              have b2 := b1.setCell (p := ⟨wd.heap.size, j, none⟩) (Nat.le_refl _) (.int .u8 (e3 : Int))
              have HF := Lib.hid (And.intro r1 (And.intro b1 (And.intro r2 b2)))
              rw [he2] at hst
              have HST := Lib.hid hst
              have HE3 := Lib.hid he3
              have HCV := Lib.hid hcv
              clear hrk hbk r1 b1 r2 b2 hst hcv hz he2 he3
              generalize on D z = o at *
              cases o
              · go_wp2
                go_roundw
                case rel =>
                  obtain ⟨r1, b1, _, _⟩ := HF.out
                  refine ⟨q + 1, by omega, by go_num, r1.congr fun i _ => ?_, b1⟩
                  by_cases e : i = j
                  · subst e
                    rw [if_pos rfl, if_pos rfl, HST.out]
                    rfl
                  · rw [if_neg e, if_neg e, if_neg e]
                case measure => simp [intOf]; omega
              · go_wp2
                go_roundw
                case rel =>
                  obtain ⟨r1, b1, r2, b2⟩ := HF.out
                  refine ⟨q + 1, by omega, by go_num, r2.congr fun i _ => ?_, b2⟩
                  by_cases e : i = j
                  · subst e
                    rw [if_pos rfl, if_pos rfl, HST.out, ← HE3.out]
                    rfl
                  · rw [if_neg e, if_neg e, if_neg e, if_neg e]
                case measure => simp [intOf]; omega
            · obtain rfl : q = 8 := by omega
              have HF := Lib.hid (And.intro hrk hbk)
              clear hrk hbk
              go_wp2
              go_roundw
              case rel =>
                obtain ⟨hrk, hbk⟩ := HF.out
                refine ⟨j + 1, by omega, by go_num, hrk.congr fun i _ => ?_, hbk⟩
                by_cases e : i = j
                · subst e
                  rw [if_pos rfl, if_pos (by omega)]
                  rfl
                · rw [if_neg e]
                  by_cases e2 : i < j
                  · rw [if_pos e2, if_pos (by omega)]
                  · rw [if_neg e2, if_neg (by omega)]
              case measure => simp [intOf]; omega
        · obtain rfl : j = n := by omega
          have s2 : ¬ (j : Int) < (j : Int) := by omega
          obtain ⟨L, hL⟩ : ∃ L, bytesL D j = L := ⟨_, rfl⟩
          have hrow : RowB wr wd.heap.size j (u8At L) := hrj.congr fun i hi => by
            rw [← hL, if_pos hi]
            unfold u8At
            rw [bytesL_at _ hi]
          have hcv := conv_out hrow (by rw [← hL, bytesL_length]) j
          have HL := Lib.hid hL
          have HB := Lib.hid (HO.out.2.trans (hbj.mono HO.out.2.size))
          clear hL hrow hrj hbj
          go_wp2
          go_ret
          exact ⟨ret_str (by rw [HD.out, HL.out]; rfl), HB.out⟩

/-- The document's Make. -/
theorem make_ref (v : Value) (l : List Nat) (p b : Int) (w : World) (hv : RowOf u64V w v l) (wl : Words l) (hl : l.length ≤ 1000) (wp : (Lit.int .i64 p).wf = true) (wb : (Lit.int .i64 b).wf = true) :
    Calls Try.prog 16 #[v, .int .i64 p, .int .i64 b] w fun e w' => e = .returned (.string (bs (makeL l p b))) ∧ Below w.heap.size w w' := by
  cases hk : mkOk b with
  | false => exact makeref_no v l p b w hv wb hk
  | true =>
    have hk2 : 1 ≤ b ∧ b ≤ 1000000 ∧ b % 8 = 0 := by unfold mkOk at hk; exact of_decide_eq_true hk
    rw [makeL_yes hk]
    obtain ⟨m, rfl⟩ : ∃ m : Nat, b = m := ⟨b.toNat, by omega⟩
    rw [Int.toNat_natCast]
    exact makeref_yes v l p m (m / 8) w hv wl hl wp (by omega) (by omega) (by omega)
end Go.Proofs.Ytfnppmiapjhjlaa
