/- The walk of EventsAll. -/
import Derived.Test.YtkidaijcpeebdaaEventsAllAny
namespace Go.Proofs.Ytkidaijcpeebdaa.EvAll
open Go.RowKit
set_option linter.unusedVariables false
attribute [local go_sem] run_store_float

theorem raws_form {w : World} {v : Value} {l : List RawS} (h : RawsIn w v l) : ∃ A c, v = .slice A l.length c := by
  rcases h with ⟨rfl, a, c, rfl⟩ | ⟨b, off, cap, rfl, _⟩
  · exact ⟨_, _, rfl⟩
  · exact ⟨_, _, rfl⟩
theorem raws_pos {w : World} {A : Option Addr} {n c : Nat} {l : List RawS} (h : RawsIn w (.slice A n c) l) (hl : 0 < l.length) : ∃ b off, A = some ⟨b, off, none⟩ ∧ b < w.heap.size ∧
    ∀ i x, l[i]? = some x → w.cell? ⟨b, off + i * 3, none⟩ = some (.string x.t) ∧ w.cell? ⟨b, off + i * 3 + 1, none⟩ = some (.string x.d) ∧ w.cell? ⟨b, off + i * 3 + 2, none⟩ = some (.int .u64 (x.b : Nat)) := by
  rcases h with ⟨rfl, _⟩ | ⟨b, off, cap, hv, _, _, hb, hc⟩
  · cases hl
  · cases hv; exact ⟨b, off, rfl, hb, fun i x hx => ⟨hc i x hx 0 _ rfl, hc i x hx 1 _ rfl, hc i x hx 2 _ rfl⟩⟩

theorem long (A B : Option Addr) (n m c d : Nat) (w : World) (hn : n ≤ maxLen) (hm : m ≤ maxLen) (h : 30 < n ∨ 30 < m) :
    Calls Try.prog 5 #[.slice A n c, .slice B m d] w fun e w' => e = .returned (.bool true) ∧ Below w.heap.size w w' := by
  unfold maxLen at hn hm
  by_cases h1 : 30 < n
  · go_enter Try.func5, Try.ntmps5
    go_wp2_with fail
    refine (happened_true _).mono ?_
    rintro e w1 ⟨rfl, hb1⟩
    go_wp2
    go_ret
    exact ⟨rfl, hb1⟩
  · have h2 : 30 < m := by omega
    go_enter Try.func5, Try.ntmps5
    go_wp2_with fail
    refine (happened_true _).mono ?_
    rintro e w1 ⟨rfl, hb1⟩
    go_wp2
    go_ret
    exact ⟨rfl, hb1⟩

set_option maxHeartbeats 4000000 in
set_option maxRecDepth 100000 in
theorem short (A B : Option Addr) (la lb : List RawS) (c d : Nat) (w : World) (h1 : RawsIn w (.slice A la.length c) la) (h2 : RawsIn w (.slice B lb.length d) lb) (hn : la.length ≤ 30) (hm : lb.length ≤ 30) (ha : AllOk la) (hb : AllOk lb) :
    Calls Try.prog 5 #[.slice A la.length c, .slice B lb.length d] w fun e w' => e = .returned (.bool true) ∧ Below w.heap.size w w' := by
  have HA := Lib.hid ha
  have HB := Lib.hid hb
  have H1 := Lib.hid h1
  have H2 := Lib.hid h2
  clear ha hb h1 h2
  go_enter Try.func5, Try.ntmps5
  go_wp2
  go_loopw [5] (fun i wr => ∃ k : Nat, k ≤ la.length ∧ i = .int .i64 k ∧ Below w.heap.size w wr) (fun i _ => la.length - (intOf i).toNat)
  case atStart => exact ⟨0, Nat.zero_le _, rfl, Below.refl _ _⟩
  case round =>
    obtain ⟨k, hk, rfl, hbel⟩ := hrel
    by_cases hlt : k < la.length
    · obtain ⟨x, hx⟩ : ∃ x, la[k]? = some x := ⟨la[k], List.getElem?_eq_getElem hlt⟩
      obtain ⟨p, po, rfl, hp, ca⟩ := raws_pos H1.out (by omega)
      obtain ⟨a0, a1, a2⟩ := ca k x hx
      have q0 := keep_cell hbel hp a0
      have q1 := keep_cell hbel hp a1
      have q2 := keep_cell hbel hp a2
      have wx := HA.out x (List.mem_of_getElem? hx)
      have HG := Lib.hid fun W => great_any x.t x.d x.b W wx.t wx.d
      obtain ⟨t, dd, n⟩ := x
      simp only at q0 q1 q2 HG
      have s1 : (k : Int) < (la.length : Int) := by omega
      clear hx ca a0 a1 a2 wx
      generalize grt t dd = o at *
      cases o
      · go_wp2_with fail
        refine (HG.out _).mono ?_
        rintro e w1 ⟨rfl, hb1⟩
        have hb2 := bj hbel hb1
        go_wp2
        go_roundw
        case rel => exact ⟨k + 1, by omega, by go_num, hb2⟩
        case measure => simp [intOf]; omega
      · go_wp2_with fail
        refine (HG.out _).mono ?_
        rintro e w1 ⟨rfl, hb1⟩
        go_wp2_with fail
        refine (happened_true _).mono ?_
        rintro e w2 ⟨rfl, hb2⟩
        have hb3 := bj hbel (bj hb1 hb2)
        go_wp2
        go_ret
        exact ⟨rfl, hb3⟩
    · obtain rfl : k = la.length := by omega
      have s1 : ¬ (la.length : Int) < (la.length : Int) := by omega
      go_wp2
      go_loopw [6] (fun i wr => ∃ k : Nat, k ≤ lb.length ∧ i = .int .i64 k ∧ Below w.heap.size w wr) (fun i _ => lb.length - (intOf i).toNat)
      case atStart => exact ⟨0, Nat.zero_le _, rfl, hbel⟩
      case round =>
        clear hbel
        obtain ⟨k, hk, rfl, hbel⟩ := hrel
        by_cases hlt : k < lb.length
        · obtain ⟨x, hx⟩ : ∃ x, lb[k]? = some x := ⟨lb[k], List.getElem?_eq_getElem hlt⟩
          obtain ⟨p, po, rfl, hp, ca⟩ := raws_pos H2.out (by omega)
          obtain ⟨a0, a1, a2⟩ := ca k x hx
          have q0 := keep_cell hbel hp a0
          have q1 := keep_cell hbel hp a1
          have q2 := keep_cell hbel hp a2
          have wx := HB.out x (List.mem_of_getElem? hx)
          have HG := Lib.hid fun W => great_any x.t x.d x.b W wx.t wx.d
          obtain ⟨t, dd, n⟩ := x
          simp only at q0 q1 q2 HG
          have s1 : (k : Int) < (lb.length : Int) := by omega
          clear hx ca a0 a1 a2 wx
          generalize grt t dd = o at *
          cases o
          · go_wp2_with fail
            refine (HG.out _).mono ?_
            rintro e w1 ⟨rfl, hb1⟩
            have hb2 := bj hbel hb1
            go_wp2
            go_roundw
            case rel => exact ⟨k + 1, by omega, by go_num, hb2⟩
            case measure => simp [intOf]; omega
          · go_wp2_with fail
            refine (HG.out _).mono ?_
            rintro e w1 ⟨rfl, hb1⟩
            go_wp2_with fail
            refine (happened_true _).mono ?_
            rintro e w2 ⟨rfl, hb2⟩
            have hb3 := bj hbel (bj hb1 hb2)
            go_wp2
            go_ret
            exact ⟨rfl, hb3⟩
        · obtain rfl : k = lb.length := by omega
          have s1 : ¬ (lb.length : Int) < (lb.length : Int) := by omega
          have R1 := Lib.hid (H1.out.below hbel (Nat.le_refl _))
          have R2 := Lib.hid (H2.out.below hbel (Nat.le_refl _))
          have er : (evAll la lb == evAll la lb) = true := by simp
          have eself := Lib.hid (evAll_self la)
          go_wp2_with fail
          refine (all_law _ la _ R1.out (by omega)).mono ?_
          rintro e w1 ⟨u1, rfl, e1, hb1⟩
          obtain ⟨A1, c1, rfl⟩ := e1.form
          have E1 := Lib.hid e1
          clear e1
          go_wp2_with fail
          refine (all_law _ lb _ (R2.out.below hb1 (Nat.le_refl _)) (by omega)).mono ?_
          rintro e w2 ⟨u2, rfl, e2, hb2⟩
          obtain ⟨A2, c2, rfl⟩ := e2.form
          have E2 := Lib.hid e2
          clear e2
          go_wp2_with fail
          refine (all_any _ _ la lb _ (E1.out.below hb2 (Nat.le_refl _)) E2.out (by omega) (by omega) HA.out HB.out).mono ?_
          rintro e w3 ⟨rfl, hb3⟩
          have b13 := Lib.hid (bj hb1 (bj hb2 hb3))
          clear hb1 hb2 hb3 E1 E2
          go_wp2_with fail
          refine (all_law _ la _ (R1.out.below b13.out (Nat.le_refl _)) (by omega)).mono ?_
          rintro e w4 ⟨u4, rfl, e4, hb4⟩
          obtain ⟨A4, c4, rfl⟩ := e4.form
          have E4 := Lib.hid e4
          clear e4
          go_wp2_with fail
          refine (all_law _ lb _ (R2.out.below (bj b13.out hb4) (Nat.le_refl _)) (by omega)).mono ?_
          rintro e w5 ⟨u5, rfl, e5, hb5⟩
          obtain ⟨A5, c5, rfl⟩ := e5.form
          have E5 := Lib.hid e5
          clear e5
          go_wp2_with fail
          refine (all_ref _ _ la lb _ (E4.out.below hb5 (Nat.le_refl _)) E5.out (by omega) (by omega) HA.out HB.out).mono ?_
          rintro e w6 ⟨rfl, hb6⟩
          have b16 := Lib.hid (bj b13.out (bj hb4 (bj hb5 hb6)))
          clear hb4 hb5 hb6 E4 E5 b13
          go_wp2_with fail
          refine (all_law _ la _ (R1.out.below b16.out (Nat.le_refl _)) (by omega)).mono ?_
          rintro e w7 ⟨u7, rfl, e7, hb7⟩
          obtain ⟨A7, c7, rfl⟩ := e7.form
          have E7 := Lib.hid e7
          clear e7
          go_wp2_with fail
          refine (all_law _ la _ (R1.out.below (bj b16.out hb7) (Nat.le_refl _)) (by omega)).mono ?_
          rintro e w8 ⟨u8, rfl, e8, hb8⟩
          obtain ⟨A8, c8, rfl⟩ := e8.form
          have E8 := Lib.hid e8
          clear e8
          go_wp2_with fail
          have hs := all_any _ _ la la _ (E7.out.below hb8 (Nat.le_refl _)) E8.out (by omega) (by omega) HA.out HA.out
          rw [eself.out] at hs
          refine hs.mono ?_
          rintro e w9 ⟨rfl, hb9⟩
          clear hs
          go_wp2_with fail
          refine (happened_true _).mono ?_
          rintro e w10 ⟨rfl, hb10⟩
          have hfin := bj hbel (bj b16.out (bj hb7 (bj hb8 (bj hb9 hb10))))
          go_wp2
          go_ret
          exact ⟨rfl, hfin⟩

theorem walk (W : World) (v0 : Value) (l0 : List RawS) (v1 : Value) (l1 : List RawS) (h0 : RawsIn W v0 l0) (w0 : ∀ x ∈ l0, RawOk x) (h1 : RawsIn W v1 l1) (w1 : ∀ x ∈ l1, RawOk x) :
    Calls Try.prog 5 #[v0, v1] W fun e w' => e = .returned (.bool true) ∧ Below W.heap.size W w' := by
  have len : ∀ {v : Value} {l : List RawS}, RawsIn W v l → l.length ≤ maxLen := fun h => by
    rcases h with ⟨rfl, _⟩ | ⟨b, off, cap, _, hl, hm, _⟩
    · exact Nat.zero_le _
    · exact Nat.le_trans hl hm
  have n0 := len h0
  have n1 := len h1
  obtain ⟨A, c, rfl⟩ := raws_form h0
  obtain ⟨B, d, rfl⟩ := raws_form h1
  by_cases h : 30 < l0.length ∨ 30 < l1.length
  · exact long A B _ _ c d W n0 n1 h
  · exact short A B l0 l1 c d W h0 h1 (by omega) (by omega) w0 w1
end Go.Proofs.Ytkidaijcpeebdaa.EvAll
