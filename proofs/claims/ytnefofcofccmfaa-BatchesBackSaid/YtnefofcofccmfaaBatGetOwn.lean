/- The program's Get of batches. -/
import Derived.Test.YtnefofcofccmfaaBatCheckOwn
import Derived.Test.YtnefofcofccmfaaBatGetRef
import Derived.Test.YtnefofcofccmfaaNumsRead
import Derived.Test.YtnefofcofccmfaaNumsGet
import Derived.Test.YtnefofcofccmfaaEventsReadOne
namespace Go.Proofs.Ytnefofcofccmfaa
open Go.RowKit
set_option linter.unusedVariables false
attribute [local go_sem] run_store_float

/-- What so many events, read to the end of a text, come to. -/
def GotEvs (M : Nat) (s : ByteArray) (w : World) (e : Ending) (w' : World) : Prop :=
  ∃ v q, e = .returned (.tuple #[v, .bool q]) ∧ Below w.heap.size w w' ∧ ((q = false ∧ (∃ A n c, v = .slice A n c) ∧ ∀ l, evsR M s ≠ some (l, ByteArray.empty)) ∨ (q = true ∧ ∃ l, evsR M s = some (l, ByteArray.empty) ∧ w'.ownsRow w.heap.size 47 3 v l.length (l.flatMap evCells)))

set_option maxHeartbeats 1500000 in
set_option maxRecDepth 100000 in
theorem revs_any (s : ByteArray) (M : Nat) (w : World) (hs : s.size ≤ 100000) (hM : M < 256) :
    Calls Try.prog 46 #[.string s, .int .i64 (M : Nat)] w (GotEvs M s w) := by
  obtain ⟨i0, hi, hz0, hz1, hz2⟩ := info_parts info_ev
  obtain ⟨ev, hev⟩ : ∃ ev, evsR M s = ev := ⟨_, rfl⟩
  have HG := Lib.hid (fun (e : Ending) (w' : World) (h : ∃ v q, e = .returned (.tuple #[v, .bool q]) ∧ Below w.heap.size w w' ∧ ((q = false ∧ (∃ A n c, v = .slice A n c) ∧ ∀ l, ev ≠ some (l, ByteArray.empty)) ∨ (q = true ∧ ∃ l, ev = some (l, ByteArray.empty) ∧ w'.ownsRow w.heap.size 47 3 v l.length (l.flatMap evCells)))) => (show GotEvs M s w e w' by unfold GotEvs; rw [hev]; exact h))
  have HB1 := Lib.hid (show ev = (evsR (M - 0) s).map (fun p => (([] : List RawS) ++ p.1, p.2)) by rw [← hev]; simp)
  clear hev
  go_enter Try.func46, Try.ntmps46
  go_wp2
  go_loopw [0, 4, 10] (fun r v i wr => ∃ (k : Nat) (R' : ByteArray) (dn : List RawS), k ≤ M ∧ r = .string R' ∧ i = .int .i64 k ∧ dn.length = k ∧ R'.size ≤ 100000 ∧ ev = (evsR (M - k) R').map (fun p => (dn ++ p.1, p.2)) ∧ wr.ownsRow w.heap.size 47 3 v dn.length (dn.flatMap evCells) ∧ Below w.heap.size w wr) (fun _ _ i _ => M - (intOf i).toNat)
  case atStart => exact ⟨0, s, [], Nat.zero_le _, rfl, rfl, rfl, hs, HB1.out, World.ownsRow_nil _ _ _ _, Below.refl _ _⟩
  case round =>
    obtain ⟨k, R', dn, hk, rfl, rfl, hdn, hRz, hev, hown, hbel⟩ := hrel
    rw [hdn] at hown
    have HV := Lib.hid hev
    clear hev HB1
    obtain ⟨A', c', rfl⟩ := owns_form3 hown
    by_cases hlt : k < M
    · have s1 : (k : Int) < (M : Int) := by omega
      have HRd := Lib.hid fun W => readev_any R' W (by unfold maxLen; omega)
      cases ho : erOk R' with
      | false =>
        have hnone : ev = none := by
          rw [HV.out, show M - k = (M - k - 1) + 1 by omega, evsR_no ho]
          rfl
        have HN := Lib.hid hnone
        clear hnone
        obtain ⟨q1, q2, q3, q4⟩ := er_no ho
        rw [q1, q2, q3, q4, ho] at HRd
        clear q1 q2 q3 q4 ho
        go_wp2_with fail
        refine (HRd.out _).mono ?_
        rintro e w3 ⟨rfl, hb3⟩
        have hbel3 := bj hbel hb3
        clear hb3 hown hbel
        go_wp2
        go_ret2
        exact HG.out _ _ ⟨_, _, rfl, hbel3.alloc hbel3.size _, Or.inl ⟨rfl, ⟨_, _, _, rfl⟩, fun l e => by rw [HN.out] at e; cases e⟩⟩
      | true =>
        have hrz : (erR R').size ≤ 100000 := by
          rw [(er_yes ho).2.2.2, ByteArray.size_extract]
          have := rdB_size (rdB R')
          have := rdB_size R'
          unfold erL
          omega
        have hev2 : ev = (evsR (M - (k + 1)) (erR R')).map (fun p => (dn ++ [⟨erT R', erD R', erW R'⟩] ++ p.1, p.2)) := by
          rw [HV.out, show M - k = (M - (k + 1)) + 1 by omega, evsR_step ho, Option.map_map]
          congr 1
          funext p
          simp
        have HV2 := Lib.hid hev2
        rw [ho] at HRd
        clear hev2 HV ho
        generalize erT R' = t at *
        generalize erD R' = d at *
        generalize erW R' = b at *
        generalize erR R' = R2 at *
        go_wp2_with fail
        refine (HRd.out _).mono ?_
        rintro e w3 ⟨rfl, hb3⟩
        have hbel3 := bj hbel hb3
        have hown3 := owns_below3 hown hb3 (Nat.le_refl _)
        clear hb3 hown hbel
        go_wp2_with (first
          | (at_builtin; refine wpList_append_own _ rfl _ _ 26 rfl w.heap.size 47 i0 (.agg #[.string ByteArray.empty, .string ByteArray.empty, .float .f64 0]) 3 40 Try.underlying26 hi hz0 hz1 hz2 rfl (by decide) _ _ _ rfl ((hown3.alloc _).alloc _) ⟨w3.heap.size + 1, 0, none⟩ 1 1 [.string t, .string d, .float .f64 b] rfl rfl ?c1 ?c2 ?c3 ?c4 ?c5 ?_))
        case c1 =>
          intro j u hj
          match j, hj with
          | 0, hj => simp at hj; subst hj; simp [Addr.add]
          | 1, hj => simp at hj; subst hj; simp [Addr.add]
          | 2, hj => simp at hj; subst hj; simp [Addr.add]
        case c2 =>
          intro u hu
          simp at hu
          rcases hu with rfl | rfl | rfl <;> rfl
        case c3 => unfold maxLen; omega
        case c4 => omega
        case c5 => have := hbel3.size; simp; omega
        · intro v' w4 hown' hgrow _
          have hbel4 := ((hbel3.alloc hbel3.size (.cells #[.string t, .string d, .float .f64 b] 47)).alloc (by have := hbel3.size; simp; omega) (.cells #[.string t, .string d, .float .f64 b] 47)).grown hgrow (by have := hbel3.size; simp; omega) (fun q e => (hown3.lt q e).1)
          clear hgrow hown3 hbel3
          go_wp2
          go_roundw
          case rel =>
            refine ⟨k + 1, R2, dn ++ [⟨t, d, b⟩], by omega, rfl, by go_num, by rw [List.length_append, hdn]; rfl, hrz, HV2.out, ?_, hbel4⟩
            rw [List.flatMap_append, List.length_append, hdn]
            exact hown'
          case measure => simp [intOf]; omega
    · obtain rfl : k = M := by omega
      have s1 : ¬ (k : Int) < (k : Int) := by omega
      have hev3 : ev = some (dn, R') := by rw [HV.out, Nat.sub_self]; simp [evsR]
      have HE3 := Lib.hid hev3
      clear HV hev3
      by_cases hr : R'.size = 0
      · have hR0 : R' = ByteArray.empty := ByteArray.ext (Array.eq_empty_of_size_eq_zero hr)
        subst hR0
        go_wp2
        go_ret2
        exact HG.out _ _ ⟨_, _, rfl, hbel, Or.inr ⟨rfl, dn, HE3.out, by rw [hdn]; exact hown⟩⟩
      · have t1 : R'.toList.isEmpty = false := by
          rw [List.isEmpty_eq_false_iff, Lib.toList_data]
          intro e
          exact hr (by rw [Lib.size_eq, e]; rfl)
        have HR := Lib.hid hr
        clear hr
        go_wp2
        go_ret2
        exact HG.out _ _ ⟨_, _, rfl, hbel, Or.inl ⟨rfl, ⟨_, _, _, rfl⟩, fun l e => by rw [HE3.out] at e; cases e; exact HR.out rfl⟩⟩

theorem getS_one (R : ByteArray) (h : 8 < R.size) {s : ByteArray} (e : rdB s = R) : getS (R.extract 8 9) = bgM s := by
  rw [byte_at h e]
  have w3 : (R.extract 8 9).data.toList = [R[8]] := by
    have hl : R.data.toList.length = R.size := data_len _
    rw [ByteArray.data_extract, Array.toList_extract, List.extract, List.drop_eq_getElem_cons (by omega)]
    simp
    rfl
  unfold getS
  rw [w3]
  simp [un]
theorem getS_eight (R : ByteArray) : getS (R.extract 0 8) = getS R := by
  unfold getS
  have e : (R.extract 0 8).data.toList = R.data.toList.take 8 := by simp
  rw [e, List.take_take, Nat.min_self]

theorem owns_base {w : World} {base B n size : Nat} {e : TypeId} {v : Value} {xs : List Value} (h : w.ownsRow base e size v n xs) (hB : B ≤ base) : w.ownsRow B e size v n xs := by
  refine ⟨h.1, ?_⟩
  rcases h.2 with h0 | ⟨g, cap, cur, hv, hg, r⟩
  · exact Or.inl h0
  · exact Or.inr ⟨g, cap, cur, hv, Nat.le_trans hB hg, r⟩
def bgN (s : ByteArray) : Nat := getS (rdB s)
/-- What bytes say, as a batch, whether it may be or not. -/
def GotRead (s : ByteArray) (w : World) (e : Ending) (w' : World) : Prop :=
  ∃ S F v q, e = .returned (.tuple #[batV S F v, .bool q]) ∧ (∃ A n c, v = .slice A n c) ∧ Below w.heap.size w w' ∧ (q = false → bgOk s = false) ∧ (q = true → bgHead s = true ∧ S = rdA s ∧ F = (getS (rdB s) : Nat) ∧ ∃ l, bgEvs s = some (l, ByteArray.empty) ∧ w'.ownsRow w.heap.size 47 3 v l.length (l.flatMap evCells))

theorem gr_no {s : ByteArray} {w w' : World} {e : Ending} (h : bgOk s = false) (he : e = .returned (.tuple #[batV ByteArray.empty 0 (.slice none 0 0), .bool false])) (hb : Below w.heap.size w w') : GotRead s w e w' :=
  ⟨_, _, _, _, he, ⟨_, _, _, rfl⟩, hb, fun _ => h, fun h => by cases h⟩

set_option maxHeartbeats 1500000 in
set_option maxRecDepth 100000 in
theorem bread_any (s : ByteArray) (w : World) (hs : s.size ≤ 100000) :
    Calls Try.prog 33 #[.string s] w (GotRead s w) := by
  have HR := Lib.hid fun W => read_any s W (by unfold maxLen; omega)
  have hbz := rdB_size s
  have hbel : Below w.heap.size w (w.alloc (.cells #[.string ByteArray.empty, .int .i64 0, .slice none 0 0] 28)) := (Below.refl _ _).alloc (Nat.le_refl _) _
  have E0 := Blk3.new w 28 (.string ByteArray.empty) (.int .i64 0) (.slice none 0 0)
  have hG : ∀ (t : ByteArray) (W : World), t.size ≤ 100 → Calls Try.prog 45 #[.string t] W fun e w' => e = .returned (.int .u64 (getS t : Nat)) ∧ w' = W := fun t W h => (get_any t W (by unfold maxLen; omega)).mono fun e w' h => ⟨h.1, h.2.symm⟩
  by_cases h9 : (rdB s).size < 9
  · have HN := Lib.hid (fun e w' => gr_no (s := s) (w := w) (w' := w') (e := e) (bg_head (by unfold bgHead; rw [decide_eq_false (by omega)]; simp)))
    have x1 : decide (((rdB s).size : Int) < 9) = true := decide_eq_true (by omega)
    generalize rdB s = R at *
    generalize rdA s = A at *
    generalize rdOk s = q at *
    clear hG hs
    go_enter Try.func33, Try.ntmps33
    go_wp2_with fail
    refine (HR.out _).mono ?_
    rintro e w1 ⟨rfl, hb1⟩
    have E1 := E0.below hb1
    have hbw : Below w.heap.size w w1 := hbel.trans (hb1.mono (by simp))
    obtain ⟨k0, k1, k2, f0, f1, f2, _⟩ := E1.facts
    clear E0 E1 hb1 hbel
    go_wp2
    exact bodyPost_ret (v := .tuple #[.agg #[.string ByteArray.empty, .int .i64 0, .slice none 0 0], .bool false]) (by simp [results, Try.results33, go_sem, k0, k1, k2]; rfl) rfl (HN.out _ _ rfl (below_box3 hbw _ _ _))
  · have x1 : decide (((rdB s).size : Int) < 9) = false := decide_eq_false (by omega)
    have x3 : (8 : Int) < ((rdB s).size : Int) := by omega
    have x4 : (9 : Int) ≤ ((rdB s).size : Int) := by omega
    have e8 := getS_eight (rdB s)
    have e9 := getS_one (rdB s) (by omega) (s := s) rfl
    have hg := getS_lt (rdB s)
    have hMl := bgM_lt s
    have hcut1 : ((rdB s).extract 0 8).size ≤ 100 := by rw [ByteArray.size_extract]; omega
    have hcut2 : ((rdB s).extract 8 9).size ≤ 100 := by rw [ByteArray.size_extract]; omega
    have hzb : ((rdB s).extract 9 (rdB s).size).size ≤ 100000 := by rw [ByteArray.size_extract]; omega
    have HBd := Lib.hid (show bgEvs s = evsR (bgM s) ((rdB s).extract 9 (rdB s).size) from rfl)
    have HV := Lib.hid fun W => revs_any ((rdB s).extract 9 (rdB s).size) (bgM s) W hzb hMl
    have HG := Lib.hid hG
    have hok : rdOk s = true := by
      cases h : rdOk s with
      | true => rfl
      | false => rw [rd_none h] at x4; exact absurd x4 (by decide)
    have HH := Lib.hid (show getS (rdB s) ≤ 1073741824 → bgHead s = true from fun h => by unfold bgHead; rw [hok, decide_eq_true (by omega : 9 ≤ (rdB s).size), decide_eq_true h]; rfl)
    have HX := Lib.hid (show 1073741824 < getS (rdB s) → bgHead s = false from fun h => by unfold bgHead; rw [decide_eq_false (by omega : ¬ getS (rdB s) ≤ 1073741824)]; simp)
    have HA := Lib.hid (And.intro (rfl : rdA s = rdA s) (rfl : getS (rdB s) = getS (rdB s)))
    clear hG hs h9 hbz hzb hok
    obtain ⟨A, hA⟩ : ∃ A, rdA s = A := ⟨_, rfl⟩
    obtain ⟨n, hn⟩ : ∃ n, getS (rdB s) = n := ⟨_, rfl⟩
    obtain ⟨M, hM⟩ : ∃ M, bgM s = M := ⟨_, rfl⟩
    rw [hM] at HBd HV hMl e9
    rw [hn] at HH HX hg e8
    rw [hA] at HR
    have HE := Lib.hid (And.intro hA (show bgN s = n from hn))
    clear hA hn hM HA
    generalize rdB s = R at *
    generalize rdOk s = q at *
    go_enter Try.func33, Try.ntmps33
    go_wp2_with fail
    refine (HR.out _).mono ?_
    rintro e w1 ⟨rfl, hb1⟩
    have E1 := E0.below hb1
    have hbw : Below w.heap.size w w1 := hbel.trans (hb1.mono (by simp))
    clear E0 hb1 hbel
    go_wp2_with fail
    go_quiet ((go_at_call 45; exact Calls.quiet_of_same ((HG.out _ _ (by rw [ByteArray.size_extract]; omega)))))
    rename_i nq _
    rw [e8, e9]
    have E2 : Blk3 (w1.drewN nq) w.heap.size 28 (.string ByteArray.empty) (.int .i64 0) (.slice none 0 0) := E1
    have hbw2 := below_drewN hbw nq
    generalize w1.drewN nq = w2 at *
    clear E1 hbw HG HR hcut1 hcut2 e8 e9 x1
    by_cases hn : 1073741824 < n
    · have HN := Lib.hid (fun e w' => gr_no (s := s) (w := w) (w' := w') (e := e) (bg_head (HX.out hn)))
      have x2 : decide ((1073741824 : Int) < (n : Int)) = true := decide_eq_true (by omega)
      obtain ⟨k0, k1, k2, f0, f1, f2, _⟩ := E2.facts
      clear hn HX HH HE HBd
      go_wp2
      exact bodyPost_ret (v := .tuple #[.agg #[.string ByteArray.empty, .int .i64 0, .slice none 0 0], .bool false]) (by simp [results, Try.results33, go_sem, k0, k1, k2]; rfl) rfl (HN.out _ _ rfl (below_box3 hbw2 _ _ _))
    · have x2 : decide ((1073741824 : Int) < (n : Int)) = false := decide_eq_false (by omega)
      have hH := HH.out (by omega)
      have hm : IntKind.i64.wrap (M : Int) = (M : Int) := by rw [IntKind.wrap_i64]; omega
      have hm2 : IntKind.i64.wrap (n : Int) = (n : Int) := by rw [IntKind.wrap_i64]; omega
      have HHH := Lib.hid hH
      have hlt := E2.lt
      clear hn HX HH hH
      generalize hbody : R.extract 9 R.size = body at *
      go_wp2_with fail
      refine (HV.out _).mono ?_
      rintro e w3 ⟨v, q', rfl, hb3, hv⟩
      have E3 := E2.below hb3
      have hbw3 := bj hbw2 hb3
      have hform : ∃ A n c, v = .slice A n c := by
        rcases hv with ⟨_, h, _⟩ | ⟨_, l, _, h⟩
        · exact h
        · obtain ⟨a, c, h⟩ := owns_form3 h; exact ⟨_, _, _, h⟩
      obtain ⟨k0, k1, k2, f0, f1, f2, _⟩ := E3.facts
      clear E2 hb3 hbw2 HV
      obtain ⟨B, m, c, rfl⟩ := hform
      have HO := Lib.hid hv
      clear hv
      go_wp2
      refine bodyPost_ret (v := .tuple #[.agg #[.string A, .int .i64 (n : Nat), .slice B m c], .bool q']) (by simp [results, Try.results33, go_sem, k0, k1, k2]) rfl ⟨A, (n : Nat), .slice B m c, q', rfl, ⟨_, _, _, rfl⟩, below_box3 hbw3 _ _ _, ?_, ?_⟩
      · intro h
        rcases HO.out with ⟨_, _, h2⟩ | ⟨h2, _⟩
        · cases hb : bgOk s with
          | false => rfl
          | true => exact absurd (HBd.out.symm.trans (bg_yes hb).2.2.2.2.1) (h2 _)
        · rw [h] at h2; cases h2
      · intro h
        rcases HO.out with ⟨h2, _⟩ | ⟨_, l, h2, h3⟩
        · rw [h] at h2; cases h2
        · have hne : (Value.slice B m c).ownBlock ≠ some w.heap.size := fun e => by have := (h3.lt _ e).1; omega
          refine ⟨HHH.out, HE.out.1.symm, by rw [← HE.out.2]; rfl, l, HBd.out.trans h2, ?_⟩
          exact ((owns_base h3 (by omega)).kept (grown_set _ w.heap.size 0 _) (.inr hne)).kept (grown_set _ w.heap.size 1 _) (.inr hne) |>.kept (grown_set _ w.heap.size 2 _) (.inr hne)

set_option maxHeartbeats 1500000 in
set_option maxRecDepth 100000 in
/-- The program's Get. -/
theorem bget_any (s : ByteArray) (w : World) (hs : s.size ≤ 100000) : Calls Try.prog 17 #[.string s] w (GotBat s w) := by
  have hbel : Below w.heap.size w (w.alloc (.cells #[.string ByteArray.empty, .int .i64 0, .slice none 0 0] 28)) := (Below.refl _ _).alloc (Nat.le_refl _) _
  have E0 := Blk3.new w 28 (.string ByteArray.empty) (.int .i64 0) (.slice none 0 0)
  have HR := Lib.hid (bread_any s (w.alloc (.cells #[.string ByteArray.empty, .int .i64 0, .slice none 0 0] 28)) hs)
  have HA := Lib.hid (Nat.le_trans (rdA_size s) hs)
  go_enter Try.func17, Try.ntmps17
  go_wp2_with fail
  refine HR.out.mono ?_
  rintro e w1 ⟨S, F, v, q, rfl, ⟨B, m, c, rfl⟩, hb1, hno, hyes⟩
  have E1 := E0.below hb1
  have hbw : Below w.heap.size w w1 := hbel.trans (hb1.mono (by simp))
  clear E0 hb1 hbel HR
  obtain ⟨k0, k1, k2, f0, f1, f2, _⟩ := E1.facts
  have E2 := E1.set (.string S) (.int .i64 F) (.slice B m c)
  have hbw2 := below_box3 hbw (.string S) (.int .i64 F) (.slice B m c)
  unfold batV
  cases q with
  | false =>
    have HN := Lib.hid fun W' e => gotb_no (w := w) (w' := W') (e := e) (hno rfl)
    obtain ⟨j0, j1, j2, g0, g1, g2, _⟩ := E2.facts
    obtain ⟨c0, c1, c2, _⟩ := (E2.set (.string ⟨#[]⟩) (.int .i64 0) (.slice none 0 0)).facts
    clear hno hyes E1 E2 hbw
    go_wp2
    exact bodyPost_ret (v := .tuple #[.agg #[.string ByteArray.empty, .int .i64 0, .slice none 0 0], .int .i64 10]) (by simp [results, Try.results17, go_sem, c0, c1, c2]; rfl) rfl (HN.out _ _ ⟨rfl, below_box3 hbw2 _ _ _⟩)
  | true =>
    obtain ⟨hH, rfl, rfl, l, hl, hown⟩ := hyes rfl
    obtain ⟨_, _, e1⟩ := owns_form3 hown
    cases e1
    have hne : ∀ g, w.heap.size + 1 ≤ g → (Value.slice B l.length c).ownBlock ≠ some w.heap.size := fun g hg e => by have := (hown.lt _ e).1; simp at this; omega
    have hne' := hne (w.heap.size + 1) (Nat.le_refl _)
    clear hne
    have hown2 := ((hown.kept (grown_set _ w.heap.size 0 (.string (rdA s))) (.inr hne')).kept (grown_set _ w.heap.size 1 (.int .i64 (getS (rdB s) : Nat))) (.inr hne')).kept (grown_set _ w.heap.size 2 (.slice B l.length c)) (.inr hne')
    obtain ⟨_, hlen, hok⟩ := evsR_form hl
    have hMl := bgM_lt s
    have hF : getS (rdB s) ≤ 1073741824 := by
      unfold bgHead at hH
      simp only [Bool.and_eq_true, decide_eq_true_eq] at hH
      exact hH.2
    have HC := Lib.hid (bcheck_any (rdA s) (getS (rdB s) : Nat) (.slice B l.length c) l _ ⟨HA.out, WalkArith.wf_i64 (by omega), EvsIn.of_owns hown2, by omega, fun x hx => evSz_of (hok x hx)⟩)
    have HY := Lib.hid fun h => bg_yes (bg_of hH hl h)
    have HZ := Lib.hid fun h => bg_rest hl (Or.inr h)
    have HO := Lib.hid hown2
    have HL := Lib.hid hl
    clear hno hyes hown hown2 hlen hok hMl hF hH HA hl hbw E1
    obtain ⟨j0, j1, j2, g0, g1, g2, _⟩ := E2.facts
    unfold batV at HC
    generalize hA : rdA s = A at *
    generalize hn : getS (rdB s) = n at *
    by_cases hc : bchk A (n : Nat) l = 0
    · obtain ⟨_, y1, y2, y3, y4, _⟩ := HY.out hc
      rw [HL.out] at y4
      simp only [Option.some.injEq, Prod.mk.injEq] at y4
      have HQ := Lib.hid (And.intro y1 (And.intro y2 (And.intro y3 y4.1)))
      rw [hc] at HC
      clear HY HZ hc y1 y2 y3 y4 HL hA hn
      go_wp2_with fail
      refine HC.out.mono ?_
      rintro e w2 ⟨rfl, hb2⟩
      have E3 := E2.below hb2
      have hbw3 := bj hbw2 hb2
      have HI := Lib.hid (owns_below3 HO.out hb2 (Nat.le_refl _))
      clear hb2 E2 hbw2 HC HO k0 k1 k2 f0 f1 f2 j0 j1 j2 g0 g1 g2
      obtain ⟨k0, k1, k2, f0, f1, f2, _⟩ := E3.facts
      go_wp2
      refine bodyPost_ret (v := .tuple #[.agg #[.string A, .int .i64 (n : Nat), .slice B l.length c], .int .i64 0]) (by simp [results, Try.results17, go_sem, k0, k1, k2]) rfl ⟨.slice B l.length c, ?_, ?_, below_box3 hbw3 _ _ _⟩
      · rw [HQ.out.1, HQ.out.2.1, HQ.out.2.2.1]
        rfl
      · rw [← HQ.out.2.2.2]
        exact EvsIn.of_owns (((HI.out.kept (grown_set _ w.heap.size 0 _) (.inr hne')).kept (grown_set _ w.heap.size 1 _) (.inr hne')).kept (grown_set _ w.heap.size 2 _) (.inr hne'))
    · have hno2 := HZ.out hc
      have HN := Lib.hid fun W' e => gotb_no (w := w) (w' := W') (e := e) hno2
      have t3 : (bchk A (n : Nat) l != 0) = true := by simp; exact hc
      have t4 : (bchk A (n : Nat) l == 0) = false := by simp; exact hc
      clear HY HZ hc HL hA hn hno2 HO hne'
      generalize bchk A (n : Nat) l = r at *
      go_wp2_with fail
      refine HC.out.mono ?_
      rintro e w2 ⟨rfl, hb2⟩
      have E3 := E2.below hb2
      have hbw3 := bj hbw2 hb2
      clear hb2 E2 hbw2 HC k0 k1 k2 f0 f1 f2 j0 j1 j2 g0 g1 g2
      obtain ⟨k0, k1, k2, f0, f1, f2, _⟩ := E3.facts
      obtain ⟨c0, c1, c2, _⟩ := (E3.set (.string ⟨#[]⟩) (.int .i64 0) (.slice none 0 0)).facts
      go_wp2
      exact bodyPost_ret (v := .tuple #[.agg #[.string ByteArray.empty, .int .i64 0, .slice none 0 0], .int .i64 10]) (by simp [results, Try.results17, go_sem, c0, c1, c2]; rfl) rfl (HN.out _ _ ⟨rfl, below_box3 hbw3 _ _ _⟩)
end Go.Proofs.Ytnefofcofccmfaa
