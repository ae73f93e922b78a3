/- The document's Get of batches. -/
import Derived.Test.YtnefofcofccmfaaBatPutRef
import Derived.Test.YtnefofcofccmfaaEventsReadRef
import Derived.Deep.AppendLies
namespace Go.Proofs.Ytnefofcofccmfaa
open Go.RowKit
set_option linter.unusedVariables false
attribute [local go_sem] run_store_float

def NoBat (w : World) (e : Ending) (w' : World) : Prop := e = .returned (.tuple #[batV ByteArray.empty 0 (.slice none 0 0), .int .i64 10]) ∧ Below w.heap.size w w'
/-- What Get tells. -/
def GotBat (s : ByteArray) (w : World) (e : Ending) (w' : World) : Prop := ∃ u, e = .returned (.tuple #[batV (bgS s) (bgF s) u, .int .i64 (bgE s)]) ∧ EvsIn w' u (bgL s) ∧ Below w.heap.size w w'
theorem gotb_no {s : ByteArray} {w w' : World} {e : Ending} (h : bgOk s = false) (hn : NoBat w e w') : GotBat s w e w' := by
  obtain ⟨e1, e2, e3, e4⟩ := bg_no h
  unfold GotBat
  rw [e1, e2, e3, e4]
  exact ⟨_, hn.1, Or.inl ⟨rfl, _, _, rfl⟩, hn.2⟩
theorem rd_none {s : ByteArray} (h : rdOk s = false) : rdB s = ByteArray.empty := by simp [rdB, h]

theorem Blk3.set {w : World} {g : Nat} {T : TypeId} {x y z : Value} (h : Blk3 w g T x y z) (x' y' z' : Value) : Blk3 (((w.setCell ⟨g, 0, none⟩ x').setCell ⟨g, 1, none⟩ y').setCell ⟨g, 2, none⟩ z') g T x' y' z' := by
  unfold Blk3 at h ⊢
  simp [World.setCell, Array.getElem?_modify, h]
theorem Blk3.set2 {w : World} {g : Nat} {T : TypeId} {x y z : Value} (h : Blk3 w g T x y z) (z' : Value) : Blk3 (w.setCell ⟨g, 2, none⟩ z') g T x y z' := by
  unfold Blk3 at h ⊢
  simp [World.setCell, Array.getElem?_modify, h]
theorem Blk3.set1 {w : World} {g : Nat} {T : TypeId} {x y z : Value} (h : Blk3 w g T x y z) (y' : Value) : Blk3 (w.setCell ⟨g, 1, none⟩ y') g T x y' z := by
  unfold Blk3 at h ⊢
  simp [World.setCell, Array.getElem?_modify, h]
theorem Blk3.other {w : World} {g g' i : Nat} {T : TypeId} {x y z u : Value} (h : Blk3 w g T x y z) (hne : g ≠ g') : Blk3 (w.setCell ⟨g', i, none⟩ u) g T x y z := (Below.heap_setCell w ⟨g', i, none⟩ u g hne).trans h
theorem Blk3.grown {w w' : World} {g : Nat} {T : TypeId} {x y z : Value} {row : Option Nat} (h : Blk3 w g T x y z) (hg : w.grownBy w' row) (hr : some g ≠ row) : Blk3 w' g T x y z := (hg.block g h.lt hr).trans h
theorem below_box3 {w w2 : World} (h : Below w.heap.size w w2) (x y z : Value) :
    Below w.heap.size w (((w2.setCell ⟨w.heap.size, 0, none⟩ x).setCell ⟨w.heap.size, 1, none⟩ y).setCell ⟨w.heap.size, 2, none⟩ z) := ((h.setCell (Nat.le_refl _) _).setCell (Nat.le_refl _) _).setCell (Nat.le_refl _) _

set_option maxHeartbeats 800000 in
theorem bgetr_head (s : ByteArray) (w : World) (hs : s.size ≤ 100000) (h : bgHead s = false) :
    Calls Try.prog 18 #[.string s] w (NoBat w) := by
  have HR := Lib.hid fun W => readr_any s W (by unfold maxLen; omega)
  have hbz := rdB_size s
  have hbel : Below w.heap.size w (w.alloc (.cells #[.string ByteArray.empty, .int .i64 0, .slice none 0 0] 28)) := (Below.refl _ _).alloc (Nat.le_refl _) _
  have E0 := Blk3.new w 28 (.string ByteArray.empty) (.int .i64 0) (.slice none 0 0)
  unfold bgHead at h
  unfold NoBat batV
  by_cases h0 : rdOk s = true
  · rw [h0] at HR h
    by_cases h1 : 9 ≤ (rdB s).size
    · rw [decide_eq_true h1] at h
      have h2 : 1073741824 < getS (rdB s) := by simp at h; omega
      have HG := Lib.hid fun W => get_cut (rdB s) (by omega) W
      have hg := getS_lt (rdB s)
      have x1 : decide (((rdB s).size : Int) < 9) = false := decide_eq_false (by omega)
      have x2 : decide ((1073741824 : Int) < (getS (rdB s) : Nat)) = true := decide_eq_true (by omega)
      generalize getS (rdB s) = n at *
      generalize rdB s = R at *
      generalize rdA s = A at *
      clear h h0 hs
      go_enter Try.func18, Try.ntmps18
      go_wp2_with fail
      refine (HR.out _).mono ?_
      rintro e w1 ⟨rfl, hb1⟩
      have E1 := E0.below hb1
      have hbw : Below w.heap.size w w1 := hbel.trans (hb1.mono (by simp))
      obtain ⟨k0, k1, k2, f0, f1, f2, _⟩ := E1.facts
      clear E0 E1 hb1 hbel
      go_wp2_with fail
      refine (HG.out _).mono ?_
      rintro e w' ⟨rfl, rfl⟩
      go_wp2
      exact bodyPost_ret (v := .tuple #[.agg #[.string ByteArray.empty, .int .i64 0, .slice none 0 0], .int .i64 10]) (by simp [results, Try.results18, go_sem, k0, k1, k2]; rfl) rfl ⟨rfl, below_box3 hbw _ _ _⟩
    · have x1 : decide (((rdB s).size : Int) < 9) = true := decide_eq_true (by omega)
      generalize rdB s = R at *
      generalize rdA s = A at *
      clear h h0 hs
      go_enter Try.func18, Try.ntmps18
      go_wp2_with fail
      refine (HR.out _).mono ?_
      rintro e w1 ⟨rfl, hb1⟩
      have E1 := E0.below hb1
      have hbw : Below w.heap.size w w1 := hbel.trans (hb1.mono (by simp))
      obtain ⟨k0, k1, k2, f0, f1, f2, _⟩ := E1.facts
      clear E0 E1 hb1 hbel
      go_wp2
      exact bodyPost_ret (v := .tuple #[.agg #[.string ByteArray.empty, .int .i64 0, .slice none 0 0], .int .i64 10]) (by simp [results, Try.results18, go_sem, k0, k1, k2]; rfl) rfl ⟨rfl, below_box3 hbw _ _ _⟩
  · have h0' : rdOk s = false := by simpa using h0
    rw [h0'] at HR
    generalize rdB s = R at *
    generalize rdA s = A at *
    clear h h0 hs h0'
    go_enter Try.func18, Try.ntmps18
    go_wp2_with fail
    refine (HR.out _).mono ?_
    rintro e w1 ⟨rfl, hb1⟩
    have E1 := E0.below hb1
    have hbw : Below w.heap.size w w1 := hbel.trans (hb1.mono (by simp))
    obtain ⟨k0, k1, k2, f0, f1, f2, _⟩ := E1.facts
    clear E0 E1 hb1 hbel
    go_wp2
    exact bodyPost_ret (v := .tuple #[.agg #[.string ByteArray.empty, .int .i64 0, .slice none 0 0], .int .i64 10]) (by simp [results, Try.results18, go_sem, k0, k1, k2]; rfl) rfl ⟨rfl, below_box3 hbw _ _ _⟩

theorem grown_set (W : World) (b i : Nat) (v : Value) : W.grownBy (W.setCell ⟨b, i, none⟩ v) (some b) := ⟨rfl, rfl, rfl, by simp [World.setCell], fun k _ hk => Below.heap_setCell _ _ _ _ (fun e => hk (by rw [e]))⟩
theorem owns_form3 {w : World} {base n size : Nat} {e : TypeId} {v : Value} {xs : List Value} (h : w.ownsRow base e size v n xs) : ∃ A c, v = .slice A n c := by
  rcases h.2 with ⟨hv, h0⟩ | ⟨g, cap, cur, hv, _⟩
  · exact ⟨none, 0, by rw [hv, h0]⟩
  · exact ⟨_, cap, hv⟩
theorem rtxtb_ne {a b : ByteArray} (h : ¬ a = b) : (a.toList != b.toList) = true := by
  rw [bne_iff_ne]
  intro x
  rw [Lib.toList_data, Lib.toList_data] at x
  exact h (ByteArray.ext (Array.toList_inj.1 x))
theorem byte_at {R : ByteArray} (h : 8 < R.size) {s : ByteArray} (e : rdB s = R) : bgM s = (R[8]'h).toNat := by
  subst e
  unfold bgM
  rw [dif_pos h]
theorem evSz_of {x : RawS} (h : EvOk x) : EvSz x := by
  have := chk_zero.1 h.c
  exact ⟨by omega, by omega, h.b⟩

set_option maxHeartbeats 1500000 in
set_option maxRecDepth 100000 in
theorem bgetr_body (s : ByteArray) (w : World) (hs : s.size ≤ 100000) (h : bgHead s = true) :
    Calls Try.prog 18 #[.string s] w (GotBat s w) := by
  obtain ⟨i0, hi, hz0, hz1, hz2⟩ := info_parts info_ev
  have HR := Lib.hid fun W => readr_any s W (by unfold maxLen; omega)
  have hbz := rdB_size s
  have hbel : Below w.heap.size w (w.alloc (.cells #[.string ByteArray.empty, .int .i64 0, .slice none 0 0] 28)) := (Below.refl _ _).alloc (Nat.le_refl _) _
  have E0 := Blk3.new w 28 (.string ByteArray.empty) (.int .i64 0) (.slice none 0 0)
  have hH := h
  unfold bgHead at h
  simp only [Bool.and_eq_true, decide_eq_true_eq] at h
  obtain ⟨⟨h0, h1⟩, h2⟩ := h
  rw [h0] at HR
  have HG := Lib.hid fun W => get_cut (rdB s) (by omega) W
  have x1 : decide (((rdB s).size : Int) < 9) = false := decide_eq_false (by omega)
  have x2 : decide ((1073741824 : Int) < (getS (rdB s) : Nat)) = false := decide_eq_false (by omega)
  have x3 : (8 : Int) < ((rdB s).size : Int) := by omega
  have hMl := bgM_lt s
  have HB := Lib.hid (show bgEvs s = evsR (bgM s) ((rdB s).extract 9 (rdB s).size) from rfl)
  have hzb : ((rdB s).extract 9 (rdB s).size).size ≤ 100000 := by rw [ByteArray.size_extract]; omega
  have hAz : (rdA s).size ≤ 100000 := Nat.le_trans (rdA_size s) hs
  have Hno := Lib.hid fun (h : bgEvs s = none) W W' e => gotb_no (w := W) (w' := W') (e := e) (bg_none h)
  obtain ⟨M, hMM⟩ : ∃ M, bgM s = M := ⟨_, rfl⟩
  rw [hMM] at hMl HB
  obtain ⟨n, hn⟩ : ∃ n, getS (rdB s) = n := ⟨_, rfl⟩
  obtain ⟨R, hR⟩ : ∃ R, rdB s = R := ⟨_, rfl⟩
  obtain ⟨A, hA⟩ : ∃ A, rdA s = A := ⟨_, rfl⟩
  have HF := Lib.hid (And.intro hn (And.intro hR hA))
  rw [hn] at HG x2 h2
  simp only [hR] at HG HR x1 x3 HB hzb h1
  have h8 : 8 < R.size := by omega
  have hM : M = (R[8]'h8).toNat := by rw [← hMM]; exact byte_at h8 hR
  simp only [hA] at HR hAz
  obtain ⟨body, hb⟩ : ∃ b, R.extract 9 R.size = b := ⟨_, rfl⟩
  have HBd := Lib.hid hb
  rw [hb] at HB hzb
  have HH := Lib.hid hH
  clear hn hR hA hMM hb hbz h0 hH
  go_enter Try.func18, Try.ntmps18
  go_wp2_with fail
  refine (HR.out _).mono ?_
  rintro e w1 ⟨rfl, hb1⟩
  have E1 := E0.below hb1
  have hbw : Below w.heap.size w w1 := hbel.trans (hb1.mono (by simp))
  have hz1' := hb1.size
  rw [World.size_alloc] at hz1'
  clear E0 hb1 hbel
  go_wp2_with fail
  refine (HG.out _).mono ?_
  rintro e w' ⟨rfl, rfl⟩
  go_wp2_with fail
  refine (HG.out _).mono ?_
  rintro e w' ⟨rfl, rfl⟩
  go_wp2_with fail
  rw [HBd.out, ← hM]
  have E2 := E1.alloc (.cells #[.string A, .int .i64 (n : Nat), .slice none 0 0] 28)
  have F2 := Blk3.new w1 28 (.string A) (.int .i64 (n : Nat)) (.slice none 0 0)
  have hbw2 := hbw.alloc hbw.size (.cells #[.string A, .int .i64 (n : Nat), .slice none 0 0] 28)
  have hg := E1.lt
  clear HBd hM x1 x2 x3 HG HR h1 E1 hbw
  obtain ⟨ev, hev⟩ : ∃ ev, bgEvs s = ev := ⟨_, rfl⟩
  have HEV := Lib.hid hev
  have hB0 := HB.out
  rw [hev] at hB0
  have HB1 := Lib.hid (show ev = (evsR (M - 0) body).map (fun p => (([] : List RawS) ++ p.1, p.2)) by rw [hB0]; simp)
  clear hev hB0 HB h8
  go_loopw [5, 9] (fun r i wr => ∃ (k : Nat) (R' : ByteArray) (dn : List RawS) (v : Value), k ≤ M ∧ r = .string R' ∧ i = .int .i64 k ∧ dn.length = k ∧ R'.size ≤ 100000 ∧ ev = (evsR (M - k) R').map (fun p => (dn ++ p.1, p.2)) ∧ wr.ownsRow (w1.heap.size + 1) 47 3 v dn.length (dn.flatMap evCells) ∧ Blk3 wr w1.heap.size 28 (.string A) (.int .i64 (n : Nat)) v ∧ Blk3 wr w.heap.size 28 (.string ByteArray.empty) (.int .i64 0) (.slice none 0 0) ∧ Below w.heap.size w wr ∧ w1.heap.size + 1 ≤ wr.heap.size) (fun _ i _ => M - (intOf i).toNat)
  case atStart => exact ⟨0, body, [], .slice none 0 0, Nat.zero_le _, rfl, rfl, rfl, hzb, HB1.out, World.ownsRow_nil _ _ _ _, F2, E2, hbw2, by simp⟩
  case round =>
    obtain ⟨k, R', dn, v, hk, rfl, rfl, hdn, hRz, hev, hown, F, E, hbel, hsz⟩ := hrel
    rw [hdn] at hown
    have HV := Lib.hid hev
    clear hev E2 F2 hbw2 HB1
    obtain ⟨k0, k1, k2, f0, f1, f2, _⟩ := E.facts
    obtain ⟨j0, j1, j2, g0, g1, g2, _⟩ := F.facts
    by_cases hlt : k < M
    · have s1 : (k : Int) < (M : Int) := by omega
      have HRd := Lib.hid fun W => readev_ref R' W (by unfold maxLen; omega)
      cases ho : erOk R' with
      | false =>
        have hnone : ev = none := by
          rw [HV.out, show M - k = (M - k - 1) + 1 by omega, evsR_no ho]
          rfl
        have HN := Lib.hid (Hno.out (HEV.out.trans hnone))
        clear hnone
        obtain ⟨q1, q2, q3, q4⟩ := er_no ho
        rw [q1, q2, q3, q4, ho] at HRd
        clear q1 q2 q3 q4 ho
        go_wp2_with fail
        refine (HRd.out _).mono ?_
        rintro e w3 ⟨rfl, hb3⟩
        have E3 := E.below hb3
        have hbel3 := bj hbel hb3
        obtain ⟨k0, k1, k2, f0, f1, f2, _⟩ := E3.facts
        clear E F hb3 hown hbel
        obtain ⟨c0, c1, c2, _⟩ := ((E3.set (.string ⟨#[]⟩) (.int .i64 0) (.slice none 0 0)).alloc (.cells #[.string ByteArray.empty, .string ByteArray.empty, .float .f64 0] 47)).facts
        go_wp2
        exact bodyPost_ret (v := .tuple #[.agg #[.string ByteArray.empty, .int .i64 0, .slice none 0 0], .int .i64 10]) (by simp [results, Try.results18, go_sem, c0, c1, c2]; rfl) rfl (HN.out _ _ _ ⟨rfl, (below_box3 hbel3 _ _ _).alloc (by have := (below_box3 hbel3 (.string ByteArray.empty) (.int .i64 0) (.slice none 0 0)).size; exact this) _⟩)
      | true =>
        have hrz : (erR R').size ≤ 100000 := by
          rw [(er_yes ho).2.2.2, ByteArray.size_extract]
          have := rdB_size (rdB R')
          have := rdB_size R'
          unfold erL
          omega
        have hev2 : ev = (evsR (M - (k + 1)) (erR R')).map (fun p => (dn ++ [⟨erT R', erD R', erW R'⟩] ++ p.1, p.2)) := by
          rw [HV.out, show M - k = (M - (k + 1)) + 1 by omega, evsR_step ho, Option.map_map]
          congr 1
          funext p
          simp
        have HV2 := Lib.hid hev2
        rw [ho] at HRd
        clear hev2 HV Hno ho
        generalize erT R' = t at *
        generalize erD R' = d at *
        generalize erW R' = b at *
        generalize erR R' = R2 at *
        go_wp2_with fail
        refine (HRd.out _).mono ?_
        rintro e w3 ⟨rfl, hb3⟩
        have E3 := E.below hb3
        have F3 := F.below hb3
        have hbel3 := bj hbel hb3
        have hown3 := owns_below3 hown hb3 (Nat.le_refl _)
        have hsz3 := Nat.le_trans hsz hb3.size
        obtain ⟨k0, k1, k2, f0, f1, f2, _⟩ := E3.facts
        obtain ⟨j0, j1, j2, g0, g1, g2, _⟩ := F3.facts
        clear E F hb3 hown hbel hsz
        go_wp2_with (first
          | (at_builtin; refine wpList_append_own _ rfl _ _ 26 rfl (w1.heap.size + 1) 47 i0 (.agg #[.string ByteArray.empty, .string ByteArray.empty, .float .f64 0]) 3 40 Try.underlying26 hi hz0 hz1 hz2 rfl (by decide) _ _ _ rfl ((hown3.alloc _).alloc _) ⟨w3.heap.size + 1, 0, none⟩ 1 1 [.string t, .string d, .float .f64 b] rfl rfl ?c1 ?c2 ?c3 ?c4 ?c5 ?_))
        case c1 =>
          intro j u hj
          match j, hj with
          | 0, hj => simp at hj; subst hj; simp [Addr.add]
          | 1, hj => simp at hj; subst hj; simp [Addr.add]
          | 2, hj => simp at hj; subst hj; simp [Addr.add]
        case c2 =>
          intro u hu
          simp at hu
          rcases hu with rfl | rfl | rfl <;> rfl
        case c3 => unfold maxLen; omega
        case c4 => omega
        case c5 => simp; omega
        · intro v' w4 hown' hgrow _
          have hnb := owns_block3 hown3
          have E4 := ((E3.alloc (.cells #[.string t, .string d, .float .f64 b] 47)).alloc (.cells #[.string t, .string d, .float .f64 b] 47)).grown hgrow (fun e => by have := hnb _ e.symm; omega)
          have F4 := ((F3.alloc (.cells #[.string t, .string d, .float .f64 b] 47)).alloc (.cells #[.string t, .string d, .float .f64 b] 47)).grown hgrow (fun e => by have := hnb _ e.symm; omega)
          have hbel4 := ((hbel3.alloc hbel3.size (.cells #[.string t, .string d, .float .f64 b] 47)).alloc (by have := hbel3.size; simp; omega) (.cells #[.string t, .string d, .float .f64 b] 47)).grown hgrow (by have := hbel3.size; simp; omega) (fun q e => by have := hnb _ e; omega)
          have hsz4 := hgrow.size
          simp only [World.size_alloc] at hsz4
          obtain ⟨A', c', rfl⟩ := owns_form3 hown'
          obtain ⟨j0, j1, j2, g0, g1, g2, _⟩ := F4.facts
          clear hgrow hown3 hbel3 E3 F3 hnb hsz3 k0 k1 k2 f0 f1 f2
          have hown5 := hown'.kept (grown_set w4 w1.heap.size 2 (.slice A' (k + 1) c')) (.inr (fun e => by have := owns_block3 hown' _ e; omega))
          have F5 := F4.set2 (.slice A' (k + 1) c')
          have E5 := E4.other (g' := w1.heap.size) (i := 2) (u := .slice A' (k + 1) c') (by omega)
          have hbel5 := hbel4.setCell (p := ⟨w1.heap.size, 2, none⟩) (by simp; omega) (.slice A' (k + 1) c')
          clear hown' F4 E4 hbel4
          go_wp2
          go_roundw
          case rel =>
            refine ⟨k + 1, R2, dn ++ [⟨t, d, b⟩], _, by omega, rfl, by go_num, by rw [List.length_append, hdn]; rfl, hrz, HV2.out, ?_, F5, E5, hbel5, by simp [World.setCell]; omega⟩
            rw [List.flatMap_append, List.length_append, hdn]
            exact hown5
          case measure => simp [intOf]; omega
    · obtain rfl : k = M := by omega
      have s1 : ¬ (k : Int) < (k : Int) := by omega
      have hev3 : ev = some (dn, R') := by rw [HV.out, Nat.sub_self]; simp [evsR]
      have HE3 := Lib.hid (HEV.out.trans hev3)
      clear HV HEV hev3 Hno
      subst hdn
      obtain ⟨A', c', rfl⟩ := owns_form3 hown
      have hin := EvsIn.of_owns hown
      have hok := (evsR_form HE3.out).2.2
      have HP := Lib.hid (bput_ref A (n : Nat) (.slice A' dn.length c') dn wr ⟨hAz, WalkArith.wf_i64 (by omega), hin, by omega, fun x hx => evSz_of (hok x hx)⟩)
      obtain ⟨en, eR, eA⟩ := HF.out
      have hform := bg_form HH.out HE3.out
      rw [en, eA] at hform
      have HIN := Lib.hid hin
      have HBO := Lib.hid fun h => bg_of HH.out (l := dn) h
      have HBR := Lib.hid fun h => bg_rest HE3.out h
      rw [en, eA] at HBO HBR
      unfold batV at HP
      by_cases hc : bchk A (n : Nat) dn = 0
      · by_cases hr : R'.size = 0
        · have hR0 : R' = ByteArray.empty := ByteArray.ext (Array.eq_empty_of_size_eq_zero hr)
          subst hR0
          rw [ByteArray.append_empty] at hform
          have hgo := HBO.out HE3.out hc
          obtain ⟨_, y1, y2, y3, y4, _⟩ := bg_yes hgo
          rw [HE3.out] at y4
          simp only [Option.some.injEq, Prod.mk.injEq] at y4
          have hS : batS A (n : Nat) dn = s := by unfold batS; rw [if_pos hc, Int.toNat_natCast]; exact hform
          rw [hS, hc] at HP
          have HY := Lib.hid (And.intro (y1.trans eA) (And.intro (y2.trans (by rw [en])) (And.intro y3 y4.1)))
          have t1 : (s.toList == s.toList) = true := by simp
          have t2 : (s.toList != s.toList) = false := by simp
          clear hform HBO HBR hS hc hgo y1 y2 y3 y4 hok hin en eR eA hr HE3
          go_wp2_with fail
          refine HP.out.mono ?_
          rintro e w3 ⟨rfl, hb3⟩
          have E3 := E.below hb3
          have F3 := F.below hb3
          have hbel3 := bj hbel hb3
          have HI3 := Lib.hid (owns_below3 hown hb3 (Nat.le_refl _))
          obtain ⟨k0, k1, k2, f0, f1, f2, _⟩ := E3.facts
          obtain ⟨j0, j1, j2, g0, g1, g2, _⟩ := F3.facts
          clear E F hb3 hbel HIN HP hown
          go_wp2
          refine bodyPost_ret (v := .tuple #[.agg #[.string A, .int .i64 (n : Nat), .slice A' dn.length c'], .int .i64 0]) (by simp [results, Try.results18, go_sem, k0, k1, k2]) rfl ⟨.slice A' dn.length c', ?_, ?_, below_box3 hbel3 _ _ _⟩
          · rw [HY.out.1, HY.out.2.1, HY.out.2.2.1]
            rfl
          · rw [← HY.out.2.2.2]
            have hne : (Value.slice A' dn.length c').ownBlock ≠ some w.heap.size := fun e => by have := owns_block3 HI3.out _ e; omega
            exact EvsIn.of_owns (((HI3.out.kept (grown_set _ w.heap.size 0 _) (.inr hne)).kept (grown_set _ w.heap.size 1 _) (.inr hne)).kept (grown_set _ w.heap.size 2 _) (.inr hne))
        · have hN := HBR.out (Or.inl hr)
          have hS : batS A (n : Nat) dn = batB A n dn := by unfold batS; rw [if_pos hc, Int.toNat_natCast]
          have hne : ¬ batB A n dn = s := fun e => hr (by
            have := congrArg ByteArray.size hform
            rw [ByteArray.size_append, e] at this
            omega)
          rw [hS, hc] at HP
          have HN := Lib.hid fun W' e => gotb_no (w := w) (w' := W') (e := e) hN
          have t1 := rtxtb_ne hne
          have t2 := txt_ne hne
          generalize batB A n dn = B at *
          clear hform HBO HBR hS hc hok hin en eR eA hr HE3 hN hne hown HIN F
          go_wp2_with fail
          refine HP.out.mono ?_
          rintro e w3 ⟨rfl, hb3⟩
          have E3 := E.below hb3
          have hbel3 := bj hbel hb3
          obtain ⟨k0, k1, k2, f0, f1, f2, _⟩ := E3.facts
          clear E hb3 hbel HP
          go_wp2
          exact bodyPost_ret (v := .tuple #[.agg #[.string ByteArray.empty, .int .i64 0, .slice none 0 0], .int .i64 10]) (by simp [results, Try.results18, go_sem, k0, k1, k2]; rfl) rfl (HN.out _ _ ⟨rfl, below_box3 hbel3 _ _ _⟩)
      · have hN := HBR.out (Or.inr hc)
        have HN := Lib.hid fun W' e => gotb_no (w := w) (w' := W') (e := e) hN
        have t3 : (bchk A (n : Nat) dn != 0) = true := by simp; exact hc
        have t4 : (bchk A (n : Nat) dn == 0) = false := by simp; exact hc
        generalize bchk A (n : Nat) dn = r at *
        generalize batS A (n : Nat) dn = B at *
        clear hform HBO HBR hc hok hin en eR eA HE3 hN hown HIN F
        go_wp2_with fail
        refine HP.out.mono ?_
        rintro e w3 ⟨rfl, hb3⟩
        have E3 := E.below hb3
        have hbel3 := bj hbel hb3
        obtain ⟨k0, k1, k2, f0, f1, f2, _⟩ := E3.facts
        clear E hb3 hbel HP
        go_wp2
        exact bodyPost_ret (v := .tuple #[.agg #[.string ByteArray.empty, .int .i64 0, .slice none 0 0], .int .i64 10]) (by simp [results, Try.results18, go_sem, k0, k1, k2]; rfl) rfl (HN.out _ _ ⟨rfl, below_box3 hbel3 _ _ _⟩)

/-- The document's Get. -/
theorem bget_ref (s : ByteArray) (w : World) (hs : s.size ≤ 100000) : Calls Try.prog 18 #[.string s] w (GotBat s w) := by
  cases h : bgHead s with
  | false => exact (bgetr_head s w hs h).mono fun e w' hn => gotb_no (bg_head h) hn
  | true => exact bgetr_body s w hs h
end Go.Proofs.Ytnefofcofccmfaa
