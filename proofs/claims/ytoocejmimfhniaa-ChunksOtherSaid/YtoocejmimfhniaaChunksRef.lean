/- Chunks as plain data, and the document's Head, Scan and Fits. -/
import Derived.Test.YtoocejmimfhniaaRecWholeRef
import Derived.Test.YtoocejmimfhniaaRecStands
namespace Go.Proofs.Ytoocejmimfhniaa
open Go.RowKit
set_option linter.unusedVariables false

/-- A chunk's head (P11.1). -/
def hdT (n : Nat) : ByteArray := ⟨#[99, 104, 110, 107]⟩ ++ bs (be 4 n)
def hdS (n : Int) : ByteArray := if 0 ≤ n ∧ n ≤ 199 then sealS (hdT n.toNat) else ByteArray.empty
theorem hd_no {n : Int} (h : ¬ (0 ≤ n ∧ n ≤ 199)) : hdS n = ByteArray.empty := by unfold hdS; rw [if_neg h]
theorem hd_yes {n : Nat} (h : n ≤ 199) : hdS (n : Nat) = sealS (hdT n) := by unfold hdS; rw [if_pos (by omega), Int.toNat_natCast]
theorem hdT_size (n : Nat) : (hdT n).size = 8 := by unfold hdT; rw [ByteArray.size_append, bs_size, be_length]; rfl
theorem hd_size {n : Nat} (h : n ≤ 199) : (hdS (n : Nat)).size = 12 := by rw [hd_yes h, sealS_size, hdT_size]
/-- What a text is as a number's chunk: 0: none; 1: as much of a head as there is; 2: a head, and what is behind it (P11.2). -/
def scK (s : ByteArray) (n : Int) : Nat := if ¬ (0 ≤ n ∧ n ≤ 199) then 0 else if ¬ s.extract 0 (min s.size 12) = (hdS n).extract 0 (min s.size 12) then 0 else if s.size < 12 then 1 else 2
def scL (s : ByteArray) (n : Int) : List Int := if scK s n = 2 then wlL s 12 else []
def scE (s : ByteArray) (n : Int) : Nat := if scK s n = 2 then wlE s 12 else 0
def scOk (s : ByteArray) (n : Int) : Bool := decide (¬ scK s n = 0)
theorem sc_0 {s : ByteArray} {n : Int} (h : scK s n = 0) : scL s n = [] ∧ scE s n = 0 ∧ scOk s n = false := by simp [scL, scE, scOk, h]
theorem sc_1 {s : ByteArray} {n : Int} (h : scK s n = 1) : scL s n = [] ∧ scE s n = 0 ∧ scOk s n = true := by simp [scL, scE, scOk, h]
theorem sc_2 {s : ByteArray} {n : Int} (h : scK s n = 2) : scL s n = wlL s 12 ∧ scE s n = wlE s 12 ∧ scOk s n = true := by simp [scL, scE, scOk, h]
theorem scK_no {s : ByteArray} {n : Int} (h : ¬ (0 ≤ n ∧ n ≤ 199)) : scK s n = 0 := by unfold scK; rw [if_pos h]
theorem scK_bad {s : ByteArray} {n : Int} (h : 0 ≤ n ∧ n ≤ 199) (h2 : ¬ s.extract 0 (min s.size 12) = (hdS n).extract 0 (min s.size 12)) : scK s n = 0 := by unfold scK; rw [if_neg (by omega), if_pos h2]
theorem scK_short {s : ByteArray} {n : Int} (h : 0 ≤ n ∧ n ≤ 199) (h2 : s.extract 0 (min s.size 12) = (hdS n).extract 0 (min s.size 12)) (h3 : s.size < 12) : scK s n = 1 := by unfold scK; rw [if_neg (by omega), if_neg (by simp [h2]), if_pos h3]
theorem scK_whole {s : ByteArray} {n : Int} (h : 0 ≤ n ∧ n ≤ 199) (h2 : s.extract 0 (min s.size 12) = (hdS n).extract 0 (min s.size 12)) (h3 : ¬ s.size < 12) : scK s n = 2 := by unfold scK; rw [if_neg (by omega), if_neg (by simp [h2]), if_neg h3]
/-- Whether a payload's record has room (P11.3). -/
def ftS (size : Int) (p : ByteArray) : Bool := decide (p.size ≤ 2000 ∧ 0 ≤ size ∧ size ≤ 4096 ∧ size + (p.size : Int) + 12 ≤ 4096)

theorem head_ref (n : Int) (w : World) :
    Calls Try.prog 14 #[.int .i64 n] w fun e w' => e = .returned (.string (hdS n)) ∧ Below w.heap.size w w' := by
  by_cases h : 0 ≤ n ∧ n ≤ 199
  · obtain ⟨k, rfl⟩ : ∃ k : Nat, n = k := ⟨n.toNat, by omega⟩
    rw [hd_yes (by omega)]
    have hP : ∀ W : World, Calls Try.prog 26 #[.int .u64 (k : Nat), .int .i64 4] W fun e w' => e = .returned (.string (bs (be 4 k))) ∧ Below W.heap.size W w' := fun W => putr_some k 4 W (by omega) (by omega) (by omega)
    have HP := Lib.hid hP
    have HS := Lib.hid fun W => seal_ref (hdT k) W (by rw [hdT_size]; decide)
    have ha : ∀ w : World, (Op.stringOp .add ⟨#[99, 104, 110, 107]⟩ (bs (be 4 k))).run Try.prog w = .ok (.string (hdT k)) w := fun w => run_string_add_sum (P := Try.prog) (w := w) _ _ (by rw [bs_size, be_length]; decide)
    have t1 : decide ((k : Int) < 0) = false := decide_eq_false (by omega)
    have t2 : decide ((199 : Int) < (k : Int)) = false := decide_eq_false (by omega)
    have hw : IntKind.u64.wrap (k : Int) = (k : Int) := by rw [IntKind.wrap_u64]; omega
    generalize sealS (hdT k) = S at *
    generalize hdT k = T at *
    generalize bs (be 4 k) = B at *
    clear hP h
    go_enter Try.func14, Try.ntmps14
    go_wp2_with fail
    refine (HP.out _).mono ?_
    rintro e w1 ⟨rfl, hb1⟩
    go_wp2_with fail
    refine (HS.out _).mono ?_
    rintro e w2 ⟨rfl, hb2⟩
    go_wp2
    go_ret
    exact ⟨rfl, bj hb1 hb2⟩
  · rw [hd_no h]
    by_cases h0 : n < 0
    · have t1 : decide (n < 0) = true := decide_eq_true h0
      clear h
      go_enter Try.func14, Try.ntmps14
      go_wp2
      go_ret
      exact ⟨rfl, Below.refl _ _⟩
    · have t1 : decide (n < 0) = false := decide_eq_false h0
      have t2 : decide ((199 : Int) < n) = true := decide_eq_true (by omega)
      clear h
      go_enter Try.func14, Try.ntmps14
      go_wp2
      go_ret
      exact ⟨rfl, Below.refl _ _⟩

/-- What Scan tells. -/
def Scanned (s : ByteArray) (n : Int) (w : World) (e : Ending) (w' : World) : Prop := ∃ u, e = .returned (.tuple #[u, .int .i64 (scE s n : Nat), .bool (scOk s n)]) ∧ IntsIn w' u (scL s n) ∧ Below w.heap.size w w'
theorem ctxt_eq {a b : ByteArray} (h : a = b) : (a.toList != b.toList) = false ∧ (a.toList == b.toList) = true ∧ (!(a.toList == b.toList)) = false := by subst h; simp
theorem ctxt_ne {a b : ByteArray} (h : ¬ a = b) : (a.toList != b.toList) = true ∧ (a.toList == b.toList) = false ∧ (!(a.toList == b.toList)) = true := by
  have : ¬ a.toList = b.toList := fun x => by
    rw [Lib.toList_data, Lib.toList_data] at x
    exact h (ByteArray.ext (Array.toList_inj.1 x))
  simpa using this

theorem ne_nil_of_size {H : ByteArray} (hz : H.size = 12) : ¬ H.toList = [] ∧ (H.toList == []) = false := by
  have : ¬ H.toList = [] := fun e => by
    have h : H = ByteArray.empty := ByteArray.ext (Array.toList_inj.1 (by rw [← Lib.toList_data, e]; rfl))
    rw [h] at hz
    cases hz
  exact ⟨this, by rw [beq_eq_false_iff_ne]; exact this⟩

def NoChunk (w : World) (e : Ending) (w' : World) : Prop := ∃ u, e = .returned (.tuple #[u, .int .i64 0, .bool false]) ∧ IntsIn w' u [] ∧ Below w.heap.size w w'
def HalfChunk (w : World) (e : Ending) (w' : World) : Prop := ∃ u, e = .returned (.tuple #[u, .int .i64 0, .bool true]) ∧ IntsIn w' u [] ∧ Below w.heap.size w w'

set_option maxHeartbeats 800000 in
theorem scan_short (s H : ByteArray) (n : Int) (w : World) (hs : s.size < 12) (hz : H.size = 12)
    (hh : ∀ W : World, Calls Try.prog 14 #[.int .i64 n] W fun e w' => e = .returned (.string H) ∧ Below W.heap.size W w')
    (hq : s = H.extract 0 s.size) :
    Calls Try.prog 11 #[.string s, .int .i64 n] w (HalfChunk w) := by
  have HH := Lib.hid hh
  unfold HalfChunk
  obtain ⟨v2, v3⟩ := ne_nil_of_size hz
  obtain ⟨q1, q2, q3⟩ := ctxt_eq hq
  have d1 : (s.size : Int) ≤ 12 := by omega
  have d2 : (s.size : Int) < 12 := by omega
  have d3 : min (s.size : Int) 12 = (s.size : Int) := by omega
  have d4 : (0 : Int) ≤ (s.size : Int) := by omega
  clear hh hq
  go_enter Try.func11, Try.ntmps11
  go_wp2_with fail
  refine (HH.out _).mono ?_
  rintro e w1 ⟨rfl, hb1⟩
  go_wp2_with fail
  go_region
  go_wp2
  go_ret3
  exact ⟨_, rfl, Or.inl ⟨rfl, _, _, rfl⟩, below_drewN hb1 _⟩
set_option maxHeartbeats 800000 in
theorem scan_shortno (s H : ByteArray) (n : Int) (w : World) (hs : s.size < 12) (hz : H.size = 12)
    (hh : ∀ W : World, Calls Try.prog 14 #[.int .i64 n] W fun e w' => e = .returned (.string H) ∧ Below W.heap.size W w')
    (hq : ¬ s = H.extract 0 s.size) :
    Calls Try.prog 11 #[.string s, .int .i64 n] w (NoChunk w) := by
  have HH := Lib.hid hh
  unfold NoChunk
  obtain ⟨v2, v3⟩ := ne_nil_of_size hz
  obtain ⟨q1, q2, q3⟩ := ctxt_ne hq
  have d1 : (s.size : Int) ≤ 12 := by omega
  have d2 : (s.size : Int) < 12 := by omega
  have d3 : min (s.size : Int) 12 = (s.size : Int) := by omega
  have d4 : (0 : Int) ≤ (s.size : Int) := by omega
  clear hh hq
  go_enter Try.func11, Try.ntmps11
  go_wp2_with fail
  refine (HH.out _).mono ?_
  rintro e w1 ⟨rfl, hb1⟩
  go_wp2_with fail
  go_region
  go_wp2
  go_ret3
  exact ⟨_, rfl, Or.inl ⟨rfl, _, _, rfl⟩, below_drewN hb1 _⟩
set_option maxHeartbeats 800000 in
theorem scan_eqno (s H : ByteArray) (n : Int) (w : World) (hs : s.size = 12) (hz : H.size = 12)
    (hh : ∀ W : World, Calls Try.prog 14 #[.int .i64 n] W fun e w' => e = .returned (.string H) ∧ Below W.heap.size W w')
    (hq : ¬ s = H) :
    Calls Try.prog 11 #[.string s, .int .i64 n] w (NoChunk w) := by
  have HH := Lib.hid hh
  unfold NoChunk
  obtain ⟨v2, v3⟩ := ne_nil_of_size hz
  obtain ⟨q1, q2, q3⟩ := ctxt_ne hq
  have hx : H.extract 0 12 = H := by rw [← hz]; exact ByteArray.extract_zero_size
  have hy : s.extract 0 12 = s := by rw [← hs]; exact ByteArray.extract_zero_size
  clear hh hq
  go_enter Try.func11, Try.ntmps11
  go_wp2_with fail
  refine (HH.out _).mono ?_
  rintro e w1 ⟨rfl, hb1⟩
  go_wp2_with fail
  go_region
  go_wp2
  go_ret3
  exact ⟨_, rfl, Or.inl ⟨rfl, _, _, rfl⟩, below_drewN hb1 _⟩
set_option maxHeartbeats 800000 in
theorem scan_bigno (s H : ByteArray) (n : Int) (w : World) (hs : 12 < s.size) (hz : H.size = 12)
    (hh : ∀ W : World, Calls Try.prog 14 #[.int .i64 n] W fun e w' => e = .returned (.string H) ∧ Below W.heap.size W w')
    (hq : ¬ s.extract 0 12 = H) :
    Calls Try.prog 11 #[.string s, .int .i64 n] w (NoChunk w) := by
  have HH := Lib.hid hh
  unfold NoChunk
  obtain ⟨v2, v3⟩ := ne_nil_of_size hz
  obtain ⟨q1, q2, q3⟩ := ctxt_ne hq
  have hx : H.extract 0 12 = H := by rw [← hz]; exact ByteArray.extract_zero_size
  have d1 : ¬ (s.size : Int) ≤ 12 := by omega
  have d2 : (12 : Int) < (s.size : Int) := by omega
  have d3 : min (s.size : Int) 12 = 12 := by omega
  have d4 : (12 : Int) ≤ (s.size : Int) := by omega
  have d5 : ¬ (s.size : Int) < 12 := by omega
  clear hh hq
  go_enter Try.func11, Try.ntmps11
  go_wp2_with fail
  refine (HH.out _).mono ?_
  rintro e w1 ⟨rfl, hb1⟩
  go_wp2_with fail
  go_region
  go_wp2
  go_ret3
  exact ⟨_, rfl, Or.inl ⟨rfl, _, _, rfl⟩, below_drewN hb1 _⟩
set_option maxHeartbeats 800000 in
theorem scan_eq (s H : ByteArray) (n : Int) (w : World) (hs : s.size = 12) (hz : H.size = 12)
    (hh : ∀ W : World, Calls Try.prog 14 #[.int .i64 n] W fun e w' => e = .returned (.string H) ∧ Below W.heap.size W w')
    (hq : s = H) (hm : s.size ≤ 1000000) (hk : scK s n = 2) :
    Calls Try.prog 11 #[.string s, .int .i64 n] w (Scanned s n w) := by
  have HH := Lib.hid hh
  unfold Scanned
  have HW := Lib.hid fun W => wrec_ref s 12 W hm (by decide)
  unfold WholeRec at HW
  obtain ⟨e1, e2, e3⟩ := sc_2 hk
  rw [e1, e2, e3]
  generalize wlL s 12 = L at *
  generalize wlE s 12 = E at *
  clear e1 e2 e3 hk
  obtain ⟨v2, v3⟩ := ne_nil_of_size hz
  obtain ⟨q1, q2, q3⟩ := ctxt_eq hq
  have hx : H.extract 0 12 = H := by rw [← hz]; exact ByteArray.extract_zero_size
  have hy : s.extract 0 12 = s := by rw [← hs]; exact ByteArray.extract_zero_size
  clear hh hq
  go_enter Try.func11, Try.ntmps11
  go_wp2_with fail
  refine (HH.out _).mono ?_
  rintro e w1 ⟨rfl, hb1⟩
  go_wp2_with fail
  go_region
  go_wp2_with fail
  refine (HW.out _).mono ?_
  rintro e w2 ⟨u, rfl, hu, hb2⟩
  go_wp2
  go_ret3
  exact ⟨_, rfl, hu, bj (below_drewN hb1 _) hb2⟩
set_option maxHeartbeats 800000 in
theorem scan_big (s H : ByteArray) (n : Int) (w : World) (hs : 12 < s.size) (hz : H.size = 12)
    (hh : ∀ W : World, Calls Try.prog 14 #[.int .i64 n] W fun e w' => e = .returned (.string H) ∧ Below W.heap.size W w')
    (hq : s.extract 0 12 = H) (hm : s.size ≤ 1000000) (hk : scK s n = 2) :
    Calls Try.prog 11 #[.string s, .int .i64 n] w (Scanned s n w) := by
  have HH := Lib.hid hh
  unfold Scanned
  have HW := Lib.hid fun W => wrec_ref s 12 W hm (by decide)
  unfold WholeRec at HW
  obtain ⟨e1, e2, e3⟩ := sc_2 hk
  rw [e1, e2, e3]
  generalize wlL s 12 = L at *
  generalize wlE s 12 = E at *
  clear e1 e2 e3 hk
  obtain ⟨v2, v3⟩ := ne_nil_of_size hz
  obtain ⟨q1, q2, q3⟩ := ctxt_eq hq
  have hx : H.extract 0 12 = H := by rw [← hz]; exact ByteArray.extract_zero_size
  have d1 : ¬ (s.size : Int) ≤ 12 := by omega
  have d2 : (12 : Int) < (s.size : Int) := by omega
  have d3 : min (s.size : Int) 12 = 12 := by omega
  have d4 : (12 : Int) ≤ (s.size : Int) := by omega
  have d5 : ¬ (s.size : Int) < 12 := by omega
  clear hh hq
  go_enter Try.func11, Try.ntmps11
  go_wp2_with fail
  refine (HH.out _).mono ?_
  rintro e w1 ⟨rfl, hb1⟩
  go_wp2_with fail
  go_region
  go_wp2_with fail
  refine (HW.out _).mono ?_
  rintro e w2 ⟨u, rfl, hu, hb2⟩
  go_wp2
  go_ret3
  exact ⟨_, rfl, hu, bj (below_drewN hb1 _) hb2⟩

set_option maxHeartbeats 800000 in
theorem scan_none (s : ByteArray) (n : Int) (w : World) (h : ¬ (0 ≤ n ∧ n ≤ 199)) :
    Calls Try.prog 11 #[.string s, .int .i64 n] w (NoChunk w) := by
  have HH := Lib.hid fun W => head_ref n W
  rw [hd_no h] at HH
  unfold NoChunk
  clear h
  go_enter Try.func11, Try.ntmps11
  go_wp2_with fail
  refine (HH.out _).mono ?_
  rintro e w1 ⟨rfl, hb1⟩
  go_wp2
  go_ret3
  exact ⟨_, rfl, Or.inl ⟨rfl, _, _, rfl⟩, hb1⟩

theorem scan_ref (s : ByteArray) (n : Int) (w : World) (hs : s.size ≤ 1000000) :
    Calls Try.prog 11 #[.string s, .int .i64 n] w (Scanned s n w) := by
  have hno : scK s n = 0 → ∀ e w', NoChunk w e w' → Scanned s n w e w' := by
    intro hk e w' ⟨u, he, hu, hb⟩
    obtain ⟨e1, e2, e3⟩ := sc_0 hk
    exact ⟨u, by rw [he, e2, e3]; rfl, by rw [e1]; exact hu, hb⟩
  have hhalf : scK s n = 1 → ∀ e w', HalfChunk w e w' → Scanned s n w e w' := by
    intro hk e w' ⟨u, he, hu, hb⟩
    obtain ⟨e1, e2, e3⟩ := sc_1 hk
    exact ⟨u, by rw [he, e2, e3]; rfl, by rw [e1]; exact hu, hb⟩
  by_cases h : 0 ≤ n ∧ n ≤ 199
  · obtain ⟨k, rfl⟩ : ∃ k : Nat, n = k := ⟨n.toNat, by omega⟩
    have hz := hd_size (n := k) (by omega)
    have hh := fun W => head_ref (k : Nat) W
    have hx : (hdS (k : Nat)).extract 0 12 = hdS (k : Nat) := by rw [← hz]; exact ByteArray.extract_zero_size
    by_cases hq : s.extract 0 (min s.size 12) = (hdS (k : Nat)).extract 0 (min s.size 12)
    · by_cases hl : s.size < 12
      · have hk := scK_short h hq hl
        rw [Nat.min_eq_left (by omega), ByteArray.extract_zero_size] at hq
        exact (scan_short s _ _ w hl hz hh hq).mono (hhalf hk)
      · have hk := scK_whole h hq hl
        rw [Nat.min_eq_right (by omega), hx] at hq
        by_cases he : s.size = 12
        · rw [← he, ByteArray.extract_zero_size] at hq
          exact scan_eq s _ _ w he hz hh hq hs hk
        · exact scan_big s _ _ w (by omega) hz hh hq hs hk
    · have hk := scK_bad h hq
      by_cases hl : s.size < 12
      · rw [Nat.min_eq_left (by omega), ByteArray.extract_zero_size] at hq
        exact (scan_shortno s _ _ w hl hz hh hq).mono (hno hk)
      · rw [Nat.min_eq_right (by omega), hx] at hq
        by_cases he : s.size = 12
        · rw [← he, ByteArray.extract_zero_size] at hq
          exact (scan_eqno s _ _ w he hz hh hq).mono (hno hk)
        · exact (scan_bigno s _ _ w (by omega) hz hh hq).mono (hno hk)
  · exact (scan_none s n w h).mono (hno (scK_no h))

set_option maxHeartbeats 800000 in
theorem fits_ref (size : Int) (p : ByteArray) (w : World) (hp : p.size ≤ maxLen) (hw : (Lit.int .i64 size).wf = true) :
    Calls Try.prog 17 #[.int .i64 size, .string p] w fun e w' => e = .returned (.bool (ftS size p)) ∧ w = w' := by
  have hb := bounds_i64 hw
  clear hw
  unfold maxLen at hp
  by_cases h1 : (p.size : Int) ≤ 2000
  · by_cases h2 : 0 ≤ size
    · by_cases h3 : size ≤ 4096
      · have t1 : decide ((p.size : Int) ≤ 2000) = true := decide_eq_true h1
        have t2 : decide (0 ≤ size) = true := decide_eq_true h2
        have t3 : decide (size ≤ 4096) = true := decide_eq_true h3
        have r : ftS size p = decide (size + (p.size : Int) + 12 ≤ 4096) := by
          unfold ftS; rw [decide_eq_decide]; omega
        rw [r]
        have w1 : wrap64 (size + (p.size : Int)) = size + (p.size : Int) := by unfold wrap64; omega
        have w2 : wrap64 (size + (p.size : Int) + 12) = size + (p.size : Int) + 12 := by unfold wrap64; omega
        go_enter Try.func17, Try.ntmps17
        go_wp2_with fail
        go_ret
        exact ⟨rfl, rfl⟩
      · have t1 : decide ((p.size : Int) ≤ 2000) = true := decide_eq_true h1
        have t2 : decide (0 ≤ size) = true := decide_eq_true h2
        have t3 : decide (size ≤ 4096) = false := decide_eq_false h3
        have r : ftS size p = false := by unfold ftS; rw [decide_eq_false_iff_not]; omega
        rw [r]
        go_enter Try.func17, Try.ntmps17
        go_wp2
        go_ret
        exact ⟨rfl, rfl⟩
    · have t1 : decide ((p.size : Int) ≤ 2000) = true := decide_eq_true h1
      have t2 : decide (0 ≤ size) = false := decide_eq_false h2
      have r : ftS size p = false := by unfold ftS; rw [decide_eq_false_iff_not]; omega
      rw [r]
      go_enter Try.func17, Try.ntmps17
      go_wp2
      go_ret
      exact ⟨rfl, rfl⟩
  · have t1 : decide ((p.size : Int) ≤ 2000) = false := decide_eq_false h1
    have r : ftS size p = false := by unfold ftS; rw [decide_eq_false_iff_not]; omega
    rw [r]
    go_enter Try.func17, Try.ntmps17
    go_wp2
    go_ret
    exact ⟨rfl, rfl⟩
end Go.Proofs.Ytoocejmimfhniaa
