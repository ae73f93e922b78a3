/- NamesBack over what the program's names answer. -/
import Derived.Test.YtaphmmbngjblhaaNamesWalk
import Derived.Deep.DeepCutAuto
namespace Go.Proofs.Ytaphmmbngjblhaa
open Go.RowKit
set_option linter.unusedVariables false

theorem nback_long (api : NamesApi) (n : Int) (s : ByteArray) (w : World) (hs : s.size ≤ maxLen) (h : 100 < s.size) :
    Calls Try.prog 5 #[.int .i64 n, .string s] w fun e w' => e = .returned (.bool true) ∧ Below w.heap.size w w' := by
  unfold maxLen at hs
  have t1 : decide ((100 : Int) < (s.size : Int)) = true := decide_eq_true (by omega)
  go_enter Try.func5, Try.ntmps5
  go_wp2_with fail
  refine (named_true api _).mono ?_
  rintro e w1 ⟨rfl, hb1⟩
  go_wp2
  go_ret
  exact ⟨rfl, hb1⟩

/-- A block of three cells. -/
def Tri (w : World) (g : Nat) (T : TypeId) (x y z : Value) : Prop := w.heap[g]? = some (.cells #[x, y, z] T (0, 0))
theorem Tri.new (w : World) (T : TypeId) (x y z : Value) : Tri (w.alloc (.cells #[x, y, z] T (0, 0))) w.heap.size T x y z := by
  show (w.heap.push _)[w.heap.size]? = _
  simp
theorem Tri.lt {w : World} {g : Nat} {T : TypeId} {x y z : Value} (h : Tri w g T x y z) : g < w.heap.size := by
  obtain ⟨hlt, _⟩ := Array.getElem?_eq_some_iff.1 h
  exact hlt
theorem Tri.below {w w' : World} {g : Nat} {T : TypeId} {x y z : Value} (h : Tri w g T x y z) (hb : Below w.heap.size w w') : Tri w' g T x y z := (hb.block g h.lt).trans h
theorem Tri.facts {w : World} {g : Nat} {T : TypeId} {x y z : Value} (h : Tri w g T x y z) : w.cell? ⟨g, 0, none⟩ = some x ∧ w.cell? ⟨g, 1, none⟩ = some y ∧ w.cell? ⟨g, 2, none⟩ = some z := by
  unfold Tri at h
  simp [World.cell?, h]

set_option maxHeartbeats 3200000 in
set_option maxRecDepth 100000 in
theorem nback_short (api : NamesApi) (n : Int) (s : ByteArray) (w : World) (wn : (Lit.int .i64 n).wf = true) (hs : s.size ≤ 100) :
    Calls Try.prog 5 #[.int .i64 n, .string s] w fun e w' => e = .returned (.bool true) ∧ Below w.heap.size w w' := by
  have t1 : decide ((100 : Int) < (s.size : Int)) = false := decide_eq_false (by omega)
  have C1 := Lib.hid fun W => api.chunk n W wn
  have C2 := Lib.hid fun W => api.table n W wn
  have C3 := Lib.hid fun W => api.bloom n W wn
  have PS := Lib.hid fun W => api.parse s W (by unfold maxLen; omega)
  have HN := Lib.hid fun (h : ¬ (0 ≤ n ∧ n ≤ 999999)) => (⟨nm_no h, nm_no h, nm_no h⟩ : nmS 99 n = ByteArray.empty ∧ nmS 116 n = ByteArray.empty ∧ nmS 98 n = ByteArray.empty)
  have HP := Lib.hid fun (c : UInt8) (hc : isK c = true) (h : 0 ≤ n ∧ n ≤ 999999) => (by
    obtain ⟨k, rfl⟩ : ∃ k : Nat, n = k := ⟨n.toNat, by omega⟩
    obtain ⟨h1, h2, h3⟩ := np_back (n := k) hc (by omega)
    refine ⟨fun W => ?_, nm_size (by omega)⟩
    have := api.parse (nmS c (k : Nat)) W (by rw [nm_size (by omega)]; decide)
    rw [h1, h2, h3] at this
    exact this : (∀ W, Calls Try.prog 14 #[.string (nmS c n)] W fun e w' => e = .returned (.tuple #[.int .u8 (c.toNat : Nat), .int .i64 n, .bool true]) ∧ Below W.heap.size W w') ∧ (nmS c n).size = 7)
  have P1 := Lib.hid (HP.out 99 rfl)
  have P2 := Lib.hid (HP.out 116 rfl)
  have P3 := Lib.hid (HP.out 98 rfl)
  obtain ⟨a, ea⟩ : ∃ a, nmS 99 n = a := ⟨_, rfl⟩
  obtain ⟨b, eb⟩ : ∃ b, nmS 116 n = b := ⟨_, rfl⟩
  obtain ⟨c, ec⟩ : ∃ c, nmS 98 n = c := ⟨_, rfl⟩
  rw [ea] at C1 P1
  rw [eb] at C2 P2
  rw [ec] at C3 P3
  rw [ea, eb, ec] at HN
  clear HP ea eb ec hs
  go_enter Try.func5, Try.ntmps5
  go_wp2_with fail
  refine (C1.out _).mono ?_
  rintro e w1 ⟨rfl, hb1⟩
  go_wp2_with fail
  refine (C2.out _).mono ?_
  rintro e w2 ⟨rfl, hb2⟩
  go_wp2_with fail
  refine (C3.out _).mono ?_
  rintro e w3 ⟨rfl, hb3⟩
  have b3 := bj hb1 (bj hb2 hb3)
  have T3 := (Tri.new w3 29 (.string a) (.string b) (.string c))
  have T4 := T3.below ((Below.refl _ _).alloc (Nat.le_refl _) (.cells #[.int .u8 99, .int .u8 116, .int .u8 98] 30))
  have U4 := Tri.new (w3.alloc (.cells #[.string a, .string b, .string c] 29)) 30 (.int .u8 99) (.int .u8 116) (.int .u8 98)
  rw [World.size_alloc] at U4
  have b4 := (b3.alloc b3.size (.cells #[.string a, .string b, .string c] 29)).alloc (by have := b3.size; simp; omega) (.cells #[.int .u8 99, .int .u8 116, .int .u8 98] 30)
  clear hb1 hb2 hb3 b3 T3 C1 C2 C3
  go_wp2_with fail
  go_loopw [7] (fun i wr => ∃ k : Nat, k ≤ 3 ∧ i = .int .i64 k ∧ Tri wr w3.heap.size 29 (.string a) (.string b) (.string c) ∧ Tri wr (w3.heap.size + 1) 30 (.int .u8 99) (.int .u8 116) (.int .u8 98) ∧ Below w.heap.size w wr) (fun i _ => 3 - (intOf i).toNat)
  case atStart => exact ⟨0, Nat.zero_le _, rfl, T4, U4, b4⟩
  case round =>
    obtain ⟨k, hk, rfl, T, U, hbel⟩ := hrel
    clear T4 U4 b4
    obtain ⟨x0, x1, x2⟩ := T.facts
    obtain ⟨y0, y1, y2⟩ := U.facts
    by_cases hlt : k < 3
    · clear PS
      by_cases hr : 0 ≤ n ∧ n ≤ 999999
      · obtain ⟨Q1, s1⟩ := P1.out hr
        obtain ⟨Q2, s2⟩ := P2.out hr
        obtain ⟨Q3, s3⟩ := P3.out hr
        have r1 : decide (n < 0) = false := decide_eq_false (by omega)
        have r2 : decide ((999999 : Int) < n) = false := decide_eq_false (by omega)
        have G1 := Lib.hid Q1
        have G2 := Lib.hid Q2
        have G3 := Lib.hid Q3
        have z1 : decide ((12 : Int) < (a.size : Int)) = false := decide_eq_false (by omega)
        have z2 : decide ((12 : Int) < (b.size : Int)) = false := decide_eq_false (by omega)
        have z3 : decide ((12 : Int) < (c.size : Int)) = false := decide_eq_false (by omega)
        have nn : (n != n) = false := by simp
        have HT := Lib.hid (And.intro T U)
        clear P1 P2 P3 Q1 Q2 Q3 s1 s2 s3 HN T U hr
        obtain rfl | rfl | rfl : k = 0 ∨ k = 1 ∨ k = 2 := by omega
        · go_wp2_with fail
          refine (G1.out _).mono ?_
          rintro e w5 ⟨rfl, hb5⟩
          obtain ⟨x0, x1, x2⟩ := (HT.out.1.below hb5).facts
          obtain ⟨y0, y1, y2⟩ := (HT.out.2.below hb5).facts
          go_wp2
          go_roundw
          case rel => exact ⟨1, by omega, by go_num, HT.out.1.below hb5, HT.out.2.below hb5, bj hbel hb5⟩
          case measure => simp [intOf]
        · go_wp2_with fail
          refine (G2.out _).mono ?_
          rintro e w5 ⟨rfl, hb5⟩
          obtain ⟨x0, x1, x2⟩ := (HT.out.1.below hb5).facts
          obtain ⟨y0, y1, y2⟩ := (HT.out.2.below hb5).facts
          go_wp2
          go_roundw
          case rel => exact ⟨2, by omega, by go_num, HT.out.1.below hb5, HT.out.2.below hb5, bj hbel hb5⟩
          case measure => simp [intOf]
        · go_wp2_with fail
          refine (G3.out _).mono ?_
          rintro e w5 ⟨rfl, hb5⟩
          obtain ⟨x0, x1, x2⟩ := (HT.out.1.below hb5).facts
          obtain ⟨y0, y1, y2⟩ := (HT.out.2.below hb5).facts
          go_wp2
          go_roundw
          case rel => exact ⟨3, by omega, by go_num, HT.out.1.below hb5, HT.out.2.below hb5, bj hbel hb5⟩
          case measure => simp [intOf]
      · obtain ⟨rfl, rfl, rfl⟩ := HN.out hr
        have HT := Lib.hid (And.intro T U)
        clear P1 P2 P3 HN T U
        obtain rfl | rfl | rfl : k = 0 ∨ k = 1 ∨ k = 2 := by omega
        all_goals
          by_cases h0 : n < 0
          · have r1 : decide (n < 0) = true := decide_eq_true h0
            clear hr
            go_wp2
            go_roundw
            case rel => first | exact ⟨1, by omega, rfl, HT.out.1, HT.out.2, hbel⟩ | exact ⟨2, by omega, rfl, HT.out.1, HT.out.2, hbel⟩ | exact ⟨3, by omega, rfl, HT.out.1, HT.out.2, hbel⟩
            case measure => simp [intOf]
          · have r1 : decide (n < 0) = false := decide_eq_false h0
            have r2 : decide ((999999 : Int) < n) = true := decide_eq_true (by omega)
            clear hr
            go_wp2
            go_roundw
            case rel => first | exact ⟨1, by omega, rfl, HT.out.1, HT.out.2, hbel⟩ | exact ⟨2, by omega, rfl, HT.out.1, HT.out.2, hbel⟩ | exact ⟨3, by omega, rfl, HT.out.1, HT.out.2, hbel⟩
            case measure => simp [intOf]
    · obtain rfl : k = 3 := by omega
      clear P1 P2 P3 HN
      cases ho : npOk s with
      | false =>
        obtain ⟨e1, e2⟩ := np_no ho
        rw [ho, e1, e2] at PS
        go_wp2_with fail
        refine (PS.out _).mono ?_
        rintro e w5 ⟨rfl, hb5⟩
        go_wp2_with fail
        refine (named_true api _).mono ?_
        rintro e w6 ⟨rfl, hb6⟩
        go_wp2
        go_ret
        exact ⟨rfl, bj hbel (bj hb5 hb6)⟩
      | true =>
        obtain ⟨hle, hk⟩ := np_form ho
        have CC := Lib.hid fun W => api.chunk (npN s : Nat) W (WalkArith.wf_i64 (by omega))
        have CT := Lib.hid fun W => api.table (npN s : Nat) W (WalkArith.wf_i64 (by omega))
        have CB := Lib.hid fun W => api.bloom (npN s : Nat) W (WalkArith.wf_i64 (by omega))
        rw [ho] at PS
        have r1 : decide ((0 : Int) ≤ (npN s : Nat)) = true := decide_eq_true (by omega)
        have r2 : decide (((npN s : Nat) : Int) ≤ 999999) = true := decide_eq_true (by omega)
        have es : (s.toList == s.toList) = true := by simp
        rcases hk with ⟨hk, e0⟩ | ⟨hk, e0⟩ | ⟨hk, e0⟩
        · rw [hk] at PS
          rw [e0] at CC
          generalize npN s = m at *
          clear e0 hk ho
          go_wp2_with fail
          refine (PS.out _).mono ?_
          rintro e w5 ⟨rfl, hb5⟩
          go_wp2_with fail
          refine (CC.out _).mono ?_
          rintro e w7 ⟨rfl, hb7⟩
          go_wp2_with fail
          refine (named_true api _).mono ?_
          rintro e w6 ⟨rfl, hb6⟩
          go_wp2
          go_ret
          exact ⟨rfl, bj hbel (bj hb5 (bj hb7 hb6))⟩
        · rw [hk] at PS
          rw [e0] at CT
          generalize npN s = m at *
          clear e0 hk ho
          go_wp2_with fail
          refine (PS.out _).mono ?_
          rintro e w5 ⟨rfl, hb5⟩
          go_wp2_with fail
          refine (CT.out _).mono ?_
          rintro e w7 ⟨rfl, hb7⟩
          go_wp2_with fail
          refine (named_true api _).mono ?_
          rintro e w6 ⟨rfl, hb6⟩
          go_wp2
          go_ret
          exact ⟨rfl, bj hbel (bj hb5 (bj hb7 hb6))⟩
        · rw [hk] at PS
          rw [e0] at CB
          generalize npN s = m at *
          clear e0 hk ho
          go_wp2_with fail
          refine (PS.out _).mono ?_
          rintro e w5 ⟨rfl, hb5⟩
          go_wp2_with fail
          refine (CB.out _).mono ?_
          rintro e w7 ⟨rfl, hb7⟩
          go_wp2_with fail
          refine (named_true api _).mono ?_
          rintro e w6 ⟨rfl, hb6⟩
          go_wp2
          go_ret
          exact ⟨rfl, bj hbel (bj hb5 (bj hb7 hb6))⟩

/-- NamesBack. -/
theorem nback_walk (api : NamesApi) (n : Int) (s : ByteArray) (w : World) (wn : (Lit.int .i64 n).wf = true) (hs : s.size ≤ maxLen) :
    Calls Try.prog 5 #[.int .i64 n, .string s] w fun e w' => e = .returned (.bool true) ∧ Below w.heap.size w w' := by
  by_cases h : 100 < s.size
  · exact nback_long api n s w hs h
  · exact nback_short api n s w wn (by omega)
end Go.Proofs.Ytaphmmbngjblhaa
