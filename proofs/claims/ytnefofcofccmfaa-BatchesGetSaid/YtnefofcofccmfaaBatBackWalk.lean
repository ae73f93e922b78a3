/- BatchesBack over what the program's batches answer. -/
import Derived.Test.YtnefofcofccmfaaBatFirstWalk
namespace Go.Proofs.Ytnefofcofccmfaa
open Go.RowKit
set_option linter.unusedVariables false
attribute [local go_sem] run_store_float

theorem bback_great (api : BatApi) (s : ByteArray) (f : Int) (v : Value) (l : List RawS) (B : ByteArray) (a : Int) (w : World) (hs : s.size ≤ maxLen) (hB : B.size ≤ maxLen) (h : RawsIn w v l) (hok : ∀ x ∈ l, RawOk x) (hg : bgrt s l = true ∨ 100 < B.size) :
    Calls Try.prog 5 #[batV s f v, .string B, .int .u16 a] w fun e w' => e = .returned (.bool true) ∧ Below w.heap.size w w' := by
  obtain ⟨A, c, rfl⟩ := h.form
  have hbw : Below w.heap.size w (w.alloc (.cells #[.string s, .int .i64 f, .slice A l.length c] 24)) := (Below.refl _ _).alloc (Nat.le_refl _) _
  have HG := Lib.hid (bgreat_any s f _ l _ hs (h.below hbw (Nat.le_refl _)) hok)
  unfold maxLen at hB
  unfold batV at HG ⊢
  clear h hok hs
  cases hgg : bgrt s l with
  | true =>
    rw [hgg] at HG
    clear hgg hg
    go_enter Try.func5, Try.ntmps5
    go_wp2_with fail
    refine HG.out.mono ?_
    rintro e w1 ⟨rfl, hb1⟩
    go_wp2_with fail
    refine (batched_true api _).mono ?_
    rintro e w2 ⟨rfl, hb2⟩
    go_wp2
    go_ret
    exact ⟨rfl, bj (hbw.trans (hb1.mono (by simp))) hb2⟩
  | false =>
    rw [hgg] at HG hg
    have h100 : 100 < B.size := by
      rcases hg with h | h
      · cases h
      · exact h
    have t1 : decide ((100 : Int) < (B.size : Int)) = true := decide_eq_true (by omega)
    clear hgg hg
    go_enter Try.func5, Try.ntmps5
    go_wp2_with fail
    refine HG.out.mono ?_
    rintro e w1 ⟨rfl, hb1⟩
    go_wp2_with fail
    refine (batched_true api _).mono ?_
    rintro e w2 ⟨rfl, hb2⟩
    go_wp2
    go_ret
    exact ⟨rfl, bj (hbw.trans (hb1.mono (by simp))) hb2⟩

set_option maxHeartbeats 1600000 in
set_option maxRecDepth 100000 in
theorem bback_no (api : BatApi) (s : ByteArray) (f : Int) (v : Value) (l : List RawS) (B : ByteArray) (a : Int) (w : World) (hs : s.size ≤ maxLen) (hB : B.size ≤ 100) (h : RawsIn w v l) (hok : ∀ x ∈ l, RawOk x) (hg : bgrt s l = false) (hf : (Lit.int .i64 f).wf = true) (hc : ¬ bchk s f l = 0) :
    Calls Try.prog 5 #[batV s f v, .string B, .int .u16 a] w fun e w' => e = .returned (.bool true) ∧ Below w.heap.size w w' := by
  obtain ⟨z1, z2, z3⟩ := raw_ev hg hok
  have HR := Lib.hid fun W (hW : Below w.heap.size w W) => h.below hW (Nat.le_refl _)
  obtain ⟨A, c, rfl⟩ := h.form
  have hbw : Below w.heap.size w (w.alloc (.cells #[.string s, .int .i64 f, .slice A l.length c] 24)) := (Below.refl _ _).alloc (Nat.le_refl _) _
  have R0 := Blk3.new w 24 (.string s) (.int .i64 f) (.slice A l.length c)
  have HG := Lib.hid (bgreat_any s f _ l _ hs (h.below hbw (Nat.le_refl _)) hok)
  rw [hg] at HG
  have HB := Lib.hid fun W hW => batch_any s f (.slice A l.length c) l W (HR.out W hW) (by omega)
  have HBI := Lib.hid fun W u hu => bat_of (w := W) (s := s) (f := f) (u := u) (l := l) z1 z2 z3 hf hu
  have HP := Lib.hid fun W u hu => api.put s f u l W (HBI.out W u hu)
  have HC := Lib.hid fun W u hu => api.check s f u l W (HBI.out W u hu)
  have hS : batS s f l = ByteArray.empty := by unfold batS; rw [if_neg hc]
  rw [hS] at HP
  have t1 : decide ((100 : Int) < (B.size : Int)) = false := decide_eq_false (by omega)
  have t2 : (bchk s f l != 0) = true := by simp; exact hc
  have t3 : (bchk s f l == 0) = false := by simp; exact hc
  have t4 : (bchk s f l == bchk s f l) = true := by simp
  unfold batV at HG HB HP HC ⊢
  generalize bchk s f l = r at *
  clear h hok hg hs HBI z3 hc hS
  go_enter Try.func5, Try.ntmps5
  go_wp2_with fail
  refine HG.out.mono ?_
  rintro e w1 ⟨rfl, hb1⟩
  obtain ⟨k0, k1, k2, _, _, _, kl⟩ := (R0.below hb1).facts
  have hb2 := hbw.trans (hb1.mono (by simp))
  have HBB := Lib.hid (HB.out _ hb2)
  clear R0 hbw hb1 HG HB HR
  go_wp2_with fail
  refine HBB.out.mono ?_
  rintro e w2 ⟨u, rfl, hu, hb4⟩
  obtain ⟨A2, c2, rfl⟩ := hu.form
  have E2 := Blk3.new w2 28 (.string s) (.int .i64 f) (.slice A2 l.length c2)
  have hu2 := hu.below ((Below.refl _ w2).alloc (Nat.le_refl _) (.cells #[.string s, .int .i64 f, .slice A2 l.length c2] 28)) (Nat.le_refl _)
  have hb5 := (bj hb2 hb4).alloc (bj hb2 hb4).size (.cells #[.string s, .int .i64 f, .slice A2 l.length c2] 28)
  have HX := Lib.hid (HP.out _ _ hu2)
  have HU := Lib.hid hu2
  clear hu hu2 HBB hb2 hb4 HP k0 k1 k2
  go_wp2_with fail
  refine HX.out.mono ?_
  rintro e w3 ⟨rfl, hb6⟩
  obtain ⟨k0, k1, k2, _, _, _, kl2⟩ := (E2.below hb6).facts
  have HY := Lib.hid (HC.out _ _ (HU.out.below hb6 (Nat.le_refl _)))
  have hb7 := bj hb5 hb6
  clear E2 HU hb6 hb5 HX HC
  go_wp2_with fail
  refine HY.out.mono ?_
  rintro e w4 ⟨rfl, hb8⟩
  go_wp2_with fail
  refine (batched_true api _).mono ?_
  rintro e w6 ⟨rfl, hb10⟩
  go_wp2
  go_ret
  exact ⟨rfl, bj hb7 (bj hb8 hb10)⟩

set_option maxHeartbeats 4000000 in
set_option maxRecDepth 100000 in
theorem bback_yes (api : BatApi) (s : ByteArray) (f : Int) (v : Value) (l : List RawS) (B : ByteArray) (a : Nat) (w : World) (hs : s.size ≤ maxLen) (hB : B.size ≤ 100) (h : RawsIn w v l) (hok : ∀ x ∈ l, RawOk x) (hg : bgrt s l = false) (hf : (Lit.int .i64 f).wf = true) (ha : a < 65536) (hc : bchk s f l = 0)
    (q : Bool) (S3 : ByteArray) (F3 : Int) (L3 : List RawS) (E3 : Int) (h3 : bgS (batB s f.toNat l ++ B) = S3 ∧ bgF (batB s f.toNat l ++ B) = F3 ∧ bgL (batB s f.toNat l ++ B) = L3 ∧ bgE (batB s f.toNat l ++ B) = E3)
    (q1 : (E3 == 0) = q) (q2 : (B.toList == []) = q) (q3 : bEq S3 F3 L3 s f l = q) :
    Calls Try.prog 5 #[batV s f v, .string B, .int .u16 (a : Nat)] w fun e w' => e = .returned (.bool true) ∧ Below w.heap.size w w' := by
  obtain ⟨z1, z2, z3⟩ := raw_ev hg hok
  have HR := Lib.hid fun W (hW : Below w.heap.size w W) => h.below hW (Nat.le_refl _)
  obtain ⟨A, c, rfl⟩ := h.form
  have hbw : Below w.heap.size w (w.alloc (.cells #[.string s, .int .i64 f, .slice A l.length c] 24)) := (Below.refl _ _).alloc (Nat.le_refl _) _
  have R0 := Blk3.new w 24 (.string s) (.int .i64 f) (.slice A l.length c)
  have HG := Lib.hid (bgreat_any s f _ l _ hs (h.below hbw (Nat.le_refl _)) hok)
  rw [hg] at HG
  have HB := Lib.hid fun W hW => batch_any s f (.slice A l.length c) l W (HR.out W hW) (by omega)
  have HBI := Lib.hid fun W u hu => bat_of (w := W) (s := s) (f := f) (u := u) (l := l) z1 z2 z3 hf hu
  have HP := Lib.hid fun W u hu => api.put s f u l W (HBI.out W u hu)
  have HC := Lib.hid fun W u hu => api.check s f u l W (HBI.out W u hu)
  obtain ⟨x1, x2, x3, x4⟩ := bg_back hc (fun x hx => (z3 x hx).b)
  have hsz := batB_size hc
  have hm : a % (batB s f.toNat l).size < (batB s f.toNat l).size := Nat.mod_lt _ (by omega)
  have hcut := bg_cut hc (fun x hx => (z3 x hx).b) _ hm
  obtain ⟨y1, y2, y3, y4⟩ := bg_no hcut
  have hS : batS s f l = batB s f.toNat l := by unfold batS; rw [if_pos hc]
  obtain ⟨_, _, _, xe, _, _⟩ := bg_yes x1
  obtain ⟨h31, h32, h33, h34⟩ := h3
  have HI3 := Lib.hid fun W u => got_in (w := W) (s := batB s f.toNat l ++ B) (u := u) (by rw [ByteArray.size_append]; omega)
  rw [h31, h32, h33] at HI3
  have G1 := fun W => api.get (batB s f.toNat l) W (by omega)
  have G2 := fun W => api.get ((batB s f.toNat l).extract 0 (a % (batB s f.toNat l).size)) W (by rw [ByteArray.size_extract]; omega)
  have G3 := fun W => api.get (batB s f.toNat l ++ B) W (by rw [ByteArray.size_append]; omega)
  unfold GotBat at G1 G2 G3
  rw [x2, x3, x4, xe] at G1
  rw [y1, y2, y3, y4] at G2
  rw [h31, h32, h33, h34] at G3
  have HG1 := Lib.hid G1
  have HG2 := Lib.hid G2
  have HG3 := Lib.hid G3
  rw [hS, hc] at HP
  rw [hc] at HC
  have HM1 := Lib.hid fun W u u' h h' => api.same s f u l s f u' l W (HBI.out W u h) (HBI.out W u' h')
  rw [bEq_self] at HM1
  have HM2 := Lib.hid fun W u hu => api.same ByteArray.empty 0 u [] ByteArray.empty 0 (.slice none 0 0) [] W ⟨by decide, by decide, hu, by decide, fun x hx => by cases hx⟩ ⟨by decide, by decide, Or.inl ⟨rfl, _, _, rfl⟩, by decide, fun x hx => by cases hx⟩
  rw [bEq_self] at HM2
  have HM3 := Lib.hid fun W u u' h h' => api.same S3 F3 u L3 s f u' l W (HI3.out W u h) (HBI.out W u' h')
  rw [q3] at HM3
  have t1 : decide ((100 : Int) < (B.size : Int)) = false := decide_eq_false (by omega)
  have hadd : ∀ wx : World, (Op.stringOp .add (batB s f.toNat l) B).run Try.prog wx = .ok (.string (batB s f.toNat l ++ B)) wx := fun wx => run_string_add_sum (P := Try.prog) (w := wx) _ B (by omega)
  have hp : (0 : Int) < ((batB s f.toNat l).size : Int) := by omega
  have hp0 : (((batB s f.toNat l).size : Int) == 0) = false := beq_eq_false_iff_ne.2 (by omega)
  have hp1 : decide ((2000 : Int) < ((batB s f.toNat l).size : Int)) = false := decide_eq_false (by omega)
  have hl : (batB s f.toNat l).size ≤ 2000 := by omega
  unfold batV at HG HB HP HC HG1 HG2 HG3 HM1 HM2 HM3 ⊢
  generalize batB s f.toNat l = T at *
  generalize hTB : T ++ B = TB at *
  clear hTB h hok hg hs HBI z3 hc hS x1 x2 x3 x4 xe y1 y2 y3 y4 hcut h31 h32 h33 h34 HI3 G1 G2 G3 hsz q3
  go_enter Try.func5, Try.ntmps5
  go_wp2_with fail
  refine HG.out.mono ?_
  rintro e w1 ⟨rfl, hb1⟩
  obtain ⟨k0, k1, k2, _, _, _, kl⟩ := (R0.below hb1).facts
  have hb2 := hbw.trans (hb1.mono (by simp))
  have HBB := Lib.hid (HB.out _ hb2)
  clear R0 hbw hb1 HG HB HR
  go_wp2_with fail
  refine HBB.out.mono ?_
  rintro e w2 ⟨u, rfl, hu, hb4⟩
  obtain ⟨A2, c2, rfl⟩ := hu.form
  have E2 := Blk3.new w2 28 (.string s) (.int .i64 f) (.slice A2 l.length c2)
  have hu2 := hu.below ((Below.refl _ w2).alloc (Nat.le_refl _) (.cells #[.string s, .int .i64 f, .slice A2 l.length c2] 28)) (Nat.le_refl _)
  have hb5 := (bj hb2 hb4).alloc (bj hb2 hb4).size (.cells #[.string s, .int .i64 f, .slice A2 l.length c2] 28)
  have HX := Lib.hid (HP.out _ _ hu2)
  have HU := Lib.hid hu2
  clear hu hu2 HBB hb2 hb4 HP k0 k1 k2
  go_wp2_with fail
  refine HX.out.mono ?_
  rintro e w3 ⟨rfl, hb6⟩
  have E3' := E2.below hb6
  obtain ⟨k0, k1, k2, _, _, _, kl2⟩ := E3'.facts
  have hu3 := HU.out.below hb6 (Nat.le_refl _)
  have HY := Lib.hid (HC.out _ _ hu3)
  have HU3 := Lib.hid hu3
  have hb7 := bj hb5 hb6
  clear E2 HU hb6 hb5 HX HC hu3
  go_wp2_with fail
  refine HY.out.mono ?_
  rintro e w4 ⟨rfl, hb8⟩
  have E4 := E3'.below hb8
  have hu4 := HU3.out.below hb8 (Nat.le_refl _)
  have hb9 := bj hb7 hb8
  clear E3' HU3 hb8 hb7 HY k0 k1 k2
  go_wp2_with fail
  refine (HG1.out _).mono ?_
  rintro e w5 ⟨u1, rfl, hu5, hb10⟩
  obtain ⟨A5, c5, rfl⟩ := hu5.form
  have o5 : Below w5.heap.size w5 (w5.alloc (.cells #[.string s, .int .i64 f, .slice A5 l.length c5] 28)) := (Below.refl _ _).alloc (Nat.le_refl _) _
  have E5 := (E4.below hb10).below o5
  have F5 := Blk3.new w5 28 (.string s) (.int .i64 f) (.slice A5 l.length c5)
  have hx5 := (hu4.below hb10 (Nat.le_refl _)).below o5 (Nat.le_refl _)
  have ha5 := hu5.below o5 (Nat.le_refl _)
  have hb11 := bj (bj hb9 hb10) o5
  clear E4 hu4 hu5 hb9 hb10 o5 HG1
  go_wp2_with fail
  refine (HG2.out _).mono ?_
  rintro e w6 ⟨u2, rfl, hu6, hb12⟩
  obtain ⟨A6, c6, rfl⟩ := evsIn_nil hu6
  have o6 : Below w6.heap.size w6 (w6.alloc (.cells #[.string ByteArray.empty, .int .i64 0, .slice A6 0 c6] 28)) := (Below.refl _ _).alloc (Nat.le_refl _) _
  have E6 := (E5.below hb12).below o6
  have F6 := (F5.below hb12).below o6
  have G6 := Blk3.new w6 28 (.string ByteArray.empty) (.int .i64 0) (.slice A6 0 c6)
  have hx6 := (hx5.below hb12 (Nat.le_refl _)).below o6 (Nat.le_refl _)
  have ha6 := (ha5.below hb12 (Nat.le_refl _)).below o6 (Nat.le_refl _)
  have hb13 := bj (bj hb11 hb12) o6
  clear E5 F5 hx5 ha5 hu6 hb11 hb12 o6 HG2
  go_wp2_with fail
  refine (HG3.out _).mono ?_
  rintro e w7 ⟨u3, rfl, hu7, hb14⟩
  obtain ⟨A7, c7, rfl⟩ := hu7.form
  have o7 : Below w7.heap.size w7 (w7.alloc (.cells #[.string S3, .int .i64 F3, .slice A7 L3.length c7] 28)) := (Below.refl _ _).alloc (Nat.le_refl _) _
  have E7 := E6.below hb14
  have F7 := F6.below hb14
  have G7 := G6.below hb14
  have E8 := E7.below o7
  have F8 := F7.below o7
  have G8 := G7.below o7
  have H8 := Blk3.new w7 28 (.string S3) (.int .i64 F3) (.slice A7 L3.length c7)
  have hx8 := (hx6.below hb14 (Nat.le_refl _)).below o7 (Nat.le_refl _)
  have ha8 := (ha6.below hb14 (Nat.le_refl _)).below o7 (Nat.le_refl _)
  have hc8 := hu7.below o7 (Nat.le_refl _)
  have hb15 := bj (bj hb13 hb14) o7
  have HMA := Lib.hid (HM1.out _ _ _ ha8 hx8)
  have HA8 := Lib.hid (And.intro ha8 hc8)
  obtain ⟨e0, e1, e2, _, _, _, el⟩ := E7.facts
  obtain ⟨f0, f1, f2, _, _, _, fl⟩ := F7.facts
  clear E6 F6 G6 hx6 ha6 hu7 hb13 hb14 o7 HG3 E7 F7 G7 E8 hx8 ha8 hc8 HM1
  go_wp2_with fail
  refine HMA.out.mono ?_
  rintro e w8 ⟨rfl, hb16⟩
  have F9 := F8.below hb16
  have G9 := G8.below hb16
  have H9 := H8.below hb16
  have ha9 := HA8.out.1.below hb16 (Nat.le_refl _)
  have hc9 := HA8.out.2.below hb16 (Nat.le_refl _)
  have hb17 := bj hb15 hb16
  clear e0 e1 e2 f0 f1 f2 F8 G8 H8 HA8 HMA hb15 hb16
  obtain ⟨g0, g1, g2, _, _, _, gl⟩ := G9.facts
  have HMB := Lib.hid (HM2.out w8 (.slice A6 0 c6) (Or.inl ⟨rfl, _, _, rfl⟩))
  have HA9 := Lib.hid (And.intro ha9 hc9)
  clear ha9 hc9 HM2
  go_wp2_with fail
  refine HMB.out.mono ?_
  rintro e w9 ⟨rfl, hb18⟩
  have hb19 := bj hb17 hb18
  obtain ⟨f0, f1, f2, _, _, _, fl⟩ := (F9.below hb18).facts
  obtain ⟨h0, h1, h2, _, _, _, hhl⟩ := (H9.below hb18).facts
  have HMC := Lib.hid (HM3.out w9 _ _ (HA9.out.2.below hb18 (Nat.le_refl _)) (HA9.out.1.below hb18 (Nat.le_refl _)))
  clear F9 G9 H9 HA9 HMB HM3 hb17 hb18 g0 g1 g2
  go_wp2_with fail
  refine HMC.out.mono ?_
  rintro e w10 ⟨rfl, hb20⟩
  go_wp2_with fail
  refine (batched_true api _).mono ?_
  rintro e w11 ⟨rfl, hb21⟩
  go_wp2
  go_ret
  exact ⟨rfl, bj hb19 (bj hb20 hb21)⟩

/-- BatchesBack. -/
theorem bback_walk (api : BatApi) (s : ByteArray) (f : Int) (v : Value) (l : List RawS) (B : ByteArray) (a : Nat) (w : World) (hs : s.size ≤ maxLen) (hf : (Lit.int .i64 f).wf = true) (h : RawsIn w v l) (hok : ∀ x ∈ l, RawOk x) (hB : B.size ≤ maxLen) (ha : a < 65536) :
    Calls Try.prog 5 #[batV s f v, .string B, .int .u16 (a : Nat)] w fun e w' => e = .returned (.bool true) ∧ Below w.heap.size w w' := by
  by_cases hg : bgrt s l = true ∨ 100 < B.size
  · exact bback_great api s f v l B a w hs hB h hok hg
  · have hg' : bgrt s l = false := by
      cases e : bgrt s l with
      | true => exact absurd (Or.inl e) hg
      | false => rfl
    have hB' : B.size ≤ 100 := by
      have : ¬ 100 < B.size := fun h => hg (Or.inr h)
      omega
    by_cases hc : bchk s f l = 0
    · have hb : ∀ x ∈ l, x.b < 18446744073709551616 := fun x hx => (hok x hx).b
      by_cases h0 : B.size = 0
      · have hB0 : B = ByteArray.empty := ByteArray.ext (Array.eq_empty_of_size_eq_zero h0)
        subst hB0
        obtain ⟨x1, x2, x3, x4⟩ := bg_back hc hb
        have xe := (bg_yes x1).2.2.2.1
        exact bback_yes api s f v l _ a w hs hB' h hok hg' hf ha hc true s f l 0 (by rw [ByteArray.append_empty]; exact ⟨x2, x3, x4, xe⟩) rfl (by rw [Lib.toList_data]; rfl) (bEq_self _ _ _)
      · obtain ⟨y1, y2, y3, y4⟩ := bg_no (bg_more hc hb B h0)
        refine bback_yes api s f v l B a w hs hB' h hok hg' hf ha hc false _ _ _ _ ⟨y1, y2, y3, y4⟩ rfl ?_ ?_
        · rw [beq_eq_false_iff_ne]
          intro e
          rw [Lib.toList_data] at e
          have := congrArg List.length e
          rw [data_len] at this
          exact h0 this
        · unfold bEq
          have := (bchk_zero.1 hc).1
          rw [decide_eq_false (fun e => by rw [← e] at this; simp at this)]
          rfl
    · exact bback_no api s f v l B a w hs hB' h hok hg' hf hc
end Go.Proofs.Ytnefofcofccmfaa
