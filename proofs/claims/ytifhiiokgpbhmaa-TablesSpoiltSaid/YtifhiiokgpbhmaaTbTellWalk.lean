/- 'TablesTell': the walk. -/
import Derived.Test.YtifhiiokgpbhmaaTbEx
import Derived.Test.YtifhiiokgpbhmaaTbSame
import Derived.Test.YtifhiiokgpbhmaaTbGetRef
namespace Go.Proofs.Ytifhiiokgpbhmaa
open Go.RowKit Go.Shelf
set_option linter.unusedVariables false

theorem tgL_length (s : ByteArray) : (tgL s).length ≤ s.size := by
  cases e : tgOk s with
  | false => rw [(tg_no e).1]; exact Nat.zero_le _
  | true =>
    have h := (tgOk_iff.1 e).2.2.2.1
    rw [(tg_yes e).1, tbGot_length]
    omega
theorem tsame_kept {q : Bool} {va vb : Value} {a b : List EntS} {w : World} (ha : EntsIn w va a) (hb : EntsIn w vb b) (hm : a.length ≤ 1000000) (hk : b.length ≤ 1000000) (hq : decide (a = b) = q) :
    Calls Try.prog 12 #[va, vb] w fun e w' => e = .returned (.bool q) ∧ Below w.heap.size w w' := by
  rw [← hq]
  exact (tsame_any va vb a b w ha hb hm hk).mono fun e w' ⟨he, k, hk⟩ => ⟨he, by rw [hk]; exact below_drewN (Below.refl _ _) k⟩
namespace tablesTell
theorem walk_long (w : World) (v : Value) (l : List EntS) (s : ByteArray) (n : Int) (hl : EntsIn w v l) (hs : s.size ≤ maxLen) (h : 100 < l.length ∨ 3000 < s.size) :
    Calls Try.prog 3 #[v, .string s, .int .i64 n] w fun e w' => e = .returned (.bool true) ∧ Below w.heap.size w w' := by
  have HL := Lib.hid (tlaid_true w)
  obtain ⟨A, off, cap, rfl, hm, -⟩ := hl.form
  clear hl
  unfold maxLen at hs hm
  by_cases h1 : 100 < l.length
  · have t1 : (100 : Int) < (l.length : Int) := by omega
    clear h
    generalize l.length = k at *
    go_enter Try.func3, Try.ntmps3
    go_wp2_with fail
    refine HL.out.mono ?_
    rintro e w1 ⟨rfl, hb1⟩
    go_wp2
    go_ret
    exact ⟨rfl, hb1⟩
  · have t0 : 3000 < s.size := by omega
    have t1 : ¬ (100 : Int) < (l.length : Int) := by omega
    have t2 : decide ((100 : Int) < (l.length : Int)) = false := decide_eq_false (by omega)
    have t3 : (3000 : Int) < (s.size : Int) := by omega
    clear h
    generalize l.length = k at *
    go_enter Try.func3, Try.ntmps3
    go_wp2_with fail
    refine HL.out.mono ?_
    rintro e w1 ⟨rfl, hb1⟩
    go_wp2
    go_ret
    exact ⟨rfl, hb1⟩
set_option maxHeartbeats 2000000 in
set_option maxRecDepth 100000 in
theorem walk_short (w : World) (v : Value) (l : List EntS) (s : ByteArray) (n : Int) (hl : EntsIn w v l) (hx : ∀ x ∈ l, EntOk x) (h1 : l.length ≤ 100) (h2 : s.size ≤ 3000) :
    Calls Try.prog 3 #[v, .string s, .int .i64 n] w fun e w' => e = .returned (.bool true) ∧ Below w.heap.size w w' := by
  have HP := Lib.hid (tput_any v l w hl (by omega) hx)
  have HR := Lib.hid (fun W (hW : Below w.heap.size w W) => tputr_any v l W (hl.below hW (Nat.le_refl _)) (by omega) hx)
  have HG := Lib.hid (fun W => tget_any s W (by omega))
  have HH := Lib.hid (fun W => tgetr_any s W (by omega))
  have HL := Lib.hid (fun W => tlaid_true W)
  have HS := Lib.hid (fun W => tsize_any n W)
  have HT := Lib.hid (fun W => tsizer_any n W)
  have HA := Lib.hid (fun W => tat_any n W)
  have hML := tgL_length s
  have HML := Lib.hid hML
  obtain ⟨A, off, cap, rfl, -, -⟩ := hl.form
  have t1 : ¬ (100 : Int) < (l.length : Int) := by omega
  have t2 : decide ((100 : Int) < (l.length : Int)) = false := decide_eq_false (by omega)
  have t3 : ¬ (3000 : Int) < (s.size : Int) := by omega
  have t4 : decide ((3000 : Int) < (s.size : Int)) = false := decide_eq_false (by omega)
  have H1 := Lib.hid h1
  have H2 := Lib.hid h2
  clear hl hx hML h1 h2
  unfold TbEnd at HP HR
  unfold TgEnd at HG HH
  have e1 : ((tbS l).toList == (tbS l).toList) = true := beq_self_eq_true _
  have e2 : (tbE l == tbE l) = true := beq_self_eq_true _
  have e3 : (tgE s == tgE s) = true := beq_self_eq_true _
  generalize tbS l = P at *
  generalize tbE l = E at *
  generalize tgE s = G at *
  generalize tgL s = M at *
  generalize l.length = k at *
  have hz : (tbSz n = 0 ∧ tbAt n = 0) ∨ ∃ z : Nat, tbSz n = (z : Nat) ∧ 12 ≤ z ∧ z ≤ 3000000000 ∧ tbAt n = (z : Int) - 4 := by
    by_cases h : n < 0 ∨ 89478484 < n
    · exact Or.inl (tbSz_no h)
    · obtain ⟨g1, g2⟩ := tbSz_yes h
      exact Or.inr ⟨(12 + 24 * n).toNat, by rw [g1]; omega, by omega, by omega, by rw [g2]; omega⟩
  rcases hz with ⟨z1, z2⟩ | ⟨z, z1, z2, z3, z4⟩
  · rw [z1] at HS HT
    rw [z2] at HA
    clear z1 z2
    go_enter Try.func3, Try.ntmps3
    go_wp2_with fail
    refine HP.out.mono ?_
    rintro e w1 ⟨rfl, hb1⟩
    go_wp2_with fail
    refine (HR.out _ hb1).mono ?_
    rintro e w2 ⟨rfl, hb2⟩
    have hb3 := bj hb1 hb2
    go_wp2_with fail
    refine (HG.out _).mono ?_
    rintro e w3 ⟨A3, c3, rfl, r3, hb4⟩
    go_wp2_with fail
    refine (HH.out _).mono ?_
    rintro e w4 ⟨A4, c4, rfl, r4, hb5⟩
    have HSame := Lib.hid (tsame_kept (q := true) ((EntRow.in_ r3).below hb5 (Nat.le_refl _)) (EntRow.in_ r4) (by have := HML.out; have := H2.out; omega) (by have := HML.out; have := H2.out; omega) (decide_eq_true rfl))
    have HB := Lib.hid (bj (bj hb3 hb4) hb5)
    clear r3 r4 hb1 hb2 hb3 hb4 hb5 HP HR HG HH
    generalize M.length = ml at *
    go_wp2_with fail
    refine (HT.out _).mono ?_
    rintro e w5 ⟨rfl, rfl⟩
    go_wp2_with fail
    refine HSame.out.mono ?_
    rintro e w6 ⟨rfl, hb6⟩
    go_wp2_with fail
    refine (HS.out _).mono ?_
    rintro e w7 ⟨rfl, rfl⟩
    go_wp2_with fail
    refine (HT.out _).mono ?_
    rintro e w7 ⟨rfl, rfl⟩
    go_wp2_with fail
    refine (HA.out _).mono ?_
    rintro e w7 ⟨rfl, rfl⟩
    go_wp2_with fail
    refine (HL.out _).mono ?_
    rintro e w7 ⟨rfl, hb7⟩
    go_wp2
    go_ret
    exact ⟨rfl, bj (bj HB.out hb6) hb7⟩
  · obtain ⟨y, hy⟩ : ∃ y : Nat, z = y + 4 := ⟨z - 4, by omega⟩
    have hy2 : (z : Int) - 4 = (y : Int) := by omega
    rw [z1] at HS HT
    rw [z4, hy2] at HA
    have q1 : (0 : Int) < (z : Int) := by omega
    have q2 : IntKind.i64.wrap ((z : Int) - 4) = (y : Int) := by rw [hy2]; exact IntWalk.i64_in _ ⟨by omega, by omega⟩
    have q3 : 0 < z := by omega
    clear z1 z4 z2 z3 hy hy2
    go_enter Try.func3, Try.ntmps3
    go_wp2_with fail
    refine HP.out.mono ?_
    rintro e w1 ⟨rfl, hb1⟩
    go_wp2_with fail
    refine (HR.out _ hb1).mono ?_
    rintro e w2 ⟨rfl, hb2⟩
    have hb3 := bj hb1 hb2
    go_wp2_with fail
    refine (HG.out _).mono ?_
    rintro e w3 ⟨A3, c3, rfl, r3, hb4⟩
    go_wp2_with fail
    refine (HH.out _).mono ?_
    rintro e w4 ⟨A4, c4, rfl, r4, hb5⟩
    have HSame := Lib.hid (tsame_kept (q := true) ((EntRow.in_ r3).below hb5 (Nat.le_refl _)) (EntRow.in_ r4) (by have := HML.out; have := H2.out; omega) (by have := HML.out; have := H2.out; omega) (decide_eq_true rfl))
    have HB := Lib.hid (bj (bj hb3 hb4) hb5)
    clear r3 r4 hb1 hb2 hb3 hb4 hb5 HP HR HG HH
    generalize M.length = ml at *
    go_wp2_with fail
    refine (HT.out _).mono ?_
    rintro e w5 ⟨rfl, rfl⟩
    go_wp2_with fail
    refine (HT.out _).mono ?_
    rintro e w5 ⟨rfl, rfl⟩
    go_wp2_with fail
    refine HSame.out.mono ?_
    rintro e w6 ⟨rfl, hb6⟩
    go_wp2_with fail
    refine (HS.out _).mono ?_
    rintro e w7 ⟨rfl, rfl⟩
    go_wp2_with fail
    refine (HT.out _).mono ?_
    rintro e w7 ⟨rfl, rfl⟩
    go_wp2_with fail
    refine (HA.out _).mono ?_
    rintro e w7 ⟨rfl, rfl⟩
    go_wp2_with fail
    refine (HL.out _).mono ?_
    rintro e w7 ⟨rfl, hb7⟩
    go_wp2
    go_ret
    exact ⟨rfl, bj (bj HB.out hb6) hb7⟩
theorem walk (w : World) (v : Value) (l : List EntS) (s : ByteArray) (n : Int) (hl : EntsIn w v l) (hx : ∀ x ∈ l, EntOk x) (hs : s.size ≤ maxLen) (hn : (Lit.int .i64 n).wf = true) :
    Calls Try.prog 3 #[v, .string s, .int .i64 n] w fun e w' => e = .returned (.bool true) ∧ Below w.heap.size w w' := by
  by_cases h : 100 < l.length ∨ 3000 < s.size
  · exact walk_long w v l s n hl hs h
  · exact walk_short w v l s n hl hx (by omega) (by omega)
end tablesTell
end Go.Proofs.Ytifhiiokgpbhmaa
