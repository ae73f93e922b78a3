/- The program's Check of batches. -/
import Derived.Test.YtnefofcofccmfaaBatCheckRef
import Derived.WalkMore
namespace Go.Proofs.Ytnefofcofccmfaa
open Go.RowKit
set_option linter.unusedVariables false
attribute [local go_sem] run_store_float

set_option maxHeartbeats 1600000 in
set_option maxRecDepth 100000 in
/-- What is wrong with the first event with which something is. -/
theorem checkev_any (p po c : Nat) (l : List RawS) (w : World) (hl2 : l.length ≤ 300) (hx : ∀ x ∈ l, EvSz x) (hp : p < w.heap.size)
    (ca : ∀ i x, l[i]? = some x → w.cell? ⟨p, po + i * 3, none⟩ = some (.string x.t) ∧ w.cell? ⟨p, po + i * 3 + 1, none⟩ = some (.string x.d) ∧ w.cell? ⟨p, po + i * 3 + 2, none⟩ = some (.float .f64 x.b)) :
    Calls Try.prog 29 #[.slice (some ⟨p, po, none⟩) l.length c] w fun e w' => e = .returned (.int .i64 (lchk l)) ∧ Below w.heap.size w w' := by
  have Hat := Lib.hid (fun (k : Nat) (x : RawS) h1 h2 h3 => lchk_at (l := l) (k := k) (x := x) h1 h2 h3)
  have Hall := Lib.hid (fun (k : Nat) h1 h2 => lchk_all (l := l) (k := k) h1 h2)
  generalize lchk l = r at *
  go_enter Try.func29, Try.ntmps29
  go_wp2
  go_step3
  go_wp2
  go_step3
  go_wp2
  go_loopw [2, 7] (fun e i wr => ∃ k : Nat, k ≤ l.length ∧ i = .int .i64 k ∧ e = .int .i64 0 ∧ (∀ (i : Nat) (x : RawS), i < k → l[i]? = some x → echk x = 0) ∧ Below w.heap.size w wr) (fun _ i _ => l.length - (intOf i).toNat)
  case atStart => exact ⟨0, Nat.zero_le _, rfl, rfl, fun i x h => absurd h (by omega), Below.refl _ _⟩
  case round =>
    obtain ⟨k, hk, rfl, rfl, hall, hbel⟩ := hrel
    have HA := Lib.hid hall
    clear hall
    by_cases hlt : k < l.length
    · obtain ⟨x, hx0⟩ : ∃ x, l[k]? = some x := ⟨l[k], List.getElem?_eq_getElem hlt⟩
      obtain ⟨a0, a1, a2⟩ := ca k x hx0
      have wx := hx x (List.mem_of_getElem? hx0)
      have HC := Lib.hid fun W => check_any x.t x.d x.b W (by have := wx.t; unfold maxLen; omega) (by have := wx.d; unfold maxLen; omega)
      have HX := Lib.hid hx0
      have HQ := Lib.hid (show echk x = chk x.t x.d from rfl)
      have k0 := keep_cell hbel hp a0
      have k1 := keep_cell hbel hp a1
      have k2 := keep_cell hbel hp a2
      clear hx0 a0 a1 a2 wx ca hx
      have hcs := chk_cases x.t x.d
      generalize chk x.t x.d = o at *
      have s1 : (k : Int) < (l.length : Int) := by omega
      by_cases ho : o = 0
      · subst ho
        have HQ' := HQ.out
        have HN : ∀ (i : Nat) (y : RawS), i < k + 1 → l[i]? = some y → echk y = 0 := fun i y hi hy => by
          by_cases e : i = k
          · subst e
            rw [HX.out] at hy
            cases hy
            exact HQ'
          · exact HA.out i y (by omega) hy
        have HN' := Lib.hid HN
        clear HN HQ'
        obtain ⟨t, d, n⟩ := x
        simp only at k0 k1 k2 HC
        clear HQ HX hcs
        go_wp2_with fail
        refine (HC.out _).mono ?_
        rintro e w1 ⟨rfl, hb1⟩
        have hbel1 : Below w.heap.size w w1 := bj (hbel.alloc hbel.size _) hb1
        clear hbel hb1 k0 k1 k2
        go_wp2
        go_roundw
        case rel => exact ⟨k + 1, by omega, by go_num, rfl, HN'.out, hbel1⟩
        case measure => simp [intOf]; omega
      · have hr := Hat.out k x HA.out HX.out (by rw [HQ.out]; exact ho)
        rw [HQ.out] at hr
        have e1 : ((o : Int) != 0) = true := by simp; exact ho
        subst hr
        clear hcs ho
        obtain ⟨t, d, n⟩ := x
        simp only at k0 k1 k2 HC
        clear HQ HX
        go_wp2_with fail
        refine (HC.out _).mono ?_
        rintro e w1 ⟨rfl, hb1⟩
        have hbel1 : Below w.heap.size w w1 := bj (hbel.alloc hbel.size _) hb1
        clear hbel hb1 k0 k1 k2
        go_wp2
        (try rw [Exit.noGoto_ret])
        go_ret
        exact ⟨rfl, hbel1⟩
    · obtain rfl : k = l.length := by omega
      have s1 : ¬ (l.length : Int) < (l.length : Int) := by omega
      have hr := Hall.out _ HA.out (Nat.le_refl _)
      subst hr
      go_wp2
      (try rw [Exit.noGoto_ret])
      go_ret
      exact ⟨rfl, hbel⟩
theorem bcheckp_no (s : ByteArray) (f : Int) (A : Option Addr) (n c : Nat) (r : Int) (w : World) (hs : s.size ≤ 100000) (hf : (Lit.int .i64 f).wf = true) (hn : n ≤ 300)
    (h : ((s.size = 0 ∨ n = 0) ∧ r = 2) ∨ (¬ (s.size = 0 ∨ n = 0) ∧ (32 < s.size ∨ 8 < n) ∧ r = 3) ∨ (¬ (s.size = 0 ∨ n = 0) ∧ ¬ (32 < s.size ∨ 8 < n) ∧ (f < 0 ∨ 1073741824 - (n : Int) < f) ∧ r = 2)) :
    Calls Try.prog 13 #[batV s f (.slice A n c)] w fun e w' => e = .returned (.int .i64 r) ∧ Below w.heap.size w w' := by
  have hb := bounds_i64 hf
  unfold batV
  by_cases h0 : s.size = 0
  · have r2 : r = 2 := by omega
    subst r2
    have t0 : ((s.size : Int) == 0) = true := beq_iff_eq.2 (by omega)
    clear h
    go_enter Try.func13, Try.ntmps13
    go_wp2
    go_ret
    exact ⟨rfl, (Below.refl _ _).alloc (Nat.le_refl _) _⟩
  · have t0 : ((s.size : Int) == 0) = false := beq_eq_false_iff_ne.2 (by omega)
    by_cases h1 : n = 0
    · have r2 : r = 2 := by omega
      subst r2
      have t1 : ((n : Int) == 0) = true := beq_iff_eq.2 (by omega)
      clear h h0 h1
      go_enter Try.func13, Try.ntmps13
      go_wp2
      go_ret
      exact ⟨rfl, (Below.refl _ _).alloc (Nat.le_refl _) _⟩
    · have t1 : ((n : Int) == 0) = false := beq_eq_false_iff_ne.2 (by omega)
      by_cases h2 : 32 < s.size
      · have r2 : r = 3 := by omega
        subst r2
        have t2 : decide ((32 : Int) < (s.size : Int)) = true := decide_eq_true (by omega)
        clear h h0 h1
        go_enter Try.func13, Try.ntmps13
        go_wp2
        go_ret
        exact ⟨rfl, (Below.refl _ _).alloc (Nat.le_refl _) _⟩
      · have t2 : decide ((32 : Int) < (s.size : Int)) = false := decide_eq_false (by omega)
        by_cases h3 : 8 < n
        · have r2 : r = 3 := by omega
          subst r2
          have t3 : decide ((8 : Int) < (n : Int)) = true := decide_eq_true (by omega)
          clear h h0 h1
          go_enter Try.func13, Try.ntmps13
          go_wp2
          go_ret
          exact ⟨rfl, (Below.refl _ _).alloc (Nat.le_refl _) _⟩
        · have t3 : decide ((8 : Int) < (n : Int)) = false := decide_eq_false (by omega)
          have r2 : r = 2 := by omega
          subst r2
          by_cases h4 : f < 0
          · have t4 : decide (f < 0) = true := decide_eq_true h4
            clear h h0 h1
            go_enter Try.func13, Try.ntmps13
            go_wp2
            go_ret
            exact ⟨rfl, (Below.refl _ _).alloc (Nat.le_refl _) _⟩
          · have t4 : decide (f < 0) = false := decide_eq_false h4
            have t5 : decide ((1073741824 : Int) - (n : Int) < f) = true := decide_eq_true (by omega)
            clear h h0 h1
            go_enter Try.func13, Try.ntmps13
            go_wp2
            go_ret
            exact ⟨rfl, (Below.refl _ _).alloc (Nat.le_refl _) _⟩

set_option maxHeartbeats 1600000 in
set_option maxRecDepth 100000 in
theorem bcheckp_evs (s : ByteArray) (f : Int) (p po c : Nat) (l : List RawS) (w : World) (hs : 1 ≤ s.size) (hs2 : s.size ≤ 32) (hl : 1 ≤ l.length) (hl2 : l.length ≤ 8) (hf : 0 ≤ f) (hf2 : f ≤ 1073741824 - (l.length : Int)) (hx : ∀ x ∈ l, EvSz x) (hp : p < w.heap.size)
    (ca : ∀ i x, l[i]? = some x → w.cell? ⟨p, po + i * 3, none⟩ = some (.string x.t) ∧ w.cell? ⟨p, po + i * 3 + 1, none⟩ = some (.string x.d) ∧ w.cell? ⟨p, po + i * 3 + 2, none⟩ = some (.float .f64 x.b)) :
    Calls Try.prog 13 #[batV s f (.slice (some ⟨p, po, none⟩) l.length c)] w fun e w' => e = .returned (.int .i64 (lchk l)) ∧ Below w.heap.size w w' := by
  unfold batV
  have t0 : ((s.size : Int) == 0) = false := beq_eq_false_iff_ne.2 (by omega)
  have t1 : ((l.length : Int) == 0) = false := beq_eq_false_iff_ne.2 (by omega)
  have t2 : decide ((32 : Int) < (s.size : Int)) = false := decide_eq_false (by omega)
  have t3 : decide ((8 : Int) < (l.length : Int)) = false := decide_eq_false (by omega)
  have t4 : decide (f < 0) = false := decide_eq_false (by omega)
  have t5 : decide ((1073741824 : Int) - (l.length : Int) < f) = false := decide_eq_false (by omega)
  have hbel : Below w.heap.size w (w.alloc (.cells #[.string s, .int .i64 f, .slice (some ⟨p, po, none⟩) l.length c] 28)) := (Below.refl _ _).alloc (Nat.le_refl _) _
  have HE := Lib.hid (checkev_any p po c l (w.alloc (.cells #[.string s, .int .i64 f, .slice (some ⟨p, po, none⟩) l.length c] 28)) (by omega) hx (by simp; omega)
    (fun i x hx => ⟨keep_cell hbel hp (ca i x hx).1, keep_cell hbel hp (ca i x hx).2.1, keep_cell hbel hp (ca i x hx).2.2⟩))
  generalize lchk l = r at *
  clear ca hx
  go_enter Try.func13, Try.ntmps13
  go_wp2_with fail
  refine HE.out.mono ?_
  rintro e w1 ⟨rfl, hb1⟩
  go_wp2
  go_ret
  exact ⟨rfl, hbel.trans (hb1.mono (by simp))⟩

/-- The program's Check. -/
theorem bcheck_any (s : ByteArray) (f : Int) (v : Value) (l : List RawS) (w : World) (h : BatIn w s f v l) :
    Calls Try.prog 13 #[batV s f v] w fun e w' => e = .returned (.int .i64 (bchk s f l)) ∧ Below w.heap.size w w' := by
  obtain ⟨A, c, rfl⟩ := h.v.form
  by_cases h1 : s.size = 0 ∨ l.length = 0
  · rw [bchk_arg h1]
    exact bcheckp_no s f A l.length c 2 w h.s h.f h.n (Or.inl ⟨h1, rfl⟩)
  · by_cases h2 : 32 < s.size ∨ 8 < l.length
    · rw [bchk_long h1 h2]
      exact bcheckp_no s f A l.length c 3 w h.s h.f h.n (Or.inr (Or.inl ⟨h1, h2, rfl⟩))
    · by_cases h3 : f < 0 ∨ 1073741824 - (l.length : Int) < f
      · rw [bchk_first h1 h2 h3]
        exact bcheckp_no s f A l.length c 2 w h.s h.f h.n (Or.inr (Or.inr ⟨h1, h2, h3, rfl⟩))
      · rw [bchk_evs h1 h2 h3]
        obtain ⟨p, po, rfl, hp, ca⟩ := h.v.pos (by omega)
        exact bcheckp_evs s f p po c l w (by omega) (by omega) (by omega) (by omega) (by omega) (by omega) h.x hp ca
end Go.Proofs.Ytnefofcofccmfaa
