/- The ends of a list: the document's. -/
import Derived.Test.YtlabddbpjdndoaaFloatRun
import Derived.Deep.RegionWith
namespace Go.Proofs.Ytlabddbpjdndoaa
open Go.RowKit
set_option linter.unusedVariables false

/-- The lesser of two by their keys, the first one where they are alike. -/
def lessF (a x : Nat) : Nat := if keyS x < keyS a then x else a
def moreF (a x : Nat) : Nat := if keyS a < keyS x then x else a
/-- The ends of the first k, of a list that has some. -/
def leastK (l : List Nat) (k : Nat) : Nat := (l.take k).foldl lessF (l.getD 0 0)
def mostK (l : List Nat) (k : Nat) : Nat := (l.take k).foldl moreF (l.getD 0 0)
def leastL (l : List Nat) : Nat := leastK l l.length
def mostL (l : List Nat) : Nat := mostK l l.length
theorem leastK_next (l : List Nat) (k : Nat) (h : k < l.length) : leastK l (k + 1) = lessF (leastK l k) (l.getD k 0) := by
  unfold leastK
  rw [take_next l k h, List.foldl_append]
  rfl
theorem mostK_next (l : List Nat) (k : Nat) (h : k < l.length) : mostK l (k + 1) = moreF (mostK l k) (l.getD k 0) := by
  unfold mostK
  rw [take_next l k h, List.foldl_append]
  rfl

set_option maxHeartbeats 1000000 in
theorem ends_ref (v : Value) (l : List Nat) (w : World) (h : RowOf f64V w v l) (hl : l.length ≤ 1000) (hw : Words l) :
    Calls Try.prog 22 #[v] w fun e w' => e = .returned (if l = [] then .tuple #[.float .f64 0, .float .f64 0, .bool false] else .tuple #[.float .f64 (leastL l), .float .f64 (mostL l), .bool true]) ∧ Below w.heap.size w w' := by
  rcases h with ⟨rfl, a, cap, rfl⟩ | ⟨h0, b, off, cap, rfl, hcap, hb, hc⟩
  · rw [if_pos rfl]
    go_enter Try.func22, Try.ntmps22
    go_wp2
    go_ret3
    exact ⟨rfl, Below.refl _ _⟩
  · have hne : l ≠ [] := List.length_pos_iff.1 h0
    rw [if_neg hne]
    have e0 : ((l.length : Int) == 0) = false := beq_eq_false_iff_ne.2 (by omega)
    go_enter Try.func22, Try.ntmps22
    go_wp2
    go_loopw [5, 6, 7] (fun u v i wr => ∃ k p q : Nat, k ≤ l.length ∧ p < l.length ∧ q < l.length ∧ i = .int .i64 k ∧ u = .int .i64 p ∧ v = .int .i64 q ∧ l.getD p 0 = leastK l k ∧ l.getD q 0 = mostK l k ∧ Below w.heap.size w wr) (fun _ _ i _ => l.length - (intOf i).toNat)
    case atStart => exact ⟨0, 0, 0, Nat.zero_le _, h0, h0, rfl, rfl, rfl, rfl, rfl, Below.refl _ _⟩
    case round =>
      obtain ⟨k, p, q, hk, hp, hq, rfl, rfl, rfl, h1, h2, hbel⟩ := hrel
      by_cases hlt : k < l.length
      · have c1 : wr.cell? ⟨b, off + k, none⟩ = some (.float .f64 (l.getD k 0)) := (hbel.cell (p := ⟨b, off + k, none⟩) hb).trans (hc k hlt)
        have c2 : wr.cell? ⟨b, off + p, none⟩ = some (.float .f64 (leastK l k)) := h1 ▸ (hbel.cell (p := ⟨b, off + p, none⟩) hb).trans (hc p hp)
        have c3 : wr.cell? ⟨b, off + q, none⟩ = some (.float .f64 (mostK l k)) := h2 ▸ (hbel.cell (p := ⟨b, off + q, none⟩) hb).trans (hc q hq)
        have wx := words_at hw k
        have wa : leastK l k < 18446744073709551616 := h1 ▸ words_at hw p
        have wb : mostK l k < 18446744073709551616 := h2 ▸ words_at hw q
        have n1 := Lib.hid (leastK_next l k hlt)
        have n2 := Lib.hid (mostK_next l k hlt)
        have H1 := Lib.hid h1
        have H2 := Lib.hid h2
        have hxk := Lib.hid (show l.getD k 0 = l.getD k 0 from rfl)
        clear h1 h2 hc
        unfold lessF at n1
        unfold moreF at n2
        obtain ⟨x, hx⟩ : ∃ x, x = l.getD k 0 := ⟨_, rfl⟩
        rw [← hx] at c1 wx n1 n2
        have HX := Lib.hid hx
        clear hx hxk
        generalize leastK l k = s at *
        generalize mostK l k = t at *
        have k1 := Lib.hid (fun w => key_ref x w wx)
        have k2 := Lib.hid (fun w => key_ref s w wa)
        have k3 := Lib.hid (fun w => key_ref t w wb)
        clear wx wa wb
        generalize keyS x = kx at *
        generalize keyS s = ks at *
        generalize keyS t = kt at *
        have s1 : (k : Int) < (l.length : Int) := by omega
        have s2 : (p : Int) < (l.length : Int) := by omega
        have s3 : (q : Int) < (l.length : Int) := by omega
        obtain ⟨d1, ed1⟩ : ∃ d, decide ((kx : Int) < (ks : Int)) = d := ⟨_, rfl⟩
        obtain ⟨d2, ed2⟩ : ∃ d, decide ((kt : Int) < (kx : Int)) = d := ⟨_, rfl⟩
        have m1 := Lib.hid (show leastK l (k + 1) = if d1 then x else s by rw [n1.out, ← ed1]; simp)
        have m2 := Lib.hid (show mostK l (k + 1) = if d2 then x else t by rw [n2.out, ← ed2]; simp)
        have o1 : (d1 = true ∧ kx < ks) ∨ (d1 = false ∧ ks ≤ kx) := by
          rw [← ed1]; simp; omega
        have o2 : (d2 = true ∧ kt < kx) ∨ (d2 = false ∧ kx ≤ kt) := by
          rw [← ed2]; simp; omega
        clear n1 n2 ed1 ed2
        rcases o1 with ⟨rfl, o1⟩ | ⟨rfl, o1⟩ <;> rcases o2 with ⟨rfl, o2⟩ | ⟨rfl, o2⟩
        all_goals
          go_wp2_with fail
          go_quiet (first
            | (go_at_call_of 11 x; exact Calls.quiet_of_same ((k1.out _).mono fun _ _ h => ⟨h.1, h.2.symm⟩))
            | (go_at_call_of 11 s; exact Calls.quiet_of_same ((k2.out _).mono fun _ _ h => ⟨h.1, h.2.symm⟩)))
          rename_i nq _
          have c4 : (wr.drewN nq).cell? ⟨b, off + k, none⟩ = some (.float .f64 x) := c1
          have c5 : (wr.drewN nq).cell? ⟨b, off + q, none⟩ = some (.float .f64 t) := c3
          have hb4 := below_drewN hbel nq
          clear c1 c2 c3 hbel k2
          generalize wr.drewN nq = wq at *
          go_wp2_with fail
          go_quiet (first
            | (go_at_call_of 11 x; exact Calls.quiet_of_same ((k1.out _).mono fun _ _ h => ⟨h.1, h.2.symm⟩))
            | (go_at_call_of 11 t; exact Calls.quiet_of_same ((k3.out _).mono fun _ _ h => ⟨h.1, h.2.symm⟩)))
          go_wp2
          go_roundw
          case rel =>
            first
              | exact ⟨k + 1, p, q, by omega, hp, hq, by go_num, rfl, rfl, by rw [m1.out]; exact H1.out, by rw [m2.out]; exact H2.out, below_drewN hb4 _⟩
              | exact ⟨k + 1, p, k, by omega, hp, hlt, by go_num, rfl, rfl, by rw [m1.out]; exact H1.out, by rw [m2.out]; exact HX.out.symm, below_drewN hb4 _⟩
              | exact ⟨k + 1, k, q, by omega, hlt, hq, by go_num, rfl, rfl, by rw [m1.out]; exact HX.out.symm, by rw [m2.out]; exact H2.out, below_drewN hb4 _⟩
              | exact ⟨k + 1, k, k, by omega, hlt, hlt, by go_num, rfl, rfl, by rw [m1.out]; exact HX.out.symm, by rw [m2.out]; exact HX.out.symm, below_drewN hb4 _⟩
          case measure => simp [intOf]; omega
      · obtain rfl : k = l.length := by omega
        have s1 : ¬ (l.length : Int) < (l.length : Int) := by omega
        have c2 : wr.cell? ⟨b, off + p, none⟩ = some (.float .f64 (leastK l l.length)) := h1 ▸ (hbel.cell (p := ⟨b, off + p, none⟩) hb).trans (hc p hp)
        have c3 : wr.cell? ⟨b, off + q, none⟩ = some (.float .f64 (mostK l l.length)) := h2 ▸ (hbel.cell (p := ⟨b, off + q, none⟩) hb).trans (hc q hq)
        have s2 : (p : Int) < (l.length : Int) := by omega
        have s3 : (q : Int) < (l.length : Int) := by omega
        clear h1 h2 hc
        have HL := Lib.hid (show leastL l = leastK l l.length from rfl)
        have HM := Lib.hid (show mostL l = mostK l l.length from rfl)
        generalize leastK l l.length = s at *
        generalize mostK l l.length = t at *
        go_wp2_with fail
        go_quiet (fail)
        go_wp2
        go_ret3
        exact ⟨by rw [HL.out, HM.out]; rfl, below_drewN hbel _⟩
end Go.Proofs.Ytlabddbpjdndoaa
