/- A sum's step as the model runs it; lists' sums and ends: the document's. -/
import Derived.Test.YtlabddbpjdndoaaFloats
namespace Go.Proofs.Ytlabddbpjdndoaa
open Go.RowKit
set_option linter.unusedVariables false

/-- A word that stands for a sum; none: it is no number, whichever. -/
def okF : Option Nat → Nat → Prop
  | none, r => r < 18446744073709551616 ∧ nanB r = true
  | some b, r => r < 18446744073709551616 ∧ r = b
theorem okF_lt {o : Option Nat} {r : Nat} (h : okF o r) : r < 18446744073709551616 := by cases o <;> exact h.1

theorem nan_cut (x y n : Nat) : (Question.nanBits .f64 x y).cut n < 18446744073709551616 ∧ nanB ((Question.nanBits .f64 x y).cut n) = true := by
  have e : (Question.nanBits .f64 x y).cut n = (n % 2) * 9223372036854775808 + 9218868437227405312 + 1 + (n / 2) % 4503599627370495 := rfl
  rw [e]
  have h1 : n % 2 < 2 := Nat.mod_lt _ (by decide)
  have h2 : (n / 2) % 4503599627370495 < 4503599627370495 := Nat.mod_lt _ (by decide)
  generalize n % 2 = i at *
  generalize (n / 2) % 4503599627370495 = f at *
  have h3 : i = 0 ∨ i = 1 := by omega
  rcases h3 with rfl | rfl
  · exact ⟨by omega, nan_yes (by omega)⟩
  · exact ⟨by omega, nan_yes (by omega)⟩
theorem add_run (t : TypeId) (o : Option Nat) (s x : Nat) (hs : okF o s) (hx : x < 18446744073709551616) (w : World) :
    ∃ r w', (binOp .add t (.float .f64 s) (.float .f64 x)).run Try.prog w = .ok (.float .f64 r) w' ∧ (w' = w ∨ w' = w.drew) ∧ okF (addO o x) r := by
  have hlt := okF_lt hs
  cases e : Ieee.double.add s x with
  | some r =>
    refine ⟨r, w, run_float_arith w .add t .f64 s x r e, Or.inl rfl, ?_⟩
    cases o with
    | none => rw [add_nan hlt hx (Or.inl hs.2)] at e; cases e
    | some b =>
      obtain ⟨_, rfl⟩ := hs
      show okF (Ieee.double.add s x) r
      rw [e]
      exact ⟨add_word e, rfl⟩
  | none =>
    refine ⟨(Question.nanBits .f64 s x).cut (w.tape w.drawn (Question.nanBits .f64 s x)), w.drew, ?_, Or.inr rfl, ?_⟩
    · have e' : FloatKind.f64.format.add s x = none := e
      simp only [binOp, Op.floatArith, e']
      rfl
    · have h : addO o x = none := by
        cases o with
        | none => rfl
        | some b => obtain ⟨_, rfl⟩ := hs; exact e
      rw [h]
      exact nan_cut s x _

theorem sum_ref (v : Value) (l : List Nat) (w : World) (h : RowOf f64V w v l) (hl : l.length ≤ 1000) (hw : Words l) :
    Calls Try.prog 25 #[v] w fun e w' => ∃ r, e = .returned (.float .f64 r) ∧ okF (sumO l) r ∧ Below w.heap.size w w' := by
  rcases h with ⟨rfl, a, cap, rfl⟩ | ⟨h0, b, off, cap, rfl, hcap, hb, hc⟩
  · go_enter Try.func25, Try.ntmps25
    go_wp2
    refine wp_loop_rounds 1 ?_
    rw [rounds_succ]
    go_wp2
    go_ret
    exact ⟨_, rfl, ⟨by decide, rfl⟩, Below.refl _ _⟩
  · go_enter Try.func25, Try.ntmps25
    go_wp2
    go_loopw [3, 4] (fun u i wr => ∃ k r : Nat, k ≤ l.length ∧ i = .int .i64 k ∧ u = .float .f64 r ∧ okF (sumO (l.take k)) r ∧ Below w.heap.size w wr) (fun _ i _ => l.length - (intOf i).toNat)
    case atStart => exact ⟨0, 0, Nat.zero_le _, rfl, rfl, ⟨by decide, rfl⟩, Below.refl _ _⟩
    case round =>
      obtain ⟨k, r, hk, rfl, rfl, hok, hbel⟩ := hrel
      by_cases hlt : k < l.length
      · have hcy : wr.cell? ⟨b, off + k, none⟩ = some (.float .f64 (l.getD k 0)) := (hbel.cell (p := ⟨b, off + k, none⟩) hb).trans (hc k hlt)
        have Htk := Lib.hid (sumO_snoc (l.take k) (l.getD k 0))
        rw [← take_next l k hlt] at Htk
        have hx := words_at hw k
        generalize l.getD k 0 = x at *
        obtain ⟨r2, w2, hr2, hw2, hok2⟩ := add_run 23 (sumO (l.take k)) r x hok hx wr
        rw [← Htk.out] at hok2
        have s1 : (k : Int) < (l.length : Int) := by omega
        clear hok hx
        have Hok := Lib.hid hok2
        have Hw2 := Lib.hid hw2
        clear hok2 hw2
        go_wp2
        go_roundw
        case rel =>
          refine ⟨k + 1, r2, by omega, by go_num, rfl, Hok.out, ?_⟩
          rcases Hw2.out with rfl | rfl
          · exact hbel
          · exact hbel.drew
        case measure => simp [intOf]; omega
      · obtain rfl : k = l.length := by omega
        have s1 : ¬ (l.length : Int) < (l.length : Int) := by omega
        rw [List.take_length] at hok
        go_wp2
        go_ret
        exact ⟨_, rfl, hok, hbel⟩
end Go.Proofs.Ytlabddbpjdndoaa
