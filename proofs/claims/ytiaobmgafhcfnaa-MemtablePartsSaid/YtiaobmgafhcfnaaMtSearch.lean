/- sort.Search: the first place from which on a question is true, by halves. -/
import Derived.Test.YtiaobmgafhcfnaaBase
import Derived.Shelf.Abstract
import Derived.WalkMore
namespace Go.Proofs.Ytiaobmgafhcfnaa
open Go.RowKit Go.Shelf
set_option linter.unusedVariables false

def AtEnd (K : Nat) (w : World) (e : Ending) (w' : World) : Prop := e = .returned (.int .i64 (K : Nat)) ∧ Below w.heap.size w w'
set_option maxHeartbeats 1000000 in
set_option maxRecDepth 100000 in
theorem ssearch_any (f : FuncId) (p1 p2 : Value) (n K : Nat) (w : World) (hn : n ≤ 1000000) (hKn : K ≤ n) (hE : Enters Try.prog f)
    (hc : ∀ (i : Nat) (W : World), i < n → Below w.heap.size w W → Calls Try.prog f #[.int .i64 (i : Nat), p1, p2] W fun e W' => e = .returned (.bool (decide (K ≤ i))) ∧ Below W.heap.size W W') :
    Calls Try.prog 28 #[.int .i64 (n : Nat), .func (.func f) #[] #[p1, p2]] w (AtEnd K w) := by
  have HC := Lib.hid hc
  unfold Enters at hE
  clear hc
  go_enter Try.func28, Try.ntmps28
  go_wp2
  go_loopw [5, 6] (fun lo hi wr => ∃ a b : Nat, a ≤ K ∧ K ≤ b ∧ b ≤ n ∧ lo = .int .i64 a ∧ hi = .int .i64 b ∧ Below w.heap.size w wr) (fun lo hi _ => (intOf hi).toNat - (intOf lo).toNat)
  case atStart => exact ⟨0, n, Nat.zero_le _, hKn, Nat.le_refl _, rfl, rfl, Below.refl _ _⟩
  case round =>
    obtain ⟨a, b, hak, hkb, hbn, rfl, rfl, hbel⟩ := hrel
    by_cases hlt : a < b
    · obtain ⟨d, hd⟩ : ∃ d, d = (a + b) / 2 := ⟨_, rfl⟩
      have hd1 : a ≤ d := by omega
      have hd2 : d < b := by omega
      have s1 : (a : Int) < (b : Int) := by omega
      have hm : ((a : Int) + (b : Int)) / 2 = (d : Int) := by omega
      have hdn : d < n := by omega
      have hd3 : (d : Int) ≤ 1000000 := by omega
      have hcl := HC.out d wr hdn hbel
      cases hq : decide (K ≤ d)
      all_goals
        rw [hq] at hcl
        have HCL := Lib.hid hcl
        have HQ := Lib.hid hq
        have HD := Lib.hid hd
        clear hq hcl hd
        go_wp2_with fail
        refine HCL.out.mono ?_
        rintro e w2 ⟨rfl, hb2⟩
        have hbel2 := bj hbel hb2
        clear hbel hb2
        go_wp2
        go_roundw
        case rel =>
          first
          | exact ⟨d + 1, b, by have := of_decide_eq_false HQ.out; omega, hkb, hbn, by go_num, rfl, hbel2⟩
          | exact ⟨a, d, hak, of_decide_eq_true HQ.out, by omega, rfl, by go_num, hbel2⟩
        case measure => simp [intOf]; omega
    · obtain rfl : a = b := by omega
      obtain rfl : a = K := by omega
      go_wp2
      go_ret
      exact ⟨rfl, hbel⟩
end Go.Proofs.Ytiaobmgafhcfnaa
