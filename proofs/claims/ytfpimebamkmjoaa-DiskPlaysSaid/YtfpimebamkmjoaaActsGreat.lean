/- Great: acts that are more than is gone through. -/
import Derived.Test.YtfpimebamkmjoaaActs
namespace Go.Proofs.Ytfpimebamkmjoaa
open Go.RowKit
set_option linter.unusedVariables false

/-- An act that is not gone through. -/
def bigA (x : ActS) : Bool := decide (100 < x.name.size) || decide (100 < x.dest.size) || decide (3000 < x.text.size) || decide (100 < x.keep.length)
def greatS (l : List ActS) (most : Nat) : Bool := decide (most < l.length) || l.any bigA
theorem ActsIn.len {w : World} {v : Value} {l : List ActS} (h : ActsIn w v l) : ∃ A off cap, v = .slice A l.length cap ∧ l.length ≤ maxLen ∧
    ∀ i x, l[i]? = some x → ∃ b, A = some ⟨b, off, none⟩ ∧ w.cell? ⟨b, off + i * 7, none⟩ = some (.int .u8 (x.kind : Nat)) ∧ w.cell? ⟨b, off + i * 7 + 1, none⟩ = some (.string x.name) ∧ w.cell? ⟨b, off + i * 7 + 2, none⟩ = some (.string x.dest) ∧
      w.cell? ⟨b, off + i * 7 + 3, none⟩ = some (.string x.text) ∧ w.cell? ⟨b, off + i * 7 + 4, none⟩ = some (.int .i64 x.place) ∧ w.cell? ⟨b, off + i * 7 + 5, none⟩ = some (.int .i64 x.n) ∧ w.cell? ⟨b, off + i * 7 + 6, none⟩ = some x.keepV := by
  rcases h with ⟨rfl, a, c, rfl⟩ | ⟨b, off, cap, h1, h2, h3, h4, h5⟩
  · exact ⟨a, 0, c, rfl, Nat.zero_le _, fun i x h => by simp at h⟩
  · refine ⟨some ⟨b, off, none⟩, off, cap, h1, by omega, fun i x hx => ⟨b, rfl, ?_, ?_, ?_, ?_, ?_, ?_, ?_⟩⟩
    · exact h5 i x hx 0 _ rfl
    · rw [Nat.add_assoc]; exact h5 i x hx 1 _ rfl
    · rw [Nat.add_assoc]; exact h5 i x hx 2 _ rfl
    · rw [Nat.add_assoc]; exact h5 i x hx 3 _ rfl
    · rw [Nat.add_assoc]; exact h5 i x hx 4 _ rfl
    · rw [Nat.add_assoc]; exact h5 i x hx 5 _ rfl
    · rw [Nat.add_assoc]; exact h5 i x hx 6 _ rfl
theorem any_nextA (l : List ActS) (k : Nat) (x : ActS) (h : l[k]? = some x) (h0 : (l.take k).any bigA = false) (hx : bigA x = false) : (l.take (k + 1)).any bigA = false := by
  rw [List.take_add_one, h, List.any_append, h0]
  simp [hx]
theorem any_hitA (l : List ActS) (k : Nat) (x : ActS) (h : l[k]? = some x) (hx : bigA x = true) : l.any bigA = true := List.any_eq_true.2 ⟨x, List.mem_of_getElem? h, hx⟩

set_option maxHeartbeats 4000000 in
theorem great_any (v : Value) (l : List ActS) (most : Nat) (w : World) (hv : ActsIn w v l) (hok : ∀ x ∈ l, ActOk w x) (hm : most ≤ 1000) :
    Calls Try.prog 8 #[v, .int .i64 (most : Nat)] w fun e w' => e = .returned (.bool (greatS l most)) ∧ w = w' := by
  obtain ⟨A, off, cap, rfl, ml, hc⟩ := hv.len
  unfold maxLen at ml
  have HC := Lib.hid hc
  have HO := Lib.hid hok
  clear hv hc hok
  by_cases hl : most < l.length
  · have e : greatS l most = true := by unfold greatS; rw [decide_eq_true hl]; rfl
    rw [e]
    have t : decide ((most : Int) < (l.length : Int)) = true := decide_eq_true (by omega)
    have t2 : decide (most < l.length) = true := decide_eq_true hl
    clear e
    go_enter Try.func8, Try.ntmps8
    go_wp2
    go_ret
    exact ⟨rfl, rfl⟩
  have e : greatS l most = l.any bigA := by unfold greatS; rw [decide_eq_false hl]; rfl
  rw [e]
  have t : decide ((most : Int) < (l.length : Int)) = false := decide_eq_false (by omega)
  have t2 : decide (most < l.length) = false := decide_eq_false hl
  clear e
  go_enter Try.func8, Try.ntmps8
  go_wp2
  go_loop [5] (fun i => ∃ k : Nat, k ≤ l.length ∧ i = .int .i64 k ∧ (l.take k).any bigA = false) (fun i => l.length - (intOf i).toNat)
  case atStart => exact ⟨0, Nat.zero_le _, rfl, rfl⟩
  case round =>
    obtain ⟨k, hk, rfl, hall⟩ := hrel
    have HA := Lib.hid hall
    clear hall
    by_cases hlt : k < l.length
    · have l1 : (k : Int) < (l.length : Int) := by omega
      have hx : l[k]? = some l[k] := List.getElem?_eq_getElem hlt
      generalize l[k] = x at *
      obtain ⟨b, rfl, d0, d1, d2, d3, _, _, d6⟩ := HC.out k x hx
      have ok := HO.out x (List.mem_of_getElem? hx)
      obtain ⟨kA, ko, kc, hkv, mk, _⟩ := ok.keep.cell
      rw [hkv] at d6
      have m1 := ok.name
      have m2 := ok.dest
      have m3 := ok.text
      unfold maxLen at m1 m2 m3 mk
      have HX := Lib.hid hx
      have hcase : (100 < x.name.size) ∨ (x.name.size ≤ 100 ∧ 100 < x.dest.size) ∨ (x.name.size ≤ 100 ∧ x.dest.size ≤ 100 ∧ 3000 < x.text.size) ∨ (x.name.size ≤ 100 ∧ x.dest.size ≤ 100 ∧ x.text.size ≤ 3000 ∧ 100 < x.keep.length) ∨ (x.name.size ≤ 100 ∧ x.dest.size ≤ 100 ∧ x.text.size ≤ 3000 ∧ x.keep.length ≤ 100) := by omega
      have b1 : bigA x = (decide (100 < x.name.size) || decide (100 < x.dest.size) || decide (3000 < x.text.size) || decide (100 < x.keep.length)) := rfl
      clear hx ok hkv
      rcases hcase with q1 | ⟨q1, q2⟩ | ⟨q1, q2, q3⟩ | ⟨q1, q2, q3, q4⟩ | ⟨q1, q2, q3, q4⟩
      case' inl =>
        have HB := Lib.hid (any_hitA l k x HX.out (by rw [b1, decide_eq_true q1]; rfl))
        have r1 : decide ((100 : Int) < (x.name.size : Int)) = true := decide_eq_true (by omega)
      case' inr.inl =>
        have HB := Lib.hid (any_hitA l k x HX.out (by rw [b1, decide_eq_true q2]; simp))
        have r1 : decide ((100 : Int) < (x.name.size : Int)) = false := decide_eq_false (by omega)
        have r2 : decide ((100 : Int) < (x.dest.size : Int)) = true := decide_eq_true (by omega)
      case' inr.inr.inl =>
        have HB := Lib.hid (any_hitA l k x HX.out (by rw [b1, decide_eq_true q3]; simp))
        have r1 : decide ((100 : Int) < (x.name.size : Int)) = false := decide_eq_false (by omega)
        have r2 : decide ((100 : Int) < (x.dest.size : Int)) = false := decide_eq_false (by omega)
        have r3 : decide ((3000 : Int) < (x.text.size : Int)) = true := decide_eq_true (by omega)
      case' inr.inr.inr.inl =>
        have HB := Lib.hid (any_hitA l k x HX.out (by rw [b1, decide_eq_true q4]; simp))
        have r1 : decide ((100 : Int) < (x.name.size : Int)) = false := decide_eq_false (by omega)
        have r2 : decide ((100 : Int) < (x.dest.size : Int)) = false := decide_eq_false (by omega)
        have r3 : decide ((3000 : Int) < (x.text.size : Int)) = false := decide_eq_false (by omega)
        have r4 : decide ((100 : Int) < (x.keep.length : Int)) = true := decide_eq_true (by omega)
      case inr.inr.inr.inr =>
        have HN := Lib.hid (any_nextA l k x HX.out HA.out (by rw [b1, decide_eq_false (by omega), decide_eq_false (by omega), decide_eq_false (by omega), decide_eq_false (by omega)]; rfl))
        have r1 : decide ((100 : Int) < (x.name.size : Int)) = false := decide_eq_false (by omega)
        have r2 : decide ((100 : Int) < (x.dest.size : Int)) = false := decide_eq_false (by omega)
        have r3 : decide ((3000 : Int) < (x.text.size : Int)) = false := decide_eq_false (by omega)
        have r4 : decide ((100 : Int) < (x.keep.length : Int)) = false := decide_eq_false (by omega)
        clear b1 q1 q2 q3 q4
        go_wp2
        go_round
        case rel => exact ⟨k + 1, by omega, by go_num, HN.out⟩
        case measure => simp [intOf]; omega
      all_goals
        clear b1
        go_wp2
        go_ret
        exact ⟨ret_bool HB.out.symm, rfl⟩
    · obtain rfl : k = l.length := by omega
      have hf := HA.out
      rw [List.take_length] at hf
      have HB := Lib.hid hf
      clear hf hlt
      go_wp2
      go_ret
      exact ⟨ret_bool HB.out.symm, rfl⟩
end Go.Proofs.Ytfpimebamkmjoaa
