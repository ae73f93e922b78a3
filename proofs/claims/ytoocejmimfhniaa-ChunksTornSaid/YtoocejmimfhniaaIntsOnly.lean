/- A slice of numbers, by its cells; 'Ints' of the statements of layer 6: where no disk is. -/
import Derived.Test.YtoocejmimfhniaaBase
namespace Go.Proofs.Ytoocejmimfhniaa
open Go.RowKit
set_option linter.unusedVariables false

def IntsIn (w : World) (v : Value) (l : List Int) : Prop :=
  (l = [] ∧ ∃ a c, v = .slice a 0 c) ∨ ∃ b off cap, v = .slice (some ⟨b, off, none⟩) l.length cap ∧ l.length ≤ cap ∧ cap ≤ maxLen ∧ b < w.heap.size ∧ ∀ i x, l[i]? = some x → w.cell? ⟨b, off + i, none⟩ = some (.int .i64 x)
theorem IntsIn.cell {w : World} {v : Value} {l : List Int} (h : IntsIn w v l) : ∃ A off cap, v = .slice A l.length cap ∧ l.length ≤ maxLen ∧ ∀ i x, l[i]? = some x → ∃ b, A = some ⟨b, off, none⟩ ∧ w.cell? ⟨b, off + i, none⟩ = some (.int .i64 x) := by
  rcases h with ⟨rfl, a, c, rfl⟩ | ⟨b, off, cap, h1, h2, h3, h4, h5⟩
  · exact ⟨a, 0, c, rfl, Nat.zero_le _, fun i x h => by simp at h⟩
  · exact ⟨some ⟨b, off, none⟩, off, cap, h1, by omega, fun i x hx => ⟨b, rfl, h5 i x hx⟩⟩
def IntsSame (b : Bool) (w : World) (e : Ending) (w' : World) : Prop := e = .returned (.bool b) ∧ ∃ n, w' = w.drewN n
theorem prefix_eq {a b : List Int} (hl : a.length = b.length) (h : ∀ (j : Nat) x y, a[j]? = some x → b[j]? = some y → x = y) : a = b := by
  apply List.ext_getElem hl
  intro j h1 h2
  exact h j _ _ (List.getElem?_eq_getElem h1) (List.getElem?_eq_getElem h2)
set_option maxHeartbeats 1000000 in
theorem ints_any (va vb : Value) (a b : List Int) (w : World) (ha : IntsIn w va a) (hb : IntsIn w vb b) :
    Calls Try.prog 12 #[va, vb] w (IntsSame (decide (a = b)) w) := by
  obtain ⟨A, oa, ca, rfl, ma, fa⟩ := ha.cell
  obtain ⟨B, ob, cb, rfl, mb, fb⟩ := hb.cell
  unfold maxLen at ma mb
  have FA := Lib.hid fa
  have FB := Lib.hid fb
  clear ha hb fa fb
  by_cases hl : a.length = b.length
  case neg =>
    have e : decide (a = b) = false := decide_eq_false (fun h => hl (by rw [h]))
    rw [e]
    have t : ((a.length : Int) != (b.length : Int)) = true := by simp; omega
    have t2 : (a.length != b.length) = true := by simp; omega
    clear e hl
    go_enter Try.func12, Try.ntmps12
    go_wp2
    go_ret
    exact ⟨rfl, 0, rfl⟩
  obtain ⟨n, hn⟩ : ∃ n, n = a.length := ⟨_, rfl⟩
  have HNA := Lib.hid hn
  have HNB := Lib.hid (hn.trans hl)
  rw [← hn] at ma ⊢
  rw [← hl, ← hn] at mb ⊢
  clear hl hn
  go_enter Try.func12, Try.ntmps12
  go_wp2
  go_loopw [5] (fun i wr => ∃ k m : Nat, k ≤ n ∧ i = .int .i64 k ∧ (∀ j x y, j < k → a[j]? = some x → b[j]? = some y → x = y) ∧ wr = w.drewN m) (fun i _ => n - (intOf i).toNat)
  case atStart => exact ⟨0, 0, Nat.zero_le _, rfl, fun j x y hj => by omega, rfl⟩
  case round =>
    obtain ⟨k, m, hk, rfl, hall, rfl⟩ := hrel
    have HA := Lib.hid hall
    clear hall
    by_cases hlt : k < n
    · have l1 : (k : Int) < (n : Int) := by omega
      have hxa : a[k]? = some a[k] := List.getElem?_eq_getElem (by rw [← HNA.out]; exact hlt)
      have hxb : b[k]? = some b[k] := List.getElem?_eq_getElem (by rw [← HNB.out]; exact hlt)
      obtain ⟨ba, rfl, d1⟩ := FA.out k _ hxa
      obtain ⟨bb, rfl, d2⟩ := FB.out k _ hxb
      have HXA := Lib.hid hxa
      have HXB := Lib.hid hxb
      clear hxa hxb
      generalize a[k] = x at *
      generalize b[k] = y at *
      by_cases hxy : x = y
      · subst hxy
        go_wp2
        go_quiet (fail)
        go_wp2
        refine ⟨⟨k + 1, _, by omega, by go_num, fun j u v hj hu hv => ?_, rfl⟩, by simp [intOf]; omega⟩
        rcases Nat.lt_or_ge j k with c | c
        · exact HA.out j u v c hu hv
        · obtain rfl : j = k := by omega
          rw [HXA.out] at hu
          rw [HXB.out] at hv
          have e1 : x = u := by simpa using hu
          have e2 : x = v := by simpa using hv
          rw [← e1, ← e2]
      · have e : decide (a = b) = false := decide_eq_false (fun h => hxy (by have h1 := HXA.out; rw [h, HXB.out] at h1; simpa using h1.symm))
        have t : (x != y) = true := by simp [hxy]
        have E := Lib.hid e
        clear e hxy
        go_wp2
        go_quiet (fail)
        go_wp2
        go_ret
        exact ⟨by rw [E.out]; rfl, _, World.drewN_drewN _ _ _⟩
    · have e : decide (a = b) = true := decide_eq_true (prefix_eq (by rw [← HNA.out, ← HNB.out]) (fun j x y hx hy => HA.out j x y (by have := (List.getElem?_eq_some_iff.1 hx).1; rw [← HNA.out] at this; omega) hx hy))
      have l1 : decide ((k : Int) < (n : Int)) = false := decide_eq_false (by omega)
      have l2 : decide (k < n) = false := decide_eq_false (by omega)
      have E := Lib.hid e
      clear e hlt
      go_wp2
      go_ret
      exact ⟨by rw [E.out]; rfl, _, rfl⟩
end Go.Proofs.Ytoocejmimfhniaa
