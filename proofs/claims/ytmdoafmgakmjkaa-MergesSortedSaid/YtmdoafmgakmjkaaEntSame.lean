/- 'Same' of the statements of layer 13; Sorted: the program's, the document's. -/
import Derived.Test.YtmdoafmgakmjkaaEntRange
import Derived.Test.YtmdoafmgakmjkaaEntRef
namespace Go.Proofs.Ytmdoafmgakmjkaa
open Go.RowKit Go.Shelf
set_option linter.unusedVariables false
set_option maxRecDepth 100000

def SameEnd (b : Bool) (w : World) (e : Ending) (w' : World) : Prop := e = .returned (.bool b) ∧ ∃ n, w' = w.drewN n
theorem ents_eq {a b : List EntS} (hl : a.length = b.length) (h : ∀ (j : Nat) x y, a[j]? = some x → b[j]? = some y → x = y) : a = b := by
  apply List.ext_getElem hl
  intro j h1 h2
  exact h j _ _ (List.getElem?_eq_getElem h1) (List.getElem?_eq_getElem h2)
set_option maxHeartbeats 1000000 in
set_option maxRecDepth 100000 in
theorem esame_any (va vb : Value) (a b : List EntS) (w : World) (ha : EntsIn w va a) (hb : EntsIn w vb b) (hm : a.length ≤ 1000000) (hk : b.length ≤ 1000000) :
    Calls Try.prog 9 #[va, vb] w (SameEnd (decide (a = b)) w) := by
  obtain ⟨A, oa, ca, rfl, -, fa⟩ := ha.form
  obtain ⟨B, ob, cb, rfl, -, fb⟩ := hb.form
  have FA := Lib.hid fa
  have FB := Lib.hid fb
  clear ha hb fa fb
  by_cases hl : a.length = b.length
  case neg =>
    have e : decide (a = b) = false := decide_eq_false (fun h => hl (by rw [h]))
    rw [e]
    have t : ((a.length : Int) != (b.length : Int)) = true := by simp; omega
    have t2 : (a.length != b.length) = true := by simp; omega
    clear e hl
    go_enter Try.func9, Try.ntmps9
    go_wp2
    go_ret
    exact ⟨rfl, 0, rfl⟩
  obtain ⟨n, hn⟩ : ∃ n, n = a.length := ⟨_, rfl⟩
  have HNA := Lib.hid hn
  have HNB := Lib.hid (hn.trans hl)
  rw [← hn] at hm ⊢
  rw [← hl, ← hn] at hk ⊢
  clear hl hn hk
  go_enter Try.func9, Try.ntmps9
  go_wp2
  go_loopw [5] (fun i wr => ∃ k m : Nat, k ≤ n ∧ i = .int .i64 k ∧ (∀ j x y, j < k → a[j]? = some x → b[j]? = some y → x = y) ∧ wr = w.drewN m) (fun i _ => n - (intOf i).toNat)
  case atStart => exact ⟨0, 0, Nat.zero_le _, rfl, fun j x y hj => by omega, rfl⟩
  case round =>
    obtain ⟨k, m, hk, rfl, hall, rfl⟩ := hrel
    have HA := Lib.hid hall
    clear hall
    by_cases hlt : k < n
    · have l1 : (k : Int) < (n : Int) := by omega
      obtain ⟨x, hxa⟩ : ∃ x, a[k]? = some x := ⟨_, List.getElem?_eq_getElem (by rw [← HNA.out]; exact hlt)⟩
      obtain ⟨y, hxb⟩ : ∃ y, b[k]? = some y := ⟨_, List.getElem?_eq_getElem (by rw [← HNB.out]; exact hlt)⟩
      obtain ⟨ba, rfl, -, d0, d1, d2⟩ := FA.out k _ hxa
      obtain ⟨bb, rfl, -, g0, g1, g2⟩ := FB.out k _ hxb
      have HXA := Lib.hid hxa
      have HXB := Lib.hid hxb
      clear hxa hxb
      have hne := fun w => ent_neq x y w
      by_cases hxy : x = y
      · rw [decide_eq_true hxy] at hne
        have HXY := Lib.hid hxy
        clear hxy
        obtain ⟨xh, xv, xp⟩ := x
        obtain ⟨yh, yv, yp⟩ := y
        simp only at d0 d1 d2 g0 g1 g2
        go_wp2
        go_quiet (fail)
        go_wp2
        refine ⟨⟨k + 1, _, by omega, by go_num, fun j u v hj hu hv => ?_, rfl⟩, by simp [intOf]; omega⟩
        rcases Nat.lt_or_ge j k with c | c
        · exact HA.out j u v c hu hv
        · obtain rfl : j = k := by omega
          rw [HXA.out] at hu
          rw [HXB.out] at hv
          rw [← Option.some.inj hu, ← Option.some.inj hv]
          exact HXY.out
      · have e : decide (a = b) = false := decide_eq_false (fun h => hxy (by have h1 := HXA.out; rw [h, HXB.out] at h1; exact (Option.some.inj h1).symm))
        rw [decide_eq_false hxy] at hne
        have E := Lib.hid e
        clear e hxy
        obtain ⟨xh, xv, xp⟩ := x
        obtain ⟨yh, yv, yp⟩ := y
        simp only at d0 d1 d2 g0 g1 g2
        go_wp2
        go_quiet (fail)
        go_wp2
        go_ret
        exact ⟨by rw [E.out]; rfl, _, World.drewN_drewN _ _ _⟩
    · have e : decide (a = b) = true := decide_eq_true (ents_eq (by rw [← HNA.out, ← HNB.out]) (fun j x y hx hy => HA.out j x y (by have := (List.getElem?_eq_some_iff.1 hx).1; rw [← HNA.out] at this; omega) hx hy))
      have l1 : decide ((k : Int) < (n : Int)) = false := decide_eq_false (by omega)
      have l2 : decide (k < n) = false := decide_eq_false (by omega)
      have E := Lib.hid e
      clear e hlt
      go_wp2
      go_ret
      exact ⟨by rw [E.out]; rfl, _, rfl⟩
end Go.Proofs.Ytmdoafmgakmjkaa
