/- Whether two manifests are the same: the program's. -/
import Derived.Test.YtcfidpjhemjbjaaMfValid
import Derived.Test.YtcfidpjhemjbjaaMfTrim
import Derived.Test.YtcfidpjhemjbjaaLvLaw
import Derived.Shelf.Abstract
namespace Go.Proofs.Ytcfidpjhemjbjaa
open Go.RowKit Go.Shelf
set_option linter.unusedVariables false
set_option maxRecDepth 100000

theorem eq_enters : Enters Try.prog 34 := enters_of Try.func34 (by kernel_rfl) rfl
set_option maxHeartbeats 1000000 in
theorem equal_any (va vb : Value) (a b : List Int) (w : World) (ha : IntsIn w va a) (hb : IntsIn w vb b) :
    Calls Try.prog 34 #[va, vb] w (LIntsSame (decide (a = b)) w) := by
  obtain ⟨A, oa, ca, rfl, ma, fa⟩ := ha.cell
  obtain ⟨B, ob, cb, rfl, mb, fb⟩ := hb.cell
  unfold maxLen at ma mb
  have FA := Lib.hid fa
  have FB := Lib.hid fb
  clear ha hb fa fb
  by_cases hl : a.length = b.length
  case neg =>
    have e : decide (a = b) = false := decide_eq_false (fun h => hl (by rw [h]))
    rw [e]
    have t : ((a.length : Int) != (b.length : Int)) = true := by simp; omega
    have t2 : (a.length != b.length) = true := by simp; omega
    clear e hl
    go_enter Try.func34, Try.ntmps34
    go_wp2
    go_ret
    exact ⟨rfl, 0, rfl⟩
  obtain ⟨n, hn⟩ : ∃ n, n = a.length := ⟨_, rfl⟩
  have HNA := Lib.hid hn
  have HNB := Lib.hid (hn.trans hl)
  rw [← hn] at ma ⊢
  rw [← hl, ← hn] at mb ⊢
  clear hl hn
  go_enter Try.func34, Try.ntmps34
  go_wp2
  go_loopw [13] (fun i wr => ∃ k m : Nat, k ≤ n ∧ i = .int .i64 k ∧ (∀ j x y, j < k → a[j]? = some x → b[j]? = some y → x = y) ∧ wr = w.drewN m) (fun i _ => n - (intOf i).toNat)
  case atStart => exact ⟨0, 0, Nat.zero_le _, rfl, fun j x y hj => by omega, rfl⟩
  case round =>
    obtain ⟨k, m, hk, rfl, hall, rfl⟩ := hrel
    have HA := Lib.hid hall
    clear hall
    by_cases hlt : k < n
    · have l1 : (k : Int) < (n : Int) := by omega
      have hxa : a[k]? = some a[k] := List.getElem?_eq_getElem (by rw [← HNA.out]; exact hlt)
      have hxb : b[k]? = some b[k] := List.getElem?_eq_getElem (by rw [← HNB.out]; exact hlt)
      obtain ⟨ba, rfl, d1⟩ := FA.out k _ hxa
      obtain ⟨bb, rfl, d2⟩ := FB.out k _ hxb
      have HXA := Lib.hid hxa
      have HXB := Lib.hid hxb
      clear hxa hxb
      generalize a[k] = x at *
      generalize b[k] = y at *
      by_cases hxy : x = y
      · subst hxy
        go_wp2
        go_quiet (fail)
        go_wp2
        refine ⟨⟨k + 1, _, by omega, by go_num, fun j u v hj hu hv => ?_, rfl⟩, by simp [intOf]; omega⟩
        rcases Nat.lt_or_ge j k with c | c
        · exact HA.out j u v c hu hv
        · obtain rfl : j = k := by omega
          rw [HXA.out] at hu
          rw [HXB.out] at hv
          have e1 : x = u := by simpa using hu
          have e2 : x = v := by simpa using hv
          rw [← e1, ← e2]
      · have e : decide (a = b) = false := decide_eq_false (fun h => hxy (by have h1 := HXA.out; rw [h, HXB.out] at h1; simpa using h1.symm))
        have t : (x != y) = true := by simp [hxy]
        have E := Lib.hid e
        clear e hxy
        go_wp2
        go_quiet (fail)
        go_wp2
        go_ret
        exact ⟨by rw [E.out]; rfl, _, World.drewN_drewN _ _ _⟩
    · have e : decide (a = b) = true := decide_eq_true (lprefix_eq (by rw [← HNA.out, ← HNB.out]) (fun j x y hx hy => HA.out j x y (by have := (List.getElem?_eq_some_iff.1 hx).1; rw [← HNA.out] at this; omega) hx hy))
      have l1 : decide ((k : Int) < (n : Int)) = false := decide_eq_false (by omega)
      have l2 : decide (k < n) = false := decide_eq_false (by omega)
      have E := Lib.hid e
      clear e hlt
      go_wp2
      go_ret
      exact ⟨by rw [E.out]; rfl, _, rfl⟩
set_option maxHeartbeats 1000000 in
theorem eqfunc_gen (f : FuncId) (hE : Enters Try.prog f) (hc : ∀ (W : World) (u v : Value) (x y : List Int), IntsIn W u x → IntsIn W v y → Calls Try.prog f #[u, v] W (LIntsSame (decide (x = y)) W)) (va vb : Value) (a b : LvL) (w : World) (ha : LvsHas w va a) (hb : LvsHas w vb b) :
    Calls Try.prog 33 #[va, vb, .func (.func f) #[] #[]] w (LIntsSame (decide (a = b)) w) := by
  obtain ⟨A, oa, ca, rfl, ma, fa⟩ := ha.form
  obtain ⟨B, ob, cb, rfl, mb, fb⟩ := hb.form
  unfold maxLen at ma mb
  have FA := Lib.hid fa
  have FB := Lib.hid fb
  have HCC := Lib.hid hc
  clear hc
  clear ha hb fa fb
  by_cases hl : a.length = b.length
  case neg =>
    have e : decide (a = b) = false := decide_eq_false (fun h => hl (by rw [h]))
    rw [e]
    have t : ((a.length : Int) != (b.length : Int)) = true := by simp; omega
    have t2 : (a.length != b.length) = true := by simp; omega
    clear e hl
    go_enter Try.func33, Try.ntmps33
    go_wp2
    go_ret
    exact ⟨rfl, 0, rfl⟩
  obtain ⟨n, hn⟩ : ∃ n, n = a.length := ⟨_, rfl⟩
  have HNA := Lib.hid hn
  have HNB := Lib.hid (hn.trans hl)
  rw [← hn] at ma ⊢
  rw [← hl, ← hn] at mb ⊢
  clear hl hn
  unfold Enters at hE
  go_enter Try.func33, Try.ntmps33
  go_wp2
  go_loopw [17] (fun i wr => ∃ k m : Nat, k ≤ n ∧ i = .int .i64 k ∧ (∀ j x y, j < k → a[j]? = some x → b[j]? = some y → x = y) ∧ wr = w.drewN m) (fun i _ => n - (intOf i).toNat)
  case atStart => exact ⟨0, 0, Nat.zero_le _, rfl, fun j x y hj => by omega, rfl⟩
  case round =>
    obtain ⟨k, m, hk, rfl, hall, hwr⟩ := hrel
    have HA := Lib.hid hall
    have HW := Lib.hid hwr
    clear hall
    by_cases hlt : k < n
    · have l1 : (k : Int) < (n : Int) := by omega
      obtain ⟨x, hxa⟩ : ∃ x, a[k]? = some x := ⟨_, List.getElem?_eq_getElem (by rw [← HNA.out]; exact hlt)⟩
      obtain ⟨y, hxb⟩ : ∃ y, b[k]? = some y := ⟨_, List.getElem?_eq_getElem (by rw [← HNB.out]; exact hlt)⟩
      obtain ⟨ba, ua, rfl, -, d1, i1⟩ := FA.out k _ hxa
      obtain ⟨bb, ub, rfl, -, d2, i2⟩ := FB.out k _ hxb
      have e1 : wr.cell? ⟨ba, oa + k, none⟩ = some ua := by rw [hwr]; exact d1
      have e2 : wr.cell? ⟨bb, ob + k, none⟩ = some ub := by rw [hwr]; exact d2
      have HI := Lib.hid (HCC.out wr ua ub x y (by rw [hwr]; exact i1) (by rw [hwr]; exact i2))
      obtain ⟨A3, o3, c3, rfl, -, -⟩ := i1.form
      obtain ⟨A4, o4, c4, rfl, -, -⟩ := i2.form
      have HXA := Lib.hid hxa
      have HXB := Lib.hid hxb
      unfold LIntsSame at HI
      clear hxa hxb d1 d2 i1 i2 hwr
      by_cases hxy : x = y
      · subst hxy
        rw [decide_eq_true rfl] at HI
        generalize x.length = m3 at *
        go_wp2
        go_wp2_with fail
        refine HI.out.mono ?_
        rintro e w9 ⟨rfl, n9, rfl⟩
        go_wp2
        refine ⟨⟨k + 1, _, by omega, by go_num, fun j u v hj hu hv => ?_, by rw [HW.out]; exact World.drewN_drewN _ _ _⟩, by simp [intOf]; omega⟩
        rcases Nat.lt_or_ge j k with c | c
        · exact HA.out j u v c hu hv
        · obtain rfl : j = k := by omega
          rw [HXA.out] at hu
          rw [HXB.out] at hv
          have e1 : x = u := by simpa using hu
          have e2 : x = v := by simpa using hv
          rw [← e1, ← e2]
      · have e : decide (a = b) = false := decide_eq_false (fun h => hxy (by have h1 := HXA.out; rw [h, HXB.out] at h1; simpa using h1.symm))
        rw [decide_eq_false hxy] at HI
        have E := Lib.hid e
        clear e hxy
        generalize x.length = m3 at *
        generalize y.length = m4 at *
        go_wp2
        go_wp2_with fail
        refine HI.out.mono ?_
        rintro e w9 ⟨rfl, n9, rfl⟩
        go_wp2
        go_ret
        exact ⟨by rw [E.out]; rfl, _, by rw [HW.out]; exact World.drewN_drewN _ _ _⟩
    · have e : decide (a = b) = true := decide_eq_true (lvprefix_eq (by rw [← HNA.out, ← HNB.out]) (fun j x y hx hy => HA.out j x y (by have := (List.getElem?_eq_some_iff.1 hx).1; rw [← HNA.out] at this; omega) hx hy))
      have l1 : decide ((k : Int) < (n : Int)) = false := decide_eq_false (by omega)
      have l2 : decide (k < n) = false := decide_eq_false (by omega)
      have E := Lib.hid e
      clear e hlt hwr
      go_wp2
      go_ret
      exact ⟨by rw [E.out]; rfl, _, HW.out⟩
theorem eqfunc_any (va vb : Value) (a b : LvL) (w : World) (ha : LvsHas w va a) (hb : LvsHas w vb b) :
    Calls Try.prog 33 #[va, vb, .func (.func 34) #[] #[]] w (LIntsSame (decide (a = b)) w) :=
  eqfunc_gen _ eq_enters (fun W u v x y h1 h2 => equal_any u v x y W h1 h2) va vb a b w ha hb
end Go.Proofs.Ytcfidpjhemjbjaa
