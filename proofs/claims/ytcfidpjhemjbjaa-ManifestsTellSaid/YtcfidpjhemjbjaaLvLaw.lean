/- What the statements of layer 21 ask of levels: whether two are the same, whether they are too many. -/
import Derived.Test.YtcfidpjhemjbjaaLvConcat
import Derived.BigQuiet
import Derived.WalkMore
namespace Go.Proofs.Ytcfidpjhemjbjaa
open Go.RowKit Go.Shelf
set_option linter.unusedVariables false
set_option maxRecDepth 100000

def LIntsSame (b : Bool) (w : World) (e : Ending) (w' : World) : Prop := e = .returned (.bool b) ∧ ∃ n, w' = w.drewN n
theorem lprefix_eq {a b : List Int} (hl : a.length = b.length) (h : ∀ (j : Nat) x y, a[j]? = some x → b[j]? = some y → x = y) : a = b := by
  apply List.ext_getElem hl
  intro j h1 h2
  exact h j _ _ (List.getElem?_eq_getElem h1) (List.getElem?_eq_getElem h2)
set_option maxHeartbeats 1000000 in
theorem lints_any (va vb : Value) (a b : List Int) (w : World) (ha : IntsIn w va a) (hb : IntsIn w vb b) :
    Calls Try.prog 40 #[va, vb] w (LIntsSame (decide (a = b)) w) := by
  obtain ⟨A, oa, ca, rfl, ma, fa⟩ := ha.cell
  obtain ⟨B, ob, cb, rfl, mb, fb⟩ := hb.cell
  unfold maxLen at ma mb
  have FA := Lib.hid fa
  have FB := Lib.hid fb
  clear ha hb fa fb
  by_cases hl : a.length = b.length
  case neg =>
    have e : decide (a = b) = false := decide_eq_false (fun h => hl (by rw [h]))
    rw [e]
    have t : ((a.length : Int) != (b.length : Int)) = true := by simp; omega
    have t2 : (a.length != b.length) = true := by simp; omega
    clear e hl
    go_enter Try.func40, Try.ntmps40
    go_wp2
    go_ret
    exact ⟨rfl, 0, rfl⟩
  obtain ⟨n, hn⟩ : ∃ n, n = a.length := ⟨_, rfl⟩
  have HNA := Lib.hid hn
  have HNB := Lib.hid (hn.trans hl)
  rw [← hn] at ma ⊢
  rw [← hl, ← hn] at mb ⊢
  clear hl hn
  go_enter Try.func40, Try.ntmps40
  go_wp2
  go_loopw [5] (fun i wr => ∃ k m : Nat, k ≤ n ∧ i = .int .i64 k ∧ (∀ j x y, j < k → a[j]? = some x → b[j]? = some y → x = y) ∧ wr = w.drewN m) (fun i _ => n - (intOf i).toNat)
  case atStart => exact ⟨0, 0, Nat.zero_le _, rfl, fun j x y hj => by omega, rfl⟩
  case round =>
    obtain ⟨k, m, hk, rfl, hall, rfl⟩ := hrel
    have HA := Lib.hid hall
    clear hall
    by_cases hlt : k < n
    · have l1 : (k : Int) < (n : Int) := by omega
      have hxa : a[k]? = some a[k] := List.getElem?_eq_getElem (by rw [← HNA.out]; exact hlt)
      have hxb : b[k]? = some b[k] := List.getElem?_eq_getElem (by rw [← HNB.out]; exact hlt)
      obtain ⟨ba, rfl, d1⟩ := FA.out k _ hxa
      obtain ⟨bb, rfl, d2⟩ := FB.out k _ hxb
      have HXA := Lib.hid hxa
      have HXB := Lib.hid hxb
      clear hxa hxb
      generalize a[k] = x at *
      generalize b[k] = y at *
      by_cases hxy : x = y
      · subst hxy
        go_wp2
        go_quiet (fail)
        go_wp2
        refine ⟨⟨k + 1, _, by omega, by go_num, fun j u v hj hu hv => ?_, rfl⟩, by simp [intOf]; omega⟩
        rcases Nat.lt_or_ge j k with c | c
        · exact HA.out j u v c hu hv
        · obtain rfl : j = k := by omega
          rw [HXA.out] at hu
          rw [HXB.out] at hv
          have e1 : x = u := by simpa using hu
          have e2 : x = v := by simpa using hv
          rw [← e1, ← e2]
      · have e : decide (a = b) = false := decide_eq_false (fun h => hxy (by have h1 := HXA.out; rw [h, HXB.out] at h1; simpa using h1.symm))
        have t : (x != y) = true := by simp [hxy]
        have E := Lib.hid e
        clear e hxy
        go_wp2
        go_quiet (fail)
        go_wp2
        go_ret
        exact ⟨by rw [E.out]; rfl, _, World.drewN_drewN _ _ _⟩
    · have e : decide (a = b) = true := decide_eq_true (lprefix_eq (by rw [← HNA.out, ← HNB.out]) (fun j x y hx hy => HA.out j x y (by have := (List.getElem?_eq_some_iff.1 hx).1; rw [← HNA.out] at this; omega) hx hy))
      have l1 : decide ((k : Int) < (n : Int)) = false := decide_eq_false (by omega)
      have l2 : decide (k < n) = false := decide_eq_false (by omega)
      have E := Lib.hid e
      clear e hlt
      go_wp2
      go_ret
      exact ⟨by rw [E.out]; rfl, _, rfl⟩
theorem lvprefix_eq {a b : LvL} (hl : a.length = b.length) (h : ∀ (j : Nat) x y, a[j]? = some x → b[j]? = some y → x = y) : a = b := by
  apply List.ext_getElem hl
  intro j h1 h2
  exact h j _ _ (List.getElem?_eq_getElem h1) (List.getElem?_eq_getElem h2)
set_option maxHeartbeats 1000000 in
theorem lsame_any (va vb : Value) (a b : LvL) (w : World) (ha : LvsHas w va a) (hb : LvsHas w vb b) :
    Calls Try.prog 28 #[va, vb] w (LIntsSame (decide (a = b)) w) := by
  obtain ⟨A, oa, ca, rfl, ma, fa⟩ := ha.form
  obtain ⟨B, ob, cb, rfl, mb, fb⟩ := hb.form
  unfold maxLen at ma mb
  have FA := Lib.hid fa
  have FB := Lib.hid fb
  clear ha hb fa fb
  by_cases hl : a.length = b.length
  case neg =>
    have e : decide (a = b) = false := decide_eq_false (fun h => hl (by rw [h]))
    rw [e]
    have t : ((a.length : Int) != (b.length : Int)) = true := by simp; omega
    have t2 : (a.length != b.length) = true := by simp; omega
    clear e hl
    go_enter Try.func28, Try.ntmps28
    go_wp2
    go_ret
    exact ⟨rfl, 0, rfl⟩
  obtain ⟨n, hn⟩ : ∃ n, n = a.length := ⟨_, rfl⟩
  have HNA := Lib.hid hn
  have HNB := Lib.hid (hn.trans hl)
  rw [← hn] at ma ⊢
  rw [← hl, ← hn] at mb ⊢
  clear hl hn
  go_enter Try.func28, Try.ntmps28
  go_wp2
  go_loopw [5] (fun i wr => ∃ k m : Nat, k ≤ n ∧ i = .int .i64 k ∧ (∀ j x y, j < k → a[j]? = some x → b[j]? = some y → x = y) ∧ wr = w.drewN m) (fun i _ => n - (intOf i).toNat)
  case atStart => exact ⟨0, 0, Nat.zero_le _, rfl, fun j x y hj => by omega, rfl⟩
  case round =>
    obtain ⟨k, m, hk, rfl, hall, hwr⟩ := hrel
    have HA := Lib.hid hall
    have HW := Lib.hid hwr
    clear hall
    by_cases hlt : k < n
    · have l1 : (k : Int) < (n : Int) := by omega
      obtain ⟨x, hxa⟩ : ∃ x, a[k]? = some x := ⟨_, List.getElem?_eq_getElem (by rw [← HNA.out]; exact hlt)⟩
      obtain ⟨y, hxb⟩ : ∃ y, b[k]? = some y := ⟨_, List.getElem?_eq_getElem (by rw [← HNB.out]; exact hlt)⟩
      obtain ⟨ba, ua, rfl, -, d1, i1⟩ := FA.out k _ hxa
      obtain ⟨bb, ub, rfl, -, d2, i2⟩ := FB.out k _ hxb
      have e1 : wr.cell? ⟨ba, oa + k, none⟩ = some ua := by rw [hwr]; exact d1
      have e2 : wr.cell? ⟨bb, ob + k, none⟩ = some ub := by rw [hwr]; exact d2
      have HI := Lib.hid (fun d => lints_any ua ub x y (wr.drewN d) (by rw [hwr]; exact i1) (by rw [hwr]; exact i2))
      obtain ⟨A3, o3, c3, rfl, -, -⟩ := i1.form
      obtain ⟨A4, o4, c4, rfl, -, -⟩ := i2.form
      have HXA := Lib.hid hxa
      have HXB := Lib.hid hxb
      unfold LIntsSame at HI
      clear hxa hxb d1 d2 i1 i2 hwr
      by_cases hxy : x = y
      · subst hxy
        rw [decide_eq_true rfl] at HI
        generalize x.length = m3 at *
        go_wp2
        go_quiet ((go_at_call 40; exact Calls.quiet_of (HI.out _)))
        go_wp2
        refine ⟨⟨k + 1, _, by omega, by go_num, fun j u v hj hu hv => ?_, by rw [HW.out]; exact World.drewN_drewN _ _ _⟩, by simp [intOf]; omega⟩
        rcases Nat.lt_or_ge j k with c | c
        · exact HA.out j u v c hu hv
        · obtain rfl : j = k := by omega
          rw [HXA.out] at hu
          rw [HXB.out] at hv
          have e1 : x = u := by simpa using hu
          have e2 : x = v := by simpa using hv
          rw [← e1, ← e2]
      · have e : decide (a = b) = false := decide_eq_false (fun h => hxy (by have h1 := HXA.out; rw [h, HXB.out] at h1; simpa using h1.symm))
        rw [decide_eq_false hxy] at HI
        have E := Lib.hid e
        clear e hxy
        generalize x.length = m3 at *
        generalize y.length = m4 at *
        go_wp2
        go_quiet ((go_at_call 40; exact Calls.quiet_of (HI.out _)))
        go_wp2
        go_ret
        exact ⟨by rw [E.out]; rfl, _, by rw [HW.out]; exact World.drewN_drewN _ _ _⟩
    · have e : decide (a = b) = true := decide_eq_true (lvprefix_eq (by rw [← HNA.out, ← HNB.out]) (fun j x y hx hy => HA.out j x y (by have := (List.getElem?_eq_some_iff.1 hx).1; rw [← HNA.out] at this; omega) hx hy))
      have l1 : decide ((k : Int) < (n : Int)) = false := decide_eq_false (by omega)
      have l2 : decide (k < n) = false := decide_eq_false (by omega)
      have E := Lib.hid e
      clear e hlt hwr
      go_wp2
      go_ret
      exact ⟨by rw [E.out]; rfl, _, HW.out⟩
/-- No more than is gone through. -/
def LvFew (R : LvL) : Prop := R.length ≤ 10 ∧ ∀ x ∈ R, x.length ≤ 60
theorem few_flat {R : LvL} (h : LvFew R) : R.flatten.length ≤ 600 := by
  have h1 : ∀ (R : LvL), (∀ x ∈ R, x.length ≤ 60) → R.flatten.length ≤ 60 * R.length := by
    intro R
    induction R with
    | nil => intro _; exact Nat.zero_le _
    | cons x R ih =>
      intro h
      have a := h x (List.mem_cons_self)
      have b := ih (fun y hy => h y (List.mem_cons_of_mem _ hy))
      rw [List.flatten_cons, List.length_append, List.length_cons]
      omega
  have := h1 R h.2
  have := h.1
  omega
def LvGreatEnd (w : World) (R : LvL) (e : Ending) (w' : World) : Prop := ∃ q : Bool, e = .returned (.bool q) ∧ w' = w ∧ (q = false → LvFew R)
set_option maxHeartbeats 1000000 in
theorem lgreat_any (v : Value) (R : LvL) (w : World) (h : LvsHas w v R) : Calls Try.prog 6 #[v] w (LvGreatEnd w R) := by
  obtain ⟨A, off, cap, rfl, hmx, hc⟩ := h.form
  have HC := Lib.hid hc
  have HGE : Hid (∀ q : Bool, (q = false → LvFew R) → LvGreatEnd w R (.returned (.bool q)) w) := Lib.hid fun q h => ⟨q, rfl, rfl, h⟩
  have HF := Lib.hid (show R.length ≤ 10 → (∀ i x, i < R.length → R[i]? = some x → x.length ≤ 60) → LvFew R from fun h1 h2 => ⟨h1, fun x hx => by
    obtain ⟨i, hi⟩ := List.getElem?_of_mem hx
    exact h2 i x (List.getElem?_eq_some_iff.1 hi).1 hi⟩)
  obtain ⟨n, hnn⟩ : ∃ n, n = R.length := ⟨_, rfl⟩
  have HN := Lib.hid hnn
  rw [← hnn] at hmx HF ⊢
  unfold maxLen at hmx
  clear h hc hnn
  go_enter Try.func6, Try.ntmps6
  go_wp2
  go_loopw [3] (fun i wr => ∃ k : Nat, k ≤ n ∧ i = .int .i64 k ∧ (∀ i x, i < k → R[i]? = some x → x.length ≤ 60) ∧ w = wr) (fun i _ => n - (intOf i).toNat)
  case atStart => exact ⟨0, Nat.zero_le _, rfl, fun i x h => absurd h (Nat.not_lt_zero _), rfl⟩
  case round =>
    obtain ⟨k, hk, rfl, hall, rfl⟩ := hrel
    have HA := Lib.hid hall
    clear hall
    by_cases hlt : k < n
    · have s1 : (k : Int) < (n : Int) := by omega
      obtain ⟨y, hy⟩ : ∃ y, R[k]? = some y := ⟨_, List.getElem?_eq_getElem (by rw [← HN.out]; exact hlt)⟩
      obtain ⟨b, u, rfl, -, cy, hin⟩ := HC.out k y hy
      have HY := Lib.hid hy
      clear hy
      obtain ⟨B, o2, c2, rfl, hm2, -⟩ := hin.form
      obtain ⟨m, hm⟩ : ∃ m, m = y.length := ⟨_, rfl⟩
      have HM := Lib.hid hm
      rw [← hm] at cy hm2
      clear hm hin
      unfold maxLen at hm2
      by_cases h60 : m ≤ 60
      · have u1 : ¬ (60 : Int) < (m : Int) := by omega
        have u2 : decide (60 < m) = false := decide_eq_false (by omega)
        go_wp2
        go_roundw
        case rel => exact ⟨k + 1, by omega, by go_num, fun i x hi hx => by
          rcases Nat.lt_or_ge i k with c | c
          · exact HA.out i x c hx
          · obtain rfl : i = k := by omega
            rw [HY.out] at hx
            rw [← Option.some.inj hx, ← HM.out]
            exact h60, by first | rfl | trivial⟩
        case measure => simp [intOf]; omega
      · have u1 : (60 : Int) < (m : Int) := by omega
        have u2 : 60 < m := by omega
        clear hm2
        go_wp2
        go_ret
        exact HGE.out true (fun h => (by cases h))
    · obtain rfl : k = n := by omega
      have s1 : ¬ (k : Int) < (k : Int) := by omega
      have HFF := Lib.hid (fun h10 => HF.out h10 HA.out)
      by_cases h10 : k ≤ 10
      · have u1 : decide ((10 : Int) < (k : Int)) = false := decide_eq_false (by omega)
        have u2 : decide (10 < k) = false := decide_eq_false (by omega)
        clear hlt hmx
        go_wp2
        go_ret
        exact HGE.out false (fun _ => HFF.out h10)
      · have u1 : decide ((10 : Int) < (k : Int)) = true := decide_eq_true (by omega)
        have u2 : decide (10 < k) = true := decide_eq_true (by omega)
        clear hlt hmx
        go_wp2
        go_ret
        exact HGE.out true (fun h => (by cases h))
end Go.Proofs.Ytcfidpjhemjbjaa
