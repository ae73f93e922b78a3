/- The walk of annalistlaw04.WeightsSum. -/
import Derived.Test.YtlabddbpjdndoaaWeighed
import Derived.Test.YtlabddbpjdndoaaU64s
namespace Go.Proofs.Ytlabddbpjdndoaa.weightsSumW
open Go.RowKit
set_option linter.unusedVariables false

/-- What a list has. -/
def isUp (x : Nat) : Bool := decide (x = pInf)
def isDn (x : Nat) : Bool := decide (x = mInf)
def isGt (x : Nat) : Bool := FloatKind.f64.format.order x 9094988921128908188 == some Ordering.gt
def isLt (x : Nat) : Bool := FloatKind.f64.format.order x 18318360957983683996 == some Ordering.lt
def isGr (x : Nat) : Bool := isGt x || isLt x

theorem up_order {x : Nat} (hx : x < 18446744073709551616) : (FloatKind.f64.format.order x 9218868437227405311 == some Ordering.gt) = isUp x := by
  rw [f_gt hx (by decide), show nanB 9218868437227405311 = false by decide, show sr 9218868437227405311 = 9218868437227405311 by decide]
  unfold isUp
  rcases word_cases hx with h | ⟨s, rfl⟩ | ⟨h1, h2, h3, h4⟩
  · rw [h]
    have : x ≠ pInf := by intro e; rw [e] at h; exact absurd h (by decide)
    rw [decide_eq_false this]; rfl
  · cases s <;> decide +kernel
  · rw [h1, decide_eq_false h3]
    have : ¬ (9218868437227405311 : Int) < sr x := by unfold sr; split <;> omega
    rw [decide_eq_false this]; rfl
theorem dn_order {x : Nat} (hx : x < 18446744073709551616) : (FloatKind.f64.format.order x 18442240474082181119 == some Ordering.lt) = isDn x := by
  rw [f_lt hx (by decide), show nanB 18442240474082181119 = false by decide, show sr 18442240474082181119 = -9218868437227405311 by decide]
  unfold isDn
  rcases word_cases hx with h | ⟨s, rfl⟩ | ⟨h1, h2, h3, h4⟩
  · rw [h]
    have : x ≠ mInf := by intro e; rw [e] at h; exact absurd h (by decide)
    rw [decide_eq_false this]; rfl
  · cases s <;> decide +kernel
  · rw [h1, decide_eq_false h4]
    have : ¬ sr x < (-9218868437227405311 : Int) := by unfold sr; split <;> omega
    rw [decide_eq_false this]; rfl
theorem inf_great : isGr pInf = true ∧ isGr mInf = true := by decide +kernel
/-- 10^300 is at most 2^997, which is 2^2071 of the least number. -/
def kk : Nat := 2071
theorem val_great : val 9094988921128908188 ≤ 1 * 2 ^ kk := by decide +kernel
theorem val_end : 100 * 2 ^ kk < val 9139867303189443290 := by decide +kernel
theorem val_room : 100 * 2 ^ kk < val 9218868437227405312 := by decide +kernel
theorem small_val {x : Nat} (hx : x < 18446744073709551616) (hn : nanB x = false) (hg : isGr x = false) : x % 9223372036854775808 < 9218868437227405312 ∧ val (x % 9223372036854775808) ≤ 1 * 2 ^ kk := by
  have hg' : isGt x = false ∧ isLt x = false := by unfold isGr at hg; simpa using hg
  obtain ⟨g1, g2⟩ := hg'
  unfold isGt at g1
  unfold isLt at g2
  rw [f_gt hx (by decide), hn, show nanB 9094988921128908188 = false by decide, show sr 9094988921128908188 = 9094988921128908188 by decide] at g1
  rw [f_lt hx (by decide), hn, show nanB 18318360957983683996 = false by decide, show sr 18318360957983683996 = -9094988921128908188 by decide] at g2
  have k1 : ¬ (9094988921128908188 : Int) < sr x := by simpa using g1
  have k2 : ¬ sr x < (-9094988921128908188 : Int) := by simpa using g2
  have k3 : x % 9223372036854775808 ≤ 9094988921128908188 := by
    unfold sr at k1 k2
    split at k1
    · rw [if_pos (by assumption)] at k2; omega
    · rw [if_neg (by assumption)] at k2; omega
  exact ⟨by omega, Nat.le_trans (val_le k3) val_great⟩

theorem nan_self {r : Nat} (hr : r < 18446744073709551616) (h : nanB r = true) : (FloatKind.f64.format.order r r == some Ordering.eq) = false := by rw [f_self hr, h]; rfl
theorem num_self {r : Nat} (hr : r < 18446744073709551616) (h : nanB r = false) : (FloatKind.f64.format.order r r == some Ordering.eq) = true := by rw [f_self hr, h]; rfl

/-- What the sum is, by what the list has. -/
theorem sum_none {l : List Nat} (hw : Words l) (h : l.any nanB = true ∨ (l.any isUp = true ∧ l.any isDn = true)) {r : Nat} (hok : okF (sumO l) r) : (FloatKind.f64.format.order r r == some Ordering.eq) = false := by
  have e : sumO l = none := by
    rcases h with h | ⟨h1, h2⟩
    · obtain ⟨x, hx, hn⟩ := List.any_eq_true.1 h
      exact sum_nan l 0 (by decide) hw ⟨x, hx, hn⟩
    · obtain ⟨x, hx, hxu⟩ := List.any_eq_true.1 h1
      obtain ⟨y, hy, hyd⟩ := List.any_eq_true.1 h2
      have ex : x = pInf := of_decide_eq_true hxu
      have ey : y = mInf := of_decide_eq_true hyd
      subst ex
      subst ey
      exact (sum_infs l 0 false (by decide) hw hx).1 hy
  rw [e] at hok
  exact nan_self hok.1 hok.2
theorem not_any {p : Nat → Bool} {l : List Nat} (h : l.any p = false) : ∀ x ∈ l, p x = false := fun x hx => by
  cases e : p x with
  | false => rfl
  | true => rw [List.any_eq_true.2 ⟨x, hx, e⟩] at h; cases h
theorem sum_fine {l : List Nat} (hw : Words l) (hl : l.length ≤ 100) (h1 : l.any nanB = false) (h2 : l.any isGr = false) {r : Nat} (hok : okF (sumO l) r) :
    (FloatKind.f64.format.order r r == some Ordering.eq) = true ∧ (FloatKind.f64.format.order r 9139867303189443290 == some Ordering.lt) = true ∧ (FloatKind.f64.format.order r 18363239340044219098 == some Ordering.gt) = true := by
  have hp := Nat.two_pow_pos kk
  have hle : (0 + l.length) * 2 ^ kk ≤ 100 * 2 ^ kk := Nat.mul_le_mul_right _ (by omega)
  obtain ⟨s, es, s1, s2, s3⟩ := sum_small kk l 0 0 (by decide) (by decide) (by rw [Nat.zero_mul]; exact Nat.le_refl _) hw (fun x hx => small_val (hw x hx) (not_any h1 x hx) (not_any h2 x hx)) (by omega) (Nat.lt_of_le_of_lt hle val_room)
  have e : sumO l = some s := es
  rw [e] at hok
  obtain ⟨_, rfl⟩ := hok
  have hn : nanB r = false := nan_no (by omega)
  have hv : val (r % 9223372036854775808) < val 9139867303189443290 := Nat.lt_of_le_of_lt (Nat.le_trans s3 hle) val_end
  have hv2 := val_lt_iff.1 hv
  refine ⟨num_self s1 hn, ?_, ?_⟩
  · rw [f_lt s1 (by decide), hn, show nanB 9139867303189443290 = false by decide, show sr 9139867303189443290 = 9139867303189443290 by decide]
    have : sr r < (9139867303189443290 : Int) := by unfold sr; split <;> omega
    rw [decide_eq_true this]; rfl
  · rw [f_gt s1 (by decide), hn, show nanB 18363239340044219098 = false by decide, show sr 18363239340044219098 = -9139867303189443290 by decide]
    have : (-9139867303189443290 : Int) < sr r := by unfold sr; split <;> omega
    rw [decide_eq_true this]; rfl
theorem sum_up {l : List Nat} (hw : Words l) (h1 : l.any isUp = true) (h2 : l.any isDn = false) {r : Nat} (hok : okF (sumO l) r) :
    (FloatKind.f64.format.order r r == some Ordering.eq) = false ∨ ((FloatKind.f64.format.order r r == some Ordering.eq) = true ∧ (FloatKind.f64.format.order r 9218868437227405311 == some Ordering.gt) = true) := by
  obtain ⟨x, hx, hxu⟩ := List.any_eq_true.1 h1
  have ex : x = pInf := of_decide_eq_true hxu
  subst ex
  have hno : mInf ∉ l := fun hm => absurd (not_any h2 _ hm) (by decide)
  rcases (sum_infs l 0 false (by decide) hw hx).2 hno with h | h
  · have e : sumO l = none := h
    rw [e] at hok
    exact Or.inl (nan_self hok.1 hok.2)
  · have e : sumO l = some pInf := h
    rw [e] at hok
    obtain ⟨_, rfl⟩ := hok
    exact Or.inr (by decide +kernel)
theorem sum_down {l : List Nat} (hw : Words l) (h1 : l.any isUp = false) (h2 : l.any isDn = true) {r : Nat} (hok : okF (sumO l) r) :
    (FloatKind.f64.format.order r r == some Ordering.eq) = false ∨ ((FloatKind.f64.format.order r r == some Ordering.eq) = true ∧ (FloatKind.f64.format.order r 18442240474082181119 == some Ordering.lt) = true) := by
  obtain ⟨x, hx, hxu⟩ := List.any_eq_true.1 h2
  have ex : x = mInf := of_decide_eq_true hxu
  subst ex
  have hno : pInf ∉ l := fun hm => absurd (not_any h1 _ hm) (by decide)
  rcases (sum_infs l 0 true (by decide) hw hx).2 hno with h | h
  · have e : sumO l = none := h
    rw [e] at hok
    exact Or.inl (nan_self hok.1 hok.2)
  · have e : sumO l = some mInf := h
    rw [e] at hok
    obtain ⟨_, rfl⟩ := hok
    exact Or.inr (by decide +kernel)
theorem great_of {l : List Nat} (h : l.any isUp = true ∨ l.any isDn = true) : l.any isGr = true := by
  rcases h with h | h
  · obtain ⟨x, hx, hxu⟩ := List.any_eq_true.1 h
    have ex : x = pInf := of_decide_eq_true hxu
    subst ex
    exact List.any_eq_true.2 ⟨_, hx, inf_great.1⟩
  · obtain ⟨x, hx, hxu⟩ := List.any_eq_true.1 h
    have ex : x = mInf := of_decide_eq_true hxu
    subst ex
    exact List.any_eq_true.2 ⟨_, hx, inf_great.2⟩

theorem any_next (p : Nat → Bool) (l : List Nat) (k : Nat) (h : k < l.length) : (l.take (k + 1)).any p = ((l.take k).any p || p (l.getD k 0)) := by
  rw [take_next l k h, List.any_append]
  simp
theorem val_bool {a b : Bool} (h : a = b) : Value.bool a = .bool b := by rw [h]

/-- Lists that are too long, and empty ones. -/
theorem long (v : Value) (l : List Nat) (w : World) (h : RowOf u64V w v l) (hl : 100 < l.length) :
    Calls Try.prog 7 #[v] w fun e w' => e = .returned (.bool true) ∧ Below w.heap.size w w' := by
  rcases h with ⟨rfl, a, cap, rfl⟩ | ⟨h0, b, off, cap, rfl, hcap, hb, hc⟩
  · cases hl
  · have t1 : decide ((100 : Int) < (l.length : Int)) = true := decide_eq_true (by omega)
    clear hc
    go_enter Try.func7, Try.ntmps7
    go_wp2_with fail
    refine (weighed_true _).mono ?_
    rintro e w' ⟨rfl, hb⟩
    go_wp2
    go_ret
    exact ⟨rfl, ‹Below _ _ _›⟩

set_option maxHeartbeats 4000000 in
theorem short (v : Value) (l : List Nat) (w : World) (h : RowOf u64V w v l) (hl : l.length ≤ 100) (hw : Words l) (h0 : 0 < l.length) :
    Calls Try.prog 7 #[v] w fun e w' => e = .returned (.bool true) ∧ Below w.heap.size w w' := by
  have hfl := Lib.hid (fun w' (hb : Below w.heap.size w w') => floats_any v l w' (h.below hb (Nat.le_refl _)) (by omega))
  have hs := Lib.hid (fun u w' (hu : RowOf f64V w' u l) => sum_any u l w' hu (by omega) hw)
  rcases h with ⟨rfl, _⟩ | ⟨_, b, off, cap, rfl, hcap, hb, hc⟩
  · cases h0
  have t1 : decide ((100 : Int) < (l.length : Int)) = false := decide_eq_false (by omega)
  have hf := fun (b : Nat) w => frombits_run b w
  have HC := Lib.hid hc
  clear hc
  go_enter Try.func7, Try.ntmps7
  go_wp2_with fail
  go_loop [3, 4, 5, 6, 7] (fun n u d g i => ∃ k : Nat, k ≤ l.length ∧ i = .int .i64 k ∧ n = .bool ((l.take k).any nanB) ∧ u = .bool ((l.take k).any isUp) ∧ d = .bool ((l.take k).any isDn) ∧ g = .bool ((l.take k).any isGr)) (fun _ _ _ _ i => l.length - (intOf i).toNat)
  case atStart => exact ⟨0, Nat.zero_le _, rfl, rfl, rfl, rfl, rfl⟩
  case round =>
    obtain ⟨k, hk, rfl, rfl, rfl, rfl, rfl⟩ := hrel
    by_cases hlt : k < l.length
    · have c1 : w.cell? ⟨b, off + k, none⟩ = some (.int .u64 (l.getD k 0 : Nat)) := HC.out k hlt
      have n1 := Lib.hid (any_next nanB l k hlt)
      have n2 := Lib.hid (any_next isUp l k hlt)
      have n3 := Lib.hid (any_next isDn l k hlt)
      have n4 := Lib.hid (any_next isGr l k hlt)
      have hx := words_at hw k
      generalize l.getD k 0 = x at *
      have o1 : (FloatKind.f64.format.order x x != some Ordering.eq) = nanB x := by rw [f_ne, f_self hx]; cases nanB x <;> rfl
      have o2 := up_order hx
      have o3 := dn_order hx
      have o4 : (FloatKind.f64.format.order x 9094988921128908188 == some Ordering.gt) = isGt x := rfl
      have o5 : (FloatKind.f64.format.order x 18318360957983683996 == some Ordering.lt) = isLt x := rfl
      have o6 := Lib.hid (show isGr x = (isGt x || isLt x) from rfl)
      clear hx
      generalize isGr x = xgr at *
      generalize nanB x = xn at *
      generalize isUp x = xu at *
      generalize isDn x = xd at *
      generalize isGt x = xg at *
      generalize isLt x = xl at *
      have s1 : (k : Int) < (l.length : Int) := by omega
      generalize (l.take k).any nanB = N at *
      generalize (l.take k).any isUp = U at *
      generalize (l.take k).any isDn = D at *
      generalize (l.take k).any isGr = G at *
      cases N <;> cases U <;> cases D <;> cases G <;> cases xg
      all_goals
        go_wp2
        go_round
        case rel => exact ⟨k + 1, by omega, by go_num, val_bool (by rw [n1.out]; rfl), val_bool (by rw [n2.out]; rfl), val_bool (by rw [n3.out]; rfl), val_bool (by rw [n4.out, o6.out]; rfl)⟩
        case measure => simp [intOf]; omega
    · obtain rfl : k = l.length := by omega
      have s1 : ¬ (l.length : Int) < (l.length : Int) := by omega
      rw [List.take_length]
      have g1 := Lib.hid (fun r h1 h2 hok => sum_none hw (Or.inr ⟨h1, h2⟩) (r := r) hok)
      have g2 := Lib.hid (fun r h1 hok => sum_none hw (Or.inl h1) (r := r) hok)
      have g3 := Lib.hid (fun r h1 h2 hok => sum_fine hw hl h1 h2 (r := r) hok)
      have g4 := Lib.hid (fun r h1 h2 hok => sum_up hw h1 h2 (r := r) hok)
      have g5 := Lib.hid (fun r h1 h2 hok => sum_down hw h1 h2 (r := r) hok)
      have g6 := Lib.hid (fun h => great_of (l := l) h)
      generalize l.any nanB = N at *
      generalize l.any isUp = U at *
      generalize l.any isDn = D at *
      generalize l.any isGr = G at *
      cases N
      · cases U
        · cases D
          · cases G
            · go_wp2_with fail
              refine (hfl.out _ (Below.refl _ _)).mono ?_
              rintro e w1 ⟨u, rfl, hown, hb1, -⟩
              have hrow := RowOf.of_owns f64V hown
              clear hown
              go_wp2_with fail
              refine (hs.out u w1 hrow).mono ?_
              rintro e w2 ⟨r, rfl, hok, hb2⟩
              clear hrow
              have hb := hb1.trans (hb2.mono hb1.size)
              clear hb1 hb2
              obtain ⟨q1, q2, q3⟩ := g3.out r (by first | exact trivial | rfl) (by first | exact trivial | rfl) hok
              clear hok
              go_wp2_with fail
              refine (weighed_true _).mono ?_
              rintro e w3 ⟨rfl, hb3⟩
              go_wp2
              go_ret
              exact ⟨rfl, hb.trans (hb3.mono hb.size)⟩
            · go_wp2_with fail
              refine (hfl.out _ (Below.refl _ _)).mono ?_
              rintro e w1 ⟨u, rfl, hown, hb1, -⟩
              have hrow := RowOf.of_owns f64V hown
              clear hown
              go_wp2_with fail
              refine (hs.out u w1 hrow).mono ?_
              rintro e w2 ⟨r, rfl, hok, hb2⟩
              clear hrow
              have hb := hb1.trans (hb2.mono hb1.size)
              clear hb1 hb2
              clear hok
              go_wp2_with fail
              refine (weighed_true _).mono ?_
              rintro e w3 ⟨rfl, hb3⟩
              go_wp2
              go_ret
              exact ⟨rfl, hb.trans (hb3.mono hb.size)⟩
          · have hG := g6.out (Or.inr rfl)
            subst hG
            go_wp2_with fail
            refine (hfl.out _ (Below.refl _ _)).mono ?_
            rintro e w1 ⟨u, rfl, hown, hb1, -⟩
            have hrow := RowOf.of_owns f64V hown
            clear hown
            go_wp2_with fail
            refine (hs.out u w1 hrow).mono ?_
            rintro e w2 ⟨r, rfl, hok, hb2⟩
            clear hrow
            have hb := hb1.trans (hb2.mono hb1.size)
            clear hb1 hb2
            rcases g5.out r (by first | exact trivial | rfl) (by first | exact trivial | rfl) hok with q1 | ⟨q1, q2⟩
            · clear hok
              go_wp2_with fail
              refine (weighed_true _).mono ?_
              rintro e w3 ⟨rfl, hb3⟩
              go_wp2
              go_ret
              exact ⟨rfl, hb.trans (hb3.mono hb.size)⟩
            · clear hok
              go_wp2_with fail
              refine (weighed_true _).mono ?_
              rintro e w3 ⟨rfl, hb3⟩
              go_wp2
              go_ret
              exact ⟨rfl, hb.trans (hb3.mono hb.size)⟩
        · cases D
          · have hG := g6.out (Or.inl rfl)
            subst hG
            go_wp2_with fail
            refine (hfl.out _ (Below.refl _ _)).mono ?_
            rintro e w1 ⟨u, rfl, hown, hb1, -⟩
            have hrow := RowOf.of_owns f64V hown
            clear hown
            go_wp2_with fail
            refine (hs.out u w1 hrow).mono ?_
            rintro e w2 ⟨r, rfl, hok, hb2⟩
            clear hrow
            have hb := hb1.trans (hb2.mono hb1.size)
            clear hb1 hb2
            rcases g4.out r (by first | exact trivial | rfl) (by first | exact trivial | rfl) hok with q1 | ⟨q1, q2⟩
            · clear hok
              go_wp2_with fail
              refine (weighed_true _).mono ?_
              rintro e w3 ⟨rfl, hb3⟩
              go_wp2
              go_ret
              exact ⟨rfl, hb.trans (hb3.mono hb.size)⟩
            · clear hok
              go_wp2_with fail
              refine (weighed_true _).mono ?_
              rintro e w3 ⟨rfl, hb3⟩
              go_wp2
              go_ret
              exact ⟨rfl, hb.trans (hb3.mono hb.size)⟩
          · go_wp2_with fail
            refine (hfl.out _ (Below.refl _ _)).mono ?_
            rintro e w1 ⟨u, rfl, hown, hb1, -⟩
            have hrow := RowOf.of_owns f64V hown
            clear hown
            go_wp2_with fail
            refine (hs.out u w1 hrow).mono ?_
            rintro e w2 ⟨r, rfl, hok, hb2⟩
            clear hrow
            have hb := hb1.trans (hb2.mono hb1.size)
            clear hb1 hb2
            have ne : (FloatKind.f64.format.order r r != some Ordering.eq) = true := by rw [f_ne, g1.out r (by first | exact trivial | rfl) (by first | exact trivial | rfl) hok]; rfl
            clear hok
            go_wp2_with fail
            refine (weighed_true _).mono ?_
            rintro e w3 ⟨rfl, hb3⟩
            go_wp2
            go_ret
            exact ⟨rfl, hb.trans (hb3.mono hb.size)⟩
      · go_wp2_with fail
        refine (hfl.out _ (Below.refl _ _)).mono ?_
        rintro e w1 ⟨u, rfl, hown, hb1, -⟩
        have hrow := RowOf.of_owns f64V hown
        clear hown
        go_wp2_with fail
        refine (hs.out u w1 hrow).mono ?_
        rintro e w2 ⟨r, rfl, hok, hb2⟩
        clear hrow
        have hb := hb1.trans (hb2.mono hb1.size)
        clear hb1 hb2
        have ne : (FloatKind.f64.format.order r r != some Ordering.eq) = true := by rw [f_ne, g2.out r (by first | exact trivial | rfl) hok]; rfl
        clear hok
        go_wp2_with fail
        refine (weighed_true _).mono ?_
        rintro e w3 ⟨rfl, hb3⟩
        go_wp2
        go_ret
        exact ⟨rfl, hb.trans (hb3.mono hb.size)⟩

/-- Of nothing. -/
theorem empty (v : Value) (w : World) (h : RowOf u64V w v []) :
    Calls Try.prog 7 #[v] w fun e w' => e = .returned (.bool true) ∧ Below w.heap.size w w' := by
  have hfl := Lib.hid (fun w' (hb : Below w.heap.size w w') => floats_any v [] w' (h.below hb (Nat.le_refl _)) (by decide))
  have hs := Lib.hid (fun u w' (hu : RowOf f64V w' u []) => sum_any u [] w' hu (by decide) words0)
  rcases h with ⟨_, a, cap, rfl⟩ | ⟨h0, _⟩
  · go_enter Try.func7, Try.ntmps7
    go_wp2
    refine wp_loop_rounds 1 ?_
    rw [rounds_succ]
    go_wp2_with fail
    refine (hfl.out _ (Below.refl _ _)).mono ?_
    rintro e w1 ⟨u, rfl, hown, hb1, -⟩
    have hrow := RowOf.of_owns f64V hown
    clear hown
    go_wp2_with fail
    refine (hs.out u w1 hrow).mono ?_
    rintro e w2 ⟨r, rfl, hok, hb2⟩
    clear hrow
    have hb := hb1.trans (hb2.mono hb1.size)
    clear hb1 hb2
    obtain ⟨q1, q2, q3⟩ := sum_fine words0 (by decide) rfl rfl (r := r) hok
    clear hok
    go_wp2_with fail
    refine (weighed_true _).mono ?_
    rintro e w3 ⟨rfl, hb3⟩
    go_wp2
    go_ret
    exact ⟨rfl, hb.trans (hb3.mono hb.size)⟩
  · cases h0

theorem walk (w : World) (v : Value) (l : List Nat) (h : RowOf u64V w v l) (hw : Words l) :
    Calls Try.prog 7 #[v] w fun e w' => e = .returned (.bool true) ∧ Below w.heap.size w w' := by
  by_cases h1 : 100 < l.length
  · exact long v l w h h1
  · by_cases h0 : l = []
    · subst h0; exact empty v w h
    · exact short v l w h (by omega) hw (List.length_pos_iff.2 h0)
end Go.Proofs.Ytlabddbpjdndoaa.weightsSumW
