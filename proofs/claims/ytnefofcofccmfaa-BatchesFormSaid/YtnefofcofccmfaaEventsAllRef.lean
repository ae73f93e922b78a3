/- The document's All, of two lists of events. -/
import Derived.Test.YtnefofcofccmfaaEventsRows
import Derived.Test.YtnefofcofccmfaaEventsOneRef
namespace Go.Proofs.Ytnefofcofccmfaa
open Go.RowKit
set_option linter.unusedVariables false

def evE (x y : RawS) : Bool := evEq x.t x.d x.b y.t y.d y.b
/-- Whether two lists are the same, one by one (P7.3). -/
def evAll (a b : List RawS) : Bool := decide (a.length = b.length) && (a.zip b).all fun p => evE p.1 p.2
theorem evAll_len {a b : List RawS} (h : ¬ a.length = b.length) : evAll a b = false := by simp [evAll, h]
theorem evAll_yes {a b : List RawS} (h : a.length = b.length) (hp : ∀ (i : Nat) (x y : RawS), a[i]? = some x → b[i]? = some y → evE x y = true) : evAll a b = true := by
  unfold evAll
  rw [decide_eq_true h, Bool.true_and, List.all_eq_true]
  intro p hm
  obtain ⟨i, hi⟩ := List.getElem?_of_mem hm
  obtain ⟨x, y⟩ := p
  rw [List.getElem?_zip_eq_some] at hi
  exact hp i x y hi.1 hi.2
theorem evAll_no {a b : List RawS} {i : Nat} {x y : RawS} (hx : a[i]? = some x) (hy : b[i]? = some y) (h : evE x y = false) : evAll a b = false := by
  unfold evAll
  have : ((a.zip b).all fun p => evE p.1 p.2) = false := by
    rw [List.all_eq_false]
    refine ⟨(x, y), List.mem_of_getElem? (i := i) ?_, by simpa using h⟩
    rw [List.getElem?_zip_eq_some]
    exact ⟨hx, hy⟩
  rw [this, Bool.and_false]
theorem evAll_self (a : List RawS) : evAll a a = true := evAll_yes rfl fun i x y hx hy => by
  rw [hx] at hy
  cases hy
  exact evEq_self _ _ _

/-- A slice value, whichever it has. -/
theorem EvsIn.form {w : World} {v : Value} {l : List RawS} (h : EvsIn w v l) : ∃ A c, v = .slice A l.length c := by
  rcases h with ⟨rfl, a, c, rfl⟩ | ⟨_, b, off, cap, rfl, _⟩
  · exact ⟨_, _, rfl⟩
  · exact ⟨_, _, rfl⟩
theorem EvsIn.pos {w : World} {A : Option Addr} {n c : Nat} {l : List RawS} (h : EvsIn w (.slice A n c) l) (hl : 0 < l.length) : ∃ b off, A = some ⟨b, off, none⟩ ∧ b < w.heap.size ∧
    ∀ i x, l[i]? = some x → w.cell? ⟨b, off + i * 3, none⟩ = some (.string x.t) ∧ w.cell? ⟨b, off + i * 3 + 1, none⟩ = some (.string x.d) ∧ w.cell? ⟨b, off + i * 3 + 2, none⟩ = some (.float .f64 x.b) := by
  rcases h with ⟨rfl, _⟩ | ⟨_, b, off, cap, hv, _, hb, hc⟩
  · cases hl
  · cases hv; exact ⟨b, off, rfl, hb, hc⟩

theorem allr_len (A B : Option Addr) (n m c d : Nat) (w : World) (hn : n ≤ 1000) (hm : m ≤ 1000) (h : ¬ n = m) :
    Calls Try.prog 32 #[.slice A n c, .slice B m d] w fun e w' => e = .returned (.bool false) ∧ Below w.heap.size w w' := by
  have e : ((n : Int) != (m : Int)) = true := by simp; omega
  go_enter Try.func32, Try.ntmps32
  go_wp2
  go_ret
  exact ⟨rfl, Below.refl _ _⟩

theorem allr_nil (A B : Option Addr) (c d : Nat) (w : World) :
    Calls Try.prog 32 #[.slice A 0 c, .slice B 0 d] w fun e w' => e = .returned (.bool true) ∧ Below w.heap.size w w' := by
  go_enter Try.func32, Try.ntmps32
  go_wp2
  refine wp_loop_rounds 1 ?_
  rw [rounds_succ]
  go_wp2
  go_ret
  exact ⟨rfl, Below.refl _ _⟩

def AllOk (l : List RawS) : Prop := ∀ x ∈ l, RawOk x

set_option maxHeartbeats 1600000 in
set_option maxRecDepth 100000 in
theorem allr_eq (la lb : List RawS) (p q : Nat) (po qo c d : Nat) (w : World) (hl : la.length = lb.length) (hn : la.length ≤ 1000) (ha : AllOk la) (hb : AllOk lb) (hp : p < w.heap.size) (hq : q < w.heap.size)
    (ca : ∀ i x, la[i]? = some x → w.cell? ⟨p, po + i * 3, none⟩ = some (.string x.t) ∧ w.cell? ⟨p, po + i * 3 + 1, none⟩ = some (.string x.d) ∧ w.cell? ⟨p, po + i * 3 + 2, none⟩ = some (.float .f64 x.b))
    (cb : ∀ i x, lb[i]? = some x → w.cell? ⟨q, qo + i * 3, none⟩ = some (.string x.t) ∧ w.cell? ⟨q, qo + i * 3 + 1, none⟩ = some (.string x.d) ∧ w.cell? ⟨q, qo + i * 3 + 2, none⟩ = some (.float .f64 x.b)) :
    Calls Try.prog 32 #[.slice (some ⟨p, po, none⟩) la.length c, .slice (some ⟨q, qo, none⟩) la.length d] w fun e w' => e = .returned (.bool (evAll la lb)) ∧ Below w.heap.size w w' := by
  have Hyes := Lib.hid (evAll_yes hl)
  have Hno := Lib.hid (fun (i : Nat) (x y : RawS) h1 h2 h3 => evAll_no (a := la) (b := lb) (i := i) (x := x) (y := y) h1 h2 h3)
  have HL := Lib.hid hl
  clear hl
  generalize evAll la lb = r at *
  go_enter Try.func32, Try.ntmps32
  go_wp2
  go_loopw [5] (fun i wr => ∃ k : Nat, k ≤ la.length ∧ i = .int .i64 k ∧ (∀ (i : Nat) (x y : RawS), i < k → la[i]? = some x → lb[i]? = some y → evE x y = true) ∧ Below w.heap.size w wr) (fun i _ => la.length - (intOf i).toNat)
  case atStart => exact ⟨0, Nat.zero_le _, rfl, fun i x y h => absurd h (by omega), Below.refl _ _⟩
  case round =>
    obtain ⟨k, hk, rfl, hall, hbel⟩ := hrel
    have HA := Lib.hid hall
    clear hall
    by_cases hlt : k < la.length
    · have hkb : k < lb.length := by rw [← HL.out]; exact hlt
      obtain ⟨x, hx⟩ : ∃ x, la[k]? = some x := ⟨la[k], List.getElem?_eq_getElem hlt⟩
      obtain ⟨y, hy⟩ : ∃ y, lb[k]? = some y := ⟨lb[k], List.getElem?_eq_getElem hkb⟩
      obtain ⟨a0, a1, a2⟩ := ca k x hx
      obtain ⟨b0, b1, b2⟩ := cb k y hy
      have wx := ha x (List.mem_of_getElem? hx)
      have wy := hb y (List.mem_of_getElem? hy)
      have HS := Lib.hid fun W => same_ref x.t x.d x.b y.t y.d y.b W wx.b wy.b
      have HX := Lib.hid (And.intro hx hy)
      have hq' : evE x y = evEq x.t x.d x.b y.t y.d y.b := rfl
      have HQ := Lib.hid hq'
      have k0 := keep_cell hbel hp a0
      have k1 := keep_cell hbel hp a1
      have k2 := keep_cell hbel hp a2
      have j0 := keep_cell hbel hq b0
      have j1 := keep_cell hbel hq b1
      have j2 := keep_cell hbel hq b2
      clear hx hy a0 a1 a2 b0 b1 b2 hq' hkb wx wy
      generalize evEq x.t x.d x.b y.t y.d y.b = o at *
      obtain ⟨t, d1, n⟩ := x
      obtain ⟨t', d', n'⟩ := y
      simp only at k0 k1 k2 j0 j1 j2 HS
      have s1 : (k : Int) < (la.length : Int) := by omega
      have HSS : Hid (∀ W, Below wr.heap.size wr W → Below wr.heap.size wr W ∧ W.cell? ⟨p, po + k * 3, none⟩ = some (.string t) ∧ W.cell? ⟨p, po + k * 3 + 1, none⟩ = some (.string d1) ∧ W.cell? ⟨p, po + k * 3 + 2, none⟩ = some (.float .f64 n) ∧
          W.cell? ⟨q, qo + k * 3, none⟩ = some (.string t') ∧ W.cell? ⟨q, qo + k * 3 + 1, none⟩ = some (.string d') ∧ W.cell? ⟨q, qo + k * 3 + 2, none⟩ = some (.float .f64 n')) :=
        Lib.hid fun W hW => ⟨hW, keep_cell hW (Nat.lt_of_lt_of_le hp hbel.size) k0, keep_cell hW (Nat.lt_of_lt_of_le hp hbel.size) k1, keep_cell hW (Nat.lt_of_lt_of_le hp hbel.size) k2, keep_cell hW (Nat.lt_of_lt_of_le hq hbel.size) j0, keep_cell hW (Nat.lt_of_lt_of_le hq hbel.size) j1, keep_cell hW (Nat.lt_of_lt_of_le hq hbel.size) j2⟩
      clear ca cb ha hb
      cases o
      · have hno := Hno.out k _ _ HX.out.1 HX.out.2 HQ.out
        subst hno
        go_wp2_with fail
        go_region_held3 (fun W => Below wr.heap.size wr W ∧ W.cell? ⟨p, po + k * 3, none⟩ = some (.string t) ∧ W.cell? ⟨p, po + k * 3 + 1, none⟩ = some (.string d1) ∧ W.cell? ⟨p, po + k * 3 + 2, none⟩ = some (.float .f64 n) ∧
          W.cell? ⟨q, qo + k * 3, none⟩ = some (.string t') ∧ W.cell? ⟨q, qo + k * 3 + 1, none⟩ = some (.string d') ∧ W.cell? ⟨q, qo + k * 3 + 2, none⟩ = some (.float .f64 n'))
          (first | (with_reducible assumption) | ((with_reducible refine HSS.out _ ?_); (first | (with_reducible assumption) | (with_reducible exact Below.refl _ _) | (with_reducible exact (Below.refl _ _).drew) | exact (hold_call ‹Below _ _ _› (by with_reducible assumption))); done) | fail)
          (first
          | (go_at_call 43; ((with_reducible refine (HS.out _).mono ?_); rintro e w3 ⟨rfl, hb3⟩; have hB3 := hold_call (W0 := wr) hb3 (by with_reducible assumption)))
          | fail)
        all_goals
          go_wp2
          go_ret
          exact ⟨rfl, bj hbel hB3⟩
      · go_wp2_with fail
        go_region_held3 (fun W => Below wr.heap.size wr W ∧ W.cell? ⟨p, po + k * 3, none⟩ = some (.string t) ∧ W.cell? ⟨p, po + k * 3 + 1, none⟩ = some (.string d1) ∧ W.cell? ⟨p, po + k * 3 + 2, none⟩ = some (.float .f64 n) ∧
          W.cell? ⟨q, qo + k * 3, none⟩ = some (.string t') ∧ W.cell? ⟨q, qo + k * 3 + 1, none⟩ = some (.string d') ∧ W.cell? ⟨q, qo + k * 3 + 2, none⟩ = some (.float .f64 n'))
          (first | (with_reducible assumption) | ((with_reducible refine HSS.out _ ?_); (first | (with_reducible assumption) | (with_reducible exact Below.refl _ _) | (with_reducible exact (Below.refl _ _).drew) | exact (hold_call ‹Below _ _ _› (by with_reducible assumption))); done) | fail)
          (first
          | (go_at_call 43; ((with_reducible refine (HS.out _).mono ?_); rintro e w3 ⟨rfl, hb3⟩; have hB3 := hold_call (W0 := wr) hb3 (by with_reducible assumption)))
          | fail)
        all_goals
          go_wp2
          go_roundw
          case rel =>
            refine ⟨k + 1, by omega, by go_num, fun i x y hi hx hy => ?_, bj hbel hB3⟩
            by_cases e : i = k
            · subst e
              rw [HX.out.1] at hx
              rw [HX.out.2] at hy
              cases hx
              cases hy
              exact HQ.out
            · exact HA.out i x y (by omega) hx hy
          case measure => simp [intOf]; omega
    · obtain rfl : k = la.length := by omega
      have s1 : ¬ (la.length : Int) < (la.length : Int) := by omega
      have hyes := Hyes.out (fun i x y hx hy => HA.out i x y (List.getElem?_eq_some_iff.1 hx).1 hx hy)
      subst hyes
      go_wp2
      go_ret
      exact ⟨rfl, hbel⟩

theorem all_ref (va vb : Value) (la lb : List RawS) (w : World) (h1 : EvsIn w va la) (h2 : EvsIn w vb lb) (hn : la.length ≤ 1000) (hm : lb.length ≤ 1000) (ha : AllOk la) (hb : AllOk lb) :
    Calls Try.prog 32 #[va, vb] w fun e w' => e = .returned (.bool (evAll la lb)) ∧ Below w.heap.size w w' := by
  obtain ⟨A, c, rfl⟩ := h1.form
  obtain ⟨B, d, rfl⟩ := h2.form
  by_cases hl : la.length = lb.length
  · by_cases h0 : la.length = 0
    · have e1 : la = [] := List.length_eq_zero_iff.1 h0
      have e2 : lb = [] := List.length_eq_zero_iff.1 (by omega)
      subst e1 e2
      exact allr_nil A B c d w
    · obtain ⟨p, po, rfl, hp, ca⟩ := h1.pos (by omega)
      obtain ⟨q, qo, rfl, hq, cb⟩ := h2.pos (by omega)
      rw [← hl]
      exact allr_eq la lb p q po qo c d w hl hn ha hb hp hq ca cb
  · rw [evAll_len hl]
    exact allr_len A B _ _ c d w hn hm hl
end Go.Proofs.Ytnefofcofccmfaa
