/- Sorted of entries: the program's, the document's. -/
import Derived.Test.YtmdoafmgakmjkaaEntRange
import Derived.Test.YtmdoafmgakmjkaaEntRef
namespace Go.Proofs.Ytmdoafmgakmjkaa
open Go.RowKit Go.Shelf
set_option linter.unusedVariables false

/-- Six cells of two entries, side by side or not. -/
def Two (W : World) (b p q : Nat) (x y : EntS) : Prop := W.cell? ⟨b, p, none⟩ = some (.int .u64 (x.h : Nat)) ∧ W.cell? ⟨b, p + 1, none⟩ = some (.int .i64 x.v) ∧ W.cell? ⟨b, p + 2, none⟩ = some (.int .i64 x.p) ∧
  W.cell? ⟨b, q, none⟩ = some (.int .u64 (y.h : Nat)) ∧ W.cell? ⟨b, q + 1, none⟩ = some (.int .i64 y.v) ∧ W.cell? ⟨b, q + 2, none⟩ = some (.int .i64 y.p)
theorem ebelow {B : Nat} {W0 W W' : World} (h : Below B W0 W) (k : Below W.heap.size W W') (hB : B ≤ W.heap.size) : Below B W0 W' := h.trans (k.mono hB)
set_option maxHeartbeats 1600000 in
set_option maxRecDepth 100000 in
theorem sorted_any (v : Value) (l : List EntS) (w : World) (hl : EntsIn w v l) (hn : l.length ≤ 1000000) :
    Calls Try.prog 12 #[v] w fun e w' => e = .returned (.bool (sortedE l)) ∧ Below w.heap.size w w' := by
  obtain ⟨A, off, cap, rfl, -, hcell⟩ := hl.form
  have HC := Lib.hid hcell
  have Hyes := Lib.hid (sortedE_yes (l := l))
  have Hno := Lib.hid (fun (i : Nat) (x y : EntS) h1 h2 h3 => sortedE_no (l := l) (i := i) (x := x) (y := y) h1 h2 h3)
  obtain ⟨n, hnn⟩ : ∃ n, n = l.length := ⟨_, rfl⟩
  have HN := Lib.hid hnn
  rw [← hnn] at hn ⊢
  clear hl hcell hnn
  generalize sortedE l = r at *
  go_enter Try.func12, Try.ntmps12
  go_wp2
  go_loopw [6] (fun i wr => ∃ k : Nat, k ≤ n ∧ i = .int .i64 k ∧ (∀ (i : Nat) (x y : EntS), i + 1 < k → l[i]? = some x → l[i + 1]? = some y → lessE x y = true) ∧ Below w.heap.size w wr) (fun i _ => n - (intOf i).toNat)
  case atStart => exact ⟨0, Nat.zero_le _, rfl, fun i x y h => absurd h (by omega), Below.refl _ _⟩
  case round =>
    obtain ⟨k, hk, rfl, hall, hbel⟩ := hrel
    have HA := Lib.hid hall
    clear hall
    by_cases hlt : k < n
    · have s1 : (k : Int) < (n : Int) := by omega
      by_cases h0 : k = 0
      · subst h0
        go_wp2
        first
        | (go_roundw
           case rel => exact ⟨1, by omega, by go_num, fun i x y h => absurd h (by omega), hbel⟩
           case measure => simp [intOf]; omega)
        | (go_quiet (fail)
           go_wp2
           refine ⟨⟨1, by omega, by go_num, fun i x y h => absurd h (by omega), below_drewN hbel _⟩, by simp [intOf]; omega⟩)
      · obtain ⟨m, hkm⟩ : ∃ m, k = m + 1 := ⟨k - 1, by omega⟩
        obtain ⟨x, hx⟩ : ∃ x, l[m]? = some x := ⟨_, List.getElem?_eq_getElem (by rw [← HN.out]; omega)⟩
        obtain ⟨y, hy⟩ : ∃ y, l[k]? = some y := ⟨_, List.getElem?_eq_getElem (by rw [← HN.out]; omega)⟩
        obtain ⟨b, rfl, hbk, d0, d1, d2⟩ := HC.out m x hx
        obtain ⟨b', e', -, g0, g1, g2⟩ := HC.out k y hy
        obtain rfl : b = b' := by simpa using e'
        have q1 : (k : Int) - 1 = (m : Int) := by omega
        have q2 : decide ((0 : Int) < (k : Int)) = true := decide_eq_true (by omega)
        have q5 : decide (0 < k) = true := decide_eq_true (by omega)
        have q6 : (0 : Int) < (k : Int) := by omega
        have q7 : 0 < k := by omega
        have q3 : IntKind.i64.wrap ((m : Nat) : Int) = (m : Nat) := IntWalk.i64_in _ ⟨by omega, by omega⟩
        have q4 : (m : Int) < (n : Int) := by omega
        have HXY := Lib.hid (show l[m]? = some x ∧ l[m + 1]? = some y from ⟨hx, by rw [← hkm]; exact hy⟩)
        have HS : Hid (∀ W, Below wr.heap.size wr W → Below wr.heap.size wr W ∧ Two W b (off + m * 3) (off + k * 3) x y) := Lib.hid fun W hW =>
          ⟨hW, (hW.cell (p := ⟨b, off + m * 3, none⟩) (Nat.lt_of_lt_of_le hbk hbel.size)).trans ((hbel.cell (p := ⟨b, off + m * 3, none⟩) hbk).trans d0), (hW.cell (p := ⟨b, off + m * 3 + 1, none⟩) (Nat.lt_of_lt_of_le hbk hbel.size)).trans ((hbel.cell (p := ⟨b, off + m * 3 + 1, none⟩) hbk).trans d1), (hW.cell (p := ⟨b, off + m * 3 + 2, none⟩) (Nat.lt_of_lt_of_le hbk hbel.size)).trans ((hbel.cell (p := ⟨b, off + m * 3 + 2, none⟩) hbk).trans d2),
            (hW.cell (p := ⟨b, off + k * 3, none⟩) (Nat.lt_of_lt_of_le hbk hbel.size)).trans ((hbel.cell (p := ⟨b, off + k * 3, none⟩) hbk).trans g0), (hW.cell (p := ⟨b, off + k * 3 + 1, none⟩) (Nat.lt_of_lt_of_le hbk hbel.size)).trans ((hbel.cell (p := ⟨b, off + k * 3 + 1, none⟩) hbk).trans g1), (hW.cell (p := ⟨b, off + k * 3 + 2, none⟩) (Nat.lt_of_lt_of_le hbk hbel.size)).trans ((hbel.cell (p := ⟨b, off + k * 3 + 2, none⟩) hbk).trans g2)⟩
        have HL := fun W => eless_any x y W
        have s0 := HS.out wr (Below.refl _ _)
        clear hx hy d0 d1 d2 g0 g1 g2 e' hbk h0
        have HKM := Lib.hid hkm
        clear hkm
        have HK := Lib.hid hk
        cases o : lessE x y
        all_goals
          rw [o] at HL
          have HLL := Lib.hid HL
          have HO := Lib.hid o
          clear HL o
          obtain ⟨xh, xv, xp⟩ := x
          obtain ⟨yh, yv, yp⟩ := y
          unfold Two at HS s0
          simp only at HS s0
          obtain ⟨-, c0, c1, c2, c3, c4, c5⟩ := s0
          go_wp2_with fail
          go_region_held3 (fun W => Below wr.heap.size wr W ∧ W.cell? ⟨b, off + m * 3, none⟩ = some (.int .u64 (xh : Nat)) ∧ W.cell? ⟨b, off + m * 3 + 1, none⟩ = some (.int .i64 xv) ∧ W.cell? ⟨b, off + m * 3 + 2, none⟩ = some (.int .i64 xp) ∧
            W.cell? ⟨b, off + k * 3, none⟩ = some (.int .u64 (yh : Nat)) ∧ W.cell? ⟨b, off + k * 3 + 1, none⟩ = some (.int .i64 yv) ∧ W.cell? ⟨b, off + k * 3 + 2, none⟩ = some (.int .i64 yp))
            (first | (with_reducible assumption) | ((with_reducible refine HS.out _ ?_); (first | (with_reducible assumption) | (with_reducible exact Below.refl _ _) | (with_reducible exact (Below.refl _ _).drew) | exact (bj (And.left (by with_reducible assumption)) ‹Below _ _ _›)); done) | fail)
            (first
            | (go_at_call 14; ((with_reducible refine (HLL.out _).mono ?_); rintro e w3 ⟨rfl, hb3⟩; have hB3 : Below wr.heap.size wr w3 := bj (And.left (by with_reducible assumption)) hb3))
            | fail)
          all_goals
            go_wp2
            first
            | (go_roundw
               case rel =>
                 refine ⟨k + 1, by omega, by go_num, fun i x y hi hx hy => ?_, bj hbel hB3⟩
                 rcases Nat.lt_or_ge (i + 1) k with c | c
                 · exact HA.out i x y c hx hy
                 · obtain rfl : i = m := by have := HKM.out; omega
                   rw [HXY.out.1] at hx
                   rw [HXY.out.2] at hy
                   rw [← Option.some.inj hx, ← Option.some.inj hy]
                   exact HO.out
               case measure => simp [intOf]; omega)
            | (go_ret
               exact ⟨by rw [Hno.out m _ _ HXY.out.1 HXY.out.2 HO.out]; rfl, bj hbel hB3⟩)
    · obtain rfl : k = n := by omega
      have s1 : ¬ (k : Int) < (k : Int) := by omega
      have hyes := Hyes.out (fun i x y hx hy => HA.out i x y (by have := (List.getElem?_eq_some_iff.1 hy).1; rw [← HN.out] at this; omega) hx hy)
      subst hyes
      go_wp2
      go_ret
      exact ⟨rfl, hbel⟩
end Go.Proofs.Ytmdoafmgakmjkaa
