/- Last, Sorted of entries: the document's. -/
import Derived.Test.YtifhiiokgpbhmaaEntLast
import Derived.Test.YtifhiiokgpbhmaaEntSortedOwn
namespace Go.Proofs.Ytifhiiokgpbhmaa
open Go.RowKit Go.Shelf
set_option linter.unusedVariables false

set_option maxHeartbeats 1600000 in
set_option maxRecDepth 100000 in
theorem sortedr_any (v : Value) (l : List EntS) (w : World) (hl : EntsIn w v l) (hn : l.length ≤ 1000000) :
    Calls Try.prog 24 #[v] w fun e w' => e = .returned (.bool (sortedE l)) ∧ Below w.heap.size w w' := by
  obtain ⟨A, off, cap, rfl, -, hcell⟩ := hl.form
  have HC := Lib.hid hcell
  have Hyes := Lib.hid (sortedE_yes (l := l))
  have Hno := Lib.hid (fun (i : Nat) (x y : EntS) h1 h2 h3 => sortedE_no (l := l) (i := i) (x := x) (y := y) h1 h2 h3)
  obtain ⟨n, hnn⟩ : ∃ n, n = l.length := ⟨_, rfl⟩
  have HN := Lib.hid hnn
  rw [← hnn] at hn ⊢
  clear hl hcell hnn
  generalize sortedE l = r at *
  go_enter Try.func24, Try.ntmps24
  go_wp2
  go_loopw [3] (fun i wr => ∃ k : Nat, k ≤ n ∧ i = .int .i64 k ∧ (∀ (i : Nat) (x y : EntS), i < k → l[i]? = some x → l[i + 1]? = some y → lessE x y = true) ∧ Below w.heap.size w wr) (fun i _ => n - (intOf i).toNat)
  case atStart => exact ⟨0, Nat.zero_le _, rfl, fun i x y h => absurd h (by omega), Below.refl _ _⟩
  case round =>
    obtain ⟨k, hk, rfl, hall, hbel⟩ := hrel
    have HA := Lib.hid hall
    clear hall
    by_cases hlt : k + 1 < n
    · have s1 : (k : Int) + 1 < (n : Int) := by omega
      have s2 : (k : Int) < (n : Int) := by omega
      have r1 : IntKind.i64.wrap ((k : Int) + 1) = (k : Int) + 1 := IntWalk.i64_in _ ⟨by omega, by omega⟩
      have r2 : (0 : Int) ≤ (k : Int) + 1 := by omega
      have r3 : ((k : Int) + 1).toNat = k + 1 := by omega
      obtain ⟨x, hx⟩ : ∃ x, l[k]? = some x := ⟨_, List.getElem?_eq_getElem (by rw [← HN.out]; omega)⟩
      obtain ⟨y, hy⟩ : ∃ y, l[k + 1]? = some y := ⟨_, List.getElem?_eq_getElem (by rw [← HN.out]; omega)⟩
      obtain ⟨b, rfl, hbk, d0, d1, d2⟩ := HC.out k x hx
      obtain ⟨b', e', -, g0, g1, g2⟩ := HC.out (k + 1) y hy
      obtain rfl : b = b' := by simpa using e'
      have HXY := Lib.hid (And.intro hx hy)
      have HS : Hid (∀ W, Below wr.heap.size wr W → Below wr.heap.size wr W ∧ Two W b (off + k * 3) (off + (k + 1) * 3) x y) := Lib.hid fun W hW =>
        ⟨hW, (hW.cell (p := ⟨b, off + k * 3, none⟩) (Nat.lt_of_lt_of_le hbk hbel.size)).trans ((hbel.cell (p := ⟨b, off + k * 3, none⟩) hbk).trans d0), (hW.cell (p := ⟨b, off + k * 3 + 1, none⟩) (Nat.lt_of_lt_of_le hbk hbel.size)).trans ((hbel.cell (p := ⟨b, off + k * 3 + 1, none⟩) hbk).trans d1), (hW.cell (p := ⟨b, off + k * 3 + 2, none⟩) (Nat.lt_of_lt_of_le hbk hbel.size)).trans ((hbel.cell (p := ⟨b, off + k * 3 + 2, none⟩) hbk).trans d2),
          (hW.cell (p := ⟨b, off + (k + 1) * 3, none⟩) (Nat.lt_of_lt_of_le hbk hbel.size)).trans ((hbel.cell (p := ⟨b, off + (k + 1) * 3, none⟩) hbk).trans g0), (hW.cell (p := ⟨b, off + (k + 1) * 3 + 1, none⟩) (Nat.lt_of_lt_of_le hbk hbel.size)).trans ((hbel.cell (p := ⟨b, off + (k + 1) * 3 + 1, none⟩) hbk).trans g1), (hW.cell (p := ⟨b, off + (k + 1) * 3 + 2, none⟩) (Nat.lt_of_lt_of_le hbk hbel.size)).trans ((hbel.cell (p := ⟨b, off + (k + 1) * 3 + 2, none⟩) hbk).trans g2)⟩
      have HL := fun W => less_ref x y W
      have s0 := HS.out wr (Below.refl _ _)
      clear hx hy d0 d1 d2 g0 g1 g2 e' hbk
      cases o : lessE x y
      all_goals
        rw [o] at HL
        have HLL := Lib.hid HL
        have HO := Lib.hid o
        clear HL o
        obtain ⟨xh, xv, xp⟩ := x
        obtain ⟨yh, yv, yp⟩ := y
        unfold Two at HS s0
        simp only at HS s0
        obtain ⟨-, c0, c1, c2, c3, c4, c5⟩ := s0
        go_wp2_with fail
        go_region_held3 (fun W => Below wr.heap.size wr W ∧ W.cell? ⟨b, off + k * 3, none⟩ = some (.int .u64 (xh : Nat)) ∧ W.cell? ⟨b, off + k * 3 + 1, none⟩ = some (.int .i64 xv) ∧ W.cell? ⟨b, off + k * 3 + 2, none⟩ = some (.int .i64 xp) ∧
          W.cell? ⟨b, off + (k + 1) * 3, none⟩ = some (.int .u64 (yh : Nat)) ∧ W.cell? ⟨b, off + (k + 1) * 3 + 1, none⟩ = some (.int .i64 yv) ∧ W.cell? ⟨b, off + (k + 1) * 3 + 2, none⟩ = some (.int .i64 yp))
          (first | (with_reducible assumption) | ((with_reducible refine HS.out _ ?_); (first | (with_reducible assumption) | (with_reducible exact Below.refl _ _) | (with_reducible exact (Below.refl _ _).drew) | exact (bj (And.left (by with_reducible assumption)) ‹Below _ _ _›)); done) | fail)
          (first
          | (go_at_call 34; ((with_reducible refine (HLL.out _).mono ?_); rintro e w3 ⟨rfl, hb3⟩; have hB3 : Below wr.heap.size wr w3 := bj (And.left (by with_reducible assumption)) hb3))
          | fail)
        all_goals
          go_wp2
          first
          | (go_roundw
             case rel =>
               refine ⟨k + 1, by omega, by go_num, fun i x y hi hx hy => ?_, bj hbel hB3⟩
               rcases Nat.lt_or_ge i k with c | c
               · exact HA.out i x y c hx hy
               · obtain rfl : i = k := by omega
                 rw [HXY.out.1] at hx
                 rw [HXY.out.2] at hy
                 rw [← Option.some.inj hx, ← Option.some.inj hy]
                 exact HO.out
             case measure => simp [intOf]; omega)
          | (go_ret
             exact ⟨by rw [Hno.out k _ _ HXY.out.1 HXY.out.2 HO.out]; rfl, bj hbel hB3⟩)
    · have s1 : ¬ (k : Int) + 1 < (n : Int) := by omega
      have hyes := Hyes.out (fun i x y hx hy => HA.out i x y (by have := (List.getElem?_eq_some_iff.1 hy).1; rw [← HN.out] at this; omega) hx hy)
      subst hyes
      go_wp2
      go_ret
      exact ⟨rfl, hbel⟩
end Go.Proofs.Ytifhiiokgpbhmaa
