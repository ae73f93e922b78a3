/- Levels without empty ones at the end: the program's, the document's; a number is put behind a level. -/
import Derived.Test.YtcfidpjhemjbjaaLvWide
namespace Go.Proofs.Ytcfidpjhemjbjaa
open Go.RowKit Go.Shelf
set_option linter.unusedVariables false
set_option maxRecDepth 100000

/-- A row up to a place. -/
theorem lrow_take {w : World} {base n c k : Nat} {A : Option Addr} {L : List LvS} (h : LvRow w base (.slice A n c) L) (hn : n = L.length) (hk : k ≤ n) : LvRow w base (.slice A k c) (L.take k) ∧ sliced A 0 k c 1 = .slice A k c ∧ k ≤ c := by
  subst hn
  have hlen : (L.take k).length = k := by rw [List.length_take]; omega
  rcases h.2 with ⟨hv, h0⟩ | ⟨g, cap, cur, hv, hg, hh, hn, hm, hsz, ht⟩
  · obtain ⟨rfl, -, rfl⟩ := Value.slice.inj hv
    obtain rfl : k = 0 := by omega
    rw [List.take_zero]
    exact ⟨LvRow.nil _ _, rfl, Nat.le_refl _⟩
  · obtain ⟨rfl, -, rfl⟩ := Value.slice.inj hv
    refine ⟨⟨?_, Or.inr ⟨g, c, cur, by rw [hlen], hg, hh, by rw [hlen]; omega, hm, hsz, ?_⟩⟩, ?_, by omega⟩
    · unfold lvals
      rw [List.length_map, Nat.mul_one]
    · rw [hlen]
      have h2 : cur.toList.take (k * 1) = (cur.toList.take (L.length * 1)).take (k * 1) := by rw [List.take_take, Nat.mul_one, Nat.mul_one, Nat.min_eq_left hk]
      rw [h2, ht]
      unfold lvals
      rw [List.map_take, Nat.mul_one]
    · unfold sliced
      by_cases hc : c = 0
      · rw [if_pos (by omega)]
        simp
      · rw [if_neg (by omega)]
        simp [Addr.add]
theorem lslice_to {n c k : Nat} {A : Option Addr} (hk : k ≤ c) (e : sliced A 0 k c 1 = .slice A k c) (W : World) : (Instr.slice 23 (.slice A n c) none (some (.int .i64 (k : Nat))) none).run Try.prog W = .ok (.slice A k c) W := by
  have hz : (sizeOf (Try.prog.elem 23)).run Try.prog W = .ok 1 W := by simp [go_sem]
  rw [run_slice_h W _ _ _ c Try.underlying23 .i64 _ (by omega) (by omega), hz]
  show Result.ok (sliced _ _ _ _ _) W = _
  rw [Int.toNat_natCast, e]
/-- What is left of levels of a call's own. -/
def TrimEnd (w : World) (base : Nat) (M : List LvS) (e : Ending) (w' : World) : Prop := ∃ A t c, e = .returned (.slice A t c) ∧ t = (trimL (lvl M)).length ∧ LvsNew w' base (.slice A t c) (trimL (lvl M)) ∧ w' = w
theorem trimN_succ_no {R : LvL} {k : Nat} {x : List Int} (hx : R[k]? = some x) (h : x.length ≠ 0) : trimN R (k + 1) = k + 1 := by
  unfold trimN
  rw [if_neg]
  rw [List.getD_eq_getElem?_getD, hx]
  exact fun e => h (by rw [show x = [] from e]; rfl)
theorem trimN_succ_yes {R : LvL} {k : Nat} {x : List Int} (hx : R[k]? = some x) (h : x.length = 0) : trimN R (k + 1) = trimN R k := by
  rw [trimN, if_pos]
  rw [List.getD_eq_getElem?_getD, hx]
  exact List.length_eq_zero_iff.1 h
theorem trim_told {w : World} {base n c k : Nat} {A : Option Addr} {M : List LvS} (h : LvRow w base (.slice A n c) M) (ho : LvOwn w base M) (hn : n = M.length) (hk : k = trimN (lvl M) n) :
    k = (trimL (lvl M)).length ∧ LvsNew w base (.slice A k c) (trimL (lvl M)) := by
  have hle := trimN_le (lvl M) n
  have e : trimL (lvl M) = (lvl M).take k := by unfold trimL; rw [lvl_length, ← hn, hk]
  refine ⟨by rw [e, List.length_take, lvl_length]; omega, M.take k, (lrow_take h hn (by omega)).1, ho.take k, by rw [e, lvl_take]⟩
theorem ltrim_any (A : Option Addr) (n c base : Nat) (M : List LvS) (w : World) (h : LvRow w base (.slice A n c) M) (ho : LvOwn w base M) (hn : n = M.length) (hl : n ≤ 100000) :
    Calls Try.prog 23 #[.slice A n c] w (TrimEnd w base M) := by
  have HT := Lib.hid (fun k (hk : k = trimN (lvl M) n) => trim_told h ho hn hk)
  have HS := Lib.hid (fun k (hk : k ≤ n) W => lslice_to (n := n) (lrow_take h hn hk).2.2 (lrow_take h hn hk).2.1 W)
  have HC : Hid (∀ j, j < n → ∃ g A' m c', A = some ⟨g, 0, none⟩ ∧ w.cell? ⟨g, j, none⟩ = some (.slice A' m c') ∧ (m ≠ 0 → trimN (lvl M) (j + 1) = j + 1) ∧ (m = 0 → trimN (lvl M) (j + 1) = trimN (lvl M) j)) := Lib.hid fun j hj => by
    obtain ⟨g, rfl, -, -, -⟩ := LvRow.some_ h (by omega)
    obtain ⟨y, hy⟩ : ∃ y, M[j]? = some y := ⟨_, List.getElem?_eq_getElem (by omega)⟩
    obtain ⟨c1, -⟩ := LvRow.cell h hn hy
    obtain ⟨A', c', e⟩ := (ho y (List.mem_of_getElem? hy)).slice
    rw [e] at c1
    exact ⟨g, A', _, c', rfl, c1, fun h => trimN_succ_no (lvl_at hy) h, fun h => trimN_succ_yes (lvl_at hy) h⟩
  unfold TrimEnd
  generalize (trimL (lvl M)).length = tl at *
  generalize trimL (lvl M) = TR at *
  clear h ho hn
  generalize hf : trimN (lvl M) = f at *
  have HF := Lib.hid (show f 0 = 0 by rw [← hf]; rfl)
  clear hf
  go_enter Try.func23, Try.ntmps23
  go_wp2
  go_loopw [3] (fun u wr => ∃ k : Nat, k ≤ n ∧ u = .int .i64 k ∧ f k = f n ∧ wr = w) (fun u _ => (intOf u).toNat)
  case atStart => exact ⟨n, Nat.le_refl _, rfl, rfl, rfl⟩
  case round =>
    obtain ⟨k, hk, rfl, hfk, rfl⟩ := hrel
    have HFK := Lib.hid hfk
    clear hfk
    cases k with
    | zero =>
      obtain ⟨h1, h2⟩ := HT.out 0 (by rw [← HFK.out, HF.out])
      have H1 := Lib.hid h1
      have H2 := Lib.hid h2
      have hs : ∀ W, (Instr.slice 23 (.slice A n c) none (some (.int .i64 0)) none).run Try.prog W = .ok (.slice A 0 c) W := fun W => HS.out 0 (by omega) W
      clear h1 h2
      go_wp2
      go_ret
      exact ⟨_, _, _, rfl, H1.out, H2.out, rfl⟩
    | succ j =>
      obtain ⟨g, A', m, c', rfl, c1, h1, h2⟩ := HC.out j (by omega)
      have q1 : decide ((0 : Int) < ((j + 1 : Nat) : Int)) = true := decide_eq_true (by omega)
      have q2 : IntKind.i64.wrap (((j + 1 : Nat) : Int) - 1) = (j : Int) := by rw [IntWalk.i64_in _ ⟨by omega, by omega⟩]; omega
      have q3 : (j : Int) < (n : Int) := by omega
      by_cases h0 : m = 0
      · subst h0
        have HE := Lib.hid ((h2 rfl).symm.trans HFK.out)
        clear h1 h2
        go_wp2
        exact ⟨⟨j, by omega, rfl, HE.out, trivial⟩, by simp [intOf]⟩
      · obtain ⟨h3, h4⟩ := HT.out (j + 1) (by rw [← HFK.out, h1 h0])
        have q4 : (((m : Nat) : Int) == 0) = false := beq_eq_false_iff_ne.2 (by omega)
        have q5 : (m == 0) = false := beq_eq_false_iff_ne.2 h0
        have hs : ∀ W, (Instr.slice 23 (.slice (some ⟨g, 0, none⟩) n c) none (some (.int .i64 ((j : Int) + 1))) none).run Try.prog W = .ok (.slice (some ⟨g, 0, none⟩) (j + 1) c) W := fun W => HS.out (j + 1) (by omega) W
        have H3 := Lib.hid h3
        have H4 := Lib.hid h4
        clear h1 h2 h3 h4 h0
        go_wp2
        go_ret
        exact ⟨_, _, _, rfl, H3.out, H4.out, rfl⟩
end Go.Proofs.Ytcfidpjhemjbjaa
