/- The document's Has and Make. -/
import Derived.Test.YtdgcagcgboinpaaBlProbe
import Derived.Test.YtdgcagcgboinpaaBlRow
import Derived.Test.YtdgcagcgboinpaaNumsMath
import Derived.Test.YtdgcagcgboinpaaU64s
namespace Go.Proofs.Ytdgcagcgboinpaa
open Go.RowKit
set_option linter.unusedVariables false

/-- What is asked up to a probe. -/
theorem asksTo_mem {g : Nat} {p b : Int} {i : Nat} (hi : i < nps p) : prb g (i : Nat) b ∈ asksL g p b := asksL_mem.2 ⟨i, hi, rfl⟩

theorem bit_low (c k : Nat) : (((c : Int) / 2 ^ k).tmod 2 == 0) = !c.testBit k := by
  have e : (c : Int) / 2 ^ k = ((c / 2 ^ k : Nat) : Int) := by rw [Int.natCast_ediv, Int.natCast_pow]; rfl
  have h := bit_shift (c := c) (k := k)
  rw [e]
  have e2 : ((c / 2 ^ k : Nat) : Int).tmod 2 = ((c / 2 ^ k % 2 : Nat) : Int) := (Int.ofNat_tmod _ 2).symm
  rw [e2]
  have hz2 := Nat.mod_lt (c / 2 ^ k) (by decide : 0 < 2)
  generalize c / 2 ^ k % 2 = z at *
  cases hb : c.testBit k with
  | true =>
    rw [hb] at h
    have := h.2 rfl
    subst this
    rfl
  | false =>
    rw [hb] at h
    exact beq_iff_eq.2 (by
      have hz1 : ¬ z = 1 := fun e => by have := h.1 e; cases this
      have hz : z = 0 := by omega
      rw [hz]; rfl)

set_option maxHeartbeats 1000000 in
theorem has_ref (p : Int) (g : Nat) (s : ByteArray) (w : World) (hg : g < 18446744073709551616) (wp : (Lit.int .i64 p).wf = true) (hm : s.size ≤ 1000000) :
    Calls Try.prog 12 #[.string s, .int .i64 p, .int .u64 (g : Nat)] w fun e w' => e = .returned (.bool (hasL s.data.toList p g)) ∧ w = w' := by
  have hl : s.data.toList.length = s.size := by rw [Array.length_toList]; rfl
  by_cases hs : s.size = 0
  · have e : s.data.toList = [] := List.length_eq_zero_iff.1 (by rw [hl]; exact hs)
    rw [e, hasL_nil]
    have h0 : ¬ (0 : Int) < (s.size : Int) := by omega
    go_enter Try.func12, Try.ntmps12
    go_wp2
    refine wp_loop_rounds 1 ?_
    rw [rounds_succ]
    go_wp2
    all_goals
      go_ret
      exact ⟨rfl, rfl⟩
  · have hl0 : 0 < s.data.toList.length := by omega
    have Hyes := Lib.hid (hasL_yes (l := s.data.toList) hl0 (p := p) (h := g))
    have Hno := Lib.hid (fun (k : Nat) => hasL_no (l := s.data.toList) hl0 (p := p) (h := g) (k := k))
    rw [hl] at Hyes Hno
    clear hl0
    generalize hasL s.data.toList p g = r at *
    obtain ⟨b, hb⟩ : ∃ b : Int, ((8 * s.size : Nat) : Int) = b := ⟨_, rfl⟩
    have eb : 8 * (s.size : Int) = b := by omega
    rw [hb] at Hyes Hno
    have wb : (Lit.int .i64 b).wf = true := WalkArith.wf_i64 (by omega)
    have hb1 : 1 ≤ b := by omega
    clear hb
    have h0 : (0 : Int) < (s.size : Int) := by omega
    have bp := bounds_i64 wp
    have h64 := nps_le p
    have hnp : (nps p : Int) = max 0 (min p 64) := by unfold nps; omega
    have HP := Lib.hid fun (i : Nat) (w : World) (hi : i < 64) => probe_ref g (i : Nat) b w hg (WalkArith.wf_i64 (by omega)) wb
    go_enter Try.func12, Try.ntmps12
    go_wp2
    go_loop [7] (fun i => ∃ k : Nat, k ≤ nps p ∧ i = .int .i64 k ∧ ∀ j, j < k → bitL s.data.toList (prb g (j : Nat) b) = true) (fun i => nps p - (intOf i).toNat)
    case atStart => exact ⟨0, Nat.zero_le _, rfl, fun j hj => by omega⟩
    case round =>
      obtain ⟨k, hk, rfl, hall⟩ := hrel
      by_cases hlt : k < nps p
      · have HK := Lib.hid fun w => HP.out k w (by omega)
        have hlx := prb_lt g (k : Nat) hb1
        have hmem := asksTo_mem (g := g) (b := b) hlt
        have HALL := Lib.hid hall
        obtain ⟨x, hxe⟩ : ∃ x, prb g (k : Nat) b = x := ⟨_, rfl⟩
        have HXE := Lib.hid hxe
        rw [hxe] at HK hlx hmem
        clear hall hxe
        obtain ⟨y, hy⟩ : ∃ y, x / 8 = y := ⟨_, rfl⟩
        have s1 : y < s.size := by omega
        have s2 : (y : Int) < (s.size : Int) := by omega
        have s3 : IntKind.i64.wrap ((x : Int) / 8) = (y : Int) := by rw [IntKind.wrap_i64]; omega
        have s4 : ((k : Int) < p) := by omega
        have s5 : ((k : Int) < 64) := by omega
        have hbit : bitL s.data.toList x = (s[y]'s1).toNat.testBit (x % 8) := by
          unfold bitL
          rw [hy, List.getD_eq_getElem?_getD, Array.getElem?_toList, Array.getElem?_eq_getElem (show y < s.data.size from s1)]
          rfl
        have hlow := bit_low (s[y]'s1).toNat (x % 8)
        rw [← hbit] at hlow
        cases hq : bitL s.data.toList x with
        | false =>
          have hr := Hno.out x hmem hq
          subst hr
          rw [hq] at hlow
          clear hbit
          go_wp2_with fail
          refine (HK.out _).mono ?_
          rintro e w' ⟨rfl, rfl⟩
          go_wp2
          go_ret
          exact ⟨rfl, rfl⟩
        | true =>
          rw [hq] at hlow
          have HQ := Lib.hid hq
          clear hbit hq
          go_wp2_with fail
          refine (HK.out _).mono ?_
          rintro e w' ⟨rfl, rfl⟩
          go_wp2
          go_round
          case rel =>
            refine ⟨k + 1, by omega, by go_num, fun j hj => ?_⟩
            by_cases e : j = k
            · subst e
              rw [HXE.out]
              exact HQ.out
            · exact HALL.out j (by omega)
          case measure => simp [intOf]; omega
      · obtain rfl : k = nps p := by omega
        have hr := Hyes.out fun z hz => by
          obtain ⟨i, hi, rfl⟩ := asksL_mem.1 hz
          exact hall i hi
        subst hr
        clear hall
        by_cases h5 : (nps p : Int) < p
        · have h6 : ¬ (nps p : Int) < 64 := by omega
          go_wp2
          go_ret
          exact ⟨rfl, rfl⟩
        · go_wp2
          go_ret
          exact ⟨rfl, rfl⟩
end Go.Proofs.Ytdgcagcgboinpaa
