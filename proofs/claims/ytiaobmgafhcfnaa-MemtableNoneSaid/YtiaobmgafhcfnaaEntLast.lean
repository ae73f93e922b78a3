/- Last, Sorted of entries: the program's. -/
import Derived.Test.YtiaobmgafhcfnaaEntRange
namespace Go.Proofs.Ytiaobmgafhcfnaa
open Go.RowKit Go.Shelf
set_option linter.unusedVariables false

set_option maxRecDepth 100000 in
theorem last_any (v : Value) (l : List EntS) (h : Nat) (n : Int) (w : World) (hl : EntsIn w v l) (hn : l.length ≤ 1000000) (hok : ∀ x ∈ l, EntOk x) (hr : RiseE l) :
    Calls Try.prog 25 #[v, .int .u64 (h : Nat), .int .i64 n] w fun e w' => e = .returned (.tuple #[entB (lastE l h n), .bool (lastOk l h n)]) ∧ Below w.heap.size w w' := by
  have E0 : EnAt (w.alloc (.cells #[.int .u64 ((0 : Nat) : Int), .int .i64 0, .int .i64 0] 32)) w.heap.size 0 0 0 := Blok.new _ _ _
  have hb := (Below.refl w.heap.size w).alloc (Nat.le_refl _) (.cells #[.int .u64 ((0 : Nat) : Int), .int .i64 0, .int .i64 0] 32)
  have hl1 := hl.below hb (Nat.le_refl _)
  have H2 := Lib.hid (through_any v l h n _ hl1 hn hok hr)
  have hc := thru_cut hr h n
  have hK : thruE l h n ≤ l.length := countP_le _ l
  generalize thruE l h n = K at *
  obtain ⟨A, off, cap, rfl, -, hcell⟩ := hl1.form
  by_cases h0 : K = 0
  · subst h0
    have e := last_cut_zero hc
    have e1 : lastE l h n = ⟨0, 0, 0⟩ := by unfold lastE; rw [e]; rfl
    have e2 : lastOk l h n = false := by unfold lastOk; rw [e]; rfl
    rw [e1, e2]
    clear hcell hl hl1 hc e e1 e2 hok hr
    generalize l.length = m at *
    go_enter Try.func25, Try.ntmps25
    go_wp2_with fail
    refine H2.out.mono ?_
    rintro e w2 ⟨rfl, hb2⟩
    have E2 : EnAt w2 w.heap.size 0 0 0 := Blok.below E0 hb2
    have hb3 := bj hb hb2
    clear E0 hb hb2 H2
    obtain ⟨k0, k1, k2, f0, f1, f2⟩ := E2.facts
    go_wp2
    exact bodyPost_ret (v := .tuple #[entB ⟨0, 0, 0⟩, .bool false]) (by simp [results, Try.results25, go_sem, k0, k1, k2]) rfl ⟨rfl, low3 hb3 (Nat.le_refl _) _ _ _⟩
  · obtain ⟨k, hk⟩ : ∃ k, K = k + 1 := ⟨K - 1, by omega⟩
    have hkl : k < l.length := by omega
    obtain ⟨x, hx⟩ : ∃ x, l[k]? = some x := ⟨_, List.getElem?_eq_getElem hkl⟩
    obtain ⟨b, rfl, hbk, d0, d1, d2⟩ := hcell k x hx
    have q1 : (K : Int) - 1 = (k : Int) := by omega
    have q2 : ((K : Int) == 0) = false := beq_eq_false_iff_ne.2 (by omega)
    have q3 : IntKind.i64.wrap ((k : Nat) : Int) = (k : Nat) := IntWalk.i64_in _ ⟨by omega, by omega⟩
    rw [hk] at hc
    by_cases hh : x.h = h
    · have e := last_cut hc hx hh
      have e1 : lastE l h n = x := by unfold lastE; rw [e]; rfl
      have e2 : lastOk l h n = true := by unfold lastOk; rw [e]; rfl
      rw [e1, e2]
      have t : ((x.h : Int) != (h : Int)) = false := by simp; omega
      clear hcell hl hl1 hc e e1 e2 hok hr hx
      generalize l.length = m at *
      obtain ⟨xh, xv, xp⟩ := x
      simp only at d0 d1 d2 t
      go_enter Try.func25, Try.ntmps25
      go_wp2_with fail
      refine H2.out.mono ?_
      rintro e w2 ⟨rfl, hb2⟩
      have E2 : EnAt w2 w.heap.size 0 0 0 := Blok.below E0 hb2
      have hb3 := bj hb hb2
      have c0 := (hb2.cell (p := ⟨b, off + k * 3, none⟩) hbk).trans d0
      have c1 := (hb2.cell (p := ⟨b, off + k * 3 + 1, none⟩) hbk).trans d1
      have c2 := (hb2.cell (p := ⟨b, off + k * 3 + 2, none⟩) hbk).trans d2
      clear E0 hb hb2 H2 d0 d1 d2 hk h0 hh
      obtain ⟨k0, k1, k2, f0, f1, f2⟩ := E2.facts
      clear E2
      go_wp2
      exact bodyPost_ret (v := .tuple #[entB ⟨xh, xv, xp⟩, .bool true]) (by simp [results, Try.results25, go_sem, k0, k1, k2]) rfl ⟨rfl, low3 hb3 (Nat.le_refl _) _ _ _⟩
    · have e := last_cut_no hr hc hx hh
      have e1 : lastE l h n = ⟨0, 0, 0⟩ := by unfold lastE; rw [e]; rfl
      have e2 : lastOk l h n = false := by unfold lastOk; rw [e]; rfl
      rw [e1, e2]
      have t : ((x.h : Int) != (h : Int)) = true := by simp; omega
      clear hcell hl hl1 hc e e1 e2 hok hr hx
      generalize l.length = m at *
      obtain ⟨xh, xv, xp⟩ := x
      simp only at d0 d1 d2 t
      go_enter Try.func25, Try.ntmps25
      go_wp2_with fail
      refine H2.out.mono ?_
      rintro e w2 ⟨rfl, hb2⟩
      have E2 : EnAt w2 w.heap.size 0 0 0 := Blok.below E0 hb2
      have hb3 := bj hb hb2
      have c0 := (hb2.cell (p := ⟨b, off + k * 3, none⟩) hbk).trans d0
      clear E0 hb hb2 H2 d0 d1 d2 hk h0 hh
      obtain ⟨k0, k1, k2, f0, f1, f2⟩ := E2.facts
      clear E2
      go_wp2
      exact bodyPost_ret (v := .tuple #[entB ⟨0, 0, 0⟩, .bool false]) (by simp [results, Try.results25, go_sem, k0, k1, k2]) rfl ⟨rfl, low3 hb3 (Nat.le_refl _) _ _ _⟩
end Go.Proofs.Ytiaobmgafhcfnaa
