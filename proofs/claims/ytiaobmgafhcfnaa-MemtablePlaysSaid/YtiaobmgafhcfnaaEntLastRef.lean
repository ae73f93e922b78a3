/- Last, Sorted of entries: the document's. -/
import Derived.Test.YtiaobmgafhcfnaaEntLast
import Derived.Test.YtiaobmgafhcfnaaEntSortedOwn
namespace Go.Proofs.Ytiaobmgafhcfnaa
open Go.RowKit Go.Shelf
set_option linter.unusedVariables false

set_option maxHeartbeats 1600000 in
set_option maxRecDepth 100000 in
theorem lastr_any (v : Value) (l : List EntS) (h : Nat) (b : Int) (w : World) (hl : EntsIn w v l) (hn : l.length ≤ 1000000) :
    Calls Try.prog 14 #[v, .int .u64 (h : Nat), .int .i64 b] w fun e w' => e = .returned (.tuple #[entB (lastE l h b), .bool (lastOk l h b)]) ∧ Below w.heap.size w w' := by
  have E0 : EnAt (w.alloc (.cells #[.int .u64 ((0 : Nat) : Int), .int .i64 0, .int .i64 0] 32)) w.heap.size 0 0 0 := Blok.new _ _ _
  have hb := (Below.refl w.heap.size w).alloc (Nat.le_refl _) (.cells #[.int .u64 ((0 : Nat) : Int), .int .i64 0, .int .i64 0] 32)
  obtain ⟨w1, hw1⟩ : ∃ w1, w.alloc (.cells #[.int .u64 ((0 : Nat) : Int), .int .i64 0, .int .i64 0] 32) = w1 := ⟨_, rfl⟩
  rw [hw1] at E0 hb
  have hw1' : w.alloc (.cells #[.int .u64 0, .int .i64 0, .int .i64 0] 32) = w1 := hw1
  clear hw1
  have hl1 := hl.below hb (Nat.le_refl _)
  obtain ⟨A, off, cap, rfl, -, hcell⟩ := hl1.form
  have HC := Lib.hid hcell
  obtain ⟨k0, k1, k2, f0, f1, f2⟩ := E0.facts
  obtain ⟨n, hnn⟩ : ∃ n, n = l.length := ⟨_, rfl⟩
  have HN := Lib.hid hnn
  have Hat := Lib.hid fun (i : Nat) (x : EntS) h1 h2 h3 => show lastE l h b = x ∧ lastOk l h b = true by
    have := enlast_at (p := upQ h b) (l := l) (i := i) (x := x) h1 h2 h3
    have e : lastO l h b = some x := this
    unfold lastE lastOk
    rw [e]
    exact ⟨rfl, rfl⟩
  have Hno := Lib.hid fun h1 => show lastE l h b = ⟨0, 0, 0⟩ ∧ lastOk l h b = false by
    have := last_none (p := upQ h b) (l := l) h1
    have e : lastO l h b = none := this
    unfold lastE lastOk
    rw [e]
    exact ⟨rfl, rfl⟩
  rw [← hnn] at hn ⊢
  clear hl hl1 hcell hnn E0
  generalize lastE l h b = r at *
  generalize lastOk l h b = o at *
  go_enter Try.func14, Try.ntmps14
  go_wp2
  go_loopw [8] (fun i wr => ∃ k : Nat, k ≤ n ∧ i = .int .i64 ((k : Int) - 1) ∧ (∀ (j : Nat) (y : EntS), k ≤ j → l[j]? = some y → upQ h b y = false) ∧ wr = w1) (fun i _ => ((intOf i) + 1).toNat)
  case atStart => exact ⟨n, Nat.le_refl _, by go_num, fun j y hj hy => by have := (List.getElem?_eq_some_iff.1 hy).1; rw [← HN.out] at this; omega, rfl⟩
  case round =>
    obtain ⟨k, hk, rfl, hall, rfl⟩ := hrel
    have HA := Lib.hid hall
    clear hall
    by_cases h0 : k = 0
    · subst h0
      obtain ⟨rfl, rfl⟩ := Hno.out (fun y hy => by obtain ⟨j, hj⟩ := List.getElem?_of_mem hy; exact HA.out j y (Nat.zero_le _) hj)
      go_wp2
      exact bodyPost_ret (v := .tuple #[entB ⟨0, 0, 0⟩, .bool false]) (by simp [results, Try.results14, go_sem, k0, k1, k2]) rfl ⟨rfl, low3 hb (Nat.le_refl _) _ _ _⟩
    · obtain ⟨m, hkm⟩ : ∃ m, k = m + 1 := ⟨k - 1, by omega⟩
      obtain ⟨x, hx⟩ : ∃ x, l[m]? = some x := ⟨_, List.getElem?_eq_getElem (by rw [← HN.out]; omega)⟩
      obtain ⟨bk, rfl, hbk, d0, d1, d2⟩ := HC.out m x hx
      have q1 : (k : Int) - 1 = (m : Int) := by omega
      have q3 : (m : Int) < (n : Int) := by omega
      have q4 : (m : Int) ≤ 1000000 := by omega
      have HX := Lib.hid hx
      have HKM := Lib.hid hkm
      have HQ := Lib.hid (show upQ h b x = decide (x.h = h ∧ x.v ≤ b) from rfl)
      clear hx hkm h0
      by_cases hin : x.h = h ∧ x.v ≤ b
      · obtain ⟨rfl, rfl⟩ := Hat.out m x HX.out (by rw [HQ.out]; exact decide_eq_true hin) (fun j y hj hy => HA.out j y (by have := HKM.out; omega) hy)
        obtain ⟨i1, i2⟩ := hin
        clear HQ HX
        obtain ⟨xh, xv, xp⟩ := r
        simp only at d0 d1 d2 i1 i2
        subst i1
        go_wp2
        exact bodyPost_ret (v := .tuple #[entB ⟨xh, xv, xp⟩, .bool true]) (by simp [results, Try.results14, go_sem, k0, k1, k2]) rfl ⟨rfl, low3 hb (Nat.le_refl _) _ _ _⟩
      · have HV := Lib.hid (show ∀ (j : Nat) (y : EntS), m ≤ j → l[j]? = some y → upQ h b y = false from fun j y hj hy => by
          rcases Nat.lt_or_ge m j with c | c
          · exact HA.out j y (by have := HKM.out; omega) hy
          · obtain rfl : j = m := by omega
            rw [HX.out] at hy
            obtain rfl := Option.some.inj hy
            rw [HQ.out]
            exact decide_eq_false hin)
        clear HQ HX
        obtain ⟨xh, xv, xp⟩ := x
        simp only at d0 d1 d2 hin
        by_cases i1 : xh = h
        · subst i1
          have i2 : ¬ xv ≤ b := fun t => hin ⟨rfl, t⟩
          clear hin
          go_wp2
          go_roundw
          case rel => exact ⟨m, by omega, by go_num, HV.out, by first | rfl | trivial⟩
          case measure => simp [intOf]; omega
        · have t2 : ((xh : Int) == (h : Int)) = false := beq_eq_false_iff_ne.2 (by omega)
          clear hin
          go_wp2
          go_roundw
          case rel => exact ⟨m, by omega, by go_num, HV.out, by first | rfl | trivial⟩
          case measure => simp [intOf]; omega

end Go.Proofs.Ytiaobmgafhcfnaa
