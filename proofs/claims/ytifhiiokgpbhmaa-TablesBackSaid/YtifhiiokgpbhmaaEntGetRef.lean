/- The entry of bytes: the document's. -/
import Derived.Test.YtifhiiokgpbhmaaEntGet
import Derived.Test.YtifhiiokgpbhmaaNumsGetRef
namespace Go.Proofs.Ytifhiiokgpbhmaa
open Go.RowKit
set_option linter.unusedVariables false

theorem pow_7 : (256 : Nat) ^ 7 = 72057594037927936 := by decide
theorem first_byte (s : ByteArray) (i : Nat) (h : i + 8 ≤ s.size) : (getS (s.extract i (i + 8)) < 9223372036854775808 ↔ s[i].toNat ≤ 127) := by
  have hl : s.data.toList.length = s.size := Array.length_toList
  have hd : s.data.toList.drop i = s[i] :: s.data.toList.drop (i + 1) := by
    rw [List.drop_eq_getElem_cons (by omega)]
    rfl
  have e : (s.extract i (i + 8)).data.toList = s[i] :: (s.data.toList.drop (i + 1)).take 7 := by
    rw [ext_list, hd, show i + 8 - i = 7 + 1 by omega, List.take_succ_cons]
  have hlen : ((s.data.toList.drop (i + 1)).take 7).length = 7 := by rw [List.length_take, List.length_drop]; omega
  rw [getS_of e (by rw [List.length_cons, hlen]), un_cons, hlen]
  have h2 := un_lt ((s.data.toList.drop (i + 1)).take 7)
  rw [hlen] at h2
  generalize un ((s.data.toList.drop (i + 1)).take 7) = r at *
  rw [pow_7] at *
  have := s[i].toNat_lt
  generalize s[i].toNat = c at *
  omega
theorem enOk_bytes {s : ByteArray} (hz : s.size = 24) : enOk s = decide (s[8].toNat ≤ 127 ∧ s[16].toNat ≤ 127) := by
  unfold enOk enV enP
  rw [decide_eq_decide, first_byte s 8 (by omega), first_byte s 16 (by omega)]
  exact ⟨fun h => h.2, fun h => ⟨hz, h⟩⟩
theorem low_own {B : Nat} {W0 W : World} {o : Obj} (h : Below B W0 W) (hB : B ≤ W.heap.size) : Below B W0 (W.alloc o) := h.alloc hB o
theorem low_put {B : Nat} {W0 W : World} {b i : Nat} {u : Value} (h : Below B W0 W) (hp : B ≤ b) : Below B W0 (W.setCell ⟨b, i, none⟩ u) := h.setCell hp u

theorem egetr_no (s : ByteArray) (w : World) (hs : s.size ≤ maxLen) (hok : enOk s = false) :
    Calls Try.prog 29 #[.string s] w fun e w' => e = .returned (.tuple #[entB ⟨0, 0, 0⟩, .bool false]) ∧ Below w.heap.size w w' := by
  unfold maxLen at hs
  have E0 : EnAt (w.alloc (.cells #[.int .u64 ((0 : Nat) : Int), .int .i64 0, .int .i64 0] 36)) w.heap.size 0 0 0 := Blok.new _ _ _
  have hb := (Below.refl w.heap.size w).alloc (Nat.le_refl _) (.cells #[.int .u64 ((0 : Nat) : Int), .int .i64 0, .int .i64 0] 36)
  obtain ⟨w1, hw1⟩ : ∃ w1, w.alloc (.cells #[.int .u64 ((0 : Nat) : Int), .int .i64 0, .int .i64 0] 36) = w1 := ⟨_, rfl⟩
  rw [hw1] at E0 hb
  have hw1' : w.alloc (.cells #[.int .u64 0, .int .i64 0, .int .i64 0] 36) = w1 := hw1
  clear hw1
  obtain ⟨k0, k1, k2, f0, f1, f2⟩ := E0.facts
  clear E0
  by_cases hz : s.size = 24
  · rw [enOk_bytes hz] at hok
    have h := of_decide_eq_false hok
    clear hok
    have t : ((s.size : Int) != 24) = false := by simp; omega
    have i1 : (8 : Int) < (s.size : Int) := by omega
    have i2 : (16 : Int) < (s.size : Int) := by omega
    have i3 : 8 < s.size := by omega
    have i4 : 16 < s.size := by omega
    by_cases c : 127 < s[8].toNat
    · clear h
      go_enter Try.func29, Try.ntmps29
      go_wp2
      exact bodyPost_ret (v := .tuple #[entB ⟨0, 0, 0⟩, .bool false]) (by simp [results, Try.results29, go_sem, k0, k1, k2]) rfl ⟨rfl, low3 hb (Nat.le_refl _) _ _ _⟩
    · have c2 : 127 < s[16].toNat := by omega
      clear h
      go_enter Try.func29, Try.ntmps29
      go_wp2
      exact bodyPost_ret (v := .tuple #[entB ⟨0, 0, 0⟩, .bool false]) (by simp [results, Try.results29, go_sem, k0, k1, k2]) rfl ⟨rfl, low3 hb (Nat.le_refl _) _ _ _⟩
  · have t : ((s.size : Int) != 24) = true := by simp; omega
    go_enter Try.func29, Try.ntmps29
    go_wp2
    exact bodyPost_ret (v := .tuple #[entB ⟨0, 0, 0⟩, .bool false]) (by simp [results, Try.results29, go_sem, k0, k1, k2]) rfl ⟨rfl, low3 hb (Nat.le_refl _) _ _ _⟩
set_option maxHeartbeats 1600000 in
theorem egetr_yes (s : ByteArray) (w : World) (hok : enOk s = true) :
    Calls Try.prog 29 #[.string s] w fun e w' => e = .returned (.tuple #[entB (enG s), .bool true]) ∧ Below w.heap.size w w' := by
  have h3 := of_decide_eq_true hok
  have hz := h3.1
  have hq := hok
  rw [enOk_bytes hz] at hq
  have hby := of_decide_eq_true hq
  have i3 : 8 < s.size := Nat.lt_of_lt_of_eq (by decide) hz.symm
  have i4 : 16 < s.size := Nat.lt_of_lt_of_eq (by decide) hz.symm
  have h8 : (s[8]'i3).toNat ≤ 127 := hby.1
  have h16 : (s[16]'i4).toNat ≤ 127 := hby.2
  have G0 := Lib.hid fun W => get_ref (s.extract 0 8) W (by unfold maxLen; rw [ByteArray.size_extract]; omega)
  have G1 := Lib.hid fun W => get_ref (s.extract 8 16) W (by unfold maxLen; rw [ByteArray.size_extract]; omega)
  have G2 := Lib.hid fun W => get_ref (s.extract 16 24) W (by unfold maxLen; rw [ByteArray.size_extract]; omega)
  have eG : enG s = ⟨getS (s.extract 0 8), (enV s : Nat), (enP s : Nat)⟩ := by unfold enG; rw [if_pos hok]
  obtain ⟨_, hv, hp⟩ := h3
  rw [eG]
  unfold enV enP at *
  clear eG hok hq hby
  generalize getS (s.extract 0 8) = h at *
  generalize getS (s.extract 8 16) = v at *
  generalize getS (s.extract 16 24) = p at *
  have t : ((s.size : Int) != 24) = false := by simp; omega
  have q1 : IntKind.i64.wrap ((v : Nat) : Int) = (v : Nat) := IntWalk.i64_in _ ⟨by omega, by omega⟩
  have q2 : IntKind.i64.wrap ((p : Nat) : Int) = (p : Nat) := IntWalk.i64_in _ ⟨by omega, by omega⟩
  have i1 : (8 : Int) < (s.size : Int) := by omega
  have i2 : (16 : Int) < (s.size : Int) := by omega
  have i5 : (16 : Int) ≤ (s.size : Int) := by omega
  have i6 : (24 : Int) ≤ (s.size : Int) := by omega
  have i7 : (8 : Int) ≤ (s.size : Int) := by omega
  go_enter Try.func29, Try.ntmps29
  go_wp2_with fail
  go_region_held3 (fun W => Below w.heap.size w W)
    (first | (with_reducible assumption) | ((repeat' (first | (with_reducible assumption) | (with_reducible exact Below.refl _ _) | (with_reducible refine low_put ?_ ?_) | (with_reducible refine Below.drew ?_) | (with_reducible refine low_own ?_ ?_) | (with_reducible exact Nat.le_refl _))); done) | fail) (first
    | (go_at_call 38; ((with_reducible refine (G0.out _).mono ?_); rintro e w' ⟨rfl, rfl⟩))
    | (go_at_call 38; ((with_reducible refine (G1.out _).mono ?_); rintro e w' ⟨rfl, rfl⟩))
    | (go_at_call 38; ((with_reducible refine (G2.out _).mono ?_); rintro e w' ⟨rfl, rfl⟩))
    | fail)
  all_goals
    go_wp2
    exact bodyPost_ret (v := .tuple #[entB ⟨h, (v : Nat), (p : Nat)⟩, .bool true]) (by simp [results, Try.results29, go_sem]) rfl ⟨rfl, by first | assumption | (with_reducible refine low3 ?_ (Nat.le_refl _) _ _ _; assumption)⟩
theorem eget_ref (s : ByteArray) (w : World) (hs : s.size ≤ maxLen) :
    Calls Try.prog 29 #[.string s] w fun e w' => e = .returned (.tuple #[entB (enG s), .bool (enOk s)]) ∧ Below w.heap.size w w' := by
  cases h : enOk s with
  | true => exact egetr_yes s w h
  | false => rw [enG_no h]; exact egetr_no s w hs h
end Go.Proofs.Ytifhiiokgpbhmaa
