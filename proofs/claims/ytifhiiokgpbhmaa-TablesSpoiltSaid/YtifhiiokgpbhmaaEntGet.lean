/- The entry of bytes: the program's. -/
import Derived.Test.YtifhiiokgpbhmaaEntOne
namespace Go.Proofs.Ytifhiiokgpbhmaa
open Go.RowKit
set_option linter.unusedVariables false

theorem Blok.below {w w' : World} {g : Nat} {t : TypeId} {cs : Array Value} (h : Blok w g t cs) (hb : Below w.heap.size w w') : Blok w' g t cs := (hb.block g h.lt).trans h
/-- An entry in memory. -/
abbrev EnAt (w : World) (g : Nat) (h : Nat) (v p : Int) : Prop := Blok w g 36 #[.int .u64 (h : Nat), .int .i64 v, .int .i64 p]
theorem EnAt.put0 {w : World} {g h : Nat} {v p : Int} (H : EnAt w g h v p) (h' : Nat) : EnAt (w.setCell ⟨g, 0, none⟩ (.int .u64 (h' : Nat))) g h' v p := Blok.put H 0 _
theorem EnAt.put1 {w : World} {g h : Nat} {v p : Int} (H : EnAt w g h v p) (v' : Int) : EnAt (w.setCell ⟨g, 1, none⟩ (.int .i64 v')) g h v' p := Blok.put H 1 _
theorem EnAt.put2 {w : World} {g h : Nat} {v p : Int} (H : EnAt w g h v p) (p' : Int) : EnAt (w.setCell ⟨g, 2, none⟩ (.int .i64 p')) g h v p' := Blok.put H 2 _
theorem EnAt.facts {w : World} {g h : Nat} {v p : Int} (H : EnAt w g h v p) : w.cell? ⟨g, 0, none⟩ = some (.int .u64 (h : Nat)) ∧ w.cell? ⟨g, 1, none⟩ = some (.int .i64 v) ∧ w.cell? ⟨g, 2, none⟩ = some (.int .i64 p) ∧ w.frozen? ⟨g, 0, none⟩ = false ∧ w.frozen? ⟨g, 1, none⟩ = false ∧ w.frozen? ⟨g, 2, none⟩ = false :=
  ⟨Blok.cell H 0, Blok.cell H 1, Blok.cell H 2, Blok.frozen H 0, Blok.frozen H 1, Blok.frozen H 2⟩
theorem low3 {w w2 : World} {g : Nat} (h : Below w.heap.size w w2) (hg : w.heap.size ≤ g) (a b c : Value) :
    Below w.heap.size w (((w2.setCell ⟨g, 0, none⟩ a).setCell ⟨g, 1, none⟩ b).setCell ⟨g, 2, none⟩ c) := ((h.setCell hg _).setCell hg _).setCell hg _

theorem wrap_pos (n : Nat) (h : n < 18446744073709551616) : (0 ≤ IntKind.i64.wrap (n : Int) ↔ n < 9223372036854775808) ∧ (n < 9223372036854775808 → IntKind.i64.wrap (n : Int) = n) := by
  rw [IntKind.wrap_i64]
  constructor
  · omega
  · intro; omega
theorem may_got {s : ByteArray} (hz : s.size = 24) : mayE ⟨getS (s.extract 0 8), IntKind.i64.wrap (enV s : Nat), IntKind.i64.wrap (enP s : Nat)⟩ = enOk s ∧ (enOk s = true → enG s = ⟨getS (s.extract 0 8), IntKind.i64.wrap (enV s : Nat), IntKind.i64.wrap (enP s : Nat)⟩) := by
  have h1 := wrap_pos (enV s) (getS_lt _)
  have h2 := wrap_pos (enP s) (getS_lt _)
  constructor
  · unfold mayE enOk
    rw [decide_eq_decide]
    simp only
    rw [h1.1, h2.1]
    exact ⟨fun h => ⟨hz, h⟩, fun h => h.2⟩
  · intro h
    have h3 := of_decide_eq_true h
    unfold enG
    rw [if_pos h, h1.2 h3.2.1, h2.2 h3.2.2]

theorem eget_short (s : ByteArray) (w : World) (hs : s.size ≤ maxLen) (hz : s.size ≠ 24) :
    Calls Try.prog 28 #[.string s] w fun e w' => e = .returned (.tuple #[entB ⟨0, 0, 0⟩, .bool false]) ∧ Below w.heap.size w w' := by
  unfold maxLen at hs
  have t : ((s.size : Int) != 24) = true := by simp; omega
  have E0 : EnAt (w.alloc (.cells #[.int .u64 ((0 : Nat) : Int), .int .i64 0, .int .i64 0] 36)) w.heap.size 0 0 0 := Blok.new _ _ _
  have hb := (Below.refl w.heap.size w).alloc (Nat.le_refl _) (.cells #[.int .u64 ((0 : Nat) : Int), .int .i64 0, .int .i64 0] 36)
  obtain ⟨w1, hw1⟩ : ∃ w1, w.alloc (.cells #[.int .u64 ((0 : Nat) : Int), .int .i64 0, .int .i64 0] 36) = w1 := ⟨_, rfl⟩
  rw [hw1] at E0 hb
  have hw1' : w.alloc (.cells #[.int .u64 0, .int .i64 0, .int .i64 0] 36) = w1 := hw1
  clear hw1
  obtain ⟨k0, k1, k2, f0, f1, f2⟩ := E0.facts
  clear E0
  go_enter Try.func28, Try.ntmps28
  go_wp2
  exact bodyPost_ret (v := .tuple #[entB ⟨0, 0, 0⟩, .bool false]) (by simp [results, Try.results28, go_sem, k0, k1, k2]) rfl ⟨rfl, low3 hb (Nat.le_refl _) _ _ _⟩
set_option maxHeartbeats 1000000 in
theorem eget_long (s : ByteArray) (w : World) (hz : s.size = 24) :
    Calls Try.prog 28 #[.string s] w fun e w' => e = .returned (.tuple #[entB (enG s), .bool (enOk s)]) ∧ Below w.heap.size w w' := by
  have G0 := Lib.hid fun W => get_any (s.extract 0 8) W (by unfold maxLen; rw [ByteArray.size_extract]; omega)
  have G1 := Lib.hid fun W => get_any (s.extract 8 16) W (by unfold maxLen; rw [ByteArray.size_extract]; omega)
  have G2 := Lib.hid fun W => get_any (s.extract 16 24) W (by unfold maxLen; rw [ByteArray.size_extract]; omega)
  obtain ⟨m1, m2⟩ := may_got hz
  have HM := fun W => may_any ⟨getS (s.extract 0 8), IntKind.i64.wrap (enV s : Nat), IntKind.i64.wrap (enP s : Nat)⟩ W
  rw [m1] at HM
  have HM2 := Lib.hid HM
  have hN := enG_no (s := s)
  unfold enV enP at *
  clear HM m1
  generalize getS (s.extract 0 8) = h at *
  generalize getS (s.extract 8 16) = nv at *
  generalize getS (s.extract 16 24) = np at *
  obtain ⟨v, hv⟩ : ∃ v, IntKind.i64.wrap (nv : Int) = v := ⟨_, rfl⟩
  obtain ⟨p, hp⟩ : ∃ p, IntKind.i64.wrap (np : Int) = p := ⟨_, rfl⟩
  rw [hv, hp] at HM2 m2
  have t : ((s.size : Int) != 24) = false := by simp; omega
  have E0 : EnAt (w.alloc (.cells #[.int .u64 ((0 : Nat) : Int), .int .i64 0, .int .i64 0] 36)) w.heap.size 0 0 0 := Blok.new _ _ _
  have hb := (Below.refl w.heap.size w).alloc (Nat.le_refl _) (.cells #[.int .u64 ((0 : Nat) : Int), .int .i64 0, .int .i64 0] 36)
  obtain ⟨w1, hw1⟩ : ∃ w1, w.alloc (.cells #[.int .u64 ((0 : Nat) : Int), .int .i64 0, .int .i64 0] 36) = w1 := ⟨_, rfl⟩
  rw [hw1] at E0 hb
  have hw1' : w.alloc (.cells #[.int .u64 0, .int .i64 0, .int .i64 0] 36) = w1 := hw1
  clear hw1
  have E1 := Lib.hid (E0.put0 h)
  obtain ⟨k0, k1, k2, f0, f1, f2⟩ := E0.facts
  clear E0
  cases hok : enOk s
  all_goals
    rw [hok] at HM2
    first | rw [hN hok] | rw [m2 hok]
    clear hN m2 hok
    go_enter Try.func28, Try.ntmps28
    go_wp2_with fail
    refine (G0.out _).mono ?_
    rintro e w' ⟨rfl, rfl⟩
    go_wp2_with fail
    refine (G1.out _).mono ?_
    rintro e w' ⟨rfl, rfl⟩
    go_wp2_with fail
    refine (G2.out _).mono ?_
    rintro e w' ⟨rfl, rfl⟩
    have E3 := Lib.hid ((E1.out.put1 v).put2 p)
    have hb3 := low3 hb (Nat.le_refl _) (.int .u64 (h : Nat)) (.int .i64 v) (.int .i64 p)
    clear E1
    go_wp2_with fail
    refine (HM2.out _).mono ?_
    rintro e w2 ⟨rfl, hb4⟩
    have hb5 := bj hb3 hb4
    have E4 : EnAt w2 w.heap.size h v p := Blok.below E3.out hb4
    clear k0 k1 k2 f0 f1 f2 hb4 hb3 E3 hb hw1'
    obtain ⟨k0, k1, k2, f0, f1, f2⟩ := E4.facts
    go_wp2
    first
    | exact bodyPost_ret (v := .tuple #[entB ⟨0, 0, 0⟩, .bool false]) (by simp [results, Try.results28, go_sem, k0, k1, k2]) rfl ⟨rfl, low3 hb5 (Nat.le_refl _) _ _ _⟩
    | exact bodyPost_ret (v := .tuple #[entB ⟨h, v, p⟩, .bool true]) (by simp [results, Try.results28, go_sem, k0, k1, k2]) rfl ⟨rfl, low3 hb5 (Nat.le_refl _) _ _ _⟩
theorem eget_any (s : ByteArray) (w : World) (hs : s.size ≤ maxLen) :
    Calls Try.prog 28 #[.string s] w fun e w' => e = .returned (.tuple #[entB (enG s), .bool (enOk s)]) ∧ Below w.heap.size w w' := by
  by_cases hz : s.size = 24
  · exact eget_long s w hz
  · have h := en_size hz
    rw [enG_no h, h]
    exact eget_short s w hs hz
end Go.Proofs.Ytifhiiokgpbhmaa
