/- Read of events: the program's. -/
import Derived.Test.YtnefofcofccmfaaEventsOne
import Derived.RegionTactic
namespace Go.Proofs.Ytnefofcofccmfaa
open Go.RowKit
set_option linter.unusedVariables false

theorem run_store_float (P : Program) (w : World) (a : Addr) (m : Mode) (k : FloatKind) (b : Nat) : (store a (.float k b) m).run P w = stored P w a (.float k b) m := run_store P w a _ m rfl
attribute [local go_sem] run_store_float

/-- An event in memory: three cells, none of them marked. -/
def EvAt (w : World) (g : Nat) (t d : ByteArray) (b : Nat) : Prop := w.heap[g]? = some (.cells #[.string t, .string d, .float .f64 b] 47 (0, 0))
theorem EvAt.c0 {w : World} {g : Nat} {t d : ByteArray} {b : Nat} (h : EvAt w g t d b) : w.cell? ⟨g, 0, none⟩ = some (.string t) := by unfold EvAt at h; simp [World.cell?, h]
theorem EvAt.c1 {w : World} {g : Nat} {t d : ByteArray} {b : Nat} (h : EvAt w g t d b) : w.cell? ⟨g, 1, none⟩ = some (.string d) := by unfold EvAt at h; simp [World.cell?, h]
theorem EvAt.c2 {w : World} {g : Nat} {t d : ByteArray} {b : Nat} (h : EvAt w g t d b) : w.cell? ⟨g, 2, none⟩ = some (.float .f64 b) := by unfold EvAt at h; simp [World.cell?, h]
theorem EvAt.fz {w : World} {g : Nat} {t d : ByteArray} {b : Nat} (h : EvAt w g t d b) (i : Nat) : w.frozen? ⟨g, i, none⟩ = false := by unfold EvAt at h; simp [World.frozen?, h]
theorem EvAt.new (w : World) (t d : ByteArray) (b : Nat) : EvAt (w.alloc (.cells #[.string t, .string d, .float .f64 b] 47)) w.heap.size t d b := by
  show (w.heap.push _)[w.heap.size]? = _
  simp
theorem EvAt.lt {w : World} {g : Nat} {t d : ByteArray} {b : Nat} (h : EvAt w g t d b) : g < w.heap.size := by
  obtain ⟨hlt, _⟩ := Array.getElem?_eq_some_iff.1 h
  exact hlt
theorem EvAt.below {w w' : World} {g : Nat} {t d : ByteArray} {b : Nat} (h : EvAt w g t d b) (hb : Below w.heap.size w w') : EvAt w' g t d b := (hb.block g h.lt).trans h
theorem EvAt.alloc {w : World} {g : Nat} {t d : ByteArray} {b : Nat} (h : EvAt w g t d b) (o : Obj) : EvAt (w.alloc o) g t d b := (Below.heap_alloc w o g h.lt).trans h
theorem EvAt.set3 {w : World} {g : Nat} {t d : ByteArray} {b : Nat} (h : EvAt w g t d b) (t' d' : ByteArray) (b' : Nat) :
    EvAt (((w.setCell ⟨g, 0, none⟩ (.string t')).setCell ⟨g, 1, none⟩ (.string d')).setCell ⟨g, 2, none⟩ (.float .f64 b')) g t' d' b' := by
  unfold EvAt at h ⊢
  simp [World.setCell, Array.getElem?_modify, h]
theorem below_set3 {w w2 : World} (h : Below w.heap.size w w2) (t' d' : Value) (b' : Value) :
    Below w.heap.size w (((w2.setCell ⟨w.heap.size, 0, none⟩ t').setCell ⟨w.heap.size, 1, none⟩ d').setCell ⟨w.heap.size, 2, none⟩ b') := ((h.setCell (Nat.le_refl _) _).setCell (Nat.le_refl _) _).setCell (Nat.le_refl _) _

theorem read_no_one (s : ByteArray) (w : World) (hs : s.size ≤ maxLen) (h : ¬ 8 ≤ (erL s).size) :
    Calls Try.prog 52 #[.string s] w fun e w' => e = .returned (.tuple #[.agg #[.string ByteArray.empty, .string ByteArray.empty, .float .f64 0], .string ByteArray.empty, .bool false]) ∧ Below w.heap.size w w' := by
  have H1 := Lib.hid fun W => read_any s W hs
  have H2 := Lib.hid fun W => read_any (rdB s) W (Nat.le_trans (rdB_size s) hs)
  have hl : (erL s).size < 8 := by omega
  have he : rdB (rdB s) = erL s := rfl
  rw [he] at H2
  have E0 := EvAt.new w ByteArray.empty ByteArray.empty 0
  generalize erL s = L at *
  generalize rdB s = R at *
  generalize rdA s = A at *
  generalize rdOk s = o at *
  generalize rdA R = A2 at *
  generalize rdOk R = o2 at *
  clear he h hs
  go_enter Try.func52, Try.ntmps52
  go_wp2_with fail
  refine (H1.out _).mono ?_
  rintro e w1 ⟨rfl, hb1⟩
  have E1 := E0.below hb1
  go_wp2_with fail
  refine (H2.out _).mono ?_
  rintro e w2 ⟨rfl, hb2⟩
  have E2 := E1.below hb2
  have hbw : Below w.heap.size w w2 := (((Below.refl _ _).alloc (Nat.le_refl _) _).trans (hb1.mono (by simp))).trans (hb2.mono (by have := hb1.size; simp at this; omega))
  have k0 := E2.c0
  have k1 := E2.c1
  have k2 := E2.c2
  have f0 := E2.fz 0
  have f1 := E2.fz 1
  have f2 := E2.fz 2
  clear E0 E1 E2 hb1 hb2
  go_wp2_with fail
  exact bodyPost_ret (v := .tuple #[.agg #[.string ByteArray.empty, .string ByteArray.empty, .float .f64 0], .string ByteArray.empty, .bool false]) (by simp [results, Try.results52, go_sem, k0, k1, k2]; rfl) rfl ⟨rfl, below_set3 hbw _ _ _⟩

theorem read_no_two (s : ByteArray) (w : World) (hs : s.size ≤ maxLen) (h : 8 ≤ (erL s).size) (hk : ¬ chk (rdA s) (rdA (rdB s)) = 0) :
    Calls Try.prog 52 #[.string s] w fun e w' => e = .returned (.tuple #[.agg #[.string ByteArray.empty, .string ByteArray.empty, .float .f64 0], .string ByteArray.empty, .bool false]) ∧ Below w.heap.size w w' := by
  have H1 := Lib.hid fun W => read_any s W hs
  have H2 := Lib.hid fun W => read_any (rdB s) W (Nat.le_trans (rdB_size s) hs)
  have H3 := Lib.hid fun W => get_any (erL s) W (Nat.le_trans (rdB_size _) (Nat.le_trans (rdB_size s) hs))
  have hfb := fun b w => frombits_run b w
  have HC := fun b W => check_any (rdA s) (rdA (rdB s)) b W (Nat.le_trans (rdA_size _) hs) (Nat.le_trans (rdA_size _) (Nat.le_trans (rdB_size s) hs))
  have he : rdB (rdB s) = erL s := rfl
  rw [he] at H2
  have E0 := EvAt.new w ByteArray.empty ByteArray.empty 0
  rcases chk_cases (rdA s) (rdA (rdB s)) with hc | hc | hc
  · exact absurd hc hk
  all_goals
    rw [hc] at HC
    have HC2 := Lib.hid HC
    clear HC hc hk
    generalize getS (erL s) = n at *
    generalize erL s = L at *
    generalize rdB s = R at *
    generalize rdA s = A at *
    generalize rdOk s = o at *
    generalize rdA R = A2 at *
    generalize rdOk R = o2 at *
    clear he hs
    go_enter Try.func52, Try.ntmps52
    go_wp2_with fail
    refine (H1.out _).mono ?_
    rintro e w1 ⟨rfl, hb1⟩
    have E1 := E0.below hb1
    go_wp2_with fail
    refine (H2.out _).mono ?_
    rintro e w2 ⟨rfl, hb2⟩
    have E2 := E1.below hb2
    have hbw : Below w.heap.size w w2 := (((Below.refl _ _).alloc (Nat.le_refl _) _).trans (hb1.mono (by simp))).trans (hb2.mono (by have := hb1.size; simp at this; omega))
    have k0 := E2.c0
    have k1 := E2.c1
    have k2 := E2.c2
    have f0 := E2.fz 0
    have f1 := E2.fz 1
    have f2 := E2.fz 2
    have HE3 := Lib.hid (E2.set3 A A2 n)
    have HB3 := Lib.hid (below_set3 hbw (.string A) (.string A2) (.float .f64 n))
    clear E0 E1 E2 hb1 hb2 hbw
    go_wp2_with fail
    refine (H3.out _).mono ?_
    rintro e w' ⟨rfl, rfl⟩
    go_wp2_with fail
    refine (HC2.out _ _).mono ?_
    rintro e w3 ⟨rfl, hb3⟩
    have E4 := HE3.out.below hb3
    have hbw4 := bj HB3.out hb3
    clear hb3 HE3 HB3 k0 k1 k2 f0 f1 f2
    have k0 := E4.c0
    have k1 := E4.c1
    have k2 := E4.c2
    have f0 := E4.fz 0
    have f1 := E4.fz 1
    have f2 := E4.fz 2
    clear E4
    go_wp2_with fail
    exact bodyPost_ret (v := .tuple #[.agg #[.string ByteArray.empty, .string ByteArray.empty, .float .f64 0], .string ByteArray.empty, .bool false]) (by simp [results, Try.results52, go_sem, k0, k1, k2]; rfl) rfl ⟨rfl, below_set3 hbw4 _ _ _⟩

theorem read_yes_one (s : ByteArray) (w : World) (hs : s.size ≤ maxLen) (h : 8 ≤ (erL s).size) (hk : chk (rdA s) (rdA (rdB s)) = 0) :
    Calls Try.prog 52 #[.string s] w fun e w' => e = .returned (.tuple #[.agg #[.string (rdA s), .string (rdA (rdB s)), .float .f64 (getS (erL s))], .string ((erL s).extract 8 (erL s).size), .bool true]) ∧ Below w.heap.size w w' := by
  have H1 := Lib.hid fun W => read_any s W hs
  have H2 := Lib.hid fun W => read_any (rdB s) W (Nat.le_trans (rdB_size s) hs)
  have H3 := Lib.hid fun W => get_any (erL s) W (Nat.le_trans (rdB_size _) (Nat.le_trans (rdB_size s) hs))
  have hfb := fun b w => frombits_run b w
  have HC := fun b W => check_any (rdA s) (rdA (rdB s)) b W (Nat.le_trans (rdA_size _) hs) (Nat.le_trans (rdA_size _) (Nat.le_trans (rdB_size s) hs))
  have hlm : (erL s).size ≤ maxLen := Nat.le_trans (rdB_size _) (Nat.le_trans (rdB_size s) hs)
  unfold maxLen at hlm
  have he : rdB (rdB s) = erL s := rfl
  rw [he] at H2
  have E0 := EvAt.new w ByteArray.empty ByteArray.empty 0
  rw [hk] at HC
  have HC2 := Lib.hid HC
  clear HC hk
  generalize getS (erL s) = n at *
  generalize erL s = L at *
  generalize rdB s = R at *
  generalize rdA s = A at *
  generalize rdOk s = o at *
  generalize rdA R = A2 at *
  generalize rdOk R = o2 at *
  clear he hs
  go_enter Try.func52, Try.ntmps52
  go_wp2_with fail
  refine (H1.out _).mono ?_
  rintro e w1 ⟨rfl, hb1⟩
  have E1 := E0.below hb1
  go_wp2_with fail
  refine (H2.out _).mono ?_
  rintro e w2 ⟨rfl, hb2⟩
  have E2 := E1.below hb2
  have hbw : Below w.heap.size w w2 := (((Below.refl _ _).alloc (Nat.le_refl _) _).trans (hb1.mono (by simp))).trans (hb2.mono (by have := hb1.size; simp at this; omega))
  have k0 := E2.c0
  have k1 := E2.c1
  have k2 := E2.c2
  have f0 := E2.fz 0
  have f1 := E2.fz 1
  have f2 := E2.fz 2
  have HE3 := Lib.hid (E2.set3 A A2 n)
  have HB3 := Lib.hid (below_set3 hbw (.string A) (.string A2) (.float .f64 n))
  clear E0 E1 E2 hb1 hb2 hbw
  go_wp2_with fail
  refine (H3.out _).mono ?_
  rintro e w' ⟨rfl, rfl⟩
  go_wp2_with fail
  refine (HC2.out _ _).mono ?_
  rintro e w3 ⟨rfl, hb3⟩
  have E4 := HE3.out.below hb3
  have hbw4 := bj HB3.out hb3
  clear hb3 HE3 HB3 k0 k1 k2 f0 f1 f2
  have k0 := E4.c0
  have k1 := E4.c1
  have k2 := E4.c2
  have f0 := E4.fz 0
  have f1 := E4.fz 1
  have f2 := E4.fz 2
  clear E4
  go_wp2_with fail
  go_region
  all_goals
    go_wp2
    exact bodyPost_ret (v := .tuple #[.agg #[.string A, .string A2, .float .f64 n], .string (L.extract 8 L.size), .bool true]) (by simp [results, Try.results52, go_sem, k0, k1, k2]) rfl ⟨rfl, (below_set3 hbw4 _ _ _).drew⟩

theorem er_ok {s : ByteArray} (h : 8 ≤ (erL s).size) (hk : chk (rdA s) (rdA (rdB s)) = 0) : erOk s = true := by simp [erOk, h, hk]
theorem er_short {s : ByteArray} (h : ¬ 8 ≤ (erL s).size) : erOk s = false := by simp [erOk]; omega
theorem er_wrong {s : ByteArray} (hk : ¬ chk (rdA s) (rdA (rdB s)) = 0) : erOk s = false := by simp [erOk, hk]

/-- events.Read. -/
theorem readev_any (s : ByteArray) (w : World) (hs : s.size ≤ maxLen) :
    Calls Try.prog 52 #[.string s] w fun e w' => e = .returned (.tuple #[.agg #[.string (erT s), .string (erD s), .float .f64 (erW s)], .string (erR s), .bool (erOk s)]) ∧ Below w.heap.size w w' := by
  by_cases h : 8 ≤ (erL s).size
  · by_cases hk : chk (rdA s) (rdA (rdB s)) = 0
    · obtain ⟨e1, e2, e3, e4⟩ := er_yes (er_ok h hk)
      rw [e1, e2, e3, e4, er_ok h hk]
      exact read_yes_one s w hs h hk
    · obtain ⟨e1, e2, e3, e4⟩ := er_no (er_wrong hk)
      rw [e1, e2, e3, e4, er_wrong hk]
      exact read_no_two s w hs h hk
  · obtain ⟨e1, e2, e3, e4⟩ := er_no (er_short h)
    rw [e1, e2, e3, e4, er_short h]
    exact read_no_one s w hs h
end Go.Proofs.Ytnefofcofccmfaa
