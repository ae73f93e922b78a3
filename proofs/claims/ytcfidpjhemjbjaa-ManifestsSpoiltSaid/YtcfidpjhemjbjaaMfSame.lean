/- Whether two manifests are the same: the program's Same, and the statements'. -/
import Derived.Test.YtcfidpjhemjbjaaMfEqual
import Derived.BigQuiet
namespace Go.Proofs.Ytcfidpjhemjbjaa
open Go.RowKit Go.Shelf
set_option linter.unusedVariables false
set_option maxRecDepth 100000

theorem sameM_no {n1 c1 n2 c2 : Int} {d1 d2 : Nat} {R1 R2 : LvL} (h : ¬ (n1 = n2 ∧ c1 = c2 ∧ d1 = d2)) : sameM ⟨n1, c1, d1, R1⟩ ⟨n2, c2, d2, R2⟩ = false := decide_eq_false fun e => h ⟨e.1, e.2.1, e.2.2.1⟩
theorem sameM_lv (n c : Int) (d : Nat) (R1 R2 : LvL) : sameM ⟨n, c, d, R1⟩ ⟨n, c, d, R2⟩ = decide (trimL R1 = trimL R2) := by
  unfold sameM
  congr 1
  simp
set_option maxHeartbeats 1000000 in
theorem msame_any (n1 c1 : Int) (d1 : Nat) (A1 : Option Addr) (k1 p1 : Nat) (R1 : LvL) (n2 c2 : Int) (d2 : Nat) (A2 : Option Addr) (k2 p2 : Nat) (R2 : LvL) (w : World)
    (h1 : LvsHas w (.slice A1 k1 p1) R1) (h2 : LvsHas w (.slice A2 k2 p2) R2) (e1 : k1 = R1.length) (e2 : k2 = R2.length) (l1 : k1 ≤ 100000) (l2 : k2 ≤ 100000) :
    Calls Try.prog 15 #[manV n1 c1 d1 (.slice A1 k1 p1), manV n2 c2 d2 (.slice A2 k2 p2)] w fun e w' => e = .returned (.bool (sameM ⟨n1, c1, d1, R1⟩ ⟨n2, c2, d2, R2⟩)) ∧ Below w.heap.size w w' := by
  have hb : Below w.heap.size w ((w.alloc (manO n1 c1 d1 (.slice A1 k1 p1))).alloc (manO n2 c2 d2 (.slice A2 k2 p2))) := ((Below.refl _ _).alloc (Nat.le_refl _) _).alloc (by simp) _
  have HB := Lib.hid hb
  unfold manV
  by_cases hn : n1 = n2
  case neg =>
    rw [sameM_no fun e => hn e.1]
    have t0 : (n1 != n2) = true := by simp [hn]
    clear h1 h2 hb hn e1 e2
    go_enter Try.func15, Try.ntmps15
    go_wp2
    go_ret
    exact ⟨rfl, HB.out⟩
  subst hn
  by_cases hc : c1 = c2
  case neg =>
    rw [sameM_no fun e => hc e.2.1]
    have t0 : (c1 != c2) = true := by simp [hc]
    clear h1 h2 hb hc e1 e2
    go_enter Try.func15, Try.ntmps15
    go_wp2
    go_ret
    exact ⟨rfl, HB.out⟩
  subst hc
  by_cases hd : d1 = d2
  case neg =>
    rw [sameM_no fun e => hd e.2.2]
    have t0 : ((d1 : Int) != (d2 : Int)) = true := by simp; omega
    clear h1 h2 hb hd e1 e2
    go_enter Try.func15, Try.ntmps15
    go_wp2
    go_ret
    exact ⟨rfl, HB.out⟩
  subst hd
  rw [sameM_lv]
  obtain ⟨A3, c3, HT1⟩ := mtrimmed_all A1 k1 p1 R1 e1 l1
  obtain ⟨A4, c4, HT2⟩ := mtrimmed_all A2 k2 p2 R2 e2 l2
  obtain ⟨W2, hW⟩ : ∃ W2, W2 = (w.alloc (.cells #[.int .i64 n1, .int .i64 c1, .int .u64 (d1 : Nat), .slice A1 k1 p1] 25)).alloc (.cells #[.int .i64 n1, .int .i64 c1, .int .u64 (d1 : Nat), .slice A2 k2 p2] 25) := ⟨_, rfl⟩
  have HW := Lib.hid hW
  have x1 : LvsHas W2 (.slice A1 k1 p1) R1 := by rw [hW]; exact h1.below hb (Nat.le_refl _)
  have x2 : LvsHas W2 (.slice A2 k2 p2) R2 := by rw [hW]; exact h2.below hb (Nat.le_refl _)
  have f1 : W2.cell? ⟨w.heap.size, 3, none⟩ = some (.slice A1 k1 p1) := by rw [hW]; exact mcell (B := w.heap.size + 1) ((Below.refl _ _).alloc (by simp) _) (show w.heap.size < w.heap.size + 1 by omega) (World.cell?_alloc_at _ _ _ _ rfl)
  have f2 : W2.cell? ⟨w.heap.size + 1, 3, none⟩ = some (.slice A2 k2 p2) := by rw [hW, show w.heap.size + 1 = (w.alloc (.cells #[.int .i64 n1, .int .i64 c1, .int .u64 (d1 : Nat), .slice A1 k1 p1] 25)).heap.size by simp]; exact World.cell?_alloc_at _ _ _ _ rfl
  have F1 := Lib.hid f1
  have F2 := Lib.hid f2
  have HQ1 := Lib.hid (fun q => (HT1 (W2.drewN q) x1).1)
  have HQ2 := Lib.hid (fun q => (HT2 (W2.drewN q) x2).1)
  have HQ3 := Lib.hid (fun q => eqfunc_any (.slice A3 (trimL R1).length c3) (.slice A4 (trimL R2).length c4) (trimL R1) (trimL R2) (W2.drewN q) ((HT1 W2 x1).2) ((HT2 W2 x2).2))
  unfold MTrimEnd at HQ1 HQ2
  unfold LIntsSame at HQ3
  have HBW : Hid (Below w.heap.size w W2) := Lib.hid (by rw [hW]; exact hb)
  clear HT1 HT2 x1 x2 e1 e2 l1 l2 f1 f2 HB
  generalize (trimL R1).length = t1 at *
  generalize (trimL R2).length = t2 at *
  generalize decide (trimL R1 = trimL R2) = qq at *
  clear hW h1 h2 hb
  go_enter Try.func15, Try.ntmps15
  go_wp2
  rw [← HW.out]
  have f1 := F1.out
  have f2 := F2.out
  clear F1 F2 HW
  go_quiet (first
    | (go_at_call 19; (with_reducible exact Calls.quiet_of_same (HQ1.out _)))
    | (go_at_call 19; (with_reducible exact Calls.quiet_of_same (HQ2.out _)))
    | (go_at_call 33; exact Calls.quiet_of (HQ3.out _)))
  go_wp2
  go_ret
  exact ⟨rfl, by exact below_drewN HBW.out _⟩
set_option maxHeartbeats 1000000 in
theorem msamel_any (n1 c1 : Int) (d1 : Nat) (A1 : Option Addr) (k1 p1 : Nat) (R1 : LvL) (n2 c2 : Int) (d2 : Nat) (A2 : Option Addr) (k2 p2 : Nat) (R2 : LvL) (w : World)
    (h1 : LvsHas w (.slice A1 k1 p1) R1) (h2 : LvsHas w (.slice A2 k2 p2) R2) (e1 : k1 = R1.length) (e2 : k2 = R2.length) (l1 : k1 ≤ 100000) (l2 : k2 ≤ 100000) :
    Calls Try.prog 12 #[manV n1 c1 d1 (.slice A1 k1 p1), manV n2 c2 d2 (.slice A2 k2 p2)] w fun e w' => e = .returned (.bool (sameM ⟨n1, c1, d1, R1⟩ ⟨n2, c2, d2, R2⟩)) ∧ Below w.heap.size w w' := by
  have hb : Below w.heap.size w ((w.alloc (manO n1 c1 d1 (.slice A1 k1 p1))).alloc (manO n2 c2 d2 (.slice A2 k2 p2))) := ((Below.refl _ _).alloc (Nat.le_refl _) _).alloc (by simp) _
  obtain ⟨W2, hW⟩ : ∃ W2, W2 = (w.alloc (.cells #[.int .i64 n1, .int .i64 c1, .int .u64 (d1 : Nat), .slice A1 k1 p1] 25)).alloc (.cells #[.int .i64 n2, .int .i64 c2, .int .u64 (d2 : Nat), .slice A2 k2 p2] 25) := ⟨_, rfl⟩
  have HW := Lib.hid hW
  have x1 : LvsHas W2 (.slice A1 k1 p1) R1 := by rw [hW]; exact h1.below hb (Nat.le_refl _)
  have x2 : LvsHas W2 (.slice A2 k2 p2) R2 := by rw [hW]; exact h2.below hb (Nat.le_refl _)
  have HBW : Hid (Below w.heap.size w W2) := Lib.hid (by rw [hW]; exact hb)
  have f10 : W2.cell? ⟨w.heap.size, 0, none⟩ = some (.int .i64 n1) := by rw [hW]; exact mcell (B := w.heap.size + 1) ((Below.refl _ _).alloc (by simp) _) (show w.heap.size < w.heap.size + 1 by omega) (World.cell?_alloc_at _ _ _ _ rfl)
  have F10 := Lib.hid f10
  clear f10
  have f11 : W2.cell? ⟨w.heap.size, 1, none⟩ = some (.int .i64 c1) := by rw [hW]; exact mcell (B := w.heap.size + 1) ((Below.refl _ _).alloc (by simp) _) (show w.heap.size < w.heap.size + 1 by omega) (World.cell?_alloc_at _ _ _ _ rfl)
  have F11 := Lib.hid f11
  clear f11
  have f12 : W2.cell? ⟨w.heap.size, 2, none⟩ = some (.int .u64 (d1 : Nat)) := by rw [hW]; exact mcell (B := w.heap.size + 1) ((Below.refl _ _).alloc (by simp) _) (show w.heap.size < w.heap.size + 1 by omega) (World.cell?_alloc_at _ _ _ _ rfl)
  have F12 := Lib.hid f12
  clear f12
  have f13 : W2.cell? ⟨w.heap.size, 3, none⟩ = some (.slice A1 k1 p1) := by rw [hW]; exact mcell (B := w.heap.size + 1) ((Below.refl _ _).alloc (by simp) _) (show w.heap.size < w.heap.size + 1 by omega) (World.cell?_alloc_at _ _ _ _ rfl)
  have F13 := Lib.hid f13
  clear f13
  have f20 : W2.cell? ⟨w.heap.size + 1, 0, none⟩ = some (.int .i64 n2) := by rw [hW, show w.heap.size + 1 = (w.alloc (.cells #[.int .i64 n1, .int .i64 c1, .int .u64 (d1 : Nat), .slice A1 k1 p1] 25)).heap.size by simp]; exact World.cell?_alloc_at _ _ _ _ rfl
  have F20 := Lib.hid f20
  clear f20
  have f21 : W2.cell? ⟨w.heap.size + 1, 1, none⟩ = some (.int .i64 c2) := by rw [hW, show w.heap.size + 1 = (w.alloc (.cells #[.int .i64 n1, .int .i64 c1, .int .u64 (d1 : Nat), .slice A1 k1 p1] 25)).heap.size by simp]; exact World.cell?_alloc_at _ _ _ _ rfl
  have F21 := Lib.hid f21
  clear f21
  have f22 : W2.cell? ⟨w.heap.size + 1, 2, none⟩ = some (.int .u64 (d2 : Nat)) := by rw [hW, show w.heap.size + 1 = (w.alloc (.cells #[.int .i64 n1, .int .i64 c1, .int .u64 (d1 : Nat), .slice A1 k1 p1] 25)).heap.size by simp]; exact World.cell?_alloc_at _ _ _ _ rfl
  have F22 := Lib.hid f22
  clear f22
  have f23 : W2.cell? ⟨w.heap.size + 1, 3, none⟩ = some (.slice A2 k2 p2) := by rw [hW, show w.heap.size + 1 = (w.alloc (.cells #[.int .i64 n1, .int .i64 c1, .int .u64 (d1 : Nat), .slice A1 k1 p1] 25)).heap.size by simp]; exact World.cell?_alloc_at _ _ _ _ rfl
  have F23 := Lib.hid f23
  clear f23
  clear h1 h2 hb hW
  unfold manV
  by_cases hn : n1 = n2
  case neg =>
    rw [sameM_no fun e => hn e.1]
    have t0 : (n1 == n2) = false := by simp [hn]
    clear x1 x2 hn e1 e2
    go_enter Try.func12, Try.ntmps12
    go_wp2
    rw [← HW.out]
    have f10 := F10.out
    have f11 := F11.out
    have f12 := F12.out
    have f13 := F13.out
    have f20 := F20.out
    have f21 := F21.out
    have f22 := F22.out
    have f23 := F23.out
    clear F10 F11 F12 F13 F20 F21 F22 F23 HW
    go_quiet (fail)
    go_wp2
    go_ret
    exact ⟨rfl, by exact below_drewN HBW.out _⟩
  subst hn
  by_cases hc : c1 = c2
  case neg =>
    rw [sameM_no fun e => hc e.2.1]
    have t0 : (c1 == c2) = false := by simp [hc]
    clear x1 x2 hc e1 e2
    go_enter Try.func12, Try.ntmps12
    go_wp2
    rw [← HW.out]
    have f10 := F10.out
    have f11 := F11.out
    have f12 := F12.out
    have f13 := F13.out
    have f20 := F20.out
    have f21 := F21.out
    have f22 := F22.out
    have f23 := F23.out
    clear F10 F11 F12 F13 F20 F21 F22 F23 HW
    go_quiet (fail)
    go_wp2
    go_ret
    exact ⟨rfl, by exact below_drewN HBW.out _⟩
  subst hc
  by_cases hd : d1 = d2
  case neg =>
    rw [sameM_no fun e => hd e.2.2]
    have t0 : ((d1 : Int) == (d2 : Int)) = false := by simp; omega
    clear x1 x2 hd e1 e2
    go_enter Try.func12, Try.ntmps12
    go_wp2
    rw [← HW.out]
    have f10 := F10.out
    have f11 := F11.out
    have f12 := F12.out
    have f13 := F13.out
    have f20 := F20.out
    have f21 := F21.out
    have f22 := F22.out
    have f23 := F23.out
    clear F10 F11 F12 F13 F20 F21 F22 F23 HW
    go_quiet (fail)
    go_wp2
    go_ret
    exact ⟨rfl, by exact below_drewN HBW.out _⟩
  subst hd
  rw [sameM_lv]
  have t0 : (n1 == n1) = true := by simp
  have t1 : (c1 == c1) = true := by simp
  have t2 : ((d1 : Int) == (d1 : Int)) = true := by simp
  obtain ⟨A3, c3, HT1⟩ := mltrim_all A1 k1 p1 R1 e1 l1
  obtain ⟨A4, c4, HT2⟩ := mltrim_all A2 k2 p2 R2 e2 l2
  have HQ1 := Lib.hid (fun q => (HT1 (W2.drewN q) x1).1)
  have HQ2 := Lib.hid (fun q => (HT2 (W2.drewN q) x2).1)
  have HQ3 := Lib.hid (fun q => lsame_any (.slice A3 (trimL R1).length c3) (.slice A4 (trimL R2).length c4) (trimL R1) (trimL R2) (W2.drewN q) ((HT1 W2 x1).2) ((HT2 W2 x2).2))
  unfold MTrimEnd at HQ1 HQ2
  unfold LIntsSame at HQ3
  clear HT1 HT2 x1 x2 e1 e2 l1 l2
  generalize (trimL R1).length = t1 at *
  generalize (trimL R2).length = t2 at *
  generalize decide (trimL R1 = trimL R2) = qq at *
  go_enter Try.func12, Try.ntmps12
  go_wp2
  rw [← HW.out]
  have f10 := F10.out
  have f11 := F11.out
  have f12 := F12.out
  have f13 := F13.out
  have f20 := F20.out
  have f21 := F21.out
  have f22 := F22.out
  have f23 := F23.out
  clear F10 F11 F12 F13 F20 F21 F22 F23 HW
  go_quiet (first | (go_at_call 23; (with_reducible exact Calls.quiet_of_same (HQ1.out _))) | (go_at_call 23; (with_reducible exact Calls.quiet_of_same (HQ2.out _))) | (go_at_call 28; exact Calls.quiet_of (HQ3.out _)))
  go_wp2
  go_ret
  exact ⟨rfl, by exact below_drewN HBW.out _⟩
end Go.Proofs.Ytcfidpjhemjbjaa
