/- 'LevelsSink': the walk. -/
import Derived.Test.YtejdeidbgbacgaaLvEx
import Derived.Deep.LoopGhost
namespace Go.Proofs.Ytejdeidbgbacgaa
open Go.RowKit Go.Shelf
set_option linter.unusedVariables false
set_option maxRecDepth 100000

namespace levelsSink
/-- So many numbers, from 0 on, at the level 0. -/
def rowL (k : Nat) : LvL := if k = 0 then [] else [(List.range k).map fun (i : Nat) => (i : Int)]
/-- So many levels merged. -/
def sinkAt (m k : Nat) : LvL := if k = 0 then rowL m else if k = 5 then [[], [], [], [], [((m + 4 : Nat) : Int)]] else List.replicate k [] ++ [[((m + k - 1 : Nat) : Int)]]
theorem row_add : ∀ k, k < 40 → addE (rowL k) (k : Nat) = 0 ∧ addL (rowL k) (k : Nat) = rowL (k + 1) := by decide +kernel
theorem sink_repl : ∀ m, m < 41 → 0 < m → ∀ k, k < 5 → replE (sinkAt m k) (k : Nat) ((m + k : Nat) : Int) = 0 ∧ replL (sinkAt m k) (k : Nat) ((m + k : Nat) : Int) = sinkAt m (k + 1) ∧ (sinkAt m (k + 1)).flatten.length = 1 ∧ (sinkAt m (k + 1)).length ≤ 5 := by decide +kernel
theorem row_small : ∀ k, k < 41 → (rowL k).flatten.length ≤ 40 ∧ (rowL k).length ≤ 1 := by decide +kernel
theorem sink_small : ∀ m, m < 41 → ∀ k, k < 6 → (sinkAt m k).flatten.length ≤ 40 ∧ (sinkAt m k).length ≤ 5 := by decide +kernel
def SinkAt (w : World) (R : LvL) (u e : Value) (wr : World) : Prop := e = .int .i64 0 ∧ LvsHas wr u R ∧ Below w.heap.size w wr
set_option maxHeartbeats 2000000 in
theorem walk (a0 : Int) (w0 : (Lit.int .u8 a0).wf = true) (w : World) : Calls Try.prog 5 #[.int .u8 a0] w fun e w' => e = .returned (.bool true) ∧ Below w.heap.size w w' := by
  obtain ⟨k, rfl, hk⟩ := u8_nat w0
  have HST := Lib.hid stand_true
  unfold LvEnd at HST
  have HADD := Lib.hid (fun W v R n h hl hL => ladd_any v R n W h hl hL)
  have HREP := Lib.hid (fun W v R k n h hl hL => lrepl_any v R k n W h hl hL)
  obtain ⟨m, hm⟩ : ∃ m, m = k % 40 := ⟨_, rfl⟩
  obtain ⟨M, hM⟩ : ∃ M, M = m + 1 := ⟨_, rfl⟩
  have hM1 : 0 < M := by omega
  have hM2 : M < 41 := by omega
  have q1 : ((k : Nat) : Int) % 40 = ((m : Nat) : Int) := by omega
  have q2 : IntKind.i64.wrap (1 + ((m : Nat) : Int)) = ((M : Nat) : Int) := by rw [IntWalk.i64_in _ ⟨by omega, by omega⟩]; omega
  clear hm hM w0
  go_enter Try.func5, Try.ntmps5
  go_wp2
  clear q1 q2
  go_loopg [4, 5, 6] M (fun g u e i wr => ∃ (j : Nat), j + g = M ∧ i = .int .i64 j ∧ SinkAt w (rowL j) u e wr)
  case atStart => exact ⟨0, by omega, rfl, rfl, LvsHas.nil _ _ _, Below.refl _ _⟩
  case round =>
    obtain ⟨j, hjg, rfl, rfl, hhas, hbel⟩ := hrel
    have HB := Lib.hid hbel
    have HH := Lib.hid hhas
    clear hhas hbel
    cases gk with
    | succ gi =>
      have s1 : (j : Int) < (M : Int) := by omega
      have HA := Lib.hid (show Calls Try.prog 8 #[_, .int .i64 ((j : Nat) : Int)] wr (LvsEnd wr (rowL (j + 1)) 0) by
        have h := HADD.out wr _ (rowL j) ((j : Nat) : Int) HH.out (by have := (row_small j (by omega)).1; omega) (by have := (row_small j (by omega)).2; omega)
        obtain ⟨e1, e2⟩ := row_add j (by omega)
        rw [e1, e2] at h
        exact h)
      unfold LvsEnd at HA
      generalize (rowL (j + 1)).length = rl at *
      go_wp2_with fail
      refine HA.out.mono ?_
      rintro e w1 ⟨A1, c1, rfl, h1, h2⟩
      have H1 := Lib.hid h1.has
      have H2 := Lib.hid (bj HB.out h2)
      clear h1 h2
      go_wp2
      go_roundg gi
      case measure => omega
      case rel => exact ⟨j + 1, by omega, by go_num, rfl, H1.out, H2.out⟩
    | zero =>
      obtain rfl : j = M := by omega
      have s1 : ¬ (j : Int) < (j : Int) := by omega
      obtain ⟨wo, rfl⟩ : ∃ wo, wo = wr := ⟨_, rfl⟩
      go_wp2
      go_loopg [4, 5, 7] 5 (fun g u e i wx => ∃ (t : Nat), t + g = 5 ∧ i = .int .i64 t ∧ SinkAt w (sinkAt j t) u e wx)
      case atStart => exact ⟨0, by omega, rfl, rfl, HH.out, HB.out⟩
      case round =>
        clear HH HB
        obtain ⟨t, htg, rfl, rfl, hhas, hbel⟩ := hrel
        have HB := Lib.hid hbel
        have HH := Lib.hid hhas
        clear hhas hbel
        cases gk with
        | succ gi =>
          have s2 : (t : Int) < 5 := by omega
          have q3 : IntKind.i64.wrap (((j : Nat) : Int) + ((t : Nat) : Int)) = ((j : Nat) : Int) + ((t : Nat) : Int) := IntWalk.i64_in _ ⟨by omega, by omega⟩
          have HS := Lib.hid (sink_repl j hM2 hM1 t (by omega))
          have HR := Lib.hid (show Calls Try.prog 12 #[_, .int .i64 ((t : Nat) : Int), .int .i64 (((j : Nat) : Int) + ((t : Nat) : Int))] wr (LvsEnd wr (sinkAt j (t + 1)) 0) by
            have h := HREP.out wr _ (sinkAt j t) ((t : Nat) : Int) ((j + t : Nat) : Int) HH.out (by have := (sink_small j hM2 t (by omega)).1; omega) (by have := (sink_small j hM2 t (by omega)).2; omega)
            rw [HS.out.1, HS.out.2.1] at h
            exact h)
          unfold LvsEnd at HR
          generalize (sinkAt j (t + 1)).length = rl at *
          go_wp2_with fail
          refine HR.out.mono ?_
          rintro e w1 ⟨A1, c1, rfl, h1, h2⟩
          have H1 := Lib.hid h1.has
          have H2 := Lib.hid (bj HB.out h2)
          have HAL := Lib.hid (lall_any _ _ _ h1.has (by have := (sink_small j hM2 (t + 1) (by omega)).1; omega) (by have := (sink_small j hM2 (t + 1) (by omega)).2; omega))
          unfold IntsOut at HAL
          rw [HS.out.2.2.1] at HAL
          clear h1 h2
          go_wp2_with fail
          refine HAL.out.mono ?_
          rintro e w2 ⟨A2, c2, rfl, -, h4⟩
          have H3 := Lib.hid (H1.out.below h4 (Nat.le_refl _))
          have H4 := Lib.hid (bj H2.out h4)
          clear h4
          go_wp2
          go_roundg gi
          case measure => omega
          case rel => exact ⟨t + 1, by omega, by go_num, rfl, H3.out, H4.out⟩
        | zero =>
          obtain rfl : t = 5 := by omega
          have hlast : LvsHas wr _ [[], [], [], [], [((j + 4 : Nat) : Int)]] := HH.out
          obtain ⟨A, off, cap, rfl, -, hc⟩ := hlast.form
          obtain ⟨b, u, rfl, hb, c1, hin⟩ := hc 4 _ rfl
          have s2 : ¬ ((5 : Nat) : Int) < 5 := by omega
          have HI := Lib.hid (show Calls Try.prog 15 #[u, .slice (some ⟨wr.heap.size, 0, none⟩) 1 1] (wr.alloc (.cells #[.int .i64 (((j : Nat) : Int) + 4)] 3)) fun e w' => e = .returned (.bool true) ∧ Below wr.heap.size wr w' by
            have hb1 : Below wr.heap.size wr (wr.alloc (.cells #[.int .i64 (((j : Nat) : Int) + 4)] 3)) := (Below.refl _ _).alloc (Nat.le_refl _) _
            refine (lints_any u _ [((j + 4 : Nat) : Int)] [((j + 4 : Nat) : Int)] _ (hin.below hb1 (Nat.le_refl _)) (int_one wr _)).mono ?_
            rintro e w' ⟨rfl, n, rfl⟩
            exact ⟨by rw [decide_eq_true rfl], below_drewN hb1 n⟩)
          obtain ⟨A3, o3, c3, rfl, -, -⟩ := hin.form
          have q4 : IntKind.i64.wrap (((j : Nat) : Int) + 5) = ((j : Nat) : Int) + 5 := IntWalk.i64_in _ ⟨by omega, by omega⟩
          have q5 : IntKind.i64.wrap (((j : Nat) : Int) + 5 - 1) = ((j : Nat) : Int) + 4 := by rw [IntWalk.i64_in _ ⟨by omega, by omega⟩]; omega
          clear hlast hc hin HH
          go_wp2_with fail
          refine HI.out.mono ?_
          rintro e w3 ⟨rfl, h5⟩
          have H5 := Lib.hid (bj HB.out h5)
          clear h5
          go_wp2_with fail
          refine (HST.out _).mono ?_
          rintro e w4 ⟨rfl, h6⟩
          have H6 := Lib.hid (bj H5.out h6)
          clear h6
          go_wp2
          go_ret
          exact ⟨rfl, H6.out⟩
end levelsSink
end Go.Proofs.Ytejdeidbgbacgaa
