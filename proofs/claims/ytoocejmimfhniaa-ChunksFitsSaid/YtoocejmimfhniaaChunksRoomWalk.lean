/- The walk of ChunksRoom, over what the program's chunks answer. -/
import Derived.Test.YtoocejmimfhniaaChunked
import Derived.Test.YtoocejmimfhniaaU16s
import Derived.Deep.DeepCutAuto
import Derived.Deep.CutBlock
namespace Go.Proofs.Ytoocejmimfhniaa
open Go.RowKit
set_option linter.unusedVariables false

theorem make_zeros (k : Nat) (hk : k ≤ 10000) : ∃ Z : Array Value, (∀ w : World, (Instr.makeSlice 41 (.int .i64 (k : Nat)) (.int .i64 (k : Nat))).run Try.prog w = .ok (.slice (some ⟨w.heap.size, 0, none⟩) k k) (w.alloc (.cells Z 5))) ∧
    ∀ w : World, (convert 41 9 (.slice (some ⟨w.heap.size, 0, none⟩) k k)).run Try.prog (w.alloc (.cells Z 5)) = .ok (.string (bs (List.replicate k 0))) (w.alloc (.cells Z 5)) := by
  refine ⟨madeCells #[.int .u8 0] k, run_make_row' (P := Try.prog) 41 5 (.int .u8 0) 1 Try.underlying41 (by kernel_rfl) rfl .i64 .i64 k (by omega) (by omega), fun w => ?_⟩
  have hrow := World.rowIs_made w (.int .u8 0) k 5
  have h := run_convert_bytes_back (P := Try.prog) (w.alloc (.cells (madeCells #[.int .u8 0] k) 5)) 41 9 5 ⟨w.heap.size, 0, none⟩ k (List.replicate k 0) Try.underlying41 Try.underlying5 Try.underlying9
    (fun j hj => by
      rw [List.length_replicate] at hj
      have e : (⟨w.heap.size, 0, none⟩ : Addr).add j = ⟨w.heap.size, j, none⟩ := by simp [Addr.add]; omega
      rw [List.getElem_replicate, e]
      exact hrow.cell hj)
  rw [List.length_replicate] at h
  exact h

/-- A text of zeros and what is answered of it, for any size of what is ahead. -/
def Zer (k : Nat) (p : ByteArray) (Z : Array Value) : Prop :=
  p.size = k ∧
  (∀ w : World, (Instr.makeSlice 41 (.int .i64 (k : Nat)) (.int .i64 (k : Nat))).run Try.prog w = .ok (.slice (some ⟨w.heap.size, 0, none⟩) k k) (w.alloc (.cells Z 5))) ∧
  ∀ w : World, (convert 41 9 (.slice (some ⟨w.heap.size, 0, none⟩) k k)).run Try.prog (w.alloc (.cells Z 5)) = .ok (.string p) (w.alloc (.cells Z 5))
theorem zer_any (k : Nat) (hk : k ≤ 10000) : ∃ p Z, Zer k p Z := by
  obtain ⟨Z, h1, h2⟩ := make_zeros k hk
  exact ⟨_, Z, by rw [bs_size, List.length_replicate], h1, h2⟩

theorem room_fits (api : ChunksApi) (z k : Nat) (p : ByteArray) (hp : p.size = k) (hk : k ≤ 10000) (hz : z ≤ 4096) (b : Bool) (hb : decide (k ≤ 2000 ∧ z + k + 12 ≤ 4096) = b) (w : World) :
    Calls Try.prog 16 #[.int .i64 (z : Nat), .string p] w fun e w' => e = .returned (.bool b) ∧ w = w' := by
  have h := api.fits (z : Nat) p w (by unfold maxLen; omega) (WalkArith.wf_i64 (by omega))
  have e : ftS (z : Nat) p = b := by
    rw [← hb]
    unfold ftS
    rw [hp]
    exact decide_eq_decide.2 (by omega)
  rwa [e] at h
theorem room_put (api : ChunksApi) (k : Nat) (p : ByteArray) (hp : p.size = k) (hk : k ≤ 2000) : ∃ R : ByteArray, R.size = k + 12 ∧ ∀ w : World,
    Calls Try.prog 18 #[.string p] w fun e w' => e = .returned (.tuple #[.string R, .int .i64 0]) ∧ Below w.heap.size w w' := by
  refine ⟨prS p, ?_, fun w => ?_⟩
  · unfold prS; rw [if_neg (by omega), recS_size]; omega
  · have h := api.put p w (by unfold maxLen; omega)
    have e : prE p = 0 := by unfold prE; rw [if_neg (by omega)]
    rwa [e] at h

theorem room_big (api : ChunksApi) (A : Option Addr) (n c : Nat) (w : World) (hm : n ≤ maxLen) (h : 60 < n) :
    Calls Try.prog 8 #[.slice A n c] w fun e w' => e = .returned (.bool true) ∧ Below w.heap.size w w' := by
  have HR := Lib.hid (chunked_true api)
  unfold maxLen at hm
  have l1 : (60 : Int) < (n : Int) := by omega
  go_enter Try.func8, Try.ntmps8
  go_wp2_with fail
  refine (HR.out _).mono ?_
  rintro e w1 ⟨rfl, hb1⟩
  go_wp2
  go_ret
  exact ⟨rfl, hb1⟩

set_option maxHeartbeats 1000000 in
set_option maxRecDepth 100000 in
theorem room_walk (api : ChunksApi) (v : Value) (l : List Nat) (w : World) (hv : U16sIn w v l) (hx : ∀ x ∈ l, x < 65536) :
    Calls Try.prog 8 #[v] w fun e w' => e = .returned (.bool true) ∧ Below w.heap.size w w' := by
  obtain ⟨A, off, c, rfl, hm, hcell⟩ := hv.form
  by_cases h60 : 60 < l.length
  · exact room_big api A _ c w hm h60
  have HR := Lib.hid (chunked_true api)
  have HH := Lib.hid fun W => api.head 0 W (by decide)
  have hz : (hdS 0).size = 12 := hd_size (n := 0) (by omega)
  obtain ⟨H, hH⟩ : ∃ H, hdS 0 = H := ⟨_, rfl⟩
  rw [hH] at HH hz
  obtain ⟨P, Z, hP, hmk0, hcv⟩ := zer_any 2000 (by omega)
  have hmk : ∀ w : World, (Instr.makeSlice 41 (.int .i64 2000) (.int .i64 2000)).run Try.prog w = .ok (.slice (some ⟨w.heap.size, 0, none⟩) 2000 2000) (w.alloc (.cells Z 5)) := hmk0
  have HF : Hid (∀ W : World, Calls Try.prog 16 #[.int .i64 12, .string P] W fun e w' => e = .returned (.bool true) ∧ W = w') := Lib.hid fun W => room_fits api 12 2000 P hP (by omega) (by omega) true (by decide) W
  have hb0 : ∀ W : World, Below W.heap.size W (W.alloc (.cells Z 5)) := fun W => (Below.refl _ _).alloc (Nat.le_refl _) _
  clear hmk0
  have HC := Lib.hid hcell
  have HX := Lib.hid hx
  have HFF := Lib.hid (fun z k p hp hk hz b hb W => room_fits api z k p hp hk hz b hb W)
  have HPP := Lib.hid (fun k p hp hk => room_put api k p hp hk)
  obtain ⟨n, hn⟩ : ∃ n, l.length = n := ⟨_, rfl⟩
  have HN := Lib.hid hn
  rw [hn] at h60 hm ⊢
  have l1 : ¬ (60 : Int) < (n : Int) := by omega
  clear hcell hx hv hH hn hm
  go_enter Try.func8, Try.ntmps8
  go_wp2_with fail
  refine (HH.out _).mono ?_
  rintro e w1 ⟨rfl, hb1⟩
  go_wp2_with fail
  refine (HF.out _).mono ?_
  rintro e w2 ⟨rfl, rfl⟩
  have b2 := bj hb1 (hb0 _)
  generalize w1.alloc (.cells Z 5) = w2 at *
  clear hb1 hmk hcv hb0 HF HH
  go_wp2_with fail
  go_loopw [3, 4] (fun s i wr => ∃ k z : Nat, k ≤ n ∧ i = .int .i64 k ∧ s = .int .i64 z ∧ 12 ≤ z ∧ z ≤ 4096 ∧ Below w.heap.size w wr) (fun _ i _ => n - (intOf i).toNat)
  case atStart => exact ⟨0, 12, Nat.zero_le _, rfl, rfl, by omega, by omega, b2⟩
  case round =>
    clear b2
    obtain ⟨k, z, hk, rfl, rfl, hz1, hz2, hbel⟩ := hrel
    by_cases hlt : k < n
    · obtain ⟨x, hx⟩ : ∃ x, l[k]? = some x := ⟨l[k]'(by rw [HN.out]; exact hlt), List.getElem?_eq_getElem _⟩
      obtain ⟨b, rfl, hb, hc⟩ := HC.out k x hx
      have q0 := (hbel.cell (p := ⟨b, off + k, none⟩) hb).trans hc
      have hx6 := HX.out x (List.mem_of_getElem? hx)
      have s1 : (k : Int) < (n : Int) := by omega
      obtain ⟨m, hm⟩ : ∃ m, x % 2100 = m := ⟨_, rfl⟩
      have hm2 : m < 2100 := by omega
      have m1 : Int.tmod (x : Int) 2100 = (m : Int) := by rw [Int.tmod_eq_emod_of_nonneg (by omega)]; omega
      obtain ⟨p, Y, hp, hmk, hcv⟩ := zer_any m (by omega)
      have hb0 : ∀ W : World, Below W.heap.size W (W.alloc (.cells Y 5)) := fun W => (Below.refl _ _).alloc (Nat.le_refl _) _
      have bel2 := bj hbel (hb0 _)
      clear hx hc hm hb
      by_cases hfit : m ≤ 2000 ∧ z + m + 12 ≤ 4096
      · have F := Lib.hid fun W => HFF.out z m p hp (by omega) hz2 true (decide_eq_true hfit) W
        obtain ⟨R, hR, hPut⟩ := HPP.out m p hp hfit.1
        have PUT := Lib.hid hPut
        have t1 : decide ((m : Int) ≤ 2000) = true := decide_eq_true (by omega)
        have t2 : decide ((z : Int) + (m : Int) + 12 ≤ 4096) = true := decide_eq_true (by omega)
        clear hPut
        go_wp2_with fail
        generalize wr.alloc (.cells Y 5) = w3 at *
        clear hmk hcv hb0 q0 hbel
        refine (F.out _).mono ?_
        rintro e w4 ⟨rfl, rfl⟩
        go_wp2_with fail
        refine (PUT.out _).mono ?_
        rintro e w5 ⟨rfl, hb5⟩
        have bel5 := bj bel2 hb5
        clear bel2 hb5
        go_wp2
        go_roundw
        case rel => exact ⟨k + 1, z + (m + 12), by omega, by go_num, by go_num, by omega, by omega, bel5⟩
        case measure => simp [intOf]; omega
      · have F := Lib.hid fun W => HFF.out z m p hp (by omega) hz2 false (decide_eq_false hfit) W
        by_cases h20 : m ≤ 2000
        · have t1 : decide ((m : Int) ≤ 2000) = true := decide_eq_true (by omega)
          have t2 : decide ((z : Int) + (m : Int) + 12 ≤ 4096) = false := decide_eq_false (by omega)
          go_wp2_with fail
          generalize wr.alloc (.cells Y 5) = w3 at *
          clear hmk hcv hb0 q0 hbel
          refine (F.out _).mono ?_
          rintro e w4 ⟨rfl, rfl⟩
          go_wp2
          go_roundw
          case rel => exact ⟨k + 1, z, by omega, by go_num, rfl, by omega, by omega, bel2⟩
          case measure => simp [intOf]; omega
        · have t1 : decide ((m : Int) ≤ 2000) = false := decide_eq_false (by omega)
          go_wp2_with fail
          generalize wr.alloc (.cells Y 5) = w3 at *
          clear hmk hcv hb0 q0 hbel
          refine (F.out _).mono ?_
          rintro e w4 ⟨rfl, rfl⟩
          go_wp2
          go_roundw
          case rel => exact ⟨k + 1, z, by omega, by go_num, rfl, by omega, by omega, bel2⟩
          case measure => simp [intOf]; omega
    · obtain rfl : k = n := by omega
      have s1 : ¬ (k : Int) < (k : Int) := by omega
      have t1 : decide ((z : Int) ≤ 4096) = true := decide_eq_true (by omega)
      go_wp2_with fail
      refine (HR.out _).mono ?_
      rintro e w3 ⟨rfl, hb3⟩
      go_wp2
      go_ret
      exact ⟨rfl, bj hbel hb3⟩
end Go.Proofs.Ytoocejmimfhniaa
