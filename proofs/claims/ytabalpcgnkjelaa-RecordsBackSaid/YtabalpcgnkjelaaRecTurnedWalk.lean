/- The walk of RecordsTurned, over what the program's records answer. -/
import Derived.Test.YtabalpcgnkjelaaRecorded
import Derived.Test.YtabalpcgnkjelaaRecTurned
namespace Go.Proofs.Ytabalpcgnkjelaa
open Go.RowKit
set_option linter.unusedVariables false

theorem turned_less (api : RecApi) (p : ByteArray) (x y : Int) (hp : p.size ≤ maxLen) (h : 1500 < p.size ∨ y = 0) (w : World) :
    Calls Try.prog 8 #[.string p, .int .u16 x, .int .u32 y] w fun e w' => e = .returned (.bool true) ∧ Below w.heap.size w w' := by
  have HR := Lib.hid (recorded_true api)
  unfold maxLen at hp
  by_cases h1 : 1500 < p.size
  · go_enter Try.func8, Try.ntmps8
    go_wp2_with fail
    refine (HR.out _).mono ?_
    rintro e w1 ⟨rfl, hb1⟩
    go_wp2
    go_ret
    exact ⟨rfl, hb1⟩
  · obtain rfl : y = 0 := by omega
    go_enter Try.func8, Try.ntmps8
    go_wp2_with fail
    refine (HR.out _).mono ?_
    rintro e w1 ⟨rfl, hb1⟩
    go_wp2
    go_ret
    exact ⟨rfl, hb1⟩

set_option maxHeartbeats 2000000 in
theorem turned_more (api : RecApi) (p : ByteArray) (a y : Nat) (ha : a < 65536) (hy : y < 4294967296) (h0 : 0 < y) (hp : p.size ≤ 1500) (w : World) :
    Calls Try.prog 8 #[.string p, .int .u16 (a : Nat), .int .u32 (y : Nat)] w fun e w' => e = .returned (.bool true) ∧ Below w.heap.size w w' := by
  have HR := Lib.hid (recorded_true api)
  have HP := Lib.hid fun W => api.put p W (by unfold maxLen; omega)
  have e1 : prS p = recS p := by unfold prS; rw [if_neg (by omega)]
  have e2 : prE p = 0 := by unfold prE; rw [if_neg (by omega)]
  rw [e1, e2] at HP
  have hN := recS_size p
  obtain ⟨r, hr⟩ : ∃ r, a % (p.size + 5) = r := ⟨_, rfl⟩
  have hm := Nat.mod_lt a (show 0 < p.size + 5 by omega)
  rw [hr] at hm
  obtain ⟨k, hk⟩ : ∃ k, k = 4 + r := ⟨_, rfl⟩
  have hk2 : k + 4 ≤ (recS p).size := by omega
  have hop := rec_turned p y k (by omega) hy (by omega) (by omega) (by omega)
  have hconv := fun W => conv_in W (recS p)
  have hrow0 := fun W => bytesIn_row 5 W (recS p)
  have hbel0 := fun (W : World) => bytesIn_below 5 (w0 := w) (w := W) (recS p)
  have hLl : (recS p).data.toList.length = (recS p).size := Array.length_toList
  generalize recS p = t at *
  have hy0 : ((y : Int) == 0) = false := by simp; omega
  have n1 : (12 : Int) ≤ (t.size : Int) := by omega
  have n2 : (t.size : Int) ≤ 1512 := by omega
  have eK : wrap64 (4 + (a : Int) % ((t.size : Int) - 7)) = (k : Int) := by
    have x1 : (t.size : Int) - 7 = ((p.size + 5 : Nat) : Int) := by omega
    have x2 : (a : Int) % ((p.size + 5 : Nat) : Int) = (r : Int) := by rw [← hr]; rfl
    rw [x1, x2]
    unfold wrap64
    omega
  have HK := Lib.hid eK
  have Hrow0 := Lib.hid hrow0
  have Hbel0 := Lib.hid hbel0
  have HN := Lib.hid hN
  have Hop := Lib.hid hop
  have HL := Lib.hid hLl
  have Hk4 : Hid (4 ≤ k) := Lib.hid (by omega)
  clear hrow0 hbel0 hN hop hLl eK hm hr hk e1 e2
  go_enter Try.func8, Try.ntmps8
  go_wp2_with fail
  refine (HP.out _).mono ?_
  rintro e w1 ⟨rfl, hb1⟩
  go_wp2_with fail
  rw [HK.out]
  have hrow := Hrow0.out w1
  have hbel := Hbel0.out w1 hb1
  have hB : w.heap.size ≤ w1.heap.size := hb1.size
  clear hconv Hrow0 Hbel0 HK hy0 hb1 HP
  generalize bytesIn 5 w1 t = w2 at *
  generalize grownCap w1 t.size 0 5 = cap at *
  generalize w1.heap.size = B at *
  have HN2 := HN.out
  have HL2 := HL.out
  clear HN HL
  generalize t.size = N at *
  generalize t.data.toList = L at *
  have HN := Lib.hid HN2
  have HL := Lib.hid HL2
  clear HN2 HL2
  go_loopw [11] (fun i wr => ∃ m : Nat, m ≤ 4 ∧ i = .int .i64 m ∧ RowB wr B N (u8At (tw y k m L)) ∧ Below w.heap.size w wr) (fun i _ => 4 - (intOf i).toNat)
  case atStart => exact ⟨0, by omega, rfl, by rw [tw_zero]; exact hrow, hbel⟩
  case round =>
    clear hrow hbel
    obtain ⟨m, hm, rfl, hrow, hbel⟩ := hrel
    by_cases hlt : m < 4
    · have hcell := hrow.cell (i := k + m) (by omega)
      have hfz := hrow.frozen (i := k + m) (by omega)
      have hst := Lib.hid (fun j hj => tw_step y k m N L HL.out j hj (by omega))
      have s1 : (k : Int) + (m : Int) < (N : Int) := by omega
      unfold u8At at hcell
      generalize hz : (tw y k m L).getD (k + m) 0 = z at *
      have Hz := Lib.hid hz
      clear hz
      go_wp2_with fail
      go_region
      go_wp2
      go_roundw
      case rel => exact ⟨m + 1, by omega, by go_num, ((hrow.set _ _).congr (fun j hj => hst.out j hj)).drew, (hbel.setCell hB _).drew⟩
      case measure => simp [intOf]; omega
    · obtain rfl : m = 4 := by omega
      have hcv : (convert 42 9 (.slice (some ⟨B, 0, none⟩) N cap)).run Try.prog wr = .ok (.string (bs (tw y k 4 L))) wr := conv_out hrow (by rw [tw_length, HL.out]) cap
      have hno : getOk (bs (tw y k 4 L)) 0 = false := by
        have e : getOk (bs (tw y k 4 L)) ((0 : Nat) : Int) = gtOk (bs (tw y k 4 L)) 0 := getOk_nat _ 0
        rw [Hop.out] at e
        exact e
      have hget := fun W => api.get (bs (tw y k 4 L)) 0 W (by rw [bs_size, tw_length, HL.out]; omega) (by decide)
      unfold GotRec at hget
      obtain ⟨g1, g2⟩ := gt_no hno
      rw [g1, g2, hno] at hget
      have Hget := Lib.hid hget
      clear hget hrow Hop hlt hm hno g1 g2
      generalize bs (tw y k 4 L) = T at *
      go_wp2_with fail
      refine (Hget.out _).mono ?_
      rintro e w3 ⟨rfl, hb3⟩
      go_wp2_with fail
      refine (HR.out _).mono ?_
      rintro e w4 ⟨rfl, hb4⟩
      go_wp2
      go_ret
      exact ⟨rfl, bj hbel (bj hb3 hb4)⟩

theorem turned_walk (api : RecApi) (p : ByteArray) (a y : Nat) (ha : a < 65536) (hy : y < 4294967296) (hp : p.size ≤ maxLen) (w : World) :
    Calls Try.prog 8 #[.string p, .int .u16 (a : Nat), .int .u32 (y : Nat)] w fun e w' => e = .returned (.bool true) ∧ Below w.heap.size w w' := by
  by_cases h : 1500 < p.size ∨ y = 0
  · exact turned_less api p _ _ hp (by omega) w
  · exact turned_more api p a y ha hy (by omega) (by omega) w
end Go.Proofs.Ytabalpcgnkjelaa
