/- The chapter's examples of layer 10, over what the program's names answer. -/
import Derived.Test.YtaphmmbngjblhaaNamesApi
namespace Go.Proofs.Ytaphmmbngjblhaa
open Go.RowKit
set_option linter.unusedVariables false

set_option maxHeartbeats 2000000 in
set_option maxRecDepth 100000 in
theorem named_true (api : NamesApi) (w : World) : Calls Try.prog 7 #[] w fun e w' => e = .returned (.bool true) ∧ Below w.heap.size w w' := by
  obtain ⟨Z, hmk, hcv⟩ := make_33
  have hsz : (bs (List.replicate 33 0)).size = 33 := by rw [bs_size, List.length_replicate]
  have hex : ((bs (List.replicate 33 0)).extract 0 32).size = 32 := by rw [ByteArray.size_extract, hsz]; rfl
  have P1 := fun W => api.parse ⟨#[116, 48, 48, 48, 48, 49, 50]⟩ W (by decide)
  have P2 := fun W => api.parse ⟨#[116, 49, 50]⟩ W (by decide)
  have P3 := fun W => api.parse ⟨#[120, 48, 48, 48, 48, 49, 50]⟩ W (by decide)
  have P4 := fun W => api.parse ⟨#[99, 48, 48, 48, 48, 49, 97]⟩ W (by decide)
  rw [pex_1.1, pex_1.2.1, pex_1.2.2] at P1
  rw [pex_2.1, pex_2.2.1, pex_2.2.2] at P2
  rw [pex_3.1, pex_3.2.1, pex_3.2.2] at P3
  rw [pex_4.1, pex_4.2.1, pex_4.2.2] at P4
  have C1 := fun W => api.chunk 0 W (by decide)
  have C2 := fun W => api.table 12 W (by decide)
  have C3 := fun W => api.bloom 1000000 W (by decide)
  have C4 := fun W => api.bloom (-1) W (by decide)
  rw [nex_1] at C1
  rw [nex_2] at C2
  rw [nex_3] at C3
  rw [nex_4] at C4
  have S1 := fun W => api.stream ⟨#[]⟩ W (by decide)
  have S2 := fun W => api.stream ((bs (List.replicate 33 0)).extract 0 32) W (by rw [hex]; decide)
  have S3 := fun W => api.stream (bs (List.replicate 33 0)) W (by rw [hsz]; decide)
  have s1 : stS ⟨#[]⟩ = false := by decide
  have s2 : stS ((bs (List.replicate 33 0)).extract 0 32) = true := by unfold stS; rw [hex]; decide
  have s3 : stS (bs (List.replicate 33 0)) = false := by unfold stS; rw [hsz]; decide
  rw [s1] at S1
  rw [s2] at S2
  rw [s3] at S3
  have Q1 := Lib.hid P1
  have Q2 := Lib.hid P2
  have Q3 := Lib.hid P3
  have Q4 := Lib.hid P4
  have D1 := Lib.hid C1
  have D2 := Lib.hid C2
  have D3 := Lib.hid C3
  have D4 := Lib.hid C4
  have T1 := Lib.hid S1
  have T2 := Lib.hid S2
  have T3 := Lib.hid S3
  have z1 : (32 : Int) ≤ ((bs (List.replicate 33 0)).size : Int) := by rw [hsz]; decide
  clear P1 P2 P3 P4 C1 C2 C3 C4 S1 S2 S3 s1 s2 s3 hex
  generalize bs (List.replicate 33 0) = L at *
  clear hsz
  go_enter Try.func7, Try.ntmps7
  go_wp2_with fail
  refine (Q1.out _).mono ?_
  rintro e w1 ⟨rfl, hb1⟩
  go_wp2_with fail
  refine (Q2.out _).mono ?_
  rintro e w2 ⟨rfl, hb2⟩
  go_wp2_with fail
  refine (Q3.out _).mono ?_
  rintro e w3 ⟨rfl, hb3⟩
  go_wp2_with fail
  refine (Q4.out _).mono ?_
  rintro e w4 ⟨rfl, hb4⟩
  have b4 := bj hb1 (bj hb2 (bj hb3 hb4))
  have b5 := b4.alloc b4.size (.cells Z 5)
  clear hb1 hb2 hb3 hb4 b4
  go_wp2_with fail
  refine (D1.out _).mono ?_
  rintro e w5 ⟨rfl, hb5⟩
  go_wp2_with fail
  refine (D2.out _).mono ?_
  rintro e w6 ⟨rfl, hb6⟩
  go_wp2_with fail
  refine (D3.out _).mono ?_
  rintro e w7 ⟨rfl, hb7⟩
  go_wp2_with fail
  refine (D4.out _).mono ?_
  rintro e w8 ⟨rfl, hb8⟩
  have b8 := bj b5 (bj hb5 (bj hb6 (bj hb7 hb8)))
  clear b5 hb5 hb6 hb7 hb8
  go_wp2_with fail
  refine (T1.out _).mono ?_
  rintro e w9 ⟨rfl, hb9⟩
  go_wp2_with fail
  refine (T2.out _).mono ?_
  rintro e w10 ⟨rfl, hb10⟩
  go_wp2_with fail
  refine (T3.out _).mono ?_
  rintro e w11 ⟨rfl, hb11⟩
  go_wp2
  go_ret
  exact ⟨rfl, bj b8 (bj hb9 (bj hb10 hb11))⟩
end Go.Proofs.Ytaphmmbngjblhaa
