/- The chapter's examples of layer 6, as the statements ask them. -/
import Derived.Test.YtfpimebamkmjoaaDiskApi
namespace Go.Proofs.Ytfpimebamkmjoaa
open Go.RowKit
set_option linter.unusedVariables false

def k1 : DiskS := (createS (newS 5) ⟨#[97]⟩).2
def k2 : DiskS := (appendS k1 ⟨#[97]⟩ ⟨#[120, 121, 122]⟩).2
def k3 : DiskS := (readS k2 ⟨#[97]⟩ 1 2).2.2
def k4 : DiskS := (readS k3 ⟨#[97]⟩ 2 2).2.2
def k5 : DiskS := (syncS k4 ⟨#[97]⟩).2
def k6 : DiskS := (appendS k5 ⟨#[97]⟩ ⟨#[117, 118]⟩).2
def k7 : DiskS := (crashS k6 [1]).2
def k8 : DiskS := (startS k7).2
def k9 : DiskS := (failS k8 0 []).2
def k10 : DiskS := (appendS k9 ⟨#[97]⟩ ⟨#[116]⟩).2
def k11 : DiskS := (startS k10).2
def k12 : DiskS := (spoilS k11 ⟨#[97]⟩ 3 ⟨#[120, 120]⟩).2
def k13 : DiskS := (readS k12 ⟨#[97]⟩ 0 4).2.2
def k14 : DiskS := (cutS k13 ⟨#[97]⟩ 1).2
theorem okk0 : RefOk (newS 5) := ok_of (by decide +kernel)
theorem okk1 : RefOk k1 := ok_of (by decide +kernel)
theorem okk2 : RefOk k2 := ok_of (by decide +kernel)
theorem okk3 : RefOk k3 := ok_of (by decide +kernel)
theorem okk4 : RefOk k4 := ok_of (by decide +kernel)
theorem okk5 : RefOk k5 := ok_of (by decide +kernel)
theorem okk6 : RefOk k6 := ok_of (by decide +kernel)
theorem okk7 : RefOk k7 := ok_of (by decide +kernel)
theorem okk8 : RefOk k8 := ok_of (by decide +kernel)
theorem okk9 : RefOk k9 := ok_of (by decide +kernel)
theorem okk10 : RefOk k10 := ok_of (by decide +kernel)
theorem okk11 : RefOk k11 := ok_of (by decide +kernel)
theorem okk12 : RefOk k12 := ok_of (by decide +kernel)
theorem okk13 : RefOk k13 := ok_of (by decide +kernel)
theorem okk14 : RefOk k14 := ok_of (by decide +kernel)
theorem same60 : (appendS k2 ⟨#[97]⟩ ⟨#[117, 118, 119]⟩).2 = k2 := rfl
theorem same4 : (appendS k2 ⟨#[98]⟩ ⟨#[120]⟩).2 = k2 := rfl

set_option maxRecDepth 100000 in
set_option maxHeartbeats 4000000 in
theorem sinks_true {At : Lies} (api : DiskApi At) (w : World) : Calls Try.prog 9 #[] w fun e w' => e = .returned (.bool true) ∧ Below w.heap.size w w' := by
  go_enter Try.func9, Try.ntmps9
  go_wp2_with fail
  refine (new_l api w 5 (by decide)).mono ?_
  rintro e w1 ⟨g, rfl, hL0⟩
  go_wp2_with fail
  refine (create_l api _ hL0 okk0 (by decide) (r := 0) (by decide +kernel) (E := k1) rfl).mono ?_
  rintro e w1 ⟨rfl, hL1⟩
  clear hL0
  go_wp2_with fail
  refine (append_l api _ _ hL1 okk1 (by decide) (r := 0) (by decide +kernel) (E := k2) rfl).mono ?_
  rintro e w1 ⟨rfl, hL2⟩
  clear hL1
  go_wp2_with fail
  refine (append_l api _ _ hL2 okk2 (by decide) (r := 60) (by decide +kernel) (E := k2) same60).mono ?_
  rintro e w1 ⟨rfl, hL3⟩
  clear hL2
  go_wp2_with fail
  refine (append_l api _ _ hL3 okk2 (by decide) (r := 4) (by decide +kernel) (E := k2) same4).mono ?_
  rintro e w1 ⟨rfl, hL4⟩
  clear hL3
  go_wp2_with fail
  refine (free_l api hL4 okk2 (m := 2) (by decide +kernel)).mono ?_
  rintro e w1 ⟨rfl, hL5⟩
  clear hL4
  go_wp2_with fail
  refine (read_l api _ 1 2 hL5 okk2 (by decide +kernel) rfl rfl (t := ⟨#[121, 122]⟩) (by decide +kernel) (r := 0) (by decide +kernel) (E := k3) rfl).mono ?_
  rintro e w1 ⟨rfl, hL6⟩
  clear hL5
  go_wp2_with fail
  refine (read_l api _ 2 2 hL6 okk3 (by decide +kernel) rfl rfl (t := ByteArray.empty) (by decide +kernel) (r := 2) (by decide +kernel) (E := k4) rfl).mono ?_
  rintro e w1 ⟨rfl, hL7⟩
  clear hL6
  go_wp2_with fail
  refine (reads_l api hL7 okk4 (m := 2) (by decide +kernel)).mono ?_
  rintro e w1 ⟨rfl, hL8⟩
  clear hL7
  go_wp2_with fail
  refine (sync_l api _ hL8 okk4 (r := 0) (by decide +kernel) (E := k5) rfl).mono ?_
  rintro e w1 ⟨rfl, hL9⟩
  clear hL8
  go_wp2_with fail
  refine (append_l api _ _ hL9 okk5 (by decide) (r := 0) (by decide +kernel) (E := k6) rfl).mono ?_
  rintro e w1 ⟨rfl, hL10⟩
  clear hL9
  go_wp2_with fail
  refine (crash_one api 1 hL10 okk6 (r := 0) (by decide +kernel) (E := k7) rfl).mono ?_
  rintro e w1 ⟨rfl, hL11⟩
  clear hL10
  go_wp2_with fail
  refine (start_l api hL11 okk7 (by decide +kernel) (r := 0) (by decide +kernel) (E := k8) rfl).mono ?_
  rintro e w1 ⟨rfl, hL12⟩
  clear hL11
  go_wp2_with fail
  refine (size_l api _ hL12 okk8 (m := 4) (r := 0) (by decide +kernel) (by decide +kernel)).mono ?_
  rintro e w1 ⟨rfl, hL13⟩
  clear hL12
  go_wp2_with fail
  refine (fail_none api 0 hL13 okk8 rfl (by decide) (r := 0) (by decide +kernel) (E := k9) rfl).mono ?_
  rintro e w1 ⟨rfl, hL14⟩
  clear hL13
  go_wp2_with fail
  refine (append_l api _ _ hL14 okk9 (by decide) (r := 61) (by decide +kernel) (E := k10) rfl).mono ?_
  rintro e w1 ⟨rfl, hL15⟩
  clear hL14
  go_wp2_with fail
  refine (up_l api hL15 okk10 (b := false) (by decide +kernel)).mono ?_
  rintro e w1 ⟨rfl, hL16⟩
  clear hL15
  go_wp2_with fail
  refine (start_l api hL16 okk10 (by decide +kernel) (r := 0) (by decide +kernel) (E := k11) rfl).mono ?_
  rintro e w1 ⟨rfl, hL17⟩
  clear hL16
  go_wp2_with fail
  refine (size_l api _ hL17 okk11 (m := 4) (r := 0) (by decide +kernel) (by decide +kernel)).mono ?_
  rintro e w1 ⟨rfl, hL18⟩
  clear hL17
  go_wp2_with fail
  refine (spoil_l api _ 3 _ hL18 okk11 rfl (by decide) (r := 0) (by decide +kernel) (E := k12) rfl).mono ?_
  rintro e w1 ⟨rfl, hL19⟩
  clear hL18
  go_wp2_with fail
  refine (read_l api _ 0 4 hL19 okk12 (by decide +kernel) rfl rfl (t := ⟨#[120, 121, 122, 120]⟩) (by decide +kernel) (r := 0) (by decide +kernel) (E := k13) rfl).mono ?_
  rintro e w1 ⟨rfl, hL20⟩
  clear hL19
  go_wp2_with fail
  refine (cut_l api _ 1 hL20 okk13 rfl (r := 0) (by decide +kernel) (E := k14) rfl).mono ?_
  rintro e w1 ⟨rfl, hL21⟩
  clear hL20
  go_wp2_with fail
  refine (size_l api _ hL21 okk14 (m := 1) (r := 0) (by decide +kernel) (by decide +kernel)).mono ?_
  rintro e w1 ⟨rfl, hL22⟩
  clear hL21
  go_wp2
  go_ret
  exact ⟨rfl, Live.below hL22⟩
end Go.Proofs.Ytfpimebamkmjoaa
