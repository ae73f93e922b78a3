/- A disk that is none: the program's. -/
import Derived.Test.YtfpimebamkmjoaaDCore
namespace Go.Proofs.Ytfpimebamkmjoaa
open Go.RowKit
set_option linter.unusedVariables false

/-- A call that answers so, and changes nothing. -/
def Says (f : FuncId) (args : Array Value) (w : World) (v : Value) : Prop := Calls Try.prog f args w fun e w' => e = .returned v ∧ w = w'
section
variable {w : World} {p : Value}
theorem ready_nil (hn : Says 47 #[p] w (.bool true))  : Says 49 #[p] w (.int .i64 1) := by
  have k0 := Lib.hid (hn)
  clear hn
  unfold Says at *
  go_enter Try.func49, Try.ntmps49
  go_wp2_with fail
  refine k0.out.mono ?_
  rintro e w' ⟨rfl, rfl⟩
  go_wp2
  go_ret
  exact ⟨rfl, rfl⟩
theorem look_nil (hn : Says 47 #[p] w (.bool true)) (n : ByteArray) : Says 56 #[p, .string n] w (.tuple #[.pointer none, .int .i64 1]) := by
  have k0 := Lib.hid (hn)
  clear hn
  unfold Says at *
  go_enter Try.func56, Try.ntmps56
  go_wp2_with fail
  refine k0.out.mono ?_
  rintro e w' ⟨rfl, rfl⟩
  go_wp2
  go_ret2
  exact ⟨rfl, rfl⟩
theorem open_nil (hn : Says 47 #[p] w (.bool true)) (n : ByteArray) : Says 48 #[p, .string n] w (.tuple #[.pointer none, .int .i64 1]) := by
  have k0 := Lib.hid (ready_nil hn)
  clear hn
  unfold Says at *
  go_enter Try.func48, Try.ntmps48
  go_wp2_with fail
  refine k0.out.mono ?_
  rintro e w' ⟨rfl, rfl⟩
  go_wp2
  go_ret2
  exact ⟨rfl, rfl⟩
theorem up_nil (hn : Says 47 #[p] w (.bool true))  : Says 30 #[p] w (.bool false) := by
  have k0 := Lib.hid (hn)
  clear hn
  unfold Says at *
  go_enter Try.func30, Try.ntmps30
  go_wp2_with fail
  refine k0.out.mono ?_
  rintro e w' ⟨rfl, rfl⟩
  go_wp2
  go_ret
  exact ⟨rfl, rfl⟩
theorem read_nil (hn : Says 47 #[p] w (.bool true)) (n : ByteArray) (a k : Int) : Says 18 #[p, .string n, .int .i64 a, .int .i64 k] w (.tuple #[.string ByteArray.empty, .int .i64 1]) := by
  have k0 := Lib.hid (up_nil hn)
  have k1 := Lib.hid (open_nil hn n)
  clear hn
  unfold Says at *
  go_enter Try.func18, Try.ntmps18
  go_wp2_with fail
  refine k0.out.mono ?_
  rintro e w' ⟨rfl, rfl⟩
  go_wp2_with fail
  refine k1.out.mono ?_
  rintro e w' ⟨rfl, rfl⟩
  go_wp2
  go_ret2
  exact ⟨rfl, rfl⟩
theorem size_nil (hn : Says 47 #[p] w (.bool true)) (n : ByteArray) : Says 19 #[p, .string n] w (.tuple #[.int .i64 0, .int .i64 1]) := by
  have k0 := Lib.hid (open_nil hn n)
  clear hn
  unfold Says at *
  go_enter Try.func19, Try.ntmps19
  go_wp2_with fail
  refine k0.out.mono ?_
  rintro e w' ⟨rfl, rfl⟩
  go_wp2
  go_ret2
  exact ⟨rfl, rfl⟩
theorem create_nil (hn : Says 47 #[p] w (.bool true)) (n : ByteArray) : Says 20 #[p, .string n] w (.int .i64 1) := by
  have k0 := Lib.hid (ready_nil hn)
  clear hn
  unfold Says at *
  go_enter Try.func20, Try.ntmps20
  go_wp2_with fail
  refine k0.out.mono ?_
  rintro e w' ⟨rfl, rfl⟩
  go_wp2
  go_ret
  exact ⟨rfl, rfl⟩
theorem append_nil (hn : Says 47 #[p] w (.bool true)) (n : ByteArray) (s : ByteArray) : Says 21 #[p, .string n, .string s] w (.int .i64 1) := by
  have k0 := Lib.hid (open_nil hn n)
  clear hn
  unfold Says at *
  go_enter Try.func21, Try.ntmps21
  go_wp2_with fail
  refine k0.out.mono ?_
  rintro e w' ⟨rfl, rfl⟩
  go_wp2
  go_ret
  exact ⟨rfl, rfl⟩
theorem sync_nil (hn : Says 47 #[p] w (.bool true)) (n : ByteArray) : Says 22 #[p, .string n] w (.int .i64 1) := by
  have k0 := Lib.hid (open_nil hn n)
  clear hn
  unfold Says at *
  go_enter Try.func22, Try.ntmps22
  go_wp2_with fail
  refine k0.out.mono ?_
  rintro e w' ⟨rfl, rfl⟩
  go_wp2
  go_ret
  exact ⟨rfl, rfl⟩
theorem rename_nil (hn : Says 47 #[p] w (.bool true)) (n : ByteArray) (s : ByteArray) : Says 23 #[p, .string n, .string s] w (.int .i64 1) := by
  have k0 := Lib.hid (open_nil hn n)
  clear hn
  unfold Says at *
  go_enter Try.func23, Try.ntmps23
  go_wp2_with fail
  refine k0.out.mono ?_
  rintro e w' ⟨rfl, rfl⟩
  go_wp2
  go_ret
  exact ⟨rfl, rfl⟩
theorem delete_nil (hn : Says 47 #[p] w (.bool true)) (n : ByteArray) : Says 24 #[p, .string n] w (.int .i64 1) := by
  have k0 := Lib.hid (open_nil hn n)
  clear hn
  unfold Says at *
  go_enter Try.func24, Try.ntmps24
  go_wp2_with fail
  refine k0.out.mono ?_
  rintro e w' ⟨rfl, rfl⟩
  go_wp2
  go_ret
  exact ⟨rfl, rfl⟩
theorem names_nil (hn : Says 47 #[p] w (.bool true))  : Says 25 #[p] w (.slice none 0 0) := by
  have k0 := Lib.hid (hn)
  clear hn
  unfold Says at *
  go_enter Try.func25, Try.ntmps25
  go_wp2_with fail
  refine k0.out.mono ?_
  rintro e w' ⟨rfl, rfl⟩
  go_wp2
  go_ret
  exact ⟨rfl, rfl⟩
theorem free_nil (hn : Says 47 #[p] w (.bool true))  : Says 27 #[p] w (.int .i64 0) := by
  have k0 := Lib.hid (hn)
  clear hn
  unfold Says at *
  go_enter Try.func27, Try.ntmps27
  go_wp2_with fail
  refine k0.out.mono ?_
  rintro e w' ⟨rfl, rfl⟩
  go_wp2
  go_ret
  exact ⟨rfl, rfl⟩
theorem reads_nil (hn : Says 47 #[p] w (.bool true))  : Says 28 #[p] w (.int .i64 0) := by
  have k0 := Lib.hid (hn)
  clear hn
  unfold Says at *
  go_enter Try.func28, Try.ntmps28
  go_wp2_with fail
  refine k0.out.mono ?_
  rintro e w' ⟨rfl, rfl⟩
  go_wp2
  go_ret
  exact ⟨rfl, rfl⟩
theorem starts_nil (hn : Says 47 #[p] w (.bool true))  : Says 29 #[p] w (.int .i64 0) := by
  have k0 := Lib.hid (hn)
  clear hn
  unfold Says at *
  go_enter Try.func29, Try.ntmps29
  go_wp2_with fail
  refine k0.out.mono ?_
  rintro e w' ⟨rfl, rfl⟩
  go_wp2
  go_ret
  exact ⟨rfl, rfl⟩
theorem crash_nil (hn : Says 47 #[p] w (.bool true)) (A : Option Addr) (m c : Nat) : Says 31 #[p, .slice A m c] w (.int .i64 1) := by
  have k0 := Lib.hid (ready_nil hn)
  clear hn
  unfold Says at *
  go_enter Try.func31, Try.ntmps31
  go_wp2_with fail
  refine k0.out.mono ?_
  rintro e w' ⟨rfl, rfl⟩
  go_wp2
  go_ret
  exact ⟨rfl, rfl⟩
theorem start_nil (hn : Says 47 #[p] w (.bool true))  : Says 16 #[p] w (.int .i64 1) := by
  have k0 := Lib.hid (hn)
  clear hn
  unfold Says at *
  go_enter Try.func16, Try.ntmps16
  go_wp2_with fail
  refine k0.out.mono ?_
  rintro e w' ⟨rfl, rfl⟩
  go_wp2
  go_ret
  exact ⟨rfl, rfl⟩
theorem fail_nil (hn : Says 47 #[p] w (.bool true)) (k : Int) (A : Option Addr) (m c : Nat) : Says 32 #[p, .int .i64 k, .slice A m c] w (.int .i64 1) := by
  have k0 := Lib.hid (ready_nil hn)
  clear hn
  unfold Says at *
  go_enter Try.func32, Try.ntmps32
  go_wp2_with fail
  refine k0.out.mono ?_
  rintro e w' ⟨rfl, rfl⟩
  go_wp2
  go_ret
  exact ⟨rfl, rfl⟩
theorem spoil_nil (hn : Says 47 #[p] w (.bool true)) (n : ByteArray) (k : Int) (s : ByteArray) : Says 33 #[p, .string n, .int .i64 k, .string s] w (.int .i64 1) := by
  have k0 := Lib.hid (look_nil hn n)
  clear hn
  unfold Says at *
  go_enter Try.func33, Try.ntmps33
  go_wp2_with fail
  refine k0.out.mono ?_
  rintro e w' ⟨rfl, rfl⟩
  go_wp2
  go_ret
  exact ⟨rfl, rfl⟩
theorem cut_nil (hn : Says 47 #[p] w (.bool true)) (n : ByteArray) (k : Int) : Says 34 #[p, .string n, .int .i64 k] w (.int .i64 1) := by
  have k0 := Lib.hid (look_nil hn n)
  clear hn
  unfold Says at *
  go_enter Try.func34, Try.ntmps34
  go_wp2_with fail
  refine k0.out.mono ?_
  rintro e w' ⟨rfl, rfl⟩
  go_wp2
  go_ret
  exact ⟨rfl, rfl⟩
theorem unsynced_nil (hn : Says 47 #[p] w (.bool true)) : Says 26 #[p] w (.slice none 0 0) := by
  have k0 := Lib.hid (names_nil hn)
  clear hn
  unfold Says at *
  go_enter Try.func26, Try.ntmps26
  go_wp2_with fail
  refine k0.out.mono ?_
  rintro e w' ⟨rfl, rfl⟩
  go_wp2
  refine wp_loop_rounds 1 ?_
  rw [rounds_succ]
  go_wp2
  go_ret
  exact ⟨rfl, rfl⟩
end
end Go.Proofs.Ytfpimebamkmjoaa
