/- A manifest's bytes, number by number: the program's. -/
import Derived.Test.YtcfidpjhemjbjaaMfSame
import Derived.Test.YtcfidpjhemjbjaaBuild
import Derived.Test.YtcfidpjhemjbjaaSealOne
import Derived.Deep.RegionHeld3
import Derived.Deep.LoopGhost
import Derived.WalkMore
namespace Go.Proofs.Ytcfidpjhemjbjaa
open Go.RowKit Go.Shelf
set_option linter.unusedVariables false
set_option maxRecDepth 100000

theorem mput4_any (N : Nat) (w : World) (hN : N < 9223372036854775808) :
    Calls Try.prog 17 #[.int .i64 (N : Nat)] w fun e w' => e = .returned (.string (bs (be 4 N))) ∧ Below w.heap.size w w' := by
  have HP := Lib.hid fun W => put_some N 4 W (by omega) (by omega) (by omega)
  have q1 : IntKind.u64.wrap ((N : Nat) : Int) = (N : Nat) := IntWalk.u64_in _ ⟨by omega, by omega⟩
  generalize bs (be 4 N) = R at *
  go_enter Try.func17, Try.ntmps17
  go_wp2_with fail
  refine (HP.out _).mono ?_
  rintro e w1 ⟨rfl, hb1⟩
  go_wp2
  go_ret
  exact ⟨rfl, hb1⟩
theorem mput1_any (N : Nat) (w : World) (hN : N < 9223372036854775808) :
    Calls Try.prog 20 #[.int .i64 (N : Nat)] w fun e w' => e = .returned (.string (bs (be 1 N))) ∧ Below w.heap.size w w' := by
  have HP := Lib.hid fun W => put_some N 1 W (by omega) (by omega) (by omega)
  have q1 : IntKind.u64.wrap ((N : Nat) : Int) = (N : Nat) := IntWalk.u64_in _ ⟨by omega, by omega⟩
  generalize bs (be 1 N) = R at *
  go_enter Try.func20, Try.ntmps20
  go_wp2_with fail
  refine (HP.out _).mono ?_
  rintro e w1 ⟨rfl, hb1⟩
  go_wp2
  go_ret
  exact ⟨rfl, hb1⟩
theorem Wrt.drew {w1 W : World} {s : ByteArray} (h : Wrt w1 s W) : Wrt w1 s W.drew := ⟨h.b.drew, h.o.drew⟩
/-- What Put tells of a manifest. -/
def MfPutEnd (w : World) (m : ManS) (e : Ending) (w' : World) : Prop := e = .returned (.tuple #[.string (mfS m), .int .i64 (mfE m)]) ∧ Below w.heap.size w w'
theorem mput_no (n c : Int) (d : Nat) (A : Option Addr) (k cp : Nat) (R : LvL) (w : World) (h : LvsHas w (.slice A k cp) R) (hl : R.flatten.length ≤ 100000) (hL : R.length ≤ 100000) (hm : ¬ MayM ⟨n, c, d, R⟩) :
    Calls Try.prog 8 #[manV n c d (.slice A k cp)] w (MfPutEnd w ⟨n, c, d, R⟩) := by
  have hb := (Below.refl w.heap.size w).alloc (Nat.le_refl _) (manO n c d (.slice A k cp))
  have HB := Lib.hid hb
  have HV := mval_any n c d A k cp R _ (h.below hb (Nat.le_refl _)) hl hL
  rw [show mayM ⟨n, c, d, R⟩ = false from decide_eq_false hm] at HV
  have HV2 := Lib.hid HV
  obtain ⟨e1, e2⟩ := mf_no hm
  unfold MfPutEnd
  rw [e1, e2]
  unfold manV at HV2 ⊢
  clear HV h hl hL hb hm e1 e2
  go_enter Try.func8, Try.ntmps8
  go_wp2_with fail
  refine HV2.out.mono ?_
  rintro e w1 ⟨rfl, hb1⟩
  go_wp2
  go_ret2
  exact ⟨rfl, bj HB.out hb1⟩
/-- What is written, up to a level; up to a number. -/
def mfTo (m : ManS) (T : LvL) (j : Nat) : ByteArray := bs (mfTop m ++ lvsB (T.take j))
def mfIn (m : ManS) (T : LvL) (j : Nat) (x : List Int) (k : Nat) : ByteArray := bs (mfTop m ++ lvsB (T.take j) ++ be 1 x.length ++ (x.take k).flatMap u4)
theorem mfTo_zero (m : ManS) (T : LvL) : mfTo m T 0 = bs (mfTop m) := by unfold mfTo; rw [List.take_zero]; unfold lvsB; rw [List.flatMap_nil, List.append_nil]
theorem mfIn_zero (m : ManS) (T : LvL) (j : Nat) (x : List Int) : mfTo m T j ++ bs (be 1 x.length) = mfIn m T j x 0 := by unfold mfTo mfIn; rw [bs_append, List.take_zero, List.flatMap_nil, List.append_nil]
theorem mfIn_succ {m : ManS} {T : LvL} {j k : Nat} {x : List Int} {y : Int} (h : x[k]? = some y) : mfIn m T j x k ++ bs (be 4 y.toNat) = mfIn m T j x (k + 1) := by
  unfold mfIn
  rw [bs_append, List.take_add_one, h, List.flatMap_append]
  simp only [List.append_assoc]
  congr 4
theorem mfIn_end {m : ManS} {T : LvL} {j : Nat} {x : List Int} (h : T[j]? = some x) : mfIn m T j x x.length = mfTo m T (j + 1) := by
  unfold mfIn mfTo
  rw [List.take_add_one, h, List.take_length, lvsB_append]
  show _ = bs (mfTop m ++ (lvsB (T.take j) ++ lvsB [x]))
  rw [lvsB_one]
  unfold lvB
  simp only [List.append_assoc]
theorem mfTo_end (m : ManS) : mfTo m (trimL m.lv) (trimL m.lv).length = bs (mfBody m) := by unfold mfTo mfBody; rw [List.take_length]
theorem mf_top (n c d t : Nat) : bs imapL ++ bs (be 4 n) ++ bs (be 4 c) ++ bs (be 8 d) ++ bs (be 1 t) = bs (imapL ++ be 4 n ++ be 4 c ++ be 8 d ++ be 1 t) := by rw [bs_append, bs_append, bs_append, bs_append]
theorem lvsB_le {T : LvL} {j : Nat} : (lvsB (T.take j)).length ≤ (lvsB T).length := by
  conv => rhs; rw [← List.take_append_drop j T, lvsB_append, List.length_append]
  omega
theorem mfTo_size {m : ManS} {T : LvL} {j : Nat} (h : (lvsB T).length ≤ 200) : (mfTo m T j).size ≤ 221 := by
  have := lvsB_le (T := T) (j := j)
  unfold mfTo
  rw [bs_size, List.length_append, mfTop_length]
  omega
theorem mfIn_size {m : ManS} {T : LvL} {j k : Nat} {x : List Int} (h : (lvsB T).length ≤ 200) (hx : x.length ≤ 40) : (mfIn m T j x k).size ≤ 400 := by
  have := lvsB_le (T := T) (j := j)
  unfold mfIn
  rw [bs_size, List.length_append, List.length_append, List.length_append, mfTop_length, be_length, flat4_length, List.length_take]
  omega
theorem MayM.bytes {m : ManS} (h : MayM m) : (lvsB (trimL m.lv)).length ≤ 200 := by
  obtain ⟨h1, h2, -⟩ := h.lv_ok
  rw [lvsB_length]
  omega
end Go.Proofs.Ytcfidpjhemjbjaa
