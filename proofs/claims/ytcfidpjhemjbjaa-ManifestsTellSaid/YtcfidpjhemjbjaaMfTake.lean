/- Numbers that are taken from bytes, from the front on: the program's. -/
import Derived.Test.YtcfidpjhemjbjaaMfMath
import Derived.Test.YtcfidpjhemjbjaaNumsGet
import Derived.Test.YtcfidpjhemjbjaaOwn
import Derived.WalkMore
namespace Go.Proofs.Ytcfidpjhemjbjaa
open Go.RowKit
set_option linter.unusedVariables false
set_option maxRecDepth 100000

/-- What is left of bytes from a place on. -/
def restAt (s : ByteArray) (p : Nat) : ByteArray := s.extract p s.size
theorem restAt_size (s : ByteArray) (p : Nat) : (restAt s p).size = s.size - p := by unfold restAt; rw [ByteArray.size_extract]; omega
theorem restAt_zero (s : ByteArray) : restAt s 0 = s := by
  unfold restAt
  have hl := sl_size s
  rw [sl_extbs, List.drop_zero, List.take_of_length_le (by omega), bs_data]
theorem restAt_list (s : ByteArray) (p : Nat) : (restAt s p).data.toList = s.data.toList.drop p := by
  unfold restAt
  have hl := sl_size s
  rw [sl_ext, List.take_of_length_le (by rw [List.length_drop]; omega)]
theorem take_num (s : ByteArray) (p k : Nat) : getS ((restAt s p).extract 0 (min k (restAt s p).size)) = num s p k := by
  unfold num
  congr 1
  rw [sl_extbs, sl_extbs s p, restAt_list, restAt_size, List.drop_zero, Nat.sub_zero, show p + k - p = k by omega]
  congr 1
  have hl := sl_size s
  rcases Nat.lt_or_ge k (s.size - p) with c | c
  · rw [Nat.min_eq_left (by omega)]
  · rw [Nat.min_eq_right c, List.take_of_length_le (by rw [List.length_drop]; omega), List.take_of_length_le (by rw [List.length_drop]; omega)]
theorem take_rest (s : ByteArray) (p k : Nat) : (restAt s p).extract (min k (restAt s p).size) (restAt s p).size = restAt s (p + k) := by
  have hl := sl_size s
  have hr := restAt_size s p
  rw [← bs_data ((restAt s p).extract _ _), ← bs_data (restAt s (p + k)), sl_ext, restAt_list, restAt_list]
  congr 1
  rw [List.drop_drop, List.take_of_length_le (by rw [List.length_drop]; omega)]
  rcases Nat.lt_or_ge k (restAt s p).size with c | c
  · rw [Nat.min_eq_left (by omega)]
  · rw [Nat.min_eq_right c, List.drop_eq_nil_of_le (by omega), List.drop_eq_nil_of_le (by omega)]
theorem ext_all (r : ByteArray) : r.extract 0 r.size = r := by
  have hl := sl_size r
  rw [sl_extbs, List.drop_zero, List.take_of_length_le (by omega), bs_data]
theorem ext_none (r : ByteArray) : r.extract r.size r.size = ByteArray.empty := by
  rw [sl_extbs, Nat.sub_self, List.take_zero]
  rfl
def TakeEnd (w : World) (g : Nat) (x : Nat) (t : ByteArray) (e : Ending) (w' : World) : Prop := e = .returned (.int .u64 (x : Nat)) ∧ w' = w.setCell ⟨g, 0, none⟩ (.string t)
set_option maxHeartbeats 1000000 in
theorem take_raw (r : ByteArray) (k g : Nat) (w : World) (hk : 1 ≤ k) (hk8 : k ≤ 8) (hr : r.size ≤ 100000) (h0 : w.cell? ⟨g, 0, none⟩ = some (.string r)) (h1 : w.frozen? ⟨g, 0, none⟩ = false) :
    Calls Try.prog 38 #[.pointer (some ⟨g, 0, none⟩), .int .i64 (k : Nat)] w (TakeEnd w g (getS (r.extract 0 (min k r.size))) (r.extract (min k r.size) r.size)) := by
  have HG := Lib.hid (fun (m : Nat) => get_any (r.extract 0 m) w (by rw [ByteArray.size_extract]; unfold maxLen; omega))
  unfold TakeEnd
  obtain ⟨z, hz⟩ : ∃ z, z = r.size := ⟨_, rfl⟩
  rw [← hz] at hr ⊢
  rcases Nat.lt_trichotomy k z with c | c | c
  · rw [Nat.min_eq_left (by omega)]
    have HG1 := Lib.hid (HG.out k)
    clear HG
    subst hz
    go_enter Try.func38, Try.ntmps38
    go_wp2_with fail
    refine HG1.out.mono ?_
    rintro e w' ⟨rfl, rfl⟩
    go_wp2
    go_ret
    exact ⟨rfl, rfl⟩
  · obtain rfl : k = z := c
    rw [Nat.min_self]
    have HG1 := Lib.hid (HG.out k)
    clear HG
    subst hz
    rw [ext_all] at HG1 ⊢
    rw [ext_none]
    go_enter Try.func38, Try.ntmps38
    go_wp2_with fail
    refine HG1.out.mono ?_
    rintro e w' ⟨rfl, rfl⟩
    go_wp2
    go_ret
    exact ⟨rfl, rfl⟩
  · rw [Nat.min_eq_right (by omega)]
    have HG1 := Lib.hid (HG.out z)
    clear HG
    by_cases hz0 : z = 0
    · subst hz0
      have hr0 : r = ByteArray.empty := by
        have : r.data.toList = [] := List.length_eq_zero_iff.1 (by rw [sl_size]; exact hz.symm)
        rw [← bs_data r, this]
        rfl
      subst hr0
      have e1 : ByteArray.empty.extract 0 0 = ByteArray.empty := by rw [sl_extbs]; rfl
      rw [e1] at HG1 ⊢
      clear e1 hz
      go_enter Try.func38, Try.ntmps38
      go_wp2_with fail
      refine HG1.out.mono ?_
      rintro e w' ⟨rfl, rfl⟩
      go_wp2
      go_ret
      exact ⟨rfl, rfl⟩
    · subst hz
      rw [ext_all] at HG1 ⊢
      rw [ext_none]
      go_enter Try.func38, Try.ntmps38
      go_wp2_with fail
      refine HG1.out.mono ?_
      rintro e w' ⟨rfl, rfl⟩
      go_wp2
      go_ret
      exact ⟨rfl, rfl⟩
theorem take_any (s : ByteArray) (p k g : Nat) (w : World) (hk : 1 ≤ k) (hk8 : k ≤ 8) (hs : s.size ≤ 100000) (h0 : w.cell? ⟨g, 0, none⟩ = some (.string (restAt s p))) (h1 : w.frozen? ⟨g, 0, none⟩ = false) :
    Calls Try.prog 38 #[.pointer (some ⟨g, 0, none⟩), .int .i64 (k : Nat)] w (TakeEnd w g (num s p k) (restAt s (p + k))) := by
  have h := take_raw (restAt s p) k g w hk hk8 (by rw [restAt_size]; omega) h0 h1
  rw [take_num, take_rest] at h
  exact h
end Go.Proofs.Ytcfidpjhemjbjaa
