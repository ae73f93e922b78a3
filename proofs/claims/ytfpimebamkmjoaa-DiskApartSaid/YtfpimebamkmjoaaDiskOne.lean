/- A disk with one file, as plain lists. No program. -/
import Derived.Test.YtfpimebamkmjoaaDiskApi
namespace Go.Proofs.Ytfpimebamkmjoaa

/-- A disk of 5000 bytes with the file n. -/
def oneS (n d : ByteArray) (s c : Nat) (down : Bool) (t f : Nat) (k : List Int) : DiskS := ⟨5000, [⟨n, d, s⟩], c, down, t, f, k⟩
theorem one_find (n d : ByteArray) (s : Nat) : findS [⟨n, d, s⟩] n = 0 := by
  unfold findS
  simp [List.findIdx_cons]
theorem one_used (n d : ByteArray) (s : Nat) : usedS [⟨n, d, s⟩] = d.size := by unfold usedS; simp
section
variable {n d x : ByteArray} {s c t f : Nat} {k : List Int}
theorem one_ok {b : Bool} (h1 : s ≤ d.size) (h2 : d.size ≤ 5000) (h3 : f ≤ 1099511627777) : RefOk (oneS n d s c b t f k) := by
  refine ⟨fun y hy => ?_, by show 1 ≤ _; omega, ?_, by show 5000 ≤ _; omega, h3⟩
  · have e : y = ⟨n, d, s⟩ := by
      have h : y ∈ [(⟨n, d, s⟩ : FileS)] := hy
      simpa using h
    subst e
    exact ⟨h1, by show d.size ≤ _; omega⟩
  · show usedS [⟨n, d, s⟩] ≤ _
    rw [one_used]
    omega
theorem one_goes (hf : f ≠ 1) {b : Bool} : goesS (oneS n d s c b t f k) = true := by
  unfold goesS
  rw [decide_eq_false (show ¬ (oneS n d s c b t f k).fails = 1 from hf)]
  rfl
theorem one_append (h : d.size + x.size ≤ 5000) (hf : f ≠ 1) : appendS (oneS n d s c false t f k) n x = (0, oneS n (d ++ x) s c false t (f - 1) k) := by
  unfold appendS
  have e : findS (oneS n d s c false t f k).l n = 0 := one_find n d s
  rw [if_neg (by show ¬ false = true; decide), e, if_pos (by show 0 < 1; decide), if_neg (by show ¬ 5000 < usedS [⟨n, d, s⟩] + x.size; rw [one_used]; omega), one_goes hf, if_pos rfl]
  unfold nextS appE
  rw [e]
  rfl
theorem one_append_last (h : d.size + x.size ≤ 5000) : appendS (oneS n d s c false t 1 k) n x = (61, sinkS (oneS n (d ++ x) s c false t 1 k) k) := by
  unfold appendS
  have e : findS (oneS n d s c false t 1 k).l n = 0 := one_find n d s
  rw [if_neg (by show ¬ false = true; decide), e, if_pos (by show 0 < 1; decide), if_neg (by show ¬ 5000 < usedS [⟨n, d, s⟩] + x.size; rw [one_used]; omega)]
  unfold appE
  rw [e]
  rfl
theorem one_append_down {m : ByteArray} : appendS (oneS n d s c true t f k) m x = (61, oneS n d s c true t f k) := by
  unfold appendS
  rw [if_pos (show (oneS n d s c true t f k).down = true from rfl)]
theorem one_sync (hf : f ≠ 1) : syncS (oneS n d s c false t f k) n = (0, oneS n d d.size c false t (f - 1) k) := by
  unfold syncS doneS
  have e : findS (oneS n d s c false t f k).l n = 0 := one_find n d s
  rw [if_neg (by show ¬ false = true; decide), e, if_pos (by show 0 < 1; decide), one_goes hf, if_pos rfl]
  rfl
theorem one_sync_last : syncS (oneS n d s c false t 1 k) n = (61, sinkS (oneS n d s c false t 1 k) k) := by
  unfold syncS doneS
  have e : findS (oneS n d s c false t 1 k).l n = 0 := one_find n d s
  rw [if_neg (by show ¬ false = true; decide), e, if_pos (by show 0 < 1; decide)]
  rfl
theorem one_sink (keep : List Int) : sinkS (oneS n d s c false t f k) keep = oneS n (d.extract 0 (s + min (keep.getD 0 0).toNat (d.size - s))) (s + min (keep.getD 0 0).toNat (d.size - s)) c true t 0 [] := rfl
theorem one_crash (keep : List Int) : crashS (oneS n d s c false t f k) keep = (0, sinkS (oneS n d s c false t f k) keep) := by
  unfold crashS
  rw [if_neg (by show ¬ false = true; decide)]
theorem one_crash_down (keep : List Int) : crashS (oneS n d s c true t f k) keep = (61, oneS n d s c true t f k) := by
  unfold crashS
  rw [if_pos (show (oneS n d s c true t f k).down = true from rfl)]
theorem one_start : startS (oneS n d s c true t f k) = (0, oneS n d s c false (t + 1) f k) := by
  unfold startS
  rw [if_pos (show (oneS n d s c true t f k).down = true from rfl)]
  rfl
theorem one_read (a : Nat) (ha : a = d.size) : readS (oneS n d s c false t f k) n 0 a = (d, 0, oneS n d s (c + 1) false t f k) := by
  subst ha
  unfold readS
  have e : findS (oneS n d s c false t f k).l n = 0 := one_find n d s
  rw [if_neg (by show ¬ false = true; decide)]
  simp only [e]
  show (if (0 : Int) < 0 ∨ ((d.size : Nat) : Int) < 0 ∨ ((d.size : Nat) : Int) < 0 ∨ ((d.size : Nat) : Int) - 0 < (d.size : Nat) then _ else _) = _
  rw [if_neg (by omega)]
  have e2 : d.extract (0 : Int).toNat ((0 : Int).toNat + (d.size : Int).toNat) = d := by
    rw [Int.toNat_natCast]
    show d.extract 0 (0 + d.size) = d
    rw [Nat.zero_add, ByteArray.extract_zero_size]
  show (d.extract (0 : Int).toNat ((0 : Int).toNat + (d.size : Int).toNat), 0, _) = _
  rw [e2]
  rfl
theorem one_size : sizeS (oneS n d s c false t f k) n = (d.size, 0) := by
  unfold sizeS
  have e : findS (oneS n d s c false t f k).l n = 0 := one_find n d s
  rw [if_neg (by show ¬ false = true; decide), e]
  rfl
theorem one_loose {b : Bool} : looseL (oneS n d s c b t f k).l = [(d.size : Int) - s] := rfl
end
end Go.Proofs.Ytfpimebamkmjoaa
