/- ZnDiskRefRead, ZnDiskRefCut -/
import Derived.Test.YtcpfkaehefcakaaGreatPn02
import Derived.Maps.AppendAt
import Derived.Deep.DeepCutAuto
namespace Go.Proofs.YtcpfkaehefcakaaGreat
set_option maxRecDepth 100000
set_option linter.unusedVariables false
section
open Go.RowKit
theorem readS_down {D : DiskS} {n : ByteArray} {a k : Int} (hd : D.down = true) : readS D n a k = (ByteArray.empty, 61, D) := by
  unfold readS
  rw [if_pos hd]
def readE (D : DiskS) : DiskS := { D with count := D.count + 1 }
theorem readS_none {D : DiskS} {n : ByteArray} {a k : Int} (hd : D.down = false) (hf : ¬ findS D.l n < D.l.length) : readS D n a k = (ByteArray.empty, 4, readE D) := by
  unfold readS
  rw [if_neg (by rw [hd]; decide)]
  simp only [none_at hf]
  rfl
theorem readS_bad {D : DiskS} {n : ByteArray} {a k : Int} {f : FileS} (hd : D.down = false) (hf : D.l[findS D.l n]? = some f) (hb : a < 0 ∨ k < 0 ∨ (f.data.size : Int) < a ∨ (f.data.size : Int) - a < k) : readS D n a k = (ByteArray.empty, 2, readE D) := by
  unfold readS
  rw [if_neg (by rw [hd]; decide)]
  simp only [hf]
  rw [if_pos hb]
  rfl
theorem readS_go {D : DiskS} {n : ByteArray} {a k : Int} {f : FileS} (hd : D.down = false) (hf : D.l[findS D.l n]? = some f) (hb : ¬ (a < 0 ∨ k < 0 ∨ (f.data.size : Int) < a ∨ (f.data.size : Int) - a < k)) : readS D n a k = (f.data.extract a.toNat (a.toNat + k.toNat), 0, readE D) := by
  unfold readS
  rw [if_neg (by rw [hd]; decide)]
  simp only [hf]
  rw [if_neg hb]
  rfl
theorem min_int {P : Program} (x y : Int) (m : Nat) (h : (m : Int) = if y < x then y else x) : ∀ ts t w, (Builtin.min_ ts t #[.int .i64 x, .int .i64 y]).run P w = .ok (.int .i64 (m : Nat)) w := fun ts t w => by
  rw [run_min_int2, h]
end
end Go.Proofs.YtcpfkaehefcakaaGreat
