/- Twenty-four bytes, as an array that came in. -/
import Derived.Test.YtjbhahcogdpkpaaBytes
import Derived.Test.YtjbhahcogdpkpaaNumsMath
import Derived.WideShapes
import Derived.OpenShut
import Derived.Carry
import Derived.ProofKit
namespace Go.Proofs.Ytjbhahcogdpkpaa
open Go.RowKit Go.ChangeShapes Go.WideShapes Go.ChangeAt
set_option linter.unusedVariables false

def u8V (l : List UInt8) : List Value := l.map fun c => .int .u8 (c.toNat : Int)
def arr24 (l : List UInt8) : Value := .agg (u8V l).toArray
def arr24Zero : Value := .agg #[.int .u8 0, .int .u8 0, .int .u8 0, .int .u8 0, .int .u8 0, .int .u8 0, .int .u8 0, .int .u8 0, .int .u8 0, .int .u8 0, .int .u8 0, .int .u8 0, .int .u8 0, .int .u8 0, .int .u8 0, .int .u8 0, .int .u8 0, .int .u8 0, .int .u8 0, .int .u8 0, .int .u8 0, .int .u8 0, .int .u8 0, .int .u8 0]
theorem arr24_cells : Try.prog.cellsOf 40 = 24 := by kernel_rfl
theorem arr24_one : Try.prog.cellsOf 5 = 1 := by kernel_rfl
theorem bytes_list : ∀ cs : List Value, (∀ (i : Nat) (c : Value), cs[i]? = some c → ∃ k : Int, c = Value.int .u8 k ∧ (Lit.int .u8 k).wf = true) → ∃ l : List UInt8, cs = u8V l
  | [], _ => ⟨[], rfl⟩
  | c :: cs, h => by
    obtain ⟨l, e⟩ := bytes_list cs fun i d hd => h (i + 1) d (by simpa using hd)
    obtain ⟨k, e1, wk⟩ := h 0 c rfl
    obtain ⟨n, rfl, hn⟩ := u8_nat wk
    refine ⟨UInt8.ofNat n :: l, ?_⟩
    rw [e, e1]
    unfold u8V
    rw [List.map_cons, UInt8.toNat_ofNat', Nat.mod_eq_of_lt (by omega)]
theorem okWide_arr24 {W : World} {r : Reach} {b0 : Nat} {v : Value} (hval : Value.okWide Try.prog W r b0 40 v) : ∃ cs, v = .agg cs := by
  simp only [Value.okWide, Try.underlying40] at hval
  obtain ⟨cs, h1, _⟩ := hval
  exact ⟨cs, h1⟩
theorem arr24_in {H : Type} {enc : TypeId × Value → H} {W : World} {v : Value} {d : DataW H} {p : List MemPlace} (hval : ∃ cs, v = .agg cs)
    (hd : DataW.Trod enc Try.prog W 0 (fun _ => true) true 40 v d p) : ∃ l : List UInt8, l.length = 24 ∧ v = arr24 l := by
  obtain ⟨cs, rfl⟩ := hval
  obtain ⟨fuel, hf⟩ := hd
  have hf' : DataW.trod enc Try.prog W 0 (fun _ => true) true fuel 40 cs.toList = some (d, p) := hf
  obtain ⟨xs, m, _, _, hlen, hxl, hat⟩ := DataW.trod_array Try.underlying40 hf'
  rw [arr24_cells] at hlen
  rw [arr24_one] at hat
  obtain ⟨l, e⟩ := bytes_list cs.toList fun i c hc => by
    have hi : i < 24 := by have := (List.getElem?_eq_some_iff.1 hc).1; omega
    have h1 := hat i hi
    have e1 : (cs.toList.drop (i * 1)).take 1 = [c] := by
      obtain ⟨hl, e⟩ := List.getElem?_eq_some_iff.1 hc
      rw [Nat.mul_one, List.drop_eq_getElem_cons hl, e]
      rfl
    rw [e1, List.getElem?_eq_getElem (by omega)] at h1
    obtain ⟨k, ek, _, wk⟩ := DataW.trod_int Try.underlying5 h1
    exact ⟨k, by simpa using ek, wk⟩
  refine ⟨l, ?_, ?_⟩
  · rw [e] at hlen
    unfold u8V at hlen
    rw [List.length_map] at hlen
    exact hlen
  · unfold arr24
    rw [← e, Array.toArray_toList]
theorem arr24_laidOut : laidOutB Try.prog = true := by kernel_rfl
theorem arr24_out {H : Type} {enc : TypeId × Value → H} {W W' : World} {v : Value} {d : DataW H} {p : List MemPlace}
    (hd : DataW.Trod enc Try.prog W 0 (fun _ => true) true 40 v d p) (hlt : ∀ x ∈ p, x.block < W.heap.size) (hb : Below W.heap.size W W') :
    DataW.Trod enc Try.prog W' 0 (fun b => decide (b < W.heap.size)) true 40 v d p :=
  Below.trod arr24_laidOut (by kernel_rfl) (of_decide_eq_true (by kernel_rfl)) hd hb hlt
/-- The array in memory. -/
theorem arr24_row (w : World) (l : List UInt8) (t : TypeId) : RowB (w.alloc (.cells (u8V l).toArray t)) w.heap.size l.length (u8At l) := by
  refine ⟨(u8V l).toArray, t, (0, 0), heap_alloc_new w _, ?_, Or.inl rfl, fun i hi => ?_⟩
  · unfold u8V
    rw [List.size_toArray, List.length_map]
    exact Nat.le_refl _
  · unfold u8V u8At
    rw [List.getElem?_toArray, List.getElem?_map, List.getElem?_eq_getElem hi, List.getD_eq_getElem?_getD, List.getElem?_eq_getElem hi]
    rfl
end Go.Proofs.Ytjbhahcogdpkpaa
