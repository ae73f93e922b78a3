/- U64s, F64In -/
import Derived.Test.YtmbhafabphogdaaGreatRk08
import Derived.WideShapes
import Derived.Carry
import Derived.ProofKit
import Derived.Test.YtmbhafabphogdaaGreatRk01
import Derived.ChangeShapes
/- U64s -/
namespace Go.Proofs.YtmbhafabphogdaaGreat
open Go.ChangeShapes Go.WideShapes Go.ChangeAt Go.RowKit
set_option linter.unusedVariables false

theorem u64s_laidOut : laidOutB Tryz.prog = true := by kernel_rfl
theorem cells_u64 : Tryz.prog.cellsOf 54 = 1 := by kernel_rfl
theorem u64s_in {H : Type} {enc : TypeId × Value → H} {W : World} {v : Value} {d : DataW H} {p : List MemPlace} (hval : ∃ a len cap, v = .slice a len cap)
    (hd : DataW.Trod enc Tryz.prog W 0 (fun _ => true) true 127 v d p) (hlt : ∀ x ∈ p, x.block < W.heap.size) : ∃ l : List Nat, RowOf u64V W v l ∧ Words l := by
  obtain ⟨a0, len, cap, rfl⟩ := hval
  obtain ⟨fuel, hf⟩ := hd
  rcases open_ints Tryz.underlying127 Tryz.underlying54 cells_u64 hf with ⟨hcs, hx⟩ | ⟨a, len', cap', zs, hcs, _, hl, hm, hz, hx, hcell, hwz⟩
  · simp [Value.cells] at hcs
    obtain ⟨rfl, rfl, rfl⟩ := hcs
    exact ⟨[], Or.inl ⟨rfl, _, _, rfl⟩, fun x hx => by cases hx⟩
  · simp [Value.cells] at hcs
    obtain ⟨rfl, rfl, rfl⟩ := hcs
    simp only [Prod.mk.injEq] at hx
    obtain ⟨rfl, rfl⟩ := hx
    simp only [if_true] at hz
    by_cases hl0 : len = 0
    · subst hl0
      exact ⟨[], Or.inl ⟨rfl, _, _, rfl⟩, fun x hx => by cases hx⟩
    · obtain ⟨b, off, spot⟩ := a
      have hspot : spot = none := by simpa [Addr.add] using World.cell?_spot (hcell 0 (by omega))
      subst hspot
      have hbW : b < W.heap.size := hlt (.cell b off) (MemPlace.mem_row.2 ⟨0, by omega, by simp⟩)
      have hn : ∀ z ∈ zs, ∃ n : Nat, z = n ∧ n < 18446744073709551616 := fun z hz => u64_nat (hwz z hz)
      have hlen : ((zs.take len).map Int.toNat).length = len := by rw [List.length_map, List.length_take]; omega
      refine ⟨(zs.take len).map Int.toNat, Or.inr ⟨by omega, b, off, cap, by rw [hlen], by omega, hbW, fun i hi => ?_⟩, ?_⟩
      · have hi' : i < zs.length := by omega
        rw [← add_plain, hcell i hi']
        have e1 : zs.getD i 0 = zs[i] := by rw [List.getD_eq_getElem?_getD, List.getElem?_eq_getElem hi']; rfl
        have e2 : ((zs.take len).map Int.toNat).getD i 0 = zs[i].toNat := by
          rw [List.getD_eq_getElem?_getD, List.getElem?_map, List.getElem?_take, if_pos (by omega), List.getElem?_eq_getElem hi']
          rfl
        rw [e1, e2]
        obtain ⟨n, en, _⟩ := hn zs[i] (List.getElem_mem hi')
        unfold u64V
        rw [en]
        rfl
      · intro x hx
        obtain ⟨z, hz1, rfl⟩ := List.mem_map.1 hx
        obtain ⟨n, rfl, hn2⟩ := hn z (List.mem_of_mem_take hz1)
        exact hn2
/-- What is read of it behind the call. -/
theorem u64s_out {H : Type} {enc : TypeId × Value → H} {W W' : World} {v : Value} {d : DataW H} {p : List MemPlace}
    (hd : DataW.Trod enc Tryz.prog W 0 (fun _ => true) true 127 v d p) (hlt : ∀ x ∈ p, x.block < W.heap.size) (hb : Below W.heap.size W W') :
    DataW.Trod enc Tryz.prog W' 0 (fun b => decide (b < W.heap.size)) true 127 v d p :=
  Below.trod u64s_laidOut (by kernel_rfl) (of_decide_eq_true (by kernel_rfl)) hd hb hlt
end Go.Proofs.YtmbhafabphogdaaGreat

/- F64In -/
namespace Go.Proofs.YtmbhafabphogdaaGreat
open Go.ChangeShapes Go.WideShapes Go.ChangeAt Go.RowKit
set_option linter.unusedVariables false

section
variable {H : Type} {enc : TypeId × Value → H} {P : Program} {w : World} {base : Nat} {spare : Nat → Bool} {held : Bool}
theorem trod_f64 {fuel : Nat} {t : TypeId} {cs : List Value} {x : DataW H × List MemPlace} (ht : P.underlying t = some (.float .f64)) (h : DataW.trod enc P w base spare held fuel t cs = some x) : ∃ n, cs = [.float .f64 n] ∧ x = (.lit (.float .f64 n), []) ∧ (Lit.float .f64 n).wf = true := by
  cases fuel with
  | zero => simp [DataW.trod] at h
  | succ n =>
    unfold DataW.trod at h
    rw [ht] at h
    split at h <;> simp_all
theorem okWide_f64 {r : Reach} {b0 : Nat} {t : TypeId} {v : Value} (ht : P.underlying t = some (.float .f64)) (h : Value.okWide P w r b0 t v) : ∃ n, v = .float .f64 n := by
  simp only [Value.okWide, ht, Cell.okWide] at h
  cases v <;> simp_all [Cell.ok]
theorem open_f64 {r : Reach} {b0 : Nat} {t : TypeId} {v : Value} {d : DataW H} {ps : List MemPlace} (ht : P.underlying t = some (.float .f64)) (hval : Value.okWide P w r b0 t v) (hd : DataW.Trod enc P w base spare held t v d ps) :
    ∃ n : Nat, v = .float .f64 n ∧ d = .lit (.float .f64 n) ∧ ps = [] ∧ n < 18446744073709551616 := by
  obtain ⟨n, rfl⟩ := okWide_f64 ht hval
  obtain ⟨fuel, hf⟩ := hd
  obtain ⟨n', h, hx, hw⟩ := trod_f64 ht hf
  simp [Value.cells] at h
  subst h
  simp only [Prod.mk.injEq] at hx
  refine ⟨n, rfl, hx.1, hx.2, ?_⟩
  have := of_decide_eq_true (show decide (n < 2 ^ 64) = true from hw)
  exact this
theorem shut_f64 {t : TypeId} {n : Nat} (ht : P.underlying t = some (.float .f64)) (hw : n < 18446744073709551616) : DataW.Trod enc P w base spare held t (.float .f64 n) (.lit (.float .f64 n)) [] := by
  have h : (Lit.float .f64 n).wf = true := decide_eq_true (show n < 2 ^ 64 from hw)
  exact ⟨1, by simp [DataW.trod, Value.cells, ht, h]⟩
end
end Go.Proofs.YtmbhafabphogdaaGreat
