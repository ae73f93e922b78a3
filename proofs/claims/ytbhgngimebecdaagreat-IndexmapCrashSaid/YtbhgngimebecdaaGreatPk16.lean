/- DiskRefTake, DiskRefLay -/
import Derived.Test.YtbhgngimebecdaaGreatPk15
import Derived.Deep.RegionLaw
/- DiskRefTake -/
namespace Go.Proofs.YtbhgngimebecdaaGreat
open Go.RowKit
set_option linter.unusedVariables false

section
variable {w W W1 : World} {base g b cap n : Nat} {F : List Nat} {D : DiskS} {A : Option Addr} {k : Nat}
theorem src_none {a : Option Addr} {c : Nat} (W : World) : SrcAt W 3 (.slice a 0 c) ([] : List FileS).length (frow []) :=
  ⟨rfl, by
    cases a with
    | none => exact Or.inl ⟨c, rfl, rfl⟩
    | some a => exact Or.inr ⟨a, c, rfl, fun j u hu => by cases hu⟩⟩
theorem none_far : ∀ x, (Value.slice none 0 0).ownBlock = some x → x ∉ F ∧ w.heap.size ≤ x := fun x h => by cases h
end

end Go.Proofs.YtbhgngimebecdaaGreat

/- DiskRefLay -/
namespace Go.Proofs.YtbhgngimebecdaaGreat
open Go.RowKit
set_option linter.unusedVariables false

theorem ahead_lt {l : List FileS} {n : ByteArray} {k : Nat} {f : FileS} (h : l[k]? = some f) (hf : lessB f.name n = false) : aheadS l n ≤ k := by
  unfold aheadS
  have hk : k < l.length := (List.getElem?_eq_some_iff.1 h).1
  rcases Nat.lt_or_ge k (l.findIdx (fun f => !lessB f.name n)) with c | c
  · have := List.not_of_lt_findIdx c
    rw [List.getElem?_eq_getElem hk] at h
    have e : l[k] = f := by simpa using h
    rw [e] at this
    simp [hf] at this
  · exact c
theorem ahead_le (l : List FileS) (n : ByteArray) : aheadS l n ≤ l.length := List.findIdx_le_length
theorem ahead_at {l : List FileS} {n : ByteArray} {k : Nat} (hk : k ≤ l.length) (hall : ∀ j f, j < k → l[j]? = some f → lessB f.name n = true) : k ≤ aheadS l n := by
  unfold aheadS
  rcases Nat.lt_or_ge (l.findIdx (fun f => !lessB f.name n)) k with c | c
  · have hlt : l.findIdx (fun f => !lessB f.name n) < l.length := by omega
    have h := List.findIdx_getElem (w := hlt)
    have h2 := hall _ _ c (List.getElem?_eq_getElem hlt)
    simp only [Bool.not_eq_true'] at h
    rw [h] at h2
    cases h2
  · exact c

section
variable {w W : World} {base g cap n : Nat} {F : List Nat} {D : DiskS} {A : Option Addr}
end

theorem cell_new {W : World} {p : Addr} {v : Value} (h : W.cell? p = some v) (o : Obj) : (W.alloc o).cell? p = some v :=
  (World.cell?_of_block (w := W) (Below.heap_alloc W o p.block (block_lt_of_cell h))).trans h
theorem SrcAt.grown {V V1 : World} {size m : Nat} {v : Value} {news : List Value} {row : Option Nat} (h : SrcAt V size v m news) (hg : V.grownBy V1 row) (hr : row = none) : SrcAt V1 size v m news := by
  subst hr
  refine ⟨h.1, ?_⟩
  rcases h.2 with h | ⟨a, c, e, hc⟩
  · exact Or.inl h
  · exact Or.inr ⟨a, c, e, fun j u hu => hg.cell (hc j u hu) (fun e => by cases e)⟩
/-- The loop that looks for a file's place. -/
def Placed (W1 : World) (k : Nat) (u : Value) (wx : World) : Prop := ∃ n : Nat, u = .int .i64 k ∧ wx = W1.drewN n
theorem placed_n {W1 : World} {k K n m : Nat} (h : K = k) : Placed W1 K (.int .i64 k) ((W1.drewN n).drewN m) := ⟨n + m, by rw [h], by show ((W1.drewN n).drewN m) = W1.drewN (n + m); unfold World.drewN; simp [Nat.add_assoc]⟩
end Go.Proofs.YtbhgngimebecdaaGreat
