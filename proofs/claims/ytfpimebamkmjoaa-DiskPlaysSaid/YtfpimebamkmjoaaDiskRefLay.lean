/- lay: the document's. -/
import Derived.Test.YtfpimebamkmjoaaDiskRefTake
namespace Go.Proofs.Ytfpimebamkmjoaa
open Go.RowKit
set_option linter.unusedVariables false

theorem ahead_lt {l : List FileS} {n : ByteArray} {k : Nat} {f : FileS} (h : l[k]? = some f) (hf : lessB f.name n = false) : aheadS l n ≤ k := by
  unfold aheadS
  have hk : k < l.length := (List.getElem?_eq_some_iff.1 h).1
  rcases Nat.lt_or_ge k (l.findIdx (fun f => !lessB f.name n)) with c | c
  · have := List.not_of_lt_findIdx c
    rw [List.getElem?_eq_getElem hk] at h
    have e : l[k] = f := by simpa using h
    rw [e] at this
    simp [hf] at this
  · exact c
theorem ahead_le (l : List FileS) (n : ByteArray) : aheadS l n ≤ l.length := List.findIdx_le_length
theorem ahead_at {l : List FileS} {n : ByteArray} {k : Nat} (hk : k ≤ l.length) (hall : ∀ j f, j < k → l[j]? = some f → lessB f.name n = true) : k ≤ aheadS l n := by
  unfold aheadS
  rcases Nat.lt_or_ge (l.findIdx (fun f => !lessB f.name n)) k with c | c
  · have hlt : l.findIdx (fun f => !lessB f.name n) < l.length := by omega
    have h := List.findIdx_getElem (w := hlt)
    have h2 := hall _ _ c (List.getElem?_eq_getElem hlt)
    simp only [Bool.not_eq_true'] at h
    rw [h] at h2
    cases h2
  · exact c

section
variable {w W : World} {base g cap n : Nat} {F : List Nat} {D : DiskS} {A : Option Addr}
theorem stay_n (hS : W.cell? ⟨g, 1, none⟩ = some (.slice A n cap) ∧ RefStay w base g F D W) (m : Nat) : (W.drewN m).cell? ⟨g, 1, none⟩ = some (.slice A n cap) ∧ RefStay w base g F D (W.drewN m) :=
  ⟨hS.1, hS.2.1.touch (F := F) (G := []) ((Touch.refl [] W).drewN _) (fun _ _ => by simp), hS.2.2.drewN m⟩
theorem stay_new (hS : W.cell? ⟨g, 1, none⟩ = some (.slice A n cap) ∧ RefStay w base g F D W) (o : Obj) : (W.alloc o).cell? ⟨g, 1, none⟩ = some (.slice A n cap) ∧ RefStay w base g F D (W.alloc o) := by
  have hl := hS.2.1.low g hS.2.1.mem
  have hT : Touch [] W (W.alloc o) := (Touch.refl [] W).alloc o
  exact ⟨(hT.cell (p := ⟨g, 1, none⟩) hl.2 (by simp)).trans hS.1, hS.2.1.touch hT (fun _ _ => by simp), hS.2.2.alloc o⟩
end

theorem cell_new {W : World} {p : Addr} {v : Value} (h : W.cell? p = some v) (o : Obj) : (W.alloc o).cell? p = some v :=
  (World.cell?_of_block (w := W) (Below.heap_alloc W o p.block (block_lt_of_cell h))).trans h
theorem SrcAt.grown {V V1 : World} {size m : Nat} {v : Value} {news : List Value} {row : Option Nat} (h : SrcAt V size v m news) (hg : V.grownBy V1 row) (hr : row = none) : SrcAt V1 size v m news := by
  subst hr
  refine ⟨h.1, ?_⟩
  rcases h.2 with h | ⟨a, c, e, hc⟩
  · exact Or.inl h
  · exact Or.inr ⟨a, c, e, fun j u hu => hg.cell (hc j u hu) (fun e => by cases e)⟩
theorem far_next {w W : World} {base g cap n : Nat} {F : List Nat} {D : DiskS} {A : Option Addr} {v v' : Value} (hS : W.cell? ⟨g, 1, none⟩ = some (.slice A n cap) ∧ RefStay w base g F D W) (hf : ∀ x, v.ownBlock = some x → x ∉ F ∧ w.heap.size ≤ x) (ha : v'.ownBlock = v.ownBlock ∨ v'.ownBlock = some W.heap.size) :
    ∀ x, v'.ownBlock = some x → x ∉ F ∧ w.heap.size ≤ x := by
  intro x hx
  rcases ha with e | e
  · exact hf x (e.symm.trans hx)
  · exact new_far hS (Or.inr e) x hx
theorem src_one (V : World) (f : FileS) : SrcAt (V.alloc (.cells #[.string f.name, .string f.data, .int .i64 f.synced] 65)) 3 (.slice (some ⟨V.heap.size, 0, none⟩) 1 1) [f].length (frow [f]) := by
  refine ⟨rfl, Or.inr ⟨_, 1, rfl, fun j u hu => ?_⟩⟩
  have bx := Blok.new V 65 #[.string f.name, .string f.data, .int .i64 f.synced]
  have ea : (⟨V.heap.size, 0, none⟩ : Addr).add j = ⟨V.heap.size, j, none⟩ := by unfold Addr.add; split <;> simp_all
  rw [ea, bx.cell j]
  have e : frow [f] = [.string f.name, .string f.data, .int .i64 f.synced] := rfl
  rw [e] at hu
  simpa using hu

theorem unit_end2 {w W1 W2 : World} {base g cap n X : Nat} {F : List Nat} {D : DiskS} {A A' : Option Addr} {c' : Nat} {vs : Value} {l l' : List FileS}
    (s1 : W1.cell? ⟨g, 1, none⟩ = some (.slice A n cap) ∧ RefStay w base g F D W1) (s2 : W2.cell? ⟨g, 1, none⟩ = some (.slice A n cap) ∧ RefStay w base g F D W2)
    (far1 : ∀ x, vs.ownBlock = some x → x ∉ F ∧ w.heap.size ≤ x) (at2 : (Value.slice A' l.length c').ownBlock = vs.ownBlock ∨ (Value.slice A' l.length c').ownBlock = some W1.heap.size) (own2 : W2.ownsRow base 65 3 (.slice A' l.length c') l.length (frow l)) (hX : X = l.length) (hl : l' = l) :
    RefUnit base g F w { D with l := l' } (.returned (.tuple #[])) (W2.setCell ⟨g, 1, none⟩ (.slice A' X c')) := by
  subst hX
  subst hl
  exact unit_end s1 s2 far1 at2 own2

/-- The loop that looks for a file's place. -/
def Placed (W1 : World) (k : Nat) (u : Value) (wx : World) : Prop := ∃ n : Nat, u = .int .i64 k ∧ wx = W1.drewN n
theorem placed_n {W1 : World} {k K n m : Nat} (h : K = k) : Placed W1 K (.int .i64 k) ((W1.drewN n).drewN m) := ⟨n + m, by rw [h], by show ((W1.drewN n).drewN m) = W1.drewN (n + m); unfold World.drewN; simp [Nat.add_assoc]⟩
end Go.Proofs.Ytfpimebamkmjoaa
