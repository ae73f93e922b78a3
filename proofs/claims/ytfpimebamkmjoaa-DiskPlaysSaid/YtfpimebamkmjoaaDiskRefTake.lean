/- take: the document's. -/
import Derived.Test.YtfpimebamkmjoaaDiskRefRows
import Derived.Deep.RegionLaw
namespace Go.Proofs.Ytfpimebamkmjoaa
open Go.RowKit
set_option linter.unusedVariables false

/-- The end of a call without an answer. -/
def RefUnit (base g : Nat) (F : List Nat) (w : World) (E : DiskS) (e : Ending) (w' : World) : Prop :=
  ∃ F', e = .returned (.tuple #[]) ∧ RefAt w' base g F' E ∧ (∀ x ∈ F', x ∈ F ∨ w.heap.size ≤ x) ∧ Touch F w w'

/-- The files' slice is where it was, and so is the disk. -/
def Slot (w : World) (base g : Nat) (F : List Nat) (D : DiskS) (b cap : Nat) (w' : World) : Prop := RefStay w base g F D w'
section
variable {w W W1 : World} {base g b cap n : Nat} {F : List Nat} {D : DiskS} {A : Option Addr} {k : Nat}
theorem src_take (hS : W.cell? ⟨g, 1, none⟩ = some (.slice A n cap) ∧ RefStay w base g F D W) (hk : k ≤ D.l.length) : SrcAt W 3 (.slice A k cap) (D.l.take k).length (frow (D.l.take k)) := hS.2.1.srcTake hS.1 k hk
theorem src_drop (hS : W.cell? ⟨g, 1, none⟩ = some (.slice (some ⟨b, 0, none⟩) n cap) ∧ RefStay w base g F D W) (hk : k ≤ D.l.length) : SrcAt W 3 (.slice (some ⟨b, k * 3, none⟩) (n - k) (cap - k)) (D.l.drop k).length (frow (D.l.drop k)) := (hS.2.1.srcDrop hS.1 k hk).1
theorem src_none {a : Option Addr} {c : Nat} (W : World) : SrcAt W 3 (.slice a 0 c) ([] : List FileS).length (frow []) :=
  ⟨rfl, by
    cases a with
    | none => exact Or.inl ⟨c, rfl, rfl⟩
    | some a => exact Or.inr ⟨a, c, rfl, fun j u hu => by cases hu⟩⟩
theorem stay_grown {row : Option Nat} (hS : W.cell? ⟨g, 1, none⟩ = some (.slice A n cap) ∧ RefStay w base g F D W) (hg : W.grownBy W1 row) (hr : ∀ x, row = some x → x ∉ F ∧ w.heap.size ≤ x) : W1.cell? ⟨g, 1, none⟩ = some (.slice A n cap) ∧ RefStay w base g F D W1 := by
  have hl := hS.2.1.low g hS.2.1.mem
  have hT : Touch row.toList W W1 := (Touch.refl _ W).grown hg (fun k hk => Or.inl (by rw [hk]; simp))
  have hd : ∀ x ∈ F, x ∉ row.toList := fun x hx hm => (hr x (by simpa using hm)).1 hx
  exact ⟨(hT.cell (p := ⟨g, 1, none⟩) hl.2 (hd g hS.2.1.mem)).trans hS.1, hS.2.1.touch hT hd, hS.2.2.trans hT (fun x hx => Or.inr (hr x (by simpa using hx)).2)⟩
theorem stay_size (hS : W.cell? ⟨g, 1, none⟩ = some (.slice A n cap) ∧ RefStay w base g F D W) (hb : base ≤ w.heap.size) : base ≤ W.heap.size := Nat.le_trans hb hS.2.2.size
theorem stay_free (hS : W.cell? ⟨g, 1, none⟩ = some (.slice A n cap) ∧ RefStay w base g F D W) : W.frozen? ⟨g, 1, none⟩ = false := by
  obtain ⟨_, _, _, fr, _⟩ := hS.2.1.view
  exact fr 1
/-- A new block is none of the disk's. -/
theorem new_far (hS : W.cell? ⟨g, 1, none⟩ = some (.slice A n cap) ∧ RefStay w base g F D W) {v : Value} (hv : v.ownBlock = none ∨ v.ownBlock = some W.heap.size) : ∀ x, v.ownBlock = some x → x ∉ F ∧ w.heap.size ≤ x := by
  intro x hx
  rcases hv with e | e
  · rw [e] at hx; cases hx
  · rw [e] at hx
    injection hx with hx
    subst hx
    exact ⟨fun hm => by have := (hS.2.1.low _ hm).2; omega, hS.2.2.size⟩
theorem none_far : ∀ x, (Value.slice none 0 0).ownBlock = some x → x ∉ F ∧ w.heap.size ≤ x := fun x h => by cases h
end

theorem unit_end {w W1 W2 : World} {base g cap n : Nat} {F : List Nat} {D : DiskS} {A : Option Addr} {vs v2 : Value} {l : List FileS}
    (s1 : W1.cell? ⟨g, 1, none⟩ = some (.slice A n cap) ∧ RefStay w base g F D W1) (s2 : W2.cell? ⟨g, 1, none⟩ = some (.slice A n cap) ∧ RefStay w base g F D W2)
    (far1 : ∀ x, vs.ownBlock = some x → x ∉ F ∧ w.heap.size ≤ x) (at2 : v2.ownBlock = vs.ownBlock ∨ v2.ownBlock = some W1.heap.size) (own2 : W2.ownsRow base 65 3 v2 l.length (frow l)) :
    RefUnit base g F w { D with l := l } (.returned (.tuple #[])) (W2.setCell ⟨g, 1, none⟩ v2) := by
  obtain ⟨F', hF', hsub⟩ := s2.2.1.putL v2 l own2
  refine ⟨F', rfl, hF', fun x hx => ?_, (s2.2.2.more (G := F) (fun x hx => by cases hx)).setCell (Or.inl s2.2.1.mem) _⟩
  rcases hsub x hx with h | h
  · exact Or.inl h
  · rcases at2 with e | e
    · exact Or.inr (far1 x (e.symm.trans h)).2
    · rw [e] at h
      injection h with h
      have := s1.2.2.size
      exact Or.inr (by omega)

set_option maxHeartbeats 2000000 in
theorem take_ref {base g : Nat} {F : List Nat} {D : DiskS} (k : Nat) (w : World) (h : RefAt w base g F D) (hk : k < D.l.length) (hm : D.l.length ≤ 1024) :
    Calls Try.prog 63 #[.pointer (some ⟨g, 0, none⟩), .int .i64 k] w (RefUnit base g F w { D with l := dropS D.l k }) := by
  obtain ⟨A, cap, c1, n1, n2⟩ := h.src
  obtain ⟨f, hfk⟩ := some_at hk
  obtain ⟨A2, cap2, c1', _, _, hfile⟩ := h.file
  obtain ⟨b, rfl, hbF, hbg, _⟩ := hfile k f hfk
  obtain ⟨rfl, rfl⟩ : A = some ⟨b, 0, none⟩ ∧ cap = cap2 := by
    rw [c1] at c1'
    simpa using c1'
  unfold maxLen at n2
  have H := Lib.hid h
  have hb0 : base ≤ w.heap.size := by have := h.low g h.mem; omega
  have fr1 : w.frozen? ⟨g, 1, none⟩ = false := by obtain ⟨_, _, _, fr, _⟩ := h.view; exact fr 1
  have hst : RefStay w base g F D w := ⟨h, Touch.refl _ _⟩
  have HB := Lib.hid hb0
  clear h hfile c1' hfk
  have i1 : (0 : Int) ≤ (k : Int) := by omega
  have i2 : (k : Int) ≤ (cap : Int) := by omega
  have i3 : IntKind.i64.wrap ((k : Int) + 1) = (k : Int) + 1 := IntWalk.i64_in _ (by omega)
  have i4 : (k : Int) + 1 ≤ (D.l.length : Int) := by omega
  have i5 : (0 : Int) ≤ (k : Int) + 1 := by omega
  have i6 : ((k : Int) + 1).toNat = k + 1 := by omega
  have i7 : (k : Int) + 1 ≤ (cap : Int) := by omega
  by_cases hc : cap = k + 1
  · subst hc
    have hd : D.l.drop (k + 1) = [] := List.drop_eq_nil_of_le (by omega)
    have hn : D.l.length = k + 1 := by omega
    rw [hn] at c1
    have s0 : w.drew.cell? ⟨g, 1, none⟩ = some (.slice (some ⟨b, 0, none⟩) (k + 1) (k + 1)) ∧ RefStay w base g F D w.drew := ⟨c1, hst.drew⟩
    have HD := Lib.hid (show dropS D.l k = [] ++ D.l.take k ++ [] by unfold dropS; rw [hd]; simp)
    rw [HD.out]
    have j1 : (k : Int) ≤ (k : Int) + 1 := by omega
    have HN := Lib.hid hn
    clear hn n1 n2 i2 i4 i7 hd
    go_enter Try.func63, Try.ntmps63
    go_wp2_with fail
    go_region_law (first
      | (refine step_append_files (l := []) (m := D.l.take k) rfl _ _ rfl rfl rfl (World.ownsRow_nil _ base _ 3) (src_take (by assumption) (Nat.le_of_lt hk)) (by rw [List.length_take]; simp; omega) (stay_size (by assumption) HB.out) ?_; intro v1 W1 own1 gr1 at1; have far1 := new_far (by assumption) at1; have s1 := stay_grown (by assumption) gr1 none_far)
      | (refine step_append_files (l := [] ++ D.l.take k) (m := []) rfl _ _ rfl rfl rfl own1 (src_none _) (by simp only [List.nil_append, List.length_take, List.length_nil]; omega) (stay_size (by assumption) HB.out) ?_; intro v2 W2 own2 gr2 at2; have s2 := stay_grown (by assumption) gr2 far1; obtain ⟨A', c', rfl, _⟩ := own_form own2; have fr2 := stay_free s2; have c2 := s2.1)
      | fail)
    all_goals
      have e : min k D.l.length = ([] ++ D.l.take k ++ []).length := by simp
      rw [e]
      go_end0
      exact unit_end s1 s2 far1 at2 own2
  · go_enter Try.func63, Try.ntmps63
    go_wp2_with fail
    have s0 : w.drew.cell? ⟨g, 1, none⟩ = some (.slice (some ⟨b, 0, none⟩) D.l.length cap) ∧ RefStay w base g F D w.drew := ⟨c1, hst.drew⟩
    go_region_law (first
      | (refine step_append_files (l := []) (m := D.l.take k) rfl _ _ rfl rfl rfl (World.ownsRow_nil _ base _ 3) (src_take (by assumption) (Nat.le_of_lt hk)) (by rw [List.length_take]; simp; omega) (stay_size (by assumption) HB.out) ?_; intro v1 W1 own1 gr1 at1; have far1 := new_far (by assumption) at1; have s1 := stay_grown (by assumption) gr1 none_far)
      | (refine step_append_files (l := [] ++ D.l.take k) (m := D.l.drop (k + 1)) rfl _ _ rfl rfl rfl own1 (src_drop (by assumption) hk) (by simp only [List.nil_append, List.length_take, List.length_drop]; omega) (stay_size (by assumption) HB.out) ?_; intro v2 W2 own2 gr2 at2; have s2 := stay_grown (by assumption) gr2 far1; obtain ⟨A', c', rfl, _⟩ := own_form own2; have fr2 := stay_free s2; have c2 := s2.1)
      | fail)
    all_goals
      have e : (min k D.l.length + (D.l.length - (k + 1))) = ([] ++ D.l.take k ++ D.l.drop (k + 1)).length := by simp
      rw [e]
      go_end0
      exact unit_end s1 s2 far1 at2 own2
end Go.Proofs.Ytfpimebamkmjoaa
