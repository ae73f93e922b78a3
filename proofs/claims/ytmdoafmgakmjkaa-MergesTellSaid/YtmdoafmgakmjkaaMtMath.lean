/- A table of entries: plain lists, no program. -/
import Derived.Test.YtmdoafmgakmjkaaEntSorted
namespace Go.Proofs.Ytmdoafmgakmjkaa
open Go.RowKit
set_option linter.unusedVariables false

theorem lay_keeps {l : List EntS} {x y : EntS} (h : y ∈ l) : y ∈ layEn l x := by
  unfold layEn
  split
  · exact h
  · rw [← List.take_append_drop (posE l x) l] at h
    rcases List.mem_append.1 h with h | h
    · exact List.mem_append_left _ (List.mem_append_left _ h)
    · exact List.mem_append_right _ h
theorem lay_has (l : List EntS) (x : EntS) : x ∈ layEn l x := by
  unfold layEn
  split
  · rename_i h
    exact List.mem_of_getElem? h
  · exact List.mem_append_left _ (List.mem_append_right _ (List.mem_singleton.2 rfl))
theorem mem_lay {l : List EntS} {x y : EntS} : y ∈ layEn l x ↔ y ∈ l ∨ y = x :=
  ⟨mem_layE, fun h => by
    rcases h with h | rfl
    · exact lay_keeps h
    · exact lay_has l y⟩
theorem mem_fold : ∀ (l acc : List EntS) (y : EntS), y ∈ l.foldl layEn acc ↔ y ∈ acc ∨ y ∈ l
  | [], acc, y => by simp
  | x :: l, acc, y => by
    rw [List.foldl_cons, mem_fold l (layEn acc x) y, mem_lay, List.mem_cons]
    constructor
    · rintro ((h | h) | h)
      · exact Or.inl h
      · exact Or.inr (Or.inl h)
      · exact Or.inr (Or.inr h)
    · rintro (h | h | h)
      · exact Or.inl (Or.inl h)
      · exact Or.inl (Or.inr h)
      · exact Or.inr h
theorem mem_sort {l : List EntS} {y : EntS} : y ∈ sortE l ↔ y ∈ l := by
  unfold sortE
  rw [mem_fold]
  simp
theorem sort_more (l : List EntS) (x : EntS) : sortE (l ++ [x]) = layEn (sortE l) x := by
  unfold sortE
  rw [List.foldl_append]
  rfl
/-- Where it is to stand, if it is there: there. -/
theorem pos_mem {l : List EntS} (hr : RiseE l) {x : EntS} (h : x ∈ l) : l[posE l x]? = some x := by
  rcases Decidable.em (l[posE l x]? = some x) with c | c
  · exact c
  · rw [← List.take_append_drop (posE l x) l] at h
    rcases List.mem_append.1 h with h | h
    · have := pos_take l x x h
      rw [lessE_irrefl] at this
      cases this
    · have := pos_drop hr c x h
      rw [lessE_irrefl] at this
      cases this
theorem pos_mem_iff {l : List EntS} (hr : RiseE l) {x : EntS} : l[posE l x]? = some x ↔ x ∈ l := ⟨List.mem_of_getElem?, pos_mem hr⟩
theorem lay_old {l : List EntS} (hr : RiseE l) {x : EntS} (h : x ∈ l) : layEn l x = l := by unfold layEn; rw [if_pos (pos_mem hr h)]
theorem lay_new {l : List EntS} {x : EntS} (h : x ∉ l) : layEn l x = l.take (posE l x) ++ ([x] ++ l.drop (posE l x)) := by
  unfold layEn
  rw [if_neg (fun k => h (List.mem_of_getElem? k)), List.append_assoc]
/-- The question of the search by halves: true from the place on. -/
theorem pos_ask {l : List EntS} (hr : RiseE l) {x y : EntS} {i : Nat} (h : l[i]? = some y) : (!lessE y x) = decide (posE l x ≤ i) := by
  by_cases c : posE l x ≤ i
  · rw [decide_eq_true c]
    cases hl : lessE y x with
    | false => rfl
    | true =>
      exfalso
      have hi := (List.getElem?_eq_some_iff.1 h).1
      have hp : posE l x < l.length := by omega
      have h0 : (!lessE l[posE l x] x) = true := List.findIdx_getElem (p := fun y => !lessE y x) (xs := l) (w := hp)
      rw [Bool.not_eq_true'] at h0
      rcases Nat.lt_or_ge (posE l x) i with k | k
      · have := List.pairwise_iff_getElem.1 hr (posE l x) i hp hi k
        rw [List.getElem?_eq_getElem hi] at h
        rw [Option.some.inj h] at this
        rw [lessE_trans this hl] at h0
        cases h0
      · have e : i = posE l x := by omega
        subst e
        rw [List.getElem?_eq_getElem hi] at h
        rw [Option.some.inj h, hl] at h0
        cases h0
  · rw [decide_eq_false c]
    have hm : y ∈ l.take (posE l x) := List.mem_of_getElem? (i := i) (by rw [List.getElem?_take, if_pos (by omega)]; exact h)
    rw [pos_take l x y hm]
    rfl
/-- What rises is told by what is in it. -/
theorem rise_ext : ∀ {a b : List EntS}, RiseE a → RiseE b → (∀ y, y ∈ a ↔ y ∈ b) → a = b
  | [], [], _, _, _ => rfl
  | [], y :: b, _, _, h => absurd ((h y).2 List.mem_cons_self) (by simp)
  | x :: a, [], _, _, h => absurd ((h x).1 List.mem_cons_self) (by simp)
  | x :: a, y :: b, ha, hb, h => by
    obtain ⟨a1, a2⟩ := List.pairwise_cons.1 ha
    obtain ⟨b1, b2⟩ := List.pairwise_cons.1 hb
    have e : x = y := by
      rcases List.mem_cons.1 ((h x).1 List.mem_cons_self) with k | k
      · exact k
      · rcases List.mem_cons.1 ((h y).2 List.mem_cons_self) with j | j
        · exact j.symm
        · have h1 := lessE_asymm (b1 x k)
          rw [a1 y j] at h1
          cases h1
    subst e
    rw [rise_ext a2 b2 fun z => ⟨fun hz => by
      rcases List.mem_cons.1 ((h z).1 (List.mem_cons_of_mem _ hz)) with k | k
      · subst k
        have := a1 z hz
        rw [lessE_irrefl] at this
        cases this
      · exact k, fun hz => by
      rcases List.mem_cons.1 ((h z).2 (List.mem_cons_of_mem _ hz)) with k | k
      · subst k
        have := b1 z hz
        rw [lessE_irrefl] at this
        cases this
      · exact k⟩]
theorem sort_same {a b : List EntS} (h : ∀ y, y ∈ a ↔ y ∈ b) : sortE a = sortE b := rise_ext (sort_rise a) (sort_rise b) fun y => by rw [mem_sort, mem_sort]; exact h y
theorem sort_ok {l : List EntS} (h : ∀ x ∈ l, EntOk x) : ∀ x ∈ sortE l, EntOk x := fun x hx => h x (sort_mem x hx)
end Go.Proofs.Ytmdoafmgakmjkaa
