/- Levels as plain lists: which may be, and what is told of them. No function of the program. -/
import Derived.Test.YtcfidpjhemjbjaaBase
namespace Go.Proofs.Ytcfidpjhemjbjaa
set_option linter.unusedVariables false

abbrev LvL := List (List Int)
/-- Whether they may be. -/
def MayBe (L : LvL) : Prop := L.length ≤ 5 ∧ L.flatten.length ≤ 40 ∧ (∀ x ∈ L.flatten, 0 ≤ x) ∧ L.flatten.Nodup
instance (L : LvL) : Decidable (MayBe L) := by unfold MayBe; infer_instance
def validL (L : LvL) : Bool := decide (MayBe L)
/-- So many of them, and empty ones, five in all. -/
def wideTo (L : LvL) (k : Nat) : LvL := L.take k ++ List.replicate (5 - k) []
def wideL (L : LvL) : LvL := wideTo L L.length
/-- How many there are without empty ones at the end, of the first ones. -/
def trimN (L : LvL) : Nat → Nat
  | 0 => 0
  | n + 1 => if L.getD n [] = [] then trimN L n else n + 1
def trimL (L : LvL) : LvL := L.take (trimN L L.length)
def putL (L : LvL) (k : Nat) (n : Int) : LvL := L.set k (L.getD k [] ++ [n])
def addE (L : LvL) (n : Int) : Int := if validL L = false ∨ n < 0 ∨ n ∈ L.flatten then 2 else if L.flatten.length = 40 then 60 else 0
def addL (L : LvL) (n : Int) : LvL := if addE L n = 0 then trimL (putL (wideL L) 0 n) else []
def pickE (L : LvL) (k : Int) : Int := if validL L = false ∨ k < 0 ∨ 4 < k then 2 else if (wideL L).getD k.toNat [] = [] then 4 else 0
def pickL (L : LvL) (k : Int) : List Int := if pickE L k = 0 then (wideL L).getD k.toNat [] else []
def toL (k : Nat) : Nat := if k < 4 then k + 1 else 4
def replE (L : LvL) (k n : Int) : Int := if pickE L k ≠ 0 then pickE L k else if n < 0 ∨ n ∈ L.flatten then 2 else 0
def replL (L : LvL) (k n : Int) : LvL := if replE L k n = 0 then trimL (putL ((wideL L).set k.toNat []) (toL k.toNat) n) else []

theorem wideTo_length {L : LvL} {k : Nat} (hk : k ≤ L.length) (h : L.length ≤ 5) : (wideTo L k).length = 5 := by
  unfold wideTo
  rw [List.length_append, List.length_take, List.length_replicate]
  omega
theorem wideL_length {L : LvL} (h : L.length ≤ 5) : (wideL L).length = 5 := wideTo_length (Nat.le_refl _) h
theorem wideTo_zero (L : LvL) : wideTo L 0 = List.replicate 5 [] := by unfold wideTo; rw [List.take_zero, List.nil_append]
theorem wideTo_succ {L : LvL} {k : Nat} {x : List Int} (hx : L[k]? = some x) (h : L.length ≤ 5) : (wideTo L k).set k x = wideTo L (k + 1) := by
  have hk : k < L.length := (List.getElem?_eq_some_iff.1 hx).1
  have e : 5 - k = (5 - (k + 1)) + 1 := by omega
  unfold wideTo
  rw [List.set_append_right _ _ (by rw [List.length_take]; omega), List.length_take, Nat.min_eq_left (by omega), Nat.sub_self, e, List.replicate_succ, List.set_cons_zero, List.take_add_one, hx]
  simp
theorem flatten_empty (n : Nat) : (List.replicate n ([] : List Int)).flatten = [] := by
  induction n with
  | zero => rfl
  | succ n ih => rw [List.replicate_succ, List.flatten_cons, ih]; rfl
theorem wideL_flatten (L : LvL) : (wideL L).flatten = L.flatten := by
  unfold wideL wideTo
  rw [List.take_length, List.flatten_append, flatten_empty, List.append_nil]
theorem wideL_getD (L : LvL) (k : Nat) : (wideL L).getD k [] = L.getD k [] := by
  unfold wideL wideTo
  rw [List.take_length, List.getD_eq_getElem?_getD, List.getD_eq_getElem?_getD]
  rcases Nat.lt_or_ge k L.length with h | h
  · rw [List.getElem?_append_left h]
  · rw [List.getElem?_append_right h, List.getElem?_eq_none h]
    rcases Nat.lt_or_ge (k - L.length) (5 - L.length) with h2 | h2
    · rw [List.getElem?_eq_getElem (by rw [List.length_replicate]; exact h2), List.getElem_replicate]
      rfl
    · rw [List.getElem?_eq_none (by rw [List.length_replicate]; exact h2)]
theorem trimN_le (L : LvL) : ∀ n, trimN L n ≤ n
  | 0 => Nat.le_refl _
  | n + 1 => by
    unfold trimN
    split
    · exact Nat.le_succ_of_le (trimN_le L n)
    · exact Nat.le_refl _
theorem trimN_flatten (L : LvL) : ∀ n, n ≤ L.length → (L.take (trimN L n)).flatten = (L.take n).flatten
  | 0, _ => rfl
  | n + 1, h => by
    unfold trimN
    split
    · rename_i e
      rw [trimN_flatten L n (by omega), List.take_add_one, List.getElem?_eq_getElem (by omega), List.flatten_append]
      rw [List.getD_eq_getElem?_getD, List.getElem?_eq_getElem (by omega)] at e
      have e' : L[n] = [] := e
      rw [e']
      simp
    · rfl
theorem trimL_flatten (L : LvL) : (trimL L).flatten = L.flatten := by
  unfold trimL
  rw [trimN_flatten L _ (Nat.le_refl _), List.take_length]
theorem trimL_length (L : LvL) : (trimL L).length ≤ L.length := by unfold trimL; rw [List.length_take]; omega
theorem putL_length (L : LvL) (k : Nat) (n : Int) : (putL L k n).length = L.length := List.length_set
theorem putL_perm {L : LvL} {k : Nat} (n : Int) (h : k < L.length) : (putL L k n).flatten.Perm (n :: L.flatten) := by
  unfold putL
  rw [List.set_eq_take_append_cons_drop, if_pos h, List.getD_eq_getElem?_getD, List.getElem?_eq_getElem h]
  have e : L.flatten = (L.take k).flatten ++ (L[k] ++ (L.drop (k + 1)).flatten) := by
    conv => lhs; rw [← List.take_append_drop k L, List.flatten_append, List.drop_eq_getElem_cons h, List.flatten_cons]
  rw [e, List.flatten_append, List.flatten_cons]
  show ((L.take k).flatten ++ ((L[k] ++ [n]) ++ (L.drop (k + 1)).flatten)).Perm _
  have e2 : (L.take k).flatten ++ ((L[k] ++ [n]) ++ (L.drop (k + 1)).flatten) = ((L.take k).flatten ++ L[k]) ++ n :: (L.drop (k + 1)).flatten := by simp
  rw [e2]
  refine List.perm_middle.trans ?_
  rw [List.append_assoc]
theorem setL_sub {L : LvL} {k : Nat} (h : k < L.length) : (L.set k []).flatten.Sublist L.flatten ∧ (L.set k []).flatten.length + (L.getD k []).length = L.flatten.length := by
  rw [List.set_eq_take_append_cons_drop, if_pos h, List.getD_eq_getElem?_getD, List.getElem?_eq_getElem h]
  have e : L.flatten = (L.take k).flatten ++ (L[k] ++ (L.drop (k + 1)).flatten) := by
    conv => lhs; rw [← List.take_append_drop k L, List.flatten_append, List.drop_eq_getElem_cons h, List.flatten_cons]
  rw [e, List.flatten_append, List.flatten_cons, List.nil_append]
  refine ⟨List.Sublist.append_left (List.sublist_append_right _ _) _, ?_⟩
  simp only [List.length_append, Option.getD_some]
  omega
theorem toL_lt (k : Nat) : toL k < 5 := by unfold toL; split <;> omega
/-- What may be stays so. -/
theorem addL_ok {L : LvL} {n : Int} (h : addE L n = 0) : MayBe (addL L n) ∧ (addL L n).flatten.length = L.flatten.length + 1 ∧ ∀ x ∈ (addL L n).flatten, x = n ∨ x ∈ L.flatten := by
  have h' := h
  unfold addE at h'
  split at h'
  · cases h'
  · rename_i c
    split at h'
    · cases h'
    · rename_i c2
      have hv : MayBe L := of_decide_eq_true (by cases hq : validL L with | true => exact hq | false => exact absurd (Or.inl hq) c)
      have hn : ¬ n < 0 := fun e => c (Or.inr (Or.inl e))
      have hm : n ∉ L.flatten := fun e => c (Or.inr (Or.inr e))
      unfold addL
      rw [if_pos h]
      have hl := wideL_length hv.1
      have hp := putL_perm n (L := wideL L) (k := 0) (by omega)
      rw [wideL_flatten] at hp
      rw [← trimL_flatten (putL (wideL L) 0 n)] at hp
      have hlen := hp.length_eq
      rw [List.length_cons] at hlen
      refine ⟨⟨?_, ?_, fun x hx => ?_, hp.nodup_iff.2 (List.nodup_cons.2 ⟨hm, hv.2.2.2⟩)⟩, hlen, fun x hx => ?_⟩
      · have := trimL_length (putL (wideL L) 0 n)
        rw [putL_length] at this
        omega
      · have := hv.2.1
        omega
      · rcases List.mem_cons.1 (hp.mem_iff.1 hx) with e | e
        · omega
        · exact hv.2.2.1 x e
      · exact List.mem_cons.1 (hp.mem_iff.1 hx)
theorem pickE_ok {L : LvL} {k : Int} (h : pickE L k = 0) : MayBe L ∧ 0 ≤ k ∧ k ≤ 4 ∧ pickL L k = L.getD k.toNat [] ∧ 0 < (pickL L k).length := by
  have h' := h
  unfold pickE at h'
  split at h'
  · cases h'
  · rename_i c
    split at h'
    · cases h'
    · rename_i c2
      have e : pickL L k = (wideL L).getD k.toNat [] := by unfold pickL; rw [if_pos h]
      refine ⟨of_decide_eq_true (by cases hq : validL L with | true => exact hq | false => exact absurd (Or.inl hq) c), ?_, ?_, by rw [e, wideL_getD], by rw [e]; exact List.length_pos_iff.2 c2⟩
      · exact Int.not_lt.1 fun e => c (Or.inr (Or.inl e))
      · exact Int.not_lt.1 fun e => c (Or.inr (Or.inr e))
theorem replL_ok {L : LvL} {k n : Int} (h : replE L k n = 0) : MayBe (replL L k n) ∧ (replL L k n).flatten.length + (pickL L k).length = L.flatten.length + 1 ∧ ∀ x ∈ (replL L k n).flatten, x = n ∨ x ∈ L.flatten := by
  have h' := h
  unfold replE at h'
  split at h'
  · rename_i c; exact absurd h' c
  · rename_i c
    split at h'
    · cases h'
    · rename_i c2
      obtain ⟨hv, k0, k4, hpl, -⟩ := pickE_ok (L := L) (k := k) (by omega)
      have hn : ¬ n < 0 := fun e => c2 (Or.inl e)
      have hm : n ∉ L.flatten := fun e => c2 (Or.inr e)
      unfold replL
      rw [if_pos h]
      have hl := wideL_length hv.1
      obtain ⟨hs, hsl⟩ := setL_sub (L := wideL L) (k := k.toNat) (by omega)
      rw [wideL_getD, ← hpl, wideL_flatten] at hsl
      rw [wideL_flatten] at hs
      have hp := putL_perm n (L := (wideL L).set k.toNat []) (k := toL k.toNat) (by rw [List.length_set, hl]; exact toL_lt _)
      rw [← trimL_flatten (putL ((wideL L).set k.toNat []) (toL k.toNat) n)] at hp
      have hlen := hp.length_eq
      rw [List.length_cons] at hlen
      have hpos : 0 < (pickL L k).length := (pickE_ok (L := L) (k := k) (by omega)).2.2.2.2
      refine ⟨⟨?_, ?_, fun x hx => ?_, hp.nodup_iff.2 (List.nodup_cons.2 ⟨fun e => hm (hs.subset e), hs.nodup hv.2.2.2⟩)⟩, by omega, fun x hx => ?_⟩
      · have := trimL_length (putL ((wideL L).set k.toNat []) (toL k.toNat) n)
        rw [putL_length, List.length_set] at this
        omega
      · have := hv.2.1
        omega
      · rcases List.mem_cons.1 (hp.mem_iff.1 hx) with e | e
        · omega
        · exact hv.2.2.1 x (hs.subset e)
      · rcases List.mem_cons.1 (hp.mem_iff.1 hx) with e | e
        · exact Or.inl e
        · exact Or.inr (hs.subset e)

/-- Numbers in order, each other than the one ahead of it. -/
def StepsOk (s : List Int) (m : Nat) : Prop := ∀ i, i < m → 0 ≤ s.getD i 0 ∧ (0 < i → s.getD i 0 ≠ s.getD (i - 1) 0)
def sortI (l : List Int) : List Int := l.mergeSort fun x y => decide (x ≤ y)
theorem sortI_length (l : List Int) : (sortI l).length = l.length := (List.mergeSort_perm l _).length_eq
theorem sortI_rise (l : List Int) : ∀ i j : Nat, (hi : i < (sortI l).length) → (hj : j < (sortI l).length) → i < j → (sortI l)[i] ≤ (sortI l)[j] := by
  have h := List.pairwise_mergeSort (le := fun x y : Int => decide (x ≤ y)) (fun a b c h1 h2 => by simp at *; omega) (fun a b => by simp; omega) l
  intro i j hi hj hij
  exact of_decide_eq_true (List.pairwise_iff_getElem.1 h i j hi hj hij)
theorem stepsOk_iff (l : List Int) : StepsOk (sortI l) (sortI l).length ↔ (∀ x ∈ l, 0 ≤ x) ∧ l.Nodup := by
  have hp : (sortI l).Perm l := List.mergeSort_perm l _
  have hr := sortI_rise l
  constructor
  · intro h
    refine ⟨fun x hx => ?_, hp.nodup_iff.1 ?_⟩
    · obtain ⟨i, hi, rfl⟩ := List.getElem_of_mem (hp.mem_iff.2 hx)
      have := (h i hi).1
      rwa [List.getD_eq_getElem?_getD, List.getElem?_eq_getElem hi] at this
    · refine List.pairwise_iff_getElem.2 fun i j hi hj hij => ?_
      have h1 := (h j hj).2 (by omega)
      rw [List.getD_eq_getElem?_getD, List.getElem?_eq_getElem hj, List.getD_eq_getElem?_getD, List.getElem?_eq_getElem (show j - 1 < (sortI l).length by omega)] at h1
      have h1' : (sortI l)[j] ≠ (sortI l)[j - 1] := h1
      have h2 := hr (j - 1) j (by omega) hj (by omega)
      have h3 : (sortI l)[i] ≤ (sortI l)[j - 1] := by
        rcases Nat.lt_or_ge i (j - 1) with c | c
        · exact hr i (j - 1) hi (by omega) c
        · have : i = j - 1 := by omega
          subst this
          exact Int.le_refl _
      omega
  · rintro ⟨h1, h2⟩ i hi
    refine ⟨?_, fun h0 => ?_⟩
    · rw [List.getD_eq_getElem?_getD, List.getElem?_eq_getElem hi]
      exact h1 _ (hp.mem_iff.1 (List.getElem_mem hi))
    · rw [List.getD_eq_getElem?_getD, List.getElem?_eq_getElem hi, List.getD_eq_getElem?_getD, List.getElem?_eq_getElem (show i - 1 < (sortI l).length by omega)]
      have := List.pairwise_iff_getElem.1 (hp.nodup_iff.2 h2) (i - 1) i (by omega) hi (by omega)
      exact fun e => this e.symm
/-- Each other than all ahead of it. -/
def FirstsOk (s : List Int) (m : Nat) : Prop := ∀ i x, i < m → s[i]? = some x → 0 ≤ x ∧ x ∉ s.take i
theorem firstsOk_iff (l : List Int) : FirstsOk l l.length ↔ (∀ x ∈ l, 0 ≤ x) ∧ l.Nodup := by
  constructor
  · intro h
    refine ⟨fun x hx => ?_, List.pairwise_iff_getElem.2 fun i j hi hj hij e => ?_⟩
    · obtain ⟨i, hi⟩ := List.getElem?_of_mem hx
      exact (h i x (List.getElem?_eq_some_iff.1 hi).1 hi).1
    · refine (h j l[j] hj (List.getElem?_eq_getElem hj)).2 ?_
      rw [← e]
      refine List.mem_of_getElem? (i := i) ?_
      rw [List.getElem?_take, if_pos hij, List.getElem?_eq_getElem hi]
  · rintro ⟨h1, h2⟩ i x hi hx
    refine ⟨h1 x (List.mem_of_getElem? hx), fun hm => ?_⟩
    obtain ⟨j, hj⟩ := List.getElem?_of_mem hm
    rw [List.getElem?_take] at hj
    split at hj
    · rename_i hji
      obtain ⟨hi', ex⟩ := List.getElem?_eq_some_iff.1 hx
      obtain ⟨hj', ey⟩ := List.getElem?_eq_some_iff.1 hj
      exact List.pairwise_iff_getElem.1 h2 j i hj' hi' hji (ey.trans ex.symm)
    · cases hj
end Go.Proofs.Ytcfidpjhemjbjaa
