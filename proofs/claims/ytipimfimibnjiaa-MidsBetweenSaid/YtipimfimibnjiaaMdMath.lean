/- Midpoints of lists, and between which of them an entry stands: plain lists. -/
import Derived.Test.YtipimfimibnjiaaMids
import Derived.Test.YtipimfimibnjiaaEntSorted
namespace Go.Proofs.Ytipimfimibnjiaa
open Go.RowKit
set_option linter.unusedVariables false

/-- Whether there is a midpoint at a place of n. -/
def isMid (n k : Nat) : Bool := decide (k % 8 = 0) || decide (k + 1 = n)
/-- The midpoints of the first so many entries (P17.1). -/
def midsTo (l : List EntS) : Nat → List MidS
  | 0 => []
  | k + 1 => midsTo l k ++ (if isMid l.length k = true then (match l[k]? with | some x => [⟨x, (k : Nat)⟩] | none => []) else [])
def midsL (l : List EntS) : List MidS := midsTo l l.length
theorem mids_yes {l : List EntS} {k : Nat} {x : EntS} (h : l[k]? = some x) (hm : isMid l.length k = true) : midsTo l (k + 1) = midsTo l k ++ [⟨x, (k : Nat)⟩] := by
  rw [midsTo, if_pos hm, h]
theorem mids_no {l : List EntS} {k : Nat} (hm : isMid l.length k = false) : midsTo l (k + 1) = midsTo l k := by
  rw [midsTo, if_neg (by rw [hm]; decide), List.append_nil]
theorem midsTo_length (l : List EntS) : ∀ k, (midsTo l k).length ≤ k
  | 0 => Nat.le_refl _
  | k + 1 => by
    have := midsTo_length l k
    rw [midsTo, List.length_append]
    split
    · split <;> simp <;> omega
    · simp; omega
/-- How many midpoints n entries have. -/
def cntM (n : Nat) : Nat := if n = 0 then 0 else (n - 1 + 7) / 8 + 1
/-- The number of midpoint j of n entries. -/
def numM (n j : Nat) : Nat := min (8 * j) (n - 1)
theorem mids_before (l : List EntS) : ∀ k, k < l.length → (midsTo l k).length = (k + 7) / 8 ∧ ∀ j, j < (k + 7) / 8 → ∃ x, l[8 * j]? = some x ∧ (midsTo l k)[j]? = some ⟨x, ((8 * j : Nat) : Int)⟩
  | 0, h => ⟨rfl, fun j hj => by omega⟩
  | k + 1, h => by
    obtain ⟨h1, h2⟩ := mids_before l k (by omega)
    have hx : l[k]? = some l[k] := List.getElem?_eq_getElem (by omega)
    by_cases hm : k % 8 = 0
    · have e : isMid l.length k = true := by unfold isMid; rw [decide_eq_true hm]; rfl
      rw [mids_yes hx e, List.length_append, h1]
      refine ⟨by simp; omega, fun j hj => ?_⟩
      rcases Nat.lt_or_ge j ((k + 7) / 8) with c | c
      · obtain ⟨y, hy, hy2⟩ := h2 j c
        exact ⟨y, hy, by rw [List.getElem?_append_left (by rw [h1]; exact c)]; exact hy2⟩
      · obtain rfl : j = (k + 7) / 8 := by omega
        have e8 : 8 * ((k + 7) / 8) = k := by omega
        refine ⟨l[k], by rw [e8]; exact hx, ?_⟩
        rw [List.getElem?_append_right (by omega), h1, Nat.sub_self, e8]
        rfl
    · have e : isMid l.length k = false := by unfold isMid; rw [decide_eq_false hm, decide_eq_false (by omega)]; rfl
      rw [mids_no e]
      have e8 : (k + 1 + 7) / 8 = (k + 7) / 8 := by omega
      rw [e8]
      exact ⟨h1, h2⟩
theorem mids_all (l : List EntS) : (midsL l).length = cntM l.length ∧ ∀ j, j < cntM l.length → ∃ x, l[numM l.length j]? = some x ∧ (midsL l)[j]? = some ⟨x, ((numM l.length j : Nat) : Int)⟩ := by
  unfold midsL cntM numM
  by_cases h0 : l.length = 0
  · rw [if_pos h0, h0]
    exact ⟨rfl, fun j hj => by omega⟩
  · rw [if_neg h0]
    obtain ⟨n, hn⟩ : ∃ n, l.length = n + 1 := ⟨l.length - 1, by omega⟩
    rw [hn, Nat.add_sub_cancel]
    obtain ⟨h1, h2⟩ := mids_before l n (by omega)
    have hx : l[n]? = some l[n] := List.getElem?_eq_getElem (by omega)
    have e : isMid l.length n = true := by unfold isMid; rw [decide_eq_true (p := n + 1 = l.length) (by omega)]; simp
    rw [mids_yes hx e, List.length_append, h1]
    refine ⟨by simp, fun j hj => ?_⟩
    rcases Nat.lt_or_ge j ((n + 7) / 8) with c | c
    · obtain ⟨y, hy, hy2⟩ := h2 j c
      have e8 : min (8 * j) n = 8 * j := by omega
      rw [e8]
      exact ⟨y, hy, by rw [List.getElem?_append_left (by rw [h1]; exact c)]; exact hy2⟩
    · obtain rfl : j = (n + 7) / 8 := by omega
      have e8 : min (8 * ((n + 7) / 8)) n = n := by omega
      refine ⟨l[n], by rw [e8]; exact hx, ?_⟩
      rw [List.getElem?_append_right (by omega), h1, Nat.sub_self, e8]
      rfl
/-- The program's way through midpoints. -/
def scanM (e : EntS) : List MidS → Int → Int → Int × Int
  | [], lo, hi => (lo, hi)
  | x :: m, lo, hi => if lessE x.e e = true then scanM e m (IntKind.i64.wrap (x.k + 1)) hi else (lo, x.k)
def withinM (lo hi many : Int) : Int × Int := (min (max lo 0) many, min (max hi (min (max lo 0) many)) many)
theorem withinM_ok {lo hi many : Int} (h : 0 ≤ many) : 0 ≤ (withinM lo hi many).1 ∧ (withinM lo hi many).1 ≤ (withinM lo hi many).2 ∧ (withinM lo hi many).2 ≤ many := by
  unfold withinM
  refine ⟨?_, ?_, ?_⟩ <;> simp only <;> omega
theorem withinM_id {lo hi many : Int} (h : 0 ≤ lo) (h1 : lo ≤ hi) (h2 : hi ≤ many) : withinM lo hi many = (lo, hi) := by
  unfold withinM
  refine Prod.ext ?_ ?_ <;> simp only <;> omega
/-- Of midpoints of which just the first so many stand ahead: where the first entry stands that doesn't, at least and at most. -/
def loM (m : List MidS) (c : Nat) : Int := if c = 0 then 0 else match m[c - 1]? with | some x => x.k + 1 | none => 0
def hiM (m : List MidS) (c : Nat) (many : Int) : Int := match m[c]? with | some x => x.k | none => many
def CutM (e : EntS) (m : List MidS) (c : Nat) : Prop := c ≤ m.length ∧ ∀ (j : Nat) (x : MidS), m[j]? = some x → lessE x.e e = decide (j < c)
theorem scan_cut {e : EntS} {many : Int} : ∀ {m : List MidS} {c : Nat} {lo : Int}, CutM e m c → (∀ x ∈ m, IntKind.i64.wrap (x.k + 1) = x.k + 1) →
    scanM e m lo many = (if c = 0 then lo else loM m c, hiM m c many)
  | [], c, lo, h, _ => by
    obtain rfl : c = 0 := by have := h.1; simpa using this
    rfl
  | x :: m, c, lo, h, hw => by
    have hx := h.2 0 x rfl
    cases c with
    | zero =>
      rw [decide_eq_false (by omega)] at hx
      rw [scanM, if_neg (by rw [hx]; decide)]
      rfl
    | succ c =>
      rw [decide_eq_true (by omega)] at hx
      have hc : CutM e m c := ⟨by have := h.1; simp at this; omega, fun j y hy => by rw [h.2 (j + 1) y hy]; exact decide_eq_decide.2 (by omega)⟩
      rw [scanM, if_pos hx, scan_cut hc (fun y hy => hw y (List.mem_cons_of_mem _ hy)), hw x List.mem_cons_self]
      refine Prod.ext ?_ rfl
      simp only
      unfold loM
      rw [if_neg (Nat.succ_ne_zero c), Nat.add_sub_cancel]
      cases c with
      | zero => rfl
      | succ c =>
        rw [if_neg (Nat.succ_ne_zero c), if_neg (Nat.succ_ne_zero c), Nat.add_sub_cancel]
        rfl
section
variable {l : List EntS} {e : EntS}
theorem less_down (e : EntS) : ∀ x y, lessE x y = true → lessE y e = true → lessE x e = true := fun x y h k => lessE_trans h k
/-- How many midpoints of n entries have numbers below K. -/
def cutN (n K : Nat) : Nat := if K = n then cntM n else (K + 7) / 8
theorem mids_cut (h : RiseE l) : CutM e (midsL l) (cutN l.length (l.countP fun x => lessE x e)) := by
  obtain ⟨h1, h2⟩ := mids_all l
  have hc := cut_count (q := fun x => lessE x e) (less_down e) h
  have hle : l.countP (fun x => lessE x e) ≤ l.length := List.countP_le_length
  generalize l.countP (fun x => lessE x e) = K at *
  refine ⟨?_, fun j x hx => ?_⟩
  · rw [h1]
    unfold cutN cntM
    split
    · exact Nat.le_refl _
    · rw [if_neg (by omega)]; omega
  · have hj : j < cntM l.length := by rw [← h1]; exact (List.getElem?_eq_some_iff.1 hx).1
    obtain ⟨y, hy, hy2⟩ := h2 j hj
    rw [hx] at hy2
    have e1 := Option.some.inj hy2
    rw [e1]
    show lessE y e = _
    rw [show lessE y e = decide (numM l.length j < K) from hc _ y hy]
    refine decide_eq_decide.2 ?_
    unfold numM cutN
    unfold cntM at hj ⊢
    split at hj
    · omega
    · split <;> (try split) <;> omega
/-- Where it is, in numbers. -/
theorem mids_lo_hi (h : RiseE l) : ∃ lo hi : Nat, loM (midsL l) (cutN l.length (l.countP fun x => lessE x e)) = (lo : Int) ∧ hiM (midsL l) (cutN l.length (l.countP fun x => lessE x e)) (l.length : Nat) = (hi : Int) ∧
    lo ≤ l.countP (fun x => lessE x e) ∧ l.countP (fun x => lessE x e) ≤ hi ∧ hi ≤ l.length ∧ hi ≤ lo + 7 := by
  obtain ⟨h1, h2⟩ := mids_all l
  have hle : l.countP (fun x => lessE x e) ≤ l.length := List.countP_le_length
  generalize l.countP (fun x => lessE x e) = K at *
  have hlo : loM (midsL l) (cutN l.length K) = ((if cutN l.length K = 0 then 0 else numM l.length (cutN l.length K - 1) + 1 : Nat) : Int) := by
    unfold loM
    split
    · rfl
    · rename_i hne
      obtain ⟨x, _, hx⟩ := h2 (cutN l.length K - 1) (by
        unfold cutN cntM at hne ⊢
        split at hne <;> split <;> split <;> (first | omega | (split at hne <;> omega)))
      rw [hx]
      simp
  have hhi : hiM (midsL l) (cutN l.length K) (l.length : Nat) = ((if cutN l.length K < cntM l.length then numM l.length (cutN l.length K) else l.length : Nat) : Int) := by
    unfold hiM
    split
    · rename_i x hx
      have hj : cutN l.length K < cntM l.length := by rw [← h1]; exact (List.getElem?_eq_some_iff.1 hx).1
      obtain ⟨y, _, hy⟩ := h2 _ hj
      rw [hx] at hy
      rw [if_pos hj, Option.some.inj hy]
    · rename_i hx
      rw [List.getElem?_eq_none_iff, h1] at hx
      rw [if_neg (by omega)]
  refine ⟨_, _, hlo, hhi, ?_⟩
  clear hlo hhi h1 h2 h
  unfold numM cutN cntM
  generalize l.length = n at *
  by_cases h0 : n = 0
  · subst h0
    obtain rfl : K = 0 := by omega
    simp
  · rw [if_neg h0]
    by_cases hK : K = n
    · subst hK
      rw [if_pos rfl, if_neg (by omega), if_neg (by omega)]
      omega
    · rw [if_neg hK]
      by_cases hz : K = 0
      · subst hz
        simp
        try omega
      · rw [if_neg (by omega), if_pos (by omega)]
        omega
theorem mids_small (hn : l.length ≤ 1000000) : ∀ x ∈ midsL l, IntKind.i64.wrap (x.k + 1) = x.k + 1 ∧ 0 ≤ x.k ∧ x.k ≤ 1000000 := by
  intro x hx
  obtain ⟨j, hj⟩ := List.getElem?_of_mem hx
  obtain ⟨h1, h2⟩ := mids_all l
  obtain ⟨y, hy, hy2⟩ := h2 j (by rw [← h1]; exact (List.getElem?_eq_some_iff.1 hj).1)
  rw [hj] at hy2
  have hlt := (List.getElem?_eq_some_iff.1 hy).1
  rw [Option.some.inj hy2]
  generalize numM l.length j = k at *
  refine ⟨IntWalk.i64_in _ ⟨?_, ?_⟩, ?_, ?_⟩ <;> simp only <;> omega
end
end Go.Proofs.Ytipimfimibnjiaa
