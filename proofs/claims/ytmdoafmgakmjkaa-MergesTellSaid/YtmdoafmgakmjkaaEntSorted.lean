/- Lists of entries: sorted, put in order, searched: plain lists, no program. -/
import Derived.Test.YtmdoafmgakmjkaaEntMath
namespace Go.Proofs.Ytmdoafmgakmjkaa
open Go.RowKit
set_option linter.unusedVariables false

/-- Whether entries are sorted (P13.1). -/
def sortedE : List EntS → Bool
  | [] => true
  | [_] => true
  | x :: y :: l => lessE x y && sortedE (y :: l)
theorem sortedE_yes : ∀ {l : List EntS}, (∀ (i : Nat) (x y : EntS), l[i]? = some x → l[i + 1]? = some y → lessE x y = true) → sortedE l = true
  | [], _ => rfl
  | [_], _ => rfl
  | x :: y :: l, h => by
    unfold sortedE
    rw [h 0 x y rfl rfl, Bool.true_and]
    exact sortedE_yes fun i a b ha hb => h (i + 1) a b (by simpa using ha) (by simpa using hb)
theorem sortedE_at : ∀ {l : List EntS}, sortedE l = true → ∀ (i : Nat) (x y : EntS), l[i]? = some x → l[i + 1]? = some y → lessE x y = true
  | [], _ => fun i x y hx _ => by simp at hx
  | [_], _ => fun i x y _ hy => by simp at hy
  | a :: b :: l, h => by
    unfold sortedE at h
    rw [Bool.and_eq_true] at h
    intro i x y hx hy
    cases i with
    | zero =>
      obtain rfl : a = x := by simpa using hx
      obtain rfl : b = y := by simpa using hy
      exact h.1
    | succ i => exact sortedE_at h.2 i x y (by simpa using hx) (by simpa using hy)
theorem sortedE_no {l : List EntS} {i : Nat} {x y : EntS} (hx : l[i]? = some x) (hy : l[i + 1]? = some y) (h : lessE x y = false) : sortedE l = false := by
  cases hs : sortedE l with
  | false => rfl
  | true => rw [sortedE_at hs i x y hx hy] at h; cases h
/-- Each stands ahead of all behind it. -/
def RiseE (l : List EntS) : Prop := l.Pairwise (fun x y => lessE x y = true)
theorem RiseE.sorted {l : List EntS} (h : RiseE l) : sortedE l = true := sortedE_yes fun i x y hx hy => by
  have hi := (List.getElem?_eq_some_iff.1 hy).1
  have := List.pairwise_iff_getElem.1 h i (i + 1) (by omega) hi (by omega)
  rw [List.getElem?_eq_getElem (by omega)] at hx
  rw [List.getElem?_eq_getElem hi] at hy
  rw [← Option.some.inj hx, ← Option.some.inj hy]
  exact this
theorem sorted_rise : ∀ {l : List EntS}, sortedE l = true → RiseE l
  | [], _ => List.Pairwise.nil
  | [x], _ => List.pairwise_singleton _ _
  | x :: y :: l, h => by
    unfold sortedE at h
    rw [Bool.and_eq_true] at h
    have hr := sorted_rise h.2
    refine List.Pairwise.cons (fun z hz => ?_) hr
    rcases List.mem_cons.1 hz with rfl | hz
    · exact h.1
    · exact lessE_trans h.1 ((List.pairwise_cons.1 hr).1 z hz)

/-- The document's Sort: put in one by one. -/
def posE (l : List EntS) (x : EntS) : Nat := l.findIdx (fun y => !lessE y x)
def layEn (l : List EntS) (x : EntS) : List EntS := if l[posE l x]? = some x then l else l.take (posE l x) ++ [x] ++ l.drop (posE l x)
def sortE (l : List EntS) : List EntS := l.foldl layEn []
theorem posE_le (l : List EntS) (x : EntS) : posE l x ≤ l.length := List.findIdx_le_length
theorem posE_at {l : List EntS} {x : EntS} {k : Nat} (hk : k ≤ l.length) (hall : ∀ j y, j < k → l[j]? = some y → lessE y x = true) : k ≤ posE l x := by
  unfold posE
  rcases Nat.lt_or_ge (l.findIdx (fun y => !lessE y x)) k with c | c
  · have hlt : l.findIdx (fun y => !lessE y x) < l.length := by omega
    have h := List.findIdx_getElem (w := hlt)
    have h2 := hall _ _ c (List.getElem?_eq_getElem hlt)
    simp only [Bool.not_eq_true'] at h
    rw [h] at h2
    cases h2
  · exact c
theorem posE_lt {l : List EntS} {x : EntS} {k : Nat} {y : EntS} (h : l[k]? = some y) (hf : lessE y x = false) : posE l x ≤ k := by
  unfold posE
  have hk : k < l.length := (List.getElem?_eq_some_iff.1 h).1
  rcases Nat.lt_or_ge k (l.findIdx (fun y => !lessE y x)) with c | c
  · have := List.not_of_lt_findIdx c
    rw [List.getElem?_eq_getElem hk] at h
    have e : l[k] = y := by simpa using h
    rw [e] at this
    simp [hf] at this
  · exact c
theorem pos_take (l : List EntS) (x : EntS) : ∀ y ∈ l.take (posE l x), lessE y x = true := by
  intro y hy
  obtain ⟨j, hj⟩ := List.getElem?_of_mem hy
  have hjl := (List.getElem?_eq_some_iff.1 hj).1
  rw [List.length_take] at hjl
  rw [List.getElem?_take, if_pos (by omega), List.getElem?_eq_getElem (by omega)] at hj
  have e := Option.some.inj hj
  have := List.not_of_lt_findIdx (p := fun y => !lessE y x) (xs := l) (i := j) (by unfold posE at hjl; omega)
  rw [e] at this
  simpa using this
theorem pos_drop {l : List EntS} {x : EntS} (hr : RiseE l) (hne : l[posE l x]? ≠ some x) : ∀ y ∈ l.drop (posE l x), lessE x y = true := by
  rcases Nat.lt_or_ge (posE l x) l.length with c | c
  · have e : l.drop (posE l x) = l[posE l x] :: l.drop (posE l x + 1) := List.drop_eq_getElem_cons c
    have h0 : lessE l[posE l x] x = false := by
      have h : (!lessE l[posE l x] x) = true := List.findIdx_getElem (p := fun y => !lessE y x) (xs := l) (w := c)
      rw [Bool.not_eq_true'] at h
      exact h
    have h1 : l[posE l x] ≠ x := fun h => hne (by rw [List.getElem?_eq_getElem c, h])
    have h2 := lessE_other h0 h1
    have hd : RiseE (l.drop (posE l x)) := List.Pairwise.drop hr
    rw [e] at hd ⊢
    intro y hy
    rcases List.mem_cons.1 hy with rfl | hy
    · exact h2
    · exact lessE_trans h2 ((List.pairwise_cons.1 hd).1 y hy)
  · rw [List.drop_eq_nil_of_le c]
    intro y hy
    cases hy
theorem rise_layE {l : List EntS} (hr : RiseE l) (x : EntS) : RiseE (layEn l x) := by
  unfold layEn
  split
  · exact hr
  · rename_i hne
    have h1 := pos_take l x
    have h2 := pos_drop hr hne
    refine List.pairwise_append.2 ⟨List.pairwise_append.2 ⟨List.Pairwise.take hr, List.pairwise_singleton _ _, fun a ha b hb => ?_⟩, List.Pairwise.drop hr, fun a ha b hb => ?_⟩
    · rw [List.mem_singleton.1 hb]
      exact h1 a ha
    · rcases List.mem_append.1 ha with ha | ha
      · exact lessE_trans (h1 a ha) (h2 b hb)
      · rw [List.mem_singleton.1 ha]
        exact h2 b hb
theorem mem_layE {l : List EntS} {x y : EntS} (h : y ∈ layEn l x) : y ∈ l ∨ y = x := by
  unfold layEn at h
  split at h
  · exact Or.inl h
  · rcases List.mem_append.1 h with h | h
    · rcases List.mem_append.1 h with h | h
      · exact Or.inl (List.mem_of_mem_take h)
      · exact Or.inr (List.mem_singleton.1 h)
    · exact Or.inl (List.mem_of_mem_drop h)
theorem layE_length (l : List EntS) (x : EntS) : (layEn l x).length ≤ l.length + 1 := by
  unfold layEn
  split
  · omega
  · rw [List.length_append, List.length_append, List.length_take, List.length_drop, List.length_singleton]
    have := posE_le l x
    omega
theorem sort_fold : ∀ (l acc : List EntS), RiseE acc → RiseE (l.foldl layEn acc) ∧ (l.foldl layEn acc).length ≤ acc.length + l.length ∧ ∀ y ∈ l.foldl layEn acc, y ∈ acc ∨ y ∈ l
  | [], acc, h => ⟨h, by simp, fun y hy => Or.inl hy⟩
  | x :: l, acc, h => by
    obtain ⟨h1, h2, h3⟩ := sort_fold l (layEn acc x) (rise_layE h x)
    refine ⟨h1, ?_, fun y hy => ?_⟩
    · have := layE_length acc x
      rw [List.foldl_cons, List.length_cons]
      omega
    · rcases h3 y hy with h | h
      · rcases mem_layE h with h | h
        · exact Or.inl h
        · exact Or.inr (by rw [h]; exact List.mem_cons_self)
      · exact Or.inr (List.mem_cons_of_mem _ h)
theorem sort_rise (l : List EntS) : RiseE (sortE l) := (sort_fold l [] List.Pairwise.nil).1
theorem sort_length (l : List EntS) : (sortE l).length ≤ l.length := by have := (sort_fold l [] List.Pairwise.nil).2.1; rw [List.length_nil, Nat.zero_add] at this; exact this
theorem sort_mem {l : List EntS} : ∀ y ∈ sortE l, y ∈ l := fun y hy => by
  rcases (sort_fold l [] List.Pairwise.nil).2.2 y hy with h | h
  · cases h
  · exact h
theorem ent_take (l : List EntS) (k : Nat) (x : EntS) (h : l[k]? = some x) : l.take (k + 1) = l.take k ++ [x] := by
  rw [List.take_add_one, h]
  rfl
theorem sort_take {l : List EntS} {k : Nat} {x : EntS} (h : l[k]? = some x) : sortE (l.take (k + 1)) = layEn (sortE (l.take k)) x := by
  rw [ent_take l k x h]
  unfold sortE
  rw [List.foldl_append]
  rfl

/-- What is asked (P13.3). -/
def srchQ (h : Nat) (v : Int) (x : EntS) : Bool := decide (x.h < h ∨ (x.h = h ∧ x.v < v))
def thruQ (h : Nat) (v : Int) (x : EntS) : Bool := decide (x.h < h ∨ (x.h = h ∧ x.v ≤ v))
def inQ (h : Nat) (a b : Int) (x : EntS) : Bool := decide (x.h = h ∧ a ≤ x.v ∧ x.v ≤ b)
def upQ (h : Nat) (b : Int) (x : EntS) : Bool := decide (x.h = h ∧ x.v ≤ b)
def searchE (l : List EntS) (h : Nat) (v : Int) : Nat := l.countP (srchQ h v)
def rangeE (l : List EntS) (h : Nat) (a b : Int) : List EntS := l.filter (inQ h a b)
def lastO (l : List EntS) (h : Nat) (b : Int) : Option EntS := (l.filter (upQ h b)).getLast?
def lastE (l : List EntS) (h : Nat) (b : Int) : EntS := (lastO l h b).getD ⟨0, 0, 0⟩
def lastOk (l : List EntS) (h : Nat) (b : Int) : Bool := (lastO l h b).isSome
/-- A question is true of just so many elements, the first ones. -/
def IsCut (q : EntS → Bool) (l : List EntS) (k : Nat) : Prop := ∀ (i : Nat) (x : EntS), l[i]? = some x → q x = decide (i < k)
theorem cut_count {q : EntS → Bool} (hq : ∀ x y, lessE x y = true → q y = true → q x = true) : ∀ {l : List EntS}, RiseE l → IsCut q l (l.countP q)
  | [], _ => fun i x h => by simp at h
  | a :: l, hr => by
    obtain ⟨h1, h2⟩ := List.pairwise_cons.1 hr
    have ih := cut_count hq h2
    intro i x hx
    cases ha : q a with
    | true =>
      rw [List.countP_cons_of_pos ha]
      cases i with
      | zero =>
        obtain rfl : a = x := by simpa using hx
        rw [ha, decide_eq_true (Nat.succ_pos _)]
      | succ i =>
        rw [ih i x (by simpa using hx), decide_eq_decide]
        omega
    | false =>
      have hn : ∀ y ∈ l, q y = false := fun y hy => by
        cases h : q y with
        | false => rfl
        | true => rw [hq a y (h1 y hy) h] at ha; cases ha
      have h0 : l.countP q = 0 := List.countP_eq_zero.2 fun y hy => by rw [hn y hy]; decide
      rw [List.countP_cons_of_neg (by rw [ha]; decide), h0, decide_eq_false (Nat.not_lt_zero _)]
      cases i with
      | zero =>
        obtain rfl : a = x := by simpa using hx
        exact ha
      | succ i => exact hn x (List.mem_of_getElem? (by simpa using hx))
theorem srch_down (h : Nat) (v : Int) : ∀ x y, lessE x y = true → srchQ h v y = true → srchQ h v x = true := by
  intro x y hl hy
  rw [lessE_iff] at hl
  have := of_decide_eq_true hy
  exact decide_eq_true (by omega)
theorem thru_down (h : Nat) (v : Int) : ∀ x y, lessE x y = true → thruQ h v y = true → thruQ h v x = true := by
  intro x y hl hy
  rw [lessE_iff] at hl
  have := of_decide_eq_true hy
  exact decide_eq_true (by omega)
theorem IsCut.tail {q : EntS → Bool} {x : EntS} {l : List EntS} {k : Nat} (h : IsCut q (x :: l) k) : q x = decide (0 < k) ∧ IsCut q l (k - 1) :=
  ⟨h 0 x rfl, fun i y hy => by rw [h (i + 1) y (by simpa using hy), decide_eq_decide]; omega⟩
theorem cut_range {q r : EntS → Bool} : ∀ {l : List EntS} {a b : Nat}, IsCut q l a → IsCut r l b → l.filter (fun x => !q x && r x) = (l.drop a).take (b - a)
  | [], a, b, _, _ => by simp
  | x :: l, a, b, hq, hr => by
    obtain ⟨q0, q1⟩ := hq.tail
    obtain ⟨r0, r1⟩ := hr.tail
    have ih := cut_range q1 r1
    rw [List.filter_cons, q0, r0, ih]
    cases a with
    | zero =>
      cases b with
      | zero => simp
      | succ b => simp
    | succ a =>
      have e : decide (0 < a + 1) = true := decide_eq_true (Nat.succ_pos _)
      rw [e]
      simp only [Bool.not_true, Bool.false_and, Bool.false_eq_true, if_false, Nat.add_sub_cancel, List.drop_succ_cons]
      congr 1
      omega
theorem range_cut {l : List EntS} {h : Nat} {a b : Int} {i j : Nat} (h1 : IsCut (srchQ h a) l i) (h2 : IsCut (thruQ h b) l j) : rangeE l h a b = (l.drop i).take (j - i) := by
  rw [← cut_range h1 h2]
  unfold rangeE
  congr 1
  funext x
  unfold inQ srchQ thruQ
  rw [← decide_not, ← Bool.decide_and, decide_eq_decide]
  omega
theorem enlast_at {p : EntS → Bool} {l : List EntS} {i : Nat} {x : EntS} (hx : l[i]? = some x) (hp : p x = true) (hn : ∀ j y, i < j → l[j]? = some y → p y = false) : (l.filter p).getLast? = some x := by
  obtain ⟨hi, e⟩ := List.getElem?_eq_some_iff.1 hx
  have e1 : l = l.take i ++ (x :: l.drop (i + 1)) := by
    rw [← e, ← List.drop_eq_getElem_cons hi, List.take_append_drop]
  have e2 : (l.drop (i + 1)).filter p = [] := by
    rw [List.filter_eq_nil_iff]
    intro y hy
    obtain ⟨j, hj⟩ := List.getElem?_of_mem hy
    rw [List.getElem?_drop] at hj
    rw [hn _ y (by omega) hj]
    decide
  rw [e1, List.filter_append, List.filter_cons, if_pos hp, e2]
  simp
theorem last_none {p : EntS → Bool} {l : List EntS} (hn : ∀ y ∈ l, p y = false) : (l.filter p).getLast? = none := by
  have : l.filter p = [] := List.filter_eq_nil_iff.2 fun y hy => by rw [hn y hy]; decide
  rw [this]
  rfl
theorem last_cut {l : List EntS} {h : Nat} {b : Int} {k : Nat} {x : EntS} (hc : IsCut (thruQ h b) l (k + 1)) (hx : l[k]? = some x) (hh : x.h = h) : lastO l h b = some x := by
  have h1 := of_decide_eq_true ((hc k x hx).trans (decide_eq_true (Nat.lt_succ_self k)))
  refine enlast_at hx (decide_eq_true ⟨hh, by omega⟩) fun j y hj hy => ?_
  have h2 := of_decide_eq_false ((hc j y hy).trans (decide_eq_false (by omega)))
  exact decide_eq_false (by omega)
theorem last_cut_no {l : List EntS} {h : Nat} {b : Int} {k : Nat} {x : EntS} (hr : RiseE l) (hc : IsCut (thruQ h b) l (k + 1)) (hx : l[k]? = some x) (hh : x.h ≠ h) : lastO l h b = none := by
  refine last_none fun y hy => ?_
  obtain ⟨j, hj⟩ := List.getElem?_of_mem hy
  have h1 := of_decide_eq_true ((hc k x hx).trans (decide_eq_true (Nat.lt_succ_self k)))
  have hc2 := hc j y hj
  unfold upQ
  rcases Nat.lt_trichotomy j k with c | c | c
  · have hk := (List.getElem?_eq_some_iff.1 hx).1
    have := List.pairwise_iff_getElem.1 hr j k (by omega) hk c
    rw [List.getElem?_eq_getElem (by omega)] at hj
    rw [List.getElem?_eq_getElem hk] at hx
    rw [Option.some.inj hj, Option.some.inj hx, lessE_iff] at this
    exact decide_eq_false (by omega)
  · subst c
    rw [hj] at hx
    obtain rfl := Option.some.inj hx
    exact decide_eq_false (by omega)
  · rw [decide_eq_false (by omega)] at hc2
    have := of_decide_eq_false hc2
    exact decide_eq_false (by omega)
theorem last_cut_zero {l : List EntS} {h : Nat} {b : Int} (hc : IsCut (thruQ h b) l 0) : lastO l h b = none := by
  refine last_none fun y hy => ?_
  obtain ⟨j, hj⟩ := List.getElem?_of_mem hy
  have := of_decide_eq_false ((hc j y hj).trans (decide_eq_false (Nat.not_lt_zero _)))
  exact decide_eq_false (by omega)
end Go.Proofs.Ytmdoafmgakmjkaa
