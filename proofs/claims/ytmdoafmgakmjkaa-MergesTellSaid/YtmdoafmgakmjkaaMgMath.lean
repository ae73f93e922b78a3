/- Lists of entries, made one: plain lists, no program. -/
import Derived.Test.YtmdoafmgakmjkaaMtMath
namespace Go.Proofs.Ytmdoafmgakmjkaa
open Go.RowKit
set_option linter.unusedVariables false

/-- The least of the first ones so far. -/
def minStep (m : Option EntS) : List EntS → Option EntS
  | [] => m
  | x :: _ => match m with
    | none => some x
    | some y => if lessE x y = true then some x else some y
def minL (L : List (List EntS)) : Option EntS := L.foldl minStep none
/-- What is left of a list when an entry is taken away from it. -/
def stripE (e : EntS) (l : List EntS) : List EntS := l.dropWhile (fun x => decide (x = e))
/-- What is told then. -/
def addE (a : List EntS) (e : EntS) : List EntS := if a.getLast? = some e then a else a ++ [e]
def totL (L : List (List EntS)) : Nat := (L.map List.length).sum
/-- The document's way (P20.1), so many rounds at most. -/
def mrgF : Nat → List EntS → List (List EntS) → List EntS
  | 0, a, _ => a
  | n + 1, a, L => match minL L with
    | none => a
    | some e => mrgF n (addE a e) (L.map (stripE e))
def mrg (a : List EntS) (L : List (List EntS)) : List EntS := mrgF (totL L) a L
def mergeE (L : List (List EntS)) : List EntS := mrg [] L

theorem minL_take {L : List (List EntS)} {i : Nat} {l : List EntS} (h : L[i]? = some l) : minL (L.take (i + 1)) = minStep (minL (L.take i)) l := by
  unfold minL
  rw [List.take_add_one, h, List.foldl_append]
  rfl
theorem minL_nil : minL [] = none := rfl
theorem minF_none : ∀ (L : List (List EntS)) (m : Option EntS), L.foldl minStep m = none ↔ m = none ∧ ∀ l ∈ L, l = []
  | [], m => by simp
  | [] :: L, m => by
    rw [List.foldl_cons, minF_none L]
    simp [minStep]
  | (x :: t) :: L, m => by
    rw [List.foldl_cons, minF_none L]
    constructor
    · rintro ⟨h, _⟩
      cases m with
      | none => cases h
      | some y =>
        simp only [minStep] at h
        split at h <;> cases h
    · rintro ⟨_, h⟩
      have := h (x :: t) List.mem_cons_self
      cases this
theorem minL_none {L : List (List EntS)} : minL L = none ↔ ∀ l ∈ L, l = [] := by
  unfold minL
  rw [minF_none]
  simp
theorem less_not {x y e : EntS} (h : lessE x y = false) (k : lessE y e = false) : lessE x e = false := by
  cases c : lessE x e with
  | false => rfl
  | true =>
    by_cases hye : y = e
    · subst hye
      rw [c] at h
      cases h
    · have := lessE_trans c (lessE_other k hye)
      rw [this] at h
      cases h
theorem minF_some : ∀ (L : List (List EntS)) (m : Option EntS) (e : EntS), L.foldl minStep m = some e →
    (m = some e ∨ ∃ l ∈ L, ∃ t, l = e :: t) ∧ (∀ y, m = some y → lessE y e = false) ∧ ∀ l ∈ L, ∀ x t, l = x :: t → lessE x e = false
  | [], m, e, h => by
    have h' : m = some e := h
    subst h'
    exact ⟨Or.inl rfl, fun y hy => by cases hy; exact lessE_irrefl _, fun l hl => by cases hl⟩
  | [] :: L, m, e, h => by
    rw [List.foldl_cons] at h
    obtain ⟨h1, h2, h3⟩ := minF_some L m e h
    refine ⟨?_, h2, fun l hl x t hx => ?_⟩
    · rcases h1 with h1 | ⟨l, hl, t, ht⟩
      · exact Or.inl h1
      · exact Or.inr ⟨l, List.mem_cons_of_mem _ hl, t, ht⟩
    · rcases List.mem_cons.1 hl with rfl | hl
      · cases hx
      · exact h3 l hl x t hx
  | (x :: t) :: L, m, e, h => by
    rw [List.foldl_cons] at h
    obtain ⟨h1, h2, h3⟩ := minF_some L _ e h
    have hx : lessE x e = false ∧ (∀ y, m = some y → lessE y e = false) ∧ (m = some e ∨ ∃ l ∈ (x :: t) :: L, ∃ t, l = e :: t) := by
      have far : (∃ l ∈ L, ∃ t, l = e :: t) → ∃ l ∈ (x :: t) :: L, ∃ t, l = e :: t := fun ⟨l, hl, t', ht⟩ => ⟨l, List.mem_cons_of_mem _ hl, t', ht⟩
      cases m with
      | none =>
        refine ⟨h2 x rfl, fun y hy => (by cases hy), ?_⟩
        rcases h1 with h1 | h1
        · have : x = e := Option.some.inj h1
          subst this
          exact Or.inr ⟨_, List.mem_cons_self, t, rfl⟩
        · exact Or.inr (far h1)
      | some y =>
        cases c : lessE x y with
        | true =>
          have hm : minStep (some y) (x :: t) = some x := by unfold minStep; simp only; rw [if_pos c]
          rw [hm] at h1 h2
          refine ⟨h2 x rfl, fun z hz => ?_, ?_⟩
          · cases hz
            cases d : lessE y e with
            | false => rfl
            | true => have := lessE_trans c d; rw [h2 x rfl] at this; cases this
          · rcases h1 with h1 | h1
            · have : x = e := Option.some.inj h1
              subst this
              exact Or.inr ⟨_, List.mem_cons_self, t, rfl⟩
            · exact Or.inr (far h1)
        | false =>
          have hm : minStep (some y) (x :: t) = some y := by unfold minStep; simp only; rw [if_neg (by rw [c]; decide)]
          rw [hm] at h1 h2
          refine ⟨less_not c (h2 y rfl), fun z hz => by cases hz; exact h2 y rfl, ?_⟩
          rcases h1 with h1 | h1
          · exact Or.inl h1
          · exact Or.inr (far h1)
    refine ⟨hx.2.2, hx.2.1, fun l hl z u hz => ?_⟩
    rcases List.mem_cons.1 hl with rfl | hl
    · injection hz with hz
      rw [← hz]
      exact hx.1
    · exact h3 l hl z u hz
theorem minL_mem {L : List (List EntS)} {e : EntS} (h : minL L = some e) : ∃ l ∈ L, ∃ t, l = e :: t := by
  rcases (minF_some L none e h).1 with h | h
  · cases h
  · exact h
theorem minL_le {L : List (List EntS)} {e : EntS} (h : minL L = some e) : ∀ l ∈ L, ∀ x t, l = x :: t → lessE x e = false := (minF_some L none e h).2.2

theorem strip_le (e : EntS) (l : List EntS) : (stripE e l).length ≤ l.length := (List.dropWhile_sublist _).length_le
theorem strip_cons (e : EntS) (t : List EntS) : stripE e (e :: t) = stripE e t := by unfold stripE; rw [List.dropWhile_cons, if_pos (by simp)]
theorem strip_other {e x : EntS} (h : x ≠ e) (t : List EntS) : stripE e (x :: t) = x :: t := by unfold stripE; rw [List.dropWhile_cons, if_neg (by simpa using h)]
theorem strip_nil (e : EntS) : stripE e [] = [] := rfl
theorem totL_cons (l : List EntS) (L : List (List EntS)) : totL (l :: L) = l.length + totL L := by unfold totL; simp
theorem tot_le (e : EntS) : ∀ L : List (List EntS), totL (L.map (stripE e)) ≤ totL L
  | [] => Nat.le_refl _
  | l :: L => by
    rw [List.map_cons, totL_cons, totL_cons]
    have := tot_le e L
    have := strip_le e l
    omega
theorem tot_lt (e : EntS) : ∀ L : List (List EntS), (∃ l ∈ L, ∃ t, l = e :: t) → totL (L.map (stripE e)) < totL L
  | [], h => by obtain ⟨l, hl, _⟩ := h; cases hl
  | l :: L, ⟨m, hm, t, ht⟩ => by
    rw [List.map_cons, totL_cons, totL_cons]
    have h1 := tot_le e L
    have h2 := strip_le e l
    rcases List.mem_cons.1 hm with rfl | hm
    · subst ht
      have h3 := strip_le e t
      rw [strip_cons, List.length_cons]
      omega
    · have := tot_lt e L ⟨m, hm, t, ht⟩
      omega
theorem tot_zero {L : List (List EntS)} (h : totL L = 0) : minL L = none := by
  rw [minL_none]
  induction L with
  | nil => intro l hl; cases hl
  | cons a L ih =>
    rw [totL_cons] at h
    intro l hl
    rcases List.mem_cons.1 hl with rfl | hl
    · exact List.length_eq_zero_iff.1 (by omega)
    · exact ih (by omega) l hl
theorem mrgF_same : ∀ (n m : Nat) (a : List EntS) (L : List (List EntS)), totL L ≤ n → totL L ≤ m → mrgF n a L = mrgF m a L
  | 0, 0, a, L, _, _ => rfl
  | 0, m + 1, a, L, h, _ => by
    have := tot_zero (L := L) (by omega)
    rw [mrgF, mrgF, this]
  | n + 1, 0, a, L, _, h => by
    have := tot_zero (L := L) (by omega)
    rw [mrgF, mrgF, this]
  | n + 1, m + 1, a, L, h1, h2 => by
    rw [mrgF, mrgF]
    cases c : minL L with
    | none => rfl
    | some e =>
      have := tot_lt e L (minL_mem c)
      exact mrgF_same n m _ _ (by omega) (by omega)
theorem mrg_none {a : List EntS} {L : List (List EntS)} (h : minL L = none) : mrg a L = a := by
  unfold mrg
  cases totL L with
  | zero => rfl
  | succ n => rw [mrgF, h]
theorem mrg_some {a : List EntS} {L : List (List EntS)} {e : EntS} (h : minL L = some e) : mrg a L = mrg (addE a e) (L.map (stripE e)) := by
  have hl := tot_lt e L (minL_mem h)
  unfold mrg
  obtain ⟨n, hn⟩ : ∃ n, totL L = n + 1 := ⟨totL L - 1, by omega⟩
  rw [hn, mrgF, h]
  exact mrgF_same _ _ _ _ (by omega) (Nat.le_refl _)
theorem addE_length (a : List EntS) (e : EntS) : a.length ≤ (addE a e).length ∧ (addE a e).length ≤ a.length + 1 := by
  unfold addE
  split
  · omega
  · rw [List.length_append, List.length_singleton]; omega
theorem mrgF_length : ∀ (n : Nat) (a : List EntS) (L : List (List EntS)), totL L ≤ n → a.length ≤ (mrgF n a L).length ∧ (mrgF n a L).length ≤ a.length + totL L
  | 0, a, L, _ => ⟨Nat.le_refl _, by rw [mrgF]; omega⟩
  | n + 1, a, L, h => by
    rw [mrgF]
    cases c : minL L with
    | none => exact ⟨Nat.le_refl _, by simp only; omega⟩
    | some e =>
      have h1 := tot_lt e L (minL_mem c)
      have h2 := addE_length a e
      have h3 := mrgF_length n (addE a e) (L.map (stripE e)) (by omega)
      exact ⟨by simp only; omega, by simp only; omega⟩
theorem mrg_length (a : List EntS) (L : List (List EntS)) : a.length ≤ (mrg a L).length := (mrgF_length _ a L (Nat.le_refl _)).1
theorem merge_length (L : List (List EntS)) : (mergeE L).length ≤ totL L := by
  have := (mrgF_length _ [] L (Nat.le_refl _)).2
  rw [List.length_nil, Nat.zero_add] at this
  exact this

/-- The program's way: the last one that was told is taken away later. -/
def leftL (a : List EntS) (L : List (List EntS)) : List (List EntS) := match a.getLast? with
  | none => L
  | some e => L.map (stripE e)
def finL (a : List EntS) (L : List (List EntS)) : List EntS := mrg a (leftL a L)
theorem fin_start (L : List (List EntS)) : finL [] L = mergeE L := rfl
theorem left_self {a : List EntS} {L : List (List EntS)} (hno : ∀ l ∈ L, ∀ x t, l = x :: t → a.getLast? ≠ some x) : leftL a L = L := by
  unfold leftL
  cases h : a.getLast? with
  | none => rfl
  | some e =>
    show L.map (stripE e) = L
    have : ∀ l ∈ L, stripE e l = l := fun l hl => by
      cases l with
      | nil => rfl
      | cons x t => exact strip_other (fun hx => hno _ hl x t rfl (by rw [h, hx])) t
    rw [List.map_congr_left this]
    exact List.map_id' L
theorem fin_drop {a : List EntS} {L : List (List EntS)} {i : Nat} {e : EntS} {t : List EntS} (ha : a.getLast? = some e) (h : L[i]? = some (e :: t)) : finL a (L.set i t) = finL a L := by
  unfold finL leftL
  rw [ha]
  show mrg a ((L.set i t).map (stripE e)) = mrg a (L.map (stripE e))
  congr 1
  apply List.ext_getElem?
  intro j
  rw [List.getElem?_map, List.getElem?_map, List.getElem?_set]
  by_cases hij : i = j
  · subst hij
    have hi := (List.getElem?_eq_some_iff.1 h).1
    rw [if_pos rfl, if_pos hi, h]
    show some (stripE e t) = some (stripE e (e :: t))
    rw [strip_cons]
  · rw [if_neg hij]
theorem fin_add {a : List EntS} {L : List (List EntS)} {e : EntS} (h : minL L = some e) (hno : ∀ l ∈ L, ∀ x t, l = x :: t → a.getLast? ≠ some x) : finL (a ++ [e]) L = finL a L := by
  have h1 : a.getLast? ≠ some e := by
    obtain ⟨l, hl, t, ht⟩ := minL_mem h
    exact hno l hl e t ht
  unfold finL
  rw [left_self hno, mrg_some h]
  unfold addE leftL
  rw [if_neg h1, List.getLast?_append, List.getLast?_singleton]
  rfl
theorem fin_end {a : List EntS} {L : List (List EntS)} (h : minL L = none) : finL a L = a := by
  unfold finL
  rw [left_self (fun l hl x t ht => by have := minL_none.1 h l hl; rw [this] at ht; cases ht), mrg_none h]
theorem fin_length (a : List EntS) (L : List (List EntS)) : a.length ≤ (finL a L).length := mrg_length _ _
theorem tot_set : ∀ {L : List (List EntS)} {i : Nat} {e : EntS} {t : List EntS}, L[i]? = some (e :: t) → totL (L.set i t) + 1 = totL L
  | [], i, e, t, h => by simp at h
  | l :: L, 0, e, t, h => by
    obtain rfl : l = e :: t := by simpa using h
    rw [List.set_cons_zero, totL_cons, totL_cons, List.length_cons]
    omega
  | l :: L, i + 1, e, t, h => by
    have := tot_set (L := L) (i := i) (e := e) (t := t) (by simpa using h)
    rw [List.set_cons_succ, totL_cons, totL_cons]
    omega
/-- So many rounds at most are to come. -/
def Goes (k : Nat) (a : List EntS) (L : List (List EntS)) : Prop := 2 * totL L + 1 ≤ k ∨ (2 * totL L ≤ k ∧ ∃ l ∈ L, ∃ e t, l = e :: t ∧ a.getLast? = some e)
theorem goes_start (L : List (List EntS)) : Goes (2 * totL L + 1) [] L := Or.inl (Nat.le_refl _)
theorem goes_drop {k : Nat} {a : List EntS} {L : List (List EntS)} {i : Nat} {e : EntS} {t : List EntS} (hk : Goes k a L) (h : L[i]? = some (e :: t)) : 0 < k ∧ Goes (k - 1) a (L.set i t) := by
  have h1 := tot_set h
  have h2 : 2 * totL L ≤ k := by rcases hk with h | h; omega; exact h.1
  exact ⟨by omega, Or.inl (by omega)⟩
theorem goes_add {k : Nat} {a : List EntS} {L : List (List EntS)} {e : EntS} (hk : Goes k a L) (h : minL L = some e) (hno : ∀ l ∈ L, ∀ x t, l = x :: t → a.getLast? ≠ some x) : 0 < k ∧ Goes (k - 1) (a ++ [e]) L := by
  have h2 : 2 * totL L + 1 ≤ k := by
    rcases hk with h | ⟨_, l, hl, e', t, ht, he⟩
    · exact h
    · exact absurd he (hno l hl e' t ht)
  obtain ⟨l, hl, t, ht⟩ := minL_mem h
  exact ⟨by omega, Or.inr ⟨by omega, l, hl, e, t, ht, by rw [List.getLast?_append, List.getLast?_singleton]; rfl⟩⟩

/-- What is told: just the lists' entries. -/
theorem mem_addE {a : List EntS} {e x : EntS} : x ∈ addE a e ↔ x ∈ a ∨ x = e := by
  unfold addE
  split
  · rename_i h
    constructor
    · exact Or.inl
    · rintro (h' | rfl)
      · exact h'
      · exact List.mem_of_getLast? h
  · simp
theorem mem_strip {e x : EntS} {l : List EntS} (h : x ∈ stripE e l) : x ∈ l := (List.dropWhile_sublist _).subset h
theorem mem_strip_or (e : EntS) {x : EntS} : ∀ {l : List EntS}, x ∈ l → x = e ∨ x ∈ stripE e l
  | [], h => by cases h
  | y :: l, h => by
    by_cases hy : y = e
    · subst hy
      rw [strip_cons]
      rcases List.mem_cons.1 h with rfl | h
      · exact Or.inl rfl
      · exact mem_strip_or y h
    · rw [strip_other hy]
      exact Or.inr h
theorem mrgF_mem : ∀ (n : Nat) (a : List EntS) (L : List (List EntS)) (x : EntS), totL L ≤ n → (x ∈ mrgF n a L ↔ x ∈ a ∨ ∃ l ∈ L, x ∈ l)
  | 0, a, L, x, h => by
    have := minL_none.1 (tot_zero (L := L) (by omega))
    rw [mrgF]
    constructor
    · exact Or.inl
    · rintro (h | ⟨l, hl, hx⟩)
      · exact h
      · rw [this l hl] at hx; cases hx
  | n + 1, a, L, x, h => by
    rw [mrgF]
    cases c : minL L with
    | none =>
      have := minL_none.1 c
      constructor
      · exact Or.inl
      · rintro (h | ⟨l, hl, hx⟩)
        · exact h
        · rw [this l hl] at hx; cases hx
    | some e =>
      have h1 := tot_lt e L (minL_mem c)
      show x ∈ mrgF n (addE a e) (L.map (stripE e)) ↔ _
      rw [mrgF_mem n (addE a e) (L.map (stripE e)) x (by omega), mem_addE]
      constructor
      · rintro ((h | rfl) | ⟨l, hl, hx⟩)
        · exact Or.inl h
        · obtain ⟨l, hl, t, rfl⟩ := minL_mem c
          exact Or.inr ⟨_, hl, List.mem_cons_self⟩
        · obtain ⟨m, hm, rfl⟩ := List.mem_map.1 hl
          exact Or.inr ⟨m, hm, mem_strip hx⟩
      · rintro (h | ⟨l, hl, hx⟩)
        · exact Or.inl (Or.inl h)
        · rcases mem_strip_or e hx with h | h
          · exact Or.inl (Or.inr h)
          · exact Or.inr ⟨_, List.mem_map_of_mem hl, h⟩
theorem merge_mem {L : List (List EntS)} {x : EntS} : x ∈ mergeE L ↔ ∃ l ∈ L, x ∈ l := by
  unfold mergeE mrg
  rw [mrgF_mem _ _ _ _ (Nat.le_refl _)]
  simp
theorem rise_snoc {a : List EntS} {e : EntS} (ha : RiseE a) (h : ∀ x ∈ a, lessE x e = true) : RiseE (a ++ [e]) :=
  List.pairwise_append.2 ⟨ha, List.pairwise_singleton _ _, fun x hx y hy => by rw [List.mem_singleton.1 hy]; exact h x hx⟩
theorem strip_above {e : EntS} {l : List EntS} (hr : RiseE l) (hle : ∀ x t, l = x :: t → lessE x e = false) : ∀ y ∈ stripE e l, lessE e y = true := by
  cases l with
  | nil => intro y hy; cases hy
  | cons x t =>
    obtain ⟨h1, h2⟩ := List.pairwise_cons.1 hr
    by_cases hx : x = e
    · subst hx
      rw [strip_cons]
      intro y hy
      exact h1 y (mem_strip hy)
    · rw [strip_other hx]
      have := lessE_other (hle x t rfl) hx
      intro y hy
      rcases List.mem_cons.1 hy with rfl | hy
      · exact this
      · exact lessE_trans this (h1 y hy)
theorem mrgF_rise : ∀ (n : Nat) (a : List EntS) (L : List (List EntS)), RiseE a → (∀ l ∈ L, RiseE l) → (∀ x ∈ a, ∀ l ∈ L, ∀ y ∈ l, lessE x y = true) → RiseE (mrgF n a L)
  | 0, a, L, h, _, _ => h
  | n + 1, a, L, ha, hL, hal => by
    rw [mrgF]
    cases c : minL L with
    | none => exact ha
    | some e =>
      obtain ⟨l, hl, t, ht⟩ := minL_mem c
      have he : e ∈ l := by rw [ht]; exact List.mem_cons_self
      have hae : addE a e = a ++ [e] := by
        unfold addE
        rw [if_neg]
        intro h
        have := hal e (List.mem_of_getLast? h) l hl e he
        rw [lessE_irrefl] at this
        cases this
      show RiseE (mrgF n (addE a e) (L.map (stripE e)))
      rw [hae]
      refine mrgF_rise n _ _ (rise_snoc ha fun x hx => hal x hx l hl e he) (fun m hm => ?_) (fun x hx m hm y hy => ?_)
      · obtain ⟨k, hk, rfl⟩ := List.mem_map.1 hm
        exact List.Pairwise.sublist (List.dropWhile_sublist _) (hL k hk)
      · obtain ⟨k, hk, rfl⟩ := List.mem_map.1 hm
        rcases List.mem_append.1 hx with hx | hx
        · exact hal x hx k hk y (mem_strip hy)
        · rw [List.mem_singleton.1 hx]
          exact strip_above (hL k hk) (fun z u hz => minL_le c k hk z u hz) y hy
theorem merge_rise {L : List (List EntS)} (h : ∀ l ∈ L, RiseE l) : RiseE (mergeE L) := mrgF_rise _ _ _ List.Pairwise.nil h (fun x hx => by cases hx)
theorem merge_same {L M : List (List EntS)} (hL : ∀ l ∈ L, RiseE l) (hM : ∀ l ∈ M, RiseE l) (h : ∀ x, (∃ l ∈ L, x ∈ l) ↔ ∃ l ∈ M, x ∈ l) : mergeE L = mergeE M :=
  rise_ext (merge_rise hL) (merge_rise hM) fun x => by rw [merge_mem, merge_mem, h]

/-- Of a list those entries that rise. -/
def riseStep (a : List EntS) (x : EntS) : List EntS := match a.getLast? with
  | none => a ++ [x]
  | some y => if lessE y x = true then a ++ [x] else a
def riseL (l : List EntS) : List EntS := l.foldl riseStep []
theorem rise_take {l : List EntS} {k : Nat} {x : EntS} (h : l[k]? = some x) : riseL (l.take (k + 1)) = riseStep (riseL (l.take k)) x := by
  unfold riseL
  rw [List.take_add_one, h, List.foldl_append]
  rfl
theorem rise_step {a : List EntS} (ha : RiseE a) (x : EntS) : RiseE (riseStep a x) := by
  unfold riseStep
  cases h : a.getLast? with
  | none =>
    rw [List.getLast?_eq_none_iff.1 h]
    exact List.pairwise_singleton _ _
  | some y =>
    show RiseE (if lessE y x = true then a ++ [x] else a)
    split
    · rename_i hyx
      refine rise_snoc ha fun z hz => ?_
      obtain ⟨b, rfl⟩ := List.getLast?_eq_some_iff.1 h
      rcases List.mem_append.1 hz with hz | hz
      · exact lessE_trans ((List.pairwise_append.1 ha).2.2 z hz y (List.mem_singleton.2 rfl)) hyx
      · rw [List.mem_singleton.1 hz]; exact hyx
    · exact ha
theorem riseF_all : ∀ (l a : List EntS), RiseE a → RiseE (l.foldl riseStep a) ∧ (l.foldl riseStep a).length ≤ a.length + l.length ∧ ∀ x ∈ l.foldl riseStep a, x ∈ a ∨ x ∈ l
  | [], a, h => ⟨h, Nat.le_refl _, fun x hx => Or.inl hx⟩
  | y :: l, a, h => by
    obtain ⟨h1, h2, h3⟩ := riseF_all l (riseStep a y) (rise_step h y)
    have hs : riseStep a y = a ++ [y] ∨ riseStep a y = a := by
      unfold riseStep
      cases a.getLast? with
      | none => exact Or.inl rfl
      | some z =>
        by_cases c : lessE z y = true
        · exact Or.inl (if_pos c)
        · exact Or.inr (if_neg c)
    refine ⟨h1, ?_, fun x hx => ?_⟩
    · rw [List.foldl_cons, List.length_cons]
      rcases hs with e | e
      · rw [e, List.length_append, List.length_singleton] at h2
        rw [e]
        omega
      · rw [e] at h2 ⊢
        omega
    · rcases h3 x hx with h | h
      · rcases hs with e | e
        · rw [e] at h
          rcases List.mem_append.1 h with h | h
          · exact Or.inl h
          · rw [List.mem_singleton.1 h]
            exact Or.inr List.mem_cons_self
        · rw [e] at h
          exact Or.inl h
      · exact Or.inr (List.mem_cons_of_mem _ h)
theorem riseL_rise (l : List EntS) : RiseE (riseL l) := (riseF_all l [] List.Pairwise.nil).1
theorem riseL_length (l : List EntS) : (riseL l).length ≤ l.length := by
  have := (riseF_all l [] List.Pairwise.nil).2.1
  rw [List.length_nil, Nat.zero_add] at this
  exact this
theorem riseL_mem {l : List EntS} : ∀ x ∈ riseL l, x ∈ l := fun x hx => by
  rcases (riseF_all l [] List.Pairwise.nil).2.2 x hx with h | h
  · cases h
  · exact h
theorem tot_all {L : List (List EntS)} {b : Nat} (h : ∀ l ∈ L, l.length ≤ b) : totL L ≤ L.length * b := by
  induction L with
  | nil => exact Nat.zero_le _
  | cons l L ih =>
    rw [totL_cons, List.length_cons, Nat.add_mul, Nat.one_mul]
    have := h l List.mem_cons_self
    have := ih fun m hm => h m (List.mem_cons_of_mem _ hm)
    omega
end Go.Proofs.Ytmdoafmgakmjkaa
