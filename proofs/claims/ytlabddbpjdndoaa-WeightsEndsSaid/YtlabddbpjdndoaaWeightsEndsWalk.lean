/- The walk of annalistlaw04.WeightsEnds. -/
import Derived.Test.YtlabddbpjdndoaaWeighed
import Derived.Test.YtlabddbpjdndoaaU64s
import Derived.Deep.RegionHeld3
import Derived.Deep.AppendLies
namespace Go.Proofs.Ytlabddbpjdndoaa.weightsEndsW
open Go.RowKit
set_option linter.unusedVariables false

/-- The ends are there, and nothing is beyond them. -/
theorem least_fold : ∀ (l : List Nat) (a : Nat), (l.foldl lessF a = a ∨ l.foldl lessF a ∈ l) ∧ keyS (l.foldl lessF a) ≤ keyS a ∧ ∀ x ∈ l, keyS (l.foldl lessF a) ≤ keyS x := by
  intro l
  induction l with
  | nil => intro a; exact ⟨Or.inl rfl, Nat.le_refl _, fun x hx => by cases hx⟩
  | cons y l ih =>
    intro a
    have e : (y :: l).foldl lessF a = l.foldl lessF (lessF a y) := rfl
    rw [e]
    obtain ⟨h1, h2, h3⟩ := ih (lessF a y)
    have hs : lessF a y = a ∨ lessF a y = y := by unfold lessF; split <;> simp
    have hk : keyS (lessF a y) ≤ keyS a ∧ keyS (lessF a y) ≤ keyS y := by unfold lessF; split <;> omega
    refine ⟨?_, by omega, fun x hx => ?_⟩
    · rcases h1 with h1 | h1
      · rcases hs with hs | hs
        · exact Or.inl (h1.trans hs)
        · exact Or.inr (by rw [h1, hs]; simp)
      · exact Or.inr (by simp [h1])
    · rcases List.mem_cons.1 hx with hx | hx
      · subst hx; omega
      · exact h3 x hx
theorem most_fold : ∀ (l : List Nat) (a : Nat), (l.foldl moreF a = a ∨ l.foldl moreF a ∈ l) ∧ keyS a ≤ keyS (l.foldl moreF a) ∧ ∀ x ∈ l, keyS x ≤ keyS (l.foldl moreF a) := by
  intro l
  induction l with
  | nil => intro a; exact ⟨Or.inl rfl, Nat.le_refl _, fun x hx => by cases hx⟩
  | cons y l ih =>
    intro a
    have e : (y :: l).foldl moreF a = l.foldl moreF (moreF a y) := rfl
    rw [e]
    obtain ⟨h1, h2, h3⟩ := ih (moreF a y)
    have hs : moreF a y = a ∨ moreF a y = y := by unfold moreF; split <;> simp
    have hk : keyS a ≤ keyS (moreF a y) ∧ keyS y ≤ keyS (moreF a y) := by unfold moreF; split <;> omega
    refine ⟨?_, by omega, fun x hx => ?_⟩
    · rcases h1 with h1 | h1
      · rcases hs with hs | hs
        · exact Or.inl (h1.trans hs)
        · exact Or.inr (by rw [h1, hs]; simp)
      · exact Or.inr (by simp [h1])
    · rcases List.mem_cons.1 hx with hx | hx
      · subst hx; omega
      · exact h3 x hx
theorem least_spec {l : List Nat} (h : l ≠ []) : leastL l ∈ l ∧ ∀ x ∈ l, keyS (leastL l) ≤ keyS x := by
  unfold leastL leastK
  rw [List.take_length]
  obtain ⟨h1, _, h3⟩ := least_fold l (l.getD 0 0)
  refine ⟨?_, h3⟩
  rcases h1 with h1 | h1
  · rw [h1, List.getD_eq_getElem?_getD, List.getElem?_eq_getElem (List.length_pos_iff.2 h)]
    exact List.getElem_mem _
  · exact h1
theorem most_spec {l : List Nat} (h : l ≠ []) : mostL l ∈ l ∧ ∀ x ∈ l, keyS x ≤ keyS (mostL l) := by
  unfold mostL mostK
  rw [List.take_length]
  obtain ⟨h1, _, h3⟩ := most_fold l (l.getD 0 0)
  refine ⟨?_, h3⟩
  rcases h1 with h1 | h1
  · rw [h1, List.getD_eq_getElem?_getD, List.getElem?_eq_getElem (List.length_pos_iff.2 h)]
    exact List.getElem_mem _
  · exact h1
theorem turned_mem (l : List Nat) (k x : Nat) : x ∈ l.drop k ++ l.take k ↔ x ∈ l := by
  have e := List.take_append_drop k l
  constructor
  · intro h
    rw [← e]
    rcases List.mem_append.1 h with h | h
    · exact List.mem_append.2 (Or.inr h)
    · exact List.mem_append.2 (Or.inl h)
  · intro h
    rw [← e] at h
    rcases List.mem_append.1 h with h | h
    · exact List.mem_append.2 (Or.inr h)
    · exact List.mem_append.2 (Or.inl h)
theorem turned_words {l : List Nat} (hw : Words l) (k : Nat) : Words (l.drop k ++ l.take k) := fun x hx => hw x ((turned_mem l k x).1 hx)
theorem turned_ends {l : List Nat} (hw : Words l) (h : l ≠ []) (k : Nat) : leastL (l.drop k ++ l.take k) = leastL l ∧ mostL (l.drop k ++ l.take k) = mostL l := by
  have h2 : l.drop k ++ l.take k ≠ [] := by
    intro e
    obtain ⟨h1, _⟩ := least_spec h
    have := (turned_mem l k _).2 h1
    rw [e] at this
    cases this
  obtain ⟨a1, a2⟩ := least_spec h
  obtain ⟨b1, b2⟩ := least_spec h2
  obtain ⟨c1, c2⟩ := most_spec h
  obtain ⟨d1, d2⟩ := most_spec h2
  refine ⟨key_inj (hw _ ((turned_mem l k _).1 b1)) (hw _ a1) (Nat.le_antisymm (b2 _ ((turned_mem l k _).2 a1)) (a2 _ ((turned_mem l k _).1 b1))), key_inj (hw _ ((turned_mem l k _).1 d1)) (hw _ c1) (Nat.le_antisymm (c2 _ ((turned_mem l k _).1 d1)) (d2 _ ((turned_mem l k _).2 c1)))⟩

theorem other (v : Value) (l : List Nat) (y : Nat) (w : World) (h : RowOf u64V w v l) (hl : l.length = 0 ∨ 60 < l.length) :
    Calls Try.prog 8 #[v, .int .u8 (y : Nat)] w fun e w' => e = .returned (.bool true) ∧ Below w.heap.size w w' := by
  rcases h with ⟨rfl, a, cap, rfl⟩ | ⟨h0, b, off, cap, rfl, hcap, hb, hc⟩
  · go_enter Try.func8, Try.ntmps8
    go_wp2_with fail
    refine (weighed_true _).mono ?_
    rintro e w' ⟨rfl, hb⟩
    go_wp2
    go_ret
    exact ⟨rfl, hb⟩
  · have t0 : ((l.length : Int) == 0) = false := beq_eq_false_iff_ne.2 (by omega)
    have t1 : decide ((60 : Int) < (l.length : Int)) = true := decide_eq_true (by omega)
    clear hc
    go_enter Try.func8, Try.ntmps8
    go_wp2_with fail
    refine (weighed_true _).mono ?_
    rintro e w' ⟨rfl, hb⟩
    go_wp2
    go_ret
    exact ⟨rfl, ‹Below _ _ _›⟩

theorem owns_le {w : World} {base base' : Nat} {e : TypeId} {v : Value} {n : Nat} {xs : List Value} (h : w.ownsRow base e 1 v n xs) (hb : base' ≤ base) : w.ownsRow base' e 1 v n xs :=
  ⟨h.1, h.2.elim Or.inl (fun ⟨g, cap, cur, hv, hg, r⟩ => Or.inr ⟨g, cap, cur, hv, Nat.le_trans hb hg, r⟩)⟩
theorem owns_cap {w : World} {base : Nat} {e : TypeId} {a : Addr} {n cap : Nat} {xs : List Value} (h : w.ownsRow base e 1 (.slice (some a) n cap) n xs) : n ≤ cap := by
  rcases h.2 with ⟨hv, _⟩ | ⟨g, cap', cur, hv, hg, hh, hn, r⟩
  · cases hv
  · cases hv; exact hn
theorem owns_news {w : World} {base : Nat} {e : TypeId} {g n cap : Nat} {xs : List Value} (h : w.ownsRow base e 1 (.slice (some ⟨g, 0, none⟩) n cap) n xs) : ∀ (j : Nat) (u : Value), xs[j]? = some u → w.cell? ((⟨g, 0, none⟩ : Addr).add j) = some u := by
  intro j u hj
  have hlt : j < n * 1 := by
    have := (List.getElem?_eq_some_iff.1 hj).1
    rw [h.1] at this
    exact this
  have e : (⟨g, 0, none⟩ : Addr).add j = ⟨g, j, none⟩ := by simp [Addr.add]; omega
  rw [e, h.cellAt j hlt, hj]
theorem one_cells (l : List Nat) : ∀ u ∈ l.map f64V, u.oneCell' = true := by
  intro u hu
  obtain ⟨x, _, rfl⟩ := List.mem_map.1 hu
  rfl

theorem any_next (p : Nat → Bool) (l : List Nat) (k : Nat) (h : k < l.length) : (l.take (k + 1)).any p = ((l.take k).any p || p (l.getD k 0)) := by
  rw [take_next l k h, List.any_append]
  simp
theorem val_bool {a b : Bool} (h : a = b) : Value.bool a = .bool b := by rw [h]
theorem getD_mem (l : List Nat) (k : Nat) (h : k < l.length) : l.getD k 0 ∈ l := by
  rw [List.getD_eq_getElem?_getD, List.getElem?_eq_getElem h]
  exact List.getElem_mem h

theorem tmod_nat (a n : Nat) : (a : Int) % (n : Int) = ((a % n : Nat) : Int) := rfl

set_option maxHeartbeats 4000000 in
theorem short (v : Value) (l : List Nat) (y : Nat) (w : World) (h : RowOf u64V w v l) (hl : l.length ≤ 60) (hw : Words l) (h0 : 0 < l.length) (hy : y < 256) :
    Calls Try.prog 8 #[v, .int .u8 (y : Nat)] w fun e w' => e = .returned (.bool true) ∧ Below w.heap.size w w' := by
  have hne : l ≠ [] := List.length_pos_iff.1 h0
  have hfl := Lib.hid (fun w' (hb : Below w.heap.size w w') => floats_any v l w' (h.below hb (Nat.le_refl _)) (by omega))
  have he := Lib.hid (fun u w' (hu : RowOf f64V w' u l) => ends_any u l w' hu (by omega) hw)
  simp only [if_neg hne] at he
  rcases h with ⟨rfl, _⟩ | ⟨_, b, off, cap, rfl, hcap, hb0, hc⟩
  · cases h0
  have hk0 := tmod_nat y l.length
  have hk := Nat.mod_lt y h0
  generalize y % l.length = k at *
  have hA := Lib.hid (fun w' (hb : Below w.heap.size w w') => floats_any (.slice (some ⟨b, off + k, none⟩) (l.length - k) (cap - k)) (l.drop k) w' ((RowOf.drop (mk := u64V) hcap hb0 hc k hk (cap - k) (by omega)).below hb (Nat.le_refl _)) (by rw [List.length_drop]; omega))
  have hB := Lib.hid (fun w' (hb : Below w.heap.size w w') => floats_any (.slice (some ⟨b, off, none⟩) k cap) (l.take k) w' ((RowOf.take (mk := u64V) hcap hb0 hc k hk cap (by omega)).below hb (Nat.le_refl _)) (by rw [List.length_take]; omega))
  have t0 : ((l.length : Int) == 0) = false := beq_eq_false_iff_ne.2 (by omega)
  have t1 : decide ((60 : Int) < (l.length : Int)) = false := decide_eq_false (by omega)
  have HC := Lib.hid hc
  clear hc
  go_enter Try.func8, Try.ntmps8
  go_wp2_with fail
  refine (hfl.out _ (Below.refl _ _)).mono ?_
  rintro e w1 ⟨u, rfl, hown, hb1, -⟩
  have hrow := RowOf.of_owns f64V hown
  clear hown
  go_wp2_with fail
  refine (he.out u w1 hrow).mono ?_
  rintro e w2 ⟨rfl, hb2⟩
  have hb := hb1.trans (hb2.mono hb1.size)
  clear hb1 hb2 hrow
  go_wp2_with fail
  rw [hk0]
  clear hk0 t0 t1
  have i1 : (0 : Int) ≤ (k : Int) := by omega
  have i2 : (k : Int) ≤ (l.length : Int) := by omega
  have i3 : (l.length : Int) ≤ (cap : Int) := by omega
  have i4 : (k : Int) ≤ (cap : Int) := by omega
  have i5 : ¬ cap = k := by omega
  obtain ⟨i0, hi, hz0, hz1, hz2⟩ := info_parts info_f64
  have heT := fun u w' (hu : RowOf f64V w' u (l.drop k ++ l.take k)) => ends_any u (l.drop k ++ l.take k) w' hu (by rw [List.length_append, List.length_drop, List.length_take]; omega) (turned_words hw k)
  have hne2 : l.drop k ++ l.take k ≠ [] := by
    intro e
    have := congrArg List.length e
    rw [List.length_append, List.length_drop, List.length_take] at this
    simp at this
    omega
  rw [if_neg hne2, (turned_ends hw hne k).1, (turned_ends hw hne k).2] at heT
  have HL := Lib.hid (least_spec hne).2
  have HM := Lib.hid (most_spec hne).2
  have HO := Lib.hid (show l.any (fun x => decide (x = leastL l)) = true from List.any_eq_true.2 ⟨_, (least_spec hne).1, decide_eq_true rfl⟩)
  have HT2 := Lib.hid (show l.any (fun x => decide (x = mostL l)) = true from List.any_eq_true.2 ⟨_, (most_spec hne).1, decide_eq_true rfl⟩)
  have Hs := Lib.hid (hw _ (least_spec hne).1)
  have Ht := Lib.hid (hw _ (most_spec hne).1)
  generalize leastL l = s at *
  generalize mostL l = t at *
  have hf := fun (b : Nat) w => frombits_run b w
  have HT := Lib.hid heT
  have Hne := Lib.hid hne
  have Hw := Lib.hid hw
  clear heT hne2 hne hw
  have lA : (l.drop k).length = l.length - k := List.length_drop
  have lB : (l.take k).length = k := by rw [List.length_take]; omega
  have HlA := Lib.hid lA
  have HlB := Lib.hid lB
  clear lA lB
  by_cases hk1 : 0 < k
  · go_region_held3 (fun w' => Below w.heap.size w w') (first | assumption | exact (‹Below w.heap.size w _›).drew) (first
      | (go_at_call_of 20 (Value.slice (some ⟨b, off + k, none⟩) (l.length - k) (cap - k)); refine (hA.out _ (by assumption)).mono ?_; rintro e wA ⟨uA, rfl, ownA, bA, -⟩; have sA := (‹Below w.heap.size w _›).trans (bA.mono (‹Below w.heap.size w _›).size); have oA := owns_le ownA (‹Below w.heap.size w _›).size)
      | (go_at_call_of 20 (Value.slice (some ⟨b, off, none⟩) k cap); refine (hB.out _ (by assumption)).mono ?_; rintro e wB ⟨uB, rfl, ownB, bB, -⟩; have sB := (‹Below w.heap.size w _›).trans (bB.mono (‹Below w.heap.size w _›).size); have oA2 := owns_below oA bB (Nat.le_refl _))
      | (go_at_call_of 21 (Value.slice (some ⟨g, 0, none⟩) l.length capC); refine (HT.out _ _ rowC).mono ?_; rintro e wD ⟨rfl, bD⟩; have sD := sC.trans (bD.mono sC.size))
      | ((with_reducible show ite _ _ _); revert sB; intro sB; (fail_if_success (revert sC; intro sC)); obtain ⟨gB, cB, rfl, _, _⟩ := ownB.form (by rw [HlB.out]; exact hk1); have nB := owns_news ownB; rw [HlA.out] at oA2; rw [HlB.out]; refine step_append_lies _ (by rfl) (.tmp 41) (.tmp 45) 31 (by rfl) w.heap.size 23 i0 (.float .f64 0) 1 8 Try.underlying31 hi hz0 hz1 hz2 rfl (by decide) uA (l.length - k) ((l.drop k).map f64V) (by rfl) oA2 ⟨gB, 0, none⟩ k cB ((l.take k).map f64V) (by rfl) (by rw [List.length_map, HlB.out, Nat.mul_one]) nB (one_cells _) hk1 (by unfold maxLen; omega) (by omega) sB.size wB.heap.size (by rfl) ?_; intro g capC wC ownC growC _ _; have sC := sB.grown growC sB.size (owns_block oA2); rw [show l.length - k + k = l.length by omega] at ownC; have rowC : RowOf f64V wC (.slice (some ⟨g, 0, none⟩) l.length capC) (l.drop k ++ l.take k) := RowOf.of_owns f64V (by rw [List.length_append, List.map_append, HlA.out, HlB.out, show l.length - k + k = l.length by omega]; exact ownC); (try rw [show l.length - k + k = l.length by omega]))
      | fail)
    go_wp2
    go_loop [12, 13, 14] (fun o p i => ∃ m : Nat, m ≤ l.length ∧ i = .int .i64 m ∧ o = .bool ((l.take m).any (fun x => decide (x = s))) ∧ p = .bool ((l.take m).any (fun x => decide (x = t)))) (fun _ _ i => l.length - (intOf i).toNat)
    case atStart => exact ⟨0, Nat.zero_le _, rfl, rfl, rfl⟩
    case round =>
      obtain ⟨m, hm, rfl, rfl, rfl⟩ := hrel
      by_cases hlt : m < l.length
      · have c1 : wD.cell? ⟨b, off + m, none⟩ = some (.int .u64 (l.getD m 0 : Nat)) := (sD.cell (p := ⟨b, off + m, none⟩) hb0).trans (HC.out m hlt)
        have n1 := Lib.hid (any_next (fun x => decide (x = s)) l m hlt)
        have n2 := Lib.hid (any_next (fun x => decide (x = t)) l m hlt)
        have hmem := getD_mem l m hlt
        have wx := words_at Hw.out m
        have q1 := HL.out _ hmem
        have q2 := HM.out _ hmem
        clear hmem
        generalize l.getD m 0 = x at *
        have k1 := fun w => less_any x s w wx Hs.out
        have k2 := fun w => less_any t x w Ht.out wx
        have k3 := Lib.hid (fun w => same_any x s w wx Hs.out)
        have k4 := Lib.hid (fun w => same_any x t w wx Ht.out)
        rw [decide_eq_false (by omega)] at k1 k2
        have K1 := Lib.hid k1
        have K2 := Lib.hid k2
        clear k1 k2 q1 q2 wx
        have s1 : (m : Int) < (l.length : Int) := by omega
        generalize (l.take m).any (fun x => decide (x = s)) = O at *
        generalize (l.take m).any (fun x => decide (x = t)) = T at *
        generalize decide (x = s) = d1 at *
        generalize decide (x = t) = d2 at *
        cases O <;> cases T
        · go_wp2_with fail
          refine (K1.out _).mono ?_
          rintro e w' ⟨rfl, rfl⟩
          go_wp2_with fail
          refine (K2.out _).mono ?_
          rintro e w' ⟨rfl, rfl⟩
          go_wp2_with fail
          refine (k3.out _).mono ?_
          rintro e w' ⟨rfl, rfl⟩
          go_wp2_with fail
          refine (k4.out _).mono ?_
          rintro e w' ⟨rfl, rfl⟩
          go_wp2
          go_round
          case rel => exact ⟨m + 1, by omega, by go_num, val_bool (by rw [n1.out]; rfl), val_bool (by rw [n2.out]; rfl)⟩
          case measure => simp [intOf]; omega
        · go_wp2_with fail
          refine (K1.out _).mono ?_
          rintro e w' ⟨rfl, rfl⟩
          go_wp2_with fail
          refine (K2.out _).mono ?_
          rintro e w' ⟨rfl, rfl⟩
          go_wp2_with fail
          refine (k3.out _).mono ?_
          rintro e w' ⟨rfl, rfl⟩
          go_wp2
          go_round
          case rel => exact ⟨m + 1, by omega, by go_num, val_bool (by rw [n1.out]; rfl), val_bool (by rw [n2.out]; rfl)⟩
          case measure => simp [intOf]; omega
        · go_wp2_with fail
          refine (K1.out _).mono ?_
          rintro e w' ⟨rfl, rfl⟩
          go_wp2_with fail
          refine (K2.out _).mono ?_
          rintro e w' ⟨rfl, rfl⟩
          go_wp2_with fail
          refine (k4.out _).mono ?_
          rintro e w' ⟨rfl, rfl⟩
          go_wp2
          go_round
          case rel => exact ⟨m + 1, by omega, by go_num, val_bool (by rw [n1.out]; rfl), val_bool (by rw [n2.out]; rfl)⟩
          case measure => simp [intOf]; omega
        · go_wp2_with fail
          refine (K1.out _).mono ?_
          rintro e w' ⟨rfl, rfl⟩
          go_wp2_with fail
          refine (K2.out _).mono ?_
          rintro e w' ⟨rfl, rfl⟩
          go_wp2
          go_round
          case rel => exact ⟨m + 1, by omega, by go_num, val_bool (by rw [n1.out]; rfl), val_bool (by rw [n2.out]; rfl)⟩
          case measure => simp [intOf]; omega
      · obtain rfl : m = l.length := by omega
        have s1 : ¬ (l.length : Int) < (l.length : Int) := by omega
        rw [List.take_length, HO.out, HT2.out]
        have k3 := Lib.hid (fun w => same_any s s w Hs.out Hs.out)
        have k4 := Lib.hid (fun w => same_any t t w Ht.out Ht.out)
        rw [decide_eq_true rfl] at k3 k4
        go_wp2_with fail
        refine (k3.out _).mono ?_
        rintro e w' ⟨rfl, rfl⟩
        go_wp2_with fail
        refine (k4.out _).mono ?_
        rintro e w' ⟨rfl, rfl⟩
        go_wp2_with fail
        refine (weighed_true _).mono ?_
        rintro e w' ⟨rfl, hbz⟩
        go_wp2
        go_ret
        exact ⟨rfl, sD.trans (hbz.mono sD.size)⟩
  · obtain rfl : k = 0 := by omega
    have h00 := Lib.hid (fun w' => floats_any (.slice (some ⟨b, off, none⟩) 0 cap) [] w' (Or.inl ⟨rfl, _, _, rfl⟩) (by decide))
    go_region_held3 (fun w' => Below w.heap.size w w') (first | assumption | exact (‹Below w.heap.size w _›).drew) (first
      | (go_at_call_of 20 (Value.slice (some ⟨b, off, none⟩) l.length cap); refine (hfl.out _ (by assumption)).mono ?_; rintro e wA ⟨uA, rfl, ownA, bA, -⟩; have sA := (‹Below w.heap.size w _›).trans (bA.mono (‹Below w.heap.size w _›).size); obtain ⟨gA, cA, rfl, _, _⟩ := ownA.form h0; have capA := owns_cap ownA; have capI : (l.length : Int) ≤ (cA : Int) := (by omega); have rowA := RowOf.of_owns f64V ownA)
      | (go_at_call_of 20 (Value.slice (some ⟨b, off, none⟩) 0 cap); refine (h00.out _).mono ?_; rintro e wB ⟨uB, rfl, -, bB, hnil⟩; obtain rfl := hnil (by first | exact trivial | rfl); have sB := (‹Below w.heap.size w _›).trans (bB.mono (‹Below w.heap.size w _›).size); have rowB := rowA.below bB (Nat.le_refl _))
      | (go_at_call 21; refine (he.out _ _ rowB).mono ?_; rintro e wD ⟨rfl, bD⟩; have sD := sB.trans (bD.mono sB.size))
      | fail)
    go_wp2
    go_loop [12, 13, 14] (fun o p i => ∃ m : Nat, m ≤ l.length ∧ i = .int .i64 m ∧ o = .bool ((l.take m).any (fun x => decide (x = s))) ∧ p = .bool ((l.take m).any (fun x => decide (x = t)))) (fun _ _ i => l.length - (intOf i).toNat)
    case atStart => exact ⟨0, Nat.zero_le _, rfl, rfl, rfl⟩
    case round =>
      obtain ⟨m, hm, rfl, rfl, rfl⟩ := hrel
      by_cases hlt : m < l.length
      · have c1 : wD.cell? ⟨b, off + m, none⟩ = some (.int .u64 (l.getD m 0 : Nat)) := (sD.cell (p := ⟨b, off + m, none⟩) hb0).trans (HC.out m hlt)
        have n1 := Lib.hid (any_next (fun x => decide (x = s)) l m hlt)
        have n2 := Lib.hid (any_next (fun x => decide (x = t)) l m hlt)
        have hmem := getD_mem l m hlt
        have wx := words_at Hw.out m
        have q1 := HL.out _ hmem
        have q2 := HM.out _ hmem
        clear hmem
        generalize l.getD m 0 = x at *
        have k1 := fun w => less_any x s w wx Hs.out
        have k2 := fun w => less_any t x w Ht.out wx
        have k3 := Lib.hid (fun w => same_any x s w wx Hs.out)
        have k4 := Lib.hid (fun w => same_any x t w wx Ht.out)
        rw [decide_eq_false (by omega)] at k1 k2
        have K1 := Lib.hid k1
        have K2 := Lib.hid k2
        clear k1 k2 q1 q2 wx
        have s1 : (m : Int) < (l.length : Int) := by omega
        generalize (l.take m).any (fun x => decide (x = s)) = O at *
        generalize (l.take m).any (fun x => decide (x = t)) = T at *
        generalize decide (x = s) = d1 at *
        generalize decide (x = t) = d2 at *
        cases O <;> cases T
        · go_wp2_with fail
          refine (K1.out _).mono ?_
          rintro e w' ⟨rfl, rfl⟩
          go_wp2_with fail
          refine (K2.out _).mono ?_
          rintro e w' ⟨rfl, rfl⟩
          go_wp2_with fail
          refine (k3.out _).mono ?_
          rintro e w' ⟨rfl, rfl⟩
          go_wp2_with fail
          refine (k4.out _).mono ?_
          rintro e w' ⟨rfl, rfl⟩
          go_wp2
          go_round
          case rel => exact ⟨m + 1, by omega, by go_num, val_bool (by rw [n1.out]; rfl), val_bool (by rw [n2.out]; rfl)⟩
          case measure => simp [intOf]; omega
        · go_wp2_with fail
          refine (K1.out _).mono ?_
          rintro e w' ⟨rfl, rfl⟩
          go_wp2_with fail
          refine (K2.out _).mono ?_
          rintro e w' ⟨rfl, rfl⟩
          go_wp2_with fail
          refine (k3.out _).mono ?_
          rintro e w' ⟨rfl, rfl⟩
          go_wp2
          go_round
          case rel => exact ⟨m + 1, by omega, by go_num, val_bool (by rw [n1.out]; rfl), val_bool (by rw [n2.out]; rfl)⟩
          case measure => simp [intOf]; omega
        · go_wp2_with fail
          refine (K1.out _).mono ?_
          rintro e w' ⟨rfl, rfl⟩
          go_wp2_with fail
          refine (K2.out _).mono ?_
          rintro e w' ⟨rfl, rfl⟩
          go_wp2_with fail
          refine (k4.out _).mono ?_
          rintro e w' ⟨rfl, rfl⟩
          go_wp2
          go_round
          case rel => exact ⟨m + 1, by omega, by go_num, val_bool (by rw [n1.out]; rfl), val_bool (by rw [n2.out]; rfl)⟩
          case measure => simp [intOf]; omega
        · go_wp2_with fail
          refine (K1.out _).mono ?_
          rintro e w' ⟨rfl, rfl⟩
          go_wp2_with fail
          refine (K2.out _).mono ?_
          rintro e w' ⟨rfl, rfl⟩
          go_wp2
          go_round
          case rel => exact ⟨m + 1, by omega, by go_num, val_bool (by rw [n1.out]; rfl), val_bool (by rw [n2.out]; rfl)⟩
          case measure => simp [intOf]; omega
      · obtain rfl : m = l.length := by omega
        have s1 : ¬ (l.length : Int) < (l.length : Int) := by omega
        rw [List.take_length, HO.out, HT2.out]
        have k3 := Lib.hid (fun w => same_any s s w Hs.out Hs.out)
        have k4 := Lib.hid (fun w => same_any t t w Ht.out Ht.out)
        rw [decide_eq_true rfl] at k3 k4
        go_wp2_with fail
        refine (k3.out _).mono ?_
        rintro e w' ⟨rfl, rfl⟩
        go_wp2_with fail
        refine (k4.out _).mono ?_
        rintro e w' ⟨rfl, rfl⟩
        go_wp2_with fail
        refine (weighed_true _).mono ?_
        rintro e w' ⟨rfl, hbz⟩
        go_wp2
        go_ret
        exact ⟨rfl, sD.trans (hbz.mono sD.size)⟩
theorem walk (w : World) (v : Value) (l : List Nat) (a1 : Int) (hl : RowOf u64V w v l) (wl : Words l) (w1 : (Lit.int .u8 a1).wf = true) :
    Calls Try.prog 8 #[v, .int .u8 a1] w fun e w' => e = .returned (.bool true) ∧ Below w.heap.size w w' := by
  obtain ⟨y, rfl, hy⟩ := u8_nat w1
  by_cases h : l.length = 0 ∨ 60 < l.length
  · exact other v l y w hl h
  · exact short v l y w hl (by omega) wl (by omega) hy
end Go.Proofs.Ytlabddbpjdndoaa.weightsEndsW
