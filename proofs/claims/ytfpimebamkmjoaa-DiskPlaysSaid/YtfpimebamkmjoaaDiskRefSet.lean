/- What is written to the document's disk: its cells; change. -/
import Derived.Test.YtfpimebamkmjoaaDiskRef
namespace Go.Proofs.Ytfpimebamkmjoaa
open Go.RowKit
set_option linter.unusedVariables false

theorem frow_set (x : FileS) (l : List FileS) (k j : Nat) (u : Value) : (fcells x ++ frow l).set ((k + 1) * 3 + j) u = fcells x ++ (frow l).set (k * 3 + j) u := by
  have hl : (fcells x).length = 3 := rfl
  rw [List.set_append, if_neg (by omega), hl, show (k + 1) * 3 + j - 3 = k * 3 + j by omega]
theorem frow_set1 (l : List FileS) (k : Nat) (f : FileS) (h : l[k]? = some f) (s : ByteArray) : (frow l).set (k * 3 + 1) (.string s) = frow (setF l k (fun f => { f with data := s })) := by
  induction l generalizing k with
  | nil => simp at h
  | cons x l ih =>
    cases k with
    | zero => rfl
    | succ k =>
      have e1 : frow (x :: l) = fcells x ++ frow l := rfl
      have e2 : frow (setF (x :: l) (k + 1) (fun f => { f with data := s })) = fcells x ++ frow (setF l k (fun f => { f with data := s })) := rfl
      rw [e1, e2, frow_set, ih k (by simpa using h)]
theorem frow_set2 (l : List FileS) (k : Nat) (f : FileS) (h : l[k]? = some f) (s : Nat) : (frow l).set (k * 3 + 2) (.int .i64 s) = frow (setF l k (fun f => { f with synced := s })) := by
  induction l generalizing k with
  | nil => simp at h
  | cons x l ih =>
    cases k with
    | zero => rfl
    | succ k =>
      have e1 : frow (x :: l) = fcells x ++ frow l := rfl
      have e2 : frow (setF (x :: l) (k + 1) (fun f => { f with synced := s })) = fcells x ++ frow (setF l k (fun f => { f with synced := s })) := rfl
      rw [e1, e2, frow_set, ih k (by simpa using h)]
theorem setF_length (l : List FileS) (k : Nat) (h : FileS → FileS) : (setF l k h).length = l.length := by unfold setF; simp

section
variable {w w' : World} {base g : Nat} {F G : List Nat} {D : DiskS}
theorem RefAt.far (h : RefAt w base g F D) {p : Addr} (hp : p.block ∉ F) (u : Value) : RefAt (w.setCell p u) base g F D :=
  h.touch (Touch.setCell (F := [p.block]) (Touch.refl _ w) (Or.inl (by simp)) u) (fun x hx hm => hp (by rw [← show x = p.block by simpa using hm]; exact hx))
theorem RefAt.putCount (h : RefAt w base g F D) (c : Nat) : RefAt (w.setCell ⟨g, 2, none⟩ (.int .i64 c)) base g F { D with count := c } := by
  obtain ⟨vL, vK, h1, h2, h3, h4, rfl⟩ := h
  exact ⟨vL, vK, h1.put 2 _, h2, own_far h3 (own_ne h3 h1 (by decide)) _, own_far h4 (own_ne h4 h1 (by decide)) _, rfl⟩
theorem RefAt.putDown (h : RefAt w base g F D) (c : Bool) : RefAt (w.setCell ⟨g, 3, none⟩ (.bool c)) base g F { D with down := c } := by
  obtain ⟨vL, vK, h1, h2, h3, h4, rfl⟩ := h
  exact ⟨vL, vK, h1.put 3 _, h2, own_far h3 (own_ne h3 h1 (by decide)) _, own_far h4 (own_ne h4 h1 (by decide)) _, rfl⟩
theorem RefAt.putStarts (h : RefAt w base g F D) (c : Nat) : RefAt (w.setCell ⟨g, 4, none⟩ (.int .i64 c)) base g F { D with starts := c } := by
  obtain ⟨vL, vK, h1, h2, h3, h4, rfl⟩ := h
  exact ⟨vL, vK, h1.put 4 _, h2, own_far h3 (own_ne h3 h1 (by decide)) _, own_far h4 (own_ne h4 h1 (by decide)) _, rfl⟩
theorem RefAt.putFails (h : RefAt w base g F D) (c : Nat) : RefAt (w.setCell ⟨g, 5, none⟩ (.int .i64 c)) base g F { D with fails := c } := by
  obtain ⟨vL, vK, h1, h2, h3, h4, rfl⟩ := h
  exact ⟨vL, vK, h1.put 5 _, h2, own_far h3 (own_ne h3 h1 (by decide)) _, own_far h4 (own_ne h4 h1 (by decide)) _, rfl⟩
theorem RefAt.putKeep (h : RefAt w base g F D) (v : Value) (k : List Int) (hv : w.ownsRow base 3 1 v k.length (ints k)) :
    ∃ F', RefAt (w.setCell ⟨g, 6, none⟩ v) base g F' { D with keep := k } ∧ ∀ x ∈ F', x ∈ F ∨ v.ownBlock = some x := by
  obtain ⟨vL, vK, h1, h2, h3, h4, rfl⟩ := h
  refine ⟨_, ⟨vL, v, h1.put 6 _, h2, own_far h3 (own_ne h3 h1 (by decide)) _, own_far hv (own_ne hv h1 (by decide)) _, rfl⟩, fun x hx => ?_⟩
  simp only [List.mem_cons, List.mem_append, Option.mem_toList] at hx ⊢
  rcases hx with hx | hx | hx
  · exact Or.inl (Or.inl hx)
  · exact Or.inl (Or.inr (Or.inl hx))
  · exact Or.inr hx
theorem RefAt.putL (h : RefAt w base g F D) (v : Value) (l : List FileS) (hv : w.ownsRow base 65 3 v l.length (frow l)) :
    ∃ F', RefAt (w.setCell ⟨g, 1, none⟩ v) base g F' { D with l := l } ∧ ∀ x ∈ F', x ∈ F ∨ v.ownBlock = some x := by
  obtain ⟨vL, vK, h1, h2, h3, h4, rfl⟩ := h
  refine ⟨_, ⟨v, vK, h1.put 1 _, h2, own_far hv (own_ne hv h1 (by decide)) _, own_far h4 (own_ne h4 h1 (by decide)) _, rfl⟩, fun x hx => ?_⟩
  simp only [List.mem_cons, List.mem_append, Option.mem_toList] at hx ⊢
  rcases hx with hx | hx | hx
  · exact Or.inl (Or.inl hx)
  · exact Or.inr hx
  · exact Or.inl (Or.inr (Or.inr hx))
end

/-- A slice of numbers that lies in a block of numbers. -/
def IntsAt (w : World) (v : Value) (l : List Int) : Prop :=
  (l = [] ∧ ∃ a c, v = .slice a 0 c) ∨ ∃ b off cap cs fr, v = .slice (some ⟨b, off, none⟩) l.length cap ∧ l.length ≤ cap ∧ cap ≤ maxLen ∧ w.heap[b]? = some (.cells cs 3 fr) ∧ ∀ i x, l[i]? = some x → cs[off + i]? = some (.int .i64 x)
theorem IntsAt.of_own {w : World} {base : Nat} {v : Value} {l : List Int} (h : w.ownsRow base 3 1 v l.length (ints l)) : IntsAt w v l := by
  rcases h.2 with ⟨rfl, e⟩ | ⟨b, cap, cs, rfl, _, h2, h3, h4, _, h6⟩
  · exact Or.inl ⟨List.eq_nil_of_length_eq_zero e, none, 0, rfl⟩
  · refine Or.inr ⟨b, 0, cap, cs, (0, 0), rfl, h3, h4, h2, fun i x hx => ?_⟩
    have hi : i < l.length := (List.getElem?_eq_some_iff.1 hx).1
    have e : (ints l)[i]? = some (.int .i64 x) := by unfold ints; rw [List.getElem?_map, hx]; rfl
    rw [← h6, List.getElem?_take, if_pos (by omega)] at e
    simpa using e
theorem IntsAt.touch {F : List Nat} {w w' : World} {v : Value} {l : List Int} (h : IntsAt w v l) (ht : Touch F w w') (hF : ∀ b cs fr, b ∈ F → w.heap[b]? ≠ some (.cells cs 3 fr)) : IntsAt w' v l := by
  rcases h with h | ⟨b, off, cap, cs, fr, h1, h2, h3, h4, h5⟩
  · exact Or.inl h
  · have hlt : b < w.heap.size := by
      rcases Nat.lt_or_ge b w.heap.size with c | c
      · exact c
      · rw [Array.getElem?_eq_none c] at h4; cases h4
    exact Or.inr ⟨b, off, cap, cs, fr, h1, h2, h3, (ht.block b hlt (fun hb => hF b cs fr hb h4)).trans h4, h5⟩
theorem IntsAt.cell {w : World} {v : Value} {l : List Int} (h : IntsAt w v l) : ∃ A off cap, v = .slice A l.length cap ∧ l.length ≤ maxLen ∧ ∀ i x, l[i]? = some x → ∃ b, A = some ⟨b, off, none⟩ ∧ w.cell? ⟨b, off + i, none⟩ = some (.int .i64 x) := by
  rcases h with ⟨rfl, a, c, rfl⟩ | ⟨b, off, cap, cs, fr, h1, h2, h3, h4, h5⟩
  · exact ⟨a, 0, c, rfl, Nat.zero_le _, fun i x h => by simp at h⟩
  · refine ⟨some ⟨b, off, none⟩, off, cap, h1, by omega, fun i x hx => ⟨b, rfl, ?_⟩⟩
    rw [cell_of_row w b (off + i) cs _ fr h4]
    exact h5 i x hx
/-- The blocks of the disk that are written in place hold no plain numbers. -/
theorem RefAt.file {w : World} {base g : Nat} {F : List Nat} {D : DiskS} (h : RefAt w base g F D) : ∃ A cap, w.cell? ⟨g, 1, none⟩ = some (.slice A D.l.length cap) ∧ D.l.length ≤ cap ∧ cap ≤ maxLen ∧
    ∀ k f, D.l[k]? = some f → ∃ b, A = some ⟨b, 0, none⟩ ∧ b ∈ F ∧ b ≠ g ∧ (∀ cs fr, w.heap[b]? ≠ some (.cells cs 3 fr)) ∧ (∀ i, w.frozen? ⟨b, i, none⟩ = false) ∧
      w.cell? ⟨b, k * 3, none⟩ = some (.string f.name) ∧ w.cell? ⟨b, k * 3 + 1, none⟩ = some (.string f.data) ∧ w.cell? ⟨b, k * 3 + 2, none⟩ = some (.int .i64 f.synced) ∧
      (∀ s, RefAt (w.setCell ⟨b, k * 3 + 1, none⟩ (.string s)) base g F { D with l := setF D.l k (fun f => { f with data := s }) }) ∧
      (∀ n : Nat, RefAt (w.setCell ⟨b, k * 3 + 2, none⟩ (.int .i64 n)) base g F { D with l := setF D.l k (fun f => { f with synced := n }) }) := by
  have hv := h.view
  obtain ⟨vL, vK, h1, h2, h3, h4, rfl⟩ := h
  obtain ⟨A, cap, rfl, n1, n2, n3, _⟩ := own_form h3
  refine ⟨A, cap, h1.cell 1, n1, n2, fun k f hk => ?_⟩
  have hlt : k < D.l.length := (List.getElem?_eq_some_iff.1 hk).1
  obtain ⟨b, rfl, hb1, hb2⟩ := n3 (by omega)
  have hbm : (Value.slice (some ⟨b, 0, none⟩) D.l.length cap).ownBlock = some b := rfl
  have hne : b ≠ g := fun e => own_ne h3 h1 (by decide) (by rw [hbm, e])
  have hk' : ∀ u : Value, vK.ownBlock ≠ some b := fun u e => own_own_ne h4 h3 (by decide) b hbm e
  refine ⟨b, rfl, by simp [Value.ownBlock], hne, ?_, h3.frozenAt, ?_, ?_, ?_, ?_, ?_⟩
  · intro cs fr e
    rcases h3.2 with ⟨e2, _⟩ | ⟨b', cap', cur, e2, _, hh, _⟩
    · cases e2
    · simp only [Value.slice.injEq, Option.some.injEq, Addr.mk.injEq, and_true, true_and] at e2
      obtain ⟨rfl, _⟩ := e2
      rw [e] at hh
      injection hh with hh
      injection hh with _ ht _
      exact absurd ht (by decide)
  · rw [h3.cellAt (k * 3) (by omega)]; exact frow_at D.l k f hk 0 (by decide)
  · rw [h3.cellAt (k * 3 + 1) (by omega)]; exact frow_at D.l k f hk 1 (by decide)
  · rw [h3.cellAt (k * 3 + 2) (by omega)]; exact frow_at D.l k f hk 2 (by decide)
  · intro s
    have hs := (h3.stored (k * 3 + 1) (.string s)).1
    rw [frow_set1 D.l k f hk] at hs
    exact ⟨_, vK, h1.far (p := ⟨b, k * 3 + 1, none⟩) (fun e => hne e.symm) _, h2, by simpa [setF] using hs, own_far h4 (hk' vK) _, rfl⟩
  · intro n
    have hs := (h3.stored (k * 3 + 2) (.int .i64 n)).1
    rw [frow_set2 D.l k f hk] at hs
    exact ⟨_, vK, h1.far (p := ⟨b, k * 3 + 2, none⟩) (fun e => hne e.symm) _, h2, by simpa [setF] using hs, own_far h4 (hk' vK) _, rfl⟩

theorem fails_eq (D : DiskS) : { D with fails := D.fails } = D := rfl
/-- change: whether it is done, and what is left. -/
theorem change_ref {base g : Nat} {F : List Nat} {D : DiskS} (w : World) (h : RefAt w base g F D) (hf : D.fails ≤ 1099511627777) :
    Calls Try.prog 60 #[.pointer (some ⟨g, 0, none⟩)] w fun e w' => e = .returned (.bool (goesS D)) ∧ RefAt w' base g F (nextS D) ∧ Touch F w w' := by
  obtain ⟨A, cap, vK, fr, _, _, _, _, _, c5, _, _, _, _⟩ := h.view
  have fr5 := fr 5
  clear fr
  have ht : ∀ u, Touch F w (w.setCell ⟨g, 5, none⟩ u) := fun u => (Touch.refl F w).setCell (Or.inl h.mem) u
  have hp := h.putFails (D.fails - 1)
  have HT := Lib.hid ht
  have HP := Lib.hid hp
  have H0 := Lib.hid h
  have hcase : D.fails = 0 ∨ D.fails = 1 ∨ 2 ≤ D.fails := by omega
  rcases hcase with e | e | e
  · have hg : goesS D = true := by unfold goesS; rw [e]; rfl
    have hn : nextS D = D := by unfold nextS; rw [show D.fails - 1 = D.fails by omega]
    rw [hg, hn]
    rw [e] at c5
    clear hg hn ht hp HP HT hf e h
    go_enter Try.func60, Try.ntmps60
    go_wp2
    go_ret
    exact ⟨rfl, H0.out, Touch.refl _ _⟩
  · have hg : goesS D = false := by unfold goesS; rw [e]; rfl
    have hn := Lib.hid (show nextS D = { D with fails := 0 } by unfold nextS; rw [e])
    rw [hg]
    rw [e] at c5 HP
    clear hg ht hp hf e h
    go_enter Try.func60, Try.ntmps60
    go_wp2
    go_ret
    exact ⟨rfl, by rw [hn.out]; exact HP.out, HT.out _⟩
  · have hg : goesS D = true := by unfold goesS; rw [decide_eq_false (by omega)]; rfl
    rw [hg]
    have e2 : D.fails ≠ 0 := by omega
    obtain ⟨m, hm⟩ : ∃ m, D.fails = m + 2 := ⟨D.fails - 2, by omega⟩
    have HN := Lib.hid (show nextS D = { D with fails := m + 1 } by unfold nextS; rw [hm]; rfl)
    rw [hm] at c5 HP hf
    have c5' : w.cell? ⟨g, 5, none⟩ = some (.int .i64 ((m : Int) + 2)) := c5
    have q : (((m : Int) + 2) == 0) = false := beq_eq_false_iff_ne.2 (by omega)
    have t : decide ((1 : Int) < (m : Int) + 2) = true := decide_eq_true (by omega)
    have HC := Lib.hid (show Value.int .i64 ((m + 2 - 1 : Nat) : Int) = .int .i64 ((m : Int) + 2 - 1) by congr 1; omega)
    clear hg ht hp e e2 hm h c5
    go_enter Try.func60, Try.ntmps60
    go_wp2
    go_ret
    refine ⟨rfl, ?_, HT.out _⟩
    rw [HN.out]
    have := HP.out
    rw [HC.out] at this
    exact this
end Go.Proofs.Ytfpimebamkmjoaa
