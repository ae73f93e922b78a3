/- RecWholeOwn -/
import Derived.Test.YtedbgimmbapfaaaGreatPk14
import Derived.Stop.RegionWithIn
/- RecWholeOwn -/
namespace Go.Proofs.YtedbgimmbapfaaaGreat
open Go.RowKit Go.Shelf
set_option linter.unusedVariables false
attribute [local go_sem] Oper.semAt_some

theorem rwhole_out (s : ByteArray) (a : Int) (w : World) (hs : s.size ≤ 1100000) (wa : (Lit.int .i64 a).wf = true) (h : ¬ (0 ≤ a ∧ a ≤ s.size)) :
    Calls Tryz.prog 59 #[.string s, .int .i64 a] w (WholeRec s a w) := by
  have e1 : wlL s a = [] := by unfold wlL; rw [if_neg h]
  have e2 : wlE s a = 0 := by unfold wlE; rw [if_neg h]
  unfold WholeRec
  rw [e1, e2]
  have H1 := Lib.hid fun W => place_any s a W (by unfold maxLen; omega) wa
  rw [decide_eq_false h] at H1
  clear h wa
  go_enter Tryz.func59, Tryz.ntmps59
  go_wp2_with fail
  refine (H1.out _).mono ?_
  rintro e w1 ⟨rfl, rfl⟩
  go_wp2
  exact bodyPost_ret (v := .tuple #[.slice none 0 0, .int .i64 0]) (by simp [results, Tryz.results59, go_sem]) rfl ⟨_, rfl, Or.inl ⟨rfl, _, _, rfl⟩, ((Below.refl _ w).alloc (Nat.le_refl _) _).alloc (by simp) _⟩

theorem iowns_mono {w : World} {B base n size : Nat} {e : TypeId} {v : Value} {xs : List Value} (h : w.ownsRow base e size v n xs) (hB : B ≤ base) : w.ownsRow B e size v n xs := by
  refine ⟨h.1, ?_⟩
  rcases h.2 with h0 | ⟨g, cap, cur, hv, hg, r⟩
  · exact Or.inl h0
  · exact Or.inr ⟨g, cap, cur, hv, Nat.le_trans hB hg, r⟩
theorem iowns_form {w : World} {base n size : Nat} {e : TypeId} {v : Value} {xs : List Value} (h : w.ownsRow base e size v n xs) : ∃ A c, v = .slice A n c := by
  rcases h.2 with ⟨hv, h0⟩ | ⟨g, cap, cur, hv, _⟩
  · exact ⟨none, 0, by rw [hv, h0]⟩
  · exact ⟨_, cap, hv⟩
theorem iowns_ne {w : World} {base n size B : Nat} {e : TypeId} {v : Value} {xs : List Value} (h : w.ownsRow base e size v n xs) (hB : B < base) : v.ownBlock ≠ some B := fun e' => by
  have := iowns_block h B e'
  omega

set_option maxRecDepth 100000 in
set_option maxHeartbeats 4000000 in
theorem rwhole_in (s : ByteArray) (k0 : Nat) (w : World) (hs : s.size ≤ 1100000) (hk0 : k0 ≤ s.size) :
    Calls Tryz.prog 59 #[.string s, .int .i64 (k0 : Nat)] w (WholeRec s (k0 : Nat) w) := by
  obtain ⟨i0, hi, hz0, hz1, hz2⟩ := info_parts info_int
  have e1 : wlL s (k0 : Nat) = whL s (s.size + 1) k0 := by unfold wlL; rw [if_pos (by omega), Int.toNat_natCast]
  have e2 : wlE s (k0 : Nat) = whE s (s.size + 1) k0 := by unfold wlE; rw [if_pos (by omega), Int.toNat_natCast]
  unfold WholeRec
  rw [e1, e2]
  clear e1 e2
  have H1 := Lib.hid fun W => place_any s (k0 : Nat) W (by unfold maxLen; omega) (WalkArith.wf_i64 (by omega))
  rw [decide_eq_true (by omega)] at H1
  refine (callsIn_wide (n := 8)).1 ?_
  refine callsIn_of_wp_marks Tryz.func59 rfl trivial ?_ rfl
  simp only [Tryz.ntmps59, List.size_toArray, List.length_cons, List.length_nil, Nat.reduceAdd, Nat.reduceSub, Array.replicate_succ, Array.replicate_zero, List.push_toArray, List.append_toArray, List.nil_append, List.cons_append]
  gi_wp2
  refine ⟨trivial, ?_⟩
  refine (callsIn_wide.2 (H1.out _)).mono ?_
  rintro e w' ⟨rfl, rfl⟩
  gi_wp2
  refine ⟨trivial, ?_⟩
  refine (standing_in _ _ _ _).mono ?_
  rintro e w' ⟨rfl, rfl⟩
  gi_wp2
  obtain ⟨W0, hW0⟩ : ∃ W0, ((((w.alloc (.cells #[.slice none 0 0] 47)).alloc (.cells #[.int .i64 (k0 : Nat)] 3)).alloc (.cells #[.string s] 9)).alloc (.cells #[.int .i64 (k0 : Nat)] 3)) = W0 := ⟨_, rfl⟩
  have hsz : W0.heap.size = w.heap.size + 4 := by rw [← hW0]; simp
  have hB0 : Below w.heap.size w W0 := by rw [← hW0]; exact ((((Below.refl _ w).alloc (Nat.le_refl _) _).alloc (by simp) _).alloc (by simp; omega) _).alloc (by simp; omega) _
  have b0 : Boxed W0 w.heap.size 47 (.slice none 0 0) := by rw [← hW0]; exact (((Boxed.new w 47 (.slice none 0 0)).alloc _).alloc _).alloc _
  have b1 : Boxed W0 (w.heap.size + 1) 3 (.int .i64 (k0 : Nat)) := by
    have h := Boxed.new (w.alloc (.cells #[.slice none 0 0] 47)) 3 (.int .i64 (k0 : Nat))
    rw [World.size_alloc] at h
    rw [← hW0]; exact (h.alloc _).alloc _
  have b2 : Boxed W0 (w.heap.size + 2) 9 (.string s) := by
    have h := Boxed.new ((w.alloc (.cells #[.slice none 0 0] 47)).alloc (.cells #[.int .i64 (k0 : Nat)] 3)) 9 (.string s)
    rw [World.size_alloc, World.size_alloc] at h
    rw [← hW0]; exact h.alloc _
  have b3 : Boxed W0 (w.heap.size + 3) 3 (.int .i64 (k0 : Nat)) := by
    have h := Boxed.new (((w.alloc (.cells #[.slice none 0 0] 47)).alloc (.cells #[.int .i64 (k0 : Nat)] 3)).alloc (.cells #[.string s] 9)) 3 (.int .i64 (k0 : Nat))
    rw [World.size_alloc, World.size_alloc, World.size_alloc] at h
    rw [← hW0]; exact h
  rw [hW0]
  clear hW0
  refine wpIn_rangeFunc_ownG rfl (by omega) (gf := 80) (lb := #[.pointer (some ⟨w.heap.size + 3, 0, none⟩), .pointer (some ⟨w.heap.size + 2, 0, none⟩)]) rfl trivial (enters_of Tryz.func80 (by kernel_rfl) rfl)
    (standing_stops _ (by omega) (w.heap.size + 2) (w.heap.size + 3) k0 s hs hk0 W0 b2 b3) keepsBox_t (keepsBox_b (by omega)) (Below.refl _ _) (fun _ => rfl)
    (fun pre W => (((∃ v, Boxed W w.heap.size 47 v ∧ W.ownsRow (w.heap.size + 4) 3 1 v (intsPl pre).length ((intsPl pre).map i64V) ∧ True) ∧ Boxed W (w.heap.size + 1) 3 (.int .i64 (endPl s k0 pre : Nat))) ∧ Boxed W (w.heap.size + 2) 9 (.string s)) ∧ Below w.heap.size W0 W)
    (fun _ _ _ => False)
    (OwnFrom.and (OwnFrom.and (OwnFrom.and (Own.from (holdsRow_own (w.heap.size + 4) w.heap.size 47 3 1 (fun pre => (intsPl pre).length) (fun pre => (intsPl pre).map i64V) (fun _ _ => True)) _) (Own.from (boxed_own (w.heap.size + 1) 3 (fun pre => .int .i64 (endPl s k0 pre : Nat))) _)) (Own.from (boxed_own (w.heap.size + 2) 9 (fun _ => .string s)) _)) (ownFrom_below (by omega) (by omega)))
    (fun _ _ _ _ _ hs _ _ => hs)
    ⟨⟨⟨⟨_, b0, World.ownsRow_nil _ _ _ _, trivial⟩, b1⟩, b2⟩, Below.refl _ _⟩
    (fun x => { tmps := #[.string s, .int .i64 (k0 : Nat), undef, undef, .pointer (some ⟨w.heap.size, 0, none⟩), .pointer (some ⟨w.heap.size + 1, 0, none⟩), .int .i64 (x.1 : Int), .int .i64 (getN s (x.1 : Nat) : Nat), .string s, .int .i64 (k0 : Nat), .bool true, .bool false, .int .i64 (k0 : Nat), .string s, .int .i64 (k0 : Nat), .func (.func 80) #[] #[.pointer (some ⟨w.heap.size + 1 + 1 + 1, 0, none⟩), .pointer (some ⟨w.heap.size + 1 + 1, 0, none⟩)], .int .i64 (x.1 : Int), .int .i64 (getN s (x.1 : Nat) : Nat), undef, undef, undef, undef, undef, undef, undef], defers := [] })
    ?assign ?body ?done ?stop
  case assign =>
    rintro l x W K hK
    unfold encPl
    gi_wp2
    exact hK
  case body =>
    rintro l pre x W ⟨⟨⟨⟨v, hv, hrow, _⟩, h1⟩, h2⟩, hB⟩ hlt
    have hc := hv.cell
    have hc1 := h1.cell
    have hf1 := h1.frozen
    have hS := Lib.hid (intsPl_snoc pre x)
    have hE := Lib.hid (endPl_snoc s k0 pre x)
    have hW : w.heap.size + 4 ≤ W.heap.size := by have := hB.size; omega
    have hl : (intsPl pre).length < s.size + 1 := by rw [intsPl_length]; exact hlt
    generalize intsPl pre = q at *
    clear hlt
    gi_wp2_with (gi_at_builtin; refine wpListIn_append_own _ rfl _ _ 47 rfl (w.heap.size + 4) 3 i0 (.int .i64 0) 1 8 Tryz.underlying47 hi hz0 hz1 hz2 rfl (by decide) _ _ _ rfl (hrow.alloc _) ⟨W.heap.size, 0, none⟩ 1 1 [.int .i64 (x.1 : Int)] rfl rfl (cell_one_new _ _ _) (by intro u hu; simp at hu; subst hu; rfl) (by unfold maxLen; omega) (by omega) (by simp; omega) ?_; intro v' w1 hown' hgrow _; obtain ⟨A', c', rfl⟩ := iowns_form hown'; obtain ⟨hv1, hv2, _, hk2, hb2⟩ := hv.appended (by decide) (iowns_mono hrow (by omega)) (by omega) (Nat.le_refl _) (iowns_mono hown' (by omega)) hgrow; have hc2 := hv1.cell; have hf2 := hv1.frozen; have hq1 := (h1.alloc _).kept hgrow (iowns_ne hrow (by omega)).symm; have hq2 := (h2.alloc _).kept hgrow (iowns_ne hrow (by omega)).symm; have hqc := hq1.cell; have hqf := hq1.frozen)
    have hq3 := (hq2.other (B' := w.heap.size) (by omega) (.slice A' (q.length + 1) c')).other (B' := w.heap.size + 1) (by omega) (.int .i64 (getN s (x.1 : Nat) : Nat))
    have hr1 := hown'.kept (grownBy_setCell' w1 w.heap.size (.slice A' (q.length + 1) c')) (.inr (iowns_ne hown' (by omega)))
    have hr2 := hr1.kept (grownBy_setCell' _ (w.heap.size + 1) (.int .i64 (getN s (x.1 : Nat) : Nat))) (.inr (iowns_ne hown' (by omega)))
    refine ⟨(hk2.trans (KeepsOthers.setCell _ _ _)).from _, Eq.trans hq3 (Eq.symm h2), ⟨⟨⟨_, hv2.other (by omega) _, ?_, trivial⟩, ?_⟩, hq3⟩, hB.trans (hb2.setCell (p := ⟨w.heap.size + 1, 0, none⟩) (by simp) _)⟩
    · rw [hS.out, List.length_append, List.map_append]
      exact hr2
    · rw [hE.out]
      exact (hq1.other (B' := w.heap.size) (by omega) _).set _
  case done =>
    rintro D ys W hD ⟨hys, hye⟩ ⟨⟨⟨⟨v, hv, hrow, _⟩, h1⟩, h2⟩, hB⟩ hK
    obtain ⟨q, hq⟩ : ∃ q, whL s (s.size + 1) k0 = q := ⟨_, rfl⟩
    obtain ⟨E, hE⟩ : ∃ E, whE s (s.size + 1) k0 = E := ⟨_, rfl⟩
    rw [hys, hq] at hrow
    rw [hye, hE] at h1
    have HE := Lib.hid hE
    have HL := Lib.hid hq
    obtain ⟨A, c, rfl⟩ := iowns_form hrow
    have hc := hv.cell
    have hf := hv.frozen
    have hc1 := h1.cell
    have hf1 := h1.frozen
    have HQ := Lib.hid (And.intro hrow (And.intro hB hK))
    clear hrow hB hK hys hye hq hE
    gi_wp2
    gi_region
    gi_wp2
    obtain ⟨hrow, hB, hK⟩ := HQ.out
    have w0 := (hv.set (.slice A q.length c)).other (B' := w.heap.size + 1) (by omega) (.int .i64 (E : Nat))
    have w1 := (h1.other (B' := w.heap.size) (by omega) (.slice A q.length c)).set (.int .i64 (E : Nat))
    have hr1 := (hrow.kept (grownBy_setCell' W w.heap.size (.slice A q.length c)) (.inr (iowns_ne hrow (by omega)))).kept (grownBy_setCell' _ (w.heap.size + 1) (.int .i64 (E : Nat))) (.inr (iowns_ne hrow (by omega)))
    have hK1 := (KeepsOthers.setCell (W.setCell ⟨w.heap.size, 0, none⟩ (.slice A q.length c)) ⟨w.heap.size + 1, 0, none⟩ (.int .i64 (E : Nat))).same D _ ((KeepsOthers.setCell W ⟨w.heap.size, 0, none⟩ (.slice A q.length c)).same D _ hK rfl) rfl
    have hB1 := ((((hB0.trans hB).setCell (p := ⟨w.heap.size, 0, none⟩) (Nat.le_refl _) (.slice A q.length c)).setCell (p := ⟨w.heap.size + 1, 0, none⟩) (by simp) (.int .i64 (E : Nat)))).drew
    have w0' : Boxed (((W.setCell ⟨w.heap.size, 0, none⟩ (.slice A q.length c)).setCell ⟨w.heap.size + 1, 0, none⟩ (.int .i64 (E : Nat))).drew) w.heap.size 47 (.slice A q.length c) := w0
    have w1' : Boxed (((W.setCell ⟨w.heap.size, 0, none⟩ (.slice A q.length c)).setCell ⟨w.heap.size + 1, 0, none⟩ (.int .i64 (E : Nat))).drew) (w.heap.size + 1) 3 (.int .i64 (E : Nat)) := w1
    have hK2 : (((W.setCell ⟨w.heap.size, 0, none⟩ (.slice A q.length c)).setCell ⟨w.heap.size + 1, 0, none⟩ (.int .i64 (E : Nat))).drew).heap[D]? = some (.deferred (some [])) := hK1
    have hr2 : (((W.setCell ⟨w.heap.size, 0, none⟩ (.slice A q.length c)).setCell ⟨w.heap.size + 1, 0, none⟩ (.int .i64 (E : Nat))).drew).ownsRow (w.heap.size + 4) 3 1 (.slice A q.length c) q.length (q.map i64V) := hr1
    clear w0 w1 hr1 hK1 hK hB hrow HQ hv h1 h2 hc hf hc1 hf1
    generalize ((W.setCell ⟨w.heap.size, 0, none⟩ (.slice A q.length c)).setCell ⟨w.heap.size + 1, 0, none⟩ (.int .i64 (E : Nat))).drew = W2 at *
    refine ⟨by simp, .inl ⟨_, _, rfl, run_takeDeferred hK2, ?_⟩⟩
    have c0 := cell_kept w0'.cell (grownBy_putObj' _ D (.deferred none)) (fun r e => by cases e; exact ⟨_, hK2, rfl⟩)
    have c1 := cell_kept w1'.cell (grownBy_putObj' _ D (.deferred none)) (fun r e => by cases e; exact ⟨_, hK2, rfl⟩)
    rw [HL.out, HE.out]
    refine ⟨.tuple #[.slice A q.length c, .int .i64 (E : Nat)], ?_, _, rfl, IntsIn.of_owns (ownsRow_putObj hr2 _ hK2 rfl), hB1.trans (belowK_b (w := w) (Nat.le_refl _) W2 D _ _ (by omega) hK2 rfl rfl)⟩
    simp [results, Tryz.f59, go_sem, c0, c1]
  case stop =>
    rintro D c pre W _ _ h _
    exact h.elim

/-- The program's Whole. -/
theorem rwhole_any (s : ByteArray) (a : Int) (w : World) (hs : s.size ≤ 1100000) (wa : (Lit.int .i64 a).wf = true) :
    Calls Tryz.prog 59 #[.string s, .int .i64 a] w (WholeRec s a w) := by
  by_cases h : 0 ≤ a ∧ a ≤ s.size
  · obtain ⟨k, rfl⟩ : ∃ k : Nat, a = k := ⟨a.toNat, by omega⟩
    exact rwhole_in s k w hs (by omega)
  · exact rwhole_out s a w hs wa h
end Go.Proofs.YtedbgimmbapfaaaGreat
