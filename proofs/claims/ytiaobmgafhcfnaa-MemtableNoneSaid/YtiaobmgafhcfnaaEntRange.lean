/- Range, Last, Sorted of entries: the program's. -/
import Derived.Test.YtiaobmgafhcfnaaEntAsk
namespace Go.Proofs.Ytiaobmgafhcfnaa
open Go.RowKit Go.Shelf
set_option linter.unusedVariables false

theorem ents_isnil (A : Option Addr) (n c : Nat) (w : World) : (binOp .eql 27 (.slice A n c) (.slice none 0 0)).run Try.prog w = .ok (.bool A.isNone) w := by
  have he := run_equal_slice_nil (P := Try.prog) w 27 32 A n c Try.underlying27
  simp only [binOp]
  simp [he]
/-- A list of a call's own. -/
def EntsOut (w : World) (l : List EntS) (e : Ending) (w' : World) : Prop := ∃ A c, e = .returned (.slice A l.length c) ∧ EntRow w' w.heap.size (.slice A l.length c) l ∧ Below w.heap.size w w'
set_option maxRecDepth 100000 in
theorem eclone_any (v : Value) (l : List EntS) (w : World) (h : EntsIn w v l) (hl : l.length ≤ 500000) : Calls Try.prog 26 #[v] w (EntsOut w l) := by
  obtain ⟨A, off, cap, rfl, -, -⟩ := h.form
  cases A with
  | none =>
    have hn : l = [] := by
      rcases h with ⟨e, _⟩ | ⟨b, off', cap', e, _⟩
      · exact e
      · cases e
    subst hn
    have hq := fun W => ents_isnil none 0 cap W
    clear h hl
    go_enter Try.func26, Try.ntmps26
    go_wp2
    go_ret
    exact ⟨none, 0, rfl, EntRow.nil _ _, Below.refl _ _⟩
  | some a =>
    have hb := (Below.refl w.heap.size w).alloc (Nat.le_refl _) (.cells #[] 32)
    have hown : EntRow (w.alloc (.cells #[] 32)) w.heap.size (.slice (some ⟨w.heap.size, 0, none⟩) 0 0) [] := World.ownsRow_made w #[] 0 (Nat.le_refl _) (Nat.zero_le _) rfl
    have h1 := h.below hb (Nat.le_refl _)
    obtain ⟨A', c', w', e1, e2, e3, e4⟩ := ents_append hown h1 (by simp; omega) (by simp) 27
    have hT := hb.trans (grown_below e3 (B := w.heap.size) (by simp) (fun k hk => by simp [Value.ownBlock] at hk; omega))
    have HT := Lib.hid hT
    rw [List.nil_append] at e2
    have hz : ([] : List EntS).length + l.length = l.length := by simp
    rw [hz] at e1 e2
    have HK := Lib.hid e2
    clear h hl hb hown h1 e2 e3 e4 hT hz
    obtain ⟨m, hm⟩ : ∃ m, m = l.length := ⟨_, rfl⟩
    have HM := Lib.hid hm
    rw [← hm] at e1 HK ⊢
    clear hm
    have HE := Lib.hid e1
    have hq := fun W => ents_isnil (some a) m cap W
    clear e1
    go_enter Try.func26, Try.ntmps26
    go_wp2_with (first | (at_builtin; refine wpList_append_two rfl _ _ rfl rfl rfl HE.out ?_) | fail)
    go_ret
    exact ⟨A', c', by rw [← HM.out]; rfl, by rw [← HM.out]; exact HK.out, HT.out⟩

theorem ent_cell {w : World} {A : Option Addr} {n c i : Nat} {l : List EntS} {x : EntS} (h : EntsIn w (.slice A n c) l) (hx : l[i]? = some x) : ∃ b off, A = some ⟨b, off, none⟩ ∧ n = l.length ∧ b < w.heap.size ∧ w.cell? ⟨b, off + i * 3, none⟩ = some (.int .u64 (x.h : Nat)) ∧ w.cell? ⟨b, off + i * 3 + 1, none⟩ = some (.int .i64 x.v) ∧ w.cell? ⟨b, off + i * 3 + 2, none⟩ = some (.int .i64 x.p) := by
  obtain ⟨A', off, cap, e, _, hc⟩ := h.form
  obtain ⟨rfl, rfl, rfl⟩ := Value.slice.inj e
  obtain ⟨b, e1, e2⟩ := hc i x hx
  exact ⟨b, off, e1, rfl, e2⟩

set_option maxRecDepth 100000 in
theorem range_any (v : Value) (l : List EntS) (h : Nat) (a b : Int) (w : World) (hl : EntsIn w v l) (hn : l.length ≤ 500000) (hok : ∀ x ∈ l, EntOk x) (hr : RiseE l) :
    Calls Try.prog 22 #[v, .int .u64 (h : Nat), .int .i64 a, .int .i64 b] w (EntsOut w (rangeE l h a b)) := by
  have H1 := Lib.hid (search_any v l h a w hl (by omega) hok hr)
  have H2 := Lib.hid fun W hW => through_any v l h b W (hl.below hW (Nat.le_refl _)) (by omega) hok hr
  have he := range_cut (search_cut hr h a) (thru_cut hr h b)
  have l1 : searchE l h a ≤ l.length := countP_le _ l
  have l2 : thruE l h b ≤ l.length := countP_le _ l
  have HE := Lib.hid he
  rw [he]
  generalize searchE l h a = i at *
  generalize thruE l h b = j at *
  obtain ⟨A, off, cap, rfl, -, -⟩ := hl.form
  clear he hok hr
  by_cases hij : i < j
  · obtain ⟨A', c', hs, hp⟩ := ents_part hl (Nat.le_of_lt hij) l2
    have hlen : ((l.drop i).take (j - i)).length = j - i := by rw [List.length_take, List.length_drop]; omega
    have HC := Lib.hid fun B W hB hW => eclone_any _ _ W (hp B W hB hW) (by rw [hlen]; omega)
    have t : decide ((j : Int) ≤ (i : Int)) = false := decide_eq_false (by omega)
    clear hp hl hlen
    generalize l.length = n at *
    generalize (l.drop i).take (j - i) = L at *
    go_enter Try.func22, Try.ntmps22
    go_wp2_with fail
    refine H1.out.mono ?_
    rintro e w1 ⟨rfl, hb1⟩
    go_wp2_with fail
    refine (H2.out _ hb1).mono ?_
    rintro e w2 ⟨rfl, hb2⟩
    have hb12 := bj hb1 hb2
    go_wp2_with fail
    refine (HC.out _ _ (Nat.le_refl _) hb12).mono ?_
    rintro e w3 ⟨A3, c3, rfl, hrow, hb3⟩
    have HR := Lib.hid hrow
    clear hrow
    go_wp2
    go_ret
    exact ⟨_, _, rfl, ⟨HR.out.1, by
      rcases HR.out.2 with h0 | ⟨g, cap, cur, hv, hg, r⟩
      · exact Or.inl h0
      · exact Or.inr ⟨g, cap, cur, hv, Nat.le_trans hb12.size hg, r⟩⟩, bj hb12 hb3⟩
  · have e0 : (l.drop i).take (j - i) = [] := by rw [show j - i = 0 by omega, List.take_zero]
    rw [e0]
    have t : decide ((j : Int) ≤ (i : Int)) = true := decide_eq_true (by omega)
    clear hl HE e0
    generalize l.length = n at *
    go_enter Try.func22, Try.ntmps22
    go_wp2_with fail
    refine H1.out.mono ?_
    rintro e w1 ⟨rfl, hb1⟩
    go_wp2_with fail
    refine (H2.out _ hb1).mono ?_
    rintro e w2 ⟨rfl, hb2⟩
    go_wp2
    go_ret
    exact ⟨none, 0, rfl, EntRow.nil _ _, bj hb1 hb2⟩
end Go.Proofs.Ytiaobmgafhcfnaa
