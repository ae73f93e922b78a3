/- Search, Range, Last of entries: the document's. -/
import Derived.Test.YtiaobmgafhcfnaaEntLast
import Derived.Test.YtiaobmgafhcfnaaEntRef
namespace Go.Proofs.Ytiaobmgafhcfnaa
open Go.RowKit Go.Shelf
set_option linter.unusedVariables false

theorem count_take (q : EntS → Bool) (l : List EntS) (k : Nat) (x : EntS) (h : l[k]? = some x) : (l.take (k + 1)).countP q = (l.take k).countP q + (if q x = true then 1 else 0) := by
  rw [ent_take l k x h, List.countP_append, List.countP_singleton]
theorem filter_take (q : EntS → Bool) (l : List EntS) (k : Nat) (x : EntS) (h : l[k]? = some x) : (l.take (k + 1)).filter q = (l.take k).filter q ++ (if q x = true then [x] else []) := by
  rw [ent_take l k x h, List.filter_append]
  cases hq : q x
  · rw [List.filter_cons, hq]; rfl
  · rw [List.filter_cons, hq]; rfl
set_option maxHeartbeats 1600000 in
set_option maxRecDepth 100000 in
theorem ranger_any (v : Value) (l : List EntS) (h : Nat) (a b : Int) (w : World) (hl : EntsIn w v l) (hn : l.length ≤ 400000) :
    Calls Try.prog 11 #[v, .int .u64 (h : Nat), .int .i64 a, .int .i64 b] w (EntsOut w (rangeE l h a b)) := by
  obtain ⟨A, off, cap, rfl, -, hcell⟩ := hl.form
  have HC := Lib.hid hcell
  obtain ⟨n, hnn⟩ : ∃ n, n = l.length := ⟨_, rfl⟩
  have HN := Lib.hid hnn
  have HE := Lib.hid (show rangeE l h a b = (l.take n).filter (inQ h a b) by rw [hnn, List.take_length]; rfl)
  rw [← hnn] at hn ⊢
  clear hl hcell hnn
  generalize rangeE l h a b = r at *
  go_enter Try.func11, Try.ntmps11
  go_wp2
  go_loopw [9, 10] (fun u i wr => ∃ k : Nat, k ≤ n ∧ i = .int .i64 k ∧ (∃ A c, u = .slice A ((l.take k).filter (inQ h a b)).length c ∧ EntRow wr w.heap.size (.slice A ((l.take k).filter (inQ h a b)).length c) ((l.take k).filter (inQ h a b))) ∧ Below w.heap.size w wr) (fun _ i _ => n - (intOf i).toNat)
  case atStart => exact ⟨0, Nat.zero_le _, rfl, ⟨none, 0, rfl, EntRow.nil _ _⟩, Below.refl _ _⟩
  case round =>
    obtain ⟨k, hk, rfl, ⟨A1, c1, rfl, hrow⟩, hbel⟩ := hrel
    have HR := Lib.hid hrow
    clear hrow
    by_cases hlt : k < n
    · have s1 : (k : Int) < (n : Int) := by omega
      obtain ⟨x, hx⟩ : ∃ x, l[k]? = some x := ⟨_, List.getElem?_eq_getElem (by rw [← HN.out]; omega)⟩
      obtain ⟨bk, rfl, hbk, d0, d1, d2⟩ := HC.out k x hx
      have e0 := (hbel.cell (p := ⟨bk, off + k * 3, none⟩) hbk).trans d0
      have e1 := (hbel.cell (p := ⟨bk, off + k * 3 + 1, none⟩) hbk).trans d1
      have e2 := (hbel.cell (p := ⟨bk, off + k * 3 + 2, none⟩) hbk).trans d2
      have HT := Lib.hid (filter_take (inQ h a b) l k x hx)
      have HQ := Lib.hid (show inQ h a b x = decide (x.h = h ∧ a ≤ x.v ∧ x.v ≤ b) from rfl)
      have hlen : ((l.take k).filter (inQ h a b)).length ≤ n := by
        have h1 := List.length_filter_le (inQ h a b) (l.take k)
        rw [List.length_take] at h1
        omega
      generalize (l.take k).filter (inQ h a b) = L at *
      clear hx d0 d1 d2
      by_cases hin : x.h = h ∧ a ≤ x.v ∧ x.v ≤ b
      · have hv : inQ h a b x = true := by rw [HQ.out]; exact decide_eq_true hin
        have ht := HT.out
        rw [hv, if_pos rfl] at ht
        have hb1 := (Below.refl wr.heap.size wr).alloc (Nat.le_refl _) (.cells #[.int .u64 (x.h : Nat), .int .i64 x.v, .int .i64 x.p] 32)
        obtain ⟨A2, c2, w2, r1, r2, r3, r4⟩ := ents_append (EntRow.below HR.out hb1 (Nat.le_refl _)) (ent_one wr x) (by show L.length + 1 ≤ _; omega) (by have := hbel.size; simp; omega) 27
        have hbel2 := (hbel.alloc hbel.size (.cells #[.int .u64 (x.h : Nat), .int .i64 x.v, .int .i64 x.p] 32)).trans (grown_below r3 (by have := hbel.size; simp; omega) (EntRow.block HR.out))
        have R2 := Lib.hid (show ∃ A c, Value.slice A2 (L.length + 1) c2 = .slice A ((l.take (k + 1)).filter (inQ h a b)).length c ∧ EntRow w2 w.heap.size (.slice A ((l.take (k + 1)).filter (inQ h a b)).length c) ((l.take (k + 1)).filter (inQ h a b)) from ⟨A2, c2, by rw [ht, List.length_append]; rfl, by rw [ht, List.length_append]; exact r2⟩)
        have r1' : (Builtin.append_ #[27, 27] 27 #[.slice A1 L.length c1, .slice (some ⟨wr.heap.size, 0, none⟩) 1 1]).run Try.prog (wr.alloc (.cells #[.int .u64 (x.h : Nat), .int .i64 x.v, .int .i64 x.p] 32)) = .ok (.slice A2 (L.length + 1) c2) w2 := r1
        have HA := Lib.hid r1'
        obtain ⟨hi1, hi2, hi3⟩ := hin
        clear r1 r2 r3 r4 r1' hb1 ht hv hlen HQ HT hbel
        obtain ⟨xh, xv, xp⟩ := x
        simp only at e0 e1 e2 hi1 hi2 hi3
        subst hi1
        go_wp2_with (first | (at_builtin; refine wpList_append_two rfl _ _ rfl rfl rfl HA.out ?_) | fail)
        go_wp2
        go_roundw
        case rel => exact ⟨k + 1, by omega, by go_num, R2.out, hbel2⟩
        case measure => simp [intOf]; omega
      · have hv : inQ h a b x = false := by rw [HQ.out]; exact decide_eq_false hin
        have ht := HT.out
        rw [hv, if_neg (by decide), List.append_nil] at ht
        have R2 := Lib.hid (show ∃ A c, Value.slice A1 L.length c1 = .slice A ((l.take (k + 1)).filter (inQ h a b)).length c ∧ EntRow wr w.heap.size (.slice A ((l.take (k + 1)).filter (inQ h a b)).length c) ((l.take (k + 1)).filter (inQ h a b)) from ⟨A1, c1, by rw [ht], by rw [ht]; exact HR.out⟩)
        clear hv ht hlen HQ HT HR
        obtain ⟨xh, xv, xp⟩ := x
        simp only at e0 e1 e2 hin
        by_cases i1 : xh = h
        · subst i1
          by_cases i2 : a ≤ xv
          · have i3 : ¬ xv ≤ b := fun t => hin ⟨rfl, i2, t⟩
            clear hin
            go_wp2
            go_roundw
            case rel => exact ⟨k + 1, by omega, by go_num, R2.out, hbel⟩
            case measure => simp [intOf]; omega
          · clear hin
            go_wp2
            go_roundw
            case rel => exact ⟨k + 1, by omega, by go_num, R2.out, hbel⟩
            case measure => simp [intOf]; omega
        · have t2 : ((xh : Int) == (h : Int)) = false := beq_eq_false_iff_ne.2 (by omega)
          clear hin
          go_wp2
          go_roundw
          case rel => exact ⟨k + 1, by omega, by go_num, R2.out, hbel⟩
          case measure => simp [intOf]; omega
    · obtain rfl : k = n := by omega
      have s1 : ¬ (k : Int) < (k : Int) := by omega
      have HE2 := Lib.hid (show EntsOut w r (.returned (.slice A1 ((l.take k).filter (inQ h a b)).length c1)) wr by rw [HE.out]; exact ⟨A1, c1, rfl, HR.out, hbel⟩)
      clear hlt HR
      generalize (l.take k).filter (inQ h a b) = L at *
      go_wp2
      go_ret
      exact HE2.out
end Go.Proofs.Ytiaobmgafhcfnaa
