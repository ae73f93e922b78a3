/- The document's Whole of records. -/
import Derived.Test.YtoocejmimfhniaaRecGetRef
import Derived.Test.YtoocejmimfhniaaIntsOnly
import Derived.WalkArith
import Derived.Maps.AppendAt
namespace Go.Proofs.Ytoocejmimfhniaa
open Go.RowKit
set_option linter.unusedVariables false

def i64V (n : Int) : Value := .int .i64 n
theorem IntsIn.of_owns {w : World} {base : Nat} {e : TypeId} {v : Value} {l : List Int} (h : w.ownsRow base e 1 v l.length (l.map i64V)) : IntsIn w v l := by
  have h' := h
  rcases h.2 with ⟨hv, h0⟩ | ⟨g, cap, cur, hv, hg, hh, hn, hm, hsz, ht⟩
  · exact Or.inl ⟨List.length_eq_zero_iff.1 h0, none, 0, hv⟩
  · refine Or.inr ⟨g, 0, cap, hv, hn, hm, (Array.getElem?_eq_some_iff.1 hh).1, fun i x hx => ?_⟩
    rw [hv] at h'
    have hi : i < l.length := (List.getElem?_eq_some_iff.1 hx).1
    rw [Nat.zero_add, h'.cellAt i (by omega), List.getElem?_map, hx]
    rfl
theorem IntsIn.below {w w' : World} {v : Value} {l : List Int} {B : Nat} (h : IntsIn w v l) (hb : Below B w w') (hB : w.heap.size ≤ B) : IntsIn w' v l := by
  rcases h with h | ⟨b, off, cap, rfl, h2, h3, h4, h5⟩
  · exact Or.inl h
  · exact Or.inr ⟨b, off, cap, rfl, h2, h3, Nat.lt_of_lt_of_le h4 hb.size, fun i x hx => (hb.cell (p := ⟨b, off + i, none⟩) (Nat.lt_of_lt_of_le h4 hB)).trans (h5 i x hx)⟩
theorem iowns_block {w : World} {base n size : Nat} {e : TypeId} {v : Value} {xs : List Value} (h : w.ownsRow base e size v n xs) : ∀ k, v.ownBlock = some k → base ≤ k := by
  intro k hk
  rcases h.2 with ⟨rfl, _⟩ | ⟨g, cap, cur, rfl, hg, _⟩
  · cases hk
  · cases hk; exact hg
theorem iowns_below {w w' : World} {base B n size : Nat} {e : TypeId} {v : Value} {xs : List Value} (h : w.ownsRow base e size v n xs) (hb : Below B w w') (hB : w.heap.size ≤ B) : w'.ownsRow base e size v n xs := by
  refine ⟨h.1, ?_⟩
  rcases h.2 with h0 | ⟨g, cap, cur, hv, hg, hh, r⟩
  · exact Or.inl h0
  · obtain ⟨hlt, _⟩ := Array.getElem?_eq_some_iff.1 hh
    exact Or.inr ⟨g, cap, cur, hv, hg, (hb.block g (Nat.lt_of_lt_of_le hlt hB)).trans hh, r⟩
theorem info_int : (Try.prog.info? 3).map (fun i => (i.zero, i.size, i.bytes)) = some (some (.int .i64 0), 1, 8) := by kernel_rfl

/-- What Whole tells. -/
def WholeRec (s : ByteArray) (a : Int) (w : World) (e : Ending) (w' : World) : Prop := ∃ u, e = .returned (.tuple #[u, .int .i64 (wlE s a : Nat)]) ∧ IntsIn w' u (wlL s a) ∧ Below w.heap.size w w'

theorem wrec_out (s : ByteArray) (a : Int) (w : World) (hs : s.size ≤ maxLen) (wa : (Lit.int .i64 a).wf = true) (h : ¬ (0 ≤ a ∧ a ≤ s.size)) :
    Calls Try.prog 22 #[.string s, .int .i64 a] w (WholeRec s a w) := by
  have hb := bounds_i64 wa
  have e1 : wlL s a = [] := by unfold wlL; rw [if_neg h]
  have e2 : wlE s a = 0 := by unfold wlE; rw [if_neg h]
  unfold WholeRec
  rw [e1, e2]
  unfold maxLen at hs
  by_cases h0 : a < 0
  · go_enter Try.func22, Try.ntmps22
    go_wp2
    go_ret2
    exact ⟨_, rfl, Or.inl ⟨rfl, _, _, rfl⟩, Below.refl _ _⟩
  · have h1 : (s.size : Int) < a := by omega
    go_enter Try.func22, Try.ntmps22
    go_wp2
    go_ret2
    exact ⟨_, rfl, Or.inl ⟨rfl, _, _, rfl⟩, Below.refl _ _⟩

set_option maxHeartbeats 1600000 in
set_option maxRecDepth 100000 in
theorem wrec_in (s : ByteArray) (k0 : Nat) (w : World) (hs : s.size ≤ 1000000) (hk0 : k0 ≤ s.size) :
    Calls Try.prog 22 #[.string s, .int .i64 (k0 : Nat)] w (WholeRec s (k0 : Nat) w) := by
  obtain ⟨i0, hi, hz0, hz1, hz2⟩ := info_parts info_int
  have e1 : wlL s (k0 : Nat) = whL s (s.size + 1) k0 := by unfold wlL; rw [if_pos (by omega), Int.toNat_natCast]
  have e2 : wlE s (k0 : Nat) = whE s (s.size + 1) k0 := by unfold wlE; rw [if_pos (by omega), Int.toNat_natCast]
  unfold WholeRec
  rw [e1, e2]
  clear e1 e2
  have HL := Lib.hid (show whL s (s.size + 1) k0 = [] ++ whL s (s.size + 1) k0 from rfl)
  have HE := Lib.hid (show whE s (s.size + 1) k0 = whE s (s.size + 1) k0 from rfl)
  obtain ⟨L, hL⟩ : ∃ L, whL s (s.size + 1) k0 = L := ⟨_, rfl⟩
  obtain ⟨E, hE⟩ : ∃ E, whE s (s.size + 1) k0 = E := ⟨_, rfl⟩
  rw [hL, hE]
  have HL0 := Lib.hid hL
  have HE0 := Lib.hid hE
  clear HL HE hL hE
  have d0 : decide ((k0 : Int) < 0) = false := decide_eq_false (by omega)
  have d1 : decide (s.size < k0) = false := decide_eq_false (by omega)
  have d2 : decide ((s.size : Int) < (k0 : Int)) = false := decide_eq_false (by omega)
  go_enter Try.func22, Try.ntmps22
  go_wp2
  go_loopw [1, 6] (fun f u wr => ∃ (k : Nat) (done : List Int), k ≤ s.size ∧ done.length ≤ k ∧ f = .int .i64 k ∧ L = done ++ whL s (s.size + 1) k ∧ E = whE s (s.size + 1) k ∧ wr.ownsRow w.heap.size 3 1 u done.length (done.map i64V) ∧ Below w.heap.size w wr) (fun f _ _ => s.size - (intOf f).toNat)
  case atStart => exact ⟨k0, [], hk0, Nat.zero_le _, rfl, HL0.out.symm, HE0.out.symm, World.ownsRow_nil _ _ _ _, Below.refl _ _⟩
  case round =>
    obtain ⟨k, done, hk, hdl, rfl, hL, hE, hown, hbel⟩ := hrel
    have HG := Lib.hid fun W => grec_ref s (k : Nat) W (by unfold maxLen; omega) (WalkArith.wf_i64 (by omega))
    cases hg : gtOk s k with
    | false =>
      obtain ⟨e1, e2⟩ := wh_stop hg
      rw [e1, List.append_nil] at hL
      rw [e2] at hE
      have hno := getOk_nat s k
      rw [hg] at hno
      obtain ⟨p1, p2⟩ := gt_no hno
      unfold GotRec at HG
      rw [hno, p1, p2] at HG
      have HLL := Lib.hid hL
      have HEE := Lib.hid hE
      clear hg e1 e2 hno p1 p2 hL hE
      go_wp2_with fail
      refine (HG.out _).mono ?_
      rintro e w1 ⟨rfl, hb1⟩
      have hown1 := iowns_below hown hb1 (Nat.le_refl _)
      have hbel1 := bj hbel hb1
      clear hown hbel hb1
      go_wp2
      go_ret2
      refine ⟨_, by rw [HEE.out]; rfl, ?_, hbel1⟩
      rw [HLL.out]
      exact IntsIn.of_owns hown1
    | true =>
      obtain ⟨e1, e2⟩ := wh_step hk hg
      have hln := getN_lt hg
      rw [e1] at hL
      rw [e2] at hE
      have hyes := getOk_nat s k
      rw [hg] at hyes
      unfold GotRec at HG
      rw [hyes] at HG
      have HLL := Lib.hid hL
      have HEE := Lib.hid hE
      generalize getP s (k : Nat) = P at *
      generalize getN s (k : Nat) = N at *
      obtain ⟨n1, n2⟩ := hln
      clear hg e1 e2 hyes hL hE
      go_wp2_with fail
      refine (HG.out _).mono ?_
      rintro e w1 ⟨rfl, hb1⟩
      have hown1 := iowns_below hown hb1 (Nat.le_refl _)
      have hbel1 := bj hbel hb1
      clear hown hbel hb1
      go_wp2_with (first
        | (at_builtin; refine wpList_append_own _ rfl _ _ 23 rfl w.heap.size 3 i0 (.int .i64 0) 1 8 Try.underlying23 hi hz0 hz1 hz2 rfl (by decide) _ _ _ rfl (hown1.alloc _) ⟨w1.heap.size, 0, none⟩ 1 1 [.int .i64 (k : Int)] rfl rfl (cell_one_new _ _ _) ?c2 ?c3 ?c4 ?c5 ?_))
      case c2 => intro u hu; simp at hu; subst hu; rfl
      case c3 => unfold maxLen; omega
      case c4 => omega
      case c5 => have := hbel1.size; simp; omega
      · intro v' w2 hown' hgrow _
        have hbel2 := (hbel1.alloc hbel1.size _).grown hgrow (by have := hbel1.size; simp; omega) (iowns_block hown1)
        clear hgrow hown1 hbel1
        go_wp2
        go_roundw
        case rel => exact ⟨N, done ++ [(k : Int)], by omega, by rw [List.length_append]; simp; omega, rfl, by rw [HLL.out, List.append_assoc]; rfl, HEE.out, by rw [List.map_append, List.length_append]; exact hown', hbel2⟩
        case measure => simp [intOf]; omega

theorem wrec_ref (s : ByteArray) (a : Int) (w : World) (hs : s.size ≤ 1000000) (wa : (Lit.int .i64 a).wf = true) :
    Calls Try.prog 22 #[.string s, .int .i64 a] w (WholeRec s a w) := by
  by_cases h : 0 ≤ a ∧ a ≤ s.size
  · obtain ⟨k, rfl⟩ : ∃ k : Nat, a = k := ⟨a.toNat, by omega⟩
    exact wrec_in s k w hs (by omega)
  · exact wrec_out s a w (by unfold maxLen; omega) wa h
end Go.Proofs.Ytoocejmimfhniaa
