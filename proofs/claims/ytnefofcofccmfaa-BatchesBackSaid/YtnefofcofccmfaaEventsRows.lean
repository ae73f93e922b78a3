/- Slices of events in memory; the statements' All: events of raw ones. -/
import Derived.Test.YtnefofcofccmfaaEventsTwo
import Derived.Deep.AppendLies
namespace Go.Proofs.Ytnefofcofccmfaa
open Go.RowKit
set_option linter.unusedVariables false

def evCells (x : RawS) : List Value := [.string x.t, .string x.d, .float .f64 x.b]
def evB3 (x : RawS) : Value := .agg #[.string x.t, .string x.d, .float .f64 x.b]
/-- A slice value has these events. -/
def EvsIn (w : World) (v : Value) (l : List RawS) : Prop :=
  (l = [] ∧ ∃ a c, v = .slice a 0 c) ∨ (0 < l.length ∧ ∃ b off cap, v = .slice (some ⟨b, off, none⟩) l.length cap ∧ l.length ≤ cap ∧ b < w.heap.size ∧
    ∀ i x, l[i]? = some x → w.cell? ⟨b, off + i * 3, none⟩ = some (.string x.t) ∧ w.cell? ⟨b, off + i * 3 + 1, none⟩ = some (.string x.d) ∧ w.cell? ⟨b, off + i * 3 + 2, none⟩ = some (.float .f64 x.b))
theorem EvsIn.below {w w' : World} {v : Value} {l : List RawS} {B : Nat} (h : EvsIn w v l) (hb : Below B w w') (hB : w.heap.size ≤ B) : EvsIn w' v l := by
  rcases h with h | ⟨h0, b, off, cap, hv, hl, hlt, hc⟩
  · exact Or.inl h
  · exact Or.inr ⟨h0, b, off, cap, hv, hl, Nat.lt_of_lt_of_le hlt hb.size, fun i x hx => by
      obtain ⟨c0, c1, c2⟩ := hc i x hx
      exact ⟨(hb.cell (Nat.lt_of_lt_of_le hlt hB)).trans c0, (hb.cell (Nat.lt_of_lt_of_le hlt hB)).trans c1, (hb.cell (Nat.lt_of_lt_of_le hlt hB)).trans c2⟩⟩
theorem flat_length : ∀ l : List RawS, (l.flatMap evCells).length = l.length * 3
  | [] => rfl
  | x :: l => by
    rw [List.flatMap_cons, List.length_append, flat_length l, List.length_cons]
    show 3 + _ = _
    omega
theorem flat_at : ∀ (l : List RawS) (i : Nat) (x : RawS), l[i]? = some x → ∀ j, j < 3 → (l.flatMap evCells)[i * 3 + j]? = (evCells x)[j]?
  | [], i, x, h => by simp at h
  | y :: l, 0, x, h => by
    intro j hj
    obtain rfl : y = x := by simpa using h
    rw [List.flatMap_cons, Nat.zero_mul, Nat.zero_add, List.getElem?_append_left (by exact hj)]
  | y :: l, i + 1, x, h => by
    intro j hj
    have h' : l[i]? = some x := by simpa using h
    have e : (i + 1) * 3 + j = 3 + (i * 3 + j) := by omega
    rw [List.flatMap_cons, e, List.getElem?_append_right (by show 3 ≤ _; omega)]
    show (l.flatMap evCells)[3 + (i * 3 + j) - 3]? = _
    rw [Nat.add_sub_cancel_left]
    exact flat_at l i x h' j hj
theorem EvsIn.of_owns {w : World} {base : Nat} {v : Value} {l : List RawS} (h : w.ownsRow base 47 3 v l.length (l.flatMap evCells)) : EvsIn w v l := by
  have h' := h
  rcases h.2 with ⟨hv, h0⟩ | ⟨g, cap, cur, hv, hg, hh, hn, hm, hsz, ht⟩
  · exact Or.inl ⟨List.length_eq_zero_iff.1 h0, none, 0, hv⟩
  · by_cases hl : l = []
    · subst hl
      exact Or.inl ⟨rfl, _, _, hv⟩
    · refine Or.inr ⟨List.length_pos_iff.2 hl, g, 0, cap, hv, hn, (Array.getElem?_eq_some_iff.1 hh).1, fun i x hx => ?_⟩
      have hi : i < l.length := (List.getElem?_eq_some_iff.1 hx).1
      rw [hv] at h'
      have c0 := (h'.cellAt (i * 3 + 0) (by omega)).trans (flat_at l i x hx 0 (by omega))
      have c1 := (h'.cellAt (i * 3 + 1) (by omega)).trans (flat_at l i x hx 1 (by omega))
      have c2 := (h'.cellAt (i * 3 + 2) (by omega)).trans (flat_at l i x hx 2 (by omega))
      rw [Nat.zero_add]
      exact ⟨c0, c1, c2⟩
theorem owns_block3 {w : World} {base n size : Nat} {e : TypeId} {v : Value} {xs : List Value} (h : w.ownsRow base e size v n xs) : ∀ k, v.ownBlock = some k → base ≤ k := by
  intro k hk
  rcases h.2 with ⟨rfl, _⟩ | ⟨g, cap, cur, rfl, hg, _⟩
  · cases hk
  · cases hk; exact hg
theorem owns_below3 {w w' : World} {base B n size : Nat} {e : TypeId} {v : Value} {xs : List Value} (h : w.ownsRow base e size v n xs) (hb : Below B w w') (hB : w.heap.size ≤ B) : w'.ownsRow base e size v n xs := by
  refine ⟨h.1, ?_⟩
  rcases h.2 with h0 | ⟨g, cap, cur, hv, hg, hh, r⟩
  · exact Or.inl h0
  · obtain ⟨hlt, _⟩ := Array.getElem?_eq_some_iff.1 hh
    exact Or.inr ⟨g, cap, cur, hv, hg, (hb.block g (Nat.lt_of_lt_of_le hlt hB)).trans hh, r⟩
theorem info_ev : (Try.prog.info? 47).map (fun i => (i.zero, i.size, i.bytes)) = some (some (.agg #[.string ByteArray.empty, .string ByteArray.empty, .float .f64 0]), 3, 40) := by kernel_rfl
theorem take_more (l : List RawS) (k : Nat) (x : RawS) (h : l[k]? = some x) : l.take (k + 1) = l.take k ++ [x] := by
  rw [List.take_add_one, h]
  rfl

set_option maxHeartbeats 1600000 in
set_option maxRecDepth 100000 in
theorem all_law (v : Value) (l : List RawS) (w : World) (h : RawsIn w v l) (hl : l.length ≤ 1000) :
    Calls Try.prog 20 #[v] w fun e w' => ∃ u, e = .returned u ∧ EvsIn w' u l ∧ Below w.heap.size w w' := by
  obtain ⟨i0, hi, hz0, hz1, hz2⟩ := info_parts info_ev
  rcases h with ⟨rfl, a, cap, rfl⟩ | ⟨b, off, cap, rfl, hcap, hmx, hb, hc⟩
  · go_enter Try.func20, Try.ntmps20
    go_wp2
    refine wp_loop_rounds 1 ?_
    rw [rounds_succ]
    go_wp2
    go_ret
    exact ⟨_, rfl, Or.inl ⟨rfl, _, _, rfl⟩, Below.refl _ _⟩
  · unfold maxLen at hmx
    go_enter Try.func20, Try.ntmps20
    go_wp2
    go_loopw [3, 4] (fun u i wr => ∃ k : Nat, k ≤ l.length ∧ i = .int .i64 k ∧ wr.ownsRow w.heap.size 47 3 u k ((l.take k).flatMap evCells) ∧ Below w.heap.size w wr) (fun _ i _ => l.length - (intOf i).toNat)
    case atStart => exact ⟨0, Nat.zero_le _, rfl, World.ownsRow_nil _ _ _ _, Below.refl _ _⟩
    case round =>
      obtain ⟨k, hk, rfl, hown, hbel⟩ := hrel
      by_cases hlt : k < l.length
      · obtain ⟨x, hx⟩ : ∃ x, l[k]? = some x := ⟨l[k], List.getElem?_eq_getElem hlt⟩
        have q0 : wr.cell? ⟨b, off + k * 3, none⟩ = some (.string x.t) := (hbel.cell (p := ⟨b, off + k * 3, none⟩) hb).trans (hc k x hx 0 _ rfl)
        have q1 : wr.cell? ⟨b, off + k * 3 + 1, none⟩ = some (.string x.d) := (hbel.cell (p := ⟨b, off + k * 3 + 1, none⟩) hb).trans (hc k x hx 1 _ rfl)
        have q2 : wr.cell? ⟨b, off + k * 3 + 2, none⟩ = some (.int .u64 (x.b : Nat)) := (hbel.cell (p := ⟨b, off + k * 3 + 2, none⟩) hb).trans (hc k x hx 2 _ rfl)
        have Htk := Lib.hid (take_more l k x hx)
        have HE := Lib.hid fun W => event_any x.t x.d x.b W
        obtain ⟨t, d, n⟩ := x
        simp only at q0 q1 q2 HE
        have s1 : (k : Int) < (l.length : Int) := by omega
        clear hx hc
        go_wp2_with fail
        refine (HE.out _).mono ?_
        rintro e w1 ⟨rfl, hb1⟩
        have hown1 := owns_below3 hown hb1 (Nat.le_refl _)
        have hbel1 := bj hbel hb1
        clear hown hbel hb1 q0 q1 q2
        go_wp2_with (first
          | (at_builtin; refine wpList_append_own _ rfl _ _ 26 rfl w.heap.size 47 i0 (.agg #[.string ByteArray.empty, .string ByteArray.empty, .float .f64 0]) 3 40 Try.underlying26 hi hz0 hz1 hz2 rfl (by decide) _ _ _ rfl (hown1.alloc _) ⟨w1.heap.size, 0, none⟩ 1 1 [.string t, .string d, .float .f64 n] rfl rfl ?c1 ?c2 ?c3 ?c4 ?c5 ?_))
        case c1 =>
          intro j u hj
          match j, hj with
          | 0, hj => simp at hj; subst hj; simp [Addr.add]
          | 1, hj => simp at hj; subst hj; simp [Addr.add]
          | 2, hj => simp at hj; subst hj; simp [Addr.add]
        case c2 =>
          intro u hu
          simp at hu
          rcases hu with rfl | rfl | rfl <;> rfl
        case c3 => unfold maxLen; omega
        case c4 => omega
        case c5 => have := hbel1.size; simp; omega
        · intro v' w2 hown' hgrow _
          have hbel2 := (hbel1.alloc hbel1.size _).grown hgrow (by have := hbel1.size; simp; omega) (owns_block3 hown1)
          clear hgrow hown1 hbel1
          go_wp2
          go_roundw
          case rel => exact ⟨k + 1, by omega, by go_num, by rw [Htk.out, List.flatMap_append]; exact hown', hbel2⟩
          case measure => simp [intOf]; omega
      · obtain rfl : k = l.length := by omega
        have s1 : ¬ (l.length : Int) < (l.length : Int) := by omega
        rw [List.take_length] at hown
        go_wp2
        go_ret
        exact ⟨_, rfl, EvsIn.of_owns hown, hbel⟩
end Go.Proofs.Ytnefofcofccmfaa
