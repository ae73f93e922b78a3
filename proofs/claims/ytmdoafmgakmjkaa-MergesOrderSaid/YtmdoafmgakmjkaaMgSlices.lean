/- Lists of entries: parts of a slice of them, append within a region. -/
import Derived.Test.YtmdoafmgakmjkaaLists
import Derived.Test.YtmdoafmgakmjkaaEntSortStep
namespace Go.Proofs.Ytmdoafmgakmjkaa
open Go.RowKit Go.Shelf
set_option linter.unusedVariables false
set_option maxRecDepth 100000

theorem lsliced_nil (a : Option Addr) (c : Nat) : ∃ A c', sliced a 0 0 c 1 = .slice A 0 c' := by unfold sliced; exact ⟨_, _, rfl⟩
section
variable {w : World} {v : Value} {L : List LstS} {k m : Nat}
theorem lists_cut {b off cap : Nat} (h2 : L.length ≤ cap) (h3 : cap ≤ maxLen) (hk : k ≤ m) (hm : m ≤ L.length) :
    ∃ A, sliced (some ⟨b, off, none⟩) k m cap 1 = .slice A (m - k) (cap - k) ∧ ∀ W, b < W.heap.size → (∀ i x, L[i]? = some x → W.cell? ⟨b, off + i, none⟩ = some x.v) → ListsAt W (.slice A (m - k) (cap - k)) ((L.drop k).take (m - k)) := by
  have hlen : ((L.drop k).take (m - k)).length = m - k := by rw [List.length_take, List.length_drop]; omega
  by_cases h0 : m - k = 0
  · have hs : ∃ A, sliced (some (⟨b, off, none⟩ : Addr)) k m cap 1 = .slice A (m - k) (cap - k) := by unfold sliced; exact ⟨_, rfl⟩
    obtain ⟨A, e⟩ := hs
    refine ⟨A, e, fun W _ _ => Or.inl ⟨List.length_eq_zero_iff.1 (by rw [hlen]; exact h0), A, _, by rw [h0]⟩⟩
  · have e : sliced (some (⟨b, off, none⟩ : Addr)) k m cap 1 = .slice (some ⟨b, off + k, none⟩) (m - k) (cap - k) := by
      unfold sliced
      rw [if_neg (by omega)]
      simp [Addr.add]
    refine ⟨_, e, fun W hb hc => Or.inr ⟨b, off + k, cap - k, by rw [hlen], by omega, by omega, hb, fun i x hx => ?_⟩⟩
    have hi : i < m - k := by have := (List.getElem?_eq_some_iff.1 hx).1; rw [hlen] at this; exact this
    rw [List.getElem?_take, if_pos hi, List.getElem?_drop] at hx
    have := hc (k + i) x hx
    rw [show off + k + i = off + (k + i) by omega]
    exact this
/-- Lists up to a place. -/
theorem lists_to (h : ListsAt w v L) (hm : m ≤ L.length) : ∃ A c,
    (∀ W, (Instr.slice 22 v none (some (.int .i64 (m : Nat))) none).run Try.prog W = .ok (.slice A m c) W) ∧ ∀ B W, w.heap.size ≤ B → Below B w W → ListsAt W (.slice A m c) (L.take m) := by
  have hz : ∀ W, (sizeOf (Try.prog.elem 22)).run Try.prog W = .ok 1 W := fun W => by simp [go_sem]
  rcases h with ⟨rfl, a, c, rfl⟩ | ⟨b, off, cap, rfl, h2, h3, h4, h5⟩
  · obtain rfl : m = 0 := by simpa using hm
    obtain ⟨A, c', e⟩ := lsliced_nil a c
    refine ⟨A, c', fun W => ?_, fun B W _ _ => Or.inl ⟨by simp, A, c', rfl⟩⟩
    rw [run_slice_h W _ a 0 c Try.underlying22 .i64 _ (by omega) (by omega), hz]
    show Result.ok (sliced _ _ _ _ _) W = _
    rw [Int.toNat_natCast, e]
  · obtain ⟨A, e, hA⟩ := lists_cut (L := L) (b := b) (off := off) (k := 0) h2 h3 (Nat.zero_le _) hm
    refine ⟨A, cap, fun W => ?_, fun B W hB hb => hA W (Nat.lt_of_lt_of_le h4 hb.size) fun i x hx => (hb.cell (p := ⟨b, off + i, none⟩) (Nat.lt_of_lt_of_le h4 hB)).trans (h5 i x hx)⟩
    rw [run_slice_h W _ _ _ cap Try.underlying22 .i64 _ (by omega) (by omega), hz]
    show Result.ok (sliced _ _ _ _ _) W = _
    rw [Int.toNat_natCast, e]
    rfl
/-- Lists from a place on. -/
theorem lists_from (h : ListsAt w v L) (hk : k ≤ L.length) : ∃ A c,
    (∀ W, (Instr.slice 22 v (some (.int .i64 (k : Nat))) none none).run Try.prog W = .ok (.slice A (L.length - k) c) W) ∧ ∀ B W, w.heap.size ≤ B → Below B w W → ListsAt W (.slice A (L.length - k) c) (L.drop k) := by
  have hz : ∀ W, (sizeOf (Try.prog.elem 22)).run Try.prog W = .ok 1 W := fun W => by simp [go_sem]
  rcases h with ⟨rfl, a, c, rfl⟩ | ⟨b, off, cap, rfl, h2, h3, h4, h5⟩
  · obtain rfl : k = 0 := by simpa using hk
    obtain ⟨A, c', e⟩ := lsliced_nil a c
    refine ⟨A, c', fun W => ?_, fun B W _ _ => Or.inl ⟨by simp, A, c', rfl⟩⟩
    rw [run_slice_l W _ a 0 c Try.underlying22 .i64 _ (by omega) (by omega), hz]
    show Result.ok (sliced _ _ _ _ _) W = _
    rw [Int.toNat_natCast, e]
    rfl
  · obtain ⟨A, e, hA⟩ := lists_cut (L := L) (b := b) (off := off) h2 h3 hk (Nat.le_refl _)
    have et : (L.drop k).take (L.length - k) = L.drop k := List.take_of_length_le (by rw [List.length_drop]; omega)
    rw [et] at hA
    refine ⟨A, cap - k, fun W => ?_, fun B W hB hb => hA W (Nat.lt_of_lt_of_le h4 hb.size) fun i x hx => (hb.cell (p := ⟨b, off + i, none⟩) (Nat.lt_of_lt_of_le h4 hB)).trans (h5 i x hx)⟩
    rw [run_slice_l W _ _ _ cap Try.underlying22 .i64 _ (by omega) (by omega), hz]
    show Result.ok (sliced _ _ _ _ _) W = _
    rw [Int.toNat_natCast, e]
end
theorem step_append_lists {ops : Array Oper} {o : Oper} {a : Act} {w : World} {K : Act → World → Prop} {Q : Exit → Act → World → Prop} {E : Prop} {vs vx : Value} {base : Nat} {L M : List LstS} (hgd : o.guard = none) (s x : Operand)
    (ho : o.op = .call { callee := .builtin .append, args := #[s, x], argTypes := #[22, 22] }) (hs : a.eval s = vs) (hx : a.eval x = vx)
    (hown : LRow w base vs L) (hsrc : ListsAt w vx M) (h1 : ∀ u ∈ vals M, u.oneCell' = true) (hl : L.length + M.length ≤ 1000000) (hb : base ≤ w.heap.size)
    (h : ∀ v' w', LRow w' base v' (L ++ M) → w.grownBy w' vs.ownBlock → (v'.ownBlock = vs.ownBlock ∨ v'.ownBlock = some w.heap.size) → K (a.put o.dst v') w') :
    if Region.wanted o (yielded ops a.tmps) = true then Oper.wp Try.prog o a w K Q else E := by
  obtain ⟨A, c, w', e1, e2, e3, e4⟩ := lists_append hown hsrc h1 hl hb o.type
  exact step_append_run hgd s x _ ho hs hx e1 (h _ w' e2 e3 e4)
theorem lst_far {wc W V : World} {vs : Value} (h : Below wc.heap.size wc W) (hg : W.grownBy V vs.ownBlock) (hf : ∀ k, vs.ownBlock = some k → wc.heap.size ≤ k) : Below wc.heap.size wc V := h.trans ⟨hg.os, hg.tape, hg.output, hg.size, fun k hk => hg.block k (by have := h.size; omega) (fun e => by have := hf k e.symm; omega)⟩
theorem Each.take {w : World} {L : List LstS} (h : Each w L) (k : Nat) : Each w (L.take k) := fun x hx => h x (List.mem_of_mem_take hx)
theorem Each.drop {w : World} {L : List LstS} (h : Each w L) (k : Nat) : Each w (L.drop k) := fun x hx => h x (List.mem_of_mem_drop hx)
theorem Each.both {w : World} {L M : List LstS} (h : Each w L) (h' : Each w M) : Each w (L ++ M) := fun x hx => by
  rcases List.mem_append.1 hx with hx | hx
  · exact h x hx
  · exact h' x hx
end Go.Proofs.Ytmdoafmgakmjkaa
