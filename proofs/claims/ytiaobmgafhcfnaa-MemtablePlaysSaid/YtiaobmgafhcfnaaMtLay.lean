/- lay: an entry is put at its place, by an empty piece without room, append, and the rest. -/
import Derived.Test.YtiaobmgafhcfnaaMtMem
import Derived.Test.YtiaobmgafhcfnaaEntSortStep
import Derived.Deep.CutBlock
import Derived.Deep.RegionHeldLaw
import Derived.Deep.DrawnRows
namespace Go.Proofs.Ytiaobmgafhcfnaa
open Go.RowKit Go.Shelf
set_option linter.unusedVariables false

/-- append to an empty piece without room: new memory. -/
theorem append_bare {w : World} (a : Addr) (vx : Value) (m : List EntS) (hs : EntsIn w vx m) (h0 : m ≠ []) (hl : m.length ≤ 1000000) (ty : TypeId) :
    (Builtin.append_ #[27, 27] ty #[.slice (some a) 0 0, vx]).run Try.prog w = (Builtin.append_ #[27, 27] ty #[.slice none 0 0, vx]).run Try.prog w := by
  have hm : 0 < m.length := List.length_pos_iff.2 h0
  obtain ⟨i, hi, hz0, hz1, hz2⟩ := info_parts info_ent
  obtain ⟨hlen, hsrc⟩ := hs.src
  rcases hsrc with ⟨c, rfl, hc⟩ | ⟨b, c, rfl, hc⟩
  · omega
  · have e1 := run_append_grow (P := Try.prog) w 27 ty 32 i _ Try.underlying27 hi hz0 a 0 0 [] (by simp) (fun j v h => by simp at h) b m.length c (entFlat m) (by rw [hz1]; exact hlen) hc (by omega) (by omega) (growslice_fits (by omega) (by rw [hz2]; omega))
    have e2 := run_append_nil (P := Try.prog) w 27 ty 32 i _ Try.underlying27 hi hz0 b m.length c (entFlat m) (by rw [hz1]; exact hlen) hc hm (by omega) (by rw [hz2]; omega)
    rw [e1, e2]
    simp
theorem ents_fresh {w : World} {base : Nat} {vx : Value} {m : List EntS} (A : Option Addr) (hsrc : EntsIn w vx m) (h0 : m ≠ []) (hl : m.length ≤ 1000000) (hb : base ≤ w.heap.size) (ty : TypeId) :
    ∃ A' c w', (Builtin.append_ #[27, 27] ty #[.slice A 0 0, vx]).run Try.prog w = .ok (.slice A' m.length c) w' ∧ EntRow w' base (.slice A' m.length c) m ∧ w.grownBy w' none ∧ ((Value.slice A' m.length c).ownBlock = none ∨ (Value.slice A' m.length c).ownBlock = some w.heap.size) := by
  have h := ents_append (EntRow.nil w base) hsrc (by simpa using hl) hb ty
  simp only [List.length_nil, Nat.zero_add, List.nil_append] at h
  cases A with
  | none => exact h
  | some a =>
    rw [append_bare a vx m hsrc h0 hl ty]
    exact h
theorem step_append_fresh {ops : Array Oper} {o : Oper} {a : Act} {w : World} {K : Act → World → Prop} {Q : Exit → Act → World → Prop} {E : Prop} {vx : Value} {base : Nat} {A : Option Addr} {m : List EntS} (hgd : o.guard = none) (s x : Operand)
    (ho : o.op = .call { callee := .builtin .append, args := #[s, x], argTypes := #[27, 27] }) (hs : a.eval s = .slice A 0 0) (hx : a.eval x = vx)
    (hsrc : EntsIn w vx m) (h0 : m ≠ []) (hl : m.length ≤ 1000000) (hb : base ≤ w.heap.size)
    (h : ∀ v' w', EntRow w' base v' m → w.grownBy w' none → (v'.ownBlock = (Value.slice none 0 0).ownBlock ∨ v'.ownBlock = some w.heap.size) → K (a.put o.dst v') w') :
    if Region.wanted o (yielded ops a.tmps) = true then Oper.wp Try.prog o a w K Q else E := by
  obtain ⟨A', c, w', e1, e2, e3, e4⟩ := ents_fresh A hsrc h0 hl hb o.type
  exact step_append_run hgd s x _ ho hs hx e1 (h _ w' e2 e3 e4)

/-- A row up to a place. -/
theorem row_take {w : World} {base n c k : Nat} {A : Option Addr} {l : List EntS} (h : EntRow w base (.slice A n c) l) (hn : n = l.length) (hk : k ≤ n) : EntRow w base (.slice A k c) (l.take k) ∧ sliced A 0 k c 3 = .slice A k c ∧ k ≤ c := by
  subst hn
  have hlen : (l.take k).length = k := by rw [List.length_take]; omega
  rcases h.2 with ⟨hv, h0⟩ | ⟨g, cap, cur, hv, hg, hh, hn, hm, hsz, ht⟩
  · obtain ⟨rfl, -, rfl⟩ := Value.slice.inj hv
    obtain rfl : k = 0 := by omega
    rw [List.take_zero]
    exact ⟨EntRow.nil _ _, rfl, Nat.le_refl _⟩
  · obtain ⟨rfl, -, rfl⟩ := Value.slice.inj hv
    refine ⟨⟨?_, Or.inr ⟨g, c, cur, by rw [hlen], hg, hh, by rw [hlen]; omega, hm, hsz, ?_⟩⟩, ?_, by omega⟩
    · rw [entFlat_length]
    · have e : entFlat l = entFlat (l.take k) ++ entFlat (l.drop k) := by rw [← entFlat_append, List.take_append_drop]
      rw [hlen]
      have h2 : cur.toList.take (k * 3) = (cur.toList.take (l.length * 3)).take (k * 3) := by rw [List.take_take]; congr 1; omega
      rw [h2, ht, e, List.take_left' (by rw [entFlat_length, hlen])]
    · unfold sliced
      by_cases hc : c = 0
      · rw [if_pos hc]
        simp
      · rw [if_neg hc]
        simp [Addr.add]
theorem slice_at {n c k : Nat} {A : Option Addr} (hk : k ≤ c) (W : World) : (Instr.slice 27 (.slice A n c) (some (.int .i64 (k : Nat))) (some (.int .i64 (k : Nat))) (some (.int .i64 (k : Nat)))).run Try.prog W = .ok (.slice A 0 0) W := by
  have hz : (sizeOf (Try.prog.elem 27)).run Try.prog W = .ok 3 W := by simp [go_sem]
  rw [run_slice_lhm W _ _ _ c Try.underlying27 .i64 .i64 .i64 _ _ _ (by omega) (by omega) (by omega) (by omega), hz]
  show Result.ok (sliced _ _ _ _ _) W = _
  rw [Int.toNat_natCast]
  unfold sliced
  rw [if_pos rfl, Nat.sub_self]
theorem slice_to {n c k : Nat} {A : Option Addr} (hk : k ≤ c) (e : sliced A 0 k c 3 = .slice A k c) (W : World) : (Instr.slice 27 (.slice A n c) none (some (.int .i64 (k : Nat))) none).run Try.prog W = .ok (.slice A k c) W := by
  have hz : (sizeOf (Try.prog.elem 27)).run Try.prog W = .ok 3 W := by simp [go_sem]
  rw [run_slice_h W _ _ _ c Try.underlying27 .i64 _ (by omega) (by omega), hz]
  show Result.ok (sliced _ _ _ _ _) W = _
  rw [Int.toNat_natCast, e]
theorem tab_ne : (32 : TypeId) ≠ 46 := by decide

/-- What the last step leaves behind. -/
theorem laid_end {w w1 V2 V3 : World} {base g n c : Nat} {F : List Nat} {A : Option Addr} {l m : List EntS} {x : EntS} {v3 : Value} (h : TabAt w base g F l) (hx : EntOk x) (hok : layEn l x = m)
    (hv : EntRow w base (.slice A n c) l) (hF : ∀ k, (Value.slice A n c).ownBlock = some k → k ∈ F) (hw1 : Touch [] w w1) (hb : Below w1.heap.size w1 V2) (hg : V2.grownBy V3 (Value.slice A n c).ownBlock) (ho : EntRow V3 base v3 m)
    (hat : v3.ownBlock = (Value.slice A n c).ownBlock ∨ v3.ownBlock = some V2.heap.size) : TabEnd base g F w (.tuple #[]) m (.returned (.tuple #[])) (V3.setCell ⟨g, 1, none⟩ v3) := by
  obtain ⟨v, h1, h2, h3, h4, h5, h6, h7⟩ := h
  have t2 : Touch F w V2 := (hw1.trans (Touch.of_below hb) (fun x hx => by cases hx)).more (fun x hx => by cases hx)
  have t3 : Touch F w V3 := t2.grown hg (fun k hk => Or.inl (hF k hk))
  have t4 : Touch F w (V3.setCell ⟨g, 1, none⟩ v3) := t3.setCell (p := ⟨g, 1, none⟩) (Or.inl h4) v3
  have hgne : (Value.slice A n c).ownBlock ≠ some g := own_ne hv h1 tab_ne
  have B2 : Blok V2 g 46 #[mtp g, v] := h1.touch (hw1.trans (Touch.of_below hb) (fun x hx => by cases hx)) (by simp)
  have B3 : Blok V3 g 46 #[mtp g, v] := (hg.block g B2.lt (fun e => hgne e.symm)).trans B2
  have B4 : Blok (V3.setCell ⟨g, 1, none⟩ v3) g 46 #[mtp g, v3] := B3.put 1 v3
  have o4 : EntRow (V3.setCell ⟨g, 1, none⟩ v3) base v3 m := own_far ho (own_ne ho B3 tab_ne) v3
  have hmok : ∀ y ∈ m, EntOk y := fun y hy => by
    rw [← hok] at hy
    rcases mem_layE hy with k | k
    · exact h7 y k
    · rw [k]; exact hx
  have hr : RiseE m := by rw [← hok]; exact rise_layE h6 x
  have hsz : (V3.setCell ⟨g, 1, none⟩ v3).heap.size = V3.heap.size := by simp [World.setCell]
  rcases hat with e | e
  · exact ⟨F, rfl, ⟨v3, B4, o4, fun k hk => hF k (by rw [← e]; exact hk), h4, fun y hy => ⟨(h5 y hy).1, Nat.lt_of_lt_of_le (h5 y hy).2 t4.size⟩, hr, hmok⟩, fun y hy => Or.inl hy, t4⟩
  · have hlt := o4.lt _ e
    refine ⟨V2.heap.size :: F, rfl, ⟨v3, B4, o4, fun k hk => ?_, List.mem_cons_of_mem _ h4, fun y hy => ?_, hr, hmok⟩, fun y hy => ?_, t4⟩
    · rw [e] at hk
      injection hk with hk
      rw [← hk]
      exact List.mem_cons_self
    · rcases List.mem_cons.1 hy with k | k
      · rw [k]; exact ⟨hlt.1, hlt.2⟩
      · exact ⟨(h5 y k).1, Nat.lt_of_lt_of_le (h5 y k).2 t4.size⟩
    · rcases List.mem_cons.1 hy with k | k
      · rw [k]; exact Or.inr t2.size
      · exact Or.inl k
end Go.Proofs.Ytiaobmgafhcfnaa
