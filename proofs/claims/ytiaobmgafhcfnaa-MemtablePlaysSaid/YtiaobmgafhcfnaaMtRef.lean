/- The document's table: entries as they came; Add, Dump. -/
import Derived.Test.YtiaobmgafhcfnaaMtMem
import Derived.Test.YtiaobmgafhcfnaaEntSortRef
import Derived.Deep.RegionLaw
namespace Go.Proofs.Ytiaobmgafhcfnaa
open Go.RowKit Go.Shelf
set_option linter.unusedVariables false

/-- A list at a place; F: the blocks that are its own. -/
def LisAt (w : World) (base g : Nat) (F : List Nat) (l : List EntS) : Prop :=
  ∃ v, Blok w g 29 #[v] ∧ EntRow w base v l ∧ (∀ k, v.ownBlock = some k → k ∈ F) ∧ g ∈ F ∧ (∀ x ∈ F, base ≤ x ∧ x < w.heap.size) ∧ ∀ x ∈ l, EntOk x
def LisEnd (base g : Nat) (F : List Nat) (w : World) (r : Value) (l : List EntS) (e : Ending) (w' : World) : Prop :=
  ∃ F', e = .returned r ∧ LisAt w' base g F' l ∧ (∀ x ∈ F', x ∈ F ∨ w.heap.size ≤ x) ∧ Touch F w w'
def moreE (l : List EntS) (x : EntS) : List EntS := if x ∈ l then l else l ++ [x]
theorem more_sort (l : List EntS) (x : EntS) : sortE (moreE l x) = layEn (sortE l) x := by
  unfold moreE
  split
  · rename_i h
    rw [lay_old (sort_rise l) (mem_sort.2 h)]
  · exact sort_more l x
theorem more_length (l : List EntS) (x : EntS) : (moreE l x).length ≤ l.length + 1 := by
  unfold moreE
  split
  · omega
  · rw [List.length_append, List.length_singleton]
    omega
theorem more_nodup {l : List EntS} {x : EntS} (h : l.Nodup) : (moreE l x).Nodup := by
  unfold moreE
  split
  · exact h
  · rename_i hn
    exact List.nodup_append.2 ⟨h, by simp, fun a ha b hb => by rw [List.mem_singleton.1 hb]; rintro rfl; exact hn ha⟩
section
variable {w w' : World} {base g : Nat} {F G : List Nat} {l : List EntS}
theorem LisAt.touch (h : LisAt w base g F l) (ht : Touch G w w') (hG : ∀ x ∈ F, x ∉ G) : LisAt w' base g F l := by
  obtain ⟨v, h1, h2, h3, h4, h5, h6⟩ := h
  exact ⟨v, h1.touch ht (hG g h4), own_touch h2 ht (fun b hb => hG b (h3 b hb)), h3, h4, fun x hx => ⟨(h5 x hx).1, Nat.lt_of_lt_of_le (h5 x hx).2 ht.size⟩, h6⟩
theorem LisAt.below (h : LisAt w base g F l) (hb : Below w.heap.size w w') : LisAt w' base g F l := h.touch (Touch.of_below hb) (fun _ _ => by simp)
theorem LisAt.drewN (h : LisAt w base g F l) (n : Nat) : LisAt (w.drewN n) base g F l := h.touch ((Touch.refl [] w).drewN n) (fun _ _ => by simp)
theorem LisAt.shape (h : LisAt w base g F l) : ∃ A c, w.cell? ⟨g, 0, none⟩ = some (.slice A l.length c) ∧ w.frozen? ⟨g, 0, none⟩ = false ∧ EntRow w base (.slice A l.length c) l ∧ g < w.heap.size := by
  obtain ⟨v, h1, h2, h3, h4, h5, h6⟩ := h
  obtain ⟨A, c, rfl, -⟩ := own_form h2
  exact ⟨A, c, h1.cell 0, h1.frozen 0, h2, h1.lt⟩
end
theorem lis_ne : (32 : TypeId) ≠ 29 := by decide
/-- What the last step leaves behind. -/
theorem more_end {w V2 V3 : World} {base g n c : Nat} {F : List Nat} {A : Option Addr} {l : List EntS} {x : EntS} {v3 : Value} (h : LisAt w base g F l) (hx : EntOk x) (hne : x ∉ l)
    (hv : EntRow w base (.slice A n c) l) (hc : w.cell? ⟨g, 0, none⟩ = some (.slice A n c)) (hb : Below w.heap.size w V2) (hg : V2.grownBy V3 (Value.slice A n c).ownBlock) (ho : EntRow V3 base v3 (l ++ [x]))
    (hat : v3.ownBlock = (Value.slice A n c).ownBlock ∨ v3.ownBlock = some V2.heap.size) : LisEnd base g F w (.bool true) (moreE l x) (.returned (.bool true)) (V3.setCell ⟨g, 0, none⟩ v3) := by
  obtain ⟨v, h1, h2, h3, h4, h5, h7⟩ := h
  have hvv : v = .slice A n c := by
    have := (h1.cell 0).symm.trans hc
    simpa using this
  subst hvv
  have t2 : Touch F w V2 := (Touch.of_below hb).more (fun x hx => by cases hx)
  have t3 : Touch F w V3 := t2.grown hg (fun k hk => Or.inl (h3 k hk))
  have t4 : Touch F w (V3.setCell ⟨g, 0, none⟩ v3) := t3.setCell (p := ⟨g, 0, none⟩) (Or.inl h4) v3
  have hgne : (Value.slice A n c).ownBlock ≠ some g := own_ne hv h1 lis_ne
  have B2 : Blok V2 g 29 #[.slice A n c] := h1.touch (Touch.of_below hb) (by simp)
  have B3 : Blok V3 g 29 #[.slice A n c] := (hg.block g B2.lt (fun e => hgne e.symm)).trans B2
  have B4 : Blok (V3.setCell ⟨g, 0, none⟩ v3) g 29 #[v3] := B3.put 0 v3
  have o4 : EntRow (V3.setCell ⟨g, 0, none⟩ v3) base v3 (l ++ [x]) := own_far ho (own_ne ho B3 lis_ne) v3
  have hm : moreE l x = l ++ [x] := by unfold moreE; rw [if_neg hne]
  rw [hm]
  have hmok : ∀ y ∈ l ++ [x], EntOk y := fun y hy => by
    rcases List.mem_append.1 hy with k | k
    · exact h7 y k
    · rw [List.mem_singleton.1 k]; exact hx
  rcases hat with e | e
  · exact ⟨F, rfl, ⟨v3, B4, o4, fun k hk => h3 k (by rw [← e]; exact hk), h4, fun y hy => ⟨(h5 y hy).1, Nat.lt_of_lt_of_le (h5 y hy).2 t4.size⟩, hmok⟩, fun y hy => Or.inl hy, t4⟩
  · have hlt := o4.lt _ e
    refine ⟨V2.heap.size :: F, rfl, ⟨v3, B4, o4, fun k hk => ?_, List.mem_cons_of_mem _ h4, fun y hy => ?_, hmok⟩, fun y hy => ?_, t4⟩
    · rw [e] at hk
      injection hk with hk
      rw [← hk]
      exact List.mem_cons_self
    · rcases List.mem_cons.1 hy with k | k
      · rw [k]; exact ⟨hlt.1, hlt.2⟩
      · exact ⟨(h5 y k).1, Nat.lt_of_lt_of_le (h5 y k).2 t4.size⟩
    · rcases List.mem_cons.1 hy with k | k
      · rw [k]; exact Or.inr t2.size
      · exact Or.inl k
theorem LisEnd.since {w W : World} {base g : Nat} {F : List Nat} {r : Value} {l : List EntS} {e : Ending} {w' : World} (h : LisEnd base g F W r l e w') (ht : Touch [] w W) : LisEnd base g F w r l e w' := by
  obtain ⟨F', h1, h2, h3, h4⟩ := h
  refine ⟨F', h1, h2, fun x hx => ?_, (ht.more (G := F) (fun x hx => by cases hx)).trans h4 (fun x hx => Or.inl hx)⟩
  rcases h3 x hx with k | k
  · exact Or.inl k
  · exact Or.inr (Nat.le_trans ht.size k)
set_option maxRecDepth 100000 in
theorem rdump_run {w : World} {base g : Nat} {F : List Nat} {l : List EntS} (h : LisAt w base g F l) (hn : l.length ≤ 10000) : Calls Try.prog 12 #[mtp g] w (EntsOut w (sortE l)) := by
  obtain ⟨A, c, c0, -, hrow, hg⟩ := h.shape
  have H2 := Lib.hid (sortr_any _ l w (EntRow.in_ hrow) hn)
  clear h hrow
  generalize l.length = n at *
  generalize sortE l = R at *
  go_enter Try.func12, Try.ntmps12
  go_wp2_with fail
  refine H2.out.mono ?_
  rintro e w' ⟨A, c, rfl, hrow, hb⟩
  have HR := Lib.hid hrow
  clear hrow
  go_wp2
  go_ret
  exact ⟨A, c, rfl, HR.out, hb⟩
end Go.Proofs.Ytiaobmgafhcfnaa
