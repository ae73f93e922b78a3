/- A table and the document's, side by side; a guest's blocks beside both. -/
import Derived.Test.YtiaobmgafhcfnaaMtRefAdd
import Derived.Test.YtiaobmgafhcfnaaMtAdd
import Derived.Test.YtiaobmgafhcfnaaMtAsk
namespace Go.Proofs.Ytiaobmgafhcfnaa
open Go.RowKit Go.Shelf
set_option linter.unusedVariables false

/-- The table has tl, the document's has rl; E: blocks that belong to neither. -/
def Pair (w0 : World) (g gr : Nat) (tl rl : List EntS) (E : List Nat) (w : World) : Prop :=
  ∃ F G, TabAt w w0.heap.size g F tl ∧ LisAt w w0.heap.size gr G rl ∧ (∀ x ∈ F, x ∉ G) ∧ Below w0.heap.size w0 w ∧ ∀ b ∈ E, b ∉ F ∧ b ∉ G ∧ b < w.heap.size ∧ w0.heap.size ≤ b
/-- A call on one of both. -/
def PairEnd (w0 : World) (g gr : Nat) (r : Value) (tl rl : List EntS) (E : List Nat) (w : World) (e : Ending) (w' : World) : Prop :=
  e = .returned r ∧ Pair w0 g gr tl rl E w' ∧ ∀ b ∈ E, w'.heap[b]? = w.heap[b]?
section
variable {w0 w w' : World} {g gr : Nat} {tl rl m : List EntS} {E E' : List Nat}
theorem Pair.kept (h : Pair w0 g gr tl rl E w) : Below w0.heap.size w0 w := by
  obtain ⟨F, G, h1, h2, h3, h4, h5⟩ := h
  exact h4
theorem Pair.tab (h : Pair w0 g gr tl rl E w) : ∃ F, TabAt w w0.heap.size g F tl := by
  obtain ⟨F, G, h1, h2, h3, h4, h5⟩ := h
  exact ⟨F, h1⟩
theorem Pair.lis (h : Pair w0 g gr tl rl E w) : ∃ G, LisAt w w0.heap.size gr G rl := by
  obtain ⟨F, G, h1, h2, h3, h4, h5⟩ := h
  exact ⟨G, h2⟩
theorem Pair.has (h : Pair w0 g gr tl rl E w) : Has w (mtp g) tl := h.tab.elim fun _ k => k.has
theorem LisAt.all {w : World} {base g : Nat} {F : List Nat} {l : List EntS} (h : LisAt w base g F l) : ∀ x ∈ F, base ≤ x ∧ x < w.heap.size := by
  obtain ⟨v, h1, h2, h3, h4, h5, h6⟩ := h
  exact h5
theorem TabAt.all2 {w : World} {base g : Nat} {F : List Nat} {l : List EntS} (h : TabAt w base g F l) : ∀ x ∈ F, base ≤ x ∧ x < w.heap.size := by
  obtain ⟨v, h1, h2, h3, h4, h5, h6, h7⟩ := h
  exact h5
/-- A guest's own doing. -/
theorem Pair.own (h : Pair w0 g gr tl rl E w) (ht : Touch E w w') : Pair w0 g gr tl rl E w' := by
  obtain ⟨F, G, h1, h2, h3, h4, h5⟩ := h
  exact ⟨F, G, h1.touch ht (fun x hx hm => (h5 x hm).1 hx), h2.touch ht (fun x hx hm => (h5 x hm).2.1 hx), h3, h4.trans (ht.below h4.size (fun x hx => (h5 x hx).2.2.2)), fun b hb => ⟨(h5 b hb).1, (h5 b hb).2.1, Nat.lt_of_lt_of_le (h5 b hb).2.2.1 ht.size, (h5 b hb).2.2.2⟩⟩
theorem Pair.below (h : Pair w0 g gr tl rl E w) (hb : Below w.heap.size w w') : Pair w0 g gr tl rl E w' := h.own ((Touch.of_below hb).more (fun x hx => by cases hx))
theorem Pair.drew (h : Pair w0 g gr tl rl E w) : Pair w0 g gr tl rl E w.drew := h.below (Below.refl _ _).drew
theorem Pair.drewN (h : Pair w0 g gr tl rl E w) (n : Nat) : Pair w0 g gr tl rl E (w.drewN n) := h.below (below_drewN (Below.refl _ _) n)
/-- One guest more: what was made since. -/
theorem Pair.more (h : Pair w0 g gr tl rl E w) (hb : Below w.heap.size w w') {b : Nat} (h1 : w.heap.size ≤ b) (h2 : b < w'.heap.size) : Pair w0 g gr tl rl (b :: E) w' := by
  obtain ⟨F, G, k1, k2, k3, k4, k5⟩ := h
  refine ⟨F, G, k1.below hb, k2.below hb, k3, k4.trans (hb.mono k4.size), fun x hx => ?_⟩
  rcases List.mem_cons.1 hx with e | hx
  · rw [e]
    exact ⟨fun hm => (by have := (k1.all2 b hm).2; omega), fun hm => (by have := (k2.all b hm).2; omega), h2, Nat.le_trans k4.size h1⟩
  · exact ⟨(k5 x hx).1, (k5 x hx).2.1, Nat.lt_of_lt_of_le (k5 x hx).2.2.1 hb.size, (k5 x hx).2.2.2⟩
theorem Pair.less (h : Pair w0 g gr tl rl E w) (hE : ∀ x ∈ E', x ∈ E) : Pair w0 g gr tl rl E' w := by
  obtain ⟨F, G, k1, k2, k3, k4, k5⟩ := h
  exact ⟨F, G, k1, k2, k3, k4, fun x hx => k5 x (hE x hx)⟩
theorem Pair.onTab (h : Pair w0 g gr tl rl E w) {P : Program} {f : FuncId} {args : Array Value} {r : Value} (hc : ∀ F, TabAt w w0.heap.size g F tl → Calls P f args w (TabEnd w0.heap.size g F w r m)) : Calls P f args w (PairEnd w0 g gr r m rl E w) := by
  obtain ⟨F, G, h1, h2, h3, h4, h5⟩ := h
  refine (hc F h1).mono ?_
  rintro e w' ⟨F', rfl, k1, k2, k3⟩
  refine ⟨rfl, ⟨F', G, k1, h2.touch k3 (fun x hx hm => h3 x hm hx), fun x hx hm => ?_, h4.trans (k3.below h4.size (fun x hx => (h1.all2 x hx).1)), fun b hb => ⟨fun hm => ?_, (h5 b hb).2.1, Nat.lt_of_lt_of_le (h5 b hb).2.2.1 k3.size, (h5 b hb).2.2.2⟩⟩, fun b hb => k3.block b (h5 b hb).2.2.1 (h5 b hb).1⟩
  · rcases k2 x hx with k | k
    · exact h3 x k hm
    · have := (h2.all x hm).2; omega
  · rcases k2 b hm with k | k
    · exact (h5 b hb).1 k
    · have := (h5 b hb).2.2.1; omega
theorem Pair.onLis (h : Pair w0 g gr tl rl E w) {P : Program} {f : FuncId} {args : Array Value} {r : Value} (hc : ∀ G, LisAt w w0.heap.size gr G rl → Calls P f args w (LisEnd w0.heap.size gr G w r m)) : Calls P f args w (PairEnd w0 g gr r tl m E w) := by
  obtain ⟨F, G, h1, h2, h3, h4, h5⟩ := h
  refine (hc G h2).mono ?_
  rintro e w' ⟨G', rfl, k1, k2, k3⟩
  refine ⟨rfl, ⟨F, G', h1.touch k3 (fun x hx hm => h3 x hx hm), k1, fun x hx hm => ?_, h4.trans (k3.below h4.size (fun x hx => (h2.all x hx).1)), fun b hb => ⟨(h5 b hb).1, fun hm => ?_, Nat.lt_of_lt_of_le (h5 b hb).2.2.1 k3.size, (h5 b hb).2.2.2⟩⟩, fun b hb => k3.block b (h5 b hb).2.2.1 (h5 b hb).2.1⟩
  · rcases k2 x hm with k | k
    · exact h3 x hx k
    · have := (h1.all2 x hx).2; omega
  · rcases k2 b hm with k | k
    · exact (h5 b hb).2.1 k
    · have := (h5 b hb).2.2.1; omega
theorem Pair.add (h : Pair w0 g gr tl rl E w) {x : EntS} (hx : EntOk x) (hn : tl.length ≤ 100000) :
    Calls Try.prog 17 #[mtp g, entB x] w (PairEnd w0 g gr (.bool (!decide (x ∈ tl))) (layEn tl x) rl E w) := h.onTab fun F k => add_run k hx hn
theorem Pair.radd (h : Pair w0 g gr tl rl E w) {x : EntS} (hx : EntOk x) (hn : rl.length ≤ 100000) :
    Calls Try.prog 18 #[mtp gr, entB x] w (PairEnd w0 g gr (.bool (!decide (x ∈ rl))) tl (moreE rl x) E w) := h.onLis fun F k => radd_run k hx hn
theorem Pair.clear (h : Pair w0 g gr tl rl E w) : Calls Try.prog 16 #[mtp g] w (PairEnd w0 g gr (.tuple #[]) [] rl E w) := h.onTab fun F k => tclear_run k
theorem Pair.len (h : Pair w0 g gr tl rl E w) : Calls Try.prog 19 #[mtp g] w fun e w' => e = .returned (.int .i64 (tl.length : Nat)) ∧ w = w' := h.tab.elim fun _ k => tlen_run k
theorem Pair.rdump (h : Pair w0 g gr tl rl E w) (hn : rl.length ≤ 10000) : Calls Try.prog 12 #[mtp gr] w (EntsOut w (sortE rl)) := h.lis.elim fun _ k => rdump_run k hn
theorem Pair.cell (h : Pair w0 g gr tl rl E w) : ∃ A c, w.cell? ⟨gr, 0, none⟩ = some (.slice A rl.length c) ∧ w.frozen? ⟨gr, 0, none⟩ = false := by
  obtain ⟨G, k⟩ := h.lis
  obtain ⟨A, c, c0, f0, -, -⟩ := k.shape
  exact ⟨A, c, c0, f0⟩
/-- The document's is emptied. -/
theorem Pair.wipe (h : Pair w0 g gr tl rl E w) : Pair w0 g gr tl [] E (w.setCell ⟨gr, 0, none⟩ (.slice none 0 0)) := by
  obtain ⟨F, G, h1, h2, h3, h4, h5⟩ := h
  obtain ⟨v, q1, q2, q3, q4, q5, q6⟩ := h2
  have ht : Touch [gr] w (w.setCell ⟨gr, 0, none⟩ (.slice none 0 0)) := (Touch.refl [gr] w).setCell (p := ⟨gr, 0, none⟩) (Or.inl (List.mem_singleton.2 rfl)) _
  have B1 := q1.put 0 (.slice none 0 0)
  exact ⟨F, G, h1.touch ht (fun x hx hm => h3 x hx (by rw [List.mem_singleton.1 hm]; exact q4)), ⟨.slice none 0 0, B1, EntRow.nil _ _, fun k hk => (by cases hk), q4, fun x hx => ⟨(q5 x hx).1, Nat.lt_of_lt_of_le (q5 x hx).2 ht.size⟩, fun x hx => by cases hx⟩, h3, h4.trans (ht.below h4.size (fun x hx => by rw [List.mem_singleton.1 hx]; exact (q5 gr q4).1)), fun b hb => ⟨(h5 b hb).1, (h5 b hb).2.1, Nat.lt_of_lt_of_le (h5 b hb).2.2.1 ht.size, (h5 b hb).2.2.2⟩⟩
end

/-- A list that was told, and may be written over. -/
def Wiped (w0 : World) (g gr : Nat) (tl rl : List EntS) (X : Nat) (A : Option Addr) (n : Nat) (w : World) : Prop :=
  (n = 0 ∧ Pair w0 g gr tl rl [X] w) ∨ ∃ (b o : Nat) (cs : Array Value), A = some ⟨b, o, none⟩ ∧ Blok w b 32 cs ∧ o + n * 3 ≤ cs.size ∧ Pair w0 g gr tl rl [b, X] w
section
variable {w0 w w' : World} {g gr X : Nat} {tl rl m : List EntS}
theorem Wiped.of_row {A : Option Addr} {c : Nat} (h : Pair w0 g gr tl rl [X] w) (hb : Below w.heap.size w w') (hr : EntRow w' w.heap.size (.slice A m.length c) m) : Wiped w0 g gr tl rl X A m.length w' := by
  rcases hr.2 with ⟨e, h0⟩ | ⟨b, cap, cur, hv, hg, hh, hn, hm, hsz, ht⟩
  · exact Or.inl ⟨h0, h.below hb⟩
  · obtain ⟨rfl, -, -⟩ := Value.slice.inj hv
    have B1 : Blok w' b 32 cur := hh
    exact Or.inr ⟨b, 0, cur, rfl, B1, by rw [hsz]; omega, h.more hb hg B1.lt⟩
theorem Wiped.pair {A : Option Addr} {n : Nat} (h : Wiped w0 g gr tl rl X A n w) : Pair w0 g gr tl rl [X] w := by
  rcases h with ⟨-, h⟩ | ⟨b, o, cs, -, -, -, h⟩
  · exact h
  · exact h.less (fun x hx => List.mem_cons_of_mem _ hx)
theorem Wiped.below {A : Option Addr} {n : Nat} (h : Wiped w0 g gr tl rl X A n w) (hb : Below w.heap.size w w') : Wiped w0 g gr tl rl X A n w' := by
  rcases h with ⟨h0, h⟩ | ⟨b, o, cs, h1, h2, h3, h⟩
  · exact Or.inl ⟨h0, h.below hb⟩
  · exact Or.inr ⟨b, o, cs, h1, h2.touch (Touch.of_below hb) (by simp), h3, h.below hb⟩
/-- One entry of it is written over. -/
theorem Wiped.put {A : Option Addr} {n k : Nat} (h : Wiped w0 g gr tl rl X A n w) (hk : k < n) (u v z : Value) : ∃ b o, A = some ⟨b, o, none⟩ ∧ (∀ j, j < 3 → (∃ y, w.cell? ⟨b, o + k * 3 + j, none⟩ = some y) ∧ w.frozen? ⟨b, o + k * 3 + j, none⟩ = false) ∧
    Wiped w0 g gr tl rl X A n (((w.setCell ⟨b, o + k * 3, none⟩ u).setCell ⟨b, o + k * 3 + 1, none⟩ v).setCell ⟨b, o + k * 3 + 2, none⟩ z) := by
  rcases h with ⟨h0, -⟩ | ⟨b, o, cs, h1, h2, h3, h⟩
  · omega
  · refine ⟨b, o, h1, fun j hj => ⟨⟨cs[o + k * 3 + j]'(by omega), ?_⟩, h2.frozen _⟩, Or.inr ⟨b, o, _, h1, ((h2.put (o + k * 3) u).put (o + k * 3 + 1) v).put (o + k * 3 + 2) z, by simpa using h3, ?_⟩⟩
    · rw [h2.cell]
      exact Array.getElem?_eq_getElem _
    · exact h.own ((((Touch.refl _ w).setCell (p := ⟨b, o + k * 3, none⟩) (Or.inl List.mem_cons_self) u).setCell (p := ⟨b, o + k * 3 + 1, none⟩) (Or.inl List.mem_cons_self) v).setCell (p := ⟨b, o + k * 3 + 2, none⟩) (Or.inl List.mem_cons_self) z)
end
/-- An entry and a bool, as they were told and laid. -/
def MtTold (x : EntS) (q : Bool) (u v : Value) (w : World) : Prop := ∃ b, u = .pointer (some ⟨b, 0, none⟩) ∧ v = .bool q ∧ EnAt w b x.h x.v x.p
theorem mt_new (w : World) (x : EntS) (q : Bool) : MtTold x q (.pointer (some ⟨w.heap.size, 0, none⟩)) (.bool q) (w.alloc (.cells #[.int .u64 (x.h : Nat), .int .i64 x.v, .int .i64 x.p] 32)) := ⟨w.heap.size, rfl, rfl, Blok.new _ _ _⟩
theorem mt_blok {w : World} {g : Nat} {T : TypeId} {a b c : Value} (h : Blok w g T #[a, b, c]) : w.cell? ⟨g, 0, none⟩ = some a ∧ w.cell? ⟨g, 1, none⟩ = some b ∧ w.cell? ⟨g, 2, none⟩ = some c ∧ w.frozen? ⟨g, 0, none⟩ = false ∧ w.frozen? ⟨g, 1, none⟩ = false ∧ w.frozen? ⟨g, 2, none⟩ = false :=
  ⟨Blok.cell h 0, Blok.cell h 1, Blok.cell h 2, Blok.frozen h 0, Blok.frozen h 1, Blok.frozen h 2⟩
theorem mt_put {w : World} {g : Nat} {a b c : Value} (h : Blok w g 32 #[a, b, c]) (x : EntS) (q : Bool) : MtTold x q (.pointer (some ⟨g, 0, none⟩)) (.bool q) (((w.setCell ⟨g, 0, none⟩ (.int .u64 (x.h : Nat))).setCell ⟨g, 1, none⟩ (.int .i64 x.v)).setCell ⟨g, 2, none⟩ (.int .i64 x.p)) :=
  ⟨g, rfl, rfl, Blok.put (Blok.put (Blok.put h 0 _) 1 _) 2 _⟩
theorem mt_three {w0 w : World} {g : Nat} (h : Below w0.heap.size w0 w) (hg : w0.heap.size ≤ g) (a b c : Value) : Below w0.heap.size w0 (((w.setCell ⟨g, 0, none⟩ a).setCell ⟨g, 1, none⟩ b).setCell ⟨g, 2, none⟩ c) := ((h.setCell hg _).setCell hg _).setCell hg _
theorem mt_one {B : Nat} {W0 W : World} {b i : Nat} {u : Value} (h : Below B W0 W) (hp : B ≤ b) : Below B W0 (W.setCell ⟨b, i, none⟩ u) := h.setCell hp u
/-- How many there are. -/
theorem lay_length {l : List EntS} {x : EntS} (h : x ∉ l) : (layEn l x).length = l.length + 1 := by
  rw [lay_new h, List.length_append, List.length_append, List.length_take, List.length_drop, List.length_singleton]
  have := posE_le l x
  omega
theorem more_same {rl : List EntS} {x : EntS} (h : (sortE rl).length = rl.length) : (sortE (moreE rl x)).length = (moreE rl x).length := by
  rw [more_sort]
  by_cases hm : x ∈ rl
  · rw [lay_old (sort_rise rl) (mem_sort.2 hm), show moreE rl x = rl from if_pos hm, h]
  · rw [lay_length (fun k => hm (mem_sort.1 k)), show moreE rl x = rl ++ [x] from if_neg hm, List.length_append, h]
    rfl
end Go.Proofs.Ytiaobmgafhcfnaa
