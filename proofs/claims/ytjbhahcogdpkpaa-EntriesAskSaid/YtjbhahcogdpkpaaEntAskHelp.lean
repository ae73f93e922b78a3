/- What the walk of EntriesAsk stands on. -/
import Derived.Test.YtjbhahcogdpkpaaEntered
import Derived.Test.YtjbhahcogdpkpaaEntSortRef
import Derived.Test.YtjbhahcogdpkpaaEntAskRef
import Derived.Test.YtjbhahcogdpkpaaEntLastRef
import Derived.Test.YtjbhahcogdpkpaaEntSame
namespace Go.Proofs.Ytjbhahcogdpkpaa.EnAsk
open Go.RowKit Go.Shelf
set_option linter.unusedVariables false
attribute [local go_sem ↓] Go.wp_at_zero Go.wp_at_succ

theorem long (v : Value) (l : List EntS) (one : EntS) (b : Int) (w : World) (hl : EntsIn w v l) (h : 100 < l.length) :
    Calls Try.prog 4 #[v, entB one, .int .i64 b] w fun e w' => e = .returned (.bool true) ∧ Below w.heap.size w w' := by
  obtain ⟨A, off, cap, rfl, hm, -⟩ := hl.form
  have hbw := (Below.refl w.heap.size w).alloc (Nat.le_refl _) (.cells #[.int .u64 (one.h : Nat), .int .i64 one.v, .int .i64 one.p] 24)
  have HE := Lib.hid entered_true
  unfold maxLen at hm
  have l1 : (100 : Int) < (l.length : Int) := by omega
  clear hl
  generalize l.length = n at *
  obtain ⟨ah, av, ap⟩ := one
  go_enter Try.func4, Try.ntmps4
  go_wp2_with fail
  refine (HE.out _).mono ?_
  rintro e w2 ⟨rfl, hb2⟩
  go_wp2
  go_ret
  exact ⟨rfl, bj hbw hb2⟩

/-- Hashes in memory. -/
def u64s (l : List Nat) : List Value := l.map fun (n : Nat) => Value.int .u64 (n : Int)
def HashIn (w : World) (v : Value) (l : List Nat) : Prop := ∃ A c, v = .slice A l.length c ∧ ∀ (i : Nat) (x : Nat), l[i]? = some x → ∃ b off, A = some ⟨b, off, none⟩ ∧ b < w.heap.size ∧ w.cell? ⟨b, off + i, none⟩ = some (.int .u64 (x : Nat))
theorem info_hash : (Try.prog.info? 22).map (fun i => (i.zero, i.size, i.bytes)) = some (some (.int .u64 0), 1, 8) := by kernel_rfl
theorem u64s_one {l : List Nat} : ∀ u ∈ u64s l, u.oneCell' = true := by
  intro u hu
  obtain ⟨b, _, rfl⟩ := List.mem_map.1 hu
  rfl
theorem hash_row {w : World} {base : Nat} {v : Value} {l : List Nat} (h : w.ownsRow base 22 1 v l.length (u64s l)) : HashIn w v l := by
  have h' := h
  obtain ⟨A, c, rfl, -, -, hpos, -⟩ := own_form h
  refine ⟨A, c, rfl, fun i x hx => ?_⟩
  have hi : i < l.length := (List.getElem?_eq_some_iff.1 hx).1
  obtain ⟨b, rfl, -, hb⟩ := hpos (by omega)
  refine ⟨b, 0, rfl, hb, ?_⟩
  rw [Nat.zero_add]
  refine (h'.cellAt i (by omega)).trans ?_
  unfold u64s
  rw [List.getElem?_map, hx]
  rfl
theorem HashIn.below {w w' : World} {v : Value} {l : List Nat} (h : HashIn w v l) (hb : Below w.heap.size w w') : HashIn w' v l := by
  obtain ⟨A, c, e, hc⟩ := h
  refine ⟨A, c, e, fun i x hx => ?_⟩
  obtain ⟨b, off, e1, e2, e3⟩ := hc i x hx
  exact ⟨b, off, e1, Nat.lt_of_lt_of_le e2 hb.size, (hb.cell (p := ⟨b, off + i, none⟩) e2).trans e3⟩
theorem hash_one (w : World) (x : Nat) : (w.alloc (.cells #[.int .u64 (x : Nat)] 22)).ownsRow w.heap.size 22 1 (.slice (some ⟨w.heap.size, 0, none⟩) 1 1) [x].length (u64s [x]) := ⟨rfl, Or.inr ⟨w.heap.size, 1, #[.int .u64 (x : Nat)], rfl, Nat.le_refl _, heap_alloc_new w _, Nat.le_refl _, by unfold maxLen; omega, rfl, rfl⟩⟩

theorem own_keep {w w' : World} {base n size : Nat} {e : TypeId} {v : Value} {xs : List Value} (h : w.ownsRow base e size v n xs) (hb : Below w.heap.size w w') : w'.ownsRow base e size v n xs := by
  refine ⟨h.1, ?_⟩
  rcases h.2 with h0 | ⟨g, cap, cur, hv, hg, hh, r⟩
  · exact Or.inl h0
  · obtain ⟨hlt, _⟩ := Array.getElem?_eq_some_iff.1 hh
    exact Or.inr ⟨g, cap, cur, hv, hg, (hb.block g hlt).trans hh, r⟩
theorem hash_low {w3 w4 W V : World} {n c : Nat} (h34 : Below w3.heap.size w3 w4) (hW : Below w4.heap.size w4 W) (hg : W.grownBy V (Value.slice (some ⟨w3.heap.size, 0, none⟩) n c).ownBlock) : Below w3.heap.size w3 V :=
  (bj h34 hW).trans (grown_below hg (Nat.le_trans h34.size hW.size) (fun k hk => by cases hk; exact Nat.le_refl _))
theorem bda (w : World) (o : Obj) : Below w.heap.size w (w.alloc o).drew := ((Below.refl _ _).alloc (Nat.le_refl _) o).drew
theorem step_append_hash {ops : Array Oper} {o : Oper} {a : Act} {w : World} {K : Act → World → Prop} {Q : Exit → Act → World → Prop} {E : Prop} {vs : Value} {base b0 c : Nat} {l : List Nat} {x y : Nat} (hgd : o.guard = none) (s z : Operand)
    (ho : o.op = .call { callee := .builtin .append, args := #[s, z], argTypes := #[33, 33] }) (hs : a.eval s = vs) (hx : a.eval z = .slice (some ⟨b0, 0, none⟩) 2 c)
    (hown : w.ownsRow base 22 1 vs l.length (u64s l)) (hc0 : w.cell? ⟨b0, 0, none⟩ = some (.int .u64 (x : Nat))) (hc1 : w.cell? ⟨b0, 1, none⟩ = some (.int .u64 (y : Nat))) (hl : l.length ≤ 1000) (hb : base ≤ w.heap.size)
    (h : ∀ v' w', w'.ownsRow base 22 1 v' (l ++ [x, y]).length (u64s (l ++ [x, y])) → w.grownBy w' vs.ownBlock → K (a.put o.dst v') w') :
    if Region.wanted o (yielded ops a.tmps) = true then Oper.wp Try.prog o a w K Q else E := by
  obtain ⟨i0, hi, hz0, hz1, hz2⟩ := info_parts info_hash
  have hsrc : SrcAt w 1 (.slice (some ⟨b0, 0, none⟩) 2 c) 2 (u64s [x, y]) := ⟨rfl, Or.inr ⟨⟨b0, 0, none⟩, c, rfl, fun j u hu => by
    match j, hu with
    | 0, hu =>
      have e : Value.int .u64 (x : Nat) = u := by simpa [u64s] using hu
      rw [← e, show (⟨b0, 0, none⟩ : Addr).add 0 = ⟨b0, 0, none⟩ by simp [Addr.add]]
      exact hc0
    | 1, hu =>
      have e : Value.int .u64 (y : Nat) = u := by simpa [u64s] using hu
      rw [← e, show (⟨b0, 0, none⟩ : Addr).add 1 = ⟨b0, 1, none⟩ by simp [Addr.add]]
      exact hc1
    | j + 2, hu => simp [u64s] at hu⟩⟩
  obtain ⟨v', w', e1, e2, e3, e4⟩ := run_append_src (P := Try.prog) w base 33 22 i0 _ 1 8 o.type Try.underlying33 hi hz0 hz1 hz2 rfl (by decide) vs l.length (u64s l) hown _ 2 (u64s [x, y]) hsrc u64s_one (by unfold maxLen; omega) (by omega) hb
  refine step_append_run hgd s z _ ho hs hx e1 (h v' w' ?_ e3)
  have e : u64s (l ++ [x, y]) = u64s l ++ u64s [x, y] := by unfold u64s; rw [List.map_append]
  rw [e, List.length_append]
  exact e2
theorem row_low {w : World} {base base' : Nat} {v : Value} {l : List EntS} (h : EntRow w base v l) (hb : base' ≤ base) : EntRow w base' v l := by
  refine ⟨h.1, ?_⟩
  rcases h.2 with h0 | ⟨g, cap, cur, hv, hg, r⟩
  · exact Or.inl h0
  · exact Or.inr ⟨g, cap, cur, hv, Nat.le_trans hb hg, r⟩
/-- A list that was told, in memory of its own. -/
def RowAt (wo : World) (L : List EntS) (u : Value) (wx : World) : Prop := ∃ A c, u = .slice A L.length c ∧ EntRow wx wo.heap.size (.slice A L.length c) L
/-- An entry that was told, and whether. -/
def EntTold (x : EntS) (q : Bool) (u v : Value) (wx : World) : Prop := ∃ g : Nat, u = .pointer (some ⟨g, 0, none⟩) ∧ v = .bool q ∧ EntAt wx g x.h x.v x.p
theorem told_new (w : World) (x : EntS) (q : Bool) : EntTold x q (.pointer (some ⟨w.heap.size, 0, none⟩)) (.bool q) (w.alloc (.cells #[.int .u64 (x.h : Nat), .int .i64 x.v, .int .i64 x.p] 24)) := ⟨w.heap.size, rfl, rfl, Blok.new _ _ _⟩
theorem blok3 {w : World} {g : Nat} {T : TypeId} {a b c : Value} (h : Blok w g T #[a, b, c]) : w.cell? ⟨g, 0, none⟩ = some a ∧ w.cell? ⟨g, 1, none⟩ = some b ∧ w.cell? ⟨g, 2, none⟩ = some c ∧ w.frozen? ⟨g, 0, none⟩ = false ∧ w.frozen? ⟨g, 1, none⟩ = false ∧ w.frozen? ⟨g, 2, none⟩ = false :=
  ⟨Blok.cell h 0, Blok.cell h 1, Blok.cell h 2, Blok.frozen h 0, Blok.frozen h 1, Blok.frozen h 2⟩
theorem told_put {w : World} {g : Nat} {a b c : Value} (h : Blok w g 24 #[a, b, c]) (x : EntS) (q : Bool) : EntTold x q (.pointer (some ⟨g, 0, none⟩)) (.bool q) (((w.setCell ⟨g, 0, none⟩ (.int .u64 (x.h : Nat))).setCell ⟨g, 1, none⟩ (.int .i64 x.v)).setCell ⟨g, 2, none⟩ (.int .i64 x.p)) :=
  ⟨g, rfl, rfl, Blok.put (Blok.put (Blok.put h 0 _) 1 _) 2 _⟩
theorem low_one {B : Nat} {W0 W : World} {b i : Nat} {u : Value} (h : Below B W0 W) (hp : B ≤ b) : Below B W0 (W.setCell ⟨b, i, none⟩ u) := h.setCell hp u
theorem low_three {w0 w : World} {g : Nat} (h : Below w0.heap.size w0 w) (hg : w0.heap.size ≤ g) (a b c : Value) : Below w0.heap.size w0 (((w.setCell ⟨g, 0, none⟩ a).setCell ⟨g, 1, none⟩ b).setCell ⟨g, 2, none⟩ c) := ((h.setCell hg _).setCell hg _).setCell hg _
/-- A list that may be written over. -/
def Wipe (wo : World) (A : Option Addr) (n : Nat) (W : World) : Prop := n = 0 ∨ ∃ (b o : Nat) (cs : Array Value), A = some ⟨b, o, none⟩ ∧ wo.heap.size ≤ b ∧ Blok W b 24 cs ∧ o + n * 3 ≤ cs.size
theorem wipe_row {wo W : World} {A : Option Addr} {c : Nat} {l : List EntS} (h : EntRow W wo.heap.size (.slice A l.length c) l) : Wipe wo A l.length W := by
  rcases h.2 with ⟨e, h0⟩ | ⟨g, cap, cur, hv, hg, hh, hn, hm, hsz, ht⟩
  · exact Or.inl h0
  · obtain ⟨rfl, -, -⟩ := Value.slice.inj hv
    refine Or.inr ⟨g, 0, cur, rfl, hg, hh, ?_⟩
    rw [hsz, Nat.zero_add]
    exact Nat.mul_le_mul_right 3 hn
theorem wipe_put {wo W : World} {b o n j : Nat} {cs : Array Value} (h1 : wo.heap.size ≤ b) (h2 : Blok W b 24 cs) (h3 : o + n * 3 ≤ cs.size) (x y z : Value) : Wipe wo (some ⟨b, o, none⟩) n (((W.setCell ⟨b, o + j * 3, none⟩ x).setCell ⟨b, o + j * 3 + 1, none⟩ y).setCell ⟨b, o + j * 3 + 2, none⟩ z) :=
  Or.inr ⟨b, o, _, rfl, h1, Blok.put (Blok.put (Blok.put h2 _ _) _ _) _ _, by simp only [Array.size_setIfInBounds]; exact h3⟩
theorem low_wipe {w0 w : World} {g i : Nat} (h : Below w0.heap.size w0 w) (hg : w0.heap.size ≤ g) (a b c : Value) : Below w0.heap.size w0 (((w.setCell ⟨g, i, none⟩ a).setCell ⟨g, i + 1, none⟩ b).setCell ⟨g, i + 2, none⟩ c) := ((h.setCell hg _).setCell hg _).setCell hg _
theorem wipe_cell {W : World} {b i : Nat} {cs : Array Value} (h : Blok W b 24 cs) (hi : i < cs.size) : W.cell? ⟨b, i, none⟩ = some cs[i] ∧ W.frozen? ⟨b, i, none⟩ = false := ⟨(Blok.cell h i).trans (Array.getElem?_eq_getElem hi), Blok.frozen h i⟩
end Go.Proofs.Ytjbhahcogdpkpaa.EnAsk
