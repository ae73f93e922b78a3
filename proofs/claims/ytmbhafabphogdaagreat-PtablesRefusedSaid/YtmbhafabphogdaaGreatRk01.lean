/- Base, Own, Bytes, Src, IntsDef, FloatFrom -/
import Derived.Test.YtmbhafabphogdaaGreatProg
import Derived.WalkKit
import Derived.WalkLawsBesides
import Derived.WalkSpells
import Derived.LoopTactic
import Derived.Lib.Hide
import Derived.Laws.BitsAllLaws
import Derived.Laws.BitsLemmas
import Derived.Laws.IdiomStrings
import Derived.Deep.OwnRows
import Derived.Deep.QuietTactic
import Derived.BigQuiet
import Derived.RegionTactic
import Derived.ChangeAlike
import Derived.OpenShut
import Derived.Below
import Derived.Laws.OwnMore
import Derived.Deep.Draws
import Derived.Maps.AppendAt
import Derived.Laws.Externs
/- Base -/
namespace Go.Proofs.YtmbhafabphogdaaGreat
open Go.RowKit
set_option linter.unusedVariables false

theorem ret_int {k : IntKind} {a b : Int} (h : a = b) : Ending.returned (.int k a) = .returned (.int k b) := by rw [h]
theorem val_int {k : IntKind} {a b : Int} (h : a = b) : Value.int k a = .int k b := by rw [h]
theorem ret_str {a b : ByteArray} (h : a = b) : Ending.returned (.string a) = .returned (.string b) := by rw [h]
theorem ret_bool {a b : Bool} (h : a = b) : Ending.returned (.bool a) = .returned (.bool b) := by rw [h]
theorem below_drewN {B : Nat} {a w : World} (h : Below B a w) (n : Nat) : Below B a (w.drewN n) := ⟨h.os, h.tape, h.output, h.size, h.block⟩
theorem bj {a b c : World} (h : Below a.heap.size a b) (k : Below b.heap.size b c) : Below a.heap.size a c := h.trans (k.mono h.size)
theorem u64_nat {a : Int} (h : (Lit.int .u64 a).wf = true) : ∃ n : Nat, a = n ∧ n < 18446744073709551616 := by
  have := bounds_u64 h
  exact ⟨a.toNat, by omega, by omega⟩
theorem u32_nat {a : Int} (h : (Lit.int .u32 a).wf = true) : ∃ n : Nat, a = n ∧ n < 4294967296 := by
  have := bounds_u32 h
  exact ⟨a.toNat, by omega, by omega⟩
theorem u16_nat {a : Int} (h : (Lit.int .u16 a).wf = true) : ∃ n : Nat, a = n ∧ n < 65536 := by
  have := bounds_u16 h
  exact ⟨a.toNat, by omega, by omega⟩
theorem u8_nat {a : Int} (h : (Lit.int .u8 a).wf = true) : ∃ n : Nat, a = n ∧ n < 256 := by
  have := bounds_u8 h
  exact ⟨a.toNat, by omega, by omega⟩
end Go.Proofs.YtmbhafabphogdaaGreat

/- Own -/
namespace Go.Proofs.YtmbhafabphogdaaGreat
open Go.RowKit
set_option linter.unusedVariables false

/-- Outside some blocks all that was there is as it was. -/
structure Touch (F : List Nat) (w w' : World) : Prop where
  os : w'.os = w.os
  tape : w'.tape = w.tape
  output : w'.output = w.output
  size : w.heap.size ≤ w'.heap.size
  block : ∀ b, b < w.heap.size → b ∉ F → w'.heap[b]? = w.heap[b]?

section
variable {F G : List Nat} {w a b c w' : World}
theorem Touch.refl (F : List Nat) (w : World) : Touch F w w := ⟨rfl, rfl, rfl, Nat.le_refl _, fun _ _ _ => rfl⟩
theorem Touch.trans (h : Touch F a b) (k : Touch G b c) (hG : ∀ x ∈ G, x ∈ F ∨ a.heap.size ≤ x) : Touch F a c :=
  ⟨k.os.trans h.os, k.tape.trans h.tape, k.output.trans h.output, Nat.le_trans h.size k.size, fun x hx hn =>
    (k.block x (Nat.lt_of_lt_of_le hx h.size) (fun hg => by rcases hG x hg with h1 | h1; exact hn h1; omega)).trans (h.block x hx hn)⟩
theorem Touch.more (h : Touch F a b) (hG : ∀ x ∈ F, x ∈ G ∨ a.heap.size ≤ x) : Touch G a b :=
  ⟨h.os, h.tape, h.output, h.size, fun x hx hn => h.block x hx (fun hf => by rcases hG x hf with h1 | h1; exact hn h1; omega)⟩
theorem Touch.drew (h : Touch F a w) : Touch F a w.drew := ⟨h.os, h.tape, h.output, h.size, h.block⟩
theorem Touch.drewN (h : Touch F a w) (n : Nat) : Touch F a (w.drewN n) := ⟨h.os, h.tape, h.output, h.size, h.block⟩
theorem Touch.alloc (h : Touch F a w) (o : Obj) : Touch F a (w.alloc o) :=
  h.trans (G := []) ⟨rfl, rfl, rfl, by simp, fun k hk _ => Below.heap_alloc _ _ _ hk⟩ (fun _ h => by cases h)
theorem Touch.setCell (h : Touch F a w) {p : Addr} (hp : p.block ∈ F ∨ a.heap.size ≤ p.block) (u : Value) : Touch F a (w.setCell p u) :=
  h.trans (G := [p.block]) ⟨rfl, rfl, rfl, by simp [World.setCell], fun k _ hn => Below.heap_setCell _ _ _ _ (fun e => hn (by simp [e]))⟩ (fun x hx => by
    obtain rfl : x = p.block := by simpa using hx
    exact hp)
theorem Touch.grown (h : Touch F a w) {row : Option Nat} (hg : w.grownBy w' row) (hr : ∀ k, row = some k → k ∈ F ∨ a.heap.size ≤ k) : Touch F a w' :=
  h.trans (G := row.toList) ⟨hg.os, hg.tape, hg.output, hg.size, fun k hk hn => hg.block k hk (fun e => hn (by rw [← e]; simp))⟩ (fun x hx => hr x (by simpa using hx))
theorem Touch.of_below (h : Below w.heap.size w w') : Touch [] w w' := ⟨h.os, h.tape, h.output, h.size, fun k hk _ => h.block k hk⟩
theorem Touch.below (h : Touch F w w') {B : Nat} (hB : B ≤ w.heap.size) (hF : ∀ x ∈ F, B ≤ x) : Below B w w' :=
  ⟨h.os, h.tape, h.output, h.size, fun k hk => h.block k (by omega) (fun hf => by have := hF k hf; omega)⟩
theorem Touch.cell (h : Touch F w w') {p : Addr} (hp : p.block < w.heap.size) (hn : p.block ∉ F) : w'.cell? p = w.cell? p := World.cell?_of_block (w := w) (h.block p.block hp hn)
end

/-- A block that is known whole. -/
def Blok (w : World) (g : Nat) (t : TypeId) (cs : Array Value) : Prop := w.heap[g]? = some (.cells cs t (0, 0))
section
variable {F : List Nat} {w w' : World} {g : Nat} {t : TypeId} {cs : Array Value}
theorem Blok.lt (h : Blok w g t cs) : g < w.heap.size := by
  rcases Nat.lt_or_ge g w.heap.size with hlt | hge
  · exact hlt
  · unfold Blok at h; rw [Array.getElem?_eq_none hge] at h; cases h
theorem Blok.cell (h : Blok w g t cs) (i : Nat) : w.cell? ⟨g, i, none⟩ = cs[i]? := cell_of_row w g i cs t (0, 0) h
theorem Blok.frozen (h : Blok w g t cs) (i : Nat) : w.frozen? ⟨g, i, none⟩ = false := frozen_of_row w g i cs t h
theorem Blok.new (w : World) (t : TypeId) (cs : Array Value) : Blok (w.alloc (.cells cs t)) w.heap.size t cs := heap_alloc_new w _
theorem Blok.drew (h : Blok w g t cs) : Blok w.drew g t cs := h
theorem Blok.drewN (h : Blok w g t cs) (n : Nat) : Blok (w.drewN n) g t cs := h
theorem Blok.alloc (h : Blok w g t cs) (o : Obj) : Blok (w.alloc o) g t cs := (Below.heap_alloc w o g h.lt).trans h
theorem Blok.put (h : Blok w g t cs) (i : Nat) (u : Value) : Blok (w.setCell ⟨g, i, none⟩ u) g t (cs.setIfInBounds i u) := heap_setCell_same w g i cs t u h
theorem Blok.far (h : Blok w g t cs) {p : Addr} (hp : g ≠ p.block) (u : Value) : Blok (w.setCell p u) g t cs := (heap_setCell_other w p g u hp).trans h
theorem Blok.touch (h : Blok w g t cs) (ht : Touch F w w') (hg : g ∉ F) : Blok w' g t cs := (ht.block g h.lt hg).trans h
theorem Blok.type_ne {g' : Nat} {t' : TypeId} {cs' : Array Value} (h : Blok w g t cs) (h' : Blok w g' t' cs') (hne : t ≠ t') : g ≠ g' := by
  rintro rfl
  unfold Blok at h h'
  rw [h] at h'
  injection h' with h'
  injection h' with _ ht
  exact hne ht
end

section
variable {F : List Nat} {w w' : World} {base : Nat} {e : TypeId} {size n : Nat} {v : Value} {xs : List Value}
theorem own_touch (h : w.ownsRow base e size v n xs) (ht : Touch F w w') (hF : ∀ b, v.ownBlock = some b → b ∉ F) : w'.ownsRow base e size v n xs := by
  refine ⟨h.1, ?_⟩
  rcases h.2 with h0 | ⟨g, cap, cur, rfl, hb, hg, h1, h2, h3, h4⟩
  · exact .inl h0
  · have hlt : g < w.heap.size := (h.lt g rfl).2
    exact .inr ⟨g, cap, cur, rfl, hb, (ht.block g hlt (hF g rfl)).trans hg, h1, h2, h3, h4⟩
theorem own_far (h : w.ownsRow base e size v n xs) {p : Addr} (hp : v.ownBlock ≠ some p.block) (u : Value) : (w.setCell p u).ownsRow base e size v n xs :=
  own_touch h (Touch.setCell (F := [p.block]) (Touch.refl _ w) (Or.inl (by simp)) u) (fun b hb hm => hp (by rw [hb]; simpa using hm))
theorem own_ne {g : Nat} {t : TypeId} {cs : Array Value} (h : w.ownsRow base e size v n xs) (hg : Blok w g t cs) (hne : e ≠ t) : v.ownBlock ≠ some g := by
  rcases h.2 with ⟨rfl, _⟩ | ⟨g', cap, cur, rfl, _, hh, _⟩
  · simp [Value.ownBlock]
  · intro he
    have : g' = g := by simpa [Value.ownBlock] using he
    subst this
    exact Blok.type_ne (show Blok w g' e cur from hh) hg hne rfl
theorem own_own_ne {base' : Nat} {e' : TypeId} {size' n' : Nat} {v' : Value} {xs' : List Value} (h : w.ownsRow base e size v n xs) (h' : w.ownsRow base' e' size' v' n' xs') (hne : e ≠ e') : ∀ b, v'.ownBlock = some b → v.ownBlock ≠ some b := by
  intro b hb
  rcases h'.2 with ⟨rfl, _⟩ | ⟨g', cap, cur, rfl, _, hh, _⟩
  · simp [Value.ownBlock] at hb
  · obtain rfl : g' = b := by simpa [Value.ownBlock] using hb
    exact own_ne h (show Blok w g' e' cur from hh) hne
/-- The slice's own shape. -/
theorem own_form (h : w.ownsRow base e size v n xs) : ∃ A cap, v = .slice A n cap ∧ n ≤ cap ∧ cap ≤ maxLen ∧ (0 < n → ∃ b, A = some ⟨b, 0, none⟩ ∧ base ≤ b ∧ b < w.heap.size) ∧ (A = none → n = 0 ∧ cap = 0) := by
  rcases h.2 with ⟨rfl, rfl⟩ | ⟨g, cap, cur, rfl, hb, hg, h1, h2, h3, h4⟩
  · exact ⟨none, 0, rfl, Nat.le_refl _, Nat.zero_le _, fun h => absurd h (by omega), fun _ => ⟨rfl, rfl⟩⟩
  · exact ⟨_, cap, rfl, h1, h2, fun _ => ⟨g, rfl, hb, (h.lt g rfl).2⟩, fun h => by cases h⟩
end
end Go.Proofs.YtmbhafabphogdaaGreat

/- Bytes -/
namespace Go.Proofs.YtmbhafabphogdaaGreat
open Go.RowKit
set_option linter.unusedVariables false

/-- The first n cells of block b are known, and none of them is marked. -/
def RowB (w : World) (b : Nat) (n : Nat) (f : Nat → Value) : Prop :=
  ∃ (c : Array Value) (t : TypeId) (fr : Nat × Nat), w.heap[b]? = some (.cells c t fr) ∧ n ≤ c.size ∧ (fr = (0, 0) ∨ n ≤ fr.1) ∧ ∀ i, i < n → c[i]? = some (f i)
namespace RowB
variable {w : World} {b n : Nat} {f g : Nat → Value}
theorem cell (h : RowB w b n f) {i : Nat} (hi : i < n) : w.cell? ⟨b, i, none⟩ = some (f i) := by
  obtain ⟨c, t, fr, hb, _, _, hc⟩ := h
  simp [World.cell?, hb, hc i hi]
theorem frozen (h : RowB w b n f) {i : Nat} (hi : i < n) : w.frozen? ⟨b, i, none⟩ = false := by
  obtain ⟨c, t, ⟨lo, hi'⟩, hb, _, hf, _⟩ := h
  rcases hf with hf | hf
  · cases hf
    simp [World.frozen?, hb]
  · have hf' : n ≤ lo := hf
    simp [World.frozen?, hb]
    omega
theorem lt (h : RowB w b n f) : b < w.heap.size := by
  obtain ⟨c, t, fr, hb, _⟩ := h
  obtain ⟨hlt, _⟩ := Array.getElem?_eq_some_iff.1 hb
  exact hlt
theorem congr (h : RowB w b n f) (e : ∀ i, i < n → f i = g i) : RowB w b n g := by
  obtain ⟨c, t, fr, hb, hn, hf, hc⟩ := h
  exact ⟨c, t, fr, hb, hn, hf, fun i hi => by rw [hc i hi, e i hi]⟩
theorem of_block {w' : World} (h : RowB w b n f) (e : w'.heap[b]? = w.heap[b]?) : RowB w' b n f := by
  obtain ⟨c, t, fr, hb, hn, hf, hc⟩ := h
  exact ⟨c, t, fr, e.trans hb, hn, hf, hc⟩
theorem below {w' : World} (h : RowB w b n f) (hb : Below w.heap.size w w') : RowB w' b n f := h.of_block (hb.block _ h.lt)
theorem drew (h : RowB w b n f) : RowB w.drew b n f := h
theorem set (h : RowB w b n f) (i : Nat) (v : Value) : RowB (w.setCell ⟨b, i, none⟩ v) b n (fun j => if j = i then v else f j) := by
  obtain ⟨c, t, fr, hb, hn, hf, hc⟩ := h
  refine ⟨c.setIfInBounds i v, t, fr, ?_, by simpa using hn, hf, fun j hj => ?_⟩
  · simp [World.setCell, Array.getElem?_modify, hb]
  · rw [Array.getElem?_setIfInBounds]
    by_cases e : j = i
    · subst e
      simp [show j < c.size by omega]
    · rw [if_neg (fun h => e h.symm)]
      show c[j]? = some (if j = i then v else f j)
      rw [if_neg e]
      exact hc j hj
end RowB

/-- Cell j of a list of bytes. -/
def u8At (l : List UInt8) (j : Nat) : Value := .int .u8 ((l.getD j 0).toNat : Int)

/-- The world behind '[]byte(s)'. -/
def bytesIn (e : TypeId) (w : World) (s : ByteArray) : World :=
  w.drew.alloc (.cells (bytesRow s (grownCap w s.size 0 e)) e ((bytesRow s (grownCap w s.size 0 e)).size, (bytesRow s (grownCap w s.size 0 e)).size + 1))
theorem bytesIn_below (e : TypeId) {w0 w : World} (s : ByteArray) (h : Below w0.heap.size w0 w) : Below w0.heap.size w0 (bytesIn e w s) := h.drew.alloc h.size _
theorem bytesIn_row (e : TypeId) (w : World) (s : ByteArray) : RowB (bytesIn e w s) w.heap.size s.size (u8At s.data.toList) := by
  have hs : s.size ≤ (bytesRow s (grownCap w s.size 0 e)).size := by
    unfold bytesRow
    rw [Array.size_append, Array.size_map]
    have : s.data.size = s.size := rfl
    omega
  refine ⟨bytesRow s (grownCap w s.size 0 e), e, ((bytesRow s (grownCap w s.size 0 e)).size, (bytesRow s (grownCap w s.size 0 e)).size + 1), ?_, hs, Or.inr hs, fun i hi => ?_⟩
  · show (w.heap.push _)[w.heap.size]? = _
    simp
  have hi' : i < s.data.size := hi
  unfold bytesRow u8At
  rw [Array.getElem?_append_left (by simpa using hi'), Array.getElem?_map, Array.getElem?_eq_getElem hi', List.getD_eq_getElem?_getD, Array.getElem?_toList, Array.getElem?_eq_getElem hi']
  rfl
theorem conv_in (w : World) (s : ByteArray) : (convert 9 96 (.string s)).run Tryz.prog w = .ok (.slice (some ⟨w.heap.size, 0, none⟩) s.size (grownCap w s.size 0 5)) (bytesIn 5 w s) :=
  run_bytes_of_string (P := Tryz.prog) w 9 96 5 s Tryz.underlying9 Tryz.underlying96 Tryz.underlying5
/-- 'string(b)' of a row that is known. -/
theorem conv_out {w : World} {b n : Nat} {l : List UInt8} (h : RowB w b n (u8At l)) (hl : l.length = n) (cap : Nat) : (convert 96 9 (.slice (some ⟨b, 0, none⟩) n cap)).run Tryz.prog w = .ok (.string ⟨l.toArray⟩) w := by
  have h := run_convert_bytes_back (P := Tryz.prog) w 96 9 5 ⟨b, 0, none⟩ cap l Tryz.underlying96 Tryz.underlying5 Tryz.underlying9
    (fun j hj => by
      have e : (⟨b, 0, none⟩ : Addr).add j = ⟨b, j, none⟩ := by simp [Addr.add]; omega
      rw [e, h.cell (by omega)]
      unfold u8At
      rw [List.getD_eq_getElem?_getD, List.getElem?_eq_getElem hj]
      rfl)
  rw [hl] at h
  exact h
end Go.Proofs.YtmbhafabphogdaaGreat

/- Src -/
namespace Go.Proofs.YtmbhafabphogdaaGreat
open Go.RowKit
set_option linter.unusedVariables false

/-- A slice whose elements are these cells; nil, if there are none, may be. -/
def SrcAt (w : World) (size : Nat) (v : Value) (m : Nat) (news : List Value) : Prop :=
  news.length = m * size ∧ ((∃ c, v = .slice none 0 c ∧ m = 0) ∨ ∃ a c, v = .slice (some a) m c ∧ ∀ j u, news[j]? = some u → w.cell? (a.add j) = some u)

section
variable {P : Program}
theorem run_append_src (w : World) (base : Nat) (t e : TypeId) (i : TypeInfo) (z : Value) (size bytes : Nat) (ty : TypeId) (ht : P.underlying t = some (.slice e)) (hi : P.info? e = some i) (hz : i.zero = some z)
    (hsize : i.size = size) (hby : i.bytes = bytes) (hzs : z.cells.size = size) (hsz : 0 < size)
    (v : Value) (n : Nat) (xs : List Value) (hown : w.ownsRow base e size v n xs) (vx : Value) (m : Nat) (news : List Value) (hs : SrcAt w size vx m news) (h1 : ∀ u ∈ news, u.oneCell' = true)
    (h63 : n + m ≤ maxLen) (hbytes : (n + m) * bytes ≤ 140737488355328) (hbase : base ≤ w.heap.size) :
    ∃ v' w', (Builtin.append_ #[t, t] ty #[v, vx]).run P w = .ok v' w' ∧ w'.ownsRow base e size v' (n + m) (xs ++ news) ∧ w.grownBy w' v.ownBlock ∧ (v'.ownBlock = v.ownBlock ∨ v'.ownBlock = some w.heap.size) := by
  rcases hs.2 with ⟨c, rfl, rfl⟩ | ⟨a, c, rfl, hc⟩
  · have hn : news = [] := List.eq_nil_of_length_eq_zero (by simpa using hs.1)
    subst hn
    refine ⟨v, w, ?_, by simpa using hown, ⟨rfl, rfl, rfl, Nat.le_refl _, fun _ _ _ => rfl⟩, Or.inl rfl⟩
    rcases hown.2 with ⟨rfl, rfl⟩ | ⟨g, cap, cur, rfl, _, _, hnc, _⟩
    · simp [Builtin.append_, run_underlying ht, sizeOf, typeInfo, hi, Builtin.lenOf, Builtin.firstCells]
    · simp [Builtin.append_, run_underlying ht, sizeOf, typeInfo, hi, Builtin.lenOf, Builtin.firstCells, hnc, storeCells]
  · obtain ⟨v', w', e1, e2, e3, _, e5⟩ := run_append_own_at (P := P) w base t ty e i z size bytes ht hi hz hsize hby hzs hsz v n xs hown a m c news hs.1 hc h1 h63 hbytes hbase
    exact ⟨v', w', e1, e2, e3, e5⟩
theorem step_append_run {ops : Array Oper} {o : Oper} {a : Act} {w w' : World} {K : Act → World → Prop} {Q : Exit → Act → World → Prop} {E : Prop} {vs vx v' : Value} (hgd : o.guard = none) (s x : Operand) (t : TypeId)
    (ho : o.op = .call { callee := .builtin .append, args := #[s, x], argTypes := #[t, t] }) (hs : a.eval s = vs) (hx : a.eval x = vx)
    (hr : (Builtin.append_ #[t, t] o.type #[vs, vx]).run P w = .ok v' w') (h : K (a.put o.dst v') w') : if Region.wanted o (yielded ops a.tmps) = true then Oper.wp P o a w K Q else E := by
  have hw : Region.wanted o (yielded ops a.tmps) = true := by simp [Region.wanted, hgd]
  rw [if_pos hw]
  unfold Oper.wp execOp
  simp only [ho, resolve, invoke, builtin, Sem.run_bind, Sem.run_pure, Result.andThen_ok, List.map_toArray, List.map_cons, List.map_nil, hs, hx, hr]
  exact h
end

theorem wpList_append_two {P : Program} {w w' : World} {ops : Array Oper} {rest : List Oper} {o : Oper} {a : Act} {Q : Exit → Act → World → Prop} {vs vx v' : Value} {t tx : TypeId} (hgd : o.guard = none) (s x : Operand)
    (ho : o.op = .call { callee := .builtin .append, args := #[s, x], argTypes := #[t, tx] }) (hs : a.eval s = vs) (hx : a.eval x = vx) (hr : (Builtin.append_ #[t, tx] o.type #[vs, vx]).run P w = .ok v' w') (h : wpList P ops Q rest (a.put o.dst v') w') : wpList P ops Q (o :: rest) a w := by
  refine wpList_plain hgd fun K' hK' => ?_
  unfold Oper.wp execOp
  simp only [ho, resolve, invoke, builtin, Sem.run_bind, Sem.run_pure, Result.andThen_ok, List.map_toArray, List.map_cons, List.map_nil, hs, hx, hr]
  exact hK' _ _ h
end Go.Proofs.YtmbhafabphogdaaGreat

/- IntsDef -/
namespace Go.Proofs.YtmbhafabphogdaaGreat
open Go.RowKit
set_option linter.unusedVariables false

def IntsIn (w : World) (v : Value) (l : List Int) : Prop :=
  (l = [] ∧ ∃ a c, v = .slice a 0 c) ∨ ∃ b off cap, v = .slice (some ⟨b, off, none⟩) l.length cap ∧ l.length ≤ cap ∧ cap ≤ maxLen ∧ b < w.heap.size ∧ ∀ i x, l[i]? = some x → w.cell? ⟨b, off + i, none⟩ = some (.int .i64 x)
theorem IntsIn.cell {w : World} {v : Value} {l : List Int} (h : IntsIn w v l) : ∃ A off cap, v = .slice A l.length cap ∧ l.length ≤ maxLen ∧ ∀ i x, l[i]? = some x → ∃ b, A = some ⟨b, off, none⟩ ∧ w.cell? ⟨b, off + i, none⟩ = some (.int .i64 x) := by
  rcases h with ⟨rfl, a, c, rfl⟩ | ⟨b, off, cap, h1, h2, h3, h4, h5⟩
  · exact ⟨a, 0, c, rfl, Nat.zero_le _, fun i x h => by simp at h⟩
  · exact ⟨some ⟨b, off, none⟩, off, cap, h1, by omega, fun i x hx => ⟨b, rfl, h5 i x hx⟩⟩
end Go.Proofs.YtmbhafabphogdaaGreat

/- FloatFrom -/
namespace Go.Proofs.YtmbhafabphogdaaGreat
open Go.RowKit
set_option linter.unusedVariables false

theorem ret_w64 {a b : Int} (h : a = b) : Ending.returned (.int .u64 a) = .returned (.int .u64 b) := by rw [h]
theorem ret_f64 {a b : Nat} (h : a = b) : Ending.returned (.float .f64 a) = .returned (.float .f64 b) := by rw [h]

/-- A test on a word, in the walk's words. -/
theorem ge_yes {b c : Nat} (h : c ≤ b) : decide ((c : Int) ≤ (b : Int)) = true := decide_eq_true (by omega)
theorem ge_no {b c : Nat} (h : ¬ c ≤ b) : decide ((c : Int) ≤ (b : Int)) = false := decide_eq_false (by omega)
theorem lt_yes {b c : Nat} (h : b < c) : decide ((b : Int) < (c : Int)) = true := decide_eq_true (by omega)
theorem lt_no {b c : Nat} (h : ¬ b < c) : decide ((b : Int) < (c : Int)) = false := decide_eq_false (by omega)

end Go.Proofs.YtmbhafabphogdaaGreat
