/- What is done with a table, as it came in; three numbers, as they came in. -/
import Derived.Test.YtiaobmgafhcfnaaEnts
import Derived.OpenShut
namespace Go.Proofs.Ytiaobmgafhcfnaa
open Go.ChangeShapes Go.WideShapes Go.ChangeAt Go.RowKit Go.Deep
set_option linter.unusedVariables false

structure MAct where
  k : Nat
  e : EntS
  t : Int
def mactCells (x : MAct) : List Value := [.int .u8 (x.k : Nat), .int .u64 (x.e.h : Nat), .int .i64 x.e.v, .int .i64 x.e.p, .int .i64 x.t]
abbrev mactB (x : MAct) : Value := .agg #[.int .u8 (x.k : Nat), .int .u64 (x.e.h : Nat), .int .i64 x.e.v, .int .i64 x.e.p, .int .i64 x.t]
def mactZero : Value := .agg #[.int .u8 0, .int .u64 0, .int .i64 0, .int .i64 0, .int .i64 0]
structure MActOk (x : MAct) : Prop where
  k : x.k < 256
  e : EntOk x.e
  t0 : -9223372036854775808 ≤ x.t
  t1 : x.t ≤ 9223372036854775807
theorem mact_fields : ∃ fs, Try.prog.underlying 34 = some (.struct fs) ∧ fs.size = 3 ∧
    (fs[0]?.map (fun f => (f.type, f.offset, Try.prog.cellsOf f.type)) = some (5, 0, 1) ∧ fs[1]?.map (fun f => (f.type, f.offset, Try.prog.cellsOf f.type)) = some (32, 1, 3) ∧ fs[2]?.map (fun f => (f.type, f.offset, Try.prog.cellsOf f.type)) = some (3, 4, 1)) :=
  ⟨_, Try.underlying34, by kernel_rfl, by kernel_rfl, by kernel_rfl, by kernel_rfl⟩
theorem mact_cells : Try.prog.cellsOf 34 = 5 := by kernel_rfl
set_option maxRecDepth 100000 in
theorem mact_in {H : Type} {enc : TypeId × Value → H} {W : World} {fuel : Nat} {cs : List Value} {y : DataW H × List MemPlace}
    (hf : DataW.trod enc Try.prog W 0 (fun _ => true) true fuel 34 cs = some y) : ∃ x, cs = mactCells x ∧ MActOk x := by
  obtain ⟨fs, hs, hsz, t0, t1, t2⟩ := mact_fields
  obtain ⟨xs, n, _, rfl, hlen, hxl, hg⟩ := DataW.trod_struct hs hf
  rw [mact_cells] at hlen
  match cs, hlen with
  | [c0, c1, c2, c3, c4], _ =>
    have step : ∀ (i : Nat) (t : TypeId) (o k : Nat), fs[i]?.map (fun f => (f.type, f.offset, Try.prog.cellsOf f.type)) = some (t, o, k) → ∃ yy, DataW.trod enc Try.prog W 0 (fun _ => true) true n t ((([c0, c1, c2, c3, c4] : List Value).drop o).take k) = some yy := by
      intro i t o k ht
      cases hfi : fs[i]? with
      | none => rw [hfi] at ht; cases ht
      | some f =>
        rw [hfi] at ht
        simp only [Option.map_some, Option.some.injEq, Prod.mk.injEq] at ht
        obtain ⟨rfl, rfl, rfl⟩ := ht
        have h1 := hg i f hfi
        have hil : i < xs.length := by rw [hxl]; exact (Array.getElem?_eq_some_iff.1 hfi).1
        exact ⟨xs[i], by rw [h1, List.getElem?_eq_getElem hil]⟩
    obtain ⟨y0, h0⟩ := step 0 _ _ _ t0
    obtain ⟨y1, h1⟩ := step 1 _ _ _ t1
    obtain ⟨y2, h2⟩ := step 2 _ _ _ t2
    obtain ⟨k, e0, _, wk⟩ := DataW.trod_int Try.underlying5 h0
    obtain ⟨x, e1, ok1⟩ := ent_in h1
    obtain ⟨i2, e2, _, w2⟩ := DataW.trod_int Try.underlying3 h2
    obtain ⟨kn, rfl, hk⟩ := u8_nat wk
    have b2 := bounds_i64 w2
    refine ⟨⟨kn, x, i2⟩, ?_, hk, ok1, b2.1, b2.2⟩
    have q0 : c0 = .int .u8 (kn : Nat) := by simpa using e0
    have q1 : [c1, c2, c3] = entCells x := e1
    have q2 : c4 = .int .i64 i2 := by simpa using e2
    unfold entCells at q1
    simp only [List.cons.injEq, and_true] at q1
    obtain ⟨r1, r2, r3⟩ := q1
    rw [q0, q2, r1, r2, r3]
    rfl
/-- A slice of them. -/
def MActsIn (w : World) (v : Value) (l : List MAct) : Prop :=
  (l = [] ∧ ∃ a c, v = .slice a 0 c) ∨ ∃ b off cap, v = .slice (some ⟨b, off, none⟩) l.length cap ∧ l.length ≤ cap ∧ cap ≤ maxLen ∧ b < w.heap.size ∧
    ∀ i x, l[i]? = some x → ∀ j u, (mactCells x)[j]? = some u → w.cell? ⟨b, off + (i * 5 + j), none⟩ = some u
theorem macts_of {p : Nat → MAct → Prop} : ∀ n, (∀ i, i < n → ∃ x, p i x) → ∃ l : List MAct, l.length = n ∧ ∀ i x, l[i]? = some x → p i x
  | 0, _ => ⟨[], rfl, fun i x h => by simp at h⟩
  | n + 1, h => by
    obtain ⟨l, hl, hp⟩ := macts_of n (fun i hi => h i (by omega))
    obtain ⟨x, hx⟩ := h n (by omega)
    refine ⟨l ++ [x], by rw [List.length_append, hl]; rfl, fun i y hy => ?_⟩
    rcases Nat.lt_or_ge i n with c | c
    · rw [List.getElem?_append_left (by omega)] at hy
      exact hp i y hy
    · rw [List.getElem?_append_right (by omega), hl] at hy
      have : i = n := by
        have := (List.getElem?_eq_some_iff.1 hy).1
        simp at this
        omega
      subst this
      rw [Nat.sub_self] at hy
      obtain rfl : x = y := by simpa using hy
      exact hx
set_option maxRecDepth 100000 in
theorem macts_in {H : Type} {enc : TypeId × Value → H} {W : World} {v : Value} {d : DataW H} {p : List MemPlace} (hval : ∃ a len cap, v = .slice a len cap)
    (hd : DataW.Trod enc Try.prog W 0 (fun _ => true) true 22 v d p) (hlt : ∀ x ∈ p, x.block < W.heap.size) : ∃ l, MActsIn W v l ∧ ∀ x ∈ l, MActOk x := by
  obtain ⟨a0, len, cap, rfl⟩ := hval
  obtain ⟨fuel, hf⟩ := hd
  rcases open_slice Try.underlying22 hf with ⟨hcs, hx⟩ | ⟨a, len', cap', m, n, D, Pl, hcs, _, hl, hm, hmm, hx, hi⟩
  · simp [Value.cells] at hcs
    obtain ⟨rfl, rfl, rfl⟩ := hcs
    exact ⟨[], Or.inl ⟨rfl, _, _, rfl⟩, fun x hx => by cases hx⟩
  · simp [Value.cells] at hcs
    obtain ⟨rfl, rfl, rfl⟩ := hcs
    simp only [Prod.mk.injEq] at hx
    obtain ⟨rfl, rfl⟩ := hx
    simp only [if_true] at hmm
    rw [mact_cells] at hi hlt
    by_cases hl0 : len = 0
    · subst hl0
      exact ⟨[], Or.inl ⟨rfl, _, _, rfl⟩, fun x hx => by cases hx⟩
    · have each : ∀ i, i < len → ∃ x, MActOk x ∧ ∀ j u, (mactCells x)[j]? = some u → W.cell? (a.add (i * 5 + j)) = some u := by
        intro i hil
        obtain ⟨cs', hc, ht⟩ := hi i (by omega)
        obtain ⟨_, hcl, hat⟩ := World.cells?_some hc
        obtain ⟨x, rfl, hok⟩ := mact_in ht
        refine ⟨x, hok, fun j u hu => ?_⟩
        have hj : j < 5 := by have := (List.getElem?_eq_some_iff.1 hu).1; rw [hcl] at this; exact this
        rw [← Go.Deep.add_add, hat j hj]
        exact hu
      obtain ⟨b, off, spot⟩ := a
      have hspot : spot = none := by
        obtain ⟨x, _, hx⟩ := each 0 (by omega)
        simpa [Addr.add] using World.cell?_spot (hx 0 _ rfl)
      subst hspot
      obtain ⟨l, hll, hlp⟩ := macts_of len each
      have hbW : b < W.heap.size := hlt (.cell b off) (List.mem_append_left _ (MemPlace.mem_row.2 ⟨0, by omega, by simp⟩))
      refine ⟨l, Or.inr ⟨b, off, cap, by rw [hll], by omega, hm, hbW, fun i x hx j u hu => ?_⟩, fun x hx => ?_⟩
      · have h := (hlp i x hx).2 j u hu
        have ea : (⟨b, off, none⟩ : Addr).add (i * 5 + j) = ⟨b, off + (i * 5 + j), none⟩ := by unfold Addr.add; split <;> simp_all
        rw [ea] at h
        exact h
      · obtain ⟨i, hi⟩ := List.getElem?_of_mem hx
        exact (hlp i x hi).1
theorem MActsIn.form {w : World} {v : Value} {l : List MAct} (h : MActsIn w v l) : ∃ A off cap, v = .slice A l.length cap ∧ l.length ≤ maxLen ∧
    ∀ i x, l[i]? = some x → ∃ b, A = some ⟨b, off, none⟩ ∧ b < w.heap.size ∧ w.cell? ⟨b, off + i * 5, none⟩ = some (.int .u8 (x.k : Nat)) ∧ w.cell? ⟨b, off + i * 5 + 1, none⟩ = some (.int .u64 (x.e.h : Nat)) ∧ w.cell? ⟨b, off + i * 5 + 2, none⟩ = some (.int .i64 x.e.v) ∧
      w.cell? ⟨b, off + i * 5 + 3, none⟩ = some (.int .i64 x.e.p) ∧ w.cell? ⟨b, off + i * 5 + 4, none⟩ = some (.int .i64 x.t) := by
  rcases h with ⟨rfl, a, c, rfl⟩ | ⟨b, off, cap, rfl, h2, h3, h4, h5⟩
  · exact ⟨a, 0, c, rfl, Nat.zero_le _, fun i x h => by simp at h⟩
  · exact ⟨some ⟨b, off, none⟩, off, cap, rfl, by omega, fun i x hx => ⟨b, rfl, h4, h5 i x hx 0 _ rfl, h5 i x hx 1 _ rfl, h5 i x hx 2 _ rfl, h5 i x hx 3 _ rfl, h5 i x hx 4 _ rfl⟩⟩
set_option maxRecDepth 100000 in
theorem okWide_mact {W : World} {r : Reach} {base : Nat} {v : Value} (h : Value.okWide Try.prog W r base 34 v) : ∃ cs, v = .agg cs := by
  obtain ⟨fs, hs, _⟩ := mact_fields
  obtain ⟨cs, e, _⟩ := okWide_struct hs h
  exact ⟨cs, e⟩
set_option maxRecDepth 100000 in
theorem mact1_in {H : Type} {enc : TypeId × Value → H} {W : World} {v : Value} {d : DataW H} {p : List MemPlace} (hval : ∃ cs, v = .agg cs)
    (hd : DataW.Trod enc Try.prog W 0 (fun _ => true) true 34 v d p) (hlt : ∀ x ∈ p, x.block < W.heap.size) : ∃ x, v = mactB x ∧ MActOk x := by
  obtain ⟨cs, rfl⟩ := hval
  obtain ⟨fuel, hf⟩ := hd
  obtain ⟨x, hx, hok⟩ := mact_in hf
  refine ⟨x, ?_, hok⟩
  have e : cs.toList = mactCells x := hx
  rw [← Array.toArray_toList (xs := cs), e]
  rfl
/-- What is read of them behind the call. -/
theorem macts_out {H : Type} {enc : TypeId × Value → H} {W W' : World} {v : Value} {d : DataW H} {p : List MemPlace}
    (hd : DataW.Trod enc Try.prog W 0 (fun _ => true) true 22 v d p) (hlt : ∀ x ∈ p, x.block < W.heap.size) (hb : Below W.heap.size W W') :
    DataW.Trod enc Try.prog W' 0 (fun b => decide (b < W.heap.size)) true 22 v d p :=
  Below.trod ents_laidOut (by kernel_rfl) (of_decide_eq_true (by kernel_rfl)) hd hb hlt
theorem mact1_out {H : Type} {enc : TypeId × Value → H} {W W' : World} {v : Value} {d : DataW H} {p : List MemPlace}
    (hd : DataW.Trod enc Try.prog W 0 (fun _ => true) true 34 v d p) (hlt : ∀ x ∈ p, x.block < W.heap.size) (hb : Below W.heap.size W W') :
    DataW.Trod enc Try.prog W' 0 (fun b => decide (b < W.heap.size)) true 34 v d p :=
  Below.trod ents_laidOut (by kernel_rfl) (of_decide_eq_true (by kernel_rfl)) hd hb hlt

def arr3 (a b c : Int) : Value := .agg #[.int .i64 a, .int .i64 b, .int .i64 c]
def arr3Zero : Value := .agg #[.int .i64 0, .int .i64 0, .int .i64 0]
theorem arr3_cells : Try.prog.cellsOf 51 = 3 := by kernel_rfl
theorem arr3_one : Try.prog.cellsOf 3 = 1 := by kernel_rfl
theorem okWide_arr3 {W : World} {r : Reach} {b0 : Nat} {v : Value} (hval : Value.okWide Try.prog W r b0 51 v) : ∃ cs, v = .agg cs := by
  simp only [Value.okWide, Try.underlying51] at hval
  obtain ⟨cs, h1, _⟩ := hval
  exact ⟨cs, h1⟩
structure I64 (a : Int) : Prop where
  lo : -9223372036854775808 ≤ a
  hi : a ≤ 9223372036854775807
theorem arr3_in {H : Type} {enc : TypeId × Value → H} {W : World} {v : Value} {d : DataW H} {p : List MemPlace} (hval : ∃ cs, v = .agg cs)
    (hd : DataW.Trod enc Try.prog W 0 (fun _ => true) true 51 v d p) : ∃ a b c : Int, (I64 a ∧ I64 b ∧ I64 c) ∧ v = arr3 a b c := by
  obtain ⟨cs, rfl⟩ := hval
  obtain ⟨fuel, hf⟩ := hd
  have hf' : DataW.trod enc Try.prog W 0 (fun _ => true) true fuel 51 cs.toList = some (d, p) := hf
  obtain ⟨xs, m, _, _, hlen, hxl, hat⟩ := DataW.trod_array Try.underlying51 hf'
  rw [arr3_cells] at hlen
  rw [arr3_one] at hat
  have key : ∀ i c, cs.toList[i]? = some c → ∃ k : Int, c = Value.int .i64 k ∧ I64 k := fun i c hc => by
    have hi : i < 3 := by have := (List.getElem?_eq_some_iff.1 hc).1; omega
    have h1 := hat i hi
    have e1 : (cs.toList.drop (i * 1)).take 1 = [c] := by
      obtain ⟨hl, e⟩ := List.getElem?_eq_some_iff.1 hc
      rw [Nat.mul_one, List.drop_eq_getElem_cons hl, e]
      rfl
    rw [e1, List.getElem?_eq_getElem (by omega)] at h1
    obtain ⟨k, ek, _, wk⟩ := DataW.trod_int Try.underlying3 h1
    have := bounds_i64 wk
    exact ⟨k, by simpa using ek, this.1, this.2⟩
  obtain ⟨l, hl⟩ : ∃ l, l = cs.toList := ⟨_, rfl⟩
  rw [← hl] at hlen key
  match l, hlen with
  | [c0, c1, c2], _ =>
    obtain ⟨a, rfl, ha⟩ := key 0 _ rfl
    obtain ⟨b, rfl, hb⟩ := key 1 _ rfl
    obtain ⟨c, rfl, hc⟩ := key 2 _ rfl
    refine ⟨a, b, c, ⟨ha, hb, hc⟩, ?_⟩
    unfold arr3
    rw [← Array.toArray_toList (xs := cs), ← hl]
theorem arr3_out {H : Type} {enc : TypeId × Value → H} {W W' : World} {v : Value} {d : DataW H} {p : List MemPlace}
    (hd : DataW.Trod enc Try.prog W 0 (fun _ => true) true 51 v d p) (hlt : ∀ x ∈ p, x.block < W.heap.size) (hb : Below W.heap.size W W') :
    DataW.Trod enc Try.prog W' 0 (fun b => decide (b < W.heap.size)) true 51 v d p :=
  Below.trod ents_laidOut (by kernel_rfl) (of_decide_eq_true (by kernel_rfl)) hd hb hlt
end Go.Proofs.Ytiaobmgafhcfnaa
