/- A batch, its events by their bits, that came in, as plain data. -/
import Derived.Test.YtnefofcofccmfaaRaws
namespace Go.Proofs.Ytnefofcofccmfaa
open Go.ChangeShapes Go.WideShapes Go.ChangeAt Go.RowKit Go.Deep
set_option linter.unusedVariables false

def batV (s : ByteArray) (f : Int) (v : Value) : Value := .agg #[.string s, .int .i64 f, v]
def braZero : Value := .agg #[.string ByteArray.empty, .int .i64 0, .slice none 0 0]

theorem bra_hone : ∃ fs, Try.prog.underlying 24 = some (.struct fs) ∧ oneCellFields Try.prog fs = true ∧ fs.size = 3 ∧
    (fs[0]?.map Field.type = some 9 ∧ fs[1]?.map Field.type = some 3 ∧ fs[2]?.map Field.type = some 22) :=
  ⟨_, Try.underlying24, by kernel_rfl, by kernel_rfl, by kernel_rfl, by kernel_rfl, by kernel_rfl⟩
theorem bra_cells : Try.prog.cellsOf 24 = 3 := by kernel_rfl
theorem raws_cell {H : Type} {enc : TypeId × Value → H} {W : World} {fuel : Nat} {c : Value} {d : DataW H} {p : List MemPlace}
    (hf : DataW.trod enc Try.prog W 0 (fun _ => true) true fuel 22 [c] = some (d, p)) (hlt : ∀ x ∈ p, x.block < W.heap.size) : ∃ l, RawsIn W c l ∧ ∀ x ∈ l, RawOk x := by
  have hv : ∃ a len cap, c = .slice a len cap := by
    rcases open_slice Try.underlying22 hf with ⟨hcs, _⟩ | ⟨a, len', cap', m, n, D, Pl, hcs, _⟩
    · exact ⟨none, 0, 0, by simpa using hcs⟩
    · exact ⟨some a, len', cap', by simpa using hcs⟩
  obtain ⟨a, len, cap, rfl⟩ := hv
  exact raws_in ⟨a, len, cap, rfl⟩ ⟨fuel, hf⟩ hlt
set_option maxRecDepth 100000 in
theorem bra_in {H : Type} {enc : TypeId × Value → H} {W : World} {fuel : Nat} {cs : List Value} {d : DataW H} {p : List MemPlace}
    (hf : DataW.trod enc Try.prog W 0 (fun _ => true) true fuel 24 cs = some (d, p)) (hlt : ∀ x ∈ p, x.block < W.heap.size) :
    ∃ s f v l, cs = [.string s, .int .i64 f, v] ∧ s.size ≤ maxLen ∧ (Lit.int .i64 f).wf = true ∧ RawsIn W v l ∧ ∀ x ∈ l, RawOk x := by
  obtain ⟨fs, hs, hone, hsz, t0, t1, t2⟩ := bra_hone
  obtain ⟨xs, n, _, hx, hlen, hxl, hg⟩ := DataW.trod_struct hs hf
  simp only [Prod.mk.injEq] at hx
  obtain ⟨_, rfl⟩ := hx
  rw [bra_cells] at hlen
  match cs, hlen with
  | [c0, c1, c2], _ =>
    have step : ∀ (i : Nat) (t : TypeId), fs[i]?.map Field.type = some t → ∃ yy, xs[i]? = some yy ∧ DataW.trod enc Try.prog W 0 (fun _ => true) true n t ((([c0, c1, c2] : List Value).drop i).take 1) = some yy := by
      intro i t ht
      cases hfi : fs[i]? with
      | none => rw [hfi] at ht; cases ht
      | some f =>
        rw [hfi] at ht
        obtain rfl : f.type = t := by simpa using ht
        obtain ⟨ho, hk⟩ := hone_of hone i f hfi
        have h1 := hg i f hfi
        rw [ho, hk] at h1
        have hil : i < xs.length := by rw [hxl]; exact (Array.getElem?_eq_some_iff.1 hfi).1
        refine ⟨xs[i], List.getElem?_eq_getElem hil, ?_⟩
        rw [h1, List.getElem?_eq_getElem hil]
    obtain ⟨y0, _, h0⟩ := step 0 _ t0
    obtain ⟨y1, _, h1⟩ := step 1 _ t1
    obtain ⟨⟨d2, p2⟩, hx2, h2⟩ := step 2 _ t2
    obtain ⟨s0, e0, _, w0⟩ := DataW.trod_string Try.underlying9 h0
    obtain ⟨k, e1, _, wk⟩ := DataW.trod_int Try.underlying3 h1
    have q0 : c0 = .string s0 := by simpa using e0
    have q1 : c1 = .int .i64 k := by simpa using e1
    have h2' : DataW.trod enc Try.prog W 0 (fun _ => true) true n 22 [c2] = some (d2, p2) := h2
    obtain ⟨l, hl, hok⟩ := raws_cell h2' (fun x hx => hlt x (List.mem_flatMap.2 ⟨_, List.mem_of_getElem? hx2, hx⟩))
    exact ⟨s0, k, c2, l, by rw [q0, q1], w0, wk, hl, hok⟩
set_option maxRecDepth 100000 in
theorem okWide_bra {W : World} {r : Reach} {base : Nat} {v : Value} (h : Value.okWide Try.prog W r base 24 v) : ∃ cs, v = .agg cs := by
  obtain ⟨fs, hs, _⟩ := bra_hone
  obtain ⟨cs, e, _⟩ := okWide_struct hs h
  exact ⟨cs, e⟩
set_option maxRecDepth 100000 in
theorem bra1_in {H : Type} {enc : TypeId × Value → H} {W : World} {v : Value} {d : DataW H} {p : List MemPlace} (hval : ∃ cs, v = .agg cs)
    (hd : DataW.Trod enc Try.prog W 0 (fun _ => true) true 24 v d p) (hlt : ∀ x ∈ p, x.block < W.heap.size) :
    ∃ s f u l, v = batV s f u ∧ s.size ≤ maxLen ∧ (Lit.int .i64 f).wf = true ∧ RawsIn W u l ∧ ∀ x ∈ l, RawOk x := by
  obtain ⟨cs, rfl⟩ := hval
  obtain ⟨fuel, hf⟩ := hd
  obtain ⟨s, f, u, l, hx, h1, h2, h3, h4⟩ := bra_in hf hlt
  refine ⟨s, f, u, l, ?_, h1, h2, h3, h4⟩
  have e : cs.toList = [.string s, .int .i64 f, u] := hx
  unfold batV
  rw [← Array.toArray_toList (xs := cs), e]
/-- What is read of it behind the call. -/
theorem bra1_out {H : Type} {enc : TypeId × Value → H} {W W' : World} {v : Value} {d : DataW H} {p : List MemPlace}
    (hd : DataW.Trod enc Try.prog W 0 (fun _ => true) true 24 v d p) (hlt : ∀ x ∈ p, x.block < W.heap.size) (hb : Below W.heap.size W W') :
    DataW.Trod enc Try.prog W' 0 (fun b => decide (b < W.heap.size)) true 24 v d p :=
  Below.trod raws_laidOut (by kernel_rfl) (of_decide_eq_true (by kernel_rfl)) hd hb hlt
end Go.Proofs.Ytnefofcofccmfaa
