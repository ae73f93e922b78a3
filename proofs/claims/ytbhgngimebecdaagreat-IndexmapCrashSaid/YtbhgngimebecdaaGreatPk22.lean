/- MfIn -/
import Derived.Test.YtbhgngimebecdaaGreatPk10
import Derived.Deep.Fields
import Derived.ChangeSame
/- MfIn -/
namespace Go.Proofs.YtbhgngimebecdaaGreat
open Go.ChangeShapes Go.WideShapes Go.ChangeAt Go.RowKit Go.Deep
set_option linter.unusedVariables false
set_option maxRecDepth 100000

def manZero : Value := .agg #[.int .i64 0, .int .i64 0, .int .u64 0, .slice none 0 0]
theorem man_hone : ∃ fs, Tryz.prog.underlying 26 = some (.struct fs) ∧ oneCellFields Tryz.prog fs = true ∧ fs.size = 4 ∧
    (fs[0]?.map Field.type = some 3 ∧ fs[1]?.map Field.type = some 3 ∧ fs[2]?.map Field.type = some 23 ∧ fs[3]?.map Field.type = some 24) :=
  ⟨_, Tryz.underlying26, by kernel_rfl, by kernel_rfl, by kernel_rfl, by kernel_rfl, by kernel_rfl, by kernel_rfl⟩
theorem man_cells : Tryz.prog.cellsOf 26 = 4 := by kernel_rfl
theorem lvs_cell {H : Type} {enc : TypeId × Value → H} {W : World} {fuel : Nat} {c : Value} {d : DataW H} {p : List MemPlace}
    (hf : DataW.trod enc Tryz.prog W 0 (fun _ => true) true fuel 24 [c] = some (d, p)) (hlt : ∀ x ∈ p, x.block < W.heap.size) : ∃ L, LvsIn W c L ∧ ∀ x ∈ L, ∀ y ∈ x.l, InI64 y := by
  have hv : ∃ a len cap, c = .slice a len cap := by
    rcases open_slice Tryz.underlying24 hf with ⟨hcs, _⟩ | ⟨a, len', cap', m, n, D, Pl, hcs, _⟩
    · exact ⟨none, 0, 0, by simpa using hcs⟩
    · exact ⟨some a, len', cap', by simpa using hcs⟩
  obtain ⟨a, len, cap, rfl⟩ := hv
  exact lvs_in ⟨a, len, cap, rfl⟩ ⟨fuel, hf⟩ hlt
theorem man_in {H : Type} {enc : TypeId × Value → H} {W : World} {fuel : Nat} {cs : List Value} {d : DataW H} {p : List MemPlace}
    (hf : DataW.trod enc Tryz.prog W 0 (fun _ => true) true fuel 26 cs = some (d, p)) (hlt : ∀ x ∈ p, x.block < W.heap.size) :
    ∃ (a b c : Int) (v : Value) (L : List LvS), cs = [.int .i64 a, .int .i64 b, .int .u64 c, v] ∧ (Lit.int .u64 c).wf = true ∧ LvsIn W v L := by
  obtain ⟨fs, hs, hone, hsz, t0, t1, t2, t3⟩ := man_hone
  obtain ⟨xs, n, _, hx, hlen, hxl, hg⟩ := DataW.trod_struct hs hf
  simp only [Prod.mk.injEq] at hx
  obtain ⟨_, rfl⟩ := hx
  rw [man_cells] at hlen
  match cs, hlen with
  | [c0, c1, c2, c3], _ =>
    have step : ∀ (i : Nat) (t : TypeId), fs[i]?.map Field.type = some t → ∃ yy, xs[i]? = some yy ∧ DataW.trod enc Tryz.prog W 0 (fun _ => true) true n t ((([c0, c1, c2, c3] : List Value).drop i).take 1) = some yy := by
      intro i t ht
      cases hfi : fs[i]? with
      | none => rw [hfi] at ht; cases ht
      | some f =>
        rw [hfi] at ht
        obtain rfl : f.type = t := by simpa using ht
        obtain ⟨ho, hk⟩ := hone_of hone i f hfi
        have h1 := hg i f hfi
        rw [ho, hk] at h1
        have hil : i < xs.length := by rw [hxl]; exact (Array.getElem?_eq_some_iff.1 hfi).1
        refine ⟨xs[i], List.getElem?_eq_getElem hil, ?_⟩
        rw [h1, List.getElem?_eq_getElem hil]
    obtain ⟨y0, _, h0⟩ := step 0 _ t0
    obtain ⟨y1, _, h1⟩ := step 1 _ t1
    obtain ⟨y2, _, h2⟩ := step 2 _ t2
    obtain ⟨⟨d3, p3⟩, hx3, h3⟩ := step 3 _ t3
    obtain ⟨k0, e0, _, w0⟩ := DataW.trod_int Tryz.underlying3 h0
    obtain ⟨k1, e1, _, w1⟩ := DataW.trod_int Tryz.underlying3 h1
    obtain ⟨k2, e2, _, w2⟩ := DataW.trod_int Tryz.underlying23 h2
    have q0 : c0 = .int .i64 k0 := by simpa using e0
    have q1 : c1 = .int .i64 k1 := by simpa using e1
    have q2 : c2 = .int .u64 k2 := by simpa using e2
    have h3' : DataW.trod enc Tryz.prog W 0 (fun _ => true) true n 24 [c3] = some (d3, p3) := h3
    obtain ⟨L, hL, -⟩ := lvs_cell h3' (fun x hx => hlt x (List.mem_flatMap.2 ⟨_, List.mem_of_getElem? hx3, hx⟩))
    exact ⟨k0, k1, k2, c3, L, by rw [q0, q1, q2], w2, hL⟩
theorem okWide_man {W : World} {r : Reach} {base : Nat} {v : Value} (h : Value.okWide Tryz.prog W r base 26 v) : ∃ cs, v = .agg cs := by
  obtain ⟨fs, hs, _⟩ := man_hone
  obtain ⟨cs, e, _⟩ := okWide_struct hs h
  exact ⟨cs, e⟩
/-- A manifest, as it came in. -/
def ManIn (W : World) (x : Value) : Prop := ∃ (n c : Int) (d : Nat) (A : Option Addr) (k cp : Nat) (R : LvL), x = manV n c d (.slice A k cp) ∧ k = R.length ∧ LvsHas W (.slice A k cp) R ∧ d < 18446744073709551616 ∧ R.length ≤ maxLen
theorem ManIn.below {w w' : World} {x : Value} {B : Nat} (h : ManIn w x) (hb : Below B w w') (hB : w.heap.size ≤ B) : ManIn w' x := by
  obtain ⟨n, c, d, A, k, cp, R, h1, h2, h3, h4⟩ := h
  exact ⟨n, c, d, A, k, cp, R, h1, h2, h3.below hb hB, h4⟩
theorem man1_in {H : Type} {enc : TypeId × Value → H} {W : World} {v : Value} {d : DataW H} {p : List MemPlace} (hval : ∃ cs, v = .agg cs)
    (hd : DataW.Trod enc Tryz.prog W 0 (fun _ => true) true 26 v d p) (hlt : ∀ x ∈ p, x.block < W.heap.size) : ManIn W v := by
  obtain ⟨cs, rfl⟩ := hval
  obtain ⟨fuel, hf⟩ := hd
  obtain ⟨a, b, c, u, L, hx, h1, h2⟩ := man_in hf hlt
  obtain ⟨n, rfl, hn⟩ := u64_nat h1
  have hh : LvsHas W u (lvl L) := ⟨L, h2, rfl⟩
  obtain ⟨A, off, cap, rfl, hmx, -⟩ := hh.form
  refine ⟨a, b, n, A, _, cap, lvl L, ?_, rfl, hh, hn, hmx⟩
  have e : cs.toList = [.int .i64 a, .int .i64 b, .int .u64 n, .slice A (lvl L).length cap] := hx
  unfold manV
  rw [← Array.toArray_toList (xs := cs), e]
/-- What is read of it behind the call. -/
theorem man1_out {H : Type} {enc : TypeId × Value → H} {W W' : World} {v : Value} {d : DataW H} {p : List MemPlace}
    (hd : DataW.Trod enc Tryz.prog W 0 (fun _ => true) true 26 v d p) (hlt : ∀ x ∈ p, x.block < W.heap.size) (hb : Below W.heap.size W W') :
    DataW.Trod enc Tryz.prog W' 0 (fun b => decide (b < W.heap.size)) true 26 v d p :=
  Below.trod ints_laidOut (by kernel_rfl) (of_decide_eq_true (by kernel_rfl)) hd hb hlt
end Go.Proofs.YtbhgngimebecdaaGreat
