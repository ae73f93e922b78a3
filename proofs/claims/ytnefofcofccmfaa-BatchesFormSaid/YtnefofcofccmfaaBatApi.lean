/- What the program's batches answer, as hypotheses; the chapter's examples over them. -/
import Derived.Test.YtnefofcofccmfaaBatGetRef
import Derived.Test.YtnefofcofccmfaaBatSameRef
import Derived.Test.YtnefofcofccmfaaBatLaw
namespace Go.Proofs.Ytnefofcofccmfaa
open Go.RowKit
set_option linter.unusedVariables false
attribute [local go_sem] run_store_float

structure BatApi : Prop where
  check : ∀ (s : ByteArray) (f : Int) (v : Value) (l : List RawS) (w : World), BatIn w s f v l → Calls Try.prog 13 #[batV s f v] w fun e w' => e = .returned (.int .i64 (bchk s f l)) ∧ Below w.heap.size w w'
  put : ∀ (s : ByteArray) (f : Int) (v : Value) (l : List RawS) (w : World), BatIn w s f v l → Calls Try.prog 11 #[batV s f v] w fun e w' => e = .returned (.tuple #[.string (batS s f l), .int .i64 (bchk s f l)]) ∧ Below w.heap.size w w'
  get : ∀ (s : ByteArray) (w : World), s.size ≤ 100000 → Calls Try.prog 17 #[.string s] w (GotBat s w)
  same : ∀ (s : ByteArray) (f : Int) (v : Value) (l : List RawS) (s' : ByteArray) (f' : Int) (v' : Value) (l' : List RawS) (w : World), BatIn w s f v l → BatIn w s' f' v' l' → Calls Try.prog 15 #[batV s f v, batV s' f' v'] w fun e w' => e = .returned (.bool (bEq s f l s' f' l')) ∧ Below w.heap.size w w'

/-- The chapter's event, name, bytes. -/
def exE : RawS := ⟨⟨#[97]⟩, ⟨#[98, 99]⟩, 0⟩
def exN : ByteArray := ⟨#[115]⟩
def exS : ByteArray := ⟨#[0, 1, 115, 0, 0, 0, 0, 0, 0, 0, 1, 1, 0, 1, 97, 0, 2, 98, 99, 0, 0, 0, 0, 0, 0, 0, 0]⟩
theorem exE_sz : EvSz exE := ⟨by decide, by decide, by decide⟩
theorem ex_c1 : bchk exN 1 [exE] = 0 := by decide
theorem ex_b : batB exN 1 [exE] = exS := by kernel_rfl
theorem ex_s : batS exN 1 [exE] = exS := by unfold batS; rw [if_pos ex_c1]; exact ex_b
theorem ex_get : bgS exS = exN ∧ bgF exS = 1 ∧ bgL exS = [exE] ∧ bgE exS = 0 := by
  have h := bg_back ex_c1 (fun x hx => by rw [List.mem_singleton] at hx; subst hx; decide)
  rw [show (1 : Int).toNat = 1 from rfl, ex_b] at h
  obtain ⟨h1, h2, h3, h4⟩ := h
  exact ⟨h2, h3, h4, (bg_yes h1).2.2.2.1⟩
theorem ex_none : bgOk ByteArray.empty = false := by decide
theorem ex_more : bgOk (exS ++ ⟨#[120]⟩) = false := by
  have h := bg_more ex_c1 (fun x hx => by rw [List.mem_singleton] at hx; subst hx; decide) ⟨#[120]⟩ (by decide)
  rw [show (1 : Int).toNat = 1 from rfl, ex_b] at h
  exact h
theorem ex_c2 : bchk exN 0 [] = 2 := by decide
theorem ex_c3 : bchk exN 0 [exE, exE, exE, exE, exE, exE, exE, exE, exE] = 3 := by decide
theorem ex_c4 : bchk exN (-1) [exE] = 2 := by decide
theorem ex_c5 : bchk exN 1073741824 [exE] = 2 := by decide
theorem evsIn_nil {w : World} {u : Value} (h : EvsIn w u []) : ∃ a c, u = .slice a 0 c := by
  rcases h with ⟨_, a, c, rfl⟩ | ⟨h0, _⟩
  · exact ⟨a, c, rfl⟩
  · cases h0
end Go.Proofs.Ytnefofcofccmfaa
