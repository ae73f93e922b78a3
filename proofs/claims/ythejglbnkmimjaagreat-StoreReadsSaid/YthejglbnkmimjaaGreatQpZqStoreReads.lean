/- 'StoreReads' over this program: for every input the law returns true, and each argument reads afterwards as it read before. Condition: none. -/
import Derived.Test.YthejglbnkmimjaaGreatQp35
import Derived.Test.YthejglbnkmimjaaGreatQp28
import Derived.Test.YthejglbnkmimjaaGreatQp20
import Derived.Test.YthejglbnkmimjaaGreatQp04
import Derived.Test.YthejglbnkmimjaaGreatQp08
import Derived.Test.YthejglbnkmimjaaGreatQp13
import Derived.Test.YthejglbnkmimjaaGreatRows
import Derived.WalkKit
import Derived.ProofKit
import Derived.OpenShut
import Derived.ShutString
import Derived.Below
namespace Go.Proofs.YthejglbnkmimjaaGreat.storeReads
open Go.ChangeShapes Go.WideShapes Go.ChangeAt Go.RowKit
open Go.ChangeMaps (open_string shut_string)
set_option linter.unusedVariables false
theorem own : ownKnob Tryz.prog.godebug = none := by kernel_rfl
set_option maxRecDepth 100000 in
theorem lifted (os : Os) (started : os.Started) (H : Type) (enc : TypeId × Value → H) :
    ReturnsInHanded {} Tryz.checked os 3 .any (Rows.storeReadsSpec.pre6 enc Tryz.prog Tryz.f3 Rows.storeReadsRow.domain false) (Rows.storeReadsSpec.post enc Tryz.prog Tryz.f3 false true false false) := by
  refine returnsInHanded_of_change (C := Tryz.checked) own started (by kernel_rfl) Tryz.func3
    (ChangeSpec.witness6 (enc := enc) (C := Tryz.checked) false ⟨#[], #[.slice none 0 0, qVi, qYX], []⟩ 8 (by kernel_rfl) (by kernel_rfl) (by kernel_rfl) (by kernel_rfl)) ?_
  intro W base args ds gs before hval0 hW hcnd _
  have hval : ∀ (j : Nat) t v, Tryz.f3.params[j]? = some t → args[j]? = some v → Value.okWide Tryz.prog W .any base t v := hval0
  have hW' := hW
  obtain ⟨p, q, hA0, hV, rfl, hfz, hnd⟩ := hW
  have hA : DataW.TrodAll enc Tryz.prog W 0 (fun _ => true) true Tryz.f3.params.toList args.toList ds p := hA0
  rw [Tryz.params3] at hA hval
  obtain ⟨v0, vs0, d0, ds0, p0, q0, hargs, rfl, rfl, h0, r0⟩ := trodAll_cons hA
  obtain ⟨v1, vs1, d1, ds1, p1, q1, rfl, rfl, rfl, h1, r1⟩ := trodAll_cons r0
  obtain ⟨v2, vs2, d2, ds2, p2, q2, rfl, rfl, rfl, h2, r2⟩ := trodAll_cons r1
  obtain ⟨rfl, rfl, rfl⟩ := trodAll_nil r2
  obtain rfl : args = #[v0, v1, v2] := by cases args; simp_all
  obtain ⟨rfl, rfl⟩ := trodVars_none hV
  simp only [List.append_nil] at hW'
  have hlt0 : ∀ x ∈ p0, x.block < W.heap.size := fun x hx => by first | simpa using hW'.lt x hx | simpa using hW'.lt x (by simp [hx])
  obtain ⟨l0, hl0, wl0⟩ := qVa (okWide_slice Tryz.underlying22 (hval 0 22 v0 rfl rfl)) h0 hlt0
  have hlt1 : ∀ x ∈ p1, x.block < W.heap.size := fun x hx => by first | simpa using hW'.lt x hx | simpa using hW'.lt x (by simp [hx])
  obtain ⟨x1, rfl, wx1⟩ := qVw (qVo (hval 1 27 v1 rfl rfl)) h1 hlt1
  have hlt2 : ∀ x ∈ p2, x.block < W.heap.size := fun x hx => by first | simpa using hW'.lt x hx | simpa using hW'.lt x (by simp [hx])
  obtain ⟨a2, b2, c2, wx2, rfl⟩ := qYJ (qYZ (hval 2 28 v2 rfl rfl)) h2
  clear hA0 hval0
  refine (StRdW.walk api Nx iap qVt W v0 l0 x1 a2 b2 c2 hl0 wl0 wx1 wx2).mono fun e W' ⟨he, bel⟩ => ?_
  subst he
  exact ⟨_, rfl, _, _, _, [], _, [], hW', trodAll_mk1 (shut_bool Tryz.underlying4 _), (trodAll_cons_mk (qVe h0 hlt0 bel) (trodAll_cons_mk (qYQ h1 hlt1 bel) (trodAll_cons_mk (qYK h2 hlt2 bel) trodAll_mk0))), rfl, bel.frame _, fun h => by cases h⟩
theorem over : Rows.storeReadsRow.holds Tryz.pinned (OpenSpec.ofChange Rows.storeReadsSpec) :=
  OpenClaim.holds_of_wide 3 Tryz.f3 rfl rfl rfl rfl rfl rfl rfl ⟨rfl, rfl, rfl, rfl, rfl⟩ rfl rfl rfl rfl rfl fact_named Tryz.func3
    fact_joined (of_decide_eq_true (by kernel_rfl)) fact_wrapper
    (fun os started H enc _ => lifted os started H enc)
theorem proved : Rows.StoreReadsSaid := over
#print axioms proved
end Go.Proofs.YthejglbnkmimjaaGreat.storeReads
