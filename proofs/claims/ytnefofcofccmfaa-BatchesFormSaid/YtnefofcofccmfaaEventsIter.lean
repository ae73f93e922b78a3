/- slices.All of a list of events: what its iterator does, for every body that keeps what lay. -/
import Derived.RangeFuncNested
import Derived.RangeFuncBound
import Derived.RangeFuncCalls
import Derived.RangeFuncLeaves
import Derived.Shelf.Abstract
import Derived.WalkKit
import Derived.OwnWalkIn
import Derived.TacticsInMore
import Derived.LoopNIn
import Derived.LoopIn
import Derived.Test.YtnefofcofccmfaaEventsAllRef
namespace Go.Proofs.Ytnefofcofccmfaa
open Go.RowKit Go.Shelf
set_option linter.unusedVariables false
attribute [local go_sem] Oper.semAt_some run_store_float

/-- What is handed to a round: a place, and the event there. -/
def encEv (l : List RawS) (i : Fin l.length) : Array Value := #[.int .i64 (i.val : Int), .agg #[.string l[i].t, .string l[i].d, .float .f64 l[i].b]]

set_option maxRecDepth 100000 in
set_option maxHeartbeats 2000000 in
theorem iter_some (n : Nat) (hn : 1 ≤ n) (l Bs n₀ b off cap : Nat) (la : List RawS) (hlen : la.length ≤ 1000) (hb : b < n₀) (J Jx : List (Fin la.length) → World → Prop) (W : World) (hJ : AbidesFrom W.heap.size J) (hn₀ : n₀ ≤ W.heap.size)
    (hY : ∀ pre x W1, J pre W1 → pre.length < la.length → YieldAt Fence.wide (n - 1) Try.prog l (encEv la x) W1 fun e W' =>
      (e = .returned (.bool true) ∧ J (pre ++ [x]) W' ∧ Below n₀ W1 W') ∨ (e = .returned (.bool false) ∧ Jx (pre ++ [x]) W'))
    (hBs : W.cell? ⟨Bs, 0, none⟩ = some (.slice (some ⟨b, off, none⟩) la.length cap))
    (hc : ∀ i x, la[i]? = some x → W.cell? ⟨b, off + i * 3, none⟩ = some (.string x.t) ∧ W.cell? ⟨b, off + i * 3 + 1, none⟩ = some (.string x.d) ∧ W.cell? ⟨b, off + i * 3 + 2, none⟩ = some (.float .f64 x.b)) (h0 : J [] W) :
    CallsIn Fence.wide n Try.prog 49 #[.func (.yield l) #[] #[], .pointer (some ⟨Bs, 0, none⟩)] W fun e W' => (∃ v, e = .returned v) ∧
      ((∃ ys, (∀ i : Fin la.length, i ∈ ys) ∧ J ys W') ∨ (∃ pre, True ∧ Jx pre W')) := by
  refine callsIn_of_wp Try.func49 rfl trivial ?_ rfl
  simp only [Try.ntmps49, List.size_toArray, List.length_cons, List.length_nil, Nat.reduceAdd, Nat.reduceSub, Array.replicate_succ, Array.replicate_zero, List.push_toArray, List.append_toArray, List.nil_append, List.cons_append]
  gi_wp2
  gi_loopw [7] (fun i wr => ∃ (k : Nat) (pre : List (Fin la.length)), k ≤ la.length ∧ i = .int .i64 k ∧ pre.length = k ∧ (∀ j : Fin la.length, j.val < k → j ∈ pre) ∧ J pre wr ∧ Below n₀ W wr)
    (fun i _ => la.length - (intOf i).toNat)
  case atStart => exact ⟨0, [], Nat.zero_le _, rfl, rfl, fun j h => absurd h (by omega), h0, Below.refl _ _⟩
  case round =>
    obtain ⟨k, pre, hk, rfl, hpl, hpre, hJs, hnx⟩ := hrel
    by_cases hlt : k < la.length
    · obtain ⟨c0, c1, c2⟩ := hc k la[k] (List.getElem?_eq_getElem hlt)
      have q0 := (hnx.cell (p := ⟨b, off + k * 3, none⟩) hb).trans c0
      have q1 := (hnx.cell (p := ⟨b, off + k * 3 + 1, none⟩) hb).trans c1
      have q2 := (hnx.cell (p := ⟨b, off + k * 3 + 2, none⟩) hb).trans c2
      have hJ2 : J pre (wr.alloc (.cells #[.string la[k].t, .string la[k].d, .float .f64 la[k].b] 47)) := hJ pre wr _ none hJs (World.grownBy_alloc wr _ none) (fun r e => by cases e)
      obtain ⟨fn, tmps, assign, body, hy, hR⟩ := hY pre ⟨k, hlt⟩ _ hJ2 (by omega)
      have hy' : (Instr.yield l #[.int .i64 (k : Int), .agg #[.string la[k].t, .string la[k].d, .float .f64 la[k].b]]).run Try.prog (wr.alloc (.cells #[.string la[k].t, .string la[k].d, .float .f64 la[k].b] 47)) = .ok (.round l fn tmps assign body) (wr.alloc (.cells #[.string la[k].t, .string la[k].d, .float .f64 la[k].b] 47)) := hy
      clear hy
      have hnx2 : Below n₀ W (wr.alloc (.cells #[.string la[k].t, .string la[k].d, .float .f64 la[k].b] 47)) := hnx.alloc (Nat.le_trans hn₀ hnx.size) _
      generalize la[k] = x at *
      obtain ⟨t, d, m⟩ := x
      simp only at q0 q1 q2 hy' hnx2 hJ2 hR
      clear hc c0 c1 c2
      gi_wp2
      refine hR.mono ?_
      rintro e W3 (⟨rfl, hJ3, hk3⟩ | ⟨rfl, hJx3⟩)
      · gi_wp2
        go_roundw
        case rel =>
          refine ⟨k + 1, pre ++ [⟨k, hlt⟩], by omega, by go_num, by simp [hpl], fun j hj => ?_, hJ3, hnx2.trans hk3⟩
          by_cases e : j.val = k
          · exact List.mem_append_right _ (by rw [List.mem_singleton]; exact Fin.ext e)
          · exact List.mem_append_left _ (hpre j (by omega))
        case measure => simp [intOf]; omega
      · gi_wp2
        refine bodyPost_ret (results_none rfl _ _ _) rfl ?_
        exact ⟨⟨_, rfl⟩, .inr ⟨_, trivial, hJx3⟩⟩
    · obtain rfl : k = la.length := by omega
      gi_wp2
      go_end0
      exact ⟨⟨_, rfl⟩, .inl ⟨pre, fun i => hpre i i.isLt, hJs⟩⟩

set_option maxRecDepth 100000 in
set_option maxHeartbeats 1000000 in
theorem iter_none (n : Nat) (l Bs : Nat) (A : Option Addr) (c : Nat) {α : Type} (J : List α → World → Prop) (W : World) (hBs : W.cell? ⟨Bs, 0, none⟩ = some (.slice A 0 c)) (h0 : J [] W) :
    CallsIn Fence.wide n Try.prog 49 #[.func (.yield l) #[] #[], .pointer (some ⟨Bs, 0, none⟩)] W fun e W' => (∃ v, e = .returned v) ∧ J [] W' := by
  refine callsIn_of_wp Try.func49 rfl trivial ?_ rfl
  simp only [Try.ntmps49, List.size_toArray, List.length_cons, List.length_nil, Nat.reduceAdd, Nat.reduceSub, Array.replicate_succ, Array.replicate_zero, List.push_toArray, List.append_toArray, List.nil_append, List.cons_append]
  gi_wp2
  gi_loopw [7] (fun i wr => i = .int .i64 0 ∧ J [] wr) (fun _ _ => 0)
  case atStart => exact ⟨rfl, h0⟩
  case round =>
    obtain ⟨rfl, hJs⟩ := hrel
    gi_wp2
    go_end0
    exact ⟨⟨_, rfl⟩, hJs⟩

theorem iter_stops (n : Nat) (hn : 1 ≤ n) (Bs n₀ : Nat) (v : Value) (la : List RawS) (hlen : la.length ≤ 1000) (w w0 : World) (hBs : Bs < w.heap.size) (hn₀ : n₀ = w0.heap.size) (hle : w0.heap.size ≤ w.heap.size) (hb0 : Below w0.heap.size w0 w)
    (hc : w.cell? ⟨Bs, 0, none⟩ = some v) (hI : EvsIn w0 v la) :
    SeqStopsK Fence.wide n Try.prog 49 #[.pointer (some ⟨Bs, 0, none⟩)] (encEv la) (Below n₀) (fun ys => ∀ i : Fin la.length, i ∈ ys) (fun _ => True) la.length w := fun l J Jx W hW hJ _ hY h0 => by
  subst hn₀
  have hc' := (hW.cell (p := ⟨Bs, 0, none⟩) hBs).trans hc
  have hI2 := hI.below (hb0.trans (hW.mono hle)) (Nat.le_refl _)
  obtain ⟨A, c, rfl⟩ := hI.form
  by_cases h : la.length = 0
  · have e : la = [] := List.length_eq_zero_iff.1 h
    subst e
    exact (iter_none n l Bs A c J W hc' h0).mono fun e W' ⟨he, hj⟩ => ⟨he, .inl ⟨_, fun i => i.elim0, hj⟩⟩
  · obtain ⟨b, off, rfl, hb, _⟩ := hI.pos (by omega)
    obtain ⟨b', off', hA, _, hcs⟩ := hI2.pos (by omega)
    cases hA
    exact iter_some n hn l Bs w0.heap.size b off c la hlen hb J Jx W hJ (Nat.le_trans hle hW.size) hY hc' hcs h0
end Go.Proofs.Ytnefofcofccmfaa
