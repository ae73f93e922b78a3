/- RecStanding -/
import Derived.RangeFuncNested
import Derived.RangeFuncBound
import Derived.RangeFuncCalls
import Derived.RangeFuncLeaves
import Derived.RangeFuncBox
import Derived.Shelf.Abstract
import Derived.WalkKit
import Derived.OwnWalkIn
import Derived.TacticsInMore
import Derived.LoopNIn
import Derived.LoopIn
import Derived.Test.YtedbgimmbapfaaaGreatPk13
/- RecStanding -/
namespace Go.Proofs.YtedbgimmbapfaaaGreat
open Go.RowKit Go.Shelf
set_option linter.unusedVariables false
attribute [local go_sem] Oper.semAt_some

/-- A place at which a record stands. -/
abbrev Place (s : ByteArray) := { k : Nat // gtOk s k = true }
/-- What is handed to a round: a place, and the one behind it. -/
def encPl (s : ByteArray) (x : Place s) : Array Value := #[.int .i64 (x.1 : Int), .int .i64 (getN s (x.1 : Nat) : Nat)]
/-- Where the places that have come end. -/
def endPl (s : ByteArray) (k0 : Nat) (pre : List (Place s)) : Nat := (pre.getLast?.map fun x => getN s (x.1 : Nat)).getD k0
theorem endPl_nil (s : ByteArray) (k0 : Nat) : endPl s k0 [] = k0 := rfl
theorem endPl_snoc (s : ByteArray) (k0 : Nat) (pre : List (Place s)) (x : Place s) : endPl s k0 (pre ++ [x]) = getN s (x.1 : Nat) := by simp [endPl]
def intsPl {s : ByteArray} (pre : List (Place s)) : List Int := pre.map fun x => (x.1 : Int)
theorem intsPl_snoc {s : ByteArray} (pre : List (Place s)) (x : Place s) : intsPl (pre ++ [x]) = intsPl pre ++ [(x.1 : Int)] := by simp [intsPl]
theorem intsPl_length {s : ByteArray} (pre : List (Place s)) : (intsPl pre).length = pre.length := by simp [intsPl]

/-- What a round leaves as it was: one box. -/
def KeepsBox (B : Nat) (W W' : World) : Prop := W'.heap[B]? = W.heap[B]?
theorem keepsBox_t {B : Nat} {X Y Z : World} (h : KeepsBox B X Y) (k : KeepsBox B Y Z) : KeepsBox B X Z := Eq.trans k h
theorem keepsBox_b {B : Nat} {w : World} (hB : B < w.heap.size) (W : World) (l : Nat) (o o' : Obj) (hl : w.heap.size ≤ l) (h : W.heap[l]? = some o) (_ : o.isCells = false) (_ : o.isWalk = false) : KeepsBox B W (W.putObj l o') :=
  (grownBy_putObj' W l o').block B (by have := (Array.getElem?_eq_some_iff.1 h).1; omega) (fun e => by cases e; omega)
theorem rboxed_below {W W' : World} {B : Nat} {t : TypeId} {v : Value} (h : Boxed W B t v) (hb : Below W.heap.size W W') : Boxed W' B t v := (hb.block B h.lt).trans h
theorem grown_of_below {W W' : World} (h : Below W.heap.size W W') : W.grownBy W' none := ⟨h.os, h.tape, h.output, h.size, fun k hk _ => h.block k hk⟩

set_option maxRecDepth 100000 in
set_option maxHeartbeats 2000000 in
theorem standing_walk (n : Nat) (hn : 1 ≤ n) (l Bs Bf k0 : Nat) (s : ByteArray) (hs : s.size ≤ 1100000) (hk0 : k0 ≤ s.size) (J Jx : List (Place s) → World → Prop) (W : World) (hJ : AbidesFrom W.heap.size J)
    (hY : ∀ pre x W1, J pre W1 → pre.length < s.size + 1 → YieldAt Fence.wide (n - 1) Tryz.prog l (encPl s x) W1 fun e W' =>
      (e = .returned (.bool true) ∧ J (pre ++ [x]) W' ∧ KeepsBox Bs W1 W') ∨ (e = .returned (.bool false) ∧ Jx (pre ++ [x]) W'))
    (hBs : Boxed W Bs 9 (.string s)) (hBf : W.cell? ⟨Bf, 0, none⟩ = some (.int .i64 k0)) (h0 : J [] W) :
    CallsIn Fence.wide n Tryz.prog 80 #[.func (.yield l) #[] #[], .pointer (some ⟨Bf, 0, none⟩), .pointer (some ⟨Bs, 0, none⟩)] W fun e W' => (∃ v, e = .returned v) ∧
      ((∃ ys, (intsPl ys = whL s (s.size + 1) k0 ∧ endPl s k0 ys = whE s (s.size + 1) k0) ∧ J ys W') ∨ (∃ pre, True ∧ Jx pre W')) := by
  have HL := Lib.hid (show intsPl ([] : List (Place s)) ++ whL s (s.size + 1) k0 = whL s (s.size + 1) k0 from rfl)
  obtain ⟨L, hL⟩ : ∃ L, whL s (s.size + 1) k0 = L := ⟨_, rfl⟩
  obtain ⟨E, hE⟩ : ∃ E, whE s (s.size + 1) k0 = E := ⟨_, rfl⟩
  have HL0 := Lib.hid hL
  have HE0 := Lib.hid hE
  rw [hL, hE]
  clear HL hL hE
  refine callsIn_of_wp Tryz.func80 rfl trivial ?_ rfl
  simp only [Tryz.ntmps80, List.size_toArray, List.length_cons, List.length_nil, Nat.reduceAdd, Nat.reduceSub, Array.replicate_succ, Array.replicate_zero, List.push_toArray, List.append_toArray, List.nil_append, List.cons_append]
  gi_wp2
  gi_loopw [4] (fun f wr => ∃ (k : Nat) (pre : List (Place s)), k ≤ s.size ∧ pre.length ≤ k ∧ f = .int .i64 k ∧ intsPl pre ++ whL s (s.size + 1) k = L ∧ whE s (s.size + 1) k = E ∧ endPl s k0 pre = k ∧ J pre wr ∧ Boxed wr Bs 9 (.string s))
    (fun f _ => s.size - (intOf f).toNat)
  case atStart => exact ⟨k0, [], hk0, Nat.zero_le _, rfl, HL0.out, HE0.out, rfl, h0, hBs⟩
  case round =>
    obtain ⟨k, pre, hk, hpl, rfl, hL, hE, hend, hJs, hbs⟩ := hrel
    have HG := Lib.hid fun W => rget_any s (k : Nat) W (by unfold maxLen; omega) (WalkArith.wf_i64 (by omega))
    have hc := hbs.cell
    cases hg : gtOk s k with
    | false =>
      obtain ⟨e1, e2⟩ := wh_stop hg
      rw [e1, List.append_nil] at hL
      rw [e2] at hE
      have hno := getOk_nat s k
      rw [hg] at hno
      obtain ⟨p1, p2⟩ := gt_no hno
      unfold GotRec at HG
      rw [hno, p1, p2] at HG
      have HLL := Lib.hid hL
      have HEE := Lib.hid (hend.trans hE)
      clear hg e1 e2 hno p1 p2 hL hE hend
      gi_wp2
      refine ⟨trivial, ?_⟩
      refine (callsIn_wide.2 (HG.out _)).mono ?_
      rintro e w1 ⟨rfl, hb1⟩
      have hJ1 := hJ pre wr w1 none hJs (grown_of_below hb1) (fun r e => by cases e)
      gi_wp2
      refine ⟨fun _ h => (by cases h), ?_⟩
      gi_wp2
      refine bodyPost_ret (results_none rfl _ _ _) rfl ?_
      exact ⟨⟨_, rfl⟩, .inl ⟨pre, ⟨HLL.out, HEE.out⟩, hJ1⟩⟩
    | true =>
      obtain ⟨e1, e2⟩ := wh_step hk hg
      have hln := getN_lt hg
      rw [e1] at hL
      rw [e2] at hE
      have hyes := getOk_nat s k
      rw [hg] at hyes
      unfold GotRec at HG
      rw [hyes] at HG
      have hJ1 : ∀ w1, Below wr.heap.size wr w1 → J pre w1 := fun w1 hb => hJ pre wr w1 none hJs (grown_of_below hb) (fun r e => by cases e)
      have HY := Lib.hid fun w1 (h : J pre w1) => hY pre ⟨k, hg⟩ w1 h (by omega)
      have HI := Lib.hid (intsPl_snoc pre ⟨k, hg⟩)
      have HN := Lib.hid (endPl_snoc s k0 pre ⟨k, hg⟩)
      unfold encPl at HY
      simp only at HY HI HN
      have HLL := Lib.hid hL
      have HEE := Lib.hid hE
      generalize getP s (k : Nat) = P at *
      generalize getN s (k : Nat) = N at *
      obtain ⟨n1, n2⟩ := hln
      clear e1 e2 hyes hL hE hend hY
      gi_wp2
      refine ⟨trivial, ?_⟩
      refine (callsIn_wide.2 (HG.out _)).mono ?_
      rintro e w1 ⟨rfl, hb1⟩
      obtain ⟨fn, tmps, assign, body, hy, hR⟩ := HY.out w1 (hJ1 w1 hb1)
      have hbs1 := rboxed_below hbs hb1
      clear hJ1
      gi_wp2
      refine hR.mono ?_
      rintro e W3 (⟨rfl, hJ3, hk3⟩ | ⟨rfl, hJx3⟩)
      · gi_wp2
        go_roundw
        case rel =>
          refine ⟨N, pre ++ [⟨k, hg⟩], n2, by rw [List.length_append]; simp; omega, rfl, ?_, HEE.out, HN.out, hJ3, Eq.trans hk3 hbs1⟩
          rw [HI.out, List.append_assoc]
          exact HLL.out
        case measure => simp [intOf]; omega
      · gi_wp2
        refine bodyPost_ret (results_none rfl _ _ _) rfl ?_
        exact ⟨⟨_, rfl⟩, .inr ⟨_, trivial, hJx3⟩⟩

theorem standing_stops (n : Nat) (hn : 1 ≤ n) (Bs Bf k0 : Nat) (s : ByteArray) (hs : s.size ≤ 1100000) (hk0 : k0 ≤ s.size) (w : World)
    (hBs : Boxed w Bs 9 (.string s)) (hBf : Boxed w Bf 3 (.int .i64 k0)) :
    SeqStopsK Fence.wide n Tryz.prog 80 #[.pointer (some ⟨Bf, 0, none⟩), .pointer (some ⟨Bs, 0, none⟩)] (encPl s) (KeepsBox Bs)
      (fun ys => intsPl ys = whL s (s.size + 1) k0 ∧ endPl s k0 ys = whE s (s.size + 1) k0) (fun _ => True) (s.size + 1) w := fun l J Jx W hW hJ _ hY h0 =>
  standing_walk n hn l Bs Bf k0 s hs hk0 J Jx W hJ hY (rboxed_below hBs hW) (rboxed_below hBf hW).cell h0

set_option maxHeartbeats 1000000 in
/-- The maker of the iterator: both parameters are boxed. -/
theorem standing_in (n : Nat) (s : ByteArray) (a : Int) (w : World) :
    CallsIn Fence.wide n Tryz.prog 72 #[.string s, .int .i64 a] w fun e w' => e = .returned (.func (.func 80) #[] #[.pointer (some ⟨w.heap.size + 1, 0, none⟩), .pointer (some ⟨w.heap.size, 0, none⟩)]) ∧ w' = (w.alloc (.cells #[.string s] 9)).alloc (.cells #[.int .i64 a] 3) := by
  refine callsIn_of_wp Tryz.func72 rfl trivial ?_ rfl
  simp only [Tryz.ntmps72, List.size_toArray, List.length_cons, List.length_nil, Nat.reduceAdd, Nat.reduceSub, Array.replicate_succ, Array.replicate_zero, List.push_toArray, List.append_toArray, List.nil_append, List.cons_append]
  gi_wp2
  go_ret
  exact ⟨rfl, rfl⟩
end Go.Proofs.YtedbgimmbapfaaaGreat
