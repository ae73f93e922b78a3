/- The chapter's table: its three calls of Add, Len, Dump, Clear, Last. -/
import Derived.Test.YtiaobmgafhcfnaaMtAdd
import Derived.Test.YtiaobmgafhcfnaaMtAsk
import Derived.Test.YtiaobmgafhcfnaaEntSame
import Derived.Deep.DeepMust
namespace Go.Proofs.Ytiaobmgafhcfnaa
open Go.RowKit Go.Shelf
set_option linter.unusedVariables false
attribute [local go_sem ↓] Go.wp_at_zero Go.wp_at_succ

def exA : EntS := ⟨5, 0, 12⟩
def exB : EntS := ⟨3, 1, 40⟩
theorem exA_ok : EntOk exA := ⟨by decide, by decide, by decide, by decide, by decide⟩
theorem exB_ok : EntOk exB := ⟨by decide, by decide, by decide, by decide, by decide⟩
/-- The table, and the two entries beside it. -/
def KAt (w0 : World) (base g p : Nat) (l : List EntS) (w : World) : Prop :=
  ∃ F, TabAt w base g F l ∧ p ∉ F ∧ p + 1 ∉ F ∧ EnAt w p exA.h exA.v exA.p ∧ EnAt w (p + 1) exB.h exB.v exB.p ∧ Below w0.heap.size w0 w ∧ w0.heap.size ≤ base
section
variable {w0 w w' : World} {base g p : Nat} {l : List EntS}
theorem KAt.below (h : KAt w0 base g p l w) (hb : Below w.heap.size w w') : KAt w0 base g p l w' := by
  obtain ⟨F, h1, h2, h3, h4, h5, h6, h7⟩ := h
  exact ⟨F, h1.below hb, h2, h3, h4.touch (Touch.of_below hb) (by simp), h5.touch (Touch.of_below hb) (by simp), bj h6 hb, h7⟩
theorem KAt.drew (h : KAt w0 base g p l w) : KAt w0 base g p l w.drew := h.below (Below.refl _ _).drew
theorem KAt.drewN (h : KAt w0 base g p l w) (n : Nat) : KAt w0 base g p l (w.drewN n) := h.below (below_drewN (Below.refl _ _) n)
theorem KAt.alloc (h : KAt w0 base g p l w) (o : Obj) : KAt w0 base g p l (w.alloc o) := h.below ((Below.refl _ _).alloc (Nat.le_refl _) o)
theorem KAt.end_ (h : KAt w0 base g p l w) {f : FuncId} {args : Array Value} {r : Value} {m : List EntS} (hc : ∀ F, TabAt w base g F l → Calls Try.prog f args w (TabEnd base g F w r m)) : Calls Try.prog f args w fun e w' => e = .returned r ∧ KAt w0 base g p m w' := by
  obtain ⟨F, h1, h2, h3, h4, h5, h6, h7⟩ := h
  refine (hc F h1).mono ?_
  rintro e w' ⟨F', rfl, k1, k2, k3⟩
  refine ⟨rfl, F', k1, fun hm => ?_, fun hm => ?_, h4.touch k3 h2, h5.touch k3 h3, h6.trans (k3.below h6.size (fun x hx => Nat.le_trans h7 ?_)), h7⟩
  · rcases k2 p hm with k | k
    · exact h2 k
    · have := h4.lt; omega
  · rcases k2 (p + 1) hm with k | k
    · exact h3 k
    · have := h5.lt; omega
  · obtain ⟨v, q1, q2, q3, q4, q5, q6, q7⟩ := h1
    exact (q5 x hx).1
theorem KAt.add (h : KAt w0 base g p l w) {x : EntS} (hx : EntOk x) (hn : l.length ≤ 100000) {b : Bool} {m : List EntS} (hb : (!decide (x ∈ l)) = b) (hm : layEn l x = m) :
    Calls Try.prog 17 #[mtp g, entB x] w fun e w' => e = .returned (.bool b) ∧ KAt w0 base g p m w' := by
  subst hb hm
  exact h.end_ fun F k => add_run k hx hn
theorem KAt.addA (h : KAt w0 base g p l w) (hn : l.length ≤ 100000) {b : Bool} {m : List EntS} (hb : (!decide (exA ∈ l)) = b) (hm : layEn l exA = m) :
    Calls Try.prog 17 #[mtp g, .agg #[.int .u64 5, .int .i64 0, .int .i64 12]] w fun e w' => e = .returned (.bool b) ∧ KAt w0 base g p m w' := h.add exA_ok hn hb hm
theorem KAt.addB (h : KAt w0 base g p l w) (hn : l.length ≤ 100000) {b : Bool} {m : List EntS} (hb : (!decide (exB ∈ l)) = b) (hm : layEn l exB = m) :
    Calls Try.prog 17 #[mtp g, .agg #[.int .u64 3, .int .i64 1, .int .i64 40]] w fun e w' => e = .returned (.bool b) ∧ KAt w0 base g p m w' := h.add exB_ok hn hb hm
theorem KAt.len (h : KAt w0 base g p l w) : Calls Try.prog 19 #[mtp g] w fun e w' => e = .returned (.int .i64 (l.length : Nat)) ∧ w = w' := by
  obtain ⟨F, h1, -⟩ := h
  exact tlen_run h1
theorem KAt.has (h : KAt w0 base g p l w) : Has w (mtp g) l := by
  obtain ⟨F, h1, -⟩ := h
  exact h1.has
/-- The cells that are read. -/
abbrev KCells (p : Nat) (w : World) : Prop := w.cell? ⟨p, 0, none⟩ = some (.int .u64 5) ∧ w.cell? ⟨p, 1, none⟩ = some (.int .i64 0) ∧ w.cell? ⟨p, 2, none⟩ = some (.int .i64 12) ∧
  w.cell? ⟨p + 1, 0, none⟩ = some (.int .u64 3) ∧ w.cell? ⟨p + 1, 1, none⟩ = some (.int .i64 1) ∧ w.cell? ⟨p + 1, 2, none⟩ = some (.int .i64 40)
theorem KAt.cells (h : KAt w0 base g p l w) : KCells p w := by
  obtain ⟨F, h1, h2, h3, h4, h5, h6, h7⟩ := h
  exact ⟨h4.cell 0, h4.cell 1, h4.cell 2, h5.cell 0, h5.cell 1, h5.cell 2⟩
end
def KAny (w0 : World) (base g p : Nat) (w : World) : Prop := ∃ l, KAt w0 base g p l w
theorem KAny.of {w0 w : World} {base g p : Nat} {l : List EntS} (h : KAt w0 base g p l w) : KAny w0 base g p w := ⟨l, h⟩
theorem KAny.cells {w0 w : World} {base g p : Nat} (h : KAny w0 base g p w) : KCells p w := h.elim fun _ k => k.cells
theorem KAny.drew {w0 w : World} {base g p : Nat} (h : KAny w0 base g p w) : KAny w0 base g p w.drew := h.elim fun l k => ⟨l, k.drew⟩
theorem KAny.alloc {w0 w : World} {base g p : Nat} (h : KAny w0 base g p w) (o : Obj) : KAny w0 base g p (w.alloc o) := h.elim fun l k => ⟨l, k.alloc o⟩
theorem ent_two (w : World) (x y : EntS) : EntsIn (w.alloc (.cells #[.int .u64 (x.h : Nat), .int .i64 x.v, .int .i64 x.p, .int .u64 (y.h : Nat), .int .i64 y.v, .int .i64 y.p] 32)) (.slice (some ⟨w.heap.size, 0, none⟩) 2 2) [x, y] := by
  refine Or.inr ⟨w.heap.size, 0, 2, rfl, Nat.le_refl _, by unfold maxLen; omega, by simp, fun i z hz j u hu => ?_⟩
  match i, hz with
  | 0, hz =>
    obtain rfl : x = z := by simpa using hz
    match j, hu with
    | 0, hu => rw [← hu]; simp [entCells]
    | 1, hu => rw [← hu]; simp [entCells]
    | 2, hu => rw [← hu]; simp [entCells]
  | 1, hz =>
    obtain rfl : y = z := by simpa using hz
    match j, hu with
    | 0, hu => rw [← hu]; simp [entCells]
    | 1, hu => rw [← hu]; simp [entCells]
    | 2, hu => rw [← hu]; simp [entCells]
theorem ent_twoK (w : World) : EntsIn (w.alloc (.cells #[.int .u64 3, .int .i64 1, .int .i64 40, .int .u64 5, .int .i64 0, .int .i64 12] 32)) (.slice (some ⟨w.heap.size, 0, none⟩) 2 2) [exB, exA] := ent_two w exB exA
theorem EntsIn.alloc {w : World} {v : Value} {l : List EntS} (h : EntsIn w v l) (o : Obj) : EntsIn (w.alloc o) v l := h.below ((Below.refl w.heap.size w).alloc (Nat.le_refl _) o) (Nat.le_refl _)
theorem same_kept {va vb : Value} {a b : List EntS} {w : World} (ha : EntsIn w va a) (hb : EntsIn w vb b) (hm : a.length ≤ 1000000) (hk : b.length ≤ 1000000) (hab : a = b) :
    Calls Try.prog 10 #[va, vb] w fun e w' => e = .returned (.bool true) ∧ Below w.heap.size w w' := (esame_any va vb a b w ha hb hm hk).mono (by
  rintro e w' ⟨rfl, n, rfl⟩
  rw [decide_eq_true hab]
  exact ⟨rfl, below_drewN (Below.refl _ _) n⟩)
section
variable {w0 w : World} {base g p : Nat}
theorem KAt.len2 (h : KAt w0 base g p [exB, exA] w) : Calls Try.prog 19 #[mtp g] w fun e w' => e = .returned (.int .i64 2) ∧ w = w' := h.len
theorem KAt.len0 (h : KAt w0 base g p [] w) : Calls Try.prog 19 #[mtp g] w fun e w' => e = .returned (.int .i64 0) ∧ w = w' := h.len
theorem KAt.dump2 (h : KAt w0 base g p [exB, exA] w) : Calls Try.prog 15 #[mtp g] w fun e w' => ∃ A c, e = .returned (.slice A 2 c) ∧ EntsIn w' (.slice A 2 c) [exB, exA] ∧ KAt w0 base g p [exB, exA] w' ∧ Below w.heap.size w w' :=
  (tdump_run h.has (by decide)).mono (by
    rintro e w' ⟨A, c, rfl, hrow, hb⟩
    exact ⟨A, c, rfl, EntRow.in_ hrow, h.below hb, hb⟩)
theorem KAt.same2 {va vb : Value} (h : KAt w0 base g p [exB, exA] w) (ha : EntsIn w va [exB, exA]) (hb : EntsIn w vb [exB, exA]) :
    Calls Try.prog 10 #[va, vb] w fun e w' => e = .returned (.bool true) ∧ KAt w0 base g p [exB, exA] w' := (same_kept ha hb (by decide) (by decide) rfl).mono (by
  rintro e w' ⟨rfl, hb⟩
  exact ⟨rfl, h.below hb⟩)
theorem KAt.clear (h : KAt w0 base g p [exB, exA] w) : Calls Try.prog 16 #[mtp g] w fun e w' => e = .returned (.tuple #[]) ∧ KAt w0 base g p [] w' := h.end_ fun F k => tclear_run k
theorem KAt.last0 (h : KAt w0 base g p [] w) : Calls Try.prog 13 #[mtp g, .int .u64 5, .int .i64 9] w fun e w' => e = .returned (.tuple #[.agg #[.int .u64 0, .int .i64 0, .int .i64 0], .bool false]) ∧ KAt w0 base g p [] w' :=
  (tlast_run h.has (by decide) 5 9).mono (by
    rintro e w' ⟨rfl, hb⟩
    exact ⟨rfl, h.below hb⟩)
theorem KAt.kept (h : KAt w0 base g p [] w) : Below w0.heap.size w0 w := by
  obtain ⟨F, h1, h2, h3, h4, h5, h6, h7⟩ := h
  exact h6
end
def KeptEnd (w : World) (e : Ending) (w' : World) : Prop := e = .returned (.bool true) ∧ Below w.heap.size w w'
set_option maxHeartbeats 4000000 in
set_option maxRecDepth 100000 in
theorem kept_true (w : World) : Calls Try.prog 7 #[] w (KeptEnd w) := by
  have hb0 : Below w.heap.size w ((w.alloc (.cells #[.int .u64 5, .int .i64 0, .int .i64 12] 32)).alloc (.cells #[.int .u64 3, .int .i64 1, .int .i64 40] 32)) := below_two _ _ _
  have E1 : EnAt ((w.alloc (.cells #[.int .u64 5, .int .i64 0, .int .i64 12] 32)).alloc (.cells #[.int .u64 3, .int .i64 1, .int .i64 40] 32)) w.heap.size exA.h exA.v exA.p := Blok.alloc (Blok.new _ _ _) _
  have E2 : EnAt ((w.alloc (.cells #[.int .u64 5, .int .i64 0, .int .i64 12] 32)).alloc (.cells #[.int .u64 3, .int .i64 1, .int .i64 40] 32)) (w.heap.size + 1) exB.h exB.v exB.p := by
    have := Blok.new (w.alloc (.cells #[.int .u64 5, .int .i64 0, .int .i64 12] 32)) 32 #[.int .u64 3, .int .i64 1, .int .i64 40]
    rw [show (w.alloc (.cells #[.int .u64 5, .int .i64 0, .int .i64 12] 32)).heap.size = w.heap.size + 1 by simp] at this
    exact this
  obtain ⟨w2, hw2⟩ : ∃ w2, (w.alloc (.cells #[.int .u64 5, .int .i64 0, .int .i64 12] 32)).alloc (.cells #[.int .u64 3, .int .i64 1, .int .i64 40] 32) = w2 := ⟨_, rfl⟩
  obtain ⟨p, hp⟩ : ∃ p, w.heap.size = p := ⟨_, rfl⟩
  rw [hw2] at hb0 E1 E2
  rw [hp] at E1 E2
  have HK : Hid (∀ w3, TabAt w3 w2.heap.size w2.heap.size [w2.heap.size] [] → Below w2.heap.size w2 w3 → KAt w w2.heap.size w2.heap.size p [] w3) := Lib.hid fun w3 h1 h2 =>
    ⟨_, h1, fun hm => (by have := E1.lt; have := List.mem_singleton.1 hm; omega), fun hm => (by have := E2.lt; have := List.mem_singleton.1 hm; omega), E1.touch (Touch.of_below h2) (by simp), E2.touch (Touch.of_below h2) (by simp), bj hb0 h2, hb0.size⟩
  clear E1 E2 hb0
  obtain ⟨g, hg⟩ : ∃ g, w2.heap.size = g := ⟨_, rfl⟩
  have HNEW := Lib.hid (tnew_any w2)
  unfold NewEnd at HNEW
  rw [hg] at HNEW HK
  have l1 : layEn [] exA = [exA] := by decide
  have l2 : layEn [exA] exB = [exB, exA] := by decide
  have l3 : layEn [exB, exA] exA = [exB, exA] := by decide
  have m1 : (!decide (exA ∈ ([] : List EntS))) = true := by decide
  have m2 : (!decide (exB ∈ [exA])) = true := by decide
  have m3 : (!decide (exA ∈ [exB, exA])) = false := by decide
  go_enter Try.func7, Try.ntmps7
  go_wp2_with fail
  refine HNEW.out.mono ?_
  rintro e w3 ⟨rfl, k1, k2, k3⟩
  have K0 := HK.out w3 k1 k2
  clear k1 k2 k3
  have s0 := K0.cells
  obtain ⟨a0, a1, a2, b0, b1, b2⟩ := s0
  go_wp2_with fail
  go_region_held3 (fun W => W.cell? ⟨p, 0, none⟩ = some (.int .u64 5) ∧ W.cell? ⟨p, 1, none⟩ = some (.int .i64 0) ∧ W.cell? ⟨p, 2, none⟩ = some (.int .i64 12) ∧
      W.cell? ⟨p + 1, 0, none⟩ = some (.int .u64 3) ∧ W.cell? ⟨p + 1, 1, none⟩ = some (.int .i64 1) ∧ W.cell? ⟨p + 1, 2, none⟩ = some (.int .i64 40))
    (first | (with_reducible assumption) | ((with_reducible refine KAny.cells (w0 := w) (base := g) (g := g) ?_); (repeat' (first | (with_reducible exact KAny.of (by with_reducible assumption)) | (with_reducible refine KAny.drew ?_) | (with_reducible refine KAny.alloc ?_ _))); done) | fail)
    (first
    | (go_at_call 17; first
        | ((with_reducible refine (KAt.addA (l := []) (w0 := w) (base := g) (p := p) (by first | with_reducible assumption | ((with_reducible refine KAt.drew ?_); with_reducible assumption)) (by decide) m1 l1).mono ?_); rintro e w4 ⟨rfl, K1⟩; clear K0)
        | ((with_reducible refine (KAt.addB (l := [exA]) (w0 := w) (base := g) (p := p) (by first | with_reducible assumption | ((with_reducible refine KAt.drew ?_); with_reducible assumption)) (by decide) m2 l2).mono ?_); rintro e w5 ⟨rfl, K2⟩; clear K1)
        | ((with_reducible refine (KAt.addA (l := [exB, exA]) (w0 := w) (base := g) (p := p) (by first | with_reducible assumption | ((with_reducible refine KAt.drew ?_); with_reducible assumption)) (by decide) m3 l3).mono ?_); rintro e w6 ⟨rfl, K3⟩; clear K2))
    | (go_at_call 19; ((with_reducible refine (KAt.len2 (w0 := w) (base := g) (p := p) (by first | with_reducible assumption | ((with_reducible refine KAt.drew ?_); with_reducible assumption))).mono ?_); rintro e w7 ⟨rfl, rfl⟩))
    | (go_at_call 15; ((with_reducible refine (KAt.dump2 (w0 := w) (base := g) (p := p) (by first | with_reducible assumption | ((with_reducible refine KAt.alloc ?_ _); with_reducible assumption))).mono ?_); rintro e w8 ⟨A8, c8, rfl, D8, K4, B8⟩; (try have V8 : EntsIn w8 (.slice (some ⟨w6.heap.size, 0, none⟩) 2 2) [exB, exA] := (ent_twoK w6).below B8 (Nat.le_refl _)); clear B8))
    | (go_at_call 10; first
        | ((with_reducible refine (KAt.same2 (w0 := w) (base := g) (p := p) (by with_reducible assumption) D8 V8).mono ?_); rintro e w9 ⟨rfl, K5⟩)
        | (go_must (refine (KAt.same2 (w0 := w) (base := g) (p := p) (KAt.alloc K4 _) (EntsIn.alloc D8 _) (ent_twoK _)).mono ?_; rintro e w9 ⟨rfl, K5⟩)))
    | fail)
  all_goals
    go_wp2_with fail
    refine (KAt.clear K5).mono ?_
    rintro e w10 ⟨rfl, K6⟩
    go_wp2_with fail
    refine (KAt.last0 K6).mono ?_
    rintro e w11 ⟨rfl, K7⟩
    have HK8 := Lib.hid (K7.alloc (.cells #[.int .u64 0, .int .i64 0, .int .i64 0] 32))
    go_wp2_with fail
    refine (KAt.len0 HK8.out).mono ?_
    rintro e w12 ⟨rfl, rfl⟩
    go_wp2
    go_ret
    exact ⟨rfl, HK8.out.kept⟩
end Go.Proofs.Ytiaobmgafhcfnaa
