/- 'MemtableNone': the walk. -/
import Derived.Test.YtiaobmgafhcfnaaMtActs
import Derived.Test.YtiaobmgafhcfnaaMtEx
namespace Go.Proofs.Ytiaobmgafhcfnaa
open Go.RowKit Go.Shelf
set_option linter.unusedVariables false

def FalseEnd (w : World) (e : Ending) (w' : World) : Prop := e = .returned (.bool false) ∧ Below w.heap.size w w'
set_option maxRecDepth 100000 in
theorem add_none {w : World} {p : Value} (h : IsNone w p) (x : EntS) : Calls Try.prog 17 #[p, entB x] w (FalseEnd w) := by
  have hb : Below w.heap.size w ((w.alloc (.cells #[p] 24)).alloc (.cells #[.int .u64 (x.h : Nat), .int .i64 x.v, .int .i64 x.p] 32)) := below_two _ _ _
  have hp1 : ∃ a, p = .pointer a := by
    rcases h with rfl | ⟨g, rfl, _⟩
    · exact ⟨_, rfl⟩
    · exact ⟨_, rfl⟩
  obtain ⟨pa, rfl⟩ := hp1
  have E1 : Blok ((w.alloc (.cells #[.pointer pa] 24)).alloc (.cells #[.int .u64 (x.h : Nat), .int .i64 x.v, .int .i64 x.p] 32)) w.heap.size 24 #[.pointer pa] := Blok.alloc (Blok.new _ _ _) _
  obtain ⟨w2, hw2⟩ : ∃ w2, (w.alloc (.cells #[.pointer pa] 24)).alloc (.cells #[.int .u64 (x.h : Nat), .int .i64 x.v, .int .i64 x.p] 32) = w2 := ⟨_, rfl⟩
  rw [hw2] at hb E1
  have e0 := E1.cell 0
  have hn := Lib.hid (tnone_any (h.below hb))
  have HB := Lib.hid hb
  clear h hb E1
  go_enter Try.func17, Try.ntmps17
  go_wp2_with fail
  refine hn.out.mono ?_
  rintro e w' ⟨rfl, rfl⟩
  go_wp2
  go_ret
  exact ⟨rfl, HB.out⟩
theorem ent_none (w : World) : (binOp .neq 32 (.agg #[.int .u64 0, .int .i64 0, .int .i64 0]) (.agg #[.int .u64 0, .int .i64 0, .int .i64 0])).run Try.prog w = .ok (.bool false) w := by
  have := ent_neq ⟨0, 0, 0⟩ ⟨0, 0, 0⟩ w
  rw [decide_eq_true rfl] at this
  exact this
theorem IsNone.none_last {w : World} {p : Value} (h : IsNone w p) (k : Nat) (n : Int) : Calls Try.prog 13 #[p, .int .u64 (k : Nat), .int .i64 n] w fun e w' => e = .returned (.tuple #[.agg #[.int .u64 0, .int .i64 0, .int .i64 0], .bool false]) ∧ Below w.heap.size w w' :=
  (tlast_run h.has (by decide) k n).mono (by
    rintro e w' ⟨rfl, hb⟩
    exact ⟨rfl, hb⟩)
def BareEnd (w : World) (e : Ending) (w' : World) : Prop := ∃ A c, e = .returned (.slice A 0 c) ∧ Below w.heap.size w w'
theorem IsNone.none_dump {w : World} {p : Value} (h : IsNone w p) : Calls Try.prog 15 #[p] w (BareEnd w) :=
  (tdump_run h.has (by decide)).mono (by
    rintro e w' ⟨A, c, rfl, -, hb⟩
    exact ⟨A, c, rfl, hb⟩)
theorem IsNone.none_range {w : World} {p : Value} (h : IsNone w p) (k : Nat) (a b : Int) : Calls Try.prog 9 #[p, .int .u64 (k : Nat), .int .i64 a, .int .i64 b] w (BareEnd w) :=
  (trange_run h.has (by decide) k a b).mono (by
    rintro e w' ⟨A, c, rfl, -, hb⟩
    exact ⟨A, c, rfl, hb⟩)
namespace memtableNone
set_option maxHeartbeats 4000000 in
set_option maxRecDepth 100000 in
theorem walk (w : World) (x : MAct) (hx : MActOk x) : Calls Try.prog 4 #[mactB x] w fun e w' => e = .returned (.bool true) ∧ Below w.heap.size w w' := by
  have hb1 := (Below.refl w.heap.size w).alloc (Nat.le_refl _) (.cells #[.int .u8 (x.k : Nat), .int .u64 (x.e.h : Nat), .int .i64 x.e.v, .int .i64 x.e.p, .int .i64 x.t] 34)
  have E1 := Blok.new w 34 #[.int .u8 (x.k : Nat), .int .u64 (x.e.h : Nat), .int .i64 x.e.v, .int .i64 x.e.p, .int .i64 x.t]
  obtain ⟨w1, hw1⟩ : ∃ w1, w.alloc (.cells #[.int .u8 (x.k : Nat), .int .u64 (x.e.h : Nat), .int .i64 x.e.v, .int .i64 x.e.p, .int .i64 x.t] 34) = w1 := ⟨_, rfl⟩
  obtain ⟨B, hB⟩ : ∃ B, w.heap.size = B := ⟨_, rfl⟩
  rw [hw1] at hb1 E1
  rw [hB] at E1
  have HE : Hid (∀ W, Below w1.heap.size w1 W → W.cell? ⟨B, 1, none⟩ = some (.int .u64 (x.e.h : Nat)) ∧ W.cell? ⟨B, 2, none⟩ = some (.int .i64 x.e.v) ∧ W.cell? ⟨B, 3, none⟩ = some (.int .i64 x.e.p) ∧ W.cell? ⟨B, 4, none⟩ = some (.int .i64 x.t)) := Lib.hid fun W hW =>
    ⟨(hW.cell (p := ⟨B, 1, none⟩) E1.lt).trans (E1.cell 1), (hW.cell (p := ⟨B, 2, none⟩) E1.lt).trans (E1.cell 2), (hW.cell (p := ⟨B, 3, none⟩) E1.lt).trans (E1.cell 3), (hW.cell (p := ⟨B, 4, none⟩) E1.lt).trans (E1.cell 4)⟩
  have HB := Lib.hid hb1
  have HKK := Lib.hid fun W => kept_true W
  clear E1 hx hb1
  obtain ⟨k, ⟨h, v, p⟩, t⟩ := x
  simp only at HE hw1
  go_enter Try.func4, Try.ntmps4
  go_wp2
  go_loopw [3, 4] (fun q i wr => ∃ n : Nat, n ≤ 2 ∧ i = .int .i64 n ∧ IsNone wr q ∧ Below w1.heap.size w1 wr) (fun _ i _ => 2 - (intOf i).toNat)
  case atStart => exact ⟨0, by omega, rfl, Or.inl rfl, Below.refl _ _⟩
  case round =>
    obtain ⟨n, hn, rfl, hq, hbel⟩ := hrel
    by_cases hlt : n < 2
    · have t1 : (n : Int) < 2 := by omega
      obtain ⟨z1, z2, z3, z4⟩ := HE.out _ hbel
      have H1 := Lib.hid (hq.none_last h t)
      have HQ := Lib.hid hq
      clear hq
      go_wp2_with fail
      refine H1.out.mono ?_
      rintro e w3 ⟨rfl, hb3⟩
      have hb4 := hb3.alloc hb3.size (.cells #[.int .u64 0, .int .i64 0, .int .i64 0] 32)
      have E4 : Blok (w3.alloc (.cells #[.int .u64 0, .int .i64 0, .int .i64 0] 32)) w3.heap.size 32 #[.int .u64 0, .int .i64 0, .int .i64 0] := Blok.new _ _ _
      obtain ⟨y1, y2, y3, y4⟩ := HE.out _ (bj hbel hb4)
      obtain ⟨w4, hw4⟩ : ∃ w4, w3.alloc (.cells #[.int .u64 0, .int .i64 0, .int .i64 0] 32) = w4 := ⟨_, rfl⟩
      obtain ⟨C, hC⟩ : ∃ C, w3.heap.size = C := ⟨_, rfl⟩
      rw [hw4] at hb4 E4
      rw [hC] at E4
      have H2 := Lib.hid (add_none (HQ.out.below hb4) ⟨h, v, p⟩)
      have HW4 := Lib.hid hw4
      have HC := Lib.hid hC
      clear hw4 hC hb3
      go_wp2_with fail
      rw [HW4.out, HC.out]
      refine H2.out.mono ?_
      rintro e w5 ⟨rfl, hb5⟩
      have H3 := Lib.hid (tlen_none (HQ.out.below (bj hb4 hb5)))
      go_wp2_with fail
      refine H3.out.mono ?_
      rintro e w' ⟨rfl, rfl⟩
      have H4 := Lib.hid ((HQ.out.below (bj hb4 hb5)).none_dump)
      go_wp2_with fail
      refine H4.out.mono ?_
      rintro e w6 ⟨A6, c6, rfl, hb6⟩
      have hb7 := bj (bj hb4 hb5) hb6
      obtain ⟨x1, x2, x3, x4⟩ := HE.out _ (bj hbel hb7)
      clear z1 z2 z3 z4
      have H5 := Lib.hid ((HQ.out.below hb7).none_range h v t)
      go_wp2_with fail
      refine H5.out.mono ?_
      rintro e w7 ⟨A7, c7, rfl, hb8⟩
      have E7 := E4.touch (Touch.of_below (bj (bj hb5 hb6) hb8)) (by simp)
      have u0 := E7.cell 0
      have u1 := E7.cell 1
      have u2 := E7.cell 2
      have hne := ent_none
      have hb9 := bj hb7 hb8
      have H6 := Lib.hid (tclear_none (HQ.out.below hb9))
      clear x1 x2 x3 x4 y1 y2 y3 y4 E7 E4
      go_wp2_with fail
      refine H6.out.mono ?_
      rintro e w' ⟨rfl, rfl⟩
      have E8 : Blok (w7.alloc (.cells #[.pointer none, .slice none 0 0] 46)) w7.heap.size 46 #[.pointer none, .slice none 0 0] := Blok.new _ _ _
      have HN := Lib.hid (show IsNone (w7.alloc (.cells #[.pointer none, .slice none 0 0] 46)) (mtp w7.heap.size) from Or.inr ⟨_, rfl, E8.cell 0⟩)
      have HBB := Lib.hid ((bj hbel hb9).alloc (bj hbel hb9).size (.cells #[.pointer none, .slice none 0 0] 46))
      clear E8
      go_wp2
      go_roundw
      case rel => exact ⟨n + 1, by omega, by go_num, HN.out, HBB.out⟩
      case measure => simp [intOf]; omega
    · obtain rfl : n = 2 := by omega
      clear hlt
      have H1 := Lib.hid (HKK.out wr)
      go_wp2_with fail
      refine H1.out.mono ?_
      rintro e w3 ⟨rfl, hb3⟩
      go_wp2
      go_ret
      exact ⟨rfl, bj HB.out (bj hbel hb3)⟩
end memtableNone
end Go.Proofs.Ytiaobmgafhcfnaa
