/- BlHas -/
import Derived.Test.YtfnppmiapjhjlaaPk12
import Derived.Test.YtfnppmiapjhjlaaPk01
import Derived.Stop.RegionWithIn
/- BlHas -/
namespace Go.Proofs.Ytfnppmiapjhjlaa
open Go.RowKit Go.Shelf
set_option linter.unusedVariables false
attribute [local go_sem] Oper.semAt_some

theorem keeps_below {B : Nat} {W W' : World} (h : Below W.heap.size W W') : KeepsFrom B W W' := ⟨h.size, fun k o _ hk _ => (h.block k (Array.getElem?_eq_some_iff.1 hk).1).trans hk⟩
theorem below_of_drew {B : Nat} {a w : World} (h : Below B a.drew w) : Below B a w := ⟨h.os, h.tape, h.output, h.size, h.block⟩

theorem has_none (p g : Int) (s : ByteArray) (w : World) (hs : s.size = 0) :
    Calls Try.prog 18 #[.string s, .int .i64 p, .int .u64 g] w fun e w' => e = .returned (.bool true) ∧ Below w.heap.size w w' := by
  have e0 : ((s.size : Int) == 0) = true := by rw [hs]; rfl
  go_enter Try.func18, Try.ntmps18
  go_wp2
  exact bodyPost_ret (v := .bool true) (by simp [results, Try.results18, go_sem]) rfl ⟨rfl, ((Below.refl _ _).alloc (Nat.le_refl _) _).alloc (by simp) _⟩

set_option maxRecDepth 100000 in
set_option maxHeartbeats 4000000 in
theorem has_some (p : Int) (g : Nat) (s : ByteArray) (w : World) (hg : g < 18446744073709551616) (wp : (Lit.int .i64 p).wf = true) (hs : 0 < s.size) (hm : s.size ≤ 1000000) :
    Calls Try.prog 18 #[.string s, .int .i64 p, .int .u64 (g : Nat)] w fun e w' => e = .returned (.bool (hasL s.data.toList p g)) ∧ Below w.heap.size w w' := by
  have hl : s.data.toList.length = s.size := by rw [Array.length_toList]; rfl
  have e0 : ((s.size : Int) == 0) = false := beq_eq_false_iff_ne.2 (by omega)
  have hl0 : 0 < s.data.toList.length := by rw [hl]; exact hs
  have Hyes := Lib.hid (hasL_yes (l := s.data.toList) hl0 (p := p) (h := g))
  have Hno := Lib.hid (fun (k : Nat) => hasL_no (l := s.data.toList) hl0 (p := p) (h := g) (k := k))
  clear hl0
  rw [hl] at Hyes Hno
  generalize hasL s.data.toList p g = r at *
  obtain ⟨b, hb⟩ : ∃ b : Int, ((8 * s.size : Nat) : Int) = b := ⟨_, rfl⟩
  have eb : 8 * (s.size : Int) = b := by omega
  have eb2 := Lib.hid hb
  rw [hb] at Hyes Hno
  have wb : (Lit.int .i64 b).wf = true := WalkArith.wf_i64 (by omega)
  clear hb
  refine (callsIn_wide (n := 8)).1 ?_
  refine callsIn_of_wp_marks Try.func18 rfl trivial ?_ rfl
  simp only [Try.ntmps18, List.size_toArray, List.length_cons, List.length_nil, Nat.reduceAdd, Nat.reduceSub, Array.replicate_succ, Array.replicate_zero, List.push_toArray, List.append_toArray, List.nil_append, List.cons_append]
  gi_wp2
  refine ⟨trivial, ?_⟩
  refine (asked_in _ _ _ _ _).mono ?_
  rintro e w' ⟨rfl, rfl⟩
  gi_wp2
  have hB0 : Below w.heap.size w (((((w.alloc (.cells #[.string s] 9)).alloc (.cells #[.bool false] 4)).alloc (.cells #[.int .u64 (g : Nat)] 31)).alloc (.cells #[.int .i64 p] 3)).alloc (.cells #[.int .i64 b] 3)) := (((((Below.refl _ w).alloc (Nat.le_refl _) _).alloc (by simp) _).alloc (by simp; omega) _).alloc (by simp; omega) _).alloc (by simp; omega) _
  obtain ⟨W0, hW0⟩ : ∃ W0, (((((w.alloc (.cells #[.string s] 9)).alloc (.cells #[.bool false] 4)).alloc (.cells #[.int .u64 (g : Nat)] 31)).alloc (.cells #[.int .i64 p] 3)).alloc (.cells #[.int .i64 b] 3)) = W0 := ⟨_, rfl⟩
  have hsz : W0.heap.size = w.heap.size + 5 := by rw [← hW0]; simp
  have b0 : Boxed W0 w.heap.size 9 (.string s) := by rw [← hW0]; exact ((((Boxed.new w 9 (.string s)).alloc _).alloc _).alloc _).alloc _
  have b1 : Boxed W0 (w.heap.size + 1) 4 (.bool false) := by
    have h := Boxed.new (w.alloc (.cells #[.string s] 9)) 4 (.bool false)
    rw [World.size_alloc] at h
    rw [← hW0]; exact ((h.alloc _).alloc _).alloc _
  have b2 : Boxed W0 (w.heap.size + 2) 31 (.int .u64 (g : Nat)) := by
    have h := Boxed.new ((w.alloc (.cells #[.string s] 9)).alloc (.cells #[.bool false] 4)) 31 (.int .u64 (g : Nat))
    rw [World.size_alloc, World.size_alloc] at h
    rw [← hW0]; exact (h.alloc _).alloc _
  have b3 : Boxed W0 (w.heap.size + 3) 3 (.int .i64 p) := by
    have h := Boxed.new (((w.alloc (.cells #[.string s] 9)).alloc (.cells #[.bool false] 4)).alloc (.cells #[.int .u64 (g : Nat)] 31)) 3 (.int .i64 p)
    rw [World.size_alloc, World.size_alloc, World.size_alloc] at h
    rw [← hW0]; exact h.alloc _
  have b4 : Boxed W0 (w.heap.size + 4) 3 (.int .i64 b) := by
    have h := Boxed.new ((((w.alloc (.cells #[.string s] 9)).alloc (.cells #[.bool false] 4)).alloc (.cells #[.int .u64 (g : Nat)] 31)).alloc (.cells #[.int .i64 p] 3)) 3 (.int .i64 b)
    rw [World.size_alloc, World.size_alloc, World.size_alloc, World.size_alloc] at h
    rw [← hW0]; exact h
  rw [hW0] at hB0 ⊢
  clear hW0
  refine wpIn_rangeFunc_ownG rfl (by omega) (gf := 47) (lb := #[.pointer (some ⟨w.heap.size + 3, 0, none⟩), .pointer (some ⟨w.heap.size + 2, 0, none⟩), .pointer (some ⟨w.heap.size + 4, 0, none⟩)]) rfl trivial (enters_of Try.func47 (by kernel_rfl) rfl)
    (asked_stops _ (by omega) (w.heap.size + 3) (w.heap.size + 2) (w.heap.size + 4) g p b hg wp wb W0 b3 b2 b4) keeps3_t (keeps3_b (by omega) (by omega) (by omega)) (Below.refl _ _) (fun _ => rfl)
    (fun pre W => (Boxed W w.heap.size 9 (.string s) ∧ Boxed W (w.heap.size + 1) 4 (.bool false) ∧ ∀ x ∈ pre, bitL s.data.toList x.1 = true) ∧ Below w.heap.size w W)
    (fun cc pre W => (cc = .ret ∧ Boxed W (w.heap.size + 1) 4 (.bool false) ∧ ∃ x : Asked g p b, bitL s.data.toList x.1 = false) ∧ Below w.heap.size w W)
    (OwnFrom.and (Own.from (fun s X Y row hs hg hr => ⟨boxed_own (β := Unit) _ _ (fun _ => _) () X Y row hs.1 hg hr, boxed_own (β := Unit) _ _ (fun _ => _) () X Y row hs.2.1 hg hr, hs.2.2⟩) _) (ownFrom_below (Nat.le_refl _) (by omega)))
    (fun cc => OwnFrom.and (Own.from (fun s X Y row hs hg hr => ⟨hs.1, boxed_own (β := Unit) _ _ (fun _ => _) () X Y row hs.2.1 hg hr, hs.2.2⟩) _) (ownFrom_below (Nat.le_refl _) (by omega)))
    ⟨⟨b0, b1, fun x hx => by cases hx⟩, hB0⟩
    (fun x => { tmps := #[.string s, .int .i64 p, .int .u64 (g : Nat), .pointer (some ⟨w.heap.size, 0, none⟩), undef, undef, .pointer (some ⟨w.heap.size + 1, 0, none⟩), .int .i64 (x.1 : Nat), .string s, .int .i64 (s.size : Nat), .bool false, .int .u64 (g : Nat), .int .i64 p, .string s, .int .i64 (s.size : Nat), .int .i64 b, .func (.func 47) #[] #[.pointer (some ⟨w.heap.size + 1 + 1 + 1, 0, none⟩), .pointer (some ⟨w.heap.size + 1 + 1, 0, none⟩), .pointer (some ⟨w.heap.size + 1 + 1 + 2, 0, none⟩)], .int .i64 (x.1 : Nat), undef, undef, undef, undef, undef, undef, undef, undef], defers := [] })
    ?assign ?body ?done ?stop
  case assign =>
    rintro l x W K hK
    unfold encAs
    gi_wp2
    exact hK
  case body =>
    rintro l pre ⟨x, hx⟩ W ⟨⟨i1, i2, i3⟩, i4⟩ hlen
    have ic := i1.cell
    have i2c := i2.cell
    have i2f := i2.frozen
    have hlt : x < 8 * s.size := by have := asksL_lt (by omega) hx; omega
    have s1 : x / 8 < s.size := by omega
    have s2 : IntKind.i64.wrap ((x : Int) / 8) = ((x / 8 : Nat) : Int) := by rw [IntKind.wrap_i64]; omega
    generalize hy : x / 8 = y at *
    have HM := Lib.hid fun W => mask_any x W (by omega)
    have hm8 := pow8_lt (Nat.mod_lt x (by decide) : x % 8 < 8)
    have hc8 := (s[y]'s1).toNat_lt
    have hbit : bitL s.data.toList x = (s[y]'s1).toNat.testBit (x % 8) := by
      unfold bitL
      rw [hy, List.getD_eq_getElem?_getD, Array.getElem?_toList, Array.getElem?_eq_getElem (show y < s.data.size from s1)]
      rfl
    have hand := bit_and (c := (s[y]'s1).toNat) (k := x % 8)
    rw [← hbit] at hand
    generalize 2 ^ (x % 8) = m at *
    have hA := u8_and_nat (s[y]'s1).toNat m hc8 hm8
    simp only
    gi_wp2
    rename_i K2 hK2
    have hfin : K2 { tmps := #[.string s, .int .i64 p, .int .u64 (g : Nat), .pointer (some ⟨w.heap.size, 0, none⟩), undef, undef, .pointer (some ⟨w.heap.size + 1, 0, none⟩), .int .i64 (x : Nat), .string s, .int .i64 (s.size : Nat), .bool false, .int .u64 (g : Nat), .int .i64 p, .string s, .int .i64 (s.size : Nat), .int .i64 b, .func (.func 47) #[] #[.pointer (some ⟨w.heap.size + 1 + 1 + 1, 0, none⟩), .pointer (some ⟨w.heap.size + 1 + 1, 0, none⟩), .pointer (some ⟨w.heap.size + 1 + 1 + 2, 0, none⟩)], .int .i64 (x : Nat), .string s, .int .i64 (x : Nat), .int .i64 (y : Nat), .int .u8 ((s[y]'s1).toNat : Nat), .int .i64 (x : Nat), .int .u8 (m : Nat), .int .u8 (((s[y]'s1).toNat &&& m : Nat) : Int), .bool ((((s[y]'s1).toNat &&& m : Nat) : Int) == 0)], defers := [] } W.drew := by
      apply hK2
      cases hq : bitL s.data.toList x with
      | false =>
        have q0 : ((((s[y]'s1).toNat &&& m : Nat) : Int) == 0) = true := beq_iff_eq.2 (by have := hand.2 hq; omega)
        gi_wp2
        have hk := (KeepsOthers.setCell W ⟨w.heap.size + 1, 0, none⟩ (.bool false)).from W0.heap.size
        have hw := i2.set (.bool false)
        exact ⟨⟨hk.size, hk.same⟩, ⟨rfl, hw, ⟨x, hx⟩, hq⟩, (i4.setCell (p := ⟨w.heap.size + 1, 0, none⟩) (by simp) _).drew⟩
      | true =>
        have q0 : ((((s[y]'s1).toNat &&& m : Nat) : Int) == 0) = false := beq_eq_false_iff_ne.2 (fun e => by
          have := hand.1 (by omega)
          rw [hq] at this
          cases this)
        gi_wp2
        have hk := KeepsFrom.refl W0.heap.size W
        refine ⟨⟨hk.size, hk.same⟩, ⟨rfl, rfl, rfl⟩, ⟨i1, i2, fun z hz => ?_⟩, i4.drew⟩
        rcases List.mem_append.1 hz with h | h
        · exact i3 z h
        · rw [List.mem_singleton] at h
          subst h
          exact hq
    clear hK2
    gi_region_with (refine ⟨trivial, ?_⟩; gi_at_call 37; refine (CallsIn.inRound l (callsIn_wide.2 (HM.out _))).mono ?_; rintro e w3 ⟨rfl, rfl⟩)
    all_goals exact hfin
  case done =>
    rintro D ys W hD hall ⟨⟨i1, i2, i3⟩, hB⟩ hK
    have hyes := Hyes.out fun k hk => by
      rw [← hall] at hk
      obtain ⟨x, hx, rfl⟩ := List.mem_map.1 hk
      exact i3 x hx
    subst hyes
    have i2c := i2.cell
    have i2f := i2.frozen
    gi_wp2
    have hK' := (KeepsOthers.setCell W ⟨w.heap.size + 1, 0, none⟩ (.bool true)).same D _ hK rfl
    refine ⟨by simp, .inl ⟨_, _, rfl, run_takeDeferred hK', ?_⟩⟩
    have hc5 := cell_kept (World.cell?_setCell_same' W ⟨w.heap.size + 1, 0, none⟩ (.bool true) (by rw [i2c]; rfl)) (grownBy_putObj' _ D (.deferred none)) (fun r e => by cases e; exact ⟨_, hK', rfl⟩)
    refine ⟨.bool true, ?_, rfl, (hB.setCell (p := ⟨w.heap.size + 1, 0, none⟩) (by simp) _).trans (belowK_b (w := w) (Nat.le_refl _) _ D _ _ (by omega) hK' rfl rfl)⟩
    simp [results, Try.f18, go_sem, hc5]
  case stop =>
    rintro D cc pre W hD _ ⟨⟨rfl, i2, ⟨x, hx⟩, hq⟩, hB⟩ hK
    have hno := Hno.out x hx hq
    subst hno
    gi_wp2
    refine ⟨by simp, .inl ⟨_, _, rfl, run_takeDeferred hK, ?_⟩⟩
    have hc5 := cell_kept i2.cell (grownBy_putObj' _ D (.deferred none)) (fun r e => by cases e; exact ⟨_, hK, rfl⟩)
    refine ⟨.bool false, ?_, rfl, hB.trans (belowK_b (w := w) (Nat.le_refl _) W D _ _ (by omega) hK rfl rfl)⟩
    simp [results, Try.f18, go_sem, hc5]

/-- The program's Has. -/
theorem has_any (p : Int) (g : Nat) (s : ByteArray) (w : World) (hg : g < 18446744073709551616) (wp : (Lit.int .i64 p).wf = true) (hm : s.size ≤ 1000000) :
    Calls Try.prog 18 #[.string s, .int .i64 p, .int .u64 (g : Nat)] w fun e w' => e = .returned (.bool (hasL s.data.toList p g)) ∧ Below w.heap.size w w' := by
  by_cases hs : s.size = 0
  · have e : s.data.toList = [] := List.length_eq_zero_iff.1 (by rw [Array.length_toList]; exact hs)
    rw [e, hasL_nil]
    exact has_none p g s w hs
  · exact has_some p g s w hg wp (by omega) hm
end Go.Proofs.Ytfnppmiapjhjlaa
