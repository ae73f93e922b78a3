/- TfBegun, TfAppend, TfRewrite, OpenOne, RecSize -/
import Derived.Test.YtedbgimmbapfaaaGreatPk11
import Derived.Test.YtedbgimmbapfaaaGreatPk02
import Derived.Test.YtedbgimmbapfaaaGreatPk04
import Derived.WalkArith
import Derived.Test.YtedbgimmbapfaaaGreatPk03
/- TfBegun -/
namespace Go.Proofs.YtedbgimmbapfaaaGreat
open Go.RowKit Go.Shelf
set_option linter.unusedVariables false

section
variable {At : Lies} (api : DiskApi At) (nap : NamesApi) (cap : ChunksApi) {c : Ctx} {gl gd : Nat} {L L' : LogS} {D D' : DiskS} {w w' : World}
include api nap cap
set_option maxRecDepth 100000 in
theorem begin_run (h : TSt At c gl gd L D w) (ok : WfP D) (hc : L.chunks ≤ 200) (r : ByteArray) (hr : r.size ≤ 100000) :
    Calls Tryz.prog 22 #[ptr gl, .string r] w (TRet At c gl gd (err (beginT D L r).1) (beginT D L r).2.2 (beginT D L r).2.1) := by
  have hz : (hdS (L.chunks : Nat) ++ r).size ≤ 1000000 := by
    rw [ByteArray.size_append]
    have : (hdS (L.chunks : Nat)).size ≤ 12 := by
      by_cases q : L.chunks ≤ 199
      · rw [hd_size q]; exact Nat.le_refl _
      · rw [hd_no (by omega)]; exact Nat.zero_le _
    omega
  have ha : ∀ W : World, (Op.stringOp .add (hdS (L.chunks : Nat)) r).run Tryz.prog W = .ok (.string (hdS (L.chunks : Nat) ++ r)) W := fun W => run_string_add_sum (P := Tryz.prog) (w := W) _ _ (by rw [ByteArray.size_append] at hz; omega)
  have hHd := Lib.hid fun (W : World) => cap.head (L.chunks : Nat) W (wf_nat (by omega))
  have h1 := h.box api (.cells #[ptr gl] 23)
  obtain ⟨c0, c1, c2, c3, c4, c5⟩ := h1.cells
  have q1 := (Blok.new w 23 #[ptr gl]).cell 0
  have H0 := Lib.hid h
  have H1 := Lib.hid h1
  have HB1 := Lib.hid (Blok.new w 23 #[ptr gl])
  have OK := Lib.hid ok
  have HC := Lib.hid hc
  have HZ := Lib.hid hz
  unfold beginT
  by_cases hbig : 200 ≤ L.chunks
  · rw [if_pos (Or.inl hbig)]
    have t1 : decide ((200 : Int) ≤ (L.chunks : Int)) = true := decide_eq_true (by omega)
    generalize hs : hdS (L.chunks : Nat) ++ r = s at *
    generalize hH : hdS (L.chunks : Nat) = hd at *
    clear h h1 hz ok hr hbig hc c0 c2 c4 c5 hs hH
    generalize hn : (L.chunks : Int) = n at *
    have KG := Lib.hid (H0.out.keep.alloc (.cells #[ptr gl] 23))
    generalize hB1 : w.heap.size = B1 at *
    generalize hW1 : w.alloc (.cells #[ptr gl] 23) = W1 at *
    have HW1 := Lib.hid hW1
    go_enter Tryz.func22, Tryz.ntmps22
    go_wp2_with fail
    refine (hHd.out _).mono ?_
    rintro e w1 ⟨rfl, hb⟩
    have h2 := H1.out.below api hb
    have hB := HB1.out.touch (Touch.of_below hb) (by simp)
    have h3 := h2.box api (.cells #[.string s] 9)
    have hB2 := (Blok.new w1 9 #[.string s])
    have hB3 := hB.alloc (.cells #[.string s] 9)
    obtain ⟨d0, d1, d2, d3, d4, d5⟩ := h3.cells
    rw [hn] at d3
    have q2 := hB2.cell 0
    have q3 := hB3.cell 0
    have KG1 := Lib.hid ((KG.out.below hb).alloc (.cells #[.string s] 9))
    generalize hC2 : w1.heap.size = B2 at *
    generalize hW2 : w1.alloc (.cells #[.string s] 9) = W2 at *
    have H3 := Lib.hid h3
    have K2 := Lib.hid hB2
    have K1 := Lib.hid hB3
    clear hB hb h2 h3 hB2 hB3 d0 d2 d4 d5
    go_wp2
    go_ret
    exact ⟨rfl, H3.out.undo H0.out KG1.out rfl rfl rfl rfl (fun b hb => by simp [hb])⟩
  have t1 : decide ((200 : Int) ≤ (L.chunks : Int)) = false := decide_eq_false (by omega)
  have hw2 : IntKind.i64.wrap (L.chunks : Int) = (L.chunks : Int) := IntWalk.i64_in _ (by omega)
  generalize hs : hdS (L.chunks : Nat) ++ r = s at *
  generalize hH : hdS (L.chunks : Nat) = hd at *
  cases hq : roomT D s
  · rw [if_pos (Or.inr rfl)]
    clear h h1 hz ok hr hbig hc c0 c2 c4 c5 hs hH
    generalize hn : (L.chunks : Int) = n at *
    have KG := Lib.hid (H0.out.keep.alloc (.cells #[ptr gl] 23))
    generalize hB1 : w.heap.size = B1 at *
    generalize hW1 : w.alloc (.cells #[ptr gl] 23) = W1 at *
    have HW1 := Lib.hid hW1
    go_enter Tryz.func22, Tryz.ntmps22
    go_wp2_with fail
    refine (hHd.out _).mono ?_
    rintro e w1 ⟨rfl, hb⟩
    have h2 := H1.out.below api hb
    have hB := HB1.out.touch (Touch.of_below hb) (by simp)
    have h3 := h2.box api (.cells #[.string s] 9)
    have hB2 := (Blok.new w1 9 #[.string s])
    have hB3 := hB.alloc (.cells #[.string s] 9)
    obtain ⟨d0, d1, d2, d3, d4, d5⟩ := h3.cells
    rw [hn] at d3
    have q2 := hB2.cell 0
    have q3 := hB3.cell 0
    have KG1 := Lib.hid ((KG.out.below hb).alloc (.cells #[.string s] 9))
    generalize hC2 : w1.heap.size = B2 at *
    generalize hW2 : w1.alloc (.cells #[.string s] 9) = W2 at *
    have R := Lib.hid (room_run api h3 OK.out s HZ.out)
    rw [hq] at R
    have K2 := Lib.hid hB2
    have K1 := Lib.hid hB3
    clear hB hb h2 h3 hB2 hB3 d0 d2 d4 d5
    go_wp2_with fail
    refine R.out.mono ?_
    rintro e w3 ⟨rfl, h4⟩
    have KG2 := Lib.hid (KG1.out.call h4 (fun b hb => by simp [hb]))
    have H4 := Lib.hid h4
    clear h4 R
    go_wp2
    go_ret
    exact ⟨rfl, H4.out.undo H0.out KG1.out rfl rfl rfl rfl (fun b hb => by simp [hb])⟩
  · rw [if_neg (by simp; omega)]
    clear h h1 hz ok hr hbig hc c0 c2 c4 c5 hs hH
    generalize hn : (L.chunks : Int) = n at *
    have hN := Lib.hid fun W => (chunk_nm nap L.chunks W (by have := HC.out; omega))
    have HNZ := Lib.hid (nmC_le (n := L.chunks) (by have := HC.out; omega))
    rw [hn] at hN
    generalize nmC L.chunks = nm at *
    have KG := Lib.hid (H0.out.keep.alloc (.cells #[ptr gl] 23))
    generalize hB1 : w.heap.size = B1 at *
    generalize hW1 : w.alloc (.cells #[ptr gl] 23) = W1 at *
    have HW1 := Lib.hid hW1
    go_enter Tryz.func22, Tryz.ntmps22
    go_wp2_with fail
    refine (hHd.out _).mono ?_
    rintro e w1 ⟨rfl, hb⟩
    have h2 := H1.out.below api hb
    have hB := HB1.out.touch (Touch.of_below hb) (by simp)
    have h3 := h2.box api (.cells #[.string s] 9)
    have hB2 := (Blok.new w1 9 #[.string s])
    have hB3 := hB.alloc (.cells #[.string s] 9)
    obtain ⟨d0, d1, d2, d3, d4, d5⟩ := h3.cells
    rw [hn] at d3
    have q2 := hB2.cell 0
    have q3 := hB3.cell 0
    have KG1 := Lib.hid ((KG.out.below hb).alloc (.cells #[.string s] 9))
    generalize hC2 : w1.heap.size = B2 at *
    generalize hW2 : w1.alloc (.cells #[.string s] 9) = W2 at *
    have R := Lib.hid (room_run api h3 OK.out s HZ.out)
    rw [hq] at R
    have K2 := Lib.hid hB2
    have K1 := Lib.hid hB3
    clear hB hb h2 h3 hB2 hB3 d0 d2 d4 d5
    go_wp2_with fail
    refine R.out.mono ?_
    rintro e w3 ⟨rfl, h4⟩
    have b1 := h4.blok (b := B1) (by simp) K1.out
    have b2 := h4.blok (b := B2) (by simp) K2.out
    have g1 := b1.cell 0
    have g3 := h4.cells.2.2.2.1
    rw [hn] at g3
    have KG2 := Lib.hid (KG1.out.call h4 (fun b hb => by simp [hb]))
    have H4 := Lib.hid h4
    have X1 := Lib.hid b1
    have X2 := Lib.hid b2
    clear h4 b1 b2 R
    go_wp2_with fail
    refine (hN.out _).mono ?_
    rintro e w4 ⟨rfl, hb⟩
    have h5 := H4.out.below api hb
    have x1 := X1.out.touch (Touch.of_below hb) (by simp)
    have x2 := X2.out.touch (Touch.of_below hb) (by simp)
    have h6 := h5.box api (.cells #[.string nm] 9)
    have y3 := (Blok.new w4 9 #[.string nm])
    have y1 := x1.alloc (.cells #[.string nm] 9)
    have y2 := x2.alloc (.cells #[.string nm] 9)
    have q1 := y1.cell 0
    have KG3 := Lib.hid ((KG2.out.below hb).alloc (.cells #[.string nm] 9))
    generalize hC4 : w4.heap.size = B3 at *
    generalize hW4 : w4.alloc (.cells #[.string nm] 9) = W4 at *
    have hmf : ∀ (fn : Fn) (first cap : Array Value) (w : World), (Instr.makeFunc fn first cap).run Tryz.prog w = .ok (.func fn first cap) w := fun _ _ _ _ => rfl
    have H6 := Lib.hid h6
    have Y1 := Lib.hid y1
    have Y2 := Lib.hid y2
    have Y3 := Lib.hid y3
    clear hb h5 x1 x2 h6 y1 y2 y3
    go_wp2_with fail
    have y4 := Blok.new W4 31 #[.func (.func 32) #[ptr gl] #[], .func (.func 49) #[] #[ptr B1, ptr B3], .func (.func 51) #[] #[ptr B1, ptr B3, ptr B2]]
    refine (begin_steps api nap (H6.out.box api (.cells #[.func (.func 32) #[ptr gl] #[], .func (.func 49) #[] #[ptr B1, ptr B3], .func (.func 51) #[] #[ptr B1, ptr B3, ptr B2]] 31)) OK.out HC.out (B1 := B1) (B2 := B2) (B3 := B3) (B4 := W4.heap.size) (by simp) (Y1.out.alloc _) (by simp) (Y3.out.alloc _) (by simp) (Y2.out.alloc _) (by simp) _ y4 HNZ.out HZ.out).mono ?_
    rintro e w6 ⟨rfl, h7⟩
    have h8 := Lib.hid (h7.undo H0.out (KG3.out.alloc _) rfl rfl rfl rfl (fun b hb => by simp [hb]))
    clear h7 y4
    go_wp2
    go_ret
    exact ⟨rfl, h8.out⟩
end
end Go.Proofs.YtedbgimmbapfaaaGreat

/- TfAppend -/
namespace Go.Proofs.YtedbgimmbapfaaaGreat
open Go.RowKit Go.Shelf
set_option linter.unusedVariables false

theorem target_le {D : DiskS} {L : LogS} (ok : WfP D) (hc : L.chunks ≤ 200) (p : ByteArray) : (targetT D L p).1 ≤ L.chunks ∧ (targetT D L p).2.1 ≤ 1048576 ∧ ((targetT D L p).2.2 = 0 → (targetT D L p).1 ≠ L.chunks → 0 < L.chunks) := by
  have hz := sizeS_le ok (nmC (L.chunks - 1))
  unfold targetT
  split
  · rename_i h0
    exact ⟨Nat.zero_le _, Nat.le_of_lt (show 12 < 1048576 by decide), fun _ h => absurd h0.symm h⟩
  · split
    · split
      · exact ⟨Nat.sub_le _ _, hz, fun _ _ => by omega⟩
      · exact ⟨Nat.le_refl _, Nat.le_of_lt (show 12 < 1048576 by decide), fun _ h => absurd rfl h⟩
    · exact ⟨Nat.zero_le _, Nat.zero_le _, fun h => absurd h (by assumption)⟩
theorem wp_then {a : Nat × DiskS × LogS} {f : DiskS → LogS → Nat × DiskS × LogS} (h : WfP a.2.1) (hf : ∀ D L, WfP D → WfP (f D L).2.1) : WfP (thenT a f).2.1 := by
  unfold thenT
  split
  · exact hf _ _ h
  · exact h
theorem wp_begin {D : DiskS} {L : LogS} (ok : WfP D) (r : ByteArray) : WfP (beginT D L r).2.1 := by
  unfold beginT
  split
  · exact ok
  · exact wp_then (wp_then (wp_sync_t ok) (fun E _ h => wp_create h _)) (fun E _ h => wp_append h _ _)
theorem wp_extend {D : DiskS} {L : LogS} (ok : WfP D) (r : ByteArray) : WfP (extendT D L r).2 := by
  unfold extendT
  split
  · exact ok
  · exact wp_append ok _ _
theorem wp_appendT {D : DiskS} {L : LogS} (ok : WfP D) (p : ByteArray) : WfP (appendT D L p).2.2.1 := by
  unfold appendT
  split
  · exact ok
  · split
    · exact ok
    · split
      · exact ok
      · have hb : WfP (if (targetT D L p).1 = L.chunks then beginT D L (recS p) else onD (fun E => extendT E L (recS p)) D L).2.1 := by
          split
          · exact wp_begin ok _
          · exact wp_extend ok _
        dsimp only
        generalize (if (targetT D L p).1 = L.chunks then beginT D L (recS p) else onD (fun E => extendT E L (recS p)) D L) = r at hb ⊢
        split <;> exact hb
section
variable {At : Lies} (api : DiskApi At) (nap : NamesApi) (cap : ChunksApi) {c : Ctx} {gl gd : Nat} {L L' : LogS} {D D' : DiskS} {w w' : World}
include api nap
set_option maxRecDepth 100000 in
theorem flush_run (hm : c.m = ptr gl) (h : TSt At c gl gd L D w) (ok : WfP D) (hc : L.chunks ≤ 200) : Calls Tryz.prog 10 #[ptr gl] w (TRet At c gl gd (err (flushT D L).1) (flushT D L).2.2 (flushT D L).2.1) := by
  have hr := Lib.hid (tready_run api hm h)
  have hS := Lib.hid fun (W : World) (hT : TSt At c gl gd L D W) => sync_t api nap hT ok hc
  unfold flushT
  by_cases he : readyT D L = 0
  · rw [if_neg (by simp [he])]
    rw [he] at hr
    generalize syncT D L = r at *
    clear h ok hc he hm
    go_enter Tryz.func10, Tryz.ntmps10
    go_wp2_with fail
    refine hr.out.mono ?_
    rintro e w1 ⟨rfl, h1⟩
    have H1 := Lib.hid h1
    clear h1
    go_wp2_with fail
    refine (hS.out _ H1.out).mono ?_
    rintro e w2 ⟨rfl, h2⟩
    have H2 := Lib.hid h2
    clear h2
    go_wp2
    go_ret
    exact ⟨rfl, H2.out⟩
  · rw [if_pos he]
    have t : ((readyT D L : Int) != 0) = true := by simp; omega
    generalize readyT D L = y at *
    clear h ok hc he hm hS
    go_enter Tryz.func10, Tryz.ntmps10
    go_wp2_with fail
    refine hr.out.mono ?_
    rintro e w1 ⟨rfl, h1⟩
    have H1 := Lib.hid h1
    clear h1
    go_wp2
    go_ret
    exact ⟨rfl, H1.out⟩
variable (cap : ChunksApi)
include cap
set_option maxRecDepth 100000 in
set_option maxHeartbeats 2000000 in
theorem append_run_t (hm : c.m = ptr gl) (h : TSt At c gl gd L D w) (ok : WfP D) (hc : L.chunks ≤ 200) (p : ByteArray) (hp : p.size ≤ maxLen) : Calls Tryz.prog 7 #[ptr gl, .string p] w (TRet At c gl gd (.tuple #[.int .i64 ((appendT D L p).1 : Nat), err (appendT D L p).2.1]) (appendT D L p).2.2.2 (appendT D L p).2.2.1) := by
  have hr := Lib.hid (tready_run api hm h)
  unfold appendT
  by_cases he : readyT D L = 0
  case neg =>
    rw [if_pos he]
    have t : ((readyT D L : Int) != 0) = true := by simp; omega
    generalize readyT D L = y at *
    clear h ok hc he hm hp
    go_enter Tryz.func7, Tryz.ntmps7
    go_wp2_with fail
    refine hr.out.mono ?_
    rintro e w1 ⟨rfl, h1⟩
    have H1 := Lib.hid h1
    clear h1
    go_wp2
    go_ret2
    exact ⟨rfl, H1.out⟩
  rw [if_neg (by simp [he])]
  rw [he] at hr
  clear he
  have hP := Lib.hid fun (W : World) => cap.put p W hp
  by_cases hl : 2000 < p.size
  · rw [if_pos hl]
    have e1 : prE p = 3 := by unfold prE; rw [if_pos hl]
    rw [e1] at hP
    generalize prS p = rc at *
    clear h ok hc hm hp hl e1
    go_enter Tryz.func7, Tryz.ntmps7
    go_wp2_with fail
    refine hr.out.mono ?_
    rintro e w1 ⟨rfl, h1⟩
    have H1 := Lib.hid h1
    clear h1
    go_wp2_with fail
    refine (hP.out _).mono ?_
    rintro e w2 ⟨rfl, hb⟩
    have H2 := Lib.hid (H1.out.below api hb)
    clear hb
    go_wp2
    go_ret2
    exact ⟨rfl, H2.out⟩
  rw [if_neg hl]
  have e1 : prE p = 0 := by unfold prE; rw [if_neg hl]
  have e2 : prS p = recS p := by unfold prS; rw [if_neg hl]
  rw [e1, e2] at hP
  have hz : (recS p).size ≤ 2012 := by rw [recS_size]; omega
  have hT := Lib.hid fun (W : World) (hT : TSt At c gl gd L D W) => target_run api nap cap hT ok hc p hp
  obtain ⟨g1, g2, g3⟩ := target_le ok hc p
  generalize targetT D L p = tg at *
  obtain ⟨n, a, e⟩ := tg
  dsimp only at g1 g2 g3 hT ⊢
  by_cases he : e = 0
  case neg =>
    rw [if_pos he]
    have t : ((e : Int) != 0) = true := by simp; omega
    generalize recS p = rc at *
    clear h ok hc hm hp hl e1 e2 g1 g2 g3 hz he
    go_enter Tryz.func7, Tryz.ntmps7
    go_wp2_with fail
    refine hr.out.mono ?_
    rintro e w1 ⟨rfl, h1⟩
    have H1 := Lib.hid h1
    clear h1
    go_wp2_with fail
    refine (hP.out _).mono ?_
    rintro e w2 ⟨rfl, hb⟩
    have H2 := Lib.hid (H1.out.below api hb)
    clear hb
    go_wp2_with fail
    refine (hT.out _ H2.out).mono ?_
    rintro e w3 ⟨rfl, h3⟩
    have H3 := Lib.hid h3
    clear h3
    go_wp2
    go_ret2
    exact ⟨rfl, H3.out⟩
  subst he
  rw [if_neg (by simp)]
  have hFr := Lib.hid fun (W : World) => front_run n W (by omega)
  have k1 : (n : Int) ≤ 200 := by omega
  have k2 : (a : Int) ≤ 1048576 := by omega
  have k3 : (0 : Int) ≤ n := by omega
  have k4 : (0 : Int) ≤ a := by omega
  have k5 : ((recS p).size : Int) ≤ 2012 := by omega
  have hw1 : IntKind.i64.wrap ((n : Int) * 4096 + (a : Int)) = (n : Int) * 4096 + (a : Int) := IntWalk.i64_in _ (by omega)
  have hw2 : IntKind.i64.wrap ((n : Int) * 4096 + (a : Int) + ((recS p).size : Nat)) = (n : Int) * 4096 + (a : Int) + ((recS p).size : Nat) := IntWalk.i64_in _ (by omega)
  have hw3 : IntKind.i64.wrap ((n : Int) + 1) = (n : Int) + 1 := IntWalk.i64_in _ (by omega)
  have eN : ((4096 * n + a : Nat) : Int) = (n : Int) * 4096 + (a : Int) := by omega
  have eE : ((4096 * n + a + (recS p).size : Nat) : Int) = (n : Int) * 4096 + (a : Int) + ((recS p).size : Nat) := by omega
  by_cases hn : n = L.chunks
  · rw [if_pos hn]
    have hB := Lib.hid fun (W : World) (hT : TSt At c gl gd L D W) => begin_run api nap cap hT ok hc (recS p) (by omega)
    generalize beginT D L (recS p) = r at *
    generalize recS p = rc at *
    have t1 : ((n : Int) == (L.chunks : Int)) = true := by rw [hn]; simp
    have EN := Lib.hid eN
    have EE := Lib.hid eE
    have HN := Lib.hid hn
    by_cases h0 : r.1 = 0
    case neg =>
      rw [if_pos h0]
      have t : ((r.1 : Int) != 0) = true := by simp; omega
      generalize r.1 = y at *
      clear h ok hc hm hp hl e1 e2 g1 g2 g3 hz h0 k1 k2 k3 k4 k5 hn eN eE
      go_enter Tryz.func7, Tryz.ntmps7
      go_wp2_with fail
      refine hr.out.mono ?_
      rintro e w1 ⟨rfl, h1⟩
      have H1 := Lib.hid h1
      clear h1
      go_wp2_with fail
      refine (hP.out _).mono ?_
      rintro e w2 ⟨rfl, hb⟩
      have H2 := Lib.hid (H1.out.below api hb)
      clear hb
      go_wp2_with fail
      refine (hT.out _ H2.out).mono ?_
      rintro e w3 ⟨rfl, h3⟩
      have c3 := h3.cells.2.2.2.1
      have H3 := Lib.hid h3
      clear h3
      go_wp2_with fail
      refine (hB.out _ H3.out).mono ?_
      rintro e w4 ⟨rfl, h4⟩
      have H4 := Lib.hid h4
      clear h4
      go_wp2
      go_ret2
      exact ⟨rfl, H4.out⟩
    rw [if_neg (by simp [h0])]
    rw [h0] at hB
    clear h ok hc hm hp hl e1 e2 g1 g2 g3 hz h0 k1 k2 k3 k4 k5 hn eN eE
    go_enter Tryz.func7, Tryz.ntmps7
    go_wp2_with fail
    refine hr.out.mono ?_
    rintro e w1 ⟨rfl, h1⟩
    have H1 := Lib.hid h1
    clear h1
    go_wp2_with fail
    refine (hP.out _).mono ?_
    rintro e w2 ⟨rfl, hb⟩
    have H2 := Lib.hid (H1.out.below api hb)
    clear hb
    go_wp2_with fail
    refine (hT.out _ H2.out).mono ?_
    rintro e w3 ⟨rfl, h3⟩
    have c3 := h3.cells.2.2.2.1
    have H3 := Lib.hid h3
    clear h3
    go_wp2_with fail
    refine (hB.out _ H3.out).mono ?_
    rintro e w4 ⟨rfl, h4⟩
    have H4 := Lib.hid h4
    clear h4
    go_wp2_with fail
    refine (hFr.out _).mono ?_
    rintro e w5 ⟨rfl, rfl⟩
    have d3 := H4.out.cells.2.2.2.1
    have d4 := H4.out.cells.2.2.2.2.1
    have f3 := H4.out.frozen 3
    have f4 := H4.out.frozen 4
    go_wp2
    have HF := (H4.out.putChunks api (n + 1)).putEnd api (4096 * n + a + rc.size)
    rw [EE.out, show ((n + 1 : Nat) : Int) = (n : Int) + 1 from by omega] at HF
    go_ret2
    exact ⟨by rw [EN.out]; rfl, HF⟩
  · rw [if_neg hn]
    have h0c := g3 rfl hn
    have hB := Lib.hid fun (W : World) (hT : TSt At c gl gd L D W) => (show Calls Tryz.prog 23 #[ptr gl, .string (recS p)] W (TRet At c gl gd (err (onD (fun E => extendT E L (recS p)) D L).1) (onD (fun E => extendT E L (recS p)) D L).2.2 (onD (fun E => extendT E L (recS p)) D L).2.1) from extend_run api nap hT ok hc h0c (recS p) (by omega))
    generalize onD (fun E => extendT E L (recS p)) D L = r at *
    generalize recS p = rc at *
    have t1 : ((n : Int) == (L.chunks : Int)) = false := by simp; omega
    have EN := Lib.hid eN
    have EE := Lib.hid eE
    by_cases h0 : r.1 = 0
    case neg =>
      rw [if_pos h0]
      have t : ((r.1 : Int) != 0) = true := by simp; omega
      generalize r.1 = y at *
      clear h ok hc hm hp hl e1 e2 g1 g2 g3 hz h0 k1 k2 k3 k4 k5 hn eN eE h0c
      go_enter Tryz.func7, Tryz.ntmps7
      go_wp2_with fail
      refine hr.out.mono ?_
      rintro e w1 ⟨rfl, h1⟩
      have H1 := Lib.hid h1
      clear h1
      go_wp2_with fail
      refine (hP.out _).mono ?_
      rintro e w2 ⟨rfl, hb⟩
      have H2 := Lib.hid (H1.out.below api hb)
      clear hb
      go_wp2_with fail
      refine (hT.out _ H2.out).mono ?_
      rintro e w3 ⟨rfl, h3⟩
      have c3 := h3.cells.2.2.2.1
      have H3 := Lib.hid h3
      clear h3
      go_wp2_with fail
      refine (hB.out _ H3.out).mono ?_
      rintro e w4 ⟨rfl, h4⟩
      have H4 := Lib.hid h4
      clear h4
      go_wp2
      go_ret2
      exact ⟨rfl, H4.out⟩
    rw [if_neg (by simp [h0])]
    rw [h0] at hB
    clear h ok hc hm hp hl e1 e2 g1 g2 g3 hz h0 k1 k2 k3 k4 k5 hn eN eE h0c
    go_enter Tryz.func7, Tryz.ntmps7
    go_wp2_with fail
    refine hr.out.mono ?_
    rintro e w1 ⟨rfl, h1⟩
    have H1 := Lib.hid h1
    clear h1
    go_wp2_with fail
    refine (hP.out _).mono ?_
    rintro e w2 ⟨rfl, hb⟩
    have H2 := Lib.hid (H1.out.below api hb)
    clear hb
    go_wp2_with fail
    refine (hT.out _ H2.out).mono ?_
    rintro e w3 ⟨rfl, h3⟩
    have c3 := h3.cells.2.2.2.1
    have H3 := Lib.hid h3
    clear h3
    go_wp2_with fail
    refine (hB.out _ H3.out).mono ?_
    rintro e w4 ⟨rfl, h4⟩
    have H4 := Lib.hid h4
    clear h4
    go_wp2_with fail
    refine (hFr.out _).mono ?_
    rintro e w5 ⟨rfl, rfl⟩
    have d3 := H4.out.cells.2.2.2.1
    have d4 := H4.out.cells.2.2.2.2.1
    have f3 := H4.out.frozen 3
    have f4 := H4.out.frozen 4
    go_wp2
    have HF := (H4.out.putChunks api (n + 1)).putEnd api (4096 * n + a + rc.size)
    rw [EE.out, show ((n + 1 : Nat) : Int) = (n : Int) + 1 from by omega] at HF
    go_ret2
    exact ⟨by rw [EN.out]; rfl, HF⟩
end
end Go.Proofs.YtedbgimmbapfaaaGreat

/- TfRewrite -/
namespace Go.Proofs.YtedbgimmbapfaaaGreat
open Go.RowKit Go.Shelf
set_option linter.unusedVariables false

theorem newB_le : newB.size ≤ maxLen := by decide
def pick5 {α : Type} (a b c d e : α) : Nat → α
  | 0 => a
  | 1 => b
  | 2 => c
  | 3 => d
  | _ => e
section
variable {At : Lies} (api : DiskApi At) {c : Ctx} {gl gd : Nat} {L L' : LogS} {D D' : DiskS} {w w' : World} {B1 B2 B3 : Nat} {nm s : ByteArray}
include api
set_option maxRecDepth 100000 in
theorem rewrite1_run (h : TSt At c gl gd L D w) (ok : WfP D) (m1 : B1 ∈ c.G) (k1 : Blok c.wG B1 23 #[ptr gl]) :
    Calls Tryz.prog 84 #[ptr B1] w (TRet At c gl gd (err (createS D newB).1) L (createS D newB).2) := by
  have hS := Lib.hid fun (W : World) (hT : TSt At c gl gd L D W) => hT.disk api (fun F hF => api.create newB hF ok.ok newB_le)
  have HH := Lib.hid h
  have b1 : w.cell? ⟨B1, 0, none⟩ = some (ptr gl) := (h.blok m1 k1).cell 0
  have c1 := h.cells.2.1
  have M1 := Lib.hid m1
  have K1 := Lib.hid k1
  generalize createS D newB = D1 at *
  have enw : (⟨#[110, 101, 119]⟩ : ByteArray) = newB := rfl
  clear h ok m1 k1
  go_enter Tryz.func84, Tryz.ntmps84
  go_wp2_with fail
  refine (hS.out _ HH.out).mono ?_
  rintro e w2 ⟨rfl, h2⟩
  have H3 := Lib.hid h2
  clear h2
  go_wp2
  go_ret
  exact ⟨rfl, H3.out⟩
set_option maxRecDepth 100000 in
theorem rewrite2_run (h : TSt At c gl gd L D w) (ok : WfP D) (m1 : B1 ∈ c.G) (k1 : Blok c.wG B1 23 #[ptr gl]) (m2 : B3 ∈ c.G) (k2 : Blok c.wG B3 9 #[.string s]) (hs : s.size ≤ 1100000) :
    Calls Tryz.prog 85 #[ptr B1, ptr B3] w (TRet At c gl gd (err (appendS D newB s).1) L (appendS D newB s).2) := by
  have hS := Lib.hid fun (W : World) (hT : TSt At c gl gd L D W) => hT.disk api (fun F hF => api.append newB s hF ok.ok (by omega) newB_le)
  have HH := Lib.hid h
  have b1 : w.cell? ⟨B1, 0, none⟩ = some (ptr gl) := (h.blok m1 k1).cell 0
  have c1 := h.cells.2.1
  have M1 := Lib.hid m1
  have K1 := Lib.hid k1
  have b3 : w.cell? ⟨B3, 0, none⟩ = some (.string s) := (h.blok m2 k2).cell 0
  have M3 := Lib.hid m2
  have K3 := Lib.hid k2
  generalize appendS D newB s = D1 at *
  have enw : (⟨#[110, 101, 119]⟩ : ByteArray) = newB := rfl
  clear h ok m1 k1 m2 k2 hs
  go_enter Tryz.func85, Tryz.ntmps85
  go_wp2_with fail
  go_region_held3 (fun w' => w'.cell? ⟨B1, 0, none⟩ = some (ptr gl) ∧ w'.cell? ⟨gl, 1, none⟩ = some (ptr gd) ∧ w'.cell? ⟨B3, 0, none⟩ = some (.string s)) (first | assumption | exact ⟨by assumption, by assumption, by assumption⟩ | exact ⟨b1, c1, b3⟩) (first
    | (go_at_call 52; refine (hS.out _ (by first | exact HH.out.drew api | exact HH.out)).mono ?_; rintro e w2 ⟨rfl, h2⟩; have e1 : w2.cell? ⟨gl, 1, none⟩ = some (ptr gd) := h2.cells.2.1; have e2 : w2.cell? ⟨B1, 0, none⟩ = some (ptr gl) := (h2.blok M1.out K1.out).cell 0; have e3 : w2.cell? ⟨B3, 0, none⟩ = some (.string s) := (h2.blok M3.out K3.out).cell 0)
    | fail)
  all_goals
    have H3 := Lib.hid h2
    clear h2
    go_wp2
    go_ret
    exact ⟨rfl, H3.out⟩
set_option maxRecDepth 100000 in
theorem rewrite3_run (h : TSt At c gl gd L D w) (ok : WfP D) (m1 : B1 ∈ c.G) (k1 : Blok c.wG B1 23 #[ptr gl]) :
    Calls Tryz.prog 86 #[ptr B1] w (TRet At c gl gd (err (syncS D newB).1) L (syncS D newB).2) := by
  have hS := Lib.hid fun (W : World) (hT : TSt At c gl gd L D W) => hT.disk api (fun F hF => api.sync newB hF ok.ok newB_le)
  have HH := Lib.hid h
  have b1 : w.cell? ⟨B1, 0, none⟩ = some (ptr gl) := (h.blok m1 k1).cell 0
  have c1 := h.cells.2.1
  have M1 := Lib.hid m1
  have K1 := Lib.hid k1
  generalize syncS D newB = D1 at *
  have enw : (⟨#[110, 101, 119]⟩ : ByteArray) = newB := rfl
  clear h ok m1 k1
  go_enter Tryz.func86, Tryz.ntmps86
  go_wp2_with fail
  refine (hS.out _ HH.out).mono ?_
  rintro e w2 ⟨rfl, h2⟩
  have H3 := Lib.hid h2
  clear h2
  go_wp2
  go_ret
  exact ⟨rfl, H3.out⟩
set_option maxRecDepth 100000 in
theorem rewrite4_run (h : TSt At c gl gd L D w) (ok : WfP D) (m1 : B1 ∈ c.G) (k1 : Blok c.wG B1 23 #[ptr gl]) (m2 : B2 ∈ c.G) (k2 : Blok c.wG B2 9 #[.string nm]) (hn : nm.size ≤ maxLen) :
    Calls Tryz.prog 87 #[ptr B1, ptr B2] w (TRet At c gl gd (err (renameS D newB nm).1) L (renameS D newB nm).2) := by
  have hS := Lib.hid fun (W : World) (hT : TSt At c gl gd L D W) => hT.disk api (fun F hF => api.rename newB nm hF ok.ok hn newB_le)
  have HH := Lib.hid h
  have b1 : w.cell? ⟨B1, 0, none⟩ = some (ptr gl) := (h.blok m1 k1).cell 0
  have c1 := h.cells.2.1
  have M1 := Lib.hid m1
  have K1 := Lib.hid k1
  have b3 : w.cell? ⟨B2, 0, none⟩ = some (.string nm) := (h.blok m2 k2).cell 0
  have M3 := Lib.hid m2
  have K3 := Lib.hid k2
  generalize renameS D newB nm = D1 at *
  have enw : (⟨#[110, 101, 119]⟩ : ByteArray) = newB := rfl
  clear h ok m1 k1 m2 k2 hn
  go_enter Tryz.func87, Tryz.ntmps87
  go_wp2_with fail
  go_region_held3 (fun w' => w'.cell? ⟨B1, 0, none⟩ = some (ptr gl) ∧ w'.cell? ⟨gl, 1, none⟩ = some (ptr gd) ∧ w'.cell? ⟨B2, 0, none⟩ = some (.string nm)) (first | assumption | exact ⟨by assumption, by assumption, by assumption⟩ | exact ⟨b1, c1, b3⟩) (first
    | (go_at_call 88; refine (hS.out _ (by first | exact HH.out.drew api | exact HH.out)).mono ?_; rintro e w2 ⟨rfl, h2⟩; have e1 : w2.cell? ⟨gl, 1, none⟩ = some (ptr gd) := h2.cells.2.1; have e2 : w2.cell? ⟨B1, 0, none⟩ = some (ptr gl) := (h2.blok M1.out K1.out).cell 0; have e3 : w2.cell? ⟨B2, 0, none⟩ = some (.string nm) := (h2.blok M3.out K3.out).cell 0)
    | fail)
  all_goals
    have H3 := Lib.hid h2
    clear h2
    go_wp2
    go_ret
    exact ⟨rfl, H3.out⟩
theorem rewrite_steps {B4 : Nat} (h : TSt At c gl gd L D w) (ok : WfP D) (m1 : B1 ∈ c.G) (k1 : Blok c.wG B1 23 #[ptr gl]) (m2 : B2 ∈ c.G) (k2 : Blok c.wG B2 9 #[.string nm]) (m3 : B3 ∈ c.G) (k3 : Blok c.wG B3 9 #[.string s])
    (m4 : B4 ∈ c.G) (t4 : TypeId) (k4 : Blok c.wG B4 t4 #[.func (.func 84) #[] #[ptr B1], .func (.func 85) #[] #[ptr B1, ptr B3], .func (.func 86) #[] #[ptr B1], .func (.func 87) #[] #[ptr B1, ptr B2]]) (hn : nm.size ≤ maxLen) (hs : s.size ≤ 1100000) :
    Calls Tryz.prog 37 #[.slice (some ⟨B4, 0, none⟩) 4 4] w (TRet At c gl gd (err (rewriteT D nm s).1) L (rewriteT D nm s).2) := by
  have ok1 : WfP (createS D newB).2 := wp_create ok newB
  have ok2 : WfP (appendS (createS D newB).2 newB s).2 := wp_append ok1 newB s
  have ok3 : WfP (syncS (appendS (createS D newB).2 newB s).2 newB).2 := wp_sync ok2 newB
  have H := steps_run (b := B4) (n := 4) (by omega) (pick5 (createS D newB).1 (appendS (createS D newB).2 newB s).1 (syncS (appendS (createS D newB).2 newB s).2 newB).1 (renameS (syncS (appendS (createS D newB).2 newB s).2 newB).2 newB nm).1 0)
    (fun k W => TSt At c gl gd L (pick5 D (createS D newB).2 (appendS (createS D newB).2 newB s).2 (syncS (appendS (createS D newB).2 newB s).2 newB).2 (renameS (syncS (appendS (createS D newB).2 newB s).2 newB).2 newB nm).2 k) W)
    (pick5 84 85 86 87 0) (pick5 #[] #[] #[] #[] #[]) (pick5 #[ptr B1] #[ptr B1, ptr B3] #[ptr B1] #[ptr B1, ptr B2] #[])
    (fun k hk => by
      match k, hk with
      | 0, _ => exact enters_of Tryz.func84 (by kernel_rfl) rfl
      | 1, _ => exact enters_of Tryz.func85 (by kernel_rfl) rfl
      | 2, _ => exact enters_of Tryz.func86 (by kernel_rfl) rfl
      | 3, _ => exact enters_of Tryz.func87 (by kernel_rfl) rfl)
    (fun k W hk hT => by
      have q := (hT.blok m4 k4).cell k
      match k, hk with
      | 0, _ => exact q
      | 1, _ => exact q
      | 2, _ => exact q
      | 3, _ => exact q)
    (fun k W hk hT => by
      match k, hk with
      | 0, _ => exact rewrite1_run api hT ok m1 k1
      | 1, _ => exact rewrite2_run api hT ok1 m1 k1 m3 k3 hs
      | 2, _ => exact rewrite3_run api hT ok2 m1 k1
      | 3, _ => exact rewrite4_run api hT ok3 m1 k1 m2 k2 hn) w h
  refine H.mono ?_
  rintro e w' ⟨rfl, hT⟩
  unfold rewriteT
  by_cases e0 : (createS D newB).1 = 0
  · by_cases e1 : (appendS (createS D newB).2 newB s).1 = 0
    · by_cases e2 : (syncS (appendS (createS D newB).2 newB s).2 newB).1 = 0
      · by_cases e3 : (renameS (syncS (appendS (createS D newB).2 newB s).2 newB).2 newB nm).1 = 0
        · simp [stR, pick5, thenD, e0, e1, e2, e3] at hT ⊢
          exact ⟨by simp, hT⟩
        · simp [stR, pick5, thenD, e0, e1, e2, e3] at hT ⊢
          exact ⟨rfl, hT⟩
      · simp [stR, pick5, thenD, e0, e1, e2] at hT ⊢
        exact ⟨rfl, hT⟩
    · simp [stR, pick5, thenD, e0, e1] at hT ⊢
      exact ⟨rfl, hT⟩
  · simp [stR, pick5, thenD, e0] at hT ⊢
    exact ⟨rfl, hT⟩
set_option maxRecDepth 100000 in
theorem rewrite_run (h : TSt At c gl gd L D w) (ok : WfP D) (hn : nm.size ≤ maxLen) (hs : s.size ≤ 1100000) :
    Calls Tryz.prog 77 #[ptr gl, .string nm, .string s] w (TRet At c gl gd (err (rewriteT D nm s).1) L (rewriteT D nm s).2) := by
  have OK := Lib.hid ok
  have HN := Lib.hid hn
  have HS := Lib.hid hs
  have H0 := Lib.hid h
  have h1 := h.box api (.cells #[ptr gl] 23)
  have k1 := Blok.new w 23 #[ptr gl]
  have kg := h.keep.alloc (.cells #[ptr gl] 23)
  generalize hB1 : w.heap.size = B1 at *
  generalize hW1 : w.alloc (.cells #[ptr gl] 23) = W1 at *
  have h2 := h1.box api (.cells #[.string nm] 9)
  have k2 := Blok.new W1 9 #[.string nm]
  have k1 := k1.alloc (.cells #[.string nm] 9)
  have kg := kg.alloc (.cells #[.string nm] 9)
  generalize hB2 : W1.heap.size = B2 at *
  generalize hW2 : W1.alloc (.cells #[.string nm] 9) = W2 at *
  have h3 := h2.box api (.cells #[.string s] 9)
  have k3 := Blok.new W2 9 #[.string s]
  have k1 := k1.alloc (.cells #[.string s] 9)
  have k2 := k2.alloc (.cells #[.string s] 9)
  have kg := kg.alloc (.cells #[.string s] 9)
  generalize hB3 : W2.heap.size = B3 at *
  generalize hW3 : W2.alloc (.cells #[.string s] 9) = W3 at *
  have h4 := h3.box api (.cells #[.func (.func 84) #[] #[ptr B1], .func (.func 85) #[] #[ptr B1, ptr B3], .func (.func 86) #[] #[ptr B1], .func (.func 87) #[] #[ptr B1, ptr B2]] 31)
  have k4 := Blok.new W3 31 #[.func (.func 84) #[] #[ptr B1], .func (.func 85) #[] #[ptr B1, ptr B3], .func (.func 86) #[] #[ptr B1], .func (.func 87) #[] #[ptr B1, ptr B2]]
  have kg := kg.alloc (.cells #[.func (.func 84) #[] #[ptr B1], .func (.func 85) #[] #[ptr B1, ptr B3], .func (.func 86) #[] #[ptr B1], .func (.func 87) #[] #[ptr B1, ptr B2]] 31)
  have hmf : ∀ (fn : Fn) (first cap : Array Value) (w : World), (Instr.makeFunc fn first cap).run Tryz.prog w = .ok (.func fn first cap) w := fun _ _ _ _ => rfl
  have R := Lib.hid (rewrite_steps api h4 OK.out (B1 := B1) (B2 := B2) (B3 := B3) (by simp) (k1.alloc _) (by simp) (k2.alloc _) (by simp) (k3.alloc _) (by simp) _ k4 HN.out HS.out)
  have KG := Lib.hid kg
  clear h ok hn hs h1 h2 h3 h4 k1 k2 k3 k4 kg
  go_enter Tryz.func77, Tryz.ntmps77
  go_wp2_with fail
  refine R.out.mono ?_
  rintro e w6 ⟨rfl, h7⟩
  have h8 := Lib.hid (h7.undo H0.out KG.out rfl rfl rfl rfl (fun b hb => by simp [hb]))
  clear h7
  go_wp2
  go_ret
  exact ⟨rfl, h8.out⟩
end
end Go.Proofs.YtedbgimmbapfaaaGreat

/- OpenOne -/
namespace Go.Proofs.YtedbgimmbapfaaaGreat
open Go.RowKit
set_option linter.unusedVariables false

/-- Is a text sealed (P2.2)? -/
def opOk (s : ByteArray) : Bool := decide (4 ≤ s.size ∧ s.extract (s.size - 4) s.size = bs (tailS (s.extract 0 (s.size - 4)).data.toList))
/-- The text that is sealed (P2.2). -/
def opA (s : ByteArray) : ByteArray := if opOk s = true then s.extract 0 (s.size - 4) else ByteArray.empty

theorem list_eq {a b : ByteArray} (h : a = b) : (a.toList == b.toList) = true := by rw [h, beq_iff_eq]
theorem list_ne {a b : ByteArray} (h : ¬ a = b) : (a.toList == b.toList) = false := by
  rw [beq_eq_false_iff_ne]
  intro x
  rw [Lib.toList_data, Lib.toList_data] at x
  exact h (ByteArray.ext (Array.toList_inj.1 x))

set_option maxHeartbeats 400000 in
theorem open_at (s : ByteArray) (w : World) (hs : s.size ≤ maxLen) (h4 : 4 ≤ s.size) (T : ByteArray)
    (ht : ∀ W, Below w.heap.size w W → Calls Tryz.prog 66 #[.string (s.extract 0 (s.size - 4))] W fun e w' => e = .returned (.string T) ∧ Below w.heap.size w w') :
    Calls Tryz.prog 57 #[.string s] w fun e w' => e = .returned (.tuple #[.string (if s.extract (s.size - 4) s.size = T then s.extract 0 (s.size - 4) else ByteArray.empty), .bool (decide (s.extract (s.size - 4) s.size = T))]) ∧ Below w.heap.size w w' := by
  have Ht := Lib.hid ht
  clear ht
  unfold maxLen at hs
  have d1 : decide ((s.size : Int) - 4 < 0) = false := by simp; omega
  have x1 : (0 : Int) ≤ (s.size : Int) - 4 := by omega
  have x4 : (4 : Int) ≤ (s.size : Int) := by omega
  have x2 : (s.size : Int) - 4 ≤ s.size := by omega
  have x3 : ((s.size : Int) - 4).toNat = s.size - 4 := by omega
  by_cases hT : s.extract (s.size - 4) s.size = T
  · have he := list_eq hT.symm
    rw [if_pos hT, decide_eq_true hT]
    have HT := Lib.hid hT
    clear hT
    go_enter Tryz.func57, Tryz.ntmps57
    go_wp2_with fail
    go_region_held3 (fun w' => Below w.heap.size w w') (first | assumption | exact (Below.refl _ _).drew) ((go_at_call 66; refine (Ht.out _ (by assumption)).mono ?_; rintro e w' ⟨rfl, hb⟩))
    go_wp2
    go_ret2
    exact ⟨rfl, ‹Below _ _ _›⟩
  · have he := list_ne (fun h : T = s.extract (s.size - 4) s.size => hT h.symm)
    rw [if_neg hT, decide_eq_false hT]
    have HT := Lib.hid hT
    clear hT
    go_enter Tryz.func57, Tryz.ntmps57
    go_wp2_with fail
    go_region_held3 (fun w' => Below w.heap.size w w') (first | assumption | exact (Below.refl _ _).drew) ((go_at_call 66; refine (Ht.out _ (by assumption)).mono ?_; rintro e w' ⟨rfl, hb⟩))
    go_wp2
    go_ret2
    exact ⟨rfl, ‹Below _ _ _›⟩

theorem open_any (s : ByteArray) (w : World) (hs : s.size ≤ maxLen) :
    Calls Tryz.prog 57 #[.string s] w fun e w' => e = .returned (.tuple #[.string (opA s), .bool (opOk s)]) ∧ Below w.heap.size w w' := by
  by_cases h4 : 4 ≤ s.size
  · have h := open_at s w hs h4 (bs (tailS (s.extract 0 (s.size - 4)).data.toList)) (fun W hW => (tail_any _ W (by unfold maxLen at *; rw [ByteArray.size_extract]; omega)).mono fun e w' ⟨he, hb⟩ => ⟨he, hW.trans (hb.mono hW.size)⟩)
    have e1 : opOk s = decide (s.extract (s.size - 4) s.size = bs (tailS (s.extract 0 (s.size - 4)).data.toList)) := by simp [opOk, h4]
    have e2 : opA s = if s.extract (s.size - 4) s.size = bs (tailS (s.extract 0 (s.size - 4)).data.toList) then s.extract 0 (s.size - 4) else ByteArray.empty := by
      unfold opA
      rw [e1]
      simp
    rw [e1, e2]
    exact h
  · have e1 : opOk s = false := by simp [opOk, h4]
    have e2 : opA s = ByteArray.empty := by simp [opA, e1]
    rw [e1, e2]
    clear e1 e2
    unfold maxLen at hs
    have d1 : decide ((s.size : Int) - 4 < 0) = true := by simp; omega
    go_enter Tryz.func57, Tryz.ntmps57
    go_wp2_with fail
    go_quiet (fail)
    go_wp2
    go_ret2
    exact ⟨rfl, below_drewN (Below.refl _ _) _⟩
end Go.Proofs.YtedbgimmbapfaaaGreat

/- RecSize -/
namespace Go.Proofs.YtedbgimmbapfaaaGreat
open Go.RowKit
set_option linter.unusedVariables false

theorem bs_list (s : ByteArray) : bs s.data.toList = s := by
  apply ByteArray.ext
  simp [bs]
theorem be_getS (s : ByteArray) (h : s.size = 4) : bs (be 4 (getS s)) = s := by
  have hl : s.data.toList.length = 4 := by rw [Array.length_toList]; exact h
  unfold getS
  rw [List.take_of_length_le (by omega)]
  have e := be_un s.data.toList
  rw [hl] at e
  rw [e, bs_list]
theorem getS_four (s : ByteArray) (h : s.size ≤ 4) : getS s < 4294967296 := by
  unfold getS
  have h1 := un_lt (s.data.toList.take 8)
  have h2 : (s.data.toList.take 8).length ≤ 4 := by rw [List.length_take, Array.length_toList]; have : s.data.size = s.size := rfl; omega
  have h3 : 256 ^ (s.data.toList.take 8).length ≤ 256 ^ 4 := Nat.pow_le_pow_right (by decide) h2
  have : (256 : Nat) ^ 4 = 4294967296 := by decide
  omega
theorem join_ext (s : ByteArray) (i j k : Nat) (h1 : i ≤ j) (h2 : j ≤ k) : s.extract i j ++ s.extract j k = s.extract i k := by
  rw [ByteArray.extract_append_extract, Nat.min_eq_left h1, Nat.max_eq_right h2]
theorem opOk_iff {s : ByteArray} (h : 4 ≤ s.size) : opOk s = true ↔ s = sealS (s.extract 0 (s.size - 4)) := by
  have hz : (s.extract 0 (s.size - 4)).size = s.size - 4 := by rw [ByteArray.size_extract]; omega
  have hj : s.extract 0 (s.size - 4) ++ s.extract (s.size - 4) s.size = s := by rw [join_ext _ _ _ _ (by omega) (by omega), ByteArray.extract_zero_size]
  unfold opOk sealS
  rw [decide_eq_true_iff]
  constructor
  · rintro ⟨_, e⟩
    rw [← e, hj]
  · intro e
    refine ⟨h, ?_⟩
    have e2 := congrArg (fun x => x.extract (s.size - 4) s.size) e
    rw [e2]
    have := ext_mid (s.extract 0 (s.size - 4)) (bs (tailS (s.extract 0 (s.size - 4)).data.toList)) ByteArray.empty (i := s.size - 4) (j := s.size) hz.symm (by rw [hz, bs_size, tailS_length]; omega)
    rw [ByteArray.append_empty] at this
    exact this

/-- When a text that says that it has n bytes of payload is a record. -/
theorem rec_iff (R : ByteArray) (n : Nat) (hR : R.size = n + 12) (hn : getS (R.extract 0 4) = n) :
    R = recS (R.extract 4 (4 + n)) ↔ (R.extract (n + 8) (n + 12) = R.extract 0 4 ∧ opOk (R.extract 0 (n + 8)) = true) := by
  have z4 : (R.extract 0 4).size = 4 := by rw [ByteArray.size_extract]; omega
  have zp : (R.extract 4 (4 + n)).size = n := by rw [ByteArray.size_extract]; omega
  have z8 : (R.extract 0 (n + 8)).size = n + 8 := by rw [ByteArray.size_extract]; omega
  have hb := be_getS _ z4
  rw [hn] at hb
  have hj : R.extract 0 4 ++ R.extract 4 (4 + n) = R.extract 0 (n + 4) := by rw [join_ext _ _ _ _ (by omega) (by omega), Nat.add_comm 4 n]
  have hx : (R.extract 0 (n + 8)).extract 0 (n + 4) = R.extract 0 (n + 4) := by rw [ByteArray.extract_extract]; congr 1 <;> omega
  have hw : R.extract 0 (n + 8) ++ R.extract (n + 8) (n + 12) = R := by rw [join_ext _ _ _ _ (by omega) (by omega), ← hR, ByteArray.extract_zero_size]
  have hrec : recS (R.extract 4 (4 + n)) = sealS (R.extract 0 (n + 4)) ++ R.extract 0 4 := by
    unfold recS
    rw [zp, hb, hj]
  have ho := opOk_iff (s := R.extract 0 (n + 8)) (by omega)
  rw [z8, show n + 8 - 4 = n + 4 by omega, hx] at ho
  rw [ho, hrec]
  have zs : (sealS (R.extract 0 (n + 4))).size = n + 8 := by rw [sealS_size, ByteArray.size_extract]; omega
  constructor
  · intro e
    constructor
    · have e2 := congrArg (fun x => x.extract (n + 8) (n + 12)) e
      rw [e2]
      have := ext_mid (sealS (R.extract 0 (n + 4))) (R.extract 0 4) ByteArray.empty (i := n + 8) (j := n + 12) zs.symm (by rw [zs, z4])
      rw [ByteArray.append_empty] at this
      exact this
    · have e2 := congrArg (fun x => x.extract 0 (n + 8)) e
      rw [e2]
      have := ext_mid ByteArray.empty (sealS (R.extract 0 (n + 4))) (R.extract 0 4) (i := 0) (j := n + 8) rfl (by rw [zs]; simp)
      rw [ByteArray.empty_append] at this
      exact this
  · rintro ⟨e1, e2⟩
    rw [← e1, ← e2, hw]

/-- Of a record the program takes the payload out of what was sealed. -/
theorem rec_take (R : ByteArray) (n : Nat) (hR : R.size = n + 12) (h : opOk (R.extract 0 (n + 8)) = true) : (opA (R.extract 0 (n + 8))).extract 4 (opA (R.extract 0 (n + 8))).size = R.extract 4 (4 + n) := by
  have z8 : (R.extract 0 (n + 8)).size = n + 8 := by rw [ByteArray.size_extract]; omega
  have hx : opA (R.extract 0 (n + 8)) = R.extract 0 (n + 4) := by
    unfold opA
    rw [if_pos h, z8, ByteArray.extract_extract]
    congr 1 <;> omega
  rw [hx, ByteArray.extract_extract, ByteArray.size_extract]
  congr 1 <;> omega
theorem opA_size (R : ByteArray) (n : Nat) (hR : R.size = n + 12) (h : opOk (R.extract 0 (n + 8)) = true) : (opA (R.extract 0 (n + 8))).size = n + 4 := by
  have z8 : (R.extract 0 (n + 8)).size = n + 8 := by rw [ByteArray.size_extract]; omega
  unfold opA
  rw [if_pos h, z8, ByteArray.size_extract]
  omega

/-- The program's Put. -/
theorem rput_no (p : ByteArray) (w : World) (hp : p.size ≤ maxLen) (h : 2000 < p.size) :
    Calls Tryz.prog 20 #[.string p] w fun e w' => e = .returned (.tuple #[.string ByteArray.empty, .int .i64 3]) ∧ Below w.heap.size w w' := by
  unfold maxLen at hp
  go_enter Tryz.func20, Tryz.ntmps20
  go_wp2
  go_ret2
  exact ⟨rfl, Below.refl _ _⟩

theorem rput_yes (p : ByteArray) (w : World) (h : p.size ≤ 2000) :
    Calls Tryz.prog 20 #[.string p] w fun e w' => e = .returned (.tuple #[.string (recS p), .int .i64 0]) ∧ Below w.heap.size w w' := by
  have H1 := Lib.hid fun W => put_some p.size 4 W (by omega) (by omega) (by omega)
  have hz : (bs (be 4 p.size) ++ p).size = p.size + 4 := by rw [ByteArray.size_append, bs_size, be_length]; omega
  have h4 : (bs (be 4 p.size)).size = 4 := by rw [bs_size, be_length]
  have a1 : ∀ w : World, (Op.stringOp .add (bs (be 4 p.size)) p).run Tryz.prog w = .ok (.string (bs (be 4 p.size) ++ p)) w := fun w => run_string_add_sum (P := Tryz.prog) (w := w) _ _ (by omega)
  have H2 := Lib.hid fun W => seal_any (bs (be 4 p.size) ++ p) W (by unfold maxLen; omega)
  have hs := sealS_size (bs (be 4 p.size) ++ p)
  have a2 : ∀ w : World, (Op.stringOp .add (sealS (bs (be 4 p.size) ++ p)) (bs (be 4 p.size))).run Tryz.prog w = .ok (.string (recS p)) w := fun w => run_string_add_sum (P := Tryz.prog) (w := w) _ _ (by omega)
  generalize recS p = R at *
  generalize sealS (bs (be 4 p.size) ++ p) = S at *
  generalize bs (be 4 p.size) ++ p = T at *
  generalize bs (be 4 p.size) = N at *
  clear hz h4 hs
  go_enter Tryz.func20, Tryz.ntmps20
  go_wp2_with fail
  refine (H1.out _).mono ?_
  rintro e w1 ⟨rfl, hb1⟩
  go_wp2_with fail
  refine (H2.out _).mono ?_
  rintro e w2 ⟨rfl, hb2⟩
  go_wp2
  go_ret2
  exact ⟨rfl, bj hb1 hb2⟩

theorem rput_any (p : ByteArray) (w : World) (hp : p.size ≤ maxLen) :
    Calls Tryz.prog 20 #[.string p] w fun e w' => e = .returned (.tuple #[.string (prS p), .int .i64 (prE p)]) ∧ Below w.heap.size w w' := by
  unfold prS prE
  by_cases h : 2000 < p.size
  · rw [if_pos h, if_pos h]; exact rput_no p w hp h
  · rw [if_neg h, if_neg h]; exact rput_yes p w (by omega)

/-- Can something stand there? -/
theorem place_any (s : ByteArray) (a : Int) (w : World) (hs : s.size ≤ maxLen) (wa : (Lit.int .i64 a).wf = true) :
    Calls Tryz.prog 55 #[.string s, .int .i64 a] w fun e w' => e = .returned (.bool (decide (0 ≤ a ∧ a ≤ s.size))) ∧ w = w' := by
  have hb := bounds_i64 wa
  unfold maxLen at hs
  by_cases h0 : 0 ≤ a
  · by_cases h1 : a ≤ s.size
    · rw [decide_eq_true ⟨h0, h1⟩]
      go_enter Tryz.func55, Tryz.ntmps55
      go_wp2
      go_ret
      exact ⟨rfl, rfl⟩
    · rw [decide_eq_false (fun h => h1 h.2)]
      go_enter Tryz.func55, Tryz.ntmps55
      go_wp2
      go_ret
      exact ⟨rfl, rfl⟩
  · rw [decide_eq_false (fun h => h0 h.1)]
    go_enter Tryz.func55, Tryz.ntmps55
    go_wp2
    go_ret
    exact ⟨rfl, rfl⟩

/-- The length of a payload that stands ahead. -/
theorem size_any (s : ByteArray) (w : World) (hs : s.size ≤ maxLen) (h4 : 4 ≤ s.size) :
    Calls Tryz.prog 70 #[.string s] w fun e w' => e = .returned (.tuple #[.int .i64 (if 2000 < getS (s.extract 0 4) then 0 else (getS (s.extract 0 4) : Nat)), .bool (decide (getS (s.extract 0 4) ≤ 2000))]) ∧ w = w' := by
  have H1 := Lib.hid fun W => get_any (s.extract 0 4) W (by unfold maxLen at *; rw [ByteArray.size_extract]; omega)
  have hn := getS_four (s.extract 0 4) (by rw [ByteArray.size_extract]; omega)
  generalize getS (s.extract 0 4) = n at *
  unfold maxLen at hs
  by_cases h : 2000 < n
  · rw [if_pos h, decide_eq_false (by omega)]
    go_enter Tryz.func70, Tryz.ntmps70
    go_wp2_with fail
    refine (H1.out _).mono ?_
    rintro e w1 ⟨rfl, rfl⟩
    go_wp2
    go_ret2
    exact ⟨rfl, rfl⟩
  · rw [if_neg h, decide_eq_true (by omega)]
    go_enter Tryz.func70, Tryz.ntmps70
    go_wp2_with fail
    refine (H1.out _).mono ?_
    rintro e w1 ⟨rfl, rfl⟩
    go_wp2
    go_ret2
    exact ⟨rfl, rfl⟩

/-- Whether the first bytes ask for a record that there is room for. -/
def askOk (s : ByteArray) : Bool := decide (12 ≤ s.size ∧ getS (s.extract 0 4) ≤ 2000 ∧ getS (s.extract 0 4) + 12 ≤ s.size)
def askS (s : ByteArray) : ByteArray := if askOk s = true then s.extract 0 (getS (s.extract 0 4) + 12) else ByteArray.empty

theorem asked_any (s : ByteArray) (w : World) (hs : s.size ≤ maxLen) :
    Calls Tryz.prog 56 #[.string s] w fun e w' => e = .returned (.tuple #[.string (askS s), .bool (askOk s)]) ∧ w = w' := by
  unfold askS
  by_cases h12 : 12 ≤ s.size
  · have H1 := Lib.hid fun W => size_any s W hs (by omega)
    have hn := getS_four (s.extract 0 4) (by rw [ByteArray.size_extract]; omega)
    have e0 : askOk s = decide (getS (s.extract 0 4) ≤ 2000 ∧ getS (s.extract 0 4) + 12 ≤ s.size) := by unfold askOk; simp [h12]
    rw [e0]
    clear e0
    generalize getS (s.extract 0 4) = n at *
    unfold maxLen at hs
    by_cases h : 2000 < n
    · rw [decide_eq_false (by omega), if_neg (by decide)]
      rw [decide_eq_false (by omega)] at H1
      go_enter Tryz.func56, Tryz.ntmps56
      go_wp2_with fail
      refine (H1.out _).mono ?_
      rintro e w1 ⟨rfl, rfl⟩
      go_wp2
      go_ret2
      exact ⟨rfl, rfl⟩
    · rw [decide_eq_true (show n ≤ 2000 by omega), if_neg h] at H1
      by_cases h2 : n + 12 ≤ s.size
      · rw [decide_eq_true ⟨by omega, h2⟩, if_pos rfl]
        have x1 : ((n : Int) + 12).toNat = n + 12 := by omega
        have y1 : ¬ (s.size : Int) - 12 < (n : Int) := by omega
        go_enter Tryz.func56, Tryz.ntmps56
        go_wp2_with fail
        refine (H1.out _).mono ?_
        rintro e w1 ⟨rfl, rfl⟩
        go_wp2
        go_ret2
        exact ⟨rfl, rfl⟩
      · rw [decide_eq_false (fun h => h2 h.2), if_neg (by decide)]
        have y1 : (s.size : Int) - 12 < (n : Int) := by omega
        go_enter Tryz.func56, Tryz.ntmps56
        go_wp2_with fail
        refine (H1.out _).mono ?_
        rintro e w1 ⟨rfl, rfl⟩
        go_wp2
        go_ret2
        exact ⟨rfl, rfl⟩
  · have e0 : askOk s = false := by unfold askOk; simp [h12]
    rw [e0, if_neg (by decide)]
    unfold maxLen at hs
    go_enter Tryz.func56, Tryz.ntmps56
    go_wp2
    go_ret2
    exact ⟨rfl, rfl⟩
end Go.Proofs.YtedbgimmbapfaaaGreat
