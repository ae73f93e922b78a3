/- 'Same' of the statements of layer 6, of both disks. -/
import Derived.Test.YtfpimebamkmjoaaDTell
import Derived.Deep.RegionHeld3
namespace Go.Proofs.Ytfpimebamkmjoaa.plays
open Go.RowKit
set_option linter.unusedVariables false

theorem StrsAt.form {w : World} {v : Value} {l : List ByteArray} (h : StrsAt w v l) : ∃ A off cap, v = .slice A l.length cap ∧ l.length ≤ maxLen ∧ ∀ i x, l[i]? = some x → ∃ b, A = some ⟨b, off, none⟩ ∧ w.cell? ⟨b, off + i, none⟩ = some (.string x) := by
  rcases h with ⟨rfl, a, c, rfl⟩ | ⟨b, off, cap, h1, h2, h3, h4, h5⟩
  · exact ⟨a, 0, c, rfl, Nat.zero_le _, fun i x h => by simp at h⟩
  · exact ⟨some ⟨b, off, none⟩, off, cap, h1, by omega, fun i x hx => ⟨b, rfl, h5 i x hx⟩⟩
theorem strs_same {w w' : World} {v : Value} {l : List ByteArray} (h : StrsAt w v l) (hb : l ≠ [] → ∀ b, v.ownBlock = some b → w'.heap[b]? = w.heap[b]? ∧ b < w'.heap.size) : StrsAt w' v l := by
  by_cases hl : l = []
  · subst hl
    rcases h with h | ⟨b, off, cap, rfl, _⟩
    · exact Or.inl h
    · exact Or.inl ⟨rfl, _, _, rfl⟩
  rcases h with h | ⟨b, off, cap, rfl, h2, h3, h4, h5⟩
  · exact Or.inl h
  · exact Or.inr ⟨b, off, cap, rfl, h2, h3, (hb hl b rfl).2, fun i x hx => (World.cell?_of_block (w := w) (a := ⟨b, off + i, none⟩) (hb hl b rfl).1).trans (h5 i x hx)⟩
theorem ints_same {w w' : World} {v : Value} {l : List Int} (h : IntsIn w v l) (hb : l ≠ [] → ∀ b, v.ownBlock = some b → w'.heap[b]? = w.heap[b]? ∧ b < w'.heap.size) : IntsIn w' v l := by
  by_cases hl : l = []
  · subst hl
    rcases h with h | ⟨b, off, cap, rfl, _⟩
    · exact Or.inl h
    · exact Or.inl ⟨rfl, _, _, rfl⟩
  rcases h with h | ⟨b, off, cap, rfl, h2, h3, h4, h5⟩
  · exact Or.inl h
  · exact Or.inr ⟨b, off, cap, rfl, h2, h3, (hb hl b rfl).2, fun i x hx => (World.cell?_of_block (w := w) (a := ⟨b, off + i, none⟩) (hb hl b rfl).1).trans (h5 i x hx)⟩
theorem wrap_sub {a b : Nat} (ha : a ≤ 1099511627776) (hb : b ≤ 1099511627776) : IntKind.i64.wrap ((a : Int) - (b : Int)) = (a : Int) - (b : Int) := IntWalk.i64_in _ (by omega)
theorem up_down (b : Bool) : ((!b) == b) = false := by cases b <;> rfl

theorem cells_touch {At : Lies} {w0 w w' wG : World} {g r : Nat} {G : List Nat} {D E : DiskS} (h : Pair At w0 g r G wG D E w) (ht : Touch [] w w') (i : Nat) : w'.cell? ⟨r, i, none⟩ = w.cell? ⟨r, i, none⟩ := by
  obtain ⟨F1, F2, h1, h2, _⟩ := h
  exact ht.cell (p := ⟨r, i, none⟩) (h2.low r h2.mem).2 (by simp)
set_option maxRecDepth 100000 in
set_option maxHeartbeats 8000000 in
theorem same_any {At : Lies} (t : DiskTell At) {w0 w wG : World} {g r : Nat} {G : List Nat} {D : DiskS} (h : Pair At w0 g r G wG D D w) (hw : Wf D) :
    Calls Try.prog 13 #[ptr g, ptr r] w (PEnd At w0 g r G wG (.bool true) D D) := by
  have T := Lib.hid t
  have H := Lib.hid h
  have HW := Lib.hid hw
  have hmany := hw.many
  clear t h hw
  go_enter Try.func13, Try.ntmps13
  go_wp2_with fail
  refine (Pair.names T.out H.out HW.out.ok).mono ?_
  rintro e w1 ⟨v1, B1, rfl, hs1, hp1, hg1, hm1⟩
  have P1 := Lib.hid hp1
  have S1 := Lib.hid hs1
  have G1 := Lib.hid hg1
  have M1 := Lib.hid hm1
  obtain ⟨A1, o1, c1, hv1, m1, -⟩ := StrsAt.form hs1
  clear hs1 hp1 hg1 hm1
  go_wp2_with fail
  refine (Pair.loose T.out P1.out HW.out.ok).mono ?_
  rintro e w2 ⟨v2, B2, rfl, hi2, hp2, hg2, hm2⟩
  have P2 := Lib.hid hp2
  have I2 := Lib.hid hi2
  have M2 := Lib.hid hm2
  have S2 := Lib.hid (strs_same S1.out (fun hne b hb => ⟨hg2 b (List.mem_append_left _ (M1.out (fun q => hne (by rw [q]; rfl)) b hb)), (Pair.guest hp2 (List.mem_append_right _ (List.mem_append_left _ (M1.out (fun q => hne (by rw [q]; rfl)) b hb)))).2⟩))
  have G2 := Lib.hid (show ∀ b ∈ G, w2.heap[b]? = wG.heap[b]? from fun b hb => (hg2 b (List.mem_append_right _ hb)).trans (G1.out b hb))
  obtain ⟨A2, o2, c2, hv2, m2, -⟩ := hi2.cell
  have ln : (D.l.map FileS.name).length = D.l.length := List.length_map _
  have ll : (looseL D.l).length = D.l.length := by unfold looseL; exact List.length_map _
  rw [ln] at hv1
  rw [ll] at hv2
  subst hv1 hv2
  clear hi2 hp2 hg2 hm2 P1 S1 G1 ln ll m1 m2
  obtain ⟨FA, FB, _, hr, _⟩ := P2.out
  obtain ⟨A, cap, vK, _, r0, r1, r2, r3, r4, _, _, n1, n2, hf⟩ := hr.view
  unfold maxLen at n2
  have hok := HW.out.ok
  have hwr := wrap_sub (a := D.cap) (b := usedS D.l) (by have := hok.cap; omega) (by have := hok.used; omega)
  have hud := up_down D.down
  have HU := Lib.hid hok.used
  clear hr hf n1 n2 hok
  have KF := Lib.hid (show ∀ w', Touch [] w2 w' → Calls Try.prog 27 #[ptr g] w' (FreeOut w' D) from fun w' ht => Pair.ask (Pair.still T.out.ok P2.out ht) (fun F hA => T.out.free hA HW.out.ok))
  have KS := Lib.hid (show ∀ w', Touch [] w2 w' → Calls Try.prog 46 #[ptr r] w' (fun e x => e = .returned (.int .i64 (usedS D.l : Nat)) ∧ w' = x) from fun w' ht => Pair.askr (Pair.still T.out.ok P2.out ht) (fun F hR => used_ref _ hR HU.out))
  have KU := Lib.hid (show ∀ w', Touch [] w2 w' → Calls Try.prog 30 #[ptr g] w' (fun e x => e = .returned (.bool (!D.down)) ∧ w' = x) from fun w' ht => Pair.ask (Pair.still T.out.ok P2.out ht) (fun F hA => T.out.up hA))
  have KR := Lib.hid (show ∀ w', Touch [] w2 w' → Calls Try.prog 28 #[ptr g] w' (fun e x => e = .returned (.int .i64 (D.count : Nat)) ∧ w' = x) from fun w' ht => Pair.ask (Pair.still T.out.ok P2.out ht) (fun F hA => T.out.reads hA))
  have KT := Lib.hid (show ∀ w', Touch [] w2 w' → Calls Try.prog 29 #[ptr g] w' (fun e x => e = .returned (.int .i64 (D.starts : Nat)) ∧ w' = x) from fun w' ht => Pair.ask (Pair.still T.out.ok P2.out ht) (fun F hA => T.out.starts hA))
  have KC := Lib.hid (fun w' ht i => cells_touch P2.out (w' := w') ht i)
  unfold FreeOut at KF
  generalize hcap : D.cap = dc at *
  generalize hu : usedS D.l = du at *
  generalize hct : D.count = dct at *
  generalize hst : D.starts = dst at *
  generalize hdn : D.down = ddn at *
  generalize hln : D.l.length = n at *
  have HLN := Lib.hid hln
  have HMN := Lib.hid hmany
  clear hcap hu hct hst hdn hln hmany HU H
  go_wp2_with fail
  go_region_held3 (fun w' => Touch [] w2 w' ∧ w'.cell? ⟨r, 0, none⟩ = some (.int .i64 dc) ∧ w'.cell? ⟨r, 1, none⟩ = some (.slice A n cap) ∧ w'.cell? ⟨r, 2, none⟩ = some (.int .i64 dct) ∧ w'.cell? ⟨r, 3, none⟩ = some (.bool ddn) ∧ w'.cell? ⟨r, 4, none⟩ = some (.int .i64 dst))
    (first | assumption | exact ⟨hT3, (KC.out _ hT3 0).trans r0, (KC.out _ hT3 1).trans r1, (KC.out _ hT3 2).trans r2, (KC.out _ hT3 3).trans r3, (KC.out _ hT3 4).trans r4⟩ | exact ⟨Touch.refl [] w2, r0, r1, r2, r3, r4⟩ | exact ⟨(Touch.refl [] w2).drew, r0, r1, r2, r3, r4⟩)
    (first
    | (go_at_call 27; refine (KF.out _ (by first | exact Touch.refl [] w2 | exact (Touch.refl [] w2).drew)).mono ?_; rintro e w3 ⟨rfl, ht3⟩; have hT3 : Touch [] w2 w3 := (show Touch [] w2 _ by first | exact Touch.refl [] w2 | exact (Touch.refl [] w2).drew).trans ht3 (fun x hx => by cases hx))
    | (go_at_call 46; refine (KS.out _ hT3).mono ?_; rintro e w' ⟨rfl, rfl⟩)
    | (go_at_call 30; refine (KU.out _ hT3).mono ?_; rintro e w' ⟨rfl, rfl⟩)
    | (go_at_call 28; refine (KR.out _ hT3).mono ?_; rintro e w' ⟨rfl, rfl⟩)
    | (go_at_call 29; refine (KT.out _ hT3).mono ?_; rintro e w' ⟨rfl, rfl⟩)
    | fail)
  have P3 := Lib.hid (Pair.still T.out.ok P2.out hT3)
  clear r0 r1 r2 r3 r4 hwr hud KF KS KU KR KT KC hT3 ht3 P2
  go_wp2
  go_loopw [7] (fun i wr => ∃ k : Nat, k ≤ n ∧ i = .int .i64 k ∧ Pair At w0 g r (B2 ++ (B1 ++ G)) w2 D D wr) (fun i _ => n - (intOf i).toNat)
  case atStart => exact ⟨0, Nat.zero_le _, rfl, P3.out⟩
  case round =>
    obtain ⟨k, hk, rfl, hP⟩ := hrel
    have HP := Lib.hid hP
    have SX := Lib.hid (strs_same S2.out (w' := wr) (fun hne b hb => Pair.guest hP (List.mem_append_right _ (List.mem_append_left _ (M1.out (fun q => hne (by rw [q]; rfl)) b hb)))))
    have IX := Lib.hid (ints_same I2.out (w' := wr) (fun hne b hb => Pair.guest hP (List.mem_append_left _ (M2.out (fun q => hne (by unfold looseL; rw [q]; rfl)) b hb))))
    obtain ⟨F1, F2, _, hr, _⟩ := hP
    obtain ⟨A', cap', vK', _, _, q1, _, _, _, _, _, n1, n2, hf⟩ := hr.view
    rw [HLN.out] at q1 n1
    unfold maxLen at n2
    have hmn := HMN.out
    clear hr
    by_cases hlt : k < n
    · obtain ⟨f, hfk⟩ := some_at (l := D.l) (k := k) (by rw [HLN.out]; exact hlt)
      obtain ⟨b, rfl, d0, d1, d2⟩ := hf k f hfk
      obtain ⟨A1', p1, cc1, hv1, _, hc1⟩ := StrsAt.form SX.out
      obtain ⟨A2', p2, cc2, hv2, _, hc2⟩ := IX.out.cell
      have ea1 := (Value.slice.inj hv1).1
      have ea2 := (Value.slice.inj hv2).1
      obtain ⟨b1, eb1, s0⟩ := hc1 k f.name (by rw [List.getElem?_map, hfk]; rfl)
      obtain ⟨b2, eb2, i0⟩ := hc2 k ((f.data.size : Int) - f.synced) (by unfold looseL; rw [List.getElem?_map, hfk]; rfl)
      rw [eb1] at ea1
      rw [eb2] at ea2
      clear hv1 hv2 hc1 hc2 eb1 eb2 hf
      subst ea1 ea2
      have hsz := HW.out.ok.sizes f (List.mem_of_getElem? hfk)
      have l1 : (k : Int) < (n : Int) := by omega
      have hws := wrap_sub (a := f.data.size) (b := f.synced) (by omega) (by omega)
      have hss := str_eq f.name
      have hTA : Touch [] wr (wr.alloc (.cells #[.string f.name, .string f.data, .int .i64 f.synced] 65)) := (Touch.refl [] wr).alloc _
      have s1 := (hTA.cell (p := ⟨b1, p1 + k, none⟩) (World.block_lt_of_cell? wr _ s0) (by simp)).trans s0
      have i1 := (hTA.cell (p := ⟨b2, p2 + k, none⟩) (World.block_lt_of_cell? wr _ i0) (by simp)).trans i0
      have hbx := Blok.new wr 65 #[.string f.name, .string f.data, .int .i64 f.synced]
      have x0 : (wr.alloc (.cells #[.string f.name, .string f.data, .int .i64 f.synced] 65)).cell? ⟨wr.heap.size, 0, none⟩ = some (.string f.name) := hbx.cell 0
      have x1 : (wr.alloc (.cells #[.string f.name, .string f.data, .int .i64 f.synced] 65)).cell? ⟨wr.heap.size, 1, none⟩ = some (.string f.data) := hbx.cell 1
      have x2 : (wr.alloc (.cells #[.string f.name, .string f.data, .int .i64 f.synced] 65)).cell? ⟨wr.heap.size, 2, none⟩ = some (.int .i64 f.synced) := hbx.cell 2
      have PA := Lib.hid (Pair.still T.out.ok HP.out hTA)
      clear hbx hTA s0 i0
      clear hfk
      go_wp2
      generalize wr.alloc (.cells #[.string f.name, .string f.data, .int .i64 f.synced] 65) = WA at *
      clear d0 d1 d2 q1
      go_quiet (fail)
      go_wp2
      refine ⟨⟨k + 1, by omega, by go_num, ?_⟩, by simp [intOf]; omega⟩
      exact Pair.still T.out.ok PA.out (by first | exact (Touch.refl [] WA).drewN _ | exact (Touch.refl [] WA).drew | exact Touch.refl [] WA)
    · obtain rfl : k = n := by omega
      clear hf hlt hk
      go_wp2
      go_ret
      exact ⟨rfl, Pair.back (L := B2 ++ B1) (by rw [List.append_assoc]; exact HP.out) G2.out⟩
end Go.Proofs.Ytfpimebamkmjoaa.plays
