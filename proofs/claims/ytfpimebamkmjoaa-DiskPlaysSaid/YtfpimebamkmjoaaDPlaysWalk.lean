/- DiskPlays: the walk. -/
import Derived.Test.YtfpimebamkmjoaaDDo
import Derived.Test.YtfpimebamkmjoaaDBytes
import Derived.Test.YtfpimebamkmjoaaDSame
import Derived.Test.YtfpimebamkmjoaaDiskSinks
import Derived.Test.YtfpimebamkmjoaaActsGreat
namespace Go.Proofs.Ytfpimebamkmjoaa.plays
open Go.RowKit
set_option linter.unusedVariables false

section
variable {At : Lies} {w0 w w' wG : World} {g r : Nat} {G : List Nat} {D E : DiskS}
/-- New blocks are guests. -/
theorem Pair.fresh (ok : LiesOk At) (h : Pair At w0 g r G wG D E w) (ht : Touch [] w w') (L : List Nat) (hL : ∀ b ∈ L, w.heap.size ≤ b ∧ b < w'.heap.size) : Pair At w0 g r (L ++ G) w' D E w' := by
  obtain ⟨F1, F2, h1, h2, h3, h4, h5⟩ := h
  have h6 := h5.more ht
  refine ⟨F1, F2, ok.touch h1 ht (fun _ _ => by simp), h2.touch ht (fun _ _ => by simp), h3, h4.trans ht (fun x hx => by cases hx), fun b hb => ?_⟩
  rcases List.mem_append.1 hb with hb | hb
  · exact ⟨rfl, (hL b hb).2, fun hm => by have := (ok.low h1 _ hm).2; have := (hL b hb).1; omega, fun hm => by have := (h2.low _ hm).2; have := (hL b hb).1; omega⟩
  · exact ⟨rfl, (h6 b hb).2⟩
/-- A guest is written. -/
theorem Pair.write (ok : LiesOk At) (h : Pair At w0 g r G wG D E w) {b : Nat} (hb : b ∈ G) (hw : w0.heap.size ≤ b) (i : Nat) (u : Value) : Pair At w0 g r G (w.setCell ⟨b, i, none⟩ u) D E (w.setCell ⟨b, i, none⟩ u) := by
  obtain ⟨F1, F2, h1, h2, h3, h4, h5⟩ := h
  have ht : Touch [b] w (w.setCell ⟨b, i, none⟩ u) := (Touch.refl [b] w).setCell (p := ⟨b, i, none⟩) (Or.inl (by simp)) u
  obtain ⟨_, _, n1, n2⟩ := h5 b hb
  refine ⟨F1, F2, ok.touch h1 ht (fun x hx hm => n1 (by rw [← List.mem_singleton.1 hm]; exact hx)), h2.touch ht (fun x hx hm => n2 (by rw [← List.mem_singleton.1 hm]; exact hx)), h3, h4.trans ht (fun x hx => Or.inr (by rw [List.mem_singleton.1 hx]; exact hw)), fun c hc => ⟨rfl, Nat.lt_of_lt_of_le (h5 c hc).2.1 ht.size, (h5 c hc).2.2⟩⟩
theorem Pair.bare (h : Pair At w0 g r G wG D E w) (w1 : World) : Pair At w0 g r [] w1 D E w := by
  obtain ⟨F1, F2, h1, h2, h3, h4, h5⟩ := h
  exact ⟨F1, F2, h1, h2, h3, h4, fun b hb => by cases hb⟩
end
/-- A copy of a list of numbers by append. -/
theorem copy_run {w : World} {v : Value} {l : List Int} (h : IntsIn w v l) (hl : l.length ≤ 400) : ∃ A c w', (Builtin.append_ #[32, 32] 32 #[.slice none 0 0, v]).run Try.prog w = .ok (.slice A l.length c) w' ∧ w'.ownsRow w.heap.size 3 1 (.slice A l.length c) l.length (ints l) ∧ Touch [] w w' := by
  have hs : SrcAt w 1 v l.length (ints l) := by
    obtain ⟨A, off, cap, e, _⟩ := h.cell
    subst e
    cases A with
    | some a => exact h.src.2
    | none =>
      have hn : l = [] := by
        rcases h with ⟨e, _⟩ | ⟨b, off', cap', e, _⟩
        · exact e
        · cases e
      subst hn
      exact ⟨rfl, Or.inl ⟨cap, rfl, rfl⟩⟩
  obtain ⟨i0, hi, hz0, hz1, hz2⟩ := info_parts info_num
  obtain ⟨v', w', e1, e2, e3, e4⟩ := run_append_src (P := Try.prog) w w.heap.size 32 3 i0 _ 1 8 32 Try.underlying32 hi hz0 hz1 hz2 rfl (by decide) (.slice none 0 0) 0 [] (World.ownsRow_nil _ _ _ _) v l.length (ints l) hs (ints_one_cell l) (by unfold maxLen; omega) (by omega) (Nat.le_refl _)
  rw [Nat.zero_add, List.nil_append] at e2
  obtain ⟨A', cap', rfl, -, -, -⟩ := own_form e2
  exact ⟨A', cap', w', e1, e2, (Touch.refl [] w).grown e3 (fun k hk => by cases hk)⟩
/-- A row of so many numbers that may be written. -/
def RowW (w w0 : World) (A : Option Addr) (n : Nat) (L : List Nat) : Prop := n = 0 ∨ ∃ b, A = some ⟨b, 0, none⟩ ∧ w0.heap.size ≤ b ∧ b ∈ L ∧ ∃ cs, Blok w b 3 cs ∧ n ≤ cs.size
theorem row_w {w w0 : World} {base c : Nat} {A : Option Addr} {l : List Int} (h : w.ownsRow base 3 1 (.slice A l.length c) l.length (ints l)) (hb : w0.heap.size ≤ base) : RowW w w0 A l.length (Value.slice A l.length c).ownBlock.toList := by
  rcases h.2 with ⟨e1, e⟩ | ⟨b, cap, cs, e1, h0, h2, h3, h4, _, h6⟩
  · exact Or.inl e
  · obtain ⟨e2, _, _⟩ := Value.slice.inj e1
    subst e2
    refine Or.inr ⟨b, rfl, Nat.le_trans hb h0, by simp [Value.ownBlock], cs, h2, ?_⟩
    have hz : (ints l).length = l.length := by unfold ints; exact List.length_map _
    rw [← h6, List.length_take] at hz
    have : cs.toList.length = cs.size := Array.length_toList
    omega
theorem RowW.same {w w' w0 : World} {A : Option Addr} {n : Nat} {L : List Nat} (h : RowW w w0 A n L) (hs : ∀ b ∈ L, w'.heap[b]? = w.heap[b]?) : RowW w' w0 A n L := by
  rcases h with h | ⟨b, e, h1, h2, cs, h3, h4⟩
  · exact Or.inl h
  · exact Or.inr ⟨b, e, h1, h2, cs, (hs b h2).trans h3, h4⟩
theorem acts_touch {w w' : World} {v : Value} {l : List ActS} (h : ActsIn w v l) (ht : Touch [] w w') : ActsIn w' v l := by
  rcases h with h | ⟨b, off, cap, rfl, h2, h3, h4, h5⟩
  · exact Or.inl h
  · exact Or.inr ⟨b, off, cap, rfl, h2, h3, Nat.lt_of_lt_of_le h4 ht.size, fun i x hx j u hu => (ht.cell (p := ⟨b, off + (i * 7 + j), none⟩) h4 (by simp)).trans (h5 i x hx j u hu)⟩
set_option maxRecDepth 100000 in
set_option maxHeartbeats 8000000 in
theorem walk (W : World) (cp : Int) (v0 : Value) (l0 : List ActS) (hcp : (Lit.int .i64 cp).wf = true) (hl : ActsIn W v0 l0) (hok : ∀ x ∈ l0, ActOk W x) : Calls Try.prog 3 #[.int .i64 cp, v0] W fun e w' => e = .returned (.bool true) ∧ Below W.heap.size W w' := by
  have hg := Lib.hid (great_any v0 l0 100 W hl hok (by decide))
  obtain ⟨A, off, cap, rfl, ml, -⟩ := hl.len
  have HL := Lib.hid hl
  have HOK := Lib.hid hok
  have hsk := Lib.hid (fun w => sinks_true api w)
  have hcb := bounds_i64 hcp
  unfold maxLen at ml
  have ml2 : l0.length ≤ 9223372036854775807 := by omega
  clear hl hok ml hcp
  cases hgr : greatS l0 100
  case true =>
    rw [hgr] at hg
    clear hgr hcb
    go_enter Try.func3, Try.ntmps3
    go_wp2_with fail
    refine hg.out.mono ?_
    rintro e w' ⟨rfl, rfl⟩
    go_wp2_with fail
    refine (hsk.out _).mono ?_
    rintro e w2 ⟨rfl, hb⟩
    have HB := Lib.hid hb
    clear hb hsk
    go_wp2
    go_ret
    exact ⟨rfl, HB.out⟩
  rw [hgr] at hg
  have hsm := Lib.hid (show (∀ x ∈ l0, bigA x = false) ∧ l0.length ≤ 100 from by
    unfold greatS at hgr
    simp only [Bool.or_eq_false_iff, decide_eq_false_iff_not, List.any_eq_false] at hgr
    exact ⟨fun x hx => by simpa using hgr.2 x hx, by omega⟩)
  clear hgr
  by_cases hbad : cp < 0 ∨ 1048576 < cp
  case pos =>
    have n1 := Lib.hid (new_bad cp W hbad)
    have n2 := Lib.hid (new_ref_bad cp W hbad)
    clear hbad hcb
    go_enter Try.func3, Try.ntmps3
    go_wp2_with fail
    refine hg.out.mono ?_
    rintro e w' ⟨rfl, rfl⟩
    go_wp2_with fail
    refine n1.out.mono ?_
    rintro e w' ⟨rfl, rfl⟩
    go_wp2_with fail
    refine n2.out.mono ?_
    rintro e w' ⟨rfl, rfl⟩
    go_wp2_with fail
    refine (hsk.out _).mono ?_
    rintro e w2 ⟨rfl, hb⟩
    have HB := Lib.hid hb
    clear hb hsk
    go_wp2
    go_ret
    exact ⟨rfl, HB.out⟩
  obtain ⟨c, rfl⟩ : ∃ c : Nat, cp = (c : Int) := ⟨cp.toNat, by omega⟩
  have hc : c ≤ 1048576 := by omega
  have HCB := Lib.hid hc
  clear hbad hcb hc
  go_enter Try.func3, Try.ntmps3
  go_wp2_with fail
  refine hg.out.mono ?_
  rintro e w' ⟨rfl, rfl⟩
  clear hg
  go_wp2_with fail
  refine (api.new_ W.heap.size c W (Nat.le_refl _) HCB.out).mono ?_
  rintro e w1 ⟨g, F1, rfl, hA, hF1, hT1⟩
  have LA := Lib.hid hA
  have LT := Lib.hid hT1
  clear hA hF1 hT1
  go_wp2_with fail
  refine (new_ref_good W.heap.size c w1 LT.out.size HCB.out).mono ?_
  rintro e w2 ⟨rfl, hR, hT2⟩
  have hP0 := Lib.hid (show Pair (At2 ProgAt 0) W g w1.heap.size [] W (newS c) (newS c) w2 from
    ⟨F1, [w1.heap.size], ⟨0, api.touch LA.out hT2 (fun _ _ => by simp), Or.inl rfl⟩, hR, fun x hx hm => by have h1 := (api.low LA.out x hx).2; rw [List.mem_singleton.1 hm] at h1; omega, LT.out.trans hT2 (fun x hx => by cases hx), fun b hb => by cases hb⟩)
  have W0 := Lib.hid (wf_new HCB.out)
  clear hR hT2 LA LT
  generalize w1.heap.size = r at *
  go_wp2
  go_loopw [9] (fun i wr => ∃ (k : Nat) (D : DiskS), k ≤ l0.length ∧ i = .int .i64 k ∧ Pair (At2 ProgAt k) W g r [] W D D wr ∧ Wf D ∧ D.count ≤ 500 * k ∧ D.starts ≤ k) (fun i _ => l0.length - (intOf i).toNat)
  case atStart => exact ⟨0, _, Nat.zero_le _, rfl, hP0.out, W0.out, Nat.zero_le _, Nat.zero_le _⟩
  case round =>
    obtain ⟨k, D, hk, rfl, hP, hw, hct, hst⟩ := hrel
    have PP := Lib.hid hP
    have WW := Lib.hid hw
    have CS := Lib.hid (And.intro hct hst)
    have HTW := Lib.hid (Pair.touch0 hP)
    have HK := Lib.hid hsm.out.2
    clear hP hw hct hst hP0 W0
    by_cases hlt : k < l0.length
    · have hx : l0[k]? = some l0[k] := List.getElem?_eq_getElem hlt
      generalize l0[k] = x at *
      obtain ⟨A2, o2, c2, hv, -, hcell⟩ := HL.out.len
      obtain ⟨hA2, -, -⟩ := Value.slice.inj hv
      subst hA2
      clear hv
      obtain ⟨bb, rfl, d0, d1, d2, d3, d4, d5, d6⟩ := hcell k x hx
      have okx := HOK.out x (List.mem_of_getElem? hx)
      obtain ⟨kA, ko, kc, hkv, mk, -⟩ := okx.keep.cell
      have OKX := Lib.hid okx
      have hbnd : x.text.size ≤ 3000 ∧ x.keep.length ≤ 100 := by
        have := hsm.out.1 x (List.mem_of_getElem? hx)
        unfold bigA at this
        simp only [Bool.or_eq_false_iff, decide_eq_false_iff_not] at this
        omega
      have HBD := Lib.hid hbnd
      have hkI := okx.keep.touch HTW.out (fun b _ => by simp)
      obtain ⟨KA, kcap, w1, hrun, hrow, hT1⟩ := copy_run hkI (by omega)
      have l1 : (k : Int) < (l0.length : Int) := by omega
      have hblt := World.block_lt_of_cell? W _ d0
      have hTB : Touch [] W w1 := HTW.out.trans hT1 (fun x hx => by cases hx)
      have hTT := HTW.out
      have f6 := (hTT.cell (p := ⟨bb, o2 + k * 7 + 6, none⟩) hblt (by simp)).trans d6
      have e0 := (hTB.cell (p := ⟨bb, o2 + k * 7, none⟩) hblt (by simp)).trans d0
      have e1 := (hTB.cell (p := ⟨bb, o2 + k * 7 + 1, none⟩) hblt (by simp)).trans d1
      have e2 := (hTB.cell (p := ⟨bb, o2 + k * 7 + 2, none⟩) hblt (by simp)).trans d2
      have e3 := (hTB.cell (p := ⟨bb, o2 + k * 7 + 3, none⟩) hblt (by simp)).trans d3
      have e4 := (hTB.cell (p := ⟨bb, o2 + k * 7 + 4, none⟩) hblt (by simp)).trans d4
      have e5 := (hTB.cell (p := ⟨bb, o2 + k * 7 + 5, none⟩) hblt (by simp)).trans d5
      have e6 := (hTB.cell (p := ⟨bb, o2 + k * 7 + 6, none⟩) hblt (by simp)).trans d6
      have D6 := Lib.hid (And.intro hblt d6)
      have HKV := Lib.hid hkv
      rw [hkv] at f6 e6 hrun
      have HE := Lib.hid hrun
      have HROW := Lib.hid hrow
      have HT1 := Lib.hid hT1
      have P1 := Lib.hid (Pair.fresh (at2_ok api.ok k) PP.out hT1 (Value.slice KA x.keep.length kcap).ownBlock.toList (fun b hb => hrow.lt b (by simpa using hb)))
      have HX := Lib.hid hx
      clear d0 d1 d2 d3 d4 d5 d6 okx hkI hrun hrow hT1 hTB hTT hcell hbnd hx hblt hkv mk
      have hT3 : Touch [] w1 (w1.alloc (.cells #[.int .u8 (x.kind : Nat), .string x.name, .string x.dest, .string x.text, .int .i64 x.place, .int .i64 x.n, .slice KA x.keep.length kcap] 34)) :=
        (Touch.refl [] w1).alloc _
      have HT3 := Lib.hid hT3
      have P3 := Lib.hid (Pair.still (at2_ok api.ok k) P1.out hT3)
      have I1 := Lib.hid (IntsAt.of_own HROW.out)
      have OK3 := Lib.hid (show ActOk _ ({ x with keepV := .slice KA x.keep.length kcap } : ActS) from ⟨OKX.out.kind, OKX.out.name, OKX.out.dest, OKX.out.text, OKX.out.place, OKX.out.n, I1.out.in_.touch hT3 (fun b _ => by simp)⟩)
      clear hT3
      go_wp2_with (first | (at_builtin; refine wpList_append_two rfl _ _ rfl rfl rfl HE.out ?_) | fail)
      refine (do_any (apiK api k (by have := HK.out; omega)) ({ x with keepV := .slice KA x.keep.length kcap } : ActS) OK3.out P3.out WW.out HBD.out.1 (by have := CS.out.1; have := HK.out; omega) (by have := CS.out.2; have := HK.out; omega) HBD.out.2 I1.out (fun b hb => by show b ∈ _ ++ _; exact List.mem_append_left _ (by rw [hb]; simp))).mono ?_
      rintro e w4 ⟨E, hN, rfl, hP4⟩
      have N4 := Lib.hid hN
      have P4 := Lib.hid hP4
      clear hN hP4 e0 e1 e2 e3 e4 e5 e6 f6
      go_wp2_with fail
      refine (same_any (tell2 (k + 1)) P4.out N4.out.1).mono ?_
      rintro e w5 ⟨rfl, hP5⟩
      have P5 := Lib.hid hP5
      obtain ⟨F1', F2', _, hR5, _⟩ := hP5
      obtain ⟨A5, cap5, vK5, _, _, _, _, q3, _⟩ := hR5.view
      have N5 := Lib.hid (show E.count ≤ 500 * k + 1 ∧ E.starts ≤ k + 1 ∧ E.l.length ≤ 400 from ⟨by have h1 := N4.out.2.1; have h2 := CS.out.1; omega, by have h1 := N4.out.2.2; have h2 := CS.out.2; omega, N4.out.1.many⟩)
      clear hR5
      cases hd : E.down
      case' false =>
        rw [hd] at q3
        have HDN := Lib.hid hd
        clear hd
        go_wp2_with fail
        refine (bytes_any (tell2 (k + 1)) P5.out N4.out.1 HDN.out (by have h1 := N5.out.1; have h2 := HK.out; omega)).mono ?_
        rintro e w6 ⟨rfl, hP6⟩
        have P6 := Lib.hid hP6
        have N6 := Lib.hid (show Wf (bump E E.l.length) ∧ (bump E E.l.length).count ≤ 500 * (k + 1) ∧ (bump E E.l.length).starts ≤ k + 1 from ⟨wf_bump N4.out.1 _, by have h1 := N5.out.1; have h2 := N5.out.2.2; show E.count + E.l.length ≤ _; omega, N5.out.2.1⟩)
        generalize bump E E.l.length = E6 at *
        clear hP6
      case' true =>
        rw [hd] at q3
        clear hd
        have P6 := P5
        have N6 := Lib.hid (show Wf E ∧ E.count ≤ 500 * (k + 1) ∧ E.starts ≤ k + 1 from ⟨N4.out.1, by have h1 := N5.out.1; omega, N5.out.2.1⟩)
        generalize hE6 : E = E6 at *
        clear hE6
        generalize hw6 : w5 = w6 at *
        clear hw6
      all_goals
        have t6 := Pair.touch0 P6.out
        have f6 := (t6.cell (p := ⟨bb, o2 + k * 7 + 6, none⟩) D6.out.1 (by simp)).trans D6.out.2
        rw [HKV.out] at f6
        have J6 := Lib.hid (show IntsIn w6 (.slice kA x.keep.length kc) x.keep from by rw [← HKV.out]; exact OKX.out.keep.touch t6 (fun b _ => by simp))
        have R6 := Lib.hid (show ∀ b ∈ (Value.slice KA x.keep.length kcap).ownBlock.toList, w6.heap[b]? = w1.heap[b]? ∧ b < w6.heap.size from fun b hb => Pair.guest P6.out (List.mem_append_left _ hb))
        have K6 := Lib.hid (ints_same I1.out.in_ (w' := w6) (fun _ b hb => R6.out b (by rw [hb]; simp)))
        clear t6
        go_wp2_with fail
        refine (ints_any _ _ _ _ w6 K6.out J6.out).mono ?_
        rintro e w7 ⟨rfl, n7, rfl⟩
        rw [decide_eq_true rfl]
        have P7 := Lib.hid (Pair.bare (Pair.still (at2_ok api.ok (k + 1)) P6.out ((Touch.refl [] w6).drewN n7)) (w6.drewN n7))
        have R7 := Lib.hid (show RowW (w6.drewN n7) W KA x.keep.length (Value.slice KA x.keep.length kcap).ownBlock.toList from (row_w HROW.out HTW.out.size).same (fun b hb => (R6.out b hb).1))
        have G7 := Lib.hid (show Pair (At2 ProgAt (k + 1)) W g r ((Value.slice KA x.keep.length kcap).ownBlock.toList ++ []) (w6.drewN n7) E6 E6 (w6.drewN n7) from (Pair.rebase (Pair.still (at2_ok api.ok (k + 1)) P6.out ((Touch.refl [] w6).drewN n7))).1)
        have l4 : x.keep.length ≤ 100 := HBD.out.2
        clear P6 J6 K6 R6 q3 f6 P5 P4 OK3 I1 HT3 P3 P1 HT1 HE PP
        generalize w6.drewN n7 = w7 at *
        go_wp2
        go_loopw [12] (fun j wr2 => ∃ m : Nat, m ≤ x.keep.length ∧ j = .int .i64 m ∧ Pair (At2 ProgAt (k + 1)) W g r ((Value.slice KA x.keep.length kcap).ownBlock.toList ++ []) wr2 E6 E6 wr2 ∧ RowW wr2 W KA x.keep.length (Value.slice KA x.keep.length kcap).ownBlock.toList) (fun j _ => x.keep.length - (intOf j).toNat)
        case atStart => exact ⟨0, Nat.zero_le _, rfl, G7.out, R7.out⟩
        case round =>
          obtain ⟨m, hm, rfl, hP8, hR8⟩ := hrel
          have P8 := Lib.hid hP8
          clear hP8
          by_cases hml : m < x.keep.length
          · rcases hR8 with h0 | ⟨b, eb, hbw, hbl, cs, hbk, hcs⟩
            · omega
            subst eb
            obtain ⟨u0, c0⟩ : ∃ u, wr.cell? ⟨b, m, none⟩ = some u := ⟨cs[m], (hbk.cell m).trans (Array.getElem?_eq_getElem (by omega))⟩
            have fz := hbk.frozen m
            have l5 : (m : Int) < (x.keep.length : Int) := by omega
            have P9 := Lib.hid (Pair.write (at2_ok api.ok (k + 1)) P8.out (List.mem_append_left _ hbl) hbw m (.int .i64 99))
            have R9 := Lib.hid (show RowW (wr.setCell ⟨b, m, none⟩ (.int .i64 99)) W (some ⟨b, 0, none⟩) x.keep.length (Value.slice (some ⟨b, 0, none⟩) x.keep.length kcap).ownBlock.toList from Or.inr ⟨b, rfl, hbw, hbl, cs.setIfInBounds m (.int .i64 99), hbk.put m _, by simpa using hcs⟩)
            clear hbk hcs hbw hbl P8
            go_wp2
            go_roundw
            case rel => exact ⟨m + 1, by omega, by go_num, P9.out, R9.out⟩
            case measure => simp [intOf]; omega
          · obtain rfl : m = x.keep.length := by omega
            clear hR8
            go_wp2
            go_roundw
            case rel => exact ⟨k + 1, E6, by omega, by go_num, Pair.bare P8.out W, N6.out.1, N6.out.2.1, N6.out.2.2⟩
            case measure => simp [intOf]; omega
    · obtain rfl : k = l0.length := by omega
      obtain ⟨F1', F2', _, hR5, _⟩ := PP.out
      obtain ⟨A5, cap5, vK5, _, _, _, _, q3, _⟩ := hR5.view
      have CS2 := Lib.hid (show D.count ≤ 50000 ∧ D.starts ≤ 100 from ⟨by have h1 := CS.out.1; have h2 := HK.out; omega, by have h1 := CS.out.2; have h2 := HK.out; omega⟩)
      clear hR5
      cases hd : D.down
      · rw [hd] at q3
        clear hd
        go_wp2_with fail
        refine (same_any (tell2 l0.length) PP.out WW.out).mono ?_
        rintro e w5 ⟨rfl, hP5⟩
        have T5 := Lib.hid (Pair.touch0 hP5)
        clear hP5
        go_wp2_with fail
        refine (hsk.out _).mono ?_
        rintro e w6 ⟨rfl, hb⟩
        have HB := Lib.hid hb
        clear hb hsk
        go_wp2
        go_ret
        exact ⟨rfl, (T5.out.below (Nat.le_refl _) (fun x hx => by cases hx)).trans (HB.out.mono T5.out.size)⟩
      · rw [hd] at q3
        have hsd : (startS D).2.down = false := by unfold startS; rw [if_pos hd]
        have HSD := Lib.hid hsd
        have NS := Lib.hid (nigh_start (D := D))
        have WS := Lib.hid (wf_start WW.out)
        clear hd hsd
        go_wp2_with fail
        refine (Pair.prog (at2_ok api.ok l0.length) PP.out (fun F h => (apiK api l0.length (by have := HK.out; omega)).start h WW.out.ok (by have := CS2.out.2; omega))).mono ?_
        rintro e w5 ⟨rfl, hP5⟩
        have P5 := Lib.hid hP5
        clear hP5
        go_wp2_with fail
        refine (Pair.refv (at2_ok api.ok (l0.length + 1)) P5.out (fun F h => start_refv _ h (by have := CS2.out.2; omega))).mono ?_
        rintro e w6 ⟨rfl, hP6⟩
        have P6 := Lib.hid hP6
        clear hP6
        generalize (startS D).1 = sa at *
        generalize (startS D).2 = E at *
        go_wp2_with fail
        refine (bytes_any (tell2 (l0.length + 1)) P6.out WS.out HSD.out (by have h1 := NS.out.1; have h2 := CS2.out.1; omega)).mono ?_
        rintro e w7 ⟨rfl, hP7⟩
        have P7 := Lib.hid hP7
        clear hP7
        go_wp2_with fail
        refine (same_any (tell2 (l0.length + 1)) P7.out (wf_bump WS.out _)).mono ?_
        rintro e w8 ⟨rfl, hP8⟩
        have T8 := Lib.hid (Pair.touch0 hP8)
        clear hP8
        go_wp2_with fail
        refine (hsk.out _).mono ?_
        rintro e w9 ⟨rfl, hb⟩
        have HB := Lib.hid hb
        clear hb hsk
        go_wp2
        go_ret
        exact ⟨rfl, (T8.out.below (Nat.le_refl _) (fun x hx => by cases hx)).trans (HB.out.mono T8.out.size)⟩
end Go.Proofs.Ytfpimebamkmjoaa.plays
