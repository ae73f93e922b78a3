/- The walk of ChunksTorn, over what the program's chunks answer. -/
import Derived.Test.YtoocejmimfhniaaChunked
import Derived.Test.YtoocejmimfhniaaRecTorn
import Derived.Test.YtoocejmimfhniaaRecRow
import Derived.Deep.DeepCutAuto
import Derived.Deep.CutBlock
namespace Go.Proofs.Ytoocejmimfhniaa
open Go.RowKit
set_option linter.unusedVariables false

theorem ck_keep {W0 W : World} {p : Addr} {v : Value} (h : Below W0.heap.size W0 W) (hp : p.block < W0.heap.size) (hc : W0.cell? p = some v) : W.cell? p = some v := (h.cell hp).trans hc
theorem ck_take {w : World} {b off cap : Nat} {l : List Int} (hcap : l.length ≤ cap) (hm : cap ≤ maxLen) (hb : b < w.heap.size) (hc : ∀ i x, l[i]? = some x → w.cell? ⟨b, off + i, none⟩ = some (.int .i64 x)) (m : Nat) (h : m ≤ l.length) : IntsIn w (.slice (some ⟨b, off, none⟩) m cap) (l.take m) := by
  have e : (l.take m).length = m := by rw [List.length_take]; omega
  refine Or.inr ⟨b, off, cap, by rw [e], by omega, hm, hb, fun i x hx => hc i x ?_⟩
  have hi : i < m := by have := (List.getElem?_eq_some_iff.1 hx).1; omega
  rwa [List.getElem?_take, if_pos hi] at hx

theorem strs_below {w w' : World} {v : Value} {l : List ByteArray} (h : StrsIn w v l) (hb : Below w.heap.size w w') : StrsIn w' v l := by
  rcases h with h | ⟨b, off, cap, e1, e2, e3, e4, e5⟩
  · exact Or.inl h
  · exact Or.inr ⟨b, off, cap, e1, e2, e3, Nat.lt_of_lt_of_le e4 hb.size, fun i x hx => (hb.cell (p := ⟨b, off + i, none⟩) e4).trans (e5 i x hx)⟩

/-- A text that starts as a chunk's head, cut off. -/
theorem sc_cut {k : Nat} (hk : k ≤ 199) (S r : ByteArray) (hS : S = hdS (k : Nat) ++ r) (C : Nat) (hC : C ≤ S.size) :
    (C < 12 → scL (S.extract 0 C) (k : Nat) = [] ∧ scE (S.extract 0 C) (k : Nat) = 0 ∧ scOk (S.extract 0 C) (k : Nat) = true) ∧
    (12 ≤ C → scL (S.extract 0 C) (k : Nat) = wlL (S.extract 0 C) 12 ∧ scE (S.extract 0 C) (k : Nat) = wlE (S.extract 0 C) 12 ∧ scOk (S.extract 0 C) (k : Nat) = true) := by
  have hz := hd_size hk
  have hsz : (S.extract 0 C).size = C := by rw [ByteArray.size_extract]; omega
  have hpre : ∀ m, m ≤ 12 → m ≤ C → (S.extract 0 C).extract 0 m = (hdS (k : Nat)).extract 0 m := by
    intro m h1 h2
    rw [ByteArray.extract_extract, hS, ByteArray.extract_append]
    have e1 : (0 + m) = m := by omega
    have e2 : min m C = m := by omega
    simp only [Nat.zero_add, Nat.add_zero, e2]
    have e3 : r.extract (0 - (hdS (k : Nat)).size) (m - (hdS (k : Nat)).size) = ByteArray.empty := by
      apply ByteArray.ext
      apply Array.eq_empty_of_size_eq_zero
      show (r.extract (0 - (hdS (k : Nat)).size) (m - (hdS (k : Nat)).size)).size = 0
      rw [ByteArray.size_extract]
      omega
    rw [e3, ByteArray.append_empty]
  constructor
  · intro h
    refine sc_1 (scK_short (by omega) ?_ (by omega))
    rw [hsz, Nat.min_eq_left (by omega)]
    exact hpre C (by omega) (by omega)
  · intro h
    refine sc_2 (scK_whole (by omega) ?_ (by omega))
    rw [hsz, Nat.min_eq_right (by omega)]
    exact hpre 12 (by omega) h

set_option maxHeartbeats 800000 in
set_option maxRecDepth 100000 in
theorem torn_walk (api : ChunksApi) (v : Value) (l : List ByteArray) (n c : Nat) (w : World) (hx : ∀ p ∈ l, p.size ≤ maxLen) (hv : StrsIn w v l) (hn : n < 256) (hc16 : c < 65536) :
    Calls Try.prog 6 #[v, .int .u8 (n : Nat), .int .u16 (c : Nat)] w fun e w' => e = .returned (.bool true) ∧ Below w.heap.size w w' := by
  have HR := Lib.hid (chunked_true api)
  obtain ⟨k, hk⟩ : ∃ k : Nat, n % 200 = k := ⟨_, rfl⟩
  have hk9 : k ≤ 199 := by omega
  have k1 : Int.tmod (n : Int) 200 = (k : Int) := by rw [Int.tmod_eq_emod_of_nonneg (by omega)]; omega
  have k2 : (n : Int) % 200 = (k : Int) := by omega
  have HH := Lib.hid fun W => api.head (k : Nat) W (WalkArith.wf_i64 (by omega))
  have hz := hd_size hk9
  have HROW : Hid (∀ w1, Below w.heap.size w w1 → Calls Try.prog 15 #[.string (hdS (k : Nat)), v] w1 (RowEnd (hdS (k : Nat)) l w1)) := Lib.hid fun w1 h1 => row_any (hdS (k : Nat)) v l w1 (by rw [hz]; decide) hx (strs_below hv h1)
  have HCUT := Lib.hid (fun S r hS C hC => sc_cut hk9 S r hS C hC)
  obtain ⟨A, cp, rfl, hlm⟩ := hv.form
  obtain ⟨H, hH⟩ : ∃ H, hdS (k : Nat) = H := ⟨_, rfl⟩
  rw [hH] at HH hz HROW HCUT
  clear hv hx hlm hH
  go_enter Try.func6, Try.ntmps6
  go_wp2_with fail
  refine (HH.out _).mono ?_
  rintro e w1 ⟨rfl, hb1⟩
  go_wp2_with fail
  refine (HROW.out w1 hb1).mono ?_
  rintro e w2 ⟨⟨hno, rfl⟩ | ⟨hok, u, rfl, hu⟩, hb2⟩
  · have b12 := bj hb1 hb2
    clear hb1 hb2
    go_wp2_with fail
    refine (HR.out _).mono ?_
    rintro e w3 ⟨rfl, hb3⟩
    go_wp2
    go_ret
    exact ⟨rfl, bj b12 hb3⟩
  · have b12 := bj hb1 hb2
    clear hb1 hb2 HROW HH
    have hrl := rowAt_length H l
    have hne : ¬ rowAt H l = [] := fun q => by rw [q] at hrl; simp at hrl
    rcases hu with ⟨q, _⟩ | ⟨b, off, cap, rfl, hcap, hmx, hb, hcell⟩
    · exact absurd q hne
    have HC := Lib.hid hcell
    have h20 := hok.2.1
    have hsz := rowS_size H l hok.2.2
    have hsplit := rowS_split l H
    have hle : 12 ≤ (rowS H l).size := by rw [hsplit, ByteArray.size_append]; omega
    have HTN := Lib.hid (fun k m => torn l H k m hok.2.2)
    have HCU := Lib.hid fun C hC => HCUT.out (rowS H l) _ hsplit C hC
    rw [hrl] at hcap ⊢
    have HRL := Lib.hid hrl
    obtain ⟨S, hS⟩ : ∃ S, rowS H l = S := ⟨_, rfl⟩
    rw [hS] at hle hsz HCU ⊢
    have HS := Lib.hid hS
    obtain ⟨D, hD⟩ : ∃ D : Nat, D = S.size + 1 := ⟨_, rfl⟩
    have hm := Nat.mod_lt c (show 0 < D by omega)
    obtain ⟨C, hC⟩ : ∃ C, c % D = C := ⟨_, rfl⟩
    rw [hC] at hm
    have x3 : Int.tmod (c : Int) ((S.size : Int) + 1) = (C : Int) := by rw [Int.tmod_eq_emod_of_nonneg (by omega), ← hC, hD]; rfl
    have x4 : (c : Int) % ((S.size : Int) + 1) = (C : Int) := by rw [← hC, hD]; rfl
    have x6 : ¬ ((S.size : Int) + 1 = 0) := by omega
    have x7 : (((S.size : Int) + 1) == 0) = false := by simp; omega
    have x8 : (C : Int) ≤ (S.size : Int) := by omega
    have p0 : (0 : Int) < ((l.length + 1 : Nat) : Int) := by omega
    clear hok hcell hS hne hrl hsplit HCUT
    have SC := Lib.hid fun W => api.scan (S.extract 0 C) (k : Nat) W (by rw [ByteArray.size_extract]; omega) (WalkArith.wf_i64 (by omega))
    unfold Scanned at SC
    by_cases h12 : C < 12
    · obtain ⟨e1, e2, e3⟩ := (HCU.out C (by omega)).1 h12
      rw [e1, e2, e3] at SC
      clear e1 e2 e3 HCU hC
      have y1 : (C : Int) < 12 := by omega
      go_wp2_with fail
      refine (SC.out _).mono ?_
      rintro e w3 ⟨u3, rfl, i3, hb3⟩
      obtain ⟨A3, c3, rfl⟩ := i3.forms
      have b13 := bj b12 hb3
      clear i3 b12 hb3 SC HC hcap hb
      go_wp2_with fail
      refine (HR.out _).mono ?_
      rintro e w4 ⟨rfl, hb4⟩
      go_wp2
      go_ret
      exact ⟨rfl, bj b13 hb4⟩
    · obtain ⟨e1, e2, e3⟩ := (HCU.out C (by omega)).2 (by omega)
      rw [e1, e2, e3] at SC
      clear e1 e2 e3 HCU hC
      obtain ⟨L, hL⟩ : ∃ L, wlL (S.extract 0 C) 12 = L := ⟨_, rfl⟩
      obtain ⟨E, hE⟩ : ∃ E, wlE (S.extract 0 C) 12 = E := ⟨_, rfl⟩
      rw [hL, hE] at SC
      have HL := Lib.hid hL
      have HE := Lib.hid hE
      have y1 : ¬ (C : Int) < 12 := by omega
      clear hL hE
      go_wp2_with fail
      refine (SC.out _).mono ?_
      rintro e w3 ⟨u3, rfl, i3, hb3⟩
      obtain ⟨A3, c3, rfl⟩ := i3.forms
      have I3 := Lib.hid i3
      have b13 := bj b12 hb3
      have HC2 : Hid (∀ (i : Nat) (x : Int), (rowAt H l)[i]? = some x → w3.cell? ⟨b, off + i, none⟩ = some (.int .i64 x)) := Lib.hid fun i x h => ck_keep hb3 hb (HC.out i x h)
      have hbw : b < w3.heap.size := Nat.lt_of_lt_of_le hb hb3.size
      clear i3 b12 hb3 SC HC hb x3 x4 x6 x7
      unfold maxLen at hmx
      go_upto_block 0 with fail
      go_cut [15] (fun u wx => ∃ m : Nat, m ≤ l.length ∧ u = .int .i64 m ∧ (rowS H (l.take m)).size ≤ C ∧ (m < l.length → C < (rowS H (l.take (m + 1))).size) ∧ wx = w3)
      case first =>
        go_wp2_with fail
        go_loop [15] (fun i => ∃ m : Nat, m ≤ l.length ∧ i = .int .i64 m ∧ (rowS H (l.take m)).size ≤ C) (fun i => l.length - (intOf i).toNat)
        case atStart => exact ⟨0, Nat.zero_le _, rfl, by rw [List.take_zero]; show H.size ≤ C; omega⟩
        case round =>
          obtain ⟨m, hm, rfl, hmK⟩ := hrel
          have HM := Lib.hid hmK
          clear hmK
          by_cases hlt : m < l.length
          · have d1 := HC2.out (m + 1) _ (rowAt_at H l (m + 1) (by omega))
            obtain ⟨X, hX⟩ : ∃ X, (rowS H (l.take (m + 1))).size = X := ⟨_, rfl⟩
            rw [hX] at d1
            have HX := Lib.hid hX
            have l1 : (m : Int) + 1 < ((l.length + 1 : Nat) : Int) := by omega
            have l2 : m + 1 < l.length + 1 := by omega
            clear hX
            by_cases hle2 : X ≤ C
            · have l3 : decide ((X : Int) ≤ (C : Int)) = true := decide_eq_true (by omega)
              go_wp2
              go_round
              case rel => exact ⟨m + 1, by omega, by go_num, by rw [HX.out]; exact hle2⟩
              case measure => simp [intOf]; omega
            · have l3 : decide ((X : Int) ≤ (C : Int)) = false := decide_eq_false (by omega)
              go_wp2
              go_meet
              exact ⟨m, hm, rfl, HM.out, fun _ => by rw [HX.out]; omega, rfl⟩
          · obtain rfl : m = l.length := by omega
            have l1 : ¬ (l.length : Int) + 1 < ((l.length + 1 : Nat) : Int) := by omega
            go_wp2
            go_meet
            exact ⟨l.length, hm, rfl, HM.out, fun h => absurd h (by omega), rfl⟩
      case rest =>
        obtain ⟨m, hm, rfl, hmK, hlast, rfl⟩ := hcut
        have hKz : (S.extract 0 C).size = C := by rw [ByteArray.size_extract]; omega
        have hT := HTN.out C m (by omega) (by rw [HS.out]; omega) hm hmK hlast
        rw [HS.out, hz] at hT
        have e1 : L = (rowAt H l).take m := by rw [← HL.out]; unfold wlL; rw [if_pos (by omega)]; exact hT.1
        have e2 : E = (rowS H (l.take m)).size := by rw [← HE.out]; unfold wlE; rw [if_pos (by omega)]; exact hT.2
        have dm := HC2.out m _ (rowAt_at H l m hm)
        rw [← e2] at dm
        have i4 := ck_take (cap := cap) (by rw [HRL.out]; exact hcap) (by unfold maxLen; exact hmx) hbw HC2.out m (by rw [HRL.out]; omega)
        rw [← e1] at i4
        have hi := ints_any _ _ L L wc I3.out i4
        rw [decide_eq_true rfl] at hi
        have HI := Lib.hid hi
        have DM : Hid (∀ q, (wc.drewN q).cell? ⟨b, off + m, none⟩ = some (.int .i64 (E : Int))) := Lib.hid fun q => dm
        have HB := Lib.hid fun q => below_drewN b13 q
        have y2 : (m : Int) ≤ (cap : Int) := by omega
        have y3 : (m : Int) < ((l.length + 1 : Nat) : Int) := by omega
        have y4 : m < l.length + 1 := by omega
        have y5 : m ≤ cap := by omega
        have y7 : ((E : Int) == (E : Int)) = true := by simp
        clear hT e1 e2 hmK hlast HTN HC2 hKz hi i4 I3 HL HE dm b13
        go_wp2_with fail
        refine HI.out.mono ?_
        rintro e w4 ⟨rfl, q, rfl⟩
        have d4 := DM.out q
        have hfin := HB.out q
        generalize wc.drewN q = w5 at *
        go_wp2_with fail
        refine (HR.out _).mono ?_
        rintro e w6 ⟨rfl, hb6⟩
        go_wp2
        go_ret
        exact ⟨rfl, bj hfin hb6⟩
end Go.Proofs.Ytoocejmimfhniaa
