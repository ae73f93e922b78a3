/- The walk of RecordsTorn, over what the program's records answer. -/
import Derived.Test.YtabalpcgnkjelaaRecorded
import Derived.Test.YtabalpcgnkjelaaRecTorn
import Derived.Deep.DeepCutAuto
import Derived.Deep.RegionHeld3
import Derived.Deep.CutBlock
namespace Go.Proofs.Ytabalpcgnkjelaa
open Go.RowKit
set_option linter.unusedVariables false

theorem keep_cell {W0 W : World} {p : Addr} {v : Value} (h : Below W0.heap.size W0 W) (hp : p.block < W0.heap.size) (hc : W0.cell? p = some v) : W.cell? p = some v := (h.cell hp).trans hc
theorem ints_take {w : World} {b off cap : Nat} {l : List Int} (hcap : l.length ≤ cap) (hm : cap ≤ maxLen) (hb : b < w.heap.size) (hc : ∀ i x, l[i]? = some x → w.cell? ⟨b, off + i, none⟩ = some (.int .i64 x)) (m : Nat) (h : m ≤ l.length) : IntsIn w (.slice (some ⟨b, off, none⟩) m cap) (l.take m) := by
  have e : (l.take m).length = m := by rw [List.length_take]; omega
  refine Or.inr ⟨b, off, cap, by rw [e], by omega, hm, hb, fun i x hx => hc i x ?_⟩
  have hi : i < m := by have := (List.getElem?_eq_some_iff.1 hx).1; omega
  rwa [List.getElem?_take, if_pos hi] at hx

set_option maxHeartbeats 2000000 in
set_option maxRecDepth 100000 in
theorem torn_walk (api : RecApi) (a : ByteArray) (v : Value) (l : List ByteArray) (c : Nat) (w : World) (ha : a.size ≤ maxLen) (hx : ∀ p ∈ l, p.size ≤ maxLen) (hv : StrsIn w v l) (hc16 : c < 65536) :
    Calls Try.prog 7 #[.string a, v, .int .u16 (c : Nat)] w fun e w' => e = .returned (.bool true) ∧ Below w.heap.size w w' := by
  have HR := Lib.hid (recorded_true api)
  have HROW := Lib.hid (row_any a v l w ha hx hv)
  obtain ⟨A, cp, rfl, hlm⟩ := hv.form
  clear hv hx ha hlm
  go_enter Try.func7, Try.ntmps7
  go_wp2_with fail
  refine HROW.out.mono ?_
  rintro e w1 ⟨⟨hno, rfl⟩ | ⟨hok, u, rfl, hu⟩, hb1⟩
  · go_wp2_with fail
    refine (HR.out _).mono ?_
    rintro e w2 ⟨rfl, hb2⟩
    go_wp2
    go_ret
    exact ⟨rfl, bj hb1 hb2⟩
  · have hrl := rowAt_length a l
    have hne : ¬ rowAt a l = [] := fun q => by rw [q] at hrl; simp at hrl
    rcases hu with ⟨q, _⟩ | ⟨b, off, cap, rfl, hcap, hmx, hb, hcell⟩
    · exact absurd q hne
    have HC := Lib.hid hcell
    have h20 := hok.2.1
    have hsz := rowS_size a l hok.2.2
    have h300 := hok.1
    have hsplit := rowS_split l a
    have hle : a.size ≤ (rowS a l).size := by rw [hsplit, ByteArray.size_append]; omega
    have HOK := Lib.hid hok
    have HTN := Lib.hid (fun k m => torn l a k m hok.2.2)
    have d0 := HC.out 0 _ (rowAt_at a l 0 (by omega))
    rw [Nat.add_zero, List.take_zero, show rowS a [] = a from rfl] at d0
    rw [hrl] at hcap ⊢
    have HRL := Lib.hid hrl
    obtain ⟨S, hS⟩ : ∃ S, rowS a l = S := ⟨_, rfl⟩
    rw [hS] at hle hsz ⊢
    have HS := Lib.hid hS
    obtain ⟨D, hD⟩ : ∃ D : Nat, D = S.size - a.size + 1 := ⟨_, rfl⟩
    have hm := Nat.mod_lt c (show 0 < D by omega)
    obtain ⟨r, hr⟩ : ∃ r, c % D = r := ⟨_, rfl⟩
    rw [hr] at hm
    have x0 : IntKind.i64.wrap ((S.size : Int) - (a.size : Int)) = (S.size : Int) - (a.size : Int) := IntWalk.i64_in _ (by omega)
    have x1 : IntKind.i64.wrap ((S.size : Int) - (a.size : Int) + 1) = (D : Int) := by rw [IntWalk.i64_in _ (by omega)]; omega
    have x2 : (S.size : Int) - (a.size : Int) + 1 = (D : Int) := by omega
    have x3 : Int.tmod (c : Int) (D : Int) = (r : Int) := by rw [Int.tmod_eq_emod_of_nonneg (by omega), ← hr]; rfl
    have x4 : (c : Int) % (D : Int) = (r : Int) := by rw [← hr]; rfl
    have x5 : IntKind.i64.wrap ((a.size : Int) + (r : Int)) = (a.size : Int) + (r : Int) := IntWalk.i64_in _ (by omega)
    have x6 : ¬ ((D : Int) = 0) := by omega
    have x7 : ((D : Int) == 0) = false := by simp; omega
    have p0 : (0 : Int) < ((l.length + 1 : Nat) : Int) := by omega
    have p1 : 0 < l.length + 1 := by omega
    obtain ⟨K, hK⟩ : ∃ K : Nat, K = a.size + r := ⟨_, rfl⟩
    have hKa : a.size ≤ K := by omega
    have hKS : K ≤ S.size := by omega
    have eK : wrap64 ((a.size : Int) + (c : Int) % ((S.size : Int) - (a.size : Int) + 1)) = (K : Int) := by
      rw [x2, x4]
      unfold wrap64
      omega
    have HK := Lib.hid eK
    clear hok hcell hS hr hne hrl hsplit eK hK x0 x1 x2 x3 x4 x5 x6 x7
    go_wp2
    go_quiet (fail)
    rw [HK.out]
    clear HK hm
    have hb2 := below_drewN hb1 nq
    generalize hw : w1.drewN nq = w2 at *
    have HC2 : Hid (∀ (i : Nat) (x : Int), (rowAt a l)[i]? = some x → w2.cell? ⟨b, off + i, none⟩ = some (.int .i64 x)) := Lib.hid fun i x h => by rw [← hw]; exact HC.out i x h
    have hbw : b < w2.heap.size := by rw [← hw]; exact hb
    clear hw HC d0 hb hb1 hD HROW
    unfold maxLen at hmx
    go_upto_block 0 with fail
    go_cut [11] (fun u wx => ∃ m : Nat, m ≤ l.length ∧ u = .int .i64 m ∧ (rowS a (l.take m)).size ≤ K ∧ (m < l.length → K < (rowS a (l.take (m + 1))).size) ∧ wx = w2)
    case first =>
      go_wp2_with fail
      go_loop [11] (fun i => ∃ m : Nat, m ≤ l.length ∧ i = .int .i64 m ∧ (rowS a (l.take m)).size ≤ K) (fun i => l.length - (intOf i).toNat)
      case atStart => exact ⟨0, Nat.zero_le _, rfl, by rw [List.take_zero]; exact hKa⟩
      case round =>
        obtain ⟨m, hm, rfl, hmK⟩ := hrel
        have HM := Lib.hid hmK
        clear hmK
        by_cases hlt : m < l.length
        · have d1 := HC2.out (m + 1) _ (rowAt_at a l (m + 1) (by omega))
          obtain ⟨X, hX⟩ : ∃ X, (rowS a (l.take (m + 1))).size = X := ⟨_, rfl⟩
          rw [hX] at d1
          have HX := Lib.hid hX
          have l1 : (m : Int) + 1 < ((l.length + 1 : Nat) : Int) := by omega
          have l2 : m + 1 < l.length + 1 := by omega
          clear hX
          by_cases hle2 : X ≤ K
          · have l3 : decide ((X : Int) ≤ (K : Int)) = true := decide_eq_true (by omega)
            go_wp2
            go_round
            case rel => exact ⟨m + 1, by omega, by go_num, by rw [HX.out]; exact hle2⟩
            case measure => simp [intOf]; omega
          · have l3 : decide ((X : Int) ≤ (K : Int)) = false := decide_eq_false (by omega)
            go_wp2
            go_meet
            exact ⟨m, hm, rfl, HM.out, fun _ => by rw [HX.out]; omega, rfl⟩
        · obtain rfl : m = l.length := by omega
          have l1 : ¬ (l.length : Int) + 1 < ((l.length + 1 : Nat) : Int) := by omega
          go_wp2
          go_meet
          exact ⟨l.length, hm, rfl, HM.out, fun h => absurd h (by omega), rfl⟩
    case rest =>
      obtain ⟨m, hm, rfl, hmK, hlast, rfl⟩ := hcut
      have hKz : (S.extract 0 K).size = K := by rw [ByteArray.size_extract]; omega
      have hT := HTN.out K m hKa (by rw [HS.out]; exact hKS) hm hmK hlast
      rw [HS.out] at hT
      have e1 : wlL (S.extract 0 K) (a.size : Nat) = (rowAt a l).take m := by unfold wlL; rw [if_pos (by omega), Int.toNat_natCast]; exact hT.1
      have e2 : wlE (S.extract 0 K) (a.size : Nat) = (rowS a (l.take m)).size := by unfold wlE; rw [if_pos (by omega), Int.toNat_natCast]; exact hT.2
      have G := fun W => api.whole (S.extract 0 K) (a.size : Nat) W (by omega) (WalkArith.wf_i64 (by omega))
      unfold WholeRec at G
      rw [e1, e2] at G
      obtain ⟨X, hX⟩ : ∃ X, (rowS a (l.take m)).size = X := ⟨_, rfl⟩
      have dm := HC2.out m _ (rowAt_at a l m hm)
      rw [hX] at G dm
      have HTK := Lib.hid (ints_take (cap := cap) (by rw [HRL.out]; exact hcap) (by unfold maxLen; exact hmx) hbw HC2.out m (by rw [HRL.out]; omega))
      obtain ⟨L, hL⟩ : ∃ L, (rowAt a l).take m = L := ⟨_, rfl⟩
      rw [hL] at G HTK
      have HG := Lib.hid G
      have d0 := HC2.out 0 _ (rowAt_at a l 0 (by omega))
      rw [Nat.add_zero, List.take_zero, show rowS a [] = a from rfl] at d0
      have HSS : Hid (∀ W, Below wc.heap.size wc W → Below wc.heap.size wc W ∧ W.cell? ⟨b, off, none⟩ = some (.int .i64 (a.size : Int))) := Lib.hid fun W hW => ⟨hW, keep_cell hW hbw d0⟩
      have y1 : (0 : Int) ≤ (K : Int) := by omega
      have y2 : (K : Int) ≤ (S.size : Int) := by omega
      have y3 : (m : Int) ≤ (cap : Int) := by omega
      have y4 : (m : Int) < ((l.length + 1 : Nat) : Int) := by omega
      have y5 : m < l.length + 1 := by omega
      have y6 : m ≤ cap := by omega
      have y7 : ((X : Int) == (X : Int)) = true := by simp
      have DM := Lib.hid dm
      clear hT e1 e2 G hX hL hmK hlast HTN HC2 hKz d0 dm
      go_wp2_with fail
      go_region_held3 (fun W => Below wc.heap.size wc W ∧ W.cell? ⟨b, off, none⟩ = some (.int .i64 (a.size : Int)))
        (first | (with_reducible assumption) | ((with_reducible refine HSS.out _ ?_); (first | (with_reducible assumption) | (with_reducible exact Below.refl _ _) | (with_reducible exact (Below.refl _ _).drew) | (with_reducible exact hbW)); done) | fail)
        (first
        | (go_at_call 17; ((with_reducible refine (HG.out _).mono ?_); rintro e w3 ⟨u, rfl, iu, hb3⟩; obtain ⟨A3, c3, rfl⟩ := iu.form; have IU := Lib.hid iu; have hbW : Below wc.heap.size wc w3 := bj (And.left (by with_reducible assumption)) hb3; clear iu))
        | fail)
      all_goals
        have i2 := HTK.out.below hbW (Nat.le_refl _)
        have d3 := keep_cell hbW hbw DM.out
        have hi := ints_any _ _ L L w3 IU.out i2
        rw [decide_eq_true rfl] at hi
        have HI := Lib.hid hi
        clear hi i2
        go_wp2_with fail
        refine HI.out.mono ?_
        rintro e w4 ⟨rfl, n, rfl⟩
        have d4 : (w3.drewN n).cell? ⟨b, off + m, none⟩ = some (.int .i64 (X : Int)) := d3
        have hfin := bj hb2 (below_drewN hbW n)
        generalize w3.drewN n = w5 at *
        go_wp2_with fail
        refine (HR.out _).mono ?_
        rintro e w6 ⟨rfl, hb6⟩
        go_wp2
        go_ret
        exact ⟨rfl, bj hfin hb6⟩
end Go.Proofs.Ytabalpcgnkjelaa
