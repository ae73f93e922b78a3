/- ImEx, ImOrphRef, ImFilesWalk, ImLoadWalk, ImCrashWalk, ImRefusedWalk -/
import Derived.Test.YtbhgngimebecdaaGreatPk23
import Derived.Test.YtbhgngimebecdaaGreatPk10
import Derived.Test.YtbhgngimebecdaaGreatPk14
import Derived.Test.YtbhgngimebecdaaGreatPk18
import Derived.Test.YtbhgngimebecdaaGreatPk09
import Derived.Test.YtbhgngimebecdaaGreatPk06
import Derived.Deep.LoopGhost
import Derived.Deep.DeepCutAuto
import Derived.WalkMore
import Derived.Test.YtbhgngimebecdaaGreatPk11
import Derived.Laws.BitsAllLaws
/- ImEx -/
namespace Go.Proofs.YtbhgngimebecdaaGreat
open Go.RowKit Go.Shelf
set_option linter.unusedVariables false
set_option maxRecDepth 100000

section
variable {At : Lies} (api : DiskApi At) (iap : ImApi At)
include api iap
set_option maxHeartbeats 1000000 in
theorem mapped_true (w : World) : Calls Tryz.prog 8 #[] w (MfTrueEnd w) := by
  have HNEW := Lib.hid (show Calls Tryz.prog 15 #[.int .i64 20000] w fun e w' => ∃ g, e = .returned (.tuple #[ptr g, .int .i64 0]) ∧ DS At w g (newS 20000) [] w' from im_new api w 20000 (by decide))
  obtain ⟨l1, l2⟩ := load_new4 20000
  obtain ⟨s1, s2, s3, s4, s5⟩ := ch_swap
  have ok0 : WfP (newS 20000) := wp_new (by decide)
  have HLD := Lib.hid (fun W g (h : DS At w g (newS 20000) [] W) => (iap.load h ok0 (by decide)))
  unfold ImLoadEnd at HLD
  rw [l1, l2] at HLD
  have ok1 := wp_swap ok0 chM
  have HSW : Hid (∀ W g E b, DS At w g (newS 20000) E W → Holds w E W (.slice (some ⟨b, 0, none⟩) 1 1) [[1, 2]] → Calls Tryz.prog 21 #[ptr g, .agg #[.int .i64 3, .int .i64 9, .int .u64 0, .slice (some ⟨b, 0, none⟩) 1 1]] W (DEnd At w g (err (swapP (newS 20000) chM).1) (swapP (newS 20000) chM).2 E W)) :=
    Lib.hid fun W g E b h1 h2 => iap.swap 3 9 0 _ 1 1 [[1, 2]] h1 ok0 h2 rfl (by decide) (by decide) (by decide)
  rw [s1] at HSW
  generalize hD1 : (swapP (newS 20000) chM).2 = D1 at *
  have HLD2 := Lib.hid (fun W g E (h : DS At w g D1 E W) => (iap.load h ok1 (by omega)))
  unfold ImLoadEnd at HLD2
  rw [s2] at HLD2
  have ok2 := wp_load ok1
  have HNM := Lib.hid (fun W g E (h : DS At w g (loadD D1) E W) => im_names api h ok2)
  have hll := (load_keeps D1).1
  have HN1 : Hid (((loadD D1).l.map FileS.name).length = 1) := Lib.hid (by rw [List.length_map, hll]; exact s4)
  have HS3 := Lib.hid s3
  have HSM := Lib.hid (fun (A2 : Option Addr) (n2 p2 b : Nat) (R2 : LvL) W (x0 x1 : Int) (x2 : Nat) (hb : LvsHas W (.slice (some ⟨b, 0, none⟩) 1 1) [[1, 2]]) (h2 : LvsHas W (.slice A2 n2 p2) R2) (e2 : n2 = R2.length) (hl : n2 ≤ 100000) => msamel_any 3 9 0 (some ⟨b, 0, none⟩) 1 1 [[1, 2]] x0 x1 x2 A2 n2 p2 R2 W hb h2 rfl e2 (by decide) hl)
  clear ok0 ok1 ok2 s1 s2 s3 s4 s5 hll hD1 l1 l2
  go_enter Tryz.func8, Tryz.ntmps8
  go_wp2_with fail
  refine HNEW.out.mono ?_
  rintro e w1 ⟨g, rfl, hD⟩
  have HL1 := Lib.hid (HLD.out w1 g hD)
  clear hD HNEW HLD
  go_wp2_with fail
  refine HL1.out.mono ?_
  rintro e w2 ⟨a0, a1, a2, A, n, c, R, rfl, -, -, -, -, -, -, hD, hK⟩
  unfold manV
  have hD2 := hD.box api (manO a0 a1 a2 (.slice A n c))
  obtain ⟨w3, hw3⟩ : ∃ w3, w3 = w2.alloc (manO a0 a1 a2 (.slice A n c)) := ⟨_, rfl⟩
  rw [← hw3] at hD2
  have HD3 := Lib.hid hD2
  have HW3 := Lib.hid hw3
  clear hD hK hD2 hw3 HL1
  go_upto_region 3 with fail
  rw [← HW3.out]
  clear HW3
  have B1 := ((Blok.new w3 3 #[.int .i64 1, .int .i64 2]).alloc (.cells #[.slice (some ⟨w3.heap.size, 0, none⟩) 2 2] 49)).alloc (.cells #[.int .i64 3, .int .i64 9, .int .u64 0, .slice (some ⟨w3.heap.size + 1, 0, none⟩) 1 1] 26)
  have B2 := (Blok.new (w3.alloc (.cells #[.int .i64 1, .int .i64 2] 3)) 49 #[.slice (some ⟨w3.heap.size, 0, none⟩) 2 2]).alloc (.cells #[.int .i64 3, .int .i64 9, .int .u64 0, .slice (some ⟨w3.heap.size + 1, 0, none⟩) 1 1] 26)
  have B3 := Blok.new ((w3.alloc (.cells #[.int .i64 1, .int .i64 2] 3)).alloc (.cells #[.slice (some ⟨w3.heap.size, 0, none⟩) 2 2] 49)) 26 #[.int .i64 3, .int .i64 9, .int .u64 0, .slice (some ⟨w3.heap.size + 1, 0, none⟩) 1 1]
  rw [World.size_alloc] at B2
  rw [World.size_alloc, World.size_alloc] at B3
  have hbel : Below w3.heap.size w3 (((w3.alloc (.cells #[.int .i64 1, .int .i64 2] 3)).alloc (.cells #[.slice (some ⟨w3.heap.size, 0, none⟩) 2 2] 49)).alloc (.cells #[.int .i64 3, .int .i64 9, .int .u64 0, .slice (some ⟨w3.heap.size + 1, 0, none⟩) 1 1] 26)) := (((Below.refl _ _).alloc (Nat.le_refl _) _).alloc (by simp) _).alloc (by simp; omega) _
  obtain ⟨b, hb⟩ : ∃ b, b = w3.heap.size := ⟨_, rfl⟩
  obtain ⟨w4, hw4⟩ : ∃ w4, w4 = ((w3.alloc (.cells #[.int .i64 1, .int .i64 2] 3)).alloc (.cells #[.slice (some ⟨w3.heap.size, 0, none⟩) 2 2] 49)).alloc (.cells #[.int .i64 3, .int .i64 9, .int .u64 0, .slice (some ⟨w3.heap.size + 1, 0, none⟩) 1 1] 26) := ⟨_, rfl⟩
  rw [← hw4] at hbel B1 B2 B3
  have hz : w4.heap.size = w3.heap.size + 3 := by rw [hw4]; simp
  have hD4 := HD3.out.more api hbel (B := [b, b + 1, b + 2]) (fun x hx => by
    simp only [List.mem_cons, List.not_mem_nil, or_false] at hx
    omega)
  rw [← hb] at B1 B2 B3
  have hH4 : Holds w ([b, b + 1, b + 2] ++ []) w4 (.slice (some ⟨b + 1, 0, none⟩) 1 1) [[1, 2]] := fun W hW hK => two_has ((hK.block b (by simp)).trans B1) ((hK.block (b + 1) (by simp)).trans B2)
  have KS := Lib.hid (HSW.out w4 g _ _ hD4 hH4)
  have HB1 := Lib.hid B1
  have HB2 := Lib.hid B2
  have HB3 := Lib.hid B3
  have HW4 := Lib.hid hw4
  have HB := Lib.hid hb
  have m0 : w4.cell? ⟨b + 2, 0, none⟩ = some (.int .i64 3) := B3.cell 0
  have m1 : w4.cell? ⟨b + 2, 1, none⟩ = some (.int .i64 9) := B3.cell 1
  have m2 : w4.cell? ⟨b + 2, 2, none⟩ = some (.int .u64 0) := B3.cell 2
  have m3 : w4.cell? ⟨b + 2, 3, none⟩ = some (.slice (some ⟨b + 1, 0, none⟩) 1 1) := B3.cell 3
  clear B1 B2 B3 hbel hb hw4 hz hD4 hH4 HD3 HSW
  go_upto_region 4 with fail
  rw [← HB.out] 
  rw [← HB.out] at HW4
  rw [← HW4.out]
  clear HW4 HB
  go_wp2_with fail
  refine KS.out.mono ?_
  rintro e w5 ⟨rfl, hD5, hK5⟩
  have C1 := hK5.blok HB1.out (by simp)
  have C2 := hK5.blok HB2.out (by simp)
  have C3 := hK5.blok HB3.out (by simp)
  have KL := Lib.hid (HLD2.out w5 g _ hD5)
  have HC1 := Lib.hid C1
  have HC2 := Lib.hid C2
  have HC3 := Lib.hid C3
  clear C1 C2 C3 hD5 hK5 m0 m1 m2 m3 KS HB1 HB2 HB3 HLD2
  go_wp2_with fail
  refine KL.out.mono ?_
  rintro e w6 ⟨x0, x1, x2, A2, n2, c2, R2, rfl, hlm, hn2, hh2, hl2, hf2, hx2, hD6, hK6⟩
  unfold manV
  have C1 := (hK6.blok HC1.out (by simp)).alloc (manO x0 x1 x2 (.slice A2 n2 c2))
  have C2 := (hK6.blok HC2.out (by simp)).alloc (manO x0 x1 x2 (.slice A2 n2 c2))
  have C3 := (hK6.blok HC3.out (by simp)).alloc (manO x0 x1 x2 (.slice A2 n2 c2))
  have N3 := Blok.new w6 26 #[.int .i64 x0, .int .i64 x1, .int .u64 (x2 : Nat), .slice A2 n2 c2]
  have hD7 := hD6.box api (manO x0 x1 x2 (.slice A2 n2 c2))
  have hh3 := hh2.below ((Below.refl w6.heap.size w6).alloc (Nat.le_refl _) (manO x0 x1 x2 (.slice A2 n2 c2))) (Nat.le_refl _)
  obtain ⟨b2, hb2⟩ : ∃ b2, b2 = w6.heap.size := ⟨_, rfl⟩
  obtain ⟨w7, hw7⟩ : ∃ w7, w7 = w6.alloc (manO x0 x1 x2 (.slice A2 n2 c2)) := ⟨_, rfl⟩
  rw [← hw7] at C1 C2 C3 N3 hD7 hh3
  rw [← hb2] at N3
  have KM := Lib.hid (HSM.out A2 n2 c2 (b + 1) R2 w7 x0 x1 x2 (two_has C1 C2) hh3 hn2 (by omega))
  have hsame : sameM ⟨3, 9, 0, [[1, 2]]⟩ ⟨x0, x1, x2, R2⟩ = true := by
    rw [← hlm, HS3.out]
    exact sameM_trim chM
  rw [hsame] at KM
  have m0 : w7.cell? ⟨b + 2, 0, none⟩ = some (.int .i64 3) := C3.cell 0
  have m1 : w7.cell? ⟨b + 2, 1, none⟩ = some (.int .i64 9) := C3.cell 1
  have m2 : w7.cell? ⟨b + 2, 2, none⟩ = some (.int .u64 0) := C3.cell 2
  have m3 : w7.cell? ⟨b + 2, 3, none⟩ = some (.slice (some ⟨b + 1, 0, none⟩) 1 1) := C3.cell 3
  have n0 : w7.cell? ⟨b2, 0, none⟩ = some (.int .i64 x0) := N3.cell 0
  have n1 : w7.cell? ⟨b2, 1, none⟩ = some (.int .i64 x1) := N3.cell 1
  have n2' : w7.cell? ⟨b2, 2, none⟩ = some (.int .u64 (x2 : Nat)) := N3.cell 2
  have n3 : w7.cell? ⟨b2, 3, none⟩ = some (.slice A2 n2 c2) := N3.cell 3
  have HD7 := Lib.hid hD7
  have HW7 := Lib.hid hw7
  have HB2' := Lib.hid hb2
  unfold manV at KM
  clear C1 C2 C3 N3 hD6 hK6 hh2 hh3 hw7 hb2 hD7 hsame hlm hn2 hl2 hf2 hx2 KL HC1 HC2 HC3 HSM
  go_upto_region 6 with fail
  rw [← HW7.out, ← HB2'.out]
  clear HW7 HB2'
  go_wp2_with fail
  refine KM.out.mono ?_
  rintro e w8 ⟨rfl, hb8⟩
  have KN := Lib.hid (HNM.out w8 g _ (HD7.out.below api hb8))
  clear hb8 m0 m1 m2 m3 n0 n1 n2' n3 KM HD7 HNM
  go_wp2_with fail
  refine KN.out.mono ?_
  rintro e w9 ⟨v9, BB, rfl, hv9, hD9, -, -⟩
  obtain ⟨A9, c9, rfl⟩ := hv9.shape
  have HB9 := Lib.hid hD9.kept
  have e1 := HN1.out
  clear hv9 hD9 KN HN1
  generalize (List.map FileS.name (loadD D1).l).length = n9 at *
  subst e1
  go_wp2
  go_ret
  exact ⟨rfl, HB9.out⟩
end
end Go.Proofs.YtbhgngimebecdaaGreat

/- ImOrphRef -/
namespace Go.Proofs.YtbhgngimebecdaaGreat
open Go.RowKit Go.Shelf
set_option linter.unusedVariables false
set_option maxRecDepth 100000

set_option maxHeartbeats 1000000 in
theorem orphr_any (vs : Value) (l : List ByteArray) (x0 x1 : Int) (x2 : Nat) (A : Option Addr) (k cp : Nat) (R : LvL) (w : World) (hs : StrsAt w vs l) (hl : l.length ≤ 1000) (hz : ∀ x ∈ l, x.size ≤ maxLen)
    (h : LvsHas w (.slice A k cp) R) (hf : R.flatten.length ≤ 100000) (hL : R.length ≤ 100000) :
    Calls Tryz.prog 11 #[vs, manV x0 x1 x2 (.slice A k cp)] w fun e w' => ∃ A' n' c', e = .returned (.slice A' n' c') ∧ n' = (orphL l ⟨x0, x1, x2, R⟩).length ∧ SRow w' w.heap.size (.slice A' n' c') (orphL l ⟨x0, x1, x2, R⟩) ∧ Below w.heap.size w w' := by
  obtain ⟨S, os, cs, rfl, ms, hc⟩ := hs.cell
  unfold maxLen at ms
  obtain ⟨N, hN⟩ : ∃ N, N = l.length := ⟨_, rfl⟩
  have HN := Lib.hid hN
  rw [← hN] at hl ms ⊢
  have hb := (Below.refl w.heap.size w).alloc (Nat.le_refl _) (manO x0 x1 x2 (.slice A k cp))
  have bm := Blok.new w 26 #[.int .i64 x0, .int .i64 x1, .int .u64 (x2 : Nat), .slice A k cp]
  obtain ⟨wa, hwa⟩ : ∃ wa, wa = w.alloc (manO x0 x1 x2 (.slice A k cp)) := ⟨_, rfl⟩
  have ha := h.below hb (Nat.le_refl _)
  rw [← hwa] at hb bm ha
  have hlt := bm.lt
  have HC := Lib.hid (fun W' (hb' : Below wa.heap.size wa W') (i : Nat) (x : ByteArray) (hx : l[i]? = some x) => (by
    obtain ⟨b, e1, e2⟩ := hc i x hx
    exact ⟨b, e1, ((hb.trans (hb'.mono hb.size)).cell (p := ⟨b, os + i, none⟩) (World.block_lt_of_cell? _ _ e2)).trans e2⟩ : ∃ b, S = some ⟨b, os, none⟩ ∧ W'.cell? ⟨b, os + i, none⟩ = some (.string x)))
  have HB := Lib.hid hb
  have HBM := Lib.hid bm
  have HA := Lib.hid ha
  have HZ := Lib.hid hz
  have HWA := Lib.hid hwa
  clear hb bm ha hz hwa hs hc h hN
  unfold manV
  go_enter Tryz.func11, Tryz.ntmps11
  go_upto_region 1 with fail
  rw [← HWA.out]
  clear HWA
  go_wp2
  go_loopg [5, 6] N (fun g u i wr => ∃ (j : Nat) (A5 : Option Addr) (n5 c5 : Nat), j + g = N ∧ i = .int .i64 j ∧ u = .slice A5 n5 c5 ∧ n5 = (orphL (l.take j) ⟨x0, x1, x2, R⟩).length ∧ SRow wr wa.heap.size (.slice A5 n5 c5) (orphL (l.take j) ⟨x0, x1, x2, R⟩) ∧ Below wa.heap.size wa wr)
  case atStart => exact ⟨0, none, 0, 0, by omega, rfl, rfl, rfl, SRow.nil _ _, Below.refl _ _⟩
  case round =>
    obtain ⟨j, A5, n5, c5, hjg, rfl, rfl, hn5, hrow, hbx⟩ := hrel
    have HN5 := Lib.hid hn5
    have HROW := Lib.hid hrow
    have HBX := Lib.hid hbx
    have HLE := Lib.hid (show n5 ≤ 1000 by rw [hn5]; exact Nat.le_trans (orphL_len _ _) (by rw [List.length_take]; omega))
    clear hrow hbx hn5
    by_cases hjm : j < N
    case neg =>
      obtain rfl : j = N := by omega
      have t2 : decide ((j : Int) < (j : Int)) = false := decide_eq_false (by omega)
      have ht : l.take j = l := by rw [HN.out, List.take_length]
      have HT := Lib.hid ht
      clear ht
      go_wp2
      go_ret
      refine ⟨A5, n5, c5, rfl, ?_, ?_, ?_⟩
      · rw [HN5.out, HT.out]
      · have := HROW.out.down (base' := w.heap.size) (by omega)
        rw [HT.out] at this
        exact this
      · exact HB.out.trans (HBX.out.mono HB.out.size)
    have t2 : decide ((j : Int) < (N : Int)) = true := decide_eq_true (by omega)
    have t2' : (j : Int) < (N : Int) := by omega
    obtain ⟨x, hx⟩ : ∃ x, l[j]? = some x := by
      rw [HN.out] at hjm
      exact ⟨l[j], List.getElem?_eq_getElem hjm⟩
    have hxz := HZ.out x (List.mem_of_getElem? hx)
    obtain ⟨b, e1, e2⟩ := HC.out wr HBX.out j x hx
    have HCX := Lib.hid (fun W' (hb' : Below wa.heap.size wa W') => HC.out W' hb' j x hx)
    subst e1
    have m3 : wr.cell? ⟨w.heap.size, 3, none⟩ = some (.slice A k cp) := (mblok_below HBM.out HBX.out).cell 3
    have htk := orph_take (m := ⟨x0, x1, x2, R⟩) hx
    obtain ⟨ob, hob⟩ : ∃ ob, orphB (⟨x0, x1, x2, R⟩ : ManS).lv.flatten x = ob := ⟨_, rfl⟩
    rw [hob] at htk
    have HTK := Lib.hid htk
    have HP := Lib.hid (fun W => parser_any x W hxz)
    have HAL := Lib.hid (rall_any _ R wr (HA.out.below HBX.out (Nat.le_refl _)) hf hL)
    obtain ⟨fl, hfl⟩ : ∃ fl, fl = R.flatten := ⟨_, rfl⟩
    have HFL := Lib.hid hfl
    have HFZ := Lib.hid (show fl.length ≤ 100000 by rw [hfl]; exact hf)
    have hor : ∀ q, (decide (x = newN) || (npOk x && !decide (npK x = 99) && !decide ((npN x : Int) ∈ fl))) = q → ob = q := by intro q h; rw [← hob, ← h, hfl]; rfl
    rw [← hfl] at HAL
    have HOR := Lib.hid hor
    clear hx hxz hfl hor hob htk
    cases gk with
    | zero => omega
    | succ gj =>
    generalize npOk x = ok at *
    generalize npN x = no at *
    generalize npK x = kd at *
    go_wp2_with fail
    refine (HP.out _).mono ?_
    rintro e wx ⟨rfl, hwx⟩
    obtain rfl : wr = wx := hwx
    clear HP
    by_cases hnew : x = newN
    · have tn' : x.toList = [110, 101, 119] := by rw [Lib.toList_data, hnew]; rfl
      have tn : (x.toList == [110, 101, 119]) = true := by rw [tn']; rfl
      have HO := Lib.hid (HOR.out true (by rw [decide_eq_true hnew]; rfl))
      clear hnew HOR HAL
      have ht := HTK.out
      rw [if_pos HO.out] at ht
      obtain ⟨w5, u5, f1, ⟨A6, c6, rfl, f2⟩, f3⟩ := strs_more (x := x) HROW.out HN5.out (by have := HLE.out; omega) HBX.out.size 31
      rw [← ht] at f2
      have HLN := Lib.hid (show n5 + 1 = (orphL (l.take (j + 1)) ⟨x0, x1, x2, R⟩).length by rw [ht, List.length_append, ← HN5.out]; rfl)
      have HF1 := Lib.hid f1
      have HF2 := Lib.hid f2
      have HF3 := Lib.hid (HBX.out.trans f3)
      clear f1 f2 f3 ht
      go_wp2_with (first | (at_builtin; refine wpList_append_two rfl _ _ rfl rfl rfl HF1.out ?_) | fail)
      go_roundg gj
      case measure => omega
      case rel => exact ⟨j + 1, A6, n5 + 1, c6, by omega, by go_num, by first | rfl | go_num, HLN.out, HF2.out, HF3.out⟩
    have tn' : ¬ x.toList = [110, 101, 119] := fun h => hnew (by rw [Lib.toList_data] at h; exact ByteArray.ext (Array.toList_inj.1 h))
    have tn : (x.toList == [110, 101, 119]) = false := beq_eq_false_iff_ne.2 tn'
    have HNEW := Lib.hid (decide_eq_false hnew)
    clear hnew
    cases ok with
    | false =>
      have HO := Lib.hid (show ¬ ob = true by rw [HOR.out false (by rw [HNEW.out]; rfl)]; simp)
      clear HOR HAL HNEW
      have ht := HTK.out
      rw [if_neg HO.out, List.append_nil] at ht
      have HF2 := HROW.out
      rw [← ht] at HF2
      have HLN := Lib.hid (show n5 = (orphL (l.take (j + 1)) ⟨x0, x1, x2, R⟩).length by rw [ht]; exact HN5.out)
      have HF2 := Lib.hid HF2
      have HF3 := Lib.hid HBX.out
      clear ht
      go_wp2_with fail
      go_roundg gj
      case measure => omega
      case rel => exact ⟨j + 1, A5, n5, c5, by omega, by go_num, by first | rfl | go_num, HLN.out, HF2.out, HF3.out⟩
    | true =>
    by_cases hk : kd = 99
    · have tk : ((kd : Int) != 99) = false := by subst hk; rfl
      have HO := Lib.hid (show ¬ ob = true by rw [HOR.out false (by rw [HNEW.out, decide_eq_true hk]; rfl)]; simp)
      clear HOR HAL HNEW hk
      have ht := HTK.out
      rw [if_neg HO.out, List.append_nil] at ht
      have HF2 := HROW.out
      rw [← ht] at HF2
      have HLN := Lib.hid (show n5 = (orphL (l.take (j + 1)) ⟨x0, x1, x2, R⟩).length by rw [ht]; exact HN5.out)
      have HF2 := Lib.hid HF2
      have HF3 := Lib.hid HBX.out
      clear ht
      go_wp2_with fail
      go_roundg gj
      case measure => omega
      case rel => exact ⟨j + 1, A5, n5, c5, by omega, by go_num, by first | rfl | go_num, HLN.out, HF2.out, HF3.out⟩
    have tk : ((kd : Int) != 99) = true := by simp; omega
    go_wp2_with fail
    refine HAL.out.mono ?_
    rintro e w3 ⟨A3, c3, rfl, hrow3, hb3⟩
    have hb4 := HBX.out.trans (hb3.mono HBX.out.size)
    have HR3 := Lib.hid (HROW.out.below hb3 (Nat.le_refl _))
    have HB3 := Lib.hid hb4
    have HAS := Lib.hid (has_any_i _ fl (no : Int) w3 hrow3.in_ (by have := HFZ.out; omega))
    clear e2
    obtain ⟨b3, e1, e2⟩ := HCX.out w3 hb4
    obtain rfl : b = b3 := congrArg Addr.block (Option.some.inj e1)
    clear e1
    clear hrow3 hb3 hb4 HAL HROW HBX m3
    go_wp2_with fail
    refine HAS.out.mono ?_
    rintro e w4 ⟨rfl, hw4⟩
    obtain rfl : w3 = w4 := hw4.symm
    clear HAS
    by_cases hin : (no : Int) ∈ fl
    · have HO := Lib.hid (show ¬ ob = true by rw [HOR.out false (by rw [HNEW.out, decide_eq_false hk, decide_eq_true hin]; rfl)]; simp)
      have ti : decide ((no : Int) ∈ fl) = true := decide_eq_true hin
      clear HOR HNEW hk hin
      have ht := HTK.out
      rw [if_neg HO.out, List.append_nil] at ht
      have HF2 := HR3.out
      rw [← ht] at HF2
      have HLN := Lib.hid (show n5 = (orphL (l.take (j + 1)) ⟨x0, x1, x2, R⟩).length by rw [ht]; exact HN5.out)
      have HF2 := Lib.hid HF2
      have HF3 := Lib.hid HB3.out
      clear ht
      go_wp2_with fail
      go_roundg gj
      case measure => omega
      case rel => exact ⟨j + 1, A5, n5, c5, by omega, by go_num, by first | rfl | go_num, HLN.out, HF2.out, HF3.out⟩
    · have HO := Lib.hid (show ob = true from HOR.out true (by rw [HNEW.out, decide_eq_false hk, decide_eq_false hin]; rfl))
      have ti : decide ((no : Int) ∈ fl) = false := decide_eq_false hin
      clear HOR HNEW hk hin
      have ht := HTK.out
      rw [if_pos HO.out] at ht
      obtain ⟨w5, u5, f1, ⟨A6, c6, rfl, f2⟩, f3⟩ := strs_more (x := x) HR3.out HN5.out (by have := HLE.out; omega) HB3.out.size 31
      rw [← ht] at f2
      have HLN := Lib.hid (show n5 + 1 = (orphL (l.take (j + 1)) ⟨x0, x1, x2, R⟩).length by rw [ht, List.length_append, ← HN5.out]; rfl)
      have HF1 := Lib.hid f1
      have HF2 := Lib.hid f2
      have HF3 := Lib.hid (HB3.out.trans f3)
      clear f1 f2 f3 ht
      go_wp2_with (first | (at_builtin; refine wpList_append_two rfl _ _ rfl rfl rfl HF1.out ?_) | fail)
      go_roundg gj
      case measure => omega
      case rel => exact ⟨j + 1, A6, n5 + 1, c6, by omega, by go_num, by first | rfl | go_num, HLN.out, HF2.out, HF3.out⟩

end Go.Proofs.YtbhgngimebecdaaGreat

/- ImFilesWalk -/
namespace Go.Proofs.YtbhgngimebecdaaGreat
open Go.RowKit Go.Shelf
set_option linter.unusedVariables false
set_option maxRecDepth 100000
section
variable {At : Lies} (api : DiskApi At)
include api
set_option maxHeartbeats 1000000 in
theorem files_any (v : Value) (L : List Nat) (w : World) (hl : U8sIn w v L) (wl : ∀ x ∈ L, x < 256) (hL : L.length ≤ 60) : Calls Tryz.prog 9 #[v] w fun e w' => ∃ g D, e = .returned (ptr g) ∧ DS At w g D [] w' ∧ FilesD D 60 := by
  obtain ⟨A8, off8, cap8, rfl, hmx8, hc8⟩ := hl.form
  have HC8 := Lib.hid (fun W' (h : Below w.heap.size w W') (i : Nat) (x : Nat) (hx : L[i]? = some x) => (by
    obtain ⟨b, e1, e2, e3⟩ := hc8 i x hx
    exact ⟨b, e1, (h.cell (p := ⟨b, off8 + i, none⟩) e2).trans e3⟩ : ∃ b, A8 = some ⟨b, off8, none⟩ ∧ W'.cell? ⟨b, off8 + i, none⟩ = some (.int .u8 (x : Nat))))
  have HW8 := Lib.hid wl
  obtain ⟨N, hN⟩ : ∃ N, N = L.length := ⟨_, rfl⟩
  have HN := Lib.hid hN
  rw [← hN] at hmx8 hL ⊢
  unfold maxLen at hmx8
  have HNEW := Lib.hid (show Calls Tryz.prog 15 #[.int .i64 30000] w fun e w' => ∃ g, e = .returned (.tuple #[ptr g, .int .i64 0]) ∧ DS At w g (newS 30000) [] w' from im_new api w 30000 (by decide))
  clear hl hc8 wl hN
  go_enter Tryz.func9, Tryz.ntmps9
  go_wp2_with fail
  refine HNEW.out.mono ?_
  rintro e w2 ⟨gd, rfl, hD2⟩
  have HD2 := Lib.hid hD2
  clear hD2 HNEW
  go_wp2
  -- L
  go_loopg [5] N (fun g i wr => ∃ (j : Nat) (D : DiskS), j + g = N ∧ i = .int .i64 j ∧ DS At w gd D [] wr ∧ FilesD D j)
  case atStart => exact ⟨0, _, by omega, rfl, HD2.out, files_new 30000 (by decide)⟩
  case round =>
    obtain ⟨j, D, hjg, rfl, hD, hF⟩ := hrel
    have HD := Lib.hid hD
    have HF := Lib.hid hF
    clear hD hF
    by_cases hjm : j < N
    case neg =>
      obtain rfl : j = N := by omega
      have t2 : decide ((j : Int) < (j : Int)) = false := decide_eq_false (by omega)
      go_wp2
      go_ret
      exact ⟨gd, D, rfl, HD.out, ⟨HF.out.up, Nat.le_trans HF.out.len hL, HF.out.name, HF.out.count⟩⟩
    have t2 : decide ((j : Int) < (N : Int)) = true := decide_eq_true (by omega)
    have t2' : (j : Int) < (N : Int) := by omega
    obtain ⟨c, hc⟩ : ∃ c, L[j]? = some c := by
      rw [HN.out] at hjm
      exact ⟨L[j], List.getElem?_eq_getElem hjm⟩
    have hcw := HW8.out c (List.mem_of_getElem? hc)
    obtain ⟨b, e1, e2⟩ := HC8.out wr HD.out.kept j c hc
    subst e1
    clear hc
    have HCR := Lib.hid (fun (nm : ByteArray) (hz : nm.size ≤ maxLen) W' (hb : Below wr.heap.size wr W') => (HD.out.below api hb).disk api (D' := (createS D nm).2) (v := err (createS D nm).1) (fun F h => api.create nm h HF.out.up.wf.ok hz))
    have HNM := Lib.hid (fun (k : UInt8) => (by
      rw [show (c : Int) / 8 = ((c / 8 : Nat) : Int) from rfl, nm_size (by omega)]
      decide : (nmS k ((c : Int) / 8)).size ≤ maxLen))
    cases gk with
    | zero => omega
    | succ gj =>
    go_wp2_with fail
    · refine (chunk_own ((c : Int) / 8) wr).mono ?_
      rintro e w4 ⟨rfl, hb4⟩
      have KC := Lib.hid (HCR.out (nmS 99 ((c : Int) / 8)) (HNM.out 99) w4 hb4)
      clear hb4
      go_wp2_with fail
      refine KC.out.mono ?_
      rintro e w5 ⟨rfl, hD5, -⟩
      have HD5 := Lib.hid hD5
      clear hD5
      go_wp2_with fail
      go_roundg gj
      case measure => omega
      case rel => exact ⟨j + 1, _, by omega, by go_num, HD5.out, HF.out.create _⟩
    · refine (HCR.out ⟨#[110, 101, 119]⟩ (by decide) wr (Below.refl _ _)).mono ?_
      rintro e w5 ⟨rfl, hD5, -⟩
      have HD5 := Lib.hid hD5
      clear hD5
      go_wp2_with fail
      go_roundg gj
      case measure => omega
      case rel => exact ⟨j + 1, _, by omega, by go_num, HD5.out, HF.out.create _⟩
    · refine (HCR.out ⟨#[120]⟩ (by decide) wr (Below.refl _ _)).mono ?_
      rintro e w5 ⟨rfl, hD5, -⟩
      have HD5 := Lib.hid hD5
      clear hD5
      go_wp2_with fail
      go_roundg gj
      case measure => omega
      case rel => exact ⟨j + 1, _, by omega, by go_num, HD5.out, HF.out.create _⟩
    · refine (table_own ((c : Int) / 8) wr).mono ?_
      rintro e w4 ⟨rfl, hb4⟩
      have KC := Lib.hid (HCR.out (nmS 116 ((c : Int) / 8)) (HNM.out 116) w4 hb4)
      clear hb4
      go_wp2_with fail
      refine KC.out.mono ?_
      rintro e w5 ⟨rfl, hD5, -⟩
      have HD5 := Lib.hid hD5
      clear hD5
      go_wp2_with fail
      go_roundg gj
      case measure => omega
      case rel => exact ⟨j + 1, _, by omega, by go_num, HD5.out, HF.out.create _⟩
    · refine (table_own ((c : Int) / 8) wr).mono ?_
      rintro e w4 ⟨rfl, hb4⟩
      have KC := Lib.hid (HCR.out (nmS 116 ((c : Int) / 8)) (HNM.out 116) w4 hb4)
      clear hb4
      go_wp2_with fail
      refine KC.out.mono ?_
      rintro e w5 ⟨rfl, hD5, -⟩
      have HD5 := Lib.hid hD5
      clear hD5
      go_wp2_with fail
      go_roundg gj
      case measure => omega
      case rel => exact ⟨j + 1, _, by omega, by go_num, HD5.out, HF.out.create _⟩
    · refine (table_own ((c : Int) / 8) wr).mono ?_
      rintro e w4 ⟨rfl, hb4⟩
      have KC := Lib.hid (HCR.out (nmS 116 ((c : Int) / 8)) (HNM.out 116) w4 hb4)
      clear hb4
      go_wp2_with fail
      refine KC.out.mono ?_
      rintro e w5 ⟨rfl, hD5, -⟩
      have HD5 := Lib.hid hD5
      clear hD5
      go_wp2_with fail
      go_roundg gj
      case measure => omega
      case rel => exact ⟨j + 1, _, by omega, by go_num, HD5.out, HF.out.create _⟩
    · refine (bloom_own ((c : Int) / 8) wr).mono ?_
      rintro e w4 ⟨rfl, hb4⟩
      have KC := Lib.hid (HCR.out (nmS 98 ((c : Int) / 8)) (HNM.out 98) w4 hb4)
      clear hb4
      go_wp2_with fail
      refine KC.out.mono ?_
      rintro e w5 ⟨rfl, hD5, -⟩
      have HD5 := Lib.hid hD5
      clear hD5
      go_wp2_with fail
      go_roundg gj
      case measure => omega
      case rel => exact ⟨j + 1, _, by omega, by go_num, HD5.out, HF.out.create _⟩
end
end Go.Proofs.YtbhgngimebecdaaGreat

/- ImLoadWalk -/
namespace Go.Proofs.YtbhgngimebecdaaGreat
open Go.RowKit Go.Shelf
set_option linter.unusedVariables false
set_option maxRecDepth 100000

theorem file_put (s : ByteArray) (hs : s.size ≤ 1000) : ∃ D1 D2, createS (newS 20000) mapN = (0, D1) ∧ appendS D1 mapN s = (0, D2) ∧ WfP D1 ∧ WfP D2 ∧ D2.count = 0 ∧ loadE D2 = mgE s ∧ loadM D2 = mgM s := by
  have ok0 : WfP (newS 20000) := wp_new (by decide)
  have c1 := createS_of (D := newS 20000) (n := mapN) rfl rfl map_name rfl (by decide)
  have w1 := wp_create ok0 mapN
  rw [c1] at w1
  obtain ⟨D1, hD1⟩ : ∃ D1 : DiskS, { newS 20000 with l := layS (newS 20000).l ⟨mapN, ByteArray.empty, 0⟩ } = D1 := ⟨_, rfl⟩
  have d1 : D1.down = false ∧ D1.fails = 0 ∧ D1.count = 0 ∧ D1.cap = 20000 ∧ D1.l = [⟨mapN, ByteArray.empty, 0⟩] := by rw [← hD1]; exact ⟨rfl, rfl, rfl, rfl, rfl⟩
  rw [hD1] at c1 w1
  have f1 : fileOf D1.l mapN = some ⟨mapN, ByteArray.empty, 0⟩ := by rw [d1.2.2.2.2]; unfold fileOf; rw [List.find?_cons, decide_eq_true rfl]
  have a1 := appendS_of (s := s) d1.1 d1.2.1 f1 (by rw [d1.2.2.2.2, d1.2.2.2.1]; show 0 + s.size ≤ _; omega)
  have w2 := wp_append w1 mapN s
  rw [a1] at w2
  have f2 : fileOf (appE D1 mapN s).l mapN = some ⟨mapN, s, 0⟩ := by
    show fileOf (setF D1.l (findS D1.l mapN) _) mapN = _
    rw [fileOf_setF _ (by intro f; rfl), if_pos rfl, f1]
    show some (FileS.mk mapN (ByteArray.empty ++ s) 0) = _
    rw [ba_empty_append]
  have r := rdW_of (D := appE D1 mapN s) (n := mapN) d1.1 f2
  exact ⟨D1, appE D1 mapN s, c1, a1, w1, w2, d1.2.2.1, by unfold loadE; rw [r]; rfl, by unfold loadM; rw [r]; rfl⟩
namespace ImLoad
section
variable {At : Lies} (api : DiskApi At) (iap : ImApi At)
include api iap
set_option maxHeartbeats 1000000 in
theorem walk (s : ByteArray) (ws : s.size ≤ maxLen) (w : World) : Calls Tryz.prog 4 #[.string s] w fun e w' => e = .returned (.bool true) ∧ Below w.heap.size w w' := by
  have HM := Lib.hid (fun W => mapped_true api iap W)
  unfold MfTrueEnd at HM
  unfold maxLen at ws
  by_cases hz : 1000 < s.size
  · have t1 : (1000 : Int) < (s.size : Int) := by omega
    clear ws
    go_enter Tryz.func4, Tryz.ntmps4
    go_wp2_with fail
    refine (HM.out _).mono ?_
    rintro e w1 ⟨rfl, hb1⟩
    go_wp2
    go_ret
    exact ⟨rfl, hb1⟩
  have t1 : ¬ (1000 : Int) < (s.size : Int) := by omega
  have HNEW := Lib.hid (show Calls Tryz.prog 15 #[.int .i64 20000] w fun e w' => ∃ g, e = .returned (.tuple #[ptr g, .int .i64 0]) ∧ DS At w g (newS 20000) [] w' from im_new api w 20000 (by decide))
  have ok0 : WfP (newS 20000) := wp_new (by decide)
  obtain ⟨l1, l2⟩ := load_new4 20000
  have HLD := Lib.hid (fun W g (h : DS At w g (newS 20000) [] W) => (iap.load h ok0 (by decide)))
  unfold ImLoadEnd at HLD
  rw [l1, l2] at HLD
  obtain ⟨D1, D2, p1, p2, ok1, ok2, hc2, e1, e2⟩ := file_put s (by omega)
  have HC : Hid (∀ W g, DS At w g (newS 20000) [] W → Calls Tryz.prog 17 #[ptr g, .string ⟨#[109, 97, 112]⟩] W (DEnd At w g (err (createS (newS 20000) mapN).1) (createS (newS 20000) mapN).2 [] W)) := Lib.hid fun W g h => h.disk api (fun F hF => api.create mapN hF ok0.ok (by decide))
  have HA : Hid (∀ W g, DS At w g D1 [] W → Calls Tryz.prog 18 #[ptr g, .string ⟨#[109, 97, 112]⟩, .string s] W (DEnd At w g (err (appendS D1 mapN s).1) (appendS D1 mapN s).2 [] W)) := Lib.hid fun W g h => h.disk api (fun F hF => api.append mapN s hF ok1.ok (by omega) (by decide))
  rw [p1] at HC
  rw [p2] at HA
  have HLD2 := Lib.hid (fun W g (h : DS At w g D2 [] W) => (iap.load h ok2 (by omega)))
  unfold ImLoadEnd at HLD2
  rw [e1, e2] at HLD2
  have HGR := Lib.hid (fun W => mgetr_any s W (by omega))
  unfold MfGetEnd at HGR
  have q1 : (mgE s == mgE s) = true := by simp
  have HSM := Lib.hid (fun (x0 x1 : Int) (x2 : Nat) (A : Option Addr) (n p : Nat) (R : LvL) (y0 y1 : Int) (y2 : Nat) (A2 : Option Addr) (n2 p2 : Nat) (R2 : LvL) W (h1 : LvsHas W (.slice A n p) R) (h2 : LvsHas W (.slice A2 n2 p2) R2) (e1 : n = R.length) (e2 : n2 = R2.length) (l1 : n ≤ 100000) (l2 : n2 ≤ 100000) => msamel_any x0 x1 x2 A n p R y0 y1 y2 A2 n2 p2 R2 W h1 h2 e1 e2 l1 l2)
  unfold manV at HSM HLD HLD2 HGR
  generalize mgE s = E0 at *
  clear ok0 l1 l2 p1 p2 ok1 ok2 hc2 e1 e2 hz ws
  go_enter Tryz.func4, Tryz.ntmps4
  go_wp2_with fail
  refine HNEW.out.mono ?_
  rintro e w1 ⟨g, rfl, hD⟩
  have K := Lib.hid (HLD.out w1 g hD)
  clear hD HNEW HLD
  go_wp2_with fail
  refine K.out.mono ?_
  rintro e w2 ⟨a0, a1, a2, A, n, c, R, rfl, -, -, -, -, -, -, hD, -⟩
  have K := Lib.hid (HC.out _ g (hD.box api (manO a0 a1 a2 (.slice A n c))))
  clear hD HC
  go_wp2_with fail
  refine K.out.mono ?_
  rintro e w3 ⟨rfl, hD, -⟩
  have K := Lib.hid (HA.out _ g hD)
  clear hD HA
  go_wp2_with fail
  refine K.out.mono ?_
  rintro e w4 ⟨rfl, hD, -⟩
  have K := Lib.hid (HLD2.out _ g hD)
  clear hD HLD2
  go_wp2_with fail
  refine K.out.mono ?_
  rintro e w5 ⟨x0, x1, x2, A2, n2, c2, R2, rfl, hm2, hn2, hh2, hl2, -, -, hD5, -⟩
  have hh3 := hh2.below ((Below.refl w5.heap.size w5).alloc (Nat.le_refl _) (manO x0 x1 x2 (.slice A2 n2 c2))) (Nat.le_refl _)
  have N3 := Blok.new w5 26 #[.int .i64 x0, .int .i64 x1, .int .u64 (x2 : Nat), .slice A2 n2 c2]
  have hB := (hD5.box api (manO x0 x1 x2 (.slice A2 n2 c2))).kept
  obtain ⟨b2, hb2⟩ : ∃ b2, b2 = w5.heap.size := ⟨_, rfl⟩
  obtain ⟨w6, hw6⟩ : ∃ w6, w6 = w5.alloc (manO x0 x1 x2 (.slice A2 n2 c2)) := ⟨_, rfl⟩
  rw [← hw6] at hh3 N3 hB
  rw [← hb2] at N3
  have HH3 := Lib.hid hh3
  have HN3 := Lib.hid N3
  have HB6 := Lib.hid hB
  have HM2 := Lib.hid hm2
  have HN2 := Lib.hid (And.intro hn2 hl2)
  have HW6 := Lib.hid hw6
  have HB2 := Lib.hid hb2
  clear hh2 hh3 N3 hB hm2 hn2 hl2 hD5 hw6 hb2
  go_upto_region 7 with fail
  rw [← HW6.out, ← HB2.out]
  clear HW6 HB2
  go_wp2_with fail
  refine (HGR.out _).mono ?_
  rintro e w7 ⟨y0, y1, y2, A3, n3, c3, R3, rfl, hm3, hn3, hnew3, hb7, -, -, hl3⟩
  have N4 := (mblok_below HN3.out hb7).alloc (manO y0 y1 y2 (.slice A3 n3 c3))
  have N5 := Blok.new w7 26 #[.int .i64 y0, .int .i64 y1, .int .u64 (y2 : Nat), .slice A3 n3 c3]
  have h8 := HH3.out.below (hb7.alloc hb7.size (manO y0 y1 y2 (.slice A3 n3 c3))) (Nat.le_refl _)
  have h9 := hnew3.has.below ((Below.refl w7.heap.size w7).alloc (Nat.le_refl _) (manO y0 y1 y2 (.slice A3 n3 c3))) (Nat.le_refl _)
  have hB8 := HB6.out.trans ((hb7.alloc hb7.size (manO y0 y1 y2 (.slice A3 n3 c3))).mono HB6.out.size)
  obtain ⟨b3, hb3⟩ : ∃ b3, b3 = w7.heap.size := ⟨_, rfl⟩
  obtain ⟨w8, hw8⟩ : ∃ w8, w8 = w7.alloc (manO y0 y1 y2 (.slice A3 n3 c3)) := ⟨_, rfl⟩
  rw [← hw8] at N4 N5 h8 h9 hB8
  rw [← hb3] at N5
  have KM := HSM.out x0 x1 x2 A2 n2 c2 R2 y0 y1 y2 A3 n3 c3 R3 w8 h8 h9 HN2.out.1 hn3 (by have := HN2.out.1; have := HN2.out.2; omega) (by omega)
  have hsame : sameM ⟨x0, x1, x2, R2⟩ ⟨y0, y1, y2, R3⟩ = true := by
    rw [← HM2.out, ← hm3]
    exact sameM_self _
  rw [hsame] at KM
  have K := Lib.hid KM
  have m0 : w8.cell? ⟨b2, 0, none⟩ = some (.int .i64 x0) := N4.cell 0
  have m1 : w8.cell? ⟨b2, 1, none⟩ = some (.int .i64 x1) := N4.cell 1
  have m2 : w8.cell? ⟨b2, 2, none⟩ = some (.int .u64 (x2 : Nat)) := N4.cell 2
  have m3 : w8.cell? ⟨b2, 3, none⟩ = some (.slice A2 n2 c2) := N4.cell 3
  have k0 : w8.cell? ⟨b3, 0, none⟩ = some (.int .i64 y0) := N5.cell 0
  have k1 : w8.cell? ⟨b3, 1, none⟩ = some (.int .i64 y1) := N5.cell 1
  have k2 : w8.cell? ⟨b3, 2, none⟩ = some (.int .u64 (y2 : Nat)) := N5.cell 2
  have k3 : w8.cell? ⟨b3, 3, none⟩ = some (.slice A3 n3 c3) := N5.cell 3
  have HB8 := Lib.hid hB8
  have HW8 := Lib.hid hw8
  have HB3 := Lib.hid hb3
  clear N4 N5 h8 h9 hB8 hw8 hb3 KM hsame hm3 hn3 hnew3 hb7 hl3 HGR HSM HH3 HN3 HN2 HM2
  go_upto_region 8 with fail
  rw [← HW8.out, ← HB3.out]
  clear HW8 HB3
  go_wp2_with fail
  refine K.out.mono ?_
  rintro e w9 ⟨rfl, hb9⟩
  have HB9 := Lib.hid (bj HB8.out hb9)
  clear hb9 m0 m1 m2 m3 k0 k1 k2 k3
  go_wp2_with fail
  refine (HM.out _).mono ?_
  rintro e w10 ⟨rfl, hb10⟩
  have HB10 := Lib.hid (bj HB9.out hb10)
  clear hb10
  go_wp2
  go_ret
  exact ⟨rfl, HB10.out⟩
end
end ImLoad
end Go.Proofs.YtbhgngimebecdaaGreat

/- ImCrashWalk -/
namespace Go.Proofs.YtbhgngimebecdaaGreat
open Go.RowKit Go.Shelf
set_option linter.unusedVariables false
set_option maxRecDepth 100000

theorem wp_failP {D : DiskS} (h : WfP D) (n : Int) (keep : List Int) : WfP (failP D n keep).2 := by
  unfold failP
  split
  · exact h
  · split
    · exact h
    · exact ⟨h.synced, h.used, h.cap, h.many⟩
theorem fail_ok {D : DiskS} (h : D.down = false) {n : Int} (hn : 0 ≤ n) (keep : List Int) : (failP D n keep).1 = 0 ∧ (failP D n keep).2.l = D.l ∧ (failP D n keep).2.down = false ∧ (failP D n keep).2.cap = D.cap ∧ (failP D n keep).2.count = D.count ∧ (failP D n keep).2.starts = D.starts := by
  unfold failP
  rw [if_neg (by simp [h]), if_neg (by omega)]
  exact ⟨rfl, rfl, h, rfl, rfl, rfl⟩
theorem wp_downS {D : DiskS} (h : WfP D) (keep : List Int) : WfP (downS D keep) := by
  unfold downS
  split
  · exact h
  · exact wp_crash h keep
theorem downS_same (D : DiskS) (keep : List Int) : (downS D keep).count = D.count ∧ (downS D keep).starts = D.starts := by
  unfold downS crashS
  split
  · exact ⟨rfl, rfl⟩
  · exact ⟨rfl, rfl⟩
theorem trim_sameM (m : ManS) : sameM (trimM m) m = true := by
  refine decide_eq_true ⟨rfl, rfl, rfl, ?_⟩
  exact trimL_idem m.lv
/-- What is told, with whether the disk is up behind the Swap. -/
theorem crash_cases (m n : ManS) (hm : m.seed < 18446744073709551616) (hn : n.seed < 18446744073709551616) {D2 : DiskS} (h : OldD D2 (oldM m)) (hc : D2.cap = 20000) (keep : List Int) {D5 : DiskS} (h5 : D5 = (startS (downS (swapP D2 n).2 keep)).2) :
    ((swapP D2 n).1 = 0 ∧ (swapP D2 n).2.down = false ∧ loadE D5 = 0 ∧ loadM D5 = trimM n) ∨
    ((swapP D2 n).1 = 61 ∧ MayM n ∧ (swapP D2 n).2.down = true ∧ (MayM m ∧ loadE D5 = 0 ∧ loadM D5 = trimM m ∨ ¬ MayM m ∧ loadE D5 = 4)) ∨
    ((swapP D2 n).1 = 2 ∧ ¬ MayM n ∧ (swapP D2 n).2.down = false ∧ (MayM m ∧ loadE D5 = 0 ∧ loadM D5 = trimM m ∨ ¬ MayM m ∧ loadE D5 = 4)) := by
  have t := crash_told m n hm hn h hc keep h5
  rcases second_swap h (oldM_used m) hc n with ⟨h1, h2, h3, -⟩ | ⟨h1, h2, h3, -⟩ | ⟨h1, h2, h3, -⟩
  · rcases t with ⟨-, -, e1, e2⟩ | ⟨t1 | t1, -⟩
    · exact Or.inl ⟨h1, h3, e1, e2⟩
    · have := t1.1; omega
    · have := t1.1; omega
  · rcases t with ⟨e0, -⟩ | ⟨-, t2⟩
    · omega
    · exact Or.inr (Or.inl ⟨h1, h2, h3, t2⟩)
  · rcases t with ⟨e0, -⟩ | ⟨-, t2⟩
    · omega
    · exact Or.inr (Or.inr ⟨h1, h2, h3, t2⟩)
section
variable {At : Lies} (api : DiskApi At) {w0 w w' : World} {gd : Nat} {D D' : DiskS} {E : List Nat}
include api
/-- A call of the disk that is told a list of another's. -/
theorem DS.disk2 (h : DS At w0 gd D E w) {P : Program} {f : FuncId} {args : Array Value} {v : Value} (hc : ∀ F, At w w0.heap.size gd F D → (∀ b ∈ E, b ∉ F) → Calls P f args w (EndAt At w0.heap.size gd F w v D')) : Calls P f args w (DEnd At w0 gd v D' E w) := by
  obtain ⟨F, h1, h2, h3⟩ := h
  refine (hc F h1 (fun b hb => (h3 b hb).1)).mono ?_
  rintro e w' ⟨F', e1, e2, e3, e4⟩
  refine ⟨e1, ⟨F', e2, h2.trans (e4.below h2.size (fun x hx => (api.low h1 x hx).1)), fun b hb => ⟨fun hm => ?_, Nat.lt_of_lt_of_le (h3 b hb).2 e4.size⟩⟩, e4.size, fun b hb => e4.block b (h3 b hb).2 (h3 b hb).1⟩
  rcases e3 b hm with k | k
  · exact (h3 b hb).1 k
  · have := (h3 b hb).2; omega
end
namespace ImCrash
section
variable {At : Lies} (api : DiskApi At) (iap : ImApi At)
include api iap
set_option maxHeartbeats 4000000 in
theorem walk (W : World) (v0 v1 v2 : Value) (L : List Nat) (wx0 : ManIn W v0) (wx1 : ManIn W v1) (hl2 : U8sIn W v2 L) (wl2 : ∀ x ∈ L, x < 256) : Calls Tryz.prog 5 #[v0, v1, v2] W fun e w' => e = .returned (.bool true) ∧ Below W.heap.size W w' := by
  obtain ⟨x0, x1, x2, A, k, cp, R, rfl, hk, hR, hx2, -⟩ := wx0
  obtain ⟨y0, y1, y2, B, l, lp, Q, rfl, hl, hQ, hy2, -⟩ := wx1
  obtain ⟨A8, off8, cap8, rfl, hmx8, hc8⟩ := hl2.form
  have HM := Lib.hid (fun W => mapped_true api iap W)
  unfold MfTrueEnd at HM
  have hb0 : Below W.heap.size W ((W.alloc (manO x0 x1 x2 (.slice A k cp))).alloc (manO y0 y1 y2 (.slice B l lp))) := ((Below.refl _ _).alloc (Nat.le_refl _) _).alloc (by simp) _
  have bm := (Blok.new W 26 #[.int .i64 x0, .int .i64 x1, .int .u64 (x2 : Nat), (.slice A k cp)]).alloc (manO y0 y1 y2 (.slice B l lp))
  have bn := Blok.new (W.alloc (manO x0 x1 x2 (.slice A k cp))) 26 #[.int .i64 y0, .int .i64 y1, .int .u64 (y2 : Nat), (.slice B l lp)]
  rw [World.size_alloc] at bn
  obtain ⟨wa, hwa⟩ : ∃ wa, wa = (W.alloc (manO x0 x1 x2 (.slice A k cp))).alloc (manO y0 y1 y2 (.slice B l lp)) := ⟨_, rfl⟩
  have hRa := hR.below hb0 (Nat.le_refl _)
  have hQa := hQ.below hb0 (Nat.le_refl _)
  rw [← hwa] at hb0 bm bn hRa hQa
  have HB0 := Lib.hid hb0
  have HBM := Lib.hid bm
  have HBN := Lib.hid bn
  have HR := Lib.hid hRa
  have HQ := Lib.hid hQa
  have HWA := Lib.hid hwa
  have HG1 := Lib.hid (lgreat_any (.slice A k cp) R wa hRa)
  have HG2 := Lib.hid (lgreat_any (.slice B l lp) Q wa hQa)
  have HK := Lib.hid hk
  have HL := Lib.hid hl
  have HX2 := Lib.hid hx2
  have HY2 := Lib.hid hy2
  have HC8 := Lib.hid (fun W' (h : Below wa.heap.size wa W') (i : Nat) (x : Nat) (hx : L[i]? = some x) => (by
    obtain ⟨b, e1, e2, e3⟩ := hc8 i x hx
    exact ⟨b, e1, ((hb0.trans (h.mono hb0.size)).cell (p := ⟨b, off8 + i, none⟩) e2).trans e3⟩ : ∃ b, A8 = some ⟨b, off8, none⟩ ∧ W'.cell? ⟨b, off8 + i, none⟩ = some (.int .u8 (x : Nat))))
  have HW8 := Lib.hid wl2
  obtain ⟨N, hN⟩ : ∃ N, N = L.length := ⟨_, rfl⟩
  have HN := Lib.hid hN
  rw [← hN] at hmx8 ⊢
  unfold maxLen at hmx8
  unfold manV
  unfold LvGreatEnd at HG1 HG2
  have m3 : wa.cell? ⟨W.heap.size, 3, none⟩ = some (.slice A k cp) := bm.cell 3
  have n3 : wa.cell? ⟨W.heap.size + 1, 3, none⟩ = some (.slice B l lp) := bn.cell 3
  clear hb0 bm bn hR hQ hRa hQa hk hl hx2 hy2 hwa hl2 hc8 wl2 hN
  have M3 := Lib.hid m3
  have N3 := Lib.hid n3
  clear m3 n3
  go_enter Tryz.func5, Tryz.ntmps5
  go_upto_region 1 with fail
  rw [← HWA.out]
  clear HWA
  have m3 := M3.out
  have n3 := N3.out
  go_wp2_with fail
  refine HG1.out.mono ?_
  rintro e wx ⟨q, rfl, hwx, hq1⟩
  obtain rfl : wa = wx := hwx.symm
  cases q with
  | true =>
    clear hq1 HG1 HG2
    go_wp2_with fail
    refine (HM.out _).mono ?_
    rintro e w3 ⟨rfl, hb3⟩
    have HB3 := Lib.hid hb3
    clear hb3
    go_wp2
    go_ret
    exact ⟨rfl, bj HB0.out HB3.out⟩
  | false =>
  have HF1 := Lib.hid (hq1 rfl)
  clear hq1 HG1
  go_wp2_with fail
  refine HG2.out.mono ?_
  rintro e wx ⟨q, rfl, hwx, hq2⟩
  obtain rfl : wa = wx := hwx.symm
  cases q with
  | true =>
    clear hq2 HG2
    go_wp2_with fail
    refine (HM.out _).mono ?_
    rintro e w3 ⟨rfl, hb3⟩
    have HB3 := Lib.hid hb3
    clear hb3
    go_wp2
    go_ret
    exact ⟨rfl, bj HB0.out HB3.out⟩
  | false =>
  have HF2 := Lib.hid (hq2 rfl)
  clear hq2 HG2
  by_cases hz : 20 < N
  case pos =>
    have t1 : (20 : Int) < (N : Int) := by omega
    clear hmx8
    go_wp2_with fail
    refine (HM.out _).mono ?_
    rintro e w3 ⟨rfl, hb3⟩
    have HB3 := Lib.hid hb3
    clear hb3
    go_wp2
    go_ret
    exact ⟨rfl, bj HB0.out HB3.out⟩
  have t1 : ¬ (20 : Int) < (N : Int) := by omega
  have t1' : decide ((20 : Int) < (N : Int)) = false := decide_eq_false t1
  have hN20 : N ≤ 20 := by omega
  have fl1 := few_flat HF1.out
  have fl2 := few_flat HF2.out
  have ll1 : R.length ≤ 10 := HF1.out.1
  have ll2 : Q.length ≤ 10 := HF2.out.1
  have HNEW := Lib.hid (show Calls Tryz.prog 15 #[.int .i64 20000] wa fun e w' => ∃ g, e = .returned (.tuple #[ptr g, .int .i64 0]) ∧ DS At wa g (newS 20000) [] w' from im_new api wa 20000 (by decide))
  have ok0 : WfP (newS 20000) := wp_new (by decide)
  have hS1 := fun W' g (h : DS At wa g (newS 20000) [] W') => iap.swap x0 x1 x2 A k cp R h ok0 (Holds.of_in HR.out) HK.out (by omega) (by omega) HX2.out
  have ok1 := wp_swap ok0 ⟨x0, x1, x2, R⟩
  obtain ⟨f1, f2, f3, f4, f5⟩ := first_swap (c := 20000) ⟨x0, x1, x2, R⟩ (fun h => by have := mfB_small h; omega)
  rw [f1] at hS1
  have HV1 := Lib.hid (fun W' (h : Below wa.heap.size wa W') => mval_any x0 x1 x2 A k cp R W' (HR.out.below h (Nat.le_refl _)) (by omega) (by omega))
  have HV2 := Lib.hid (fun W' (h : Below wa.heap.size wa W') => mval_any y0 y1 y2 B l lp Q W' (HQ.out.below h (Nat.le_refl _)) (by omega) (by omega))
  have HSM1 := Lib.hid (fun W' (h : Below wa.heap.size wa W') (a0 a1 : Int) (a2 : Nat) (A2 : Option Addr) (n2 p2 : Nat) (R2 : LvL) (h2 : LvsHas W' (.slice A2 n2 p2) R2) (e2 : n2 = R2.length) (l2 : n2 ≤ 100000) => msamel_any a0 a1 a2 A2 n2 p2 R2 x0 x1 x2 A k cp R W' h2 (HR.out.below h (Nat.le_refl _)) e2 HK.out l2 (by rw [HK.out]; omega))
  have HSM2 := Lib.hid (fun W' (h : Below wa.heap.size wa W') (a0 a1 : Int) (a2 : Nat) (A2 : Option Addr) (n2 p2 : Nat) (R2 : LvL) (h2 : LvsHas W' (.slice A2 n2 p2) R2) (e2 : n2 = R2.length) (l2 : n2 ≤ 100000) => msamel_any a0 a1 a2 A2 n2 p2 R2 y0 y1 y2 B l lp Q W' h2 (HQ.out.below h (Nat.le_refl _)) e2 HL.out l2 (by rw [HL.out]; omega))
  have hS2 := fun (D2 : DiskS) (ok : WfP D2) E W' g (h : DS At wa g D2 E W') => iap.swap y0 y1 y2 B l lp Q h ok (Holds.of_in HQ.out) HL.out (by omega) (by omega) HY2.out
  have HCC := Lib.hid (fun (D2 : DiskS) (h : OldD D2 (oldM ⟨x0, x1, x2, R⟩)) (hc : D2.cap = 20000) keep D5 h5 => crash_cases ⟨x0, x1, x2, R⟩ ⟨y0, y1, y2, Q⟩ HX2.out HY2.out h hc keep (D5 := D5) h5)
  have HSS := Lib.hid (fun (D2 : DiskS) (h : OldD D2 (oldM ⟨x0, x1, x2, R⟩)) (hc : D2.cap = 20000) => swap_same h ⟨y0, y1, y2, Q⟩ hc (oldM_used _))
  have HSELF := Lib.hid (And.intro (trim_sameM ⟨x0, x1, x2, R⟩) (trim_sameM ⟨y0, y1, y2, Q⟩))
  unfold manV at hS1 hS2 HV1 HV2 HSM1 HSM2
  have HS1 := Lib.hid hS1
  have HS2 := Lib.hid hS2
  generalize hD1 : (swapP (newS 20000) ⟨x0, x1, x2, R⟩).2 = D1 at *
  have HD1 := Lib.hid (And.intro f2 (And.intro f3 (And.intro f4 (And.intro f5 ok1))))
  have hfe : ∀ q : Bool, mayM ⟨x0, x1, x2, R⟩ = q → (((if MayM ⟨x0, x1, x2, R⟩ then 0 else 2 : Nat) : Int) == 0) = q ∧ ((if MayM ⟨x0, x1, x2, R⟩ then 0 else 2 : Nat) = if q = true then 0 else 2) := by
    intro q hq
    unfold mayM at hq
    by_cases h : MayM ⟨x0, x1, x2, R⟩
    · rw [decide_eq_true h] at hq; subst hq; rw [if_pos h]; exact ⟨rfl, rfl⟩
    · rw [decide_eq_false h] at hq; subst hq; rw [if_neg h]; exact ⟨rfl, rfl⟩
  clear hz fl1 fl2 ll1 ll2 ok0 ok1 f1 f2 f3 f4 f5 hD1 hS1 hS2 HF1 HF2 m3 n3 M3 N3
  go_wp2_with fail
  refine HNEW.out.mono ?_
  rintro e w2 ⟨g, rfl, hD2⟩
  have mb := mblok_below HBM.out hD2.kept
  have m0 : w2.cell? ⟨W.heap.size, 0, none⟩ = some (.int .i64 x0) := mb.cell 0
  have m1 : w2.cell? ⟨W.heap.size, 1, none⟩ = some (.int .i64 x1) := mb.cell 1
  have m2 : w2.cell? ⟨W.heap.size, 2, none⟩ = some (.int .u64 (x2 : Nat)) := mb.cell 2
  have m3 : w2.cell? ⟨W.heap.size, 3, none⟩ = some (.slice A k cp) := mb.cell 3
  clear mb
  have KS := Lib.hid (HS1.out w2 g hD2)
  clear hD2 HNEW HS1
  go_wp2_with fail
  refine KS.out.mono ?_
  rintro e w3 ⟨rfl, hD3, -⟩
  have pb := mblok_below HBM.out hD3.kept
  have p0 : w3.cell? ⟨W.heap.size, 0, none⟩ = some (.int .i64 x0) := pb.cell 0
  have p1 : w3.cell? ⟨W.heap.size, 1, none⟩ = some (.int .i64 x1) := pb.cell 1
  have p2 : w3.cell? ⟨W.heap.size, 2, none⟩ = some (.int .u64 (x2 : Nat)) := pb.cell 2
  have p3 : w3.cell? ⟨W.heap.size, 3, none⟩ = some (.slice A k cp) := pb.cell 3
  clear pb
  have KV := HV1.out w3 hD3.kept
  obtain ⟨q, hq⟩ : ∃ q, mayM ⟨x0, x1, x2, R⟩ = q := ⟨_, rfl⟩
  rw [hq] at KV
  obtain ⟨fe1, fe2⟩ := hfe q hq
  have q1 : (q == q) = true := by simp
  have q1' : (q != q) = false := by simp
  have KVV := Lib.hid KV
  have HD3 := Lib.hid hD3
  have HQQ := Lib.hid hq
  clear hD3 KV hq hfe m0 m1 m2 m3 KS
  rw [fe2] at fe1
  simp only [fe2]
  obtain ⟨F, hF⟩ : ∃ F : Nat, F = if q = true then 0 else 2 := ⟨_, rfl⟩
  rw [← hF] at fe1 ⊢
  have HFF := Lib.hid hF
  clear fe2 hF
  go_wp2_with fail
  refine KVV.out.mono ?_
  rintro e w4 ⟨rfl, hb4⟩
  have hD4 := HD3.out.below api hb4
  have HD4 := Lib.hid hD4
  clear hb4 HD3 hD4 p0 p1 p2 p3 KVV
  -- B
  go_upto_region 7 with fail
  go_upto_if 50 with fail
  go_cut [10] (fun u wx => ∃ a : Nat, u = .int .i64 a ∧ a ≤ 255 ∧ wx = w4)
  case first =>
    by_cases z0 : 0 < N
    · have t2 : decide ((0 : Int) < (N : Int)) = true := decide_eq_true (by omega)
      have t2' : (0 : Int) < (N : Int) := by omega
      obtain ⟨c, hc⟩ : ∃ c, L[0]? = some c := by
        rw [HN.out] at z0
        exact ⟨L[0], List.getElem?_eq_getElem z0⟩
      have hcw := HW8.out c (List.mem_of_getElem? hc)
      obtain ⟨b, e1, e2⟩ := HC8.out w4 HD4.out.kept 0 c hc
      have hA : bits .and .u8 (c : Int) 7 = ((c &&& 7 : Nat) : Int) := u8_and_nat c 7 hcw (by decide)
      have hA2 : c &&& 7 ≤ 7 := Nat.and_le_right
      subst e1
      rw [Nat.add_zero] at e2
      go_wp2_with fail
      go_meet
      exact ⟨c &&& 7, by first | rfl | go_num, by omega, rfl⟩
    · have t2 : decide ((0 : Int) < (N : Int)) = false := decide_eq_false (by omega)
      go_wp2_with fail
      go_meet
      exact ⟨0, rfl, by omega, rfl⟩
  case rest =>
  obtain ⟨a, rfl, ha, hwc⟩ := hcut
  obtain rfl : w4 = wc := hwc.symm
  have HA := Lib.hid ha
  clear ha hwc
  go_wp2
  go_loopg [11, 12] N (fun g u i wr => ∃ (j : Nat) (A5 : Option Addr) (c5 : Nat), j + g = N ∧ i = .int .i64 j ∧ u = .slice A5 j c5 ∧ IRow wr w4.heap.size (.slice A5 j c5) ((L.take j).map fun (x : Nat) => (x : Int)) ∧ Below w4.heap.size w4 wr)
  case atStart => exact ⟨0, none, 0, by omega, rfl, rfl, IRow.nil _ _, Below.refl _ _⟩
  case round =>
    obtain ⟨j, A5, c5, hjg, rfl, rfl, hrow, hbx⟩ := hrel
    have HROW := Lib.hid hrow
    have HBX := Lib.hid hbx
    clear hrow hbx
    by_cases hjm : j < N
    case neg =>
      obtain rfl : j = N := by omega
      have t2 : decide ((j : Int) < (j : Int)) = false := decide_eq_false (by omega)
      go_upto_region 15 with fail
      have hv : DS At wa g D1 (ownL (.slice A5 j c5)) wr := (HD4.out.more api HBX.out (B := ownL (.slice A5 j c5)) (fun b hb => HROW.out.block b (ownL_mem.1 hb))).less (fun b hb => List.mem_append.2 (Or.inl hb))
      obtain ⟨KL, hKL⟩ : ∃ KL : List Int, KL = (L.take j).map fun (x : Nat) => (x : Int) := ⟨_, rfl⟩
      rw [← hKL] at HROW
      have hI5 := HROW.out.in_
      have hkl : KL.length ≤ 1048576 := by rw [hKL, List.length_map, List.length_take]; omega
      obtain ⟨d1, d2, d3, d4, d5⟩ := HD1.out
      obtain ⟨f1, f2, f3, f4, f5, f6⟩ := fail_ok d1.down (n := (a : Int)) (by omega) KL
      have ok2 := wp_failP d5 (a : Int) KL
      have hA255 := HA.out
      have KF := hv.disk2 api (D' := (failP D1 (a : Int) KL).2) (v := err (failP D1 (a : Int) KL).1) (fun F h hE => api.fail (a : Int) (.slice A5 j c5) KL h d5.ok (WalkArith.wf_i64 (by omega)) hI5 (fun b hb => hE b (ownL_mem.2 hb)) hkl)
      rw [f1] at KF
      have old2 : OldD (failP D1 (a : Int) KL).2 (oldM ⟨x0, x1, x2, R⟩) := ⟨f3, f2.trans d1.l⟩
      have cap2 := f4.trans d2
      have cnt2 := f5.trans d3
      have st2 := f6.trans d4
      generalize (failP D1 (a : Int) KL).2 = D2 at *
      obtain ⟨-, ss2, ss3⟩ := HSS.out D2 old2 cap2
      have CC := fun D5 h5 => HCC.out D2 old2 cap2 KL D5 h5
      have ok3 : WfP (swapP D2 ⟨y0, y1, y2, Q⟩).2 := wp_swap ok2 _
      have KS := HS2.out D2 ok2 (ownL (.slice A5 j c5))
      generalize (swapP D2 ⟨y0, y1, y2, Q⟩).2 = D3 at *
      generalize (swapP D2 ⟨y0, y1, y2, Q⟩).1 = ge at *
      have KFF := Lib.hid KF
      have KSS := Lib.hid KS
      have HCCC := Lib.hid CC
      have HSTS := Lib.hid (And.intro (ss2.trans cnt2) (ss3.trans st2))
      have HI5 := Lib.hid hI5
      have HOK3 := Lib.hid ok3
      clear hv hKL HROW hI5 d1 d2 d3 d4 d5 f1 f2 f3 f4 f5 f6 ok2 KF old2 cap2 cnt2 st2 ss2 ss3 CC KS HS2 HSS HCC HD1 HD4 HC8 HW8 HA hA255 ok3 HBX
      go_wp2_with fail
      refine KFF.out.mono ?_
      rintro e w6 ⟨rfl, hD6, hK6⟩
      have HI6 := Lib.hid (hK6.ints HI5.out (fun b hb => hb))
      have KS := Lib.hid (KSS.out w6 g hD6)
      have ob := mblok_below HBN.out hD6.kept
      have o0 : w6.cell? ⟨W.heap.size + 1, 0, none⟩ = some (.int .i64 y0) := ob.cell 0
      have o1 : w6.cell? ⟨W.heap.size + 1, 1, none⟩ = some (.int .i64 y1) := ob.cell 1
      have o2 : w6.cell? ⟨W.heap.size + 1, 2, none⟩ = some (.int .u64 (y2 : Nat)) := ob.cell 2
      have o3 : w6.cell? ⟨W.heap.size + 1, 3, none⟩ = some (.slice B l lp) := ob.cell 3
      clear ob
      clear hD6 hK6 HI5 KFF KSS
      go_wp2_with fail
      refine KS.out.mono ?_
      rintro e w7 ⟨rfl, hD7, hK7⟩
      have HI7 := Lib.hid (hK7.ints HI6.out (fun b hb => hb))
      have KU := Lib.hid (hD7.disk2 api (D' := D3) (v := .bool (!D3.down)) (fun F h hE => api.up h HOK3.out.ok))
      clear hD7 hK7 HI6 KS o0 o1 o2 o3
      go_wp2_with fail
      refine KU.out.mono ?_
      rintro e w8 ⟨rfl, hD8, hK8⟩
      have HI8 := Lib.hid (hK8.ints HI7.out (fun b hb => hb))
      have HD8 := Lib.hid hD8
      clear hD8 hK8 HI7 KU
      obtain ⟨u, hu⟩ : ∃ u, (!D3.down) = u := ⟨_, rfl⟩
      rw [hu]
      have HU := Lib.hid hu
      clear hu
      go_upto_if 79 with fail
      go_cut [7] (fun v wx => v = ptr g ∧ DS At wa g (downS D3 KL) [] wx)
      case first =>
        cases u with
        | false =>
          have hd : D3.down = true := by simpa using HU.out
          go_wp2_with fail
          go_meet
          refine ⟨rfl, ?_⟩
          unfold downS
          rw [if_pos hd]
          exact HD8.out.less (fun b hb => by cases hb)
        | true =>
          have hd : ¬ D3.down = true := by have := HU.out; simpa using this
          have KC := Lib.hid (HD8.out.disk2 api (D' := (crashS D3 KL).2) (v := err (crashS D3 KL).1) (fun F h hE => api.crash (.slice A5 j c5) KL h HOK3.out.ok HI8.out (fun b hb => hE b (ownL_mem.2 hb)) hkl))
          have HDN := Lib.hid hd
          clear hd
          go_wp2_with fail
          refine KC.out.mono ?_
          rintro e w9 ⟨rfl, hD9, -⟩
          have HD9 := Lib.hid hD9
          clear hD9
          go_wp2_with fail
          go_meet
          refine ⟨rfl, ?_⟩
          unfold downS
          rw [if_neg HDN.out]
          exact HD9.out.less (fun b hb => by cases hb)
      case rest =>
      obtain ⟨rfl, hD9⟩ := hcut
      have ok4 : WfP (downS D3 KL) := wp_downS HOK3.out KL
      have hdn : (downS D3 KL).down = true := downS_down _ _
      obtain ⟨s1, s2⟩ := downS_same D3 KL
      rw [HSTS.out.1] at s1
      rw [HSTS.out.2] at s2
      have hst : (startS (downS D3 KL)).1 = 0 := by rw [start_up hdn]
      have ok5 := wp_start ok4
      have cnt5 : (startS (downS D3 KL)).2.count ≤ 1099511627776 := by
        rw [start_up hdn]
        show (downS D3 KL).count ≤ _
        omega
      have KST := hD9.disk2 api (D' := (startS (downS D3 KL)).2) (v := err (startS (downS D3 KL)).1) (fun F h _ => api.start h ok4.ok (by omega))
      rw [hst] at KST
      have CASES := HCCC.out (startS (downS D3 KL)).2 rfl
      generalize (startS (downS D3 KL)).2 = D5 at *
      have KSTT := Lib.hid KST
      have HCA := Lib.hid CASES
      have HOK5 := Lib.hid ok5
      have HCN := Lib.hid cnt5
      clear ok4 hdn s1 s2 hst ok5 cnt5 KST CASES hD9 HCCC HOK3 HSTS HU HI8 HD8
      go_wp2_with fail
      refine KSTT.out.mono ?_
      rintro e w10 ⟨rfl, hD10, -⟩
      have KLD := Lib.hid (iap.load hD10 HOK5.out HCN.out)
      clear hD10 KSTT
      go_wp2_with fail
      refine KLD.out.mono ?_
      rintro e w11 ⟨a0, a1, a2, A2, n2, c2, R2, rfl, hm2, hn2, hh2, hl2, -, -, hD11, -⟩
      unfold manV
      have hh3 := hh2.below ((Below.refl w11.heap.size w11).alloc (Nat.le_refl _) (manO a0 a1 a2 (.slice A2 n2 c2))) (Nat.le_refl _)
      have N3 := Blok.new w11 26 #[.int .i64 a0, .int .i64 a1, .int .u64 (a2 : Nat), .slice A2 n2 c2]
      have hB := (hD11.box api (manO a0 a1 a2 (.slice A2 n2 c2))).kept
      obtain ⟨b2, hb2⟩ : ∃ b2, b2 = w11.heap.size := ⟨_, rfl⟩
      obtain ⟨w12, hw12⟩ : ∃ w12, w12 = w11.alloc (manO a0 a1 a2 (.slice A2 n2 c2)) := ⟨_, rfl⟩
      rw [← hw12] at hh3 N3 hB
      rw [← hb2] at N3
      have HH12 := Lib.hid hh3
      have HX12 := Lib.hid N3
      have HP12 := Lib.hid hB
      have HLM := Lib.hid hm2
      have HN2 := Lib.hid (And.intro hn2 hl2)
      have HW12 := Lib.hid hw12
      have HB2 := Lib.hid hb2
      clear hh2 hh3 N3 hB hm2 hn2 hl2 hD11 hw12 hb2 KLD
      have CASES := HCA.out
      clear HCA
      generalize loadE D5 = le at *
      go_upto_region 23 with fail
      rw [← HW12.out, ← HB2.out]
      clear HW12 HB2
      rcases CASES with ⟨z1, -, z5, z6⟩ | ⟨z1, z2, -, ⟨z4, z5, z6⟩ | ⟨z4, z5⟩⟩ | ⟨z1, z2, -, ⟨z4, z5, z6⟩ | ⟨z4, z5⟩⟩
      · subst z1
        subst z5
        have hl := z6
        have mb := mblok_below HBM.out HP12.out
        have m0 : w12.cell? ⟨W.heap.size, 0, none⟩ = some (.int .i64 x0) := mb.cell 0
        have m1 : w12.cell? ⟨W.heap.size, 1, none⟩ = some (.int .i64 x1) := mb.cell 1
        have m2 : w12.cell? ⟨W.heap.size, 2, none⟩ = some (.int .u64 (x2 : Nat)) := mb.cell 2
        have m3 : w12.cell? ⟨W.heap.size, 3, none⟩ = some (.slice A k cp) := mb.cell 3
        clear mb
        have ob := mblok_below HBN.out HP12.out
        have o0 : w12.cell? ⟨W.heap.size + 1, 0, none⟩ = some (.int .i64 y0) := ob.cell 0
        have o1 : w12.cell? ⟨W.heap.size + 1, 1, none⟩ = some (.int .i64 y1) := ob.cell 1
        have o2 : w12.cell? ⟨W.heap.size + 1, 2, none⟩ = some (.int .u64 (y2 : Nat)) := ob.cell 2
        have o3 : w12.cell? ⟨W.heap.size + 1, 3, none⟩ = some (.slice B l lp) := ob.cell 3
        clear ob
        have k0 : w12.cell? ⟨b2, 0, none⟩ = some (.int .i64 a0) := HX12.out.cell 0
        have k1 : w12.cell? ⟨b2, 1, none⟩ = some (.int .i64 a1) := HX12.out.cell 1
        have k2 : w12.cell? ⟨b2, 2, none⟩ = some (.int .u64 (a2 : Nat)) := HX12.out.cell 2
        have k3 : w12.cell? ⟨b2, 3, none⟩ = some (.slice A2 n2 c2) := HX12.out.cell 3
        have KM := HSM2.out w12 HP12.out a0 a1 a2 A2 n2 c2 R2 HH12.out HN2.out.1 (by have := HN2.out.1; have := HN2.out.2; omega)
        have hs : sameM ⟨a0, a1, a2, R2⟩ ⟨y0, y1, y2, Q⟩ = true := by
          rw [← HLM.out, hl]
          exact HSELF.out.2
        rw [hs] at KM
        have K := Lib.hid KM
        clear KM hs
        go_wp2_with fail
        refine K.out.mono ?_
        rintro e w13 ⟨rfl, hb⟩
        clear K
        have kp13 := bj HP12.out hb
        have HP13 := Lib.hid kp13
        have HN13 := Lib.hid (mblok_below HX12.out hb)
        have HX13 := HN13
        have HH13 := Lib.hid (HH12.out.below hb (Nat.le_refl _))
        clear hb kp13 HN13 HX12 HH12 m0 m1 m2 m3 o0 o1 o2 o3 k0 k1 k2 k3
        clear hl z6
        have mb := mblok_below HBM.out HP13.out
        have m0 : w13.cell? ⟨W.heap.size, 0, none⟩ = some (.int .i64 x0) := mb.cell 0
        have m1 : w13.cell? ⟨W.heap.size, 1, none⟩ = some (.int .i64 x1) := mb.cell 1
        have m2 : w13.cell? ⟨W.heap.size, 2, none⟩ = some (.int .u64 (x2 : Nat)) := mb.cell 2
        have m3 : w13.cell? ⟨W.heap.size, 3, none⟩ = some (.slice A k cp) := mb.cell 3
        clear mb
        have ob := mblok_below HBN.out HP13.out
        have o0 : w13.cell? ⟨W.heap.size + 1, 0, none⟩ = some (.int .i64 y0) := ob.cell 0
        have o1 : w13.cell? ⟨W.heap.size + 1, 1, none⟩ = some (.int .i64 y1) := ob.cell 1
        have o2 : w13.cell? ⟨W.heap.size + 1, 2, none⟩ = some (.int .u64 (y2 : Nat)) := ob.cell 2
        have o3 : w13.cell? ⟨W.heap.size + 1, 3, none⟩ = some (.slice B l lp) := ob.cell 3
        clear ob
        have k0 : w13.cell? ⟨b2, 0, none⟩ = some (.int .i64 a0) := HX13.out.cell 0
        have k1 : w13.cell? ⟨b2, 1, none⟩ = some (.int .i64 a1) := HX13.out.cell 1
        have k2 : w13.cell? ⟨b2, 2, none⟩ = some (.int .u64 (a2 : Nat)) := HX13.out.cell 2
        have k3 : w13.cell? ⟨b2, 3, none⟩ = some (.slice A2 n2 c2) := HX13.out.cell 3
        go_wp2_with fail
        refine (HM.out _).mono ?_
        rintro e wz ⟨rfl, hb⟩
        have HZ := Lib.hid (bj HP13.out hb)
        clear hb m0 m1 m2 m3 o0 o1 o2 o3 k0 k1 k2 k3
        go_wp2
        go_ret
        exact ⟨rfl, bj HB0.out HZ.out⟩
      · subst z1
        have hvn : mayM ⟨y0, y1, y2, Q⟩ = true := decide_eq_true z2
        have hq : q = true := by rw [← HQQ.out]; exact decide_eq_true z4
        subst hq
        have hF0 : F = 0 := HFF.out.trans rfl
        subst hF0
        subst z5
        clear fe1 HFF HQQ q1 q1' z4
        have hl := z6
        have mb := mblok_below HBM.out HP12.out
        have m0 : w12.cell? ⟨W.heap.size, 0, none⟩ = some (.int .i64 x0) := mb.cell 0
        have m1 : w12.cell? ⟨W.heap.size, 1, none⟩ = some (.int .i64 x1) := mb.cell 1
        have m2 : w12.cell? ⟨W.heap.size, 2, none⟩ = some (.int .u64 (x2 : Nat)) := mb.cell 2
        have m3 : w12.cell? ⟨W.heap.size, 3, none⟩ = some (.slice A k cp) := mb.cell 3
        clear mb
        have ob := mblok_below HBN.out HP12.out
        have o0 : w12.cell? ⟨W.heap.size + 1, 0, none⟩ = some (.int .i64 y0) := ob.cell 0
        have o1 : w12.cell? ⟨W.heap.size + 1, 1, none⟩ = some (.int .i64 y1) := ob.cell 1
        have o2 : w12.cell? ⟨W.heap.size + 1, 2, none⟩ = some (.int .u64 (y2 : Nat)) := ob.cell 2
        have o3 : w12.cell? ⟨W.heap.size + 1, 3, none⟩ = some (.slice B l lp) := ob.cell 3
        clear ob
        have k0 : w12.cell? ⟨b2, 0, none⟩ = some (.int .i64 a0) := HX12.out.cell 0
        have k1 : w12.cell? ⟨b2, 1, none⟩ = some (.int .i64 a1) := HX12.out.cell 1
        have k2 : w12.cell? ⟨b2, 2, none⟩ = some (.int .u64 (a2 : Nat)) := HX12.out.cell 2
        have k3 : w12.cell? ⟨b2, 3, none⟩ = some (.slice A2 n2 c2) := HX12.out.cell 3
        have KM := HSM1.out w12 HP12.out a0 a1 a2 A2 n2 c2 R2 HH12.out HN2.out.1 (by have := HN2.out.1; have := HN2.out.2; omega)
        have hs : sameM ⟨a0, a1, a2, R2⟩ ⟨x0, x1, x2, R⟩ = true := by
          rw [← HLM.out, hl]
          exact HSELF.out.1
        rw [hs] at KM
        have K := Lib.hid KM
        clear KM hs
        go_wp2_with fail
        refine K.out.mono ?_
        rintro e w13 ⟨rfl, hb⟩
        clear K
        have kp13 := bj HP12.out hb
        have HP13 := Lib.hid kp13
        have HN13 := Lib.hid (mblok_below HX12.out hb)
        have HX13 := HN13
        have HH13 := Lib.hid (HH12.out.below hb (Nat.le_refl _))
        clear hb kp13 HN13 HX12 HH12 m0 m1 m2 m3 o0 o1 o2 o3 k0 k1 k2 k3
        clear hl z6
        have mb := mblok_below HBM.out HP13.out
        have m0 : w13.cell? ⟨W.heap.size, 0, none⟩ = some (.int .i64 x0) := mb.cell 0
        have m1 : w13.cell? ⟨W.heap.size, 1, none⟩ = some (.int .i64 x1) := mb.cell 1
        have m2 : w13.cell? ⟨W.heap.size, 2, none⟩ = some (.int .u64 (x2 : Nat)) := mb.cell 2
        have m3 : w13.cell? ⟨W.heap.size, 3, none⟩ = some (.slice A k cp) := mb.cell 3
        clear mb
        have ob := mblok_below HBN.out HP13.out
        have o0 : w13.cell? ⟨W.heap.size + 1, 0, none⟩ = some (.int .i64 y0) := ob.cell 0
        have o1 : w13.cell? ⟨W.heap.size + 1, 1, none⟩ = some (.int .i64 y1) := ob.cell 1
        have o2 : w13.cell? ⟨W.heap.size + 1, 2, none⟩ = some (.int .u64 (y2 : Nat)) := ob.cell 2
        have o3 : w13.cell? ⟨W.heap.size + 1, 3, none⟩ = some (.slice B l lp) := ob.cell 3
        clear ob
        have k0 : w13.cell? ⟨b2, 0, none⟩ = some (.int .i64 a0) := HX13.out.cell 0
        have k1 : w13.cell? ⟨b2, 1, none⟩ = some (.int .i64 a1) := HX13.out.cell 1
        have k2 : w13.cell? ⟨b2, 2, none⟩ = some (.int .u64 (a2 : Nat)) := HX13.out.cell 2
        have k3 : w13.cell? ⟨b2, 3, none⟩ = some (.slice A2 n2 c2) := HX13.out.cell 3
        have KV := HV2.out w13 HP13.out
        rw [hvn] at KV
        have K := Lib.hid KV
        clear KV
        go_wp2_with fail
        refine K.out.mono ?_
        rintro e w14 ⟨rfl, hb⟩
        clear K
        have kp14 := bj HP13.out hb
        have HP14 := Lib.hid kp14
        have HN14 := Lib.hid (mblok_below HX13.out hb)
        have HX14 := HN14
        have HH14 := Lib.hid (HH13.out.below hb (Nat.le_refl _))
        clear hb kp14 HN14 HX13 HH13 m0 m1 m2 m3 o0 o1 o2 o3 k0 k1 k2 k3
        have mb := mblok_below HBM.out HP14.out
        have m0 : w14.cell? ⟨W.heap.size, 0, none⟩ = some (.int .i64 x0) := mb.cell 0
        have m1 : w14.cell? ⟨W.heap.size, 1, none⟩ = some (.int .i64 x1) := mb.cell 1
        have m2 : w14.cell? ⟨W.heap.size, 2, none⟩ = some (.int .u64 (x2 : Nat)) := mb.cell 2
        have m3 : w14.cell? ⟨W.heap.size, 3, none⟩ = some (.slice A k cp) := mb.cell 3
        clear mb
        have ob := mblok_below HBN.out HP14.out
        have o0 : w14.cell? ⟨W.heap.size + 1, 0, none⟩ = some (.int .i64 y0) := ob.cell 0
        have o1 : w14.cell? ⟨W.heap.size + 1, 1, none⟩ = some (.int .i64 y1) := ob.cell 1
        have o2 : w14.cell? ⟨W.heap.size + 1, 2, none⟩ = some (.int .u64 (y2 : Nat)) := ob.cell 2
        have o3 : w14.cell? ⟨W.heap.size + 1, 3, none⟩ = some (.slice B l lp) := ob.cell 3
        clear ob
        have k0 : w14.cell? ⟨b2, 0, none⟩ = some (.int .i64 a0) := HX14.out.cell 0
        have k1 : w14.cell? ⟨b2, 1, none⟩ = some (.int .i64 a1) := HX14.out.cell 1
        have k2 : w14.cell? ⟨b2, 2, none⟩ = some (.int .u64 (a2 : Nat)) := HX14.out.cell 2
        have k3 : w14.cell? ⟨b2, 3, none⟩ = some (.slice A2 n2 c2) := HX14.out.cell 3
        have KM := HSM2.out w14 HP14.out a0 a1 a2 A2 n2 c2 R2 HH14.out HN2.out.1 (by have := HN2.out.1; have := HN2.out.2; omega)
        obtain ⟨qs, hqs⟩ : ∃ qs, sameM ⟨a0, a1, a2, R2⟩ ⟨y0, y1, y2, Q⟩ = qs := ⟨_, rfl⟩
        rw [hqs] at KM
        have K := Lib.hid KM
        clear KM hqs
        go_wp2_with fail
        refine K.out.mono ?_
        rintro e w15 ⟨rfl, hb⟩
        clear K
        have kp15 := bj HP14.out hb
        have HP15 := Lib.hid kp15
        have HN15 := Lib.hid (mblok_below HX14.out hb)
        have HX15 := HN15
        have HH15 := Lib.hid (HH14.out.below hb (Nat.le_refl _))
        clear hb kp15 HN15 HX14 HH14 m0 m1 m2 m3 o0 o1 o2 o3 k0 k1 k2 k3
        have mb := mblok_below HBM.out HP15.out
        have m0 : w15.cell? ⟨W.heap.size, 0, none⟩ = some (.int .i64 x0) := mb.cell 0
        have m1 : w15.cell? ⟨W.heap.size, 1, none⟩ = some (.int .i64 x1) := mb.cell 1
        have m2 : w15.cell? ⟨W.heap.size, 2, none⟩ = some (.int .u64 (x2 : Nat)) := mb.cell 2
        have m3 : w15.cell? ⟨W.heap.size, 3, none⟩ = some (.slice A k cp) := mb.cell 3
        clear mb
        have ob := mblok_below HBN.out HP15.out
        have o0 : w15.cell? ⟨W.heap.size + 1, 0, none⟩ = some (.int .i64 y0) := ob.cell 0
        have o1 : w15.cell? ⟨W.heap.size + 1, 1, none⟩ = some (.int .i64 y1) := ob.cell 1
        have o2 : w15.cell? ⟨W.heap.size + 1, 2, none⟩ = some (.int .u64 (y2 : Nat)) := ob.cell 2
        have o3 : w15.cell? ⟨W.heap.size + 1, 3, none⟩ = some (.slice B l lp) := ob.cell 3
        clear ob
        have k0 : w15.cell? ⟨b2, 0, none⟩ = some (.int .i64 a0) := HX15.out.cell 0
        have k1 : w15.cell? ⟨b2, 1, none⟩ = some (.int .i64 a1) := HX15.out.cell 1
        have k2 : w15.cell? ⟨b2, 2, none⟩ = some (.int .u64 (a2 : Nat)) := HX15.out.cell 2
        have k3 : w15.cell? ⟨b2, 3, none⟩ = some (.slice A2 n2 c2) := HX15.out.cell 3
        have KV := HV2.out w15 HP15.out
        rw [hvn] at KV
        have K := Lib.hid KV
        clear KV
        go_wp2_with fail
        refine K.out.mono ?_
        rintro e w16 ⟨rfl, hb⟩
        clear K
        have kp16 := bj HP15.out hb
        have HP16 := Lib.hid kp16
        have HN16 := Lib.hid (mblok_below HX15.out hb)
        have HX16 := HN16
        have HH16 := Lib.hid (HH15.out.below hb (Nat.le_refl _))
        clear hb kp16 HN16 HX15 HH15 m0 m1 m2 m3 o0 o1 o2 o3 k0 k1 k2 k3
        have mb := mblok_below HBM.out HP16.out
        have m0 : w16.cell? ⟨W.heap.size, 0, none⟩ = some (.int .i64 x0) := mb.cell 0
        have m1 : w16.cell? ⟨W.heap.size, 1, none⟩ = some (.int .i64 x1) := mb.cell 1
        have m2 : w16.cell? ⟨W.heap.size, 2, none⟩ = some (.int .u64 (x2 : Nat)) := mb.cell 2
        have m3 : w16.cell? ⟨W.heap.size, 3, none⟩ = some (.slice A k cp) := mb.cell 3
        clear mb
        have ob := mblok_below HBN.out HP16.out
        have o0 : w16.cell? ⟨W.heap.size + 1, 0, none⟩ = some (.int .i64 y0) := ob.cell 0
        have o1 : w16.cell? ⟨W.heap.size + 1, 1, none⟩ = some (.int .i64 y1) := ob.cell 1
        have o2 : w16.cell? ⟨W.heap.size + 1, 2, none⟩ = some (.int .u64 (y2 : Nat)) := ob.cell 2
        have o3 : w16.cell? ⟨W.heap.size + 1, 3, none⟩ = some (.slice B l lp) := ob.cell 3
        clear ob
        have k0 : w16.cell? ⟨b2, 0, none⟩ = some (.int .i64 a0) := HX16.out.cell 0
        have k1 : w16.cell? ⟨b2, 1, none⟩ = some (.int .i64 a1) := HX16.out.cell 1
        have k2 : w16.cell? ⟨b2, 2, none⟩ = some (.int .u64 (a2 : Nat)) := HX16.out.cell 2
        have k3 : w16.cell? ⟨b2, 3, none⟩ = some (.slice A2 n2 c2) := HX16.out.cell 3
        go_wp2_with fail
        refine (HM.out _).mono ?_
        rintro e wz ⟨rfl, hb⟩
        have HZ := Lib.hid (bj HP16.out hb)
        clear hb m0 m1 m2 m3 o0 o1 o2 o3 k0 k1 k2 k3
        go_wp2
        go_ret
        exact ⟨rfl, bj HB0.out HZ.out⟩
      · subst z1
        have hvn : mayM ⟨y0, y1, y2, Q⟩ = true := decide_eq_true z2
        have hq : q = false := by rw [← HQQ.out]; exact decide_eq_false z4
        subst hq
        have hF0 : F = 2 := HFF.out.trans rfl
        subst hF0
        subst z5
        clear fe1 HFF HQQ q1 q1' z4
        have mb := mblok_below HBM.out HP12.out
        have m0 : w12.cell? ⟨W.heap.size, 0, none⟩ = some (.int .i64 x0) := mb.cell 0
        have m1 : w12.cell? ⟨W.heap.size, 1, none⟩ = some (.int .i64 x1) := mb.cell 1
        have m2 : w12.cell? ⟨W.heap.size, 2, none⟩ = some (.int .u64 (x2 : Nat)) := mb.cell 2
        have m3 : w12.cell? ⟨W.heap.size, 3, none⟩ = some (.slice A k cp) := mb.cell 3
        clear mb
        have ob := mblok_below HBN.out HP12.out
        have o0 : w12.cell? ⟨W.heap.size + 1, 0, none⟩ = some (.int .i64 y0) := ob.cell 0
        have o1 : w12.cell? ⟨W.heap.size + 1, 1, none⟩ = some (.int .i64 y1) := ob.cell 1
        have o2 : w12.cell? ⟨W.heap.size + 1, 2, none⟩ = some (.int .u64 (y2 : Nat)) := ob.cell 2
        have o3 : w12.cell? ⟨W.heap.size + 1, 3, none⟩ = some (.slice B l lp) := ob.cell 3
        clear ob
        have k0 : w12.cell? ⟨b2, 0, none⟩ = some (.int .i64 a0) := HX12.out.cell 0
        have k1 : w12.cell? ⟨b2, 1, none⟩ = some (.int .i64 a1) := HX12.out.cell 1
        have k2 : w12.cell? ⟨b2, 2, none⟩ = some (.int .u64 (a2 : Nat)) := HX12.out.cell 2
        have k3 : w12.cell? ⟨b2, 3, none⟩ = some (.slice A2 n2 c2) := HX12.out.cell 3
        have KV := HV2.out w12 HP12.out
        rw [hvn] at KV
        have K := Lib.hid KV
        clear KV
        go_wp2_with fail
        refine K.out.mono ?_
        rintro e w13 ⟨rfl, hb⟩
        clear K
        have kp13 := bj HP12.out hb
        have HP13 := Lib.hid kp13
        have HN13 := Lib.hid (mblok_below HX12.out hb)
        have HX13 := HN13
        have HH13 := Lib.hid (HH12.out.below hb (Nat.le_refl _))
        clear hb kp13 HN13 HX12 HH12 m0 m1 m2 m3 o0 o1 o2 o3 k0 k1 k2 k3
        have mb := mblok_below HBM.out HP13.out
        have m0 : w13.cell? ⟨W.heap.size, 0, none⟩ = some (.int .i64 x0) := mb.cell 0
        have m1 : w13.cell? ⟨W.heap.size, 1, none⟩ = some (.int .i64 x1) := mb.cell 1
        have m2 : w13.cell? ⟨W.heap.size, 2, none⟩ = some (.int .u64 (x2 : Nat)) := mb.cell 2
        have m3 : w13.cell? ⟨W.heap.size, 3, none⟩ = some (.slice A k cp) := mb.cell 3
        clear mb
        have ob := mblok_below HBN.out HP13.out
        have o0 : w13.cell? ⟨W.heap.size + 1, 0, none⟩ = some (.int .i64 y0) := ob.cell 0
        have o1 : w13.cell? ⟨W.heap.size + 1, 1, none⟩ = some (.int .i64 y1) := ob.cell 1
        have o2 : w13.cell? ⟨W.heap.size + 1, 2, none⟩ = some (.int .u64 (y2 : Nat)) := ob.cell 2
        have o3 : w13.cell? ⟨W.heap.size + 1, 3, none⟩ = some (.slice B l lp) := ob.cell 3
        clear ob
        have k0 : w13.cell? ⟨b2, 0, none⟩ = some (.int .i64 a0) := HX13.out.cell 0
        have k1 : w13.cell? ⟨b2, 1, none⟩ = some (.int .i64 a1) := HX13.out.cell 1
        have k2 : w13.cell? ⟨b2, 2, none⟩ = some (.int .u64 (a2 : Nat)) := HX13.out.cell 2
        have k3 : w13.cell? ⟨b2, 3, none⟩ = some (.slice A2 n2 c2) := HX13.out.cell 3
        have KV := HV2.out w13 HP13.out
        rw [hvn] at KV
        have K := Lib.hid KV
        clear KV
        go_wp2_with fail
        refine K.out.mono ?_
        rintro e w14 ⟨rfl, hb⟩
        clear K
        have kp14 := bj HP13.out hb
        have HP14 := Lib.hid kp14
        have HN14 := Lib.hid (mblok_below HX13.out hb)
        have HX14 := HN14
        have HH14 := Lib.hid (HH13.out.below hb (Nat.le_refl _))
        clear hb kp14 HN14 HX13 HH13 m0 m1 m2 m3 o0 o1 o2 o3 k0 k1 k2 k3
        have mb := mblok_below HBM.out HP14.out
        have m0 : w14.cell? ⟨W.heap.size, 0, none⟩ = some (.int .i64 x0) := mb.cell 0
        have m1 : w14.cell? ⟨W.heap.size, 1, none⟩ = some (.int .i64 x1) := mb.cell 1
        have m2 : w14.cell? ⟨W.heap.size, 2, none⟩ = some (.int .u64 (x2 : Nat)) := mb.cell 2
        have m3 : w14.cell? ⟨W.heap.size, 3, none⟩ = some (.slice A k cp) := mb.cell 3
        clear mb
        have ob := mblok_below HBN.out HP14.out
        have o0 : w14.cell? ⟨W.heap.size + 1, 0, none⟩ = some (.int .i64 y0) := ob.cell 0
        have o1 : w14.cell? ⟨W.heap.size + 1, 1, none⟩ = some (.int .i64 y1) := ob.cell 1
        have o2 : w14.cell? ⟨W.heap.size + 1, 2, none⟩ = some (.int .u64 (y2 : Nat)) := ob.cell 2
        have o3 : w14.cell? ⟨W.heap.size + 1, 3, none⟩ = some (.slice B l lp) := ob.cell 3
        clear ob
        have k0 : w14.cell? ⟨b2, 0, none⟩ = some (.int .i64 a0) := HX14.out.cell 0
        have k1 : w14.cell? ⟨b2, 1, none⟩ = some (.int .i64 a1) := HX14.out.cell 1
        have k2 : w14.cell? ⟨b2, 2, none⟩ = some (.int .u64 (a2 : Nat)) := HX14.out.cell 2
        have k3 : w14.cell? ⟨b2, 3, none⟩ = some (.slice A2 n2 c2) := HX14.out.cell 3
        go_wp2_with fail
        refine (HM.out _).mono ?_
        rintro e wz ⟨rfl, hb⟩
        have HZ := Lib.hid (bj HP14.out hb)
        clear hb m0 m1 m2 m3 o0 o1 o2 o3 k0 k1 k2 k3
        go_wp2
        go_ret
        exact ⟨rfl, bj HB0.out HZ.out⟩
      · subst z1
        have hvn : mayM ⟨y0, y1, y2, Q⟩ = false := decide_eq_false z2
        have hq : q = true := by rw [← HQQ.out]; exact decide_eq_true z4
        subst hq
        have hF0 : F = 0 := HFF.out.trans rfl
        subst hF0
        subst z5
        clear fe1 HFF HQQ q1 q1' z4
        have hl := z6
        have mb := mblok_below HBM.out HP12.out
        have m0 : w12.cell? ⟨W.heap.size, 0, none⟩ = some (.int .i64 x0) := mb.cell 0
        have m1 : w12.cell? ⟨W.heap.size, 1, none⟩ = some (.int .i64 x1) := mb.cell 1
        have m2 : w12.cell? ⟨W.heap.size, 2, none⟩ = some (.int .u64 (x2 : Nat)) := mb.cell 2
        have m3 : w12.cell? ⟨W.heap.size, 3, none⟩ = some (.slice A k cp) := mb.cell 3
        clear mb
        have ob := mblok_below HBN.out HP12.out
        have o0 : w12.cell? ⟨W.heap.size + 1, 0, none⟩ = some (.int .i64 y0) := ob.cell 0
        have o1 : w12.cell? ⟨W.heap.size + 1, 1, none⟩ = some (.int .i64 y1) := ob.cell 1
        have o2 : w12.cell? ⟨W.heap.size + 1, 2, none⟩ = some (.int .u64 (y2 : Nat)) := ob.cell 2
        have o3 : w12.cell? ⟨W.heap.size + 1, 3, none⟩ = some (.slice B l lp) := ob.cell 3
        clear ob
        have k0 : w12.cell? ⟨b2, 0, none⟩ = some (.int .i64 a0) := HX12.out.cell 0
        have k1 : w12.cell? ⟨b2, 1, none⟩ = some (.int .i64 a1) := HX12.out.cell 1
        have k2 : w12.cell? ⟨b2, 2, none⟩ = some (.int .u64 (a2 : Nat)) := HX12.out.cell 2
        have k3 : w12.cell? ⟨b2, 3, none⟩ = some (.slice A2 n2 c2) := HX12.out.cell 3
        have KM := HSM1.out w12 HP12.out a0 a1 a2 A2 n2 c2 R2 HH12.out HN2.out.1 (by have := HN2.out.1; have := HN2.out.2; omega)
        have hs : sameM ⟨a0, a1, a2, R2⟩ ⟨x0, x1, x2, R⟩ = true := by
          rw [← HLM.out, hl]
          exact HSELF.out.1
        rw [hs] at KM
        have K := Lib.hid KM
        clear KM hs
        go_wp2_with fail
        refine K.out.mono ?_
        rintro e w13 ⟨rfl, hb⟩
        clear K
        have kp13 := bj HP12.out hb
        have HP13 := Lib.hid kp13
        have HN13 := Lib.hid (mblok_below HX12.out hb)
        have HX13 := HN13
        have HH13 := Lib.hid (HH12.out.below hb (Nat.le_refl _))
        clear hb kp13 HN13 HX12 HH12 m0 m1 m2 m3 o0 o1 o2 o3 k0 k1 k2 k3
        clear hl z6
        have mb := mblok_below HBM.out HP13.out
        have m0 : w13.cell? ⟨W.heap.size, 0, none⟩ = some (.int .i64 x0) := mb.cell 0
        have m1 : w13.cell? ⟨W.heap.size, 1, none⟩ = some (.int .i64 x1) := mb.cell 1
        have m2 : w13.cell? ⟨W.heap.size, 2, none⟩ = some (.int .u64 (x2 : Nat)) := mb.cell 2
        have m3 : w13.cell? ⟨W.heap.size, 3, none⟩ = some (.slice A k cp) := mb.cell 3
        clear mb
        have ob := mblok_below HBN.out HP13.out
        have o0 : w13.cell? ⟨W.heap.size + 1, 0, none⟩ = some (.int .i64 y0) := ob.cell 0
        have o1 : w13.cell? ⟨W.heap.size + 1, 1, none⟩ = some (.int .i64 y1) := ob.cell 1
        have o2 : w13.cell? ⟨W.heap.size + 1, 2, none⟩ = some (.int .u64 (y2 : Nat)) := ob.cell 2
        have o3 : w13.cell? ⟨W.heap.size + 1, 3, none⟩ = some (.slice B l lp) := ob.cell 3
        clear ob
        have k0 : w13.cell? ⟨b2, 0, none⟩ = some (.int .i64 a0) := HX13.out.cell 0
        have k1 : w13.cell? ⟨b2, 1, none⟩ = some (.int .i64 a1) := HX13.out.cell 1
        have k2 : w13.cell? ⟨b2, 2, none⟩ = some (.int .u64 (a2 : Nat)) := HX13.out.cell 2
        have k3 : w13.cell? ⟨b2, 3, none⟩ = some (.slice A2 n2 c2) := HX13.out.cell 3
        have KV := HV2.out w13 HP13.out
        rw [hvn] at KV
        have K := Lib.hid KV
        clear KV
        go_wp2_with fail
        refine K.out.mono ?_
        rintro e w14 ⟨rfl, hb⟩
        clear K
        have kp14 := bj HP13.out hb
        have HP14 := Lib.hid kp14
        have HN14 := Lib.hid (mblok_below HX13.out hb)
        have HX14 := HN14
        have HH14 := Lib.hid (HH13.out.below hb (Nat.le_refl _))
        clear hb kp14 HN14 HX13 HH13 m0 m1 m2 m3 o0 o1 o2 o3 k0 k1 k2 k3
        have mb := mblok_below HBM.out HP14.out
        have m0 : w14.cell? ⟨W.heap.size, 0, none⟩ = some (.int .i64 x0) := mb.cell 0
        have m1 : w14.cell? ⟨W.heap.size, 1, none⟩ = some (.int .i64 x1) := mb.cell 1
        have m2 : w14.cell? ⟨W.heap.size, 2, none⟩ = some (.int .u64 (x2 : Nat)) := mb.cell 2
        have m3 : w14.cell? ⟨W.heap.size, 3, none⟩ = some (.slice A k cp) := mb.cell 3
        clear mb
        have ob := mblok_below HBN.out HP14.out
        have o0 : w14.cell? ⟨W.heap.size + 1, 0, none⟩ = some (.int .i64 y0) := ob.cell 0
        have o1 : w14.cell? ⟨W.heap.size + 1, 1, none⟩ = some (.int .i64 y1) := ob.cell 1
        have o2 : w14.cell? ⟨W.heap.size + 1, 2, none⟩ = some (.int .u64 (y2 : Nat)) := ob.cell 2
        have o3 : w14.cell? ⟨W.heap.size + 1, 3, none⟩ = some (.slice B l lp) := ob.cell 3
        clear ob
        have k0 : w14.cell? ⟨b2, 0, none⟩ = some (.int .i64 a0) := HX14.out.cell 0
        have k1 : w14.cell? ⟨b2, 1, none⟩ = some (.int .i64 a1) := HX14.out.cell 1
        have k2 : w14.cell? ⟨b2, 2, none⟩ = some (.int .u64 (a2 : Nat)) := HX14.out.cell 2
        have k3 : w14.cell? ⟨b2, 3, none⟩ = some (.slice A2 n2 c2) := HX14.out.cell 3
        have KV := HV2.out w14 HP14.out
        rw [hvn] at KV
        have K := Lib.hid KV
        clear KV
        go_wp2_with fail
        refine K.out.mono ?_
        rintro e w15 ⟨rfl, hb⟩
        clear K
        have kp15 := bj HP14.out hb
        have HP15 := Lib.hid kp15
        have HN15 := Lib.hid (mblok_below HX14.out hb)
        have HX15 := HN15
        have HH15 := Lib.hid (HH14.out.below hb (Nat.le_refl _))
        clear hb kp15 HN15 HX14 HH14 m0 m1 m2 m3 o0 o1 o2 o3 k0 k1 k2 k3
        have mb := mblok_below HBM.out HP15.out
        have m0 : w15.cell? ⟨W.heap.size, 0, none⟩ = some (.int .i64 x0) := mb.cell 0
        have m1 : w15.cell? ⟨W.heap.size, 1, none⟩ = some (.int .i64 x1) := mb.cell 1
        have m2 : w15.cell? ⟨W.heap.size, 2, none⟩ = some (.int .u64 (x2 : Nat)) := mb.cell 2
        have m3 : w15.cell? ⟨W.heap.size, 3, none⟩ = some (.slice A k cp) := mb.cell 3
        clear mb
        have ob := mblok_below HBN.out HP15.out
        have o0 : w15.cell? ⟨W.heap.size + 1, 0, none⟩ = some (.int .i64 y0) := ob.cell 0
        have o1 : w15.cell? ⟨W.heap.size + 1, 1, none⟩ = some (.int .i64 y1) := ob.cell 1
        have o2 : w15.cell? ⟨W.heap.size + 1, 2, none⟩ = some (.int .u64 (y2 : Nat)) := ob.cell 2
        have o3 : w15.cell? ⟨W.heap.size + 1, 3, none⟩ = some (.slice B l lp) := ob.cell 3
        clear ob
        have k0 : w15.cell? ⟨b2, 0, none⟩ = some (.int .i64 a0) := HX15.out.cell 0
        have k1 : w15.cell? ⟨b2, 1, none⟩ = some (.int .i64 a1) := HX15.out.cell 1
        have k2 : w15.cell? ⟨b2, 2, none⟩ = some (.int .u64 (a2 : Nat)) := HX15.out.cell 2
        have k3 : w15.cell? ⟨b2, 3, none⟩ = some (.slice A2 n2 c2) := HX15.out.cell 3
        go_wp2_with fail
        refine (HM.out _).mono ?_
        rintro e wz ⟨rfl, hb⟩
        have HZ := Lib.hid (bj HP15.out hb)
        clear hb m0 m1 m2 m3 o0 o1 o2 o3 k0 k1 k2 k3
        go_wp2
        go_ret
        exact ⟨rfl, bj HB0.out HZ.out⟩
      · subst z1
        have hvn : mayM ⟨y0, y1, y2, Q⟩ = false := decide_eq_false z2
        have hq : q = false := by rw [← HQQ.out]; exact decide_eq_false z4
        subst hq
        have hF0 : F = 2 := HFF.out.trans rfl
        subst hF0
        subst z5
        clear fe1 HFF HQQ q1 q1' z4
        have mb := mblok_below HBM.out HP12.out
        have m0 : w12.cell? ⟨W.heap.size, 0, none⟩ = some (.int .i64 x0) := mb.cell 0
        have m1 : w12.cell? ⟨W.heap.size, 1, none⟩ = some (.int .i64 x1) := mb.cell 1
        have m2 : w12.cell? ⟨W.heap.size, 2, none⟩ = some (.int .u64 (x2 : Nat)) := mb.cell 2
        have m3 : w12.cell? ⟨W.heap.size, 3, none⟩ = some (.slice A k cp) := mb.cell 3
        clear mb
        have ob := mblok_below HBN.out HP12.out
        have o0 : w12.cell? ⟨W.heap.size + 1, 0, none⟩ = some (.int .i64 y0) := ob.cell 0
        have o1 : w12.cell? ⟨W.heap.size + 1, 1, none⟩ = some (.int .i64 y1) := ob.cell 1
        have o2 : w12.cell? ⟨W.heap.size + 1, 2, none⟩ = some (.int .u64 (y2 : Nat)) := ob.cell 2
        have o3 : w12.cell? ⟨W.heap.size + 1, 3, none⟩ = some (.slice B l lp) := ob.cell 3
        clear ob
        have k0 : w12.cell? ⟨b2, 0, none⟩ = some (.int .i64 a0) := HX12.out.cell 0
        have k1 : w12.cell? ⟨b2, 1, none⟩ = some (.int .i64 a1) := HX12.out.cell 1
        have k2 : w12.cell? ⟨b2, 2, none⟩ = some (.int .u64 (a2 : Nat)) := HX12.out.cell 2
        have k3 : w12.cell? ⟨b2, 3, none⟩ = some (.slice A2 n2 c2) := HX12.out.cell 3
        have KV := HV2.out w12 HP12.out
        rw [hvn] at KV
        have K := Lib.hid KV
        clear KV
        go_wp2_with fail
        refine K.out.mono ?_
        rintro e w13 ⟨rfl, hb⟩
        clear K
        have kp13 := bj HP12.out hb
        have HP13 := Lib.hid kp13
        have HN13 := Lib.hid (mblok_below HX12.out hb)
        have HX13 := HN13
        have HH13 := Lib.hid (HH12.out.below hb (Nat.le_refl _))
        clear hb kp13 HN13 HX12 HH12 m0 m1 m2 m3 o0 o1 o2 o3 k0 k1 k2 k3
        have mb := mblok_below HBM.out HP13.out
        have m0 : w13.cell? ⟨W.heap.size, 0, none⟩ = some (.int .i64 x0) := mb.cell 0
        have m1 : w13.cell? ⟨W.heap.size, 1, none⟩ = some (.int .i64 x1) := mb.cell 1
        have m2 : w13.cell? ⟨W.heap.size, 2, none⟩ = some (.int .u64 (x2 : Nat)) := mb.cell 2
        have m3 : w13.cell? ⟨W.heap.size, 3, none⟩ = some (.slice A k cp) := mb.cell 3
        clear mb
        have ob := mblok_below HBN.out HP13.out
        have o0 : w13.cell? ⟨W.heap.size + 1, 0, none⟩ = some (.int .i64 y0) := ob.cell 0
        have o1 : w13.cell? ⟨W.heap.size + 1, 1, none⟩ = some (.int .i64 y1) := ob.cell 1
        have o2 : w13.cell? ⟨W.heap.size + 1, 2, none⟩ = some (.int .u64 (y2 : Nat)) := ob.cell 2
        have o3 : w13.cell? ⟨W.heap.size + 1, 3, none⟩ = some (.slice B l lp) := ob.cell 3
        clear ob
        have k0 : w13.cell? ⟨b2, 0, none⟩ = some (.int .i64 a0) := HX13.out.cell 0
        have k1 : w13.cell? ⟨b2, 1, none⟩ = some (.int .i64 a1) := HX13.out.cell 1
        have k2 : w13.cell? ⟨b2, 2, none⟩ = some (.int .u64 (a2 : Nat)) := HX13.out.cell 2
        have k3 : w13.cell? ⟨b2, 3, none⟩ = some (.slice A2 n2 c2) := HX13.out.cell 3
        have KV := HV2.out w13 HP13.out
        rw [hvn] at KV
        have K := Lib.hid KV
        clear KV
        go_wp2_with fail
        refine K.out.mono ?_
        rintro e w14 ⟨rfl, hb⟩
        clear K
        have kp14 := bj HP13.out hb
        have HP14 := Lib.hid kp14
        have HN14 := Lib.hid (mblok_below HX13.out hb)
        have HX14 := HN14
        have HH14 := Lib.hid (HH13.out.below hb (Nat.le_refl _))
        clear hb kp14 HN14 HX13 HH13 m0 m1 m2 m3 o0 o1 o2 o3 k0 k1 k2 k3
        have mb := mblok_below HBM.out HP14.out
        have m0 : w14.cell? ⟨W.heap.size, 0, none⟩ = some (.int .i64 x0) := mb.cell 0
        have m1 : w14.cell? ⟨W.heap.size, 1, none⟩ = some (.int .i64 x1) := mb.cell 1
        have m2 : w14.cell? ⟨W.heap.size, 2, none⟩ = some (.int .u64 (x2 : Nat)) := mb.cell 2
        have m3 : w14.cell? ⟨W.heap.size, 3, none⟩ = some (.slice A k cp) := mb.cell 3
        clear mb
        have ob := mblok_below HBN.out HP14.out
        have o0 : w14.cell? ⟨W.heap.size + 1, 0, none⟩ = some (.int .i64 y0) := ob.cell 0
        have o1 : w14.cell? ⟨W.heap.size + 1, 1, none⟩ = some (.int .i64 y1) := ob.cell 1
        have o2 : w14.cell? ⟨W.heap.size + 1, 2, none⟩ = some (.int .u64 (y2 : Nat)) := ob.cell 2
        have o3 : w14.cell? ⟨W.heap.size + 1, 3, none⟩ = some (.slice B l lp) := ob.cell 3
        clear ob
        have k0 : w14.cell? ⟨b2, 0, none⟩ = some (.int .i64 a0) := HX14.out.cell 0
        have k1 : w14.cell? ⟨b2, 1, none⟩ = some (.int .i64 a1) := HX14.out.cell 1
        have k2 : w14.cell? ⟨b2, 2, none⟩ = some (.int .u64 (a2 : Nat)) := HX14.out.cell 2
        have k3 : w14.cell? ⟨b2, 3, none⟩ = some (.slice A2 n2 c2) := HX14.out.cell 3
        go_wp2_with fail
        refine (HM.out _).mono ?_
        rintro e wz ⟨rfl, hb⟩
        have HZ := Lib.hid (bj HP14.out hb)
        clear hb m0 m1 m2 m3 o0 o1 o2 o3 k0 k1 k2 k3
        go_wp2
        go_ret
        exact ⟨rfl, bj HB0.out HZ.out⟩
    have t2 : decide ((j : Int) < (N : Int)) = true := decide_eq_true (by omega)
    have t2' : (j : Int) < (N : Int) := by omega
    obtain ⟨c, hc⟩ : ∃ c, L[j]? = some c := by
      rw [HN.out] at hjm
      exact ⟨L[j], List.getElem?_eq_getElem hjm⟩
    have hcw := HW8.out c (List.mem_of_getElem? hc)
    obtain ⟨b, e1, e2⟩ := HC8.out wr (bj HD4.out.kept HBX.out) j c hc
    subst e1
    have hlen : j = ((L.take j).map fun (x : Nat) => (x : Int)).length := by
      rw [List.length_map, List.length_take, ← HN.out]
      omega
    obtain ⟨w5, u5, f1, ⟨A6, c6, rfl, f2⟩, f3⟩ := ints_more (x := (c : Int)) HROW.out hlen (by omega) HBX.out.size 49
    have hnext : ((L.take j).map fun (x : Nat) => (x : Int)) ++ [(c : Int)] = (L.take (j + 1)).map fun (x : Nat) => (x : Int) := by
      rw [List.take_add_one, hc, List.map_append]
      rfl
    rw [hnext] at f2
    have HF1 := Lib.hid f1
    have HF2 := Lib.hid f2
    have HF3 := Lib.hid (HBX.out.trans f3)
    clear f1 f2 f3 hnext hlen
    cases gk with
    | zero => omega
    | succ gj =>
    go_wp2_with (first | (at_builtin; refine wpList_append_two rfl _ _ rfl rfl rfl HF1.out ?_) | fail)
    go_roundg gj
    case measure => omega
    case rel => exact ⟨j + 1, A6, c6, by omega, by go_num, by first | rfl | go_num, HF2.out, HF3.out⟩
end
end ImCrash
end Go.Proofs.YtbhgngimebecdaaGreat

/- ImRefusedWalk -/
namespace Go.Proofs.YtbhgngimebecdaaGreat
open Go.RowKit Go.Shelf
set_option linter.unusedVariables false
set_option maxRecDepth 100000

theorem zero_lv : MayM ⟨0, 0, 0, []⟩ := by decide +kernel
/-- A Swap on a new disk that may have too little room. -/
theorem room_swap (m : ManS) (r : Nat) : ¬ MayM m ∧ swapP (newS (6000 + r)) m = (2, newS (6000 + r)) ∨ MayM m ∧ r < (mfB m).size ∧ swapP (newS (6000 + r)) m = (60, newS (6000 + r)) ∨
    MayM m ∧ (mfB m).size ≤ r ∧ (swapP (newS (6000 + r)) m).1 = 0 ∧ (swapP (newS (6000 + r)) m).2.down = false ∧ (swapP (newS (6000 + r)) m).2.l.map FileS.name = [mapN] ∧ (swapP (newS (6000 + r)) m).2.count = 0 := by
  have h0 : OldD (newS (6000 + r)) none := ⟨rfl, rfl⟩
  by_cases hm : MayM m
  · by_cases hz : (mfB m).size ≤ r
    · obtain ⟨h1, h2, h3, h4, -⟩ := first_swap (c := 6000 + r) m (fun _ => by omega)
      rw [if_pos hm] at h1
      rw [oldM_yes hm] at h2
      exact Or.inr (Or.inr ⟨hm, hz, h1, h2.down, by rw [h2.l]; rfl, h4⟩)
    · exact Or.inr (Or.inl ⟨hm, by omega, swap_full h0 hm (by show 6000 + r < 0 + (mfB m).size + 6000; omega)⟩)
  · exact Or.inl ⟨hm, swap_bad hm⟩
/-- A disk that is down. -/
theorem down_told {D : DiskS} (h : D.down = true) : loadE D = 61 ∧ loadD D = D ∧ swapP D ⟨0, 0, 0, []⟩ = (61, D) ∧ cleanP D ⟨0, 0, 0, []⟩ = (61, D) := by
  have e : sizeS D mapN = (0, 61) := by unfold sizeS; rw [if_pos h]
  have r : rdW D mapN = (ByteArray.empty, 61, D) := by unfold rdW; rw [e]; rfl
  refine ⟨by unfold loadE; rw [r]; rfl, by unfold loadD; rw [r], swap_down zero_lv h, by unfold cleanP; rw [if_pos h]⟩
namespace ImRefused
section
variable {At : Lies} (api : DiskApi At) (iap : ImApi At)
include api iap
set_option maxHeartbeats 2000000 in
theorem walk (W : World) (v0 : Value) (a1 : Int) (wx0 : ManIn W v0) (w1 : (Lit.int .u16 a1).wf = true) : Calls Tryz.prog 6 #[v0, .int .u16 a1] W fun e w' => e = .returned (.bool true) ∧ Below W.heap.size W w' := by
  obtain ⟨x0, x1, x2, A, k, cp, R, rfl, hk, hR, hx2, -⟩ := wx0
  obtain ⟨b, rfl, hb⟩ := u16_nat w1
  have HM := Lib.hid (fun W => mapped_true api iap W)
  unfold MfTrueEnd at HM
  have hb1 := (Below.refl W.heap.size W).alloc (Nat.le_refl _) (manO x0 x1 x2 (.slice A k cp))
  have hR1 := hR.below hb1 (Nat.le_refl _)
  have BM := Blok.new W 26 #[.int .i64 x0, .int .i64 x1, .int .u64 (x2 : Nat), .slice A k cp]
  obtain ⟨wa, hwa⟩ : ∃ wa, wa = W.alloc (manO x0 x1 x2 (.slice A k cp)) := ⟨_, rfl⟩
  rw [← hwa] at hb1 hR1 BM
  have HB1 := Lib.hid hb1
  have HR1 := Lib.hid hR1
  have HBM := Lib.hid BM
  have HWA := Lib.hid hwa
  have HK := Lib.hid hk
  have HX2 := Lib.hid hx2
  have HG := Lib.hid (lgreat_any (.slice A k cp) R wa hR1)
  have c3 : wa.cell? ⟨W.heap.size, 3, none⟩ = some (.slice A k cp) := BM.cell 3
  have C3 := Lib.hid c3
  unfold manV
  unfold LvGreatEnd at HG
  clear hb1 hR hR1 BM hwa hk hx2 w1 c3
  go_enter Tryz.func6, Tryz.ntmps6
  go_upto_region 1 with fail
  rw [← HWA.out]
  clear HWA
  have c3 := C3.out
  go_wp2_with fail
  refine HG.out.mono ?_
  rintro e wx ⟨q, rfl, hwx, hq⟩
  obtain rfl : wa = wx := hwx.symm
  cases q with
  | true =>
    clear hq HG
    go_wp2_with fail
    refine (HM.out _).mono ?_
    rintro e w3 ⟨rfl, hb3⟩
    have HB3 := Lib.hid hb3
    clear hb3
    go_wp2
    go_ret
    exact ⟨rfl, bj HB1.out HB3.out⟩
  | false =>
  have hfl := few_flat (hq rfl)
  have hll : R.length ≤ 10 := (hq rfl).1
  obtain ⟨r, hr⟩ : ∃ r, r = b % 600 := ⟨_, rfl⟩
  have hr1 : (b : Int).tmod 600 = (r : Int) := by rw [hr]; rfl
  have hr2 : (b : Int) % 600 = (r : Int) := by rw [hr]; rfl
  have hr6 : r < 600 := by omega
  have HNEW : Hid (Calls Tryz.prog 15 #[.int .i64 (6000 + (r : Int))] wa fun e w' => ∃ g, e = .returned (.tuple #[ptr g, .int .i64 0]) ∧ DS At wa g (newS (6000 + r)) [] w') := Lib.hid (by
    have h := im_new api wa (6000 + r) (by omega)
    rw [show ((6000 + r : Nat) : Int) = 6000 + (r : Int) by omega] at h
    exact h)
  have ok0 : WfP (newS (6000 + r)) := wp_new (by omega)
  have hP := fun W' (h : Below wa.heap.size wa W') => mput_any x0 x1 x2 A k cp R W' (HR1.out.below h (Nat.le_refl _)) HK.out (by omega) (by omega) HX2.out
  have hS := fun W' g (h : DS At wa g (newS (6000 + r)) [] W') => iap.swap x0 x1 x2 A k cp R h ok0 (Holds.of_in HR1.out) HK.out (by omega) (by omega) HX2.out
  have okd := wp_swap ok0 ⟨x0, x1, x2, R⟩
  have hroom := room_swap ⟨x0, x1, x2, R⟩ r
  have HLN := Lib.hid (fun W => iap.loadn W)
  have HSN : Hid (∀ W, Calls Tryz.prog 21 #[.pointer none, .agg #[.int .i64 0, .int .i64 0, .int .u64 0, .slice none 0 0]] W fun e w' => e = .returned (err 1) ∧ Below W.heap.size W w') := Lib.hid fun W => iap.swapn 0 0 0 none 0 0 W
  have HCN : Hid (∀ W, Calls Tryz.prog 14 #[.pointer none, .agg #[.int .i64 0, .int .i64 0, .int .u64 0, .slice none 0 0]] W fun e w' => e = .returned (err 1) ∧ Below W.heap.size W w') := Lib.hid fun W => iap.cleann 0 0 0 none 0 0 W
  have HON : Hid (∀ W, Calls Tryz.prog 13 #[.pointer none, .agg #[.int .i64 0, .int .i64 0, .int .u64 0, .slice none 0 0]] W fun e w' => (∃ A' c', e = .returned (.slice A' 0 c')) ∧ Below W.heap.size W w') := Lib.hid fun W => iap.orphansn 0 0 0 none 0 0 [] W (LvsHas.nil W none 0) (by decide) (by decide)
  unfold MfPutEnd manV at hP
  unfold manV at hS HLN
  have hdn : ∀ D : DiskS, WfP D → D.down = false → D.count ≤ 10 → Hid (∀ W g, DS At wa g D [] W → Calls Tryz.prog 25 #[ptr g, .slice none 0 0] W (DEnd At wa g (err 0) (sinkS D []) [] W)) ∧
      Hid (∀ W g, DS At wa g (sinkS D []) [] W → Calls Tryz.prog 16 #[ptr g] W fun e w' => ∃ (x0 x1 : Int) (x2 : Nat) (A : Option Addr) (n c : Nat) (R : LvL), e = .returned (.tuple #[.agg #[.int .i64 x0, .int .i64 x1, .int .u64 (x2 : Nat), .slice A n c], .int .i64 61]) ∧ loadM (sinkS D []) = ⟨x0, x1, x2, R⟩ ∧ n = R.length ∧ LvsHas w' (.slice A n c) R ∧ R.length ≤ 300 ∧ R.flatten.length ≤ 100000 ∧ x2 < 18446744073709551616 ∧ DS At wa g (sinkS D []) [] w' ∧ Kept [] W w') ∧
      Hid (∀ W g E, DS At wa g (sinkS D []) E W → Calls Tryz.prog 21 #[ptr g, .agg #[.int .i64 0, .int .i64 0, .int .u64 0, .slice none 0 0]] W (DEnd At wa g (err 61) (sinkS D []) E W)) ∧
      Hid (∀ W g E, DS At wa g (sinkS D []) E W → Calls Tryz.prog 14 #[ptr g, .agg #[.int .i64 0, .int .i64 0, .int .u64 0, .slice none 0 0]] W (DEnd At wa g (err 61) (sinkS D []) E W)) := by
    intro D ok hd hc
    have e : crashS D [] = (0, sinkS D []) := by unfold crashS; rw [if_neg (by simp [hd])]
    have ok2 := wp_crash ok []
    rw [e] at ok2
    obtain ⟨t1, t2, t3, t4⟩ := down_told (D := sinkS D []) rfl
    refine ⟨Lib.hid fun W g h => ?_, Lib.hid fun W g h => ?_, Lib.hid fun W g E h => ?_, Lib.hid fun W g E h => ?_⟩
    · have := h.disk api (fun F hF => api.crash (.slice none 0 0) [] hF ok.ok (Or.inl ⟨rfl, none, 0, rfl⟩) (fun b hb => by cases hb) (by decide))
      rw [e] at this
      exact this
    · have := iap.load h ok2 (by show D.count ≤ _; omega)
      unfold ImLoadEnd at this
      rw [t1, t2] at this
      exact this
    · have := iap.swap 0 0 0 none 0 0 [] h ok2 (fun W' _ _ => LvsHas.nil W' none 0) rfl (by decide) (by decide) (by decide)
      rw [t3] at this
      exact this
    · have := iap.clean 0 0 0 none 0 0 [] h ok2 (fun W' _ _ => LvsHas.nil W' none 0) rfl (by decide) (by decide)
      rw [t4] at this
      exact this
  have HNMS := Lib.hid (fun D (ok : WfP D) W g (h : DS At wa g D [] W) => im_names api h ok)
  have m0 : wa.cell? ⟨W.heap.size, 0, none⟩ = some (.int .i64 x0) := HBM.out.cell 0
  have m1 : wa.cell? ⟨W.heap.size, 1, none⟩ = some (.int .i64 x1) := HBM.out.cell 1
  have m2 : wa.cell? ⟨W.heap.size, 2, none⟩ = some (.int .u64 (x2 : Nat)) := HBM.out.cell 2
  have MC := Lib.hid (And.intro m0 (And.intro m1 (And.intro m2 c3)))
  have HLT := Lib.hid HBM.out.lt
  clear hr hq HG hfl hll HR1 HBM m0 m1 m2
  rcases hroom with ⟨hm, hsw⟩ | ⟨hm, hz, hsw⟩ | ⟨hm, hz, hs1, hs2, hs3, hs4⟩
  · obtain ⟨r1, r2⟩ := mf_no hm
    rw [r1, r2] at hP
    rw [hsw] at hS
    obtain ⟨HCR, HL3, HS3, HC3⟩ := hdn _ ok0 rfl (Nat.zero_le _)
    have HOK := Lib.hid ok0
    clear okd ok0 hm hsw r1 r2
    have HP := Lib.hid hP
    have HS := Lib.hid hS
    clear hP hS hdn
    go_wp2_with fail
    refine HNEW.out.mono ?_
    rintro e w2 ⟨g, rfl, hD2⟩
    obtain ⟨k0, k1, k2, k3⟩ := MC.out
    have d0 := mcell hD2.kept HLT.out k0
    have d1 := mcell hD2.kept HLT.out k1
    have d2 := mcell hD2.kept HLT.out k2
    have d3 := mcell hD2.kept HLT.out k3
    have KP := Lib.hid (HP.out w2 hD2.kept)
    have HD2 := Lib.hid hD2
    clear hD2 c3 k0 k1 k2 k3 HNEW HP
    go_wp2_with fail
    refine KP.out.mono ?_
    rintro e w3 ⟨rfl, hb3⟩
    have hD3 := HD2.out.below api hb3
    obtain ⟨k0, k1, k2, k3⟩ := MC.out
    have e0 := mcell hD3.kept HLT.out k0
    have e1 := mcell hD3.kept HLT.out k1
    have e2 := mcell hD3.kept HLT.out k2
    have e3 := mcell hD3.kept HLT.out k3
    have KS := Lib.hid (HS.out w3 g hD3)
    clear hD3 hb3 d0 d1 d2 d3 k0 k1 k2 k3 KP HS HD2 MC HLT
    go_wp2_with fail
    refine KS.out.mono ?_
    rintro e w4 ⟨rfl, hD4, -⟩
    have HD4 := Lib.hid hD4
    clear hD4 e0 e1 e2 e3 KS
    have KN := Lib.hid (HNMS.out _ HOK.out w4 g HD4.out)
    go_wp2_with fail
    refine KN.out.mono ?_
    rintro e w5 ⟨v5, B5, rfl, hv5, hD5, -, -⟩
    obtain ⟨A5, c5, rfl⟩ := hv5.shape
    have HD := Lib.hid (hD5.less (E' := []) (fun b hb => by cases hb))
    clear hv5 hD5 KN HD4
    go_wp2_with fail
    refine (HCR.out _ _ HD.out).mono ?_
    rintro e w7 ⟨rfl, hD7, -⟩
    have K := Lib.hid (HL3.out _ _ hD7)
    clear hD7 HD
    go_wp2_with fail
    refine K.out.mono ?_
    rintro e w8 ⟨a0, a1, a2, A2, n2, c2, R2, rfl, -, -, -, -, -, -, hD8, -⟩
    have HD8 := Lib.hid (hD8.box api (manO a0 a1 a2 (.slice A2 n2 c2)))
    clear hD8 K
    go_wp2_with fail
    refine (HLN.out _).mono ?_
    rintro e w9 ⟨⟨b0, b1, b2, A3, n3, c3, rfl⟩, hb9⟩
    have hD9 := (HD8.out.below api hb9).box api (manO b0 b1 b2 (.slice A3 n3 c3))
    have hDX := hD9.box api (.cells #[.int .i64 0, .int .i64 0, .int .u64 0, .slice none 0 0] 26)
    have BX := Blok.new (w9.alloc (manO b0 b1 b2 (.slice A3 n3 c3))) 26 #[.int .i64 0, .int .i64 0, .int .u64 0, .slice none 0 0]
    have hDX2 := hD9.more api ((Below.refl _ _).alloc (Nat.le_refl _) (.cells #[.int .i64 0, .int .i64 0, .int .u64 0, .slice none 0 0] 26)) (B := [(w9.alloc (manO b0 b1 b2 (.slice A3 n3 c3))).heap.size]) (fun b hb => by rw [List.mem_singleton.1 hb, World.size_alloc (w := w9.alloc _)]; omega)
    rw [World.size_alloc] at BX hDX2
    obtain ⟨bx, hbx⟩ : ∃ bx, bx = w9.heap.size + 1 := ⟨_, rfl⟩
    obtain ⟨wx, hwx⟩ : ∃ wx, wx = (w9.alloc (manO b0 b1 b2 (.slice A3 n3 c3))).alloc (.cells #[.int .i64 0, .int .i64 0, .int .u64 0, .slice none 0 0] 26) := ⟨_, rfl⟩
    rw [← hbx] at BX hDX2
    rw [← hwx] at BX hDX2
    have HDX := Lib.hid hDX2
    have HBX := Lib.hid BX
    have HWX := Lib.hid hwx
    have HBXX := Lib.hid hbx
    clear hb9 hD9 hDX hDX2 BX hwx hbx HD8
    go_upto_region 14 with fail
    rw [← HWX.out, ← HBXX.out]
    clear HWX HBXX
    have z0 : wx.cell? ⟨bx, 0, none⟩ = some (.int .i64 0) := HBX.out.cell 0
    have z1 : wx.cell? ⟨bx, 1, none⟩ = some (.int .i64 0) := HBX.out.cell 1
    have z2 : wx.cell? ⟨bx, 2, none⟩ = some (.int .u64 0) := HBX.out.cell 2
    have z3 : wx.cell? ⟨bx, 3, none⟩ = some (.slice none 0 0) := HBX.out.cell 3
    have K := Lib.hid (HS3.out _ _ _ HDX.out)
    go_wp2_with fail
    refine K.out.mono ?_
    rintro e wy ⟨rfl, hDY, hKY⟩
    have BY := hKY.blok HBX.out (by simp)
    have K := Lib.hid (HC3.out _ _ _ hDY)
    have HBY := Lib.hid BY
    clear hDY hKY BY z0 z1 z2 z3 HBX HDX
    have z0 : wy.cell? ⟨bx, 0, none⟩ = some (.int .i64 0) := HBY.out.cell 0
    have z1 : wy.cell? ⟨bx, 1, none⟩ = some (.int .i64 0) := HBY.out.cell 1
    have z2 : wy.cell? ⟨bx, 2, none⟩ = some (.int .u64 0) := HBY.out.cell 2
    have z3 : wy.cell? ⟨bx, 3, none⟩ = some (.slice none 0 0) := HBY.out.cell 3
    go_wp2_with fail
    refine K.out.mono ?_
    rintro e wz ⟨rfl, hDZ, hKZ⟩
    have BZ := hKZ.blok HBY.out (by simp)
    have HBZ := Lib.hid BZ
    have HDZ := Lib.hid hDZ
    clear hDZ hKZ BZ z0 z1 z2 z3 HBY K
    have z0 : wz.cell? ⟨bx, 0, none⟩ = some (.int .i64 0) := HBZ.out.cell 0
    have z1 : wz.cell? ⟨bx, 1, none⟩ = some (.int .i64 0) := HBZ.out.cell 1
    have z2 : wz.cell? ⟨bx, 2, none⟩ = some (.int .u64 0) := HBZ.out.cell 2
    have z3 : wz.cell? ⟨bx, 3, none⟩ = some (.slice none 0 0) := HBZ.out.cell 3
    go_wp2_with fail
    refine (HSN.out _).mono ?_
    rintro e wu ⟨rfl, hbu⟩
    have BU := Lib.hid (mblok_below HBZ.out hbu)
    have DU := Lib.hid (bj HDZ.out.kept hbu)
    clear hbu z0 z1 z2 z3 HBZ HDZ
    have z0 : wu.cell? ⟨bx, 0, none⟩ = some (.int .i64 0) := BU.out.cell 0
    have z1 : wu.cell? ⟨bx, 1, none⟩ = some (.int .i64 0) := BU.out.cell 1
    have z2 : wu.cell? ⟨bx, 2, none⟩ = some (.int .u64 0) := BU.out.cell 2
    have z3 : wu.cell? ⟨bx, 3, none⟩ = some (.slice none 0 0) := BU.out.cell 3
    go_wp2_with fail
    refine (HCN.out _).mono ?_
    rintro e wv ⟨rfl, hbv⟩
    have BV := Lib.hid (mblok_below BU.out hbv)
    have DV := Lib.hid (bj DU.out hbv)
    clear hbv z0 z1 z2 z3 BU DU
    have z0 : wv.cell? ⟨bx, 0, none⟩ = some (.int .i64 0) := BV.out.cell 0
    have z1 : wv.cell? ⟨bx, 1, none⟩ = some (.int .i64 0) := BV.out.cell 1
    have z2 : wv.cell? ⟨bx, 2, none⟩ = some (.int .u64 0) := BV.out.cell 2
    have z3 : wv.cell? ⟨bx, 3, none⟩ = some (.slice none 0 0) := BV.out.cell 3
    go_wp2_with fail
    refine (HON.out _).mono ?_
    rintro e ww ⟨⟨A9, c9, rfl⟩, hbw⟩
    have DW := Lib.hid (bj DV.out hbw)
    clear hbw z0 z1 z2 z3 BV DV
    go_wp2_with fail
    refine (HM.out _).mono ?_
    rintro e wq ⟨rfl, hbq⟩
    have DQ := Lib.hid (bj DW.out hbq)
    clear hbq
    go_wp2
    go_ret
    exact ⟨rfl, bj HB1.out DQ.out⟩
  · obtain ⟨r1, r2⟩ := mf_yes hm
    rw [r1, r2] at hP
    rw [hsw] at hS
    obtain ⟨HCR, HL3, HS3, HC3⟩ := hdn _ ok0 rfl (Nat.zero_le _)
    have HOK := Lib.hid ok0
    clear okd ok0 hm hsw r1 r2
    generalize mfB ⟨x0, x1, x2, R⟩ = T at *
    have t1 : decide ((T.size : Int) ≤ (r : Int)) = false := decide_eq_false (by omega)
    have t1' : ¬ (T.size : Int) ≤ (r : Int) := by omega
    have HP := Lib.hid hP
    have HS := Lib.hid hS
    clear hP hS hdn
    go_wp2_with fail
    refine HNEW.out.mono ?_
    rintro e w2 ⟨g, rfl, hD2⟩
    obtain ⟨k0, k1, k2, k3⟩ := MC.out
    have d0 := mcell hD2.kept HLT.out k0
    have d1 := mcell hD2.kept HLT.out k1
    have d2 := mcell hD2.kept HLT.out k2
    have d3 := mcell hD2.kept HLT.out k3
    have KP := Lib.hid (HP.out w2 hD2.kept)
    have HD2 := Lib.hid hD2
    clear hD2 c3 k0 k1 k2 k3 HNEW HP
    go_wp2_with fail
    refine KP.out.mono ?_
    rintro e w3 ⟨rfl, hb3⟩
    have hD3 := HD2.out.below api hb3
    obtain ⟨k0, k1, k2, k3⟩ := MC.out
    have e0 := mcell hD3.kept HLT.out k0
    have e1 := mcell hD3.kept HLT.out k1
    have e2 := mcell hD3.kept HLT.out k2
    have e3 := mcell hD3.kept HLT.out k3
    have KS := Lib.hid (HS.out w3 g hD3)
    clear hD3 hb3 d0 d1 d2 d3 k0 k1 k2 k3 KP HS HD2 MC HLT
    go_wp2_with fail
    refine KS.out.mono ?_
    rintro e w4 ⟨rfl, hD4, -⟩
    have HD4 := Lib.hid hD4
    clear hD4 e0 e1 e2 e3 KS
    have KN := Lib.hid (HNMS.out _ HOK.out w4 g HD4.out)
    go_wp2_with fail
    refine KN.out.mono ?_
    rintro e w5 ⟨v5, B5, rfl, hv5, hD5, -, -⟩
    obtain ⟨A5, c5, rfl⟩ := hv5.shape
    have HD := Lib.hid (hD5.less (E' := []) (fun b hb => by cases hb))
    clear hv5 hD5 KN HD4
    go_wp2_with fail
    refine (HCR.out _ _ HD.out).mono ?_
    rintro e w7 ⟨rfl, hD7, -⟩
    have K := Lib.hid (HL3.out _ _ hD7)
    clear hD7 HD
    go_wp2_with fail
    refine K.out.mono ?_
    rintro e w8 ⟨a0, a1, a2, A2, n2, c2, R2, rfl, -, -, -, -, -, -, hD8, -⟩
    have HD8 := Lib.hid (hD8.box api (manO a0 a1 a2 (.slice A2 n2 c2)))
    clear hD8 K
    go_wp2_with fail
    refine (HLN.out _).mono ?_
    rintro e w9 ⟨⟨b0, b1, b2, A3, n3, c3, rfl⟩, hb9⟩
    have hD9 := (HD8.out.below api hb9).box api (manO b0 b1 b2 (.slice A3 n3 c3))
    have hDX := hD9.box api (.cells #[.int .i64 0, .int .i64 0, .int .u64 0, .slice none 0 0] 26)
    have BX := Blok.new (w9.alloc (manO b0 b1 b2 (.slice A3 n3 c3))) 26 #[.int .i64 0, .int .i64 0, .int .u64 0, .slice none 0 0]
    have hDX2 := hD9.more api ((Below.refl _ _).alloc (Nat.le_refl _) (.cells #[.int .i64 0, .int .i64 0, .int .u64 0, .slice none 0 0] 26)) (B := [(w9.alloc (manO b0 b1 b2 (.slice A3 n3 c3))).heap.size]) (fun b hb => by rw [List.mem_singleton.1 hb, World.size_alloc (w := w9.alloc _)]; omega)
    rw [World.size_alloc] at BX hDX2
    obtain ⟨bx, hbx⟩ : ∃ bx, bx = w9.heap.size + 1 := ⟨_, rfl⟩
    obtain ⟨wx, hwx⟩ : ∃ wx, wx = (w9.alloc (manO b0 b1 b2 (.slice A3 n3 c3))).alloc (.cells #[.int .i64 0, .int .i64 0, .int .u64 0, .slice none 0 0] 26) := ⟨_, rfl⟩
    rw [← hbx] at BX hDX2
    rw [← hwx] at BX hDX2
    have HDX := Lib.hid hDX2
    have HBX := Lib.hid BX
    have HWX := Lib.hid hwx
    have HBXX := Lib.hid hbx
    clear hb9 hD9 hDX hDX2 BX hwx hbx HD8
    go_upto_region 14 with fail
    rw [← HWX.out, ← HBXX.out]
    clear HWX HBXX
    have z0 : wx.cell? ⟨bx, 0, none⟩ = some (.int .i64 0) := HBX.out.cell 0
    have z1 : wx.cell? ⟨bx, 1, none⟩ = some (.int .i64 0) := HBX.out.cell 1
    have z2 : wx.cell? ⟨bx, 2, none⟩ = some (.int .u64 0) := HBX.out.cell 2
    have z3 : wx.cell? ⟨bx, 3, none⟩ = some (.slice none 0 0) := HBX.out.cell 3
    have K := Lib.hid (HS3.out _ _ _ HDX.out)
    go_wp2_with fail
    refine K.out.mono ?_
    rintro e wy ⟨rfl, hDY, hKY⟩
    have BY := hKY.blok HBX.out (by simp)
    have K := Lib.hid (HC3.out _ _ _ hDY)
    have HBY := Lib.hid BY
    clear hDY hKY BY z0 z1 z2 z3 HBX HDX
    have z0 : wy.cell? ⟨bx, 0, none⟩ = some (.int .i64 0) := HBY.out.cell 0
    have z1 : wy.cell? ⟨bx, 1, none⟩ = some (.int .i64 0) := HBY.out.cell 1
    have z2 : wy.cell? ⟨bx, 2, none⟩ = some (.int .u64 0) := HBY.out.cell 2
    have z3 : wy.cell? ⟨bx, 3, none⟩ = some (.slice none 0 0) := HBY.out.cell 3
    go_wp2_with fail
    refine K.out.mono ?_
    rintro e wz ⟨rfl, hDZ, hKZ⟩
    have BZ := hKZ.blok HBY.out (by simp)
    have HBZ := Lib.hid BZ
    have HDZ := Lib.hid hDZ
    clear hDZ hKZ BZ z0 z1 z2 z3 HBY K
    have z0 : wz.cell? ⟨bx, 0, none⟩ = some (.int .i64 0) := HBZ.out.cell 0
    have z1 : wz.cell? ⟨bx, 1, none⟩ = some (.int .i64 0) := HBZ.out.cell 1
    have z2 : wz.cell? ⟨bx, 2, none⟩ = some (.int .u64 0) := HBZ.out.cell 2
    have z3 : wz.cell? ⟨bx, 3, none⟩ = some (.slice none 0 0) := HBZ.out.cell 3
    go_wp2_with fail
    refine (HSN.out _).mono ?_
    rintro e wu ⟨rfl, hbu⟩
    have BU := Lib.hid (mblok_below HBZ.out hbu)
    have DU := Lib.hid (bj HDZ.out.kept hbu)
    clear hbu z0 z1 z2 z3 HBZ HDZ
    have z0 : wu.cell? ⟨bx, 0, none⟩ = some (.int .i64 0) := BU.out.cell 0
    have z1 : wu.cell? ⟨bx, 1, none⟩ = some (.int .i64 0) := BU.out.cell 1
    have z2 : wu.cell? ⟨bx, 2, none⟩ = some (.int .u64 0) := BU.out.cell 2
    have z3 : wu.cell? ⟨bx, 3, none⟩ = some (.slice none 0 0) := BU.out.cell 3
    go_wp2_with fail
    refine (HCN.out _).mono ?_
    rintro e wv ⟨rfl, hbv⟩
    have BV := Lib.hid (mblok_below BU.out hbv)
    have DV := Lib.hid (bj DU.out hbv)
    clear hbv z0 z1 z2 z3 BU DU
    have z0 : wv.cell? ⟨bx, 0, none⟩ = some (.int .i64 0) := BV.out.cell 0
    have z1 : wv.cell? ⟨bx, 1, none⟩ = some (.int .i64 0) := BV.out.cell 1
    have z2 : wv.cell? ⟨bx, 2, none⟩ = some (.int .u64 0) := BV.out.cell 2
    have z3 : wv.cell? ⟨bx, 3, none⟩ = some (.slice none 0 0) := BV.out.cell 3
    go_wp2_with fail
    refine (HON.out _).mono ?_
    rintro e ww ⟨⟨A9, c9, rfl⟩, hbw⟩
    have DW := Lib.hid (bj DV.out hbw)
    clear hbw z0 z1 z2 z3 BV DV
    go_wp2_with fail
    refine (HM.out _).mono ?_
    rintro e wq ⟨rfl, hbq⟩
    have DQ := Lib.hid (bj DW.out hbq)
    clear hbq
    go_wp2
    go_ret
    exact ⟨rfl, bj HB1.out DQ.out⟩
  · obtain ⟨r1, r2⟩ := mf_yes hm
    rw [r1, r2] at hP
    rw [hs1] at hS
    generalize hD1 : (swapP (newS (6000 + r)) ⟨x0, x1, x2, R⟩).2 = D1 at *
    obtain ⟨HCR, HL3, HS3, HC3⟩ := hdn D1 okd hs2 (by omega)
    have HOK := Lib.hid okd
    have HNL := Lib.hid hs3
    clear okd ok0 hm hs1 hs2 hs3 hs4 r1 r2 hD1
    generalize mfB ⟨x0, x1, x2, R⟩ = T at *
    have t1 : decide ((T.size : Int) ≤ (r : Int)) = true := decide_eq_true (by omega)
    have t1' : (T.size : Int) ≤ (r : Int) := by omega
    have HP := Lib.hid hP
    have HS := Lib.hid hS
    clear hP hS hdn
    go_wp2_with fail
    refine HNEW.out.mono ?_
    rintro e w2 ⟨g, rfl, hD2⟩
    obtain ⟨k0, k1, k2, k3⟩ := MC.out
    have d0 := mcell hD2.kept HLT.out k0
    have d1 := mcell hD2.kept HLT.out k1
    have d2 := mcell hD2.kept HLT.out k2
    have d3 := mcell hD2.kept HLT.out k3
    have KP := Lib.hid (HP.out w2 hD2.kept)
    have HD2 := Lib.hid hD2
    clear hD2 c3 k0 k1 k2 k3 HNEW HP
    go_wp2_with fail
    refine KP.out.mono ?_
    rintro e w3 ⟨rfl, hb3⟩
    have hD3 := HD2.out.below api hb3
    obtain ⟨k0, k1, k2, k3⟩ := MC.out
    have e0 := mcell hD3.kept HLT.out k0
    have e1 := mcell hD3.kept HLT.out k1
    have e2 := mcell hD3.kept HLT.out k2
    have e3 := mcell hD3.kept HLT.out k3
    have KS := Lib.hid (HS.out w3 g hD3)
    clear hD3 hb3 d0 d1 d2 d3 k0 k1 k2 k3 KP HS HD2 MC HLT
    go_wp2_with fail
    refine KS.out.mono ?_
    rintro e w4 ⟨rfl, hD4, -⟩
    have HD4 := Lib.hid hD4
    clear hD4 e0 e1 e2 e3 KS
    have KN := Lib.hid (HNMS.out _ HOK.out w4 g HD4.out)
    rw [HNL.out] at KN
    go_wp2_with fail
    refine KN.out.mono ?_
    rintro e w5 ⟨v5, B5, rfl, hv5, hD5, -, -⟩
    have hal := (Below.refl w5.heap.size w5).alloc (Nat.le_refl _) (.cells #[.string mapN] 9)
    have KM := ssame_any v5 (.slice (some ⟨w5.heap.size, 0, none⟩) 1 1) [mapN] [mapN] (w5.alloc (.cells #[.string mapN] 9)) (hv5.below hal (Nat.le_refl _)) (str_one w5 mapN)
    unfold LIntsSame at KM
    rw [decide_eq_true rfl] at KM
    obtain ⟨A5, c5, rfl⟩ := hv5.shape
    have HD := Lib.hid ((hD5.less (E' := []) (fun b hb => by cases hb)).box api (.cells #[.string mapN] 9))
    have K := Lib.hid KM
    clear hv5 hD5 KN HD4 hal KM
    go_wp2_with fail
    refine K.out.mono ?_
    rintro e w6 ⟨rfl, n6, rfl⟩
    have HD := Lib.hid (HD.out.drewN api n6)
    clear K
    go_wp2_with fail
    refine (HCR.out _ _ HD.out).mono ?_
    rintro e w7 ⟨rfl, hD7, -⟩
    have K := Lib.hid (HL3.out _ _ hD7)
    clear hD7 HD
    go_wp2_with fail
    refine K.out.mono ?_
    rintro e w8 ⟨a0, a1, a2, A2, n2, c2, R2, rfl, -, -, -, -, -, -, hD8, -⟩
    have HD8 := Lib.hid (hD8.box api (manO a0 a1 a2 (.slice A2 n2 c2)))
    clear hD8 K
    go_wp2_with fail
    refine (HLN.out _).mono ?_
    rintro e w9 ⟨⟨b0, b1, b2, A3, n3, c3, rfl⟩, hb9⟩
    have hD9 := (HD8.out.below api hb9).box api (manO b0 b1 b2 (.slice A3 n3 c3))
    have hDX := hD9.box api (.cells #[.int .i64 0, .int .i64 0, .int .u64 0, .slice none 0 0] 26)
    have BX := Blok.new (w9.alloc (manO b0 b1 b2 (.slice A3 n3 c3))) 26 #[.int .i64 0, .int .i64 0, .int .u64 0, .slice none 0 0]
    have hDX2 := hD9.more api ((Below.refl _ _).alloc (Nat.le_refl _) (.cells #[.int .i64 0, .int .i64 0, .int .u64 0, .slice none 0 0] 26)) (B := [(w9.alloc (manO b0 b1 b2 (.slice A3 n3 c3))).heap.size]) (fun b hb => by rw [List.mem_singleton.1 hb, World.size_alloc (w := w9.alloc _)]; omega)
    rw [World.size_alloc] at BX hDX2
    obtain ⟨bx, hbx⟩ : ∃ bx, bx = w9.heap.size + 1 := ⟨_, rfl⟩
    obtain ⟨wx, hwx⟩ : ∃ wx, wx = (w9.alloc (manO b0 b1 b2 (.slice A3 n3 c3))).alloc (.cells #[.int .i64 0, .int .i64 0, .int .u64 0, .slice none 0 0] 26) := ⟨_, rfl⟩
    rw [← hbx] at BX hDX2
    rw [← hwx] at BX hDX2
    have HDX := Lib.hid hDX2
    have HBX := Lib.hid BX
    have HWX := Lib.hid hwx
    have HBXX := Lib.hid hbx
    clear hb9 hD9 hDX hDX2 BX hwx hbx HD8
    go_upto_region 14 with fail
    rw [← HWX.out, ← HBXX.out]
    clear HWX HBXX
    have z0 : wx.cell? ⟨bx, 0, none⟩ = some (.int .i64 0) := HBX.out.cell 0
    have z1 : wx.cell? ⟨bx, 1, none⟩ = some (.int .i64 0) := HBX.out.cell 1
    have z2 : wx.cell? ⟨bx, 2, none⟩ = some (.int .u64 0) := HBX.out.cell 2
    have z3 : wx.cell? ⟨bx, 3, none⟩ = some (.slice none 0 0) := HBX.out.cell 3
    have K := Lib.hid (HS3.out _ _ _ HDX.out)
    go_wp2_with fail
    refine K.out.mono ?_
    rintro e wy ⟨rfl, hDY, hKY⟩
    have BY := hKY.blok HBX.out (by simp)
    have K := Lib.hid (HC3.out _ _ _ hDY)
    have HBY := Lib.hid BY
    clear hDY hKY BY z0 z1 z2 z3 HBX HDX
    have z0 : wy.cell? ⟨bx, 0, none⟩ = some (.int .i64 0) := HBY.out.cell 0
    have z1 : wy.cell? ⟨bx, 1, none⟩ = some (.int .i64 0) := HBY.out.cell 1
    have z2 : wy.cell? ⟨bx, 2, none⟩ = some (.int .u64 0) := HBY.out.cell 2
    have z3 : wy.cell? ⟨bx, 3, none⟩ = some (.slice none 0 0) := HBY.out.cell 3
    go_wp2_with fail
    refine K.out.mono ?_
    rintro e wz ⟨rfl, hDZ, hKZ⟩
    have BZ := hKZ.blok HBY.out (by simp)
    have HBZ := Lib.hid BZ
    have HDZ := Lib.hid hDZ
    clear hDZ hKZ BZ z0 z1 z2 z3 HBY K
    have z0 : wz.cell? ⟨bx, 0, none⟩ = some (.int .i64 0) := HBZ.out.cell 0
    have z1 : wz.cell? ⟨bx, 1, none⟩ = some (.int .i64 0) := HBZ.out.cell 1
    have z2 : wz.cell? ⟨bx, 2, none⟩ = some (.int .u64 0) := HBZ.out.cell 2
    have z3 : wz.cell? ⟨bx, 3, none⟩ = some (.slice none 0 0) := HBZ.out.cell 3
    go_wp2_with fail
    refine (HSN.out _).mono ?_
    rintro e wu ⟨rfl, hbu⟩
    have BU := Lib.hid (mblok_below HBZ.out hbu)
    have DU := Lib.hid (bj HDZ.out.kept hbu)
    clear hbu z0 z1 z2 z3 HBZ HDZ
    have z0 : wu.cell? ⟨bx, 0, none⟩ = some (.int .i64 0) := BU.out.cell 0
    have z1 : wu.cell? ⟨bx, 1, none⟩ = some (.int .i64 0) := BU.out.cell 1
    have z2 : wu.cell? ⟨bx, 2, none⟩ = some (.int .u64 0) := BU.out.cell 2
    have z3 : wu.cell? ⟨bx, 3, none⟩ = some (.slice none 0 0) := BU.out.cell 3
    go_wp2_with fail
    refine (HCN.out _).mono ?_
    rintro e wv ⟨rfl, hbv⟩
    have BV := Lib.hid (mblok_below BU.out hbv)
    have DV := Lib.hid (bj DU.out hbv)
    clear hbv z0 z1 z2 z3 BU DU
    have z0 : wv.cell? ⟨bx, 0, none⟩ = some (.int .i64 0) := BV.out.cell 0
    have z1 : wv.cell? ⟨bx, 1, none⟩ = some (.int .i64 0) := BV.out.cell 1
    have z2 : wv.cell? ⟨bx, 2, none⟩ = some (.int .u64 0) := BV.out.cell 2
    have z3 : wv.cell? ⟨bx, 3, none⟩ = some (.slice none 0 0) := BV.out.cell 3
    go_wp2_with fail
    refine (HON.out _).mono ?_
    rintro e ww ⟨⟨A9, c9, rfl⟩, hbw⟩
    have DW := Lib.hid (bj DV.out hbw)
    clear hbw z0 z1 z2 z3 BV DV
    go_wp2_with fail
    refine (HM.out _).mono ?_
    rintro e wq ⟨rfl, hbq⟩
    have DQ := Lib.hid (bj DW.out hbq)
    clear hbq
    go_wp2
    go_ret
    exact ⟨rfl, bj HB1.out DQ.out⟩
end
end ImRefused
end Go.Proofs.YtbhgngimebecdaaGreat
