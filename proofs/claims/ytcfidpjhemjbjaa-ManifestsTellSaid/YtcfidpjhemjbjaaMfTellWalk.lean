/- The walk of ManifestsTell. -/
import Derived.Test.YtcfidpjhemjbjaaMfIn
import Derived.Test.YtcfidpjhemjbjaaMfEx
import Derived.Test.YtcfidpjhemjbjaaMfGetRef
import Derived.Deep.RegionHeld3
namespace Go.Proofs.Ytcfidpjhemjbjaa
open Go.RowKit Go.Shelf
set_option linter.unusedVariables false
set_option maxRecDepth 100000

namespace MfTell
set_option maxHeartbeats 4000000 in
theorem walk (W : World) (v0 v1 : Value) (s : ByteArray) (wx0 : ManIn W v0) (wx1 : ManIn W v1) (w2 : s.size ≤ maxLen) :
    Calls Try.prog 3 #[v0, v1, .string s] W fun e w' => e = .returned (.bool true) ∧ Below W.heap.size W w' := by
  obtain ⟨x0, x1, x2, A, k, cp, R, rfl, hk, hR, hx2, -⟩ := wx0
  obtain ⟨y0, y1, y2, B, l, lp, Q, rfl, hl, hQ, hy2, -⟩ := wx1
  have hb0 : Below W.heap.size W ((W.alloc (manO x0 x1 x2 (.slice A k cp))).alloc (manO y0 y1 y2 (.slice B l lp))) := ((Below.refl _ _).alloc (Nat.le_refl _) _).alloc (by simp) _
  have bm := (Blok.new W 25 #[.int .i64 x0, .int .i64 x1, .int .u64 (x2 : Nat), .slice A k cp]).alloc (manO y0 y1 y2 (.slice B l lp))
  have bn := Blok.new (W.alloc (manO x0 x1 x2 (.slice A k cp))) 25 #[.int .i64 y0, .int .i64 y1, .int .u64 (y2 : Nat), .slice B l lp]
  rw [World.size_alloc] at bn
  obtain ⟨wa, hwa⟩ : ∃ wa, wa = (W.alloc (manO x0 x1 x2 (.slice A k cp))).alloc (manO y0 y1 y2 (.slice B l lp)) := ⟨_, rfl⟩
  have hRa := hR.below hb0 (Nat.le_refl _)
  have hQa := hQ.below hb0 (Nat.le_refl _)
  rw [← hwa] at hb0 bm bn hRa hQa
  have HB0 := Lib.hid hb0
  have HBM := Lib.hid bm
  have HBN := Lib.hid bn
  have HR := Lib.hid hRa
  have HQ := Lib.hid hQa
  have HWA := Lib.hid hwa
  have HG1 := Lib.hid (lgreat_any (.slice A k cp) R wa hRa)
  have HG2 := Lib.hid (lgreat_any (.slice B l lp) Q wa hQa)
  have HS := Lib.hid sealed_true
  have HK := Lib.hid hk
  have HL := Lib.hid hl
  have HX2 := Lib.hid hx2
  have HY2 := Lib.hid hy2
  obtain ⟨m0, m1, m2, m3⟩ : wa.cell? ⟨W.heap.size, 0, none⟩ = some (.int .i64 x0) ∧ wa.cell? ⟨W.heap.size, 1, none⟩ = some (.int .i64 x1) ∧ wa.cell? ⟨W.heap.size, 2, none⟩ = some (.int .u64 (x2 : Nat)) ∧ wa.cell? ⟨W.heap.size, 3, none⟩ = some (.slice A k cp) := ⟨bm.cell 0, bm.cell 1, bm.cell 2, bm.cell 3⟩
  have n3 : wa.cell? ⟨W.heap.size + 1, 3, none⟩ = some (.slice B l lp) := bn.cell 3
  have MC := Lib.hid (And.intro m0 (And.intro m1 (And.intro m2 m3)))
  have N3 := Lib.hid n3
  unfold manV
  unfold MfTrueEnd at HS
  unfold LvGreatEnd at HG1 HG2
  unfold maxLen at w2
  clear w2
  clear hb0 bm bn hR hQ hRa hQa hk hl hx2 hy2 hwa m0 m1 m2 m3 n3
  go_enter Try.func3, Try.ntmps3
  go_upto_region 1 with fail
  rw [← HWA.out]
  clear HWA
  obtain ⟨m0, m1, m2, m3⟩ := MC.out
  have n3 := N3.out
  go_wp2_with fail
  refine HG1.out.mono ?_
  rintro e wx ⟨q, rfl, hwx, hq1⟩
  obtain rfl : wa = wx := hwx.symm
  cases q with
  | true =>
    clear hq1 HG1 HG2
    go_wp2_with fail
    refine (HS.out _).mono ?_
    rintro e w3 ⟨rfl, hb3⟩
    have HB3 := Lib.hid hb3
    clear hb3
    go_wp2
    go_ret
    exact ⟨rfl, bj HB0.out HB3.out⟩
  | false =>
  have HF1 := Lib.hid (hq1 rfl)
  clear hq1 HG1
  go_wp2_with fail
  refine HG2.out.mono ?_
  rintro e wx ⟨q, rfl, hwx, hq2⟩
  obtain rfl : wa = wx := hwx.symm
  cases q with
  | true =>
    clear hq2 HG2
    go_wp2_with fail
    refine (HS.out _).mono ?_
    rintro e w3 ⟨rfl, hb3⟩
    have HB3 := Lib.hid hb3
    clear hb3
    go_wp2
    go_ret
    exact ⟨rfl, bj HB0.out HB3.out⟩
  | false =>
  have HF2 := Lib.hid (hq2 rfl)
  clear hq2 HG2
  by_cases hz : 1000 < s.size
  case pos =>
    have t1 : (1000 : Int) < (s.size : Int) := by omega
    go_wp2_with fail
    refine (HS.out _).mono ?_
    rintro e w3 ⟨rfl, hb3⟩
    have HB3 := Lib.hid hb3
    clear hb3
    go_wp2
    go_ret
    exact ⟨rfl, bj HB0.out HB3.out⟩
  have t1 : ¬ (1000 : Int) < (s.size : Int) := by omega
  have t1' : decide ((1000 : Int) < (s.size : Int)) = false := decide_eq_false t1
  have fl1 := few_flat HF1.out
  have fl2 := few_flat HF2.out
  have ll1 : R.length ≤ 10 := HF1.out.1
  have ll2 : Q.length ≤ 10 := HF2.out.1
  have HFL := Lib.hid (And.intro fl1 (And.intro fl2 (And.intro ll1 ll2)))
  have HP := Lib.hid (mput_any x0 x1 x2 A k cp R wa HR.out HK.out (by omega) (by omega) HX2.out)
  have HPR := Lib.hid (fun W' (h : Below wa.heap.size wa W') => mputr_any x0 x1 x2 A k cp R W' (HR.out.below h (Nat.le_refl _)) HK.out (by omega) (by omega) HX2.out)
  have HGE := Lib.hid (fun W' => mget_any s W' (by omega))
  have HGR := Lib.hid (fun W' => mgetr_any s W' (by omega))
  unfold MfPutEnd manV at HP HPR
  unfold MfGetEnd manV at HGE HGR
  obtain ⟨s1, s2, s3⟩ := ctxt_eq (rfl : mfS ⟨x0, x1, x2, R⟩ = mfS ⟨x0, x1, x2, R⟩)
  have e0 : (mfE ⟨x0, x1, x2, R⟩ == mfE ⟨x0, x1, x2, R⟩) = true := by simp
  have e1 : (mgE s == mgE s) = true := by simp
  generalize mfS ⟨x0, x1, x2, R⟩ = T at *
  generalize mfE ⟨x0, x1, x2, R⟩ = E at *
  generalize hmg : mgE s = E2 at *
  clear hmg hz fl1 fl2 ll1 ll2 HF1 HF2
  go_wp2_with fail
  refine HP.out.mono ?_
  rintro e w3 ⟨rfl, hb3⟩
  have HB3 := Lib.hid hb3
  have d := mblok_below HBM.out hb3
  have p0 : w3.cell? ⟨W.heap.size, 0, none⟩ = some (.int .i64 x0) := d.cell 0
  have p1 : w3.cell? ⟨W.heap.size, 1, none⟩ = some (.int .i64 x1) := d.cell 1
  have p2 : w3.cell? ⟨W.heap.size, 2, none⟩ = some (.int .u64 (x2 : Nat)) := d.cell 2
  have p3 : w3.cell? ⟨W.heap.size, 3, none⟩ = some (.slice A k cp) := d.cell 3
  clear hb3 d m0 m1 m2 m3 n3 HP
  go_wp2_with fail
  refine (HPR.out _ HB3.out).mono ?_
  rintro e w4 ⟨rfl, hb4⟩
  have HB4 := Lib.hid (bj HB3.out hb4)
  clear hb4 p0 p1 p2 p3 HPR
  go_wp2_with fail
  refine (HGE.out _).mono ?_
  rintro e w5 ⟨c0, c1, c2, C, i, ip, P, rfl, hmg1, hi, hnew1, hb5, hc2, hfc, hlc⟩
  have hh1 := hnew1.has
  have HN1 := Lib.hid (hh1.below ((Below.refl w5.heap.size w5).alloc (Nat.le_refl _) (manO c0 c1 c2 (.slice C i ip))) (Nat.le_refl _))
  have HBC := Lib.hid (Blok.new w5 25 #[.int .i64 c0, .int .i64 c1, .int .u64 (c2 : Nat), .slice C i ip])
  have HB5 := Lib.hid (show Below wa.heap.size wa (w5.alloc (manO c0 c1 c2 (.slice C i ip))) from (bj HB4.out hb5).alloc (bj HB4.out hb5).size _)
  obtain ⟨gc, hgc⟩ : ∃ gc, gc = w5.heap.size := ⟨_, rfl⟩
  obtain ⟨w6, hw6⟩ : ∃ w6, w6 = w5.alloc (manO c0 c1 c2 (.slice C i ip)) := ⟨_, rfl⟩
  rw [← hw6] at HN1 HBC HB5
  rw [← hgc] at HBC
  have HGC := Lib.hid hgc
  have HW6 := Lib.hid hw6
  have HI := Lib.hid hi
  have HMG := Lib.hid hmg1
  have HFC := Lib.hid (And.intro hfc hlc)
  clear hnew1 hb5 hh1 hgc hw6 hi hmg1 hfc hlc hc2 HGE
  go_upto_region 6 with fail
  rw [← HW6.out, ← HGC.out]
  clear HW6 HGC
  go_wp2_with fail
  refine (HGR.out _).mono ?_
  rintro e w7 ⟨d0, d1, d2, D, j, jp, P2, rfl, hmg2, hj, hnew2, hb7, hd2, hfd, hld⟩
  have hh2 := hnew2.has
  have HN2 := Lib.hid (hh2.below ((Below.refl w7.heap.size w7).alloc (Nat.le_refl _) (manO d0 d1 d2 (.slice D j jp))) (Nat.le_refl _))
  have HN1' := Lib.hid (HN1.out.below (hb7.alloc hb7.size (manO d0 d1 d2 (.slice D j jp))) (Nat.le_refl _))
  have HBC2 := Lib.hid ((mblok_below HBC.out hb7).alloc (manO d0 d1 d2 (.slice D j jp)))
  have HBD := Lib.hid (Blok.new w7 25 #[.int .i64 d0, .int .i64 d1, .int .u64 (d2 : Nat), .slice D j jp])
  have HB7 := Lib.hid (show Below wa.heap.size wa (w7.alloc (manO d0 d1 d2 (.slice D j jp))) from (bj HB5.out hb7).alloc (bj HB5.out hb7).size _)
  obtain ⟨gd, hgd⟩ : ∃ gd, gd = w7.heap.size := ⟨_, rfl⟩
  obtain ⟨wd, hwd⟩ : ∃ wd, wd = w7.alloc (manO d0 d1 d2 (.slice D j jp)) := ⟨_, rfl⟩
  rw [← hwd] at HN2 HN1' HBC2 HBD HB7
  rw [← hgd] at HBD
  have HGD := Lib.hid hgd
  have HWD := Lib.hid hwd
  have HSM : Hid (sameM ⟨c0, c1, c2, P⟩ ⟨d0, d1, d2, P2⟩ = true) := Lib.hid (by rw [← HMG.out, ← hmg2]; exact sameM_self _)
  have HJ := Lib.hid hj
  have HFD := Lib.hid (And.intro hfd hld)
  clear hnew2 hb7 hh2 hgd hwd hj hmg2 hfd hld hd2 HGR HN1 HBC
  go_upto_region 7 with fail
  rw [← HWD.out, ← HGD.out]
  clear HWD HGD
  have zm := mblok_below HBM.out HB7.out
  have zn := mblok_below HBN.out HB7.out
  have hRd := HR.out.below HB7.out (Nat.le_refl _)
  have hQd := HQ.out.below HB7.out (Nat.le_refl _)
  have m0z : wd.cell? ⟨W.heap.size, 0, none⟩ = some (.int .i64 x0) := zm.cell 0
  have m1z : wd.cell? ⟨W.heap.size, 1, none⟩ = some (.int .i64 x1) := zm.cell 1
  have m2z : wd.cell? ⟨W.heap.size, 2, none⟩ = some (.int .u64 (x2 : Nat)) := zm.cell 2
  have m3z : wd.cell? ⟨W.heap.size, 3, none⟩ = some ((.slice A k cp)) := zm.cell 3
  have mlt : W.heap.size < wd.heap.size := zm.lt
  have n0z : wd.cell? ⟨W.heap.size + 1, 0, none⟩ = some (.int .i64 y0) := zn.cell 0
  have n1z : wd.cell? ⟨W.heap.size + 1, 1, none⟩ = some (.int .i64 y1) := zn.cell 1
  have n2z : wd.cell? ⟨W.heap.size + 1, 2, none⟩ = some (.int .u64 (y2 : Nat)) := zn.cell 2
  have n3z : wd.cell? ⟨W.heap.size + 1, 3, none⟩ = some ((.slice B l lp)) := zn.cell 3
  have nlt : W.heap.size + 1 < wd.heap.size := zn.lt
  have c0z : wd.cell? ⟨gc, 0, none⟩ = some (.int .i64 c0) := HBC2.out.cell 0
  have c1z : wd.cell? ⟨gc, 1, none⟩ = some (.int .i64 c1) := HBC2.out.cell 1
  have c2z : wd.cell? ⟨gc, 2, none⟩ = some (.int .u64 (c2 : Nat)) := HBC2.out.cell 2
  have c3z : wd.cell? ⟨gc, 3, none⟩ = some ((.slice C i ip)) := HBC2.out.cell 3
  have clt : gc < wd.heap.size := HBC2.out.lt
  have d0z : wd.cell? ⟨gd, 0, none⟩ = some (.int .i64 d0) := HBD.out.cell 0
  have d1z : wd.cell? ⟨gd, 1, none⟩ = some (.int .i64 d1) := HBD.out.cell 1
  have d2z : wd.cell? ⟨gd, 2, none⟩ = some (.int .u64 (d2 : Nat)) := HBD.out.cell 2
  have d3z : wd.cell? ⟨gd, 3, none⟩ = some ((.slice D j jp)) := HBD.out.cell 3
  have dlt : gd < wd.heap.size := HBD.out.lt
  have HST : Hid (∀ W', Below wd.heap.size wd W' → Below wd.heap.size wd W' ∧ W'.cell? ⟨W.heap.size, 0, none⟩ = some (.int .i64 x0) ∧ W'.cell? ⟨W.heap.size, 1, none⟩ = some (.int .i64 x1) ∧ W'.cell? ⟨W.heap.size, 2, none⟩ = some (.int .u64 (x2 : Nat)) ∧ W'.cell? ⟨W.heap.size, 3, none⟩ = some ((.slice A k cp)) ∧ W'.cell? ⟨W.heap.size + 1, 0, none⟩ = some (.int .i64 y0) ∧ W'.cell? ⟨W.heap.size + 1, 1, none⟩ = some (.int .i64 y1) ∧ W'.cell? ⟨W.heap.size + 1, 2, none⟩ = some (.int .u64 (y2 : Nat)) ∧ W'.cell? ⟨W.heap.size + 1, 3, none⟩ = some ((.slice B l lp)) ∧ W'.cell? ⟨gc, 0, none⟩ = some (.int .i64 c0) ∧ W'.cell? ⟨gc, 1, none⟩ = some (.int .i64 c1) ∧ W'.cell? ⟨gc, 2, none⟩ = some (.int .u64 (c2 : Nat)) ∧ W'.cell? ⟨gc, 3, none⟩ = some ((.slice C i ip)) ∧ W'.cell? ⟨gd, 0, none⟩ = some (.int .i64 d0) ∧ W'.cell? ⟨gd, 1, none⟩ = some (.int .i64 d1) ∧ W'.cell? ⟨gd, 2, none⟩ = some (.int .u64 (d2 : Nat)) ∧ W'.cell? ⟨gd, 3, none⟩ = some ((.slice D j jp))) := Lib.hid fun W' hW => ⟨hW, mcell hW mlt m0z, mcell hW mlt m1z, mcell hW mlt m2z, mcell hW mlt m3z, mcell hW nlt n0z, mcell hW nlt n1z, mcell hW nlt n2z, mcell hW nlt n3z, mcell hW clt c0z, mcell hW clt c1z, mcell hW clt c2z, mcell hW clt c3z, mcell hW dlt d0z, mcell hW dlt d1z, mcell hW dlt d2z, mcell hW dlt d3z⟩
  have HFLm := HFL.out
  have hq : sameM ⟨x0, x1, x2, R⟩ ⟨y0, y1, y2, Q⟩ = sameM ⟨x0, x1, x2, R⟩ ⟨y0, y1, y2, Q⟩ := rfl
  have K1 := Lib.hid fun W' (h : Below wd.heap.size wd W' ∧ W'.cell? ⟨W.heap.size, 0, none⟩ = some (.int .i64 x0) ∧ W'.cell? ⟨W.heap.size, 1, none⟩ = some (.int .i64 x1) ∧ W'.cell? ⟨W.heap.size, 2, none⟩ = some (.int .u64 (x2 : Nat)) ∧ W'.cell? ⟨W.heap.size, 3, none⟩ = some ((.slice A k cp)) ∧ W'.cell? ⟨W.heap.size + 1, 0, none⟩ = some (.int .i64 y0) ∧ W'.cell? ⟨W.heap.size + 1, 1, none⟩ = some (.int .i64 y1) ∧ W'.cell? ⟨W.heap.size + 1, 2, none⟩ = some (.int .u64 (y2 : Nat)) ∧ W'.cell? ⟨W.heap.size + 1, 3, none⟩ = some ((.slice B l lp)) ∧ W'.cell? ⟨gc, 0, none⟩ = some (.int .i64 c0) ∧ W'.cell? ⟨gc, 1, none⟩ = some (.int .i64 c1) ∧ W'.cell? ⟨gc, 2, none⟩ = some (.int .u64 (c2 : Nat)) ∧ W'.cell? ⟨gc, 3, none⟩ = some ((.slice C i ip)) ∧ W'.cell? ⟨gd, 0, none⟩ = some (.int .i64 d0) ∧ W'.cell? ⟨gd, 1, none⟩ = some (.int .i64 d1) ∧ W'.cell? ⟨gd, 2, none⟩ = some (.int .u64 (d2 : Nat)) ∧ W'.cell? ⟨gd, 3, none⟩ = some ((.slice D j jp))) => (msamel_any c0 c1 c2 C i ip P d0 d1 d2 D j jp P2 W' (HN1'.out.below h.1 (Nat.le_refl _)) (HN2.out.below h.1 (Nat.le_refl _)) HI.out HJ.out (by rw [HI.out]; have := HFC.out.2; omega) (by rw [HJ.out]; have := HFD.out.2; omega)).mono fun e w' hr => (⟨hr.1, HST.out w' (bj h.1 hr.2)⟩ : _ ∧ (Below wd.heap.size wd w' ∧ w'.cell? ⟨W.heap.size, 0, none⟩ = some (.int .i64 x0) ∧ w'.cell? ⟨W.heap.size, 1, none⟩ = some (.int .i64 x1) ∧ w'.cell? ⟨W.heap.size, 2, none⟩ = some (.int .u64 (x2 : Nat)) ∧ w'.cell? ⟨W.heap.size, 3, none⟩ = some ((.slice A k cp)) ∧ w'.cell? ⟨W.heap.size + 1, 0, none⟩ = some (.int .i64 y0) ∧ w'.cell? ⟨W.heap.size + 1, 1, none⟩ = some (.int .i64 y1) ∧ w'.cell? ⟨W.heap.size + 1, 2, none⟩ = some (.int .u64 (y2 : Nat)) ∧ w'.cell? ⟨W.heap.size + 1, 3, none⟩ = some ((.slice B l lp)) ∧ w'.cell? ⟨gc, 0, none⟩ = some (.int .i64 c0) ∧ w'.cell? ⟨gc, 1, none⟩ = some (.int .i64 c1) ∧ w'.cell? ⟨gc, 2, none⟩ = some (.int .u64 (c2 : Nat)) ∧ w'.cell? ⟨gc, 3, none⟩ = some ((.slice C i ip)) ∧ w'.cell? ⟨gd, 0, none⟩ = some (.int .i64 d0) ∧ w'.cell? ⟨gd, 1, none⟩ = some (.int .i64 d1) ∧ w'.cell? ⟨gd, 2, none⟩ = some (.int .u64 (d2 : Nat)) ∧ w'.cell? ⟨gd, 3, none⟩ = some ((.slice D j jp))))
  have K2 := Lib.hid fun W' (h : Below wd.heap.size wd W' ∧ W'.cell? ⟨W.heap.size, 0, none⟩ = some (.int .i64 x0) ∧ W'.cell? ⟨W.heap.size, 1, none⟩ = some (.int .i64 x1) ∧ W'.cell? ⟨W.heap.size, 2, none⟩ = some (.int .u64 (x2 : Nat)) ∧ W'.cell? ⟨W.heap.size, 3, none⟩ = some ((.slice A k cp)) ∧ W'.cell? ⟨W.heap.size + 1, 0, none⟩ = some (.int .i64 y0) ∧ W'.cell? ⟨W.heap.size + 1, 1, none⟩ = some (.int .i64 y1) ∧ W'.cell? ⟨W.heap.size + 1, 2, none⟩ = some (.int .u64 (y2 : Nat)) ∧ W'.cell? ⟨W.heap.size + 1, 3, none⟩ = some ((.slice B l lp)) ∧ W'.cell? ⟨gc, 0, none⟩ = some (.int .i64 c0) ∧ W'.cell? ⟨gc, 1, none⟩ = some (.int .i64 c1) ∧ W'.cell? ⟨gc, 2, none⟩ = some (.int .u64 (c2 : Nat)) ∧ W'.cell? ⟨gc, 3, none⟩ = some ((.slice C i ip)) ∧ W'.cell? ⟨gd, 0, none⟩ = some (.int .i64 d0) ∧ W'.cell? ⟨gd, 1, none⟩ = some (.int .i64 d1) ∧ W'.cell? ⟨gd, 2, none⟩ = some (.int .u64 (d2 : Nat)) ∧ W'.cell? ⟨gd, 3, none⟩ = some ((.slice D j jp))) => (mval_any x0 x1 x2 A k cp R W' (hRd.below h.1 (Nat.le_refl _)) (by omega) (by omega)).mono fun e w' hr => (⟨hr.1, HST.out w' (bj h.1 hr.2)⟩ : _ ∧ (Below wd.heap.size wd w' ∧ w'.cell? ⟨W.heap.size, 0, none⟩ = some (.int .i64 x0) ∧ w'.cell? ⟨W.heap.size, 1, none⟩ = some (.int .i64 x1) ∧ w'.cell? ⟨W.heap.size, 2, none⟩ = some (.int .u64 (x2 : Nat)) ∧ w'.cell? ⟨W.heap.size, 3, none⟩ = some ((.slice A k cp)) ∧ w'.cell? ⟨W.heap.size + 1, 0, none⟩ = some (.int .i64 y0) ∧ w'.cell? ⟨W.heap.size + 1, 1, none⟩ = some (.int .i64 y1) ∧ w'.cell? ⟨W.heap.size + 1, 2, none⟩ = some (.int .u64 (y2 : Nat)) ∧ w'.cell? ⟨W.heap.size + 1, 3, none⟩ = some ((.slice B l lp)) ∧ w'.cell? ⟨gc, 0, none⟩ = some (.int .i64 c0) ∧ w'.cell? ⟨gc, 1, none⟩ = some (.int .i64 c1) ∧ w'.cell? ⟨gc, 2, none⟩ = some (.int .u64 (c2 : Nat)) ∧ w'.cell? ⟨gc, 3, none⟩ = some ((.slice C i ip)) ∧ w'.cell? ⟨gd, 0, none⟩ = some (.int .i64 d0) ∧ w'.cell? ⟨gd, 1, none⟩ = some (.int .i64 d1) ∧ w'.cell? ⟨gd, 2, none⟩ = some (.int .u64 (d2 : Nat)) ∧ w'.cell? ⟨gd, 3, none⟩ = some ((.slice D j jp))))
  have K3 := Lib.hid fun W' (h : Below wd.heap.size wd W' ∧ W'.cell? ⟨W.heap.size, 0, none⟩ = some (.int .i64 x0) ∧ W'.cell? ⟨W.heap.size, 1, none⟩ = some (.int .i64 x1) ∧ W'.cell? ⟨W.heap.size, 2, none⟩ = some (.int .u64 (x2 : Nat)) ∧ W'.cell? ⟨W.heap.size, 3, none⟩ = some ((.slice A k cp)) ∧ W'.cell? ⟨W.heap.size + 1, 0, none⟩ = some (.int .i64 y0) ∧ W'.cell? ⟨W.heap.size + 1, 1, none⟩ = some (.int .i64 y1) ∧ W'.cell? ⟨W.heap.size + 1, 2, none⟩ = some (.int .u64 (y2 : Nat)) ∧ W'.cell? ⟨W.heap.size + 1, 3, none⟩ = some ((.slice B l lp)) ∧ W'.cell? ⟨gc, 0, none⟩ = some (.int .i64 c0) ∧ W'.cell? ⟨gc, 1, none⟩ = some (.int .i64 c1) ∧ W'.cell? ⟨gc, 2, none⟩ = some (.int .u64 (c2 : Nat)) ∧ W'.cell? ⟨gc, 3, none⟩ = some ((.slice C i ip)) ∧ W'.cell? ⟨gd, 0, none⟩ = some (.int .i64 d0) ∧ W'.cell? ⟨gd, 1, none⟩ = some (.int .i64 d1) ∧ W'.cell? ⟨gd, 2, none⟩ = some (.int .u64 (d2 : Nat)) ∧ W'.cell? ⟨gd, 3, none⟩ = some ((.slice D j jp))) => (mvalr_any x0 x1 x2 A k cp R W' (hRd.below h.1 (Nat.le_refl _)) (by omega) (by omega)).mono fun e w' hr => (⟨hr.1, HST.out w' (bj h.1 hr.2)⟩ : _ ∧ (Below wd.heap.size wd w' ∧ w'.cell? ⟨W.heap.size, 0, none⟩ = some (.int .i64 x0) ∧ w'.cell? ⟨W.heap.size, 1, none⟩ = some (.int .i64 x1) ∧ w'.cell? ⟨W.heap.size, 2, none⟩ = some (.int .u64 (x2 : Nat)) ∧ w'.cell? ⟨W.heap.size, 3, none⟩ = some ((.slice A k cp)) ∧ w'.cell? ⟨W.heap.size + 1, 0, none⟩ = some (.int .i64 y0) ∧ w'.cell? ⟨W.heap.size + 1, 1, none⟩ = some (.int .i64 y1) ∧ w'.cell? ⟨W.heap.size + 1, 2, none⟩ = some (.int .u64 (y2 : Nat)) ∧ w'.cell? ⟨W.heap.size + 1, 3, none⟩ = some ((.slice B l lp)) ∧ w'.cell? ⟨gc, 0, none⟩ = some (.int .i64 c0) ∧ w'.cell? ⟨gc, 1, none⟩ = some (.int .i64 c1) ∧ w'.cell? ⟨gc, 2, none⟩ = some (.int .u64 (c2 : Nat)) ∧ w'.cell? ⟨gc, 3, none⟩ = some ((.slice C i ip)) ∧ w'.cell? ⟨gd, 0, none⟩ = some (.int .i64 d0) ∧ w'.cell? ⟨gd, 1, none⟩ = some (.int .i64 d1) ∧ w'.cell? ⟨gd, 2, none⟩ = some (.int .u64 (d2 : Nat)) ∧ w'.cell? ⟨gd, 3, none⟩ = some ((.slice D j jp))))
  have K4 := Lib.hid fun W' (h : Below wd.heap.size wd W' ∧ W'.cell? ⟨W.heap.size, 0, none⟩ = some (.int .i64 x0) ∧ W'.cell? ⟨W.heap.size, 1, none⟩ = some (.int .i64 x1) ∧ W'.cell? ⟨W.heap.size, 2, none⟩ = some (.int .u64 (x2 : Nat)) ∧ W'.cell? ⟨W.heap.size, 3, none⟩ = some ((.slice A k cp)) ∧ W'.cell? ⟨W.heap.size + 1, 0, none⟩ = some (.int .i64 y0) ∧ W'.cell? ⟨W.heap.size + 1, 1, none⟩ = some (.int .i64 y1) ∧ W'.cell? ⟨W.heap.size + 1, 2, none⟩ = some (.int .u64 (y2 : Nat)) ∧ W'.cell? ⟨W.heap.size + 1, 3, none⟩ = some ((.slice B l lp)) ∧ W'.cell? ⟨gc, 0, none⟩ = some (.int .i64 c0) ∧ W'.cell? ⟨gc, 1, none⟩ = some (.int .i64 c1) ∧ W'.cell? ⟨gc, 2, none⟩ = some (.int .u64 (c2 : Nat)) ∧ W'.cell? ⟨gc, 3, none⟩ = some ((.slice C i ip)) ∧ W'.cell? ⟨gd, 0, none⟩ = some (.int .i64 d0) ∧ W'.cell? ⟨gd, 1, none⟩ = some (.int .i64 d1) ∧ W'.cell? ⟨gd, 2, none⟩ = some (.int .u64 (d2 : Nat)) ∧ W'.cell? ⟨gd, 3, none⟩ = some ((.slice D j jp))) => (msame_any x0 x1 x2 A k cp R y0 y1 y2 B l lp Q W' (hRd.below h.1 (Nat.le_refl _)) (hQd.below h.1 (Nat.le_refl _)) HK.out HL.out (by rw [HK.out]; omega) (by rw [HL.out]; omega)).mono fun e w' hr => (⟨hr.1, HST.out w' (bj h.1 hr.2)⟩ : _ ∧ (Below wd.heap.size wd w' ∧ w'.cell? ⟨W.heap.size, 0, none⟩ = some (.int .i64 x0) ∧ w'.cell? ⟨W.heap.size, 1, none⟩ = some (.int .i64 x1) ∧ w'.cell? ⟨W.heap.size, 2, none⟩ = some (.int .u64 (x2 : Nat)) ∧ w'.cell? ⟨W.heap.size, 3, none⟩ = some ((.slice A k cp)) ∧ w'.cell? ⟨W.heap.size + 1, 0, none⟩ = some (.int .i64 y0) ∧ w'.cell? ⟨W.heap.size + 1, 1, none⟩ = some (.int .i64 y1) ∧ w'.cell? ⟨W.heap.size + 1, 2, none⟩ = some (.int .u64 (y2 : Nat)) ∧ w'.cell? ⟨W.heap.size + 1, 3, none⟩ = some ((.slice B l lp)) ∧ w'.cell? ⟨gc, 0, none⟩ = some (.int .i64 c0) ∧ w'.cell? ⟨gc, 1, none⟩ = some (.int .i64 c1) ∧ w'.cell? ⟨gc, 2, none⟩ = some (.int .u64 (c2 : Nat)) ∧ w'.cell? ⟨gc, 3, none⟩ = some ((.slice C i ip)) ∧ w'.cell? ⟨gd, 0, none⟩ = some (.int .i64 d0) ∧ w'.cell? ⟨gd, 1, none⟩ = some (.int .i64 d1) ∧ w'.cell? ⟨gd, 2, none⟩ = some (.int .u64 (d2 : Nat)) ∧ w'.cell? ⟨gd, 3, none⟩ = some ((.slice D j jp))))
  have K5 := Lib.hid fun W' (h : Below wd.heap.size wd W' ∧ W'.cell? ⟨W.heap.size, 0, none⟩ = some (.int .i64 x0) ∧ W'.cell? ⟨W.heap.size, 1, none⟩ = some (.int .i64 x1) ∧ W'.cell? ⟨W.heap.size, 2, none⟩ = some (.int .u64 (x2 : Nat)) ∧ W'.cell? ⟨W.heap.size, 3, none⟩ = some ((.slice A k cp)) ∧ W'.cell? ⟨W.heap.size + 1, 0, none⟩ = some (.int .i64 y0) ∧ W'.cell? ⟨W.heap.size + 1, 1, none⟩ = some (.int .i64 y1) ∧ W'.cell? ⟨W.heap.size + 1, 2, none⟩ = some (.int .u64 (y2 : Nat)) ∧ W'.cell? ⟨W.heap.size + 1, 3, none⟩ = some ((.slice B l lp)) ∧ W'.cell? ⟨gc, 0, none⟩ = some (.int .i64 c0) ∧ W'.cell? ⟨gc, 1, none⟩ = some (.int .i64 c1) ∧ W'.cell? ⟨gc, 2, none⟩ = some (.int .u64 (c2 : Nat)) ∧ W'.cell? ⟨gc, 3, none⟩ = some ((.slice C i ip)) ∧ W'.cell? ⟨gd, 0, none⟩ = some (.int .i64 d0) ∧ W'.cell? ⟨gd, 1, none⟩ = some (.int .i64 d1) ∧ W'.cell? ⟨gd, 2, none⟩ = some (.int .u64 (d2 : Nat)) ∧ W'.cell? ⟨gd, 3, none⟩ = some ((.slice D j jp))) => (msamel_any x0 x1 x2 A k cp R y0 y1 y2 B l lp Q W' (hRd.below h.1 (Nat.le_refl _)) (hQd.below h.1 (Nat.le_refl _)) HK.out HL.out (by rw [HK.out]; omega) (by rw [HL.out]; omega)).mono fun e w' hr => (⟨hr.1, HST.out w' (bj h.1 hr.2)⟩ : _ ∧ (Below wd.heap.size wd w' ∧ w'.cell? ⟨W.heap.size, 0, none⟩ = some (.int .i64 x0) ∧ w'.cell? ⟨W.heap.size, 1, none⟩ = some (.int .i64 x1) ∧ w'.cell? ⟨W.heap.size, 2, none⟩ = some (.int .u64 (x2 : Nat)) ∧ w'.cell? ⟨W.heap.size, 3, none⟩ = some ((.slice A k cp)) ∧ w'.cell? ⟨W.heap.size + 1, 0, none⟩ = some (.int .i64 y0) ∧ w'.cell? ⟨W.heap.size + 1, 1, none⟩ = some (.int .i64 y1) ∧ w'.cell? ⟨W.heap.size + 1, 2, none⟩ = some (.int .u64 (y2 : Nat)) ∧ w'.cell? ⟨W.heap.size + 1, 3, none⟩ = some ((.slice B l lp)) ∧ w'.cell? ⟨gc, 0, none⟩ = some (.int .i64 c0) ∧ w'.cell? ⟨gc, 1, none⟩ = some (.int .i64 c1) ∧ w'.cell? ⟨gc, 2, none⟩ = some (.int .u64 (c2 : Nat)) ∧ w'.cell? ⟨gc, 3, none⟩ = some ((.slice C i ip)) ∧ w'.cell? ⟨gd, 0, none⟩ = some (.int .i64 d0) ∧ w'.cell? ⟨gd, 1, none⟩ = some (.int .i64 d1) ∧ w'.cell? ⟨gd, 2, none⟩ = some (.int .u64 (d2 : Nat)) ∧ w'.cell? ⟨gd, 3, none⟩ = some ((.slice D j jp))))
  have K6 := Lib.hid fun W' (h : Below wd.heap.size wd W' ∧ W'.cell? ⟨W.heap.size, 0, none⟩ = some (.int .i64 x0) ∧ W'.cell? ⟨W.heap.size, 1, none⟩ = some (.int .i64 x1) ∧ W'.cell? ⟨W.heap.size, 2, none⟩ = some (.int .u64 (x2 : Nat)) ∧ W'.cell? ⟨W.heap.size, 3, none⟩ = some ((.slice A k cp)) ∧ W'.cell? ⟨W.heap.size + 1, 0, none⟩ = some (.int .i64 y0) ∧ W'.cell? ⟨W.heap.size + 1, 1, none⟩ = some (.int .i64 y1) ∧ W'.cell? ⟨W.heap.size + 1, 2, none⟩ = some (.int .u64 (y2 : Nat)) ∧ W'.cell? ⟨W.heap.size + 1, 3, none⟩ = some ((.slice B l lp)) ∧ W'.cell? ⟨gc, 0, none⟩ = some (.int .i64 c0) ∧ W'.cell? ⟨gc, 1, none⟩ = some (.int .i64 c1) ∧ W'.cell? ⟨gc, 2, none⟩ = some (.int .u64 (c2 : Nat)) ∧ W'.cell? ⟨gc, 3, none⟩ = some ((.slice C i ip)) ∧ W'.cell? ⟨gd, 0, none⟩ = some (.int .i64 d0) ∧ W'.cell? ⟨gd, 1, none⟩ = some (.int .i64 d1) ∧ W'.cell? ⟨gd, 2, none⟩ = some (.int .u64 (d2 : Nat)) ∧ W'.cell? ⟨gd, 3, none⟩ = some ((.slice D j jp))) => (msame_any x0 x1 x2 A k cp R x0 x1 x2 A k cp R W' (hRd.below h.1 (Nat.le_refl _)) (hRd.below h.1 (Nat.le_refl _)) HK.out HK.out (by rw [HK.out]; omega) (by rw [HK.out]; omega)).mono fun e w' hr => (⟨hr.1, HST.out w' (bj h.1 hr.2)⟩ : _ ∧ (Below wd.heap.size wd w' ∧ w'.cell? ⟨W.heap.size, 0, none⟩ = some (.int .i64 x0) ∧ w'.cell? ⟨W.heap.size, 1, none⟩ = some (.int .i64 x1) ∧ w'.cell? ⟨W.heap.size, 2, none⟩ = some (.int .u64 (x2 : Nat)) ∧ w'.cell? ⟨W.heap.size, 3, none⟩ = some ((.slice A k cp)) ∧ w'.cell? ⟨W.heap.size + 1, 0, none⟩ = some (.int .i64 y0) ∧ w'.cell? ⟨W.heap.size + 1, 1, none⟩ = some (.int .i64 y1) ∧ w'.cell? ⟨W.heap.size + 1, 2, none⟩ = some (.int .u64 (y2 : Nat)) ∧ w'.cell? ⟨W.heap.size + 1, 3, none⟩ = some ((.slice B l lp)) ∧ w'.cell? ⟨gc, 0, none⟩ = some (.int .i64 c0) ∧ w'.cell? ⟨gc, 1, none⟩ = some (.int .i64 c1) ∧ w'.cell? ⟨gc, 2, none⟩ = some (.int .u64 (c2 : Nat)) ∧ w'.cell? ⟨gc, 3, none⟩ = some ((.slice C i ip)) ∧ w'.cell? ⟨gd, 0, none⟩ = some (.int .i64 d0) ∧ w'.cell? ⟨gd, 1, none⟩ = some (.int .i64 d1) ∧ w'.cell? ⟨gd, 2, none⟩ = some (.int .u64 (d2 : Nat)) ∧ w'.cell? ⟨gd, 3, none⟩ = some ((.slice D j jp))))
  have K7 := Lib.hid fun W' (h : Below wd.heap.size wd W' ∧ W'.cell? ⟨W.heap.size, 0, none⟩ = some (.int .i64 x0) ∧ W'.cell? ⟨W.heap.size, 1, none⟩ = some (.int .i64 x1) ∧ W'.cell? ⟨W.heap.size, 2, none⟩ = some (.int .u64 (x2 : Nat)) ∧ W'.cell? ⟨W.heap.size, 3, none⟩ = some ((.slice A k cp)) ∧ W'.cell? ⟨W.heap.size + 1, 0, none⟩ = some (.int .i64 y0) ∧ W'.cell? ⟨W.heap.size + 1, 1, none⟩ = some (.int .i64 y1) ∧ W'.cell? ⟨W.heap.size + 1, 2, none⟩ = some (.int .u64 (y2 : Nat)) ∧ W'.cell? ⟨W.heap.size + 1, 3, none⟩ = some ((.slice B l lp)) ∧ W'.cell? ⟨gc, 0, none⟩ = some (.int .i64 c0) ∧ W'.cell? ⟨gc, 1, none⟩ = some (.int .i64 c1) ∧ W'.cell? ⟨gc, 2, none⟩ = some (.int .u64 (c2 : Nat)) ∧ W'.cell? ⟨gc, 3, none⟩ = some ((.slice C i ip)) ∧ W'.cell? ⟨gd, 0, none⟩ = some (.int .i64 d0) ∧ W'.cell? ⟨gd, 1, none⟩ = some (.int .i64 d1) ∧ W'.cell? ⟨gd, 2, none⟩ = some (.int .u64 (d2 : Nat)) ∧ W'.cell? ⟨gd, 3, none⟩ = some ((.slice D j jp))) => (HS.out W').mono fun e w' hr => (⟨hr.1, HST.out w' (bj h.1 hr.2)⟩ : _ ∧ (Below wd.heap.size wd w' ∧ w'.cell? ⟨W.heap.size, 0, none⟩ = some (.int .i64 x0) ∧ w'.cell? ⟨W.heap.size, 1, none⟩ = some (.int .i64 x1) ∧ w'.cell? ⟨W.heap.size, 2, none⟩ = some (.int .u64 (x2 : Nat)) ∧ w'.cell? ⟨W.heap.size, 3, none⟩ = some ((.slice A k cp)) ∧ w'.cell? ⟨W.heap.size + 1, 0, none⟩ = some (.int .i64 y0) ∧ w'.cell? ⟨W.heap.size + 1, 1, none⟩ = some (.int .i64 y1) ∧ w'.cell? ⟨W.heap.size + 1, 2, none⟩ = some (.int .u64 (y2 : Nat)) ∧ w'.cell? ⟨W.heap.size + 1, 3, none⟩ = some ((.slice B l lp)) ∧ w'.cell? ⟨gc, 0, none⟩ = some (.int .i64 c0) ∧ w'.cell? ⟨gc, 1, none⟩ = some (.int .i64 c1) ∧ w'.cell? ⟨gc, 2, none⟩ = some (.int .u64 (c2 : Nat)) ∧ w'.cell? ⟨gc, 3, none⟩ = some ((.slice C i ip)) ∧ w'.cell? ⟨gd, 0, none⟩ = some (.int .i64 d0) ∧ w'.cell? ⟨gd, 1, none⟩ = some (.int .i64 d1) ∧ w'.cell? ⟨gd, 2, none⟩ = some (.int .u64 (d2 : Nat)) ∧ w'.cell? ⟨gd, 3, none⟩ = some ((.slice D j jp))))
  rw [HSM.out] at K1
  rw [sameM_self] at K6
  unfold manV at K1 K2 K3 K4 K5 K6
  generalize sameM ⟨x0, x1, x2, R⟩ ⟨y0, y1, y2, Q⟩ = q at *
  generalize mayM ⟨x0, x1, x2, R⟩ = r at *
  have q1 : (q == q) = true := by simp
  have r1 : (r == r) = true := by simp
  have hs0 := HST.out _ (Below.refl wd.heap.size wd).drew
  clear HFLm hq zm zn hRd hQd HBC2 HBD HN1' HN2 HBM HBN HR HQ HS HFC HFD HI HJ HMG HK HL HX2 HY2 HFL N3 MC
  go_region_held3 (fun W' => Below wd.heap.size wd W' ∧ W'.cell? ⟨W.heap.size, 0, none⟩ = some (.int .i64 x0) ∧ W'.cell? ⟨W.heap.size, 1, none⟩ = some (.int .i64 x1) ∧ W'.cell? ⟨W.heap.size, 2, none⟩ = some (.int .u64 (x2 : Nat)) ∧ W'.cell? ⟨W.heap.size, 3, none⟩ = some ((.slice A k cp)) ∧ W'.cell? ⟨W.heap.size + 1, 0, none⟩ = some (.int .i64 y0) ∧ W'.cell? ⟨W.heap.size + 1, 1, none⟩ = some (.int .i64 y1) ∧ W'.cell? ⟨W.heap.size + 1, 2, none⟩ = some (.int .u64 (y2 : Nat)) ∧ W'.cell? ⟨W.heap.size + 1, 3, none⟩ = some ((.slice B l lp)) ∧ W'.cell? ⟨gc, 0, none⟩ = some (.int .i64 c0) ∧ W'.cell? ⟨gc, 1, none⟩ = some (.int .i64 c1) ∧ W'.cell? ⟨gc, 2, none⟩ = some (.int .u64 (c2 : Nat)) ∧ W'.cell? ⟨gc, 3, none⟩ = some ((.slice C i ip)) ∧ W'.cell? ⟨gd, 0, none⟩ = some (.int .i64 d0) ∧ W'.cell? ⟨gd, 1, none⟩ = some (.int .i64 d1) ∧ W'.cell? ⟨gd, 2, none⟩ = some (.int .u64 (d2 : Nat)) ∧ W'.cell? ⟨gd, 3, none⟩ = some ((.slice D j jp)))
    (first | (with_reducible assumption) | fail)
    (first
    | (go_at_call 12; ((with_reducible refine (K1.out _ (by with_reducible assumption)).mono ?_); rintro e w' ⟨rfl, hb⟩))
    | (go_at_call 12; ((with_reducible refine (K5.out _ (by with_reducible assumption)).mono ?_); rintro e w' ⟨rfl, hb⟩))
    | (go_at_call 13; ((with_reducible refine (K2.out _ (by with_reducible assumption)).mono ?_); rintro e w' ⟨rfl, hb⟩))
    | (go_at_call 14; ((with_reducible refine (K3.out _ (by with_reducible assumption)).mono ?_); rintro e w' ⟨rfl, hb⟩))
    | (go_at_call 15; ((with_reducible refine (K4.out _ (by with_reducible assumption)).mono ?_); rintro e w' ⟨rfl, hb⟩))
    | (go_at_call 15; ((with_reducible refine (K6.out _ (by with_reducible assumption)).mono ?_); rintro e w' ⟨rfl, hb⟩))
    | (go_at_call 7; ((with_reducible refine (K7.out _ (by with_reducible assumption)).mono ?_); rintro e w' ⟨rfl, hb⟩))
    | fail)
  all_goals
    have HFIN := Lib.hid (bj HB0.out (bj HB7.out hb.1))
    clear hb hs0
    go_wp2
    go_ret
    exact ⟨rfl, HFIN.out⟩
end MfTell
end Go.Proofs.Ytcfidpjhemjbjaa
