/- PtAnswers -/
import Derived.Test.YtmbhafabphogdaaGreatPk45
import Derived.Test.YtmbhafabphogdaaGreatPk46
import Derived.Test.YtmbhafabphogdaaGreatPk12
import Derived.Test.YtmbhafabphogdaaGreatPk15
import Derived.Deep.RegionHeld3
/- PtAnswers -/
namespace Go.Proofs.YtmbhafabphogdaaGreat
open Go.RowKit
set_option linter.unusedVariables false
set_option maxRecDepth 100000

def askH (x : AskS) : Nat := x.h % 9 * 1000003
theorem askH_lt (x : AskS) : askH x < 18446744073709551616 := by unfold askH; omega
theorem hash_run19 (x : AskS) (w : World) (hx : AskOk x) : Calls Tryz.prog 46 #[askB x] w fun e w' => e = .returned (.int .u64 (askH x : Nat)) ∧ Below w.heap.size w w' := by
  have hB := (Below.refl w.heap.size w).alloc (Nat.le_refl _) (.cells #[.int .u8 (x.h : Nat), .int .i64 x.f, .int .i64 x.t] 87)
  have hh := hx.h
  obtain ⟨h, f, t⟩ := x
  unfold askH
  simp only at hh hB ⊢
  have e1 : ((h : Int) % 9) = ((h % 9 : Nat) : Int) := by omega
  have e2 : ((h : Int).tmod 9) = ((h % 9 : Nat) : Int) := by rw [Int.tmod_eq_emod_of_nonneg (by omega)]; omega
  obtain ⟨r, hr⟩ : ∃ r, h % 9 = r := ⟨_, rfl⟩
  rw [hr] at e1 e2 ⊢
  have hr2 : r < 9 := by omega
  have e3 : IntKind.u8.wrap (r : Int) = (r : Int) := by rw [IntKind.wrap_u8]; omega
  have e4 : IntKind.u64.wrap (r : Int) = (r : Int) := by rw [IntKind.wrap_u64]; omega
  have e5 : IntKind.u64.wrap ((r : Int) * 1000003) = (r : Int) * 1000003 := by rw [IntKind.wrap_u64]; omega
  clear hx hr
  go_enter Tryz.func46, Tryz.ntmps46
  go_wp2
  go_ret
  exact ⟨ret_int (by omega), hB⟩
theorem below_one {B : Nat} {W0 W : World} {b i : Nat} {u : Value} (h : Below B W0 W) (hp : B ≤ b) : Below B W0 (W.setCell ⟨b, i, none⟩ u) := h.setCell hp u
theorem ask_three {W : World} {g h : Nat} {f t : Int} (X : Blok W g 87 #[.int .u8 (h : Nat), .int .i64 f, .int .i64 t]) : W.cell? ⟨g, 0, none⟩ = some (.int .u8 (h : Nat)) ∧ W.cell? ⟨g, 1, none⟩ = some (.int .i64 f) ∧ W.cell? ⟨g, 2, none⟩ = some (.int .i64 t) := ⟨X.cell 0, X.cell 1, X.cell 2⟩
theorem AsksIn.at_ {w : World} {A : Option Addr} {n c i : Nat} {l : List AskS} {x : AskS} (h : AsksIn w (.slice A n c) l) (hx : l[i]? = some x) : ∃ b off, A = some ⟨b, off, none⟩ ∧ n = l.length ∧ b < w.heap.size ∧ w.cell? ⟨b, off + i * 3, none⟩ = some (.int .u8 (x.h : Nat)) ∧ w.cell? ⟨b, off + i * 3 + 1, none⟩ = some (.int .i64 x.f) ∧ w.cell? ⟨b, off + i * 3 + 2, none⟩ = some (.int .i64 x.t) := by
  rcases h with ⟨rfl, -⟩ | ⟨b, off, cap, e, h1, h2, h3, h4⟩
  · cases hx
  · obtain ⟨rfl, rfl, rfl⟩ := Value.slice.inj e
    exact ⟨b, off, rfl, rfl, h3, h4 i x hx 0 _ rfl, h4 i x hx 1 _ rfl, h4 i x hx 2 _ rfl⟩
theorem AsksIn.form {w : World} {v : Value} {l : List AskS} (h : AsksIn w v l) : ∃ A cap, v = .slice A l.length cap := by
  rcases h with ⟨rfl, a, c, rfl⟩ | ⟨b, off, cap, rfl, -⟩
  · exact ⟨a, c, rfl⟩
  · exact ⟨_, cap, rfl⟩
section
variable {At : Lies} (api : DiskApi At) (nap : NamesApi) {w0 w : World} {gt gd : Nat} {D : DiskS} {E G : List Nat} {n : Nat} {l : List EntS} {t : ByteArray}
include api nap
set_option maxHeartbeats 8000000 in
theorem answers_run (h : DS At w0 gd D E w) (u : UpD D) (hc : D.count ≤ 100000) (hn : n ≤ 999999) (hp : PtAt w gt gd (n : Nat) l t G) (hG : ∀ b ∈ G, b ∈ E) (hT : HasT D n l) (hk : keepsP t l = true) (hl : l.length ≤ 1000) (v : Value) (hv : EntsIn w v l) (hvE : ∀ b ∈ ownL v, b ∈ E) (va : Value) (xs : List AskS) (ha : AsksIn w0 va xs) (hxs : ∀ x ∈ xs, AskOk x) (hm : xs.length ≤ 100) :
    Calls Tryz.prog 17 #[ptr gd, ptr gt, v, va] w fun e w' => ∃ j, j ≤ 2 * xs.length ∧ DEnd At w0 gd (.bool true) { D with count := D.count + j } E w e w' := by
  obtain ⟨A, ca, rfl⟩ := ha.form
  obtain ⟨B, off, cb, rfl, -, -⟩ := hv.form
  obtain ⟨hr, hmy, hok⟩ := hT.props
  have HP := Lib.hid (And.intro hp (And.intro hv (And.intro hG (And.intro hvE h))))
  have HT := Lib.hid hT
  have HU := Lib.hid u
  have HK := Lib.hid hk
  have HA := Lib.hid (And.intro ha hxs)
  have HM := Lib.hid hmy
  obtain ⟨m, hmm⟩ : ∃ m, xs.length = m := ⟨_, rfl⟩
  have HMM := Lib.hid hmm
  obtain ⟨z, hz⟩ : ∃ z, l.length = z := ⟨_, rfl⟩
  have HZ := Lib.hid hz
  rw [hmm] at hm ⊢
  rw [hz] at hl ⊢
  clear h u hp hv ha hxs hmy hr hok hk hT hG hvE hmm hz
  go_enter Tryz.func17, Tryz.ntmps17
  go_wp2
  go_loopw [9] (fun i wr => ∃ (k j : Nat), k ≤ m ∧ i = .int .i64 k ∧ j ≤ 2 * k ∧ DS At w0 gd { D with count := D.count + j } E wr ∧ Kept E w wr) (fun i _ => m - (intOf i).toNat)
  case atStart => exact ⟨0, 0, Nat.zero_le _, rfl, Nat.le_refl _, HP.out.2.2.2.2, Kept.refl _ _⟩
  case round =>
    obtain ⟨k, j, hk, rfl, hj, hds, hkp⟩ := hrel
    by_cases hlt : k < m
    · obtain ⟨x, hx⟩ : ∃ x, xs[k]? = some x := ⟨_, List.getElem?_eq_getElem (by rw [HMM.out]; exact hlt)⟩
      have hxo := HA.out.2 x (List.mem_of_getElem? hx)
      have haw : AsksIn wr (.slice A xs.length ca) xs := HA.out.1.below hds.kept (Nat.le_refl _)
      obtain ⟨bb, of, rfl, -, hbl, d0, d1, d2⟩ := haw.at_ hx
      have s1 : (k : Int) < (m : Int) := by omega
      have s3 : (k : Int) ≤ 1000 := by omega
      have hB := (Below.refl wr.heap.size wr).alloc (Nat.le_refl _) (.cells #[.int .u8 (x.h : Nat), .int .i64 x.f, .int .i64 x.t] 87)
      have X1 := Blok.new wr 87 #[.int .u8 (x.h : Nat), .int .i64 x.f, .int .i64 x.t]
      have ds1 := hds.more api hB (B := [wr.heap.size]) (fun b hb => by rw [List.mem_singleton.1 hb]; exact ⟨Nat.le_refl _, X1.lt⟩)
      have kp1 := hkp.trans (Kept.of_below hB hds.lt)
      obtain ⟨gx, hgx⟩ : ∃ gx, wr.heap.size = gx := ⟨_, rfl⟩
      obtain ⟨w1, hw1⟩ : ∃ w1, wr.alloc (.cells #[.int .u8 (x.h : Nat), .int .i64 x.f, .int .i64 x.t] 87) = w1 := ⟨_, rfl⟩
      rw [hgx, hw1] at ds1 X1
      rw [hw1] at kp1
      have HX1 := Lib.hid (And.intro ds1 (And.intro kp1 X1))
      have uj := HU.out.count (D.count + j)
      have hR1 := Lib.hid (ds1.reads api uj)
      have hHash := Lib.hid fun W => hash_run19 x W hxo
      have hxq := askH_lt x
      have wf1 : (Lit.int .i64 x.f).wf = true := WalkArith.wf_i64 ⟨hxo.f0, hxo.f1⟩
      have wt1 : (Lit.int .i64 x.t).wf = true := WalkArith.wf_i64 ⟨hxo.t0, hxo.t1⟩
      clear hB ds1 kp1 X1 haw hx hds hkp uj
      obtain ⟨xh, xf, xt⟩ := x
      generalize hq : askH ⟨xh, xf, xt⟩ = q at *
      simp only at d0 d1 d2 hw1 HX1 hHash wf1 wt1
      clear hq
      go_wp2_with fail
      refine hR1.out.mono ?_
      rintro e w2 ⟨rfl, ds2, kk2⟩
      have X2 := kk2.blok HX1.out.2.2 (List.mem_append_left _ List.mem_cons_self)
      have kp2 := HX1.out.2.1.trans (kk2.less (fun b hb => List.mem_append_right _ hb))
      have HX2 := Lib.hid (And.intro ds2 (And.intro kp2 X2))
      have hc012 := ask_three X2
      obtain ⟨c0, c1, c2⟩ := hc012
      clear hR1 ds2 kk2 X2 kp2 d0 d1 d2
      have hRg := Lib.hid fun W (hW : Below w2.heap.size w2 W) => ptrange_has api nap (HX2.out.1.below api hW) (HU.out.count (D.count + j)) (by show D.count + j ≤ _; omega) hn ((HP.out.1.keep HX2.out.2.1 HP.out.2.2.1).below hW) (fun b hb => List.mem_append_right _ (HP.out.2.2.1 b hb)) HT.out HK.out (by rw [HZ.out]; omega) q hxq xf xt wf1 wt1
      have hc012 := And.intro c0 (And.intro c1 c2)
      go_wp2_with fail
      go_region_held3 (fun w' => w'.cell? ⟨gx, 0, none⟩ = some (.int .u8 (xh : Nat)) ∧ w'.cell? ⟨gx, 1, none⟩ = some (.int .i64 xf) ∧ w'.cell? ⟨gx, 2, none⟩ = some (.int .i64 xt)) (first | (with_reducible assumption) | exact hc012) (first
        | (go_at_call 46; refine (hHash.out _).mono ?_; rintro e w3 ⟨rfl, hb⟩; have b3 := bj (show Below w2.heap.size w2 _ from by first | (with_reducible exact (Below.refl _ _).drew) | (with_reducible exact Below.refl _ _)) hb; have X3 := Blok.below HX2.out.2.2 b3; have hc3 := ask_three X3; have b3d := b3.drew)
        | (go_at_call 31; refine (hRg.out _ (by first | (with_reducible exact b3) | (with_reducible exact b3d))).mono ?_; rintro e w4 ⟨k1, hk1, hm1, A4, c4, rfl, r4, ds4, kk4⟩; have kk24 := (show Kept ([gx] ++ E) w2 w4 from by first | exact (Kept.of_below b3 HX2.out.1.lt).trans kk4 | exact (Kept.of_below b3d HX2.out.1.lt).trans kk4); have X4 := kk24.blok HX2.out.2.2 (List.mem_append_left _ List.mem_cons_self); have hc4 := ask_three X4)
        | fail)
      all_goals
        have hRl : (rangeE l q xf (min xt 1073741824)).length ≤ 1000 := Nat.le_trans (List.length_filter_le _ _) (by rw [HZ.out]; exact hl)
        generalize hRR : rangeE l q xf (min xt 1073741824) = R at *
        have HRR := Lib.hid hRR
        clear hRR
        have kp4 := HX2.out.2.1.trans (kk24.less (fun b hb => List.mem_append_right _ hb))
        have HX4 := Lib.hid (And.intro ds4 (And.intro kp4 (And.intro X4 r4)))
        have HK1 := Lib.hid (And.intro hk1 hm1)
        clear ds4 kp4 X4 r4 kk24 kk4 hc4 hc3 hc012 b3 b3d hb X3 c0 c1 c2 hm1 hRg
        have uj4 := HU.out.count (D.count + j + k1)
        have hR2 := Lib.hid (HX4.out.1.reads api uj4)
        clear uj4
        go_wp2_with fail
        refine hR2.out.mono ?_
        rintro e w5 ⟨rfl, ds5, kk5⟩
        have hE5 := HX4.out.1.lt
        have X5 := kk5.blok HX4.out.2.2.1 (List.mem_append_right _ (List.mem_append_left _ List.mem_cons_self))
        have kp5 := HX4.out.2.1.trans (kk5.less (fun b hb => List.mem_append_right _ (List.mem_append_right _ hb)))
        have r5 := kk5.row HX4.out.2.2.2 (fun b hb => List.mem_append_left _ hb)
        have HX5 := Lib.hid (And.intro ds5 (And.intro kp5 (And.intro X5 r5)))
        have hc5 := ask_three X5
        obtain ⟨c0, c1, c2⟩ := hc5
        have hc012 := And.intro c0 (And.intro c1 c2)
        clear ds5 kk5 X5 kp5 r5 hR2 hE5
        obtain ⟨E5, hE5⟩ : ∃ E5, ownL (.slice A4 R.length c4) ++ ([gx] ++ E) = E5 := ⟨_, rfl⟩
        rw [hE5] at HX5
        have HE5 := Lib.hid (show gx ∈ E5 ∧ (∀ b ∈ E, b ∈ E5) ∧ ∀ b ∈ ownL (.slice A4 R.length c4), b ∈ E5 from by
          rw [← hE5]
          exact ⟨List.mem_append_right _ (List.mem_append_left _ List.mem_cons_self), fun b hb => List.mem_append_right _ (List.mem_append_right _ hb), fun b hb => List.mem_append_left _ hb⟩)
        clear hE5
        have hLs := Lib.hid fun W (hW : Below w5.heap.size w5 W) => ptlast_has api nap (ds_news api HX5.out.1 hW) (HU.out.count (D.count + j + k1)) (by show D.count + j + k1 ≤ _; omega) hn ((HP.out.1.keep HX5.out.2.1 HP.out.2.2.1).below hW) (fun b hb => List.mem_append_right _ (HE5.out.2.1 b (HP.out.2.2.1 b hb))) HT.out HK.out (by rw [HZ.out]; omega) q hxq xt wt1
        have HS : Hid (∀ W, K1 gx w5 W → K1 gx w5 W ∧ W.cell? ⟨gx, 0, none⟩ = some (.int .u8 (xh : Nat)) ∧ W.cell? ⟨gx, 1, none⟩ = some (.int .i64 xf) ∧ W.cell? ⟨gx, 2, none⟩ = some (.int .i64 xt)) := Lib.hid fun W hW => ⟨hW, ask_three (hW.blok HX5.out.2.2.1)⟩
        have HKK := Lib.hid (K1.refl (g := gx) HX5.out.2.2.1.lt)
        generalize hy : lastE l q (min xt 1073741824) = y at *
        generalize hq2 : lastOk l q (min xt 1073741824) = q2 at *
        have HY := Lib.hid (And.intro hy hq2)
        clear hy hq2
        go_upto_region 8 with fail
        go_cut [15, 16, 17] from 21 to 120 (fun uu vv rr wx => vv = .bool q2 ∧ rr = .int .i64 0 ∧ ∃ k2, k2 ≤ 1 ∧ (mayP l t q = false → k2 = 0) ∧ Told8 At w0 gd { D with count := D.count + j + k1 + k2 } E5 w5 y uu wx)
        case first =>
          obtain ⟨yh, yv, yp⟩ := y
          have hc0K := HS.out w5 HKK.out
          go_wp2_with fail
          go_region_held3 (fun W => K1 gx w5 W ∧ W.cell? ⟨gx, 0, none⟩ = some (.int .u8 (xh : Nat)) ∧ W.cell? ⟨gx, 1, none⟩ = some (.int .i64 xf) ∧ W.cell? ⟨gx, 2, none⟩ = some (.int .i64 xt))
            (first | (with_reducible assumption) | ((with_reducible refine HS.out _ ?_); (repeat' (first | (with_reducible assumption) | (with_reducible exact And.left (by with_reducible assumption)) | (with_reducible exact HKK.out) | (with_reducible refine K1.drew ?_) | (with_reducible refine K1.alloc ?_ _) | (with_reducible refine K1.set ?_ ?_) | exact K1.ne (by with_reducible assumption) | exact K1.ne HKK.out | exact K1.ne (K1.drew (by with_reducible assumption)))); done) | fail)
            (first
            | (go_at_call 46; (with_reducible refine (hHash.out _).mono ?_); rintro e w6 ⟨rfl, hb⟩; have b6 : Below w5.heap.size w5 w6 := bj (by repeat' (first | (with_reducible exact Below.refl _ _) | (with_reducible refine Below.drew ?_) | (with_reducible refine below_alloc ?_ _))) hb; have hk6 : K1 gx w5 w6 := K1.of_below HKK.out.lt b6; (try (have A0 := Blok.below (Blok.new _ _ _) hb)); (try (have A0 := Blok.below (Blok.drew (Blok.new _ _ _)) hb)))
            | (go_at_call 32; (with_reducible refine (hLs.out _ (by repeat' (first | (with_reducible exact b6) | (with_reducible refine Below.drew ?_) | (with_reducible refine below_alloc ?_ _)))).mono ?_); rintro e w7 ⟨k2, hk2, hm2, rfl, ds7, kk7⟩; have hk7 : K1 gx w5 w7 := K1.kept (by repeat' (first | (with_reducible exact hk6) | (with_reducible refine K1.drew ?_) | (with_reducible refine K1.alloc ?_ _))) kk7 (List.mem_append_right _ HE5.out.1); (first | (have A1 := blok_news kk7 A0 (Nat.le_refl _); have A2 := blk_three A1.1; obtain ⟨A1c0, A1c1, A1c2, A1f0, A1f1, A1f2⟩ := A2) | (have A1 := blok_news kk7 (Blok.drew (Blok.new _ _ _)) b6.size; have A2 := blk_three A1.1; obtain ⟨A1c0, A1c1, A1c2, A1f0, A1f1, A1f2⟩ := A2) | (have A1 := blok_news kk7 (Blok.new _ _ _) b6.size; have A2 := blk_three A1.1; obtain ⟨A1c0, A1c1, A1c2, A1f0, A1f1, A1f2⟩ := A2) | skip))
            | fail)
          all_goals
            go_step
            go_step
            go_meet
            first
            | exact ⟨rfl, rfl, k2, hk2, hm2, told8_put api HX5.out.1.lt (by repeat' (first | (with_reducible exact b6) | (with_reducible refine Below.drew ?_) | (with_reducible refine below_alloc ?_ _))) ds7 kk7 HX5.out.1.kept.size A1⟩
            | exact ⟨rfl, rfl, k2, hk2, hm2, told8_new api (x := ⟨yh, yv, yp⟩) HX5.out.1.lt (by repeat' (first | (with_reducible exact b6) | (with_reducible refine Below.drew ?_) | (with_reducible refine below_alloc ?_ _))) ds7 kk7⟩
        case rest =>
          obtain ⟨rfl, rfl, k2, hk2, hm2, gy, rfl, hEy, ds8, kp8⟩ := hcut
          obtain ⟨w8, rfl⟩ : ∃ w8 : World, w8 = wc := ⟨_, rfl⟩
          have X8 := kp8.blok HX5.out.2.2.1 HE5.out.1
          have kp8' := HX5.out.2.1.trans (kp8.less HE5.out.2.1)
          have r8 := kp8.row HX5.out.2.2.2 HE5.out.2.2
          have HX8 := Lib.hid (And.intro ds8 (And.intro kp8' (And.intro X8 (And.intro r8 hEy))))
          have HK2 := Lib.hid (And.intro hk2 hm2)
          clear ds8 kp8 X8 kp8' r8 hEy hm2 HS HKK hLs c0 c1 c2 hc012
          have uj8 := HU.out.count (D.count + j + k1 + k2)
          have hR3 := Lib.hid (HX8.out.1.reads api uj8)
          clear uj8
          go_wp2_with fail
          refine hR3.out.mono ?_
          rintro e w9 ⟨rfl, ds9, kk9⟩
          have X9 := kk9.blok HX8.out.2.2.1 (List.mem_cons_of_mem _ HE5.out.1)
          have Y9 := kk9.blok HX8.out.2.2.2.2 List.mem_cons_self
          have kp9 := HX8.out.2.1.trans (kk9.less (fun b hb => List.mem_cons_of_mem _ (HE5.out.2.1 b hb)))
          have r9 := kk9.row HX8.out.2.2.2.1 (fun b hb => List.mem_cons_of_mem _ (HE5.out.2.2 b hb))
          have p9 := HP.out.1.keep kp9 HP.out.2.2.1
          have v9 := kp9.ents HP.out.2.1 HP.out.2.2.2.1
          have HX9 := Lib.hid (And.intro ds9 (And.intro kp9 (And.intro X9 (And.intro Y9 (And.intro r9 (And.intro p9 v9))))))
          clear ds9 kk9 X9 Y9 kp9 r9 p9 v9 hR3
          have hRl2 := Lib.hid fun W (hW : Below w9.heap.size w9 W) => ptlast_ref _ l q xt W (HX9.out.2.2.2.2.2.2.below hW (Nat.le_refl _)) (by rw [HZ.out]; omega) HM.out
          rw [HY.out.1, HY.out.2, HZ.out] at hRl2
          have HS : Hid (∀ W, Below w9.heap.size w9 W → Below w9.heap.size w9 W ∧ W.cell? ⟨gx, 0, none⟩ = some (.int .u8 (xh : Nat)) ∧ W.cell? ⟨gx, 1, none⟩ = some (.int .i64 xf) ∧ W.cell? ⟨gx, 2, none⟩ = some (.int .i64 xt)) := Lib.hid fun W hW => ⟨hW, ask_three (Blok.below HX9.out.2.2.1 hW)⟩
          go_upto_region 10 with fail
          go_cut [19, 20] from 21 to 120 (fun uu vv wx => vv = .bool q2 ∧ ToldE w9 y uu wx)
          case first =>
            obtain ⟨yh, yv, yp⟩ := y
            obtain ⟨-, c0, c1, c2⟩ := HS.out w9 (Below.refl _ _)
            go_wp2_with fail
            go_region_held3 (fun W => Below w9.heap.size w9 W ∧ W.cell? ⟨gx, 0, none⟩ = some (.int .u8 (xh : Nat)) ∧ W.cell? ⟨gx, 1, none⟩ = some (.int .i64 xf) ∧ W.cell? ⟨gx, 2, none⟩ = some (.int .i64 xt))
              (first | (with_reducible assumption) | ((with_reducible refine HS.out _ ?_); (repeat' (first | (with_reducible assumption) | (with_reducible exact And.left (by with_reducible assumption)) | (with_reducible exact Below.refl _ _) | (with_reducible exact Nat.le_refl _) | (with_reducible refine Below.drew ?_) | (with_reducible refine below_alloc ?_ _) | (with_reducible refine below_one ?_ ?_) | exact Below.size (And.left (by with_reducible assumption)) | exact Below.size (by with_reducible assumption))); done) | fail)
              (first
              | (go_at_call 46; (with_reducible refine (hHash.out _).mono ?_); rintro e w10 ⟨rfl, hb⟩; have b10 : Below w9.heap.size w9 w10 := bj (by repeat' (first | (with_reducible exact Below.refl _ _) | (with_reducible refine Below.drew ?_) | (with_reducible refine below_alloc ?_ _))) hb; (try (have A0 := Blok.below (Blok.new _ _ _) hb)); (try (have A0 := Blok.below (Blok.drew (Blok.new _ _ _)) hb)))
              | (go_at_call 47; (with_reducible refine (hRl2.out _ (by repeat' (first | (with_reducible exact b10) | (with_reducible refine Below.drew ?_) | (with_reducible refine below_alloc ?_ _)))).mono ?_); rintro e w11 ⟨rfl, hb2⟩; have b11 : Below w9.heap.size w9 w11 := bj (by repeat' (first | (with_reducible exact b10) | (with_reducible refine Below.drew ?_) | (with_reducible refine below_alloc ?_ _))) hb2; (first | (have A1 := Blok.below A0 hb2; have A2 := blk_three A1; have A3 := Nat.le_refl w9.heap.size; obtain ⟨A1c0, A1c1, A1c2, A1f0, A1f1, A1f2⟩ := A2) | (have A1 := Blok.below (Blok.drew (Blok.new _ _ _)) hb2; have A2 := blk_three A1; have A3 := b10.size; obtain ⟨A1c0, A1c1, A1c2, A1f0, A1f1, A1f2⟩ := A2) | (have A1 := Blok.below (Blok.new _ _ _) hb2; have A2 := blk_three A1; have A3 := b10.size; obtain ⟨A1c0, A1c1, A1c2, A1f0, A1f1, A1f2⟩ := A2) | skip))
              | fail)
            all_goals
              go_step
              go_step
              go_meet
              first
              | exact ⟨rfl, tolde_put ⟨yh, yv, yp⟩ b11 A1 A3⟩
              | exact ⟨rfl, tolde_new ⟨yh, yv, yp⟩ b11⟩
          case rest =>
            obtain ⟨rfl, gz, rfl, hEz, hgz, hb10⟩ := hcut
            obtain ⟨w10, rfl⟩ : ∃ w10 : World, w10 = wc := ⟨_, rfl⟩
            have HB10 := Lib.hid hb10
            have HEZ := Lib.hid hEz
            have hRr := Lib.hid fun W (hW : Below w10.heap.size w10 W) => (ptrange_ref _ l q xf xt W (HX9.out.2.2.2.2.2.2.below (bj HB10.out hW) (Nat.le_refl _)) (by rw [HZ.out]; omega) HM.out).mono fun e w' h => show (∃ A c, e = .returned (.slice A R.length c) ∧ EntsIn w' (.slice A R.length c) R ∧ Below W.heap.size W w') from by
              rw [HRR.out] at h
              obtain ⟨A, c, h1, h2, h3⟩ := h
              exact ⟨A, c, h1, EntRow.in_ h2, h3⟩
            rw [HZ.out] at hRr
            have hSm := Lib.hid fun W A c (hW : Below w10.heap.size w10 W) (h6 : EntsIn W (.slice A R.length c) R) => (tsame_any _ _ R R W (EntRow.in_ (EntRow.below HX9.out.2.2.2.2.1 (bj HB10.out hW) (Nat.le_refl _))) h6 (by omega) (by omega)).mono fun e w' h => show (e = .returned (.bool true) ∧ Below W.heap.size W w') from by
              obtain ⟨h1, nn, h2⟩ := h
              rw [decide_eq_true rfl] at h1
              exact ⟨h1, by rw [h2]; exact below_drewN (Below.refl _ _) nn⟩
            have hne := fun W => ent_neq y y W
            rw [decide_eq_true rfl] at hne
            have eq2 : (q2 != q2) = false := by simp
            obtain ⟨yh, yv, yp⟩ := y
            have HS2 : Hid (∀ W, Below w10.heap.size w10 W → Below w10.heap.size w10 W ∧ (W.cell? ⟨gx, 0, none⟩ = some (.int .u8 (xh : Nat)) ∧ W.cell? ⟨gx, 1, none⟩ = some (.int .i64 xf) ∧ W.cell? ⟨gx, 2, none⟩ = some (.int .i64 xt)) ∧ (W.cell? ⟨gy, 0, none⟩ = some (.int .u64 (yh : Nat)) ∧ W.cell? ⟨gy, 1, none⟩ = some (.int .i64 yv) ∧ W.cell? ⟨gy, 2, none⟩ = some (.int .i64 yp)) ∧ (W.cell? ⟨gz, 0, none⟩ = some (.int .u64 (yh : Nat)) ∧ W.cell? ⟨gz, 1, none⟩ = some (.int .i64 yv) ∧ W.cell? ⟨gz, 2, none⟩ = some (.int .i64 yp))) := Lib.hid fun W hW =>
              have fy := EnAt.facts (show EnAt W gy yh yv yp from Blok.below HX9.out.2.2.2.1 (bj HB10.out hW))
              have fz := EnAt.facts (show EnAt W gz yh yv yp from Blok.below HEZ.out hW)
              ⟨hW, ask_three (Blok.below HX9.out.2.2.1 (bj HB10.out hW)), ⟨fy.1, fy.2.1, fy.2.2.1⟩, fz.1, fz.2.1, fz.2.2.1⟩
            clear hb10 hEz hgz hRl2 HS
            go_upto_region 11 with fail
            go_cut [95] from 21 to 120 (fun cc wx => cc = .bool false ∧ Below w10.heap.size w10 wx)
            case first =>
              obtain ⟨-, ⟨c0, c1, c2⟩, ⟨a0, a1, a2⟩, ⟨b0, b1, b2⟩⟩ := HS2.out w10 (Below.refl _ _)
              go_wp2_with fail
              go_region_held3 (fun W => Below w10.heap.size w10 W ∧ (W.cell? ⟨gx, 0, none⟩ = some (.int .u8 (xh : Nat)) ∧ W.cell? ⟨gx, 1, none⟩ = some (.int .i64 xf) ∧ W.cell? ⟨gx, 2, none⟩ = some (.int .i64 xt)) ∧ (W.cell? ⟨gy, 0, none⟩ = some (.int .u64 (yh : Nat)) ∧ W.cell? ⟨gy, 1, none⟩ = some (.int .i64 yv) ∧ W.cell? ⟨gy, 2, none⟩ = some (.int .i64 yp)) ∧ (W.cell? ⟨gz, 0, none⟩ = some (.int .u64 (yh : Nat)) ∧ W.cell? ⟨gz, 1, none⟩ = some (.int .i64 yv) ∧ W.cell? ⟨gz, 2, none⟩ = some (.int .i64 yp)))
                (first | (with_reducible assumption) | ((with_reducible refine HS2.out _ ?_); (repeat' (first | (with_reducible assumption) | (with_reducible exact Below.refl _ _) | (with_reducible refine Below.drew ?_))); done) | fail)
                (first
                | (go_at_call 46; (with_reducible refine (hHash.out _).mono ?_); rintro e w11 ⟨rfl, hb⟩; have hB := bj (And.left (by with_reducible assumption)) hb)
                | (go_at_call 48; (with_reducible refine (hRr.out _ (And.left (by with_reducible assumption))).mono ?_); rintro e w12 ⟨A6, c6, rfl, hr6, hb⟩; have hB := bj (And.left (by with_reducible assumption)) hb)
                | (go_at_call 16; (with_reducible refine (hSm.out _ _ _ (And.left (by with_reducible assumption)) (by with_reducible assumption)).mono ?_); rintro e w13 ⟨rfl, hb⟩; have hB := bj (And.left (by with_reducible assumption)) hb)
                | fail)
              all_goals
                go_step
                go_step
                go_meet
                exact ⟨rfl, And.left (by with_reducible assumption)⟩
            case rest =>
              obtain ⟨rfl, hb11⟩ := hcut
              obtain ⟨w11, rfl⟩ : ∃ w11 : World, w11 = wc := ⟨_, rfl⟩
              have HB11 := Lib.hid (bj HB10.out hb11)
              have hMy := Lib.hid fun W (hW : Below w9.heap.size w9 W) => ptmay_run (HX9.out.2.2.2.2.2.1.below hW) q hxq
              have hc11 := ask_three (Blok.below HX9.out.2.2.1 HB11.out)
              obtain ⟨c0, c1, c2⟩ := hc11
              have hk2 := HK2.out.1
              have HFin := Lib.hid fun W (hW : Below w9.heap.size w9 W) => (show DS At w0 gd { D with count := D.count + (j + k1 + k2) } E W ∧ Kept E w W from by
                rw [show D.count + (j + k1 + k2) = D.count + j + k1 + k2 by omega]
                exact ⟨(HX9.out.1.below api hW).less (fun b hb => List.mem_cons_of_mem _ (HE5.out.2.1 b hb)), HX9.out.2.1.trans (Kept.of_below hW (fun b hb => HX9.out.1.lt b (List.mem_cons_of_mem _ (HE5.out.2.1 b hb))))⟩)
              obtain ⟨na, hna⟩ : ∃ na : Int, (D.count : Int) + (j : Int) = na := ⟨_, rfl⟩
              obtain ⟨nb, hnb⟩ : ∃ nb : Int, na + (k1 : Int) = nb := ⟨_, rfl⟩
              obtain ⟨nc, hnc⟩ : ∃ nc : Int, nb + (k2 : Int) = nc := ⟨_, rfl⟩
              have g1 : IntKind.i64.wrap (nb - na) = (k1 : Int) := by rw [IntWalk.i64_in _ ⟨by omega, by omega⟩]; omega
              have g2 : IntKind.i64.wrap (5 + (R.length : Int)) = 5 + (R.length : Int) := IntWalk.i64_in _ ⟨by omega, by omega⟩
              have g3 : decide (5 + (R.length : Int) < (k1 : Int)) = false := decide_eq_false (by omega)
              have g4 : IntKind.i64.wrap (nc - nb) = (k2 : Int) := by rw [IntWalk.i64_in _ ⟨by omega, by omega⟩]; omega
              have g5 : decide ((5 : Int) < (k2 : Int)) = false := decide_eq_false (by omega)
              have hj2 : j + k1 + k2 ≤ 2 * (k + 1) := by have := hk1; omega
              cases hr : mayP l t q
              · have z1 := HK1.out.2 hr
                have z2 := HK2.out.2 hr
                have g6 : (nc != na) = false := by simp; omega
                rw [hr] at hMy
                have HJ := Lib.hid hj2
                clear hr hk1 hk2 z1 z2 hj2 hj hb11
                simp only [hna, hnb, hnc]
                go_wp2_with fail
                refine (hHash.out _).mono ?_
                rintro e w12 ⟨rfl, b12⟩
                have HB12 := Lib.hid (bj HB11.out b12)
                clear b12
                go_wp2_with fail
                refine (hMy.out _ HB12.out).mono ?_
                rintro e w13 ⟨rfl, b13⟩
                have HB13 := Lib.hid (HFin.out _ (bj HB12.out b13))
                clear b13 c0 c1 c2 g1 g2 g3 g4 g5 hna hnb hnc
                go_wp2
                exact ⟨⟨k + 1, j + k1 + k2, by omega, by go_num, HJ.out, HB13.out.1, HB13.out.2⟩, by simp [intOf]; omega⟩
              · rw [hr] at hMy
                have HJ := Lib.hid hj2
                clear hr hk1 hk2 hj2 hj hb11
                simp only [hna, hnb, hnc]
                go_wp2_with fail
                refine (hHash.out _).mono ?_
                rintro e w12 ⟨rfl, b12⟩
                have HB12 := Lib.hid (bj HB11.out b12)
                clear b12
                go_wp2_with fail
                refine (hMy.out _ HB12.out).mono ?_
                rintro e w13 ⟨rfl, b13⟩
                have HB13 := Lib.hid (HFin.out _ (bj HB12.out b13))
                clear b13 c0 c1 c2 g1 g2 g3 g4 g5 hna hnb hnc
                go_wp2
                exact ⟨⟨k + 1, j + k1 + k2, by omega, by go_num, HJ.out, HB13.out.1, HB13.out.2⟩, by simp [intOf]; omega⟩
    · obtain rfl : k = m := by omega
      have s1 : ¬ (k : Int) < (k : Int) := by omega
      have HF := Lib.hid (And.intro hds hkp)
      clear hds hkp
      go_wp2
      go_ret
      exact ⟨j, hj, rfl, HF.out.1, HF.out.2⟩
end
end Go.Proofs.YtmbhafabphogdaaGreat
