/- ImOrphansWalk -/
import Derived.Test.YtbhgngimebecdaaGreatPk24
import Derived.Test.YtbhgngimebecdaaGreatPk19
import Derived.Deep.RegionHeld3
/- ImOrphansWalk -/
namespace Go.Proofs.YtbhgngimebecdaaGreat
open Go.RowKit Go.Shelf
set_option linter.unusedVariables false
set_option maxRecDepth 100000

theorem u8s_below {w w' : World} {v : Value} {l : List Nat} {B : Nat} (h : U8sIn w v l) (hb : Below B w w') (hB : w.heap.size ≤ B) : U8sIn w' v l := by
  rcases h with h | ⟨b, off, cap, rfl, h1, h2, h3, h4⟩
  · exact Or.inl h
  · exact Or.inr ⟨b, off, cap, rfl, h1, h2, Nat.lt_of_lt_of_le h3 hb.size, fun i x hx => (hb.cell (p := ⟨b, off + i, none⟩) (Nat.lt_of_lt_of_le h3 hB)).trans (h4 i x hx)⟩
theorem StrsAt.drew {w : World} {v : Value} {l : List ByteArray} (h : StrsAt w v l) : StrsAt w.drew v l := h.below (Below.refl w.heap.size w).drew (Nat.le_refl _)
/-- One of a list's texts, and the list of it alone. -/
theorem StrsAt.one {w : World} {v : Value} {l : List ByteArray} (h : StrsAt w v l) : ∃ A c, v = .slice A l.length c ∧ ∀ (j : Nat) x, l[j]? = some x → ∃ b off, A = some ⟨b, off, none⟩ ∧
    (∀ W, (Instr.slice 31 v (some (.int .i64 (j : Nat))) (some (.int .i64 ((j : Int) + 1))) none).run Tryz.prog W = .ok (.slice (some ⟨b, off + j, none⟩) 1 (c - j)) W) ∧
    ∀ W, Below w.heap.size w W → W.cell? ⟨b, off + j, none⟩ = some (.string x) ∧ StrsAt W (.slice (some ⟨b, off + j, none⟩) 1 (c - j)) [x] := by
  rcases h with ⟨rfl, a, c, rfl⟩ | ⟨b, off, cap, rfl, h2, h3, h4, h5⟩
  · exact ⟨a, c, rfl, fun j x h => by simp at h⟩
  · refine ⟨_, cap, rfl, fun j x hx => ⟨b, off, rfl, fun W => ?_, fun W hb => ?_⟩⟩
    · have hj : j < l.length := (List.getElem?_eq_some_iff.1 hx).1
      have hz : (sizeOf (Tryz.prog.elem 31)).run Tryz.prog W = .ok 1 W := by simp [go_sem]
      rw [run_slice_lh W _ _ _ cap Tryz.underlying31 .i64 .i64 _ _ (by omega) (by omega) (by omega), hz]
      show Result.ok (sliced _ _ _ _ _) W = _
      rw [Int.toNat_natCast, show ((j : Int) + 1).toNat = j + 1 by omega]
      unfold sliced
      rw [if_neg (by omega), show j + 1 - j = 1 by omega]
      simp [Addr.add]
    · have hj : j < l.length := (List.getElem?_eq_some_iff.1 hx).1
      have hc := (hb.cell (p := ⟨b, off + j, none⟩) h4).trans (h5 j x hx)
      refine ⟨hc, Or.inr ⟨b, off + j, cap - j, rfl, by simp; omega, by omega, Nat.lt_of_lt_of_le h4 hb.size, fun i y hy => ?_⟩⟩
      match i, hy with
      | 0, hy => obtain rfl := Option.some.inj hy; exact hc
theorem StrsAt.shape2 {w : World} {v : Value} {l : List ByteArray} (h : StrsAt w v l) : ∃ A n c, v = .slice A n c := by
  obtain ⟨A, c, rfl⟩ := h.shape
  exact ⟨A, _, c, rfl⟩
theorem names_apart {l : List FileS} (h : l.Pairwise (fun f g => lessB f.name g.name = true)) : (l.map FileS.name).Nodup := by
  unfold List.Nodup
  rw [List.pairwise_map]
  exact h.imp fun {a b} h e => by rw [e] at h; exact less_irrefl _ h
/-- What is left. -/
def leftL (fl : List Int) (l : List ByteArray) : List ByteArray := l.filter (fun x => !orphB fl x)
theorem left_take {fl : List Int} {l : List ByteArray} {j : Nat} {x : ByteArray} (h : l[j]? = some x) : leftL fl (l.take (j + 1)) = leftL fl (l.take j) ++ (if (!orphB fl x) = true then [x] else []) := by
  unfold leftL
  rw [List.take_add_one, h, List.filter_append]
  congr 1
  show [x].filter _ = _
  cases hb : orphB fl x <;> simp [List.filter, hb]
theorem left_len (fl : List Int) (l : List ByteArray) : (leftL fl l).length ≤ l.length := List.length_filter_le _ _
theorem hold_s {P : Prop} {W0 W W' : World} (hb : Below W.heap.size W W') (h : Below W0.heap.size W0 W ∧ P) : Below W0.heap.size W0 W' := bj h.1 hb
theorem hold_n {P : Prop} {W0 W : World} (n : Nat) (h : Below W0.heap.size W0 W ∧ P) : Below W0.heap.size W0 (W.drewN n) := below_drewN h.1 n
namespace ImOrphans
section
variable {At : Lies} (api : DiskApi At) (iap : ImApi At)
include api iap
set_option maxHeartbeats 600000 in
theorem walk (W : World) (v0 : Value) (L : List Nat) (v1 : Value) (hl2 : U8sIn W v0 L) (wl2 : ∀ x ∈ L, x < 256) (wx1 : ManIn W v1) : Calls Tryz.prog 3 #[v0, v1] W fun e w' => e = .returned (.bool true) ∧ Below W.heap.size W w' := by
  obtain ⟨x0, x1, x2, A, k, cp, R, rfl, hk, hR, hx2, -⟩ := wx1
  obtain ⟨A8, off8, cap8, rfl, hmx8, -⟩ := hl2.form
  have HM := Lib.hid (fun W => mapped_true api iap W)
  unfold MfTrueEnd at HM
  have hb0 := (Below.refl W.heap.size W).alloc (Nat.le_refl _) (manO x0 x1 x2 (.slice A k cp))
  have bm := Blok.new W 26 #[.int .i64 x0, .int .i64 x1, .int .u64 (x2 : Nat), (.slice A k cp)]
  have hRa := hR.below hb0 (Nat.le_refl _)
  have h8 := u8s_below hl2 hb0 (Nat.le_refl _)
  obtain ⟨wa, hwa⟩ : ∃ wa, wa = W.alloc (manO x0 x1 x2 (.slice A k cp)) := ⟨_, rfl⟩
  rw [← hwa] at hb0 bm hRa h8
  have HB0 := Lib.hid hb0
  have HBM := Lib.hid bm
  have HR := Lib.hid hRa
  have H8 := Lib.hid h8
  have HW8 := Lib.hid wl2
  have HWA := Lib.hid hwa
  have HG1 := Lib.hid (lgreat_any (.slice A k cp) R wa hRa)
  have HK := Lib.hid hk
  have m3 : wa.cell? ⟨W.heap.size, 3, none⟩ = some (.slice A k cp) := bm.cell 3
  obtain ⟨N, hN⟩ : ∃ N, N = L.length := ⟨_, rfl⟩
  have HN := Lib.hid hN
  rw [← hN] at hmx8 H8 ⊢
  unfold maxLen at hmx8
  unfold LvGreatEnd at HG1
  unfold manV
  clear hb0 bm hRa hR h8 hl2 wl2 hwa hk hx2 hN
  go_enter Tryz.func3, Tryz.ntmps3
  go_upto_region 1 with fail
  rw [← HWA.out]
  clear HWA
  by_cases hz : 60 < N
  case pos =>
    have t1 : (60 : Int) < (N : Int) := by omega
    clear hmx8
    go_wp2_with fail
    refine (HM.out _).mono ?_
    rintro e wz ⟨rfl, hbz⟩
    have HZ := Lib.hid (bj HB0.out hbz)
    clear hbz
    go_wp2
    go_ret
    exact ⟨rfl, HZ.out⟩
  have t1 : ¬ (60 : Int) < (N : Int) := by omega
  have t1' : decide ((60 : Int) < (N : Int)) = false := decide_eq_false t1
  have hN60 : N ≤ 60 := by omega
  go_wp2_with fail
  refine HG1.out.mono ?_
  rintro e wx ⟨q, rfl, hwx, hq1⟩
  obtain rfl : wa = wx := hwx.symm
  cases q with
  | true =>
    clear hq1 HG1
    go_wp2_with fail
    refine (HM.out _).mono ?_
    rintro e wz ⟨rfl, hbz⟩
    have HZ := Lib.hid (bj HB0.out hbz)
    clear hbz
    go_wp2
    go_ret
    exact ⟨rfl, HZ.out⟩
  | false =>
  have HF1 := Lib.hid (hq1 rfl)
  have fl1 := few_flat HF1.out
  have ll1 : R.length ≤ 10 := HF1.out.1
  have HFL := Lib.hid (files_any api (.slice A8 N cap8) L wa H8.out HW8.out (by rw [← HN.out]; exact hN60))
  have HORP := Lib.hid (fun W' (h : Below wa.heap.size wa W') (vs : Value) (l : List ByteArray) (hs : StrsAt W' vs l) (hl : l.length ≤ 1000) (hz : ∀ x ∈ l, x.size ≤ maxLen) => orphr_any vs l x0 x1 x2 A k cp R W' hs hl hz (HR.out.below h (Nat.le_refl _)) (by omega) (by omega))
  have HORI := Lib.hid (fun (D : DiskS) (E : List Nat) W' g (h : DS At wa g D E W') (ok : WfP D) => iap.orphans x0 x1 x2 A k cp R h ok (Holds.of_in HR.out) HK.out (by omega) (by omega))
  have HCLI := Lib.hid (fun (D : DiskS) (E : List Nat) W' g (h : DS At wa g D E W') (ok : WfP D) => iap.clean x0 x1 x2 A k cp R h ok (Holds.of_in HR.out) HK.out (by omega) (by omega))
  unfold manV at HORP HORI HCLI
  clear hq1 HG1 hz fl1 ll1 HF1 HR H8 HW8 HN m3
  go_wp2_with fail
  refine HFL.out.mono ?_
  rintro e w2 ⟨g, D, rfl, hD2, hF⟩
  have KN := Lib.hid (im_names api hD2 hF.up.wf)
  have hnd : (namesS D).Nodup := names_apart (hD2.rise api)
  obtain ⟨D1, d1, d2, d3, d4, d5, d6⟩ := clean_left hF.up hnd ⟨x0, x1, x2, R⟩
  have hlen60 : (namesS D).length ≤ 60 := by unfold namesS; rw [List.length_map]; exact hF.len
  have hnz : ∀ x ∈ namesS D, x.size ≤ maxLen := fun x hx => Nat.le_trans (hF.name x hx) (by decide)
  have hnil : ∀ (P : Prop), (D.l ≠ [] → P) → namesS D ≠ [] → P := fun P h h2 => h (fun e => h2 (by unfold namesS; rw [e]; rfl))
  obtain ⟨NM, hNM⟩ : ∃ NM, NM = namesS D := ⟨_, rfl⟩
  obtain ⟨NM1, hNM1⟩ : ∃ NM1, NM1 = namesS D1 := ⟨_, rfl⟩
  rw [← hNM] at hlen60 hnz hnil d5
  rw [← hNM1] at d5 d6
  have HNM : Hid (D.l.map FileS.name = NM) := Lib.hid hNM.symm
  have HNM1 : Hid (D1.l.map FileS.name = NM1) := Lib.hid hNM1.symm
  have HD1 := Lib.hid d1
  have HD5 := Lib.hid d5
  have HD6 := Lib.hid d6
  have HOK := Lib.hid hF.up.wf
  have HOK1 := Lib.hid d2.wf
  have HNL := Lib.hid hlen60
  have HNZ := Lib.hid hnz
  have HNIL := Lib.hid hnil
  clear hD2 hF hnd d1 d2 d3 d4 d5 d6 HFL hNM hNM1 hlen60 hnz hnil
  go_wp2_with fail
  refine KN.out.mono ?_
  rintro e w3 ⟨v3, B3, rfl, hs3, hD3, -, hB3⟩
  have hB3' : NM ≠ [] → ∀ b ∈ ownL v3, b ∈ B3 := HNIL.out _ hB3
  rw [HNM.out] at hs3
  have KO := Lib.hid (HORP.out w3 hD3.kept v3 NM hs3 (by have := HNL.out; omega) HNZ.out)
  obtain ⟨A3, c3, rfl⟩ := hs3.shape
  have HB3 := Lib.hid hB3'
  have HS3 := Lib.hid hs3
  have HD3 := Lib.hid hD3
  have mb := mblok_below HBM.out hD3.kept
  have m0 : w3.cell? ⟨W.heap.size, 0, none⟩ = some (.int .i64 x0) := mb.cell 0
  have m1 : w3.cell? ⟨W.heap.size, 1, none⟩ = some (.int .i64 x1) := mb.cell 1
  have m2 : w3.cell? ⟨W.heap.size, 2, none⟩ = some (.int .u64 (x2 : Nat)) := mb.cell 2
  have m3 : w3.cell? ⟨W.heap.size, 3, none⟩ = some (.slice A k cp) := mb.cell 3
  clear mb
  clear hs3 hD3 hB3 hB3' KN
  go_wp2_with fail
  -- T
  refine KO.out.mono ?_
  rintro e w4 ⟨A4, n4, c4, rfl, -, hrow4, hb4⟩
  have hD4 := HD3.out.more api hb4 (B := ownL (.slice A4 n4 c4)) (fun b hb => hrow4.block b (ownL_mem.1 hb))
  have HS4 := Lib.hid (HS3.out.below hb4 (Nat.le_refl _))
  have HG4 := Lib.hid hrow4.in_
  have K5 := Lib.hid (HORI.out D _ w4 g hD4 HOK.out)
  clear m0 m1 m2 m3 KO HS3 HD3 hrow4 hb4
  have mb := mblok_below HBM.out hD4.kept
  have m0 : w4.cell? ⟨W.heap.size, 0, none⟩ = some (.int .i64 x0) := mb.cell 0
  have m1 : w4.cell? ⟨W.heap.size, 1, none⟩ = some (.int .i64 x1) := mb.cell 1
  have m2 : w4.cell? ⟨W.heap.size, 2, none⟩ = some (.int .u64 (x2 : Nat)) := mb.cell 2
  have m3 : w4.cell? ⟨W.heap.size, 3, none⟩ = some (.slice A k cp) := mb.cell 3
  clear mb
  clear hD4
  go_wp2_with fail
  refine K5.out.mono ?_
  rintro e w5 ⟨v5, rfl, hv5, hD5, hK5⟩
  rw [HNM.out] at hv5
  have HG5 := Lib.hid (HG4.out.keeps hK5 (fun _ b hb => List.mem_append_left _ hb))
  have HS5 := Lib.hid (HS4.out.keeps hK5 (fun h b hb => List.mem_append_right _ (List.mem_append_left _ (HB3.out h b hb))))
  have KM := ssame_any v5 (.slice A4 n4 c4) _ _ w5 hv5 HG5.out
  unfold LIntsSame at KM
  rw [decide_eq_true rfl] at KM
  have K := Lib.hid KM
  obtain ⟨A5, n5, c5, rfl⟩ := hv5.shape2
  have HD5' := Lib.hid hD5
  clear hv5 hD5 hK5 KM HS4 HG4 K5 m0 m1 m2 m3
  go_wp2_with fail
  -- U
  refine K.out.mono ?_
  rintro e w6 ⟨rfl, n6, rfl⟩
  have hD6 := HD5'.out.drewN api n6
  have K7 := HCLI.out D _ _ g hD6 HOK.out
  rw [HD1.out] at K7
  have HS6 := Lib.hid (HS5.out.below (below_drewN (Below.refl w5.heap.size w5) n6) (Nat.le_refl _))
  have K7 := Lib.hid K7
  have mb := mblok_below HBM.out hD6.kept
  have m0 : (w5.drewN n6).cell? ⟨W.heap.size, 0, none⟩ = some (.int .i64 x0) := mb.cell 0
  have m1 : (w5.drewN n6).cell? ⟨W.heap.size, 1, none⟩ = some (.int .i64 x1) := mb.cell 1
  have m2 : (w5.drewN n6).cell? ⟨W.heap.size, 2, none⟩ = some (.int .u64 (x2 : Nat)) := mb.cell 2
  have m3 : (w5.drewN n6).cell? ⟨W.heap.size, 3, none⟩ = some (.slice A k cp) := mb.cell 3
  clear mb
  clear hD6 K HD5' HS5 HG5
  go_wp2_with fail
  refine K7.out.mono ?_
  rintro e w7 ⟨rfl, hD7, hK7⟩
  have HS7 := Lib.hid (HS6.out.keeps hK7 (fun h b hb => List.mem_append_right _ (List.mem_append_right _ (List.mem_append_left _ (HB3.out h b hb)))))
  have HD7 := Lib.hid (hD7.less (E' := []) (fun b hb => by cases hb))
  clear hD7 hK7 K7 HS6 HB3 HD1 HOK m0 m1 m2 m3
  -- C
  obtain ⟨A9, c9, e9, ho9⟩ := HS7.out.one
  obtain ⟨rfl, rfl⟩ : A3 = A9 ∧ c3 = c9 := by
    injection e9 with e1 e2 e3
    exact ⟨e1, e3⟩
  have HO := Lib.hid ho9
  obtain ⟨n0, hn0⟩ : ∃ n0, n0 = NM.length := ⟨_, rfl⟩
  have HN0 := Lib.hid hn0
  rw [← hn0] at HNL HO ⊢
  clear e9 ho9 hn0 HS7
  go_wp2_with fail
  go_loopg [8, 9] n0 (fun g' u i wr => ∃ (j : Nat) (A9 : Option Addr) (n9 c9 : Nat), j + g' = n0 ∧ i = .int .i64 j ∧ u = .slice A9 n9 c9 ∧ n9 = (leftL R.flatten (NM.take j)).length ∧ SRow wr w7.heap.size (.slice A9 n9 c9) (leftL R.flatten (NM.take j)) ∧ Below w7.heap.size w7 wr)
  case atStart => exact ⟨0, none, 0, 0, by omega, rfl, rfl, rfl, SRow.nil _ _, Below.refl _ _⟩
  case round =>
    obtain ⟨j, A9, n9, c9, hjg, rfl, rfl, hn9, hrow, hbx⟩ := hrel
    have HN9 := Lib.hid hn9
    have HROW := Lib.hid hrow
    have HBX := Lib.hid hbx
    have HLE := Lib.hid (show n9 ≤ 60 by rw [hn9]; exact Nat.le_trans (left_len _ _) (by rw [List.length_take]; have := HNL.out; omega))
    clear hrow hbx hn9
    by_cases hjm : j < n0
    case neg =>
      obtain rfl : j = n0 := by omega
      have t2 : decide ((j : Int) < (j : Int)) = false := decide_eq_false (by omega)
      have ht : NM.take j = NM := by rw [HN0.out, List.take_length]
      have hle : leftL R.flatten NM = NM1 := HD5.out.symm
      have hrow := HROW.out
      rw [ht, hle] at hrow
      have hD9 := HD7.out.more api HBX.out (B := ownL (.slice A9 n9 c9)) (fun b hb => HROW.out.block b (ownL_mem.1 hb))
      have HG9 := Lib.hid hrow.in_
      have KN := Lib.hid (im_names api hD9 HOK1.out)
      clear ht hle hrow hD9 HROW HBX HD7
      go_upto_region 14 with fail
      go_wp2_with fail
      refine KN.out.mono ?_
      rintro e w10 ⟨v10, B10, rfl, hs10, hD10, hK10, -⟩
      rw [HNM1.out] at hs10
      have hg10 := HG9.out.keeps hK10 (fun _ b hb => List.mem_append_left _ hb)
      have KM := ssame_any v10 (.slice A9 n9 c9) _ _ w10 hs10 hg10
      unfold LIntsSame at KM
      rw [decide_eq_true rfl] at KM
      have K := Lib.hid KM
      obtain ⟨A10, n10, c10, rfl⟩ := hs10.shape2
      have HD10 := Lib.hid hD10
      clear hs10 hD10 hK10 hg10 KM KN HG9
      go_wp2_with fail
      refine K.out.mono ?_
      rintro e w11 ⟨rfl, n11, rfl⟩
      have hD11 := HD10.out.drewN api n11
      have K12 := Lib.hid (HORI.out D1 _ _ g hD11 HOK1.out)
      have mb := mblok_below HBM.out hD11.kept
      have m0 : (w10.drewN n11).cell? ⟨W.heap.size, 0, none⟩ = some (.int .i64 x0) := mb.cell 0
      have m1 : (w10.drewN n11).cell? ⟨W.heap.size, 1, none⟩ = some (.int .i64 x1) := mb.cell 1
      have m2 : (w10.drewN n11).cell? ⟨W.heap.size, 2, none⟩ = some (.int .u64 (x2 : Nat)) := mb.cell 2
      have m3 : (w10.drewN n11).cell? ⟨W.heap.size, 3, none⟩ = some (.slice A k cp) := mb.cell 3
      clear mb
      clear hD11 K HD10
      go_wp2_with fail
      refine K12.out.mono ?_
      rintro e w12 ⟨v12, rfl, hs12, hD12, -⟩
      rw [HNM1.out, show orphL NM1 ⟨x0, x1, x2, R⟩ = [] from HD6.out] at hs12
      obtain ⟨A12, c12, rfl⟩ := hs12.shape
      have HD12 := Lib.hid (bj HB0.out hD12.kept)
      clear hs12 hD12 K12 m0 m1 m2 m3
      go_wp2_with fail
      refine (HM.out _).mono ?_
      rintro e wz ⟨rfl, hbz⟩
      have HZ := Lib.hid (bj HD12.out hbz)
      clear hbz
      go_wp2
      go_ret
      exact ⟨rfl, HZ.out⟩
    have t2 : decide ((j : Int) < (n0 : Int)) = true := decide_eq_true (by omega)
    have t2' : (j : Int) < (n0 : Int) := by omega
    have hn60 : (n0 : Int) ≤ 60 := by have := HNL.out; omega
    have hj0 : (0 : Int) ≤ (j : Int) := by omega
    have hj1 : (j : Int) ≤ (j : Int) + 1 := by omega
    have hj2 : (j : Int) + 1 ≤ (n0 : Int) := by omega
    have hwr : IntKind.i64.wrap ((j : Int) + 1) = (j : Int) + 1 := by rw [IntKind.wrap_i64]; omega
    obtain ⟨x, hx⟩ : ∃ x, NM[j]? = some x := by
      rw [HN0.out] at hjm
      exact ⟨NM[j], List.getElem?_eq_getElem hjm⟩
    have hxz := HNZ.out x (List.mem_of_getElem? hx)
    obtain ⟨b, off, e1, hsl, hcl⟩ := HO.out j x hx
    subst e1
    have HTK := Lib.hid (left_take (fl := R.flatten) hx)
    obtain ⟨ob, hob⟩ : ∃ ob, orphB R.flatten x = ob := ⟨_, rfl⟩
    have hone : decide (orphL [x] ⟨x0, x1, x2, R⟩ = [x]) = ob := (orph_one x ⟨x0, x1, x2, R⟩).trans hob
    rw [hob] at HTK
    have HREF := Lib.hid (fun W' (h : Below wr.heap.size wr W') => HORP.out W' (bj HD7.out.kept (bj HBX.out h)) _ [x] (hcl W' (bj HBX.out h)).2 (by simp) (fun y hy => by rw [List.mem_singleton.1 hy]; exact hxz))
    have HSM := Lib.hid (fun W' va (h : Below wr.heap.size wr W') (ha : StrsAt W' va (orphL [x] ⟨x0, x1, x2, R⟩)) => (by
      have := ssame_any va _ _ [x] W' ha (hcl W' (bj HBX.out h)).2
      rw [hone] at this
      exact this : Calls Tryz.prog 12 #[va, .slice (some ⟨b, off + j, none⟩) 1 (c3 - j)] W' (LIntsSame ob W')))
    unfold LIntsSame at HSM
    have HC := Lib.hid (fun W' (h : Below wr.heap.size wr W') => (hcl W' (bj HBX.out h)).1)
    have HBW := Lib.hid (fun W' (h : Below wr.heap.size wr W') => mblok_below HBM.out (bj HD7.out.kept (bj HBX.out h)))
    clear hone hob hx hxz hcl
    have mb := mblok_below HBM.out (bj HD7.out.kept HBX.out)
    have m0 : wr.cell? ⟨W.heap.size, 0, none⟩ = some (.int .i64 x0) := mb.cell 0
    have m1 : wr.cell? ⟨W.heap.size, 1, none⟩ = some (.int .i64 x1) := mb.cell 1
    have m2 : wr.cell? ⟨W.heap.size, 2, none⟩ = some (.int .u64 (x2 : Nat)) := mb.cell 2
    have m3 : wr.cell? ⟨W.heap.size, 3, none⟩ = some (.slice A k cp) := mb.cell 3
    clear mb
    cases gk with
    | zero => omega
    | succ gj =>
    go_upto_region 12 with fail
    go_cut [57] (fun u wx => u = .bool (!ob) ∧ Below wr.heap.size wr wx)
    case first =>
      have HS : Hid (∀ Wn, Below wr.heap.size wr Wn → Below wr.heap.size wr Wn ∧ Wn.cell? ⟨W.heap.size, 0, none⟩ = some (.int .i64 x0) ∧ Wn.cell? ⟨W.heap.size, 1, none⟩ = some (.int .i64 x1) ∧ Wn.cell? ⟨W.heap.size, 2, none⟩ = some (.int .u64 (x2 : Nat)) ∧ Wn.cell? ⟨W.heap.size, 3, none⟩ = some (.slice A k cp)) :=
        Lib.hid fun Wn h => ⟨h, (HBW.out Wn h).cell 0, (HBW.out Wn h).cell 1, (HBW.out Wn h).cell 2, (HBW.out Wn h).cell 3⟩
      clear HC HTK HROW HLE HO
      go_region_held3 (fun Wn => Below wr.heap.size wr Wn ∧ Wn.cell? ⟨W.heap.size, 0, none⟩ = some (.int .i64 x0) ∧ Wn.cell? ⟨W.heap.size, 1, none⟩ = some (.int .i64 x1) ∧ Wn.cell? ⟨W.heap.size, 2, none⟩ = some (.int .u64 (x2 : Nat)) ∧ Wn.cell? ⟨W.heap.size, 3, none⟩ = some (.slice A k cp))
        (first | (with_reducible assumption) | ((with_reducible refine HS.out _ ?_); (repeat' (first | (with_reducible assumption) | (with_reducible exact Below.refl _ _) | (with_reducible refine Below.drew ?_))); done) | fail)
        (first
        | (go_at_call 11; ((with_reducible refine (HREF.out _ (And.left (by with_reducible assumption))).mono ?_); rintro e w' ⟨A7, n7, c7, rfl, -, hr7, hb⟩; have hs7 := hr7.in_; have hB2 := hold_s hb (by with_reducible assumption)))
        | (go_at_call 12; ((with_reducible refine (HSM.out _ _ (And.left (by with_reducible assumption)) (by repeat' (first | (with_reducible assumption) | (with_reducible refine StrsAt.drew ?_)))).mono ?_); rintro e w8 ⟨rfl, n8, rfl⟩; have hB3 := hold_n n8 (by with_reducible assumption)))
        | fail)
      all_goals
        go_wp2
        go_meet
        exact ⟨rfl, by with_reducible assumption⟩
    case rest =>
      obtain ⟨rfl, hbc⟩ := hcut
      have HR9 := Lib.hid (HROW.out.below hbc (Nat.le_refl _))
      have HB9 := Lib.hid (HBX.out.trans (hbc.mono HBX.out.size))
      have e2 := HC.out wc hbc
      clear hbc HROW HBX HREF HSM HC HBW m0 m1 m2 m3 hsl
      cases ob with
      | true =>
        have ht := HTK.out
        rw [if_neg (by simp), List.append_nil] at ht
        have HF2 := HR9.out
        rw [← ht] at HF2
        have HLN := Lib.hid (show n9 = (leftL R.flatten (NM.take (j + 1))).length by rw [ht]; exact HN9.out)
        have HF2 := Lib.hid HF2
        clear ht
        go_wp2_with fail
        go_roundg gj
        case measure => omega
        case rel => exact ⟨j + 1, A9, n9, c9, by omega, by go_num, by first | rfl | go_num, HLN.out, HF2.out, HB9.out⟩
      | false =>
        have ht := HTK.out
        rw [if_pos (by simp)] at ht
        obtain ⟨w5', u5, f1, ⟨A6, c6, rfl, f2⟩, f3⟩ := strs_more (x := x) HR9.out HN9.out (by have := HLE.out; omega) HB9.out.size 31
        rw [← ht] at f2
        have HLN := Lib.hid (show n9 + 1 = (leftL R.flatten (NM.take (j + 1))).length by rw [ht, List.length_append, ← HN9.out]; rfl)
        have HF1 := Lib.hid f1
        have HF2 := Lib.hid f2
        have HF3 := Lib.hid (HB9.out.trans f3)
        clear f1 f2 f3 ht
        go_wp2_with (first | (at_builtin; refine wpList_append_two rfl _ _ rfl rfl rfl HF1.out ?_) | fail)
        go_roundg gj
        case measure => omega
        case rel => exact ⟨j + 1, A6, n9 + 1, c6, by omega, by go_num, by first | rfl | go_num, HLN.out, HF2.out, HF3.out⟩
end
end ImOrphans
end Go.Proofs.YtbhgngimebecdaaGreat
