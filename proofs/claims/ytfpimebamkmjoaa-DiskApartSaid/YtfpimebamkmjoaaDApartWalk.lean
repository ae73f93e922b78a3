/- DiskApart: the walk. -/
import Derived.Test.YtfpimebamkmjoaaDApart
import Derived.Test.YtfpimebamkmjoaaDiskInts
namespace Go.Proofs.Ytfpimebamkmjoaa.apartOf
open Go.RowKit
set_option linter.unusedVariables false

section
variable {w w1 w' : World} {base g mb : Nat} {vF : Value} {E E' : List Ent} {K F : List Nat} {D D' : DiskS}
/-- Crash, where an empty order may stand at any address. -/
theorem crash_keepP (vK : Value) (keep : List Int) (h : PAt w base g mb vF E K D) (hok : ProgOk D) (hI : IntsIn w vK keep) (hV : keep ≠ [] → ∀ b, vK.ownBlock = some b → b ∉ blocksP g mb E K) :
    Calls Try.prog 31 #[ptr g, vK] w (EndAt ProgAt base g (blocksP g mb E K) w (err (crashS D keep).1) (crashS D keep).2) := by
  have hr := Lib.hid (ready_run h)
  have HH := Lib.hid h
  have HF := Lib.hid (fall_run vK keep h hok hI (fun hne b hb hm => hV hne b hb (fall_far b (List.mem_cons_of_mem _ hm))))
  obtain ⟨A, off, cap, rfl, -⟩ := hI.cell
  generalize keep.length = kl at *
  unfold readyR at hr
  unfold crashS
  cases hd : D.down
  · rw [hd] at hr
    clear hd h hok hI hV
    go_enter Try.func31, Try.ntmps31
    go_wp2_with fail
    refine hr.out.mono ?_
    rintro e w' ⟨rfl, rfl⟩
    go_wp2_with fail
    refine HF.out.mono ?_
    rintro e w2 ⟨E2, rfl, h1, h2, h3⟩
    have H1 := Lib.hid h1
    have H2 := Lib.hid h2
    have H3 := Lib.hid h3
    clear h1 h2 h3 HF
    go_wp2
    go_ret
    exact end_sunk H1.out H2.out H3.out _
  · rw [hd] at hr
    clear hd h hok hI hV HF
    go_enter Try.func31, Try.ntmps31
    go_wp2_with fail
    refine hr.out.mono ?_
    rintro e w' ⟨rfl, rfl⟩
    go_wp2
    go_ret
    exact end_same HH.out _
theorem crash_keep (vK : Value) (keep : List Int) (h : ProgAt w base g F D) (hok : ProgOk D) (hI : IntsIn w vK keep) (hV : keep ≠ [] → ∀ b, vK.ownBlock = some b → b ∉ F) :
    Calls Try.prog 31 #[ptr g, vK] w (EndAt ProgAt base g F w (err (crashS D keep).1) (crashS D keep).2) := by
  obtain ⟨mb, vF, E, K, h, rfl⟩ := h
  exact crash_keepP vK keep h hok hI hV
end
theorem LiveG.drewN {w0 w wG : World} {g : Nat} {G : List Nat} {D : DiskS} (h : LiveG ProgAt w0 g G wG D w) (n : Nat) : LiveG ProgAt w0 g [] w0 D (w.drewN n) := by
  obtain ⟨F, h1, h2, h3⟩ := h
  have ht : Touch [] w (w.drewN n) := (Touch.refl [] w).drewN n
  exact ⟨F, api.touch h1 ht (fun _ _ => by simp), h2.trans ht (fun x hx => by cases hx), fun b hb => by cases hb⟩
theorem read_keeps (D : DiskS) (n : ByteArray) (a k : Int) : (readS D n a k).2.2.l = D.l ∧ (readS D n a k).2.2.cap = D.cap := by
  unfold readS
  split
  · exact ⟨rfl, rfl⟩
  · dsimp only
    split
    · exact ⟨rfl, rfl⟩
    · split <;> exact ⟨rfl, rfl⟩
theorem nO_le : nO.size ≤ maxLen := by unfold maxLen; decide +kernel
theorem nF_le : nF.size ≤ maxLen := by unfold maxLen; decide +kernel
theorem nG_le : nG.size ≤ maxLen := by unfold maxLen; decide +kernel
def s0 : DiskS := newS 1048576
def s1 : DiskS := ⟨1048576, [⟨nO, ByteArray.empty, 0⟩], 0, false, 0, 0, []⟩
def s2 (b : ByteArray) : DiskS := ⟨1048576, [⟨nO, b, 0⟩], 0, false, 0, 0, []⟩
def s3 (b : ByteArray) : DiskS := ⟨1048576, [⟨nO, b, b.size⟩], 0, false, 0, 0, []⟩
def s4 (b : ByteArray) : DiskS := two nF ByteArray.empty 0 b 0 0 false []
theorem st1 : createS s0 nO = (0, s1) := rfl
theorem fO1 (d : ByteArray) (k : Nat) : findS [⟨nO, d, k⟩] nO = 0 := by
  unfold findS
  rw [List.findIdx_cons, decide_eq_true rfl]
  rfl
theorem st2 (b : ByteArray) (h : b.size ≤ 1000) : appendS s1 nO b = (0, s2 b) := by
  have hf : findS s1.l nO = 0 := fO1 _ _
  have hu : usedS s1.l = 0 := rfl
  unfold appendS
  rw [if_neg (show ¬ s1.down = true from fun h => Bool.noConfusion h), hf, if_pos (by show 0 < 1; omega), hu, if_neg (by show ¬ 1048576 < 0 + b.size; omega), if_pos (show goesS s1 = true from rfl)]
  have hE : nextS (appE s1 nO b) = s2 b := by
    unfold nextS appE
    rw [hf]
    show ({ cap := 1048576, l := [⟨nO, ByteArray.empty ++ b, 0⟩], count := 0, down := false, starts := 0, fails := 0, keep := [] } : DiskS) = s2 b
    rw [ByteArray.empty_append]
    rfl
  rw [hE]
theorem st3 (b : ByteArray) : syncS (s2 b) nO = (0, s3 b) := by
  have hf : findS (s2 b).l nO = 0 := fO1 _ _
  unfold syncS
  rw [if_neg (show ¬ (s2 b).down = true from fun h => Bool.noConfusion h), hf, if_pos (by show 0 < 1; omega)]
  rfl
theorem st4 (b : ByteArray) : createS (s3 b) nF = (0, s4 b) := by
  have hf : findS (s3 b).l nF = 1 := by
    show findS [⟨nO, b, b.size⟩] nF = 1
    unfold findS
    rw [List.findIdx_cons, decide_eq_false (fun e => fFO e.symm)]
    rfl
  have ha : aheadS (s3 b).l nF = 0 := by
    show aheadS [⟨nO, b, b.size⟩] nF = 0
    unfold aheadS
    rw [List.findIdx_cons]
    show (bif !lessB nO nF then 0 else _) = 0
    rw [show lessB nO nF = false by decide +kernel]
    rfl
  have hl : layS (s3 b).l ⟨nF, ByteArray.empty, 0⟩ = [⟨nF, ByteArray.empty, 0⟩, ⟨nO, b, b.size⟩] := by
    unfold layS
    rw [ha]
    rfl
  unfold createS
  rw [if_neg (show ¬ (s3 b).down = true from fun h => Bool.noConfusion h), hf, if_neg (show ¬ (!nameB nF) = true by decide +kernel), if_neg (by show ¬ 1 < 1; omega), if_neg (by show ¬ 400 ≤ 1; omega), hl]
  rfl
theorem one_wf {d : ByteArray} {s : Nat} (h1 : s ≤ d.size) (h2 : d.size ≤ 1048576) : Wf ⟨1048576, [⟨nO, d, s⟩], 0, false, 0, 0, []⟩ := by
  refine ⟨fun f hf => ?_, ?_, Nat.le_refl _, by show 1 ≤ 400; omega, Nat.zero_le _⟩
  · obtain rfl : f = ⟨nO, d, s⟩ := by simpa using hf
    exact h1
  · show usedS [_] ≤ 1048576
    unfold usedS
    simp
    exact h2
set_option maxRecDepth 100000 in
set_option maxHeartbeats 4000000 in
theorem walk (W : World) (v0 : Value) (l0 : List ActS) (b : ByteArray) (hl : ActsIn W v0 l0) (hok : ∀ x ∈ l0, ActOk W x) (hb : b.size ≤ maxLen) : Calls Try.prog 7 #[v0, .string b] W fun e w' => e = .returned (.bool true) ∧ Below W.heap.size W w' := by
  have hg := Lib.hid (great_any v0 l0 60 W hl hok (by decide))
  obtain ⟨A, off, cap, rfl, ml, -⟩ := hl.len
  have HL := Lib.hid hl
  have HOK := Lib.hid hok
  have hsk := Lib.hid (fun w => sinks_true api w)
  unfold maxLen at ml hb
  have ml2 : l0.length ≤ 9223372036854775807 := by omega
  have hb2 : b.size ≤ 9223372036854775807 := by omega
  clear hl hok ml hb
  cases hgr : greatS l0 60
  case true =>
    rw [hgr] at hg
    clear hgr
    go_enter Try.func7, Try.ntmps7
    go_wp2_with fail
    refine hg.out.mono ?_
    rintro e w' ⟨rfl, rfl⟩
    go_wp2_with fail
    refine (hsk.out _).mono ?_
    rintro e w2 ⟨rfl, hb⟩
    have HB := Lib.hid hb
    clear hb hsk
    go_wp2
    go_ret
    exact ⟨rfl, HB.out⟩
  rw [hgr] at hg
  by_cases hbig : 1000 < b.size
  case pos =>
    have t : decide ((1000 : Int) < (b.size : Int)) = true := decide_eq_true (by omega)
    clear hgr
    go_enter Try.func7, Try.ntmps7
    go_wp2_with fail
    refine hg.out.mono ?_
    rintro e w' ⟨rfl, rfl⟩
    go_wp2_with fail
    refine (hsk.out _).mono ?_
    rintro e w2 ⟨rfl, hb⟩
    have HB := Lib.hid hb
    clear hb hsk
    go_wp2
    go_ret
    exact ⟨rfl, HB.out⟩
  have t : decide ((1000 : Int) < (b.size : Int)) = false := decide_eq_false (by omega)
  have hsm := Lib.hid (show (∀ x ∈ l0, bigA x = false) ∧ l0.length ≤ 60 from by
    unfold greatS at hgr
    simp only [Bool.or_eq_false_iff, decide_eq_false_iff_not, List.any_eq_false] at hgr
    exact ⟨fun x hx => by simpa using hgr.2 x hx, by omega⟩)
  have HBS := Lib.hid (show b.size ≤ 1000 by omega)
  clear hgr hbig
  go_enter Try.func7, Try.ntmps7
  go_wp2_with fail
  refine hg.out.mono ?_
  rintro e w' ⟨rfl, rfl⟩
  clear hg
  go_wp2_with fail
  refine (api.new_ W.heap.size 1048576 W (Nat.le_refl _) (by decide)).mono ?_
  rintro e w1 ⟨g, F1, rfl, hA, hF1, hT1⟩
  have L0 := Lib.hid (show LiveG ProgAt W g [] W s0 w1 from ⟨F1, hA, hT1, fun b hb => by cases hb⟩)
  clear hA hF1 hT1
  go_wp2_with fail
  refine (LiveG.call0 api L0.out (fun F h => api.create nO h (one_wf (d := ByteArray.empty) (s := 0) (Nat.zero_le _) (by decide) |> fun _ => (wf_new (by decide)).ok.prog) nO_le)).mono ?_
  rintro e w2 ⟨rfl, hL⟩
  rw [st1] at hL ⊢
  have L1 := Lib.hid hL
  clear hL L0
  go_wp2_with fail
  refine (LiveG.call0 api L1.out (fun F h => api.append nO b h (one_wf (Nat.zero_le _) (by decide)).ok.prog (by have := HBS.out; omega) nO_le)).mono ?_
  rintro e w3 ⟨rfl, hL⟩
  rw [st2 b HBS.out] at hL ⊢
  have L2 := Lib.hid hL
  clear hL L1
  go_wp2_with fail
  refine (LiveG.call0 api L2.out (fun F h => api.sync nO h (one_wf (Nat.zero_le _) (by have := HBS.out; omega)).ok.prog nO_le)).mono ?_
  rintro e w4 ⟨rfl, hL⟩
  rw [st3 b] at hL ⊢
  have L3 := Lib.hid hL
  clear hL L2
  go_wp2_with fail
  refine (LiveG.call0 api L3.out (fun F h => api.create nF h (one_wf (Nat.le_refl _) (by have := HBS.out; omega)).ok.prog nF_le)).mono ?_
  rintro e w5 ⟨rfl, hL⟩
  rw [st4 b] at hL ⊢
  have L4 := Lib.hid hL
  have HAP := Lib.hid (show Ap b 0 (s4 b) from ⟨ByteArray.empty, 0, 0, 0, [], rfl, Nat.zero_le _, by have := HBS.out; show 0 + b.size ≤ _; omega, Nat.zero_le _, Nat.zero_le _⟩)
  clear hL L3
  go_wp2
  go_loopw [7] (fun i wr => ∃ (k : Nat) (D : DiskS), k ≤ l0.length ∧ i = .int .i64 k ∧ LiveG ProgAt W g [] W D wr ∧ Ap b (3 * k) D) (fun i _ => l0.length - (intOf i).toNat)
  case atStart => exact ⟨0, _, Nat.zero_le _, rfl, L4.out, HAP.out⟩
  case round =>
    obtain ⟨k, D, hk, rfl, hL, hAp⟩ := hrel
    have LL := Lib.hid hL
    have AA := Lib.hid hAp
    have hTW : Touch [] W wr := by obtain ⟨F, _, h, _⟩ := hL; exact h
    have HTW := Lib.hid hTW
    by_cases hlt : k < l0.length
    · have hx : l0[k]? = some l0[k] := List.getElem?_eq_getElem hlt
      generalize l0[k] = x at *
      obtain ⟨A2, o2, c2, hv, -, hcell⟩ := (acts_touch HL.out hTW).len
      obtain ⟨hA2, -, -⟩ := Value.slice.inj hv
      subst hA2
      clear hv
      obtain ⟨bb, rfl, d0, d1, d2, d3, d4, d5, d6⟩ := hcell k x hx
      have okx := HOK.out x (List.mem_of_getElem? hx)
      obtain ⟨kA, ko, kc, hkv, mk, -⟩ := okx.keep.cell
      have hbx := LiveG.box api hL x
      have HBX := Lib.hid hbx
      have OKX := Lib.hid okx
      have SMX := Lib.hid (hsm.out.1 x (List.mem_of_getElem? hx))
      have HX := Lib.hid hx
      have hkind := okx.kind
      have hcase : x.kind % 7 = 0 ∨ x.kind % 7 = 1 ∨ x.kind % 7 = 2 ∨ x.kind % 7 = 3 ∨ x.kind % 7 = 4 ∨ x.kind % 7 = 5 ∨ x.kind % 7 = 6 := by omega
      have l1 : (k : Int) < (l0.length : Int) := by omega
      rw [hkv] at d6
      unfold actA at HBX
      rw [hkv] at HBX
      clear hcell okx hbx hx hL hAp hTW
      have hbnd : x.text.size ≤ 3000 ∧ x.keep.length ≤ 100 := by
        have := SMX.out
        unfold bigA at this
        simp only [Bool.or_eq_false_iff, decide_eq_false_iff_not] at this
        omega
      have HBD := Lib.hid hbnd
      have HAS := Lib.hid (ap_small AA.out (by have := hsm.out.2; omega))
      have hk60 := Lib.hid hsm.out.2
      clear hbnd
      rcases hcase with q | q | q | q | q | q | q
      case' inl =>
        have qi : (x.kind : Int) % 7 = 0 := by omega
        go_wp2_with fail
        refine (LiveA.call api HBX.out (fun F h => api.append nF x.text h AA.out.wf.ok.prog (by have := HBD.out.1; omega) nF_le)).mono ?_
        rintro e w9 ⟨rfl, hL⟩
        have T9 := Lib.hid (LiveA.out hL)
        have A9 := Lib.hid (ap_more (ap_more (ap_app AA.out x.text)))
        generalize (appendS D nF x.text).1 = r9 at *
        generalize (appendS D nF x.text).2 = D9 at *
        clear hL
      case' inr.inl =>
        have qi : (x.kind : Int) % 7 = 1 := by omega
        go_wp2_with fail
        refine (LiveA.call api HBX.out (fun F h => api.sync nF h AA.out.wf.ok.prog nF_le)).mono ?_
        rintro e w9 ⟨rfl, hL⟩
        have T9 := Lib.hid (LiveA.out hL)
        have A9 := Lib.hid (ap_more (ap_more (ap_sync AA.out)))
        generalize (syncS D nF).1 = r9 at *
        generalize (syncS D nF).2 = D9 at *
        clear hL
      case' inr.inr.inl =>
        have qi : (x.kind : Int) % 7 = 2 := by omega
        go_wp2_with fail
        refine (LiveA.call api HBX.out (fun F h => api.spoil nF x.place x.text h AA.out.wf.ok.prog OKX.out.place (by have := HBD.out.1; omega) nF_le)).mono ?_
        rintro e w9 ⟨rfl, hL⟩
        have T9 := Lib.hid (LiveA.out hL)
        have A9 := Lib.hid (ap_more (ap_more (ap_spoil AA.out x.place x.text)))
        generalize (spoilS D nF x.place x.text).1 = r9 at *
        generalize (spoilS D nF x.place x.text).2 = D9 at *
        clear hL
      case' inr.inr.inr.inl =>
        have qi : (x.kind : Int) % 7 = 3 := by omega
        go_wp2_with fail
        refine (LiveA.call api HBX.out (fun F h => api.cut nF x.n h AA.out.wf.ok.prog OKX.out.n nF_le)).mono ?_
        rintro e w9 ⟨rfl, hL⟩
        have T9 := Lib.hid (LiveA.out hL)
        have A9 := Lib.hid (ap_more (ap_more (ap_cut AA.out x.n)))
        generalize (cutS D nF x.n).1 = r9 at *
        generalize (cutS D nF x.n).2 = D9 at *
        clear hL
      case' inr.inr.inr.inr.inl =>
        have qi : (x.kind : Int) % 7 = 4 := by omega
        have hkI := Lib.hid (show ∀ w', Touch [] W w' → IntsIn w' (.slice kA x.keep.length kc) x.keep from fun w' ht => by rw [← hkv]; exact OKX.out.keep.touch ht (fun b _ => by simp))
        have hkF := Lib.hid (show ∀ (bk : Nat), (Value.slice kA x.keep.length kc).ownBlock = some bk → x.keep ≠ [] → bk < W.heap.size from fun bk hb hne => by
          have := OKX.out.keep
          rw [hkv] at this
          rcases this with ⟨e, _⟩ | ⟨b', _, _, e, _, _, hlt, _⟩
          · exact absurd e hne
          · rw [e] at hb
            injection hb with hb
            rw [← hb]
            exact hlt)
        go_wp2_with fail
        refine (LiveA.call api HBX.out (fun F h => crash_keep _ x.keep h AA.out.wf.ok.prog (hkI.out _ (LiveA.touch HBX.out)) (fun hne b hb hm => by have h1 := hkF.out b hb hne; have h2 := (api.low h b hm).1; omega))).mono ?_
        rintro e w8 ⟨rfl, hL8⟩
        have T8 := Lib.hid hL8
        have HCR := Lib.hid (ap_crash AA.out x.keep)
        clear hL8
        go_wp2_with fail
        refine (LiveA.call api T8.out (fun F h => api.start h HCR.out.2.1.ok.prog (by have h1 := HCR.out.2.2.1; have h2 := hk60.out; omega))).mono ?_
        rintro e w9 ⟨rfl, hL⟩
        have T9 := Lib.hid (LiveA.out hL)
        have A9 := Lib.hid (ap_more HCR.out.2.2.2)
        generalize (startS (crashS D x.keep).2).1 = r9 at *
        generalize (startS (crashS D x.keep).2).2 = D9 at *
        clear hL
      case' inr.inr.inr.inr.inr.inl =>
        have qi : (x.kind : Int) % 7 = 5 := by omega
        have hrn := Lib.hid (ap_ren AA.out)
        go_wp2_with fail
        refine (LiveA.call api HBX.out (fun F h => api.rename nF nG h AA.out.wf.ok.prog nG_le nF_le)).mono ?_
        rintro e w8 ⟨rfl, hL8⟩
        have T8 := Lib.hid hL8
        clear hL8
        go_wp2_with fail
        refine (LiveA.call api T8.out (fun F h => api.rename nG nF h hrn.out.1.ok.prog nF_le nG_le)).mono ?_
        rintro e w9 ⟨rfl, hL⟩
        have T9 := Lib.hid (LiveA.out hL)
        have A9 := Lib.hid (ap_more (ap_more hrn.out.2))
        generalize (renameS (renameS D nF nG).2 nG nF).1 = r9 at *
        generalize (renameS (renameS D nF nG).2 nG nF).2 = D9 at *
        clear hL
      case' inr.inr.inr.inr.inr.inr =>
        have qi : (x.kind : Int) % 7 = 6 := by omega
        go_wp2_with fail
        refine (LiveA.call api HBX.out (fun F h => api.free h AA.out.wf.ok.prog)).mono ?_
        rintro e w7 ⟨rfl, hL7⟩
        obtain ⟨wG, hL7, hB7⟩ := hL7
        obtain ⟨z, hz⟩ : ∃ z : Int, (D.cap : Int) - (usedS D.l : Nat) = z := ⟨_, rfl⟩
        have HZ := Lib.hid hz
        rw [hz]
        clear hz
        have T7 := Lib.hid hL7
        have B7 := Lib.hid hB7
        clear hL7 hB7
        have hne := Lib.hid (show D.l ≠ [] from fun e => by have := HAS.out.2.2.1; rw [e] at this; exact absurd this (by decide))
        go_wp2_with fail
        refine (LiveG.loose api T7.out AA.out.wf.ok.prog hne.out).mono ?_
        rintro e w8 ⟨v8, rfl, hI8, hL8, hG8⟩
        obtain ⟨A8, o8, c8, rfl, m8, -⟩ := hI8.cell
        have T8 := Lib.hid hL8
        have I8 := Lib.hid hI8
        have b8 : Blok w8 wr.heap.size 34 (actA x) := (hG8 _ (by simp)).trans B7.out
        have e4 : w8.cell? ⟨wr.heap.size, 4, none⟩ = some (.int .i64 x.place) := b8.cell 4
        have e5 : w8.cell? ⟨wr.heap.size, 5, none⟩ = some (.int .i64 x.n) := b8.cell 5
        have HM8 := Lib.hid m8
        clear hL8 hI8 hG8 b8 m8
        obtain ⟨n8, hn8⟩ : ∃ n, (looseL D.l).length = n := ⟨_, rfl⟩
        rw [hn8] at I8 T8 ⊢
        clear hn8
        go_wp2_with fail
        refine (LiveG.call api T8.out (fun F h hg => api.read nF x.place x.n h AA.out.wf.ok.prog HAS.out.1 OKX.out.place OKX.out.n nF_le)).mono ?_
        rintro e w9 ⟨rfl, hL⟩
        have T9a := Lib.hid hL
        have A9 := Lib.hid (ap_more (ap_readF AA.out x.place x.n))
        have HRK := Lib.hid (read_keeps D nF x.place x.n)
        clear hL
        generalize (readS D nF x.place x.n).1 = t9 at *
        generalize (readS D nF x.place x.n).2.1 = r9 at *
        generalize (readS D nF x.place x.n).2.2 = D9 at *
        go_wp2_with fail
        refine (LiveG.call api T9a.out (fun F h hg => api.free h A9.out.wf.ok.prog)).mono ?_
        rintro e w10 ⟨rfl, hL⟩
        have T9b := Lib.hid hL
        clear hL
        rw [HRK.out.1, HRK.out.2, HZ.out]
        have hzz : (z != z) = false := by simp
        go_wp2_with fail
        refine (LiveG.loose api T9b.out A9.out.wf.ok.prog (by rw [HRK.out.1]; exact hne.out)).mono ?_
        rintro e w11 ⟨v11, rfl, hI11, hL11, hG11⟩
        rw [HRK.out.1] at hI11
        have I11 := Lib.hid hI11
        have T11 := Lib.hid hL11
        have I8b := Lib.hid (ints_same I8.out (fun b hb => ⟨hG11 b (by rw [hb]; simp), by obtain ⟨F, _, _, h3⟩ := hL11; exact (h3 b (by rw [hb]; simp)).2.1⟩))
        obtain ⟨A11, o11, c11, rfl, m11, -⟩ := hI11.cell
        clear hI11 hL11 hG11 m11
        obtain ⟨n11, hn11⟩ : ∃ n, (looseL D.l).length = n := ⟨_, rfl⟩
        rw [hn11] at I11 T11 ⊢
        clear hn11
        go_wp2_with fail
        refine (ints_any _ _ _ _ w11 I11.out I8b.out).mono ?_
        rintro e w12 ⟨rfl, n12, rfl⟩
        have T9 := Lib.hid (LiveG.drewN T11.out n12)
        rw [decide_eq_true rfl]
        clear e4 e5 T9a T9b T11 T8 T7 B7 I8 I8b I11 HM8 hzz HRK HZ hne
        try generalize hw12 : w11.drewN n12 = w12 at *
      all_goals
        clear d0 d1 d2 d3 d4 d5 d6
        have HRO := Lib.hid (ap_readO A9.out)
        have HSM9 := Lib.hid (ap_small A9.out (by have := hk60.out; omega))
        have hss := str_eq b
        go_wp2_with fail
        refine (LiveG.call0 api T9.out (fun F h => api.read nO 0 (b.size : Nat) h A9.out.wf.ok.prog HSM9.out.1 rfl (wf_small (by omega) (by have := HBS.out; omega)) nO_le)).mono ?_
        rintro e w10 ⟨rfl, hL⟩
        rw [HRO.out.1, HRO.out.2.1]
        have T10 := Lib.hid hL
        have A10 := Lib.hid HRO.out.2.2
        clear hL T9
        generalize (readS D9 nO 0 (b.size : Nat)).2.2 = D10 at *
        have HSM10 := Lib.hid (ap_small A10.out (by have := hk60.out; omega))
        go_wp2_with fail
        refine (LiveG.names api T10.out A10.out.wf.ok.prog HSM10.out.2.2.1).mono ?_
        rintro e w11 ⟨A11, c11, rfl, hL⟩
        have T11 := Lib.hid hL
        clear hL
        go_wp2
        go_roundw
        case rel => exact ⟨k + 1, D10, by omega, by go_num, T11.out, by have := A10.out; rw [show 3 * (k + 1) = 3 * k + 2 + 1 by omega]; exact this⟩
        case measure => simp [intOf]; omega
    · obtain rfl : k = l0.length := by omega
      go_wp2_with fail
      refine (hsk.out _).mono ?_
      rintro e w2 ⟨rfl, hb⟩
      have HB := Lib.hid hb
      clear hb hsk
      go_wp2
      go_ret
      exact ⟨rfl, (HTW.out.below (Nat.le_refl _) (fun x hx => by cases hx)).trans (HB.out.mono HTW.out.size)⟩
end Go.Proofs.Ytfpimebamkmjoaa.apartOf
