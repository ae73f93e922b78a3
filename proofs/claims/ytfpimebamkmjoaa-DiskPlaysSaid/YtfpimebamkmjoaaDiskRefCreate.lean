/- Create: the document's. -/
import Derived.Test.YtfpimebamkmjoaaDiskRefNames
namespace Go.Proofs.Ytfpimebamkmjoaa
open Go.RowKit
set_option linter.unusedVariables false

theorem createS_down {D : DiskS} {n : ByteArray} (hd : D.down = true) : createS D n = (61, D) := by
  unfold createS
  rw [if_pos hd]
theorem createS_arg {D : DiskS} {n : ByteArray} (hd : D.down = false) (hn : nameB n = false) : createS D n = (2, D) := by
  unfold createS
  rw [if_neg (by rw [hd]; decide), hn, if_pos (by decide)]
theorem createS_have {D : DiskS} {n : ByteArray} (hd : D.down = false) (hn : nameB n = true) (hf : findS D.l n < D.l.length) : createS D n = (62, D) := by
  unfold createS
  rw [if_neg (by rw [hd]; decide), hn, if_neg (by decide), if_pos hf]
theorem createS_full {D : DiskS} {n : ByteArray} (hd : D.down = false) (hn : nameB n = true) (hf : ¬ findS D.l n < D.l.length) (hm : 400 ≤ D.l.length) : createS D n = (60, D) := by
  unfold createS
  rw [if_neg (by rw [hd]; decide), hn, if_neg (by decide), if_neg hf, if_pos hm]
theorem createS_go {D : DiskS} {n : ByteArray} (hd : D.down = false) (hn : nameB n = true) (hf : ¬ findS D.l n < D.l.length) (hm : ¬ 400 ≤ D.l.length) :
    createS D n = if goesS D then (0, { nextS D with l := layS D.l ⟨n, ByteArray.empty, 0⟩ }) else (61, sinkS D D.keep) := by
  unfold createS doneS
  rw [if_neg (by rw [hd]; decide), hn, if_neg (by decide), if_neg hf, if_neg hm]
  rfl

set_option maxHeartbeats 2000000 in
theorem create_ref {base g : Nat} {F : List Nat} {D : DiskS} (n : ByteArray) (w : World) (h : RefAt w base g F D) (ho : RefOk D) (hsz : n.size ≤ maxLen) :
    Calls Try.prog 35 #[.pointer (some ⟨g, 0, none⟩), .string n] w (RefEnd base g F w (createS D n).1 (createS D n).2) := by
  obtain ⟨A, cap, vK, fr, c0, c1, _, c3, _, _, _, n1, n2, _⟩ := h.view
  have hmay := Lib.hid (fun w => may_ref n w hsz)
  have hfi := Lib.hid (find_ref n w h)
  have H := Lib.hid h
  unfold maxLen at n2
  clear fr n1 n2 c0 hsz
  cases hd : D.down
  case true =>
    rw [createS_down hd]
    rw [hd] at c3
    clear hd h c1
    go_enter Try.func35, Try.ntmps35
    go_wp2
    go_ret
    exact ⟨F, rfl, H.out, fun _ h => Or.inl h, Touch.refl _ _⟩
  rw [hd] at c3
  cases hn : nameB n
  case false =>
    rw [createS_arg hd hn]
    rw [hn] at hmay
    clear hd h c1 hn
    go_enter Try.func35, Try.ntmps35
    go_wp2_with fail
    refine (hmay.out _).mono ?_
    rintro e w' ⟨rfl, rfl⟩
    go_wp2
    go_ret
    exact ⟨F, rfl, H.out, fun _ h => Or.inl h, Touch.refl _ _⟩
  rw [hn] at hmay
  by_cases hlt : findS D.l n < D.l.length
  case pos =>
    rw [createS_have hd hn hlt]
    rw [foundV_yes hlt] at hfi
    clear hd h c1 hn hlt
    generalize findS D.l n = k at *
    go_enter Try.func35, Try.ntmps35
    go_wp2_with fail
    refine (hmay.out _).mono ?_
    rintro e w' ⟨rfl, rfl⟩
    go_wp2_with fail
    refine hfi.out.mono ?_
    rintro e w' ⟨rfl, rfl⟩
    go_wp2
    go_ret
    exact ⟨F, rfl, H.out, fun _ h => Or.inl h, Touch.refl _ _⟩
  rw [foundV_no hlt] at hfi
  by_cases hfull : 400 ≤ D.l.length
  case pos =>
    rw [createS_full hd hn hlt hfull]
    have t : decide ((400 : Int) ≤ (D.l.length : Int)) = true := decide_eq_true (by omega)
    clear hd h hn hlt hfull
    go_enter Try.func35, Try.ntmps35
    go_wp2_with fail
    refine (hmay.out _).mono ?_
    rintro e w' ⟨rfl, rfl⟩
    go_wp2_with fail
    refine hfi.out.mono ?_
    rintro e w' ⟨rfl, rfl⟩
    go_wp2
    go_ret
    exact ⟨F, rfl, H.out, fun _ h => Or.inl h, Touch.refl _ _⟩
  rw [createS_go hd hn hlt hfull]
  have t : decide ((400 : Int) ≤ (D.l.length : Int)) = false := decide_eq_false (by omega)
  clear hfull
  have hc := Lib.hid (change_ref w h ho.fails)
  have HO := Lib.hid ho.next
  have HDE := Lib.hid (show (nextS D).down = false from hd)
  have HKE := Lib.hid (show sinkS (nextS D) (nextS D).keep = sinkS D D.keep from rfl)
  have HM := Lib.hid (show (nextS D).l.length ≤ 1024 from by have := ho.many; show D.l.length ≤ _; omega)
  have HE := Lib.hid (show { nextS D with l := layS (nextS D).l ⟨n, ByteArray.empty, 0⟩ } = { nextS D with l := layS D.l ⟨n, ByteArray.empty, 0⟩ } from rfl)
  clear h ho hd hn hlt
  generalize sinkS D D.keep = E2 at *
  cases hgd : goesS D
  all_goals
    rw [hgd] at hc
    simp only [Bool.false_eq_true, if_false, if_true]
    clear hgd
    go_enter Try.func35, Try.ntmps35
    go_wp2_with fail
    refine (hmay.out _).mono ?_
    rintro e w' ⟨rfl, rfl⟩
    go_wp2_with fail
    refine hfi.out.mono ?_
    rintro e w' ⟨rfl, rfl⟩
    clear hfi
    go_wp2_with fail
    refine hc.out.mono ?_
    rintro e w2 ⟨rfl, hR3, hT3⟩
  · have hsk := Lib.hid (sunk_ref w2 hR3 HO.out HDE.out)
    rw [HKE.out] at hsk
    have HT3 := Lib.hid hT3
    clear hR3 hT3 hc c3 c1
    go_wp2_with fail
    refine hsk.out.mono ?_
    rintro e w3 ⟨F', rfl, h1, h2, h3⟩
    have H1 := Lib.hid h1
    have H2 := Lib.hid h2
    have H3 := Lib.hid h3
    clear h1 h2 h3 hsk
    go_wp2
    go_ret
    exact RefEnd.after ⟨F', rfl, H1.out, H2.out, H3.out⟩ HT3.out (fun x h => Or.inl h)
  · have htk := Lib.hid (lay_ref ⟨n, ByteArray.empty, 0⟩ w2 hR3 HM.out)
    rw [HE.out] at htk
    have HT3 := Lib.hid hT3
    clear hR3 hT3 hc c3 c1
    generalize hE : { nextS D with l := layS D.l ⟨n, ByteArray.empty, 0⟩ } = E at *
    go_wp2_with fail
    refine htk.out.mono ?_
    intro e w3 hu
    obtain ⟨rfl, hz⟩ := hu.end_
    have HU := Lib.hid hz
    clear hu hz htk
    go_wp2
    go_ret
    exact (HU.out 0).after HT3.out (fun x h => Or.inl h)
end Go.Proofs.Ytfpimebamkmjoaa
