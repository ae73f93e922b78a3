/- lay whole; Delete, Create, Rename: the document's. -/
import Derived.Test.YtfpimebamkmjoaaDiskRefLayWide
import Derived.Test.YtfpimebamkmjoaaDiskRefLayFull
import Derived.Test.YtfpimebamkmjoaaDiskRefLayNil
import Derived.Test.YtfpimebamkmjoaaDiskRefCut
namespace Go.Proofs.Ytfpimebamkmjoaa
open Go.RowKit
set_option linter.unusedVariables false

theorem lay_ref {base g : Nat} {F : List Nat} {D : DiskS} (f : FileS) (w : World) (h : RefAt w base g F D) (hm : D.l.length ≤ 1024) :
    Calls Try.prog 62 #[.pointer (some ⟨g, 0, none⟩), .agg #[.string f.name, .string f.data, .int .i64 f.synced]] w (RefUnit base g F w { D with l := layS D.l f }) := by
  have h0 := h
  obtain ⟨vL, vK, h1, h2, h3, h4, rfl⟩ := h0
  have hc := h1.cell 1
  rcases h3.2 with ⟨e, e2⟩ | ⟨b, cap, cur, e, _, hh, _, _, _, _⟩
  · refine lay_nil f w h hm ?_ e2
    rw [e2]
    rw [hc, ← e]
    rfl
  · by_cases q : cap = aheadS D.l f.name
    · exact lay_full f w h hm (by rw [hc, ← e]; rfl) q
    · exact lay_wide f w h hm (by rw [hc, ← e]; rfl) q

theorem deleteS_go {D : DiskS} {n : ByteArray} (hd : D.down = false) (hf : findS D.l n < D.l.length) : deleteS D n = if goesS D then (0, { nextS D with l := dropS D.l (findS D.l n) }) else (61, sinkS D D.keep) := by
  unfold deleteS doneS
  rw [if_neg (by rw [hd]; decide), if_pos hf]
  rfl
theorem deleteS_none {D : DiskS} {n : ByteArray} (hd : D.down = false) (hf : ¬ findS D.l n < D.l.length) : deleteS D n = (4, D) := by
  unfold deleteS
  rw [if_neg (by rw [hd]; decide), if_neg hf]
theorem deleteS_down {D : DiskS} {n : ByteArray} (hd : D.down = true) : deleteS D n = (61, D) := by
  unfold deleteS
  rw [if_pos hd]
theorem RefUnit.end_ {base g : Nat} {F : List Nat} {w w' : World} {E : DiskS} {e : Ending} (h : RefUnit base g F w E e w') : e = .returned (.tuple #[]) ∧ ∀ r : Nat, RefEnd base g F w r E (.returned (.int .i64 r)) w' := by
  obtain ⟨F', h1, h2, h3, h4⟩ := h
  exact ⟨h1, fun r => ⟨F', rfl, h2, h3, h4⟩⟩

set_option maxHeartbeats 2000000 in
theorem delete_ref {base g : Nat} {F : List Nat} {D : DiskS} (n : ByteArray) (w : World) (h : RefAt w base g F D) (ho : RefOk D) :
    Calls Try.prog 39 #[.pointer (some ⟨g, 0, none⟩), .string n] w (RefEnd base g F w (deleteS D n).1 (deleteS D n).2) := by
  obtain ⟨A, cap, vK, fr, c0, c1, _, c3, _, _, _, n1, n2, _⟩ := h.view
  have hfi := Lib.hid (find_ref n w h)
  have H := Lib.hid h
  clear fr c1 n1 n2 c0
  cases hd : D.down
  case true =>
    rw [deleteS_down hd]
    rw [hd] at c3
    clear hd h
    generalize foundV D.l n = x at *
    go_enter Try.func39, Try.ntmps39
    go_wp2_with fail
    refine hfi.out.mono ?_
    rintro e w' ⟨rfl, rfl⟩
    go_wp2
    go_ret
    exact ⟨F, rfl, H.out, fun _ h => Or.inl h, Touch.refl _ _⟩
  rw [hd] at c3
  by_cases hlt : findS D.l n < D.l.length
  case neg =>
    rw [deleteS_none hd hlt]
    rw [foundV_no hlt] at hfi
    clear hlt h hd
    go_enter Try.func39, Try.ntmps39
    go_wp2_with fail
    refine hfi.out.mono ?_
    rintro e w' ⟨rfl, rfl⟩
    go_wp2
    go_ret
    exact ⟨F, rfl, H.out, fun _ h => Or.inl h, Touch.refl _ _⟩
  rw [deleteS_go hd hlt]
  rw [foundV_yes hlt] at hfi
  have hc := Lib.hid (change_ref w h ho.fails)
  have HO := Lib.hid ho.next
  have HDE := Lib.hid (show (nextS D).down = false from hd)
  have HKE := Lib.hid (show sinkS (nextS D) (nextS D).keep = sinkS D D.keep from rfl)
  have HLT := Lib.hid (show findS D.l n < (nextS D).l.length from hlt)
  have HM := Lib.hid (show (nextS D).l.length ≤ 1024 from by have := ho.many; show D.l.length ≤ _; omega)
  have HE := Lib.hid (show { nextS D with l := dropS (nextS D).l (findS D.l n) } = { nextS D with l := dropS D.l (findS D.l n) } from rfl)
  clear h ho hd
  generalize sinkS D D.keep = E2 at *
  cases hgd : goesS D
  all_goals
    rw [hgd] at hc
    simp only [Bool.false_eq_true, if_false, if_true]
    clear hgd
    generalize findS D.l n = k at *
    go_enter Try.func39, Try.ntmps39
    go_wp2_with fail
    refine hfi.out.mono ?_
    rintro e w' ⟨rfl, rfl⟩
    clear hfi
    go_wp2_with fail
    refine hc.out.mono ?_
    rintro e w2 ⟨rfl, hR3, hT3⟩
  · have hsk := Lib.hid (sunk_ref w2 hR3 HO.out HDE.out)
    rw [HKE.out] at hsk
    have HT3 := Lib.hid hT3
    clear hR3 hT3 hc c3
    go_wp2_with fail
    refine hsk.out.mono ?_
    rintro e w3 ⟨F', rfl, h1, h2, h3⟩
    have H1 := Lib.hid h1
    have H2 := Lib.hid h2
    have H3 := Lib.hid h3
    clear h1 h2 h3 hsk
    go_wp2
    go_ret
    exact RefEnd.after ⟨F', rfl, H1.out, H2.out, H3.out⟩ HT3.out (fun x h => Or.inl h)
  · have htk := Lib.hid (take_ref k w2 hR3 HLT.out HM.out)
    rw [HE.out] at htk
    have HT3 := Lib.hid hT3
    clear hR3 hT3 hc c3
    generalize hE : { nextS D with l := dropS D.l k } = E at *
    go_wp2_with fail
    refine htk.out.mono ?_
    intro e w3 hu
    obtain ⟨rfl, hz⟩ := hu.end_
    have HU := Lib.hid hz
    clear hu hz htk
    go_wp2
    go_ret
    exact (HU.out 0).after HT3.out (fun x h => Or.inl h)
end Go.Proofs.Ytfpimebamkmjoaa
