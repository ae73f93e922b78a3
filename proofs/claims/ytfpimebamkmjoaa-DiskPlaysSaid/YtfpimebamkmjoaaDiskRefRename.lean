/- Rename: the document's. -/
import Derived.Test.YtfpimebamkmjoaaDiskRefCreate
namespace Go.Proofs.Ytfpimebamkmjoaa
open Go.RowKit
set_option linter.unusedVariables false

theorem renameS_down {D : DiskS} {n tn : ByteArray} (hd : D.down = true) : renameS D n tn = (61, D) := by
  unfold renameS
  rw [if_pos hd]
theorem renameS_none {D : DiskS} {n tn : ByteArray} (hd : D.down = false) (hf : ¬ findS D.l n < D.l.length) : renameS D n tn = (4, D) := by
  unfold renameS
  rw [if_neg (by rw [hd]; decide), if_neg hf]
theorem renameS_arg {D : DiskS} {n tn : ByteArray} (hd : D.down = false) (hf : findS D.l n < D.l.length) (hn : nameB tn = false) : renameS D n tn = (2, D) := by
  unfold renameS
  rw [if_neg (by rw [hd]; decide), if_pos hf, hn, if_pos (by decide)]
theorem renameS_go {D : DiskS} {n tn : ByteArray} (hd : D.down = false) (hf : findS D.l n < D.l.length) (hn : nameB tn = true) :
    renameS D n tn = if goesS D then (0, { nextS D with l := if n = tn then D.l else renameL D.l (findS D.l n) tn }) else (61, sinkS D D.keep) := by
  unfold renameS doneS
  rw [if_neg (by rw [hd]; decide), if_pos hf, hn, if_neg (by decide)]
  rfl
/-- A file of that name is taken away, if there is one. -/
def clearL (m : List FileS) (tn : ByteArray) : List FileS := if findS m tn < m.length then dropS m (findS m tn) else m
theorem renameL_at {l : List FileS} {i : Nat} {f : FileS} {tn : ByteArray} (h : l[i]? = some f) : renameL l i tn = layS (clearL (dropS l i) tn) { f with name := tn } := by
  unfold renameL
  rw [h]
  rfl
theorem dropS_length {l : List FileS} {i : Nat} (h : i < l.length) : (dropS l i).length + 1 = l.length := by
  unfold dropS
  rw [List.length_append, List.length_take, List.length_drop]
  omega
theorem clearL_length (m : List FileS) (tn : ByteArray) : (clearL m tn).length ≤ m.length := by
  unfold clearL
  split
  · rename_i h
    have := dropS_length h
    omega
  · exact Nat.le_refl _

set_option maxHeartbeats 4000000 in
theorem rename_ref {base g : Nat} {F : List Nat} {D : DiskS} (n tn : ByteArray) (w : World) (h : RefAt w base g F D) (ho : RefOk D) (hsz : tn.size ≤ maxLen) :
    Calls Try.prog 38 #[.pointer (some ⟨g, 0, none⟩), .string n, .string tn] w (RefEnd base g F w (renameS D n tn).1 (renameS D n tn).2) := by
  obtain ⟨A, cap, vK, fr, c0, c1, _, c3, _, _, _, n1, n2, _⟩ := h.view
  have hmay := Lib.hid (fun w => may_ref tn w hsz)
  have hfi := Lib.hid (find_ref n w h)
  have H := Lib.hid h
  clear fr n1 n2 c0 hsz c1
  cases hd : D.down
  case true =>
    rw [renameS_down hd]
    rw [hd] at c3
    clear hd h
    generalize foundV D.l n = x at *
    go_enter Try.func38, Try.ntmps38
    go_wp2_with fail
    refine hfi.out.mono ?_
    rintro e w' ⟨rfl, rfl⟩
    go_wp2
    go_ret
    exact ⟨F, rfl, H.out, fun _ h => Or.inl h, Touch.refl _ _⟩
  rw [hd] at c3
  by_cases hlt : findS D.l n < D.l.length
  case neg =>
    rw [renameS_none hd hlt]
    rw [foundV_no hlt] at hfi
    clear hlt h hd
    go_enter Try.func38, Try.ntmps38
    go_wp2_with fail
    refine hfi.out.mono ?_
    rintro e w' ⟨rfl, rfl⟩
    go_wp2
    go_ret
    exact ⟨F, rfl, H.out, fun _ h => Or.inl h, Touch.refl _ _⟩
  rw [foundV_yes hlt] at hfi
  cases hn : nameB tn
  case false =>
    rw [renameS_arg hd hlt hn]
    rw [hn] at hmay
    clear hlt h hd hn
    generalize findS D.l n = k at *
    go_enter Try.func38, Try.ntmps38
    go_wp2_with fail
    refine hfi.out.mono ?_
    rintro e w' ⟨rfl, rfl⟩
    go_wp2_with fail
    refine (hmay.out _).mono ?_
    rintro e w' ⟨rfl, rfl⟩
    go_wp2
    go_ret
    exact ⟨F, rfl, H.out, fun _ h => Or.inl h, Touch.refl _ _⟩
  rw [hn] at hmay
  rw [renameS_go hd hlt hn]
  obtain ⟨f, hfk, _⟩ := find_at hlt
  have hc := Lib.hid (change_ref w h ho.fails)
  have HO := Lib.hid ho.next
  have HDE := Lib.hid (show (nextS D).down = false from hd)
  have HKE := Lib.hid (show sinkS (nextS D) (nextS D).keep = sinkS D D.keep from rfl)
  have HLT := Lib.hid (show findS D.l n < (nextS D).l.length from hlt)
  have HM := Lib.hid (show (nextS D).l.length ≤ 1024 from by have := ho.many; show D.l.length ≤ _; omega)
  have HFK := Lib.hid (show (nextS D).l[findS D.l n]? = some f from hfk)
  have HL := Lib.hid (show (nextS D).l = D.l from rfl)
  have HRN := Lib.hid (renameL_at (tn := tn) hfk)
  clear h ho hd hn hfk
  generalize sinkS D D.keep = E2 at *
  cases hgd : goesS D
  case false =>
    rw [hgd] at hc
    simp only [Bool.false_eq_true, if_false]
    clear hgd
    generalize findS D.l n = k at *
    go_enter Try.func38, Try.ntmps38
    go_wp2_with fail
    refine hfi.out.mono ?_
    rintro e w' ⟨rfl, rfl⟩
    clear hfi
    go_wp2_with fail
    refine (hmay.out _).mono ?_
    rintro e w' ⟨rfl, rfl⟩
    go_wp2_with fail
    refine hc.out.mono ?_
    rintro e w2 ⟨rfl, hR3, hT3⟩
    have hsk := Lib.hid (sunk_ref w2 hR3 HO.out HDE.out)
    rw [HKE.out] at hsk
    have HT3 := Lib.hid hT3
    clear hR3 hT3 hc c3
    go_wp2_with fail
    refine hsk.out.mono ?_
    rintro e w3 ⟨F', rfl, h1, h2, h3⟩
    have H1 := Lib.hid h1
    have H2 := Lib.hid h2
    have H3 := Lib.hid h3
    clear h1 h2 h3 hsk
    go_wp2
    go_ret
    exact RefEnd.after ⟨F', rfl, H1.out, H2.out, H3.out⟩ HT3.out (fun x h => Or.inl h)
  rw [hgd] at hc
  simp only [if_true]
  clear hgd
  by_cases hsame : n = tn
  · subst hsame
    rw [if_pos rfl]
    have HE := Lib.hid (show ({ nextS D with l := D.l } : DiskS) = nextS D from rfl)
    generalize ({ nextS D with l := D.l } : DiskS) = E at *
    generalize findS D.l n = k at *
    go_enter Try.func38, Try.ntmps38
    go_wp2_with fail
    refine hfi.out.mono ?_
    rintro e w' ⟨rfl, rfl⟩
    clear hfi
    go_wp2_with fail
    refine (hmay.out _).mono ?_
    rintro e w' ⟨rfl, rfl⟩
    go_wp2_with fail
    refine hc.out.mono ?_
    rintro e w2 ⟨rfl, hR3, hT3⟩
    have HR3 := Lib.hid hR3
    have HT3 := Lib.hid hT3
    clear hR3 hT3 hc c3
    go_wp2
    go_ret
    exact ⟨F, rfl, by rw [HE.out]; exact HR3.out, fun x h => Or.inl h, HT3.out⟩
  rw [if_neg hsame, HRN.out]
  have hb : (n.toList == tn.toList) = false := str_ne hsame
  clear hsame HRN
  generalize findS D.l n = k at *
  go_enter Try.func38, Try.ntmps38
  go_wp2_with fail
  refine hfi.out.mono ?_
  rintro e w' ⟨rfl, rfl⟩
  clear hfi
  go_wp2_with fail
  refine (hmay.out _).mono ?_
  rintro e w' ⟨rfl, rfl⟩
  go_wp2_with fail
  refine hc.out.mono ?_
  rintro e w2 ⟨rfl, hR3, hT3⟩
  obtain ⟨A2, cap2, c1, m1, m2, hfile⟩ := hR3.file
  obtain ⟨b, rfl, hbF, hbg, hbi, bfr, d0, d1, d2, put1, put2⟩ := hfile _ f HFK.out
  rw [HL.out] at c1 m1
  have HR3 := Lib.hid hR3
  have HT3 := Lib.hid hT3
  clear hR3 hT3 hc c3 hfile put1 put2 hbi bfr hbF
  go_wp2_with fail
  have T3 : Touch [] w2 (w2.alloc (.cells #[.string tn, .string f.data, .int .i64 f.synced] 65)) := (Touch.refl [] w2).alloc _
  have R3 := HR3.out.touch T3 (fun _ _ => by simp)
  have hBF : w2.heap.size ∉ F := fun hm => by have := (HR3.out.low _ hm).2; omega
  have bx : Blok (w2.alloc (.cells #[.string tn, .string f.data, .int .i64 f.synced] 65)) w2.heap.size 65 #[.string tn, .string f.data, .int .i64 f.synced] := Blok.new w2 _ _
  have hBs := bx.lt
  have T3w := Lib.hid (HT3.out.trans T3 (fun x hx => by cases hx))
  generalize w2.heap.size = B at *
  generalize w2.alloc (.cells #[.string tn, .string f.data, .int .i64 f.synced] 65) = W3 at *
  have htk := Lib.hid (take_ref k W3 R3 HLT.out HM.out)
  have hml := dropS_length (l := (nextS D).l) HLT.out
  have HML := Lib.hid (show (dropS (nextS D).l k).length ≤ 1024 by have := HM.out; omega)
  have HBX := Lib.hid bx
  have HBF := Lib.hid hBF
  clear T3 R3 bx hBF hml HR3 HT3 HFK HLT HL HM c1 m1 m2 d0 d1 d2
  refine htk.out.mono ?_
  intro e w4 hu
  obtain ⟨F1, rfl, R4, sub4, T4⟩ := hu
  have bx4 := HBX.out.touch T4 HBF.out
  have hB1 : B ∉ F1 := fun hm => by
    rcases sub4 B hm with h | h
    · exact HBF.out h
    · omega
  have T4w := Lib.hid (T3w.out.trans T4 (fun x hx => Or.inl hx))
  have S4 := Lib.hid (show ∀ x ∈ F1, x ∈ F ∨ w.heap.size ≤ x from fun x hx => (sub4 x hx).imp id (fun h => by have := T3w.out.size; omega))
  clear htk hBs
  have hfi2 := Lib.hid (find_ref tn w4 R4)
  generalize hmm : dropS (nextS D).l k = m at *
  have HMD := Lib.hid (show dropS D.l k = m from hmm)
  clear hmm
  have HR4 := Lib.hid R4
  have HB1 := Lib.hid hB1
  have HBX4 := Lib.hid bx4
  clear R4 T4 bx4 hB1 sub4
  go_wp2_with fail
  refine hfi2.out.mono ?_
  rintro e w' ⟨rfl, rfl⟩
  by_cases hf2 : findS m tn < m.length
  · rw [foundV_yes hf2]
    have htk2 := Lib.hid (take_ref (findS m tn) w4 HR4.out hf2 HML.out)
    have hml2 := dropS_length hf2
    have hcl : clearL m tn = dropS m (findS m tn) := by unfold clearL; rw [if_pos hf2]
    have HCL := Lib.hid hcl
    have HML2 := Lib.hid (show (dropS m (findS m tn)).length ≤ 1024 by have := HML.out; omega)
    clear hcl hml2 hf2 hfi2
    generalize findS m tn = q at *
    go_wp2_with fail
    refine htk2.out.mono ?_
    intro e w5 hu
    obtain ⟨F2, rfl, R5, sub5, T5⟩ := hu
    have bx5 := HBX4.out.touch T5 HB1.out
    have x0 : w5.cell? ⟨B, 0, none⟩ = some (.string tn) := bx5.cell 0
    have x1 : w5.cell? ⟨B, 1, none⟩ = some (.string f.data) := bx5.cell 1
    have x2 : w5.cell? ⟨B, 2, none⟩ = some (.int .i64 f.synced) := bx5.cell 2
    have hly := Lib.hid (lay_ref ⟨tn, f.data, f.synced⟩ w5 R5 HML2.out)
    have T5w := Lib.hid (T4w.out.trans T5 (fun x hx => S4.out x hx))
    have S5 := Lib.hid (show ∀ x ∈ F2, x ∈ F ∨ w.heap.size ≤ x from fun x hx => (sub5 x hx).elim (S4.out x) (fun h => Or.inr (by have := T4w.out.size; omega)))
    clear htk2 R5 sub5 T5 bx5
    go_wp2_with fail
    refine hly.out.mono ?_
    intro e w6 hu
    obtain ⟨rfl, hz⟩ := hu.end_
    have HU := Lib.hid hz
    clear hu hz hly
    go_wp2
    go_ret
    rw [HMD.out, HCL.out]
    exact (HU.out 0).after T5w.out S5.out
  · rw [foundV_no hf2]
    have hcl : clearL m tn = m := by unfold clearL; rw [if_neg hf2]
    have HCL := Lib.hid hcl
    have x0 : w4.cell? ⟨B, 0, none⟩ = some (.string tn) := HBX4.out.cell 0
    have x1 : w4.cell? ⟨B, 1, none⟩ = some (.string f.data) := HBX4.out.cell 1
    have x2 : w4.cell? ⟨B, 2, none⟩ = some (.int .i64 f.synced) := HBX4.out.cell 2
    have hly := Lib.hid (lay_ref ⟨tn, f.data, f.synced⟩ w4 HR4.out HML.out)
    clear hcl hf2 hfi2
    go_wp2_with fail
    refine hly.out.mono ?_
    intro e w6 hu
    obtain ⟨rfl, hz⟩ := hu.end_
    have HU := Lib.hid hz
    clear hu hz hly
    go_wp2
    go_ret
    rw [HMD.out, HCL.out]
    exact (HU.out 0).after T4w.out S4.out
end Go.Proofs.Ytfpimebamkmjoaa
