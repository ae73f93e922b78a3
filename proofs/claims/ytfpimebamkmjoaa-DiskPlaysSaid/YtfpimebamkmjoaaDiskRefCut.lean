/- Cut: the document's. -/
import Derived.Test.YtfpimebamkmjoaaDiskRefRead
namespace Go.Proofs.Ytfpimebamkmjoaa
open Go.RowKit
set_option linter.unusedVariables false

def cutE (D : DiskS) (n : ByteArray) (k : Int) : DiskS := { D with l := setF D.l (findS D.l n) (fun f => ⟨f.name, f.data.extract 0 (min k.toNat f.data.size), min f.synced (min k.toNat f.data.size)⟩) }
theorem cutS_go {D : DiskS} {n : ByteArray} {k : Int} (hf : findS D.l n < D.l.length) (hk : ¬ k < 0) : cutS D n k = (0, cutE D n k) := by
  unfold cutS
  rw [if_pos hf, if_neg hk]
  rfl
theorem cutS_arg {D : DiskS} {n : ByteArray} {k : Int} (hf : findS D.l n < D.l.length) (hk : k < 0) : cutS D n k = (2, D) := by
  unfold cutS
  rw [if_pos hf, if_pos hk]
theorem cutS_none {D : DiskS} {n : ByteArray} {k : Int} (hf : ¬ findS D.l n < D.l.length) : cutS D n k = (4, D) := by
  unfold cutS
  rw [if_neg hf]
theorem cut_eq (l : List FileS) (i : Nat) (f : FileS) (h : l[i]? = some f) (m : Int) :
    setF (setF l i (fun x => { x with data := f.data.extract 0 (min m.toNat f.data.size) })) i (fun x => { x with synced := min f.synced (min m.toNat f.data.size) }) = setF l i (fun f => ⟨f.name, f.data.extract 0 (min m.toNat f.data.size), min f.synced (min m.toNat f.data.size)⟩) := by
  apply List.ext_getElem?
  intro j
  rw [setF_get, setF_get, setF_get]
  by_cases e : j = i
  · subst e; rw [if_pos rfl, if_pos rfl, if_pos rfl, h]; rfl
  · rw [if_neg e, if_neg e, if_neg e]
theorem min_int {P : Program} (x y : Int) (m : Nat) (h : (m : Int) = if y < x then y else x) : ∀ ts t w, (Builtin.min_ ts t #[.int .i64 x, .int .i64 y]).run P w = .ok (.int .i64 (m : Nat)) w := fun ts t w => by
  rw [run_min_int2, h]

set_option maxHeartbeats 2000000 in
theorem cut_ref {base g : Nat} {F : List Nat} {D : DiskS} (n : ByteArray) (k : Int) (w : World) (h : RefAt w base g F D) (ho : RefOk D) :
    Calls Try.prog 44 #[.pointer (some ⟨g, 0, none⟩), .string n, .int .i64 k] w (RefEnd base g F w (cutS D n k).1 (cutS D n k).2) := by
  have hfi := Lib.hid (find_ref n w h)
  have H := Lib.hid h
  by_cases hlt : findS D.l n < D.l.length
  case neg =>
    rw [cutS_none hlt]
    rw [foundV_no hlt] at hfi
    clear hlt h ho
    go_enter Try.func44, Try.ntmps44
    go_wp2_with fail
    refine hfi.out.mono ?_
    rintro e w' ⟨rfl, rfl⟩
    go_wp2
    go_ret
    exact ⟨F, rfl, H.out, fun _ h => Or.inl h, Touch.refl _ _⟩
  rw [foundV_yes hlt] at hfi
  by_cases hk : k < 0
  case pos =>
    rw [cutS_arg hlt hk]
    clear hlt h ho
    generalize findS D.l n = i at *
    go_enter Try.func44, Try.ntmps44
    go_wp2_with fail
    refine hfi.out.mono ?_
    rintro e w' ⟨rfl, rfl⟩
    go_wp2
    go_ret
    exact ⟨F, rfl, H.out, fun _ h => Or.inl h, Touch.refl _ _⟩
  rw [cutS_go hlt hk]
  obtain ⟨f, hfk, _⟩ := find_at hlt
  obtain ⟨hfs, hfz⟩ := ho.sizes f (List.mem_of_getElem? hfk)
  obtain ⟨A2, cap2, c1, m1, m2, hfile⟩ := h.file
  obtain ⟨b, rfl, hbF, hbg, hbi, bfr, d0, d1, d2, put1, put2⟩ := hfile _ f hfk
  have bfr1 := bfr (findS D.l n * 3 + 1)
  have E1 := Lib.hid (cut_eq D.l _ f hfk k)
  have E2 := Lib.hid (show cutE D n k = _ from rfl)
  have P1 := Lib.hid put1
  have HBF := Lib.hid hbF
  have HFK := Lib.hid hfk
  have HL := Lib.hid (show ({ D with l := setF D.l (findS D.l n) (fun x => { x with data := f.data.extract 0 (min k.toNat f.data.size) }) } : DiskS).l.length = D.l.length from setF_length _ _ _)
  unfold cutE at E2 ⊢
  rw [← E1.out]
  have hm1 := @min_int Try.prog k f.data.size (min k.toNat f.data.size) (by split <;> omega)
  have hm2 := @min_int Try.prog f.synced (min k.toNat f.data.size : Nat) (min f.synced (min k.toNat f.data.size)) (by split <;> omega)
  have q1 : min k.toNat f.data.size ≤ f.data.size := by omega
  clear h ho hfile put1 put2 bfr hbi hbF hfk E1 E2
  generalize min f.synced (min k.toNat f.data.size) = t at *
  generalize min k.toNat f.data.size = m at *
  generalize findS D.l n = i at *
  go_enter Try.func44, Try.ntmps44
  go_wp2_with fail
  refine hfi.out.mono ?_
  rintro e w' ⟨rfl, rfl⟩
  go_wp2
  go_region
  generalize hW : (World.setCell w _ _).drew = W
  have R2 : RefAt W base g F { D with l := setF D.l i (fun x => { x with data := f.data.extract 0 m }) } := by rw [← hW]; exact P1.out _
  have T2 : Touch F w W := by rw [← hW]; exact ((Touch.refl F w).setCell (Or.inl HBF.out) _).drew
  have hfk2 : (setF D.l i (fun x => { x with data := f.data.extract 0 m }))[i]? = some { f with data := f.data.extract 0 m } := by rw [setF_get, if_pos rfl, HFK.out]; rfl
  obtain ⟨A3, cap3, e1, m3, m4, hfile2⟩ := R2.file
  obtain ⟨b2, rfl, hbF2, _, _, bfr3, _, _, e2, _, put3⟩ := hfile2 i _ hfk2
  have bfr4 := bfr3 (i * 3 + 2)
  have P3 := Lib.hid put3
  have HBF2 := Lib.hid hbF2
  have HT2 := Lib.hid T2
  rw [HL.out] at e1 m3
  clear hW R2 T2 hfile2 hfk2 bfr3 put3 c1 d0 d1 d2 bfr1 hm1 hbF2
  go_wp2_with fail
  go_region
  go_wp2
  go_ret
  exact ⟨F, rfl, P3.out t, fun _ h => Or.inl h, (HT2.out.setCell (Or.inl HBF2.out) _).drew⟩
end Go.Proofs.Ytfpimebamkmjoaa
