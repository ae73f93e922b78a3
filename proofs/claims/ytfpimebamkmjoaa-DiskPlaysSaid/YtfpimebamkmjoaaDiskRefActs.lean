/- sunk, Size, Read, Append, Sync, Fail, Cut: the document's. -/
import Derived.Test.YtfpimebamkmjoaaDiskRefCrash
namespace Go.Proofs.Ytfpimebamkmjoaa
open Go.RowKit
set_option linter.unusedVariables false

theorem RefAt.keepv {w : World} {base g : Nat} {F : List Nat} {D : DiskS} (h : RefAt w base g F D) : ∃ vK, w.cell? ⟨g, 6, none⟩ = some vK ∧ IntsAt w vK D.keep := by
  obtain ⟨vL, vK, h1, h2, h3, h4, rfl⟩ := h
  exact ⟨vK, h1.cell 6, IntsAt.of_own h4⟩
/-- What the sizes of a disk's files are bounded by. -/
structure RefOk (D : DiskS) : Prop where
  sizes : ∀ f ∈ D.l, f.synced ≤ f.data.size ∧ f.data.size ≤ 1048576
  many : D.l.length ≤ 400
  used : usedS D.l ≤ 1048576
  cap : D.cap ≤ 1048576
  fails : D.fails ≤ 1099511627777

theorem sunk_ref {base g : Nat} {F : List Nat} {D : DiskS} (w : World) (h : RefAt w base g F D) (ho : RefOk D) (hd : D.down = false) :
    Calls Try.prog 61 #[.pointer (some ⟨g, 0, none⟩)] w (RefEnd base g F w 61 (sinkS D D.keep)) := by
  obtain ⟨vK, c6, hI⟩ := h.keepv
  have hc := Lib.hid (crash_ref vK D.keep w h hI ho.sizes ho.many)
  have hcr : crashS D D.keep = (0, sinkS D D.keep) := by unfold crashS; rw [hd]; rfl
  rw [hcr] at hc
  clear h hI ho hd hcr
  generalize sinkS D D.keep = E at *
  go_enter Try.func61, Try.ntmps61
  go_wp2_with fail
  refine hc.out.mono ?_
  rintro e w' ⟨F', rfl, h1, h2, h3⟩
  have H1 := Lib.hid h1
  have H2 := Lib.hid h2
  have H3 := Lib.hid h3
  clear h1 h2 h3 hc
  go_wp2
  go_ret
  exact ⟨F', rfl, H1.out, H2.out, H3.out⟩

theorem foundV_yes {l : List FileS} {n : ByteArray} (h : findS l n < l.length) : foundV l n = (findS l n : Int) := by unfold foundV; rw [if_pos h]
theorem foundV_no {l : List FileS} {n : ByteArray} (h : ¬ findS l n < l.length) : foundV l n = -1 := by unfold foundV; rw [if_neg h]
theorem none_at {l : List FileS} {n : ByteArray} (h : ¬ findS l n < l.length) : l[findS l n]? = none := List.getElem?_eq_none (by omega)

theorem size_ref {base g : Nat} {F : List Nat} {D : DiskS} (n : ByteArray) (w : World) (h : RefAt w base g F D) :
    Calls Try.prog 40 #[.pointer (some ⟨g, 0, none⟩), .string n] w fun e w' => e = .returned (.tuple #[.int .i64 ((sizeS D n).1 : Nat), .int .i64 ((sizeS D n).2 : Nat)]) ∧ w = w' := by
  obtain ⟨A, cap, vK, fr, _, c1, _, c3, _, _, _, n1, n2, hf⟩ := h.view
  unfold maxLen at n2
  have hfi := Lib.hid (find_ref n w h)
  clear fr h
  unfold sizeS
  cases hd : D.down
  · rw [hd] at c3
    clear hd
    by_cases hlt : findS D.l n < D.l.length
    · rw [foundV_yes hlt] at hfi
      obtain ⟨f, hfk, _⟩ := find_at hlt
      rw [hfk]
      obtain ⟨b, rfl, d0, d1, d2⟩ := hf _ f hfk
      clear hf hfk
      generalize findS D.l n = k at *
      go_enter Try.func40, Try.ntmps40
      go_wp2_with fail
      refine hfi.out.mono ?_
      rintro e w' ⟨rfl, rfl⟩
      go_wp2
      go_ret2
      exact ⟨rfl, rfl⟩
    · rw [foundV_no hlt] at hfi
      rw [none_at hlt]
      clear hf hlt
      go_enter Try.func40, Try.ntmps40
      go_wp2_with fail
      refine hfi.out.mono ?_
      rintro e w' ⟨rfl, rfl⟩
      go_wp2
      go_ret2
      exact ⟨rfl, rfl⟩
  · rw [hd] at c3
    clear hd hf
    generalize foundV D.l n = x at *
    go_enter Try.func40, Try.ntmps40
    go_wp2_with fail
    refine hfi.out.mono ?_
    rintro e w' ⟨rfl, rfl⟩
    go_wp2
    go_ret2
    exact ⟨rfl, rfl⟩
end Go.Proofs.Ytfpimebamkmjoaa
