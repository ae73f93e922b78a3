/- Read, Cut: the document's. -/
import Derived.Test.YtfpimebamkmjoaaDiskRefFail
namespace Go.Proofs.Ytfpimebamkmjoaa
open Go.RowKit
set_option linter.unusedVariables false

/-- A Read's end. -/
def RefRead (base g : Nat) (F : List Nat) (w : World) (r : ByteArray × Nat × DiskS) (e : Ending) (w' : World) : Prop :=
  e = .returned (.tuple #[.string r.1, .int .i64 (r.2.1 : Nat)]) ∧ RefAt w' base g F r.2.2 ∧ Touch F w w'
theorem readS_down {D : DiskS} {n : ByteArray} {a k : Int} (hd : D.down = true) : readS D n a k = (ByteArray.empty, 61, D) := by
  unfold readS
  rw [if_pos hd]
def readE (D : DiskS) : DiskS := { D with count := D.count + 1 }
theorem readS_none {D : DiskS} {n : ByteArray} {a k : Int} (hd : D.down = false) (hf : ¬ findS D.l n < D.l.length) : readS D n a k = (ByteArray.empty, 4, readE D) := by
  unfold readS
  rw [if_neg (by rw [hd]; decide)]
  simp only [none_at hf]
  rfl
theorem readS_bad {D : DiskS} {n : ByteArray} {a k : Int} {f : FileS} (hd : D.down = false) (hf : D.l[findS D.l n]? = some f) (hb : a < 0 ∨ k < 0 ∨ (f.data.size : Int) < a ∨ (f.data.size : Int) - a < k) : readS D n a k = (ByteArray.empty, 2, readE D) := by
  unfold readS
  rw [if_neg (by rw [hd]; decide)]
  simp only [hf]
  rw [if_pos hb]
  rfl
theorem readS_go {D : DiskS} {n : ByteArray} {a k : Int} {f : FileS} (hd : D.down = false) (hf : D.l[findS D.l n]? = some f) (hb : ¬ (a < 0 ∨ k < 0 ∨ (f.data.size : Int) < a ∨ (f.data.size : Int) - a < k)) : readS D n a k = (f.data.extract a.toNat (a.toNat + k.toNat), 0, readE D) := by
  unfold readS
  rw [if_neg (by rw [hd]; decide)]
  simp only [hf]
  rw [if_neg hb]
  rfl

set_option maxHeartbeats 2000000 in
theorem read_ref {base g : Nat} {F : List Nat} {D : DiskS} (n : ByteArray) (a k : Int) (w : World) (h : RefAt w base g F D) (ho : RefOk D) (hct : D.count ≤ 1099511627776) :
    Calls Try.prog 36 #[.pointer (some ⟨g, 0, none⟩), .string n, .int .i64 a, .int .i64 k] w (RefRead base g F w (readS D n a k)) := by
  obtain ⟨A, cap, vK, fr, c0, c1, c2, c3, _, _, _, n1, n2, _⟩ := h.view
  have fr2 := fr 2
  have H := Lib.hid h
  clear fr c1 n1 n2 c0
  cases hd : D.down
  case true =>
    rw [readS_down hd]
    rw [hd] at c3
    clear hd h hct ho
    go_enter Try.func36, Try.ntmps36
    go_wp2
    go_ret2
    exact ⟨rfl, H.out, Touch.refl _ _⟩
  rw [hd] at c3
  have hwr : IntKind.i64.wrap ((D.count : Int) + 1) = (D.count : Int) + 1 := IntWalk.i64_in _ (by omega)
  have h1 : RefAt (w.setCell ⟨g, 2, none⟩ (.int .i64 ((D.count : Int) + 1))) base g F (readE D) := h.putCount (D.count + 1)
  have HT1 := Lib.hid ((Touch.refl F w).setCell (p := ⟨g, 2, none⟩) (Or.inl h.mem) (.int .i64 ((D.count : Int) + 1)))
  have HR1 := Lib.hid h1
  have hfi := Lib.hid (find_ref n _ h1)
  have el : (readE D).l = D.l := rfl
  rw [el] at hfi
  by_cases hlt : findS D.l n < D.l.length
  case neg =>
    rw [readS_none hd hlt]
    rw [foundV_no hlt] at hfi
    clear hlt h hd h1 hct ho el
    go_enter Try.func36, Try.ntmps36
    go_wp2_with fail
    refine hfi.out.mono ?_
    rintro e w' ⟨rfl, rfl⟩
    go_wp2
    go_ret2
    exact ⟨rfl, HR1.out, HT1.out⟩
  rw [foundV_yes hlt] at hfi
  obtain ⟨f, hfk, _⟩ := find_at hlt
  have hfz := (ho.sizes f (List.mem_of_getElem? hfk)).2
  obtain ⟨A2, cap2, c1, m1, m2, hfile⟩ := h1.file
  obtain ⟨b, rfl, hbF, hbg, hbi, bfr, d0, d1, d2, put1, put2⟩ := hfile _ f hfk
  rw [el] at c1 m1
  have HFK := Lib.hid hfk
  have HD := Lib.hid hd
  clear h h1 hct ho el hfile put1 put2 bfr hbi hbF hd hfk
  by_cases hbad : a < 0 ∨ k < 0 ∨ (f.data.size : Int) < a ∨ (f.data.size : Int) - a < k
  · rw [readS_bad HD.out HFK.out hbad]
    have hcase : a < 0 ∨ (0 ≤ a ∧ k < 0) ∨ (0 ≤ a ∧ 0 ≤ k ∧ (f.data.size : Int) < a) ∨ (0 ≤ a ∧ 0 ≤ k ∧ a ≤ (f.data.size : Int) ∧ (f.data.size : Int) - a < k) := by omega
    clear HFK hbad
    generalize findS D.l n = i at *
    rcases hcase with q1 | ⟨q1, q2⟩ | ⟨q1, q2, q3⟩ | ⟨q1, q2, q3, q4⟩
    all_goals
      go_enter Try.func36, Try.ntmps36
      go_wp2_with fail
      refine hfi.out.mono ?_
      rintro e w' ⟨rfl, rfl⟩
      generalize w.setCell ⟨g, 2, none⟩ (.int .i64 ((D.count : Int) + 1)) = W at *
      go_wp2
      go_ret2
      exact ⟨rfl, HR1.out, HT1.out⟩
  · rw [readS_go HD.out HFK.out hbad]
    obtain ⟨x, rfl⟩ : ∃ x : Nat, a = x := ⟨a.toNat, by omega⟩
    obtain ⟨y, rfl⟩ : ∃ y : Nat, k = y := ⟨k.toNat, by omega⟩
    have q3 : x ≤ f.data.size := by omega
    have q4 : x + y ≤ f.data.size := by omega
    have q5 : (y : Int) ≤ (f.data.size : Int) - (x : Int) := by omega
    have hex := Lib.hid (show f.data.extract ((x : Int)).toNat (((x : Int)).toNat + ((y : Int)).toNat) = f.data.extract x (x + y) by simp)
    clear HFK hbad
    generalize findS D.l n = i at *
    go_enter Try.func36, Try.ntmps36
    go_wp2_with fail
    refine hfi.out.mono ?_
    rintro e w' ⟨rfl, rfl⟩
    generalize w.setCell ⟨g, 2, none⟩ (.int .i64 ((D.count : Int) + 1)) = W at *
    go_wp2
    go_ret2
    refine ⟨?_, HR1.out, HT1.out⟩
    rw [hex.out]
    rfl
end Go.Proofs.Ytfpimebamkmjoaa
