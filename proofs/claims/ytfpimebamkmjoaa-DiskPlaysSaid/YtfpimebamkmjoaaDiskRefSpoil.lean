/- Spoil: the document's. -/
import Derived.Test.YtfpimebamkmjoaaDiskRefCut
import Derived.Test.YtfpimebamkmjoaaBytes
namespace Go.Proofs.Ytfpimebamkmjoaa
open Go.RowKit
set_option linter.unusedVariables false

theorem spoilS_none {D : DiskS} {n : ByteArray} {a : Int} {s : ByteArray} (hf : ¬ findS D.l n < D.l.length) : spoilS D n a s = (4, D) := by
  unfold spoilS
  rw [if_neg hf]
theorem spoilS_arg {D : DiskS} {n : ByteArray} {a : Int} {s : ByteArray} (hf : findS D.l n < D.l.length) (ha : a < 0) : spoilS D n a s = (2, D) := by
  unfold spoilS
  rw [if_pos hf, if_pos ha]
theorem spoilS_go {D : DiskS} {n : ByteArray} {a : Int} {s : ByteArray} (hf : findS D.l n < D.l.length) (ha : ¬ a < 0) : spoilS D n a s = (0, { D with l := setF D.l (findS D.l n) (fun f => { f with data := overS f.data s a.toNat }) }) := by
  unfold spoilS
  rw [if_pos hf, if_neg ha]
theorem spoil_eq (l : List FileS) (k : Nat) (f : FileS) (s : ByteArray) (a : Nat) (h : l[k]? = some f) : setF l k (fun x => { x with data := overS f.data s a }) = setF l k (fun f => { f with data := overS f.data s a }) := by
  apply List.ext_getElem?
  intro j
  rw [setF_get, setF_get]
  by_cases e : j = k
  · subst e; rw [if_pos rfl, if_pos rfl, h]; rfl
  · rw [if_neg e, if_neg e]
theorem overK_length (d s : ByteArray) (a k : Nat) : (overK d s a k).length = d.size := by
  unfold overK
  rw [List.length_mapIdx]
  exact Array.length_toList
theorem overK_at (d s : ByteArray) (a k j : Nat) (hj : j < d.size) : (overK d s a k).getD j 0 = if a ≤ j ∧ j < a + min k s.size then s.data.toList.getD (j - a) 0 else d.data.toList.getD j 0 := by
  have hl : d.data.toList.length = d.size := Array.length_toList
  unfold overK
  rw [List.getD_eq_getElem?_getD, List.getElem?_mapIdx, List.getElem?_eq_getElem (by omega), List.getD_eq_getElem?_getD (l := d.data.toList), List.getElem?_eq_getElem (by omega)]
  rfl
theorem overK_same (d s : ByteArray) (a k : Nat) (hk : k ≤ s.size) (h : s.size ≤ k ∨ d.size ≤ a + k) : overK d s a k = overK d s a s.size := by
  apply List.ext_getElem (by rw [overK_length, overK_length])
  intro j h1 h2
  rw [overK_length] at h1
  have e : ∀ (l : List UInt8) (h : j < l.length), l[j] = l.getD j 0 := fun l h => by rw [List.getD_eq_getElem?_getD, List.getElem?_eq_getElem h]; rfl
  rw [e _ (by rw [overK_length]; exact h1), e _ (by rw [overK_length]; exact h1), overK_at d s a k j h1, overK_at d s a s.size j h1]
  by_cases c : a ≤ j ∧ j < a + min k s.size
  · rw [if_pos c, if_pos (by omega)]
  · rw [if_neg c, if_neg (by omega)]
theorem overK_zero (d s : ByteArray) (a j : Nat) (hj : j < d.size) : u8At d.data.toList j = u8At (overK d s a 0) j := by
  unfold u8At
  rw [overK_at d s a 0 j hj, if_neg (by omega)]
theorem overK_next (d s : ByteArray) (a k j : Nat) (hk : k < s.size) (hj : j < d.size) :
    (if j = a + k then Value.int .u8 ((s.data.toList.getD k 0).toNat : Int) else u8At (overK d s a k) j) = u8At (overK d s a (k + 1)) j := by
  unfold u8At
  rw [overK_at d s a k j hj, overK_at d s a (k + 1) j hj]
  by_cases e : j = a + k
  · subst e
    rw [if_pos rfl, if_pos (by omega), Nat.add_sub_cancel_left]
  · rw [if_neg e]
    by_cases c : a ≤ j ∧ j < a + min k s.size
    · rw [if_pos c, if_pos (by omega)]
    · rw [if_neg c, if_neg (by omega)]
theorem byte_at (s : ByteArray) (k : Nat) (hk : k < s.size) : s[k] = s.data.toList.getD k 0 := by
  have hl : s.data.toList.length = s.size := Array.length_toList
  rw [List.getD_eq_getElem?_getD, List.getElem?_eq_getElem (by omega)]
  rfl

set_option maxHeartbeats 4000000 in
theorem spoil_ref {base g : Nat} {F : List Nat} {D : DiskS} (n : ByteArray) (a : Int) (s : ByteArray) (w : World) (h : RefAt w base g F D) (ho : RefOk D) (hs : s.size ≤ 1048576) (ha2 : a ≤ 9223372036854775807) :
    Calls Try.prog 43 #[.pointer (some ⟨g, 0, none⟩), .string n, .int .i64 a, .string s] w (RefEnd base g F w (spoilS D n a s).1 (spoilS D n a s).2) := by
  have hfi := Lib.hid (find_ref n w h)
  have H := Lib.hid h
  by_cases hlt : findS D.l n < D.l.length
  case neg =>
    rw [spoilS_none hlt]
    rw [foundV_no hlt] at hfi
    clear hlt h ho ha2
    go_enter Try.func43, Try.ntmps43
    go_wp2_with fail
    refine hfi.out.mono ?_
    rintro e w' ⟨rfl, rfl⟩
    go_wp2
    go_ret
    exact ⟨F, rfl, H.out, fun _ h => Or.inl h, Touch.refl _ _⟩
  rw [foundV_yes hlt] at hfi
  by_cases ha : a < 0
  case pos =>
    rw [spoilS_arg hlt ha]
    clear hlt h ho ha2
    generalize findS D.l n = i at *
    go_enter Try.func43, Try.ntmps43
    go_wp2_with fail
    refine hfi.out.mono ?_
    rintro e w' ⟨rfl, rfl⟩
    go_wp2
    go_ret
    exact ⟨F, rfl, H.out, fun _ h => Or.inl h, Touch.refl _ _⟩
  rw [spoilS_go hlt ha]
  obtain ⟨f, hfk, _⟩ := find_at hlt
  obtain ⟨hfs, hfz⟩ := ho.sizes f (List.mem_of_getElem? hfk)
  obtain ⟨A2, cap2, c1, m1, m2, hfile⟩ := h.file
  obtain ⟨b, rfl, hbF, hbg, hbi, bfr, d0, d1, d2, put1, put2⟩ := hfile _ f hfk
  rw [← spoil_eq D.l _ f s a.toNat hfk]
  have HFK := Lib.hid hfk
  obtain ⟨x, rfl⟩ : ∃ x : Nat, a = x := ⟨a.toNat, by omega⟩
  rw [Int.toNat_natCast]
  clear h ho hfile put1 put2 bfr hbi hbF hfk d0 d2
  generalize hi : findS D.l n = i at *
  have hconv := fun W => conv_in W f.data
  have hrow := Lib.hid ((bytesIn_row 5 w f.data).congr (fun j hj => overK_zero f.data s x j hj))
  have hbel := Lib.hid (Touch.of_below (bytesIn_below 5 (w0 := w) (w := w) f.data (Below.refl _ _)))
  have t0 : decide ((x : Int) < 0) = false := decide_eq_false (by omega)
  have AX := Lib.hid ha2
  clear ha ha2 hi
  go_enter Try.func43, Try.ntmps43
  go_wp2_with fail
  refine hfi.out.mono ?_
  rintro e w' ⟨rfl, rfl⟩
  go_wp2
  generalize bytesIn 5 w f.data = W1 at *
  generalize grownCap w f.data.size 0 5 = cp at *
  go_loopw [11] (fun u wr => ∃ k : Nat, k ≤ s.size ∧ u = .int .i64 k ∧ RowB wr w.heap.size f.data.size (u8At (overK f.data s x k)) ∧ Touch [] w wr) (fun u _ => s.size - (intOf u).toNat)
  case atStart => exact ⟨0, Nat.zero_le _, rfl, hrow.out, hbel.out⟩
  case round =>
    obtain ⟨k, hk, rfl, hR, hT⟩ := hrel
    have HR := Lib.hid hR
    have HT := Lib.hid hT
    clear hT
    by_cases hall : k < s.size ∧ x < f.data.size ∧ x + k < f.data.size
    · obtain ⟨q1, q2, q3⟩ := hall
      have hfr := hR.frozen (i := x + k) q3
      have hcl := hR.cell (i := x + k) q3
      clear hR
      have l1 : (k : Int) < (s.size : Int) := by omega
      have l2 : (x : Int) < (f.data.size : Int) := by omega
      have l3 : (k : Int) < (f.data.size : Int) - (x : Int) := by omega
      have l4 : (x : Int) + (k : Int) < (f.data.size : Int) := by omega
      have hby := Lib.hid (byte_at s k q1)
      go_wp2
      go_roundw
      case rel =>
        refine ⟨k + 1, by omega, by go_num, ?_, HT.out.setCell (Or.inr (Nat.le_refl _)) _⟩
        rw [hby.out]
        exact (HR.out.set (x + k) _).congr (fun j hj => overK_next f.data s x k j q1 hj)
      case measure => simp [intOf]; omega
    · rw [overK_same f.data s x k hk (by omega)] at hR
      have hcv : (convert 69 9 (.slice (some ⟨w.heap.size, 0, none⟩) f.data.size cp)).run Try.prog wr.drew = .ok (.string (overS f.data s x)) wr.drew := conv_out hR.drew (overK_length _ _ _ _) cp
      have R2 := H.out.touch HT.out (fun _ _ => by simp)
      obtain ⟨A3, cap3, e1, m3, m4, hfile2⟩ := R2.file
      obtain ⟨b2, rfl, hbF2, _, _, bfr3, _, e2, _, put3, _⟩ := hfile2 i f HFK.out
      have bfr4 := bfr3 (i * 3 + 1)
      have P3 := Lib.hid put3
      have HBF2 := Lib.hid hbF2
      clear hR R2 hfile2 bfr3 put3 hbF2 c1 d1 HR hrow hbel hconv
      have hil : (i : Int) < (D.l.length : Int) := by omega
      have hcase : s.size ≤ k ∨ (k < s.size ∧ f.data.size ≤ x) ∨ (k < s.size ∧ x < f.data.size ∧ (f.data.size : Int) - (x : Int) ≤ (k : Int)) := by omega
      clear hall
      rcases hcase with q1 | ⟨q1, q2⟩ | ⟨q1, q2, q3⟩
      case' inl =>
        have l1 : decide ((k : Int) < (s.size : Int)) = false := decide_eq_false (by omega)
        have n1 : decide (k < s.size) = false := decide_eq_false (by omega)
        clear q1
      case' inr.inl =>
        have l1 : decide ((k : Int) < (s.size : Int)) = true := decide_eq_true (by omega)
        have l2 : decide ((x : Int) < (f.data.size : Int)) = false := decide_eq_false (by omega)
        have n2 : decide (x < f.data.size) = false := decide_eq_false (by omega)
      case' inr.inr =>
        have l1 : decide ((k : Int) < (s.size : Int)) = true := decide_eq_true (by omega)
        have l2 : decide ((x : Int) < (f.data.size : Int)) = true := decide_eq_true (by omega)
        have l3 : decide ((k : Int) < (f.data.size : Int) - (x : Int)) = false := decide_eq_false (by omega)
      all_goals
        go_wp2
        go_region
        go_wp2
        go_ret
        exact ⟨F, rfl, P3.out _, fun _ h => Or.inl h, (((HT.out.more (G := F) (fun x hx => by cases hx)).setCell (Or.inl HBF2.out) _).drew)⟩
end Go.Proofs.Ytfpimebamkmjoaa
