/- 'Bytes' of the statements of layer 6, of both disks. -/
import Derived.Test.YtfpimebamkmjoaaDTell
namespace Go.Proofs.Ytfpimebamkmjoaa.plays
open Go.RowKit
set_option linter.unusedVariables false

def bump (D : DiskS) (k : Nat) : DiskS := { D with count := D.count + k }
theorem bump_zero (D : DiskS) : bump D 0 = D := rfl
theorem bump_more (D : DiskS) (k : Nat) : readE (bump D k) = bump D (k + 1) := by
  unfold readE bump
  rw [Nat.add_assoc]
theorem wf_bump {D : DiskS} (h : Wf D) (k : Nat) : Wf (bump D k) := ⟨h.synced, h.used, h.cap, h.many, h.fails⟩
theorem find_self {l : List FileS} (hr : Rise l) {k : Nat} {f : FileS} (hk : l[k]? = some f) : findS l f.name = k := by
  have h1 := find_lt hk rfl
  have hk' : k < l.length := (List.getElem?_eq_some_iff.1 hk).1
  obtain ⟨x, hx, e⟩ := find_at (l := l) (n := f.name) (by omega)
  rcases Nat.lt_or_ge (findS l f.name) k with c | c
  · have hp := List.pairwise_iff_getElem.1 (rise_names_ne hr) (findS l f.name) k (by omega) hk' c
    rw [List.getElem?_eq_getElem (by omega)] at hx
    rw [List.getElem?_eq_getElem hk'] at hk
    have e1 := Option.some.inj hx
    have e2 := Option.some.inj hk
    rw [e1, e2, e] at hp
    exact absurd rfl hp
  · omega
theorem all_bytes (b : ByteArray) : b.extract (0 : Int).toNat ((0 : Int).toNat + ((b.size : Nat) : Int).toNat) = b := by
  rw [Int.toNat_natCast]
  show b.extract 0 (0 + b.size) = b
  rw [Nat.zero_add]
  apply ByteArray.ext
  rw [ByteArray.data_extract]
  exact Array.extract_size
set_option maxRecDepth 100000 in
set_option maxHeartbeats 4000000 in
theorem bytes_any {At : Lies} (t : DiskTell At) {w0 w wG : World} {g r : Nat} {G : List Nat} {D : DiskS} (h : Pair At w0 g r G wG D D w) (hw : Wf D) (hd : D.down = false) (hc : D.count ≤ 1099511620000) :
    Calls Try.prog 14 #[ptr g, ptr r] w (PEnd At w0 g r G wG (.bool true) (bump D D.l.length) (bump D D.l.length)) := by
  have T := Lib.hid t
  have H := Lib.hid h
  have HW := Lib.hid hw
  have HD := Lib.hid hd
  have HC := Lib.hid hc
  have hmany := hw.many
  have HR := Lib.hid (show Rise D.l by obtain ⟨F1, F2, h1, _⟩ := h; exact t.rise h1)
  have HS := Lib.hid (show ∀ f ∈ D.l, f.name.size ≤ maxLen by obtain ⟨F1, F2, h1, _⟩ := h; exact t.short h1)
  clear t h hw hd hc
  go_enter Try.func14, Try.ntmps14
  go_wp2
  go_loopw [5] (fun i wr => ∃ k : Nat, k ≤ D.l.length ∧ i = .int .i64 k ∧ Pair At w0 g r G wG (bump D k) (bump D k) wr) (fun i _ => D.l.length - (intOf i).toNat)
  case atStart => exact ⟨0, Nat.zero_le _, rfl, H.out⟩
  case round =>
    obtain ⟨k, hk, rfl, hP⟩ := hrel
    have HP := Lib.hid hP
    obtain ⟨F1, F2, _, hr, _⟩ := hP
    obtain ⟨A, cap, vK, _, _, c1, _, _, _, _, _, n1, n2, hf⟩ := hr.view
    have el : (bump D k).l = D.l := rfl
    rw [el] at c1 hf n1
    unfold maxLen at n2
    clear hr n1 el
    by_cases hlt : k < D.l.length
    · obtain ⟨f, hfk⟩ := some_at hlt
      obtain ⟨b, rfl, d0, d1, d2⟩ := hf k f hfk
      have l1 : (k : Int) < (D.l.length : Int) := by omega
      have hsz := (HW.out.ok.sizes f (List.mem_of_getElem? hfk)).2
      have HX := Lib.hid (Pair.boxed T.out.ok HP.out (.cells #[.string f.name, .string f.data, .int .i64 f.synced] 65))
      have HN := Lib.hid (HS.out f (List.mem_of_getElem? hfk))
      have hfd : findS (bump D k).l f.name = k := find_self HR.out hfk
      have hfk2 : (bump D k).l[findS (bump D k).l f.name]? = some f := by rw [hfd]; exact hfk
      have hsS := Lib.hid (show sizeS (bump D k) f.name = (f.data.size, 0) by
        unfold sizeS
        rw [if_neg (show ¬ (bump D k).down = true from by show ¬ D.down = true; rw [HD.out]; decide), hfk2])
      have hrS := Lib.hid (show readS (bump D k) f.name 0 (f.data.size : Nat) = (f.data, 0, bump D (k + 1)) by
        rw [readS_go (show (bump D k).down = false from HD.out) hfk2 (by omega), all_bytes, bump_more])
      have HB := Lib.hid (Blok.new wr 65 #[.string f.name, .string f.data, .int .i64 f.synced])
      have hcnt : D.count + k ≤ 1099511622000 := by have := HC.out; omega
      have hss := str_eq f.data
      clear hf hfk hfk2 hfd
      go_wp2_with fail
      refine (Pair.ask HX.out.1 (fun F hA => T.out.size f.name hA (wf_bump HW.out k).ok HN.out)).mono ?_
      rintro e w7 ⟨rfl, rfl⟩
      rw [hsS.out]
      go_wp2_with fail
      refine (Pair.prog T.out.ok HX.out.1 (fun F hA => T.out.read f.name 0 (f.data.size : Nat) hA (wf_bump HW.out k).ok (by show D.count + k ≤ _; omega) rfl (WalkArith.wf_i64 (by omega)) HN.out)).mono ?_
      rintro e w8 ⟨rfl, hP8⟩
      rw [hrS.out] at hP8 ⊢
      have P8 := Lib.hid hP8
      have hb8 : Blok w8 wr.heap.size 65 #[.string f.name, .string f.data, .int .i64 f.synced] := ((Pair.guest hP8 (by simp)).1).trans HB.out
      obtain ⟨G1, G2, g1, g2, g3, g4, g5⟩ := hP8
      have hne := (g5 wr.heap.size (by simp)).2.2.2
      obtain ⟨A8, cap8, vK8, fr8, _, _, q2, _⟩ := g2.view
      have f82 := fr8 2
      have q2' : w8.cell? ⟨r, 2, none⟩ = some (.int .i64 ((D.count + k : Nat) : Int)) := q2
      have hpc : RefAt (w8.setCell ⟨r, 2, none⟩ (.int .i64 ((D.count + (k + 1) : Nat) : Int))) w0.heap.size r G2 (bump D (k + 1)) := g2.putCount (D.count + (k + 1))
      have ht9 : Touch G2 w8 (w8.setCell ⟨r, 2, none⟩ (.int .i64 ((D.count + (k + 1) : Nat) : Int))) := (Touch.refl G2 w8).setCell (p := ⟨r, 2, none⟩) (Or.inl g2.mem) _
      have P9 := Lib.hid (show Pair At w0 g r ([wr.heap.size] ++ G) (wr.alloc (.cells #[.string f.name, .string f.data, .int .i64 f.synced] 65)) (bump D (k + 1)) (bump D (k + 1)) (w8.setCell ⟨r, 2, none⟩ (.int .i64 ((D.count + (k + 1) : Nat) : Int))) from
        ⟨G1, G2, T.out.ok.touch g1 ht9 (fun x hx hm => g3 x hx hm), hpc, g3, g4.trans ht9 (fun x hx => Or.inr (g2.low x hx).1), g5.ref ht9 (fun x hx => Or.inl hx)⟩)
      have e1 : (w8.setCell ⟨r, 2, none⟩ (.int .i64 ((D.count + (k + 1) : Nat) : Int))).cell? ⟨wr.heap.size, 1, none⟩ = some (.string f.data) := (ht9.cell (p := ⟨wr.heap.size, 1, none⟩) hb8.lt hne).trans (hb8.cell 1)
      rw [show ((D.count + (k + 1) : Nat) : Int) = ((D.count + k : Nat) : Int) + 1 by omega] at e1 P9
      clear g1 g2 g3 g4 g5 hne q2 fr8 hpc ht9 hb8 c1 d0 d1 d2
      generalize D.count + k = ct at *
      go_wp2
      go_roundw
      case rel => exact ⟨k + 1, by omega, by go_num, Pair.back P9.out HX.out.2⟩
      case measure => simp [intOf]; omega
    · obtain rfl : k = D.l.length := by omega
      clear hf
      go_wp2
      go_ret
      exact ⟨rfl, HP.out⟩
end Go.Proofs.Ytfpimebamkmjoaa.plays
