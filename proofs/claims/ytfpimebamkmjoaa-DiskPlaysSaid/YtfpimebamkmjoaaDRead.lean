/- Read: the program's. -/
import Derived.Test.YtfpimebamkmjoaaDOps
import Derived.Test.YtfpimebamkmjoaaDiskRefRead
namespace Go.Proofs.Ytfpimebamkmjoaa
open Go.RowKit
set_option linter.unusedVariables false

section
variable {w w1 w' : World} {base g mb : Nat} {vF : Value} {E E' : List Ent} {K G : List Nat} {D D' : DiskS}
abbrev ReadOut (base g : Nat) (F : List Nat) (w : World) (r : ByteArray × Nat × DiskS) : Ending → World → Prop := EndAt ProgAt base g F w (.tuple #[.string r.1, err r.2.1]) r.2.2
set_option maxRecDepth 100000 in
set_option maxHeartbeats 4000000 in
theorem read_run (h : PAt w base g mb vF E K D) (hok : ProgOk D) (hct : D.count ≤ 1099511627776) (n : ByteArray) (a k : Int) (hn : n.size ≤ maxLen) (ha : (Lit.int .i64 a).wf = true) (hk : (Lit.int .i64 k).wf = true) : Calls Try.prog 18 #[ptr g, .string n, .int .i64 a, .int .i64 k] w (ReadOut base g (blocksP g mb E K) w (readS D n a k)) := by
  have HH := Lib.hid h
  have hup := Lib.hid (up_run h)
  cases hd : D.down
  case true =>
    have ho := Lib.hid (open_down h hd n)
    rw [readS_down hd]
    rw [hd] at hup
    clear h hok hd ha hk
    go_enter Try.func18, Try.ntmps18
    go_wp2_with fail
    refine hup.out.mono ?_
    rintro e w' ⟨rfl, rfl⟩
    go_wp2_with fail
    refine ho.out.mono ?_
    rintro e w' ⟨rfl, rfl⟩
    go_wp2
    go_ret2
    exact end_same HH.out _
  obtain ⟨c0, c1, c2, c3, c4, c5, c6⟩ := h.cells
  have f4 := h.disk.frozen 4
  have h2 : PAt (w.setCell ⟨g, 4, none⟩ (.int .i64 ((D.count : Int) + 1))) base g mb vF E K (readE D) := h.putCount (D.count + 1)
  have H2 := Lib.hid h2
  have HT := Lib.hid (show Touch (blocksP g mb E K) w (w.setCell ⟨g, 4, none⟩ (.int .i64 ((D.count : Int) + 1))) from (Touch.refl _ _).setCell (p := ⟨g, 4, none⟩) (Or.inl mem_g) _)
  rw [hd] at hup
  by_cases hf : findS D.l n < D.l.length
  case neg =>
    have ho := Lib.hid (open_no h2 hd hf hn)
    rw [readS_none hd hf]
    clear h h2 hok hf hd ha hk c0 c1 c2 c3 c5 c6
    go_enter Try.func18, Try.ntmps18
    go_wp2_with fail
    refine hup.out.mono ?_
    rintro e w' ⟨rfl, rfl⟩
    go_wp2_with fail
    refine ho.out.mono ?_
    rintro e w' ⟨rfl, rfl⟩
    go_wp2
    go_ret2
    exact end_put H2.out HT.out _
  obtain ⟨x, hx, hl, hxn⟩ := ent_at h hf
  have ho := Lib.hid (open_yes h2 hd hx (by rw [hxn]; exact hn))
  rw [hxn] at ho
  have hX := h2.ents x (List.mem_of_getElem? hx)
  have hz := (hok.sizes x.f (List.mem_of_getElem? hl)).2
  obtain ⟨d0, _, _, _⟩ := hX.cells
  have ba := bounds_i64 ha
  have bk := bounds_i64 hk
  by_cases hb : a < 0 ∨ k < 0 ∨ (x.f.data.size : Int) < a ∨ (x.f.data.size : Int) - a < k
  · rw [readS_bad hd hl hb]
    obtain ⟨A, cap, hv, -, -, -⟩ := bytes_form hX.2.2
    rw [hv] at d0
    have hcase : a < 0 ∨ (0 ≤ a ∧ k < 0) ∨ (0 ≤ a ∧ 0 ≤ k ∧ (x.f.data.size : Int) - a < k) := by omega
    clear h h2 hok hf hd ha hk c0 c1 c2 c3 c5 c6 hX hv hx hl hxn hb
    generalize x.f.data.size = z at *
    generalize x.b = xb at *
    rcases hcase with q | ⟨q1, q⟩ | ⟨q1, q2, q⟩
    case' inl =>
      have t1 : decide (a < 0) = true := decide_eq_true q
    case' inr.inl =>
      have t1 : decide (a < 0) = false := decide_eq_false (by omega)
      have t2 : decide (k < 0) = true := decide_eq_true q
    case' inr.inr =>
      have t1 : decide (a < 0) = false := decide_eq_false (by omega)
      have t2 : decide (k < 0) = false := decide_eq_false (by omega)
      have t3 : decide ((z : Int) - a < k) = true := decide_eq_true q
      have t4 : -9223372036854775808 ≤ (z : Int) - a := by omega
      have t5 : (z : Int) - a ≤ 9223372036854775807 := by omega
    all_goals
      go_enter Try.func18, Try.ntmps18
      go_wp2_with fail
      refine hup.out.mono ?_
      rintro e w' ⟨rfl, rfl⟩
      go_wp2_with fail
      refine ho.out.mono ?_
      rintro e w' ⟨rfl, rfl⟩
      go_wp2
      go_ret2
      exact end_put H2.out HT.out _
  · rw [readS_go hd hl hb]
    obtain ⟨p, rfl⟩ : ∃ p : Nat, a = p := ⟨a.toNat, by omega⟩
    obtain ⟨m, rfl⟩ : ∃ m : Nat, k = m := ⟨k.toNat, by omega⟩
    rw [Int.toNat_natCast, Int.toNat_natCast]
    have hpm : p + m ≤ x.f.data.size := by omega
    have t1 : decide ((p : Int) < 0) = false := decide_eq_false (by omega)
    have t2 : decide ((m : Int) < 0) = false := decide_eq_false (by omega)
    have t3 : decide ((x.f.data.size : Int) - (p : Int) < (m : Int)) = false := decide_eq_false (by omega)
    have t4 : (p : Int) + (m : Int) ≤ (x.f.data.size : Int) := by omega
    have t5 : (x.f.data.size : Int) ≤ 1048576 := by omega
    have t6 : (0 : Int) ≤ (p : Int) := by omega
    have t7 : (p : Int) ≤ (p : Int) + (m : Int) := by omega
    have t8 : ((p : Int) + (m : Int)).toNat = p + m := by omega
    have t9 : p + m - p = m := by omega
    rcases bytes_cases hX.2.2 with ⟨e, e2⟩ | ⟨b, cap, e, n1, n2, hb1, hb2⟩
    · obtain rfl : p = 0 := by omega
      obtain rfl : m = 0 := by omega
      have he : x.f.data.extract 0 (0 + 0) = ByteArray.empty := by
        apply ByteArray.ext
        rw [ByteArray.data_extract]
        apply Array.eq_empty_of_size_eq_zero
        rw [Array.size_extract]
        omega
      rw [he]
      rw [e] at d0
      have hcv := fun W => bytes_none W none 0
      clear h h2 hok hf hd ha hk c0 c1 c2 c3 c5 c6 hX e hx hl hxn hb he t1 t2 t3 t4 t5 t6 t7 t8 t9 ba bk hpm
      go_enter Try.func18, Try.ntmps18
      go_wp2_with fail
      refine hup.out.mono ?_
      rintro e w' ⟨rfl, rfl⟩
      go_wp2_with fail
      refine ho.out.mono ?_
      rintro e w' ⟨rfl, rfl⟩
      go_wp2
      go_ret2
      exact end_put H2.out HT.out _
    · have hbs := hX.2.2
      rw [e] at d0 hbs
      unfold maxLen at n2
      have t10 : (p : Int) + (m : Int) ≤ (cap : Int) := by omega
      by_cases hm : m = 0
      · subst hm
        have he : x.f.data.extract p (p + 0) = ByteArray.empty := by
          apply ByteArray.ext
          rw [ByteArray.data_extract]
          apply Array.eq_empty_of_size_eq_zero
          rw [Array.size_extract]
          omega
        rw [he]
        have hcv := fun W A c => bytes_none W A c
        have t11 : (p : Int) ≤ (cap : Int) := by omega
        have t3 : decide ((x.f.data.size : Int) - (p : Int) < 0) = false := decide_eq_false (by omega)
        by_cases t12 : cap = p
        all_goals
          clear h h2 hok hf hd ha hk c0 c1 c2 c3 c5 c6 hX e hx hl hxn hb he ba bk hpm hbs
          go_enter Try.func18, Try.ntmps18
          go_wp2_with fail
          refine hup.out.mono ?_
          rintro e w' ⟨rfl, rfl⟩
          go_wp2_with fail
          refine ho.out.mono ?_
          rintro e w' ⟨rfl, rfl⟩
          go_wp2
          go_ret2
          exact end_put H2.out HT.out _
      · have hcv := fun c => bytes_conv hbs hpm c
        have t12 : ¬ cap = p := by omega
        have t13 : (p : Int) ≤ (cap : Int) := by omega
        clear h h2 hok hf hd ha hk c0 c1 c2 c3 c5 c6 hX e hx hl hxn hb ba bk hpm hbs hm
        go_enter Try.func18, Try.ntmps18
        go_wp2_with fail
        refine hup.out.mono ?_
        rintro e w' ⟨rfl, rfl⟩
        go_wp2_with fail
        refine ho.out.mono ?_
        rintro e w' ⟨rfl, rfl⟩
        go_wp2
        go_ret2
        exact end_put H2.out HT.out _
end
end Go.Proofs.Ytfpimebamkmjoaa
