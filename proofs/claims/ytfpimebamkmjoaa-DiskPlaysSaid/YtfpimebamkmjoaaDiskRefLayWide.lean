/- lay: the document's (there is more room than files ahead). -/
import Derived.Test.YtfpimebamkmjoaaDiskRefLay
import Derived.Deep.CutBlock
namespace Go.Proofs.Ytfpimebamkmjoaa
open Go.RowKit
set_option linter.unusedVariables false

set_option maxHeartbeats 8000000 in
theorem lay_wide {base g : Nat} {F : List Nat} {D : DiskS} (f : FileS) (w : World) (h : RefAt w base g F D) (hm : D.l.length ≤ 1024) {cap : Nat} {b : Nat} (hc : w.cell? ⟨g, 1, none⟩ = some (.slice (some ⟨b, 0, none⟩) D.l.length cap)) (hcap : cap ≠ aheadS D.l f.name) :
    Calls Try.prog 62 #[.pointer (some ⟨g, 0, none⟩), .agg #[.string f.name, .string f.data, .int .i64 f.synced]] w (RefUnit base g F w { D with l := layS D.l f }) := by
  have hb0 : base ≤ w.heap.size := by have := h.low g h.mem; omega
  have bx := Blok.new w 65 #[.string f.name, .string f.data, .int .i64 f.synced]
  have T1 : Touch [] w (w.alloc (.cells #[.string f.name, .string f.data, .int .i64 f.synced] 65)) := (Touch.refl [] w).alloc _
  have R1 : RefAt (w.alloc (.cells #[.string f.name, .string f.data, .int .i64 f.synced] 65)) base g F D := h.touch T1 (fun _ _ => by simp)
  have HB := Lib.hid hb0
  have hcc := (T1.cell (p := ⟨g, 1, none⟩) (h.low g h.mem).2 (by simp)).trans hc
  go_enter Try.func62, Try.ntmps62
  go_upto_block 0 with fail
  generalize w.alloc (.cells #[.string f.name, .string f.data, .int .i64 f.synced] 65) = W1 at *
  obtain ⟨A0, cap0, vK, fr, _, c1, _, _, _, _, _, n1, n2, hf⟩ := R1.view
  obtain ⟨rfl, rfl⟩ : A0 = some ⟨b, 0, none⟩ ∧ cap = cap0 := by
    rw [c1] at hcc
    have hcc2 : A0 = some ⟨b, 0, none⟩ ∧ cap0 = cap := by simpa using hcc
    exact ⟨hcc2.1, hcc2.2.symm⟩
  unfold maxLen at n2
  have b0 : W1.cell? ⟨w.heap.size, 0, none⟩ = some (.string f.name) := bx.cell 0
  have HF := Lib.hid hf
  have HR1 := Lib.hid R1
  have HT1 := Lib.hid T1
  have HBX := Lib.hid bx
  have HC := Lib.hid c1
  have hKn := ahead_le D.l f.name
  clear hf R1 T1 bx fr h hb0 hcc hc
  go_cut [4] (fun u wx => Placed W1 (aheadS D.l f.name) u wx)
  case first =>
    go_wp2_with fail
    go_loopw [4] (fun i wr => ∃ k n : Nat, k ≤ D.l.length ∧ i = .int .i64 k ∧ (∀ j x, j < k → D.l[j]? = some x → lessB x.name f.name = true) ∧ wr = W1.drewN n) (fun i _ => D.l.length - (intOf i).toNat)
    case atStart => exact ⟨0, 0, Nat.zero_le _, rfl, fun j x hj => by omega, rfl⟩
    case round =>
      obtain ⟨k, n, hk, rfl, hall, rfl⟩ := hrel
      have HA := Lib.hid hall
      clear hall
      by_cases hlt : k < D.l.length
      · obtain ⟨x, hxk⟩ := some_at hlt
        obtain ⟨b', hb', d0, _, _⟩ := HF.out k x hxk
        obtain rfl : b = b' := by simpa using hb'
        clear hb'
        have HX := Lib.hid hxk
        clear hxk
        have l1 : (k : Int) < (D.l.length : Int) := by omega
        by_cases hless : lessB x.name f.name = true
        · have hb : Op.bytesLess x.name.toList f.name.toList = true := hless
          have HL := Lib.hid hless
          clear hless
          go_wp2
          go_quiet (fail)
          go_wp2
          refine ⟨⟨k + 1, _, by omega, by go_num, fun j y hj hy => ?_, rfl⟩, by simp [intOf]; omega⟩
          rcases Nat.lt_or_ge j k with c | c
          · exact HA.out j y c hy
          · obtain rfl : j = k := by omega
            rw [HX.out] at hy
            obtain rfl : x = y := by simpa using hy
            exact HL.out
        · have hb : Op.bytesLess x.name.toList f.name.toList = false := by unfold lessB at hless; simpa using hless
          have EA := Lib.hid (show aheadS D.l f.name = k from Nat.le_antisymm (ahead_lt HX.out (by simpa using hless)) (ahead_at hk HA.out))
          clear hless
          go_wp2
          go_quiet (fail)
          go_wp2
          go_meet
          exact placed_n EA.out
      · have EA := Lib.hid (show aheadS D.l f.name = k from Nat.le_antisymm (by omega) (ahead_at hk HA.out))
        have l1 : decide ((k : Int) < (D.l.length : Int)) = false := decide_eq_false (by omega)
        go_wp2
        go_quiet (fail)
        go_wp2
        go_meet
        exact placed_n EA.out
  case rest =>
    obtain ⟨n, rfl, rfl⟩ := hcut
    have EA := Lib.hid (show layS D.l f = ([] ++ D.l.take (aheadS D.l f.name) ++ [f]) ++ D.l.drop (aheadS D.l f.name) from rfl)
    have hst : RefStay w base g F D W1 := ⟨HR1.out, HT1.out⟩
    have HBX2 : Blok W1 w.heap.size 65 #[.string f.name, .string f.data, .int .i64 f.synced] := HBX.out
    have s0 := (show W1.cell? ⟨g, 1, none⟩ = some (.slice (some ⟨b, 0, none⟩) D.l.length cap) ∧ RefStay w base g F D W1 from ⟨HC.out, hst⟩)
    have x0 : W1.cell? ⟨w.heap.size, 0, none⟩ = some (.string f.name) := HBX2.cell 0
    have x1 : W1.cell? ⟨w.heap.size, 1, none⟩ = some (.string f.data) := HBX2.cell 1
    have x2 : W1.cell? ⟨w.heap.size, 2, none⟩ = some (.int .i64 f.synced) := HBX2.cell 2
    have i4 : ¬ cap = aheadS D.l f.name := hcap
    have zN := fun m o => (stay_new (stay_n s0 m) o).1
    generalize aheadS D.l f.name = K at *
    have i1 : (0 : Int) ≤ (K : Int) := by omega
    have i2 : (K : Int) ≤ (cap : Int) := by omega
    have i3 : (K : Int) ≤ (D.l.length : Int) := by omega
    clear HBX2 HF b0
    generalize W1 = W at *
    go_wp2_with fail
    go_region_law (first
      | (refine step_append_files (l := []) (m := D.l.take K) rfl _ _ rfl rfl rfl (World.ownsRow_nil _ base _ 3) (src_take (stay_n s0 _) hKn) (by rw [List.length_take]; simp; omega) (stay_size (stay_n s0 _) HB.out) ?_; intro v1 V1 own1 gr1 at1; have far1 := new_far (stay_n s0 _) at1; have s1 := stay_grown (stay_n s0 _) gr1 none_far; have y0 := gr1.cell (a := ⟨w.heap.size, 0, none⟩) (v := .string f.name) (by exact x0) (fun e => by cases e); have y1 := gr1.cell (a := ⟨w.heap.size, 1, none⟩) (v := .string f.data) (by exact x1) (fun e => by cases e); have y2 := gr1.cell (a := ⟨w.heap.size, 2, none⟩) (v := .int .i64 f.synced) (by exact x2) (fun e => by cases e); have z1 := s1.1; have z1' := fun o => (stay_new s1 o).1)
      | (refine step_append_files (l := []) (m := D.l.take K) rfl _ _ rfl rfl rfl (World.ownsRow_nil _ base _ 3) (src_take (stay_new (stay_n s0 _) _) hKn) (by rw [List.length_take]; simp; omega) (stay_size (stay_new (stay_n s0 _) _) HB.out) ?_; intro v1 V1 own1 gr1 at1; have far1 := new_far (stay_new (stay_n s0 _) _) at1; have s1 := stay_grown (stay_new (stay_n s0 _) _) gr1 none_far; have y0 := gr1.cell (a := ⟨w.heap.size, 0, none⟩) (v := .string f.name) (by exact cell_new (W := W.drewN _) x0 _) (fun e => by cases e); have y1 := gr1.cell (a := ⟨w.heap.size, 1, none⟩) (v := .string f.data) (by exact cell_new (W := W.drewN _) x1 _) (fun e => by cases e); have y2 := gr1.cell (a := ⟨w.heap.size, 2, none⟩) (v := .int .i64 f.synced) (by exact cell_new (W := W.drewN _) x2 _) (fun e => by cases e); have z1 := s1.1; have sB := (src_one (W.drewN _) f).grown gr1 rfl)
      | (refine step_append_files (l := [] ++ D.l.take K) (m := [f]) rfl _ _ rfl rfl rfl (own1.alloc _) (src_one _ f) (by simp only [List.nil_append, List.length_take, List.length_cons, List.length_nil]; omega) (stay_size (stay_new s1 _) HB.out) ?_; intro v2 V2 own2 gr2 at2; have s2 := stay_grown (stay_new s1 _) gr2 far1; have z2 := s2.1; have far2 : ∀ x, v2.ownBlock = some x → x ∉ F ∧ w.heap.size ≤ x := (far_next (stay_new s1 _) far1 at2))
      | (refine step_append_files (l := [] ++ D.l.take K) (m := [f]) rfl _ _ rfl rfl rfl own1 sB (by simp only [List.nil_append, List.length_take, List.length_cons, List.length_nil]; omega) (stay_size s1 HB.out) ?_; intro v2 V2 own2 gr2 at2; have s2 := stay_grown s1 gr2 far1; have z2 := s2.1; have far2 : ∀ x, v2.ownBlock = some x → x ∉ F ∧ w.heap.size ≤ x := (far_next s1 far1 at2))
      | (refine step_append_files (l := [] ++ D.l.take K ++ [f]) (m := D.l.drop K) rfl _ _ rfl rfl rfl own2 (src_drop (by first | assumption | exact s2) hKn) (by simp only [List.nil_append, List.length_append, List.length_take, List.length_cons, List.length_nil, List.length_drop]; omega) (stay_size s2 HB.out) ?_; intro v3 V3 own3 gr3 at3; have s3 := stay_grown s2 gr3 far2; obtain ⟨A', c', rfl, _⟩ := own_form own3; have fr3 := stay_free s3; have z3 := s3.1)
      | fail)
    all_goals
      go_end0
      exact unit_end2 s2 s3 far2 at3 own3 (by simp only [List.nil_append, List.length_append, List.length_take, List.length_cons, List.length_nil, List.length_drop]; omega) EA.out
end Go.Proofs.Ytfpimebamkmjoaa
