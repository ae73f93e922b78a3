/- TfNoneWalk, DSpoil, DRead, DLaid -/
import Derived.Test.YtedbgimmbapfaaaGreatPk25
import Derived.Test.YtedbgimmbapfaaaGreatPk23
import Derived.Test.YtedbgimmbapfaaaGreatPk09
import Derived.Deep.RegionLaw
import Derived.Test.YtedbgimmbapfaaaGreatPk08
/- TfNoneWalk -/
namespace Go.Proofs.YtedbgimmbapfaaaGreat
open Go.RowKit Go.Shelf
set_option linter.unusedVariables false

theorem DSt.below0 {At : Lies} {c : Ctx} {gd : Nat} {D : DiskS} {w : World} (h : DSt At c gd D w) (h0 : c.F0 = []) : Below c.w0.heap.size c.w0 w := by
  obtain ⟨F, _, _, ht, _⟩ := h
  rw [h0] at ht
  exact ht.below (Nat.le_refl _) (fun x hx => by cases hx)
def downS : DiskS := (crashS (newS 100) []).2
theorem down_ok : WfP downS := wp_crash (wp_new (by decide)) _
theorem down_open : (openT downS).1 = 61 := by decide +kernel
section
variable {At : Lies} (api : DiskApi At)
include api
theorem none_new (w : World) : Calls Tryz.prog 13 #[.int .i64 100] w fun e w' => ∃ gd, e = .returned (.tuple #[ptr gd, .int .i64 0]) ∧ DSt At ⟨w, [], w.heap.size, .pointer none, [], w⟩ gd (newS 100) w' := by
  refine (api.new_ w.heap.size 100 w (Nat.le_refl _) (by decide)).mono ?_
  rintro e w' ⟨g, F, rfl, hA, hF, ht⟩
  exact ⟨g, rfl, F, hA, fun x hx => Or.inr (hF x hx), ht, ht.size, fun b hb => by cases hb⟩
theorem none_crash {c : Ctx} {gd : Nat} {w : World} (h : DSt At c gd (newS 100) w) : Calls Tryz.prog 14 #[ptr gd, .slice none 0 0] w fun e w' => e = .returned (.int .i64 0) ∧ DSt At c gd downS w' :=
  h.disk fun F hF => api.crash _ [] hF (wp_new (by decide)).ok (ints_none w).in_ (fun b hb => by cases hb) (by decide)
variable (nap : NamesApi) (cap : ChunksApi)
include nap cap
theorem none_open {c : Ctx} {gd : Nat} {w : World} (h : DSt At c gd downS w) : Calls Tryz.prog 15 #[ptr gd] w fun e w' => e = .returned (.tuple #[.pointer none, .int .i64 61]) ∧ ∃ D, DSt At c gd D w' := by
  refine (open_run api nap cap h down_ok (by decide)).mono ?_
  rintro e w' (⟨h0, _⟩ | ⟨_, he, hD⟩)
  · rw [down_open] at h0; cases h0
  · rw [down_open] at he
    exact ⟨he, _, hD⟩
set_option maxRecDepth 100000 in
set_option maxHeartbeats 8000000 in
theorem none12_walk (s : ByteArray) (pos : Int) (w : World) : Calls Tryz.prog 3 #[.string s, .int .i64 pos] w fun e w' => e = .returned (.bool true) ∧ Below w.heap.size w w' := by
  have LO := Lib.hid fun W => lodged_true api nap cap W
  by_cases hbig : 3000 < s.size
  · have t1 : decide ((3000 : Int) < (s.size : Int)) = true := decide_eq_true (by omega)
    clear hbig
    go_enter Tryz.func3, Tryz.ntmps3
    go_wp2_with fail
    refine (LO.out _).mono ?_
    rintro e w1 ⟨rfl, hb⟩
    go_wp2
    go_ret
    exact ⟨rfl, hb⟩
  have t1 : decide ((3000 : Int) < (s.size : Int)) = false := decide_eq_false (by omega)
  have HN0 := Lib.hid (lnone_nil w)
  clear hbig
  go_enter Tryz.func3, Tryz.ntmps3
  go_wp2_with fail
  go_loopw [5, 6] (fun p i wr => ∃ k : Nat, k ≤ 2 ∧ i = .int .i64 k ∧ Says 33 #[p] wr (.bool true) ∧ Below w.heap.size w wr) (fun _ i _ => 2 - (intOf i).toNat)
  case atStart => exact ⟨0, by omega, rfl, HN0.out, Below.refl _ _⟩
  case round =>
    obtain ⟨k, hk, rfl, hN, hbl⟩ := hrel
    have HN := Lib.hid hN
    have HB := Lib.hid hbl
    clear hN hbl
    by_cases hlt : k < 2
    · have l1 : (k : Int) < 2 := by omega
      have k0 := Lib.hid (tappend_nil HN.out s)
      have k1 := Lib.hid (tflread_nil HN.out pos)
      have k2 := Lib.hid (tnext_nil HN.out pos)
      have k3 := Lib.hid (tflush_nil HN.out)
      have k4 := Lib.hid (tend_nil HN.out)
      have k5 := Lib.hid (tsure_nil HN.out)
      go_wp2_with fail
      refine k0.out.mono ?_
      rintro e w' ⟨rfl, rfl⟩
      clear k0
      go_wp2_with fail
      refine k1.out.mono ?_
      rintro e w' ⟨rfl, rfl⟩
      clear k1
      go_wp2_with fail
      refine k2.out.mono ?_
      rintro e w' ⟨rfl, rfl⟩
      clear k2
      go_wp2_with fail
      refine k3.out.mono ?_
      rintro e w' ⟨rfl, rfl⟩
      clear k3
      go_wp2_with fail
      refine k4.out.mono ?_
      rintro e w' ⟨rfl, rfl⟩
      clear k4
      go_wp2_with fail
      refine k5.out.mono ?_
      rintro e w' ⟨rfl, rfl⟩
      clear k5
      have HN2 := Lib.hid (lnone_bare (w := wr.alloc (.cells #[.pointer none, .pointer none, .int .i64 0, .int .i64 0, .int .i64 0, .int .i64 0] 35)) (gl := wr.heap.size) ((Blok.new wr _ _).cell 0))
      have HB2 := Lib.hid (HB.out.alloc HB.out.size (.cells #[.pointer none, .pointer none, .int .i64 0, .int .i64 0, .int .i64 0, .int .i64 0] 35))
      go_wp2
      go_roundw
      case rel => exact ⟨k + 1, by omega, by go_num, HN2.out, HB2.out⟩
      case measure => simp [intOf]; omega
    · have l1 : decide ((k : Int) < 2) = false := decide_eq_false (by omega)
      have hNw := Lib.hid (none_new api wr)
      clear HN HN0 hlt hk
      go_wp2_with fail
      refine hNw.out.mono ?_
      rintro e w1 ⟨gd, rfl, h1⟩
      have hC := Lib.hid (none_crash api h1)
      clear h1 hNw
      go_wp2_with fail
      refine hC.out.mono ?_
      rintro e w2 ⟨rfl, h2⟩
      have hO := Lib.hid (none_open api nap cap h2)
      clear h2 hC
      go_wp2_with fail
      refine hO.out.mono ?_
      rintro e w3 ⟨rfl, D, h3⟩
      have HB3 := Lib.hid (HB.out.trans ((h3.below0 rfl).mono HB.out.size))
      have hO1 := Lib.hid (topen_nil none w3 (fun W' _ => none_nil W'))
      clear h3 hO HB
      go_wp2_with fail
      refine hO1.out.mono ?_
      rintro e w4 ⟨rfl, hb4⟩
      have HB4 := Lib.hid (HB3.out.trans (hb4.mono HB3.out.size))
      obtain ⟨w5, hw5⟩ : ∃ w5, w5 = w4.alloc (.cells #[.pointer none, .int .i64 0, .map none, .bool false, .int .i64 0, .int .i64 0, .pointer none] 44) := ⟨_, rfl⟩
      have k5 : Blok w5 w4.heap.size 44 #[.pointer none, .int .i64 0, .map none, .bool false, .int .i64 0, .int .i64 0, .pointer none] := by rw [hw5]; exact Blok.new w4 _ _
      have HB5 := Lib.hid (show Below w.heap.size w w5 by rw [hw5]; exact HB4.out.alloc HB4.out.size _)
      have hO2 := Lib.hid (topen_nil (some ⟨w4.heap.size, 0, none⟩) w5 (fun W' hb => none_bare ((hb.cell (p := ⟨w4.heap.size, 0, none⟩) k5.lt).trans (k5.cell 0))))
      have hw5' := hw5.symm
      clear hb4 hO1 hw5 HB3
      go_wp2_with fail
      refine hO2.out.mono ?_
      rintro e w6 ⟨rfl, hb6⟩
      have HB6 := Lib.hid (HB5.out.trans (hb6.mono HB5.out.size))
      clear hb6 hO2 k5
      go_wp2_with fail
      refine (LO.out _).mono ?_
      rintro e w7 ⟨rfl, hb7⟩
      have HB7 := Lib.hid (HB6.out.trans (hb7.mono HB6.out.size))
      clear hb7
      go_wp2
      go_ret
      exact ⟨rfl, HB7.out⟩
end
end Go.Proofs.YtedbgimmbapfaaaGreat

/- DSpoil -/
namespace Go.Proofs.YtedbgimmbapfaaaGreat
open Go.RowKit
set_option linter.unusedVariables false

section
variable {P : Program} {ops : Array Oper} {o : Oper} {a : Act} {w w' : World} {K : Act → World → Prop} {Q : Exit → Act → World → Prop} {E : Prop}
theorem step_copy_run {vs vx v' : Value} {t tx : TypeId} (hgd : o.guard = none) (s x : Operand)
    (ho : o.op = .call { callee := .builtin .copy, args := #[s, x], argTypes := #[t, tx] }) (hs : a.eval s = vs) (hx : a.eval x = vx)
    (hr : (Builtin.copy_ #[t, tx] o.type #[vs, vx]).run P w = .ok v' w') (h : K (a.put o.dst v') w') : if Region.wanted o (yielded ops a.tmps) = true then Oper.wp P o a w K Q else E := by
  have hw : Region.wanted o (yielded ops a.tmps) = true := by simp [Region.wanted, hgd]
  rw [if_pos hw]
  unfold Oper.wp execOp
  simp only [ho, resolve, invoke, builtin, Sem.run_bind, Sem.run_pure, Result.andThen_ok, List.map_toArray, List.map_cons, List.map_nil, hs, hx, hr]
  exact h
end
section
variable {ops : Array Oper} {o : Oper} {a : Act} {w w' : World} {K : Act → World → Prop} {Q : Exit → Act → World → Prop} {E : Prop} {base b p cap c n : Nat} {d s : ByteArray} {A : Option Addr}
theorem step_copy_none (hgd : o.guard = none) (t x : Operand) (ho : o.op = .call { callee := .builtin .copy, args := #[t, x], argTypes := #[54, 9] }) {m : Nat} (hs : a.eval t = .slice A m c) (hm : m = 0) (hx : a.eval x = .string s)
    (h : ∀ r, K (a.put o.dst r) w) : if Region.wanted o (yielded ops a.tmps) = true then Oper.wp Tryz.prog o a w K Q else E :=
  step_copy_run hgd t x ho (hm ▸ hs) hx (bytes_copy0 w A c s o.type) (h _)
theorem step_copy_some (hgd : o.guard = none) (t x : Operand) (ho : o.op = .call { callee := .builtin .copy, args := #[t, x], argTypes := #[54, 9] }) (hs : a.eval t = .slice (some ⟨b, p, none⟩) (d.size - p) c) (hx : a.eval x = .string s)
    (hb : BytesAt w base (.slice (some ⟨b, 0, none⟩) n cap) d) (hp : p ≤ d.size) (h : ∀ r w', BytesAt w' base (.slice (some ⟨b, 0, none⟩) n cap) (overS d s p) → Touch [b] w w' → K (a.put o.dst r) w') : if Region.wanted o (yielded ops a.tmps) = true then Oper.wp Tryz.prog o a w K Q else E := by
  obtain ⟨r, w', hr, h1, h2⟩ := bytes_copy hb hp s o.type c
  exact step_copy_run hgd t x ho hs hx hr (h r w' h1 h2)
end
section
variable {w w1 w' : World} {base g mb : Nat} {vF : Value} {E E' : List Ent} {K G : List Nat} {D D' : DiskS}
end
end Go.Proofs.YtedbgimmbapfaaaGreat

/- DRead -/
namespace Go.Proofs.YtedbgimmbapfaaaGreat
open Go.RowKit
set_option linter.unusedVariables false

section
variable {w w1 w' : World} {base g mb : Nat} {vF : Value} {E E' : List Ent} {K G : List Nat} {D D' : DiskS}
abbrev ReadOut (base g : Nat) (F : List Nat) (w : World) (r : ByteArray × Nat × DiskS) : Ending → World → Prop := EndAt ProgAt base g F w (.tuple #[.string r.1, err r.2.1]) r.2.2
set_option maxRecDepth 100000 in
set_option maxHeartbeats 4000000 in
theorem read_run (h : PAt w base g mb vF E K D) (hok : ProgOk D) (hct : D.count ≤ 1099511627776) (n : ByteArray) (a k : Int) (hn : n.size ≤ maxLen) (ha : (Lit.int .i64 a).wf = true) (hk : (Lit.int .i64 k).wf = true) : Calls Tryz.prog 27 #[ptr g, .string n, .int .i64 a, .int .i64 k] w (ReadOut base g (blocksP g mb E K) w (readS D n a k)) := by
  have HH := Lib.hid h
  have hup := Lib.hid (up_run h)
  cases hd : D.down
  case true =>
    have ho := Lib.hid (open_down h hd n)
    rw [readS_down hd]
    rw [hd] at hup
    clear h hok hd ha hk
    go_enter Tryz.func27, Tryz.ntmps27
    go_wp2_with fail
    refine hup.out.mono ?_
    rintro e w' ⟨rfl, rfl⟩
    go_wp2_with fail
    refine ho.out.mono ?_
    rintro e w' ⟨rfl, rfl⟩
    go_wp2
    go_ret2
    exact end_same HH.out _
  obtain ⟨c0, c1, c2, c3, c4, c5, c6⟩ := h.cells
  have f4 := h.disk.frozen 4
  have h2 : PAt (w.setCell ⟨g, 4, none⟩ (.int .i64 ((D.count : Int) + 1))) base g mb vF E K (readE D) := h.putCount (D.count + 1)
  have H2 := Lib.hid h2
  have HT := Lib.hid (show Touch (blocksP g mb E K) w (w.setCell ⟨g, 4, none⟩ (.int .i64 ((D.count : Int) + 1))) from (Touch.refl _ _).setCell (p := ⟨g, 4, none⟩) (Or.inl mem_g) _)
  rw [hd] at hup
  by_cases hf : findS D.l n < D.l.length
  case neg =>
    have ho := Lib.hid (open_no h2 hd hf hn)
    rw [readS_none hd hf]
    clear h h2 hok hf hd ha hk c0 c1 c2 c3 c5 c6
    go_enter Tryz.func27, Tryz.ntmps27
    go_wp2_with fail
    refine hup.out.mono ?_
    rintro e w' ⟨rfl, rfl⟩
    go_wp2_with fail
    refine ho.out.mono ?_
    rintro e w' ⟨rfl, rfl⟩
    go_wp2
    go_ret2
    exact end_put H2.out HT.out _
  obtain ⟨x, hx, hl, hxn⟩ := ent_at h hf
  have ho := Lib.hid (open_yes h2 hd hx (by rw [hxn]; exact hn))
  rw [hxn] at ho
  have hX := h2.ents x (List.mem_of_getElem? hx)
  have hz := (hok.sizes x.f (List.mem_of_getElem? hl)).2
  obtain ⟨d0, _, _, _⟩ := hX.cells
  have ba := bounds_i64 ha
  have bk := bounds_i64 hk
  by_cases hb : a < 0 ∨ k < 0 ∨ (x.f.data.size : Int) < a ∨ (x.f.data.size : Int) - a < k
  · rw [readS_bad hd hl hb]
    obtain ⟨A, cap, hv, -, -, -⟩ := bytes_form hX.2.2
    rw [hv] at d0
    have hcase : a < 0 ∨ (0 ≤ a ∧ k < 0) ∨ (0 ≤ a ∧ 0 ≤ k ∧ (x.f.data.size : Int) - a < k) := by omega
    clear h h2 hok hf hd ha hk c0 c1 c2 c3 c5 c6 hX hv hx hl hxn hb
    generalize x.f.data.size = z at *
    generalize x.b = xb at *
    rcases hcase with q | ⟨q1, q⟩ | ⟨q1, q2, q⟩
    case' inl =>
      have t1 : decide (a < 0) = true := decide_eq_true q
    case' inr.inl =>
      have t1 : decide (a < 0) = false := decide_eq_false (by omega)
      have t2 : decide (k < 0) = true := decide_eq_true q
    case' inr.inr =>
      have t1 : decide (a < 0) = false := decide_eq_false (by omega)
      have t2 : decide (k < 0) = false := decide_eq_false (by omega)
      have t3 : decide ((z : Int) - a < k) = true := decide_eq_true q
      have t4 : -9223372036854775808 ≤ (z : Int) - a := by omega
      have t5 : (z : Int) - a ≤ 9223372036854775807 := by omega
    all_goals
      go_enter Tryz.func27, Tryz.ntmps27
      go_wp2_with fail
      refine hup.out.mono ?_
      rintro e w' ⟨rfl, rfl⟩
      go_wp2_with fail
      refine ho.out.mono ?_
      rintro e w' ⟨rfl, rfl⟩
      go_wp2
      go_ret2
      exact end_put H2.out HT.out _
  · rw [readS_go hd hl hb]
    obtain ⟨p, rfl⟩ : ∃ p : Nat, a = p := ⟨a.toNat, by omega⟩
    obtain ⟨m, rfl⟩ : ∃ m : Nat, k = m := ⟨k.toNat, by omega⟩
    rw [Int.toNat_natCast, Int.toNat_natCast]
    have hpm : p + m ≤ x.f.data.size := by omega
    have t1 : decide ((p : Int) < 0) = false := decide_eq_false (by omega)
    have t2 : decide ((m : Int) < 0) = false := decide_eq_false (by omega)
    have t3 : decide ((x.f.data.size : Int) - (p : Int) < (m : Int)) = false := decide_eq_false (by omega)
    have t4 : (p : Int) + (m : Int) ≤ (x.f.data.size : Int) := by omega
    have t5 : (x.f.data.size : Int) ≤ 1048576 := by omega
    have t6 : (0 : Int) ≤ (p : Int) := by omega
    have t7 : (p : Int) ≤ (p : Int) + (m : Int) := by omega
    have t8 : ((p : Int) + (m : Int)).toNat = p + m := by omega
    have t9 : p + m - p = m := by omega
    rcases bytes_cases hX.2.2 with ⟨e, e2⟩ | ⟨b, cap, e, n1, n2, hb1, hb2⟩
    · obtain rfl : p = 0 := by omega
      obtain rfl : m = 0 := by omega
      have he : x.f.data.extract 0 (0 + 0) = ByteArray.empty := by
        apply ByteArray.ext
        rw [ByteArray.data_extract]
        apply Array.eq_empty_of_size_eq_zero
        rw [Array.size_extract]
        omega
      rw [he]
      rw [e] at d0
      have hcv := fun W => bytes_none W none 0
      clear h h2 hok hf hd ha hk c0 c1 c2 c3 c5 c6 hX e hx hl hxn hb he t1 t2 t3 t4 t5 t6 t7 t8 t9 ba bk hpm
      go_enter Tryz.func27, Tryz.ntmps27
      go_wp2_with fail
      refine hup.out.mono ?_
      rintro e w' ⟨rfl, rfl⟩
      go_wp2_with fail
      refine ho.out.mono ?_
      rintro e w' ⟨rfl, rfl⟩
      go_wp2
      go_ret2
      exact end_put H2.out HT.out _
    · have hbs := hX.2.2
      rw [e] at d0 hbs
      unfold maxLen at n2
      have t10 : (p : Int) + (m : Int) ≤ (cap : Int) := by omega
      by_cases hm : m = 0
      · subst hm
        have he : x.f.data.extract p (p + 0) = ByteArray.empty := by
          apply ByteArray.ext
          rw [ByteArray.data_extract]
          apply Array.eq_empty_of_size_eq_zero
          rw [Array.size_extract]
          omega
        rw [he]
        have hcv := fun W A c => bytes_none W A c
        have t11 : (p : Int) ≤ (cap : Int) := by omega
        have t3 : decide ((x.f.data.size : Int) - (p : Int) < 0) = false := decide_eq_false (by omega)
        by_cases t12 : cap = p
        all_goals
          clear h h2 hok hf hd ha hk c0 c1 c2 c3 c5 c6 hX e hx hl hxn hb he ba bk hpm hbs
          go_enter Tryz.func27, Tryz.ntmps27
          go_wp2_with fail
          refine hup.out.mono ?_
          rintro e w' ⟨rfl, rfl⟩
          go_wp2_with fail
          refine ho.out.mono ?_
          rintro e w' ⟨rfl, rfl⟩
          go_wp2
          go_ret2
          exact end_put H2.out HT.out _
      · have hcv := fun c => bytes_conv hbs hpm c
        have t12 : ¬ cap = p := by omega
        have t13 : (p : Int) ≤ (cap : Int) := by omega
        clear h h2 hok hf hd ha hk c0 c1 c2 c3 c5 c6 hX e hx hl hxn hb ba bk hpm hbs hm
        go_enter Tryz.func27, Tryz.ntmps27
        go_wp2_with fail
        refine hup.out.mono ?_
        rintro e w' ⟨rfl, rfl⟩
        go_wp2_with fail
        refine ho.out.mono ?_
        rintro e w' ⟨rfl, rfl⟩
        go_wp2
        go_ret2
        exact end_put H2.out HT.out _
end
end Go.Proofs.YtedbgimmbapfaaaGreat

/- DLaid -/
namespace Go.Proofs.YtedbgimmbapfaaaGreat
open Go.RowKit
set_option linter.unusedVariables false

def layE (E : List Ent) (x : Ent) : List Ent := E.take (aheadS (E.map Ent.f) x.f.name) ++ [x] ++ E.drop (aheadS (E.map Ent.f) x.f.name)
def dropE (E : List Ent) (k : Nat) : List Ent := E.take k ++ E.drop (k + 1)
def clearE (E : List Ent) (n : ByteArray) : List Ent := if findS (E.map Ent.f) n < E.length then dropE E (findS (E.map Ent.f) n) else E
section
variable {E : List Ent} {x : Ent} {k : Nat} {n : ByteArray}
theorem layE_f : (layE E x).map Ent.f = layS (E.map Ent.f) x.f := by
  unfold layE layS
  rw [List.map_append, List.map_append, List.map_take, List.map_drop]
  rfl
theorem dropE_f : (dropE E k).map Ent.f = dropS (E.map Ent.f) k := by
  unfold dropE dropS
  rw [List.map_append, List.map_take, List.map_drop]
theorem clearE_f : (clearE E n).map Ent.f = clearL (E.map Ent.f) n := by
  unfold clearE clearL
  rw [List.length_map]
  split
  · exact dropE_f
  · rfl
theorem layE_perm : (layE E x).Perm (x :: E) := by
  unfold layE
  rw [List.append_assoc]
  have h : (List.take (aheadS (E.map Ent.f) x.f.name) E ++ ([x] ++ List.drop (aheadS (E.map Ent.f) x.f.name) E)).Perm (([x] ++ List.drop (aheadS (E.map Ent.f) x.f.name) E) ++ List.take (aheadS (E.map Ent.f) x.f.name) E) := List.perm_append_comm
  refine h.trans ?_
  rw [List.append_assoc]
  refine List.Perm.cons x ?_
  have h2 : (List.drop (aheadS (E.map Ent.f) x.f.name) E ++ List.take (aheadS (E.map Ent.f) x.f.name) E).Perm (List.take (aheadS (E.map Ent.f) x.f.name) E ++ List.drop (aheadS (E.map Ent.f) x.f.name) E) := List.perm_append_comm
  rw [List.take_append_drop] at h2
  exact h2
theorem dropE_perm (h : E[k]? = some x) : E.Perm (x :: dropE E k) := by
  have hk := (List.getElem?_eq_some_iff.1 h).1
  have e : E = E.take k ++ (x :: E.drop (k + 1)) := by
    have e2 : E.drop k = x :: E.drop (k + 1) := by
      rw [List.drop_eq_getElem_cons hk]
      congr 1
      rw [List.getElem?_eq_getElem hk] at h
      simpa using h
    rw [← e2, List.take_append_drop]
  have h3 : (E.take k ++ (x :: E.drop (k + 1))).Perm (x :: (E.take k ++ E.drop (k + 1))) := List.perm_middle
  unfold dropE
  rw [← e] at h3
  exact h3
theorem dropE_sub : (dropE E k).Sublist E := by
  unfold dropE
  have e : E = E.take k ++ E.drop k := (List.take_append_drop k E).symm
  have h : (E.drop (k + 1)).Sublist (E.drop k) := by rw [← List.drop_drop]; exact List.drop_sublist _ _
  have h2 := (List.Sublist.refl (E.take k)).append h
  rw [List.take_append_drop] at h2
  exact h2
theorem clearE_sub : (clearE E n).Sublist E := by
  unfold clearE
  split
  · exact dropE_sub
  · exact List.Sublist.refl _
theorem apartE_symm {x y : Ent} (h : apartE x y) : apartE y x := ⟨fun e => h.1 e.symm, fun b h1 h2 => h.2 b h2 h1⟩
theorem layE_apart (h : (x :: E).Pairwise apartE) : (layE E x).Pairwise apartE := (layE_perm.pairwise_iff (fun {a b} hab => apartE_symm hab)).2 h
theorem dropE_apart (hk : E[k]? = some x) (h : E.Pairwise apartE) : (x :: dropE E k).Pairwise apartE := ((dropE_perm hk).pairwise_iff (fun {a b} hab => apartE_symm hab)).1 h
/-- Names that are unlike. -/
def Unlike (E : List Ent) : Prop := E.Pairwise (fun x y => x.f.name ≠ y.f.name)
theorem unlike_of (h : Rise (E.map Ent.f)) : Unlike E := (List.pairwise_map (f := Ent.f) (R := fun x y => x.name ≠ y.name)).1 (rise_names_ne h)
theorem dropE_unlike (hk : E[k]? = some x) (h : Unlike E) : Unlike (x :: dropE E k) := ((dropE_perm hk).pairwise_iff (fun {a b} hab e => hab e.symm)).1 h
theorem dropE_names (hk : E[k]? = some x) (h : Unlike E) : ∀ y ∈ dropE E k, y.f.name ≠ x.f.name := fun y hy e => (List.pairwise_cons.1 (dropE_unlike hk h)).1 y hy e.symm
theorem dropE_mem (hk : E[k]? = some x) {y : Ent} (hy : y ∈ E) (hn : y.f.name ≠ x.f.name) : y ∈ dropE E k := by
  rcases List.mem_cons.1 ((dropE_perm hk).mem_iff.1 hy) with rfl | h
  · exact absurd rfl hn
  · exact h
theorem clearE_names (h : Unlike E) : ∀ y ∈ clearE E n, y.f.name ≠ n := by
  unfold clearE
  split
  · rename_i hlt
    obtain ⟨f, hf, e⟩ := find_at (l := E.map Ent.f) (n := n) (by rw [List.length_map]; exact hlt)
    rw [List.getElem?_map] at hf
    cases hx : E[findS (E.map Ent.f) n]? with
    | none => rw [hx] at hf; cases hf
    | some x =>
      rw [hx] at hf
      obtain rfl : x.f = f := by simpa using hf
      intro y hy
      rw [← e]
      exact dropE_names hx h y hy
  · rename_i hlt
    intro y hy
    exact not_found (l := E.map Ent.f) (by rw [List.length_map]; exact hlt) y.f (List.mem_map.2 ⟨y, hy, rfl⟩)
theorem clearE_mem {y : Ent} (hy : y ∈ E) (hn : y.f.name ≠ n) : y ∈ clearE E n := by
  unfold clearE
  split
  · rename_i hlt
    obtain ⟨f, hf, e⟩ := find_at (l := E.map Ent.f) (n := n) (by rw [List.length_map]; exact hlt)
    rw [List.getElem?_map] at hf
    cases hx : E[findS (E.map Ent.f) n]? with
    | none => rw [hx] at hf; cases hf
    | some x =>
      rw [hx] at hf
      obtain rfl : x.f = f := by simpa using hf
      exact dropE_mem hx hy (by rw [e]; exact hn)
  · exact hy
theorem rise_clear {l : List FileS} (h : Rise l) (n : ByteArray) : Rise (clearL l n) := by
  unfold clearL
  split
  · exact rise_drop h _
  · exact h
end
section
variable {w w1 w' : World} {base g mb : Nat} {vF : Value} {E E' : List Ent} {K G : List Nat} {D D' : DiskS}
theorem PAt.nodup (h : PAt w base g mb vF E K D) : ((E.map Ent.nb).map (fun x => x.1.data.toList)).Nodup := by rw [nb_names h]; exact rise_names h.rise
theorem PAt.unlike (h : PAt w base g mb vF E K D) : Unlike E := unlike_of (by rw [← h.lst]; exact h.rise)
theorem PAt.lenE (h : PAt w base g mb vF E K D) : E.length = D.l.length := by rw [h.lst, List.length_map]
theorem drop_blocks : ∀ y ∈ blocksP g mb E' K, (∀ z ∈ E', z ∈ E) → y ∈ blocksP g mb E K := by
  intro y hy hs
  rcases mem_blocks.1 hy with e | e | e | ⟨z, hz, e⟩
  · exact mem_blocks.2 (Or.inl e)
  · exact mem_blocks.2 (Or.inr (Or.inl e))
  · exact mem_K e
  · exact mem_E (hs z hz) e
end
end Go.Proofs.YtedbgimmbapfaaaGreat

namespace Go.Proofs.YtedbgimmbapfaaaGreat
open Go.RowKit
set_option linter.unusedVariables false

section
variable {w w1 w' : World} {base g mb : Nat} {vF : Value} {E E' : List Ent} {K G : List Nat} {D D' : DiskS}
theorem PAt.namesE (h : PAt w base g mb vF E K D) {x : Ent} (hx : x ∈ E) : x.f.name.size ≤ maxLen := by
  have := h.names x.f (by rw [h.lst]; exact List.mem_map.2 ⟨x, hx, rfl⟩)
  unfold nameB at this
  simp only [Bool.and_eq_true, decide_eq_true_eq] at this
  unfold maxLen
  omega
/-- A file less. -/
theorem delete_map (h : PAt w base g mb vF E K D) {k : Nat} {x : Ent} (hk : E[k]? = some x) : ∃ w', (Builtin.delete_ #[41, 9] 0 #[.map (some mb), .string x.f.name]).run Tryz.prog w = .ok (.tuple #[]) w' ∧ PAt w' base g mb vF (dropE E k) K { D with l := dropS D.l k } ∧ Touch [mb] w w' := by
  have hx := List.mem_of_getElem? hk
  obtain ⟨w', hr, hm, ht⟩ := h.map.drop (L' := (dropE E k).map Ent.nb) (h.namesE hx) (fun y hy => by
    obtain ⟨z, hz, rfl⟩ := List.mem_map.1 hy
    exact ⟨List.mem_map.2 ⟨z, dropE_sub.subset hz, rfl⟩, dropE_names hk h.unlike z hz⟩) (fun y hy hne => by
    obtain ⟨z, hz, rfl⟩ := List.mem_map.1 hy
    exact List.mem_map.2 ⟨z, dropE_mem hk hz hne, rfl⟩) 0
  refine ⟨w', hr, h.putMap (dropE E k) _ (by rw [dropE_f, ← h.lst]) hm ht (fun y hy => h.ents y (dropE_sub.subset hy)) (List.Pairwise.sublist dropE_sub h.apart) (rise_drop h.rise k) (fun f hf => h.names f (drop_mem hf)), ht⟩
set_option maxRecDepth 100000 in
theorem delete_run (h : PAt w base g mb vF E K D) (hok : ProgOk D) (n : ByteArray) (hn : n.size ≤ maxLen) : Calls Tryz.prog 63 #[ptr g, .string n] w (EndAt ProgAt base g (blocksP g mb E K) w (err (deleteS D n).1) (deleteS D n).2) := by
  have HH := Lib.hid h
  cases hd : D.down
  · by_cases hf : findS D.l n < D.l.length
    · obtain ⟨x, hx, hl, hxn⟩ := ent_at h hf
      have ho := Lib.hid (open_yes h hd hx (by rw [hxn]; exact hn))
      rw [hxn] at ho
      rw [deleteS_go hd hf]
      generalize findS D.l n = k at *
      cases hg : goesS D
      · have hfl := Lib.hid (fails_sinks h hok hg)
        simp only [Bool.false_eq_true, if_false]
        generalize sinkS D D.keep = D2 at *
        clear h hok hx hl hxn hf hd hg
        go_enter Tryz.func63, Tryz.ntmps63
        go_wp2_with fail
        refine ho.out.mono ?_
        rintro e w' ⟨rfl, rfl⟩
        go_wp2_with fail
        refine hfl.out.mono ?_
        rintro e w2 ⟨E', rfl, h1, h2, h3⟩
        have H1 := Lib.hid h1
        have H2 := Lib.hid h2
        have H3 := Lib.hid h3
        clear h1 h2 h3 hfl
        go_wp2
        go_ret
        exact end_sunk H1.out H2.out H3.out _
      · have hfl := Lib.hid (fails_goes h hg)
        simp only [if_true]
        have HX := Lib.hid hx
        have HN := Lib.hid hxn
        clear h hok hx hl hxn hf hd hg
        go_enter Tryz.func63, Tryz.ntmps63
        go_wp2_with fail
        refine ho.out.mono ?_
        rintro e w' ⟨rfl, rfl⟩
        go_wp2_with fail
        refine hfl.out.mono ?_
        rintro e w2 ⟨rfl, h1, h2⟩
        obtain ⟨w3, hr, h3, h4⟩ := delete_map h1 HX.out
        rw [HN.out] at hr
        obtain ⟨c0, c1, c2, c3, c4, c5, c6⟩ := h1.cells
        have H3 := Lib.hid h3
        have H4 := Lib.hid h4
        have H2 := Lib.hid h2
        clear h1 h2 h3 h4 hfl c0 c1 c3 c4 c5 c6
        go_wp2
        go_ret
        refine ⟨_, rfl, H3.out.at, fun y hy => Or.inl (drop_blocks y hy (fun z hz => dropE_sub.subset hz)), ?_⟩
        exact (H2.out.more (fun b hb => Or.inl (mem_K hb))).trans H4.out (fun b hb => Or.inl (by rw [List.mem_singleton.1 hb]; exact mem_mb))
    · have ho := Lib.hid (open_no h hd hf hn)
      rw [deleteS_none hd hf]
      clear h hok hf hd
      go_enter Tryz.func63, Tryz.ntmps63
      go_wp2_with fail
      refine ho.out.mono ?_
      rintro e w' ⟨rfl, rfl⟩
      go_wp2
      go_ret
      exact end_same HH.out _
  · have ho := Lib.hid (open_down h hd n)
    rw [deleteS_down hd]
    clear h hok hd
    go_enter Tryz.func63, Tryz.ntmps63
    go_wp2_with fail
    refine ho.out.mono ?_
    rintro e w' ⟨rfl, rfl⟩
    go_wp2
    go_ret
    exact end_same HH.out _
end
end Go.Proofs.YtedbgimmbapfaaaGreat

namespace Go.Proofs.YtedbgimmbapfaaaGreat
open Go.RowKit
set_option linter.unusedVariables false

section
variable {w w1 w' : World} {base g mb : Nat} {vF : Value} {E E' : List Ent} {K G : List Nat} {D D' : DiskS}
/-- A new file in memory. -/
def newE (w : World) (n : ByteArray) : Ent := ⟨⟨n, ByteArray.empty, 0⟩, w.heap.size, .slice none 0 0⟩
def newW (w : World) : World := w.alloc (.cells #[.slice none 0 0, .int .i64 0] 74)
/-- A file more. -/
theorem create_map (h : PAt w base g mb vF E K D) (n : ByteArray) (hnb : nameB n = true) (hn : n.size ≤ maxLen) (hf : ¬ findS D.l n < D.l.length) (hm : D.l.length ≤ 400) :
    ∃ w', (Instr.mapUpdate 41 (.map (some mb)) (.string n) (ptr w.heap.size)).run Tryz.prog (newW w) = .ok () w' ∧ PAt w' base g mb vF (layE E (newE w n)) K { D with l := layS D.l ⟨n, ByteArray.empty, 0⟩ } ∧ Touch [mb] w w' := by
  have ht0 : Touch [] w (newW w) := (Touch.refl [] w).alloc _
  have h0 := h.touch ht0 (fun _ _ => by simp)
  have hbase : base ≤ w.heap.size := by have := h.gb; have := h.disk.lt; omega
  have hE0 : EntAt (newW w) base (newE w n) := ⟨Blok.new w _ _, hbase, bytes_nil _ _⟩
  have hne : ∀ y ∈ E, y.f.name ≠ n := fun y hy => not_found hf y.f (by rw [h.lst]; exact List.mem_map.2 ⟨y, hy, rfl⟩)
  have hap : (newE w n :: E).Pairwise apartE := List.pairwise_cons.2 ⟨fun y hy => ⟨fun e => by
    have := (h.ents y hy).1.lt
    have e' : w.heap.size = y.b := e
    omega, fun b hb => by cases hb⟩, h.apart⟩
  obtain ⟨w', hr, hmm, ht⟩ := h0.map.store h0.nodup (by rw [List.length_map, h.lenE]; exact hm) hn (b := w.heap.size) (L' := (layE E (newE w n)).map Ent.nb) (List.mem_map.2 ⟨newE w n, layE_perm.mem_iff.2 (by simp), rfl⟩)
    (fun y hy => by
      obtain ⟨z, hz, rfl⟩ := List.mem_map.1 hy
      rcases List.mem_cons.1 (layE_perm.mem_iff.1 hz) with rfl | hz
      · exact Or.inl rfl
      · exact Or.inr ⟨List.mem_map.2 ⟨z, hz, rfl⟩, hne z hz⟩)
    (fun y hy _ => by
      obtain ⟨z, hz, rfl⟩ := List.mem_map.1 hy
      exact List.mem_map.2 ⟨z, layE_perm.mem_iff.2 (by simp [hz]), rfl⟩)
  have hfe : (newE w n).f = ⟨n, ByteArray.empty, 0⟩ := rfl
  refine ⟨w', hr, h0.putMap (layE E (newE w n)) _ (by rw [layE_f, hfe, ← h.lst]) hmm ht (fun y hy => ?_) (layE_apart hap) (rise_lay h.rise _ (fun y hy => not_found hf y hy)) (fun f hf => ?_), (ht0.more (fun x hx => by cases hx)).trans ht (fun b hb => Or.inl hb)⟩
  · rcases List.mem_cons.1 (layE_perm.mem_iff.1 hy) with rfl | hy
    · exact hE0
    · exact h0.ents y hy
  · rcases lay_mem hf with hf | rfl
    · exact h.names f hf
    · exact hnb
theorem lay_blocks {x : Ent} {z : Nat} (hz : ∀ b ∈ x.blocks, z ≤ b) : ∀ y ∈ blocksP g mb (layE E x) K, y ∈ blocksP g mb E K ∨ z ≤ y := by
  intro y hy
  rcases mem_blocks.1 hy with e | e | e | ⟨u, hu, e⟩
  · exact Or.inl (mem_blocks.2 (Or.inl e))
  · exact Or.inl (mem_blocks.2 (Or.inr (Or.inl e)))
  · exact Or.inl (mem_K e)
  · rcases List.mem_cons.1 (layE_perm.mem_iff.1 hu) with rfl | hu
    · exact Or.inr (hz y e)
    · exact Or.inl (mem_E hu e)
set_option maxRecDepth 100000 in
set_option maxHeartbeats 2000000 in
theorem create_run (h : PAt w base g mb vF E K D) (hok : ProgOk D) (n : ByteArray) (hn : n.size ≤ maxLen) : Calls Tryz.prog 50 #[ptr g, .string n] w (EndAt ProgAt base g (blocksP g mb E K) w (err (createS D n).1) (createS D n).2) := by
  have HH := Lib.hid h
  have hr := Lib.hid (ready_run h)
  unfold readyR at hr
  cases hd : D.down
  case true =>
    rw [createS_down hd]
    rw [hd] at hr
    clear h hok hd
    go_enter Tryz.func50, Tryz.ntmps50
    go_wp2_with fail
    refine hr.out.mono ?_
    rintro e w' ⟨rfl, rfl⟩
    go_wp2
    go_ret
    exact end_same HH.out _
  rw [hd] at hr
  have hnm := Lib.hid (isName_run n w hn)
  cases hnb : nameB n
  case false =>
    rw [createS_arg hd hnb]
    rw [hnb] at hnm
    clear h hok hd hnb
    go_enter Tryz.func50, Tryz.ntmps50
    go_wp2_with fail
    refine hr.out.mono ?_
    rintro e w' ⟨rfl, rfl⟩
    go_wp2_with fail
    refine hnm.out.mono ?_
    rintro e w' ⟨rfl, rfl⟩
    go_wp2
    go_ret
    exact end_same HH.out _
  rw [hnb] at hnm
  obtain ⟨c0, c1, c2, c3, c4, c5, c6⟩ := h.cells
  by_cases hf : findS D.l n < D.l.length
  case pos =>
    obtain ⟨x, hx, hl, hxn⟩ := ent_at h hf
    rw [createS_have hd hnb hf]
    have hl := h.map.look hn (b := x.b) (List.mem_map.2 ⟨x, List.mem_of_getElem? hx, by unfold Ent.nb; rw [hxn]⟩)
    clear h hok hd hnb hf hx hxn c0 c1 c3 c4 c5 c6
    generalize x.b = xb at *
    go_enter Tryz.func50, Tryz.ntmps50
    go_wp2_with fail
    refine hr.out.mono ?_
    rintro e w' ⟨rfl, rfl⟩
    go_wp2_with fail
    refine hnm.out.mono ?_
    rintro e w' ⟨rfl, rfl⟩
    go_wp2
    go_ret
    exact end_same HH.out _
  have hl := h.map.lookNo hn (fun y hy => by
    obtain ⟨x, hx, rfl⟩ := List.mem_map.1 hy
    exact not_found hf x.f (by rw [h.lst]; exact List.mem_map.2 ⟨x, hx, rfl⟩))
  have hlen := fun ts => h.map.len h.nodup ts
  rw [List.length_map, h.lenE] at hlen
  have hmany := hok.many
  by_cases hm : 400 ≤ D.l.length
  case pos =>
    rw [createS_full hd hnb hf hm]
    have q : decide ((400 : Int) ≤ (D.l.length : Int)) = true := decide_eq_true (by omega)
    clear h hok hd hnb hf c0 c1 c3 c4 c5 c6
    go_enter Tryz.func50, Tryz.ntmps50
    go_wp2_with fail
    refine hr.out.mono ?_
    rintro e w' ⟨rfl, rfl⟩
    go_wp2_with fail
    refine hnm.out.mono ?_
    rintro e w' ⟨rfl, rfl⟩
    go_wp2
    go_ret
    exact end_same HH.out _
  rw [createS_go hd hnb hf hm]
  have q : decide ((400 : Int) ≤ (D.l.length : Int)) = false := decide_eq_false (by omega)
  cases hg : goesS D
  · have hfl := Lib.hid (fails_sinks h hok hg)
    simp only [Bool.false_eq_true, if_false]
    generalize sinkS D D.keep = D2 at *
    clear h hok hd hg hnb hf c0 c1 c3 c4 c5 c6
    go_enter Tryz.func50, Tryz.ntmps50
    go_wp2_with fail
    refine hr.out.mono ?_
    rintro e w' ⟨rfl, rfl⟩
    go_wp2_with fail
    refine hnm.out.mono ?_
    rintro e w' ⟨rfl, rfl⟩
    go_wp2_with fail
    refine hfl.out.mono ?_
    rintro e w2 ⟨E', rfl, h1, h2, h3⟩
    have H1 := Lib.hid h1
    have H2 := Lib.hid h2
    have H3 := Lib.hid h3
    clear h1 h2 h3 hfl
    go_wp2
    go_ret
    exact end_sunk H1.out H2.out H3.out _
  · have hfl := Lib.hid (fails_goes h hg)
    simp only [if_true]
    have HNB := Lib.hid hnb
    have HF := Lib.hid hf
    have HMM := Lib.hid hmany
    clear h hok hd hg hnb hf c0 c1 c3 c4 c5 c6 hm
    go_enter Tryz.func50, Tryz.ntmps50
    go_wp2_with fail
    refine hr.out.mono ?_
    rintro e w' ⟨rfl, rfl⟩
    go_wp2_with fail
    refine hnm.out.mono ?_
    rintro e w' ⟨rfl, rfl⟩
    go_wp2_with fail
    refine hfl.out.mono ?_
    rintro e w2 ⟨rfl, h1, h2⟩
    obtain ⟨w3, hr3, h3, h4⟩ := create_map h1 n HNB.out hn HF.out HMM.out
    obtain ⟨c0, c1, c2', c3, c4, c5, c6⟩ := h1.cells
    have H3 := Lib.hid h3
    have H4 := Lib.hid h4
    have H2 := Lib.hid h2
    have HLB := Lib.hid (lay_blocks (g := g) (mb := mb) (E := E) (K := K) (x := newE w2 n) (z := w.heap.size) (fun b hb => by
      have e : b = w2.heap.size := by simpa [newE, Ent.blocks, Value.ownBlock] using hb
      rw [e]
      exact h2.size))
    unfold newW at hr3
    clear h1 h2 h3 h4 hfl c0 c1 c3 c4 c5 c6 c2 hl hlen
    go_wp2
    go_ret
    refine ⟨_, rfl, H3.out.at, HLB.out, ?_⟩
    exact (H2.out.more (fun b hb => Or.inl (mem_K hb))).trans H4.out (fun b hb => Or.inl (by rw [List.mem_singleton.1 hb]; exact mem_mb))
end
end Go.Proofs.YtedbgimmbapfaaaGreat

namespace Go.Proofs.YtedbgimmbapfaaaGreat
open Go.RowKit
set_option linter.unusedVariables false

section
variable {w w1 w' : World} {base g mb : Nat} {vF : Value} {E E' : List Ent} {K G : List Nat} {D D' : DiskS}
/-- A file by another name. -/
def namedE (x : Ent) (n : ByteArray) : Ent := ⟨{ x.f with name := n }, x.b, x.v⟩
theorem named_at {x : Ent} {n : ByteArray} (h : EntAt w base x) : EntAt w base (namedE x n) := ⟨h.1, h.2.1, h.2.2⟩
def renL (l : List FileS) (k : Nat) (n tn : ByteArray) : List FileS := if n = tn then l else renameL l k tn
/-- Taken away, and put there again. -/
theorem back_map (h : PAt w base g mb vF E K D) {k : Nat} {x : Ent} (hk : E[k]? = some x) (hm : D.l.length ≤ 400) (hd : PAt w1 base g mb vF (dropE E k) K { D with l := dropS D.l k }) (ht : Touch [mb] w w1) :
    ∃ w', (Instr.mapUpdate 41 (.map (some mb)) (.string x.f.name) (ptr x.b)).run Tryz.prog w1 = .ok () w' ∧ PAt w' base g mb vF E K D ∧ Touch [mb] w1 w' := by
  have hx := List.mem_of_getElem? hk
  obtain ⟨w', hr, hmm, ht2⟩ := hd.map.store hd.nodup (by
    have h1 : (dropE E k).length ≤ E.length := dropE_sub.length_le
    rw [List.length_map]
    have := h.lenE
    omega) (h.namesE hx) (b := x.b) (L' := E.map Ent.nb) (List.mem_map.2 ⟨x, hx, rfl⟩)
    (fun y hy => by
      obtain ⟨z, hz, rfl⟩ := List.mem_map.1 hy
      rcases List.mem_cons.1 ((dropE_perm hk).mem_iff.1 hz) with rfl | hz
      · exact Or.inl rfl
      · exact Or.inr ⟨List.mem_map.2 ⟨z, hz, rfl⟩, dropE_names hk h.unlike z hz⟩)
    (fun y hy _ => by
      obtain ⟨z, hz, rfl⟩ := List.mem_map.1 hy
      exact List.mem_map.2 ⟨z, dropE_sub.subset hz, rfl⟩)
  have hT : Touch [mb] w w' := ht.trans ht2 (fun b hb => Or.inl hb)
  have hp := h.putMap E D.l h.lst hmm hT h.ents h.apart h.rise h.names
  exact ⟨w', hr, hp, ht2⟩
/-- Taken away, and put there by another name. -/
theorem move_map (h : PAt w base g mb vF E K D) {k : Nat} {x : Ent} (hk : E[k]? = some x) {tn : ByteArray} (hnb : nameB tn = true) (htn : tn.size ≤ maxLen) (hne : x.f.name ≠ tn) (hm : D.l.length ≤ 400) (hd : PAt w1 base g mb vF (dropE E k) K { D with l := dropS D.l k }) (ht : Touch [mb] w w1) :
    ∃ w', (Instr.mapUpdate 41 (.map (some mb)) (.string tn) (ptr x.b)).run Tryz.prog w1 = .ok () w' ∧ PAt w' base g mb vF (layE (clearE (dropE E k) tn) (namedE x tn)) K { D with l := renameL D.l k tn } ∧ Touch [mb] w1 w' := by
  have hx := List.mem_of_getElem? hk
  have hnames := clearE_names (n := tn) hd.unlike
  obtain ⟨w', hr, hmm, ht2⟩ := hd.map.store hd.nodup (by
    have h1 : (dropE E k).length ≤ E.length := dropE_sub.length_le
    rw [List.length_map]
    have := h.lenE
    omega) htn (b := x.b) (L' := (layE (clearE (dropE E k) tn) (namedE x tn)).map Ent.nb) (List.mem_map.2 ⟨namedE x tn, layE_perm.mem_iff.2 (by simp), rfl⟩)
    (fun y hy => by
      obtain ⟨z, hz, rfl⟩ := List.mem_map.1 hy
      rcases List.mem_cons.1 (layE_perm.mem_iff.1 hz) with rfl | hz
      · exact Or.inl rfl
      · exact Or.inr ⟨List.mem_map.2 ⟨z, clearE_sub.subset hz, rfl⟩, hnames z hz⟩)
    (fun y hy hyn => by
      obtain ⟨z, hz, rfl⟩ := List.mem_map.1 hy
      exact List.mem_map.2 ⟨z, layE_perm.mem_iff.2 (by simp [clearE_mem hz hyn]), rfl⟩)
  have hfk : D.l[k]? = some x.f := by rw [h.lst, List.getElem?_map, hk]; rfl
  have hfe : (namedE x tn).f = { x.f with name := tn } := rfl
  have hap : (namedE x tn :: clearE (dropE E k) tn).Pairwise apartE := by
    obtain ⟨p1, p2⟩ := List.pairwise_cons.1 (dropE_apart hk h.apart)
    exact List.pairwise_cons.2 ⟨fun y hy => p1 y (clearE_sub.subset hy), List.Pairwise.sublist clearE_sub p2⟩
  have hl : renameL D.l k tn = (layE (clearE (dropE E k) tn) (namedE x tn)).map Ent.f := by
    rw [renameL_at hfk, layE_f, clearE_f, dropE_f, hfe, ← h.lst]
  have hT : Touch [mb] w w' := ht.trans ht2 (fun b hb => Or.inl hb)
  refine ⟨w', hr, h.putMap _ _ hl hmm hT (fun y hy => ?_) (layE_apart hap) ?_ (fun f hf => ?_), ht2⟩
  · rcases List.mem_cons.1 (layE_perm.mem_iff.1 hy) with rfl | hy
    · exact named_at (h.ents x hx)
    · exact h.ents y (dropE_sub.subset (clearE_sub.subset hy))
  · rw [renameL_at hfk]
    refine rise_lay (rise_clear (rise_drop h.rise k) tn) _ (fun f hf => ?_)
    have hf' : f ∈ (clearE (dropE E k) tn).map Ent.f := by rw [clearE_f, dropE_f, ← h.lst]; exact hf
    obtain ⟨z, hz, rfl⟩ := List.mem_map.1 hf'
    exact hnames z hz
  · rw [renameL_at hfk] at hf
    rcases lay_mem hf with hf | rfl
    · exact h.names f (drop_mem (clear_mem hf))
    · exact hnb
set_option maxRecDepth 100000 in
set_option maxHeartbeats 2000000 in
theorem rename_run (h : PAt w base g mb vF E K D) (hok : ProgOk D) (n tn : ByteArray) (hn : n.size ≤ maxLen) (htn : tn.size ≤ maxLen) : Calls Tryz.prog 88 #[ptr g, .string n, .string tn] w (EndAt ProgAt base g (blocksP g mb E K) w (err (renameS D n tn).1) (renameS D n tn).2) := by
  have HH := Lib.hid h
  cases hd : D.down
  case true =>
    have ho := Lib.hid (open_down h hd n)
    rw [renameS_down hd]
    clear h hok hd
    go_enter Tryz.func88, Tryz.ntmps88
    go_wp2_with fail
    refine ho.out.mono ?_
    rintro e w' ⟨rfl, rfl⟩
    go_wp2
    go_ret
    exact end_same HH.out _
  by_cases hf : findS D.l n < D.l.length
  case neg =>
    have ho := Lib.hid (open_no h hd hf hn)
    rw [renameS_none hd hf]
    clear h hok hf hd
    go_enter Tryz.func88, Tryz.ntmps88
    go_wp2_with fail
    refine ho.out.mono ?_
    rintro e w' ⟨rfl, rfl⟩
    go_wp2
    go_ret
    exact end_same HH.out _
  obtain ⟨x, hx, hl, hxn⟩ := ent_at h hf
  have ho := Lib.hid (open_yes h hd hx (by rw [hxn]; exact hn))
  rw [hxn] at ho
  have hnm := Lib.hid (isName_run tn w htn)
  cases hnb : nameB tn
  case false =>
    rw [renameS_arg hd hf hnb]
    rw [hnb] at hnm
    clear h hok hd hnb hf hx hl hxn
    go_enter Tryz.func88, Tryz.ntmps88
    go_wp2_with fail
    refine ho.out.mono ?_
    rintro e w' ⟨rfl, rfl⟩
    go_wp2_with fail
    refine hnm.out.mono ?_
    rintro e w' ⟨rfl, rfl⟩
    go_wp2
    go_ret
    exact end_same HH.out _
  rw [hnb] at hnm
  rw [renameS_go hd hf hnb, show (if n = tn then D.l else renameL D.l (findS D.l n) tn) = renL D.l (findS D.l n) n tn from rfl]
  generalize findS D.l n = k at *
  cases hg : goesS D
  · have hfl := Lib.hid (fails_sinks h hok hg)
    simp only [Bool.false_eq_true, if_false]
    generalize sinkS D D.keep = D2 at *
    clear h hok hx hl hxn hf hd hg hnb
    go_enter Tryz.func88, Tryz.ntmps88
    go_wp2_with fail
    refine ho.out.mono ?_
    rintro e w' ⟨rfl, rfl⟩
    go_wp2_with fail
    refine hnm.out.mono ?_
    rintro e w' ⟨rfl, rfl⟩
    go_wp2_with fail
    refine hfl.out.mono ?_
    rintro e w2 ⟨E', rfl, h1, h2, h3⟩
    have H1 := Lib.hid h1
    have H2 := Lib.hid h2
    have H3 := Lib.hid h3
    clear h1 h2 h3 hfl
    go_wp2
    go_ret
    exact end_sunk H1.out H2.out H3.out _
  · have hfl := Lib.hid (fails_goes h hg)
    simp only [if_true]
    have HX := Lib.hid hx
    have HN := Lib.hid hxn
    have HNB := Lib.hid hnb
    have HMM := Lib.hid hok.many
    have hbx : ∀ b ∈ x.blocks, b ∈ blocksP g mb E K := fun b hb => mem_E (List.mem_of_getElem? hx) hb
    have HBX := Lib.hid hbx
    clear h hok hx hl hxn hf hd hg hnb hbx
    go_enter Tryz.func88, Tryz.ntmps88
    go_wp2_with fail
    refine ho.out.mono ?_
    rintro e w' ⟨rfl, rfl⟩
    go_wp2_with fail
    refine hnm.out.mono ?_
    rintro e w' ⟨rfl, rfl⟩
    go_wp2_with fail
    refine hfl.out.mono ?_
    rintro e w2 ⟨rfl, h1, h2⟩
    obtain ⟨w3, hr, h3, h4⟩ := delete_map h1 HX.out
    have hboth : ∃ w4 E4, (Instr.mapUpdate 41 (.map (some mb)) (.string tn) (ptr x.b)).run Tryz.prog w3 = .ok () w4 ∧ PAt w4 base g mb vF E4 K { nextS D with l := renL D.l k n tn } ∧ Touch [mb] w3 w4 ∧ (∀ y ∈ blocksP g mb E4 K, y ∈ blocksP g mb E K) := by
      by_cases hnt : n = tn
      · obtain ⟨w4, q1, q2, q3⟩ := back_map h1 HX.out HMM.out h3 h4
        refine ⟨w4, E, ?_, by unfold renL; rw [if_pos hnt]; exact q2, q3, fun _ h => h⟩
        rw [← hnt, ← HN.out]
        exact q1
      · obtain ⟨w4, q1, q2, q3⟩ := move_map h1 HX.out HNB.out htn (by rw [HN.out]; exact hnt) HMM.out h3 h4
        refine ⟨w4, _, q1, by unfold renL; rw [if_neg hnt]; exact q2, q3, fun y hy => ?_⟩
        rcases mem_blocks.1 hy with e | e | e | ⟨u, hu, e⟩
        · exact mem_blocks.2 (Or.inl e)
        · exact mem_blocks.2 (Or.inr (Or.inl e))
        · exact mem_K e
        · rcases List.mem_cons.1 (layE_perm.mem_iff.1 hu) with rfl | hu
          · exact HBX.out y e
          · exact mem_E (dropE_sub.subset (clearE_sub.subset hu)) e
    obtain ⟨w4, E4, hr4, h5, h6, h7⟩ := hboth
    rw [HN.out] at hr
    obtain ⟨c0, c1, c2, c3, c4, c5, c6⟩ := h1.cells
    obtain ⟨e0, e1, e2, e3, e4, e5, e6⟩ := h3.cells
    have hT : Touch (blocksP g mb E K) w w4 := ((h2.more (fun b hb => Or.inl (mem_K hb))).trans h4 (fun b hb => Or.inl (by rw [List.mem_singleton.1 hb]; exact mem_mb))).trans h6 (fun b hb => Or.inl (by rw [List.mem_singleton.1 hb]; exact mem_mb))
    have H5 := Lib.hid h5
    have H7 := Lib.hid h7
    have HT := Lib.hid hT
    clear h1 h2 h3 h4 h5 h6 h7 hT hfl c0 c1 c3 c4 c5 c6 e0 e1 e3 e4 e5 e6
    go_wp2
    go_ret
    exact ⟨_, rfl, H5.out.at, fun y hy => Or.inl (H7.out y hy), HT.out⟩
end
end Go.Proofs.YtedbgimmbapfaaaGreat
