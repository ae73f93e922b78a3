/- ZnMfValid, ZnMfIn, ZnMfSame -/
import Derived.Test.YtcpfkaehefcakaaGreatPn03
import Derived.Test.YtcpfkaehefcakaaGreatPn14
import Derived.Deep.Fields
import Derived.ChangeSame
import Derived.Shelf.Abstract
import Derived.BigQuiet
namespace Go.Proofs.YtcpfkaehefcakaaGreat
set_option maxRecDepth 100000
set_option linter.unusedVariables false
section
open Go.RowKit Go.Shelf
def manV (n c : Int) (d : Nat) (v : Value) : Value := .agg #[.int .i64 n, .int .i64 c, .int .u64 (d : Nat), v]
abbrev manO (n c : Int) (d : Nat) (v : Value) : Obj := .cells #[.int .i64 n, .int .i64 c, .int .u64 (d : Nat), v] 38
theorem mayM_iff (n c : Int) (d : Nat) (R : LvL) (h0 : 0 ≤ n) (h1 : n ≤ 1000000) (h2 : 0 ≤ c) (h3 : c ≤ 2147483647) (hv : validL R = true) : mayM ⟨n, c, d, R⟩ = true ↔ ∀ x ∈ R.flatten, x < n := by
  unfold mayM
  rw [decide_eq_true_iff]
  exact ⟨fun h => h.2.2.2.2.2, fun h => ⟨h0, h1, h2, h3, of_decide_eq_true hv, h⟩⟩
theorem mayM_lv {n c : Int} {d : Nat} {R : LvL} (hv : validL R = false) : mayM ⟨n, c, d, R⟩ = false := decide_eq_false fun h => (of_decide_eq_false hv) h.2.2.2.2.1
theorem mayM_nums {n c : Int} {d : Nat} {R : LvL} (h : n < 0 ∨ 1000000 < n ∨ c < 0 ∨ 2147483647 < c) : mayM ⟨n, c, d, R⟩ = false := decide_eq_false fun hm => by
  obtain ⟨h1, h2, h3, h4, -⟩ := hm
  simp only at h1 h2 h3 h4
  omega
theorem mcell {B : Nat} {w w' : World} {p : Addr} {v : Value} (hb : Below B w w') (hp : p.block < B) (h : w.cell? p = some v) : w'.cell? p = some v := (hb.cell hp).trans h
theorem mval_nums (n c : Int) (d : Nat) (A : Option Addr) (k cp : Nat) (R : LvL) (w : World) (hq : n < 0 ∨ 1000000 < n ∨ c < 0 ∨ 2147483647 < c) :
    Calls Tryz.prog 34 #[manV n c d (.slice A k cp)] w fun e w' => e = .returned (.bool (mayM ⟨n, c, d, R⟩)) ∧ Below w.heap.size w w' := by
  rw [mayM_nums hq]
  have hb := (Below.refl w.heap.size w).alloc (Nat.le_refl _) (manO n c d (.slice A k cp))
  unfold manV
  by_cases h0 : n < 0
  · have q0 : decide (n < 0) = true := decide_eq_true h0
    clear hq
    go_enter Tryz.func34, Tryz.ntmps34
    go_wp2
    go_ret
    exact ⟨rfl, hb⟩
  · have q0 : decide (n < 0) = false := decide_eq_false h0
    by_cases h1 : 1000000 < n
    · have q1 : decide (1000000 < n) = true := decide_eq_true h1
      clear hq
      go_enter Tryz.func34, Tryz.ntmps34
      go_wp2
      go_ret
      exact ⟨rfl, hb⟩
    · have q1 : decide (1000000 < n) = false := decide_eq_false h1
      by_cases h2 : c < 0
      · have q2 : decide (c < 0) = true := decide_eq_true h2
        clear hq
        go_enter Tryz.func34, Tryz.ntmps34
        go_wp2
        go_ret
        exact ⟨rfl, hb⟩
      · have q2 : decide (c < 0) = false := decide_eq_false h2
        have h3 : 2147483647 < c := by omega
        have q3 : decide (2147483647 < c) = true := decide_eq_true h3
        clear hq
        go_enter Tryz.func34, Tryz.ntmps34
        go_wp2
        go_ret
        exact ⟨rfl, hb⟩
set_option maxHeartbeats 1000000 in
theorem mval_any (n c : Int) (d : Nat) (A : Option Addr) (k cp : Nat) (R : LvL) (w : World) (h : LvsHas w (.slice A k cp) R) (hl : R.flatten.length ≤ 100000) (hL : R.length ≤ 100000) :
    Calls Tryz.prog 34 #[manV n c d (.slice A k cp)] w fun e w' => e = .returned (.bool (mayM ⟨n, c, d, R⟩)) ∧ Below w.heap.size w w' := by
  by_cases hq : n < 0 ∨ 1000000 < n ∨ c < 0 ∨ 2147483647 < c
  · exact mval_nums n c d A k cp R w hq
  have q0 : decide (n < 0) = false := decide_eq_false (by omega)
  have q1 : decide (1000000 < n) = false := decide_eq_false (by omega)
  have q2 : decide (c < 0) = false := decide_eq_false (by omega)
  have q3 : decide (2147483647 < c) = false := decide_eq_false (by omega)
  have hb := (Below.refl w.heap.size w).alloc (Nat.le_refl _) (manO n c d (.slice A k cp))
  have HB := Lib.hid hb
  have h0 := h.below hb (Nat.le_refl _)
  have HV := Lib.hid (lvalid_any _ R _ h0 hl hL)
  unfold manV
  cases hv : validL R with
  | false =>
    rw [hv] at HV
    rw [mayM_lv hv]
    clear h hb h0 hv hq
    go_enter Tryz.func34, Tryz.ntmps34
    go_wp2_with fail
    refine HV.out.mono ?_
    rintro e w1 ⟨rfl, hb1⟩
    have HB1 := Lib.hid hb1
    clear hb1
    go_wp2
    go_ret
    exact ⟨rfl, bj HB.out HB1.out⟩
  | true =>
    rw [hv] at HV
    have HM := Lib.hid (mayM_iff n c d R (by omega) (by omega) (by omega) (by omega) hv)
    have HALL := Lib.hid (fun W (hW : Below (w.heap.size + 1) (w.alloc (manO n c d (.slice A k cp))) W) => lall_any _ R W (h0.below hW (by simp)) hl hL)
    obtain ⟨m, hm⟩ : ∃ m, m = R.flatten.length := ⟨_, rfl⟩
    have HN := Lib.hid hm
    unfold IntsOut at HALL
    rw [← hm] at HALL hl
    clear hm
    generalize mayM ⟨n, c, d, R⟩ = q at *
    generalize R.flatten = l at *
    have c0 : (w.alloc (manO n c d (.slice A k cp))).cell? ⟨w.heap.size, 0, none⟩ = some (.int .i64 n) := World.cell?_alloc_at _ _ _ _ rfl
    have c3 : (w.alloc (manO n c d (.slice A k cp))).cell? ⟨w.heap.size, 3, none⟩ = some (.slice A k cp) := World.cell?_alloc_at _ _ _ _ rfl
    have C0 := Lib.hid c0
    have C3 := Lib.hid c3
    clear h hb h0 hv hq c0 c3
    go_enter Tryz.func34, Tryz.ntmps34
    go_wp2_with fail
    refine HV.out.mono ?_
    rintro e w1 ⟨rfl, hb1⟩
    rw [World.size_alloc] at hb1
    have c0 := mcell hb1 (show w.heap.size < w.heap.size + 1 by omega) C0.out
    have c3 := mcell hb1 (show w.heap.size < w.heap.size + 1 by omega) C3.out
    have hz1 := hb1.size
    rw [World.size_alloc] at hz1
    have HB1 := Lib.hid (HB.out.trans (hb1.mono (by simp)))
    have HA := Lib.hid (HALL.out w1 hb1)
    clear hb1 HALL HV
    go_wp2_with fail
    refine HA.out.mono ?_
    rintro e w2 ⟨A2, c2, rfl, hr, hb2⟩
    have HB2 := Lib.hid (bj HB1.out (hb2.mono (by have := HB1.out.size; omega)))
    have d0 := mcell hb2 (show w.heap.size < w1.heap.size by omega) c0
    obtain ⟨A', off, cap, ev, -, hc⟩ := (IRow.in_ hr).form
    have ev' : (Value.slice A2 m c2) = .slice A' m cap := by rw [ev, ← HN.out]
    obtain ⟨rfl, -, rfl⟩ := Value.slice.inj ev'
    have HC := Lib.hid hc
    clear hr hb2 hc HA c0 c3 ev ev'
    go_wp2
    go_loopw [33] (fun i wr => ∃ j : Nat, j ≤ m ∧ i = .int .i64 j ∧ (∀ i x, i < j → l[i]? = some x → x < n) ∧ wr = w2) (fun i _ => m - (intOf i).toNat)
    case atStart => exact ⟨0, Nat.zero_le _, rfl, fun i x hi => (by omega), rfl⟩
    case round =>
      obtain ⟨j, hj, rfl, hall, rfl⟩ := hrel
      have HAL := Lib.hid hall
      clear hall
      by_cases hlt : j < m
      · have l1 : (j : Int) < (m : Int) := by omega
        obtain ⟨x, hx⟩ : ∃ x, l[j]? = some x := ⟨_, List.getElem?_eq_getElem (by rw [← HN.out]; exact hlt)⟩
        obtain ⟨b, rfl, hb, cx⟩ := HC.out j x hx
        have HX := Lib.hid hx
        clear hx hb
        by_cases hxn : n ≤ x
        · have qf : q = false := by
            cases q with
            | false => rfl
            | true => have := HM.out.1 rfl x (List.mem_of_getElem? HX.out); omega
          subst qf
          have q4 : decide (n ≤ x) = true := decide_eq_true hxn
          go_wp2
          go_ret
          exact ⟨rfl, HB2.out⟩
        · have q4 : decide (n ≤ x) = false := decide_eq_false hxn
          go_wp2
          refine ⟨⟨j + 1, by omega, by go_num, fun i y hi hy => ?_, trivial⟩, by simp [intOf]; omega⟩
          rcases Nat.lt_or_ge i j with e | e
          · exact HAL.out i y e hy
          · obtain rfl : i = j := by omega
            rw [HX.out] at hy
            have := Option.some.inj hy
            omega
      · obtain rfl : j = m := by omega
        have l1 : ¬ (j : Int) < (j : Int) := by omega
        have qt : q = true := HM.out.2 fun x hx => by
          obtain ⟨i, hi⟩ := List.getElem?_of_mem hx
          exact HAL.out i x (by have := (List.getElem?_eq_some_iff.1 hi).1; rw [← HN.out] at this; exact this) hi
        subst qt
        clear hlt
        go_wp2
        go_ret
        exact ⟨rfl, HB2.out⟩
end
section
open Go.ChangeShapes Go.WideShapes Go.ChangeAt Go.RowKit Go.Deep
def manZero : Value := .agg #[.int .i64 0, .int .i64 0, .int .u64 0, .slice none 0 0]
theorem man_hone : ∃ fs, Tryz.prog.underlying 38 = some (.struct fs) ∧ oneCellFields Tryz.prog fs = true ∧ fs.size = 4 ∧
    (fs[0]?.map Field.type = some 3 ∧ fs[1]?.map Field.type = some 3 ∧ fs[2]?.map Field.type = some 35 ∧ fs[3]?.map Field.type = some 36) :=
  ⟨_, Tryz.underlying38, by kernel_rfl, by kernel_rfl, by kernel_rfl, by kernel_rfl, by kernel_rfl, by kernel_rfl⟩
theorem man_cells : Tryz.prog.cellsOf 38 = 4 := by kernel_rfl
theorem lvs_cell {H : Type} {enc : TypeId × Value → H} {W : World} {fuel : Nat} {c : Value} {d : DataW H} {p : List MemPlace}
    (hf : DataW.trod enc Tryz.prog W 0 (fun _ => true) true fuel 36 [c] = some (d, p)) (hlt : ∀ x ∈ p, x.block < W.heap.size) : ∃ L, LvsIn W c L ∧ ∀ x ∈ L, ∀ y ∈ x.l, InI64 y := by
  have hv : ∃ a len cap, c = .slice a len cap := by
    rcases open_slice Tryz.underlying36 hf with ⟨hcs, _⟩ | ⟨a, len', cap', m, n, D, Pl, hcs, _⟩
    · exact ⟨none, 0, 0, by simpa using hcs⟩
    · exact ⟨some a, len', cap', by simpa using hcs⟩
  obtain ⟨a, len, cap, rfl⟩ := hv
  exact lvs_in ⟨a, len, cap, rfl⟩ ⟨fuel, hf⟩ hlt
theorem man_in {H : Type} {enc : TypeId × Value → H} {W : World} {fuel : Nat} {cs : List Value} {d : DataW H} {p : List MemPlace}
    (hf : DataW.trod enc Tryz.prog W 0 (fun _ => true) true fuel 38 cs = some (d, p)) (hlt : ∀ x ∈ p, x.block < W.heap.size) :
    ∃ (a b c : Int) (v : Value) (L : List LvS), cs = [.int .i64 a, .int .i64 b, .int .u64 c, v] ∧ (Lit.int .u64 c).wf = true ∧ LvsIn W v L := by
  obtain ⟨fs, hs, hone, hsz, t0, t1, t2, t3⟩ := man_hone
  obtain ⟨xs, n, _, hx, hlen, hxl, hg⟩ := DataW.trod_struct hs hf
  simp only [Prod.mk.injEq] at hx
  obtain ⟨_, rfl⟩ := hx
  rw [man_cells] at hlen
  match cs, hlen with
  | [c0, c1, c2, c3], _ =>
    have step : ∀ (i : Nat) (t : TypeId), fs[i]?.map Field.type = some t → ∃ yy, xs[i]? = some yy ∧ DataW.trod enc Tryz.prog W 0 (fun _ => true) true n t ((([c0, c1, c2, c3] : List Value).drop i).take 1) = some yy := by
      intro i t ht
      cases hfi : fs[i]? with
      | none => rw [hfi] at ht; cases ht
      | some f =>
        rw [hfi] at ht
        obtain rfl : f.type = t := by simpa using ht
        obtain ⟨ho, hk⟩ := hone_of hone i f hfi
        have h1 := hg i f hfi
        rw [ho, hk] at h1
        have hil : i < xs.length := by rw [hxl]; exact (Array.getElem?_eq_some_iff.1 hfi).1
        refine ⟨xs[i], List.getElem?_eq_getElem hil, ?_⟩
        rw [h1, List.getElem?_eq_getElem hil]
    obtain ⟨y0, _, h0⟩ := step 0 _ t0
    obtain ⟨y1, _, h1⟩ := step 1 _ t1
    obtain ⟨y2, _, h2⟩ := step 2 _ t2
    obtain ⟨⟨d3, p3⟩, hx3, h3⟩ := step 3 _ t3
    obtain ⟨k0, e0, _, w0⟩ := DataW.trod_int Tryz.underlying3 h0
    obtain ⟨k1, e1, _, w1⟩ := DataW.trod_int Tryz.underlying3 h1
    obtain ⟨k2, e2, _, w2⟩ := DataW.trod_int Tryz.underlying35 h2
    have q0 : c0 = .int .i64 k0 := by simpa using e0
    have q1 : c1 = .int .i64 k1 := by simpa using e1
    have q2 : c2 = .int .u64 k2 := by simpa using e2
    have h3' : DataW.trod enc Tryz.prog W 0 (fun _ => true) true n 36 [c3] = some (d3, p3) := h3
    obtain ⟨L, hL, -⟩ := lvs_cell h3' (fun x hx => hlt x (List.mem_flatMap.2 ⟨_, List.mem_of_getElem? hx3, hx⟩))
    exact ⟨k0, k1, k2, c3, L, by rw [q0, q1, q2], w2, hL⟩
theorem okWide_man {W : World} {r : Reach} {base : Nat} {v : Value} (h : Value.okWide Tryz.prog W r base 38 v) : ∃ cs, v = .agg cs := by
  obtain ⟨fs, hs, _⟩ := man_hone
  obtain ⟨cs, e, _⟩ := okWide_struct hs h
  exact ⟨cs, e⟩
def ManIn (W : World) (x : Value) : Prop := ∃ (n c : Int) (d : Nat) (A : Option Addr) (k cp : Nat) (R : LvL), x = manV n c d (.slice A k cp) ∧ k = R.length ∧ LvsHas W (.slice A k cp) R ∧ d < 18446744073709551616 ∧ R.length ≤ maxLen
theorem man1_in {H : Type} {enc : TypeId × Value → H} {W : World} {v : Value} {d : DataW H} {p : List MemPlace} (hval : ∃ cs, v = .agg cs)
    (hd : DataW.Trod enc Tryz.prog W 0 (fun _ => true) true 38 v d p) (hlt : ∀ x ∈ p, x.block < W.heap.size) : ManIn W v := by
  obtain ⟨cs, rfl⟩ := hval
  obtain ⟨fuel, hf⟩ := hd
  obtain ⟨a, b, c, u, L, hx, h1, h2⟩ := man_in hf hlt
  obtain ⟨n, rfl, hn⟩ := u64_nat h1
  have hh : LvsHas W u (lvl L) := ⟨L, h2, rfl⟩
  obtain ⟨A, off, cap, rfl, hmx, -⟩ := hh.form
  refine ⟨a, b, n, A, _, cap, lvl L, ?_, rfl, hh, hn, hmx⟩
  have e : cs.toList = [.int .i64 a, .int .i64 b, .int .u64 n, .slice A (lvl L).length cap] := hx
  unfold manV
  rw [← Array.toArray_toList (xs := cs), e]
theorem man1_out {H : Type} {enc : TypeId × Value → H} {W W' : World} {v : Value} {d : DataW H} {p : List MemPlace}
    (hd : DataW.Trod enc Tryz.prog W 0 (fun _ => true) true 38 v d p) (hlt : ∀ x ∈ p, x.block < W.heap.size) (hb : Below W.heap.size W W') :
    DataW.Trod enc Tryz.prog W' 0 (fun b => decide (b < W.heap.size)) true 38 v d p :=
  Below.trod ints_laidOut (by kernel_rfl) (of_decide_eq_true (by kernel_rfl)) hd hb hlt
end
section
open Go.RowKit Go.Shelf
theorem sameM_no {n1 c1 n2 c2 : Int} {d1 d2 : Nat} {R1 R2 : LvL} (h : ¬ (n1 = n2 ∧ c1 = c2 ∧ d1 = d2)) : sameM ⟨n1, c1, d1, R1⟩ ⟨n2, c2, d2, R2⟩ = false := decide_eq_false fun e => h ⟨e.1, e.2.1, e.2.2.1⟩
theorem sameM_lv (n c : Int) (d : Nat) (R1 R2 : LvL) : sameM ⟨n, c, d, R1⟩ ⟨n, c, d, R2⟩ = decide (trimL R1 = trimL R2) := by
  unfold sameM
  congr 1
  simp
set_option maxHeartbeats 1000000 in
theorem msamel_any (n1 c1 : Int) (d1 : Nat) (A1 : Option Addr) (k1 p1 : Nat) (R1 : LvL) (n2 c2 : Int) (d2 : Nat) (A2 : Option Addr) (k2 p2 : Nat) (R2 : LvL) (w : World)
    (h1 : LvsHas w (.slice A1 k1 p1) R1) (h2 : LvsHas w (.slice A2 k2 p2) R2) (e1 : k1 = R1.length) (e2 : k2 = R2.length) (l1 : k1 ≤ 100000) (l2 : k2 ≤ 100000) :
    Calls Tryz.prog 23 #[manV n1 c1 d1 (.slice A1 k1 p1), manV n2 c2 d2 (.slice A2 k2 p2)] w fun e w' => e = .returned (.bool (sameM ⟨n1, c1, d1, R1⟩ ⟨n2, c2, d2, R2⟩)) ∧ Below w.heap.size w w' := by
  have hb : Below w.heap.size w ((w.alloc (manO n1 c1 d1 (.slice A1 k1 p1))).alloc (manO n2 c2 d2 (.slice A2 k2 p2))) := ((Below.refl _ _).alloc (Nat.le_refl _) _).alloc (by simp) _
  obtain ⟨W2, hW⟩ : ∃ W2, W2 = (w.alloc (.cells #[.int .i64 n1, .int .i64 c1, .int .u64 (d1 : Nat), .slice A1 k1 p1] 38)).alloc (.cells #[.int .i64 n2, .int .i64 c2, .int .u64 (d2 : Nat), .slice A2 k2 p2] 38) := ⟨_, rfl⟩
  have HW := Lib.hid hW
  have x1 : LvsHas W2 (.slice A1 k1 p1) R1 := by rw [hW]; exact h1.below hb (Nat.le_refl _)
  have x2 : LvsHas W2 (.slice A2 k2 p2) R2 := by rw [hW]; exact h2.below hb (Nat.le_refl _)
  have HBW : Hid (Below w.heap.size w W2) := Lib.hid (by rw [hW]; exact hb)
  have f10 : W2.cell? ⟨w.heap.size, 0, none⟩ = some (.int .i64 n1) := by rw [hW]; exact mcell (B := w.heap.size + 1) ((Below.refl _ _).alloc (by simp) _) (show w.heap.size < w.heap.size + 1 by omega) (World.cell?_alloc_at _ _ _ _ rfl)
  have F10 := Lib.hid f10
  clear f10
  have f11 : W2.cell? ⟨w.heap.size, 1, none⟩ = some (.int .i64 c1) := by rw [hW]; exact mcell (B := w.heap.size + 1) ((Below.refl _ _).alloc (by simp) _) (show w.heap.size < w.heap.size + 1 by omega) (World.cell?_alloc_at _ _ _ _ rfl)
  have F11 := Lib.hid f11
  clear f11
  have f12 : W2.cell? ⟨w.heap.size, 2, none⟩ = some (.int .u64 (d1 : Nat)) := by rw [hW]; exact mcell (B := w.heap.size + 1) ((Below.refl _ _).alloc (by simp) _) (show w.heap.size < w.heap.size + 1 by omega) (World.cell?_alloc_at _ _ _ _ rfl)
  have F12 := Lib.hid f12
  clear f12
  have f13 : W2.cell? ⟨w.heap.size, 3, none⟩ = some (.slice A1 k1 p1) := by rw [hW]; exact mcell (B := w.heap.size + 1) ((Below.refl _ _).alloc (by simp) _) (show w.heap.size < w.heap.size + 1 by omega) (World.cell?_alloc_at _ _ _ _ rfl)
  have F13 := Lib.hid f13
  clear f13
  have f20 : W2.cell? ⟨w.heap.size + 1, 0, none⟩ = some (.int .i64 n2) := by rw [hW, show w.heap.size + 1 = (w.alloc (.cells #[.int .i64 n1, .int .i64 c1, .int .u64 (d1 : Nat), .slice A1 k1 p1] 38)).heap.size by simp]; exact World.cell?_alloc_at _ _ _ _ rfl
  have F20 := Lib.hid f20
  clear f20
  have f21 : W2.cell? ⟨w.heap.size + 1, 1, none⟩ = some (.int .i64 c2) := by rw [hW, show w.heap.size + 1 = (w.alloc (.cells #[.int .i64 n1, .int .i64 c1, .int .u64 (d1 : Nat), .slice A1 k1 p1] 38)).heap.size by simp]; exact World.cell?_alloc_at _ _ _ _ rfl
  have F21 := Lib.hid f21
  clear f21
  have f22 : W2.cell? ⟨w.heap.size + 1, 2, none⟩ = some (.int .u64 (d2 : Nat)) := by rw [hW, show w.heap.size + 1 = (w.alloc (.cells #[.int .i64 n1, .int .i64 c1, .int .u64 (d1 : Nat), .slice A1 k1 p1] 38)).heap.size by simp]; exact World.cell?_alloc_at _ _ _ _ rfl
  have F22 := Lib.hid f22
  clear f22
  have f23 : W2.cell? ⟨w.heap.size + 1, 3, none⟩ = some (.slice A2 k2 p2) := by rw [hW, show w.heap.size + 1 = (w.alloc (.cells #[.int .i64 n1, .int .i64 c1, .int .u64 (d1 : Nat), .slice A1 k1 p1] 38)).heap.size by simp]; exact World.cell?_alloc_at _ _ _ _ rfl
  have F23 := Lib.hid f23
  clear f23
  clear h1 h2 hb hW
  unfold manV
  by_cases hn : n1 = n2
  case neg =>
    rw [sameM_no fun e => hn e.1]
    have t0 : (n1 == n2) = false := by simp [hn]
    clear x1 x2 hn e1 e2
    go_enter Tryz.func23, Tryz.ntmps23
    go_wp2
    rw [← HW.out]
    have f10 := F10.out
    have f11 := F11.out
    have f12 := F12.out
    have f13 := F13.out
    have f20 := F20.out
    have f21 := F21.out
    have f22 := F22.out
    have f23 := F23.out
    clear F10 F11 F12 F13 F20 F21 F22 F23 HW
    go_quiet (fail)
    go_wp2
    go_ret
    exact ⟨rfl, by exact below_drewN HBW.out _⟩
  subst hn
  by_cases hc : c1 = c2
  case neg =>
    rw [sameM_no fun e => hc e.2.1]
    have t0 : (c1 == c2) = false := by simp [hc]
    clear x1 x2 hc e1 e2
    go_enter Tryz.func23, Tryz.ntmps23
    go_wp2
    rw [← HW.out]
    have f10 := F10.out
    have f11 := F11.out
    have f12 := F12.out
    have f13 := F13.out
    have f20 := F20.out
    have f21 := F21.out
    have f22 := F22.out
    have f23 := F23.out
    clear F10 F11 F12 F13 F20 F21 F22 F23 HW
    go_quiet (fail)
    go_wp2
    go_ret
    exact ⟨rfl, by exact below_drewN HBW.out _⟩
  subst hc
  by_cases hd : d1 = d2
  case neg =>
    rw [sameM_no fun e => hd e.2.2]
    have t0 : ((d1 : Int) == (d2 : Int)) = false := by simp; omega
    clear x1 x2 hd e1 e2
    go_enter Tryz.func23, Tryz.ntmps23
    go_wp2
    rw [← HW.out]
    have f10 := F10.out
    have f11 := F11.out
    have f12 := F12.out
    have f13 := F13.out
    have f20 := F20.out
    have f21 := F21.out
    have f22 := F22.out
    have f23 := F23.out
    clear F10 F11 F12 F13 F20 F21 F22 F23 HW
    go_quiet (fail)
    go_wp2
    go_ret
    exact ⟨rfl, by exact below_drewN HBW.out _⟩
  subst hd
  rw [sameM_lv]
  have t0 : (n1 == n1) = true := by simp
  have t1 : (c1 == c1) = true := by simp
  have t2 : ((d1 : Int) == (d1 : Int)) = true := by simp
  obtain ⟨A3, c3, HT1⟩ := mltrim_all A1 k1 p1 R1 e1 l1
  obtain ⟨A4, c4, HT2⟩ := mltrim_all A2 k2 p2 R2 e2 l2
  have HQ1 := Lib.hid (fun q => (HT1 (W2.drewN q) x1).1)
  have HQ2 := Lib.hid (fun q => (HT2 (W2.drewN q) x2).1)
  have HQ3 := Lib.hid (fun q => lsame_any (.slice A3 (trimL R1).length c3) (.slice A4 (trimL R2).length c4) (trimL R1) (trimL R2) (W2.drewN q) ((HT1 W2 x1).2) ((HT2 W2 x2).2))
  unfold MTrimEnd at HQ1 HQ2
  unfold LIntsSame at HQ3
  clear HT1 HT2 x1 x2 e1 e2 l1 l2
  generalize (trimL R1).length = t1 at *
  generalize (trimL R2).length = t2 at *
  generalize decide (trimL R1 = trimL R2) = qq at *
  go_enter Tryz.func23, Tryz.ntmps23
  go_wp2
  rw [← HW.out]
  have f10 := F10.out
  have f11 := F11.out
  have f12 := F12.out
  have f13 := F13.out
  have f20 := F20.out
  have f21 := F21.out
  have f22 := F22.out
  have f23 := F23.out
  clear F10 F11 F12 F13 F20 F21 F22 F23 HW
  go_quiet (first | (go_at_call 66; (with_reducible exact Calls.quiet_of_same (HQ1.out _))) | (go_at_call 66; (with_reducible exact Calls.quiet_of_same (HQ2.out _))) | (go_at_call 65; exact Calls.quiet_of (HQ3.out _)))
  go_wp2
  go_ret
  exact ⟨rfl, by exact below_drewN HBW.out _⟩
end
end Go.Proofs.YtcpfkaehefcakaaGreat
