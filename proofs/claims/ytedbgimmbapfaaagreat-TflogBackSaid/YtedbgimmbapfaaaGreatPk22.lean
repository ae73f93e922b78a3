/- DCore -/
import Derived.Test.YtedbgimmbapfaaaGreatPk19
import Derived.Test.YtedbgimmbapfaaaGreatPk08
import Derived.Test.YtedbgimmbapfaaaGreatPk21
/- DCore -/
namespace Go.Proofs.YtedbgimmbapfaaaGreat
open Go.RowKit
set_option linter.unusedVariables false

section
variable {w : World} {base g mb : Nat} {vF : Value} {E : List Ent} {K : List Nat} {D : DiskS}
theorem PAt.cells (h : PAt w base g mb vF E K D) : w.cell? ⟨g, 0, none⟩ = some (ptr g) ∧ w.cell? ⟨g, 1, none⟩ = some (.int .i64 (D.cap : Nat)) ∧ w.cell? ⟨g, 2, none⟩ = some (.map (some mb)) ∧ w.cell? ⟨g, 3, none⟩ = some (.bool (!D.down)) ∧
    w.cell? ⟨g, 4, none⟩ = some (.int .i64 (D.count : Nat)) ∧ w.cell? ⟨g, 5, none⟩ = some (.int .i64 (D.starts : Nat)) ∧ w.cell? ⟨g, 6, none⟩ = some vF :=
  ⟨h.disk.cell 0, h.disk.cell 1, h.disk.cell 2, h.disk.cell 3, h.disk.cell 4, h.disk.cell 5, h.disk.cell 6⟩
theorem ent_at (h : PAt w base g mb vF E K D) {n : ByteArray} (hf : findS D.l n < D.l.length) : ∃ x, E[findS D.l n]? = some x ∧ D.l[findS D.l n]? = some x.f ∧ x.f.name = n := by
  obtain ⟨f, hk, hn⟩ := find_at hf
  have hk' := hk
  generalize findS D.l n = k at *
  rw [h.lst, List.getElem?_map] at hk'
  cases hx : E[k]? with
  | none => rw [hx] at hk'; cases hk'
  | some x =>
    rw [hx] at hk'
    obtain rfl : x.f = f := by simpa using hk'
    exact ⟨x, rfl, hk, hn⟩
theorem info_disk : (Tryz.prog.info? 44).map (·.size) = some 7 := by kernel_rfl
theorem same_in (d : Nat) (p : Addr) (w : World) : (Op.equalIn (d + 1) 33 (.pointer (some p)) (.pointer (some p))).run Tryz.prog w = .ok true w := by
  cases hq : Tryz.prog.info? 44 with
  | none => have := info_disk; rw [hq] at this; cases this
  | some i =>
    have hi : i.size = 7 := by have := info_disk; rw [hq] at this; simpa using this
    simp [Op.equalIn, run_underlying Tryz.underlying33, sizeOf, typeInfo, hq, sameAddr]
theorem nil_in (d : Nat) (p : Addr) (w : World) : (Op.equalIn (d + 1) 33 (.pointer none) (.pointer (some p))).run Tryz.prog w = .ok false w := by
  simp [Op.equalIn, run_underlying Tryz.underlying33]
theorem same_ptr (p : Addr) (w : World) : (binOp .neq 33 (.pointer (some p)) (.pointer (some p))).run Tryz.prog w = .ok (.bool false) w := by
  have he : (Op.equal 33 (.pointer (some p)) (.pointer (some p))).run Tryz.prog w = .ok true w := same_in 9999 p w
  simp only [binOp]
  simp [he]
theorem nil_ptr (p : Addr) (w : World) : (binOp .neq 33 (.pointer none) (.pointer (some p))).run Tryz.prog w = .ok (.bool true) w := by
  have he : (Op.equal 33 (.pointer none) (.pointer (some p))).run Tryz.prog w = .ok false w := nil_in 9999 p w
  simp only [binOp]
  simp [he]
set_option maxRecDepth 100000 in
theorem none_run (h : w.cell? ⟨g, 0, none⟩ = some (ptr g)) : Calls Tryz.prog 42 #[ptr g] w fun e w' => e = .returned (.bool false) ∧ w = w' := by
  have hsp := same_ptr ⟨g, 0, none⟩
  go_enter Tryz.func42, Tryz.ntmps42
  go_wp2
  go_ret
  exact ⟨rfl, rfl⟩
theorem none_nil (w : World) : Calls Tryz.prog 42 #[.pointer none] w fun e w' => e = .returned (.bool true) ∧ w = w' := by
  go_enter Tryz.func42, Tryz.ntmps42
  go_wp2
  go_ret
  exact ⟨rfl, rfl⟩
set_option maxRecDepth 100000 in
theorem none_bare (h : w.cell? ⟨g, 0, none⟩ = some (.pointer none)) : Calls Tryz.prog 42 #[ptr g] w fun e w' => e = .returned (.bool true) ∧ w = w' := by
  have hsp := nil_ptr ⟨g, 0, none⟩
  go_enter Tryz.func42, Tryz.ntmps42
  go_wp2
  go_ret
  exact ⟨rfl, rfl⟩
def readyR (D : DiskS) : Nat := if D.down then 61 else 0
theorem ready_run (h : PAt w base g mb vF E K D) : Calls Tryz.prog 34 #[ptr g] w fun e w' => e = .returned (.int .i64 (readyR D : Nat)) ∧ w = w' := by
  obtain ⟨c0, c1, c2, c3, c4, c5, c6⟩ := h.cells
  have hn := Lib.hid (none_run c0)
  unfold readyR
  cases hd : D.down
  all_goals
    rw [hd] at c3
    clear hd h c1 c2 c4 c5 c6 c0
    go_enter Tryz.func34, Tryz.ntmps34
    go_wp2_with fail
    refine hn.out.mono ?_
    rintro e w' ⟨rfl, rfl⟩
    go_wp2
    go_ret
    exact ⟨rfl, rfl⟩
theorem isName_run (n : ByteArray) (w : World) (hn : n.size ≤ maxLen) : Calls Tryz.prog 67 #[.string n] w fun e w' => e = .returned (.bool (nameB n)) ∧ w = w' := by
  unfold maxLen at hn
  by_cases h1 : 0 < n.size
  · by_cases h2 : n.size ≤ 12
    · have e : nameB n = true := by unfold nameB; rw [decide_eq_true h1, decide_eq_true h2]; rfl
      have t0 : decide ((1 : Int) ≤ (n.size : Int)) = true := decide_eq_true (by omega)
      have t : decide ((n.size : Int) ≤ 12) = true := decide_eq_true (by omega)
      rw [e]
      clear e
      go_enter Tryz.func67, Tryz.ntmps67
      go_wp2
      go_ret
      exact ⟨rfl, rfl⟩
    · have e : nameB n = false := by unfold nameB; rw [decide_eq_false h2, Bool.and_false]
      have t0 : decide ((1 : Int) ≤ (n.size : Int)) = true := decide_eq_true (by omega)
      have t : decide ((n.size : Int) ≤ 12) = false := decide_eq_false (by omega)
      rw [e]
      clear e
      go_enter Tryz.func67, Tryz.ntmps67
      go_wp2
      go_ret
      exact ⟨rfl, rfl⟩
  · have e : nameB n = false := by unfold nameB; rw [decide_eq_false h1, Bool.false_and]
    have t : decide ((1 : Int) ≤ (n.size : Int)) = false := decide_eq_false (by omega)
    have t2 : n.size = 0 := by omega
    rw [e]
    clear e
    go_enter Tryz.func67, Tryz.ntmps67
    go_wp2
    go_ret
    exact ⟨rfl, rfl⟩
/-- What look tells: the file's block, or ErrNone. -/
theorem look_yes (h : PAt w base g mb vF E K D) {k : Nat} {x : Ent} (hk : E[k]? = some x) (hn : x.f.name.size ≤ maxLen) : Calls Tryz.prog 69 #[ptr g, .string x.f.name] w fun e w' => e = .returned (.tuple #[ptr x.b, .int .i64 0]) ∧ w = w' := by
  obtain ⟨c0, c1, c2, c3, c4, c5, c6⟩ := h.cells
  have hno := Lib.hid (none_run c0)
  have hl := h.map.look hn (b := x.b) (List.mem_map.2 ⟨x, List.mem_of_getElem? hk, rfl⟩)
  generalize x.f.name = n at *
  generalize x.b = b at *
  clear hk h c1 c3 c4 c5 c6 c0
  go_enter Tryz.func69, Tryz.ntmps69
  go_wp2_with fail
  refine hno.out.mono ?_
  rintro e w' ⟨rfl, rfl⟩
  go_wp2
  go_ret2
  exact ⟨rfl, rfl⟩
theorem look_no (h : PAt w base g mb vF E K D) {n : ByteArray} (hf : ¬ findS D.l n < D.l.length) (hn : n.size ≤ maxLen) : Calls Tryz.prog 69 #[ptr g, .string n] w fun e w' => e = .returned (.tuple #[.pointer none, .int .i64 4]) ∧ w = w' := by
  obtain ⟨c0, c1, c2, c3, c4, c5, c6⟩ := h.cells
  have hno := Lib.hid (none_run c0)
  have hl := h.map.lookNo hn (fun y hy => by
    obtain ⟨x, hx, rfl⟩ := List.mem_map.1 hy
    exact not_found hf x.f (by rw [h.lst]; exact List.mem_map.2 ⟨x, hx, rfl⟩))
  clear hf h c1 c3 c4 c5 c6 c0
  go_enter Tryz.func69, Tryz.ntmps69
  go_wp2_with fail
  refine hno.out.mono ?_
  rintro e w' ⟨rfl, rfl⟩
  go_wp2
  go_ret2
  exact ⟨rfl, rfl⟩
theorem open_yes (h : PAt w base g mb vF E K D) (hd : D.down = false) {k : Nat} {x : Ent} (hk : E[k]? = some x) (hn : x.f.name.size ≤ maxLen) : Calls Tryz.prog 54 #[ptr g, .string x.f.name] w fun e w' => e = .returned (.tuple #[ptr x.b, .int .i64 0]) ∧ w = w' := by
  have hr := Lib.hid (ready_run h)
  have e0 : readyR D = 0 := by unfold readyR; rw [hd]; rfl
  rw [e0] at hr
  have hl := Lib.hid (look_yes h hk hn)
  generalize x.f.name = n at *
  generalize x.b = b at *
  clear hk h hd e0
  go_enter Tryz.func54, Tryz.ntmps54
  go_wp2_with fail
  refine hr.out.mono ?_
  rintro e w' ⟨rfl, rfl⟩
  go_wp2_with fail
  refine hl.out.mono ?_
  rintro e w' ⟨rfl, rfl⟩
  go_wp2
  go_ret2
  exact ⟨rfl, rfl⟩
theorem open_no (h : PAt w base g mb vF E K D) (hd : D.down = false) {n : ByteArray} (hf : ¬ findS D.l n < D.l.length) (hn : n.size ≤ maxLen) : Calls Tryz.prog 54 #[ptr g, .string n] w fun e w' => e = .returned (.tuple #[.pointer none, .int .i64 4]) ∧ w = w' := by
  have hr := Lib.hid (ready_run h)
  have e0 : readyR D = 0 := by unfold readyR; rw [hd]; rfl
  rw [e0] at hr
  have hl := Lib.hid (look_no h hf hn)
  clear hf h hd e0
  go_enter Tryz.func54, Tryz.ntmps54
  go_wp2_with fail
  refine hr.out.mono ?_
  rintro e w' ⟨rfl, rfl⟩
  go_wp2_with fail
  refine hl.out.mono ?_
  rintro e w' ⟨rfl, rfl⟩
  go_wp2
  go_ret2
  exact ⟨rfl, rfl⟩
theorem open_down (h : PAt w base g mb vF E K D) (hd : D.down = true) (n : ByteArray) : Calls Tryz.prog 54 #[ptr g, .string n] w fun e w' => e = .returned (.tuple #[.pointer none, .int .i64 61]) ∧ w = w' := by
  have hr := Lib.hid (ready_run h)
  have e0 : readyR D = 61 := by unfold readyR; rw [hd]; rfl
  rw [e0] at hr
  clear h hd e0
  go_enter Tryz.func54, Tryz.ntmps54
  go_wp2_with fail
  refine hr.out.mono ?_
  rintro e w' ⟨rfl, rfl⟩
  go_wp2
  go_ret2
  exact ⟨rfl, rfl⟩
end
end Go.Proofs.YtedbgimmbapfaaaGreat

namespace Go.Proofs.YtedbgimmbapfaaaGreat
open Go.RowKit
set_option linter.unusedVariables false

theorem max_int {P : Program} (x y : Int) (m : Int) (h : m = if x < y then y else x) : ∀ ts t w, (Builtin.max_ ts t #[.int .i64 x, .int .i64 y]).run P w = .ok (.int .i64 m) w := fun ts t w => by
  rw [run_max_int2, h]
theorem bytes_cases {w : World} {base : Nat} {v : Value} {d : ByteArray} (h : BytesAt w base v d) : (v = .slice none 0 0 ∧ d.size = 0) ∨ ∃ b cap, v = .slice (some ⟨b, 0, none⟩) d.size cap ∧ d.size ≤ cap ∧ cap ≤ maxLen ∧ base ≤ b ∧ b < w.heap.size := by
  rcases h.2 with ⟨rfl, e⟩ | ⟨g, cap, cur, rfl, hb, hg, h1, h2, h3, h4⟩
  · exact Or.inl ⟨rfl, e⟩
  · exact Or.inr ⟨g, cap, rfl, h1, h2, hb, (h.lt g rfl).2⟩
theorem bytes_nil_of {w : World} {base : Nat} {d : ByteArray} (h : d.size = 0) : BytesAt w base (.slice none 0 0) d := ⟨by rw [byteCells_length]; omega, Or.inl ⟨rfl, h⟩⟩
theorem if_pos_or_le {k : Int} (h : 0 ≤ k) : (if 0 < k then (0 : Int) else k) = 0 := by split <;> omega
theorem touch_two (b : Nat) (w : World) (u v : Value) : Touch [b] w ((w.setCell ⟨b, 0, none⟩ u).setCell ⟨b, 1, none⟩ v) :=
  ((Touch.refl [b] w).setCell (p := ⟨b, 0, none⟩) (Or.inl (List.mem_singleton.2 rfl)) _).setCell (p := ⟨b, 1, none⟩) (Or.inl (List.mem_singleton.2 rfl)) _
/-- The end of a call on a file: its block, its bytes' block are what they were. -/
def FileEnd (base : Nat) (x : Ent) (w : World) (f : FileS) (e : Ending) (w' : World) : Prop :=
  ∃ v, e = .returned (.tuple #[]) ∧ EntAt w' base ⟨f, x.b, v⟩ ∧ v.ownBlock = x.v.ownBlock ∧ Touch [x.b] w w'
theorem EntAt.cells {w : World} {base : Nat} {x : Ent} (h : EntAt w base x) : w.cell? ⟨x.b, 0, none⟩ = some x.v ∧ w.cell? ⟨x.b, 1, none⟩ = some (.int .i64 (x.f.synced : Nat)) ∧ w.frozen? ⟨x.b, 0, none⟩ = false ∧ w.frozen? ⟨x.b, 1, none⟩ = false :=
  ⟨h.1.cell 0, h.1.cell 1, h.1.frozen 0, h.1.frozen 1⟩
theorem EntAt.put {w : World} {base : Nat} {x : Ent} (h : EntAt w base x) {v : Value} {d : ByteArray} (hv : BytesAt w base v d) : EntAt (w.setCell ⟨x.b, 0, none⟩ v) base ⟨⟨x.f.name, d, x.f.synced⟩, x.b, v⟩ :=
  ⟨h.1.put 0 v, h.2.1, own_far hv (own_ne hv h.1 (by decide)) _⟩
theorem EntAt.putSync {w : World} {base : Nat} {x : Ent} (h : EntAt w base x) (n : Nat) : EntAt (w.setCell ⟨x.b, 1, none⟩ (.int .i64 (n : Nat))) base ⟨⟨x.f.name, x.f.data, n⟩, x.b, x.v⟩ :=
  ⟨h.1.put 1 _, h.2.1, own_far h.2.2 (own_ne h.2.2 h.1 (by decide)) _⟩
theorem EntAt.drew {w : World} {base : Nat} {x : Ent} (h : EntAt w base x) : EntAt w.drew base x := h
set_option maxHeartbeats 2000000 in
theorem cut_file {w : World} {base : Nat} {x : Ent} (h : EntAt w base x) (k : Int) (hk : 0 ≤ k) (hz : x.f.data.size ≤ 1048576) (m : Nat) (hm : m = min k.toNat x.f.data.size) :
    Calls Tryz.prog 75 #[ptr x.b, .int .i64 k] w (FileEnd base x w ⟨x.f.name, x.f.data.extract 0 m, min x.f.synced m⟩) := by
  obtain ⟨c0, c1, f0, f1⟩ := h.cells
  have hm1 := @min_int Tryz.prog k x.f.data.size m (by split <;> omega)
  have hm2 := @min_int Tryz.prog x.f.synced m (min x.f.synced m) (by split <;> omega)
  have hmz : m ≤ x.f.data.size := by omega
  rcases bytes_cases h.2.2 with ⟨e, e2⟩ | ⟨b, cap, e, n1, n2, hb1, hb2⟩
  · obtain rfl : m = 0 := by omega
    have hT : BytesAt w base (.slice none 0 0) (x.f.data.extract 0 0) := bytes_nil_of (by rw [ByteArray.size_extract]; omega)
    have HX := Lib.hid h
    have HT := Lib.hid hT
    have hv : x.v.ownBlock = none := by rw [e]; rfl
    rw [e] at c0
    have hm1 : ∀ ts t w, (Builtin.min_ ts t #[.int .i64 k, .int .i64 0]).run Tryz.prog w = .ok (.int .i64 0) w := fun ts t w => by rw [run_min_int2, if_pos_or_le hk]
    have hm2 : ∀ ts t w, (Builtin.min_ ts t #[.int .i64 (x.f.synced : Nat), .int .i64 0]).run Tryz.prog w = .ok (.int .i64 0) w := fun ts t w => by rw [run_min_int2, if_pos_or_le (by omega)]
    have p1 := (h.put hT)
    have c0' := p1.1.cell 0
    have c1' := p1.1.cell 1
    have f1' := p1.1.frozen 1
    have HP := Lib.hid (p1.putSync (min x.f.synced 0))
    rw [Nat.min_zero] at HP ⊢
    clear p1 h hT hmz hm e2
    go_enter Tryz.func75, Tryz.ntmps75
    go_wp2
    go_region
    go_wp2_with fail
    go_region
    go_end0
    exact ⟨_, rfl, HP.out, hv.symm, ((touch_two x.b w _ _).drew).drew⟩
  · have hbs := h.2.2
    rw [e] at hbs
    have hT := bytes_take hbs hmz
    have hv : x.v.ownBlock = some b := by rw [e]; rfl
    rw [e] at c0
    have p1 := h.put hT
    have c0' := p1.1.cell 0
    have c1' := p1.1.cell 1
    have f1' := p1.1.frozen 1
    have HP := Lib.hid (p1.putSync (min x.f.synced m))
    unfold maxLen at n2
    have q1 : (0 : Int) ≤ (m : Int) := by omega
    have q2 : (m : Int) ≤ (cap : Int) := by omega
    clear p1 h hT hm hbs
    go_enter Tryz.func75, Tryz.ntmps75
    go_wp2
    go_region
    go_wp2_with fail
    go_region
    go_end0
    exact ⟨_, rfl, HP.out, hv.symm, ((touch_two x.b w _ _).drew).drew⟩
set_option maxHeartbeats 2000000 in
theorem fall_file {w : World} {base : Nat} {x : Ent} (h : EntAt w base x) (n : Int) (hs : x.f.synced ≤ x.f.data.size) (hz : x.f.data.size ≤ 1048576) :
    Calls Tryz.prog 62 #[ptr x.b, .int .i64 n] w (FileEnd base x w (crashF x.f n)) := by
  obtain ⟨c0, c1, f0, f1⟩ := h.cells
  obtain ⟨m, hm⟩ : ∃ m, m = min n.toNat (x.f.data.size - x.f.synced) := ⟨_, rfl⟩
  have hst : staysS x.f n = x.f.synced + m := by unfold staysS; rw [hm]
  have hE : crashF x.f n = ⟨x.f.name, x.f.data.extract 0 (x.f.synced + m), x.f.synced + m⟩ := by unfold crashF; rw [hst]
  obtain ⟨t, ht⟩ : ∃ t : Nat, (t : Int) = if n < 0 then 0 else n := ⟨n.toNat, by split <;> omega⟩
  have hmax := @max_int Tryz.prog n 0 t ht
  have hmin := @min_int Tryz.prog t ((x.f.data.size : Int) - (x.f.synced : Int)) m (by split <;> split at ht <;> omega)
  have hcut := Lib.hid (fun W (hW : EntAt W base x) => cut_file hW ((x.f.synced : Int) + (m : Int)) (by omega) hz (x.f.synced + m) (by omega))
  have hsz : (x.f.data.extract 0 (x.f.synced + m)).size = x.f.synced + m := by rw [ByteArray.size_extract]; omega
  have hmn : min x.f.synced (x.f.synced + m) = x.f.synced := by omega
  rw [hE]
  rw [hmn] at hcut
  have HSZ := Lib.hid hsz
  have HX := Lib.hid h
  have b1 : (x.f.synced : Int) + (m : Int) ≤ 1048576 := by omega
  have b2 : 0 ≤ (x.f.data.size : Int) - (x.f.synced : Int) := by omega
  have b3 : (x.f.data.size : Int) ≤ 1048576 := by omega
  obtain ⟨A, cap, hv, n1, n2, _⟩ := bytes_form h.2.2
  rw [hv] at c0
  clear hv hE hst hm ht hmn h hsz n1 n2
  go_enter Tryz.func62, Tryz.ntmps62
  go_wp2_with fail
  go_region
  go_wp2_with fail
  refine (hcut.out _ (by first | exact HX.out | exact HX.out.drew)).mono ?_
  rintro e w2 ⟨v2, rfl, h2, hv2, ht2⟩
  obtain ⟨d0, d1, g0, g1⟩ := h2.cells
  obtain ⟨A2, cap2, hv3, _⟩ := bytes_form h2.2.2
  dsimp only at hv3 d0 d1 g0 g1
  rw [HSZ.out] at hv3
  have HP := Lib.hid (h2.putSync (x.f.synced + m))
  have HV := Lib.hid hv2
  have HT := Lib.hid ht2
  subst hv3
  clear hv2 ht2 h2 c0 c1 f0 f1 hcut hmin hmax
  go_wp2
  go_end0
  exact ⟨_, rfl, HP.out, HV.out, (Touch.trans (F := [x.b]) (by first | exact Touch.refl _ _ | exact (Touch.refl _ _).drew) HT.out (fun y hy => Or.inl hy)).setCell (p := ⟨x.b, 1, none⟩) (Or.inl (List.mem_singleton.2 rfl)) _⟩
end Go.Proofs.YtedbgimmbapfaaaGreat

namespace Go.Proofs.YtedbgimmbapfaaaGreat
open Go.RowKit Go.Maps Go.Sort Go.Shelf
set_option linter.unusedVariables false

theorem sorts_both (m : Nat) : AnyZ.SortsIn Tryz.prog Tryz.sorted73_ren Fence.wide m :=
  ⟨fun blk off cap ss W hH hblk hsz => callsIn_wide.2 (AnyM.slices_Sort_string Tryz.sort82 blk off cap ss W hH hblk hsz), fun p cap W => callsIn_wide.2 (AnyM.slices_Sort_string_none Tryz.sort82 p cap W)⟩
theorem keys_run (mb : Nat) (w : World) : Calls Tryz.prog 74 #[.map (some mb)] w fun e w' => e = .returned (.func (.func 83) #[] #[.pointer (some ⟨w.heap.size, 0, none⟩)]) ∧ w' = w.alloc (.cells #[.map (some mb)] 41) :=
  callsIn_wide.1 (AnyZ.keys_in Tryz.keys74 Fence.wide 5 trivial rfl (some mb) w)
set_option maxHeartbeats 1000000 in
/-- What slices.Sorted tells of a map's keys. -/
theorem sorted_run (b nn : Nat) (D0 : DataW Unit) (R : Value → Option (DataW Unit × List MemPlace)) (w : World) (hown : w.ownsMap Tryz.prog 9 R b nn D0) (hmax : Maps.size D0 ≤ maxLen) (hbytes : Maps.size D0 * 16 ≤ 140737488355328) :
    Calls Tryz.prog 73 #[.func (.func 83) #[] #[.pointer (some ⟨w.heap.size, 0, none⟩)]] (w.alloc (.cells #[.map (some b)] 41)) fun e w' => ∃ (v : Value) (ss : List (List UInt8)), e = .returned v ∧ ss.Perm (strKeys D0) ∧
      w'.ownsRow (w.alloc (.cells #[.map (some b)] 41)).heap.size 9 1 v ss.length ((ss.mergeSort (fun x y => decide (x ≤ y))).map encStr) ∧ Below (w.alloc (.cells #[.map (some b)] 41)).heap.size (w.alloc (.cells #[.map (some b)] 41)) w' := by
  have hbl := hown.lt
  have hseq : SeqGives Fence.wide 2 Tryz.prog 83 #[.pointer (some ⟨w.heap.size, 0, none⟩)] encStr (fun ss => ss.Perm (strKeys D0)) (Maps.size D0) (w.alloc (.cells #[.map (some b)] 41)) :=
    AnyZ.keys_gives (ρ := Tryz.keys74_ren) { Tryz.keys74 with } Fence.wide _ trivial rfl (by omega) w.heap.size b nn D0 _ (by simp) (by simp) (by
      obtain ⟨es, clock, hb, Ft, hs, hD⟩ := hown
      exact ⟨es, clock, (Below.heap_alloc _ _ b hbl).trans hb, Ft, hs, hD⟩)
  have h := AnyZ.sorted_in Tryz.sorted73 Fence.wide 5 trivial trivial trivial trivial rfl (by omega) (sorts_both _) (enters_of Tryz.func82 (by kernel_rfl) rfl) 83 #[.pointer (some ⟨w.heap.size, 0, none⟩)] trivial (enters_of Tryz.func83 (by kernel_rfl) rfl) _ _ hmax hbytes _ hseq
  refine (callsIn_wide.1 h).mono ?_
  rintro e w' ⟨v, ss, h1, h2, h3, _, h4⟩
  exact ⟨v, ss, h1, h2, h3, h4⟩

section
variable {w : World} {base g mb : Nat} {vF : Value} {E : List Ent} {K : List Nat} {D : DiskS}
/-- The end of Names: nothing that was there has changed. -/
def NamesOut (w : World) (l : List FileS) (e : Ending) (w' : World) : Prop := ∃ v, e = .returned v ∧ StrsAt w' v (l.map FileS.name) ∧ (∀ b, v.ownBlock = some b → w.heap.size ≤ b) ∧ Touch [] w w'
theorem strs_of_own {w : World} {base : Nat} {v : Value} {l : List ByteArray} (h : w.ownsRow base 9 1 v l.length (l.map Value.string)) : StrsAt w v l := by
  rcases h.2 with ⟨rfl, e⟩ | ⟨b, cap, cs, rfl, _, h2, h3, h4, _, h6⟩
  · exact Or.inl ⟨List.eq_nil_of_length_eq_zero e, none, 0, rfl⟩
  · refine Or.inr ⟨b, 0, cap, rfl, h3, h4, ?_, fun i x hx => ?_⟩
    · rcases Nat.lt_or_ge b w.heap.size with c | c
      · exact c
      · rw [Array.getElem?_eq_none c] at h2; cases h2
    · have hi := (List.getElem?_eq_some_iff.1 hx).1
      rw [Nat.zero_add, h.cellAt i (by omega), List.getElem?_map, hx]
      rfl
theorem nb_names (h : PAt w base g mb vF E K D) : (E.map Ent.nb).map (fun x => x.1.data.toList) = D.l.map (fun f => f.name.data.toList) := by
  rw [h.lst, List.map_map, List.map_map]
  rfl
set_option maxHeartbeats 1000000 in
theorem names_run (h : PAt w base g mb vF E K D) (hm : D.l.length ≤ 400) : Calls Tryz.prog 61 #[ptr g] w (NamesOut w D.l) := by
  obtain ⟨c0, c1, c2, c3, c4, c5, c6⟩ := h.cells
  have hn := Lib.hid (none_run c0)
  obtain ⟨n, D0, ho, hi⟩ := h.map
  have hnd : ((E.map Ent.nb).map (fun x => x.1.data.toList)).Nodup := by rw [nb_names h]; exact rise_names h.rise
  have hk := hi.keys ho hnd
  have hsz := hi.size ho hnd
  rw [nb_names h] at hk
  have hlen : Maps.size D0 ≤ 400 := by
    rw [hsz, List.length_map]
    have := h.lst
    rw [this, List.length_map] at hm
    exact hm
  have hr := h.rise
  have HS := Lib.hid (sorted_run mb n D0 entR w ho (by unfold maxLen; omega) (by omega))
  have HK := Lib.hid (keys_run mb w)
  have hq : ∀ (v : Value) (ss : List (List UInt8)) (w' : World), ss.Perm (strKeys D0) → w'.ownsRow (w.alloc (.cells #[.map (some mb)] 41)).heap.size 9 1 v ss.length ((ss.mergeSort (fun x y => decide (x ≤ y))).map encStr) →
      Below (w.alloc (.cells #[.map (some mb)] 41)).heap.size (w.alloc (.cells #[.map (some mb)] 41)) w' → NamesOut w D.l (.returned v) w' := by
    intro v ss w' hp hrow hb
    have hpm : ss.Perm (D.l.map (fun f => f.name.data.toList)) := hp.trans hk.symm
    rw [sorted_names hr hpm] at hrow
    have e : (D.l.map (fun f => f.name.data.toList)).map encStr = (D.l.map FileS.name).map Value.string := by
      rw [List.map_map, List.map_map]
      apply List.map_congr_left
      intro f _
      show encStr f.name.data.toList = .string f.name
      unfold encStr
      simp
    rw [e, hpm.length_eq, List.length_map] at hrow
    have hrow' : w'.ownsRow (w.alloc (.cells #[.map (some mb)] 41)).heap.size 9 1 v (D.l.map FileS.name).length ((D.l.map FileS.name).map Value.string) := by rw [List.length_map]; exact hrow
    refine ⟨v, rfl, strs_of_own hrow', fun b hbb => ?_, (((Touch.refl [] w).alloc _).trans (Touch.of_below hb) (fun x hx => by cases hx))⟩
    have := (hrow'.lt b hbb).1
    have hs : (w.alloc (.cells #[.map (some mb)] 41)).heap.size = w.heap.size + 1 := by simp
    omega
  have HQ := Lib.hid hq
  clear hq hnd hk hsz hlen hr h ho hi c0 c1 c3 c4 c5 c6 hm
  go_enter Tryz.func61, Tryz.ntmps61
  go_wp2_with fail
  refine hn.out.mono ?_
  rintro e w' ⟨rfl, rfl⟩
  go_wp2_with fail
  refine HK.out.mono ?_
  rintro e w' ⟨rfl, rfl⟩
  go_wp2_with fail
  refine HS.out.mono ?_
  rintro e w' ⟨v, ss, rfl, h1, h2, h3⟩
  have H1 := Lib.hid (HQ.out v ss w' h1 h2 h3)
  clear h1 h2 h3 HS HK HQ
  obtain ⟨v', hv, _⟩ := H1.out
  go_wp2
  go_ret
  exact H1.out
end
end Go.Proofs.YtedbgimmbapfaaaGreat

namespace Go.Proofs.YtedbgimmbapfaaaGreat
open Go.RowKit
set_option linter.unusedVariables false

theorem StrsAt.touch {F : List Nat} {w w' : World} {v : Value} {l : List ByteArray} (h : StrsAt w v l) (ht : Touch F w w') (hF : ∀ b, v.ownBlock = some b → b ∉ F) : StrsAt w' v l := by
  rcases h with h | ⟨b, off, cap, rfl, h2, h3, h4, h5⟩
  · exact Or.inl h
  · exact Or.inr ⟨b, off, cap, rfl, h2, h3, Nat.lt_of_lt_of_le h4 ht.size, fun i x hx => (ht.cell (p := ⟨b, off + i, none⟩) h4 (hF b rfl)).trans (h5 i x hx)⟩
theorem StrsAt.cell {w : World} {v : Value} {l : List ByteArray} (h : StrsAt w v l) : ∃ A off cap, v = .slice A l.length cap ∧ l.length ≤ maxLen ∧ ∀ i x, l[i]? = some x → ∃ b, A = some ⟨b, off, none⟩ ∧ w.cell? ⟨b, off + i, none⟩ = some (.string x) := by
  rcases h with ⟨rfl, a, c, rfl⟩ | ⟨b, off, cap, h1, h2, h3, h4, h5⟩
  · exact ⟨a, 0, c, rfl, Nat.zero_le _, fun i x h => by simp at h⟩
  · exact ⟨some ⟨b, off, none⟩, off, cap, h1, by omega, fun i x hx => ⟨b, rfl, h5 i x hx⟩⟩
theorem IntsIn.later {F : List Nat} {w w' : World} {v : Value} {l : List Int} (h : IntsIn w v l) (ht : Touch F w w') (hF : l ≠ [] → ∀ b, v.ownBlock = some b → b ∉ F) : IntsIn w' v l := by
  by_cases e : l = []
  · subst e
    rcases h with h | ⟨b, off, cap, rfl, _⟩
    · exact Or.inl h
    · exact Or.inl ⟨rfl, _, _, rfl⟩
  · exact h.touch ht (hF e)
/-- The blocks of files. -/
def FB (E : List Ent) : List Nat := E.flatMap Ent.blocks
theorem mem_FB {E : List Ent} {b : Nat} : b ∈ FB E ↔ ∃ x ∈ E, b ∈ x.blocks := List.mem_flatMap
theorem FB_of {E E' : List Ent} (h : E'.map Ent.blocks = E.map Ent.blocks) : FB E' = FB E := by
  unfold FB
  rw [List.flatMap_def, List.flatMap_def, h]
theorem fallK_zero (l : List FileS) (keep : List Int) : crashK l keep 0 = l := by
  unfold crashK
  apply List.ext_getElem?
  intro i
  rw [List.getElem?_mapIdx]
  cases l[i]? <;> simp
theorem fallK_all (l : List FileS) (keep : List Int) : crashK l keep l.length = crashL l keep := by
  unfold crashK crashL
  apply List.ext_getElem?
  intro i
  rw [List.getElem?_mapIdx, List.getElem?_mapIdx]
  rcases Nat.lt_or_ge i l.length with c | c
  · simp only [if_pos c]
  · rw [List.getElem?_eq_none c]; rfl
theorem fallK_next {l : List FileS} {keep : List Int} {k : Nat} {f : FileS} (h : l[k]? = some f) : (crashK l keep k).set k (crashF f (keep.getD k 0)) = crashK l keep (k + 1) := by
  have hk := (List.getElem?_eq_some_iff.1 h).1
  unfold crashK
  apply List.ext_getElem?
  intro i
  rw [List.getElem?_set, List.getElem?_mapIdx, List.getElem?_mapIdx, List.length_mapIdx]
  by_cases e : k = i
  · subst e
    rw [if_pos rfl, if_pos hk, h, Option.map_some, if_pos (Nat.lt_succ_self _)]
  · rw [if_neg e]
    cases l[i]? with
    | none => rfl
    | some x =>
      rw [Option.map_some, Option.map_some]
      by_cases c : i < k
      · rw [if_pos c, if_pos (by omega)]
      · rw [if_neg c, if_neg (by omega)]
theorem fallK_at (l : List FileS) (keep : List Int) (k : Nat) : (crashK l keep k)[k]? = l[k]? := by
  unfold crashK
  rw [List.getElem?_mapIdx]
  cases l[k]? with
  | none => rfl
  | some x => rw [Option.map_some, if_neg (Nat.lt_irrefl _)]
theorem fallK_length (l : List FileS) (keep : List Int) (k : Nat) : (crashK l keep k).length = l.length := by unfold crashK; rw [List.length_mapIdx]

section
variable {w : World} {base g mb : Nat} {vF : Value} {E : List Ent} {K : List Nat} {D : DiskS}
/-- On the way: k files have fallen. -/
def Falling (w : World) (base g mb : Nat) (vF : Value) (E : List Ent) (K : List Nat) (D : DiskS) (keep : List Int) (vN vK : Value) (k : Nat) (wr : World) : Prop :=
  ∃ E', PAt wr base g mb vF E' K { D with l := crashK D.l keep k } ∧ E'.map Ent.blocks = E.map Ent.blocks ∧ Touch (FB E) w wr ∧ StrsAt wr vN (D.l.map FileS.name) ∧ IntsIn wr vK keep
theorem Falling.next {keep : List Int} {vN vK : Value} {k : Nat} {wr w2 : World} (h : Falling w base g mb vF E K D keep vN vK k wr) (h0 : PAt w base g mb vF E K D) (hN : ∀ b, vN.ownBlock = some b → b ∉ FB E) (hV : keep ≠ [] → ∀ b, vK.ownBlock = some b → b ∉ FB E)
    {E' : List Ent} (hP : PAt wr base g mb vF E' K { D with l := crashK D.l keep k }) (hE : E'.map Ent.blocks = E.map Ent.blocks) {x : Ent} {f : FileS} (hf : D.l[k]? = some f) (hx : E'[k]? = some x) (hxf : x.f = f) {e : Ending} (he : FileEnd base x wr (crashF x.f (keep.getD k 0)) e w2) :
    Falling w base g mb vF E K D keep vN vK (k + 1) w2 := by
  obtain ⟨v, _, h1, h2, h3⟩ := he
  obtain ⟨_, _, _, hT, hS, hI⟩ := h
  have hxm := List.mem_of_getElem? hx
  have hbF : x.b ∈ FB E := by rw [← FB_of hE]; exact mem_FB.2 ⟨x, hxm, by simp [Ent.blocks]⟩
  have hsub : ∀ b ∈ [x.b], b ∈ FB E := fun b hb => by rw [List.mem_singleton.1 hb]; exact hbF
  refine ⟨E'.set k ⟨crashF x.f (keep.getD k 0), x.b, v⟩, ?_, ?_, hT.trans h3 (fun b hb => Or.inl (hsub b hb)), hS.touch h3 (fun b hb hm => hN b hb (hsub b hm)), hI.later h3 (fun hne b hb hm => hV hne b hb (hsub b hm))⟩
  · have hp := hP.putEnt hx ⟨crashF x.f (keep.getD k 0), x.b, v⟩ rfl rfl h3 (fun b hb => by rw [List.mem_singleton.1 hb]; simp [Ent.blocks]) h1 (fun b hb => Or.inl (h2 ▸ hb))
    have hl : (crashK D.l keep k).set k (crashF x.f (keep.getD k 0)) = crashK D.l keep (k + 1) := fallK_next (by rw [hxf]; exact hf)
    dsimp only at hp
    rw [hl] at hp
    exact hp
  · rw [← hE, List.map_set]
    apply List.ext_getElem?
    intro j
    rw [List.getElem?_set]
    by_cases e : k = j
    · subst e
      have hkl := (List.getElem?_eq_some_iff.1 hx).1
      rw [if_pos rfl, if_pos (by simpa using hkl), List.getElem?_map, hx]
      show some (x.b :: v.ownBlock.toList) = some (x.b :: x.v.ownBlock.toList)
      rw [h2]
    · rw [if_neg e]
/-- The end of a fall. -/
def FallEnd (w : World) (base g mb : Nat) (E : List Ent) (D : DiskS) (e : Ending) (w' : World) : Prop :=
  ∃ E', e = .returned (.tuple #[]) ∧ PAt w' base g mb (.pointer none) E' [] D ∧ E'.map Ent.blocks = E.map Ent.blocks ∧ Touch (g :: FB E) w w'
set_option maxRecDepth 100000 in
set_option maxHeartbeats 4000000 in
theorem fall_run (vK : Value) (keep : List Int) (h : PAt w base g mb vF E K D) (hok : ProgOk D) (hI : IntsIn w vK keep) (hV : keep ≠ [] → ∀ b, vK.ownBlock = some b → b ∉ FB E) :
    Calls Tryz.prog 35 #[ptr g, vK] w (FallEnd w base g mb E (sinkS D keep)) := by
  have hnm := Lib.hid (names_run h hok.many)
  have hlow := h.low
  obtain ⟨A, off, cap, rfl, hkl0, -⟩ := hI.cell
  have hkl : keep.length ≤ 9223372036854775807 := by unfold maxLen at hkl0; omega
  have HH := Lib.hid h
  have HOK := Lib.hid hok
  have HI := Lib.hid hI
  have HV := Lib.hid hV
  have HM := Lib.hid (show ∀ f ∈ D.l, f.name.size ≤ maxLen from fun f hf => by
    have := h.names f hf
    unfold nameB at this
    simp only [Bool.and_eq_true, decide_eq_true_eq] at this
    unfold maxLen
    omega)
  have HL := Lib.hid hlow
  have hmany := hok.many
  clear h hok hI hV hlow hkl0
  go_enter Tryz.func35, Tryz.ntmps35
  go_wp2_with fail
  refine hnm.out.mono ?_
  rintro e w1 ⟨vN, rfl, hS, hnew, ht1⟩
  have hN : ∀ b, vN.ownBlock = some b → b ∉ FB E := fun b hb hm => by
    have h1 := hnew b hb
    have h2 := (HL.out b (mem_blocks.2 (Or.inr (Or.inr (Or.inr (mem_FB.1 hm)))))).2
    omega
  obtain ⟨A1, off1, cap1, rfl, -, -⟩ := hS.cell
  have hstart : Falling w base g mb vF E K D keep (.slice A1 (D.l.map FileS.name).length cap1) (.slice A keep.length cap) 0 w1 :=
    ⟨E, by rw [fallK_zero]; exact HH.out.touch ht1 (fun _ _ => by simp), rfl, ht1.more (fun x hx => by cases hx), hS, HI.out.touch ht1 (fun _ _ => by simp)⟩
  have HNN := Lib.hid hN
  have HST := Lib.hid hstart
  clear hS hnew ht1 hN hstart hnm
  rw [List.length_map] at HST ⊢
  go_wp2
  go_loopw [10] (fun i wr => ∃ k : Nat, k ≤ D.l.length ∧ i = .int .i64 k ∧ Falling w base g mb vF E K D keep (.slice A1 D.l.length cap1) (.slice A keep.length cap) k wr) (fun i _ => D.l.length - (intOf i).toNat)
  case atStart => exact ⟨0, Nat.zero_le _, rfl, HST.out⟩
  case round =>
    obtain ⟨k, hk, rfl, hF⟩ := hrel
    have H := Lib.hid hF
    obtain ⟨E', hP, hE, hT, hS, hI⟩ := hF
    by_cases hlt : k < D.l.length
    · obtain ⟨f, hfk⟩ := some_at hlt
      have hx' : (crashK D.l keep k)[k]? = some f := by rw [fallK_at]; exact hfk
      rw [show crashK D.l keep k = _ from hP.lst, List.getElem?_map] at hx'
      obtain ⟨x, hx, hxf⟩ : ∃ x, E'[k]? = some x ∧ x.f = f := by
        cases hh : E'[k]? with
        | none => rw [hh] at hx'; cases hx'
        | some x => rw [hh] at hx'; exact ⟨x, rfl, by simpa using hx'⟩
      have hX := hP.ents x (List.mem_of_getElem? hx)
      have hsz := HOK.out.sizes f (List.mem_of_getElem? hfk)
      have hnm2 := HM.out f (List.mem_of_getElem? hfk)
      have hlook := hP.map.look (m := f.name) hnm2 (b := x.b) (List.mem_map.2 ⟨x, List.mem_of_getElem? hx, by unfold Ent.nb; rw [hxf]⟩)
      obtain ⟨c0, c1, c2, c3, c4, c5, c6⟩ := hP.cells
      obtain ⟨A2, o1, c2', hv1, -, hv2⟩ := hS.cell
      obtain ⟨hA, -, -⟩ := Value.slice.inj hv1
      subst hA
      clear hv1
      obtain ⟨b, rfl, hb2⟩ := hv2 k f.name (by rw [List.getElem?_map, hfk]; rfl)
      have hcall := Lib.hid (fall_file hX (keep.getD k 0) (by rw [hxf]; exact hsz.1) (by rw [hxf]; exact hsz.2))
      have HNX := Lib.hid (fun w2 e (he : FileEnd base x wr (crashF x.f (keep.getD k 0)) e w2) => H.out.next HH.out HNN.out HV.out hP hE hfk hx hxf he)
      have l1 : (k : Int) < (D.l.length : Int) := by omega
      have hkeep : (k < keep.length ∧ ∃ (kb ko : Nat) (y : Int), A = some ⟨kb, ko, none⟩ ∧ wr.cell? ⟨kb, ko + k, none⟩ = some (.int .i64 y) ∧ keep.getD k 0 = y) ∨ (keep.length ≤ k ∧ keep.getD k 0 = 0) := by
        rcases Nat.lt_or_ge k keep.length with c | c
        · refine Or.inl ⟨c, ?_⟩
          rcases hI with ⟨e, _⟩ | ⟨kb, off', cap', e, _, _, _, hc⟩
          · rw [e] at c; exact absurd c (Nat.not_lt_zero k)
          · refine ⟨kb, off', keep[k], (Value.slice.inj e).1, hc k _ (List.getElem?_eq_getElem c), ?_⟩
            rw [List.getD_eq_getElem?_getD, List.getElem?_eq_getElem c]
            rfl
        · exact Or.inr ⟨c, by rw [List.getD_eq_getElem?_getD, List.getElem?_eq_none c]; rfl⟩
      clear hx' hX hsz hnm2 hP hE hT hS hI hv2 H hfk hx hxf c0 c1 c3 c4 c5 c6 HST
      rcases hkeep with ⟨q1, kb, ko, y, rfl, q2, q3⟩ | ⟨q1, q3⟩
      all_goals
        rw [q3] at hcall HNX
        have H3 := Lib.hid q3
        clear q3
      · have q4 : (k : Int) < (keep.length : Int) := by omega
        go_wp2_with fail
        refine hcall.out.mono ?_
        rintro e w2 he
        have HE := Lib.hid (HNX.out w2 e he)
        obtain ⟨v2, rfl, _⟩ := he
        clear hcall HNX
        go_wp2
        go_roundw
        case rel => exact ⟨k + 1, by omega, by go_num, HE.out⟩
        case measure => simp [intOf]; omega
      · have q4 : decide ((k : Int) < (keep.length : Int)) = false := decide_eq_false (by omega)
        go_wp2_with fail
        refine hcall.out.mono ?_
        rintro e w2 he
        have HE := Lib.hid (HNX.out w2 e he)
        obtain ⟨v2, rfl, _⟩ := he
        clear hcall HNX
        go_wp2
        go_roundw
        case rel => exact ⟨k + 1, by omega, by go_num, HE.out⟩
        case measure => simp [intOf]; omega
    · obtain rfl : k = D.l.length := by omega
      rw [fallK_all] at hP
      obtain ⟨c0, c1, c2, c3, c4, c5, c6⟩ := hP.cells
      have f3 := hP.disk.frozen 3
      have f6 := hP.disk.frozen 6
      have HP := Lib.hid ((hP.putDown true).putNoFail [])
      have c6' := ((hP.putDown true).cells).2.2.2.2.2.2
      have f6' := (hP.putDown true).disk.frozen 6
      have HE := Lib.hid hE
      have HT := Lib.hid hT
      clear hS hI hT hE hP c0 c1 c2 c4 c5 H HST
      go_wp2
      go_end0
      refine ⟨E', rfl, HP.out, HE.out, ?_⟩
      have hsub : ∀ x ∈ FB E, x ∈ g :: FB E ∨ w.heap.size ≤ x := fun x hx => Or.inl (List.mem_cons_of_mem _ hx)
      exact ((HT.out.more hsub).setCell (p := ⟨g, 3, none⟩) (Or.inl (by simp)) _).setCell (p := ⟨g, 6, none⟩) (Or.inl (by simp)) _
end
end Go.Proofs.YtedbgimmbapfaaaGreat

namespace Go.Proofs.YtedbgimmbapfaaaGreat
open Go.RowKit
set_option linter.unusedVariables false

theorem sink_take (D : DiskS) (keep : List Int) (h : D.l.length ≤ 400) : sinkS D (keep.take 400) = sinkS D keep := by
  unfold sinkS
  have e : crashL D.l (keep.take 400) = crashL D.l keep := by
    unfold crashL
    apply List.ext_getElem?
    intro i
    rw [List.getElem?_mapIdx, List.getElem?_mapIdx]
    rcases Nat.lt_or_ge i D.l.length with c | c
    · have : (keep.take 400).getD i 0 = keep.getD i 0 := by
        rw [List.getD_eq_getElem?_getD, List.getD_eq_getElem?_getD, List.getElem?_take, if_pos (by omega)]
      rw [this]
    · rw [List.getElem?_eq_none c]; rfl
  rw [e]
theorem KeepAt.ints {w : World} {base : Nat} {v : Value} {l : List Int} {K : List Nat} (h : KeepAt w base v l K) : IntsIn w v l ∧ (l ≠ [] → ∀ b, v.ownBlock = some b → b ∈ K) := by
  rcases h with ⟨rfl, rfl, a, c, rfl⟩ | ⟨h, rfl⟩
  · exact ⟨Or.inl ⟨rfl, a, c, rfl⟩, fun h => absurd rfl h⟩
  · exact ⟨(IntsAt.of_own h).in_, fun _ b hb => by simp [hb]⟩
section
variable {w : World} {base g mb : Nat} {vF : Value} {E : List Ent} {K : List Nat} {D : DiskS}
theorem PAt.files_far (h : PAt w base g mb vF E K D) : ∀ b ∈ K, b ∉ FB E := fun b hb hm => by
  obtain ⟨x, hx, hbx⟩ := mem_FB.1 hm
  exact (h.ents x hx).ne_fail h.fail b hbx hb
/-- A change is done. -/
def GoesEnd (w : World) (base g mb : Nat) (vF : Value) (E : List Ent) (K : List Nat) (D : DiskS) (e : Ending) (w' : World) : Prop :=
  e = .returned (.bool false) ∧ PAt w' base g mb vF E K (nextS D) ∧ Touch K w w'
/-- It isn't: the disk is down. -/
def SunkEnd (w : World) (base g mb : Nat) (E : List Ent) (D : DiskS) (e : Ending) (w' : World) : Prop :=
  ∃ E', e = .returned (.bool true) ∧ PAt w' base g mb (.pointer none) E' [] D ∧ E'.map Ent.blocks = E.map Ent.blocks ∧ Touch (g :: FB E) w w'
set_option maxRecDepth 100000 in
set_option maxHeartbeats 2000000 in
theorem fails_goes (h : PAt w base g mb vF E K D) (hg : goesS D = true) : Calls Tryz.prog 68 #[ptr g] w (GoesEnd w base g mb vF E K D) := by
  obtain ⟨c0, c1, c2, c3, c4, c5, c6⟩ := h.cells
  have HH := Lib.hid h
  rcases h.fail with ⟨e, rfl, rfl⟩ | ⟨b, n, vk, K', rfl, e, hn, hb, hbb, hk, rfl⟩
  · have HN := Lib.hid (show nextS D = D by unfold nextS; rw [show D.fails - 1 = D.fails by omega])
    clear h hg e c0 c1 c2 c3 c4 c5
    go_enter Tryz.func68, Tryz.ntmps68
    go_wp2
    go_ret
    exact ⟨rfl, by rw [HN.out]; exact HH.out, Touch.refl _ _⟩
  · have hn0 : n ≠ 0 := fun e0 => by
      unfold goesS at hg
      rw [e, e0] at hg
      simp at hg
    obtain ⟨m, rfl⟩ : ∃ m, n = m + 1 := ⟨n - 1, by omega⟩
    have d0 : w.cell? ⟨b, 0, none⟩ = some (.int .i64 ((m : Int) + 1)) := hb.cell 0
    have g0 := hb.frozen 0
    have hT : ∀ u, Touch [b] w (w.setCell ⟨b, 0, none⟩ u) := fun u => (Touch.refl _ w).setCell (p := ⟨b, 0, none⟩) (Or.inl (List.mem_singleton.2 rfl)) u
    have hne : g ≠ b := h.disk.type_ne hb (by decide)
    have hp : PAt (w.setCell ⟨b, 0, none⟩ (.int .i64 (m : Nat))) base g mb (ptr b) E (b :: K') (nextS D) := by
      refine h.putDisk (G := [b]) (D' := nextS D) rfl (h.disk.touch (hT _) (by simpa using hne)) (hT _) (fun x hx => Or.inr (by rw [List.mem_singleton.1 hx]; simp)) (Or.inr ⟨b, m, vk, K', rfl, ?_, by omega, hb.put 0 _, hbb, hk.touch (hT _) (fun x hx hm => ?_), rfl⟩)
      · show D.fails - 1 = m + 1
        omega
      · rw [List.mem_singleton.1 hm] at hx
        exact hk.ne hb (by decide) hx
    have HP := Lib.hid hp
    have HT := Lib.hid (hT (.int .i64 (m : Nat)))
    have q1 : (0 : Int) < (m : Int) + 1 := by omega
    have q2 : (m : Int) + 1 ≤ 9223372036854775807 := by omega
    have q3 : (m : Int) + 1 - 1 = (m : Int) := by omega
    clear h hg e c0 c1 c2 c3 c4 c5 hp hT hb hk hn hn0 hne
    go_enter Tryz.func68, Tryz.ntmps68
    go_wp2
    go_ret
    exact ⟨rfl, HP.out, HT.out.more (fun x hx => Or.inl (by rw [List.mem_singleton.1 hx]; simp))⟩
set_option maxRecDepth 100000 in
set_option maxHeartbeats 2000000 in
theorem fails_sinks (h : PAt w base g mb vF E K D) (hok : ProgOk D) (hg : goesS D = false) : Calls Tryz.prog 68 #[ptr g] w (SunkEnd w base g mb E (sinkS D D.keep)) := by
  obtain ⟨c0, c1, c2, c3, c4, c5, c6⟩ := h.cells
  rcases h.fail with ⟨e, rfl, rfl⟩ | ⟨b, n, vk, K', rfl, e, hn, hb, hbb, hk, rfl⟩
  · unfold goesS at hg
    rw [e] at hg
    simp at hg
  · obtain rfl : n = 0 := by
      unfold goesS at hg
      simp at hg
      omega
    have hi := hk.ints
    have d0 : w.cell? ⟨b, 0, none⟩ = some (.int .i64 0) := hb.cell 0
    have d1 : w.cell? ⟨b, 1, none⟩ = some vk := hb.cell 1
    have hfall := fall_run vk (D.keep.take 400) h hok hi.1 (fun hne x hx => h.files_far x (List.mem_cons_of_mem _ (hi.2 hne x hx)))
    rw [sink_take D D.keep hok.many] at hfall
    have HF := Lib.hid hfall
    obtain ⟨A, off, cap, rfl, -⟩ := hi.1.cell
    generalize (D.keep.take 400).length = kl at *
    clear h hg e c0 c1 c2 c3 c4 c5 hb hk hn hfall hok hi hbb
    go_enter Tryz.func68, Tryz.ntmps68
    go_wp2_with fail
    refine HF.out.mono ?_
    rintro e w2 ⟨E', rfl, h1, h2, h3⟩
    have H1 := Lib.hid h1
    have H2 := Lib.hid h2
    have H3 := Lib.hid h3
    clear h1 h2 h3 HF
    go_wp2
    go_ret
    exact ⟨E', rfl, H1.out, H2.out, H3.out⟩
end
end Go.Proofs.YtedbgimmbapfaaaGreat
