/- DSet, DApi -/
import Derived.Test.YtbhgngimebecdaaGreatPk20
import Derived.Maps.Own
import Derived.Deep.RegionLaw
/- DSet -/
namespace Go.Proofs.YtbhgngimebecdaaGreat
open Go.RowKit
set_option linter.unusedVariables false

theorem info_num : (Tryz.prog.info? 3).map (fun i => (i.zero, i.size, i.bytes)) = some (some (.int .i64 0), 1, 8) := by kernel_rfl
theorem ints_one_cell (l : List Int) : ∀ u ∈ ints l, u.oneCell' = true := by
  intro u hu
  obtain ⟨b, _, rfl⟩ := List.mem_map.1 hu
  rfl
/-- A slice of numbers as what is appended. -/
theorem IntsIn.srcs {w : World} {a : Addr} {n c : Nat} {l : List Int} (h : IntsIn w (.slice (some a) n c) l) : n = l.length ∧ SrcAt w 1 (.slice (some a) n c) n (ints l) := by
  rcases h with ⟨rfl, a', c', e⟩ | ⟨b, off, cap, e, h2, h3, h4, h5⟩
  · obtain ⟨rfl, rfl, rfl⟩ := Value.slice.inj e
    exact ⟨rfl, rfl, Or.inr ⟨a, c, rfl, fun j u hu => by cases hu⟩⟩
  · obtain ⟨e1, rfl, rfl⟩ := Value.slice.inj e
    injection e1 with e1
    subst e1
    refine ⟨rfl, by unfold ints; rw [List.length_map, Nat.mul_one], Or.inr ⟨⟨b, off, none⟩, c, rfl, fun j u hu => ?_⟩⟩
    have ea : (⟨b, off, none⟩ : Addr).add j = ⟨b, off + j, none⟩ := by unfold Addr.add; split <;> simp_all
    unfold ints at hu
    rw [List.getElem?_map] at hu
    cases hx : l[j]? with
    | none => rw [hx] at hu; cases hu
    | some x =>
      rw [hx] at hu
      injection hu with hu
      rw [ea, h5 j x hx, ← hu]
theorem eql_nil (A : Option Addr) (n c : Nat) (w : World) : (binOp .eql 49 (.slice A n c) (.slice none 0 0)).run Tryz.prog w = .ok (.bool A.isNone) w := by
  have he := run_equal_slice_nil (P := Tryz.prog) w 49 3 A n c Tryz.underlying49
  simp only [binOp]
  simp [he]
/-- A copy of a list of numbers. -/
def CloneOut (base : Nat) (w : World) (l : List Int) (e : Ending) (w' : World) : Prop := ∃ v K, e = .returned v ∧ KeepAt w' base v l K ∧ (∀ b ∈ K, w.heap.size ≤ b) ∧ Touch [] w w'
set_option maxRecDepth 100000 in
theorem clone_run {base : Nat} {w : World} {v : Value} {l : List Int} (h : IntsIn w v l) (hl : l.length ≤ 400) (hb : base ≤ w.heap.size) : Calls Tryz.prog 55 #[v] w (CloneOut base w l) := by
  obtain ⟨A, off, cap, rfl, -⟩ := h.cell
  cases A with
  | none =>
    have hn : l = [] := by
      rcases h with ⟨e, _⟩ | ⟨b, off', cap', e, _⟩
      · exact e
      · cases e
    subst hn
    have hq := fun W => eql_nil none 0 cap W
    have hk := Lib.hid (show KeepAt w base (.slice none 0 0) ([] : List Int) [] from Or.inl ⟨rfl, rfl, none, 0, rfl⟩)
    clear h hl hb
    go_enter Tryz.func55, Tryz.ntmps55
    go_wp2
    go_ret
    exact ⟨_, [], rfl, hk.out, fun b hb => (by cases hb), Touch.refl _ _⟩
  | some a =>
    obtain ⟨_, hs⟩ := h.srcs
    have hown : (w.alloc (.cells #[] 3)).ownsRow base 3 1 (.slice (some ⟨w.heap.size, 0, none⟩) 0 0) 0 [] := World.ownsRow_made w #[] 0 hb (Nat.zero_le _) rfl
    have hs' : SrcAt (w.alloc (.cells #[] 3)) 1 (.slice (some a) l.length cap) l.length (ints l) := by
      obtain ⟨h1, h2⟩ := hs
      refine ⟨h1, ?_⟩
      rcases h2 with ⟨c, e, _⟩ | ⟨a', c, e, h3⟩
      · cases e
      · refine Or.inr ⟨a', c, e, fun j u hu => ?_⟩
        have := h3 j u hu
        have hlt := World.block_lt_of_cell? w _ this
        exact ((Touch.refl [] w).alloc (.cells #[] 3)).cell hlt (by simp) |>.trans this
    obtain ⟨i0, hi, hz0, hz1, hz2⟩ := info_parts info_num
    obtain ⟨v', w', e1, e2, e3, e4⟩ := run_append_src (P := Tryz.prog) (w.alloc (.cells #[] 3)) base 49 3 i0 _ 1 8 49 Tryz.underlying49 hi hz0 hz1 hz2 rfl (by decide) _ 0 [] hown _ l.length (ints l) hs' (ints_one_cell l) (by unfold maxLen; omega) (by omega) (by simp; omega)
    rw [Nat.zero_add, List.nil_append] at e2
    have hblk : ∀ b, v'.ownBlock = some b → w.heap.size ≤ b := fun b hb => by
      rcases e4 with c | c
      · rw [c] at hb
        simp only [Value.ownBlock, Option.some.injEq] at hb
        omega
      · rw [c] at hb
        injection hb with hb
        have : (w.alloc (.cells #[] 3)).heap.size = w.heap.size + 1 := by simp
        omega
    have hT : Touch [] w w' := ((Touch.refl [] w).alloc (.cells #[] 3)).grown e3 (fun k hk => Or.inr (by
      simp only [Value.ownBlock, Option.some.injEq] at hk
      omega))
    have HT := Lib.hid hT
    have HB := Lib.hid hblk
    have HK := Lib.hid (show KeepAt w' base v' l v'.ownBlock.toList from Or.inr ⟨e2, rfl⟩)
    obtain ⟨A', cap', rfl, -, -, -⟩ := own_form e2
    clear h hl hb hs hown hs' e2 e3 e4 hT hblk hi hz0 hz1 hz2
    generalize l.length = m at *
    have HE := Lib.hid e1
    have hq := fun W => eql_nil (some a) m cap W
    clear e1
    go_enter Tryz.func55, Tryz.ntmps55
    go_wp2_with (first | (at_builtin; refine wpList_append_two rfl _ _ rfl rfl rfl HE.out ?_) | fail)
    go_ret
    exact ⟨_, _, rfl, HK.out, fun b hb => HB.out b (by simpa using hb), HT.out⟩
section
variable {w w1 w' : World} {base g mb : Nat} {vF : Value} {E E' : List Ent} {K G : List Nat} {D D' : DiskS}
theorem failP_down {n : Int} {keep : List Int} (hd : D.down = true) : failP D n keep = (61, D) := by unfold failP; rw [hd]; rfl
theorem failP_arg {n : Int} {keep : List Int} (hd : D.down = false) (hn : n < 0) : failP D n keep = (2, D) := by unfold failP; rw [hd, if_pos hn]; rfl
theorem failP_go {n : Int} {keep : List Int} (hd : D.down = false) (hn : ¬ n < 0) : failP D n keep = (0, { D with fails := n.toNat + 1, keep := keep }) := by unfold failP; rw [hd, if_neg hn]; rfl
/-- The first of a list's numbers. -/
theorem IntsIn.take {A : Option Addr} {c : Nat} {l : List Int} (h : IntsIn w (.slice A l.length c) l) {m : Nat} (hm : m ≤ l.length) : IntsIn w (.slice A m c) (l.take m) := by
  have hl : (l.take m).length = m := by rw [List.length_take]; omega
  rcases h with ⟨e, a, c', _⟩ | ⟨b, off, cap, e, h2, h3, h4, h5⟩
  · obtain rfl : m = 0 := by rw [e] at hm; simpa using hm
    exact Or.inl ⟨rfl, A, c, rfl⟩
  · obtain ⟨e1, _, e2⟩ := Value.slice.inj e
    subst e1 e2
    refine Or.inr ⟨b, off, c, by rw [hl], by omega, h3, h4, fun i x hx => ?_⟩
    have hi := (List.getElem?_eq_some_iff.1 hx).1
    rw [List.getElem?_take, if_pos (by omega)] at hx
    exact h5 i x hx
/-- A failure is set. -/
theorem fail_mem (h : PAt w base g mb vF E K D) {m : Nat} (hm : m ≤ 9223372036854775807) {vk : Value} {keep : List Int} {K' : List Nat} (hk : KeepAt w base vk (keep.take 400) K') :
    PAt ((w.alloc (.cells #[.int .i64 (m : Nat), vk] 88)).setCell ⟨g, 6, none⟩ (ptr w.heap.size)) base g mb (ptr w.heap.size) E (w.heap.size :: K') { D with fails := m + 1, keep := keep } ∧ Touch [g] w ((w.alloc (.cells #[.int .i64 (m : Nat), vk] 88)).setCell ⟨g, 6, none⟩ (ptr w.heap.size)) := by
  have ht0 : Touch [] w (w.alloc (.cells #[.int .i64 (m : Nat), vk] 88)) := (Touch.refl [] w).alloc _
  have h0 := h.touch ht0 (fun _ _ => by simp)
  have hb := Blok.new w 88 #[.int .i64 (m : Nat), vk]
  have hbase : base ≤ w.heap.size := by have := h.gb; have := h.disk.lt; omega
  have ht : ∀ W : World, Touch [g] W (W.setCell ⟨g, 6, none⟩ (ptr w.heap.size)) := fun W => (Touch.refl _ _).setCell (p := ⟨g, 6, none⟩) (Or.inl (List.mem_singleton.2 rfl)) _
  have hne : w.heap.size ≠ g := by have := h.disk.lt; omega
  refine ⟨h0.putDisk (G := [g]) rfl (h0.disk.put 6 _) (ht _) (fun b hb => Or.inl (List.mem_singleton.1 hb)) (Or.inr ⟨w.heap.size, m, vk, K', rfl, rfl, hm, hb.touch (ht _) (by simpa using hne), hbase, ?_, rfl⟩), (ht0.more (fun x hx => by cases hx)).trans (ht _) (fun b hb => Or.inl hb)⟩
  have hk0 := hk.touch ht0 (fun _ _ => by simp)
  exact hk0.touch (ht _) (fun b hbm hm2 => by
    rw [List.mem_singleton.1 hm2] at hbm
    exact hk0.ne h0.disk (by decide) hbm)
set_option maxRecDepth 100000 in
set_option maxHeartbeats 2000000 in
theorem fail_run (h : PAt w base g mb vF E K D) (n : Int) (vK : Value) (keep : List Int) (hn : (Lit.int .i64 n).wf = true) (hI : IntsIn w vK keep) : Calls Tryz.prog 23 #[ptr g, .int .i64 n, vK] w (EndAt ProgAt base g (blocksP g mb E K) w (err (failP D n keep).1) (failP D n keep).2) := by
  have HH := Lib.hid h
  have hr := Lib.hid (ready_run h)
  unfold readyR at hr
  obtain ⟨A, off, cap, rfl, hkl, -⟩ := hI.cell
  have hkl2 : keep.length ≤ 9223372036854775807 := by unfold maxLen at hkl; omega
  cases hd : D.down
  case true =>
    rw [failP_down hd]
    rw [hd] at hr
    clear h hI hd hn hkl
    go_enter Tryz.func23, Tryz.ntmps23
    go_wp2_with fail
    refine hr.out.mono ?_
    rintro e w' ⟨rfl, rfl⟩
    go_wp2
    go_ret
    exact end_same HH.out _
  rw [hd] at hr
  have bn := bounds_i64 hn
  by_cases hneg : n < 0
  case pos =>
    rw [failP_arg hd hneg]
    clear h hI hd hn hkl bn
    go_enter Tryz.func23, Tryz.ntmps23
    go_wp2_with fail
    refine hr.out.mono ?_
    rintro e w' ⟨rfl, rfl⟩
    go_wp2
    go_ret
    exact end_same HH.out _
  rw [failP_go hd hneg]
  obtain ⟨p, rfl⟩ : ∃ p : Nat, n = p := ⟨n.toNat, by omega⟩
  rw [Int.toNat_natCast]
  obtain ⟨m, hm⟩ : ∃ m, m = min keep.length 400 := ⟨_, rfl⟩
  have hmin := @min_int Tryz.prog keep.length 400 m (by split <;> omega)
  have hkt : keep.take m = keep.take 400 := by
    rw [hm]
    rcases Nat.le_total keep.length 400 with c | c
    · rw [Nat.min_eq_left c, List.take_of_length_le (Nat.le_refl _), List.take_of_length_le c]
    · rw [Nat.min_eq_right c]
  have hbase : base ≤ w.heap.size := by have := h.gb; have := h.disk.lt; omega
  have hcl := clone_run (hI.take (m := m) (by omega)) (by rw [List.length_take]; omega) hbase
  rw [hkt] at hcl
  have HCL := Lib.hid hcl
  have hcap : keep.length ≤ cap ∨ keep = [] := by
    rcases hI with ⟨e, _⟩ | ⟨b, off', cap', e, h2, _⟩
    · exact Or.inr e
    · obtain ⟨_, _, e2⟩ := Value.slice.inj e
      exact Or.inl (by omega)
  have HP := Lib.hid (show p ≤ 9223372036854775807 by omega)
  have q1 : (0 : Int) ≤ (m : Int) := by omega
  have q2 : (m : Int) ≤ (cap : Int) := by rcases hcap with c | c; omega; rw [c] at hm; simp at hm; omega
  have q3 : decide ((p : Int) < 0) = false := decide_eq_false (by omega)
  have hpi : (p : Int) ≤ 9223372036854775807 := by omega
  clear h hI hd hn hkl hneg hcl hkt hcap hm bn hbase
  generalize keep.length = kl at *
  have HEnd := Lib.hid (fun (w2 : World) (v2 : Value) (K2 : List Nat) (h1 : KeepAt w2 base v2 (keep.take 400) K2) (h2 : ∀ b ∈ K2, w.heap.size ≤ b) (h3 : Touch [] w w2) => (by
    have hp := HH.out.touch h3 (fun _ _ => by simp)
    obtain ⟨q1, q2⟩ := fail_mem hp HP.out h1
    refine ⟨_, rfl, q1.at, fun y hy => ?_, (h3.more (fun x hx => by cases hx)).trans q2 (fun b hb => Or.inl (by rw [List.mem_singleton.1 hb]; exact mem_g))⟩
    rcases mem_blocks.1 hy with e | e | e | e
    · exact Or.inl (mem_blocks.2 (Or.inl e))
    · exact Or.inl (mem_blocks.2 (Or.inr (Or.inl e)))
    · rcases List.mem_cons.1 e with rfl | e
      · exact Or.inr h3.size
      · exact Or.inr (h2 y e)
    · exact Or.inl (mem_blocks.2 (Or.inr (Or.inr (Or.inr e)))) : EndAt ProgAt base g (blocksP g mb E K) w (err 0) { D with fails := p + 1, keep := keep } (.returned (err 0)) ((w2.alloc (.cells #[.int .i64 (p : Nat), v2] 88)).setCell ⟨g, 6, none⟩ (ptr w2.heap.size))))
  have hcc : cap = 0 ∨ ¬ cap = 0 := by omega
  rcases hcc with rfl | hc0
  all_goals
    cases A
    all_goals
      go_enter Tryz.func23, Tryz.ntmps23
      go_wp2_with fail
      refine hr.out.mono ?_
      rintro e w' ⟨rfl, rfl⟩
      go_wp2_with fail
      refine HCL.out.mono ?_
      rintro e w2 ⟨v2, K2, rfl, h1, h2, h3⟩
      have HE := Lib.hid (HEnd.out w2 v2 K2 h1 h2 h3)
      have hp := HH.out.touch h3 (fun _ _ => by simp)
      have f6 := fun o => (hp.touch ((Touch.refl [] w2).alloc o) (fun _ _ => by simp)).disk.frozen 6
      have c6 := fun o => (hp.touch ((Touch.refl [] w2).alloc o) (fun _ _ => by simp)).cells.2.2.2.2.2.2
      have hv2 : ∃ A2 n2 c2, v2 = .slice A2 n2 c2 := by
        rcases h1 with ⟨_, _, a, c, e⟩ | ⟨h1, _⟩
        · exact ⟨a, 0, c, e⟩
        · obtain ⟨A2, c2, e, _⟩ := own_form h1
          exact ⟨A2, _, c2, e⟩
      obtain ⟨A2, n2, c2, rfl⟩ := hv2
      clear h1 h2 h3 hp HEnd HCL
      go_wp2
      go_ret
      exact HE.out
end
end Go.Proofs.YtbhgngimebecdaaGreat

namespace Go.Proofs.YtbhgngimebecdaaGreat
open Go.RowKit
set_option linter.unusedVariables false

/-- A new disk in memory. -/
def madeW (w : World) (c : Nat) : World := (w.alloc (.map #[] 0)).alloc (.cells #[ptr (w.heap.size + 1), .int .i64 (c : Nat), .map (some w.heap.size), .bool true, .int .i64 0, .int .i64 0, .pointer none] 67)
theorem new_mem (base c : Nat) (w : World) (hb : base ≤ w.heap.size) : PAt (madeW w c) base (w.heap.size + 1) w.heap.size (.pointer none) [] [] (newS c) := by
  have hs : (w.alloc (.map #[] 0)).heap.size = w.heap.size + 1 := by simp
  have hm := MapAt.made w (.map #[] 0) rfl
  have h1 : Blok (madeW w c) (w.heap.size + 1) 67 #[ptr (w.heap.size + 1), .int .i64 (c : Nat), .map (some w.heap.size), .bool true, .int .i64 0, .int .i64 0, .pointer none] := by
    have := Blok.new (w.alloc (.map #[] 0)) 67 #[ptr (w.heap.size + 1), .int .i64 (c : Nat), .map (some w.heap.size), .bool true, .int .i64 0, .int .i64 0, .pointer none]
    rw [hs] at this
    exact this
  have hm2 : MapAt (madeW w c) w.heap.size [] := hm.touch ((Touch.refl [] (w.alloc (.map #[] 0))).alloc _) (by simp)
  exact ⟨h1, by omega, hb, rfl, hm2, fun x hx => (by cases hx), List.Pairwise.nil, List.Pairwise.nil, fun x hx => (by cases hx), Or.inl ⟨rfl, rfl, rfl⟩⟩
set_option maxRecDepth 100000 in
theorem new_run (base c : Nat) (w : World) (hb : base ≤ w.heap.size) (hc : c ≤ 1048576) : Calls Tryz.prog 15 #[.int .i64 (c : Nat)] w (MadeAt ProgAt base w c) := by
  have h0 : decide ((c : Int) < 0) = false := decide_eq_false (by omega)
  have h1 : decide ((1048576 : Int) < (c : Int)) = false := decide_eq_false (by omega)
  have hmm := @run_makeMap Tryz.prog
  have HM := Lib.hid (new_mem base c w hb)
  have hs : (w.alloc (.map #[] 0)).heap.size = w.heap.size + 1 := by simp
  clear hb hc
  go_enter Tryz.func15, Tryz.ntmps15
  go_wp2
  go_ret2
  have hT : Touch [] w (madeW w c) := ((Touch.refl [] w).alloc _).alloc _
  refine ⟨w.heap.size + 1, _, rfl, HM.out.at, fun x hx => ?_, hT⟩
  rcases mem_blocks.1 hx with rfl | rfl | e | ⟨_, e, _⟩
  · omega
  · omega
  · cases e
  · cases e
theorem new_bad (c : Int) (w : World) (hc : c < 0 ∨ 1048576 < c) : Calls Tryz.prog 15 #[.int .i64 c] w (NewBad w) := by
  rcases hc with h | h
  · go_enter Tryz.func15, Tryz.ntmps15
    go_wp2
    go_ret2
    exact ⟨rfl, rfl⟩
  · have h0 : decide (c < 0) = false := decide_eq_false (by omega)
    go_enter Tryz.func15, Tryz.ntmps15
    go_wp2
    go_ret2
    exact ⟨rfl, rfl⟩
end Go.Proofs.YtbhgngimebecdaaGreat

namespace Go.Proofs.YtbhgngimebecdaaGreat
open Go.RowKit
set_option linter.unusedVariables false

theorem step_append_one {ops : Array Oper} {o : Oper} {a : Act} {w : World} {K : Act → World → Prop} {Q : Exit → Act → World → Prop} {E : Prop} {vs : Value} {w1 : World} {b0 c : Nat} {xs : List Int} {x : Int} (hgd : o.guard = none) (s y : Operand)
    (ho : o.op = .call { callee := .builtin .append, args := #[s, y], argTypes := #[49, 49] }) (hs : a.eval s = vs) (hx : a.eval y = .slice (some ⟨b0, 0, none⟩) 1 c)
    (ht : Touch [] w1 w) (hown : w.ownsRow w1.heap.size 3 1 vs xs.length (ints xs)) (hc : w.cell? ⟨b0, 0, none⟩ = some (.int .i64 x)) (hl : xs.length ≤ 1000)
    (h : ∀ v' w', w'.ownsRow w1.heap.size 3 1 v' (xs ++ [x]).length (ints (xs ++ [x])) → Touch [] w1 w' → K (a.put o.dst v') w') :
    if Region.wanted o (yielded ops a.tmps) = true then Oper.wp Tryz.prog o a w K Q else E := by
  obtain ⟨i0, hi, hz0, hz1, hz2⟩ := info_parts info_num
  have hsrc : SrcAt w 1 (.slice (some ⟨b0, 0, none⟩) 1 c) 1 (ints [x]) := ⟨rfl, Or.inr ⟨⟨b0, 0, none⟩, c, rfl, fun j u hu => by
    cases j with
    | zero =>
      have e : Value.int .i64 x = u := by simpa [ints] using hu
      rw [← e]
      have ea : (⟨b0, 0, none⟩ : Addr).add 0 = ⟨b0, 0, none⟩ := by simp [Addr.add]
      rw [ea]
      exact hc
    | succ j => simp [ints] at hu⟩⟩
  obtain ⟨v', w', e1, e2, e3, e4⟩ := run_append_src (P := Tryz.prog) w w1.heap.size 49 3 i0 _ 1 8 o.type Tryz.underlying49 hi hz0 hz1 hz2 rfl (by decide) vs xs.length (ints xs) hown _ 1 (ints [x]) hsrc (ints_one_cell [x]) (by unfold maxLen; omega) (by omega) ht.size
  refine step_append_run hgd s y _ ho hs hx e1 (h v' w' ?_ (ht.grown e3 (fun k hk => Or.inr (hown.lt k hk).1)))
  have e : ints (xs ++ [x]) = ints xs ++ ints [x] := by unfold ints; rw [List.map_append]
  rw [e, List.length_append]
  exact e2
section
variable {w w1 w' : World} {base g mb : Nat} {vF : Value} {E E' : List Ent} {K G : List Nat} {D D' : DiskS}
/-- The end of Unsynced. -/
def LooseOut (w : World) (l : List Int) (e : Ending) (w' : World) : Prop := ∃ v, e = .returned v ∧ IntsIn w' v l ∧ (∀ b, v.ownBlock = some b → w.heap.size ≤ b) ∧ Touch [] w w'
theorem loose_at {l : List FileS} {k : Nat} {f : FileS} (h : l[k]? = some f) : (looseL l).take (k + 1) = (looseL l).take k ++ [(f.data.size : Int) - f.synced] := by
  unfold looseL
  rw [List.take_add_one, List.getElem?_map, h]
  rfl
theorem loose_len (l : List FileS) : (looseL l).length = l.length := by unfold looseL; rw [List.length_map]
end
end Go.Proofs.YtbhgngimebecdaaGreat

/- DApi -/
namespace Go.Proofs.YtbhgngimebecdaaGreat
open Go.RowKit
set_option linter.unusedVariables false

theorem still {w : World} {base g mb : Nat} {vF : Value} {E : List Ent} {K : List Nat} {D : DiskS} (h : PAt w base g mb vF E K D) {v : Value} {f : FuncId} {args : Array Value} (hc : Calls Tryz.prog f args w fun e w' => e = .returned v ∧ w = w') :
    Calls Tryz.prog f args w (EndAt ProgAt base g (blocksP g mb E K) w v D) := hc.mono (by
  rintro e w' ⟨rfl, rfl⟩
  exact end_same h _)
theorem api : DiskApi ProgAt where
  touch := by
    rintro w w' base g F G D ⟨mb, vF, E, K, h, rfl⟩ ht hd
    exact ⟨mb, vF, E, K, h.touch ht hd, rfl⟩
  low := by
    rintro w base g F D ⟨mb, vF, E, K, h, rfl⟩
    exact h.low
  new_ := fun base c w hb hc => new_run base c w hb hc
  create := by
    rintro w base g F D n ⟨mb, vF, E, K, h, rfl⟩ hok hn
    exact create_run h hok n hn
  append := by
    rintro w base g F D n s ⟨mb, vF, E, K, h, rfl⟩ hok hs hn
    exact append_run h hok n s hn hs
  read := by
    rintro w base g F D n a k ⟨mb, vF, E, K, h, rfl⟩ hok hc ha hk hn
    exact read_run h hok hc n a k hn ha hk
  sync := by
    rintro w base g F D n ⟨mb, vF, E, K, h, rfl⟩ hok hn
    exact sync_run h hok n hn
  rename := by
    rintro w base g F D n m ⟨mb, vF, E, K, h, rfl⟩ hok hm hn
    exact rename_run h hok n m hn hm
  delete := by
    rintro w base g F D n ⟨mb, vF, E, K, h, rfl⟩ hok hn
    exact delete_run h hok n hn
  size := by
    rintro w base g F D n ⟨mb, vF, E, K, h, rfl⟩ hok hn
    exact still h (size_run h hok n hn)
  names := by
    rintro w base g F D ⟨mb, vF, E, K, h, rfl⟩ hok
    refine (names_run h hok.many).mono ?_
    rintro e w' ⟨v, h1, h2, h3, h4⟩
    have h5 := h.touch h4 (fun _ _ => by simp)
    exact ⟨_, v, h1, h2, fun b hb => ⟨h3 b hb, fun hm => by have := h3 b hb; have := (h.low b hm).2; omega⟩, h5.at, fun x hx => Or.inl hx, h4.more (fun x hx => by cases hx)⟩
  free := by
    rintro w base g F D ⟨mb, vF, E, K, h, rfl⟩ hok
    refine (free_run h hok).mono ?_
    rintro e w' ⟨rfl, h4⟩
    exact end_put (h.touch h4 (fun _ _ => by simp)) (h4.more (fun x hx => by cases hx)) _
  up := by
    rintro w base g F D ⟨mb, vF, E, K, h, rfl⟩ hok
    exact still h (up_run h)
  crash := by
    rintro w base g F D v keep ⟨mb, vF, E, K, h, rfl⟩ hok hI hV _
    exact crash_run v keep h hok hI hV
  start := by
    rintro w base g F D ⟨mb, vF, E, K, h, rfl⟩ hok hs
    exact start_run h hs
  fail := by
    rintro w base g F D n v keep ⟨mb, vF, E, K, h, rfl⟩ hok hn hI _ _
    exact fail_run h n v keep hn hI
  upq := by
    rintro w base g F D ⟨mb, vF, E, K, h, rfl⟩
    exact up_run h
  sizeq := by
    rintro w base g F D n ⟨mb, vF, E, K, h, rfl⟩ hok hn
    exact size_run h hok n hn
  rise := by
    rintro w base g F D ⟨mb, vF, E, K, h, rfl⟩
    exact ⟨h.rise, h.names⟩
end Go.Proofs.YtbhgngimebecdaaGreat
