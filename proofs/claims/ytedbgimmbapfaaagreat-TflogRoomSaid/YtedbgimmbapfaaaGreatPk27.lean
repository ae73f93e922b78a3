/- DSet, DApi, NamesIs, TfWalks -/
import Derived.Test.YtedbgimmbapfaaaGreatPk23
import Derived.Maps.Own
import Derived.Test.YtedbgimmbapfaaaGreatPk26
import Derived.Deep.RegionLaw
import Derived.Test.YtedbgimmbapfaaaGreatPk11
import Derived.Test.YtedbgimmbapfaaaGreatPk09
import Derived.Test.YtedbgimmbapfaaaGreatPk25
import Derived.Test.YtedbgimmbapfaaaGreatPk16
/- DSet -/
namespace Go.Proofs.YtedbgimmbapfaaaGreat
open Go.RowKit
set_option linter.unusedVariables false

theorem info_num : (Tryz.prog.info? 3).map (fun i => (i.zero, i.size, i.bytes)) = some (some (.int .i64 0), 1, 8) := by kernel_rfl
theorem ints_one_cell (l : List Int) : ∀ u ∈ ints l, u.oneCell' = true := by
  intro u hu
  obtain ⟨b, _, rfl⟩ := List.mem_map.1 hu
  rfl
/-- A slice of numbers as what is appended. -/
theorem IntsIn.src {w : World} {a : Addr} {n c : Nat} {l : List Int} (h : IntsIn w (.slice (some a) n c) l) : n = l.length ∧ SrcAt w 1 (.slice (some a) n c) n (ints l) := by
  rcases h with ⟨rfl, a', c', e⟩ | ⟨b, off, cap, e, h2, h3, h4, h5⟩
  · obtain ⟨rfl, rfl, rfl⟩ := Value.slice.inj e
    exact ⟨rfl, rfl, Or.inr ⟨a, c, rfl, fun j u hu => by cases hu⟩⟩
  · obtain ⟨e1, rfl, rfl⟩ := Value.slice.inj e
    injection e1 with e1
    subst e1
    refine ⟨rfl, by unfold ints; rw [List.length_map, Nat.mul_one], Or.inr ⟨⟨b, off, none⟩, c, rfl, fun j u hu => ?_⟩⟩
    have ea : (⟨b, off, none⟩ : Addr).add j = ⟨b, off + j, none⟩ := by unfold Addr.add; split <;> simp_all
    unfold ints at hu
    rw [List.getElem?_map] at hu
    cases hx : l[j]? with
    | none => rw [hx] at hu; cases hu
    | some x =>
      rw [hx] at hu
      injection hu with hu
      rw [ea, h5 j x hx, ← hu]
theorem eql_nil (A : Option Addr) (n c : Nat) (w : World) : (binOp .eql 47 (.slice A n c) (.slice none 0 0)).run Tryz.prog w = .ok (.bool A.isNone) w := by
  have he := run_equal_slice_nil (P := Tryz.prog) w 47 3 A n c Tryz.underlying47
  simp only [binOp]
  simp [he]
/-- A copy of a list of numbers. -/
def CloneOut (base : Nat) (w : World) (l : List Int) (e : Ending) (w' : World) : Prop := ∃ v K, e = .returned v ∧ KeepAt w' base v l K ∧ (∀ b ∈ K, w.heap.size ≤ b) ∧ Touch [] w w'
section
variable {w w1 w' : World} {base g mb : Nat} {vF : Value} {E E' : List Ent} {K G : List Nat} {D D' : DiskS}
theorem failP_down {n : Int} {keep : List Int} (hd : D.down = true) : failP D n keep = (61, D) := by unfold failP; rw [hd]; rfl
theorem failP_arg {n : Int} {keep : List Int} (hd : D.down = false) (hn : n < 0) : failP D n keep = (2, D) := by unfold failP; rw [hd, if_pos hn]; rfl
theorem failP_go {n : Int} {keep : List Int} (hd : D.down = false) (hn : ¬ n < 0) : failP D n keep = (0, { D with fails := n.toNat + 1, keep := keep }) := by unfold failP; rw [hd, if_neg hn]; rfl
/-- The first of a list's numbers. -/
theorem IntsIn.take {A : Option Addr} {c : Nat} {l : List Int} (h : IntsIn w (.slice A l.length c) l) {m : Nat} (hm : m ≤ l.length) : IntsIn w (.slice A m c) (l.take m) := by
  have hl : (l.take m).length = m := by rw [List.length_take]; omega
  rcases h with ⟨e, a, c', _⟩ | ⟨b, off, cap, e, h2, h3, h4, h5⟩
  · obtain rfl : m = 0 := by rw [e] at hm; simpa using hm
    exact Or.inl ⟨rfl, A, c, rfl⟩
  · obtain ⟨e1, _, e2⟩ := Value.slice.inj e
    subst e1 e2
    refine Or.inr ⟨b, off, c, by rw [hl], by omega, h3, h4, fun i x hx => ?_⟩
    have hi := (List.getElem?_eq_some_iff.1 hx).1
    rw [List.getElem?_take, if_pos (by omega)] at hx
    exact h5 i x hx
/-- A failure is set. -/
theorem fail_mem (h : PAt w base g mb vF E K D) {m : Nat} (hm : m ≤ 9223372036854775807) {vk : Value} {keep : List Int} {K' : List Nat} (hk : KeepAt w base vk (keep.take 400) K') :
    PAt ((w.alloc (.cells #[.int .i64 (m : Nat), vk] 110)).setCell ⟨g, 6, none⟩ (ptr w.heap.size)) base g mb (ptr w.heap.size) E (w.heap.size :: K') { D with fails := m + 1, keep := keep } ∧ Touch [g] w ((w.alloc (.cells #[.int .i64 (m : Nat), vk] 110)).setCell ⟨g, 6, none⟩ (ptr w.heap.size)) := by
  have ht0 : Touch [] w (w.alloc (.cells #[.int .i64 (m : Nat), vk] 110)) := (Touch.refl [] w).alloc _
  have h0 := h.touch ht0 (fun _ _ => by simp)
  have hb := Blok.new w 110 #[.int .i64 (m : Nat), vk]
  have hbase : base ≤ w.heap.size := by have := h.gb; have := h.disk.lt; omega
  have ht : ∀ W : World, Touch [g] W (W.setCell ⟨g, 6, none⟩ (ptr w.heap.size)) := fun W => (Touch.refl _ _).setCell (p := ⟨g, 6, none⟩) (Or.inl (List.mem_singleton.2 rfl)) _
  have hne : w.heap.size ≠ g := by have := h.disk.lt; omega
  refine ⟨h0.putDisk (G := [g]) rfl (h0.disk.put 6 _) (ht _) (fun b hb => Or.inl (List.mem_singleton.1 hb)) (Or.inr ⟨w.heap.size, m, vk, K', rfl, rfl, hm, hb.touch (ht _) (by simpa using hne), hbase, ?_, rfl⟩), (ht0.more (fun x hx => by cases hx)).trans (ht _) (fun b hb => Or.inl hb)⟩
  have hk0 := hk.touch ht0 (fun _ _ => by simp)
  exact hk0.touch (ht _) (fun b hbm hm2 => by
    rw [List.mem_singleton.1 hm2] at hbm
    exact hk0.ne h0.disk (by decide) hbm)
end
end Go.Proofs.YtedbgimmbapfaaaGreat

namespace Go.Proofs.YtedbgimmbapfaaaGreat
open Go.RowKit
set_option linter.unusedVariables false

/-- A new disk in memory. -/
def madeW (w : World) (c : Nat) : World := (w.alloc (.map #[] 0)).alloc (.cells #[ptr (w.heap.size + 1), .int .i64 (c : Nat), .map (some w.heap.size), .bool true, .int .i64 0, .int .i64 0, .pointer none] 44)
theorem new_mem (base c : Nat) (w : World) (hb : base ≤ w.heap.size) : PAt (madeW w c) base (w.heap.size + 1) w.heap.size (.pointer none) [] [] (newS c) := by
  have hs : (w.alloc (.map #[] 0)).heap.size = w.heap.size + 1 := by simp
  have hm := MapAt.made w (.map #[] 0) rfl
  have h1 : Blok (madeW w c) (w.heap.size + 1) 44 #[ptr (w.heap.size + 1), .int .i64 (c : Nat), .map (some w.heap.size), .bool true, .int .i64 0, .int .i64 0, .pointer none] := by
    have := Blok.new (w.alloc (.map #[] 0)) 44 #[ptr (w.heap.size + 1), .int .i64 (c : Nat), .map (some w.heap.size), .bool true, .int .i64 0, .int .i64 0, .pointer none]
    rw [hs] at this
    exact this
  have hm2 : MapAt (madeW w c) w.heap.size [] := hm.touch ((Touch.refl [] (w.alloc (.map #[] 0))).alloc _) (by simp)
  exact ⟨h1, by omega, hb, rfl, hm2, fun x hx => (by cases hx), List.Pairwise.nil, List.Pairwise.nil, fun x hx => (by cases hx), Or.inl ⟨rfl, rfl, rfl⟩⟩
set_option maxRecDepth 100000 in
theorem new_run (base c : Nat) (w : World) (hb : base ≤ w.heap.size) (hc : c ≤ 1048576) : Calls Tryz.prog 13 #[.int .i64 (c : Nat)] w (MadeAt ProgAt base w c) := by
  have h0 : decide ((c : Int) < 0) = false := decide_eq_false (by omega)
  have h1 : decide ((1048576 : Int) < (c : Int)) = false := decide_eq_false (by omega)
  have hmm := @run_makeMap Tryz.prog
  have HM := Lib.hid (new_mem base c w hb)
  have hs : (w.alloc (.map #[] 0)).heap.size = w.heap.size + 1 := by simp
  clear hb hc
  go_enter Tryz.func13, Tryz.ntmps13
  go_wp2
  go_ret2
  have hT : Touch [] w (madeW w c) := ((Touch.refl [] w).alloc _).alloc _
  refine ⟨w.heap.size + 1, _, rfl, HM.out.at, fun x hx => ?_, hT⟩
  rcases mem_blocks.1 hx with rfl | rfl | e | ⟨_, e, _⟩
  · omega
  · omega
  · cases e
  · cases e
theorem new_bad (c : Int) (w : World) (hc : c < 0 ∨ 1048576 < c) : Calls Tryz.prog 13 #[.int .i64 c] w (NewBad w) := by
  rcases hc with h | h
  · go_enter Tryz.func13, Tryz.ntmps13
    go_wp2
    go_ret2
    exact ⟨rfl, rfl⟩
  · have h0 : decide (c < 0) = false := decide_eq_false (by omega)
    go_enter Tryz.func13, Tryz.ntmps13
    go_wp2
    go_ret2
    exact ⟨rfl, rfl⟩
end Go.Proofs.YtedbgimmbapfaaaGreat

namespace Go.Proofs.YtedbgimmbapfaaaGreat
open Go.RowKit
set_option linter.unusedVariables false

theorem step_append_one {ops : Array Oper} {o : Oper} {a : Act} {w : World} {K : Act → World → Prop} {Q : Exit → Act → World → Prop} {E : Prop} {vs : Value} {w1 : World} {b0 c : Nat} {xs : List Int} {x : Int} (hgd : o.guard = none) (s y : Operand)
    (ho : o.op = .call { callee := .builtin .append, args := #[s, y], argTypes := #[47, 47] }) (hs : a.eval s = vs) (hx : a.eval y = .slice (some ⟨b0, 0, none⟩) 1 c)
    (ht : Touch [] w1 w) (hown : w.ownsRow w1.heap.size 3 1 vs xs.length (ints xs)) (hc : w.cell? ⟨b0, 0, none⟩ = some (.int .i64 x)) (hl : xs.length ≤ 1000)
    (h : ∀ v' w', w'.ownsRow w1.heap.size 3 1 v' (xs ++ [x]).length (ints (xs ++ [x])) → Touch [] w1 w' → K (a.put o.dst v') w') :
    if Region.wanted o (yielded ops a.tmps) = true then Oper.wp Tryz.prog o a w K Q else E := by
  obtain ⟨i0, hi, hz0, hz1, hz2⟩ := info_parts info_num
  have hsrc : SrcAt w 1 (.slice (some ⟨b0, 0, none⟩) 1 c) 1 (ints [x]) := ⟨rfl, Or.inr ⟨⟨b0, 0, none⟩, c, rfl, fun j u hu => by
    cases j with
    | zero =>
      have e : Value.int .i64 x = u := by simpa [ints] using hu
      rw [← e]
      have ea : (⟨b0, 0, none⟩ : Addr).add 0 = ⟨b0, 0, none⟩ := by simp [Addr.add]
      rw [ea]
      exact hc
    | succ j => simp [ints] at hu⟩⟩
  obtain ⟨v', w', e1, e2, e3, e4⟩ := run_append_src (P := Tryz.prog) w w1.heap.size 47 3 i0 _ 1 8 o.type Tryz.underlying47 hi hz0 hz1 hz2 rfl (by decide) vs xs.length (ints xs) hown _ 1 (ints [x]) hsrc (ints_one_cell [x]) (by unfold maxLen; omega) (by omega) ht.size
  refine step_append_run hgd s y _ ho hs hx e1 (h v' w' ?_ (ht.grown e3 (fun k hk => Or.inr (hown.lt k hk).1)))
  have e : ints (xs ++ [x]) = ints xs ++ ints [x] := by unfold ints; rw [List.map_append]
  rw [e, List.length_append]
  exact e2
section
variable {w w1 w' : World} {base g mb : Nat} {vF : Value} {E E' : List Ent} {K G : List Nat} {D D' : DiskS}
/-- The end of Unsynced. -/
def LooseOut (w : World) (l : List Int) (e : Ending) (w' : World) : Prop := ∃ v, e = .returned v ∧ IntsIn w' v l ∧ (∀ b, v.ownBlock = some b → w.heap.size ≤ b) ∧ Touch [] w w'
theorem loose_at {l : List FileS} {k : Nat} {f : FileS} (h : l[k]? = some f) : (looseL l).take (k + 1) = (looseL l).take k ++ [(f.data.size : Int) - f.synced] := by
  unfold looseL
  rw [List.take_add_one, List.getElem?_map, h]
  rfl
theorem loose_len (l : List FileS) : (looseL l).length = l.length := by unfold looseL; rw [List.length_map]
end
end Go.Proofs.YtedbgimmbapfaaaGreat

/- DApi -/
namespace Go.Proofs.YtedbgimmbapfaaaGreat
open Go.RowKit
set_option linter.unusedVariables false

theorem still {w : World} {base g mb : Nat} {vF : Value} {E : List Ent} {K : List Nat} {D : DiskS} (h : PAt w base g mb vF E K D) {v : Value} {f : FuncId} {args : Array Value} (hc : Calls Tryz.prog f args w fun e w' => e = .returned v ∧ w = w') :
    Calls Tryz.prog f args w (EndAt ProgAt base g (blocksP g mb E K) w v D) := hc.mono (by
  rintro e w' ⟨rfl, rfl⟩
  exact end_same h _)
theorem api : DiskApi ProgAt where
  touch := by
    rintro w w' base g F G D ⟨mb, vF, E, K, h, rfl⟩ ht hd
    exact ⟨mb, vF, E, K, h.touch ht hd, rfl⟩
  low := by
    rintro w base g F D ⟨mb, vF, E, K, h, rfl⟩
    exact h.low
  new_ := fun base c w hb hc => new_run base c w hb hc
  create := by
    rintro w base g F D n ⟨mb, vF, E, K, h, rfl⟩ hok hn
    exact create_run h hok n hn
  append := by
    rintro w base g F D n s ⟨mb, vF, E, K, h, rfl⟩ hok hs hn
    exact append_run h hok n s hn hs
  read := by
    rintro w base g F D n a k ⟨mb, vF, E, K, h, rfl⟩ hok hc ha hk hn
    exact read_run h hok hc n a k hn ha hk
  sync := by
    rintro w base g F D n ⟨mb, vF, E, K, h, rfl⟩ hok hn
    exact sync_run h hok n hn
  rename := by
    rintro w base g F D n m ⟨mb, vF, E, K, h, rfl⟩ hok hm hn
    exact rename_run h hok n m hn hm
  delete := by
    rintro w base g F D n ⟨mb, vF, E, K, h, rfl⟩ hok hn
    exact delete_run h hok n hn
  size := by
    rintro w base g F D n ⟨mb, vF, E, K, h, rfl⟩ hok hn
    exact still h (size_run h hok n hn)
  names := by
    rintro w base g F D ⟨mb, vF, E, K, h, rfl⟩ hok
    refine (names_run h hok.many).mono ?_
    rintro e w' ⟨v, h1, h2, h3, h4⟩
    have h5 := h.touch h4 (fun _ _ => by simp)
    exact ⟨_, v, h1, h2, fun b hb => ⟨h3 b hb, fun hm => by have := h3 b hb; have := (h.low b hm).2; omega⟩, h5.at, fun x hx => Or.inl hx, h4.more (fun x hx => by cases hx)⟩
  free := by
    rintro w base g F D ⟨mb, vF, E, K, h, rfl⟩ hok
    refine (free_run h hok).mono ?_
    rintro e w' ⟨rfl, h4⟩
    exact end_put (h.touch h4 (fun _ _ => by simp)) (h4.more (fun x hx => by cases hx)) _
  up := by
    rintro w base g F D ⟨mb, vF, E, K, h, rfl⟩ hok
    exact still h (up_run h)
  starts := by
    rintro w base g F D ⟨mb, vF, E, K, h, rfl⟩ hok
    exact still h (starts_run h)
  crash := by
    rintro w base g F D v keep ⟨mb, vF, E, K, h, rfl⟩ hok hI hV _
    exact crash_run v keep h hok hI hV
  upq := by
    rintro w base g F D ⟨mb, vF, E, K, h, rfl⟩
    exact up_run h
  startsq := by
    rintro w base g F D ⟨mb, vF, E, K, h, rfl⟩
    exact starts_run h
  sizeq := by
    rintro w base g F D n ⟨mb, vF, E, K, h, rfl⟩ hok hn
    exact size_run h hok n hn
  rise := by
    rintro w base g F D ⟨mb, vF, E, K, h, rfl⟩
    exact ⟨h.rise, h.names⟩
end Go.Proofs.YtedbgimmbapfaaaGreat

/- NamesIs -/
namespace Go.Proofs.YtedbgimmbapfaaaGreat
open Go.RowKit
set_option linter.unusedVariables false

theorem numbered_no (c : UInt8) (n : Int) (w : World) (h : ¬ (0 ≤ n ∧ n ≤ 999999)) :
    Calls Tryz.prog 53 #[.int .u8 (c.toNat : Nat), .int .i64 n] w fun e w' => e = .returned (.string ByteArray.empty) ∧ Below w.heap.size w w' := by
  by_cases h0 : n < 0
  · have t1 : decide (n < 0) = true := decide_eq_true h0
    clear h
    go_enter Tryz.func53, Tryz.ntmps53
    go_wp2
    go_ret
    exact ⟨rfl, Below.refl _ _⟩
  · have t1 : decide (n < 0) = false := decide_eq_false h0
    have t2 : decide (999999 < n) = true := decide_eq_true (by omega)
    clear h
    go_enter Tryz.func53, Tryz.ntmps53
    go_wp2
    go_ret
    exact ⟨rfl, Below.refl _ _⟩

theorem u8At_set (l : List UInt8) (i : Nat) (b : UInt8) (hi : i < l.length) (j : Nat) : (if j = i then Value.int .u8 ((b.toNat : Nat) : Int) else u8At l j) = u8At (l.set i b) j := by
  unfold u8At
  by_cases e : j = i
  · subst e
    rw [if_pos rfl, List.getD_eq_getElem?_getD, List.getElem?_set_self hi]
    rfl
  · rw [if_neg e, List.getD_eq_getElem?_getD, List.getD_eq_getElem?_getD, List.getElem?_set_ne (fun h => e h.symm)]
/-- The bytes behind k rounds. -/
def nmL (c : UInt8) (k n : Nat) : List UInt8 := c :: (List.replicate (6 - k) 0 ++ de k n)
theorem nmL_length (c : UInt8) (k n : Nat) (hk : k ≤ 6) : (nmL c k n).length = 7 := by simp [nmL, de_length]; omega
theorem nmL_set (c : UInt8) (k n : Nat) (hk : k < 6) : (nmL c k n).set (6 - k) (UInt8.ofNat (48 + n / 10 ^ k % 10)) = nmL c (k + 1) n := by
  obtain ⟨j, hj⟩ : ∃ j, 6 - k = j + 1 := ⟨5 - k, by omega⟩
  have hj2 : 6 - (k + 1) = j := by omega
  have hl : (List.replicate j (0 : UInt8)).length = j := List.length_replicate
  unfold nmL
  rw [hj, hj2, List.set_cons_succ, de, List.replicate_succ', List.append_assoc, List.set_append_right _ _ (by omega), hl, Nat.sub_self, List.singleton_append, List.set_cons_zero]
set_option maxHeartbeats 800000 in
theorem numbered_yes (c : UInt8) (n : Nat) (w : World) (h : n ≤ 999999) :
    Calls Tryz.prog 53 #[.int .u8 (c.toNat : Nat), .int .i64 (n : Nat)] w fun e w' => e = .returned (.string (bs (c :: de 6 n))) ∧ Below w.heap.size w w' := by
  have t1 : decide ((n : Int) < 0) = false := decide_eq_false (by omega)
  have t2 : decide ((999999 : Int) < (n : Int)) = false := decide_eq_false (by omega)
  go_enter Tryz.func53, Tryz.ntmps53
  go_wp2
  go_loopw [1, 15] (fun m i wr => ∃ k : Nat, k ≤ 6 ∧ i = .int .i64 k ∧ m = .int .i64 (n / 10 ^ k : Nat) ∧ RowB wr w.heap.size 7 (u8At (nmL c k n)) ∧ Below w.heap.size w wr) (fun _ i _ => 6 - (intOf i).toNat)
  case atStart =>
    refine ⟨0, Nat.zero_le _, rfl, by simp, ?_, ?_⟩
    · refine ⟨_, 95, (0, 0), (show (w.heap.push _)[w.heap.size]? = _ from Array.getElem?_push_size), Nat.le_refl 7, Or.inl rfl, fun i hi => ?_⟩
      have hd : nmL c 0 n = [c, 0, 0, 0, 0, 0, 0] := rfl
      rw [hd]
      match i, hi with
      | 0, _ | 1, _ | 2, _ | 3, _ | 4, _ | 5, _ | 6, _ => rfl
    · exact (Below.refl _ _).alloc (Nat.le_refl _) _
  case round =>
    obtain ⟨k, hk, rfl, rfl, hrow, hbel⟩ := hrel
    by_cases hlt : k < 6
    · obtain ⟨m, hm⟩ : ∃ m, n / 10 ^ k = m := ⟨_, rfl⟩
      have hm2 : n / 10 ^ (k + 1) = m / 10 := by rw [Nat.pow_succ, ← Nat.div_div_eq_div_mul, hm]
      have hml : m ≤ 999999 := by rw [← hm]; exact Nat.le_trans (Nat.div_le_self _ _) h
      rw [hm]
      have Hm := Lib.hid hm2
      have hc := hrow.cell (i := 6 - k) (by omega)
      have hf := hrow.frozen (i := 6 - k) (by omega)
      have hs := hrow.set (6 - k) (.int .u8 ((UInt8.ofNat (48 + m % 10)).toNat : Nat))
      have hs2 := hs.congr (fun j _ => u8At_set _ _ _ (by rw [nmL_length c k n hk]; omega) j)
      rw [← hm, nmL_set c k n hlt, hm, dig_nat _ (Nat.mod_lt _ (by decide))] at hs2
      have HS := Lib.hid hs2
      clear hm hm2 hs hs2
      clear hrow
      go_wp2
      go_roundw
      case rel =>
        refine ⟨k + 1, by omega, by go_num, by rw [Hm.out]; go_num, ?_, ?_⟩
        · exact HS.out
        · exact hbel.setCell (by simp) _
      case measure => simp [intOf]; omega
    · obtain rfl : k = 6 := by omega
      have hcv := conv_out hrow (nmL_length c 6 n (Nat.le_refl _)) 7
      go_wp2
      go_ret
      exact ⟨rfl, hbel⟩

theorem numbered_any (c : UInt8) (n : Int) (w : World) :
    Calls Tryz.prog 53 #[.int .u8 (c.toNat : Nat), .int .i64 n] w fun e w' => e = .returned (.string (nmS c n)) ∧ Below w.heap.size w w' := by
  by_cases h : 0 ≤ n ∧ n ≤ 999999
  · obtain ⟨k, rfl⟩ : ∃ k : Nat, n = k := ⟨n.toNat, by omega⟩
    rw [nm_yes (by omega)]
    exact numbered_yes c k w (by omega)
  · rw [nm_no h]
    exact numbered_no _ n w h
theorem chunk_own (n : Int) (w : World) : Calls Tryz.prog 25 #[.int .i64 n] w fun e w' => e = .returned (.string (nmS 99 n)) ∧ Below w.heap.size w w' := by
  have h : Calls Tryz.prog 53 #[.int .u8 99, .int .i64 n] w fun e w' => e = .returned (.string (nmS 99 n)) ∧ Below w.heap.size w w' := numbered_any 99 n w
  generalize nmS 99 n = s at *
  have H := Lib.hid h
  clear h
  go_enter Tryz.func25, Tryz.ntmps25
  go_wp2_with fail
  refine (H.out).mono ?_
  rintro _ w1 ⟨rfl, hb⟩
  go_wp2
  go_ret
  exact ⟨rfl, hb⟩
theorem iskind_any (c : UInt8) (w : World) : Calls Tryz.prog 76 #[.int .u8 (c.toNat : Nat)] w fun e w' => e = .returned (.bool (isK c)) ∧ w = w' := by
  by_cases e1 : c.toNat = 99
  · obtain rfl : c = 99 := UInt8.toNat_inj.1 e1
    go_enter Tryz.func76, Tryz.ntmps76
    go_wp2
    go_ret
    exact ⟨rfl, rfl⟩
  · by_cases e2 : c.toNat = 116
    · obtain rfl : c = 116 := UInt8.toNat_inj.1 e2
      go_enter Tryz.func76, Tryz.ntmps76
      go_wp2
      go_ret
      exact ⟨rfl, rfl⟩
    · by_cases e3 : c.toNat = 98
      · obtain rfl : c = 98 := UInt8.toNat_inj.1 e3
        go_enter Tryz.func76, Tryz.ntmps76
        go_wp2
        go_ret
        exact ⟨rfl, rfl⟩
      · have hk : isK c = false := by
          simp only [isK, Bool.or_eq_false_iff, beq_eq_false_iff_ne]
          exact ⟨⟨fun e => e1 (by rw [e]; rfl), fun e => e2 (by rw [e]; rfl)⟩, fun e => e3 (by rw [e]; rfl)⟩
        have v1 : ((c.toNat : Int) == 99) = false := beq_eq_false_iff_ne.2 (by omega)
        have v2 : ((c.toNat : Int) == 116) = false := beq_eq_false_iff_ne.2 (by omega)
        have v3 : ((c.toNat : Int) == 98) = false := beq_eq_false_iff_ne.2 (by omega)
        rw [hk]
        clear hk e1 e2 e3
        go_enter Tryz.func76, Tryz.ntmps76
        go_wp2
        go_ret
        exact ⟨rfl, rfl⟩

def NoneParsed (w : World) (e : Ending) (w' : World) : Prop := e = .returned (.tuple #[.int .u8 0, .int .i64 0, .bool false]) ∧ w = w'
theorem parse_size (s : ByteArray) (w : World) (hs : s.size ≤ maxLen) (h : ¬ s.size = 7) :
    Calls Tryz.prog 64 #[.string s] w (NoneParsed w) := by
  unfold maxLen at hs
  have t1 : ((s.size : Int) != 7) = true := by simp; omega
  have t2 : ((s.size : Int) == 7) = false := beq_eq_false_iff_ne.2 (by omega)
  clear h
  go_enter Tryz.func64, Tryz.ntmps64
  go_wp2
  go_ret3
  exact ⟨rfl, rfl⟩

theorem parse_letter (s : ByteArray) (w : World) (hz : 0 < s.size) (h : s.size = 7) (c : UInt8) (hc : s[0]'hz = c) (hk : isK c = false) :
    Calls Tryz.prog 64 #[.string s] w (NoneParsed w) := by
  have t1 : ((s.size : Int) != 7) = false := by simp; omega
  have t2 : ((s.size : Int) == 7) = true := beq_iff_eq.2 (by omega)
  have hz' : (0 : Int) < (s.size : Int) := by omega
  have hi := Lib.hid (iskind_any c)
  clear h
  go_enter Tryz.func64, Tryz.ntmps64
  go_wp2_with fail
  refine (hi.out w).mono ?_
  rintro _ _ ⟨rfl, rfl⟩
  rw [hk]
  go_wp2
  go_ret3
  exact ⟨rfl, rfl⟩
set_option maxHeartbeats 1600000 in
theorem parse_loop (s : ByteArray) (w : World) (hz : 0 < s.size) (h : s.size = 7) (c : UInt8) (l : List UInt8) (hl : s.data.toList = c :: l) (hk : isK c = true) :
    Calls Tryz.prog 64 #[.string s] w fun e w' => e = .returned (.tuple #[.int .u8 (npK s : Nat), .int .i64 (npN s : Nat), .bool (npOk s)]) ∧ w = w' := by
  have t1 : ((s.size : Int) != 7) = false := by simp; omega
  have t2 : ((s.size : Int) == 7) = true := beq_iff_eq.2 (by omega)
  have hl6 : l.length = 6 := by have := dlen s; rw [hl, List.length_cons] at this; omega
  have hc := byte_zero hl hz
  have hz' : (0 : Int) < (s.size : Int) := by omega
  have HB := Lib.hid fun (j : Nat) (hj : j < l.length) => (⟨by omega, byte_of hl j hj (by omega)⟩ : ∃ hs : j + 1 < s.size, s[j + 1]'hs = l[j])
  have Hyes := Lib.hid fun (hall : ∀ x ∈ l, isD x = true) => np_of c l hl6 hk hall
  have hbs : bs (c :: l) = s := by rw [← hl, bs_self]
  rw [hbs] at Hyes
  have Hno := Lib.hid fun (j : Nat) (hj : j < l.length) (hd : isD l[j] = false) => np_wrong (s := s) (fun c' l' e => by
    rw [hl] at e
    cases e
    rintro ⟨_, _, ha⟩
    rw [ha _ (List.getElem_mem hj)] at hd
    cases hd)
  have Hd := Lib.hid fun (j : Nat) (hj : j ≤ l.length) (hall : ∀ i (hi : i < l.length), i < j → isD l[i] = true) => (by
    have h1 := dv_lt (l := l.take j) (fun x hx => by
      obtain ⟨i, hi⟩ := List.getElem?_of_mem hx
      rw [List.getElem?_take] at hi
      by_cases hij : i < j
      · rw [if_pos hij] at hi
        obtain ⟨hlt, e⟩ := List.getElem?_eq_some_iff.1 hi
        rw [← e]
        exact hall i hlt hij
      · rw [if_neg hij] at hi
        cases hi)
    rw [List.length_take] at h1
    have : 10 ^ min j l.length ≤ 10 ^ 6 := Nat.pow_le_pow_right (by decide) (by omega)
    omega : dv (l.take j) ≤ 999999)
  obtain ⟨K, hK⟩ : ∃ K, npK s = K := ⟨_, rfl⟩
  obtain ⟨N, hN⟩ : ∃ N, npN s = N := ⟨_, rfl⟩
  obtain ⟨o, ho⟩ : ∃ o, npOk s = o := ⟨_, rfl⟩
  rw [hK, hN, ho]
  have HK := Lib.hid (And.intro hK (And.intro hN ho))
  have HI := Lib.hid (iskind_any c)
  have HK1 := Lib.hid hk
  clear h hl hK hN ho hbs hk
  go_enter Tryz.func64, Tryz.ntmps64
  go_wp2_with fail
  refine (HI.out w).mono ?_
  rintro _ _ ⟨rfl, rfl⟩
  rw [HK1.out]
  go_wp2
  go_loopw [3, 16] (fun n i wr => ∃ j : Nat, j ≤ 6 ∧ i = .int .i64 (j : Nat) ∧ n = .int .i64 (dv (l.take j) : Nat) ∧ (∀ i (hi : i < l.length), i < j → isD l[i] = true) ∧ w = wr) (fun _ i _ => 6 - (intOf i).toNat)
  case atStart => exact ⟨0, Nat.zero_le _, rfl, rfl, fun i hi h => absurd h (by omega), rfl⟩
  case round =>
    obtain ⟨j, hj, rfl, rfl, hall, rfl⟩ := hrel
    have hdv := Hd.out j (by omega) hall
    have HA := Lib.hid hall
    clear hall
    by_cases hlt : j < 6
    · obtain ⟨hs1, hs2⟩ := HB.out j (by omega)
      have hx1 : (1 + (j : Int)).toNat = j + 1 := by omega
      have hs3 : (1 + (j : Int)) < (s.size : Int) := by omega
      have hd256 := (l[j]'(by omega)).toNat_lt
      cases hd : isD (l[j]'(by omega)) with
      | false =>
        have hno := Hno.out j (by omega) hd
        obtain ⟨x1, x2⟩ := np_no hno
        obtain ⟨y1, y2, y3⟩ := HK.out
        rw [x1] at y1
        rw [x2] at y2
        rw [hno] at y3
        subst y1 y2 y3
        simp only [isD, decide_eq_false_iff_not] at hd
        have hdd : (l[j]'(by omega)).toNat < 48 ∨ 57 < (l[j]'(by omega)).toNat := by omega
        generalize l[j]'(by omega) = d at *
        clear hd x1 x2 hno
        by_cases h48 : d.toNat < 48
        · have v1 : decide ((d.toNat : Int) < 48) = true := decide_eq_true (by omega)
          clear hdd
          go_wp2
          go_ret3
          exact ⟨rfl, rfl⟩
        · have v1 : decide ((d.toNat : Int) < 48) = false := decide_eq_false (by omega)
          have v2 : decide ((57 : Int) < (d.toNat : Int)) = true := decide_eq_true (by omega)
          clear hdd
          go_wp2
          go_ret3
          exact ⟨rfl, rfl⟩
      | true =>
        have HT := Lib.hid (dv_take (l := l) (j := j) (by omega))
        have HN : ∀ i (hi : i < l.length), i < j + 1 → isD l[i] = true := fun i hi hij => by
          by_cases e : i = j
          · subst e; exact hd
          · exact HA.out i hi (by omega)
        have HN' := Lib.hid HN
        simp only [isD, decide_eq_true_eq] at hd
        generalize l[j]'(by omega) = d at *
        obtain ⟨d1, d2⟩ := hd
        have v1 : decide ((d.toNat : Int) < 48) = false := decide_eq_false (by omega)
        have v2 : decide ((57 : Int) < (d.toNat : Int)) = false := decide_eq_false (by omega)
        generalize dv (l.take j) = m at *
        clear HN
        go_wp2
        go_roundw
        case rel => exact ⟨j + 1, by omega, by go_num, by rw [HT.out]; go_num, HN'.out, trivial⟩
        case measure => simp [intOf]; omega
    · obtain rfl : j = 6 := by omega
      have hall : ∀ x ∈ l, isD x = true := fun x hx => by
        obtain ⟨i, hi⟩ := List.getElem?_of_mem hx
        obtain ⟨hlt', e'⟩ := List.getElem?_eq_some_iff.1 hi
        rw [← e']
        exact HA.out i hlt' (by omega)
      obtain ⟨x1, x2, x3⟩ := Hyes.out hall
      obtain ⟨y1, y2, y3⟩ := HK.out
      rw [x2] at y1
      rw [x3] at y2
      rw [x1] at y3
      have ht : l.take 6 = l := List.take_of_length_le (by omega)
      rw [ht]
      subst y1 y2 y3
      clear x1 x2 x3 ht hall
      go_wp2
      go_ret3
      exact ⟨rfl, rfl⟩

/-- Parse. -/
theorem parse_own (s : ByteArray) (w : World) (hs : s.size ≤ maxLen) :
    Calls Tryz.prog 64 #[.string s] w fun e w' => e = .returned (.tuple #[.int .u8 (npK s : Nat), .int .i64 (npN s : Nat), .bool (npOk s)]) ∧ w = w' := by
  by_cases h7 : s.size = 7
  · cases hl : s.data.toList with
    | nil =>
      have := dlen s
      rw [hl, h7] at this
      cases this
    | cons c l =>
      cases hk : isK c with
      | true => exact parse_loop s w (by omega) h7 c l hl hk
      | false =>
        obtain ⟨x1, x2⟩ := np_no (np_wrong (s := s) (fun c' l' e => by
          rw [hl] at e
          cases e
          rintro ⟨_, h, _⟩
          rw [hk] at h
          cases h))
        have x3 := np_wrong (s := s) (fun c' l' e => by
          rw [hl] at e
          cases e
          rintro ⟨_, h, _⟩
          rw [hk] at h
          cases h)
        rw [x1, x2, x3]
        exact parse_letter s w (by omega) h7 c (byte_zero hl (by omega)) hk
  · have x3 := np_wrong (s := s) (fun c' l' e => by
      rintro ⟨h, _, _⟩
      have := dlen s
      rw [e, List.length_cons] at this
      omega)
    obtain ⟨x1, x2⟩ := np_no x3
    rw [x1, x2, x3]
    exact parse_size s w hs h7

theorem napi : NamesApi where
  chunk := fun n w _ => chunk_own n w
  parse := fun s w hs => (parse_own s w hs).mono (by rintro e w' ⟨rfl, rfl⟩; exact ⟨rfl, Below.refl _ _⟩)
end Go.Proofs.YtedbgimmbapfaaaGreat

/- TfWalks -/
namespace Go.Proofs.YtedbgimmbapfaaaGreat
open Go.RowKit
set_option linter.unusedVariables false

theorem TflogBackW.walk (w : World) (v0 : Value) (l0 : List ByteArray) (hl0 : StrsIn w v0 l0) (wl0 : ∀ p ∈ l0, p.size ≤ maxLen) :
    Calls Tryz.prog 4 #[v0] w fun e w' => e = .returned (.bool true) ∧ Below w.heap.size w w' :=
  back_walk api napi capi v0 l0 w wl0 hl0
theorem TflogRoomW.walk (w : World) (v0 : Value) (l0 : List Nat) (a1 : Int) (hl0 : U16sIn w v0 l0) (wl0 : ∀ x ∈ l0, x < 65536) (w1 : (Lit.int .u16 a1).wf = true) :
    Calls Tryz.prog 5 #[v0, .int .u16 a1] w fun e w' => e = .returned (.bool true) ∧ Below w.heap.size w w' := by
  obtain ⟨n, rfl, hn⟩ := u16_nat w1
  exact room12_walk api napi capi v0 l0 w n wl0 hl0 hn
theorem TflogNoneW.walk (a0 : ByteArray) (a1 : Int) (w0 : a0.size ≤ maxLen) (w1 : (Lit.int .i64 a1).wf = true) (w : World) :
    Calls Tryz.prog 3 #[.string a0, .int .i64 a1] w fun e w' => e = .returned (.bool true) ∧ Below w.heap.size w w' :=
  none12_walk api napi capi a0 a1 w
end Go.Proofs.YtedbgimmbapfaaaGreat
