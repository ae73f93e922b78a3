/- Sync, Read, Fail: the document's. -/
import Derived.Test.YtfpimebamkmjoaaDiskRefWrite
import Derived.Maps.AppendAt
namespace Go.Proofs.Ytfpimebamkmjoaa
open Go.RowKit
set_option linter.unusedVariables false

theorem sync_eq (l : List FileS) (k : Nat) (f : FileS) (h : l[k]? = some f) : setF l k (fun x => { x with synced := f.data.size }) = setF l k (fun f => { f with synced := f.data.size }) := by
  apply List.ext_getElem?
  intro j
  rw [setF_get, setF_get]
  by_cases e : j = k
  · subst e; rw [if_pos rfl, if_pos rfl, h]; rfl
  · rw [if_neg e, if_neg e]
def syncE (D : DiskS) (n : ByteArray) : DiskS := { D with l := setF D.l (findS D.l n) (fun f => { f with synced := f.data.size }), fails := D.fails - 1 }
theorem syncS_go {D : DiskS} {n : ByteArray} (hd : D.down = false) (hf : findS D.l n < D.l.length) : syncS D n = if goesS D then (0, syncE D n) else (61, sinkS D D.keep) := by
  unfold syncS doneS
  rw [if_neg (by rw [hd]; decide), if_pos hf]
  rfl
theorem syncS_none {D : DiskS} {n : ByteArray} (hd : D.down = false) (hf : ¬ findS D.l n < D.l.length) : syncS D n = (4, D) := by
  unfold syncS
  rw [if_neg (by rw [hd]; decide), if_neg hf]
theorem syncS_down {D : DiskS} {n : ByteArray} (hd : D.down = true) : syncS D n = (61, D) := by
  unfold syncS
  rw [if_pos hd]

set_option maxHeartbeats 2000000 in
theorem sync_ref {base g : Nat} {F : List Nat} {D : DiskS} (n : ByteArray) (w : World) (h : RefAt w base g F D) (ho : RefOk D) :
    Calls Try.prog 37 #[.pointer (some ⟨g, 0, none⟩), .string n] w (RefEnd base g F w (syncS D n).1 (syncS D n).2) := by
  obtain ⟨A, cap, vK, fr, c0, c1, _, c3, _, _, _, n1, n2, _⟩ := h.view
  have hfi := Lib.hid (find_ref n w h)
  have H := Lib.hid h
  clear fr c1 n1 n2 c0
  cases hd : D.down
  case true =>
    rw [syncS_down hd]
    rw [hd] at c3
    clear hd h
    generalize foundV D.l n = x at *
    go_enter Try.func37, Try.ntmps37
    go_wp2_with fail
    refine hfi.out.mono ?_
    rintro e w' ⟨rfl, rfl⟩
    go_wp2
    go_ret
    exact ⟨F, rfl, H.out, fun _ h => Or.inl h, Touch.refl _ _⟩
  rw [hd] at c3
  by_cases hlt : findS D.l n < D.l.length
  case neg =>
    rw [syncS_none hd hlt]
    rw [foundV_no hlt] at hfi
    clear hlt h hd
    go_enter Try.func37, Try.ntmps37
    go_wp2_with fail
    refine hfi.out.mono ?_
    rintro e w' ⟨rfl, rfl⟩
    go_wp2
    go_ret
    exact ⟨F, rfl, H.out, fun _ h => Or.inl h, Touch.refl _ _⟩
  rw [syncS_go hd hlt]
  rw [foundV_yes hlt] at hfi
  obtain ⟨f, hfk, _⟩ := find_at hlt
  have hfz := (ho.sizes f (List.mem_of_getElem? hfk)).2
  have HE := Lib.hid (show syncE D n = { nextS D with l := setF D.l (findS D.l n) (fun x => { x with synced := f.data.size }) } by rw [sync_eq D.l _ f hfk]; rfl)
  have hc := Lib.hid (change_ref w h ho.fails)
  have HO := Lib.hid ho.next
  have HDE := Lib.hid (show (nextS D).down = false from hd)
  have HKE := Lib.hid (show sinkS (nextS D) (nextS D).keep = sinkS D D.keep from rfl)
  have HFK := Lib.hid (show (nextS D).l[findS D.l n]? = some f from hfk)
  have HL := Lib.hid (show (nextS D).l = D.l from rfl)
  clear h ho hd hfk
  generalize sinkS D D.keep = E2 at *
  generalize syncE D n = E at *
  cases hgd : goesS D
  all_goals
    rw [hgd] at hc
    simp only [Bool.false_eq_true, if_false, if_true]
    clear hgd
    generalize findS D.l n = k at *
    go_enter Try.func37, Try.ntmps37
    go_wp2_with fail
    refine hfi.out.mono ?_
    rintro e w' ⟨rfl, rfl⟩
    clear hfi
    go_wp2_with fail
    refine hc.out.mono ?_
    rintro e w2 ⟨rfl, hR3, hT3⟩
  · have hsk := Lib.hid (sunk_ref w2 hR3 HO.out HDE.out)
    rw [HKE.out] at hsk
    have HT3 := Lib.hid hT3
    clear hR3 hT3 hc c3
    go_wp2_with fail
    refine hsk.out.mono ?_
    rintro e w3 ⟨F', rfl, h1, h2, h3⟩
    have H1 := Lib.hid h1
    have H2 := Lib.hid h2
    have H3 := Lib.hid h3
    clear h1 h2 h3 hsk
    go_wp2
    go_ret
    exact RefEnd.after ⟨F', rfl, H1.out, H2.out, H3.out⟩ HT3.out (fun x h => Or.inl h)
  · obtain ⟨A2, cap2, c1, m1, m2, hfile⟩ := hR3.file
    obtain ⟨b, rfl, hbF, hbg, hbi, bfr, d0, d1, d2, put1, put2⟩ := hfile _ f HFK.out
    rw [HL.out] at c1 m1
    have bfr1 := bfr (k * 3 + 2)
    have P2 := Lib.hid put2
    have HT3 := Lib.hid hT3
    have HBF := Lib.hid hbF
    clear hR3 hT3 hc c3 put1 put2 hfile hbi bfr hbF
    go_wp2_with fail
    go_region
    go_wp2
    go_ret
    refine ⟨F, rfl, ?_, fun x h => Or.inl h, (HT3.out.drew).setCell (Or.inl HBF.out) _⟩
    rw [HE.out]
    exact P2.out f.data.size

theorem failS_go {D : DiskS} {n : Int} {keep : List Int} (hd : D.down = false) (hn : ¬ n < 0) : failS D n keep = (0, { D with fails := min n.toNat 1099511627776 + 1, keep := keep }) := by
  unfold failS
  rw [if_neg (by rw [hd]; decide), if_neg hn]
theorem failS_arg {D : DiskS} {n : Int} {keep : List Int} (hd : D.down = false) (hn : n < 0) : failS D n keep = (2, D) := by
  unfold failS
  rw [if_neg (by rw [hd]; decide), if_pos hn]
theorem failS_down {D : DiskS} {n : Int} {keep : List Int} (hd : D.down = true) : failS D n keep = (61, D) := by
  unfold failS
  rw [if_pos hd]

/-- append of nothing and a list of numbers: a row of its own. -/
theorem run_copy_ints (w : World) (base : Nat) (hb : base ≤ w.heap.size) (v : Value) (l : List Int) (hv : IntsAt w v l) (hl : l.length ≤ 1099511627776) :
    ∃ v' w', (Builtin.append_ #[32, 32] 32 #[.slice none 0 0, v]).run Try.prog w = .ok v' w' ∧ w'.ownsRow base 3 1 v' l.length (ints l) ∧ Touch [] w w' ∧ (∀ x, v'.ownBlock = some x → w.heap.size ≤ x) := by
  have hi : (Try.prog.info? 3).map (fun i => (i.zero, i.size, i.bytes)) = some (some (.int .i64 0), 1, 8) := by kernel_rfl
  obtain ⟨i0, hi, hz0, hz1, hz2⟩ := info_parts hi
  rcases hv with ⟨rfl, a, c, rfl⟩ | ⟨b, off, cap, cs, fr, rfl, h2, h3, h4, h5⟩
  · refine ⟨.slice none 0 0, w, ?_, World.ownsRow_nil w base _ 1, Touch.refl _ _, fun x h => by cases h⟩
    cases a with
    | none => simp [Builtin.append_, run_underlying Try.underlying32, sizeOf, typeInfo, hi, Builtin.lenOf, Builtin.firstCells]
    | some a => simp [Builtin.append_, run_underlying Try.underlying32, sizeOf, typeInfo, hi, Builtin.lenOf, Builtin.firstCells, loadCells, loadCellsFrom]
  · have hcells : ∀ j u, (ints l)[j]? = some u → w.cell? ((⟨b, off, none⟩ : Addr).add j) = some u := by
      intro j u hu
      unfold ints at hu
      rw [List.getElem?_map] at hu
      cases hx : l[j]? with
      | none => rw [hx] at hu; cases hu
      | some x =>
        rw [hx] at hu
        obtain rfl : Value.int .i64 x = u := by simpa using hu
        have e : (⟨b, off, none⟩ : Addr).add j = ⟨b, off + j, none⟩ := by unfold Addr.add; split <;> simp_all
        rw [e, cell_of_row w b (off + j) cs _ fr h4]
        exact h5 j x hx
    obtain ⟨v', w', h1, h2', h3', _, h5'⟩ := run_append_own_at (P := Try.prog) w base 32 32 3 i0 (.int .i64 0) 1 8 Try.underlying32 hi hz0 hz1 hz2 rfl (by decide) (.slice none 0 0) 0 [] (World.ownsRow_nil w base _ 1) ⟨b, off, none⟩ l.length cap (ints l)
      (by unfold ints; simp) hcells (by unfold ints; intro u hu; obtain ⟨x, _, rfl⟩ := List.mem_map.1 hu; rfl) (by unfold maxLen at *; omega) (by omega) hb
    refine ⟨v', w', h1, by simpa using h2', ⟨h3'.os, h3'.tape, h3'.output, h3'.size, fun k hk _ => h3'.block k hk (by simp [Value.ownBlock])⟩, fun x hx => ?_⟩
    rcases h5' with e | e
    · rw [e] at hx; cases hx
    · rw [e] at hx; injection hx with hx; omega
end Go.Proofs.Ytfpimebamkmjoaa
