/- ZnIxDel -/
import Derived.Test.YtcpfkaehefcakaaGreatPn38
import Derived.Test.YtcpfkaehefcakaaGreatPn19
import Derived.Test.YtcpfkaehefcakaaGreatPn14
import Derived.Test.YtcpfkaehefcakaaGreatPn21
import Derived.Test.YtcpfkaehefcakaaGreatPn44
import Derived.Lib.OwnBridge
import Derived.BigQuiet
namespace Go.Proofs.YtcpfkaehefcakaaGreat
open Go.RowKit Go.Shelf
set_option linter.unusedVariables false
set_option maxRecDepth 100000
theorem dq_any (gb : Nat) (A : Option Addr) (n c : Nat) (p : Value) (y : Int) (q : Bool) (W : World) (hbox : W.cell? ⟨gb, 0, none⟩ = some (.slice A n c))
    (hN : ∀ k, Calls Tryz.prog 104 #[p] (W.drewN k) fun e w' => e = .returned (.int .i64 y) ∧ w' = W.drewN k)
    (hC : ∀ k, Calls Tryz.prog 103 #[.slice A n c, .int .i64 y] (W.drewN k) fun e w' => e = .returned (.bool q) ∧ w' = W.drewN k) :
    Calls Tryz.prog 156 #[p, ptr gb] W fun e w' => e = .returned (.bool (!q)) ∧ ∃ k, w' = W.drewN k := by
  have HN := Lib.hid hN
  have HC := Lib.hid hC
  clear hN hC
  go_enter Tryz.func156, Tryz.ntmps156
  go_wp2_with fail
  go_quiet (first | (go_at_call 104; exact Calls.quiet_of_same (HN.out _)) | (go_at_call 103; exact Calls.quiet_of_same (HC.out _)))
  go_wp2
  go_ret
  exact ⟨rfl, _, rfl⟩
theorem ptnum_nil (w : World) : Calls Tryz.prog 104 #[.pointer none] w fun e w' => e = .returned (.int .i64 0) ∧ w = w' := by
  have hn := Lib.hid (ptnone_nil w)
  go_enter Tryz.func104, Tryz.ntmps104
  go_wp2_with fail
  refine hn.out.mono ?_
  rintro e w' ⟨rfl, rfl⟩
  go_wp2
  go_ret
  exact ⟨rfl, rfl⟩
abbrev DelT (L : List (Nat × TbS)) : Type := Option { x : Nat × TbS // x ∈ L }
instance (L : List (Nat × TbS)) : Inhabited (DelT L) := ⟨none⟩
def delV {L : List (Nat × TbS)} : DelT L → Value
  | none => .pointer none
  | some x => ptr x.1.1
def delP {L : List (Nat × TbS)} (ns : List Int) : DelT L → Bool
  | none => !decide ((0 : Int) ∈ ns)
  | some x => !decide ((x.1.2.n : Int) ∈ ns)
def delZ (L : List (Nat × TbS)) : List (DelT L) := L.attach.map some
theorem delV_one {L : List (Nat × TbS)} : OneCell (delV (L := L)) := fun x => by cases x <;> rfl
theorem delZ_vals (L : List (Nat × TbS)) : (delZ L).map delV = L.map fun x => ptr x.1 := by
  unfold delZ
  rw [List.map_map]
  show L.attach.map (fun x => ptr x.1.1) = _
  rw [show (fun x : { x // x ∈ L } => ptr x.1.1) = (fun x : Nat × TbS => ptr x.1) ∘ Subtype.val from rfl, ← List.map_map, List.attach_map_subtype_val]
theorem delZ_left (L : List (Nat × TbS)) (ns : List Int) : ((delZ L).filter fun x => !delP ns x).map delV = (L.filter fun x => decide ((x.2.n : Int) ∈ ns)).map fun x => ptr x.1 := by
  unfold delZ
  rw [List.filter_map, List.map_map]
  have e : ((fun x : DelT L => !delP ns x) ∘ some) = (fun x : Nat × TbS => decide ((x.2.n : Int) ∈ ns)) ∘ Subtype.val := by
    funext x
    show (!(!decide _)) = _
    rw [Bool.not_not]
    rfl
  rw [e, show (delV (L := L) ∘ some) = (fun x : Nat × TbS => ptr x.1) ∘ Subtype.val from rfl, ← List.map_map, ← List.filter_map, List.attach_map_subtype_val]
def leftP (ps : List Nat) (T : List TbS) (ns : List Int) : List Nat := ((ps.zip T).filter fun x => decide ((x.2.n : Int) ∈ ns)).map Prod.fst
section
variable {w : World} {gd gb base cur n c : Nat} {A : Option Addr} {ps : List Nat} {T : List TbS} {ns : List Int} {G : List Nat} {v : Value}
theorem dq_of (hT : TabsAt w gd ps T G) (hb : Blok w gb 68 #[.slice A n c]) (hv : IntsIn w (.slice A n c) ns) (hns : ns.length ≤ 1000000) (E : List Nat) (hG : ∀ b ∈ G, b ∈ E) (hgb : gb ∈ E) (hvE : ∀ b ∈ ownL (.slice A n c), b ∈ E) (W : World) (hk : Kept E w W) (x : DelT (ps.zip T)) :
    FnGives Tryz.prog 156 #[ptr gb] #[delV x] (.bool (delP ns x)) W := by
  have hc : W.cell? ⟨gb, 0, none⟩ = some (.slice A n c) := (hk.blok hb hgb).cell 0
  have hCo : ∀ (y : Int) (k : Nat), Calls Tryz.prog 103 #[.slice A n c, .int .i64 y] (W.drewN k) fun e w' => e = .returned (.bool (decide (y ∈ ns))) ∧ w' = W.drewN k := fun y k => contains_any _ ns y (W.drewN k) ((hk.ints hv hvE).below (below_drewN (Below.refl _ _) k) (Nat.le_refl _)) hns
  cases x with
  | none => exact dq_any gb A n c (.pointer none) 0 (decide ((0 : Int) ∈ ns)) W hc (fun k => (ptnum_nil (W.drewN k)).mono fun _ _ h => ⟨h.1, h.2.symm⟩) (hCo 0)
  | some x =>
    obtain ⟨⟨g, t⟩, hx⟩ := x
    obtain ⟨i, hi⟩ := List.getElem?_of_mem hx
    rw [List.getElem?_zip_eq_some] at hi
    obtain ⟨H, q1, q2⟩ := hT.2 i g t hi.1 hi.2
    have q3 := q1.keep hk (fun b hb => hG b (q2 b hb))
    exact dq_any gb A n c (ptr g) (t.n : Nat) (decide ((t.n : Int) ∈ ns)) W hc (fun k => (ptnum_run (q3.below (below_drewN (Below.refl _ _) k))).mono fun _ _ h => ⟨h.1, h.2.symm⟩) (hCo _)
theorem sw_kept {α : Type} [Inhabited α] (enc : α → Value) (w : World) (blk off k : Nat) (dk : Array α) (os : Array Obj) {E : List Nat} (hE : ∀ b ∈ E, b ≠ blk ∧ b < w.heap.size) : Kept E w (sortWorld enc w blk off k dk os) := by
  have h1 : (Sort.putRow enc (Sort.ahead w k) blk off dk).heap.size = w.heap.size := by simp [Sort.putRow, Sort.mapBlock, Sort.ahead]
  refine ⟨?_, fun b hb => ?_⟩
  · show w.heap.size ≤ ((Sort.putRow enc (Sort.ahead w k) blk off dk).heap ++ os).size
    rw [Array.size_append, h1]
    omega
  · obtain ⟨e1, e2⟩ := hE b hb
    show ((Sort.putRow enc (Sort.ahead w k) blk off dk).heap ++ os)[b]? = _
    rw [Array.getElem?_append_left (by rw [h1]; exact e2)]
    simp [Sort.putRow, Sort.mapBlock, Sort.ahead, Array.getElem?_modify, Ne.symm e1]
theorem del_any (hT : TabsAt w gd ps T G) (hr : PRow w base v ps) (hb : Blok w gb 68 #[.slice A n c]) (hv : IntsIn w (.slice A n c) ns) (hns : ns.length ≤ 1000000) (hps : ps.length ≤ 1000) (E : List Nat) (hG : ∀ b ∈ G, b ∈ E) (hgb : gb ∈ E) (hvE : ∀ b ∈ ownL (.slice A n c), b ∈ E) (hE : ∀ b ∈ E, b ∉ ownL v ∧ b < w.heap.size) :
    Calls Tryz.prog 155 #[v, .func (.func 156) #[] #[ptr gb]] w fun e w' => ∃ u, e = .returned u ∧ PRow w' base u (leftP ps T ns) ∧ ownL u = ownL v ∧ Touch (ownL v) w w' := by
  have hl := hT.1
  by_cases hn : v = .slice none 0 0
  · subst hn
    have hl0 : ps = [] := by
      rcases hr.2 with ⟨-, e⟩ | ⟨g, cap, cur, e, -⟩
      · exact List.length_eq_zero_iff.1 e
      · cases e
    subst hl0
    have HI : Hid (∀ W, Calls Tryz.prog 196 #[.slice none 0 0, .func (.func 156) #[] #[ptr gb]] W fun e w' => e = .returned (.int .i64 (-1)) ∧ W = w') := Lib.hid fun W => by
      clear hT hr hb hv hE hvE hG hgb
      go_enter Tryz.func196, Tryz.ntmps196
      go_wp2
      refine wp_loop_rounds 1 ?_
      rw [rounds_succ]
      go_wp2
      go_ret
      exact ⟨rfl, rfl⟩
    have HR := Lib.hid hr
    clear hT hr hb hv hE hvE hG hgb
    go_enter Tryz.func155, Tryz.ntmps155
    go_wp2_with fail
    refine (HI.out _).mono ?_
    rintro e w' ⟨rfl, rfl⟩
    go_wp2
    go_ret
    exact ⟨_, rfl, PRow.nil _ _, rfl, Touch.refl _ _⟩
  · have hz : (delZ (ps.zip T)).length = ps.length := by
      unfold delZ
      rw [List.length_map, List.length_attach, List.length_zip]
      omega
    have hvals : ps.map ptr = (delZ (ps.zip T)).map delV := by
      rw [delZ_vals, show (fun x : Nat × TbS => ptr x.1) = ptr ∘ Prod.fst from rfl, ← List.map_map, List.map_fst_zip (by omega)]
    have hr2 := hr
    unfold PRow at hr2
    rw [hvals] at hr2
    obtain ⟨g, cap, rfl, hg, hlt, hnc, hcm, -, hH⟩ := Lib.holds_of_ownsRow hr2 hn
    have hne : ∀ b ∈ E, b ≠ g ∧ b < w.heap.size := fun b hb => ⟨fun e => (hE b hb).1 (ownL_mem.2 (by rw [e]; rfl)), (hE b hb).2⟩
    have hp : PredAt Tryz.prog 156 #[ptr gb] (delV (L := ps.zip T)) (delP ns) w := fun W x hW => dq_of hT hb hv hns E hG hgb hvE W (Kept.of_below hW (fun b hb => (hE b hb).2)) x
    have hpo : PredOver Tryz.prog 156 #[ptr gb] (delV (L := ps.zip T)) (delP ns) g 0 (delZ (ps.zip T)).toArray.size w := fun k os dk x _ => dq_of hT hb hv hns E hG hgb hvE _ (sw_kept _ _ _ _ _ _ _ hne) x
    have eg : ∀ args w, (callFunc 156 args).run Tryz.prog w = .ok (.enter 156 args) w := enters_of Tryz.func156 (by kernel_rfl) rfl
    have h := AnyE.slices_DeleteFunc Tryz.del delV delV_one (delP ns) 156 #[ptr gb] eg none (fun w => Tryz.zeroValue86 w) g 0 cap (delZ (ps.zip T)).toArray w hp hpo hH (by rw [List.size_toArray]; omega) (by rw [List.size_toArray]; omega)
    rw [List.size_toArray, hz] at h
    refine h.mono ?_
    rintro e w' ⟨rfl, q, rfl⟩
    have hfl : ((delZ (ps.zip T)).filter fun x => !delP ns x).length ≤ ps.length := by rw [← hz]; exact List.length_filter_le _ _
    have h2 := Lib.ownsRow_putRow (q := q) (k := ((delZ (ps.zip T)).filter fun x => !delP ns x).length) (ys := ((delZ (ps.zip T)).filter fun x => !delP ns x) ++ List.replicate (ps.length - ((delZ (ps.zip T)).filter fun x => !delP ns x).length) none) hr2 (by rw [List.length_append, List.length_replicate]; omega) hfl
    rw [List.take_left, delZ_left] at h2
    have hlen : ((delZ (ps.zip T)).filter fun x => !delP ns x).length = (leftP ps T ns).length := by
      have := congrArg List.length (delZ_left (ps.zip T) ns)
      rw [List.length_map, List.length_map] at this
      unfold leftP
      rw [List.length_map]
      exact this
    rw [hlen]
    refine ⟨_, rfl, ?_, rfl, ?_⟩
    · have e : (leftP ps T ns).map ptr = ((ps.zip T).filter fun x => decide ((x.2.n : Int) ∈ ns)).map fun x => ptr x.1 := by unfold leftP; rw [List.map_map]; rfl
      unfold PRow
      rw [e]
      rw [hlen] at h2
      exact h2
    · refine ⟨rfl, rfl, rfl, by simp [Sort.putRow, Sort.mapBlock, Sort.ahead], fun b hb hn => ?_⟩
      have hbg : g ≠ b := fun e => hn (ownL_mem.2 (by rw [e]; rfl))
      simp [Sort.putRow, Sort.mapBlock, Sort.ahead, Array.getElem?_modify, hbg]
end
end Go.Proofs.YtcpfkaehefcakaaGreat
