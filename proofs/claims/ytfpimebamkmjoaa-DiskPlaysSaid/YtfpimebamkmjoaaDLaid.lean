/- Delete, Create, Rename: the program's. -/
import Derived.Test.YtfpimebamkmjoaaDOps
namespace Go.Proofs.Ytfpimebamkmjoaa
open Go.RowKit
set_option linter.unusedVariables false

def layE (E : List Ent) (x : Ent) : List Ent := E.take (aheadS (E.map Ent.f) x.f.name) ++ [x] ++ E.drop (aheadS (E.map Ent.f) x.f.name)
def dropE (E : List Ent) (k : Nat) : List Ent := E.take k ++ E.drop (k + 1)
def clearE (E : List Ent) (n : ByteArray) : List Ent := if findS (E.map Ent.f) n < E.length then dropE E (findS (E.map Ent.f) n) else E
section
variable {E : List Ent} {x : Ent} {k : Nat} {n : ByteArray}
theorem layE_f : (layE E x).map Ent.f = layS (E.map Ent.f) x.f := by
  unfold layE layS
  rw [List.map_append, List.map_append, List.map_take, List.map_drop]
  rfl
theorem dropE_f : (dropE E k).map Ent.f = dropS (E.map Ent.f) k := by
  unfold dropE dropS
  rw [List.map_append, List.map_take, List.map_drop]
theorem clearE_f : (clearE E n).map Ent.f = clearL (E.map Ent.f) n := by
  unfold clearE clearL
  rw [List.length_map]
  split
  · exact dropE_f
  · rfl
theorem layE_perm : (layE E x).Perm (x :: E) := by
  unfold layE
  rw [List.append_assoc]
  have h : (List.take (aheadS (E.map Ent.f) x.f.name) E ++ ([x] ++ List.drop (aheadS (E.map Ent.f) x.f.name) E)).Perm (([x] ++ List.drop (aheadS (E.map Ent.f) x.f.name) E) ++ List.take (aheadS (E.map Ent.f) x.f.name) E) := List.perm_append_comm
  refine h.trans ?_
  rw [List.append_assoc]
  refine List.Perm.cons x ?_
  have h2 : (List.drop (aheadS (E.map Ent.f) x.f.name) E ++ List.take (aheadS (E.map Ent.f) x.f.name) E).Perm (List.take (aheadS (E.map Ent.f) x.f.name) E ++ List.drop (aheadS (E.map Ent.f) x.f.name) E) := List.perm_append_comm
  rw [List.take_append_drop] at h2
  exact h2
theorem dropE_perm (h : E[k]? = some x) : E.Perm (x :: dropE E k) := by
  have hk := (List.getElem?_eq_some_iff.1 h).1
  have e : E = E.take k ++ (x :: E.drop (k + 1)) := by
    have e2 : E.drop k = x :: E.drop (k + 1) := by
      rw [List.drop_eq_getElem_cons hk]
      congr 1
      rw [List.getElem?_eq_getElem hk] at h
      simpa using h
    rw [← e2, List.take_append_drop]
  have h3 : (E.take k ++ (x :: E.drop (k + 1))).Perm (x :: (E.take k ++ E.drop (k + 1))) := List.perm_middle
  unfold dropE
  rw [← e] at h3
  exact h3
theorem dropE_sub : (dropE E k).Sublist E := by
  unfold dropE
  have e : E = E.take k ++ E.drop k := (List.take_append_drop k E).symm
  have h : (E.drop (k + 1)).Sublist (E.drop k) := by rw [← List.drop_drop]; exact List.drop_sublist _ _
  have h2 := (List.Sublist.refl (E.take k)).append h
  rw [List.take_append_drop] at h2
  exact h2
theorem clearE_sub : (clearE E n).Sublist E := by
  unfold clearE
  split
  · exact dropE_sub
  · exact List.Sublist.refl _
theorem apartE_symm {x y : Ent} (h : apartE x y) : apartE y x := ⟨fun e => h.1 e.symm, fun b h1 h2 => h.2 b h2 h1⟩
theorem layE_apart (h : (x :: E).Pairwise apartE) : (layE E x).Pairwise apartE := (layE_perm.pairwise_iff (fun {a b} hab => apartE_symm hab)).2 h
theorem dropE_apart (hk : E[k]? = some x) (h : E.Pairwise apartE) : (x :: dropE E k).Pairwise apartE := ((dropE_perm hk).pairwise_iff (fun {a b} hab => apartE_symm hab)).1 h
/-- Names that are unlike. -/
def Unlike (E : List Ent) : Prop := E.Pairwise (fun x y => x.f.name ≠ y.f.name)
theorem unlike_of (h : Rise (E.map Ent.f)) : Unlike E := (List.pairwise_map (f := Ent.f) (R := fun x y => x.name ≠ y.name)).1 (rise_names_ne h)
theorem dropE_unlike (hk : E[k]? = some x) (h : Unlike E) : Unlike (x :: dropE E k) := ((dropE_perm hk).pairwise_iff (fun {a b} hab e => hab e.symm)).1 h
theorem dropE_names (hk : E[k]? = some x) (h : Unlike E) : ∀ y ∈ dropE E k, y.f.name ≠ x.f.name := fun y hy e => (List.pairwise_cons.1 (dropE_unlike hk h)).1 y hy e.symm
theorem dropE_mem (hk : E[k]? = some x) {y : Ent} (hy : y ∈ E) (hn : y.f.name ≠ x.f.name) : y ∈ dropE E k := by
  rcases List.mem_cons.1 ((dropE_perm hk).mem_iff.1 hy) with rfl | h
  · exact absurd rfl hn
  · exact h
theorem clearE_names (h : Unlike E) : ∀ y ∈ clearE E n, y.f.name ≠ n := by
  unfold clearE
  split
  · rename_i hlt
    obtain ⟨f, hf, e⟩ := find_at (l := E.map Ent.f) (n := n) (by rw [List.length_map]; exact hlt)
    rw [List.getElem?_map] at hf
    cases hx : E[findS (E.map Ent.f) n]? with
    | none => rw [hx] at hf; cases hf
    | some x =>
      rw [hx] at hf
      obtain rfl : x.f = f := by simpa using hf
      intro y hy
      rw [← e]
      exact dropE_names hx h y hy
  · rename_i hlt
    intro y hy
    exact not_found (l := E.map Ent.f) (by rw [List.length_map]; exact hlt) y.f (List.mem_map.2 ⟨y, hy, rfl⟩)
theorem clearE_mem {y : Ent} (hy : y ∈ E) (hn : y.f.name ≠ n) : y ∈ clearE E n := by
  unfold clearE
  split
  · rename_i hlt
    obtain ⟨f, hf, e⟩ := find_at (l := E.map Ent.f) (n := n) (by rw [List.length_map]; exact hlt)
    rw [List.getElem?_map] at hf
    cases hx : E[findS (E.map Ent.f) n]? with
    | none => rw [hx] at hf; cases hf
    | some x =>
      rw [hx] at hf
      obtain rfl : x.f = f := by simpa using hf
      exact dropE_mem hx hy (by rw [e]; exact hn)
  · exact hy
theorem rise_clear {l : List FileS} (h : Rise l) (n : ByteArray) : Rise (clearL l n) := by
  unfold clearL
  split
  · exact rise_drop h _
  · exact h
end
section
variable {w w1 w' : World} {base g mb : Nat} {vF : Value} {E E' : List Ent} {K G : List Nat} {D D' : DiskS}
theorem PAt.nodup (h : PAt w base g mb vF E K D) : ((E.map Ent.nb).map (fun x => x.1.data.toList)).Nodup := by rw [nb_names h]; exact rise_names h.rise
theorem PAt.unlike (h : PAt w base g mb vF E K D) : Unlike E := unlike_of (by rw [← h.lst]; exact h.rise)
theorem PAt.lenE (h : PAt w base g mb vF E K D) : E.length = D.l.length := by rw [h.lst, List.length_map]
theorem drop_blocks : ∀ y ∈ blocksP g mb E' K, (∀ z ∈ E', z ∈ E) → y ∈ blocksP g mb E K := by
  intro y hy hs
  rcases mem_blocks.1 hy with e | e | e | ⟨z, hz, e⟩
  · exact mem_blocks.2 (Or.inl e)
  · exact mem_blocks.2 (Or.inr (Or.inl e))
  · exact mem_K e
  · exact mem_E (hs z hz) e
end
end Go.Proofs.Ytfpimebamkmjoaa

namespace Go.Proofs.Ytfpimebamkmjoaa
open Go.RowKit
set_option linter.unusedVariables false

section
variable {w w1 w' : World} {base g mb : Nat} {vF : Value} {E E' : List Ent} {K G : List Nat} {D D' : DiskS}
theorem PAt.namesE (h : PAt w base g mb vF E K D) {x : Ent} (hx : x ∈ E) : x.f.name.size ≤ maxLen := by
  have := h.names x.f (by rw [h.lst]; exact List.mem_map.2 ⟨x, hx, rfl⟩)
  unfold nameB at this
  simp only [Bool.and_eq_true, decide_eq_true_eq] at this
  unfold maxLen
  omega
/-- A file less. -/
theorem delete_map (h : PAt w base g mb vF E K D) {k : Nat} {x : Ent} (hk : E[k]? = some x) : ∃ w', (Builtin.delete_ #[56, 9] 0 #[.map (some mb), .string x.f.name]).run Try.prog w = .ok (.tuple #[]) w' ∧ PAt w' base g mb vF (dropE E k) K { D with l := dropS D.l k } ∧ Touch [mb] w w' := by
  have hx := List.mem_of_getElem? hk
  obtain ⟨w', hr, hm, ht⟩ := h.map.drop (L' := (dropE E k).map Ent.nb) (h.namesE hx) (fun y hy => by
    obtain ⟨z, hz, rfl⟩ := List.mem_map.1 hy
    exact ⟨List.mem_map.2 ⟨z, dropE_sub.subset hz, rfl⟩, dropE_names hk h.unlike z hz⟩) (fun y hy hne => by
    obtain ⟨z, hz, rfl⟩ := List.mem_map.1 hy
    exact List.mem_map.2 ⟨z, dropE_mem hk hz hne, rfl⟩) 0
  refine ⟨w', hr, h.putMap (dropE E k) _ (by rw [dropE_f, ← h.lst]) hm ht (fun y hy => h.ents y (dropE_sub.subset hy)) (List.Pairwise.sublist dropE_sub h.apart) (rise_drop h.rise k) (fun f hf => h.names f (drop_mem hf)), ht⟩
set_option maxRecDepth 100000 in
theorem delete_run (h : PAt w base g mb vF E K D) (hok : ProgOk D) (n : ByteArray) (hn : n.size ≤ maxLen) : Calls Try.prog 24 #[ptr g, .string n] w (EndAt ProgAt base g (blocksP g mb E K) w (err (deleteS D n).1) (deleteS D n).2) := by
  have HH := Lib.hid h
  cases hd : D.down
  · by_cases hf : findS D.l n < D.l.length
    · obtain ⟨x, hx, hl, hxn⟩ := ent_at h hf
      have ho := Lib.hid (open_yes h hd hx (by rw [hxn]; exact hn))
      rw [hxn] at ho
      rw [deleteS_go hd hf]
      generalize findS D.l n = k at *
      cases hg : goesS D
      · have hfl := Lib.hid (fails_sinks h hok hg)
        simp only [Bool.false_eq_true, if_false]
        generalize sinkS D D.keep = D2 at *
        clear h hok hx hl hxn hf hd hg
        go_enter Try.func24, Try.ntmps24
        go_wp2_with fail
        refine ho.out.mono ?_
        rintro e w' ⟨rfl, rfl⟩
        go_wp2_with fail
        refine hfl.out.mono ?_
        rintro e w2 ⟨E', rfl, h1, h2, h3⟩
        have H1 := Lib.hid h1
        have H2 := Lib.hid h2
        have H3 := Lib.hid h3
        clear h1 h2 h3 hfl
        go_wp2
        go_ret
        exact end_sunk H1.out H2.out H3.out _
      · have hfl := Lib.hid (fails_goes h hg)
        simp only [if_true]
        have HX := Lib.hid hx
        have HN := Lib.hid hxn
        clear h hok hx hl hxn hf hd hg
        go_enter Try.func24, Try.ntmps24
        go_wp2_with fail
        refine ho.out.mono ?_
        rintro e w' ⟨rfl, rfl⟩
        go_wp2_with fail
        refine hfl.out.mono ?_
        rintro e w2 ⟨rfl, h1, h2⟩
        obtain ⟨w3, hr, h3, h4⟩ := delete_map h1 HX.out
        rw [HN.out] at hr
        obtain ⟨c0, c1, c2, c3, c4, c5, c6⟩ := h1.cells
        have H3 := Lib.hid h3
        have H4 := Lib.hid h4
        have H2 := Lib.hid h2
        clear h1 h2 h3 h4 hfl c0 c1 c3 c4 c5 c6
        go_wp2
        go_ret
        refine ⟨_, rfl, H3.out.at, fun y hy => Or.inl (drop_blocks y hy (fun z hz => dropE_sub.subset hz)), ?_⟩
        exact (H2.out.more (fun b hb => Or.inl (mem_K hb))).trans H4.out (fun b hb => Or.inl (by rw [List.mem_singleton.1 hb]; exact mem_mb))
    · have ho := Lib.hid (open_no h hd hf hn)
      rw [deleteS_none hd hf]
      clear h hok hf hd
      go_enter Try.func24, Try.ntmps24
      go_wp2_with fail
      refine ho.out.mono ?_
      rintro e w' ⟨rfl, rfl⟩
      go_wp2
      go_ret
      exact end_same HH.out _
  · have ho := Lib.hid (open_down h hd n)
    rw [deleteS_down hd]
    clear h hok hd
    go_enter Try.func24, Try.ntmps24
    go_wp2_with fail
    refine ho.out.mono ?_
    rintro e w' ⟨rfl, rfl⟩
    go_wp2
    go_ret
    exact end_same HH.out _
end
end Go.Proofs.Ytfpimebamkmjoaa

namespace Go.Proofs.Ytfpimebamkmjoaa
open Go.RowKit
set_option linter.unusedVariables false

section
variable {w w1 w' : World} {base g mb : Nat} {vF : Value} {E E' : List Ent} {K G : List Nat} {D D' : DiskS}
/-- A new file in memory. -/
def newE (w : World) (n : ByteArray) : Ent := ⟨⟨n, ByteArray.empty, 0⟩, w.heap.size, .slice none 0 0⟩
def newW (w : World) : World := w.alloc (.cells #[.slice none 0 0, .int .i64 0] 71)
/-- A file more. -/
theorem create_map (h : PAt w base g mb vF E K D) (n : ByteArray) (hnb : nameB n = true) (hn : n.size ≤ maxLen) (hf : ¬ findS D.l n < D.l.length) (hm : D.l.length ≤ 400) :
    ∃ w', (Instr.mapUpdate 56 (.map (some mb)) (.string n) (ptr w.heap.size)).run Try.prog (newW w) = .ok () w' ∧ PAt w' base g mb vF (layE E (newE w n)) K { D with l := layS D.l ⟨n, ByteArray.empty, 0⟩ } ∧ Touch [mb] w w' := by
  have ht0 : Touch [] w (newW w) := (Touch.refl [] w).alloc _
  have h0 := h.touch ht0 (fun _ _ => by simp)
  have hbase : base ≤ w.heap.size := by have := h.gb; have := h.disk.lt; omega
  have hE0 : EntAt (newW w) base (newE w n) := ⟨Blok.new w _ _, hbase, bytes_nil _ _⟩
  have hne : ∀ y ∈ E, y.f.name ≠ n := fun y hy => not_found hf y.f (by rw [h.lst]; exact List.mem_map.2 ⟨y, hy, rfl⟩)
  have hap : (newE w n :: E).Pairwise apartE := List.pairwise_cons.2 ⟨fun y hy => ⟨fun e => by
    have := (h.ents y hy).1.lt
    have e' : w.heap.size = y.b := e
    omega, fun b hb => by cases hb⟩, h.apart⟩
  obtain ⟨w', hr, hmm, ht⟩ := h0.map.store h0.nodup (by rw [List.length_map, h.lenE]; exact hm) hn (b := w.heap.size) (L' := (layE E (newE w n)).map Ent.nb) (List.mem_map.2 ⟨newE w n, layE_perm.mem_iff.2 (by simp), rfl⟩)
    (fun y hy => by
      obtain ⟨z, hz, rfl⟩ := List.mem_map.1 hy
      rcases List.mem_cons.1 (layE_perm.mem_iff.1 hz) with rfl | hz
      · exact Or.inl rfl
      · exact Or.inr ⟨List.mem_map.2 ⟨z, hz, rfl⟩, hne z hz⟩)
    (fun y hy _ => by
      obtain ⟨z, hz, rfl⟩ := List.mem_map.1 hy
      exact List.mem_map.2 ⟨z, layE_perm.mem_iff.2 (by simp [hz]), rfl⟩)
  have hfe : (newE w n).f = ⟨n, ByteArray.empty, 0⟩ := rfl
  refine ⟨w', hr, h0.putMap (layE E (newE w n)) _ (by rw [layE_f, hfe, ← h.lst]) hmm ht (fun y hy => ?_) (layE_apart hap) (rise_lay h.rise _ (fun y hy => not_found hf y hy)) (fun f hf => ?_), (ht0.more (fun x hx => by cases hx)).trans ht (fun b hb => Or.inl hb)⟩
  · rcases List.mem_cons.1 (layE_perm.mem_iff.1 hy) with rfl | hy
    · exact hE0
    · exact h0.ents y hy
  · rcases lay_mem hf with hf | rfl
    · exact h.names f hf
    · exact hnb
theorem lay_blocks {x : Ent} {z : Nat} (hz : ∀ b ∈ x.blocks, z ≤ b) : ∀ y ∈ blocksP g mb (layE E x) K, y ∈ blocksP g mb E K ∨ z ≤ y := by
  intro y hy
  rcases mem_blocks.1 hy with e | e | e | ⟨u, hu, e⟩
  · exact Or.inl (mem_blocks.2 (Or.inl e))
  · exact Or.inl (mem_blocks.2 (Or.inr (Or.inl e)))
  · exact Or.inl (mem_K e)
  · rcases List.mem_cons.1 (layE_perm.mem_iff.1 hu) with rfl | hu
    · exact Or.inr (hz y e)
    · exact Or.inl (mem_E hu e)
set_option maxRecDepth 100000 in
set_option maxHeartbeats 2000000 in
theorem create_run (h : PAt w base g mb vF E K D) (hok : ProgOk D) (n : ByteArray) (hn : n.size ≤ maxLen) : Calls Try.prog 20 #[ptr g, .string n] w (EndAt ProgAt base g (blocksP g mb E K) w (err (createS D n).1) (createS D n).2) := by
  have HH := Lib.hid h
  have hr := Lib.hid (ready_run h)
  unfold readyR at hr
  cases hd : D.down
  case true =>
    rw [createS_down hd]
    rw [hd] at hr
    clear h hok hd
    go_enter Try.func20, Try.ntmps20
    go_wp2_with fail
    refine hr.out.mono ?_
    rintro e w' ⟨rfl, rfl⟩
    go_wp2
    go_ret
    exact end_same HH.out _
  rw [hd] at hr
  have hnm := Lib.hid (isName_run n w hn)
  cases hnb : nameB n
  case false =>
    rw [createS_arg hd hnb]
    rw [hnb] at hnm
    clear h hok hd hnb
    go_enter Try.func20, Try.ntmps20
    go_wp2_with fail
    refine hr.out.mono ?_
    rintro e w' ⟨rfl, rfl⟩
    go_wp2_with fail
    refine hnm.out.mono ?_
    rintro e w' ⟨rfl, rfl⟩
    go_wp2
    go_ret
    exact end_same HH.out _
  rw [hnb] at hnm
  obtain ⟨c0, c1, c2, c3, c4, c5, c6⟩ := h.cells
  by_cases hf : findS D.l n < D.l.length
  case pos =>
    obtain ⟨x, hx, hl, hxn⟩ := ent_at h hf
    rw [createS_have hd hnb hf]
    have hl := h.map.look hn (b := x.b) (List.mem_map.2 ⟨x, List.mem_of_getElem? hx, by unfold Ent.nb; rw [hxn]⟩)
    clear h hok hd hnb hf hx hxn c0 c1 c3 c4 c5 c6
    generalize x.b = xb at *
    go_enter Try.func20, Try.ntmps20
    go_wp2_with fail
    refine hr.out.mono ?_
    rintro e w' ⟨rfl, rfl⟩
    go_wp2_with fail
    refine hnm.out.mono ?_
    rintro e w' ⟨rfl, rfl⟩
    go_wp2
    go_ret
    exact end_same HH.out _
  have hl := h.map.lookNo hn (fun y hy => by
    obtain ⟨x, hx, rfl⟩ := List.mem_map.1 hy
    exact not_found hf x.f (by rw [h.lst]; exact List.mem_map.2 ⟨x, hx, rfl⟩))
  have hlen := fun ts => h.map.len h.nodup ts
  rw [List.length_map, h.lenE] at hlen
  have hmany := hok.many
  by_cases hm : 400 ≤ D.l.length
  case pos =>
    rw [createS_full hd hnb hf hm]
    have q : decide ((400 : Int) ≤ (D.l.length : Int)) = true := decide_eq_true (by omega)
    clear h hok hd hnb hf c0 c1 c3 c4 c5 c6
    go_enter Try.func20, Try.ntmps20
    go_wp2_with fail
    refine hr.out.mono ?_
    rintro e w' ⟨rfl, rfl⟩
    go_wp2_with fail
    refine hnm.out.mono ?_
    rintro e w' ⟨rfl, rfl⟩
    go_wp2
    go_ret
    exact end_same HH.out _
  rw [createS_go hd hnb hf hm]
  have q : decide ((400 : Int) ≤ (D.l.length : Int)) = false := decide_eq_false (by omega)
  cases hg : goesS D
  · have hfl := Lib.hid (fails_sinks h hok hg)
    simp only [Bool.false_eq_true, if_false]
    generalize sinkS D D.keep = D2 at *
    clear h hok hd hg hnb hf c0 c1 c3 c4 c5 c6
    go_enter Try.func20, Try.ntmps20
    go_wp2_with fail
    refine hr.out.mono ?_
    rintro e w' ⟨rfl, rfl⟩
    go_wp2_with fail
    refine hnm.out.mono ?_
    rintro e w' ⟨rfl, rfl⟩
    go_wp2_with fail
    refine hfl.out.mono ?_
    rintro e w2 ⟨E', rfl, h1, h2, h3⟩
    have H1 := Lib.hid h1
    have H2 := Lib.hid h2
    have H3 := Lib.hid h3
    clear h1 h2 h3 hfl
    go_wp2
    go_ret
    exact end_sunk H1.out H2.out H3.out _
  · have hfl := Lib.hid (fails_goes h hg)
    simp only [if_true]
    have HNB := Lib.hid hnb
    have HF := Lib.hid hf
    have HMM := Lib.hid hmany
    clear h hok hd hg hnb hf c0 c1 c3 c4 c5 c6 hm
    go_enter Try.func20, Try.ntmps20
    go_wp2_with fail
    refine hr.out.mono ?_
    rintro e w' ⟨rfl, rfl⟩
    go_wp2_with fail
    refine hnm.out.mono ?_
    rintro e w' ⟨rfl, rfl⟩
    go_wp2_with fail
    refine hfl.out.mono ?_
    rintro e w2 ⟨rfl, h1, h2⟩
    obtain ⟨w3, hr3, h3, h4⟩ := create_map h1 n HNB.out hn HF.out HMM.out
    obtain ⟨c0, c1, c2', c3, c4, c5, c6⟩ := h1.cells
    have H3 := Lib.hid h3
    have H4 := Lib.hid h4
    have H2 := Lib.hid h2
    have HLB := Lib.hid (lay_blocks (g := g) (mb := mb) (E := E) (K := K) (x := newE w2 n) (z := w.heap.size) (fun b hb => by
      have e : b = w2.heap.size := by simpa [newE, Ent.blocks, Value.ownBlock] using hb
      rw [e]
      exact h2.size))
    unfold newW at hr3
    clear h1 h2 h3 h4 hfl c0 c1 c3 c4 c5 c6 c2 hl hlen
    go_wp2
    go_ret
    refine ⟨_, rfl, H3.out.at, HLB.out, ?_⟩
    exact (H2.out.more (fun b hb => Or.inl (mem_K hb))).trans H4.out (fun b hb => Or.inl (by rw [List.mem_singleton.1 hb]; exact mem_mb))
end
end Go.Proofs.Ytfpimebamkmjoaa

namespace Go.Proofs.Ytfpimebamkmjoaa
open Go.RowKit
set_option linter.unusedVariables false

section
variable {w w1 w' : World} {base g mb : Nat} {vF : Value} {E E' : List Ent} {K G : List Nat} {D D' : DiskS}
/-- A file by another name. -/
def namedE (x : Ent) (n : ByteArray) : Ent := ⟨{ x.f with name := n }, x.b, x.v⟩
theorem named_at {x : Ent} {n : ByteArray} (h : EntAt w base x) : EntAt w base (namedE x n) := ⟨h.1, h.2.1, h.2.2⟩
def renL (l : List FileS) (k : Nat) (n tn : ByteArray) : List FileS := if n = tn then l else renameL l k tn
/-- Taken away, and put there again. -/
theorem back_map (h : PAt w base g mb vF E K D) {k : Nat} {x : Ent} (hk : E[k]? = some x) (hm : D.l.length ≤ 400) (hd : PAt w1 base g mb vF (dropE E k) K { D with l := dropS D.l k }) (ht : Touch [mb] w w1) :
    ∃ w', (Instr.mapUpdate 56 (.map (some mb)) (.string x.f.name) (ptr x.b)).run Try.prog w1 = .ok () w' ∧ PAt w' base g mb vF E K D ∧ Touch [mb] w1 w' := by
  have hx := List.mem_of_getElem? hk
  obtain ⟨w', hr, hmm, ht2⟩ := hd.map.store hd.nodup (by
    have h1 : (dropE E k).length ≤ E.length := dropE_sub.length_le
    rw [List.length_map]
    have := h.lenE
    omega) (h.namesE hx) (b := x.b) (L' := E.map Ent.nb) (List.mem_map.2 ⟨x, hx, rfl⟩)
    (fun y hy => by
      obtain ⟨z, hz, rfl⟩ := List.mem_map.1 hy
      rcases List.mem_cons.1 ((dropE_perm hk).mem_iff.1 hz) with rfl | hz
      · exact Or.inl rfl
      · exact Or.inr ⟨List.mem_map.2 ⟨z, hz, rfl⟩, dropE_names hk h.unlike z hz⟩)
    (fun y hy _ => by
      obtain ⟨z, hz, rfl⟩ := List.mem_map.1 hy
      exact List.mem_map.2 ⟨z, dropE_sub.subset hz, rfl⟩)
  have hT : Touch [mb] w w' := ht.trans ht2 (fun b hb => Or.inl hb)
  have hp := h.putMap E D.l h.lst hmm hT h.ents h.apart h.rise h.names
  exact ⟨w', hr, hp, ht2⟩
/-- Taken away, and put there by another name. -/
theorem move_map (h : PAt w base g mb vF E K D) {k : Nat} {x : Ent} (hk : E[k]? = some x) {tn : ByteArray} (hnb : nameB tn = true) (htn : tn.size ≤ maxLen) (hne : x.f.name ≠ tn) (hm : D.l.length ≤ 400) (hd : PAt w1 base g mb vF (dropE E k) K { D with l := dropS D.l k }) (ht : Touch [mb] w w1) :
    ∃ w', (Instr.mapUpdate 56 (.map (some mb)) (.string tn) (ptr x.b)).run Try.prog w1 = .ok () w' ∧ PAt w' base g mb vF (layE (clearE (dropE E k) tn) (namedE x tn)) K { D with l := renameL D.l k tn } ∧ Touch [mb] w1 w' := by
  have hx := List.mem_of_getElem? hk
  have hnames := clearE_names (n := tn) hd.unlike
  obtain ⟨w', hr, hmm, ht2⟩ := hd.map.store hd.nodup (by
    have h1 : (dropE E k).length ≤ E.length := dropE_sub.length_le
    rw [List.length_map]
    have := h.lenE
    omega) htn (b := x.b) (L' := (layE (clearE (dropE E k) tn) (namedE x tn)).map Ent.nb) (List.mem_map.2 ⟨namedE x tn, layE_perm.mem_iff.2 (by simp), rfl⟩)
    (fun y hy => by
      obtain ⟨z, hz, rfl⟩ := List.mem_map.1 hy
      rcases List.mem_cons.1 (layE_perm.mem_iff.1 hz) with rfl | hz
      · exact Or.inl rfl
      · exact Or.inr ⟨List.mem_map.2 ⟨z, clearE_sub.subset hz, rfl⟩, hnames z hz⟩)
    (fun y hy hyn => by
      obtain ⟨z, hz, rfl⟩ := List.mem_map.1 hy
      exact List.mem_map.2 ⟨z, layE_perm.mem_iff.2 (by simp [clearE_mem hz hyn]), rfl⟩)
  have hfk : D.l[k]? = some x.f := by rw [h.lst, List.getElem?_map, hk]; rfl
  have hfe : (namedE x tn).f = { x.f with name := tn } := rfl
  have hap : (namedE x tn :: clearE (dropE E k) tn).Pairwise apartE := by
    obtain ⟨p1, p2⟩ := List.pairwise_cons.1 (dropE_apart hk h.apart)
    exact List.pairwise_cons.2 ⟨fun y hy => p1 y (clearE_sub.subset hy), List.Pairwise.sublist clearE_sub p2⟩
  have hl : renameL D.l k tn = (layE (clearE (dropE E k) tn) (namedE x tn)).map Ent.f := by
    rw [renameL_at hfk, layE_f, clearE_f, dropE_f, hfe, ← h.lst]
  have hT : Touch [mb] w w' := ht.trans ht2 (fun b hb => Or.inl hb)
  refine ⟨w', hr, h.putMap _ _ hl hmm hT (fun y hy => ?_) (layE_apart hap) ?_ (fun f hf => ?_), ht2⟩
  · rcases List.mem_cons.1 (layE_perm.mem_iff.1 hy) with rfl | hy
    · exact named_at (h.ents x hx)
    · exact h.ents y (dropE_sub.subset (clearE_sub.subset hy))
  · rw [renameL_at hfk]
    refine rise_lay (rise_clear (rise_drop h.rise k) tn) _ (fun f hf => ?_)
    have hf' : f ∈ (clearE (dropE E k) tn).map Ent.f := by rw [clearE_f, dropE_f, ← h.lst]; exact hf
    obtain ⟨z, hz, rfl⟩ := List.mem_map.1 hf'
    exact hnames z hz
  · rw [renameL_at hfk] at hf
    rcases lay_mem hf with hf | rfl
    · exact h.names f (drop_mem (clear_mem hf))
    · exact hnb
set_option maxRecDepth 100000 in
set_option maxHeartbeats 2000000 in
theorem rename_run (h : PAt w base g mb vF E K D) (hok : ProgOk D) (n tn : ByteArray) (hn : n.size ≤ maxLen) (htn : tn.size ≤ maxLen) : Calls Try.prog 23 #[ptr g, .string n, .string tn] w (EndAt ProgAt base g (blocksP g mb E K) w (err (renameS D n tn).1) (renameS D n tn).2) := by
  have HH := Lib.hid h
  cases hd : D.down
  case true =>
    have ho := Lib.hid (open_down h hd n)
    rw [renameS_down hd]
    clear h hok hd
    go_enter Try.func23, Try.ntmps23
    go_wp2_with fail
    refine ho.out.mono ?_
    rintro e w' ⟨rfl, rfl⟩
    go_wp2
    go_ret
    exact end_same HH.out _
  by_cases hf : findS D.l n < D.l.length
  case neg =>
    have ho := Lib.hid (open_no h hd hf hn)
    rw [renameS_none hd hf]
    clear h hok hf hd
    go_enter Try.func23, Try.ntmps23
    go_wp2_with fail
    refine ho.out.mono ?_
    rintro e w' ⟨rfl, rfl⟩
    go_wp2
    go_ret
    exact end_same HH.out _
  obtain ⟨x, hx, hl, hxn⟩ := ent_at h hf
  have ho := Lib.hid (open_yes h hd hx (by rw [hxn]; exact hn))
  rw [hxn] at ho
  have hnm := Lib.hid (isName_run tn w htn)
  cases hnb : nameB tn
  case false =>
    rw [renameS_arg hd hf hnb]
    rw [hnb] at hnm
    clear h hok hd hnb hf hx hl hxn
    go_enter Try.func23, Try.ntmps23
    go_wp2_with fail
    refine ho.out.mono ?_
    rintro e w' ⟨rfl, rfl⟩
    go_wp2_with fail
    refine hnm.out.mono ?_
    rintro e w' ⟨rfl, rfl⟩
    go_wp2
    go_ret
    exact end_same HH.out _
  rw [hnb] at hnm
  rw [renameS_go hd hf hnb, show (if n = tn then D.l else renameL D.l (findS D.l n) tn) = renL D.l (findS D.l n) n tn from rfl]
  generalize findS D.l n = k at *
  cases hg : goesS D
  · have hfl := Lib.hid (fails_sinks h hok hg)
    simp only [Bool.false_eq_true, if_false]
    generalize sinkS D D.keep = D2 at *
    clear h hok hx hl hxn hf hd hg hnb
    go_enter Try.func23, Try.ntmps23
    go_wp2_with fail
    refine ho.out.mono ?_
    rintro e w' ⟨rfl, rfl⟩
    go_wp2_with fail
    refine hnm.out.mono ?_
    rintro e w' ⟨rfl, rfl⟩
    go_wp2_with fail
    refine hfl.out.mono ?_
    rintro e w2 ⟨E', rfl, h1, h2, h3⟩
    have H1 := Lib.hid h1
    have H2 := Lib.hid h2
    have H3 := Lib.hid h3
    clear h1 h2 h3 hfl
    go_wp2
    go_ret
    exact end_sunk H1.out H2.out H3.out _
  · have hfl := Lib.hid (fails_goes h hg)
    simp only [if_true]
    have HX := Lib.hid hx
    have HN := Lib.hid hxn
    have HNB := Lib.hid hnb
    have HMM := Lib.hid hok.many
    have hbx : ∀ b ∈ x.blocks, b ∈ blocksP g mb E K := fun b hb => mem_E (List.mem_of_getElem? hx) hb
    have HBX := Lib.hid hbx
    clear h hok hx hl hxn hf hd hg hnb hbx
    go_enter Try.func23, Try.ntmps23
    go_wp2_with fail
    refine ho.out.mono ?_
    rintro e w' ⟨rfl, rfl⟩
    go_wp2_with fail
    refine hnm.out.mono ?_
    rintro e w' ⟨rfl, rfl⟩
    go_wp2_with fail
    refine hfl.out.mono ?_
    rintro e w2 ⟨rfl, h1, h2⟩
    obtain ⟨w3, hr, h3, h4⟩ := delete_map h1 HX.out
    have hboth : ∃ w4 E4, (Instr.mapUpdate 56 (.map (some mb)) (.string tn) (ptr x.b)).run Try.prog w3 = .ok () w4 ∧ PAt w4 base g mb vF E4 K { nextS D with l := renL D.l k n tn } ∧ Touch [mb] w3 w4 ∧ (∀ y ∈ blocksP g mb E4 K, y ∈ blocksP g mb E K) := by
      by_cases hnt : n = tn
      · obtain ⟨w4, q1, q2, q3⟩ := back_map h1 HX.out HMM.out h3 h4
        refine ⟨w4, E, ?_, by unfold renL; rw [if_pos hnt]; exact q2, q3, fun _ h => h⟩
        rw [← hnt, ← HN.out]
        exact q1
      · obtain ⟨w4, q1, q2, q3⟩ := move_map h1 HX.out HNB.out htn (by rw [HN.out]; exact hnt) HMM.out h3 h4
        refine ⟨w4, _, q1, by unfold renL; rw [if_neg hnt]; exact q2, q3, fun y hy => ?_⟩
        rcases mem_blocks.1 hy with e | e | e | ⟨u, hu, e⟩
        · exact mem_blocks.2 (Or.inl e)
        · exact mem_blocks.2 (Or.inr (Or.inl e))
        · exact mem_K e
        · rcases List.mem_cons.1 (layE_perm.mem_iff.1 hu) with rfl | hu
          · exact HBX.out y e
          · exact mem_E (dropE_sub.subset (clearE_sub.subset hu)) e
    obtain ⟨w4, E4, hr4, h5, h6, h7⟩ := hboth
    rw [HN.out] at hr
    obtain ⟨c0, c1, c2, c3, c4, c5, c6⟩ := h1.cells
    obtain ⟨e0, e1, e2, e3, e4, e5, e6⟩ := h3.cells
    have hT : Touch (blocksP g mb E K) w w4 := ((h2.more (fun b hb => Or.inl (mem_K hb))).trans h4 (fun b hb => Or.inl (by rw [List.mem_singleton.1 hb]; exact mem_mb))).trans h6 (fun b hb => Or.inl (by rw [List.mem_singleton.1 hb]; exact mem_mb))
    have H5 := Lib.hid h5
    have H7 := Lib.hid h7
    have HT := Lib.hid hT
    clear h1 h2 h3 h4 h5 h6 h7 hT hfl c0 c1 c3 c4 c5 c6 e0 e1 e3 e4 e5 e6
    go_wp2
    go_ret
    exact ⟨_, rfl, H5.out.at, fun y hy => Or.inl (H7.out y hy), HT.out⟩
end
end Go.Proofs.Ytfpimebamkmjoaa
