/- DiskRefLayWide, DiskRefLayFull, DiskRefLayNil, DiskRefNames, DiskRefCreate, DiskRefRename, DiskWf, DiskProg, Files -/
import Derived.Test.YtmbhafabphogdaaGreatRk19
import Derived.Deep.CutBlock
import Derived.Test.YtmbhafabphogdaaGreatRk05
import Derived.Test.YtmbhafabphogdaaGreatRk03
/- DiskRefLayWide -/
namespace Go.Proofs.YtmbhafabphogdaaGreat
open Go.RowKit
set_option linter.unusedVariables false

end Go.Proofs.YtmbhafabphogdaaGreat

/- DiskRefLayFull -/
namespace Go.Proofs.YtmbhafabphogdaaGreat
open Go.RowKit
set_option linter.unusedVariables false

end Go.Proofs.YtmbhafabphogdaaGreat

/- DiskRefLayNil -/
namespace Go.Proofs.YtmbhafabphogdaaGreat
open Go.RowKit
set_option linter.unusedVariables false

end Go.Proofs.YtmbhafabphogdaaGreat

/- DiskRefNames -/
namespace Go.Proofs.YtmbhafabphogdaaGreat
open Go.RowKit
set_option linter.unusedVariables false

theorem deleteS_go {D : DiskS} {n : ByteArray} (hd : D.down = false) (hf : findS D.l n < D.l.length) : deleteS D n = if goesS D then (0, { nextS D with l := dropS D.l (findS D.l n) }) else (61, sinkS D D.keep) := by
  unfold deleteS doneS
  rw [if_neg (by rw [hd]; decide), if_pos hf]
  rfl
theorem deleteS_none {D : DiskS} {n : ByteArray} (hd : D.down = false) (hf : ¬ findS D.l n < D.l.length) : deleteS D n = (4, D) := by
  unfold deleteS
  rw [if_neg (by rw [hd]; decide), if_neg hf]
theorem deleteS_down {D : DiskS} {n : ByteArray} (hd : D.down = true) : deleteS D n = (61, D) := by
  unfold deleteS
  rw [if_pos hd]
end Go.Proofs.YtmbhafabphogdaaGreat

/- DiskRefCreate -/
namespace Go.Proofs.YtmbhafabphogdaaGreat
open Go.RowKit
set_option linter.unusedVariables false

theorem createS_down {D : DiskS} {n : ByteArray} (hd : D.down = true) : createS D n = (61, D) := by
  unfold createS
  rw [if_pos hd]
theorem createS_arg {D : DiskS} {n : ByteArray} (hd : D.down = false) (hn : nameB n = false) : createS D n = (2, D) := by
  unfold createS
  rw [if_neg (by rw [hd]; decide), hn, if_pos (by decide)]
theorem createS_have {D : DiskS} {n : ByteArray} (hd : D.down = false) (hn : nameB n = true) (hf : findS D.l n < D.l.length) : createS D n = (62, D) := by
  unfold createS
  rw [if_neg (by rw [hd]; decide), hn, if_neg (by decide), if_pos hf]
theorem createS_full {D : DiskS} {n : ByteArray} (hd : D.down = false) (hn : nameB n = true) (hf : ¬ findS D.l n < D.l.length) (hm : 400 ≤ D.l.length) : createS D n = (60, D) := by
  unfold createS
  rw [if_neg (by rw [hd]; decide), hn, if_neg (by decide), if_neg hf, if_pos hm]
theorem createS_go {D : DiskS} {n : ByteArray} (hd : D.down = false) (hn : nameB n = true) (hf : ¬ findS D.l n < D.l.length) (hm : ¬ 400 ≤ D.l.length) :
    createS D n = if goesS D then (0, { nextS D with l := layS D.l ⟨n, ByteArray.empty, 0⟩ }) else (61, sinkS D D.keep) := by
  unfold createS doneS
  rw [if_neg (by rw [hd]; decide), hn, if_neg (by decide), if_neg hf, if_neg hm]
  rfl

end Go.Proofs.YtmbhafabphogdaaGreat

/- DiskRefRename -/
namespace Go.Proofs.YtmbhafabphogdaaGreat
open Go.RowKit
set_option linter.unusedVariables false

theorem renameS_down {D : DiskS} {n tn : ByteArray} (hd : D.down = true) : renameS D n tn = (61, D) := by
  unfold renameS
  rw [if_pos hd]
theorem renameS_none {D : DiskS} {n tn : ByteArray} (hd : D.down = false) (hf : ¬ findS D.l n < D.l.length) : renameS D n tn = (4, D) := by
  unfold renameS
  rw [if_neg (by rw [hd]; decide), if_neg hf]
theorem renameS_arg {D : DiskS} {n tn : ByteArray} (hd : D.down = false) (hf : findS D.l n < D.l.length) (hn : nameB tn = false) : renameS D n tn = (2, D) := by
  unfold renameS
  rw [if_neg (by rw [hd]; decide), if_pos hf, hn, if_pos (by decide)]
theorem renameS_go {D : DiskS} {n tn : ByteArray} (hd : D.down = false) (hf : findS D.l n < D.l.length) (hn : nameB tn = true) :
    renameS D n tn = if goesS D then (0, { nextS D with l := if n = tn then D.l else renameL D.l (findS D.l n) tn }) else (61, sinkS D D.keep) := by
  unfold renameS doneS
  rw [if_neg (by rw [hd]; decide), if_pos hf, hn, if_neg (by decide)]
  rfl
/-- A file of that name is taken away, if there is one. -/
def clearL (m : List FileS) (tn : ByteArray) : List FileS := if findS m tn < m.length then dropS m (findS m tn) else m
theorem renameL_at {l : List FileS} {i : Nat} {f : FileS} {tn : ByteArray} (h : l[i]? = some f) : renameL l i tn = layS (clearL (dropS l i) tn) { f with name := tn } := by
  unfold renameL
  rw [h]
  rfl
theorem dropS_length {l : List FileS} {i : Nat} (h : i < l.length) : (dropS l i).length + 1 = l.length := by
  unfold dropS
  rw [List.length_append, List.length_take, List.length_drop]
  omega
theorem clearL_length (m : List FileS) (tn : ByteArray) : (clearL m tn).length ≤ m.length := by
  unfold clearL
  split
  · rename_i h
    have := dropS_length h
    omega
  · exact Nat.le_refl _

end Go.Proofs.YtmbhafabphogdaaGreat

/- DiskWf -/
namespace Go.Proofs.YtmbhafabphogdaaGreat
set_option linter.unusedVariables false

structure Wf (D : DiskS) : Prop where
  synced : ∀ f ∈ D.l, f.synced ≤ f.data.size
  used : usedS D.l ≤ D.cap
  cap : D.cap ≤ 1048576
  many : D.l.length ≤ 400
  fails : D.fails ≤ 1099511627777
theorem Wf.ok {D : DiskS} (h : Wf D) : RefOk D := by
  have h1 := h.used
  have h2 := h.cap
  exact ⟨fun f hf => ⟨h.synced f hf, by have := used_mem hf; omega⟩, h.many, by omega, h.cap, h.fails⟩
theorem used_cons (x : FileS) (l : List FileS) : usedS (x :: l) = x.data.size + usedS l := by unfold usedS; simp
theorem used_append (a b : List FileS) : usedS (a ++ b) = usedS a + usedS b := by unfold usedS; rw [List.map_append, List.sum_append]
theorem used_split (l : List FileS) (k : Nat) : usedS l = usedS (l.take k) + usedS (l.drop k) := by rw [← used_append, List.take_append_drop]
theorem used_lay (l : List FileS) (f : FileS) : usedS (layS l f) = usedS l + f.data.size := by
  unfold layS
  have h := used_split l (aheadS l f.name)
  have h1 : usedS [f] = f.data.size := by rw [used_cons]; rfl
  rw [used_append, used_append, h1]
  omega
theorem lay_length (l : List FileS) (f : FileS) : (layS l f).length = l.length + 1 := by
  unfold layS
  have := ahead_le l f.name
  rw [List.length_append, List.length_append, List.length_take, List.length_drop]
  show min _ _ + 1 + _ = _
  omega
theorem lay_mem {l : List FileS} {f x : FileS} (h : x ∈ layS l f) : x ∈ l ∨ x = f := by
  unfold layS at h
  rw [List.mem_append, List.mem_append] at h
  rcases h with (h | h) | h
  · exact Or.inl (List.mem_of_mem_take h)
  · exact Or.inr (by simpa using h)
  · exact Or.inl (List.mem_of_mem_drop h)
theorem drop_mem {l : List FileS} {i : Nat} {x : FileS} (h : x ∈ dropS l i) : x ∈ l := by
  unfold dropS at h
  rw [List.mem_append] at h
  rcases h with h | h
  · exact List.mem_of_mem_take h
  · exact List.mem_of_mem_drop h
theorem used_drop {l : List FileS} {i : Nat} {f : FileS} (h : l[i]? = some f) : usedS (dropS l i) + f.data.size = usedS l := by
  unfold dropS
  have h1 := used_split l i
  have hi := (List.getElem?_eq_some_iff.1 h).1
  have h2 : l.drop i = f :: l.drop (i + 1) := by
    rw [List.drop_eq_getElem_cons hi]
    congr 1
    rw [List.getElem?_eq_getElem hi] at h
    simpa using h
  rw [h2, used_cons] at h1
  rw [used_append]
  omega
theorem clear_mem {l : List FileS} {n : ByteArray} {x : FileS} (h : x ∈ clearL l n) : x ∈ l := by
  unfold clearL at h
  split at h
  · exact drop_mem h
  · exact h
theorem used_clear (l : List FileS) (n : ByteArray) : usedS (clearL l n) ≤ usedS l := by
  unfold clearL
  split
  · rename_i h
    obtain ⟨f, hf⟩ := some_at h
    have := used_drop hf
    omega
  · exact Nat.le_refl _
theorem crashF_le (f : FileS) (k : Int) : (crashF f k).data.size ≤ f.data.size ∧ (f.synced ≤ f.data.size → (crashF f k).synced ≤ (crashF f k).data.size) := by
  refine ⟨?_, fun h => by rw [crashF_size h]; exact Nat.le_refl _⟩
  show (f.data.extract 0 (staysS f k)).size ≤ _
  rw [ByteArray.size_extract]
  omega
theorem used_map_le : ∀ (l m : List FileS), l.length = m.length → (∀ (i : Nat) x y, l[i]? = some x → m[i]? = some y → x.data.size ≤ y.data.size) → usedS l ≤ usedS m
  | [], [], _, _ => Nat.le_refl _
  | x :: l, y :: m, h, hp => by
    rw [used_cons, used_cons]
    have h1 := hp 0 x y rfl rfl
    have h2 := used_map_le l m (by simpa using h) (fun i a b ha hb => hp (i + 1) a b (by simpa using ha) (by simpa using hb))
    omega
  | [], _ :: _, h, _ => by simp at h
  | _ :: _, [], h, _ => by simp at h
theorem crashL_get (l : List FileS) (keep : List Int) (j : Nat) : (crashL l keep)[j]? = (l[j]?).map (fun f => crashF f (keep.getD j 0)) := by unfold crashL; simp
theorem Wf.next {D : DiskS} (h : Wf D) : Wf (nextS D) := ⟨h.synced, h.used, h.cap, h.many, by show D.fails - 1 ≤ _; have := h.fails; omega⟩
theorem Wf.sink {D : DiskS} (h : Wf D) (keep : List Int) : Wf (sinkS D keep) := by
  have hlen : (crashL D.l keep).length = D.l.length := by unfold crashL; simp
  refine ⟨fun f hf => ?_, ?_, h.cap, by show (crashL D.l keep).length ≤ _; rw [hlen]; exact h.many, Nat.zero_le _⟩
  · obtain ⟨j, hj⟩ := List.getElem?_of_mem (show f ∈ crashL D.l keep from hf)
    rw [crashL_get] at hj
    cases hl : D.l[j]? with
    | none => rw [hl] at hj; cases hj
    | some x =>
      rw [hl] at hj
      obtain rfl : crashF x (keep.getD j 0) = f := by simpa using hj
      exact (crashF_le x _).2 (h.synced x (List.mem_of_getElem? hl))
  · refine Nat.le_trans (used_map_le _ _ hlen (fun i x y hx hy => ?_)) h.used
    have hx' : (crashL D.l keep)[i]? = some x := hx
    rw [crashL_get, hy] at hx'
    obtain rfl : crashF y (keep.getD i 0) = x := by simpa using hx'
    exact (crashF_le y _).1
theorem Wf.setF {D : DiskS} (h : Wf D) {k : Nat} {f : FileS} (hk : D.l[k]? = some f) (g : FileS → FileS) (hg : (g f).synced ≤ (g f).data.size) (hu : usedS D.l + (g f).data.size ≤ D.cap + f.data.size) : Wf { D with l := setF D.l k g } := by
  have hz := used_setF D.l k f g hk
  refine ⟨fun x hx => ?_, by show usedS (Go.Proofs.YtmbhafabphogdaaGreat.setF D.l k g) ≤ D.cap; omega, h.cap, by show (Go.Proofs.YtmbhafabphogdaaGreat.setF D.l k g).length ≤ _; rw [setF_length]; exact h.many, h.fails⟩
  rcases mem_setF hx with hx | ⟨f', hf', rfl⟩
  · exact h.synced x hx
  · rw [hk] at hf'
    obtain rfl : f = f' := by simpa using hf'
    exact hg
theorem Wf.done {D E : DiskS} (h : Wf D) (hE : Wf E) : Wf (doneS D E).2 := by
  unfold doneS
  split
  · exact ⟨hE.synced, hE.used, hE.cap, hE.many, by show D.fails - 1 ≤ _; have := h.fails; omega⟩
  · exact h.sink _

theorem wf_new {c : Nat} (hc : c ≤ 1048576) : Wf (newS c) := ⟨fun f hf => (by cases hf), Nat.zero_le _, hc, Nat.zero_le _, Nat.zero_le _⟩
section
variable {D : DiskS} (h : Wf D)
include h
theorem wf_create (n : ByteArray) : Wf (createS D n).2 := by
  unfold createS
  split
  · exact h
  · split
    · exact h
    · split
      · exact h
      · split
        · exact h
        · rename_i hm
          refine h.done ⟨fun f hf => ?_, ?_, h.cap, ?_, h.fails⟩
          · rcases lay_mem hf with hf | rfl
            · exact h.synced f hf
            · exact Nat.zero_le _
          · show usedS (layS _ _) ≤ _
            rw [used_lay]
            exact h.used
          · show (layS _ _).length ≤ _
            rw [lay_length]
            omega
theorem wf_append (n s : ByteArray) : Wf (appendS D n s).2 := by
  unfold appendS
  split
  · exact h
  · split
    · rename_i hf
      split
      · exact h
      · rename_i hu
        obtain ⟨f, hk, _⟩ := find_at hf
        have hE : Wf (appE D n s) := h.setF hk _ (by show f.synced ≤ (f.data ++ s).size; have := h.synced f (List.mem_of_getElem? hk); rw [ByteArray.size_append]; omega) (by show usedS D.l + (f.data ++ s).size ≤ _; rw [ByteArray.size_append]; omega)
        split
        · exact hE.next
        · exact hE.sink _
    · exact h
theorem wf_read (n : ByteArray) (a k : Int) : Wf (readS D n a k).2.2 := by
  have hE : Wf { D with count := D.count + 1 } := ⟨h.synced, h.used, h.cap, h.many, h.fails⟩
  unfold readS
  split
  · exact h
  · dsimp only
    split
    · exact hE
    · split <;> exact hE
theorem wf_sync (n : ByteArray) : Wf (syncS D n).2 := by
  unfold syncS
  split
  · exact h
  · split
    · rename_i hf
      obtain ⟨f, hk, _⟩ := find_at hf
      exact h.done (h.setF hk _ (Nat.le_refl _) (by have := h.used; show usedS D.l + f.data.size ≤ _; omega))
    · exact h
theorem wf_rename (n m : ByteArray) : Wf (renameS D n m).2 := by
  unfold renameS
  split
  · exact h
  · split
    · rename_i hf
      split
      · exact h
      · obtain ⟨f, hk, _⟩ := find_at hf
        refine h.done ?_
        by_cases e : n = m
        · rw [if_pos e]; exact h
        · rw [if_neg e, renameL_at hk]
          have hu := used_drop hk
          have hc := used_clear (dropS D.l (findS D.l n)) m
          have hl := dropS_length hf
          have hcl := clearL_length (dropS D.l (findS D.l n)) m
          have hcap := h.used
          have hmany := h.many
          refine ⟨fun x hx => ?_, ?_, h.cap, ?_, h.fails⟩
          · rcases lay_mem hx with hx | rfl
            · exact h.synced x (drop_mem (clear_mem hx))
            · exact h.synced f (List.mem_of_getElem? hk)
          · show usedS (layS _ _) ≤ _
            rw [used_lay]
            show _ + f.data.size ≤ D.cap
            omega
          · show (layS _ _).length ≤ _
            rw [lay_length]
            omega
    · exact h
theorem wf_delete (n : ByteArray) : Wf (deleteS D n).2 := by
  unfold deleteS
  split
  · exact h
  · split
    · rename_i hf
      obtain ⟨f, hk, _⟩ := find_at hf
      have hu := used_drop hk
      have hl := dropS_length hf
      have hcap := h.used
      have hmany := h.many
      exact h.done ⟨fun x hx => h.synced x (drop_mem hx), by show usedS (dropS _ _) ≤ D.cap; omega, h.cap, by show (dropS _ _).length ≤ _; omega, h.fails⟩
    · exact h
theorem wf_crash (keep : List Int) : Wf (crashS D keep).2 := by
  unfold crashS
  split
  · exact h
  · exact h.sink _
theorem wf_start : Wf (startS D).2 := by
  unfold startS
  split
  · exact ⟨h.synced, h.used, h.cap, h.many, h.fails⟩
  · exact h
theorem wf_fail (n : Int) (keep : List Int) : Wf (failS D n keep).2 := by
  unfold failS
  split
  · exact h
  · split
    · exact h
    · exact ⟨h.synced, h.used, h.cap, h.many, by show min _ _ + 1 ≤ _; omega⟩
theorem wf_spoil (n : ByteArray) (a : Int) (s : ByteArray) : Wf (spoilS D n a s).2 := by
  unfold spoilS
  split
  · rename_i hf
    split
    · exact h
    · obtain ⟨f, hk, _⟩ := find_at hf
      have hz : (overS f.data s a.toNat).size = f.data.size := by
        show (overK f.data s a.toNat s.size).toArray.size = _
        rw [List.size_toArray, overK_length]
      exact h.setF hk _ (by show f.synced ≤ (overS f.data s a.toNat).size; rw [hz]; exact h.synced f (List.mem_of_getElem? hk)) (by show usedS D.l + (overS f.data s a.toNat).size ≤ _; rw [hz]; have := h.used; omega)
  · exact h
theorem wf_cut (n : ByteArray) (k : Int) : Wf (cutS D n k).2 := by
  unfold cutS
  split
  · rename_i hf
    split
    · exact h
    · obtain ⟨f, hk, _⟩ := find_at hf
      have hz : (f.data.extract 0 (min k.toNat f.data.size)).size = min k.toNat f.data.size := by rw [ByteArray.size_extract]; omega
      exact h.setF hk _ (by show min f.synced (min k.toNat f.data.size) ≤ (f.data.extract 0 (min k.toNat f.data.size)).size; rw [hz]; omega) (by show usedS D.l + (f.data.extract 0 (min k.toNat f.data.size)).size ≤ _; rw [hz]; have := h.used; omega)
  · exact h
end
end Go.Proofs.YtmbhafabphogdaaGreat

/- DiskProg -/
namespace Go.Proofs.YtmbhafabphogdaaGreat
set_option linter.unusedVariables false

structure WfP (D : DiskS) : Prop where
  synced : ∀ f ∈ D.l, f.synced ≤ f.data.size
  used : usedS D.l ≤ D.cap
  cap : D.cap ≤ 1048576
  many : D.l.length ≤ 400
theorem WfP.ok {D : DiskS} (h : WfP D) : ProgOk D := by
  have h1 := h.used
  have h2 := h.cap
  exact ⟨fun f hf => ⟨h.synced f hf, by have := used_mem hf; omega⟩, h.many, by omega, h.cap⟩
theorem WfP.next {D : DiskS} (h : WfP D) : WfP (nextS D) := ⟨h.synced, h.used, h.cap, h.many⟩
theorem WfP.sink {D : DiskS} (h : WfP D) (keep : List Int) : WfP (sinkS D keep) := by
  have hlen : (crashL D.l keep).length = D.l.length := by unfold crashL; simp
  refine ⟨fun f hf => ?_, ?_, h.cap, by show (crashL D.l keep).length ≤ _; rw [hlen]; exact h.many⟩
  · obtain ⟨j, hj⟩ := List.getElem?_of_mem (show f ∈ crashL D.l keep from hf)
    rw [crashL_get] at hj
    cases hl : D.l[j]? with
    | none => rw [hl] at hj; cases hj
    | some x =>
      rw [hl] at hj
      obtain rfl : crashF x (keep.getD j 0) = f := by simpa using hj
      exact (crashF_le x _).2 (h.synced x (List.mem_of_getElem? hl))
  · refine Nat.le_trans (used_map_le _ _ hlen (fun i x y hx hy => ?_)) h.used
    have hx' : (crashL D.l keep)[i]? = some x := hx
    rw [crashL_get, hy] at hx'
    obtain rfl : crashF y (keep.getD i 0) = x := by simpa using hx'
    exact (crashF_le y _).1
theorem WfP.setF {D : DiskS} (h : WfP D) {k : Nat} {f : FileS} (hk : D.l[k]? = some f) (g : FileS → FileS) (hg : (g f).synced ≤ (g f).data.size) (hu : usedS D.l + (g f).data.size ≤ D.cap + f.data.size) : WfP { D with l := setF D.l k g } := by
  have hz := used_setF D.l k f g hk
  refine ⟨fun x hx => ?_, by show usedS (Go.Proofs.YtmbhafabphogdaaGreat.setF D.l k g) ≤ D.cap; omega, h.cap, by show (Go.Proofs.YtmbhafabphogdaaGreat.setF D.l k g).length ≤ _; rw [setF_length]; exact h.many⟩
  rcases mem_setF hx with hx | ⟨f', hf', rfl⟩
  · exact h.synced x hx
  · rw [hk] at hf'
    obtain rfl : f = f' := by simpa using hf'
    exact hg
theorem WfP.done {D E : DiskS} (h : WfP D) (hE : WfP E) : WfP (doneS D E).2 := by
  unfold doneS
  split
  · exact ⟨hE.synced, hE.used, hE.cap, hE.many⟩
  · exact h.sink _

theorem wp_new {c : Nat} (hc : c ≤ 1048576) : WfP (newS c) := ⟨fun f hf => (by cases hf), Nat.zero_le _, hc, Nat.zero_le _⟩
section
variable {D : DiskS} (h : WfP D)
include h
theorem wp_create (n : ByteArray) : WfP (createS D n).2 := by
  unfold createS
  split
  · exact h
  · split
    · exact h
    · split
      · exact h
      · split
        · exact h
        · rename_i hm
          refine h.done ⟨fun f hf => ?_, ?_, h.cap, ?_⟩
          · rcases lay_mem hf with hf | rfl
            · exact h.synced f hf
            · exact Nat.zero_le _
          · show usedS (layS _ _) ≤ _
            rw [used_lay]
            exact h.used
          · show (layS _ _).length ≤ _
            rw [lay_length]
            omega
theorem wp_append (n s : ByteArray) : WfP (appendS D n s).2 := by
  unfold appendS
  split
  · exact h
  · split
    · rename_i hf
      split
      · exact h
      · rename_i hu
        obtain ⟨f, hk, _⟩ := find_at hf
        have hE : WfP (appE D n s) := h.setF hk _ (by show f.synced ≤ (f.data ++ s).size; have := h.synced f (List.mem_of_getElem? hk); rw [ByteArray.size_append]; omega) (by show usedS D.l + (f.data ++ s).size ≤ _; rw [ByteArray.size_append]; omega)
        split
        · exact hE.next
        · exact hE.sink _
    · exact h
theorem wp_read (n : ByteArray) (a k : Int) : WfP (readS D n a k).2.2 := by
  have hE : WfP { D with count := D.count + 1 } := ⟨h.synced, h.used, h.cap, h.many⟩
  unfold readS
  split
  · exact h
  · dsimp only
    split
    · exact hE
    · split <;> exact hE
theorem wp_sync (n : ByteArray) : WfP (syncS D n).2 := by
  unfold syncS
  split
  · exact h
  · split
    · rename_i hf
      obtain ⟨f, hk, _⟩ := find_at hf
      exact h.done (h.setF hk _ (Nat.le_refl _) (by have := h.used; show usedS D.l + f.data.size ≤ _; omega))
    · exact h
theorem wp_rename (n m : ByteArray) : WfP (renameS D n m).2 := by
  unfold renameS
  split
  · exact h
  · split
    · rename_i hf
      split
      · exact h
      · obtain ⟨f, hk, _⟩ := find_at hf
        refine h.done ?_
        by_cases e : n = m
        · rw [if_pos e]; exact h
        · rw [if_neg e, renameL_at hk]
          have hu := used_drop hk
          have hc := used_clear (dropS D.l (findS D.l n)) m
          have hl := dropS_length hf
          have hcl := clearL_length (dropS D.l (findS D.l n)) m
          have hcap := h.used
          have hmany := h.many
          refine ⟨fun x hx => ?_, ?_, h.cap, ?_⟩
          · rcases lay_mem hx with hx | rfl
            · exact h.synced x (drop_mem (clear_mem hx))
            · exact h.synced f (List.mem_of_getElem? hk)
          · show usedS (layS _ _) ≤ _
            rw [used_lay]
            show _ + f.data.size ≤ D.cap
            omega
          · show (layS _ _).length ≤ _
            rw [lay_length]
            omega
    · exact h
theorem wp_delete (n : ByteArray) : WfP (deleteS D n).2 := by
  unfold deleteS
  split
  · exact h
  · split
    · rename_i hf
      obtain ⟨f, hk, _⟩ := find_at hf
      have hu := used_drop hk
      have hl := dropS_length hf
      have hcap := h.used
      have hmany := h.many
      exact h.done ⟨fun x hx => h.synced x (drop_mem hx), by show usedS (dropS _ _) ≤ D.cap; omega, h.cap, by show (dropS _ _).length ≤ _; omega⟩
    · exact h
theorem wp_crash (keep : List Int) : WfP (crashS D keep).2 := by
  unfold crashS
  split
  · exact h
  · exact h.sink _
theorem wp_start : WfP (startS D).2 := by
  unfold startS
  split
  · exact ⟨h.synced, h.used, h.cap, h.many⟩
  · exact h
theorem wp_fail (n : Int) (keep : List Int) : WfP (failS D n keep).2 := by
  unfold failS
  split
  · exact h
  · split
    · exact h
    · exact ⟨h.synced, h.used, h.cap, h.many⟩
theorem wp_spoil (n : ByteArray) (a : Int) (s : ByteArray) : WfP (spoilS D n a s).2 := by
  unfold spoilS
  split
  · rename_i hf
    split
    · exact h
    · obtain ⟨f, hk, _⟩ := find_at hf
      have hz : (overS f.data s a.toNat).size = f.data.size := by
        show (overK f.data s a.toNat s.size).toArray.size = _
        rw [List.size_toArray, overK_length]
      exact h.setF hk _ (by show f.synced ≤ (overS f.data s a.toNat).size; rw [hz]; exact h.synced f (List.mem_of_getElem? hk)) (by show usedS D.l + (overS f.data s a.toNat).size ≤ _; rw [hz]; have := h.used; omega)
  · exact h
theorem wp_cut (n : ByteArray) (k : Int) : WfP (cutS D n k).2 := by
  unfold cutS
  split
  · rename_i hf
    split
    · exact h
    · obtain ⟨f, hk, _⟩ := find_at hf
      have hz : (f.data.extract 0 (min k.toNat f.data.size)).size = min k.toNat f.data.size := by rw [ByteArray.size_extract]; omega
      exact h.setF hk _ (by show min f.synced (min k.toNat f.data.size) ≤ (f.data.extract 0 (min k.toNat f.data.size)).size; rw [hz]; omega) (by show usedS D.l + (f.data.extract 0 (min k.toNat f.data.size)).size ≤ _; rw [hz]; have := h.used; omega)
  · exact h
end
end Go.Proofs.YtmbhafabphogdaaGreat

/- Files -/
namespace Go.Proofs.YtmbhafabphogdaaGreat
set_option linter.unusedVariables false

def fileOf (l : List FileS) (n : ByteArray) : Option FileS := l.find? (fun f => decide (f.name = n))
theorem fileOf_at : ∀ (l : List FileS) (n : ByteArray), l[findS l n]? = fileOf l n
  | [], n => rfl
  | x :: l, n => by
    have ih := fileOf_at l n
    unfold findS fileOf at *
    rw [List.findIdx_cons, List.find?_cons]
    cases h : decide (x.name = n)
    · simpa using ih
    · rfl
theorem fileOf_lt {l : List FileS} {n : ByteArray} : findS l n < l.length ↔ fileOf l n ≠ none := by
  rw [← fileOf_at]
  constructor
  · intro h e
    rw [List.getElem?_eq_getElem h] at e
    cases e
  · intro h
    rcases Nat.lt_or_ge (findS l n) l.length with c | c
    · exact c
    · exact absurd (List.getElem?_eq_none c) h
theorem fileOf_name {l : List FileS} {n : ByteArray} {f : FileS} (h : fileOf l n = some f) : f.name = n := by
  have := List.find?_some h
  simpa using this
theorem fileOf_mem {l : List FileS} {n : ByteArray} {f : FileS} (h : fileOf l n = some f) : f ∈ l := List.mem_of_find?_eq_some h
theorem fileOf_none {l : List FileS} {n : ByteArray} : fileOf l n = none ↔ ∀ f ∈ l, f.name ≠ n := by
  unfold fileOf
  rw [List.find?_eq_none]
  simp
theorem fileOf_setF (h : FileS → FileS) (hh : ∀ f, (h f).name = f.name) (n m : ByteArray) : ∀ l : List FileS, fileOf (setF l (findS l n) h) m = if m = n then (fileOf l n).map h else fileOf l m
  | [] => by
    unfold setF fileOf findS
    simp
  | x :: l => by
    have ih := fileOf_setF h hh n m l
    by_cases e : x.name = n
    · have e1 : findS (x :: l) n = 0 := by unfold findS; rw [List.findIdx_cons]; simp [e]
      rw [e1]
      show fileOf (h x :: l) m = _
      unfold fileOf
      rw [List.find?_cons, List.find?_cons, List.find?_cons, hh, decide_eq_true e]
      by_cases em : m = n
      · rw [if_pos em, em, decide_eq_true e]; rfl
      · rw [if_neg em, decide_eq_false (fun q => em (by rw [← e, q]))]
    · have e1 : findS (x :: l) n = findS l n + 1 := by unfold findS; rw [List.findIdx_cons]; simp [e]
      rw [e1]
      show fileOf (x :: setF l (findS l n) h) m = _
      unfold fileOf at ih ⊢
      rw [List.find?_cons, List.find?_cons, List.find?_cons, decide_eq_false e]
      by_cases em : x.name = m
      · rw [decide_eq_true em]
        by_cases q : m = n
        · exact absurd (em.trans q) e
        · rw [if_neg q]
      · rw [decide_eq_false em]
        exact ih
theorem fileOf_lay {l : List FileS} {f : FileS} (hn : fileOf l f.name = none) (m : ByteArray) : fileOf (layS l f) m = if m = f.name then some f else fileOf l m := by
  have h0 := fileOf_none.1 hn
  unfold layS
  have hsp : l = l.take (aheadS l f.name) ++ l.drop (aheadS l f.name) := (List.take_append_drop _ _).symm
  generalize aheadS l f.name = k at *
  unfold fileOf
  rw [List.find?_append, List.find?_append]
  by_cases e : m = f.name
  · subst e
    rw [if_pos rfl, List.find?_eq_none.2 (fun x hx => by simpa using h0 x (List.mem_of_mem_take hx))]
    simp
  · rw [if_neg e]
    have e2 : [f].find? (fun f => decide (f.name = m)) = none := by simp [Ne.symm e]
    rw [e2]
    conv => rhs; rw [hsp, List.find?_append]
    simp
theorem lay_names {l : List FileS} {f x : FileS} (h : x ∈ layS l f) : x ∈ l ∨ x = f := lay_mem h
theorem setF_names (h : FileS → FileS) (hh : ∀ f, (h f).name = f.name) : ∀ (l : List FileS) (k : Nat), (setF l k h).map FileS.name = l.map FileS.name
  | [], k => by unfold setF; simp
  | x :: l, 0 => by show (h x :: l).map _ = _; simp [hh]
  | x :: l, k + 1 => by
    show (x :: setF l k h).map _ = _
    rw [List.map_cons, List.map_cons, setF_names h hh l k]
theorem used_set_same {l : List FileS} {n : ByteArray} (h : FileS → FileS) (hd : ∀ f, (h f).data.size = f.data.size) : usedS (setF l (findS l n) h) = usedS l := by
  rcases Nat.lt_or_ge (findS l n) l.length with c | c
  · obtain ⟨f, hf⟩ := some_at c
    have := used_setF l _ f h hf
    have := hd f
    omega
  · have e : setF l (findS l n) h = l := by
      unfold setF
      exact List.modify_eq_self c
    rw [e]

/-! What the calls answer, of a disk that is up and does not fail. -/
theorem sizeS_of {D : DiskS} {n : ByteArray} {f : FileS} (hd : D.down = false) (h : fileOf D.l n = some f) : sizeS D n = (f.data.size, 0) := by
  unfold sizeS
  rw [fileOf_at, h, if_neg (by simp [hd])]
theorem readS_of {D : DiskS} {n : ByteArray} {f : FileS} {a k : Nat} (hd : D.down = false) (h : fileOf D.l n = some f) (hk : a + k ≤ f.data.size) : readS D n (a : Nat) (k : Nat) = (f.data.extract a (a + k), 0, { D with count := D.count + 1 }) := by
  unfold readS
  dsimp only
  rw [fileOf_at, h, if_neg (by simp [hd])]
  dsimp only
  rw [if_neg (by omega), Int.toNat_natCast, Int.toNat_natCast]
theorem syncS_of {D : DiskS} {n : ByteArray} {f : FileS} (hd : D.down = false) (hf : D.fails = 0) (h : fileOf D.l n = some f) : syncS D n = (0, { D with l := setF D.l (findS D.l n) (fun f => { f with synced := f.data.size }) }) := by
  unfold syncS doneS goesS
  rw [if_neg (by simp [hd]), if_pos (fileOf_lt.2 (by rw [h]; simp)), hf, if_pos (by decide)]
theorem appendS_of {D : DiskS} {n s : ByteArray} {f : FileS} (hd : D.down = false) (hf : D.fails = 0) (h : fileOf D.l n = some f) (hr : usedS D.l + s.size ≤ D.cap) : appendS D n s = (0, appE D n s) := by
  unfold appendS goesS
  rw [if_neg (by simp [hd]), if_pos (fileOf_lt.2 (by rw [h]; simp)), if_neg (by omega), hf, if_pos (by decide)]
  unfold nextS appE
  simp [hf]
theorem createS_of {D : DiskS} {n : ByteArray} (hd : D.down = false) (hf : D.fails = 0) (hn : nameB n = true) (h : fileOf D.l n = none) (hm : D.l.length < 400) : createS D n = (0, { D with l := layS D.l ⟨n, ByteArray.empty, 0⟩ }) := by
  unfold createS doneS goesS
  rw [if_neg (by simp [hd]), if_neg (by simp [hn]), if_neg (fun q => fileOf_lt.1 q h), if_neg (by omega), hf, if_pos (by decide)]
theorem deleteS_no {D : DiskS} {n : ByteArray} (hd : D.down = false) (h : fileOf D.l n = none) : deleteS D n = (4, D) := by
  unfold deleteS
  rw [if_neg (by simp [hd]), if_neg (fun q => fileOf_lt.1 q h)]
end Go.Proofs.YtmbhafabphogdaaGreat
