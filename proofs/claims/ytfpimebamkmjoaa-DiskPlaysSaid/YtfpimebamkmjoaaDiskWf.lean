/- What holds of a disk always, call by call. No program. -/
import Derived.Test.YtfpimebamkmjoaaDiskRefRename
import Derived.Test.YtfpimebamkmjoaaDiskRefSpoil
import Derived.Test.YtfpimebamkmjoaaDiskRefNew
namespace Go.Proofs.Ytfpimebamkmjoaa
set_option linter.unusedVariables false

structure Wf (D : DiskS) : Prop where
  synced : ∀ f ∈ D.l, f.synced ≤ f.data.size
  used : usedS D.l ≤ D.cap
  cap : D.cap ≤ 1048576
  many : D.l.length ≤ 400
  fails : D.fails ≤ 1099511627777
theorem Wf.ok {D : DiskS} (h : Wf D) : RefOk D := by
  have h1 := h.used
  have h2 := h.cap
  exact ⟨fun f hf => ⟨h.synced f hf, by have := used_mem hf; omega⟩, h.many, by omega, h.cap, h.fails⟩
theorem used_cons (x : FileS) (l : List FileS) : usedS (x :: l) = x.data.size + usedS l := by unfold usedS; simp
theorem used_append (a b : List FileS) : usedS (a ++ b) = usedS a + usedS b := by unfold usedS; rw [List.map_append, List.sum_append]
theorem used_split (l : List FileS) (k : Nat) : usedS l = usedS (l.take k) + usedS (l.drop k) := by rw [← used_append, List.take_append_drop]
theorem used_lay (l : List FileS) (f : FileS) : usedS (layS l f) = usedS l + f.data.size := by
  unfold layS
  have h := used_split l (aheadS l f.name)
  have h1 : usedS [f] = f.data.size := by rw [used_cons]; rfl
  rw [used_append, used_append, h1]
  omega
theorem lay_length (l : List FileS) (f : FileS) : (layS l f).length = l.length + 1 := by
  unfold layS
  have := ahead_le l f.name
  rw [List.length_append, List.length_append, List.length_take, List.length_drop]
  show min _ _ + 1 + _ = _
  omega
theorem lay_mem {l : List FileS} {f x : FileS} (h : x ∈ layS l f) : x ∈ l ∨ x = f := by
  unfold layS at h
  rw [List.mem_append, List.mem_append] at h
  rcases h with (h | h) | h
  · exact Or.inl (List.mem_of_mem_take h)
  · exact Or.inr (by simpa using h)
  · exact Or.inl (List.mem_of_mem_drop h)
theorem drop_mem {l : List FileS} {i : Nat} {x : FileS} (h : x ∈ dropS l i) : x ∈ l := by
  unfold dropS at h
  rw [List.mem_append] at h
  rcases h with h | h
  · exact List.mem_of_mem_take h
  · exact List.mem_of_mem_drop h
theorem used_drop {l : List FileS} {i : Nat} {f : FileS} (h : l[i]? = some f) : usedS (dropS l i) + f.data.size = usedS l := by
  unfold dropS
  have h1 := used_split l i
  have hi := (List.getElem?_eq_some_iff.1 h).1
  have h2 : l.drop i = f :: l.drop (i + 1) := by
    rw [List.drop_eq_getElem_cons hi]
    congr 1
    rw [List.getElem?_eq_getElem hi] at h
    simpa using h
  rw [h2, used_cons] at h1
  rw [used_append]
  omega
theorem clear_mem {l : List FileS} {n : ByteArray} {x : FileS} (h : x ∈ clearL l n) : x ∈ l := by
  unfold clearL at h
  split at h
  · exact drop_mem h
  · exact h
theorem used_clear (l : List FileS) (n : ByteArray) : usedS (clearL l n) ≤ usedS l := by
  unfold clearL
  split
  · rename_i h
    obtain ⟨f, hf⟩ := some_at h
    have := used_drop hf
    omega
  · exact Nat.le_refl _
theorem crashF_le (f : FileS) (k : Int) : (crashF f k).data.size ≤ f.data.size ∧ (f.synced ≤ f.data.size → (crashF f k).synced ≤ (crashF f k).data.size) := by
  refine ⟨?_, fun h => by rw [crashF_size h]; exact Nat.le_refl _⟩
  show (f.data.extract 0 (staysS f k)).size ≤ _
  rw [ByteArray.size_extract]
  omega
theorem used_map_le : ∀ (l m : List FileS), l.length = m.length → (∀ (i : Nat) x y, l[i]? = some x → m[i]? = some y → x.data.size ≤ y.data.size) → usedS l ≤ usedS m
  | [], [], _, _ => Nat.le_refl _
  | x :: l, y :: m, h, hp => by
    rw [used_cons, used_cons]
    have h1 := hp 0 x y rfl rfl
    have h2 := used_map_le l m (by simpa using h) (fun i a b ha hb => hp (i + 1) a b (by simpa using ha) (by simpa using hb))
    omega
  | [], _ :: _, h, _ => by simp at h
  | _ :: _, [], h, _ => by simp at h
theorem crashL_get (l : List FileS) (keep : List Int) (j : Nat) : (crashL l keep)[j]? = (l[j]?).map (fun f => crashF f (keep.getD j 0)) := by unfold crashL; simp
theorem Wf.next {D : DiskS} (h : Wf D) : Wf (nextS D) := ⟨h.synced, h.used, h.cap, h.many, by show D.fails - 1 ≤ _; have := h.fails; omega⟩
theorem Wf.sink {D : DiskS} (h : Wf D) (keep : List Int) : Wf (sinkS D keep) := by
  have hlen : (crashL D.l keep).length = D.l.length := by unfold crashL; simp
  refine ⟨fun f hf => ?_, ?_, h.cap, by show (crashL D.l keep).length ≤ _; rw [hlen]; exact h.many, Nat.zero_le _⟩
  · obtain ⟨j, hj⟩ := List.getElem?_of_mem (show f ∈ crashL D.l keep from hf)
    rw [crashL_get] at hj
    cases hl : D.l[j]? with
    | none => rw [hl] at hj; cases hj
    | some x =>
      rw [hl] at hj
      obtain rfl : crashF x (keep.getD j 0) = f := by simpa using hj
      exact (crashF_le x _).2 (h.synced x (List.mem_of_getElem? hl))
  · refine Nat.le_trans (used_map_le _ _ hlen (fun i x y hx hy => ?_)) h.used
    have hx' : (crashL D.l keep)[i]? = some x := hx
    rw [crashL_get, hy] at hx'
    obtain rfl : crashF y (keep.getD i 0) = x := by simpa using hx'
    exact (crashF_le y _).1
theorem Wf.setF {D : DiskS} (h : Wf D) {k : Nat} {f : FileS} (hk : D.l[k]? = some f) (g : FileS → FileS) (hg : (g f).synced ≤ (g f).data.size) (hu : usedS D.l + (g f).data.size ≤ D.cap + f.data.size) : Wf { D with l := setF D.l k g } := by
  have hz := used_setF D.l k f g hk
  refine ⟨fun x hx => ?_, by show usedS (Go.Proofs.Ytfpimebamkmjoaa.setF D.l k g) ≤ D.cap; omega, h.cap, by show (Go.Proofs.Ytfpimebamkmjoaa.setF D.l k g).length ≤ _; rw [setF_length]; exact h.many, h.fails⟩
  rcases mem_setF hx with hx | ⟨f', hf', rfl⟩
  · exact h.synced x hx
  · rw [hk] at hf'
    obtain rfl : f = f' := by simpa using hf'
    exact hg
theorem Wf.done {D E : DiskS} (h : Wf D) (hE : Wf E) : Wf (doneS D E).2 := by
  unfold doneS
  split
  · exact ⟨hE.synced, hE.used, hE.cap, hE.many, by show D.fails - 1 ≤ _; have := h.fails; omega⟩
  · exact h.sink _

theorem wf_new {c : Nat} (hc : c ≤ 1048576) : Wf (newS c) := ⟨fun f hf => (by cases hf), Nat.zero_le _, hc, Nat.zero_le _, Nat.zero_le _⟩
section
variable {D : DiskS} (h : Wf D)
include h
theorem wf_create (n : ByteArray) : Wf (createS D n).2 := by
  unfold createS
  split
  · exact h
  · split
    · exact h
    · split
      · exact h
      · split
        · exact h
        · rename_i hm
          refine h.done ⟨fun f hf => ?_, ?_, h.cap, ?_, h.fails⟩
          · rcases lay_mem hf with hf | rfl
            · exact h.synced f hf
            · exact Nat.zero_le _
          · show usedS (layS _ _) ≤ _
            rw [used_lay]
            exact h.used
          · show (layS _ _).length ≤ _
            rw [lay_length]
            omega
theorem wf_append (n s : ByteArray) : Wf (appendS D n s).2 := by
  unfold appendS
  split
  · exact h
  · split
    · rename_i hf
      split
      · exact h
      · rename_i hu
        obtain ⟨f, hk, _⟩ := find_at hf
        have hE : Wf (appE D n s) := h.setF hk _ (by show f.synced ≤ (f.data ++ s).size; have := h.synced f (List.mem_of_getElem? hk); rw [ByteArray.size_append]; omega) (by show usedS D.l + (f.data ++ s).size ≤ _; rw [ByteArray.size_append]; omega)
        split
        · exact hE.next
        · exact hE.sink _
    · exact h
theorem wf_read (n : ByteArray) (a k : Int) : Wf (readS D n a k).2.2 := by
  have hE : Wf { D with count := D.count + 1 } := ⟨h.synced, h.used, h.cap, h.many, h.fails⟩
  unfold readS
  split
  · exact h
  · dsimp only
    split
    · exact hE
    · split <;> exact hE
theorem wf_sync (n : ByteArray) : Wf (syncS D n).2 := by
  unfold syncS
  split
  · exact h
  · split
    · rename_i hf
      obtain ⟨f, hk, _⟩ := find_at hf
      exact h.done (h.setF hk _ (Nat.le_refl _) (by have := h.used; show usedS D.l + f.data.size ≤ _; omega))
    · exact h
theorem wf_rename (n m : ByteArray) : Wf (renameS D n m).2 := by
  unfold renameS
  split
  · exact h
  · split
    · rename_i hf
      split
      · exact h
      · obtain ⟨f, hk, _⟩ := find_at hf
        refine h.done ?_
        by_cases e : n = m
        · rw [if_pos e]; exact h
        · rw [if_neg e, renameL_at hk]
          have hu := used_drop hk
          have hc := used_clear (dropS D.l (findS D.l n)) m
          have hl := dropS_length hf
          have hcl := clearL_length (dropS D.l (findS D.l n)) m
          have hcap := h.used
          have hmany := h.many
          refine ⟨fun x hx => ?_, ?_, h.cap, ?_, h.fails⟩
          · rcases lay_mem hx with hx | rfl
            · exact h.synced x (drop_mem (clear_mem hx))
            · exact h.synced f (List.mem_of_getElem? hk)
          · show usedS (layS _ _) ≤ _
            rw [used_lay]
            show _ + f.data.size ≤ D.cap
            omega
          · show (layS _ _).length ≤ _
            rw [lay_length]
            omega
    · exact h
theorem wf_delete (n : ByteArray) : Wf (deleteS D n).2 := by
  unfold deleteS
  split
  · exact h
  · split
    · rename_i hf
      obtain ⟨f, hk, _⟩ := find_at hf
      have hu := used_drop hk
      have hl := dropS_length hf
      have hcap := h.used
      have hmany := h.many
      exact h.done ⟨fun x hx => h.synced x (drop_mem hx), by show usedS (dropS _ _) ≤ D.cap; omega, h.cap, by show (dropS _ _).length ≤ _; omega, h.fails⟩
    · exact h
theorem wf_crash (keep : List Int) : Wf (crashS D keep).2 := by
  unfold crashS
  split
  · exact h
  · exact h.sink _
theorem wf_start : Wf (startS D).2 := by
  unfold startS
  split
  · exact ⟨h.synced, h.used, h.cap, h.many, h.fails⟩
  · exact h
theorem wf_fail (n : Int) (keep : List Int) : Wf (failS D n keep).2 := by
  unfold failS
  split
  · exact h
  · split
    · exact h
    · exact ⟨h.synced, h.used, h.cap, h.many, by show min _ _ + 1 ≤ _; omega⟩
theorem wf_spoil (n : ByteArray) (a : Int) (s : ByteArray) : Wf (spoilS D n a s).2 := by
  unfold spoilS
  split
  · rename_i hf
    split
    · exact h
    · obtain ⟨f, hk, _⟩ := find_at hf
      have hz : (overS f.data s a.toNat).size = f.data.size := by
        show (overK f.data s a.toNat s.size).toArray.size = _
        rw [List.size_toArray, overK_length]
      exact h.setF hk _ (by show f.synced ≤ (overS f.data s a.toNat).size; rw [hz]; exact h.synced f (List.mem_of_getElem? hk)) (by show usedS D.l + (overS f.data s a.toNat).size ≤ _; rw [hz]; have := h.used; omega)
  · exact h
theorem wf_cut (n : ByteArray) (k : Int) : Wf (cutS D n k).2 := by
  unfold cutS
  split
  · rename_i hf
    split
    · exact h
    · obtain ⟨f, hk, _⟩ := find_at hf
      have hz : (f.data.extract 0 (min k.toNat f.data.size)).size = min k.toNat f.data.size := by rw [ByteArray.size_extract]; omega
      exact h.setF hk _ (by show min f.synced (min k.toNat f.data.size) ≤ (f.data.extract 0 (min k.toNat f.data.size)).size; rw [hz]; omega) (by show usedS D.l + (f.data.extract 0 (min k.toNat f.data.size)).size ≤ _; rw [hz]; have := h.used; omega)
  · exact h
end
end Go.Proofs.Ytfpimebamkmjoaa
