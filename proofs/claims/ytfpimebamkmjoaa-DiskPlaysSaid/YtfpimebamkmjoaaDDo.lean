/- Any act with both disks. -/
import Derived.Test.YtfpimebamkmjoaaDTell
import Derived.Test.YtfpimebamkmjoaaDiskDo
namespace Go.Proofs.Ytfpimebamkmjoaa.plays
open Go.RowKit
set_option linter.unusedVariables false

/-- What an act can turn. -/
def Near (D E : DiskS) : Prop := Wf E ∧ E.count ≤ D.count + 1 ∧ E.starts ≤ D.starts + 1
def Nigh (D E : DiskS) : Prop := E.count ≤ D.count + 1 ∧ E.starts ≤ D.starts + 1
theorem nigh_same (D : DiskS) : Nigh D D := ⟨Nat.le_succ _, Nat.le_succ _⟩
theorem nigh_sink {D E : DiskS} (h : Nigh D E) (k : List Int) : Nigh D (sinkS E k) := h
theorem nigh_done {D E : DiskS} (h : Nigh D E) : Nigh D (doneS D E).2 := by
  unfold doneS
  split
  · exact h
  · exact nigh_same D
section
variable {D : DiskS}
theorem nigh_create (n : ByteArray) : Nigh D (createS D n).2 := by
  unfold createS
  repeat' split
  all_goals first | exact nigh_same D | exact nigh_done (nigh_same D)
theorem nigh_append (n s : ByteArray) : Nigh D (appendS D n s).2 := by
  unfold appendS
  repeat' split
  all_goals exact nigh_same D
theorem nigh_read (n : ByteArray) (a k : Int) : Nigh D (readS D n a k).2.2 := by
  unfold readS
  split
  · exact nigh_same D
  · dsimp only
    split
    · exact ⟨Nat.le_refl _, Nat.le_succ _⟩
    · split <;> exact ⟨Nat.le_refl _, Nat.le_succ _⟩
theorem nigh_sync (n : ByteArray) : Nigh D (syncS D n).2 := by
  unfold syncS
  repeat' split
  all_goals first | exact nigh_same D | exact nigh_done (nigh_same D)
theorem nigh_rename (n m : ByteArray) : Nigh D (renameS D n m).2 := by
  unfold renameS
  repeat' split
  all_goals first | exact nigh_same D | exact nigh_done (nigh_same D)
theorem nigh_delete (n : ByteArray) : Nigh D (deleteS D n).2 := by
  unfold deleteS
  repeat' split
  all_goals first | exact nigh_same D | exact nigh_done (nigh_same D)
theorem nigh_crash (k : List Int) : Nigh D (crashS D k).2 := by
  unfold crashS
  repeat' split
  all_goals exact nigh_same D
theorem nigh_start : Nigh D (startS D).2 := by
  unfold startS
  split
  · exact ⟨Nat.le_succ _, Nat.le_refl _⟩
  · exact nigh_same D
theorem nigh_fail (n : Int) (k : List Int) : Nigh D (failS D n k).2 := by
  unfold failS
  repeat' split
  all_goals exact nigh_same D
theorem nigh_spoil (n : ByteArray) (a : Int) (s : ByteArray) : Nigh D (spoilS D n a s).2 := by
  unfold spoilS
  repeat' split
  all_goals exact nigh_same D
theorem nigh_cut (n : ByteArray) (k : Int) : Nigh D (cutS D n k).2 := by
  unfold cutS
  repeat' split
  all_goals exact nigh_same D
end
def DoneEnd (At : Lies) (w0 : World) (g r : Nat) (G : List Nat) (wG : World) (D : DiskS) (e : Ending) (w' : World) : Prop := ∃ E, Near D E ∧ DoEnd At w0 g r G wG E e w'
theorem do_any {At At' : Lies} (api : ApiK At At') {w0 w wG : World} {g r : Nat} {G : List Nat} {D : DiskS} (x : ActS) (hok : ActOk w x) (hP : Pair At w0 g r G wG D D w) (hw : Wf D) (hx : x.text.size ≤ 3000) (hct : D.count ≤ 1099511627776) (hst : D.starts ≤ 1099511627776)
    (hkl : x.keep.length ≤ 100) (hka : IntsAt wG x.keepV x.keep) (hkg : ∀ b, x.keepV.ownBlock = some b → b ∈ G) :
    Calls Try.prog 12 #[actAgg x, ptr g, ptr r] w (DoneEnd At' w0 g r G wG D) := by
  have hk : x.kind % 15 < 15 := Nat.mod_lt _ (by decide)
  have hc : x.kind % 15 = 0 ∨ x.kind % 15 = 1 ∨ x.kind % 15 = 2 ∨ x.kind % 15 = 3 ∨ x.kind % 15 = 4 ∨ x.kind % 15 = 5 ∨ x.kind % 15 = 6 ∨ x.kind % 15 = 7 ∨ x.kind % 15 = 8 ∨ x.kind % 15 = 9 ∨ x.kind % 15 = 10 ∨ x.kind % 15 = 11 ∨ x.kind % 15 = 12 ∨ x.kind % 15 = 13 ∨ x.kind % 15 = 14 := by omega
  rcases hc with h | h | h | h | h | h | h | h | h | h | h | h | h | h | h
  · exact (do_create api x h hok hP hw).mono fun e w' he => ⟨_, ⟨wf_create hw _, nigh_create _⟩, he⟩
  · exact (do_append1 api x h hok hP hw hx).mono fun e w' he => ⟨_, ⟨wf_append hw _ _, nigh_append _ _⟩, he⟩
  · exact (do_append2 api x h hok hP hw hx).mono fun e w' he => ⟨_, ⟨wf_append hw _ _, nigh_append _ _⟩, he⟩
  · exact (do_append3 api x h hok hP hw hx).mono fun e w' he => ⟨_, ⟨wf_append hw _ _, nigh_append _ _⟩, he⟩
  · exact (do_read api x h hok hP hw hct hst).mono fun e w' he => ⟨_, ⟨wf_read hw _ _ _, nigh_read _ _ _⟩, he⟩
  · exact (do_sync5 api x h hok hP hw hx).mono fun e w' he => ⟨_, ⟨wf_sync hw _, nigh_sync _⟩, he⟩
  · exact (do_sync6 api x h hok hP hw hx).mono fun e w' he => ⟨_, ⟨wf_sync hw _, nigh_sync _⟩, he⟩
  · exact (do_rename api x h hok hP hw hx).mono fun e w' he => ⟨_, ⟨wf_rename hw _ _, nigh_rename _ _⟩, he⟩
  · exact (do_delete api x h hok hP hw hx).mono fun e w' he => ⟨_, ⟨wf_delete hw _, nigh_delete _⟩, he⟩
  · exact (do_size api x h hok hP hw hct hst).mono fun e w' he => ⟨_, ⟨hw, nigh_same _⟩, he⟩
  · exact (do_crash api x h hok hP hw hkl hka hkg).mono fun e w' he => ⟨_, ⟨wf_crash hw _, nigh_crash _⟩, he⟩
  · exact (do_start api x h hok hP hw hct hst).mono fun e w' he => ⟨_, ⟨wf_start hw, nigh_start⟩, he⟩
  · exact (do_fail api x h hok hP hw hkl hka hkg).mono fun e w' he => ⟨_, ⟨wf_fail hw _ _, nigh_fail _ _⟩, he⟩
  · exact (do_spoil api x h hok hP hw hx).mono fun e w' he => ⟨_, ⟨wf_spoil hw _ _ _, nigh_spoil _ _ _⟩, he⟩
  · exact (do_cut api x h hok hP hw hx).mono fun e w' he => ⟨_, ⟨wf_cut hw _ _, nigh_cut _ _⟩, he⟩
end Go.Proofs.Ytfpimebamkmjoaa.plays
