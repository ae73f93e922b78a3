/- ImMath, ImCrash, ImOrphPlain, ImFiles -/
import Derived.Test.YtbhgngimebecdaaGreatPk17
import Derived.Test.YtbhgngimebecdaaGreatPk05
import Derived.Test.YtbhgngimebecdaaGreatPk06
/- ImMath -/
namespace Go.Proofs.YtbhgngimebecdaaGreat
set_option linter.unusedVariables false

def mapN : ByteArray := ⟨#[109, 97, 112]⟩
def newN : ByteArray := ⟨#[110, 101, 119]⟩
theorem map_new : mapN ≠ newN := by decide +kernel
theorem map_name : nameB mapN = true := by decide +kernel
theorem new_name : nameB newN = true := by decide +kernel
theorem map_less : lessB mapN newN = true := by decide +kernel
/-- What Load tells. -/
noncomputable def loadE (D : DiskS) : Int := if (rdW D mapN).2.1 ≠ 0 then ((rdW D mapN).2.1 : Nat) else mgE (rdW D mapN).1
noncomputable def loadM (D : DiskS) : ManS := if (rdW D mapN).2.1 ≠ 0 then zeroM else mgM (rdW D mapN).1
def loadD (D : DiskS) : DiskS := (rdW D mapN).2.2
/-- What Swap makes of a disk. -/
def swapP (D : DiskS) (m : ManS) : Nat × DiskS :=
  if ¬ MayM m then (2, D)
  else if D.down = true then (61, D)
  else if (deleteS D newN).1 ≠ 0 ∧ (deleteS D newN).1 ≠ 4 then deleteS D newN
  else if ((deleteS D newN).2.cap : Int) - (usedS (deleteS D newN).2.l : Nat) - ((mfB m).size : Nat) < 6000 then (60, (deleteS D newN).2)
  else if (layP (deleteS D newN).2 newN (mfB m)).1 ≠ 0 then layP (deleteS D newN).2 newN (mfB m)
  else renameS (layP (deleteS D newN).2 newN (mfB m)).2 newN mapN
theorem wp_swap {D : DiskS} (ok : WfP D) (m : ManS) : WfP (swapP D m).2 := by
  unfold swapP
  have o1 := wp_delete ok newN
  have o2 := wp_lay o1 newN (mfB m)
  split
  · exact ok
  · split
    · exact ok
    · split
      · exact o1
      · split
        · exact o1
        · split
          · exact o2
          · exact wp_rename o2 _ _

/-- A disk that has this manifest's file, or none. -/
def oldL : Option ByteArray → List FileS
  | none => []
  | some a => [⟨mapN, a, a.size⟩]
theorem old_new (o : Option ByteArray) : findS (oldL o) newN = (oldL o).length := by
  cases o with
  | none => rfl
  | some a => unfold findS oldL; rw [List.findIdx_cons, decide_eq_false map_new]; rfl
theorem new_at (o : Option ByteArray) (f : FileS) (h : f.name = newN) : findS (oldL o ++ [f]) newN = (oldL o).length := by
  cases o with
  | none => unfold findS oldL; rw [List.nil_append, List.findIdx_cons, decide_eq_true h]; rfl
  | some a => unfold findS oldL; rw [List.cons_append, List.findIdx_cons, decide_eq_false map_new, List.nil_append, List.findIdx_cons, decide_eq_true h]; rfl
theorem lay_new (o : Option ByteArray) (s : ByteArray) (x : Nat) : layS (oldL o) ⟨newN, s, x⟩ = oldL o ++ [⟨newN, s, x⟩] := by
  have e : aheadS (oldL o) newN = (oldL o).length := by
    cases o with
    | none => rfl
    | some a => unfold aheadS oldL; rw [List.findIdx_cons, map_less]; rfl
  unfold layS
  rw [e, List.take_length, List.drop_length, List.append_nil]
theorem set_new (o : Option ByteArray) (f : FileS) (h : FileS → FileS) : setF (oldL o ++ [f]) (oldL o).length h = oldL o ++ [h f] := by
  cases o with
  | none => rfl
  | some a => rfl
theorem rename_new (o : Option ByteArray) (s : ByteArray) (x : Nat) : renameL (oldL o ++ [⟨newN, s, x⟩]) (oldL o).length mapN = [⟨mapN, s, x⟩] := by
  cases o with
  | none => rfl
  | some a =>
    unfold renameL oldL dropS layS findS aheadS
    have e : (List.findIdx (fun f : FileS => decide (f.name = mapN)) [⟨mapN, a, a.size⟩]) = 0 := by rw [List.findIdx_cons, decide_eq_true rfl]; rfl
    simp [e]
theorem crash_sure {f : FileS} (h : f.synced = f.data.size) (k : Int) : crashF f k = f := by
  unfold crashF staysS
  rw [h, Nat.sub_self, Nat.min_zero, Nat.add_zero]
  cases f with
  | mk n d s =>
    simp only at h
    subst h
    congr 1
    apply ByteArray.ext
    rw [ByteArray.data_extract]
    exact Array.extract_size
theorem crash_old (o : Option ByteArray) (keep : List Int) : crashL (oldL o) keep = oldL o := by
  cases o with
  | none => rfl
  | some a =>
    unfold crashL oldL
    rw [List.mapIdx_cons, crash_sure rfl]
    rfl
theorem crash_new (o : Option ByteArray) (f : FileS) (h : f.name = newN) (keep : List Int) : ∃ g : FileS, g.name = newN ∧ crashL (oldL o ++ [f]) keep = oldL o ++ [g] := by
  cases o with
  | none => exact ⟨crashF f (keep.getD 0 0), h, rfl⟩
  | some a =>
    refine ⟨crashF f (keep.getD 1 0), h, ?_⟩
    unfold crashL oldL
    rw [List.cons_append, List.mapIdx_cons, crash_sure rfl]
    rfl
/-- What is left of such a disk: its file, or the new one; perhaps what was being written. -/
def LeftL (l : List FileS) (o : Option ByteArray) : Prop := l = oldL o ∨ ∃ g : FileS, g.name = newN ∧ l = oldL o ++ [g]
theorem LeftL.file {l : List FileS} {o : Option ByteArray} (h : LeftL l o) : fileOf l mapN = o.map fun a => ⟨mapN, a, a.size⟩ := by
  rcases h with rfl | ⟨g, hg, rfl⟩
  · cases o with
    | none => rfl
    | some a => unfold fileOf oldL; rw [List.find?_cons, decide_eq_true rfl]; rfl
  · cases o with
    | none => unfold fileOf oldL; rw [List.nil_append, List.find?_cons, hg, decide_eq_false (fun e => map_new e.symm)]; rfl
    | some a => unfold fileOf oldL; rw [List.cons_append, List.find?_cons, decide_eq_true rfl]; rfl
theorem LeftL.crash {l : List FileS} {o : Option ByteArray} (h : LeftL l o) (keep : List Int) : LeftL (crashL l keep) o := by
  rcases h with rfl | ⟨g, hg, rfl⟩
  · exact Or.inl (crash_old o keep)
  · obtain ⟨g', h1, h2⟩ := crash_new o g hg keep
    exact Or.inr ⟨g', h1, h2⟩
theorem used_old (o : Option ByteArray) : usedS (oldL o) = (match o with | none => 0 | some a => a.size) := by cases o <;> simp [usedS, oldL]

/-- A disk of so much room, that fails behind so many changes, less one, or never. -/
structure OldD (D : DiskS) (o : Option ByteArray) : Prop where
  down : D.down = false
  l : D.l = oldL o
/-- What Swap leaves of it: where it is told that all is OK, the new one alone; else what was there, and perhaps what was being written, and the disk is down. -/
theorem swap_old {D : DiskS} {o : Option ByteArray} (h : OldD D o) {m : ManS} (hm : MayM m) (hr : usedS (oldL o) + (mfB m).size + 6000 ≤ D.cap) :
    ((swapP D m).1 = 0 ∧ (swapP D m).2.down = false ∧ (swapP D m).2.l = oldL (some (mfB m)) ∧ (swapP D m).2.cap = D.cap ∧ (swapP D m).2.count = D.count ∧ (swapP D m).2.starts = D.starts) ∨
    ((swapP D m).1 = 61 ∧ (swapP D m).2.down = true ∧ LeftL (swapP D m).2.l o ∧ D.fails ≠ 0 ∧ (swapP D m).2.cap = D.cap ∧ (swapP D m).2.count = D.count ∧ (swapP D m).2.starts = D.starts) := by
  obtain ⟨hd, hl⟩ := h
  have hlen : (oldL o).length ≤ 1 := by cases o <;> simp [oldL]
  have e0 : deleteS D newN = (4, D) := by
    unfold deleteS
    rw [hl, old_new, if_neg (by simp [hd]), if_neg (by omega)]
  have es : swapP D m = if (layP D newN (mfB m)).1 ≠ 0 then layP D newN (mfB m) else renameS (layP D newN (mfB m)).2 newN mapN := by
    unfold swapP
    rw [if_neg (by simpa using hm), if_neg (by simp [hd]), e0]
    simp only
    rw [if_neg (by decide), if_neg (by rw [hl]; omega)]
  have ec : createS D newN = doneS D { D with l := oldL o ++ [⟨newN, ByteArray.empty, 0⟩] } := by
    unfold createS
    rw [hl, old_new, lay_new, if_neg (by simp [hd]), if_neg (by rw [new_name]; decide), if_neg (by omega), if_neg (by omega)]
  by_cases f1 : D.fails = 1
  · -- the first change fails
    have g1 : goesS D = false := by unfold goesS; rw [f1]; rfl
    have ec2 : createS D newN = (61, sinkS D D.keep) := by rw [ec]; unfold doneS; rw [g1]; rfl
    have el : layP D newN (mfB m) = (61, sinkS D D.keep) := by unfold layP; rw [ec2]; rfl
    rw [es, el, if_pos (show (61 : Nat) ≠ 0 by decide)]
    exact Or.inr ⟨rfl, rfl, by show LeftL (crashL D.l D.keep) o; rw [hl]; exact LeftL.crash (Or.inl rfl) _, by omega, rfl, rfl, rfl⟩
  have g1 : goesS D = true := by unfold goesS; rw [decide_eq_false f1]; rfl
  obtain ⟨D1, hD1⟩ : ∃ D1 : DiskS, D1 = { D with l := oldL o ++ [⟨newN, ByteArray.empty, 0⟩], fails := D.fails - 1 } := ⟨_, rfl⟩
  have ec2 : createS D newN = (0, D1) := by rw [ec, hD1]; unfold doneS; rw [g1]; rfl
  have d1 : D1.down = false ∧ D1.l = oldL o ++ [⟨newN, ByteArray.empty, 0⟩] ∧ D1.cap = D.cap ∧ D1.fails = D.fails - 1 ∧ D1.count = D.count ∧ D1.starts = D.starts ∧ D1.keep = D.keep := by rw [hD1]; exact ⟨hd, rfl, rfl, rfl, rfl, rfl, rfl⟩
  have u1 : usedS D1.l = usedS (oldL o) := by rw [d1.2.1]; simp [usedS]
  have ea : appendS D1 newN (mfB m) = if goesS D1 then (0, nextS (appE D1 newN (mfB m))) else (61, sinkS (appE D1 newN (mfB m)) D1.keep) := by
    unfold appendS
    rw [if_neg (by simp [d1.1]), if_pos (by rw [d1.2.1, new_at _ _ rfl, List.length_append]; exact Nat.lt_succ_self _), if_neg (by rw [u1, d1.2.2.1]; omega)]
  have la : (appE D1 newN (mfB m)).l = oldL o ++ [⟨newN, mfB m, 0⟩] := by
    show setF D1.l (findS D1.l newN) _ = _
    rw [d1.2.1, new_at _ _ rfl, set_new]
    show oldL o ++ [⟨newN, ByteArray.empty ++ mfB m, 0⟩] = _
    rw [ba_empty_append]
  by_cases f2 : D.fails = 2
  · have g2 : goesS D1 = false := by unfold goesS; rw [d1.2.2.2.1, f2]; rfl
    rw [g2] at ea
    have el : layP D newN (mfB m) = (61, sinkS (appE D1 newN (mfB m)) D1.keep) := by
      unfold layP
      rw [ec2]
      simp only
      rw [if_neg (by decide), ea]
      rfl
    rw [es, el, if_pos (show (61 : Nat) ≠ 0 by decide)]
    exact Or.inr ⟨rfl, rfl, by show LeftL (crashL (appE D1 newN (mfB m)).l D1.keep) o; rw [la]; exact LeftL.crash (Or.inr ⟨_, rfl, rfl⟩) _, by omega, d1.2.2.1, d1.2.2.2.2.1, d1.2.2.2.2.2.1⟩
  have g2 : goesS D1 = true := by unfold goesS; rw [d1.2.2.2.1, decide_eq_false (by omega)]; rfl
  rw [g2, if_pos rfl] at ea
  obtain ⟨D2, hD2⟩ : ∃ D2 : DiskS, D2 = nextS (appE D1 newN (mfB m)) := ⟨_, rfl⟩
  have d2 : D2.down = false ∧ D2.l = oldL o ++ [⟨newN, mfB m, 0⟩] ∧ D2.cap = D.cap ∧ D2.fails = D.fails - 1 - 1 ∧ D2.count = D.count ∧ D2.starts = D.starts := by
    rw [hD2]
    exact ⟨d1.1, la, d1.2.2.1, by show D1.fails - 1 = _; rw [d1.2.2.2.1], d1.2.2.2.2.1, d1.2.2.2.2.2.1⟩
  rw [← hD2] at ea
  have ey : syncS D2 newN = doneS D2 { D2 with l := oldL o ++ [⟨newN, mfB m, (mfB m).size⟩] } := by
    unfold syncS
    rw [if_neg (by simp [d2.1]), if_pos (by rw [d2.2.1, new_at _ _ rfl, List.length_append]; exact Nat.lt_succ_self _), d2.2.1, new_at _ _ rfl, set_new]
  have elay : layP D newN (mfB m) = syncS D2 newN := by
    unfold layP
    rw [ec2]
    simp only
    rw [if_neg (by decide), ea]
    simp only
    rw [if_neg (by decide)]
  by_cases f3 : D.fails = 3
  · have g3 : goesS D2 = false := by unfold goesS; rw [d2.2.2.2.1, f3]; rfl
    have ey2 : syncS D2 newN = (61, sinkS D2 D2.keep) := by rw [ey]; unfold doneS; rw [g3]; rfl
    rw [es, elay, ey2, if_pos (show (61 : Nat) ≠ 0 by decide)]
    exact Or.inr ⟨rfl, rfl, by show LeftL (crashL D2.l D2.keep) o; rw [d2.2.1]; exact LeftL.crash (Or.inr ⟨_, rfl, rfl⟩) _, by omega, d2.2.2.1, d2.2.2.2.2.1, d2.2.2.2.2.2⟩
  have g3 : goesS D2 = true := by unfold goesS; rw [d2.2.2.2.1, decide_eq_false (by omega)]; rfl
  obtain ⟨D3, hD3⟩ : ∃ D3 : DiskS, D3 = { D2 with l := oldL o ++ [⟨newN, mfB m, (mfB m).size⟩], fails := D2.fails - 1 } := ⟨_, rfl⟩
  have ey2 : syncS D2 newN = (0, D3) := by rw [ey, hD3]; unfold doneS; rw [g3]; rfl
  have d3 : D3.down = false ∧ D3.l = oldL o ++ [⟨newN, mfB m, (mfB m).size⟩] ∧ D3.cap = D.cap ∧ D3.fails = D.fails - 1 - 1 - 1 ∧ D3.count = D.count ∧ D3.starts = D.starts := by
    rw [hD3]
    exact ⟨d2.1, rfl, d2.2.2.1, by show D2.fails - 1 = _; rw [d2.2.2.2.1], d2.2.2.2.2.1, d2.2.2.2.2.2⟩
  have er : renameS D3 newN mapN = doneS D3 { D3 with l := oldL (some (mfB m)) } := by
    unfold renameS
    rw [if_neg (by simp [d3.1]), if_pos (by rw [d3.2.1, new_at _ _ rfl, List.length_append]; exact Nat.lt_succ_self _), if_neg (by rw [map_name]; decide), if_neg (fun e => map_new e.symm), d3.2.1, new_at _ _ rfl, rename_new]
    rfl
  rw [es, elay, ey2]
  simp only
  rw [if_neg (by decide), er]
  by_cases f4 : D.fails = 4
  · have g4 : goesS D3 = false := by unfold goesS; rw [d3.2.2.2.1, f4]; rfl
    unfold doneS
    rw [g4]
    exact Or.inr ⟨rfl, rfl, by show LeftL (crashL D3.l D3.keep) o; rw [d3.2.1]; exact LeftL.crash (Or.inr ⟨_, rfl, rfl⟩) _, by omega, d3.2.2.1, d3.2.2.2.2.1, d3.2.2.2.2.2⟩
  have g4 : goesS D3 = true := by unfold goesS; rw [d3.2.2.2.1, decide_eq_false (by omega)]; rfl
  unfold doneS
  rw [g4]
  exact Or.inl ⟨rfl, d3.1, rfl, d3.2.2.1, d3.2.2.2.2.1, d3.2.2.2.2.2⟩
/-- A manifest that may not be; no room. -/
theorem swap_bad {D : DiskS} {m : ManS} (hm : ¬ MayM m) : swapP D m = (2, D) := by unfold swapP; rw [if_pos hm]
theorem swap_full {D : DiskS} {o : Option ByteArray} (h : OldD D o) {m : ManS} (hm : MayM m) (hr : D.cap < usedS (oldL o) + (mfB m).size + 6000) : swapP D m = (60, D) := by
  obtain ⟨hd, hl⟩ := h
  have hlen : (oldL o).length ≤ 1 := by cases o <;> simp [oldL]
  have e0 : deleteS D newN = (4, D) := by
    unfold deleteS
    rw [hl, old_new, if_neg (by simp [hd]), if_neg (by omega)]
  unfold swapP
  rw [if_neg (by simpa using hm), if_neg (by simp [hd]), e0]
  simp only
  rw [if_neg (by decide), if_pos (by rw [hl]; omega)]
theorem swap_down {D : DiskS} {m : ManS} (hm : MayM m) (hd : D.down = true) : swapP D m = (61, D) := by unfold swapP; rw [if_neg (by simpa using hm), if_pos hd]
/-- What is loaded of such a disk. -/
theorem load_old {D : DiskS} {o : Option ByteArray} (hd : D.down = false) (h : LeftL D.l o) : (o = none ∧ loadE D = 4) ∨ ∃ a, o = some a ∧ loadE D = mgE a ∧ loadM D = mgM a := by
  have hf := h.file
  cases o with
  | none =>
    have e := rdW_none hd hf
    exact Or.inl ⟨rfl, by unfold loadE; rw [e]; rfl⟩
  | some a =>
    have e := rdW_of hd hf
    exact Or.inr ⟨a, rfl, by unfold loadE; rw [e]; rfl, by unfold loadM; rw [e]; rfl⟩

/-- Which files are orphans (P23.3). -/
def orphB (fl : List Int) (n : ByteArray) : Bool := decide (n = newN) || (npOk n && !decide (npK n = 99) && !decide ((npN n : Int) ∈ fl))
def orphL (l : List ByteArray) (m : ManS) : List ByteArray := l.filter (orphB m.lv.flatten)
/-- Files that are deleted, one behind another. -/
def delAll : DiskS → List ByteArray → Nat × DiskS
  | D, [] => (0, D)
  | D, n :: ns => if (deleteS D n).1 ≠ 0 then deleteS D n else delAll (deleteS D n).2 ns
def cleanP (D : DiskS) (m : ManS) : Nat × DiskS := if D.down = true then (61, D) else delAll D (orphL (D.l.map FileS.name) m)
theorem wp_delAll : ∀ (l : List ByteArray) {D : DiskS}, WfP D → WfP (delAll D l).2
  | [], D, ok => ok
  | n :: ns, D, ok => by
    unfold delAll
    split
    · exact wp_delete ok n
    · exact wp_delAll ns (wp_delete ok n)
theorem wp_clean {D : DiskS} (ok : WfP D) (m : ManS) : WfP (cleanP D m).2 := by
  unfold cleanP
  split
  · exact ok
  · exact wp_delAll _ ok
end Go.Proofs.YtbhgngimebecdaaGreat

/- ImCrash -/
namespace Go.Proofs.YtbhgngimebecdaaGreat
set_option linter.unusedVariables false

def oldM (m : ManS) : Option ByteArray := if MayM m then some (mfB m) else none
theorem oldM_yes {m : ManS} (h : MayM m) : oldM m = some (mfB m) := if_pos h
theorem oldM_no {m : ManS} (h : ¬ MayM m) : oldM m = none := if_neg h
theorem oldM_used (m : ManS) : usedS (oldL (oldM m)) ≤ 190 := by
  rw [used_old]
  by_cases h : MayM m
  · rw [oldM_yes h]
    exact mfB_small h
  · rw [oldM_no h]
    exact Nat.zero_le _
/-- The first Swap, on a new disk. -/
theorem first_swap {c : Nat} (m : ManS) (hc : MayM m → (mfB m).size + 6000 ≤ c) : (swapP (newS c) m).1 = (if MayM m then 0 else 2) ∧ OldD (swapP (newS c) m).2 (oldM m) ∧ (swapP (newS c) m).2.cap = c ∧ (swapP (newS c) m).2.count = 0 ∧ (swapP (newS c) m).2.starts = 0 := by
  have h0 : OldD (newS c) none := ⟨rfl, rfl⟩
  by_cases hm : MayM m
  · rw [if_pos hm, oldM_yes hm]
    rcases swap_old h0 hm (by have := hc hm; show 0 + (mfB m).size + 6000 ≤ c; omega) with ⟨h1, h2, h3, h4, h5, h6⟩ | ⟨h1, h2, h3, h4, h5⟩
    · exact ⟨h1, ⟨h2, h3⟩, h4, h5, h6⟩
    · exact absurd rfl h4
  · rw [if_neg hm, oldM_no hm, swap_bad hm]
    exact ⟨rfl, h0, rfl, rfl, rfl⟩
/-- The second one, in which the disk may fail. -/
theorem second_swap {D : DiskS} {o : Option ByteArray} (h : OldD D o) (hu : usedS (oldL o) ≤ 190) (hc : D.cap = 20000) (n : ManS) :
    ((swapP D n).1 = 0 ∧ MayM n ∧ (swapP D n).2.down = false ∧ LeftL (swapP D n).2.l (some (mfB n))) ∨
    ((swapP D n).1 = 61 ∧ MayM n ∧ (swapP D n).2.down = true ∧ LeftL (swapP D n).2.l o) ∨
    ((swapP D n).1 = 2 ∧ ¬ MayM n ∧ (swapP D n).2.down = false ∧ LeftL (swapP D n).2.l o) := by
  by_cases hn : MayM n
  · have hz := mfB_small hn
    rcases swap_old h hn (by omega) with ⟨h1, h2, h3, -⟩ | ⟨h1, h2, h3, -⟩
    · exact Or.inl ⟨h1, hn, h2, Or.inl h3⟩
    · exact Or.inr (Or.inl ⟨h1, hn, h2, h3⟩)
  · rw [swap_bad hn]
    exact Or.inr (Or.inr ⟨rfl, hn, h.down, Or.inl h.l⟩)
theorem swap_same {D : DiskS} {o : Option ByteArray} (h : OldD D o) (n : ManS) (hc : D.cap = 20000) (hu : usedS (oldL o) ≤ 190) : (swapP D n).2.cap = 20000 ∧ (swapP D n).2.count = D.count ∧ (swapP D n).2.starts = D.starts := by
  by_cases hn : MayM n
  · have hz := mfB_small hn
    rcases swap_old h hn (by omega) with ⟨-, -, -, h4, h5, h6⟩ | ⟨-, -, -, -, h4, h5, h6⟩
    · exact ⟨by rw [h4, hc], h5, h6⟩
    · exact ⟨by rw [h4, hc], h5, h6⟩
  · rw [swap_bad hn]
    exact ⟨hc, rfl, rfl⟩
/-- Down, if it isn't, and up again. -/
def downS (D : DiskS) (keep : List Int) : DiskS := if D.down = true then D else (crashS D keep).2
theorem downS_down (D : DiskS) (keep : List Int) : (downS D keep).down = true := by
  unfold downS crashS
  split
  · assumption
  · rfl
theorem downS_left {D : DiskS} {o : Option ByteArray} (keep : List Int) (h : LeftL D.l o) : LeftL (downS D keep).l o := by
  unfold downS crashS
  split
  · exact h
  · exact h.crash keep
theorem start_up {D : DiskS} (hd : D.down = true) : startS D = (0, { D with down := false, starts := D.starts + 1 }) := by unfold startS; rw [if_pos hd]
/-- What is told then. -/
theorem crash_told (m n : ManS) (hm : m.seed < 18446744073709551616) (hn : n.seed < 18446744073709551616) {D1 : DiskS} (h : OldD D1 (oldM m)) (hc : D1.cap = 20000) (keep : List Int) {D5 : DiskS} (h5 : D5 = (startS (downS (swapP D1 n).2 keep)).2) :
    ((swapP D1 n).1 = 0 ∧ MayM n ∧ loadE D5 = 0 ∧ loadM D5 = trimM n) ∨
    (((swapP D1 n).1 = 61 ∧ MayM n ∨ (swapP D1 n).1 = 2 ∧ ¬ MayM n) ∧ (MayM m ∧ loadE D5 = 0 ∧ loadM D5 = trimM m ∨ ¬ MayM m ∧ loadE D5 = 4)) := by
  have hu := oldM_used m
  have key : ∀ o, LeftL (swapP D1 n).2.l o → D5.down = false ∧ LeftL D5.l o := by
    intro o ho
    rw [h5, start_up (downS_down _ _)]
    exact ⟨rfl, downS_left keep ho⟩
  have told : ∀ r : ManS, MayM r → r.seed < 18446744073709551616 → LeftL D5.l (some (mfB r)) → D5.down = false → loadE D5 = 0 ∧ loadM D5 = trimM r := by
    intro r hr hrs hl hd
    rcases load_old hd hl with ⟨e, -⟩ | ⟨a, e, e1, e2⟩
    · cases e
    · obtain rfl := Option.some.inj e
      obtain ⟨g1, g2⟩ := mg_back hr hrs
      rw [e1, e2, g1, g2]
      exact ⟨rfl, rfl⟩
  have oldt : LeftL D5.l (oldM m) → D5.down = false → (MayM m ∧ loadE D5 = 0 ∧ loadM D5 = trimM m ∨ ¬ MayM m ∧ loadE D5 = 4) := by
    intro hl hd
    by_cases hmm : MayM m
    · rw [oldM_yes hmm] at hl
      obtain ⟨g1, g2⟩ := told m hmm hm hl hd
      exact Or.inl ⟨hmm, g1, g2⟩
    · rw [oldM_no hmm] at hl
      rcases load_old hd hl with ⟨-, e⟩ | ⟨a, e, -⟩
      · exact Or.inr ⟨hmm, e⟩
      · cases e
  rcases second_swap h hu hc n with ⟨h1, h2, h3, h4⟩ | ⟨h1, h2, h3, h4⟩ | ⟨h1, h2, h3, h4⟩
  · obtain ⟨k1, k2⟩ := key _ h4
    obtain ⟨g1, g2⟩ := told n h2 hn k2 k1
    exact Or.inl ⟨h1, h2, g1, g2⟩
  · obtain ⟨k1, k2⟩ := key _ h4
    exact Or.inr ⟨Or.inl ⟨h1, h2⟩, oldt k2 k1⟩
  · obtain ⟨k1, k2⟩ := key _ h4
    exact Or.inr ⟨Or.inr ⟨h1, h2⟩, oldt k2 k1⟩
end Go.Proofs.YtbhgngimebecdaaGreat

/- ImOrphPlain -/
namespace Go.Proofs.YtbhgngimebecdaaGreat
open Go.RowKit
set_option linter.unusedVariables false

theorem orphL_none (m : ManS) : orphL [] m = [] := rfl
theorem orph_take {l : List ByteArray} {m : ManS} {j : Nat} {x : ByteArray} (h : l[j]? = some x) : orphL (l.take (j + 1)) m = orphL (l.take j) m ++ (if orphB m.lv.flatten x = true then [x] else []) := by
  unfold orphL
  rw [List.take_add_one, h, List.filter_append]
  congr 1
  show [x].filter _ = _
  by_cases hb : orphB m.lv.flatten x = true
  · rw [if_pos hb, List.filter_cons_of_pos hb, List.filter_nil]
  · rw [if_neg hb, List.filter_cons_of_neg hb, List.filter_nil]
theorem orphL_len (l : List ByteArray) (m : ManS) : (orphL l m).length ≤ l.length := List.length_filter_le _ _
theorem nameB_le {n : ByteArray} (h : nameB n = true) : n.size ≤ maxLen := by
  unfold nameB at h
  simp only [Bool.and_eq_true, decide_eq_true_eq] at h
  exact Nat.le_trans h.2 (by decide)
theorem DS.names {At : Lies} {w0 w : World} {gd : Nat} {D : DiskS} {E : List Nat} (api : DiskApi At) (h : DS At w0 gd D E w) : ∀ x ∈ D.l.map FileS.name, x.size ≤ maxLen := by
  obtain ⟨F, h1, h2, h3⟩ := h
  intro x hx
  obtain ⟨f, hf, rfl⟩ := List.mem_map.1 hx
  exact nameB_le ((api.rise h1).2 f hf)
end Go.Proofs.YtbhgngimebecdaaGreat

/- ImFiles -/
namespace Go.Proofs.YtbhgngimebecdaaGreat
set_option linter.unusedVariables false

abbrev namesS (D : DiskS) : List ByteArray := D.l.map FileS.name
theorem drop_names (n : ByteArray) : ∀ l : List FileS, (l.map FileS.name).Nodup → (dropS l (findS l n)).map FileS.name = (l.map FileS.name).filter (fun x => !decide (x = n))
  | [], _ => rfl
  | x :: l, hd => by
    obtain ⟨h1, h2⟩ := List.nodup_cons.1 (show (x.name :: l.map FileS.name).Nodup from hd)
    have ih := drop_names n l h2
    unfold dropS findS at ih ⊢
    rw [List.findIdx_cons, List.map_cons]
    by_cases e : x.name = n
    · rw [decide_eq_true e, List.filter_cons_of_neg (by simp [e])]
      show l.map FileS.name = _
      refine (List.filter_eq_self.2 fun y hy => ?_).symm
      have : y ≠ n := fun h => h1 (e.trans h.symm ▸ hy)
      simpa using this
    · rw [decide_eq_false e, List.filter_cons_of_pos (by simp [e])]
      simp only [cond_false, List.take_succ_cons, List.drop_succ_cons, List.cons_append, List.map_cons]
      rw [ih]
theorem name_file {l : List FileS} {n : ByteArray} (h : n ∈ l.map FileS.name) : ∃ f, fileOf l n = some f := by
  obtain ⟨f, hf, rfl⟩ := List.mem_map.1 h
  cases e : fileOf l f.name with
  | some g => exact ⟨g, rfl⟩
  | none =>
    unfold fileOf at e
    have := List.find?_eq_none.1 e f hf
    simp at this
def inS (ns : List ByteArray) (x : ByteArray) : Bool := ns.any (fun y => decide (x = y))
theorem inS_iff {ns : List ByteArray} {x : ByteArray} : inS ns x = true ↔ x ∈ ns := by
  unfold inS
  rw [List.any_eq_true]
  constructor
  · rintro ⟨y, h1, h2⟩
    rw [of_decide_eq_true h2]
    exact h1
  · exact fun h => ⟨x, h, decide_eq_true rfl⟩
theorem del_all : ∀ (ns : List ByteArray) {D : DiskS}, UpD D → (namesS D).Nodup → ns.Nodup → (∀ n ∈ ns, n ∈ namesS D) → ∃ E, delAll D ns = (0, E) ∧ UpD E ∧ E.count = D.count ∧ E.l.length ≤ D.l.length ∧ namesS E = (namesS D).filter (fun x => !inS ns x)
  | [], D, h, hd, hn, hm => ⟨D, rfl, h, rfl, Nat.le_refl _, (List.filter_eq_self.2 (fun x hx => rfl)).symm⟩
  | n :: ns, D, h, hd, hn, hm => by
    obtain ⟨f, hf⟩ := name_file (hm n (List.mem_cons_self ..))
    obtain ⟨E1, e1, e2, e3, -, e5, -, e7, -⟩ := deleteS_of h hf
    have en : namesS E1 = (namesS D).filter (fun x => !decide (x = n)) := by
      unfold namesS
      rw [e5]
      exact drop_names n D.l hd
    obtain ⟨E, g1, g2, g3, g4, g5⟩ := del_all ns e2 (by rw [en]; exact hd.filter _) (List.nodup_cons.1 hn).2 (fun x hx => by
      rw [en, List.mem_filter]
      refine ⟨hm x (List.mem_cons_of_mem _ hx), ?_⟩
      have : x ≠ n := fun e => (List.nodup_cons.1 hn).1 (e ▸ hx)
      simpa using this)
    refine ⟨E, ?_, g2, g3.trans e3, by omega, ?_⟩
    · unfold delAll
      rw [e1]
      simpa using g1
    · rw [g5, en, List.filter_filter]
      apply List.filter_congr
      intro x hx
      unfold inS
      rw [List.any_cons]
      cases decide (x = n) <;> cases (ns.any fun y => decide (x = y)) <;> rfl
/-- What Clean leaves: no orphan. -/
theorem clean_left {D : DiskS} (h : UpD D) (hd : (namesS D).Nodup) (m : ManS) : ∃ E, cleanP D m = (0, E) ∧ UpD E ∧ E.count = D.count ∧ E.l.length ≤ D.l.length ∧ namesS E = (namesS D).filter (fun x => !orphB m.lv.flatten x) ∧ orphL (namesS E) m = [] := by
  obtain ⟨E, g1, g2, g3, g4, g5⟩ := del_all (orphL (namesS D) m) h hd (hd.filter _) (fun n hn => (List.mem_filter.1 hn).1)
  have e : namesS E = (namesS D).filter (fun x => !orphB m.lv.flatten x) := by
    rw [g5]
    apply List.filter_congr
    intro x hx
    cases hb : orphB m.lv.flatten x with
    | true =>
      have : inS (orphL (namesS D) m) x = true := inS_iff.2 (List.mem_filter.2 ⟨hx, hb⟩)
      rw [this]
    | false =>
      have : ¬ inS (orphL (namesS D) m) x = true := fun h => by
        have := (List.mem_filter.1 (inS_iff.1 h)).2
        rw [hb] at this
        cases this
      rw [Bool.eq_false_iff.2 this]
  refine ⟨E, ?_, g2, g3, g4, e, ?_⟩
  · unfold cleanP
    rw [if_neg (by simp [h.down])]
    exact g1
  · rw [e]
    unfold orphL
    rw [List.filter_filter]
    apply List.filter_eq_nil_iff.2
    intro x hx
    simp
/-- A file by itself. -/
theorem orph_one (x : ByteArray) (m : ManS) : decide (orphL [x] m = [x]) = orphB m.lv.flatten x := by
  unfold orphL
  cases hb : orphB m.lv.flatten x
  · simp [List.filter, hb]
  · simp [List.filter, hb]
/-- Files that were created, so many at most. -/
structure FilesD (D : DiskS) (k : Nat) : Prop where
  up : UpD D
  len : D.l.length ≤ k
  name : ∀ x ∈ namesS D, x.size ≤ 12
  count : D.count = 0
theorem FilesD.create {D : DiskS} {k : Nat} (h : FilesD D k) (n : ByteArray) : FilesD (createS D n).2 (k + 1) := by
  have w := wp_create h.up.wf n
  have hl := h.len
  have hc := h.count
  revert w
  unfold createS doneS goesS
  rw [if_neg (by simp [h.up.down])]
  split
  · intro w; exact ⟨h.up, Nat.le_succ_of_le hl, h.name, hc⟩
  · rename_i hn
    split
    · intro w; exact ⟨h.up, Nat.le_succ_of_le hl, h.name, hc⟩
    · split
      · intro w; exact ⟨h.up, Nat.le_succ_of_le hl, h.name, hc⟩
      · rw [h.up.fails, if_pos (by decide)]
        intro w
        refine ⟨⟨h.up.down, rfl, w⟩, ?_, ?_, hc⟩
        · show (layS _ _).length ≤ _
          unfold layS
          simp only [List.length_append, List.length_take, List.length_drop, List.length_singleton]
          omega
        · intro x hx
          obtain ⟨f, hf, rfl⟩ := List.mem_map.1 (show x ∈ (layS D.l ⟨n, ByteArray.empty, 0⟩).map FileS.name from hx)
          unfold layS at hf
          rw [List.append_assoc, List.mem_append, List.mem_append, List.mem_singleton] at hf
          rcases hf with hf | rfl | hf
          · exact h.name _ (List.mem_map.2 ⟨f, List.mem_of_mem_take hf, rfl⟩)
          · unfold nameB at hn
            simp at hn
            exact hn.2
          · exact h.name _ (List.mem_map.2 ⟨f, List.mem_of_mem_drop hf, rfl⟩)
theorem files_new (c : Nat) (hc : c ≤ 1048576) : FilesD (newS c) 0 := ⟨upd_new hc, Nat.le_refl _, fun x hx => (by cases hx), rfl⟩
end Go.Proofs.YtbhgngimebecdaaGreat
