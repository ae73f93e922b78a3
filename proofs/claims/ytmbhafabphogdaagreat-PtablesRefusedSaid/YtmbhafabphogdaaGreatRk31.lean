/- PtMath -/
import Derived.Test.YtmbhafabphogdaaGreatRk28
import Derived.Test.YtmbhafabphogdaaGreatRk06
import Derived.Test.YtmbhafabphogdaaGreatRk20
import Derived.Test.YtmbhafabphogdaaGreatRk04
/- PtMath -/
namespace Go.Proofs.YtmbhafabphogdaaGreat
set_option linter.unusedVariables false

/-- The names of a table's files. -/
def ptT (n : Int) : ByteArray := nmS 116 n
def ptB (n : Int) : ByteArray := nmS 98 n
theorem pt_size (c : UInt8) (n : Int) : (nmS c n).size ≤ 7 := by
  unfold nmS
  split
  · rw [bs_size, List.length_cons, de_length]
    omega
  · exact Nat.zero_le _
theorem ptT_le (n : Int) : (ptT n).size ≤ maxLen := Nat.le_trans (pt_size 116 n) (by decide)
theorem ptB_le (n : Int) : (ptB n).size ≤ maxLen := Nat.le_trans (pt_size 98 n) (by decide)
theorem pt_name {n : Nat} (h : n ≤ 999999) : nameB (ptT n) = true ∧ nameB (ptB n) = true := by
  unfold ptT ptB nameB
  rw [nm_size h, nm_size h]
  decide
theorem pt_full {n : Nat} (h : n ≤ 999999) : ptT n ≠ ByteArray.empty := by
  intro e
  have := nm_size (c := 116) h
  rw [show nmS 116 (n : Nat) = ByteArray.empty from e] at this
  exact absurd this (by decide)
theorem pt_ne {n m : Nat} (h : n ≤ 999999) (k : m ≤ 999999) : ptB n ≠ ptT m := by
  unfold ptB ptT
  rw [nm_yes h, nm_yes k]
  intro e
  have h2 := congrArg (fun s : ByteArray => s.data.toList.head?) e
  simp only [dbs, List.head?_cons] at h2
  exact absurd h2 (by decide)

/-- A file that is made of some bytes, all of them sure. -/
def layP (D : DiskS) (n s : ByteArray) : Nat × DiskS :=
  if (createS D n).1 ≠ 0 then createS D n
  else if (appendS (createS D n).2 n s).1 ≠ 0 then appendS (createS D n).2 n s
  else syncS (appendS (createS D n).2 n s).2 n
def writeP (D : DiskS) (n : Int) (l : List EntS) (t : ByteArray) : Nat × DiskS :=
  if ptT n = ByteArray.empty ∨ tbOk l = false then (2, D)
  else if D.down = true then (61, D)
  else if (D.cap : Int) - (usedS D.l : Nat) - (t.size : Nat) - ((tbB l).size : Nat) < 6000 then (60, D)
  else if (layP D (ptB n) t).1 ≠ 0 then layP D (ptB n) t
  else if (layP (layP D (ptB n) t).2 (ptT n) (tbB l)).1 ≠ 0 then ((layP (layP D (ptB n) t).2 (ptT n) (tbB l)).1, (deleteS (layP (layP D (ptB n) t).2 (ptT n) (tbB l)).2 (ptB n)).2)
  else layP (layP D (ptB n) t).2 (ptT n) (tbB l)
def goneP (r : Nat) : Bool := decide (r = 0) || decide (r = 4)
def dropP (D : DiskS) (n : Int) : Nat × DiskS :=
  if goneP (deleteS D (ptT n)).1 = false then deleteS D (ptT n)
  else if goneP (deleteS (deleteS D (ptT n)).2 (ptB n)).1 = false then deleteS (deleteS D (ptT n)).2 (ptB n)
  else (0, (deleteS (deleteS D (ptT n)).2 (ptB n)).2)
/-- A file's bytes, all of them. -/
def rdW (D : DiskS) (n : ByteArray) : ByteArray × Nat × DiskS := if (sizeS D n).2 = 0 then readS D n 0 ((sizeS D n).1 : Nat) else (ByteArray.empty, (sizeS D n).2, D)
/-- A filter lets all through. -/
def keepsP (t : ByteArray) (l : List EntS) : Bool := l.all fun x => mayT t x.h
theorem keepsP_iff {t : ByteArray} {l : List EntS} : keepsP t l = true ↔ ∀ x ∈ l, mayT t x.h = true := by unfold keepsP; rw [List.all_eq_true]
theorem keeps_none (l : List EntS) : keepsP ByteArray.empty l = true := keepsP_iff.2 fun x _ => mayT_no (hdOk_short (by decide)) _
/-- The filter that is believed. -/
def ldF (D : DiskS) (n : Int) (l : List EntS) : ByteArray := if (rdW D (ptB n)).2.1 = 0 ∧ keepsP (rdW D (ptB n)).1 l = true then (rdW D (ptB n)).1 else ByteArray.empty
theorem ldF_keeps (D : DiskS) (n : Int) (l : List EntS) : keepsP (ldF D n l) l = true := by
  unfold ldF
  split
  · rename_i h; exact h.2
  · exact keeps_none l
def openE (D : DiskS) (n : Int) : Nat := if D.down = true then 61 else if (rdW D (ptT n)).2.1 ≠ 0 then 90 else if tgOk (rdW D (ptT n)).1 = false then 90 else 0
def openD (D : DiskS) (n : Int) : DiskS := if D.down = true then D else if (rdW D (ptT n)).2.1 ≠ 0 then (rdW D (ptT n)).2.2 else if tgOk (rdW D (ptT n)).1 = false then (rdW D (ptT n)).2.2 else (rdW (rdW D (ptT n)).2.2 (ptB n)).2.2
def toldP (e : Nat) : Nat := if e = 0 then 0 else if e = 61 then 61 else 90
def readyP (D : DiskS) (n : Int) : Nat := toldP (sizeS D (ptT n)).2
def mayP (l : List EntS) (t : ByteArray) (h : Nat) : Bool := decide (0 < l.length) && mayT t h
/-- The pieces of some bytes that were read. -/
def pcP (s : ByteArray) (i : Nat) : ByteArray := s.extract (24 * i) (24 * i + 24)
def okP (s : ByteArray) (m : Nat) : Bool := (List.range m).all fun i => enOk (pcP s i)
def gotP (s : ByteArray) (m : Nat) : List EntS := (List.range m).map fun i => enG (pcP s i)
theorem okP_iff {s : ByteArray} {m : Nat} : okP s m = true ↔ ∀ i, i < m → enOk (pcP s i) = true := by unfold okP; rw [List.all_eq_true]; simp
theorem gotP_length (s : ByteArray) (m : Nat) : (gotP s m).length = m := by unfold gotP; rw [List.length_map, List.length_range]
/-- Eight bytes ahead make a table's pieces of them. -/
def aheadP (s : ByteArray) : ByteArray := bs (List.replicate 8 0 ++ s.data.toList)
theorem ahead_piece (s : ByteArray) (i : Nat) : tbPiece (aheadP s) i = pcP s i := by
  unfold tbPiece pcP aheadP
  rw [sl_extbs, sl_extbs, sl_list, show 8 + 24 * i = (List.replicate 8 (0 : UInt8)).length + 24 * i by rw [List.length_replicate], List.drop_length_add_append, show 32 + 24 * i - ((List.replicate 8 (0 : UInt8)).length + 24 * i) = 24 by rw [List.length_replicate]; omega, show 24 * i + 24 - 24 * i = 24 by omega]
theorem ahead_got (s : ByteArray) (m : Nat) : tbGot (aheadP s) m = gotP s m := by
  unfold tbGot gotP
  simp only [ahead_piece]
/-- What is read of a table: its entries from one to another one. -/
theorem pc_of {s : ByteArray} {lo hi i : Nat} (hi2 : i < hi - lo) : pcP (s.extract (8 + 24 * lo) (8 + 24 * hi)) i = tbPiece s (lo + i) := by
  unfold pcP tbPiece
  rw [sl_extbs, sl_extbs s, sl_extbs s, sl_list, List.drop_take, List.take_take, List.drop_drop, show 24 * i + 24 - 24 * i = 24 by omega, show 32 + 24 * (lo + i) - (8 + 24 * (lo + i)) = 24 by omega,
    show 8 + 24 * lo + 24 * i = 8 + 24 * (lo + i) by omega, Nat.min_eq_left (by omega)]
theorem got_of {s : ByteArray} (h : tgOk s = true) {lo hi : Nat} (hh : hi ≤ (tgL s).length) : okP (s.extract (8 + 24 * lo) (8 + 24 * hi)) (hi - lo) = true ∧ gotP (s.extract (8 + 24 * lo) (8 + 24 * hi)) (hi - lo) = ((tgL s).drop lo).take (hi - lo) := by
  obtain ⟨h1, h2, h3, h4, h5, h6, h7⟩ := tgOk_iff.1 h
  rw [(tg_yes h).1] at hh ⊢
  rw [tbGot_length] at hh
  refine ⟨okP_iff.2 fun i hi2 => by rw [pc_of hi2]; exact h6 _ (by omega), ?_⟩
  apply List.ext_getElem?
  intro i
  unfold gotP
  rw [List.getElem?_map, List.getElem?_take, List.getElem?_drop]
  by_cases c : i < hi - lo
  · rw [if_pos c, List.getElem?_range c, tbGot_at _ (by omega)]
    show some (enG (pcP _ i)) = _
    rw [pc_of c]
  · rw [if_neg c, List.getElem?_eq_none (by rw [List.length_range]; omega)]
    rfl
theorem tg_rise {s : ByteArray} (h : tgOk s = true) : RiseE (tgL s) ∧ (∀ x ∈ tgL s, mayE x = true) ∧ s.size = 12 + 24 * (tgL s).length := by
  obtain ⟨h1, h2, h3, h4, h5, h6, h7⟩ := tgOk_iff.1 h
  rw [(tg_yes h).1, tbGot_length]
  exact ⟨sorted_rise h7, got_may s h6, h4⟩
theorem got_entok (s : ByteArray) : ∀ x : ByteArray, EntOk (enG x) := by
  intro x
  unfold enG
  split
  · rename_i h
    have := of_decide_eq_true h
    exact ⟨getS_lt _, by simp only; omega, by simp only; omega, by simp only; omega, by simp only; omega⟩
  · exact ⟨by decide, by decide, by decide, by decide, by decide⟩
theorem tg_entok (s : ByteArray) : ∀ x ∈ tgL s, EntOk x := by
  intro x hx
  unfold tgL tbGot at hx
  split at hx
  · obtain ⟨i, _, rfl⟩ := List.mem_map.1 hx
    exact got_entok s _
  · cases hx

/-! A window of a list. -/
theorem filter_window {q : EntS → Bool} {l : List EntS} {lo hi : Nat} (h : ∀ (i : Nat) (x : EntS), l[i]? = some x → q x = true → lo ≤ i ∧ i < hi) : l.filter q = ((l.drop lo).take (hi - lo)).filter q := by
  have e : l = l.take lo ++ ((l.drop lo).take (hi - lo) ++ (l.drop lo).drop (hi - lo)) := by rw [List.take_append_drop, List.take_append_drop]
  have e1 : (l.take lo).filter q = [] := List.filter_eq_nil_iff.2 fun y hy hq => by
    obtain ⟨j, hj⟩ := List.getElem?_of_mem hy
    have hjl := (List.getElem?_eq_some_iff.1 hj).1
    rw [List.length_take] at hjl
    rw [List.getElem?_take, if_pos (by omega)] at hj
    have := (h j y hj hq).1
    omega
  have e2 : ((l.drop lo).drop (hi - lo)).filter q = [] := List.filter_eq_nil_iff.2 fun y hy hq => by
    obtain ⟨j, hj⟩ := List.getElem?_of_mem hy
    rw [List.getElem?_drop, List.getElem?_drop] at hj
    have := (h _ y hj hq).2
    omega
  conv => lhs; rw [e]
  rw [List.filter_append, List.filter_append, e1, e2, List.nil_append, List.append_nil]
theorem window_rise {l : List EntS} (h : RiseE l) (lo m : Nat) : RiseE ((l.drop lo).take m) := List.Pairwise.take (List.Pairwise.drop h)
theorem window_at {l : List EntS} {lo m i : Nat} : ((l.drop lo).take m)[i]? = if i < m then l[lo + i]? else none := by rw [List.getElem?_take, List.getElem?_drop]
theorem window_mem {l : List EntS} {lo m : Nat} {x : EntS} (h : x ∈ (l.drop lo).take m) : x ∈ l := List.mem_of_mem_drop (List.mem_of_mem_take h)
theorem less_zero {y : EntS} {h : Nat} {v : Int} (hm : mayE y = true) : lessE y ⟨h, v, 0⟩ = srchQ h v y := by
  have := of_decide_eq_true hm
  unfold lessE srchQ
  rw [decide_eq_decide]
  simp only
  omega
theorem srch_next (h : Nat) (v : Int) (y : EntS) : srchQ h (v + 1) y = thruQ h v y := by
  unfold srchQ thruQ
  rw [decide_eq_decide]
  omega
theorem count_zero {l : List EntS} (hm : ∀ x ∈ l, mayE x = true) (h : Nat) (v : Int) : l.countP (fun y => lessE y ⟨h, v, 0⟩) = l.countP (srchQ h v) := List.countP_congr fun y hy => by rw [less_zero (hm y hy)]
theorem count_next (l : List EntS) (h : Nat) (v : Int) : l.countP (srchQ h (v + 1)) = l.countP (thruQ h v) := List.countP_congr fun y hy => by rw [srch_next]
/-- The entries of a hash within a window. -/
theorem range_window {l : List EntS} (hr : RiseE l) {h : Nat} {a b : Int} {lo hi : Nat} (h1 : lo ≤ l.countP (srchQ h a)) (h2 : l.countP (thruQ h b) ≤ hi) : rangeE ((l.drop lo).take (hi - lo)) h a b = rangeE l h a b := by
  unfold rangeE
  refine (filter_window fun i x hx hq => ?_).symm
  have hq := of_decide_eq_true hq
  have c1 := cut_count (srch_down h a) hr i x hx
  have c2 := cut_count (thru_down h b) hr i x hx
  constructor
  · have : srchQ h a x = false := decide_eq_false (by omega)
    rw [this] at c1
    have := of_decide_eq_false c1.symm
    omega
  · have : thruQ h b x = true := decide_eq_true (by omega)
    rw [this] at c2
    have := of_decide_eq_true c2.symm
    omega
theorem range_empty {l : List EntS} (hr : RiseE l) {h : Nat} {a b : Int} {lo hi : Nat} (h1 : lo ≤ l.countP (srchQ h a)) (h2 : l.countP (thruQ h b) ≤ hi) (h3 : hi ≤ lo) : rangeE l h a b = [] := by
  rw [← range_window hr h1 h2, Nat.sub_eq_zero_of_le h3]
  rfl
theorem IsCut.window {q : EntS → Bool} {l : List EntS} {k lo hi : Nat} (h : IsCut q l k) (h1 : lo ≤ k) : IsCut q ((l.drop lo).take (hi - lo)) (k - lo) := by
  intro i x hx
  rw [window_at] at hx
  split at hx
  · rw [h _ x hx, decide_eq_decide]
    omega
  · cases hx
theorem last_window {l : List EntS} (hr : RiseE l) {h : Nat} {b : Int} {lo hi : Nat} (h1 : lo - 1 ≤ l.countP (thruQ h b) - 1) (h1' : lo ≤ l.countP (thruQ h b)) (h2 : l.countP (thruQ h b) ≤ hi) (h3 : hi ≤ l.length) : lastO ((l.drop (lo - 1)).take (hi - (lo - 1))) h b = lastO l h b := by
  have hc := cut_count (thru_down h b) hr
  generalize l.countP (thruQ h b) = K at *
  cases K with
  | zero =>
    have hw := IsCut.window (lo := lo - 1) (hi := hi) hc (by omega)
    rw [show 0 - (lo - 1) = 0 by omega] at hw
    rw [last_cut_zero hc, last_cut_zero hw]
  | succ k =>
    have hw := IsCut.window (lo := lo - 1) (hi := hi) hc (by omega)
    have hk : k < l.length := by omega
    have hx : l[k]? = some l[k] := List.getElem?_eq_getElem hk
    have hx2 : ((l.drop (lo - 1)).take (hi - (lo - 1)))[k - (lo - 1)]? = some l[k] := by rw [window_at, if_pos (by omega), show lo - 1 + (k - (lo - 1)) = k by omega]; exact hx
    rw [show k + 1 - (lo - 1) = k - (lo - 1) + 1 by omega] at hw
    by_cases e : (l[k]).h = h
    · rw [last_cut hc hx e, last_cut hw hx2 e]
    · rw [last_cut_no hr hc hx e, last_cut_no (window_rise hr _ _) hw hx2 e]
/-- Versions that no entry has. -/
theorem range_low {l : List EntS} (hm : ∀ x ∈ l, mayE x = true) (h : Nat) (a b : Int) : rangeE l h (max a 0) b = rangeE l h a b := by
  unfold rangeE
  refine List.filter_congr fun x hx => ?_
  have := of_decide_eq_true (hm x hx)
  unfold inQ
  rw [decide_eq_decide]
  omega
theorem last_low {l : List EntS} (hm : ∀ x ∈ l, mayE x = true) (h : Nat) {b : Int} (hb : b < 0) : lastO l h b = none := last_none fun x hx => by
  have := of_decide_eq_true (hm x hx)
  exact decide_eq_false (by omega)
/-- What the filter keeps out is not there. -/
theorem keeps_range {t : ByteArray} {l : List EntS} (hk : keepsP t l = true) {h : Nat} (hn : mayP l t h = false) (a b : Int) : rangeE l h a b = [] ∧ lastO l h b = none := by
  have hno : ∀ x ∈ l, ¬ x.h = h := fun x hx e => by
    have h1 := keepsP_iff.1 hk x hx
    have h2 : 0 < l.length := List.length_pos_of_mem hx
    unfold mayP at hn
    rw [decide_eq_true h2, ← e, h1] at hn
    cases hn
  exact ⟨List.filter_eq_nil_iff.2 fun x hx hq => hno x hx (of_decide_eq_true hq).1, last_none fun x hx => decide_eq_false fun c => hno x hx c.1⟩
end Go.Proofs.YtmbhafabphogdaaGreat
