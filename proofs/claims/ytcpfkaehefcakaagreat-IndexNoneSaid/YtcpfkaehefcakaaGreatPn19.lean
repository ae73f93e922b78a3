/- ZnPtMath, ZnPtMem, ZnPtSmall, ZnPtAsk, ZnPtRead, ZnPtRange -/
import Derived.Test.YtcpfkaehefcakaaGreatPn17
import Derived.Test.YtcpfkaehefcakaaGreatPn07
import Derived.Test.YtcpfkaehefcakaaGreatPn03
import Derived.Test.YtcpfkaehefcakaaGreatPn04
import Derived.Test.YtcpfkaehefcakaaGreatPn02
import Derived.Test.YtcpfkaehefcakaaGreatPn08
import Derived.Deep.RegionHeld3
import Derived.Deep.DeepMust
namespace Go.Proofs.YtcpfkaehefcakaaGreat
set_option maxRecDepth 100000
set_option linter.unusedVariables false
section
def ptT (n : Int) : ByteArray := nmS 116 n
def ptB (n : Int) : ByteArray := nmS 98 n
theorem pt_size (c : UInt8) (n : Int) : (nmS c n).size ≤ 7 := by
  unfold nmS
  split
  · rw [bs_size, List.length_cons, de_length]
    omega
  · exact Nat.zero_le _
theorem ptT_le (n : Int) : (ptT n).size ≤ maxLen := Nat.le_trans (pt_size 116 n) (by decide)
theorem ptB_le (n : Int) : (ptB n).size ≤ maxLen := Nat.le_trans (pt_size 98 n) (by decide)
theorem pt_name {n : Nat} (h : n ≤ 999999) : nameB (ptT n) = true ∧ nameB (ptB n) = true := by
  unfold ptT ptB nameB
  rw [nm_size h, nm_size h]
  decide
theorem pt_full {n : Nat} (h : n ≤ 999999) : ptT n ≠ ByteArray.empty := by
  intro e
  have := nm_size (c := 116) h
  rw [show nmS 116 (n : Nat) = ByteArray.empty from e] at this
  exact absurd this (by decide)
theorem pt_ne {n m : Nat} (h : n ≤ 999999) (k : m ≤ 999999) : ptB n ≠ ptT m := by
  unfold ptB ptT
  rw [nm_yes h, nm_yes k]
  intro e
  have h2 := congrArg (fun s : ByteArray => s.data.toList.head?) e
  simp only [dbs, List.head?_cons] at h2
  exact absurd h2 (by decide)
def writeP (D : DiskS) (n : Int) (l : List EntS) (t : ByteArray) : Nat × DiskS :=
  if ptT n = ByteArray.empty ∨ tbOk l = false then (2, D)
  else if D.down = true then (61, D)
  else if (D.cap : Int) - (usedS D.l : Nat) - (t.size : Nat) - ((tbB l).size : Nat) < 6000 then (60, D)
  else if (layP D (ptB n) t).1 ≠ 0 then layP D (ptB n) t
  else if (layP (layP D (ptB n) t).2 (ptT n) (tbB l)).1 ≠ 0 then ((layP (layP D (ptB n) t).2 (ptT n) (tbB l)).1, (deleteS (layP (layP D (ptB n) t).2 (ptT n) (tbB l)).2 (ptB n)).2)
  else layP (layP D (ptB n) t).2 (ptT n) (tbB l)
def goneP (r : Nat) : Bool := decide (r = 0) || decide (r = 4)
def dropP (D : DiskS) (n : Int) : Nat × DiskS :=
  if goneP (deleteS D (ptT n)).1 = false then deleteS D (ptT n)
  else if goneP (deleteS (deleteS D (ptT n)).2 (ptB n)).1 = false then deleteS (deleteS D (ptT n)).2 (ptB n)
  else (0, (deleteS (deleteS D (ptT n)).2 (ptB n)).2)
def keepsP (t : ByteArray) (l : List EntS) : Bool := l.all fun x => mayT t x.h
theorem keepsP_iff {t : ByteArray} {l : List EntS} : keepsP t l = true ↔ ∀ x ∈ l, mayT t x.h = true := by unfold keepsP; rw [List.all_eq_true]
theorem keeps_none (l : List EntS) : keepsP ByteArray.empty l = true := keepsP_iff.2 fun x _ => mayT_no (hdOk_short (by decide)) _
def ldF (D : DiskS) (n : Int) (l : List EntS) : ByteArray := if (rdW D (ptB n)).2.1 = 0 ∧ keepsP (rdW D (ptB n)).1 l = true then (rdW D (ptB n)).1 else ByteArray.empty
theorem ldF_keeps (D : DiskS) (n : Int) (l : List EntS) : keepsP (ldF D n l) l = true := by
  unfold ldF
  split
  · rename_i h; exact h.2
  · exact keeps_none l
def openE (D : DiskS) (n : Int) : Nat := if D.down = true then 61 else if (rdW D (ptT n)).2.1 ≠ 0 then 90 else if tgOk (rdW D (ptT n)).1 = false then 90 else 0
def openD (D : DiskS) (n : Int) : DiskS := if D.down = true then D else if (rdW D (ptT n)).2.1 ≠ 0 then (rdW D (ptT n)).2.2 else if tgOk (rdW D (ptT n)).1 = false then (rdW D (ptT n)).2.2 else (rdW (rdW D (ptT n)).2.2 (ptB n)).2.2
def toldP (e : Nat) : Nat := if e = 0 then 0 else if e = 61 then 61 else 90
def readyP (D : DiskS) (n : Int) : Nat := toldP (sizeS D (ptT n)).2
def mayP (l : List EntS) (t : ByteArray) (h : Nat) : Bool := decide (0 < l.length) && mayT t h
def pcP (s : ByteArray) (i : Nat) : ByteArray := s.extract (24 * i) (24 * i + 24)
def okP (s : ByteArray) (m : Nat) : Bool := (List.range m).all fun i => enOk (pcP s i)
def gotP (s : ByteArray) (m : Nat) : List EntS := (List.range m).map fun i => enG (pcP s i)
theorem okP_iff {s : ByteArray} {m : Nat} : okP s m = true ↔ ∀ i, i < m → enOk (pcP s i) = true := by unfold okP; rw [List.all_eq_true]; simp
theorem gotP_length (s : ByteArray) (m : Nat) : (gotP s m).length = m := by unfold gotP; rw [List.length_map, List.length_range]
def aheadP (s : ByteArray) : ByteArray := bs (List.replicate 8 0 ++ s.data.toList)
theorem ahead_piece (s : ByteArray) (i : Nat) : tbPiece (aheadP s) i = pcP s i := by
  unfold tbPiece pcP aheadP
  rw [sl_extbs, sl_extbs, sl_list, show 8 + 24 * i = (List.replicate 8 (0 : UInt8)).length + 24 * i by rw [List.length_replicate], List.drop_length_add_append, show 32 + 24 * i - ((List.replicate 8 (0 : UInt8)).length + 24 * i) = 24 by rw [List.length_replicate]; omega, show 24 * i + 24 - 24 * i = 24 by omega]
theorem ahead_got (s : ByteArray) (m : Nat) : tbGot (aheadP s) m = gotP s m := by
  unfold tbGot gotP
  simp only [ahead_piece]
theorem pc_of {s : ByteArray} {lo hi i : Nat} (hi2 : i < hi - lo) : pcP (s.extract (8 + 24 * lo) (8 + 24 * hi)) i = tbPiece s (lo + i) := by
  unfold pcP tbPiece
  rw [sl_extbs, sl_extbs s, sl_extbs s, sl_list, List.drop_take, List.take_take, List.drop_drop, show 24 * i + 24 - 24 * i = 24 by omega, show 32 + 24 * (lo + i) - (8 + 24 * (lo + i)) = 24 by omega,
    show 8 + 24 * lo + 24 * i = 8 + 24 * (lo + i) by omega, Nat.min_eq_left (by omega)]
theorem got_of {s : ByteArray} (h : tgOk s = true) {lo hi : Nat} (hh : hi ≤ (tgL s).length) : okP (s.extract (8 + 24 * lo) (8 + 24 * hi)) (hi - lo) = true ∧ gotP (s.extract (8 + 24 * lo) (8 + 24 * hi)) (hi - lo) = ((tgL s).drop lo).take (hi - lo) := by
  obtain ⟨h1, h2, h3, h4, h5, h6, h7⟩ := tgOk_iff.1 h
  rw [(tg_yes h).1] at hh ⊢
  rw [tbGot_length] at hh
  refine ⟨okP_iff.2 fun i hi2 => by rw [pc_of hi2]; exact h6 _ (by omega), ?_⟩
  apply List.ext_getElem?
  intro i
  unfold gotP
  rw [List.getElem?_map, List.getElem?_take, List.getElem?_drop]
  by_cases c : i < hi - lo
  · rw [if_pos c, List.getElem?_range c, tbGot_at _ (by omega)]
    show some (enG (pcP _ i)) = _
    rw [pc_of c]
  · rw [if_neg c, List.getElem?_eq_none (by rw [List.length_range]; omega)]
    rfl
theorem tg_rise {s : ByteArray} (h : tgOk s = true) : RiseE (tgL s) ∧ (∀ x ∈ tgL s, mayE x = true) ∧ s.size = 12 + 24 * (tgL s).length := by
  obtain ⟨h1, h2, h3, h4, h5, h6, h7⟩ := tgOk_iff.1 h
  rw [(tg_yes h).1, tbGot_length]
  exact ⟨sorted_rise h7, got_may s h6, h4⟩
theorem got_entok (s : ByteArray) : ∀ x : ByteArray, EntOk (enG x) := by
  intro x
  unfold enG
  split
  · rename_i h
    have := of_decide_eq_true h
    exact ⟨getS_lt _, by simp only; omega, by simp only; omega, by simp only; omega, by simp only; omega⟩
  · exact ⟨by decide, by decide, by decide, by decide, by decide⟩
theorem tg_entok (s : ByteArray) : ∀ x ∈ tgL s, EntOk x := by
  intro x hx
  unfold tgL tbGot at hx
  split at hx
  · obtain ⟨i, _, rfl⟩ := List.mem_map.1 hx
    exact got_entok s _
  · cases hx
theorem filter_window {q : EntS → Bool} {l : List EntS} {lo hi : Nat} (h : ∀ (i : Nat) (x : EntS), l[i]? = some x → q x = true → lo ≤ i ∧ i < hi) : l.filter q = ((l.drop lo).take (hi - lo)).filter q := by
  have e : l = l.take lo ++ ((l.drop lo).take (hi - lo) ++ (l.drop lo).drop (hi - lo)) := by rw [List.take_append_drop, List.take_append_drop]
  have e1 : (l.take lo).filter q = [] := List.filter_eq_nil_iff.2 fun y hy hq => by
    obtain ⟨j, hj⟩ := List.getElem?_of_mem hy
    have hjl := (List.getElem?_eq_some_iff.1 hj).1
    rw [List.length_take] at hjl
    rw [List.getElem?_take, if_pos (by omega)] at hj
    have := (h j y hj hq).1
    omega
  have e2 : ((l.drop lo).drop (hi - lo)).filter q = [] := List.filter_eq_nil_iff.2 fun y hy hq => by
    obtain ⟨j, hj⟩ := List.getElem?_of_mem hy
    rw [List.getElem?_drop, List.getElem?_drop] at hj
    have := (h _ y hj hq).2
    omega
  conv => lhs; rw [e]
  rw [List.filter_append, List.filter_append, e1, e2, List.nil_append, List.append_nil]
theorem window_rise {l : List EntS} (h : RiseE l) (lo m : Nat) : RiseE ((l.drop lo).take m) := List.Pairwise.take (List.Pairwise.drop h)
theorem window_mem {l : List EntS} {lo m : Nat} {x : EntS} (h : x ∈ (l.drop lo).take m) : x ∈ l := List.mem_of_mem_drop (List.mem_of_mem_take h)
theorem less_zero {y : EntS} {h : Nat} {v : Int} (hm : mayE y = true) : lessE y ⟨h, v, 0⟩ = srchQ h v y := by
  have := of_decide_eq_true hm
  unfold lessE srchQ
  rw [decide_eq_decide]
  simp only
  omega
theorem srch_next (h : Nat) (v : Int) (y : EntS) : srchQ h (v + 1) y = thruQ h v y := by
  unfold srchQ thruQ
  rw [decide_eq_decide]
  omega
theorem count_zero {l : List EntS} (hm : ∀ x ∈ l, mayE x = true) (h : Nat) (v : Int) : l.countP (fun y => lessE y ⟨h, v, 0⟩) = l.countP (srchQ h v) := List.countP_congr fun y hy => by rw [less_zero (hm y hy)]
theorem count_next (l : List EntS) (h : Nat) (v : Int) : l.countP (srchQ h (v + 1)) = l.countP (thruQ h v) := List.countP_congr fun y hy => by rw [srch_next]
theorem range_window {l : List EntS} (hr : RiseE l) {h : Nat} {a b : Int} {lo hi : Nat} (h1 : lo ≤ l.countP (srchQ h a)) (h2 : l.countP (thruQ h b) ≤ hi) : rangeE ((l.drop lo).take (hi - lo)) h a b = rangeE l h a b := by
  unfold rangeE
  refine (filter_window fun i x hx hq => ?_).symm
  have hq := of_decide_eq_true hq
  have c1 := cut_count (srch_down h a) hr i x hx
  have c2 := cut_count (thru_down h b) hr i x hx
  constructor
  · have : srchQ h a x = false := decide_eq_false (by omega)
    rw [this] at c1
    have := of_decide_eq_false c1.symm
    omega
  · have : thruQ h b x = true := decide_eq_true (by omega)
    rw [this] at c2
    have := of_decide_eq_true c2.symm
    omega
theorem range_empty {l : List EntS} (hr : RiseE l) {h : Nat} {a b : Int} {lo hi : Nat} (h1 : lo ≤ l.countP (srchQ h a)) (h2 : l.countP (thruQ h b) ≤ hi) (h3 : hi ≤ lo) : rangeE l h a b = [] := by
  rw [← range_window hr h1 h2, Nat.sub_eq_zero_of_le h3]
  rfl
theorem range_low {l : List EntS} (hm : ∀ x ∈ l, mayE x = true) (h : Nat) (a b : Int) : rangeE l h (max a 0) b = rangeE l h a b := by
  unfold rangeE
  refine List.filter_congr fun x hx => ?_
  have := of_decide_eq_true (hm x hx)
  unfold inQ
  rw [decide_eq_decide]
  omega
theorem keeps_range {t : ByteArray} {l : List EntS} (hk : keepsP t l = true) {h : Nat} (hn : mayP l t h = false) (a b : Int) : rangeE l h a b = [] ∧ lastO l h b = none := by
  have hno : ∀ x ∈ l, ¬ x.h = h := fun x hx e => by
    have h1 := keepsP_iff.1 hk x hx
    have h2 : 0 < l.length := List.length_pos_of_mem hx
    unfold mayP at hn
    rw [decide_eq_true h2, ← e, h1] at hn
    cases hn
  exact ⟨List.filter_eq_nil_iff.2 fun x hx hq => hno x hx (of_decide_eq_true hq).1, last_none fun x hx => decide_eq_false fun c => hno x hx c.1⟩
end
end Go.Proofs.YtcpfkaehefcakaaGreat
namespace Go.Proofs.YtcpfkaehefcakaaGreat
open Go.RowKit
set_option linter.unusedVariables false
set_option maxRecDepth 100000
def LEnd (At : Lies) (w0 : World) (gd : Nat) (l : List EntS) (r : Nat) (D' : DiskS) (E : List Nat) (w : World) (e : Ending) (w' : World) : Prop :=
  ∃ A c, e = .returned (.tuple #[.slice A l.length c, .int .i64 (r : Nat)]) ∧ EntRow w' w.heap.size (.slice A l.length c) l ∧ DS At w0 gd D' (ownL (.slice A l.length c) ++ E) w' ∧ Kept E w w'
section
variable {E E' : List Nat} {w w' w'' : World}
theorem Kept.row {base : Nat} {v : Value} {l : List EntS} (h : Kept E w w') (hr : EntRow w base v l) (hE : ∀ b ∈ ownL v, b ∈ E) : EntRow w' base v l := by
  refine ⟨hr.1, ?_⟩
  rcases hr.2 with h0 | ⟨g, cap, cur, hv, hg, hh, r⟩
  · exact Or.inl h0
  · exact Or.inr ⟨g, cap, cur, hv, hg, (h.block g (hE g (ownL_mem.2 (by rw [hv]; rfl)))).trans hh, r⟩
theorem Kept.mids {v : Value} {l : List MidS} (h : Kept E w w') (hm : MidsIn w v l) (hE : ∀ b ∈ ownL v, b ∈ E) : MidsIn w' v l := by
  rcases hm with hm | ⟨b, off, cap, rfl, h1, h2, h3, h4⟩
  · exact Or.inl hm
  · exact Or.inr ⟨b, off, cap, rfl, h1, h2, Nat.lt_of_lt_of_le h3 h.size, fun i x hx j u hu => (World.cell?_of_block (w := w) (h.block b (hE b (ownL_mem.2 rfl)))).trans (h4 i x hx j u hu)⟩
theorem Kept.ents {v : Value} {l : List EntS} (h : Kept E w w') (hm : EntsIn w v l) (hE : ∀ b ∈ ownL v, b ∈ E) : EntsIn w' v l := by
  rcases hm with hm | ⟨b, off, cap, rfl, h1, h2, h3, h4⟩
  · exact Or.inl hm
  · exact Or.inr ⟨b, off, cap, rfl, h1, h2, Nat.lt_of_lt_of_le h3 h.size, fun i x hx j u hu => (World.cell?_of_block (w := w) (h.block b (hE b (ownL_mem.2 rfl)))).trans (h4 i x hx j u hu)⟩
theorem Kept.filter {f : Value} {t : ByteArray} {p q : Value} {m : Option Nat} (h : Kept E w w') (hf : FilterAt w (.agg #[p, q, .map m]) t) (hE : ∀ b, m = some b → b ∈ E) : FilterAt w' (.agg #[p, q, .map m]) t := by
  rcases hf with hf | ⟨h1, mb, e, hm⟩
  · exact Or.inl hf
  · refine Or.inr ⟨h1, mb, e, hm.of_block (h.block mb (hE mb ?_))⟩
    injection e with e
    have := congrArg (fun a => a[2]?) e
    simpa using this
theorem touch_3 {g : Nat} (w : World) (a b c : Value) : Touch [g] w (((w.setCell ⟨g, 0, none⟩ a).setCell ⟨g, 1, none⟩ b).setCell ⟨g, 2, none⟩ c) :=
  (((Touch.refl [g] w).setCell (p := ⟨g, 0, none⟩) (Or.inl (List.mem_singleton.2 rfl)) a).setCell (p := ⟨g, 1, none⟩) (Or.inl (List.mem_singleton.2 rfl)) b).setCell (p := ⟨g, 2, none⟩) (Or.inl (List.mem_singleton.2 rfl)) c
theorem row_own {base : Nat} {v : Value} {l : List EntS} (h : EntRow w base v l) : ∀ b ∈ ownL v, base ≤ b ∧ b < w.heap.size := by
  intro b hb
  have hb := ownL_mem.1 hb
  rcases h.2 with ⟨rfl, -⟩ | ⟨g, cap, cur, rfl, hg, hh, -⟩
  · cases hb
  · have e : g = b := by simpa [Value.ownBlock] using hb
    rw [← e]
    exact ⟨hg, (Array.getElem?_eq_some_iff.1 hh).1⟩
end
def PtAt (w : World) (gt gd : Nat) (n : Int) (l : List EntS) (t : ByteArray) (G : List Nat) : Prop :=
  ∃ A c p q m, Blok w gt 146 #[ptr gt, ptr gd, .int .i64 n, .int .i64 (l.length : Nat), .slice A (midsL l).length c, .int .i64 p, .int .i64 q, .map m] ∧
    MidsIn w (.slice A (midsL l).length c) (midsL l) ∧ FilterAt w (.agg #[.int .i64 p, .int .i64 q, .map m]) t ∧ gt ∈ G ∧ (∀ b ∈ ownL (.slice A (midsL l).length c), b ∈ G) ∧ ∀ b, m = some b → b ∈ G
section
variable {w w' : World} {gt gd : Nat} {n : Int} {l : List EntS} {t : ByteArray} {G E : List Nat}
theorem PtAt.keep (h : PtAt w gt gd n l t G) (hk : Kept E w w') (hG : ∀ b ∈ G, b ∈ E) : PtAt w' gt gd n l t G := by
  obtain ⟨A, c, p, q, m, h1, h2, h3, h4, h5, h6⟩ := h
  exact ⟨A, c, p, q, m, hk.blok h1 (hG gt h4), hk.mids h2 (fun b hb => hG b (h5 b hb)), hk.filter (f := .nilIface) h3 (fun b hb => hG b (h6 b hb)), h4, h5, h6⟩
theorem PtAt.below (h : PtAt w gt gd n l t G) (hb : Below w.heap.size w w') : PtAt w' gt gd n l t G := by
  obtain ⟨A, c, p, q, m, h1, h2, h3, h4, h5, h6⟩ := h
  exact ⟨A, c, p, q, m, Blok.below h1 hb, h2.below hb (Nat.le_refl _), h3.below hb, h4, h5, h6⟩
theorem PtAt.drew (h : PtAt w gt gd n l t G) : PtAt w.drew gt gd n l t G := h.below (Below.refl _ _).drew
theorem PtAt.cells (h : PtAt w gt gd n l t G) : w.cell? ⟨gt, 0, none⟩ = some (ptr gt) ∧ w.cell? ⟨gt, 1, none⟩ = some (ptr gd) ∧ w.cell? ⟨gt, 2, none⟩ = some (.int .i64 n) ∧ w.cell? ⟨gt, 3, none⟩ = some (.int .i64 (l.length : Nat)) := by
  obtain ⟨A, c, p, q, m, h1, -⟩ := h
  exact ⟨h1.cell 0, h1.cell 1, h1.cell 2, h1.cell 3⟩
end
end Go.Proofs.YtcpfkaehefcakaaGreat
namespace Go.Proofs.YtcpfkaehefcakaaGreat
open Go.RowKit
set_option linter.unusedVariables false
set_option maxRecDepth 100000
theorem info_ptab : (Tryz.prog.info? 146).map (·.size) = some 8 := by kernel_rfl
theorem ptsame_in (d : Nat) (p : Addr) (w : World) : (Op.equalIn (d + 1) 86 (.pointer (some p)) (.pointer (some p))).run Tryz.prog w = .ok true w := by
  cases hq : Tryz.prog.info? 146 with
  | none => have := info_ptab; rw [hq] at this; cases this
  | some i =>
    have hi : i.size = 8 := by have := info_ptab; rw [hq] at this; simpa using this
    simp [Op.equalIn, run_underlying Tryz.underlying86, sizeOf, typeInfo, hq, sameAddr]
theorem ptsame_ptr (p : Addr) (w : World) : (binOp .neq 86 (.pointer (some p)) (.pointer (some p))).run Tryz.prog w = .ok (.bool false) w := by
  have he : (Op.equal 86 (.pointer (some p)) (.pointer (some p))).run Tryz.prog w = .ok true w := ptsame_in 9999 p w
  simp only [binOp]
  simp [he]
theorem ptnone_run {w : World} {gt : Nat} (h : w.cell? ⟨gt, 0, none⟩ = some (ptr gt)) : Calls Tryz.prog 158 #[ptr gt] w fun e w' => e = .returned (.bool false) ∧ w = w' := by
  have hsp := ptsame_ptr ⟨gt, 0, none⟩
  go_enter Tryz.func158, Tryz.ntmps158
  go_wp2
  go_ret
  exact ⟨rfl, rfl⟩
theorem ptnone_nil (w : World) : Calls Tryz.prog 158 #[.pointer none] w fun e w' => e = .returned (.bool true) ∧ w = w' := by
  go_enter Tryz.func158, Tryz.ntmps158
  go_wp2
  go_ret
  exact ⟨rfl, rfl⟩
section
variable {w : World} {gt gd : Nat} {n : Int} {l : List EntS} {t : ByteArray} {G : List Nat}
theorem ptnum_run (h : PtAt w gt gd n l t G) : Calls Tryz.prog 104 #[ptr gt] w fun e w' => e = .returned (.int .i64 n) ∧ w = w' := by
  obtain ⟨c0, c1, c2, c3⟩ := h.cells
  have hn := Lib.hid (ptnone_run c0)
  clear h c0 c1 c3
  go_enter Tryz.func104, Tryz.ntmps104
  go_wp2_with fail
  refine hn.out.mono ?_
  rintro e w' ⟨rfl, rfl⟩
  go_wp2
  go_ret
  exact ⟨rfl, rfl⟩
theorem ptmay_run (h : PtAt w gt gd n l t G) (x : Nat) (hx : x < 18446744073709551616) : Calls Tryz.prog 116 #[ptr gt, .int .u64 (x : Nat)] w fun e w' => e = .returned (.bool (mayP l t x)) ∧ Below w.heap.size w w' := by
  obtain ⟨A, c, p, q, m, h1, h2, h3, -⟩ := h
  have c0 : w.cell? ⟨gt, 0, none⟩ = some (ptr gt) := h1.cell 0
  have c3 : w.cell? ⟨gt, 3, none⟩ = some (.int .i64 (l.length : Nat)) := h1.cell 3
  have c5 : w.cell? ⟨gt, 5, none⟩ = some (.int .i64 p) := h1.cell 5
  have c6 : w.cell? ⟨gt, 6, none⟩ = some (.int .i64 q) := h1.cell 6
  have c7 : w.cell? ⟨gt, 7, none⟩ = some (.map m) := h1.cell 7
  have hn := Lib.hid (ptnone_run c0)
  have hM := Lib.hid (fmay_any _ x t w hx h3)
  unfold mayP
  by_cases h0 : 0 < l.length
  · have t0 : decide ((0 : Int) < (l.length : Int)) = true := decide_eq_true (by omega)
    rw [decide_eq_true h0, Bool.true_and]
    generalize mayT t x = r at *
    generalize l.length = k at *
    clear h1 h2 h3 c0 hx
    go_enter Tryz.func116, Tryz.ntmps116
    go_wp2_with fail
    refine hn.out.mono ?_
    rintro e w' ⟨rfl, rfl⟩
    go_wp2_with fail
    refine hM.out.mono ?_
    rintro e w' ⟨rfl, hb⟩
    go_wp2
    go_ret
    exact ⟨rfl, hb⟩
  · have e0 : l.length = 0 := by omega
    rw [decide_eq_false h0, Bool.false_and]
    rw [e0] at c3
    clear h1 h2 h3 c0 h0 hx hM c5 c6 c7
    go_enter Tryz.func116, Tryz.ntmps116
    go_wp2_with fail
    refine hn.out.mono ?_
    rintro e w' ⟨rfl, rfl⟩
    go_wp2
    go_ret
    exact ⟨rfl, Below.refl _ _⟩
end
theorem told_run (k : Nat) (w : World) (hk : k ≤ 1000) : Calls Tryz.prog 161 #[err k] w fun e w' => e = .returned (err (toldP k)) ∧ w = w' := by
  unfold toldP
  by_cases h0 : k = 0
  · subst h0
    rw [if_pos rfl]
    go_enter Tryz.func161, Tryz.ntmps161
    go_wp2
    go_ret
    exact ⟨rfl, rfl⟩
  · rw [if_neg h0]
    by_cases h1 : k = 61
    · subst h1
      rw [if_pos rfl]
      go_enter Tryz.func161, Tryz.ntmps161
      go_wp2
      go_ret
      exact ⟨rfl, rfl⟩
    · rw [if_neg h1]
      have t0 : ((k : Int) == 0) = false := by simp; omega
      have t1 : ((k : Int) == 61) = false := by simp; omega
      go_enter Tryz.func161, Tryz.ntmps161
      go_wp2
      go_ret
      exact ⟨rfl, rfl⟩
section
variable {At : Lies} (api : DiskApi At) {w0 w : World} {gd : Nat} {D : DiskS} {E : List Nat}
include api
theorem ptup_run (h : DS At w0 gd D E w) (ok : WfP D) : Calls Tryz.prog 83 #[ptr gd] w fun e w' => e = .returned (err (if D.down = true then 61 else 0)) ∧ w = w' := by
  have hS := h.size api ok ⟨#[110, 101, 119]⟩ (by decide)
  rcases sizeS_two D ⟨#[110, 101, 119]⟩ with ⟨h1, h2⟩ | ⟨h1, h2⟩
  · rw [if_pos h1]
    rw [h2] at hS
    have HS := Lib.hid hS
    clear hS
    go_enter Tryz.func83, Tryz.ntmps83
    go_wp2_with fail
    refine HS.out.mono ?_
    rintro e w' ⟨rfl, rfl⟩
    go_wp2
    go_ret
    exact ⟨rfl, rfl⟩
  · rw [if_neg (by rw [h1]; decide)]
    have t1 : (((sizeS D ⟨#[110, 101, 119]⟩).2 : Int) == 1) = false := by simp; omega
    have t2 : (((sizeS D ⟨#[110, 101, 119]⟩).2 : Int) == 61) = false := by simp; omega
    have HS := Lib.hid hS
    generalize (sizeS D ⟨#[110, 101, 119]⟩).1 = a at *
    generalize (sizeS D ⟨#[110, 101, 119]⟩).2 = b at *
    clear hS h2
    go_enter Tryz.func83, Tryz.ntmps83
    go_wp2_with fail
    refine HS.out.mono ?_
    rintro e w' ⟨rfl, rfl⟩
    go_wp2
    go_ret
    exact ⟨rfl, rfl⟩
theorem ptlay_run (h : DS At w0 gd D E w) (ok : WfP D) (n s : ByteArray) (hn : n.size ≤ maxLen) (hs : s.size ≤ 1099511627776) : Calls Tryz.prog 153 #[ptr gd, .string n, .string s] w (DEnd At w0 gd (err (layP D n s).1) (layP D n s).2 E w) := by
  have k1 := h.disk api (fun F hF => api.create n hF ok.ok hn)
  have o1 := wp_create ok n
  have o2 := wp_append o1 n s
  have k2 := fun W (hW : DS At w0 gd (createS D n).2 E W) => hW.disk api (fun F hF => api.append n s hF o1.ok hs hn)
  have k3 := fun W (hW : DS At w0 gd (appendS (createS D n).2 n s).2 E W) => hW.disk api (fun F hF => api.sync n hF o2.ok hn)
  unfold layP
  by_cases h1 : (createS D n).1 = 0
  · rw [if_neg (by simp [h1])]
    rw [h1] at k1
    by_cases h2 : (appendS (createS D n).2 n s).1 = 0
    · rw [if_neg (by simp [h2])]
      rw [h2] at k2
      generalize syncS (appendS (createS D n).2 n s).2 n = X3 at *
      generalize (appendS (createS D n).2 n s).2 = D2 at *
      generalize (createS D n).2 = D1 at *
      have K1 := Lib.hid k1
      have K2 := Lib.hid k2
      have K3 := Lib.hid k3
      clear k1 k2 k3 h ok o1 o2 h1 h2 hn hs
      go_enter Tryz.func153, Tryz.ntmps153
      go_wp2_with fail
      refine K1.out.mono ?_
      rintro e w1 ⟨rfl, d1, q1⟩
      have H1 := Lib.hid (And.intro d1 q1)
      clear d1 q1
      go_wp2_with fail
      refine (K2.out _ H1.out.1).mono ?_
      rintro e w2 ⟨rfl, d2, q2⟩
      have H2 := Lib.hid (And.intro d2 q2)
      clear d2 q2
      go_wp2_with fail
      refine (K3.out _ H2.out.1).mono ?_
      rintro e w3 ⟨rfl, d3, q3⟩
      have H3 := Lib.hid (And.intro d3 q3)
      clear d3 q3
      go_wp2
      go_ret
      exact ⟨rfl, H3.out.1, (H1.out.2.trans H2.out.2).trans H3.out.2⟩
    · rw [if_pos h2]
      have t : (((appendS (createS D n).2 n s).1 : Int) != 0) = true := by simp; omega
      generalize appendS (createS D n).2 n s = X2 at *
      generalize (createS D n).2 = D1 at *
      generalize X2.1 = y at *
      have K1 := Lib.hid k1
      have K2 := Lib.hid k2
      clear k1 k2 k3 h ok o1 o2 h1 h2 hn hs
      go_enter Tryz.func153, Tryz.ntmps153
      go_wp2_with fail
      refine K1.out.mono ?_
      rintro e w1 ⟨rfl, d1, q1⟩
      have H1 := Lib.hid (And.intro d1 q1)
      clear d1 q1
      go_wp2_with fail
      refine (K2.out _ H1.out.1).mono ?_
      rintro e w2 ⟨rfl, d2, q2⟩
      have H2 := Lib.hid (And.intro d2 q2)
      clear d2 q2
      go_wp2
      go_ret
      exact ⟨rfl, H2.out.1, H1.out.2.trans H2.out.2⟩
  · rw [if_pos h1]
    have t : (((createS D n).1 : Int) != 0) = true := by simp; omega
    generalize createS D n = X1 at *
    generalize X1.1 = y at *
    have K1 := Lib.hid k1
    clear k1 k2 k3 h ok o1 o2 h1 hn hs
    go_enter Tryz.func153, Tryz.ntmps153
    go_wp2_with fail
    refine K1.out.mono ?_
    rintro e w1 ⟨rfl, d1, q1⟩
    have H1 := Lib.hid (And.intro d1 q1)
    clear d1 q1
    go_wp2
    go_ret
    exact ⟨rfl, H1.out.1, H1.out.2⟩
theorem whole_run (h : DS At w0 gd D E w) (ok : WfP D) (hc : D.count ≤ 1099511627776) (n : ByteArray) (hn : n.size ≤ maxLen) : Calls Tryz.prog 84 #[ptr gd, .string n] w (DEnd At w0 gd (.tuple #[.string (rdW D n).1, err (rdW D n).2.1]) (rdW D n).2.2 E w) := by
  have hz := sizeS_most ok n
  have k1 := h.size api ok n hn
  have k2 := h.disk api (fun F hF => api.read n 0 ((sizeS D n).1 : Nat) hF ok.ok hc (by decide) (WalkArith.wf_i64 (by omega)) hn)
  unfold rdW
  by_cases h1 : (sizeS D n).2 = 0
  · rw [if_pos h1]
    rw [h1] at k1
    generalize (sizeS D n).1 = z at *
    generalize readS D n 0 (z : Nat) = r at *
    have K1 := Lib.hid k1
    have K2 := Lib.hid k2
    clear k1 k2 h ok hc hn h1 hz
    go_enter Tryz.func84, Tryz.ntmps84
    go_wp2_with fail
    refine K1.out.mono ?_
    rintro e w1 ⟨rfl, rfl⟩
    go_wp2_with fail
    refine K2.out.mono ?_
    rintro e w2 ⟨rfl, d2, q2⟩
    have H2 := Lib.hid (And.intro d2 q2)
    clear d2 q2
    go_wp2
    go_ret2
    exact ⟨rfl, H2.out.1, H2.out.2⟩
  · rw [if_neg h1]
    have t : (((sizeS D n).2 : Int) != 0) = true := by simp; omega
    generalize (sizeS D n).1 = z at *
    generalize (sizeS D n).2 = y at *
    have K1 := Lib.hid k1
    have HH := Lib.hid h
    clear k1 k2 h ok hc hn h1 hz
    go_enter Tryz.func84, Tryz.ntmps84
    go_wp2_with fail
    refine K1.out.mono ?_
    rintro e w1 ⟨rfl, rfl⟩
    go_wp2
    go_ret2
    exact ⟨rfl, HH.out, Kept.refl _ _⟩
end
end Go.Proofs.YtcpfkaehefcakaaGreat
namespace Go.Proofs.YtcpfkaehefcakaaGreat
open Go.RowKit
set_option linter.unusedVariables false
set_option maxRecDepth 100000
section
variable {At : Lies} (api : DiskApi At) (nap : NamesApi) {w0 w : World} {gt gd : Nat} {D : DiskS} {E G : List Nat} {n : Int} {l : List EntS} {t : ByteArray}
include api nap
theorem ptready_run (h : DS At w0 gd D E w) (hp : PtAt w gt gd n l t G) (ok : WfP D) (wn : (Lit.int .i64 n).wf = true) : Calls Tryz.prog 115 #[ptr gt] w fun e w' => e = .returned (err (readyP D n)) ∧ Below w.heap.size w w' := by
  obtain ⟨c0, c1, c2, c3⟩ := hp.cells
  have hn := Lib.hid (ptnone_run c0)
  have hN := Lib.hid fun W => nap.table n W wn
  have hS := Lib.hid fun W (hW : Below w.heap.size w W) => (h.below api hW).size api ok (ptT n) (ptT_le n)
  have hT := Lib.hid fun W => told_run (sizeS D (ptT n)).2 W (by rcases sizeS_two D (ptT n) with ⟨-, e⟩ | ⟨-, e | e⟩ <;> rw [e] <;> decide)
  have HP := Lib.hid hp
  unfold readyP
  rw [show nmS 116 n = ptT n from rfl] at hN
  generalize toldP (sizeS D (ptT n)).2 = y at *
  generalize sizeS D (ptT n) = z at *
  generalize ptT n = nm at *
  clear h hp ok wn c0 c3
  go_enter Tryz.func115, Tryz.ntmps115
  go_wp2_with fail
  refine hn.out.mono ?_
  rintro e w' ⟨rfl, rfl⟩
  go_wp2_with fail
  go_region_held3 (fun w' => w'.cell? ⟨gt, 1, none⟩ = some (ptr gd) ∧ w'.cell? ⟨gt, 2, none⟩ = some (.int .i64 n)) (first | assumption | exact ⟨by assumption, by assumption⟩ | exact ⟨c1, c2⟩) (first
    | (go_at_call 85; refine (hN.out _).mono ?_; rintro e w1 ⟨rfl, hb⟩; have b1 := bj (show Below w.heap.size w _ from by first | exact (Below.refl _ _).drew | exact Below.refl _ _) hb; have d1 : w1.cell? ⟨gt, 1, none⟩ = some (ptr gd) := (HP.out.below b1).cells.2.1; have d2 : w1.cell? ⟨gt, 2, none⟩ = some (.int .i64 n) := (HP.out.below b1).cells.2.2.1)
    | (go_at_call 33; refine (hS.out _ b1).mono ?_; rintro e w2 ⟨rfl, rfl⟩)
    | fail)
  all_goals
    have B1 := Lib.hid b1
    clear b1 hb d1 d2
    go_wp2_with fail
    refine (hT.out _).mono ?_
    rintro e w3 ⟨rfl, rfl⟩
    go_wp2
    go_ret
    exact ⟨rfl, B1.out⟩
omit api nap in
theorem ahead_run (hp : PtAt w gt gd n l t G) (hn : l.length ≤ 1000000) (x : Nat) (v : Int) {lo hi : Nat} (hI : NarIs l ⟨x, v, 0⟩ lo hi) : Calls Tryz.prog 117 #[ptr gt, .int .u64 (x : Nat), .int .i64 v] w fun e w' => e = .returned (.tuple #[.int .i64 (lo : Nat), .int .i64 (hi : Nat)]) ∧ Below w.heap.size w w' := by
  obtain ⟨A, c, p, q, m, h1, h2, h3, -⟩ := hp
  have c3 : w.cell? ⟨gt, 3, none⟩ = some (.int .i64 (l.length : Nat)) := h1.cell 3
  have c4 : w.cell? ⟨gt, 4, none⟩ = some (.slice A (midsL l).length c) := h1.cell 4
  have hA := Lib.hid fun W (hW : Below w.heap.size w W) => hI.run (h2.below hW (Nat.le_refl _)) hn
  have HX := Lib.hid fun (w1 : World) (hb : Below w.heap.size w w1) => (show w1.cell? ⟨gt, 3, none⟩ = some (.int .i64 (l.length : Nat)) ∧ w1.cell? ⟨gt, 4, none⟩ = some (.slice A (midsL l).length c) from ⟨(Blok.below h1 hb).cell 3, (Blok.below h1 hb).cell 4⟩)
  generalize (midsL l).length = k at *
  generalize l.length = j at *
  clear h1 h2 h3 hI
  go_enter Tryz.func117, Tryz.ntmps117
  go_wp2_with fail
  go_region_held3 (fun w' => w'.cell? ⟨gt, 3, none⟩ = some (.int .i64 (j : Nat)) ∧ w'.cell? ⟨gt, 4, none⟩ = some (.slice A k c)) (first | assumption | exact ⟨by assumption, by assumption⟩ | exact ⟨c3, c4⟩) (first
    | (go_at_call 162; refine (hA.out _ (by first | exact (Below.refl _ _).drew | exact Below.refl _ _)).mono ?_; rintro e w1 ⟨rfl, hb⟩; have b1 := bj (show Below w.heap.size w _ from by first | exact (Below.refl _ _).drew | exact Below.refl _ _) hb; have d3 := (HX.out _ b1).1; have d4 := (HX.out _ b1).2)
    | fail)
  all_goals
    have B1 := Lib.hid b1
    clear b1 hb
    go_wp2
    go_ret2
    exact ⟨rfl, B1.out⟩
end
end Go.Proofs.YtcpfkaehefcakaaGreat
namespace Go.Proofs.YtcpfkaehefcakaaGreat
open Go.RowKit
set_option linter.unusedVariables false
set_option maxRecDepth 100000
section
variable {At : Lies} (api : DiskApi At) (nap : NamesApi) {w0 w : World} {gt gd : Nat} {D D' : DiskS} {E G : List Nat} {n : Int} {l : List EntS} {t : ByteArray}
include api nap
set_option maxHeartbeats 4000000 in
theorem read_run2 (h : DS At w0 gd D E w) (hp : PtAt w gt gd n l t G) (hG : ∀ b ∈ G, b ∈ E) (ok : WfP D) (hc : D.count ≤ 1099511627776) (wn : (Lit.int .i64 n).wf = true) (lo hi m : Nat) (hm : hi = lo + m) (hhi : hi ≤ 40000) (s : ByteArray)
    (hr : readS D (ptT n) ((8 + 24 * lo : Nat) : Int) ((24 * m : Nat) : Int) = (s, 0, D')) (hs : s.size = 24 * m) (hk : okP s m = true) :
    Calls Tryz.prog 118 #[ptr gt, .int .i64 (lo : Nat), .int .i64 (hi : Nat)] w (LEnd At w0 gd (gotP s m) 0 D' E w) := by
  obtain ⟨c0, c1, c2, c3⟩ := hp.cells
  have hN := Lib.hid fun W => nap.table n W wn
  rw [show nmS 116 n = ptT n from rfl] at hN
  obtain ⟨a, ha⟩ : ∃ a, a = 8 + 24 * lo := ⟨_, rfl⟩
  obtain ⟨b, hb⟩ : ∃ b, b = 8 + 24 * hi := ⟨_, rfl⟩
  obtain ⟨z, hz⟩ : ∃ z, z = 24 * m := ⟨_, rfl⟩
  have HA1 : Hid (∀ W, Calls Tryz.prog 145 #[.int .i64 (lo : Nat)] W fun e w' => e = .returned (.int .i64 (a : Nat)) ∧ W = w') := Lib.hid fun W => by
    have := tat_any (lo : Nat) W
    rw [(tbSz_nat (by omega)).2, ← ha] at this
    exact this
  have HA2 : Hid (∀ W, Calls Tryz.prog 145 #[.int .i64 (hi : Nat)] W fun e w' => e = .returned (.int .i64 (b : Nat)) ∧ W = w') := Lib.hid fun W => by
    have := tat_any (hi : Nat) W
    rw [(tbSz_nat (by omega)).2, ← hb] at this
    exact this
  rw [← ha, ← hz] at hr
  have hR := Lib.hid fun W (hW : Below w.heap.size w W) => (h.below api hW).disk api (v := .tuple #[.string s, .int .i64 0]) (D' := D') (fun F hF => by
    have := api.read (ptT n) (a : Nat) (z : Nat) hF ok.ok hc (WalkArith.wf_i64 (by omega)) (WalkArith.wf_i64 (by omega)) (ptT_le n)
    rw [hr] at this
    exact this)
  have e1 : IntKind.i64.wrap ((b : Int) - (a : Int)) = (z : Int) := by rw [IntWalk.i64_in _ ⟨by omega, by omega⟩]; omega
  have e2 : IntKind.i64.wrap ((hi : Int) - (lo : Int)) = (m : Int) := by rw [IntWalk.i64_in _ ⟨by omega, by omega⟩]; omega
  have e3 : (hi : Int) - (lo : Int) = (m : Int) := by omega
  have e4 : (b : Int) - (a : Int) = (z : Int) := by omega
  have e1z : IntKind.i64.wrap (z : Int) = (z : Int) := IntWalk.i64_in _ ⟨by omega, by omega⟩
  have HP := Lib.hid hp
  have HK := Lib.hid (okP_iff.1 hk)
  obtain ⟨Z, hZ1, hZ2⟩ := tb_make (aheadP s) m (by omega)
  have HZ2 := Lib.hid hZ2
  have HMS := Lib.hid (show ∀ k, k < m → (tbMade (aheadP s) m k).set k (enG (pcP s k)) = tbMade (aheadP s) m (k + 1) from fun k hk => by rw [← ahead_piece]; exact tbMade_set _ hk)
  have HMF := Lib.hid (show tbMade (aheadP s) m m = gotP s m by rw [tbMade_full, ahead_got])
  have HML := Lib.hid (show ∀ k, (tbMade (aheadP s) m k).length = m from fun k => tbMade_length _ m k)
  have HGL := Lib.hid (gotP_length s m)
  have hm2 : m ≤ 40000 := by omega
  have hw : IntKind.i64.wrap (m : Int) = (m : Int) := IntWalk.i64_in _ ⟨by omega, by omega⟩
  have HLT := Lib.hid h.lt
  have HDB := Lib.hid h.kept
  generalize ptT n = nm at *
  clear hr ha hb hk h hp ok hc wn c0 c3 hm hhi hZ2 hz
  go_enter Tryz.func118, Tryz.ntmps118
  go_wp2_with fail
  refine (HA1.out _).mono ?_
  rintro e w1 ⟨rfl, rfl⟩
  have HGE := Lib.hid hG
  go_wp2_with fail
  have hc12 := And.intro c1 c2
  go_region_held3 (fun w' => w'.cell? ⟨gt, 1, none⟩ = some (ptr gd) ∧ w'.cell? ⟨gt, 2, none⟩ = some (.int .i64 n)) (first | (with_reducible assumption) | (with_reducible exact ⟨by with_reducible assumption, by with_reducible assumption⟩) | exact hc12) (first
    | (go_at_call 85; refine (hN.out _).mono ?_; rintro e w1 ⟨rfl, hb⟩; have b1 := bj (show Below w.heap.size w _ from by first | (with_reducible exact (Below.refl _ _).drew) | (with_reducible exact Below.refl _ _)) hb; have d1 : w1.cell? ⟨gt, 1, none⟩ = some (ptr gd) := (HP.out.below b1).cells.2.1; have d2 : w1.cell? ⟨gt, 2, none⟩ = some (.int .i64 n) := (HP.out.below b1).cells.2.2.1; have b2 := b1.drew; have d3 := And.intro d1 d2)
    | (go_at_call 145; refine (HA2.out _).mono ?_; rintro e w2 ⟨rfl, rfl⟩)
    | (go_at_call 131; (try rw [e1z]); go_must (refine (hR.out _ (by first | (with_reducible exact b1) | (with_reducible exact b2))).mono ?_; rintro e w3 ⟨rfl, h3, q3⟩; have d5 := And.intro ((HP.out.below (by first | (with_reducible exact b1) | (with_reducible exact b2))).keep q3 HGE.out).cells.2.1 ((HP.out.below (by first | (with_reducible exact b1) | (with_reducible exact b2))).keep q3 HGE.out).cells.2.2.1))
    | fail)
  all_goals
    have Q3 : Kept E w w3 := by first | exact (Kept.of_below b1 HLT.out).trans q3 | exact (Kept.of_below b2 HLT.out).trans q3
    have H3 := Lib.hid (And.intro h3 Q3)
    have hR3 := HZ2.out w3
    have hb3 := (Below.refl w3.heap.size w3).alloc (Nat.le_refl _) (.cells Z 44)
    clear HZ2 h3 Q3 q3 d5 d3 b1 b2 hb d1 d2 hc12 c1 c2
    go_wp2
    go_loopw [45] (fun i wr => ∃ k : Nat, k ≤ m ∧ i = .int .i64 k ∧ EntRow wr w3.heap.size (.slice (some ⟨w3.heap.size, 0, none⟩) m m) (tbMade (aheadP s) m k) ∧ Below w3.heap.size w3 wr) (fun i _ => m - (intOf i).toNat)
    case atStart => exact ⟨0, Nat.zero_le _, rfl, hR3, hb3⟩
    case round =>
      obtain ⟨k, hk, rfl, hrow, hbel⟩ := hrel
      clear hR3 hb3 hZ1
      by_cases hlt : k < m
      · have s1 : (k : Int) < (m : Int) := by omega
        obtain ⟨a', ha'⟩ : ∃ a' : Nat, a' = 24 * k := ⟨_, rfl⟩
        obtain ⟨b', hb'⟩ : ∃ b' : Nat, b' = 24 * k + 24 := ⟨_, rfl⟩
        have eP : pcP s k = s.extract a' b' := by rw [ha', hb']; rfl
        have HG := fun W => eget_any (s.extract a' b') W (by unfold maxLen; rw [ByteArray.size_extract]; omega)
        have HMK := HMS.out k hlt
        have hkk := HK.out k hlt
        rw [eP] at HMK hkk
        rw [hkk] at HG
        have HG2 := Lib.hid HG
        have y1 : IntKind.i64.wrap ((k : Int) * 24) = (a' : Int) := by rw [IntWalk.i64_in _ ⟨by omega, by omega⟩]; omega
        have y2 : IntKind.i64.wrap ((k : Int) + 1) = (k : Int) + 1 := IntWalk.i64_in _ ⟨by omega, by omega⟩
        have y3 : IntKind.i64.wrap (((k : Int) + 1) * 24) = (b' : Int) := by rw [IntWalk.i64_in _ ⟨by omega, by omega⟩]; omega
        have x1 : (a' : Int) ≤ (b' : Int) := by omega
        have x2 : (b' : Int) ≤ (s.size : Int) := by omega
        have x3 : a' ≤ b' := by omega
        have x4 : b' ≤ s.size := by omega
        have HROW := Lib.hid hrow
        have HBEL := Lib.hid hbel
        have HMK2 := Lib.hid HMK
        clear eP ha' hb' hrow hbel HG hkk HMK hs
        generalize enG (s.extract a' b') = x at *
        obtain ⟨xh, xv, xp⟩ := x
        go_wp2_with fail
        refine (HG2.out _).mono ?_
        rintro e w4 ⟨rfl, hb4⟩
        have R2 := EntRow.below (HROW.out.below hb4 (Nat.le_refl _)) ((Below.refl w4.heap.size w4).alloc (Nat.le_refl _) (.cells #[.int .u64 (xh : Nat), .int .i64 xv, .int .i64 xp] 44)) (Nat.le_refl _)
        obtain ⟨⟨y, q0, q1, q2⟩, f0, f1, f2⟩ := R2.at_ (HML.out k).symm hlt
        have R3 := R2.put (HML.out k).symm hlt ⟨xh, xv, xp⟩
        rw [HMK2.out] at R3
        have R4 := Lib.hid R3
        have B4 := Lib.hid ((bj HBEL.out hb4).alloc (bj HBEL.out hb4).size (.cells #[.int .u64 (xh : Nat), .int .i64 xv, .int .i64 xp] 44))
        clear R3 R2 hb4
        go_wp2
        exact ⟨⟨k + 1, by omega, by go_num, R4.out, put3 B4.out (Nat.le_refl _) _ _ _⟩, by simp [intOf]; omega⟩
      · obtain rfl : k = m := by omega
        have s1 : ¬ (k : Int) < (k : Int) := by omega
        rw [HMF.out] at hrow
        have HROW := Lib.hid hrow
        have HBEL := Lib.hid hbel
        clear hrow hbel
        go_wp2
        go_ret2
        have hz := H3.out.2.size
        have hge : w3.heap.size ≤ wr.heap.size := HBEL.out.size
        refine ⟨some ⟨w3.heap.size, 0, none⟩, k, by rw [HGL.out]; rfl, by rw [HGL.out]; exact EntRow.down HROW.out hz, ?_, H3.out.2.trans (Kept.of_below HBEL.out H3.out.1.lt)⟩
        exact H3.out.1.more api HBEL.out (fun b hb => by
          obtain rfl : b = w3.heap.size := by simpa [ownL, Value.ownBlock] using hb
          exact ⟨Nat.le_refl _, by
            rcases HROW.out.2 with ⟨e, -⟩ | ⟨g, cap, cur, e, hg, hh, -⟩
            · cases e
            · have e2 := (Value.slice.inj e).1
              have e3 : w3.heap.size = g := by simpa using e2
              rw [e3]
              exact (Array.getElem?_eq_some_iff.1 hh).1⟩)
end
end Go.Proofs.YtcpfkaehefcakaaGreat
namespace Go.Proofs.YtcpfkaehefcakaaGreat
open Go.RowKit
set_option linter.unusedVariables false
set_option maxRecDepth 100000
def HasT (D : DiskS) (n : Int) (l : List EntS) : Prop := ∃ f, fileOf D.l (ptT n) = some f ∧ tgOk f.data = true ∧ tgL f.data = l
theorem HasT.count {D : DiskS} {n : Int} {l : List EntS} (h : HasT D n l) (k : Nat) : HasT { D with count := k } n l := h
theorem HasT.ready {D : DiskS} {n : Int} {l : List EntS} (h : HasT D n l) (hd : D.down = false) : readyP D n = 0 := by
  obtain ⟨f, h1, h2, h3⟩ := h
  unfold readyP
  rw [sizeS_of hd h1]
  rfl
theorem HasT.props {D : DiskS} {n : Int} {l : List EntS} (h : HasT D n l) : RiseE l ∧ (∀ x ∈ l, mayE x = true) ∧ ∀ x ∈ l, EntOk x := by
  obtain ⟨f, h1, h2, rfl⟩ := h
  obtain ⟨k1, k2, k3⟩ := tg_rise h2
  exact ⟨k1, k2, tg_entok _⟩
theorem HasT.read {D : DiskS} {n : Int} {l : List EntS} (h : HasT D n l) (hd : D.down = false) {lo m : Nat} (hm : lo + m ≤ l.length) : ∃ s, readS D (ptT n) ((8 + 24 * lo : Nat) : Int) ((24 * m : Nat) : Int) = (s, 0, { D with count := D.count + 1 }) ∧ s.size = 24 * m ∧ okP s m = true ∧ gotP s m = (l.drop lo).take m := by
  obtain ⟨f, h1, h2, rfl⟩ := h
  obtain ⟨k1, k2, k3⟩ := tg_rise h2
  have hg := got_of (lo := lo) (hi := lo + m) h2 hm
  rw [show 8 + 24 * (lo + m) = 8 + 24 * lo + 24 * m by omega, show lo + m - lo = m by omega] at hg
  exact ⟨_, readS_of hd h1 (by omega), by rw [ByteArray.size_extract]; omega, hg.1, hg.2⟩
section
variable {At : Lies} (api : DiskApi At) (nap : NamesApi) {w0 w : World} {gt gd : Nat} {D : DiskS} {E G : List Nat} {n : Int} {l : List EntS} {t : ByteArray}
include api nap
theorem read_t (h : DS At w0 gd D E w) (hp : PtAt w gt gd n l t G) (hG : ∀ b ∈ G, b ∈ E) (ok : WfP D) (hc : D.count ≤ 1099511627776) (wn : (Lit.int .i64 n).wf = true) (hd : D.down = false) (hT : HasT D n l) (lo hi : Nat) (hlh : lo ≤ hi) (hhi : hi ≤ l.length) (hl : l.length ≤ 40000) :
    Calls Tryz.prog 118 #[ptr gt, .int .i64 (lo : Nat), .int .i64 (hi : Nat)] w (LEnd At w0 gd ((l.drop lo).take (hi - lo)) 0 { D with count := D.count + 1 } E w) := by
  obtain ⟨s, h1, h2, h3, h4⟩ := hT.read (lo := lo) (m := hi - lo) hd (by omega)
  rw [← h4]
  exact read_run2 api nap h hp hG ok hc wn lo hi (hi - lo) (by omega) (by omega) s h1 h2 h3
theorem ptall_run (h : DS At w0 gd D E w) (hp : PtAt w gt gd n l t G) (hG : ∀ b ∈ G, b ∈ E) (ok : WfP D) (hc : D.count ≤ 1099511627776) (wn : (Lit.int .i64 n).wf = true) (hd : D.down = false) (hT : HasT D n l) (hl : l.length ≤ 40000) :
    Calls Tryz.prog 105 #[ptr gt] w (LEnd At w0 gd l 0 { D with count := D.count + 1 } E w) := by
  have hR := Lib.hid (ptready_run api nap h hp ok wn)
  rw [hT.ready hd] at hR
  have hA := Lib.hid fun W (hW : Below w.heap.size w W) => read_t api nap (h.below api hW) (hp.below hW) hG ok hc wn hd hT 0 l.length (Nat.zero_le _) (Nat.le_refl _) hl
  rw [List.drop_zero, show l.length - 0 = l.length from rfl, List.take_length] at hA
  have HC := Lib.hid fun W (hW : Below w.heap.size w W) => (hp.below hW).cells
  have HLT := Lib.hid h.lt
  clear h hp hG ok hc wn hd hT
  generalize hm : l.length = m at *
  have HM := Lib.hid hm
  clear hm
  go_enter Tryz.func105, Tryz.ntmps105
  go_wp2_with fail
  refine hR.out.mono ?_
  rintro e w1 ⟨rfl, b1⟩
  obtain ⟨c0, c1, c2, c3⟩ := HC.out w1 b1
  have HA := Lib.hid (hA.out w1 b1)
  have K1 := Lib.hid (Kept.of_below b1 HLT.out)
  clear b1 c0 c1 c2 hA
  go_wp2_with fail
  refine HA.out.mono ?_
  rintro e w2 ⟨A, c, rfl, r1, r2, r3⟩
  have H2 := Lib.hid (And.intro r1 (And.intro r2 r3))
  clear r1 r2 r3
  go_wp2
  go_ret2
  exact ⟨A, c, rfl, H2.out.1.down K1.out.size, H2.out.2.1, K1.out.trans H2.out.2.2⟩
set_option maxHeartbeats 1000000 in
theorem ptrange_run (h : DS At w0 gd D E w) (hp : PtAt w gt gd n l t G) (hG : ∀ b ∈ G, b ∈ E) (ok : WfP D) (hc : D.count ≤ 1099511627776) (wn : (Lit.int .i64 n).wf = true) (hd : D.down = false) (hT : HasT D n l) (hk : keepsP t l = true) (hl : l.length ≤ 40000)
    (x : Nat) (hx : x < 18446744073709551616) (a b : Int) (wa : (Lit.int .i64 a).wf = true) (wb : (Lit.int .i64 b).wf = true) :
    Calls Tryz.prog 58 #[ptr gt, .int .u64 (x : Nat), .int .i64 a, .int .i64 b] w fun e w' => ∃ k, k ≤ 1 ∧ (mayP l t x = false → k = 0) ∧ LEnd At w0 gd (rangeE l x a (min b 1073741824)) 0 { D with count := D.count + k } E w e w' := by
  obtain ⟨hr, hm, hok⟩ := hT.props
  have ba := bounds_i64 wa
  have bb := bounds_i64 wb
  obtain ⟨b', hb'⟩ : ∃ b', min b 1073741824 = b' := ⟨_, rfl⟩
  have i1 : (if (1073741824 : Int) < b then 1073741824 else b) = b' := by rw [← hb']; split <;> omega
  have i2 : IntKind.i64.wrap (b' + 1) = b' + 1 := IntWalk.i64_in _ ⟨by omega, by omega⟩
  rw [hb']
  have HLT := Lib.hid h.lt
  have hR := Lib.hid (ptready_run api nap h hp ok wn)
  rw [hT.ready hd] at hR
  have hM := Lib.hid fun W (hW : Below w.heap.size w W) => ptmay_run (hp.below hW) x hx
  have HNil : Hid (∀ w' : World, Below w.heap.size w w' → rangeE l x a b' = [] → ∃ k, k ≤ 1 ∧ (mayP l t x = false → k = 0) ∧ LEnd At w0 gd (rangeE l x a b') 0 { D with count := D.count + k } E w (.returned (.tuple #[.slice none 0 0, .int .i64 0])) w') := Lib.hid fun w' hb e => by
    rw [e]
    exact ⟨0, by omega, fun _ => rfl, none, 0, rfl, EntRow.nil _ _, h.below api hb, Kept.of_below hb h.lt⟩
  cases hq : mayP l t x with
  | false =>
    rw [hq] at hM HNil
    have he := (keeps_range hk hq a b').1
    rw [he] at HNil ⊢
    clear h hp hG ok hc wn hd hT hk hl hx wa wb hr hm hok ba bb hb' i2 he hq
    go_enter Tryz.func58, Tryz.ntmps58
    go_wp2_with fail
    refine hR.out.mono ?_
    rintro e w1 ⟨rfl, b1⟩
    go_wp2_with fail
    refine (hM.out _ b1).mono ?_
    rintro e w2 ⟨rfl, b2⟩
    go_wp2
    go_ret2
    exact HNil.out _ (bj b1 b2) (by first | rfl | trivial)
  | true =>
    rw [hq] at hM HNil
    obtain ⟨lo, h1, N1⟩ := nar_is hr (by omega) ⟨x, a, 0⟩
    obtain ⟨l2, hi, N2⟩ := nar_is hr (by omega) ⟨x, b' + 1, 0⟩
    have a1 := N1.at_least
    have a2 := N2.at_most
    rw [count_zero hm] at a1 a2
    rw [count_next] at a2
    have a3 := N1.top
    have a4 := N2.top
    have a5 := N1.at_most
    rw [count_zero hm] at a5
    have hA1 := Lib.hid fun W (hW : Below w.heap.size w W) => ahead_run (hp.below hW) (by omega) x a N1
    have hA2 := Lib.hid fun W (hW : Below w.heap.size w W) => ahead_run (hp.below hW) (by omega) x (b' + 1) N2
    by_cases hlh : lo < hi
    · have hRd := Lib.hid fun W (hW : Below w.heap.size w W) => read_t api nap (h.below api hW) (hp.below hW) hG ok hc wn hd hT lo hi (by omega) a4 hl
      have hW := range_window (lo := lo) (hi := hi) hr a1 a2
      have hlen : ((l.drop lo).take (hi - lo)).length = hi - lo := by rw [List.length_take, List.length_drop]; omega
      have hRg := Lib.hid fun (v : Value) W (hv : EntsIn W v ((l.drop lo).take (hi - lo))) => range_any v _ x a b' W hv (by omega) (fun y hy => hok y (window_mem hy)) (window_rise hr _ _)
      rw [hW] at hRg
      have t1 : decide ((hi : Int) ≤ (lo : Int)) = false := decide_eq_false (by omega)
      have t2 : ¬ (hi : Int) ≤ (lo : Int) := by omega
      generalize rangeE l x a b' = R at *
      generalize (l.drop lo).take (hi - lo) = S at *
      clear h hp hG ok hc wn hd hT hk hl hx wa wb hr hm hok ba bb hb' hq N1 N2 a1 a2 a3 a4 a5 HNil hW hlen hlh
      go_enter Tryz.func58, Tryz.ntmps58
      go_wp2_with fail
      refine hR.out.mono ?_
      rintro e w1 ⟨rfl, b1⟩
      go_wp2_with fail
      refine (hM.out _ b1).mono ?_
      rintro e w2 ⟨rfl, b2'⟩
      have b2 := bj b1 b2'
      clear b2' b1 hR hM
      go_wp2_with fail
      refine (hA1.out _ b2).mono ?_
      rintro e w3 ⟨rfl, b3'⟩
      have b3 := bj b2 b3'
      clear b3' b2 hA1
      go_wp2_with fail
      refine (hA2.out _ b3).mono ?_
      rintro e w4 ⟨rfl, b4'⟩
      have b4 := bj b3 b4'
      clear b4' b3 hA2
      go_wp2_with fail
      refine (hRd.out _ b4).mono ?_
      rintro e w5 ⟨A, c, rfl, r1, r2, r3⟩
      have H5 := Lib.hid (And.intro r2 ((Kept.of_below b4 HLT.out).trans r3))
      have HR2 := Lib.hid (hRg.out _ _ r1.in_)
      clear r1 r2 r3 b4 hRd hRg
      go_wp2_with fail
      refine HR2.out.mono ?_
      rintro e w6 ⟨A2, c2, rfl, r1, b6⟩
      have H6 := Lib.hid (And.intro r1 b6)
      clear r1 b6
      go_wp2
      go_ret2
      exact ⟨1, Nat.le_refl _, fun e => by simp at e, A2, c2, rfl, H6.out.1.down H5.out.2.size, (H5.out.1.less (fun b hb => List.mem_append_right _ hb)).more api H6.out.2 (row_own H6.out.1), H5.out.2.trans (Kept.of_below H6.out.2 (fun b hb => H5.out.1.lt b (List.mem_append_right _ hb)))⟩
    · have he := range_empty (b := b') hr a1 a2 (by omega)
      have t1 : decide ((hi : Int) ≤ (lo : Int)) = true := decide_eq_true (by omega)
      have t2 : (hi : Int) ≤ (lo : Int) := by omega
      rw [he] at HNil ⊢
      clear h hp hG ok hc wn hd hT hk hl hx wa wb hr hm hok ba bb hb' hq N1 N2 a1 a2 a3 a4 a5 he hlh
      go_enter Tryz.func58, Tryz.ntmps58
      go_wp2_with fail
      refine hR.out.mono ?_
      rintro e w1 ⟨rfl, b1⟩
      go_wp2_with fail
      refine (hM.out _ b1).mono ?_
      rintro e w2 ⟨rfl, b2'⟩
      have b2 := bj b1 b2'
      clear b2' b1 hR hM
      go_wp2_with fail
      refine (hA1.out _ b2).mono ?_
      rintro e w3 ⟨rfl, b3'⟩
      have b3 := bj b2 b3'
      clear b3' b2 hA1
      go_wp2_with fail
      refine (hA2.out _ b3).mono ?_
      rintro e w4 ⟨rfl, b4'⟩
      have b4 := bj b3 b4'
      clear b4' b3 hA2
      go_wp2
      go_ret2
      exact HNil.out _ b4 (by first | rfl | trivial)
end
end Go.Proofs.YtcpfkaehefcakaaGreat
