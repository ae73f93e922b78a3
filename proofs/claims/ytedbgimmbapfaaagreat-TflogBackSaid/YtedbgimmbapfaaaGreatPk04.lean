/- RecGetRef, IntsDef, IntsOnly, RecWholeRef, RecStands -/
import Derived.Test.YtedbgimmbapfaaaGreatPk03
import Derived.Test.YtedbgimmbapfaaaGreatPk01
import Derived.WalkArith
import Derived.Maps.AppendAt
import Derived.Test.YtedbgimmbapfaaaGreatPk02
/- RecGetRef -/
namespace Go.Proofs.YtedbgimmbapfaaaGreat
open Go.RowKit
set_option linter.unusedVariables false

def NoRec (w : World) (e : Ending) (w' : World) : Prop := e = .returned (.tuple #[.string ByteArray.empty, .int .i64 0, .bool false]) ∧ Below w.heap.size w w'

theorem rtxt_eq {a b : ByteArray} (h : a = b) : (a.toList == b.toList) = true := by rw [h, beq_iff_eq]
theorem rtxt_ne {a b : ByteArray} (h : ¬ a = b) : (a.toList != b.toList) = true := by
  rw [bne_iff_ne]
  intro x
  rw [Lib.toList_data, Lib.toList_data] at x
  exact h (ByteArray.ext (Array.toList_inj.1 x))

/-- What Get tells. -/
def GotRec (s : ByteArray) (a : Int) (w : World) (e : Ending) (w' : World) : Prop := e = .returned (.tuple #[.string (getP s a), .int .i64 (getN s a : Nat), .bool (getOk s a)]) ∧ Below w.heap.size w w'
theorem got_no {s : ByteArray} {a : Int} {w w' : World} {e : Ending} (h : getOk s a = false) (hn : NoRec w e w') : GotRec s a w e w' := by
  obtain ⟨e1, e2⟩ := gt_no h
  unfold GotRec
  rw [e1, e2, h]
  exact hn

end Go.Proofs.YtedbgimmbapfaaaGreat

/- IntsDef -/
namespace Go.Proofs.YtedbgimmbapfaaaGreat
open Go.RowKit
set_option linter.unusedVariables false

def IntsIn (w : World) (v : Value) (l : List Int) : Prop :=
  (l = [] ∧ ∃ a c, v = .slice a 0 c) ∨ ∃ b off cap, v = .slice (some ⟨b, off, none⟩) l.length cap ∧ l.length ≤ cap ∧ cap ≤ maxLen ∧ b < w.heap.size ∧ ∀ i x, l[i]? = some x → w.cell? ⟨b, off + i, none⟩ = some (.int .i64 x)
theorem IntsIn.cell {w : World} {v : Value} {l : List Int} (h : IntsIn w v l) : ∃ A off cap, v = .slice A l.length cap ∧ l.length ≤ maxLen ∧ ∀ i x, l[i]? = some x → ∃ b, A = some ⟨b, off, none⟩ ∧ w.cell? ⟨b, off + i, none⟩ = some (.int .i64 x) := by
  rcases h with ⟨rfl, a, c, rfl⟩ | ⟨b, off, cap, h1, h2, h3, h4, h5⟩
  · exact ⟨a, 0, c, rfl, Nat.zero_le _, fun i x h => by simp at h⟩
  · exact ⟨some ⟨b, off, none⟩, off, cap, h1, by omega, fun i x hx => ⟨b, rfl, h5 i x hx⟩⟩
end Go.Proofs.YtedbgimmbapfaaaGreat

/- IntsOnly -/
namespace Go.Proofs.YtedbgimmbapfaaaGreat
open Go.RowKit
set_option linter.unusedVariables false

def IntsSame (b : Bool) (w : World) (e : Ending) (w' : World) : Prop := e = .returned (.bool b) ∧ ∃ n, w' = w.drewN n
theorem prefix_eq {a b : List Int} (hl : a.length = b.length) (h : ∀ (j : Nat) x y, a[j]? = some x → b[j]? = some y → x = y) : a = b := by
  apply List.ext_getElem hl
  intro j h1 h2
  exact h j _ _ (List.getElem?_eq_getElem h1) (List.getElem?_eq_getElem h2)
end Go.Proofs.YtedbgimmbapfaaaGreat

/- RecWholeRef -/
namespace Go.Proofs.YtedbgimmbapfaaaGreat
open Go.RowKit
set_option linter.unusedVariables false

def i64V (n : Int) : Value := .int .i64 n
theorem IntsIn.of_owns {w : World} {base : Nat} {e : TypeId} {v : Value} {l : List Int} (h : w.ownsRow base e 1 v l.length (l.map i64V)) : IntsIn w v l := by
  have h' := h
  rcases h.2 with ⟨hv, h0⟩ | ⟨g, cap, cur, hv, hg, hh, hn, hm, hsz, ht⟩
  · exact Or.inl ⟨List.length_eq_zero_iff.1 h0, none, 0, hv⟩
  · refine Or.inr ⟨g, 0, cap, hv, hn, hm, (Array.getElem?_eq_some_iff.1 hh).1, fun i x hx => ?_⟩
    rw [hv] at h'
    have hi : i < l.length := (List.getElem?_eq_some_iff.1 hx).1
    rw [Nat.zero_add, h'.cellAt i (by omega), List.getElem?_map, hx]
    rfl
theorem IntsIn.below {w w' : World} {v : Value} {l : List Int} {B : Nat} (h : IntsIn w v l) (hb : Below B w w') (hB : w.heap.size ≤ B) : IntsIn w' v l := by
  rcases h with h | ⟨b, off, cap, rfl, h2, h3, h4, h5⟩
  · exact Or.inl h
  · exact Or.inr ⟨b, off, cap, rfl, h2, h3, Nat.lt_of_lt_of_le h4 hb.size, fun i x hx => (hb.cell (p := ⟨b, off + i, none⟩) (Nat.lt_of_lt_of_le h4 hB)).trans (h5 i x hx)⟩
theorem iowns_block {w : World} {base n size : Nat} {e : TypeId} {v : Value} {xs : List Value} (h : w.ownsRow base e size v n xs) : ∀ k, v.ownBlock = some k → base ≤ k := by
  intro k hk
  rcases h.2 with ⟨rfl, _⟩ | ⟨g, cap, cur, rfl, hg, _⟩
  · cases hk
  · cases hk; exact hg
theorem iowns_below {w w' : World} {base B n size : Nat} {e : TypeId} {v : Value} {xs : List Value} (h : w.ownsRow base e size v n xs) (hb : Below B w w') (hB : w.heap.size ≤ B) : w'.ownsRow base e size v n xs := by
  refine ⟨h.1, ?_⟩
  rcases h.2 with h0 | ⟨g, cap, cur, hv, hg, hh, r⟩
  · exact Or.inl h0
  · obtain ⟨hlt, _⟩ := Array.getElem?_eq_some_iff.1 hh
    exact Or.inr ⟨g, cap, cur, hv, hg, (hb.block g (Nat.lt_of_lt_of_le hlt hB)).trans hh, r⟩
theorem info_int : (Tryz.prog.info? 3).map (fun i => (i.zero, i.size, i.bytes)) = some (some (.int .i64 0), 1, 8) := by kernel_rfl

/-- What Whole tells. -/
def WholeRec (s : ByteArray) (a : Int) (w : World) (e : Ending) (w' : World) : Prop := ∃ u, e = .returned (.tuple #[u, .int .i64 (wlE s a : Nat)]) ∧ IntsIn w' u (wlL s a) ∧ Below w.heap.size w w'

end Go.Proofs.YtedbgimmbapfaaaGreat

/- RecStands -/
namespace Go.Proofs.YtedbgimmbapfaaaGreat
open Go.RowKit
set_option linter.unusedVariables false

theorem ext_mid (a x b : ByteArray) {i j : Nat} (hi : i = a.size) (hj : j = a.size + x.size) : (a ++ x ++ b).extract i j = x := by
  subst hi hj
  rw [ByteArray.append_assoc]
  apply ByteArray.ext
  apply Array.toList_inj.1
  have ha : a.data.toList.length = a.size := Array.length_toList
  have hx : x.data.toList.length = x.size := Array.length_toList
  rw [ByteArray.data_extract, Array.toList_extract, List.extract]
  simp only [ByteArray.data_append, Array.toList_append]
  rw [List.drop_left' ha, Nat.add_sub_cancel_left, List.take_left' hx]
theorem rec_parts (p : ByteArray) : recS p = bs (be 4 p.size) ++ (p ++ (bs (tailS (bs (be 4 p.size) ++ p).data.toList) ++ bs (be 4 p.size))) := by
  unfold recS sealS
  simp only [ByteArray.append_assoc]
theorem get_four (n : Nat) (h : n < 4294967296) : getS (bs (be 4 n)) = n := by
  unfold getS
  have : (bs (be 4 n)).data.toList = be 4 n := by simp [bs]
  rw [this, List.take_of_length_le (by rw [be_length]; omega), un_be]
  exact Nat.mod_eq_of_lt (by omega)
theorem rec_len (a p b : ByteArray) (hp : p.size ≤ 2000) : gtLen (a ++ recS p ++ b) a.size = p.size := by
  unfold gtLen
  have e : a ++ recS p ++ b = a ++ bs (be 4 p.size) ++ ((p ++ (bs (tailS (bs (be 4 p.size) ++ p).data.toList) ++ bs (be 4 p.size))) ++ b) := by
    rw [rec_parts]
    simp only [ByteArray.append_assoc]
  rw [e, ext_mid _ _ _ rfl (by rw [bs_size, be_length]), get_four _ (by omega)]
theorem rec_load (a p b : ByteArray) : (a ++ recS p ++ b).extract (a.size + 4) (a.size + 4 + p.size) = p := by
  have e : a ++ recS p ++ b = (a ++ bs (be 4 p.size)) ++ p ++ ((bs (tailS (bs (be 4 p.size) ++ p).data.toList) ++ bs (be 4 p.size)) ++ b) := by
    rw [rec_parts]
    simp only [ByteArray.append_assoc]
  rw [e]
  exact ext_mid _ _ _ (by rw [ByteArray.size_append, bs_size, be_length]) (by rw [ByteArray.size_append, bs_size, be_length])
theorem rec_last (a p b : ByteArray) (hp : p.size ≤ 2000) : bkLen (a ++ recS p ++ b) (a.size + (p.size + 12)) = p.size := by
  unfold bkLen
  have e : a ++ recS p ++ b = (a ++ (bs (be 4 p.size) ++ p ++ bs (tailS (bs (be 4 p.size) ++ p).data.toList))) ++ bs (be 4 p.size) ++ b := by
    rw [rec_parts]
    simp only [ByteArray.append_assoc]
  have hz : (a ++ (bs (be 4 p.size) ++ p ++ bs (tailS (bs (be 4 p.size) ++ p).data.toList))).size = a.size + (p.size + 8) := by
    simp only [ByteArray.size_append, bs_size, be_length, tailS_length]
    omega
  rw [e, ext_mid _ _ _ (by rw [hz]; omega) (by rw [hz, bs_size, be_length]; omega), get_four _ (by omega)]

/-- A record stands where it was put. -/
theorem rec_stands (a p b : ByteArray) (hp : p.size ≤ 2000) : gtOk (a ++ recS p ++ b) a.size = true ∧ getP (a ++ recS p ++ b) (a.size : Nat) = p ∧ getN (a ++ recS p ++ b) (a.size : Nat) = a.size + (p.size + 12) := by
  have h1 := rec_len a p b hp
  have h2 := rec_load a p b
  have hz : (a ++ recS p ++ b).size = a.size + (p.size + 12) + b.size := by rw [ByteArray.size_append, ByteArray.size_append, recS_size]
  have hok : gtOk (a ++ recS p ++ b) a.size = true := by
    rw [gtOk_iff, h1, h2]
    refine ⟨by omega, hp, by omega, ?_⟩
    exact ext_mid _ _ _ rfl (by rw [recS_size]; omega)
  obtain ⟨_, e2, e3⟩ := gt_yes hok
  refine ⟨hok, ?_, ?_⟩
  · rw [e2, h1, h2]
  · rw [e3, h1]; omega
/-- And it is found from its end. -/
theorem rec_back (a p b : ByteArray) (hp : p.size ≤ 2000) : bkOk (a ++ recS p ++ b) ((a.size + (p.size + 12) : Nat) : Int) = true ∧ bkP (a ++ recS p ++ b) ((a.size + (p.size + 12) : Nat) : Int) = p ∧ bkA (a ++ recS p ++ b) ((a.size + (p.size + 12) : Nat) : Int) = a.size := by
  have hl := rec_last a p b hp
  obtain ⟨g1, g2, g3⟩ := rec_stands a p b hp
  have hz : (a ++ recS p ++ b).size = a.size + (p.size + 12) + b.size := by rw [ByteArray.size_append, ByteArray.size_append, recS_size]
  have hs : a.size + (p.size + 12) - 12 - p.size = a.size := by omega
  have hok : bkOk (a ++ recS p ++ b) ((a.size + (p.size + 12) : Nat) : Int) = true := by
    unfold bkOk
    rw [Int.toNat_natCast, hl, hs, g1, g3, decide_eq_true (by rw [hz]; omega), decide_eq_true rfl]
    rfl
  refine ⟨hok, ?_, ?_⟩
  · unfold bkP
    rw [if_pos hok, Int.toNat_natCast, hl, hs, g2]
  · unfold bkA
    rw [if_pos hok, Int.toNat_natCast, hl, hs]
/-- Where it is cut off nothing stands. -/
theorem rec_torn (a p b : ByteArray) (hp : p.size ≤ 2000) (k : Nat) (h1 : a.size ≤ k) (h2 : k < a.size + (p.size + 12)) : gtOk ((a ++ recS p ++ b).extract 0 k) a.size = false := by
  have hz : (a ++ recS p ++ b).size = a.size + (p.size + 12) + b.size := by rw [ByteArray.size_append, ByteArray.size_append, recS_size]
  have hzk : ((a ++ recS p ++ b).extract 0 k).size = k := by rw [ByteArray.size_extract, hz]; omega
  apply gtOk_false
  rw [hzk]
  rintro ⟨q1, q2, q3, _⟩
  have hl : gtLen ((a ++ recS p ++ b).extract 0 k) a.size = p.size := by
    rw [← rec_len a p b hp]
    unfold gtLen
    rw [ByteArray.extract_extract]
    congr 1
    congr 1 <;> omega
  omega
end Go.Proofs.YtedbgimmbapfaaaGreat
