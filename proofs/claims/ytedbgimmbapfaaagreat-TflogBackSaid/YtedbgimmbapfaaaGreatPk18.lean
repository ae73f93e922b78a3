/- TfRows -/
import Derived.Test.YtedbgimmbapfaaaGreatPk04
import Derived.Test.YtedbgimmbapfaaaGreatPk05
/- TfRows -/
namespace Go.Proofs.YtedbgimmbapfaaaGreat
open Go.RowKit
set_option linter.unusedVariables false

/-- Payloads' records, behind some bytes. -/
def rowB (a : ByteArray) : List ByteArray → ByteArray
  | [] => a
  | p :: l => rowB (a ++ recS p) l
def rowZ : List ByteArray → Nat
  | [] => 0
  | p :: l => p.size + 12 + rowZ l
/-- Where they stand, and what they are. -/
def rowP (k : Nat) : List ByteArray → List (Nat × ByteArray)
  | [] => []
  | p :: l => (k, p) :: rowP (k + (p.size + 12)) l
def chunkB (n : Nat) (l : List ByteArray) : ByteArray := rowB (hdS (n : Nat)) l
theorem rowB_size : ∀ (l : List ByteArray) (a : ByteArray), (rowB a l).size = a.size + rowZ l
  | [], a => rfl
  | p :: l, a => by
    show (rowB (a ++ recS p) l).size = _
    rw [rowB_size l, ByteArray.size_append, recS_size]
    show _ = a.size + (p.size + 12 + rowZ l)
    omega
theorem rowB_snoc : ∀ (l : List ByteArray) (a p : ByteArray), rowB a (l ++ [p]) = rowB a l ++ recS p
  | [], a, p => rfl
  | x :: l, a, p => rowB_snoc l (a ++ recS x) p
theorem rowZ_snoc : ∀ (l : List ByteArray) (p : ByteArray), rowZ (l ++ [p]) = rowZ l + (p.size + 12)
  | [], p => by show p.size + 12 + 0 = 0 + _; omega
  | x :: l, p => by
    show x.size + 12 + rowZ (l ++ [p]) = x.size + 12 + rowZ l + _
    rw [rowZ_snoc l p]
    omega
theorem rowP_snoc : ∀ (l : List ByteArray) (k : Nat) (p : ByteArray), rowP k (l ++ [p]) = rowP k l ++ [(k + rowZ l, p)]
  | [], k, p => by show [(k, p)] = [(k + 0, p)]; rfl
  | x :: l, k, p => by
    show (k, x) :: rowP (k + (x.size + 12)) (l ++ [p]) = (k, x) :: (rowP (k + (x.size + 12)) l ++ [(k + (x.size + 12 + rowZ l), p)])
    rw [rowP_snoc l, show k + (x.size + 12) + rowZ l = k + (x.size + 12 + rowZ l) by omega]
theorem rowB_split : ∀ (l : List ByteArray) (a : ByteArray), rowB a l = a ++ rowB ByteArray.empty l
  | [], a => by show a = a ++ ByteArray.empty; simp
  | p :: l, a => by
    show rowB (a ++ recS p) l = a ++ rowB (ByteArray.empty ++ recS p) l
    rw [rowB_split l (a ++ recS p), rowB_split l (ByteArray.empty ++ recS p), ByteArray.empty_append, ByteArray.append_assoc]
theorem row_scan : ∀ (l : List ByteArray) (a : ByteArray), (∀ p ∈ l, p.size ≤ 2000) → whL (rowB a l) ((rowB a l).size + 1) a.size = (rowP a.size l).map (fun x => (x.1 : Int)) ∧ whE (rowB a l) ((rowB a l).size + 1) a.size = (rowB a l).size
  | [], a, _ => by
    obtain ⟨e1, e2⟩ := wh_stop (s := a) (k := a.size) (gtOk_false (by omega))
    exact ⟨e1, e2⟩
  | p :: l, a, h => by
    have hp := h p List.mem_cons_self
    obtain ⟨g1, _, g3⟩ := rec_stands a p (rowB ByteArray.empty l) hp
    have hs : rowB a (p :: l) = a ++ recS p ++ rowB ByteArray.empty l := rowB_split l (a ++ recS p)
    have hz : (a ++ recS p).size = a.size + (p.size + 12) := by rw [ByteArray.size_append, recS_size]
    rw [← hs] at g1 g3
    obtain ⟨e1, e2⟩ := wh_step (s := rowB a (p :: l)) (k := a.size) (by rw [rowB_size]; omega) g1
    obtain ⟨i1, i2⟩ := row_scan l (a ++ recS p) (fun q hq => h q (List.mem_cons_of_mem _ hq))
    rw [e1, e2, g3, ← hz]
    refine ⟨?_, i2⟩
    show _ = (a.size : Int) :: (rowP (a.size + (p.size + 12)) l).map _
    rw [← hz]
    congr 1
/-- What stands at such a place. -/
theorem row_at : ∀ (l : List ByteArray) (a : ByteArray), (∀ p ∈ l, p.size ≤ 2000) → ∀ x ∈ rowP a.size l, gtOk (rowB a l) x.1 = true ∧ getP (rowB a l) (x.1 : Nat) = x.2 ∧ getN (rowB a l) (x.1 : Nat) = x.1 + (x.2.size + 12) ∧ a.size ≤ x.1 ∧ x.1 + (x.2.size + 12) ≤ (rowB a l).size ∧ (rowB a l).extract x.1 (x.1 + (x.2.size + 12)) = recS x.2 ∧ x.2.size ≤ 2000
  | [], a, _, x, hx => by cases hx
  | p :: l, a, h, x, hx => by
    have hp := h p List.mem_cons_self
    have hs : rowB a (p :: l) = a ++ recS p ++ rowB ByteArray.empty l := rowB_split l (a ++ recS p)
    have hz : (a ++ recS p).size = a.size + (p.size + 12) := by rw [ByteArray.size_append, recS_size]
    rcases List.mem_cons.1 hx with rfl | hx
    · obtain ⟨g1, g2, g3⟩ := rec_stands a p (rowB ByteArray.empty l) hp
      rw [hs]
      exact ⟨g1, g2, g3, Nat.le_refl _, by rw [ByteArray.size_append, hz]; show a.size + (p.size + 12) ≤ _; omega, ext_mid a (recS p) _ rfl (by rw [recS_size]), hp⟩
    · rw [← hz] at hx
      obtain ⟨q1, q2, q3, q4, q5, q6, q7⟩ := row_at l (a ++ recS p) (fun q hq => h q (List.mem_cons_of_mem _ hq)) x hx
      exact ⟨q1, q2, q3, by omega, q5, q6, q7⟩
theorem chunk_size {n : Nat} (h : n ≤ 199) (l : List ByteArray) : (chunkB n l).size = 12 + rowZ l := by unfold chunkB; rw [rowB_size, hd_size h]
theorem chunk_scan {n : Nat} (h : n ≤ 199) (l : List ByteArray) (hl : ∀ p ∈ l, p.size ≤ 2000) : scL (chunkB n l) (n : Nat) = (rowP 12 l).map (fun x => (x.1 : Int)) ∧ scE (chunkB n l) (n : Nat) = (chunkB n l).size ∧ scOk (chunkB n l) (n : Nat) = true := by
  have hz := chunk_size h l
  have hh := hd_size h
  have hk : scK (chunkB n l) (n : Nat) = 2 := by
    refine scK_whole (by omega) ?_ (by omega)
    rw [show min (chunkB n l).size 12 = 12 by omega]
    unfold chunkB
    rw [rowB_split]
    have e1 := ext_mid ByteArray.empty (hdS (n : Nat)) (rowB ByteArray.empty l) (i := 0) (j := 12) rfl (by rw [hh]; rfl)
    have e2 := ext_mid ByteArray.empty (hdS (n : Nat)) ByteArray.empty (i := 0) (j := 12) rfl (by rw [hh]; rfl)
    rw [ByteArray.empty_append] at e1 e2
    rw [ByteArray.append_empty] at e2
    rw [e1, e2]
  obtain ⟨e1, e2, e3⟩ := sc_2 hk
  obtain ⟨r1, r2⟩ := row_scan l (hdS (n : Nat)) hl
  rw [hh] at r1 r2
  have c : (0 : Int) ≤ 12 ∧ (12 : Int) ≤ (chunkB n l).size := by omega
  rw [e1, e2]
  refine ⟨?_, ?_, e3⟩
  · unfold wlL
    rw [if_pos c]
    exact r1
  · unfold wlE
    rw [if_pos c]
    exact r2
theorem rec_alone (p : ByteArray) (hp : p.size ≤ 2000) : getOk (recS p) 0 = true ∧ getP (recS p) 0 = p := by
  obtain ⟨g1, g2, _⟩ := rec_stands ByteArray.empty p ByteArray.empty hp
  rw [ByteArray.empty_append, ByteArray.append_empty] at g1 g2
  exact ⟨(getOk_nat (recS p) 0).trans g1, g2⟩
theorem rec_length (p : ByteArray) (hp : p.size ≤ 2000) : getS ((recS p).extract 0 4) = p.size := by
  have := rec_len ByteArray.empty p ByteArray.empty hp
  rw [ByteArray.empty_append, ByteArray.append_empty] at this
  exact this
end Go.Proofs.YtedbgimmbapfaaaGreat
