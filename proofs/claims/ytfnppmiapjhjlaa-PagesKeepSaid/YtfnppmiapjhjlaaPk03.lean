/- Twist, PgMath, PgMem, Hash, HashRef -/
import Derived.Test.YtfnppmiapjhjlaaPk01
import Derived.Test.YtfnppmiapjhjlaaPk02
import Derived.Maps.RangeWalk
import Derived.Deep.WholeRow
import Derived.Laws.Bits64
/- Twist -/
namespace Go.Proofs.Ytfnppmiapjhjlaa
open Go.RowKit
set_option linter.unusedVariables false

/-- A list of which i bytes from place k on are turned over by y's bytes, the lowest one first. -/
def tw (y k i : Nat) (l : List UInt8) : List UInt8 := l.mapIdx fun j c => if k ≤ j ∧ j < k + i then c ^^^ UInt8.ofNat (y / 256 ^ (j - k)) else c
theorem tw_length (y k i : Nat) (l : List UInt8) : (tw y k i l).length = l.length := by unfold tw; rw [List.length_mapIdx]
theorem tw_at (y k i : Nat) (l : List UInt8) (j : Nat) : (tw y k i l)[j]? = (l[j]?).map fun c => if k ≤ j ∧ j < k + i then c ^^^ UInt8.ofNat (y / 256 ^ (j - k)) else c := by
  unfold tw
  rw [List.getElem?_mapIdx]
theorem tw_zero (y k : Nat) (l : List UInt8) : tw y k 0 l = l := by
  apply List.ext_getElem?
  intro j
  rw [tw_at]
  cases h : l[j]? with
  | none => rfl
  | some c => simp; omega
theorem tw_out (y k i : Nat) (l : List UInt8) (j : Nat) (h : j < k ∨ k + i ≤ j) : (tw y k i l)[j]? = l[j]? := by
  rw [tw_at]
  cases h : l[j]? with
  | none => rfl
  | some c => rw [Option.map_some, if_neg (by omega)]
/-- One byte more. -/
theorem tw_step (y k i n : Nat) (l : List UInt8) (hl : l.length = n) (j : Nat) (hj : j < n) (hk : k + i < n) :
    (if j = k + i then Value.int .u8 (bits .xor .u8 (((tw y k i l).getD (k + i) 0).toNat : Int) ((y : Int) / 2 ^ (8 * i) % 256)) else u8At (tw y k i l) j) = u8At (tw y k (i + 1) l) j := by
  have hc : ((tw y k i l).getD (k + i) 0) = l.getD (k + i) 0 := by
    rw [List.getD_eq_getElem?_getD, List.getD_eq_getElem?_getD, tw_out y k i l _ (by omega)]
  by_cases h : j = k + i
  · rw [if_pos h, h, hc, byte_val, u8_xor_nat _ _ (UInt8.toNat_lt _) (Nat.mod_lt _ (by decide))]
    unfold u8At
    rw [List.getD_eq_getElem?_getD, List.getD_eq_getElem?_getD, tw_at, List.getElem?_eq_getElem (by omega)]
    simp only [Option.getD_some, Option.map_some]
    rw [if_pos (by omega), UInt8.toNat_xor, UInt8.toNat_ofNat', show k + i - k = i by omega]
  · rw [if_neg h]
    unfold u8At
    rw [List.getD_eq_getElem?_getD, List.getD_eq_getElem?_getD, tw_at, tw_at]
    cases e : l[j]? with
    | none => rfl
    | some c =>
      simp only [Option.map_some]
      by_cases h2 : k ≤ j ∧ j < k + i
      · rw [if_pos h2, if_pos (by omega)]
      · rw [if_neg h2, if_neg (by omega)]
theorem byte_zero (y : Nat) (hy : y < 4294967296) (h : ∀ i, i < 4 → UInt8.ofNat (y / 256 ^ i) = 0) : y = 0 := by
  have p1 : (256 : Nat) ^ 1 = 256 := by decide
  have p2 : (256 : Nat) ^ 2 = 65536 := by decide
  have p3 : (256 : Nat) ^ 3 = 16777216 := by decide
  have h' : ∀ i, i < 4 → y / 256 ^ i % 256 = 0 := fun i hi => by
    have e := congrArg UInt8.toNat (h i hi)
    rw [UInt8.toNat_ofNat'] at e
    exact e
  have h0 := h' 0 (by decide)
  have h1 := h' 1 (by decide)
  have h2 := h' 2 (by decide)
  have h3 := h' 3 (by decide)
  rw [Nat.pow_zero, Nat.div_one] at h0
  rw [p1] at h1
  rw [p2] at h2
  rw [p3] at h3
  omega
theorem xor_self8 {a b : UInt8} (h : a ^^^ b = a) : b = 0 := by
  have h1 := congrArg UInt8.toNat h
  rw [UInt8.toNat_xor] at h1
  have h2 : a.toNat ^^^ b.toNat = a.toNat ^^^ 0 := by rw [h1, Nat.xor_zero]
  exact UInt8.toNat_inj.1 (xor_cancel h2)
theorem tw_other (y k : Nat) (l : List UInt8) (hy : y < 4294967296) (h0 : y ≠ 0) (hk : k + 4 ≤ l.length) : tw y k 4 l ≠ l := by
  intro e
  apply h0
  apply byte_zero y hy
  intro i hi
  have h := tw_at y k 4 l (k + i)
  rw [e, List.getElem?_eq_getElem (by omega)] at h
  simp only [Option.map_some, Option.some.injEq] at h
  rw [if_pos (by omega), show k + i - k = i by omega] at h
  exact xor_self8 h.symm

/-- Lists that differ within four places, side by side, alone, and have one state behind them, are the same. -/
theorem window {x : Nat} (hx : x < 4294967296) (l m : List UInt8) (k : Nat) (hl : l.length = m.length) (ho : ∀ j, j < k ∨ k + 4 ≤ j → l[j]? = m[j]?) (e : foldS x l = foldS x m) : l = m := by
  have cut : ∀ l : List UInt8, l = l.take k ++ (l.drop k).take 4 ++ l.drop (k + 4) := fun l => by
    have h1 := List.take_append_drop k l
    have h2 := List.take_append_drop 4 (l.drop k)
    rw [List.drop_drop] at h2
    rw [List.append_assoc, h2, h1]
  have e1 : l.take k = m.take k := by
    apply List.ext_getElem?
    intro j
    rw [List.getElem?_take, List.getElem?_take]
    split
    · exact ho j (Or.inl (by omega))
    · rfl
  have e2 : l.drop (k + 4) = m.drop (k + 4) := by
    apply List.ext_getElem?
    intro j
    rw [List.getElem?_drop, List.getElem?_drop]
    exact ho _ (Or.inr (by omega))
  rw [cut l, cut m, e1, e2] at e
  have h := foldS_turned hx _ _ (by simp only [List.length_take, List.length_drop]; omega) (by rw [List.length_take]; omega) e
  rw [cut l, cut m, e1, e2, h]
end Go.Proofs.Ytfnppmiapjhjlaa

/- PgMath -/
namespace Go.Proofs.Ytfnppmiapjhjlaa
set_option linter.unusedVariables false

theorem bs_list (l : List UInt8) : (bs l).data.toList = l := by simp [bs]
theorem dl_size (s : ByteArray) : s.data.toList.length = s.size := Array.length_toList
theorem dl_append (a b : ByteArray) : (a ++ b).data.toList = a.data.toList ++ b.data.toList := by simp
/-- A part of a text, as a list. -/
theorem ext_list (s : ByteArray) (a b : Nat) : (s.extract a b).data.toList = (s.data.toList.drop a).take (b - a) := by simp
theorem ext_bs (s : ByteArray) (a b : Nat) : s.extract a b = bs ((s.data.toList.drop a).take (b - a)) := by rw [← ext_list, bs_data]

/-- There may be such a filter. -/
def pgOk (n p : Int) : Bool := decide (60 ≤ n ∧ n ≤ 120000 ∧ n % 60 = 0 ∧ 1 ≤ p ∧ p ≤ 16)
theorem pgOk_iff {n p : Int} : pgOk n p = true ↔ 60 ≤ n ∧ n ≤ 120000 ∧ n % 60 = 0 ∧ 1 ≤ p ∧ p ≤ 16 := by unfold pgOk; exact decide_eq_true_iff
/-- A head's bytes, ahead of its sum. -/
def hdL (n p : Nat) : List UInt8 := [98, 108, 109, UInt8.ofNat p] ++ (be 4 n ++ List.replicate 52 0)
theorem hdL_length (n p : Nat) : (hdL n p).length = 60 := by simp [hdL, be_length]
/-- A head page. -/
def hdP (n p : Nat) : ByteArray := sealS (bs (hdL n p))
theorem seal_list (s : ByteArray) : (sealS s).data.toList = s.data.toList ++ tailS s.data.toList := by simp [sealS, bs]
theorem seal_size (s : ByteArray) : (sealS s).size = s.size + 4 := by rw [← dl_size, seal_list, List.length_append, tailS_length, dl_size]
theorem hdP_size (n p : Nat) : (hdP n p).size = 64 := by unfold hdP; rw [seal_size, bs_size, hdL_length]
theorem hdP_list (n p : Nat) : (hdP n p).data.toList = hdL n p ++ tailS (hdL n p) := by unfold hdP; rw [seal_list, bs_list]

/-- What is sealed is sealed. -/
theorem opOk_seal (s : ByteArray) : opOk (sealS s) = true := by
  unfold opOk
  refine decide_eq_true ⟨by rw [seal_size]; omega, ?_⟩
  have e1 : (sealS s).extract 0 ((sealS s).size - 4) = s := by
    rw [ext_bs, seal_size, seal_list]
    have : s.data.toList.length = s.size := dl_size s
    rw [List.drop_zero, show s.size + 4 - 4 - 0 = s.data.toList.length by omega, List.take_left, bs_data]
  rw [e1, ext_bs, seal_size, seal_list]
  have : s.data.toList.length = s.size := dl_size s
  rw [show s.size + 4 - 4 = s.data.toList.length by omega, List.drop_left, List.take_of_length_le (by rw [tailS_length]; omega)]
/-- The state behind what is sealed. -/
theorem sealed_fold {s : ByteArray} (h : opOk s = true) : foldS 4294967295 s.data.toList = stk 32 4294967295 := by
  obtain ⟨h4, h5⟩ := of_decide_eq_true h
  have hl := dl_size s
  have h6 := congrArg (fun s : ByteArray => s.data.toList) h5
  simp only [ext_list, bs_list] at h6
  rw [List.drop_zero, List.take_of_length_le (by rw [List.length_drop]; omega)] at h6
  have h7 := (sealed_iff (s.data.toList.take (s.size - 4 - 0)) (s.data.toList.drop (s.size - 4)) (by rw [List.length_drop]; omega)).1 h6
  rw [Nat.sub_zero, List.take_append_drop] at h7
  exact h7
/-- Sealed texts that differ within four places, side by side, alone, are the same. -/
theorem sealed_near {s t : ByteArray} (hs : opOk s = true) (ht : opOk t = true) (k : Nat) (hl : s.size = t.size) (ho : ∀ j, j < k ∨ k + 4 ≤ j → s.data.toList[j]? = t.data.toList[j]?) : s = t := by
  have h := window (x := 4294967295) (by decide) s.data.toList t.data.toList k (by rw [dl_size, dl_size, hl]) ho (by rw [sealed_fold hs, sealed_fold ht])
  rw [← bs_data s, h, bs_data]

/-- The page j of a file; the head page is 0. -/
def pgT (t : ByteArray) (j : Nat) : ByteArray := t.extract (64 * j) (64 * j + 64)
/-- It is there, and sealed. -/
def pgW (t : ByteArray) (j : Nat) : Bool := decide (64 * j + 64 ≤ t.size) && opOk (pgT t j)
theorem pgT_list (t : ByteArray) (j : Nat) : (pgT t j).data.toList = (t.data.toList.drop (64 * j)).take 64 := by unfold pgT; rw [ext_list, show 64 * j + 64 - 64 * j = 64 by omega]
theorem pgT_at (t : ByteArray) (j i : Nat) (hi : i < 64) : (pgT t j).data.toList[i]? = t.data.toList[64 * j + i]? := by rw [pgT_list, List.getElem?_take, if_pos hi, List.getElem?_drop]
theorem pgT_size {t : ByteArray} {j : Nat} (h : 64 * j + 64 ≤ t.size) : (pgT t j).size = 64 := by unfold pgT; rw [ByteArray.size_extract]; omega
theorem pgW_iff {t : ByteArray} {j : Nat} : pgW t j = true ↔ 64 * j + 64 ≤ t.size ∧ opOk (pgT t j) = true := by unfold pgW; rw [Bool.and_eq_true, decide_eq_true_iff]

/-- What the head page says. -/
def hpT (t : ByteArray) : Nat := (t.data.toList.getD 3 0).toNat
def hnT (t : ByteArray) : Nat := getS (t.extract 4 8)
def hdOk (t : ByteArray) : Bool := decide (64 ≤ t.size) && (pgOk (hnT t) (hpT t) && decide (t.extract 0 64 = hdP (hnT t) (hpT t)))
theorem hdOk_iff {t : ByteArray} : hdOk t = true ↔ 64 ≤ t.size ∧ pgOk (hnT t) (hpT t) = true ∧ t.extract 0 64 = hdP (hnT t) (hpT t) := by unfold hdOk; rw [Bool.and_eq_true, Bool.and_eq_true, decide_eq_true_iff, decide_eq_true_iff]
theorem hdOk_short {t : ByteArray} (h : t.size < 64) : hdOk t = false := by
  unfold hdOk
  rw [decide_eq_false (by omega), Bool.false_and]
theorem hdOk_not {t : ByteArray} (h : pgOk (hnT t) (hpT t) = false) : hdOk t = false := by
  unfold hdOk
  rw [h, Bool.false_and, Bool.and_false]
theorem hdOk_other {t : ByteArray} (h : ¬ t.extract 0 64 = hdP (hnT t) (hpT t)) : hdOk t = false := by
  unfold hdOk
  rw [decide_eq_false h, Bool.and_false, Bool.and_false]
/-- The byte in which the bit k stands, and the bit. -/
def byT (t : ByteArray) (k : Nat) : UInt8 := t.data.toList.getD (64 * (k / 480 + 1) + k / 8 % 60) 0
def bitT (t : ByteArray) (k : Nat) : Bool := (byT t k).toNat.testBit (k % 8)
/-- It is surely off. -/
def offT (t : ByteArray) (k : Nat) : Bool := pgW t (k / 480 + 1) && !bitT t k
/-- What a file says of a hash (P15.2). -/
def mayT (t : ByteArray) (h : Nat) : Bool := !hdOk t || (asksL h (hpT t) ((8 * hnT t : Nat) : Int)).all fun k => !offT t k
theorem mayT_no {t : ByteArray} (h : hdOk t = false) (g : Nat) : mayT t g = true := by unfold mayT; rw [h]; rfl
theorem mayT_yes {t : ByteArray} (h : hdOk t = true) (g : Nat) : mayT t g = (asksL g (hpT t) ((8 * hnT t : Nat) : Int)).all fun k => !offT t k := by unfold mayT; rw [h]; rfl
theorem mayT_all {t : ByteArray} {g : Nat} (H : ∀ k ∈ asksL g (hpT t) ((8 * hnT t : Nat) : Int), offT t k = false) : mayT t g = true := by
  unfold mayT
  rw [Bool.or_eq_true, List.all_eq_true]
  exact Or.inr fun k hk => by rw [H k hk]; rfl
theorem mayT_one {t : ByteArray} {g k : Nat} (h : hdOk t = true) (hk : k ∈ asksL g (hpT t) ((8 * hnT t : Nat) : Int)) (H : offT t k = true) : mayT t g = false := by
  rw [mayT_yes h, List.all_eq_false]
  exact ⟨k, hk, by rw [H]; decide⟩

/-- The first so many pages of an array, sealed. -/
def pgs (a : ByteArray) : Nat → ByteArray
  | 0 => ByteArray.empty
  | k + 1 => pgs a k ++ sealS (a.extract (60 * k) (60 * k + 60))
theorem pgs_succ (a : ByteArray) (k : Nat) : pgs a (k + 1) = pgs a k ++ sealS (a.extract (60 * k) (60 * k + 60)) := rfl
theorem pgs_size (a : ByteArray) : ∀ k, 60 * k ≤ a.size → (pgs a k).size = 64 * k
  | 0, _ => rfl
  | k + 1, h => by rw [pgs_succ, ByteArray.size_append, pgs_size a k (by omega), seal_size, ByteArray.size_extract]; omega
/-- A filter's file (P15.1). -/
def putP (a : ByteArray) (p : Int) : ByteArray := if pgOk a.size p then hdP a.size p.toNat ++ pgs a (a.size / 60) else ByteArray.empty
theorem putP_no {a : ByteArray} {p : Int} (h : pgOk a.size p = false) : putP a p = ByteArray.empty := by unfold putP; rw [h]; rfl
theorem putP_yes {a : ByteArray} {p : Int} (h : pgOk a.size p = true) : putP a p = hdP a.size p.toNat ++ pgs a (a.size / 60) := by unfold putP; rw [h]; rfl
theorem putP_size {a : ByteArray} {p : Int} (h : pgOk a.size p = true) : (putP a p).size = 64 * (a.size / 60 + 1) := by
  rw [putP_yes h, ByteArray.size_append, hdP_size, pgs_size a _ (by omega)]; omega

/-- The page j of an array stands where it is to. -/
theorem pgs_at (a : ByteArray) (i : Nat) : ∀ k j, j < k → 60 * k ≤ a.size → i < 64 → (pgs a k).data.toList[64 * j + i]? = (sealS (a.extract (60 * j) (60 * j + 60))).data.toList[i]?
  | 0, j, h, _, _ => by omega
  | k + 1, j, h, ha, hi => by
    have hz := pgs_size a k (by omega)
    rw [pgs_succ, dl_append]
    by_cases hj : j < k
    · rw [List.getElem?_append_left (by rw [dl_size, hz]; omega)]
      exact pgs_at a i k j hj (by omega) hi
    · obtain rfl : j = k := by omega
      rw [List.getElem?_append_right (by rw [dl_size, hz]; omega), dl_size, hz, Nat.add_sub_cancel_left]
theorem pgT_put {a : ByteArray} {p : Int} (h : pgOk a.size p = true) {j : Nat} (hj : j < a.size / 60) : pgT (putP a p) (j + 1) = sealS (a.extract (60 * j) (60 * j + 60)) := by
  have hz := putP_size h
  have hs : (pgT (putP a p) (j + 1)).size = 64 := pgT_size (by omega)
  have he : (sealS (a.extract (60 * j) (60 * j + 60))).size = 64 := by rw [seal_size, ByteArray.size_extract]; omega
  suffices hL : (pgT (putP a p) (j + 1)).data.toList = (sealS (a.extract (60 * j) (60 * j + 60))).data.toList by rw [← bs_data (pgT _ _), hL, bs_data]
  apply List.ext_getElem?
  intro i
  by_cases hi : i < 64
  · rw [pgT_at _ _ _ hi, putP_yes h, dl_append, List.getElem?_append_right (by rw [dl_size, hdP_size]; omega), dl_size, hdP_size, show 64 * (j + 1) + i - 64 = 64 * j + i by omega]
    exact pgs_at a i _ j hj (by omega) hi
  · rw [List.getElem?_eq_none (by rw [dl_size, hs]; omega), List.getElem?_eq_none (by rw [dl_size, he]; omega)]
theorem pgT_put0 {a : ByteArray} {p : Int} (h : pgOk a.size p = true) : pgT (putP a p) 0 = hdP a.size p.toNat := by
  have hz := putP_size h
  unfold pgT
  rw [ext_bs, putP_yes h, dl_append, show 64 * 0 + 64 - 64 * 0 = (hdP a.size p.toNat).data.toList.length by rw [dl_size, hdP_size], Nat.mul_zero, List.drop_zero, List.take_left, bs_data]
/-- Each page of a file that was made is whole. -/
theorem pgW_put {a : ByteArray} {p : Int} (h : pgOk a.size p = true) {j : Nat} (hj : j < a.size / 60 + 1) : pgW (putP a p) j = true := by
  refine pgW_iff.2 ⟨by rw [putP_size h]; omega, ?_⟩
  match j, hj with
  | 0, _ => rw [pgT_put0 h]; exact opOk_seal _
  | j + 1, hj => rw [pgT_put h (by omega)]; exact opOk_seal _

/-- A head page tells how many probes and bytes there are. -/
theorem head_tells {t : ByteArray} {n p : Nat} (h : t.extract 0 64 = hdP n p) (hn : n < 4294967296) (hp : p < 256) : hpT t = p ∧ hnT t = n := by
  have h1 : ∀ i, i < 64 → t.data.toList[i]? = (hdP n p).data.toList[i]? := fun i hi => by
    have := congrArg (fun s : ByteArray => s.data.toList[i]?) h
    simp only [ext_list] at this
    rw [List.getElem?_take, if_pos (by omega), List.getElem?_drop, Nat.zero_add] at this
    exact this
  have hL : (hdP n p).data.toList = [98, 108, 109, UInt8.ofNat p] ++ (be 4 n ++ (List.replicate 52 0 ++ tailS (hdL n p))) := by rw [hdP_list]; simp [hdL]
  constructor
  · unfold hpT
    rw [List.getD_eq_getElem?_getD, h1 3 (by omega), hL]
    show (UInt8.ofNat p).toNat = p
    rw [UInt8.toNat_ofNat']
    exact Nat.mod_eq_of_lt hp
  · unfold hnT getS
    have e : (t.extract 4 8).data.toList = be 4 n := by
      apply List.ext_getElem?
      intro i
      rw [ext_list, List.getElem?_take]
      split
      · rename_i hi
        rw [List.getElem?_drop, h1 _ (by omega), hL, List.getElem?_append_right (by simp), List.getElem?_append_left (by rw [be_length]; simp; omega)]
        simp
      · rw [List.getElem?_eq_none (by rw [be_length]; omega)]
    rw [e, List.take_of_length_le (by rw [be_length]; omega), un_be]
    exact Nat.mod_eq_of_lt hn
theorem hdOk_put {a : ByteArray} {p : Int} (h : pgOk a.size p = true) : hdOk (putP a p) = true ∧ hpT (putP a p) = p.toNat ∧ hnT (putP a p) = a.size := by
  have h0 := pgT_put0 h
  unfold pgT at h0
  obtain ⟨g1, g2, g3, g4, g5⟩ := pgOk_iff.1 h
  obtain ⟨e1, e2⟩ := head_tells h0 (by omega) (by omega)
  refine ⟨hdOk_iff.2 ⟨by rw [putP_size h]; omega, ?_, ?_⟩, e1, e2⟩
  · rw [e1, e2, Int.toNat_of_nonneg (by omega)]
    exact h
  · rw [e1, e2]
    exact h0
theorem byT_put {a : ByteArray} {p : Int} (h : pgOk a.size p = true) {k : Nat} (hk : k < 8 * a.size) : byT (putP a p) k = a.data.toList.getD (k / 8) 0 := by
  obtain ⟨g1, g2, g3, g4, g5⟩ := pgOk_iff.1 h
  have hj : k / 480 < a.size / 60 := by omega
  have hi : k / 8 % 60 < 60 := Nat.mod_lt _ (by decide)
  have hT : (pgT (putP a p) (k / 480 + 1)).data.toList[k / 8 % 60]? = (sealS (a.extract (60 * (k / 480)) (60 * (k / 480) + 60))).data.toList[k / 8 % 60]? := by rw [pgT_put h hj]
  rw [pgT_at _ _ _ (by omega), seal_list, List.getElem?_append_left (by rw [dl_size, ByteArray.size_extract]; omega), ext_list, List.getElem?_take, if_pos (by omega), List.getElem?_drop] at hT
  unfold byT
  rw [List.getD_eq_getElem?_getD, hT, List.getD_eq_getElem?_getD, show 60 * (k / 480) + k / 8 % 60 = k / 8 by omega]
theorem bitT_put {a : ByteArray} {p : Int} (h : pgOk a.size p = true) {k : Nat} (hk : k < 8 * a.size) : bitT (putP a p) k = bitL a.data.toList k := by unfold bitT bitL; rw [byT_put h hk]
/-- Of a file as it was made May says what the bits say. -/
theorem mayT_put {a : ByteArray} {p : Int} (h : pgOk a.size p = true) (g : Nat) : mayT (putP a p) g = hasL a.data.toList p g := by
  obtain ⟨g1, g2, g3, g4, g5⟩ := pgOk_iff.1 h
  obtain ⟨e0, e1, e2⟩ := hdOk_put h
  rw [mayT_yes e0, hasL_pos (by rw [dl_size]; omega), e1, e2, dl_size, Int.toNat_of_nonneg (by omega)]
  have hm : ∀ k ∈ asksL g p ((8 * a.size : Nat) : Int), (!offT (putP a p) k) = bitL a.data.toList k := fun k hk => by
    have hlt : k < 8 * a.size := by have := asksL_lt (by omega) hk; omega
    unfold offT
    rw [pgW_put h (by omega), bitT_put h hlt, Bool.true_and, Bool.not_not]
  rw [Bool.eq_iff_iff, List.all_eq_true, List.all_eq_true]
  exact ⟨fun H k hk => by rw [← hm k hk]; exact H k hk, fun H k hk => by rw [hm k hk]; exact H k hk⟩
theorem make_size (l : List Nat) (p : Int) (n : Nat) (h0 : 0 < n) (hn : n ≤ 125000) : (bs (makeL l p ((8 * n : Nat) : Int))).size = n := by
  rw [bs_size, makeL_yes (by unfold mkOk; exact decide_eq_true (by omega)), bytesL_length]
  omega
theorem make_has {l : List Nat} {g : Nat} (hg : g ∈ l) (p : Int) (n : Nat) (h0 : 0 < n) (hn : n ≤ 125000) {k : Nat} (hk : k ∈ asksL g p ((8 * n : Nat) : Int)) : bitL (makeL l p ((8 * n : Nat) : Int)) k = true := by
  have hlt : k < 8 * n := by have := asksL_lt (by omega) hk; omega
  rw [makeL_yes (by unfold mkOk; exact decide_eq_true (by omega)), bitL_bytes _ (by omega)]
  unfold on
  exact decide_eq_true (setL_mem hg hk)

/-- A page of the file is as it was, if it is sealed. -/
def KeepP (s t : ByteArray) : Prop := ∀ j, pgW t j = true → 64 * j + 64 ≤ s.size ∧ pgT t j = pgT s j
/-- What was made may be there, however the file is spoilt, as long as each page that is sealed is as it was (P15.3). -/
theorem keep_may {l : List Nat} {g : Nat} (hg : g ∈ l) {p n : Nat} (hn : pgOk n p = true) {t : ByteArray} (hK : KeepP (putP (bs (makeL l p ((8 * n : Nat) : Int))) p) t) : mayT t g = true := by
  obtain ⟨g1, g2, g3, g4, g5⟩ := pgOk_iff.1 hn
  have hz := make_size l p n (by omega) (by omega)
  have hok : pgOk (bs (makeL l p ((8 * n : Nat) : Int))).size p = true := by rw [hz]; exact hn
  by_cases h : hdOk t = true
  · obtain ⟨h64, _, hh⟩ := hdOk_iff.1 h
    have hw : pgW t 0 = true := pgW_iff.2 ⟨by omega, by unfold pgT; rw [Nat.mul_zero, Nat.zero_add, hh]; exact opOk_seal _⟩
    have h0 := (hK 0 hw).2
    rw [pgT_put0 hok, hz] at h0
    obtain ⟨e1, e2⟩ := head_tells (t := t) h0 (by omega) (by omega)
    refine mayT_all fun k hk => ?_
    rw [e1, e2, Int.toNat_natCast] at hk
    have hlt : k < 8 * n := by have := asksL_lt (by omega) hk; omega
    unfold offT
    by_cases hpw : pgW t (k / 480 + 1) = true
    · have hT := (hK _ hpw).2
      have hb : byT t k = byT (putP (bs (makeL l p ((8 * n : Nat) : Int))) p) k := by
        have hi : k / 8 % 60 < 60 := Nat.mod_lt _ (by decide)
        have : (pgT t (k / 480 + 1)).data.toList[k / 8 % 60]? = (pgT (putP (bs (makeL l p ((8 * n : Nat) : Int))) p) (k / 480 + 1)).data.toList[k / 8 % 60]? := by rw [hT]
        rw [pgT_at _ _ _ (by omega), pgT_at _ _ _ (by omega)] at this
        unfold byT
        rw [List.getD_eq_getElem?_getD, this, List.getD_eq_getElem?_getD]
      have hbit : bitT t k = true := by
        unfold bitT
        rw [hb]
        show bitT (putP (bs (makeL l p ((8 * n : Nat) : Int))) p) k = true
        rw [bitT_put hok (by rw [hz]; exact hlt), bs_list]
        exact make_has hg _ _ (by omega) (by omega) hk
      rw [hbit, Bool.not_true, Bool.and_false]
    · rw [Bool.eq_false_iff.2 hpw, Bool.false_and]
  · exact mayT_no (Bool.eq_false_iff.2 h) g
/-- Pages that are turned over within four bytes alone are not sealed, or as they were. -/
theorem near_keep {s t : ByteArray} (hs : ∀ j, 64 * j + 64 ≤ s.size → pgW s j = true) (hl : t.size = s.size) (at' : Nat → Nat) (ho : ∀ j i, i < 64 → (i < at' j ∨ at' j + 4 ≤ i) → t.data.toList[64 * j + i]? = s.data.toList[64 * j + i]?) : KeepP s t := by
  intro j hj
  obtain ⟨h1, h2⟩ := pgW_iff.1 hj
  obtain ⟨h3, h4⟩ := pgW_iff.1 (hs j (by omega))
  refine ⟨by omega, sealed_near h2 h4 (at' j) (by rw [pgT_size h1, pgT_size h3]) fun i hi => ?_⟩
  by_cases h64 : i < 64
  · rw [pgT_at _ _ _ h64, pgT_at _ _ _ h64]
    exact ho j i h64 hi
  · rw [List.getElem?_eq_none (by rw [dl_size, pgT_size h1]; omega), List.getElem?_eq_none (by rw [dl_size, pgT_size h3]; omega)]
end Go.Proofs.Ytfnppmiapjhjlaa

/- PgMem -/
namespace Go.Proofs.Ytfnppmiapjhjlaa
open Go.RowKit
open Go.Maps (Keyed)
set_option linter.unusedVariables false

/-- The cells of a page. -/
def pgC (l : List UInt8) : Array Value := (l.map fun c => Value.int .u8 (c.toNat : Int)).toArray
/-- A page, as a value. -/
def pgV (l : List UInt8) : Value := .agg (pgC l)
theorem pgC_size (l : List UInt8) : (pgC l).size = l.length := by unfold pgC; rw [List.size_toArray, List.length_map]
theorem pgC_at (l : List UInt8) {i : Nat} (hi : i < l.length) : (pgC l)[i]? = some (.int .u8 ((l.getD i 0).toNat : Int)) := by
  unfold pgC
  rw [List.getElem?_toArray, List.getElem?_map, List.getD_eq_getElem?_getD, List.getElem?_eq_getElem hi]
  rfl
theorem pgC_one (l : List UInt8) : (pgC l).all (·.oneCell') = true := by
  unfold pgC
  rw [List.all_toArray, List.all_eq_true]
  intro x hx
  obtain ⟨c, _, rfl⟩ := List.mem_map.1 hx
  rfl
theorem pgC_inj {a b : List UInt8} (h : pgC a = pgC b) : a = b := by
  unfold pgC at h
  have h2 := congrArg Array.toList h
  simp only [] at h2
  exact (List.map_inj_right (fun x y e => by injection e with _ e; exact UInt8.toNat_inj.1 (by omega))).1 h2
/-- A byte, of a value. -/
def u8Of : Value → Option UInt8
  | .int .u8 n => if n = ((UInt8.ofNat n.toNat).toNat : Int) then some (UInt8.ofNat n.toNat) else none
  | _ => none
theorem u8Of_mk (c : UInt8) : u8Of (.int .u8 (c.toNat : Int)) = some c := by simp [u8Of]
theorem u8Of_inv {v : Value} {c : UInt8} (h : u8Of v = some c) : v = .int .u8 (c.toNat : Int) := by
  unfold u8Of at h
  split at h
  · rename_i n
    split at h
    · rename_i e
      injection h with h
      rw [← h, ← e]
    · cases h
  · cases h
/-- What a page in the map reads as. -/
def pgR : Value → Option (DataW Unit × List MemPlace)
  | .agg cs => (cs.toList.mapM u8Of).map fun l => (.lit (.string l), [])
  | _ => none
theorem mapM_mk : ∀ l : List UInt8, (l.map fun c => Value.int .u8 (c.toNat : Int)).mapM u8Of = some l
  | [] => rfl
  | c :: l => by rw [List.map_cons, List.mapM_cons, u8Of_mk, mapM_mk l]; rfl
theorem mapM_inv : ∀ {cs : List Value} {l : List UInt8}, cs.mapM u8Of = some l → cs = l.map fun c => Value.int .u8 (c.toNat : Int)
  | [], l, h => by rw [List.mapM_nil] at h; injection h with h; rw [← h]; rfl
  | v :: cs, l, h => by
    rw [List.mapM_cons] at h
    cases e1 : u8Of v with
    | none => rw [e1] at h; cases h
    | some c =>
      cases e2 : cs.mapM u8Of with
      | none => rw [e1, e2] at h; cases h
      | some m =>
        rw [e1, e2] at h
        injection h with h
        rw [← h, List.map_cons, ← mapM_inv e2, ← u8Of_inv e1]
theorem pgR_mk (l : List UInt8) : pgR (pgV l) = some (.lit (.string l), []) := by
  show ((pgC l).toList.mapM u8Of).map _ = _
  unfold pgC
  rw [List.toList_toArray, mapM_mk]
  rfl
theorem pgR_inv {v : Value} {y : DataW Unit × List MemPlace} (h : pgR v = some y) : ∃ l, v = pgV l ∧ y = (.lit (.string l), []) := by
  unfold pgR at h
  split at h
  · rename_i cs
    cases e : cs.toList.mapM u8Of with
    | none => rw [e] at h; cases h
    | some l =>
      rw [e] at h
      injection h with h
      refine ⟨l, ?_, h.symm⟩
      unfold pgV pgC
      rw [← mapM_inv e, Array.toArray_toList]
  · cases h
def keyI (k : Nat) : Lit := .int .i64 (k : Int)
theorem keyI_inj {a b : Nat} (h : keyI a = keyI b) : a = b := by unfold keyI at h; injection h with _ h; omega
theorem keyI_of {k : Nat} (h : k ≤ 1000000) : keyOf Try.prog 3 (.int .i64 (k : Int)) = some (keyI k) := Maps.keyOf_int_mk Try.underlying3 (WalkArith.wf_i64 (by omega))
theorem keyI_is (k : Nat) : WideAt.IsKeyLit (keyI k) := trivial
theorem keysI : Keyed Try.prog 3 := Maps.int_keyed Try.underlying3
theorem zeroPg (w : World) : (zeroValue 63).run Try.prog w = .ok (pgV (List.replicate 60 0)) w := by kernel_rfl
theorem infoPg : (Try.prog.info? 63).map (·.size) = some 60 := by kernel_rfl

/-- A page's bytes, ahead of its sum. -/
def pgB (t : ByteArray) (k : Nat) : List UInt8 := (pgT t (k + 1)).data.toList.take 60
theorem pgB_length {t : ByteArray} {k : Nat} (h : pgW t (k + 1) = true) : (pgB t k).length = 60 := by
  unfold pgB
  rw [List.length_take, dl_size, pgT_size (pgW_iff.1 h).1]
  decide
theorem pgB_at {t : ByteArray} {k : Nat} (x : Nat) (hk : k = x / 480) : (pgB t k).getD (x / 8 % 60) 0 = byT t x := by
  have hi : x / 8 % 60 < 60 := Nat.mod_lt _ (by decide)
  unfold pgB byT
  rw [List.getD_eq_getElem?_getD, List.getD_eq_getElem?_getD, List.getElem?_take, if_pos hi, pgT_at _ _ _ (by omega), hk]
/-- A map has the pages that are whole, of the first m. -/
structure PgIs (D0 : DataW Unit) (t : ByteArray) (m : Nat) : Prop where
  yes : ∀ k, k < m → pgW t (k + 1) = true → ∀ zd, D0.atKey (keyI k) zd = .lit (.string (pgB t k))
  no : ∀ k, m ≤ k ∨ pgW t (k + 1) = false → Maps.has D0 (keyI k) = false
def MapPg (w : World) (mb : Nat) (t : ByteArray) (m : Nat) : Prop := ∃ D0, w.ownsMap Try.prog 3 pgR mb m D0 ∧ Maps.IsMap D0 ∧ PgIs D0 t m
section
variable {w w' : World} {mb m : Nat} {t : ByteArray}
theorem MapPg.lt (h : MapPg w mb t m) : mb < w.heap.size := by
  obtain ⟨D0, h1, h2⟩ := h
  exact h1.lt
theorem MapPg.of_block (h : MapPg w mb t m) (e : w'.heap[mb]? = w.heap[mb]?) : MapPg w' mb t m := by
  obtain ⟨D0, ⟨es, clock, hb, r⟩, h2⟩ := h
  exact ⟨D0, ⟨es, clock, e.trans hb, r⟩, h2⟩
theorem MapPg.below (h : MapPg w mb t m) (hb : Below w.heap.size w w') : MapPg w' mb t m := h.of_block (hb.block _ h.lt)
theorem MapPg.new (w : World) (t : ByteArray) : MapPg (w.alloc (.map #[] 0)) w.heap.size t 0 :=
  ⟨.map [], World.ownsMap_made w _ _ _, ⟨[], rfl⟩, fun k hk => by omega, fun k _ => rfl⟩
/-- The next page is not whole. -/
theorem MapPg.skip (h : MapPg w mb t m) (hn : pgW t (m + 1) = false) : MapPg w mb t (m + 1) := by
  obtain ⟨D0, h1, h2, h3⟩ := h
  refine ⟨D0, h1.mono (Nat.le_succ m), h2, fun k hk hw => ?_, fun k hk => ?_⟩
  · by_cases e : k = m
    · rw [e, hn] at hw; cases hw
    · exact h3.yes k (by omega) hw
  · refine h3.no k ?_
    rcases hk with hk | hk
    · exact Or.inl (by omega)
    · exact Or.inr hk
/-- A look-up. -/
theorem MapPg.look (h : MapPg w mb t m) {k : Nat} (hk : k ≤ 1000000) :
    (Instr.lookup 26 (.map (some mb)) (.int .i64 (k : Int)) true).run Try.prog w = .ok (.tuple #[pgV (if k < m ∧ pgW t (k + 1) = true then pgB t k else List.replicate 60 0), .bool (decide (k < m) && pgW t (k + 1))]) w := by
  obtain ⟨D0, ⟨es, clock, hb, F, _, rfl⟩, h2, h3⟩ := h
  rcases Maps.fit_look true keysI Try.underlying26 (zeroPg w) hb F (keyI_of hk) with ⟨hrun, _, hat⟩ | ⟨e0, y, _, _, hrun, hRv, hat, _⟩
  · have hno : ¬ (k < m ∧ pgW t (k + 1) = true) := fun hc => by
      have h4 := h3.yes k hc.1 hc.2
      have h5 := h4 (.lit (.int .i64 0))
      rw [hat] at h5
      cases h5
    rw [hrun, if_neg hno]
    have : (decide (k < m) && pgW t (k + 1)) = false := by
      by_cases c : k < m
      · rw [decide_eq_true c, Bool.true_and]; exact Bool.eq_false_iff.2 (fun e => hno ⟨c, e⟩)
      · rw [decide_eq_false c, Bool.false_and]
    rw [this]
    rfl
  · have hyes : k < m ∧ pgW t (k + 1) = true := by
      refine Classical.byContradiction fun hc => ?_
      have h4 := h3.no k (by
        by_cases c : k < m
        · exact Or.inr (Bool.eq_false_iff.2 (fun e => hc ⟨c, e⟩))
        · exact Or.inl (by omega))
      rw [Maps.has_true_of_atKey hat] at h4
      cases h4
    have h4 := h3.yes k hyes.1 hyes.2 (.lit (.int .i64 0))
    rw [hat] at h4
    obtain ⟨l, e1, rfl⟩ := pgR_inv hRv
    simp only [DataW.lit.injEq, Lit.string.injEq] at h4
    rw [hrun, if_pos hyes, decide_eq_true hyes.1, hyes.2, e1, h4]
    rfl
/-- The next page is whole. -/
theorem MapPg.put (h : MapPg w mb t m) (hm : m ≤ 1000000) (hw : pgW t (m + 1) = true) : ∃ w', (Instr.mapUpdate 26 (.map (some mb)) (.int .i64 (m : Int)) (pgV (pgB t m))).run Try.prog w = .ok () w' ∧ MapPg w' mb t (m + 1) ∧ w.grownBy w' (some mb) := by
  obtain ⟨D0, h1, h2, h3⟩ := h
  obtain ⟨w', hr, ho, hg⟩ := h1.update keysI Try.underlying26 (by unfold maxLen; omega) (keyI_of hm) (pgR_mk (pgB t m))
  refine ⟨w', hr, ⟨_, ho, h2.put _ _, fun k hk hkw => ?_, fun k hk => ?_⟩, hg⟩
  · intro zd
    by_cases e : k = m
    · subst e
      exact Maps.atKey_put_same h2 (keyI_is k) _ zd
    · rw [Maps.atKey_put_other (fun he => e (keyI_inj he))]
      exact h3.yes k (by omega) hkw zd
  · by_cases e : k = m
    · subst e
      rcases hk with hk | hk
      · omega
      · rw [hw] at hk; cases hk
    · rw [Maps.has_put_other (fun he => e (keyI_inj he))]
      refine h3.no k ?_
      rcases hk with hk | hk
      · exact Or.inl (by omega)
      · exact Or.inr hk
end
/-- A filter, as it was loaded of a file's bytes. -/
def FilterAt (w : World) (f : Value) (t : ByteArray) : Prop :=
  (hdOk t = false ∧ f = .agg #[.int .i64 0, .int .i64 0, .map none]) ∨
  (hdOk t = true ∧ ∃ mb, f = .agg #[.int .i64 (hpT t : Nat), .int .i64 (hnT t : Nat), .map (some mb)] ∧ MapPg w mb t (hnT t / 60))
theorem FilterAt.below {w w' : World} {f : Value} {t : ByteArray} (h : FilterAt w f t) (hb : Below w.heap.size w w') : FilterAt w' f t := by
  rcases h with h | ⟨h, mb, e, hm⟩
  · exact Or.inl h
  · exact Or.inr ⟨h, mb, e, hm.below hb⟩
theorem FilterAt.none (w : World) : FilterAt w (.agg #[.int .i64 0, .int .i64 0, .map none]) ByteArray.empty := Or.inl ⟨hdOk_short (by decide), rfl⟩
end Go.Proofs.Ytfnppmiapjhjlaa

/- Hash -/
namespace Go.Proofs.Ytfnppmiapjhjlaa
open Go.RowKit
set_option linter.unusedVariables false

theorem val_u64 {a b : Int} (h : a = b) : Value.int .u64 a = .int .u64 b := by rw [h]
theorem ret_u64 {a b : Int} (h : a = b) : Ending.returned (.int .u64 a) = .returned (.int .u64 b) := by rw [h]

/-- The words that the walks write, for what is reckoned here. -/
theorem mixA_walk (x : Nat) (hx : x < 18446744073709551616) : IntKind.u64.wrap (bits .xor .u64 (x : Int) ((x : Int) / 4294967296) * 11400714819323198485) = ((mixA x : Nat) : Int) := mixStep_u64 x 4294967296 11400714819323198485 hx
theorem mixH_walk (x : Nat) : bits .xor .u64 ((mixA x : Nat) : Int) (((mixA x : Nat) : Int) / 536870912) = ((mixH x : Nat) : Int) := xorShift_u64 (mixA x) 536870912 (mixA_lt x)

theorem amount : bits .and .u64 (IntKind.u64.wrap (-17)) 63 = 47 := by decide +kernel

theorem rotH_or (x : Nat) (hx : x < 18446744073709551616) : x * 140737488355328 % 18446744073709551616 ||| x / 131072 = rotH x := by
  have e : x * 140737488355328 % 18446744073709551616 = x % 131072 * 140737488355328 := by omega
  have h := nat_join 47 (x % 131072 * 140737488355328) (x / 131072) (Nat.mul_mod_left _ _) (by omega)
  rw [e, h]
  unfold rotH
  omega
theorem rot_walk (x : Nat) (hx : x < 18446744073709551616) : bits .or .u64 (IntKind.u64.wrap ((x : Int) * 140737488355328)) ((x : Int) / 131072) = ((rotH x : Nat) : Int) := by
  have e1 : IntKind.u64.wrap ((x : Int) * 140737488355328) = ((x * 140737488355328 % 18446744073709551616 : Nat) : Int) := by
    rw [IntKind.wrap_u64]
    omega
  have e2 : (x : Int) / 131072 = ((x / 131072 : Nat) : Int) := by omega
  rw [e1, e2, u64_or_nat _ _ (by omega) (by omega), rotH_or x hx]

theorem rot_any (x : Nat) (w : World) (hx : x < 18446744073709551616) :
    Calls Try.prog 56 #[.int .u64 (x : Nat), .int .i64 (-17)] w fun e w' => e = .returned (.int .u64 (rotH x : Nat)) ∧ w = w' := by
  have hb := amount
  go_enter Try.func56, Try.ntmps56
  go_wp2
  go_ret
  exact ⟨ret_u64 (rot_walk x hx), rfl⟩

theorem step_walk (x : Nat) (hx : x < 18446744073709551616) : bits .or .u64 ((rotH x : Nat) : Int) 1 = ((stepH x : Nat) : Int) := by
  have h := u64_or_nat (rotH x) 1 (rotH_lt hx) (by decide)
  rw [stepH_or] at h
  exact h

theorem step_any (x : Nat) (w : World) (hx : x < 18446744073709551616) :
    Calls Try.prog 45 #[.int .u64 (x : Nat)] w fun e w' => e = .returned (.int .u64 (stepH x : Nat)) ∧ w = w' := by
  have h := Lib.hid (fun w => rot_any x w hx)
  have hr := rotH_lt hx
  have hs := Lib.hid (step_walk x hx)
  generalize rotH x = r at *
  go_enter Try.func45, Try.ntmps45
  go_wp2_with fail
  refine (h.out _).mono ?_
  rintro e w' ⟨rfl, rfl⟩
  go_wp2
  go_ret
  exact ⟨ret_u64 hs.out, rfl⟩

/-- A byte goes into a state, as the walk writes it. -/
theorem hst_walk (y c : Nat) (hy : y < 18446744073709551616) (hc : c < 256) : IntKind.u64.wrap (bits .xor .u64 (y : Int) (c : Int) * 1099511628211) = ((hst y c : Nat) : Int) := by
  rw [u64_xor_nat y c hy (byte_big hc), IntKind.wrap_u64, hst_eq, Int.natCast_emod, Int.natCast_mul]
  rfl
theorem start_walk (s : Nat) (hs : s < 18446744073709551616) : bits .xor .u64 14695981039346656037 (s : Int) = ((startH ^^^ s : Nat) : Int) := u64_xor_nat 14695981039346656037 s (by decide) hs

end Go.Proofs.Ytfnppmiapjhjlaa

/- HashRef -/
namespace Go.Proofs.Ytfnppmiapjhjlaa
open Go.RowKit
set_option linter.unusedVariables false

theorem step_ref_walk (x : Nat) (hx : x < 18446744073709551616) : (x : Int) / 131072 + (x : Int) % 131072 * 140737488355328 = ((rotH x : Nat) : Int) := by unfold rotH; omega

theorem step_ref_wrap (x : Nat) (hx : x < 18446744073709551616) : IntKind.u64.wrap (IntKind.u64.wrap ((x : Int) / 131072 + (x : Int) % 131072 * 140737488355328 + 1) - ((x : Int) / 131072 + (x : Int) % 131072 * 140737488355328) % 2) = ((stepH x : Nat) : Int) := by
  have hr := rotH_lt hx
  rw [step_ref_walk x hx, IntKind.wrap_u64, IntKind.wrap_u64]
  unfold stepH
  generalize rotH x = r at *
  omega

theorem step_ref (x : Nat) (w : World) (hx : x < 18446744073709551616) :
    Calls Try.prog 46 #[.int .u64 (x : Nat)] w fun e w' => e = .returned (.int .u64 (stepH x : Nat)) ∧ w = w' := by
  go_enter Try.func46, Try.ntmps46
  go_wp2
  go_ret
  exact ⟨ret_u64 (step_ref_wrap x hx), rfl⟩

end Go.Proofs.Ytfnppmiapjhjlaa
