/- Manifests as plain data: which may be, their bytes, and what is read of bytes. No function of the program. -/
import Derived.Test.YtcfidpjhemjbjaaLvMath
import Derived.Test.YtcfidpjhemjbjaaSealed
namespace Go.Proofs.Ytcfidpjhemjbjaa
set_option linter.unusedVariables false

/-- A manifest. -/
structure ManS where
  next : Int
  check : Int
  seed : Nat
  lv : LvL
theorem ManS.ext' {a b : ManS} (h1 : a.next = b.next) (h2 : a.check = b.check) (h3 : a.seed = b.seed) (h4 : a.lv = b.lv) : a = b := by
  cases a; cases b; simp only at h1 h2 h3 h4; subst h1; subst h2; subst h3; subst h4; rfl
def MayM (m : ManS) : Prop := 0 ≤ m.next ∧ m.next ≤ 1000000 ∧ 0 ≤ m.check ∧ m.check ≤ 2147483647 ∧ MayBe m.lv ∧ ∀ x ∈ m.lv.flatten, x < m.next
instance (m : ManS) : Decidable (MayM m) := by unfold MayM; infer_instance
def mayM (m : ManS) : Bool := decide (MayM m)
/-- Without empty levels at the end. -/
def trimM (m : ManS) : ManS := ⟨m.next, m.check, m.seed, trimL m.lv⟩
/-- Whether two are the same (P22.1). -/
def sameM (a b : ManS) : Bool := decide (a.next = b.next ∧ a.check = b.check ∧ a.seed = b.seed ∧ trimL a.lv = trimL b.lv)

def u4 (x : Int) : List UInt8 := be 4 x.toNat
def lvB (l : List Int) : List UInt8 := be 1 l.length ++ l.flatMap u4
def lvsB (L : LvL) : List UInt8 := L.flatMap lvB
def imapL : List UInt8 := [105, 109, 97, 112]
/-- What stands ahead of the levels. -/
def mfHead (m : ManS) : List UInt8 := imapL ++ be 4 m.next.toNat ++ be 4 m.check.toNat ++ be 8 m.seed
def mfTop (m : ManS) : List UInt8 := mfHead m ++ be 1 (trimL m.lv).length
def mfBody (m : ManS) : List UInt8 := mfTop m ++ lvsB (trimL m.lv)
/-- A manifest's bytes (P22.2). -/
def mfB (m : ManS) : ByteArray := sealS (bs (mfBody m))
/-- What Put tells. -/
def mfS (m : ManS) : ByteArray := if MayM m then mfB m else ByteArray.empty
def mfE (m : ManS) : Int := if MayM m then 0 else 2
theorem mf_no {m : ManS} (h : ¬ MayM m) : mfS m = ByteArray.empty ∧ mfE m = 2 := by unfold mfS mfE; rw [if_neg h, if_neg h]; exact ⟨rfl, rfl⟩
theorem mf_yes {m : ManS} (h : MayM m) : mfS m = mfB m ∧ mfE m = 0 := by unfold mfS mfE; rw [if_pos h, if_pos h]; exact ⟨rfl, rfl⟩

theorem u4_length (x : Int) : (u4 x).length = 4 := be_length _ _
theorem flat4_length : ∀ l : List Int, (l.flatMap u4).length = 4 * l.length
  | [] => rfl
  | x :: l => by rw [List.flatMap_cons, List.length_append, u4_length, flat4_length l, List.length_cons]; omega
theorem lvB_length (l : List Int) : (lvB l).length = 1 + 4 * l.length := by unfold lvB; rw [List.length_append, be_length, flat4_length]
theorem lvsB_append (a b : LvL) : lvsB (a ++ b) = lvsB a ++ lvsB b := by unfold lvsB; rw [List.flatMap_append]
theorem lvsB_cons (x : List Int) (L : LvL) : lvsB (x :: L) = lvB x ++ lvsB L := by unfold lvsB; rw [List.flatMap_cons]
theorem lvsB_one (x : List Int) : lvsB [x] = lvB x := by rw [lvsB_cons]; show _ ++ [] = _; rw [List.append_nil]
theorem lvsB_nil : lvsB [] = [] := rfl
theorem lvsB_length : ∀ L : LvL, (lvsB L).length = L.length + 4 * L.flatten.length
  | [] => rfl
  | x :: L => by rw [lvsB_cons, List.length_append, lvB_length, lvsB_length L, List.length_cons, List.flatten_cons, List.length_append]; omega
theorem mfHead_length (m : ManS) : (mfHead m).length = 20 := by
  unfold mfHead
  rw [List.length_append, List.length_append, List.length_append, be_length, be_length, be_length]
  rfl
theorem mfTop_length (m : ManS) : (mfTop m).length = 21 := by unfold mfTop; rw [List.length_append, mfHead_length, be_length]
theorem mfB_size (m : ManS) : (mfB m).size = 25 + (lvsB (trimL m.lv)).length := by unfold mfB; rw [seal_size, bs_size]; unfold mfBody; rw [List.length_append, mfTop_length]; omega
theorem mfB_list (m : ManS) : (mfB m).data.toList = mfTop m ++ (lvsB (trimL m.lv) ++ tailS (mfBody m)) := by
  unfold mfB
  rw [seal_list, sl_list]
  conv => lhs; arg 1; unfold mfBody
  rw [List.append_assoc]
theorem MayM.lv_ok {m : ManS} (h : MayM m) : (trimL m.lv).length ≤ 5 ∧ (trimL m.lv).flatten.length ≤ 40 ∧ ∀ x ∈ trimL m.lv, x.length ≤ 40 ∧ ∀ y ∈ x, 0 ≤ y ∧ y < 4294967296 := by
  obtain ⟨h1, h2, h3, h4, h5, h6⟩ := h
  have e := trimL_flatten m.lv
  have hl := trimL_length m.lv
  have hf : (trimL m.lv).flatten.length ≤ 40 := by rw [e]; exact h5.2.1
  refine ⟨by have := h5.1; omega, hf, fun x hx => ⟨?_, fun y hy => ?_⟩⟩
  · have h7 : ∀ (L : LvL), x ∈ L → x.length ≤ L.flatten.length := by
      intro L
      induction L with
      | nil => intro h; cases h
      | cons z L ih =>
        intro h
        rw [List.flatten_cons, List.length_append]
        rcases List.mem_cons.1 h with rfl | h
        · omega
        · have := ih h; omega
    have := h7 _ hx
    omega
  · have hm : y ∈ m.lv.flatten := by rw [← e]; exact List.mem_flatten.2 ⟨x, hx, hy⟩
    have a := h5.2.2.1 y hm
    have b := h6 y hm
    omega
theorem mfB_small {m : ManS} (h : MayM m) : (mfB m).size ≤ 190 := by
  obtain ⟨h1, h2, -⟩ := h.lv_ok
  rw [mfB_size, lvsB_length]
  omega

theorem trimN_idem (L : LvL) (n : Nat) (hn : n ≤ L.length) : trimN (L.take (trimN L n)) (trimN L n) = trimN L n := by
  induction n with
  | zero => rfl
  | succ n ih =>
    by_cases c : L.getD n [] = []
    · have e : trimN L (n + 1) = trimN L n := by rw [trimN, if_pos c]
      rw [e]
      exact ih (by omega)
    · have e : trimN L (n + 1) = n + 1 := by rw [trimN, if_neg c]
      rw [e, trimN, if_neg]
      rw [List.getD_eq_getElem?_getD, List.getElem?_take, if_pos (by omega), ← List.getD_eq_getElem?_getD]
      exact c
theorem trimL_idem (L : LvL) : trimL (trimL L) = trimL L := by
  have hle := trimN_le L L.length
  have h := trimN_idem L L.length (Nat.le_refl _)
  have e : trimL L = L.take (trimN L L.length) := rfl
  have hl : (L.take (trimN L L.length)).length = trimN L L.length := by rw [List.length_take]; omega
  show (trimL L).take (trimN (trimL L) (trimL L).length) = trimL L
  rw [e, hl, h, List.take_take, Nat.min_self]
theorem trimM_idem (m : ManS) : trimM (trimM m) = trimM m := by unfold trimM; rw [trimL_idem]
theorem trimN_empties (L : LvL) (k : Nat) : ∀ n, n ≤ L.length → trimN (L ++ List.replicate k []) n = trimN L n
  | 0, _ => rfl
  | n + 1, h => by
    have e : (L ++ List.replicate k []).getD n [] = L.getD n [] := by rw [List.getD_eq_getElem?_getD, List.getD_eq_getElem?_getD, List.getElem?_append_left (by omega)]
    unfold trimN
    rw [e, trimN_empties L k n (by omega)]
theorem trimN_more (L : LvL) (k : Nat) : ∀ j, j ≤ k → trimN (L ++ List.replicate k []) (L.length + j) = trimN L L.length
  | 0, _ => trimN_empties L k _ (Nat.le_refl _)
  | j + 1, h => by
    have e : (L ++ List.replicate k []).getD (L.length + j) ([] : List Int) = [] := by
      rw [List.getD_eq_getElem?_getD, List.getElem?_append_right (by omega), List.getElem?_replicate]
      split <;> rfl
    rw [show L.length + (j + 1) = (L.length + j) + 1 from rfl, trimN, if_pos e]
    exact trimN_more L k j (by omega)
/-- Empty levels at the end make no difference. -/
theorem trimL_more (L : LvL) (k : Nat) : trimL (L ++ List.replicate k []) = trimL L := by
  have hle := trimN_le L L.length
  conv => lhs; unfold trimL
  rw [List.length_append, List.length_replicate, trimN_more L k k (Nat.le_refl _), List.take_append_of_le_length hle]
  rfl
theorem mayBe_more (L : LvL) (k : Nat) (h : MayBe L) (hk : L.length + k ≤ 5) : MayBe (L ++ List.replicate k []) := by
  have e : (L ++ List.replicate k []).flatten = L.flatten := by rw [List.flatten_append, flatten_empty, List.append_nil]
  refine ⟨by rw [List.length_append, List.length_replicate]; exact hk, ?_⟩
  rw [e]
  exact h.2
theorem mayBe_trim {L : LvL} (h : MayBe L) : MayBe (trimL L) := by
  have := trimL_length L
  refine ⟨by have := h.1; omega, ?_⟩
  rw [trimL_flatten]
  exact h.2
theorem mayM_trim {m : ManS} (h : MayM m) : MayM (trimM m) := by
  obtain ⟨h1, h2, h3, h4, h5, h6⟩ := h
  refine ⟨h1, h2, h3, h4, mayBe_trim h5, ?_⟩
  show ∀ x ∈ (trimL m.lv).flatten, _
  rw [trimL_flatten]
  exact h6
theorem mfB_trim (m : ManS) : mfB (trimM m) = mfB m := by
  have e1 : trimL (trimM m).lv = trimL m.lv := trimL_idem m.lv
  have e2 : mfBody (trimM m) = mfBody m := by unfold mfBody mfTop mfHead; rw [e1]; rfl
  unfold mfB
  rw [e2]
theorem sameM_trim (m : ManS) : sameM m (trimM m) = true := by
  refine decide_eq_true ⟨rfl, rfl, rfl, ?_⟩
  exact (trimL_idem m.lv).symm
theorem sameM_self (m : ManS) : sameM m m = true := decide_eq_true ⟨rfl, rfl, rfl, rfl⟩
/-- With more empty levels at the end. -/
def moreM (m : ManS) (k : Nat) : ManS := ⟨m.next, m.check, m.seed, m.lv ++ List.replicate k []⟩
theorem moreM_trim (m : ManS) (k : Nat) : trimM (moreM m k) = trimM m := by unfold trimM moreM; rw [trimL_more]
theorem moreM_put (m : ManS) (k : Nat) : mfB (moreM m k) = mfB m := by rw [← mfB_trim, moreM_trim, mfB_trim]
theorem moreM_may {m : ManS} {k : Nat} (h : MayM m) (hk : m.lv.length + k ≤ 5) : MayM (moreM m k) := by
  obtain ⟨h1, h2, h3, h4, h5, h6⟩ := h
  refine ⟨h1, h2, h3, h4, mayBe_more _ _ h5 hk, ?_⟩
  show ∀ x ∈ (m.lv ++ List.replicate k []).flatten, _
  rw [List.flatten_append, flatten_empty, List.append_nil]
  exact h6
theorem sameM_more {m n : ManS} (k : Nat) (h : sameM m n = true) : sameM m (moreM n k) = true := by
  obtain ⟨h1, h2, h3, h4⟩ := of_decide_eq_true h
  refine decide_eq_true ⟨h1, h2, h3, ?_⟩
  show trimL m.lv = trimL (n.lv ++ List.replicate k [])
  rw [trimL_more, h4]

/-- The number of so many bytes at a place. -/
def num (s : ByteArray) (p n : Nat) : Nat := getS (s.extract p (p + n))
/-- So many numbers at a place. -/
def lvAt (s : ByteArray) (p k : Nat) : List Int := (List.range k).map fun j => ((num s (p + 4 * j) 4 : Nat) : Int)
theorem lvAt_length (s : ByteArray) (p k : Nat) : (lvAt s p k).length = k := by unfold lvAt; rw [List.length_map, List.length_range]
theorem lvAt_succ (s : ByteArray) (p k : Nat) : lvAt s p (k + 1) = lvAt s p k ++ [((num s (p + 4 * k) 4 : Nat) : Int)] := by unfold lvAt; rw [List.range_succ, List.map_append]; rfl
theorem lvAt_zero (s : ByteArray) (p : Nat) : lvAt s p 0 = [] := rfl
theorem lvAt_at (s : ByteArray) (p : Nat) {k j : Nat} (h : j < k) : (lvAt s p k)[j]? = some ((num s (p + 4 * j) 4 : Nat) : Int) := by unfold lvAt; rw [List.getElem?_map, List.getElem?_range h]; rfl
theorem num_list {s : ByteArray} {a b c : List UInt8} {p n : Nat} (h : s.data.toList = a ++ (b ++ c)) (hp : p = a.length) (hn : n = b.length) (h8 : n ≤ 8) : num s p n = un b := by
  subst hp
  subst hn
  unfold num getS
  rw [sl_ext, h, List.drop_left, show a.length + b.length - a.length = b.length by omega, List.take_left, List.take_of_length_le h8]
theorem num_lt (s : ByteArray) (p n k : Nat) (hn : n ≤ k) (h8 : n ≤ 8) : num s p n < 256 ^ k := by
  unfold num getS
  have h := un_lt ((s.extract p (p + n)).data.toList.take 8)
  have h2 : ((s.extract p (p + n)).data.toList.take 8).length ≤ k := by
    rw [List.length_take, sl_ext, List.length_take]
    omega
  exact Nat.lt_of_lt_of_le h (Nat.pow_le_pow_right (by decide) h2)
theorem un_four' (n : Nat) (h : n < 4294967296) : un (be 4 n) = n := by
  have p : (256 : Nat) ^ 4 = 4294967296 := by decide
  rw [un_be, p, Nat.mod_eq_of_lt h]
theorem un_eight' (n : Nat) (h : n < 18446744073709551616) : un (be 8 n) = n := by
  have p : (256 : Nat) ^ 8 = 18446744073709551616 := by decide
  rw [un_be, p, Nat.mod_eq_of_lt h]
theorem un_one' (n : Nat) (h : n < 256) : un (be 1 n) = n := by rw [un_be, Nat.pow_one, Nat.mod_eq_of_lt h]
theorem flat4_take {x : List Int} {j : Nat} (h : j < x.length) : x.flatMap u4 = (x.take j).flatMap u4 ++ (u4 x[j] ++ (x.drop (j + 1)).flatMap u4) := by
  conv => lhs; rw [← List.take_append_drop j x, List.drop_eq_getElem_cons h, List.flatMap_append, List.flatMap_cons]
/-- Numbers that stand at a place are read there. -/
theorem lvAt_list {s : ByteArray} {a c : List UInt8} {x : List Int} {p : Nat} (h : s.data.toList = a ++ (x.flatMap u4 ++ c)) (hp : p = a.length) (hx : ∀ y ∈ x, 0 ≤ y ∧ y < 4294967296) : lvAt s p x.length = x := by
  apply List.ext_getElem?
  intro j
  rcases Nat.lt_or_ge j x.length with c1 | c1
  · rw [lvAt_at _ _ c1, List.getElem?_eq_getElem c1]
    have e : s.data.toList = (a ++ (x.take j).flatMap u4) ++ (u4 x[j] ++ ((x.drop (j + 1)).flatMap u4 ++ c)) := by
      rw [h, flat4_take c1]
      simp only [List.append_assoc]
    have hl : p + 4 * j = (a ++ (x.take j).flatMap u4).length := by rw [List.length_append, flat4_length, List.length_take, hp]; omega
    have h1 := hx x[j] (List.getElem_mem c1)
    rw [num_list e hl (u4_length _).symm (by decide)]
    unfold u4
    rw [un_four' _ (by omega)]
    congr 1
    omega
  · rw [List.getElem?_eq_none (by rw [lvAt_length]; exact c1), List.getElem?_eq_none c1]

/-- Where a level's bytes begin. -/
def place (T : LvL) (i : Nat) : Nat := 21 + (lvsB (T.take i)).length
theorem place_zero (T : LvL) : place T 0 = 21 := rfl
theorem place_succ {T : LvL} {i : Nat} {x : List Int} (h : T[i]? = some x) : place T (i + 1) = place T i + 1 + 4 * x.length := by
  have e : T.take (i + 1) = T.take i ++ [x] := by rw [List.take_add_one, h]; rfl
  unfold place
  rw [e, lvsB_append, lvsB_one, List.length_append, lvB_length]
  omega
/-- What stands in a manifest's bytes, ahead. -/
theorem mf_front {m : ManS} {s : ByteArray} (h : MayM m) (hseed : m.seed < 18446744073709551616) (hs : mfB m = s) :
    ((num s 4 4 : Nat) : Int) = m.next ∧ ((num s 8 4 : Nat) : Int) = m.check ∧ num s 12 8 = m.seed ∧ num s 20 1 = (trimL m.lv).length := by
  obtain ⟨h1, h2, h3, h4, h5, h6⟩ := h
  have hl := trimL_length m.lv
  have hl5 := h5.1
  have e := mfB_list m
  rw [hs] at e
  unfold mfTop mfHead at e
  have l4 : imapL.length = 4 := rfl
  have e1 : s.data.toList = imapL ++ (be 4 m.next.toNat ++ (be 4 m.check.toNat ++ (be 8 m.seed ++ (be 1 (trimL m.lv).length ++ (lvsB (trimL m.lv) ++ tailS (mfBody m)))))) := by rw [e]; simp only [List.append_assoc]
  have e2 : s.data.toList = (imapL ++ be 4 m.next.toNat) ++ (be 4 m.check.toNat ++ (be 8 m.seed ++ (be 1 (trimL m.lv).length ++ (lvsB (trimL m.lv) ++ tailS (mfBody m))))) := by rw [e]; simp only [List.append_assoc]
  have e3 : s.data.toList = (imapL ++ be 4 m.next.toNat ++ be 4 m.check.toNat) ++ (be 8 m.seed ++ (be 1 (trimL m.lv).length ++ (lvsB (trimL m.lv) ++ tailS (mfBody m)))) := by rw [e]; simp only [List.append_assoc]
  have e4 : s.data.toList = (imapL ++ be 4 m.next.toNat ++ be 4 m.check.toNat ++ be 8 m.seed) ++ (be 1 (trimL m.lv).length ++ (lvsB (trimL m.lv) ++ tailS (mfBody m))) := by rw [e]; simp only [List.append_assoc]
  refine ⟨?_, ?_, ?_, ?_⟩
  · rw [num_list e1 l4.symm (be_length _ _).symm (by decide), un_four' _ (by omega)]; omega
  · rw [num_list e2 (by rw [List.length_append, be_length]; rfl) (be_length _ _).symm (by decide), un_four' _ (by omega)]; omega
  · rw [num_list e3 (by rw [List.length_append, List.length_append, be_length, be_length]; rfl) (be_length _ _).symm (by decide), un_eight' _ hseed]
  · rw [num_list e4 (by rw [List.length_append, List.length_append, List.length_append, be_length, be_length, be_length]; rfl) (be_length _ _).symm (by decide), un_one' _ (by omega)]
/-- What stands in them at a level's place. -/
theorem mf_level {m : ManS} {s : ByteArray} {i : Nat} {x : List Int} (h : MayM m) (hs : mfB m = s) (hx : (trimL m.lv)[i]? = some x) :
    num s (place (trimL m.lv) i) 1 = x.length ∧ lvAt s (place (trimL m.lv) i + 1) x.length = x ∧ place (trimL m.lv) i + 1 + 4 * x.length + 4 ≤ s.size := by
  obtain ⟨k1, k2, k3⟩ := h.lv_ok
  obtain ⟨x40, xb⟩ := k3 x (List.mem_of_getElem? hx)
  have hi : i < (trimL m.lv).length := (List.getElem?_eq_some_iff.1 hx).1
  have e := mfB_list m
  have hsz := mfB_size m
  rw [hs] at e hsz
  have eT : trimL m.lv = (trimL m.lv).take i ++ (x :: (trimL m.lv).drop (i + 1)) := by
    have := (List.getElem?_eq_some_iff.1 hx).2
    conv => lhs; rw [← List.take_append_drop i (trimL m.lv), List.drop_eq_getElem_cons hi, this]
  have eL : lvsB (trimL m.lv) = lvsB ((trimL m.lv).take i) ++ (be 1 x.length ++ (x.flatMap u4 ++ lvsB ((trimL m.lv).drop (i + 1)))) := by
    conv => lhs; rw [eT]
    rw [lvsB_append, lvsB_cons]
    unfold lvB
    simp only [List.append_assoc]
  have e1 : s.data.toList = (mfTop m ++ lvsB ((trimL m.lv).take i)) ++ (be 1 x.length ++ (x.flatMap u4 ++ (lvsB ((trimL m.lv).drop (i + 1)) ++ tailS (mfBody m)))) := by rw [e, eL]; simp only [List.append_assoc]
  have e2 : s.data.toList = (mfTop m ++ lvsB ((trimL m.lv).take i) ++ be 1 x.length) ++ (x.flatMap u4 ++ (lvsB ((trimL m.lv).drop (i + 1)) ++ tailS (mfBody m))) := by rw [e, eL]; simp only [List.append_assoc]
  have hp : place (trimL m.lv) i = (mfTop m ++ lvsB ((trimL m.lv).take i)).length := by unfold place; rw [List.length_append, mfTop_length]
  refine ⟨?_, ?_, ?_⟩
  · rw [num_list e1 hp (be_length _ _).symm (by decide), un_one' _ (by omega)]
  · exact lvAt_list e2 (by rw [List.length_append, be_length, ← hp]) xb
  · rw [eL] at hsz
    simp only [List.length_append, be_length, flat4_length] at hsz
    unfold place
    omega
/-- What has been read up to a level. -/
def MfAt (s : ByteArray) (i p : Nat) (L : LvL) : Prop := ∀ m, MayM m → mfB m = s → i ≤ (trimL m.lv).length → p = place (trimL m.lv) i ∧ L = (trimL m.lv).take i
theorem mf_start (s : ByteArray) : MfAt s 0 21 [] := fun m _ _ _ => ⟨rfl, rfl⟩
/-- One level more, as far as there are bytes. -/
theorem mf_step {s : ByteArray} {i p k : Nat} {L : LvL} (h : MfAt s i p L) (hk : k ≤ num s p 1) (he : k = num s p 1 ∨ s.size < p + 1 + 4 * k + 4) : MfAt s (i + 1) (p + 1 + 4 * k) (L ++ [lvAt s (p + 1) k]) := by
  intro m hm hs hi
  obtain ⟨rfl, rfl⟩ := h m hm hs (by omega)
  obtain ⟨x, hx⟩ : ∃ x, (trimL m.lv)[i]? = some x := ⟨_, List.getElem?_eq_getElem hi⟩
  obtain ⟨h1, h2, h3⟩ := mf_level hm hs hx
  have hkx : k = x.length := by omega
  subst hkx
  refine ⟨(place_succ hx).symm, ?_⟩
  rw [h2, List.take_add_one, hx]
  rfl
/-- What was read of bytes: if they are a manifest's, just that one. -/
def ReadsM (s : ByteArray) (r : ManS) : Prop := ∀ m, MayM m → m.seed < 18446744073709551616 → mfB m = s → r = trimM m
theorem mf_end {s : ByteArray} {n p : Nat} {L : LvL} (h : MfAt s n p L) (hn : n ≤ num s 20 1) (he : n = num s 20 1 ∨ s.size ≤ p) : ReadsM s ⟨(num s 4 4 : Nat), (num s 8 4 : Nat), num s 12 8, L⟩ := by
  intro m hm hseed hs
  obtain ⟨h1, h2, h3, h4⟩ := mf_front hm hseed hs
  obtain ⟨h5, h6⟩ := h m hm hs (by omega)
  have hn2 : n = (trimL m.lv).length := by
    rcases he with e | e
    · omega
    · have hle : (lvsB ((trimL m.lv).take n)).length ≤ (lvsB (trimL m.lv)).length := by
        conv => rhs; rw [← List.take_append_drop n (trimL m.lv), lvsB_append, List.length_append]
        omega
      have := mfB_size m
      rw [hs] at this
      unfold place at h5
      omega
  refine ManS.ext' h1 h2 h3 ?_
  show L = trimL m.lv
  rw [h6, hn2, List.take_length]
/-- Bytes of a manifest. -/
def GoodM (s : ByteArray) : Prop := ∃ m, (MayM m ∧ m.seed < 18446744073709551616) ∧ mfB m = s
open Classical in
/-- What Get tells. -/
noncomputable def mgE (s : ByteArray) : Int := if GoodM s then 0 else 90
def zeroM : ManS := ⟨0, 0, 0, []⟩
open Classical in
noncomputable def mgM (s : ByteArray) : ManS := if h : GoodM s then trimM (Classical.choose h) else zeroM
theorem mg_no {s : ByteArray} (h : ¬ GoodM s) : mgE s = 90 ∧ mgM s = zeroM := by unfold mgE mgM; rw [if_neg h, dif_neg h]; exact ⟨rfl, rfl⟩
theorem mg_yes {s : ByteArray} {r : ManS} (h : GoodM s) (hr : ReadsM s r) : mgE s = 0 ∧ mgM s = r := by
  unfold mgE mgM
  rw [if_pos h, dif_pos h]
  obtain ⟨⟨h1, h2⟩, h3⟩ := Classical.choose_spec h
  exact ⟨rfl, (hr _ h1 h2 h3).symm⟩
/-- What was read is put again: just if they are a manifest's. -/
theorem good_reads {s : ByteArray} {r : ManS} (hr : ReadsM s r) (hseed : r.seed < 18446744073709551616) : GoodM s ↔ MayM r ∧ mfB r = s := by
  constructor
  · rintro ⟨m, ⟨h1, h2⟩, h3⟩
    have e := hr m h1 h2 h3
    rw [e]
    exact ⟨mayM_trim h1, by rw [mfB_trim]; exact h3⟩
  · rintro ⟨h1, h2⟩
    exact ⟨r, ⟨h1, hseed⟩, h2⟩
theorem mg_back {m : ManS} (h : MayM m) (hseed : m.seed < 18446744073709551616) : mgE (mfB m) = 0 ∧ mgM (mfB m) = trimM m := by
  have hg : GoodM (mfB m) := ⟨m, ⟨h, hseed⟩, rfl⟩
  unfold mgE mgM
  rw [if_pos hg, dif_pos hg]
  obtain ⟨⟨h1, h2⟩, h3⟩ := Classical.choose_spec hg
  refine ⟨rfl, ?_⟩
  generalize Classical.choose hg = m' at *
  have ra : ∀ a : ManS, MayM a → a.seed < 18446744073709551616 → mfB a = mfB m → ∃ L p, MfAt (mfB m) (num (mfB m) 20 1) p L := by
    intro a ha hsa hea
    have hrun : ∀ i, ∃ L p, MfAt (mfB m) i p L := by
      intro i
      induction i with
      | zero => exact ⟨_, _, mf_start _⟩
      | succ i ih =>
        obtain ⟨L, p, h⟩ := ih
        exact ⟨_, _, mf_step h (Nat.le_refl _) (Or.inl rfl)⟩
    exact hrun _
  obtain ⟨L, p, hL⟩ := ra m h hseed rfl
  have hR := mf_end hL (Nat.le_refl _) (Or.inl rfl)
  rw [← hR m' h1 h2 h3, hR m h hseed rfl]
/-- A manifest's bytes are sealed. -/
theorem good_sealed {s : ByteArray} (h : GoodM s) : opOk s = true := by
  obtain ⟨m, -, rfl⟩ := h
  exact opOk_seal _
theorem num_more {a x : ByteArray} {p n : Nat} (h : p + n ≤ a.size) : num (a ++ x) p n = num a p n := by
  have hl := sl_size a
  unfold num
  rw [sl_extbs (a ++ x), sl_extbs a, sl_append, List.drop_append_of_le_length (by omega), List.take_append_of_le_length (by rw [List.length_drop]; omega)]
theorem lvAt_more {a x : ByteArray} {p k : Nat} (h : p + 4 * k ≤ a.size) : lvAt (a ++ x) p k = lvAt a p k := by
  unfold lvAt
  apply List.map_congr_left
  intro j hj
  have := List.mem_range.1 hj
  rw [num_more (by omega)]
/-- No manifest's bytes have another one's ahead. -/
theorem mf_ahead {a x : ByteArray} (h1 : GoodM a) (h2 : GoodM (a ++ x)) : x.size = 0 := by
  obtain ⟨m, ⟨hm, sm⟩, e1⟩ := h1
  obtain ⟨n, ⟨hn, sn⟩, e2⟩ := h2
  have za : 25 ≤ a.size := by rw [← e1, mfB_size]; omega
  have l1 := (mf_front hm sm e1).2.2.2
  have l2 := (mf_front hn sn e2).2.2.2
  rw [num_more (by omega)] at l2
  have hl : (trimL n.lv).length = (trimL m.lv).length := by omega
  have key : ∀ i, i ≤ (trimL m.lv).length → (trimL n.lv).take i = (trimL m.lv).take i := by
    intro i
    induction i with
    | zero => intro _; rfl
    | succ i ih =>
      intro hi
      have e := ih (by omega)
      obtain ⟨x1, hx1⟩ : ∃ x, (trimL m.lv)[i]? = some x := ⟨_, List.getElem?_eq_getElem hi⟩
      obtain ⟨x2, hx2⟩ : ∃ x, (trimL n.lv)[i]? = some x := ⟨_, List.getElem?_eq_getElem (show i < (trimL n.lv).length by omega)⟩
      obtain ⟨a1, a2, a3⟩ := mf_level hm e1 hx1
      obtain ⟨b1, b2, b3⟩ := mf_level hn e2 hx2
      have ep : place (trimL n.lv) i = place (trimL m.lv) i := by unfold place; rw [e]
      rw [ep, num_more (by omega), a1] at b1
      rw [ep, ← b1, lvAt_more (by omega), a2] at b2
      rw [List.take_add_one, List.take_add_one, e, hx1, hx2, b2]
  have eT : trimL n.lv = trimL m.lv := by
    have := key _ (Nat.le_refl _)
    rw [List.take_length] at this
    rw [← this, ← hl, List.take_length]
  have z1 := mfB_size m
  have z2 := mfB_size n
  rw [e1] at z1
  rw [e2, eT, ByteArray.size_append] at z2
  omega
end Go.Proofs.Ytcfidpjhemjbjaa
