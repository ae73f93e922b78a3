/- EntMath, EntSorted -/
import Derived.Test.YtmbhafabphogdaaGreatRk02
import Derived.Test.YtmbhafabphogdaaGreatRk26
import Derived.Lib.IndexBytes
/- EntMath -/
namespace Go.Proofs.YtmbhafabphogdaaGreat
open Go.RowKit
set_option linter.unusedVariables false

/-- Whether an entry stands ahead of another one (P13.1). -/
def lessE (x y : EntS) : Bool := decide (x.h < y.h ∨ (x.h = y.h ∧ (x.v < y.v ∨ (x.v = y.v ∧ x.p < y.p))))
theorem lessE_iff {x y : EntS} : lessE x y = true ↔ (x.h < y.h ∨ (x.h = y.h ∧ (x.v < y.v ∨ (x.v = y.v ∧ x.p < y.p)))) := by unfold lessE; exact decide_eq_true_iff
theorem entS_ext {x y : EntS} (h1 : x.h = y.h) (h2 : x.v = y.v) (h3 : x.p = y.p) : x = y := by cases x; cases y; simp_all
instance entS_dec : DecidableEq EntS := fun x y => decidable_of_iff (x.h = y.h ∧ x.v = y.v ∧ x.p = y.p) ⟨fun h => entS_ext h.1 h.2.1 h.2.2, fun h => by subst h; exact ⟨rfl, rfl, rfl⟩⟩
theorem lessE_irrefl (x : EntS) : lessE x x = false := by unfold lessE; exact decide_eq_false (by omega)
theorem lessE_trans {x y z : EntS} (h : lessE x y = true) (k : lessE y z = true) : lessE x z = true := by rw [lessE_iff] at *; omega
theorem lessE_other {x y : EntS} (h : lessE x y = false) (hne : x ≠ y) : lessE y x = true := by
  rcases Decidable.em (lessE y x = true) with c | c
  · exact c
  · exfalso
    apply hne
    have h1 : ¬ lessE x y = true := by rw [h]; decide
    rw [lessE_iff] at h1 c
    exact entS_ext (by omega) (by omega) (by omega)
theorem lessE_asymm {x y : EntS} (h : lessE x y = true) : lessE y x = false := by
  cases k : lessE y x with
  | false => rfl
  | true => have := lessE_trans h k; rw [lessE_irrefl] at this; cases this

/-- Whether an entry may be. -/
def mayE (x : EntS) : Bool := decide (0 ≤ x.v ∧ 0 ≤ x.p)
/-- Its bytes (P13.2, Put). -/
def putL (x : EntS) : List UInt8 := be 8 x.h ++ (be 8 x.v.toNat ++ be 8 x.p.toNat)
def putE (x : EntS) : ByteArray := if mayE x = true then bs (putL x) else ByteArray.empty
/-- The entry of bytes (P13.2, Get). -/
def enV (s : ByteArray) : Nat := getS (s.extract 8 16)
def enP (s : ByteArray) : Nat := getS (s.extract 16 24)
def enOk (s : ByteArray) : Bool := decide (s.size = 24 ∧ enV s < 9223372036854775808 ∧ enP s < 9223372036854775808)
def enG (s : ByteArray) : EntS := if enOk s = true then ⟨getS (s.extract 0 8), (enV s : Nat), (enP s : Nat)⟩ else ⟨0, 0, 0⟩

theorem putL_length (x : EntS) : (putL x).length = 24 := by unfold putL; rw [List.length_append, List.length_append, be_length, be_length, be_length]
theorem putE_size {x : EntS} (h : mayE x = true) : (putE x).size = 24 := by unfold putE; rw [if_pos h, bs_size, putL_length]
theorem en_bs_list (l : List UInt8) : (bs l).data.toList = l := by simp [bs]
theorem ext_list (s : ByteArray) (i j : Nat) : (s.extract i j).data.toList = (s.data.toList.drop i).take (j - i) := by
  rw [ByteArray.data_extract, Array.toList_extract, List.extract_eq_take_drop]
theorem pow_8 : (256 : Nat) ^ 8 = 18446744073709551616 := by decide
theorem getS_of {s : ByteArray} {l : List UInt8} (h : s.data.toList = l) (hl : l.length = 8) : getS s = un l := by unfold getS; rw [h, List.take_of_length_le (by omega)]

theorem en_put {x : EntS} (hx : EntOk x) (h : mayE x = true) : enOk (putE x) = true ∧ enG (putE x) = x := by
  have hm := of_decide_eq_true h
  obtain ⟨h1, h2, h3, h4, h5⟩ := hx
  have hs := putE_size h
  have e : (putE x).data.toList = putL x := by unfold putE; rw [if_pos h, en_bs_list]
  have l1 := be_length 8 x.h
  have l2 := be_length 8 x.v.toNat
  have l3 := be_length 8 x.p.toNat
  have e0 : getS ((putE x).extract 0 8) = x.h := by
    rw [getS_of (l := be 8 x.h) _ l1, un_be, pow_8, Nat.mod_eq_of_lt h1]
    rw [ext_list, e, List.drop_zero]
    unfold putL
    rw [List.take_left' l1]
  have e1 : enV (putE x) = x.v.toNat := by
    unfold enV
    rw [getS_of (l := be 8 x.v.toNat) _ l2, un_be, pow_8, Nat.mod_eq_of_lt (by omega)]
    rw [ext_list, e]
    unfold putL
    rw [List.drop_left' l1, List.take_left' l2]
  have e2 : enP (putE x) = x.p.toNat := by
    unfold enP
    rw [getS_of (l := be 8 x.p.toNat) _ l3, un_be, pow_8, Nat.mod_eq_of_lt (by omega)]
    rw [ext_list, e]
    unfold putL
    rw [show (16 : Nat) = 8 + 8 from rfl, ← List.drop_drop, List.drop_left' l1, List.drop_left' l2, List.take_of_length_le (by omega)]
  have hok : enOk (putE x) = true := by
    unfold enOk
    rw [e1, e2]
    exact decide_eq_true ⟨hs, by omega, by omega⟩
  refine ⟨hok, ?_⟩
  unfold enG
  rw [if_pos hok, e0, e1, e2]
  exact entS_ext rfl (by show ((x.v.toNat : Nat) : Int) = x.v; omega) (by show ((x.p.toNat : Nat) : Int) = x.p; omega)
theorem en_empty : enOk ByteArray.empty = false := by unfold enOk; exact decide_eq_false (fun h => by have : (0 : Nat) = 24 := h.1; omega)
theorem en_put_no {x : EntS} (h : mayE x = false) : putE x = ByteArray.empty := by unfold putE; rw [h]; rfl
theorem enOk_put {x : EntS} (hx : EntOk x) : enOk (putE x) = mayE x := by
  cases h : mayE x with
  | true => exact (en_put hx h).1
  | false => rw [en_put_no h, en_empty]
/-- What is got is put as these bytes. -/
theorem en_form {s : ByteArray} (h : enOk s = true) : mayE (enG s) = true ∧ putE (enG s) = s := by
  have hok := of_decide_eq_true h
  obtain ⟨hz, hv, hp⟩ := hok
  have hm : mayE (enG s) = true := by
    unfold enG mayE
    rw [if_pos h]
    exact decide_eq_true ⟨by show (0 : Int) ≤ ((enV s : Nat) : Int); omega, by show (0 : Int) ≤ ((enP s : Nat) : Int); omega⟩
  refine ⟨hm, ?_⟩
  have hl : s.data.toList.length = 24 := by rw [Array.length_toList]; exact hz
  have a0 : ((s.data.toList.drop 0).take 8).length = 8 := by rw [List.length_take, List.length_drop]; omega
  have a1 : ((s.data.toList.drop 8).take 8).length = 8 := by rw [List.length_take, List.length_drop]; omega
  have a2 : ((s.data.toList.drop 16).take 8).length = 8 := by rw [List.length_take, List.length_drop]; omega
  have b0 := be_un ((s.data.toList.drop 0).take 8)
  have b1 := be_un ((s.data.toList.drop 8).take 8)
  have b2 := be_un ((s.data.toList.drop 16).take 8)
  rw [a0] at b0
  rw [a1] at b1
  rw [a2] at b2
  have g0 : getS (s.extract 0 8) = un ((s.data.toList.drop 0).take 8) := getS_of (ext_list s 0 8) a0
  have g1 : enV s = un ((s.data.toList.drop 8).take 8) := getS_of (ext_list s 8 16) a1
  have g2 : enP s = un ((s.data.toList.drop 16).take 8) := getS_of (ext_list s 16 24) a2
  have e : putL (enG s) = s.data.toList := by
    unfold enG putL
    rw [if_pos h]
    show be 8 (getS (s.extract 0 8)) ++ (be 8 ((enV s : Nat) : Int).toNat ++ be 8 ((enP s : Nat) : Int).toNat) = _
    rw [Int.toNat_natCast, Int.toNat_natCast, g0, g1, g2, b0, b1, b2, List.drop_zero]
    rw [show (16 : Nat) = 8 + 8 from rfl, ← List.drop_drop]
    have q : (((s.data.toList.drop 8).drop 8).take 8) = (s.data.toList.drop 8).drop 8 := List.take_of_length_le (by rw [List.length_drop, List.length_drop]; omega)
    rw [q, List.take_append_drop, List.take_append_drop]
  unfold putE
  rw [if_pos hm, e, bs_data]
theorem enG_no {s : ByteArray} (h : enOk s = false) : enG s = ⟨0, 0, 0⟩ := by unfold enG; rw [h]; rfl
theorem en_size {s : ByteArray} (h : s.size ≠ 24) : enOk s = false := by unfold enOk; exact decide_eq_false (fun x => h x.1)

theorem un_app (a b : List UInt8) : un (a ++ b) = un a * 256 ^ b.length + un b := by
  have h := fold_un b (un a)
  rw [← h]
  unfold un
  rw [List.foldl_append]
theorem less_un24 : ∀ l m : List UInt8, l.length = m.length → Op.bytesLess l m = decide (un l < un m)
  | [], [], _ => by simp [Op.bytesLess, un]
  | [], _ :: _, h => by simp at h
  | _ :: _, [], h => by simp at h
  | c :: l, d :: m, h => by
    have hlm : l.length = m.length := by simpa using h
    rw [Op.bytesLess, less_un24 l m hlm, un_cons, un_cons, hlm]
    have h1 := un_lt l
    have h2 := un_lt m
    rw [hlm] at h1
    have hp : 0 < 256 ^ m.length := Nat.pow_pos (by decide)
    generalize 256 ^ m.length = P at *
    rw [Bool.eq_iff_iff]
    simp only [Bool.or_eq_true, Bool.and_eq_true, decide_eq_true_eq, beq_iff_eq]
    rcases Nat.lt_trichotomy c.toNat d.toNat with hcd | hcd | hcd
    · have : (c.toNat + 1) * P ≤ d.toNat * P := Nat.mul_le_mul_right _ hcd
      rw [Nat.add_mul] at this
      have hlt : c < d := UInt8.lt_iff_toNat_lt.2 hcd
      simp only [hlt, true_or, true_iff]
      omega
    · have hcd' : c = d := UInt8.toNat_inj.1 hcd
      subst hcd'
      simp
    · have : (d.toNat + 1) * P ≤ c.toNat * P := Nat.mul_le_mul_right _ hcd
      rw [Nat.add_mul] at this
      have hlt : ¬ c < d := fun x => by have := UInt8.lt_iff_toNat_lt.1 x; omega
      have hne : ¬ c = d := fun x => by rw [x] at hcd; omega
      simp only [hlt, hne, false_and, or_false, false_iff]
      omega
theorem un_put {x : EntS} (hx : EntOk x) (h : mayE x = true) : un (putL x) = x.h * 340282366920938463463374607431768211456 + (x.v.toNat * 18446744073709551616 + x.p.toNat) := by
  have hm := of_decide_eq_true h
  obtain ⟨h1, h2, h3, h4, h5⟩ := hx
  have p16 : (256 : Nat) ^ (8 + 8) = 340282366920938463463374607431768211456 := by decide
  unfold putL
  rw [un_app, un_app, un_be, un_be, un_be, List.length_append, be_length, be_length, p16, pow_8, Nat.mod_eq_of_lt h1, Nat.mod_eq_of_lt (show x.v.toNat < _ by omega), Nat.mod_eq_of_lt (show x.p.toNat < _ by omega)]
theorem two_less {B a b c d : Nat} (hb : b < B) (hd : d < B) : (a * B + b < c * B + d) ↔ (a < c ∨ (a = c ∧ b < d)) := by
  rcases Nat.lt_trichotomy a c with h | h | h
  · have : (a + 1) * B ≤ c * B := Nat.mul_le_mul_right _ h
    rw [Nat.add_mul, Nat.one_mul] at this
    exact ⟨fun _ => Or.inl h, fun _ => by omega⟩
  · subst h
    constructor
    · intro h; exact Or.inr ⟨rfl, by omega⟩
    · rintro (h | ⟨_, h⟩)
      · exact absurd h (Nat.lt_irrefl _)
      · omega
  · have : (c + 1) * B ≤ a * B := Nat.mul_le_mul_right _ h
    rw [Nat.add_mul, Nat.one_mul] at this
    constructor
    · intro k; omega
    · rintro (k | ⟨k, _⟩)
      · exact absurd k (Nat.lt_asymm h)
      · omega
theorem two_room {B a b : Nat} (ha : a < B) (hb : b < B) : a * B + b < B * B := by
  have : (a + 1) * B ≤ B * B := Nat.mul_le_mul_right _ ha
  rw [Nat.add_mul, Nat.one_mul] at this
  omega
theorem three_less {B p a b q c d : Nat} (ha : a < B) (hb : b < B) (hc : c < B) (hd : d < B) : (p * (B * B) + (a * B + b) < q * (B * B) + (c * B + d)) ↔ (p < q ∨ (p = q ∧ (a < c ∨ (a = c ∧ b < d)))) := by
  rw [two_less (two_room ha hb) (two_room hc hd), two_less hb hd]
/-- Entries that may be stand to each other as their bytes do. -/
theorem put_less {x y : EntS} (hx : EntOk x) (hy : EntOk y) (mx : mayE x = true) (my : mayE y = true) : Op.bytesLess (putE x).toList (putE y).toList = lessE x y := by
  have e1 : (putE x).data.toList = putL x := by unfold putE; rw [if_pos mx, en_bs_list]
  have e2 : (putE y).data.toList = putL y := by unfold putE; rw [if_pos my, en_bs_list]
  have sq : (340282366920938463463374607431768211456 : Nat) = 18446744073709551616 * 18446744073709551616 := by decide
  rw [Lib.toList_data, Lib.toList_data, e1, e2, less_un24 _ _ (by rw [putL_length, putL_length]), un_put hx mx, un_put hy my, sq]
  have m1 := of_decide_eq_true mx
  have m2 := of_decide_eq_true my
  obtain ⟨h1, h2, h3, h4, h5⟩ := hx
  obtain ⟨k1, k2, k3, k4, k5⟩ := hy
  have B1 : x.v.toNat < 18446744073709551616 := by omega
  have B2 : x.p.toNat < 18446744073709551616 := by omega
  have B3 : y.v.toNat < 18446744073709551616 := by omega
  have B4 : y.p.toNat < 18446744073709551616 := by omega
  have k := three_less (p := x.h) (q := y.h) B1 B2 B3 B4
  unfold lessE
  rw [decide_eq_decide]
  refine k.trans ?_
  clear k e1 e2 sq mx my h1 h2 h3 h4 h5 k1 k2 k3 k4 k5 B1 B2 B3 B4
  omega
theorem put_eq {x y : EntS} (hx : EntOk x) (hy : EntOk y) (mx : mayE x = true) (my : mayE y = true) : ((putE x).toList == (putE y).toList) = decide (x = y) := by
  rw [Bool.eq_iff_iff, beq_iff_eq, decide_eq_true_iff]
  constructor
  · intro h
    rw [Lib.toList_data, Lib.toList_data] at h
    have e : putE x = putE y := ByteArray.ext (Array.toList_inj.1 h)
    rw [← (en_put hx mx).2, e, (en_put hy my).2]
  · intro h
    rw [h]
end Go.Proofs.YtmbhafabphogdaaGreat

/- EntSorted -/
namespace Go.Proofs.YtmbhafabphogdaaGreat
open Go.RowKit
set_option linter.unusedVariables false

/-- Whether entries are sorted (P13.1). -/
def sortedE : List EntS → Bool
  | [] => true
  | [_] => true
  | x :: y :: l => lessE x y && sortedE (y :: l)
theorem sortedE_yes : ∀ {l : List EntS}, (∀ (i : Nat) (x y : EntS), l[i]? = some x → l[i + 1]? = some y → lessE x y = true) → sortedE l = true
  | [], _ => rfl
  | [_], _ => rfl
  | x :: y :: l, h => by
    unfold sortedE
    rw [h 0 x y rfl rfl, Bool.true_and]
    exact sortedE_yes fun i a b ha hb => h (i + 1) a b (by simpa using ha) (by simpa using hb)
theorem sortedE_at : ∀ {l : List EntS}, sortedE l = true → ∀ (i : Nat) (x y : EntS), l[i]? = some x → l[i + 1]? = some y → lessE x y = true
  | [], _ => fun i x y hx _ => by simp at hx
  | [_], _ => fun i x y _ hy => by simp at hy
  | a :: b :: l, h => by
    unfold sortedE at h
    rw [Bool.and_eq_true] at h
    intro i x y hx hy
    cases i with
    | zero =>
      obtain rfl : a = x := by simpa using hx
      obtain rfl : b = y := by simpa using hy
      exact h.1
    | succ i => exact sortedE_at h.2 i x y (by simpa using hx) (by simpa using hy)
theorem sortedE_no {l : List EntS} {i : Nat} {x y : EntS} (hx : l[i]? = some x) (hy : l[i + 1]? = some y) (h : lessE x y = false) : sortedE l = false := by
  cases hs : sortedE l with
  | false => rfl
  | true => rw [sortedE_at hs i x y hx hy] at h; cases h
/-- Each stands ahead of all behind it. -/
def RiseE (l : List EntS) : Prop := l.Pairwise (fun x y => lessE x y = true)
theorem RiseE.sorted {l : List EntS} (h : RiseE l) : sortedE l = true := sortedE_yes fun i x y hx hy => by
  have hi := (List.getElem?_eq_some_iff.1 hy).1
  have := List.pairwise_iff_getElem.1 h i (i + 1) (by omega) hi (by omega)
  rw [List.getElem?_eq_getElem (by omega)] at hx
  rw [List.getElem?_eq_getElem hi] at hy
  rw [← Option.some.inj hx, ← Option.some.inj hy]
  exact this
theorem sorted_rise : ∀ {l : List EntS}, sortedE l = true → RiseE l
  | [], _ => List.Pairwise.nil
  | [x], _ => List.pairwise_singleton _ _
  | x :: y :: l, h => by
    unfold sortedE at h
    rw [Bool.and_eq_true] at h
    have hr := sorted_rise h.2
    refine List.Pairwise.cons (fun z hz => ?_) hr
    rcases List.mem_cons.1 hz with rfl | hz
    · exact h.1
    · exact lessE_trans h.1 ((List.pairwise_cons.1 hr).1 z hz)

/-- The document's Sort: put in one by one. -/
def posE (l : List EntS) (x : EntS) : Nat := l.findIdx (fun y => !lessE y x)
def layEn (l : List EntS) (x : EntS) : List EntS := if l[posE l x]? = some x then l else l.take (posE l x) ++ [x] ++ l.drop (posE l x)
def sortE (l : List EntS) : List EntS := l.foldl layEn []
theorem posE_le (l : List EntS) (x : EntS) : posE l x ≤ l.length := List.findIdx_le_length
theorem posE_at {l : List EntS} {x : EntS} {k : Nat} (hk : k ≤ l.length) (hall : ∀ j y, j < k → l[j]? = some y → lessE y x = true) : k ≤ posE l x := by
  unfold posE
  rcases Nat.lt_or_ge (l.findIdx (fun y => !lessE y x)) k with c | c
  · have hlt : l.findIdx (fun y => !lessE y x) < l.length := by omega
    have h := List.findIdx_getElem (w := hlt)
    have h2 := hall _ _ c (List.getElem?_eq_getElem hlt)
    simp only [Bool.not_eq_true'] at h
    rw [h] at h2
    cases h2
  · exact c
theorem posE_lt {l : List EntS} {x : EntS} {k : Nat} {y : EntS} (h : l[k]? = some y) (hf : lessE y x = false) : posE l x ≤ k := by
  unfold posE
  have hk : k < l.length := (List.getElem?_eq_some_iff.1 h).1
  rcases Nat.lt_or_ge k (l.findIdx (fun y => !lessE y x)) with c | c
  · have := List.not_of_lt_findIdx c
    rw [List.getElem?_eq_getElem hk] at h
    have e : l[k] = y := by simpa using h
    rw [e] at this
    simp [hf] at this
  · exact c
theorem pos_take (l : List EntS) (x : EntS) : ∀ y ∈ l.take (posE l x), lessE y x = true := by
  intro y hy
  obtain ⟨j, hj⟩ := List.getElem?_of_mem hy
  have hjl := (List.getElem?_eq_some_iff.1 hj).1
  rw [List.length_take] at hjl
  rw [List.getElem?_take, if_pos (by omega), List.getElem?_eq_getElem (by omega)] at hj
  have e := Option.some.inj hj
  have := List.not_of_lt_findIdx (p := fun y => !lessE y x) (xs := l) (i := j) (by unfold posE at hjl; omega)
  rw [e] at this
  simpa using this
theorem pos_drop {l : List EntS} {x : EntS} (hr : RiseE l) (hne : l[posE l x]? ≠ some x) : ∀ y ∈ l.drop (posE l x), lessE x y = true := by
  rcases Nat.lt_or_ge (posE l x) l.length with c | c
  · have e : l.drop (posE l x) = l[posE l x] :: l.drop (posE l x + 1) := List.drop_eq_getElem_cons c
    have h0 : lessE l[posE l x] x = false := by
      have h : (!lessE l[posE l x] x) = true := List.findIdx_getElem (p := fun y => !lessE y x) (xs := l) (w := c)
      rw [Bool.not_eq_true'] at h
      exact h
    have h1 : l[posE l x] ≠ x := fun h => hne (by rw [List.getElem?_eq_getElem c, h])
    have h2 := lessE_other h0 h1
    have hd : RiseE (l.drop (posE l x)) := List.Pairwise.drop hr
    rw [e] at hd ⊢
    intro y hy
    rcases List.mem_cons.1 hy with rfl | hy
    · exact h2
    · exact lessE_trans h2 ((List.pairwise_cons.1 hd).1 y hy)
  · rw [List.drop_eq_nil_of_le c]
    intro y hy
    cases hy
theorem rise_layE {l : List EntS} (hr : RiseE l) (x : EntS) : RiseE (layEn l x) := by
  unfold layEn
  split
  · exact hr
  · rename_i hne
    have h1 := pos_take l x
    have h2 := pos_drop hr hne
    refine List.pairwise_append.2 ⟨List.pairwise_append.2 ⟨List.Pairwise.take hr, List.pairwise_singleton _ _, fun a ha b hb => ?_⟩, List.Pairwise.drop hr, fun a ha b hb => ?_⟩
    · rw [List.mem_singleton.1 hb]
      exact h1 a ha
    · rcases List.mem_append.1 ha with ha | ha
      · exact lessE_trans (h1 a ha) (h2 b hb)
      · rw [List.mem_singleton.1 ha]
        exact h2 b hb
theorem mem_layE {l : List EntS} {x y : EntS} (h : y ∈ layEn l x) : y ∈ l ∨ y = x := by
  unfold layEn at h
  split at h
  · exact Or.inl h
  · rcases List.mem_append.1 h with h | h
    · rcases List.mem_append.1 h with h | h
      · exact Or.inl (List.mem_of_mem_take h)
      · exact Or.inr (List.mem_singleton.1 h)
    · exact Or.inl (List.mem_of_mem_drop h)
theorem layE_length (l : List EntS) (x : EntS) : (layEn l x).length ≤ l.length + 1 := by
  unfold layEn
  split
  · omega
  · rw [List.length_append, List.length_append, List.length_take, List.length_drop, List.length_singleton]
    have := posE_le l x
    omega
theorem sort_fold : ∀ (l acc : List EntS), RiseE acc → RiseE (l.foldl layEn acc) ∧ (l.foldl layEn acc).length ≤ acc.length + l.length ∧ ∀ y ∈ l.foldl layEn acc, y ∈ acc ∨ y ∈ l
  | [], acc, h => ⟨h, by simp, fun y hy => Or.inl hy⟩
  | x :: l, acc, h => by
    obtain ⟨h1, h2, h3⟩ := sort_fold l (layEn acc x) (rise_layE h x)
    refine ⟨h1, ?_, fun y hy => ?_⟩
    · have := layE_length acc x
      rw [List.foldl_cons, List.length_cons]
      omega
    · rcases h3 y hy with h | h
      · rcases mem_layE h with h | h
        · exact Or.inl h
        · exact Or.inr (by rw [h]; exact List.mem_cons_self)
      · exact Or.inr (List.mem_cons_of_mem _ h)
theorem sort_rise (l : List EntS) : RiseE (sortE l) := (sort_fold l [] List.Pairwise.nil).1
theorem sort_length (l : List EntS) : (sortE l).length ≤ l.length := by have := (sort_fold l [] List.Pairwise.nil).2.1; rw [List.length_nil, Nat.zero_add] at this; exact this
theorem sort_mem {l : List EntS} : ∀ y ∈ sortE l, y ∈ l := fun y hy => by
  rcases (sort_fold l [] List.Pairwise.nil).2.2 y hy with h | h
  · cases h
  · exact h
theorem ent_take (l : List EntS) (k : Nat) (x : EntS) (h : l[k]? = some x) : l.take (k + 1) = l.take k ++ [x] := by
  rw [List.take_add_one, h]
  rfl
theorem sort_take {l : List EntS} {k : Nat} {x : EntS} (h : l[k]? = some x) : sortE (l.take (k + 1)) = layEn (sortE (l.take k)) x := by
  rw [ent_take l k x h]
  unfold sortE
  rw [List.foldl_append]
  rfl

/-- What is asked (P13.3). -/
def srchQ (h : Nat) (v : Int) (x : EntS) : Bool := decide (x.h < h ∨ (x.h = h ∧ x.v < v))
def thruQ (h : Nat) (v : Int) (x : EntS) : Bool := decide (x.h < h ∨ (x.h = h ∧ x.v ≤ v))
def inQ (h : Nat) (a b : Int) (x : EntS) : Bool := decide (x.h = h ∧ a ≤ x.v ∧ x.v ≤ b)
def upQ (h : Nat) (b : Int) (x : EntS) : Bool := decide (x.h = h ∧ x.v ≤ b)
def searchE (l : List EntS) (h : Nat) (v : Int) : Nat := l.countP (srchQ h v)
def rangeE (l : List EntS) (h : Nat) (a b : Int) : List EntS := l.filter (inQ h a b)
def lastO (l : List EntS) (h : Nat) (b : Int) : Option EntS := (l.filter (upQ h b)).getLast?
def lastE (l : List EntS) (h : Nat) (b : Int) : EntS := (lastO l h b).getD ⟨0, 0, 0⟩
def lastOk (l : List EntS) (h : Nat) (b : Int) : Bool := (lastO l h b).isSome
/-- A question is true of just so many elements, the first ones. -/
def IsCut (q : EntS → Bool) (l : List EntS) (k : Nat) : Prop := ∀ (i : Nat) (x : EntS), l[i]? = some x → q x = decide (i < k)
theorem cut_count {q : EntS → Bool} (hq : ∀ x y, lessE x y = true → q y = true → q x = true) : ∀ {l : List EntS}, RiseE l → IsCut q l (l.countP q)
  | [], _ => fun i x h => by simp at h
  | a :: l, hr => by
    obtain ⟨h1, h2⟩ := List.pairwise_cons.1 hr
    have ih := cut_count hq h2
    intro i x hx
    cases ha : q a with
    | true =>
      rw [List.countP_cons_of_pos ha]
      cases i with
      | zero =>
        obtain rfl : a = x := by simpa using hx
        rw [ha, decide_eq_true (Nat.succ_pos _)]
      | succ i =>
        rw [ih i x (by simpa using hx), decide_eq_decide]
        omega
    | false =>
      have hn : ∀ y ∈ l, q y = false := fun y hy => by
        cases h : q y with
        | false => rfl
        | true => rw [hq a y (h1 y hy) h] at ha; cases ha
      have h0 : l.countP q = 0 := List.countP_eq_zero.2 fun y hy => by rw [hn y hy]; decide
      rw [List.countP_cons_of_neg (by rw [ha]; decide), h0, decide_eq_false (Nat.not_lt_zero _)]
      cases i with
      | zero =>
        obtain rfl : a = x := by simpa using hx
        exact ha
      | succ i => exact hn x (List.mem_of_getElem? (by simpa using hx))
theorem srch_down (h : Nat) (v : Int) : ∀ x y, lessE x y = true → srchQ h v y = true → srchQ h v x = true := by
  intro x y hl hy
  rw [lessE_iff] at hl
  have := of_decide_eq_true hy
  exact decide_eq_true (by omega)
theorem thru_down (h : Nat) (v : Int) : ∀ x y, lessE x y = true → thruQ h v y = true → thruQ h v x = true := by
  intro x y hl hy
  rw [lessE_iff] at hl
  have := of_decide_eq_true hy
  exact decide_eq_true (by omega)
theorem IsCut.tail {q : EntS → Bool} {x : EntS} {l : List EntS} {k : Nat} (h : IsCut q (x :: l) k) : q x = decide (0 < k) ∧ IsCut q l (k - 1) :=
  ⟨h 0 x rfl, fun i y hy => by rw [h (i + 1) y (by simpa using hy), decide_eq_decide]; omega⟩
theorem cut_range {q r : EntS → Bool} : ∀ {l : List EntS} {a b : Nat}, IsCut q l a → IsCut r l b → l.filter (fun x => !q x && r x) = (l.drop a).take (b - a)
  | [], a, b, _, _ => by simp
  | x :: l, a, b, hq, hr => by
    obtain ⟨q0, q1⟩ := hq.tail
    obtain ⟨r0, r1⟩ := hr.tail
    have ih := cut_range q1 r1
    rw [List.filter_cons, q0, r0, ih]
    cases a with
    | zero =>
      cases b with
      | zero => simp
      | succ b => simp
    | succ a =>
      have e : decide (0 < a + 1) = true := decide_eq_true (Nat.succ_pos _)
      rw [e]
      simp only [Bool.not_true, Bool.false_and, Bool.false_eq_true, if_false, Nat.add_sub_cancel, List.drop_succ_cons]
      congr 1
      omega
theorem range_cut {l : List EntS} {h : Nat} {a b : Int} {i j : Nat} (h1 : IsCut (srchQ h a) l i) (h2 : IsCut (thruQ h b) l j) : rangeE l h a b = (l.drop i).take (j - i) := by
  rw [← cut_range h1 h2]
  unfold rangeE
  congr 1
  funext x
  unfold inQ srchQ thruQ
  rw [← decide_not, ← Bool.decide_and, decide_eq_decide]
  omega
theorem enlast_at {p : EntS → Bool} {l : List EntS} {i : Nat} {x : EntS} (hx : l[i]? = some x) (hp : p x = true) (hn : ∀ j y, i < j → l[j]? = some y → p y = false) : (l.filter p).getLast? = some x := by
  obtain ⟨hi, e⟩ := List.getElem?_eq_some_iff.1 hx
  have e1 : l = l.take i ++ (x :: l.drop (i + 1)) := by
    rw [← e, ← List.drop_eq_getElem_cons hi, List.take_append_drop]
  have e2 : (l.drop (i + 1)).filter p = [] := by
    rw [List.filter_eq_nil_iff]
    intro y hy
    obtain ⟨j, hj⟩ := List.getElem?_of_mem hy
    rw [List.getElem?_drop] at hj
    rw [hn _ y (by omega) hj]
    decide
  rw [e1, List.filter_append, List.filter_cons, if_pos hp, e2]
  simp
theorem last_none {p : EntS → Bool} {l : List EntS} (hn : ∀ y ∈ l, p y = false) : (l.filter p).getLast? = none := by
  have : l.filter p = [] := List.filter_eq_nil_iff.2 fun y hy => by rw [hn y hy]; decide
  rw [this]
  rfl
theorem last_cut {l : List EntS} {h : Nat} {b : Int} {k : Nat} {x : EntS} (hc : IsCut (thruQ h b) l (k + 1)) (hx : l[k]? = some x) (hh : x.h = h) : lastO l h b = some x := by
  have h1 := of_decide_eq_true ((hc k x hx).trans (decide_eq_true (Nat.lt_succ_self k)))
  refine enlast_at hx (decide_eq_true ⟨hh, by omega⟩) fun j y hj hy => ?_
  have h2 := of_decide_eq_false ((hc j y hy).trans (decide_eq_false (by omega)))
  exact decide_eq_false (by omega)
theorem last_cut_no {l : List EntS} {h : Nat} {b : Int} {k : Nat} {x : EntS} (hr : RiseE l) (hc : IsCut (thruQ h b) l (k + 1)) (hx : l[k]? = some x) (hh : x.h ≠ h) : lastO l h b = none := by
  refine last_none fun y hy => ?_
  obtain ⟨j, hj⟩ := List.getElem?_of_mem hy
  have h1 := of_decide_eq_true ((hc k x hx).trans (decide_eq_true (Nat.lt_succ_self k)))
  have hc2 := hc j y hj
  unfold upQ
  rcases Nat.lt_trichotomy j k with c | c | c
  · have hk := (List.getElem?_eq_some_iff.1 hx).1
    have := List.pairwise_iff_getElem.1 hr j k (by omega) hk c
    rw [List.getElem?_eq_getElem (by omega)] at hj
    rw [List.getElem?_eq_getElem hk] at hx
    rw [Option.some.inj hj, Option.some.inj hx, lessE_iff] at this
    exact decide_eq_false (by omega)
  · subst c
    rw [hj] at hx
    obtain rfl := Option.some.inj hx
    exact decide_eq_false (by omega)
  · rw [decide_eq_false (by omega)] at hc2
    have := of_decide_eq_false hc2
    exact decide_eq_false (by omega)
theorem last_cut_zero {l : List EntS} {h : Nat} {b : Int} (hc : IsCut (thruQ h b) l 0) : lastO l h b = none := by
  refine last_none fun y hy => ?_
  obtain ⟨j, hj⟩ := List.getElem?_of_mem hy
  have := of_decide_eq_false ((hc j y hj).trans (decide_eq_false (Nat.not_lt_zero _)))
  exact decide_eq_false (by omega)
end Go.Proofs.YtmbhafabphogdaaGreat
