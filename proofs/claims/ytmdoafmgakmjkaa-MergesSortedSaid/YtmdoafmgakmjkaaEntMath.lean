/- One entry: its order, its bytes, the entry of bytes: plain numbers and lists, no program. -/
import Derived.Test.YtmdoafmgakmjkaaNumsMath
import Derived.Test.YtmdoafmgakmjkaaEnts
import Derived.Lib.IndexBytes
namespace Go.Proofs.Ytmdoafmgakmjkaa
open Go.RowKit
set_option linter.unusedVariables false

/-- Whether an entry stands ahead of another one (P13.1). -/
def lessE (x y : EntS) : Bool := decide (x.h < y.h ∨ (x.h = y.h ∧ (x.v < y.v ∨ (x.v = y.v ∧ x.p < y.p))))
theorem lessE_iff {x y : EntS} : lessE x y = true ↔ (x.h < y.h ∨ (x.h = y.h ∧ (x.v < y.v ∨ (x.v = y.v ∧ x.p < y.p)))) := by unfold lessE; exact decide_eq_true_iff
theorem entS_ext {x y : EntS} (h1 : x.h = y.h) (h2 : x.v = y.v) (h3 : x.p = y.p) : x = y := by cases x; cases y; simp_all
instance entS_dec : DecidableEq EntS := fun x y => decidable_of_iff (x.h = y.h ∧ x.v = y.v ∧ x.p = y.p) ⟨fun h => entS_ext h.1 h.2.1 h.2.2, fun h => by subst h; exact ⟨rfl, rfl, rfl⟩⟩
theorem lessE_irrefl (x : EntS) : lessE x x = false := by unfold lessE; exact decide_eq_false (by omega)
theorem lessE_trans {x y z : EntS} (h : lessE x y = true) (k : lessE y z = true) : lessE x z = true := by rw [lessE_iff] at *; omega
theorem lessE_other {x y : EntS} (h : lessE x y = false) (hne : x ≠ y) : lessE y x = true := by
  rcases Decidable.em (lessE y x = true) with c | c
  · exact c
  · exfalso
    apply hne
    have h1 : ¬ lessE x y = true := by rw [h]; decide
    rw [lessE_iff] at h1 c
    exact entS_ext (by omega) (by omega) (by omega)
theorem lessE_asymm {x y : EntS} (h : lessE x y = true) : lessE y x = false := by
  cases k : lessE y x with
  | false => rfl
  | true => have := lessE_trans h k; rw [lessE_irrefl] at this; cases this

/-- Whether an entry may be. -/
def mayE (x : EntS) : Bool := decide (0 ≤ x.v ∧ 0 ≤ x.p)
/-- Its bytes (P13.2, Put). -/
def putL (x : EntS) : List UInt8 := be 8 x.h ++ (be 8 x.v.toNat ++ be 8 x.p.toNat)
def putE (x : EntS) : ByteArray := if mayE x = true then bs (putL x) else ByteArray.empty
/-- The entry of bytes (P13.2, Get). -/
def enV (s : ByteArray) : Nat := getS (s.extract 8 16)
def enP (s : ByteArray) : Nat := getS (s.extract 16 24)
def enOk (s : ByteArray) : Bool := decide (s.size = 24 ∧ enV s < 9223372036854775808 ∧ enP s < 9223372036854775808)
def enG (s : ByteArray) : EntS := if enOk s = true then ⟨getS (s.extract 0 8), (enV s : Nat), (enP s : Nat)⟩ else ⟨0, 0, 0⟩

theorem putL_length (x : EntS) : (putL x).length = 24 := by unfold putL; rw [List.length_append, List.length_append, be_length, be_length, be_length]
theorem putE_size {x : EntS} (h : mayE x = true) : (putE x).size = 24 := by unfold putE; rw [if_pos h, bs_size, putL_length]
theorem en_bs_list (l : List UInt8) : (bs l).data.toList = l := by simp [bs]
theorem ext_list (s : ByteArray) (i j : Nat) : (s.extract i j).data.toList = (s.data.toList.drop i).take (j - i) := by
  rw [ByteArray.data_extract, Array.toList_extract, List.extract_eq_take_drop]
theorem pow_8 : (256 : Nat) ^ 8 = 18446744073709551616 := by decide
theorem getS_of {s : ByteArray} {l : List UInt8} (h : s.data.toList = l) (hl : l.length = 8) : getS s = un l := by unfold getS; rw [h, List.take_of_length_le (by omega)]

theorem en_put {x : EntS} (hx : EntOk x) (h : mayE x = true) : enOk (putE x) = true ∧ enG (putE x) = x := by
  have hm := of_decide_eq_true h
  obtain ⟨h1, h2, h3, h4, h5⟩ := hx
  have hs := putE_size h
  have e : (putE x).data.toList = putL x := by unfold putE; rw [if_pos h, en_bs_list]
  have l1 := be_length 8 x.h
  have l2 := be_length 8 x.v.toNat
  have l3 := be_length 8 x.p.toNat
  have e0 : getS ((putE x).extract 0 8) = x.h := by
    rw [getS_of (l := be 8 x.h) _ l1, un_be, pow_8, Nat.mod_eq_of_lt h1]
    rw [ext_list, e, List.drop_zero]
    unfold putL
    rw [List.take_left' l1]
  have e1 : enV (putE x) = x.v.toNat := by
    unfold enV
    rw [getS_of (l := be 8 x.v.toNat) _ l2, un_be, pow_8, Nat.mod_eq_of_lt (by omega)]
    rw [ext_list, e]
    unfold putL
    rw [List.drop_left' l1, List.take_left' l2]
  have e2 : enP (putE x) = x.p.toNat := by
    unfold enP
    rw [getS_of (l := be 8 x.p.toNat) _ l3, un_be, pow_8, Nat.mod_eq_of_lt (by omega)]
    rw [ext_list, e]
    unfold putL
    rw [show (16 : Nat) = 8 + 8 from rfl, ← List.drop_drop, List.drop_left' l1, List.drop_left' l2, List.take_of_length_le (by omega)]
  have hok : enOk (putE x) = true := by
    unfold enOk
    rw [e1, e2]
    exact decide_eq_true ⟨hs, by omega, by omega⟩
  refine ⟨hok, ?_⟩
  unfold enG
  rw [if_pos hok, e0, e1, e2]
  exact entS_ext rfl (by show ((x.v.toNat : Nat) : Int) = x.v; omega) (by show ((x.p.toNat : Nat) : Int) = x.p; omega)
theorem en_empty : enOk ByteArray.empty = false := by unfold enOk; exact decide_eq_false (fun h => by have : (0 : Nat) = 24 := h.1; omega)
theorem en_put_no {x : EntS} (h : mayE x = false) : putE x = ByteArray.empty := by unfold putE; rw [h]; rfl
theorem enOk_put {x : EntS} (hx : EntOk x) : enOk (putE x) = mayE x := by
  cases h : mayE x with
  | true => exact (en_put hx h).1
  | false => rw [en_put_no h, en_empty]
/-- What is got is put as these bytes. -/
theorem en_form {s : ByteArray} (h : enOk s = true) : mayE (enG s) = true ∧ putE (enG s) = s := by
  have hok := of_decide_eq_true h
  obtain ⟨hz, hv, hp⟩ := hok
  have hm : mayE (enG s) = true := by
    unfold enG mayE
    rw [if_pos h]
    exact decide_eq_true ⟨by show (0 : Int) ≤ ((enV s : Nat) : Int); omega, by show (0 : Int) ≤ ((enP s : Nat) : Int); omega⟩
  refine ⟨hm, ?_⟩
  have hl : s.data.toList.length = 24 := by rw [Array.length_toList]; exact hz
  have a0 : ((s.data.toList.drop 0).take 8).length = 8 := by rw [List.length_take, List.length_drop]; omega
  have a1 : ((s.data.toList.drop 8).take 8).length = 8 := by rw [List.length_take, List.length_drop]; omega
  have a2 : ((s.data.toList.drop 16).take 8).length = 8 := by rw [List.length_take, List.length_drop]; omega
  have b0 := be_un ((s.data.toList.drop 0).take 8)
  have b1 := be_un ((s.data.toList.drop 8).take 8)
  have b2 := be_un ((s.data.toList.drop 16).take 8)
  rw [a0] at b0
  rw [a1] at b1
  rw [a2] at b2
  have g0 : getS (s.extract 0 8) = un ((s.data.toList.drop 0).take 8) := getS_of (ext_list s 0 8) a0
  have g1 : enV s = un ((s.data.toList.drop 8).take 8) := getS_of (ext_list s 8 16) a1
  have g2 : enP s = un ((s.data.toList.drop 16).take 8) := getS_of (ext_list s 16 24) a2
  have e : putL (enG s) = s.data.toList := by
    unfold enG putL
    rw [if_pos h]
    show be 8 (getS (s.extract 0 8)) ++ (be 8 ((enV s : Nat) : Int).toNat ++ be 8 ((enP s : Nat) : Int).toNat) = _
    rw [Int.toNat_natCast, Int.toNat_natCast, g0, g1, g2, b0, b1, b2, List.drop_zero]
    rw [show (16 : Nat) = 8 + 8 from rfl, ← List.drop_drop]
    have q : (((s.data.toList.drop 8).drop 8).take 8) = (s.data.toList.drop 8).drop 8 := List.take_of_length_le (by rw [List.length_drop, List.length_drop]; omega)
    rw [q, List.take_append_drop, List.take_append_drop]
  unfold putE
  rw [if_pos hm, e, bs_data]
theorem enG_no {s : ByteArray} (h : enOk s = false) : enG s = ⟨0, 0, 0⟩ := by unfold enG; rw [h]; rfl
theorem en_size {s : ByteArray} (h : s.size ≠ 24) : enOk s = false := by unfold enOk; exact decide_eq_false (fun x => h x.1)

theorem un_app (a b : List UInt8) : un (a ++ b) = un a * 256 ^ b.length + un b := by
  have h := fold_un b (un a)
  rw [← h]
  unfold un
  rw [List.foldl_append]
theorem less_un24 : ∀ l m : List UInt8, l.length = m.length → Op.bytesLess l m = decide (un l < un m)
  | [], [], _ => by simp [Op.bytesLess, un]
  | [], _ :: _, h => by simp at h
  | _ :: _, [], h => by simp at h
  | c :: l, d :: m, h => by
    have hlm : l.length = m.length := by simpa using h
    rw [Op.bytesLess, less_un24 l m hlm, un_cons, un_cons, hlm]
    have h1 := un_lt l
    have h2 := un_lt m
    rw [hlm] at h1
    have hp : 0 < 256 ^ m.length := Nat.pow_pos (by decide)
    generalize 256 ^ m.length = P at *
    rw [Bool.eq_iff_iff]
    simp only [Bool.or_eq_true, Bool.and_eq_true, decide_eq_true_eq, beq_iff_eq]
    rcases Nat.lt_trichotomy c.toNat d.toNat with hcd | hcd | hcd
    · have : (c.toNat + 1) * P ≤ d.toNat * P := Nat.mul_le_mul_right _ hcd
      rw [Nat.add_mul] at this
      have hlt : c < d := UInt8.lt_iff_toNat_lt.2 hcd
      simp only [hlt, true_or, true_iff]
      omega
    · have hcd' : c = d := UInt8.toNat_inj.1 hcd
      subst hcd'
      simp
    · have : (d.toNat + 1) * P ≤ c.toNat * P := Nat.mul_le_mul_right _ hcd
      rw [Nat.add_mul] at this
      have hlt : ¬ c < d := fun x => by have := UInt8.lt_iff_toNat_lt.1 x; omega
      have hne : ¬ c = d := fun x => by rw [x] at hcd; omega
      simp only [hlt, hne, false_and, or_false, false_iff]
      omega
theorem un_put {x : EntS} (hx : EntOk x) (h : mayE x = true) : un (putL x) = x.h * 340282366920938463463374607431768211456 + (x.v.toNat * 18446744073709551616 + x.p.toNat) := by
  have hm := of_decide_eq_true h
  obtain ⟨h1, h2, h3, h4, h5⟩ := hx
  have p16 : (256 : Nat) ^ (8 + 8) = 340282366920938463463374607431768211456 := by decide
  unfold putL
  rw [un_app, un_app, un_be, un_be, un_be, List.length_append, be_length, be_length, p16, pow_8, Nat.mod_eq_of_lt h1, Nat.mod_eq_of_lt (show x.v.toNat < _ by omega), Nat.mod_eq_of_lt (show x.p.toNat < _ by omega)]
theorem two_less {B a b c d : Nat} (hb : b < B) (hd : d < B) : (a * B + b < c * B + d) ↔ (a < c ∨ (a = c ∧ b < d)) := by
  rcases Nat.lt_trichotomy a c with h | h | h
  · have : (a + 1) * B ≤ c * B := Nat.mul_le_mul_right _ h
    rw [Nat.add_mul, Nat.one_mul] at this
    exact ⟨fun _ => Or.inl h, fun _ => by omega⟩
  · subst h
    constructor
    · intro h; exact Or.inr ⟨rfl, by omega⟩
    · rintro (h | ⟨_, h⟩)
      · exact absurd h (Nat.lt_irrefl _)
      · omega
  · have : (c + 1) * B ≤ a * B := Nat.mul_le_mul_right _ h
    rw [Nat.add_mul, Nat.one_mul] at this
    constructor
    · intro k; omega
    · rintro (k | ⟨k, _⟩)
      · exact absurd k (Nat.lt_asymm h)
      · omega
theorem two_room {B a b : Nat} (ha : a < B) (hb : b < B) : a * B + b < B * B := by
  have : (a + 1) * B ≤ B * B := Nat.mul_le_mul_right _ ha
  rw [Nat.add_mul, Nat.one_mul] at this
  omega
theorem three_less {B p a b q c d : Nat} (ha : a < B) (hb : b < B) (hc : c < B) (hd : d < B) : (p * (B * B) + (a * B + b) < q * (B * B) + (c * B + d)) ↔ (p < q ∨ (p = q ∧ (a < c ∨ (a = c ∧ b < d)))) := by
  rw [two_less (two_room ha hb) (two_room hc hd), two_less hb hd]
/-- Entries that may be stand to each other as their bytes do. -/
theorem put_less {x y : EntS} (hx : EntOk x) (hy : EntOk y) (mx : mayE x = true) (my : mayE y = true) : Op.bytesLess (putE x).toList (putE y).toList = lessE x y := by
  have e1 : (putE x).data.toList = putL x := by unfold putE; rw [if_pos mx, en_bs_list]
  have e2 : (putE y).data.toList = putL y := by unfold putE; rw [if_pos my, en_bs_list]
  have sq : (340282366920938463463374607431768211456 : Nat) = 18446744073709551616 * 18446744073709551616 := by decide
  rw [Lib.toList_data, Lib.toList_data, e1, e2, less_un24 _ _ (by rw [putL_length, putL_length]), un_put hx mx, un_put hy my, sq]
  have m1 := of_decide_eq_true mx
  have m2 := of_decide_eq_true my
  obtain ⟨h1, h2, h3, h4, h5⟩ := hx
  obtain ⟨k1, k2, k3, k4, k5⟩ := hy
  have B1 : x.v.toNat < 18446744073709551616 := by omega
  have B2 : x.p.toNat < 18446744073709551616 := by omega
  have B3 : y.v.toNat < 18446744073709551616 := by omega
  have B4 : y.p.toNat < 18446744073709551616 := by omega
  have k := three_less (p := x.h) (q := y.h) B1 B2 B3 B4
  unfold lessE
  rw [decide_eq_decide]
  refine k.trans ?_
  clear k e1 e2 sq mx my h1 h2 h3 h4 h5 k1 k2 k3 k4 k5 B1 B2 B3 B4
  omega
theorem put_eq {x y : EntS} (hx : EntOk x) (hy : EntOk y) (mx : mayE x = true) (my : mayE y = true) : ((putE x).toList == (putE y).toList) = decide (x = y) := by
  rw [Bool.eq_iff_iff, beq_iff_eq, decide_eq_true_iff]
  constructor
  · intro h
    rw [Lib.toList_data, Lib.toList_data] at h
    have e : putE x = putE y := ByteArray.ext (Array.toList_inj.1 h)
    rw [← (en_put hx mx).2, e, (en_put hy my).2]
  · intro h
    rw [h]
end Go.Proofs.Ytmdoafmgakmjkaa
