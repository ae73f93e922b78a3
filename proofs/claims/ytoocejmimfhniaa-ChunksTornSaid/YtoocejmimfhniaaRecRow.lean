/- 'Row' of the statements of layer 8: records one behind the other. -/
import Derived.Test.YtoocejmimfhniaaRecPutRef
import Derived.Test.YtoocejmimfhniaaRecWholeRef
import Derived.Test.YtoocejmimfhniaaRecStands
import Derived.Test.YtoocejmimfhniaaStrsIn
namespace Go.Proofs.Ytoocejmimfhniaa
open Go.RowKit
set_option linter.unusedVariables false

/-- Records of payloads behind some bytes. -/
def rowS (a : ByteArray) (l : List ByteArray) : ByteArray := l.foldl (fun s p => s ++ recS p) a
theorem rowS_snoc (a : ByteArray) (l : List ByteArray) (p : ByteArray) : rowS a (l ++ [p]) = rowS a l ++ recS p := by unfold rowS; rw [List.foldl_append]; rfl
theorem rowS_app (a : ByteArray) (l m : List ByteArray) : rowS a (l ++ m) = rowS (rowS a l) m := by unfold rowS; rw [List.foldl_append]
theorem rowS_split : ∀ (l : List ByteArray) (a : ByteArray), rowS a l = a ++ rowS ByteArray.empty l
  | [], a => by simp [rowS]
  | p :: l, a => by
    have h1 := rowS_split l (a ++ recS p)
    have h2 := rowS_split l (ByteArray.empty ++ recS p)
    show rowS (a ++ recS p) l = a ++ rowS (ByteArray.empty ++ recS p) l
    rw [h1, h2, ByteArray.empty_append, ByteArray.append_assoc]
/-- Where each stands, and the last one ends. -/
def rowAt (a : ByteArray) (l : List ByteArray) : List Int := (List.range (l.length + 1)).map fun i => ((rowS a (l.take i)).size : Int)
theorem rowAt_length (a : ByteArray) (l : List ByteArray) : (rowAt a l).length = l.length + 1 := by simp [rowAt]
theorem rowAt_at (a : ByteArray) (l : List ByteArray) (i : Nat) (h : i ≤ l.length) : (rowAt a l)[i]? = some ((rowS a (l.take i)).size : Int) := by
  unfold rowAt
  rw [List.getElem?_map, List.getElem?_range (by omega)]
  rfl
theorem rowAt_nil (a : ByteArray) : rowAt a [] = [(a.size : Int)] := by simp [rowAt, rowS]
theorem rowAt_snoc (a : ByteArray) (l : List ByteArray) (p : ByteArray) : rowAt a (l ++ [p]) = rowAt a l ++ [((rowS a l ++ recS p).size : Int)] := by
  unfold rowAt
  rw [List.length_append, List.length_singleton, List.range_succ, List.map_append]
  congr 1
  · apply List.map_congr_left
    intro i hi
    rw [List.mem_range] at hi
    rw [List.take_append_of_le_length (by omega)]
  · rw [List.map_singleton, List.take_of_length_le (by simp), rowS_snoc]
theorem rowS_size (a : ByteArray) : ∀ (l : List ByteArray), (∀ p ∈ l, p.size ≤ 988) → (rowS a l).size ≤ a.size + 1000 * l.length := by
  intro l
  induction l generalizing a with
  | nil => intro _; exact Nat.le_refl _
  | cons p l ih =>
    intro h
    have h1 := ih (a ++ recS p) (fun q hq => h q (List.mem_cons_of_mem _ hq))
    have h2 := h p List.mem_cons_self
    have h3 : (a ++ recS p).size = a.size + (p.size + 12) := by rw [ByteArray.size_append, recS_size]
    show (rowS (a ++ recS p) l).size ≤ _
    rw [List.length_cons]
    omega

def rowOk (a : ByteArray) (l : List ByteArray) : Prop := a.size ≤ 300 ∧ l.length ≤ 20 ∧ ∀ p ∈ l, p.size ≤ 988
theorem take_nx (l : List ByteArray) (k : Nat) (x : ByteArray) (h : l[k]? = some x) : l.take (k + 1) = l.take k ++ [x] := by
  rw [List.take_add_one, h]
  rfl
/-- What Row tells. -/
def RowEnd (a : ByteArray) (l : List ByteArray) (w : World) (e : Ending) (w' : World) : Prop :=
  ((¬ rowOk a l ∧ e = .returned (.tuple #[.string ByteArray.empty, .slice none 0 0, .bool false])) ∨
    (rowOk a l ∧ ∃ u, e = .returned (.tuple #[.string (rowS a l), u, .bool true]) ∧ IntsIn w' u (rowAt a l))) ∧ Below w.heap.size w w'

theorem owns_one (w : World) (n : Int) : (w.alloc (.cells #[.int .i64 n] 3)).ownsRow w.heap.size 3 1 (.slice (some ⟨w.heap.size, 0, none⟩) 1 1) 1 [.int .i64 n] := by
  refine ⟨rfl, Or.inr ⟨w.heap.size, 1, #[.int .i64 n], rfl, Nat.le_refl _, ?_, Nat.le_refl _, by unfold maxLen; omega, rfl, rfl⟩⟩
  show (w.heap.push _)[w.heap.size]? = _
  simp

theorem row_long (a : ByteArray) (A : Option Addr) (l : List ByteArray) (c : Nat) (w : World) (ha : a.size ≤ maxLen) (hl : l.length ≤ maxLen) (h : 300 < a.size ∨ 20 < l.length) :
    Calls Try.prog 15 #[.string a, .slice A l.length c] w (RowEnd a l w) := by
  have hno : ¬ rowOk a l := fun q => by have := q.1; have := q.2.1; omega
  unfold maxLen at ha hl
  by_cases h1 : 300 < a.size
  · go_enter Try.func15, Try.ntmps15
    go_wp2
    go_ret3
    exact ⟨Or.inl ⟨hno, rfl⟩, Below.refl _ _⟩
  · have h2 : 20 < l.length := by omega
    go_enter Try.func15, Try.ntmps15
    go_wp2
    go_ret3
    exact ⟨Or.inl ⟨hno, rfl⟩, Below.refl _ _⟩

set_option maxHeartbeats 1600000 in
set_option maxRecDepth 100000 in
theorem row_short (a : ByteArray) (A : Option Addr) (l : List ByteArray) (c : Nat) (w : World) (ha : a.size ≤ 300) (hl : l.length ≤ 20) (hx : ∀ p ∈ l, p.size ≤ maxLen) (hv : StrsIn w (.slice A l.length c) l) :
    Calls Try.prog 15 #[.string a, .slice A l.length c] w (RowEnd a l w) := by
  obtain ⟨i0, hi, hz0, hz1, hz2⟩ := info_parts info_int
  have HX := Lib.hid hx
  have HV := Lib.hid hv
  clear hx hv
  have own0 := owns_one w (a.size : Int)
  have hb0 : Below w.heap.size w (w.alloc (.cells #[.int .i64 (a.size : Int)] 3)) := (Below.refl _ _).alloc (Nat.le_refl _) _
  have d0 : decide (300 < a.size) = false := decide_eq_false (by omega)
  have d1 : decide (20 < l.length) = false := decide_eq_false (by omega)
  have d2 : decide ((300 : Int) < (a.size : Int)) = false := decide_eq_false (by omega)
  have d3 : decide ((20 : Int) < (l.length : Int)) = false := decide_eq_false (by omega)
  go_enter Try.func15, Try.ntmps15
  go_wp2
  go_loopw [7, 8, 9] (fun s u i wr => ∃ (k : Nat) (S : ByteArray), k ≤ l.length ∧ i = .int .i64 k ∧ s = .string S ∧ S = rowS a (l.take k) ∧ wr.ownsRow w.heap.size 3 1 u (k + 1) ((rowAt a (l.take k)).map i64V) ∧ (∀ p ∈ l.take k, p.size ≤ 988) ∧ Below w.heap.size w wr) (fun _ _ i _ => l.length - (intOf i).toNat)
  case atStart =>
    refine ⟨0, a, Nat.zero_le _, rfl, rfl, by simp [rowS], ?_, fun p hp => by simp at hp, hb0⟩
    rw [List.take_zero, rowAt_nil]
    exact own0
  case round =>
    clear own0 hb0
    obtain ⟨k, S, hk, rfl, rfl, hS, hown, hps, hbel⟩ := hrel
    have hsz := rowS_size a (l.take k) hps
    rw [← hS, List.length_take, Nat.min_eq_left hk] at hsz
    by_cases hlt : k < l.length
    · obtain ⟨p, hp⟩ : ∃ p, l[k]? = some p := ⟨l[k], List.getElem?_eq_getElem hlt⟩
      obtain ⟨b, off, rfl, hb, hc⟩ := HV.out.pos (by omega)
      have q0 := (hbel.cell (p := ⟨b, off + k, none⟩) hb).trans (hc k p hp)
      have hpz := HX.out p (List.mem_of_getElem? hp)
      have HP := Lib.hid fun W => prec_ref p W hpz
      have s1 : (k : Int) < (l.length : Int) := by omega
      have hpm := Lib.hid (List.mem_of_getElem? hp)
      by_cases h9 : p.size ≤ 988
      · have P := HP.out
        unfold prS prE at P
        rw [if_neg (by omega), if_neg (by omega)] at P
        have HP1 := Lib.hid P
        have hT := recS_size p
        have HTK := Lib.hid (take_nx l k p hp)
        have HPS := Lib.hid hps
        have HS := Lib.hid hS
        have HSN := Lib.hid (show rowS a (l.take (k + 1)) = S ++ recS p by rw [take_nx l k p hp, rowS_snoc, hS])
        have HAT := Lib.hid (show rowAt a (l.take (k + 1)) = rowAt a (l.take k) ++ [((S ++ recS p).size : Int)] by rw [take_nx l k p hp, rowAt_snoc, hS])
        have a1 : ∀ w : World, (Op.stringOp .add S (recS p)).run Try.prog w = .ok (.string (S ++ recS p)) w := fun w => run_string_add_sum (P := Try.prog) (w := w) _ _ (by omega)
        have hz2' : (S ++ recS p).size ≤ 30000 := by rw [ByteArray.size_append]; omega
        have t1 : decide (1000 < (recS p).size) = false := decide_eq_false (by omega)
        have t2 : decide ((1000 : Int) < ((recS p).size : Int)) = false := decide_eq_false (by omega)
        clear P HP hp hc hps hS hT
        generalize S ++ recS p = N at *
        generalize recS p = R at *
        go_wp2_with fail
        refine (HP1.out _).mono ?_
        rintro e w1 ⟨rfl, hb1⟩
        have hown1 := iowns_below hown hb1 (Nat.le_refl _)
        have hbel1 := bj hbel hb1
        clear hown hbel hb1 q0
        go_wp2_with (first
          | (at_builtin; refine wpList_append_own _ rfl _ _ 23 rfl w.heap.size 3 i0 (.int .i64 0) 1 8 Try.underlying23 hi hz0 hz1 hz2 rfl (by decide) _ _ _ rfl (hown1.alloc _) ⟨w1.heap.size, 0, none⟩ 1 1 [.int .i64 (N.size : Int)] rfl rfl (cell_one_new _ _ _) ?c2 ?c3 ?c4 ?c5 ?_))
        case c2 => intro u hu; simp at hu; subst hu; rfl
        case c3 => unfold maxLen; omega
        case c4 => omega
        case c5 => have := hbel1.size; simp; omega
        · intro v' w2 hown' hgrow _
          have hbel2 := (hbel1.alloc hbel1.size _).grown hgrow (by have := hbel1.size; simp; omega) (iowns_block hown1)
          clear hgrow hown1 hbel1
          go_wp2
          go_roundw
          case rel =>
            refine ⟨k + 1, N, by omega, by go_num, rfl, HSN.out.symm, ?_, ?_, hbel2⟩
            · rw [HAT.out, List.map_append]; exact hown'
            · rw [HTK.out]
              intro q hq
              rcases List.mem_append.1 hq with h | h
              · exact HPS.out q h
              · rw [List.mem_singleton] at h
                rw [h]; exact h9
          case measure => simp [intOf]; omega
      · have hno : ¬ rowOk a l := fun q => h9 (q.2.2 p hpm.out)
        have HNO := Lib.hid hno
        have P := HP.out
        have hT := recS_size p
        clear HP hp hc hps hS hno
        by_cases h20 : 2000 < p.size
        · unfold prS prE at P
          rw [if_pos h20, if_pos h20] at P
          have HP1 := Lib.hid P
          clear P hT
          go_wp2_with fail
          refine (HP1.out _).mono ?_
          rintro e w1 ⟨rfl, hb1⟩
          have hbel1 := bj hbel hb1
          go_wp2
          go_ret3
          exact ⟨Or.inl ⟨HNO.out, rfl⟩, hbel1⟩
        · unfold prS prE at P
          rw [if_neg h20, if_neg h20] at P
          have HP1 := Lib.hid P
          have t0 : 1000 < (recS p).size := by omega
          have t3 : (recS p).size ≤ 3000 := by omega
          clear P hT
          generalize recS p = R at *
          go_wp2_with fail
          refine (HP1.out _).mono ?_
          rintro e w1 ⟨rfl, hb1⟩
          have hbel1 := bj hbel hb1
          go_wp2
          go_ret3
          exact ⟨Or.inl ⟨HNO.out, rfl⟩, hbel1⟩
    · obtain rfl : k = l.length := by omega
      have s1 : ¬ (l.length : Int) < (l.length : Int) := by omega
      rw [List.take_length] at hown hps hS
      have hok : rowOk a l := ⟨ha, hl, hps⟩
      have HOK := Lib.hid hok
      have HS := Lib.hid hS
      clear hok hps hS
      go_wp2
      go_ret3
      refine ⟨Or.inr ⟨HOK.out, _, by rw [← HS.out]; rfl, ?_⟩, hbel⟩
      have hh : (rowAt a l).length = l.length + 1 := rowAt_length a l
      rw [← hh] at hown
      exact IntsIn.of_owns hown

theorem row_any (a : ByteArray) (v : Value) (l : List ByteArray) (w : World) (ha : a.size ≤ maxLen) (hx : ∀ p ∈ l, p.size ≤ maxLen) (hv : StrsIn w v l) :
    Calls Try.prog 15 #[.string a, v] w (RowEnd a l w) := by
  obtain ⟨A, c, rfl, hl⟩ := hv.form
  by_cases h : 300 < a.size ∨ 20 < l.length
  · exact row_long a A l c w ha hl h
  · exact row_short a A l c w (by omega) (by omega) hx hv
end Go.Proofs.Ytoocejmimfhniaa
