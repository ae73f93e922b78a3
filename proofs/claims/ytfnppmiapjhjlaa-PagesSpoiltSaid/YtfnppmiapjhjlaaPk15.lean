/- PgMayWalk, PgStart, U16s, U8s, PgRaw -/
import Derived.Test.YtfnppmiapjhjlaaPk06
import Derived.Test.YtfnppmiapjhjlaaPk11
import Derived.Test.YtfnppmiapjhjlaaPk10
import Derived.Test.YtfnppmiapjhjlaaPk14
import Derived.Deep.RegionHeld3
import Derived.Test.YtfnppmiapjhjlaaPk01
import Derived.WideShapes
import Derived.Carry
import Derived.ProofKit
import Derived.Deep.Slices
import Derived.Deep.Fields
import Derived.ChangeSame
import Derived.OpenShut
/- PgMayWalk -/
namespace Go.Proofs.Ytfnppmiapjhjlaa
open Go.RowKit
theorem hold_pg {P : Prop} {W0 W W' : World} (hb : Below W.heap.size W W') (h : Below W0.heap.size W0 W ∧ P) : Below W0.heap.size W0 W' := bj h.1 hb
theorem FilterAt.form {w : World} {f : Value} {t : ByteArray} (h : FilterAt w f t) : ∃ (p n : Int) (m : Option Nat), f = .agg #[.int .i64 p, .int .i64 n, .map m] := by
  rcases h with ⟨_, rfl⟩ | ⟨_, mb, rfl, _⟩
  · exact ⟨0, 0, Option.none, rfl⟩
  · exact ⟨_, _, some mb, rfl⟩
end Go.Proofs.Ytfnppmiapjhjlaa
namespace Go.Proofs.Ytfnppmiapjhjlaa.PgMy
open Go.RowKit
set_option linter.unusedVariables false

theorem long (a : ByteArray) (v : Value) (l : List Nat) (w : World) (hv : RowOf u64V w v l) (h : 3000 < a.size ∨ 30 < l.length) :
    Calls Try.prog 4 #[.string a, v] w fun e w' => e = .returned (.bool true) ∧ Below w.heap.size w w' := by
  obtain ⟨A, c, rfl⟩ := hv.form
  have HE := Lib.hid paged_true
  by_cases h1 : 3000 < a.size
  · have s1 : decide ((3000 : Int) < (a.size : Int)) = true := decide_eq_true (by omega)
    clear h
    go_enter Try.func4, Try.ntmps4
    go_wp2_with fail
    refine (HE.out _).mono ?_
    rintro e w2 ⟨rfl, hb2⟩
    go_wp2
    go_ret
    exact ⟨rfl, hb2⟩
  · have s1 : decide ((3000 : Int) < (a.size : Int)) = false := decide_eq_false (by omega)
    have s2 : decide ((30 : Int) < (l.length : Int)) = true := decide_eq_true (by omega)
    clear h h1
    go_enter Try.func4, Try.ntmps4
    go_wp2_with fail
    refine (HE.out _).mono ?_
    rintro e w2 ⟨rfl, hb2⟩
    go_wp2
    go_ret
    exact ⟨rfl, hb2⟩

set_option maxHeartbeats 4000000 in
theorem short (a : ByteArray) (v : Value) (l : List Nat) (w : World) (hv : RowOf u64V w v l) (wl : Words l) (h1 : a.size ≤ 3000) (h2 : l.length ≤ 30) :
    Calls Try.prog 4 #[.string a, v] w fun e w' => e = .returned (.bool true) ∧ Below w.heap.size w w' := by
  obtain ⟨A, c, rfl⟩ := hv.form
  have HE := Lib.hid paged_true
  have HL := Lib.hid fun W => load_any a W (by omega)
  have HM := Lib.hid fun f (g : Nat) W (hg : g < 18446744073709551616) h => may_any f g a W hg h
  have HR := Lib.hid fun (g : Nat) W (hg : g < 18446744073709551616) => mayr_any a g W hg (by omega)
  have s1 : ¬ (3000 : Int) < (a.size : Int) := by omega
  have s2 : ¬ (30 : Int) < (l.length : Int) := by omega
  have s1' : decide ((3000 : Int) < (a.size : Int)) = false := decide_eq_false s1
  have s2' : decide ((30 : Int) < (l.length : Int)) = false := decide_eq_false s2
  go_enter Try.func4, Try.ntmps4
  go_wp2_with fail
  refine (HL.out _).mono ?_
  rintro e w1 ⟨f, rfl, hf, b1⟩
  obtain ⟨p, n, m, rfl⟩ := hf.form
  have hV := hv.below b1 (Nat.le_refl _)
  have HF := Lib.hid hf
  have HB1 := Lib.hid b1
  clear hf b1 hv
  go_wp2_with fail
  have hB2 := Blok.new w1 28 #[.int .i64 p, .int .i64 n, .map m]
  have hb2 := (Below.refl w1.heap.size w1).alloc (Nat.le_refl _) (.cells #[.int .i64 p, .int .i64 n, .map m] 28)
  obtain ⟨w2, hw2⟩ : ∃ w2, w1.alloc (.cells #[.int .i64 p, .int .i64 n, .map m] 28) = w2 := ⟨_, rfl⟩
  rw [hw2] at hB2 hb2 ⊢
  obtain ⟨fb, hfb⟩ : ∃ fb, w1.heap.size = fb := ⟨_, rfl⟩
  have hF2 := HF.out.below hb2
  have hV2 := hV.below hb2 (Nat.le_refl _)
  have HB2 := Lib.hid (bj HB1.out hb2)
  rw [hfb] at hB2 ⊢
  have HH := Lib.hid (And.intro hB2 hF2)
  have HP := Lib.hid fun W => show Calls Try.prog 13 #[.agg #[.int .i64 0, .int .i64 0, .map Option.none], .int .u64 5] W _ from may_none 5 W
  clear hw2 hfb hb2 hB2 hF2 hV HF HB1
  go_loopw [6] (fun ii wr => ∃ k : Nat, k ≤ l.length ∧ ii = .int .i64 k ∧ Below w2.heap.size w2 wr) (fun ii _ => l.length - (intOf ii).toNat)
  case atStart => exact ⟨0, Nat.zero_le _, rfl, Below.refl _ _⟩
  case round =>
    obtain ⟨k, hk, rfl, hbel⟩ := hrel
    by_cases hlt : k < l.length
    · obtain ⟨q0, off, rfl, hb0, hcap, hcell⟩ := hV2.at (by omega)
      have hcx := fun W (hW : Below w2.heap.size w2 W) => (hW.cell (p := ⟨q0, off + k, none⟩) hb0).trans (hcell k hlt)
      have hg := words_at wl k
      unfold u64V at hcx
      generalize l.getD k 0 = g at *
      have HS : Hid (∀ W, Below wr.heap.size wr W → Below wr.heap.size wr W ∧ W.cell? ⟨fb, 0, none⟩ = some (.int .i64 p) ∧ W.cell? ⟨fb, 1, none⟩ = some (.int .i64 n) ∧ W.cell? ⟨fb, 2, none⟩ = some (.map m) ∧ W.cell? ⟨q0, off + k, none⟩ = some (.int .u64 (g : Nat))) :=
        Lib.hid fun W hW => ⟨hW, (HH.out.1.after (bj hbel hW)).cell 0, (HH.out.1.after (bj hbel hW)).cell 1, (HH.out.1.after (bj hbel hW)).cell 2, hcx W (bj hbel hW)⟩
      have HK1 := Lib.hid fun W (hW : Below wr.heap.size wr W) => HM.out _ g W hg (HH.out.2.below (bj hbel hW))
      have HK2 := Lib.hid fun W => HR.out g W hg
      obtain ⟨-, d0, d1, d2, d3⟩ := HS.out wr (Below.refl _ _)
      have HBL := Lib.hid hbel
      have s3 : (k : Int) < (l.length : Int) := by omega
      generalize mayT a g = q at *
      have e1 : (q != q) = false := by simp
      clear hbel hcx hcell
      go_wp2_with fail
      go_region_held3 (fun W => Below wr.heap.size wr W ∧ W.cell? ⟨fb, 0, none⟩ = some (.int .i64 p) ∧ W.cell? ⟨fb, 1, none⟩ = some (.int .i64 n) ∧ W.cell? ⟨fb, 2, none⟩ = some (.map m) ∧ W.cell? ⟨q0, off + k, none⟩ = some (.int .u64 (g : Nat)))
        (first | (with_reducible assumption) | ((with_reducible refine HS.out _ ?_); (repeat' (first | (with_reducible assumption) | (with_reducible exact Below.refl _ _) | (with_reducible refine Below.drew ?_))); done) | fail)
        (first
        | (go_at_call 13; ((with_reducible refine (HK1.out _ (And.left (by with_reducible assumption))).mono ?_); rintro e w' ⟨rfl, hb⟩; have hB2 := hold_pg hb (by with_reducible assumption)))
        | (go_at_call 14; ((with_reducible refine (HK2.out _).mono ?_); rintro e w' ⟨rfl, hb⟩; have hB2 := hold_pg hb (by with_reducible assumption)))
        | fail)
      all_goals
        go_wp2
        go_roundw
        case rel => exact ⟨k + 1, hlt, by go_num, bj HBL.out (And.left (by with_reducible assumption))⟩
        case measure => simp [intOf]; omega
    · obtain rfl : k = l.length := by omega
      have s3 : ¬ (l.length : Int) < (l.length : Int) := by omega
      have HBZ := Lib.hid (bj HB2.out hbel)
      clear hbel
      go_wp2_with fail
      refine (HP.out _).mono ?_
      rintro e w3 ⟨rfl, b3⟩
      go_wp2_with fail
      refine (HE.out _).mono ?_
      rintro e w4 ⟨rfl, b4⟩
      go_wp2
      go_ret
      exact ⟨rfl, bj (HBZ.out.alloc HBZ.out.size _) (bj b3 b4)⟩

theorem walk (w : World) (a : ByteArray) (v : Value) (l : List Nat) (w0 : a.size ≤ maxLen) (hv : RowOf u64V w v l) (wl : Words l) :
    Calls Try.prog 4 #[.string a, v] w fun e w' => e = .returned (.bool true) ∧ Below w.heap.size w w' := by
  by_cases h : a.size ≤ 3000 ∧ l.length ≤ 30
  · exact short a v l w hv wl h.1 h.2
  · exact long a v l w hv (by omega)
end Go.Proofs.Ytfnppmiapjhjlaa.PgMy

/- PgStart -/
namespace Go.Proofs.Ytfnppmiapjhjlaa
open Go.RowKit
set_option linter.unusedVariables false

theorem pg_two (w : World) (a b : Int) (t : TypeId) : (w.alloc (.cells #[.int .u8 a, .int .u8 b] t)).cell? ⟨w.heap.size, 0, none⟩ = some (.int .u8 a) ∧ (w.alloc (.cells #[.int .u8 a, .int .u8 b] t)).cell? ⟨w.heap.size, 1, none⟩ = some (.int .u8 b) :=
  ⟨(Blok.new w t _).cell 0, (Blok.new w t _).cell 1⟩
theorem keep_refl (s : ByteArray) : KeepP s s := fun j hj => ⟨(pgW_iff.1 hj).1, rfl⟩
/-- The numbers of a filter that is made: p probes, q pages, n bytes, m bits. -/
structure Nums (x y p q n m : Nat) : Prop where
  hp : 1 + x % 16 = p
  hq : 1 + y % 5 = q
  hn : 60 * q = n
  hm : 8 * n = m
theorem nums_any (x y : Nat) : ∃ p q n m, Nums x y p q n m := ⟨_, _, _, _, ⟨rfl, rfl, rfl, rfl⟩⟩
namespace Nums
variable {x y p q n m : Nat} (h : Nums x y p q n m) (l : List Nat)
include h
theorem p16 : 1 ≤ p ∧ p ≤ 16 := by have := h.hp; omega
theorem q5 : 1 ≤ q ∧ q ≤ 5 := by have := h.hq; omega
theorem ex : 1 + (x : Int) % 16 = (p : Int) := by have := h.hp; omega
theorem ey : 480 * (1 + (y : Int) % 5) = (m : Int) := by have := h.hq; have := h.hn; have := h.hm; omega
theorem wp : (Lit.int .i64 (p : Nat)).wf = true := WalkArith.wf_i64 (by have := h.p16; omega)
theorem wm : (Lit.int .i64 (m : Nat)).wf = true := WalkArith.wf_i64 (by have := h.q5; have := h.hn; have := h.hm; omega)
theorem size : (bs (makeL l p (m : Nat))).size = n := by
  have h1 := h.q5
  have h2 := h.hn
  rw [← h.hm]
  exact make_size l p n (by omega) (by omega)
theorem ok : pgOk n p = true := by
  have h0 := h.p16
  have h1 := h.q5
  have h2 := h.hn
  exact pgOk_iff.2 (by omega)
theorem okS : pgOk (bs (makeL l p (m : Nat))).size p = true := by rw [h.size l]; exact h.ok
theorem put_size : (putP (bs (makeL l p (m : Nat))) p).size = 64 * (q + 1) := by
  rw [putP_size (h.okS l), h.size l]
  have h2 := h.hn
  have : n / 60 = q := by omega
  rw [this]
theorem keep {t : ByteArray} {g : Nat} (hg : g ∈ l) (hK : KeepP (putP (bs (makeL l p (m : Nat))) p) t) : mayT t g = true := by
  rw [← h.hm] at hK
  exact keep_may hg h.ok hK
theorem has (g : Nat) : mayT (putP (bs (makeL l p (m : Nat))) p) g = hasL (bs (makeL l p (m : Nat))).data.toList p g := mayT_put (h.okS l) g
end Nums
end Go.Proofs.Ytfnppmiapjhjlaa

/- U16s -/
namespace Go.Proofs.Ytfnppmiapjhjlaa
open Go.ChangeShapes Go.WideShapes Go.ChangeAt Go.RowKit
set_option linter.unusedVariables false

def U16sIn (w : World) (v : Value) (l : List Nat) : Prop :=
  (l = [] ∧ ∃ a c, v = .slice a 0 c) ∨ ∃ b off cap, v = .slice (some ⟨b, off, none⟩) l.length cap ∧ l.length ≤ cap ∧ cap ≤ maxLen ∧ b < w.heap.size ∧ ∀ i x, l[i]? = some x → w.cell? ⟨b, off + i, none⟩ = some (.int .u16 (x : Nat))
theorem u16s_laidOut : laidOutB Try.prog = true := by kernel_rfl
theorem cells_u16 : Try.prog.cellsOf 37 = 1 := by kernel_rfl
theorem u16s_in {H : Type} {enc : TypeId × Value → H} {W : World} {v : Value} {d : DataW H} {p : List MemPlace} (hval : ∃ a len cap, v = .slice a len cap)
    (hd : DataW.Trod enc Try.prog W 0 (fun _ => true) true 35 v d p) (hlt : ∀ x ∈ p, x.block < W.heap.size) : ∃ l : List Nat, U16sIn W v l ∧ ∀ x ∈ l, x < 65536 := by
  obtain ⟨a0, len, cap, rfl⟩ := hval
  obtain ⟨fuel, hf⟩ := hd
  rcases open_ints Try.underlying35 Try.underlying37 cells_u16 hf with ⟨hcs, hx⟩ | ⟨a, len', cap', zs, hcs, _, hl, hm, hz, hx, hcell, hwz⟩
  · simp [Value.cells] at hcs
    obtain ⟨rfl, rfl, rfl⟩ := hcs
    exact ⟨[], Or.inl ⟨rfl, _, _, rfl⟩, fun x hx => by cases hx⟩
  · simp [Value.cells] at hcs
    obtain ⟨rfl, rfl, rfl⟩ := hcs
    simp only [Prod.mk.injEq] at hx
    obtain ⟨rfl, rfl⟩ := hx
    simp only [if_true] at hz
    by_cases hl0 : len = 0
    · subst hl0
      exact ⟨[], Or.inl ⟨rfl, _, _, rfl⟩, fun x hx => by cases hx⟩
    · obtain ⟨b, off, spot⟩ := a
      have hspot : spot = none := by simpa [Addr.add] using World.cell?_spot (hcell 0 (by omega))
      subst hspot
      have hbW : b < W.heap.size := hlt (.cell b off) (MemPlace.mem_row.2 ⟨0, by omega, by simp⟩)
      have hn : ∀ z ∈ zs, ∃ n : Nat, z = n ∧ n < 65536 := fun z hz => u16_nat (hwz z hz)
      have hlen : ((zs.take len).map Int.toNat).length = len := by rw [List.length_map, List.length_take]; omega
      refine ⟨(zs.take len).map Int.toNat, Or.inr ⟨b, off, cap, by rw [hlen], by omega, hm, hbW, fun i x hx => ?_⟩, ?_⟩
      · rw [List.getElem?_map, List.getElem?_take] at hx
        by_cases hi : i < len
        · rw [if_pos hi] at hx
          have hi' : i < zs.length := by omega
          rw [List.getElem?_eq_getElem hi'] at hx
          obtain rfl : zs[i].toNat = x := by simpa using hx
          have e1 : zs.getD i 0 = zs[i] := by rw [List.getD_eq_getElem?_getD, List.getElem?_eq_getElem hi']; rfl
          obtain ⟨n, en, _⟩ := hn zs[i] (List.getElem_mem hi')
          have ea : (⟨b, off, none⟩ : Addr).add i = ⟨b, off + i, none⟩ := by simp [Addr.add]
          have h := hcell i hi'
          rw [ea, e1] at h
          rw [h, en]
          rfl
        · rw [if_neg hi] at hx
          simp at hx
      · intro x hx
        obtain ⟨z, hz1, rfl⟩ := List.mem_map.1 hx
        obtain ⟨n, rfl, hn2⟩ := hn z (List.mem_of_mem_take hz1)
        exact hn2
/-- What is read of it behind the call. -/
theorem u16s_out {H : Type} {enc : TypeId × Value → H} {W W' : World} {v : Value} {d : DataW H} {p : List MemPlace}
    (hd : DataW.Trod enc Try.prog W 0 (fun _ => true) true 35 v d p) (hlt : ∀ x ∈ p, x.block < W.heap.size) (hb : Below W.heap.size W W') :
    DataW.Trod enc Try.prog W' 0 (fun b => decide (b < W.heap.size)) true 35 v d p :=
  Below.trod u16s_laidOut (by kernel_rfl) (of_decide_eq_true (by kernel_rfl)) hd hb hlt
theorem U16sIn.form {w : World} {v : Value} {l : List Nat} (h : U16sIn w v l) : ∃ A off c, v = .slice A l.length c ∧ l.length ≤ maxLen ∧ ∀ i x, l[i]? = some x → ∃ b, A = some ⟨b, off, none⟩ ∧ b < w.heap.size ∧ w.cell? ⟨b, off + i, none⟩ = some (.int .u16 (x : Nat)) := by
  rcases h with ⟨rfl, a, c, rfl⟩ | ⟨b, off, cap, h1, h2, h3, h4, h5⟩
  · exact ⟨a, 0, c, rfl, Nat.zero_le _, fun i x h => by simp at h⟩
  · exact ⟨some ⟨b, off, none⟩, off, cap, h1, by omega, fun i x hx => ⟨b, rfl, h4, h5 i x hx⟩⟩
end Go.Proofs.Ytfnppmiapjhjlaa

/- U8s -/
namespace Go.Proofs.Ytfnppmiapjhjlaa
open Go.ChangeShapes Go.WideShapes Go.ChangeAt Go.RowKit
set_option linter.unusedVariables false

def U8sIn (w : World) (v : Value) (l : List Nat) : Prop :=
  (l = [] ∧ ∃ a c, v = .slice a 0 c) ∨ ∃ b off cap, v = .slice (some ⟨b, off, none⟩) l.length cap ∧ l.length ≤ cap ∧ cap ≤ maxLen ∧ b < w.heap.size ∧ ∀ i x, l[i]? = some x → w.cell? ⟨b, off + i, none⟩ = some (.int .u8 (x : Nat))
theorem u8s_laidOut : laidOutB Try.prog = true := by kernel_rfl
theorem cells_u8 : Try.prog.cellsOf 5 = 1 := by kernel_rfl
theorem u8s_in {H : Type} {enc : TypeId × Value → H} {W : World} {v : Value} {d : DataW H} {p : List MemPlace} (hval : ∃ a len cap, v = .slice a len cap)
    (hd : DataW.Trod enc Try.prog W 0 (fun _ => true) true 36 v d p) (hlt : ∀ x ∈ p, x.block < W.heap.size) : ∃ l : List Nat, U8sIn W v l ∧ ∀ x ∈ l, x < 256 := by
  obtain ⟨a0, len, cap, rfl⟩ := hval
  obtain ⟨fuel, hf⟩ := hd
  rcases open_ints Try.underlying36 Try.underlying5 cells_u8 hf with ⟨hcs, hx⟩ | ⟨a, len', cap', zs, hcs, _, hl, hm, hz, hx, hcell, hwz⟩
  · simp [Value.cells] at hcs
    obtain ⟨rfl, rfl, rfl⟩ := hcs
    exact ⟨[], Or.inl ⟨rfl, _, _, rfl⟩, fun x hx => by cases hx⟩
  · simp [Value.cells] at hcs
    obtain ⟨rfl, rfl, rfl⟩ := hcs
    simp only [Prod.mk.injEq] at hx
    obtain ⟨rfl, rfl⟩ := hx
    simp only [if_true] at hz
    by_cases hl0 : len = 0
    · subst hl0
      exact ⟨[], Or.inl ⟨rfl, _, _, rfl⟩, fun x hx => by cases hx⟩
    · obtain ⟨b, off, spot⟩ := a
      have hspot : spot = none := by simpa [Addr.add] using World.cell?_spot (hcell 0 (by omega))
      subst hspot
      have hbW : b < W.heap.size := hlt (.cell b off) (MemPlace.mem_row.2 ⟨0, by omega, by simp⟩)
      have hn : ∀ z ∈ zs, ∃ n : Nat, z = n ∧ n < 256 := fun z hz => u8_nat (hwz z hz)
      have hlen : ((zs.take len).map Int.toNat).length = len := by rw [List.length_map, List.length_take]; omega
      refine ⟨(zs.take len).map Int.toNat, Or.inr ⟨b, off, cap, by rw [hlen], by omega, hm, hbW, fun i x hx => ?_⟩, ?_⟩
      · rw [List.getElem?_map, List.getElem?_take] at hx
        by_cases hi : i < len
        · rw [if_pos hi] at hx
          have hi' : i < zs.length := by omega
          rw [List.getElem?_eq_getElem hi'] at hx
          obtain rfl : zs[i].toNat = x := by simpa using hx
          have e1 : zs.getD i 0 = zs[i] := by rw [List.getD_eq_getElem?_getD, List.getElem?_eq_getElem hi']; rfl
          obtain ⟨n, en, _⟩ := hn zs[i] (List.getElem_mem hi')
          have ea : (⟨b, off, none⟩ : Addr).add i = ⟨b, off + i, none⟩ := by simp [Addr.add]
          have h := hcell i hi'
          rw [ea, e1] at h
          rw [h, en]
          rfl
        · rw [if_neg hi] at hx
          simp at hx
      · intro x hx
        obtain ⟨z, hz1, rfl⟩ := List.mem_map.1 hx
        obtain ⟨n, rfl, hn2⟩ := hn z (List.mem_of_mem_take hz1)
        exact hn2
/-- What is read of it behind the call. -/
theorem u8s_out {H : Type} {enc : TypeId × Value → H} {W W' : World} {v : Value} {d : DataW H} {p : List MemPlace}
    (hd : DataW.Trod enc Try.prog W 0 (fun _ => true) true 36 v d p) (hlt : ∀ x ∈ p, x.block < W.heap.size) (hb : Below W.heap.size W W') :
    DataW.Trod enc Try.prog W' 0 (fun b => decide (b < W.heap.size)) true 36 v d p :=
  Below.trod u8s_laidOut (by kernel_rfl) (of_decide_eq_true (by kernel_rfl)) hd hb hlt
theorem U8sIn.form {w : World} {v : Value} {l : List Nat} (h : U8sIn w v l) : ∃ A off c, v = .slice A l.length c ∧ l.length ≤ maxLen ∧ ∀ i x, l[i]? = some x → ∃ b, A = some ⟨b, off, none⟩ ∧ b < w.heap.size ∧ w.cell? ⟨b, off + i, none⟩ = some (.int .u8 (x : Nat)) := by
  rcases h with ⟨rfl, a, c, rfl⟩ | ⟨b, off, cap, h1, h2, h3, h4, h5⟩
  · exact ⟨a, 0, c, rfl, Nat.zero_le _, fun i x h => by simp at h⟩
  · exact ⟨some ⟨b, off, none⟩, off, cap, h1, by omega, fun i x hx => ⟨b, rfl, h4, h5 i x hx⟩⟩
end Go.Proofs.Ytfnppmiapjhjlaa

/- PgRaw -/
namespace Go.Proofs.Ytfnppmiapjhjlaa
open Go.ChangeShapes Go.WideShapes Go.ChangeAt Go.RowKit Go.Deep
set_option linter.unusedVariables false

theorem U16sIn.below {w w' : World} {v : Value} {l : List Nat} {B : Nat} (h : U16sIn w v l) (hb : Below B w w') (hB : w.heap.size ≤ B) : U16sIn w' v l := by
  rcases h with h | ⟨b, off, cap, h1, h2, h3, h4, h5⟩
  · exact Or.inl h
  · exact Or.inr ⟨b, off, cap, h1, h2, h3, by have := hb.size; omega, fun i x hx => (hb.cell (p := ⟨b, off + i, none⟩) (show b < B by omega)).trans (h5 i x hx)⟩
theorem U8sIn.below {w w' : World} {v : Value} {l : List Nat} {B : Nat} (h : U8sIn w v l) (hb : Below B w w') (hB : w.heap.size ≤ B) : U8sIn w' v l := by
  rcases h with h | ⟨b, off, cap, h1, h2, h3, h4, h5⟩
  · exact Or.inl h
  · exact Or.inr ⟨b, off, cap, h1, h2, h3, by have := hb.size; omega, fun i x hx => (hb.cell (p := ⟨b, off + i, none⟩) (show b < B by omega)).trans (h5 i x hx)⟩

def spoV (u v : Value) (c : Int) (s : ByteArray) : Value := .agg #[u, v, .int .u16 c, .string s]
def spoZero : Value := .agg #[.slice none 0 0, .slice none 0 0, .int .u16 0, .string ByteArray.empty]
theorem spo_hone : ∃ fs, Try.prog.underlying 39 = some (.struct fs) ∧ oneCellFields Try.prog fs = true ∧ fs.size = 4 ∧
    (fs[0]?.map Field.type = some 35 ∧ fs[1]?.map Field.type = some 36 ∧ fs[2]?.map Field.type = some 37 ∧ fs[3]?.map Field.type = some 9) :=
  ⟨_, Try.underlying39, by kernel_rfl, by kernel_rfl, by kernel_rfl, by kernel_rfl, by kernel_rfl, by kernel_rfl⟩
theorem spo_cells : Try.prog.cellsOf 39 = 4 := by kernel_rfl
theorem u16s_cell {H : Type} {enc : TypeId × Value → H} {W : World} {fuel : Nat} {c : Value} {d : DataW H} {p : List MemPlace}
    (hf : DataW.trod enc Try.prog W 0 (fun _ => true) true fuel 35 [c] = some (d, p)) (hlt : ∀ x ∈ p, x.block < W.heap.size) : ∃ l, U16sIn W c l ∧ ∀ x ∈ l, x < 65536 := by
  have hv : ∃ a len cap, c = .slice a len cap := by
    rcases open_slice Try.underlying35 hf with ⟨hcs, _⟩ | ⟨a, len', cap', m, n, D, Pl, hcs, _⟩
    · exact ⟨none, 0, 0, by simpa using hcs⟩
    · exact ⟨some a, len', cap', by simpa using hcs⟩
  obtain ⟨a, len, cap, rfl⟩ := hv
  exact u16s_in ⟨a, len, cap, rfl⟩ ⟨fuel, hf⟩ hlt
theorem u8s_cell {H : Type} {enc : TypeId × Value → H} {W : World} {fuel : Nat} {c : Value} {d : DataW H} {p : List MemPlace}
    (hf : DataW.trod enc Try.prog W 0 (fun _ => true) true fuel 36 [c] = some (d, p)) (hlt : ∀ x ∈ p, x.block < W.heap.size) : ∃ l, U8sIn W c l ∧ ∀ x ∈ l, x < 256 := by
  have hv : ∃ a len cap, c = .slice a len cap := by
    rcases open_slice Try.underlying36 hf with ⟨hcs, _⟩ | ⟨a, len', cap', m, n, D, Pl, hcs, _⟩
    · exact ⟨none, 0, 0, by simpa using hcs⟩
    · exact ⟨some a, len', cap', by simpa using hcs⟩
  obtain ⟨a, len, cap, rfl⟩ := hv
  exact u8s_in ⟨a, len, cap, rfl⟩ ⟨fuel, hf⟩ hlt
set_option maxRecDepth 100000 in
theorem spo_in {H : Type} {enc : TypeId × Value → H} {W : World} {fuel : Nat} {cs : List Value} {d : DataW H} {p : List MemPlace}
    (hf : DataW.trod enc Try.prog W 0 (fun _ => true) true fuel 39 cs = some (d, p)) (hlt : ∀ x ∈ p, x.block < W.heap.size) :
    ∃ u v c s la lb, cs = [u, v, .int .u16 c, .string s] ∧ s.size ≤ maxLen ∧ (Lit.int .u16 c).wf = true ∧ U16sIn W u la ∧ (∀ x ∈ la, x < 65536) ∧ U8sIn W v lb ∧ ∀ x ∈ lb, x < 256 := by
  obtain ⟨fs, hs, hone, hsz, t0, t1, t2, t3⟩ := spo_hone
  obtain ⟨xs, n, _, hx, hlen, hxl, hg⟩ := DataW.trod_struct hs hf
  simp only [Prod.mk.injEq] at hx
  obtain ⟨_, rfl⟩ := hx
  rw [spo_cells] at hlen
  match cs, hlen with
  | [c0, c1, c2, c3], _ =>
    have step : ∀ (i : Nat) (t : TypeId), fs[i]?.map Field.type = some t → ∃ yy, xs[i]? = some yy ∧ DataW.trod enc Try.prog W 0 (fun _ => true) true n t ((([c0, c1, c2, c3] : List Value).drop i).take 1) = some yy := by
      intro i t ht
      cases hfi : fs[i]? with
      | none => rw [hfi] at ht; cases ht
      | some f =>
        rw [hfi] at ht
        obtain rfl : f.type = t := by simpa using ht
        obtain ⟨ho, hk⟩ := hone_of hone i f hfi
        have h1 := hg i f hfi
        rw [ho, hk] at h1
        have hil : i < xs.length := by rw [hxl]; exact (Array.getElem?_eq_some_iff.1 hfi).1
        refine ⟨xs[i], List.getElem?_eq_getElem hil, ?_⟩
        rw [h1, List.getElem?_eq_getElem hil]
    obtain ⟨⟨d0, p0⟩, hx0, h0⟩ := step 0 _ t0
    obtain ⟨⟨d1, p1⟩, hx1, h1⟩ := step 1 _ t1
    obtain ⟨y2, _, h2⟩ := step 2 _ t2
    obtain ⟨y3, _, h3⟩ := step 3 _ t3
    obtain ⟨k, e2, _, wk⟩ := DataW.trod_int Try.underlying37 h2
    obtain ⟨s0, e3, _, w0⟩ := DataW.trod_string Try.underlying9 h3
    have q2 : c2 = .int .u16 k := by simpa using e2
    have q3 : c3 = .string s0 := by simpa using e3
    have h0' : DataW.trod enc Try.prog W 0 (fun _ => true) true n 35 [c0] = some (d0, p0) := h0
    have h1' : DataW.trod enc Try.prog W 0 (fun _ => true) true n 36 [c1] = some (d1, p1) := h1
    obtain ⟨la, hla, oa⟩ := u16s_cell h0' (fun x hx => hlt x (List.mem_flatMap.2 ⟨_, List.mem_of_getElem? hx0, hx⟩))
    obtain ⟨lb, hlb, ob⟩ := u8s_cell h1' (fun x hx => hlt x (List.mem_flatMap.2 ⟨_, List.mem_of_getElem? hx1, hx⟩))
    exact ⟨c0, c1, k, s0, la, lb, by rw [q2, q3], w0, wk, hla, oa, hlb, ob⟩
set_option maxRecDepth 100000 in
theorem okWide_spo {W : World} {r : Reach} {base : Nat} {v : Value} (h : Value.okWide Try.prog W r base 39 v) : ∃ cs, v = .agg cs := by
  obtain ⟨fs, hs, _⟩ := spo_hone
  obtain ⟨cs, e, _⟩ := okWide_struct hs h
  exact ⟨cs, e⟩
/-- How a file is spoilt, as it came in. -/
def SpoIn (W : World) (x : Value) : Prop := ∃ u v, ∃ (c : Nat) (s : ByteArray) (la lb : List Nat), x = spoV u v c s ∧ s.size ≤ maxLen ∧ c < 65536 ∧ U16sIn W u la ∧ (∀ x ∈ la, x < 65536) ∧ U8sIn W v lb ∧ ∀ x ∈ lb, x < 256
theorem SpoIn.below {w w' : World} {x : Value} {B : Nat} (h : SpoIn w x) (hb : Below B w w') (hB : w.heap.size ≤ B) : SpoIn w' x := by
  obtain ⟨u, v, c, s, la, lb, h1, h2, h3, h4, h5, h6, h7⟩ := h
  exact ⟨u, v, c, s, la, lb, h1, h2, h3, h4.below hb hB, h5, h6.below hb hB, h7⟩
set_option maxRecDepth 100000 in
theorem spo1_in {H : Type} {enc : TypeId × Value → H} {W : World} {v : Value} {d : DataW H} {p : List MemPlace} (hval : ∃ cs, v = .agg cs)
    (hd : DataW.Trod enc Try.prog W 0 (fun _ => true) true 39 v d p) (hlt : ∀ x ∈ p, x.block < W.heap.size) : SpoIn W v := by
  obtain ⟨cs, rfl⟩ := hval
  obtain ⟨fuel, hf⟩ := hd
  obtain ⟨a, b, c, s, la, lb, hx, h1, h2, h3, h4, h5, h6⟩ := spo_in hf hlt
  obtain ⟨n, rfl, hn⟩ := u16_nat h2
  refine ⟨a, b, n, s, la, lb, ?_, h1, hn, h3, h4, h5, h6⟩
  have e : cs.toList = [a, b, .int .u16 n, .string s] := hx
  unfold spoV
  rw [← Array.toArray_toList (xs := cs), e]
/-- What is read of it behind the call. -/
theorem spo1_out {H : Type} {enc : TypeId × Value → H} {W W' : World} {v : Value} {d : DataW H} {p : List MemPlace}
    (hd : DataW.Trod enc Try.prog W 0 (fun _ => true) true 39 v d p) (hlt : ∀ x ∈ p, x.block < W.heap.size) (hb : Below W.heap.size W W') :
    DataW.Trod enc Try.prog W' 0 (fun b => decide (b < W.heap.size)) true 39 v d p :=
  Below.trod u16s_laidOut (by kernel_rfl) (of_decide_eq_true (by kernel_rfl)) hd hb hlt

def u32L (l : List Nat) : List Value := l.map fun c : Nat => .int .u32 ((c : Nat) : Int)
def arr6 (l : List Nat) : Value := .agg (u32L l).toArray
def arr6Zero : Value := .agg #[.int .u32 0, .int .u32 0, .int .u32 0, .int .u32 0, .int .u32 0, .int .u32 0]
theorem arr6_cells : Try.prog.cellsOf 48 = 6 := by kernel_rfl
theorem arr6_one : Try.prog.cellsOf 47 = 1 := by kernel_rfl
theorem words_list : ∀ cs : List Value, (∀ (i : Nat) (c : Value), cs[i]? = some c → ∃ k : Int, c = Value.int .u32 k ∧ (Lit.int .u32 k).wf = true) → ∃ l : List Nat, cs = u32L l ∧ ∀ x ∈ l, x < 4294967296
  | [], _ => ⟨[], rfl, fun x hx => by cases hx⟩
  | c :: cs, h => by
    obtain ⟨l, e, hl⟩ := words_list cs fun i d hd => h (i + 1) d (by simpa using hd)
    obtain ⟨k, e1, wk⟩ := h 0 c rfl
    obtain ⟨n, rfl, hn⟩ := u32_nat wk
    refine ⟨n :: l, by rw [e, e1]; rfl, fun x hx => ?_⟩
    rcases List.mem_cons.1 hx with rfl | hx
    · exact hn
    · exact hl x hx
theorem okWide_arr6 {W : World} {r : Reach} {b0 : Nat} {v : Value} (hval : Value.okWide Try.prog W r b0 48 v) : ∃ cs, v = .agg cs := by
  simp only [Value.okWide, Try.underlying48] at hval
  obtain ⟨cs, h1, _⟩ := hval
  exact ⟨cs, h1⟩
theorem arr6_in {H : Type} {enc : TypeId × Value → H} {W : World} {v : Value} {d : DataW H} {p : List MemPlace} (hval : ∃ cs, v = .agg cs)
    (hd : DataW.Trod enc Try.prog W 0 (fun _ => true) true 48 v d p) : ∃ l : List Nat, (l.length = 6 ∧ ∀ x ∈ l, x < 4294967296) ∧ v = arr6 l := by
  obtain ⟨cs, rfl⟩ := hval
  obtain ⟨fuel, hf⟩ := hd
  have hf' : DataW.trod enc Try.prog W 0 (fun _ => true) true fuel 48 cs.toList = some (d, p) := hf
  obtain ⟨xs, m, _, _, hlen, hxl, hat⟩ := DataW.trod_array Try.underlying48 hf'
  rw [arr6_cells] at hlen
  rw [arr6_one] at hat
  obtain ⟨l, e, hl⟩ := words_list cs.toList fun i c hc => by
    have hi : i < 6 := by have := (List.getElem?_eq_some_iff.1 hc).1; omega
    have h1 := hat i hi
    have e1 : (cs.toList.drop (i * 1)).take 1 = [c] := by
      obtain ⟨hl, e⟩ := List.getElem?_eq_some_iff.1 hc
      rw [Nat.mul_one, List.drop_eq_getElem_cons hl, e]
      rfl
    rw [e1, List.getElem?_eq_getElem (by omega)] at h1
    obtain ⟨k, ek, _, wk⟩ := DataW.trod_int Try.underlying47 h1
    exact ⟨k, by simpa using ek, wk⟩
  refine ⟨l, ⟨?_, hl⟩, ?_⟩
  · rw [e] at hlen
    unfold u32L at hlen
    rw [List.length_map] at hlen
    exact hlen
  · unfold arr6
    rw [← e, Array.toArray_toList]
theorem arr6_out {H : Type} {enc : TypeId × Value → H} {W W' : World} {v : Value} {d : DataW H} {p : List MemPlace}
    (hd : DataW.Trod enc Try.prog W 0 (fun _ => true) true 48 v d p) (hlt : ∀ x ∈ p, x.block < W.heap.size) (hb : Below W.heap.size W W') :
    DataW.Trod enc Try.prog W' 0 (fun b => decide (b < W.heap.size)) true 48 v d p :=
  Below.trod u16s_laidOut (by kernel_rfl) (of_decide_eq_true (by kernel_rfl)) hd hb hlt
theorem u32L_at (l : List Nat) (i : Nat) (hi : i < l.length) : (u32L l).toArray[i]? = some (.int .u32 ((l.getD i 0 : Nat) : Int)) := by
  unfold u32L
  rw [List.getElem?_toArray, List.getElem?_map, List.getElem?_eq_getElem hi, List.getD_eq_getElem?_getD, List.getElem?_eq_getElem hi]
  rfl
end Go.Proofs.Ytfnppmiapjhjlaa
