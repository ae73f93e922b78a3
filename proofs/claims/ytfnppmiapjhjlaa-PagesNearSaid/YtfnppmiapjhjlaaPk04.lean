/- BlProbe, Own, PgMay, BuildLay, Build -/
import Derived.Test.YtfnppmiapjhjlaaPk01
import Derived.Test.YtfnppmiapjhjlaaPk03
import Derived.Laws.OwnMore
import Derived.Deep.Draws
import Derived.Deep.RegionHeld3
import Derived.Lib.Hide
import Derived.Shelf.Strings.Builder1
import Derived.Test.YtfnppmiapjhjlaaProg
/- BlProbe -/
namespace Go.Proofs.Ytfnppmiapjhjlaa
open Go.RowKit
set_option linter.unusedVariables false

theorem prb_walk (h n m : Nat) (hh : h < 18446744073709551616) (hm : 0 < m) : prb h (n : Nat) (m : Nat) = (h + n * stepH h % 18446744073709551616) % 18446744073709551616 % m := by
  unfold prb
  rw [if_neg (by omega), Int.toNat_natCast, Int.toNat_natCast]
  congr 1
  omega
theorem prb_wrap (h n m s : Nat) (hh : h < 18446744073709551616) (hn : n < 9223372036854775808) (hm : m < 9223372036854775808) (hm0 : 0 < m) (hs : stepH h = s) :
    wrap64 (Int.tmod (IntKind.u64.wrap ((h : Int) + IntKind.u64.wrap ((n : Int) * (s : Int)))) (m : Int)) = ((prb h (n : Nat) (m : Nat) : Nat) : Int) := by
  rw [prb_walk h n m hh hm0, hs, IntKind.wrap_u64, IntKind.wrap_u64, ← Int.natCast_mul]
  have e : ((h : Int) + ((n * s : Nat) : Int) % 18446744073709551616) % 18446744073709551616 = (((h + n * s % 18446744073709551616) % 18446744073709551616 : Nat) : Int) := by omega
  rw [e]
  generalize (h + n * s % 18446744073709551616) % 18446744073709551616 = x
  rw [← Int.ofNat_tmod]
  have := Nat.mod_lt x hm0
  generalize x % m = y at *
  unfold wrap64
  omega

set_option maxHeartbeats 400000 in
theorem probe_any (h : Nat) (i b : Int) (w : World) (hh : h < 18446744073709551616) (wi : (Lit.int .i64 i).wf = true) (wb : (Lit.int .i64 b).wf = true) :
    Calls Try.prog 32 #[.int .u64 (h : Nat), .int .i64 i, .int .i64 b] w fun e w' => e = .returned (.int .i64 (prb h i b : Nat)) ∧ w = w' := by
  have bi := bounds_i64 wi
  have bb := bounds_i64 wb
  by_cases hb : b < 1
  · have e : prb h i b = 0 := by unfold prb; rw [if_pos (Or.inl hb)]
    rw [e]
    go_enter Try.func32, Try.ntmps32
    go_wp2
    go_ret
    exact ⟨rfl, rfl⟩
  · by_cases hi : i < 0
    · have e : prb h i b = 0 := by unfold prb; rw [if_pos (Or.inr hi)]
      rw [e]
      go_enter Try.func32, Try.ntmps32
      go_wp2
      go_ret
      exact ⟨rfl, rfl⟩
    · obtain ⟨n, rfl⟩ : ∃ n : Nat, i = n := ⟨i.toNat, by omega⟩
      obtain ⟨m, rfl⟩ : ∃ m : Nat, b = m := ⟨b.toNat, by omega⟩
      have hs := Lib.hid fun w => step_any h w hh
      have hl := stepH_lt hh
      have hw := Lib.hid (prb_wrap h n m (stepH h) hh (by omega) (by omega) (by omega) rfl)
      generalize stepH h = s at *
      generalize prb h (n : Nat) (m : Nat) = r at *
      have hm0 : ((m : Int) == 0) = false := by simp; omega
      go_enter Try.func32, Try.ntmps32
      go_wp2_with fail
      refine (hs.out _).mono ?_
      rintro e w' ⟨rfl, rfl⟩
      go_wp2
      go_ret
      refine ⟨ret_int ?_, rfl⟩
      exact hw.out
set_option maxHeartbeats 400000 in
/-- The document's. -/
theorem probe_ref (h : Nat) (i b : Int) (w : World) (hh : h < 18446744073709551616) (wi : (Lit.int .i64 i).wf = true) (wb : (Lit.int .i64 b).wf = true) :
    Calls Try.prog 34 #[.int .u64 (h : Nat), .int .i64 i, .int .i64 b] w fun e w' => e = .returned (.int .i64 (prb h i b : Nat)) ∧ w = w' := by
  have bi := bounds_i64 wi
  have bb := bounds_i64 wb
  by_cases hb : b < 1
  · have e : prb h i b = 0 := by unfold prb; rw [if_pos (Or.inl hb)]
    rw [e]
    go_enter Try.func34, Try.ntmps34
    go_wp2
    go_ret
    exact ⟨rfl, rfl⟩
  · by_cases hi : i < 0
    · have e : prb h i b = 0 := by unfold prb; rw [if_pos (Or.inr hi)]
      rw [e]
      go_enter Try.func34, Try.ntmps34
      go_wp2
      go_ret
      exact ⟨rfl, rfl⟩
    · obtain ⟨n, rfl⟩ : ∃ n : Nat, i = n := ⟨i.toNat, by omega⟩
      obtain ⟨m, rfl⟩ : ∃ m : Nat, b = m := ⟨b.toNat, by omega⟩
      have hs := Lib.hid fun w => step_ref h w hh
      have hl := stepH_lt hh
      have hw := Lib.hid (prb_wrap h n m (stepH h) hh (by omega) (by omega) (by omega) rfl)
      generalize stepH h = s at *
      generalize prb h (n : Nat) (m : Nat) = r at *
      have hm0 : ((m : Int) == 0) = false := by simp; omega
      go_enter Try.func34, Try.ntmps34
      go_wp2_with fail
      refine (hs.out _).mono ?_
      rintro e w' ⟨rfl, rfl⟩
      go_wp2
      go_ret
      refine ⟨ret_int ?_, rfl⟩
      exact hw.out

theorem mask_any (k : Nat) (w : World) (hk : k < 9223372036854775808) :
    Calls Try.prog 37 #[.int .i64 (k : Nat)] w fun e w' => e = .returned (.int .u8 (2 ^ (k % 8) : Nat)) ∧ w = w' := by
  go_enter Try.func37, Try.ntmps37
  go_wp2
  go_ret
  refine ⟨ret_int ?_, rfl⟩
  have h := pow8_lt (Nat.mod_lt k (by decide) : k % 8 < 8)
  have e : (2 : Int) ^ (k % 8) = ((2 ^ (k % 8) : Nat) : Int) := by rw [Int.natCast_pow]; rfl
  rw [e]
  generalize 2 ^ (k % 8) = x at *
  omega
end Go.Proofs.Ytfnppmiapjhjlaa

/- Own -/
namespace Go.Proofs.Ytfnppmiapjhjlaa
open Go.RowKit
set_option linter.unusedVariables false

/-- Outside some blocks all that was there is as it was. -/
structure Touch (F : List Nat) (w w' : World) : Prop where
  os : w'.os = w.os
  tape : w'.tape = w.tape
  output : w'.output = w.output
  size : w.heap.size ≤ w'.heap.size
  block : ∀ b, b < w.heap.size → b ∉ F → w'.heap[b]? = w.heap[b]?

section
variable {F G : List Nat} {w a b c w' : World}
theorem Touch.refl (F : List Nat) (w : World) : Touch F w w := ⟨rfl, rfl, rfl, Nat.le_refl _, fun _ _ _ => rfl⟩
theorem Touch.trans (h : Touch F a b) (k : Touch G b c) (hG : ∀ x ∈ G, x ∈ F ∨ a.heap.size ≤ x) : Touch F a c :=
  ⟨k.os.trans h.os, k.tape.trans h.tape, k.output.trans h.output, Nat.le_trans h.size k.size, fun x hx hn =>
    (k.block x (Nat.lt_of_lt_of_le hx h.size) (fun hg => by rcases hG x hg with h1 | h1; exact hn h1; omega)).trans (h.block x hx hn)⟩
theorem Touch.more (h : Touch F a b) (hG : ∀ x ∈ F, x ∈ G ∨ a.heap.size ≤ x) : Touch G a b :=
  ⟨h.os, h.tape, h.output, h.size, fun x hx hn => h.block x hx (fun hf => by rcases hG x hf with h1 | h1; exact hn h1; omega)⟩
theorem Touch.drew (h : Touch F a w) : Touch F a w.drew := ⟨h.os, h.tape, h.output, h.size, h.block⟩
theorem Touch.drewN (h : Touch F a w) (n : Nat) : Touch F a (w.drewN n) := ⟨h.os, h.tape, h.output, h.size, h.block⟩
theorem Touch.alloc (h : Touch F a w) (o : Obj) : Touch F a (w.alloc o) :=
  h.trans (G := []) ⟨rfl, rfl, rfl, by simp, fun k hk _ => Below.heap_alloc _ _ _ hk⟩ (fun _ h => by cases h)
theorem Touch.setCell (h : Touch F a w) {p : Addr} (hp : p.block ∈ F ∨ a.heap.size ≤ p.block) (u : Value) : Touch F a (w.setCell p u) :=
  h.trans (G := [p.block]) ⟨rfl, rfl, rfl, by simp [World.setCell], fun k _ hn => Below.heap_setCell _ _ _ _ (fun e => hn (by simp [e]))⟩ (fun x hx => by
    obtain rfl : x = p.block := by simpa using hx
    exact hp)
theorem Touch.grown (h : Touch F a w) {row : Option Nat} (hg : w.grownBy w' row) (hr : ∀ k, row = some k → k ∈ F ∨ a.heap.size ≤ k) : Touch F a w' :=
  h.trans (G := row.toList) ⟨hg.os, hg.tape, hg.output, hg.size, fun k hk hn => hg.block k hk (fun e => hn (by rw [← e]; simp))⟩ (fun x hx => hr x (by simpa using hx))
theorem Touch.of_below (h : Below w.heap.size w w') : Touch [] w w' := ⟨h.os, h.tape, h.output, h.size, fun k hk _ => h.block k hk⟩
theorem Touch.below (h : Touch F w w') {B : Nat} (hB : B ≤ w.heap.size) (hF : ∀ x ∈ F, B ≤ x) : Below B w w' :=
  ⟨h.os, h.tape, h.output, h.size, fun k hk => h.block k (by omega) (fun hf => by have := hF k hf; omega)⟩
theorem Touch.cell (h : Touch F w w') {p : Addr} (hp : p.block < w.heap.size) (hn : p.block ∉ F) : w'.cell? p = w.cell? p := World.cell?_of_block (w := w) (h.block p.block hp hn)
end

/-- A block that is known whole. -/
def Blok (w : World) (g : Nat) (t : TypeId) (cs : Array Value) : Prop := w.heap[g]? = some (.cells cs t (0, 0))
section
variable {F : List Nat} {w w' : World} {g : Nat} {t : TypeId} {cs : Array Value}
theorem Blok.lt (h : Blok w g t cs) : g < w.heap.size := by
  rcases Nat.lt_or_ge g w.heap.size with hlt | hge
  · exact hlt
  · unfold Blok at h; rw [Array.getElem?_eq_none hge] at h; cases h
theorem Blok.cell (h : Blok w g t cs) (i : Nat) : w.cell? ⟨g, i, none⟩ = cs[i]? := cell_of_row w g i cs t (0, 0) h
theorem Blok.frozen (h : Blok w g t cs) (i : Nat) : w.frozen? ⟨g, i, none⟩ = false := frozen_of_row w g i cs t h
theorem Blok.new (w : World) (t : TypeId) (cs : Array Value) : Blok (w.alloc (.cells cs t)) w.heap.size t cs := heap_alloc_new w _
theorem Blok.drew (h : Blok w g t cs) : Blok w.drew g t cs := h
theorem Blok.drewN (h : Blok w g t cs) (n : Nat) : Blok (w.drewN n) g t cs := h
theorem Blok.alloc (h : Blok w g t cs) (o : Obj) : Blok (w.alloc o) g t cs := (Below.heap_alloc w o g h.lt).trans h
theorem Blok.put (h : Blok w g t cs) (i : Nat) (u : Value) : Blok (w.setCell ⟨g, i, none⟩ u) g t (cs.setIfInBounds i u) := heap_setCell_same w g i cs t u h
theorem Blok.far (h : Blok w g t cs) {p : Addr} (hp : g ≠ p.block) (u : Value) : Blok (w.setCell p u) g t cs := (heap_setCell_other w p g u hp).trans h
theorem Blok.touch (h : Blok w g t cs) (ht : Touch F w w') (hg : g ∉ F) : Blok w' g t cs := (ht.block g h.lt hg).trans h
theorem Blok.type_ne {g' : Nat} {t' : TypeId} {cs' : Array Value} (h : Blok w g t cs) (h' : Blok w g' t' cs') (hne : t ≠ t') : g ≠ g' := by
  rintro rfl
  unfold Blok at h h'
  rw [h] at h'
  injection h' with h'
  injection h' with _ ht
  exact hne ht
end

section
variable {F : List Nat} {w w' : World} {base : Nat} {e : TypeId} {size n : Nat} {v : Value} {xs : List Value}
theorem own_touch (h : w.ownsRow base e size v n xs) (ht : Touch F w w') (hF : ∀ b, v.ownBlock = some b → b ∉ F) : w'.ownsRow base e size v n xs := by
  refine ⟨h.1, ?_⟩
  rcases h.2 with h0 | ⟨g, cap, cur, rfl, hb, hg, h1, h2, h3, h4⟩
  · exact .inl h0
  · have hlt : g < w.heap.size := (h.lt g rfl).2
    exact .inr ⟨g, cap, cur, rfl, hb, (ht.block g hlt (hF g rfl)).trans hg, h1, h2, h3, h4⟩
theorem own_far (h : w.ownsRow base e size v n xs) {p : Addr} (hp : v.ownBlock ≠ some p.block) (u : Value) : (w.setCell p u).ownsRow base e size v n xs :=
  own_touch h (Touch.setCell (F := [p.block]) (Touch.refl _ w) (Or.inl (by simp)) u) (fun b hb hm => hp (by rw [hb]; simpa using hm))
theorem own_ne {g : Nat} {t : TypeId} {cs : Array Value} (h : w.ownsRow base e size v n xs) (hg : Blok w g t cs) (hne : e ≠ t) : v.ownBlock ≠ some g := by
  rcases h.2 with ⟨rfl, _⟩ | ⟨g', cap, cur, rfl, _, hh, _⟩
  · simp [Value.ownBlock]
  · intro he
    have : g' = g := by simpa [Value.ownBlock] using he
    subst this
    exact Blok.type_ne (show Blok w g' e cur from hh) hg hne rfl
theorem own_own_ne {base' : Nat} {e' : TypeId} {size' n' : Nat} {v' : Value} {xs' : List Value} (h : w.ownsRow base e size v n xs) (h' : w.ownsRow base' e' size' v' n' xs') (hne : e ≠ e') : ∀ b, v'.ownBlock = some b → v.ownBlock ≠ some b := by
  intro b hb
  rcases h'.2 with ⟨rfl, _⟩ | ⟨g', cap, cur, rfl, _, hh, _⟩
  · simp [Value.ownBlock] at hb
  · obtain rfl : g' = b := by simpa [Value.ownBlock] using hb
    exact own_ne h (show Blok w g' e' cur from hh) hne
/-- The slice's own shape. -/
theorem own_form (h : w.ownsRow base e size v n xs) : ∃ A cap, v = .slice A n cap ∧ n ≤ cap ∧ cap ≤ maxLen ∧ (0 < n → ∃ b, A = some ⟨b, 0, none⟩ ∧ base ≤ b ∧ b < w.heap.size) ∧ (A = none → n = 0 ∧ cap = 0) := by
  rcases h.2 with ⟨rfl, rfl⟩ | ⟨g, cap, cur, rfl, hb, hg, h1, h2, h3, h4⟩
  · exact ⟨none, 0, rfl, Nat.le_refl _, Nat.zero_le _, fun h => absurd h (by omega), fun _ => ⟨rfl, rfl⟩⟩
  · exact ⟨_, cap, rfl, h1, h2, fun _ => ⟨g, rfl, hb, (h.lt g rfl).2⟩, fun h => by cases h⟩
end
end Go.Proofs.Ytfnppmiapjhjlaa

/- PgMay -/
namespace Go.Proofs.Ytfnppmiapjhjlaa
open Go.RowKit
set_option linter.unusedVariables false

theorem off_bit (c k : Nat) (hc : c < 256) : (bits .and .u8 ((c : Int) / 2 ^ k) 1 == 0) = !c.testBit k := by
  have h1 : (c : Int) / 2 ^ k = ((c / 2 ^ k : Nat) : Int) := by simp
  rw [h1, show (1 : Int) = ((1 : Nat) : Int) from rfl, u8_and_nat _ _ (Nat.lt_of_le_of_lt (Nat.div_le_self _ _) hc) (by decide), Nat.and_one_is_mod]
  have h2 := bit_shift (c := c) (k := k)
  cases hb : c.testBit k with
  | true => rw [h2.2 hb]; rfl
  | false =>
    have h3 : ¬ c / 2 ^ k % 2 = 1 := fun e => by rw [h2.1 e] at hb; cases hb
    have h4 : c / 2 ^ k % 2 = 0 := by omega
    rw [h4]
    rfl

set_option maxHeartbeats 1000000 in
set_option maxRecDepth 100000 in
theorem off_at (mb x : Nat) (p n : Int) (C : Array Value) (q r : Bool) (c : Nat) (w : World) (hx2 : x ≤ 10000000) (hC : C.size = 60) (h1 : C.all (·.oneCell') = true) (hc256 : c < 256)
    (hl : ∀ W, Below w.heap.size w W → (Instr.lookup 26 (.map (some mb)) (.int .i64 ((x : Int) / 480)) true).run Try.prog W = .ok (.tuple #[.agg C, .bool q]) W)
    (hcase : (q = false ∧ r = false) ∨ (q = true ∧ C[x % 480 / 8]? = some (.int .u8 (c : Nat)) ∧ r = !c.testBit (x % 8))) :
    Calls Try.prog 31 #[.agg #[.int .i64 p, .int .i64 n, .map (some mb)], .int .i64 (x : Nat)] w fun e w' => e = .returned (.bool r) ∧ Below w.heap.size w w' := by
  have hb1 : Below w.heap.size w (w.alloc (.cells #[.int .i64 p, .int .i64 n, .map (some mb)] 28)) := (Below.refl _ _).alloc (Nat.le_refl _) _
  have H1 := hl _ hb1
  have c0 : (w.alloc (.cells #[.int .i64 p, .int .i64 n, .map (some mb)] 28)).cell? ⟨w.heap.size, 2, none⟩ = some (.map (some mb)) := (Blok.new w _ _).cell 2
  obtain ⟨w1, hw1⟩ : ∃ w1, w.alloc (.cells #[.int .i64 p, .int .i64 n, .map (some mb)] 28) = w1 := ⟨_, rfl⟩
  rw [hw1] at hb1 H1 c0
  have H2 := run_storeCells_new (P := Try.prog) w1 63 (pgC (List.replicate 60 0)) C (by rw [hC]; exact infoPg) (by rw [hC, pgC_size]; rfl) h1
  have e0 : pgC (List.replicate 60 0) = #[.int .u8 0, .int .u8 0, .int .u8 0, .int .u8 0, .int .u8 0, .int .u8 0, .int .u8 0, .int .u8 0, .int .u8 0, .int .u8 0, .int .u8 0, .int .u8 0, .int .u8 0, .int .u8 0, .int .u8 0, .int .u8 0, .int .u8 0, .int .u8 0, .int .u8 0, .int .u8 0, .int .u8 0, .int .u8 0, .int .u8 0, .int .u8 0, .int .u8 0, .int .u8 0, .int .u8 0, .int .u8 0, .int .u8 0, .int .u8 0, .int .u8 0, .int .u8 0, .int .u8 0, .int .u8 0, .int .u8 0, .int .u8 0, .int .u8 0, .int .u8 0, .int .u8 0, .int .u8 0, .int .u8 0, .int .u8 0, .int .u8 0, .int .u8 0, .int .u8 0, .int .u8 0, .int .u8 0, .int .u8 0, .int .u8 0, .int .u8 0, .int .u8 0, .int .u8 0, .int .u8 0, .int .u8 0, .int .u8 0, .int .u8 0, .int .u8 0, .int .u8 0, .int .u8 0, .int .u8 0] := by rfl
  rw [e0] at H2
  have HC := fun i v (h : C[i]? = some v) => ((Blok.new w1 63 C).cell i).trans h
  have hb2 : Below w.heap.size w (w1.alloc (.cells C 63)) := hb1.alloc hb1.size _
  rcases hcase with ⟨rfl, rfl⟩ | ⟨rfl, hc, rfl⟩
  · have HB := Lib.hid hb2
    clear hl HC h1 hb1 hb2 e0
    go_enter Try.func31, Try.ntmps31
    go_wp2
    go_ret
    exact ⟨rfl, HB.out⟩
  · have H3 := HC _ _ hc
    obtain ⟨w2, hw2⟩ : ∃ w2, w1.alloc (.cells C 63) = w2 := ⟨_, rfl⟩
    rw [hw2] at hb2 H2 H3
    have HB := Lib.hid hb2
    obtain ⟨i, hi⟩ : ∃ i : Nat, x % 480 / 8 = i := ⟨_, rfl⟩
    obtain ⟨y, hy⟩ : ∃ y : Nat, x % 480 = y := ⟨_, rfl⟩
    have ei : ((x : Int) % 480) = (y : Int) := by omega
    have ei2 : ((y : Int) / 8) = (i : Int) := by omega
    rw [hi] at H3
    clear hl HC h1 hb1 hb2 e0 hc hi
    go_enter Try.func31, Try.ntmps31
    go_wp2
    go_ret
    refine ⟨ret_bool ?_, HB.out⟩
    rw [show x % 8 = y % 8 by omega]
    exact off_bit c (y % 8) hc256

theorem offT_look {t : ByteArray} {m x : Nat} (hx : x / 480 < m) (l : List UInt8) (q : Bool) (hl : l = if x / 480 < m ∧ pgW t (x / 480 + 1) = true then pgB t (x / 480) else List.replicate 60 0) (hq : q = (decide (x / 480 < m) && pgW t (x / 480 + 1))) :
    l.length = 60 ∧ ((q = false ∧ offT t x = false) ∨ (q = true ∧ (pgC l)[x % 480 / 8]? = some (.int .u8 ((byT t x).toNat : Nat)) ∧ offT t x = !(byT t x).toNat.testBit (x % 8))) := by
  rw [decide_eq_true hx, Bool.true_and] at hq
  by_cases h : pgW t (x / 480 + 1) = true
  · rw [if_pos ⟨hx, h⟩] at hl
    have h60 : l.length = 60 := by rw [hl]; exact pgB_length h
    refine ⟨h60, Or.inr ⟨by rw [hq, h], ?_, ?_⟩⟩
    · rw [pgC_at l (by omega), ← pgB_at x rfl, hl, show x % 480 / 8 = x / 8 % 60 by omega]
    · unfold offT bitT
      rw [h, Bool.true_and]
  · rw [if_neg (fun c => h c.2)] at hl
    have h' := Bool.eq_false_iff.2 h
    exact ⟨by rw [hl, List.length_replicate], Or.inl ⟨by rw [hq, h'], by unfold offT; rw [h', Bool.false_and]⟩⟩
theorem off_any (mb m x : Nat) (p n : Int) (t : ByteArray) (w : World) (hm : MapPg w mb t m) (hx : x / 480 < m) (hx2 : x ≤ 10000000) :
    Calls Try.prog 31 #[.agg #[.int .i64 p, .int .i64 n, .map (some mb)], .int .i64 (x : Nat)] w fun e w' => e = .returned (.bool (offT t x)) ∧ Below w.heap.size w w' := by
  obtain ⟨h60, h⟩ := offT_look (t := t) hx _ _ rfl rfl
  exact off_at mb x p n (pgC _) _ (offT t x) (byT t x).toNat w hx2 (by rw [pgC_size, h60]) (pgC_one _) (UInt8.toNat_lt _)
    (fun W hW => by
      have := (hm.below hW).look (k := x / 480) (by omega)
      rw [Int.natCast_ediv] at this
      exact this) h

theorem asks_mem {g : Nat} {p b : Int} {i : Nat} (hi : i < nps p) : prb g (i : Nat) b ∈ asksL g p b := asksL_mem.2 ⟨i, hi, rfl⟩
theorem may_none (g : Nat) (w : World) : Calls Try.prog 13 #[.agg #[.int .i64 0, .int .i64 0, .map none], .int .u64 (g : Nat)] w fun e w' => e = .returned (.bool true) ∧ Below w.heap.size w w' := by
  have hb1 : Below w.heap.size w (w.alloc (.cells #[.int .i64 0, .int .i64 0, .map none] 28)) := (Below.refl _ _).alloc (Nat.le_refl _) _
  go_enter Try.func13, Try.ntmps13
  go_wp2
  refine wp_loop_rounds 1 ?_
  rw [rounds_succ]
  go_wp2
  go_ret
  exact ⟨rfl, hb1⟩
theorem held_cells {w wr : World} {g : Nat} {t : TypeId} {cs : Array Value} (h : Blok wr g t cs) : ∀ W, Below wr.heap.size wr W → Below wr.heap.size wr W ∧ W.cell? ⟨g, 0, none⟩ = cs[0]? ∧ W.cell? ⟨g, 1, none⟩ = cs[1]? ∧ W.cell? ⟨g, 2, none⟩ = cs[2]? := fun W hW =>
  have h2 : Blok W g t cs := (hW.block _ h.lt).trans h
  ⟨hW, h2.cell 0, h2.cell 1, h2.cell 2⟩
set_option maxHeartbeats 2000000 in
set_option maxRecDepth 100000 in
theorem may_some (mb g p n : Nat) (t : ByteArray) (r : Bool) (w : World) (hg : g < 18446744073709551616) (hm : MapPg w mb t (n / 60)) (hn : 60 ≤ n ∧ n ≤ 120000 ∧ n % 60 = 0) (hp : p ≤ 16)
    (Hyes : (∀ k ∈ asksL g p ((8 * n : Nat) : Int), offT t k = false) → r = true) (Hno : ∀ k ∈ asksL g p ((8 * n : Nat) : Int), offT t k = true → r = false) :
    Calls Try.prog 13 #[.agg #[.int .i64 (p : Nat), .int .i64 (n : Nat), .map (some mb)], .int .u64 (g : Nat)] w fun e w' => e = .returned (.bool r) ∧ Below w.heap.size w w' := by
  have hnp : nps (p : Nat) = p := by unfold nps; omega
  obtain ⟨b, hb⟩ : ∃ b : Int, ((8 * n : Nat) : Int) = b := ⟨_, rfl⟩
  have eb : 8 * (n : Int) = b := by omega
  have wb : (Lit.int .i64 b).wf = true := WalkArith.wf_i64 (by omega)
  rw [hb] at Hyes Hno
  have HYES := Lib.hid Hyes
  have HNO := Lib.hid Hno
  have HPR := Lib.hid fun (i : Nat) (W : World) (hi : i < 64) => probe_any g (i : Nat) b W hg (WalkArith.wf_i64 (by omega)) wb
  have hlt : ∀ i : Nat, prb g (i : Nat) b / 480 < n / 60 ∧ prb g (i : Nat) b ≤ 10000000 := fun i => by
    have := prb_lt g (i : Nat) (show 1 ≤ b by omega)
    omega
  have HLT := Lib.hid hlt
  have hB1 : Blok (w.alloc (.cells #[.int .i64 (p : Nat), .int .i64 (n : Nat), .map (some mb)] 28)) w.heap.size 28 #[.int .i64 (p : Nat), .int .i64 (n : Nat), .map (some mb)] := Blok.new w _ _
  have hb1 : Below w.heap.size w (w.alloc (.cells #[.int .i64 (p : Nat), .int .i64 (n : Nat), .map (some mb)] 28)) := (Below.refl _ _).alloc (Nat.le_refl _) _
  have hm1 := hm.below hb1
  obtain ⟨w1, hw1⟩ : ∃ w1, w.alloc (.cells #[.int .i64 (p : Nat), .int .i64 (n : Nat), .map (some mb)] 28) = w1 := ⟨_, rfl⟩
  rw [hw1] at hB1 hb1 hm1
  have c0 : w1.cell? ⟨w.heap.size, 0, none⟩ = some (.int .i64 (p : Nat)) := hB1.cell 0
  have c1 : w1.cell? ⟨w.heap.size, 1, none⟩ = some (.int .i64 (n : Nat)) := hB1.cell 1
  have HH := Lib.hid (show Blok w1 w.heap.size _ _ ∧ MapPg w1 mb t (n / 60) ∧ Below w.heap.size w w1 from ⟨hB1, hm1, hb1⟩)
  clear hB1 hb1 hm1 hlt Hyes Hno hb wb hm
  go_enter Try.func13, Try.ntmps13
  go_wp2
  clear c0 c1
  go_loopw [8] (fun v wr => ∃ k : Nat, k ≤ p ∧ v = .int .i64 k ∧ (∀ j, j < k → offT t (prb g (j : Nat) b) = false) ∧ Below w1.heap.size w1 wr) (fun v _ => p - (intOf v).toNat)
  case atStart => exact ⟨0, Nat.zero_le _, rfl, fun j hj => by omega, Below.refl _ _⟩
  case round =>
    obtain ⟨k, hk, rfl, hall, hbel⟩ := hrel
    have HALL := Lib.hid hall
    have HBEL := Lib.hid hbel
    clear hall hbel
    by_cases hlt : k < p
    · have HK := Lib.hid fun W => HPR.out k W (by omega)
      have hx := HLT.out k
      have hmr := HH.out.2.1.below HBEL.out
      have hBr : Blok wr w.heap.size _ _ := (HBEL.out.block _ HH.out.1.lt).trans HH.out.1
      have HS := Lib.hid (show ∀ W, Below wr.heap.size wr W → Below wr.heap.size wr W ∧ W.cell? ⟨w.heap.size, 0, none⟩ = some (.int .i64 (p : Nat)) ∧ W.cell? ⟨w.heap.size, 1, none⟩ = some (.int .i64 (n : Nat)) ∧ W.cell? ⟨w.heap.size, 2, none⟩ = some (.map (some mb)) from held_cells (w := w) hBr)
      have hmem := Lib.hid (asks_mem (g := g) (p := (p : Nat)) (b := b) (i := k) (by rw [hnp]; exact hlt))
      have c0 : wr.cell? ⟨w.heap.size, 0, none⟩ = some (.int .i64 (p : Nat)) := hBr.cell 0
      have c1 : wr.cell? ⟨w.heap.size, 1, none⟩ = some (.int .i64 (n : Nat)) := hBr.cell 1
      have c2 : wr.cell? ⟨w.heap.size, 2, none⟩ = some (.map (some mb)) := hBr.cell 2
      obtain ⟨x, hxe⟩ : ∃ x, prb g (k : Nat) b = x := ⟨_, rfl⟩
      have HXE := Lib.hid hxe
      rw [hxe] at HK hx hmem
      have HO := Lib.hid fun W (hW : Below wr.heap.size wr W) => (off_any mb (n / 60) x (p : Nat) (n : Nat) t W (hmr.below hW) hx.1 hx.2)
      have HQ := Lib.hid (show offT t x = offT t x from rfl)
      obtain ⟨q, hq⟩ : ∃ q, offT t x = q := ⟨_, rfl⟩
      have HQ := Lib.hid hq
      rw [hq] at HO
      have s5 : (k : Int) < (p : Int) := by omega
      have ewb : IntKind.i64.wrap b = b := by rw [IntKind.wrap_i64]; omega
      clear hxe hx hmr hBr hq
      go_wp2_with fail
      go_region_held3 (fun W => Below wr.heap.size wr W ∧ W.cell? ⟨w.heap.size, 0, none⟩ = some (.int .i64 (p : Nat)) ∧ W.cell? ⟨w.heap.size, 1, none⟩ = some (.int .i64 (n : Nat)) ∧ W.cell? ⟨w.heap.size, 2, none⟩ = some (.map (some mb)))
        (first | (with_reducible assumption) | ((with_reducible refine HS.out _ ?_); (repeat' (first | (with_reducible assumption) | (with_reducible exact Below.refl _ _) | (with_reducible refine Below.drew ?_))); done) | fail)
        (first
        | (go_at_call 32; ((with_reducible refine (HK.out _).mono ?_); rintro e w' ⟨rfl, rfl⟩))
        | (go_at_call 31; ((with_reducible refine (HO.out _ (And.left (by with_reducible assumption))).mono ?_); rintro e w' ⟨rfl, hb⟩; have hB2 := bj (And.left (by with_reducible assumption)) hb))
        | fail)
      cases q with
      | true =>
        have hr := HNO.out x hmem.out HQ.out
        subst hr
        go_wp2
        go_ret
        exact ⟨rfl, HH.out.2.2.trans ((HBEL.out.trans ((And.left (‹Below wr.heap.size wr _ ∧ _›)).mono HBEL.out.size)).mono HH.out.2.2.size)⟩
      | false =>
        go_wp2
        go_roundw
        case rel =>
          refine ⟨k + 1, hlt, by go_num, fun j hj => ?_, HBEL.out.trans ((And.left (‹Below wr.heap.size wr _ ∧ _›)).mono HBEL.out.size)⟩
          by_cases e : j = k
          · rw [e, HXE.out]
            exact HQ.out
          · exact HALL.out j (by omega)
        case measure => simp [intOf]; omega
    · have hr : r = true := HYES.out fun x hx => by
        obtain ⟨i, hi, rfl⟩ := asksL_mem.1 hx
        rw [hnp] at hi
        exact HALL.out i (by omega)
      subst hr
      have s5 : (p : Int) ≤ (k : Int) := by omega
      go_wp2
      go_ret
      exact ⟨rfl, HH.out.2.2.trans (HBEL.out.mono HH.out.2.2.size)⟩
theorem may_any (f : Value) (g : Nat) (t : ByteArray) (w : World) (hg : g < 18446744073709551616) (h : FilterAt w f t) :
    Calls Try.prog 13 #[f, .int .u64 (g : Nat)] w fun e w' => e = .returned (.bool (mayT t g)) ∧ Below w.heap.size w w' := by
  rcases h with ⟨h, rfl⟩ | ⟨h, mb, rfl, hm⟩
  · rw [mayT_no h]
    exact may_none g w
  · obtain ⟨g1, g2, g3, g4, g5⟩ := pgOk_iff.1 (hdOk_iff.1 h).2.1
    exact may_some mb g _ _ t (mayT t g) w hg hm (by omega) (by omega) mayT_all fun k hk ho => mayT_one h hk ho
end Go.Proofs.Ytfnppmiapjhjlaa

/- BuildLay -/
namespace Go.Proofs
open Go.Shelf
def Try.layst_ren : Go.Shelf.Ren := ⟨fun | 169 => 25 | n => n, fun | 70 => 52 | 9 => 9 | 0 => 0 | 72 => 54 | 37 => 36 | 127 => 75 | 3 => 3 | 5 => 5 | n => n, fun | n => n⟩
theorem Try.layst : Go.Proofs.Lays.n169 Try.prog Try.layst_ren := {
  mixed := by kernel_rfl
  f169 := Try.func25.trans (congrArg some (by kernel_rfl))
  t0 := Try.underlying0
  a0 := Try.isAgg0
  z0 := Try.sizeOf0
  v0 := Try.zeroValue0
  t3 := Try.underlying3
  a3 := Try.isAgg3
  z3 := Try.sizeOf3
  v3 := Try.zeroValue3
  t9 := Try.underlying9
  a9 := Try.isAgg9
  z9 := Try.sizeOf9
  v9 := Try.zeroValue9
  t37 := Try.underlying36
  a37 := Try.isAgg36
  z37 := Try.sizeOf36
  v37 := Try.zeroValue36
  t70 := Try.underlying52
  a70 := Try.isAgg52
  z70 := Try.sizeOf52
  v70 := Try.zeroValue52
  t72 := Try.underlying54
  a72 := Try.isAgg54
  z72 := Try.sizeOf54
  v72 := Try.zeroValue54
  t127 := Try.underlying75
  a127 := Try.isAgg75
  z127 := Try.sizeOf75
  v127 := Try.zeroValue75 }
theorem Try.xst : Builder.Extra Try.prog Try.layst_ren := {
  sizeBuilder := by kernel_rfl
  liesBuilder := by kernel_rfl
  t5 := Try.underlying5
  a5 := Try.isAgg5
  z5 := Try.sizeOf5
  v5 := Try.zeroValue5
  infoByte := by kernel_rfl
  cellsByte := by kernel_rfl
  sizeByte := by kernel_rfl
  neB5 := by decide }
open Go.RowKit in
theorem Try.bst_any (B b : Nat) (l : List UInt8) (w : World) (h : Lib.IsBuilder 54 5 B b (Lib.byteCells l) w) (hBw : B ≤ w.heap.size) :
    Calls Try.prog 25 #[.pointer (some ⟨b, 0, none⟩)] w fun e w' => e = .returned (.string ⟨l.toArray⟩) ∧ Below B w w' := Any.Builder_String_any Try.layst Try.xst B b l w h hBw
end Go.Proofs

/- Build -/
namespace Go.Proofs.Ytfnppmiapjhjlaa
open Go.RowKit
set_option linter.unusedVariables false

/-- A builder in a block of its own, that holds these bytes. -/
def Bld (B b : Nat) (s : ByteArray) (w : World) : Prop := Lib.IsBuilder 54 5 B b (Lib.byteCells s.data.toList) w
theorem cc_used (b : Nat) (w : World) (h0 : w.cell? ⟨b, 0, none⟩ = some (.pointer (some ⟨b, 0, none⟩))) :
    Calls Try.prog 39 #[.pointer (some ⟨b, 0, none⟩)] w fun e w' => e = .returned (.tuple #[]) ∧ w' = w := by
  obtain ⟨j, hj⟩ : ∃ j, Try.prog.info? 54 = some j := Option.isSome_iff_exists.1 (by kernel_rfl)
  have hne := Lib.run_neq_ptr_same (P := Try.prog) w ⟨b, 0, none⟩ Try.underlying52 hj
  go_enter Try.func39, Try.ntmps39
  go_wp2
  go_end0
  exact ⟨rfl, rfl⟩
theorem cc_fresh (b : Nat) (w : World) (h0 : w.cell? ⟨b, 0, none⟩ = some (.pointer none)) (hsh : w.shape? b = some (54, 2)) (hfz : w.frozen? ⟨b, 0, none⟩ = false) :
    Calls Try.prog 39 #[.pointer (some ⟨b, 0, none⟩)] w fun e w' => e = .returned (.tuple #[]) ∧ w' = w.setCell ⟨b, 0, none⟩ (.pointer (some ⟨b, 0, none⟩)) := by
  obtain ⟨j, hj, hjs⟩ : ∃ j, Try.prog.info? 54 = some j ∧ j.size = 2 := Option.map_eq_some_iff.1 (by kernel_rfl)
  have h1 := Lib.run_to_unsafe (P := Try.prog) w ⟨b, 0, none⟩ Try.underlying52 Try.underlying79 hj (by omega) hsh (show 0 < 2 by decide)
  have h3 := Lib.run_from_unsafe (P := Try.prog) w ⟨b, 0, none⟩ Try.underlying79 Try.underlying52 hj hsh (by kernel_rfl)
  go_enter Try.func39, Try.ntmps39
  go_wp2
  rw [run_callFunc_extern Try.func50 (by kernel_rfl) (by kernel_rfl) (by kernel_rfl) (e := Extern.AbiNoEscape.same) (by kernel_rfl), Lib.run_noEscape]
  simp only [Result.andThen]
  rw [Oper.upon_value]
  go_wp2
  go_end0
  exact ⟨rfl, rfl⟩
theorem cc_any (B b : Nat) (bs : List Value) (w : World) (h : Lib.IsBuilder 54 5 B b bs w) :
    Calls Try.prog 39 #[.pointer (some ⟨b, 0, none⟩)] w fun e w' => e = .returned (.tuple #[]) ∧ Lib.BuilderAt 54 5 B b (.pointer (some ⟨b, 0, none⟩)) bs w' ∧ Below B w w' := by
  rcases h with h | h
  · exact (cc_fresh b w h.cell0 h.shape h.frozen0).mono fun e w' hr => ⟨hr.1, hr.2 ▸ h.used _, hr.2 ▸ (Below.refl B w).setCell (p := ⟨b, 0, none⟩) h.1 _⟩
  · exact (cc_used b w h.cell0).mono fun e w' hr => ⟨hr.1, hr.2 ▸ h, hr.2 ▸ Below.refl B _⟩

set_option maxHeartbeats 1000000 in
set_option maxRecDepth 100000 in
theorem ws_bld (B b : Nat) (s t : ByteArray) (w : World) (h : Bld B b s w) (hlen : s.size + t.size ≤ 1000000) (hBw : B ≤ w.heap.size) :
    Calls Try.prog 22 #[.pointer (some ⟨b, 0, none⟩), .string t] w fun e w' => e = .returned (.tuple #[.int .i64 t.size, .nilIface]) ∧ Bld B b (s ++ t) w' ∧ Below B w w' := by
  obtain ⟨i0, hi, hz0, hz1, hz2⟩ := info_parts Try.xst.infoByte
  have hls : (Lib.byteCells s.data.toList).length = s.size := by rw [Lib.byteCells_length]; exact (Lib.size_eq s).symm
  have HC := Lib.hid (cc_any B b _ w h)
  have hcat : Lib.byteCells s.data.toList ++ Lib.strCells t = Lib.byteCells (s ++ t).data.toList := by rw [Lib.strCells_eq, ← Lib.byteCells_append, ByteArray.data_append, Array.toList_append]
  unfold Bld
  rw [← hcat]
  clear hcat h
  generalize Lib.byteCells s.data.toList = bs at *
  go_enter Try.func22, Try.ntmps22
  go_wp2_with fail
  refine HC.out.mono ?_
  rintro e w1 ⟨rfl, h1, hb1⟩
  obtain ⟨hB, v, hbk, hown, hne⟩ := h1
  have c1 : w1.cell? ⟨b, 1, none⟩ = some v := by rw [Lib.cell_of_heap hbk]; rfl
  have hz := hb1.size
  go_wp2_with (at_builtin; refine Lib.wpList_append_own_string _ rfl _ _ 36 9 rfl B 5 i0 Try.underlying36 Try.underlying9 hi hz0 hz1 hz2 _ _ _ rfl hown t rfl ?c3 ?c4 ?c5 ?_)
  case c3 => unfold maxLen; omega
  case c4 => omega
  case c5 => omega
  intro v' w2 hown' hgrow _
  have hlt : b < w1.heap.size := (Array.getElem?_eq_some_iff.1 hbk).1
  have hb2 : w2.heap[b]? = some (.cells #[.pointer (some ⟨b, 0, none⟩), v] 54 (0, 0)) := (hgrow.block b hlt (fun e => hne e.symm)).trans hbk
  have d0 : w2.cell? ⟨b, 0, none⟩ = some (.pointer (some ⟨b, 0, none⟩)) := by rw [Lib.cell_of_heap hb2]; rfl
  have d1 : w2.cell? ⟨b, 1, none⟩ = some v := by rw [Lib.cell_of_heap hb2]; rfl
  have f1 : w2.frozen? ⟨b, 1, none⟩ = false := Lib.frozen_of_heap hb2 1
  have hown2 : w2.ownsRow B 5 1 v' (bs ++ Lib.strCells t).length (bs ++ Lib.strCells t) := by rw [List.length_append, Lib.strCells_length, hls]; exact hown'
  obtain ⟨ao, n', cap, rfl⟩ : ∃ ao n' cap, v' = .slice ao n' cap := by
    rcases hown'.2 with ⟨hv, _⟩ | ⟨g, cap, cur, hv, _⟩
    · exact ⟨_, _, _, hv⟩
    · exact ⟨_, _, _, hv⟩
  have hput := Or.inr (a := Lib.BuilderAt 54 5 B b (.pointer none) (bs ++ Lib.strCells t) (w2.setCell ⟨b, 1, none⟩ (.slice ao n' cap))) (Lib.BuilderAt.put hB hb2 hown2 (by decide))
  have hbel := (hb1.grown hgrow (by omega) (fun k hk => (hown.lt k hk).1)).setCell (p := ⟨b, 1, none⟩) hB (.slice ao n' cap)
  clear hown' hown2 hgrow hown hne hbk hb1 HC
  go_wp2
  go_ret2
  exact ⟨rfl, hput, hbel⟩
/-- What it holds, as a text. -/
theorem st_bld (B b : Nat) (s : ByteArray) (w : World) (h : Bld B b s w) (hBw : B ≤ w.heap.size) :
    Calls Try.prog 25 #[.pointer (some ⟨b, 0, none⟩)] w fun e w' => e = .returned (.string s) ∧ Below B w w' := by
  have := Try.bst_any B b s.data.toList w h hBw
  rw [Array.toArray_toList] at this
  exact this
theorem Bld.fresh (w : World) : Bld w.heap.size w.heap.size ByteArray.empty (w.alloc (.cells #[.pointer none, .slice none 0 0] 54)) := Lib.fresh_isBuilder _ _ w
theorem Bld.lt {B b : Nat} {s : ByteArray} {w : World} (h : Bld B b s w) : b < w.heap.size := by
  rcases h with h | h
  · exact h.lt
  · exact h.lt
/-- What lies above it turns nothing of it. -/
theorem Bld.below {B b : Nat} {s : ByteArray} {w w' : World} (h : Bld B b s w) (hb : Below w.heap.size w w') : Bld B b s w' := by
  have hlt := h.lt
  have key : ∀ p, Lib.BuilderAt 54 5 B b p (Lib.byteCells s.data.toList) w → Lib.BuilderAt 54 5 B b p (Lib.byteCells s.data.toList) w' := by
    rintro p ⟨hB, v, hbk, hown, hne⟩
    refine ⟨hB, v, (hb.block b hlt).trans hbk, ⟨hown.1, ?_⟩, hne⟩
    rcases hown.2 with hn | ⟨g, cap, cur, hv, h1, hg, rest⟩
    · exact .inl hn
    · exact .inr ⟨g, cap, cur, hv, h1, (hb.block g (Array.getElem?_eq_some_iff.1 hg).1).trans hg, rest⟩
  rcases h with h | h
  · exact .inl (key _ h)
  · exact .inr (key _ h)
theorem Bld.alloc {B b : Nat} {s : ByteArray} {w : World} (h : Bld B b s w) (o : Obj) : Bld B b s (w.alloc o) := h.below ((Below.refl _ _).alloc (Nat.le_refl _) _)
theorem Bld.drew {B b : Nat} {s : ByteArray} {w : World} (h : Bld B b s w) : Bld B b s w.drew := h
/-- A builder with these bytes, in the first block behind a world, and all before it as it was. -/
structure Wrt (w1 : World) (s : ByteArray) (W : World) : Prop where
  b : Bld w1.heap.size w1.heap.size s W
  o : Below w1.heap.size w1 W
theorem Wrt.fresh (w : World) : Wrt w ByteArray.empty (w.alloc (.cells #[.pointer none, .slice none 0 0] 54)) := ⟨Bld.fresh w, (Below.refl _ _).alloc (Nat.le_refl _) _⟩
theorem Wrt.below {w1 W W' : World} {s : ByteArray} (h : Wrt w1 s W) (hb : Below W.heap.size W W') : Wrt w1 s W' := ⟨h.b.below hb, bj h.o hb⟩
theorem Wrt.alloc {w1 W : World} {s : ByteArray} (h : Wrt w1 s W) (o : Obj) : Wrt w1 s (W.alloc o) := h.below ((Below.refl _ _).alloc (Nat.le_refl _) _)
theorem Wrt.write {w1 W : World} {s : ByteArray} (h : Wrt w1 s W) (t : ByteArray) (hz : s.size + t.size ≤ 1000000) :
    Calls Try.prog 22 #[.pointer (some ⟨w1.heap.size, 0, none⟩), .string t] W fun e w' => e = .returned (.tuple #[.int .i64 t.size, .nilIface]) ∧ Wrt w1 (s ++ t) w' :=
  (ws_bld _ _ s t W h.b hz h.o.size).mono fun e w' hr => ⟨hr.1, hr.2.1, h.o.trans hr.2.2⟩
theorem Wrt.told {w1 W : World} {s : ByteArray} (h : Wrt w1 s W) :
    Calls Try.prog 25 #[.pointer (some ⟨w1.heap.size, 0, none⟩)] W fun e w' => e = .returned (.string s) ∧ Below w1.heap.size w1 w' :=
  (st_bld _ _ s W h.b h.o.size).mono fun e w' hr => ⟨hr.1, h.o.trans hr.2⟩
end Go.Proofs.Ytfnppmiapjhjlaa
