/- The program's May: whether a bit is surely off, whether a hash may be there. -/
import Derived.Test.YtfnppmiapjhjlaaPgMem
import Derived.Test.YtfnppmiapjhjlaaBlProbe
import Derived.Deep.RegionHeld3
import Derived.Lib.Hide
import Derived.Test.YtfnppmiapjhjlaaOwn
namespace Go.Proofs.Ytfnppmiapjhjlaa
open Go.RowKit
set_option linter.unusedVariables false

theorem off_bit (c k : Nat) (hc : c < 256) : (bits .and .u8 ((c : Int) / 2 ^ k) 1 == 0) = !c.testBit k := by
  have h1 : (c : Int) / 2 ^ k = ((c / 2 ^ k : Nat) : Int) := by simp
  rw [h1, show (1 : Int) = ((1 : Nat) : Int) from rfl, u8_and_nat _ _ (Nat.lt_of_le_of_lt (Nat.div_le_self _ _) hc) (by decide), Nat.and_one_is_mod]
  have h2 := bit_shift (c := c) (k := k)
  cases hb : c.testBit k with
  | true => rw [h2.2 hb]; rfl
  | false =>
    have h3 : ¬ c / 2 ^ k % 2 = 1 := fun e => by rw [h2.1 e] at hb; cases hb
    have h4 : c / 2 ^ k % 2 = 0 := by omega
    rw [h4]
    rfl

set_option maxHeartbeats 1000000 in
set_option maxRecDepth 100000 in
theorem off_at (mb x : Nat) (p n : Int) (C : Array Value) (q r : Bool) (c : Nat) (w : World) (hx2 : x ≤ 10000000) (hC : C.size = 60) (h1 : C.all (·.oneCell') = true) (hc256 : c < 256)
    (hl : ∀ W, Below w.heap.size w W → (Instr.lookup 26 (.map (some mb)) (.int .i64 ((x : Int) / 480)) true).run Try.prog W = .ok (.tuple #[.agg C, .bool q]) W)
    (hcase : (q = false ∧ r = false) ∨ (q = true ∧ C[x % 480 / 8]? = some (.int .u8 (c : Nat)) ∧ r = !c.testBit (x % 8))) :
    Calls Try.prog 31 #[.agg #[.int .i64 p, .int .i64 n, .map (some mb)], .int .i64 (x : Nat)] w fun e w' => e = .returned (.bool r) ∧ Below w.heap.size w w' := by
  have hb1 : Below w.heap.size w (w.alloc (.cells #[.int .i64 p, .int .i64 n, .map (some mb)] 28)) := (Below.refl _ _).alloc (Nat.le_refl _) _
  have H1 := hl _ hb1
  have c0 : (w.alloc (.cells #[.int .i64 p, .int .i64 n, .map (some mb)] 28)).cell? ⟨w.heap.size, 2, none⟩ = some (.map (some mb)) := (Blok.new w _ _).cell 2
  obtain ⟨w1, hw1⟩ : ∃ w1, w.alloc (.cells #[.int .i64 p, .int .i64 n, .map (some mb)] 28) = w1 := ⟨_, rfl⟩
  rw [hw1] at hb1 H1 c0
  have H2 := run_storeCells_new (P := Try.prog) w1 63 (pgC (List.replicate 60 0)) C (by rw [hC]; exact infoPg) (by rw [hC, pgC_size]; rfl) h1
  have e0 : pgC (List.replicate 60 0) = #[.int .u8 0, .int .u8 0, .int .u8 0, .int .u8 0, .int .u8 0, .int .u8 0, .int .u8 0, .int .u8 0, .int .u8 0, .int .u8 0, .int .u8 0, .int .u8 0, .int .u8 0, .int .u8 0, .int .u8 0, .int .u8 0, .int .u8 0, .int .u8 0, .int .u8 0, .int .u8 0, .int .u8 0, .int .u8 0, .int .u8 0, .int .u8 0, .int .u8 0, .int .u8 0, .int .u8 0, .int .u8 0, .int .u8 0, .int .u8 0, .int .u8 0, .int .u8 0, .int .u8 0, .int .u8 0, .int .u8 0, .int .u8 0, .int .u8 0, .int .u8 0, .int .u8 0, .int .u8 0, .int .u8 0, .int .u8 0, .int .u8 0, .int .u8 0, .int .u8 0, .int .u8 0, .int .u8 0, .int .u8 0, .int .u8 0, .int .u8 0, .int .u8 0, .int .u8 0, .int .u8 0, .int .u8 0, .int .u8 0, .int .u8 0, .int .u8 0, .int .u8 0, .int .u8 0, .int .u8 0] := by rfl
  rw [e0] at H2
  have HC := fun i v (h : C[i]? = some v) => ((Blok.new w1 63 C).cell i).trans h
  have hb2 : Below w.heap.size w (w1.alloc (.cells C 63)) := hb1.alloc hb1.size _
  rcases hcase with ⟨rfl, rfl⟩ | ⟨rfl, hc, rfl⟩
  · have HB := Lib.hid hb2
    clear hl HC h1 hb1 hb2 e0
    go_enter Try.func31, Try.ntmps31
    go_wp2
    go_ret
    exact ⟨rfl, HB.out⟩
  · have H3 := HC _ _ hc
    obtain ⟨w2, hw2⟩ : ∃ w2, w1.alloc (.cells C 63) = w2 := ⟨_, rfl⟩
    rw [hw2] at hb2 H2 H3
    have HB := Lib.hid hb2
    obtain ⟨i, hi⟩ : ∃ i : Nat, x % 480 / 8 = i := ⟨_, rfl⟩
    obtain ⟨y, hy⟩ : ∃ y : Nat, x % 480 = y := ⟨_, rfl⟩
    have ei : ((x : Int) % 480) = (y : Int) := by omega
    have ei2 : ((y : Int) / 8) = (i : Int) := by omega
    rw [hi] at H3
    clear hl HC h1 hb1 hb2 e0 hc hi
    go_enter Try.func31, Try.ntmps31
    go_wp2
    go_ret
    refine ⟨ret_bool ?_, HB.out⟩
    rw [show x % 8 = y % 8 by omega]
    exact off_bit c (y % 8) hc256

theorem offT_look {t : ByteArray} {m x : Nat} (hx : x / 480 < m) (l : List UInt8) (q : Bool) (hl : l = if x / 480 < m ∧ pgW t (x / 480 + 1) = true then pgB t (x / 480) else List.replicate 60 0) (hq : q = (decide (x / 480 < m) && pgW t (x / 480 + 1))) :
    l.length = 60 ∧ ((q = false ∧ offT t x = false) ∨ (q = true ∧ (pgC l)[x % 480 / 8]? = some (.int .u8 ((byT t x).toNat : Nat)) ∧ offT t x = !(byT t x).toNat.testBit (x % 8))) := by
  rw [decide_eq_true hx, Bool.true_and] at hq
  by_cases h : pgW t (x / 480 + 1) = true
  · rw [if_pos ⟨hx, h⟩] at hl
    have h60 : l.length = 60 := by rw [hl]; exact pgB_length h
    refine ⟨h60, Or.inr ⟨by rw [hq, h], ?_, ?_⟩⟩
    · rw [pgC_at l (by omega), ← pgB_at x rfl, hl, show x % 480 / 8 = x / 8 % 60 by omega]
    · unfold offT bitT
      rw [h, Bool.true_and]
  · rw [if_neg (fun c => h c.2)] at hl
    have h' := Bool.eq_false_iff.2 h
    exact ⟨by rw [hl, List.length_replicate], Or.inl ⟨by rw [hq, h'], by unfold offT; rw [h', Bool.false_and]⟩⟩
theorem off_any (mb m x : Nat) (p n : Int) (t : ByteArray) (w : World) (hm : MapPg w mb t m) (hx : x / 480 < m) (hx2 : x ≤ 10000000) :
    Calls Try.prog 31 #[.agg #[.int .i64 p, .int .i64 n, .map (some mb)], .int .i64 (x : Nat)] w fun e w' => e = .returned (.bool (offT t x)) ∧ Below w.heap.size w w' := by
  obtain ⟨h60, h⟩ := offT_look (t := t) hx _ _ rfl rfl
  exact off_at mb x p n (pgC _) _ (offT t x) (byT t x).toNat w hx2 (by rw [pgC_size, h60]) (pgC_one _) (UInt8.toNat_lt _)
    (fun W hW => by
      have := (hm.below hW).look (k := x / 480) (by omega)
      rw [Int.natCast_ediv] at this
      exact this) h

theorem asks_mem {g : Nat} {p b : Int} {i : Nat} (hi : i < nps p) : prb g (i : Nat) b ∈ asksL g p b := asksL_mem.2 ⟨i, hi, rfl⟩
theorem may_none (g : Nat) (w : World) : Calls Try.prog 13 #[.agg #[.int .i64 0, .int .i64 0, .map none], .int .u64 (g : Nat)] w fun e w' => e = .returned (.bool true) ∧ Below w.heap.size w w' := by
  have hb1 : Below w.heap.size w (w.alloc (.cells #[.int .i64 0, .int .i64 0, .map none] 28)) := (Below.refl _ _).alloc (Nat.le_refl _) _
  go_enter Try.func13, Try.ntmps13
  go_wp2
  refine wp_loop_rounds 1 ?_
  rw [rounds_succ]
  go_wp2
  go_ret
  exact ⟨rfl, hb1⟩
theorem held_cells {w wr : World} {g : Nat} {t : TypeId} {cs : Array Value} (h : Blok wr g t cs) : ∀ W, Below wr.heap.size wr W → Below wr.heap.size wr W ∧ W.cell? ⟨g, 0, none⟩ = cs[0]? ∧ W.cell? ⟨g, 1, none⟩ = cs[1]? ∧ W.cell? ⟨g, 2, none⟩ = cs[2]? := fun W hW =>
  have h2 : Blok W g t cs := (hW.block _ h.lt).trans h
  ⟨hW, h2.cell 0, h2.cell 1, h2.cell 2⟩
set_option maxHeartbeats 2000000 in
set_option maxRecDepth 100000 in
theorem may_some (mb g p n : Nat) (t : ByteArray) (r : Bool) (w : World) (hg : g < 18446744073709551616) (hm : MapPg w mb t (n / 60)) (hn : 60 ≤ n ∧ n ≤ 120000 ∧ n % 60 = 0) (hp : p ≤ 16)
    (Hyes : (∀ k ∈ asksL g p ((8 * n : Nat) : Int), offT t k = false) → r = true) (Hno : ∀ k ∈ asksL g p ((8 * n : Nat) : Int), offT t k = true → r = false) :
    Calls Try.prog 13 #[.agg #[.int .i64 (p : Nat), .int .i64 (n : Nat), .map (some mb)], .int .u64 (g : Nat)] w fun e w' => e = .returned (.bool r) ∧ Below w.heap.size w w' := by
  have hnp : nps (p : Nat) = p := by unfold nps; omega
  obtain ⟨b, hb⟩ : ∃ b : Int, ((8 * n : Nat) : Int) = b := ⟨_, rfl⟩
  have eb : 8 * (n : Int) = b := by omega
  have wb : (Lit.int .i64 b).wf = true := WalkArith.wf_i64 (by omega)
  rw [hb] at Hyes Hno
  have HYES := Lib.hid Hyes
  have HNO := Lib.hid Hno
  have HPR := Lib.hid fun (i : Nat) (W : World) (hi : i < 64) => probe_any g (i : Nat) b W hg (WalkArith.wf_i64 (by omega)) wb
  have hlt : ∀ i : Nat, prb g (i : Nat) b / 480 < n / 60 ∧ prb g (i : Nat) b ≤ 10000000 := fun i => by
    have := prb_lt g (i : Nat) (show 1 ≤ b by omega)
    omega
  have HLT := Lib.hid hlt
  have hB1 : Blok (w.alloc (.cells #[.int .i64 (p : Nat), .int .i64 (n : Nat), .map (some mb)] 28)) w.heap.size 28 #[.int .i64 (p : Nat), .int .i64 (n : Nat), .map (some mb)] := Blok.new w _ _
  have hb1 : Below w.heap.size w (w.alloc (.cells #[.int .i64 (p : Nat), .int .i64 (n : Nat), .map (some mb)] 28)) := (Below.refl _ _).alloc (Nat.le_refl _) _
  have hm1 := hm.below hb1
  obtain ⟨w1, hw1⟩ : ∃ w1, w.alloc (.cells #[.int .i64 (p : Nat), .int .i64 (n : Nat), .map (some mb)] 28) = w1 := ⟨_, rfl⟩
  rw [hw1] at hB1 hb1 hm1
  have c0 : w1.cell? ⟨w.heap.size, 0, none⟩ = some (.int .i64 (p : Nat)) := hB1.cell 0
  have c1 : w1.cell? ⟨w.heap.size, 1, none⟩ = some (.int .i64 (n : Nat)) := hB1.cell 1
  have HH := Lib.hid (show Blok w1 w.heap.size _ _ ∧ MapPg w1 mb t (n / 60) ∧ Below w.heap.size w w1 from ⟨hB1, hm1, hb1⟩)
  clear hB1 hb1 hm1 hlt Hyes Hno hb wb hm
  go_enter Try.func13, Try.ntmps13
  go_wp2
  clear c0 c1
  go_loopw [8] (fun v wr => ∃ k : Nat, k ≤ p ∧ v = .int .i64 k ∧ (∀ j, j < k → offT t (prb g (j : Nat) b) = false) ∧ Below w1.heap.size w1 wr) (fun v _ => p - (intOf v).toNat)
  case atStart => exact ⟨0, Nat.zero_le _, rfl, fun j hj => by omega, Below.refl _ _⟩
  case round =>
    obtain ⟨k, hk, rfl, hall, hbel⟩ := hrel
    have HALL := Lib.hid hall
    have HBEL := Lib.hid hbel
    clear hall hbel
    by_cases hlt : k < p
    · have HK := Lib.hid fun W => HPR.out k W (by omega)
      have hx := HLT.out k
      have hmr := HH.out.2.1.below HBEL.out
      have hBr : Blok wr w.heap.size _ _ := (HBEL.out.block _ HH.out.1.lt).trans HH.out.1
      have HS := Lib.hid (show ∀ W, Below wr.heap.size wr W → Below wr.heap.size wr W ∧ W.cell? ⟨w.heap.size, 0, none⟩ = some (.int .i64 (p : Nat)) ∧ W.cell? ⟨w.heap.size, 1, none⟩ = some (.int .i64 (n : Nat)) ∧ W.cell? ⟨w.heap.size, 2, none⟩ = some (.map (some mb)) from held_cells (w := w) hBr)
      have hmem := Lib.hid (asks_mem (g := g) (p := (p : Nat)) (b := b) (i := k) (by rw [hnp]; exact hlt))
      have c0 : wr.cell? ⟨w.heap.size, 0, none⟩ = some (.int .i64 (p : Nat)) := hBr.cell 0
      have c1 : wr.cell? ⟨w.heap.size, 1, none⟩ = some (.int .i64 (n : Nat)) := hBr.cell 1
      have c2 : wr.cell? ⟨w.heap.size, 2, none⟩ = some (.map (some mb)) := hBr.cell 2
      obtain ⟨x, hxe⟩ : ∃ x, prb g (k : Nat) b = x := ⟨_, rfl⟩
      have HXE := Lib.hid hxe
      rw [hxe] at HK hx hmem
      have HO := Lib.hid fun W (hW : Below wr.heap.size wr W) => (off_any mb (n / 60) x (p : Nat) (n : Nat) t W (hmr.below hW) hx.1 hx.2)
      have HQ := Lib.hid (show offT t x = offT t x from rfl)
      obtain ⟨q, hq⟩ : ∃ q, offT t x = q := ⟨_, rfl⟩
      have HQ := Lib.hid hq
      rw [hq] at HO
      have s5 : (k : Int) < (p : Int) := by omega
      have ewb : IntKind.i64.wrap b = b := by rw [IntKind.wrap_i64]; omega
      clear hxe hx hmr hBr hq
      go_wp2_with fail
      go_region_held3 (fun W => Below wr.heap.size wr W ∧ W.cell? ⟨w.heap.size, 0, none⟩ = some (.int .i64 (p : Nat)) ∧ W.cell? ⟨w.heap.size, 1, none⟩ = some (.int .i64 (n : Nat)) ∧ W.cell? ⟨w.heap.size, 2, none⟩ = some (.map (some mb)))
        (first | (with_reducible assumption) | ((with_reducible refine HS.out _ ?_); (repeat' (first | (with_reducible assumption) | (with_reducible exact Below.refl _ _) | (with_reducible refine Below.drew ?_))); done) | fail)
        (first
        | (go_at_call 32; ((with_reducible refine (HK.out _).mono ?_); rintro e w' ⟨rfl, rfl⟩))
        | (go_at_call 31; ((with_reducible refine (HO.out _ (And.left (by with_reducible assumption))).mono ?_); rintro e w' ⟨rfl, hb⟩; have hB2 := bj (And.left (by with_reducible assumption)) hb))
        | fail)
      cases q with
      | true =>
        have hr := HNO.out x hmem.out HQ.out
        subst hr
        go_wp2
        go_ret
        exact ⟨rfl, HH.out.2.2.trans ((HBEL.out.trans ((And.left (‹Below wr.heap.size wr _ ∧ _›)).mono HBEL.out.size)).mono HH.out.2.2.size)⟩
      | false =>
        go_wp2
        go_roundw
        case rel =>
          refine ⟨k + 1, hlt, by go_num, fun j hj => ?_, HBEL.out.trans ((And.left (‹Below wr.heap.size wr _ ∧ _›)).mono HBEL.out.size)⟩
          by_cases e : j = k
          · rw [e, HXE.out]
            exact HQ.out
          · exact HALL.out j (by omega)
        case measure => simp [intOf]; omega
    · have hr : r = true := HYES.out fun x hx => by
        obtain ⟨i, hi, rfl⟩ := asksL_mem.1 hx
        rw [hnp] at hi
        exact HALL.out i (by omega)
      subst hr
      have s5 : (p : Int) ≤ (k : Int) := by omega
      go_wp2
      go_ret
      exact ⟨rfl, HH.out.2.2.trans (HBEL.out.mono HH.out.2.2.size)⟩
theorem may_any (f : Value) (g : Nat) (t : ByteArray) (w : World) (hg : g < 18446744073709551616) (h : FilterAt w f t) :
    Calls Try.prog 13 #[f, .int .u64 (g : Nat)] w fun e w' => e = .returned (.bool (mayT t g)) ∧ Below w.heap.size w w' := by
  rcases h with ⟨h, rfl⟩ | ⟨h, mb, rfl, hm⟩
  · rw [mayT_no h]
    exact may_none g w
  · obtain ⟨g1, g2, g3, g4, g5⟩ := pgOk_iff.1 (hdOk_iff.1 h).2.1
    exact may_some mb g _ _ t (mayT t g) w hg hm (by omega) (by omega) mayT_all fun k hk ho => mayT_one h hk ho
end Go.Proofs.Ytfnppmiapjhjlaa
