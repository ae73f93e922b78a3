/- PgMem, PgMay -/
import Derived.Test.YtmbhafabphogdaaGreatRk06
import Derived.Test.YtmbhafabphogdaaGreatRk01
import Derived.Maps.RangeWalk
import Derived.Deep.WholeRow
import Derived.Test.YtmbhafabphogdaaGreatRk03
import Derived.Deep.RegionHeld3
import Derived.Lib.Hide
/- PgMem -/
namespace Go.Proofs.YtmbhafabphogdaaGreat
open Go.RowKit
open Go.Maps (Keyed)
set_option linter.unusedVariables false

/-- The cells of a page. -/
def pgC (l : List UInt8) : Array Value := (l.map fun c => Value.int .u8 (c.toNat : Int)).toArray
/-- A page, as a value. -/
def pgV (l : List UInt8) : Value := .agg (pgC l)
theorem pgC_size (l : List UInt8) : (pgC l).size = l.length := by unfold pgC; rw [List.size_toArray, List.length_map]
theorem pgC_at (l : List UInt8) {i : Nat} (hi : i < l.length) : (pgC l)[i]? = some (.int .u8 ((l.getD i 0).toNat : Int)) := by
  unfold pgC
  rw [List.getElem?_toArray, List.getElem?_map, List.getD_eq_getElem?_getD, List.getElem?_eq_getElem hi]
  rfl
theorem pgC_one (l : List UInt8) : (pgC l).all (·.oneCell') = true := by
  unfold pgC
  rw [List.all_toArray, List.all_eq_true]
  intro x hx
  obtain ⟨c, _, rfl⟩ := List.mem_map.1 hx
  rfl
theorem pgC_inj {a b : List UInt8} (h : pgC a = pgC b) : a = b := by
  unfold pgC at h
  have h2 := congrArg Array.toList h
  simp only [] at h2
  exact (List.map_inj_right (fun x y e => by injection e with _ e; exact UInt8.toNat_inj.1 (by omega))).1 h2
/-- A byte, of a value. -/
def u8Of : Value → Option UInt8
  | .int .u8 n => if n = ((UInt8.ofNat n.toNat).toNat : Int) then some (UInt8.ofNat n.toNat) else none
  | _ => none
theorem u8Of_mk (c : UInt8) : u8Of (.int .u8 (c.toNat : Int)) = some c := by simp [u8Of]
theorem u8Of_inv {v : Value} {c : UInt8} (h : u8Of v = some c) : v = .int .u8 (c.toNat : Int) := by
  unfold u8Of at h
  split at h
  · rename_i n
    split at h
    · rename_i e
      injection h with h
      rw [← h, ← e]
    · cases h
  · cases h
/-- What a page in the map reads as. -/
def pgR : Value → Option (DataW Unit × List MemPlace)
  | .agg cs => (cs.toList.mapM u8Of).map fun l => (.lit (.string l), [])
  | _ => none
theorem mapM_mk : ∀ l : List UInt8, (l.map fun c => Value.int .u8 (c.toNat : Int)).mapM u8Of = some l
  | [] => rfl
  | c :: l => by rw [List.map_cons, List.mapM_cons, u8Of_mk, mapM_mk l]; rfl
theorem mapM_inv : ∀ {cs : List Value} {l : List UInt8}, cs.mapM u8Of = some l → cs = l.map fun c => Value.int .u8 (c.toNat : Int)
  | [], l, h => by rw [List.mapM_nil] at h; injection h with h; rw [← h]; rfl
  | v :: cs, l, h => by
    rw [List.mapM_cons] at h
    cases e1 : u8Of v with
    | none => rw [e1] at h; cases h
    | some c =>
      cases e2 : cs.mapM u8Of with
      | none => rw [e1, e2] at h; cases h
      | some m =>
        rw [e1, e2] at h
        injection h with h
        rw [← h, List.map_cons, ← mapM_inv e2, ← u8Of_inv e1]
theorem pgR_mk (l : List UInt8) : pgR (pgV l) = some (.lit (.string l), []) := by
  show ((pgC l).toList.mapM u8Of).map _ = _
  unfold pgC
  rw [List.toList_toArray, mapM_mk]
  rfl
theorem pgR_inv {v : Value} {y : DataW Unit × List MemPlace} (h : pgR v = some y) : ∃ l, v = pgV l ∧ y = (.lit (.string l), []) := by
  unfold pgR at h
  split at h
  · rename_i cs
    cases e : cs.toList.mapM u8Of with
    | none => rw [e] at h; cases h
    | some l =>
      rw [e] at h
      injection h with h
      refine ⟨l, ?_, h.symm⟩
      unfold pgV pgC
      rw [← mapM_inv e, Array.toArray_toList]
  · cases h
def keyI (k : Nat) : Lit := .int .i64 (k : Int)
theorem keyI_inj {a b : Nat} (h : keyI a = keyI b) : a = b := by unfold keyI at h; injection h with _ h; omega
theorem keyI_of {k : Nat} (h : k ≤ 1000000) : keyOf Tryz.prog 3 (.int .i64 (k : Int)) = some (keyI k) := Maps.keyOf_int_mk Tryz.underlying3 (WalkArith.wf_i64 (by omega))
theorem keyI_is (k : Nat) : WideAt.IsKeyLit (keyI k) := trivial
theorem keysI : Keyed Tryz.prog 3 := Maps.int_keyed Tryz.underlying3
theorem zeroPg (w : World) : (zeroValue 161).run Tryz.prog w = .ok (pgV (List.replicate 60 0)) w := by kernel_rfl
theorem infoPg : (Tryz.prog.info? 161).map (·.size) = some 60 := by kernel_rfl

/-- A page's bytes, ahead of its sum. -/
def pgB (t : ByteArray) (k : Nat) : List UInt8 := (pgT t (k + 1)).data.toList.take 60
theorem pgB_length {t : ByteArray} {k : Nat} (h : pgW t (k + 1) = true) : (pgB t k).length = 60 := by
  unfold pgB
  rw [List.length_take, sl_size, pgT_size (pgW_iff.1 h).1]
  decide
theorem pgB_at {t : ByteArray} {k : Nat} (x : Nat) (hk : k = x / 480) : (pgB t k).getD (x / 8 % 60) 0 = byT t x := by
  have hi : x / 8 % 60 < 60 := Nat.mod_lt _ (by decide)
  unfold pgB byT
  rw [List.getD_eq_getElem?_getD, List.getD_eq_getElem?_getD, List.getElem?_take, if_pos hi, pgT_at _ _ _ (by omega), hk]
/-- A map has the pages that are whole, of the first m. -/
structure PgIs (D0 : DataW Unit) (t : ByteArray) (m : Nat) : Prop where
  yes : ∀ k, k < m → pgW t (k + 1) = true → ∀ zd, D0.atKey (keyI k) zd = .lit (.string (pgB t k))
  no : ∀ k, m ≤ k ∨ pgW t (k + 1) = false → Maps.has D0 (keyI k) = false
def MapPg (w : World) (mb : Nat) (t : ByteArray) (m : Nat) : Prop := ∃ D0, w.ownsMap Tryz.prog 3 pgR mb m D0 ∧ Maps.IsMap D0 ∧ PgIs D0 t m
section
variable {w w' : World} {mb m : Nat} {t : ByteArray}
theorem MapPg.lt (h : MapPg w mb t m) : mb < w.heap.size := by
  obtain ⟨D0, h1, h2⟩ := h
  exact h1.lt
theorem MapPg.of_block (h : MapPg w mb t m) (e : w'.heap[mb]? = w.heap[mb]?) : MapPg w' mb t m := by
  obtain ⟨D0, ⟨es, clock, hb, r⟩, h2⟩ := h
  exact ⟨D0, ⟨es, clock, e.trans hb, r⟩, h2⟩
theorem MapPg.below (h : MapPg w mb t m) (hb : Below w.heap.size w w') : MapPg w' mb t m := h.of_block (hb.block _ h.lt)
theorem MapPg.new (w : World) (t : ByteArray) : MapPg (w.alloc (.map #[] 0)) w.heap.size t 0 :=
  ⟨.map [], World.ownsMap_made w _ _ _, ⟨[], rfl⟩, fun k hk => by omega, fun k _ => rfl⟩
/-- The next page is not whole. -/
theorem MapPg.skip (h : MapPg w mb t m) (hn : pgW t (m + 1) = false) : MapPg w mb t (m + 1) := by
  obtain ⟨D0, h1, h2, h3⟩ := h
  refine ⟨D0, h1.mono (Nat.le_succ m), h2, fun k hk hw => ?_, fun k hk => ?_⟩
  · by_cases e : k = m
    · rw [e, hn] at hw; cases hw
    · exact h3.yes k (by omega) hw
  · refine h3.no k ?_
    rcases hk with hk | hk
    · exact Or.inl (by omega)
    · exact Or.inr hk
/-- A look-up. -/
theorem MapPg.look (h : MapPg w mb t m) {k : Nat} (hk : k ≤ 1000000) :
    (Instr.lookup 78 (.map (some mb)) (.int .i64 (k : Int)) true).run Tryz.prog w = .ok (.tuple #[pgV (if k < m ∧ pgW t (k + 1) = true then pgB t k else List.replicate 60 0), .bool (decide (k < m) && pgW t (k + 1))]) w := by
  obtain ⟨D0, ⟨es, clock, hb, F, _, rfl⟩, h2, h3⟩ := h
  rcases Maps.fit_look true keysI Tryz.underlying78 (zeroPg w) hb F (keyI_of hk) with ⟨hrun, _, hat⟩ | ⟨e0, y, _, _, hrun, hRv, hat, _⟩
  · have hno : ¬ (k < m ∧ pgW t (k + 1) = true) := fun hc => by
      have h4 := h3.yes k hc.1 hc.2
      have h5 := h4 (.lit (.int .i64 0))
      rw [hat] at h5
      cases h5
    rw [hrun, if_neg hno]
    have : (decide (k < m) && pgW t (k + 1)) = false := by
      by_cases c : k < m
      · rw [decide_eq_true c, Bool.true_and]; exact Bool.eq_false_iff.2 (fun e => hno ⟨c, e⟩)
      · rw [decide_eq_false c, Bool.false_and]
    rw [this]
    rfl
  · have hyes : k < m ∧ pgW t (k + 1) = true := by
      refine Classical.byContradiction fun hc => ?_
      have h4 := h3.no k (by
        by_cases c : k < m
        · exact Or.inr (Bool.eq_false_iff.2 (fun e => hc ⟨c, e⟩))
        · exact Or.inl (by omega))
      rw [Maps.has_true_of_atKey hat] at h4
      cases h4
    have h4 := h3.yes k hyes.1 hyes.2 (.lit (.int .i64 0))
    rw [hat] at h4
    obtain ⟨l, e1, rfl⟩ := pgR_inv hRv
    simp only [DataW.lit.injEq, Lit.string.injEq] at h4
    rw [hrun, if_pos hyes, decide_eq_true hyes.1, hyes.2, e1, h4]
    rfl
/-- The next page is whole. -/
theorem MapPg.put (h : MapPg w mb t m) (hm : m ≤ 1000000) (hw : pgW t (m + 1) = true) : ∃ w', (Instr.mapUpdate 78 (.map (some mb)) (.int .i64 (m : Int)) (pgV (pgB t m))).run Tryz.prog w = .ok () w' ∧ MapPg w' mb t (m + 1) ∧ w.grownBy w' (some mb) := by
  obtain ⟨D0, h1, h2, h3⟩ := h
  obtain ⟨w', hr, ho, hg⟩ := h1.update keysI Tryz.underlying78 (by unfold maxLen; omega) (keyI_of hm) (pgR_mk (pgB t m))
  refine ⟨w', hr, ⟨_, ho, h2.put _ _, fun k hk hkw => ?_, fun k hk => ?_⟩, hg⟩
  · intro zd
    by_cases e : k = m
    · subst e
      exact Maps.atKey_put_same h2 (keyI_is k) _ zd
    · rw [Maps.atKey_put_other (fun he => e (keyI_inj he))]
      exact h3.yes k (by omega) hkw zd
  · by_cases e : k = m
    · subst e
      rcases hk with hk | hk
      · omega
      · rw [hw] at hk; cases hk
    · rw [Maps.has_put_other (fun he => e (keyI_inj he))]
      refine h3.no k ?_
      rcases hk with hk | hk
      · exact Or.inl (by omega)
      · exact Or.inr hk
end
/-- A filter, as it was loaded of a file's bytes. -/
def FilterAt (w : World) (f : Value) (t : ByteArray) : Prop :=
  (hdOk t = false ∧ f = .agg #[.int .i64 0, .int .i64 0, .map none]) ∨
  (hdOk t = true ∧ ∃ mb, f = .agg #[.int .i64 (hpT t : Nat), .int .i64 (hnT t : Nat), .map (some mb)] ∧ MapPg w mb t (hnT t / 60))
theorem FilterAt.below {w w' : World} {f : Value} {t : ByteArray} (h : FilterAt w f t) (hb : Below w.heap.size w w') : FilterAt w' f t := by
  rcases h with h | ⟨h, mb, e, hm⟩
  · exact Or.inl h
  · exact Or.inr ⟨h, mb, e, hm.below hb⟩
theorem FilterAt.none (w : World) : FilterAt w (.agg #[.int .i64 0, .int .i64 0, .map none]) ByteArray.empty := Or.inl ⟨hdOk_short (by decide), rfl⟩
end Go.Proofs.YtmbhafabphogdaaGreat

/- PgMay -/
namespace Go.Proofs.YtmbhafabphogdaaGreat
open Go.RowKit
set_option linter.unusedVariables false

theorem off_bit (c k : Nat) (hc : c < 256) : (bits .and .u8 ((c : Int) / 2 ^ k) 1 == 0) = !c.testBit k := by
  have h1 : (c : Int) / 2 ^ k = ((c / 2 ^ k : Nat) : Int) := by simp
  rw [h1, show (1 : Int) = ((1 : Nat) : Int) from rfl, u8_and_nat _ _ (Nat.lt_of_le_of_lt (Nat.div_le_self _ _) hc) (by decide), Nat.and_one_is_mod]
  have h2 := bit_shift (c := c) (k := k)
  cases hb : c.testBit k with
  | true => rw [h2.2 hb]; rfl
  | false =>
    have h3 : ¬ c / 2 ^ k % 2 = 1 := fun e => by rw [h2.1 e] at hb; cases hb
    have h4 : c / 2 ^ k % 2 = 0 := by omega
    rw [h4]
    rfl

set_option maxHeartbeats 1000000 in
set_option maxRecDepth 100000 in
theorem off_at (mb x : Nat) (p n : Int) (C : Array Value) (q r : Bool) (c : Nat) (w : World) (hx2 : x ≤ 10000000) (hC : C.size = 60) (h1 : C.all (·.oneCell') = true) (hc256 : c < 256)
    (hl : ∀ W, Below w.heap.size w W → (Instr.lookup 78 (.map (some mb)) (.int .i64 ((x : Int) / 480)) true).run Tryz.prog W = .ok (.tuple #[.agg C, .bool q]) W)
    (hcase : (q = false ∧ r = false) ∨ (q = true ∧ C[x % 480 / 8]? = some (.int .u8 (c : Nat)) ∧ r = !c.testBit (x % 8))) :
    Calls Tryz.prog 98 #[.agg #[.int .i64 p, .int .i64 n, .map (some mb)], .int .i64 (x : Nat)] w fun e w' => e = .returned (.bool r) ∧ Below w.heap.size w w' := by
  have hb1 : Below w.heap.size w (w.alloc (.cells #[.int .i64 p, .int .i64 n, .map (some mb)] 80)) := (Below.refl _ _).alloc (Nat.le_refl _) _
  have H1 := hl _ hb1
  have c0 : (w.alloc (.cells #[.int .i64 p, .int .i64 n, .map (some mb)] 80)).cell? ⟨w.heap.size, 2, none⟩ = some (.map (some mb)) := (Blok.new w _ _).cell 2
  obtain ⟨w1, hw1⟩ : ∃ w1, w.alloc (.cells #[.int .i64 p, .int .i64 n, .map (some mb)] 80) = w1 := ⟨_, rfl⟩
  rw [hw1] at hb1 H1 c0
  have H2 := run_storeCells_new (P := Tryz.prog) w1 161 (pgC (List.replicate 60 0)) C (by rw [hC]; exact infoPg) (by rw [hC, pgC_size]; rfl) h1
  have e0 : pgC (List.replicate 60 0) = #[.int .u8 0, .int .u8 0, .int .u8 0, .int .u8 0, .int .u8 0, .int .u8 0, .int .u8 0, .int .u8 0, .int .u8 0, .int .u8 0, .int .u8 0, .int .u8 0, .int .u8 0, .int .u8 0, .int .u8 0, .int .u8 0, .int .u8 0, .int .u8 0, .int .u8 0, .int .u8 0, .int .u8 0, .int .u8 0, .int .u8 0, .int .u8 0, .int .u8 0, .int .u8 0, .int .u8 0, .int .u8 0, .int .u8 0, .int .u8 0, .int .u8 0, .int .u8 0, .int .u8 0, .int .u8 0, .int .u8 0, .int .u8 0, .int .u8 0, .int .u8 0, .int .u8 0, .int .u8 0, .int .u8 0, .int .u8 0, .int .u8 0, .int .u8 0, .int .u8 0, .int .u8 0, .int .u8 0, .int .u8 0, .int .u8 0, .int .u8 0, .int .u8 0, .int .u8 0, .int .u8 0, .int .u8 0, .int .u8 0, .int .u8 0, .int .u8 0, .int .u8 0, .int .u8 0, .int .u8 0] := by rfl
  rw [e0] at H2
  have HC := fun i v (h : C[i]? = some v) => ((Blok.new w1 161 C).cell i).trans h
  have hb2 : Below w.heap.size w (w1.alloc (.cells C 161)) := hb1.alloc hb1.size _
  rcases hcase with ⟨rfl, rfl⟩ | ⟨rfl, hc, rfl⟩
  · have HB := Lib.hid hb2
    clear hl HC h1 hb1 hb2 e0
    go_enter Tryz.func98, Tryz.ntmps98
    go_wp2
    go_ret
    exact ⟨rfl, HB.out⟩
  · have H3 := HC _ _ hc
    obtain ⟨w2, hw2⟩ : ∃ w2, w1.alloc (.cells C 161) = w2 := ⟨_, rfl⟩
    rw [hw2] at hb2 H2 H3
    have HB := Lib.hid hb2
    obtain ⟨i, hi⟩ : ∃ i : Nat, x % 480 / 8 = i := ⟨_, rfl⟩
    obtain ⟨y, hy⟩ : ∃ y : Nat, x % 480 = y := ⟨_, rfl⟩
    have ei : ((x : Int) % 480) = (y : Int) := by omega
    have ei2 : ((y : Int) / 8) = (i : Int) := by omega
    rw [hi] at H3
    clear hl HC h1 hb1 hb2 e0 hc hi
    go_enter Tryz.func98, Tryz.ntmps98
    go_wp2
    go_ret
    refine ⟨ret_bool ?_, HB.out⟩
    rw [show x % 8 = y % 8 by omega]
    exact off_bit c (y % 8) hc256

theorem offT_look {t : ByteArray} {m x : Nat} (hx : x / 480 < m) (l : List UInt8) (q : Bool) (hl : l = if x / 480 < m ∧ pgW t (x / 480 + 1) = true then pgB t (x / 480) else List.replicate 60 0) (hq : q = (decide (x / 480 < m) && pgW t (x / 480 + 1))) :
    l.length = 60 ∧ ((q = false ∧ offT t x = false) ∨ (q = true ∧ (pgC l)[x % 480 / 8]? = some (.int .u8 ((byT t x).toNat : Nat)) ∧ offT t x = !(byT t x).toNat.testBit (x % 8))) := by
  rw [decide_eq_true hx, Bool.true_and] at hq
  by_cases h : pgW t (x / 480 + 1) = true
  · rw [if_pos ⟨hx, h⟩] at hl
    have h60 : l.length = 60 := by rw [hl]; exact pgB_length h
    refine ⟨h60, Or.inr ⟨by rw [hq, h], ?_, ?_⟩⟩
    · rw [pgC_at l (by omega), ← pgB_at x rfl, hl, show x % 480 / 8 = x / 8 % 60 by omega]
    · unfold offT bitT
      rw [h, Bool.true_and]
  · rw [if_neg (fun c => h c.2)] at hl
    have h' := Bool.eq_false_iff.2 h
    exact ⟨by rw [hl, List.length_replicate], Or.inl ⟨by rw [hq, h'], by unfold offT; rw [h', Bool.false_and]⟩⟩
theorem off_any (mb m x : Nat) (p n : Int) (t : ByteArray) (w : World) (hm : MapPg w mb t m) (hx : x / 480 < m) (hx2 : x ≤ 10000000) :
    Calls Tryz.prog 98 #[.agg #[.int .i64 p, .int .i64 n, .map (some mb)], .int .i64 (x : Nat)] w fun e w' => e = .returned (.bool (offT t x)) ∧ Below w.heap.size w w' := by
  obtain ⟨h60, h⟩ := offT_look (t := t) hx _ _ rfl rfl
  exact off_at mb x p n (pgC _) _ (offT t x) (byT t x).toNat w hx2 (by rw [pgC_size, h60]) (pgC_one _) (UInt8.toNat_lt _)
    (fun W hW => by
      have := (hm.below hW).look (k := x / 480) (by omega)
      rw [Int.natCast_ediv] at this
      exact this) h

theorem asks_mem {g : Nat} {p b : Int} {i : Nat} (hi : i < nps p) : prb g (i : Nat) b ∈ asksL g p b := asksL_mem.2 ⟨i, hi, rfl⟩
theorem may_none (g : Nat) (w : World) : Calls Tryz.prog 68 #[.agg #[.int .i64 0, .int .i64 0, .map none], .int .u64 (g : Nat)] w fun e w' => e = .returned (.bool true) ∧ Below w.heap.size w w' := by
  have hb1 : Below w.heap.size w (w.alloc (.cells #[.int .i64 0, .int .i64 0, .map none] 80)) := (Below.refl _ _).alloc (Nat.le_refl _) _
  go_enter Tryz.func68, Tryz.ntmps68
  go_wp2
  refine wp_loop_rounds 1 ?_
  rw [rounds_succ]
  go_wp2
  go_ret
  exact ⟨rfl, hb1⟩
theorem held_cells {w wr : World} {g : Nat} {t : TypeId} {cs : Array Value} (h : Blok wr g t cs) : ∀ W, Below wr.heap.size wr W → Below wr.heap.size wr W ∧ W.cell? ⟨g, 0, none⟩ = cs[0]? ∧ W.cell? ⟨g, 1, none⟩ = cs[1]? ∧ W.cell? ⟨g, 2, none⟩ = cs[2]? := fun W hW =>
  have h2 : Blok W g t cs := (hW.block _ h.lt).trans h
  ⟨hW, h2.cell 0, h2.cell 1, h2.cell 2⟩
set_option maxHeartbeats 2000000 in
set_option maxRecDepth 100000 in
theorem may_some (mb g p n : Nat) (t : ByteArray) (r : Bool) (w : World) (hg : g < 18446744073709551616) (hm : MapPg w mb t (n / 60)) (hn : 60 ≤ n ∧ n ≤ 120000 ∧ n % 60 = 0) (hp : p ≤ 16)
    (Hyes : (∀ k ∈ asksL g p ((8 * n : Nat) : Int), offT t k = false) → r = true) (Hno : ∀ k ∈ asksL g p ((8 * n : Nat) : Int), offT t k = true → r = false) :
    Calls Tryz.prog 68 #[.agg #[.int .i64 (p : Nat), .int .i64 (n : Nat), .map (some mb)], .int .u64 (g : Nat)] w fun e w' => e = .returned (.bool r) ∧ Below w.heap.size w w' := by
  have hnp : nps (p : Nat) = p := by unfold nps; omega
  obtain ⟨b, hb⟩ : ∃ b : Int, ((8 * n : Nat) : Int) = b := ⟨_, rfl⟩
  have eb : 8 * (n : Int) = b := by omega
  have wb : (Lit.int .i64 b).wf = true := WalkArith.wf_i64 (by omega)
  rw [hb] at Hyes Hno
  have HYES := Lib.hid Hyes
  have HNO := Lib.hid Hno
  have HPR := Lib.hid fun (i : Nat) (W : World) (hi : i < 64) => probe_any g (i : Nat) b W hg (WalkArith.wf_i64 (by omega)) wb
  have hlt : ∀ i : Nat, prb g (i : Nat) b / 480 < n / 60 ∧ prb g (i : Nat) b ≤ 10000000 := fun i => by
    have := prb_lt g (i : Nat) (show 1 ≤ b by omega)
    omega
  have HLT := Lib.hid hlt
  have hB1 : Blok (w.alloc (.cells #[.int .i64 (p : Nat), .int .i64 (n : Nat), .map (some mb)] 80)) w.heap.size 80 #[.int .i64 (p : Nat), .int .i64 (n : Nat), .map (some mb)] := Blok.new w _ _
  have hb1 : Below w.heap.size w (w.alloc (.cells #[.int .i64 (p : Nat), .int .i64 (n : Nat), .map (some mb)] 80)) := (Below.refl _ _).alloc (Nat.le_refl _) _
  have hm1 := hm.below hb1
  obtain ⟨w1, hw1⟩ : ∃ w1, w.alloc (.cells #[.int .i64 (p : Nat), .int .i64 (n : Nat), .map (some mb)] 80) = w1 := ⟨_, rfl⟩
  rw [hw1] at hB1 hb1 hm1
  have c0 : w1.cell? ⟨w.heap.size, 0, none⟩ = some (.int .i64 (p : Nat)) := hB1.cell 0
  have c1 : w1.cell? ⟨w.heap.size, 1, none⟩ = some (.int .i64 (n : Nat)) := hB1.cell 1
  have HH := Lib.hid (show Blok w1 w.heap.size _ _ ∧ MapPg w1 mb t (n / 60) ∧ Below w.heap.size w w1 from ⟨hB1, hm1, hb1⟩)
  clear hB1 hb1 hm1 hlt Hyes Hno hb wb hm
  go_enter Tryz.func68, Tryz.ntmps68
  go_wp2
  clear c0 c1
  go_loopw [8] (fun v wr => ∃ k : Nat, k ≤ p ∧ v = .int .i64 k ∧ (∀ j, j < k → offT t (prb g (j : Nat) b) = false) ∧ Below w1.heap.size w1 wr) (fun v _ => p - (intOf v).toNat)
  case atStart => exact ⟨0, Nat.zero_le _, rfl, fun j hj => by omega, Below.refl _ _⟩
  case round =>
    obtain ⟨k, hk, rfl, hall, hbel⟩ := hrel
    have HALL := Lib.hid hall
    have HBEL := Lib.hid hbel
    clear hall hbel
    by_cases hlt : k < p
    · have HK := Lib.hid fun W => HPR.out k W (by omega)
      have hx := HLT.out k
      have hmr := HH.out.2.1.below HBEL.out
      have hBr : Blok wr w.heap.size _ _ := (HBEL.out.block _ HH.out.1.lt).trans HH.out.1
      have HS := Lib.hid (show ∀ W, Below wr.heap.size wr W → Below wr.heap.size wr W ∧ W.cell? ⟨w.heap.size, 0, none⟩ = some (.int .i64 (p : Nat)) ∧ W.cell? ⟨w.heap.size, 1, none⟩ = some (.int .i64 (n : Nat)) ∧ W.cell? ⟨w.heap.size, 2, none⟩ = some (.map (some mb)) from held_cells (w := w) hBr)
      have hmem := Lib.hid (asks_mem (g := g) (p := (p : Nat)) (b := b) (i := k) (by rw [hnp]; exact hlt))
      have c0 : wr.cell? ⟨w.heap.size, 0, none⟩ = some (.int .i64 (p : Nat)) := hBr.cell 0
      have c1 : wr.cell? ⟨w.heap.size, 1, none⟩ = some (.int .i64 (n : Nat)) := hBr.cell 1
      have c2 : wr.cell? ⟨w.heap.size, 2, none⟩ = some (.map (some mb)) := hBr.cell 2
      obtain ⟨x, hxe⟩ : ∃ x, prb g (k : Nat) b = x := ⟨_, rfl⟩
      have HXE := Lib.hid hxe
      rw [hxe] at HK hx hmem
      have HO := Lib.hid fun W (hW : Below wr.heap.size wr W) => (off_any mb (n / 60) x (p : Nat) (n : Nat) t W (hmr.below hW) hx.1 hx.2)
      have HQ := Lib.hid (show offT t x = offT t x from rfl)
      obtain ⟨q, hq⟩ : ∃ q, offT t x = q := ⟨_, rfl⟩
      have HQ := Lib.hid hq
      rw [hq] at HO
      have s5 : (k : Int) < (p : Int) := by omega
      have ewb : IntKind.i64.wrap b = b := by rw [IntKind.wrap_i64]; omega
      clear hxe hx hmr hBr hq
      go_wp2_with fail
      go_region_held3 (fun W => Below wr.heap.size wr W ∧ W.cell? ⟨w.heap.size, 0, none⟩ = some (.int .i64 (p : Nat)) ∧ W.cell? ⟨w.heap.size, 1, none⟩ = some (.int .i64 (n : Nat)) ∧ W.cell? ⟨w.heap.size, 2, none⟩ = some (.map (some mb)))
        (first | (with_reducible assumption) | ((with_reducible refine HS.out _ ?_); (repeat' (first | (with_reducible assumption) | (with_reducible exact Below.refl _ _) | (with_reducible refine Below.drew ?_))); done) | fail)
        (first
        | (go_at_call 99; ((with_reducible refine (HK.out _).mono ?_); rintro e w' ⟨rfl, rfl⟩))
        | (go_at_call 98; ((with_reducible refine (HO.out _ (And.left (by with_reducible assumption))).mono ?_); rintro e w' ⟨rfl, hb⟩; have hB2 := bj (And.left (by with_reducible assumption)) hb))
        | fail)
      cases q with
      | true =>
        have hr := HNO.out x hmem.out HQ.out
        subst hr
        go_wp2
        go_ret
        exact ⟨rfl, HH.out.2.2.trans ((HBEL.out.trans ((And.left (‹Below wr.heap.size wr _ ∧ _›)).mono HBEL.out.size)).mono HH.out.2.2.size)⟩
      | false =>
        go_wp2
        go_roundw
        case rel =>
          refine ⟨k + 1, hlt, by go_num, fun j hj => ?_, HBEL.out.trans ((And.left (‹Below wr.heap.size wr _ ∧ _›)).mono HBEL.out.size)⟩
          by_cases e : j = k
          · rw [e, HXE.out]
            exact HQ.out
          · exact HALL.out j (by omega)
        case measure => simp [intOf]; omega
    · have hr : r = true := HYES.out fun x hx => by
        obtain ⟨i, hi, rfl⟩ := asksL_mem.1 hx
        rw [hnp] at hi
        exact HALL.out i (by omega)
      subst hr
      have s5 : (p : Int) ≤ (k : Int) := by omega
      go_wp2
      go_ret
      exact ⟨rfl, HH.out.2.2.trans (HBEL.out.mono HH.out.2.2.size)⟩
theorem fmay_any (f : Value) (g : Nat) (t : ByteArray) (w : World) (hg : g < 18446744073709551616) (h : FilterAt w f t) :
    Calls Tryz.prog 68 #[f, .int .u64 (g : Nat)] w fun e w' => e = .returned (.bool (mayT t g)) ∧ Below w.heap.size w w' := by
  rcases h with ⟨h, rfl⟩ | ⟨h, mb, rfl, hm⟩
  · rw [mayT_no h]
    exact may_none g w
  · obtain ⟨g1, g2, g3, g4, g5⟩ := pgOk_iff.1 (hdOk_iff.1 h).2.1
    exact may_some mb g _ _ t (mayT t g) w hg hm (by omega) (by omega) mayT_all fun k hk ho => mayT_one h hk ho
end Go.Proofs.YtmbhafabphogdaaGreat
