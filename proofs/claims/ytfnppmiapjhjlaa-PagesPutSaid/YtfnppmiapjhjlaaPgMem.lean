/- A filter in memory: pages as values, the map of those that are whole. -/
import Derived.Test.YtfnppmiapjhjlaaPgMath
import Derived.Test.YtfnppmiapjhjlaaBase
import Derived.Maps.RangeWalk
import Derived.Deep.WholeRow
namespace Go.Proofs.Ytfnppmiapjhjlaa
open Go.RowKit
open Go.Maps (Keyed)
set_option linter.unusedVariables false

/-- The cells of a page. -/
def pgC (l : List UInt8) : Array Value := (l.map fun c => Value.int .u8 (c.toNat : Int)).toArray
/-- A page, as a value. -/
def pgV (l : List UInt8) : Value := .agg (pgC l)
theorem pgC_size (l : List UInt8) : (pgC l).size = l.length := by unfold pgC; rw [List.size_toArray, List.length_map]
theorem pgC_at (l : List UInt8) {i : Nat} (hi : i < l.length) : (pgC l)[i]? = some (.int .u8 ((l.getD i 0).toNat : Int)) := by
  unfold pgC
  rw [List.getElem?_toArray, List.getElem?_map, List.getD_eq_getElem?_getD, List.getElem?_eq_getElem hi]
  rfl
theorem pgC_one (l : List UInt8) : (pgC l).all (·.oneCell') = true := by
  unfold pgC
  rw [List.all_toArray, List.all_eq_true]
  intro x hx
  obtain ⟨c, _, rfl⟩ := List.mem_map.1 hx
  rfl
theorem pgC_inj {a b : List UInt8} (h : pgC a = pgC b) : a = b := by
  unfold pgC at h
  have h2 := congrArg Array.toList h
  simp only [] at h2
  exact (List.map_inj_right (fun x y e => by injection e with _ e; exact UInt8.toNat_inj.1 (by omega))).1 h2
/-- A byte, of a value. -/
def u8Of : Value → Option UInt8
  | .int .u8 n => if n = ((UInt8.ofNat n.toNat).toNat : Int) then some (UInt8.ofNat n.toNat) else none
  | _ => none
theorem u8Of_mk (c : UInt8) : u8Of (.int .u8 (c.toNat : Int)) = some c := by simp [u8Of]
theorem u8Of_inv {v : Value} {c : UInt8} (h : u8Of v = some c) : v = .int .u8 (c.toNat : Int) := by
  unfold u8Of at h
  split at h
  · rename_i n
    split at h
    · rename_i e
      injection h with h
      rw [← h, ← e]
    · cases h
  · cases h
/-- What a page in the map reads as. -/
def pgR : Value → Option (DataW Unit × List MemPlace)
  | .agg cs => (cs.toList.mapM u8Of).map fun l => (.lit (.string l), [])
  | _ => none
theorem mapM_mk : ∀ l : List UInt8, (l.map fun c => Value.int .u8 (c.toNat : Int)).mapM u8Of = some l
  | [] => rfl
  | c :: l => by rw [List.map_cons, List.mapM_cons, u8Of_mk, mapM_mk l]; rfl
theorem mapM_inv : ∀ {cs : List Value} {l : List UInt8}, cs.mapM u8Of = some l → cs = l.map fun c => Value.int .u8 (c.toNat : Int)
  | [], l, h => by rw [List.mapM_nil] at h; injection h with h; rw [← h]; rfl
  | v :: cs, l, h => by
    rw [List.mapM_cons] at h
    cases e1 : u8Of v with
    | none => rw [e1] at h; cases h
    | some c =>
      cases e2 : cs.mapM u8Of with
      | none => rw [e1, e2] at h; cases h
      | some m =>
        rw [e1, e2] at h
        injection h with h
        rw [← h, List.map_cons, ← mapM_inv e2, ← u8Of_inv e1]
theorem pgR_mk (l : List UInt8) : pgR (pgV l) = some (.lit (.string l), []) := by
  show ((pgC l).toList.mapM u8Of).map _ = _
  unfold pgC
  rw [List.toList_toArray, mapM_mk]
  rfl
theorem pgR_inv {v : Value} {y : DataW Unit × List MemPlace} (h : pgR v = some y) : ∃ l, v = pgV l ∧ y = (.lit (.string l), []) := by
  unfold pgR at h
  split at h
  · rename_i cs
    cases e : cs.toList.mapM u8Of with
    | none => rw [e] at h; cases h
    | some l =>
      rw [e] at h
      injection h with h
      refine ⟨l, ?_, h.symm⟩
      unfold pgV pgC
      rw [← mapM_inv e, Array.toArray_toList]
  · cases h
def keyI (k : Nat) : Lit := .int .i64 (k : Int)
theorem keyI_inj {a b : Nat} (h : keyI a = keyI b) : a = b := by unfold keyI at h; injection h with _ h; omega
theorem keyI_of {k : Nat} (h : k ≤ 1000000) : keyOf Try.prog 3 (.int .i64 (k : Int)) = some (keyI k) := Maps.keyOf_int_mk Try.underlying3 (WalkArith.wf_i64 (by omega))
theorem keyI_is (k : Nat) : WideAt.IsKeyLit (keyI k) := trivial
theorem keysI : Keyed Try.prog 3 := Maps.int_keyed Try.underlying3
theorem zeroPg (w : World) : (zeroValue 63).run Try.prog w = .ok (pgV (List.replicate 60 0)) w := by kernel_rfl
theorem infoPg : (Try.prog.info? 63).map (·.size) = some 60 := by kernel_rfl

/-- A page's bytes, ahead of its sum. -/
def pgB (t : ByteArray) (k : Nat) : List UInt8 := (pgT t (k + 1)).data.toList.take 60
theorem pgB_length {t : ByteArray} {k : Nat} (h : pgW t (k + 1) = true) : (pgB t k).length = 60 := by
  unfold pgB
  rw [List.length_take, dl_size, pgT_size (pgW_iff.1 h).1]
  decide
theorem pgB_at {t : ByteArray} {k : Nat} (x : Nat) (hk : k = x / 480) : (pgB t k).getD (x / 8 % 60) 0 = byT t x := by
  have hi : x / 8 % 60 < 60 := Nat.mod_lt _ (by decide)
  unfold pgB byT
  rw [List.getD_eq_getElem?_getD, List.getD_eq_getElem?_getD, List.getElem?_take, if_pos hi, pgT_at _ _ _ (by omega), hk]
/-- A map has the pages that are whole, of the first m. -/
structure PgIs (D0 : DataW Unit) (t : ByteArray) (m : Nat) : Prop where
  yes : ∀ k, k < m → pgW t (k + 1) = true → ∀ zd, D0.atKey (keyI k) zd = .lit (.string (pgB t k))
  no : ∀ k, m ≤ k ∨ pgW t (k + 1) = false → Maps.has D0 (keyI k) = false
def MapPg (w : World) (mb : Nat) (t : ByteArray) (m : Nat) : Prop := ∃ D0, w.ownsMap Try.prog 3 pgR mb m D0 ∧ Maps.IsMap D0 ∧ PgIs D0 t m
section
variable {w w' : World} {mb m : Nat} {t : ByteArray}
theorem MapPg.lt (h : MapPg w mb t m) : mb < w.heap.size := by
  obtain ⟨D0, h1, h2⟩ := h
  exact h1.lt
theorem MapPg.of_block (h : MapPg w mb t m) (e : w'.heap[mb]? = w.heap[mb]?) : MapPg w' mb t m := by
  obtain ⟨D0, ⟨es, clock, hb, r⟩, h2⟩ := h
  exact ⟨D0, ⟨es, clock, e.trans hb, r⟩, h2⟩
theorem MapPg.below (h : MapPg w mb t m) (hb : Below w.heap.size w w') : MapPg w' mb t m := h.of_block (hb.block _ h.lt)
theorem MapPg.new (w : World) (t : ByteArray) : MapPg (w.alloc (.map #[] 0)) w.heap.size t 0 :=
  ⟨.map [], World.ownsMap_made w _ _ _, ⟨[], rfl⟩, fun k hk => by omega, fun k _ => rfl⟩
/-- The next page is not whole. -/
theorem MapPg.skip (h : MapPg w mb t m) (hn : pgW t (m + 1) = false) : MapPg w mb t (m + 1) := by
  obtain ⟨D0, h1, h2, h3⟩ := h
  refine ⟨D0, h1.mono (Nat.le_succ m), h2, fun k hk hw => ?_, fun k hk => ?_⟩
  · by_cases e : k = m
    · rw [e, hn] at hw; cases hw
    · exact h3.yes k (by omega) hw
  · refine h3.no k ?_
    rcases hk with hk | hk
    · exact Or.inl (by omega)
    · exact Or.inr hk
/-- A look-up. -/
theorem MapPg.look (h : MapPg w mb t m) {k : Nat} (hk : k ≤ 1000000) :
    (Instr.lookup 26 (.map (some mb)) (.int .i64 (k : Int)) true).run Try.prog w = .ok (.tuple #[pgV (if k < m ∧ pgW t (k + 1) = true then pgB t k else List.replicate 60 0), .bool (decide (k < m) && pgW t (k + 1))]) w := by
  obtain ⟨D0, ⟨es, clock, hb, F, _, rfl⟩, h2, h3⟩ := h
  rcases Maps.fit_look true keysI Try.underlying26 (zeroPg w) hb F (keyI_of hk) with ⟨hrun, _, hat⟩ | ⟨e0, y, _, _, hrun, hRv, hat, _⟩
  · have hno : ¬ (k < m ∧ pgW t (k + 1) = true) := fun hc => by
      have h4 := h3.yes k hc.1 hc.2
      have h5 := h4 (.lit (.int .i64 0))
      rw [hat] at h5
      cases h5
    rw [hrun, if_neg hno]
    have : (decide (k < m) && pgW t (k + 1)) = false := by
      by_cases c : k < m
      · rw [decide_eq_true c, Bool.true_and]; exact Bool.eq_false_iff.2 (fun e => hno ⟨c, e⟩)
      · rw [decide_eq_false c, Bool.false_and]
    rw [this]
    rfl
  · have hyes : k < m ∧ pgW t (k + 1) = true := by
      refine Classical.byContradiction fun hc => ?_
      have h4 := h3.no k (by
        by_cases c : k < m
        · exact Or.inr (Bool.eq_false_iff.2 (fun e => hc ⟨c, e⟩))
        · exact Or.inl (by omega))
      rw [Maps.has_true_of_atKey hat] at h4
      cases h4
    have h4 := h3.yes k hyes.1 hyes.2 (.lit (.int .i64 0))
    rw [hat] at h4
    obtain ⟨l, e1, rfl⟩ := pgR_inv hRv
    simp only [DataW.lit.injEq, Lit.string.injEq] at h4
    rw [hrun, if_pos hyes, decide_eq_true hyes.1, hyes.2, e1, h4]
    rfl
/-- The next page is whole. -/
theorem MapPg.put (h : MapPg w mb t m) (hm : m ≤ 1000000) (hw : pgW t (m + 1) = true) : ∃ w', (Instr.mapUpdate 26 (.map (some mb)) (.int .i64 (m : Int)) (pgV (pgB t m))).run Try.prog w = .ok () w' ∧ MapPg w' mb t (m + 1) ∧ w.grownBy w' (some mb) := by
  obtain ⟨D0, h1, h2, h3⟩ := h
  obtain ⟨w', hr, ho, hg⟩ := h1.update keysI Try.underlying26 (by unfold maxLen; omega) (keyI_of hm) (pgR_mk (pgB t m))
  refine ⟨w', hr, ⟨_, ho, h2.put _ _, fun k hk hkw => ?_, fun k hk => ?_⟩, hg⟩
  · intro zd
    by_cases e : k = m
    · subst e
      exact Maps.atKey_put_same h2 (keyI_is k) _ zd
    · rw [Maps.atKey_put_other (fun he => e (keyI_inj he))]
      exact h3.yes k (by omega) hkw zd
  · by_cases e : k = m
    · subst e
      rcases hk with hk | hk
      · omega
      · rw [hw] at hk; cases hk
    · rw [Maps.has_put_other (fun he => e (keyI_inj he))]
      refine h3.no k ?_
      rcases hk with hk | hk
      · exact Or.inl (by omega)
      · exact Or.inr hk
end
/-- A filter, as it was loaded of a file's bytes. -/
def FilterAt (w : World) (f : Value) (t : ByteArray) : Prop :=
  (hdOk t = false ∧ f = .agg #[.int .i64 0, .int .i64 0, .map none]) ∨
  (hdOk t = true ∧ ∃ mb, f = .agg #[.int .i64 (hpT t : Nat), .int .i64 (hnT t : Nat), .map (some mb)] ∧ MapPg w mb t (hnT t / 60))
theorem FilterAt.below {w w' : World} {f : Value} {t : ByteArray} (h : FilterAt w f t) (hb : Below w.heap.size w w') : FilterAt w' f t := by
  rcases h with h | ⟨h, mb, e, hm⟩
  · exact Or.inl h
  · exact Or.inr ⟨h, mb, e, hm.below hb⟩
theorem FilterAt.none (w : World) : FilterAt w (.agg #[.int .i64 0, .int .i64 0, .map none]) ByteArray.empty := Or.inl ⟨hdOk_short (by decide), rfl⟩
end Go.Proofs.Ytfnppmiapjhjlaa
