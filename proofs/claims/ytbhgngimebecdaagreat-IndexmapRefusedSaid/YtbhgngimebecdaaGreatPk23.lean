/- ImApi, ImUse, ImStrs -/
import Derived.Test.YtbhgngimebecdaaGreatPk18
import Derived.Test.YtbhgngimebecdaaGreatPk17
import Derived.Test.YtbhgngimebecdaaGreatPk22
import Derived.Test.YtbhgngimebecdaaGreatPk02
import Derived.Test.YtbhgngimebecdaaGreatPk09
import Derived.Test.YtbhgngimebecdaaGreatPk06
import Derived.BigQuiet
import Derived.WalkMore
/- ImApi -/
namespace Go.Proofs.YtbhgngimebecdaaGreat
open Go.RowKit
set_option linter.unusedVariables false
set_option maxRecDepth 100000

/-- Levels that a value has, as long as what was there at first, and these blocks, are as they were. -/
def Holds (w0 : World) (E : List Nat) (w : World) (v : Value) (R : LvL) : Prop := ∀ W, Below w0.heap.size w0 W → Kept E w W → LvsHas W v R
section
variable {At : Lies} {w0 w w' : World} {gd : Nat} {D : DiskS} {E E' : List Nat} {v : Value} {R : LvL}
theorem Holds.now (h : Holds w0 E w v R) (hd : DS At w0 gd D E w) : LvsHas w v R := h w hd.kept (Kept.refl _ _)
theorem Holds.step (h : Holds w0 E w v R) (hk : Kept E w w') : Holds w0 E w' v R := fun W hb k => h W hb (hk.trans k)
theorem Holds.of_in (h : LvsHas w0 v R) : Holds w0 E w v R := fun W hb _ => h.below hb (Nat.le_refl _)
theorem Holds.more (h : Holds w0 E w v R) (hE : ∀ b ∈ E, b ∈ E') : Holds w0 E' w v R := fun W hb k => h W hb (k.less hE)
end
/-- What Load tells. -/
def ImLoadEnd (At : Lies) (w0 : World) (gd : Nat) (D : DiskS) (E : List Nat) (w : World) (e : Ending) (w' : World) : Prop :=
  ∃ (x0 x1 : Int) (x2 : Nat) (A : Option Addr) (n c : Nat) (R : LvL), e = .returned (.tuple #[manV x0 x1 x2 (.slice A n c), .int .i64 (loadE D)]) ∧ loadM D = ⟨x0, x1, x2, R⟩ ∧ n = R.length ∧ LvsHas w' (.slice A n c) R ∧ R.length ≤ 300 ∧ R.flatten.length ≤ 100000 ∧ x2 < 18446744073709551616 ∧ DS At w0 gd (loadD D) E w' ∧ Kept E w w'
/-- What Orphans tells: a list of its own. -/
def ImOrphEnd (At : Lies) (w0 : World) (gd : Nat) (D : DiskS) (m : ManS) (E : List Nat) (w : World) (e : Ending) (w' : World) : Prop :=
  ∃ v, e = .returned v ∧ StrsAt w' v (orphL (D.l.map FileS.name) m) ∧ DS At w0 gd D (ownL v ++ E) w' ∧ Kept E w w'
structure ImApi (At : Lies) : Prop where
  load : ∀ {w0 w : World} {gd : Nat} {D : DiskS} {E : List Nat}, DS At w0 gd D E w → WfP D → D.count ≤ 1099511627776 →
    Calls Tryz.prog 16 #[ptr gd] w (ImLoadEnd At w0 gd D E w)
  loadn : ∀ (w : World), Calls Tryz.prog 16 #[.pointer none] w fun e w' => (∃ (x0 x1 : Int) (x2 : Nat) (A : Option Addr) (n c : Nat), e = .returned (.tuple #[manV x0 x1 x2 (.slice A n c), .int .i64 1])) ∧ Below w.heap.size w w'
  swap : ∀ {w0 w : World} {gd : Nat} {D : DiskS} {E : List Nat} (n c : Int) (d : Nat) (A : Option Addr) (k cp : Nat) (R : LvL), DS At w0 gd D E w → WfP D → Holds w0 E w (.slice A k cp) R → k = R.length → R.flatten.length ≤ 100000 → R.length ≤ 100000 → d < 18446744073709551616 →
    Calls Tryz.prog 21 #[ptr gd, manV n c d (.slice A k cp)] w (DEnd At w0 gd (err (swapP D ⟨n, c, d, R⟩).1) (swapP D ⟨n, c, d, R⟩).2 E w)
  swapn : ∀ (n c : Int) (d : Nat) (A : Option Addr) (k cp : Nat) (w : World), Calls Tryz.prog 21 #[.pointer none, manV n c d (.slice A k cp)] w fun e w' => e = .returned (err 1) ∧ Below w.heap.size w w'
  orphans : ∀ {w0 w : World} {gd : Nat} {D : DiskS} {E : List Nat} (n c : Int) (d : Nat) (A : Option Addr) (k cp : Nat) (R : LvL), DS At w0 gd D E w → WfP D → Holds w0 E w (.slice A k cp) R → k = R.length → R.flatten.length ≤ 100000 → R.length ≤ 100000 →
    Calls Tryz.prog 13 #[ptr gd, manV n c d (.slice A k cp)] w (ImOrphEnd At w0 gd D ⟨n, c, d, R⟩ E w)
  orphansn : ∀ (n c : Int) (d : Nat) (A : Option Addr) (k cp : Nat) (R : LvL) (w : World), LvsHas w (.slice A k cp) R → R.flatten.length ≤ 100000 → R.length ≤ 100000 → Calls Tryz.prog 13 #[.pointer none, manV n c d (.slice A k cp)] w fun e w' => (∃ A' c', e = .returned (.slice A' 0 c')) ∧ Below w.heap.size w w'
  clean : ∀ {w0 w : World} {gd : Nat} {D : DiskS} {E : List Nat} (n c : Int) (d : Nat) (A : Option Addr) (k cp : Nat) (R : LvL), DS At w0 gd D E w → WfP D → Holds w0 E w (.slice A k cp) R → k = R.length → R.flatten.length ≤ 100000 → R.length ≤ 100000 →
    Calls Tryz.prog 14 #[ptr gd, manV n c d (.slice A k cp)] w (DEnd At w0 gd (err (cleanP D ⟨n, c, d, R⟩).1) (cleanP D ⟨n, c, d, R⟩).2 E w)
  cleann : ∀ (n c : Int) (d : Nat) (A : Option Addr) (k cp : Nat) (w : World), Calls Tryz.prog 14 #[.pointer none, manV n c d (.slice A k cp)] w fun e w' => e = .returned (err 1) ∧ Below w.heap.size w w'
/-- A new disk. -/
theorem im_new {At : Lies} (api : DiskApi At) (w : World) (c : Nat) (hc : c ≤ 1048576) : Calls Tryz.prog 15 #[.int .i64 (c : Nat)] w fun e w' => ∃ g, e = .returned (.tuple #[ptr g, .int .i64 0]) ∧ DS At w g (newS c) [] w' := by
  refine (api.new_ w.heap.size c w (Nat.le_refl _) hc).mono ?_
  rintro e w' ⟨g, F, h1, h2, h3, h4⟩
  exact ⟨g, h1, F, h2, h4.below (Nat.le_refl _) (fun x hx => (by cases hx)), fun b hb => (by cases hb)⟩
end Go.Proofs.YtbhgngimebecdaaGreat

/- ImUse -/
namespace Go.Proofs.YtbhgngimebecdaaGreat
open Go.RowKit
set_option linter.unusedVariables false
set_option maxRecDepth 100000

theorem StrsAt.own {w : World} {v : Value} {l : List ByteArray} (h : StrsAt w v l) : ∀ b ∈ ownL v, b < w.heap.size ∨ l = [] := by
  intro b hb
  rcases h with ⟨rfl, -⟩ | ⟨g, off, cap, rfl, -, -, hlt, -⟩
  · exact Or.inr rfl
  · have hv := ownL_mem.1 hb
    obtain rfl : g = b := by simpa [Value.ownBlock] using hv
    exact Or.inl hlt
theorem StrsAt.shape {w : World} {v : Value} {l : List ByteArray} (h : StrsAt w v l) : ∃ A c, v = .slice A l.length c := by
  rcases h with ⟨rfl, a, c, rfl⟩ | ⟨g, off, cap, rfl, -⟩
  · exact ⟨a, c, rfl⟩
  · exact ⟨_, cap, rfl⟩
section
variable {At : Lies} (api : DiskApi At) {w0 w : World} {gd : Nat} {D : DiskS} {E : List Nat}
include api
/-- The names of a disk's files: a list of its own, where there are some. -/
theorem im_names (h : DS At w0 gd D E w) (ok : WfP D) : Calls Tryz.prog 10 #[ptr gd] w fun e w' => ∃ v B, e = .returned v ∧ StrsAt w' v (D.l.map FileS.name) ∧ DS At w0 gd D (B ++ E) w' ∧ Kept E w w' ∧ (D.l ≠ [] → ∀ b ∈ ownL v, b ∈ B) := by
  obtain ⟨F, h1, h2, h3⟩ := h
  refine (api.names h1 ok.ok).mono ?_
  rintro e w' ⟨F', v, e1, e2, e3, e4, e5, e6⟩
  have hk : Kept E w w' := ⟨e6.size, fun b hb => e6.block b (h3 b hb).2 (h3 b hb).1⟩
  have hold : ∀ b ∈ E, b ∉ F' ∧ b < w'.heap.size := fun b hb => ⟨fun hm => by
    rcases e5 b hm with k | k
    · exact (h3 b hb).1 k
    · have := (h3 b hb).2; omega, Nat.lt_of_lt_of_le (h3 b hb).2 e6.size⟩
  have hbel := h2.trans (e6.below h2.size (fun x hx => (api.low h1 x hx).1))
  by_cases hl : D.l = []
  · exact ⟨v, [], e1, e2, ⟨F', e4, hbel, hold⟩, hk, fun h => absurd hl h⟩
  · refine ⟨v, ownL v, e1, e2, ⟨F', e4, hbel, fun b hb => ?_⟩, hk, fun _ b hb => hb⟩
    rcases List.mem_append.1 hb with hb | hb
    · have hv := ownL_mem.1 hb
      rcases e2.own b hb with h | h
      · exact ⟨(e3 b hv).2, h⟩
      · exact absurd (List.map_eq_nil_iff.1 h) hl
    · exact hold b hb
end
theorem rd_new (c : Nat) : rdW (newS c) mapN = (ByteArray.empty, 4, newS c) := rdW_none rfl rfl
theorem load_new4 (c : Nat) : loadE (newS c) = 4 ∧ loadD (newS c) = newS c := by
  unfold loadE loadD
  rw [rd_new]
  exact ⟨rfl, rfl⟩
theorem wp_load {D : DiskS} (ok : WfP D) : WfP (loadD D) := wp_rdW ok _
theorem load_keeps (D : DiskS) : (loadD D).l = D.l ∧ (loadD D).cap = D.cap ∧ (loadD D).down = D.down ∧ (loadD D).count ≤ D.count + 1 := by
  obtain ⟨h1, h2, h3, h4, -⟩ := rdW_count D mapN
  exact ⟨h3, h2, h4, h1⟩
/-- A box that was told, and is stored. -/
theorem DS.box {At : Lies} (api : DiskApi At) {w0 w : World} {gd : Nat} {D : DiskS} {E : List Nat} (h : DS At w0 gd D E w) (o : Obj) : DS At w0 gd D E (w.alloc o) := h.below api ((Below.refl w.heap.size w).alloc (Nat.le_refl _) o)
/-- Levels of one list of two numbers, in two blocks. -/
theorem two_has {W : World} {a b : Nat} (h1 : Blok W a 3 #[.int .i64 1, .int .i64 2]) (h2 : Blok W b 49 #[.slice (some ⟨a, 0, none⟩) 2 2]) : LvsHas W (.slice (some ⟨b, 0, none⟩) 1 1) [[1, 2]] := by
  refine ⟨[⟨.slice (some ⟨a, 0, none⟩) 2 2, [1, 2]⟩], ⟨Or.inr ⟨b, 0, 1, rfl, Nat.le_refl _, by unfold maxLen; omega, h2.lt, fun i x hx => ?_⟩, fun x hx => ?_⟩, rfl⟩
  · match i, hx with
    | 0, hx =>
      obtain rfl := Option.some.inj hx
      exact h2.cell 0
  · rw [List.mem_singleton.1 hx]
    refine Or.inr ⟨a, 0, 2, rfl, Nat.le_refl _, by unfold maxLen; omega, h1.lt, fun i y hy => ?_⟩
    match i, hy with
    | 0, hy => obtain rfl := Option.some.inj hy; exact h1.cell 0
    | 1, hy => obtain rfl := Option.some.inj hy; exact h1.cell 1
/-- The chapter's manifest. -/
def chM : ManS := ⟨3, 9, 0, [[1, 2]]⟩
theorem ch_may : MayM chM := by decide +kernel
/-- What stands behind its Swap on a new disk. -/
theorem ch_swap : (swapP (newS 20000) chM).1 = 0 ∧ loadE (swapP (newS 20000) chM).2 = 0 ∧ loadM (swapP (newS 20000) chM).2 = trimM chM ∧ (swapP (newS 20000) chM).2.l.length = 1 ∧ (swapP (newS 20000) chM).2.count ≤ 10 := by
  obtain ⟨h1, h2, h3, h4, -⟩ := first_swap (c := 20000) chM (fun h => by have := mfB_small h; omega)
  rw [if_pos ch_may] at h1
  rw [oldM_yes ch_may] at h2
  refine ⟨h1, ?_, ?_, by rw [h2.l]; rfl, by omega⟩
  all_goals
    rcases load_old h2.down (Or.inl h2.l) with ⟨e, -⟩ | ⟨a, e, e1, e2⟩
    · cases e
    · obtain rfl := Option.some.inj e
      obtain ⟨g1, g2⟩ := mg_back ch_may (by decide)
      first
      | exact e1.trans g1
      | exact e2.trans g2
theorem StrsAt.keeps {E : List Nat} {w w' : World} {v : Value} {l : List ByteArray} (h : StrsAt w v l) (hk : Kept E w w') (hE : l ≠ [] → ∀ b ∈ ownL v, b ∈ E) : StrsAt w' v l := by
  rcases h with ⟨rfl, a, c, rfl⟩ | ⟨b, off, cap, rfl, h2, h3, h4, h5⟩
  · exact Or.inl ⟨rfl, a, c, rfl⟩
  · by_cases hl : l = []
    · subst hl
      exact Or.inl ⟨rfl, _, _, rfl⟩
    · have hb := hE hl b (ownL_mem.2 rfl)
      exact Or.inr ⟨b, off, cap, rfl, h2, h3, Nat.lt_of_lt_of_le h4 hk.size, fun i x hx => (World.cell?_of_block (w := w) (hk.block b hb)).trans (h5 i x hx)⟩
theorem Kept.ints {E : List Nat} {w w' : World} {v : Value} {l : List Int} (h : Kept E w w') (hm : IntsIn w v l) (hE : ∀ b ∈ ownL v, b ∈ E) : IntsIn w' v l := by
  rcases hm with hm | ⟨b, off, cap, rfl, h1, h2, h3, h4⟩
  · exact Or.inl hm
  · exact Or.inr ⟨b, off, cap, rfl, h1, h2, Nat.lt_of_lt_of_le h3 h.size, fun i x hx => (World.cell?_of_block (w := w) (h.block b (hE b (ownL_mem.2 rfl)))).trans (h4 i x hx)⟩
end Go.Proofs.YtbhgngimebecdaaGreat

/- ImStrs -/
namespace Go.Proofs.YtbhgngimebecdaaGreat
open Go.ChangeShapes Go.WideShapes Go.ChangeAt Go.RowKit Go.Deep
set_option linter.unusedVariables false
set_option maxRecDepth 100000

theorem StrsAt.below {w w' : World} {v : Value} {l : List ByteArray} {B : Nat} (h : StrsAt w v l) (hb : Below B w w') (hB : w.heap.size ≤ B) : StrsAt w' v l := by
  rcases h with h | ⟨b, off, cap, rfl, h2, h3, h4, h5⟩
  · exact Or.inl h
  · exact Or.inr ⟨b, off, cap, rfl, h2, h3, Nat.lt_of_lt_of_le h4 hb.size, fun i x hx => (hb.cell (p := ⟨b, off + i, none⟩) (Nat.lt_of_lt_of_le h4 hB)).trans (h5 i x hx)⟩
theorem sprefix_eq {a b : List ByteArray} (hl : a.length = b.length) (h : ∀ (j : Nat) x y, a[j]? = some x → b[j]? = some y → x = y) : a = b := by
  apply List.ext_getElem hl
  intro j h1 h2
  exact h j _ _ (List.getElem?_eq_getElem h1) (List.getElem?_eq_getElem h2)
set_option maxHeartbeats 1000000 in
theorem ssame_any (va vb : Value) (a b : List ByteArray) (w : World) (ha : StrsAt w va a) (hb : StrsAt w vb b) :
    Calls Tryz.prog 12 #[va, vb] w (LIntsSame (decide (a = b)) w) := by
  obtain ⟨A, oa, ca, rfl, ma, fa⟩ := ha.cell
  obtain ⟨B, ob, cb, rfl, mb, fb⟩ := hb.cell
  unfold maxLen at ma mb
  have FA := Lib.hid fa
  have FB := Lib.hid fb
  clear ha hb fa fb
  by_cases hl : a.length = b.length
  case neg =>
    have e : decide (a = b) = false := decide_eq_false (fun h => hl (by rw [h]))
    rw [e]
    have t : ((a.length : Int) != (b.length : Int)) = true := by simp; omega
    have t2 : (a.length != b.length) = true := by simp; omega
    clear e hl
    go_enter Tryz.func12, Tryz.ntmps12
    go_wp2
    go_ret
    exact ⟨rfl, 0, rfl⟩
  obtain ⟨n, hn⟩ : ∃ n, n = a.length := ⟨_, rfl⟩
  have HNA := Lib.hid hn
  have HNB := Lib.hid (hn.trans hl)
  rw [← hn] at ma ⊢
  rw [← hl, ← hn] at mb ⊢
  clear hl hn
  go_enter Tryz.func12, Tryz.ntmps12
  go_wp2
  go_loopw [5] (fun i wr => ∃ k m : Nat, k ≤ n ∧ i = .int .i64 k ∧ (∀ j x y, j < k → a[j]? = some x → b[j]? = some y → x = y) ∧ wr = w.drewN m) (fun i _ => n - (intOf i).toNat)
  case atStart => exact ⟨0, 0, Nat.zero_le _, rfl, fun j x y hj => by omega, rfl⟩
  case round =>
    obtain ⟨k, m, hk, rfl, hall, rfl⟩ := hrel
    have HA := Lib.hid hall
    clear hall
    by_cases hlt : k < n
    · have l1 : (k : Int) < (n : Int) := by omega
      have hxa : a[k]? = some a[k] := List.getElem?_eq_getElem (by rw [← HNA.out]; exact hlt)
      have hxb : b[k]? = some b[k] := List.getElem?_eq_getElem (by rw [← HNB.out]; exact hlt)
      obtain ⟨ba, rfl, d1⟩ := FA.out k _ hxa
      obtain ⟨bb, rfl, d2⟩ := FB.out k _ hxb
      have HXA := Lib.hid hxa
      have HXB := Lib.hid hxb
      clear hxa hxb
      generalize a[k] = x at *
      generalize b[k] = y at *
      by_cases hxy : x = y
      · subst hxy
        obtain ⟨t, t2, t3⟩ := ctxt_eq (rfl : x = x)
        go_wp2
        go_quiet (fail)
        go_wp2
        refine ⟨⟨k + 1, _, by omega, by go_num, fun j u v hj hu hv => ?_, rfl⟩, by simp [intOf]; omega⟩
        rcases Nat.lt_or_ge j k with c | c
        · exact HA.out j u v c hu hv
        · obtain rfl : j = k := by omega
          rw [HXA.out] at hu
          rw [HXB.out] at hv
          have e1 : x = u := by simpa using hu
          have e2 : x = v := by simpa using hv
          rw [← e1, ← e2]
      · have e : decide (a = b) = false := decide_eq_false (fun h => hxy (by have h1 := HXA.out; rw [h, HXB.out] at h1; simpa using h1.symm))
        obtain ⟨t, t2, t3⟩ := ctxt_ne hxy
        have E := Lib.hid e
        clear e hxy
        go_wp2
        go_quiet (fail)
        go_wp2
        go_ret
        exact ⟨by rw [E.out]; rfl, _, World.drewN_drewN _ _ _⟩
    · have e : decide (a = b) = true := decide_eq_true (sprefix_eq (by rw [← HNA.out, ← HNB.out]) (fun j x y hx hy => HA.out j x y (by have := (List.getElem?_eq_some_iff.1 hx).1; rw [← HNA.out] at this; omega) hx hy))
      have l1 : decide ((k : Int) < (n : Int)) = false := decide_eq_false (by omega)
      have l2 : decide (k < n) = false := decide_eq_false (by omega)
      have E := Lib.hid e
      clear e hlt
      go_wp2
      go_ret
      exact ⟨by rw [E.out]; rfl, _, rfl⟩
abbrev strV (x : ByteArray) : Value := .string x
theorem strV_one {l : List ByteArray} : ∀ u ∈ l.map strV, u.oneCell' = true := by
  intro u hu
  obtain ⟨x, -, rfl⟩ := List.mem_map.1 hu
  rfl
/-- A row of a call's own. -/
abbrev SRow (w : World) (base : Nat) (v : Value) (l : List ByteArray) : Prop := w.ownsRow base 9 1 v l.length (l.map strV)
theorem SRow.nil (w : World) (base : Nat) : SRow w base (.slice none 0 0) [] := World.ownsRow_nil _ _ _ _
theorem SRow.in_ {w : World} {base : Nat} {v : Value} {l : List ByteArray} (h : SRow w base v l) : StrsAt w v l := by
  have h' := h
  rcases h.2 with ⟨hv, h0⟩ | ⟨g, cap, cur, hv, hg, hh, hn, hm, hsz, ht⟩
  · exact Or.inl ⟨List.length_eq_zero_iff.1 h0, none, 0, hv⟩
  · refine Or.inr ⟨g, 0, cap, hv, hn, hm, (Array.getElem?_eq_some_iff.1 hh).1, fun i x hx => ?_⟩
    have hi : i < l.length := (List.getElem?_eq_some_iff.1 hx).1
    rw [hv] at h'
    rw [Nat.zero_add]
    refine (h'.cellAt i (by omega)).trans ?_
    show (l.map strV)[i]? = _
    rw [List.getElem?_map, hx]
    rfl
theorem SRow.below {w w' : World} {base B : Nat} {v : Value} {l : List ByteArray} (h : SRow w base v l) (hb : Below B w w') (hB : w.heap.size ≤ B) : SRow w' base v l := by
  refine ⟨h.1, ?_⟩
  rcases h.2 with h0 | ⟨g, cap, cur, hv, hg, hh, r⟩
  · exact Or.inl h0
  · obtain ⟨hlt, _⟩ := Array.getElem?_eq_some_iff.1 hh
    exact Or.inr ⟨g, cap, cur, hv, hg, (hb.block g (Nat.lt_of_lt_of_le hlt hB)).trans hh, r⟩
theorem SRow.block {w : World} {base : Nat} {v : Value} {l : List ByteArray} (h : SRow w base v l) : ∀ k, v.ownBlock = some k → base ≤ k ∧ k < w.heap.size := fun k hk => h.lt k hk
theorem SRow.down {w : World} {base base' : Nat} {v : Value} {l : List ByteArray} (h : SRow w base v l) (hb : base' ≤ base) : SRow w base' v l := by
  refine ⟨h.1, ?_⟩
  rcases h.2 with h0 | ⟨g, cap, cur, hv, hg, r⟩
  · exact Or.inl h0
  · exact Or.inr ⟨g, cap, cur, hv, Nat.le_trans hb hg, r⟩
theorem info_str : (Tryz.prog.info? 9).map (fun i => (i.zero, i.size, i.bytes)) = some (some (.string ⟨#[]⟩), 1, 16) := by kernel_rfl
theorem StrsAt.src {w : World} {v : Value} {l : List ByteArray} (h : StrsAt w v l) : SrcAt w 1 v l.length (l.map strV) := by
  refine ⟨by rw [List.length_map, Nat.mul_one], ?_⟩
  rcases h with ⟨rfl, a, c, rfl⟩ | ⟨b, off, cap, rfl, h2, h3, h4, h5⟩
  · cases a with
    | none => exact Or.inl ⟨c, rfl, rfl⟩
    | some a => exact Or.inr ⟨a, c, rfl, fun j u hu => by cases hu⟩
  · refine Or.inr ⟨⟨b, off, none⟩, cap, rfl, fun j u hu => ?_⟩
    rw [List.getElem?_map] at hu
    obtain ⟨x, hx, rfl⟩ := Option.map_eq_some_iff.1 hu
    have ea : (⟨b, off, none⟩ : Addr).add j = ⟨b, off + j, none⟩ := by unfold Addr.add; split <;> simp_all
    rw [ea]
    exact h5 j x hx
theorem str_one (w : World) (x : ByteArray) : StrsAt (w.alloc (.cells #[Value.string x] 9)) (.slice (some ⟨w.heap.size, 0, none⟩) 1 1) [x] := by
  refine Or.inr ⟨w.heap.size, 0, 1, rfl, Nat.le_refl _, by unfold maxLen; omega, by simp, fun i y hy => ?_⟩
  match i, hy with
  | 0, hy =>
    obtain rfl : x = y := by simpa using hy
    simp
/-- append to a row of a call's own. -/
theorem strs_append {w : World} {base : Nat} {vs vx : Value} {l m : List ByteArray} (hown : SRow w base vs l) (hsrc : StrsAt w vx m) (hl : l.length + m.length ≤ 1000000) (hb : base ≤ w.heap.size) (ty : TypeId) :
    ∃ A c w', (Builtin.append_ #[31, 31] ty #[vs, vx]).run Tryz.prog w = .ok (.slice A (l.length + m.length) c) w' ∧ SRow w' base (.slice A (l.length + m.length) c) (l ++ m) ∧ w.grownBy w' vs.ownBlock ∧ ((Value.slice A (l.length + m.length) c).ownBlock = vs.ownBlock ∨ (Value.slice A (l.length + m.length) c).ownBlock = some w.heap.size) := by
  obtain ⟨i0, hi, hz0, hz1, hz2⟩ := info_parts info_str
  obtain ⟨v', w', e1, e2, e3, e4⟩ := run_append_src (P := Tryz.prog) w base 31 9 i0 _ 1 16 ty Tryz.underlying31 hi hz0 hz1 hz2 rfl (by decide) vs l.length (l.map strV) hown vx m.length (m.map strV) hsrc.src strV_one (by unfold maxLen; omega) (by omega) hb
  obtain ⟨A, c, rfl, -, -, -⟩ := own_form e2
  refine ⟨A, c, w', e1, ?_, e3, e4⟩
  unfold SRow
  rw [List.map_append, List.length_append]
  exact e2
theorem sgrown_below {B : Nat} {w w' : World} {v : Value} (h : w.grownBy w' v.ownBlock) (hB : B ≤ w.heap.size) (hv : ∀ k, v.ownBlock = some k → B ≤ k) : Below B w w' := ⟨h.os, h.tape, h.output, h.size, fun k hk => h.block k (by omega) (fun e => by have := hv k e.symm; omega)⟩
/-- A text more, behind a row of a call's own. -/
theorem strs_more {w : World} {base n c : Nat} {A : Option Addr} {l : List ByteArray} {x : ByteArray} (hrow : SRow w base (.slice A n c) l) (hn : n = l.length) (hl : n + 1 ≤ 1000000) (hb : base ≤ w.heap.size) (ty : TypeId) :
    ∃ w' u, (Builtin.append_ #[31, 31] ty #[.slice A n c, .slice (some ⟨w.heap.size, 0, none⟩) 1 1]).run Tryz.prog (w.alloc (.cells #[.string x] 9)) = .ok u w' ∧
      (∃ A' c', u = .slice A' (n + 1) c' ∧ SRow w' base (.slice A' (n + 1) c') (l ++ [x])) ∧ Below base w w' := by
  subst hn
  have ha := (Below.refl w.heap.size w).alloc (Nat.le_refl _) (.cells #[.string x] 9)
  have h1 := SRow.below hrow ha (Nat.le_refl _)
  obtain ⟨A', c', w', e1, e2, e3, -⟩ := strs_append h1 (str_one w x) (by simpa using hl) (by simp; omega) ty
  exact ⟨w', _, e1, ⟨A', c', rfl, e2⟩, ((Below.refl base w).alloc hb _).trans (sgrown_below e3 (by simp; omega) (fun k hk => (SRow.block h1 k hk).1))⟩
end Go.Proofs.YtbhgngimebecdaaGreat
