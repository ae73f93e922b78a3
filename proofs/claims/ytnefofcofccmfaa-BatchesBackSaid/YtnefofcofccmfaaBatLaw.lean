/- The small functions of the statements of layer 9: Great, Batch. -/
import Derived.Test.YtnefofcofccmfaaBatCheckRef
import Derived.Test.YtnefofcofccmfaaEventsRows
import Derived.Deep.RegionHeld3
import Derived.Deep.DeepCutAuto
namespace Go.Proofs.Ytnefofcofccmfaa
open Go.RowKit
set_option linter.unusedVariables false
attribute [local go_sem] run_store_float

def bgrt (s : ByteArray) (l : List RawS) : Bool := decide (1000 < s.size) || decide (12 < l.length) || l.any fun x => grt x.t x.d
theorem bgrt_no {s : ByteArray} {l : List RawS} (h : bgrt s l = false) : s.size ≤ 1000 ∧ l.length ≤ 12 ∧ ∀ x ∈ l, x.t.size ≤ 1000 ∧ x.d.size ≤ 1000 := by
  simp only [bgrt, Bool.or_eq_false_iff, decide_eq_false_iff_not, List.any_eq_false] at h
  obtain ⟨⟨h1, h2⟩, h3⟩ := h
  exact ⟨by omega, by omega, fun x hx => grt_no (by simpa using h3 x hx)⟩
theorem RawsIn.form {w : World} {v : Value} {l : List RawS} (h : RawsIn w v l) : ∃ A c, v = .slice A l.length c := by
  rcases h with ⟨rfl, a, c, rfl⟩ | ⟨b, off, cap, rfl, _⟩
  · exact ⟨_, _, rfl⟩
  · exact ⟨_, _, rfl⟩
theorem RawsIn.pos {w : World} {A : Option Addr} {n c : Nat} {l : List RawS} (h : RawsIn w (.slice A n c) l) (hl : 0 < l.length) : ∃ b off, A = some ⟨b, off, none⟩ ∧ b < w.heap.size ∧
    ∀ i x, l[i]? = some x → w.cell? ⟨b, off + i * 3, none⟩ = some (.string x.t) ∧ w.cell? ⟨b, off + i * 3 + 1, none⟩ = some (.string x.d) ∧ w.cell? ⟨b, off + i * 3 + 2, none⟩ = some (.int .u64 (x.b : Nat)) := by
  rcases h with ⟨rfl, _⟩ | ⟨b, off, cap, hv, _, _, hb, hc⟩
  · cases hl
  · cases hv
    exact ⟨b, off, rfl, hb, fun i x hx => ⟨hc i x hx 0 _ rfl, hc i x hx 1 _ rfl, hc i x hx 2 _ rfl⟩⟩

theorem bgreat_one (s : ByteArray) (f : Int) (A : Option Addr) (n c : Nat) (w : World) (hs : s.size ≤ maxLen) (hn : n ≤ maxLen) (h : 1000 < s.size ∨ 12 < n) :
    Calls Try.prog 8 #[batV s f (.slice A n c)] w fun e w' => e = .returned (.bool true) ∧ Below w.heap.size w w' := by
  unfold batV
  unfold maxLen at hs hn
  by_cases h0 : 1000 < s.size
  · have t0 : decide ((1000 : Int) < (s.size : Int)) = true := decide_eq_true (by omega)
    clear h
    go_enter Try.func8, Try.ntmps8
    go_wp2
    go_ret
    exact ⟨rfl, (Below.refl _ _).alloc (Nat.le_refl _) _⟩
  · have t0 : decide ((1000 : Int) < (s.size : Int)) = false := decide_eq_false (by omega)
    have t1 : decide ((12 : Int) < (n : Int)) = true := decide_eq_true (by omega)
    clear h
    go_enter Try.func8, Try.ntmps8
    go_wp2
    go_ret
    exact ⟨rfl, (Below.refl _ _).alloc (Nat.le_refl _) _⟩

set_option maxHeartbeats 1600000 in
set_option maxRecDepth 100000 in
theorem bgreat_evs (s : ByteArray) (f : Int) (A : Option Addr) (c : Nat) (l : List RawS) (w : World) (hs : s.size ≤ 1000) (hn : l.length ≤ 12) (h : RawsIn w (.slice A l.length c) l) (hok : ∀ x ∈ l, RawOk x) :
    Calls Try.prog 8 #[batV s f (.slice A l.length c)] w fun e w' => e = .returned (.bool (l.any fun x => grt x.t x.d)) ∧ Below w.heap.size w w' := by
  unfold batV
  have t0 : decide ((1000 : Int) < (s.size : Int)) = false := decide_eq_false (by omega)
  have t1 : decide ((12 : Int) < (l.length : Int)) = false := decide_eq_false (by omega)
  have Hyes := Lib.hid (fun (k : Nat) (x : RawS) (hx : l[k]? = some x) (hg : grt x.t x.d = true) => (List.any_eq_true.2 ⟨x, List.mem_of_getElem? hx, hg⟩ : (l.any fun x => grt x.t x.d) = true))
  have Hno := Lib.hid (fun (hall : ∀ (i : Nat) (x : RawS), l[i]? = some x → grt x.t x.d = false) => (List.any_eq_false.2 (fun x hx => by obtain ⟨i, hi⟩ := List.getElem?_of_mem hx; simp [hall i x hi]) : (l.any fun x => grt x.t x.d) = false))
  have HP := Lib.hid (fun hl => RawsIn.pos h hl)
  clear h
  generalize (l.any fun x => grt x.t x.d) = r at *
  go_enter Try.func8, Try.ntmps8
  go_wp2
  go_loopw [3] (fun i wr => ∃ k : Nat, k ≤ l.length ∧ i = .int .i64 k ∧ (∀ (i : Nat) (x : RawS), i < k → l[i]? = some x → grt x.t x.d = false) ∧ Below w.heap.size w wr ∧ wr.cell? ⟨w.heap.size, 2, none⟩ = some (.slice A l.length c) ∧ w.heap.size < wr.heap.size) (fun i _ => l.length - (intOf i).toNat)
  case atStart => exact ⟨0, Nat.zero_le _, rfl, fun i x h => absurd h (by omega), (Below.refl _ _).alloc (Nat.le_refl _) _, by simp, by simp⟩
  case round =>
    obtain ⟨k, hk, rfl, hall, hbel, hbox, hlt2⟩ := hrel
    have HA := Lib.hid hall
    clear hall
    by_cases hlt : k < l.length
    · obtain ⟨x, hx0⟩ : ∃ x, l[k]? = some x := ⟨l[k], List.getElem?_eq_getElem hlt⟩
      obtain ⟨p, po, rfl, hp, ca⟩ := HP.out (by omega)
      obtain ⟨a0, a1, a2⟩ := ca k x hx0
      have wx := hok x (List.mem_of_getElem? hx0)
      have HC := Lib.hid fun W => great_any x.t x.d x.b W wx.t wx.d
      have HX := Lib.hid hx0
      have k0 := keep_cell hbel hp a0
      have k1 := keep_cell hbel hp a1
      have k2 := keep_cell hbel hp a2
      have HQ := Lib.hid fun hg => Hyes.out k x hx0 hg
      clear hx0 a0 a1 a2 wx ca hok HP Hyes
      have s1 : (k : Int) < (l.length : Int) := by omega
      obtain ⟨o, ho⟩ : ∃ o, grt x.t x.d = o := ⟨_, rfl⟩
      rw [ho] at HC
      have HO := Lib.hid ho
      clear ho
      cases o
      · have HN : ∀ (i : Nat) (y : RawS), i < k + 1 → l[i]? = some y → grt y.t y.d = false := fun i y hi hy => by
          by_cases e : i = k
          · subst e
            rw [HX.out] at hy
            cases hy
            exact HO.out
          · exact HA.out i y (by omega) hy
        have HN' := Lib.hid HN
        clear HN HQ HX HO
        obtain ⟨t, d, n⟩ := x
        simp only at k0 k1 k2 HC
        go_wp2_with fail
        refine (HC.out _).mono ?_
        rintro e w1 ⟨rfl, hb1⟩
        have hbel1 := bj hbel hb1
        have hbox1 := (hb1.cell (p := ⟨w.heap.size, 2, none⟩) hlt2).trans hbox
        have hlt3 := Nat.lt_of_lt_of_le hlt2 hb1.size
        clear hbel hbox hb1 k0 k1 k2 hlt2
        go_wp2
        go_roundw
        case rel => exact ⟨k + 1, by omega, by go_num, HN'.out, hbel1, hbox1, hlt3⟩
        case measure => simp [intOf]; omega
      · have hr := HQ.out HO.out
        subst hr
        clear HX HO
        obtain ⟨t, d, n⟩ := x
        simp only at k0 k1 k2 HC
        go_wp2_with fail
        refine (HC.out _).mono ?_
        rintro e w1 ⟨rfl, hb1⟩
        have hbel1 := bj hbel hb1
        clear hbel hbox hb1 k0 k1 k2 hlt2
        go_wp2
        go_ret
        exact ⟨rfl, hbel1⟩
    · obtain rfl : k = l.length := by omega
      have s1 : ¬ (l.length : Int) < (l.length : Int) := by omega
      have hr := Hno.out (fun i x hx => HA.out i x (List.getElem?_eq_some_iff.1 hx).1 hx)
      subst hr
      go_wp2
      go_ret
      exact ⟨rfl, hbel⟩

/-- Great. -/
theorem bgreat_any (s : ByteArray) (f : Int) (v : Value) (l : List RawS) (w : World) (hs : s.size ≤ maxLen) (h : RawsIn w v l) (hok : ∀ x ∈ l, RawOk x) :
    Calls Try.prog 8 #[batV s f v] w fun e w' => e = .returned (.bool (bgrt s l)) ∧ Below w.heap.size w w' := by
  have hlen : l.length ≤ maxLen := by
    rcases h with ⟨rfl, _⟩ | ⟨b, off, cap, _, h1, h2, _⟩
    · simp
    · omega
  obtain ⟨A, c, rfl⟩ := h.form
  by_cases h1 : 1000 < s.size ∨ 12 < l.length
  · have e : bgrt s l = true := by
      unfold bgrt
      rcases h1 with h1 | h1
      · rw [decide_eq_true h1]; rfl
      · rw [decide_eq_true h1, Bool.or_true]; rfl
    rw [e]
    exact bgreat_one s f A _ c w hs hlen h1
  · have e : bgrt s l = l.any fun x => grt x.t x.d := by
      unfold bgrt
      rw [decide_eq_false (by omega), decide_eq_false (by omega)]
      rfl
    rw [e]
    exact bgreat_evs s f A c l w (by omega) (by omega) h hok

theorem low_set {B : Nat} {W0 W : World} {b i : Nat} {u : Value} (h : Below B W0 W) (hp : B ≤ b) : Below B W0 (W.setCell ⟨b, i, none⟩ u) := h.setCell hp u
/-- A slice of events does not lie where a batch lies. -/
theorem EvsIn.off {w : World} {g : Nat} {T : TypeId} {x z : Value} {f : Int} {u : Value} {l : List RawS} (h : EvsIn w u l) (hb : w.heap[g]? = some (.cells #[x, .int .i64 f, z] T (0, 0))) {w' : World} (hsz : w.heap.size ≤ w'.heap.size) (hw : ∀ k, k < w.heap.size → k ≠ g → w'.heap[k]? = w.heap[k]?) : EvsIn w' u l := by
  rcases h with h | ⟨h0, b, off, cap, rfl, hl, hlt, hc⟩
  · exact Or.inl h
  · have hne : b ≠ g := by
      rintro rfl
      obtain ⟨y, hy⟩ : ∃ y, l[0]? = some y := ⟨l[0], List.getElem?_eq_getElem h0⟩
      obtain ⟨_, c1, c2⟩ := hc 0 y hy
      simp only [World.cell?, hb] at c1 c2
      match off with
      | 0 => simp at c1
      | k + 1 => simp at c2
    refine Or.inr ⟨h0, b, off, cap, rfl, hl, Nat.lt_of_lt_of_le hlt hsz, fun i y hy => ?_⟩
    have hk := hw b hlt hne
    obtain ⟨c0, c1, c2⟩ := hc i y hy
    exact ⟨(World.cell?_of_block (a := ⟨b, off + i * 3, none⟩) hk).trans c0, (World.cell?_of_block (a := ⟨b, off + i * 3 + 1, none⟩) hk).trans c1, (World.cell?_of_block (a := ⟨b, off + i * 3 + 2, none⟩) hk).trans c2⟩
theorem EvsIn.set3 {w : World} {g : Nat} {T : TypeId} {x z : Value} {f : Int} {u : Value} {l : List RawS} (h : EvsIn w u l) (hb : w.heap[g]? = some (.cells #[x, .int .i64 f, z] T (0, 0))) (x' y' z' : Value) :
    EvsIn (((w.setCell ⟨g, 0, none⟩ x').setCell ⟨g, 1, none⟩ y').setCell ⟨g, 2, none⟩ z') u l :=
  h.off hb (by simp [World.setCell]) fun k _ hk => (Below.heap_setCell _ _ _ _ hk).trans ((Below.heap_setCell _ _ _ _ hk).trans (Below.heap_setCell _ _ _ _ hk))

set_option maxHeartbeats 1600000 in
set_option maxRecDepth 100000 in
/-- Batch. -/
theorem batch_any (s : ByteArray) (f : Int) (v : Value) (l : List RawS) (w : World) (h : RawsIn w v l) (hn : l.length ≤ 1000) :
    Calls Try.prog 10 #[batV s f v] w fun e w' => ∃ u, e = .returned (batV s f u) ∧ EvsIn w' u l ∧ Below w.heap.size w w' := by
  unfold batV
  have hA := fun W (hW : Below w.heap.size w W) => all_law v l W (h.below hW (Nat.le_refl _)) hn
  obtain ⟨A, c, rfl⟩ := h.form
  have R0 := (Blk3.new w 24 (.string s) (.int .i64 f) (.slice A l.length c)).alloc (.cells #[.string ⟨#[]⟩, .int .i64 0, .slice none 0 0] 28)
  have E0 := Blk3.new (w.alloc (.cells #[.string s, .int .i64 f, .slice A l.length c] 24)) 28 (.string ⟨#[]⟩) (.int .i64 0) (.slice none 0 0)
  rw [World.size_alloc] at E0
  have hbw : Below w.heap.size w ((w.alloc (.cells #[.string s, .int .i64 f, .slice A l.length c] 24)).alloc (.cells #[.string ⟨#[]⟩, .int .i64 0, .slice none 0 0] 28)) := ((Below.refl _ w).alloc (Nat.le_refl _) _).alloc (by simp) _
  obtain ⟨W0, hW0⟩ : ∃ W0, ((w.alloc (.cells #[.string s, .int .i64 f, .slice A l.length c] 24)).alloc (.cells #[.string ⟨#[]⟩, .int .i64 0, .slice none 0 0] 28)) = W0 := ⟨_, rfl⟩
  rw [hW0] at R0 E0 hbw
  clear h
  go_enter Try.func10, Try.ntmps10
  go_upto_region 1 with fail
  clear hW0
  obtain ⟨k0, k1, k2, _, _, _, l1⟩ := R0.facts
  obtain ⟨e0, e1, e2, f0, f1, f2, l2⟩ := E0.facts
  have HS : Hid (∀ W, Below (w.heap.size + 1) W0 W → Below (w.heap.size + 1) W0 W ∧ W.cell? ⟨w.heap.size, 0, none⟩ = some (.string s) ∧ W.cell? ⟨w.heap.size, 1, none⟩ = some (.int .i64 f) ∧ W.cell? ⟨w.heap.size, 2, none⟩ = some (.slice A l.length c)) :=
    Lib.hid fun W hW => ⟨hW, (hW.cell (p := ⟨w.heap.size, 0, none⟩) (by simp)).trans k0, (hW.cell (p := ⟨w.heap.size, 1, none⟩) (by simp)).trans k1, (hW.cell (p := ⟨w.heap.size, 2, none⟩) (by simp)).trans k2⟩
  have HA2 := Lib.hid fun W (h : Below (w.heap.size + 1) W0 W ∧ W.cell? ⟨w.heap.size, 0, none⟩ = some (.string s) ∧ W.cell? ⟨w.heap.size, 1, none⟩ = some (.int .i64 f) ∧ W.cell? ⟨w.heap.size, 2, none⟩ = some (.slice A l.length c)) => (hA W (hbw.trans (h.1.mono (by omega)))).mono fun e w' ⟨u, he, hu, hb⟩ => (⟨u, he, hu, h.1.trans (hb.mono (by have := h.1.size; omega)), hb⟩ : ∃ u, e = Ending.returned u ∧ EvsIn w' u l ∧ Below (w.heap.size + 1) W0 w' ∧ Below W.heap.size W w')
  have HE := Lib.hid (And.intro E0 hbw)
  clear hA R0 E0 l1 hn
  go_region_held3 (fun W => Below (w.heap.size + 1) W0 W ∧ W.cell? ⟨w.heap.size, 0, none⟩ = some (.string s) ∧ W.cell? ⟨w.heap.size, 1, none⟩ = some (.int .i64 f) ∧ W.cell? ⟨w.heap.size, 2, none⟩ = some (.slice A l.length c))
    (first | (with_reducible assumption) | ((with_reducible refine HS.out _ ?_); (repeat' (first | (with_reducible assumption) | (with_reducible exact Below.refl _ _) | (with_reducible refine Below.drew ?_) | (with_reducible refine low_set ?_ (Nat.le_refl _)))); done) | fail)
    (first
    | (go_at_call 20; ((with_reducible refine (HA2.out _ (by with_reducible assumption)).mono ?_); rintro e w3 ⟨u, rfl, hu, hb3, hb4⟩; obtain ⟨A', c', rfl⟩ := hu.form; have E3 := HE.out.1.drew.below hb4; obtain ⟨e0, e1, e2, f0, f1, f2, l2⟩ := E3.facts))
    | fail)
  all_goals
    go_wp2
    refine bodyPost_ret (v := .agg #[.string s, .int .i64 f, .slice A' l.length c']) (by simp [results, Try.results10, go_sem, e0, e1, e2]) rfl ⟨.slice A' l.length c', rfl, ?_, ?_⟩
    · exact EvsIn.set3 hu E3 _ _ _
    · exact HE.out.2.trans ((And.left (‹Below (w.heap.size + 1) W0 _ ∧ _›)).mono (Nat.le_succ _))
end Go.Proofs.Ytnefofcofccmfaa
