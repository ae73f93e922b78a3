/- Levels that a value has, without empty ones at the end: the program's, the document's. -/
import Derived.Test.YtcfidpjhemjbjaaLvConcat
namespace Go.Proofs.Ytcfidpjhemjbjaa
open Go.RowKit Go.Shelf
set_option linter.unusedVariables false
set_option maxRecDepth 100000

theorem mtrimN_no {R : LvL} {k : Nat} {x : List Int} (hx : R[k]? = some x) (h : x.length ≠ 0) : trimN R (k + 1) = k + 1 := by
  unfold trimN
  rw [if_neg]
  rw [List.getD_eq_getElem?_getD, hx]
  exact fun e => h (by rw [show x = [] from e]; rfl)
theorem mtrimN_yes {R : LvL} {k : Nat} {x : List Int} (hx : R[k]? = some x) (h : x.length = 0) : trimN R (k + 1) = trimN R k := by
  rw [trimN, if_pos]
  rw [List.getD_eq_getElem?_getD, hx]
  exact List.length_eq_zero_iff.1 h
theorem LvsHas.take {w : World} {n c k : Nat} {A : Option Addr} {R : LvL} (h : LvsHas w (.slice A n c) R) (hn : n = R.length) (hk : k ≤ n) :
    LvsHas w (.slice A k c) (R.take k) ∧ (0 < n → sliced A 0 k c 1 = .slice A k c ∧ k ≤ c) := by
  obtain ⟨M, ⟨h1, h2⟩, rfl⟩ := h
  rw [lvl_length] at hn
  subst hn
  have he : LvEach w (M.take k) := fun x hx => h2 x (List.mem_of_mem_take hx)
  have hl : (M.take k).length = k := by rw [List.length_take]; omega
  rcases h1 with ⟨rfl, a, c', hv⟩ | ⟨b, off, cap, hv, h3, h4, h5, h6⟩
  · obtain ⟨rfl, -, rfl⟩ := Value.slice.inj hv
    have k0 : k = 0 := by simpa using hk
    subst k0
    exact ⟨⟨[], ⟨Or.inl ⟨rfl, _, _, rfl⟩, fun x hx => (by cases hx)⟩, rfl⟩, fun h => absurd h (by simp)⟩
  · obtain ⟨rfl, -, rfl⟩ := Value.slice.inj hv
    refine ⟨⟨M.take k, ⟨Or.inr ⟨b, off, c, by rw [hl], by omega, h4, h5, fun i x hx => ?_⟩, he⟩, by rw [lvl_take]⟩, fun h0 => ⟨?_, by omega⟩⟩
    · rw [List.getElem?_take] at hx
      split at hx
      · exact h6 i x hx
      · cases hx
    · unfold sliced
      rw [if_neg (by omega)]
      simp [Addr.add]
theorem mslice_to {n c k : Nat} {A : Option Addr} (hk : k ≤ c) (e : sliced A 0 k c 1 = .slice A k c) (W : World) : (Instr.slice 23 (.slice A n c) none (some (.int .i64 (k : Nat))) none).run Try.prog W = .ok (.slice A k c) W := by
  have hz : (sizeOf (Try.prog.elem 23)).run Try.prog W = .ok 1 W := by simp [go_sem]
  rw [run_slice_h W _ _ _ c Try.underlying23 .i64 _ (by omega) (by omega), hz]
  show Result.ok (sliced _ _ _ _ _) W = _
  rw [Int.toNat_natCast, e]
theorem msliced_nil (a : Option Addr) (c : Nat) : ∃ A c', sliced a 0 0 c 1 = .slice A 0 c' := by unfold sliced; exact ⟨_, _, rfl⟩
theorem mslice_none {n c : Nat} {A : Option Addr} : ∃ A' c', ∀ W, (Instr.slice 23 (.slice A n c) none (some (.int .i64 0)) none).run Try.prog W = .ok (.slice A' 0 c') W := by
  obtain ⟨A', c', e⟩ := msliced_nil A c
  refine ⟨A', c', fun W => ?_⟩
  have hz : (sizeOf (Try.prog.elem 23)).run Try.prog W = .ok 1 W := by simp [go_sem]
  rw [run_slice_h W _ _ _ c Try.underlying23 .i64 _ (by omega) (by omega), hz]
  show Result.ok (sliced _ _ _ _ _) W = _
  rw [show (0 : Int).toNat = 0 from rfl, e]
/-- What is left of levels that a value has. -/
def MTrimEnd (w : World) (t : Nat) (A : Option Addr) (c : Nat) (e : Ending) (w' : World) : Prop := e = .returned (.slice A t c) ∧ w' = w
theorem mtrim_told {w : World} {n c k : Nat} {A : Option Addr} {R : LvL} (h : LvsHas w (.slice A n c) R) (hn : n = R.length) (hk : k = trimN R n) :
    k = (trimL R).length ∧ LvsHas w (.slice A k c) (trimL R) := by
  have hle := trimN_le R n
  have e : trimL R = R.take k := by unfold trimL; rw [← hn, hk]
  refine ⟨by rw [e, List.length_take]; omega, ?_⟩
  rw [e]
  exact (h.take hn (by omega)).1
theorem mtrim_cells {w : World} {n c : Nat} {A : Option Addr} {R : LvL} (h : LvsHas w (.slice A n c) R) (hn : n = R.length) : ∀ j, j < n → ∃ g off A' m c', A = some ⟨g, off, none⟩ ∧ w.cell? ⟨g, off + j, none⟩ = some (.slice A' m c') ∧ (m ≠ 0 → trimN R (j + 1) = j + 1) ∧ (m = 0 → trimN R (j + 1) = trimN R j) := by
  intro j hj
  obtain ⟨A2, off, cap, ev, -, hc⟩ := h.form
  obtain ⟨rfl, -, rfl⟩ := Value.slice.inj ev
  obtain ⟨y, hy⟩ : ∃ y, R[j]? = some y := ⟨_, List.getElem?_eq_getElem (by omega)⟩
  obtain ⟨b, u, rfl, -, c1, hin⟩ := hc j y hy
  obtain ⟨A', o', c', rfl, -, -⟩ := hin.form
  exact ⟨b, off, A', y.length, c', rfl, c1, mtrimN_no hy, mtrimN_yes hy⟩
theorem mtrimmed_any (A : Option Addr) (n c : Nat) (R : LvL) (w : World) (h : LvsHas w (.slice A n c) R) (hn : n = R.length) (hl : n ≤ 100000) :
    Calls Try.prog 19 #[.slice A n c] w (MTrimEnd w (trimL R).length A c) := by
  have HT := Lib.hid (fun k (hk : k = trimN R n) => (mtrim_told h hn hk).1)
  have HS := Lib.hid (fun k m (hk : k ≤ n) (h0 : 0 < n) W => mslice_to (n := m) ((h.take hn hk).2 h0).2 ((h.take hn hk).2 h0).1 W)
  have HC := Lib.hid (mtrim_cells h hn)
  unfold MTrimEnd
  generalize (trimL R).length = tl at *
  clear h hn
  generalize hf : trimN R = f at *
  have HF := Lib.hid (show f 0 = 0 by rw [← hf]; rfl)
  clear hf
  go_enter Try.func19, Try.ntmps19
  go_wp2
  go_loopw [0] (fun u wr => ∃ k : Nat, k ≤ n ∧ u = .slice A k c ∧ f k = f n ∧ wr = w) (fun u _ => match u with | .slice _ k _ => k | _ => 0)
  case atStart => exact ⟨n, Nat.le_refl _, rfl, rfl, rfl⟩
  case round =>
    obtain ⟨k, hk, rfl, hfk, rfl⟩ := hrel
    have HFK := Lib.hid hfk
    clear hfk
    cases k with
    | zero =>
      obtain rfl := HT.out 0 (by rw [← HFK.out, HF.out])
      go_wp2
      go_ret
      exact ⟨rfl, rfl⟩
    | succ j =>
      obtain ⟨g, off, A', m, c', rfl, c1, h1, h2⟩ := HC.out j (by omega)
      have q1 : decide ((0 : Int) < ((j + 1 : Nat) : Int)) = true := decide_eq_true (by omega)
      have q2 : IntKind.i64.wrap (((j + 1 : Nat) : Int) - 1) = (j : Int) := by rw [IntWalk.i64_in _ ⟨by omega, by omega⟩]; omega
      have q3 : (j : Int) < ((j + 1 : Nat) : Int) := by omega
      by_cases h0 : m = 0
      · subst h0
        have HE := Lib.hid ((h2 rfl).symm.trans HFK.out)
        have hs := fun W => HS.out j (j + 1) (by omega) (by omega) W
        clear h1 h2
        go_wp2
        exact ⟨⟨j, by omega, rfl, HE.out, trivial⟩, by simp⟩
      · have H3 := Lib.hid (HT.out (j + 1) (by rw [← HFK.out, h1 h0]))
        have q4 : (((m : Nat) : Int) == 0) = false := beq_eq_false_iff_ne.2 (by omega)
        have q5 : (m == 0) = false := beq_eq_false_iff_ne.2 h0
        clear h1 h2 h0
        go_wp2
        go_ret
        exact ⟨by rw [← H3.out]; rfl, rfl⟩
theorem mltrim_run (A A2 : Option Addr) (n c c2 : Nat) (R : LvL) (w : World) (h : LvsHas w (.slice A n c) R) (hn : n = R.length) (hl : n ≤ 100000)
    (hz : trimN R n = 0 → ∀ W, (Instr.slice 23 (.slice A n c) none (some (.int .i64 0)) none).run Try.prog W = .ok (.slice A2 0 c2) W) (hnz : trimN R n ≠ 0 → A2 = A ∧ c2 = c) :
    Calls Try.prog 23 #[.slice A n c] w (MTrimEnd w (trimL R).length A2 c2) := by
  have HZ := Lib.hid hz
  have HNZ := Lib.hid hnz
  have HT := Lib.hid (fun k (hk : k = trimN R n) => (mtrim_told h hn hk).1)
  have HS := Lib.hid (fun k (hk : k ≤ n) (h0 : 0 < n) W => mslice_to (n := n) ((h.take hn hk).2 h0).2 ((h.take hn hk).2 h0).1 W)
  have HC := Lib.hid (mtrim_cells h hn)
  unfold MTrimEnd
  generalize (trimL R).length = tl at *
  clear h hn hz hnz
  generalize hf : trimN R = f at *
  have HF := Lib.hid (show f 0 = 0 by rw [← hf]; rfl)
  clear hf
  go_enter Try.func23, Try.ntmps23
  go_wp2
  go_loopw [3] (fun u wr => ∃ k : Nat, k ≤ n ∧ u = .int .i64 k ∧ f k = f n ∧ wr = w) (fun u _ => (intOf u).toNat)
  case atStart => exact ⟨n, Nat.le_refl _, rfl, rfl, rfl⟩
  case round =>
    obtain ⟨k, hk, rfl, hfk, rfl⟩ := hrel
    have HFK := Lib.hid hfk
    clear hfk
    cases k with
    | zero =>
      obtain rfl := HT.out 0 (by rw [← HFK.out, HF.out])
      have hs := HZ.out (by rw [← HFK.out, HF.out])
      go_wp2
      go_ret
      exact ⟨rfl, rfl⟩
    | succ j =>
      obtain ⟨g, off, A', m, c', rfl, c1, h1, h2⟩ := HC.out j (by omega)
      have q1 : decide ((0 : Int) < ((j + 1 : Nat) : Int)) = true := decide_eq_true (by omega)
      have q2 : IntKind.i64.wrap (((j + 1 : Nat) : Int) - 1) = (j : Int) := by rw [IntWalk.i64_in _ ⟨by omega, by omega⟩]; omega
      have q3 : (j : Int) < (n : Int) := by omega
      by_cases h0 : m = 0
      · subst h0
        have HE := Lib.hid ((h2 rfl).symm.trans HFK.out)
        clear h1 h2
        go_wp2
        exact ⟨⟨j, by omega, rfl, HE.out, trivial⟩, by simp [intOf]⟩
      · have H3 := Lib.hid (HT.out (j + 1) (by rw [← HFK.out, h1 h0]))
        obtain ⟨rfl, rfl⟩ := HNZ.out (by rw [← HFK.out, h1 h0]; omega)
        have q4 : (((m : Nat) : Int) == 0) = false := beq_eq_false_iff_ne.2 (by omega)
        have q5 : (m == 0) = false := beq_eq_false_iff_ne.2 h0
        have hs : ∀ W, (Instr.slice 23 (.slice (some ⟨g, off, none⟩) n c2) none (some (.int .i64 ((j : Int) + 1))) none).run Try.prog W = .ok (.slice (some ⟨g, off, none⟩) (j + 1) c2) W := fun W => HS.out (j + 1) (by omega) (by omega) W
        clear h1 h2 h0
        go_wp2
        go_ret
        exact ⟨by rw [← H3.out]; rfl, rfl⟩
/-- Levels without empty ones at the end: a value, whatever the world. -/
theorem mtrimmed_all (A : Option Addr) (n c : Nat) (R : LvL) (hn : n = R.length) (hl : n ≤ 100000) : ∃ A' c', ∀ w, LvsHas w (.slice A n c) R →
    Calls Try.prog 19 #[.slice A n c] w (MTrimEnd w (trimL R).length A' c') ∧ LvsHas w (.slice A' (trimL R).length c') (trimL R) :=
  ⟨A, c, fun w h => ⟨mtrimmed_any A n c R w h hn hl, by
    obtain ⟨e, h2⟩ := mtrim_told h hn rfl
    rw [← e]
    exact h2⟩⟩
theorem mltrim_all (A : Option Addr) (n c : Nat) (R : LvL) (hn : n = R.length) (hl : n ≤ 100000) : ∃ A' c', ∀ w, LvsHas w (.slice A n c) R →
    Calls Try.prog 23 #[.slice A n c] w (MTrimEnd w (trimL R).length A' c') ∧ LvsHas w (.slice A' (trimL R).length c') (trimL R) := by
  by_cases h0 : trimN R n = 0
  · obtain ⟨A', c', hs⟩ := mslice_none (n := n) (c := c) (A := A)
    refine ⟨A', c', fun w h => ⟨mltrim_run A A' n c c' R w h hn hl (fun _ => hs) (fun e => absurd h0 e), ?_⟩⟩
    have e2 : trimL R = [] := by unfold trimL; rw [← hn, h0, List.take_zero]
    rw [e2]
    exact LvsHas.nil w A' c'
  · refine ⟨A, c, fun w h => ⟨mltrim_run A A n c c R w h hn hl (fun e => absurd e h0) (fun _ => ⟨rfl, rfl⟩), ?_⟩⟩
    obtain ⟨e, h2⟩ := mtrim_told h hn rfl
    rw [← e]
    exact h2
end Go.Proofs.Ytcfidpjhemjbjaa
