/- The document's disk in memory; Find, Used, may, change. -/
import Derived.Test.YtfpimebamkmjoaaOwn
import Derived.Test.YtfpimebamkmjoaaDiskMath
namespace Go.Proofs.Ytfpimebamkmjoaa
open Go.RowKit
set_option linter.unusedVariables false

/-- A file's cells. -/
def fcells (f : FileS) : List Value := [.string f.name, .string f.data, .int .i64 f.synced]
def frow (l : List FileS) : List Value := l.flatMap fcells
theorem frow_length (l : List FileS) : (frow l).length = l.length * 3 := by
  induction l with
  | nil => rfl
  | cons f l ih =>
    have e : frow (f :: l) = fcells f ++ frow l := rfl
    rw [e, List.length_append, ih, List.length_cons]
    show 3 + l.length * 3 = _
    omega
theorem frow_at (l : List FileS) : ∀ (k : Nat) (f : FileS), l[k]? = some f → ∀ j, j < 3 → (frow l)[k * 3 + j]? = (fcells f)[j]? := by
  induction l with
  | nil => intro k f h; simp at h
  | cons x l ih =>
    intro k f h j hj
    have e : frow (x :: l) = fcells x ++ frow l := rfl
    have hl : (fcells x).length = 3 := rfl
    rw [e]
    cases k with
    | zero =>
      obtain rfl : x = f := by simpa using h
      rw [Nat.zero_mul, Nat.zero_add, List.getElem?_append_left (by omega)]
    | succ k =>
      rw [List.getElem?_append_right (by omega), hl, show (k + 1) * 3 + j - 3 = k * 3 + j by omega]
      exact ih k f (by simpa using h) j hj
def ints (l : List Int) : List Value := l.map (Value.int .i64)

/-- The document's disk lies at g, in the blocks F. -/
def RefAt (w : World) (base g : Nat) (F : List Nat) (D : DiskS) : Prop :=
  ∃ vL vK, Blok w g 38 #[.int .i64 D.cap, vL, .int .i64 D.count, .bool D.down, .int .i64 D.starts, .int .i64 D.fails, vK] ∧ base ≤ g ∧
    w.ownsRow base 65 3 vL D.l.length (frow D.l) ∧ w.ownsRow base 3 1 vK D.keep.length (ints D.keep) ∧
    F = g :: (vL.ownBlock.toList ++ vK.ownBlock.toList)
section
variable {w w' : World} {base g : Nat} {F G : List Nat} {D : DiskS}
theorem RefAt.touch (h : RefAt w base g F D) (ht : Touch G w w') (hd : ∀ x ∈ F, x ∉ G) : RefAt w' base g F D := by
  obtain ⟨vL, vK, h1, h2, h3, h4, rfl⟩ := h
  exact ⟨vL, vK, h1.touch ht (hd _ (by simp)), h2, own_touch h3 ht (fun b hb => hd b (by simp [hb])), own_touch h4 ht (fun b hb => hd b (by simp [hb])), rfl⟩
theorem RefAt.low (h : RefAt w base g F D) : ∀ x ∈ F, base ≤ x ∧ x < w.heap.size := by
  obtain ⟨vL, vK, h1, h2, h3, h4, rfl⟩ := h
  intro x hx
  simp only [List.mem_cons, List.mem_append, Option.mem_toList] at hx
  rcases hx with rfl | hx | hx
  · exact ⟨h2, h1.lt⟩
  · exact h3.lt x hx
  · exact h4.lt x hx
theorem RefAt.drew (h : RefAt w base g F D) : RefAt w.drew base g F D := h
theorem RefAt.mem (h : RefAt w base g F D) : g ∈ F := by
  obtain ⟨vL, vK, h1, h2, h3, h4, rfl⟩ := h
  simp
/-- The cells of the disk, and of its files. -/
theorem RefAt.view (h : RefAt w base g F D) : ∃ A cap vK, (∀ i, w.frozen? ⟨g, i, none⟩ = false) ∧
    w.cell? ⟨g, 0, none⟩ = some (.int .i64 D.cap) ∧ w.cell? ⟨g, 1, none⟩ = some (.slice A D.l.length cap) ∧ w.cell? ⟨g, 2, none⟩ = some (.int .i64 D.count) ∧ w.cell? ⟨g, 3, none⟩ = some (.bool D.down) ∧
    w.cell? ⟨g, 4, none⟩ = some (.int .i64 D.starts) ∧ w.cell? ⟨g, 5, none⟩ = some (.int .i64 D.fails) ∧ w.cell? ⟨g, 6, none⟩ = some vK ∧ D.l.length ≤ cap ∧ cap ≤ maxLen ∧
    ∀ k f, D.l[k]? = some f → ∃ b, A = some ⟨b, 0, none⟩ ∧ w.cell? ⟨b, k * 3, none⟩ = some (.string f.name) ∧ w.cell? ⟨b, k * 3 + 1, none⟩ = some (.string f.data) ∧ w.cell? ⟨b, k * 3 + 2, none⟩ = some (.int .i64 f.synced) := by
  obtain ⟨vL, vK, h1, h2, h3, h4, rfl⟩ := h
  obtain ⟨A, cap, rfl, n1, n2, n3, _⟩ := own_form h3
  refine ⟨A, cap, vK, h1.frozen, h1.cell 0, h1.cell 1, h1.cell 2, h1.cell 3, h1.cell 4, h1.cell 5, h1.cell 6, n1, n2, fun k f hk => ?_⟩
  have hlt : k < D.l.length := (List.getElem?_eq_some_iff.1 hk).1
  obtain ⟨b, rfl, _⟩ := n3 (by omega)
  refine ⟨b, rfl, ?_, ?_, ?_⟩
  · rw [h3.cellAt (k * 3) (by omega)]; exact frow_at D.l k f hk 0 (by decide)
  · rw [h3.cellAt (k * 3 + 1) (by omega)]; exact frow_at D.l k f hk 1 (by decide)
  · rw [h3.cellAt (k * 3 + 2) (by omega)]; exact frow_at D.l k f hk 2 (by decide)
end

theorem some_at {l : List FileS} {k : Nat} (h : k < l.length) : ∃ f, l[k]? = some f := ⟨l[k], List.getElem?_eq_getElem h⟩

/-- Find's answer. -/
def foundV (l : List FileS) (n : ByteArray) : Int := if findS l n < l.length then (findS l n : Int) else -1

theorem str_ne {a b : ByteArray} (h : a ≠ b) : (a.toList == b.toList) = false := by
  refine beq_eq_false_iff_ne.2 (fun e => h ?_)
  rw [ByteArray.toList_eq, ByteArray.toList_eq] at e
  exact ByteArray.ext (Array.toList_inj.1 e)
theorem str_eq (a : ByteArray) : (a.toList == a.toList) = true := by simp

theorem find_lt {l : List FileS} {n : ByteArray} {k : Nat} {f : FileS} (h : l[k]? = some f) (hf : f.name = n) : findS l n ≤ k := by
  unfold findS
  have hk : k < l.length := (List.getElem?_eq_some_iff.1 h).1
  rcases Nat.lt_or_ge k (l.findIdx (fun f => decide (f.name = n))) with c | c
  · have := List.not_of_lt_findIdx c
    rw [List.getElem?_eq_getElem hk] at h
    have e : l[k] = f := by simpa using h
    rw [e] at this
    simp [hf] at this
  · exact c
theorem find_at {l : List FileS} {n : ByteArray} (h : findS l n < l.length) : ∃ f, l[findS l n]? = some f ∧ f.name = n := by
  have h' : l.findIdx (fun f => decide (f.name = n)) < l.length := h
  have := List.findIdx_getElem (w := h')
  exact ⟨l[findS l n], List.getElem?_eq_getElem h, of_decide_eq_true this⟩
theorem find_le (l : List FileS) (n : ByteArray) : findS l n ≤ l.length := List.findIdx_le_length
theorem found_yes {l : List FileS} {k : Nat} {f : FileS} (h : l[k]? = some f) (hn : ∀ j g, j < k → l[j]? = some g → g.name ≠ f.name) : foundV l f.name = (k : Int) := by
  have h1 := find_lt h rfl
  have hk : k < l.length := (List.getElem?_eq_some_iff.1 h).1
  obtain ⟨g, hg, e⟩ := find_at (l := l) (n := f.name) (by omega)
  unfold foundV
  rw [if_pos (by omega)]
  rcases Nat.lt_or_ge (findS l f.name) k with c | c
  · exact absurd e (hn _ g c hg)
  · omega
theorem found_no {l : List FileS} {n : ByteArray} (hn : ∀ j g, j < l.length → l[j]? = some g → g.name ≠ n) : foundV l n = -1 := by
  unfold foundV
  rw [if_neg]
  intro hlt
  obtain ⟨g, hg, e⟩ := find_at hlt
  exact hn _ g hlt hg e
theorem none_next {l : List FileS} {n : ByteArray} {k : Nat} {f : FileS} (h : l[k]? = some f) (hn : ∀ j g, j < k → l[j]? = some g → g.name ≠ n) (hf : ¬ f.name = n) : ∀ j g, j < k + 1 → l[j]? = some g → g.name ≠ n := by
  intro j g hj hg
  rcases Nat.lt_or_ge j k with c | c
  · exact hn j g c hg
  · obtain rfl : j = k := by omega
    rw [h] at hg
    obtain rfl : f = g := by simpa using hg
    exact hf

set_option maxHeartbeats 1000000 in
theorem find_ref {base g : Nat} {F : List Nat} {D : DiskS} (n : ByteArray) (w : World) (h : RefAt w base g F D) :
    Calls Try.prog 59 #[.pointer (some ⟨g, 0, none⟩), .string n] w fun e w' => e = .returned (.int .i64 (foundV D.l n)) ∧ w = w' := by
  obtain ⟨A, cap, vK, _, _, c1, _, _, _, _, _, n1, n2, hf⟩ := h.view
  unfold maxLen at n2
  go_enter Try.func59, Try.ntmps59
  go_wp2
  go_loop [5] (fun i => ∃ k : Nat, k ≤ D.l.length ∧ i = .int .i64 k ∧ ∀ j f, j < k → D.l[j]? = some f → f.name ≠ n) (fun i => D.l.length - (intOf i).toNat)
  case atStart => exact ⟨0, Nat.zero_le _, rfl, fun j f hj => by omega⟩
  case round =>
    obtain ⟨k, hk, rfl, hn⟩ := hrel
    by_cases hlt : k < D.l.length
    · obtain ⟨f, hfk⟩ := some_at hlt
      obtain ⟨b, rfl, d0, _, _⟩ := hf k f hfk
      have HN := Lib.hid hn
      clear hn hf
      by_cases he : f.name = n
      · subst he
        have hv := Lib.hid (found_yes hfk HN.out)
        go_wp2
        go_ret
        exact ⟨ret_int hv.out.symm, rfl⟩
      · have hb : (f.name.toList == n.toList) = false := str_ne he
        have HE := Lib.hid he
        clear he
        go_wp2
        go_round
        case rel => exact ⟨k + 1, by omega, by go_num, none_next hfk HN.out HE.out⟩
        case measure => simp [intOf]; omega
    · obtain rfl : k = D.l.length := by omega
      have hv := Lib.hid (found_no hn)
      clear hn hf
      go_wp2
      go_ret
      exact ⟨ret_int hv.out.symm, rfl⟩

theorem used_take (l : List FileS) (k : Nat) (f : FileS) (h : l[k]? = some f) : usedS (l.take (k + 1)) = usedS (l.take k) + f.data.size := by
  unfold usedS
  rw [List.take_add_one, h, List.map_append, List.sum_append]
  simp
theorem used_le (l : List FileS) (k : Nat) : usedS (l.take k) ≤ usedS l := by
  have h : usedS l = usedS (l.take k) + usedS (l.drop k) := by
    unfold usedS
    rw [← List.sum_append, ← List.map_append, List.take_append_drop]
  omega
set_option maxHeartbeats 1000000 in
theorem used_ref {base g : Nat} {F : List Nat} {D : DiskS} (w : World) (h : RefAt w base g F D) (hu : usedS D.l ≤ 1048576) :
    Calls Try.prog 46 #[.pointer (some ⟨g, 0, none⟩)] w fun e w' => e = .returned (.int .i64 (usedS D.l : Nat)) ∧ w = w' := by
  obtain ⟨A, cap, vK, _, _, c1, _, _, _, _, _, n1, n2, hf⟩ := h.view
  unfold maxLen at n2
  go_enter Try.func46, Try.ntmps46
  go_wp2
  go_loop [3, 4] (fun u i => ∃ k : Nat, k ≤ D.l.length ∧ i = .int .i64 k ∧ u = .int .i64 (usedS (D.l.take k) : Nat)) (fun _ i => D.l.length - (intOf i).toNat)
  case atStart => exact ⟨0, Nat.zero_le _, rfl, rfl⟩
  case round =>
    obtain ⟨k, hk, rfl, rfl⟩ := hrel
    by_cases hlt : k < D.l.length
    · obtain ⟨f, hfk⟩ := some_at hlt
      obtain ⟨b, rfl, _, d1, _⟩ := hf k f hfk
      have e := used_take D.l k f hfk
      have u1 := used_le D.l (k + 1)
      have E := Lib.hid e
      have u2 : usedS (D.l.take k) + f.data.size ≤ 1048576 := by omega
      clear hf e u1
      generalize usedS (D.l.take k) = u at *
      go_wp2
      go_round
      case rel => exact ⟨k + 1, by omega, by go_num, by rw [E.out]; go_num⟩
      case measure => simp [intOf]; omega
    · obtain rfl : k = D.l.length := by omega
      have e : usedS (D.l.take D.l.length) = usedS D.l := by rw [List.take_length]
      have E := Lib.hid e
      clear hf e
      generalize usedS (D.l.take D.l.length) = u at *
      go_wp2
      go_ret
      exact ⟨ret_int (by rw [E.out]), rfl⟩

theorem may_ref (n : ByteArray) (w : World) (hn : n.size ≤ maxLen) : Calls Try.prog 58 #[.string n] w fun e w' => e = .returned (.bool (nameB n)) ∧ w = w' := by
  unfold maxLen at hn
  by_cases h1 : 0 < n.size
  · by_cases h2 : n.size ≤ 12
    · have e : nameB n = true := by unfold nameB; rw [decide_eq_true h1, decide_eq_true h2]; rfl
      have t : decide ((n.size : Int) ≤ 12) = true := decide_eq_true (by omega)
      rw [e]
      clear e
      go_enter Try.func58, Try.ntmps58
      go_wp2
      go_ret
      exact ⟨rfl, rfl⟩
    · have e : nameB n = false := by unfold nameB; rw [decide_eq_false h2, Bool.and_false]
      have t : decide ((n.size : Int) ≤ 12) = false := decide_eq_false (by omega)
      rw [e]
      clear e
      go_enter Try.func58, Try.ntmps58
      go_wp2
      go_ret
      exact ⟨rfl, rfl⟩
  · have e : nameB n = false := by unfold nameB; rw [decide_eq_false h1, Bool.false_and]
    have t : decide ((0 : Int) < (n.size : Int)) = false := decide_eq_false (by omega)
    have t2 : n.size = 0 := by omega
    rw [e]
    clear e
    go_enter Try.func58, Try.ntmps58
    go_wp2
    go_ret
    exact ⟨rfl, rfl⟩

end Go.Proofs.Ytfpimebamkmjoaa
