/- A table of some entries: what the statements make. -/
import Derived.Test.YtiaobmgafhcfnaaMtAdd
namespace Go.Proofs.Ytiaobmgafhcfnaa
open Go.RowKit Go.Shelf
set_option linter.unusedVariables false

def TableEnd (w : World) (l : List EntS) (e : Ending) (w' : World) : Prop := ∃ g F, e = .returned (mtp g) ∧ TabAt w' w.heap.size g F l ∧ Below w.heap.size w w'
theorem TabAt.all {w : World} {base g : Nat} {F : List Nat} {l : List EntS} (h : TabAt w base g F l) : ∀ x ∈ F, base ≤ x := by
  obtain ⟨v, h1, h2, h3, h4, h5, h6, h7⟩ := h
  exact fun x hx => (h5 x hx).1
set_option maxRecDepth 100000 in
theorem table_run {w : World} {v : Value} {l : List EntS} (hl : EntsIn w v l) (hn : l.length ≤ 10000) (hok : ∀ x ∈ l, EntOk x) : Calls Try.prog 20 #[v] w (TableEnd w (sortE l)) := by
  obtain ⟨A, off, cap, rfl, -, hcell⟩ := hl.form
  have HC := Lib.hid hcell
  have HO := Lib.hid hok
  obtain ⟨n, hnn⟩ : ∃ n, n = l.length := ⟨_, rfl⟩
  have HN := Lib.hid hnn
  have HE := Lib.hid (show sortE l = sortE (l.take n) by rw [hnn, List.take_length])
  rw [← hnn] at hn ⊢
  clear hl hcell hnn hok
  generalize sortE l = R at *
  go_enter Try.func20, Try.ntmps20
  go_wp2_with fail
  refine (tnew_any w).mono ?_
  rintro e w1 ⟨rfl, hT, hb, hlt1⟩
  have HT := Lib.hid hT
  clear hT
  go_wp2
  go_loopw [4] (fun i wr => ∃ (k : Nat) (F : List Nat), k ≤ n ∧ i = .int .i64 k ∧ TabAt wr w.heap.size w.heap.size F (sortE (l.take k)) ∧ Below w.heap.size w wr) (fun i _ => n - (intOf i).toNat)
  case atStart => exact ⟨0, _, Nat.zero_le _, rfl, HT.out, hb⟩
  case round =>
    obtain ⟨k, F, hk, rfl, hA, hbel⟩ := hrel
    by_cases hlt : k < n
    · have t1 : (k : Int) < (n : Int) := by omega
      obtain ⟨x, hx⟩ : ∃ x, l[k]? = some x := ⟨_, List.getElem?_eq_getElem (by rw [← HN.out]; exact hlt)⟩
      obtain ⟨b, rfl, hbk, d0, d1, d2⟩ := HC.out k x hx
      have e0 := (hbel.cell (p := ⟨b, off + k * 3, none⟩) hbk).trans d0
      have e1 := (hbel.cell (p := ⟨b, off + k * 3 + 1, none⟩) hbk).trans d1
      have e2 := (hbel.cell (p := ⟨b, off + k * 3 + 2, none⟩) hbk).trans d2
      have hlen : (sortE (l.take k)).length ≤ 100000 := by
        have h1 := sort_length (l.take k)
        rw [List.length_take] at h1
        omega
      have HADD := Lib.hid (add_run hA (HO.out x (List.mem_of_getElem? hx)) hlen)
      rw [← sort_take hx] at HADD
      have HALL := Lib.hid hA.all
      clear hA d0 d1 d2 hx hlen
      generalize hR1 : sortE (l.take (k + 1)) = R1 at *
      have HR1 := Lib.hid hR1
      clear hR1
      generalize (!decide (x ∈ sortE (l.take k))) = q at *
      obtain ⟨xh, xv, xp⟩ := x
      simp only at e0 e1 e2
      go_wp2_with fail
      refine HADD.out.mono ?_
      rintro e w2 ⟨F', rfl, g2, g3, g4⟩
      have HG2 := Lib.hid g2
      have hb2 : Below w.heap.size w w2 := hbel.trans (g4.below hbel.size HALL.out)
      clear e0 e1 e2 g2
      go_wp2
      go_roundw
      case rel => exact ⟨k + 1, F', by omega, by go_num, by rw [HR1.out]; exact HG2.out, hb2⟩
      case measure => simp [intOf]; omega
    · obtain rfl : k = n := by omega
      have t1 : ¬ (k : Int) < (k : Int) := by omega
      have HR := Lib.hid (show TabAt wr w.heap.size w.heap.size F R by rw [HE.out]; exact hA)
      clear hA
      go_wp2
      go_ret
      exact ⟨_, F, rfl, HR.out, hbel⟩
end Go.Proofs.Ytiaobmgafhcfnaa
