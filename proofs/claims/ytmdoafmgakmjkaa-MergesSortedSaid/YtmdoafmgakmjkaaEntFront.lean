/- A place, looked for by halves: the program's. -/
import Derived.Test.YtmdoafmgakmjkaaEntOne
import Derived.Test.YtmdoafmgakmjkaaEntSorted
import Derived.Shelf.Abstract
import Derived.WalkMore
namespace Go.Proofs.Ytmdoafmgakmjkaa
open Go.RowKit Go.Shelf
set_option linter.unusedVariables false

/-- A slice value, whichever it has; its elements' cells. -/
theorem EntsIn.form {w : World} {v : Value} {l : List EntS} (h : EntsIn w v l) : ∃ A off cap, v = .slice A l.length cap ∧ l.length ≤ maxLen ∧
    ∀ i x, l[i]? = some x → ∃ b, A = some ⟨b, off, none⟩ ∧ b < w.heap.size ∧ w.cell? ⟨b, off + i * 3, none⟩ = some (.int .u64 (x.h : Nat)) ∧ w.cell? ⟨b, off + i * 3 + 1, none⟩ = some (.int .i64 x.v) ∧ w.cell? ⟨b, off + i * 3 + 2, none⟩ = some (.int .i64 x.p) := by
  rcases h with ⟨rfl, a, c, rfl⟩ | ⟨b, off, cap, rfl, h2, h3, h4, h5⟩
  · exact ⟨a, 0, c, rfl, Nat.zero_le _, fun i x h => by simp at h⟩
  · exact ⟨some ⟨b, off, none⟩, off, cap, rfl, by omega, fun i x hx => ⟨b, rfl, h4, h5 i x hx 0 _ rfl, h5 i x hx 1 _ rfl, h5 i x hx 2 _ rfl⟩⟩
def FrontEnd (q : EntS → Bool) (l : List EntS) (w : World) (e : Ending) (w' : World) : Prop := ∃ k : Nat, k ≤ l.length ∧ e = .returned (.int .i64 (k : Nat)) ∧ (∀ K, K ≤ l.length → IsCut q l K → k = K) ∧ Below w.heap.size w w'
theorem half_at (a b : Nat) (h : a ≤ b) : ((b : Int) - (a : Int)).tdiv 2 = (((b - a) / 2 : Nat) : Int) := by
  have e : (b : Int) - (a : Int) = ((b - a : Nat) : Int) := by omega
  rw [e]
  rfl
theorem half_half (a b : Nat) (h : a ≤ b) : ((b - a : Nat) : Int) / 2 = (((b - a) / 2 : Nat) : Int) := rfl

set_option maxHeartbeats 1000000 in
set_option maxRecDepth 100000 in
theorem front_any (f : FuncId) (g : Nat) (q : EntS → Bool) (v : Value) (l : List EntS) (w : World) (hl : EntsIn w v l) (hn : l.length ≤ 1000000) (hE : Enters Try.prog f)
    (hc : ∀ (x : EntS) (W : World), Below w.heap.size w W → Calls Try.prog f #[entB x, .pointer (some ⟨g, 0, none⟩)] W fun e W' => e = .returned (.bool (q x)) ∧ Below W.heap.size W W') :
    Calls Try.prog 19 #[v, .func (.func f) #[] #[.pointer (some ⟨g, 0, none⟩)]] w (FrontEnd q l w) := by
  obtain ⟨A, off, cap, rfl, -, hcell⟩ := hl.form
  have HC := Lib.hid hc
  have HL := Lib.hid hcell
  unfold Enters at hE
  obtain ⟨n, hnn⟩ : ∃ n, n = l.length := ⟨_, rfl⟩
  have HN := Lib.hid hnn
  rw [← hnn] at hn ⊢
  clear hl hc hcell hnn
  go_enter Try.func19, Try.ntmps19
  go_wp2
  go_step3
  go_wp2
  go_step3
  go_wp2
  go_loopw [5, 6] (fun lo hi wr => ∃ a b : Nat, a ≤ b ∧ b ≤ n ∧ lo = .int .i64 a ∧ hi = .int .i64 b ∧ (∀ K, K ≤ n → IsCut q l K → a ≤ K ∧ K ≤ b) ∧ Below w.heap.size w wr) (fun lo hi _ => (intOf hi).toNat - (intOf lo).toNat)
  case atStart => exact ⟨0, n, Nat.zero_le _, Nat.le_refl _, rfl, rfl, fun K h _ => ⟨Nat.zero_le _, h⟩, Below.refl _ _⟩
  case round =>
    obtain ⟨a, b, hab, hbn, rfl, rfl, hK, hbel⟩ := hrel
    have HK := Lib.hid hK
    clear hK
    have hm := half_at a b hab
    have hm2 := half_half a b hab
    by_cases hlt : a < b
    · have t : ((a : Int) == (b : Int)) = false := beq_eq_false_iff_ne.2 (by omega)
      obtain ⟨d, hd⟩ : ∃ d, d = (b - a) / 2 := ⟨_, rfl⟩
      rw [← hd] at hm hm2
      have hmb : a + d < b := by omega
      have hd2 : (d : Int) ≤ 1000000 := by omega
      obtain ⟨x, hx⟩ : ∃ x, l[a + d]? = some x := ⟨_, List.getElem?_eq_getElem (by rw [← HN.out]; omega)⟩
      have HX := Lib.hid hx
      obtain ⟨bk, rfl, hbk, d0, d1, d2⟩ := HL.out (a + d) _ hx
      have c0 := (hbel.cell (p := ⟨bk, off + (a + d) * 3, none⟩) hbk).trans d0
      have c1 := (hbel.cell (p := ⟨bk, off + (a + d) * 3 + 1, none⟩) hbk).trans d1
      have c2 := (hbel.cell (p := ⟨bk, off + (a + d) * 3 + 2, none⟩) hbk).trans d2
      clear d0 d1 d2 hx hd
      have hcl := HC.out x wr hbel
      cases hq : q x
      all_goals
        rw [hq] at hcl
        have HCL := Lib.hid hcl
        have HQ := Lib.hid hq
        clear hq hcl
        go_wp2_with fail
        refine HCL.out.mono ?_
        rintro e w2 ⟨rfl, hb2⟩
        have hbel2 := bj hbel hb2
        clear hbel hb2 c0 c1 c2
        go_wp2
        go_roundw
        case rel =>
          first
          | exact ⟨a + d + 1, b, by omega, hbn, by go_num, rfl, fun K h1 h2 => ⟨by have h3 := h2 (a + d) x HX.out; rw [HQ.out] at h3; have := of_decide_eq_true h3.symm; omega, (HK.out K h1 h2).2⟩, hbel2⟩
          | exact ⟨a, a + d, by omega, by omega, rfl, by go_num, fun K h1 h2 => ⟨(HK.out K h1 h2).1, by have h3 := h2 (a + d) x HX.out; rw [HQ.out] at h3; have := of_decide_eq_false h3.symm; omega⟩, hbel2⟩
        case measure => simp [intOf]; omega
    · obtain rfl : a = b := by omega
      go_wp2
      go_ret
      exact ⟨a, by rw [← HN.out]; exact hbn, rfl, fun K h1 h2 => by have := HK.out K (by rw [HN.out]; exact h1) h2; omega, hbel⟩
end Go.Proofs.Ytmdoafmgakmjkaa
