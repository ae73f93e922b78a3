/- The walk of RecordsEnds, over what the program's records answer. -/
import Derived.Test.YtabalpcgnkjelaaRecorded
import Derived.Test.YtabalpcgnkjelaaRecRow
namespace Go.Proofs.Ytabalpcgnkjelaa
open Go.RowKit
set_option linter.unusedVariables false

theorem row_part (a : ByteArray) (l : List ByteArray) (j : Nat) (p : ByteArray) (hp : l[j]? = some p) : rowS a l = rowS a (l.take j) ++ recS p ++ rowS ByteArray.empty (l.drop (j + 1)) := by
  have h1 : l = (l.take j ++ [p]) ++ l.drop (j + 1) := by
    rw [← take_nx l j p hp, List.take_append_drop]
  have h2 : rowS a l = rowS a ((l.take j ++ [p]) ++ l.drop (j + 1)) := by rw [← h1]
  rw [h2, rowS_app, rowS_snoc, rowS_split]
theorem bs_eq_self (r : ByteArray) : (r.toList != r.toList) = false ∧ (!(r.toList == r.toList)) = false ∧ (r.toList == r.toList) = true := by simp

set_option maxHeartbeats 1600000 in
set_option maxRecDepth 100000 in
theorem ends_walk (api : RecApi) (a : ByteArray) (v : Value) (l : List ByteArray) (w : World) (ha : a.size ≤ maxLen) (hx : ∀ p ∈ l, p.size ≤ maxLen) (hv : StrsIn w v l) :
    Calls Try.prog 9 #[.string a, v] w fun e w' => e = .returned (.bool true) ∧ Below w.heap.size w w' := by
  have HR := Lib.hid (recorded_true api)
  have HROW := Lib.hid (row_any a v l w ha hx hv)
  obtain ⟨A, c, rfl, hlm⟩ := hv.form
  have HV := Lib.hid hv
  unfold maxLen at hlm
  clear hv hx ha
  go_enter Try.func9, Try.ntmps9
  go_wp2_with fail
  refine HROW.out.mono ?_
  rintro e w1 ⟨⟨hno, rfl⟩ | ⟨hok, u, rfl, hu⟩, hb1⟩
  · go_wp2_with fail
    refine (HR.out _).mono ?_
    rintro e w2 ⟨rfl, hb2⟩
    go_wp2
    go_ret
    exact ⟨rfl, bj hb1 hb2⟩
  · obtain ⟨B, off, cap, rfl, hB, hcell⟩ := hu.cell
    have HC := Lib.hid hcell
    have h20 := hok.2.1
    have HOK := Lib.hid hok
    have hrl := rowAt_length a l
    have hsz := rowS_size a l hok.2.2
    have h300 := hok.1
    rw [hrl]
    clear hu hcell hok HROW hB hrl
    have e0 : ((l.length : Int) - 1) = (l.length : Int) - 1 := rfl
    go_wp2
    go_loopw [8, 9] (fun f i wr => ∃ (x : Int) (k E : Nat), x = (k : Int) - 1 ∧ k ≤ l.length ∧ i = .int .i64 x ∧ f = .int .i64 (E : Nat) ∧ E = (rowS a (l.take k)).size ∧ Below w1.heap.size w1 wr) (fun _ i _ => (intOf i + 1).toNat)
    case atStart => exact ⟨(l.length : Int) - 1, l.length, (rowS a l).size, rfl, Nat.le_refl _, rfl, rfl, by rw [List.take_length], Below.refl _ _⟩
    case round =>
      obtain ⟨x, k, E, hxk, hk, rfl, rfl, hE, hbel⟩ := hrel
      by_cases h0 : 0 ≤ x
      · obtain ⟨j, rfl⟩ : ∃ j : Nat, x = j := ⟨x.toNat, by omega⟩
        obtain rfl : k = j + 1 := by omega
        have hj : j < l.length := by omega
        obtain ⟨p, hp⟩ : ∃ p, l[j]? = some p := ⟨l[j], List.getElem?_eq_getElem hj⟩
        have hp988 := HOK.out.2.2 p (List.mem_of_getElem? hp)
        have hpart := row_part a l j p hp
        have hEs : E = (rowS a (l.take j)).size + (p.size + 12) := by rw [hE, take_nx l j p hp, rowS_snoc, ByteArray.size_append, recS_size]
        obtain ⟨k1, k2, k3⟩ := rec_back (rowS a (l.take j)) p (rowS ByteArray.empty (l.drop (j + 1))) (by omega)
        rw [← hpart, ← hEs] at k1 k2 k3
        have G := fun W => api.back (rowS a l) ((E : Nat) : Int) W (by omega) (WalkArith.wf_i64 (by have := congrArg ByteArray.size hpart; rw [ByteArray.size_append, ByteArray.size_append, recS_size] at this; omega))
        unfold BackRec at G
        rw [k1, k2, k3] at G
        have HG := Lib.hid G
        obtain ⟨b, off2, rfl, hb, hc⟩ := HV.out.pos (by omega)
        have q0 := (hbel.cell (p := ⟨b, off2 + j, none⟩) (Nat.lt_of_lt_of_le hb hb1.size)).trans ((hb1.cell (p := ⟨b, off2 + j, none⟩) hb).trans (hc j p hp))
        obtain ⟨bb, rfl, d1⟩ := HC.out j _ (rowAt_at a l j (by omega))
        have hbb : bb < w1.heap.size := by
          rcases Nat.lt_or_ge bb w1.heap.size with c | c
          · exact c
          · have : w1.cell? ⟨bb, off + j, none⟩ = none := by simp [World.cell?, Array.getElem?_eq_none c]
            rw [this] at d1
            cases d1
        have q1 := (hbel.cell (p := ⟨bb, off + j, none⟩) hbb).trans d1
        have HA := Lib.hid (show (rowS a (l.take j)).size = (rowS a (l.take j)).size from rfl)
        obtain ⟨m, hm⟩ : ∃ m, (rowS a (l.take j)).size = m := ⟨_, rfl⟩
        rw [hm] at HG q1
        have HM := Lib.hid hm
        obtain ⟨z1, z2, z3⟩ := bs_eq_self p
        have z4 : ((m : Int) != (m : Int)) = false := by simp
        have s1 : (j : Int) < (l.length : Int) := by omega
        have s2 : (j : Int) < ((l.length + 1 : Nat) : Int) := by omega
        have s3 : j < l.length + 1 := by omega
        generalize hS : rowS a l = S at *
        clear G k1 k2 k3 hpart hE hEs hp hc d1 hm hS HA hxk
        go_wp2_with fail
        refine (HG.out _).mono ?_
        rintro e w2 ⟨rfl, hb2⟩
        have hbel2 := bj hbel hb2
        have q2 := (hb2.cell (p := ⟨b, off2 + j, none⟩) (Nat.lt_of_lt_of_le hb (Nat.le_trans hb1.size hbel.size))).trans q0
        have q3 := (hb2.cell (p := ⟨bb, off + j, none⟩) (Nat.lt_of_lt_of_le hbb hbel.size)).trans q1
        clear q0 q1 hb2 hbel
        go_wp2
        go_roundw
        case rel => exact ⟨(j : Int) - 1, j, m, rfl, by omega, rfl, rfl, HM.out.symm, hbel2⟩
        case measure => simp [intOf]
      · have hneg : decide (0 ≤ x) = false := decide_eq_false h0
        go_wp2_with fail
        refine (HR.out _).mono ?_
        rintro e w2 ⟨rfl, hb2⟩
        have hfin := bj hb1 (bj hbel hb2)
        go_wp2
        go_ret
        exact ⟨rfl, hfin⟩
end Go.Proofs.Ytabalpcgnkjelaa
