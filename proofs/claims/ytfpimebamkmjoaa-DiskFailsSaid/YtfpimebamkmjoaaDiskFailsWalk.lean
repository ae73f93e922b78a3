/- The walk of annalistlaw06.DiskFails, over what a disk answers. -/
import Derived.Test.YtfpimebamkmjoaaDiskCrashWalk
namespace Go.Proofs.Ytfpimebamkmjoaa
open Go.RowKit
set_option linter.unusedVariables false

abbrev nameA : ByteArray := ⟨#[97]⟩
abbrev nameBb : ByteArray := ⟨#[98]⟩
/-- The file's bytes and what is synced, behind i changes. -/
def fl : Nat → ByteArray × Nat
  | 0 => (⟨#[97, 98, 99]⟩, 3)
  | i + 1 => if i % 2 = 0 then ((fl i).1 ++ ⟨#[120]⟩, (fl i).2) else ((fl i).1, (fl i).1.size)
theorem fl_bound (i : Nat) : (fl i).2 ≤ (fl i).1.size ∧ (fl i).1.size ≤ 3 + i := by
  induction i with
  | zero => exact ⟨by decide, by decide⟩
  | succ i ih =>
    have e : fl (i + 1) = if i % 2 = 0 then ((fl i).1 ++ ⟨#[120]⟩, (fl i).2) else ((fl i).1, (fl i).1.size) := rfl
    rw [e]
    have h1 : (⟨#[120]⟩ : ByteArray).size = 1 := rfl
    split
    · refine ⟨?_, ?_⟩
      · show (fl i).2 ≤ ((fl i).1 ++ ⟨#[120]⟩).size
        rw [ByteArray.size_append, h1]; omega
      · show ((fl i).1 ++ ⟨#[120]⟩).size ≤ _
        rw [ByteArray.size_append, h1]; omega
    · exact ⟨Nat.le_refl _, by show (fl i).1.size ≤ _; omega⟩
def flS (K p i : Nat) : DiskS := oneS nameA (fl i).1 (fl i).2 0 false 0 (K - i + 1) [(p : Int)]
theorem flS_ok (K p i : Nat) (hi : i ≤ K) (hK : K ≤ 20) : RefOk (flS K p i) := one_ok (fl_bound i).1 (by have := (fl_bound i).2; omega) (by omega)
theorem fl_even {i : Nat} (h : i % 2 = 0) : fl (i + 1) = ((fl i).1 ++ ⟨#[120]⟩, (fl i).2) := by show (if _ then _ else _) = _; rw [if_pos h]
theorem fl_odd {i : Nat} (h : ¬ i % 2 = 0) : fl (i + 1) = ((fl i).1, (fl i).1.size) := by show (if _ then _ else _) = _; rw [if_neg h]
theorem flS_append {K p i : Nat} (hi : i < K) (hK : K ≤ 20) (h : i % 2 = 0) : appendS (flS K p i) nameA ⟨#[120]⟩ = (0, flS K p (i + 1)) := by
  unfold flS
  have hb := (fl_bound i).2
  have h1 : (⟨#[120]⟩ : ByteArray).size = 1 := rfl
  rw [one_append (by omega) (by omega), fl_even h, show K - i + 1 - 1 = K - (i + 1) + 1 by omega]
theorem flS_sync {K p i : Nat} (hi : i < K) (h : ¬ i % 2 = 0) : syncS (flS K p i) nameA = (0, flS K p (i + 1)) := by
  unfold flS
  rw [one_sync (by omega), fl_odd h, show K - i + 1 - 1 = K - (i + 1) + 1 by omega]
/-- The disk that has sunk. -/
def sunkX (d : ByteArray) (s p : Nat) : DiskS := oneS nameA (d.extract 0 (s + min p (d.size - s))) (s + min p (d.size - s)) 0 true 0 0 []
theorem sink_last (d : ByteArray) (s p : Nat) : sinkS (oneS nameA d s 0 false 0 1 [(p : Int)]) [(p : Int)] = sunkX d s p := rfl
theorem last_create (d : ByteArray) (s p : Nat) : createS (oneS nameA d s 0 false 0 1 [(p : Int)]) nameBb = (61, sunkX d s p) := by
  unfold createS doneS
  have e : findS (oneS nameA d s 0 false 0 1 [(p : Int)]).l nameBb = 1 := by
    show findS [⟨nameA, d, s⟩] nameBb = 1
    unfold findS
    simp [List.findIdx_cons]
  rw [if_neg (by show ¬ false = true; decide), if_neg (by decide), e, if_neg (by show ¬ 1 < 1; decide), if_neg (by show ¬ 400 ≤ 1; decide)]
  rfl
theorem last_delete (d : ByteArray) (s p : Nat) : deleteS (oneS nameA d s 0 false 0 1 [(p : Int)]) nameA = (61, sunkX d s p) := by
  unfold deleteS doneS
  have e : findS (oneS nameA d s 0 false 0 1 [(p : Int)]).l nameA = 0 := one_find nameA d s
  rw [if_neg (by show ¬ false = true; decide), e, if_pos (by show 0 < 1; decide)]
  rfl
theorem last_rename (d : ByteArray) (s p : Nat) : renameS (oneS nameA d s 0 false 0 1 [(p : Int)]) nameA nameBb = (61, sunkX d s p) := by
  unfold renameS doneS
  have e : findS (oneS nameA d s 0 false 0 1 [(p : Int)]).l nameA = 0 := one_find nameA d s
  rw [if_neg (by show ¬ false = true; decide), e, if_pos (by show 0 < 1; decide), if_neg (by decide)]
  rfl
theorem last_sync (d : ByteArray) (s p : Nat) : syncS (oneS nameA d s 0 false 0 1 [(p : Int)]) nameA = (61, sunkX d s p) := by
  rw [one_sync_last]
  rfl
theorem last_append (d x : ByteArray) (s p : Nat) (h : d.size + x.size ≤ 5000) : appendS (oneS nameA d s 0 false 0 1 [(p : Int)]) nameA x = (61, sunkX (d ++ x) s p) := by
  rw [one_append_last h]
  rfl

section
variable {At : Lies} (api : DiskApi At) {w0 w : World} {g : Nat} {D : DiskS}
include api
theorem delete_l (n : ByteArray) (h : Live At w0 g D w) (ho : RefOk D) {r : Nat} (hr : (deleteS D n).1 = r) {E : DiskS} (hE : (deleteS D n).2 = E) (hnm : n.size ≤ maxLen := by decide) :
    Calls Try.prog 24 #[ptr g, .string n] w (LiveEnd At w0 g (.int .i64 (r : Nat)) E) := by
  obtain ⟨F, h1, ht⟩ := h
  subst hr hE
  exact (api.delete n h1 ho.prog hnm).mono fun e w' he => EndAt.live api h1 ht he
theorem rename_l (n m : ByteArray) (h : Live At w0 g D w) (ho : RefOk D) (hm : m.size ≤ maxLen) {r : Nat} (hr : (renameS D n m).1 = r) {E : DiskS} (hE : (renameS D n m).2 = E) (hnm : n.size ≤ maxLen := by decide) :
    Calls Try.prog 23 #[ptr g, .string n, .string m] w (LiveEnd At w0 g (.int .i64 (r : Nat)) E) := by
  obtain ⟨F, h1, ht⟩ := h
  subst hr hE
  exact (api.rename n m h1 ho.prog hm hnm).mono fun e w' he => EndAt.live api h1 ht he
/-- Names that are told: so many. -/
def NamesEnd (At : Lies) (w0 : World) (g : Nat) (m : Nat) (D : DiskS) (e : Ending) (w' : World) : Prop := ∃ A c, e = .returned (.slice A m c) ∧ Live At w0 g D w'
theorem names_l (h : Live At w0 g D w) (ho : RefOk D) {m : Nat} (hm : D.l.length = m) : Calls Try.prog 25 #[ptr g] w (NamesEnd At w0 g m D) := by
  obtain ⟨F, h1, ht⟩ := h
  refine (api.names h1 ho.prog).mono ?_
  rintro e w' ⟨F', v, e1, e2, e3, e4, e5, e6⟩
  have hlive : Live At w0 g D w' := ⟨F', e4, ht.trans e6 (fun x hx => Or.inr (api.low h1 x hx).1)⟩
  have hl : (D.l.map FileS.name).length = m := by rw [List.length_map, hm]
  rcases e2 with ⟨q, a, c, rfl⟩ | ⟨b, off, cap, rfl, _⟩
  · rw [q] at hl
    obtain rfl : m = 0 := by simpa using hl.symm
    exact ⟨a, c, e1, hlive⟩
  · rw [hl] at e1
    exact ⟨_, cap, e1, hlive⟩
end

theorem fail_first {K p : Nat} (hK : K < 20) : failS (oneS nameA ⟨#[97, 98, 99]⟩ 3 0 false 0 0 []) (K : Int) [(p : Int)] = (0, flS K p 0) := by
  unfold failS
  rw [if_neg (by show ¬ false = true; decide), if_neg (by omega)]
  have e : min ((K : Int)).toNat 1099511627776 + 1 = K - 0 + 1 := by omega
  rw [e]
  rfl
theorem flS_last (K p : Nat) : flS K p K = oneS nameA (fl K).1 (fl K).2 0 false 0 1 [(p : Int)] := by unfold flS; rw [Nat.sub_self]

set_option maxRecDepth 100000 in
set_option maxHeartbeats 8000000 in
theorem fails_walk {At : Lies} (api : DiskApi At) (a0 a1 a2 : Int) (w0 : (Lit.int .u8 a0).wf = true) (w1 : (Lit.int .u8 a1).wf = true) (w2 : (Lit.int .u8 a2).wf = true) (w : World) :
    Calls Try.prog 6 #[.int .u8 a0, .int .u8 a1, .int .u8 a2] w fun e w' => e = .returned (.bool true) ∧ Below w.heap.size w w' := by
  obtain ⟨n, rfl, hn⟩ := u8_nat w0
  obtain ⟨which, rfl, hw⟩ := u8_nat w1
  obtain ⟨p, rfl, hp⟩ := u8_nat w2
  obtain ⟨K, hK⟩ : ∃ K, n % 20 = K := ⟨_, rfl⟩
  have hK2 : K < 20 := by omega
  have hKi : (n : Int) % 20 = (K : Int) := by omega
  have HK := Lib.hid hK2
  have HP := Lib.hid hp
  have hwi : ∃ c : Nat, (which : Int) % 5 = (c : Int) ∧ (c = 0 ∨ c = 1 ∨ c = 2 ∨ c = 3 ∨ c = 4) := ⟨which % 5, by omega, by omega⟩
  obtain ⟨c, hci, hc⟩ := hwi
  clear w0 w1 w2 hK hK2
  go_enter Try.func6, Try.ntmps6
  go_wp2_with fail
  refine (new_l api w 5000 (by decide)).mono ?_
  rintro e w1 ⟨g, rfl, hL0⟩
  go_wp2_with fail
  refine (create_l api nameA hL0 (ok_of (by decide +kernel)) (by decide) (r := 0) rfl (E := oneS nameA ByteArray.empty 0 0 false 0 0 []) rfl).mono ?_
  rintro e w1 ⟨rfl, hL1⟩
  clear hL0
  go_wp2_with fail
  refine (append_l api nameA ⟨#[97, 98, 99]⟩ hL1 (one_ok (Nat.zero_le _) (by decide) (by decide)) (by decide) (r := 0) (by rw [one_append (by decide) (by decide)]) (E := oneS nameA ⟨#[97, 98, 99]⟩ 0 0 false 0 0 []) (by rw [one_append (by decide) (by decide), ByteArray.empty_append])).mono ?_
  rintro e w1 ⟨rfl, hL2⟩
  clear hL1
  go_wp2_with fail
  refine (sync_l api nameA hL2 (one_ok (Nat.zero_le _) (by decide) (by decide)) (r := 0) (by rw [one_sync (by decide)]) (E := oneS nameA ⟨#[97, 98, 99]⟩ 3 0 false 0 0 []) (by rw [one_sync (by decide)]; rfl)).mono ?_
  rintro e w1 ⟨rfl, hL3⟩
  clear hL2
  go_wp2_with fail
  rw [hKi]
  clear hKi
  refine (fail_one api (K : Int) (p : Int) hL3 (one_ok (by decide) (by decide) (by decide)) (wf_small (by omega) (by have := HK.out; omega)) (by have := HK.out; omega) (r := 0) (by rw [fail_first HK.out]) (E := flS K p 0) (by rw [fail_first HK.out])).mono ?_
  rintro e w1 ⟨rfl, hL4⟩
  clear hL3
  have HL4 := Lib.hid hL4
  clear hL4
  go_wp2_with fail
  go_loopw [10, 11, 12] (fun d u i wr => ∃ k : Nat, k ≤ K ∧ i = .int .i64 k ∧ d = .string (fl k).1 ∧ u = .int .i64 ((fl k).2 : Nat) ∧ Live At w g (flS K p k) wr) (fun _ _ i _ => K - (intOf i).toNat)
  case atStart => exact ⟨0, Nat.zero_le _, rfl, rfl, rfl, HL4.out⟩
  case round =>
    obtain ⟨k, hk, rfl, rfl, rfl, hL0⟩ := hrel
    by_cases hlt : k < K
    · have l1 : (k : Int) < (K : Int) := by omega
      have hok := Lib.hid (flS_ok K p k hk (by have := HK.out; omega))
      have hbd := (fl_bound k).2
      have hk30 : k < 20 := by have := HK.out; omega
      by_cases hev : k % 2 = 0
      · have ev := Lib.hid (fl_even hev)
        have hap := Lib.hid (flS_append (p := p) hlt (by have := HK.out; omega) hev)
        have t2 : ((k : Int) % 2 == 0) = true := beq_iff_eq.2 (by omega)
        have hadd : ∀ wx : World, (Op.stringOp .add (fl k).1 ⟨#[120]⟩).run Try.prog wx = .ok (.string ((fl k).1 ++ ⟨#[120]⟩)) wx := fun wx => run_string_add_sum (P := Try.prog) (w := wx) _ _ (by have : (⟨#[120]⟩ : ByteArray).size = 1 := rfl; omega)
        clear hev hbd
        go_wp2_with fail
        refine (append_l api nameA ⟨#[120]⟩ hL0 hok.out (by decide) (r := 0) (by rw [hap.out]) (E := flS K p (k + 1)) (by rw [hap.out])).mono ?_
        rintro e w2 ⟨rfl, hL1⟩
        clear hL0
        have HL1 := Lib.hid hL1
        clear hL1
        go_wp2
        go_roundw
        case rel => exact ⟨k + 1, by omega, by go_num, by rw [ev.out], by rw [ev.out], HL1.out⟩
        case measure => simp [intOf]; omega
      · have ev := Lib.hid (fl_odd hev)
        have hap := Lib.hid (flS_sync (p := p) hlt hev)
        have t2 : ((k : Int) % 2 == 0) = false := beq_eq_false_iff_ne.2 (by omega)
        clear hev hbd
        go_wp2_with fail
        refine (sync_l api nameA hL0 hok.out (r := 0) (by rw [hap.out]) (E := flS K p (k + 1)) (by rw [hap.out])).mono ?_
        rintro e w2 ⟨rfl, hL1⟩
        clear hL0
        have HL1 := Lib.hid hL1
        clear hL1
        go_wp2
        go_roundw
        case rel => exact ⟨k + 1, by omega, by go_num, by rw [ev.out], by rw [ev.out], HL1.out⟩
        case measure => simp [intOf]; omega
    · obtain rfl : k = K := by omega
      rw [flS_last] at hL0
      have hb := fl_bound k
      have hk30 := HK.out
      have HB := Lib.hid hb
      clear hlt hk hb
      generalize (fl k).1 = d at *
      generalize (fl k).2 = s at *
      have hz : d.size ≤ 30 := by have := HB.out.2; omega
      have hs : s ≤ d.size := HB.out.1
      have hok := Lib.hid (show RefOk (oneS nameA d s 0 false 0 1 [(p : Int)]) from one_ok hs (by omega) (by decide))
      clear HB
      rcases hc with rfl | rfl | rfl | rfl | rfl
      · go_wp2_with fail
        rw [hci]
        clear hci
        go_wp2_with fail
        refine (create_l api nameBb hL0 hok.out (by decide) (r := 61) (by rw [last_create]) (E := sunkX d s p) (by rw [last_create])).mono ?_
        rintro e w2 ⟨rfl, hL1⟩
        clear hL0
        obtain ⟨m, hm⟩ : ∃ m, m = min p (d.size - s) := ⟨_, rfl⟩
        have hmin := @min_i Try.prog (p : Int) ((d.size : Int) - (s : Int)) m (by split <;> omega)
        have hL1' : Live At w g (oneS nameA (d.extract 0 (s + m)) (s + m) 0 true 0 0 []) w2 := by rw [hm]; exact hL1
        have hmD : s + m ≤ d.size := by omega
        have hYs : (d.extract 0 (s + m)).size = s + m := by rw [ByteArray.size_extract]; omega
        have hY30 : s + m ≤ 30 := by omega
        have HYS := Lib.hid hYs
        have i1 : (0 : Int) ≤ (d.size : Int) - (s : Int) := by omega
        have i2 : ((s : Int) + (m : Int)).toNat = s + m := by omega
        have i3 : (s : Int) + (m : Int) ≤ (d.size : Int) := by omega
        have HT := Lib.hid (show RefOk (oneS nameA (d.extract 0 (s + m)) (s + m) 0 true 0 0 []) from one_ok (by omega) (by omega) (by decide))
        have HU := Lib.hid (show RefOk (oneS nameA (d.extract 0 (s + m)) (s + m) 0 false 1 0 []) from one_ok (by omega) (by omega) (by decide))
        clear hL1 hYs hm
        go_wp2_with fail
        refine (up_l api hL1' HT.out (b := false) rfl).mono ?_
        rintro e w2 ⟨rfl, hL2⟩
        clear hL1'
        go_wp2_with fail
        refine (start_l api hL2 HT.out (Nat.zero_le _) (r := 0) (by rw [one_start]) (E := oneS nameA (d.extract 0 (s + m)) (s + m) 0 false 1 0 []) (by rw [one_start])).mono ?_
        rintro e w2 ⟨rfl, hL3⟩
        clear hL2
        go_wp2_with fail
        refine (names_l api hL3 HU.out (m := 1) rfl).mono ?_
        rintro e w2 ⟨nA, nc, rfl, hL4⟩
        clear hL3
        go_wp2_with fail
        refine (append_l api nameA ⟨#[]⟩ hL4 HU.out (by decide) (r := 0) (by rw [one_append (by rw [HYS.out]; show s + m + 0 ≤ 5000; omega) (by decide)]) (E := oneS nameA (d.extract 0 (s + m)) (s + m) 0 false 1 0 []) (by rw [one_append (by rw [HYS.out]; show s + m + 0 ≤ 5000; omega) (by decide)]; show oneS _ (d.extract 0 (s + m) ++ ByteArray.empty) _ _ _ _ _ _ = _; rw [ByteArray.append_empty])).mono ?_
        rintro e w2 ⟨rfl, hL5⟩
        clear hL4
        go_wp2_with fail
        generalize hY : d.extract 0 (s + m) = Y at *
        clear hY
        refine (size_l api nameA hL5 HU.out (m := Y.size) (r := 0) (by rw [one_size]) (by rw [one_size])).mono ?_
        rintro e w2 ⟨rfl, hL6⟩
        clear hL5
        go_wp2_with fail
        refine (read_l api nameA 0 (Y.size : Nat) hL6 HU.out (Nat.zero_le _) rfl (wf_small (by omega) (by have := HYS.out; omega)) (t := Y) (by rw [one_read Y.size rfl]) (r := 0) (by rw [one_read Y.size rfl]) (E := oneS nameA Y (s + m) 1 false 1 0 []) (by rw [one_read Y.size rfl])).mono ?_
        rintro e w2 ⟨rfl, hL7⟩
        have HB2 := Lib.hid (Live.below hL7)
        clear hL6 hL7
        have hyy := str_eq Y
        go_wp2_with fail
        refine (sinks_true api w2).mono ?_
        rintro e w3 ⟨rfl, hbb⟩
        have HB3 := Lib.hid hbb
        clear hbb
        go_wp2
        go_ret
        exact ⟨rfl, HB2.out.trans (HB3.out.mono HB2.out.size)⟩
      · go_wp2_with fail
        rw [hci]
        clear hci
        go_wp2_with fail
        refine (delete_l api nameA hL0 hok.out (r := 61) (by rw [last_delete]) (E := sunkX d s p) (by rw [last_delete])).mono ?_
        rintro e w2 ⟨rfl, hL1⟩
        clear hL0
        obtain ⟨m, hm⟩ : ∃ m, m = min p (d.size - s) := ⟨_, rfl⟩
        have hmin := @min_i Try.prog (p : Int) ((d.size : Int) - (s : Int)) m (by split <;> omega)
        have hL1' : Live At w g (oneS nameA (d.extract 0 (s + m)) (s + m) 0 true 0 0 []) w2 := by rw [hm]; exact hL1
        have hmD : s + m ≤ d.size := by omega
        have hYs : (d.extract 0 (s + m)).size = s + m := by rw [ByteArray.size_extract]; omega
        have hY30 : s + m ≤ 30 := by omega
        have HYS := Lib.hid hYs
        have i1 : (0 : Int) ≤ (d.size : Int) - (s : Int) := by omega
        have i2 : ((s : Int) + (m : Int)).toNat = s + m := by omega
        have i3 : (s : Int) + (m : Int) ≤ (d.size : Int) := by omega
        have HT := Lib.hid (show RefOk (oneS nameA (d.extract 0 (s + m)) (s + m) 0 true 0 0 []) from one_ok (by omega) (by omega) (by decide))
        have HU := Lib.hid (show RefOk (oneS nameA (d.extract 0 (s + m)) (s + m) 0 false 1 0 []) from one_ok (by omega) (by omega) (by decide))
        clear hL1 hYs hm
        go_wp2_with fail
        refine (up_l api hL1' HT.out (b := false) rfl).mono ?_
        rintro e w2 ⟨rfl, hL2⟩
        clear hL1'
        go_wp2_with fail
        refine (start_l api hL2 HT.out (Nat.zero_le _) (r := 0) (by rw [one_start]) (E := oneS nameA (d.extract 0 (s + m)) (s + m) 0 false 1 0 []) (by rw [one_start])).mono ?_
        rintro e w2 ⟨rfl, hL3⟩
        clear hL2
        go_wp2_with fail
        refine (names_l api hL3 HU.out (m := 1) rfl).mono ?_
        rintro e w2 ⟨nA, nc, rfl, hL4⟩
        clear hL3
        go_wp2_with fail
        refine (append_l api nameA ⟨#[]⟩ hL4 HU.out (by decide) (r := 0) (by rw [one_append (by rw [HYS.out]; show s + m + 0 ≤ 5000; omega) (by decide)]) (E := oneS nameA (d.extract 0 (s + m)) (s + m) 0 false 1 0 []) (by rw [one_append (by rw [HYS.out]; show s + m + 0 ≤ 5000; omega) (by decide)]; show oneS _ (d.extract 0 (s + m) ++ ByteArray.empty) _ _ _ _ _ _ = _; rw [ByteArray.append_empty])).mono ?_
        rintro e w2 ⟨rfl, hL5⟩
        clear hL4
        go_wp2_with fail
        generalize hY : d.extract 0 (s + m) = Y at *
        clear hY
        refine (size_l api nameA hL5 HU.out (m := Y.size) (r := 0) (by rw [one_size]) (by rw [one_size])).mono ?_
        rintro e w2 ⟨rfl, hL6⟩
        clear hL5
        go_wp2_with fail
        refine (read_l api nameA 0 (Y.size : Nat) hL6 HU.out (Nat.zero_le _) rfl (wf_small (by omega) (by have := HYS.out; omega)) (t := Y) (by rw [one_read Y.size rfl]) (r := 0) (by rw [one_read Y.size rfl]) (E := oneS nameA Y (s + m) 1 false 1 0 []) (by rw [one_read Y.size rfl])).mono ?_
        rintro e w2 ⟨rfl, hL7⟩
        have HB2 := Lib.hid (Live.below hL7)
        clear hL6 hL7
        have hyy := str_eq Y
        go_wp2_with fail
        refine (sinks_true api w2).mono ?_
        rintro e w3 ⟨rfl, hbb⟩
        have HB3 := Lib.hid hbb
        clear hbb
        go_wp2
        go_ret
        exact ⟨rfl, HB2.out.trans (HB3.out.mono HB2.out.size)⟩
      · go_wp2_with fail
        rw [hci]
        clear hci
        go_wp2_with fail
        refine (rename_l api nameA nameBb hL0 hok.out (by decide) (r := 61) (by rw [last_rename]) (E := sunkX d s p) (by rw [last_rename])).mono ?_
        rintro e w2 ⟨rfl, hL1⟩
        clear hL0
        obtain ⟨m, hm⟩ : ∃ m, m = min p (d.size - s) := ⟨_, rfl⟩
        have hmin := @min_i Try.prog (p : Int) ((d.size : Int) - (s : Int)) m (by split <;> omega)
        have hL1' : Live At w g (oneS nameA (d.extract 0 (s + m)) (s + m) 0 true 0 0 []) w2 := by rw [hm]; exact hL1
        have hmD : s + m ≤ d.size := by omega
        have hYs : (d.extract 0 (s + m)).size = s + m := by rw [ByteArray.size_extract]; omega
        have hY30 : s + m ≤ 30 := by omega
        have HYS := Lib.hid hYs
        have i1 : (0 : Int) ≤ (d.size : Int) - (s : Int) := by omega
        have i2 : ((s : Int) + (m : Int)).toNat = s + m := by omega
        have i3 : (s : Int) + (m : Int) ≤ (d.size : Int) := by omega
        have HT := Lib.hid (show RefOk (oneS nameA (d.extract 0 (s + m)) (s + m) 0 true 0 0 []) from one_ok (by omega) (by omega) (by decide))
        have HU := Lib.hid (show RefOk (oneS nameA (d.extract 0 (s + m)) (s + m) 0 false 1 0 []) from one_ok (by omega) (by omega) (by decide))
        clear hL1 hYs hm
        go_wp2_with fail
        refine (up_l api hL1' HT.out (b := false) rfl).mono ?_
        rintro e w2 ⟨rfl, hL2⟩
        clear hL1'
        go_wp2_with fail
        refine (start_l api hL2 HT.out (Nat.zero_le _) (r := 0) (by rw [one_start]) (E := oneS nameA (d.extract 0 (s + m)) (s + m) 0 false 1 0 []) (by rw [one_start])).mono ?_
        rintro e w2 ⟨rfl, hL3⟩
        clear hL2
        go_wp2_with fail
        refine (names_l api hL3 HU.out (m := 1) rfl).mono ?_
        rintro e w2 ⟨nA, nc, rfl, hL4⟩
        clear hL3
        go_wp2_with fail
        refine (append_l api nameA ⟨#[]⟩ hL4 HU.out (by decide) (r := 0) (by rw [one_append (by rw [HYS.out]; show s + m + 0 ≤ 5000; omega) (by decide)]) (E := oneS nameA (d.extract 0 (s + m)) (s + m) 0 false 1 0 []) (by rw [one_append (by rw [HYS.out]; show s + m + 0 ≤ 5000; omega) (by decide)]; show oneS _ (d.extract 0 (s + m) ++ ByteArray.empty) _ _ _ _ _ _ = _; rw [ByteArray.append_empty])).mono ?_
        rintro e w2 ⟨rfl, hL5⟩
        clear hL4
        go_wp2_with fail
        generalize hY : d.extract 0 (s + m) = Y at *
        clear hY
        refine (size_l api nameA hL5 HU.out (m := Y.size) (r := 0) (by rw [one_size]) (by rw [one_size])).mono ?_
        rintro e w2 ⟨rfl, hL6⟩
        clear hL5
        go_wp2_with fail
        refine (read_l api nameA 0 (Y.size : Nat) hL6 HU.out (Nat.zero_le _) rfl (wf_small (by omega) (by have := HYS.out; omega)) (t := Y) (by rw [one_read Y.size rfl]) (r := 0) (by rw [one_read Y.size rfl]) (E := oneS nameA Y (s + m) 1 false 1 0 []) (by rw [one_read Y.size rfl])).mono ?_
        rintro e w2 ⟨rfl, hL7⟩
        have HB2 := Lib.hid (Live.below hL7)
        clear hL6 hL7
        have hyy := str_eq Y
        go_wp2_with fail
        refine (sinks_true api w2).mono ?_
        rintro e w3 ⟨rfl, hbb⟩
        have HB3 := Lib.hid hbb
        clear hbb
        go_wp2
        go_ret
        exact ⟨rfl, HB2.out.trans (HB3.out.mono HB2.out.size)⟩
      · go_wp2_with fail
        rw [hci]
        clear hci
        go_wp2_with fail
        refine (sync_l api nameA hL0 hok.out (r := 61) (by rw [last_sync]) (E := sunkX d s p) (by rw [last_sync])).mono ?_
        rintro e w2 ⟨rfl, hL1⟩
        clear hL0
        obtain ⟨m, hm⟩ : ∃ m, m = min p (d.size - s) := ⟨_, rfl⟩
        have hmin := @min_i Try.prog (p : Int) ((d.size : Int) - (s : Int)) m (by split <;> omega)
        have hL1' : Live At w g (oneS nameA (d.extract 0 (s + m)) (s + m) 0 true 0 0 []) w2 := by rw [hm]; exact hL1
        have hmD : s + m ≤ d.size := by omega
        have hYs : (d.extract 0 (s + m)).size = s + m := by rw [ByteArray.size_extract]; omega
        have hY30 : s + m ≤ 30 := by omega
        have HYS := Lib.hid hYs
        have i1 : (0 : Int) ≤ (d.size : Int) - (s : Int) := by omega
        have i2 : ((s : Int) + (m : Int)).toNat = s + m := by omega
        have i3 : (s : Int) + (m : Int) ≤ (d.size : Int) := by omega
        have HT := Lib.hid (show RefOk (oneS nameA (d.extract 0 (s + m)) (s + m) 0 true 0 0 []) from one_ok (by omega) (by omega) (by decide))
        have HU := Lib.hid (show RefOk (oneS nameA (d.extract 0 (s + m)) (s + m) 0 false 1 0 []) from one_ok (by omega) (by omega) (by decide))
        clear hL1 hYs hm
        go_wp2_with fail
        refine (up_l api hL1' HT.out (b := false) rfl).mono ?_
        rintro e w2 ⟨rfl, hL2⟩
        clear hL1'
        go_wp2_with fail
        refine (start_l api hL2 HT.out (Nat.zero_le _) (r := 0) (by rw [one_start]) (E := oneS nameA (d.extract 0 (s + m)) (s + m) 0 false 1 0 []) (by rw [one_start])).mono ?_
        rintro e w2 ⟨rfl, hL3⟩
        clear hL2
        go_wp2_with fail
        refine (names_l api hL3 HU.out (m := 1) rfl).mono ?_
        rintro e w2 ⟨nA, nc, rfl, hL4⟩
        clear hL3
        go_wp2_with fail
        refine (append_l api nameA ⟨#[]⟩ hL4 HU.out (by decide) (r := 0) (by rw [one_append (by rw [HYS.out]; show s + m + 0 ≤ 5000; omega) (by decide)]) (E := oneS nameA (d.extract 0 (s + m)) (s + m) 0 false 1 0 []) (by rw [one_append (by rw [HYS.out]; show s + m + 0 ≤ 5000; omega) (by decide)]; show oneS _ (d.extract 0 (s + m) ++ ByteArray.empty) _ _ _ _ _ _ = _; rw [ByteArray.append_empty])).mono ?_
        rintro e w2 ⟨rfl, hL5⟩
        clear hL4
        go_wp2_with fail
        generalize hY : d.extract 0 (s + m) = Y at *
        clear hY
        refine (size_l api nameA hL5 HU.out (m := Y.size) (r := 0) (by rw [one_size]) (by rw [one_size])).mono ?_
        rintro e w2 ⟨rfl, hL6⟩
        clear hL5
        go_wp2_with fail
        refine (read_l api nameA 0 (Y.size : Nat) hL6 HU.out (Nat.zero_le _) rfl (wf_small (by omega) (by have := HYS.out; omega)) (t := Y) (by rw [one_read Y.size rfl]) (r := 0) (by rw [one_read Y.size rfl]) (E := oneS nameA Y (s + m) 1 false 1 0 []) (by rw [one_read Y.size rfl])).mono ?_
        rintro e w2 ⟨rfl, hL7⟩
        have HB2 := Lib.hid (Live.below hL7)
        clear hL6 hL7
        have hyy := str_eq Y
        go_wp2_with fail
        refine (sinks_true api w2).mono ?_
        rintro e w3 ⟨rfl, hbb⟩
        have HB3 := Lib.hid hbb
        clear hbb
        go_wp2
        go_ret
        exact ⟨rfl, HB2.out.trans (HB3.out.mono HB2.out.size)⟩
      · obtain ⟨d2, hd2⟩ : ∃ d2, d ++ ⟨#[121, 122]⟩ = d2 := ⟨_, rfl⟩
        have h2 : (⟨#[121, 122]⟩ : ByteArray).size = 2 := rfl
        have hadd : ∀ wx : World, (Op.stringOp .add d ⟨#[121, 122]⟩).run Try.prog wx = .ok (.string d2) wx := fun wx => by rw [← hd2]; exact run_string_add_sum (P := Try.prog) (w := wx) d _ (by omega)
        have hz2 : d2.size ≤ 32 := by rw [← hd2, ByteArray.size_append]; omega
        have hs2 : s ≤ d2.size := by rw [← hd2, ByteArray.size_append]; omega
        have hla := Lib.hid (show appendS (oneS nameA d s 0 false 0 1 [(p : Int)]) nameA ⟨#[121, 122]⟩ = (61, sunkX d2 s p) by rw [← hd2]; exact last_append d _ s p (by omega))
        clear hd2 h2
        go_wp2_with fail
        rw [hci]
        clear hci
        go_wp2_with fail
        refine (append_l api nameA ⟨#[121, 122]⟩ hL0 hok.out (by decide) (r := 61) (by rw [hla.out]) (E := sunkX d2 s p) (by rw [hla.out])).mono ?_
        rintro e w2 ⟨rfl, hL1⟩
        clear hL0
        obtain ⟨m, hm⟩ : ∃ m, m = min p (d2.size - s) := ⟨_, rfl⟩
        have hmin := @min_i Try.prog (p : Int) ((d2.size : Int) - (s : Int)) m (by split <;> omega)
        have hL1' : Live At w g (oneS nameA (d2.extract 0 (s + m)) (s + m) 0 true 0 0 []) w2 := by rw [hm]; exact hL1
        have hmD : s + m ≤ d2.size := by omega
        have hYs : (d2.extract 0 (s + m)).size = s + m := by rw [ByteArray.size_extract]; omega
        have hY30 : s + m ≤ 32 := by omega
        have HYS := Lib.hid hYs
        have i1 : (0 : Int) ≤ (d2.size : Int) - (s : Int) := by omega
        have i2 : ((s : Int) + (m : Int)).toNat = s + m := by omega
        have i3 : (s : Int) + (m : Int) ≤ (d2.size : Int) := by omega
        have HT := Lib.hid (show RefOk (oneS nameA (d2.extract 0 (s + m)) (s + m) 0 true 0 0 []) from one_ok (by omega) (by omega) (by decide))
        have HU := Lib.hid (show RefOk (oneS nameA (d2.extract 0 (s + m)) (s + m) 0 false 1 0 []) from one_ok (by omega) (by omega) (by decide))
        clear hL1 hYs hm
        go_wp2_with fail
        refine (up_l api hL1' HT.out (b := false) rfl).mono ?_
        rintro e w2 ⟨rfl, hL2⟩
        clear hL1'
        go_wp2_with fail
        refine (start_l api hL2 HT.out (Nat.zero_le _) (r := 0) (by rw [one_start]) (E := oneS nameA (d2.extract 0 (s + m)) (s + m) 0 false 1 0 []) (by rw [one_start])).mono ?_
        rintro e w2 ⟨rfl, hL3⟩
        clear hL2
        go_wp2_with fail
        refine (names_l api hL3 HU.out (m := 1) rfl).mono ?_
        rintro e w2 ⟨nA, nc, rfl, hL4⟩
        clear hL3
        go_wp2_with fail
        refine (append_l api nameA ⟨#[]⟩ hL4 HU.out (by decide) (r := 0) (by rw [one_append (by rw [HYS.out]; show s + m + 0 ≤ 5000; omega) (by decide)]) (E := oneS nameA (d2.extract 0 (s + m)) (s + m) 0 false 1 0 []) (by rw [one_append (by rw [HYS.out]; show s + m + 0 ≤ 5000; omega) (by decide)]; show oneS _ (d2.extract 0 (s + m) ++ ByteArray.empty) _ _ _ _ _ _ = _; rw [ByteArray.append_empty])).mono ?_
        rintro e w2 ⟨rfl, hL5⟩
        clear hL4
        go_wp2_with fail
        generalize hY : d2.extract 0 (s + m) = Y at *
        clear hY
        refine (size_l api nameA hL5 HU.out (m := Y.size) (r := 0) (by rw [one_size]) (by rw [one_size])).mono ?_
        rintro e w2 ⟨rfl, hL6⟩
        clear hL5
        go_wp2_with fail
        refine (read_l api nameA 0 (Y.size : Nat) hL6 HU.out (Nat.zero_le _) rfl (wf_small (by omega) (by have := HYS.out; omega)) (t := Y) (by rw [one_read Y.size rfl]) (r := 0) (by rw [one_read Y.size rfl]) (E := oneS nameA Y (s + m) 1 false 1 0 []) (by rw [one_read Y.size rfl])).mono ?_
        rintro e w2 ⟨rfl, hL7⟩
        have HB2 := Lib.hid (Live.below hL7)
        clear hL6 hL7
        have hyy := str_eq Y
        go_wp2_with fail
        refine (sinks_true api w2).mono ?_
        rintro e w3 ⟨rfl, hbb⟩
        have HB3 := Lib.hid hbb
        clear hbb
        go_wp2
        go_ret
        exact ⟨rfl, HB2.out.trans (HB3.out.mono HB2.out.size)⟩
end Go.Proofs.Ytfpimebamkmjoaa
