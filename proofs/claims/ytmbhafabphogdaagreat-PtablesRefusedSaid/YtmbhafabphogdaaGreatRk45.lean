/- PtWrite, PtDrop, PtUse, PtRefHelp, PtLit, PtEx -/
import Derived.Test.YtmbhafabphogdaaGreatRk42
import Derived.Test.YtmbhafabphogdaaGreatRk44
import Derived.Test.YtmbhafabphogdaaGreatRk43
import Derived.Test.YtmbhafabphogdaaGreatRk38
import Derived.Test.YtmbhafabphogdaaGreatRk35
import Derived.Test.YtmbhafabphogdaaGreatRk29
/- PtWrite -/
namespace Go.Proofs.YtmbhafabphogdaaGreat
open Go.RowKit
set_option linter.unusedVariables false
set_option maxRecDepth 100000

theorem nm_full {c : UInt8} {n : Int} (h : nmS c n ≠ ByteArray.empty) : ¬ (nmS c n).toList = [] ∧ ((nmS c n).toList == []) = false := by
  have h1 : ¬ (nmS c n).toList = [] := fun e => h (by
    rw [Lib.toList_data] at e
    exact ByteArray.ext (Array.toList_inj.1 e))
  exact ⟨h1, by rw [beq_eq_false_iff_ne]; exact h1⟩
theorem nm_none {c : UInt8} {n : Int} (h : nmS c n = ByteArray.empty) : (nmS c n).toList = [] := by rw [h, Lib.toList_data]; rfl
section
variable {At : Lies} (api : DiskApi At) (nap : NamesApi) {w0 w : World} {gd : Nat} {D : DiskS} {E : List Nat}
theorem wp_lay {D : DiskS} (ok : WfP D) (n s : ByteArray) : WfP (layP D n s).2 := by
  unfold layP
  have o1 := wp_create ok n
  have o2 := wp_append o1 n s
  split
  · exact o1
  · split
    · exact o2
    · exact wp_sync o2 n
theorem wp_write {D : DiskS} (ok : WfP D) (n : Int) (l : List EntS) (t : ByteArray) : WfP (writeP D n l t).2 := by
  unfold writeP
  have o1 := wp_lay ok (ptB n) t
  have o2 := wp_lay o1 (ptT n) (tbB l)
  split
  · exact ok
  · split
    · exact ok
    · split
      · exact ok
      · split
        · exact o1
        · split
          · exact wp_delete o2 _
          · exact o2
theorem wp_drop {D : DiskS} (ok : WfP D) (n : Int) : WfP (dropP D n).2 := by
  unfold dropP
  have o1 := wp_delete ok (ptT n)
  have o2 := wp_delete o1 (ptB n)
  split
  · exact o1
  · split
    · exact o2
    · exact o2
/-- What may not be written. -/
theorem pwrite_bad (nap : NamesApi) (d : Value) (n : Int) (wn : (Lit.int .i64 n).wf = true) (v : Value) (l : List EntS) (hv : EntsIn w v l) (hl : l.length ≤ 1000) (hok : ∀ x ∈ l, EntOk x) (r : Nat) (hb : ptT n = ByteArray.empty ∨ tbOk l = false) :
    Calls Tryz.prog 10 #[d, .int .i64 n, v, .float .f64 r] w fun e w' => e = .returned (err 2) ∧ Below w.heap.size w w' := by
  have HP := Lib.hid (tput_any v l w hv (by omega) hok)
  have HN := Lib.hid fun W => nap.table n W wn
  by_cases hn : ptT n = ByteArray.empty
  · have hn2 : nmS 116 n = ByteArray.empty := hn
    rw [hn2] at HN
    obtain ⟨A, off, cap, rfl, -, -⟩ := hv.form
    have HP2 := HP.out
    unfold TbEnd at HP2
    generalize tbS l = s at *
    generalize tbE l = y at *
    have HP3 := Lib.hid HP2
    clear hv hl hok hb hn hn2 HP HP2 wn
    generalize l.length = m at *
    go_enter Tryz.func10, Tryz.ntmps10
    go_wp2_with fail
    refine HP3.out.mono ?_
    rintro e w1 ⟨rfl, b1⟩
    go_wp2_with fail
    refine (HN.out _).mono ?_
    rintro e w2 ⟨rfl, b2⟩
    go_wp2
    go_ret
    exact ⟨rfl, bj b1 b2⟩
  · have ht : tbOk l = false := by rcases hb with hb | hb; exact absurd hb hn; exact hb
    obtain ⟨n1, n2⟩ := nm_full (c := 116) (n := n) hn
    have HP2 := HP.out
    unfold TbEnd at HP2
    rw [(tb_no ht).1, (tb_no ht).2] at HP2
    obtain ⟨A, off, cap, rfl, -, -⟩ := hv.form
    have HP3 := Lib.hid HP2
    generalize nmS 116 n = nm at *
    clear hv hl hok hb hn HP HP2 wn ht
    generalize l.length = m at *
    go_enter Tryz.func10, Tryz.ntmps10
    go_wp2_with fail
    refine HP3.out.mono ?_
    rintro e w1 ⟨rfl, b1⟩
    go_wp2_with fail
    refine (HN.out _).mono ?_
    rintro e w2 ⟨rfl, b2⟩
    go_wp2
    go_ret
    exact ⟨rfl, bj b1 b2⟩
/-- A disk that is down, or none. -/
theorem pwrite_up (nap : NamesApi) (d : Value) (k : Nat) (hk : (k : Int) ≠ 0) (n : Int) (wn : (Lit.int .i64 n).wf = true) (v : Value) (l : List EntS) (hv : EntsIn w v l) (hl : l.length ≤ 1000) (hok : ∀ x ∈ l, EntOk x) (r : Nat) (hn : ptT n ≠ ByteArray.empty) (ht : tbOk l = true)
    (hU : ∀ W, Below w.heap.size w W → Calls Tryz.prog 36 #[d] W fun e w' => e = .returned (err k) ∧ W = w') :
    Calls Tryz.prog 10 #[d, .int .i64 n, v, .float .f64 r] w fun e w' => e = .returned (err k) ∧ Below w.heap.size w w' := by
  have HP := tput_any v l w hv (by omega) hok
  unfold TbEnd at HP
  rw [(tb_yes ht).1, (tb_yes ht).2] at HP
  have HP3 := Lib.hid HP
  have HN := Lib.hid fun W => nap.table n W wn
  have HU := Lib.hid hU
  obtain ⟨n1, n2⟩ := nm_full (c := 116) (n := n) hn
  have tk : ((k : Int) != 0) = true := by simp; omega
  obtain ⟨A, off, cap, rfl, -, -⟩ := hv.form
  generalize nmS 116 n = nm at *
  generalize tbB l = s at *
  clear hv hl hok hn HP wn ht hU hk
  generalize l.length = m at *
  go_enter Tryz.func10, Tryz.ntmps10
  go_wp2_with fail
  refine HP3.out.mono ?_
  rintro e w1 ⟨rfl, b1⟩
  go_wp2_with fail
  refine (HN.out _).mono ?_
  rintro e w2 ⟨rfl, b2⟩
  have B2 := Lib.hid (bj b1 b2)
  clear b1 b2
  go_wp2_with fail
  refine (HU.out _ B2.out).mono ?_
  rintro e w3 ⟨rfl, rfl⟩
  go_wp2
  go_ret
  exact ⟨rfl, B2.out⟩
include api nap
set_option maxHeartbeats 4000000 in
theorem pwrite_run (h : DS At w0 gd D E w) (ok : WfP D) (n : Int) (wn : (Lit.int .i64 n).wf = true) (v : Value) (l : List EntS) (hv : EntsIn w v l) (hl : l.length ≤ 1000) (hok : ∀ x ∈ l, EntOk x) (r : Nat) (hr : r < 18446744073709551616) (hn : ptT n ≠ ByteArray.empty) (ht : tbOk l = true) (hd : D.down = false) :
    Calls Tryz.prog 10 #[ptr gd, .int .i64 n, v, .float .f64 r] w fun e w' => ∃ t, FltOf l r t ∧ DEnd At w0 gd (err (writeP D n l t).1) (writeP D n l t).2 E w e w' := by
  have HP := tput_any v l w hv (by omega) hok
  unfold TbEnd at HP
  rw [(tb_yes ht).1, (tb_yes ht).2] at HP
  have HP3 := Lib.hid HP
  have HN := Lib.hid fun W => nap.table n W wn
  have HNb := Lib.hid fun W => nap.bloom n W wn
  have HU := Lib.hid fun W (hb : Below w.heap.size w W) => ptup_run api (h.below api hb) ok
  rw [if_neg (by rw [hd]; decide)] at HU
  obtain ⟨n1, n2⟩ := nm_full (c := 116) (n := n) hn
  have HFl := Lib.hid fun W (hb : Below w.heap.size w W) => filter_run v l r W (hv.below hb (Nat.le_refl _)) hl hok hr
  have HFr := Lib.hid fun W (hb : Below w.heap.size w W) => (h.below api hb).disk api (fun F hF => api.free hF ok.ok)
  have ok1 := ok
  have hcap := ok.cap
  have hus := ok.used
  have hsz := tbB_size l
  have HLT := Lib.hid h.lt
  have HH := Lib.hid h
  obtain ⟨A, off, cap, rfl, -, -⟩ := hv.form
  have HW : Hid (∀ t, (writeP D n l t) = if (D.cap : Int) - (usedS D.l : Nat) - (t.size : Nat) - ((tbB l).size : Nat) < 6000 then (60, D)
      else if (layP D (ptB n) t).1 ≠ 0 then layP D (ptB n) t
      else if (layP (layP D (ptB n) t).2 (ptT n) (tbB l)).1 ≠ 0 then ((layP (layP D (ptB n) t).2 (ptT n) (tbB l)).1, (deleteS (layP (layP D (ptB n) t).2 (ptT n) (tbB l)).2 (ptB n)).2)
      else layP (layP D (ptB n) t).2 (ptT n) (tbB l)) := Lib.hid fun t => by
    unfold writeP
    rw [if_neg (by rw [not_or]; exact ⟨hn, by simp [ht]⟩), if_neg (by rw [hd]; decide)]
  have HL1 := Lib.hid fun (t : ByteArray) (ht : t.size ≤ 100000) W (E' : List Nat) (hW : DS At w0 gd D E' W) => ptlay_run api hW ok (ptB n) t (ptB_le n) (by omega)
  have HL2 := Lib.hid fun (t : ByteArray) W (E' : List Nat) (hW : DS At w0 gd (layP D (ptB n) t).2 E' W) => ptlay_run api hW (wp_lay ok _ _) (ptT n) (tbB l) (ptT_le n) (by omega)
  have HDl := Lib.hid fun (t : ByteArray) W (E' : List Nat) (hW : DS At w0 gd (layP (layP D (ptB n) t).2 (ptT n) (tbB l)).2 E' W) => hW.disk api (fun F hF => api.delete (ptB n) hF (wp_lay (wp_lay ok _ _) _ _).ok (ptB_le n))
  have HFsz := Lib.hid fun (t : ByteArray) (hf : FltOf l r t) => flt_size (show l.length ≤ 10000 by omega) hf
  rw [show nmS 116 n = ptT n from rfl] at HN n1 n2
  rw [show nmS 98 n = ptB n from rfl] at HNb
  generalize ptT n = nt at *
  generalize ptB n = nb at *
  generalize hS : tbB l = S at *
  clear h ok hv hok hr ht hd HP wn hn ok1 hS
  have hl2 : S.size ≤ 24012 := by omega
  clear hsz
  have HM : Hid (l.length ≤ 1000) := Lib.hid hl
  obtain ⟨m, hm⟩ : ∃ m, l.length = m := ⟨_, rfl⟩
  have HMm := Lib.hid hm
  rw [hm] at HP3 HFl ⊢
  clear hm hl
  go_enter Tryz.func10, Tryz.ntmps10
  go_wp2_with fail
  refine HP3.out.mono ?_
  rintro e w1 ⟨rfl, b1⟩
  go_wp2_with fail
  refine (HN.out _).mono ?_
  rintro e w2 ⟨rfl, b2⟩
  have B2 := Lib.hid (bj b1 b2)
  clear b1 b2 HP3
  go_wp2_with fail
  refine (HU.out _ B2.out).mono ?_
  rintro e w3 ⟨rfl, rfl⟩
  go_wp2_with fail
  refine (HFl.out _ B2.out).mono ?_
  rintro e w4 ⟨t, rfl, hft, b4⟩
  have B4 := Lib.hid (bj B2.out b4)
  have hts := HFsz.out t hft
  have hts2 : t.size ≤ 5000 := by have := HM.out; omega
  have HWt := Lib.hid (HW.out t)
  have HFt := Lib.hid hft
  clear b4 B2 HU HFl HFsz hft hts HW
  obtain ⟨y, hy⟩ : ∃ y : Int, (D.cap : Int) - (usedS D.l : Nat) = y := ⟨_, rfl⟩
  have y1 : y ≤ 1048576 := by omega
  have y2 : 0 ≤ y := by omega
  have q1 : IntKind.i64.wrap (y - (t.size : Int)) = y - (t.size : Int) := IntWalk.i64_in _ ⟨by omega, by omega⟩
  have q2 : IntKind.i64.wrap (y - (t.size : Int) - (S.size : Int)) = y - (t.size : Int) - (S.size : Int) := IntWalk.i64_in _ ⟨by omega, by omega⟩
  rw [hy] at HFr HWt
  have HDk := Lib.hid (HFr.out _ B4.out)
  have HK4 := Lib.hid (Kept.of_below B4.out HLT.out)
  clear HFr B4 hy hcap hus
  go_wp2_with fail
  refine HDk.out.mono ?_
  rintro e w5 ⟨rfl, d5, k5⟩
  have H5 := Lib.hid (And.intro d5 (HK4.out.trans k5))
  clear d5 k5 HDk HK4
  by_cases hroom : y - (t.size : Int) - (S.size : Int) < 6000
  · rw [if_pos hroom] at HWt
    go_wp2
    go_ret
    exact ⟨t, HFt.out, by rw [HWt.out]; exact ⟨rfl, H5.out.1, H5.out.2⟩⟩
  · rw [if_neg hroom] at HWt
    have HL := Lib.hid fun W (E' : List Nat) hW => HL1.out t (by omega) W E' hW
    have HL2t := Lib.hid fun W (E' : List Nat) hW => HL2.out t W E' hW
    have HDt := Lib.hid fun W (E' : List Nat) hW => HDl.out t W E' hW
    clear HL1 HL2 HDl
    by_cases z1 : (layP D nb t).1 = 0
    · rw [if_neg (by rw [z1]; decide)] at HWt
      rw [z1] at HL
      by_cases z2 : (layP (layP D nb t).2 nt S).1 = 0
      · rw [if_neg (by rw [z2]; decide)] at HWt
        rw [z2] at HL2t
        generalize hX : layP (layP D nb t).2 nt S = X at *
        generalize (layP D nb t).2 = D1 at *
        have HX := Lib.hid z2
        clear z1 z2 hX
        go_wp2_with fail
        refine (HNb.out _).mono ?_
        rintro e w6 ⟨rfl, b6⟩
        have H6 := Lib.hid (And.intro (H5.out.1.below api b6) (H5.out.2.trans (Kept.of_below b6 H5.out.1.lt)))
        clear b6 H5
        go_wp2_with fail
        refine (HL.out _ _ H6.out.1).mono ?_
        rintro e w7 ⟨rfl, d7, k7⟩
        have H7 := Lib.hid (And.intro d7 (H6.out.2.trans k7))
        clear d7 k7 H6 HL
        go_wp2_with fail
        refine (HN.out _).mono ?_
        rintro e w8 ⟨rfl, b8⟩
        have H8 := Lib.hid (And.intro (H7.out.1.below api b8) (H7.out.2.trans (Kept.of_below b8 H7.out.1.lt)))
        clear b8 H7
        go_wp2_with fail
        refine (HL2t.out _ _ H8.out.1).mono ?_
        rintro e w9 ⟨rfl, d9, k9⟩
        have H9 := Lib.hid (And.intro d9 (H8.out.2.trans k9))
        clear d9 k9 H8 HL2t
        go_wp2
        go_ret
        exact ⟨t, HFt.out, by rw [HWt.out, HX.out]; exact ⟨rfl, H9.out.1, H9.out.2⟩⟩
      · rw [if_pos z2] at HWt
        have te : (((layP (layP D nb t).2 nt S).1 : Int) != 0) = true := by simp; omega
        generalize hX : layP (layP D nb t).2 nt S = X at *
        generalize (layP D nb t).2 = D1 at *
        generalize X.1 = x1 at *
        generalize X.2 = D2 at *
        generalize (deleteS D2 nb).2 = D3 at *
        generalize (deleteS D2 nb).1 = x3 at *
        clear z1 z2 hX
        go_wp2_with fail
        refine (HNb.out _).mono ?_
        rintro e w6 ⟨rfl, b6⟩
        have H6 := Lib.hid (And.intro (H5.out.1.below api b6) (H5.out.2.trans (Kept.of_below b6 H5.out.1.lt)))
        clear b6 H5
        go_wp2_with fail
        refine (HL.out _ _ H6.out.1).mono ?_
        rintro e w7 ⟨rfl, d7, k7⟩
        have H7 := Lib.hid (And.intro d7 (H6.out.2.trans k7))
        clear d7 k7 H6 HL
        go_wp2_with fail
        refine (HN.out _).mono ?_
        rintro e w8 ⟨rfl, b8⟩
        have H8 := Lib.hid (And.intro (H7.out.1.below api b8) (H7.out.2.trans (Kept.of_below b8 H7.out.1.lt)))
        clear b8 H7
        go_wp2_with fail
        refine (HL2t.out _ _ H8.out.1).mono ?_
        rintro e w9 ⟨rfl, d9, k9⟩
        have H9 := Lib.hid (And.intro d9 (H8.out.2.trans k9))
        clear d9 k9 H8 HL2t
        go_wp2_with fail
        refine (HNb.out _).mono ?_
        rintro e w10 ⟨rfl, b10⟩
        have H10 := Lib.hid (And.intro (H9.out.1.below api b10) (H9.out.2.trans (Kept.of_below b10 H9.out.1.lt)))
        clear b10 H9
        go_wp2_with fail
        refine (HDt.out _ _ H10.out.1).mono ?_
        rintro e w11 ⟨rfl, d11, k11⟩
        have H11 := Lib.hid (And.intro d11 (H10.out.2.trans k11))
        clear d11 k11 H10 HDt
        go_wp2
        go_ret
        exact ⟨t, HFt.out, by rw [HWt.out]; exact ⟨rfl, H11.out.1, H11.out.2⟩⟩
    · rw [if_pos z1] at HWt
      have te : (((layP D nb t).1 : Int) != 0) = true := by simp; omega
      clear HL2t HDt
      generalize layP D nb t = X at *
      have HWt2 : Hid (writeP D n l t = (X.1, X.2)) := Lib.hid HWt.out
      clear HWt
      generalize X.1 = x1 at *
      generalize X.2 = D2 at *
      clear z1
      go_wp2_with fail
      refine (HNb.out _).mono ?_
      rintro e w6 ⟨rfl, b6⟩
      have H6 := Lib.hid (And.intro (H5.out.1.below api b6) (H5.out.2.trans (Kept.of_below b6 H5.out.1.lt)))
      clear b6 H5
      go_wp2_with fail
      refine (HL.out _ _ H6.out.1).mono ?_
      rintro e w7 ⟨rfl, d7, k7⟩
      have H7 := Lib.hid (And.intro d7 (H6.out.2.trans k7))
      clear d7 k7 H6 HL
      go_wp2
      go_ret
      exact ⟨t, HFt.out, by rw [HWt2.out]; exact ⟨rfl, H7.out.1, H7.out.2⟩⟩
end
end Go.Proofs.YtmbhafabphogdaaGreat

/- PtDrop -/
namespace Go.Proofs.YtmbhafabphogdaaGreat
open Go.RowKit
set_option linter.unusedVariables false
set_option maxRecDepth 100000

theorem gone_no {r : Nat} (h : goneP r = false) : ((r : Int) != 0) = true ∧ ((r : Int) != 4) = true := by
  unfold goneP at h
  rw [Bool.or_eq_false_iff, decide_eq_false_iff_not, decide_eq_false_iff_not] at h
  exact ⟨by simp; omega, by simp; omega⟩
theorem gone_yes {r : Nat} (h : goneP r = true) : (((r : Int) != 0) = false ∧ r = 0) ∨ (((r : Int) != 0) = true ∧ ((r : Int) != 4) = false ∧ r = 4) := by
  unfold goneP at h
  rw [Bool.or_eq_true, decide_eq_true_iff, decide_eq_true_iff] at h
  rcases h with h | h
  · exact Or.inl ⟨by rw [h]; rfl, h⟩
  · exact Or.inr ⟨by rw [h]; rfl, by rw [h]; rfl, h⟩
/-- The two names, in a block. -/
theorem two_names (w : World) (a b : ByteArray) : ∃ cs, cs = #[Value.string a, .string b] ∧ Blok (w.alloc (.cells #[.string a, .string b] 9)) w.heap.size 9 cs := ⟨_, rfl, Blok.new _ _ _⟩
theorem pdrop_nil (nap : NamesApi) (n : Int) (wn : (Lit.int .i64 n).wf = true) (w : World) : Calls Tryz.prog 29 #[.pointer none, .int .i64 n] w fun e w' => e = .returned (err 1) ∧ Below w.heap.size w w' := by
  have HN := Lib.hid fun W => nap.table n W wn
  have HNb := Lib.hid fun W => nap.bloom n W wn
  have HD := Lib.hid fun W (nm : ByteArray) => delete_nil (none_nil W) nm
  unfold Says at HD
  generalize nmS 116 n = nt at *
  generalize nmS 98 n = nb at *
  go_enter Tryz.func29, Tryz.ntmps29
  go_wp2_with fail
  refine (HN.out _).mono ?_
  rintro e w1 ⟨rfl, b1⟩
  go_wp2_with fail
  refine (HNb.out _).mono ?_
  rintro e w2 ⟨rfl, b2⟩
  have B := (bj b1 b2).alloc (bj b1 b2).size (.cells #[.string nt, .string nb] 9)
  have T := Blok.new w2 9 #[.string nt, .string nb]
  obtain ⟨w3, hw3⟩ : ∃ w3, w2.alloc (.cells #[.string nt, .string nb] 9) = w3 := ⟨_, rfl⟩
  rw [hw3] at B T
  have c0 := T.cell 0
  have HB := Lib.hid B
  clear b1 b2 B T
  go_wp2_with fail
  refine wp_loop_rounds 1 ?_
  rw [rounds_succ]
  go_wp2_with fail
  refine (HD.out _ _).mono ?_
  rintro e w4 ⟨rfl, rfl⟩
  go_wp2
  go_ret
  exact ⟨rfl, HB.out⟩
section
variable {At : Lies} (api : DiskApi At) (nap : NamesApi) {w0 w : World} {gd : Nat} {D : DiskS} {E : List Nat}
include api nap
set_option maxHeartbeats 2000000 in
theorem pdrop_run (h : DS At w0 gd D E w) (ok : WfP D) (n : Int) (wn : (Lit.int .i64 n).wf = true) : Calls Tryz.prog 29 #[ptr gd, .int .i64 n] w (DEnd At w0 gd (err (dropP D n).1) (dropP D n).2 E w) := by
  have HN := Lib.hid fun W => nap.table n W wn
  have HNb := Lib.hid fun W => nap.bloom n W wn
  have hD1 := Lib.hid fun W (E' : List Nat) (hW : DS At w0 gd D E' W) => hW.disk api (fun F hF => api.delete (ptT n) hF ok.ok (ptT_le n))
  have hD2 := Lib.hid fun W (E' : List Nat) (hW : DS At w0 gd (deleteS D (ptT n)).2 E' W) => hW.disk api (fun F hF => api.delete (ptB n) hF (wp_delete ok _).ok (ptB_le n))
  have HH := Lib.hid h
  rw [show nmS 116 n = ptT n from rfl] at HN
  rw [show nmS 98 n = ptB n from rfl] at HNb
  unfold dropP
  generalize ptT n = nt at *
  generalize ptB n = nb at *
  generalize hX : deleteS D nt = X at *
  generalize hY : deleteS X.2 nb = Y at *
  obtain ⟨x1, D1⟩ := X
  obtain ⟨y1, D2⟩ := Y
  simp only at hD1 hD2 hX hY ⊢
  generalize hR : (if goneP x1 = false then (x1, D1) else if goneP y1 = false then (y1, D2) else (0, D2)) = R at *
  have HR := Lib.hid hR
  clear h ok wn hX hY hR
  go_enter Tryz.func29, Tryz.ntmps29
  go_wp2_with fail
  refine (HN.out _).mono ?_
  rintro e w1 ⟨rfl, b1⟩
  go_wp2_with fail
  refine (HNb.out _).mono ?_
  rintro e w2 ⟨rfl, b2⟩
  have b12 := bj b1 b2
  have hA := (Below.refl w2.heap.size w2).alloc (Nat.le_refl _) (.cells #[.string nt, .string nb] 9)
  have B := b12.alloc b12.size (.cells #[.string nt, .string nb] 9)
  have T := Blok.new w2 9 #[.string nt, .string nb]
  have d3 := (HH.out.below api b12).more api hA (B := [w2.heap.size]) (fun b hb => by rw [List.mem_singleton.1 hb]; exact ⟨Nat.le_refl _, T.lt⟩)
  obtain ⟨w3, hw3⟩ : ∃ w3, w2.alloc (.cells #[.string nt, .string nb] 9) = w3 := ⟨_, rfl⟩
  obtain ⟨g, hg⟩ : ∃ g, w2.heap.size = g := ⟨_, rfl⟩
  rw [hw3] at B T d3
  rw [hg] at T d3
  have c0 := T.cell 0
  have H3 := Lib.hid (And.intro d3 (And.intro T (Kept.of_below B HH.out.lt)))
  clear b1 b2 B T b12 hA d3
  go_wp2_with fail
  refine wp_loop_rounds 3 ?_
  rw [rounds_succ]
  go_wp2_with fail
  refine (hD1.out _ _ H3.out.1).mono ?_
  rintro e w4 ⟨rfl, d4, k4⟩
  have T4 := k4.blok H3.out.2.1 (List.mem_append_left _ List.mem_cons_self)
  have c1 := T4.cell 1
  have H4 := Lib.hid (And.intro d4 (And.intro T4 (And.intro k4 (H3.out.2.2.trans (k4.less (fun b hb => List.mem_append_right _ hb))))))
  clear c0 d4 k4 T4 hD1
  cases hx : goneP x1
  · obtain ⟨t1, t2⟩ := gone_no hx
    have ER := Lib.hid (show R = (x1, D1) by rw [← HR.out, hx, if_pos rfl])
    clear hx
    go_wp2
    go_ret
    rw [ER.out]
    exact ⟨rfl, H4.out.1.less (fun b hb => List.mem_append_right _ hb), H4.out.2.2.2⟩
  · have HX := Lib.hid hx
    have t12 := gone_yes hx
    clear hx
    rcases t12 with ⟨t1, rfl⟩ | ⟨t1, t2, rfl⟩
    all_goals
      go_wp2_with fail
      rw [rounds_succ]
      go_wp2_with fail
      refine (hD2.out _ _ H4.out.1).mono ?_
      rintro e w5 ⟨rfl, d5, k5⟩
      have H5 := Lib.hid (And.intro (d5.less (fun b hb => List.mem_append_right _ hb)) (H4.out.2.2.2.trans (k5.less (fun b hb => List.mem_append_right _ hb))))
      clear d5 k5 hD2 c1
      cases hy : goneP y1
      · obtain ⟨u1, u2⟩ := gone_no hy
        have ER := Lib.hid (show R = (y1, D2) by rw [← HR.out, HX.out, if_neg (by decide), hy, if_pos rfl])
        clear hy
        go_wp2
        go_ret
        rw [ER.out]
        exact ⟨rfl, H5.out.1, H5.out.2⟩
      · have ER := Lib.hid (show R = (0, D2) by rw [← HR.out, HX.out, if_neg (by decide), hy, if_neg (by decide)])
        have u12 := gone_yes hy
        clear hy
        rcases u12 with ⟨u1, rfl⟩ | ⟨u1, u2, rfl⟩
        all_goals
          go_wp2_with fail
          rw [rounds_succ]
          go_wp2
          go_ret
          rw [ER.out]
          exact ⟨rfl, H5.out.1, H5.out.2⟩
end
end Go.Proofs.YtmbhafabphogdaaGreat

/- PtUse -/
namespace Go.Proofs.YtmbhafabphogdaaGreat
open Go.RowKit
set_option linter.unusedVariables false
set_option maxRecDepth 100000

section
variable {At : Lies} (api : DiskApi At) (nap : NamesApi) {w0 w : World} {gt gd : Nat} {D : DiskS} {E G : List Nat} {n : Nat} {l : List EntS} {t : ByteArray}
include api
theorem DS.reads (h : DS At w0 gd D E w) (u : UpD D) : Calls Tryz.prog 11 #[ptr gd] w (DEnd At w0 gd (.int .i64 (D.count : Nat)) D E w) := h.disk api (fun F hF => api.reads hF u.wf.ok)
theorem DS.free_ (h : DS At w0 gd D E w) (u : UpD D) : Calls Tryz.prog 28 #[ptr gd] w (DEnd At w0 gd (.int .i64 ((D.cap : Int) - (usedS D.l : Nat))) D E w) := h.disk api (fun F hF => api.free hF u.wf.ok)
/-- A made disk. -/
theorem ds_new (w0 w : World) (E : List Nat) (hb : Below w0.heap.size w0 w) (hE : ∀ b ∈ E, b < w.heap.size) (c : Nat) (hc : c ≤ 1048576) : Calls Tryz.prog 9 #[.int .i64 (c : Nat)] w fun e w' => ∃ gd, e = .returned (.tuple #[ptr gd, .int .i64 0]) ∧ DS At w0 gd (newS c) E w' ∧ Kept E w w' := by
  refine (api.new_ w0.heap.size c w hb.size hc).mono ?_
  rintro e w' ⟨g, F, h1, h2, h3, h4⟩
  have hB : Below w.heap.size w w' := h4.below (Nat.le_refl _) (fun x hx => by cases hx)
  exact ⟨g, h1, ⟨F, h2, hb.trans (hB.mono hb.size), fun b hb => ⟨fun hf => by have := h3 b hf; have := hE b hb; omega, Nat.lt_of_lt_of_le (hE b hb) hB.size⟩⟩, Kept.of_below hB hE⟩
include nap
theorem popen_has (h : DS At w0 gd D E w) (u : UpD D) (hc : D.count ≤ 1000000) (hcap : D.cap ≤ 1000000) (hn : n ≤ 999999) (hT : HasT D n l) (hl : l.length ≤ 10000) :
    Calls Tryz.prog 12 #[ptr gd, .int .i64 (n : Nat)] w fun e w' => ∃ j t, j ≤ 2 ∧ keepsP t l = true ∧ PEnd At w0 gd (n : Nat) l t { D with count := D.count + j } E w e w' := by
  obtain ⟨f, h1, h2, rfl⟩ := hT
  have e := rdW_of u.down h1
  have hP := popen_yes api nap h u.wf (by omega) hcap (n : Nat) (WalkArith.wf_i64 (by omega)) u.down (by rw [e]) (by rw [e]; exact h2) (by rw [e]; exact hl)
  rw [e] at hP
  simp only at hP
  obtain ⟨j, hj, e2⟩ := rdW_any (D := { D with count := D.count + 1 }) (ptB n) u.down
  rw [e2] at hP
  have hkp := ldF_keeps { D with count := D.count + 1 } (n : Nat) (tgL f.data)
  generalize ldF { D with count := D.count + 1 } (n : Nat) (tgL f.data) = t at *
  refine hP.mono fun e w' he => ⟨1 + j, t, by omega, hkp, ?_⟩
  rw [show D.count + (1 + j) = D.count + 1 + j by omega]
  exact he
theorem ptrange_has (h : DS At w0 gd D E w) (u : UpD D) (hc : D.count ≤ 1000000) (hn : n ≤ 999999) (hp : PtAt w gt gd (n : Nat) l t G) (hG : ∀ b ∈ G, b ∈ E) (hT : HasT D n l) (hk : keepsP t l = true) (hl : l.length ≤ 10000) (x : Nat) (hx : x < 18446744073709551616) (a b : Int) (wa : (Lit.int .i64 a).wf = true) (wb : (Lit.int .i64 b).wf = true) :
    Calls Tryz.prog 31 #[ptr gt, .int .u64 (x : Nat), .int .i64 a, .int .i64 b] w fun e w' => ∃ k, k ≤ 1 ∧ (mayP l t x = false → k = 0) ∧ LEnd At w0 gd (rangeE l x a (min b 1073741824)) 0 { D with count := D.count + k } E w e w' :=
  ptrange_run api nap h hp hG u.wf (by omega) (WalkArith.wf_i64 (by omega)) u.down hT hk (by omega) x hx a b wa wb
theorem ptlast_has (h : DS At w0 gd D E w) (u : UpD D) (hc : D.count ≤ 1000000) (hn : n ≤ 999999) (hp : PtAt w gt gd (n : Nat) l t G) (hG : ∀ b ∈ G, b ∈ E) (hT : HasT D n l) (hk : keepsP t l = true) (hl : l.length ≤ 10000) (x : Nat) (hx : x < 18446744073709551616) (b : Int) (wb : (Lit.int .i64 b).wf = true) :
    Calls Tryz.prog 32 #[ptr gt, .int .u64 (x : Nat), .int .i64 b] w fun e w' => ∃ k, k ≤ 1 ∧ (mayP l t x = false → k = 0) ∧ DEnd At w0 gd (.tuple #[entB (lastE l x (min b 1073741824)), .bool (lastOk l x (min b 1073741824)), .int .i64 0]) { D with count := D.count + k } E w e w' :=
  ptlast_run api nap h hp hG u.wf (by omega) (WalkArith.wf_i64 (by omega)) u.down hT hk (by omega) x hx b wb
theorem ptall_has (h : DS At w0 gd D E w) (u : UpD D) (hc : D.count ≤ 1000000) (hn : n ≤ 999999) (hp : PtAt w gt gd (n : Nat) l t G) (hG : ∀ b ∈ G, b ∈ E) (hT : HasT D n l) (hl : l.length ≤ 10000) :
    Calls Tryz.prog 15 #[ptr gt] w (LEnd At w0 gd l 0 { D with count := D.count + 1 } E w) :=
  ptall_run api nap h hp hG u.wf (by omega) (WalkArith.wf_i64 (by omega)) u.down hT (by omega)
/-- A table that finds room. -/
theorem pwrite_has (h : DS At w0 gd D E w) (u : UpD D) (hn : n ≤ 999999) (v : Value) (hv : EntsIn w v l) (hl : l.length ≤ 1000) (hok : ∀ x ∈ l, EntOk x) (ht : tbOk l = true) (r : Nat) (hr : r < 18446744073709551616) (hm : D.l.length < 390) (h1 : fileOf D.l (ptT n) = none) (h2 : fileOf D.l (ptB n) = none) (hroom : usedS D.l + 28 * l.length + 6268 ≤ D.cap) :
    Calls Tryz.prog 10 #[ptr gd, .int .i64 (n : Nat), v, .float .f64 r] w fun e w' => ∃ t D', Wrote D D' n l t ∧ DEnd At w0 gd (.int .i64 0) D' E w e w' := by
  refine (pwrite_run api nap h u.wf (n : Nat) (WalkArith.wf_i64 (by omega)) v l hv hl hok r hr (pt_full hn) ht u.down).mono ?_
  rintro e w' ⟨t, hf, he⟩
  have hz := flt_size (by omega) hf
  have hz2 := tbB_size l
  obtain ⟨D', e1, hW⟩ := write_ok u hn ht hm h1 h2 (t := t) (by omega)
  rw [e1] at he
  exact ⟨t, D', hW, he⟩
end
end Go.Proofs.YtmbhafabphogdaaGreat

/- PtRefHelp -/
namespace Go.Proofs.YtmbhafabphogdaaGreat
open Go.RowKit
set_option linter.unusedVariables false
set_option maxRecDepth 100000

theorem six_touch {g : Nat} (w : World) (a b c d e f : Value) : Touch [g] w ((((((w.setCell ⟨g, 0, none⟩ a).setCell ⟨g, 1, none⟩ b).setCell ⟨g, 2, none⟩ c).setCell ⟨g, 3, none⟩ d).setCell ⟨g, 4, none⟩ e).setCell ⟨g, 5, none⟩ f) :=
  ((((((Touch.refl [g] w).setCell (p := ⟨g, 0, none⟩) (Or.inl (List.mem_singleton.2 rfl)) a).setCell (p := ⟨g, 1, none⟩) (Or.inl (List.mem_singleton.2 rfl)) b).setCell (p := ⟨g, 2, none⟩) (Or.inl (List.mem_singleton.2 rfl)) c).setCell (p := ⟨g, 3, none⟩) (Or.inl (List.mem_singleton.2 rfl)) d).setCell (p := ⟨g, 4, none⟩) (Or.inl (List.mem_singleton.2 rfl)) e).setCell (p := ⟨g, 5, none⟩) (Or.inl (List.mem_singleton.2 rfl)) f
/-- The first two entries of a list in its own block. -/
theorem row_two {w : World} {base c : Nat} {n : Nat} {A : Option Addr} {l : List EntS} (h : EntRow w base (.slice A n c) l) (hn : n = l.length) (h1 : 1 < n) : ∃ (g : Nat) (x0 x1 : EntS), A = some ⟨g, 0, none⟩ ∧ base ≤ g ∧ l[0]? = some x0 ∧ l[1]? = some x1 ∧
    (w.cell? ⟨g, 0, none⟩ = some (.int .u64 (x0.h : Nat)) ∧ w.cell? ⟨g, 1, none⟩ = some (.int .i64 x0.v) ∧ w.cell? ⟨g, 2, none⟩ = some (.int .i64 x0.p)) ∧
    (w.cell? ⟨g, 3, none⟩ = some (.int .u64 (x1.h : Nat)) ∧ w.cell? ⟨g, 4, none⟩ = some (.int .i64 x1.v) ∧ w.cell? ⟨g, 5, none⟩ = some (.int .i64 x1.p)) ∧
    (w.frozen? ⟨g, 0, none⟩ = false ∧ w.frozen? ⟨g, 1, none⟩ = false ∧ w.frozen? ⟨g, 2, none⟩ = false) ∧ (w.frozen? ⟨g, 3, none⟩ = false ∧ w.frozen? ⟨g, 4, none⟩ = false ∧ w.frozen? ⟨g, 5, none⟩ = false) := by
  subst hn
  have hg : ∃ g, A = some ⟨g, 0, none⟩ ∧ base ≤ g := by
    rcases h.2 with ⟨e, h0⟩ | ⟨g, cap, cur, e, hg, hh, r⟩
    · injection e with e1 e2 e3
      omega
    · injection e with e1 e2 e3
      exact ⟨g, e1, hg⟩
  obtain ⟨g, rfl, hb⟩ := hg
  have h0 : 0 < l.length := by omega
  have e0 := List.getElem?_eq_getElem h0
  have e1 := List.getElem?_eq_getElem h1
  exact ⟨g, l[0], l[1], rfl, hb, e0, e1,
    ⟨(h.cellAt 0 (by omega)).trans (entFlat_at l 0 _ e0 0 (by omega)), (h.cellAt 1 (by omega)).trans (entFlat_at l 0 _ e0 1 (by omega)), (h.cellAt 2 (by omega)).trans (entFlat_at l 0 _ e0 2 (by omega))⟩,
    ⟨(h.cellAt 3 (by omega)).trans (entFlat_at l 1 _ e1 0 (by omega)), (h.cellAt 4 (by omega)).trans (entFlat_at l 1 _ e1 1 (by omega)), (h.cellAt 5 (by omega)).trans (entFlat_at l 1 _ e1 2 (by omega))⟩,
    ⟨h.frozenAt _, h.frozenAt _, h.frozenAt _⟩, ⟨h.frozenAt _, h.frozenAt _, h.frozenAt _⟩⟩
/-- They change places. -/
theorem row_swap {w : World} {base g c n : Nat} {l : List EntS} (h : EntRow w base (.slice (some ⟨g, 0, none⟩) n c) l) (hn : n = l.length) (h1 : 1 < n) (x0 x1 : EntS) :
    EntRow ((((((w.setCell ⟨g, 0, none⟩ (.int .u64 (x1.h : Nat))).setCell ⟨g, 1, none⟩ (.int .i64 x1.v)).setCell ⟨g, 2, none⟩ (.int .i64 x1.p)).setCell ⟨g, 3, none⟩ (.int .u64 (x0.h : Nat))).setCell ⟨g, 4, none⟩ (.int .i64 x0.v)).setCell ⟨g, 5, none⟩ (.int .i64 x0.p)) base (.slice (some ⟨g, 0, none⟩) n c) ((l.set 0 x1).set 1 x0) := by
  have a := EntRow.put h hn (k := 0) (by omega) x1
  have b := EntRow.put a (by rw [List.length_set]; exact hn) (k := 1) h1 x0
  exact b
theorem set_back {l : List EntS} {x0 x1 : EntS} (h0 : l[0]? = some x0) (h1 : l[1]? = some x1) : (((l.set 0 x1).set 1 x0)[0]? = some x1 ∧ ((l.set 0 x1).set 1 x0)[1]? = some x0) ∧ ((((l.set 0 x1).set 1 x0).set 0 x0).set 1 x1) = l := by
  match l, h0, h1 with
  | a :: b :: l, h0, h1 =>
    obtain rfl : a = x0 := by simpa using h0
    obtain rfl : b = x1 := by simpa using h1
    exact ⟨⟨rfl, rfl⟩, rfl⟩
theorem set_bad {l : List EntS} {x0 x1 : EntS} (h0 : l[0]? = some x0) (h1 : l[1]? = some x1) (h : tbOk l = true) : tbOk ((l.set 0 x1).set 1 x0) = false := by
  match l, h0, h1 with
  | a :: b :: l, h0, h1 =>
    obtain rfl : a = x0 := by simpa using h0
    obtain rfl : b = x1 := by simpa using h1
    have h2 := (tbOk_iff.1 h).1
    unfold sortedE at h2
    rw [Bool.and_eq_true] at h2
    have h3 : lessE b a = false := by
      cases e : lessE b a with
      | false => rfl
      | true =>
        have q1 := lessE_iff.1 h2.1
        have q2 := lessE_iff.1 e
        omega
    refine tbOk_sorted ?_
    show (lessE b a && sortedE (a :: l)) = false
    rw [h3]; rfl
theorem set_ok {l : List EntS} {x0 x1 : EntS} (h0 : l[0]? = some x0) (h1 : l[1]? = some x1) (h : ∀ x ∈ l, EntOk x) : ∀ x ∈ (l.set 0 x1).set 1 x0, EntOk x := by
  match l, h0, h1 with
  | a :: b :: l, h0, h1 =>
    obtain rfl : a = x0 := by simpa using h0
    obtain rfl : b = x1 := by simpa using h1
    intro x hx
    refine h x ?_
    have hx : x ∈ b :: a :: l := hx
    rcases List.mem_cons.1 hx with e | hx
    · rw [e]; exact List.mem_cons_of_mem _ List.mem_cons_self
    · rcases List.mem_cons.1 hx with e | hx
      · rw [e]; exact List.mem_cons_self
      · exact List.mem_cons_of_mem _ (List.mem_cons_of_mem _ hx)
section
variable {At : Lies} (api : DiskApi At) {w0 w : World} {gd : Nat} {D : DiskS} {E : List Nat}
include api
/-- The names of no file. -/
theorem DS.names (h : DS At w0 gd D E w) (u : UpD D) (h0 : D.l = []) : Calls Tryz.prog 27 #[ptr gd] w fun e w' => ∃ A c, e = .returned (.slice A 0 c) ∧ DS At w0 gd D E w' ∧ Kept E w w' := by
  obtain ⟨F, h1, h2, h3⟩ := h
  refine (api.names h1 u.wf.ok).mono ?_
  rintro e w' ⟨F', v, e1, ev, -, e2, e3, e4⟩
  rw [h0] at ev
  obtain ⟨A, c, rfl⟩ : ∃ A c, v = .slice A 0 c := by
    rcases ev with ⟨-, A, c, e⟩ | ⟨b, off, c, e, -⟩
    · exact ⟨A, c, e⟩
    · exact ⟨_, c, e⟩
  refine ⟨A, c, e1, ⟨F', e2, h2.trans (e4.below h2.size (fun x hx => (api.low h1 x hx).1)), fun b hb => ⟨fun hm => ?_, Nat.lt_of_lt_of_le (h3 b hb).2 e4.size⟩⟩, e4.size, fun b hb => e4.block b (h3 b hb).2 (h3 b hb).1⟩
  rcases e3 b hm with k | k
  · exact (h3 b hb).1 k
  · have := (h3 b hb).2; omega
/-- A disk that falls. -/
theorem DS.crash0 (h : DS At w0 gd D E w) (u : UpD D) : Calls Tryz.prog 30 #[ptr gd, .slice none 0 0] w fun e w' => ∃ D', e = .returned (.int .i64 0) ∧ D'.down = true ∧ WfP D' ∧ DS At w0 gd D' E w' ∧ Kept E w w' := by
  have hC := h.disk api (fun F hf => api.crash (.slice none 0 0) [] hf u.wf.ok (Or.inl ⟨rfl, none, 0, rfl⟩) (fun b hb => by cases hb) (by decide))
  have e1 : crashS D [] = (0, sinkS D []) := by unfold crashS; rw [if_neg (by simp [u.down])]
  have hw := wp_crash u.wf []
  rw [e1] at hC hw
  refine hC.mono ?_
  rintro e w' ⟨rfl, d, k⟩
  exact ⟨_, rfl, rfl, hw, d, k⟩
end
/-- A disk on which a table was written, or not: it can be dropped. -/
structure RfD (D E0 : DiskS) : Prop where
  up : UpD D
  drop : dropP D ((1 : Nat) : Int) = (0, E0)
  up0 : UpD E0
  none : E0.l = []
  room : usedS D.l + 6000 ≤ D.cap
section
variable {At : Lies} (api : DiskApi At) (nap : NamesApi) {w0 w : World} {gd : Nat} {D E0 : DiskS} {E : List Nat}
include api
theorem DS.free6 (h : DS At w0 gd D E w) (r : RfD D E0) : Calls Tryz.prog 28 #[ptr gd] w fun e w' => ∃ f : Int, decide (f < 6000) = false ∧ e = .returned (.int .i64 f) ∧ DS At w0 gd D E w' ∧ Kept E w w' :=
  (h.free_ api r.up).mono fun e w' he => ⟨_, decide_eq_false (by have := r.room; omega), he.1, he.2.1, he.2.2⟩
include nap
theorem DS.drop1 (h : DS At w0 gd D E w) (r : RfD D E0) : Calls Tryz.prog 29 #[ptr gd, .int .i64 1] w (DEnd At w0 gd (.int .i64 0) E0 E w) := by
  have hD := pdrop_run api nap h r.up.wf ((1 : Nat) : Int) (by decide)
  rw [r.drop] at hD
  exact hD
theorem DS.drop2 (h : DS At w0 gd E0 E w) (r : RfD D E0) : Calls Tryz.prog 29 #[ptr gd, .int .i64 1] w (DEnd At w0 gd (.int .i64 0) E0 E w) := by
  have hD := pdrop_run api nap h r.up0.wf ((1 : Nat) : Int) (by decide)
  rw [dropP_none r.up0 (by rw [r.none]; rfl) (by rw [r.none]; rfl)] at hD
  exact hD
theorem write_new {c : Nat} (h : DS At w0 gd (newS c) E w) (hc : c ≤ 1048576) (h6 : 6000 ≤ c) (v : Value) (l : List EntS) (hv : EntsIn w v l) (hl : l.length ≤ 1000) (hok : ∀ x ∈ l, EntOk x) (ht : tbOk l = true) :
    Calls Tryz.prog 10 #[ptr gd, .int .i64 1, v, .float .f64 4607182418800017408] w fun e w' =>
      (e = .returned (.int .i64 0) ∧ ∃ D' E0, RfD D' E0 ∧ DS At w0 gd D' E w' ∧ Kept E w w') ∨ (e = .returned (.int .i64 60) ∧ ∃ D' E0, D'.l = [] ∧ RfD D' E0 ∧ DS At w0 gd D' E w' ∧ Kept E w w') := by
  have u := upd_new (c := c) hc
  refine (show Calls Tryz.prog 10 #[ptr gd, .int .i64 1, v, .float .f64 4607182418800017408] w _ from pwrite_run api nap h u.wf ((1 : Nat) : Int) (by decide) v l hv hl hok 4607182418800017408 (by decide) (pt_full (by decide)) ht u.down).mono ?_
  rintro e w' ⟨t, -, he⟩
  have e0 : usedS (newS c).l = 0 := rfl
  have e1 : (newS c).cap = c := rfl
  have n1 : fileOf (newS c).l (ptT ((1 : Nat) : Int)) = none := rfl
  have n2 : fileOf (newS c).l (ptB ((1 : Nat) : Int)) = none := rfl
  by_cases hr : usedS (newS c).l + t.size + (tbB l).size + 6000 ≤ (newS c).cap
  · obtain ⟨D', e2, hW⟩ := write_ok u (n := 1) (by decide) ht (by show 0 < 390; decide) n1 n2 (t := t) hr
    rw [e2] at he
    obtain ⟨E0, q1, q2, q3, q4, q5, q6⟩ := dropP_both hW.up (n := 1) (by decide) hW.table hW.bloom
    refine Or.inl ⟨he.1, D', E0, ⟨hW.up, q1, q2, ?_, ?_⟩, he.2.1, he.2.2⟩
    · have := hW.many
      have e3 : (newS c).l.length = 0 := rfl
      exact List.eq_nil_of_length_eq_zero (by omega)
    · rw [hW.used, hW.cap]
      exact hr
  · rw [write_full u (n := 1) (by decide) ht (by omega)] at he
    refine Or.inr ⟨he.1, newS c, newS c, rfl, ⟨u, dropP_none u n1 n2, u, rfl, by rw [e0, e1]; omega⟩, he.2.1, he.2.2⟩
end
theorem swap_both {At : Lies} (api : DiskApi At) {w0 w : World} {gd g n c : Nat} {D : DiskS} {l : List EntS} (r : EntRow w w0.heap.size (.slice (some ⟨g, 0, none⟩) n c) l) (d : DS At w0 gd D (ownL (.slice (some ⟨g, 0, none⟩) n c)) w) (hn : n = l.length) (h1 : 1 < n) (hg : w0.heap.size ≤ g) (x0 x1 : EntS) :
    EntRow ((((((w.setCell ⟨g, 0, none⟩ (.int .u64 (x1.h : Nat))).setCell ⟨g, 1, none⟩ (.int .i64 x1.v)).setCell ⟨g, 2, none⟩ (.int .i64 x1.p)).setCell ⟨g, 3, none⟩ (.int .u64 (x0.h : Nat))).setCell ⟨g, 4, none⟩ (.int .i64 x0.v)).setCell ⟨g, 5, none⟩ (.int .i64 x0.p)) w0.heap.size (.slice (some ⟨g, 0, none⟩) n c) ((l.set 0 x1).set 1 x0) ∧
    DS At w0 gd D (ownL (.slice (some ⟨g, 0, none⟩) n c)) ((((((w.setCell ⟨g, 0, none⟩ (.int .u64 (x1.h : Nat))).setCell ⟨g, 1, none⟩ (.int .i64 x1.v)).setCell ⟨g, 2, none⟩ (.int .i64 x1.p)).setCell ⟨g, 3, none⟩ (.int .u64 (x0.h : Nat))).setCell ⟨g, 4, none⟩ (.int .i64 x0.v)).setCell ⟨g, 5, none⟩ (.int .i64 x0.p)) :=
  ⟨row_swap r hn h1 x0 x1, d.own2 api (six_touch w _ _ _ _ _ _) (fun b hb => by rw [List.mem_singleton.1 hb]; exact ⟨List.mem_singleton.2 rfl, hg⟩)⟩
theorem both_drew {At : Lies} (api : DiskApi At) {w0 w : World} {gd : Nat} {D : DiskS} {l : List EntS} {v : Value} {E : List Nat} (h : EntRow w w0.heap.size v l ∧ DS At w0 gd D E w) : EntRow w.drew w0.heap.size v l ∧ DS At w0 gd D E w.drew :=
  ⟨EntRow.below h.1 (Below.refl _ _).drew (Nat.le_refl _), h.2.drew api⟩
end Go.Proofs.YtmbhafabphogdaaGreat

/- PtLit -/
namespace Go.Proofs.YtmbhafabphogdaaGreat
open Go.RowKit
set_option linter.unusedVariables false
set_option maxRecDepth 100000

section
variable {At : Lies} (api : DiskApi At) (nap : NamesApi) {w0 w : World} {gt gd : Nat} {D : DiskS} {E G : List Nat} {n : Nat} {l : List EntS} {t : ByteArray}
include api nap
theorem popen_at {ni : Int} (hni : ((n : Nat) : Int) = ni) (h : DS At w0 gd D E w) (u : UpD D) (hc : D.count ≤ 1000000) (hcap : D.cap ≤ 1000000) (hn : n ≤ 999999) (hT : HasT D n l) (hl : l.length ≤ 10000) :
    Calls Tryz.prog 12 #[ptr gd, .int .i64 ni] w fun e w' => ∃ j t, j ≤ 2 ∧ keepsP t l = true ∧ PEnd At w0 gd (n : Nat) l t { D with count := D.count + j } E w e w' := by
  subst hni
  exact popen_has api nap h u hc hcap hn hT hl
theorem pwrite_at {ni : Int} (hni : ((n : Nat) : Int) = ni) (h : DS At w0 gd D E w) (u : UpD D) (hn : n ≤ 999999) (v : Value) (hv : EntsIn w v l) (hl : l.length ≤ 1000) (hok : ∀ x ∈ l, EntOk x) (ht : tbOk l = true) (r : Nat) (hr : r < 18446744073709551616) (hm : D.l.length < 390) (h1 : fileOf D.l (ptT n) = none) (h2 : fileOf D.l (ptB n) = none) (hroom : usedS D.l + 28 * l.length + 6268 ≤ D.cap) :
    Calls Tryz.prog 10 #[ptr gd, .int .i64 ni, v, .float .f64 r] w fun e w' => ∃ t D', Wrote D D' n l t ∧ DEnd At w0 gd (.int .i64 0) D' E w e w' := by
  subst hni
  exact pwrite_has api nap h u hn v hv hl hok ht r hr hm h1 h2 hroom
theorem ptrange_at {xi : Int} {x : Nat} (hxi : ((x : Nat) : Int) = xi) (h : DS At w0 gd D E w) (u : UpD D) (hc : D.count ≤ 1000000) (hn : n ≤ 999999) (hp : PtAt w gt gd (n : Nat) l t G) (hG : ∀ b ∈ G, b ∈ E) (hT : HasT D n l) (hk : keepsP t l = true) (hl : l.length ≤ 10000) (hx : x < 18446744073709551616) (a b : Int) (wa : (Lit.int .i64 a).wf = true) (wb : (Lit.int .i64 b).wf = true) {R : List EntS} (hR : rangeE l x a (min b 1073741824) = R) :
    Calls Tryz.prog 31 #[ptr gt, .int .u64 xi, .int .i64 a, .int .i64 b] w fun e w' => ∃ k, k ≤ 1 ∧ LEnd At w0 gd R 0 { D with count := D.count + k } E w e w' := by
  subst hxi
  subst hR
  refine (ptrange_has api nap h u hc hn hp hG hT hk hl x hx a b wa wb).mono ?_
  rintro e w' ⟨k, h1, h2, h3⟩
  exact ⟨k, h1, h3⟩
theorem ptlast_at {xi : Int} {x : Nat} (hxi : ((x : Nat) : Int) = xi) (h : DS At w0 gd D E w) (u : UpD D) (hc : D.count ≤ 1000000) (hn : n ≤ 999999) (hp : PtAt w gt gd (n : Nat) l t G) (hG : ∀ b ∈ G, b ∈ E) (hT : HasT D n l) (hk : keepsP t l = true) (hl : l.length ≤ 10000) (hx : x < 18446744073709551616) (b : Int) (wb : (Lit.int .i64 b).wf = true) {y : EntS} {q : Bool} (hy : lastE l x (min b 1073741824) = y) (hq : lastOk l x (min b 1073741824) = q) :
    Calls Tryz.prog 32 #[ptr gt, .int .u64 xi, .int .i64 b] w fun e w' => ∃ k, k ≤ 1 ∧ DEnd At w0 gd (.tuple #[entB y, .bool q, .int .i64 0]) { D with count := D.count + k } E w e w' := by
  subst hxi
  subst hy
  subst hq
  refine (ptlast_has api nap h u hc hn hp hG hT hk hl x hx b wb).mono ?_
  rintro e w' ⟨k, h1, h2, h3⟩
  exact ⟨k, h1, h3⟩
end
end Go.Proofs.YtmbhafabphogdaaGreat

/- PtEx -/
namespace Go.Proofs.YtmbhafabphogdaaGreat
open Go.RowKit
set_option linter.unusedVariables false
set_option maxRecDepth 100000

theorem small_facts : tbOk [⟨5, 0, 7⟩] = true ∧ rangeE [⟨5, 0, 7⟩] 5 0 (min 9 1073741824) = [⟨5, 0, 7⟩] ∧ lastE [⟨5, 0, 7⟩] 5 (min 0 1073741824) = ⟨5, 0, 7⟩ ∧ lastOk [⟨5, 0, 7⟩] 5 (min 0 1073741824) = true ∧ lastE [⟨5, 0, 7⟩] 6 (min 9 1073741824) = ⟨0, 0, 0⟩ ∧ lastOk [⟨5, 0, 7⟩] 6 (min 9 1073741824) = false := by decide
theorem small_ok : ∀ x ∈ ([⟨5, 0, 7⟩] : List EntS), EntOk x := fun x hx => by
  rw [List.mem_singleton.1 hx]
  exact ⟨by decide, by decide, by decide, by decide, by decide⟩
theorem ptnn_in (d : Nat) (w : World) : (Op.equalIn (d + 1) 33 (.pointer none) (.pointer none)).run Tryz.prog w = .ok true w := by
  simp [Op.equalIn, run_underlying Tryz.underlying33]
theorem ptnil_eq (w : World) : (binOp .eql 33 (.pointer none) (.pointer none)).run Tryz.prog w = .ok (.bool true) w := by
  have he : (Op.equal 33 (.pointer none) (.pointer none)).run Tryz.prog w = .ok true w := ptnn_in 9999 w
  simp only [binOp]
  simp [he]
section
variable {At : Lies} (api : DiskApi At) (nap : NamesApi)
include api nap
set_option maxHeartbeats 4000000 in
theorem small_true (w : World) : Calls Tryz.prog 7 #[] w fun e w' => e = .returned (.bool true) ∧ Below w.heap.size w w' := by
  obtain ⟨x1, x2, x3, x4, x5, x6⟩ := small_facts
  have HN : Hid (Calls Tryz.prog 9 #[.int .i64 20000] w fun e w' => ∃ gd, e = .returned (.tuple #[ptr gd, .int .i64 0]) ∧ DS At w gd (newS 20000) [] w' ∧ Kept [] w w') := Lib.hid (ds_new api w w [] (Below.refl _ _) (fun b hb => by cases hb) 20000 (by decide))
  have u0 := upd_new (c := 20000) (by decide)
  have HX := Lib.hid (And.intro x1 (And.intro x2 (And.intro x3 (And.intro x4 (And.intro x5 (And.intro x6 u0))))))
  clear x1 x2 x3 x4 x5 x6 u0
  go_enter Tryz.func7, Tryz.ntmps7
  go_wp2_with fail
  refine HN.out.mono ?_
  rintro e w1 ⟨gd, rfl, d1, -⟩
  have hA := (Below.refl w1.heap.size w1).alloc (Nat.le_refl _) (.cells #[.int .u64 5, .int .i64 0, .int .i64 7] 56)
  have T : Blok (w1.alloc (.cells #[.int .u64 5, .int .i64 0, .int .i64 7] 56)) w1.heap.size 56 #[.int .u64 5, .int .i64 0, .int .i64 7] := Blok.new _ _ _
  have d2 := d1.more api hA (B := [w1.heap.size]) (fun b hb => by rw [List.mem_singleton.1 hb]; exact ⟨Nat.le_refl _, T.lt⟩)
  obtain ⟨gx, hgx⟩ : ∃ gx, w1.heap.size = gx := ⟨_, rfl⟩
  obtain ⟨w2, hw2⟩ : ∃ w2, w1.alloc (.cells #[.int .u64 5, .int .i64 0, .int .i64 7] 56) = w2 := ⟨_, rfl⟩
  rw [hw2, hgx] at T d2
  have c0 := T.cell 0
  have c1 := T.cell 1
  have c2 := T.cell 2
  have H2 := Lib.hid (And.intro d2 T)
  have hB3 := (Below.refl w2.heap.size w2).alloc (Nat.le_refl _) (.cells #[.int .u64 ((5 : Nat) : Int), .int .i64 0, .int .i64 7] 56)
  have HWr := Lib.hid (pwrite_at api nap (n := 0) (ni := 0) rfl (d2.below api hB3) HX.out.2.2.2.2.2.2 (by decide) _ (ent_one w2 ⟨5, 0, 7⟩) (by decide) small_ok HX.out.1 4576918229304087675 (by decide) (by decide) rfl rfl (by decide))
  have HB3 := Lib.hid hB3
  clear hA T d2 d1 hB3
  go_wp2_with fail
  refine HWr.out.mono ?_
  rintro e w3 ⟨t, D1, hw, rfl, d3, k3⟩
  have hc1 : D1.count = 0 := hw.count
  have hcap1 : D1.cap = 20000 := hw.cap
  have hT1 := hw.has (by decide) small_ok HX.out.1
  have K3 := (Kept.of_below HB3.out H2.out.1.lt).trans k3
  have H3 := Lib.hid (And.intro d3 (And.intro (K3.blok H2.out.2 (List.mem_append_left _ List.mem_cons_self)) (And.intro hw.up hT1)))
  have HO := Lib.hid (popen_at api nap (n := 0) (ni := 0) rfl d3 hw.up (by omega) (by omega) (by decide) hT1 (by decide))
  clear hw d3 k3 K3 hT1 HWr c0 c1 c2
  go_wp2_with fail
  refine HO.out.mono ?_
  rintro e w4 ⟨j, t2, hj, hk, gt, G, rfl, p4, d4, k4⟩
  have H4 := Lib.hid (And.intro p4 (And.intro (k4.blok H3.out.2.1 (List.mem_append_left _ List.mem_cons_self)) (And.intro hk d4)))
  have u4 := H3.out.2.2.1.count (D1.count + j)
  have HR := Lib.hid (ptrange_at api nap (n := 0) (x := 5) (xi := 5) rfl d4 u4 (by show D1.count + j ≤ _; omega) (by decide) p4 (fun b hb => List.mem_append_left _ hb) H3.out.2.2.2 hk (by decide) (by decide) 0 9 (by decide) (by decide) HX.out.2.1)
  clear p4 d4 k4 hk HO u4
  go_wp2_with fail
  refine HR.out.mono ?_
  rintro e w5 ⟨k1, hk1, A, c, rfl, r5, d5, k5⟩
  have p5 := H4.out.1.keep k5 (fun b hb => List.mem_append_left _ hb)
  have T5 := k5.blok H4.out.2.1 (List.mem_append_right _ (List.mem_append_left _ List.mem_cons_self))
  have H5 := Lib.hid (And.intro p5 (And.intro T5 (And.intro r5 d5)))
  have u5 := H3.out.2.2.1.count (D1.count + j + k1)
  have HL := Lib.hid (ptlast_at api nap (n := 0) (x := 5) (xi := 5) rfl d5 u5 (by show D1.count + j + k1 ≤ _; omega) (by decide) p5 (fun b hb => List.mem_append_right _ (List.mem_append_left _ hb)) H3.out.2.2.2 H4.out.2.2.1 (by decide) (by decide) 0 (by decide) HX.out.2.2.1 HX.out.2.2.2.1)
  clear p5 T5 r5 d5 k5 u5 HR
  go_wp2_with fail
  refine HL.out.mono ?_
  rintro e w6 ⟨k2, hk2, rfl, d6, k6⟩
  have hA6 := (Below.refl w6.heap.size w6).alloc (Nat.le_refl _) (.cells #[.int .u64 5, .int .i64 0, .int .i64 7] 56)
  have Y7 : Blok (w6.alloc (.cells #[.int .u64 5, .int .i64 0, .int .i64 7] 56)) w6.heap.size 56 #[.int .u64 5, .int .i64 0, .int .i64 7] := Blok.new _ _ _
  have d7 := d6.more api hA6 (B := [w6.heap.size]) (fun b hb => by rw [List.mem_singleton.1 hb]; exact ⟨Nat.le_refl _, Y7.lt⟩)
  have k7 := k6.trans (Kept.of_below hA6 d6.lt)
  have p7 := H5.out.1.keep k7 (fun b hb => List.mem_append_right _ (List.mem_append_left _ hb))
  have T7 := k7.blok H5.out.2.1 (List.mem_append_right _ (List.mem_append_right _ (List.mem_append_left _ List.mem_cons_self)))
  have r7 := k7.row H5.out.2.2.1 (fun b hb => List.mem_append_left _ hb)
  obtain ⟨gy, hgy⟩ : ∃ gy, w6.heap.size = gy := ⟨_, rfl⟩
  obtain ⟨w7, hw7⟩ : ∃ w7, w6.alloc (.cells #[.int .u64 5, .int .i64 0, .int .i64 7] 56) = w7 := ⟨_, rfl⟩
  rw [hw7, hgy] at Y7 d7
  rw [hw7] at p7 T7 r7
  have H7 := Lib.hid (And.intro T7 (And.intro r7 (And.intro Y7 d7)))
  have u7 := H3.out.2.2.1.count (D1.count + j + k1 + k2)
  have HL2 := Lib.hid (ptlast_at api nap (n := 0) (x := 6) (xi := 6) rfl d7 u7 (by show D1.count + j + k1 + k2 ≤ _; omega) (by decide) p7 (fun b hb => List.mem_append_right _ (List.mem_append_right _ (List.mem_append_left _ hb))) H3.out.2.2.2 H4.out.2.2.1 (by decide) (by decide) 9 (by decide) HX.out.2.2.2.2.1 HX.out.2.2.2.2.2.1)
  clear p7 T7 r7 Y7 d7 k7 d6 k6 hA6 u7 HL
  go_wp2_with fail
  refine HL2.out.mono ?_
  rintro e w8 ⟨k3, hk3, rfl, d8, k8⟩
  have T8 := k8.blok H7.out.1 (List.mem_append_right _ (List.mem_append_right _ (List.mem_append_right _ (List.mem_append_left _ List.mem_cons_self))))
  have r8 := k8.row H7.out.2.1 (fun b hb => List.mem_append_right _ (List.mem_append_left _ hb))
  have Y8 := k8.blok H7.out.2.2.1 (List.mem_append_left _ List.mem_cons_self)
  have hA8 := (Below.refl w8.heap.size w8).alloc (Nat.le_refl _) (.cells #[.int .u64 0, .int .i64 0, .int .i64 0] 56)
  have T9 := Blok.below T8 hA8
  have Y9 := Blok.below Y8 hA8
  have r9 := r8.below hA8 (Nat.le_refl _)
  have hW9 := d8.kept.trans (hA8.mono d8.kept.size)
  go_upto_region 9 with fail
  obtain ⟨w9, hw9⟩ : ∃ w9, w8.alloc (.cells #[.int .u64 0, .int .i64 0, .int .i64 0] 56) = w9 := ⟨_, rfl⟩
  rw [hw9] at T9 Y9 r9 hW9 ⊢
  clear hw9
  have c0 := T9.cell 0
  have c1 := T9.cell 1
  have c2 := T9.cell 2
  have HA9 := (Below.refl w9.heap.size w9).alloc (Nat.le_refl _) (.cells #[.int .u64 ((5 : Nat) : Int), .int .i64 0, .int .i64 7] 56)
  have e0 := (Blok.below T9 HA9).cell 0
  have e1 := (Blok.below T9 HA9).cell 1
  have e2 := (Blok.below T9 HA9).cell 2
  have b0 := (Blok.below Y9 HA9).cell 0
  have b1 := (Blok.below Y9 HA9).cell 1
  have b2 := (Blok.below Y9 HA9).cell 2
  have HSm := Lib.hid (tsame_any _ _ [⟨5, 0, 7⟩] [⟨5, 0, 7⟩] _ (EntRow.in_ (r9.below HA9 (Nat.le_refl _))) (ent_one w9 ⟨5, 0, 7⟩) (by decide) (by decide))
  have hbf := Lib.hid (And.intro hW9 HA9)
  clear T8 r8 Y8 T9 Y9 r9 hW9 d8 k8 hA8 HL2 HA9
  go_wp2_with fail
  refine HSm.out.mono ?_
  rintro e w10 ⟨rfl, nn, hw10⟩
  have heq : ∀ W, (binOp .eql 56 (.agg #[.int .u64 5, .int .i64 0, .int .i64 7]) (.agg #[.int .u64 5, .int .i64 0, .int .i64 7])).run Tryz.prog W = .ok (.bool true) W := fun W => by
    have := ent_eql ⟨5, 0, 7⟩ ⟨5, 0, 7⟩ W
    rw [decide_eq_true rfl] at this
    exact this
  have y0 : w10.cell? ⟨gy, 0, none⟩ = some (.int .u64 5) := by rw [hw10]; exact b0
  have y1 : w10.cell? ⟨gy, 1, none⟩ = some (.int .i64 0) := by rw [hw10]; exact b1
  have y2 : w10.cell? ⟨gy, 2, none⟩ = some (.int .i64 7) := by rw [hw10]; exact b2
  have z0 : w10.cell? ⟨gx, 0, none⟩ = some (.int .u64 5) := by rw [hw10]; exact e0
  have z1 : w10.cell? ⟨gx, 1, none⟩ = some (.int .i64 0) := by rw [hw10]; exact e1
  have z2 : w10.cell? ⟨gx, 2, none⟩ = some (.int .i64 7) := by rw [hw10]; exact e2
  have HW := Lib.hid hw10
  clear b0 b1 b2 e0 e1 e2 hw10 HSm c0 c1 c2
  go_wp2
  go_ret
  refine ⟨rfl, ?_⟩
  rw [HW.out]
  exact hbf.out.1.trans ((below_drewN hbf.out.2 nn).mono hbf.out.1.size)
/-- A table whose file is not there. -/
theorem missing_run {w0 w : World} {gd : Nat} {D : DiskS} {E : List Nat} (h : DS At w0 gd D E w) (u : UpD D) (hc : D.count ≤ 1000000) (hcap : D.cap ≤ 1000000) (hf : fileOf D.l (ptT (2 : Nat)) = none) :
    Calls Tryz.prog 26 #[ptr gd] w (DEnd At w0 gd (.bool true) D E w) := by
  have hO := popen_no api nap h u.wf (by omega) hcap ((2 : Nat) : Int) (by decide) u.down (Or.inl (by rw [rdW_none u.down hf]; exact (by decide : (4 : Nat) ≠ 0)))
  rw [rdW_none u.down hf] at hO
  have HO : Hid (Calls Tryz.prog 12 #[ptr gd, .int .i64 2] w (DEnd At w0 gd (.tuple #[.pointer none, .int .i64 90]) D E w)) := Lib.hid hO
  clear hO h u hc hcap hf
  go_enter Tryz.func26, Tryz.ntmps26
  go_wp2_with fail
  refine HO.out.mono ?_
  rintro e w1 ⟨rfl, d1, k1⟩
  have H1 := Lib.hid (And.intro d1 k1)
  clear d1 k1
  go_wp2
  go_ret
  exact ⟨rfl, H1.out.1, H1.out.2⟩
end
end Go.Proofs.YtmbhafabphogdaaGreat
