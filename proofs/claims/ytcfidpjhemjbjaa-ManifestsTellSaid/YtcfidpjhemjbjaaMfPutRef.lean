/- A manifest's bytes: the document's Put. -/
import Derived.Test.YtcfidpjhemjbjaaMfPut0
import Derived.Test.YtcfidpjhemjbjaaMfValidRef
import Derived.Test.YtcfidpjhemjbjaaSealOneRef
import Derived.Test.YtcfidpjhemjbjaaNumsPutRef
namespace Go.Proofs.Ytcfidpjhemjbjaa
open Go.RowKit Go.Shelf
set_option linter.unusedVariables false
set_option maxRecDepth 100000

theorem mputr_no (n c : Int) (d : Nat) (A : Option Addr) (k cp : Nat) (R : LvL) (w : World) (h : LvsHas w (.slice A k cp) R) (hl : R.flatten.length ≤ 100000) (hL : R.length ≤ 100000) (hm : ¬ MayM ⟨n, c, d, R⟩) :
    Calls Try.prog 9 #[manV n c d (.slice A k cp)] w (MfPutEnd w ⟨n, c, d, R⟩) := by
  have hb := (Below.refl w.heap.size w).alloc (Nat.le_refl _) (manO n c d (.slice A k cp))
  have HB := Lib.hid hb
  have HV := mvalr_any n c d A k cp R _ (h.below hb (Nat.le_refl _)) hl hL
  rw [show mayM ⟨n, c, d, R⟩ = false from decide_eq_false hm] at HV
  have HV2 := Lib.hid HV
  obtain ⟨e1, e2⟩ := mf_no hm
  unfold MfPutEnd
  rw [e1, e2]
  unfold manV at HV2 ⊢
  clear HV h hl hL hb hm e1 e2
  go_enter Try.func9, Try.ntmps9
  go_wp2_with fail
  refine HV2.out.mono ?_
  rintro e w1 ⟨rfl, hb1⟩
  go_wp2
  go_ret2
  exact ⟨rfl, bj HB.out hb1⟩
set_option maxHeartbeats 1000000 in
theorem mputr_yes (n c : Nat) (d : Nat) (A : Option Addr) (k cp : Nat) (R : LvL) (w : World) (h : LvsHas w (.slice A k cp) R) (hk : k = R.length) (hm : MayM ⟨(n : Nat), (c : Nat), d, R⟩) (hd : d < 18446744073709551616) :
    Calls Try.prog 9 #[manV (n : Nat) (c : Nat) d (.slice A k cp)] w (MfPutEnd w ⟨(n : Nat), (c : Nat), d, R⟩) := by
  have hb := (Below.refl w.heap.size w).alloc (Nat.le_refl _) (manO (n : Nat) (c : Nat) d (.slice A k cp))
  have HB := Lib.hid hb
  have h5 := hm.2.2.2.2.1.1
  have h40 := hm.2.2.2.2.1.2.1
  simp only at h5 h40
  have HV := mvalr_any (n : Nat) (c : Nat) d A k cp R _ (h.below hb (Nat.le_refl _)) (by omega) (by omega)
  rw [show mayM ⟨(n : Nat), (c : Nat), d, R⟩ = true from decide_eq_true hm] at HV
  have HV2 := Lib.hid HV
  obtain ⟨e1, e2⟩ := mf_yes hm
  obtain ⟨A3, c3, HT⟩ := mltrim_all A k cp R hk (by omega)
  have HT2 := Lib.hid (fun W (hW : Below w.heap.size w W) => HT W (h.below hW (Nat.le_refl _)))
  have hn6 : n ≤ 1000000 := by have := hm.2.1; simp only at this; omega
  have hc6 : c ≤ 2147483647 := by have := hm.2.2.2.1; simp only at this; omega
  have HBY := Lib.hid hm.bytes
  obtain ⟨t5, -, tl⟩ := hm.lv_ok
  have HTL := Lib.hid tl
  have HE := Lib.hid (mfTo_end ⟨(n : Nat), (c : Nat), d, R⟩)
  have HTOP : Hid (bs imapL ++ bs (be 4 n) ++ bs (be 4 c) ++ bs (be 8 d) ++ bs (be 1 (trimL R).length) = mfTo ⟨(n : Nat), (c : Nat), d, R⟩ (trimL R) 0) := Lib.hid (by rw [mfTo_zero, mf_top]; rfl)
  unfold MfPutEnd
  rw [e1, e2]
  unfold mfB
  unfold manV at HV2 ⊢
  unfold MTrimEnd at HT2
  simp only at HBY HTL HE t5
  clear HV h hb hm e1 e2 HT tl
  generalize hT : trimL R = T at *
  clear hT
  obtain ⟨t, ht⟩ : ∃ t, t = T.length := ⟨_, rfl⟩
  have HTN := Lib.hid ht
  rw [← ht] at HT2 HE HTOP t5
  clear ht
  have HZ := Lib.hid (show (mfTo ⟨(n : Nat), (c : Nat), d, R⟩ T t).size ≤ 221 from mfTo_size HBY.out)
  generalize hM : (⟨(n : Nat), (c : Nat), d, R⟩ : ManS) = M at *
  clear hM
  have HP1 : Hid (∀ W : World, Calls Try.prog 24 #[.int .u64 (n : Nat), .int .i64 4] W fun e w' => e = .returned (.string (bs (be 4 n))) ∧ Below W.heap.size W w') := Lib.hid fun W => putr_some n 4 W (by omega) (by omega) (by omega)
  have HP2 : Hid (∀ W : World, Calls Try.prog 24 #[.int .u64 (c : Nat), .int .i64 4] W fun e w' => e = .returned (.string (bs (be 4 c))) ∧ Below W.heap.size W w') := Lib.hid fun W => putr_some c 4 W (by omega) (by omega) (by omega)
  have HP3 : Hid (∀ W : World, Calls Try.prog 24 #[.int .u64 (d : Nat), .int .i64 8] W fun e w' => e = .returned (.string (bs (be 8 d))) ∧ Below W.heap.size W w') := Lib.hid fun W => putr_some d 8 W (by omega) (by omega) (by omega)
  have HP4 : Hid (∀ W : World, Calls Try.prog 24 #[.int .u64 (t : Nat), .int .i64 1] W fun e w' => e = .returned (.string (bs (be 1 t))) ∧ Below W.heap.size W w') := Lib.hid fun W => putr_some t 1 W (by omega) (by omega) (by omega)
  have w1' : IntKind.u64.wrap ((n : Nat) : Int) = (n : Nat) := IntWalk.u64_in _ ⟨by omega, by omega⟩
  have w2' : IntKind.u64.wrap ((c : Nat) : Int) = (c : Nat) := IntWalk.u64_in _ ⟨by omega, by omega⟩
  have w4' : IntKind.u64.wrap ((t : Nat) : Int) = (t : Nat) := IntWalk.u64_in _ ⟨by omega, by omega⟩
  have s0 : (bs imapL).size = 4 := rfl
  have s1 : (bs (be 4 n)).size = 4 := by rw [bs_size, be_length]
  have s2 : (bs (be 4 c)).size = 4 := by rw [bs_size, be_length]
  have s3 : (bs (be 8 d)).size = 8 := by rw [bs_size, be_length]
  have s4 : (bs (be 1 t)).size = 1 := by rw [bs_size, be_length]
  have eI : (⟨#[105, 109, 97, 112]⟩ : ByteArray) = bs imapL := rfl
  generalize bs imapL = X0 at *
  generalize bs (be 4 n) = X1 at *
  generalize bs (be 4 c) = X2 at *
  generalize bs (be 8 d) = X3 at *
  generalize bs (be 1 t) = X4 at *
  have a1 : ∀ w : World, (Op.stringOp .add ⟨#[105, 109, 97, 112]⟩ X1).run Try.prog w = .ok (.string (X0 ++ X1)) w := fun w => by rw [eI]; exact run_string_add_sum (P := Try.prog) (w := w) _ _ (by omega)
  have z1 : (X0 ++ X1).size = 8 := by rw [ByteArray.size_append, s0, s1]
  have a2 : ∀ w : World, (Op.stringOp .add (X0 ++ X1) X2).run Try.prog w = .ok (.string (X0 ++ X1 ++ X2)) w := fun w => run_string_add_sum (P := Try.prog) (w := w) _ _ (by omega)
  have z2 : (X0 ++ X1 ++ X2).size = 12 := by rw [ByteArray.size_append, z1, s2]
  have a3 : ∀ w : World, (Op.stringOp .add (X0 ++ X1 ++ X2) X3).run Try.prog w = .ok (.string (X0 ++ X1 ++ X2 ++ X3)) w := fun w => run_string_add_sum (P := Try.prog) (w := w) _ _ (by omega)
  have z3 : (X0 ++ X1 ++ X2 ++ X3).size = 20 := by rw [ByteArray.size_append, z2, s3]
  have a4 : ∀ w : World, (Op.stringOp .add (X0 ++ X1 ++ X2 ++ X3) X4).run Try.prog w = .ok (.string (X0 ++ X1 ++ X2 ++ X3 ++ X4)) w := fun w => run_string_add_sum (P := Try.prog) (w := w) _ _ (by omega)
  rw [HTOP.out] at a4
  generalize X0 ++ X1 ++ X2 ++ X3 = Y3 at *
  generalize X0 ++ X1 ++ X2 = Y2 at *
  generalize X0 ++ X1 = Y1 at *
  have g0 : (w.alloc (manO (n : Nat) (c : Nat) d (.slice A k cp))).cell? ⟨w.heap.size, 0, none⟩ = some (.int .i64 (n : Nat)) := World.cell?_alloc_at _ _ _ _ rfl
  have g1 : (w.alloc (manO (n : Nat) (c : Nat) d (.slice A k cp))).cell? ⟨w.heap.size, 1, none⟩ = some (.int .i64 (c : Nat)) := World.cell?_alloc_at _ _ _ _ rfl
  have g2 : (w.alloc (manO (n : Nat) (c : Nat) d (.slice A k cp))).cell? ⟨w.heap.size, 2, none⟩ = some (.int .u64 (d : Nat)) := World.cell?_alloc_at _ _ _ _ rfl
  have g3 : (w.alloc (manO (n : Nat) (c : Nat) d (.slice A k cp))).cell? ⟨w.heap.size, 3, none⟩ = some (.slice A k cp) := World.cell?_alloc_at _ _ _ _ rfl
  have G := Lib.hid (And.intro g0 (And.intro g1 (And.intro g2 g3)))
  have Z3 := Lib.hid z3
  have S4 := Lib.hid s4
  have A123 := Lib.hid (And.intro a1 (And.intro a2 (And.intro a3 a4)))
  clear g0 g1 g2 g3 eI s0 s1 s2 s3 s4 z1 z2 z3 a1 a2 a3 a4 hk h5 h40
  go_enter Try.func9, Try.ntmps9
  go_wp2_with fail
  refine HV2.out.mono ?_
  rintro e w1 ⟨rfl, hb1⟩
  rw [World.size_alloc] at hb1
  obtain ⟨q0, q1, q2, q3⟩ := G.out
  have c0 := mcell hb1 (show w.heap.size < w.heap.size + 1 by omega) q0
  have c1 := mcell hb1 (show w.heap.size < w.heap.size + 1 by omega) q1
  have c2 := mcell hb1 (show w.heap.size < w.heap.size + 1 by omega) q2
  have c3' := mcell hb1 (show w.heap.size < w.heap.size + 1 by omega) q3
  have hz1 := hb1.size
  rw [World.size_alloc] at hz1
  have hbw : Below w.heap.size w w1 := HB.out.trans (hb1.mono (by simp))
  have hlt : w.heap.size < w1.heap.size := by omega
  have HBW := Lib.hid hbw
  clear hb1 q0 q1 q2 q3 G HV2 HB
  obtain ⟨hT1, hT2⟩ := HT2.out w1 hbw
  have HTC := Lib.hid hT1
  obtain ⟨A9, off, cap9, ev, -, hc⟩ := hT2.form
  rw [← HTN.out] at ev
  obtain ⟨rfl, -, rfl⟩ := Value.slice.inj ev
  have HC := Lib.hid hc
  have HQ := Lib.hid fun W => seal_ref (bs (mfBody M)) W (by have := HZ.out; rw [HE.out] at this; unfold maxLen; omega)
  have HS : Hid (∀ W, Below w1.heap.size w1 W → Below w1.heap.size w1 W ∧ W.cell? ⟨w.heap.size, 0, none⟩ = some (.int .i64 (n : Nat)) ∧ W.cell? ⟨w.heap.size, 1, none⟩ = some (.int .i64 (c : Nat)) ∧ W.cell? ⟨w.heap.size, 2, none⟩ = some (.int .u64 (d : Nat))) :=
    Lib.hid fun W hW => ⟨hW, mcell hW hlt c0, mcell hW hlt c1, mcell hW hlt c2⟩
  have K1 := Lib.hid fun W (hh : Below w1.heap.size w1 W ∧ W.cell? ⟨w.heap.size, 0, none⟩ = some (.int .i64 (n : Nat)) ∧ W.cell? ⟨w.heap.size, 1, none⟩ = some (.int .i64 (c : Nat)) ∧ W.cell? ⟨w.heap.size, 2, none⟩ = some (.int .u64 (d : Nat))) => (HP1.out W).mono fun e w' hr => (⟨hr.1, HS.out w' (bj hh.1 hr.2)⟩ : e = _ ∧ (Below w1.heap.size w1 w' ∧ w'.cell? ⟨w.heap.size, 0, none⟩ = some (.int .i64 (n : Nat)) ∧ w'.cell? ⟨w.heap.size, 1, none⟩ = some (.int .i64 (c : Nat)) ∧ w'.cell? ⟨w.heap.size, 2, none⟩ = some (.int .u64 (d : Nat))))
  have K2 := Lib.hid fun W (hh : Below w1.heap.size w1 W ∧ W.cell? ⟨w.heap.size, 0, none⟩ = some (.int .i64 (n : Nat)) ∧ W.cell? ⟨w.heap.size, 1, none⟩ = some (.int .i64 (c : Nat)) ∧ W.cell? ⟨w.heap.size, 2, none⟩ = some (.int .u64 (d : Nat))) => (HP2.out W).mono fun e w' hr => (⟨hr.1, HS.out w' (bj hh.1 hr.2)⟩ : e = _ ∧ (Below w1.heap.size w1 w' ∧ w'.cell? ⟨w.heap.size, 0, none⟩ = some (.int .i64 (n : Nat)) ∧ w'.cell? ⟨w.heap.size, 1, none⟩ = some (.int .i64 (c : Nat)) ∧ w'.cell? ⟨w.heap.size, 2, none⟩ = some (.int .u64 (d : Nat))))
  have K3 := Lib.hid fun W (hh : Below w1.heap.size w1 W ∧ W.cell? ⟨w.heap.size, 0, none⟩ = some (.int .i64 (n : Nat)) ∧ W.cell? ⟨w.heap.size, 1, none⟩ = some (.int .i64 (c : Nat)) ∧ W.cell? ⟨w.heap.size, 2, none⟩ = some (.int .u64 (d : Nat))) => (HP3.out W).mono fun e w' hr => (⟨hr.1, HS.out w' (bj hh.1 hr.2)⟩ : e = _ ∧ (Below w1.heap.size w1 w' ∧ w'.cell? ⟨w.heap.size, 0, none⟩ = some (.int .i64 (n : Nat)) ∧ w'.cell? ⟨w.heap.size, 1, none⟩ = some (.int .i64 (c : Nat)) ∧ w'.cell? ⟨w.heap.size, 2, none⟩ = some (.int .u64 (d : Nat))))
  have K4 := Lib.hid fun W (hh : Below w1.heap.size w1 W ∧ W.cell? ⟨w.heap.size, 0, none⟩ = some (.int .i64 (n : Nat)) ∧ W.cell? ⟨w.heap.size, 1, none⟩ = some (.int .i64 (c : Nat)) ∧ W.cell? ⟨w.heap.size, 2, none⟩ = some (.int .u64 (d : Nat))) => (HP4.out W).mono fun e w' hr => (⟨hr.1, HS.out w' (bj hh.1 hr.2)⟩ : e = _ ∧ (Below w1.heap.size w1 w' ∧ w'.cell? ⟨w.heap.size, 0, none⟩ = some (.int .i64 (n : Nat)) ∧ w'.cell? ⟨w.heap.size, 1, none⟩ = some (.int .i64 (c : Nat)) ∧ w'.cell? ⟨w.heap.size, 2, none⟩ = some (.int .u64 (d : Nat))))
  have hs0 := HS.out _ (Below.refl w1.heap.size w1).drew
  clear hT1 hT2 ev hc HT2 hbw
  go_wp2_with fail
  refine HTC.out.mono ?_
  rintro e w5 ⟨rfl, hw5⟩
  obtain rfl : w1 = w5 := hw5.symm
  obtain ⟨a1, a2, a3, a4⟩ := A123.out
  clear HTC c3'
  go_upto_region 4 with fail
  go_region_held3 (fun W => Below w1.heap.size w1 W ∧ W.cell? ⟨w.heap.size, 0, none⟩ = some (.int .i64 (n : Nat)) ∧ W.cell? ⟨w.heap.size, 1, none⟩ = some (.int .i64 (c : Nat)) ∧ W.cell? ⟨w.heap.size, 2, none⟩ = some (.int .u64 (d : Nat)))
    (first | (with_reducible assumption) | fail)
    (first
    | (go_at_call 24; ((with_reducible refine (K1.out _ (by with_reducible assumption)).mono ?_); rintro e w' ⟨rfl, hb⟩))
    | (go_at_call 24; ((with_reducible refine (K2.out _ (by with_reducible assumption)).mono ?_); rintro e w' ⟨rfl, hb⟩))
    | (go_at_call 24; ((with_reducible refine (K3.out _ (by with_reducible assumption)).mono ?_); rintro e w' ⟨rfl, hb⟩))
    | (go_at_call 24; ((with_reducible refine (K4.out _ (by with_reducible assumption)).mono ?_); rintro e w' ⟨rfl, hb⟩))
    | fail)
  have HX := Lib.hid hb.1
  clear K1 K2 K3 K4 hs0 hb a1 a2 a3 a4 A123 Z3 S4 HS HTOP HP1 HP2 HP3 HP4 c0 c1 c2
  go_wp2
  go_loopg [5, 6] t (fun g u i wr => ∃ j : Nat, j + g = t ∧ i = .int .i64 j ∧ u = .string (mfTo M T j) ∧ Below w1.heap.size w1 wr)
  case atStart => exact ⟨0, by omega, rfl, rfl, HX.out⟩
  case round =>
    obtain ⟨j, hjg, rfl, rfl, W8⟩ := hrel
    clear HX
    have H8 := Lib.hid W8
    clear W8
    obtain ⟨wo, rfl⟩ : ∃ wo, wo = wr := ⟨_, rfl⟩
    cases gk with
    | zero =>
      obtain rfl : j = t := by omega
      have l1 : ¬ (j : Int) < (j : Int) := by omega
      rw [HE.out]
      go_wp2_with fail
      refine (HQ.out _).mono ?_
      rintro e w9 ⟨rfl, hb9⟩
      have HB9 := Lib.hid hb9
      clear hb9
      go_wp2
      go_ret2
      exact ⟨rfl, bj HBW.out (bj H8.out HB9.out)⟩
    | succ gi =>
      have hjt : j < t := by omega
      have l1 : (j : Int) < (t : Int) := by omega
      obtain ⟨x, hx⟩ : ∃ x, T[j]? = some x := ⟨_, List.getElem?_eq_getElem (by rw [← HTN.out]; exact hjt)⟩
      obtain ⟨b, u, rfl, hbl, cu, hin⟩ := HC.out j x hx
      have cu2 := mcell H8.out hbl cu
      obtain ⟨A4, o4, c4, rfl, -, hc4⟩ := hin.form
      obtain ⟨x40, xb⟩ := HTL.out x (List.mem_of_getElem? hx)
      have HXB := Lib.hid xb
      have HXJ := Lib.hid hx
      have HC4 := Lib.hid hc4
      have hi0 := mfIn_zero M T j x
      have HIE := Lib.hid (mfIn_end (m := M) hx)
      have HSZ := Lib.hid (fun k => mfIn_size (m := M) (T := T) (j := j) (k := k) HBY.out x40)
      have hz0 : (bs (be 1 x.length)).size = 1 := by rw [bs_size, be_length]
      have ha0 : ∀ w : World, (Op.stringOp .add (mfTo M T j) (bs (be 1 x.length))).run Try.prog w = .ok (.string (mfIn M T j x 0)) w := fun w => by
        rw [← hi0]
        exact run_string_add_sum (P := Try.prog) (w := w) _ _ (by have := mfTo_size (m := M) (j := j) HBY.out; omega)
      obtain ⟨m, hm⟩ : ∃ m, m = x.length := ⟨_, rfl⟩
      have HM := Lib.hid hm
      rw [← hm] at HIE cu2 x40 hz0 ha0
      have hpm : Hid (∀ W : World, Calls Try.prog 24 #[.int .u64 (m : Nat), .int .i64 1] W fun e w' => e = .returned (.string (bs (be 1 m))) ∧ Below W.heap.size W w') := Lib.hid fun W => putr_some m 1 W (by omega) (by omega) (by omega)
      have wm : IntKind.u64.wrap ((m : Nat) : Int) = (m : Nat) := IntWalk.u64_in _ ⟨by omega, by omega⟩
      generalize hB1 : bs (be 1 m) = B1 at *
      have HCU := Lib.hid (fun W (hW : Below w1.heap.size w1 W) => mcell hW hbl cu)
      rw [← hm] at HCU
      clear hB1 hx hbl cu hin hc4 xb hm hz0 hi0
      go_wp2_with fail
      refine (hpm.out _).mono ?_
      rintro e w8 ⟨rfl, hb8⟩
      have H9 := Lib.hid (bj H8.out hb8)
      clear hb8 cu2
      go_wp2
      clear ha0
      go_loopg [5, 7] m (fun g u i wx => ∃ k : Nat, k + g = m ∧ i = .int .i64 k ∧ u = .string (mfIn M T j x k) ∧ Below w1.heap.size w1 wx)
      case atStart => exact ⟨0, by omega, rfl, rfl, H9.out⟩
      case round =>
        obtain ⟨kk, hkg, rfl, rfl, W10⟩ := hrel
        have H10 := Lib.hid W10
        have cu2 := HCU.out _ W10
        clear W10 H9
        cases gk with
        | zero =>
          obtain rfl : kk = m := by omega
          have l2 : ¬ (kk : Int) < (kk : Int) := by omega
          have HIE2 := HIE.out
          go_wp2
          go_roundg gi
          case measure => omega
          case rel => exact ⟨j + 1, by omega, by go_num, rfl, H10.out⟩
        | succ gj =>
          have hkm : kk < m := by omega
          have l2 : (kk : Int) < (m : Int) := by omega
          obtain ⟨y, hy⟩ : ∃ y, x[kk]? = some y := ⟨_, List.getElem?_eq_getElem (by rw [← HM.out]; exact hkm)⟩
          obtain ⟨b2, rfl, hb2, cy⟩ := HC4.out kk y hy
          obtain ⟨y0, y1⟩ := HXB.out y (List.mem_of_getElem? hy)
          have cy2 := mcell H10.out hb2 cy
          have his := mfIn_succ (m := M) (T := T) (j := j) hy
          obtain ⟨N, rfl⟩ : ∃ N : Nat, y = (N : Int) := ⟨y.toNat, by omega⟩
          have HPY : Hid (∀ W : World, Calls Try.prog 24 #[.int .u64 (N : Nat), .int .i64 4] W fun e w' => e = .returned (.string (bs (be 4 N))) ∧ Below W.heap.size W w') := Lib.hid fun W => putr_some N 4 W (by omega) (by omega) (by omega)
          have wN : IntKind.u64.wrap ((N : Nat) : Int) = (N : Nat) := IntWalk.u64_in _ ⟨by omega, by omega⟩
          rw [Int.toNat_natCast] at his
          have hz4 : (bs (be 4 N)).size = 4 := by rw [bs_size, be_length]
          have ha4 : ∀ w : World, (Op.stringOp .add (mfIn M T j x kk) (bs (be 4 N))).run Try.prog w = .ok (.string (mfIn M T j x (kk + 1))) w := fun w => by
            rw [← his]
            exact run_string_add_sum (P := Try.prog) (w := w) _ _ (by have := HSZ.out kk; omega)
          generalize bs (be 4 N) = B4 at *
          clear hy hb2 cy hz4 y0 y1 his
          go_wp2_with fail
          refine (HPY.out _).mono ?_
          rintro e w11 ⟨rfl, hb11⟩
          have HR := Lib.hid (bj H10.out hb11)
          clear hb11 cy2 cu2
          go_wp2
          go_roundg gj
          case measure => omega
          case rel => exact ⟨kk + 1, by omega, by go_num, rfl, HR.out⟩
theorem mputr_any (n c : Int) (d : Nat) (A : Option Addr) (k cp : Nat) (R : LvL) (w : World) (h : LvsHas w (.slice A k cp) R) (hk : k = R.length) (hl : R.flatten.length ≤ 100000) (hL : R.length ≤ 100000) (hd : d < 18446744073709551616) :
    Calls Try.prog 9 #[manV n c d (.slice A k cp)] w (MfPutEnd w ⟨n, c, d, R⟩) := by
  by_cases hm : MayM ⟨n, c, d, R⟩
  · obtain ⟨N, rfl⟩ : ∃ N : Nat, n = (N : Int) := ⟨n.toNat, by have := hm.1; simp only at this; omega⟩
    obtain ⟨C, rfl⟩ : ∃ C : Nat, c = (C : Int) := ⟨c.toNat, by have := hm.2.2.1; simp only at this; omega⟩
    exact mputr_yes N C d A k cp R w h hk hm hd
  · exact mputr_no n c d A k cp R w h hl hL hm
end Go.Proofs.Ytcfidpjhemjbjaa
