/- 'LevelsTell': the walk. -/
import Derived.Test.YtejdeidbgbacgaaLvEx
import Derived.Test.YtejdeidbgbacgaaLvRefRepl
import Derived.Test.YtejdeidbgbacgaaLvOver
import Derived.Deep.LoopGhost
namespace Go.Proofs.Ytejdeidbgbacgaa
open Go.RowKit Go.Shelf
set_option linter.unusedVariables false
set_option maxRecDepth 100000

namespace levelsTell
def ToldL (wo : World) (T : LvL) (t : Nat) (E : Int) (W : World) (e : Ending) (w' : World) : Prop := ∃ A c, e = .returned (.tuple #[.slice A t c, .int .i64 E]) ∧ LvsNew w' wo.heap.size (.slice A t c) T ∧ Below W.heap.size W w'
def ToldI (wo : World) (P : List Int) (p : Nat) (E : Int) (W : World) (e : Ending) (w' : World) : Prop := ∃ A c, e = .returned (.tuple #[.slice A p c, .int .i64 E]) ∧ (p = P.length ∧ IRow w' wo.heap.size (.slice A p c) P) ∧ Below W.heap.size W w'
def ToldA (wo : World) (P : List Int) (p : Nat) (W : World) (e : Ending) (w' : World) : Prop := ∃ A c, e = .returned (.slice A p c) ∧ IntsIn w' (.slice A p c) P ∧ Below W.heap.size W w'
theorem told_l {wo W : World} {T : LvL} {t : Nat} {E : Int} (ht : t = T.length) (hW : Below wo.heap.size wo W) {f : Nat} {args : Array Value} (h : Calls Try.prog f args W (LvsEnd W T E)) : Calls Try.prog f args W (ToldL wo T t E W) := by
  subst ht
  exact h.mono fun e w' ⟨A, c, he, h1, h2⟩ => ⟨A, c, he, h1.down hW.size, h2⟩
theorem told_i {wo W : World} {R : LvL} {k : Int} {p : Nat} (ht : p = (pickL R k).length) (hW : Below wo.heap.size wo W) {f : Nat} {args : Array Value} (h : Calls Try.prog f args W (PickEnd W R k)) : Calls Try.prog f args W (ToldI wo (pickL R k) p (pickE R k) W) := by
  subst ht
  exact h.mono fun e w' ⟨A, c, he, h1, h2⟩ => ⟨A, c, he, ⟨rfl, IRow.down h1 hW.size⟩, h2⟩
theorem told_a {wo W : World} {P : List Int} {p : Nat} (ht : p = P.length) {f : Nat} {args : Array Value} (h : Calls Try.prog f args W (IntsOut W P)) : Calls Try.prog f args W (ToldA wo P p W) := by
  subst ht
  exact h.mono fun e w' ⟨A, c, he, h1, h2⟩ => ⟨A, c, he, IRow.in_ h1, h2⟩
theorem same_yes {va vb : Value} {T : LvL} {W : World} (ha : LvsHas W va T) (hb : LvsHas W vb T) : Calls Try.prog 14 #[va, vb] W fun e w' => e = .returned (.bool true) ∧ Below W.heap.size W w' := (lsame_any va vb T T W ha hb).mono (by
  rintro e w' ⟨rfl, n, rfl⟩
  exact ⟨by rw [decide_eq_true rfl], below_drewN (Below.refl _ _) n⟩)
theorem ints_yes {va vb : Value} {P : List Int} {W : World} (ha : IntsIn W va P) (hb : IntsIn W vb P) : Calls Try.prog 15 #[va, vb] W fun e w' => e = .returned (.bool true) ∧ Below W.heap.size W w' := (lints_any va vb P P W ha hb).mono (by
  rintro e w' ⟨rfl, n, rfl⟩
  exact ⟨by rw [decide_eq_true rfl], below_drewN (Below.refl _ _) n⟩)
theorem irow_in {w : World} {base p : Nat} {v : Value} {P : List Int} (h : p = P.length ∧ IRow w base v P) : IntsIn w v P := IRow.in_ h.2
theorem irow_room {w : World} {base p : Nat} {v : Value} {P : List Int} (h : p = P.length ∧ IRow w base v P) : IRoom w base v p := by
  rw [h.1]
  exact IRow.room h.2
theorem lv_bound {w : World} {base n c : Nat} {A : Option Addr} {M : List LvS} (h : LvRow w base (.slice A n c) M) : n = M.length ∧ n ≤ maxLen := by
  obtain ⟨A', c', e, h1, h2, -⟩ := own_form h
  obtain ⟨-, rfl, -⟩ := Value.slice.inj e
  exact ⟨rfl, by omega⟩
/-- All that was told may be written over. -/
theorem over_start {wo w : World} {vc : Value} {T1 T3 : LvL} {nc t1 t3 : Nat} {A1 A3 : Option Addr} {c1 c3 : Nat} (ha : LvsNew w wo.heap.size (.slice A1 t1 c1) T1) (hc : IRoom w wo.heap.size vc nc) (hx : LvsNew w wo.heap.size (.slice A3 t3 c3) T3) (hb : Below wo.heap.size wo w) :
    ∃ Ma Mx, t1 = Ma.length ∧ t3 = Mx.length ∧ t1 ≤ maxLen ∧ t3 ≤ maxLen ∧ Over wo (.slice A1 t1 c1) Ma vc nc (.slice A3 t3 c3) Mx w := by
  obtain ⟨Ma, a1, a2, -⟩ := ha
  obtain ⟨Mx, x1, x2, -⟩ := hx
  exact ⟨Ma, Mx, (lv_bound a1).1, (lv_bound x1).1, (lv_bound a1).2, (lv_bound x1).2, a1, fun y hy => IRow.room (a2 y hy), hc, x1, fun y hy => IRow.room (x2 y hy), hb⟩
theorem go_wrap {t m : Nat} (h : t < m) (hm : m ≤ 9223372036854775807) : IntKind.i64.wrap ((t : Int) + 1) = ((t : Int) + 1) := IntWalk.i64_in _ ⟨by omega, by omega⟩
set_option maxHeartbeats 8000000 in
theorem walk_ (w : World) (v : Value) (R : LvL) (lv nn : Int) (hh : LvsHas w v R) : Calls Try.prog 3 #[v, .int .i64 lv, .int .i64 nn] w fun e w' => e = .returned (.bool true) ∧ Below w.heap.size w w' := by
  have HST := Lib.hid stand_true
  unfold LvEnd at HST
  have HG := Lib.hid (lgreat_any v R w hh)
  have HH := Lib.hid hh
  obtain ⟨A, off, cap, rfl, -, hc⟩ := hh.form
  have HC := Lib.hid hc
  have HF1 := Lib.hid (fun k x (hx : R[k]? = some x) => flat_one hx)
  have HX := Lib.hid (fun wr g k w2 A m c x (h1 : FillAt w g R.length R k wr) (h2 : R[k]? = some x) (h3 : IRow w2 wr.heap.size (.slice A m c) x) h4 => h1.next h2 (Nat.le_refl _) h3 h4)
  have HCE := Lib.hid (fun wr g k m (h1 : FillAt w g R.length R k wr) (h2 : m < R.length) h3 => h1.cell h2 h3 (Nat.le_refl _))
  have HEND := Lib.hid (show ∀ wr g, FillAt w g R.length R R.length wr → LvsHas wr (.slice (some ⟨g, 0, none⟩) R.length R.length) R ∧ Below w.heap.size w wr from fun wr g h => by
    obtain ⟨M, h1, h2, h3, h4, h5⟩ := h
    rw [fillTo_full] at h4
    exact ⟨LvsNew.has ⟨M, h1, h2, h4⟩, h5⟩)
  have HMK := Lib.hid (fun (hn : R.length ≤ 1000000) => lv_make R.length hn)
  have HFS := Lib.hid (fun Z h => FillAt.start (w := w) (w1 := w) (Z := Z) R.length R h)
  obtain ⟨n, hn⟩ : ∃ n, n = R.length := ⟨_, rfl⟩
  have HN := Lib.hid hn
  rw [← hn] at HX HCE HMK HFS HEND ⊢
  rw [← hn] at HG HH
  clear hh hc hn
  go_enter Try.func3, Try.ntmps3
  go_wp2_with fail
  refine HG.out.mono ?_
  rintro e w0 ⟨q, rfl, rfl, hq⟩
  cases q with
  | true =>
    clear hq
    go_wp2_with fail
    refine (HST.out _).mono ?_
    rintro e w1 ⟨rfl, hb1⟩
    go_wp2
    go_ret
    exact ⟨rfl, hb1⟩
  | false =>
    have HFEW := Lib.hid (hq rfl)
    have hn10 : n ≤ 10 := by rw [HN.out]; exact HFEW.out.1
    have h600 := few_flat HFEW.out
    obtain ⟨Z, hZ, hZ2⟩ := HMK.out (by omega)
    have HZ := Lib.hid (HFS.out Z (hZ2 w0))
    clear hq HG hZ2 HMK HFS
    go_wp2
    go_loopg [8] n (fun g i wr => ∃ (k : Nat), k + g = n ∧ i = .int .i64 k ∧ FillAt w0 w0.heap.size n R k wr)
    case atStart => exact ⟨0, by omega, rfl, HZ.out⟩
    case round =>
      obtain ⟨k, hkg, rfl, hf⟩ := hrel
      have HF := Lib.hid hf
      clear hf
      cases gk with
      | succ gi =>
        have hkn : k < n := by omega
        have s1 : (k : Int) < (n : Int) := by omega
        obtain ⟨x, hx⟩ : ∃ x, R[k]? = some x := ⟨_, List.getElem?_eq_getElem (by rw [← HN.out]; exact hkn)⟩
        obtain ⟨b, u, rfl, hb, c1, hin⟩ := HC.out k x hx
        obtain ⟨M, -, -, -, -, hbel⟩ := HF.out
        have c2 := (hbel.cell (p := ⟨b, off + k, none⟩) hb).trans c1
        obtain ⟨A3, c3, w2, e1, e2, e3, -⟩ := ints_append (IRow.nil wr wr.heap.size) (hin.below hbel (Nat.le_refl _)) (by have := HF1.out k x hx; simp; omega) (Nat.le_refl _) 25
        simp only [List.length_nil, Nat.zero_add, List.nil_append] at e1 e2
        have h4 : Below wr.heap.size wr w2 := igrown_below e3 (Nat.le_refl _) (fun k hk => by cases hk)
        obtain ⟨A2, o2, c2', rfl, -, -⟩ := hin.form
        have HNX := Lib.hid (HX.out wr _ k w2 A3 x.length c3 x HF.out hx e2 h4)
        obtain ⟨⟨y, d1⟩, d2, -, hgl⟩ := HCE.out wr _ k k HF.out hkn (by omega)
        have d3 := (h4.cell (p := ⟨w0.heap.size, k, none⟩) hgl).trans d1
        have d4 : w2.frozen? ⟨w0.heap.size, k, none⟩ = false := by rw [World.frozen?_of_block (w := wr) (h4.block _ hgl)]; exact d2
        have HE := Lib.hid e1
        clear hx hin hbel c1 e1 e2 e3 h4 d1 d2
        generalize x.length = m at *
        go_wp2_with (first | (at_builtin; refine wpList_append_two rfl _ _ rfl rfl rfl HE.out ?_) | fail)
        go_roundg gi
        case measure => omega
        case rel => exact ⟨k + 1, by omega, by go_num, HNX.out⟩
      | zero =>
        obtain rfl : k = n := by omega
        have s1 : ¬ (k : Int) < (k : Int) := by omega
        obtain ⟨wo, rfl⟩ : ∃ wo, wo = wr := ⟨_, rfl⟩
        obtain ⟨hown, hbo⟩ := HEND.out _ _ HF.out
        have hL : R.length ≤ 100000 := by rw [← HN.out]; omega
        have hl : R.flatten.length ≤ 100000 := by omega
        have HBO := Lib.hid hbo
        have hlin := HH.out.below hbo (Nat.le_refl _)
        obtain ⟨t1, ht1⟩ : ∃ t, t = (addL R nn).length := ⟨_, rfl⟩
        obtain ⟨p, hp⟩ : ∃ t, t = (pickL R lv).length := ⟨_, rfl⟩
        obtain ⟨t3, ht3⟩ : ∃ t, t = (replL R lv nn).length := ⟨_, rfl⟩
        obtain ⟨f, hf⟩ : ∃ t, t = R.flatten.length := ⟨_, rfl⟩
        have C1 := Lib.hid (told_l ht1 (Below.refl wo.heap.size wo) (ladd_any _ R nn wo hown hl hL))
        have C2 := Lib.hid (fun W (hW : Below wo.heap.size wo W) => told_l ht1 hW (radd_any _ R nn W (hlin.below hW (Nat.le_refl _)) hl hL))
        have C3 := Lib.hid (fun W (hW : Below wo.heap.size wo W) => told_i hp hW (lpick_any _ R lv W (hown.below hW (Nat.le_refl _)) hl hL))
        have C4 := Lib.hid (fun W (hW : Below wo.heap.size wo W) => told_i hp hW (rpick_any _ R lv W (hlin.below hW (Nat.le_refl _)) hl hL))
        have C5 := Lib.hid (fun W (hW : Below wo.heap.size wo W) => told_l ht3 hW (lrepl_any _ R lv nn W (hown.below hW (Nat.le_refl _)) hl hL))
        have C6 := Lib.hid (fun W (hW : Below wo.heap.size wo W) => told_l ht3 hW (rrepl_any _ R lv nn W (hlin.below hW (Nat.le_refl _)) hl hL))
        have C7 := Lib.hid (fun W (hW : Below wo.heap.size wo W) => lvalid_any _ R W (hown.below hW (Nat.le_refl _)) hl hL)
        have C8 := Lib.hid (fun W (hW : Below wo.heap.size wo W) => rvalid_any _ R W (hlin.below hW (Nat.le_refl _)) hl hL)
        have C9 := Lib.hid (fun W (hW : Below wo.heap.size wo W) => told_a (wo := wo) hf (lall_any _ R W (hown.below hW (Nat.le_refl _)) hl hL))
        have C10 := Lib.hid (fun W (hW : Below wo.heap.size wo W) => told_a (wo := wo) hf (rall_any _ R W (hlin.below hW (Nat.le_refl _)) hl hL))
        have C11 := Lib.hid (fun W (hW : Below wo.heap.size wo W) => same_yes (hown.below hW (Nat.le_refl _)) (hlin.below hW (Nat.le_refl _)))
        clear hown hlin hbo hl hL ht1 hp ht3 hf HX HCE HEND HF HZ hZ HC HH HF1 h600
        generalize addL R nn = T1 at *
        generalize addE R nn = E1 at *
        generalize pickL R lv = P at *
        generalize pickE R lv = E2 at *
        generalize replL R lv nn = T3 at *
        generalize replE R lv nn = E3 at *
        generalize validL R = vq at *
        generalize R.flatten = FL at *
        unfold ToldL at C1 C2 C5 C6
        unfold ToldI at C3 C4
        unfold ToldA at C9 C10
        have z1 : (E1 != E1) = false := by simp
        have z2 : (E2 != E2) = false := by simp
        have z3 : (E3 != E3) = false := by simp
        have z4 : (vq != vq) = false := by cases vq <;> rfl
        go_wp2_with fail
        refine C1.out.mono ?_
        rintro e w1 ⟨A1, c1, rfl, a1, b1⟩
        have HA1 := Lib.hid a1
        have HB1 := Lib.hid b1
        clear a1 b1 C1
        go_wp2_with fail
        refine (C2.out _ HB1.out).mono ?_
        rintro e w2 ⟨A2, c2, rfl, a2, b2⟩
        have HA2 := Lib.hid (And.intro (HA1.out.below b2 (Nat.le_refl _)) a2)
        have HB2 := Lib.hid (bj HB1.out b2)
        clear a2 b2 C2 HA1
        go_wp2_with fail
        refine (C3.out _ HB2.out).mono ?_
        rintro e w3 ⟨A3, c3, rfl, a3, b3⟩
        have HA3 := Lib.hid (And.intro (HA2.out.1.below b3 (Nat.le_refl _)) (And.intro (HA2.out.2.below b3 (Nat.le_refl _)) a3))
        have HB3 := Lib.hid (bj HB2.out b3)
        clear a3 b3 C3 HA2
        go_wp2_with fail
        refine (C4.out _ HB3.out).mono ?_
        rintro e w4 ⟨A4, c4, rfl, a4, b4⟩
        have HA4 := Lib.hid (And.intro (HA3.out.1.below b4 (Nat.le_refl _)) (And.intro (HA3.out.2.1.below b4 (Nat.le_refl _)) (And.intro (And.intro HA3.out.2.2.1 (IRow.below HA3.out.2.2.2 b4 (Nat.le_refl _))) a4)))
        have HB4 := Lib.hid (bj HB3.out b4)
        clear a4 b4 C4 HA3
        go_wp2_with fail
        refine (C5.out _ HB4.out).mono ?_
        rintro e w5 ⟨A5, c5, rfl, a5, b5⟩
        have HA5 := Lib.hid (And.intro (HA4.out.1.below b5 (Nat.le_refl _)) (And.intro (HA4.out.2.1.below b5 (Nat.le_refl _)) (And.intro (And.intro HA4.out.2.2.1.1 (IRow.below HA4.out.2.2.1.2 b5 (Nat.le_refl _))) (And.intro (And.intro HA4.out.2.2.2.1 (IRow.below HA4.out.2.2.2.2 b5 (Nat.le_refl _))) a5))))
        have HB5 := Lib.hid (bj HB4.out b5)
        clear a5 b5 C5 HA4
        go_wp2_with fail
        refine (C6.out _ HB5.out).mono ?_
        rintro e w6 ⟨A6, c6, rfl, a6, b6⟩
        have Ha := Lib.hid (HA5.out.1.below b6 (Nat.le_refl _))
        have Hb := Lib.hid (HA5.out.2.1.below b6 (Nat.le_refl _))
        have Hc := Lib.hid (And.intro HA5.out.2.2.1.1 (IRow.below HA5.out.2.2.1.2 b6 (Nat.le_refl _)))
        have Hd := Lib.hid (And.intro HA5.out.2.2.2.1.1 (IRow.below HA5.out.2.2.2.1.2 b6 (Nat.le_refl _)))
        have Hx := Lib.hid (HA5.out.2.2.2.2.below b6 (Nat.le_refl _))
        have Hy := Lib.hid a6
        have HB6 := Lib.hid (bj HB5.out b6)
        clear a6 b6 C6 HA5
        have S1 := Lib.hid (fun W (hW : Below w6.heap.size w6 W) => same_yes (Ha.out.has.below hW (Nat.le_refl _)) (Hb.out.has.below hW (Nat.le_refl _)))
        have S2 := Lib.hid (fun W (hW : Below w6.heap.size w6 W) => ints_yes ((irow_in Hc.out).below hW (Nat.le_refl _)) ((irow_in Hd.out).below hW (Nat.le_refl _)))
        have S3 := Lib.hid (fun W (hW : Below w6.heap.size w6 W) => same_yes (Hx.out.has.below hW (Nat.le_refl _)) (Hy.out.has.below hW (Nat.le_refl _)))
        clear Hb Hd Hy
        go_wp2_with fail
        refine (S1.out _ (Below.refl _ _)).mono ?_
        rintro e w7 ⟨rfl, b7⟩
        have HB7 := Lib.hid b7
        clear b7
        go_wp2_with fail
        refine (S2.out _ HB7.out).mono ?_
        rintro e w8 ⟨rfl, b8⟩
        have HB8 := Lib.hid (bj HB7.out b8)
        clear b8
        go_wp2_with fail
        refine (S3.out _ HB8.out).mono ?_
        rintro e w9 ⟨rfl, b9⟩
        have HB9 := Lib.hid (bj HB8.out b9)
        clear b9
        go_wp2_with fail
        refine (C7.out _ (bj HB6.out HB9.out)).mono ?_
        rintro e w10 ⟨rfl, b10⟩
        have HB10 := Lib.hid (bj HB9.out b10)
        clear b10
        go_wp2_with fail
        refine (C8.out _ (bj HB6.out HB10.out)).mono ?_
        rintro e w11 ⟨rfl, b11⟩
        have HB11 := Lib.hid (bj HB10.out b11)
        clear b11
        go_wp2_with fail
        refine (C9.out _ (bj HB6.out HB11.out)).mono ?_
        rintro e w12 ⟨A12, c12, rfl, a12, b12⟩
        have HA12 := Lib.hid a12
        have HB12 := Lib.hid (bj HB11.out b12)
        clear a12 b12
        go_wp2_with fail
        refine (C10.out _ (bj HB6.out HB12.out)).mono ?_
        rintro e w13 ⟨A13, c13, rfl, a13, b13⟩
        have S4 := Lib.hid (ints_yes (HA12.out.below b13 (Nat.le_refl _)) a13)
        have HB13 := Lib.hid (bj HB12.out b13)
        clear a13 b13 HA12
        go_wp2_with fail
        refine S4.out.mono ?_
        rintro e w14 ⟨rfl, b14⟩
        have b15 := bj HB13.out b14
        obtain ⟨Ma, Mx, hta, htx, hba, hbx, hov⟩ := over_start (Ha.out.below b15 (Nat.le_refl _)) ((irow_room Hc.out).below b15 (Nat.le_refl _)) (Hx.out.below b15 (Nat.le_refl _)) (bj HB6.out b15)
        have HOV := Lib.hid hov
        have HTA := Lib.hid hta
        have HTX := Lib.hid htx
        have HLA := Lib.hid (show t1 ≤ 9223372036854775807 from hba)
        have HLX := Lib.hid (show t3 ≤ 9223372036854775807 from hbx)
        have HLC := Lib.hid (show p ≤ 9223372036854775807 by obtain ⟨-, -, ⟨A', c', e, h, -⟩, -⟩ := hov; exact h)
        clear b14 b15 hta htx hba hbx hov Ha Hc Hx S4 C7 C8 C9 C10 S1 S2 S3 HB1 HB2 HB3 HB4 HB5 HB6 HB7 HB8 HB9 HB10 HB11 HB12 HB13
        go_wp2
        go_loopg [21] t1 (fun g i wx => ∃ (j : Nat), j + g = t1 ∧ i = .int .i64 j ∧ Over wo (.slice A1 t1 c1) Ma (.slice A3 p c3) p (.slice A5 t3 c5) Mx wx)
        case atStart => exact ⟨0, by omega, rfl, HOV.out⟩
        case round =>
          clear HOV
          obtain ⟨j, hjg, rfl, hov⟩ := hrel
          have HO := Lib.hid hov
          clear hov
          cases gk with
          | succ gi =>
            have hjt : j < t1 := by omega
            have s2 : (j : Int) < (t1 : Int) := by omega
            have s3 := go_wrap hjt HLA.out
            obtain ⟨y, hy⟩ : ∃ y, Ma[j]? = some y := ⟨_, List.getElem?_eq_getElem (by rw [← HTA.out]; exact hjt)⟩
            have HY := Lib.hid hy
            obtain ⟨g1, d1, e1, -⟩ := HO.out.at_a hy
            obtain ⟨rfl, -, -⟩ := Value.slice.inj e1
            obtain ⟨A7, c7, ey, hm, -⟩ := HO.out.2.1 y (List.mem_of_getElem? hy)
            have HEY := Lib.hid ey
            have HMY := Lib.hid (show y.l.length ≤ 9223372036854775807 from hm)
            clear hy e1 ey hm
            obtain ⟨m, hmm⟩ : ∃ m, m = y.l.length := ⟨_, rfl⟩
            have HM := Lib.hid hmm
            rw [← hmm] at HEY HMY
            clear hmm
            obtain ⟨wj, rfl⟩ : ∃ wj, wj = wr := ⟨_, rfl⟩
            go_wp2
            go_loopg [22] m (fun g i wx => ∃ (t : Nat), t + g = m ∧ i = .int .i64 t ∧ Over wo (.slice (some ⟨g1, 0, none⟩) t1 c1) Ma (.slice A3 p c3) p (.slice A5 t3 c5) Mx wx)
            case atStart => exact ⟨0, by omega, rfl, HO.out⟩
            case round =>
              clear HO
              obtain ⟨t, htg, rfl, hov⟩ := hrel
              have HO := Lib.hid hov
              obtain ⟨g2, d2, e2, k1⟩ := hov.at_a HY.out
              obtain ⟨ea, -, -⟩ := Value.slice.inj e2
              obtain rfl : g1 = g2 := by cases ea; rfl
              rw [HEY.out] at k1
              clear hov ea e2
              cases gk with
              | succ gt =>
                have htm : t < m := by omega
                have s4 : (t : Int) < (m : Int) := by omega
                have s5 := go_wrap htm HMY.out
                obtain ⟨g3, c9, u9, e3, k2, k3, k4⟩ := HO.out.put (HO.out.2.1 y (List.mem_of_getElem? HY.out)) (k := t) (by rw [← HM.out]; exact htm) (.int .i64 (-9))
                rw [HEY.out] at e3
                obtain ⟨rfl, -, -⟩ := Value.slice.inj e3
                have HK := Lib.hid k4
                clear e3 k4
                go_wp2
                go_roundg gt
                case measure => omega
                case rel => exact ⟨t + 1, by omega, by first | rfl | go_num, HK.out⟩
              | zero =>
                obtain rfl : t = m := by omega
                have s4 : ¬ (t : Int) < (t : Int) := by omega
                go_wp2
                go_roundg gi
                case measure => omega
                case rel => exact ⟨j + 1, by omega, by first | rfl | go_num, HO.out⟩
          | zero =>
            obtain rfl : j = t1 := by omega
            have s2 : ¬ (j : Int) < (j : Int) := by omega
            obtain ⟨wj, rfl⟩ : ∃ wj, wj = wr := ⟨_, rfl⟩
            go_wp2
            go_loopg [23] p (fun g i wx => ∃ (t : Nat), t + g = p ∧ i = .int .i64 t ∧ Over wo (.slice A1 j c1) Ma (.slice A3 p c3) p (.slice A5 t3 c5) Mx wx)
            case atStart => exact ⟨0, by omega, rfl, HO.out⟩
            case round =>
              clear HO
              obtain ⟨t, htg, rfl, hov⟩ := hrel
              have HO := Lib.hid hov
              clear hov
              cases gk with
              | succ gt =>
                have htm : t < p := by omega
                have s4 : (t : Int) < (p : Int) := by omega
                have s5 := go_wrap htm HLC.out
                obtain ⟨g3, c9, u9, e3, k2, k3, k4⟩ := HO.out.put HO.out.2.2.1 (k := t) htm (.int .i64 (-9))
                obtain ⟨rfl, -, -⟩ := Value.slice.inj e3
                have HK := Lib.hid k4
                clear e3 k4
                go_wp2
                go_roundg gt
                case measure => omega
                case rel => exact ⟨t + 1, by omega, by first | rfl | go_num, HK.out⟩
              | zero =>
                obtain rfl : t = p := by omega
                have s4 : ¬ (t : Int) < (t : Int) := by omega
                obtain ⟨wt, rfl⟩ : ∃ wt, wt = wr := ⟨_, rfl⟩
                go_wp2
                go_loopg [24] t3 (fun g i wx => ∃ (i2 : Nat), i2 + g = t3 ∧ i = .int .i64 i2 ∧ Over wo (.slice A1 j c1) Ma (.slice A3 t c3) t (.slice A5 t3 c5) Mx wx)
                case atStart => exact ⟨0, by omega, rfl, HO.out⟩
                case round =>
                  clear HO
                  obtain ⟨i2, hig, rfl, hov⟩ := hrel
                  have HO := Lib.hid hov
                  clear hov
                  cases gk with
                  | succ gi =>
                    have hit : i2 < t3 := by omega
                    have s6 : (i2 : Int) < (t3 : Int) := by omega
                    have s7 := go_wrap hit HLX.out
                    obtain ⟨y, hy⟩ : ∃ y, Mx[i2]? = some y := ⟨_, List.getElem?_eq_getElem (by rw [← HTX.out]; exact hit)⟩
                    have HY := Lib.hid hy
                    obtain ⟨g1, d1, e1, -⟩ := HO.out.at_x hy
                    obtain ⟨rfl, -, -⟩ := Value.slice.inj e1
                    obtain ⟨A7, c7, ey, hm, -⟩ := HO.out.2.2.2.2.1 y (List.mem_of_getElem? hy)
                    have HEY := Lib.hid ey
                    have HMY := Lib.hid (show y.l.length ≤ 9223372036854775807 from hm)
                    clear hy e1 ey hm
                    obtain ⟨m, hmm⟩ : ∃ m, m = y.l.length := ⟨_, rfl⟩
                    have HM := Lib.hid hmm
                    rw [← hmm] at HEY HMY
                    clear hmm
                    obtain ⟨wj2, rfl⟩ : ∃ wj2, wj2 = wr := ⟨_, rfl⟩
                    go_wp2
                    go_loopg [25] m (fun g i wx => ∃ (z : Nat), z + g = m ∧ i = .int .i64 z ∧ Over wo (.slice A1 j c1) Ma (.slice A3 t c3) t (.slice (some ⟨g1, 0, none⟩) t3 c5) Mx wx)
                    case atStart => exact ⟨0, by omega, rfl, HO.out⟩
                    case round =>
                      clear HO
                      obtain ⟨z, hzg, rfl, hov⟩ := hrel
                      have HO := Lib.hid hov
                      obtain ⟨g2, d2, e2, k1⟩ := hov.at_x HY.out
                      obtain ⟨ea, -, -⟩ := Value.slice.inj e2
                      obtain rfl : g1 = g2 := by cases ea; rfl
                      rw [HEY.out] at k1
                      clear hov ea e2
                      cases gk with
                      | succ gz =>
                        have hzm : z < m := by omega
                        have s8 : (z : Int) < (m : Int) := by omega
                        have s9 := go_wrap hzm HMY.out
                        obtain ⟨g3, c9, u9, e3, k2, k3, k4⟩ := HO.out.put (HO.out.2.2.2.2.1 y (List.mem_of_getElem? HY.out)) (k := z) (by rw [← HM.out]; exact hzm) (.int .i64 (-9))
                        rw [HEY.out] at e3
                        obtain ⟨rfl, -, -⟩ := Value.slice.inj e3
                        have HK := Lib.hid k4
                        clear e3 k4
                        go_wp2
                        go_roundg gz
                        case measure => omega
                        case rel => exact ⟨z + 1, by omega, by first | rfl | go_num, HK.out⟩
                      | zero =>
                        obtain rfl : z = m := by omega
                        have s8 : ¬ (z : Int) < (z : Int) := by omega
                        go_wp2
                        go_roundg gi
                        case measure => omega
                        case rel => exact ⟨i2 + 1, by omega, by first | rfl | go_num, HO.out⟩
                  | zero =>
                    obtain rfl : i2 = t3 := by omega
                    have s6 : ¬ (i2 : Int) < (i2 : Int) := by omega
                    have HBF := Lib.hid HO.out.2.2.2.2.2
                    go_wp2_with fail
                    refine (C11.out _ HBF.out).mono ?_
                    rintro e w20 ⟨rfl, b20⟩
                    have HB20 := Lib.hid (bj HBO.out (bj HBF.out b20))
                    clear b20
                    go_wp2_with fail
                    refine (HST.out _).mono ?_
                    rintro e w21 ⟨rfl, b21⟩
                    have HB21 := Lib.hid (bj HB20.out b21)
                    clear b21
                    go_wp2
                    go_ret
                    exact ⟨rfl, HB21.out⟩
theorem walk (w : World) (v : Value) (L : List LvS) (lv nn : Int) (hL : LvsIn w v L) (hok : ∀ x ∈ L, ∀ y ∈ x.l, InI64 y) (w1 : (Lit.int .i64 lv).wf = true) (w2 : (Lit.int .i64 nn).wf = true) :
    Calls Try.prog 3 #[v, .int .i64 lv, .int .i64 nn] w fun e w' => e = .returned (.bool true) ∧ Below w.heap.size w w' := walk_ w v (lvl L) lv nn ⟨L, hL, rfl⟩
end levelsTell
end Go.Proofs.Ytejdeidbgbacgaa
