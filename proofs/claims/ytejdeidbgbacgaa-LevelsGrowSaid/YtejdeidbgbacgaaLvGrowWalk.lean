/- 'LevelsGrow': the walk. -/
import Derived.Test.YtejdeidbgbacgaaLvEx
import Derived.Test.YtejdeidbgbacgaaU8s
import Derived.Deep.LoopGhost
namespace Go.Proofs.Ytejdeidbgbacgaa
open Go.RowKit Go.Shelf
set_option linter.unusedVariables false
set_option maxRecDepth 100000

namespace levelsGrow
theorem grow_add {R : LvL} {k : Nat} (h : MayBe R) (hx : ∀ x ∈ R.flatten, x < (k : Int)) :
    (R.flatten.length = 40 ∧ addE R (k : Nat) = 60 ∧ addL R (k : Nat) = []) ∨ (R.flatten.length ≠ 40 ∧ addE R (k : Nat) = 0 ∧ MayBe (addL R (k : Nat)) ∧ (addL R (k : Nat)).flatten.length = R.flatten.length + 1 ∧ ∀ x ∈ (addL R (k : Nat)).flatten, x < ((k + 1 : Nat) : Int)) := by
  have hv : validL R = true := decide_eq_true h
  have hm : ((k : Nat) : Int) ∉ R.flatten := fun e => by have := hx _ e; omega
  by_cases h40 : R.flatten.length = 40
  · obtain ⟨e1, e2⟩ := add_full hv (by omega) hm h40
    exact Or.inl ⟨h40, e1, e2⟩
  · obtain ⟨e1, e2⟩ := add_some hv (by omega) hm h40
    obtain ⟨a1, a2, a3⟩ := addL_ok e1
    refine Or.inr ⟨h40, e1, a1, a2, fun x hx' => ?_⟩
    rcases a3 x hx' with e | e
    · omega
    · have := hx x e; omega
theorem grow_merge {R : LvL} {k t : Nat} (h : MayBe R) (hx : ∀ x ∈ R.flatten, x < (k : Int)) (ht : t < 5) :
    (pickE R (t : Nat) = 4 ∧ replE R (t : Nat) (k : Nat) = 4) ∨ (pickE R (t : Nat) = 0 ∧ replE R (t : Nat) (k : Nat) = 0 ∧ MayBe (replL R (t : Nat) (k : Nat)) ∧ (replL R (t : Nat) (k : Nat)).flatten.length + (pickL R (t : Nat)).length = R.flatten.length + 1 ∧ ∀ x ∈ (replL R (t : Nat) (k : Nat)).flatten, x < ((k + 1 : Nat) : Int)) := by
  have hv : validL R = true := decide_eq_true h
  have hm : ((k : Nat) : Int) ∉ R.flatten := fun e => by have := hx _ e; omega
  by_cases hg : (wideL R).getD ((t : Nat) : Int).toNat [] = []
  · obtain ⟨e1, e2⟩ := pick_none (k := (t : Nat)) hv (by omega) (by omega) hg
    obtain ⟨e3, e4⟩ := repl_pick (R := R) (k := (t : Nat)) (n := (k : Nat)) (by rw [e1]; decide)
    exact Or.inl ⟨e1, e3.trans e1⟩
  · obtain ⟨e1, e2⟩ := pick_some (k := (t : Nat)) hv (by omega) (by omega) rfl hg
    obtain ⟨e3, e4⟩ := repl_some (n := (k : Nat)) e1 (by omega) hm
    obtain ⟨a1, a2, a3⟩ := replL_ok e3
    refine Or.inr ⟨e1, e3, a1, a2, fun x hx' => ?_⟩
    rcases a3 x hx' with e | e
    · omega
    · have := hx x e; omega
def GrowAt (w : World) (R : LvL) (k : Nat) (u m : Value) (wr : World) : Prop := MayBe R ∧ m = .int .i64 (R.flatten.length : Nat) ∧ (∀ x ∈ R.flatten, x < (k : Int)) ∧ LvsHas wr u R ∧ Below w.heap.size w wr
theorem may_nil : MayBe [] := by decide
set_option maxHeartbeats 4000000 in
theorem walk (w : World) (v : Value) (l : List Nat) (hl : U8sIn w v l) (hok : ∀ x ∈ l, x < 256) : Calls Try.prog 4 #[v] w fun e w' => e = .returned (.bool true) ∧ Below w.heap.size w w' := by
  have HST := Lib.hid stand_true
  unfold LvEnd at HST
  have HADD := Lib.hid (fun W v R n h hl hL => ladd_any v R n W h hl hL)
  have HREP := Lib.hid (fun W v R k n h hl hL => lrepl_any v R k n W h hl hL)
  have HPIC := Lib.hid (fun W v R k h hl hL => lpick_any v R k W h hl hL)
  obtain ⟨A, off, cap, rfl, hmx, hc⟩ := hl.form
  have HC := Lib.hid hc
  have HOK := Lib.hid hok
  obtain ⟨n, hn⟩ : ∃ n, n = l.length := ⟨_, rfl⟩
  have HN := Lib.hid hn
  rw [← hn] at hmx ⊢
  unfold maxLen at hmx
  clear hl hc hok hn
  by_cases h200 : 200 < n
  · have q1 : decide ((200 : Int) < (n : Int)) = true := decide_eq_true (by omega)
    have q2 : decide (200 < n) = true := decide_eq_true h200
    clear hmx
    go_enter Try.func4, Try.ntmps4
    go_wp2_with fail
    refine (HST.out _).mono ?_
    rintro e w1 ⟨rfl, h1⟩
    go_wp2
    go_ret
    exact ⟨rfl, h1⟩
  · have q1 : decide ((200 : Int) < (n : Int)) = false := decide_eq_false (by omega)
    have q2 : decide (200 < n) = false := decide_eq_false h200
    go_enter Try.func4, Try.ntmps4
    go_wp2
    go_loopg [3, 4, 5] n (fun g u m i wr => ∃ (k : Nat) (R : LvL), k + g = n ∧ i = .int .i64 k ∧ GrowAt w R k u m wr)
    case atStart => exact ⟨0, [], by omega, rfl, may_nil, rfl, fun x hx => (by cases hx), LvsHas.nil _ _ _, Below.refl _ _⟩
    case round =>
      obtain ⟨k, R, hkg, rfl, hmay, rfl, hlt, hhas, hbel⟩ := hrel
      have HB := Lib.hid hbel
      have HH := Lib.hid hhas
      have HMAY := Lib.hid hmay
      have HLT := Lib.hid hlt
      have h40 : R.flatten.length ≤ 40 := hmay.2.1
      clear hhas hbel hmay hlt
      cases gk with
      | succ gi =>
        have hkn : k < n := by omega
        have s1 : (k : Int) < (n : Int) := by omega
        obtain ⟨x, hx⟩ : ∃ x, l[k]? = some x := ⟨_, List.getElem?_eq_getElem (by rw [← HN.out]; exact hkn)⟩
        have hx256 := HOK.out x (List.mem_of_getElem? hx)
        obtain ⟨b, rfl, hb, c1⟩ := HC.out k x hx
        have c2 := (HB.out.cell (p := ⟨b, off + k, none⟩) hb).trans c1
        obtain ⟨t, ht⟩ : ∃ t, t = x % 12 := ⟨_, rfl⟩
        have q3 : ((x : Nat) : Int) % 12 = ((t : Nat) : Int) := by omega
        have ht12 : t < 12 := by omega
        clear c1 hx ht
        by_cases h5 : 5 ≤ t
        · have q4 : decide ((5 : Int) ≤ ((t : Nat) : Int)) = true := decide_eq_true (by omega)
          have q5 : decide (5 ≤ t) = true := decide_eq_true h5
          rcases grow_add HMAY.out HLT.out with ⟨e40, ea, eb⟩ | ⟨e40, ea, eb, ec, ed⟩
          · have HA := Lib.hid (HADD.out wr _ R ((k : Nat) : Int) HH.out (by omega) (by have := HMAY.out.1; omega))
            rw [ea, eb] at HA
            have HF := Lib.hid (fun w' (h : Below wr.heap.size wr w') => (show GrowAt w R (k + 1) _ (.int .i64 (R.flatten.length : Nat)) w' from ⟨HMAY.out, rfl, fun x hx => by have := HLT.out x hx; omega, HH.out.below h (Nat.le_refl _), bj HB.out h⟩))
            rw [e40] at HF h40 ⊢
            clear ea eb e40
            unfold LvsEnd at HA
            go_wp2_with fail
            refine HA.out.mono ?_
            rintro e w1 ⟨A1, c3, rfl, -, h2⟩
            have HF2 := Lib.hid (HF.out _ h2)
            clear h2
            go_wp2
            go_roundg gi
            case measure => omega
            case rel => exact ⟨k + 1, R, by omega, by go_num, HF2.out⟩
          · have HA := Lib.hid (HADD.out wr _ R ((k : Nat) : Int) HH.out (by omega) (by have := HMAY.out.1; omega))
            rw [ea] at HA
            have HF := Lib.hid (fun w' u (h1 : LvsHas w' u (addL R (k : Nat))) (h : Below wr.heap.size wr w') => (show GrowAt w (addL R (k : Nat)) (k + 1) u (.int .i64 ((R.flatten.length : Nat) + 1 : Int)) w' from ⟨eb, by rw [ec]; rfl, ed, h1, bj HB.out h⟩))
            have q6 : (((R.flatten.length : Nat) : Int) == 40) = false := beq_eq_false_iff_ne.2 (by omega)
            have q7 : (R.flatten.length == 40) = false := beq_eq_false_iff_ne.2 e40
            clear ea eb ec ed e40
            unfold LvsEnd at HA
            generalize addL R ((k : Nat) : Int) = T at *
            generalize T.length = tl at *
            generalize R.flatten.length = m at *
            have q8 : IntKind.i64.wrap (((m : Nat) : Int) + 1) = ((m : Nat) : Int) + 1 := IntWalk.i64_in _ ⟨by omega, by omega⟩
            go_wp2_with fail
            refine HA.out.mono ?_
            rintro e w1 ⟨A1, c3, rfl, h1, h2⟩
            have HF2 := Lib.hid (HF.out _ _ h1.has h2)
            clear h1 h2
            go_wp2
            go_roundg gi
            case measure => omega
            case rel => exact ⟨k + 1, T, by omega, by go_num, HF2.out⟩
        · have q4 : decide ((5 : Int) ≤ ((t : Nat) : Int)) = false := decide_eq_false (by omega)
          have q5 : decide (5 ≤ t) = false := decide_eq_false h5
          have HP := Lib.hid (HPIC.out wr _ R ((t : Nat) : Int) HH.out (by omega) (by have := HMAY.out.1; omega))
          have HR := Lib.hid (fun W (hW : Below wr.heap.size wr W) => HREP.out W _ R ((t : Nat) : Int) ((k : Nat) : Int) (HH.out.below hW (Nat.le_refl _)) (by omega) (by have := HMAY.out.1; omega))
          rcases grow_merge (t := t) HMAY.out HLT.out (by omega) with ⟨ea, eb⟩ | ⟨ea, eb, ec, ed, ee⟩
          · unfold PickEnd at HP
            rw [ea] at HP
            rw [eb] at HR
            have HF := Lib.hid (fun w' (h : Below wr.heap.size wr w') => (show GrowAt w R (k + 1) _ (.int .i64 (R.flatten.length : Nat)) w' from ⟨HMAY.out, rfl, fun x hx => by have := HLT.out x hx; omega, HH.out.below h (Nat.le_refl _), bj HB.out h⟩))
            clear ea eb
            generalize replL R ((t : Nat) : Int) ((k : Nat) : Int) = T at *
            unfold LvsEnd at HR
            generalize pickL R ((t : Nat) : Int) = P at *
            generalize P.length = p at *
            generalize T.length = tl at *
            generalize R.flatten.length = m at *
            go_wp2_with fail
            refine HP.out.mono ?_
            rintro e w1 ⟨A1, c3, rfl, -, h2⟩
            have H2 := Lib.hid h2
            clear h2
            go_wp2_with fail
            refine (HR.out _ H2.out).mono ?_
            rintro e w2 ⟨A2, c4, rfl, -, h3⟩
            have HF2 := Lib.hid (HF.out _ (bj H2.out h3))
            clear h3
            go_wp2
            go_roundg gi
            case measure => omega
            case rel => exact ⟨k + 1, R, by omega, by go_num, HF2.out⟩
          · unfold PickEnd at HP
            rw [ea] at HP
            rw [eb] at HR
            obtain ⟨p, hp⟩ : ∃ p, p = (pickL R ((t : Nat) : Int)).length := ⟨_, rfl⟩
            rw [← hp] at ed HP
            obtain ⟨r, hr⟩ : ∃ r, r = (replL R ((t : Nat) : Int) ((k : Nat) : Int)).flatten.length := ⟨_, rfl⟩
            rw [← hr] at ed
            have HF := Lib.hid (fun w' u (h1 : LvsHas w' u (replL R (t : Nat) (k : Nat))) (h : Below wr.heap.size wr w') => (show GrowAt w (replL R (t : Nat) (k : Nat)) (k + 1) u (.int .i64 (r : Nat)) w' from ⟨ec, by rw [hr], ee, h1, bj HB.out h⟩))
            clear ea eb ec ee hp hr
            unfold LvsEnd at HR
            generalize replL R ((t : Nat) : Int) ((k : Nat) : Int) = T at *
            generalize pickL R ((t : Nat) : Int) = P at *
            generalize T.length = tl at *
            generalize R.flatten.length = m at *
            have q8 : IntKind.i64.wrap (((m : Nat) : Int) - ((p : Nat) : Int)) = ((m : Nat) : Int) - ((p : Nat) : Int) := IntWalk.i64_in _ ⟨by omega, by omega⟩
            have q9 : IntKind.i64.wrap (((m : Nat) : Int) - ((p : Nat) : Int) + 1) = ((r : Nat) : Int) := by rw [IntWalk.i64_in _ ⟨by omega, by omega⟩]; omega
            go_wp2_with fail
            refine HP.out.mono ?_
            rintro e w1 ⟨A1, c3, rfl, -, h2⟩
            have H2 := Lib.hid h2
            clear h2
            go_wp2_with fail
            refine (HR.out _ H2.out).mono ?_
            rintro e w2 ⟨A2, c4, rfl, h4, h3⟩
            have HF2 := Lib.hid (HF.out _ _ h4.has (bj H2.out h3))
            clear h3 h4
            go_wp2
            go_roundg gi
            case measure => omega
            case rel => exact ⟨k + 1, T, by omega, by go_num, HF2.out⟩
      | zero =>
        obtain rfl : k = n := by omega
        have s1 : ¬ (k : Int) < (k : Int) := by omega
        obtain ⟨wo, rfl⟩ : ∃ wo, wo = wr := ⟨_, rfl⟩
        have HAL := Lib.hid (lall_any _ R wo HH.out (by omega) (by have := HMAY.out.1; omega))
        have HVA := Lib.hid (fun W (hW : Below wo.heap.size wo W) => lvalid_any _ R W (HH.out.below hW (Nat.le_refl _)) (by omega) (by have := HMAY.out.1; omega))
        have hv : validL R = true := decide_eq_true HMAY.out
        rw [hv] at HVA
        clear hv
        unfold IntsOut at HAL
        obtain ⟨m, hm⟩ : ∃ m, m = R.flatten.length := ⟨_, rfl⟩
        have HM := Lib.hid hm
        rw [← hm] at HAL h40 ⊢
        clear hm
        go_wp2_with fail
        refine HAL.out.mono ?_
        rintro e w1 ⟨A1, c3, rfl, h1, h2⟩
        have hrow := IRow.in_ (v := .slice A1 m c3) (l := R.flatten) (by rw [HM.out] at h1 ⊢; exact h1)
        obtain ⟨A', off', cap', ev, -, hc'⟩ := hrow.form
        obtain ⟨rfl, -, rfl⟩ := Value.slice.inj ev
        have HC2 := Lib.hid hc'
        have H2 := Lib.hid h2
        clear h1 h2 hrow ev hc'
        go_wp2
        go_loopg [14] m (fun g i wx => ∃ (j : Nat), j + g = m ∧ i = .int .i64 j ∧ wx = w1)
        case atStart => exact ⟨0, by omega, rfl, rfl⟩
        case round =>
          obtain ⟨j, hjg, rfl, rfl⟩ := hrel
          cases gk with
          | succ gi =>
            have s2 : (j : Int) < (m : Int) := by omega
            obtain ⟨y, hy⟩ : ∃ y, R.flatten[j]? = some y := ⟨_, List.getElem?_eq_getElem (by rw [← HM.out]; omega)⟩
            obtain ⟨b, rfl, -, c5⟩ := HC2.out j y hy
            have hyk := HLT.out y (List.mem_of_getElem? hy)
            have q8 : decide ((k : Int) ≤ y) = false := decide_eq_false (by omega)
            clear hy
            go_wp2
            go_roundg gi
            case measure => omega
            case rel => exact ⟨j + 1, by omega, by go_num, rfl⟩
          | zero =>
            obtain rfl : j = m := by omega
            have s2 : ¬ (j : Int) < (j : Int) := by omega
            go_wp2_with fail
            refine (HVA.out _ H2.out).mono ?_
            rintro e w2 ⟨rfl, h3⟩
            have H3 := Lib.hid (bj HB.out (bj H2.out h3))
            clear h3
            go_wp2_with fail
            refine (HST.out _).mono ?_
            rintro e w4 ⟨rfl, h6⟩
            have H6 := Lib.hid (bj H3.out h6)
            clear h6
            go_wp2
            go_ret
            exact ⟨rfl, H6.out⟩
end levelsGrow
end Go.Proofs.Ytejdeidbgbacgaa
