/- The manifest of some bytes: the program's Get. -/
import Derived.Test.YtcfidpjhemjbjaaMfRead
import Derived.Test.YtcfidpjhemjbjaaMfPut
import Derived.Test.YtcfidpjhemjbjaaTxts
namespace Go.Proofs.Ytcfidpjhemjbjaa
open Go.RowKit Go.Shelf
set_option linter.unusedVariables false
set_option maxRecDepth 100000

theorem LvsNew.far {w : World} {base b i : Nat} {v : Value} {R : LvL} (h : LvsNew w base v R) (hb : b < base) (u : Value) : LvsNew (w.setCell ⟨b, i, none⟩ u) base v R := by
  obtain ⟨M, h1, h2, h3⟩ := h
  exact ⟨M, own_far h1 (fun e => by have := LvRow.block h1 b e; omega) u, fun x hx => own_far (h2 x hx) (fun e => by have := (IRow.block (h2 x hx) b e).1; omega) u, h3⟩
theorem mblok_below {w w' : World} {g : Nat} {t : TypeId} {cs : Array Value} (h : Blok w g t cs) (hb : Below w.heap.size w w') : Blok w' g t cs := (hb.block g h.lt).trans h
/-- What Get tells of bytes. -/
def MfGetEnd (w : World) (s : ByteArray) (e : Ending) (w' : World) : Prop := ∃ (x0 x1 : Int) (x2 : Nat) (A : Option Addr) (n c : Nat) (R : LvL), e = .returned (.tuple #[manV x0 x1 x2 (.slice A n c), .int .i64 (mgE s)]) ∧ mgM s = ⟨x0, x1, x2, R⟩ ∧ n = R.length ∧ LvsNew w' w.heap.size (.slice A n c) R ∧ Below w.heap.size w w' ∧ x2 < 18446744073709551616 ∧ R.flatten.length ≤ 100000 ∧ R.length ≤ 300
/-- The four cells of the answer are laid. -/
def manSet (w : World) (g : Nat) (a b c d : Value) : World := (((w.setCell ⟨g, 0, none⟩ a).setCell ⟨g, 1, none⟩ b).setCell ⟨g, 2, none⟩ c).setCell ⟨g, 3, none⟩ d
theorem manSet_below {B : Nat} {w W : World} {g : Nat} (h : Below B w W) (hg : B ≤ g) (a b c d : Value) : Below B w (manSet W g a b c d) := (((h.setCell (p := ⟨g, 0, none⟩) hg a).setCell (p := ⟨g, 1, none⟩) hg b).setCell (p := ⟨g, 2, none⟩) hg c).setCell (p := ⟨g, 3, none⟩) hg d
theorem manSet_blok {W : World} {g : Nat} {t : TypeId} {x0 x1 x2 x3 : Value} (h : Blok W g t #[x0, x1, x2, x3]) (a b c d : Value) : Blok (manSet W g a b c d) g t #[a, b, c, d] := (((h.put 0 a).put 1 b).put 2 c).put 3 d
theorem LvsNew.manSet {W : World} {base g : Nat} {v : Value} {R : LvL} (h : LvsNew W base v R) (hg : g < base) (a b c d : Value) : LvsNew (manSet W g a b c d) base v R := (((h.far hg a).far hg b).far hg c).far hg d

set_option maxHeartbeats 1000000 in
theorem mget_any (s : ByteArray) (w : World) (hs : s.size ≤ 100000) : Calls Try.prog 10 #[.string s] w (MfGetEnd w s) := by
  have B0 := Blok.new w 25 #[.int .i64 0, .int .i64 0, .int .u64 0, .slice none 0 0]
  have hb0 := (Below.refl w.heap.size w).alloc (Nat.le_refl _) (.cells #[.int .i64 0, .int .i64 0, .int .u64 0, .slice none 0 0] 25)
  have HR := Lib.hid (mread_any s (w.alloc (.cells #[.int .i64 0, .int .i64 0, .int .u64 0, .slice none 0 0] 25)) hs)
  have HB0 := Lib.hid hb0
  have HBL := Lib.hid B0
  clear hb0 B0
  go_enter Try.func10, Try.ntmps10
  go_wp2_with fail
  refine HR.out.mono ?_
  rintro e w1 ⟨x0, x1, x2, A, n, c, R, rfl, hn, hnew, hb1, hread, hx2, hfl, hL⟩
  rw [World.size_alloc] at hnew hb1
  have HN := Lib.hid hn
  have HNEW := Lib.hid hnew
  have HB1 := Lib.hid hb1
  have HREAD := Lib.hid hread
  have HSZ := Lib.hid (And.intro hx2 (And.intro hfl hL))
  have hz1 := hb1.size
  rw [World.size_alloc] at hz1
  have HBW := Lib.hid ((HB0.out.trans (hb1.mono (by simp))).alloc (B := w.heap.size) (by omega) (manO x0 x1 x2 (.slice A n c)))
  have HP := Lib.hid (mput_any x0 x1 x2 A n c R (w1.alloc (manO x0 x1 x2 (.slice A n c))) (hnew.has.below ((Below.refl w1.heap.size w1).alloc (Nat.le_refl _) _) (Nat.le_refl _)) hn hfl (by omega) hx2)
  have HBL1 := Lib.hid ((mblok_below HBL.out (by rw [World.size_alloc]; exact hb1)).alloc (manO x0 x1 x2 (.slice A n c)))
  unfold manV
  unfold manV at HP
  have hgood := good_reads hread hx2
  have HNO : Hid (¬ GoodM s → ∀ wf, Below w.heap.size w wf → MfGetEnd w s (.returned (.tuple #[manV 0 0 0 (.slice none 0 0), .int .i64 90])) wf) := Lib.hid fun hg wf hB => by
    obtain ⟨r1, r2⟩ := mg_no hg
    exact ⟨0, 0, 0, none, 0, 0, [], by rw [r1], by rw [r2]; rfl, rfl, LvsNew.nil _ _, hB, by decide, by decide, by decide⟩
  have HYES : Hid (GoodM s → ∀ wf, LvsNew wf w.heap.size (.slice A n c) R → Below w.heap.size w wf → MfGetEnd w s (.returned (.tuple #[manV x0 x1 x2 (.slice A n c), .int .i64 0])) wf) := Lib.hid fun hg wf hN hB => by
    obtain ⟨r1, r2⟩ := mg_yes hg HREAD.out
    exact ⟨x0, x1, x2, A, n, c, R, by rw [r1], r2, HN.out, hN, hB, HSZ.out.1, HSZ.out.2.1, HSZ.out.2.2⟩
  unfold MfPutEnd at HP
  clear hn hnew hb1 hread hx2 hfl hL HR hs
  by_cases hm : MayM ⟨x0, x1, x2, R⟩
  case neg =>
    have hg : ¬ GoodM s := fun h => hm (hgood.1 h).1
    have HNO := Lib.hid (HNO.out hg)
    obtain ⟨r1, r2⟩ := mf_no hm
    rw [r1, r2] at HP
    clear hgood HYES hg r1 r2 hm HNEW HB1 HREAD HSZ
    go_wp2_with fail
    refine HP.out.mono ?_
    rintro e w2 ⟨rfl, hb2⟩
    rw [World.size_alloc] at hb2
    have hD := mblok_below HBL1.out (by rw [World.size_alloc]; exact hb2)
    have d0 := hD.cell 0
    have d1 := hD.cell 1
    have d2 := hD.cell 2
    have d3 := hD.cell 3
    have f0 := hD.frozen 0
    have f1 := hD.frozen 1
    have f2 := hD.frozen 2
    have f3 := hD.frozen 3
    simp only [List.getElem?_toArray] at d0 d1 d2 d3
    have HBW2 := Lib.hid (HBW.out.trans (hb2.mono (by omega)))
    have HD := Lib.hid hD
    clear hD hb2 HP
    go_wp2
    have hM := manSet_blok HD.out (.int .i64 0) (.int .i64 0) (.int .u64 0) (.slice none 0 0)
    have hMB := manSet_below HBW2.out (Nat.le_refl _) (.int .i64 0) (.int .i64 0) (.int .u64 0) (.slice none 0 0)
    unfold manSet at hM hMB
    obtain ⟨wf, hwf⟩ : ∃ wf, wf = (((w2.setCell ⟨w.heap.size, 0, none⟩ (.int .i64 0)).setCell ⟨w.heap.size, 1, none⟩ (.int .i64 0)).setCell ⟨w.heap.size, 2, none⟩ (.int .u64 0)).setCell ⟨w.heap.size, 3, none⟩ (.slice none 0 0) := ⟨_, rfl⟩
    rw [← hwf] at hM hMB ⊢
    have e0 := hM.cell 0
    have e1 := hM.cell 1
    have e2 := hM.cell 2
    have e3 := hM.cell 3
    exact bodyPost_ret (v := .tuple #[manV 0 0 0 (.slice none 0 0), .int .i64 90]) (by simp [results, Try.results10, go_sem, e0, e1, e2, e3]; rfl) rfl (HNO.out wf hMB)
  obtain ⟨r1, r2⟩ := mf_yes hm
  rw [r1, r2] at HP
  generalize mfB ⟨x0, x1, x2, R⟩ = T at *
  by_cases he : T = s
  case neg =>
    have hg : ¬ GoodM s := fun h => he (hgood.1 h).2
    have HNO := Lib.hid (HNO.out hg)
    obtain ⟨t1, t2, t3⟩ := ctxt_ne he
    clear hgood HYES hg r1 r2 hm he HNEW HB1 HREAD HSZ
    go_wp2_with fail
    refine HP.out.mono ?_
    rintro e w2 ⟨rfl, hb2⟩
    rw [World.size_alloc] at hb2
    have hD := mblok_below HBL1.out (by rw [World.size_alloc]; exact hb2)
    have d0 := hD.cell 0
    have d1 := hD.cell 1
    have d2 := hD.cell 2
    have d3 := hD.cell 3
    have f0 := hD.frozen 0
    have f1 := hD.frozen 1
    have f2 := hD.frozen 2
    have f3 := hD.frozen 3
    simp only [List.getElem?_toArray] at d0 d1 d2 d3
    have HBW2 := Lib.hid (HBW.out.trans (hb2.mono (by omega)))
    have HD := Lib.hid hD
    clear hD hb2 HP
    go_wp2
    have hM := manSet_blok HD.out (.int .i64 0) (.int .i64 0) (.int .u64 0) (.slice none 0 0)
    have hMB := manSet_below HBW2.out (Nat.le_refl _) (.int .i64 0) (.int .i64 0) (.int .u64 0) (.slice none 0 0)
    unfold manSet at hM hMB
    obtain ⟨wf, hwf⟩ : ∃ wf, wf = (((w2.setCell ⟨w.heap.size, 0, none⟩ (.int .i64 0)).setCell ⟨w.heap.size, 1, none⟩ (.int .i64 0)).setCell ⟨w.heap.size, 2, none⟩ (.int .u64 0)).setCell ⟨w.heap.size, 3, none⟩ (.slice none 0 0) := ⟨_, rfl⟩
    rw [← hwf] at hM hMB ⊢
    have e0 := hM.cell 0
    have e1 := hM.cell 1
    have e2 := hM.cell 2
    have e3 := hM.cell 3
    exact bodyPost_ret (v := .tuple #[manV 0 0 0 (.slice none 0 0), .int .i64 90]) (by simp [results, Try.results10, go_sem, e0, e1, e2, e3]; rfl) rfl (HNO.out wf hMB)
  case pos =>
    have hg : GoodM s := hgood.2 ⟨hm, he⟩
    have HY := Lib.hid (HYES.out hg)
    obtain ⟨t1, t2, t3⟩ := ctxt_eq he
    clear hgood HYES hg r1 r2 hm HREAD HSZ HNO he
    go_wp2_with fail
    refine HP.out.mono ?_
    rintro e w2 ⟨rfl, hb2⟩
    rw [World.size_alloc] at hb2
    have hD := mblok_below HBL1.out (by rw [World.size_alloc]; exact hb2)
    have d0 := hD.cell 0
    have d1 := hD.cell 1
    have d2 := hD.cell 2
    have d3 := hD.cell 3
    have f0 := hD.frozen 0
    have f1 := hD.frozen 1
    have f2 := hD.frozen 2
    have f3 := hD.frozen 3
    simp only [List.getElem?_toArray] at d0 d1 d2 d3
    have HBW2 := Lib.hid (HBW.out.trans (hb2.mono (by omega)))
    have hE := mblok_below (Blok.new w1 25 #[.int .i64 x0, .int .i64 x1, .int .u64 (x2 : Nat), .slice A n c]) (by rw [World.size_alloc]; exact hb2)
    have i0 := hE.cell 0
    have i1 := hE.cell 1
    have i2 := hE.cell 2
    have i3 := hE.cell 3
    simp only [List.getElem?_toArray] at i0 i1 i2 i3
    have hN2 := HNEW.out.below (((Below.refl w1.heap.size w1).alloc (Nat.le_refl _) (manO x0 x1 x2 (.slice A n c))).trans (hb2.mono (by omega))) (Nat.le_refl _)
    have HN2 := Lib.hid (hN2.manSet (show w.heap.size < w.heap.size + 1 by omega) (.int .i64 x0) (.int .i64 x1) (.int .u64 (x2 : Nat)) (.slice A n c))
    have HD := Lib.hid hD
    clear hD hb2 HP hE hN2
    go_wp2
    have hM := manSet_blok HD.out (.int .i64 x0) (.int .i64 x1) (.int .u64 (x2 : Nat)) (.slice A n c)
    have hMB := manSet_below HBW2.out (Nat.le_refl _) (.int .i64 x0) (.int .i64 x1) (.int .u64 (x2 : Nat)) (.slice A n c)
    have hMN := HN2.out
    unfold manSet at hM hMB hMN
    obtain ⟨wf, hwf⟩ : ∃ wf, wf = (((w2.setCell ⟨w.heap.size, 0, none⟩ (.int .i64 x0)).setCell ⟨w.heap.size, 1, none⟩ (.int .i64 x1)).setCell ⟨w.heap.size, 2, none⟩ (.int .u64 (x2 : Nat))).setCell ⟨w.heap.size, 3, none⟩ (.slice A n c) := ⟨_, rfl⟩
    rw [← hwf] at hM hMB hMN ⊢
    have e0 := hM.cell 0
    have e1 := hM.cell 1
    have e2 := hM.cell 2
    have e3 := hM.cell 3
    exact bodyPost_ret (v := .tuple #[manV x0 x1 x2 (.slice A n c), .int .i64 0]) (by simp [results, Try.results10, go_sem, e0, e1, e2, e3]; rfl) rfl (HY.out wf (hMN.down (by omega)) hMB)
end Go.Proofs.Ytcfidpjhemjbjaa
