/- The program's All, of two lists of events. -/
import Derived.Test.YtnefofcofccmfaaEventsIter
import Derived.Stop.RegionWithIn
namespace Go.Proofs.Ytnefofcofccmfaa
open Go.RowKit Go.Shelf
set_option linter.unusedVariables false
attribute [local go_sem] Oper.semAt_some run_store_float

set_option maxHeartbeats 1000000 in
theorem slicesAll_in (n : Nat) (A : Option Addr) (len cap : Nat) (w : World) :
    CallsIn Fence.wide n Try.prog 41 #[.slice A len cap] w fun e w' => e = .returned (.func (.func 49) #[] #[.pointer (some ⟨w.heap.size, 0, none⟩)]) ∧ w' = w.alloc (.cells #[.slice A len cap] 26) := by
  refine callsIn_of_wp Try.func41 rfl trivial ?_ rfl
  simp only [Try.ntmps41, List.size_toArray, List.length_cons, List.length_nil, Nat.reduceAdd, Nat.reduceSub, Array.replicate_succ, Array.replicate_zero, List.push_toArray, List.append_toArray, List.nil_append, List.cons_append]
  gi_wp2
  go_ret
  exact ⟨rfl, rfl⟩

theorem evAt_own {β : Type} (B g : Nat) (t d : ByteArray) (b : Nat) : Own (fun (_ : β) W => EvAt W g t d b) := fun s X Y row hs hg hrow =>
  (hg.block g hs.lt (fun e => by
    obtain ⟨o, ho, hc⟩ := hrow g e.symm
    rw [show X.heap[g]? = _ from hs] at ho
    cases ho
    cases hc)).trans hs

/-- What a loop's body that calls may have made of the rest. -/
theorem keeps_below {B : Nat} {W W' : World} (h : Below W.heap.size W W') : KeepsFrom B W W' := ⟨h.size, fun k o _ hk _ => (h.block k (Array.getElem?_eq_some_iff.1 hk).1).trans hk⟩

theorem below_of_drew {B : Nat} {a w : World} (h : Below B a.drew w) : Below B a w := ⟨h.os, h.tape, h.output, h.size, h.block⟩
theorem boxed_below {W W' : World} {B : Nat} {t : TypeId} {v : Value} (h : Boxed W B t v) (hb : Below W.heap.size W W') : Boxed W' B t v := (hb.block B h.lt).trans h

set_option maxRecDepth 100000 in
set_option maxHeartbeats 4000000 in
theorem all_same (la lb : List RawS) (A B : Option Addr) (c d : Nat) (w : World) (hl : la.length = lb.length) (hn : la.length ≤ 1000) (ha : AllOk la) (hb : AllOk lb) (h1 : EvsIn w (.slice A la.length c) la) (h2 : EvsIn w (.slice B la.length d) lb) :
    Calls Try.prog 31 #[.slice A la.length c, .slice B la.length d] w fun e w' => e = .returned (.bool (evAll la lb)) ∧ Below w.heap.size w w' := by
  have Hyes := Lib.hid (evAll_yes hl)
  have Hno := Lib.hid (fun (i : Nat) (x y : RawS) h1 h2 h3 => evAll_no (a := la) (b := lb) (i := i) (x := x) (y := y) h1 h2 h3)
  have HL := Lib.hid hl
  have e0 : ((la.length : Int) != (la.length : Int)) = false := by simp
  clear hl
  generalize evAll la lb = r at *
  refine (callsIn_wide (n := 8)).1 ?_
  refine callsIn_of_wp_marks Try.func31 rfl trivial ?_ rfl
  simp only [Try.ntmps31, List.size_toArray, List.length_cons, List.length_nil, Nat.reduceAdd, Nat.reduceSub, Array.replicate_succ, Array.replicate_zero, List.push_toArray, List.append_toArray, List.nil_append, List.cons_append]
  gi_wp2
  refine ⟨trivial, ?_⟩
  refine (slicesAll_in _ _ _ _ _).mono ?_
  rintro e w' ⟨rfl, rfl⟩
  gi_wp2
  have hB0 : Below w.heap.size w (((w.alloc (.cells #[.slice B la.length d] 26)).alloc (.cells #[.bool false] 4)).alloc (.cells #[.slice A la.length c] 26)) := (((Below.refl _ w).alloc (Nat.le_refl _) _).alloc (by simp) _).alloc (by simp; omega) _
  have bB := (Boxed.new w 26 (.slice B la.length d))
  have bR := Boxed.new (w.alloc (.cells #[.slice B la.length d] 26)) 4 (.bool false)
  have bN := Boxed.new ((w.alloc (.cells #[.slice B la.length d] 26)).alloc (.cells #[.bool false] 4)) 26 (.slice A la.length c)
  rw [World.size_alloc] at bR bN
  rw [World.size_alloc] at bN
  obtain ⟨W0, hW0⟩ : ∃ W0, (((w.alloc (.cells #[.slice B la.length d] 26)).alloc (.cells #[.bool false] 4)).alloc (.cells #[.slice A la.length c] 26)) = W0 := ⟨_, rfl⟩
  have hsz : W0.heap.size = w.heap.size + 3 := by rw [← hW0]; simp
  have bB0 : Boxed W0 w.heap.size 26 (.slice B la.length d) := by rw [← hW0]; exact (bB.alloc _).alloc _
  have bR0 : Boxed W0 (w.heap.size + 1) 4 (.bool false) := by rw [← hW0]; exact bR.alloc _
  have bN0 : Boxed W0 (w.heap.size + 2) 26 (.slice A la.length c) := by rw [← hW0]; exact bN
  rw [hW0] at hB0 ⊢
  clear hW0 bB bR bN
  refine wpIn_rangeFunc_ownH rfl (by omega) (gf := 49) (lb := #[.pointer (some ⟨w.heap.size + 2, 0, none⟩)]) rfl trivial (enters_of Try.func49 (by kernel_rfl) rfl)
    (iter_stops _ (by omega) (w.heap.size + 2) w.heap.size _ la hn W0 w (by omega) rfl (by omega) hB0 bN0.cell h1) belowK_t (belowK_b (by omega)) (Below.refl _ _) (fun _ => rfl)
    (fun pre W => (Boxed W w.heap.size 26 (.slice B la.length d) ∧ Boxed W (w.heap.size + 1) 4 (.bool false) ∧ ∀ i ∈ pre, ∀ y, lb[i.val]? = some y → evE la[i] y = true) ∧ Below w.heap.size w W)
    (fun cc pre W => (cc = .ret ∧ Boxed W (w.heap.size + 1) 4 (.bool false) ∧ ∃ (i : Fin la.length) (y : RawS), lb[i.val]? = some y ∧ evE la[i] y = false) ∧ Below w.heap.size w W)
    (OwnFrom.and (Own.from (fun s X Y row hs hg hr => ⟨boxed_own (β := Unit) _ _ (fun _ => _) () X Y row hs.1 hg hr, boxed_own (β := Unit) _ _ (fun _ => _) () X Y row hs.2.1 hg hr, hs.2.2⟩) _) (ownFrom_below (Nat.le_refl _) (by omega)))
    (fun cc => OwnFrom.and (Own.from (fun s X Y row hs hg hr => ⟨hs.1, boxed_own (β := Unit) _ _ (fun _ => _) () X Y row hs.2.1 hg hr, hs.2.2⟩) _) (ownFrom_below (Nat.le_refl _) (by omega)))
    ⟨⟨bB0, bR0, fun i hi => by cases hi⟩, hB0⟩
    (fun x a' W => ∃ Bx, w.heap.size ≤ Bx ∧ EvAt W Bx la[x].t la[x].d la[x].b ∧ a' = { tmps := #[.slice A la.length c, .slice B la.length d, undef, .pointer (some ⟨w.heap.size, 0, none⟩), .pointer (some ⟨w.heap.size + 1, 0, none⟩), .int .i64 (x.val : Int), .pointer (some ⟨Bx, 0, none⟩), .slice A la.length c, .int .i64 (la.length : Nat), .slice B la.length d, .int .i64 (la.length : Nat), .bool false, .slice A la.length c, .func (.func 49) #[] #[.pointer (some ⟨w.heap.size + 1 + 1, 0, none⟩)], .int .i64 (x.val : Int), .agg #[.string la[x].t, .string la[x].d, .float .f64 la[x].b], undef, undef, undef, undef, undef, undef, undef], defers := [] })
    (fun x a' => by
      intro u X Y row hs hg hr
      obtain ⟨Bx, hBx, hE, he⟩ := hs
      exact ⟨Bx, hBx, Own.from (evAt_own (β := Unit) Bx Bx _ _ _) _ () X Y row hE hg hr, he⟩)
    ?assign ?body ?done ?stop
  case assign =>
    rintro l pre x W K ⟨⟨i1, i2, i3⟩, i4⟩ hK
    have hE := EvAt.new W la[x].t la[x].d la[x].b
    unfold encEv
    gi_wp2
    refine hK _ _ ((KeepsOthers.alloc W _).from _) ((Below.refl _ W).alloc i4.size _) ⟨⟨i1.alloc _, i2.alloc _, i3⟩, i4.alloc i4.size _⟩ ⟨W.heap.size, i4.size, hE, rfl⟩
  case body =>
    rintro l pre x a' W hlD ⟨rec, hr⟩ ⟨⟨i1, i2, i3⟩, i4⟩ ⟨Bx, hBx, hE, rfl⟩ hlen
    have hx : la[x.val]? = some la[x] := List.getElem?_eq_getElem x.isLt
    obtain ⟨y, hy⟩ : ∃ y, lb[x.val]? = some y := ⟨lb[x.val]'(by rw [← HL.out]; exact x.isLt), List.getElem?_eq_getElem _⟩
    obtain ⟨q, qo, rfl, hq, cb⟩ := h2.pos (by have := HL.out; have := x.isLt; omega)
    obtain ⟨b0, b1, b2⟩ := cb x.val y hy
    have k0 := hE.c0
    have k1 := hE.c1
    have k2 := hE.c2
    have j0 := (i4.cell hq).trans b0
    have j1 := (i4.cell hq).trans b1
    have j2 := (i4.cell hq).trans b2
    have ib := i1.cell
    have s1 : ((x.val : Nat) : Int) < (la.length : Int) := by have := x.isLt; omega
    have HS := Lib.hid fun W' => same_any la[x].t la[x].d la[x].b y.t y.d y.b W' (ha _ (List.mem_of_getElem? hx)).b (hb _ (List.mem_of_getElem? hy)).b
    have HQ := Lib.hid (show evE la[x] y = evEq la[x].t la[x].d la[x].b y.t y.d y.b from rfl)
    have hbx : Bx < W.heap.size := hE.lt
    have hW : w.heap.size ≤ W.heap.size := i4.size
    have HX := Lib.hid hx
    have HY := Lib.hid hy
    have HI := Lib.hid (And.intro i1 (And.intro i2 (And.intro i3 i4)))
    have i2c := i2.cell
    have i2f := i2.frozen
    clear hx hy cb b0 b1 b2 hE i1 i2 i3 i4 hr
    generalize evEq la[x].t la[x].d la[x].b y.t y.d y.b = o at *
    cases o
    · gi_wp2
      gi_region_with (refine ⟨trivial, ?_⟩; gi_at_call 42; refine (CallsIn.inRound l (callsIn_wide.2 (HS.out _))).mono ?_; rintro e w3 ⟨rfl, hb3⟩)
      all_goals
        have hb4 : Below W.heap.size W w3 := below_of_drew hb3
        obtain ⟨i1, i2, i3, i4⟩ := HI.out
        have r1 := boxed_below i2 hb4
        have rc := r1.cell
        have rf := r1.frozen
        have hk := keeps_below (B := W0.heap.size) hb4
        have hi4 := bj i4 hb4
        clear hb3 hb4 i1 i3 i4
        gi_wp2
        exact ⟨hk.trans ((KeepsOthers.setCell _ _ _).from _), ⟨rfl, r1.set _, x, y, HY.out, HQ.out⟩, hi4.setCell (p := ⟨w.heap.size + 1, 0, none⟩) (by simp) _⟩
    · gi_wp2
      gi_region_with (refine ⟨trivial, ?_⟩; gi_at_call 42; refine (CallsIn.inRound l (callsIn_wide.2 (HS.out _))).mono ?_; rintro e w3 ⟨rfl, hb3⟩)
      all_goals
        have hb4 : Below W.heap.size W w3 := below_of_drew hb3
        obtain ⟨i1, i2, i3, i4⟩ := HI.out
        have r1 := boxed_below i2 hb4
        have r0 := boxed_below i1 hb4
        have hk := keeps_below (B := W0.heap.size) hb4
        have hi4 := bj i4 hb4
        have hKp : Below w.heap.size W w3 := hb4.mono hW
        clear hb3 hb4 i1 i2 i4
        gi_wp2
        refine ⟨hk, hKp, ⟨r0, r1, fun i hi z hz => ?_⟩, hi4⟩
        rcases List.mem_append.1 hi with h | h
        · exact i3 i h z hz
        · rw [List.mem_singleton] at h
          subst h
          rw [HY.out] at hz
          cases hz
          exact HQ.out
  case done =>
    rintro D ys W hD hall ⟨⟨i1, i2, i3⟩, hB⟩ hK
    have hyes := Hyes.out (fun i z y hz hy => by
      have hi := (List.getElem?_eq_some_iff.1 hz).1
      have e : la[i] = z := by rw [List.getElem?_eq_getElem hi] at hz; exact Option.some.inj hz
      rw [← e]
      exact i3 ⟨i, hi⟩ (hall _) y hy)
    subst hyes
    have i2c := i2.cell
    have i2f := i2.frozen
    gi_wp2
    have hK' := (KeepsOthers.setCell W ⟨w.heap.size + 1, 0, none⟩ (.bool true)).same D _ hK rfl
    refine ⟨by simp, .inl ⟨_, _, rfl, run_takeDeferred hK', ?_⟩⟩
    have hc5 := cell_kept (World.cell?_setCell_same' W ⟨w.heap.size + 1, 0, none⟩ (.bool true) (by rw [i2c]; rfl)) (grownBy_putObj' _ D (.deferred none)) (fun r e => by cases e; exact ⟨_, hK', rfl⟩)
    refine ⟨.bool true, ?_, rfl, (hB.setCell (p := ⟨w.heap.size + 1, 0, none⟩) (by simp) _).trans (belowK_b (w := w) (Nat.le_refl _) _ D _ _ (by omega) hK' rfl rfl)⟩
    simp [results, Try.f31, go_sem, hc5]
  case stop =>
    rintro D cc pre W hD _ ⟨⟨rfl, i2, x, y, hy, hq⟩, hB⟩ hK
    have hno := Hno.out x.val la[x] y (List.getElem?_eq_getElem x.isLt) hy hq
    subst hno
    gi_wp2
    refine ⟨by simp, .inl ⟨_, _, rfl, run_takeDeferred hK, ?_⟩⟩
    have hc5 := cell_kept i2.cell (grownBy_putObj' _ D (.deferred none)) (fun r e => by cases e; exact ⟨_, hK, rfl⟩)
    refine ⟨.bool false, ?_, rfl, hB.trans (belowK_b (w := w) (Nat.le_refl _) W D _ _ (by omega) hK rfl rfl)⟩
    simp [results, Try.f31, go_sem, hc5]

theorem all_len (A B : Option Addr) (n m c d : Nat) (w : World) (hn : n ≤ 1000) (hm : m ≤ 1000) (h : ¬ n = m) :
    Calls Try.prog 31 #[.slice A n c, .slice B m d] w fun e w' => e = .returned (.bool false) ∧ Below w.heap.size w w' := by
  have e : ((n : Int) != (m : Int)) = true := by simp; omega
  go_enter Try.func31, Try.ntmps31
  go_wp2
  exact bodyPost_ret (v := .bool false) (by simp [results, Try.results31, go_sem]) rfl ⟨rfl, ((Below.refl _ _).alloc (Nat.le_refl _) _).alloc (by simp) _⟩

theorem all_any (va vb : Value) (la lb : List RawS) (w : World) (h1 : EvsIn w va la) (h2 : EvsIn w vb lb) (hn : la.length ≤ 1000) (hm : lb.length ≤ 1000) (ha : AllOk la) (hb : AllOk lb) :
    Calls Try.prog 31 #[va, vb] w fun e w' => e = .returned (.bool (evAll la lb)) ∧ Below w.heap.size w w' := by
  obtain ⟨A, c, rfl⟩ := h1.form
  obtain ⟨B, d, rfl⟩ := h2.form
  by_cases hl : la.length = lb.length
  · rw [← hl] at h2 ⊢
    exact all_same la lb A B c d w hl hn ha hb h1 h2
  · rw [evAll_len hl]
    exact all_len A B _ _ c d w hn hm hl
end Go.Proofs.Ytnefofcofccmfaa
