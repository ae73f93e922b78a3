/- ZnIxLists, ZnIxRange, ZnIxAll, ZnIxLast -/
import Derived.Test.YtcpfkaehefcakaaGreatPn41
import Derived.Test.YtcpfkaehefcakaaGreatPn38
import Derived.Test.YtcpfkaehefcakaaGreatPn19
import Derived.Test.YtcpfkaehefcakaaGreatPn07
import Derived.Test.YtcpfkaehefcakaaGreatPn40
import Derived.Test.YtcpfkaehefcakaaGreatPn09
import Derived.Test.YtcpfkaehefcakaaGreatPn14
import Derived.Test.YtcpfkaehefcakaaGreatPn21
namespace Go.Proofs.YtcpfkaehefcakaaGreat
open Go.RowKit Go.Shelf
set_option linter.unusedVariables false
set_option maxRecDepth 100000
section
variable {At : Lies} {w0 w w' W : World} {gd gx r : Nat} {S : IxS} {D D' : DiskS} {E N Fm Gr Gk : List Nat}
theorem IxAt.back (hM : IxM w w0.heap.size gx gd r S Fm Gr Gk) (h1 : DS At w0 gd D (Fm ++ (Gr ++ (Gk ++ E))) w) (h3 : ∀ b ∈ Fm, b ∉ Gr ∧ b ∉ Gk ∧ b ∉ E) (h4 : ∀ b ∈ Gr, b ∉ Gk ∧ b ∉ E) (h5 : ∀ b ∈ Gk, b ∉ E) (h6 : ∀ b ∈ Fm ++ Gr, w0.heap.size ≤ b)
    (hd : DS At w0 gd D' (N ++ (Fm ++ (Gr ++ (Gk ++ E)))) w') (hk : Kept (Fm ++ (Gr ++ (Gk ++ E))) w w') (hN : ∀ b ∈ N, w.heap.size ≤ b) : IxAt At w0 gd gx r S D' (N ++ E) w' := by
  have hlt := h1.lt
  have hno : ∀ b, b < w.heap.size → b ∉ E → b ∉ N ++ E := fun b hb hn hm => by
    rcases List.mem_append.1 hm with k | k
    · have := hN b k; omega
    · exact hn k
  refine ⟨Fm, Gr, Gk, hd.less (fun b hb => ?_), hM.keep (hk.less fun b hb => ?_), fun b hb => ⟨(h3 b hb).1, (h3 b hb).2.1, hno b (hlt b (List.mem_append_left _ hb)) (h3 b hb).2.2⟩, fun b hb => ⟨(h4 b hb).1, hno b (hlt b (List.mem_append_right _ (List.mem_append_left _ hb))) (h4 b hb).2⟩, fun b hb => hno b (hlt b (List.mem_append_right _ (List.mem_append_right _ (List.mem_append_left _ hb)))) (h5 b hb), h6⟩
  · rcases List.mem_append.1 hb with k | k
    · exact List.mem_append_right _ (List.mem_append_left _ k)
    · rcases List.mem_append.1 k with k | k
      · exact List.mem_append_right _ (List.mem_append_right _ (List.mem_append_left _ k))
      · rcases List.mem_append.1 k with k | k
        · exact List.mem_append_right _ (List.mem_append_right _ (List.mem_append_right _ (List.mem_append_left _ k)))
        · rcases List.mem_append.1 k with k | k
          · exact List.mem_append_left _ k
          · exact List.mem_append_right _ (List.mem_append_right _ (List.mem_append_right _ (List.mem_append_right _ k)))
  · rcases List.mem_append.1 hb with k | k
    · exact List.mem_append_left _ k
    · rcases List.mem_append.1 k with k | k
      · exact List.mem_append_right _ (List.mem_append_left _ k)
      · exact List.mem_append_right _ (List.mem_append_right _ (List.mem_append_left _ k))
theorem Kept.lrow {G : List Nat} {w w' : World} {base : Nat} {v : Value} {M : List LstS} (h : Kept G w w') (hr : LRow w base v M) (hv : ∀ b ∈ ownL v, b ∈ G) : LRow w' base v M := by
  refine ⟨hr.1, ?_⟩
  rcases hr.2 with h0 | ⟨g, cap, cur, e, hg, hh, r⟩
  · exact Or.inl h0
  · exact Or.inr ⟨g, cap, cur, e, hg, (h.block g (hv g (ownL_mem.2 (by rw [e]; rfl)))).trans hh, r⟩
structure LsAt (At : Lies) (w0 : World) (gd : Nat) (w : World) (E N : List Nat) (D : DiskS) (Ls : List (List EntS)) (v : Value) (wr : World) : Prop where
  ds : DS At w0 gd D (N ++ E) wr
  kept : Kept E w wr
  new : ∀ b ∈ N, w.heap.size ≤ b
  base : w0.heap.size ≤ w.heap.size
  old : ∀ b ∈ E, b < w.heap.size
  rows : ∃ L, LRow wr w.heap.size v L ∧ els L = Ls ∧ (∀ b ∈ ownL v, b ∈ N) ∧ ∀ x ∈ L, EntRow wr w.heap.size x.v x.l ∧ ∀ b ∈ ownL x.v, b ∈ N
theorem LsAt.shape {Ls : List (List EntS)} {v : Value} (h : LsAt At w0 gd w E N D Ls v W) : ∃ A n c, n = Ls.length ∧ v = .slice A n c := by
  obtain ⟨L, h1, h2, -⟩ := h.rows
  obtain ⟨A, c, rfl, -⟩ := own_form h1
  exact ⟨A, _, c, by rw [← h2, els_length], rfl⟩
theorem LsAt.lists {Ls : List (List EntS)} {v : Value} (h : LsAt At w0 gd w E N D Ls v W) : ∃ L, ListsIn W v L ∧ els L = Ls := by
  obtain ⟨L, h1, h2, h3, h4⟩ := h.rows
  exact ⟨L, LRow.in_ h1 (fun x hx => EntRow.in_ (h4 x hx).1), h2⟩
theorem LsAt.nil (api : DiskApi At) (h : DS At w0 gd D E w) : LsAt At w0 gd w E [] D [] (.slice none 0 0) w :=
  ⟨h, Kept.refl _ _, fun b hb => (by cases hb), h.kept.size, h.lt, [], LRow.nil _ _, rfl, fun b hb => (by cases hb), fun x hx => (by cases hx)⟩
theorem LsAt.one (api : DiskApi At) {A : Option Addr} {n c : Nat} {l : List EntS} (h : DS At w0 gd D E w) (hb : Below w.heap.size w W) (hr : EntRow W w.heap.size (.slice A n c) l) :
    LsAt At w0 gd w E (W.heap.size :: ownL (.slice A n c)) D [l] (.slice (some ⟨W.heap.size, 0, none⟩) 1 1) (W.alloc (.cells #[.slice A n c] 40)) := by
  have hA := (Below.refl W.heap.size W).alloc (Nat.le_refl _) (.cells #[.slice A n c] 40)
  have hb2 := hb.alloc (B := w.heap.size) hb.size (.cells #[.slice A n c] 40)
  have hlt : W.heap.size < (W.alloc (.cells #[.slice A n c] 40)).heap.size := by simp
  have ho := row_own hr
  refine ⟨h.more api hb2 (fun b hb => ?_), Kept.of_below hb2 h.lt, fun b hb => ?_, h.kept.size, h.lt, [⟨.slice A n c, l⟩], World.ownsRow_lit (base := w.heap.size) (e := 40) (size := 1) W #[.slice A n c] 1 hb.size (by unfold maxLen; omega) rfl, rfl, fun b hb => ?_, fun x hx => ?_⟩
  · rcases List.mem_cons.1 hb with e | k
    · rw [e]; exact ⟨by have := Below.size ‹Below w.heap.size w W›; omega, hlt⟩
    · have := ho b k; exact ⟨this.1, by omega⟩
  · rcases List.mem_cons.1 hb with e | k
    · rw [e]; exact Below.size ‹Below w.heap.size w W›
    · exact (ho b k).1
  · have e : b = W.heap.size := by simpa [ownL, Value.ownBlock] using hb
    rw [e]
    exact List.mem_cons_self
  · obtain rfl := List.mem_singleton.1 hx
    exact ⟨hr.below hA (Nat.le_refl _), fun b hb => List.mem_cons_of_mem _ hb⟩
theorem LsAt.told {Ls : List (List EntS)} {v u : Value} {l : List EntS} (h : LsAt At w0 gd w E N D Ls v W) (hd : DS At w0 gd D' (ownL u ++ (N ++ E)) w') (hk : Kept (N ++ E) W w') (hr : EntRow w' W.heap.size u l) :
    LsAt At w0 gd w E (ownL u ++ N) D' Ls v w' ∧ EntRow w' w.heap.size u l := by
  obtain ⟨L, h1, h2, h3, h4⟩ := h.rows
  have hz := h.kept.size
  have ho := row_own hr
  refine ⟨⟨hd.less (fun b hb => ?_), h.kept.trans (hk.less (fun b hb => List.mem_append_right _ hb)), fun b hb => ?_, h.base, h.old, L, hk.lrow h1 (fun b hb => List.mem_append_left _ (h3 b hb)), h2, fun b hb => List.mem_append_right _ (h3 b hb), fun x hx => ⟨hk.row (h4 x hx).1 (fun b hb => List.mem_append_left _ ((h4 x hx).2 b hb)), fun b hb => List.mem_append_right _ ((h4 x hx).2 b hb)⟩⟩, hr.down hz⟩
  · rw [List.append_assoc] at hb
    exact hb
  · rcases List.mem_append.1 hb with k | k
    · have := (ho b k).1; omega
    · exact h.new b k
theorem LsAt.add (api : DiskApi At) {Ls : List (List EntS)} {A Au : Option Addr} {n c nu cu : Nat} {l : List EntS} (h : LsAt At w0 gd w E N D Ls (.slice A n c) W) (hr : EntRow W w.heap.size (.slice Au nu cu) l) (hu : ∀ b ∈ ownL (.slice Au nu cu), b ∈ N) (hn : Ls.length ≤ 500000) (ty : TypeId) :
    ∃ A' c' w' N', (Builtin.append_ #[101, 101] ty #[.slice A n c, .slice (some ⟨W.heap.size, 0, none⟩) 1 1]).run Tryz.prog (W.alloc (.cells #[.slice Au nu cu] 40)) = .ok (.slice A' (n + 1) c') w' ∧ LsAt At w0 gd w E N' D (Ls ++ [l]) (.slice A' (n + 1) c') w' := by
  obtain ⟨L, h1, h2, h3, h4⟩ := h.rows
  have hA := (Below.refl W.heap.size W).alloc (Nat.le_refl _) (.cells #[.slice Au nu cu] 40)
  have hLn : L.length = n := by
    obtain ⟨A2, c2, e, -⟩ := own_form h1
    exact (Value.slice.inj e).2.1.symm
  have r1 := LRow.alloc h1 (.cells #[.slice Au nu cu] 40)
  have hz := h.kept.size
  have hws : w.heap.size ≤ (W.alloc (.cells #[.slice Au nu cu] 40)).heap.size := by simp; omega
  obtain ⟨A', c', w', e1, e2, e3, e4⟩ := lists_append (M := [⟨.slice Au nu cu, l⟩]) r1 (lst_one W ⟨.slice Au nu cu, l⟩) (fun u hu => by
    obtain rfl : u = .slice Au nu cu := by simpa [vals] using hu
    rfl) (by rw [hLn, ← hLn, ← els_length, h2]; simp; omega) hws ty
  rw [hLn] at e1 e2 e4
  have hT : Touch (ownL (.slice A n c)) W w' := ((Touch.of_below hA).more (fun x hx => by cases hx)).grown e3 (fun k hk => Or.inl (ownL_mem.2 hk))
  have hown : ∀ b ∈ ownL (.slice A' (n + 1) c'), b ∈ ownL (.slice A n c) ∨ (W.heap.size ≤ b ∧ b < w'.heap.size) := fun b hb => by
    have hb' := ownL_mem.1 hb
    rcases e4 with e | e
    · exact Or.inl (ownL_mem.2 (by rw [← e]; exact hb'))
    · have hlt := (e2.lt b hb').2
      refine Or.inr ⟨?_, hlt⟩
      have e' : (Value.slice A' (n + 1) c').ownBlock = some (W.alloc (.cells #[.slice Au nu cu] 40)).heap.size := e
      rw [hb'] at e'
      obtain rfl := Option.some.inj e'
      simp
  have hlE : ∀ b ∈ E, b ∉ ownL (.slice A n c) ∧ b < W.heap.size := fun b hb => ⟨fun hm => (by have := h.new b (h3 b hm); have := h.old b hb; omega), h.ds.lt b (List.mem_append_right _ hb)⟩
  have hKE : Kept E W w' := Kept.of_touch hT (fun b hb => ⟨(hlE b hb).2, (hlE b hb).1⟩)
  refine ⟨A', c', w', ownL (.slice A' (n + 1) c') ++ N, e1, ⟨h.ds.turn api hT (fun b hb => ?_) (fun b hb => ?_), h.kept.trans hKE, fun b hb => ?_, h.base, h.old, L ++ [⟨.slice Au nu cu, l⟩], by rw [← hLn] at e2 ⊢; exact e2, by rw [show els (L ++ [⟨.slice Au nu cu, l⟩]) = els L ++ [l] from by unfold els; rw [List.map_append]; rfl, h2], fun b hb => List.mem_append_left _ hb, fun x hx => ?_⟩⟩
  · exact ⟨List.mem_append_left _ (h3 b hb), Nat.le_trans h.base (h.new b (h3 b hb))⟩
  · rcases List.mem_append.1 hb with k | k
    · rcases List.mem_append.1 k with k | k
      · rcases hown b k with q | q
        · exact Or.inl (List.mem_append_left _ (h3 b q))
        · exact Or.inr q
      · exact Or.inl (List.mem_append_left _ k)
    · exact Or.inl (List.mem_append_right _ k)
  · rcases List.mem_append.1 hb with k | k
    · rcases hown b k with q | q
      · exact h.new b (h3 b q)
      · omega
    · exact h.new b k
  · rcases List.mem_append.1 hx with k | k
    · exact ⟨EntRow.grown_l ((h4 x k).1.below hA (Nat.le_refl _)) r1 e3, fun b hb => List.mem_append_right _ ((h4 x k).2 b hb)⟩
    · obtain rfl := List.mem_singleton.1 k
      exact ⟨EntRow.grown_l (hr.below hA (Nat.le_refl _)) r1 e3, fun b hb => List.mem_append_right _ (hu b hb)⟩
end
end Go.Proofs.YtcpfkaehefcakaaGreat
namespace Go.Proofs.YtcpfkaehefcakaaGreat
open Go.RowKit Go.Shelf
set_option linter.unusedVariables false
set_option maxRecDepth 100000
def XRangeEnd (At : Lies) (w0 : World) (gd gx r : Nat) (S : IxS) (D : DiskS) (R : List EntS) (m : Nat) (E : List Nat) (w : World) (e : Ending) (w' : World) : Prop :=
  ∃ A c k, k ≤ m ∧ e = .returned (.tuple #[.slice A R.length c, .int .i64 0]) ∧ EntRow w' w.heap.size (.slice A R.length c) R ∧ IxAt At w0 gd gx r S { D with count := D.count + k } (ownL (.slice A R.length c) ++ E) w' ∧ Kept E w w'
theorem xrange_none {w : World} {p : Value} (h : IxNone w p) (k : Nat) (a b : Int) : Calls Tryz.prog 16 #[p, .int .u64 (k : Nat), .int .i64 a, .int .i64 b] w fun e w' => e = .returned (.tuple #[.slice none 0 0, .int .i64 1]) ∧ w = w' := by
  have hn := Lib.hid (xnone_any h)
  clear h
  go_enter Tryz.func16, Tryz.ntmps16
  go_wp2_with fail
  refine hn.out.mono ?_
  rintro e w' ⟨rfl, rfl⟩
  go_wp2
  go_ret2
  exact ⟨rfl, rfl⟩
def totX (S : IxS) : Nat := S.mem.length + totL (S.T.map TbS.l)
theorem tot_filter (q : EntS → Bool) : ∀ (T : List TbS), totL (T.map fun t => t.l.filter q) ≤ totL (T.map TbS.l)
  | [] => Nat.le_refl _
  | t :: T => by
    rw [List.map_cons, List.map_cons, totL_cons, totL_cons]
    have := tot_filter q T
    have := List.length_filter_le q t.l
    omega
theorem tot_one {T : List TbS} {t : TbS} (h : t ∈ T) : t.l.length ≤ totL (T.map TbS.l) := by
  induction T with
  | nil => cases h
  | cons x T ih =>
    rw [List.map_cons, totL_cons]
    rcases List.mem_cons.1 h with rfl | h
    · omega
    · have := ih h; omega
section
variable {At : Lies} (api : DiskApi At) (nap : NamesApi) {w0 w w' : World} {gd gx r : Nat} {S : IxS} {D : DiskS} {E : List Nat}
include api nap
set_option maxHeartbeats 600000 in
theorem xrange_run (h : IxAt At w0 gd gx r S D E w) (ok : IxOk D S) (wf : WfP D) (hc : D.count ≤ 1000000000) (hd : D.down = false) (ht : totX S ≤ 40000) (x : Nat) (hx : x < 18446744073709551616) (a b : Int) (wa : (Lit.int .i64 a).wf = true) (wb : (Lit.int .i64 b).wf = true) :
    Calls Tryz.prog 16 #[ptr gx, .int .u64 (x : Nat), .int .i64 a, .int .i64 b] w (XRangeEnd At w0 gd gx r S D (rangeX S x a b) S.T.length E w) := by
  obtain ⟨Fm, Gr, Gk, d1, hM, d3, d4, d5, d6⟩ := h
  obtain ⟨gm, A, cp, B, c2, ps, hC⟩ := hM.cells
  obtain ⟨c0, -, -, -, -, -, c6, -, c8⟩ := hC.cs
  have hno := Lib.hid (xnone_run c0)
  have bb := bounds_i64 wb
  have hmin : (if (1073741824 : Int) < b then 1073741824 else b) = capV b := by unfold capV; split <;> omega
  have HMR := trange_run hC.mem.has (by unfold totX at ht; omega) x a (capV b)
  have HBK := Lib.hid (fun (N : List Nat) (D' : DiskS) (W : World) (hd : DS At w0 gd D' (N ++ (Fm ++ (Gr ++ (Gk ++ E)))) W) (hk : Kept (Fm ++ (Gr ++ (Gk ++ E))) w W) (hN : ∀ b ∈ N, w.heap.size ≤ b) => IxAt.back hM d1 d3 d4 d5 d6 hd hk hN)
  have hGk : ∀ b ∈ Gk, b ∈ Fm ++ (Gr ++ (Gk ++ E)) := fun b hb => List.mem_append_right _ (List.mem_append_right _ (List.mem_append_left _ hb))
  have hGr : ∀ b ∈ Gr, b ∈ Fm ++ (Gr ++ (Gk ++ E)) := fun b hb => List.mem_append_right _ (List.mem_append_left _ hb)
  have hEE : ∀ b ∈ E, b ∈ Fm ++ (Gr ++ (Gk ++ E)) := fun b hb => List.mem_append_right _ (List.mem_append_right _ (List.mem_append_right _ hb))
  have hps : ps.length = S.T.length := hC.tabs.1
  obtain ⟨E1, hE1⟩ : ∃ E1, Fm ++ (Gr ++ (Gk ++ E)) = E1 := ⟨_, rfl⟩
  rw [hE1] at d1 HBK hGk hGr hEE
  have HD1 := Lib.hid d1
  -- a table's answer
  have HT := Lib.hid (fun (i g : Nat) (t : TbS) (hg : ps[i]? = some g) (htt : S.T[i]? = some t) (k : Nat) (hk : k ≤ 40) (W : World) (N : List Nat) (hW : DS At w0 gd { D with count := D.count + k } (N ++ E1) W) (hkp : Kept E1 w W) => (show Calls Tryz.prog 58 #[ptr g, .int .u64 (x : Nat), .int .i64 a, .int .i64 b] W fun e w' => ∃ j, j ≤ 1 ∧ LEnd At w0 gd (rangeE t.l x a (capV b)) 0 { D with count := D.count + k + j } (N ++ E1) W e w' from by
    obtain ⟨H, q1, q2⟩ := hC.tabs.2 i g t hg htt
    have hmem := List.mem_of_getElem? htt
    have hlen := tot_one hmem
    have hn := (ok.num_le hmem).1
    refine (ptrange_run api nap hW (q1.keep hkp (fun b hb => hGk b (q2 b hb))) (fun b hb => List.mem_append_right _ (hGk b (q2 b hb))) ⟨wf.synced, wf.used, wf.cap, wf.many⟩ (by show D.count + k ≤ _; omega) (WalkArith.wf_i64 (by omega)) hd ((ok.has t hmem).count _) (ok.keep t hmem) (by unfold totX at ht; omega) x hx a b wa wb).mono ?_
    rintro e w' ⟨j, hj, -, hL⟩
    exact ⟨j, hj, hL⟩))
  have HP := Lib.hid (fun (W : World) (hk : Kept E1 w W) (i g : Nat) (hg : ps[i]? = some g) => (show ∃ bp, B = some ⟨bp, 0, none⟩ ∧ W.cell? ⟨bp, i, none⟩ = some (ptr g) from by
    obtain ⟨B', cap', e, -, -, hcell⟩ := PRow.form (hk.prow hC.row (fun b hb => hGr b (hC.rowOwn b hb)))
    obtain ⟨rfl, -, -⟩ := Value.slice.inj e
    obtain ⟨bp, e1, -, -, e2⟩ := hcell i g hg
    exact ⟨bp, e1, e2⟩))
  have HC6 := Lib.hid (fun (W : World) (hk : Kept E1 w W) => (show W.cell? ⟨gx, 6, none⟩ = some (.slice B ps.length c2) from (hk.blok hC.blok (hGr gx hC.own)).cell 6))
  have HPL := Lib.hid hps
  have hTL := ok.many_le
  have HR : Hid (rangeX S x a b = mergeE ((rangeE S.mem x a (capV b)) :: S.T.map fun t => rangeE t.l x a (capV b))) := Lib.hid rfl
  have HTOT := Lib.hid (show totL ((rangeE S.mem x a (capV b)) :: S.T.map fun t => rangeE t.l x a (capV b)) ≤ 40000 from by
    rw [totL_cons]
    have := tot_filter (inQ x a (capV b)) S.T
    have := List.length_filter_le (inQ x a (capV b)) S.mem
    unfold totX at ht
    unfold rangeE
    omega)
  have HEE := Lib.hid hEE
  obtain ⟨m, hm⟩ : ∃ m, m = ps.length := ⟨_, rfl⟩
  have hm40 : m ≤ 40 := by omega
  have HM := Lib.hid hm
  have hmT : S.T.length = m := by omega
  have HMT := Lib.hid hmT
  rw [← hm] at c6 HC6
  rw [hmT]
  generalize hF0 : rangeE S.mem x a (capV b) = l0 at *
  unfold EntsOut at HMR
  have HMR2 := Lib.hid HMR
  have HREST : Hid (∀ k t, S.T[k]? = some t → (l0 :: (S.T.take k).map fun t => rangeE t.l x a (capV b)) ++ [rangeE t.l x a (capV b)] = l0 :: (S.T.take (k + 1)).map fun t => rangeE t.l x a (capV b)) := Lib.hid fun k t hk => by
    rw [List.take_add_one, hk, List.map_append]
    rfl
  have HALL : Hid ((l0 :: (S.T.take m).map fun t => rangeE t.l x a (capV b)) = l0 :: S.T.map fun t => rangeE t.l x a (capV b)) := Lib.hid (by rw [← hmT, List.take_length])
  have HLT : Hid (∀ k, k ≤ m → (l0 :: (S.T.take k).map fun t => rangeE t.l x a (capV b)).length = k + 1) := Lib.hid fun k hk => by
    rw [List.length_cons, List.length_map, List.length_take]
    omega
  have HFL : Hid (∀ k, k < m → ∃ g t, ps[k]? = some g ∧ S.T[k]? = some t) := Lib.hid fun k hk => ⟨_, _, List.getElem?_eq_getElem (by omega), List.getElem?_eq_getElem (by omega)⟩
  have HLIM := Lib.hid (show (l0 :: S.T.map fun t => rangeE t.l x a (capV b)).length ≤ 500000 from by rw [List.length_cons, List.length_map]; omega)
  clear hM hC d1 d3 d4 d5 d6 ok wf hc hd ht wa wb hGk hGr hEE hps hTL hm hmT hE1 HMR c0 hF0
  generalize rangeX S x a b = R at *
  go_enter Tryz.func16, Tryz.ntmps16
  go_wp2_with fail
  refine hno.out.mono ?_
  rintro e w' ⟨rfl, rfl⟩
  go_wp2_with fail
  refine HMR2.out.mono ?_
  rintro e w1 ⟨A1, c1, rfl, r1, b1⟩
  have H1 := Lib.hid (LsAt.one api HD1.out b1 r1)
  have c6' := HC6.out _ H1.out.kept
  clear c6 c8 b1 r1
  go_wp2
  go_loopg [10, 32] m (fun g u i wr => ∃ (k : Nat) (N : List Nat) (j : Nat), k + g = m ∧ j ≤ k ∧ i = .int .i64 k ∧ LsAt At w0 gd w E1 N { D with count := D.count + j } (l0 :: (S.T.take k).map fun t => rangeE t.l x a (capV b)) u wr)
  case atStart => exact ⟨0, _, 0, by omega, Nat.le_refl _, rfl, H1.out⟩
  case round =>
    obtain ⟨k, N, j, hkg, hjk, rfl, hL⟩ := hrel
    obtain ⟨Ak, nk, ck, hnk, rfl⟩ := hL.shape
    have hkm : k ≤ m := by omega
    rw [HLT.out k hkm] at hnk
    subst hnk
    have HL := Lib.hid hL
    clear hL
    cases gk with
    | zero =>
      obtain rfl : k = m := by omega
      have s1 : ¬ (k : Int) < (k : Int) := by omega
      have HL2 := HL.out
      rw [HALL.out] at HL2
      obtain ⟨L, q1, q2⟩ := HL2.lists
      have HMG := merge_any _ L wr q1 (by rw [← els_length, q2]; exact HLIM.out) (by rw [q2]; have := HTOT.out; omega)
      rw [q2, ← HR.out] at HMG
      unfold EntsOut at HMG
      have HG := Lib.hid HMG
      have HL3 := Lib.hid HL2
      clear HMG HL2 q1 q2 HL
      go_wp2_with fail
      refine HG.out.mono ?_
      rintro e w9 ⟨A9, c9, rfl, r9, b9⟩
      have HFIN := Lib.hid (HBK.out (ownL (.slice A9 R.length c9)) { D with count := D.count + j } w9 ((HL3.out.ds.less (fun b hb => List.mem_append_right _ hb)).more api b9 (row_own r9)) (HL3.out.kept.trans (Kept.of_below b9 (fun b hb => HL3.out.ds.lt b (List.mem_append_right _ hb)))) (fun b hb => Nat.le_trans HL3.out.kept.size (row_own r9 b hb).1))
      have HR9 := Lib.hid (r9.down HL3.out.kept.size)
      have HK9 := Lib.hid ((HL3.out.kept.trans (Kept.of_below b9 (fun b hb => HL3.out.ds.lt b (List.mem_append_right _ hb)))).less HEE.out)
      clear r9 b9
      go_wp2
      go_ret2
      exact ⟨A9, c9, j, hjk, rfl, HR9.out, HFIN.out, HK9.out⟩
    | succ gi =>
      have hkm2 : k < m := by omega
      have s1 : (k : Int) < (m : Int) := by omega
      obtain ⟨g, t, hg, htt⟩ := HFL.out k hkm2
      obtain ⟨bp, rfl, q1⟩ := HP.out wr HL.out.kept k g hg
      have HTT := Lib.hid (HT.out k g t hg htt j (by omega) wr N HL.out.ds HL.out.kept)
      have HG := Lib.hid htt
      clear hg htt
      go_wp2_with fail
      refine HTT.out.mono ?_
      rintro e w5 ⟨j2, hj2, A5, c5, rfl, r5, d5, k5⟩
      obtain ⟨L5, r6⟩ := HL.out.told d5 k5 r5
      have hlim : (l0 :: (S.T.take k).map fun t => rangeE t.l x a (capV b)).length ≤ 500000 := by rw [HLT.out k hkm]; omega
      obtain ⟨A6, c6, w6, N6, e6, L6⟩ := L5.add api r6 (fun b hb => List.mem_append_left _ hb) hlim 101
      rw [HREST.out k t HG.out, Nat.add_assoc] at L6
      have HE := Lib.hid e6
      have H6 := Lib.hid L6
      clear L5 r6 hlim e6 L6 r5 d5 k5
      go_wp2_with (first | (at_builtin; refine wpList_append_two rfl _ _ rfl rfl rfl HE.out ?_) | fail)
      go_roundg gi
      case measure => omega
      case rel => exact ⟨k + 1, N6, j + j2, by omega, by omega, by go_num, H6.out⟩
end
end Go.Proofs.YtcpfkaehefcakaaGreat
namespace Go.Proofs.YtcpfkaehefcakaaGreat
open Go.RowKit Go.Shelf
set_option linter.unusedVariables false
set_option maxRecDepth 100000
theorem tot_some (q : TbS → Bool) : ∀ (T : List TbS), totL ((T.filter q).map TbS.l) ≤ totL (T.map TbS.l)
  | [] => Nat.le_refl _
  | t :: T => by
    have := tot_some q T
    rw [List.map_cons, totL_cons, List.filter_cons]
    split
    · rw [List.map_cons, totL_cons]; omega
    · omega
section
variable {At : Lies} (api : DiskApi At) (nap : NamesApi) {w0 w w' : World} {gd gx r : Nat} {S : IxS} {D : DiskS} {E : List Nat}
include api nap
set_option maxHeartbeats 1000000 in
theorem xall_run (h : IxAt At w0 gd gx r S D E w) (ok : IxOk D S) (wf : WfP D) (hc : D.count ≤ 1000000000) (hd : D.down = false) (ht : totX S ≤ 40000) (v : Value) (ns : List Int) (hv : IntsIn w v ns) (hvE : ∀ b ∈ ownL v, b ∈ E) (hns : ns.length ≤ 1000000) :
    Calls Tryz.prog 50 #[ptr gx, v] w (XRangeEnd At w0 gd gx r S D (allX S ns) S.T.length E w) := by
  obtain ⟨Fm, Gr, Gk, d1, hM, d3, d4, d5, d6⟩ := h
  obtain ⟨gm, A, cp, B, c2, ps, hC⟩ := hM.cells
  obtain ⟨c0, -, -, -, -, -, c6, -, c8⟩ := hC.cs
  have HBK := Lib.hid (fun (N : List Nat) (D' : DiskS) (W : World) (hd : DS At w0 gd D' (N ++ (Fm ++ (Gr ++ (Gk ++ E)))) W) (hk : Kept (Fm ++ (Gr ++ (Gk ++ E))) w W) (hN : ∀ b ∈ N, w.heap.size ≤ b) => IxAt.back hM d1 d3 d4 d5 d6 hd hk hN)
  have hGk : ∀ b ∈ Gk, b ∈ Fm ++ (Gr ++ (Gk ++ E)) := fun b hb => List.mem_append_right _ (List.mem_append_right _ (List.mem_append_left _ hb))
  have hGr : ∀ b ∈ Gr, b ∈ Fm ++ (Gr ++ (Gk ++ E)) := fun b hb => List.mem_append_right _ (List.mem_append_left _ hb)
  have hEE : ∀ b ∈ E, b ∈ Fm ++ (Gr ++ (Gk ++ E)) := fun b hb => List.mem_append_right _ (List.mem_append_right _ (List.mem_append_right _ hb))
  have hps : ps.length = S.T.length := hC.tabs.1
  obtain ⟨E1, hE1⟩ : ∃ E1, Fm ++ (Gr ++ (Gk ++ E)) = E1 := ⟨_, rfl⟩
  rw [hE1] at d1 HBK hGk hGr hEE
  have HD1 := Lib.hid d1
  -- a table's answers
  have HNU := Lib.hid (fun (i g : Nat) (t : TbS) (hg : ps[i]? = some g) (htt : S.T[i]? = some t) (W : World) (hkp : Kept E1 w W) => (show Calls Tryz.prog 104 #[ptr g] W fun e w' => e = .returned (.int .i64 (t.n : Nat)) ∧ W = w' from by
    obtain ⟨H, q1, q2⟩ := hC.tabs.2 i g t hg htt
    exact ptnum_run (q1.keep hkp (fun b hb => hGk b (q2 b hb)))))
  have HCO := Lib.hid (fun (n : Int) (W : World) (hkp : Kept E1 w W) => contains_any v ns n W (hkp.ints hv (fun b hb => hEE b (hvE b hb))) hns)
  have HT := Lib.hid (fun (i g : Nat) (t : TbS) (hg : ps[i]? = some g) (htt : S.T[i]? = some t) (k : Nat) (hk : k ≤ 40) (W : World) (N : List Nat) (hW : DS At w0 gd { D with count := D.count + k } (N ++ E1) W) (hkp : Kept E1 w W) => (show Calls Tryz.prog 105 #[ptr g] W (LEnd At w0 gd t.l 0 { D with count := D.count + k + 1 } (N ++ E1) W) from by
    obtain ⟨H, q1, q2⟩ := hC.tabs.2 i g t hg htt
    have hmem := List.mem_of_getElem? htt
    have hlen := tot_one hmem
    have hn := (ok.num_le hmem).1
    exact ptall_run api nap hW (q1.keep hkp (fun b hb => hGk b (q2 b hb))) (fun b hb => List.mem_append_right _ (hGk b (q2 b hb))) ⟨wf.synced, wf.used, wf.cap, wf.many⟩ (by show D.count + k ≤ _; omega) (WalkArith.wf_i64 (by omega)) hd ((ok.has t hmem).count _) (by unfold totX at ht; omega)))
  have HP := Lib.hid (fun (W : World) (hk : Kept E1 w W) (i g : Nat) (hg : ps[i]? = some g) => (show ∃ bp, B = some ⟨bp, 0, none⟩ ∧ W.cell? ⟨bp, i, none⟩ = some (ptr g) from by
    obtain ⟨B', cap', e, -, -, hcell⟩ := PRow.form (hk.prow hC.row (fun b hb => hGr b (hC.rowOwn b hb)))
    obtain ⟨rfl, -, -⟩ := Value.slice.inj e
    obtain ⟨bp, e1, -, -, e2⟩ := hcell i g hg
    exact ⟨bp, e1, e2⟩))
  have hTL := ok.many_le
  have HR : Hid (allX S ns = mergeE ((someT (S.T.take S.T.length) ns).map TbS.l)) := Lib.hid (by rw [List.take_length]; rfl)
  have HTOT := Lib.hid (show totL ((someT (S.T.take S.T.length) ns).map TbS.l) ≤ 40000 from by
    rw [List.take_length]
    have := tot_some (fun t => decide ((t.n : Int) ∈ ns)) S.T
    unfold totX at ht
    unfold someT
    omega)
  have HEE := Lib.hid hEE
  have HST : Hid (∀ k t, S.T[k]? = some t → (someT (S.T.take (k + 1)) ns).map TbS.l = (someT (S.T.take k) ns).map TbS.l ++ (if decide ((t.n : Int) ∈ ns) = true then [t.l] else [])) := Lib.hid fun k t hk => by
    unfold someT
    rw [List.take_add_one, hk, List.filter_append, List.map_append]
    congr 1
    show (List.filter _ [t]).map TbS.l = _
    by_cases q : (t.n : Int) ∈ ns
    · simp [q]
    · simp [q]
  have HLN : Hid (∀ k, k ≤ 40 → ((someT (S.T.take k) ns).map TbS.l).length ≤ 40) := Lib.hid fun k hk => by
    rw [List.length_map]
    have h1 := List.length_filter_le (fun t => decide ((t.n : Int) ∈ ns)) (S.T.take k)
    rw [List.length_take] at h1
    unfold someT
    omega
  obtain ⟨m, hm⟩ : ∃ m, m = ps.length := ⟨_, rfl⟩
  have hm40 : m ≤ 40 := by omega
  have hmT : S.T.length = m := by omega
  rw [← hm] at c6
  rw [hmT] at HR HTOT ⊢
  have HFL : Hid (∀ k, k < m → ∃ g t, ps[k]? = some g ∧ S.T[k]? = some t) := Lib.hid fun k hk => ⟨_, _, List.getElem?_eq_getElem (by omega), List.getElem?_eq_getElem (by omega)⟩
  have H0 := Lib.hid (LsAt.nil api HD1.out)
  obtain ⟨Av, ov, cv, rfl, -, -⟩ := hv.form
  obtain ⟨nv, hnv⟩ : ∃ nv, nv = ns.length := ⟨_, rfl⟩
  rw [← hnv] at HCO ⊢
  clear hM hC d1 d3 d4 d5 d6 ok wf hc hd ht hGk hGr hEE hps hTL hm hmT hE1 c0 c8 hv hvE hns hnv
  generalize allX S ns = R at *
  go_enter Tryz.func50, Tryz.ntmps50
  go_wp2
  go_loopg [6, 16] m (fun g u i wr => ∃ (k : Nat) (N : List Nat) (j : Nat), k + g = m ∧ j ≤ k ∧ i = .int .i64 k ∧ LsAt At w0 gd w E1 N { D with count := D.count + j } ((someT (S.T.take k) ns).map TbS.l) u wr)
  case atStart => exact ⟨0, _, 0, by omega, Nat.le_refl _, rfl, H0.out⟩
  case round =>
    obtain ⟨k, N, j, hkg, hjk, rfl, hL⟩ := hrel
    obtain ⟨Ak, nk, ck, hnk, rfl⟩ := hL.shape
    have hkm : k ≤ m := by omega
    have hnk40 := HLN.out k (by omega)
    rw [← hnk] at hnk40
    have HNK := Lib.hid hnk
    have HL := Lib.hid hL
    clear hL hnk
    cases gk with
    | zero =>
      obtain rfl : k = m := by omega
      have s1 : ¬ (k : Int) < (k : Int) := by omega
      obtain ⟨L, q1, q2⟩ := HL.out.lists
      have HMG := merge_any _ L wr q1 (by rw [← els_length, q2, ← HNK.out]; omega) (by rw [q2]; have := HTOT.out; omega)
      rw [q2, ← HR.out] at HMG
      unfold EntsOut at HMG
      have HG := Lib.hid HMG
      clear HMG q1 q2
      go_wp2_with fail
      refine HG.out.mono ?_
      rintro e w9 ⟨A9, c9, rfl, r9, b9⟩
      have HFIN := Lib.hid (HBK.out (ownL (.slice A9 R.length c9)) { D with count := D.count + j } w9 ((HL.out.ds.less (fun b hb => List.mem_append_right _ hb)).more api b9 (row_own r9)) (HL.out.kept.trans (Kept.of_below b9 (fun b hb => HL.out.ds.lt b (List.mem_append_right _ hb)))) (fun b hb => Nat.le_trans HL.out.kept.size (row_own r9 b hb).1))
      have HR9 := Lib.hid (r9.down HL.out.kept.size)
      have HK9 := Lib.hid ((HL.out.kept.trans (Kept.of_below b9 (fun b hb => HL.out.ds.lt b (List.mem_append_right _ hb)))).less HEE.out)
      clear r9 b9
      go_wp2
      go_ret2
      exact ⟨A9, c9, j, hjk, rfl, HR9.out, HFIN.out, HK9.out⟩
    | succ gi =>
      have hkm2 : k < m := by omega
      have s1 : (k : Int) < (m : Int) := by omega
      obtain ⟨g, t, hg, htt⟩ := HFL.out k hkm2
      obtain ⟨bp, rfl, q1⟩ := HP.out wr HL.out.kept k g hg
      have HTT := Lib.hid (HT.out k g t hg htt j (by omega) wr N HL.out.ds HL.out.kept)
      have HNN := Lib.hid (HNU.out k g t hg htt wr HL.out.kept)
      have HCC := HCO.out (t.n : Nat) wr HL.out.kept
      have HSS := HST.out k t htt
      clear hg htt
      cases hq : decide ((t.n : Int) ∈ ns) with
      | false =>
        rw [hq] at HCC HSS
        rw [if_neg (by decide), List.append_nil] at HSS
        have HL2 := Lib.hid (show LsAt At w0 gd w E1 N { D with count := D.count + j } ((someT (S.T.take (k + 1)) ns).map TbS.l) (.slice Ak nk ck) wr from by rw [HSS]; exact HL.out)
        have HC2 := Lib.hid HCC
        clear hq HCC HSS
        go_wp2_with fail
        refine HNN.out.mono ?_
        rintro e w5 ⟨rfl, rfl⟩
        go_wp2_with fail
        refine HC2.out.mono ?_
        rintro e w5 ⟨rfl, rfl⟩
        go_wp2
        go_roundg gi
        case measure => omega
        case rel => exact ⟨k + 1, N, j, by omega, by omega, by go_num, HL2.out⟩
      | true =>
        rw [hq] at HCC HSS
        rw [if_pos rfl] at HSS
        have HS2 := Lib.hid HSS
        have HC2 := Lib.hid HCC
        clear hq HCC HSS
        go_wp2_with fail
        refine HNN.out.mono ?_
        rintro e w5 ⟨rfl, rfl⟩
        go_wp2_with fail
        refine HC2.out.mono ?_
        rintro e w5 ⟨rfl, rfl⟩
        go_wp2_with fail
        refine HTT.out.mono ?_
        rintro e w5 ⟨A5, c5, rfl, r5, d5, k5⟩
        obtain ⟨L5, r6⟩ := HL.out.told d5 k5 r5
        obtain ⟨A6, c6', w6, N6, e6, L6⟩ := L5.add api r6 (fun b hb => List.mem_append_left _ hb) (by rw [← HNK.out]; omega) 101
        rw [← HS2.out, Nat.add_assoc] at L6
        have HE := Lib.hid e6
        have H6 := Lib.hid L6
        clear L5 r6 e6 L6 r5 d5 k5
        go_wp2_with (first | (at_builtin; refine wpList_append_two rfl _ _ rfl rfl rfl HE.out ?_) | fail)
        go_roundg gi
        case measure => omega
        case rel => exact ⟨k + 1, N6, j + 1, by omega, by omega, by go_num, H6.out⟩
end
end Go.Proofs.YtcpfkaehefcakaaGreat
namespace Go.Proofs.YtcpfkaehefcakaaGreat
set_option maxRecDepth 100000
set_option linter.unusedVariables false
section
open Go.RowKit Go.Shelf
theorem xlast_none {w : World} {p : Value} (h : IxNone w p) (k : Nat) (b : Int) : Calls Tryz.prog 18 #[p, .int .u64 (k : Nat), .int .i64 b] w fun e w' => e = .returned (.tuple #[.int .i64 (-1), .int .i64 1]) ∧ w = w' := by
  have hn := Lib.hid (xnone_any h)
  clear h
  go_enter Tryz.func18, Tryz.ntmps18
  go_wp2_with fail
  refine hn.out.mono ?_
  rintro e w' ⟨rfl, rfl⟩
  go_wp2
  go_ret2
  exact ⟨rfl, rfl⟩
end
end Go.Proofs.YtcpfkaehefcakaaGreat
