/- ZnIxTake0 -/
import Derived.Test.YtcpfkaehefcakaaGreatPn45
import Derived.Test.YtcpfkaehefcakaaGreatPn41
import Derived.Test.YtcpfkaehefcakaaGreatPn39
import Derived.Test.YtcpfkaehefcakaaGreatPn47
namespace Go.Proofs.YtcpfkaehefcakaaGreat
open Go.RowKit Go.Shelf
set_option linter.unusedVariables false
set_option maxRecDepth 100000
theorem info_ptp : (Tryz.prog.info? 86).map (fun i => (i.zero, i.size, i.bytes)) = some (some (.pointer none), 1, 8) := by kernel_rfl
theorem ptp_src (w : World) (g : Nat) : SrcAt (w.alloc (.cells #[ptr g] 86)) 1 (.slice (some ⟨w.heap.size, 0, none⟩) 1 1) 1 [ptr g] :=
  ⟨rfl, Or.inr ⟨_, 1, rfl, fun j u hj => by
    match j, hj with
    | 0, hj =>
      obtain rfl : ptr g = u := by simpa using hj
      exact (Blok.new w 86 #[ptr g]).cell 0⟩⟩
theorem prow_append {w : World} {base n : Nat} {v : Value} {ps : List Nat} (g : Nat) (ty : TypeId) (hown : PRow w base v ps) (hn : n = ps.length) (hl : ps.length ≤ 10000) (hb : base ≤ w.heap.size) :
    ∃ A c w', (Builtin.append_ #[64, 64] ty #[v, .slice (some ⟨w.heap.size, 0, none⟩) 1 1]).run Tryz.prog (w.alloc (.cells #[ptr g] 86)) = .ok (.slice A (n + 1) c) w' ∧ PRow w' base (.slice A (n + 1) c) (ps ++ [g]) ∧ Touch (ownL v) w w' ∧ ∀ b ∈ ownL (.slice A (n + 1) c), b ∈ ownL v ∨ (w.heap.size ≤ b ∧ b < w'.heap.size) := by
  subst hn
  obtain ⟨i0, hi, hz0, hz1, hz2⟩ := info_parts info_ptp
  have hB := (Below.refl w.heap.size w).alloc (Nat.le_refl _) (.cells #[ptr g] 86)
  have h1 := PRow.below hown hB (Nat.le_refl _)
  obtain ⟨v', w', e1, e2, e3, e4⟩ := run_append_src (P := Tryz.prog) _ base 64 86 i0 _ 1 8 ty Tryz.underlying64 hi hz0 hz1 hz2 rfl (by decide) v ps.length (ps.map ptr) h1 _ 1 [ptr g] (ptp_src w g) (fun u hu => by rw [List.mem_singleton.1 hu]; rfl) (by unfold maxLen; omega) (by omega) (by simp; omega)
  obtain ⟨A, c, rfl, -, -, -⟩ := own_form e2
  refine ⟨A, c, w', e1, by unfold PRow; rw [List.length_append, List.map_append]; exact e2, ((Touch.of_below hB).more (fun x hx => by cases hx)).grown e3 (fun k hk => Or.inl (ownL_mem.2 hk)), fun b hm => ?_⟩
  have hb' := ownL_mem.1 hm
  rcases e4 with e | e
  · exact Or.inl (ownL_mem.2 (by rw [← e]; exact hb'))
  · have hlt := (e2.lt b hb').2
    rw [hb'] at e
    obtain rfl := Option.some.inj e
    exact Or.inr ⟨by simp, hlt⟩
def nextM (S : IxS) (R : LvL) (check : Int) : ManS := ⟨S.m.next + 1, check, S.m.seed, R⟩
section
variable {At : Lies} {w0 w w5 w9 : World} {gd gx r gm cp c2 gt n cp5 n9 c9 k5 : Nat} {S : IxS} {D D' : DiskS} {E N Fm Gr Gk ps G2 H : List Nat} {A B A5 A9 : Option Addr} {R : LvL} {l : List EntS} {t : ByteArray} {check : Int}
theorem take_fin (api : DiskApi At) (hC : IxCells w w0.heap.size gx gd r S Fm Gr Gk gm A cp B c2 ps) (h1 : DS At w0 gd D (Fm ++ (Gr ++ (Gk ++ E))) w) (h3 : ∀ b ∈ Fm, b ∉ Gr ∧ b ∉ Gk ∧ b ∉ E) (h4 : ∀ b ∈ Gr, b ∉ Gk ∧ b ∉ E) (h5 : ∀ b ∈ Gk, b ∉ E) (h6 : ∀ b ∈ Fm ++ Gr, w0.heap.size ≤ b)
    (hd : DS At w0 gd D' (N ++ (Fm ++ (Gr ++ (Gk ++ E)))) w5) (hk : Kept (Fm ++ (Gr ++ (Gk ++ E))) w w5) (hN : ∀ b ∈ N, w.heap.size ≤ b)
    (hlv : LvKeep w5 (.slice A5 k5 cp5) R G2) (hG2 : ∀ b ∈ G2, b ∈ N) (hp : PtAt w5 gt gd (n : Nat) l t H) (hH : ∀ b ∈ H, b ∈ N) (hn : S.m.next = (n : Nat))
    (ht : Touch (gx :: ownL (.slice B ps.length c2)) w5 w9)
    (hb9 : Blok w9 gx 67 #[ptr gx, ptr gd, .int .i64 (S.m.next + 1), .int .i64 check, .int .u64 (S.m.seed : Nat), .slice A5 k5 cp5, .slice A9 n9 c9, .float .f64 r, mtp gm])
    (hr9 : PRow w9 w0.heap.size (.slice A9 n9 c9) (leftP ps S.T R.flatten ++ [gt])) (ho9 : ∀ b ∈ ownL (.slice A9 n9 c9), b ∈ ownL (.slice B ps.length c2) ∨ (w5.heap.size ≤ b ∧ b < w9.heap.size)) :
    IxAt At w0 gd gx r (laidX S R check ⟨n, l, t⟩ S.mem) D' E w9 ∧ Kept E w w9 := by
  have hlt := h1.lt
  have hlt5 := hd.lt
  have hB : ∀ b ∈ gx :: ownL (.slice B ps.length c2), b ∈ Gr := fun b hb => by
    rcases List.mem_cons.1 hb with e | k
    · rw [e]; exact hC.own
    · exact hC.rowOwn b k
  have lGr : ∀ b ∈ Gr, b < w.heap.size := fun b hb => hlt b (List.mem_append_right _ (List.mem_append_left _ hb))
  have hfar : ∀ b ∈ N ++ (Fm ++ (Gk ++ E)), b < w5.heap.size ∧ b ∉ gx :: ownL (.slice B ps.length c2) := fun b hb => by
    refine ⟨hlt5 b ?_, fun hm => ?_⟩
    · rcases List.mem_append.1 hb with k | k
      · exact List.mem_append_left _ k
      · rcases List.mem_append.1 k with k | k
        · exact List.mem_append_right _ (List.mem_append_left _ k)
        · exact List.mem_append_right _ (List.mem_append_right _ (List.mem_append_right _ k))
    · have hg := hB b hm
      rcases List.mem_append.1 hb with k | k
      · have := hN b k; have := lGr b hg; omega
      · rcases List.mem_append.1 k with k | k
        · exact (h3 b k).1 hg
        · rcases List.mem_append.1 k with k | k
          · exact (h4 b hg).1 k
          · exact (h4 b hg).2 k
  have hK9 : Kept (N ++ (Fm ++ (Gk ++ E))) w5 w9 := Kept.of_touch ht hfar
  have hz5 := hk.size
  -- the new footprint
  have hnewr : ∀ b ∈ gx :: ownL (.slice A9 n9 c9), b ∈ Gr ∨ (w5.heap.size ≤ b ∧ b < w9.heap.size) := fun b hb => by
    rcases List.mem_cons.1 hb with e | k
    · rw [e]; exact Or.inl hC.own
    · rcases ho9 b k with q | q
      · exact Or.inl (hC.rowOwn b q)
      · exact Or.inr q
  have hkk : ∀ b ∈ H ++ (G2 ++ Gk), b ∈ N ∨ b ∈ Gk := fun b hb => by
    rcases List.mem_append.1 hb with k | k
    · exact Or.inl (hH b k)
    · rcases List.mem_append.1 k with k | k
      · exact Or.inl (hG2 b k)
      · exact Or.inr k
  have hds : DS At w0 gd D' (Fm ++ ((gx :: ownL (.slice A9 n9 c9)) ++ ((H ++ (G2 ++ Gk)) ++ E))) w9 := hd.turn api ht (fun b hb => ⟨List.mem_append_right _ (List.mem_append_right _ (List.mem_append_left _ (hB b hb))), h6 b (List.mem_append_right _ (hB b hb))⟩) (fun b hb => by
    rcases List.mem_append.1 hb with k | k
    · exact Or.inl (List.mem_append_right _ (List.mem_append_left _ k))
    · rcases List.mem_append.1 k with k | k
      · rcases hnewr b k with q | q
        · exact Or.inl (List.mem_append_right _ (List.mem_append_right _ (List.mem_append_left _ q)))
        · exact Or.inr q
      · rcases List.mem_append.1 k with k | k
        · rcases hkk b k with q | q
          · exact Or.inl (List.mem_append_left _ q)
          · exact Or.inl (List.mem_append_right _ (List.mem_append_right _ (List.mem_append_right _ (List.mem_append_left _ q))))
        · exact Or.inl (List.mem_append_right _ (List.mem_append_right _ (List.mem_append_right _ (List.mem_append_right _ k)))))
  have kG2 : Kept G2 w5 w9 := hK9.less (fun b hb => List.mem_append_left _ (hG2 b hb))
  have kH : Kept H w5 w9 := hK9.less (fun b hb => List.mem_append_left _ (hH b hb))
  have kGk : Kept Gk w w9 := (hk.less (fun b hb => List.mem_append_right _ (List.mem_append_right _ (List.mem_append_left _ hb)))).trans (hK9.less (fun b hb => List.mem_append_right _ (List.mem_append_right _ (List.mem_append_left _ hb))))
  have kFm : Kept Fm w w9 := (hk.less (fun b hb => List.mem_append_left _ hb)).trans (hK9.less (fun b hb => List.mem_append_right _ (List.mem_append_left _ hb)))
  have hts := (hC.tabs.keep kGk (fun b hb => hb)).filter (fun t => decide ((t.n : Int) ∈ R.flatten))
  have hts2 := hts.snoc (t := ⟨n, l, t⟩) (hp.keep kH (fun b hb => hb))
  refine ⟨⟨Fm, gx :: ownL (.slice A9 n9 c9), H ++ (G2 ++ Gk), hds, ⟨gm, _, _, leftP ps S.T R.flatten ++ [gt], hb9, (hlv.step kG2).more (fun b hb => List.mem_append_right _ (List.mem_append_left _ hb)), hr9, hts2.more (fun b hb => ?_), hC.mem.keep kFm (fun b hb => hb), List.mem_cons_self, fun b hb => List.mem_cons_of_mem _ hb, hC.low⟩, fun b hb => ⟨fun hm => ?_, fun hm => ?_, (h3 b hb).2.2⟩, fun b hb => ⟨fun hm => ?_, fun hm => ?_⟩, fun b hb hm => ?_, fun b hb => ?_⟩, (hk.less (fun b hb => List.mem_append_right _ (List.mem_append_right _ (List.mem_append_right _ hb)))).trans (hK9.less (fun b hb => List.mem_append_right _ (List.mem_append_right _ (List.mem_append_right _ hb))))⟩
  · rcases List.mem_append.1 hb with k | k
    · exact List.mem_append_left _ k
    · exact List.mem_append_right _ (List.mem_append_right _ k)
  · have := hlt b (List.mem_append_left _ hb)
    rcases hnewr b hm with q | q
    · exact (h3 b hb).1 q
    · omega
  · have := hlt b (List.mem_append_left _ hb)
    rcases hkk b hm with q | q
    · have := hN b q; omega
    · exact (h3 b hb).2.1 q
  · rcases hnewr b hb with q | q
    · have := lGr b q
      rcases hkk b hm with p | p
      · have := hN b p; omega
      · exact (h4 b q).1 p
    · rcases hkk b hm with p | p
      · have := hlt5 b (List.mem_append_left _ p); omega
      · have := hlt b (List.mem_append_right _ (List.mem_append_right _ (List.mem_append_left _ p))); omega
  · rcases hnewr b hb with q | q
    · exact (h4 b q).2 hm
    · have := hlt b (List.mem_append_right _ (List.mem_append_right _ (List.mem_append_right _ hm))); omega
  · rcases hkk b hb with p | p
    · have := hN b p
      have := hlt b (List.mem_append_right _ (List.mem_append_right _ (List.mem_append_right _ hm))); omega
    · exact h5 b p hm
  · rcases List.mem_append.1 hb with k | k
    · exact h6 b (List.mem_append_left _ k)
    · rcases hnewr b k with q | q
      · exact h6 b (List.mem_append_right _ q)
      · have := h1.kept.size; omega
end
end Go.Proofs.YtcpfkaehefcakaaGreat
