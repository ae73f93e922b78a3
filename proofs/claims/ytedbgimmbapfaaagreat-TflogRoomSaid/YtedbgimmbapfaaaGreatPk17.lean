/- TfLoad, TfOpened, TfRead, TfFiles -/
import Derived.Test.YtedbgimmbapfaaaGreatPk16
import Derived.Test.YtedbgimmbapfaaaGreatPk12
import Derived.Test.YtedbgimmbapfaaaGreatPk13
import Derived.Test.YtedbgimmbapfaaaGreatPk10
import Derived.Test.YtedbgimmbapfaaaGreatPk05
/- TfLoad -/
namespace Go.Proofs.YtedbgimmbapfaaaGreat
open Go.RowKit Go.Shelf
set_option linter.unusedVariables false

theorem whE_le (s : ByteArray) : ∀ (n k : Nat), k ≤ s.size → whE s n k ≤ s.size
  | 0, k, h => h
  | n + 1, k, h => by
    unfold whE
    split
    · exact whE_le s n _ (getN_le _ _)
    · exact h
theorem scE_le (s : ByteArray) (n : Int) : scE s n ≤ s.size := by
  unfold scE wlE
  split
  · split
    · rename_i h
      exact whE_le s _ _ (by omega)
    · exact Nat.zero_le _
  · exact Nat.zero_le _
theorem loadK_err {k n : Nat} {D : DiskS} {L : LogS} (h : (rdC D (nmC n)).2.1 ≠ 0) : loadK (k + 1) n D L = ((rdC D (nmC n)).2.1, (rdC D (nmC n)).2.2, L) := by unfold loadK; rw [if_pos h]
theorem loadK_bad {k n : Nat} {D : DiskS} {L : LogS} (h : (rdC D (nmC n)).2.1 = 0) (h2 : scOk (rdC D (nmC n)).1 (n : Nat) = false) : loadK (k + 1) n D L = (63, (rdC D (nmC n)).2.2, L) := by
  unfold loadK; rw [if_neg (by simp [h]), if_pos h2]
theorem loadK_last {n : Nat} {D : DiskS} {L : LogS} (h : (rdC D (nmC n)).2.1 = 0) (h2 : scOk (rdC D (nmC n)).1 (n : Nat) = true) : loadK (0 + 1) n D L = mendT (rdC D (nmC n)).2.2 L n (rdC D (nmC n)).1 (scE (rdC D (nmC n)).1 (n : Nat)) := by
  unfold loadK; rw [if_neg (by simp [h]), if_neg (by simp [h2]), if_pos rfl]
theorem loadK_torn {k n : Nat} {D : DiskS} {L : LogS} (hk : k ≠ 0) (h : (rdC D (nmC n)).2.1 = 0) (h2 : scOk (rdC D (nmC n)).1 (n : Nat) = true) (h3 : (rdC D (nmC n)).1.size < 12 ∨ scE (rdC D (nmC n)).1 (n : Nat) < (rdC D (nmC n)).1.size) : loadK (k + 1) n D L = (63, (rdC D (nmC n)).2.2, L) := by
  unfold loadK; rw [if_neg (by simp [h]), if_neg (by simp [h2]), if_neg hk, if_pos h3]
theorem loadK_next {k n : Nat} {D : DiskS} {L : LogS} (hk : k ≠ 0) (h : (rdC D (nmC n)).2.1 = 0) (h2 : scOk (rdC D (nmC n)).1 (n : Nat) = true) (h3 : ¬ ((rdC D (nmC n)).1.size < 12 ∨ scE (rdC D (nmC n)).1 (n : Nat) < (rdC D (nmC n)).1.size)) : loadK (k + 1) n D L = loadK k (n + 1) (rdC D (nmC n)).2.2 { L with endp := 4096 * n + scE (rdC D (nmC n)).1 (n : Nat) } := by
  rw [loadK, if_neg (by simp [h]), if_neg (by simp [h2]), if_neg hk, if_neg h3]
section
variable {At : Lies} (api : DiskApi At) (nap : NamesApi) (cap : ChunksApi) {c : Ctx} {gl gd : Nat} {L L' : LogS} {D D' : DiskS} {w w' : World}
include api nap cap
set_option maxRecDepth 100000 in
set_option maxHeartbeats 4000000 in
theorem load_run (h : TSt At c gl gd L D w) (ok : WfP D) (hct : D.count ≤ 1000000000) (hc : L.chunks ≤ 200) : Calls Tryz.prog 40 #[ptr gl] w (TRet At c gl gd (err (loadT D L).1) (loadT D L).2.2 (loadT D L).2.1) := by
  have H0 := Lib.hid h
  have c3 := h.cells.2.2.2.1
  unfold loadT
  have OK := Lib.hid ok
  have HCT := Lib.hid hct
  have HC := Lib.hid hc
  obtain ⟨n, hn⟩ : ∃ n : Int, (L.chunks : Int) = n := ⟨_, rfl⟩
  rw [hn] at c3
  have HN0 := Lib.hid hn
  clear h ok hct hc hn
  go_enter Tryz.func40, Tryz.ntmps40
  go_wp2
  go_loopw [13] (fun i wr => ∃ (k : Nat) (Dk : DiskS) (Lk : LogS), i = .int .i64 k ∧ TSt At c gl gd Lk Dk wr ∧ WfP Dk ∧ Dk.count ≤ 1000000000 + k ∧ Lk.chunks = L.chunks ∧ loadK (L.chunks - k) k Dk Lk = loadK L.chunks 0 D L ∧ k ≤ L.chunks) (fun i _ => L.chunks - (intOf i).toNat)
  case atStart => exact ⟨0, D, L, rfl, H0.out, OK.out, by have := HCT.out; omega, rfl, rfl, Nat.zero_le _⟩
  case round =>
    obtain ⟨k, Dk, Lk, rfl, hT, hok, hct, hlc, hk, hkn⟩ := hrel
    have HT := Lib.hid hT
    have HK := Lib.hid hk
    have HOK := Lib.hid hok
    have HCK := Lib.hid hct
    have HLC := Lib.hid hlc
    have HN := Lib.hid (show (Lk.chunks : Int) = n by rw [hlc]; exact HN0.out)
    have HKN := Lib.hid hkn
    clear hT hk hok hct hlc
    by_cases hlt : k < L.chunks
    · have hck := HC.out
      have l1 : decide ((k : Int) < n) = true := decide_eq_true (by have := HN0.out; omega)
      have hw9 : IntKind.i64.wrap ((k : Int) + 1) = (k : Int) + 1 := IntWalk.i64_in _ (by omega)
      have hw8 : IntKind.i64.wrap (n - 1) = n - 1 := IntWalk.i64_in _ (by have := HN0.out; omega)
      have hRd := Lib.hid (rd_run api nap HT.out HOK.out (by have := HCK.out; omega) k (by omega))
      have hsz := rdC_size (n := nmC k) HOK.out
      have HW := Lib.hid (wp_rdC HOK.out (nmC k))
      have HCN := Lib.hid (rdC_count Dk (nmC k))
      have efuel : L.chunks - k = (L.chunks - (k + 1)) + 1 := by omega
      have HLT := Lib.hid hlt
      clear hkn
      by_cases hE : (rdC Dk (nmC k)).2.1 = 0
      case neg =>
        have HE := Lib.hid (loadK_err (k := L.chunks - (k + 1)) (L := Lk) hE)
        rw [← efuel] at HE
        have HF := Lib.hid (HE.out.symm.trans HK.out)
        have t1 : (((rdC Dk (nmC k)).2.1 : Int) != 0) = true := by simp; omega
        generalize rdC Dk (nmC k) = R at *
        obtain ⟨s, y, D2⟩ := R
        dsimp only at *
        clear hlt hck hsz efuel hE HE HW HCN
        go_wp2_with fail
        refine hRd.out.mono ?_
        rintro e w2 ⟨rfl, h2⟩
        have H2 := Lib.hid h2
        clear h2
        go_wp2
        go_ret
        rw [← HF.out]
        exact ⟨rfl, H2.out⟩
      have hSc := Lib.hid fun (W : World) => cap.scan (rdC Dk (nmC k)).1 (k : Nat) W (by omega) (wf_nat (by omega))
      unfold Scanned at hSc
      have hel := scE_le (rdC Dk (nmC k)).1 (k : Nat)
      rw [hE] at hRd
      cases hso : scOk (rdC Dk (nmC k)).1 (k : Nat)
      case false =>
        have HE := Lib.hid (loadK_bad (k := L.chunks - (k + 1)) (L := Lk) hE hso)
        rw [← efuel] at HE
        have HF := Lib.hid (HE.out.symm.trans HK.out)
        rw [hso] at hSc
        generalize rdC Dk (nmC k) = R at *
        obtain ⟨s, y, D2⟩ := R
        dsimp only at *
        generalize scE s (k : Nat) = en at *
        generalize scL s (k : Nat) = pl at *
        clear hlt hck hsz efuel hE HE HW HCN hso hel
        go_wp2_with fail
        refine hRd.out.mono ?_
        rintro e w2 ⟨rfl, h2⟩
        have H2 := Lib.hid h2
        clear h2
        go_wp2_with fail
        refine (hSc.out _).mono ?_
        rintro e w3 ⟨u, rfl, hi, hb⟩
        obtain ⟨A, off, cp, rfl, -, -⟩ := hi.cell
        have H3 := Lib.hid (H2.out.below api hb)
        have d3 := H3.out.cells.2.2.2.1
        rw [HN.out] at d3
        have f4 := H3.out.frozen 4
        have d4 := H3.out.cells.2.2.2.2.1
        clear hb hi
        go_wp2
        go_ret
        rw [← HF.out]
        exact ⟨rfl, H3.out⟩
      rw [hso] at hSc
      by_cases hlast : k + 1 = L.chunks
      · have e2 : L.chunks - (k + 1) = 0 := by omega
        have HE := Lib.hid (loadK_last (L := Lk) hE hso)
        rw [efuel, e2] at HK
        have HF := Lib.hid (HE.out.symm.trans HK.out)
        have t2 : ((k : Int) == n - 1) = true := by simp; have := HN0.out; omega
        have hM := Lib.hid fun (W : World) (hT : TSt At c gl gd Lk (rdC Dk (nmC k)).2.2 W) => mend_run api nap hT HW.out k (scE (rdC Dk (nmC k)).1 (k : Nat)) (s := (rdC Dk (nmC k)).1) (by omega) hsz (by omega) (Or.inl hel)
        generalize mendT (rdC Dk (nmC k)).2.2 Lk k (rdC Dk (nmC k)).1 (scE (rdC Dk (nmC k)).1 (k : Nat)) = mm at *
        generalize rdC Dk (nmC k) = R at *
        obtain ⟨s, y, D2⟩ := R
        dsimp only at *
        generalize scE s (k : Nat) = en at *
        generalize scL s (k : Nat) = pl at *
        clear hlt hck hsz efuel hE HE HW HCN hso hel hlast e2
        go_wp2_with fail
        refine hRd.out.mono ?_
        rintro e w2 ⟨rfl, h2⟩
        have H2 := Lib.hid h2
        clear h2
        go_wp2_with fail
        refine (hSc.out _).mono ?_
        rintro e w3 ⟨u, rfl, hi, hb⟩
        obtain ⟨A, off, cp, rfl, -, -⟩ := hi.cell
        have H3 := Lib.hid (H2.out.below api hb)
        have d3 := H3.out.cells.2.2.2.1
        rw [HN.out] at d3
        have f4 := H3.out.frozen 4
        have d4 := H3.out.cells.2.2.2.2.1
        clear hb hi
        go_wp2_with fail
        refine (hM.out _ H3.out).mono ?_
        rintro e w4 ⟨rfl, h4⟩
        have H4 := Lib.hid h4
        clear h4
        go_wp2
        go_ret
        rw [← HF.out]
        exact ⟨rfl, H4.out⟩
      have e2 : L.chunks - (k + 1) ≠ 0 := by omega
      have t2 : ((k : Int) == n - 1) = false := by simp; have := HN0.out; omega
      by_cases h12 : (rdC Dk (nmC k)).1.size < 12
      · have HE := Lib.hid (loadK_torn (L := Lk) e2 hE hso (Or.inl h12))
        rw [← efuel] at HE
        have HF := Lib.hid (HE.out.symm.trans HK.out)
        have t3 : decide (((rdC Dk (nmC k)).1.size : Int) < 12) = true := decide_eq_true (by omega)
        generalize rdC Dk (nmC k) = R at *
        obtain ⟨s, y, D2⟩ := R
        dsimp only at *
        generalize scE s (k : Nat) = en at *
        generalize scL s (k : Nat) = pl at *
        clear hlt hck hsz efuel hE HE HW HCN hso hel hlast e2 h12
        go_wp2_with fail
        refine hRd.out.mono ?_
        rintro e w2 ⟨rfl, h2⟩
        have H2 := Lib.hid h2
        clear h2
        go_wp2_with fail
        refine (hSc.out _).mono ?_
        rintro e w3 ⟨u, rfl, hi, hb⟩
        obtain ⟨A, off, cp, rfl, -, -⟩ := hi.cell
        have H3 := Lib.hid (H2.out.below api hb)
        have d3 := H3.out.cells.2.2.2.1
        rw [HN.out] at d3
        have f4 := H3.out.frozen 4
        have d4 := H3.out.cells.2.2.2.2.1
        clear hb hi
        go_wp2
        go_ret
        rw [← HF.out]
        exact ⟨rfl, H3.out⟩
      have t3 : decide (((rdC Dk (nmC k)).1.size : Int) < 12) = false := decide_eq_false (by omega)
      by_cases h13 : scE (rdC Dk (nmC k)).1 (k : Nat) < (rdC Dk (nmC k)).1.size
      · have HE := Lib.hid (loadK_torn (L := Lk) e2 hE hso (Or.inr h13))
        rw [← efuel] at HE
        have HF := Lib.hid (HE.out.symm.trans HK.out)
        have t4 : decide (scE (rdC Dk (nmC k)).1 (k : Nat) < (rdC Dk (nmC k)).1.size) = true := decide_eq_true h13
        have t5 : decide ((scE (rdC Dk (nmC k)).1 (k : Nat) : Int) < ((rdC Dk (nmC k)).1.size : Int)) = true := decide_eq_true (by omega)
        generalize rdC Dk (nmC k) = R at *
        obtain ⟨s, y, D2⟩ := R
        dsimp only at *
        generalize scE s (k : Nat) = en at *
        generalize scL s (k : Nat) = pl at *
        clear hlt hck hsz efuel hE HE HW HCN hso hel hlast e2 h12 h13
        go_wp2_with fail
        refine hRd.out.mono ?_
        rintro e w2 ⟨rfl, h2⟩
        have H2 := Lib.hid h2
        clear h2
        go_wp2_with fail
        refine (hSc.out _).mono ?_
        rintro e w3 ⟨u, rfl, hi, hb⟩
        obtain ⟨A, off, cp, rfl, -, -⟩ := hi.cell
        have H3 := Lib.hid (H2.out.below api hb)
        have d3 := H3.out.cells.2.2.2.1
        rw [HN.out] at d3
        have f4 := H3.out.frozen 4
        have d4 := H3.out.cells.2.2.2.2.1
        clear hb hi
        go_wp2
        go_ret
        rw [← HF.out]
        exact ⟨rfl, H3.out⟩
      have t4 : decide (scE (rdC Dk (nmC k)).1 (k : Nat) < (rdC Dk (nmC k)).1.size) = false := decide_eq_false h13
      have t5 : decide ((scE (rdC Dk (nmC k)).1 (k : Nat) : Int) < ((rdC Dk (nmC k)).1.size : Int)) = false := decide_eq_false (by omega)
      have HE := Lib.hid (loadK_next (L := Lk) e2 hE hso (by omega))
      rw [← efuel] at HE
      have HF := Lib.hid (HE.out.symm.trans HK.out)
      have hFr := Lib.hid fun (W : World) => front_run k W (by omega)
      have hw7 : IntKind.i64.wrap ((k : Int) * 4096 + (scE (rdC Dk (nmC k)).1 (k : Nat) : Nat)) = (k : Int) * 4096 + (scE (rdC Dk (nmC k)).1 (k : Nat) : Nat) := IntWalk.i64_in _ (by omega)
      have eE := Lib.hid (show ((4096 * k + scE (rdC Dk (nmC k)).1 (k : Nat) : Nat) : Int) = (k : Int) * 4096 + (scE (rdC Dk (nmC k)).1 (k : Nat) : Nat) by omega)
      generalize rdC Dk (nmC k) = R at *
      obtain ⟨s, y, D2⟩ := R
      dsimp only at *
      generalize scE s (k : Nat) = en at *
      generalize scL s (k : Nat) = pl at *
      clear hlt hck hsz efuel hE HE hso hel hlast e2 h12 h13
      go_wp2_with fail
      refine hRd.out.mono ?_
      rintro e w2 ⟨rfl, h2⟩
      have H2 := Lib.hid h2
      clear h2
      go_wp2_with fail
      refine (hSc.out _).mono ?_
      rintro e w3 ⟨u, rfl, hi, hb⟩
      obtain ⟨A, off, cp, rfl, -, -⟩ := hi.cell
      have H3 := Lib.hid (H2.out.below api hb)
      have d3 := H3.out.cells.2.2.2.1
      rw [HN.out] at d3
      have f4 := H3.out.frozen 4
      have d4 := H3.out.cells.2.2.2.2.1
      clear hb hi
      go_wp2_with fail
      refine (hFr.out _).mono ?_
      rintro e w4 ⟨rfl, rfl⟩
      have h5 := H3.out.putEnd api (4096 * k + en)
      rw [eE.out] at h5
      have H5 := Lib.hid h5
      clear h5
      go_wp2
      exact ⟨⟨k + 1, D2, _, by go_num, H5.out, HW.out, by have := HCK.out; have := HCN.out; omega, HLC.out, HF.out, by have := HLT.out; omega⟩, by simp [intOf]; have := HLT.out; omega⟩
    · obtain rfl : k = L.chunks := by omega
      have l1 : decide ((L.chunks : Int) < n) = false := decide_eq_false (by have := HN0.out; omega)
      have e0 : L.chunks - L.chunks = 0 := Nat.sub_self _
      have HF := Lib.hid (show (0, Dk, Lk) = loadK L.chunks 0 D L from by rw [← HK.out, e0]; rfl)
      clear hlt hkn e0
      generalize (L.chunks : Int) = q at *
      go_wp2
      go_ret
      rw [← HF.out]
      exact ⟨rfl, HT.out⟩
end
end Go.Proofs.YtedbgimmbapfaaaGreat

/- TfOpened -/
namespace Go.Proofs.YtedbgimmbapfaaaGreat
open Go.RowKit Go.Shelf
set_option linter.unusedVariables false

/-- A disk alone, with what a guest has beside it. -/
def DSt (At : Lies) (c : Ctx) (gd : Nat) (D : DiskS) (w : World) : Prop :=
  ∃ F, At w c.base gd F D ∧ (∀ x ∈ F, x ∈ c.F0 ∨ c.w0.heap.size ≤ x) ∧ Touch c.F0 c.w0 w ∧ c.wG.heap.size ≤ w.heap.size ∧ ∀ b ∈ c.G, c.w0.heap.size ≤ b ∧ b < c.wG.heap.size ∧ b ∉ F ∧ w.heap[b]? = c.wG.heap[b]?
theorem cntL_le : ∀ (l : List ByteArray) (c : Nat), c ≤ 200 → (cntL l c).2 ≤ 200
  | [], c, h => h
  | s :: r, c, h => by
    unfold cntL
    split
    · split
      · exact h
      · exact cntL_le r (c + 1) (by omega)
    · exact cntL_le r c h
theorem wp_sweep {D : DiskS} (h : WfP D) : WfP (sweepT D).2 := by
  unfold sweepT
  split <;> exact wp_delete h _
section
variable {At : Lies} {c : Ctx} {gl gd : Nat} {L L' : LogS} {D D' : DiskS} {w w' : World}
theorem DSt.touch (api : DiskApi At) (h : DSt At c gd D w) (ht : Touch [] w w') : DSt At c gd D w' := by
  obtain ⟨F, h1, h4, h5, h6, h7⟩ := h
  refine ⟨F, api.touch h1 ht (fun _ _ => by simp), h4, h5.trans ht (fun x hx => by cases hx), Nat.le_trans h6 ht.size, fun b hb => ?_⟩
  obtain ⟨k1, k2, k3, k5⟩ := h7 b hb
  exact ⟨k1, k2, k3, (ht.block b (by omega) (by simp)).trans k5⟩
/-- The log goes; its block is a guest's, or nobody's. -/
theorem TSt.drop (h : TSt At c gl gd L D w) (hl : c.w0.heap.size ≤ gl) : DSt At c gd D w := by
  obtain ⟨F, h1, h2, h3, h4, h5, h6, h7⟩ := h
  refine ⟨F, h1, h4, h5.more (fun x hx => ?_), h6, fun b hb => ?_⟩
  · rcases List.mem_cons.1 hx with rfl | hx
    · exact Or.inr hl
    · exact Or.inl hx
  · obtain ⟨k1, k2, k3, k4, k5⟩ := h7 b hb
    exact ⟨k1, k2, k3, k5⟩
theorem TSt.leave (h : TSt At c gl gd L D w) (hl : c.w0.heap.size ≤ gl) : DSt At { c with G := gl :: c.G, wG := w } gd D w := by
  obtain ⟨F, h1, h2, h3, h4, h5, h6, h7⟩ := h
  refine ⟨F, h1, h4, h5.more (fun x hx => ?_), Nat.le_refl _, fun b hb => ?_⟩
  · rcases List.mem_cons.1 hx with rfl | hx
    · exact Or.inr hl
    · exact Or.inl hx
  · rcases List.mem_cons.1 hb with rfl | hb
    · exact ⟨hl, h2.lt, h3, rfl⟩
    · obtain ⟨k1, k2, k3, k4, k5⟩ := h7 b hb
      exact ⟨k1, Nat.lt_of_lt_of_le k2 h6, k3, rfl⟩
theorem DSt.guest (h : DSt At c gd D w) {b : Nat} (hb : b ∈ c.G) : w.heap[b]? = c.wG.heap[b]? := by
  obtain ⟨F, h1, h4, h5, h6, h7⟩ := h
  exact (h7 b hb).2.2.2
/-- A new log's block. -/
theorem DSt.log (api : DiskApi At) (h : DSt At c gd D w) (L : LogS) : TSt At { c with m := .pointer none } w.heap.size gd L D (w.alloc (.cells (logCells (.pointer none) gd L) 35)) := by
  obtain ⟨F, h1, h4, h5, h6, h7⟩ := h
  have ht : Touch [] w (w.alloc (.cells (logCells (.pointer none) gd L) 35)) := (Touch.refl [] w).alloc _
  have hlow := api.low h1
  refine ⟨F, api.touch h1 ht (fun _ _ => by simp), Blok.new w _ _, fun hm => (by have := (hlow _ hm).2; omega), h4, (h5.trans ht (fun x hx => by cases hx)).more (fun x hx => Or.inl (List.mem_cons_of_mem _ hx)), Nat.le_trans h6 ht.size, fun b hb => ?_⟩
  obtain ⟨k1, k2, k3, k5⟩ := h7 b hb
  exact ⟨k1, k2, k3, Nat.ne_of_lt (Nat.lt_of_lt_of_le k2 h6), (ht.block b (Nat.lt_of_lt_of_le k2 h6) (by simp)).trans k5⟩
theorem TSt.names (api : DiskApi At) (h : TSt At c gl gd L D w) : ∀ f ∈ D.l, f.name.size ≤ maxLen := by
  obtain ⟨F, h1, _⟩ := h
  intro f hf
  have := (api.rise h1).2 f hf
  unfold nameB at this
  simp only [Bool.and_eq_true, decide_eq_true_eq] at this
  unfold maxLen
  omega
theorem TSt.putMade (api : DiskApi At) (h : TSt At c gl gd L D w) (v : Value) : TSt At { c with m := v } gl gd L D (w.setCell ⟨gl, 0, none⟩ v) := by
  obtain ⟨F, h1, h2, h3, h4, h5, h6, h7⟩ := h
  have ht : Touch [gl] w (w.setCell ⟨gl, 0, none⟩ v) := (Touch.refl [gl] w).setCell (p := ⟨gl, 0, none⟩) (Or.inl (List.mem_singleton.2 rfl)) _
  refine ⟨F, api.touch h1 ht (fun x hx hm => h3 (by rw [← List.mem_singleton.1 hm]; exact hx)), h2.put 0 v, h3, h4, h5.trans ht (fun x hx => Or.inl (by rw [List.mem_singleton.1 hx]; exact List.mem_cons_self)), Nat.le_trans h6 ht.size, fun b hb => ?_⟩
  obtain ⟨k1, k2, k3, k4, k5⟩ := h7 b hb
  exact ⟨k1, k2, k3, k4, (ht.block b (by omega) (by simpa using k4)).trans k5⟩
end
def OpenEnd (At : Lies) (c : Ctx) (gd : Nat) (w : World) (r : Nat × DiskS × LogS) (e : Ending) (w' : World) : Prop :=
  (r.1 = 0 ∧ ∃ gl, e = .returned (.tuple #[ptr gl, .int .i64 0]) ∧ w.heap.size ≤ gl ∧ TSt At { c with m := ptr gl } gl gd { r.2.2 with sure := r.2.2.endp } r.2.1 w') ∨
  (r.1 ≠ 0 ∧ e = .returned (.tuple #[.pointer none, err r.1]) ∧ DSt At c gd r.2.1 w')
section
variable {At : Lies} (api : DiskApi At) (nap : NamesApi) (cap : ChunksApi) {c : Ctx} {gl gd : Nat} {L L' : LogS} {D D' : DiskS} {w w' : World}
include api nap cap
theorem open_steps {B4 : Nat} (h : TSt At c gl gd ⟨D.starts, 0, 0, 0⟩ D w) (ok : WfP D) (hct : D.count ≤ 1000000000)
    (m4 : B4 ∈ c.G) (t4 : TypeId) (k4 : Blok c.wG B4 t4 #[.func (.func 38) #[ptr gl] #[], .func (.func 39) #[ptr gl] #[], .func (.func 40) #[ptr gl] #[]]) :
    Calls Tryz.prog 37 #[.slice (some ⟨B4, 0, none⟩) 3 3] w (TRet At c gl gd (err (openT D).1) (openT D).2.2 (openT D).2.1) := by
  have ok1 : WfP (sweepT D).2 := wp_sweep ok
  have hct1 : (sweepT D).2.count ≤ 1000000000 := by
    have : (sweepT D).2.count = D.count := by
      unfold sweepT
      have : (deleteS D newB).2.count = D.count := by
        unfold deleteS doneS
        split
        · rfl
        · split
          · split <;> rfl
          · rfl
      split <;> exact this
    omega
  have H := steps_run (b := B4) (n := 3) (by omega) (pick4 (sweepT D).1 (countT (sweepT D).2 ⟨D.starts, 0, 0, 0⟩).1 (loadT (countT (sweepT D).2 ⟨D.starts, 0, 0, 0⟩).2.1 (countT (sweepT D).2 ⟨D.starts, 0, 0, 0⟩).2.2).1 0)
    (fun k W => TSt At c gl gd (pick4 ⟨D.starts, 0, 0, 0⟩ ⟨D.starts, 0, 0, 0⟩ (countT (sweepT D).2 ⟨D.starts, 0, 0, 0⟩).2.2 (loadT (countT (sweepT D).2 ⟨D.starts, 0, 0, 0⟩).2.1 (countT (sweepT D).2 ⟨D.starts, 0, 0, 0⟩).2.2).2.2 k) (pick4 D (sweepT D).2 (countT (sweepT D).2 ⟨D.starts, 0, 0, 0⟩).2.1 (loadT (countT (sweepT D).2 ⟨D.starts, 0, 0, 0⟩).2.1 (countT (sweepT D).2 ⟨D.starts, 0, 0, 0⟩).2.2).2.1 k) W)
    (pick4 38 39 40 0) (pick4 #[ptr gl] #[ptr gl] #[ptr gl] #[]) (pick4 #[] #[] #[] #[])
    (fun k hk => by
      match k, hk with
      | 0, _ => exact enters_of Tryz.func38 (by kernel_rfl) rfl
      | 1, _ => exact enters_of Tryz.func39 (by kernel_rfl) rfl
      | 2, _ => exact enters_of Tryz.func40 (by kernel_rfl) rfl)
    (fun k W hk hT => by
      have q := (hT.blok m4 k4).cell k
      match k, hk with
      | 0, _ => exact q
      | 1, _ => exact q
      | 2, _ => exact q)
    (fun k W hk hT => by
      match k, hk with
      | 0, _ => exact sweep_run api hT ok
      | 1, _ => exact count_run api nap hT ok1 rfl (hT.names api)
      | 2, _ => exact load_run api nap cap hT ok1 hct1 (cntL_le _ 0 (by omega))) w h
  refine H.mono ?_
  rintro e w' ⟨rfl, hT⟩
  unfold openT onD
  by_cases e0 : (sweepT D).1 = 0
  · by_cases e1 : (countT (sweepT D).2 ⟨D.starts, 0, 0, 0⟩).1 = 0
    · by_cases e2 : (loadT (countT (sweepT D).2 ⟨D.starts, 0, 0, 0⟩).2.1 (countT (sweepT D).2 ⟨D.starts, 0, 0, 0⟩).2.2).1 = 0
      · simp [stR, pick4, thenT, e0, e1, e2] at hT ⊢
        exact ⟨by simp, hT⟩
      · simp [stR, pick4, thenT, e0, e1, e2] at hT ⊢
        exact ⟨rfl, hT⟩
    · simp [stR, pick4, thenT, e0, e1] at hT ⊢
      exact ⟨rfl, hT⟩
  · simp [stR, pick4, thenT, e0] at hT ⊢
    exact ⟨rfl, hT⟩
set_option maxRecDepth 100000 in
theorem open_run (h : DSt At c gd D w) (ok : WfP D) (hct : D.count ≤ 1000000000) : Calls Tryz.prog 15 #[ptr gd] w (OpenEnd At c gd w (openT D)) := by
  have hS := Lib.hid (show Calls Tryz.prog 36 #[ptr gd] w fun e w' => e = .returned (.int .i64 (D.starts : Nat)) ∧ w = w' from api.startsq (Classical.choose_spec h).1)
  have h1 := h.log api ⟨D.starts, 0, 0, 0⟩
  have kg := h1.keep
  generalize hgl : w.heap.size = gl at *
  have ecs : logCells (.pointer none) gd ⟨D.starts, 0, 0, 0⟩ = #[.pointer none, ptr gd, .int .i64 (D.starts : Nat), .int .i64 0, .int .i64 0, .int .i64 0] := rfl
  rw [ecs] at h1 kg
  generalize hW1 : w.alloc (.cells #[.pointer none, ptr gd, .int .i64 (D.starts : Nat), .int .i64 0, .int .i64 0, .int .i64 0] 35) = W1 at *
  have h2 := h1.box api (.cells #[.func (.func 38) #[ptr gl] #[], .func (.func 39) #[ptr gl] #[], .func (.func 40) #[ptr gl] #[]] 31)
  have k4 := Blok.new W1 31 #[.func (.func 38) #[ptr gl] #[], .func (.func 39) #[ptr gl] #[], .func (.func 40) #[ptr gl] #[]]
  have kg := kg.alloc (.cells #[.func (.func 38) #[ptr gl] #[], .func (.func 39) #[ptr gl] #[], .func (.func 40) #[ptr gl] #[]] 31)
  have hmf : ∀ (fn : Fn) (first cap : Array Value) (w : World), (Instr.makeFunc fn first cap).run Tryz.prog w = .ok (.func fn first cap) w := fun _ _ _ _ => rfl
  have R := Lib.hid (open_steps api nap cap h2 ok hct (by simp) _ k4)
  have KG := Lib.hid kg
  have H1 := Lib.hid h1
  have hlow : c.w0.heap.size ≤ gl := by
    obtain ⟨F, a1, a2, a3, a4, a5⟩ := h
    rw [← hgl]
    exact a3.size
  have HLOW := Lib.hid hlow
  have HGL := Lib.hid hgl
  unfold OpenEnd
  by_cases he : (openT D).1 = 0
  · rw [he] at R
    have HE := Lib.hid he
    generalize openT D = r at *
    clear h ok hct h1 h2 k4 kg he ecs hlow
    go_enter Tryz.func15, Tryz.ntmps15
    go_wp2_with fail
    refine hS.out.mono ?_
    rintro e w2 ⟨rfl, rfl⟩
    go_wp2_with fail
    refine R.out.mono ?_
    rintro e w3 ⟨rfl, h3⟩
    have h4 := h3.undo H1.out KG.out rfl rfl rfl rfl (fun b hb => by simp [hb])
    obtain ⟨c0, _, _, _, c4, c5⟩ := h4.cells
    have f0 := h4.frozen 0
    have f5 := h4.frozen 5
    have H5 := Lib.hid ((h4.putMade api (ptr gl)).putSure api r.2.2.endp)
    clear h3 h4
    go_wp2
    go_ret2
    exact Or.inl ⟨HE.out, gl, rfl, Nat.le_of_eq HGL.out, H5.out⟩
  · have t : (((openT D).1 : Int) != 0) = true := by simp; omega
    have HE := Lib.hid he
    generalize openT D = r at *
    clear h ok hct h1 h2 k4 kg he ecs hlow
    go_enter Tryz.func15, Tryz.ntmps15
    go_wp2_with fail
    refine hS.out.mono ?_
    rintro e w2 ⟨rfl, rfl⟩
    go_wp2_with fail
    refine R.out.mono ?_
    rintro e w3 ⟨rfl, h3⟩
    have h4 := h3.undo H1.out KG.out rfl rfl rfl rfl (fun b hb => by simp [hb])
    have H5 := Lib.hid (h4.drop HLOW.out)
    clear h3 h4
    go_wp2
    go_ret2
    exact Or.inr ⟨HE.out, rfl, H5.out⟩
end
end Go.Proofs.YtedbgimmbapfaaaGreat

/- TfRead -/
namespace Go.Proofs.YtedbgimmbapfaaaGreat
open Go.RowKit Go.Shelf
set_option linter.unusedVariables false

section
variable {At : Lies} (api : DiskApi At) (nap : NamesApi) {c : Ctx} {gl gd : Nat} {L L' : LogS} {D D' : DiskS} {w w' : World}
include api nap
abbrev ReadTo (At : Lies) (c : Ctx) (gl gd : Nat) (L : LogS) (r : ByteArray × Nat × DiskS) : Ending → World → Prop := TRet At c gl gd (.tuple #[.string r.1, err r.2.1]) L r.2.2
omit nap in
omit nap in
set_option maxRecDepth 100000 in
set_option maxHeartbeats 2000000 in
theorem tread_out (hm : c.m = ptr gl) (h : TSt At c gl gd L D w) (pos : Int) (hw : (Lit.int .i64 pos).wf = true) (hc : L.chunks ≤ 200) (hp : pos < 0 ∨ (L.chunks : Int) ≤ pos / 4096 ∨ pos % 4096 < 12) (hr0 : readyT D L = 0) : Calls Tryz.prog 8 #[ptr gl, .int .i64 pos] w (ReadTo At c gl gd L (ByteArray.empty, 4, D)) := by
  have hr := Lib.hid (tready_run api hm h)
  rw [hr0] at hr
  have bb := bounds_i64 hw
  rcases (show pos < 0 ∨ 0 ≤ pos by omega) with hneg | hpos
  · have t1 : decide (pos < 0) = true := decide_eq_true hneg
    clear hp h hm hr0 hc
    go_enter Tryz.func8, Tryz.ntmps8
    go_wp2_with fail
    refine hr.out.mono ?_
    rintro e w1 ⟨rfl, h1⟩
    have H1 := Lib.hid h1
    clear h1
    go_wp2
    go_ret2
    exact ⟨rfl, H1.out⟩
  · obtain ⟨p, rfl⟩ : ∃ p : Nat, pos = p := ⟨pos.toNat, by omega⟩
    have t1 : decide ((p : Int) < 0) = false := decide_eq_false (by omega)
    have e1 : (p : Int).tdiv 4096 = ((p / 4096 : Nat) : Int) := by rw [Int.tdiv_eq_ediv_of_nonneg (by omega)]; omega
    have e2 : (p : Int).tmod 4096 = ((p % 4096 : Nat) : Int) := by rw [Int.tmod_eq_emod_of_nonneg (by omega)]; omega
    have hw1 : IntKind.i64.wrap ((p / 4096 : Nat) : Int) = ((p / 4096 : Nat) : Int) := IntWalk.i64_in _ (by omega)
    by_cases hq : L.chunks ≤ p / 4096
    · have t2 : decide ((L.chunks : Int) ≤ ((p / 4096 : Nat) : Int)) = true := decide_eq_true (by omega)
      generalize p / 4096 = q at *
      generalize p % 4096 = a at *
      have HM := Lib.hid hm
      generalize hn : (L.chunks : Int) = n at *
      have HN := Lib.hid hn
      clear hp h hm hr0 hq bb hw hc hpos
      go_enter Tryz.func8, Tryz.ntmps8
      go_wp2_with fail
      refine hr.out.mono ?_
      rintro e w1 ⟨rfl, h1⟩
      have c3 := h1.cells.2.2.2.1
      rw [HN.out] at c3
      have H1 := Lib.hid h1
      clear h1
      go_wp2
      go_ret2
      exact ⟨rfl, H1.out⟩
    · have t2 : decide ((L.chunks : Int) ≤ ((p / 4096 : Nat) : Int)) = false := decide_eq_false (by omega)
      have t3 : decide (((p % 4096 : Nat) : Int) < 12) = true := decide_eq_true (by omega)
      generalize p / 4096 = q at *
      generalize p % 4096 = a at *
      have HM := Lib.hid hm
      generalize hn : (L.chunks : Int) = n at *
      have HN := Lib.hid hn
      clear hp h hm hr0 hq bb hw hc hpos
      go_enter Tryz.func8, Tryz.ntmps8
      go_wp2_with fail
      refine hr.out.mono ?_
      rintro e w1 ⟨rfl, h1⟩
      have c3 := h1.cells.2.2.2.1
      rw [HN.out] at c3
      have H1 := Lib.hid h1
      clear h1
      go_wp2
      go_ret2
      exact ⟨rfl, H1.out⟩
set_option maxRecDepth 100000 in
set_option maxHeartbeats 1600000 in
theorem tread_in (hm : c.m = ptr gl) (h : TSt At c gl gd L D w) (ok : WfP D) (hct : D.count ≤ 1000000000) (p : Nat) (hw : (Lit.int .i64 (p : Nat)).wf = true) (hc : L.chunks ≤ 200) (hp1 : p / 4096 < L.chunks) (hp2 : 12 ≤ p % 4096) (hr0 : readyT D L = 0) : Calls Tryz.prog 8 #[ptr gl, .int .i64 (p : Nat)] w (ReadTo At c gl gd L (readC D (nmC (p / 4096)) (p % 4096))) := by
  have hr := Lib.hid (tready_run api hm h)
  rw [hr0] at hr
  have bb := bounds_i64 hw
  have t1 : decide ((p : Int) < 0) = false := decide_eq_false (by omega)
  have e1 : (p : Int).tdiv 4096 = ((p / 4096 : Nat) : Int) := by rw [Int.tdiv_eq_ediv_of_nonneg (by omega)]; omega
  have e2 : (p : Int).tmod 4096 = ((p % 4096 : Nat) : Int) := by rw [Int.tmod_eq_emod_of_nonneg (by omega)]; omega
  have hw1 : IntKind.i64.wrap ((p / 4096 : Nat) : Int) = ((p / 4096 : Nat) : Int) := IntWalk.i64_in _ (by omega)
  have t2 : decide ((L.chunks : Int) ≤ ((p / 4096 : Nat) : Int)) = false := decide_eq_false (by omega)
  have t3 : decide (((p % 4096 : Nat) : Int) < 12) = false := decide_eq_false (by omega)
  have hal : p % 4096 < 4096 := Nat.mod_lt _ (by omega)
  have hql : p / 4096 ≤ 999999 := by omega
  generalize p / 4096 = q at *
  generalize p % 4096 = a at *
  generalize hn : (L.chunks : Int) = n at *
  have HN := Lib.hid hn
  have hz := sizeS_le ok (nmC q)
  have hN := Lib.hid fun W => chunk_nm nap q W hql
  have hNZ := nmC_le hql
  have hS := Lib.hid fun (W : World) (hT : TSt At c gl gd L D W) => (show Calls Tryz.prog 26 #[ptr gd, .string (nmC q)] W (TRet At c gl gd (.tuple #[.int .i64 ((sizeS D (nmC q)).1 : Nat), err (sizeS D (nmC q)).2]) L D) from hT.same (api.sizeq (nmC q) (Classical.choose_spec hT).1 ok.ok hNZ))
  generalize nmC q = nm at *
  have hR := Lib.hid fun (W : World) (hT : TSt At c gl gd L D W) => hT.disk api (fun F hF => api.read nm (a : Nat) 4 hF ok.ok (by omega) (wf_nat (by omega)) (by decide) hNZ)
  unfold readC
  by_cases hz2 : (sizeS D nm).2 = 0
  case neg =>
    rw [if_pos hz2]
    have t4 : (((sizeS D nm).2 : Int) != 0) = true := by simp; omega
    generalize (sizeS D nm).2 = y at *
    generalize (sizeS D nm).1 = z at *
    clear h ok hct hc hp1 hp2 hr0 bb hw hn hm hz hz2 hal hql hNZ hR
    go_enter Tryz.func8, Tryz.ntmps8
    go_wp2_with fail
    refine hr.out.mono ?_
    rintro e w1 ⟨rfl, h1⟩
    have c3 := h1.cells.2.2.2.1
    rw [HN.out] at c3
    have H1 := Lib.hid h1
    clear h1
    go_wp2_with fail
    refine (hN.out _).mono ?_
    rintro e w2 ⟨rfl, hb⟩
    have h2 := H1.out.below api hb
    have d1 := h2.cells.2.1
    have H2 := Lib.hid h2
    clear hb h2
    go_wp2_with fail
    refine (hS.out _ H2.out).mono ?_
    rintro e w3 ⟨rfl, h3⟩
    have d3 := h3.cells.2.1
    have H3 := Lib.hid h3
    clear h3
    go_wp2
    go_ret2
    exact ⟨rfl, H3.out⟩
  rw [if_neg (by simp [hz2])]
  rw [hz2] at hS
  have b3 : IntKind.i64.wrap (((sizeS D nm).1 : Int) - (a : Nat)) = ((sizeS D nm).1 : Int) - (a : Nat) := IntWalk.i64_in _ (by omega)
  have b4 : IntKind.i64.wrap (((sizeS D nm).1 : Int) - (a : Nat) - 12) = ((sizeS D nm).1 : Int) - (a : Nat) - 12 := IntWalk.i64_in _ (by omega)
  by_cases hlt : (sizeS D nm).1 < a + 12
  · rw [if_pos hlt]
    have t4 : decide (((sizeS D nm).1 : Int) - (a : Nat) - 12 < 0) = true := decide_eq_true (by omega)
    generalize (sizeS D nm).1 = z at *
    clear h ok hct hc hp1 hp2 hr0 bb hw hn hm hz hz2 hal hql hNZ hR hlt
    go_enter Tryz.func8, Tryz.ntmps8
    go_wp2_with fail
    refine hr.out.mono ?_
    rintro e w1 ⟨rfl, h1⟩
    have c3 := h1.cells.2.2.2.1
    rw [HN.out] at c3
    have H1 := Lib.hid h1
    clear h1
    go_wp2_with fail
    refine (hN.out _).mono ?_
    rintro e w2 ⟨rfl, hb⟩
    have h2 := H1.out.below api hb
    have d1 := h2.cells.2.1
    have H2 := Lib.hid h2
    clear hb h2
    go_wp2_with fail
    refine (hS.out _ H2.out).mono ?_
    rintro e w3 ⟨rfl, h3⟩
    have d3 := h3.cells.2.1
    have H3 := Lib.hid h3
    clear h3
    go_wp2
    go_ret2
    exact ⟨rfl, H3.out⟩
  rw [if_neg hlt]
  have t4 : decide (((sizeS D nm).1 : Int) - (a : Nat) - 12 < 0) = false := decide_eq_false (by omega)
  have hct1 := readS_count D nm (a : Nat) 4
  have ok1 : WfP (readS D nm (a : Nat) 4).2.2 := wp_read ok nm (a : Nat) 4
  have hsz := readS_size (n := nm) (a := (a : Nat)) (k := 4) ok
  generalize readS D nm (a : Nat) 4 = b at *
  obtain ⟨s4, y4, D4⟩ := b
  dsimp only at hct1 ok1 hsz hR ⊢
  by_cases hb2 : y4 = 0
  case neg =>
    rw [if_pos hb2]
    have t5 : ((y4 : Int) != 0) = true := by simp; omega
    generalize (sizeS D nm).1 = z at *
    clear h ok hct hc hp1 hp2 hr0 bb hw hn hm hz hz2 hal hql hNZ hlt ok1 hct1 hsz hb2
    go_enter Tryz.func8, Tryz.ntmps8
    go_wp2_with fail
    refine hr.out.mono ?_
    rintro e w1 ⟨rfl, h1⟩
    have c3 := h1.cells.2.2.2.1
    rw [HN.out] at c3
    have H1 := Lib.hid h1
    clear h1
    go_wp2_with fail
    refine (hN.out _).mono ?_
    rintro e w2 ⟨rfl, hb⟩
    have h2 := H1.out.below api hb
    have d1 := h2.cells.2.1
    have H2 := Lib.hid h2
    clear hb h2
    go_wp2_with fail
    refine (hS.out _ H2.out).mono ?_
    rintro e w3 ⟨rfl, h3⟩
    have d3 := h3.cells.2.1
    have H3 := Lib.hid h3
    clear h3
    go_wp2_with fail
    refine (hR.out _ H3.out).mono ?_
    rintro e w4 ⟨rfl, h4⟩
    have d4 := h4.cells.2.1
    have H4 := Lib.hid h4
    clear h4
    go_wp2
    go_ret2
    exact ⟨rfl, H4.out⟩
  subst hb2
  rw [if_neg (by simp)]
  have hG := Lib.hid fun (W : World) => get_any s4 W (by unfold maxLen; omega)
  by_cases hbig : 2000 < getS s4
  · rw [if_pos (Or.inl hbig)]
    have t6 : decide ((2000 : Int) < (getS s4 : Int)) = true := decide_eq_true (by omega)
    generalize (sizeS D nm).1 = z at *
    generalize getS s4 = g at *
    clear h ok hct hc hp1 hp2 hr0 bb hw hn hm hz hz2 hal hql hNZ hlt ok1 hct1 hsz hbig
    go_enter Tryz.func8, Tryz.ntmps8
    go_wp2_with fail
    refine hr.out.mono ?_
    rintro e w1 ⟨rfl, h1⟩
    have c3 := h1.cells.2.2.2.1
    rw [HN.out] at c3
    have H1 := Lib.hid h1
    clear h1
    go_wp2_with fail
    refine (hN.out _).mono ?_
    rintro e w2 ⟨rfl, hb⟩
    have h2 := H1.out.below api hb
    have d1 := h2.cells.2.1
    have H2 := Lib.hid h2
    clear hb h2
    go_wp2_with fail
    refine (hS.out _ H2.out).mono ?_
    rintro e w3 ⟨rfl, h3⟩
    have d3 := h3.cells.2.1
    have H3 := Lib.hid h3
    clear h3
    go_wp2_with fail
    refine (hR.out _ H3.out).mono ?_
    rintro e w4 ⟨rfl, h4⟩
    have d4 := h4.cells.2.1
    have H4 := Lib.hid h4
    clear h4
    go_wp2_with fail
    refine (hG.out _).mono ?_
    rintro e w5 ⟨rfl, rfl⟩
    go_wp2
    go_ret2
    exact ⟨rfl, H4.out⟩
  have t6 : decide ((2000 : Int) < (getS s4 : Int)) = false := decide_eq_false (by omega)
  have b5 : IntKind.i64.wrap (getS s4 : Int) = (getS s4 : Int) := IntWalk.i64_in _ (by omega)
  by_cases hfar : (sizeS D nm).1 < a + 12 + getS s4
  · rw [if_pos (Or.inr hfar)]
    have t7 : decide (((sizeS D nm).1 : Int) - (a : Nat) - 12 < (getS s4 : Int)) = true := decide_eq_true (by omega)
    generalize (sizeS D nm).1 = z at *
    generalize getS s4 = g at *
    clear h ok hct hc hp1 hp2 hr0 bb hw hn hm hz hz2 hal hql hNZ hlt ok1 hct1 hsz hbig hfar
    go_enter Tryz.func8, Tryz.ntmps8
    go_wp2_with fail
    refine hr.out.mono ?_
    rintro e w1 ⟨rfl, h1⟩
    have c3 := h1.cells.2.2.2.1
    rw [HN.out] at c3
    have H1 := Lib.hid h1
    clear h1
    go_wp2_with fail
    refine (hN.out _).mono ?_
    rintro e w2 ⟨rfl, hb⟩
    have h2 := H1.out.below api hb
    have d1 := h2.cells.2.1
    have H2 := Lib.hid h2
    clear hb h2
    go_wp2_with fail
    refine (hS.out _ H2.out).mono ?_
    rintro e w3 ⟨rfl, h3⟩
    have d3 := h3.cells.2.1
    have H3 := Lib.hid h3
    clear h3
    go_wp2_with fail
    refine (hR.out _ H3.out).mono ?_
    rintro e w4 ⟨rfl, h4⟩
    have d4 := h4.cells.2.1
    have H4 := Lib.hid h4
    clear h4
    go_wp2_with fail
    refine (hG.out _).mono ?_
    rintro e w5 ⟨rfl, rfl⟩
    go_wp2
    go_ret2
    exact ⟨rfl, H4.out⟩
  rw [if_neg (by omega)]
  have t7 : decide (((sizeS D nm).1 : Int) - (a : Nat) - 12 < (getS s4 : Int)) = false := decide_eq_false (by omega)
  have b6 : IntKind.i64.wrap ((getS s4 : Int) + 12) = ((getS s4 + 12 : Nat) : Int) := by rw [Int.natCast_add]; exact IntWalk.i64_in _ (by omega)
  have b7 : (getS s4 : Int) + 12 = ((getS s4 + 12 : Nat) : Int) := by omega
  have hR2 := Lib.hid fun (W : World) (hT : TSt At c gl gd L D4 W) => hT.disk api (fun F hF => api.read nm (a : Nat) ((getS s4 + 12 : Nat) : Int) hF ok1.ok (by omega) (wf_nat (by omega)) (wf_nat (by omega)) hNZ)
  have hsz2 := readS_size (n := nm) (a := (a : Nat)) (k := ((getS s4 + 12 : Nat) : Int)) ok1
  generalize readS D4 nm (a : Nat) ((getS s4 + 12 : Nat) : Int) = b at *
  obtain ⟨s5, y5, D5⟩ := b
  dsimp only at hsz2 hR2 ⊢
  have b8 : IntKind.i64.wrap ((getS s4 + 12 : Nat) : Int) = ((getS s4 + 12 : Nat) : Int) := IntWalk.i64_in _ (by omega)
  generalize hm12 : ((getS s4 + 12 : Nat) : Int) = m12 at *
  by_cases hb2 : y5 = 0
  case neg =>
    rw [if_pos hb2]
    have t8 : ((y5 : Int) != 0) = true := by simp; omega
    generalize (sizeS D nm).1 = z at *
    generalize getS s4 = g at *
    clear h ok hct hc hp1 hp2 hr0 bb hw hn hm hz hz2 hal hql hNZ hlt ok1 hct1 hsz hbig hfar hsz2 hb2 hm12
    go_enter Tryz.func8, Tryz.ntmps8
    go_wp2_with fail
    refine hr.out.mono ?_
    rintro e w1 ⟨rfl, h1⟩
    have c3 := h1.cells.2.2.2.1
    rw [HN.out] at c3
    have H1 := Lib.hid h1
    clear h1
    go_wp2_with fail
    refine (hN.out _).mono ?_
    rintro e w2 ⟨rfl, hb⟩
    have h2 := H1.out.below api hb
    have d1 := h2.cells.2.1
    have H2 := Lib.hid h2
    clear hb h2
    go_wp2_with fail
    refine (hS.out _ H2.out).mono ?_
    rintro e w3 ⟨rfl, h3⟩
    have d3 := h3.cells.2.1
    have H3 := Lib.hid h3
    clear h3
    go_wp2_with fail
    refine (hR.out _ H3.out).mono ?_
    rintro e w4 ⟨rfl, h4⟩
    have d4 := h4.cells.2.1
    have H4 := Lib.hid h4
    clear h4
    go_wp2_with fail
    refine (hG.out _).mono ?_
    rintro e w5 ⟨rfl, rfl⟩
    go_wp2_with fail
    refine (hR2.out _ H4.out).mono ?_
    rintro e w5 ⟨rfl, h5⟩
    have H5 := Lib.hid h5
    clear h5
    go_wp2
    go_ret2
    exact ⟨rfl, H5.out⟩
  subst hb2
  rw [if_neg (by simp)]
  have hK := Lib.hid fun (W : World) => rget_any s5 0 W (by unfold maxLen; omega) (by decide)
  unfold GotRec at hK
  cases hok : getOk s5 0
  · rw [if_neg (by simp)]
    rw [hok] at hK
    generalize (sizeS D nm).1 = z at *
    generalize getS s4 = g at *
    generalize getP s5 0 = pp at *
    generalize getN s5 0 = nn at *
    clear h ok hct hc hp1 hp2 hr0 bb hw hn hm hz hz2 hal hql hNZ hlt ok1 hct1 hsz hbig hfar hsz2 hm12 hok
    go_enter Tryz.func8, Tryz.ntmps8
    go_wp2_with fail
    refine hr.out.mono ?_
    rintro e w1 ⟨rfl, h1⟩
    have c3 := h1.cells.2.2.2.1
    rw [HN.out] at c3
    have H1 := Lib.hid h1
    clear h1
    go_wp2_with fail
    refine (hN.out _).mono ?_
    rintro e w2 ⟨rfl, hb⟩
    have h2 := H1.out.below api hb
    have d1 := h2.cells.2.1
    have H2 := Lib.hid h2
    clear hb h2
    go_wp2_with fail
    refine (hS.out _ H2.out).mono ?_
    rintro e w3 ⟨rfl, h3⟩
    have d3 := h3.cells.2.1
    have H3 := Lib.hid h3
    clear h3
    go_wp2_with fail
    refine (hR.out _ H3.out).mono ?_
    rintro e w4 ⟨rfl, h4⟩
    have d4 := h4.cells.2.1
    have H4 := Lib.hid h4
    clear h4
    go_wp2_with fail
    refine (hG.out _).mono ?_
    rintro e w5 ⟨rfl, rfl⟩
    go_wp2_with fail
    refine (hR2.out _ H4.out).mono ?_
    rintro e w5 ⟨rfl, h5⟩
    have H5 := Lib.hid h5
    clear h5
    go_wp2_with fail
    refine (hK.out _).mono ?_
    rintro e w6 ⟨rfl, hb⟩
    have H6 := Lib.hid (H5.out.below api hb)
    clear hb
    go_wp2
    go_ret2
    exact ⟨rfl, H6.out⟩
  · rw [if_pos rfl]
    rw [hok] at hK
    generalize (sizeS D nm).1 = z at *
    generalize getS s4 = g at *
    generalize getP s5 0 = pp at *
    generalize getN s5 0 = nn at *
    clear h ok hct hc hp1 hp2 hr0 bb hw hn hm hz hz2 hal hql hNZ hlt ok1 hct1 hsz hbig hfar hsz2 hm12 hok
    go_enter Tryz.func8, Tryz.ntmps8
    go_wp2_with fail
    refine hr.out.mono ?_
    rintro e w1 ⟨rfl, h1⟩
    have c3 := h1.cells.2.2.2.1
    rw [HN.out] at c3
    have H1 := Lib.hid h1
    clear h1
    go_wp2_with fail
    refine (hN.out _).mono ?_
    rintro e w2 ⟨rfl, hb⟩
    have h2 := H1.out.below api hb
    have d1 := h2.cells.2.1
    have H2 := Lib.hid h2
    clear hb h2
    go_wp2_with fail
    refine (hS.out _ H2.out).mono ?_
    rintro e w3 ⟨rfl, h3⟩
    have d3 := h3.cells.2.1
    have H3 := Lib.hid h3
    clear h3
    go_wp2_with fail
    refine (hR.out _ H3.out).mono ?_
    rintro e w4 ⟨rfl, h4⟩
    have d4 := h4.cells.2.1
    have H4 := Lib.hid h4
    clear h4
    go_wp2_with fail
    refine (hG.out _).mono ?_
    rintro e w5 ⟨rfl, rfl⟩
    go_wp2_with fail
    refine (hR2.out _ H4.out).mono ?_
    rintro e w5 ⟨rfl, h5⟩
    have H5 := Lib.hid h5
    clear h5
    go_wp2_with fail
    refine (hK.out _).mono ?_
    rintro e w6 ⟨rfl, hb⟩
    have H6 := Lib.hid (H5.out.below api hb)
    clear hb
    go_wp2
    go_ret2
    exact ⟨rfl, H6.out⟩
set_option maxRecDepth 100000 in
theorem tread_run (hm : c.m = ptr gl) (h : TSt At c gl gd L D w) (ok : WfP D) (hct : D.count ≤ 1000000000) (pos : Int) (hw : (Lit.int .i64 pos).wf = true) (hc : L.chunks ≤ 200) : Calls Tryz.prog 8 #[ptr gl, .int .i64 pos] w (ReadTo At c gl gd L (readT D L pos)) := by
  unfold readT
  by_cases he : readyT D L = 0
  · rw [if_neg (by simp [he])]
    by_cases hp : pos < 0 ∨ (L.chunks : Int) ≤ pos / 4096 ∨ pos % 4096 < 12
    · rw [if_pos hp]
      exact tread_out api hm h pos hw hc hp he
    · rw [if_neg hp]
      obtain ⟨p, rfl⟩ : ∃ p : Nat, pos = p := ⟨pos.toNat, by omega⟩
      have e1 : ((p : Int) / 4096).toNat = p / 4096 := by omega
      have e2 : ((p : Int) % 4096).toNat = p % 4096 := by omega
      rw [e1, e2]
      exact tread_in api nap hm h ok hct p hw hc (by omega) (by omega) he
  · rw [if_pos he]
    have hr := Lib.hid (tready_run api hm h)
    have t : ((readyT D L : Int) != 0) = true := by simp; omega
    generalize readyT D L = y at *
    clear h ok hct hw hc he hm
    go_enter Tryz.func8, Tryz.ntmps8
    go_wp2_with fail
    refine hr.out.mono ?_
    rintro e w1 ⟨rfl, h1⟩
    have H1 := Lib.hid h1
    clear h1
    go_wp2
    go_ret2
    exact ⟨rfl, H1.out⟩
end
end Go.Proofs.YtedbgimmbapfaaaGreat

/- TfFiles -/
namespace Go.Proofs.YtedbgimmbapfaaaGreat
set_option linter.unusedVariables false

def fileOf (l : List FileS) (n : ByteArray) : Option FileS := l.find? (fun f => decide (f.name = n))
theorem fileOf_at : ∀ (l : List FileS) (n : ByteArray), l[findS l n]? = fileOf l n
  | [], n => rfl
  | x :: l, n => by
    have ih := fileOf_at l n
    unfold findS fileOf at *
    rw [List.findIdx_cons, List.find?_cons]
    cases h : decide (x.name = n)
    · simpa using ih
    · rfl
theorem fileOf_lt {l : List FileS} {n : ByteArray} : findS l n < l.length ↔ fileOf l n ≠ none := by
  rw [← fileOf_at]
  constructor
  · intro h e
    rw [List.getElem?_eq_getElem h] at e
    cases e
  · intro h
    rcases Nat.lt_or_ge (findS l n) l.length with c | c
    · exact c
    · exact absurd (List.getElem?_eq_none c) h
theorem fileOf_name {l : List FileS} {n : ByteArray} {f : FileS} (h : fileOf l n = some f) : f.name = n := by
  have := List.find?_some h
  simpa using this
theorem fileOf_mem {l : List FileS} {n : ByteArray} {f : FileS} (h : fileOf l n = some f) : f ∈ l := List.mem_of_find?_eq_some h
theorem fileOf_none {l : List FileS} {n : ByteArray} : fileOf l n = none ↔ ∀ f ∈ l, f.name ≠ n := by
  unfold fileOf
  rw [List.find?_eq_none]
  simp
theorem fileOf_setF (h : FileS → FileS) (hh : ∀ f, (h f).name = f.name) (n m : ByteArray) : ∀ l : List FileS, fileOf (setF l (findS l n) h) m = if m = n then (fileOf l n).map h else fileOf l m
  | [] => by
    unfold setF fileOf findS
    simp
  | x :: l => by
    have ih := fileOf_setF h hh n m l
    by_cases e : x.name = n
    · have e1 : findS (x :: l) n = 0 := by unfold findS; rw [List.findIdx_cons]; simp [e]
      rw [e1]
      show fileOf (h x :: l) m = _
      unfold fileOf
      rw [List.find?_cons, List.find?_cons, List.find?_cons, hh, decide_eq_true e]
      by_cases em : m = n
      · rw [if_pos em, em, decide_eq_true e]; rfl
      · rw [if_neg em, decide_eq_false (fun q => em (by rw [← e, q]))]
    · have e1 : findS (x :: l) n = findS l n + 1 := by unfold findS; rw [List.findIdx_cons]; simp [e]
      rw [e1]
      show fileOf (x :: setF l (findS l n) h) m = _
      unfold fileOf at ih ⊢
      rw [List.find?_cons, List.find?_cons, List.find?_cons, decide_eq_false e]
      by_cases em : x.name = m
      · rw [decide_eq_true em]
        by_cases q : m = n
        · exact absurd (em.trans q) e
        · rw [if_neg q]
      · rw [decide_eq_false em]
        exact ih
theorem fileOf_lay {l : List FileS} {f : FileS} (hn : fileOf l f.name = none) (m : ByteArray) : fileOf (layS l f) m = if m = f.name then some f else fileOf l m := by
  have h0 := fileOf_none.1 hn
  unfold layS
  have hsp : l = l.take (aheadS l f.name) ++ l.drop (aheadS l f.name) := (List.take_append_drop _ _).symm
  generalize aheadS l f.name = k at *
  unfold fileOf
  rw [List.find?_append, List.find?_append]
  by_cases e : m = f.name
  · subst e
    rw [if_pos rfl, List.find?_eq_none.2 (fun x hx => by simpa using h0 x (List.mem_of_mem_take hx))]
    simp
  · rw [if_neg e]
    have e2 : [f].find? (fun f => decide (f.name = m)) = none := by simp [Ne.symm e]
    rw [e2]
    conv => rhs; rw [hsp, List.find?_append]
    simp
theorem lay_names {l : List FileS} {f x : FileS} (h : x ∈ layS l f) : x ∈ l ∨ x = f := lay_mem h
theorem setF_names (h : FileS → FileS) (hh : ∀ f, (h f).name = f.name) : ∀ (l : List FileS) (k : Nat), (setF l k h).map FileS.name = l.map FileS.name
  | [], k => by unfold setF; simp
  | x :: l, 0 => by show (h x :: l).map _ = _; simp [hh]
  | x :: l, k + 1 => by
    show (x :: setF l k h).map _ = _
    rw [List.map_cons, List.map_cons, setF_names h hh l k]
theorem used_set_same {l : List FileS} {n : ByteArray} (h : FileS → FileS) (hd : ∀ f, (h f).data.size = f.data.size) : usedS (setF l (findS l n) h) = usedS l := by
  rcases Nat.lt_or_ge (findS l n) l.length with c | c
  · obtain ⟨f, hf⟩ := some_at c
    have := used_setF l _ f h hf
    have := hd f
    omega
  · have e : setF l (findS l n) h = l := by
      unfold setF
      exact List.modify_eq_self c
    rw [e]

/-! What the calls answer, of a disk that is up and does not fail. -/
theorem sizeS_of {D : DiskS} {n : ByteArray} {f : FileS} (hd : D.down = false) (h : fileOf D.l n = some f) : sizeS D n = (f.data.size, 0) := by
  unfold sizeS
  rw [fileOf_at, h, if_neg (by simp [hd])]
theorem readS_of {D : DiskS} {n : ByteArray} {f : FileS} {a k : Nat} (hd : D.down = false) (h : fileOf D.l n = some f) (hk : a + k ≤ f.data.size) : readS D n (a : Nat) (k : Nat) = (f.data.extract a (a + k), 0, { D with count := D.count + 1 }) := by
  unfold readS
  dsimp only
  rw [fileOf_at, h, if_neg (by simp [hd])]
  dsimp only
  rw [if_neg (by omega), Int.toNat_natCast, Int.toNat_natCast]
theorem rdC_of {D : DiskS} {n : ByteArray} {f : FileS} (hd : D.down = false) (h : fileOf D.l n = some f) : rdC D n = (f.data, 0, { D with count := D.count + 1 }) := by
  unfold rdC
  rw [sizeS_of hd h, if_pos rfl]
  have := readS_of (a := 0) (k := f.data.size) hd h (by omega)
  rw [Nat.zero_add] at this
  have e : f.data.extract 0 f.data.size = f.data := by
    apply ByteArray.ext
    rw [ByteArray.data_extract]
    exact Array.extract_size
  rw [e] at this
  exact this
theorem syncS_of {D : DiskS} {n : ByteArray} {f : FileS} (hd : D.down = false) (hf : D.fails = 0) (h : fileOf D.l n = some f) : syncS D n = (0, { D with l := setF D.l (findS D.l n) (fun f => { f with synced := f.data.size }) }) := by
  unfold syncS doneS goesS
  rw [if_neg (by simp [hd]), if_pos (fileOf_lt.2 (by rw [h]; simp)), hf, if_pos (by decide)]
theorem appendS_of {D : DiskS} {n s : ByteArray} {f : FileS} (hd : D.down = false) (hf : D.fails = 0) (h : fileOf D.l n = some f) (hr : usedS D.l + s.size ≤ D.cap) : appendS D n s = (0, appE D n s) := by
  unfold appendS goesS
  rw [if_neg (by simp [hd]), if_pos (fileOf_lt.2 (by rw [h]; simp)), if_neg (by omega), hf, if_pos (by decide)]
  unfold nextS appE
  simp [hf]
theorem createS_of {D : DiskS} {n : ByteArray} (hd : D.down = false) (hf : D.fails = 0) (hn : nameB n = true) (h : fileOf D.l n = none) (hm : D.l.length < 400) : createS D n = (0, { D with l := layS D.l ⟨n, ByteArray.empty, 0⟩ }) := by
  unfold createS doneS goesS
  rw [if_neg (by simp [hd]), if_neg (by simp [hn]), if_neg (fun q => fileOf_lt.1 q h), if_neg (by omega), hf, if_pos (by decide)]
theorem deleteS_no {D : DiskS} {n : ByteArray} (hd : D.down = false) (h : fileOf D.l n = none) : deleteS D n = (4, D) := by
  unfold deleteS
  rw [if_neg (by simp [hd]), if_neg (fun q => fileOf_lt.1 q h)]
end Go.Proofs.YtedbgimmbapfaaaGreat
