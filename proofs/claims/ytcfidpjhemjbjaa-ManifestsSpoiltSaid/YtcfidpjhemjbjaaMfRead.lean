/- What bytes say, if they are a manifest's: the program's read. -/
import Derived.Test.YtcfidpjhemjbjaaMfRead0
import Derived.Deep.RegionHeld3
import Derived.Deep.LoopGhost
import Derived.WalkMore
namespace Go.Proofs.Ytcfidpjhemjbjaa
open Go.RowKit Go.Shelf
set_option linter.unusedVariables false
set_option maxRecDepth 100000

/-- What read tells: levels of its own. -/
def MfReadEnd (w : World) (s : ByteArray) (e : Ending) (w' : World) : Prop := ∃ (x0 x1 : Int) (x2 : Nat) (A : Option Addr) (n c : Nat) (R : LvL), e = .returned (manV x0 x1 x2 (.slice A n c)) ∧ n = R.length ∧ LvsNew w' w.heap.size (.slice A n c) R ∧ Below w.heap.size w w' ∧ ReadsM s ⟨x0, x1, x2, R⟩ ∧ x2 < 18446744073709551616 ∧ R.flatten.length ≤ 100000 ∧ R.length ≤ 300
/-- Some levels were read; the others are empty. -/
def RdL (s : ByteArray) (n i p : Nat) (M : List LvS) : Prop := i ≤ n ∧ ∃ L : LvL, L.length = i ∧ lvl M = L ++ List.replicate (n - i) [] ∧ MfAt s i p L ∧ ∀ x ∈ L, x.length ≤ 255
theorem RdL.start (s : ByteArray) (n : Nat) : RdL s n 0 21 (List.replicate n lvNil) := by
  refine ⟨Nat.zero_le _, [], rfl, ?_, mf_start s, fun x hx => (by cases hx)⟩
  unfold lvl
  rw [List.map_replicate]
  rfl
theorem RdL.next {s : ByteArray} {n i p : Nat} {M : List LvS} {v : Value} (h : RdL s n i p M) (hi : i < n) (hc : num s p 1 ≤ 255) : RdL s n (i + 1) (p + 1 + 4 * num s p 1) (M.set i ⟨v, lvAt s (p + 1) (num s p 1)⟩) := by
  obtain ⟨h0, L, h1, h2, h3, h4⟩ := h
  refine ⟨hi, L ++ [lvAt s (p + 1) (num s p 1)], by rw [List.length_append, h1]; rfl, ?_, mf_step h3 (Nat.le_refl _) (Or.inl rfl), fun x hx => ?_⟩
  · rw [lvl_set, h2, List.set_append_right _ _ (by omega), h1, Nat.sub_self, show n - i = (n - (i + 1)) + 1 by omega, List.replicate_succ, List.set_cons_zero, List.append_assoc]
    rfl
  · rcases List.mem_append.1 hx with hx | hx
    · exact h4 x hx
    · rw [List.mem_singleton.1 hx, lvAt_length]
      exact hc
theorem flat_bound : ∀ (L : LvL), (∀ x ∈ L, x.length ≤ 255) → L.flatten.length ≤ 255 * L.length
  | [], _ => Nat.zero_le _
  | x :: L, h => by
    have h1 := flat_bound L (fun y hy => h y (List.mem_cons_of_mem _ hy))
    have h2 := h x List.mem_cons_self
    rw [List.flatten_cons, List.length_append, List.length_cons]
    omega
theorem RdL.done {s : ByteArray} {p : Nat} {M : List LvS} (hn : num s 20 1 ≤ 255) (h : RdL s (num s 20 1) (num s 20 1) p M) : ReadsM s ⟨(num s 4 4 : Nat), (num s 8 4 : Nat), num s 12 8, lvl M⟩ ∧ (lvl M).length = num s 20 1 ∧ (lvl M).flatten.length ≤ 100000 := by
  obtain ⟨h0, L, h1, h2, h3, h4⟩ := h
  rw [Nat.sub_self] at h2
  have e : lvl M = L := by rw [h2]; simp
  rw [e]
  have := flat_bound L h4
  exact ⟨mf_end h3 (Nat.le_refl _) (Or.inl rfl), h1, by rw [h1] at this; omega⟩
/-- A list of which some numbers were read. -/
def lvTo (s : ByteArray) (p c k : Nat) : List Int := lvAt s p k ++ List.replicate (c - k) 0
theorem lvTo_length (s : ByteArray) (p : Nat) {c k : Nat} (h : k ≤ c) : (lvTo s p c k).length = c := by unfold lvTo; rw [List.length_append, lvAt_length, List.length_replicate]; omega
theorem lvTo_zero (s : ByteArray) (p c : Nat) : lvTo s p c 0 = List.replicate c 0 := by unfold lvTo; rw [lvAt_zero, List.nil_append, Nat.sub_zero]
theorem lvTo_full (s : ByteArray) (p c : Nat) : lvTo s p c c = lvAt s p c := by unfold lvTo; rw [Nat.sub_self]; simp
theorem lvTo_set (s : ByteArray) (p : Nat) {c k : Nat} (h : k < c) : (lvTo s p c k).set k ((num s (p + 4 * k) 4 : Nat) : Int) = lvTo s p c (k + 1) := by
  unfold lvTo
  rw [List.set_append_right _ _ (by rw [lvAt_length]; exact Nat.le_refl _), lvAt_length, Nat.sub_self, show c - k = (c - (k + 1)) + 1 by omega, List.replicate_succ, List.set_cons_zero, lvAt_succ, List.append_assoc]
  rfl
theorem num_four (s : ByteArray) (p : Nat) : num s p 4 < 4294967296 := num_lt s p 4 4 (by decide) (by decide)
theorem num_one (s : ByteArray) (p : Nat) : num s p 1 ≤ 255 := by have := num_lt s p 1 1 (by decide) (by decide); omega
theorem num_eight (s : ByteArray) (p : Nat) : num s p 8 < 18446744073709551616 := num_lt s p 8 8 (by decide) (by decide)

set_option maxHeartbeats 1000000 in
theorem mread_any (s : ByteArray) (w : World) (hs : s.size ≤ 100000) : Calls Try.prog 26 #[.string s] w (MfReadEnd w s) := by
  have H0 := Lib.hid (rd_first s w hs)
  have HT4 := Lib.hid (fun p x0 x1 x2 v wr (h : RdB w s p x0 x1 x2 v wr) => h.take4 hs)
  have HT8 := Lib.hid (fun p x0 x1 x2 v wr (h : RdB w s p x0 x1 x2 v wr) => h.take8 hs)
  have HT1 := Lib.hid (fun p x0 x1 x2 v wr (h : RdB w s p x0 x1 x2 v wr) => h.take1 hs)
  have HEND : Hid (∀ A n c M p W B, w.heap.size ≤ B → n = num s 20 1 → LvRow W B (.slice A n c) M → LvOwn W B M → Below w.heap.size w W → RdL s n n p M → MfReadEnd w s (.returned (manV (num s 4 4 : Nat) (num s 8 4 : Nat) (num s 12 8) (.slice A n c))) W) := Lib.hid fun A n c M p W B hB e h1 h2 h3 h4 => by
    subst e
    obtain ⟨r1, r2, r3⟩ := RdL.done (num_one s 20) h4
    exact ⟨_, _, _, A, _, c, lvl M, rfl, r2.symm, ⟨M, LvRow.down h1 hB, h2.down hB, rfl⟩, h3, r1, num_eight s 12, r3, by rw [r2]; have := num_one s 20; omega⟩
  have b0 := num_four s 4
  have b1 := num_four s 8
  have b3 := num_one s 20
  have q0 : IntKind.i64.wrap ((num s 4 4 : Nat) : Int) = ((num s 4 4 : Nat) : Int) := IntWalk.i64_in _ ⟨by omega, by omega⟩
  have q1 : IntKind.i64.wrap ((num s 8 4 : Nat) : Int) = ((num s 8 4 : Nat) : Int) := IntWalk.i64_in _ ⟨by omega, by omega⟩
  have HL0 := Lib.hid (RdL.start s (num s 20 1))
  obtain ⟨Z, hZ, hZr⟩ := lvs_make (num s 20 1) (by omega)
  have HZR := Lib.hid hZr
  obtain ⟨y0, hy0⟩ : ∃ y, num s 4 4 = y := ⟨_, rfl⟩
  obtain ⟨y1, hy1⟩ : ∃ y, num s 8 4 = y := ⟨_, rfl⟩
  obtain ⟨y2, hy2⟩ : ∃ y, num s 12 8 = y := ⟨_, rfl⟩
  obtain ⟨n, hn⟩ : ∃ y, num s 20 1 = y := ⟨_, rfl⟩
  have HY0 := Lib.hid hy0
  have HY1 := Lib.hid hy1
  have HY2 := Lib.hid hy2
  have HN := Lib.hid hn
  rw [hn] at HL0 HZR b3
  rw [hn] at hZ
  rw [hy0] at b0 q0
  rw [hy1] at b1 q1
  clear hs hZr hy0 hy1 hy2 hn
  go_enter Try.func26, Try.ntmps26
  go_wp2_with fail
  refine H0.out.mono ?_
  rintro e w3 ⟨rfl, hz3, hb⟩
  have T2 := HT4.out _ _ _ _ _ _ hb
  rw [HY0.out] at T2
  have T := Lib.hid T2
  clear hb T2 H0
  go_wp2_with fail
  refine T.out.mono ?_
  rintro e w4 ⟨rfl, hb, -⟩
  obtain ⟨k0, -, -, -, kf, -⟩ := hb.cells
  have kf0 := kf 0
  have T2 := HT4.out _ _ _ _ _ _ (hb.set0 (y0 : Nat))
  rw [HY1.out] at T2
  have T := Lib.hid T2
  clear hb T2 kf
  go_wp2_with fail
  refine T.out.mono ?_
  rintro e w5 ⟨rfl, hb, -⟩
  clear k0 kf0
  obtain ⟨-, k1, -, -, kf, -⟩ := hb.cells
  have kf0 := kf 1
  have T2 := HT8.out _ _ _ _ _ _ (hb.set1 (y1 : Nat))
  rw [HY2.out] at T2
  have T := Lib.hid T2
  clear hb T2 kf
  go_wp2_with fail
  refine T.out.mono ?_
  rintro e w6 ⟨rfl, hb, -⟩
  clear k1 kf0
  obtain ⟨-, -, k2, -, kf, -⟩ := hb.cells
  have kf0 := kf 2
  have T2 := HT1.out _ _ _ _ _ _ (hb.set2 y2)
  rw [HN.out] at T2
  have T := Lib.hid T2
  clear hb T2 kf
  go_wp2_with fail
  refine T.out.mono ?_
  rintro e w7 ⟨rfl, hb, -⟩
  clear k2 kf0 T
  obtain ⟨-, -, -, j3, jf, -⟩ := (hb.alloc (.cells Z 41)).cells
  have jf0 := jf 3
  obtain ⟨-, -, -, k3, kf, hg7⟩ := hb.cells
  have kf0 := kf 3
  have HZ7 := (RdR.start n (HZR.out w7)).far (b := w.heap.size + 2) (i := 3) hg7 (.slice (some ⟨w7.heap.size, 0, none⟩) n n)
  have HB7 := (hb.alloc (.cells Z 41)).set3 (.slice (some ⟨w7.heap.size, 0, none⟩) n n)
  obtain ⟨g7, hg⟩ : ∃ g7, g7 = w7.heap.size := ⟨_, rfl⟩
  obtain ⟨w8, hw8⟩ : ∃ w8, w8 = (w7.alloc (.cells Z 41)).setCell ⟨w.heap.size + 2, 3, none⟩ (.slice (some ⟨w7.heap.size, 0, none⟩) n n) := ⟨_, rfl⟩
  have HW8 := Lib.hid hw8
  have HG7 := Lib.hid hg
  rw [← hw8, ← hg] at HZ7 HB7
  rw [← hg] at hg7
  have HRR := Lib.hid HZ7
  have HBB := Lib.hid HB7
  clear jf hb kf HZ7 HB7 hw8 hg HZR hz3
  go_upto_region 8 with fail
  rw [← HW8.out, ← HG7.out]
  clear HW8 HG7 k3 kf0 j3 jf0
  obtain ⟨-, -, -, k3, -, -⟩ := HBB.out.cells
  have HSA := Lib.hid (fun (W : World) (o : Obj) (h : w.heap.size + 2 < W.heap.size ∧ W.cell? ⟨w.heap.size + 2, 3, none⟩ = some (.slice (some ⟨g7, 0, none⟩) n n)) => (show w.heap.size + 2 < (W.alloc o).heap.size ∧ (W.alloc o).cell? ⟨w.heap.size + 2, 3, none⟩ = some (.slice (some ⟨g7, 0, none⟩) n n) from ⟨by rw [World.size_alloc]; omega, (cell_alloc h.1).trans h.2⟩))
  have HSS := Lib.hid (fun (W : World) (g i : Nat) (u : Value) (hg : w.heap.size + 2 ≠ g) (h : w.heap.size + 2 < W.heap.size ∧ W.cell? ⟨w.heap.size + 2, 3, none⟩ = some (.slice (some ⟨g7, 0, none⟩) n n)) => (show w.heap.size + 2 < (W.setCell ⟨g, i, none⟩ u).heap.size ∧ (W.setCell ⟨g, i, none⟩ u).cell? ⟨w.heap.size + 2, 3, none⟩ = some (.slice (some ⟨g7, 0, none⟩) n n) from ⟨by rw [World.size_setCell]; exact h.1, (cell_other hg).trans h.2⟩))
  go_wp2
  go_loopg [24] n (fun g i wr => ∃ (j p : Nat) (M : List LvS), j + g = n ∧ i = .int .i64 j ∧ RdB w s p (y0 : Nat) (y1 : Nat) y2 (.slice (some ⟨g7, 0, none⟩) n n) wr ∧ RdR g7 g7 n M wr ∧ RdL s n j p M)
  case atStart => exact ⟨0, 21, _, by omega, rfl, HBB.out, HRR.out, HL0.out⟩
  case round =>
    obtain ⟨j, p, M, hjg, rfl, hB, hR, hL⟩ := hrel
    clear HBB HRR HL0 k3
    have HB := Lib.hid hB
    have HR := Lib.hid hR
    have HL := Lib.hid hL
    clear hB hR hL
    obtain ⟨wo, rfl⟩ : ∃ wo, wo = wr := ⟨_, rfl⟩
    cases gk with
    | zero =>
      obtain rfl : j = n := by omega
      have l1 : ¬ (j : Int) < (j : Int) := by omega
      obtain ⟨k0, k1, k2, k3, -, -⟩ := HB.out.cells
      have d0 := HB.out.b2.cell 0
      have d1 := HB.out.b2.cell 1
      have d2 := HB.out.b2.cell 2
      have d3 := HB.out.b2.cell 3
      have f0 := HB.out.b2.frozen 0
      have f1 := HB.out.b2.frozen 1
      have f2 := HB.out.b2.frozen 2
      have f3 := HB.out.b2.frozen 3
      simp only [List.getElem?_toArray] at d0 d1 d2 d3
      obtain ⟨wf, hwf⟩ : ∃ wf, wf = ((((wo.setCell ⟨w.heap.size, 0, none⟩ (.int .i64 (y0 : Nat))).setCell ⟨w.heap.size, 1, none⟩ (.int .i64 (y1 : Nat))).setCell ⟨w.heap.size, 2, none⟩ (.int .u64 (y2 : Nat))).setCell ⟨w.heap.size, 3, none⟩ (.slice (some ⟨g7, 0, none⟩) j j)) := ⟨_, rfl⟩
      have hD := (((HB.out.b2.put 0 (.int .i64 (y0 : Nat))).put 1 (.int .i64 (y1 : Nat))).put 2 (.int .u64 (y2 : Nat))).put 3 (.slice (some ⟨g7, 0, none⟩) j j)
      have hBf := (((HB.out.bel.setCell (p := ⟨w.heap.size, 0, none⟩) (Nat.le_refl _) (.int .i64 (y0 : Nat))).setCell (p := ⟨w.heap.size, 1, none⟩) (Nat.le_refl _) (.int .i64 (y1 : Nat))).setCell (p := ⟨w.heap.size, 2, none⟩) (Nat.le_refl _) (.int .u64 (y2 : Nat))).setCell (p := ⟨w.heap.size, 3, none⟩) (Nat.le_refl _) (.slice (some ⟨g7, 0, none⟩) j j)
      have hRf := (((HR.out.far (b := w.heap.size) (i := 0) (by omega) (.int .i64 (y0 : Nat))).far (b := w.heap.size) (i := 1) (by omega) (.int .i64 (y1 : Nat))).far (b := w.heap.size) (i := 2) (by omega) (.int .u64 (y2 : Nat))).far (b := w.heap.size) (i := 3) (by omega) (.slice (some ⟨g7, 0, none⟩) j j)
      rw [← hwf] at hD hBf hRf
      have e0 : wf.cell? ⟨w.heap.size, 0, none⟩ = some (.int .i64 (y0 : Nat)) := hD.cell 0
      have e1 : wf.cell? ⟨w.heap.size, 1, none⟩ = some (.int .i64 (y1 : Nat)) := hD.cell 1
      have e2 : wf.cell? ⟨w.heap.size, 2, none⟩ = some (.int .u64 (y2 : Nat)) := hD.cell 2
      have e3 : wf.cell? ⟨w.heap.size, 3, none⟩ = some (.slice (some ⟨g7, 0, none⟩) j j) := hD.cell 3
      have HR9 := HEND.out _ _ _ _ _ _ _ (by omega) HN.out.symm hRf.row hRf.own hBf HL.out
      rw [HY0.out, HY1.out, HY2.out] at HR9
      have HR10 := Lib.hid HR9
      have HWF := Lib.hid hwf
      clear HR9 hwf hD hBf hRf
      go_wp2
      rw [← HWF.out]
      exact bodyPost_ret (v := manV (y0 : Nat) (y1 : Nat) y2 (.slice (some ⟨g7, 0, none⟩) j j)) (by simp [results, Try.results26, go_sem, e0, e1, e2, e3]; rfl) rfl HR10.out
    | succ gi0 =>
      have hjn : j < n := by omega
      have l1 : (j : Int) < (n : Int) := by omega
      obtain ⟨c, hc⟩ : ∃ c, num s p 1 = c := ⟨_, rfl⟩
      have hc255 : c ≤ 255 := by have := num_one s p; omega
      have HC := Lib.hid hc
      obtain ⟨y, hy⟩ : ∃ y, M[j]? = some y := ⟨_, List.getElem?_eq_getElem (by rw [HR.out.len]; exact hjn)⟩
      obtain ⟨Zc, hZc, hZr⟩ := ints_make c (by omega)
      have HZR := Lib.hid hZr
      have HY := Lib.hid hy
      obtain ⟨-, -, -, k3, -, kl⟩ := HB.out.cells
      have hs0 : w.heap.size + 2 < wo.drew.heap.size ∧ wo.drew.cell? ⟨w.heap.size + 2, 3, none⟩ = some (.slice (some ⟨g7, 0, none⟩) n n) := ⟨kl, k3⟩
      have T2 := HT1.out _ _ _ _ _ _ HB.out.drew
      rw [hc] at T2
      have K := Lib.hid (T2.mono fun e w' hr => (⟨hr.1, ⟨hr.2.1.cells.2.2.2.2.2, hr.2.1.cells.2.2.2.1⟩, hr.2.1, by rw [hr.2.2]; exact HR.out.drew.far (b := w.heap.size + 1) (i := 0) (by omega) _⟩ : e = _ ∧ (w.heap.size + 2 < w'.heap.size ∧ w'.cell? ⟨w.heap.size + 2, 3, none⟩ = some (.slice (some ⟨g7, 0, none⟩) n n)) ∧ RdB w s (p + 1) (y0 : Nat) (y1 : Nat) y2 (.slice (some ⟨g7, 0, none⟩) n n) w' ∧ RdR g7 g7 n M w'))
      have hne7 : w.heap.size + 2 ≠ g7 := by omega
      clear T2 hc hy hZr
      go_upto_region 11 with fail
      go_region_held3 (fun W => w.heap.size + 2 < W.heap.size ∧ W.cell? ⟨w.heap.size + 2, 3, none⟩ = some (.slice (some ⟨g7, 0, none⟩) n n))
        (first | (with_reducible assumption) | (with_reducible exact HSA.out _ _ (by with_reducible assumption)) | (with_reducible exact HSS.out _ _ _ _ hne7 (by with_reducible assumption)) | (with_reducible exact HSS.out _ _ _ _ hne7 (HSA.out _ _ (by with_reducible assumption))) | fail)
        (first
        | (go_at_call 38; ((with_reducible refine K.out.mono ?_); rintro e w9 ⟨rfl, hS9, hB9, hR9⟩; obtain ⟨fa, fb⟩ := (hR9.alloc (.cells Zc 3)).at_ HY.out; obtain ⟨fc, fd⟩ := hR9.at_ HY.out))
        | fail)
      have hBd := (hB9.alloc (.cells Zc 3)).set (i := j) (show w.heap.size + 3 ≤ g7 by omega) (.slice (some ⟨w9.heap.size, 0, none⟩) c c)
      have hRd := hR9.lay (i := j) (c := c) (Z := Zc) (by have := (World.ownsRow.lt hR9.row g7 rfl).2; omega) (HZR.out w9)
      obtain ⟨gi, hgi⟩ : ∃ gi, gi = w9.heap.size := ⟨_, rfl⟩
      obtain ⟨wd, hwd⟩ : ∃ wd, wd = ((w9.alloc (.cells Zc 3)).setCell ⟨g7, j, none⟩ (.slice (some ⟨w9.heap.size, 0, none⟩) c c)) := ⟨_, rfl⟩
      rw [← hwd, ← hgi, ← lvTo_zero s (p + 1) c] at hRd
      rw [← hwd] at hBd
      have HBD := Lib.hid hBd
      have HRD := Lib.hid hRd
      have HWD := Lib.hid hwd
      have HGI := Lib.hid hgi
      clear hBd hRd hwd hgi K
      rw [← HWD.out, ← HGI.out]
      clear HWD HGI hS9 hB9 hR9 fa fb fc fd
      have HMJ := Lib.hid (fun (l : List Int) => (show (M.set j ⟨.slice (some ⟨gi, 0, none⟩) c c, l⟩)[j]? = some ⟨.slice (some ⟨gi, 0, none⟩) c c, l⟩ from by rw [List.getElem?_set, if_pos rfl, if_pos (List.getElem?_eq_some_iff.1 HY.out).1]))
      have HMS := Lib.hid (fun (l l' : List Int) => (show (M.set j ⟨.slice (some ⟨gi, 0, none⟩) c c, l⟩).set j ⟨.slice (some ⟨gi, 0, none⟩) c c, l'⟩ = M.set j ⟨.slice (some ⟨gi, 0, none⟩) c c, l'⟩ from List.set_set ..))
      have hnegi := HRD.out.ne (HMJ.out _)
      obtain ⟨-, -, -, k3', -, kl'⟩ := HBD.out.cells
      obtain ⟨kj, -⟩ := HRD.out.at_ (HMJ.out _)
      simp only at kj
      have HS2 := Lib.hid (fun (W : World) (i : Nat) (u : Value) (hg : w.heap.size + 2 ≠ gi) (h : w.heap.size + 2 < W.heap.size ∧ W.cell? ⟨w.heap.size + 2, 3, none⟩ = some (.slice (some ⟨g7, 0, none⟩) n n) ∧ W.cell? ⟨g7, j, none⟩ = some (.slice (some ⟨gi, 0, none⟩) c c)) => (show w.heap.size + 2 < (W.setCell ⟨gi, i, none⟩ u).heap.size ∧ (W.setCell ⟨gi, i, none⟩ u).cell? ⟨w.heap.size + 2, 3, none⟩ = some (.slice (some ⟨g7, 0, none⟩) n n) ∧ (W.setCell ⟨gi, i, none⟩ u).cell? ⟨g7, j, none⟩ = some (.slice (some ⟨gi, 0, none⟩) c c) from ⟨by rw [World.size_setCell]; exact h.1, (cell_other hg).trans h.2.1, (cell_other hnegi).trans h.2.2⟩))
      have HK4 := Lib.hid (fun (k : Nat) (W : World) (hb : RdB w s (p + 1 + 4 * k) (y0 : Nat) (y1 : Nat) y2 (.slice (some ⟨g7, 0, none⟩) n n) W) (hr : RdR g7 g7 n (M.set j ⟨.slice (some ⟨gi, 0, none⟩) c c, lvTo s (p + 1) c k⟩) W) => (HT4.out _ _ _ _ _ _ hb.drew).mono fun e w' h => (show e = .returned (.int .u64 (num s (p + 1 + 4 * k) 4 : Nat)) ∧ (w.heap.size + 2 < w'.heap.size ∧ w'.cell? ⟨w.heap.size + 2, 3, none⟩ = some (.slice (some ⟨g7, 0, none⟩) n n) ∧ w'.cell? ⟨g7, j, none⟩ = some (.slice (some ⟨gi, 0, none⟩) c c)) ∧ RdB w s (p + 1 + 4 * k + 4) (y0 : Nat) (y1 : Nat) y2 (.slice (some ⟨g7, 0, none⟩) n n) w' ∧ RdR g7 g7 n (M.set j ⟨.slice (some ⟨gi, 0, none⟩) c c, lvTo s (p + 1) c k⟩) w' from by
        have hr' : RdR g7 g7 n (M.set j ⟨.slice (some ⟨gi, 0, none⟩) c c, lvTo s (p + 1) c k⟩) w' := by rw [h.2.2]; exact hr.drew.far (b := w.heap.size + 1) (i := 0) (by omega) _
        exact ⟨h.1, ⟨h.2.1.cells.2.2.2.2.2, h.2.1.cells.2.2.2.1, (hr'.at_ (HMJ.out _)).1⟩, h.2.1, hr'⟩))
      go_wp2
      go_loopg [39] c (fun g i wx => ∃ (k : Nat), k + g = c ∧ i = .int .i64 k ∧ RdB w s (p + 1 + 4 * k) (y0 : Nat) (y1 : Nat) y2 (.slice (some ⟨g7, 0, none⟩) n n) wx ∧ RdR g7 g7 n (M.set j ⟨.slice (some ⟨gi, 0, none⟩) c c, lvTo s (p + 1) c k⟩) wx)
      case atStart => exact ⟨0, by omega, rfl, HBD.out, HRD.out⟩
      case round =>
        obtain ⟨k, hkg, rfl, hB, hR⟩ := hrel
        clear HBD HRD k3' kl' kj
        have HBK := Lib.hid hB
        have HRK := Lib.hid hR
        clear hB hR
        cases gk with
        | zero =>
          obtain rfl : k = c := by omega
          have l2 : ¬ (k : Int) < (k : Int) := by omega
          have HFB := HBK.out
          have HFR := HRK.out
          have HFL := HL.out.next (v := .slice (some ⟨gi, 0, none⟩) k k) hjn (num_one s p)
          rw [HC.out] at HFL
          rw [lvTo_full] at HFR
          have H1 := Lib.hid HFB
          have H2 := Lib.hid HFR
          have H3 := Lib.hid HFL
          clear HFB HFR HFL
          go_wp2
          go_roundg gi0
          case measure => omega
          case rel => exact ⟨j + 1, _, _, by omega, by go_num, H1.out, H2.out, H3.out⟩
        | succ gj =>
          have hkc : k < c := by omega
          have l2 : (k : Int) < (c : Int) := by omega
          obtain ⟨-, -, -, k3', -, kl'⟩ := HBK.out.cells
          obtain ⟨kj, -⟩ := HRK.out.at_ (HMJ.out _)
          simp only at kj
          have hs2 : w.heap.size + 2 < wr.drew.heap.size ∧ wr.drew.cell? ⟨w.heap.size + 2, 3, none⟩ = some (.slice (some ⟨g7, 0, none⟩) n n) ∧ wr.drew.cell? ⟨g7, j, none⟩ = some (.slice (some ⟨gi, 0, none⟩) c c) := ⟨kl', k3', kj⟩
          have K4 := HK4.out k wr HBK.out HRK.out
          obtain ⟨x, hx⟩ : ∃ x, num s (p + 1 + 4 * k) 4 = x := ⟨_, rfl⟩
          have hx4 := num_four s (p + 1 + 4 * k)
          have hset := lvTo_set s (p + 1) hkc
          rw [hx] at K4 hx4 hset
          have HSET := Lib.hid hset
          have K := Lib.hid K4
          have qx : IntKind.i64.wrap ((x : Nat) : Int) = ((x : Nat) : Int) := IntWalk.i64_in _ ⟨by omega, by omega⟩
          have hgz : w.heap.size + 2 ≠ gi := by have := (HRK.out.put (j := k) (HMJ.out _) (lvTo_length s (p + 1) (by omega)).symm 0).2.1; omega
          clear K4 hx hset
          go_upto_region 15 with fail
          go_region_held3 (fun W => w.heap.size + 2 < W.heap.size ∧ W.cell? ⟨w.heap.size + 2, 3, none⟩ = some (.slice (some ⟨g7, 0, none⟩) n n) ∧ W.cell? ⟨g7, j, none⟩ = some (.slice (some ⟨gi, 0, none⟩) c c))
            (first | (with_reducible assumption) | (with_reducible exact HS2.out _ _ _ hgz (by with_reducible assumption)) | fail)
            (first
            | (go_at_call 38; ((with_reducible refine K.out.mono ?_); rintro e w9 ⟨rfl, hS9, hB9, hR9⟩; obtain ⟨hput, hgi7, ff, fex⟩ := hR9.put (j := k) (HMJ.out _) (lvTo_length s (p + 1) (by omega)).symm ((x : Nat) : Int); obtain ⟨xu, fc⟩ := fex hkc))
            | fail)
          rw [HMS.out, HSET.out] at hput
          have hBn := hB9.set (i := k) (show w.heap.size + 3 ≤ gi by omega) (.int .i64 ((x : Nat) : Int))
          rw [show p + 1 + 4 * k + 4 = p + 1 + 4 * (k + 1) by omega] at hBn
          have H1 := Lib.hid hBn
          have H2 := Lib.hid hput
          clear hBn hput hS9 hB9 hR9 K ff fc hs2
          go_wp2
          go_roundg gj
          case measure => omega
          case rel => exact ⟨k + 1, by omega, by go_num, H1.out, H2.out⟩
end Go.Proofs.Ytcfidpjhemjbjaa
