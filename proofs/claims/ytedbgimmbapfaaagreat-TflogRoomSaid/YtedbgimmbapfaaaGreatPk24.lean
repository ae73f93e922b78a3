/- TfRecords, TfWhole, Zeros, TfLodged, StrsIn -/
import Derived.Test.YtedbgimmbapfaaaGreatPk23
import Derived.Test.YtedbgimmbapfaaaGreatPk09
import Derived.Test.YtedbgimmbapfaaaGreatPk01
import Derived.Deep.Slices
import Derived.ChangeSame
import Derived.WideShapes
import Derived.Carry
import Derived.ProofKit
/- TfRecords -/
namespace Go.Proofs.YtedbgimmbapfaaaGreat
open Go.RowKit Go.Shelf
set_option linter.unusedVariables false

theorem own_same {w w' : World} {base n size : Nat} {e : TypeId} {v : Value} {xs : List Value} (h : w.ownsRow base e size v n xs) (hb : ∀ b, v.ownBlock = some b → w'.heap[b]? = w.heap[b]?) : w'.ownsRow base e size v n xs := by
  refine ⟨h.1, ?_⟩
  rcases h.2 with h0 | ⟨g, cap, cur, rfl, hg, hh, h1, h2, h3, h4⟩
  · exact Or.inl h0
  · exact Or.inr ⟨g, cap, cur, rfl, hg, (hb g rfl).trans hh, h1, h2, h3, h4⟩
def rowsCtx (c : Ctx) (vp vq : Value) (W : World) : Ctx := { c with G := vp.ownBlock.toList ++ (vq.ownBlock.toList ++ c.G), wG := W }
/-- A log, and two rows beside it: texts and numbers. -/
structure RecSt (At : Lies) (c : Ctx) (gl gd : Nat) (L : LogS) (D : DiskS) (w : World) (vp vq : Value) (lp : List ByteArray) (lq : List Int) (W : World) : Prop where
  log : TSt At (rowsCtx c vp vq W) gl gd L D W
  texts : W.ownsRow w.heap.size 9 1 vp lp.length (strsV lp)
  nums : W.ownsRow w.heap.size 3 1 vq lq.length (ints lq)
  keep : KeepG c w W
section
variable {At : Lies} (api : DiskApi At) {c : Ctx} {gl gd : Nat} {L L' : LogS} {D D' : DiskS} {w W W' : World} {vp vq : Value} {lp : List ByteArray} {lq : List Int}
include api
theorem RecSt.start (h : TSt At c gl gd L D w) : RecSt At c gl gd L D w (.slice none 0 0) (.slice none 0 0) [] [] w := by
  have hk := h.keep
  refine ⟨h.own api (Touch.refl _ w) (fun b hb => Or.inl (by simpa [Value.ownBlock] using hb)) (fun b hb => (hk.2.2 b (by simpa [Value.ownBlock] using hb)).1), World.ownsRow_nil _ _ _ _, World.ownsRow_nil _ _ _ _, hk⟩
theorem RecSt.move (h : RecSt At c gl gd L D w vp vq lp lq W) (hT : TSt At (rowsCtx c vp vq W) gl gd L' D' W') : RecSt At c gl gd L' D' w vp vq lp lq W' := by
  have hg : ∀ b ∈ (rowsCtx c vp vq W).G, W'.heap[b]? = W.heap[b]? := fun b hb => hT.guest hb
  have hsz : W.heap.size ≤ W'.heap.size := by
    obtain ⟨F, h1, h2, h3, h4, h5, h6, h7⟩ := hT
    exact h6
  refine ⟨?_, own_same h.texts (fun b hb => hg b (by simp [rowsCtx, hb])), own_same h.nums (fun b hb => hg b (by simp [rowsCtx, hb])), Nat.le_trans h.keep.1 hsz, h.keep.2.1, fun b hb => ⟨(h.keep.2.2 b hb).1, (hg b (by simp [rowsCtx, hb])).trans (h.keep.2.2 b hb).2⟩⟩
  exact hT.own api (Touch.refl _ W') (fun b hb => Or.inl hb) (fun b hb => (hT.lt hb).2)
/-- One text and one number more. -/
theorem RecSt.push (h : RecSt At c gl gd L D w vp vq lp lq W) (hlp : lp.length ≤ 1000000) (hlq : lq.length ≤ 1000000) (p : ByteArray) (x : Int) :
    ∃ vp' W1 vq' W2, (∀ ty, (Builtin.append_ #[46, 46] ty #[vp, .slice (some ⟨W.heap.size, 0, none⟩) 1 1]).run Tryz.prog (W.alloc (.cells #[.string p] 9)) = .ok vp' W1) ∧
      (∀ ty, (Builtin.append_ #[47, 47] ty #[vq, .slice (some ⟨W1.heap.size, 0, none⟩) 1 1]).run Tryz.prog (W1.alloc (.cells #[.int .i64 x] 3)) = .ok vq' W2) ∧
      RecSt At c gl gd L D w vp' vq' (lp ++ [p]) (lq ++ [x]) W2 := by
  have hb : w.heap.size ≤ W.heap.size := h.keep.1
  obtain ⟨vp', W1, r1, o1, t1, n1, A1, c1, e1⟩ := push_str h.texts hb hlp p
  have hne : ∀ b, vq.ownBlock = some b → vp.ownBlock ≠ some b := own_own_ne h.texts h.nums (by decide)
  have q1 : W1.ownsRow w.heap.size 3 1 vq lq.length (ints lq) := own_touch h.nums t1 (fun b hb2 hm => hne b hb2 (by simpa using hm))
  obtain ⟨vq', W2, r2, o2, t2, n2, A2, c2, e2⟩ := push_int q1 (Nat.le_trans hb t1.size) hlq x
  have hne2 : ∀ b, vq.ownBlock = some b → vp'.ownBlock ≠ some b := own_own_ne o1 q1 (by decide)
  have o3 : W2.ownsRow w.heap.size 9 1 vp' (lp.length + 1) (strsV lp ++ [.string p]) := own_touch o1 t2 (fun b hb2 hm => hne2 b (by simpa using hm) hb2)
  have hGlow : ∀ b ∈ c.G, ∀ v : Value, (∀ g, v.ownBlock = some g → w.heap.size ≤ g) → b ∉ v.ownBlock.toList := by
    intro b hb2 v hv hm
    have h1 := hv b (by simpa using hm)
    have h2 := (h.keep.2.2 b hb2).1
    omega
  have lowp : ∀ g, vp.ownBlock = some g → w.heap.size ≤ g := fun g hg => (h.texts.lt g hg).1
  have lowq : ∀ g, vq.ownBlock = some g → w.heap.size ≤ g := fun g hg => (h.nums.lt g hg).1
  have hT : Touch (rowsCtx c vp vq W).G W W2 := (t1.more (fun b hb2 => Or.inl (by simp [rowsCtx] at hb2 ⊢; exact Or.inl hb2))).trans t2 (fun b hb2 => Or.inl (by simp [rowsCtx] at hb2 ⊢; exact Or.inr (Or.inl hb2)))
  refine ⟨vp', W1, vq', W2, r1, r2, ?_, ?_, ?_, ?_⟩
  · refine h.log.own api hT (fun b hb2 => ?_) (fun b hb2 => ?_)
    · simp only [rowsCtx, List.mem_append, Option.mem_toList] at hb2 ⊢
      rcases hb2 with hb2 | hb2 | hb2
      · rcases n1 b hb2 with k | k
        · exact Or.inl (Or.inl k)
        · exact Or.inr k
      · rcases n2 b hb2 with k | k
        · exact Or.inl (Or.inr (Or.inl k))
        · exact Or.inr (Nat.le_trans t1.size k)
      · exact Or.inl (Or.inr (Or.inr hb2))
    · simp only [List.mem_append, Option.mem_toList] at hb2
      rcases hb2 with hb2 | hb2 | hb2
      · exact (o3.lt b hb2).2
      · exact (o2.lt b hb2).2
      · have := (h.keep.2.2 b hb2).1
        have := t1.size
        have := t2.size
        omega
  · rw [List.length_append, List.length_singleton]
    unfold strsV at o3 ⊢
    rw [List.map_append]
    exact o3
  · rw [List.length_append, List.length_singleton]
    unfold ints at o2 ⊢
    rw [List.map_append]
    exact o2
  · refine ⟨Nat.le_trans hb (Nat.le_trans t1.size t2.size), h.keep.2.1, fun b hb2 => ⟨(h.keep.2.2 b hb2).1, ?_⟩⟩
    have h2 := (h.keep.2.2 b hb2).1
    have z1 := t1.size
    exact (t2.block b (by omega) (hGlow b hb2 vq lowq)).trans ((t1.block b (by omega) (hGlow b hb2 vp lowp)).trans (h.keep.2.2 b hb2).2)
end
def recP (chs : List (List ByteArray)) : List ByteArray := (allAt 0 chs).map (fun x => x.2)
def recI (chs : List (List ByteArray)) : List Int := (allAt 0 chs).map (fun x => (x.1 : Int))
/-- What records ends with. -/
def RecEnd (At : Lies) (c : Ctx) (gl gd : Nat) (L : LogS) (D : DiskS) (chs : List (List ByteArray)) (w : World) (e : Ending) (w' : World) : Prop :=
  ∃ vp vq cnt, e = .returned (.tuple #[vp, vq, .bool true]) ∧ cnt ≤ D.count + 300000 ∧ RecSt At c gl gd L { D with count := cnt } w vp vq (recP chs) (recI chs) w'
section
variable {At : Lies} (api : DiskApi At) (nap : NamesApi) (cap : ChunksApi) {c : Ctx} {gl gd : Nat} {L L' : LogS} {D D' : DiskS} {w w' : World} {chs : List (List ByteArray)}
include api nap cap
omit api nap cap in
theorem wp_count {D : DiskS} (h : WfP D) (k : Nat) : WfP { D with count := k } := ⟨h.synced, h.used, h.cap, h.many⟩
omit api nap cap in
theorem gl_count (gl : GoodL D L chs) (k : Nat) : GoodL { D with count := k } L chs := ⟨gl.starts, gl.nch, gl.endp, gl.sure⟩
set_option maxRecDepth 100000 in
set_option maxHeartbeats 4000000 in
theorem records_run (hm : c.m = ptr gl) (h : TSt At c gl gd L D w) (g : GoodD D chs) (gg : GoodL D L chs) (ok : WfP D) (hct : D.count ≤ 900000000) (hN : (allAt 0 chs).length ≤ 900) : Calls Tryz.prog 16 #[ptr gl] w (RecEnd At c gl gd L D chs w) := by
  obtain ⟨R, hR⟩ : ∃ R, R = allAt 0 chs := ⟨_, rfl⟩
  have S0 := Lib.hid (RecSt.start api h)
  have HM := Lib.hid hm
  have G := Lib.hid g
  have GG := Lib.hid gg
  have OK := Lib.hid ok
  have HCT := Lib.hid hct
  have HN := Lib.hid (show R.length ≤ 900 by rw [hR]; exact hN)
  have HR := Lib.hid hR
  clear h hm g gg ok hct hN hR
  go_enter Tryz.func16, Tryz.ntmps16
  go_wp2
  go_loopw [5, 6, 7, 8] (fun vp vq ps tn wr => ∃ k cnt : Nat, k ≤ R.length ∧ tn = .int .i64 k ∧ ps = .int .i64 (posK R k : Nat) ∧ cnt ≤ D.count + 202 * k ∧ RecSt At c gl gd L { D with count := cnt } w vp vq ((R.take k).map (fun x => x.2)) ((R.take k).map (fun x => (x.1 : Int))) wr) (fun _ _ _ tn _ => R.length - (intOf tn).toNat)
  case atStart => exact ⟨0, D.count, Nat.zero_le _, rfl, rfl, Nat.le_refl _, S0.out⟩
  case round =>
    obtain ⟨k, cnt, hk, rfl, rfl, hcnt, hS⟩ := hrel
    have HS := Lib.hid hS
    have HCN := Lib.hid hcnt
    have HK := Lib.hid hk
    have hn900 := HN.out
    have hct := HCT.out
    have l1 : decide ((k : Int) < 1000) = true := decide_eq_true (by omega)
    have g2 := G.out.same (SameF.count D cnt)
    have gg2 := gl_count GG.out cnt
    have ok2 := wp_count OK.out cnt
    obtain ⟨c2, hc2, hnx⟩ : ∃ c2, c2 ≤ cnt + 200 ∧ nextT { D with count := cnt } L (posK R k : Nat) = firstS (allAt 0 chs) (posK R k : Nat) { D with count := c2 } := next_good g2 gg2 (posK R k)
    have hpos : posK R k ≤ 900000 := by
      unfold posK
      split
      · omega
      · rename_i h0
        rw [List.getElem?_eq_getElem (by omega)]
        have hx := List.getElem_mem (show k - 1 < R.length by omega)
        generalize R[k - 1] = x at *
        rw [HR.out] at hx
        obtain ⟨q1, q2⟩ := read_good (q := x.1) (p := x.2) G.out GG.out hx
        obtain ⟨j, ps, hj, y, hy, e1, e2⟩ := allAt_mem chs 0 x hx
        obtain ⟨hj199, f, h1, h2, h3, h4, h5⟩ := chunk_good G.out hj
        have := (row_at ps (hdS (j : Nat)) h5 y (by rw [hd_size hj199]; exact hy)).2.2.2.2.2.2
        show x.1 + (x.2.size + 12) ≤ _
        rw [e2]
        omega
    have hNx := Lib.hid (tnext_t api nap cap (c := rowsCtx c u5 u6 wr) HM.out HS.out.log ok2 (by have := HCN.out; show cnt ≤ 1000000000; omega) (posK R k : Nat) (wf_nat (by omega)) (by rw [gg2.nch]; exact g2.many))
    rw [hnx] at hNx
    have hF := first_posK G.out { D with count := c2 } (k := k) (by rw [← HR.out]; exact hk)
    rw [← HR.out] at hF hNx
    rw [hF] at hNx
    have EE := Lib.hid (show (L.endp : Int) = (endS chs : Nat) by rw [GG.out.endp])
    by_cases hlt : k < R.length
    · have hx : R[k]? = some R[k] := List.getElem?_eq_getElem hlt
      have hxm : R[k] ∈ allAt 0 chs := by rw [← HR.out]; exact List.getElem_mem hlt
      have hpk : posK R k ≤ R[k].1 := by
        have hri := (allAt_rise chs 0 (fun ps hps => (G.out.small ps hps).1)).1
        rw [← HR.out] at hri
        unfold posK
        split
        · exact Nat.zero_le _
        · rw [List.getElem?_eq_getElem (by omega)]
          exact List.pairwise_iff_getElem.1 hri (k - 1) k (by omega) hlt (by omega)
      have hps := posK_succ hx
      rw [hx] at hNx
      generalize R[k] = x at *
      obtain ⟨q, p⟩ := x
      dsimp only at hNx hpk
      have g3 := G.out.same (SameF.count D c2)
      have gg3 := gl_count GG.out c2
      have ok3 := wp_count OK.out c2
      obtain ⟨hrd, hq⟩ := read_good g3 gg3 hxm
      have hpz : p.size ≤ 2000 := by
        obtain ⟨j, ps, hj, y, hy, e1, e2⟩ := allAt_mem chs 0 _ hxm
        obtain ⟨hj199, f, h1, h2, h3, h4, h5⟩ := chunk_good G.out hj
        have := (row_at ps (hdS (j : Nat)) h5 y (by rw [hd_size hj199]; exact hy)).2.2.2.2.2.2
        dsimp only at e2
        rw [e2]
        exact this
      have hRd := Lib.hid fun (W : World) (hT : TSt At (rowsCtx c u5 u6 wr) gl gd L { D with count := c2 } W) => tread_run api nap (c := rowsCtx c u5 u6 wr) HM.out hT ok3 (by have := HCN.out; show c2 ≤ 1000000000; omega) (q : Nat) (wf_nat (by omega)) (by rw [gg3.nch]; exact g3.many)
      rw [hrd] at hRd
      have t1 : decide ((q : Int) < (posK R k : Int)) = false := decide_eq_false (by omega)
      have t1n : decide (q < posK R k) = false := decide_eq_false (by omega)
      have eR : ((endR (q, p) : Nat) : Int) = (q : Int) + (p.size : Nat) + 12 := by show ((q + (p.size + 12) : Nat) : Int) = _; omega
      have hw1 : IntKind.i64.wrap ((q : Int) + (p.size : Nat)) = (q : Int) + (p.size : Nat) := IntWalk.i64_in _ (by omega)
      have hw2 : IntKind.i64.wrap ((q : Int) + (p.size : Nat) + 12) = (q : Int) + (p.size : Nat) + 12 := IntWalk.i64_in _ (by omega)
      have t2 : ((q : Int) + (p.size : Nat) + 12 != (q : Int) + (p.size : Nat) + 12) = false := by simp
      have t3 : (p.toList != p.toList) = false := by simp
      have t4 : (p.toList == p.toList) = true := by simp
      have hw9 : IntKind.i64.wrap ((k : Int) + 1) = (k : Int) + 1 := IntWalk.i64_in _ (by omega)
      rw [eR] at hNx
      have HPS := Lib.hid hps
      have HLT := Lib.hid hlt
      have hC := Lib.hid (show c2 + 2 ≤ D.count + 202 * (k + 1) by have := HCN.out; omega)
      have hTk : (R.take (k + 1)).map (fun x => x.2) = (R.take k).map (fun x => x.2) ++ [p] ∧ (R.take (k + 1)).map (fun x => (x.1 : Int)) = (R.take k).map (fun x => (x.1 : Int)) ++ [(q : Int)] := by
        rw [List.take_add_one, hx]
        simp
      have HTK := Lib.hid hTk
      have HLL := Lib.hid (show ((R.take k).map (fun x => x.2)).length ≤ 1000000 ∧ ((R.take k).map (fun x => (x.1 : Int))).length ≤ 1000000 by
        rw [List.length_map, List.length_map, List.length_take]
        omega)
      obtain ⟨A5, cap5, hv5, -, -, -⟩ := own_form HS.out.texts
      obtain ⟨A6, cap6, hv6, -, -, -⟩ := own_form HS.out.nums
      generalize (R.take k).map (fun x => x.2) = lp at *
      generalize (R.take k).map (fun x => (x.1 : Int)) = lq at *
      generalize posK R k = pk at *
      clear hx hxm hpk hps hlt hq hpz hpos hnx hrd hF g2 gg2 ok2 g3 gg3 ok3 hc2 hn900 hct hTk eR
      subst hv5 hv6
      go_wp2_with fail
      refine hNx.out.mono ?_
      rintro e w2 ⟨rfl, h2⟩
      have H2 := Lib.hid h2
      clear h2 hNx
      go_wp2_with fail
      refine (hRd.out _ H2.out).mono ?_
      rintro e w3 ⟨rfl, h3⟩
      have hS3 := HS.out.move api h3
      obtain ⟨vp', W1, vq', W2, r1, r2, hS4⟩ := hS3.push api HLL.out.1 HLL.out.2 p (q : Int)
      have R1 := Lib.hid r1
      have R2 := Lib.hid r2
      have HS4 := Lib.hid hS4
      clear h3 hS3 r1 r2 hS4 hRd
      go_wp2_with (first | (at_builtin; first | refine wpList_append_two rfl _ _ rfl rfl rfl (R1.out _) ?_ | refine wpList_append_two rfl _ _ rfl rfl rfl (R2.out _) ?_) | fail)
      exact ⟨⟨k + 1, c2 + 2, by have := HLT.out; omega, by go_num, by rw [HPS.out]; show _ = Value.int .i64 ((q + (p.size + 12) : Nat) : Int); congr 1, hC.out, by rw [HTK.out.1, HTK.out.2]; exact HS4.out⟩, by simp [intOf]; have := HLT.out; omega⟩
    · obtain rfl : k = R.length := by omega
      rw [List.getElem?_eq_none (Nat.le_refl _)] at hNx
      dsimp only at hNx
      have e1 : (R.take R.length).map (fun x => x.2) = recP chs := by rw [List.take_of_length_le (Nat.le_refl _), HR.out]; rfl
      have e2 : (R.take R.length).map (fun x => (x.1 : Int)) = recI chs := by rw [List.take_of_length_le (Nat.le_refl _), HR.out]; rfl
      have hEn := Lib.hid fun (W : World) => ends_run (endS chs) (posK R R.length) W (by rw [HR.out]; exact end_posK chs (fun ps hps => (G.out.small ps hps).1)) (by
        have hm200 := G.out.many
        unfold endS
        split
        · omega
        · obtain ⟨f, _, _, _, h4⟩ := last_good G.out (by omega)
          omega) (by omega)
      have HCC := Lib.hid (show c2 ≤ D.count + 300000 by have := HCN.out; omega)
      have hE := EE.out
      have HS2 := Lib.hid HS.out
      rw [e1, e2] at HS2
      obtain ⟨A5, cap5, hv5, -, -, -⟩ := own_form HS2.out.texts
      obtain ⟨A6, cap6, hv6, -, -, -⟩ := own_form HS2.out.nums
      clear hlt hk hpos hnx hF g2 gg2 ok2 hc2 hn900 hct e1 e2 HS
      generalize posK R R.length = pk at *
      generalize (endS chs : Nat) = en at *
      subst hv5 hv6
      go_wp2_with fail
      refine hNx.out.mono ?_
      rintro e w2 ⟨rfl, h2⟩
      have d0 := h2.cells.1
      rw [show (rowsCtx c _ _ wr).m = ptr gl from HM.out] at d0
      have d4 := h2.cells.2.2.2.2.1
      rw [hE] at d4
      have hEd := Lib.hid (tend_run d0 d4)
      have H2 := Lib.hid h2
      clear h2 hNx d0 d4
      go_wp2_with fail
      refine hEd.out.mono ?_
      rintro e w3 ⟨rfl, rfl⟩
      go_wp2_with fail
      refine (hEn.out _).mono ?_
      rintro e w3 ⟨rfl, rfl⟩
      go_wp2
      go_ret3
      exact ⟨_, _, c2, rfl, HCC.out, HS2.out.move api H2.out⟩
end
end Go.Proofs.YtedbgimmbapfaaaGreat

/- TfWhole -/
namespace Go.Proofs.YtedbgimmbapfaaaGreat
open Go.RowKit Go.Shelf
set_option linter.unusedVariables false

/-- A disk whose chunks are these: its capacity, how often it was read at most, how many bytes there are. -/
structure FineD (C N u : Nat) (chs : List (List ByteArray)) (D : DiskS) : Prop where
  good : GoodD D chs
  wf : WfP D
  count : D.count ≤ N
  len : D.l.length = chs.length
  cap : D.cap = C
  used : usedS D.l = u
def LdSt (At : Lies) (c : Ctx) (gd C N u : Nat) (chs : List (List ByteArray)) (w : World) : Prop := ∃ D, DSt At c gd D w ∧ FineD C N u chs D
def LwSt (At : Lies) (c : Ctx) (gl gd C N u sure : Nat) (chs : List (List ByteArray)) (w : World) : Prop := ∃ L D, TSt At c gl gd L D w ∧ FineD C N u chs D ∧ GoodL D L chs ∧ L.sure = sure ∧ c.m = ptr gl
theorem FineD.more {C N N' u : Nat} {chs : List (List ByteArray)} {D : DiskS} (h : FineD C N u chs D) {k : Nat} (hk : k ≤ N') : FineD C N' u chs { D with count := k } := ⟨h.good.same (SameF.count D k), wp_count h.wf k, hk, h.len, h.cap, h.used⟩
theorem FineD.same {C N N' u : Nat} {chs : List (List ByteArray)} {D E : DiskS} (h : FineD C N u chs D) (hs : SameF D E) (hw : WfP E) (hk : E.count ≤ N') : FineD C N' u chs E := ⟨h.good.same hs, hw, hk, hs.length.trans h.len, hs.cap.trans h.cap, hs.used.trans h.used⟩
theorem GoodL.same {D E : DiskS} {L : LogS} {chs : List (List ByteArray)} (h : GoodL D L chs) (hs : SameF D E) : GoodL E L chs := ⟨hs.starts.trans h.starts, h.nch, h.endp, h.sure⟩
theorem wp_openT {D : DiskS} (h : WfP D) : WfP (openT D).2.1 := by
  unfold openT
  refine wp_then (wp_then (wp_sweep h) (fun E _ hE => hE)) (fun E L hE => ?_)
  unfold loadT
  have : ∀ (k n : Nat) (E : DiskS) (L : LogS), WfP E → WfP (loadK k n E L).2.1 := by
    intro k
    induction k with
    | zero => intro n E L hE; exact hE
    | succ k ih =>
      intro n E L hE
      have h1 := wp_rdC hE (nmC n)
      unfold loadK
      split
      · exact h1
      · split
        · exact h1
        · split
          · unfold mendT
            split
            · exact wp_delete h1 _
            · split
              · show WfP (rewriteT _ _ _).2
                have ht : ∀ (a : Nat × DiskS) (f : DiskS → Nat × DiskS), WfP a.2 → (∀ D, WfP D → WfP (f D).2) → WfP (thenD a f).2 := by
                  intro a f ha hf
                  unfold thenD
                  split
                  · exact hf _ ha
                  · exact ha
                exact ht _ _ (ht _ _ (ht _ _ (wp_create h1 _) (fun D hD => wp_append hD _ _)) (fun D hD => wp_sync hD _)) (fun D hD => wp_rename hD _ _)
              · exact wp_sync h1 _
          · split
            · exact h1
            · exact ih _ _ _ h1
  exact this _ _ _ _ hE
section
variable {At : Lies} (api : DiskApi At) (nap : NamesApi) (cap : ChunksApi) {c : Ctx} {gl gd C N u sure : Nat} {chs : List (List ByteArray)} {w w' : World}
theorem LwSt.made (h : LwSt At c gl gd C N u sure chs w) : w.cell? ⟨gl, 0, none⟩ = some (ptr gl) ∧ w.cell? ⟨gl, 4, none⟩ = some (.int .i64 (endS chs : Nat)) ∧ w.cell? ⟨gl, 5, none⟩ = some (.int .i64 (sure : Nat)) := by
  obtain ⟨L, D, h1, h2, h3, h4, h5⟩ := h
  obtain ⟨c0, _, _, _, c4, c5⟩ := h1.cells
  rw [h5] at c0
  rw [h3.endp] at c4
  rw [h4] at c5
  exact ⟨c0, c4, c5⟩
theorem LwSt.end_ (h : LwSt At c gl gd C N u sure chs w) : Calls Tryz.prog 11 #[ptr gl] w fun e w' => e = .returned (.int .i64 (endS chs : Nat)) ∧ w = w' := tend_run h.made.1 h.made.2.1
theorem LwSt.sure_ (h : LwSt At c gl gd C N u sure chs w) : Calls Tryz.prog 12 #[ptr gl] w fun e w' => e = .returned (.int .i64 (sure : Nat)) ∧ w = w' := tsure_run h.made.1 h.made.2.2
include api
theorem LwSt.touch (h : LwSt At c gl gd C N u sure chs w) (ht : Touch [] w w') : LwSt At c gl gd C N u sure chs w' := by
  obtain ⟨L, D, h1, h2⟩ := h
  exact ⟨L, D, h1.touch api ht, h2⟩
theorem LwSt.free (h : LwSt At c gl gd C N u sure chs w) : Calls Tryz.prog 18 #[ptr gd] w fun e w' => e = .returned (.int .i64 ((C : Nat) - (u : Nat) : Int)) ∧ LwSt At c gl gd C N u sure chs w' := by
  obtain ⟨L, D, h1, h2, h3⟩ := h
  refine (h1.disk api (fun F hF => api.free hF h2.wf.ok)).mono ?_
  rintro e w' ⟨rfl, hT⟩
  exact ⟨by rw [h2.cap, h2.used], L, D, hT, h2, h3⟩
include nap
theorem LwSt.read (h : LwSt At c gl gd C N u sure chs w) (hN : N ≤ 900000000) {q : Nat} {p : ByteArray} (hq : (q, p) ∈ allAt 0 chs) : Calls Tryz.prog 8 #[ptr gl, .int .i64 (q : Nat)] w fun e w' => e = .returned (.tuple #[.string p, .int .i64 0]) ∧ LwSt At c gl gd C (N + 2) u sure chs w' := by
  obtain ⟨L, D, h1, h2, h3, h4, h5⟩ := h
  obtain ⟨hr, hq2⟩ := read_good h2.good h3 hq
  have := tread_run api nap h5 h1 h2.wf (by have := h2.count; omega) (q : Nat) (wf_nat (by omega)) (by rw [h3.nch]; exact h2.good.many)
  rw [hr] at this
  refine this.mono ?_
  rintro e w' ⟨rfl, hT⟩
  exact ⟨rfl, L, _, hT, h2.more (by have := h2.count; show D.count + 2 ≤ _; omega), h3.same (SameF.count D _), h4, h5⟩
theorem LwSt.flush (h : LwSt At c gl gd C N u sure chs w) : Calls Tryz.prog 10 #[ptr gl] w fun e w' => e = .returned (.int .i64 0) ∧ LwSt At c gl gd C N u (endS chs) chs w' := by
  obtain ⟨L, D, h1, h2, h3, h4, h5⟩ := h
  obtain ⟨E, hf, hs, hc⟩ := flush_good h2.good h3
  have hR := flush_run api nap h5 h1 h2.wf (by rw [h3.nch]; exact h2.good.many)
  have hw : WfP (flushT D L).2.1 := by
    unfold flushT
    split
    · exact h2.wf
    · exact wp_sync_t h2.wf
  rw [hf] at hR hw
  refine hR.mono ?_
  rintro e w' ⟨rfl, hT⟩
  exact ⟨rfl, _, E, hT, h2.same hs hw (by rw [hc]; exact h2.count), ⟨hs.starts.trans h3.starts, h3.nch, h3.endp, Nat.le_refl _⟩, h3.endp, h5⟩
include cap
theorem LwSt.next (h : LwSt At c gl gd C N u sure chs w) (hN : N ≤ 900000000) (pos : Nat) (hp : pos ≤ 9223372036854775807) : Calls Tryz.prog 9 #[ptr gl, .int .i64 (pos : Nat)] w fun e w' => ∃ D, e = .returned (.tuple #[.string (firstS (allAt 0 chs) (pos : Nat) D).p, .int .i64 (firstS (allAt 0 chs) (pos : Nat) D).at_, .int .i64 (firstS (allAt 0 chs) (pos : Nat) D).next, err (firstS (allAt 0 chs) (pos : Nat) D).e]) ∧ LwSt At c gl gd C (N + 200) u sure chs w' := by
  obtain ⟨L, D, h1, h2, h3, h4, h5⟩ := h
  obtain ⟨k, hk, hx⟩ := next_good h2.good h3 pos
  have := tnext_t api nap cap h5 h1 h2.wf (by have := h2.count; omega) (pos : Nat) (wf_nat hp) (by rw [h3.nch]; exact h2.good.many)
  rw [hx] at this
  refine this.mono ?_
  rintro e w' ⟨rfl, hT⟩
  have hD : (firstS (allAt 0 chs) (pos : Nat) { D with count := k }).D = { D with count := k } := by
    unfold firstS
    split <;> rfl
  rw [hD] at hT
  exact ⟨_, rfl, L, _, hT, h2.more (by have := h2.count; omega), h3.same (SameF.count D _), h4, h5⟩
/-- What an append leads to. -/
def AppTo (At : Lies) (c : Ctx) (gl gd C N u sure : Nat) (chs : List (List ByteArray)) (p : ByteArray) (e : Ending) (w' : World) : Prop :=
  e = .returned (.tuple #[.int .i64 (plQ chs p : Nat), .int .i64 0]) ∧ ∃ u', u' ≤ u + (p.size + 24) ∧ u' + 6000 ≤ C ∧ LwSt At c gl gd C N u' (if fitC chs p = true then sure else endS chs) (plC chs p) w' ∧
    allAt 0 (plC chs p) = allAt 0 chs ++ [(plQ chs p, p)] ∧ endS (plC chs p) = plQ chs p + (p.size + 12) ∧ endS chs ≤ plQ chs p ∧ (if fitC chs p = true then sure else endS chs) ≤ plQ chs p ∧ (plC chs p).length ≤ chs.length + 1
theorem LwSt.app_of {L : LogS} {D : DiskS} (h1 : TSt At c gl gd L D w) (h2 : FineD C N u chs D) (h3 : GoodL D L chs) (h4 : L.sure = sure) (h5 : c.m = ptr gl) (p : ByteArray) (hp : p.size ≤ 2000) {q : Nat} {E : DiskS} {M : LogS} {chs' : List (List ByteArray)} (hA : appendT D L p = (q, 0, E, M)) (ha : Appended D L chs p q E M chs') :
    Calls Tryz.prog 7 #[ptr gl, .string p] w (AppTo At c gl gd C N u sure chs p) := by
  have hR := append_run_t api nap cap h5 h1 h2.wf (by rw [h3.nch]; exact h2.good.many) p (by unfold maxLen; omega)
  have hw : WfP (appendT D L p).2.2.1 := wp_appendT h2.wf p
  rw [hA] at hR hw
  refine hR.mono ?_
  rintro e w' ⟨rfl, hT⟩
  have hsu := ha.sureEq
  have hpl := ha.place
  have hch := ha.chunks
  have hen := h3.endp
  subst hpl hch
  refine ⟨rfl, usedS E.l, by have := ha.used; rw [h2.used] at this; exact this, by have := ha.room; rw [h2.cap] at this; exact this, ⟨M, E, hT, ⟨ha.good, hw, by rw [ha.count]; exact h2.count, by have := ha.length; rw [h2.len] at this; omega, ha.cap.trans h2.cap, rfl⟩, ha.log, by rw [hsu, h4, hen], h5⟩, ha.all, ?_, ?_, ?_, ha.longer⟩
  · rw [← ha.log.endp]; exact ha.endp
  · rw [← hen]; exact ha.behind
  · rw [← hen, ← h4, ← hsu]; exact ha.sure
theorem LwSt.append (h : LwSt At c gl gd C N u sure chs w) (p : ByteArray) (hp : p.size ≤ 2000) (h199 : chs.length ≤ 199) (hr : u + (p.size + 24) + 6000 ≤ C) : Calls Tryz.prog 7 #[ptr gl, .string p] w (AppTo At c gl gd C N u sure chs p) := by
  obtain ⟨L, D, h1, h2, h3, h4, h5⟩ := h
  obtain ⟨q, E, M, chs', hA, ha⟩ := append_room h2.good h3 p hp (by rw [h2.len]; omega) h199 (by rw [h2.used, h2.cap]; exact hr)
  exact LwSt.app_of api nap cap h1 h2 h3 h4 h5 p hp hA ha
/-- Whatever room there is. -/
theorem LwSt.append_any (h : LwSt At c gl gd C N u sure chs w) (p : ByteArray) (hp : p.size ≤ 2000) : Calls Tryz.prog 7 #[ptr gl, .string p] w fun e w' =>
    (e = .returned (.tuple #[.int .i64 0, .int .i64 60]) ∧ LwSt At c gl gd C N u sure chs w') ∨ AppTo At c gl gd C N u sure chs p e w' := by
  obtain ⟨L, D, h1, h2, h3, h4, h5⟩ := h
  rcases append_good h2.good h3 p hp (by rw [h2.len]; have := h2.good.many; omega) with hA | ⟨q, E, M, chs', hA, ha⟩
  · have hR := append_run_t api nap cap h5 h1 h2.wf (by rw [h3.nch]; exact h2.good.many) p (by unfold maxLen; omega)
    rw [hA] at hR
    refine hR.mono ?_
    rintro e w' ⟨rfl, hT⟩
    exact Or.inl ⟨rfl, L, D, hT, h2, h3, h4, h5⟩
  · exact (LwSt.app_of api nap cap h1 h2 h3 h4 h5 p hp hA ha).mono fun e w' h => Or.inr h
theorem LwSt.append_long (h : LwSt At c gl gd C N u sure chs w) (p : ByteArray) (hp : 2000 < p.size) (hm : p.size ≤ maxLen) : Calls Tryz.prog 7 #[ptr gl, .string p] w fun e w' => e = .returned (.tuple #[.int .i64 0, .int .i64 3]) ∧ LwSt At c gl gd C N u sure chs w' := by
  obtain ⟨L, D, h1, h2, h3, h4, h5⟩ := h
  have hR := append_run_t api nap cap h5 h1 h2.wf (by rw [h3.nch]; exact h2.good.many) p hm
  rw [Go.Proofs.YtedbgimmbapfaaaGreat.append_long h2.good h3 p hp] at hR
  refine hR.mono ?_
  rintro e w' ⟨rfl, hT⟩
  exact ⟨rfl, L, D, hT, h2, h3, h4, h5⟩
theorem LdSt.open_ (h : LdSt At c gd C N u chs w) (hN : N ≤ 900000000) : Calls Tryz.prog 15 #[ptr gd] w fun e w' => ∃ gl, e = .returned (.tuple #[ptr gl, .int .i64 0]) ∧ w.heap.size ≤ gl ∧ LwSt At { c with m := ptr gl } gl gd C (N + 200) u (endS chs) chs w' := by
  obtain ⟨D, h1, h2⟩ := h
  have hrise : D.l.Pairwise (fun f g => lessB f.name g.name = true) := by
    obtain ⟨F, hF, _⟩ := h1
    exact (api.rise hF).1
  obtain ⟨E, ho, hs, hc⟩ := open_good h2.good hrise
  have hR := open_run api nap cap h1 h2.wf (by have := h2.count; omega)
  have hw := wp_openT h2.wf
  rw [ho] at hR hw
  refine hR.mono ?_
  rintro e w' (⟨_, gl, rfl, hl, hT⟩ | ⟨h0, _⟩)
  · exact ⟨gl, rfl, hl, _, E, hT, h2.same hs hw (by have := h2.count; omega), ⟨hs.starts, rfl, rfl, Nat.le_refl _⟩, rfl, rfl⟩
  · exact absurd rfl h0
omit nap cap in
theorem ld_new (w : World) (k : Nat) (hk : k ≤ 1048576) : Calls Tryz.prog 13 #[.int .i64 (k : Nat)] w fun e w' => ∃ gd, e = .returned (.tuple #[ptr gd, .int .i64 0]) ∧ LdSt At ⟨w, [], w.heap.size, .pointer none, [], w⟩ gd k 0 0 [] w' := by
  refine (api.new_ w.heap.size k w (Nat.le_refl _) hk).mono ?_
  rintro e w' ⟨g, F, rfl, hA, hF, ht⟩
  exact ⟨g, rfl, newS k, ⟨F, hA, fun x hx => Or.inr (hF x hx), ht, ht.size, fun b hb => by cases hb⟩, good_new k hk, wp_new hk, Nat.le_refl _, rfl, rfl, rfl⟩
end
end Go.Proofs.YtedbgimmbapfaaaGreat

/- Zeros -/
namespace Go.Proofs.YtedbgimmbapfaaaGreat
open Go.RowKit
set_option linter.unusedVariables false

theorem make_zeros (k : Nat) (hk : k ≤ 10000) : ∃ Z : Array Value, (∀ w : World, (Instr.makeSlice 54 (.int .i64 (k : Nat)) (.int .i64 (k : Nat))).run Tryz.prog w = .ok (.slice (some ⟨w.heap.size, 0, none⟩) k k) (w.alloc (.cells Z 5))) ∧
    ∀ w : World, (convert 54 9 (.slice (some ⟨w.heap.size, 0, none⟩) k k)).run Tryz.prog (w.alloc (.cells Z 5)) = .ok (.string (bs (List.replicate k 0))) (w.alloc (.cells Z 5)) := by
  refine ⟨madeCells #[.int .u8 0] k, run_make_row' (P := Tryz.prog) 54 5 (.int .u8 0) 1 Tryz.underlying54 (by kernel_rfl) rfl .i64 .i64 k (by omega) (by omega), fun w => ?_⟩
  have hrow := World.rowIs_made w (.int .u8 0) k 5
  have h := run_convert_bytes_back (P := Tryz.prog) (w.alloc (.cells (madeCells #[.int .u8 0] k) 5)) 54 9 5 ⟨w.heap.size, 0, none⟩ k (List.replicate k 0) Tryz.underlying54 Tryz.underlying5 Tryz.underlying9
    (fun j hj => by
      rw [List.length_replicate] at hj
      have e : (⟨w.heap.size, 0, none⟩ : Addr).add j = ⟨w.heap.size, j, none⟩ := by simp [Addr.add]; omega
      rw [List.getElem_replicate, e]
      exact hrow.cell hj)
  rw [List.length_replicate] at h
  exact h

/-- A text of zeros and what is answered of it, for any size of what is ahead. -/
def Zer (k : Nat) (p : ByteArray) (Z : Array Value) : Prop :=
  p.size = k ∧
  (∀ w : World, (Instr.makeSlice 54 (.int .i64 (k : Nat)) (.int .i64 (k : Nat))).run Tryz.prog w = .ok (.slice (some ⟨w.heap.size, 0, none⟩) k k) (w.alloc (.cells Z 5))) ∧
  ∀ w : World, (convert 54 9 (.slice (some ⟨w.heap.size, 0, none⟩) k k)).run Tryz.prog (w.alloc (.cells Z 5)) = .ok (.string p) (w.alloc (.cells Z 5))
theorem zer_any (k : Nat) (hk : k ≤ 10000) : ∃ p Z, Zer k p Z := by
  obtain ⟨Z, h1, h2⟩ := make_zeros k hk
  exact ⟨_, Z, by rw [bs_size, List.length_replicate], h1, h2⟩
end Go.Proofs.YtedbgimmbapfaaaGreat

/- TfLodged -/
namespace Go.Proofs.YtedbgimmbapfaaaGreat
open Go.RowKit Go.Shelf
set_option linter.unusedVariables false

abbrev abB : ByteArray := ⟨#[97, 98]⟩
abbrev cB : ByteArray := ⟨#[99]⟩
theorem lo_1 : fitC [] abB = false ∧ plQ [] abB = 12 ∧ plC [] abB = [[abB]] := ⟨rfl, rfl, rfl⟩
theorem lo_2 : fitC [[abB]] cB = true ∧ plQ [[abB]] cB = 26 ∧ plC [[abB]] cB = [[abB, cB]] := ⟨rfl, rfl, rfl⟩
theorem lo_3 : endS [[abB, cB]] = 39 ∧ endS [] = 0 := ⟨rfl, rfl⟩
theorem lo_4 : getS ((chunkB 0 [abB, cB]).extract 13 17) = 609 := by kernel_rfl
theorem lo_5 (Z : ByteArray) (h : Z.size = 2000) : fitC [[abB, cB]] Z = true ∧ plQ [[abB, cB]] Z = 39 ∧ plC [[abB, cB]] Z = [[abB, cB, Z]] := by
  have hf : fitC [[abB, cB]] Z = true := decide_eq_true ⟨by decide, by show 12 + (14 + (13 + 0)) + (Z.size + 12) ≤ 4096; omega⟩
  refine ⟨hf, ?_, ?_⟩
  · unfold plQ; rw [if_pos hf]; rfl
  · unfold plC; rw [if_pos hf]; rfl
theorem lo_6 (Z : ByteArray) (h : Z.size = 2000) : fitC [[abB, cB, Z]] Z = true ∧ plQ [[abB, cB, Z]] Z = 2051 ∧ plC [[abB, cB, Z]] Z = [[abB, cB, Z, Z]] := by
  have e : rowZ [abB, cB, Z] = 14 + (13 + (Z.size + 12 + 0)) := rfl
  have hl : lastC [[abB, cB, Z]] = [abB, cB, Z] := rfl
  have hf : fitC [[abB, cB, Z]] Z = true := by unfold fitC; rw [hl, e]; exact decide_eq_true ⟨Nat.succ_pos 0, by omega⟩
  refine ⟨hf, ?_, ?_⟩
  · unfold plQ; rw [if_pos hf, hl, e]; show 4096 * 0 + _ = _; omega
  · unfold plC; rw [if_pos hf, hl]; rfl
theorem lo_7 (Z : ByteArray) (h : Z.size = 2000) : plQ [[abB, cB, Z, Z]] Z = 4108 := by
  have e : rowZ [abB, cB, Z, Z] = 14 + (13 + (Z.size + 12 + (Z.size + 12 + 0))) := rfl
  have hl : lastC [[abB, cB, Z, Z]] = [abB, cB, Z, Z] := rfl
  have hf : fitC [[abB, cB, Z, Z]] Z = false := by unfold fitC; rw [hl, e]; exact decide_eq_false (by omega)
  unfold plQ
  rw [if_neg (by simp [hf])]
  rfl
theorem lo_8 (D : DiskS) : firstS (allAt 0 [[abB, cB]]) (13 : Nat) D = ⟨cB, 26, 39, 0, D⟩ := rfl
section
variable {At : Lies} (api : DiskApi At) (nap : NamesApi) (cap : ChunksApi) {c : Ctx} {gl gd C N u sure : Nat} {chs : List (List ByteArray)} {w w' : World}
include api nap
theorem lo_read (h : LwSt At c gl gd C N u sure [[abB, cB]] w) (hN : N ≤ 900000000) : Calls Tryz.prog 8 #[ptr gl, .int .i64 13] w fun e w' => e = .returned (.tuple #[.string ByteArray.empty, .int .i64 4]) ∧ LwSt At c gl gd C (N + 1) u sure [[abB, cB]] w' := by
  obtain ⟨L, D, h1, h2, h3, h4, h5⟩ := h
  obtain ⟨_, f, f1, f2, f3, _, _⟩ := chunk_good h2.good (i := 0) (ps := [abB, cB]) rfl
  have hz : f.data.size = 39 := f3
  have hr : readT D L 13 = (ByteArray.empty, 4, { D with count := D.count + 1 }) := by
    unfold readT
    rw [if_neg (by simp [ready_good h2.good h3]), h3.nch, if_neg (by decide)]
    show readC D (nmC 0) 13 = _
    unfold readC
    rw [sizeS_of h2.good.up f1]
    dsimp only
    rw [if_neg (by simp), if_neg (by omega)]
    have hr1 := readS_of (a := 13) (k := 4) h2.good.up f1 (by omega)
    rw [show ((4 : Int)) = ((4 : Nat) : Int) from rfl, hr1]
    dsimp only
    rw [if_neg (by simp), f2, show (13 + 4) = 17 from rfl, lo_4, if_pos (Or.inr (by rw [← f2, hz]; decide))]
  have := tread_run api nap h5 h1 h2.wf (by have := h2.count; omega) 13 (by decide) (by rw [h3.nch]; exact h2.good.many)
  rw [hr] at this
  refine this.mono ?_
  rintro e w' ⟨rfl, hT⟩
  exact ⟨rfl, L, _, hT, h2.more (by have := h2.count; show D.count + 1 ≤ _; omega), h3.same (SameF.count D _), h4, h5⟩
include cap
omit api nap cap in
theorem LwSt.below (h : LwSt At c gl gd C N u sure chs w) (h0 : c.F0 = []) (hl : c.w0.heap.size ≤ gl) : Below c.w0.heap.size c.w0 w := by
  obtain ⟨L, D, h1, _⟩ := h
  obtain ⟨F, _, _, _, _, ht, _⟩ := h1
  rw [h0] at ht
  exact ht.below (Nat.le_refl _) (fun x hx => by rw [List.mem_singleton.1 hx]; exact hl)
omit api nap cap in
theorem AppTo.as {p : ByteArray} {e : Ending} (h : AppTo At c gl gd C N u sure chs p e w') {q s' : Nat} {chs' : List (List ByteArray)} (hq : plQ chs p = q) (hc : plC chs p = chs') (hs : (if fitC chs p = true then sure else endS chs) = s') :
    e = .returned (.tuple #[.int .i64 (q : Nat), .int .i64 0]) ∧ ∃ u', u' ≤ u + (p.size + 24) ∧ LwSt At c gl gd C N u' s' chs' w' := by
  obtain ⟨h1, u', h2, h3, h4, _⟩ := h
  rw [hq] at h1
  rw [hc, hs] at h4
  exact ⟨h1, u', h2, h4⟩
set_option maxRecDepth 100000 in
set_option maxHeartbeats 4000000 in
theorem lodged_true (w : World) : Calls Tryz.prog 6 #[] w fun e w' => e = .returned (.bool true) ∧ Below w.heap.size w w' := by
  have hN := Lib.hid (ld_new (At := At) api w 20000 (by decide))
  obtain ⟨P, Y, hP, hmk, hcv⟩ := zer_any 2001 (by omega)
  have e2001 : ((2001 : Nat) : Int) = 2001 := rfl
  rw [e2001] at hmk
  obtain ⟨Z, hZd⟩ : ∃ Z, Z = P.extract 0 2000 := ⟨_, rfl⟩
  have hZ : Z.size = 2000 := by rw [hZd, ByteArray.size_extract]; omega
  have i2 : (2000 : Int) ≤ (P.size : Int) := by omega
  have HP := Lib.hid hP
  have HZ := Lib.hid hZ
  have L5 := Lib.hid (lo_5 Z hZ)
  have L6 := Lib.hid (lo_6 Z hZ)
  have L7 := Lib.hid (lo_7 Z hZ)
  have hZe : P.extract 0 2000 = Z := hZd.symm
  clear hP hZ hZd
  go_enter Tryz.func6, Tryz.ntmps6
  go_wp2_with fail
  refine hN.out.mono ?_
  rintro e w1 ⟨gd, rfl, h1⟩
  have hO := Lib.hid (LdSt.open_ api nap cap h1 (by decide))
  have HLT := Lib.hid (show w.heap.size ≤ w1.heap.size by
    obtain ⟨D, ⟨F, _, _, ht, _⟩, _⟩ := h1
    exact ht.size)
  clear h1 hN
  go_wp2_with fail
  refine hO.out.mono ?_
  rintro e w2 ⟨gl, rfl, hlow, h2⟩
  have hA := Lib.hid ((LwSt.append api nap cap h2 abB (by decide) (by decide) (by decide)).mono fun e w' h => AppTo.as h (q := 12) (s' := 0) rfl rfl rfl)
  have HLOW := Lib.hid (Nat.le_trans HLT.out hlow)
  clear h2 hO hlow
  go_wp2_with fail
  refine hA.out.mono ?_
  rintro e w3 ⟨rfl, u3, q3, h3⟩
  have hB := Lib.hid ((LwSt.append api nap cap h3 cB (by decide) (Nat.le_of_lt (by decide : 1 < 199)) (by have : abB.size = 2 := rfl; have : cB.size = 1 := rfl; omega)).mono fun e w' h => AppTo.as h (q := 26) (s' := 0) rfl rfl rfl)
  have Q3 := Lib.hid q3
  clear h3 hA q3
  go_wp2_with fail
  refine hB.out.mono ?_
  rintro e w4 ⟨rfl, u4, q4, h4⟩
  have hE := Lib.hid (show Calls Tryz.prog 11 #[ptr gl] w4 fun e w' => e = .returned (.int .i64 39) ∧ w4 = w' from h4.end_)
  have hU := Lib.hid (show Calls Tryz.prog 12 #[ptr gl] w4 fun e w' => e = .returned (.int .i64 0) ∧ w4 = w' from h4.sure_)
  have hR1 := Lib.hid (LwSt.read api nap h4 (by decide) (q := 12) (p := abB) (by show _ ∈ [((12 : Nat), abB), (26, cB)]; exact List.mem_cons_self))
  have Q4 := Lib.hid q4
  clear h4 hB q4
  go_wp2_with fail
  refine hE.out.mono ?_
  rintro e w5 ⟨rfl, rfl⟩
  go_wp2_with fail
  refine hU.out.mono ?_
  rintro e w5 ⟨rfl, rfl⟩
  go_wp2_with fail
  refine hR1.out.mono ?_
  rintro e w5 ⟨rfl, h5⟩
  have hR2 := Lib.hid (lo_read api nap h5 (by decide))
  clear h5 hR1 hE hU
  go_wp2_with fail
  refine hR2.out.mono ?_
  rintro e w6 ⟨rfl, h6⟩
  have hX := Lib.hid (LwSt.next api nap cap h6 (by decide) 13 (by decide))
  clear h6 hR2
  go_wp2_with fail
  refine hX.out.mono ?_
  rintro e w7 ⟨D7, rfl, h7⟩
  rw [lo_8]
  have hF := Lib.hid (LwSt.flush api nap h7)
  clear h7 hX
  go_wp2_with fail
  refine hF.out.mono ?_
  rintro e w8 ⟨rfl, h8⟩
  have hU := Lib.hid (show Calls Tryz.prog 12 #[ptr gl] w8 fun e w' => e = .returned (.int .i64 39) ∧ w8 = w' from h8.sure_)
  have H8 := Lib.hid h8
  clear h8 hF
  go_wp2_with fail
  refine hU.out.mono ?_
  rintro e w9 ⟨rfl, rfl⟩
  have H9 := Lib.hid (H8.out.touch api ((Touch.refl [] w8).alloc (.cells Y 5)))
  have hL := Lib.hid (LwSt.append_long api nap cap H9.out P (by have := HP.out; omega) (by have := HP.out; unfold maxLen; omega))
  clear hU
  go_wp2_with fail
  refine hL.out.mono ?_
  rintro e w10 ⟨rfl, h10⟩
  have hM := Lib.hid ((LwSt.append api nap cap h10 Z (by have := HZ.out; omega) (Nat.le_of_lt (by decide : 1 < 199)) (by have := HZ.out; have := Q3.out; have := Q4.out; have : abB.size = 2 := rfl; have : cB.size = 1 := rfl; omega)).mono fun e w' h => AppTo.as h (q := 39) (s' := 39) L5.out.2.1 L5.out.2.2 (by rw [if_pos L5.out.1]; rfl))
  clear h10 hL
  go_wp2_with fail
  refine hM.out.mono ?_
  rintro e w11 ⟨rfl, u5, q5, h11⟩
  have hM2 := Lib.hid ((LwSt.append api nap cap h11 Z (by have := HZ.out; omega) (Nat.le_of_lt (by decide : 1 < 199)) (by have := HZ.out; have := Q3.out; have := Q4.out; have : abB.size = 2 := rfl; have : cB.size = 1 := rfl; omega)).mono fun e w' h => AppTo.as h (q := 2051) (s' := 39) L6.out.2.1 L6.out.2.2 (by rw [if_pos L6.out.1]))
  have Q5 := Lib.hid q5
  clear h11 hM q5
  go_wp2_with fail
  refine hM2.out.mono ?_
  rintro e w12 ⟨rfl, u6, q6, h12⟩
  have hM3 := Lib.hid ((LwSt.append api nap cap h12 Z (by have := HZ.out; omega) (Nat.le_of_lt (by decide : 1 < 199)) (by have := HZ.out; have := Q3.out; have := Q4.out; have := Q5.out; have : abB.size = 2 := rfl; have : cB.size = 1 := rfl; omega)).mono fun e w' h => AppTo.as h (q := 4108) L7.out rfl rfl)
  clear h12 hM2 q6
  go_wp2_with fail
  refine hM3.out.mono ?_
  rintro e w13 ⟨rfl, u7, q7, h13⟩
  have HB := Lib.hid (h13.below rfl HLOW.out)
  clear h13 hM3 q7
  go_wp2
  go_ret
  exact ⟨rfl, HB.out⟩
end
end Go.Proofs.YtedbgimmbapfaaaGreat

/- StrsIn -/
namespace Go.Proofs.YtedbgimmbapfaaaGreat
open Go.ChangeShapes Go.WideShapes Go.ChangeAt Go.RowKit Go.Deep
set_option linter.unusedVariables false

/-- A slice of texts. -/
def StrsIn (w : World) (v : Value) (l : List ByteArray) : Prop :=
  (l = [] ∧ ∃ a c, v = .slice a 0 c) ∨ ∃ b off cap, v = .slice (some ⟨b, off, none⟩) l.length cap ∧ l.length ≤ cap ∧ cap ≤ maxLen ∧ b < w.heap.size ∧ ∀ i x, l[i]? = some x → w.cell? ⟨b, off + i, none⟩ = some (.string x)
theorem strs_of {p : Nat → ByteArray → Prop} : ∀ n, (∀ i, i < n → ∃ x, p i x) → ∃ l : List ByteArray, l.length = n ∧ ∀ i x, l[i]? = some x → p i x
  | 0, _ => ⟨[], rfl, fun i x h => by simp at h⟩
  | n + 1, h => by
    obtain ⟨l, hl, hp⟩ := strs_of n (fun i hi => h i (by omega))
    obtain ⟨x, hx⟩ := h n (by omega)
    refine ⟨l ++ [x], by rw [List.length_append, hl]; rfl, fun i y hy => ?_⟩
    rcases Nat.lt_or_ge i n with c | c
    · rw [List.getElem?_append_left (by omega)] at hy
      exact hp i y hy
    · rw [List.getElem?_append_right (by omega), hl] at hy
      have : i = n := by
        have := (List.getElem?_eq_some_iff.1 hy).1
        simp at this
        omega
      subst this
      rw [Nat.sub_self] at hy
      obtain rfl : x = y := by simpa using hy
      exact hx
theorem str_cells : Tryz.prog.cellsOf 9 = 1 := by kernel_rfl
set_option maxRecDepth 100000 in
theorem strs_in {H : Type} {enc : TypeId × Value → H} {W : World} {v : Value} {d : DataW H} {p : List MemPlace} (hval : ∃ a len cap, v = .slice a len cap)
    (hd : DataW.Trod enc Tryz.prog W 0 (fun _ => true) true 46 v d p) (hlt : ∀ x ∈ p, x.block < W.heap.size) : ∃ l, StrsIn W v l ∧ ∀ x ∈ l, x.size ≤ maxLen := by
  obtain ⟨a0, len, cap, rfl⟩ := hval
  obtain ⟨fuel, hf⟩ := hd
  rcases open_slice Tryz.underlying46 hf with ⟨hcs, hx⟩ | ⟨a, len', cap', m, n, D, Pl, hcs, _, hl, hm, hmm, hx, hi⟩
  · simp [Value.cells] at hcs
    obtain ⟨rfl, rfl, rfl⟩ := hcs
    exact ⟨[], Or.inl ⟨rfl, _, _, rfl⟩, fun x hx => by cases hx⟩
  · simp [Value.cells] at hcs
    obtain ⟨rfl, rfl, rfl⟩ := hcs
    simp only [Prod.mk.injEq] at hx
    obtain ⟨rfl, rfl⟩ := hx
    simp only [if_true] at hmm
    rw [str_cells] at hi hlt
    by_cases hl0 : len = 0
    · subst hl0
      exact ⟨[], Or.inl ⟨rfl, _, _, rfl⟩, fun x hx => by cases hx⟩
    · have each : ∀ i, i < len → ∃ x : ByteArray, x.size ≤ maxLen ∧ W.cell? (a.add i) = some (.string x) := by
        intro i hil
        obtain ⟨cs', hc, ht⟩ := hi i (by omega)
        obtain ⟨_, hcl, hat⟩ := World.cells?_some hc
        match cs', hcl with
        | [c0], _ =>
          obtain ⟨x, e0, _, w0⟩ := DataW.trod_string Tryz.underlying9 ht
          have e1 : c0 = .string x := by simpa using e0
          refine ⟨x, w0, ?_⟩
          have h0 := hat 0 (by decide)
          rw [Go.Deep.add_add, Nat.mul_one, Nat.add_zero] at h0
          rw [h0, e1]
          rfl
      obtain ⟨b, off, spot⟩ := a
      have hspot : spot = none := by
        obtain ⟨x, _, hx⟩ := each 0 (by omega)
        simpa [Addr.add] using World.cell?_spot hx
      subst hspot
      obtain ⟨l, hll, hlp⟩ := strs_of len each
      have hbW : b < W.heap.size := hlt (.cell b off) (List.mem_append_left _ (MemPlace.mem_row.2 ⟨0, by omega, by simp⟩))
      refine ⟨l, Or.inr ⟨b, off, cap, by rw [hll], by omega, hm, hbW, fun i x hx => ?_⟩, fun x hx => ?_⟩
      · have h := (hlp i x hx).2
        have ea : (⟨b, off, none⟩ : Addr).add i = ⟨b, off + i, none⟩ := by unfold Addr.add; split <;> simp_all
        rw [ea] at h
        exact h
      · obtain ⟨i, hi⟩ := List.getElem?_of_mem hx
        exact (hlp i x hi).1
theorem strs_laidOut : laidOutB Tryz.prog = true := by kernel_rfl
/-- What is read of them behind the call. -/
theorem strs_out {H : Type} {enc : TypeId × Value → H} {W W' : World} {v : Value} {d : DataW H} {p : List MemPlace}
    (hd : DataW.Trod enc Tryz.prog W 0 (fun _ => true) true 46 v d p) (hlt : ∀ x ∈ p, x.block < W.heap.size) (hb : Below W.heap.size W W') :
    DataW.Trod enc Tryz.prog W' 0 (fun b => decide (b < W.heap.size)) true 46 v d p :=
  Below.trod strs_laidOut (by kernel_rfl) (of_decide_eq_true (by kernel_rfl)) hd hb hlt
theorem StrsIn.form {w : World} {v : Value} {l : List ByteArray} (h : StrsIn w v l) : ∃ A c, v = .slice A l.length c ∧ l.length ≤ maxLen := by
  rcases h with ⟨rfl, a, c, rfl⟩ | ⟨b, off, cap, rfl, h1, h2, _⟩
  · exact ⟨_, _, rfl, Nat.zero_le _⟩
  · exact ⟨_, _, rfl, by omega⟩
theorem StrsIn.pos {w : World} {A : Option Addr} {n c : Nat} {l : List ByteArray} (h : StrsIn w (.slice A n c) l) (hl : 0 < l.length) : ∃ b off, A = some ⟨b, off, none⟩ ∧ b < w.heap.size ∧ ∀ i x, l[i]? = some x → w.cell? ⟨b, off + i, none⟩ = some (.string x) := by
  rcases h with ⟨rfl, _⟩ | ⟨b, off, cap, hv, _, _, hb, hc⟩
  · cases hl
  · cases hv; exact ⟨b, off, rfl, hb, hc⟩
end Go.Proofs.YtedbgimmbapfaaaGreat
