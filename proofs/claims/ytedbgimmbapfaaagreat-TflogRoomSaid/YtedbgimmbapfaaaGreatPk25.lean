/- TfBackWalk, U16s, TfRoomWalk, DNone, TfNone -/
import Derived.Test.YtedbgimmbapfaaaGreatPk24
import Derived.Test.YtedbgimmbapfaaaGreatPk01
import Derived.WideShapes
import Derived.Carry
import Derived.ProofKit
import Derived.Test.YtedbgimmbapfaaaGreatPk22
/- TfBackWalk -/
namespace Go.Proofs.YtedbgimmbapfaaaGreat
open Go.RowKit Go.Shelf
set_option linter.unusedVariables false

theorem LwSt.guests {At : Lies} {c : Ctx} {gl gd C N u sure : Nat} {chs : List (List ByteArray)} {w : World} (h : LwSt At c gl gd C N u sure chs w) {b : Nat} (hb : b ∈ c.G) : w.heap[b]? = c.wG.heap[b]? := by
  obtain ⟨L, D, h1, _⟩ := h
  exact h1.guest hb
theorem LwSt.lts {At : Lies} {c : Ctx} {gl gd C N u sure : Nat} {chs : List (List ByteArray)} {w : World} (h : LwSt At c gl gd C N u sure chs w) {b : Nat} (hb : b ∈ c.G) : b < w.heap.size := by
  obtain ⟨L, D, h1, _⟩ := h
  exact (h1.lt hb).2
theorem LwSt.own {At : Lies} (api : DiskApi At) {c : Ctx} {gl gd C N u sure : Nat} {chs : List (List ByteArray)} {w w' : World} (h : LwSt At c gl gd C N u sure chs w) {G' : List Nat} (ht : Touch c.G w w') (hG : ∀ b ∈ G', b ∈ c.G ∨ w.heap.size ≤ b) (hlt : ∀ b ∈ G', b < w'.heap.size) : LwSt At { c with G := G', wG := w' } gl gd C N u sure chs w' := by
  obtain ⟨L, D, h1, h2, h3, h4, h5⟩ := h
  exact ⟨L, D, h1.own api ht hG hlt, h2, h3, h4, h5⟩
theorem strsAt_below {w W : World} {v : Value} {l : List ByteArray} (h : StrsAt w v l) (hb : Below w.heap.size w W) : StrsAt W v l := by
  rcases h with h | ⟨b, off, cap, h1, h2, h3, h4, h5⟩
  · exact Or.inl h
  · exact Or.inr ⟨b, off, cap, h1, h2, h3, Nat.lt_of_lt_of_le h4 hb.size, fun i x hx => (hb.cell (p := ⟨b, off + i, none⟩) h4).trans (h5 i x hx)⟩
theorem TSt.below0 {At : Lies} {c : Ctx} {gl gd : Nat} {L : LogS} {D : DiskS} {w : World} (h : TSt At c gl gd L D w) (h0 : c.F0 = []) (hl : c.w0.heap.size ≤ gl) : Below c.w0.heap.size c.w0 w := by
  obtain ⟨F, _, _, _, _, ht, _⟩ := h
  rw [h0] at ht
  exact ht.below (Nat.le_refl _) (fun x hx => by rw [List.mem_singleton.1 hx]; exact hl)
/-- The old log stays beside the disk: what it ends with is still told. -/
theorem LwSt.leave {At : Lies} {c : Ctx} {gl gd C N u sure : Nat} {chs : List (List ByteArray)} {w : World} (h : LwSt At c gl gd C N u sure chs w) (hl : c.w0.heap.size ≤ gl) : LdSt At { c with G := gl :: c.G, wG := w } gd C N u chs w := by
  obtain ⟨L, D, h1, h2, h3, h4, h5⟩ := h
  exact ⟨D, h1.leave hl, h2⟩
/-- A log, and a row of numbers beside it. -/
structure BkSt (At : Lies) (w0 : World) (gl gd N u sure : Nat) (chs : List (List ByteArray)) (vq : Value) (lq : List Int) (W : World) : Prop where
  log : LwSt At ⟨w0, [], w0.heap.size, ptr gl, vq.ownBlock.toList, W⟩ gl gd 1048576 N u sure chs W
  nums : W.ownsRow w0.heap.size 3 1 vq lq.length (ints lq)
  low : w0.heap.size ≤ gl
section
variable {At : Lies} (api : DiskApi At) {w0 W W' : World} {gl gd N N' u u' sure sure' : Nat} {chs chs' : List (List ByteArray)} {vq : Value} {lq : List Int}
theorem BkSt.below (h : BkSt At w0 gl gd N u sure chs vq lq W) : Below w0.heap.size w0 W := h.log.below rfl h.low
include api
theorem BkSt.move (h : BkSt At w0 gl gd N u sure chs vq lq W) (hL : LwSt At ⟨w0, [], w0.heap.size, ptr gl, vq.ownBlock.toList, W⟩ gl gd 1048576 N' u' sure' chs' W') : BkSt At w0 gl gd N' u' sure' chs' vq lq W' :=
  ⟨hL.own api (G' := vq.ownBlock.toList) (Touch.refl _ W') (fun b hb => Or.inl hb) (fun b hb => hL.lts hb), own_same h.nums (fun b hb => hL.guests (by simp [hb])), h.low⟩
theorem BkSt.push (h : BkSt At w0 gl gd N u sure chs vq lq W) (hlq : lq.length ≤ 1000000) (x : Int) : ∃ vq' W1, (∀ ty, (Builtin.append_ #[47, 47] ty #[vq, .slice (some ⟨W.heap.size, 0, none⟩) 1 1]).run Tryz.prog (W.alloc (.cells #[.int .i64 x] 3)) = .ok vq' W1) ∧ BkSt At w0 gl gd N u sure chs vq' (lq ++ [x]) W1 := by
  have hb := h.below.size
  obtain ⟨vq', W1, r1, o1, t1, n1, A1, c1, e1⟩ := push_int h.nums hb hlq x
  refine ⟨vq', W1, r1, h.log.own api (G' := vq'.ownBlock.toList) t1 (fun b hb2 => ?_) (fun b hb2 => ?_), ?_, h.low⟩
  · rcases n1 b (by simpa using hb2) with k | k
    · exact Or.inl (by simp [k])
    · exact Or.inr k
  · exact (o1.lt b (by simpa using hb2)).2
  · rw [List.length_append, List.length_singleton]
    unfold ints at o1 ⊢
    rw [List.map_append]
    exact o1
end
section
variable {At : Lies} (api : DiskApi At) (nap : NamesApi) (cap : ChunksApi)
include api nap cap
set_option maxRecDepth 100000 in
set_option maxHeartbeats 8000000 in
theorem back_walk (v : Value) (l : List ByteArray) (w : World) (hx : ∀ p ∈ l, p.size ≤ maxLen) (hv : StrsIn w v l) : Calls Tryz.prog 4 #[v] w fun e w' => e = .returned (.bool true) ∧ Below w.heap.size w w' := by
  have HV := Lib.hid (show StrsAt w v l from hv)
  obtain ⟨A, off, cp, hvv, hln, hcell⟩ := strs_cell (show StrsAt w v l from hv)
  have HX := Lib.hid hx
  have LO := Lib.hid fun W => lodged_true api nap cap W
  by_cases h40 : 40 < l.length
  · have t1 : decide ((40 : Int) < (l.length : Int)) = true := decide_eq_true (by omega)
    subst hvv
    generalize l.length = n at *
    clear hv hcell hx h40 hln
    go_enter Tryz.func4, Tryz.ntmps4
    go_wp2_with fail
    refine (LO.out _).mono ?_
    rintro e w1 ⟨rfl, hb⟩
    go_wp2
    go_ret
    exact ⟨rfl, hb⟩
  have t1 : decide ((40 : Int) < (l.length : Int)) = false := decide_eq_false (by omega)
  have HL := Lib.hid (show l.length ≤ 40 by omega)
  have HC := Lib.hid hcell
  have hN := Lib.hid (ld_new (At := At) api w 1048576 (by decide))
  subst hvv
  clear hv hcell hx h40 hln
  go_enter Tryz.func4, Tryz.ntmps4
  go_wp2_with fail
  refine hN.out.mono ?_
  rintro e w1 ⟨gd, rfl, h1⟩
  have hO := Lib.hid (LdSt.open_ api nap cap h1 (by decide))
  have HLT := Lib.hid (show w.heap.size ≤ w1.heap.size by
    obtain ⟨D, ⟨F, _, _, ht, _⟩, _⟩ := h1
    exact ht.size)
  clear h1 hN
  go_wp2_with fail
  refine hO.out.mono ?_
  rintro e w2 ⟨gl, rfl, hlow, h2⟩
  have B0 := Lib.hid (show BkSt At w gl gd 200 0 (endS []) [] (.slice none 0 0) (recI []) w2 from ⟨h2.own api (G' := []) (Touch.refl _ w2) (fun b hb => by cases hb) (fun b hb => by cases hb), World.ownsRow_nil _ _ _ _, Nat.le_trans HLT.out hlow⟩)
  clear h2 hO hlow
  go_wp2
  go_loopw [7, 8] (fun vq i wr => ∃ (k u sure : Nat) (chs : List (List ByteArray)), k ≤ l.length ∧ i = .int .i64 k ∧ BkSt At w gl gd 200 u sure chs vq (recI chs) wr ∧ recP chs = l.take k ∧ u ≤ 2024 * k ∧ chs.length ≤ k) (fun _ i _ => l.length - (intOf i).toNat)
  case atStart => exact ⟨0, 0, endS [], [], Nat.zero_le _, rfl, B0.out, rfl, Nat.zero_le _, Nat.zero_le _⟩
  case round =>
    obtain ⟨k, u, sure, chs, hk, rfl, hS, hP, hu, hch⟩ := hrel
    have HS := Lib.hid hS
    have HP := Lib.hid hP
    have HU := Lib.hid hu
    have HCH := Lib.hid hch
    have h40 := HL.out
    have hbl := HS.out.below
    clear hS
    by_cases hlt : k < l.length
    · have hx : l[k]? = some l[k] := List.getElem?_eq_getElem hlt
      have hpm := HX.out _ (List.getElem_mem hlt)
      obtain ⟨b, rfl, d0⟩ := HC.out k _ hx
      have hblt := World.block_lt_of_cell? w _ d0
      have d1 := (hbl.cell (p := ⟨b, off + k, none⟩) hblt).trans d0
      have htk : l.take (k + 1) = l.take k ++ [l[k]] := by rw [List.take_add_one, hx]; rfl
      have HTK := Lib.hid htk
      generalize l[k] = p at *
      have l1 : (k : Int) < (l.length : Int) := by omega
      have hw9 : IntKind.i64.wrap ((k : Int) + 1) = (k : Int) + 1 := IntWalk.i64_in _ (by omega)
      have HLT2 := Lib.hid hlt
      by_cases hbig : 2000 < p.size
      · have t2 : decide ((2000 : Int) < (p.size : Int)) = true := decide_eq_true (by omega)
        have HBL := Lib.hid hbl
        generalize l.length = n at *
        clear hx hpm d0 hblt htk hbig hlt hk hP hu hch h40 hbl
        go_wp2_with fail
        refine (LO.out _).mono ?_
        rintro e w3 ⟨rfl, hb⟩
        have HB := Lib.hid (HBL.out.trans (hb.mono HBL.out.size))
        clear hb
        go_wp2
        go_ret
        exact ⟨rfl, HB.out⟩
      have t2 : decide ((2000 : Int) < (p.size : Int)) = false := decide_eq_false (by omega)
      have hA := Lib.hid (LwSt.append api nap cap HS.out.log p (by omega) (by omega) (by omega))
      obtain ⟨q, hq⟩ : ∃ q, q = plQ chs p := ⟨_, rfl⟩
      have HQ := Lib.hid hq
      have HPZ := Lib.hid (show p.size ≤ 2000 by omega)
      have hqb : q ≤ 200000 := by
        rw [hq]
        unfold plQ
        split
        · rename_i hf
          have := of_decide_eq_true hf
          omega
        · omega
      have HQB := Lib.hid hqb
      have hw1 : IntKind.i64.wrap ((q : Int) + (p.size : Nat)) = (q : Int) + (p.size : Nat) := IntWalk.i64_in _ (by omega)
      have hw2 : IntKind.i64.wrap ((q : Int) + (p.size : Nat) + 12) = (q : Int) + (p.size : Nat) + 12 := IntWalk.i64_in _ (by omega)
      have t3 : ((q : Int) + (p.size : Nat) + 12 != (q : Int) + (p.size : Nat) + 12) = false := by simp
      unfold AppTo at hA
      rw [← hq] at hA
      have HBL := Lib.hid hbl
      have HD0 := Lib.hid d0
      have HBT := Lib.hid hblt
      generalize hl : l.length = n at *
      clear hx hpm d0 hblt htk hbig hlt hk hP hu hch h40 hbl hq hqb
      go_wp2_with fail
      refine hA.out.mono ?_
      rintro e w3 ⟨rfl, u', q1, q2, h3, hall, hend, hbeh, hsu, hlen⟩
      have hM := HS.out.move api h3
      have hRI : recI (plC chs p) = recI chs ++ [(q : Int)] := by unfold recI; rw [hall, List.map_append]; rfl
      have hRP : recP (plC chs p) = l.take (k + 1) := by unfold recP; rw [hall, List.map_append, HTK.out, ← HP.out]; rfl
      have d3 := (hM.below.cell (p := ⟨b, off + k, none⟩) HBT.out).trans HD0.out
      have hE := Lib.hid fun m => ((h3.touch api ((Touch.refl [] w3).drewN m)).end_)
      have hU := Lib.hid fun m => ((h3.touch api ((Touch.refl [] w3).drewN m)).sure_)
      rw [hend, show ((q + (p.size + 12) : Nat) : Int) = (q : Int) + (p.size : Nat) + 12 by omega] at hE
      have t4 : decide ((q : Int) < ((if fitC chs p = true then sure else endS chs : Nat) : Int)) = false := decide_eq_false (by omega)
      have t4n : decide (q < (if fitC chs p = true then sure else endS chs : Nat)) = false := decide_eq_false (by omega)
      have HM := Lib.hid hM
      have HRI := Lib.hid hRI
      have HRP := Lib.hid hRP
      have HU2 := Lib.hid (show u' ≤ 2024 * (k + 1) by have := HU.out; have := HPZ.out; omega)
      have HL2 := Lib.hid (show (plC chs p).length ≤ k + 1 by have := HCH.out; omega)
      clear h3 hall hend hbeh hsu hlen hM hRI hRP q1 q2 hA
      generalize (if fitC chs p = true then sure else endS chs) = s' at *
      generalize plC chs p = chs' at *
      go_wp2_with fail
      go_quiet ((first
        | (go_at_call 11; exact Calls.quiet_of_same ((hE.out _).mono fun _ _ h => ⟨h.1, h.2.symm⟩))
        | (go_at_call 12; exact Calls.quiet_of_same ((hU.out _).mono fun _ _ h => ⟨h.1, h.2.symm⟩))))
      obtain ⟨vq', W1, r1, hS5⟩ := (HM.out.move api (HM.out.log.touch api ((Touch.refl [] w3).drewN nq))).push api (by
        have := congrArg List.length HP.out
        unfold recP at this
        unfold recI
        rw [List.length_map] at this ⊢
        rw [this, List.length_take]
        have := HL.out
        omega) (q : Int)
      rw [← HRI.out] at hS5
      have R1 := Lib.hid r1
      have HS5 := Lib.hid hS5
      obtain ⟨A7, cap7, hv7, -, -, -⟩ := own_form HS.out.nums
      clear r1 hS5
      subst hv7
      go_wp2_with (first | (at_builtin; refine wpList_append_two rfl _ _ rfl rfl rfl (R1.out _) ?_) | fail)
      exact ⟨⟨k + 1, u', s', chs', by have := HLT2.out; omega, by go_num, HS5.out, HRP.out, HU2.out, HL2.out⟩, by simp [intOf]; have := HLT2.out; omega⟩
    · obtain rfl : k = l.length := by omega
      rw [List.take_of_length_le (Nat.le_refl _)] at hP
      have HP := Lib.hid hP
      have HS2 := Lib.hid HS.out
      obtain ⟨A7, cap7, hv7, -, -, -⟩ := own_form HS2.out.nums
      have hbl2 := HS2.out.below
      clear hlt hk hu hch h40 hbl hP HS
      subst hv7
      obtain rfl := HP.out
      have hlen : (recI chs).length = (recP chs).length := by unfold recI recP; rw [List.length_map, List.length_map]
      have HLN := Lib.hid hlen
      go_wp2
      go_loopw [5, 11] (fun lp tn wr2 => ∃ t gl2 N2 sure2 : Nat, t ≤ 3 ∧ tn = .int .i64 t ∧ lp = ptr gl2 ∧ BkSt At w gl2 gd N2 u sure2 chs (.slice A7 (recI chs).length cap7) (recI chs) wr2 ∧ N2 ≤ 200 + 400000 * t) (fun _ tn _ => 3 - (intOf tn).toNat)
      case atStart => exact ⟨0, gl, 200, sure, Nat.zero_le _, rfl, rfl, HS2.out, Nat.le_refl _⟩
      case round =>
        obtain ⟨t, gl2, N2, sure2, ht, rfl, rfl, hS3, hN2⟩ := hrel
        have HS3 := Lib.hid hS3
        have HN2 := Lib.hid hN2
        have HT3 := Lib.hid ht
        have hbl3 := HS3.out.below
        clear hS3 hN2
        by_cases htl : t < 3
        · have l1 : decide ((t : Int) < 3) = true := decide_eq_true (by omega)
          have hw9 : IntKind.i64.wrap ((t : Int) + 1) = (t : Int) + 1 := IntWalk.i64_in _ (by omega)
          have HTL := Lib.hid htl
          obtain ⟨L, D, hT, hF, hG, hs, hm⟩ := HS3.out.log
          have hRec := Lib.hid (records_run api nap cap hm hT hF.good hG hF.wf (by have := hF.count; have := HN2.out; omega) (by
            have h1 := HL.out
            unfold recP at h1
            rw [List.length_map] at h1
            omega))
          have HF := Lib.hid hF
          have HG := Lib.hid hG
          have HSU := Lib.hid hs
          unfold RecEnd at hRec
          clear hT hF hG hs hm htl ht
          go_wp2_with fail
          refine hRec.out.mono ?_
          rintro e w4 ⟨vp2, vq2, cnt, rfl, hcnt, hR⟩
          have hn1 := own_same HS3.out.nums (w' := w4) (fun b hb => hR.keep.2.2 b (by simp [hb]) |>.2)
          have hb4 := hR.log.below0 rfl HS3.out.low
          have hsp : StrsAt w4 (.slice A (recP chs).length cp) (recP chs) := strsAt_below HV.out hb4
          have hbg := Lib.hid (begins_run (own_strs hR.texts) hsp rfl)
          obtain ⟨A8, cap8, hv8, -, -, -⟩ := own_form hR.texts
          obtain ⟨A9, cap9, hv9, -, -, -⟩ := own_form hR.nums
          have HR := Lib.hid hR
          have HN1 := Lib.hid hn1
          have HCNT := Lib.hid hcnt
          clear hR hn1 hcnt hsp hRec hb4
          subst hv8 hv9
          rw [HLN.out]
          go_wp2_with fail
          refine hbg.out.mono ?_
          rintro e w5 ⟨rfl, m5, hw5⟩
          have HW5 := Lib.hid hw5
          clear hbg hw5
          obtain ⟨A10, o10, c10, hv10, -, f10⟩ := (IntsAt.of_own HN1.out).in_.cell
          obtain ⟨A11, o11, c11, hv11, -, f11⟩ := (IntsAt.of_own HR.out.nums).in_.cell
          obtain ⟨hA10, -, -⟩ := Value.slice.inj hv10
          obtain ⟨hA11, -, -⟩ := Value.slice.inj hv11
          subst hA10 hA11
          have F10 := Lib.hid f10
          have F11 := Lib.hid f11
          clear f10 f11 hv10 hv11
          go_wp2
          go_loopw [15] (fun i wr3 => ∃ j m : Nat, j ≤ (recI chs).length ∧ i = .int .i64 j ∧ wr3 = w4.drewN m) (fun i _ => (recI chs).length - (intOf i).toNat)
          case atStart => exact ⟨0, m5, Nat.zero_le _, rfl, HW5.out⟩
          case round =>
            obtain ⟨j, m, hj, rfl, rfl⟩ := hrel
            have hll : (recI chs).length ≤ 40 := by rw [HLN.out]; exact HL.out
            by_cases hjl : j < (recI chs).length
            · have hx : (recI chs)[j]? = some (recI chs)[j] := List.getElem?_eq_getElem hjl
              obtain ⟨b1, rfl, e1⟩ := F10.out j _ hx
              obtain ⟨b2, rfl, e2⟩ := F11.out j _ hx
              have l5 : (j : Int) < ((recI chs).length : Int) := by omega
              have hw5 : IntKind.i64.wrap ((j : Int) + 1) = (j : Int) + 1 := IntWalk.i64_in _ (by omega)
              have HJL := Lib.hid hjl
              clear hx hj
              generalize (recI chs)[j] = x at *
              have t5 : (x != x) = false := by simp
              generalize hql : (recI chs).length = q at *
              clear hjl hll
              go_wp2_with fail
              go_quiet (fail)
              go_wp2
              exact ⟨⟨j + 1, _, by have := HJL.out; omega, by go_num, rfl⟩, by simp [intOf]; have := HJL.out; omega⟩
            · obtain rfl : j = (recI chs).length := by omega
              have hW : LwSt At (rowsCtx ⟨w, [], w.heap.size, ptr gl2, (Value.slice A7 (recI chs).length cap7).ownBlock.toList, wr⟩ (.slice A8 (recP chs).length cap8) (.slice A9 (recI chs).length cap9) w4) gl2 gd 1048576 (N2 + 300000) u sure2 chs w4 :=
                ⟨L, { D with count := cnt }, HR.out.log, HF.out.more (by have := HF.out.count; have := HCNT.out; omega), HG.out.same (SameF.count D cnt), HSU.out, rfl⟩
              have hFr := Lib.hid (LwSt.free api (hW.touch api ((Touch.refl [] w4).drewN m)))
              have HN1b := Lib.hid HN1.out
              have hlow2 := HS3.out.low
              have HLOW2 := Lib.hid hlow2
              have l5 : decide (((recI chs).length : Int) < ((recI chs).length : Int)) = false := decide_eq_false (by omega)
              clear hW hll hj hjl hlow2
              generalize hql : (recI chs).length = q at *
              have HQL := Lib.hid hql
              go_wp2_with fail
              refine hFr.out.mono ?_
              rintro e w6 ⟨rfl, h6⟩
              obtain ⟨d0, d4, -⟩ := h6.made
              have hn6 := own_same HN1b.out (w' := w6) (fun b hb => h6.guests (by simp [rowsCtx, hb]))
              have hOp := Lib.hid (LdSt.open_ api nap cap (h6.leave HLOW2.out) (by have := HN2.out; have := HTL.out; omega))
              have HN6 := Lib.hid hn6
              have HB6 := Lib.hid (h6.below rfl HLOW2.out).size
              have D0 := Lib.hid d0
              have D4 := Lib.hid d4
              clear hFr h6 d0 d4 hn6
              go_wp2_with fail
              refine hOp.out.mono ?_
              rintro e w7 ⟨gl3, rfl, hlow3, h7⟩
              have e0 : w7.cell? ⟨gl2, 0, none⟩ = some (ptr gl2) := (World.cell?_of_block (h7.guests (by simp [rowsCtx]))).trans D0.out
              have e4 : w7.cell? ⟨gl2, 4, none⟩ = some (.int .i64 (endS chs : Nat)) := (World.cell?_of_block (h7.guests (by simp [rowsCtx]))).trans D4.out
              have hEo := Lib.hid (tend_run e0 e4)
              have hEn := Lib.hid h7.end_
              have hSu := Lib.hid h7.sure_
              have hF2 := Lib.hid (LwSt.free api h7)
              have HL3 := Lib.hid (Nat.le_trans HB6.out hlow3)
              have t6 : ((endS chs : Int) != (endS chs : Int)) = false := by simp
              have t7 : ((((1048576 : Nat) : Int) - (u : Int)) != (((1048576 : Nat) : Int) - (u : Int))) = false := by simp
              clear h7 hlow3 e0 e4 hOp
              generalize (endS chs : Int) = en at *
              generalize ((1048576 : Nat) : Int) - (u : Int) = fr at *
              go_wp2_with fail
              refine hEn.out.mono ?_
              rintro e w8 ⟨rfl, rfl⟩
              go_wp2_with fail
              refine hEo.out.mono ?_
              rintro e w8 ⟨rfl, rfl⟩
              go_wp2_with fail
              refine hSu.out.mono ?_
              rintro e w8 ⟨rfl, rfl⟩
              go_wp2_with fail
              refine hEn.out.mono ?_
              rintro e w8 ⟨rfl, rfl⟩
              go_wp2_with fail
              refine hF2.out.mono ?_
              rintro e w8 ⟨rfl, h8⟩
              have hS9 := BkSt.mk (h8.own api (G' := (Value.slice A7 q cap7).ownBlock.toList) (Touch.refl _ w8) (fun b hb => Or.inl (by simp only [rowsCtx, List.mem_cons, List.mem_append]; exact Or.inr (Or.inr (Or.inr hb)))) (fun b hb => h8.lts (by simp only [rowsCtx, List.mem_cons, List.mem_append]; exact Or.inr (Or.inr (Or.inr hb))))) (lq := recI chs) (vq := .slice A7 q cap7) (own_same (by rw [hql]; exact HN6.out) (fun b hb => h8.guests (by simp only [rowsCtx, List.mem_cons, List.mem_append]; exact Or.inr (Or.inr (Or.inr (by simpa using hb)))))) HL3.out
              have HS9 := Lib.hid hS9
              clear h8 hS9
              go_wp2
              exact ⟨⟨t + 1, gl3, N2 + 300000 + 200, endS chs, by have := HTL.out; omega, by go_num, rfl, by rw [HQL.out]; exact HS9.out, by have := HN2.out; omega⟩, by simp [intOf]; have := HTL.out; omega⟩
        · have l1 : decide ((t : Int) < 3) = false := decide_eq_false (by omega)
          have HB := Lib.hid hbl3
          clear htl ht hbl3
          go_wp2_with fail
          refine (LO.out _).mono ?_
          rintro e w4 ⟨rfl, hb⟩
          have HB2 := Lib.hid (HB.out.trans (hb.mono HB.out.size))
          clear hb
          go_wp2
          go_ret
          exact ⟨rfl, HB2.out⟩
end
end Go.Proofs.YtedbgimmbapfaaaGreat

/- U16s -/
namespace Go.Proofs.YtedbgimmbapfaaaGreat
open Go.ChangeShapes Go.WideShapes Go.ChangeAt Go.RowKit
set_option linter.unusedVariables false

def U16sIn (w : World) (v : Value) (l : List Nat) : Prop :=
  (l = [] ∧ ∃ a c, v = .slice a 0 c) ∨ ∃ b off cap, v = .slice (some ⟨b, off, none⟩) l.length cap ∧ l.length ≤ cap ∧ cap ≤ maxLen ∧ b < w.heap.size ∧ ∀ i x, l[i]? = some x → w.cell? ⟨b, off + i, none⟩ = some (.int .u16 (x : Nat))
theorem u16s_laidOut : laidOutB Tryz.prog = true := by kernel_rfl
theorem cells_u16 : Tryz.prog.cellsOf 53 = 1 := by kernel_rfl
theorem u16s_in {H : Type} {enc : TypeId × Value → H} {W : World} {v : Value} {d : DataW H} {p : List MemPlace} (hval : ∃ a len cap, v = .slice a len cap)
    (hd : DataW.Trod enc Tryz.prog W 0 (fun _ => true) true 52 v d p) (hlt : ∀ x ∈ p, x.block < W.heap.size) : ∃ l : List Nat, U16sIn W v l ∧ ∀ x ∈ l, x < 65536 := by
  obtain ⟨a0, len, cap, rfl⟩ := hval
  obtain ⟨fuel, hf⟩ := hd
  rcases open_ints Tryz.underlying52 Tryz.underlying53 cells_u16 hf with ⟨hcs, hx⟩ | ⟨a, len', cap', zs, hcs, _, hl, hm, hz, hx, hcell, hwz⟩
  · simp [Value.cells] at hcs
    obtain ⟨rfl, rfl, rfl⟩ := hcs
    exact ⟨[], Or.inl ⟨rfl, _, _, rfl⟩, fun x hx => by cases hx⟩
  · simp [Value.cells] at hcs
    obtain ⟨rfl, rfl, rfl⟩ := hcs
    simp only [Prod.mk.injEq] at hx
    obtain ⟨rfl, rfl⟩ := hx
    simp only [if_true] at hz
    by_cases hl0 : len = 0
    · subst hl0
      exact ⟨[], Or.inl ⟨rfl, _, _, rfl⟩, fun x hx => by cases hx⟩
    · obtain ⟨b, off, spot⟩ := a
      have hspot : spot = none := by simpa [Addr.add] using World.cell?_spot (hcell 0 (by omega))
      subst hspot
      have hbW : b < W.heap.size := hlt (.cell b off) (MemPlace.mem_row.2 ⟨0, by omega, by simp⟩)
      have hn : ∀ z ∈ zs, ∃ n : Nat, z = n ∧ n < 65536 := fun z hz => u16_nat (hwz z hz)
      have hlen : ((zs.take len).map Int.toNat).length = len := by rw [List.length_map, List.length_take]; omega
      refine ⟨(zs.take len).map Int.toNat, Or.inr ⟨b, off, cap, by rw [hlen], by omega, hm, hbW, fun i x hx => ?_⟩, ?_⟩
      · rw [List.getElem?_map, List.getElem?_take] at hx
        by_cases hi : i < len
        · rw [if_pos hi] at hx
          have hi' : i < zs.length := by omega
          rw [List.getElem?_eq_getElem hi'] at hx
          obtain rfl : zs[i].toNat = x := by simpa using hx
          have e1 : zs.getD i 0 = zs[i] := by rw [List.getD_eq_getElem?_getD, List.getElem?_eq_getElem hi']; rfl
          obtain ⟨n, en, _⟩ := hn zs[i] (List.getElem_mem hi')
          have ea : (⟨b, off, none⟩ : Addr).add i = ⟨b, off + i, none⟩ := by simp [Addr.add]
          have h := hcell i hi'
          rw [ea, e1] at h
          rw [h, en]
          rfl
        · rw [if_neg hi] at hx
          simp at hx
      · intro x hx
        obtain ⟨z, hz1, rfl⟩ := List.mem_map.1 hx
        obtain ⟨n, rfl, hn2⟩ := hn z (List.mem_of_mem_take hz1)
        exact hn2
/-- What is read of it behind the call. -/
theorem u16s_out {H : Type} {enc : TypeId × Value → H} {W W' : World} {v : Value} {d : DataW H} {p : List MemPlace}
    (hd : DataW.Trod enc Tryz.prog W 0 (fun _ => true) true 52 v d p) (hlt : ∀ x ∈ p, x.block < W.heap.size) (hb : Below W.heap.size W W') :
    DataW.Trod enc Tryz.prog W' 0 (fun b => decide (b < W.heap.size)) true 52 v d p :=
  Below.trod u16s_laidOut (by kernel_rfl) (of_decide_eq_true (by kernel_rfl)) hd hb hlt
theorem U16sIn.form {w : World} {v : Value} {l : List Nat} (h : U16sIn w v l) : ∃ A off c, v = .slice A l.length c ∧ l.length ≤ maxLen ∧ ∀ i x, l[i]? = some x → ∃ b, A = some ⟨b, off, none⟩ ∧ b < w.heap.size ∧ w.cell? ⟨b, off + i, none⟩ = some (.int .u16 (x : Nat)) := by
  rcases h with ⟨rfl, a, c, rfl⟩ | ⟨b, off, cap, h1, h2, h3, h4, h5⟩
  · exact ⟨a, 0, c, rfl, Nat.zero_le _, fun i x h => by simp at h⟩
  · exact ⟨some ⟨b, off, none⟩, off, cap, h1, by omega, fun i x hx => ⟨b, rfl, h4, h5 i x hx⟩⟩
end Go.Proofs.YtedbgimmbapfaaaGreat

/- TfRoomWalk -/
namespace Go.Proofs.YtedbgimmbapfaaaGreat
open Go.RowKit Go.Shelf
set_option linter.unusedVariables false

section
variable {At : Lies} (api : DiskApi At) (nap : NamesApi) (cap : ChunksApi)
include api nap cap
set_option maxRecDepth 100000 in
set_option maxHeartbeats 8000000 in
theorem room12_walk (v : Value) (l : List Nat) (w : World) (C : Nat) (hx : ∀ x ∈ l, x < 65536) (hv : U16sIn w v l) (hC : C < 65536) : Calls Tryz.prog 5 #[v, .int .u16 (C : Nat)] w fun e w' => e = .returned (.bool true) ∧ Below w.heap.size w w' := by
  obtain ⟨A, off, c, hvv, hm, hcell⟩ := hv.form
  have LO := Lib.hid fun W => lodged_true api nap cap W
  by_cases h400 : 400 < l.length
  · have t1 : decide ((400 : Int) < (l.length : Int)) = true := decide_eq_true (by omega)
    subst hvv
    generalize l.length = n at *
    clear hv hcell hx h400 hm
    go_enter Tryz.func5, Tryz.ntmps5
    go_wp2_with fail
    refine (LO.out _).mono ?_
    rintro e w1 ⟨rfl, hb⟩
    go_wp2
    go_ret
    exact ⟨rfl, hb⟩
  have t1 : decide ((400 : Int) < (l.length : Int)) = false := decide_eq_false (by omega)
  have HC := Lib.hid hcell
  have HX := Lib.hid hx
  have HCC := Lib.hid hC
  have hN := Lib.hid (ld_new (At := At) api w C (by omega))
  have hcv0 : IntKind.i64.wrap (C : Int) = (C : Int) := IntWalk.i64_in _ (by omega)
  obtain ⟨n, hn⟩ : ∃ n, l.length = n := ⟨_, rfl⟩
  have HN := Lib.hid hn
  rw [hn] at h400 hm t1
  have HN4 := Lib.hid h400
  subst hvv
  rw [hn]
  clear hv hcell hx h400 hm hC hn
  go_enter Tryz.func5, Tryz.ntmps5
  go_wp2_with fail
  refine hN.out.mono ?_
  rintro e w1 ⟨gd, rfl, h1⟩
  have hO := Lib.hid (LdSt.open_ api nap cap h1 (by decide))
  have HLT := Lib.hid (show w.heap.size ≤ w1.heap.size by
    obtain ⟨D, ⟨F, _, _, ht, _⟩, _⟩ := h1
    exact ht.size)
  clear h1 hN
  go_wp2_with fail
  refine hO.out.mono ?_
  rintro e w2 ⟨gl, rfl, hlow, h2⟩
  have HLOW := Lib.hid (Nat.le_trans HLT.out hlow)
  have H2 := Lib.hid h2
  clear h2 hO hlow
  go_wp2
  go_loopw [9] (fun i wr => ∃ (k u sure : Nat) (chs : List (List ByteArray)), k ≤ n ∧ i = .int .i64 k ∧ LwSt At ⟨w, [], w.heap.size, ptr gl, [], w⟩ gl gd C 200 u sure chs wr) (fun i _ => n - (intOf i).toNat)
  case atStart => exact ⟨0, 0, endS [], [], Nat.zero_le _, rfl, H2.out⟩
  case round =>
    obtain ⟨k, u, sure, chs, hk, rfl, hS⟩ := hrel
    have HS := Lib.hid hS
    have hbl := hS.below rfl HLOW.out
    clear hS H2
    by_cases hlt : k < n
    · obtain ⟨x, hx⟩ : ∃ x, l[k]? = some x := ⟨l[k]'(by rw [HN.out]; exact hlt), List.getElem?_eq_getElem _⟩
      obtain ⟨b, rfl, hb, hc⟩ := HC.out k x hx
      have HQ := Lib.hid (fun (W : World) (hW : Below w.heap.size w W) => (hW.cell (p := ⟨b, off + k, none⟩) hb).trans hc)
      have hx6 := HX.out x (List.mem_of_getElem? hx)
      have s1 : (k : Int) < (n : Int) := by omega
      obtain ⟨m, hm⟩ : ∃ m, x % 2001 = m := ⟨_, rfl⟩
      have hm2 : m ≤ 2000 := by omega
      have m1 : Int.tmod (x : Int) 2001 = (m : Int) := by rw [Int.tmod_eq_emod_of_nonneg (by omega)]; omega
      have hcx : IntKind.i64.wrap (x : Int) = (x : Int) := IntWalk.i64_in _ (by omega)
      obtain ⟨p, Y, hp, hmk, hcv⟩ := zer_any m (by omega)
      have hw9 : IntKind.i64.wrap ((k : Int) + 1) = (k : Int) + 1 := IntWalk.i64_in _ (by have := HN4.out; omega)
      have HP := Lib.hid (show p.size ≤ 2000 by omega)
      have HKN := Lib.hid hlt
      have hE := Lib.hid (HS.out.end_)
      have hF := Lib.hid (HS.out.free api)
      clear hx hc hm hb hx6 hm2 hp hk hlt hbl
      go_wp2_with fail
      refine hE.out.mono ?_
      rintro e w3 ⟨rfl, rfl⟩
      go_wp2_with fail
      refine hF.out.mono ?_
      rintro e w3 ⟨rfl, h3⟩
      have q0 := HQ.out w3 (h3.below rfl HLOW.out)
      have H4 := Lib.hid (h3.touch api ((Touch.refl [] w3).alloc (.cells Y 5)))
      have hA := Lib.hid (LwSt.append_any api nap cap H4.out p HP.out)
      clear h3 hE hF
      have t5 : ((endS chs : Int) != (endS chs : Int)) = false := by simp
      have t6 : (((C : Int) - (u : Int)) != ((C : Int) - (u : Int))) = false := by simp
      go_wp2_with fail
      refine hA.out.mono ?_
      rintro e w5 (⟨rfl, h5⟩ | ⟨rfl, u', q1, q2, h5, -⟩)
      · have hE := Lib.hid (h5.end_)
        have hF := Lib.hid (h5.free api)
        clear h5 hA q0 hmk hcv
        generalize (endS chs : Int) = en at *
        generalize ((C : Int) - (u : Int)) = fr at *
        go_wp2_with fail
        refine hE.out.mono ?_
        rintro e w6 ⟨rfl, rfl⟩
        go_wp2_with fail
        refine hF.out.mono ?_
        rintro e w6 ⟨rfl, h6⟩
        have H6 := Lib.hid h6
        clear h6 hE hF
        go_wp2
        exact ⟨⟨k + 1, u, sure, chs, by have := HKN.out; omega, by go_num, H6.out⟩, by simp [intOf]; have := HKN.out; omega⟩
      · have hF := Lib.hid (h5.free api)
        have t7 : decide ((C : Int) - (u' : Int) < 6000) = false := decide_eq_false (by omega)
        clear h5 hA q0 hmk hcv
        go_wp2_with fail
        refine hF.out.mono ?_
        rintro e w6 ⟨rfl, h6⟩
        have H6 := Lib.hid h6
        clear h6 hF
        go_wp2
        exact ⟨⟨k + 1, u', _, _, by have := HKN.out; omega, by go_num, H6.out⟩, by simp [intOf]; have := HKN.out; omega⟩
    · obtain rfl : k = n := by omega
      have s1 : ¬ (k : Int) < (k : Int) := by omega
      have hE := Lib.hid (HS.out.end_)
      have hlw := HS.out
      have hO := Lib.hid (LdSt.open_ api nap cap (hlw.leave HLOW.out) (by decide))
      have HSZ := Lib.hid hbl.size
      clear hlw hbl hlt hk
      go_wp2_with fail
      refine hE.out.mono ?_
      rintro e w3 ⟨rfl, rfl⟩
      go_wp2_with fail
      refine hO.out.mono ?_
      rintro e w4 ⟨gl2, rfl, hlow2, h4⟩
      have hE2 := Lib.hid (h4.end_)
      have t5 : ((endS chs : Int) == (endS chs : Int)) = true := by simp
      have HB := Lib.hid (h4.below rfl (Nat.le_trans HSZ.out hlow2))
      clear h4 hO hE hlow2
      go_wp2_with fail
      refine hE2.out.mono ?_
      rintro e w5 ⟨rfl, rfl⟩
      go_wp2_with fail
      refine (LO.out _).mono ?_
      rintro e w6 ⟨rfl, hb⟩
      have HB2 := Lib.hid (HB.out.trans (hb.mono HB.out.size))
      clear hb
      go_wp2
      go_ret
      exact ⟨rfl, HB2.out⟩
end
end Go.Proofs.YtedbgimmbapfaaaGreat

/- DNone -/
namespace Go.Proofs.YtedbgimmbapfaaaGreat
open Go.RowKit
set_option linter.unusedVariables false

/-- A call that answers so, and changes nothing. -/
def Says (f : FuncId) (args : Array Value) (w : World) (v : Value) : Prop := Calls Tryz.prog f args w fun e w' => e = .returned v ∧ w = w'
section
variable {w : World} {p : Value}
theorem ready_nil (hn : Says 42 #[p] w (.bool true))  : Says 34 #[p] w (.int .i64 1) := by
  have k0 := Lib.hid (hn)
  clear hn
  unfold Says at *
  go_enter Tryz.func34, Tryz.ntmps34
  go_wp2_with fail
  refine k0.out.mono ?_
  rintro e w' ⟨rfl, rfl⟩
  go_wp2
  go_ret
  exact ⟨rfl, rfl⟩
theorem look_nil (hn : Says 42 #[p] w (.bool true)) (n : ByteArray) : Says 69 #[p, .string n] w (.tuple #[.pointer none, .int .i64 1]) := by
  have k0 := Lib.hid (hn)
  clear hn
  unfold Says at *
  go_enter Tryz.func69, Tryz.ntmps69
  go_wp2_with fail
  refine k0.out.mono ?_
  rintro e w' ⟨rfl, rfl⟩
  go_wp2
  go_ret2
  exact ⟨rfl, rfl⟩
theorem open_nil (hn : Says 42 #[p] w (.bool true)) (n : ByteArray) : Says 54 #[p, .string n] w (.tuple #[.pointer none, .int .i64 1]) := by
  have k0 := Lib.hid (ready_nil hn)
  clear hn
  unfold Says at *
  go_enter Tryz.func54, Tryz.ntmps54
  go_wp2_with fail
  refine k0.out.mono ?_
  rintro e w' ⟨rfl, rfl⟩
  go_wp2
  go_ret2
  exact ⟨rfl, rfl⟩
theorem up_nil (hn : Says 42 #[p] w (.bool true))  : Says 43 #[p] w (.bool false) := by
  have k0 := Lib.hid (hn)
  clear hn
  unfold Says at *
  go_enter Tryz.func43, Tryz.ntmps43
  go_wp2_with fail
  refine k0.out.mono ?_
  rintro e w' ⟨rfl, rfl⟩
  go_wp2
  go_ret
  exact ⟨rfl, rfl⟩
theorem read_nil (hn : Says 42 #[p] w (.bool true)) (n : ByteArray) (a k : Int) : Says 27 #[p, .string n, .int .i64 a, .int .i64 k] w (.tuple #[.string ByteArray.empty, .int .i64 1]) := by
  have k0 := Lib.hid (up_nil hn)
  have k1 := Lib.hid (open_nil hn n)
  clear hn
  unfold Says at *
  go_enter Tryz.func27, Tryz.ntmps27
  go_wp2_with fail
  refine k0.out.mono ?_
  rintro e w' ⟨rfl, rfl⟩
  go_wp2_with fail
  refine k1.out.mono ?_
  rintro e w' ⟨rfl, rfl⟩
  go_wp2
  go_ret2
  exact ⟨rfl, rfl⟩
theorem size_nil (hn : Says 42 #[p] w (.bool true)) (n : ByteArray) : Says 26 #[p, .string n] w (.tuple #[.int .i64 0, .int .i64 1]) := by
  have k0 := Lib.hid (open_nil hn n)
  clear hn
  unfold Says at *
  go_enter Tryz.func26, Tryz.ntmps26
  go_wp2_with fail
  refine k0.out.mono ?_
  rintro e w' ⟨rfl, rfl⟩
  go_wp2
  go_ret2
  exact ⟨rfl, rfl⟩
theorem create_nil (hn : Says 42 #[p] w (.bool true)) (n : ByteArray) : Says 50 #[p, .string n] w (.int .i64 1) := by
  have k0 := Lib.hid (ready_nil hn)
  clear hn
  unfold Says at *
  go_enter Tryz.func50, Tryz.ntmps50
  go_wp2_with fail
  refine k0.out.mono ?_
  rintro e w' ⟨rfl, rfl⟩
  go_wp2
  go_ret
  exact ⟨rfl, rfl⟩
theorem append_nil (hn : Says 42 #[p] w (.bool true)) (n : ByteArray) (s : ByteArray) : Says 52 #[p, .string n, .string s] w (.int .i64 1) := by
  have k0 := Lib.hid (open_nil hn n)
  clear hn
  unfold Says at *
  go_enter Tryz.func52, Tryz.ntmps52
  go_wp2_with fail
  refine k0.out.mono ?_
  rintro e w' ⟨rfl, rfl⟩
  go_wp2
  go_ret
  exact ⟨rfl, rfl⟩
theorem sync_nil (hn : Says 42 #[p] w (.bool true)) (n : ByteArray) : Says 60 #[p, .string n] w (.int .i64 1) := by
  have k0 := Lib.hid (open_nil hn n)
  clear hn
  unfold Says at *
  go_enter Tryz.func60, Tryz.ntmps60
  go_wp2_with fail
  refine k0.out.mono ?_
  rintro e w' ⟨rfl, rfl⟩
  go_wp2
  go_ret
  exact ⟨rfl, rfl⟩
theorem rename_nil (hn : Says 42 #[p] w (.bool true)) (n : ByteArray) (s : ByteArray) : Says 88 #[p, .string n, .string s] w (.int .i64 1) := by
  have k0 := Lib.hid (open_nil hn n)
  clear hn
  unfold Says at *
  go_enter Tryz.func88, Tryz.ntmps88
  go_wp2_with fail
  refine k0.out.mono ?_
  rintro e w' ⟨rfl, rfl⟩
  go_wp2
  go_ret
  exact ⟨rfl, rfl⟩
theorem delete_nil (hn : Says 42 #[p] w (.bool true)) (n : ByteArray) : Says 63 #[p, .string n] w (.int .i64 1) := by
  have k0 := Lib.hid (open_nil hn n)
  clear hn
  unfold Says at *
  go_enter Tryz.func63, Tryz.ntmps63
  go_wp2_with fail
  refine k0.out.mono ?_
  rintro e w' ⟨rfl, rfl⟩
  go_wp2
  go_ret
  exact ⟨rfl, rfl⟩
theorem names_nil (hn : Says 42 #[p] w (.bool true))  : Says 61 #[p] w (.slice none 0 0) := by
  have k0 := Lib.hid (hn)
  clear hn
  unfold Says at *
  go_enter Tryz.func61, Tryz.ntmps61
  go_wp2_with fail
  refine k0.out.mono ?_
  rintro e w' ⟨rfl, rfl⟩
  go_wp2
  go_ret
  exact ⟨rfl, rfl⟩
theorem free_nil (hn : Says 42 #[p] w (.bool true))  : Says 18 #[p] w (.int .i64 0) := by
  have k0 := Lib.hid (hn)
  clear hn
  unfold Says at *
  go_enter Tryz.func18, Tryz.ntmps18
  go_wp2_with fail
  refine k0.out.mono ?_
  rintro e w' ⟨rfl, rfl⟩
  go_wp2
  go_ret
  exact ⟨rfl, rfl⟩
theorem starts_nil (hn : Says 42 #[p] w (.bool true))  : Says 36 #[p] w (.int .i64 0) := by
  have k0 := Lib.hid (hn)
  clear hn
  unfold Says at *
  go_enter Tryz.func36, Tryz.ntmps36
  go_wp2_with fail
  refine k0.out.mono ?_
  rintro e w' ⟨rfl, rfl⟩
  go_wp2
  go_ret
  exact ⟨rfl, rfl⟩
theorem crash_nil (hn : Says 42 #[p] w (.bool true)) (A : Option Addr) (m c : Nat) : Says 14 #[p, .slice A m c] w (.int .i64 1) := by
  have k0 := Lib.hid (ready_nil hn)
  clear hn
  unfold Says at *
  go_enter Tryz.func14, Tryz.ntmps14
  go_wp2_with fail
  refine k0.out.mono ?_
  rintro e w' ⟨rfl, rfl⟩
  go_wp2
  go_ret
  exact ⟨rfl, rfl⟩
end
end Go.Proofs.YtedbgimmbapfaaaGreat

/- TfNone -/
namespace Go.Proofs.YtedbgimmbapfaaaGreat
open Go.RowKit Go.Shelf
set_option linter.unusedVariables false

section
variable {w : World} {p : Value}
theorem tready_nil (hn : Says 33 #[p] w (.bool true)) : Says 19 #[p] w (.int .i64 1) := by
  have k0 := Lib.hid (hn)
  clear hn
  unfold Says at *
  go_enter Tryz.func19, Tryz.ntmps19
  go_wp2_with fail
  refine k0.out.mono ?_
  rintro e w' ⟨rfl, rfl⟩
  go_wp2
  go_ret
  exact ⟨rfl, rfl⟩
theorem tappend_nil (hn : Says 33 #[p] w (.bool true)) (s : ByteArray) : Says 7 #[p, .string s] w (.tuple #[.int .i64 0, .int .i64 1]) := by
  have k0 := Lib.hid (tready_nil hn)
  clear hn
  unfold Says at *
  go_enter Tryz.func7, Tryz.ntmps7
  go_wp2_with fail
  refine k0.out.mono ?_
  rintro e w' ⟨rfl, rfl⟩
  go_wp2
  go_ret2
  exact ⟨rfl, rfl⟩
theorem tflread_nil (hn : Says 33 #[p] w (.bool true)) (k : Int) : Says 8 #[p, .int .i64 k] w (.tuple #[.string ByteArray.empty, .int .i64 1]) := by
  have k0 := Lib.hid (tready_nil hn)
  clear hn
  unfold Says at *
  go_enter Tryz.func8, Tryz.ntmps8
  go_wp2_with fail
  refine k0.out.mono ?_
  rintro e w' ⟨rfl, rfl⟩
  go_wp2
  go_ret2
  exact ⟨rfl, rfl⟩
def SaysEnd (w : World) (v : Value) (e : Ending) (w' : World) : Prop := e = .returned v ∧ w = w'
theorem tnext_nil (hn : Says 33 #[p] w (.bool true)) (k : Int) : Says 9 #[p, .int .i64 k] w (.tuple #[.string ByteArray.empty, .int .i64 0, .int .i64 0, .int .i64 1]) := by
  have k0 := Lib.hid (tready_nil hn)
  clear hn
  show Calls Tryz.prog 9 #[p, .int .i64 k] w (SaysEnd w (.tuple #[.string ByteArray.empty, .int .i64 0, .int .i64 0, .int .i64 1]))
  unfold Says at k0
  go_enter Tryz.func9, Tryz.ntmps9
  go_wp2
  go_step3
  go_wp2_with fail
  refine k0.out.mono ?_
  rintro e w' ⟨rfl, rfl⟩
  go_wp2
  refine bodyPost_ret (tail_results rfl _ _ _) rfl ?_
  exact ⟨rfl, rfl⟩
theorem tflush_nil (hn : Says 33 #[p] w (.bool true)) : Says 10 #[p] w (.int .i64 1) := by
  have k0 := Lib.hid (tready_nil hn)
  clear hn
  unfold Says at *
  go_enter Tryz.func10, Tryz.ntmps10
  go_wp2_with fail
  refine k0.out.mono ?_
  rintro e w' ⟨rfl, rfl⟩
  go_wp2
  go_ret
  exact ⟨rfl, rfl⟩
theorem tend_nil (hn : Says 33 #[p] w (.bool true)) : Says 11 #[p] w (.int .i64 0) := by
  have k0 := Lib.hid (hn)
  clear hn
  unfold Says at *
  go_enter Tryz.func11, Tryz.ntmps11
  go_wp2_with fail
  refine k0.out.mono ?_
  rintro e w' ⟨rfl, rfl⟩
  go_wp2
  go_ret
  exact ⟨rfl, rfl⟩
theorem tsure_nil (hn : Says 33 #[p] w (.bool true)) : Says 12 #[p] w (.int .i64 0) := by
  have k0 := Lib.hid (hn)
  clear hn
  unfold Says at *
  go_enter Tryz.func12, Tryz.ntmps12
  go_wp2_with fail
  refine k0.out.mono ?_
  rintro e w' ⟨rfl, rfl⟩
  go_wp2
  go_ret
  exact ⟨rfl, rfl⟩
theorem tsweep_nil {gl : Nat} {a : Option Addr} (h : w.cell? ⟨gl, 1, none⟩ = some (.pointer a)) (hn : Says 42 #[.pointer a] w (.bool true)) : Says 38 #[ptr gl] w (.int .i64 1) := by
  have k0 := Lib.hid (delete_nil hn ⟨#[110, 101, 119]⟩)
  clear hn
  unfold Says at *
  go_enter Tryz.func38, Tryz.ntmps38
  go_wp2_with fail
  refine k0.out.mono ?_
  rintro e w' ⟨rfl, rfl⟩
  go_wp2
  go_ret
  exact ⟨rfl, rfl⟩
end
set_option maxRecDepth 100000 in
/-- Steps whose first one fails. -/
theorem steps_first {b n : Nat} (h1 : 1 ≤ n) (hn : n ≤ 1000) (f : FuncId) (x y : Array Value) (k : Nat) (hk : k ≠ 0) (W : World) (St : World → Prop) (hent : Enters Tryz.prog f) (hcell : W.cell? ⟨b, 0, none⟩ = some (.func (.func f) x y))
    (hcall : Calls Tryz.prog f (x ++ #[] ++ y) W fun e W' => e = .returned (.int .i64 (k : Nat)) ∧ St W') :
    Calls Tryz.prog 37 #[.slice (some ⟨b, 0, none⟩) n n] W fun e W' => e = .returned (.int .i64 (k : Nat)) ∧ St W' := by
  have hcl := hcall
  have ha : x ++ #[] ++ y = x ++ y := by simp
  rw [ha] at hcl
  have HCL := Lib.hid hcl
  have t : ((k : Int) != 0) = true := by simp; omega
  have l1 : (0 : Int) < (n : Int) := by omega
  unfold Enters at hent
  clear hcall hcl ha
  go_enter Tryz.func37, Tryz.ntmps37
  go_wp2
  go_loopw [8] (fun i wr => i = .int .i64 0 ∧ wr = W) (fun i _ => 0)
  case atStart => exact ⟨rfl, rfl⟩
  case round =>
    obtain ⟨rfl, rfl⟩ := hrel
    go_wp2_with fail
    refine HCL.out.mono ?_
    rintro e w2 ⟨rfl, hs2⟩
    have H2 := Lib.hid hs2
    clear hs2 hent hcell
    go_wp2
    go_ret
    exact ⟨rfl, H2.out⟩
set_option maxRecDepth 100000 in
theorem topen_nil (a : Option Addr) (W : World) (hn : ∀ W', Below W.heap.size W W' → Says 42 #[.pointer a] W' (.bool true)) :
    Calls Tryz.prog 15 #[.pointer a] W fun e W' => e = .returned (.tuple #[.pointer none, .int .i64 1]) ∧ Below W.heap.size W W' := by
  have hS := Lib.hid (starts_nil (hn W (Below.refl _ _)))
  obtain ⟨W1, hW1⟩ : ∃ W1, W1 = W.alloc (.cells #[.pointer none, .pointer a, .int .i64 0, .int .i64 0, .int .i64 0, .int .i64 0] 35) := ⟨_, rfl⟩
  have k1 : Blok W1 W.heap.size 35 #[.pointer none, .pointer a, .int .i64 0, .int .i64 0, .int .i64 0, .int .i64 0] := by rw [hW1]; exact Blok.new W _ _
  have b1 : Below W.heap.size W W1 := by rw [hW1]; exact (Below.refl _ _).alloc (Nat.le_refl _) _
  obtain ⟨gl, hgl⟩ : ∃ gl, gl = W.heap.size := ⟨_, rfl⟩
  obtain ⟨W2, hW2⟩ : ∃ W2, W2 = W1.alloc (.cells #[.func (.func 38) #[ptr gl] #[], .func (.func 39) #[ptr gl] #[], .func (.func 40) #[ptr gl] #[]] 31) := ⟨_, rfl⟩
  have k2 : Blok W2 W1.heap.size 31 #[.func (.func 38) #[ptr gl] #[], .func (.func 39) #[ptr gl] #[], .func (.func 40) #[ptr gl] #[]] := by rw [hW2]; exact Blok.new W1 _ _
  have b2 : Below W.heap.size W W2 := by rw [hW2]; exact b1.alloc b1.size _
  have k3 : Blok W2 W.heap.size 35 #[.pointer none, .pointer a, .int .i64 0, .int .i64 0, .int .i64 0, .int .i64 0] := by rw [hW2]; exact k1.alloc _
  have hmf : ∀ (fn : Fn) (first cap : Array Value) (w : World), (Instr.makeFunc fn first cap).run Tryz.prog w = .ok (.func fn first cap) w := fun _ _ _ _ => rfl
  have R := Lib.hid (steps_first (b := W1.heap.size) (n := 3) (by omega) (by omega) 38 #[ptr gl] #[] 1 (by omega) W2 (fun w' => W2 = w') (enters_of Tryz.func38 (by kernel_rfl) rfl) (k2.cell 0) (by
    rw [hgl]
    exact tsweep_nil (k3.cell 1) (hn W2 b2)))
  have B2 := Lib.hid b2
  have hW1' := hW1.symm
  have hW2' := hW2.symm
  have hgl' := hgl.symm
  clear hn k1 k2 k3 b1 b2 hW1 hW2 hgl
  unfold Says at hS
  go_enter Tryz.func15, Tryz.ntmps15
  go_wp2_with fail
  refine hS.out.mono ?_
  rintro e w' ⟨rfl, rfl⟩
  go_wp2_with fail
  refine R.out.mono ?_
  rintro e w3 ⟨rfl, rfl⟩
  go_wp2
  go_ret2
  exact ⟨rfl, B2.out⟩
theorem DSt.disk {At : Lies} {c : Ctx} {gd : Nat} {D D' : DiskS} {w : World} (h : DSt At c gd D w) {f : FuncId} {args : Array Value} {v : Value} (hc : ∀ F, At w c.base gd F D → Calls Tryz.prog f args w (EndAt At c.base gd F w v D')) : Calls Tryz.prog f args w fun e w' => e = .returned v ∧ DSt At c gd D' w' := by
  obtain ⟨F, h1, h4, h5, h6, h7⟩ := h
  refine (hc F h1).mono ?_
  rintro e w' ⟨F', e1, e2, e3, e4⟩
  refine ⟨e1, F', e2, fun x hx => ?_, h5.trans e4 (fun x hx => h4 x hx), Nat.le_trans h6 e4.size, fun b hb => ?_⟩
  · rcases e3 x hx with k | k
    · exact h4 x k
    · exact Or.inr (by have := h5.size; omega)
  · obtain ⟨k1, k2, k3, k5⟩ := h7 b hb
    refine ⟨k1, k2, fun hm => ?_, (e4.block b (by omega) k3).trans k5⟩
    rcases e3 b hm with k | k
    · exact k3 k
    · omega
end Go.Proofs.YtedbgimmbapfaaaGreat
