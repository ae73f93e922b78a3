/- NamesApi, ChunksApi, TfDisk, TfSteps, TfBegin -/
import Derived.Test.YtedbgimmbapfaaaGreatPk10
import Derived.Test.YtedbgimmbapfaaaGreatPk05
import Derived.Test.YtedbgimmbapfaaaGreatPk03
import Derived.Test.YtedbgimmbapfaaaGreatPk04
import Derived.Deep.RegionHeld3
import Derived.Shelf.Abstract
/- NamesApi -/
namespace Go.Proofs.YtedbgimmbapfaaaGreat
open Go.RowKit
set_option linter.unusedVariables false

structure NamesApi : Prop where
  chunk : ∀ (n : Int) (w : World), (Lit.int .i64 n).wf = true → Calls Tryz.prog 25 #[.int .i64 n] w fun e w' => e = .returned (.string (nmS 99 n)) ∧ Below w.heap.size w w'
  parse : ∀ (s : ByteArray) (w : World), s.size ≤ maxLen → Calls Tryz.prog 64 #[.string s] w fun e w' => e = .returned (.tuple #[.int .u8 (npK s : Nat), .int .i64 (npN s : Nat), .bool (npOk s)]) ∧ Below w.heap.size w w'

theorem make_33 : ∃ Z : Array Value, (∀ w : World, (Instr.makeSlice 54 (.int .i64 33) (.int .i64 33)).run Tryz.prog w = .ok (.slice (some ⟨w.heap.size, 0, none⟩) 33 33) (w.alloc (.cells Z 5))) ∧
    ∀ w : World, (convert 54 9 (.slice (some ⟨w.heap.size, 0, none⟩) 33 33)).run Tryz.prog (w.alloc (.cells Z 5)) = .ok (.string (bs (List.replicate 33 0))) (w.alloc (.cells Z 5)) := by
  refine ⟨madeCells #[.int .u8 0] 33, run_make_row' (P := Tryz.prog) 54 5 (.int .u8 0) 1 Tryz.underlying54 (by kernel_rfl) rfl .i64 .i64 33 (by omega) (by omega), fun w => ?_⟩
  have hrow := World.rowIs_made w (.int .u8 0) 33 5
  have h := run_convert_bytes_back (P := Tryz.prog) (w.alloc (.cells (madeCells #[.int .u8 0] 33) 5)) 54 9 5 ⟨w.heap.size, 0, none⟩ 33 (List.replicate 33 0) Tryz.underlying54 Tryz.underlying5 Tryz.underlying9
    (fun j hj => by
      rw [List.length_replicate] at hj
      have e : (⟨w.heap.size, 0, none⟩ : Addr).add j = ⟨w.heap.size, j, none⟩ := by simp [Addr.add]; omega
      rw [List.getElem_replicate, e]
      exact hrow.cell hj)
  rw [List.length_replicate] at h
  exact h

theorem pex_1 : npK ⟨#[116, 48, 48, 48, 48, 49, 50]⟩ = 116 ∧ npN ⟨#[116, 48, 48, 48, 48, 49, 50]⟩ = 12 ∧ npOk ⟨#[116, 48, 48, 48, 48, 49, 50]⟩ = true := by decide
theorem pex_2 : npK ⟨#[116, 49, 50]⟩ = 0 ∧ npN ⟨#[116, 49, 50]⟩ = 0 ∧ npOk ⟨#[116, 49, 50]⟩ = false := by decide
theorem pex_3 : npK ⟨#[120, 48, 48, 48, 48, 49, 50]⟩ = 0 ∧ npN ⟨#[120, 48, 48, 48, 48, 49, 50]⟩ = 0 ∧ npOk ⟨#[120, 48, 48, 48, 48, 49, 50]⟩ = false := by decide
theorem pex_4 : npK ⟨#[99, 48, 48, 48, 48, 49, 97]⟩ = 0 ∧ npN ⟨#[99, 48, 48, 48, 48, 49, 97]⟩ = 0 ∧ npOk ⟨#[99, 48, 48, 48, 48, 49, 97]⟩ = false := by decide
theorem nex_1 : nmS 99 0 = ⟨#[99, 48, 48, 48, 48, 48, 48]⟩ := by kernel_rfl
theorem nex_2 : nmS 116 12 = ⟨#[116, 48, 48, 48, 48, 49, 50]⟩ := by kernel_rfl
theorem nex_3 : nmS 98 1000000 = ⟨#[]⟩ := by kernel_rfl
theorem nex_4 : nmS 98 (-1) = ⟨#[]⟩ := by kernel_rfl
end Go.Proofs.YtedbgimmbapfaaaGreat

/- ChunksApi -/
namespace Go.Proofs.YtedbgimmbapfaaaGreat
open Go.RowKit
set_option linter.unusedVariables false

structure ChunksApi : Prop where
  head : ∀ (n : Int) (w : World), (Lit.int .i64 n).wf = true → Calls Tryz.prog 47 #[.int .i64 n] w fun e w' => e = .returned (.string (hdS n)) ∧ Below w.heap.size w w'
  scan : ∀ (s : ByteArray) (n : Int) (w : World), s.size ≤ 1100000 → (Lit.int .i64 n).wf = true → Calls Tryz.prog 31 #[.string s, .int .i64 n] w (Scanned s n w)
  fits : ∀ (size : Int) (p : ByteArray) (w : World), p.size ≤ maxLen → (Lit.int .i64 size).wf = true → Calls Tryz.prog 46 #[.int .i64 size, .string p] w fun e w' => e = .returned (.bool (ftS size p)) ∧ w = w'
  put : ∀ (p : ByteArray) (w : World), p.size ≤ maxLen → Calls Tryz.prog 20 #[.string p] w fun e w' => e = .returned (.tuple #[.string (prS p), .int .i64 (prE p)]) ∧ Below w.heap.size w w'

theorem IntsIn.forms {w : World} {v : Value} {l : List Int} (h : IntsIn w v l) : ∃ A c, v = .slice A l.length c := by
  obtain ⟨A, off, cap, hv, _⟩ := h.cell
  exact ⟨A, cap, hv⟩

end Go.Proofs.YtedbgimmbapfaaaGreat

/- TfDisk -/
namespace Go.Proofs.YtedbgimmbapfaaaGreat
open Go.RowKit
set_option linter.unusedVariables false

theorem sizeS_le {D : DiskS} (h : WfP D) (n : ByteArray) : (sizeS D n).1 ≤ 1048576 := by
  unfold sizeS
  split
  · exact Nat.zero_le _
  · split
    · exact Nat.zero_le _
    · rename_i f hf
      exact (h.ok.sizes f (List.mem_of_getElem? hf)).2
theorem nmC_le {n : Nat} (h : n ≤ 999999) : (nmC n).size ≤ maxLen := by rw [nm_size h]; decide
theorem wf_nat {n : Nat} (h : n ≤ 9223372036854775807) : (Lit.int .i64 (n : Nat)).wf = true := WalkArith.wf_i64 (by omega)
theorem chunk_nm (nap : NamesApi) (n : Nat) (w : World) (hn : n ≤ 999999) : Calls Tryz.prog 25 #[.int .i64 (n : Nat)] w fun e w' => e = .returned (.string (nmC n)) ∧ Below w.heap.size w w' := nap.chunk n w (wf_nat (by omega))
theorem readS_size {D : DiskS} {n : ByteArray} {a k : Int} (h : WfP D) : (readS D n a k).1.size ≤ 1048576 := by
  unfold readS
  split
  · exact Nat.zero_le _
  · dsimp only
    split
    · exact Nat.zero_le _
    · rename_i f hf
      split
      · exact Nat.zero_le _
      · have := (h.ok.sizes f (List.mem_of_getElem? hf)).2
        show (f.data.extract _ _).size ≤ _
        rw [ByteArray.size_extract]
        omega
theorem rdC_size {D : DiskS} {n : ByteArray} (h : WfP D) : (rdC D n).1.size ≤ 1048576 := by
  unfold rdC
  split
  · exact readS_size h
  · exact Nat.zero_le _
theorem wp_rdC {D : DiskS} (h : WfP D) (n : ByteArray) : WfP (rdC D n).2.2 := by
  unfold rdC
  split
  · exact wp_read h _ _ _
  · exact h
theorem readS_count (D : DiskS) (n : ByteArray) (a k : Int) : (readS D n a k).2.2.count ≤ D.count + 1 := by
  unfold readS
  split
  · exact Nat.le_succ _
  · dsimp only
    split
    · exact Nat.le_refl _
    · split <;> exact Nat.le_refl _
theorem rdC_count (D : DiskS) (n : ByteArray) : (rdC D n).2.2.count ≤ D.count + 1 := by
  unfold rdC
  split
  · exact readS_count _ _ _ _
  · exact Nat.le_succ _
section
variable {At : Lies} (api : DiskApi At) (nap : NamesApi) {c : Ctx} {gl gd : Nat} {L L' : LogS} {D D' : DiskS} {w w' : World}
include api nap
theorem rd_run (h : TSt At c gl gd L D w) (ok : WfP D) (hct : D.count ≤ 1099511627776) (n : Nat) (hn : n ≤ 999999) : Calls Tryz.prog 30 #[ptr gl, .int .i64 (n : Nat)] w (TRet At c gl gd (.tuple #[.string (rdC D (nmC n)).1, err (rdC D (nmC n)).2.1]) L (rdC D (nmC n)).2.2) := by
  have hz := sizeS_le ok (nmC n)
  have hN := Lib.hid fun W => chunk_nm nap n W (by omega)
  have hS := Lib.hid fun (W : World) (hT : TSt At c gl gd L D W) => (show Calls Tryz.prog 26 #[ptr gd, .string (nmC n)] W (TRet At c gl gd (.tuple #[.int .i64 ((sizeS D (nmC n)).1 : Nat), err (sizeS D (nmC n)).2]) L D) from hT.same (api.sizeq (nmC n) (Classical.choose_spec hT).1 ok.ok (nmC_le hn)))
  have hR := Lib.hid fun (W : World) (hT : TSt At c gl gd L D W) => hT.disk api (fun F hF => api.read (nmC n) 0 ((sizeS D (nmC n)).1 : Nat) hF ok.ok hct (by decide) (wf_nat (by omega)) (nmC_le hn))
  have HH := Lib.hid h
  unfold rdC
  by_cases he : (sizeS D (nmC n)).2 = 0
  · rw [if_pos he]
    rw [he] at hS
    generalize (sizeS D (nmC n)).1 = z at *
    generalize readS D (nmC n) 0 (z : Nat) = r at *
    generalize nmC n = nm at *
    clear he hz h hct ok hn
    go_enter Tryz.func30, Tryz.ntmps30
    go_wp2_with fail
    refine (hN.out _).mono ?_
    rintro e w1 ⟨rfl, hb⟩
    have h1 := HH.out.below api hb
    obtain ⟨c0, c1, c2, c3, c4, c5⟩ := h1.cells
    have H1 := Lib.hid h1
    clear hb h1
    go_wp2_with fail
    refine (hS.out _ H1.out).mono ?_
    rintro e w2 ⟨rfl, h2⟩
    obtain ⟨d0, d1, d2, d3, d4, d5⟩ := h2.cells
    have H2 := Lib.hid h2
    clear h2
    go_wp2_with fail
    refine (hR.out _ H2.out).mono ?_
    rintro e w3 ⟨rfl, h3⟩
    have H3 := Lib.hid h3
    clear h3
    go_wp2
    go_ret2
    exact ⟨rfl, H3.out⟩
  · rw [if_neg he]
    have t : (((sizeS D (nmC n)).2 : Int) != 0) = true := by simp; omega
    generalize (sizeS D (nmC n)).2 = y at *
    generalize (sizeS D (nmC n)).1 = z at *
    generalize nmC n = nm at *
    clear hz h hR hct ok hn he
    go_enter Tryz.func30, Tryz.ntmps30
    go_wp2_with fail
    refine (hN.out _).mono ?_
    rintro e w1 ⟨rfl, hb⟩
    have h1 := HH.out.below api hb
    obtain ⟨c0, c1, c2, c3, c4, c5⟩ := h1.cells
    have H1 := Lib.hid h1
    clear hb h1
    go_wp2_with fail
    refine (hS.out _ H1.out).mono ?_
    rintro e w2 ⟨rfl, h2⟩
    have H2 := Lib.hid h2
    clear h2
    go_wp2
    go_ret2
    exact ⟨rfl, H2.out⟩
omit nap in
theorem room_run (h : TSt At c gl gd L D w) (ok : WfP D) (s : ByteArray) (hs : s.size ≤ 1000000) : Calls Tryz.prog 48 #[ptr gl, .string s] w (TRet At c gl gd (.bool (roomT D s)) L D) := by
  have hF := Lib.hid (h.disk api (fun F hF => api.free hF ok.ok))
  have HH := Lib.hid h
  obtain ⟨c0, c1, c2, c3, c4, c5⟩ := h.cells
  have k1 := ok.cap
  have k2 := ok.used
  unfold roomT
  have b1 : (D.cap : Int) - (usedS D.l : Nat) - (s.size : Nat) ≤ 1048576 := by omega
  have b2 : -1000000 ≤ (D.cap : Int) - (usedS D.l : Nat) - (s.size : Nat) := by omega
  generalize (D.cap : Int) - (usedS D.l : Nat) = y at *
  have hw : IntKind.i64.wrap (y - (s.size : Nat)) = y - (s.size : Nat) := IntWalk.i64_in _ (by omega)
  clear k1 k2 h c0 c2 c3 c4 c5 ok
  go_enter Tryz.func48, Tryz.ntmps48
  go_wp2_with fail
  refine hF.out.mono ?_
  rintro e w1 ⟨rfl, h1⟩
  have H1 := Lib.hid h1
  clear h1
  go_wp2
  go_ret
  exact ⟨rfl, H1.out⟩
set_option maxRecDepth 100000 in
theorem sync_yes (h : TSt At c gl gd L D w) (ok : WfP D) (hc : L.chunks ≤ 200) (h0 : 0 < L.chunks) : Calls Tryz.prog 32 #[ptr gl] w (TRet At c gl gd (err (syncT D L).1) (syncT D L).2.2 (syncT D L).2.1) := by
  obtain ⟨n, hn⟩ : ∃ n, L.chunks = n + 1 := ⟨L.chunks - 1, by omega⟩
  have hN := Lib.hid fun W => chunk_nm nap n W (by omega)
  have hS := Lib.hid fun (W : World) (hT : TSt At c gl gd L D W) => hT.disk api (fun F hF => api.sync (nmC n) hF ok.ok (nmC_le (by omega)))
  have HH := Lib.hid h
  obtain ⟨c0, c1, c2, c3, c4, c5⟩ := h.cells
  have e : L.chunks - 1 = n := by omega
  have t0 : decide ((0 : Int) < ((n + 1 : Nat) : Int)) = true := decide_eq_true (by omega)
  have t1 : ((n + 1 : Nat) : Int) - 1 = (n : Int) := by omega
  have hw2 : IntKind.i64.wrap (n : Int) = (n : Int) := IntWalk.i64_in _ (by omega)
  have hw : IntKind.i64.wrap (((n + 1 : Nat) : Int) - 1) = (n : Int) := by rw [t1]; exact IntWalk.i64_in _ (by omega)
  unfold syncT
  rw [if_neg (by omega), e]
  rw [hn] at c3
  have HN := Lib.hid hn
  generalize hm : ((n + 1 : Nat) : Int) = m at *
  have HM := Lib.hid hm
  by_cases he : (syncS D (nmC n)).1 = 0
  · rw [if_pos he]
    rw [he] at hS
    generalize (syncS D (nmC n)).2 = D1 at *
    generalize nmC n = nm at *
    clear e hn he h ok hc h0 c0 c2 c4 c5 hm
    go_enter Tryz.func32, Tryz.ntmps32
    go_wp2_with fail
    go_region_held3 (fun w' => w'.cell? ⟨gl, 1, none⟩ = some (ptr gd) ∧ w'.cell? ⟨gl, 3, none⟩ = some (.int .i64 m)) (first | assumption | exact ⟨by assumption, by assumption⟩ | exact ⟨c1, c3⟩) (first
      | (go_at_call 25; refine (hN.out _).mono ?_; rintro e w1 ⟨rfl, hb⟩; have h1 := (show TSt At c gl gd L D _ from by first | exact HH.out.drew api | exact HH.out).below api hb; have d1 : w1.cell? ⟨gl, 1, none⟩ = some (ptr gd) := h1.cells.2.1; have d3 : w1.cell? ⟨gl, 3, none⟩ = some (.int .i64 m) := by rw [h1.cells.2.2.2.1, HN.out, HM.out])
      | (go_at_call 60; refine (hS.out _ h1).mono ?_; rintro e w2 ⟨rfl, h2⟩; have e1 : w2.cell? ⟨gl, 1, none⟩ = some (ptr gd) := h2.cells.2.1; have e3 : w2.cell? ⟨gl, 3, none⟩ = some (.int .i64 m) := by rw [h2.cells.2.2.2.1, HN.out, HM.out])
      | fail)
    all_goals
      obtain ⟨_, _, _, _, g4, _⟩ := h2.cells
      have f5 := h2.frozen 5
      have H3 := Lib.hid (h2.putSure api L.endp)
      clear h1 h2 hb
      generalize (L.endp : Int) = y at *
      go_wp2
      go_ret
      exact ⟨rfl, H3.out⟩
  · rw [if_neg he]
    have t : (((syncS D (nmC n)).1 : Int) != 0) = true := by simp; omega
    generalize (syncS D (nmC n)).2 = D1 at *
    generalize (syncS D (nmC n)).1 = y at *
    generalize nmC n = nm at *
    clear e hn he h ok hc h0 c0 c2 c4 c5 hm
    go_enter Tryz.func32, Tryz.ntmps32
    go_wp2_with fail
    go_region_held3 (fun w' => w'.cell? ⟨gl, 1, none⟩ = some (ptr gd) ∧ w'.cell? ⟨gl, 3, none⟩ = some (.int .i64 m)) (first | assumption | exact ⟨by assumption, by assumption⟩ | exact ⟨c1, c3⟩) (first
      | (go_at_call 25; refine (hN.out _).mono ?_; rintro e w1 ⟨rfl, hb⟩; have h1 := (show TSt At c gl gd L D _ from by first | exact HH.out.drew api | exact HH.out).below api hb; have d1 : w1.cell? ⟨gl, 1, none⟩ = some (ptr gd) := h1.cells.2.1; have d3 : w1.cell? ⟨gl, 3, none⟩ = some (.int .i64 m) := by rw [h1.cells.2.2.2.1, HN.out, HM.out])
      | (go_at_call 60; refine (hS.out _ h1).mono ?_; rintro e w2 ⟨rfl, h2⟩; have e1 : w2.cell? ⟨gl, 1, none⟩ = some (ptr gd) := h2.cells.2.1; have e3 : w2.cell? ⟨gl, 3, none⟩ = some (.int .i64 m) := by rw [h2.cells.2.2.2.1, HN.out, HM.out])
      | fail)
    all_goals
      have H3 := Lib.hid h2
      clear h1 h2 hb
      go_wp2
      go_ret
      exact ⟨rfl, H3.out⟩
omit nap in
theorem sync_no (h : TSt At c gl gd L D w) (h0 : L.chunks = 0) : Calls Tryz.prog 32 #[ptr gl] w (TRet At c gl gd (err (syncT D L).1) (syncT D L).2.2 (syncT D L).2.1) := by
  unfold syncT
  rw [if_pos h0]
  obtain ⟨c0, c1, c2, c3, c4, c5⟩ := h.cells
  rw [h0] at c3
  have f5 := h.frozen 5
  have H3 := Lib.hid (h.putSure api L.endp)
  generalize (L.endp : Int) = y at *
  clear h c0 c1 c2 h0
  go_enter Tryz.func32, Tryz.ntmps32
  go_wp2
  go_ret
  exact ⟨rfl, H3.out⟩
theorem sync_t (h : TSt At c gl gd L D w) (ok : WfP D) (hc : L.chunks ≤ 200) : Calls Tryz.prog 32 #[ptr gl] w (TRet At c gl gd (err (syncT D L).1) (syncT D L).2.2 (syncT D L).2.1) := by
  by_cases h0 : L.chunks = 0
  · exact sync_no api h h0
  · exact sync_yes api nap h ok hc (by omega)
variable (cap : ChunksApi)
include cap
set_option maxRecDepth 100000 in
theorem target_run (h : TSt At c gl gd L D w) (ok : WfP D) (hc : L.chunks ≤ 200) (p : ByteArray) (hp : p.size ≤ maxLen) : Calls Tryz.prog 21 #[ptr gl, .string p] w (TRet At c gl gd (.tuple #[.int .i64 ((targetT D L p).1 : Nat), .int .i64 ((targetT D L p).2.1 : Nat), err (targetT D L p).2.2]) L D) := by
  have HH := Lib.hid h
  obtain ⟨c0, c1, c2, c3, c4, c5⟩ := h.cells
  unfold targetT
  by_cases h0 : L.chunks = 0
  · rw [if_pos h0]
    rw [h0] at c3
    clear h c0 c1 c2 h0 c4 c5
    go_enter Tryz.func21, Tryz.ntmps21
    go_wp2
    go_ret3
    exact ⟨rfl, HH.out⟩
  rw [if_neg h0]
  obtain ⟨n, hn⟩ : ∃ n, L.chunks = n + 1 := ⟨L.chunks - 1, by omega⟩
  have e : L.chunks - 1 = n := by omega
  rw [e]
  have hz := sizeS_le ok (nmC n)
  have hN := Lib.hid fun W => chunk_nm nap n W (by omega)
  have hS := Lib.hid fun (W : World) (hT : TSt At c gl gd L D W) => (show Calls Tryz.prog 26 #[ptr gd, .string (nmC n)] W (TRet At c gl gd (.tuple #[.int .i64 ((sizeS D (nmC n)).1 : Nat), err (sizeS D (nmC n)).2]) L D) from hT.same (api.sizeq (nmC n) (Classical.choose_spec hT).1 ok.ok (nmC_le (by omega))))
  have hF := Lib.hid fun (W : World) => cap.fits ((sizeS D (nmC n)).1 : Nat) p W hp (wf_nat (by omega))
  have t0 : decide ((0 : Int) < ((n + 1 : Nat) : Int)) = true := decide_eq_true (by omega)
  have t1 : ((n + 1 : Nat) : Int) - 1 = (n : Int) := by omega
  have hw2 : IntKind.i64.wrap (n : Int) = (n : Int) := IntWalk.i64_in _ (by omega)
  have hw : IntKind.i64.wrap (((n + 1 : Nat) : Int) - 1) = (n : Int) := by rw [t1]; exact IntWalk.i64_in _ (by omega)
  rw [hn] at c3
  have HN := Lib.hid hn
  generalize hm : ((n + 1 : Nat) : Int) = m at *
  have HM := Lib.hid hm
  have c3' : w.cell? ⟨gl, 3, none⟩ = some (.int .i64 m) := c3
  by_cases he : (sizeS D (nmC n)).2 = 0
  · rw [if_pos he]
    rw [he] at hS
    cases hft : ftS ((sizeS D (nmC n)).1 : Nat) p
    · rw [if_neg (by simp)]
      rw [hft] at hF
      have e5 : (L.chunks : Int) = m := by rw [HN.out, HM.out]
      rw [e5]
      generalize (sizeS D (nmC n)).1 = z at *
      generalize nmC n = nm at *
      clear e hn he h ok hc h0 c0 c2 c4 c5 hm hz hp hft e5
      go_enter Tryz.func21, Tryz.ntmps21
      go_wp2_with fail
      go_region_held3 (fun w' => w'.cell? ⟨gl, 1, none⟩ = some (ptr gd)) (first | assumption | exact c1) (first
        | (go_at_call 25; refine (hN.out _).mono ?_; rintro e w1 ⟨rfl, hb⟩; have h1 := (show TSt At c gl gd L D _ from by first | exact HH.out.drew api | exact HH.out).below api hb; have d1 : w1.cell? ⟨gl, 1, none⟩ = some (ptr gd) := h1.cells.2.1)
        | (go_at_call 26; refine (hS.out _ h1).mono ?_; rintro e w2 ⟨rfl, h2⟩; have e1 : w2.cell? ⟨gl, 1, none⟩ = some (ptr gd) := h2.cells.2.1)
        | fail)
      all_goals
        have g3 : w2.cell? ⟨gl, 3, none⟩ = some (.int .i64 m) := by rw [h2.cells.2.2.2.1, HN.out, HM.out]
        have H3 := Lib.hid h2
        clear h1 h2 hb
        go_wp2_with fail
        refine (hF.out _).mono ?_
        rintro e w3 ⟨rfl, rfl⟩
        go_wp2
        go_ret3
        exact ⟨rfl, H3.out⟩
    · rw [if_pos rfl]
      rw [hft] at hF
      generalize (sizeS D (nmC n)).1 = z at *
      generalize nmC n = nm at *
      clear e hn he h ok hc h0 c0 c2 c4 c5 hm hz hp hft
      go_enter Tryz.func21, Tryz.ntmps21
      go_wp2_with fail
      go_region_held3 (fun w' => w'.cell? ⟨gl, 1, none⟩ = some (ptr gd)) (first | assumption | exact c1) (first
        | (go_at_call 25; refine (hN.out _).mono ?_; rintro e w1 ⟨rfl, hb⟩; have h1 := (show TSt At c gl gd L D _ from by first | exact HH.out.drew api | exact HH.out).below api hb; have d1 : w1.cell? ⟨gl, 1, none⟩ = some (ptr gd) := h1.cells.2.1)
        | (go_at_call 26; refine (hS.out _ h1).mono ?_; rintro e w2 ⟨rfl, h2⟩; have e1 : w2.cell? ⟨gl, 1, none⟩ = some (ptr gd) := h2.cells.2.1)
        | fail)
      all_goals
        have H3 := Lib.hid h2
        clear h1 h2 hb
        go_wp2_with fail
        refine (hF.out _).mono ?_
        rintro e w3 ⟨rfl, rfl⟩
        go_wp2
        go_ret3
        exact ⟨rfl, H3.out⟩
  · rw [if_neg he]
    have t : (((sizeS D (nmC n)).2 : Int) != 0) = true := by simp; omega
    generalize (sizeS D (nmC n)).2 = y at *
    generalize (sizeS D (nmC n)).1 = z at *
    generalize nmC n = nm at *
    clear e hn he h ok hc h0 c0 c2 c4 c5 hm hz hp hF
    go_enter Tryz.func21, Tryz.ntmps21
    go_wp2_with fail
    go_region_held3 (fun w' => w'.cell? ⟨gl, 1, none⟩ = some (ptr gd)) (first | assumption | exact c1) (first
      | (go_at_call 25; refine (hN.out _).mono ?_; rintro e w1 ⟨rfl, hb⟩; have h1 := (show TSt At c gl gd L D _ from by first | exact HH.out.drew api | exact HH.out).below api hb; have d1 : w1.cell? ⟨gl, 1, none⟩ = some (ptr gd) := h1.cells.2.1)
      | (go_at_call 26; refine (hS.out _ h1).mono ?_; rintro e w2 ⟨rfl, h2⟩; have e1 : w2.cell? ⟨gl, 1, none⟩ = some (ptr gd) := h2.cells.2.1)
      | fail)
    all_goals
      have H3 := Lib.hid h2
      clear h1 h2 hb
      go_wp2
      go_ret3
      exact ⟨rfl, H3.out⟩
omit cap in
set_option maxRecDepth 100000 in
theorem extend_run (h : TSt At c gl gd L D w) (ok : WfP D) (hc : L.chunks ≤ 200) (h0 : 0 < L.chunks) (r : ByteArray) (hr : r.size ≤ 1000000) : Calls Tryz.prog 23 #[ptr gl, .string r] w (TRet At c gl gd (err (extendT D L r).1) L (extendT D L r).2) := by
  have hR := Lib.hid (room_run api h ok r hr)
  unfold extendT
  cases hq : roomT D r
  · rw [if_pos rfl]
    rw [hq] at hR
    clear h ok hc h0 hr hq
    go_enter Tryz.func23, Tryz.ntmps23
    go_wp2_with fail
    refine hR.out.mono ?_
    rintro e w1 ⟨rfl, h1⟩
    have H1 := Lib.hid h1
    clear h1
    go_wp2
    go_ret
    exact ⟨rfl, H1.out⟩
  · rw [if_neg (by simp)]
    rw [hq] at hR
    obtain ⟨n, hn⟩ : ∃ n, L.chunks = n + 1 := ⟨L.chunks - 1, by omega⟩
    have e : L.chunks - 1 = n := by omega
    rw [e]
    have hN := Lib.hid fun W => chunk_nm nap n W (by omega)
    have hS := Lib.hid fun (W : World) (hT : TSt At c gl gd L D W) => hT.disk api (fun F hF => api.append (nmC n) r hF ok.ok (by omega) (nmC_le (by omega)))
    have t1 : ((n + 1 : Nat) : Int) - 1 = (n : Int) := by omega
    have hw2 : IntKind.i64.wrap (n : Int) = (n : Int) := IntWalk.i64_in _ (by omega)
    have hw : IntKind.i64.wrap (((n + 1 : Nat) : Int) - 1) = (n : Int) := by rw [t1]; exact IntWalk.i64_in _ (by omega)
    have HN := Lib.hid hn
    generalize hm : ((n + 1 : Nat) : Int) = m at *
    have HM := Lib.hid hm
    generalize appendS D (nmC n) r = D1 at *
    generalize nmC n = nm at *
    clear e hn h ok hc h0 hm hr hq
    go_enter Tryz.func23, Tryz.ntmps23
    go_wp2_with fail
    refine hR.out.mono ?_
    rintro e w0 ⟨rfl, h0⟩
    have c1 : w0.cell? ⟨gl, 1, none⟩ = some (ptr gd) := h0.cells.2.1
    have c3 : w0.cell? ⟨gl, 3, none⟩ = some (.int .i64 m) := by rw [h0.cells.2.2.2.1, HN.out, HM.out]
    have HH := Lib.hid h0
    clear h0
    go_wp2_with fail
    go_region_held3 (fun w' => w'.cell? ⟨gl, 1, none⟩ = some (ptr gd) ∧ w'.cell? ⟨gl, 3, none⟩ = some (.int .i64 m)) (first | assumption | exact ⟨by assumption, by assumption⟩ | exact ⟨c1, c3⟩) (first
      | (go_at_call 25; refine (hN.out _).mono ?_; rintro e w1 ⟨rfl, hb⟩; have h1 := (show TSt At c gl gd L D _ from by first | exact HH.out.drew api | exact HH.out).below api hb; have d1 : w1.cell? ⟨gl, 1, none⟩ = some (ptr gd) := h1.cells.2.1; have d3 : w1.cell? ⟨gl, 3, none⟩ = some (.int .i64 m) := by rw [h1.cells.2.2.2.1, HN.out, HM.out])
      | (go_at_call 52; refine (hS.out _ h1).mono ?_; rintro e w2 ⟨rfl, h2⟩; have e1 : w2.cell? ⟨gl, 1, none⟩ = some (ptr gd) := h2.cells.2.1; have e3 : w2.cell? ⟨gl, 3, none⟩ = some (.int .i64 m) := by rw [h2.cells.2.2.2.1, HN.out, HM.out])
      | fail)
    all_goals
      have H3 := Lib.hid h2
      clear h1 h2 hb
      go_wp2
      go_ret
      exact ⟨rfl, H3.out⟩
end
end Go.Proofs.YtedbgimmbapfaaaGreat

/- TfSteps -/
namespace Go.Proofs.YtedbgimmbapfaaaGreat
open Go.RowKit Go.Shelf
set_option linter.unusedVariables false

theorem stR_step {r : Nat → Nat} {n k : Nat} (h : k < n) : stR r (n - k) k = if r k = 0 then stR r (n - (k + 1)) (k + 1) else (r k, k + 1) := by
  obtain ⟨m, rfl⟩ : ∃ m, n = k + 1 + m := ⟨n - k - 1, by omega⟩
  have e1 : k + 1 + m - k = m + 1 := by omega
  have e2 : k + 1 + m - (k + 1) = m := by omega
  rw [e1, e2]
  rfl
theorem stR_end {r : Nat → Nat} {n : Nat} : stR r (n - n) n = (0, n) := by rw [Nat.sub_self]; rfl
set_option maxRecDepth 100000 in
/-- Steps that are called by what they are: where each one's contract is known, so is the end. -/
theorem steps_run {b n : Nat} (hn : n ≤ 1000) (r : Nat → Nat) (St : Nat → World → Prop) (f : Nat → FuncId) (x y : Nat → Array Value)
    (hent : ∀ k, k < n → Enters Tryz.prog (f k)) (hcell : ∀ k W, k < n → St k W → W.cell? ⟨b, k, none⟩ = some (.func (.func (f k)) (x k) (y k)))
    (hcall : ∀ k W, k < n → St k W → Calls Tryz.prog (f k) (x k ++ #[] ++ y k) W fun e W' => e = .returned (.int .i64 (r k : Nat)) ∧ St (k + 1) W') (W : World) (h0 : St 0 W) :
    Calls Tryz.prog 37 #[.slice (some ⟨b, 0, none⟩) n n] W fun e W' => e = .returned (.int .i64 ((stR r n 0).1 : Nat)) ∧ St (stR r n 0).2 W' := by
  have HC := Lib.hid hcell
  have HK := Lib.hid hcall
  have HE := Lib.hid hent
  have HN := Lib.hid hn
  have H0 := Lib.hid h0
  clear hcell hcall h0 hent
  go_enter Tryz.func37, Tryz.ntmps37
  go_wp2
  go_loopw [8] (fun i wr => ∃ k : Nat, k ≤ n ∧ i = .int .i64 k ∧ stR r (n - k) k = stR r n 0 ∧ St k wr) (fun i _ => n - (intOf i).toNat)
  case atStart => exact ⟨0, Nat.zero_le _, rfl, rfl, H0.out⟩
  case round =>
    obtain ⟨k, hk, rfl, hr, hs⟩ := hrel
    by_cases hlt : k < n
    · have c1 := HC.out k _ hlt hs
      have l1 : (k : Int) < (n : Int) := by omega
      have HS := Lib.hid hs
      have HR := Lib.hid hr
      have HL := Lib.hid hlt
      clear hs hr
      rw [stR_step hlt] at HR
      have he := HE.out k hlt
      have hcl := HK.out k _ hlt HS.out
      have ha : x k ++ #[] ++ y k = x k ++ y k := by simp
      rw [ha] at hcl
      have HCL := Lib.hid hcl
      unfold Enters at he
      clear hcl ha
      by_cases hr0 : r k = 0
      · rw [hr0] at HCL
        rw [if_pos hr0] at HR
        clear hr0
        go_wp2_with fail
        refine HCL.out.mono ?_
        rintro e w2 ⟨rfl, hs2⟩
        have H2 := Lib.hid hs2
        clear hs2 he c1
        go_wp2
        go_roundw
        case rel => exact ⟨k + 1, by have := HL.out; omega, by go_num, HR.out, H2.out⟩
        case measure => simp [intOf]; omega
      · have t : ((r k : Int) != 0) = true := by simp; omega
        rw [if_neg hr0] at HR
        clear hr0
        generalize r k = y at *
        go_wp2_with fail
        refine HCL.out.mono ?_
        rintro e w2 ⟨rfl, hs2⟩
        have H2 := Lib.hid hs2
        clear hs2 he c1
        go_wp2
        go_ret
        rw [← HR.out]
        exact ⟨rfl, H2.out⟩
    · obtain rfl : k = n := by omega
      rw [stR_end] at hr
      have HS := Lib.hid hs
      have HR := Lib.hid hr
      clear hs hr hk
      go_wp2
      go_ret
      rw [← HR.out]
      exact ⟨rfl, HS.out⟩
end Go.Proofs.YtedbgimmbapfaaaGreat

/- TfBegin -/
namespace Go.Proofs.YtedbgimmbapfaaaGreat
open Go.RowKit Go.Shelf
set_option linter.unusedVariables false

section
variable {At : Lies} {c : Ctx} {gl gd : Nat} {L L' : LogS} {D D' : DiskS} {w w' : World}
theorem TSt.new (api : DiskApi At) (h : TSt At c gl gd L D w) (ht : Touch [] w w') (hs : w.heap.size < w'.heap.size) : TSt At { c with G := w.heap.size :: c.G, wG := w' } gl gd L D w' := by
  have hG : ∀ b ∈ c.G, b < w.heap.size := by
    obtain ⟨F, h1, h2, h3, h4, h5, h6, h7⟩ := h
    intro b hb
    have := (h7 b hb).2.1
    omega
  refine h.own api (ht.more (fun x hx => by cases hx)) (fun b hb => ?_) (fun b hb => ?_)
  · rcases List.mem_cons.1 hb with rfl | hb
    · exact Or.inr (Nat.le_refl _)
    · exact Or.inl hb
  · rcases List.mem_cons.1 hb with rfl | hb
    · exact hs
    · have := hG b hb; omega
theorem TSt.box (api : DiskApi At) (h : TSt At c gl gd L D w) (o : Obj) : TSt At { c with G := w.heap.size :: c.G, wG := w.alloc o } gl gd L D (w.alloc o) := h.new api ((Touch.refl [] w).alloc o) (by simp)
theorem TSt.blok (h : TSt At c gl gd L D w) {b : Nat} (hb : b ∈ c.G) {t : TypeId} {cs : Array Value} (hB : Blok c.wG b t cs) : Blok w b t cs := (h.guest hb).trans hB
theorem TSt.lt (h : TSt At c gl gd L D w) {b : Nat} (hb : b ∈ c.G) : b < c.wG.heap.size ∧ b < w.heap.size := by
  obtain ⟨F, h1, h2, h3, h4, h5, h6, h7⟩ := h
  have := (h7 b hb).2.1
  omega
/-- A guest's blocks are as they were at some world. -/
def KeepG (c : Ctx) (w W : World) : Prop := w.heap.size ≤ W.heap.size ∧ c.wG.heap.size ≤ w.heap.size ∧ ∀ b ∈ c.G, b < w.heap.size ∧ W.heap[b]? = w.heap[b]?
theorem TSt.keep (h : TSt At c gl gd L D w) : KeepG c w w := by
  refine ⟨Nat.le_refl _, ?_, fun b hb => ⟨(h.lt hb).2, rfl⟩⟩
  obtain ⟨F, h1, h2, h3, h4, h5, h6, h7⟩ := h
  exact h6
theorem KeepG.touch {W W' : World} (h : KeepG c w W) (ht : Touch [] W W') : KeepG c w W' := ⟨Nat.le_trans h.1 ht.size, h.2.1, fun b hb => ⟨(h.2.2 b hb).1, (ht.block b (by have := (h.2.2 b hb).1; have := h.1; omega) (by simp)).trans (h.2.2 b hb).2⟩⟩
theorem KeepG.alloc {W : World} (h : KeepG c w W) (o : Obj) : KeepG c w (W.alloc o) := h.touch ((Touch.refl [] W).alloc o)
theorem KeepG.below {W W' : World} (h : KeepG c w W) (hb : Below W.heap.size W W') : KeepG c w W' := h.touch (Touch.of_below hb)
theorem KeepG.call {c' : Ctx} {W : World} (h : KeepG c w c'.wG) (hT : TSt At c' gl gd L D W) (hG : ∀ b ∈ c.G, b ∈ c'.G) : KeepG c w W := by
  refine ⟨?_, h.2.1, fun b hb => ⟨(h.2.2 b hb).1, (hT.guest (hG b hb)).trans (h.2.2 b hb).2⟩⟩
  obtain ⟨F, h1, h2, h3, h4, h5, h6, h7⟩ := hT
  exact Nat.le_trans h.1 h6
/-- Back from new blocks: the guest's own are as they were. -/
theorem TSt.undo {c' : Ctx} (h : TSt At c' gl gd L D w') (h0 : TSt At c gl gd L' D' w) (hk : KeepG c w c'.wG) (e1 : c'.w0 = c.w0) (e2 : c'.F0 = c.F0) (e3 : c'.base = c.base) (e4 : c'.m = c.m) (hG : ∀ b ∈ c.G, b ∈ c'.G) : TSt At c gl gd L D w' :=
  h.back e1 e2 e3 e4 (Nat.le_trans hk.2.1 hk.1) (fun b hb => ⟨hG b hb, (h0.lt hb).1, (hk.2.2 b hb).2.trans (h0.guest hb)⟩)
end
section
variable {At : Lies} (api : DiskApi At) {c : Ctx} {gl gd : Nat} {L L' : LogS} {D D' : DiskS} {w w' : World} {B1 B2 B3 : Nat} {nm s : ByteArray}
include api
set_option maxRecDepth 100000 in
theorem begin1_run (h : TSt At c gl gd L D w) (ok : WfP D) (m1 : B1 ∈ c.G) (k1 : Blok c.wG B1 23 #[ptr gl]) (m3 : B3 ∈ c.G) (k3 : Blok c.wG B3 9 #[.string nm]) (hn : nm.size ≤ maxLen) :
    Calls Tryz.prog 49 #[ptr B1, ptr B3] w (TRet At c gl gd (err (createS D nm).1) L (createS D nm).2) := by
  have hS := Lib.hid fun (W : World) (hT : TSt At c gl gd L D W) => hT.disk api (fun F hF => api.create nm hF ok.ok hn)
  have HH := Lib.hid h
  have b1 : w.cell? ⟨B1, 0, none⟩ = some (ptr gl) := (h.blok m1 k1).cell 0
  have b3 : w.cell? ⟨B3, 0, none⟩ = some (.string nm) := (h.blok m3 k3).cell 0
  have c1 := h.cells.2.1
  have M1 := Lib.hid m1
  have K1 := Lib.hid k1
  have M3 := Lib.hid m3
  have K3 := Lib.hid k3
  generalize createS D nm = D1 at *
  clear h ok m1 k1 m3 k3 hn
  go_enter Tryz.func49, Tryz.ntmps49
  go_wp2_with fail
  go_region_held3 (fun w' => w'.cell? ⟨B1, 0, none⟩ = some (ptr gl) ∧ w'.cell? ⟨gl, 1, none⟩ = some (ptr gd) ∧ w'.cell? ⟨B3, 0, none⟩ = some (.string nm)) (first | assumption | exact ⟨by assumption, by assumption, by assumption⟩ | exact ⟨b1, c1, b3⟩) (first
    | (go_at_call 50; refine (hS.out _ (by first | exact HH.out.drew api | exact HH.out)).mono ?_; rintro e w2 ⟨rfl, h2⟩; have e1 : w2.cell? ⟨gl, 1, none⟩ = some (ptr gd) := h2.cells.2.1; have e2 : w2.cell? ⟨B1, 0, none⟩ = some (ptr gl) := (h2.blok M1.out K1.out).cell 0; have e3 : w2.cell? ⟨B3, 0, none⟩ = some (.string nm) := (h2.blok M3.out K3.out).cell 0)
    | fail)
  all_goals
    have H3 := Lib.hid h2
    clear h2
    go_wp2
    go_ret
    exact ⟨rfl, H3.out⟩
set_option maxRecDepth 100000 in
theorem begin2_run (h : TSt At c gl gd L D w) (ok : WfP D) (m1 : B1 ∈ c.G) (k1 : Blok c.wG B1 23 #[ptr gl]) (m3 : B3 ∈ c.G) (k3 : Blok c.wG B3 9 #[.string nm]) (m2 : B2 ∈ c.G) (k2 : Blok c.wG B2 9 #[.string s]) (hn : nm.size ≤ maxLen) (hs : s.size ≤ 1000000) :
    Calls Tryz.prog 51 #[ptr B1, ptr B3, ptr B2] w (TRet At c gl gd (err (appendS D nm s).1) L (appendS D nm s).2) := by
  have hS := Lib.hid fun (W : World) (hT : TSt At c gl gd L D W) => hT.disk api (fun F hF => api.append nm s hF ok.ok (by omega) hn)
  have HH := Lib.hid h
  have b1 : w.cell? ⟨B1, 0, none⟩ = some (ptr gl) := (h.blok m1 k1).cell 0
  have b3 : w.cell? ⟨B3, 0, none⟩ = some (.string nm) := (h.blok m3 k3).cell 0
  have b2 : w.cell? ⟨B2, 0, none⟩ = some (.string s) := (h.blok m2 k2).cell 0
  have c1 := h.cells.2.1
  have M1 := Lib.hid m1
  have K1 := Lib.hid k1
  have M3 := Lib.hid m3
  have K3 := Lib.hid k3
  have M2 := Lib.hid m2
  have K2 := Lib.hid k2
  generalize appendS D nm s = D1 at *
  clear h ok m1 k1 m3 k3 hn m2 k2 hs
  go_enter Tryz.func51, Tryz.ntmps51
  go_wp2_with fail
  go_region_held3 (fun w' => w'.cell? ⟨B1, 0, none⟩ = some (ptr gl) ∧ w'.cell? ⟨gl, 1, none⟩ = some (ptr gd) ∧ w'.cell? ⟨B3, 0, none⟩ = some (.string nm) ∧ w'.cell? ⟨B2, 0, none⟩ = some (.string s)) (first | assumption | exact ⟨by assumption, by assumption, by assumption, by assumption⟩ | exact ⟨b1, c1, b3, b2⟩) (first
    | (go_at_call 52; refine (hS.out _ (by first | exact HH.out.drew api | exact HH.out)).mono ?_; rintro e w2 ⟨rfl, h2⟩; have e1 : w2.cell? ⟨gl, 1, none⟩ = some (ptr gd) := h2.cells.2.1; have e2 : w2.cell? ⟨B1, 0, none⟩ = some (ptr gl) := (h2.blok M1.out K1.out).cell 0; have e3 : w2.cell? ⟨B3, 0, none⟩ = some (.string nm) := (h2.blok M3.out K3.out).cell 0; have e4 : w2.cell? ⟨B2, 0, none⟩ = some (.string s) := (h2.blok M2.out K2.out).cell 0)
    | fail)
  all_goals
    have H3 := Lib.hid h2
    clear h2
    go_wp2
    go_ret
    exact ⟨rfl, H3.out⟩
end
def pick4 {α : Type} (a b c d : α) : Nat → α
  | 0 => a
  | 1 => b
  | 2 => c
  | _ => d
theorem wp_sync_t {D : DiskS} {L : LogS} (ok : WfP D) : WfP (syncT D L).2.1 := by
  unfold syncT
  split
  · exact ok
  · split <;> exact wp_sync ok _
theorem syncT_chunks (D : DiskS) (L : LogS) : (syncT D L).2.2.chunks = L.chunks := by
  unfold syncT
  split
  · rfl
  · split <;> rfl
section
variable {At : Lies} (api : DiskApi At) (nap : NamesApi) (cap : ChunksApi) {c : Ctx} {gl gd : Nat} {L L' : LogS} {D D' : DiskS} {w w' : World}
include api nap
/-- The three steps of begin. -/
theorem begin_steps {B1 B2 B3 B4 : Nat} {nm s : ByteArray} (h : TSt At c gl gd L D w) (ok : WfP D) (hc : L.chunks ≤ 200) (m1 : B1 ∈ c.G) (k1 : Blok c.wG B1 23 #[ptr gl]) (m3 : B3 ∈ c.G) (k3 : Blok c.wG B3 9 #[.string nm]) (m2 : B2 ∈ c.G) (k2 : Blok c.wG B2 9 #[.string s])
    (m4 : B4 ∈ c.G) (t4 : TypeId) (k4 : Blok c.wG B4 t4 #[.func (.func 32) #[ptr gl] #[], .func (.func 49) #[] #[ptr B1, ptr B3], .func (.func 51) #[] #[ptr B1, ptr B3, ptr B2]]) (hn : nm.size ≤ maxLen) (hs : s.size ≤ 1000000) :
    Calls Tryz.prog 37 #[.slice (some ⟨B4, 0, none⟩) 3 3] w (TRet At c gl gd (err (thenT (thenT (syncT D L) (onD fun E => createS E nm)) (onD fun E => appendS E nm s)).1) (thenT (thenT (syncT D L) (onD fun E => createS E nm)) (onD fun E => appendS E nm s)).2.2 (thenT (thenT (syncT D L) (onD fun E => createS E nm)) (onD fun E => appendS E nm s)).2.1) := by
  have ok1 : WfP (syncT D L).2.1 := wp_sync_t ok
  have ok2 : WfP (createS (syncT D L).2.1 nm).2 := wp_create ok1 nm
  have H := steps_run (b := B4) (n := 3) (by omega) (pick4 (syncT D L).1 (createS (syncT D L).2.1 nm).1 (appendS (createS (syncT D L).2.1 nm).2 nm s).1 0)
    (fun k W => TSt At c gl gd (pick4 L (syncT D L).2.2 (syncT D L).2.2 (syncT D L).2.2 k) (pick4 D (syncT D L).2.1 (createS (syncT D L).2.1 nm).2 (appendS (createS (syncT D L).2.1 nm).2 nm s).2 k) W)
    (pick4 32 49 51 0) (pick4 #[ptr gl] #[] #[] #[]) (pick4 #[] #[ptr B1, ptr B3] #[ptr B1, ptr B3, ptr B2] #[])
    (fun k hk => by
      match k, hk with
      | 0, _ => exact enters_of Tryz.func32 (by kernel_rfl) rfl
      | 1, _ => exact enters_of Tryz.func49 (by kernel_rfl) rfl
      | 2, _ => exact enters_of Tryz.func51 (by kernel_rfl) rfl)
    (fun k W hk hT => by
      have q := (hT.blok m4 k4).cell k
      match k, hk with
      | 0, _ => exact q
      | 1, _ => exact q
      | 2, _ => exact q)
    (fun k W hk hT => by
      match k, hk with
      | 0, _ => exact sync_t api nap hT ok hc
      | 1, _ => exact begin1_run api hT ok1 m1 k1 m3 k3 hn
      | 2, _ => exact begin2_run api hT ok2 m1 k1 m3 k3 m2 k2 hn hs) w h
  refine H.mono ?_
  rintro e w' ⟨rfl, hT⟩
  generalize syncT D L = a at *
  obtain ⟨r0, D1, L1⟩ := a
  dsimp only at hT ⊢
  by_cases e0 : r0 = 0
  · subst e0
    by_cases e1 : (createS D1 nm).1 = 0
    · by_cases e2 : (appendS (createS D1 nm).2 nm s).1 = 0
      · simp [stR, pick4, thenT, onD, e1, e2] at hT ⊢
        exact ⟨by simp, hT⟩
      · simp [stR, pick4, thenT, onD, e1, e2] at hT ⊢
        exact ⟨rfl, hT⟩
    · simp [stR, pick4, thenT, onD, e1] at hT ⊢
      exact ⟨rfl, hT⟩
  · simp [stR, pick4, thenT, e0] at hT ⊢
    exact ⟨rfl, hT⟩
end
end Go.Proofs.YtedbgimmbapfaaaGreat
