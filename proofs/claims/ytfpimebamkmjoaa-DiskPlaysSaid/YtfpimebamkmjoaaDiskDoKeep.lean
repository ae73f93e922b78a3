/- Acts with both disks: Crash, Fail. -/
import Derived.Test.YtfpimebamkmjoaaDiskDoTell
namespace Go.Proofs.Ytfpimebamkmjoaa
open Go.RowKit
set_option linter.unusedVariables false

theorem IntsAt.guest {w wG : World} {v : Value} {l : List Int} (h : IntsAt wG v l) (hb : ∀ b, v.ownBlock = some b → w.heap[b]? = wG.heap[b]?) : IntsAt w v l := by
  rcases h with h | ⟨b, off, cap, cs, fr, rfl, h2, h3, h4, h5⟩
  · exact Or.inl h
  · exact Or.inr ⟨b, off, cap, cs, fr, rfl, h2, h3, (hb b rfl).trans h4, h5⟩
section
variable {At : Lies} {w0 w wG : World} {g r B : Nat} {G : List Nat} {cs : Array Value} {D E : DiskS}
theorem PairB.progG {At' : Lies} (api : LiesOk At) (h : PairB At w0 g r G wG B cs D E w) {f : FuncId} {args : Array Value} {v : Value} {D' : DiskS} (hc : ∀ F, At w w0.heap.size g F D → (∀ b ∈ G, w.heap[b]? = wG.heap[b]? ∧ b ∉ F) → Calls Try.prog f args w (EndAt At' w0.heap.size g F w v D')) :
    Calls Try.prog f args w (PairEnd At' w0 g r G wG B cs v D' E) := by
  obtain ⟨F1, F2, h1, h2, h3, h4, h5, h6, h7, h8⟩ := h
  refine (hc F1 h1 (fun b hb => ⟨(h8 b hb).1, (h8 b hb).2.2.1⟩)).mono ?_
  rintro e w' ⟨F', e1, e2, e3, e4⟩
  refine ⟨e1, F', F2, e2, h2.touch e4 (fun x hx hm => h3 x hm hx), fun x hx hm => ?_, h4.trans e4 (fun x hx => Or.inr (api.low h1 x hx).1), h5.touch e4 h6, fun hm => ?_, h7, h8.prog e4 e3⟩
  · rcases e3 x hx with h | h
    · exact h3 x h hm
    · have := (h2.low x hm).2; omega
  · rcases e3 B hm with h | h
    · exact h6 h
    · have := h5.lt; omega
theorem PairB.refG (api : LiesOk At) (h : PairB At w0 g r G wG B cs D E w) {f : FuncId} {args : Array Value} {n : Nat} {E' : DiskS} (hc : ∀ F, RefAt w w0.heap.size r F E → (∀ b ∈ G, w.heap[b]? = wG.heap[b]?) → Calls Try.prog f args w (RefEnd w0.heap.size r F w n E')) :
    Calls Try.prog f args w (PairEnd At w0 g r G wG B cs (.int .i64 (n : Nat)) D E') := by
  have h0 := h
  obtain ⟨F1, F2, h1, h2, h3, h4, h5, h6, h7, h8⟩ := h
  exact h0.ref api (fun F hF => hc F hF (fun b hb => (h8 b hb).1))
end

set_option maxRecDepth 100000 in
set_option maxHeartbeats 8000000 in
theorem do_crash {At At' : Lies} (api : ApiK At At') {w0 w wG : World} {g r : Nat} {G : List Nat} {D : DiskS} (x : ActS) (hk : x.kind % 15 = 10) (hok : ActOk w x) (hP : Pair At w0 g r G wG D D w) (hw : Wf D) (hkl : x.keep.length ≤ 100) (hka : IntsAt wG x.keepV x.keep) (hkg : ∀ b, x.keepV.ownBlock = some b → b ∈ G) :
    Calls Try.prog 12 #[actAgg x, ptr g, ptr r] w (DoEnd At' w0 g r G wG (crashS D x.keep).2) := by
  have hkk : (x.kind : Int) % 15 = 10 := by omega
  have hk2 : (x.kind : Int) < 256 := by have := hok.kind; omega
  obtain ⟨kA, ko, kc, hkv, _, _⟩ := hok.keep.cell
  have HB := hP.box api.ok #[.int .u8 (x.kind : Nat), .string x.name, .string x.dest, .string x.text, .int .i64 x.place, .int .i64 x.n, x.keepV]
  have HNI := Lib.hid hok.n
  have HKL := Lib.hid hkl
  have HW := Lib.hid hw.ok
  unfold actAgg
  rw [hkv] at HB hka hkg ⊢
  have HKA := Lib.hid hka
  have HKG := Lib.hid hkg
  have HBB := Lib.hid HB
  have c6 : (w.alloc (.cells #[.int .u8 (x.kind : Nat), .string x.name, .string x.dest, .string x.text, .int .i64 x.place, .int .i64 x.n, .slice kA x.keep.length kc] 34)).cell? ⟨w.heap.size, 6, none⟩ = some (.slice kA x.keep.length kc) := HB.cell 6
  clear HB hP hok hkv hk hw hkl hka hkg
  go_enter Try.func12, Try.ntmps12
  go_wp2_with fail
  generalize hW : w.alloc (.cells #[.int .u8 (x.kind : Nat), .string x.name, .string x.dest, .string x.text, .int .i64 x.place, .int .i64 x.n, .slice kA x.keep.length kc] 34) = W at *
  clear hW
  go_region_held3 (fun w' => w'.cell? ⟨w.heap.size, 6, none⟩ = some (.slice kA x.keep.length kc)) (first | assumption | exact ⟨by assumption⟩ | exact ⟨c6⟩) (first
    | (go_at_call 31; refine (PairB.progG api.ok (show PairB At w0 g r G wG w.heap.size _ D D _ by first | exact HBB.out.drew api.ok | exact HBB.out) (fun F h hg => api.crash _ x.keep h HW.out (HKA.out.guest (fun b hb => (hg b (HKG.out b hb)).1)).in_ (fun b hb => (hg b (HKG.out b hb)).2) (Nat.le_trans HKL.out (by decide)))).mono ?_; rintro e w1 ⟨rfl, hP1⟩; have d6 : w1.cell? ⟨w.heap.size, 6, none⟩ = some (.slice kA x.keep.length kc) := hP1.cell 6)
    | (go_at_call 41; refine (PairB.refG api.ok' hP1 (fun F h hg => crash_ref _ x.keep _ h (HKA.out.guest (fun b hb => hg b (HKG.out b hb))) HW.out.sizes HW.out.many)).mono ?_; rintro e w2 ⟨rfl, hP2⟩; have e6 : w2.cell? ⟨w.heap.size, 6, none⟩ = some (.slice kA x.keep.length kc) := hP2.cell 6)
    | fail)
  go_wp2
  go_ret
  exact ⟨by simp, hP2.pair⟩

set_option maxRecDepth 100000 in
set_option maxHeartbeats 8000000 in
theorem do_fail {At At' : Lies} (api : ApiK At At') {w0 w wG : World} {g r : Nat} {G : List Nat} {D : DiskS} (x : ActS) (hk : x.kind % 15 = 12) (hok : ActOk w x) (hP : Pair At w0 g r G wG D D w) (hw : Wf D) (hkl : x.keep.length ≤ 100) (hka : IntsAt wG x.keepV x.keep) (hkg : ∀ b, x.keepV.ownBlock = some b → b ∈ G) :
    Calls Try.prog 12 #[actAgg x, ptr g, ptr r] w (DoEnd At' w0 g r G wG (failS D x.n x.keep).2) := by
  have hkk : (x.kind : Int) % 15 = 12 := by omega
  have hk2 : (x.kind : Int) < 256 := by have := hok.kind; omega
  obtain ⟨kA, ko, kc, hkv, _, _⟩ := hok.keep.cell
  have HB := hP.box api.ok #[.int .u8 (x.kind : Nat), .string x.name, .string x.dest, .string x.text, .int .i64 x.place, .int .i64 x.n, x.keepV]
  have HNI := Lib.hid hok.n
  have HKL := Lib.hid hkl
  have HW := Lib.hid hw.ok
  unfold actAgg
  rw [hkv] at HB hka hkg ⊢
  have HKA := Lib.hid hka
  have HKG := Lib.hid hkg
  have HBB := Lib.hid HB
  have c5 : (w.alloc (.cells #[.int .u8 (x.kind : Nat), .string x.name, .string x.dest, .string x.text, .int .i64 x.place, .int .i64 x.n, .slice kA x.keep.length kc] 34)).cell? ⟨w.heap.size, 5, none⟩ = some (.int .i64 x.n) := HB.cell 5
  have c6 : (w.alloc (.cells #[.int .u8 (x.kind : Nat), .string x.name, .string x.dest, .string x.text, .int .i64 x.place, .int .i64 x.n, .slice kA x.keep.length kc] 34)).cell? ⟨w.heap.size, 6, none⟩ = some (.slice kA x.keep.length kc) := HB.cell 6
  clear HB hP hok hkv hk hw hkl hka hkg
  go_enter Try.func12, Try.ntmps12
  go_wp2_with fail
  generalize hW : w.alloc (.cells #[.int .u8 (x.kind : Nat), .string x.name, .string x.dest, .string x.text, .int .i64 x.place, .int .i64 x.n, .slice kA x.keep.length kc] 34) = W at *
  clear hW
  go_region_held3 (fun w' => w'.cell? ⟨w.heap.size, 5, none⟩ = some (.int .i64 x.n) ∧ w'.cell? ⟨w.heap.size, 6, none⟩ = some (.slice kA x.keep.length kc)) (first | assumption | exact ⟨by assumption, by assumption⟩ | exact ⟨c5, c6⟩) (first
    | (go_at_call 32; refine (PairB.progG api.ok (show PairB At w0 g r G wG w.heap.size _ D D _ by first | exact HBB.out.drew api.ok | exact HBB.out) (fun F h hg => api.fail x.n _ x.keep h HW.out HNI.out (HKA.out.guest (fun b hb => (hg b (HKG.out b hb)).1)).in_ (fun b hb => (hg b (HKG.out b hb)).2) (Nat.le_trans HKL.out (by decide)))).mono ?_; rintro e w1 ⟨rfl, hP1⟩; have d5 : w1.cell? ⟨w.heap.size, 5, none⟩ = some (.int .i64 x.n) := hP1.cell 5; have d6 : w1.cell? ⟨w.heap.size, 6, none⟩ = some (.slice kA x.keep.length kc) := hP1.cell 6)
    | (go_at_call 42; refine (PairB.refG api.ok' hP1 (fun F h hg => fail_ref x.n _ x.keep _ h (HKA.out.guest (fun b hb => hg b (HKG.out b hb))) (Nat.le_trans HKL.out (by decide)))).mono ?_; rintro e w2 ⟨rfl, hP2⟩; have e5 : w2.cell? ⟨w.heap.size, 5, none⟩ = some (.int .i64 x.n) := hP2.cell 5; have e6 : w2.cell? ⟨w.heap.size, 6, none⟩ = some (.slice kA x.keep.length kc) := hP2.cell 6)
    | fail)
  go_wp2
  go_ret
  exact ⟨by simp, hP2.pair⟩
end Go.Proofs.Ytfpimebamkmjoaa
