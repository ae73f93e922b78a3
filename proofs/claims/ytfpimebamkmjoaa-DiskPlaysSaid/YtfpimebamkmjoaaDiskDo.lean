/- Acts with both disks: those that answer a number alone. -/
import Derived.Test.YtfpimebamkmjoaaDiskPair
namespace Go.Proofs.Ytfpimebamkmjoaa
open Go.RowKit
set_option linter.unusedVariables false

theorem place_le {n : Int} (h : (Lit.int .i64 n).wf = true) : n ≤ 9223372036854775807 := by have := bounds_i64 h; omega

set_option maxRecDepth 100000 in
set_option maxHeartbeats 8000000 in
theorem do_sync5 {At At' : Lies} (api : ApiK At At') {w0 w wG : World} {g r : Nat} {G : List Nat} {D : DiskS} (x : ActS) (hk : x.kind % 15 = 5) (hok : ActOk w x) (hP : Pair At w0 g r G wG D D w) (hw : Wf D) (hx : x.text.size ≤ 3000) :
    Calls Try.prog 12 #[actAgg x, ptr g, ptr r] w (DoEnd At' w0 g r G wG (syncS D x.name).2) := by
  have hkk : (x.kind : Int) % 15 = 5 := by omega
  have hk2 : (x.kind : Int) < 256 := by have := hok.kind; omega
  obtain ⟨kA, ko, kc, hkv, _, _⟩ := hok.keep.cell
  have HB := hP.box api.ok #[.int .u8 (x.kind : Nat), .string x.name, .string x.dest, .string x.text, .int .i64 x.place, .int .i64 x.n, x.keepV]
  have HNN := Lib.hid hok.name
  have HDD := Lib.hid hok.dest
  have HPL := Lib.hid hok.place
  have HNI := Lib.hid hok.n
  have HTX := Lib.hid hx
  have HW := Lib.hid hw.ok
  unfold actAgg
  rw [hkv] at HB ⊢
  have HBB := Lib.hid HB
  have c1 : (w.alloc (.cells #[.int .u8 (x.kind : Nat), .string x.name, .string x.dest, .string x.text, .int .i64 x.place, .int .i64 x.n, .slice kA x.keep.length kc] 34)).cell? ⟨w.heap.size, 1, none⟩ = some (.string x.name) := HB.cell 1
  clear HB hP hok hkv hk hx hw
  go_enter Try.func12, Try.ntmps12
  go_wp2_with fail
  generalize hW : w.alloc (.cells #[.int .u8 (x.kind : Nat), .string x.name, .string x.dest, .string x.text, .int .i64 x.place, .int .i64 x.n, .slice kA x.keep.length kc] 34) = W at *
  clear hW
  go_region_held3 (fun w' => w'.cell? ⟨w.heap.size, 1, none⟩ = some (.string x.name)) (first | assumption | exact ⟨by assumption⟩ | exact ⟨c1⟩) (first
    | (go_at_call 22; refine (PairB.prog api.ok (show PairB At w0 g r G wG w.heap.size _ D D _ by first | exact HBB.out.drew api.ok | exact HBB.out) (fun F h => api.sync x.name h HW.out HNN.out)).mono ?_; rintro e w1 ⟨rfl, hP1⟩; have d1 : w1.cell? ⟨w.heap.size, 1, none⟩ = some (.string x.name) := hP1.cell 1)
    | (go_at_call 37; refine (PairB.ref api.ok' hP1 (fun F h => sync_ref x.name _ h HW.out)).mono ?_; rintro e w2 ⟨rfl, hP2⟩; have e1 : w2.cell? ⟨w.heap.size, 1, none⟩ = some (.string x.name) := hP2.cell 1)
    | fail)
  go_wp2
  go_ret
  exact ⟨by simp, hP2.pair⟩

set_option maxRecDepth 100000 in
set_option maxHeartbeats 8000000 in
theorem do_sync6 {At At' : Lies} (api : ApiK At At') {w0 w wG : World} {g r : Nat} {G : List Nat} {D : DiskS} (x : ActS) (hk : x.kind % 15 = 6) (hok : ActOk w x) (hP : Pair At w0 g r G wG D D w) (hw : Wf D) (hx : x.text.size ≤ 3000) :
    Calls Try.prog 12 #[actAgg x, ptr g, ptr r] w (DoEnd At' w0 g r G wG (syncS D x.name).2) := by
  have hkk : (x.kind : Int) % 15 = 6 := by omega
  have hk2 : (x.kind : Int) < 256 := by have := hok.kind; omega
  obtain ⟨kA, ko, kc, hkv, _, _⟩ := hok.keep.cell
  have HB := hP.box api.ok #[.int .u8 (x.kind : Nat), .string x.name, .string x.dest, .string x.text, .int .i64 x.place, .int .i64 x.n, x.keepV]
  have HNN := Lib.hid hok.name
  have HDD := Lib.hid hok.dest
  have HPL := Lib.hid hok.place
  have HNI := Lib.hid hok.n
  have HTX := Lib.hid hx
  have HW := Lib.hid hw.ok
  unfold actAgg
  rw [hkv] at HB ⊢
  have HBB := Lib.hid HB
  have c1 : (w.alloc (.cells #[.int .u8 (x.kind : Nat), .string x.name, .string x.dest, .string x.text, .int .i64 x.place, .int .i64 x.n, .slice kA x.keep.length kc] 34)).cell? ⟨w.heap.size, 1, none⟩ = some (.string x.name) := HB.cell 1
  clear HB hP hok hkv hk hx hw
  go_enter Try.func12, Try.ntmps12
  go_wp2_with fail
  generalize hW : w.alloc (.cells #[.int .u8 (x.kind : Nat), .string x.name, .string x.dest, .string x.text, .int .i64 x.place, .int .i64 x.n, .slice kA x.keep.length kc] 34) = W at *
  clear hW
  go_region_held3 (fun w' => w'.cell? ⟨w.heap.size, 1, none⟩ = some (.string x.name)) (first | assumption | exact ⟨by assumption⟩ | exact ⟨c1⟩) (first
    | (go_at_call 22; refine (PairB.prog api.ok (show PairB At w0 g r G wG w.heap.size _ D D _ by first | exact HBB.out.drew api.ok | exact HBB.out) (fun F h => api.sync x.name h HW.out HNN.out)).mono ?_; rintro e w1 ⟨rfl, hP1⟩; have d1 : w1.cell? ⟨w.heap.size, 1, none⟩ = some (.string x.name) := hP1.cell 1)
    | (go_at_call 37; refine (PairB.ref api.ok' hP1 (fun F h => sync_ref x.name _ h HW.out)).mono ?_; rintro e w2 ⟨rfl, hP2⟩; have e1 : w2.cell? ⟨w.heap.size, 1, none⟩ = some (.string x.name) := hP2.cell 1)
    | fail)
  go_wp2
  go_ret
  exact ⟨by simp, hP2.pair⟩

set_option maxRecDepth 100000 in
set_option maxHeartbeats 8000000 in
theorem do_rename {At At' : Lies} (api : ApiK At At') {w0 w wG : World} {g r : Nat} {G : List Nat} {D : DiskS} (x : ActS) (hk : x.kind % 15 = 7) (hok : ActOk w x) (hP : Pair At w0 g r G wG D D w) (hw : Wf D) (hx : x.text.size ≤ 3000) :
    Calls Try.prog 12 #[actAgg x, ptr g, ptr r] w (DoEnd At' w0 g r G wG (renameS D x.name x.dest).2) := by
  have hkk : (x.kind : Int) % 15 = 7 := by omega
  have hk2 : (x.kind : Int) < 256 := by have := hok.kind; omega
  obtain ⟨kA, ko, kc, hkv, _, _⟩ := hok.keep.cell
  have HB := hP.box api.ok #[.int .u8 (x.kind : Nat), .string x.name, .string x.dest, .string x.text, .int .i64 x.place, .int .i64 x.n, x.keepV]
  have HNN := Lib.hid hok.name
  have HDD := Lib.hid hok.dest
  have HPL := Lib.hid hok.place
  have HNI := Lib.hid hok.n
  have HTX := Lib.hid hx
  have HW := Lib.hid hw.ok
  unfold actAgg
  rw [hkv] at HB ⊢
  have HBB := Lib.hid HB
  have c1 : (w.alloc (.cells #[.int .u8 (x.kind : Nat), .string x.name, .string x.dest, .string x.text, .int .i64 x.place, .int .i64 x.n, .slice kA x.keep.length kc] 34)).cell? ⟨w.heap.size, 1, none⟩ = some (.string x.name) := HB.cell 1
  have c2 : (w.alloc (.cells #[.int .u8 (x.kind : Nat), .string x.name, .string x.dest, .string x.text, .int .i64 x.place, .int .i64 x.n, .slice kA x.keep.length kc] 34)).cell? ⟨w.heap.size, 2, none⟩ = some (.string x.dest) := HB.cell 2
  clear HB hP hok hkv hk hx hw
  go_enter Try.func12, Try.ntmps12
  go_wp2_with fail
  generalize hW : w.alloc (.cells #[.int .u8 (x.kind : Nat), .string x.name, .string x.dest, .string x.text, .int .i64 x.place, .int .i64 x.n, .slice kA x.keep.length kc] 34) = W at *
  clear hW
  go_region_held3 (fun w' => w'.cell? ⟨w.heap.size, 1, none⟩ = some (.string x.name) ∧ w'.cell? ⟨w.heap.size, 2, none⟩ = some (.string x.dest)) (first | assumption | exact ⟨by assumption, by assumption⟩ | exact ⟨c1, c2⟩) (first
    | (go_at_call 23; refine (PairB.prog api.ok (show PairB At w0 g r G wG w.heap.size _ D D _ by first | exact HBB.out.drew api.ok | exact HBB.out) (fun F h => api.rename x.name x.dest h HW.out HDD.out HNN.out)).mono ?_; rintro e w1 ⟨rfl, hP1⟩; have d1 : w1.cell? ⟨w.heap.size, 1, none⟩ = some (.string x.name) := hP1.cell 1; have d2 : w1.cell? ⟨w.heap.size, 2, none⟩ = some (.string x.dest) := hP1.cell 2)
    | (go_at_call 38; refine (PairB.ref api.ok' hP1 (fun F h => rename_ref x.name x.dest _ h HW.out HDD.out)).mono ?_; rintro e w2 ⟨rfl, hP2⟩; have e1 : w2.cell? ⟨w.heap.size, 1, none⟩ = some (.string x.name) := hP2.cell 1; have e2 : w2.cell? ⟨w.heap.size, 2, none⟩ = some (.string x.dest) := hP2.cell 2)
    | fail)
  go_wp2
  go_ret
  exact ⟨by simp, hP2.pair⟩

set_option maxRecDepth 100000 in
set_option maxHeartbeats 8000000 in
theorem do_delete {At At' : Lies} (api : ApiK At At') {w0 w wG : World} {g r : Nat} {G : List Nat} {D : DiskS} (x : ActS) (hk : x.kind % 15 = 8) (hok : ActOk w x) (hP : Pair At w0 g r G wG D D w) (hw : Wf D) (hx : x.text.size ≤ 3000) :
    Calls Try.prog 12 #[actAgg x, ptr g, ptr r] w (DoEnd At' w0 g r G wG (deleteS D x.name).2) := by
  have hkk : (x.kind : Int) % 15 = 8 := by omega
  have hk2 : (x.kind : Int) < 256 := by have := hok.kind; omega
  obtain ⟨kA, ko, kc, hkv, _, _⟩ := hok.keep.cell
  have HB := hP.box api.ok #[.int .u8 (x.kind : Nat), .string x.name, .string x.dest, .string x.text, .int .i64 x.place, .int .i64 x.n, x.keepV]
  have HNN := Lib.hid hok.name
  have HDD := Lib.hid hok.dest
  have HPL := Lib.hid hok.place
  have HNI := Lib.hid hok.n
  have HTX := Lib.hid hx
  have HW := Lib.hid hw.ok
  unfold actAgg
  rw [hkv] at HB ⊢
  have HBB := Lib.hid HB
  have c1 : (w.alloc (.cells #[.int .u8 (x.kind : Nat), .string x.name, .string x.dest, .string x.text, .int .i64 x.place, .int .i64 x.n, .slice kA x.keep.length kc] 34)).cell? ⟨w.heap.size, 1, none⟩ = some (.string x.name) := HB.cell 1
  clear HB hP hok hkv hk hx hw
  go_enter Try.func12, Try.ntmps12
  go_wp2_with fail
  generalize hW : w.alloc (.cells #[.int .u8 (x.kind : Nat), .string x.name, .string x.dest, .string x.text, .int .i64 x.place, .int .i64 x.n, .slice kA x.keep.length kc] 34) = W at *
  clear hW
  go_region_held3 (fun w' => w'.cell? ⟨w.heap.size, 1, none⟩ = some (.string x.name)) (first | assumption | exact ⟨by assumption⟩ | exact ⟨c1⟩) (first
    | (go_at_call 24; refine (PairB.prog api.ok (show PairB At w0 g r G wG w.heap.size _ D D _ by first | exact HBB.out.drew api.ok | exact HBB.out) (fun F h => api.delete x.name h HW.out HNN.out)).mono ?_; rintro e w1 ⟨rfl, hP1⟩; have d1 : w1.cell? ⟨w.heap.size, 1, none⟩ = some (.string x.name) := hP1.cell 1)
    | (go_at_call 39; refine (PairB.ref api.ok' hP1 (fun F h => delete_ref x.name _ h HW.out)).mono ?_; rintro e w2 ⟨rfl, hP2⟩; have e1 : w2.cell? ⟨w.heap.size, 1, none⟩ = some (.string x.name) := hP2.cell 1)
    | fail)
  go_wp2
  go_ret
  exact ⟨by simp, hP2.pair⟩

set_option maxRecDepth 100000 in
set_option maxHeartbeats 8000000 in
theorem do_spoil {At At' : Lies} (api : ApiK At At') {w0 w wG : World} {g r : Nat} {G : List Nat} {D : DiskS} (x : ActS) (hk : x.kind % 15 = 13) (hok : ActOk w x) (hP : Pair At w0 g r G wG D D w) (hw : Wf D) (hx : x.text.size ≤ 3000) :
    Calls Try.prog 12 #[actAgg x, ptr g, ptr r] w (DoEnd At' w0 g r G wG (spoilS D x.name x.place x.text).2) := by
  have hkk : (x.kind : Int) % 15 = 13 := by omega
  have hk2 : (x.kind : Int) < 256 := by have := hok.kind; omega
  obtain ⟨kA, ko, kc, hkv, _, _⟩ := hok.keep.cell
  have HB := hP.box api.ok #[.int .u8 (x.kind : Nat), .string x.name, .string x.dest, .string x.text, .int .i64 x.place, .int .i64 x.n, x.keepV]
  have HNN := Lib.hid hok.name
  have HDD := Lib.hid hok.dest
  have HPL := Lib.hid hok.place
  have HNI := Lib.hid hok.n
  have HTX := Lib.hid hx
  have HW := Lib.hid hw.ok
  unfold actAgg
  rw [hkv] at HB ⊢
  have HBB := Lib.hid HB
  have c1 : (w.alloc (.cells #[.int .u8 (x.kind : Nat), .string x.name, .string x.dest, .string x.text, .int .i64 x.place, .int .i64 x.n, .slice kA x.keep.length kc] 34)).cell? ⟨w.heap.size, 1, none⟩ = some (.string x.name) := HB.cell 1
  have c3 : (w.alloc (.cells #[.int .u8 (x.kind : Nat), .string x.name, .string x.dest, .string x.text, .int .i64 x.place, .int .i64 x.n, .slice kA x.keep.length kc] 34)).cell? ⟨w.heap.size, 3, none⟩ = some (.string x.text) := HB.cell 3
  have c4 : (w.alloc (.cells #[.int .u8 (x.kind : Nat), .string x.name, .string x.dest, .string x.text, .int .i64 x.place, .int .i64 x.n, .slice kA x.keep.length kc] 34)).cell? ⟨w.heap.size, 4, none⟩ = some (.int .i64 x.place) := HB.cell 4
  clear HB hP hok hkv hk hx hw
  go_enter Try.func12, Try.ntmps12
  go_wp2_with fail
  generalize hW : w.alloc (.cells #[.int .u8 (x.kind : Nat), .string x.name, .string x.dest, .string x.text, .int .i64 x.place, .int .i64 x.n, .slice kA x.keep.length kc] 34) = W at *
  clear hW
  go_region_held3 (fun w' => w'.cell? ⟨w.heap.size, 1, none⟩ = some (.string x.name) ∧ w'.cell? ⟨w.heap.size, 3, none⟩ = some (.string x.text) ∧ w'.cell? ⟨w.heap.size, 4, none⟩ = some (.int .i64 x.place)) (first | assumption | exact ⟨by assumption, by assumption, by assumption⟩ | exact ⟨c1, c3, c4⟩) (first
    | (go_at_call 33; refine (PairB.prog api.ok (show PairB At w0 g r G wG w.heap.size _ D D _ by first | exact HBB.out.drew api.ok | exact HBB.out) (fun F h => api.spoil x.name x.place x.text h HW.out HPL.out (Nat.le_trans HTX.out (by decide)) HNN.out)).mono ?_; rintro e w1 ⟨rfl, hP1⟩; have d1 : w1.cell? ⟨w.heap.size, 1, none⟩ = some (.string x.name) := hP1.cell 1; have d3 : w1.cell? ⟨w.heap.size, 3, none⟩ = some (.string x.text) := hP1.cell 3; have d4 : w1.cell? ⟨w.heap.size, 4, none⟩ = some (.int .i64 x.place) := hP1.cell 4)
    | (go_at_call 43; refine (PairB.ref api.ok' hP1 (fun F h => spoil_ref x.name x.place x.text _ h HW.out (Nat.le_trans HTX.out (by decide)) (place_le HPL.out))).mono ?_; rintro e w2 ⟨rfl, hP2⟩; have e1 : w2.cell? ⟨w.heap.size, 1, none⟩ = some (.string x.name) := hP2.cell 1; have e3 : w2.cell? ⟨w.heap.size, 3, none⟩ = some (.string x.text) := hP2.cell 3; have e4 : w2.cell? ⟨w.heap.size, 4, none⟩ = some (.int .i64 x.place) := hP2.cell 4)
    | fail)
  go_wp2
  go_ret
  exact ⟨by simp, hP2.pair⟩

set_option maxRecDepth 100000 in
set_option maxHeartbeats 8000000 in
theorem do_cut {At At' : Lies} (api : ApiK At At') {w0 w wG : World} {g r : Nat} {G : List Nat} {D : DiskS} (x : ActS) (hk : x.kind % 15 = 14) (hok : ActOk w x) (hP : Pair At w0 g r G wG D D w) (hw : Wf D) (hx : x.text.size ≤ 3000) :
    Calls Try.prog 12 #[actAgg x, ptr g, ptr r] w (DoEnd At' w0 g r G wG (cutS D x.name x.n).2) := by
  have hkk : (x.kind : Int) % 15 = 14 := by omega
  have hk2 : (x.kind : Int) < 256 := by have := hok.kind; omega
  obtain ⟨kA, ko, kc, hkv, _, _⟩ := hok.keep.cell
  have HB := hP.box api.ok #[.int .u8 (x.kind : Nat), .string x.name, .string x.dest, .string x.text, .int .i64 x.place, .int .i64 x.n, x.keepV]
  have HNN := Lib.hid hok.name
  have HDD := Lib.hid hok.dest
  have HPL := Lib.hid hok.place
  have HNI := Lib.hid hok.n
  have HTX := Lib.hid hx
  have HW := Lib.hid hw.ok
  unfold actAgg
  rw [hkv] at HB ⊢
  have HBB := Lib.hid HB
  have c1 : (w.alloc (.cells #[.int .u8 (x.kind : Nat), .string x.name, .string x.dest, .string x.text, .int .i64 x.place, .int .i64 x.n, .slice kA x.keep.length kc] 34)).cell? ⟨w.heap.size, 1, none⟩ = some (.string x.name) := HB.cell 1
  have c5 : (w.alloc (.cells #[.int .u8 (x.kind : Nat), .string x.name, .string x.dest, .string x.text, .int .i64 x.place, .int .i64 x.n, .slice kA x.keep.length kc] 34)).cell? ⟨w.heap.size, 5, none⟩ = some (.int .i64 x.n) := HB.cell 5
  clear HB hP hok hkv hk hx hw
  go_enter Try.func12, Try.ntmps12
  go_wp2_with fail
  generalize hW : w.alloc (.cells #[.int .u8 (x.kind : Nat), .string x.name, .string x.dest, .string x.text, .int .i64 x.place, .int .i64 x.n, .slice kA x.keep.length kc] 34) = W at *
  clear hW
  go_region_held3 (fun w' => w'.cell? ⟨w.heap.size, 1, none⟩ = some (.string x.name) ∧ w'.cell? ⟨w.heap.size, 5, none⟩ = some (.int .i64 x.n)) (first | assumption | exact ⟨by assumption, by assumption⟩ | exact ⟨c1, c5⟩) (first
    | (go_at_call 34; refine (PairB.prog api.ok (show PairB At w0 g r G wG w.heap.size _ D D _ by first | exact HBB.out.drew api.ok | exact HBB.out) (fun F h => api.cut x.name x.n h HW.out HNI.out HNN.out)).mono ?_; rintro e w1 ⟨rfl, hP1⟩; have d1 : w1.cell? ⟨w.heap.size, 1, none⟩ = some (.string x.name) := hP1.cell 1; have d5 : w1.cell? ⟨w.heap.size, 5, none⟩ = some (.int .i64 x.n) := hP1.cell 5)
    | (go_at_call 44; refine (PairB.ref api.ok' hP1 (fun F h => cut_ref x.name x.n _ h HW.out)).mono ?_; rintro e w2 ⟨rfl, hP2⟩; have e1 : w2.cell? ⟨w.heap.size, 1, none⟩ = some (.string x.name) := hP2.cell 1; have e5 : w2.cell? ⟨w.heap.size, 5, none⟩ = some (.int .i64 x.n) := hP2.cell 5)
    | fail)
  go_wp2
  go_ret
  exact ⟨by simp, hP2.pair⟩

set_option maxRecDepth 100000 in
set_option maxHeartbeats 8000000 in
theorem do_append1 {At At' : Lies} (api : ApiK At At') {w0 w wG : World} {g r : Nat} {G : List Nat} {D : DiskS} (x : ActS) (hk : x.kind % 15 = 1) (hok : ActOk w x) (hP : Pair At w0 g r G wG D D w) (hw : Wf D) (hx : x.text.size ≤ 3000) :
    Calls Try.prog 12 #[actAgg x, ptr g, ptr r] w (DoEnd At' w0 g r G wG (appendS D x.name x.text).2) := by
  have hkk : (x.kind : Int) % 15 = 1 := by omega
  have hk2 : (x.kind : Int) < 256 := by have := hok.kind; omega
  obtain ⟨kA, ko, kc, hkv, _, _⟩ := hok.keep.cell
  have HB := hP.box api.ok #[.int .u8 (x.kind : Nat), .string x.name, .string x.dest, .string x.text, .int .i64 x.place, .int .i64 x.n, x.keepV]
  have HNN := Lib.hid hok.name
  have HDD := Lib.hid hok.dest
  have HPL := Lib.hid hok.place
  have HNI := Lib.hid hok.n
  have HTX := Lib.hid hx
  have HW := Lib.hid hw.ok
  unfold actAgg
  rw [hkv] at HB ⊢
  have HBB := Lib.hid HB
  have c1 : (w.alloc (.cells #[.int .u8 (x.kind : Nat), .string x.name, .string x.dest, .string x.text, .int .i64 x.place, .int .i64 x.n, .slice kA x.keep.length kc] 34)).cell? ⟨w.heap.size, 1, none⟩ = some (.string x.name) := HB.cell 1
  have c3 : (w.alloc (.cells #[.int .u8 (x.kind : Nat), .string x.name, .string x.dest, .string x.text, .int .i64 x.place, .int .i64 x.n, .slice kA x.keep.length kc] 34)).cell? ⟨w.heap.size, 3, none⟩ = some (.string x.text) := HB.cell 3
  clear HB hP hok hkv hk hx hw
  go_enter Try.func12, Try.ntmps12
  go_wp2_with fail
  generalize hW : w.alloc (.cells #[.int .u8 (x.kind : Nat), .string x.name, .string x.dest, .string x.text, .int .i64 x.place, .int .i64 x.n, .slice kA x.keep.length kc] 34) = W at *
  clear hW
  go_region_held3 (fun w' => w'.cell? ⟨w.heap.size, 1, none⟩ = some (.string x.name) ∧ w'.cell? ⟨w.heap.size, 3, none⟩ = some (.string x.text)) (first | assumption | exact ⟨by assumption, by assumption⟩ | exact ⟨c1, c3⟩) (first
    | (go_at_call 21; refine (PairB.prog api.ok (show PairB At w0 g r G wG w.heap.size _ D D _ by first | exact HBB.out.drew api.ok | exact HBB.out) (fun F h => api.append x.name x.text h HW.out (Nat.le_trans HTX.out (by decide)) HNN.out)).mono ?_; rintro e w1 ⟨rfl, hP1⟩; have d1 : w1.cell? ⟨w.heap.size, 1, none⟩ = some (.string x.name) := hP1.cell 1; have d3 : w1.cell? ⟨w.heap.size, 3, none⟩ = some (.string x.text) := hP1.cell 3)
    | (go_at_call 45; refine (PairB.ref api.ok' hP1 (fun F h => append_ref x.name x.text _ h HW.out (Nat.le_trans HTX.out (by decide)))).mono ?_; rintro e w2 ⟨rfl, hP2⟩; have e1 : w2.cell? ⟨w.heap.size, 1, none⟩ = some (.string x.name) := hP2.cell 1; have e3 : w2.cell? ⟨w.heap.size, 3, none⟩ = some (.string x.text) := hP2.cell 3)
    | fail)
  go_wp2
  go_ret
  exact ⟨by simp, hP2.pair⟩

set_option maxRecDepth 100000 in
set_option maxHeartbeats 8000000 in
theorem do_append2 {At At' : Lies} (api : ApiK At At') {w0 w wG : World} {g r : Nat} {G : List Nat} {D : DiskS} (x : ActS) (hk : x.kind % 15 = 2) (hok : ActOk w x) (hP : Pair At w0 g r G wG D D w) (hw : Wf D) (hx : x.text.size ≤ 3000) :
    Calls Try.prog 12 #[actAgg x, ptr g, ptr r] w (DoEnd At' w0 g r G wG (appendS D x.name x.text).2) := by
  have hkk : (x.kind : Int) % 15 = 2 := by omega
  have hk2 : (x.kind : Int) < 256 := by have := hok.kind; omega
  obtain ⟨kA, ko, kc, hkv, _, _⟩ := hok.keep.cell
  have HB := hP.box api.ok #[.int .u8 (x.kind : Nat), .string x.name, .string x.dest, .string x.text, .int .i64 x.place, .int .i64 x.n, x.keepV]
  have HNN := Lib.hid hok.name
  have HDD := Lib.hid hok.dest
  have HPL := Lib.hid hok.place
  have HNI := Lib.hid hok.n
  have HTX := Lib.hid hx
  have HW := Lib.hid hw.ok
  unfold actAgg
  rw [hkv] at HB ⊢
  have HBB := Lib.hid HB
  have c1 : (w.alloc (.cells #[.int .u8 (x.kind : Nat), .string x.name, .string x.dest, .string x.text, .int .i64 x.place, .int .i64 x.n, .slice kA x.keep.length kc] 34)).cell? ⟨w.heap.size, 1, none⟩ = some (.string x.name) := HB.cell 1
  have c3 : (w.alloc (.cells #[.int .u8 (x.kind : Nat), .string x.name, .string x.dest, .string x.text, .int .i64 x.place, .int .i64 x.n, .slice kA x.keep.length kc] 34)).cell? ⟨w.heap.size, 3, none⟩ = some (.string x.text) := HB.cell 3
  clear HB hP hok hkv hk hx hw
  go_enter Try.func12, Try.ntmps12
  go_wp2_with fail
  generalize hW : w.alloc (.cells #[.int .u8 (x.kind : Nat), .string x.name, .string x.dest, .string x.text, .int .i64 x.place, .int .i64 x.n, .slice kA x.keep.length kc] 34) = W at *
  clear hW
  go_region_held3 (fun w' => w'.cell? ⟨w.heap.size, 1, none⟩ = some (.string x.name) ∧ w'.cell? ⟨w.heap.size, 3, none⟩ = some (.string x.text)) (first | assumption | exact ⟨by assumption, by assumption⟩ | exact ⟨c1, c3⟩) (first
    | (go_at_call 21; refine (PairB.prog api.ok (show PairB At w0 g r G wG w.heap.size _ D D _ by first | exact HBB.out.drew api.ok | exact HBB.out) (fun F h => api.append x.name x.text h HW.out (Nat.le_trans HTX.out (by decide)) HNN.out)).mono ?_; rintro e w1 ⟨rfl, hP1⟩; have d1 : w1.cell? ⟨w.heap.size, 1, none⟩ = some (.string x.name) := hP1.cell 1; have d3 : w1.cell? ⟨w.heap.size, 3, none⟩ = some (.string x.text) := hP1.cell 3)
    | (go_at_call 45; refine (PairB.ref api.ok' hP1 (fun F h => append_ref x.name x.text _ h HW.out (Nat.le_trans HTX.out (by decide)))).mono ?_; rintro e w2 ⟨rfl, hP2⟩; have e1 : w2.cell? ⟨w.heap.size, 1, none⟩ = some (.string x.name) := hP2.cell 1; have e3 : w2.cell? ⟨w.heap.size, 3, none⟩ = some (.string x.text) := hP2.cell 3)
    | fail)
  go_wp2
  go_ret
  exact ⟨by simp, hP2.pair⟩

set_option maxRecDepth 100000 in
set_option maxHeartbeats 8000000 in
theorem do_append3 {At At' : Lies} (api : ApiK At At') {w0 w wG : World} {g r : Nat} {G : List Nat} {D : DiskS} (x : ActS) (hk : x.kind % 15 = 3) (hok : ActOk w x) (hP : Pair At w0 g r G wG D D w) (hw : Wf D) (hx : x.text.size ≤ 3000) :
    Calls Try.prog 12 #[actAgg x, ptr g, ptr r] w (DoEnd At' w0 g r G wG (appendS D x.name x.text).2) := by
  have hkk : (x.kind : Int) % 15 = 3 := by omega
  have hk2 : (x.kind : Int) < 256 := by have := hok.kind; omega
  obtain ⟨kA, ko, kc, hkv, _, _⟩ := hok.keep.cell
  have HB := hP.box api.ok #[.int .u8 (x.kind : Nat), .string x.name, .string x.dest, .string x.text, .int .i64 x.place, .int .i64 x.n, x.keepV]
  have HNN := Lib.hid hok.name
  have HDD := Lib.hid hok.dest
  have HPL := Lib.hid hok.place
  have HNI := Lib.hid hok.n
  have HTX := Lib.hid hx
  have HW := Lib.hid hw.ok
  unfold actAgg
  rw [hkv] at HB ⊢
  have HBB := Lib.hid HB
  have c1 : (w.alloc (.cells #[.int .u8 (x.kind : Nat), .string x.name, .string x.dest, .string x.text, .int .i64 x.place, .int .i64 x.n, .slice kA x.keep.length kc] 34)).cell? ⟨w.heap.size, 1, none⟩ = some (.string x.name) := HB.cell 1
  have c3 : (w.alloc (.cells #[.int .u8 (x.kind : Nat), .string x.name, .string x.dest, .string x.text, .int .i64 x.place, .int .i64 x.n, .slice kA x.keep.length kc] 34)).cell? ⟨w.heap.size, 3, none⟩ = some (.string x.text) := HB.cell 3
  clear HB hP hok hkv hk hx hw
  go_enter Try.func12, Try.ntmps12
  go_wp2_with fail
  generalize hW : w.alloc (.cells #[.int .u8 (x.kind : Nat), .string x.name, .string x.dest, .string x.text, .int .i64 x.place, .int .i64 x.n, .slice kA x.keep.length kc] 34) = W at *
  clear hW
  go_region_held3 (fun w' => w'.cell? ⟨w.heap.size, 1, none⟩ = some (.string x.name) ∧ w'.cell? ⟨w.heap.size, 3, none⟩ = some (.string x.text)) (first | assumption | exact ⟨by assumption, by assumption⟩ | exact ⟨c1, c3⟩) (first
    | (go_at_call 21; refine (PairB.prog api.ok (show PairB At w0 g r G wG w.heap.size _ D D _ by first | exact HBB.out.drew api.ok | exact HBB.out) (fun F h => api.append x.name x.text h HW.out (Nat.le_trans HTX.out (by decide)) HNN.out)).mono ?_; rintro e w1 ⟨rfl, hP1⟩; have d1 : w1.cell? ⟨w.heap.size, 1, none⟩ = some (.string x.name) := hP1.cell 1; have d3 : w1.cell? ⟨w.heap.size, 3, none⟩ = some (.string x.text) := hP1.cell 3)
    | (go_at_call 45; refine (PairB.ref api.ok' hP1 (fun F h => append_ref x.name x.text _ h HW.out (Nat.le_trans HTX.out (by decide)))).mono ?_; rintro e w2 ⟨rfl, hP2⟩; have e1 : w2.cell? ⟨w.heap.size, 1, none⟩ = some (.string x.name) := hP2.cell 1; have e3 : w2.cell? ⟨w.heap.size, 3, none⟩ = some (.string x.text) := hP2.cell 3)
    | fail)
  go_wp2
  go_ret
  exact ⟨by simp, hP2.pair⟩
end Go.Proofs.Ytfpimebamkmjoaa
