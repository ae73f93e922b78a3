/- Acts with both disks: Read, Size, Start. -/
import Derived.Test.YtfpimebamkmjoaaDiskDo
namespace Go.Proofs.Ytfpimebamkmjoaa
open Go.RowKit
set_option linter.unusedVariables false

theorem PairB.refv {At : Lies} (api : LiesOk At) {w0 w wG : World} {g r B : Nat} {G : List Nat} {cs : Array Value} {D E : DiskS} (h : PairB At w0 g r G wG B cs D E w) {f : FuncId} {args : Array Value} {v : Value} {E' : DiskS} (hc : ∀ F, RefAt w w0.heap.size r F E → Calls Try.prog f args w (EndAt RefAt w0.heap.size r F w v E')) :
    Calls Try.prog f args w (PairEnd At w0 g r G wG B cs v D E') := by
  obtain ⟨F1, F2, h1, h2, h3, h4, h5, h6, h7, h8⟩ := h
  refine (hc F2 h2).mono ?_
  rintro e w' ⟨F', e1, e2, e3, e4⟩
  refine ⟨e1, F1, F', api.touch h1 e4 (fun x hx hm => h3 x hx hm), e2, fun x hx hm => ?_, h4.trans e4 (fun x hx => Or.inr (h2.low x hx).1), h5.touch e4 h7, h6, fun hm => ?_, h8.ref e4 e3⟩
  · rcases e3 x hm with h | h
    · exact h3 x hx h
    · have := (api.low h1 x hx).2; omega
  · rcases e3 B hm with h | h
    · exact h7 h
    · have := h5.lt; omega
theorem read_refv {base r : Nat} {F : List Nat} {D : DiskS} (n : ByteArray) (a k : Int) (w : World) (h : RefAt w base r F D) (ho : RefOk D) (hct : D.count ≤ 1099511627776) :
    Calls Try.prog 36 #[.pointer (some ⟨r, 0, none⟩), .string n, .int .i64 a, .int .i64 k] w (EndAt RefAt base r F w (.tuple #[.string (readS D n a k).1, .int .i64 ((readS D n a k).2.1 : Nat)]) (readS D n a k).2.2) :=
  (read_ref n a k w h ho hct).mono fun e w' h => ⟨F, h.1, h.2.1, fun x hx => Or.inl hx, h.2.2⟩
theorem size_refv {base r : Nat} {F : List Nat} {D : DiskS} (n : ByteArray) (w : World) (h : RefAt w base r F D) :
    Calls Try.prog 40 #[.pointer (some ⟨r, 0, none⟩), .string n] w (EndAt RefAt base r F w (.tuple #[.int .i64 ((sizeS D n).1 : Nat), .int .i64 ((sizeS D n).2 : Nat)]) D) :=
  (size_ref n w h).mono fun e w' ⟨h1, h2⟩ => ⟨F, h1, h2 ▸ h, fun x hx => Or.inl hx, h2 ▸ Touch.refl _ _⟩
theorem start_refv {base r : Nat} {F : List Nat} {D : DiskS} (w : World) (h : RefAt w base r F D) (hs : D.starts ≤ 1099511627776) :
    Calls Try.prog 17 #[.pointer (some ⟨r, 0, none⟩)] w (EndAt RefAt base r F w (.int .i64 ((startS D).1 : Nat)) (startS D).2) :=
  (start_ref w h hs).mono fun e w' h => ⟨F, h.1, h.2.1, fun x hx => Or.inl hx, h.2.2⟩

set_option maxRecDepth 100000 in
set_option maxHeartbeats 8000000 in
theorem do_read {At At' : Lies} (api : ApiK At At') {w0 w wG : World} {g r : Nat} {G : List Nat} {D : DiskS} (x : ActS) (hk : x.kind % 15 = 4) (hok : ActOk w x) (hP : Pair At w0 g r G wG D D w) (hw : Wf D) (hct : D.count ≤ 1099511627776) (hst : D.starts ≤ 1099511627776) :
    Calls Try.prog 12 #[actAgg x, ptr g, ptr r] w (DoEnd At' w0 g r G wG (readS D x.name x.place x.n).2.2) := by
  have hkk : (x.kind : Int) % 15 = 4 := by omega
  have hk2 : (x.kind : Int) < 256 := by have := hok.kind; omega
  obtain ⟨kA, ko, kc, hkv, _, _⟩ := hok.keep.cell
  have HB := hP.box api.ok #[.int .u8 (x.kind : Nat), .string x.name, .string x.dest, .string x.text, .int .i64 x.place, .int .i64 x.n, x.keepV]
  have HNN := Lib.hid hok.name
  have HPL := Lib.hid hok.place
  have HNI := Lib.hid hok.n
  have HCT := Lib.hid hct
  have HST := Lib.hid hst
  have HW := Lib.hid hw.ok
  unfold actAgg
  rw [hkv] at HB ⊢
  have HBB := Lib.hid HB
  have c1 : (w.alloc (.cells #[.int .u8 (x.kind : Nat), .string x.name, .string x.dest, .string x.text, .int .i64 x.place, .int .i64 x.n, .slice kA x.keep.length kc] 34)).cell? ⟨w.heap.size, 1, none⟩ = some (.string x.name) := HB.cell 1
  have c4 : (w.alloc (.cells #[.int .u8 (x.kind : Nat), .string x.name, .string x.dest, .string x.text, .int .i64 x.place, .int .i64 x.n, .slice kA x.keep.length kc] 34)).cell? ⟨w.heap.size, 4, none⟩ = some (.int .i64 x.place) := HB.cell 4
  have c5 : (w.alloc (.cells #[.int .u8 (x.kind : Nat), .string x.name, .string x.dest, .string x.text, .int .i64 x.place, .int .i64 x.n, .slice kA x.keep.length kc] 34)).cell? ⟨w.heap.size, 5, none⟩ = some (.int .i64 x.n) := HB.cell 5
  clear HB hP hok hkv hk hw hct hst
  go_enter Try.func12, Try.ntmps12
  go_wp2_with fail
  generalize hW : w.alloc (.cells #[.int .u8 (x.kind : Nat), .string x.name, .string x.dest, .string x.text, .int .i64 x.place, .int .i64 x.n, .slice kA x.keep.length kc] 34) = W at *
  clear hW
  refine (PairB.prog api.ok HBB.out (fun F h => api.read x.name x.place x.n h HW.out HCT.out HPL.out HNI.out HNN.out)).mono ?_
  rintro e w1 ⟨rfl, hP1⟩
  have d1 : w1.cell? ⟨w.heap.size, 1, none⟩ = some (.string x.name) := hP1.cell 1
  have d4 : w1.cell? ⟨w.heap.size, 4, none⟩ = some (.int .i64 x.place) := hP1.cell 4
  have d5 : w1.cell? ⟨w.heap.size, 5, none⟩ = some (.int .i64 x.n) := hP1.cell 5
  go_wp2_with fail
  refine (PairB.refv api.ok' hP1 (fun F h => read_refv x.name x.place x.n _ h HW.out HCT.out)).mono ?_
  rintro e w2 ⟨rfl, hP2⟩
  have hss := str_eq (readS D x.name x.place x.n).1
  go_wp2
  go_ret
  exact ⟨by simp, hP2.pair⟩

set_option maxRecDepth 100000 in
set_option maxHeartbeats 8000000 in
theorem do_size {At At' : Lies} (api : ApiK At At') {w0 w wG : World} {g r : Nat} {G : List Nat} {D : DiskS} (x : ActS) (hk : x.kind % 15 = 9) (hok : ActOk w x) (hP : Pair At w0 g r G wG D D w) (hw : Wf D) (hct : D.count ≤ 1099511627776) (hst : D.starts ≤ 1099511627776) :
    Calls Try.prog 12 #[actAgg x, ptr g, ptr r] w (DoEnd At' w0 g r G wG D) := by
  have hkk : (x.kind : Int) % 15 = 9 := by omega
  have hk2 : (x.kind : Int) < 256 := by have := hok.kind; omega
  obtain ⟨kA, ko, kc, hkv, _, _⟩ := hok.keep.cell
  have HB := hP.box api.ok #[.int .u8 (x.kind : Nat), .string x.name, .string x.dest, .string x.text, .int .i64 x.place, .int .i64 x.n, x.keepV]
  have HNN := Lib.hid hok.name
  have HPL := Lib.hid hok.place
  have HNI := Lib.hid hok.n
  have HCT := Lib.hid hct
  have HST := Lib.hid hst
  have HW := Lib.hid hw.ok
  unfold actAgg
  rw [hkv] at HB ⊢
  have HBB := Lib.hid HB
  have c1 : (w.alloc (.cells #[.int .u8 (x.kind : Nat), .string x.name, .string x.dest, .string x.text, .int .i64 x.place, .int .i64 x.n, .slice kA x.keep.length kc] 34)).cell? ⟨w.heap.size, 1, none⟩ = some (.string x.name) := HB.cell 1
  clear HB hP hok hkv hk hw hct hst
  go_enter Try.func12, Try.ntmps12
  go_wp2_with fail
  generalize hW : w.alloc (.cells #[.int .u8 (x.kind : Nat), .string x.name, .string x.dest, .string x.text, .int .i64 x.place, .int .i64 x.n, .slice kA x.keep.length kc] 34) = W at *
  clear hW
  refine (PairB.prog api.ok HBB.out (fun F h => api.size x.name h HW.out HNN.out)).mono ?_
  rintro e w1 ⟨rfl, hP1⟩
  have d1 : w1.cell? ⟨w.heap.size, 1, none⟩ = some (.string x.name) := hP1.cell 1
  go_wp2_with fail
  refine (PairB.refv api.ok' hP1 (fun F h => size_refv x.name _ h)).mono ?_
  rintro e w2 ⟨rfl, hP2⟩
  go_wp2
  go_ret
  exact ⟨by simp, hP2.pair⟩

set_option maxRecDepth 100000 in
set_option maxHeartbeats 8000000 in
theorem do_start {At At' : Lies} (api : ApiK At At') {w0 w wG : World} {g r : Nat} {G : List Nat} {D : DiskS} (x : ActS) (hk : x.kind % 15 = 11) (hok : ActOk w x) (hP : Pair At w0 g r G wG D D w) (hw : Wf D) (hct : D.count ≤ 1099511627776) (hst : D.starts ≤ 1099511627776) :
    Calls Try.prog 12 #[actAgg x, ptr g, ptr r] w (DoEnd At' w0 g r G wG (startS D).2) := by
  have hkk : (x.kind : Int) % 15 = 11 := by omega
  have hk2 : (x.kind : Int) < 256 := by have := hok.kind; omega
  obtain ⟨kA, ko, kc, hkv, _, _⟩ := hok.keep.cell
  have HB := hP.box api.ok #[.int .u8 (x.kind : Nat), .string x.name, .string x.dest, .string x.text, .int .i64 x.place, .int .i64 x.n, x.keepV]
  have HNN := Lib.hid hok.name
  have HPL := Lib.hid hok.place
  have HNI := Lib.hid hok.n
  have HCT := Lib.hid hct
  have HST := Lib.hid hst
  have HW := Lib.hid hw.ok
  unfold actAgg
  rw [hkv] at HB ⊢
  have HBB := Lib.hid HB
  clear HB hP hok hkv hk hw hct hst
  go_enter Try.func12, Try.ntmps12
  go_wp2_with fail
  generalize hW : w.alloc (.cells #[.int .u8 (x.kind : Nat), .string x.name, .string x.dest, .string x.text, .int .i64 x.place, .int .i64 x.n, .slice kA x.keep.length kc] 34) = W at *
  clear hW
  refine (PairB.prog api.ok HBB.out (fun F h => api.start h HW.out HST.out)).mono ?_
  rintro e w1 ⟨rfl, hP1⟩

  go_wp2_with fail
  refine (PairB.refv api.ok' hP1 (fun F h => start_refv _ h HST.out)).mono ?_
  rintro e w2 ⟨rfl, hP2⟩
  go_wp2
  go_ret
  exact ⟨by simp, hP2.pair⟩
end Go.Proofs.Ytfpimebamkmjoaa
