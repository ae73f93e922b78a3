/- The program's disk and the document's one, side by side; an act with both. -/
import Derived.Test.YtfpimebamkmjoaaDiskApi
import Derived.Test.YtfpimebamkmjoaaDiskWf
import Derived.Test.YtfpimebamkmjoaaActsGreat
import Derived.Deep.RegionHeld3
namespace Go.Proofs.Ytfpimebamkmjoaa
open Go.RowKit
set_option linter.unusedVariables false

/-- What is asked of how a disk lies. -/
structure LiesOk (At : Lies) : Prop where
  touch : ∀ {w w' : World} {base g : Nat} {F G : List Nat} {D : DiskS}, At w base g F D → Touch G w w' → (∀ x ∈ F, x ∉ G) → At w' base g F D
  low : ∀ {w : World} {base g : Nat} {F : List Nat} {D : DiskS}, At w base g F D → ∀ x ∈ F, base ≤ x ∧ x < w.heap.size
theorem DiskApi.ok {At : Lies} (api : DiskApi At) : LiesOk At := ⟨api.touch, api.low⟩
/-- One call of a disk that lies so, and then so. -/
structure ApiK (At At' : Lies) : Prop where
  ok : LiesOk At
  ok' : LiesOk At'
  create : ∀ {w : World} {base g : Nat} {F : List Nat} {D : DiskS} (n : ByteArray), At w base g F D → RefOk D → n.size ≤ maxLen →
    Calls Try.prog 20 #[ptr g, .string n] w (EndAt At' base g F w (err (createS D n).1) (createS D n).2)
  append : ∀ {w : World} {base g : Nat} {F : List Nat} {D : DiskS} (n s : ByteArray), At w base g F D → RefOk D → s.size ≤ 1099511627776 → n.size ≤ maxLen →
    Calls Try.prog 21 #[ptr g, .string n, .string s] w (EndAt At' base g F w (err (appendS D n s).1) (appendS D n s).2)
  read : ∀ {w : World} {base g : Nat} {F : List Nat} {D : DiskS} (n : ByteArray) (a k : Int), At w base g F D → RefOk D → D.count ≤ 1099511627776 → (Lit.int .i64 a).wf = true → (Lit.int .i64 k).wf = true → n.size ≤ maxLen →
    Calls Try.prog 18 #[ptr g, .string n, .int .i64 a, .int .i64 k] w (EndAt At' base g F w (.tuple #[.string (readS D n a k).1, err (readS D n a k).2.1]) (readS D n a k).2.2)
  sync : ∀ {w : World} {base g : Nat} {F : List Nat} {D : DiskS} (n : ByteArray), At w base g F D → RefOk D → n.size ≤ maxLen →
    Calls Try.prog 22 #[ptr g, .string n] w (EndAt At' base g F w (err (syncS D n).1) (syncS D n).2)
  rename : ∀ {w : World} {base g : Nat} {F : List Nat} {D : DiskS} (n m : ByteArray), At w base g F D → RefOk D → m.size ≤ maxLen → n.size ≤ maxLen →
    Calls Try.prog 23 #[ptr g, .string n, .string m] w (EndAt At' base g F w (err (renameS D n m).1) (renameS D n m).2)
  delete : ∀ {w : World} {base g : Nat} {F : List Nat} {D : DiskS} (n : ByteArray), At w base g F D → RefOk D → n.size ≤ maxLen →
    Calls Try.prog 24 #[ptr g, .string n] w (EndAt At' base g F w (err (deleteS D n).1) (deleteS D n).2)
  size : ∀ {w : World} {base g : Nat} {F : List Nat} {D : DiskS} (n : ByteArray), At w base g F D → RefOk D → n.size ≤ maxLen →
    Calls Try.prog 19 #[ptr g, .string n] w (EndAt At' base g F w (.tuple #[.int .i64 ((sizeS D n).1 : Nat), err (sizeS D n).2]) D)
  crash : ∀ {w : World} {base g : Nat} {F : List Nat} {D : DiskS} (v : Value) (keep : List Int), At w base g F D → RefOk D → IntsIn w v keep → (∀ b, v.ownBlock = some b → b ∉ F) → keep.length ≤ 1048576 →
    Calls Try.prog 31 #[ptr g, v] w (EndAt At' base g F w (err (crashS D keep).1) (crashS D keep).2)
  start : ∀ {w : World} {base g : Nat} {F : List Nat} {D : DiskS}, At w base g F D → RefOk D → D.starts ≤ 1099511627776 →
    Calls Try.prog 16 #[ptr g] w (EndAt At' base g F w (err (startS D).1) (startS D).2)
  fail : ∀ {w : World} {base g : Nat} {F : List Nat} {D : DiskS} (n : Int) (v : Value) (keep : List Int), At w base g F D → RefOk D → (Lit.int .i64 n).wf = true → IntsIn w v keep → (∀ b, v.ownBlock = some b → b ∉ F) → keep.length ≤ 1048576 →
    Calls Try.prog 32 #[ptr g, .int .i64 n, v] w (EndAt At' base g F w (err (failS D n keep).1) (failS D n keep).2)
  spoil : ∀ {w : World} {base g : Nat} {F : List Nat} {D : DiskS} (n : ByteArray) (a : Int) (s : ByteArray), At w base g F D → RefOk D → (Lit.int .i64 a).wf = true → s.size ≤ 1048576 → n.size ≤ maxLen →
    Calls Try.prog 33 #[ptr g, .string n, .int .i64 a, .string s] w (EndAt At' base g F w (err (spoilS D n a s).1) (spoilS D n a s).2)
  cut : ∀ {w : World} {base g : Nat} {F : List Nat} {D : DiskS} (n : ByteArray) (k : Int), At w base g F D → RefOk D → (Lit.int .i64 k).wf = true → n.size ≤ maxLen →
    Calls Try.prog 34 #[ptr g, .string n, .int .i64 k] w (EndAt At' base g F w (err (cutS D n k).1) (cutS D n k).2)

/-- Other blocks, as they were in wG, no block of the disks'. -/
def Guests (G : List Nat) (wG w : World) (F1 F2 : List Nat) : Prop := ∀ b ∈ G, w.heap[b]? = wG.heap[b]? ∧ b < w.heap.size ∧ b ∉ F1 ∧ b ∉ F2
theorem Guests.prog {G F1 F2 F' : List Nat} {wG w w' : World} (h : Guests G wG w F1 F2) (ht : Touch F1 w w') (hs : ∀ x ∈ F', x ∈ F1 ∨ w.heap.size ≤ x) : Guests G wG w' F' F2 := fun b hb => by
  obtain ⟨h1, h2, h3, h4⟩ := h b hb
  exact ⟨(ht.block b h2 h3).trans h1, Nat.lt_of_lt_of_le h2 ht.size, fun hm => by rcases hs b hm with c | c; exact h3 c; omega, h4⟩
theorem Guests.ref {G F1 F2 F' : List Nat} {wG w w' : World} (h : Guests G wG w F1 F2) (ht : Touch F2 w w') (hs : ∀ x ∈ F', x ∈ F2 ∨ w.heap.size ≤ x) : Guests G wG w' F1 F' := fun b hb => by
  obtain ⟨h1, h2, h3, h4⟩ := h b hb
  exact ⟨(ht.block b h2 h4).trans h1, Nat.lt_of_lt_of_le h2 ht.size, h3, fun hm => by rcases hs b hm with c | c; exact h4 c; omega⟩
theorem Guests.more {G F1 F2 : List Nat} {wG w w' : World} (h : Guests G wG w F1 F2) (ht : Touch [] w w') : Guests G wG w' F1 F2 := fun b hb => by
  obtain ⟨h1, h2, h3, h4⟩ := h b hb
  exact ⟨(ht.block b h2 (by simp)).trans h1, Nat.lt_of_lt_of_le h2 ht.size, h3, h4⟩
/-- Both disks, and an act in a block of its own, no block of two. -/
def PairB (At : Lies) (w0 : World) (g r : Nat) (G : List Nat) (wG : World) (B : Nat) (cs : Array Value) (D E : DiskS) (w : World) : Prop :=
  ∃ F1 F2, At w w0.heap.size g F1 D ∧ RefAt w w0.heap.size r F2 E ∧ (∀ x ∈ F1, x ∉ F2) ∧ Touch [] w0 w ∧ Blok w B 34 cs ∧ B ∉ F1 ∧ B ∉ F2 ∧ Guests G wG w F1 F2
def PairEnd (At : Lies) (w0 : World) (g r : Nat) (G : List Nat) (wG : World) (B : Nat) (cs : Array Value) (v : Value) (D E : DiskS) (e : Ending) (w' : World) : Prop := e = .returned v ∧ PairB At w0 g r G wG B cs D E w'
section
variable {At : Lies} {w0 w wG : World} {g r B : Nat} {G : List Nat} {cs : Array Value} {D E : DiskS}
theorem PairB.cell (h : PairB At w0 g r G wG B cs D E w) (i : Nat) : w.cell? ⟨B, i, none⟩ = cs[i]? := by
  obtain ⟨F1, F2, _, _, _, _, hb, _⟩ := h
  exact hb.cell i
theorem PairB.prog {At' : Lies} (api : LiesOk At) (h : PairB At w0 g r G wG B cs D E w) {f : FuncId} {args : Array Value} {v : Value} {D' : DiskS} (hc : ∀ F, At w w0.heap.size g F D → Calls Try.prog f args w (EndAt At' w0.heap.size g F w v D')) :
    Calls Try.prog f args w (PairEnd At' w0 g r G wG B cs v D' E) := by
  obtain ⟨F1, F2, h1, h2, h3, h4, h5, h6, h7, h8⟩ := h
  refine (hc F1 h1).mono ?_
  rintro e w' ⟨F', e1, e2, e3, e4⟩
  refine ⟨e1, F', F2, e2, h2.touch e4 (fun x hx hm => h3 x hm hx), fun x hx hm => ?_, h4.trans e4 (fun x hx => Or.inr (api.low h1 x hx).1), h5.touch e4 h6, fun hm => ?_, h7, h8.prog e4 e3⟩
  · rcases e3 x hx with h | h
    · exact h3 x h hm
    · have := (h2.low x hm).2; omega
  · rcases e3 B hm with h | h
    · exact h6 h
    · have := h5.lt; omega
theorem PairB.ref (api : LiesOk At) (h : PairB At w0 g r G wG B cs D E w) {f : FuncId} {args : Array Value} {n : Nat} {E' : DiskS} (hc : ∀ F, RefAt w w0.heap.size r F E → Calls Try.prog f args w (RefEnd w0.heap.size r F w n E')) :
    Calls Try.prog f args w (PairEnd At w0 g r G wG B cs (.int .i64 (n : Nat)) D E') := by
  obtain ⟨F1, F2, h1, h2, h3, h4, h5, h6, h7, h8⟩ := h
  refine (hc F2 h2).mono ?_
  rintro e w' ⟨F', e1, e2, e3, e4⟩
  refine ⟨e1, F1, F', api.touch h1 e4 (fun x hx hm => h3 x hx hm), e2, fun x hx hm => ?_, h4.trans e4 (fun x hx => Or.inr (h2.low x hx).1), h5.touch e4 h7, h6, fun hm => ?_, h8.ref e4 e3⟩
  · rcases e3 x hm with h | h
    · exact h3 x hx h
    · have := (api.low h1 x hx).2; omega
  · rcases e3 B hm with h | h
    · exact h7 h
    · have := h5.lt; omega
theorem PairB.drew (api : LiesOk At) (h : PairB At w0 g r G wG B cs D E w) : PairB At w0 g r G wG B cs D E w.drew := by
  obtain ⟨F1, F2, h1, h2, h3, h4, h5, h6, h7, h8⟩ := h
  exact ⟨F1, F2, api.touch h1 ((Touch.refl [] w).drew) (fun _ _ => by simp), h2.drew, h3, h4.drew, h5, h6, h7, h8⟩
end

/-- Both disks, no block of both. -/
def Pair (At : Lies) (w0 : World) (g r : Nat) (G : List Nat) (wG : World) (D E : DiskS) (w : World) : Prop := ∃ F1 F2, At w w0.heap.size g F1 D ∧ RefAt w w0.heap.size r F2 E ∧ (∀ x ∈ F1, x ∉ F2) ∧ Touch [] w0 w ∧ Guests G wG w F1 F2
theorem Pair.box {At : Lies} (api : LiesOk At) {w0 w wG : World} {g r : Nat} {G : List Nat} {D E : DiskS} (h : Pair At w0 g r G wG D E w) (cs : Array Value) : PairB At w0 g r G wG w.heap.size cs D E (w.alloc (.cells cs 34)) := by
  obtain ⟨F1, F2, h1, h2, h3, h4, h5⟩ := h
  have ht : Touch [] w (w.alloc (.cells cs 34)) := (Touch.refl [] w).alloc _
  exact ⟨F1, F2, api.touch h1 ht (fun _ _ => by simp), h2.touch ht (fun _ _ => by simp), h3, h4.trans ht (fun x hx => by cases hx), Blok.new w _ _, fun hm => by have := (api.low h1 _ hm).2; omega, fun hm => by have := (h2.low _ hm).2; omega, h5.more ht⟩
theorem PairB.pair {At : Lies} {w0 w wG : World} {g r B : Nat} {G : List Nat} {cs : Array Value} {D E : DiskS} (h : PairB At w0 g r G wG B cs D E w) : Pair At w0 g r G wG D E w := by
  obtain ⟨F1, F2, h1, h2, h3, h4, _, _, _, h5⟩ := h
  exact ⟨F1, F2, h1, h2, h3, h4, h5⟩
/-- An act with both: the answers are alike. -/
def DoEnd (At : Lies) (w0 : World) (g r : Nat) (G : List Nat) (wG : World) (E : DiskS) (e : Ending) (w' : World) : Prop := e = .returned (.bool true) ∧ Pair At w0 g r G wG E E w'
def actAgg (x : ActS) : Value := .agg #[.int .u8 (x.kind : Nat), .string x.name, .string x.dest, .string x.text, .int .i64 x.place, .int .i64 x.n, x.keepV]

set_option maxRecDepth 100000 in
set_option maxHeartbeats 8000000 in
theorem do_create {At At' : Lies} (api : ApiK At At') {w0 w wG : World} {g r : Nat} {G : List Nat} {D : DiskS} (x : ActS) (hk : x.kind % 15 = 0) (hok : ActOk w x) (hP : Pair At w0 g r G wG D D w) (hw : Wf D) :
    Calls Try.prog 12 #[actAgg x, ptr g, ptr r] w (DoEnd At' w0 g r G wG (createS D x.name).2) := by
  have hkk : (x.kind : Int) % 15 = 0 := by omega
  have hk2 : (x.kind : Int) < 256 := by have := hok.kind; omega
  obtain ⟨kA, ko, kc, hkv, _, _⟩ := hok.keep.cell
  have HB := hP.box api.ok #[.int .u8 (x.kind : Nat), .string x.name, .string x.dest, .string x.text, .int .i64 x.place, .int .i64 x.n, x.keepV]
  have HN := hok.name
  have HW := Lib.hid hw.ok
  unfold actAgg
  rw [hkv] at HB ⊢
  have HBB := Lib.hid HB
  have HNN := Lib.hid HN
  have c1 : (w.alloc (.cells #[.int .u8 (x.kind : Nat), .string x.name, .string x.dest, .string x.text, .int .i64 x.place, .int .i64 x.n, .slice kA x.keep.length kc] 34)).cell? ⟨w.heap.size, 1, none⟩ = some (.string x.name) := HB.cell 1
  clear HB HN hP hok hkv hk
  go_enter Try.func12, Try.ntmps12
  go_wp2_with fail
  generalize hW : w.alloc (.cells #[.int .u8 (x.kind : Nat), .string x.name, .string x.dest, .string x.text, .int .i64 x.place, .int .i64 x.n, .slice kA x.keep.length kc] 34) = W at *
  clear hW
  go_region_held3 (fun w' => w'.cell? ⟨w.heap.size, 1, none⟩ = some (.string x.name)) (first | assumption | exact c1) (first
    | (go_at_call 20; refine (PairB.prog api.ok (show PairB At w0 g r G wG w.heap.size _ D D _ by first | exact HBB.out.drew api.ok | exact HBB.out) (fun F h => api.create x.name h HW.out HNN.out)).mono ?_; rintro e w1 ⟨rfl, hP1⟩; have d1 : w1.cell? ⟨w.heap.size, 1, none⟩ = some (.string x.name) := hP1.cell 1)
    | (go_at_call 35; refine (PairB.ref api.ok' hP1 (fun F h => create_ref x.name _ h HW.out HNN.out)).mono ?_; rintro e w2 ⟨rfl, hP2⟩; have d2 : w2.cell? ⟨w.heap.size, 1, none⟩ = some (.string x.name) := hP2.cell 1)
    | fail)
  go_wp2
  go_ret
  exact ⟨by simp, hP2.pair⟩
end Go.Proofs.Ytfpimebamkmjoaa
