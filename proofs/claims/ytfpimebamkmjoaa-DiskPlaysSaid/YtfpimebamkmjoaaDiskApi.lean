/- What the program's disk answers, as hypotheses: the statements' walks lean on these alone. -/
import Derived.Test.YtfpimebamkmjoaaDiskRefActs
import Derived.Test.YtfpimebamkmjoaaDiskRefNew
import Derived.Test.YtfpimebamkmjoaaIntsIn
namespace Go.Proofs.Ytfpimebamkmjoaa
open Go.RowKit
set_option linter.unusedVariables false

/-- What the sizes of a disk's files are bounded by, whatever failure is set. -/
structure ProgOk (D : DiskS) : Prop where
  sizes : ∀ f ∈ D.l, f.synced ≤ f.data.size ∧ f.data.size ≤ 1048576
  many : D.l.length ≤ 400
  used : usedS D.l ≤ 1048576
  cap : D.cap ≤ 1048576
theorem RefOk.prog {D : DiskS} (h : RefOk D) : ProgOk D := ⟨h.sizes, h.many, h.used, h.cap⟩
/-- A failure is set: the number as it is. -/
def failP (D : DiskS) (n : Int) (keep : List Int) : Nat × DiskS := if D.down then (61, D) else if n < 0 then (2, D) else (0, { D with fails := n.toNat + 1, keep := keep })
theorem failP_eq {D : DiskS} {n : Int} {keep : List Int} (h : n ≤ 1099511627776) : failP D n keep = failS D n keep := by
  unfold failP failS
  rw [Nat.min_eq_left (by omega)]

/-- How a disk lies in memory: the world, from which block on it is the call's own, its block, all its blocks, what it is. -/
abbrev Lies := World → Nat → Nat → List Nat → DiskS → Prop
abbrev ptr (g : Nat) : Value := .pointer (some ⟨g, 0, none⟩)

/-- A call's end: the answer, and what the disk is then. -/
def EndAt (At : Lies) (base g : Nat) (F : List Nat) (w : World) (v : Value) (E : DiskS) (e : Ending) (w' : World) : Prop :=
  ∃ F', e = .returned v ∧ At w' base g F' E ∧ (∀ x ∈ F', x ∈ F ∨ w.heap.size ≤ x) ∧ Touch F w w'
/-- A call's end that tells a list of numbers: new memory, or none. -/
def IntsEnd (At : Lies) (base g : Nat) (F : List Nat) (w : World) (l : List Int) (E : DiskS) (e : Ending) (w' : World) : Prop :=
  ∃ F' v, e = .returned v ∧ IntsIn w' v l ∧ (∀ b, v.ownBlock = some b → w.heap.size ≤ b ∧ b ∉ F') ∧ At w' base g F' E ∧ (∀ x ∈ F', x ∈ F ∨ w.heap.size ≤ x) ∧ Touch F w w'
/-- A slice of texts. -/
def StrsAt (w : World) (v : Value) (l : List ByteArray) : Prop :=
  (l = [] ∧ ∃ a c, v = .slice a 0 c) ∨ ∃ b off cap, v = .slice (some ⟨b, off, none⟩) l.length cap ∧ l.length ≤ cap ∧ cap ≤ maxLen ∧ b < w.heap.size ∧ ∀ i x, l[i]? = some x → w.cell? ⟨b, off + i, none⟩ = some (.string x)
def StrsEnd (At : Lies) (base g : Nat) (F : List Nat) (w : World) (l : List ByteArray) (E : DiskS) (e : Ending) (w' : World) : Prop :=
  ∃ F' v, e = .returned v ∧ StrsAt w' v l ∧ (∀ b, v.ownBlock = some b → w.heap.size ≤ b ∧ b ∉ F') ∧ At w' base g F' E ∧ (∀ x ∈ F', x ∈ F ∨ w.heap.size ≤ x) ∧ Touch F w w'
/-- A made disk. -/
def MadeAt (At : Lies) (base : Nat) (w : World) (c : Nat) (e : Ending) (w' : World) : Prop :=
  ∃ g F, e = .returned (.tuple #[ptr g, .int .i64 0]) ∧ At w' base g F (newS c) ∧ (∀ x ∈ F, w.heap.size ≤ x) ∧ Touch [] w w'
def looseL (l : List FileS) : List Int := l.map (fun f => (f.data.size : Int) - f.synced)
abbrev err (n : Nat) : Value := .int .i64 (n : Nat)

structure DiskApi (At : Lies) : Prop where
  touch : ∀ {w w' : World} {base g : Nat} {F G : List Nat} {D : DiskS}, At w base g F D → Touch G w w' → (∀ x ∈ F, x ∉ G) → At w' base g F D
  low : ∀ {w : World} {base g : Nat} {F : List Nat} {D : DiskS}, At w base g F D → ∀ x ∈ F, base ≤ x ∧ x < w.heap.size
  new_ : ∀ (base c : Nat) (w : World), base ≤ w.heap.size → c ≤ 1048576 → Calls Try.prog 10 #[.int .i64 (c : Nat)] w (MadeAt At base w c)
  create : ∀ {w : World} {base g : Nat} {F : List Nat} {D : DiskS} (n : ByteArray), At w base g F D → ProgOk D → n.size ≤ maxLen →
    Calls Try.prog 20 #[ptr g, .string n] w (EndAt At base g F w (err (createS D n).1) (createS D n).2)
  append : ∀ {w : World} {base g : Nat} {F : List Nat} {D : DiskS} (n s : ByteArray), At w base g F D → ProgOk D → s.size ≤ 1099511627776 → n.size ≤ maxLen →
    Calls Try.prog 21 #[ptr g, .string n, .string s] w (EndAt At base g F w (err (appendS D n s).1) (appendS D n s).2)
  read : ∀ {w : World} {base g : Nat} {F : List Nat} {D : DiskS} (n : ByteArray) (a k : Int), At w base g F D → ProgOk D → D.count ≤ 1099511627776 → (Lit.int .i64 a).wf = true → (Lit.int .i64 k).wf = true → n.size ≤ maxLen →
    Calls Try.prog 18 #[ptr g, .string n, .int .i64 a, .int .i64 k] w (EndAt At base g F w (.tuple #[.string (readS D n a k).1, err (readS D n a k).2.1]) (readS D n a k).2.2)
  sync : ∀ {w : World} {base g : Nat} {F : List Nat} {D : DiskS} (n : ByteArray), At w base g F D → ProgOk D → n.size ≤ maxLen →
    Calls Try.prog 22 #[ptr g, .string n] w (EndAt At base g F w (err (syncS D n).1) (syncS D n).2)
  rename : ∀ {w : World} {base g : Nat} {F : List Nat} {D : DiskS} (n m : ByteArray), At w base g F D → ProgOk D → m.size ≤ maxLen → n.size ≤ maxLen →
    Calls Try.prog 23 #[ptr g, .string n, .string m] w (EndAt At base g F w (err (renameS D n m).1) (renameS D n m).2)
  delete : ∀ {w : World} {base g : Nat} {F : List Nat} {D : DiskS} (n : ByteArray), At w base g F D → ProgOk D → n.size ≤ maxLen →
    Calls Try.prog 24 #[ptr g, .string n] w (EndAt At base g F w (err (deleteS D n).1) (deleteS D n).2)
  size : ∀ {w : World} {base g : Nat} {F : List Nat} {D : DiskS} (n : ByteArray), At w base g F D → ProgOk D → n.size ≤ maxLen →
    Calls Try.prog 19 #[ptr g, .string n] w (EndAt At base g F w (.tuple #[.int .i64 ((sizeS D n).1 : Nat), err (sizeS D n).2]) D)
  names : ∀ {w : World} {base g : Nat} {F : List Nat} {D : DiskS}, At w base g F D → ProgOk D →
    Calls Try.prog 25 #[ptr g] w (StrsEnd At base g F w (D.l.map FileS.name) D)
  unsynced : ∀ {w : World} {base g : Nat} {F : List Nat} {D : DiskS}, At w base g F D → ProgOk D →
    Calls Try.prog 26 #[ptr g] w (IntsEnd At base g F w (looseL D.l) D)
  free : ∀ {w : World} {base g : Nat} {F : List Nat} {D : DiskS}, At w base g F D → ProgOk D →
    Calls Try.prog 27 #[ptr g] w (EndAt At base g F w (.int .i64 ((D.cap : Int) - (usedS D.l : Nat))) D)
  reads : ∀ {w : World} {base g : Nat} {F : List Nat} {D : DiskS}, At w base g F D → ProgOk D →
    Calls Try.prog 28 #[ptr g] w (EndAt At base g F w (.int .i64 (D.count : Nat)) D)
  up : ∀ {w : World} {base g : Nat} {F : List Nat} {D : DiskS}, At w base g F D → ProgOk D →
    Calls Try.prog 30 #[ptr g] w (EndAt At base g F w (.bool (!D.down)) D)
  starts : ∀ {w : World} {base g : Nat} {F : List Nat} {D : DiskS}, At w base g F D → ProgOk D →
    Calls Try.prog 29 #[ptr g] w (EndAt At base g F w (.int .i64 (D.starts : Nat)) D)
  crash : ∀ {w : World} {base g : Nat} {F : List Nat} {D : DiskS} (v : Value) (keep : List Int), At w base g F D → ProgOk D → IntsIn w v keep → (∀ b, v.ownBlock = some b → b ∉ F) → keep.length ≤ 1048576 →
    Calls Try.prog 31 #[ptr g, v] w (EndAt At base g F w (err (crashS D keep).1) (crashS D keep).2)
  start : ∀ {w : World} {base g : Nat} {F : List Nat} {D : DiskS}, At w base g F D → ProgOk D → D.starts ≤ 1099511627776 →
    Calls Try.prog 16 #[ptr g] w (EndAt At base g F w (err (startS D).1) (startS D).2)
  fail : ∀ {w : World} {base g : Nat} {F : List Nat} {D : DiskS} (n : Int) (v : Value) (keep : List Int), At w base g F D → ProgOk D → (Lit.int .i64 n).wf = true → IntsIn w v keep → (∀ b, v.ownBlock = some b → b ∉ F) → keep.length ≤ 1048576 →
    Calls Try.prog 32 #[ptr g, .int .i64 n, v] w (EndAt At base g F w (err (failP D n keep).1) (failP D n keep).2)
  spoil : ∀ {w : World} {base g : Nat} {F : List Nat} {D : DiskS} (n : ByteArray) (a : Int) (s : ByteArray), At w base g F D → ProgOk D → (Lit.int .i64 a).wf = true → s.size ≤ 1048576 → n.size ≤ maxLen →
    Calls Try.prog 33 #[ptr g, .string n, .int .i64 a, .string s] w (EndAt At base g F w (err (spoilS D n a s).1) (spoilS D n a s).2)
  cut : ∀ {w : World} {base g : Nat} {F : List Nat} {D : DiskS} (n : ByteArray) (k : Int), At w base g F D → ProgOk D → (Lit.int .i64 k).wf = true → n.size ≤ maxLen →
    Calls Try.prog 34 #[ptr g, .string n, .int .i64 k] w (EndAt At base g F w (err (cutS D n k).1) (cutS D n k).2)

/-- One disk is alive, and nothing that was there at the call has changed. -/
def Live (At : Lies) (w0 : World) (g : Nat) (D : DiskS) (w : World) : Prop := ∃ F, At w w0.heap.size g F D ∧ Touch [] w0 w
def LiveEnd (At : Lies) (w0 : World) (g : Nat) (v : Value) (E : DiskS) (e : Ending) (w' : World) : Prop := e = .returned v ∧ Live At w0 g E w'
theorem Live.below {At : Lies} {w0 w : World} {g : Nat} {D : DiskS} (h : Live At w0 g D w) : Below w0.heap.size w0 w := by
  obtain ⟨F, _, ht⟩ := h
  exact ht.below (Nat.le_refl _) (fun x hx => by cases hx)
theorem ints_one (w : World) (x : Int) : IntsAt (w.alloc (.cells #[.int .i64 x] 3)) (.slice (some ⟨w.heap.size, 0, none⟩) 1 1) [x] :=
  Or.inr ⟨w.heap.size, 0, 1, _, (0, 0), rfl, Nat.le_refl _, by decide, heap_alloc_new w _, fun i y hy => by
    cases i with
    | zero => simpa using hy
    | succ i => simp at hy⟩
theorem ints_none (w : World) : IntsAt w (.slice none 0 0) [] := Or.inl ⟨rfl, none, 0, rfl⟩
section
variable {At : Lies} (api : DiskApi At)
include api
theorem EndAt.live {w0 w w' : World} {g : Nat} {F : List Nat} {D E : DiskS} {v : Value} {e : Ending} (h : At w w0.heap.size g F D) (ht : Touch [] w0 w) (he : EndAt At w0.heap.size g F w v E e w') : LiveEnd At w0 g v E e w' := by
  obtain ⟨F', h1, h2, h3, h4⟩ := he
  exact ⟨h1, F', h2, ht.trans h4 (fun x hx => Or.inr (api.low h x hx).1)⟩
theorem Live.alloc {w0 w : World} {g : Nat} {D : DiskS} (h : Live At w0 g D w) (o : Obj) : Live At w0 g D (w.alloc o) := by
  obtain ⟨F, h1, ht⟩ := h
  exact ⟨F, api.touch h1 ((Touch.refl [] w).alloc o) (fun _ _ => by simp), ht.alloc o⟩
theorem Live.drewN {w0 w : World} {g : Nat} {D : DiskS} (h : Live At w0 g D w) (n : Nat) : Live At w0 g D (w.drewN n) := by
  obtain ⟨F, h1, ht⟩ := h
  exact ⟨F, api.touch h1 ((Touch.refl [] w).drewN n) (fun _ _ => by simp), ht.drewN n⟩

/-- The calls, of one disk that is alive. -/
theorem new_l (w0 : World) (c : Nat) (hc : c ≤ 1048576) : Calls Try.prog 10 #[.int .i64 (c : Nat)] w0 (fun e w' => ∃ g, e = .returned (.tuple #[ptr g, .int .i64 0]) ∧ Live At w0 g (newS c) w') := by
  refine (api.new_ w0.heap.size c w0 (Nat.le_refl _) hc).mono ?_
  rintro e w' ⟨g, F, h1, h2, _, h4⟩
  exact ⟨g, h1, F, h2, h4⟩
section
variable {w0 w : World} {g : Nat} {D : DiskS}
theorem create_l (n : ByteArray) (h : Live At w0 g D w) (ho : RefOk D) (hn : n.size ≤ maxLen) {r : Nat} (hr : (createS D n).1 = r) {E : DiskS} (hE : (createS D n).2 = E) :
    Calls Try.prog 20 #[ptr g, .string n] w (LiveEnd At w0 g (.int .i64 (r : Nat)) E) := by
  obtain ⟨F, h1, ht⟩ := h
  subst hr hE
  exact (api.create n h1 ho.prog hn).mono fun e w' he => EndAt.live api h1 ht he
theorem append_l (n s : ByteArray) (h : Live At w0 g D w) (ho : RefOk D) (hs : s.size ≤ 1099511627776) {r : Nat} (hr : (appendS D n s).1 = r) {E : DiskS} (hE : (appendS D n s).2 = E) (hnm : n.size ≤ maxLen := by decide) :
    Calls Try.prog 21 #[ptr g, .string n, .string s] w (LiveEnd At w0 g (.int .i64 (r : Nat)) E) := by
  obtain ⟨F, h1, ht⟩ := h
  subst hr hE
  exact (api.append n s h1 ho.prog hs hnm).mono fun e w' he => EndAt.live api h1 ht he
theorem read_l (n : ByteArray) (a k : Int) (h : Live At w0 g D w) (ho : RefOk D) (hc : D.count ≤ 1099511627776) (ha : (Lit.int .i64 a).wf = true) (hk : (Lit.int .i64 k).wf = true) {t : ByteArray} (h1 : (readS D n a k).1 = t) {r : Nat} (hr : (readS D n a k).2.1 = r) {E : DiskS} (hE : (readS D n a k).2.2 = E) (hnm : n.size ≤ maxLen := by decide) :
    Calls Try.prog 18 #[ptr g, .string n, .int .i64 a, .int .i64 k] w (LiveEnd At w0 g (.tuple #[.string t, .int .i64 (r : Nat)]) E) := by
  obtain ⟨F, h2, ht⟩ := h
  subst h1 hr hE
  exact (api.read n a k h2 ho.prog hc ha hk hnm).mono fun e w' he => EndAt.live api h2 ht he
theorem sync_l (n : ByteArray) (h : Live At w0 g D w) (ho : RefOk D) {r : Nat} (hr : (syncS D n).1 = r) {E : DiskS} (hE : (syncS D n).2 = E) (hnm : n.size ≤ maxLen := by decide) :
    Calls Try.prog 22 #[ptr g, .string n] w (LiveEnd At w0 g (.int .i64 (r : Nat)) E) := by
  obtain ⟨F, h1, ht⟩ := h
  subst hr hE
  exact (api.sync n h1 ho.prog hnm).mono fun e w' he => EndAt.live api h1 ht he
theorem size_l (n : ByteArray) (h : Live At w0 g D w) (ho : RefOk D) {m r : Nat} (hm : (sizeS D n).1 = m) (hr : (sizeS D n).2 = r) (hnm : n.size ≤ maxLen := by decide) :
    Calls Try.prog 19 #[ptr g, .string n] w (LiveEnd At w0 g (.tuple #[.int .i64 (m : Nat), .int .i64 (r : Nat)]) D) := by
  obtain ⟨F, h1, ht⟩ := h
  subst hm hr
  exact (api.size n h1 ho.prog hnm).mono fun e w' he => EndAt.live api h1 ht he
theorem free_l (h : Live At w0 g D w) (ho : RefOk D) {m : Int} (hm : (D.cap : Int) - (usedS D.l : Nat) = m) : Calls Try.prog 27 #[ptr g] w (LiveEnd At w0 g (.int .i64 m) D) := by
  obtain ⟨F, h1, ht⟩ := h
  subst hm
  exact (api.free h1 ho.prog).mono fun e w' he => EndAt.live api h1 ht he
theorem reads_l (h : Live At w0 g D w) (ho : RefOk D) {m : Nat} (hm : D.count = m) : Calls Try.prog 28 #[ptr g] w (LiveEnd At w0 g (.int .i64 (m : Nat)) D) := by
  obtain ⟨F, h1, ht⟩ := h
  subst hm
  exact (api.reads h1 ho.prog).mono fun e w' he => EndAt.live api h1 ht he
theorem up_l (h : Live At w0 g D w) (ho : RefOk D) {b : Bool} (hb : (!D.down) = b) : Calls Try.prog 30 #[ptr g] w (LiveEnd At w0 g (.bool b) D) := by
  obtain ⟨F, h1, ht⟩ := h
  subst hb
  exact (api.up h1 ho.prog).mono fun e w' he => EndAt.live api h1 ht he
theorem start_l (h : Live At w0 g D w) (ho : RefOk D) (hs : D.starts ≤ 1099511627776) {r : Nat} (hr : (startS D).1 = r) {E : DiskS} (hE : (startS D).2 = E) : Calls Try.prog 16 #[ptr g] w (LiveEnd At w0 g (.int .i64 (r : Nat)) E) := by
  obtain ⟨F, h1, ht⟩ := h
  subst hr hE
  exact (api.start h1 ho.prog hs).mono fun e w' he => EndAt.live api h1 ht he
theorem spoil_l (n : ByteArray) (a : Int) (s : ByteArray) (h : Live At w0 g D w) (ho : RefOk D) (ha : (Lit.int .i64 a).wf = true) (hs : s.size ≤ 1048576) {r : Nat} (hr : (spoilS D n a s).1 = r) {E : DiskS} (hE : (spoilS D n a s).2 = E) (hnm : n.size ≤ maxLen := by decide) :
    Calls Try.prog 33 #[ptr g, .string n, .int .i64 a, .string s] w (LiveEnd At w0 g (.int .i64 (r : Nat)) E) := by
  obtain ⟨F, h1, ht⟩ := h
  subst hr hE
  exact (api.spoil n a s h1 ho.prog ha hs hnm).mono fun e w' he => EndAt.live api h1 ht he
theorem cut_l (n : ByteArray) (k : Int) (h : Live At w0 g D w) (ho : RefOk D) (hk : (Lit.int .i64 k).wf = true) {r : Nat} (hr : (cutS D n k).1 = r) {E : DiskS} (hE : (cutS D n k).2 = E) (hnm : n.size ≤ maxLen := by decide) :
    Calls Try.prog 34 #[ptr g, .string n, .int .i64 k] w (LiveEnd At w0 g (.int .i64 (r : Nat)) E) := by
  obtain ⟨F, h1, ht⟩ := h
  subst hr hE
  exact (api.cut n k h1 ho.prog hk hnm).mono fun e w' he => EndAt.live api h1 ht he
theorem crash_one (x : Int) (h : Live At w0 g D w) (ho : RefOk D) {r : Nat} (hr : (crashS D [x]).1 = r) {E : DiskS} (hE : (crashS D [x]).2 = E) :
    Calls Try.prog 31 #[ptr g, .slice (some ⟨w.heap.size, 0, none⟩) 1 1] (w.alloc (.cells #[.int .i64 x] 3)) (LiveEnd At w0 g (.int .i64 (r : Nat)) E) := by
  obtain ⟨F, h1, ht⟩ := h
  subst hr hE
  have h2 := api.touch h1 ((Touch.refl [] w).alloc (.cells #[.int .i64 x] 3)) (fun _ _ => by simp)
  exact (api.crash _ [x] h2 ho.prog (ints_one w x).in_ (fun b hb hm => by
    obtain rfl : w.heap.size = b := by simpa [Value.ownBlock] using hb
    have := (api.low h1 _ hm).2
    omega) (Nat.le_of_lt (by decide : 1 < 1048576))).mono fun e w' he => EndAt.live api h2 (ht.alloc _) he
theorem crash_none (h : Live At w0 g D w) (ho : RefOk D) {r : Nat} (hr : (crashS D []).1 = r) {E : DiskS} (hE : (crashS D []).2 = E) :
    Calls Try.prog 31 #[ptr g, .slice none 0 0] w (LiveEnd At w0 g (.int .i64 (r : Nat)) E) := by
  obtain ⟨F, h1, ht⟩ := h
  subst hr hE
  exact (api.crash _ [] h1 ho.prog (ints_none w).in_ (fun b hb => by cases hb) (by decide)).mono fun e w' he => EndAt.live api h1 ht he
theorem fail_one (n x : Int) (h : Live At w0 g D w) (ho : RefOk D) (hn : (Lit.int .i64 n).wf = true) (hb : n ≤ 1099511627776) {r : Nat} (hr : (failS D n [x]).1 = r) {E : DiskS} (hE : (failS D n [x]).2 = E) :
    Calls Try.prog 32 #[ptr g, .int .i64 n, .slice (some ⟨w.heap.size, 0, none⟩) 1 1] (w.alloc (.cells #[.int .i64 x] 3)) (LiveEnd At w0 g (.int .i64 (r : Nat)) E) := by
  obtain ⟨F, h1, ht⟩ := h
  rw [← failP_eq hb] at hr hE
  subst hr hE
  have h2 := api.touch h1 ((Touch.refl [] w).alloc (.cells #[.int .i64 x] 3)) (fun _ _ => by simp)
  exact (api.fail n _ [x] h2 ho.prog hn (ints_one w x).in_ (fun b hb hm => by
    obtain rfl : w.heap.size = b := by simpa [Value.ownBlock] using hb
    have := (api.low h1 _ hm).2
    omega) (Nat.le_of_lt (by decide : 1 < 1048576))).mono fun e w' he => EndAt.live api h2 (ht.alloc _) he
theorem fail_none (n : Int) (h : Live At w0 g D w) (ho : RefOk D) (hn : (Lit.int .i64 n).wf = true) (hb : n ≤ 1099511627776) {r : Nat} (hr : (failS D n []).1 = r) {E : DiskS} (hE : (failS D n []).2 = E) :
    Calls Try.prog 32 #[ptr g, .int .i64 n, .slice none 0 0] w (LiveEnd At w0 g (.int .i64 (r : Nat)) E) := by
  obtain ⟨F, h1, ht⟩ := h
  rw [← failP_eq hb] at hr hE
  subst hr hE
  exact (api.fail n _ [] h1 ho.prog hn (ints_none w).in_ (fun b hb => by cases hb) (by decide)).mono fun e w' he => EndAt.live api h1 ht he
end
end

/-- A bound that can be reckoned. -/
def okB (D : DiskS) : Bool := D.l.all (fun f => decide (f.synced ≤ f.data.size) && decide (f.data.size ≤ 1048576)) && decide (D.l.length ≤ 400) && decide (usedS D.l ≤ 1048576) && decide (D.cap ≤ 1048576) && decide (D.fails ≤ 1099511627777)
theorem ok_of {D : DiskS} (h : okB D = true) : RefOk D := by
  unfold okB at h
  simp only [Bool.and_eq_true, decide_eq_true_eq, List.all_eq_true] at h
  exact ⟨h.1.1.1.1, h.1.1.1.2, h.1.1.2, h.1.2, h.2⟩
end Go.Proofs.Ytfpimebamkmjoaa
