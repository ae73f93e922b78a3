/- DiskApi, DiskWf, DiskProg, TfMem, NamesRef -/
import Derived.Test.YtedbgimmbapfaaaGreatPk06
import Derived.Test.YtedbgimmbapfaaaGreatPk09
import Derived.Test.YtedbgimmbapfaaaGreatPk05
import Derived.Test.YtedbgimmbapfaaaGreatPk01
import Derived.WalkArith
/- DiskApi -/
namespace Go.Proofs.YtedbgimmbapfaaaGreat
open Go.RowKit
set_option linter.unusedVariables false

/-- What the sizes of a disk's files are bounded by, whatever failure is set. -/
structure ProgOk (D : DiskS) : Prop where
  sizes : ∀ f ∈ D.l, f.synced ≤ f.data.size ∧ f.data.size ≤ 1048576
  many : D.l.length ≤ 400
  used : usedS D.l ≤ 1048576
  cap : D.cap ≤ 1048576
theorem RefOk.prog {D : DiskS} (h : RefOk D) : ProgOk D := ⟨h.sizes, h.many, h.used, h.cap⟩
/-- A failure is set: the number as it is. -/
def failP (D : DiskS) (n : Int) (keep : List Int) : Nat × DiskS := if D.down then (61, D) else if n < 0 then (2, D) else (0, { D with fails := n.toNat + 1, keep := keep })
theorem failP_eq {D : DiskS} {n : Int} {keep : List Int} (h : n ≤ 1099511627776) : failP D n keep = failS D n keep := by
  unfold failP failS
  rw [Nat.min_eq_left (by omega)]

/-- How a disk lies in memory: the world, from which block on it is the call's own, its block, all its blocks, what it is. -/
abbrev Lies := World → Nat → Nat → List Nat → DiskS → Prop
abbrev ptr (g : Nat) : Value := .pointer (some ⟨g, 0, none⟩)

/-- A call's end: the answer, and what the disk is then. -/
def EndAt (At : Lies) (base g : Nat) (F : List Nat) (w : World) (v : Value) (E : DiskS) (e : Ending) (w' : World) : Prop :=
  ∃ F', e = .returned v ∧ At w' base g F' E ∧ (∀ x ∈ F', x ∈ F ∨ w.heap.size ≤ x) ∧ Touch F w w'
/-- A call's end that tells a list of numbers: new memory, or none. -/
def IntsEnd (At : Lies) (base g : Nat) (F : List Nat) (w : World) (l : List Int) (E : DiskS) (e : Ending) (w' : World) : Prop :=
  ∃ F' v, e = .returned v ∧ IntsIn w' v l ∧ (∀ b, v.ownBlock = some b → w.heap.size ≤ b ∧ b ∉ F') ∧ At w' base g F' E ∧ (∀ x ∈ F', x ∈ F ∨ w.heap.size ≤ x) ∧ Touch F w w'
/-- A slice of texts. -/
def StrsAt (w : World) (v : Value) (l : List ByteArray) : Prop :=
  (l = [] ∧ ∃ a c, v = .slice a 0 c) ∨ ∃ b off cap, v = .slice (some ⟨b, off, none⟩) l.length cap ∧ l.length ≤ cap ∧ cap ≤ maxLen ∧ b < w.heap.size ∧ ∀ i x, l[i]? = some x → w.cell? ⟨b, off + i, none⟩ = some (.string x)
def StrsEnd (At : Lies) (base g : Nat) (F : List Nat) (w : World) (l : List ByteArray) (E : DiskS) (e : Ending) (w' : World) : Prop :=
  ∃ F' v, e = .returned v ∧ StrsAt w' v l ∧ (∀ b, v.ownBlock = some b → w.heap.size ≤ b ∧ b ∉ F') ∧ At w' base g F' E ∧ (∀ x ∈ F', x ∈ F ∨ w.heap.size ≤ x) ∧ Touch F w w'
/-- A made disk. -/
def MadeAt (At : Lies) (base : Nat) (w : World) (c : Nat) (e : Ending) (w' : World) : Prop :=
  ∃ g F, e = .returned (.tuple #[ptr g, .int .i64 0]) ∧ At w' base g F (newS c) ∧ (∀ x ∈ F, w.heap.size ≤ x) ∧ Touch [] w w'
def looseL (l : List FileS) : List Int := l.map (fun f => (f.data.size : Int) - f.synced)
abbrev err (n : Nat) : Value := .int .i64 (n : Nat)

structure DiskApi (At : Lies) : Prop where
  touch : ∀ {w w' : World} {base g : Nat} {F G : List Nat} {D : DiskS}, At w base g F D → Touch G w w' → (∀ x ∈ F, x ∉ G) → At w' base g F D
  low : ∀ {w : World} {base g : Nat} {F : List Nat} {D : DiskS}, At w base g F D → ∀ x ∈ F, base ≤ x ∧ x < w.heap.size
  new_ : ∀ (base c : Nat) (w : World), base ≤ w.heap.size → c ≤ 1048576 → Calls Tryz.prog 13 #[.int .i64 (c : Nat)] w (MadeAt At base w c)
  create : ∀ {w : World} {base g : Nat} {F : List Nat} {D : DiskS} (n : ByteArray), At w base g F D → ProgOk D → n.size ≤ maxLen →
    Calls Tryz.prog 50 #[ptr g, .string n] w (EndAt At base g F w (err (createS D n).1) (createS D n).2)
  append : ∀ {w : World} {base g : Nat} {F : List Nat} {D : DiskS} (n s : ByteArray), At w base g F D → ProgOk D → s.size ≤ 1099511627776 → n.size ≤ maxLen →
    Calls Tryz.prog 52 #[ptr g, .string n, .string s] w (EndAt At base g F w (err (appendS D n s).1) (appendS D n s).2)
  read : ∀ {w : World} {base g : Nat} {F : List Nat} {D : DiskS} (n : ByteArray) (a k : Int), At w base g F D → ProgOk D → D.count ≤ 1099511627776 → (Lit.int .i64 a).wf = true → (Lit.int .i64 k).wf = true → n.size ≤ maxLen →
    Calls Tryz.prog 27 #[ptr g, .string n, .int .i64 a, .int .i64 k] w (EndAt At base g F w (.tuple #[.string (readS D n a k).1, err (readS D n a k).2.1]) (readS D n a k).2.2)
  sync : ∀ {w : World} {base g : Nat} {F : List Nat} {D : DiskS} (n : ByteArray), At w base g F D → ProgOk D → n.size ≤ maxLen →
    Calls Tryz.prog 60 #[ptr g, .string n] w (EndAt At base g F w (err (syncS D n).1) (syncS D n).2)
  rename : ∀ {w : World} {base g : Nat} {F : List Nat} {D : DiskS} (n m : ByteArray), At w base g F D → ProgOk D → m.size ≤ maxLen → n.size ≤ maxLen →
    Calls Tryz.prog 88 #[ptr g, .string n, .string m] w (EndAt At base g F w (err (renameS D n m).1) (renameS D n m).2)
  delete : ∀ {w : World} {base g : Nat} {F : List Nat} {D : DiskS} (n : ByteArray), At w base g F D → ProgOk D → n.size ≤ maxLen →
    Calls Tryz.prog 63 #[ptr g, .string n] w (EndAt At base g F w (err (deleteS D n).1) (deleteS D n).2)
  size : ∀ {w : World} {base g : Nat} {F : List Nat} {D : DiskS} (n : ByteArray), At w base g F D → ProgOk D → n.size ≤ maxLen →
    Calls Tryz.prog 26 #[ptr g, .string n] w (EndAt At base g F w (.tuple #[.int .i64 ((sizeS D n).1 : Nat), err (sizeS D n).2]) D)
  names : ∀ {w : World} {base g : Nat} {F : List Nat} {D : DiskS}, At w base g F D → ProgOk D →
    Calls Tryz.prog 61 #[ptr g] w (StrsEnd At base g F w (D.l.map FileS.name) D)
  free : ∀ {w : World} {base g : Nat} {F : List Nat} {D : DiskS}, At w base g F D → ProgOk D →
    Calls Tryz.prog 18 #[ptr g] w (EndAt At base g F w (.int .i64 ((D.cap : Int) - (usedS D.l : Nat))) D)
  up : ∀ {w : World} {base g : Nat} {F : List Nat} {D : DiskS}, At w base g F D → ProgOk D →
    Calls Tryz.prog 43 #[ptr g] w (EndAt At base g F w (.bool (!D.down)) D)
  starts : ∀ {w : World} {base g : Nat} {F : List Nat} {D : DiskS}, At w base g F D → ProgOk D →
    Calls Tryz.prog 36 #[ptr g] w (EndAt At base g F w (.int .i64 (D.starts : Nat)) D)
  crash : ∀ {w : World} {base g : Nat} {F : List Nat} {D : DiskS} (v : Value) (keep : List Int), At w base g F D → ProgOk D → IntsIn w v keep → (∀ b, v.ownBlock = some b → b ∉ F) → keep.length ≤ 1048576 →
    Calls Tryz.prog 14 #[ptr g, v] w (EndAt At base g F w (err (crashS D keep).1) (crashS D keep).2)
  upq : ∀ {w : World} {base g : Nat} {F : List Nat} {D : DiskS}, At w base g F D → Calls Tryz.prog 43 #[ptr g] w fun e w' => e = .returned (.bool (!D.down)) ∧ w = w'
  startsq : ∀ {w : World} {base g : Nat} {F : List Nat} {D : DiskS}, At w base g F D → Calls Tryz.prog 36 #[ptr g] w fun e w' => e = .returned (.int .i64 (D.starts : Nat)) ∧ w = w'
  sizeq : ∀ {w : World} {base g : Nat} {F : List Nat} {D : DiskS} (n : ByteArray), At w base g F D → ProgOk D → n.size ≤ maxLen → Calls Tryz.prog 26 #[ptr g, .string n] w fun e w' => e = .returned (.tuple #[.int .i64 ((sizeS D n).1 : Nat), err (sizeS D n).2]) ∧ w = w'
  rise : ∀ {w : World} {base g : Nat} {F : List Nat} {D : DiskS}, At w base g F D → D.l.Pairwise (fun f g => lessB f.name g.name = true) ∧ ∀ f ∈ D.l, nameB f.name = true

/-- One disk is alive, and nothing that was there at the call has changed. -/
def Live (At : Lies) (w0 : World) (g : Nat) (D : DiskS) (w : World) : Prop := ∃ F, At w w0.heap.size g F D ∧ Touch [] w0 w
def LiveEnd (At : Lies) (w0 : World) (g : Nat) (v : Value) (E : DiskS) (e : Ending) (w' : World) : Prop := e = .returned v ∧ Live At w0 g E w'
theorem Live.below {At : Lies} {w0 w : World} {g : Nat} {D : DiskS} (h : Live At w0 g D w) : Below w0.heap.size w0 w := by
  obtain ⟨F, _, ht⟩ := h
  exact ht.below (Nat.le_refl _) (fun x hx => by cases hx)
theorem ints_one (w : World) (x : Int) : IntsAt (w.alloc (.cells #[.int .i64 x] 3)) (.slice (some ⟨w.heap.size, 0, none⟩) 1 1) [x] :=
  Or.inr ⟨w.heap.size, 0, 1, _, (0, 0), rfl, Nat.le_refl _, by decide, heap_alloc_new w _, fun i y hy => by
    cases i with
    | zero => simpa using hy
    | succ i => simp at hy⟩
theorem ints_none (w : World) : IntsAt w (.slice none 0 0) [] := Or.inl ⟨rfl, none, 0, rfl⟩
section
variable {At : Lies} (api : DiskApi At)
include api
theorem EndAt.live {w0 w w' : World} {g : Nat} {F : List Nat} {D E : DiskS} {v : Value} {e : Ending} (h : At w w0.heap.size g F D) (ht : Touch [] w0 w) (he : EndAt At w0.heap.size g F w v E e w') : LiveEnd At w0 g v E e w' := by
  obtain ⟨F', h1, h2, h3, h4⟩ := he
  exact ⟨h1, F', h2, ht.trans h4 (fun x hx => Or.inr (api.low h x hx).1)⟩
theorem Live.alloc {w0 w : World} {g : Nat} {D : DiskS} (h : Live At w0 g D w) (o : Obj) : Live At w0 g D (w.alloc o) := by
  obtain ⟨F, h1, ht⟩ := h
  exact ⟨F, api.touch h1 ((Touch.refl [] w).alloc o) (fun _ _ => by simp), ht.alloc o⟩
theorem Live.drewN {w0 w : World} {g : Nat} {D : DiskS} (h : Live At w0 g D w) (n : Nat) : Live At w0 g D (w.drewN n) := by
  obtain ⟨F, h1, ht⟩ := h
  exact ⟨F, api.touch h1 ((Touch.refl [] w).drewN n) (fun _ _ => by simp), ht.drewN n⟩

/-- The calls, of one disk that is alive. -/
theorem new_l (w0 : World) (c : Nat) (hc : c ≤ 1048576) : Calls Tryz.prog 13 #[.int .i64 (c : Nat)] w0 (fun e w' => ∃ g, e = .returned (.tuple #[ptr g, .int .i64 0]) ∧ Live At w0 g (newS c) w') := by
  refine (api.new_ w0.heap.size c w0 (Nat.le_refl _) hc).mono ?_
  rintro e w' ⟨g, F, h1, h2, _, h4⟩
  exact ⟨g, h1, F, h2, h4⟩
section
variable {w0 w : World} {g : Nat} {D : DiskS}
theorem create_l (n : ByteArray) (h : Live At w0 g D w) (ho : RefOk D) (hn : n.size ≤ maxLen) {r : Nat} (hr : (createS D n).1 = r) {E : DiskS} (hE : (createS D n).2 = E) :
    Calls Tryz.prog 50 #[ptr g, .string n] w (LiveEnd At w0 g (.int .i64 (r : Nat)) E) := by
  obtain ⟨F, h1, ht⟩ := h
  subst hr hE
  exact (api.create n h1 ho.prog hn).mono fun e w' he => EndAt.live api h1 ht he
theorem append_l (n s : ByteArray) (h : Live At w0 g D w) (ho : RefOk D) (hs : s.size ≤ 1099511627776) {r : Nat} (hr : (appendS D n s).1 = r) {E : DiskS} (hE : (appendS D n s).2 = E) (hnm : n.size ≤ maxLen := by decide) :
    Calls Tryz.prog 52 #[ptr g, .string n, .string s] w (LiveEnd At w0 g (.int .i64 (r : Nat)) E) := by
  obtain ⟨F, h1, ht⟩ := h
  subst hr hE
  exact (api.append n s h1 ho.prog hs hnm).mono fun e w' he => EndAt.live api h1 ht he
theorem read_l (n : ByteArray) (a k : Int) (h : Live At w0 g D w) (ho : RefOk D) (hc : D.count ≤ 1099511627776) (ha : (Lit.int .i64 a).wf = true) (hk : (Lit.int .i64 k).wf = true) {t : ByteArray} (h1 : (readS D n a k).1 = t) {r : Nat} (hr : (readS D n a k).2.1 = r) {E : DiskS} (hE : (readS D n a k).2.2 = E) (hnm : n.size ≤ maxLen := by decide) :
    Calls Tryz.prog 27 #[ptr g, .string n, .int .i64 a, .int .i64 k] w (LiveEnd At w0 g (.tuple #[.string t, .int .i64 (r : Nat)]) E) := by
  obtain ⟨F, h2, ht⟩ := h
  subst h1 hr hE
  exact (api.read n a k h2 ho.prog hc ha hk hnm).mono fun e w' he => EndAt.live api h2 ht he
theorem sync_l (n : ByteArray) (h : Live At w0 g D w) (ho : RefOk D) {r : Nat} (hr : (syncS D n).1 = r) {E : DiskS} (hE : (syncS D n).2 = E) (hnm : n.size ≤ maxLen := by decide) :
    Calls Tryz.prog 60 #[ptr g, .string n] w (LiveEnd At w0 g (.int .i64 (r : Nat)) E) := by
  obtain ⟨F, h1, ht⟩ := h
  subst hr hE
  exact (api.sync n h1 ho.prog hnm).mono fun e w' he => EndAt.live api h1 ht he
theorem size_l (n : ByteArray) (h : Live At w0 g D w) (ho : RefOk D) {m r : Nat} (hm : (sizeS D n).1 = m) (hr : (sizeS D n).2 = r) (hnm : n.size ≤ maxLen := by decide) :
    Calls Tryz.prog 26 #[ptr g, .string n] w (LiveEnd At w0 g (.tuple #[.int .i64 (m : Nat), .int .i64 (r : Nat)]) D) := by
  obtain ⟨F, h1, ht⟩ := h
  subst hm hr
  exact (api.size n h1 ho.prog hnm).mono fun e w' he => EndAt.live api h1 ht he
theorem free_l (h : Live At w0 g D w) (ho : RefOk D) {m : Int} (hm : (D.cap : Int) - (usedS D.l : Nat) = m) : Calls Tryz.prog 18 #[ptr g] w (LiveEnd At w0 g (.int .i64 m) D) := by
  obtain ⟨F, h1, ht⟩ := h
  subst hm
  exact (api.free h1 ho.prog).mono fun e w' he => EndAt.live api h1 ht he
theorem up_l (h : Live At w0 g D w) (ho : RefOk D) {b : Bool} (hb : (!D.down) = b) : Calls Tryz.prog 43 #[ptr g] w (LiveEnd At w0 g (.bool b) D) := by
  obtain ⟨F, h1, ht⟩ := h
  subst hb
  exact (api.up h1 ho.prog).mono fun e w' he => EndAt.live api h1 ht he
theorem crash_one (x : Int) (h : Live At w0 g D w) (ho : RefOk D) {r : Nat} (hr : (crashS D [x]).1 = r) {E : DiskS} (hE : (crashS D [x]).2 = E) :
    Calls Tryz.prog 14 #[ptr g, .slice (some ⟨w.heap.size, 0, none⟩) 1 1] (w.alloc (.cells #[.int .i64 x] 3)) (LiveEnd At w0 g (.int .i64 (r : Nat)) E) := by
  obtain ⟨F, h1, ht⟩ := h
  subst hr hE
  have h2 := api.touch h1 ((Touch.refl [] w).alloc (.cells #[.int .i64 x] 3)) (fun _ _ => by simp)
  exact (api.crash _ [x] h2 ho.prog (ints_one w x).in_ (fun b hb hm => by
    obtain rfl : w.heap.size = b := by simpa [Value.ownBlock] using hb
    have := (api.low h1 _ hm).2
    omega) (Nat.le_of_lt (by decide : 1 < 1048576))).mono fun e w' he => EndAt.live api h2 (ht.alloc _) he
theorem crash_none (h : Live At w0 g D w) (ho : RefOk D) {r : Nat} (hr : (crashS D []).1 = r) {E : DiskS} (hE : (crashS D []).2 = E) :
    Calls Tryz.prog 14 #[ptr g, .slice none 0 0] w (LiveEnd At w0 g (.int .i64 (r : Nat)) E) := by
  obtain ⟨F, h1, ht⟩ := h
  subst hr hE
  exact (api.crash _ [] h1 ho.prog (ints_none w).in_ (fun b hb => by cases hb) (by decide)).mono fun e w' he => EndAt.live api h1 ht he
end
end

/-- A bound that can be reckoned. -/
def okB (D : DiskS) : Bool := D.l.all (fun f => decide (f.synced ≤ f.data.size) && decide (f.data.size ≤ 1048576)) && decide (D.l.length ≤ 400) && decide (usedS D.l ≤ 1048576) && decide (D.cap ≤ 1048576) && decide (D.fails ≤ 1099511627777)
theorem ok_of {D : DiskS} (h : okB D = true) : RefOk D := by
  unfold okB at h
  simp only [Bool.and_eq_true, decide_eq_true_eq, List.all_eq_true] at h
  exact ⟨h.1.1.1.1, h.1.1.1.2, h.1.1.2, h.1.2, h.2⟩
end Go.Proofs.YtedbgimmbapfaaaGreat

/- DiskWf -/
namespace Go.Proofs.YtedbgimmbapfaaaGreat
set_option linter.unusedVariables false

structure Wf (D : DiskS) : Prop where
  synced : ∀ f ∈ D.l, f.synced ≤ f.data.size
  used : usedS D.l ≤ D.cap
  cap : D.cap ≤ 1048576
  many : D.l.length ≤ 400
  fails : D.fails ≤ 1099511627777
theorem Wf.ok {D : DiskS} (h : Wf D) : RefOk D := by
  have h1 := h.used
  have h2 := h.cap
  exact ⟨fun f hf => ⟨h.synced f hf, by have := used_mem hf; omega⟩, h.many, by omega, h.cap, h.fails⟩
theorem used_cons (x : FileS) (l : List FileS) : usedS (x :: l) = x.data.size + usedS l := by unfold usedS; simp
theorem used_append (a b : List FileS) : usedS (a ++ b) = usedS a + usedS b := by unfold usedS; rw [List.map_append, List.sum_append]
theorem used_split (l : List FileS) (k : Nat) : usedS l = usedS (l.take k) + usedS (l.drop k) := by rw [← used_append, List.take_append_drop]
theorem used_lay (l : List FileS) (f : FileS) : usedS (layS l f) = usedS l + f.data.size := by
  unfold layS
  have h := used_split l (aheadS l f.name)
  have h1 : usedS [f] = f.data.size := by rw [used_cons]; rfl
  rw [used_append, used_append, h1]
  omega
theorem lay_length (l : List FileS) (f : FileS) : (layS l f).length = l.length + 1 := by
  unfold layS
  have := ahead_le l f.name
  rw [List.length_append, List.length_append, List.length_take, List.length_drop]
  show min _ _ + 1 + _ = _
  omega
theorem lay_mem {l : List FileS} {f x : FileS} (h : x ∈ layS l f) : x ∈ l ∨ x = f := by
  unfold layS at h
  rw [List.mem_append, List.mem_append] at h
  rcases h with (h | h) | h
  · exact Or.inl (List.mem_of_mem_take h)
  · exact Or.inr (by simpa using h)
  · exact Or.inl (List.mem_of_mem_drop h)
theorem drop_mem {l : List FileS} {i : Nat} {x : FileS} (h : x ∈ dropS l i) : x ∈ l := by
  unfold dropS at h
  rw [List.mem_append] at h
  rcases h with h | h
  · exact List.mem_of_mem_take h
  · exact List.mem_of_mem_drop h
theorem used_drop {l : List FileS} {i : Nat} {f : FileS} (h : l[i]? = some f) : usedS (dropS l i) + f.data.size = usedS l := by
  unfold dropS
  have h1 := used_split l i
  have hi := (List.getElem?_eq_some_iff.1 h).1
  have h2 : l.drop i = f :: l.drop (i + 1) := by
    rw [List.drop_eq_getElem_cons hi]
    congr 1
    rw [List.getElem?_eq_getElem hi] at h
    simpa using h
  rw [h2, used_cons] at h1
  rw [used_append]
  omega
theorem clear_mem {l : List FileS} {n : ByteArray} {x : FileS} (h : x ∈ clearL l n) : x ∈ l := by
  unfold clearL at h
  split at h
  · exact drop_mem h
  · exact h
theorem used_clear (l : List FileS) (n : ByteArray) : usedS (clearL l n) ≤ usedS l := by
  unfold clearL
  split
  · rename_i h
    obtain ⟨f, hf⟩ := some_at h
    have := used_drop hf
    omega
  · exact Nat.le_refl _
theorem crashF_le (f : FileS) (k : Int) : (crashF f k).data.size ≤ f.data.size ∧ (f.synced ≤ f.data.size → (crashF f k).synced ≤ (crashF f k).data.size) := by
  refine ⟨?_, fun h => by rw [crashF_size h]; exact Nat.le_refl _⟩
  show (f.data.extract 0 (staysS f k)).size ≤ _
  rw [ByteArray.size_extract]
  omega
theorem used_map_le : ∀ (l m : List FileS), l.length = m.length → (∀ (i : Nat) x y, l[i]? = some x → m[i]? = some y → x.data.size ≤ y.data.size) → usedS l ≤ usedS m
  | [], [], _, _ => Nat.le_refl _
  | x :: l, y :: m, h, hp => by
    rw [used_cons, used_cons]
    have h1 := hp 0 x y rfl rfl
    have h2 := used_map_le l m (by simpa using h) (fun i a b ha hb => hp (i + 1) a b (by simpa using ha) (by simpa using hb))
    omega
  | [], _ :: _, h, _ => by simp at h
  | _ :: _, [], h, _ => by simp at h
theorem crashL_get (l : List FileS) (keep : List Int) (j : Nat) : (crashL l keep)[j]? = (l[j]?).map (fun f => crashF f (keep.getD j 0)) := by unfold crashL; simp
theorem Wf.next {D : DiskS} (h : Wf D) : Wf (nextS D) := ⟨h.synced, h.used, h.cap, h.many, by show D.fails - 1 ≤ _; have := h.fails; omega⟩
theorem Wf.sink {D : DiskS} (h : Wf D) (keep : List Int) : Wf (sinkS D keep) := by
  have hlen : (crashL D.l keep).length = D.l.length := by unfold crashL; simp
  refine ⟨fun f hf => ?_, ?_, h.cap, by show (crashL D.l keep).length ≤ _; rw [hlen]; exact h.many, Nat.zero_le _⟩
  · obtain ⟨j, hj⟩ := List.getElem?_of_mem (show f ∈ crashL D.l keep from hf)
    rw [crashL_get] at hj
    cases hl : D.l[j]? with
    | none => rw [hl] at hj; cases hj
    | some x =>
      rw [hl] at hj
      obtain rfl : crashF x (keep.getD j 0) = f := by simpa using hj
      exact (crashF_le x _).2 (h.synced x (List.mem_of_getElem? hl))
  · refine Nat.le_trans (used_map_le _ _ hlen (fun i x y hx hy => ?_)) h.used
    have hx' : (crashL D.l keep)[i]? = some x := hx
    rw [crashL_get, hy] at hx'
    obtain rfl : crashF y (keep.getD i 0) = x := by simpa using hx'
    exact (crashF_le y _).1
theorem Wf.setF {D : DiskS} (h : Wf D) {k : Nat} {f : FileS} (hk : D.l[k]? = some f) (g : FileS → FileS) (hg : (g f).synced ≤ (g f).data.size) (hu : usedS D.l + (g f).data.size ≤ D.cap + f.data.size) : Wf { D with l := setF D.l k g } := by
  have hz := used_setF D.l k f g hk
  refine ⟨fun x hx => ?_, by show usedS (Go.Proofs.YtedbgimmbapfaaaGreat.setF D.l k g) ≤ D.cap; omega, h.cap, by show (Go.Proofs.YtedbgimmbapfaaaGreat.setF D.l k g).length ≤ _; rw [setF_length]; exact h.many, h.fails⟩
  rcases mem_setF hx with hx | ⟨f', hf', rfl⟩
  · exact h.synced x hx
  · rw [hk] at hf'
    obtain rfl : f = f' := by simpa using hf'
    exact hg
theorem Wf.done {D E : DiskS} (h : Wf D) (hE : Wf E) : Wf (doneS D E).2 := by
  unfold doneS
  split
  · exact ⟨hE.synced, hE.used, hE.cap, hE.many, by show D.fails - 1 ≤ _; have := h.fails; omega⟩
  · exact h.sink _

theorem wf_new {c : Nat} (hc : c ≤ 1048576) : Wf (newS c) := ⟨fun f hf => (by cases hf), Nat.zero_le _, hc, Nat.zero_le _, Nat.zero_le _⟩
section
variable {D : DiskS} (h : Wf D)
include h
theorem wf_create (n : ByteArray) : Wf (createS D n).2 := by
  unfold createS
  split
  · exact h
  · split
    · exact h
    · split
      · exact h
      · split
        · exact h
        · rename_i hm
          refine h.done ⟨fun f hf => ?_, ?_, h.cap, ?_, h.fails⟩
          · rcases lay_mem hf with hf | rfl
            · exact h.synced f hf
            · exact Nat.zero_le _
          · show usedS (layS _ _) ≤ _
            rw [used_lay]
            exact h.used
          · show (layS _ _).length ≤ _
            rw [lay_length]
            omega
theorem wf_append (n s : ByteArray) : Wf (appendS D n s).2 := by
  unfold appendS
  split
  · exact h
  · split
    · rename_i hf
      split
      · exact h
      · rename_i hu
        obtain ⟨f, hk, _⟩ := find_at hf
        have hE : Wf (appE D n s) := h.setF hk _ (by show f.synced ≤ (f.data ++ s).size; have := h.synced f (List.mem_of_getElem? hk); rw [ByteArray.size_append]; omega) (by show usedS D.l + (f.data ++ s).size ≤ _; rw [ByteArray.size_append]; omega)
        split
        · exact hE.next
        · exact hE.sink _
    · exact h
theorem wf_read (n : ByteArray) (a k : Int) : Wf (readS D n a k).2.2 := by
  have hE : Wf { D with count := D.count + 1 } := ⟨h.synced, h.used, h.cap, h.many, h.fails⟩
  unfold readS
  split
  · exact h
  · dsimp only
    split
    · exact hE
    · split <;> exact hE
theorem wf_sync (n : ByteArray) : Wf (syncS D n).2 := by
  unfold syncS
  split
  · exact h
  · split
    · rename_i hf
      obtain ⟨f, hk, _⟩ := find_at hf
      exact h.done (h.setF hk _ (Nat.le_refl _) (by have := h.used; show usedS D.l + f.data.size ≤ _; omega))
    · exact h
theorem wf_rename (n m : ByteArray) : Wf (renameS D n m).2 := by
  unfold renameS
  split
  · exact h
  · split
    · rename_i hf
      split
      · exact h
      · obtain ⟨f, hk, _⟩ := find_at hf
        refine h.done ?_
        by_cases e : n = m
        · rw [if_pos e]; exact h
        · rw [if_neg e, renameL_at hk]
          have hu := used_drop hk
          have hc := used_clear (dropS D.l (findS D.l n)) m
          have hl := dropS_length hf
          have hcl := clearL_length (dropS D.l (findS D.l n)) m
          have hcap := h.used
          have hmany := h.many
          refine ⟨fun x hx => ?_, ?_, h.cap, ?_, h.fails⟩
          · rcases lay_mem hx with hx | rfl
            · exact h.synced x (drop_mem (clear_mem hx))
            · exact h.synced f (List.mem_of_getElem? hk)
          · show usedS (layS _ _) ≤ _
            rw [used_lay]
            show _ + f.data.size ≤ D.cap
            omega
          · show (layS _ _).length ≤ _
            rw [lay_length]
            omega
    · exact h
theorem wf_delete (n : ByteArray) : Wf (deleteS D n).2 := by
  unfold deleteS
  split
  · exact h
  · split
    · rename_i hf
      obtain ⟨f, hk, _⟩ := find_at hf
      have hu := used_drop hk
      have hl := dropS_length hf
      have hcap := h.used
      have hmany := h.many
      exact h.done ⟨fun x hx => h.synced x (drop_mem hx), by show usedS (dropS _ _) ≤ D.cap; omega, h.cap, by show (dropS _ _).length ≤ _; omega, h.fails⟩
    · exact h
theorem wf_crash (keep : List Int) : Wf (crashS D keep).2 := by
  unfold crashS
  split
  · exact h
  · exact h.sink _
theorem wf_start : Wf (startS D).2 := by
  unfold startS
  split
  · exact ⟨h.synced, h.used, h.cap, h.many, h.fails⟩
  · exact h
theorem wf_fail (n : Int) (keep : List Int) : Wf (failS D n keep).2 := by
  unfold failS
  split
  · exact h
  · split
    · exact h
    · exact ⟨h.synced, h.used, h.cap, h.many, by show min _ _ + 1 ≤ _; omega⟩
theorem wf_spoil (n : ByteArray) (a : Int) (s : ByteArray) : Wf (spoilS D n a s).2 := by
  unfold spoilS
  split
  · rename_i hf
    split
    · exact h
    · obtain ⟨f, hk, _⟩ := find_at hf
      have hz : (overS f.data s a.toNat).size = f.data.size := by
        show (overK f.data s a.toNat s.size).toArray.size = _
        rw [List.size_toArray, overK_length]
      exact h.setF hk _ (by show f.synced ≤ (overS f.data s a.toNat).size; rw [hz]; exact h.synced f (List.mem_of_getElem? hk)) (by show usedS D.l + (overS f.data s a.toNat).size ≤ _; rw [hz]; have := h.used; omega)
  · exact h
theorem wf_cut (n : ByteArray) (k : Int) : Wf (cutS D n k).2 := by
  unfold cutS
  split
  · rename_i hf
    split
    · exact h
    · obtain ⟨f, hk, _⟩ := find_at hf
      have hz : (f.data.extract 0 (min k.toNat f.data.size)).size = min k.toNat f.data.size := by rw [ByteArray.size_extract]; omega
      exact h.setF hk _ (by show min f.synced (min k.toNat f.data.size) ≤ (f.data.extract 0 (min k.toNat f.data.size)).size; rw [hz]; omega) (by show usedS D.l + (f.data.extract 0 (min k.toNat f.data.size)).size ≤ _; rw [hz]; have := h.used; omega)
  · exact h
end
end Go.Proofs.YtedbgimmbapfaaaGreat

/- DiskProg -/
namespace Go.Proofs.YtedbgimmbapfaaaGreat
set_option linter.unusedVariables false

structure WfP (D : DiskS) : Prop where
  synced : ∀ f ∈ D.l, f.synced ≤ f.data.size
  used : usedS D.l ≤ D.cap
  cap : D.cap ≤ 1048576
  many : D.l.length ≤ 400
theorem WfP.ok {D : DiskS} (h : WfP D) : ProgOk D := by
  have h1 := h.used
  have h2 := h.cap
  exact ⟨fun f hf => ⟨h.synced f hf, by have := used_mem hf; omega⟩, h.many, by omega, h.cap⟩
theorem WfP.next {D : DiskS} (h : WfP D) : WfP (nextS D) := ⟨h.synced, h.used, h.cap, h.many⟩
theorem WfP.sink {D : DiskS} (h : WfP D) (keep : List Int) : WfP (sinkS D keep) := by
  have hlen : (crashL D.l keep).length = D.l.length := by unfold crashL; simp
  refine ⟨fun f hf => ?_, ?_, h.cap, by show (crashL D.l keep).length ≤ _; rw [hlen]; exact h.many⟩
  · obtain ⟨j, hj⟩ := List.getElem?_of_mem (show f ∈ crashL D.l keep from hf)
    rw [crashL_get] at hj
    cases hl : D.l[j]? with
    | none => rw [hl] at hj; cases hj
    | some x =>
      rw [hl] at hj
      obtain rfl : crashF x (keep.getD j 0) = f := by simpa using hj
      exact (crashF_le x _).2 (h.synced x (List.mem_of_getElem? hl))
  · refine Nat.le_trans (used_map_le _ _ hlen (fun i x y hx hy => ?_)) h.used
    have hx' : (crashL D.l keep)[i]? = some x := hx
    rw [crashL_get, hy] at hx'
    obtain rfl : crashF y (keep.getD i 0) = x := by simpa using hx'
    exact (crashF_le y _).1
theorem WfP.setF {D : DiskS} (h : WfP D) {k : Nat} {f : FileS} (hk : D.l[k]? = some f) (g : FileS → FileS) (hg : (g f).synced ≤ (g f).data.size) (hu : usedS D.l + (g f).data.size ≤ D.cap + f.data.size) : WfP { D with l := setF D.l k g } := by
  have hz := used_setF D.l k f g hk
  refine ⟨fun x hx => ?_, by show usedS (Go.Proofs.YtedbgimmbapfaaaGreat.setF D.l k g) ≤ D.cap; omega, h.cap, by show (Go.Proofs.YtedbgimmbapfaaaGreat.setF D.l k g).length ≤ _; rw [setF_length]; exact h.many⟩
  rcases mem_setF hx with hx | ⟨f', hf', rfl⟩
  · exact h.synced x hx
  · rw [hk] at hf'
    obtain rfl : f = f' := by simpa using hf'
    exact hg
theorem WfP.done {D E : DiskS} (h : WfP D) (hE : WfP E) : WfP (doneS D E).2 := by
  unfold doneS
  split
  · exact ⟨hE.synced, hE.used, hE.cap, hE.many⟩
  · exact h.sink _

theorem wp_new {c : Nat} (hc : c ≤ 1048576) : WfP (newS c) := ⟨fun f hf => (by cases hf), Nat.zero_le _, hc, Nat.zero_le _⟩
section
variable {D : DiskS} (h : WfP D)
include h
theorem wp_create (n : ByteArray) : WfP (createS D n).2 := by
  unfold createS
  split
  · exact h
  · split
    · exact h
    · split
      · exact h
      · split
        · exact h
        · rename_i hm
          refine h.done ⟨fun f hf => ?_, ?_, h.cap, ?_⟩
          · rcases lay_mem hf with hf | rfl
            · exact h.synced f hf
            · exact Nat.zero_le _
          · show usedS (layS _ _) ≤ _
            rw [used_lay]
            exact h.used
          · show (layS _ _).length ≤ _
            rw [lay_length]
            omega
theorem wp_append (n s : ByteArray) : WfP (appendS D n s).2 := by
  unfold appendS
  split
  · exact h
  · split
    · rename_i hf
      split
      · exact h
      · rename_i hu
        obtain ⟨f, hk, _⟩ := find_at hf
        have hE : WfP (appE D n s) := h.setF hk _ (by show f.synced ≤ (f.data ++ s).size; have := h.synced f (List.mem_of_getElem? hk); rw [ByteArray.size_append]; omega) (by show usedS D.l + (f.data ++ s).size ≤ _; rw [ByteArray.size_append]; omega)
        split
        · exact hE.next
        · exact hE.sink _
    · exact h
theorem wp_read (n : ByteArray) (a k : Int) : WfP (readS D n a k).2.2 := by
  have hE : WfP { D with count := D.count + 1 } := ⟨h.synced, h.used, h.cap, h.many⟩
  unfold readS
  split
  · exact h
  · dsimp only
    split
    · exact hE
    · split <;> exact hE
theorem wp_sync (n : ByteArray) : WfP (syncS D n).2 := by
  unfold syncS
  split
  · exact h
  · split
    · rename_i hf
      obtain ⟨f, hk, _⟩ := find_at hf
      exact h.done (h.setF hk _ (Nat.le_refl _) (by have := h.used; show usedS D.l + f.data.size ≤ _; omega))
    · exact h
theorem wp_rename (n m : ByteArray) : WfP (renameS D n m).2 := by
  unfold renameS
  split
  · exact h
  · split
    · rename_i hf
      split
      · exact h
      · obtain ⟨f, hk, _⟩ := find_at hf
        refine h.done ?_
        by_cases e : n = m
        · rw [if_pos e]; exact h
        · rw [if_neg e, renameL_at hk]
          have hu := used_drop hk
          have hc := used_clear (dropS D.l (findS D.l n)) m
          have hl := dropS_length hf
          have hcl := clearL_length (dropS D.l (findS D.l n)) m
          have hcap := h.used
          have hmany := h.many
          refine ⟨fun x hx => ?_, ?_, h.cap, ?_⟩
          · rcases lay_mem hx with hx | rfl
            · exact h.synced x (drop_mem (clear_mem hx))
            · exact h.synced f (List.mem_of_getElem? hk)
          · show usedS (layS _ _) ≤ _
            rw [used_lay]
            show _ + f.data.size ≤ D.cap
            omega
          · show (layS _ _).length ≤ _
            rw [lay_length]
            omega
    · exact h
theorem wp_delete (n : ByteArray) : WfP (deleteS D n).2 := by
  unfold deleteS
  split
  · exact h
  · split
    · rename_i hf
      obtain ⟨f, hk, _⟩ := find_at hf
      have hu := used_drop hk
      have hl := dropS_length hf
      have hcap := h.used
      have hmany := h.many
      exact h.done ⟨fun x hx => h.synced x (drop_mem hx), by show usedS (dropS _ _) ≤ D.cap; omega, h.cap, by show (dropS _ _).length ≤ _; omega⟩
    · exact h
theorem wp_crash (keep : List Int) : WfP (crashS D keep).2 := by
  unfold crashS
  split
  · exact h
  · exact h.sink _
theorem wp_start : WfP (startS D).2 := by
  unfold startS
  split
  · exact ⟨h.synced, h.used, h.cap, h.many⟩
  · exact h
theorem wp_fail (n : Int) (keep : List Int) : WfP (failS D n keep).2 := by
  unfold failS
  split
  · exact h
  · split
    · exact h
    · exact ⟨h.synced, h.used, h.cap, h.many⟩
theorem wp_spoil (n : ByteArray) (a : Int) (s : ByteArray) : WfP (spoilS D n a s).2 := by
  unfold spoilS
  split
  · rename_i hf
    split
    · exact h
    · obtain ⟨f, hk, _⟩ := find_at hf
      have hz : (overS f.data s a.toNat).size = f.data.size := by
        show (overK f.data s a.toNat s.size).toArray.size = _
        rw [List.size_toArray, overK_length]
      exact h.setF hk _ (by show f.synced ≤ (overS f.data s a.toNat).size; rw [hz]; exact h.synced f (List.mem_of_getElem? hk)) (by show usedS D.l + (overS f.data s a.toNat).size ≤ _; rw [hz]; have := h.used; omega)
  · exact h
theorem wp_cut (n : ByteArray) (k : Int) : WfP (cutS D n k).2 := by
  unfold cutS
  split
  · rename_i hf
    split
    · exact h
    · obtain ⟨f, hk, _⟩ := find_at hf
      have hz : (f.data.extract 0 (min k.toNat f.data.size)).size = min k.toNat f.data.size := by rw [ByteArray.size_extract]; omega
      exact h.setF hk _ (by show min f.synced (min k.toNat f.data.size) ≤ (f.data.extract 0 (min k.toNat f.data.size)).size; rw [hz]; omega) (by show usedS D.l + (f.data.extract 0 (min k.toNat f.data.size)).size ≤ _; rw [hz]; have := h.used; omega)
  · exact h
end
end Go.Proofs.YtedbgimmbapfaaaGreat

/- TfMem -/
namespace Go.Proofs.YtedbgimmbapfaaaGreat
open Go.RowKit
set_option linter.unusedVariables false

/-- What a log's calls leave as it is: since which world, which blocks were the disk's then, from which block on it is the call's own; what the log's own pointer is; a guest's blocks, and the world in which they were last known. -/
structure Ctx where
  w0 : World
  F0 : List Nat
  base : Nat
  m : Value
  G : List Nat
  wG : World
def logCells (m : Value) (gd : Nat) (L : LogS) : Array Value := #[m, ptr gd, .int .i64 (L.starts : Nat), .int .i64 (L.chunks : Nat), .int .i64 (L.endp : Nat), .int .i64 (L.sure : Nat)]
def TSt (At : Lies) (c : Ctx) (gl gd : Nat) (L : LogS) (D : DiskS) (w : World) : Prop :=
  ∃ F, At w c.base gd F D ∧ Blok w gl 35 (logCells c.m gd L) ∧ gl ∉ F ∧ (∀ x ∈ F, x ∈ c.F0 ∨ c.w0.heap.size ≤ x) ∧ Touch (gl :: c.F0) c.w0 w ∧ c.wG.heap.size ≤ w.heap.size ∧
    ∀ b ∈ c.G, c.w0.heap.size ≤ b ∧ b < c.wG.heap.size ∧ b ∉ F ∧ b ≠ gl ∧ w.heap[b]? = c.wG.heap[b]?
def TRet (At : Lies) (c : Ctx) (gl gd : Nat) (v : Value) (L : LogS) (D : DiskS) (e : Ending) (w : World) : Prop := e = .returned v ∧ TSt At c gl gd L D w

section
variable {At : Lies} {c : Ctx} {gl gd : Nat} {L L' : LogS} {D D' : DiskS} {w w' : World}
theorem TSt.touch (api : DiskApi At) (h : TSt At c gl gd L D w) (ht : Touch [] w w') : TSt At c gl gd L D w' := by
  obtain ⟨F, h1, h2, h3, h4, h5, h6, h7⟩ := h
  refine ⟨F, api.touch h1 ht (fun _ _ => by simp), h2.touch ht (by simp), h3, h4, h5.trans ht (fun x hx => by cases hx), Nat.le_trans h6 ht.size, fun b hb => ?_⟩
  obtain ⟨k1, k2, k3, k4, k5⟩ := h7 b hb
  exact ⟨k1, k2, k3, k4, (ht.block b (by omega) (by simp)).trans k5⟩
theorem TSt.below (api : DiskApi At) (h : TSt At c gl gd L D w) (hb : Below w.heap.size w w') : TSt At c gl gd L D w' := h.touch api (Touch.of_below hb)
theorem TSt.drew (api : DiskApi At) (h : TSt At c gl gd L D w) : TSt At c gl gd L D w.drew := h.touch api (Touch.refl [] w).drew
theorem TSt.drewN (api : DiskApi At) (h : TSt At c gl gd L D w) (n : Nat) : TSt At c gl gd L D (w.drewN n) := h.touch api ((Touch.refl [] w).drewN n)
theorem TSt.cells (h : TSt At c gl gd L D w) : w.cell? ⟨gl, 0, none⟩ = some c.m ∧ w.cell? ⟨gl, 1, none⟩ = some (ptr gd) ∧ w.cell? ⟨gl, 2, none⟩ = some (.int .i64 (L.starts : Nat)) ∧ w.cell? ⟨gl, 3, none⟩ = some (.int .i64 (L.chunks : Nat)) ∧
    w.cell? ⟨gl, 4, none⟩ = some (.int .i64 (L.endp : Nat)) ∧ w.cell? ⟨gl, 5, none⟩ = some (.int .i64 (L.sure : Nat)) := by
  obtain ⟨F, h1, h2, _⟩ := h
  exact ⟨h2.cell 0, h2.cell 1, h2.cell 2, h2.cell 3, h2.cell 4, h2.cell 5⟩
theorem TSt.frozen (h : TSt At c gl gd L D w) (i : Nat) : w.frozen? ⟨gl, i, none⟩ = false := by
  obtain ⟨F, h1, h2, _⟩ := h
  exact h2.frozen i
/-- A call of the disk. -/
theorem TSt.disk (api : DiskApi At) (h : TSt At c gl gd L D w) {f : FuncId} {args : Array Value} {v : Value} (hc : ∀ F, At w c.base gd F D → Calls Tryz.prog f args w (EndAt At c.base gd F w v D')) : Calls Tryz.prog f args w (TRet At c gl gd v L D') := by
  obtain ⟨F, h1, h2, h3, h4, h5, h6, h7⟩ := h
  refine (hc F h1).mono ?_
  rintro e w' ⟨F', e1, e2, e3, e4⟩
  refine ⟨e1, F', e2, h2.touch e4 h3, fun hm => ?_, fun x hx => ?_, h5.trans e4 (fun x hx => ?_), Nat.le_trans h6 e4.size, fun b hb => ?_⟩
  · rcases e3 gl hm with k | k
    · exact h3 k
    · have := h2.lt; omega
  · rcases e3 x hx with k | k
    · exact h4 x k
    · exact Or.inr (by have := h5.size; omega)
  · rcases h4 x hx with k | k
    · exact Or.inl (List.mem_cons_of_mem _ k)
    · exact Or.inr k
  · obtain ⟨k1, k2, k3, k4, k5⟩ := h7 b hb
    refine ⟨k1, k2, fun hm => ?_, k4, (e4.block b (by omega) k3).trans k5⟩
    rcases e3 b hm with k | k
    · exact k3 k
    · omega
/-- A call that changes nothing. -/
theorem TSt.same (h : TSt At c gl gd L D w) {P : Program} {f : FuncId} {args : Array Value} {v : Value} (hc : Calls P f args w fun e w' => e = .returned v ∧ w = w') : Calls P f args w (TRet At c gl gd v L D) := hc.mono (by
  rintro e w' ⟨rfl, rfl⟩
  exact ⟨rfl, h⟩)
/-- A cell of the log's. -/
theorem TSt.put (api : DiskApi At) (h : TSt At c gl gd L D w) (i : Nat) (v : Value) (hv : (logCells c.m gd L).setIfInBounds i v = logCells c.m gd L') : TSt At c gl gd L' D (w.setCell ⟨gl, i, none⟩ v) := by
  obtain ⟨F, h1, h2, h3, h4, h5, h6, h7⟩ := h
  have ht : Touch [gl] w (w.setCell ⟨gl, i, none⟩ v) := (Touch.refl [gl] w).setCell (p := ⟨gl, i, none⟩) (Or.inl (List.mem_singleton.2 rfl)) _
  refine ⟨F, api.touch h1 ht (fun x hx hm => h3 (by rw [← List.mem_singleton.1 hm]; exact hx)), by rw [← hv]; exact h2.put i v, h3, h4, h5.trans ht (fun x hx => Or.inl (by rw [List.mem_singleton.1 hx]; exact List.mem_cons_self)), Nat.le_trans h6 ht.size, fun b hb => ?_⟩
  obtain ⟨k1, k2, k3, k4, k5⟩ := h7 b hb
  exact ⟨k1, k2, k3, k4, (ht.block b (by omega) (by simpa using k4)).trans k5⟩
theorem TSt.putChunks (api : DiskApi At) (h : TSt At c gl gd L D w) (k : Nat) : TSt At c gl gd { L with chunks := k } D (w.setCell ⟨gl, 3, none⟩ (.int .i64 (k : Nat))) := h.put api 3 _ rfl
theorem TSt.putEnd (api : DiskApi At) (h : TSt At c gl gd L D w) (k : Nat) : TSt At c gl gd { L with endp := k } D (w.setCell ⟨gl, 4, none⟩ (.int .i64 (k : Nat))) := h.put api 4 _ rfl
theorem TSt.putSure (api : DiskApi At) (h : TSt At c gl gd L D w) (k : Nat) : TSt At c gl gd { L with sure := k } D (w.setCell ⟨gl, 5, none⟩ (.int .i64 (k : Nat))) := h.put api 5 _ rfl
/-- A guest's block. -/
theorem TSt.guest (h : TSt At c gl gd L D w) {b : Nat} (hb : b ∈ c.G) : w.heap[b]? = c.wG.heap[b]? := by
  obtain ⟨F, h1, h2, h3, h4, h5, h6, h7⟩ := h
  exact (h7 b hb).2.2.2.2
/-- The guest's own doing: other blocks, known in another world. -/
theorem TSt.own (api : DiskApi At) (h : TSt At c gl gd L D w) {G' : List Nat} (ht : Touch c.G w w') (hG : ∀ b ∈ G', b ∈ c.G ∨ w.heap.size ≤ b) (hlt : ∀ b ∈ G', b < w'.heap.size) : TSt At { c with G := G', wG := w' } gl gd L D w' := by
  obtain ⟨F, h1, h2, h3, h4, h5, h6, h7⟩ := h
  have hF : ∀ x ∈ F, x ∉ c.G := fun x hx hm => (h7 x hm).2.2.1 hx
  have hl : gl ∉ c.G := fun hm => (h7 gl hm).2.2.2.1 rfl
  refine ⟨F, api.touch h1 ht hF, h2.touch ht hl, h3, h4, h5.trans ht (fun x hx => Or.inr (h7 x hx).1), Nat.le_refl _, fun b hb => ?_⟩
  rcases hG b hb with k | k
  · obtain ⟨k1, k2, k3, k4, _⟩ := h7 b k
    exact ⟨k1, hlt b hb, k3, k4, rfl⟩
  · exact ⟨Nat.le_trans h5.size k, hlt b hb, fun hm => (by have := (api.low h1 b hm).2; omega), fun e => (by have := h2.lt; omega), rfl⟩
/-- Back to a guest of before. -/
theorem TSt.back {c' : Ctx} (h : TSt At c' gl gd L D w) (e1 : c'.w0 = c.w0) (e2 : c'.F0 = c.F0) (e3 : c'.base = c.base) (e4 : c'.m = c.m) (hs : c.wG.heap.size ≤ c'.wG.heap.size) (hG : ∀ b ∈ c.G, b ∈ c'.G ∧ b < c.wG.heap.size ∧ c'.wG.heap[b]? = c.wG.heap[b]?) : TSt At c gl gd L D w := by
  obtain ⟨F, h1, h2, h3, h4, h5, h6, h7⟩ := h
  rw [e3] at h1
  rw [e4] at h2
  rw [e1, e2] at h4 h5
  refine ⟨F, h1, h2, h3, h4, h5, Nat.le_trans hs h6, fun b hb => ?_⟩
  obtain ⟨q1, q2, q3⟩ := hG b hb
  obtain ⟨k1, k2, k3, k4, k5⟩ := h7 b q1
  exact ⟨by rw [← e1]; exact k1, q2, k3, k4, k5.trans q3⟩
end

theorem info_log : (Tryz.prog.info? 35).map (·.size) = some 6 := by kernel_rfl
theorem lsame_in (d : Nat) (p : Addr) (w : World) : (Op.equalIn (d + 1) 23 (.pointer (some p)) (.pointer (some p))).run Tryz.prog w = .ok true w := by
  cases hq : Tryz.prog.info? 35 with
  | none => have := info_log; rw [hq] at this; cases this
  | some i =>
    have hi : i.size = 6 := by have := info_log; rw [hq] at this; simpa using this
    simp [Op.equalIn, run_underlying Tryz.underlying23, sizeOf, typeInfo, hq, sameAddr]
theorem lnil_in (d : Nat) (p : Addr) (w : World) : (Op.equalIn (d + 1) 23 (.pointer none) (.pointer (some p))).run Tryz.prog w = .ok false w := by
  simp [Op.equalIn, run_underlying Tryz.underlying23]
theorem lsame_ptr (p : Addr) (w : World) : (binOp .neq 23 (.pointer (some p)) (.pointer (some p))).run Tryz.prog w = .ok (.bool false) w := by
  have he : (Op.equal 23 (.pointer (some p)) (.pointer (some p))).run Tryz.prog w = .ok true w := lsame_in 9999 p w
  simp only [binOp]
  simp [he]
theorem lnil_ptr (p : Addr) (w : World) : (binOp .neq 23 (.pointer none) (.pointer (some p))).run Tryz.prog w = .ok (.bool true) w := by
  have he : (Op.equal 23 (.pointer none) (.pointer (some p))).run Tryz.prog w = .ok false w := lnil_in 9999 p w
  simp only [binOp]
  simp [he]
set_option maxRecDepth 100000 in
theorem lnone_run {w : World} {gl : Nat} (h : w.cell? ⟨gl, 0, none⟩ = some (ptr gl)) : Calls Tryz.prog 33 #[ptr gl] w fun e w' => e = .returned (.bool false) ∧ w = w' := by
  have hsp := lsame_ptr ⟨gl, 0, none⟩
  go_enter Tryz.func33, Tryz.ntmps33
  go_wp2
  go_ret
  exact ⟨rfl, rfl⟩
theorem lnone_nil (w : World) : Calls Tryz.prog 33 #[.pointer none] w fun e w' => e = .returned (.bool true) ∧ w = w' := by
  go_enter Tryz.func33, Tryz.ntmps33
  go_wp2
  go_ret
  exact ⟨rfl, rfl⟩
set_option maxRecDepth 100000 in
theorem lnone_bare {w : World} {gl : Nat} (h : w.cell? ⟨gl, 0, none⟩ = some (.pointer none)) : Calls Tryz.prog 33 #[ptr gl] w fun e w' => e = .returned (.bool true) ∧ w = w' := by
  have hsp := lnil_ptr ⟨gl, 0, none⟩
  go_enter Tryz.func33, Tryz.ntmps33
  go_wp2
  go_ret
  exact ⟨rfl, rfl⟩
theorem front_run (n : Nat) (w : World) (hn : n ≤ 1000000) : Calls Tryz.prog 24 #[.int .i64 (n : Nat)] w fun e w' => e = .returned (.int .i64 ((n : Nat) * 4096 : Int)) ∧ w = w' := by
  have b1 : (n : Int) ≤ 1000000 := by omega
  have b0 : (0 : Int) ≤ n := by omega
  go_enter Tryz.func24, Tryz.ntmps24
  go_wp2
  go_ret
  exact ⟨rfl, rfl⟩
section
variable {At : Lies} (api : DiskApi At) {c : Ctx} {gl gd : Nat} {L L' : LogS} {D D' : DiskS} {w w' : World}
include api
set_option maxRecDepth 100000 in
theorem tready_run (hm : c.m = ptr gl) (h : TSt At c gl gd L D w) : Calls Tryz.prog 19 #[ptr gl] w (TRet At c gl gd (err (readyT D L)) L D) := by
  obtain ⟨c0, c1, c2, c3, c4, c5⟩ := h.cells
  rw [hm] at c0
  have HH := Lib.hid h
  have hn := Lib.hid (lnone_run c0)
  obtain ⟨F, hA, -⟩ := h
  have hu := Lib.hid (api.upq hA)
  have hs := Lib.hid (fun k => api.startsq (api.touch hA ((Touch.refl [] w).drewN k) (fun _ _ => by simp)))
  unfold readyT
  cases hd : D.down
  · simp only [Bool.false_eq_true, if_false]
    rw [hd] at hu
    by_cases he : D.starts = L.starts
    · rw [if_pos he]
      have hs := Lib.hid (fun k => he ▸ hs.out k)
      have t1 : ((L.starts : Int) != (L.starts : Int)) = false := by simp
      generalize L.starts = q at *
      clear hA hd he c3 c4 c5 hm
      go_enter Tryz.func19, Tryz.ntmps19
      go_wp2_with fail
      refine hn.out.mono ?_
      rintro e w' ⟨rfl, rfl⟩
      go_wp2_with fail
      refine hu.out.mono ?_
      rintro e w' ⟨rfl, rfl⟩
      go_wp2_with fail
      go_quiet ((go_at_call 36; exact Calls.quiet_of_same ((hs.out _).mono fun _ _ h => ⟨h.1, h.2.symm⟩)))
      go_wp2
      go_ret
      exact ⟨rfl, HH.out.drewN api _⟩
    · rw [if_neg he]
      have t1 : ((D.starts : Int) != (L.starts : Int)) = true := by simp; omega
      have t2 : ¬ (D.starts : Int) = (L.starts : Int) := by omega
      generalize L.starts = q at *
      generalize D.starts = y at *
      clear hA hd he c3 c4 c5 hm
      go_enter Tryz.func19, Tryz.ntmps19
      go_wp2_with fail
      refine hn.out.mono ?_
      rintro e w' ⟨rfl, rfl⟩
      go_wp2_with fail
      refine hu.out.mono ?_
      rintro e w' ⟨rfl, rfl⟩
      go_wp2_with fail
      go_quiet ((go_at_call 36; exact Calls.quiet_of_same ((hs.out _).mono fun _ _ h => ⟨h.1, h.2.symm⟩)))
      go_wp2
      go_ret
      exact ⟨rfl, HH.out.drewN api _⟩
  · simp only [if_true]
    rw [hd] at hu
    clear hA hd c3 c4 c5 hm hs
    go_enter Tryz.func19, Tryz.ntmps19
    go_wp2_with fail
    refine hn.out.mono ?_
    rintro e w' ⟨rfl, rfl⟩
    go_wp2_with fail
    refine hu.out.mono ?_
    rintro e w' ⟨rfl, rfl⟩
    go_wp2
    go_ret
    exact ⟨rfl, HH.out⟩
end
theorem tend_run {w : World} {gl : Nat} {v : Int} (h0 : w.cell? ⟨gl, 0, none⟩ = some (ptr gl)) (h : w.cell? ⟨gl, 4, none⟩ = some (.int .i64 v)) : Calls Tryz.prog 11 #[ptr gl] w fun e w' => e = .returned (.int .i64 v) ∧ w = w' := by
  have hn := Lib.hid (lnone_run h0)
  clear h0
  go_enter Tryz.func11, Tryz.ntmps11
  go_wp2_with fail
  refine hn.out.mono ?_
  rintro e w' ⟨rfl, rfl⟩
  go_wp2
  go_ret
  exact ⟨rfl, rfl⟩
theorem tsure_run {w : World} {gl : Nat} {v : Int} (h0 : w.cell? ⟨gl, 0, none⟩ = some (ptr gl)) (h : w.cell? ⟨gl, 5, none⟩ = some (.int .i64 v)) : Calls Tryz.prog 12 #[ptr gl] w fun e w' => e = .returned (.int .i64 v) ∧ w = w' := by
  have hn := Lib.hid (lnone_run h0)
  clear h0
  go_enter Tryz.func12, Tryz.ntmps12
  go_wp2_with fail
  refine hn.out.mono ?_
  rintro e w' ⟨rfl, rfl⟩
  go_wp2
  go_ret
  exact ⟨rfl, rfl⟩
end Go.Proofs.YtedbgimmbapfaaaGreat

/- NamesRef -/
namespace Go.Proofs.YtedbgimmbapfaaaGreat
open Go.RowKit
set_option linter.unusedVariables false

/-- May a stream have a name (P10.1)? -/
def stS (s : ByteArray) : Bool := decide (1 ≤ s.size ∧ s.size ≤ 32)
theorem conv_dig (d : Nat) (hd : d < 10) (W : World) (g : Nat) (h : W.cell? ⟨g, 0, none⟩ = some (.int .u8 (48 + (d : Nat)))) : (convert 54 9 (.slice (some ⟨g, 0, none⟩) 1 1)).run Tryz.prog W = .ok (.string (bs [UInt8.ofNat (48 + d)])) W := by
  have h2 := run_convert_bytes_back (P := Tryz.prog) W 54 9 5 ⟨g, 0, none⟩ 1 [UInt8.ofNat (48 + d)] Tryz.underlying54 Tryz.underlying5 Tryz.underlying9
    (fun j hj => by
      have hj0 : j = 0 := by simpa using hj
      subst hj0
      have e : (⟨g, 0, none⟩ : Addr).add 0 = ⟨g, 0, none⟩ := rfl
      rw [e, h]
      simp
      omega)
  exact h2

def NoName (w : World) (e : Ending) (w' : World) : Prop := e = .returned (.tuple #[.int .u8 0, .int .i64 0, .bool false]) ∧ w = w'
theorem byte_of {s : ByteArray} {c : UInt8} {l : List UInt8} (h : s.data.toList = c :: l) (j : Nat) (hj : j < l.length) (hs : j + 1 < s.size) : s[j + 1]'hs = l[j] := by
  have h1 : s.data.toList[j + 1]'(by rw [dlen]; exact hs) = l[j] := by simp [h]
  exact h1
theorem byte_zero {s : ByteArray} {c : UInt8} {l : List UInt8} (h : s.data.toList = c :: l) (hs : 0 < s.size) : s[0]'hs = c := by
  have h1 : s.data.toList[0]'(by rw [dlen]; exact hs) = c := by simp [h]
  exact h1
theorem dv_take {l : List UInt8} {j : Nat} (hj : j < l.length) : dv (l.take (j + 1)) = dv (l.take j) * 10 + (l[j].toNat - 48) := by
  rw [List.take_add_one, List.getElem?_eq_getElem hj]
  exact dv_snoc _ _

end Go.Proofs.YtedbgimmbapfaaaGreat
