/- ChunksRef, TfMath, Own, DiskRef, DiskRefSet -/
import Derived.Test.YtedbgimmbapfaaaGreatPk04
import Derived.Test.YtedbgimmbapfaaaGreatPk01
import Derived.Laws.OwnMore
import Derived.Deep.Draws
/- ChunksRef -/
namespace Go.Proofs.YtedbgimmbapfaaaGreat
open Go.RowKit
set_option linter.unusedVariables false

/-- A chunk's head (P11.1). -/
def hdT (n : Nat) : ByteArray := ⟨#[99, 104, 110, 107]⟩ ++ bs (be 4 n)
def hdS (n : Int) : ByteArray := if 0 ≤ n ∧ n ≤ 199 then sealS (hdT n.toNat) else ByteArray.empty
theorem hd_no {n : Int} (h : ¬ (0 ≤ n ∧ n ≤ 199)) : hdS n = ByteArray.empty := by unfold hdS; rw [if_neg h]
theorem hd_yes {n : Nat} (h : n ≤ 199) : hdS (n : Nat) = sealS (hdT n) := by unfold hdS; rw [if_pos (by omega), Int.toNat_natCast]
theorem hdT_size (n : Nat) : (hdT n).size = 8 := by unfold hdT; rw [ByteArray.size_append, bs_size, be_length]; rfl
theorem hd_size {n : Nat} (h : n ≤ 199) : (hdS (n : Nat)).size = 12 := by rw [hd_yes h, sealS_size, hdT_size]
/-- What a text is as a number's chunk: 0: none; 1: as much of a head as there is; 2: a head, and what is behind it (P11.2). -/
def scK (s : ByteArray) (n : Int) : Nat := if ¬ (0 ≤ n ∧ n ≤ 199) then 0 else if ¬ s.extract 0 (min s.size 12) = (hdS n).extract 0 (min s.size 12) then 0 else if s.size < 12 then 1 else 2
def scL (s : ByteArray) (n : Int) : List Int := if scK s n = 2 then wlL s 12 else []
def scE (s : ByteArray) (n : Int) : Nat := if scK s n = 2 then wlE s 12 else 0
def scOk (s : ByteArray) (n : Int) : Bool := decide (¬ scK s n = 0)
theorem sc_0 {s : ByteArray} {n : Int} (h : scK s n = 0) : scL s n = [] ∧ scE s n = 0 ∧ scOk s n = false := by simp [scL, scE, scOk, h]
theorem sc_1 {s : ByteArray} {n : Int} (h : scK s n = 1) : scL s n = [] ∧ scE s n = 0 ∧ scOk s n = true := by simp [scL, scE, scOk, h]
theorem sc_2 {s : ByteArray} {n : Int} (h : scK s n = 2) : scL s n = wlL s 12 ∧ scE s n = wlE s 12 ∧ scOk s n = true := by simp [scL, scE, scOk, h]
theorem scK_no {s : ByteArray} {n : Int} (h : ¬ (0 ≤ n ∧ n ≤ 199)) : scK s n = 0 := by unfold scK; rw [if_pos h]
theorem scK_bad {s : ByteArray} {n : Int} (h : 0 ≤ n ∧ n ≤ 199) (h2 : ¬ s.extract 0 (min s.size 12) = (hdS n).extract 0 (min s.size 12)) : scK s n = 0 := by unfold scK; rw [if_neg (by omega), if_pos h2]
theorem scK_short {s : ByteArray} {n : Int} (h : 0 ≤ n ∧ n ≤ 199) (h2 : s.extract 0 (min s.size 12) = (hdS n).extract 0 (min s.size 12)) (h3 : s.size < 12) : scK s n = 1 := by unfold scK; rw [if_neg (by omega), if_neg (by simp [h2]), if_pos h3]
theorem scK_whole {s : ByteArray} {n : Int} (h : 0 ≤ n ∧ n ≤ 199) (h2 : s.extract 0 (min s.size 12) = (hdS n).extract 0 (min s.size 12)) (h3 : ¬ s.size < 12) : scK s n = 2 := by unfold scK; rw [if_neg (by omega), if_neg (by simp [h2]), if_neg h3]
/-- Whether a payload's record has room (P11.3). -/
def ftS (size : Int) (p : ByteArray) : Bool := decide (p.size ≤ 2000 ∧ 0 ≤ size ∧ size ≤ 4096 ∧ size + (p.size : Int) + 12 ≤ 4096)

/-- What Scan tells. -/
def Scanned (s : ByteArray) (n : Int) (w : World) (e : Ending) (w' : World) : Prop := ∃ u, e = .returned (.tuple #[u, .int .i64 (scE s n : Nat), .bool (scOk s n)]) ∧ IntsIn w' u (scL s n) ∧ Below w.heap.size w w'
theorem ctxt_eq {a b : ByteArray} (h : a = b) : (a.toList != b.toList) = false ∧ (a.toList == b.toList) = true ∧ (!(a.toList == b.toList)) = false := by subst h; simp
theorem ctxt_ne {a b : ByteArray} (h : ¬ a = b) : (a.toList != b.toList) = true ∧ (a.toList == b.toList) = false ∧ (!(a.toList == b.toList)) = true := by
  have : ¬ a.toList = b.toList := fun x => by
    rw [Lib.toList_data, Lib.toList_data] at x
    exact h (ByteArray.ext (Array.toList_inj.1 x))
  simpa using this

theorem ne_nil_of_size {H : ByteArray} (hz : H.size = 12) : ¬ H.toList = [] ∧ (H.toList == []) = false := by
  have : ¬ H.toList = [] := fun e => by
    have h : H = ByteArray.empty := ByteArray.ext (Array.toList_inj.1 (by rw [← Lib.toList_data, e]; rfl))
    rw [h] at hz
    cases hz
  exact ⟨this, by rw [beq_eq_false_iff_ne]; exact this⟩

def NoChunk (w : World) (e : Ending) (w' : World) : Prop := ∃ u, e = .returned (.tuple #[u, .int .i64 0, .bool false]) ∧ IntsIn w' u [] ∧ Below w.heap.size w w'
def HalfChunk (w : World) (e : Ending) (w' : World) : Prop := ∃ u, e = .returned (.tuple #[u, .int .i64 0, .bool true]) ∧ IntsIn w' u [] ∧ Below w.heap.size w w'

end Go.Proofs.YtedbgimmbapfaaaGreat

/- TfMath -/
namespace Go.Proofs.YtedbgimmbapfaaaGreat
set_option linter.unusedVariables false

/-- A log: how often its disk was started then, how many chunks there are, where it ends, up to where it is sure. -/
structure LogS where
  starts : Nat
  chunks : Nat
  endp : Nat
  sure : Nat
abbrev nmC (n : Nat) : ByteArray := nmS 99 (n : Nat)
def newB : ByteArray := ⟨#[110, 101, 119]⟩

/-- Steps: the first that is not OK, and behind which one it ends. -/
def stR (r : Nat → Nat) : Nat → Nat → Nat × Nat
  | 0, k => (0, k)
  | n + 1, k => if r k = 0 then stR r n (k + 1) else (r k, k + 1)

def readyT (D : DiskS) (L : LogS) : Nat := if D.down then 61 else if D.starts = L.starts then 0 else 61
/-- All bytes of a file. -/
def rdC (D : DiskS) (n : ByteArray) : ByteArray × Nat × DiskS := if (sizeS D n).2 = 0 then readS D n 0 ((sizeS D n).1 : Nat) else (ByteArray.empty, (sizeS D n).2, D)
def syncT (D : DiskS) (L : LogS) : Nat × DiskS × LogS :=
  if L.chunks = 0 then (0, D, { L with sure := L.endp }) else
  if (syncS D (nmC (L.chunks - 1))).1 = 0 then (0, (syncS D (nmC (L.chunks - 1))).2, { L with sure := L.endp }) else ((syncS D (nmC (L.chunks - 1))).1, (syncS D (nmC (L.chunks - 1))).2, L)
/-- Which chunk, how far from its front, and the error. -/
def targetT (D : DiskS) (L : LogS) (p : ByteArray) : Nat × Nat × Nat :=
  if L.chunks = 0 then (0, 12, 0) else
  if (sizeS D (nmC (L.chunks - 1))).2 = 0 then (if ftS ((sizeS D (nmC (L.chunks - 1))).1 : Nat) p = true then (L.chunks - 1, (sizeS D (nmC (L.chunks - 1))).1, 0) else (L.chunks, 12, 0))
  else (0, 0, (sizeS D (nmC (L.chunks - 1))).2)
def roomT (D : DiskS) (s : ByteArray) : Bool := decide (6000 ≤ (D.cap : Int) - (usedS D.l : Nat) - (s.size : Nat))
/-- Two steps behind each other, of a disk and a log. -/
def thenT (a : Nat × DiskS × LogS) (f : DiskS → LogS → Nat × DiskS × LogS) : Nat × DiskS × LogS := if a.1 = 0 then f a.2.1 a.2.2 else a
def onD (f : DiskS → Nat × DiskS) (D : DiskS) (L : LogS) : Nat × DiskS × LogS := ((f D).1, (f D).2, L)
def beginT (D : DiskS) (L : LogS) (r : ByteArray) : Nat × DiskS × LogS :=
  if 200 ≤ L.chunks ∨ roomT D (hdS (L.chunks : Nat) ++ r) = false then (60, D, L) else
  thenT (thenT (syncT D L) (onD fun E => createS E (nmC L.chunks))) (onD fun E => appendS E (nmC L.chunks) (hdS (L.chunks : Nat) ++ r))
def extendT (D : DiskS) (L : LogS) (r : ByteArray) : Nat × DiskS := if roomT D r = false then (60, D) else appendS D (nmC (L.chunks - 1)) r
/-- The place, the error, and what is then. -/
def appendT (D : DiskS) (L : LogS) (p : ByteArray) : Nat × Nat × DiskS × LogS :=
  if readyT D L ≠ 0 then (0, readyT D L, D, L) else
  if 2000 < p.size then (0, 3, D, L) else
  if (targetT D L p).2.2 ≠ 0 then (0, (targetT D L p).2.2, D, L) else
  let n := (targetT D L p).1
  let a := (targetT D L p).2.1
  let r := if n = L.chunks then beginT D L (recS p) else onD (fun E => extendT E L (recS p)) D L
  if r.1 ≠ 0 then (0, r.1, r.2.1, r.2.2) else (4096 * n + a, 0, r.2.1, { r.2.2 with chunks := n + 1, endp := 4096 * n + a + (recS p).size })
def flushT (D : DiskS) (L : LogS) : Nat × DiskS × LogS := if readyT D L ≠ 0 then (readyT D L, D, L) else syncT D L
/-- The record at a place, once it is known which chunk, and how far from its front. -/
def readC (D : DiskS) (n : ByteArray) (a : Nat) : ByteArray × Nat × DiskS :=
  if (sizeS D n).2 ≠ 0 then (ByteArray.empty, (sizeS D n).2, D) else
  if (sizeS D n).1 < a + 12 then (ByteArray.empty, 4, D) else
  let b := readS D n (a : Nat) 4
  if b.2.1 ≠ 0 then (ByteArray.empty, b.2.1, b.2.2) else
  if 2000 < getS b.1 ∨ (sizeS D n).1 < a + 12 + getS b.1 then (ByteArray.empty, 4, b.2.2) else
  let c := readS b.2.2 n (a : Nat) ((getS b.1 + 12 : Nat) : Int)
  if c.2.1 ≠ 0 then (ByteArray.empty, c.2.1, c.2.2) else
  if getOk c.1 0 = true then (getP c.1 0, 0, c.2.2) else (ByteArray.empty, 4, c.2.2)
def readT (D : DiskS) (L : LogS) (pos : Int) : ByteArray × Nat × DiskS :=
  if readyT D L ≠ 0 then (ByteArray.empty, readyT D L, D) else
  if pos < 0 ∨ (L.chunks : Int) ≤ pos / 4096 ∨ pos % 4096 < 12 then (ByteArray.empty, 4, D) else readC D (nmC (pos / 4096).toNat) (pos % 4096).toNat
/-- What Next tells: payload, place, place behind, error; and the disk then. -/
structure NextS where
  p : ByteArray
  at_ : Int
  next : Int
  e : Nat
  D : DiskS
def nextK : Nat → Nat → DiskS → Int → NextS
  | 0, _, D, _ => ⟨ByteArray.empty, 0, 0, 4, D⟩
  | k + 1, n, D, pos =>
    if (rdC D (nmC n)).2.1 ≠ 0 then ⟨ByteArray.empty, 0, 0, (rdC D (nmC n)).2.1, (rdC D (nmC n)).2.2⟩ else
    match (scL (rdC D (nmC n)).1 (n : Nat)).find? (fun x => decide (pos ≤ (n : Int) * 4096 + x)) with
    | none => nextK k (n + 1) (rdC D (nmC n)).2.2 pos
    | some x => ⟨getP (rdC D (nmC n)).1 x, (n : Int) * 4096 + x, (n : Int) * 4096 + (getN (rdC D (nmC n)).1 x : Nat), 0, (rdC D (nmC n)).2.2⟩
def nextT (D : DiskS) (L : LogS) (pos : Int) : NextS :=
  if readyT D L ≠ 0 then ⟨ByteArray.empty, 0, 0, readyT D L, D⟩ else
  nextK (L.chunks - (max pos 0 / 4096).toNat) (max pos 0 / 4096).toNat D pos

def sweepT (D : DiskS) : Nat × DiskS := if (deleteS D newB).1 = 4 then (0, (deleteS D newB).2) else deleteS D newB
def isC (s : ByteArray) : Bool := npOk s && npK s == 99
/-- How many chunks there are: the error, and the number. -/
def cntL : List ByteArray → Nat → Nat × Nat
  | [], c => (0, c)
  | s :: r, c => if isC s = true then (if npN s ≠ c ∨ 200 ≤ npN s then (63, c) else cntL r (c + 1)) else cntL r c
def countT (D : DiskS) (L : LogS) : Nat × DiskS × LogS := ((cntL (D.l.map FileS.name) L.chunks).1, D, { L with chunks := (cntL (D.l.map FileS.name) L.chunks).2 })
def thenD (a : Nat × DiskS) (f : DiskS → Nat × DiskS) : Nat × DiskS := if a.1 = 0 then f a.2 else a
def rewriteT (D : DiskS) (n s : ByteArray) : Nat × DiskS := thenD (thenD (thenD (createS D newB) fun E => appendS E newB s) fun E => syncS E newB) fun E => renameS E newB n
def mendT (D : DiskS) (L : LogS) (n : Nat) (s : ByteArray) (e : Nat) : Nat × DiskS × LogS :=
  if s.size < 12 then ((deleteS D (nmC n)).1, (deleteS D (nmC n)).2, { L with chunks := n }) else
  if e < s.size then onD (fun E => rewriteT E (nmC n) (s.extract 0 e)) D { L with endp := 4096 * n + e } else onD (fun E => syncS E (nmC n)) D { L with endp := 4096 * n + e }
def loadK : Nat → Nat → DiskS → LogS → Nat × DiskS × LogS
  | 0, _, D, L => (0, D, L)
  | k + 1, n, D, L =>
    if (rdC D (nmC n)).2.1 ≠ 0 then ((rdC D (nmC n)).2.1, (rdC D (nmC n)).2.2, L) else
    if scOk (rdC D (nmC n)).1 (n : Nat) = false then (63, (rdC D (nmC n)).2.2, L) else
    if k = 0 then mendT (rdC D (nmC n)).2.2 L n (rdC D (nmC n)).1 (scE (rdC D (nmC n)).1 (n : Nat)) else
    if (rdC D (nmC n)).1.size < 12 ∨ scE (rdC D (nmC n)).1 (n : Nat) < (rdC D (nmC n)).1.size then (63, (rdC D (nmC n)).2.2, L) else
    loadK k (n + 1) (rdC D (nmC n)).2.2 { L with endp := 4096 * n + scE (rdC D (nmC n)).1 (n : Nat) }
def loadT (D : DiskS) (L : LogS) : Nat × DiskS × LogS := loadK L.chunks 0 D L
def openT (D : DiskS) : Nat × DiskS × LogS := thenT (thenT (onD sweepT D ⟨D.starts, 0, 0, 0⟩) countT) loadT
end Go.Proofs.YtedbgimmbapfaaaGreat

/- Own -/
namespace Go.Proofs.YtedbgimmbapfaaaGreat
open Go.RowKit
set_option linter.unusedVariables false

/-- Outside some blocks all that was there is as it was. -/
structure Touch (F : List Nat) (w w' : World) : Prop where
  os : w'.os = w.os
  tape : w'.tape = w.tape
  output : w'.output = w.output
  size : w.heap.size ≤ w'.heap.size
  block : ∀ b, b < w.heap.size → b ∉ F → w'.heap[b]? = w.heap[b]?

section
variable {F G : List Nat} {w a b c w' : World}
theorem Touch.refl (F : List Nat) (w : World) : Touch F w w := ⟨rfl, rfl, rfl, Nat.le_refl _, fun _ _ _ => rfl⟩
theorem Touch.trans (h : Touch F a b) (k : Touch G b c) (hG : ∀ x ∈ G, x ∈ F ∨ a.heap.size ≤ x) : Touch F a c :=
  ⟨k.os.trans h.os, k.tape.trans h.tape, k.output.trans h.output, Nat.le_trans h.size k.size, fun x hx hn =>
    (k.block x (Nat.lt_of_lt_of_le hx h.size) (fun hg => by rcases hG x hg with h1 | h1; exact hn h1; omega)).trans (h.block x hx hn)⟩
theorem Touch.more (h : Touch F a b) (hG : ∀ x ∈ F, x ∈ G ∨ a.heap.size ≤ x) : Touch G a b :=
  ⟨h.os, h.tape, h.output, h.size, fun x hx hn => h.block x hx (fun hf => by rcases hG x hf with h1 | h1; exact hn h1; omega)⟩
theorem Touch.drew (h : Touch F a w) : Touch F a w.drew := ⟨h.os, h.tape, h.output, h.size, h.block⟩
theorem Touch.drewN (h : Touch F a w) (n : Nat) : Touch F a (w.drewN n) := ⟨h.os, h.tape, h.output, h.size, h.block⟩
theorem Touch.alloc (h : Touch F a w) (o : Obj) : Touch F a (w.alloc o) :=
  h.trans (G := []) ⟨rfl, rfl, rfl, by simp, fun k hk _ => Below.heap_alloc _ _ _ hk⟩ (fun _ h => by cases h)
theorem Touch.setCell (h : Touch F a w) {p : Addr} (hp : p.block ∈ F ∨ a.heap.size ≤ p.block) (u : Value) : Touch F a (w.setCell p u) :=
  h.trans (G := [p.block]) ⟨rfl, rfl, rfl, by simp [World.setCell], fun k _ hn => Below.heap_setCell _ _ _ _ (fun e => hn (by simp [e]))⟩ (fun x hx => by
    obtain rfl : x = p.block := by simpa using hx
    exact hp)
theorem Touch.grown (h : Touch F a w) {row : Option Nat} (hg : w.grownBy w' row) (hr : ∀ k, row = some k → k ∈ F ∨ a.heap.size ≤ k) : Touch F a w' :=
  h.trans (G := row.toList) ⟨hg.os, hg.tape, hg.output, hg.size, fun k hk hn => hg.block k hk (fun e => hn (by rw [← e]; simp))⟩ (fun x hx => hr x (by simpa using hx))
theorem Touch.of_below (h : Below w.heap.size w w') : Touch [] w w' := ⟨h.os, h.tape, h.output, h.size, fun k hk _ => h.block k hk⟩
theorem Touch.below (h : Touch F w w') {B : Nat} (hB : B ≤ w.heap.size) (hF : ∀ x ∈ F, B ≤ x) : Below B w w' :=
  ⟨h.os, h.tape, h.output, h.size, fun k hk => h.block k (by omega) (fun hf => by have := hF k hf; omega)⟩
theorem Touch.cell (h : Touch F w w') {p : Addr} (hp : p.block < w.heap.size) (hn : p.block ∉ F) : w'.cell? p = w.cell? p := World.cell?_of_block (w := w) (h.block p.block hp hn)
end

/-- A block that is known whole. -/
def Blok (w : World) (g : Nat) (t : TypeId) (cs : Array Value) : Prop := w.heap[g]? = some (.cells cs t (0, 0))
section
variable {F : List Nat} {w w' : World} {g : Nat} {t : TypeId} {cs : Array Value}
theorem Blok.lt (h : Blok w g t cs) : g < w.heap.size := by
  rcases Nat.lt_or_ge g w.heap.size with hlt | hge
  · exact hlt
  · unfold Blok at h; rw [Array.getElem?_eq_none hge] at h; cases h
theorem Blok.cell (h : Blok w g t cs) (i : Nat) : w.cell? ⟨g, i, none⟩ = cs[i]? := cell_of_row w g i cs t (0, 0) h
theorem Blok.frozen (h : Blok w g t cs) (i : Nat) : w.frozen? ⟨g, i, none⟩ = false := frozen_of_row w g i cs t h
theorem Blok.new (w : World) (t : TypeId) (cs : Array Value) : Blok (w.alloc (.cells cs t)) w.heap.size t cs := heap_alloc_new w _
theorem Blok.drew (h : Blok w g t cs) : Blok w.drew g t cs := h
theorem Blok.drewN (h : Blok w g t cs) (n : Nat) : Blok (w.drewN n) g t cs := h
theorem Blok.alloc (h : Blok w g t cs) (o : Obj) : Blok (w.alloc o) g t cs := (Below.heap_alloc w o g h.lt).trans h
theorem Blok.put (h : Blok w g t cs) (i : Nat) (u : Value) : Blok (w.setCell ⟨g, i, none⟩ u) g t (cs.setIfInBounds i u) := heap_setCell_same w g i cs t u h
theorem Blok.far (h : Blok w g t cs) {p : Addr} (hp : g ≠ p.block) (u : Value) : Blok (w.setCell p u) g t cs := (heap_setCell_other w p g u hp).trans h
theorem Blok.touch (h : Blok w g t cs) (ht : Touch F w w') (hg : g ∉ F) : Blok w' g t cs := (ht.block g h.lt hg).trans h
theorem Blok.type_ne {g' : Nat} {t' : TypeId} {cs' : Array Value} (h : Blok w g t cs) (h' : Blok w g' t' cs') (hne : t ≠ t') : g ≠ g' := by
  rintro rfl
  unfold Blok at h h'
  rw [h] at h'
  injection h' with h'
  injection h' with _ ht
  exact hne ht
end

section
variable {F : List Nat} {w w' : World} {base : Nat} {e : TypeId} {size n : Nat} {v : Value} {xs : List Value}
theorem own_touch (h : w.ownsRow base e size v n xs) (ht : Touch F w w') (hF : ∀ b, v.ownBlock = some b → b ∉ F) : w'.ownsRow base e size v n xs := by
  refine ⟨h.1, ?_⟩
  rcases h.2 with h0 | ⟨g, cap, cur, rfl, hb, hg, h1, h2, h3, h4⟩
  · exact .inl h0
  · have hlt : g < w.heap.size := (h.lt g rfl).2
    exact .inr ⟨g, cap, cur, rfl, hb, (ht.block g hlt (hF g rfl)).trans hg, h1, h2, h3, h4⟩
theorem own_far (h : w.ownsRow base e size v n xs) {p : Addr} (hp : v.ownBlock ≠ some p.block) (u : Value) : (w.setCell p u).ownsRow base e size v n xs :=
  own_touch h (Touch.setCell (F := [p.block]) (Touch.refl _ w) (Or.inl (by simp)) u) (fun b hb hm => hp (by rw [hb]; simpa using hm))
theorem own_ne {g : Nat} {t : TypeId} {cs : Array Value} (h : w.ownsRow base e size v n xs) (hg : Blok w g t cs) (hne : e ≠ t) : v.ownBlock ≠ some g := by
  rcases h.2 with ⟨rfl, _⟩ | ⟨g', cap, cur, rfl, _, hh, _⟩
  · simp [Value.ownBlock]
  · intro he
    have : g' = g := by simpa [Value.ownBlock] using he
    subst this
    exact Blok.type_ne (show Blok w g' e cur from hh) hg hne rfl
theorem own_own_ne {base' : Nat} {e' : TypeId} {size' n' : Nat} {v' : Value} {xs' : List Value} (h : w.ownsRow base e size v n xs) (h' : w.ownsRow base' e' size' v' n' xs') (hne : e ≠ e') : ∀ b, v'.ownBlock = some b → v.ownBlock ≠ some b := by
  intro b hb
  rcases h'.2 with ⟨rfl, _⟩ | ⟨g', cap, cur, rfl, _, hh, _⟩
  · simp [Value.ownBlock] at hb
  · obtain rfl : g' = b := by simpa [Value.ownBlock] using hb
    exact own_ne h (show Blok w g' e' cur from hh) hne
/-- The slice's own shape. -/
theorem own_form (h : w.ownsRow base e size v n xs) : ∃ A cap, v = .slice A n cap ∧ n ≤ cap ∧ cap ≤ maxLen ∧ (0 < n → ∃ b, A = some ⟨b, 0, none⟩ ∧ base ≤ b ∧ b < w.heap.size) ∧ (A = none → n = 0 ∧ cap = 0) := by
  rcases h.2 with ⟨rfl, rfl⟩ | ⟨g, cap, cur, rfl, hb, hg, h1, h2, h3, h4⟩
  · exact ⟨none, 0, rfl, Nat.le_refl _, Nat.zero_le _, fun h => absurd h (by omega), fun _ => ⟨rfl, rfl⟩⟩
  · exact ⟨_, cap, rfl, h1, h2, fun _ => ⟨g, rfl, hb, (h.lt g rfl).2⟩, fun h => by cases h⟩
end
end Go.Proofs.YtedbgimmbapfaaaGreat

/- DiskRef -/
namespace Go.Proofs.YtedbgimmbapfaaaGreat
open Go.RowKit
set_option linter.unusedVariables false

/-- A file's cells. -/
def fcells (f : FileS) : List Value := [.string f.name, .string f.data, .int .i64 f.synced]
def frow (l : List FileS) : List Value := l.flatMap fcells
theorem frow_length (l : List FileS) : (frow l).length = l.length * 3 := by
  induction l with
  | nil => rfl
  | cons f l ih =>
    have e : frow (f :: l) = fcells f ++ frow l := rfl
    rw [e, List.length_append, ih, List.length_cons]
    show 3 + l.length * 3 = _
    omega
theorem frow_at (l : List FileS) : ∀ (k : Nat) (f : FileS), l[k]? = some f → ∀ j, j < 3 → (frow l)[k * 3 + j]? = (fcells f)[j]? := by
  induction l with
  | nil => intro k f h; simp at h
  | cons x l ih =>
    intro k f h j hj
    have e : frow (x :: l) = fcells x ++ frow l := rfl
    have hl : (fcells x).length = 3 := rfl
    rw [e]
    cases k with
    | zero =>
      obtain rfl : x = f := by simpa using h
      rw [Nat.zero_mul, Nat.zero_add, List.getElem?_append_left (by omega)]
    | succ k =>
      rw [List.getElem?_append_right (by omega), hl, show (k + 1) * 3 + j - 3 = k * 3 + j by omega]
      exact ih k f (by simpa using h) j hj
def ints (l : List Int) : List Value := l.map (Value.int .i64)

section
variable {w w' : World} {base g : Nat} {F G : List Nat} {D : DiskS}
end

theorem some_at {l : List FileS} {k : Nat} (h : k < l.length) : ∃ f, l[k]? = some f := ⟨l[k], List.getElem?_eq_getElem h⟩

/-- Find's answer. -/
def foundV (l : List FileS) (n : ByteArray) : Int := if findS l n < l.length then (findS l n : Int) else -1

theorem str_ne {a b : ByteArray} (h : a ≠ b) : (a.toList == b.toList) = false := by
  refine beq_eq_false_iff_ne.2 (fun e => h ?_)
  rw [ByteArray.toList_eq, ByteArray.toList_eq] at e
  exact ByteArray.ext (Array.toList_inj.1 e)
theorem str_eq (a : ByteArray) : (a.toList == a.toList) = true := by simp

theorem find_lt {l : List FileS} {n : ByteArray} {k : Nat} {f : FileS} (h : l[k]? = some f) (hf : f.name = n) : findS l n ≤ k := by
  unfold findS
  have hk : k < l.length := (List.getElem?_eq_some_iff.1 h).1
  rcases Nat.lt_or_ge k (l.findIdx (fun f => decide (f.name = n))) with c | c
  · have := List.not_of_lt_findIdx c
    rw [List.getElem?_eq_getElem hk] at h
    have e : l[k] = f := by simpa using h
    rw [e] at this
    simp [hf] at this
  · exact c
theorem find_at {l : List FileS} {n : ByteArray} (h : findS l n < l.length) : ∃ f, l[findS l n]? = some f ∧ f.name = n := by
  have h' : l.findIdx (fun f => decide (f.name = n)) < l.length := h
  have := List.findIdx_getElem (w := h')
  exact ⟨l[findS l n], List.getElem?_eq_getElem h, of_decide_eq_true this⟩
theorem find_le (l : List FileS) (n : ByteArray) : findS l n ≤ l.length := List.findIdx_le_length
theorem found_yes {l : List FileS} {k : Nat} {f : FileS} (h : l[k]? = some f) (hn : ∀ j g, j < k → l[j]? = some g → g.name ≠ f.name) : foundV l f.name = (k : Int) := by
  have h1 := find_lt h rfl
  have hk : k < l.length := (List.getElem?_eq_some_iff.1 h).1
  obtain ⟨g, hg, e⟩ := find_at (l := l) (n := f.name) (by omega)
  unfold foundV
  rw [if_pos (by omega)]
  rcases Nat.lt_or_ge (findS l f.name) k with c | c
  · exact absurd e (hn _ g c hg)
  · omega
theorem found_no {l : List FileS} {n : ByteArray} (hn : ∀ j g, j < l.length → l[j]? = some g → g.name ≠ n) : foundV l n = -1 := by
  unfold foundV
  rw [if_neg]
  intro hlt
  obtain ⟨g, hg, e⟩ := find_at hlt
  exact hn _ g hlt hg e
theorem none_next {l : List FileS} {n : ByteArray} {k : Nat} {f : FileS} (h : l[k]? = some f) (hn : ∀ j g, j < k → l[j]? = some g → g.name ≠ n) (hf : ¬ f.name = n) : ∀ j g, j < k + 1 → l[j]? = some g → g.name ≠ n := by
  intro j g hj hg
  rcases Nat.lt_or_ge j k with c | c
  · exact hn j g c hg
  · obtain rfl : j = k := by omega
    rw [h] at hg
    obtain rfl : f = g := by simpa using hg
    exact hf

theorem used_take (l : List FileS) (k : Nat) (f : FileS) (h : l[k]? = some f) : usedS (l.take (k + 1)) = usedS (l.take k) + f.data.size := by
  unfold usedS
  rw [List.take_add_one, h, List.map_append, List.sum_append]
  simp
theorem used_le (l : List FileS) (k : Nat) : usedS (l.take k) ≤ usedS l := by
  have h : usedS l = usedS (l.take k) + usedS (l.drop k) := by
    unfold usedS
    rw [← List.sum_append, ← List.map_append, List.take_append_drop]
  omega
end Go.Proofs.YtedbgimmbapfaaaGreat

/- DiskRefSet -/
namespace Go.Proofs.YtedbgimmbapfaaaGreat
open Go.RowKit
set_option linter.unusedVariables false

theorem frow_set (x : FileS) (l : List FileS) (k j : Nat) (u : Value) : (fcells x ++ frow l).set ((k + 1) * 3 + j) u = fcells x ++ (frow l).set (k * 3 + j) u := by
  have hl : (fcells x).length = 3 := rfl
  rw [List.set_append, if_neg (by omega), hl, show (k + 1) * 3 + j - 3 = k * 3 + j by omega]
theorem frow_set1 (l : List FileS) (k : Nat) (f : FileS) (h : l[k]? = some f) (s : ByteArray) : (frow l).set (k * 3 + 1) (.string s) = frow (setF l k (fun f => { f with data := s })) := by
  induction l generalizing k with
  | nil => simp at h
  | cons x l ih =>
    cases k with
    | zero => rfl
    | succ k =>
      have e1 : frow (x :: l) = fcells x ++ frow l := rfl
      have e2 : frow (setF (x :: l) (k + 1) (fun f => { f with data := s })) = fcells x ++ frow (setF l k (fun f => { f with data := s })) := rfl
      rw [e1, e2, frow_set, ih k (by simpa using h)]
theorem frow_set2 (l : List FileS) (k : Nat) (f : FileS) (h : l[k]? = some f) (s : Nat) : (frow l).set (k * 3 + 2) (.int .i64 s) = frow (setF l k (fun f => { f with synced := s })) := by
  induction l generalizing k with
  | nil => simp at h
  | cons x l ih =>
    cases k with
    | zero => rfl
    | succ k =>
      have e1 : frow (x :: l) = fcells x ++ frow l := rfl
      have e2 : frow (setF (x :: l) (k + 1) (fun f => { f with synced := s })) = fcells x ++ frow (setF l k (fun f => { f with synced := s })) := rfl
      rw [e1, e2, frow_set, ih k (by simpa using h)]
theorem setF_length (l : List FileS) (k : Nat) (h : FileS → FileS) : (setF l k h).length = l.length := by unfold setF; simp

section
variable {w w' : World} {base g : Nat} {F G : List Nat} {D : DiskS}
end

/-- A slice of numbers that lies in a block of numbers. -/
def IntsAt (w : World) (v : Value) (l : List Int) : Prop :=
  (l = [] ∧ ∃ a c, v = .slice a 0 c) ∨ ∃ b off cap cs fr, v = .slice (some ⟨b, off, none⟩) l.length cap ∧ l.length ≤ cap ∧ cap ≤ maxLen ∧ w.heap[b]? = some (.cells cs 3 fr) ∧ ∀ i x, l[i]? = some x → cs[off + i]? = some (.int .i64 x)
theorem IntsAt.of_own {w : World} {base : Nat} {v : Value} {l : List Int} (h : w.ownsRow base 3 1 v l.length (ints l)) : IntsAt w v l := by
  rcases h.2 with ⟨rfl, e⟩ | ⟨b, cap, cs, rfl, _, h2, h3, h4, _, h6⟩
  · exact Or.inl ⟨List.eq_nil_of_length_eq_zero e, none, 0, rfl⟩
  · refine Or.inr ⟨b, 0, cap, cs, (0, 0), rfl, h3, h4, h2, fun i x hx => ?_⟩
    have hi : i < l.length := (List.getElem?_eq_some_iff.1 hx).1
    have e : (ints l)[i]? = some (.int .i64 x) := by unfold ints; rw [List.getElem?_map, hx]; rfl
    rw [← h6, List.getElem?_take, if_pos (by omega)] at e
    simpa using e
theorem IntsAt.touch {F : List Nat} {w w' : World} {v : Value} {l : List Int} (h : IntsAt w v l) (ht : Touch F w w') (hF : ∀ b cs fr, b ∈ F → w.heap[b]? ≠ some (.cells cs 3 fr)) : IntsAt w' v l := by
  rcases h with h | ⟨b, off, cap, cs, fr, h1, h2, h3, h4, h5⟩
  · exact Or.inl h
  · have hlt : b < w.heap.size := by
      rcases Nat.lt_or_ge b w.heap.size with c | c
      · exact c
      · rw [Array.getElem?_eq_none c] at h4; cases h4
    exact Or.inr ⟨b, off, cap, cs, fr, h1, h2, h3, (ht.block b hlt (fun hb => hF b cs fr hb h4)).trans h4, h5⟩
theorem IntsAt.cell {w : World} {v : Value} {l : List Int} (h : IntsAt w v l) : ∃ A off cap, v = .slice A l.length cap ∧ l.length ≤ maxLen ∧ ∀ i x, l[i]? = some x → ∃ b, A = some ⟨b, off, none⟩ ∧ w.cell? ⟨b, off + i, none⟩ = some (.int .i64 x) := by
  rcases h with ⟨rfl, a, c, rfl⟩ | ⟨b, off, cap, cs, fr, h1, h2, h3, h4, h5⟩
  · exact ⟨a, 0, c, rfl, Nat.zero_le _, fun i x h => by simp at h⟩
  · refine ⟨some ⟨b, off, none⟩, off, cap, h1, by omega, fun i x hx => ⟨b, rfl, ?_⟩⟩
    rw [cell_of_row w b (off + i) cs _ fr h4]
    exact h5 i x hx
theorem fails_eq (D : DiskS) : { D with fails := D.fails } = D := rfl
end Go.Proofs.YtedbgimmbapfaaaGreat
