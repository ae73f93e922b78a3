/- PtMem, PtSmall, PtAsk, PtRead, PtRange, PtLast -/
import Derived.Test.YtmbhafabphogdaaGreatRk31
import Derived.Test.YtmbhafabphogdaaGreatRk03
import Derived.Test.YtmbhafabphogdaaGreatRk04
import Derived.Test.YtmbhafabphogdaaGreatRk09
import Derived.Test.YtmbhafabphogdaaGreatRk34
import Derived.Test.YtmbhafabphogdaaGreatRk30
import Derived.Deep.RegionHeld3
import Derived.Test.YtmbhafabphogdaaGreatRk29
import Derived.Deep.DeepMust
/- PtMem -/
namespace Go.Proofs.YtmbhafabphogdaaGreat
open Go.RowKit
set_option linter.unusedVariables false
set_option maxRecDepth 100000

/-- A disk is alive, nothing that was there at first has changed, and these blocks are others'. -/
def DS (At : Lies) (w0 : World) (gd : Nat) (D : DiskS) (E : List Nat) (w : World) : Prop :=
  ∃ F, At w w0.heap.size gd F D ∧ Below w0.heap.size w0 w ∧ ∀ b ∈ E, b ∉ F ∧ b < w.heap.size
/-- Blocks are as they were. -/
structure Kept (E : List Nat) (w w' : World) : Prop where
  size : w.heap.size ≤ w'.heap.size
  block : ∀ b ∈ E, w'.heap[b]? = w.heap[b]?
/-- A call's end. -/
def DEnd (At : Lies) (w0 : World) (gd : Nat) (v : Value) (D' : DiskS) (E : List Nat) (w : World) (e : Ending) (w' : World) : Prop := e = .returned v ∧ DS At w0 gd D' E w' ∧ Kept E w w'
abbrev ownL (v : Value) : List Nat := v.ownBlock.toList
theorem ownL_mem {v : Value} {b : Nat} : b ∈ ownL v ↔ v.ownBlock = some b := by simp [ownL]
/-- A call's end that tells a list and an error. -/
def LEnd (At : Lies) (w0 : World) (gd : Nat) (l : List EntS) (r : Nat) (D' : DiskS) (E : List Nat) (w : World) (e : Ending) (w' : World) : Prop :=
  ∃ A c, e = .returned (.tuple #[.slice A l.length c, .int .i64 (r : Nat)]) ∧ EntRow w' w0.heap.size (.slice A l.length c) l ∧ DS At w0 gd D' (ownL (.slice A l.length c) ++ E) w' ∧ Kept E w w'

section
variable {E E' : List Nat} {w w' w'' : World}
theorem Kept.refl (E : List Nat) (w : World) : Kept E w w := ⟨Nat.le_refl _, fun _ _ => rfl⟩
theorem Kept.trans (h : Kept E w w') (k : Kept E w' w'') : Kept E w w'' := ⟨Nat.le_trans h.size k.size, fun b hb => (k.block b hb).trans (h.block b hb)⟩
theorem Kept.less (h : Kept E w w') (hE : ∀ b ∈ E', b ∈ E) : Kept E' w w' := ⟨h.size, fun b hb => h.block b (hE b hb)⟩
theorem Kept.drew (h : Kept E w w') : Kept E w w'.drew := ⟨h.size, h.block⟩
theorem Kept.blok {g : Nat} {t : TypeId} {cs : Array Value} (h : Kept E w w') (hb : Blok w g t cs) (hg : g ∈ E) : Blok w' g t cs := (h.block g hg).trans hb
theorem Kept.row {base : Nat} {v : Value} {l : List EntS} (h : Kept E w w') (hr : EntRow w base v l) (hE : ∀ b ∈ ownL v, b ∈ E) : EntRow w' base v l := by
  refine ⟨hr.1, ?_⟩
  rcases hr.2 with h0 | ⟨g, cap, cur, hv, hg, hh, r⟩
  · exact Or.inl h0
  · exact Or.inr ⟨g, cap, cur, hv, hg, (h.block g (hE g (ownL_mem.2 (by rw [hv]; rfl)))).trans hh, r⟩
theorem Kept.mids {v : Value} {l : List MidS} (h : Kept E w w') (hm : MidsIn w v l) (hE : ∀ b ∈ ownL v, b ∈ E) : MidsIn w' v l := by
  rcases hm with hm | ⟨b, off, cap, rfl, h1, h2, h3, h4⟩
  · exact Or.inl hm
  · exact Or.inr ⟨b, off, cap, rfl, h1, h2, Nat.lt_of_lt_of_le h3 h.size, fun i x hx j u hu => (World.cell?_of_block (w := w) (h.block b (hE b (ownL_mem.2 rfl)))).trans (h4 i x hx j u hu)⟩
theorem Kept.ents {v : Value} {l : List EntS} (h : Kept E w w') (hm : EntsIn w v l) (hE : ∀ b ∈ ownL v, b ∈ E) : EntsIn w' v l := by
  rcases hm with hm | ⟨b, off, cap, rfl, h1, h2, h3, h4⟩
  · exact Or.inl hm
  · exact Or.inr ⟨b, off, cap, rfl, h1, h2, Nat.lt_of_lt_of_le h3 h.size, fun i x hx j u hu => (World.cell?_of_block (w := w) (h.block b (hE b (ownL_mem.2 rfl)))).trans (h4 i x hx j u hu)⟩
theorem Kept.filter {f : Value} {t : ByteArray} {p q : Value} {m : Option Nat} (h : Kept E w w') (hf : FilterAt w (.agg #[p, q, .map m]) t) (hE : ∀ b, m = some b → b ∈ E) : FilterAt w' (.agg #[p, q, .map m]) t := by
  rcases hf with hf | ⟨h1, mb, e, hm⟩
  · exact Or.inl hf
  · refine Or.inr ⟨h1, mb, e, hm.of_block (h.block mb (hE mb ?_))⟩
    injection e with e
    have := congrArg (fun a => a[2]?) e
    simpa using this
theorem Kept.of_touch {B : List Nat} (ht : Touch B w w') (hE : ∀ b ∈ E, b < w.heap.size ∧ b ∉ B) : Kept E w w' := ⟨ht.size, fun b h => ht.block b (hE b h).1 (hE b h).2⟩
theorem touch_3 {g : Nat} (w : World) (a b c : Value) : Touch [g] w (((w.setCell ⟨g, 0, none⟩ a).setCell ⟨g, 1, none⟩ b).setCell ⟨g, 2, none⟩ c) :=
  (((Touch.refl [g] w).setCell (p := ⟨g, 0, none⟩) (Or.inl (List.mem_singleton.2 rfl)) a).setCell (p := ⟨g, 1, none⟩) (Or.inl (List.mem_singleton.2 rfl)) b).setCell (p := ⟨g, 2, none⟩) (Or.inl (List.mem_singleton.2 rfl)) c
theorem row_own {base : Nat} {v : Value} {l : List EntS} (h : EntRow w base v l) : ∀ b ∈ ownL v, base ≤ b ∧ b < w.heap.size := by
  intro b hb
  have hb := ownL_mem.1 hb
  rcases h.2 with ⟨rfl, -⟩ | ⟨g, cap, cur, rfl, hg, hh, -⟩
  · cases hb
  · have e : g = b := by simpa [Value.ownBlock] using hb
    rw [← e]
    exact ⟨hg, (Array.getElem?_eq_some_iff.1 hh).1⟩
theorem Kept.of_below (hb : Below w.heap.size w w') (hE : ∀ b ∈ E, b < w.heap.size) : Kept E w w' := ⟨hb.size, fun b h => hb.block b (hE b h)⟩
end

section
variable {At : Lies} {w0 w w' : World} {gd : Nat} {D D' : DiskS} {E E' : List Nat}
theorem DS.kept (h : DS At w0 gd D E w) : Below w0.heap.size w0 w := by obtain ⟨F, h1, h2, h3⟩ := h; exact h2
theorem DS.lt (h : DS At w0 gd D E w) : ∀ b ∈ E, b < w.heap.size := by obtain ⟨F, h1, h2, h3⟩ := h; exact fun b hb => (h3 b hb).2
theorem DS.less (h : DS At w0 gd D E w) (hE : ∀ b ∈ E', b ∈ E) : DS At w0 gd D E' w := by
  obtain ⟨F, h1, h2, h3⟩ := h
  exact ⟨F, h1, h2, fun b hb => h3 b (hE b hb)⟩
theorem DS.rise (api : DiskApi At) (h : DS At w0 gd D E w) : D.l.Pairwise (fun f g => lessB f.name g.name = true) := by
  obtain ⟨F, h1, h2, h3⟩ := h
  exact (api.rise h1).1
/-- The others' own doing. -/
theorem DS.own (api : DiskApi At) (h : DS At w0 gd D E w) (ht : Touch E w w') (hl : ∀ b ∈ E, w0.heap.size ≤ b) : DS At w0 gd D E w' := by
  obtain ⟨F, h1, h2, h3⟩ := h
  exact ⟨F, api.touch h1 ht (fun x hx hm => (h3 x hm).1 hx), h2.trans (ht.below h2.size hl), fun b hb => ⟨(h3 b hb).1, Nat.lt_of_lt_of_le (h3 b hb).2 ht.size⟩⟩
theorem DS.own2 (api : DiskApi At) (h : DS At w0 gd D E w) {B : List Nat} (ht : Touch B w w') (hB : ∀ b ∈ B, b ∈ E ∧ w0.heap.size ≤ b) : DS At w0 gd D E w' := by
  obtain ⟨F, h1, h2, h3⟩ := h
  exact ⟨F, api.touch h1 ht (fun x hx hm => (h3 x (hB x hm).1).1 hx), h2.trans (ht.below h2.size (fun x hx => (hB x hx).2)), fun b hb => ⟨(h3 b hb).1, Nat.lt_of_lt_of_le (h3 b hb).2 ht.size⟩⟩
theorem DS.below (api : DiskApi At) (h : DS At w0 gd D E w) (hb : Below w.heap.size w w') : DS At w0 gd D E w' := by
  obtain ⟨F, h1, h2, h3⟩ := h
  exact ⟨F, api.touch h1 (Touch.of_below hb) (fun _ _ => by simp), h2.trans (hb.mono h2.size), fun b hb2 => ⟨(h3 b hb2).1, Nat.lt_of_lt_of_le (h3 b hb2).2 hb.size⟩⟩
theorem DS.drew (api : DiskApi At) (h : DS At w0 gd D E w) : DS At w0 gd D E w.drew := h.below api (Below.refl _ _).drew
theorem DS.drewN (api : DiskApi At) (h : DS At w0 gd D E w) (k : Nat) : DS At w0 gd D E (w.drewN k) := h.below api (below_drewN (Below.refl _ _) k)
/-- What was made since is another's. -/
theorem DS.more (api : DiskApi At) (h : DS At w0 gd D E w) (hb : Below w.heap.size w w') {B : List Nat} (hB : ∀ b ∈ B, w.heap.size ≤ b ∧ b < w'.heap.size) : DS At w0 gd D (B ++ E) w' := by
  obtain ⟨F, h1, h2, h3⟩ := h
  refine ⟨F, api.touch h1 (Touch.of_below hb) (fun _ _ => by simp), h2.trans (hb.mono h2.size), fun b hm => ?_⟩
  rcases List.mem_append.1 hm with hm | hm
  · exact ⟨fun hf => by have := (api.low h1 b hf).2; have := (hB b hm).1; omega, (hB b hm).2⟩
  · exact ⟨(h3 b hm).1, Nat.lt_of_lt_of_le (h3 b hm).2 hb.size⟩
/-- A call of the disk. -/
theorem DS.disk (api : DiskApi At) (h : DS At w0 gd D E w) {P : Program} {f : FuncId} {args : Array Value} {v : Value} (hc : ∀ F, At w w0.heap.size gd F D → Calls P f args w (EndAt At w0.heap.size gd F w v D')) : Calls P f args w (DEnd At w0 gd v D' E w) := by
  obtain ⟨F, h1, h2, h3⟩ := h
  refine (hc F h1).mono ?_
  rintro e w' ⟨F', e1, e2, e3, e4⟩
  refine ⟨e1, ⟨F', e2, h2.trans (e4.below h2.size (fun x hx => (api.low h1 x hx).1)), fun b hb => ⟨fun hm => ?_, Nat.lt_of_lt_of_le (h3 b hb).2 e4.size⟩⟩, e4.size, fun b hb => e4.block b (h3 b hb).2 (h3 b hb).1⟩
  rcases e3 b hm with k | k
  · exact (h3 b hb).1 k
  · have := (h3 b hb).2; omega
theorem DS.at_ (h : DS At w0 gd D E w) : ∃ F, At w w0.heap.size gd F D := by obtain ⟨F, h1, -⟩ := h; exact ⟨F, h1⟩
theorem DS.size (api : DiskApi At) (h : DS At w0 gd D E w) (ok : WfP D) (n : ByteArray) (hn : n.size ≤ maxLen) : Calls Tryz.prog 19 #[ptr gd, .string n] w fun e w' => e = .returned (.tuple #[.int .i64 ((sizeS D n).1 : Nat), err (sizeS D n).2]) ∧ w = w' := by
  obtain ⟨F, h1⟩ := h.at_
  exact api.sizeq n h1 ok.ok hn
theorem DEnd.below {v : Value} {e : Ending} {w1 : World} (api : DiskApi At) (h : DS At w0 gd D E w) (hb : Below w.heap.size w w1) (he : DEnd At w0 gd v D' E w1 e w') : DEnd At w0 gd v D' E w e w' :=
  ⟨he.1, he.2.1, (Kept.of_below hb h.lt).trans he.2.2⟩
end

/-- A table that is open: its cells, the midpoints, the filter; which blocks these are. -/
def PtAt (w : World) (gt gd : Nat) (n : Int) (l : List EntS) (t : ByteArray) (G : List Nat) : Prop :=
  ∃ A c p q m, Blok w gt 83 #[ptr gt, ptr gd, .int .i64 n, .int .i64 (l.length : Nat), .slice A (midsL l).length c, .int .i64 p, .int .i64 q, .map m] ∧
    MidsIn w (.slice A (midsL l).length c) (midsL l) ∧ FilterAt w (.agg #[.int .i64 p, .int .i64 q, .map m]) t ∧ gt ∈ G ∧ (∀ b ∈ ownL (.slice A (midsL l).length c), b ∈ G) ∧ ∀ b, m = some b → b ∈ G
section
variable {w w' : World} {gt gd : Nat} {n : Int} {l : List EntS} {t : ByteArray} {G E : List Nat}
theorem PtAt.keep (h : PtAt w gt gd n l t G) (hk : Kept E w w') (hG : ∀ b ∈ G, b ∈ E) : PtAt w' gt gd n l t G := by
  obtain ⟨A, c, p, q, m, h1, h2, h3, h4, h5, h6⟩ := h
  exact ⟨A, c, p, q, m, hk.blok h1 (hG gt h4), hk.mids h2 (fun b hb => hG b (h5 b hb)), hk.filter (f := .nilIface) h3 (fun b hb => hG b (h6 b hb)), h4, h5, h6⟩
theorem PtAt.below (h : PtAt w gt gd n l t G) (hb : Below w.heap.size w w') : PtAt w' gt gd n l t G := by
  obtain ⟨A, c, p, q, m, h1, h2, h3, h4, h5, h6⟩ := h
  exact ⟨A, c, p, q, m, Blok.below h1 hb, h2.below hb (Nat.le_refl _), h3.below hb, h4, h5, h6⟩
theorem PtAt.drew (h : PtAt w gt gd n l t G) : PtAt w.drew gt gd n l t G := h.below (Below.refl _ _).drew
theorem PtAt.cells (h : PtAt w gt gd n l t G) : w.cell? ⟨gt, 0, none⟩ = some (ptr gt) ∧ w.cell? ⟨gt, 1, none⟩ = some (ptr gd) ∧ w.cell? ⟨gt, 2, none⟩ = some (.int .i64 n) ∧ w.cell? ⟨gt, 3, none⟩ = some (.int .i64 (l.length : Nat)) := by
  obtain ⟨A, c, p, q, m, h1, -⟩ := h
  exact ⟨h1.cell 0, h1.cell 1, h1.cell 2, h1.cell 3⟩
theorem PtAt.lt (h : PtAt w gt gd n l t G) : gt < w.heap.size := by
  obtain ⟨A, c, p, q, m, h1, -⟩ := h
  exact h1.lt
end
end Go.Proofs.YtmbhafabphogdaaGreat

/- PtSmall -/
namespace Go.Proofs.YtmbhafabphogdaaGreat
open Go.RowKit
set_option linter.unusedVariables false
set_option maxRecDepth 100000

theorem info_ptab : (Tryz.prog.info? 83).map (·.size) = some 8 := by kernel_rfl
theorem ptsame_in (d : Nat) (p : Addr) (w : World) : (Op.equalIn (d + 1) 33 (.pointer (some p)) (.pointer (some p))).run Tryz.prog w = .ok true w := by
  cases hq : Tryz.prog.info? 83 with
  | none => have := info_ptab; rw [hq] at this; cases this
  | some i =>
    have hi : i.size = 8 := by have := info_ptab; rw [hq] at this; simpa using this
    simp [Op.equalIn, run_underlying Tryz.underlying33, sizeOf, typeInfo, hq, sameAddr]
theorem ptnil_in (d : Nat) (p : Addr) (w : World) : (Op.equalIn (d + 1) 33 (.pointer none) (.pointer (some p))).run Tryz.prog w = .ok false w := by
  simp [Op.equalIn, run_underlying Tryz.underlying33]
theorem ptsame_ptr (p : Addr) (w : World) : (binOp .neq 33 (.pointer (some p)) (.pointer (some p))).run Tryz.prog w = .ok (.bool false) w := by
  have he : (Op.equal 33 (.pointer (some p)) (.pointer (some p))).run Tryz.prog w = .ok true w := ptsame_in 9999 p w
  simp only [binOp]
  simp [he]
theorem ptnone_run {w : World} {gt : Nat} (h : w.cell? ⟨gt, 0, none⟩ = some (ptr gt)) : Calls Tryz.prog 43 #[ptr gt] w fun e w' => e = .returned (.bool false) ∧ w = w' := by
  have hsp := ptsame_ptr ⟨gt, 0, none⟩
  go_enter Tryz.func43, Tryz.ntmps43
  go_wp2
  go_ret
  exact ⟨rfl, rfl⟩
theorem ptnone_nil (w : World) : Calls Tryz.prog 43 #[.pointer none] w fun e w' => e = .returned (.bool true) ∧ w = w' := by
  go_enter Tryz.func43, Tryz.ntmps43
  go_wp2
  go_ret
  exact ⟨rfl, rfl⟩
section
variable {w : World} {gt gd : Nat} {n : Int} {l : List EntS} {t : ByteArray} {G : List Nat}
theorem ptlen_run (h : PtAt w gt gd n l t G) : Calls Tryz.prog 13 #[ptr gt] w fun e w' => e = .returned (.int .i64 (l.length : Nat)) ∧ w = w' := by
  obtain ⟨c0, c1, c2, c3⟩ := h.cells
  have hn := Lib.hid (ptnone_run c0)
  clear h c0 c1 c2
  generalize l.length = m at *
  go_enter Tryz.func13, Tryz.ntmps13
  go_wp2_with fail
  refine hn.out.mono ?_
  rintro e w' ⟨rfl, rfl⟩
  go_wp2
  go_ret
  exact ⟨rfl, rfl⟩
theorem ptnum_run (h : PtAt w gt gd n l t G) : Calls Tryz.prog 14 #[ptr gt] w fun e w' => e = .returned (.int .i64 n) ∧ w = w' := by
  obtain ⟨c0, c1, c2, c3⟩ := h.cells
  have hn := Lib.hid (ptnone_run c0)
  clear h c0 c1 c3
  go_enter Tryz.func14, Tryz.ntmps14
  go_wp2_with fail
  refine hn.out.mono ?_
  rintro e w' ⟨rfl, rfl⟩
  go_wp2
  go_ret
  exact ⟨rfl, rfl⟩
theorem ptlen_nil (w : World) : Calls Tryz.prog 13 #[.pointer none] w fun e w' => e = .returned (.int .i64 0) ∧ w = w' := by
  have hn := Lib.hid (ptnone_nil w)
  go_enter Tryz.func13, Tryz.ntmps13
  go_wp2_with fail
  refine hn.out.mono ?_
  rintro e w' ⟨rfl, rfl⟩
  go_wp2
  go_ret
  exact ⟨rfl, rfl⟩
theorem ptmay_nil (h : Nat) (w : World) : Calls Tryz.prog 33 #[.pointer none, .int .u64 (h : Nat)] w fun e w' => e = .returned (.bool false) ∧ w = w' := by
  have hn := Lib.hid (ptnone_nil w)
  go_enter Tryz.func33, Tryz.ntmps33
  go_wp2_with fail
  refine hn.out.mono ?_
  rintro e w' ⟨rfl, rfl⟩
  go_wp2
  go_ret
  exact ⟨rfl, rfl⟩
/-- Whether it may have entries of a hash. -/
theorem ptmay_run (h : PtAt w gt gd n l t G) (x : Nat) (hx : x < 18446744073709551616) : Calls Tryz.prog 33 #[ptr gt, .int .u64 (x : Nat)] w fun e w' => e = .returned (.bool (mayP l t x)) ∧ Below w.heap.size w w' := by
  obtain ⟨A, c, p, q, m, h1, h2, h3, -⟩ := h
  have c0 : w.cell? ⟨gt, 0, none⟩ = some (ptr gt) := h1.cell 0
  have c3 : w.cell? ⟨gt, 3, none⟩ = some (.int .i64 (l.length : Nat)) := h1.cell 3
  have c5 : w.cell? ⟨gt, 5, none⟩ = some (.int .i64 p) := h1.cell 5
  have c6 : w.cell? ⟨gt, 6, none⟩ = some (.int .i64 q) := h1.cell 6
  have c7 : w.cell? ⟨gt, 7, none⟩ = some (.map m) := h1.cell 7
  have hn := Lib.hid (ptnone_run c0)
  have hM := Lib.hid (fmay_any _ x t w hx h3)
  unfold mayP
  by_cases h0 : 0 < l.length
  · have t0 : decide ((0 : Int) < (l.length : Int)) = true := decide_eq_true (by omega)
    rw [decide_eq_true h0, Bool.true_and]
    generalize mayT t x = r at *
    generalize l.length = k at *
    clear h1 h2 h3 c0 hx
    go_enter Tryz.func33, Tryz.ntmps33
    go_wp2_with fail
    refine hn.out.mono ?_
    rintro e w' ⟨rfl, rfl⟩
    go_wp2_with fail
    refine hM.out.mono ?_
    rintro e w' ⟨rfl, hb⟩
    go_wp2
    go_ret
    exact ⟨rfl, hb⟩
  · have e0 : l.length = 0 := by omega
    rw [decide_eq_false h0, Bool.false_and]
    rw [e0] at c3
    clear h1 h2 h3 c0 h0 hx hM c5 c6 c7
    go_enter Tryz.func33, Tryz.ntmps33
    go_wp2_with fail
    refine hn.out.mono ?_
    rintro e w' ⟨rfl, rfl⟩
    go_wp2
    go_ret
    exact ⟨rfl, Below.refl _ _⟩
end
/-- An error of the disk, as an open table tells it. -/
theorem told_run (k : Nat) (w : World) (hk : k ≤ 1000) : Calls Tryz.prog 83 #[err k] w fun e w' => e = .returned (err (toldP k)) ∧ w = w' := by
  unfold toldP
  by_cases h0 : k = 0
  · subst h0
    rw [if_pos rfl]
    go_enter Tryz.func83, Tryz.ntmps83
    go_wp2
    go_ret
    exact ⟨rfl, rfl⟩
  · rw [if_neg h0]
    by_cases h1 : k = 61
    · subst h1
      rw [if_pos rfl]
      go_enter Tryz.func83, Tryz.ntmps83
      go_wp2
      go_ret
      exact ⟨rfl, rfl⟩
    · rw [if_neg h1]
      have t0 : ((k : Int) == 0) = false := by simp; omega
      have t1 : ((k : Int) == 61) = false := by simp; omega
      go_enter Tryz.func83, Tryz.ntmps83
      go_wp2
      go_ret
      exact ⟨rfl, rfl⟩
theorem sizeS_two (D : DiskS) (n : ByteArray) : (D.down = true ∧ sizeS D n = (0, 61)) ∨ (D.down = false ∧ ((sizeS D n).2 = 0 ∨ (sizeS D n).2 = 4)) := by
  unfold sizeS
  cases D.down
  · refine Or.inr ⟨rfl, ?_⟩
    rw [if_neg (by decide)]
    split
    · exact Or.inr rfl
    · exact Or.inl rfl
  · exact Or.inl ⟨rfl, rfl⟩
theorem sizeS_most {D : DiskS} (h : WfP D) (n : ByteArray) : (sizeS D n).1 ≤ 1048576 := by
  unfold sizeS
  split
  · exact Nat.zero_le _
  · split
    · exact Nat.zero_le _
    · rename_i f hf
      exact (h.ok.sizes f (List.mem_of_getElem? hf)).2
section
variable {At : Lies} (api : DiskApi At) {w0 w : World} {gd : Nat} {D : DiskS} {E : List Nat}
include api
theorem ptup_run (h : DS At w0 gd D E w) (ok : WfP D) : Calls Tryz.prog 36 #[ptr gd] w fun e w' => e = .returned (err (if D.down = true then 61 else 0)) ∧ w = w' := by
  have hS := h.size api ok ⟨#[110, 101, 119]⟩ (by decide)
  rcases sizeS_two D ⟨#[110, 101, 119]⟩ with ⟨h1, h2⟩ | ⟨h1, h2⟩
  · rw [if_pos h1]
    rw [h2] at hS
    have HS := Lib.hid hS
    clear hS
    go_enter Tryz.func36, Tryz.ntmps36
    go_wp2_with fail
    refine HS.out.mono ?_
    rintro e w' ⟨rfl, rfl⟩
    go_wp2
    go_ret
    exact ⟨rfl, rfl⟩
  · rw [if_neg (by rw [h1]; decide)]
    have t1 : (((sizeS D ⟨#[110, 101, 119]⟩).2 : Int) == 1) = false := by simp; omega
    have t2 : (((sizeS D ⟨#[110, 101, 119]⟩).2 : Int) == 61) = false := by simp; omega
    have HS := Lib.hid hS
    generalize (sizeS D ⟨#[110, 101, 119]⟩).1 = a at *
    generalize (sizeS D ⟨#[110, 101, 119]⟩).2 = b at *
    clear hS h2
    go_enter Tryz.func36, Tryz.ntmps36
    go_wp2_with fail
    refine HS.out.mono ?_
    rintro e w' ⟨rfl, rfl⟩
    go_wp2
    go_ret
    exact ⟨rfl, rfl⟩
theorem ptlay_run (h : DS At w0 gd D E w) (ok : WfP D) (n s : ByteArray) (hn : n.size ≤ maxLen) (hs : s.size ≤ 1099511627776) : Calls Tryz.prog 38 #[ptr gd, .string n, .string s] w (DEnd At w0 gd (err (layP D n s).1) (layP D n s).2 E w) := by
  have k1 := h.disk api (fun F hF => api.create n hF ok.ok hn)
  have o1 := wp_create ok n
  have o2 := wp_append o1 n s
  have k2 := fun W (hW : DS At w0 gd (createS D n).2 E W) => hW.disk api (fun F hF => api.append n s hF o1.ok hs hn)
  have k3 := fun W (hW : DS At w0 gd (appendS (createS D n).2 n s).2 E W) => hW.disk api (fun F hF => api.sync n hF o2.ok hn)
  unfold layP
  by_cases h1 : (createS D n).1 = 0
  · rw [if_neg (by simp [h1])]
    rw [h1] at k1
    by_cases h2 : (appendS (createS D n).2 n s).1 = 0
    · rw [if_neg (by simp [h2])]
      rw [h2] at k2
      generalize syncS (appendS (createS D n).2 n s).2 n = X3 at *
      generalize (appendS (createS D n).2 n s).2 = D2 at *
      generalize (createS D n).2 = D1 at *
      have K1 := Lib.hid k1
      have K2 := Lib.hid k2
      have K3 := Lib.hid k3
      clear k1 k2 k3 h ok o1 o2 h1 h2 hn hs
      go_enter Tryz.func38, Tryz.ntmps38
      go_wp2_with fail
      refine K1.out.mono ?_
      rintro e w1 ⟨rfl, d1, q1⟩
      have H1 := Lib.hid (And.intro d1 q1)
      clear d1 q1
      go_wp2_with fail
      refine (K2.out _ H1.out.1).mono ?_
      rintro e w2 ⟨rfl, d2, q2⟩
      have H2 := Lib.hid (And.intro d2 q2)
      clear d2 q2
      go_wp2_with fail
      refine (K3.out _ H2.out.1).mono ?_
      rintro e w3 ⟨rfl, d3, q3⟩
      have H3 := Lib.hid (And.intro d3 q3)
      clear d3 q3
      go_wp2
      go_ret
      exact ⟨rfl, H3.out.1, (H1.out.2.trans H2.out.2).trans H3.out.2⟩
    · rw [if_pos h2]
      have t : (((appendS (createS D n).2 n s).1 : Int) != 0) = true := by simp; omega
      generalize appendS (createS D n).2 n s = X2 at *
      generalize (createS D n).2 = D1 at *
      generalize X2.1 = y at *
      have K1 := Lib.hid k1
      have K2 := Lib.hid k2
      clear k1 k2 k3 h ok o1 o2 h1 h2 hn hs
      go_enter Tryz.func38, Tryz.ntmps38
      go_wp2_with fail
      refine K1.out.mono ?_
      rintro e w1 ⟨rfl, d1, q1⟩
      have H1 := Lib.hid (And.intro d1 q1)
      clear d1 q1
      go_wp2_with fail
      refine (K2.out _ H1.out.1).mono ?_
      rintro e w2 ⟨rfl, d2, q2⟩
      have H2 := Lib.hid (And.intro d2 q2)
      clear d2 q2
      go_wp2
      go_ret
      exact ⟨rfl, H2.out.1, H1.out.2.trans H2.out.2⟩
  · rw [if_pos h1]
    have t : (((createS D n).1 : Int) != 0) = true := by simp; omega
    generalize createS D n = X1 at *
    generalize X1.1 = y at *
    have K1 := Lib.hid k1
    clear k1 k2 k3 h ok o1 o2 h1 hn hs
    go_enter Tryz.func38, Tryz.ntmps38
    go_wp2_with fail
    refine K1.out.mono ?_
    rintro e w1 ⟨rfl, d1, q1⟩
    have H1 := Lib.hid (And.intro d1 q1)
    clear d1 q1
    go_wp2
    go_ret
    exact ⟨rfl, H1.out.1, H1.out.2⟩
/-- A file's bytes. -/
theorem whole_run (h : DS At w0 gd D E w) (ok : WfP D) (hc : D.count ≤ 1099511627776) (n : ByteArray) (hn : n.size ≤ maxLen) : Calls Tryz.prog 40 #[ptr gd, .string n] w (DEnd At w0 gd (.tuple #[.string (rdW D n).1, err (rdW D n).2.1]) (rdW D n).2.2 E w) := by
  have hz := sizeS_most ok n
  have k1 := h.size api ok n hn
  have k2 := h.disk api (fun F hF => api.read n 0 ((sizeS D n).1 : Nat) hF ok.ok hc (by decide) (WalkArith.wf_i64 (by omega)) hn)
  unfold rdW
  by_cases h1 : (sizeS D n).2 = 0
  · rw [if_pos h1]
    rw [h1] at k1
    generalize (sizeS D n).1 = z at *
    generalize readS D n 0 (z : Nat) = r at *
    have K1 := Lib.hid k1
    have K2 := Lib.hid k2
    clear k1 k2 h ok hc hn h1 hz
    go_enter Tryz.func40, Tryz.ntmps40
    go_wp2_with fail
    refine K1.out.mono ?_
    rintro e w1 ⟨rfl, rfl⟩
    go_wp2_with fail
    refine K2.out.mono ?_
    rintro e w2 ⟨rfl, d2, q2⟩
    have H2 := Lib.hid (And.intro d2 q2)
    clear d2 q2
    go_wp2
    go_ret2
    exact ⟨rfl, H2.out.1, H2.out.2⟩
  · rw [if_neg h1]
    have t : (((sizeS D n).2 : Int) != 0) = true := by simp; omega
    generalize (sizeS D n).1 = z at *
    generalize (sizeS D n).2 = y at *
    have K1 := Lib.hid k1
    have HH := Lib.hid h
    clear k1 k2 h ok hc hn h1 hz
    go_enter Tryz.func40, Tryz.ntmps40
    go_wp2_with fail
    refine K1.out.mono ?_
    rintro e w1 ⟨rfl, rfl⟩
    go_wp2
    go_ret2
    exact ⟨rfl, HH.out, Kept.refl _ _⟩
end
end Go.Proofs.YtmbhafabphogdaaGreat

/- PtAsk -/
namespace Go.Proofs.YtmbhafabphogdaaGreat
open Go.RowKit
set_option linter.unusedVariables false
set_option maxRecDepth 100000

section
variable {At : Lies} (api : DiskApi At) (nap : NamesApi) {w0 w : World} {gt gd : Nat} {D : DiskS} {E G : List Nat} {n : Int} {l : List EntS} {t : ByteArray}
include api nap
theorem ptready_run (h : DS At w0 gd D E w) (hp : PtAt w gt gd n l t G) (ok : WfP D) (wn : (Lit.int .i64 n).wf = true) : Calls Tryz.prog 44 #[ptr gt] w fun e w' => e = .returned (err (readyP D n)) ∧ Below w.heap.size w w' := by
  obtain ⟨c0, c1, c2, c3⟩ := hp.cells
  have hn := Lib.hid (ptnone_run c0)
  have hN := Lib.hid fun W => nap.table n W wn
  have hS := Lib.hid fun W (hW : Below w.heap.size w W) => (h.below api hW).size api ok (ptT n) (ptT_le n)
  have hT := Lib.hid fun W => told_run (sizeS D (ptT n)).2 W (by rcases sizeS_two D (ptT n) with ⟨-, e⟩ | ⟨-, e | e⟩ <;> rw [e] <;> decide)
  have HP := Lib.hid hp
  unfold readyP
  rw [show nmS 116 n = ptT n from rfl] at hN
  generalize toldP (sizeS D (ptT n)).2 = y at *
  generalize sizeS D (ptT n) = z at *
  generalize ptT n = nm at *
  clear h hp ok wn c0 c3
  go_enter Tryz.func44, Tryz.ntmps44
  go_wp2_with fail
  refine hn.out.mono ?_
  rintro e w' ⟨rfl, rfl⟩
  go_wp2_with fail
  go_region_held3 (fun w' => w'.cell? ⟨gt, 1, none⟩ = some (ptr gd) ∧ w'.cell? ⟨gt, 2, none⟩ = some (.int .i64 n)) (first | assumption | exact ⟨by assumption, by assumption⟩ | exact ⟨c1, c2⟩) (first
    | (go_at_call 23; refine (hN.out _).mono ?_; rintro e w1 ⟨rfl, hb⟩; have b1 := bj (show Below w.heap.size w _ from by first | exact (Below.refl _ _).drew | exact Below.refl _ _) hb; have d1 : w1.cell? ⟨gt, 1, none⟩ = some (ptr gd) := (HP.out.below b1).cells.2.1; have d2 : w1.cell? ⟨gt, 2, none⟩ = some (.int .i64 n) := (HP.out.below b1).cells.2.2.1)
    | (go_at_call 19; refine (hS.out _ b1).mono ?_; rintro e w2 ⟨rfl, rfl⟩)
    | fail)
  all_goals
    have B1 := Lib.hid b1
    clear b1 hb d1 d2
    go_wp2_with fail
    refine (hT.out _).mono ?_
    rintro e w3 ⟨rfl, rfl⟩
    go_wp2
    go_ret
    exact ⟨rfl, B1.out⟩
omit api nap in
/-- From where to where so many entries may stand. -/
theorem ahead_run (hp : PtAt w gt gd n l t G) (hn : l.length ≤ 1000000) (x : Nat) (v : Int) {lo hi : Nat} (hI : NarIs l ⟨x, v, 0⟩ lo hi) : Calls Tryz.prog 65 #[ptr gt, .int .u64 (x : Nat), .int .i64 v] w fun e w' => e = .returned (.tuple #[.int .i64 (lo : Nat), .int .i64 (hi : Nat)]) ∧ Below w.heap.size w w' := by
  obtain ⟨A, c, p, q, m, h1, h2, h3, -⟩ := hp
  have c3 : w.cell? ⟨gt, 3, none⟩ = some (.int .i64 (l.length : Nat)) := h1.cell 3
  have c4 : w.cell? ⟨gt, 4, none⟩ = some (.slice A (midsL l).length c) := h1.cell 4
  have hA := Lib.hid fun W (hW : Below w.heap.size w W) => hI.run (h2.below hW (Nat.le_refl _)) hn
  have HX := Lib.hid fun (w1 : World) (hb : Below w.heap.size w w1) => (show w1.cell? ⟨gt, 3, none⟩ = some (.int .i64 (l.length : Nat)) ∧ w1.cell? ⟨gt, 4, none⟩ = some (.slice A (midsL l).length c) from ⟨(Blok.below h1 hb).cell 3, (Blok.below h1 hb).cell 4⟩)
  generalize (midsL l).length = k at *
  generalize l.length = j at *
  clear h1 h2 h3 hI
  go_enter Tryz.func65, Tryz.ntmps65
  go_wp2_with fail
  go_region_held3 (fun w' => w'.cell? ⟨gt, 3, none⟩ = some (.int .i64 (j : Nat)) ∧ w'.cell? ⟨gt, 4, none⟩ = some (.slice A k c)) (first | assumption | exact ⟨by assumption, by assumption⟩ | exact ⟨c3, c4⟩) (first
    | (go_at_call 94; refine (hA.out _ (by first | exact (Below.refl _ _).drew | exact Below.refl _ _)).mono ?_; rintro e w1 ⟨rfl, hb⟩; have b1 := bj (show Below w.heap.size w _ from by first | exact (Below.refl _ _).drew | exact Below.refl _ _) hb; have d3 := (HX.out _ b1).1; have d4 := (HX.out _ b1).2)
    | fail)
  all_goals
    have B1 := Lib.hid b1
    clear b1 hb
    go_wp2
    go_ret2
    exact ⟨rfl, B1.out⟩
end
end Go.Proofs.YtmbhafabphogdaaGreat

/- PtRead -/
namespace Go.Proofs.YtmbhafabphogdaaGreat
open Go.RowKit
set_option linter.unusedVariables false
set_option maxRecDepth 100000

section
variable {At : Lies} (api : DiskApi At) (nap : NamesApi) {w0 w : World} {gt gd : Nat} {D D' : DiskS} {E G : List Nat} {n : Int} {l : List EntS} {t : ByteArray}
include api nap
set_option maxHeartbeats 4000000 in
theorem read_run2 (h : DS At w0 gd D E w) (hp : PtAt w gt gd n l t G) (hG : ∀ b ∈ G, b ∈ E) (ok : WfP D) (hc : D.count ≤ 1099511627776) (wn : (Lit.int .i64 n).wf = true) (lo hi m : Nat) (hm : hi = lo + m) (hhi : hi ≤ 40000) (s : ByteArray)
    (hr : readS D (ptT n) ((8 + 24 * lo : Nat) : Int) ((24 * m : Nat) : Int) = (s, 0, D')) (hs : s.size = 24 * m) (hk : okP s m = true) :
    Calls Tryz.prog 45 #[ptr gt, .int .i64 (lo : Nat), .int .i64 (hi : Nat)] w (LEnd At w0 gd (gotP s m) 0 D' E w) := by
  obtain ⟨c0, c1, c2, c3⟩ := hp.cells
  have hN := Lib.hid fun W => nap.table n W wn
  rw [show nmS 116 n = ptT n from rfl] at hN
  obtain ⟨a, ha⟩ : ∃ a, a = 8 + 24 * lo := ⟨_, rfl⟩
  obtain ⟨b, hb⟩ : ∃ b, b = 8 + 24 * hi := ⟨_, rfl⟩
  obtain ⟨z, hz⟩ : ∃ z, z = 24 * m := ⟨_, rfl⟩
  have HA1 : Hid (∀ W, Calls Tryz.prog 59 #[.int .i64 (lo : Nat)] W fun e w' => e = .returned (.int .i64 (a : Nat)) ∧ W = w') := Lib.hid fun W => by
    have := tat_any (lo : Nat) W
    rw [(tbSz_nat (by omega)).2, ← ha] at this
    exact this
  have HA2 : Hid (∀ W, Calls Tryz.prog 59 #[.int .i64 (hi : Nat)] W fun e w' => e = .returned (.int .i64 (b : Nat)) ∧ W = w') := Lib.hid fun W => by
    have := tat_any (hi : Nat) W
    rw [(tbSz_nat (by omega)).2, ← hb] at this
    exact this
  rw [← ha, ← hz] at hr
  have hR := Lib.hid fun W (hW : Below w.heap.size w W) => (h.below api hW).disk api (v := .tuple #[.string s, .int .i64 0]) (D' := D') (fun F hF => by
    have := api.read (ptT n) (a : Nat) (z : Nat) hF ok.ok hc (WalkArith.wf_i64 (by omega)) (WalkArith.wf_i64 (by omega)) (ptT_le n)
    rw [hr] at this
    exact this)
  have e1 : IntKind.i64.wrap ((b : Int) - (a : Int)) = (z : Int) := by rw [IntWalk.i64_in _ ⟨by omega, by omega⟩]; omega
  have e2 : IntKind.i64.wrap ((hi : Int) - (lo : Int)) = (m : Int) := by rw [IntWalk.i64_in _ ⟨by omega, by omega⟩]; omega
  have e3 : (hi : Int) - (lo : Int) = (m : Int) := by omega
  have e4 : (b : Int) - (a : Int) = (z : Int) := by omega
  have e1z : IntKind.i64.wrap (z : Int) = (z : Int) := IntWalk.i64_in _ ⟨by omega, by omega⟩
  have HP := Lib.hid hp
  have HK := Lib.hid (okP_iff.1 hk)
  obtain ⟨Z, hZ1, hZ2⟩ := tb_make (aheadP s) m (by omega)
  have HZ2 := Lib.hid hZ2
  have HMS := Lib.hid (show ∀ k, k < m → (tbMade (aheadP s) m k).set k (enG (pcP s k)) = tbMade (aheadP s) m (k + 1) from fun k hk => by rw [← ahead_piece]; exact tbMade_set _ hk)
  have HMF := Lib.hid (show tbMade (aheadP s) m m = gotP s m by rw [tbMade_full, ahead_got])
  have HML := Lib.hid (show ∀ k, (tbMade (aheadP s) m k).length = m from fun k => tbMade_length _ m k)
  have HGL := Lib.hid (gotP_length s m)
  have hm2 : m ≤ 40000 := by omega
  have hw : IntKind.i64.wrap (m : Int) = (m : Int) := IntWalk.i64_in _ ⟨by omega, by omega⟩
  have HLT := Lib.hid h.lt
  have HDB := Lib.hid h.kept
  generalize ptT n = nm at *
  clear hr ha hb hk h hp ok hc wn c0 c3 hm hhi hZ2 hz
  go_enter Tryz.func45, Tryz.ntmps45
  go_wp2_with fail
  refine (HA1.out _).mono ?_
  rintro e w1 ⟨rfl, rfl⟩
  have HGE := Lib.hid hG
  go_wp2_with fail
  have hc12 := And.intro c1 c2
  go_region_held3 (fun w' => w'.cell? ⟨gt, 1, none⟩ = some (ptr gd) ∧ w'.cell? ⟨gt, 2, none⟩ = some (.int .i64 n)) (first | (with_reducible assumption) | (with_reducible exact ⟨by with_reducible assumption, by with_reducible assumption⟩) | exact hc12) (first
    | (go_at_call 23; refine (hN.out _).mono ?_; rintro e w1 ⟨rfl, hb⟩; have b1 := bj (show Below w.heap.size w _ from by first | (with_reducible exact (Below.refl _ _).drew) | (with_reducible exact Below.refl _ _)) hb; have d1 : w1.cell? ⟨gt, 1, none⟩ = some (ptr gd) := (HP.out.below b1).cells.2.1; have d2 : w1.cell? ⟨gt, 2, none⟩ = some (.int .i64 n) := (HP.out.below b1).cells.2.2.1; have b2 := b1.drew; have d3 := And.intro d1 d2)
    | (go_at_call 59; refine (HA2.out _).mono ?_; rintro e w2 ⟨rfl, rfl⟩)
    | (go_at_call 24; (try rw [e1z]); go_must (refine (hR.out _ (by first | (with_reducible exact b1) | (with_reducible exact b2))).mono ?_; rintro e w3 ⟨rfl, h3, q3⟩; have d5 := And.intro ((HP.out.below (by first | (with_reducible exact b1) | (with_reducible exact b2))).keep q3 HGE.out).cells.2.1 ((HP.out.below (by first | (with_reducible exact b1) | (with_reducible exact b2))).keep q3 HGE.out).cells.2.2.1))
    | fail)
  all_goals
    have Q3 : Kept E w w3 := by first | exact (Kept.of_below b1 HLT.out).trans q3 | exact (Kept.of_below b2 HLT.out).trans q3
    have H3 := Lib.hid (And.intro h3 Q3)
    have hR3 := HZ2.out w3
    have hb3 := (Below.refl w3.heap.size w3).alloc (Nat.le_refl _) (.cells Z 56)
    clear HZ2 h3 Q3 q3 d5 d3 b1 b2 hb d1 d2 hc12 c1 c2
    go_wp2
    go_loopw [45] (fun i wr => ∃ k : Nat, k ≤ m ∧ i = .int .i64 k ∧ EntRow wr w3.heap.size (.slice (some ⟨w3.heap.size, 0, none⟩) m m) (tbMade (aheadP s) m k) ∧ Below w3.heap.size w3 wr) (fun i _ => m - (intOf i).toNat)
    case atStart => exact ⟨0, Nat.zero_le _, rfl, hR3, hb3⟩
    case round =>
      obtain ⟨k, hk, rfl, hrow, hbel⟩ := hrel
      clear hR3 hb3 hZ1
      by_cases hlt : k < m
      · have s1 : (k : Int) < (m : Int) := by omega
        obtain ⟨a', ha'⟩ : ∃ a' : Nat, a' = 24 * k := ⟨_, rfl⟩
        obtain ⟨b', hb'⟩ : ∃ b' : Nat, b' = 24 * k + 24 := ⟨_, rfl⟩
        have eP : pcP s k = s.extract a' b' := by rw [ha', hb']; rfl
        have HG := fun W => eget_any (s.extract a' b') W (by unfold maxLen; rw [ByteArray.size_extract]; omega)
        have HMK := HMS.out k hlt
        have hkk := HK.out k hlt
        rw [eP] at HMK hkk
        rw [hkk] at HG
        have HG2 := Lib.hid HG
        have y1 : IntKind.i64.wrap ((k : Int) * 24) = (a' : Int) := by rw [IntWalk.i64_in _ ⟨by omega, by omega⟩]; omega
        have y2 : IntKind.i64.wrap ((k : Int) + 1) = (k : Int) + 1 := IntWalk.i64_in _ ⟨by omega, by omega⟩
        have y3 : IntKind.i64.wrap (((k : Int) + 1) * 24) = (b' : Int) := by rw [IntWalk.i64_in _ ⟨by omega, by omega⟩]; omega
        have x1 : (a' : Int) ≤ (b' : Int) := by omega
        have x2 : (b' : Int) ≤ (s.size : Int) := by omega
        have x3 : a' ≤ b' := by omega
        have x4 : b' ≤ s.size := by omega
        have HROW := Lib.hid hrow
        have HBEL := Lib.hid hbel
        have HMK2 := Lib.hid HMK
        clear eP ha' hb' hrow hbel HG hkk HMK hs
        generalize enG (s.extract a' b') = x at *
        obtain ⟨xh, xv, xp⟩ := x
        go_wp2_with fail
        refine (HG2.out _).mono ?_
        rintro e w4 ⟨rfl, hb4⟩
        have R2 := EntRow.below (HROW.out.below hb4 (Nat.le_refl _)) ((Below.refl w4.heap.size w4).alloc (Nat.le_refl _) (.cells #[.int .u64 (xh : Nat), .int .i64 xv, .int .i64 xp] 56)) (Nat.le_refl _)
        obtain ⟨⟨y, q0, q1, q2⟩, f0, f1, f2⟩ := R2.at_ (HML.out k).symm hlt
        have R3 := R2.put (HML.out k).symm hlt ⟨xh, xv, xp⟩
        rw [HMK2.out] at R3
        have R4 := Lib.hid R3
        have B4 := Lib.hid ((bj HBEL.out hb4).alloc (bj HBEL.out hb4).size (.cells #[.int .u64 (xh : Nat), .int .i64 xv, .int .i64 xp] 56))
        clear R3 R2 hb4
        go_wp2
        exact ⟨⟨k + 1, by omega, by go_num, R4.out, put3 B4.out (Nat.le_refl _) _ _ _⟩, by simp [intOf]; omega⟩
      · obtain rfl : k = m := by omega
        have s1 : ¬ (k : Int) < (k : Int) := by omega
        rw [HMF.out] at hrow
        have HROW := Lib.hid hrow
        have HBEL := Lib.hid hbel
        clear hrow hbel
        go_wp2
        go_ret2
        have hz := H3.out.1.kept.size
        have hge : w3.heap.size ≤ wr.heap.size := HBEL.out.size
        refine ⟨some ⟨w3.heap.size, 0, none⟩, k, by rw [HGL.out]; rfl, by rw [HGL.out]; exact EntRow.down HROW.out hz, ?_, H3.out.2.trans (Kept.of_below HBEL.out H3.out.1.lt)⟩
        exact H3.out.1.more api HBEL.out (fun b hb => by
          obtain rfl : b = w3.heap.size := by simpa [ownL, Value.ownBlock] using hb
          exact ⟨Nat.le_refl _, by
            rcases HROW.out.2 with ⟨e, -⟩ | ⟨g, cap, cur, e, hg, hh, -⟩
            · cases e
            · have e2 := (Value.slice.inj e).1
              have e3 : w3.heap.size = g := by simpa using e2
              rw [e3]
              exact (Array.getElem?_eq_some_iff.1 hh).1⟩)
end
end Go.Proofs.YtmbhafabphogdaaGreat

/- PtRange -/
namespace Go.Proofs.YtmbhafabphogdaaGreat
open Go.RowKit
set_option linter.unusedVariables false
set_option maxRecDepth 100000

/-- The table's file is there, and has these entries. -/
def HasT (D : DiskS) (n : Int) (l : List EntS) : Prop := ∃ f, fileOf D.l (ptT n) = some f ∧ tgOk f.data = true ∧ tgL f.data = l
theorem HasT.count {D : DiskS} {n : Int} {l : List EntS} (h : HasT D n l) (k : Nat) : HasT { D with count := k } n l := h
theorem HasT.ready {D : DiskS} {n : Int} {l : List EntS} (h : HasT D n l) (hd : D.down = false) : readyP D n = 0 := by
  obtain ⟨f, h1, h2, h3⟩ := h
  unfold readyP
  rw [sizeS_of hd h1]
  rfl
theorem HasT.props {D : DiskS} {n : Int} {l : List EntS} (h : HasT D n l) : RiseE l ∧ (∀ x ∈ l, mayE x = true) ∧ ∀ x ∈ l, EntOk x := by
  obtain ⟨f, h1, h2, rfl⟩ := h
  obtain ⟨k1, k2, k3⟩ := tg_rise h2
  exact ⟨k1, k2, tg_entok _⟩
theorem HasT.read {D : DiskS} {n : Int} {l : List EntS} (h : HasT D n l) (hd : D.down = false) {lo m : Nat} (hm : lo + m ≤ l.length) : ∃ s, readS D (ptT n) ((8 + 24 * lo : Nat) : Int) ((24 * m : Nat) : Int) = (s, 0, { D with count := D.count + 1 }) ∧ s.size = 24 * m ∧ okP s m = true ∧ gotP s m = (l.drop lo).take m := by
  obtain ⟨f, h1, h2, rfl⟩ := h
  obtain ⟨k1, k2, k3⟩ := tg_rise h2
  have hg := got_of (lo := lo) (hi := lo + m) h2 hm
  rw [show 8 + 24 * (lo + m) = 8 + 24 * lo + 24 * m by omega, show lo + m - lo = m by omega] at hg
  exact ⟨_, readS_of hd h1 (by omega), by rw [ByteArray.size_extract]; omega, hg.1, hg.2⟩

section
variable {At : Lies} (api : DiskApi At) (nap : NamesApi) {w0 w : World} {gt gd : Nat} {D : DiskS} {E G : List Nat} {n : Int} {l : List EntS} {t : ByteArray}
include api nap
/-- Entries from one number to another one. -/
theorem read_t (h : DS At w0 gd D E w) (hp : PtAt w gt gd n l t G) (hG : ∀ b ∈ G, b ∈ E) (ok : WfP D) (hc : D.count ≤ 1099511627776) (wn : (Lit.int .i64 n).wf = true) (hd : D.down = false) (hT : HasT D n l) (lo hi : Nat) (hlh : lo ≤ hi) (hhi : hi ≤ l.length) (hl : l.length ≤ 40000) :
    Calls Tryz.prog 45 #[ptr gt, .int .i64 (lo : Nat), .int .i64 (hi : Nat)] w (LEnd At w0 gd ((l.drop lo).take (hi - lo)) 0 { D with count := D.count + 1 } E w) := by
  obtain ⟨s, h1, h2, h3, h4⟩ := hT.read (lo := lo) (m := hi - lo) hd (by omega)
  rw [← h4]
  exact read_run2 api nap h hp hG ok hc wn lo hi (hi - lo) (by omega) (by omega) s h1 h2 h3
theorem ptall_run (h : DS At w0 gd D E w) (hp : PtAt w gt gd n l t G) (hG : ∀ b ∈ G, b ∈ E) (ok : WfP D) (hc : D.count ≤ 1099511627776) (wn : (Lit.int .i64 n).wf = true) (hd : D.down = false) (hT : HasT D n l) (hl : l.length ≤ 40000) :
    Calls Tryz.prog 15 #[ptr gt] w (LEnd At w0 gd l 0 { D with count := D.count + 1 } E w) := by
  have hR := Lib.hid (ptready_run api nap h hp ok wn)
  rw [hT.ready hd] at hR
  have hA := Lib.hid fun W (hW : Below w.heap.size w W) => read_t api nap (h.below api hW) (hp.below hW) hG ok hc wn hd hT 0 l.length (Nat.zero_le _) (Nat.le_refl _) hl
  rw [List.drop_zero, show l.length - 0 = l.length from rfl, List.take_length] at hA
  have HC := Lib.hid fun W (hW : Below w.heap.size w W) => (hp.below hW).cells
  have HLT := Lib.hid h.lt
  clear h hp hG ok hc wn hd hT
  generalize hm : l.length = m at *
  have HM := Lib.hid hm
  clear hm
  go_enter Tryz.func15, Tryz.ntmps15
  go_wp2_with fail
  refine hR.out.mono ?_
  rintro e w1 ⟨rfl, b1⟩
  obtain ⟨c0, c1, c2, c3⟩ := HC.out w1 b1
  have HA := Lib.hid (hA.out w1 b1)
  have K1 := Lib.hid (Kept.of_below b1 HLT.out)
  clear b1 c0 c1 c2 hA
  go_wp2_with fail
  refine HA.out.mono ?_
  rintro e w2 ⟨A, c, rfl, r1, r2, r3⟩
  have H2 := Lib.hid (And.intro r1 (And.intro r2 r3))
  clear r1 r2 r3
  go_wp2
  go_ret2
  exact ⟨A, c, rfl, H2.out.1, H2.out.2.1, K1.out.trans H2.out.2.2⟩
set_option maxHeartbeats 1000000 in
theorem ptrange_run (h : DS At w0 gd D E w) (hp : PtAt w gt gd n l t G) (hG : ∀ b ∈ G, b ∈ E) (ok : WfP D) (hc : D.count ≤ 1099511627776) (wn : (Lit.int .i64 n).wf = true) (hd : D.down = false) (hT : HasT D n l) (hk : keepsP t l = true) (hl : l.length ≤ 40000)
    (x : Nat) (hx : x < 18446744073709551616) (a b : Int) (wa : (Lit.int .i64 a).wf = true) (wb : (Lit.int .i64 b).wf = true) :
    Calls Tryz.prog 31 #[ptr gt, .int .u64 (x : Nat), .int .i64 a, .int .i64 b] w fun e w' => ∃ k, k ≤ 1 ∧ (mayP l t x = false → k = 0) ∧ LEnd At w0 gd (rangeE l x a (min b 1073741824)) 0 { D with count := D.count + k } E w e w' := by
  obtain ⟨hr, hm, hok⟩ := hT.props
  have ba := bounds_i64 wa
  have bb := bounds_i64 wb
  obtain ⟨b', hb'⟩ : ∃ b', min b 1073741824 = b' := ⟨_, rfl⟩
  have i1 : (if (1073741824 : Int) < b then 1073741824 else b) = b' := by rw [← hb']; split <;> omega
  have i2 : IntKind.i64.wrap (b' + 1) = b' + 1 := IntWalk.i64_in _ ⟨by omega, by omega⟩
  rw [hb']
  have HLT := Lib.hid h.lt
  have hR := Lib.hid (ptready_run api nap h hp ok wn)
  rw [hT.ready hd] at hR
  have hM := Lib.hid fun W (hW : Below w.heap.size w W) => ptmay_run (hp.below hW) x hx
  have HNil : Hid (∀ w' : World, Below w.heap.size w w' → rangeE l x a b' = [] → ∃ k, k ≤ 1 ∧ (mayP l t x = false → k = 0) ∧ LEnd At w0 gd (rangeE l x a b') 0 { D with count := D.count + k } E w (.returned (.tuple #[.slice none 0 0, .int .i64 0])) w') := Lib.hid fun w' hb e => by
    rw [e]
    exact ⟨0, by omega, fun _ => rfl, none, 0, rfl, EntRow.nil _ _, h.below api hb, Kept.of_below hb h.lt⟩
  cases hq : mayP l t x with
  | false =>
    rw [hq] at hM HNil
    have he := (keeps_range hk hq a b').1
    rw [he] at HNil ⊢
    clear h hp hG ok hc wn hd hT hk hl hx wa wb hr hm hok ba bb hb' i2 he hq
    go_enter Tryz.func31, Tryz.ntmps31
    go_wp2_with fail
    refine hR.out.mono ?_
    rintro e w1 ⟨rfl, b1⟩
    go_wp2_with fail
    refine (hM.out _ b1).mono ?_
    rintro e w2 ⟨rfl, b2⟩
    go_wp2
    go_ret2
    exact HNil.out _ (bj b1 b2) (by first | rfl | trivial)
  | true =>
    rw [hq] at hM HNil
    obtain ⟨lo, h1, N1⟩ := nar_is hr (by omega) ⟨x, a, 0⟩
    obtain ⟨l2, hi, N2⟩ := nar_is hr (by omega) ⟨x, b' + 1, 0⟩
    have a1 := N1.at_least
    have a2 := N2.at_most
    rw [count_zero hm] at a1 a2
    rw [count_next] at a2
    have a3 := N1.top
    have a4 := N2.top
    have a5 := N1.at_most
    rw [count_zero hm] at a5
    have hA1 := Lib.hid fun W (hW : Below w.heap.size w W) => ahead_run (hp.below hW) (by omega) x a N1
    have hA2 := Lib.hid fun W (hW : Below w.heap.size w W) => ahead_run (hp.below hW) (by omega) x (b' + 1) N2
    by_cases hlh : lo < hi
    · have hRd := Lib.hid fun W (hW : Below w.heap.size w W) => read_t api nap (h.below api hW) (hp.below hW) hG ok hc wn hd hT lo hi (by omega) a4 hl
      have hW := range_window (lo := lo) (hi := hi) hr a1 a2
      have hlen : ((l.drop lo).take (hi - lo)).length = hi - lo := by rw [List.length_take, List.length_drop]; omega
      have hRg := Lib.hid fun (v : Value) W (hv : EntsIn W v ((l.drop lo).take (hi - lo))) => range_any v _ x a b' W hv (by omega) (fun y hy => hok y (window_mem hy)) (window_rise hr _ _)
      rw [hW] at hRg
      have t1 : decide ((hi : Int) ≤ (lo : Int)) = false := decide_eq_false (by omega)
      have t2 : ¬ (hi : Int) ≤ (lo : Int) := by omega
      generalize rangeE l x a b' = R at *
      generalize (l.drop lo).take (hi - lo) = S at *
      clear h hp hG ok hc wn hd hT hk hl hx wa wb hr hm hok ba bb hb' hq N1 N2 a1 a2 a3 a4 a5 HNil hW hlen hlh
      go_enter Tryz.func31, Tryz.ntmps31
      go_wp2_with fail
      refine hR.out.mono ?_
      rintro e w1 ⟨rfl, b1⟩
      go_wp2_with fail
      refine (hM.out _ b1).mono ?_
      rintro e w2 ⟨rfl, b2'⟩
      have b2 := bj b1 b2'
      clear b2' b1 hR hM
      go_wp2_with fail
      refine (hA1.out _ b2).mono ?_
      rintro e w3 ⟨rfl, b3'⟩
      have b3 := bj b2 b3'
      clear b3' b2 hA1
      go_wp2_with fail
      refine (hA2.out _ b3).mono ?_
      rintro e w4 ⟨rfl, b4'⟩
      have b4 := bj b3 b4'
      clear b4' b3 hA2
      go_wp2_with fail
      refine (hRd.out _ b4).mono ?_
      rintro e w5 ⟨A, c, rfl, r1, r2, r3⟩
      have H5 := Lib.hid (And.intro r2 ((Kept.of_below b4 HLT.out).trans r3))
      have HR2 := Lib.hid (hRg.out _ _ r1.in_)
      clear r1 r2 r3 b4 hRd hRg
      go_wp2_with fail
      refine HR2.out.mono ?_
      rintro e w6 ⟨A2, c2, rfl, r1, b6⟩
      have H6 := Lib.hid (And.intro r1 b6)
      clear r1 b6
      go_wp2
      go_ret2
      exact ⟨1, Nat.le_refl _, fun e => by simp at e, A2, c2, rfl, H6.out.1.down H5.out.1.kept.size, (H5.out.1.less (fun b hb => List.mem_append_right _ hb)).more api H6.out.2 (row_own H6.out.1), H5.out.2.trans (Kept.of_below H6.out.2 (fun b hb => H5.out.1.lt b (List.mem_append_right _ hb)))⟩
    · have he := range_empty (b := b') hr a1 a2 (by omega)
      have t1 : decide ((hi : Int) ≤ (lo : Int)) = true := decide_eq_true (by omega)
      have t2 : (hi : Int) ≤ (lo : Int) := by omega
      rw [he] at HNil ⊢
      clear h hp hG ok hc wn hd hT hk hl hx wa wb hr hm hok ba bb hb' hq N1 N2 a1 a2 a3 a4 a5 he hlh
      go_enter Tryz.func31, Tryz.ntmps31
      go_wp2_with fail
      refine hR.out.mono ?_
      rintro e w1 ⟨rfl, b1⟩
      go_wp2_with fail
      refine (hM.out _ b1).mono ?_
      rintro e w2 ⟨rfl, b2'⟩
      have b2 := bj b1 b2'
      clear b2' b1 hR hM
      go_wp2_with fail
      refine (hA1.out _ b2).mono ?_
      rintro e w3 ⟨rfl, b3'⟩
      have b3 := bj b2 b3'
      clear b3' b2 hA1
      go_wp2_with fail
      refine (hA2.out _ b3).mono ?_
      rintro e w4 ⟨rfl, b4'⟩
      have b4 := bj b3 b4'
      clear b4' b3 hA2
      go_wp2
      go_ret2
      exact HNil.out _ b4 (by first | rfl | trivial)
end
end Go.Proofs.YtmbhafabphogdaaGreat

/- PtLast -/
namespace Go.Proofs.YtmbhafabphogdaaGreat
open Go.RowKit
set_option linter.unusedVariables false
set_option maxRecDepth 100000

section
variable {At : Lies} (api : DiskApi At) (nap : NamesApi) {w0 w : World} {gt gd : Nat} {D : DiskS} {E G : List Nat} {n : Int} {l : List EntS} {t : ByteArray}
include api nap
omit nap in
/-- What a call ends with that lays an entry into a block of its own. -/
theorem last_end {w1 w' : World} {g : Nat} {D' : DiskS} (hE : ∀ b ∈ E, b < g) (hg : w0.heap.size ≤ g) (h : DS At w0 gd D' (g :: E) w1) (hk : Kept E w w1) (hb : Below w1.heap.size w1 w') (a b c : Value) (v : Value) :
    DEnd At w0 gd v D' E w (.returned v) (((w'.setCell ⟨g, 0, none⟩ a).setCell ⟨g, 1, none⟩ b).setCell ⟨g, 2, none⟩ c) := by
  have h1 := h.below api hb
  have h2 := h1.own2 api (touch_3 (g := g) w' a b c) (fun x hx => by rw [List.mem_singleton.1 hx]; exact ⟨List.mem_cons_self, hg⟩)
  refine ⟨rfl, h2.less (fun b hb => List.mem_cons_of_mem _ hb), (hk.trans (Kept.of_below hb (fun b hb => h.lt b (List.mem_cons_of_mem _ hb)))).trans (Kept.of_touch (touch_3 (g := g) w' a b c) fun x hx => ⟨h1.lt x (List.mem_cons_of_mem _ hx), fun hm => ?_⟩)⟩
  have := hE x hx
  rw [List.mem_singleton.1 hm] at this
  exact Nat.lt_irrefl _ this
set_option maxHeartbeats 2000000 in
theorem ptlast_run (h : DS At w0 gd D E w) (hp : PtAt w gt gd n l t G) (hG : ∀ b ∈ G, b ∈ E) (ok : WfP D) (hc : D.count ≤ 1099511627776) (wn : (Lit.int .i64 n).wf = true) (hd : D.down = false) (hT : HasT D n l) (hk : keepsP t l = true) (hl : l.length ≤ 40000)
    (x : Nat) (hx : x < 18446744073709551616) (b : Int) (wb : (Lit.int .i64 b).wf = true) :
    Calls Tryz.prog 32 #[ptr gt, .int .u64 (x : Nat), .int .i64 b] w fun e w' => ∃ k, k ≤ 1 ∧ (mayP l t x = false → k = 0) ∧ DEnd At w0 gd (.tuple #[entB (lastE l x (min b 1073741824)), .bool (lastOk l x (min b 1073741824)), .int .i64 0]) { D with count := D.count + k } E w e w' := by
  obtain ⟨hr, hm, hok⟩ := hT.props
  have bb := bounds_i64 wb
  obtain ⟨b', hb'⟩ : ∃ b', min b 1073741824 = b' := ⟨_, rfl⟩
  have i1 : (if (1073741824 : Int) < b then 1073741824 else b) = b' := by rw [← hb']; split <;> omega
  have i2 : IntKind.i64.wrap (b' + 1) = b' + 1 := IntWalk.i64_in _ ⟨by omega, by omega⟩
  rw [hb']
  have hB0 := (Below.refl w.heap.size w).alloc (Nat.le_refl _) (.cells #[.int .u64 ((0 : Nat) : Int), .int .i64 0, .int .i64 0] 56)
  have E0 : EnAt (w.alloc (.cells #[.int .u64 ((0 : Nat) : Int), .int .i64 0, .int .i64 0] 56)) w.heap.size 0 0 0 := Blok.new _ _ _
  have h0 : DS At w0 gd D (w.heap.size :: E) (w.alloc (.cells #[.int .u64 ((0 : Nat) : Int), .int .i64 0, .int .i64 0] 56)) := h.more api hB0 (B := [w.heap.size]) (fun b hb => by
    rw [List.mem_singleton.1 hb]
    exact ⟨Nat.le_refl _, E0.lt⟩)
  have p0 := hp.below hB0
  have K0 := Kept.of_below hB0 h.lt
  have hEg := h.lt
  have hg0 := h.kept.size
  have hG0 : ∀ b ∈ G, b ∈ w.heap.size :: E := fun b hb => List.mem_cons_of_mem _ (hG b hb)
  obtain ⟨g, hgg⟩ : ∃ g, w.heap.size = g := ⟨_, rfl⟩
  rw [hgg] at h0 E0 hEg hg0 hG0
  obtain ⟨wa, hwa⟩ : ∃ wa, w.alloc (.cells #[.int .u64 ((0 : Nat) : Int), .int .i64 0, .int .i64 0] 56) = wa := ⟨_, rfl⟩
  rw [hwa] at h0 E0 p0 K0
  have hwa' : w.alloc (.cells #[.int .u64 0, .int .i64 0, .int .i64 0] 56) = wa := hwa
  clear hwa hB0 h hp hG
  have HX := Lib.hid (And.intro E0 (And.intro K0 (And.intro hEg (And.intro hg0 h0))))
  have hR := Lib.hid (ptready_run api nap h0 p0 ok wn)
  rw [hT.ready hd] at hR
  have hM := Lib.hid fun W (hW : Below wa.heap.size wa W) => ptmay_run (p0.below hW) x hx
  have HFin : Hid (∀ (k : Nat) (y : EntS) (q : Bool) (w1 w' : World) (a b c : Value), k ≤ 1 → (mayP l t x = false → k = 0) → lastE l x b' = y → lastOk l x b' = q → DS At w0 gd { D with count := D.count + k } (g :: E) w1 → Kept (g :: E) wa w1 → Below w1.heap.size w1 w' →
      ∃ k, k ≤ 1 ∧ (mayP l t x = false → k = 0) ∧ DEnd At w0 gd (.tuple #[entB (lastE l x b'), .bool (lastOk l x b'), .int .i64 0]) { D with count := D.count + k } E w (.returned (.tuple #[entB y, .bool q, .int .i64 0])) (((w'.setCell ⟨g, 0, none⟩ a).setCell ⟨g, 1, none⟩ b).setCell ⟨g, 2, none⟩ c)) := Lib.hid fun k y q w1 w' a b c k1 k2 e1 e2 d1 q1 bb => by
    rw [e1, e2]
    exact ⟨k, k1, k2, last_end api hEg hg0 d1 (K0.trans (q1.less (fun b hb => List.mem_cons_of_mem _ hb))) bb a b c _⟩
  cases hq : mayP l t x with
  | false =>
    rw [hq] at hM HFin
    have he := (keeps_range hk hq 0 b').2
    have e1 : lastE l x b' = ⟨0, 0, 0⟩ := by unfold lastE; rw [he]; rfl
    have e2 : lastOk l x b' = false := by unfold lastOk; rw [he]; rfl
    have HF := Lib.hid (fun w' (hb : Below wa.heap.size wa w') => HFin.out 0 ⟨0, 0, 0⟩ false wa w' (.int .u64 ((0 : Nat) : Int)) (.int .i64 0) (.int .i64 0) (by omega) (fun _ => rfl) e1 e2 HX.out.2.2.2.2 (Kept.refl _ _) hb)
    rw [e1, e2] at HF ⊢
    clear HFin
    clear h0 p0 ok hc wn hd hT hk hl hx wb hr hm hok bb hb' i2 he hq e1 e2 K0 hEg hg0 hG0 E0
    go_enter Tryz.func32, Tryz.ntmps32
    go_wp2_with fail
    refine hR.out.mono ?_
    rintro e w1 ⟨rfl, b1⟩
    go_wp2_with fail
    refine (hM.out _ b1).mono ?_
    rintro e w2 ⟨rfl, b2⟩
    have b3 := bj b1 b2
    obtain ⟨k0, k1, k2, f0, f1, f2⟩ := EnAt.facts (show EnAt w2 g 0 0 0 from Blok.below HX.out.1 b3)
    have HB3 := Lib.hid b3
    clear b1 b2 b3
    go_wp2
    exact bodyPost_ret (v := .tuple #[entB ⟨0, 0, 0⟩, .bool false, .int .i64 0]) (by simp [results, Tryz.results32, go_sem, k0, k1, k2]) rfl (HF.out _ HB3.out)
  | true =>
    rw [hq] at hM HFin
    obtain ⟨lo, hi, N⟩ := nar_is hr (by omega) ⟨x, b' + 1, 0⟩
    have a1 := N.at_least
    have a2 := N.at_most
    rw [count_zero hm, count_next] at a1 a2
    have a4 := N.top
    have hA := Lib.hid fun W (hW : Below wa.heap.size wa W) => ahead_run (p0.below hW) (by omega) x (b' + 1) N
    have hRd := Lib.hid fun W (hW : Below wa.heap.size wa W) => read_t api nap (h0.below api hW) (p0.below hW) hG0 ok hc wn hd hT (lo - 1) hi (by omega) a4 hl
    have hW := last_window (lo := lo) (hi := hi) hr (by omega) a1 a2 a4
    have hlen : ((l.drop (lo - 1)).take (hi - (lo - 1))).length = hi - (lo - 1) := by rw [List.length_take, List.length_drop]; omega
    have hLs := Lib.hid fun (v : Value) W (hv : EntsIn W v ((l.drop (lo - 1)).take (hi - (lo - 1)))) => last_any v _ x b' W hv (by omega) (fun y hy => hok y (window_mem hy)) (window_rise hr _ _)
    have e1 : lastE ((l.drop (lo - 1)).take (hi - (lo - 1))) x b' = lastE l x b' := by unfold lastE; rw [hW]
    have e2 : lastOk ((l.drop (lo - 1)).take (hi - (lo - 1))) x b' = lastOk l x b' := by unfold lastOk; rw [hW]
    rw [e1, e2] at hLs
    obtain ⟨d, hdd⟩ : ∃ d : Int, (lo : Int) - 1 = d := ⟨_, rfl⟩
    obtain ⟨lp, hlp⟩ : ∃ lp : Nat, lo - 1 = lp := ⟨_, rfl⟩
    have j1 : IntKind.i64.wrap ((lo : Int) - 1) = d := by rw [IntWalk.i64_in _ ⟨by omega, by omega⟩]; omega
    have j2 : (if (0 : Int) > d then 0 else d) = (lp : Int) := by split <;> omega
    have j3 : (if d < (0 : Int) then 0 else d) = (lp : Int) := by split <;> omega
    rw [hlp] at hRd hLs
    have HF := Lib.hid (fun w1 w' a b c => HFin.out 1 (lastE l x b') (lastOk l x b') w1 w' a b c (by omega) (fun e => by cases e) rfl rfl)
    generalize (l.drop lp).take (hi - lp) = S at *
    clear HFin h0 p0 ok hc wn hd hT hk hl hx wb hr hm hok bb hb' hq N a1 a2 a4 hW hlen e1 e2 hdd hlp K0 hEg hg0 hG0 E0
    generalize lastE l x b' = y at *
    generalize lastOk l x b' = q at *
    obtain ⟨yh, yv, yp⟩ := y
    go_enter Tryz.func32, Tryz.ntmps32
    go_wp2_with fail
    refine hR.out.mono ?_
    rintro e w1 ⟨rfl, b1⟩
    go_wp2_with fail
    refine (hM.out _ b1).mono ?_
    rintro e w2 ⟨rfl, b2'⟩
    have b2 := bj b1 b2'
    clear b2' b1 hR hM
    go_wp2_with fail
    refine (hA.out _ b2).mono ?_
    rintro e w3 ⟨rfl, b3'⟩
    have b3 := bj b2 b3'
    clear b3' b2 hA
    go_wp2_with fail
    refine (hRd.out _ b3).mono ?_
    rintro e w4 ⟨A, c, rfl, r1, r2, r3⟩
    have K4 := (Kept.of_below b3 HX.out.2.2.2.2.lt).trans r3
    have D4 := r2.less (E' := g :: E) (fun b hb => List.mem_append_right _ hb)
    have H4 := Lib.hid (And.intro D4 K4)
    have HL := Lib.hid (hLs.out _ _ r1.in_)
    clear r1 r2 r3 b3 hRd hLs K4 D4
    go_wp2_with fail
    refine HL.out.mono ?_
    rintro e w5 ⟨rfl, b5⟩
    have B6 := b5.alloc b5.size (.cells #[.int .u64 (yh : Nat), .int .i64 yv, .int .i64 yp] 56)
    have E5 : EnAt w5 g 0 0 0 := Blok.below (H4.out.2.blok HX.out.1 List.mem_cons_self) b5
    obtain ⟨k0, k1, k2, f0, f1, f2⟩ := EnAt.facts (show EnAt _ g 0 0 0 from Blok.alloc E5 (.cells #[.int .u64 (yh : Nat), .int .i64 yv, .int .i64 yp] 56))
    have HB6 := Lib.hid B6
    have HN := Lib.hid (show g ≠ w5.heap.size from Nat.ne_of_lt E5.lt)
    clear b5 B6 E5
    go_wp2
    exact bodyPost_ret (v := .tuple #[entB ⟨yh, yv, yp⟩, .bool q, .int .i64 0]) (by simp [results, Tryz.results32, go_sem, k0, k1, k2]) rfl (HF.out _ _ _ _ _ H4.out.1 H4.out.2 HB6.out)
end
end Go.Proofs.YtmbhafabphogdaaGreat
