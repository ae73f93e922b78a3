/- What both disks tell, side by side. -/
import Derived.Test.YtfpimebamkmjoaaDApi
import Derived.Test.YtfpimebamkmjoaaDiskSim
import Derived.Test.YtfpimebamkmjoaaDiskDoTell
import Derived.Test.YtfpimebamkmjoaaDiskDoKeep
import Derived.Test.YtfpimebamkmjoaaDiskInts
namespace Go.Proofs.Ytfpimebamkmjoaa.plays
open Go.RowKit
set_option linter.unusedVariables false

/-- What a disk tells, its memory as it was. -/
structure DiskTell (At : Lies) : Prop where
  ok : LiesOk At
  names : ∀ {w : World} {base g : Nat} {F : List Nat} {D : DiskS}, At w base g F D → RefOk D →
    Calls Try.prog 25 #[ptr g] w (StrsEnd At base g F w (D.l.map FileS.name) D)
  unsynced : ∀ {w : World} {base g : Nat} {F : List Nat} {D : DiskS}, At w base g F D → RefOk D →
    Calls Try.prog 26 #[ptr g] w (IntsEnd At base g F w (looseL D.l) D)
  free : ∀ {w : World} {base g : Nat} {F : List Nat} {D : DiskS}, At w base g F D → RefOk D →
    Calls Try.prog 27 #[ptr g] w (FreeOut w D)
  reads : ∀ {w : World} {base g : Nat} {F : List Nat} {D : DiskS}, At w base g F D →
    Calls Try.prog 28 #[ptr g] w fun e w' => e = .returned (.int .i64 (D.count : Nat)) ∧ w = w'
  up : ∀ {w : World} {base g : Nat} {F : List Nat} {D : DiskS}, At w base g F D →
    Calls Try.prog 30 #[ptr g] w fun e w' => e = .returned (.bool (!D.down)) ∧ w = w'
  starts : ∀ {w : World} {base g : Nat} {F : List Nat} {D : DiskS}, At w base g F D →
    Calls Try.prog 29 #[ptr g] w fun e w' => e = .returned (.int .i64 (D.starts : Nat)) ∧ w = w'
  size : ∀ {w : World} {base g : Nat} {F : List Nat} {D : DiskS} (n : ByteArray), At w base g F D → RefOk D → n.size ≤ maxLen →
    Calls Try.prog 19 #[ptr g, .string n] w fun e w' => e = .returned (.tuple #[.int .i64 ((sizeS D n).1 : Nat), err (sizeS D n).2]) ∧ w = w'
  read : ∀ {w : World} {base g : Nat} {F : List Nat} {D : DiskS} (n : ByteArray) (a k : Int), At w base g F D → RefOk D → D.count ≤ 1099511627776 → (Lit.int .i64 a).wf = true → (Lit.int .i64 k).wf = true → n.size ≤ maxLen →
    Calls Try.prog 18 #[ptr g, .string n, .int .i64 a, .int .i64 k] w (EndAt At base g F w (.tuple #[.string (readS D n a k).1, err (readS D n a k).2.1]) (readS D n a k).2.2)
  rise : ∀ {w : World} {base g : Nat} {F : List Nat} {D : DiskS}, At w base g F D → Rise D.l
  short : ∀ {w : World} {base g : Nat} {F : List Nat} {D : DiskS}, At w base g F D → ∀ f ∈ D.l, f.name.size ≤ maxLen
theorem tell2 (k : Nat) : DiskTell (At2 ProgAt k) where
  ok := at2_ok api.ok k
  names := by
    rintro w base g F D ⟨f, h, hf⟩ hok
    refine (api.names h (okF hok f)).mono ?_
    rintro e w' ⟨F', v, e1, e2, e3, e4, e5, e6⟩
    exact ⟨F', v, e1, e2, e3, ⟨f, e4, hf⟩, e5, e6⟩
  unsynced := by
    rintro w base g F D ⟨f, h, hf⟩ hok
    refine (api.unsynced h (okF hok f)).mono ?_
    rintro e w' ⟨F', v, e1, e2, e3, e4, e5, e6⟩
    exact ⟨F', v, e1, e2, e3, ⟨f, e4, hf⟩, e5, e6⟩
  free := by
    rintro w base g F D ⟨f, ⟨mb, vF, E, K, h, rfl⟩, hf⟩ hok
    have q := free_run h (okF hok f)
    exact q
  reads := by
    rintro w base g F D ⟨f, ⟨mb, vF, E, K, h, rfl⟩, hf⟩
    have q := reads_run h
    exact q
  up := by
    rintro w base g F D ⟨f, ⟨mb, vF, E, K, h, rfl⟩, hf⟩
    have q := up_run h
    exact q
  starts := by
    rintro w base g F D ⟨f, ⟨mb, vF, E, K, h, rfl⟩, hf⟩
    have q := starts_run h
    exact q
  size := by
    rintro w base g F D n ⟨f, ⟨mb, vF, E, K, h, rfl⟩, hf⟩ hok hn
    have q := size_run h (okF hok f) n hn
    exact q
  read := by
    rintro w base g F D n a m ⟨f, h, hf⟩ hok hc ha hm hn
    refine (api.read n a m h (okF hok f) hc ha hm hn).mono ?_
    rintro e w' ⟨F', e1, e2, e3, e4⟩
    obtain ⟨q1, q2, q3, q4⟩ := sim_read hf n a m
    refine ⟨F', ?_, ⟨f, q3 ▸ e2, by rw [q4]; exact hf⟩, e3, e4⟩
    rw [← q1, ← q2]
    exact e1
  rise := by
    rintro w base g F D ⟨f, ⟨mb, vF, E, K, h, rfl⟩, hf⟩
    exact h.rise
  short := by
    rintro w base g F D ⟨f, ⟨mb, vF, E, K, h, rfl⟩, hf⟩ x hx
    have := h.names x hx
    unfold nameB at this
    simp only [Bool.and_eq_true, decide_eq_true_eq] at this
    unfold maxLen
    omega

section
variable {At : Lies} {w0 w w' wG : World} {g r : Nat} {G : List Nat} {D E : DiskS}
theorem Pair.rebase (h : Pair At w0 g r G wG D E w) : Pair At w0 g r G w D E w ∧ ∀ b ∈ G, w.heap[b]? = wG.heap[b]? := by
  obtain ⟨F1, F2, h1, h2, h3, h4, h5⟩ := h
  exact ⟨⟨F1, F2, h1, h2, h3, h4, fun b hb => ⟨rfl, (h5 b hb).2⟩⟩, fun b hb => (h5 b hb).1⟩
/-- Fewer guests, as they were before. -/
theorem Pair.back {L : List Nat} {w1 : World} (h : Pair At w0 g r (L ++ G) w1 D E w) (hg : ∀ b ∈ G, w1.heap[b]? = wG.heap[b]?) : Pair At w0 g r G wG D E w := by
  obtain ⟨F1, F2, h1, h2, h3, h4, h5⟩ := h
  exact ⟨F1, F2, h1, h2, h3, h4, fun b hb => ⟨((h5 b (List.mem_append_right _ hb)).1).trans (hg b hb), (h5 b (List.mem_append_right _ hb)).2⟩⟩
theorem Pair.guest {w1 : World} (h : Pair At w0 g r G w1 D E w) {b : Nat} (hb : b ∈ G) : w.heap[b]? = w1.heap[b]? ∧ b < w.heap.size := by
  obtain ⟨F1, F2, h1, h2, h3, h4, h5⟩ := h
  exact ⟨(h5 b hb).1, (h5 b hb).2.1⟩
theorem Pair.touch0 (h : Pair At w0 g r G wG D E w) : Touch [] w0 w := by
  obtain ⟨F1, F2, h1, h2, h3, h4, h5⟩ := h
  exact h4
theorem Pair.still (ok : LiesOk At) (h : Pair At w0 g r G wG D E w) (ht : Touch [] w w') : Pair At w0 g r G wG D E w' := by
  obtain ⟨F1, F2, h1, h2, h3, h4, h5⟩ := h
  exact ⟨F1, F2, ok.touch h1 ht (fun _ _ => by simp), h2.touch ht (fun _ _ => by simp), h3, h4.trans ht (fun x hx => by cases hx), h5.more ht⟩
theorem Pair.drew (ok : LiesOk At) (h : Pair At w0 g r G wG D E w) : Pair At w0 g r G wG D E w.drew := Pair.still ok h (Touch.refl [] w).drew
theorem new_lt (w : World) (o : Obj) : w.heap.size < (w.alloc o).heap.size := by
  have q := heap_alloc_new w o
  rcases Nat.lt_or_ge w.heap.size (w.alloc o).heap.size with c | c
  · exact c
  · rw [Array.getElem?_eq_none c] at q
    cases q
/-- A new box beside them. -/
theorem Pair.boxed (ok : LiesOk At) (h : Pair At w0 g r G wG D E w) (o : Obj) : Pair At w0 g r ([w.heap.size] ++ G) (w.alloc o) D E (w.alloc o) ∧ ∀ b ∈ G, (w.alloc o).heap[b]? = wG.heap[b]? := by
  have h' := Pair.still ok h ((Touch.refl [] w).alloc o)
  obtain ⟨F1, F2, h1, h2, h3, h4, h5⟩ := h
  obtain ⟨q1, q2⟩ := Pair.rebase h'
  have ht : Touch [] w (w.alloc o) := (Touch.refl [] w).alloc o
  refine ⟨⟨F1, F2, ok.touch h1 ht (fun _ _ => by simp), h2.touch ht (fun _ _ => by simp), h3, h4.trans ht (fun x hx => by cases hx), fun b hb => ?_⟩, q2⟩
  rcases List.mem_append.1 hb with hb | hb
  · obtain rfl : b = w.heap.size := by simpa using hb
    exact ⟨rfl, new_lt w o, fun hm => by have := (ok.low h1 _ hm).2; omega, fun hm => by have := (h2.low _ hm).2; omega⟩
  · obtain ⟨a1, a2, a3, a4⟩ := h5 b hb
    exact ⟨rfl, Nat.lt_of_lt_of_le a2 ht.size, a3, a4⟩
def PEnd (At : Lies) (w0 : World) (g r : Nat) (G : List Nat) (wG : World) (v : Value) (D E : DiskS) (e : Ending) (w' : World) : Prop := e = .returned v ∧ Pair At w0 g r G wG D E w'
theorem Pair.prog {At' : Lies} (ok : LiesOk At) (h : Pair At w0 g r G wG D E w) {f : FuncId} {args : Array Value} {v : Value} {D' : DiskS} (hc : ∀ F, At w w0.heap.size g F D → Calls Try.prog f args w (EndAt At' w0.heap.size g F w v D')) :
    Calls Try.prog f args w (PEnd At' w0 g r G wG v D' E) := by
  obtain ⟨F1, F2, h1, h2, h3, h4, h8⟩ := h
  refine (hc F1 h1).mono ?_
  rintro e w' ⟨F', e1, e2, e3, e4⟩
  refine ⟨e1, F', F2, e2, h2.touch e4 (fun x hx hm => h3 x hm hx), fun x hx hm => ?_, h4.trans e4 (fun x hx => Or.inr (ok.low h1 x hx).1), h8.prog e4 e3⟩
  rcases e3 x hx with h | h
  · exact h3 x h hm
  · have := (h2.low x hm).2; omega
theorem Pair.refv (ok : LiesOk At) (h : Pair At w0 g r G wG D E w) {f : FuncId} {args : Array Value} {v : Value} {E' : DiskS} (hc : ∀ F, RefAt w w0.heap.size r F E → Calls Try.prog f args w (EndAt RefAt w0.heap.size r F w v E')) :
    Calls Try.prog f args w (PEnd At w0 g r G wG v D E') := by
  obtain ⟨F1, F2, h1, h2, h3, h4, h8⟩ := h
  refine (hc F2 h2).mono ?_
  rintro e w' ⟨F', e1, e2, e3, e4⟩
  refine ⟨e1, F1, F', ok.touch h1 e4 (fun x hx hm => h3 x hx hm), e2, fun x hx hm => ?_, h4.trans e4 (fun x hx => Or.inr (h2.low x hx).1), h8.ref e4 e3⟩
  rcases e3 x hm with h | h
  · exact h3 x hx h
  · have := (ok.low h1 x hx).2; omega
/-- What the program's disk tells, nothing turned. -/
theorem Pair.ask (h : Pair At w0 g r G wG D E w) {f : FuncId} {args : Array Value} {Q : Ending → World → Prop} (hc : ∀ F, At w w0.heap.size g F D → Calls Try.prog f args w Q) : Calls Try.prog f args w Q := by
  obtain ⟨F1, F2, h1, h2, h3, h4, h8⟩ := h
  exact hc F1 h1
theorem Pair.askr (h : Pair At w0 g r G wG D E w) {f : FuncId} {args : Array Value} {Q : Ending → World → Prop} (hc : ∀ F, RefAt w w0.heap.size r F E → Calls Try.prog f args w Q) : Calls Try.prog f args w Q := by
  obtain ⟨F1, F2, h1, h2, h3, h4, h8⟩ := h
  exact hc F2 h2
/-- New memory is told: a guest then, where there is any. -/
def Guested (At : Lies) (w0 : World) (g r : Nat) (G : List Nat) (wG : World) (ne : Prop) (P : World → Value → Prop) (D E : DiskS) (e : Ending) (w' : World) : Prop :=
  ∃ v bl, e = .returned v ∧ P w' v ∧ Pair At w0 g r (bl ++ G) w' D E w' ∧ (∀ b ∈ G, w'.heap[b]? = wG.heap[b]?) ∧ (ne → ∀ b, v.ownBlock = some b → b ∈ bl)
theorem Pair.told (ok : LiesOk At) (h : Pair At w0 g r G wG D E w) {ne : Prop} {P : World → Value → Prop} {v : Value} {F F' : List Nat} {F2 : List Nat} (h1 : At w w0.heap.size g F D) (h2 : RefAt w w0.heap.size r F2 E) (h3 : ∀ x ∈ F, x ∉ F2) (h5 : Guests G wG w F F2)
    (hv : P w' v) (hlt : ne → ∀ b, v.ownBlock = some b → b < w'.heap.size) (e3 : ∀ b, v.ownBlock = some b → w.heap.size ≤ b ∧ b ∉ F') (e4 : At w' w0.heap.size g F' D) (e5 : ∀ x ∈ F', x ∈ F ∨ w.heap.size ≤ x) (e6 : Touch F w w') :
    Guested At w0 g r G wG ne P D E (.returned v) w' := by
  have h4 := Pair.touch0 h
  have hG := h5.prog e6 e5
  have hd : ∀ x ∈ F', x ∉ F2 := fun x hx hm => by
    rcases e5 x hx with h | h
    · exact h3 x h hm
    · have := (h2.low x hm).2; omega
  by_cases hne : ne
  · refine ⟨v, v.ownBlock.toList, rfl, hv, ⟨F', F2, e4, h2.touch e6 (fun x hx hm => h3 x hm hx), hd, h4.trans e6 (fun x hx => Or.inr (ok.low h1 x hx).1), fun b hb => ?_⟩, fun b hb => (hG b hb).1, fun _ b hb => by rw [hb]; simp⟩
    rcases List.mem_append.1 hb with hb | hb
    · have hb' : v.ownBlock = some b := by simpa using hb
      exact ⟨rfl, hlt hne b hb', (e3 b hb').2, fun hm => by have := (h2.low b hm).2; have := (e3 b hb').1; omega⟩
    · exact ⟨rfl, (hG b hb).2⟩
  · exact ⟨v, [], rfl, hv, ⟨F', F2, e4, h2.touch e6 (fun x hx hm => h3 x hm hx), hd, h4.trans e6 (fun x hx => Or.inr (ok.low h1 x hx).1), fun b hb => ⟨rfl, (hG b hb).2⟩⟩, fun b hb => (hG b hb).1, fun h => absurd h hne⟩
end
section
variable {At : Lies} (t : DiskTell At) {w0 w w' wG : World} {g r : Nat} {G : List Nat} {D E : DiskS}
theorem strs_lt {w : World} {v : Value} {l : List ByteArray} (h : StrsAt w v l) (hne : l ≠ []) : ∀ b, v.ownBlock = some b → b < w.heap.size := by
  intro b hb
  rcases h with ⟨q, _⟩ | ⟨b', off, cap, rfl, _, _, q, _⟩
  · exact absurd q hne
  · obtain rfl : b' = b := by simpa [Value.ownBlock] using hb
    exact q
theorem ints_lt {w : World} {v : Value} {l : List Int} (h : IntsIn w v l) (hne : l ≠ []) : ∀ b, v.ownBlock = some b → b < w.heap.size := by
  intro b hb
  rcases h with ⟨q, _⟩ | ⟨b', off, cap, rfl, _, _, q, _⟩
  · exact absurd q hne
  · obtain rfl : b' = b := by simpa [Value.ownBlock] using hb
    exact q
include t
theorem Pair.names (h : Pair At w0 g r G wG D E w) (ho : RefOk D) : Calls Try.prog 25 #[ptr g] w (Guested At w0 g r G wG (D.l ≠ []) (fun w' v => StrsAt w' v (D.l.map FileS.name)) D E) := by
  have h' := h
  obtain ⟨F1, F2, h1, h2, h3, h4, h5⟩ := h
  refine (t.names h1 ho).mono ?_
  rintro e w' ⟨F', v, rfl, e2, e3, e4, e5, e6⟩
  exact Pair.told t.ok h' h1 h2 h3 h5 e2 (fun hne => strs_lt e2 (fun q => hne (List.map_eq_nil_iff.1 q))) e3 e4 e5 e6
theorem Pair.loose (h : Pair At w0 g r G wG D E w) (ho : RefOk D) : Calls Try.prog 26 #[ptr g] w (Guested At w0 g r G wG (D.l ≠ []) (fun w' v => IntsIn w' v (looseL D.l)) D E) := by
  have h' := h
  obtain ⟨F1, F2, h1, h2, h3, h4, h5⟩ := h
  refine (t.unsynced h1 ho).mono ?_
  rintro e w' ⟨F', v, rfl, e2, e3, e4, e5, e6⟩
  exact Pair.told t.ok h' h1 h2 h3 h5 e2 (fun hne => ints_lt e2 (fun q => hne (List.map_eq_nil_iff.1 q))) e3 e4 e5 e6
end
end Go.Proofs.Ytfpimebamkmjoaa.plays
