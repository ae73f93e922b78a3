/- A failure's number, as it is and as it is told: alike for as many calls as are made. -/
import Derived.Test.YtfpimebamkmjoaaDiskPair
namespace Go.Proofs.Ytfpimebamkmjoaa
open Go.RowKit
set_option linter.unusedVariables false

/-- Alike, k calls on: the same, or both beyond reach. -/
def Alike (k a b : Nat) : Prop := a = b ∨ (b ≤ a ∧ 1099511627777 ≤ b + k)
theorem Alike.more {k a b : Nat} (h : Alike k a b) : Alike (k + 1) a b := h.imp id (fun h => ⟨h.1, by omega⟩)
theorem Alike.less {k a b : Nat} (h : Alike k a b) : Alike (k + 1) (a - 1) (b - 1) := by
  rcases h with h | h
  · exact Or.inl (by rw [h])
  · exact Or.inr ⟨by omega, by omega⟩
def wf (D : DiskS) (f : Nat) : DiskS := { D with fails := f }
/-- The same answer, and alike then. -/
def Sim (k : Nat) (r r' : Nat × DiskS) : Prop := r'.1 = r.1 ∧ ∃ f, r'.2 = wf r.2 f ∧ Alike (k + 1) f r.2.fails
section
variable {k f : Nat} {D : DiskS}
theorem sim_goes (h : Alike k f D.fails) (hk : k ≤ 1000) : goesS (wf D f) = goesS D := by
  unfold goesS wf
  rcases h with h | h
  · rw [h]
  · show (!decide (f = 1)) = (!decide (D.fails = 1))
    rw [decide_eq_false (by omega), decide_eq_false (by omega)]
theorem sim_same (h : Alike k f D.fails) (n : Nat) : Sim k (n, D) (n, wf D f) := ⟨rfl, f, rfl, h.more⟩
theorem sim_done (h : Alike k f D.fails) (hk : k ≤ 1000) {E E' : DiskS} (hE : ∀ x, wf E' x = wf E x) : Sim k (doneS D E) (doneS (wf D f) E') := by
  unfold doneS
  rw [sim_goes h hk]
  cases goesS D
  · exact ⟨rfl, 0, rfl, Or.inl rfl⟩
  · exact ⟨rfl, f - 1, hE (f - 1), h.less⟩
theorem sim_create (h : Alike k f D.fails) (hk : k ≤ 1000) (n : ByteArray) : Sim k (createS D n) (createS (wf D f) n) := by
  unfold createS
  show Sim k _ (if D.down then (61, wf D f) else if !nameB n then (2, wf D f) else if findS D.l n < D.l.length then (62, wf D f) else if 400 ≤ D.l.length then (60, wf D f) else doneS (wf D f) { wf D f with l := layS D.l ⟨n, ByteArray.empty, 0⟩ })
  split
  · exact sim_same h _
  · split
    · exact sim_same h _
    · split
      · exact sim_same h _
      · split
        · exact sim_same h _
        · exact sim_done h hk (fun x => rfl)
theorem sim_append (h : Alike k f D.fails) (hk : k ≤ 1000) (n s : ByteArray) : Sim k (appendS D n s) (appendS (wf D f) n s) := by
  unfold appendS
  have hg := sim_goes h hk
  show Sim k _ (if D.down then (61, wf D f) else if findS D.l n < D.l.length then (if D.cap < usedS D.l + s.size then (60, wf D f) else if goesS (wf D f) then (0, nextS (appE (wf D f) n s)) else (61, sinkS (appE (wf D f) n s) D.keep)) else (4, wf D f))
  rw [hg]
  split
  · exact sim_same h _
  · split
    · split
      · exact sim_same h _
      · split
        · exact ⟨rfl, f - 1, rfl, h.less⟩
        · exact ⟨rfl, 0, rfl, Or.inl rfl⟩
    · exact sim_same h _
theorem sim_sync (h : Alike k f D.fails) (hk : k ≤ 1000) (n : ByteArray) : Sim k (syncS D n) (syncS (wf D f) n) := by
  unfold syncS
  show Sim k _ (if D.down then (61, wf D f) else if findS D.l n < D.l.length then doneS (wf D f) { wf D f with l := setF D.l (findS D.l n) (fun f => { f with synced := f.data.size }) } else (4, wf D f))
  split
  · exact sim_same h _
  · split
    · exact sim_done h hk (fun x => rfl)
    · exact sim_same h _
theorem sim_rename (h : Alike k f D.fails) (hk : k ≤ 1000) (n m : ByteArray) : Sim k (renameS D n m) (renameS (wf D f) n m) := by
  unfold renameS
  show Sim k _ (if D.down then (61, wf D f) else if findS D.l n < D.l.length then (if !nameB m then (2, wf D f) else doneS (wf D f) { wf D f with l := if n = m then D.l else renameL D.l (findS D.l n) m }) else (4, wf D f))
  split
  · exact sim_same h _
  · split
    · split
      · exact sim_same h _
      · exact sim_done h hk (fun x => rfl)
    · exact sim_same h _
theorem sim_delete (h : Alike k f D.fails) (hk : k ≤ 1000) (n : ByteArray) : Sim k (deleteS D n) (deleteS (wf D f) n) := by
  unfold deleteS
  show Sim k _ (if D.down then (61, wf D f) else if findS D.l n < D.l.length then doneS (wf D f) { wf D f with l := dropS D.l (findS D.l n) } else (4, wf D f))
  split
  · exact sim_same h _
  · split
    · exact sim_done h hk (fun x => rfl)
    · exact sim_same h _
theorem sim_crash (h : Alike k f D.fails) (keep : List Int) : Sim k (crashS D keep) (crashS (wf D f) keep) := by
  unfold crashS
  show Sim k _ (if D.down then (61, wf D f) else (0, sinkS (wf D f) keep))
  split
  · exact sim_same h _
  · exact ⟨rfl, 0, rfl, Or.inl rfl⟩
theorem sim_start (h : Alike k f D.fails) : Sim k (startS D) (startS (wf D f)) := by
  unfold startS
  show Sim k _ (if D.down then (0, { wf D f with down := false, starts := D.starts + 1 }) else (2, wf D f))
  split
  · exact ⟨rfl, f, rfl, h.more⟩
  · exact sim_same h _
theorem sim_fail (h : Alike k f D.fails) (n : Int) (keep : List Int) : Sim k (failS D n keep) (failP (wf D f) n keep) := by
  unfold failS failP
  show Sim k _ (if D.down then (61, wf D f) else if n < 0 then (2, wf D f) else (0, { wf D f with fails := n.toNat + 1, keep := keep }))
  split
  · exact sim_same h _
  · split
    · exact sim_same h _
    · refine ⟨rfl, n.toNat + 1, rfl, ?_⟩
      show Alike (k + 1) (n.toNat + 1) (min n.toNat 1099511627776 + 1)
      rcases Nat.le_total n.toNat 1099511627776 with c | c
      · rw [Nat.min_eq_left c]; exact Or.inl rfl
      · rw [Nat.min_eq_right c]; exact Or.inr ⟨by omega, by omega⟩
theorem sim_spoil (h : Alike k f D.fails) (n : ByteArray) (a : Int) (s : ByteArray) : Sim k (spoilS D n a s) (spoilS (wf D f) n a s) := by
  unfold spoilS
  show Sim k _ (if findS D.l n < D.l.length then (if a < 0 then (2, wf D f) else (0, { wf D f with l := setF D.l (findS D.l n) (fun f => { f with data := overS f.data s a.toNat }) })) else (4, wf D f))
  split
  · split
    · exact sim_same h _
    · exact ⟨rfl, f, rfl, h.more⟩
  · exact sim_same h _
theorem sim_cut (h : Alike k f D.fails) (n : ByteArray) (m : Int) : Sim k (cutS D n m) (cutS (wf D f) n m) := by
  unfold cutS
  show Sim k _ (if findS D.l n < D.l.length then (if m < 0 then (2, wf D f) else (0, { wf D f with l := setF D.l (findS D.l n) (fun f => ⟨f.name, f.data.extract 0 (min m.toNat f.data.size), min f.synced (min m.toNat f.data.size)⟩) })) else (4, wf D f))
  split
  · split
    · exact sim_same h _
    · exact ⟨rfl, f, rfl, h.more⟩
  · exact sim_same h _
theorem sim_read (h : Alike k f D.fails) (n : ByteArray) (a m : Int) : (readS (wf D f) n a m).1 = (readS D n a m).1 ∧ (readS (wf D f) n a m).2.1 = (readS D n a m).2.1 ∧ (readS (wf D f) n a m).2.2 = wf (readS D n a m).2.2 f ∧ (readS D n a m).2.2.fails = D.fails := by
  cases hd : D.down
  · have hd' : (wf D f).down = false := hd
    cases hx : D.l[findS D.l n]? with
    | none =>
      have hf : ¬ findS D.l n < D.l.length := fun hlt => by rw [List.getElem?_eq_getElem hlt] at hx; cases hx
      have hf' : ¬ findS (wf D f).l n < (wf D f).l.length := hf
      rw [readS_none hd hf, readS_none hd' hf']
      exact ⟨rfl, rfl, rfl, rfl⟩
    | some x =>
      have hx' : (wf D f).l[findS (wf D f).l n]? = some x := hx
      by_cases hb : a < 0 ∨ m < 0 ∨ (x.data.size : Int) < a ∨ (x.data.size : Int) - a < m
      · rw [readS_bad hd hx hb, readS_bad hd' hx' hb]
        exact ⟨rfl, rfl, rfl, rfl⟩
      · rw [readS_go hd hx hb, readS_go hd' hx' hb]
        exact ⟨rfl, rfl, rfl, rfl⟩
  · have hd' : (wf D f).down = true := hd
    rw [readS_down hd, readS_down hd']
    exact ⟨rfl, rfl, rfl, rfl⟩
end
/-- A disk whose failure is alike, k calls on. -/
def At2 (At : Lies) (k : Nat) : Lies := fun w base g F D => ∃ f, At w base g F (wf D f) ∧ Alike k f D.fails
theorem at2_ok {At : Lies} (h : LiesOk At) (k : Nat) : LiesOk (At2 At k) :=
  ⟨fun h1 ht hd => let ⟨f, h2, h3⟩ := h1; ⟨f, h.touch h2 ht hd, h3⟩, fun h1 => let ⟨f, h2, h3⟩ := h1; h.low h2⟩
theorem end_sim {At : Lies} {k base g : Nat} {F : List Nat} {w : World} {r r' : Nat × DiskS} (hs : Sim k r r') {e : Ending} {w' : World} (h : EndAt At base g F w (err r'.1) r'.2 e w') : EndAt (At2 At (k + 1)) base g F w (err r.1) r.2 e w' := by
  obtain ⟨h1, f, h2, h3⟩ := hs
  obtain ⟨F', e1, e2, e3, e4⟩ := h
  exact ⟨F', by rw [← h1]; exact e1, ⟨f, h2 ▸ e2, h3⟩, e3, e4⟩
theorem okF {D : DiskS} (h : RefOk D) (f : Nat) : ProgOk (wf D f) := ⟨h.sizes, h.many, h.used, h.cap⟩
theorem apiK {At : Lies} (api : DiskApi At) (k : Nat) (hk : k ≤ 1000) : ApiK (At2 At k) (At2 At (k + 1)) where
  ok := at2_ok api.ok k
  ok' := at2_ok api.ok (k + 1)
  create := by
    rintro w base g F D n ⟨f, h, hf⟩ hok hn
    exact (api.create n h (okF hok f) hn).mono fun e w' he => end_sim (sim_create hf hk n) he
  append := by
    rintro w base g F D n s ⟨f, h, hf⟩ hok hs hn
    exact (api.append n s h (okF hok f) hs hn).mono fun e w' he => end_sim (sim_append hf hk n s) he
  read := by
    rintro w base g F D n a m ⟨f, h, hf⟩ hok hc ha hm hn
    refine (api.read n a m h (okF hok f) hc ha hm hn).mono ?_
    rintro e w' ⟨F', e1, e2, e3, e4⟩
    obtain ⟨q1, q2, q3, q4⟩ := sim_read hf n a m
    refine ⟨F', ?_, ⟨f, q3 ▸ e2, by rw [q4]; exact hf.more⟩, e3, e4⟩
    rw [← q1, ← q2]
    exact e1
  sync := by
    rintro w base g F D n ⟨f, h, hf⟩ hok hn
    exact (api.sync n h (okF hok f) hn).mono fun e w' he => end_sim (sim_sync hf hk n) he
  rename := by
    rintro w base g F D n m ⟨f, h, hf⟩ hok hm hn
    exact (api.rename n m h (okF hok f) hm hn).mono fun e w' he => end_sim (sim_rename hf hk n m) he
  delete := by
    rintro w base g F D n ⟨f, h, hf⟩ hok hn
    exact (api.delete n h (okF hok f) hn).mono fun e w' he => end_sim (sim_delete hf hk n) he
  size := by
    rintro w base g F D n ⟨f, h, hf⟩ hok hn
    refine (api.size n h (okF hok f) hn).mono ?_
    rintro e w' ⟨F', e1, e2, e3, e4⟩
    exact ⟨F', e1, ⟨f, e2, hf.more⟩, e3, e4⟩
  crash := by
    rintro w base g F D v keep ⟨f, h, hf⟩ hok hI hV hl
    exact (api.crash v keep h (okF hok f) hI hV hl).mono fun e w' he => end_sim (sim_crash hf keep) he
  start := by
    rintro w base g F D ⟨f, h, hf⟩ hok hs
    exact (api.start h (okF hok f) hs).mono fun e w' he => end_sim (sim_start hf) he
  fail := by
    rintro w base g F D n v keep ⟨f, h, hf⟩ hok hn hI hV hl
    exact (api.fail n v keep h (okF hok f) hn hI hV hl).mono fun e w' he => end_sim (sim_fail hf n keep) he
  spoil := by
    rintro w base g F D n a s ⟨f, h, hf⟩ hok ha hs hn
    exact (api.spoil n a s h (okF hok f) ha hs hn).mono fun e w' he => end_sim (sim_spoil hf n a s) he
  cut := by
    rintro w base g F D n m ⟨f, h, hf⟩ hok hm hn
    exact (api.cut n m h (okF hok f) hm hn).mono fun e w' he => end_sim (sim_cut hf n m) he
end Go.Proofs.Ytfpimebamkmjoaa
