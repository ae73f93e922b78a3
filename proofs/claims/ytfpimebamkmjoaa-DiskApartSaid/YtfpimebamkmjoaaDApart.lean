/- DiskApart: a disk of two files, one of which stays. -/
import Derived.Test.YtfpimebamkmjoaaDApi
import Derived.Test.YtfpimebamkmjoaaDiskCrashWalk
import Derived.Test.YtfpimebamkmjoaaDiskSinks
import Derived.Test.YtfpimebamkmjoaaActsGreat
namespace Go.Proofs.Ytfpimebamkmjoaa.apartOf
open Go.RowKit
set_option linter.unusedVariables false

def nF : ByteArray := ⟨#[102]⟩
def nG : ByteArray := ⟨#[103]⟩
def nO : ByteArray := ⟨#[111, 116, 104, 101, 114]⟩
/-- The other file, and one by the name n. -/
def two (n : ByteArray) (d : ByteArray) (s : Nat) (b : ByteArray) (c t : Nat) (down : Bool) (keep : List Int) : DiskS := ⟨1048576, [⟨n, d, s⟩, ⟨nO, b, b.size⟩], c, down, t, 0, keep⟩
def Ap (b : ByteArray) (m : Nat) (D : DiskS) : Prop := ∃ d s c t keep, D = two nF d s b c t false keep ∧ s ≤ d.size ∧ d.size + b.size ≤ 1048576 ∧ c ≤ 3 * m ∧ t ≤ m
theorem used_two (f g : FileS) : usedS [f, g] = f.data.size + g.data.size := by unfold usedS; simp
theorem wf_two {n d b : ByteArray} {s c t : Nat} {down : Bool} {keep : List Int} (h1 : s ≤ d.size) (h2 : d.size + b.size ≤ 1048576) : Wf (two n d s b c t down keep) := by
  refine ⟨fun f hf => ?_, ?_, Nat.le_refl _, by show 2 ≤ 400; omega, Nat.zero_le _⟩
  · have hf' : f = ⟨n, d, s⟩ ∨ f = ⟨nO, b, b.size⟩ := by simpa [two] using hf
    rcases hf' with rfl | rfl
    · exact h1
    · exact Nat.le_refl _
  · show usedS [_, _] ≤ 1048576
    rw [used_two]
    exact h2
theorem two_up {n d b : ByteArray} {s c t : Nat} {keep : List Int} : ¬ (two n d s b c t false keep).down = true := fun h => Bool.noConfusion h
theorem Ap.wf {b : ByteArray} {m : Nat} {D : DiskS} (h : Ap b m D) : Wf D := by
  obtain ⟨d, s, c, t, keep, rfl, h1, h2, _, _⟩ := h
  exact wf_two h1 h2
theorem fF (d b : ByteArray) (s : Nat) : findS [⟨nF, d, s⟩, ⟨nO, b, b.size⟩] nF = 0 := by
  unfold findS
  rw [List.findIdx_cons, decide_eq_true rfl]
  rfl
theorem fO {n : ByteArray} (hn : n ≠ nO) (d b : ByteArray) (s : Nat) : findS [⟨n, d, s⟩, ⟨nO, b, b.size⟩] nO = 1 := by
  unfold findS
  rw [List.findIdx_cons, decide_eq_false hn, List.findIdx_cons, decide_eq_true rfl]
  rfl
theorem fFO : nF ≠ nO := by decide +kernel
theorem fGO : nG ≠ nO := by decide +kernel
theorem ext_all (b : ByteArray) : b.extract 0 b.size = b := by
  apply ByteArray.ext
  rw [ByteArray.data_extract]
  exact Array.extract_size
section
variable {b : ByteArray} {m : Nat} {D : DiskS}
theorem ap_app (h : Ap b m D) (t : ByteArray) : Ap b m (appendS D nF t).2 := by
  obtain ⟨d, s, c, st, keep, rfl, h1, h2, h3, h4⟩ := h
  have hf : findS (two nF d s b c st false keep).l nF = 0 := fF d b s
  unfold appendS
  rw [if_neg two_up, hf, if_pos (by show 0 < 2; omega)]
  split
  · exact ⟨d, s, c, st, keep, rfl, h1, h2, h3, h4⟩
  · rename_i hu
    have hu' : ¬ 1048576 < usedS [⟨nF, d, s⟩, ⟨nO, b, b.size⟩] + t.size := hu
    rw [used_two] at hu'
    have hz : (d ++ t).size = d.size + t.size := ByteArray.size_append
    have hE : nextS (appE (two nF d s b c st false keep) nF t) = two nF (d ++ t) s b c st false keep := by
      unfold nextS appE
      rw [hf]
      rfl
    rw [if_pos (show goesS (two nF d s b c st false keep) = true from rfl)]
    show Ap b m (nextS (appE (two nF d s b c st false keep) nF t))
    rw [hE]
    dsimp only at hu'
    exact ⟨d ++ t, s, c, st, keep, rfl, by omega, by omega, h3, h4⟩
theorem ap_sync (h : Ap b m D) : Ap b m (syncS D nF).2 := by
  obtain ⟨d, s, c, st, keep, rfl, h1, h2, h3, h4⟩ := h
  have hf : findS (two nF d s b c st false keep).l nF = 0 := fF d b s
  unfold syncS
  rw [if_neg two_up, hf, if_pos (by show 0 < 2; omega)]
  exact ⟨d, d.size, c, st, keep, rfl, Nat.le_refl _, h2, h3, h4⟩
theorem ap_spoil (h : Ap b m D) (a : Int) (t : ByteArray) : Ap b m (spoilS D nF a t).2 := by
  obtain ⟨d, s, c, st, keep, rfl, h1, h2, h3, h4⟩ := h
  have hf : findS (two nF d s b c st false keep).l nF = 0 := fF d b s
  unfold spoilS
  rw [hf, if_pos (by show 0 < 2; omega)]
  split
  · exact ⟨d, s, c, st, keep, rfl, h1, h2, h3, h4⟩
  · refine ⟨overS d t a.toNat, s, c, st, keep, rfl, ?_, ?_, h3, h4⟩
    · rw [over_size]; exact h1
    · rw [over_size]; exact h2
theorem ap_cut (h : Ap b m D) (k : Int) : Ap b m (cutS D nF k).2 := by
  obtain ⟨d, s, c, st, keep, rfl, h1, h2, h3, h4⟩ := h
  have hf : findS (two nF d s b c st false keep).l nF = 0 := fF d b s
  unfold cutS
  rw [hf, if_pos (by show 0 < 2; omega)]
  split
  · exact ⟨d, s, c, st, keep, rfl, h1, h2, h3, h4⟩
  · refine ⟨d.extract 0 (min k.toNat d.size), min s (min k.toNat d.size), c, st, keep, rfl, ?_, ?_, h3, h4⟩
    · rw [ByteArray.size_extract]; omega
    · rw [ByteArray.size_extract]; omega
theorem ap_crash (h : Ap b m D) (kp : List Int) : (crashS D kp).2.down = true ∧ Wf (crashS D kp).2 ∧ (crashS D kp).2.starts ≤ m ∧ Ap b (m + 1) (startS (crashS D kp).2).2 := by
  have hw := wf_crash h.wf kp
  obtain ⟨d, s, c, st, keep, rfl, h1, h2, h3, h4⟩ := h
  have hcr : (crashS (two nF d s b c st false keep) kp).2 = two nF (d.extract 0 (staysS ⟨nF, d, s⟩ (kp.getD 0 0))) (staysS ⟨nF, d, s⟩ (kp.getD 0 0)) b c st true [] := by
    unfold crashS
    rw [if_neg two_up]
    show sinkS _ kp = _
    have e : crashF ⟨nO, b, b.size⟩ (kp.getD 1 0) = ⟨nO, b, b.size⟩ := by
      have e1 : staysS ⟨nO, b, b.size⟩ (kp.getD 1 0) = b.size := by
        show b.size + min _ (b.size - b.size) = b.size
        omega
      unfold crashF
      rw [e1, ext_all]
    have e2 : crashL [⟨nF, d, s⟩, ⟨nO, b, b.size⟩] kp = [crashF ⟨nF, d, s⟩ (kp.getD 0 0), crashF ⟨nO, b, b.size⟩ (kp.getD 1 0)] := rfl
    show ({ two nF d s b c st false keep with l := crashL [⟨nF, d, s⟩, ⟨nO, b, b.size⟩] kp, down := true, fails := 0, keep := [] } : DiskS) = _
    rw [e2, e]
    rfl
  rw [hcr] at hw ⊢
  have hst : staysS ⟨nF, d, s⟩ (kp.getD 0 0) ≤ d.size := by
    show s + min _ (d.size - s) ≤ d.size
    omega
  refine ⟨rfl, hw, h4, d.extract 0 (staysS ⟨nF, d, s⟩ (kp.getD 0 0)), staysS ⟨nF, d, s⟩ (kp.getD 0 0), c, st + 1, [], rfl, ?_, ?_, by omega, by omega⟩
  · rw [ByteArray.size_extract]; omega
  · rw [ByteArray.size_extract]; omega
theorem ap_more (h : Ap b m D) : Ap b (m + 1) D := by
  obtain ⟨d, s, c, st, keep, rfl, h1, h2, h3, h4⟩ := h
  exact ⟨d, s, c, st, keep, rfl, h1, h2, by omega, by omega⟩
theorem ap_readF (h : Ap b m D) (a k : Int) : Ap b (m + 1) (readS D nF a k).2.2 := by
  obtain ⟨d, s, c, st, keep, rfl, h1, h2, h3, h4⟩ := h
  have hf : findS (two nF d s b c st false keep).l nF = 0 := fF d b s
  have hk : (two nF d s b c st false keep).l[findS (two nF d s b c st false keep).l nF]? = some ⟨nF, d, s⟩ := by rw [hf]; rfl
  by_cases hb : a < 0 ∨ k < 0 ∨ (d.size : Int) < a ∨ (d.size : Int) - a < k
  · rw [readS_bad rfl hk hb]
    exact ⟨d, s, c + 1, st, keep, rfl, h1, h2, by omega, by omega⟩
  · rw [readS_go rfl hk hb]
    exact ⟨d, s, c + 1, st, keep, rfl, h1, h2, by omega, by omega⟩
theorem find_first {n : ByteArray} (d : ByteArray) (k : Nat) : findS [⟨n, d, k⟩, ⟨nO, b, b.size⟩] n = 0 := by
  unfold findS
  rw [List.findIdx_cons, decide_eq_true rfl]
  rfl
theorem ren_two {n tn d : ByteArray} {s c st : Nat} {keep : List Int} (ht : nO ≠ tn) (hne : n ≠ tn) (hl : lessB nO tn = false) (hb : nameB tn = true) : (renameS (two n d s b c st false keep) n tn).2 = two tn d s b c st false keep := by
  have hf : findS (two n d s b c st false keep).l n = 0 := find_first d s
  rw [renameS_go rfl (by rw [hf]; show 0 < 2; omega) hb, hf, if_pos (show goesS (two n d s b c st false keep) = true from rfl), if_neg hne]
  have h1 : (two n d s b c st false keep).l[0]? = some ⟨n, d, s⟩ := rfl
  have h2 : renameL (two n d s b c st false keep).l 0 tn = [⟨tn, d, s⟩, ⟨nO, b, b.size⟩] := by
    rw [renameL_at h1]
    have h3 : dropS (two n d s b c st false keep).l 0 = [⟨nO, b, b.size⟩] := rfl
    have h4 : clearL [⟨nO, b, b.size⟩] tn = [⟨nO, b, b.size⟩] := by
      unfold clearL
      have h5 : findS [⟨nO, b, b.size⟩] tn = 1 := by
        unfold findS
        rw [List.findIdx_cons, decide_eq_false ht]
        rfl
      rw [h5, if_neg (by show ¬ 1 < 1; omega)]
    rw [h3, h4]
    unfold layS
    have h6 : aheadS [⟨nO, b, b.size⟩] tn = 0 := by
      unfold aheadS
      rw [List.findIdx_cons]
      show (bif !lessB nO tn then 0 else _) = 0
      rw [hl]
      rfl
    show List.take (aheadS [⟨nO, b, b.size⟩] tn) _ ++ [_] ++ List.drop (aheadS [⟨nO, b, b.size⟩] tn) _ = _
    rw [h6]
    rfl
  rw [h2]
  rfl
theorem ap_ren (h : Ap b m D) : Wf (renameS D nF nG).2 ∧ Ap b m (renameS (renameS D nF nG).2 nG nF).2 := by
  obtain ⟨d, s, c, st, keep, rfl, h1, h2, h3, h4⟩ := h
  rw [ren_two (by decide +kernel) (by decide +kernel) (by decide +kernel) (by decide +kernel), ren_two (by decide +kernel) (by decide +kernel) (by decide +kernel) (by decide +kernel)]
  exact ⟨wf_two h1 h2, d, s, c, st, keep, rfl, h1, h2, h3, h4⟩
theorem ap_readO (h : Ap b m D) : (readS D nO 0 (b.size : Nat)).1 = b ∧ (readS D nO 0 (b.size : Nat)).2.1 = 0 ∧ Ap b (m + 1) (readS D nO 0 (b.size : Nat)).2.2 := by
  obtain ⟨d, s, c, st, keep, rfl, h1, h2, h3, h4⟩ := h
  have hf : findS (two nF d s b c st false keep).l nO = 1 := fO fFO d b s
  have hk : (two nF d s b c st false keep).l[findS (two nF d s b c st false keep).l nO]? = some ⟨nO, b, b.size⟩ := by rw [hf]; rfl
  rw [readS_go rfl hk (by show ¬ ((0 : Int) < 0 ∨ ((b.size : Nat) : Int) < 0 ∨ ((b.size : Nat) : Int) < 0 ∨ ((b.size : Nat) : Int) - 0 < ((b.size : Nat) : Int)); omega)]
  refine ⟨?_, rfl, d, s, c + 1, st, keep, rfl, h1, h2, by omega, by omega⟩
  show b.extract (0 : Int).toNat ((0 : Int).toNat + ((b.size : Nat) : Int).toNat) = b
  rw [Int.toNat_natCast]
  show b.extract 0 (0 + b.size) = b
  rw [Nat.zero_add, ext_all]
theorem ap_small (h : Ap b m D) (hm : m ≤ 1000) : D.count ≤ 1099511627776 ∧ D.starts ≤ 1099511627776 ∧ D.l.length = 2 ∧ D.down = false := by
  obtain ⟨d, s, c, st, keep, rfl, h1, h2, h3, h4⟩ := h
  exact ⟨by show c ≤ _; omega, by show st ≤ _; omega, rfl, rfl⟩
end

/-- One disk, alive, beside blocks that stay. -/
def LiveG (At : Lies) (w0 : World) (g : Nat) (G : List Nat) (wG : World) (D : DiskS) (w : World) : Prop := ∃ F, At w w0.heap.size g F D ∧ Touch [] w0 w ∧ ∀ b ∈ G, w.heap[b]? = wG.heap[b]? ∧ b < w.heap.size ∧ b ∉ F
def GEnd (At : Lies) (w0 : World) (g : Nat) (G : List Nat) (wG : World) (v : Value) (D : DiskS) (e : Ending) (w' : World) : Prop := e = .returned v ∧ LiveG At w0 g G wG D w'
section
variable {At : Lies} (api : DiskApi At) {w0 w wG : World} {g : Nat} {G : List Nat} {D : DiskS}
include api
theorem LiveG.call (h : LiveG At w0 g G wG D w) {f : FuncId} {args : Array Value} {v : Value} {D' : DiskS} (hc : ∀ F, At w w0.heap.size g F D → (∀ b ∈ G, b ∉ F) → Calls Try.prog f args w (EndAt At w0.heap.size g F w v D')) : Calls Try.prog f args w (GEnd At w0 g G wG v D') := by
  obtain ⟨F, h1, h2, h3⟩ := h
  refine (hc F h1 (fun b hb => (h3 b hb).2.2)).mono ?_
  rintro e w' ⟨F', e1, e2, e3, e4⟩
  refine ⟨e1, F', e2, h2.trans e4 (fun x hx => Or.inr (api.low h1 x hx).1), fun b hb => ?_⟩
  obtain ⟨q1, q2, q3⟩ := h3 b hb
  exact ⟨(e4.block b q2 q3).trans q1, Nat.lt_of_lt_of_le q2 e4.size, fun hm => by rcases e3 b hm with c | c; exact q3 c; omega⟩
/-- A list of numbers that is told, beside it. -/
def LooseG (At : Lies) (w0 : World) (g : Nat) (G : List Nat) (wG : World) (l : List Int) (D : DiskS) (e : Ending) (w' : World) : Prop := ∃ v, e = .returned v ∧ IntsIn w' v l ∧ LiveG At w0 g (v.ownBlock.toList ++ G) w' D w' ∧ ∀ b ∈ G, w'.heap[b]? = wG.heap[b]?
theorem LiveG.loose (h : LiveG At w0 g G wG D w) (ho : ProgOk D) (hne : D.l ≠ []) : Calls Try.prog 26 #[ptr g] w (LooseG At w0 g G wG (looseL D.l) D) := by
  obtain ⟨F, h1, h2, h3⟩ := h
  refine (api.unsynced h1 ho).mono ?_
  rintro e w' ⟨F', v, e1, e2, e3, e4, e5, e6⟩
  have hG : ∀ b ∈ G, w'.heap[b]? = wG.heap[b]? ∧ b < w'.heap.size ∧ b ∉ F' := fun b hb => by
    obtain ⟨q1, q2, q3⟩ := h3 b hb
    exact ⟨(e6.block b q2 q3).trans q1, Nat.lt_of_lt_of_le q2 e6.size, fun hm => by rcases e5 b hm with c | c; exact q3 c; omega⟩
  refine ⟨v, e1, e2, ⟨F', e4, h2.trans e6 (fun x hx => Or.inr (api.low h1 x hx).1), fun b hb => ?_⟩, fun b hb => (hG b hb).1⟩
  rcases List.mem_append.1 hb with hb | hb
  · have hb' : v.ownBlock = some b := by simpa using hb
    refine ⟨rfl, ?_, (e3 b hb').2⟩
    rcases e2 with ⟨q, _⟩ | ⟨b', off, cap, rfl, _, _, q, _⟩
    · exact absurd (List.map_eq_nil_iff.1 q) hne
    · obtain rfl : b' = b := by simpa [Value.ownBlock] using hb'
      exact q
  · exact ⟨rfl, (hG b hb).2.1, (hG b hb).2.2⟩
end
theorem acts_touch {w w' : World} {v : Value} {l : List ActS} (h : ActsIn w v l) (ht : Touch [] w w') : ActsIn w' v l := by
  rcases h with h | ⟨b, off, cap, rfl, h2, h3, h4, h5⟩
  · exact Or.inl h
  · exact Or.inr ⟨b, off, cap, rfl, h2, h3, Nat.lt_of_lt_of_le h4 ht.size, fun i x hx j u hu => (ht.cell (p := ⟨b, off + (i * 7 + j), none⟩) h4 (by simp)).trans (h5 i x hx j u hu)⟩
theorem ints_same {w w' : World} {v : Value} {l : List Int} (h : IntsIn w v l) (hb : ∀ b, v.ownBlock = some b → w'.heap[b]? = w.heap[b]? ∧ b < w'.heap.size) : IntsIn w' v l := by
  rcases h with h | ⟨b, off, cap, rfl, h2, h3, h4, h5⟩
  · exact Or.inl h
  · exact Or.inr ⟨b, off, cap, rfl, h2, h3, (hb b rfl).2, fun i x hx => (World.cell?_of_block (w := w) (a := ⟨b, off + i, none⟩) (hb b rfl).1).trans (h5 i x hx)⟩
/-- The cells of an act in a block. -/
def actA (x : ActS) : Array Value := #[.int .u8 (x.kind : Nat), .string x.name, .string x.dest, .string x.text, .int .i64 x.place, .int .i64 x.n, x.keepV]
/-- The disk, and the act's box. -/
def LiveA (At : Lies) (w0 : World) (g : Nat) (B : Nat) (x : ActS) (D : DiskS) (w : World) : Prop := ∃ wG, LiveG At w0 g [B] wG D w ∧ Blok wG B 34 (actA x)
def AEnd (At : Lies) (w0 : World) (g : Nat) (B : Nat) (x : ActS) (v : Value) (D : DiskS) (e : Ending) (w' : World) : Prop := e = .returned v ∧ LiveA At w0 g B x D w'
section
variable {At : Lies} (api : DiskApi At) {w0 w wG : World} {g B : Nat} {G : List Nat} {D : DiskS} {x : ActS}
theorem LiveA.cells (h : LiveA At w0 g B x D w) : w.cell? ⟨B, 0, none⟩ = some (.int .u8 (x.kind : Nat)) ∧ w.cell? ⟨B, 3, none⟩ = some (.string x.text) ∧ w.cell? ⟨B, 4, none⟩ = some (.int .i64 x.place) ∧ w.cell? ⟨B, 5, none⟩ = some (.int .i64 x.n) ∧ w.cell? ⟨B, 6, none⟩ = some x.keepV := by
  obtain ⟨wG, ⟨F, h1, h2, h3⟩, hb⟩ := h
  have hb' : Blok w B 34 (actA x) := ((h3 B (by simp)).1).trans hb
  exact ⟨hb'.cell 0, hb'.cell 3, hb'.cell 4, hb'.cell 5, hb'.cell 6⟩
theorem LiveA.touch (h : LiveA At w0 g B x D w) : Touch [] w0 w := by
  obtain ⟨wG, ⟨F, h1, h2, h3⟩, hb⟩ := h
  exact h2
theorem LiveA.out (h : LiveA At w0 g B x D w) : LiveG At w0 g [] w0 D w := by
  obtain ⟨wG, ⟨F, h1, h2, h3⟩, hb⟩ := h
  exact ⟨F, h1, h2, fun b hb => by cases hb⟩
include api
theorem LiveG.box (h : LiveG At w0 g [] wG D w) (x : ActS) : LiveA At w0 g w.heap.size x D (w.alloc (.cells (actA x) 34)) := by
  obtain ⟨F, h1, h2, h3⟩ := h
  have ht : Touch [] w (w.alloc (.cells (actA x) 34)) := (Touch.refl [] w).alloc _
  refine ⟨_, ⟨F, api.touch h1 ht (fun _ _ => by simp), h2.trans ht (fun x hx => by cases hx), fun b hb => ?_⟩, Blok.new w _ _⟩
  rw [List.mem_singleton.1 hb]
  exact ⟨rfl, by simp, fun hm => by have := (api.low h1 _ hm).2; omega⟩
theorem LiveA.call (h : LiveA At w0 g B x D w) {f : FuncId} {args : Array Value} {v : Value} {D' : DiskS} (hc : ∀ F, At w w0.heap.size g F D → Calls Try.prog f args w (EndAt At w0.heap.size g F w v D')) : Calls Try.prog f args w (AEnd At w0 g B x v D') := by
  obtain ⟨wG, hl, hb⟩ := h
  exact (LiveG.call api hl (fun F hF _ => hc F hF)).mono fun e w' he => ⟨he.1, wG, he.2, hb⟩
theorem LiveG.call0 (h : LiveG At w0 g [] wG D w) {f : FuncId} {args : Array Value} {v : Value} {D' : DiskS} (hc : ∀ F, At w w0.heap.size g F D → Calls Try.prog f args w (EndAt At w0.heap.size g F w v D')) : Calls Try.prog f args w (GEnd At w0 g [] wG v D') := LiveG.call api h (fun F hF _ => hc F hF)
/-- So many names. -/
def NamesG (At : Lies) (w0 : World) (g m : Nat) (D : DiskS) (e : Ending) (w' : World) : Prop := ∃ A c, e = .returned (.slice A m c) ∧ LiveG At w0 g [] w0 D w'
theorem LiveG.names (h : LiveG At w0 g [] wG D w) (ho : ProgOk D) {m : Nat} (hm : D.l.length = m) : Calls Try.prog 25 #[ptr g] w (NamesG At w0 g m D) := by
  obtain ⟨F, h1, ht, _⟩ := h
  refine (api.names h1 ho).mono ?_
  rintro e w' ⟨F', v, e1, e2, e3, e4, e5, e6⟩
  have hlive : LiveG At w0 g [] w0 D w' := ⟨F', e4, ht.trans e6 (fun x hx => Or.inr (api.low h1 x hx).1), fun b hb => by cases hb⟩
  have hl : (D.l.map FileS.name).length = m := by rw [List.length_map, hm]
  rcases e2 with ⟨q, a, c, rfl⟩ | ⟨b, off, cap, rfl, _⟩
  · rw [q] at hl
    obtain rfl : m = 0 := by simpa using hl.symm
    exact ⟨a, c, e1, hlive⟩
  · rw [hl] at e1
    exact ⟨_, cap, e1, hlive⟩
end
end Go.Proofs.Ytfpimebamkmjoaa.apartOf
