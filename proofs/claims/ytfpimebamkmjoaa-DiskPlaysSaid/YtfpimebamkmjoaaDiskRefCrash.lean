/- Start and Crash: the document's. -/
import Derived.Test.YtfpimebamkmjoaaDiskRefSet
namespace Go.Proofs.Ytfpimebamkmjoaa
open Go.RowKit
set_option linter.unusedVariables false

theorem start_ref {base g : Nat} {F : List Nat} {D : DiskS} (w : World) (h : RefAt w base g F D) (hs : D.starts ≤ 1099511627776) :
    Calls Try.prog 17 #[.pointer (some ⟨g, 0, none⟩)] w fun e w' => e = .returned (.int .i64 ((startS D).1 : Nat)) ∧ RefAt w' base g F (startS D).2 ∧ Touch F w w' := by
  obtain ⟨A, cap, vK, fr, _, _, _, c3, c4, _, _, _, _, _⟩ := h.view
  have fr3 := fr 3
  have fr4 := fr 4
  have HT := Lib.hid (fun u v => ((Touch.refl F w).setCell (p := ⟨g, 3, none⟩) (Or.inl h.mem) u).setCell (p := ⟨g, 4, none⟩) (Or.inl h.mem) v)
  have HP := Lib.hid ((h.putDown false).putStarts (D.starts + 1))
  have H0 := Lib.hid h
  clear fr h
  unfold startS
  cases hd : D.down
  · rw [hd] at c3
    clear hd
    go_enter Try.func17, Try.ntmps17
    go_wp2
    go_ret
    exact ⟨rfl, H0.out, Touch.refl _ _⟩
  · rw [hd] at c3
    clear hd
    go_enter Try.func17, Try.ntmps17
    go_wp2
    go_ret
    exact ⟨rfl, HP.out, HT.out _ _⟩

theorem crashK_length (l : List FileS) (keep : List Int) (k : Nat) : (crashK l keep k).length = l.length := by unfold crashK; simp
theorem crashK_get (l : List FileS) (keep : List Int) (k j : Nat) : (crashK l keep k)[j]? = (l[j]?).map (fun f => if j < k then crashF f (keep.getD j 0) else f) := by unfold crashK; simp
theorem crashK_at (l : List FileS) (keep : List Int) (k : Nat) : (crashK l keep k)[k]? = l[k]? := by
  rw [crashK_get]
  cases l[k]? <;> simp
theorem crashK_zero (l : List FileS) (keep : List Int) : crashK l keep 0 = l := by
  apply List.ext_getElem?
  intro j
  rw [crashK_get]
  cases l[j]? <;> simp
theorem crashK_full (l : List FileS) (keep : List Int) : crashK l keep l.length = crashL l keep := by
  apply List.ext_getElem?
  intro j
  rw [crashK_get]
  unfold crashL
  rw [List.getElem?_mapIdx]
  rcases Nat.lt_or_ge j l.length with c | c
  · rw [List.getElem?_eq_getElem c]; simp [c]
  · rw [List.getElem?_eq_none c]; rfl
theorem setF_get (l : List FileS) (k j : Nat) (h : FileS → FileS) : (setF l k h)[j]? = if j = k then (l[j]?).map h else l[j]? := by
  unfold setF
  rw [List.getElem?_modify]
  by_cases e : j = k
  · subst e; simp
  · rw [if_neg e]
    have e2 : ¬ k = j := fun x => e x.symm
    cases l[j]? <;> simp [e2]
theorem crashK_next (l : List FileS) (keep : List Int) (k : Nat) (f : FileS) (h : l[k]? = some f) :
    setF (setF (crashK l keep k) k (fun x => { x with data := (crashF f (keep.getD k 0)).data })) k (fun x => { x with synced := (crashF f (keep.getD k 0)).synced }) = crashK l keep (k + 1) := by
  apply List.ext_getElem?
  intro j
  rw [setF_get, setF_get, crashK_get, crashK_get]
  by_cases e : j = k
  · subst e
    rw [if_pos rfl, if_pos rfl, h]
    simp [crashF]
  · rw [if_neg e, if_neg e]
    congr 1
    funext x
    by_cases c : j < k
    · rw [if_pos c, if_pos (by omega)]
    · rw [if_neg c, if_neg (by omega)]

/-- The ints' row has another type than the blocks of the disk that are written in place. -/
theorem ints_far {w : World} {v : Value} {l : List Int} {b i : Nat} (h : IntsAt w v l) (hb : ∀ cs fr, w.heap[b]? ≠ some (.cells cs 3 fr)) (u : Value) : IntsAt (w.setCell ⟨b, i, none⟩ u) v l :=
  h.touch (Touch.setCell (F := [b]) (Touch.refl _ w) (Or.inl (by simp)) u) (fun x cs fr hx => by
    obtain rfl : x = b := by simpa using hx
    exact hb cs fr)
theorem ints_far_n {w : World} {v : Value} {l : List Int} {b i n : Nat} {u : Value} (h : IntsAt w v l) (hb : ∀ cs fr, w.heap[b]? ≠ some (.cells cs 3 fr)) : IntsAt ((w.drewN n).setCell ⟨b, i, none⟩ u) v l :=
  ints_far (w := w.drewN n) h hb u
theorem setCell_none_int {w : World} {b : Nat} {p : Addr} {u : Value} (hb : ∀ cs fr, w.heap[b]? ≠ some (.cells cs 3 fr)) : ∀ cs fr, (w.setCell p u).heap[b]? ≠ some (.cells cs 3 fr) := by
  intro cs fr e
  by_cases hp : b = p.block
  · subst hp
    simp only [World.setCell, Array.getElem?_modify, if_true] at e
    cases hw : w.heap[p.block]? with
    | none => rw [hw] at e; cases e
    | some o =>
      rw [hw] at e
      cases o with
      | cells c t f =>
        simp at e
        exact hb c f (by rw [hw, e.2.1])
      | _ => simp at e
  · rw [heap_setCell_other w p b u hp] at e
    exact hb cs fr e

/-- How many bytes more stay, as it is reckoned. -/
theorem stays_zero {f : FileS} {x : Int} (h : x ≤ 0) : staysS f x = f.synced := by unfold staysS; omega
theorem stays_all {f : FileS} {x : Int} (h : (f.data.size : Int) - f.synced < x) (hs : f.synced ≤ f.data.size) : (staysS f x : Int) = f.data.size := by unfold staysS; omega
theorem stays_some {f : FileS} {x : Int} (h0 : 0 < x) (h : x ≤ (f.data.size : Int) - f.synced) : (staysS f x : Int) = f.synced + x := by unfold staysS; omega
theorem crashF_size {f : FileS} {x : Int} (hs : f.synced ≤ f.data.size) : (crashF f x).data.size = staysS f x := by
  show (f.data.extract 0 (staysS f x)).size = _
  rw [ByteArray.size_extract]
  unfold staysS
  omega
theorem crashF_all {f : FileS} {x : Int} (h : (f.data.size : Int) - f.synced < x) (hs : f.synced ≤ f.data.size) : f.data = (crashF f x).data := by
  show _ = f.data.extract 0 (staysS f x)
  rw [show staysS f x = f.data.size by have := stays_all h hs; omega, ByteArray.extract_zero_size]
theorem crashF_some {f : FileS} {x : Int} (h0 : 0 < x) (h : x ≤ (f.data.size : Int) - f.synced) : f.data.extract 0 ((f.synced : Int) + x).toNat = (crashF f x).data := by
  show _ = f.data.extract 0 (staysS f x)
  congr 1
  have := stays_some h0 h
  omega
theorem crashF_none {f : FileS} {x : Int} (h : x ≤ 0) : f.data.extract 0 f.synced = (crashF f x).data := by
  show _ = f.data.extract 0 (staysS f x)
  rw [stays_zero h]

/-- A call's end: what it answers, and what the disk is then. -/
def RefEnd (base g : Nat) (F : List Nat) (w : World) (r : Nat) (E : DiskS) (e : Ending) (w' : World) : Prop :=
  ∃ F', e = .returned (.int .i64 (r : Nat)) ∧ RefAt w' base g F' E ∧ (∀ x ∈ F', x ∈ F ∨ w.heap.size ≤ x) ∧ Touch F w w'

theorem ints_at {w : World} {A : Option Addr} {n cap : Nat} {l : List Int} (h : IntsAt w (.slice A n cap) l) (k : Nat) (hk : k < l.length) : ∃ b off, A = some ⟨b, off, none⟩ ∧ w.cell? ⟨b, off + k, none⟩ = some (.int .i64 (l.getD k 0)) := by
  obtain ⟨A', off, cap', e1, _, e3⟩ := h.cell
  simp only [Value.slice.injEq] at e1
  obtain ⟨b, e4, e5⟩ := e3 k l[k] (List.getElem?_eq_getElem hk)
  refine ⟨b, off, by rw [e1.1, e4], ?_⟩
  rw [e5, List.getD_eq_getElem?_getD, List.getElem?_eq_getElem hk]
  rfl
set_option maxRecDepth 100000 in
set_option maxHeartbeats 4000000 in
theorem crash_ref {base g : Nat} {F : List Nat} {D : DiskS} (v : Value) (keep : List Int) (w : World) (h : RefAt w base g F D) (hv : IntsAt w v keep)
    (hs : ∀ f ∈ D.l, f.synced ≤ f.data.size ∧ f.data.size ≤ 1048576) (hm : D.l.length ≤ 400) :
    Calls Try.prog 41 #[.pointer (some ⟨g, 0, none⟩), v] w (RefEnd base g F w (crashS D keep).1 (crashS D keep).2) := by
  obtain ⟨A, cap, vK, fr, _, _, _, c3, _, _, _, _, _, _⟩ := h.view
  have H0 := Lib.hid h
  unfold crashS
  cases hd : D.down
  case true =>
    rw [hd] at c3
    clear hd
    go_enter Try.func41, Try.ntmps41
    go_wp2
    go_ret
    exact ⟨F, rfl, H0.out, fun _ h => Or.inl h, Touch.refl _ _⟩
  rw [hd] at c3
  have hstart : RefAt w base g F { D with l := crashK D.l keep 0 } := by rw [crashK_zero]; exact h
  have HV := Lib.hid hv
  have HS := Lib.hid hs
  have HST := Lib.hid hstart
  obtain ⟨KA, koff, kcap, rfl, hkm, _⟩ := hv.cell
  unfold maxLen at hkm
  clear h hv hs hstart fr
  go_enter Try.func41, Try.ntmps41
  go_wp2
  go_loopw [5] (fun i wr => ∃ k : Nat, k ≤ D.l.length ∧ i = .int .i64 k ∧ RefAt wr base g F { D with l := crashK D.l keep k } ∧ IntsAt wr (.slice KA keep.length kcap) keep ∧ Touch F w wr) (fun i _ => D.l.length - (intOf i).toNat)
  case atStart => exact ⟨0, Nat.zero_le _, rfl, HST.out, HV.out, Touch.refl _ _⟩
  case round =>
    obtain ⟨k, hk, rfl, hR, hI, hT⟩ := hrel
    by_cases hlt : k < D.l.length
    · obtain ⟨f, hfk⟩ := some_at hlt
      obtain ⟨A2, cap2, c1, m1, m2, hfile⟩ := hR.file
      obtain ⟨b, rfl, hbF, hbg, hbi, bfr, d0, d1, d2, put1, put2⟩ := hfile k f (by rw [crashK_at]; exact hfk)
      simp only [crashK_length] at c1 m1
      obtain ⟨hfs, hfz⟩ := HS.out f (List.mem_of_getElem? hfk)
      have hcase : (¬ k < keep.length ∧ keep.getD k 0 = 0) ∨ (k < keep.length ∧ keep.getD k 0 ≤ 0) ∨ (k < keep.length ∧ 0 < keep.getD k 0 ∧ (f.data.size : Int) - f.synced < keep.getD k 0) ∨ (k < keep.length ∧ 0 < keep.getD k 0 ∧ keep.getD k 0 ≤ (f.data.size : Int) - f.synced) := by
        rcases Nat.lt_or_ge k keep.length with c | c
        · omega
        · exact Or.inl ⟨by omega, by rw [List.getD_eq_getElem?_getD, List.getElem?_eq_none c]; rfl⟩
      have hcell := Lib.hid (ints_at hI k)
      have hR1 := Lib.hid hR
      have hI1 := Lib.hid hI
      have hT1 := Lib.hid hT
      have hbi1 := Lib.hid hbi
      have P1 := Lib.hid put1
      have P2 := Lib.hid put2
      have hfk1 := Lib.hid hfk
      have HSz := Lib.hid (crashF_size (f := f) (x := keep.getD k 0) hfs)
      have HN := Lib.hid (crashK_next D.l keep k f hfk)
      have bfr1 := bfr (k * 3 + 1)
      have bfr2 := bfr (k * 3 + 2)
      clear hR hI hT hbi put1 put2 hfile hfk bfr
      rcases hcase with ⟨c1', c2'⟩ | ⟨c1', c2'⟩ | ⟨c1', c2', c3'⟩ | ⟨c1', c2', c3'⟩
      case' inl =>
        have HE := Lib.hid (crashF_none (f := f) (x := keep.getD k 0) (by omega))
        clear hcell c2'
      case' inr.inl =>
        obtain ⟨kb, koff, rfl, kc⟩ := hcell.out c1'
        have HE := Lib.hid (crashF_none (f := f) (x := keep.getD k 0) (by omega))
        clear hcell
        generalize keep.getD k 0 = x at *
      case' inr.inr.inl =>
        obtain ⟨kb, koff, rfl, kc⟩ := hcell.out c1'
        have HE := Lib.hid (crashF_all c3' hfs)
        clear hcell
        generalize keep.getD k 0 = x at *
      case' inr.inr.inr =>
        obtain ⟨kb, koff, rfl, kc⟩ := hcell.out c1'
        have HE := Lib.hid (crashF_some c2' c3')
        clear hcell
        generalize keep.getD k 0 = x at *
      all_goals
        have q1 : (0 : Int) ≤ (f.data.size : Int) - (f.synced : Int) := by omega
        go_wp2
        go_quiet (fail)
        go_wp2
        try go_quiet (fail)
        go_wp2
        go_region
        rw [HE.out]
        clear HE
        generalize hS : (crashF f _).data = S at *
        generalize hW : World.setCell (World.drewN wr _) _ _ = W
        have R2 : RefAt W base g F { D with l := setF (crashK D.l keep k) k (fun f => { f with data := S }) } := by rw [← hW]; exact (P1.out S)
        have T2 : Touch F w W := by rw [← hW]; exact (hT1.out.drewN _).setCell (Or.inl hbF) _
        have HW := Lib.hid hW
        have hfk2 : (setF (crashK D.l keep k) k (fun f => { f with data := S }))[k]? = some { f with data := S } := by rw [setF_get, if_pos rfl, crashK_at, hfk1.out]; try rfl
        obtain ⟨A3, cap3, e1, m3, m4, hfile2⟩ := R2.file
        obtain ⟨b2, rfl, hbF2, hbg2, hbi2, bfr3, _, e2, _, _, put3⟩ := hfile2 k _ hfk2
        have bfr4 := bfr3 (k * 3 + 2)
        have P3 := Lib.hid put3
        have R2' := Lib.hid R2
        have T2' := Lib.hid T2
        have HS' := Lib.hid hS
        have hbi3 := Lib.hid hbi2
        simp only [setF_length, crashK_length] at e1 m3
        clear hS hW R2 T2 hfile2 hfk2 bfr3 put3 c1 d0 d1 d2 bfr1 bfr2 hbi2
        go_step
        go_step
        go_region
        go_wp2
        go_roundw
        case rel =>
          refine ⟨k + 1, by omega, by go_num, ?_, ?_, ?_⟩
          · have HN2 : setF (setF (crashK D.l keep k) k (fun y => { y with data := S })) k (fun y => { y with synced := S.size }) = crashK D.l keep (k + 1) := by rw [HSz.out]; exact HN.out
            rw [← HN2]
            exact P3.out S.size
          · exact ints_far (by rw [← HW.out]; exact ints_far_n hI1.out hbi1.out) hbi3.out _
          · exact (T2'.out.setCell (Or.inl hbF2) _).drew
        case measure => simp [intOf]; omega
    · obtain rfl : k = D.l.length := by omega
      rw [crashK_full] at hR
      obtain ⟨A2, cap2, vK2, fr, _, c1, _, _, _, _, _, _, m1, _⟩ := hR.view
      have fr3 := fr 3
      have fr5 := fr 5
      have fr6 := fr 6
      have hl : (crashL D.l keep).length = D.l.length := by unfold crashL; simp
      simp only [hl] at c1 m1
      have HR := Lib.hid hR
      have HT := Lib.hid hT
      clear hR hI hT fr hl
      go_wp2
      go_ret
      obtain ⟨F', hF', hsub⟩ := ((HR.out.putDown true).putFails 0).putKeep (.slice none 0 0) [] (World.ownsRow_nil _ _ _ _)
      refine ⟨F', rfl, hF', fun x hx => ?_, ?_⟩
      · rcases hsub x hx with h | h
        · exact Or.inl h
        · cases h
      · exact ((HT.out.setCell (Or.inl HR.out.mem) _).setCell (Or.inl HR.out.mem) _).setCell (Or.inl HR.out.mem) _
end Go.Proofs.Ytfpimebamkmjoaa
