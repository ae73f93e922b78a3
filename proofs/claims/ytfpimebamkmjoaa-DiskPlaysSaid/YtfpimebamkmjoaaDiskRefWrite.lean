/- Append, Sync, Read, Fail: the document's. -/
import Derived.Test.YtfpimebamkmjoaaDiskRefActs
namespace Go.Proofs.Ytfpimebamkmjoaa
open Go.RowKit
set_option linter.unusedVariables false

theorem used_mem {l : List FileS} {f : FileS} (h : f ∈ l) : f.data.size ≤ usedS l := by
  induction l with
  | nil => cases h
  | cons x l ih =>
    have e : usedS (x :: l) = x.data.size + usedS l := by unfold usedS; simp
    rcases List.mem_cons.1 h with rfl | h
    · omega
    · have := ih h; omega
theorem used_setF (l : List FileS) : ∀ (k : Nat) (f : FileS) (h : FileS → FileS), l[k]? = some f → usedS (setF l k h) + f.data.size = usedS l + (h f).data.size := by
  induction l with
  | nil => intro k f h hk; simp at hk
  | cons x l ih =>
    intro k f h hk
    have e : ∀ x l, usedS (x :: l) = x.data.size + usedS l := fun x l => by unfold usedS; simp
    cases k with
    | zero =>
      obtain rfl : x = f := by simpa using hk
      have e2 : setF (x :: l) 0 h = h x :: l := rfl
      rw [e2, e, e]
      omega
    | succ k =>
      have e2 : setF (x :: l) (k + 1) h = x :: setF l k h := rfl
      have := ih k f h (by simpa using hk)
      rw [e2, e, e]
      omega
theorem mem_setF {l : List FileS} {k : Nat} {h : FileS → FileS} {x : FileS} (hx : x ∈ setF l k h) : x ∈ l ∨ ∃ f, l[k]? = some f ∧ x = h f := by
  obtain ⟨j, hj⟩ := List.getElem?_of_mem hx
  rw [setF_get] at hj
  by_cases e : j = k
  · subst e
    rw [if_pos rfl] at hj
    cases hl : l[j]? with
    | none => rw [hl] at hj; cases hj
    | some f => rw [hl] at hj; exact Or.inr ⟨f, rfl, by simpa using hj.symm⟩
  · rw [if_neg e] at hj
    exact Or.inl (List.mem_of_getElem? hj)
theorem RefOk.next {D : DiskS} (h : RefOk D) : RefOk (nextS D) := ⟨h.sizes, h.many, h.used, h.cap, by show D.fails - 1 ≤ _; have := h.fails; omega⟩
theorem RefOk.app {D : DiskS} (h : RefOk D) {k : Nat} {f : FileS} (hk : D.l[k]? = some f) (s : ByteArray) (hs : usedS D.l + s.size ≤ D.cap) : RefOk { D with l := setF D.l k (fun f => { f with data := f.data ++ s }) } := by
  have hu : usedS (setF D.l k (fun f => { f with data := f.data ++ s })) + f.data.size = usedS D.l + (f.data ++ s).size := used_setF D.l k f (fun f => { f with data := f.data ++ s }) hk
  have hz : (f.data ++ s).size = f.data.size + s.size := ByteArray.size_append
  have hc := h.cap
  have hu2 : usedS (setF D.l k (fun f => { f with data := f.data ++ s })) = usedS D.l + s.size := by omega
  refine ⟨fun x hx => ?_, by show (setF _ _ _).length ≤ _; rw [setF_length]; exact h.many, by show usedS (setF _ _ _) ≤ _; omega, h.cap, h.fails⟩
  have hb : x.data.size ≤ usedS (setF D.l k (fun f => { f with data := f.data ++ s })) := used_mem hx
  refine ⟨?_, by omega⟩
  rcases mem_setF hx with hx | ⟨f', hf', rfl⟩
  · exact (h.sizes x hx).1
  · have := (h.sizes f' (List.mem_of_getElem? hf')).1
    show f'.synced ≤ (f'.data ++ s).size
    rw [ByteArray.size_append]
    omega
theorem app_eq (l : List FileS) (k : Nat) (f : FileS) (s : ByteArray) (h : l[k]? = some f) : setF l k (fun x => { x with data := f.data ++ s }) = setF l k (fun f => { f with data := f.data ++ s }) := by
  apply List.ext_getElem?
  intro j
  rw [setF_get, setF_get]
  by_cases e : j = k
  · subst e; rw [if_pos rfl, if_pos rfl, h]; rfl
  · rw [if_neg e, if_neg e]
theorem RefEnd.after {base g : Nat} {F G : List Nat} {w w1 w' : World} {r : Nat} {E : DiskS} {e : Ending} (h : RefEnd base g G w1 r E e w') (ht : Touch F w w1) (hG : ∀ x ∈ G, x ∈ F ∨ w.heap.size ≤ x) : RefEnd base g F w r E e w' := by
  obtain ⟨F', h1, h2, h3, h4⟩ := h
  refine ⟨F', h1, h2, fun x hx => ?_, ht.trans h4 hG⟩
  rcases h3 x hx with h | h
  · exact hG x h
  · exact Or.inr (by have := ht.size; omega)

set_option maxHeartbeats 2000000 in
theorem append_ref {base g : Nat} {F : List Nat} {D : DiskS} (n s : ByteArray) (w : World) (h : RefAt w base g F D) (ho : RefOk D) (hs : s.size ≤ 1099511627776) :
    Calls Try.prog 45 #[.pointer (some ⟨g, 0, none⟩), .string n, .string s] w (RefEnd base g F w (appendS D n s).1 (appendS D n s).2) := by
  obtain ⟨A, cap, vK, fr, c0, c1, _, c3, _, _, _, n1, n2, _⟩ := h.view
  have hfi := Lib.hid (find_ref n w h)
  have H := Lib.hid h
  clear fr c1 n1 n2
  unfold appendS
  cases hd : D.down
  case true =>
    rw [hd] at c3
    clear hd h
    generalize foundV D.l n = x at *
    go_enter Try.func45, Try.ntmps45
    go_wp2_with fail
    refine hfi.out.mono ?_
    rintro e w' ⟨rfl, rfl⟩
    go_wp2
    go_ret
    exact ⟨F, rfl, H.out, fun _ h => Or.inl h, Touch.refl _ _⟩
  rw [hd] at c3
  by_cases hlt : findS D.l n < D.l.length
  case neg =>
    rw [foundV_no hlt] at hfi
    rw [if_neg hlt]
    clear hlt h hd
    go_enter Try.func45, Try.ntmps45
    go_wp2_with fail
    refine hfi.out.mono ?_
    rintro e w' ⟨rfl, rfl⟩
    go_wp2
    go_ret
    exact ⟨F, rfl, H.out, fun _ h => Or.inl h, Touch.refl _ _⟩
  rw [foundV_yes hlt] at hfi
  rw [if_pos hlt]
  obtain ⟨f, hfk, _⟩ := find_at hlt
  have hus := ho.used
  have hu := Lib.hid (fun w (h : RefAt w base g F D) => used_ref w h hus)
  obtain ⟨A2, cap2, c1, m1, m2, hfile⟩ := h.file
  obtain ⟨b, rfl, hbF, hbg, hbi, bfr, d0, d1, d2, put1, put2⟩ := hfile _ f hfk
  have bfr1 := bfr (findS D.l n * 3 + 1)
  have hfz := (ho.sizes f (List.mem_of_getElem? hfk)).2
  have hcp := ho.cap
  have HO := Lib.hid ho
  have HFK := Lib.hid hfk
  have HD := Lib.hid hd
  have P1 := Lib.hid put1
  have HBF := Lib.hid hbF
  clear put1 put2 hfile hbi bfr ho hfk hd h hbF
  by_cases hfit : D.cap < usedS D.l + s.size
  case pos =>
    rw [if_pos hfit]
    generalize usedS D.l = u at *
    generalize findS D.l n = k at *
    go_enter Try.func45, Try.ntmps45
    go_wp2_with fail
    refine hfi.out.mono ?_
    rintro e w' ⟨rfl, rfl⟩
    have hu1 := Lib.hid (fun n => hu.out (w.drewN n) H.out)
    have hq : (D.cap : Int) < (u : Int) + (s.size : Int) := by omega
    clear hu hfi
    go_wp2_with fail
    go_quiet ((go_at_call 46; exact Calls.quiet_of_same ((hu1.out _).mono fun _ _ h => ⟨h.1, h.2.symm⟩)))
    go_wp2
    go_ret
    exact ⟨F, rfl, H.out, fun _ h => Or.inl h, (Touch.refl _ _).drewN _⟩
  rw [if_neg hfit]
  have hadd : ∀ wx : World, (Op.stringOp .add f.data s).run Try.prog wx = .ok (.string (f.data ++ s)) wx := fun wx => run_string_add_sum (P := Try.prog) (w := wx) f.data s (by omega)
  have HE := Lib.hid (show RefOk (appE D n s) from HO.out.app HFK.out s (by omega))
  have HP := Lib.hid (show RefAt (w.setCell ⟨b, findS D.l n * 3 + 1, none⟩ (.string (f.data ++ s))) base g F (appE D n s) by
    show RefAt _ _ _ _ { D with l := setF D.l (findS D.l n) (fun f => { f with data := f.data ++ s }) }
    rw [← app_eq D.l _ f s HFK.out]; exact P1.out (f.data ++ s))
  have HG := Lib.hid (show goesS (appE D n s) = goesS D from rfl)
  have HDE := Lib.hid (show (nextS (appE D n s)).down = false from HD.out)
  have HKE := Lib.hid (show sinkS (nextS (appE D n s)) (nextS (appE D n s)).keep = sinkS (appE D n s) D.keep from rfl)
  clear P1 HFK
  generalize appE D n s = E at *
  generalize sinkS E D.keep = E2 at *
  generalize usedS D.l = u at *
  generalize findS D.l n = k at *
  have hq : (u : Int) + (s.size : Int) ≤ (D.cap : Int) := by omega
  cases hgd : goesS D
  all_goals
    rw [hgd] at HG
    simp only [Bool.false_eq_true, if_false, if_true]
    clear hgd hfit
    go_enter Try.func45, Try.ntmps45
    go_wp2_with fail
    refine hfi.out.mono ?_
    rintro e w' ⟨rfl, rfl⟩
    have hu1 := Lib.hid (fun n => hu.out (w.drewN n) H.out)
    clear hu hfi
    go_wp2_with fail
    go_quiet ((go_at_call 46; exact Calls.quiet_of_same ((hu1.out _).mono fun _ _ h => ⟨h.1, h.2.symm⟩)))
    go_wp2_with fail
    go_region
    generalize hW : World.setCell (World.drewN w _) _ _ = W
    have R2 : RefAt W base g F E := by rw [← hW]; exact HP.out
    have T2 : Touch F w W := by rw [← hW]; exact ((Touch.refl F w).drewN _).setCell (Or.inl HBF.out) _
    have hc := Lib.hid (change_ref W R2 HE.out.fails)
    rw [HG.out] at hc
    have HR2 := Lib.hid R2
    have HT2 := Lib.hid T2
    clear hW R2 T2 HP c0 c1 d0 d1 d2 bfr1 hadd c3
    go_step
    go_step
    go_wp2_with fail
    refine hc.out.mono ?_
    rintro e w2 ⟨rfl, hR3, hT3⟩
    have hsk := Lib.hid (sunk_ref w2 hR3 HE.out.next HDE.out)
    rw [HKE.out] at hsk
    have HR3 := Lib.hid hR3
    have HT3 := Lib.hid hT3
    clear hR3 hT3 hc
    go_wp2_with fail
  · refine hsk.out.mono ?_
    rintro e w3 ⟨F', rfl, h1, h2, h3⟩
    have H1 := Lib.hid h1
    have H2 := Lib.hid h2
    have H3 := Lib.hid h3
    clear h1 h2 h3 hsk
    go_wp2
    go_ret
    exact RefEnd.after ⟨F', rfl, H1.out, H2.out, H3.out⟩ (HT2.out.trans HT3.out (fun x h => Or.inl h)) (fun x h => Or.inl h)
  · go_ret
    exact ⟨F, rfl, HR3.out, fun x h => Or.inl h, HT2.out.trans HT3.out (fun x h => Or.inl h)⟩
end Go.Proofs.Ytfpimebamkmjoaa
