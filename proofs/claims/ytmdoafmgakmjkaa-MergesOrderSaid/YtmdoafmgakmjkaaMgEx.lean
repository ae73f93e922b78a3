/- The chapter's examples. -/
import Derived.Test.YtmdoafmgakmjkaaMgMerge
import Derived.Test.YtmdoafmgakmjkaaEntSame
import Derived.Test.YtmdoafmgakmjkaaIntsDef
namespace Go.Proofs.Ytmdoafmgakmjkaa
open Go.RowKit Go.Shelf
set_option linter.unusedVariables false
set_option maxRecDepth 100000

/-- Entries of the hash 0, by their versions. -/
def ofE (ns : List Int) : List EntS := ns.map fun i => ⟨0, i, 0⟩
theorem ofE_length (ns : List Int) : (ofE ns).length = ns.length := List.length_map _
theorem ofE_take {ns : List Int} {k : Nat} {x : Int} (h : ns[k]? = some x) : ofE (ns.take (k + 1)) = ofE (ns.take k) ++ [⟨0, x, 0⟩] := by
  unfold ofE
  rw [List.take_add_one, h, List.map_append]
  rfl
theorem mg_kept {va vb : Value} {a b : List EntS} {w : World} (ha : EntsIn w va a) (hb : EntsIn w vb b) (hm : a.length ≤ 1000000) (hk : b.length ≤ 1000000) (hab : a = b) :
    Calls Try.prog 9 #[va, vb] w fun e w' => e = .returned (.bool true) ∧ Below w.heap.size w w' := (esame_any va vb a b w ha hb hm hk).mono (by
  rintro e w' ⟨rfl, n, rfl⟩
  rw [decide_eq_true hab]
  exact ⟨rfl, below_drewN (Below.refl _ _) n⟩)
theorem of_more {w : World} {base k : Nat} {v : Value} {ns : List Int} {x : Int} (hx : ns[k]? = some x) (hrow : EntRow w base v (ofE (ns.take k))) (hk : k ≤ 10000) (hb : base ≤ w.heap.size) (ty : TypeId) :
    ∃ w' u, (Builtin.append_ #[25, 25] ty #[v, .slice (some ⟨w.heap.size, 0, none⟩) 1 1]).run Try.prog (w.alloc (.cells #[.int .u64 0, .int .i64 x, .int .i64 0] 30)) = .ok u w' ∧
      (∃ A c, u = .slice A (k + 1) c ∧ EntRow w' base (.slice A (k + 1) c) (ofE (ns.take (k + 1)))) ∧ Below base w w' := by
  have hl : (ofE (ns.take k)).length = k := by rw [ofE_length, List.length_take]; have := (List.getElem?_eq_some_iff.1 hx).1; omega
  have hrow1 : EntRow (w.alloc (.cells #[.int .u64 0, .int .i64 x, .int .i64 0] 30)) base v (ofE (ns.take k)) := EntRow.below hrow ((Below.refl w.heap.size w).alloc (Nat.le_refl _) _) (Nat.le_refl _)
  have h := ents_append hrow1 (ent_one w ⟨0, x, 0⟩) (by rw [hl]; simp; omega) (by simp; omega) ty
  rw [← ofE_take hx, hl] at h
  obtain ⟨A, c, w', e1, e2, e3, -⟩ := h
  refine ⟨w', _, e1, ⟨A, c, rfl, e2⟩, ?_⟩
  exact ((Below.refl base w).alloc hb _).trans (grown_below e3 (by simp; omega) (EntRow.block hrow1))
set_option maxHeartbeats 2000000 in
theorem of_run (v : Value) (ns : List Int) (w : World) (h : IntsIn w v ns) (hn : ns.length ≤ 10000) :
    Calls Try.prog 15 #[v] w (EntsOut w (ofE ns)) := by
  unfold EntsOut
  rw [ofE_length]
  have hcl : ∀ B W, w.heap.size ≤ B → Below B w W → ∀ i x, ns[i]? = some x → ∀ b off cap, v = .slice (some ⟨b, off, none⟩) ns.length cap → W.cell? ⟨b, off + i, none⟩ = some (.int .i64 x) := fun B W hB hW i x hx b off cap hv => by
    rcases h with ⟨rfl, _⟩ | ⟨b', off', cap', h1, h2, h3, h4, h5⟩
    · simp at hx
    · rw [hv] at h1
      obtain ⟨ha, -, -⟩ := Value.slice.inj h1
      obtain ⟨rfl, rfl, -⟩ := Addr.mk.inj (Option.some.inj ha)
      exact (hW.cell (p := ⟨b, off + i, none⟩) (Nat.lt_of_lt_of_le h4 hB)).trans (h5 i x hx)
  obtain ⟨A0, off, cap, hv, -, hc⟩ := h.cell
  have HC := Lib.hid hc
  have HCL := Lib.hid hcl
  have HE := Lib.hid (show ofE (ns.take ns.length) = ofE ns by rw [List.take_length])
  obtain ⟨n, hnn⟩ : ∃ n, n = ns.length := ⟨_, rfl⟩
  have HN := Lib.hid hnn
  rw [← hnn] at hn hv HE HCL ⊢
  have HV := Lib.hid hv
  subst hv
  clear h hc hcl hnn
  go_enter Try.func15, Try.ntmps15
  go_wp2
  go_loopw [3, 4] (fun u i wr => ∃ k : Nat, k ≤ n ∧ i = .int .i64 k ∧ (∃ A c, u = .slice A k c ∧ EntRow wr w.heap.size (.slice A k c) (ofE (ns.take k))) ∧ Below w.heap.size w wr) (fun _ i _ => n - (intOf i).toNat)
  case atStart => exact ⟨0, Nat.zero_le _, rfl, ⟨none, 0, rfl, EntRow.nil _ _⟩, Below.refl _ _⟩
  case round =>
    obtain ⟨k, hk, rfl, ⟨A1, c1, rfl, hrow⟩, hbel⟩ := hrel
    by_cases hlt : k < n
    · have s1 : (k : Int) < (n : Int) := by omega
      obtain ⟨x, hx⟩ : ∃ x, ns[k]? = some x := ⟨_, List.getElem?_eq_getElem (by rw [← HN.out]; exact hlt)⟩
      obtain ⟨b, rfl, -⟩ := HC.out k x hx
      have d0 := HCL.out _ wr (Nat.le_refl _) hbel k x hx b off cap rfl
      obtain ⟨w', u, e1, e2, e3⟩ := of_more hx hrow (by omega) hbel.size 25
      have HE1 := Lib.hid e1
      have HE2 := Lib.hid e2
      have HE3 := Lib.hid (hbel.trans e3)
      clear hrow hbel e1 e2 e3 hx
      go_wp2_with (first | (at_builtin; refine wpList_append_two rfl _ _ rfl rfl rfl HE1.out ?_) | fail)
      go_roundw
      case rel => exact ⟨k + 1, by omega, by go_num, HE2.out, HE3.out⟩
      case measure => simp [intOf]; omega
    · obtain rfl : k = n := by omega
      have s1 : ¬ (k : Int) < (k : Int) := by omega
      rw [HE.out] at hrow
      have HR := Lib.hid hrow
      clear hlt hrow
      go_wp2
      go_ret
      exact ⟨A1, c1, rfl, HR.out, hbel⟩

/-- What is told, shortly. -/
def GotE (W : World) (l : List EntS) (n : Nat) (e : Ending) (w' : World) : Prop := ∃ A c, e = .returned (.slice A n c) ∧ EntsIn w' (.slice A n c) l ∧ Below W.heap.size W w'
theorem got_of {W V : World} {l : List EntS} {n : Nat} {e : Ending} {w' : World} (h : EntsOut V l e w') (hn : l.length = n) (hb : Below W.heap.size W V) : GotE W l n e w' := by
  obtain ⟨A, c, he, hr, hb2⟩ := h
  subst hn
  exact ⟨A, c, he, EntRow.in_ hr, bj hb hb2⟩
theorem ints_new (w : World) (ns : List Int) (hm : ns.length ≤ 10000) : IntsIn (w.alloc (.cells (ns.map fun x => Value.int .i64 x).toArray 3)) (.slice (some ⟨w.heap.size, 0, none⟩) ns.length ns.length) ns :=
  Or.inr ⟨w.heap.size, 0, ns.length, rfl, Nat.le_refl _, by unfold maxLen; omega, by simp, fun i x hx => by
    rw [Nat.zero_add]
    refine (Blok.new w 3 _).cell i |>.trans ?_
    rw [List.getElem?_toArray, List.getElem?_map, hx]
    rfl⟩
theorem of_lit (W : World) (ns : List Int) (n : Nat) (hn : ns.length = n) (hm : n ≤ 10000) : Calls Try.prog 15 #[.slice (some ⟨W.heap.size, 0, none⟩) n n] (W.alloc (.cells (ns.map fun x => Value.int .i64 x).toArray 3)) (GotE W (ofE ns) n) := by
  subst hn
  exact (of_run _ ns _ (ints_new W ns hm) hm).mono fun e w' h => got_of h (ofE_length ns) ((Below.refl _ _).alloc (Nat.le_refl _) _)
theorem lists_new (w : World) (L : List LstS) (hm : L.length ≤ 10000) (he : Each w L) : ListsIn (w.alloc (.cells (vals L).toArray 25)) (.slice (some ⟨w.heap.size, 0, none⟩) L.length L.length) L :=
  ⟨Or.inr ⟨w.heap.size, 0, L.length, rfl, Nat.le_refl _, by unfold maxLen; omega, by simp, fun i x hx => by
    rw [Nat.zero_add]
    refine (Blok.new w 25 _).cell i |>.trans ?_
    rw [List.getElem?_toArray]
    unfold vals
    rw [List.getElem?_map, hx]
    rfl⟩, he.below ((Below.refl _ _).alloc (Nat.le_refl _) _) (Nat.le_refl _)⟩
theorem merge_lit (W : World) (L : List LstS) (R : List EntS) (n m : Nat) (hn : L.length = n) (hm : n ≤ 10000) (ht : totL (els L) ≤ 500000) (he : Each W L) (hR : mergeE (els L) = R) (hr : R.length = m) :
    Calls Try.prog 8 #[.slice (some ⟨W.heap.size, 0, none⟩) n n] (W.alloc (.cells (vals L).toArray 25)) (GotE W R m) := by
  subst hn hR
  exact (merge_any _ L _ (lists_new W L hm he) (by omega) ht).mono fun e w' h => got_of h hr ((Below.refl _ _).alloc (Nat.le_refl _) _)
theorem ents_nil (W : World) : EntsIn W (.slice none 0 0) [] := Or.inl ⟨rfl, none, 0, rfl⟩
theorem ex_one : mergeE [ofE [1, 3, 5], ofE [2, 3], []] = ofE [1, 2, 3, 5] := by decide +kernel
theorem ex_two : mergeE [ofE [2, 1], ofE [2]] = ofE [2, 1] := by decide +kernel
def MgEnd (w : World) (e : Ending) (w' : World) : Prop := e = .returned (.bool true) ∧ Below w.heap.size w w'
section
variable (W : World)
theorem o135 : Calls Try.prog 15 #[.slice (some ⟨W.heap.size, 0, none⟩) 3 3] (W.alloc (.cells #[.int .i64 1, .int .i64 3, .int .i64 5] 3)) (GotE W (ofE [1, 3, 5]) 3) := of_lit W [1, 3, 5] 3 rfl (by decide)
theorem o23 : Calls Try.prog 15 #[.slice (some ⟨W.heap.size, 0, none⟩) 2 2] (W.alloc (.cells #[.int .i64 2, .int .i64 3] 3)) (GotE W (ofE [2, 3]) 2) := of_lit W [2, 3] 2 rfl (by decide)
theorem o1235 : Calls Try.prog 15 #[.slice (some ⟨W.heap.size, 0, none⟩) 4 4] (W.alloc (.cells #[.int .i64 1, .int .i64 2, .int .i64 3, .int .i64 5] 3)) (GotE W (ofE [1, 2, 3, 5]) 4) := of_lit W [1, 2, 3, 5] 4 rfl (by decide)
theorem o21 : Calls Try.prog 15 #[.slice (some ⟨W.heap.size, 0, none⟩) 2 2] (W.alloc (.cells #[.int .i64 2, .int .i64 1] 3)) (GotE W (ofE [2, 1]) 2) := of_lit W [2, 1] 2 rfl (by decide)
theorem o2 : Calls Try.prog 15 #[.slice (some ⟨W.heap.size, 0, none⟩) 1 1] (W.alloc (.cells #[.int .i64 2] 3)) (GotE W (ofE [2]) 1) := of_lit W [2] 1 rfl (by decide)
theorem m1 (u v : Value) (hu : EntsIn W u (ofE [1, 3, 5])) (hv : EntsIn W v (ofE [2, 3])) : Calls Try.prog 8 #[.slice (some ⟨W.heap.size, 0, none⟩) 3 3] (W.alloc (.cells #[u, v, .slice none 0 0] 25)) (GotE W (ofE [1, 2, 3, 5]) 4) :=
  merge_lit W [⟨u, ofE [1, 3, 5]⟩, ⟨v, ofE [2, 3]⟩, ⟨.slice none 0 0, []⟩] _ 3 4 rfl (by decide) (show totL [ofE [1, 3, 5], ofE [2, 3], []] ≤ 500000 by decide) (fun x hx => by
    rcases List.mem_cons.1 hx with rfl | hx
    · exact hu
    · rcases List.mem_cons.1 hx with rfl | hx
      · exact hv
      · rw [List.mem_singleton.1 hx]; exact ents_nil W) ex_one rfl
theorem m2 : Calls Try.prog 8 #[.slice none 0 0] W (GotE W [] 0) := (merge_any _ [] W ⟨Or.inl ⟨rfl, none, 0, rfl⟩, fun x hx => (by cases hx)⟩ (by simp) (by decide)).mono fun e w' h => got_of h rfl (Below.refl _ _)
theorem m3 : Calls Try.prog 8 #[.slice (some ⟨W.heap.size, 0, none⟩) 1 1] (W.alloc (.cells #[.slice none 0 0] 25)) (GotE W [] 0) :=
  merge_lit W [⟨.slice none 0 0, []⟩] [] 1 0 rfl (by decide) (by decide) (fun x hx => by rw [List.mem_singleton.1 hx]; exact ents_nil W) (by decide +kernel) rfl
theorem m4 (u v : Value) (hu : EntsIn W u (ofE [2, 1])) (hv : EntsIn W v (ofE [2])) : Calls Try.prog 8 #[.slice (some ⟨W.heap.size, 0, none⟩) 2 2] (W.alloc (.cells #[u, v] 25)) (GotE W (ofE [2, 1]) 2) :=
  merge_lit W [⟨u, ofE [2, 1]⟩, ⟨v, ofE [2]⟩] _ 2 2 rfl (by decide) (show totL [ofE [2, 1], ofE [2]] ≤ 500000 by decide) (fun x hx => by
    rcases List.mem_cons.1 hx with rfl | hx
    · exact hu
    · rw [List.mem_singleton.1 hx]; exact hv) ex_two rfl
theorem s1235 (u v : Value) (hu : EntsIn W u (ofE [1, 2, 3, 5])) (hv : EntsIn W v (ofE [1, 2, 3, 5])) : Calls Try.prog 9 #[u, v] W fun e w' => e = .returned (.bool true) ∧ Below W.heap.size W w' := mg_kept hu hv (by decide) (by decide) rfl
theorem s21 (u v : Value) (hu : EntsIn W u (ofE [2, 1])) (hv : EntsIn W v (ofE [2, 1])) : Calls Try.prog 9 #[u, v] W fun e w' => e = .returned (.bool true) ∧ Below W.heap.size W w' := mg_kept hu hv (by decide) (by decide) rfl
end
set_option maxHeartbeats 2000000 in
theorem one_true (w : World) : Calls Try.prog 7 #[] w (MgEnd w) := by
  have H1 := Lib.hid o135
  have H2 := Lib.hid o23
  have H3 := Lib.hid m1
  have H4 := Lib.hid o1235
  have H5 := Lib.hid s1235
  have H6 := Lib.hid m2
  have H7 := Lib.hid m3
  have H8 := Lib.hid o21
  have H9 := Lib.hid o2
  have H10 := Lib.hid m4
  have H11 := Lib.hid s21
  go_enter Try.func7, Try.ntmps7
  go_wp2_with fail
  refine (H1.out _).mono ?_
  rintro e w1 ⟨A1, c1, rfl, i1, b1⟩
  have I1 := Lib.hid i1
  clear i1
  go_wp2_with fail
  refine (H2.out _).mono ?_
  rintro e w2 ⟨A2, c2, rfl, i2, b2⟩
  have B2 := bj b1 b2
  have I2 := Lib.hid (And.intro (I1.out.below b2 (Nat.le_refl _)) i2)
  clear i2 b1 b2 I1
  go_wp2_with fail
  refine (H3.out _ _ _ I2.out.1 I2.out.2).mono ?_
  rintro e w3 ⟨A3, c3, rfl, i3, b3⟩
  have B3 := bj B2 b3
  have I3 := Lib.hid i3
  clear i3 b3 B2 I2
  go_wp2_with fail
  refine (H4.out _).mono ?_
  rintro e w4 ⟨A4, c4, rfl, i4, b4⟩
  have B4 := bj B3 b4
  have I4 := Lib.hid (And.intro (I3.out.below b4 (Nat.le_refl _)) i4)
  clear i4 b4 B3 I3
  go_wp2_with fail
  refine (H5.out _ _ _ I4.out.1 I4.out.2).mono ?_
  rintro e w5 ⟨rfl, b5⟩
  have B5 := bj B4 b5
  clear b5 B4 I4
  go_wp2_with fail
  refine (H6.out _).mono ?_
  rintro e w6 ⟨A6, c6, rfl, -, b6⟩
  have B6 := bj B5 b6
  clear b6 B5
  go_wp2_with fail
  refine (H7.out _).mono ?_
  rintro e w7 ⟨A7, c7, rfl, -, b7⟩
  have B7 := bj B6 b7
  clear b7 B6
  go_wp2_with fail
  refine (H8.out _).mono ?_
  rintro e w8 ⟨A8, c8, rfl, i8, b8⟩
  have B8 := bj B7 b8
  have I8 := Lib.hid i8
  clear i8 b8 B7
  go_wp2_with fail
  refine (H9.out _).mono ?_
  rintro e w9 ⟨A9, c9, rfl, i9, b9⟩
  have B9 := bj B8 b9
  have I9 := Lib.hid (And.intro (I8.out.below b9 (Nat.le_refl _)) i9)
  clear i9 b9 B8 I8
  go_wp2_with fail
  refine (H10.out _ _ _ I9.out.1 I9.out.2).mono ?_
  rintro e w10 ⟨A10, c10, rfl, i10, b10⟩
  have B10 := bj B9 b10
  have I10 := Lib.hid i10
  clear i10 b10 B9 I9
  go_wp2_with fail
  refine (H8.out _).mono ?_
  rintro e w11 ⟨A11, c11, rfl, i11, b11⟩
  have B11 := bj B10 b11
  have I11 := Lib.hid (And.intro (I10.out.below b11 (Nat.le_refl _)) i11)
  clear i11 b11 B10 I10
  go_wp2_with fail
  refine (H11.out _ _ _ I11.out.1 I11.out.2).mono ?_
  rintro e w12 ⟨rfl, b12⟩
  have B12 := bj B11 b12
  go_wp2
  go_ret
  exact ⟨rfl, B12⟩
end Go.Proofs.Ytmdoafmgakmjkaa
