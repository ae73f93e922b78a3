/- The chapter's levels. -/
import Derived.Test.YtejdeidbgbacgaaLvRepl
import Derived.Test.YtejdeidbgbacgaaLvLaw
namespace Go.Proofs.Ytejdeidbgbacgaa
open Go.RowKit Go.Shelf
set_option linter.unusedVariables false
set_option maxRecDepth 100000

theorem ints_lit (w : World) (ns : List Int) (hm : ns.length ≤ 10000) : IntsIn (w.alloc (.cells (ns.map intV).toArray 3)) (.slice (some ⟨w.heap.size, 0, none⟩) ns.length ns.length) ns :=
  Or.inr ⟨w.heap.size, 0, ns.length, rfl, Nat.le_refl _, by unfold maxLen; omega, by simp, fun i x hx => by
    rw [Nat.zero_add]
    refine (Blok.new w 3 _).cell i |>.trans ?_
    rw [List.getElem?_toArray, List.getElem?_map, hx]
    rfl⟩
theorem lvs_lit (w : World) (M : List LvS) (n : Nat) (hn : M.length = n) (hm : n ≤ 10000) (he : LvEach w M) : LvsHas (w.alloc (.cells (lvals M).toArray 25)) (.slice (some ⟨w.heap.size, 0, none⟩) n n) (lvl M) := by
  subst hn
  exact ⟨M, ⟨Or.inr ⟨w.heap.size, 0, M.length, rfl, Nat.le_refl _, by unfold maxLen; omega, by simp, fun i x hx => by
    rw [Nat.zero_add]
    refine (Blok.new w 25 _).cell i |>.trans ?_
    rw [List.getElem?_toArray]
    unfold lvals
    rw [List.getElem?_map, hx]
    rfl⟩, he.below ((Below.refl _ _).alloc (Nat.le_refl _) _) (Nat.le_refl _)⟩, rfl⟩
/-- What is told, shortly. -/
def GotL (W : World) (T : LvL) (n : Nat) (E : Int) (e : Ending) (w' : World) : Prop := ∃ A c, e = .returned (.tuple #[.slice A n c, .int .i64 E]) ∧ LvsHas w' (.slice A n c) T ∧ Below W.heap.size W w'
theorem got_l {W V : World} {T T' : LvL} {n : Nat} {E E' : Int} {e : Ending} {w' : World} (h : LvsEnd V T' E' e w') (hT : T' = T) (hE : E' = E) (hn : T.length = n) (hb : Below W.heap.size W V) : GotL W T n E e w' := by
  subst hT hE hn
  obtain ⟨A, c, he, hr, hb2⟩ := h
  exact ⟨A, c, he, hr.has, bj hb hb2⟩
theorem ex_add : addL [] 3 = [[3]] ∧ addE [] 3 = 0 := by decide +kernel
theorem ex_repl : replL [[3, 4], [5]] 0 6 = [[], [5, 6]] ∧ replE [[3, 4], [5]] 0 6 = 0 := by decide +kernel
theorem ex_pick : pickE [[], [5, 6]] 0 = 4 ∧ pickL [[], [5, 6]] 0 = [] := by decide +kernel
theorem ex_valid : validL [[], [5, 6]] = true := by decide +kernel
theorem st1 (W : World) : Calls Try.prog 8 #[.slice none 0 0, .int .i64 3] W (GotL W [[3]] 1 0) :=
  (ladd_any _ [] 3 W (LvsHas.nil W none 0) (by decide) (by decide)).mono fun e w' h => got_l h ex_add.1 ex_add.2 rfl (Below.refl _ _)
theorem st2 (W : World) : Calls Try.prog 12 #[.slice (some ⟨W.heap.size + 1 + 1, 0, none⟩) 2 2, .int .i64 0, .int .i64 6]
    (((W.alloc (.cells #[.int .i64 3, .int .i64 4] 3)).alloc (.cells #[.int .i64 5] 3)).alloc (.cells #[.slice (some ⟨W.heap.size, 0, none⟩) 2 2, .slice (some ⟨W.heap.size + 1, 0, none⟩) 1 1] 25)) (GotL W [[], [5, 6]] 2 0) := by
  have b1 : Below W.heap.size W (W.alloc (.cells #[.int .i64 3, .int .i64 4] 3)) := (Below.refl _ _).alloc (Nat.le_refl _) _
  have i1 : IntsIn (W.alloc (.cells #[.int .i64 3, .int .i64 4] 3)) (.slice (some ⟨W.heap.size, 0, none⟩) 2 2) [3, 4] := ints_lit W [3, 4] (by decide)
  have z1 : (W.alloc (.cells #[.int .i64 3, .int .i64 4] 3)).heap.size = W.heap.size + 1 := by simp
  generalize (W.alloc (.cells #[.int .i64 3, .int .i64 4] 3)) = W1 at *
  have b2 : Below W1.heap.size W1 (W1.alloc (.cells #[.int .i64 5] 3)) := (Below.refl _ _).alloc (Nat.le_refl _) _
  have i2 : IntsIn (W1.alloc (.cells #[.int .i64 5] 3)) (.slice (some ⟨W1.heap.size, 0, none⟩) 1 1) [5] := ints_lit W1 [5] (by decide)
  have z2 : (W1.alloc (.cells #[.int .i64 5] 3)).heap.size = W1.heap.size + 1 := by simp
  have i1' := i1.below b2 (Nat.le_refl _)
  generalize (W1.alloc (.cells #[.int .i64 5] 3)) = W2 at *
  rw [z1] at i2 z2
  have h := lvs_lit W2 [⟨.slice (some ⟨W.heap.size, 0, none⟩) 2 2, [3, 4]⟩, ⟨.slice (some ⟨W.heap.size + 1, 0, none⟩) 1 1, [5]⟩] 2 rfl (by decide) (fun x hx => by
    rcases List.mem_cons.1 hx with rfl | hx
    · exact i1'
    · rw [List.mem_singleton.1 hx]; exact i2)
  rw [z2] at h
  exact (lrepl_any _ [[3, 4], [5]] 0 6 _ h (by decide) (by decide)).mono fun e w' h => got_l h ex_repl.1 ex_repl.2 rfl ((bj b1 b2).trans ((Below.refl W2.heap.size W2).alloc (Nat.le_refl _) _ |>.mono (bj b1 b2).size))
theorem st3 (W : World) (v : Value) (h : LvsHas W v [[], [5, 6]]) : Calls Try.prog 10 #[v, .int .i64 0] W fun e w' => (∃ A c, e = .returned (.tuple #[.slice A 0 c, .int .i64 4])) ∧ Below W.heap.size W w' :=
  (lpick_any v [[], [5, 6]] 0 W h (by decide) (by decide)).mono fun e w' h => by
    obtain ⟨A, c, he, -, hb⟩ := h
    rw [ex_pick.1, ex_pick.2] at he
    exact ⟨⟨A, c, he⟩, hb⟩
theorem st4 (W : World) (v : Value) (h : LvsHas W v [[3]]) : Calls Try.prog 14 #[v, .slice (some ⟨W.heap.size + 1, 0, none⟩) 1 1]
    ((W.alloc (.cells #[.int .i64 3] 3)).alloc (.cells #[.slice (some ⟨W.heap.size, 0, none⟩) 1 1] 25)) fun e w' => e = .returned (.bool true) ∧ Below W.heap.size W w' := by
  have b1 : Below W.heap.size W (W.alloc (.cells #[.int .i64 3] 3)) := (Below.refl _ _).alloc (Nat.le_refl _) _
  have i1 : IntsIn (W.alloc (.cells #[.int .i64 3] 3)) (.slice (some ⟨W.heap.size, 0, none⟩) 1 1) [3] := ints_lit W [3] (by decide)
  have z1 : (W.alloc (.cells #[.int .i64 3] 3)).heap.size = W.heap.size + 1 := by simp
  generalize (W.alloc (.cells #[.int .i64 3] 3)) = W1 at *
  have h2 := lvs_lit W1 [⟨.slice (some ⟨W.heap.size, 0, none⟩) 1 1, [3]⟩] 1 rfl (by decide) (fun x hx => by rw [List.mem_singleton.1 hx]; exact i1)
  rw [z1] at h2
  have b2 := (b1.alloc (by rw [z1]; exact Nat.le_succ _) (.cells (lvals [⟨.slice (some ⟨W.heap.size, 0, none⟩) 1 1, [3]⟩]).toArray 25))
  refine (lsame_any v _ [[3]] [[3]] _ (h.below b2 (Nat.le_refl _)) h2).mono ?_
  rintro e w' ⟨rfl, n, rfl⟩
  exact ⟨rfl, below_drewN b2 n⟩
theorem st5 (W : World) (v : Value) (h : LvsHas W v [[], [5, 6]]) : Calls Try.prog 14 #[v, .slice (some ⟨W.heap.size + 1, 0, none⟩) 2 2]
    ((W.alloc (.cells #[.int .i64 5, .int .i64 6] 3)).alloc (.cells #[.slice none 0 0, .slice (some ⟨W.heap.size, 0, none⟩) 2 2] 25)) fun e w' => e = .returned (.bool true) ∧ Below W.heap.size W w' := by
  have b1 : Below W.heap.size W (W.alloc (.cells #[.int .i64 5, .int .i64 6] 3)) := (Below.refl _ _).alloc (Nat.le_refl _) _
  have i1 : IntsIn (W.alloc (.cells #[.int .i64 5, .int .i64 6] 3)) (.slice (some ⟨W.heap.size, 0, none⟩) 2 2) [5, 6] := ints_lit W [5, 6] (by decide)
  have z1 : (W.alloc (.cells #[.int .i64 5, .int .i64 6] 3)).heap.size = W.heap.size + 1 := by simp
  generalize (W.alloc (.cells #[.int .i64 5, .int .i64 6] 3)) = W1 at *
  have h2 := lvs_lit W1 [⟨.slice none 0 0, []⟩, ⟨.slice (some ⟨W.heap.size, 0, none⟩) 2 2, [5, 6]⟩] 2 rfl (by decide) (fun x hx => by
    rcases List.mem_cons.1 hx with rfl | hx
    · exact Or.inl ⟨rfl, none, 0, rfl⟩
    · rw [List.mem_singleton.1 hx]; exact i1)
  rw [z1] at h2
  have b2 := (b1.alloc (by rw [z1]; exact Nat.le_succ _) (.cells (lvals [⟨.slice none 0 0, []⟩, ⟨.slice (some ⟨W.heap.size, 0, none⟩) 2 2, [5, 6]⟩]).toArray 25))
  refine (lsame_any v _ [[], [5, 6]] [[], [5, 6]] _ (h.below b2 (Nat.le_refl _)) h2).mono ?_
  rintro e w' ⟨rfl, n, rfl⟩
  exact ⟨rfl, below_drewN b2 n⟩
theorem st6 (W : World) (v : Value) (h : LvsHas W v [[], [5, 6]]) : Calls Try.prog 16 #[v] W fun e w' => e = .returned (.bool true) ∧ Below W.heap.size W w' := by
  have h1 := lvalid_any v _ W h (by decide) (by decide)
  rw [ex_valid] at h1
  exact h1
def LvEnd (w : World) (e : Ending) (w' : World) : Prop := e = .returned (.bool true) ∧ Below w.heap.size w w'
set_option maxHeartbeats 2000000 in
theorem stand_true (w : World) : Calls Try.prog 7 #[] w (LvEnd w) := by
  have H1 := Lib.hid st1
  have H2 := Lib.hid st2
  have H3 := Lib.hid st3
  have H4 := Lib.hid st4
  have H5 := Lib.hid st5
  have H6 := Lib.hid st6
  go_enter Try.func7, Try.ntmps7
  go_wp2_with fail
  refine (H1.out _).mono ?_
  rintro e w1 ⟨A1, c1, rfl, i1, b1⟩
  have I1 := Lib.hid i1
  clear i1
  go_wp2_with fail
  refine (H2.out _).mono ?_
  rintro e w2 ⟨A2, c2, rfl, i2, b2⟩
  have B2 := bj b1 b2
  have I2 := Lib.hid (And.intro (I1.out.below b2 (Nat.le_refl _)) i2)
  clear i2 b1 b2 I1
  go_wp2_with fail
  refine (H3.out _ _ I2.out.2).mono ?_
  rintro e w3 ⟨⟨A3, c3, rfl⟩, b3⟩
  have B3 := bj B2 b3
  have I3 := Lib.hid (And.intro (I2.out.1.below b3 (Nat.le_refl _)) (I2.out.2.below b3 (Nat.le_refl _)))
  clear b3 B2 I2
  go_wp2_with fail
  refine (H4.out _ _ I3.out.1).mono ?_
  rintro e w4 ⟨rfl, b4⟩
  have B4 := bj B3 b4
  have I4 := Lib.hid (I3.out.2.below b4 (Nat.le_refl _))
  clear b4 B3 I3
  go_wp2_with fail
  refine (H5.out _ _ I4.out).mono ?_
  rintro e w5 ⟨rfl, b5⟩
  have B5 := bj B4 b5
  have I5 := Lib.hid (I4.out.below b5 (Nat.le_refl _))
  clear b5 B4 I4
  go_wp2_with fail
  refine (H6.out _ _ I5.out).mono ?_
  rintro e w6 ⟨rfl, b6⟩
  have B6 := bj B5 b6
  go_wp2
  go_ret
  exact ⟨rfl, B6⟩
end Go.Proofs.Ytejdeidbgbacgaa
