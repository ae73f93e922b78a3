/- The chapter's manifests. -/
import Derived.Test.YtcfidpjhemjbjaaMfGet
import Derived.Test.YtcfidpjhemjbjaaLvLit
namespace Go.Proofs.Ytcfidpjhemjbjaa
open Go.RowKit Go.Shelf
set_option linter.unusedVariables false
set_option maxRecDepth 100000

theorem mg_small {s : ByteArray} (h : s.size < 25) : ¬ GoodM s := by
  rintro ⟨m, -, rfl⟩
  rw [mfB_size] at h
  omega
theorem zero_may : MayM ⟨0, 0, 0, []⟩ := by decide +kernel
theorem one_not : mayM ⟨1, 0, 0, [[1]]⟩ = false := by decide +kernel
theorem two_may : mayM ⟨2, 0, 0, [[1]]⟩ = true := by decide +kernel
theorem mx1 (W : World) : Calls Try.prog 8 #[.agg #[.int .i64 0, .int .i64 0, .int .u64 0, .slice none 0 0]] W fun e w' => (∃ X : ByteArray, e = .returned (.tuple #[.string X, .int .i64 0]) ∧ X.size = 25) ∧ Below W.heap.size W w' :=
  (mput_any 0 0 0 none 0 0 [] W (LvsHas.nil W none 0) rfl (by decide) (by decide) (by decide)).mono fun e w' h => by
    obtain ⟨h1, h2⟩ := h
    obtain ⟨r1, r2⟩ := mf_yes zero_may
    rw [r1, r2] at h1
    exact ⟨⟨_, h1, by rw [mfB_size]; rfl⟩, h2⟩
theorem mx2 (W : World) : Calls Try.prog 10 #[.string ⟨#[]⟩] W fun e w' => (∃ (x0 x1 : Int) (x2 : Nat) (A : Option Addr) (n c : Nat), e = .returned (.tuple #[.agg #[.int .i64 x0, .int .i64 x1, .int .u64 (x2 : Nat), .slice A n c], .int .i64 90])) ∧ Below W.heap.size W w' :=
  (mget_any ⟨#[]⟩ W (by decide)).mono fun e w' h => by
    obtain ⟨x0, x1, x2, A, n, c, R, h1, -, -, -, h2, -⟩ := h
    rw [(mg_no (mg_small (by decide))).1] at h1
    exact ⟨⟨x0, x1, x2, A, n, c, h1⟩, h2⟩
theorem mx3 (N : Int) (q : Bool) (hq : mayM ⟨N, 0, 0, [[1]]⟩ = q) (W : World) (g : Nat) (hg : W.heap.size = g) : Calls Try.prog 13 #[.agg #[.int .i64 N, .int .i64 0, .int .u64 0, .slice (some ⟨g + 1, 0, none⟩) 1 1]]
    ((W.alloc (.cells #[.int .i64 1] 3)).alloc (.cells #[.slice (some ⟨g, 0, none⟩) 1 1] 41)) fun e w' => e = .returned (.bool q) ∧ Below W.heap.size W w' := by
  subst hg
  have b1 : Below W.heap.size W (W.alloc (.cells #[.int .i64 1] 3)) := (Below.refl _ _).alloc (Nat.le_refl _) _
  have i1 : IntsIn (W.alloc (.cells #[.int .i64 1] 3)) (.slice (some ⟨W.heap.size, 0, none⟩) 1 1) [1] := ints_lit W [1] (by decide)
  have z1 : (W.alloc (.cells #[.int .i64 1] 3)).heap.size = W.heap.size + 1 := by simp
  generalize (W.alloc (.cells #[.int .i64 1] 3)) = W1 at *
  have h2 := lvs_lit W1 [⟨.slice (some ⟨W.heap.size, 0, none⟩) 1 1, [1]⟩] 1 rfl (by decide) (fun x hx => by rw [List.mem_singleton.1 hx]; exact i1)
  rw [z1] at h2
  have b2 := (b1.alloc (by rw [z1]; exact Nat.le_succ _) (.cells (lvals [⟨.slice (some ⟨W.heap.size, 0, none⟩) 1 1, [1]⟩]).toArray 41))
  refine (mval_any N 0 0 _ 1 1 [[1]] _ h2 (by decide) (by decide)).mono ?_
  rintro e w' ⟨he, hb⟩
  rw [hq] at he
  exact ⟨he, bj b2 hb⟩
def MfTrueEnd (w : World) (e : Ending) (w' : World) : Prop := e = .returned (.bool true) ∧ Below w.heap.size w w'
set_option maxHeartbeats 1000000 in
theorem sealed_true (w : World) : Calls Try.prog 7 #[] w (MfTrueEnd w) := by
  have H1 := Lib.hid mx1
  have H2 := Lib.hid mx2
  have H3 := Lib.hid (mx3 1 false one_not)
  have H4 := Lib.hid (mx3 2 true two_may)
  go_enter Try.func7, Try.ntmps7
  go_wp2_with fail
  refine (H1.out _).mono ?_
  rintro e w1 ⟨⟨X, rfl, hX⟩, b1⟩
  go_wp2_with fail
  refine (H2.out _).mono ?_
  rintro e w2 ⟨⟨x0, x1, x2, A, n, c, rfl⟩, b2⟩
  have B2 := Lib.hid ((bj b1 b2).alloc (bj b1 b2).size (manO x0 x1 x2 (.slice A n c)))
  clear b1 b2
  go_wp2_with fail
  refine (H3.out _ (w2.heap.size + 1) (by simp)).mono ?_
  rintro e w3 ⟨rfl, b3⟩
  have B3 := Lib.hid (bj B2.out b3)
  clear b3 B2
  go_wp2_with fail
  refine (H4.out _ _ rfl).mono ?_
  rintro e w4 ⟨rfl, b4⟩
  have B4 := Lib.hid (bj B3.out b4)
  clear b4 B3
  go_wp2
  go_ret
  exact ⟨rfl, B4.out⟩
end Go.Proofs.Ytcfidpjhemjbjaa
