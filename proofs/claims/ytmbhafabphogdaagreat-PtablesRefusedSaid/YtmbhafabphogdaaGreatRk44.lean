/- PtNot -/
import Derived.Test.YtmbhafabphogdaaGreatRk36
import Derived.Test.YtmbhafabphogdaaGreatRk22
/- PtNot -/
namespace Go.Proofs.YtmbhafabphogdaaGreat
open Go.RowKit
set_option linter.unusedVariables false
set_option maxRecDepth 100000

theorem up_nil2 (w : World) : Calls Tryz.prog 36 #[.pointer none] w fun e w' => e = .returned (err 1) ∧ w = w' := by
  have HS := Lib.hid (size_nil (none_nil w) ⟨#[110, 101, 119]⟩)
  unfold Says at HS
  go_enter Tryz.func36, Tryz.ntmps36
  go_wp2_with fail
  refine HS.out.mono ?_
  rintro e w' ⟨rfl, rfl⟩
  go_wp2
  go_ret
  exact ⟨rfl, rfl⟩
theorem popen_nil (n : Int) (w : World) : Calls Tryz.prog 12 #[.pointer none, .int .i64 n] w fun e w' => e = .returned (.tuple #[.pointer none, err 1]) ∧ w = w' := by
  have HU := Lib.hid (up_nil2 w)
  go_enter Tryz.func12, Tryz.ntmps12
  go_wp2_with fail
  refine HU.out.mono ?_
  rintro e w' ⟨rfl, rfl⟩
  go_wp2
  go_ret2
  exact ⟨rfl, rfl⟩
theorem ready_nil2 (w : World) : Calls Tryz.prog 44 #[.pointer none] w fun e w' => e = .returned (err 1) ∧ w = w' := by
  have HU := Lib.hid (ptnone_nil w)
  go_enter Tryz.func44, Tryz.ntmps44
  go_wp2_with fail
  refine HU.out.mono ?_
  rintro e w' ⟨rfl, rfl⟩
  go_wp2
  go_ret
  exact ⟨rfl, rfl⟩
theorem ptall_nil (w : World) : Calls Tryz.prog 15 #[.pointer none] w fun e w' => e = .returned (.tuple #[.slice none 0 0, err 1]) ∧ w = w' := by
  have HU := Lib.hid (ready_nil2 w)
  go_enter Tryz.func15, Tryz.ntmps15
  go_wp2_with fail
  refine HU.out.mono ?_
  rintro e w' ⟨rfl, rfl⟩
  go_wp2
  go_ret2
  exact ⟨rfl, rfl⟩
theorem ptrange_nil (x : Nat) (a b b' : Int) (w : World) (hb : min b 1073741824 = b') : Calls Tryz.prog 31 #[.pointer none, .int .u64 (x : Nat), .int .i64 a, .int .i64 b] w fun e w' => e = .returned (.tuple #[.slice none 0 0, err 1]) ∧ w = w' := by
  have HU := Lib.hid (ready_nil2 w)
  have i1 : (if (1073741824 : Int) < b then 1073741824 else b) = b' := by rw [← hb]; split <;> omega
  clear hb
  go_enter Tryz.func31, Tryz.ntmps31
  go_wp2_with fail
  refine HU.out.mono ?_
  rintro e w' ⟨rfl, rfl⟩
  go_wp2
  go_ret2
  exact ⟨rfl, rfl⟩
theorem ptlast_nil (x : Nat) (b b' : Int) (w : World) (hb : min b 1073741824 = b') : Calls Tryz.prog 32 #[.pointer none, .int .u64 (x : Nat), .int .i64 b] w fun e w' => e = .returned (.tuple #[entB ⟨0, 0, 0⟩, .bool false, err 1]) ∧ Below w.heap.size w w' := by
  have HU := Lib.hid fun W => ready_nil2 W
  have i1 : (if (1073741824 : Int) < b then 1073741824 else b) = b' := by rw [← hb]; split <;> omega
  have hB := (Below.refl w.heap.size w).alloc (Nat.le_refl _) (.cells #[.int .u64 ((0 : Nat) : Int), .int .i64 0, .int .i64 0] 56)
  have E0 : EnAt (w.alloc (.cells #[.int .u64 ((0 : Nat) : Int), .int .i64 0, .int .i64 0] 56)) w.heap.size 0 0 0 := Blok.new _ _ _
  obtain ⟨w1, hw1⟩ : ∃ w1, w.alloc (.cells #[.int .u64 ((0 : Nat) : Int), .int .i64 0, .int .i64 0] 56) = w1 := ⟨_, rfl⟩
  rw [hw1] at hB E0
  have hw1' : w.alloc (.cells #[.int .u64 0, .int .i64 0, .int .i64 0] 56) = w1 := hw1
  obtain ⟨k0, k1, k2, f0, f1, f2⟩ := E0.facts
  have HB := Lib.hid hB
  clear hb hw1 hB E0
  go_enter Tryz.func32, Tryz.ntmps32
  go_wp2_with fail
  refine (HU.out _).mono ?_
  rintro e w' ⟨rfl, rfl⟩
  go_wp2
  exact bodyPost_ret (v := .tuple #[entB ⟨0, 0, 0⟩, .bool false, err 1]) (by simp [results, Tryz.results32, go_sem, k0, k1, k2]) rfl ⟨rfl, low3 HB.out (Nat.le_refl _) _ _ _⟩
section
variable {At : Lies} (api : DiskApi At) (nap : NamesApi) {w0 w : World} {gd : Nat} {D : DiskS} {E : List Nat}
include api
theorem popen_down (h : DS At w0 gd D E w) (ok : WfP D) (n : Int) (hd : D.down = true) : Calls Tryz.prog 12 #[ptr gd, .int .i64 n] w fun e w' => e = .returned (.tuple #[.pointer none, err 61]) ∧ w = w' := by
  have hU := ptup_run api h ok
  rw [if_pos hd] at hU
  have HU := Lib.hid hU
  clear hU h ok hd
  go_enter Tryz.func12, Tryz.ntmps12
  go_wp2_with fail
  refine HU.out.mono ?_
  rintro e w' ⟨rfl, rfl⟩
  go_wp2
  go_ret2
  exact ⟨rfl, rfl⟩
include nap
set_option maxHeartbeats 1000000 in
/-- What is no table. -/
theorem popen_no (h : DS At w0 gd D E w) (ok : WfP D) (hc : D.count ≤ 1000000000) (hcap : D.cap ≤ 1000000) (n : Int) (wn : (Lit.int .i64 n).wf = true) (hd : D.down = false) (h2 : (rdW D (ptT n)).2.1 ≠ 0 ∨ tgOk (rdW D (ptT n)).1 = false) :
    Calls Tryz.prog 12 #[ptr gd, .int .i64 n] w (DEnd At w0 gd (.tuple #[.pointer none, err 90]) (rdW D (ptT n)).2.2 E w) := by
  have hU := ptup_run api h ok
  rw [if_neg (by rw [hd]; decide)] at hU
  have HU := Lib.hid hU
  have hz := rdW_size ok (ptT n)
  have hN := Lib.hid fun W => nap.table n W wn
  rw [show nmS 116 n = ptT n from rfl] at hN
  have hW := Lib.hid fun W (hb : Below w.heap.size w W) => whole_run api (h.below api hb) ok (by omega) (ptT n) (ptT_le n)
  have hG := Lib.hid fun W => tget_any (rdW D (ptT n)).1 W (by omega)
  have HLT := Lib.hid h.lt
  by_cases h1 : (rdW D (ptT n)).2.1 = 0
  · have h3 : tgOk (rdW D (ptT n)).1 = false := by rcases h2 with h2 | h2; exact absurd h1 h2; exact h2
    unfold TgEnd at hG
    rw [(tg_no h3).2, (tg_no h3).1] at hG
    rw [h1] at hW
    generalize (rdW D (ptT n)).2.2 = D1 at *
    generalize (rdW D (ptT n)).1 = s at *
    generalize ptT n = nm at *
    clear h ok hc hcap wn hd h1 h2 hU hz h3
    go_enter Tryz.func12, Tryz.ntmps12
    go_wp2_with fail
    refine HU.out.mono ?_
    rintro e w' ⟨rfl, rfl⟩
    go_wp2_with fail
    refine (hN.out _).mono ?_
    rintro e w1 ⟨rfl, b1⟩
    have HK1 := Lib.hid (Kept.of_below b1 HLT.out)
    have HD1 := Lib.hid (hW.out _ b1)
    clear b1 hW hN HU
    go_wp2_with fail
    refine HD1.out.mono ?_
    rintro e w2 ⟨rfl, d2, k2⟩
    have H2 := Lib.hid (And.intro d2 (HK1.out.trans k2))
    clear d2 k2 HD1 HK1
    go_wp2_with fail
    refine (hG.out _).mono ?_
    rintro e w3 ⟨A, c, rfl, r3, b3⟩
    have H3 := Lib.hid b3
    clear r3 b3 hG
    go_wp2
    go_ret2
    exact ⟨rfl, H2.out.1.below api H3.out, H2.out.2.trans (Kept.of_below H3.out H2.out.1.lt)⟩
  · have te : (((rdW D (ptT n)).2.1 : Int) != 0) = true := by simp; omega
    generalize (rdW D (ptT n)).2.2 = D1 at *
    generalize (rdW D (ptT n)).2.1 = y at *
    generalize (rdW D (ptT n)).1 = s at *
    generalize ptT n = nm at *
    clear h ok hc hcap wn hd h1 h2 hU hz hG
    go_enter Tryz.func12, Tryz.ntmps12
    go_wp2_with fail
    refine HU.out.mono ?_
    rintro e w' ⟨rfl, rfl⟩
    go_wp2_with fail
    refine (hN.out _).mono ?_
    rintro e w1 ⟨rfl, b1⟩
    have HK1 := Lib.hid (Kept.of_below b1 HLT.out)
    have HD1 := Lib.hid (hW.out _ b1)
    clear b1 hW hN HU
    go_wp2_with fail
    refine HD1.out.mono ?_
    rintro e w2 ⟨rfl, d2, k2⟩
    have H2 := Lib.hid (And.intro d2 (HK1.out.trans k2))
    clear d2 k2 HD1 HK1
    go_wp2
    go_ret2
    exact ⟨rfl, H2.out.1, H2.out.2⟩
end
end Go.Proofs.YtmbhafabphogdaaGreat
