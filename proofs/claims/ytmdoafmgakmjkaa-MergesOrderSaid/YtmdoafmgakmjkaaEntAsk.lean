/- Search, Range, Last of entries: the program's. -/
import Derived.Test.YtmdoafmgakmjkaaEntList
import Derived.Test.YtmdoafmgakmjkaaEntGet
namespace Go.Proofs.Ytmdoafmgakmjkaa
open Go.RowKit Go.Shelf
set_option linter.unusedVariables false
set_option maxRecDepth 100000

theorem sq_enters : Enters Try.prog 20 := enters_of Try.func20 (by kernel_rfl) rfl
/-- The two questions. -/
theorem sq_any (x y : EntS) (g : Nat) (W : World) (hE : EnAt W g y.h y.v y.p) :
    Calls Try.prog 20 #[entB x, .pointer (some ⟨g, 0, none⟩)] W fun e W' => e = .returned (.bool (lessE x y)) ∧ Below W.heap.size W W' := by
  have HL := Lib.hid fun W => eless_any x y W
  have E1 : EnAt (W.alloc (.cells #[.int .u64 (x.h : Nat), .int .i64 x.v, .int .i64 x.p] 30)) g y.h y.v y.p := Blok.alloc hE _
  obtain ⟨k0, k1, k2, -, -, -⟩ := E1.facts
  have hb := (Below.refl W.heap.size W).alloc (Nat.le_refl _) (.cells #[.int .u64 (x.h : Nat), .int .i64 x.v, .int .i64 x.p] 30)
  clear hE E1
  obtain ⟨h, v, p⟩ := x
  obtain ⟨h', v', p'⟩ := y
  go_enter Try.func20, Try.ntmps20
  go_wp2_with fail
  refine (HL.out _).mono ?_
  rintro e w2 ⟨rfl, hb2⟩
  go_wp2
  go_ret
  exact ⟨rfl, bj hb hb2⟩
def thruE (l : List EntS) (h : Nat) (v : Int) : Nat := l.countP (thruQ h v)
theorem search_cut {l : List EntS} (hr : RiseE l) (h : Nat) (v : Int) : IsCut (srchQ h v) l (searchE l h v) := cut_count (srch_down h v) hr
theorem thru_cut {l : List EntS} (hr : RiseE l) (h : Nat) (v : Int) : IsCut (thruQ h v) l (thruE l h v) := cut_count (thru_down h v) hr
theorem countP_le (q : EntS → Bool) (l : List EntS) : l.countP q ≤ l.length := List.countP_le_length
theorem srch_less {x : EntS} {h : Nat} {v : Int} (hx : EntOk x) : lessE x ⟨h, v, -9223372036854775808⟩ = srchQ h v x := by
  unfold lessE srchQ
  rw [decide_eq_decide]
  have := hx.p0
  simp only
  omega
theorem thru_less {x : EntS} {h : Nat} {v : Int} (hx : EntOk x) : (!lessE ⟨h, v, 9223372036854775807⟩ x) = thruQ h v x := by
  unfold lessE thruQ
  rw [← decide_not, decide_eq_decide]
  have := hx.p1
  simp only
  omega

theorem search_any (v : Value) (l : List EntS) (h : Nat) (n : Int) (w : World) (hl : EntsIn w v l) (hn : l.length ≤ 1000000) (hok : ∀ x ∈ l, EntOk x) (hr : RiseE l) :
    Calls Try.prog 13 #[v, .int .u64 (h : Nat), .int .i64 n] w fun e w' => e = .returned (.int .i64 (searchE l h n : Nat)) ∧ Below w.heap.size w w' := by
  have E1 : EnAt (w.alloc (.cells #[.int .u64 (h : Nat), .int .i64 n, .int .i64 (-9223372036854775808)] 30)) w.heap.size h n (-9223372036854775808) := Blok.new _ _ _
  have hb := (Below.refl w.heap.size w).alloc (Nat.le_refl _) (.cells #[.int .u64 (h : Nat), .int .i64 n, .int .i64 (-9223372036854775808)] 30)
  have hl1 := hl.below hb (Nat.le_refl _)
  have hmf : ∀ (fn : Fn) (first cap : Array Value) (w : World), (Instr.makeFunc fn first cap).run Try.prog w = .ok (.func fn first cap) w := fun _ _ _ _ => rfl
  have hent : Enters Try.prog 20 := sq_enters
  have hcut : IsCut (fun x => lessE x ⟨h, n, -9223372036854775808⟩) l (searchE l h n) := fun i x hx => by
    have := search_cut hr h n i x hx
    rw [← this]
    exact srch_less (hok x (List.mem_of_getElem? hx))
  have hle : searchE l h n ≤ l.length := countP_le _ l
  generalize searchE l h n = K at *
  have HF := Lib.hid (front_any 20 w.heap.size (fun x => lessE x ⟨h, n, -9223372036854775808⟩) v l _ hl1 hn hent (fun x W hW => sq_any x ⟨h, n, -9223372036854775808⟩ w.heap.size W (Blok.below E1 hW)))
  have HC := Lib.hid hcut
  have HB := Lib.hid hb
  clear hl hn hok hr E1 hl1 hcut hb hent
  go_enter Try.func13, Try.ntmps13
  go_wp2_with fail
  refine HF.out.mono ?_
  rintro e w2 ⟨k, hk, rfl, hK, hb2⟩
  obtain rfl := hK K hle HC.out
  clear hK
  go_wp2
  go_ret
  exact ⟨rfl, bj HB.out hb2⟩
end Go.Proofs.Ytmdoafmgakmjkaa
