/- The document's Put of batches. -/
import Derived.Test.YtnefofcofccmfaaBatCheckRef
import Derived.Test.YtnefofcofccmfaaNumsTextRef
import Derived.Test.YtnefofcofccmfaaNumsPutRef
import Derived.Deep.RegionHeldLaw
import Derived.Deep.DeepCutAuto
namespace Go.Proofs.Ytnefofcofccmfaa
open Go.RowKit
set_option linter.unusedVariables false
attribute [local go_sem] run_store_float

/-- A block of one cell. -/
def Blk1 (w : World) (g : Nat) (T : TypeId) (x : Value) : Prop := w.heap[g]? = some (.cells #[x] T (0, 0))
theorem Blk1.new (w : World) (T : TypeId) (x : Value) : Blk1 (w.alloc (.cells #[x] T (0, 0))) w.heap.size T x := by
  show (w.heap.push _)[w.heap.size]? = _
  simp
theorem Blk1.lt {w : World} {g : Nat} {T : TypeId} {x : Value} (h : Blk1 w g T x) : g < w.heap.size := by
  obtain ⟨hlt, _⟩ := Array.getElem?_eq_some_iff.1 h
  exact hlt
theorem Blk1.below {w w' : World} {g : Nat} {T : TypeId} {x : Value} (h : Blk1 w g T x) (hb : Below w.heap.size w w') : Blk1 w' g T x := (hb.block g h.lt).trans h
theorem Blk1.drew {w : World} {g : Nat} {T : TypeId} {x : Value} (h : Blk1 w g T x) : Blk1 w.drew g T x := h
theorem Blk1.cell {w : World} {g : Nat} {T : TypeId} {x : Value} (h : Blk1 w g T x) : w.cell? ⟨g, 0, none⟩ = some x := by
  unfold Blk1 at h
  simp [World.cell?, h]
/-- A byte that lies alone, as a text. -/
theorem conv_at (m : Nat) (hm : m < 256) (W : World) (g : Nat) (h : W.cell? ⟨g, 0, none⟩ = some (.int .u8 (m : Nat))) : (convert 50 9 (.slice (some ⟨g, 0, none⟩) 1 1)).run Try.prog W = .ok (.string (bs (be 1 m))) W := by
  have h2 := run_convert_bytes_back (P := Try.prog) W 50 9 5 ⟨g, 0, none⟩ 1 (be 1 m) Try.underlying50 Try.underlying5 Try.underlying9
    (fun j hj => by
      have hj0 : j = 0 := by rw [be_length] at hj; omega
      subst hj0
      have e : (⟨g, 0, none⟩ : Addr).add 0 = ⟨g, 0, none⟩ := rfl
      rw [e, h]
      simp [be]
      omega)
  exact h2

theorem bputr_no (s : ByteArray) (f : Int) (v : Value) (l : List RawS) (w : World) (h : BatIn w s f v l) (hc : ¬ bchk s f l = 0) :
    Calls Try.prog 12 #[batV s f v] w fun e w' => e = .returned (.tuple #[.string ByteArray.empty, .int .i64 (bchk s f l)]) ∧ Below w.heap.size w w' := by
  have Hc := fun W (hW : Below w.heap.size w W) => bcheck_ref s f v l W (h.below hW)
  obtain ⟨A, c, rfl⟩ := h.v.form
  have hbel : Below w.heap.size w (w.alloc (.cells #[.string s, .int .i64 f, .slice A l.length c] 28)) := (Below.refl _ _).alloc (Nat.le_refl _) _
  have HC := Lib.hid (Hc _ hbel)
  unfold batV at HC ⊢
  have e1 : (bchk s f l != 0) = true := by simp; exact hc
  have e2 : (bchk s f l == 0) = false := by simp; exact hc
  clear hc Hc h
  generalize bchk s f l = k at *
  go_enter Try.func12, Try.ntmps12
  go_wp2_with fail
  refine HC.out.mono ?_
  rintro e w1 ⟨rfl, hb1⟩
  go_wp2
  go_ret2
  exact ⟨rfl, hbel.trans (hb1.mono (by simp))⟩

set_option maxHeartbeats 4000000 in
set_option maxRecDepth 100000 in
theorem bputr_yes (s : ByteArray) (f : Nat) (p po c : Nat) (l : List RawS) (w : World) (hf : f ≤ 1073741824) (hs : s.size ≤ 32) (hl : l.length ≤ 8) (hev : ∀ x ∈ l, EvOk x) (hp : p < w.heap.size)
    (hC : ∀ W, Below w.heap.size w W → Calls Try.prog 14 #[batV s (f : Nat) (.slice (some ⟨p, po, none⟩) l.length c)] W fun e w' => e = .returned (.int .i64 0) ∧ Below W.heap.size W w')
    (ca : ∀ i x, l[i]? = some x → w.cell? ⟨p, po + i * 3, none⟩ = some (.string x.t) ∧ w.cell? ⟨p, po + i * 3 + 1, none⟩ = some (.string x.d) ∧ w.cell? ⟨p, po + i * 3 + 2, none⟩ = some (.float .f64 x.b)) :
    Calls Try.prog 12 #[batV s (f : Nat) (.slice (some ⟨p, po, none⟩) l.length c)] w fun e w' => e = .returned (.tuple #[.string (batB s f l), .int .i64 0]) ∧ Below w.heap.size w w' := by
  have hbel : Below w.heap.size w (w.alloc (.cells #[.string s, .int .i64 (f : Nat), .slice (some ⟨p, po, none⟩) l.length c] 28)) := (Below.refl _ _).alloc (Nat.le_refl _) _
  have HC := Lib.hid (hC _ hbel)
  unfold batV at HC ⊢
  clear hC
  go_enter Try.func12, Try.ntmps12
  go_wp2_with fail
  refine HC.out.mono ?_
  rintro e w1 ⟨rfl, hb1⟩
  have k0 : w1.cell? ⟨w.heap.size, 0, none⟩ = some (.string s) := keep_cell hb1 (by simp) (World.cell?_alloc_at _ _ _ _ rfl)
  have k1 : w1.cell? ⟨w.heap.size, 1, none⟩ = some (.int .i64 (f : Nat)) := keep_cell hb1 (by simp) (World.cell?_alloc_at _ _ _ _ rfl)
  have k2 : w1.cell? ⟨w.heap.size, 2, none⟩ = some (.slice (some ⟨p, po, none⟩) l.length c) := keep_cell hb1 (by simp) (World.cell?_alloc_at _ _ _ _ rfl)
  have hz1 := hb1.size
  rw [World.size_alloc] at hz1
  have hbw := hbel.trans (hb1.mono (by simp))
  clear hb1 hbel HC
  go_upto_region 4 with fail
  go_cut [5] (fun u wx => u = .string (headB s f l.length) ∧ Below w1.heap.size w1 wx)
  case first =>
    have HT := Lib.hid fun W => textr_yes s W (by omega)
    have hP : ∀ W : World, Calls Try.prog 27 #[.int .u64 (f : Nat), .int .i64 8] W fun e w' => e = .returned (.string (bs (be 8 f))) ∧ Below W.heap.size W w' := fun W => putr_some f 8 W (by omega) (by omega) (by omega)
    have HP := Lib.hid hP
    clear hP
    have hcv := fun W g h => conv_at l.length (by omega) W g h
    have hm : IntKind.u8.wrap (l.length : Int) = (l.length : Int) := by rw [IntKind.wrap_u8]; omega
    have hm2 : (l.length : Int) % 256 = (l.length : Int) := by omega
    have hm3 : IntKind.u64.wrap (f : Int) = (f : Int) := by rw [IntKind.wrap_u64]; omega
    have z1 : (bs (be 2 s.size) ++ s).size = s.size + 2 := by rw [ByteArray.size_append, bs_size, be_length]; omega
    have z2 : (bs (be 8 f)).size = 8 := by rw [bs_size, be_length]
    have z3 : (bs (be 1 l.length)).size = 1 := by rw [bs_size, be_length]
    have e : headB s f l.length = bs (be 2 s.size) ++ s ++ bs (be 8 f) ++ bs (be 1 l.length) := rfl
    have a1 : ∀ w : World, (Op.stringOp .add (bs (be 2 s.size) ++ s) (bs (be 8 f))).run Try.prog w = .ok (.string (bs (be 2 s.size) ++ s ++ bs (be 8 f))) w := fun w => run_string_add_sum (P := Try.prog) (w := w) _ _ (by omega)
    have z4 : (bs (be 2 s.size) ++ s ++ bs (be 8 f)).size = s.size + 10 := by rw [ByteArray.size_append, z1, z2]
    have a2 : ∀ w : World, (Op.stringOp .add (bs (be 2 s.size) ++ s ++ bs (be 8 f)) (bs (be 1 l.length))).run Try.prog w = .ok (.string (headB s f l.length)) w := fun w => run_string_add_sum (P := Try.prog) (w := w) _ _ (by omega)
    generalize headB s f l.length = B at *
    generalize bs (be 2 s.size) ++ s ++ bs (be 8 f) = X at *
    generalize bs (be 2 s.size) ++ s = T at *
    generalize bs (be 8 f) = Q at *
    generalize bs (be 1 l.length) = R at *
    have HS : Hid (∀ W, Below w1.heap.size w1 W → Below w1.heap.size w1 W ∧ W.cell? ⟨w.heap.size, 0, none⟩ = some (.string s) ∧ W.cell? ⟨w.heap.size, 1, none⟩ = some (.int .i64 (f : Nat)) ∧ W.cell? ⟨w.heap.size, 2, none⟩ = some (.slice (some ⟨p, po, none⟩) l.length c)) :=
      Lib.hid fun W hW => ⟨hW, keep_cell hW (show w.heap.size < _ by omega) k0, keep_cell hW (show w.heap.size < _ by omega) k1, keep_cell hW (show w.heap.size < _ by omega) k2⟩
    clear z1 z2 z3 z4 e ca hev hbw hz1
    go_region_held_law (fun W => Below w1.heap.size w1 W ∧ W.cell? ⟨w.heap.size, 0, none⟩ = some (.string s) ∧ W.cell? ⟨w.heap.size, 1, none⟩ = some (.int .i64 (f : Nat)) ∧ W.cell? ⟨w.heap.size, 2, none⟩ = some (.slice (some ⟨p, po, none⟩) l.length c))
      (first | (with_reducible assumption) | ((with_reducible refine HS.out _ ?_); (repeat' (first | (with_reducible assumption) | (with_reducible exact Below.refl _ _) | (with_reducible refine own_alloc ?_) | (with_reducible refine Below.drew ?_))); done) | fail)
      (first
      | (go_at_call 26; ((with_reducible refine (HT.out _).mono ?_); rintro e w3 ⟨rfl, hb3⟩; (with_reducible (try (have A1 := (Blk1.new _ _ _).drew.below hb3; (try simp only [World.size_drew] at A1); have A1c := A1.cell))); have hB3 := hold_call (W0 := w1) hb3 (by with_reducible assumption)))
      | (go_at_call 27; ((with_reducible refine (HP.out _).mono ?_); rintro e w4 ⟨rfl, hb4⟩; (with_reducible (try (have A2 := (Blk1.new _ _ _).below hb4; have A2c := A2.cell)); (try (have A3 := A1.below hb4; have A3c := A3.cell))); have hB4 := hold_call (W0 := w1) hb4 (by with_reducible assumption)))
      | fail)
    all_goals
      go_step
      go_step
      go_meet
      refine ⟨rfl, ?_⟩
      repeat' (first | (with_reducible assumption) | (with_reducible exact Below.refl _ _) | (with_reducible refine own_alloc ?_) | (with_reducible refine Below.drew ?_))
  case rest =>
    obtain ⟨rfl, hbc⟩ := hcut
    have hbw2 := hbw.trans (hbc.mono hbw.size)
    have j2 := keep_cell hbc (show w.heap.size < _ by omega) k2
    have hlt2 : w.heap.size < wc.heap.size := Nat.lt_of_lt_of_le hz1 hbc.size
    have HE := Lib.hid (show batB s f l = headB s f l.length ++ evsB l from rfl)
    have hsz := headB_size s f l.length
    have Htk := Lib.hid fun k x h => take_more l k x h
    have hvs := fun k (h : k ≤ l.length) => evsB_size (l := l.take k) (fun x hx => (hev x (List.mem_of_mem_take hx)).c)
    have HV := Lib.hid hvs
    clear hvs k0 k1 k2 hbc hz1 hbw
    generalize headB s f l.length = B at *
    go_wp2
    go_loopw [5, 6] (fun u i wr => ∃ k : Nat, k ≤ l.length ∧ i = .int .i64 k ∧ u = .string (B ++ evsB (l.take k)) ∧ Below w.heap.size w wr ∧ wr.cell? ⟨w.heap.size, 2, none⟩ = some (.slice (some ⟨p, po, none⟩) l.length c) ∧ w.heap.size < wr.heap.size) (fun _ i _ => l.length - (intOf i).toNat)
    case atStart => exact ⟨0, Nat.zero_le _, rfl, by simp [evsB], hbw2, j2, hlt2⟩
    case round =>
      obtain ⟨k, hk, rfl, rfl, hbel, hbox, hlt3⟩ := hrel
      by_cases hlt : k < l.length
      · obtain ⟨x, hx0⟩ : ∃ x, l[k]? = some x := ⟨l[k], List.getElem?_eq_getElem hlt⟩
        obtain ⟨a0, a1, a2⟩ := ca k x hx0
        have wx := hev x (List.mem_of_getElem? hx0)
        have HB := Lib.hid fun W => bytesr_yes x.t x.d x.b W wx.b wx.c
        have q0 := keep_cell hbel hp a0
        have q1 := keep_cell hbel hp a1
        have q2 := keep_cell hbel hp a2
        have hn := Htk.out k x hx0
        have hv1 := HV.out k (by omega)
        have hv2 := HV.out (k + 1) (by omega)
        rw [List.length_take] at hv1 hv2
        have hsn : B ++ evsB (l.take (k + 1)) = B ++ evsB (l.take k) ++ evOf x := by rw [hn, evsB_snoc, ByteArray.append_assoc]
        have hz3 : (B ++ evsB (l.take k) ++ evOf x).size ≤ maxLen := by rw [← hsn, ByteArray.size_append, hsz]; unfold maxLen; omega
        have ha : ∀ w : World, (Op.stringOp .add (B ++ evsB (l.take k)) (evOf x)).run Try.prog w = .ok (.string (B ++ evsB (l.take k) ++ evOf x)) w := fun w => run_string_add_sum (P := Try.prog) (w := w) _ _ (by rw [ByteArray.size_append] at hz3; exact hz3)
        have HN := Lib.hid hsn
        have hx' : evB x.t x.d x.b = evOf x := rfl
        rw [hx'] at HB
        clear hx0 a0 a1 a2 wx ca hev hn hv1 hv2 hsn hz3 hx' HV Htk
        generalize B ++ evsB (l.take k) ++ evOf x = Y at *
        generalize B ++ evsB (l.take k) = Z at *
        generalize evOf x = E at *
        obtain ⟨t, d, n⟩ := x
        simp only at q0 q1 q2 HB
        have s1 : (k : Int) < (l.length : Int) := by omega
        go_wp2_with fail
        refine (HB.out _).mono ?_
        rintro e w2 ⟨rfl, hb2⟩
        have hbel1 := bj hbel hb2
        have hbox1 := (hb2.cell (p := ⟨w.heap.size, 2, none⟩) hlt3).trans hbox
        have hlt4 := Nat.lt_of_lt_of_le hlt3 hb2.size
        clear hbel hbox hb2 q0 q1 q2 hlt3
        go_wp2
        go_roundw
        case rel => exact ⟨k + 1, by omega, by go_num, by rw [HN.out], hbel1, hbox1, hlt4⟩
        case measure => simp [intOf]; omega
      · obtain rfl : k = l.length := by omega
        have s1 : ¬ (l.length : Int) < (l.length : Int) := by omega
        have hE := HE.out
        rw [List.take_length, ← hE]
        go_wp2
        go_ret2
        exact ⟨rfl, hbel⟩

/-- The document's Put. -/
theorem bput_ref (s : ByteArray) (f : Int) (v : Value) (l : List RawS) (w : World) (h : BatIn w s f v l) :
    Calls Try.prog 12 #[batV s f v] w fun e w' => e = .returned (.tuple #[.string (batS s f l), .int .i64 (bchk s f l)]) ∧ Below w.heap.size w w' := by
  unfold batS
  by_cases hc : bchk s f l = 0
  · rw [if_pos hc, hc]
    obtain ⟨h1, h2, h3, h4, h5, h6, h7⟩ := bchk_zero.1 hc
    obtain ⟨A, c, hv⟩ := h.v.form
    subst hv
    obtain ⟨p, po, rfl, hp, ca⟩ := h.v.pos (by omega)
    obtain ⟨k, rfl⟩ : ∃ k : Nat, f = k := ⟨f.toNat, by omega⟩
    rw [Int.toNat_natCast]
    refine bputr_yes s k p po c l w (by omega) h2 h4 (evOk_of hc fun x hx => (h.x x hx).b) hp (fun W hW => ?_) ca
    have := bcheck_ref s k _ l W (h.below hW)
    rw [hc] at this
    exact this
  · rw [if_neg hc]
    exact bputr_no s f v l w h hc
end Go.Proofs.Ytnefofcofccmfaa
