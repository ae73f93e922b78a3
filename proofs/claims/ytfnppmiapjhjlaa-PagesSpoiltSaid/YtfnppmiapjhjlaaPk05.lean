/- RepLay, PgPut, PgStep, PgPage, NumsGet -/
import Derived.Shelf.Strings.Repeat
import Derived.Test.YtfnppmiapjhjlaaProg
import Derived.Test.YtfnppmiapjhjlaaPk03
import Derived.Test.YtfnppmiapjhjlaaPk04
import Derived.Test.YtfnppmiapjhjlaaPk02
import Derived.Lib.Hide
import Derived.Laws.CopyRow
import Derived.Laws.Rows
import Derived.Laws.ResultCell
import Derived.Great.Walk
import Derived.Test.YtfnppmiapjhjlaaPk01
/- RepLay -/
namespace Go.Proofs
open Go.Shelf
def Try.layrp_ren : Go.Shelf.Ren := ⟨fun | 105 => 41 | 212 => 51 | 99 => 52 | 165 => 53 | 166 => 22 | 170 => 54 | 169 => 25 | 263 => 58 | 264 => 59 | 206 => 60 | 240 => 39 | 241 => 61 | 276 => 50 | 277 => 64 | n => n, fun | 9 => 9 | 3 => 3 | 4 => 4 | 20 => 20 | 0 => 0 | 46 => 49 | 109 => 81 | 5 => 5 | 72 => 54 | 76 => 57 | 51 => 47 | 146 => 88 | 53 => 31 | 148 => 90 | 70 => 52 | 37 => 36 | 75 => 56 | 127 => 75 | 164 => 79 | 80 => 60 | n => n, fun | n => n⟩
theorem Try.layrp : Go.Proofs.Lays.n105 Try.prog Try.layrp_ren := {
  mixed := by kernel_rfl
  f99 := Try.func52.trans (congrArg some (by kernel_rfl))
  f105 := Try.func41.trans (congrArg some (by kernel_rfl))
  f165 := Try.func53.trans (congrArg some (by kernel_rfl))
  f166 := Try.func22.trans (congrArg some (by kernel_rfl))
  f169 := Try.func25.trans (congrArg some (by kernel_rfl))
  f170 := Try.func54.trans (congrArg some (by kernel_rfl))
  f206 := Try.func60.trans (congrArg some (by kernel_rfl))
  f212 := Try.func51.trans (congrArg some (by kernel_rfl))
  f240 := Try.func39.trans (congrArg some (by kernel_rfl))
  f241 := Try.func61.trans (congrArg some (by kernel_rfl))
  f263 := Try.func58.trans (congrArg some (by kernel_rfl))
  f264 := Try.func59.trans (congrArg some (by kernel_rfl))
  f276 := Try.func50.trans (congrArg some (by kernel_rfl))
  f277 := Try.func64.trans (congrArg some (by kernel_rfl))
  t0 := Try.underlying0
  a0 := Try.isAgg0
  z0 := Try.sizeOf0
  v0 := Try.zeroValue0
  t3 := Try.underlying3
  a3 := Try.isAgg3
  z3 := Try.sizeOf3
  v3 := Try.zeroValue3
  t4 := Try.underlying4
  a4 := Try.isAgg4
  z4 := Try.sizeOf4
  v4 := Try.zeroValue4
  t5 := Try.underlying5
  a5 := Try.isAgg5
  z5 := Try.sizeOf5
  v5 := Try.zeroValue5
  t9 := Try.underlying9
  a9 := Try.isAgg9
  z9 := Try.sizeOf9
  v9 := Try.zeroValue9
  t20 := Try.underlying20
  a20 := Try.isAgg20
  z20 := Try.sizeOf20
  v20 := Try.zeroValue20
  t37 := Try.underlying36
  a37 := Try.isAgg36
  z37 := Try.sizeOf36
  v37 := Try.zeroValue36
  t46 := Try.underlying49
  a46 := Try.isAgg49
  z46 := Try.sizeOf49
  v46 := Try.zeroValue49
  t51 := Try.underlying47
  a51 := Try.isAgg47
  z51 := Try.sizeOf47
  v51 := Try.zeroValue47
  t53 := Try.underlying31
  a53 := Try.isAgg31
  z53 := Try.sizeOf31
  v53 := Try.zeroValue31
  t70 := Try.underlying52
  a70 := Try.isAgg52
  z70 := Try.sizeOf52
  v70 := Try.zeroValue52
  t72 := Try.underlying54
  a72 := Try.isAgg54
  z72 := Try.sizeOf54
  v72 := Try.zeroValue54
  t75 := Try.underlying56
  a75 := Try.isAgg56
  z75 := Try.sizeOf56
  v75 := Try.zeroValue56
  t76 := Try.underlying57
  a76 := Try.isAgg57
  z76 := Try.sizeOf57
  v76 := Try.zeroValue57
  t109 := Try.underlying81
  a109 := Try.isAgg81
  z109 := Try.sizeOf81
  v109 := Try.zeroValue81
  t127 := Try.underlying75
  a127 := Try.isAgg75
  z127 := Try.sizeOf75
  v127 := Try.zeroValue75
  t146 := Try.underlying88
  a146 := Try.isAgg88
  z146 := Try.sizeOf88
  v146 := Try.zeroValue88
  t148 := Try.underlying90
  a148 := Try.isAgg90
  z148 := Try.sizeOf90
  v148 := Try.zeroValue90
  t164 := Try.underlying79
  a164 := Try.isAgg79
  z164 := Try.sizeOf79
  v164 := Try.zeroValue79 }
theorem Try.xrp : Builder.Extra Try.prog Try.layrp_ren := {
  sizeBuilder := by kernel_rfl
  liesBuilder := by kernel_rfl
  t5 := Try.underlying5
  a5 := Try.isAgg5
  z5 := Try.sizeOf5
  v5 := Try.zeroValue5
  infoByte := by kernel_rfl
  cellsByte := by kernel_rfl
  sizeByte := by kernel_rfl
  neB5 := by decide }
open Go.RowKit in
theorem Try.rep_any (s : ByteArray) (c : Nat) (w : World) (hc : c ≤ 9223372036854775807) (hlen : s.size * c ≤ 140737488355328) :
    Calls Try.prog 41 #[.string s, .int .i64 c] w fun e w' => e = .returned (.string ⟨(Lib.repeatL s.data.toList c).toArray⟩) ∧ Below w.heap.size w w' := Any.strings_Repeat Try.layrp Try.xrp s c w hc hlen
end Go.Proofs

/- PgPut -/
namespace Go.Proofs.Ytfnppmiapjhjlaa
open Go.RowKit
set_option linter.unusedVariables false

theorem pmay_any (n p : Int) (w : World) :
    Calls Try.prog 21 #[.int .i64 n, .int .i64 p] w fun e w' => e = .returned (.bool (pgOk n p)) ∧ w = w' := by
  have hiff := @pgOk_iff n p
  generalize pgOk n p = q at *
  by_cases h1 : n < 1
  · obtain rfl : q = false := Bool.eq_false_iff.2 (fun e => by have := hiff.1 e; omega)
    go_enter Try.func21, Try.ntmps21
    go_wp2
    go_ret
    exact ⟨rfl, rfl⟩
  · by_cases h2 : 120000 < n
    · obtain rfl : q = false := Bool.eq_false_iff.2 (fun e => by have := hiff.1 e; omega)
      go_enter Try.func21, Try.ntmps21
      go_wp2
      go_ret
      exact ⟨rfl, rfl⟩
    · have d1 : decide (n < 1) = false := decide_eq_false h1
      have d2 : decide (120000 < n) = false := decide_eq_false h2
      have h3 : ¬ n < 0 := by omega
      have h0 : 0 ≤ n := by omega
      by_cases hr : n % 60 = 0
      · have e1 : (n % 60 != 0) = false := by rw [hr]; rfl
        have e2 : (n.tmod 60 != 0) = false := by rw [Int.tmod_eq_emod_of_nonneg h0]; exact e1
        by_cases hp1 : 1 ≤ p
        · have d3 : decide (1 ≤ p) = true := decide_eq_true hp1
          by_cases hp2 : p ≤ 16
          · obtain rfl : q = true := hiff.2 (by omega)
            have d4 : decide (p ≤ 16) = true := decide_eq_true hp2
            clear hiff
            go_enter Try.func21, Try.ntmps21
            go_wp2
            go_ret
            exact ⟨rfl, rfl⟩
          · obtain rfl : q = false := Bool.eq_false_iff.2 (fun e => by have := hiff.1 e; omega)
            have d4 : decide (p ≤ 16) = false := decide_eq_false hp2
            clear hiff
            go_enter Try.func21, Try.ntmps21
            go_wp2
            go_ret
            exact ⟨rfl, rfl⟩
        · obtain rfl : q = false := Bool.eq_false_iff.2 (fun e => by have := hiff.1 e; omega)
          have d3 : decide (1 ≤ p) = false := decide_eq_false hp1
          clear hiff
          go_enter Try.func21, Try.ntmps21
          go_wp2
          go_ret
          exact ⟨rfl, rfl⟩
      · obtain rfl : q = false := Bool.eq_false_iff.2 (fun e => by have := hiff.1 e; omega)
        have e1 : (n % 60 != 0) = true := by rw [bne_iff_ne]; exact hr
        have e2 : (n.tmod 60 != 0) = true := by rw [Int.tmod_eq_emod_of_nonneg h0]; exact e1
        clear hiff hr
        go_enter Try.func21, Try.ntmps21
        go_wp2
        go_ret
        exact ⟨rfl, rfl⟩

theorem zer_list : (⟨(Lib.repeatL (⟨#[0]⟩ : ByteArray).data.toList 52).toArray⟩ : ByteArray) = bs (List.replicate 52 0) := by decide
set_option maxHeartbeats 1000000 in
theorem head_any (n p : Nat) (w : World) (hn : n < 4294967296) (hp : p < 256) :
    Calls Try.prog 23 #[.int .i64 (n : Nat), .int .i64 (p : Nat)] w fun e w' => e = .returned (.string (hdP n p)) ∧ Below w.heap.size w w' := by
  have H1 := Lib.hid fun W => show Calls Try.prog 40 #[.int .u64 (p : Nat), .int .i64 1] W _ from put_some p 1 W (by omega) (by omega) (by omega)
  have H2 := Lib.hid fun W => show Calls Try.prog 40 #[.int .u64 (n : Nat), .int .i64 4] W _ from put_some n 4 W (by omega) (by omega) (by omega)
  have H3 := Lib.hid fun W => show Calls Try.prog 41 #[.string ⟨#[0]⟩, .int .i64 52] W _ from Try.rep_any ⟨#[0]⟩ 52 W (by omega) (by decide)
  rw [zer_list] at H3
  have z1 : (bs (be 1 p)).size = 1 := by rw [bs_size, be_length]
  have z2 : (bs (be 4 n)).size = 4 := by rw [bs_size, be_length]
  have z3 : (bs (List.replicate 52 0)).size = 52 := by rw [bs_size, List.length_replicate]
  have a1 : ∀ W : World, (Op.stringOp .add ⟨#[98, 108, 109]⟩ (bs (be 1 p))).run Try.prog W = .ok (.string ((⟨#[98, 108, 109]⟩ : ByteArray) ++ bs (be 1 p))) W := fun W => run_string_add_sum (P := Try.prog) (w := W) _ _ (by rw [z1]; decide)
  have z4 : ((⟨#[98, 108, 109]⟩ : ByteArray) ++ bs (be 1 p)).size = 4 := by rw [ByteArray.size_append, z1]; rfl
  have a2 : ∀ W : World, (Op.stringOp .add ((⟨#[98, 108, 109]⟩ : ByteArray) ++ bs (be 1 p)) (bs (be 4 n))).run Try.prog W = .ok (.string ((⟨#[98, 108, 109]⟩ : ByteArray) ++ bs (be 1 p) ++ bs (be 4 n))) W := fun W => run_string_add_sum (P := Try.prog) (w := W) _ _ (by rw [z4, z2]; decide)
  have z5 : ((⟨#[98, 108, 109]⟩ : ByteArray) ++ bs (be 1 p) ++ bs (be 4 n)).size = 8 := by rw [ByteArray.size_append, z4, z2]
  have e5 : (⟨#[98, 108, 109]⟩ : ByteArray) ++ bs (be 1 p) ++ bs (be 4 n) ++ bs (List.replicate 52 0) = bs (hdL n p) := by
    have e0 : (⟨#[98, 108, 109]⟩ : ByteArray) = bs [98, 108, 109] := rfl
    have e1 : be 1 p = [UInt8.ofNat p] := by simp [be]
    rw [e0, e1, bs_append, bs_append, bs_append]
    unfold hdL
    simp
  have a3 : ∀ W : World, (Op.stringOp .add ((⟨#[98, 108, 109]⟩ : ByteArray) ++ bs (be 1 p) ++ bs (be 4 n)) (bs (List.replicate 52 0))).run Try.prog W = .ok (.string (bs (hdL n p))) W := fun W => by rw [← e5]; exact run_string_add_sum (P := Try.prog) (w := W) _ _ (by rw [z5, z3]; decide)
  have H4 := Lib.hid fun W => seal_any (bs (hdL n p)) W (by rw [bs_size, hdL_length]; decide)
  have hE : hdP n p = sealS (bs (hdL n p)) := rfl
  rw [← hE] at H4
  clear e5 hE
  generalize hdP n p = R at *
  generalize bs (hdL n p) = S60 at *
  generalize bs (List.replicate 52 0) = Z at *
  generalize (⟨#[98, 108, 109]⟩ : ByteArray) ++ bs (be 1 p) ++ bs (be 4 n) = S8 at *
  generalize (⟨#[98, 108, 109]⟩ : ByteArray) ++ bs (be 1 p) = S4 at *
  generalize bs (be 1 p) = P1 at *
  generalize bs (be 4 n) = N4 at *
  have q1 : IntKind.u64.wrap ((p : Nat) : Int) = (p : Nat) := IntWalk.u64_in _ ⟨by omega, by omega⟩
  have q2 : IntKind.u64.wrap ((n : Nat) : Int) = (n : Nat) := IntWalk.u64_in _ ⟨by omega, by omega⟩
  have q3 : ((S8.size : Nat) : Int) = 8 := by omega
  have q4 : (p : Int) % 18446744073709551616 = (p : Int) := by omega
  have q5 : (n : Int) % 18446744073709551616 = (n : Int) := by omega
  clear z1 z2 z3 z4 z5
  go_enter Try.func23, Try.ntmps23
  go_wp2_with fail
  refine (H1.out _).mono ?_
  rintro e w1 ⟨rfl, b1⟩
  go_wp2_with fail
  refine (H2.out _).mono ?_
  rintro e w2 ⟨rfl, b2⟩
  go_wp2_with fail
  refine (H3.out _).mono ?_
  rintro e w3 ⟨rfl, b3⟩
  go_wp2_with fail
  refine (H4.out _).mono ?_
  rintro e w4 ⟨rfl, b4⟩
  go_wp2
  go_ret
  exact ⟨rfl, bj (bj (bj b1 b2) b3) b4⟩

theorem pput_no (a : ByteArray) (p : Int) (w : World) (h : pgOk a.size p = false) :
    Calls Try.prog 10 #[.string a, .int .i64 p] w fun e w' => e = .returned (.string (putP a p)) ∧ Below w.heap.size w w' := by
  rw [putP_no h]
  have H1 := Lib.hid fun W => pmay_any a.size p W
  rw [h] at H1
  go_enter Try.func10, Try.ntmps10
  go_wp2_with fail
  refine (H1.out _).mono ?_
  rintro e w1 ⟨rfl, rfl⟩
  go_wp2
  go_ret
  exact ⟨rfl, Below.refl _ _⟩

set_option maxHeartbeats 1000000 in
theorem pput_yes (a : ByteArray) (p m : Nat) (w : World) (h : pgOk a.size p = true) (hm : a.size = 60 * m) (hm2 : m ≤ 2000) (hp : p ≤ 16) :
    Calls Try.prog 10 #[.string a, .int .i64 (p : Nat)] w fun e w' => e = .returned (.string (hdP a.size p ++ pgs a m)) ∧ Below w.heap.size w w' := by
  have H1 := Lib.hid fun W => pmay_any a.size p W
  rw [h] at H1
  have H2 := Lib.hid fun W => head_any a.size p W (by omega) (by omega)
  have HZ := hdP_size a.size p
  have hz : ∀ k, k ≤ m → (pgs a k).size = 64 * k := fun k hk => pgs_size a k (by omega)
  have H3 := Lib.hid fun (k : Nat) (W : World) (hk : k < m) => seal_any (a.extract (60 * k) (60 * k + 60)) W (by rw [ByteArray.size_extract]; unfold maxLen; omega)
  have hs : ∀ k, k < m → (sealS (a.extract (60 * k) (60 * k + 60))).size = 64 := fun k hk => by rw [seal_size, ByteArray.size_extract]; omega
  have W0 := Wrt.fresh w
  have hpg := Lib.hid (pgs_succ a)
  have hp0 : pgs a 0 = ByteArray.empty := rfl
  generalize hdP a.size p = HD at *
  have HM := Lib.hid hm
  clear hm h
  go_enter Try.func10, Try.ntmps10
  go_wp2_with fail
  refine (H1.out _).mono ?_
  rintro e w1 ⟨rfl, rfl⟩
  go_wp2_with fail
  refine (H2.out _).mono ?_
  rintro e w1 ⟨rfl, b1⟩
  have HW := Lib.hid ((W0.below b1).write HD (by rw [HZ]; decide))
  clear W0 b1
  go_wp2_with fail
  refine HW.out.mono ?_
  rintro e w2 ⟨rfl, W2⟩
  rw [ByteArray.empty_append] at W2
  clear HW
  have hl : ((a.size : Nat) : Int) ≤ 120000 := by have := HM.out; omega
  go_wp2_with fail
  go_loopw [6] (fun v wr => ∃ k : Nat, k ≤ m ∧ v = .int .i64 ((60 * k : Nat) : Int) ∧ Wrt w (HD ++ pgs a k) wr) (fun v _ => 60 * m + 1 - (intOf v).toNat)
  case atStart => exact ⟨0, Nat.zero_le _, rfl, by rw [hp0, ByteArray.append_empty]; exact W2⟩
  case round =>
    clear W2 hp0
    obtain ⟨k, hk, rfl, hWr⟩ := hrel
    obtain ⟨y, hy⟩ : ∃ y, 60 * k = y := ⟨_, rfl⟩
    by_cases hlt : k < m
    · have H3k := Lib.hid fun W => H3.out k W hlt
      have hsk := hs k hlt
      have hp1 := hpg.out k
      have hzk := hz k hk
      rw [hy] at H3k hsk hp1
      generalize sealS (a.extract y (y + 60)) = SP at *
      generalize pgs a k = PK at *
      have s1 : (y : Int) < (a.size : Int) := by have := HM.out; omega
      have s2 : (y : Int) + 60 ≤ (a.size : Int) := by have := HM.out; omega
      rw [hy]
      have HY := Lib.hid hy
      clear hy hs hz
      go_wp2_with fail
      refine (H3k.out _).mono ?_
      rintro e w3 ⟨rfl, b3⟩
      have HW := Lib.hid ((hWr.below b3).write SP (by rw [ByteArray.size_append]; omega))
      go_wp2_with fail
      refine HW.out.mono ?_
      rintro e w4 ⟨rfl, W4⟩
      go_wp2
      go_roundw
      case rel => exact ⟨k + 1, hlt, by rw [show 60 * (k + 1) = y + 60 by have := HY.out; omega]; go_num, by rw [hp1, ← ByteArray.append_assoc]; exact W4⟩
      case measure =>
        have := HY.out
        simp [intOf]
        omega
    · obtain rfl : k = m := by omega
      have s1 : (a.size : Int) ≤ (y : Int) := by have := HM.out; omega
      rw [hy]
      have HT := Lib.hid hWr.told
      go_wp2_with fail
      refine HT.out.mono ?_
      rintro e w4 ⟨rfl, b4⟩
      go_wp2
      go_ret
      exact ⟨rfl, b4⟩
theorem pput_any (a : ByteArray) (p : Int) (w : World) :
    Calls Try.prog 10 #[.string a, .int .i64 p] w fun e w' => e = .returned (.string (putP a p)) ∧ Below w.heap.size w w' := by
  cases h : pgOk a.size p with
  | false => exact pput_no a p w h
  | true =>
    obtain ⟨g1, g2, g3, g4, g5⟩ := pgOk_iff.1 h
    obtain ⟨q, rfl⟩ : ∃ q : Nat, p = q := ⟨p.toNat, by omega⟩
    rw [putP_yes h, Int.toNat_natCast]
    exact pput_yes a q (a.size / 60) w h (by omega) (by omega) (by omega)
end Go.Proofs.Ytfnppmiapjhjlaa

/- PgStep -/
namespace Go.Proofs.Ytfnppmiapjhjlaa
open Go.RowKit Go.Great
set_option linter.unusedVariables false

theorem pg_info : (Try.prog.info? 5).map (fun i => (i.zero, i.size, i.bytes)) = some (some (.int .u8 0), 1, 1) := by kernel_rfl
section
variable {w w' : World} {g : Nat} {t : TypeId} {C C' : Array Value}
/-- A block that is known whole, written. -/
theorem blk_store (h : Blok w g t C) (hn : C.size = C'.size) (h1 : C'.all (·.oneCell') = true) : (storeCells ⟨g, 0, none⟩ C'.toList 0).run Try.prog w = .ok () (w.setRow g C') := by
  have h2 := run_storeCells_from (P := Try.prog) g t C'.toList 0 C w h (by simp [hn]) (fun v hv => by
    rw [← Array.all_toList, List.all_eq_true] at h1
    exact h1 v hv)
  rw [h2]
  simp
theorem Blok.after {w w' : World} {g : Nat} {t : TypeId} {cs : Array Value} (h : Blok w g t cs) (hb : Below w.heap.size w w') : Blok w' g t cs := (hb.block _ h.lt).trans h
theorem Blok.row (h : Blok w g t C) (C' : Array Value) : Blok (w.setRow g C') g t C' := setRow_heap w g C C' t (0, 0) h
theorem below_row {B : Nat} (h : Below B w w') (hg : B ≤ g) (C' : Array Value) : Below B w (w'.setRow g C') :=
  ⟨h.os, h.tape, h.output, by simpa [World.setRow] using h.size, fun k hk => (setRow_other w' g k C' (by omega)).trans (h.block k hk)⟩
/-- Sixty bytes, copied over a page. -/
theorem pg_copy (h : Blok w g t C) (hC : C.size = 60) (s : ByteArray) (hs : s.size = 60) (ty : TypeId) : (Builtin.copy_ #[36, 9] ty #[.slice (some ⟨g, 0, none⟩) 60 60, .string s]).run Try.prog w = .ok (.int .i64 60) (w.setRow g (pgC s.data.toList)) := by
  obtain ⟨i, hi, _, hz1, _⟩ := info_parts pg_info
  have hl : s.data.toList.length = 60 := by rw [dl_size, hs]
  have hst := blk_store h (C' := pgC s.data.toList) (by rw [hC, pgC_size, hl]) (pgC_one _)
  have hfc : (Builtin.firstCells 1 60 (.string s)).run Try.prog w = .ok (pgC s.data.toList) w := by
    show (pure (((s.extract 0 60).data.map fun b => Value.int .u8 b.toNat)) : Sem (Array Value)).run Try.prog w = _
    rw [Sem.run_pure, show s.extract 0 60 = s by rw [ext_bs, List.drop_zero, List.take_of_length_le (by omega), bs_data]]
    congr 1
    apply Array.ext'
    unfold pgC
    rw [Array.toList_map]
  have hm : Nat.min s.size 60 = 60 := by rw [hs]; rfl
  simp [Builtin.copy_, run_underlying Try.underlying36, Builtin.lenOf, sizeOf, typeInfo, hi, hz1, hm, hfc, hst, goInt]
theorem pg_copy0 (w : World) (A : Option Addr) (ty : TypeId) : (Builtin.copy_ #[36, 9] ty #[.slice A 60 60, .string ByteArray.empty]).run Try.prog w = .ok (.int .i64 0) w := by
  obtain ⟨i, hi, _, hz1, _⟩ := info_parts pg_info
  have hfc : (Builtin.firstCells 1 0 (.string ByteArray.empty)).run Try.prog w = .ok #[] w := by
    show (pure (((ByteArray.empty.extract 0 0).data.map fun b => Value.int .u8 b.toNat)) : Sem (Array Value)).run Try.prog w = _
    rw [Sem.run_pure, show ByteArray.empty.extract 0 0 = ByteArray.empty by decide]
    exact congrArg (fun x => Result.ok x w) Array.map_empty
  cases A <;> simp [Builtin.copy_, run_underlying Try.underlying36, Builtin.lenOf, sizeOf, typeInfo, hi, hz1, hfc, storeCells, goInt]
end

/-- A page of nothing. -/
def pgZ : Array Value := pgC (List.replicate 60 0)
theorem pgZ_size : pgZ.size = 60 := rfl
theorem pgZ_one : pgZ.all (·.oneCell') = true := pgC_one _
section
variable {ops : Array Oper} {rest : List Oper} {o : Oper} {a : Act} {w : World} {Q : Exit → Act → World → Prop} {Z C C' : Array Value} {g : Nat} {t : TypeId}
theorem pg_alloc (hZ : pgZ = Z) (hgd : o.guard = none) (dst : Option Tmp) (hdst : o.dst = dst) (ho : o.op = .alloc 63)
    (h : wpList Try.prog ops Q rest (a.put dst (.pointer (some ⟨w.heap.size, 0, none⟩))) (w.alloc (.cells Z 63))) : wpList Try.prog ops Q (o :: rest) a w := by
  subst hZ
  refine wpList_runTo hgd dst hdst _ _ ?_ h
  unfold execOp
  simp only [ho, Sem.run_bind, Instr.alloc, zeroPg, Result.andThen_ok]
  rfl
theorem pg_zero (hZ : pgZ = Z) (hgd : o.guard = none) (dst : Option Tmp) (hdst : o.dst = dst) (ho : o.op = .build 63 #[])
    (h : wpList Try.prog ops Q rest (a.put dst (.agg Z)) w) : wpList Try.prog ops Q (o :: rest) a w := by
  subst hZ
  refine wpList_runTo hgd dst hdst _ _ ?_ h
  unfold execOp
  simp only [ho, Sem.run_bind, List.map_toArray, List.map_nil]
  rw [run_build w 63 #[] pgZ (by kernel_rfl)]
  rfl
theorem pg_store (hgd : o.guard = none) (x y : Operand) (ho : o.op = .store 63 x y) (hx : a.eval x = .pointer (some ⟨g, 0, none⟩)) (hy : a.eval y = .agg C') (hb : Blok w g t C) (hC : C.size = 60) (hC' : C'.size = 60) (h1 : C'.all (·.oneCell') = true)
    (h : wpList Try.prog ops Q rest (a.put o.dst undef) (w.setRow g C')) : wpList Try.prog ops Q (o :: rest) a w :=
  wpList_store_row hgd _ x y ho g C' hx hy t C hb (by rw [hC']; exact infoPg) (by rw [hC, hC']) h1 h
theorem pg_load (hgd : o.guard = none) (x : Operand) (ho : o.op = .load 63 x) (hx : a.eval x = .pointer (some ⟨g, 0, none⟩)) (hb : Blok w g t C) (hC : C.size = 60)
    (h : wpList Try.prog ops Q rest (a.put o.dst (.agg C)) w) : wpList Try.prog ops Q (o :: rest) a w :=
  wpList_load_row hgd _ x ho g hx t C (0, 0) _ hb Try.underlying63 rfl (by rw [hC]; exact infoPg) h
theorem pg_copied {w' : World} {s : ByteArray} {v' vs : Value} (hgd : o.guard = none) (x y : Operand) (ho : o.op = .call { callee := .builtin .copy, args := #[x, y], argTypes := #[36, 9] }) (hx : a.eval x = vs) (hy : a.eval y = .string s)
    (hr : ∀ ty, (Builtin.copy_ #[36, 9] ty #[vs, .string s]).run Try.prog w = .ok v' w')
    (h : wpList Try.prog ops Q rest (a.put o.dst v') w') : wpList Try.prog ops Q (o :: rest) a w := by
  refine wpList_plain hgd fun K' hK' => ?_
  unfold Oper.wp execOp
  simp only [ho, resolve, invoke, builtin, Sem.run_bind, Sem.run_pure, Result.andThen_ok, List.map_toArray, List.map_cons, List.map_nil, hx, hy, hr]
  exact hK' _ _ h
theorem pg_ret {fn : Func} {R : Ending → World → Prop} {p u : Tmp} {q : Bool} (hf : fn.results = #[.cell p 63, .tmp u]) (hp : a.tmps.getD p undef = .pointer (some ⟨g, 0, none⟩)) (hu : a.tmps.getD u undef = .bool q) (hb : Blok w g t C) (hC : C.size = 60) (hd : a.defers = [])
    (hR : R (.returned (.tuple #[.agg C, .bool q])) w) : bodyPost Try.prog fn R .ret a w := by
  refine bodyPost_ret ?_ hd hR
  rw [results_cell_tmp hf, hp, hu]
  simp only [asAddr, Sem.run_pure, Result.andThen_ok]
  rw [run_loadVar_row w g t 63 C (0, 0) _ hb Try.underlying63 rfl (by rw [hC]; exact infoPg)]
  rfl
theorem infoFl : (Try.prog.info? 28).map (·.size) = some 3 := by kernel_rfl
theorem fl_store (hgd : o.guard = none) (x y : Operand) (ho : o.op = .store 28 x y) (hx : a.eval x = .pointer (some ⟨g, 0, none⟩)) (hy : a.eval y = .agg C') (hb : Blok w g t C) (hC : C.size = 3) (hC' : C'.size = 3) (h1 : C'.all (·.oneCell') = true)
    (h : wpList Try.prog ops Q rest (a.put o.dst undef) (w.setRow g C')) : wpList Try.prog ops Q (o :: rest) a w :=
  wpList_store_row hgd _ x y ho g C' hx hy t C hb (by rw [hC']; exact infoFl) (by rw [hC, hC']) h1 h
theorem fl_zero (hgd : o.guard = none) (dst : Option Tmp) (hdst : o.dst = dst) (ho : o.op = .build 28 #[])
    (h : wpList Try.prog ops Q rest (a.put dst (.agg #[.int .i64 0, .int .i64 0, .map none])) w) : wpList Try.prog ops Q (o :: rest) a w := by
  refine wpList_runTo hgd dst hdst _ _ ?_ h
  unfold execOp
  simp only [ho, Sem.run_bind, List.map_toArray, List.map_nil]
  rw [run_build w 28 #[] #[.int .i64 0, .int .i64 0, .map none] (by kernel_rfl)]
  rfl
theorem fl_made {p n : Int} {mb : Option Nat} (hgd : o.guard = none) (dst : Option Tmp) (hdst : o.dst = dst) (x y z : Operand) (ho : o.op = .build 28 #[(0, x), (1, y), (2, z)]) (hx : a.eval x = .int .i64 p) (hy : a.eval y = .int .i64 n) (hz : a.eval z = .map mb)
    (h : wpList Try.prog ops Q rest (a.put dst (.agg #[.int .i64 p, .int .i64 n, .map mb])) w) : wpList Try.prog ops Q (o :: rest) a w := by
  refine wpList_runTo hgd dst hdst _ _ ?_ h
  unfold execOp
  simp only [ho, Sem.run_bind, List.map_toArray, List.map_cons, List.map_nil, hx, hy, hz]
  rw [run_build w 28 #[(0, .int .i64 p), (1, .int .i64 n), (2, .map mb)] #[.int .i64 p, .int .i64 n, .map mb] (by kernel_rfl)]
  rfl
theorem fl_load (hgd : o.guard = none) (x : Operand) (ho : o.op = .load 28 x) (hx : a.eval x = .pointer (some ⟨g, 0, none⟩)) (hb : Blok w g t C) (hC : C.size = 3)
    (h : wpList Try.prog ops Q rest (a.put o.dst (.agg C)) w) : wpList Try.prog ops Q (o :: rest) a w :=
  wpList_load_row hgd _ x ho g hx t C (0, 0) _ hb Try.underlying28 rfl (by rw [hC]; exact infoFl) h
theorem fl_ret {fn : Func} {R : Ending → World → Prop} {p : Tmp} (hf : fn.results = #[.cell p 28]) (hp : a.tmps.getD p undef = .pointer (some ⟨g, 0, none⟩)) (hb : Blok w g t C) (hC : C.size = 3) (hd : a.defers = [])
    (hR : R (.returned (.agg C)) w) : bodyPost Try.prog fn R .ret a w :=
  bodyPost_ret (results_cell_row hf _ w g t C (0, 0) _ hp hb Try.underlying28 rfl (by rw [hC]; exact infoFl)) hd hR
end
end Go.Proofs.Ytfnppmiapjhjlaa

/- PgPage -/
namespace Go.Proofs.Ytfnppmiapjhjlaa
open Go.RowKit
set_option linter.unusedVariables false

/-- What is told of a page: its bytes, if it is whole. -/
def pgL (t : ByteArray) (j : Nat) : List UInt8 := if pgW t j = true then (pgT t j).data.toList.take 60 else List.replicate 60 0
theorem opA_pg {t : ByteArray} {j : Nat} (h : pgW t j = true) : (opA (pgT t j)).data.toList = pgL t j ∧ (opA (pgT t j)).size = 60 := by
  obtain ⟨h1, h2⟩ := pgW_iff.1 h
  have hz := pgT_size h1
  unfold opA pgL
  rw [if_pos h2, if_pos h, hz]
  refine ⟨by rw [ext_list]; rfl, by rw [ByteArray.size_extract, hz]; rfl⟩

set_option maxRecDepth 100000 in
theorem page_none (Z : Array Value) (hZ : pgZ = Z) (t : ByteArray) (y : Nat) (j : Int) (w : World) (hj : 0 ≤ j ∧ j ≤ 100000) (hy : j * 64 = y) (hs : t.size ≤ 1000000) (h : (t.size : Int) < (y : Int) + 64) :
    Calls Try.prog 30 #[.string t, .int .i64 j] w fun e w' => e = .returned (.tuple #[.agg Z, .bool false]) ∧ Below w.heap.size w w' := by
  have z1 : Z.size = 60 := by rw [← hZ]; exact pgZ_size
  have z2 : Z.all (·.oneCell') = true := by rw [← hZ]; exact pgZ_one
  have hB := Lib.hid (Blok.new w 63 Z)
  have hb := Lib.hid ((Below.refl w.heap.size w).alloc (Nat.le_refl _) (.cells Z 63))
  go_enter Try.func30, Try.ntmps30
  go_wp2_with (first
    | (refine pg_alloc hZ rfl _ rfl rfl ?_)
    | (refine pg_zero hZ rfl _ rfl rfl ?_)
    | (refine pg_store rfl _ _ rfl rfl rfl hB.out z1 z1 z2 ?_))
  refine pg_ret rfl rfl rfl (hB.out.row Z) z1 rfl ?_
  exact ⟨rfl, below_row hb.out (Nat.le_refl _) Z⟩

set_option maxRecDepth 100000 in
/-- A page that is there. -/
theorem page_some (Z : Array Value) (hZ : pgZ = Z) (t s : ByteArray) (y : Nat) (j : Int) (q : Bool) (C : Array Value) (w : World) (hj : 0 ≤ j ∧ j ≤ 100000) (hy : j * 64 = y) (hs : t.size ≤ 1000000) (h : (y : Int) + 64 ≤ (t.size : Int))
    (hO : ∀ W, Calls Try.prog 19 #[.string (t.extract y (y + 64))] W fun e w' => e = .returned (.tuple #[.string s, .bool q]) ∧ Below W.heap.size W w')
    (hcase : (s = ByteArray.empty ∧ C = Z) ∨ (s.size = 60 ∧ C = pgC s.data.toList)) :
    Calls Try.prog 30 #[.string t, .int .i64 j] w fun e w' => e = .returned (.tuple #[.agg C, .bool q]) ∧ Below w.heap.size w w' := by
  have z1 : Z.size = 60 := by rw [← hZ]; exact pgZ_size
  have z2 : Z.all (·.oneCell') = true := by rw [← hZ]; exact pgZ_one
  have hB := Lib.hid (Blok.new w 63 Z)
  have hb := Lib.hid ((Below.refl w.heap.size w).alloc (Nat.le_refl _) (.cells Z 63))
  have HO := Lib.hid hO
  have hC : ∀ W, Blok W w.heap.size 63 Z → Below w.heap.size w W → ∃ v W', (∀ ty, (Builtin.copy_ #[36, 9] ty #[.slice (some ⟨w.heap.size, 0, none⟩) 60 60, .string s]).run Try.prog W = .ok v W') ∧ Blok W' w.heap.size 63 C ∧ Below w.heap.size w W' ∧ C.size = 60 ∧ C.all (·.oneCell') = true := by
    intro W hW hbW
    rcases hcase with ⟨rfl, rfl⟩ | ⟨h60, rfl⟩
    · exact ⟨_, _, fun ty => pg_copy0 W _ ty, hW, hbW, z1, z2⟩
    · exact ⟨_, _, fun ty => pg_copy hW z1 s h60 ty, hW.row _, below_row hbW (Nat.le_refl _) _, by rw [pgC_size, dl_size, h60], pgC_one _⟩
  have HC := Lib.hid hC
  clear hcase hO hC
  go_enter Try.func30, Try.ntmps30
  go_wp2_with (first
    | (refine pg_alloc hZ rfl _ rfl rfl ?_)
    | (refine (HO.out _).mono ?_; rintro e w1 ⟨rfl, b1⟩; obtain ⟨v, W', e1, e2, e3, e4, e5⟩ := HC.out w1 ((b1.block _ hB.out.lt).trans hB.out) (hb.out.trans (b1.mono hb.out.size)); have E2 := Lib.hid e2; have E3 := Lib.hid e3; clear e2 e3)
    | (refine pg_copied rfl _ _ rfl rfl rfl e1 ?_)
    | (refine pg_load rfl _ rfl rfl E2.out e4 ?_)
    | (refine pg_store rfl _ _ rfl rfl rfl E2.out e4 e4 e5 ?_))
  refine pg_ret rfl rfl rfl (E2.out.row C) e4 rfl ?_
  exact ⟨rfl, below_row E3.out (Nat.le_refl _) C⟩
/-- Of a page what is told is its bytes, and whether it is whole. -/
theorem page_any (t : ByteArray) (j : Nat) (w : World) (hj : j ≤ 100000) (hs : t.size ≤ 1000000) :
    Calls Try.prog 30 #[.string t, .int .i64 (j : Nat)] w fun e w' => e = .returned (.tuple #[pgV (pgL t j), .bool (pgW t j)]) ∧ Below w.heap.size w w' := by
  by_cases h : 64 * j + 64 ≤ t.size
  · have hO := fun W => open_any (t.extract (64 * j) (64 * j + 64)) W (by rw [ByteArray.size_extract]; unfold maxLen; omega)
    have hw : pgW t j = opOk (pgT t j) := by unfold pgW; rw [decide_eq_true h, Bool.true_and]
    rw [hw]
    refine page_some pgZ rfl t (opA (pgT t j)) (64 * j) (j : Int) (opOk (pgT t j)) (pgC (pgL t j)) w (by omega) (by omega) hs (by omega) hO ?_
    by_cases ho : opOk (pgT t j) = true
    · obtain ⟨h1, h2⟩ := opA_pg (t := t) (j := j) (hw.trans ho)
      exact Or.inr ⟨h2, by rw [h1]⟩
    · refine Or.inl ⟨by unfold opA; rw [if_neg ho], ?_⟩
      unfold pgL pgZ
      rw [if_neg (by rw [hw]; exact ho)]
  · have hw : pgW t j = false := by unfold pgW; rw [decide_eq_false h, Bool.false_and]
    have hl : pgL t j = List.replicate 60 0 := by unfold pgL; rw [hw]; rfl
    rw [hw, hl]
    exact page_none pgZ rfl t (64 * j) (j : Int) w (by omega) (by omega) hs (by omega)
theorem pgL_length (t : ByteArray) (j : Nat) : (pgL t j).length = 60 := by
  unfold pgL
  split
  · rename_i h
    have := pgB_length (t := t) (k := j - 1)
    rw [List.length_take, dl_size, pgT_size (pgW_iff.1 h).1]
    decide
  · rw [List.length_replicate]
theorem pgL_yes {t : ByteArray} {k : Nat} (h : pgW t (k + 1) = true) : pgL t (k + 1) = pgB t k := by unfold pgL pgB; rw [if_pos h]
end Go.Proofs.Ytfnppmiapjhjlaa

/- NumsGet -/
namespace Go.Proofs.Ytfnppmiapjhjlaa
open Go.RowKit
set_option linter.unusedVariables false

theorem pow8 : (256 : Nat) ^ 8 = 18446744073709551616 := by decide
theorem un_take_lt (s : ByteArray) (k : Nat) (h : k ≤ 7) : un (s.data.toList.take k) ≤ 72057594037927935 := by
  have h1 := un_lt (s.data.toList.take k)
  have h2 : (s.data.toList.take k).length ≤ 7 := by rw [List.length_take]; omega
  have h3 : 256 ^ (s.data.toList.take k).length ≤ 256 ^ 7 := Nat.pow_le_pow_right (by decide) h2
  have : (256 : Nat) ^ 7 = 72057594037927936 := by decide
  omega
theorem getS_step (s : ByteArray) (k : Nat) (h : k < s.size) : un (s.data.toList.take (k + 1)) = un (s.data.toList.take k) * 256 + (s[k]).toNat := by
  rw [take_snoc s k h, un_snoc]
theorem getS_end (s : ByteArray) (k : Nat) (h : k = s.size ∨ k = 8) (hk : k ≤ 8) : un (s.data.toList.take k) = getS s := by
  unfold getS
  rcases h with h | h
  · subst h
    rw [List.take_of_length_le (by simp), List.take_of_length_le (by simp; omega)]
  · rw [h]

theorem or_byte (a c : Nat) (ha : a ≤ 72057594037927935) (hc : c < 2 ^ 8) : bits .or .u64 ((a : Int) * 256) (c : Int) = ((a * 256 + c : Nat) : Int) := by
  have e : (a : Int) * 256 = ((a * 256 : Nat) : Int) := by omega
  have h := Nat.shiftLeft_add_eq_or_of_lt hc a
  rw [Nat.shiftLeft_eq] at h
  have h1 : (BitVec.ofInt 64 ((a * 256 : Nat) : Int)).toNat = a * 256 := by
    rw [BitVec.ofInt_natCast, BitVec.toNat_ofNat]; exact Nat.mod_eq_of_lt (by omega)
  have h2 : (BitVec.ofInt 64 (c : Int)).toNat = c := by
    rw [BitVec.ofInt_natCast, BitVec.toNat_ofNat]; exact Nat.mod_eq_of_lt (by omega)
  rw [e]
  show IntKind.u64.wrap ((BitVec.ofInt 64 ((a * 256 : Nat) : Int) ||| BitVec.ofInt 64 (c : Int)).toNat : Int) = _
  rw [BitVec.toNat_or, h1, h2, ← show a * 256 + c = a * 256 ||| c from h, IntKind.wrap_u64]
  omega

set_option maxHeartbeats 400000 in
theorem get_any (s : ByteArray) (w : World) (hs : s.size ≤ maxLen) :
    Calls Try.prog 44 #[.string s] w fun e w' => e = .returned (.int .u64 (getS s : Nat)) ∧ w = w' := by
  unfold maxLen at hs
  by_cases h8 : s.size ≤ 8
  all_goals
    go_enter Try.func44, Try.ntmps44
    go_wp2
    go_loop [3, 8] (fun n i => ∃ k : Nat, k ≤ s.size ∧ k ≤ 8 ∧ i = .int .i64 k ∧ n = .int .u64 (un (s.data.toList.take k) : Nat)) (fun _ i => 8 - (intOf i).toNat)
    case atStart => exact ⟨0, Nat.zero_le _, by omega, rfl, rfl⟩
    case round =>
      obtain ⟨k, hk, hk8, rfl, rfl⟩ := hrel
      by_cases hlt : k < s.size ∧ k < 8
      · obtain ⟨h1, h2⟩ := hlt
        have hb := un_take_lt s k (by omega)
        have hst := Lib.hid (getS_step s k h1)
        have hc := (s[k]).toNat_lt
        go_wp2
        go_round
        case rel => exact ⟨k + 1, by omega, by omega, by go_num, by rw [hst.out, or_byte _ _ (by omega) hc]⟩
        case measure => simp [intOf]; omega
      · have hend := Lib.hid (getS_end s k (by omega) hk8)
        go_wp2
        go_ret
        exact ⟨ret_int (by rw [hend.out]), rfl⟩
end Go.Proofs.Ytfnppmiapjhjlaa
