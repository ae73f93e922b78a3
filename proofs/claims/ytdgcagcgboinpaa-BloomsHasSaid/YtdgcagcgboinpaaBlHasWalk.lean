/- The walk of BloomsHas. -/
import Derived.Test.YtdgcagcgboinpaaBlEx
import Derived.Test.YtdgcagcgboinpaaSrc
namespace Go.Proofs.Ytdgcagcgboinpaa.BlHs
open Go.RowKit
set_option linter.unusedVariables false

theorem info_u64 : (Try.prog.info? 22).map (fun i => (i.zero, i.size, i.bytes)) = some (some (.int .u64 0), 1, 8) := by kernel_rfl
theorem src_of_row {w : World} {v : Value} {l : List Nat} (h : RowOf u64V w v l) : SrcAt w 1 v l.length (l.map u64V) := by
  refine ⟨by rw [List.length_map, Nat.mul_one], ?_⟩
  rcases h with ⟨rfl, a, cap, rfl⟩ | ⟨h0, b, off, cap, rfl, hc, hb, hx⟩
  · cases a with
    | none => exact Or.inl ⟨cap, rfl, rfl⟩
    | some a => exact Or.inr ⟨a, cap, rfl, fun j u hj => by simp at hj⟩
  · refine Or.inr ⟨_, cap, rfl, fun j u hj => ?_⟩
    rw [List.getElem?_map] at hj
    obtain ⟨z, hz, rfl⟩ := Option.map_eq_some_iff.1 hj
    obtain ⟨hlt, hz⟩ := List.getElem?_eq_some_iff.1 hz
    have e : (⟨b, off, none⟩ : Addr).add j = ⟨b, off + j, none⟩ := by simp [Addr.add]
    rw [e, hx j hlt, List.getD_eq_getElem?_getD, List.getElem?_eq_getElem hlt, ← hz]
    rfl
theorem u64V_one (l : List Nat) : ∀ u ∈ l.map u64V, u.oneCell' = true := fun u hu => by
  obtain ⟨z, _, rfl⟩ := List.mem_map.1 hu
  rfl
theorem app_u64 (w : World) (base : Nat) (ty : TypeId) (v vx : Value) (l m : List Nat) (hown : w.ownsRow base 22 1 v l.length (l.map u64V)) (hx : RowOf u64V w vx m) (hl : l.length ≤ 1000) (hm : m.length ≤ 1000) (hbase : base ≤ w.heap.size) :
    ∃ v' w', (Builtin.append_ #[28, 28] ty #[v, vx]).run Try.prog w = .ok v' w' ∧ w'.ownsRow base 22 1 v' (l ++ m).length ((l ++ m).map u64V) ∧ Below base w w' := by
  obtain ⟨i0, hi, hz0, hz1, hz2⟩ := info_parts info_u64
  obtain ⟨v', w', e1, e2, e3, e4⟩ := run_append_src (P := Try.prog) w base 28 22 i0 _ 1 8 ty Try.underlying28 hi hz0 hz1 hz2 rfl (by decide) v l.length (l.map u64V) hown vx m.length (m.map u64V) (src_of_row hx) (u64V_one m) (by unfold maxLen; omega) (by omega) hbase
  exact ⟨v', w', e1, by rw [List.length_append, List.map_append]; exact e2, (Below.refl base w).grown e3 hbase (owns_block hown)⟩

theorem long (v vm : Value) (l m : List Nat) (x y : Int) (w : World) (hv : RowOf u64V w v l) (hvm : RowOf u64V w vm m) (hl : 60 < l.length ∨ 20 < m.length) :
    Calls Try.prog 5 #[v, vm, .agg #[.int .u8 x, .int .u8 y]] w fun e w' => e = .returned (.bool true) ∧ Below w.heap.size w w' := by
  obtain ⟨A, c, rfl⟩ := hv.form
  obtain ⟨B, d, rfl⟩ := hvm.form
  have HE := Lib.hid bloomed_true
  have hb0 : Below w.heap.size w (w.alloc (.cells #[.int .u8 x, .int .u8 y] 32)) := (Below.refl _ w).alloc (Nat.le_refl _) _
  by_cases h : 60 < l.length
  · have l1 : (60 : Int) < (l.length : Int) := by omega
    go_enter Try.func5, Try.ntmps5
    go_wp2_with fail
    refine (HE.out _).mono ?_
    rintro e w2 ⟨rfl, hb2⟩
    go_wp2
    go_ret
    exact ⟨rfl, bj hb0 hb2⟩
  · have l1 : ¬ (60 : Int) < (l.length : Int) := by omega
    have l2 : (20 : Int) < (m.length : Int) := by omega
    go_enter Try.func5, Try.ntmps5
    go_wp2_with fail
    refine (HE.out _).mono ?_
    rintro e w2 ⟨rfl, hb2⟩
    go_wp2
    go_ret
    exact ⟨rfl, bj hb0 hb2⟩

theorem two_bytes (w : World) (a b : Int) (t : TypeId) : (w.alloc (.cells #[.int .u8 a, .int .u8 b] t)).cell? ⟨w.heap.size, 0, none⟩ = some (.int .u8 a) ∧ (w.alloc (.cells #[.int .u8 a, .int .u8 b] t)).cell? ⟨w.heap.size, 1, none⟩ = some (.int .u8 b) := by
  have r : RowB (w.alloc (.cells #[.int .u8 a, .int .u8 b] t)) w.heap.size 2 (fun i => if i = 0 then .int .u8 a else .int .u8 b) := ⟨_, t, (0, 0), World.alloc_heap_new w _, Nat.le_refl _, Or.inl rfl, fun i hi => by
    match i, hi with
    | 0, _ => rfl
    | 1, _ => rfl⟩
  exact ⟨r.cell (i := 0) (by decide), r.cell (i := 1) (by decide)⟩

set_option maxHeartbeats 4000000 in
set_option maxRecDepth 100000 in
theorem short (v vm : Value) (l mo : List Nat) (x y : Nat) (w : World) (hv : RowOf u64V w v l) (hvm : RowOf u64V w vm mo) (wl : Words l) (wm : Words mo) (hx : x < 256) (hy : y < 256) (hl : l.length ≤ 60) (hlm : mo.length ≤ 20) :
    Calls Try.prog 5 #[v, vm, .agg #[.int .u8 (x : Nat), .int .u8 (y : Nat)]] w fun e w' => e = .returned (.bool true) ∧ Below w.heap.size w w' := by
  obtain ⟨A, c, rfl⟩ := hv.form
  obtain ⟨B, d, rfl⟩ := hvm.form
  obtain ⟨w1, hw1⟩ : ∃ w1, w.alloc (.cells #[.int .u8 (x : Nat), .int .u8 (y : Nat)] 32) = w1 := ⟨_, rfl⟩
  have hB1 : Below w.heap.size w w1 := by rw [← hw1]; exact (Below.refl _ w).alloc (Nat.le_refl _) _
  obtain ⟨c0, c1⟩ : w1.cell? ⟨w.heap.size, 0, none⟩ = some (.int .u8 (x : Nat)) ∧ w1.cell? ⟨w.heap.size, 1, none⟩ = some (.int .u8 (y : Nat)) := by rw [← hw1]; exact two_bytes w x y _
  have HW1 := Lib.hid hw1
  have l1 : ¬ (60 : Int) < (l.length : Int) := by omega
  have l2 : ¬ (20 : Int) < (mo.length : Int) := by omega
  have HE := Lib.hid bloomed_true
  obtain ⟨p, hp⟩ : ∃ p, x % 20 = p := ⟨_, rfl⟩
  obtain ⟨n, hn⟩ : ∃ n, 1 + y = n := ⟨_, rfl⟩
  obtain ⟨m, hm⟩ : ∃ m, 8 * n = m := ⟨_, rfl⟩
  have hp20 : p < 20 := by omega
  have hn0 : 0 < n ∧ n ≤ 256 := by omega
  have ex : (x : Int) % 20 = (p : Int) := by omega
  have ey : 8 * (1 + (y : Int)) = (m : Int) := by omega
  have wp : (Lit.int .i64 (p : Nat)).wf = true := WalkArith.wf_i64 (by omega)
  have wmm : (Lit.int .i64 (m : Nat)).wf = true := WalkArith.wf_i64 (by omega)
  have hok : mkOk (m : Nat) = true := by unfold mkOk; exact decide_eq_true (by omega)
  have hV1 := hv.below hB1 (Nat.le_refl _)
  have hV2 := hvm.below hB1 (Nat.le_refl _)
  clear hw1
  go_enter Try.func5, Try.ntmps5
  go_wp2_with fail
  rw [HW1.out]
  clear hv hvm
  go_region
  try simp only [ex]
  have hbd : Below w1.heap.size w1 w1.drew := (Below.refl _ w1).drew
  obtain ⟨wd, hwd⟩ : ∃ wd, w1.drew = wd := ⟨_, rfl⟩
  rw [hwd] at hbd ⊢
  have HBD := Lib.hid (bj hB1 hbd)
  have HM1 := Lib.hid (make_any _ l p m wd (hV1.below hbd (Nat.le_refl _)) wl (by omega) wp wmm)
  have hVA := hV1.below hbd (Nat.le_refl _)
  have hVB := hV2.below hbd (Nat.le_refl _)
  clear hV1 hV2 hbd hwd c0 c1 HW1
  -- what is made
  have hL := makeL_yes (l := l) (p := p) hok
  have hLL := makeL_yes (l := l ++ mo) (p := p) hok
  have hmn : m / 8 = n := by omega
  rw [Int.toNat_natCast, hmn] at hL hLL
  rw [hL] at HM1
  have hsa : (bs (bytesL (setL l p m) n)).size = n := by rw [bs_size, bytesL_length]
  have hsb : (bs (bytesL (setL (l ++ mo) p m) n)).size = n := by rw [bs_size, bytesL_length]
  obtain ⟨sa, ha⟩ : ∃ sa, bs (bytesL (setL l p m) n) = sa := ⟨_, rfl⟩
  obtain ⟨sb, hb⟩ : ∃ sb, bs (bytesL (setL (l ++ mo) p m) n) = sb := ⟨_, rfl⟩
  have hta : sa.data.toList = bytesL (setL l p m) n := by rw [← ha]; rfl
  have htb : sb.data.toList = bytesL (setL (l ++ mo) p m) n := by rw [← hb]; rfl
  rw [ha] at HM1 hsa
  rw [hb] at hsb
  have HHA := Lib.hid fun (k : Nat) (hk : k < l.length) W => has_any p (l.getD k 0) sa W (words_at wl k) wp (by omega)
  have HHB := Lib.hid fun (k : Nat) (hk : k < l.length) W => has_any p (l.getD k 0) sb W (words_at wl k) wp (by omega)
  have HYA : ∀ k, k < l.length → hasL sa.data.toList p (l.getD k 0) = true := fun k hk => by
    rw [hta]
    refine hasL_yes (by rw [bytesL_length]; omega) fun z hz => ?_
    rw [bytesL_length] at hz
    have e : ((8 * n : Nat) : Int) = (m : Nat) := by omega
    rw [e] at hz
    have hlz := asksL_lt (by omega) hz
    rw [bitL_bytes _ (by omega)]
    exact decide_eq_true (setL_mem (by rw [List.getD_eq_getElem?_getD, List.getElem?_eq_getElem hk]; exact List.getElem_mem hk) hz)
  have HYB : ∀ k, k < l.length → hasL sb.data.toList p (l.getD k 0) = true := fun k hk => by
    rw [htb]
    refine hasL_yes (by rw [bytesL_length]; omega) fun z hz => ?_
    rw [bytesL_length] at hz
    have e : ((8 * n : Nat) : Int) = (m : Nat) := by omega
    rw [e] at hz
    have hlz := asksL_lt (by omega) hz
    rw [bitL_bytes _ (by omega)]
    exact decide_eq_true (setL_sub _ (setL_mem (by rw [List.getD_eq_getElem?_getD, List.getElem?_eq_getElem hk]; exact List.getElem_mem hk) hz))
  have HAND : ∀ k (h1 : k < sa.size) (h2 : k < sb.size), (sa[k]'h1).toNat &&& (sb[k]'h2).toNat = (sa[k]'h1).toNat := fun k h1 h2 => by
    have e1 : (sa[k]'h1).toNat = byL (setL l p m) k := by
      rw [← bytesL_at (setL l p m) (n := n) (i := k) (by omega), ← hta, List.getD_eq_getElem?_getD, Array.getElem?_toList, Array.getElem?_eq_getElem (show k < sa.data.size from h1)]
      rfl
    have e2 : (sb[k]'h2).toNat = byL (setL (l ++ mo) p m) k := by
      rw [← bytesL_at (setL (l ++ mo) p m) (n := n) (i := k) (by omega), ← htb, List.getD_eq_getElem?_getD, Array.getElem?_toList, Array.getElem?_eq_getElem (show k < sb.data.size from h2)]
      rfl
    rw [e1, e2]
    exact byL_sub _ _ _ setL_sub
  have HMB := Lib.hid hb
  have HLL := Lib.hid hLL
  have HH := Lib.hid (And.intro HYA (And.intro HYB HAND))
  clear ha hb hta htb hL hLL HYA HYB HAND
  go_wp2_with fail
  refine HM1.out.mono ?_
  rintro e w2 ⟨rfl, hb2⟩
  obtain ⟨v3, w3, A1, o3, hb3⟩ := app_u64 w2 w2.heap.size 28 (.slice none 0 0) _ [] l (World.ownsRow_nil _ _ _ _) (hVA.below hb2 (Nat.le_refl _)) (by simp) (by omega) (Nat.le_refl _)
  obtain ⟨v4, w4, A2, o4, hb4⟩ := app_u64 w3 w2.heap.size 28 v3 _ ([] ++ l) mo o3 (hVB.below (bj hb2 hb3) (Nat.le_refl _)) (by simp; omega) (by omega) hb3.size
  rw [List.nil_append] at o4
  have r4 := RowOf.of_owns u64V o4
  have HA1 := Lib.hid A1
  have HA2 := Lib.hid A2
  have HM2 := Lib.hid (make_any v4 (l ++ mo) p m w4 r4 (fun z hz => by
    rcases List.mem_append.1 hz with h | h
    · exact wl z h
    · exact wm z h) (by rw [List.length_append]; omega) wp wmm)
  rw [HLL.out, HMB.out] at HM2
  have HB4 := Lib.hid (bj (bj HBD.out hb2) (hb3.trans hb4))
  have HC4 := Lib.hid (bj hb2 (hb3.trans hb4))
  clear A1 A2 o3 o4 r4 hb2 hb3 hb4 hVB
  go_wp2_with (first | (at_builtin; refine wpList_append_two rfl _ _ rfl rfl rfl HA1.out ?_) | (at_builtin; refine wpList_append_two rfl _ _ rfl rfl rfl HA2.out ?_) | fail)
  refine HM2.out.mono ?_
  rintro e w5 ⟨rfl, hb5⟩
  have es : 8 * (sa.size : Int) = (m : Int) := by omega
  have es2 : (sb.size : Int) = (sa.size : Int) := by omega
  have hVF := hVA.below (bj HC4.out hb5) (Nat.le_refl _)
  have HB5 := Lib.hid (bj HB4.out hb5)
  clear hVA hb5 HC4 HB4 HBD HM1 HM2 HA1 HA2 HLL HMB
  go_wp2_with fail
  go_loopw [11] (fun ii wr => ∃ k : Nat, k ≤ l.length ∧ ii = .int .i64 k ∧ Below w5.heap.size w5 wr) (fun ii _ => l.length - (intOf ii).toNat)
  case atStart => exact ⟨0, Nat.zero_le _, rfl, Below.refl _ _⟩
  case round =>
    obtain ⟨k, hk, rfl, hbel⟩ := hrel
    by_cases hlt : k < l.length
    · obtain ⟨q0, off, rfl, hb0, hcap, hcell⟩ := hVF.at (by omega)
      have hcx := fun W (hW : Below w5.heap.size w5 W) => (hW.cell (p := ⟨q0, off + k, none⟩) hb0).trans (hcell k hlt)
      have HX := Lib.hid hcx
      have hc1 := hcx wr hbel
      have t1 := HH.out.1 k hlt
      have t2 := HH.out.2.1 k hlt
      have HK1 := Lib.hid fun W => HHA.out k hlt W
      have HK2 := Lib.hid fun W => HHB.out k hlt W
      rw [t1] at HK1
      rw [t2] at HK2
      unfold u64V at hc1 HX
      clear hcx hcell t1 t2
      generalize l.getD k 0 = g at *
      have s1 : (k : Int) < (l.length : Int) := by omega
      go_wp2_with fail
      refine (HK1.out _).mono ?_
      rintro e w6 ⟨rfl, hb6⟩
      have hb7 := bj hbel hb6
      have hc2 := HX.out w6 hb7
      go_wp2_with fail
      refine (HK2.out _).mono ?_
      rintro e w8 ⟨rfl, hb8⟩
      have hb9 := bj hb7 hb8
      clear hbel hb6 hb7 hb8 hc1 hc2
      go_wp2
      go_roundw
      case rel => exact ⟨k + 1, hlt, by go_num, hb9⟩
      case measure => simp [intOf]; omega
    · obtain rfl : k = l.length := by omega
      have s1 : ¬ (l.length : Int) < (l.length : Int) := by omega
      obtain ⟨wz, rfl⟩ : ∃ wz, wz = wr := ⟨_, rfl⟩
      have HBZ := Lib.hid (bj HB5.out hbel)
      clear hbel
      go_wp2
      go_loopw [12] (fun ii wt => ∃ k : Nat, k ≤ sa.size ∧ ii = .int .i64 k ∧ Below wz.heap.size wz wt) (fun ii _ => sa.size - (intOf ii).toNat)
      case atStart => exact ⟨0, Nat.zero_le _, rfl, Below.refl _ _⟩
      case round =>
        obtain ⟨k, hk, rfl, hbel⟩ := hrel
        by_cases hlt : k < sa.size
        · have s1 : (k : Int) < (sa.size : Int) := by omega
          have s2 : k < sb.size := by omega
          have s3 : (k : Int) < (sb.size : Int) := by omega
          have ha8 := (sa[k]'hlt).toNat_lt
          have hb8 := (sb[k]'s2).toNat_lt
          have hA := u8_and_nat (sa[k]'hlt).toNat (sb[k]'s2).toNat ha8 hb8
          rw [HH.out.2.2 k hlt s2] at hA
          have e0 : (((sa[k]'hlt).toNat : Int) != ((sa[k]'hlt).toNat : Int)) = false := by simp
          go_wp2_with fail
          go_region
          go_wp2
          go_roundw
          case rel => exact ⟨k + 1, hlt, by go_num, hbel.drew⟩
          case measure => simp [intOf]; omega
        · obtain rfl : k = sa.size := by omega
          go_wp2_with fail
          refine (HE.out _).mono ?_
          rintro e w9 ⟨rfl, hb9⟩
          go_wp2
          go_ret
          exact ⟨rfl, bj HBZ.out (bj hbel hb9)⟩

theorem walk (w : World) (v : Value) (l : List Nat) (vm : Value) (m : List Nat) (x y : Int) (hv : RowOf u64V w v l) (wl : Words l) (hvm : RowOf u64V w vm m) (wm : Words m) (wx : (Lit.int .u8 x).wf = true) (wy : (Lit.int .u8 y).wf = true) :
    Calls Try.prog 5 #[v, vm, .agg #[.int .u8 x, .int .u8 y]] w fun e w' => e = .returned (.bool true) ∧ Below w.heap.size w w' := by
  by_cases h : l.length ≤ 60 ∧ m.length ≤ 20
  · obtain ⟨a, rfl, ha⟩ := u8_nat wx
    obtain ⟨b, rfl, hb⟩ := u8_nat wy
    exact short v vm l m a b w hv hvm wl wm ha hb h.1 h.2
  · exact long v vm l m x y w hv hvm (by omega)
end Go.Proofs.Ytdgcagcgboinpaa.BlHs
