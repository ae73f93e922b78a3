/- The walk of BloomsLess. -/
import Derived.Test.YtdgcagcgboinpaaBlEx
import Derived.Test.YtdgcagcgboinpaaBlRef
import Derived.Test.YtdgcagcgboinpaaBytes
namespace Go.Proofs.Ytdgcagcgboinpaa.BlLs
open Go.RowKit
set_option linter.unusedVariables false

theorem off_bit : ∀ j : Fin 8, (255 - 2 ^ j.val).testBit j.val = false := by decide +kernel
/-- A byte with a bit turned off. -/
def offB (L : List UInt8) (k : Nat) : Nat := (L.getD (k / 8) 0).toNat &&& (255 - 2 ^ (k % 8))
theorem offB_lt (L : List UInt8) (k : Nat) : offB L k < 256 := and_lt8 (L.getD (k / 8) 0).toNat_lt
def offL (L : List UInt8) (k : Nat) : List UInt8 := L.set (k / 8) (UInt8.ofNat (offB L k))
theorem offL_length (L : List UInt8) (k : Nat) : (offL L k).length = L.length := by unfold offL; rw [List.length_set]
theorem offL_bit (L : List UInt8) (k : Nat) (hk : k / 8 < L.length) : bitL (offL L k) k = false := by
  unfold bitL offL
  rw [List.getD_eq_getElem?_getD, List.getElem?_set_self hk]
  have h := offB_lt L k
  have e : (UInt8.ofNat (offB L k)).toNat = offB L k := by rw [UInt8.toNat_ofNat']; omega
  show (UInt8.ofNat (offB L k)).toNat.testBit (k % 8) = false
  rw [e]
  unfold offB
  rw [Nat.testBit_and, off_bit ⟨k % 8, Nat.mod_lt _ (by decide)⟩, Bool.and_false]
theorem offL_at (L : List UInt8) (k i : Nat) (hi : i < L.length) : u8At (offL L k) i = if i = k / 8 then .int .u8 (offB L k : Nat) else u8At L i := by
  unfold u8At offL
  by_cases e : i = k / 8
  · subst e
    rw [if_pos rfl, List.getD_eq_getElem?_getD, List.getElem?_set_self hi]
    have h := offB_lt L k
    have e : (UInt8.ofNat (offB L k)).toNat = offB L k := by rw [UInt8.toNat_ofNat']; omega
    show Value.int .u8 ((UInt8.ofNat (offB L k)).toNat : Int) = _
    rw [e]
  · rw [if_neg e, List.getD_eq_getElem?_getD, List.getElem?_set_ne (fun h => e h.symm), List.getD_eq_getElem?_getD]
theorem bit_low1 (c k : Nat) : (((c : Int) / 2 ^ k).tmod 2 == 1) = c.testBit k := by
  have e : (c : Int) / 2 ^ k = ((c / 2 ^ k : Nat) : Int) := by rw [Int.natCast_ediv, Int.natCast_pow]; rfl
  have h := bit_shift (c := c) (k := k)
  rw [e]
  have e2 : ((c / 2 ^ k : Nat) : Int).tmod 2 = ((c / 2 ^ k % 2 : Nat) : Int) := (Int.ofNat_tmod _ 2).symm
  rw [e2]
  have hz2 := Nat.mod_lt (c / 2 ^ k) (by decide : 0 < 2)
  generalize c / 2 ^ k % 2 = z at *
  cases hb : c.testBit k with
  | true =>
    rw [hb] at h
    have := h.2 rfl
    subst this
    rfl
  | false =>
    rw [hb] at h
    have hz1 : ¬ z = 1 := fun e => by have := h.1 e; cases this
    have hz : z = 0 := by omega
    rw [hz]
    rfl
theorem has_zero (L : List UInt8) (g : Nat) : hasL L 0 g = true := by
  unfold hasL
  have e : asksL g 0 (8 * L.length : Nat) = [] := by
    unfold asksL
    rw [show nps 0 = 0 from rfl]
    rfl
  rw [e]
  simp
theorem has_nothing {n g : Nat} {p : Int} (hn : 0 < n) (hp : 1 ≤ p) : hasL (bytesL [] n) p g = false := by
  have hq := prb_lt g ((0 : Nat) : Int) (bits := ((8 * n : Nat) : Int)) (by omega)
  refine hasL_no (k := prb g ((0 : Nat) : Int) ((8 * n : Nat) : Int)) (by rw [bytesL_length]; exact hn) (by rw [bytesL_length]; exact asksL_mem.2 ⟨0, by unfold nps; omega, rfl⟩) ?_
  rw [bitL_bytes _ (by omega)]
  rfl

theorem long (v : Value) (l : List Nat) (g x y : Int) (w : World) (hv : RowOf u64V w v l) (hl : 60 < l.length) :
    Calls Try.prog 6 #[v, .int .u64 g, .agg #[.int .u8 x, .int .u8 y]] w fun e w' => e = .returned (.bool true) ∧ Below w.heap.size w w' := by
  obtain ⟨A, c, rfl⟩ := hv.form
  have HE := Lib.hid bloomed_true
  have hb0 : Below w.heap.size w (w.alloc (.cells #[.int .u8 x, .int .u8 y] 32)) := (Below.refl _ w).alloc (Nat.le_refl _) _
  have l1 : (60 : Int) < (l.length : Int) := by omega
  go_enter Try.func6, Try.ntmps6
  go_wp2_with fail
  refine (HE.out _).mono ?_
  rintro e w2 ⟨rfl, hb2⟩
  go_wp2
  go_ret
  exact ⟨rfl, bj hb0 hb2⟩

theorem two_bytes (w : World) (a b : Int) (t : TypeId) : (w.alloc (.cells #[.int .u8 a, .int .u8 b] t)).cell? ⟨w.heap.size, 0, none⟩ = some (.int .u8 a) ∧ (w.alloc (.cells #[.int .u8 a, .int .u8 b] t)).cell? ⟨w.heap.size, 1, none⟩ = some (.int .u8 b) := by
  have r : RowB (w.alloc (.cells #[.int .u8 a, .int .u8 b] t)) w.heap.size 2 (fun i => if i = 0 then .int .u8 a else .int .u8 b) := ⟨_, t, (0, 0), World.alloc_heap_new w _, Nat.le_refl _, Or.inl rfl, fun i hi => by
    match i, hi with
    | 0, _ => rfl
    | 1, _ => rfl⟩
  exact ⟨r.cell (i := 0) (by decide), r.cell (i := 1) (by decide)⟩

set_option maxHeartbeats 4000000 in
set_option maxRecDepth 100000 in
theorem short (v : Value) (l : List Nat) (g x y : Nat) (w : World) (hv : RowOf u64V w v l) (wl : Words l) (hg : g < 18446744073709551616) (hx : x < 256) (hy : y < 256) (hl : l.length ≤ 60) :
    Calls Try.prog 6 #[v, .int .u64 (g : Nat), .agg #[.int .u8 (x : Nat), .int .u8 (y : Nat)]] w fun e w' => e = .returned (.bool true) ∧ Below w.heap.size w w' := by
  obtain ⟨A, c, rfl⟩ := hv.form
  obtain ⟨w1, hw1⟩ : ∃ w1, w.alloc (.cells #[.int .u8 (x : Nat), .int .u8 (y : Nat)] 32) = w1 := ⟨_, rfl⟩
  have hB1 : Below w.heap.size w w1 := by rw [← hw1]; exact (Below.refl _ w).alloc (Nat.le_refl _) _
  have hlt1 : w.heap.size < w1.heap.size := by rw [← hw1]; simp
  obtain ⟨c0, c1⟩ : w1.cell? ⟨w.heap.size, 0, none⟩ = some (.int .u8 (x : Nat)) ∧ w1.cell? ⟨w.heap.size, 1, none⟩ = some (.int .u8 (y : Nat)) := by rw [← hw1]; exact two_bytes w x y _
  have HW1 := Lib.hid hw1
  have HC1 := Lib.hid c1
  have l1 : ¬ (60 : Int) < (l.length : Int) := by omega
  have HE := Lib.hid bloomed_true
  obtain ⟨p, hp⟩ : ∃ p, 1 + x % 16 = p := ⟨_, rfl⟩
  obtain ⟨n, hn⟩ : ∃ n, 1 + y % 64 = n := ⟨_, rfl⟩
  obtain ⟨m, hm⟩ : ∃ m, 8 * n = m := ⟨_, rfl⟩
  have hp20 : 1 ≤ p ∧ p ≤ 16 := by omega
  have hn0 : 0 < n ∧ n ≤ 64 := by omega
  have ex : 1 + (x : Int) % 16 = (p : Int) := by omega
  have ey : 8 * (1 + (y : Int) % 64) = (m : Int) := by omega
  have wp : (Lit.int .i64 (p : Nat)).wf = true := WalkArith.wf_i64 (by omega)
  have wmm : (Lit.int .i64 (m : Nat)).wf = true := WalkArith.wf_i64 (by omega)
  have hok : mkOk (m : Nat) = true := by unfold mkOk; exact decide_eq_true (by omega)
  have hV1 := hv.below hB1 (Nat.le_refl _)
  clear hw1
  go_enter Try.func6, Try.ntmps6
  go_wp2_with fail
  rw [HW1.out]
  clear hv
  go_region
  try simp only [ex]
  try simp only [ey]
  have hbd : Below w1.heap.size w1 w1.drew := (Below.refl _ w1).drew
  obtain ⟨wd, hwd⟩ : ∃ wd, w1.drew = wd := ⟨_, rfl⟩
  rw [hwd] at hbd ⊢
  have HBD := Lib.hid (bj hB1 hbd)
  have HCW := Lib.hid ((hbd.cell (p := ⟨w.heap.size, 1, none⟩) hlt1).trans HC1.out)
  have hltd : w.heap.size < wd.heap.size := Nat.lt_of_lt_of_le hlt1 hbd.size
  have HM1 := Lib.hid (make_any _ l p m wd (hV1.below hbd (Nat.le_refl _)) wl (by omega) wp wmm)
  have HM0 := Lib.hid fun W => make_any (.slice none 0 0) [] p m W (row_nil W) (fun z hz => by cases hz) (by simp) wp wmm
  clear hV1 hbd hwd c0 c1 HW1 HC1
  have hL := makeL_yes (l := l) (p := p) hok
  have hL0 := makeL_yes (l := []) (p := p) hok
  have hmn : m / 8 = n := by omega
  rw [Int.toNat_natCast, hmn] at hL hL0
  rw [setL_nil] at hL0
  rw [hL] at HM1
  rw [hL0] at HM0
  obtain ⟨L, hLe⟩ : ∃ L, bytesL (setL l p m) n = L := ⟨_, rfl⟩
  have hln : L.length = n := by rw [← hLe, bytesL_length]
  rw [hLe] at HM1
  have hsn : (bs (bytesL [] n)).size = n := by rw [bs_size, bytesL_length]
  have hno := has_nothing (n := n) (g := g) (p := p) hn0.1 (by omega)
  obtain ⟨s0, hs0⟩ : ∃ s0, bs (bytesL [] n) = s0 := ⟨_, rfl⟩
  have hts : s0.data.toList = bytesL [] n := by rw [← hs0]; rfl
  rw [hs0] at HM0 hsn
  have HH0 := Lib.hid fun W => has_any p g s0 W hg wp (by omega)
  rw [hts, hno] at HH0
  clear hL hL0 hLe hs0 hts hno hsn
  go_wp2_with fail
  refine HM1.out.mono ?_
  rintro e w2 ⟨rfl, hb2⟩
  have hcv := conv_in w2 (bs L)
  have hrow := bytesIn_row 5 w2 (bs L)
  have hb3 : Below w2.heap.size w2 (bytesIn 5 w2 (bs L)) := bytesIn_below 5 (bs L) (Below.refl _ _)
  obtain ⟨cap, hcap⟩ : ∃ cap, grownCap w2 (bs L).size 0 5 = cap := ⟨_, rfl⟩
  obtain ⟨w3, hw3⟩ : ∃ w3, bytesIn 5 w2 (bs L) = w3 := ⟨_, rfl⟩
  have hsz : (bs L).size = n := by rw [bs_size, hln]
  have hbl : (bs L).data.toList = L := rfl
  rw [hcap, hw3, hsz] at hcv
  rw [hw3, hsz, hbl] at hrow
  rw [hw3] at hb3
  obtain ⟨B, hB⟩ : ∃ B, w2.heap.size = B := ⟨_, rfl⟩
  rw [hB] at hcv hrow
  have hBlt : wd.heap.size ≤ B := by rw [← hB]; exact hb2.size
  have HB3 := Lib.hid (bj hb2 hb3)
  obtain ⟨sa, hsa⟩ : ∃ sa, (⟨L.toArray⟩ : ByteArray) = sa := ⟨_, rfl⟩
  have hsl : sa.data.toList = L := by rw [← hsa]
  have hss : sa.size = n := by rw [← hln, ← hsl, Array.length_toList]; rfl
  have HCV := Lib.hid fun W (hW : Below w3.heap.size w3 W) => conv_out (hrow.below hW) hln cap
  rw [hsa] at HCV
  have HHP := Lib.hid fun W => has_any p g sa W hg wp (by omega)
  have HHZ := Lib.hid fun W => has_any 0 g sa W hg (by decide) (by omega)
  rw [hsl] at HHP HHZ
  rw [has_zero] at HHZ
  have hO : hasL L p g = (asksTo g (m : Nat) p).all (bitL L) := by
    rw [hasL_pos (by omega)]
    have e1 : ((8 * L.length : Nat) : Int) = (m : Nat) := by omega
    have e2 : nps (p : Int) = p := by unfold nps; omega
    rw [e1, ← asksTo_all, e2]
  rw [hO] at HHP
  have HP := Lib.hid fun (k : Nat) (hk : k ≤ 16) W => probe_any g (k : Nat) (m : Nat) W hg (WalkArith.wf_i64 (by omega)) wmm
  have es : 8 * (n : Int) = (m : Int) := by omega
  have HR := Lib.hid hrow
  have HSA := Lib.hid (And.intro hsa (And.intro hsl hss))
  clear hrow hcap hw3 hsz hbl hB hb2 hb3 hsa hsl hss hO
  go_wp2_with fail
  go_loop [10, 11] (fun o ii => ∃ k : Nat, k ≤ p ∧ ii = .int .i64 k ∧ o = .bool ((asksTo g (m : Nat) k).all (bitL L))) (fun _ ii => p - (intOf ii).toNat)
  case atStart => exact ⟨0, Nat.zero_le _, rfl, rfl⟩
  case round =>
    obtain ⟨k, hk, rfl, rfl⟩ := hrel
    by_cases hlt : k < p
    · have s1 : (k : Int) < (p : Int) := by omega
      have HK := Lib.hid fun W => HP.out k (by omega) W
      have hq := prb_lt g (k : Nat) (show (1 : Int) ≤ (m : Nat) by omega)
      have hall : (asksTo g (m : Nat) (k + 1)).all (bitL L) = ((asksTo g (m : Nat) k).all (bitL L) && bitL L (prb g (k : Nat) (m : Nat))) := by
        rw [asksTo_succ, List.all_append]
        simp
      obtain ⟨q, hqe⟩ : ∃ q, prb g (k : Nat) (m : Nat) = q := ⟨_, rfl⟩
      rw [hqe] at HK hq hall
      have HALL := Lib.hid hall
      have hqm : (q : Int) < (m : Int) := by omega
      obtain ⟨z, hz⟩ : ∃ z, q / 8 = z := ⟨_, rfl⟩
      have hzn : z < n := by omega
      have s2 : (z : Int) < (n : Int) := by omega
      have s3 : IntKind.i64.wrap ((q : Int) / 8) = (z : Int) := by rw [IntKind.wrap_i64]; omega
      have hc := HR.out.cell hzn
      unfold u8At at hc
      have hlow := bit_low1 (L.getD z 0).toNat (q % 8)
      have hbq : (L.getD z 0).toNat.testBit (q % 8) = bitL L q := by unfold bitL; rw [hz]
      rw [hbq] at hlow
      generalize bitL L q = t at *
      obtain ⟨cv, hcv2⟩ : ∃ cv, (L.getD z 0).toNat = cv := ⟨_, rfl⟩
      rw [hcv2] at hc hlow
      clear hall hqe hz hbq hcv2
      generalize (asksTo g (m : Nat) k).all (bitL L) = o at *
      cases o
      · go_wp2_with fail
        refine (HK.out _).mono ?_
        rintro e w' ⟨rfl, rfl⟩
        go_wp2
        go_round
        case rel => exact ⟨k + 1, hlt, by go_num, by rw [HALL.out]; rfl⟩
        case measure => simp [intOf]; omega
      · go_wp2_with fail
        refine (HK.out _).mono ?_
        rintro e w' ⟨rfl, rfl⟩
        go_wp2
        go_round
        case rel => exact ⟨k + 1, hlt, by go_num, by rw [HALL.out]; rfl⟩
        case measure => simp [intOf]; omega
    · obtain rfl : p = k := by omega
      generalize (asksTo g (m : Nat) p).all (bitL L) = o at *
      have e0 : (o != o) = false := by simp
      have hcv1 := HCV.out w3 (Below.refl _ _)
      go_wp2_with fail
      refine (HHP.out _).mono ?_
      rintro e w4 ⟨rfl, hb4⟩
      go_wp2_with fail
      refine (HM0.out _).mono ?_
      rintro e w5 ⟨rfl, hb5⟩
      go_wp2_with fail
      refine (HH0.out _).mono ?_
      rintro e w6 ⟨rfl, hb6⟩
      have hb36 := bj (bj hb4 hb5) hb6
      have hcv6 := HCV.out w6 hb36
      go_wp2_with fail
      refine (HHZ.out _).mono ?_
      rintro e w7 ⟨rfl, hb7⟩
      have hb37 := bj hb36 hb7
      have hrow7 := HR.out.below hb37
      have hbd7 := bj HB3.out hb37
      have hcy := (hbd7.cell (p := ⟨w.heap.size, 1, none⟩) hltd).trans HCW.out
      obtain ⟨r, hr⟩ : ∃ r, y % p = r := ⟨_, rfl⟩
      have hrp : r < p := by rw [← hr]; exact Nat.mod_lt _ (by omega)
      have HK := Lib.hid fun W => HP.out r (by omega) W
      have hq := prb_lt g (r : Nat) (show (1 : Int) ≤ (m : Nat) by omega)
      have hmem : prb g (r : Nat) (m : Nat) ∈ asksL g p (m : Nat) := asksL_mem.2 ⟨r, by unfold nps; omega, rfl⟩
      obtain ⟨q, hqe⟩ : ∃ q, prb g (r : Nat) (m : Nat) = q := ⟨_, rfl⟩
      rw [hqe] at HK hq hmem
      have t1 : ((p : Int) == 0) = false := beq_eq_false_iff_ne.2 (by omega)
      have t2 : (y : Int) % (p : Int) = (r : Int) := by rw [← hr]; rfl
      have HF := Lib.hid (And.intro hrow7 (And.intro hbd7 hmem))
      clear hb4 hb5 hb6 hb7 hb36 hcv1 hcv6 hrow7 hbd7 hb37 hmem hqe
      go_wp2_with fail
      refine (HK.out _).mono ?_
      rintro e w8 ⟨rfl, rfl⟩
      have hqm : q < m := by omega
      obtain ⟨z, hz⟩ : ∃ z, q / 8 = z := ⟨_, rfl⟩
      have hzn : z < n := by omega
      have s2 : (z : Int) < (n : Int) := by omega
      have s3 : IntKind.i64.wrap ((q : Int) / 8) = (z : Int) := by rw [IntKind.wrap_i64]; omega
      have hc := HF.out.1.cell hzn
      have hfz := HF.out.1.frozen hzn
      unfold u8At at hc
      have hc8 := (L.getD z 0).toNat_lt
      have hoff : (L.getD z 0).toNat &&& (255 - 2 ^ (q % 8)) = offB L q := by unfold offB; rw [hz]
      have hoffl := offB_lt L q
      have hm8 := pow8_lt (Nat.mod_lt q (by decide) : q % 8 < 8)
      have e2 : (2 : Int) ^ (q % 8) = ((2 ^ (q % 8) : Nat) : Int) := by rw [Int.natCast_pow]; rfl
      have p1 : (2 : Int) ^ (q % 8) % 256 = ((2 ^ (q % 8) : Nat) : Int) := by
        rw [e2]
        generalize (2 ^ (q % 8) : Nat) = zz at hm8 ⊢
        omega
      have p2 : IntKind.u8.wrap ((2 : Int) ^ (q % 8)) = ((2 ^ (q % 8) : Nat) : Int) := by rw [IntKind.wrap_u8]; exact p1
      obtain ⟨mk, hmk⟩ : ∃ mk, 2 ^ (q % 8) = mk := ⟨_, rfl⟩
      obtain ⟨cv, hcv⟩ : ∃ cv, (L.getD z 0).toNat = cv := ⟨_, rfl⟩
      obtain ⟨nb, hnb⟩ : ∃ nb, offB L q = nb := ⟨_, rfl⟩
      rw [hmk] at p1 p2 hm8 hoff
      rw [hcv] at hc hc8 hoff
      rw [hnb] at hoff hoffl
      have hA := u8_andNot_nat cv mk hc8 hm8
      rw [hoff] at hA
      have hrs := (HF.out.1.set z (.int .u8 (nb : Int))).congr (g := u8At (offL L q)) fun i hi => by
        rw [offL_at L q i (by omega), hz, hnb]
      have hbs := HF.out.2.1.setCell (p := ⟨B, z, none⟩) hBlt (.int .u8 (nb : Int))
      have hnof : hasL (offL L q) p g = false := by
        have e1 : ((8 * (offL L q).length : Nat) : Int) = (m : Nat) := by rw [offL_length]; omega
        refine hasL_no (k := q) (by rw [offL_length]; omega) ?_ (offL_bit L q (by omega))
        rw [e1]
        exact HF.out.2.2
      have hcvo := conv_out hrs.drew (by rw [offL_length]; exact hln) cap
      obtain ⟨so, hso⟩ : ∃ so, (⟨(offL L q).toArray⟩ : ByteArray) = so := ⟨_, rfl⟩
      have hsol : so.data.toList = offL L q := by rw [← hso]
      have hsos : so.size = n := by
        have h := Array.length_toList (xs := so.data)
        rw [hsol, offL_length] at h
        exact h.symm.trans hln
      rw [hso] at hcvo
      have HHO := Lib.hid fun W => has_any p g so W hg wp (by omega)
      rw [hsol, hnof] at HHO
      have HB := Lib.hid hbs
      clear e2 hmk hcv hnb hoff hrs hbs hnof hso hsol hcy
      go_wp2_with fail
      go_region
      go_wp2_with fail
      refine (HHO.out _).mono ?_
      rintro e w9 ⟨rfl, hb9⟩
      go_wp2_with fail
      refine (HE.out _).mono ?_
      rintro e wx ⟨rfl, hbx⟩
      go_wp2
      go_ret
      exact ⟨rfl, bj HBD.out (bj HB.out.drew (bj hb9 hbx))⟩

theorem walk (w : World) (v : Value) (l : List Nat) (g x y : Int) (hv : RowOf u64V w v l) (wl : Words l) (wg : (Lit.int .u64 g).wf = true) (wx : (Lit.int .u8 x).wf = true) (wy : (Lit.int .u8 y).wf = true) :
    Calls Try.prog 6 #[v, .int .u64 g, .agg #[.int .u8 x, .int .u8 y]] w fun e w' => e = .returned (.bool true) ∧ Below w.heap.size w w' := by
  by_cases h : l.length ≤ 60
  · obtain ⟨a, rfl, ha⟩ := u8_nat wx
    obtain ⟨b, rfl, hb⟩ := u8_nat wy
    obtain ⟨k, rfl, hk⟩ := u64_nat wg
    exact short v l k a b w hv wl hk ha hb h
  · exact long v l g x y w hv (by omega)
end Go.Proofs.Ytdgcagcgboinpaa.BlLs
