/- The walk of annalistlaw03.HashesByte. -/
import Derived.Test.YtlhoomdmjkabfaaHashEx
import Derived.Test.YtlhoomdmjkabfaaBytes
namespace Go.Proofs.Ytlhoomdmjkabfaa.hashesByteW
open Go.RowKit
set_option linter.unusedVariables false

/-- One byte of a list is put against b. -/
def setB (l : List UInt8) (k b : Nat) : List UInt8 := l.set k (l.getD k 0 ^^^ UInt8.ofNat b)
theorem setB_length (l : List UInt8) (k b : Nat) : (setB l k b).length = l.length := List.length_set
theorem setB_row (l : List UInt8) (k b n : Nat) (hl : l.length = n) (hk : k < n) (hb : b < 256) (j : Nat) (hj : j < n) :
    (if j = k then Value.int .u8 (bits .xor .u8 ((l.getD k 0).toNat : Int) (b : Int)) else u8At l j) = u8At (setB l k b) j := by
  by_cases h : j = k
  · subst h
    rw [if_pos rfl, u8_xor_nat _ _ (UInt8.toNat_lt _) hb]
    unfold u8At setB
    have e : (l.set j (l.getD j 0 ^^^ UInt8.ofNat b)).getD j 0 = l.getD j 0 ^^^ UInt8.ofNat b := by
      rw [List.getD_eq_getElem?_getD (l := l.set j _), List.getElem?_set_self (by omega)]
      rfl
    rw [e, UInt8.toNat_xor, UInt8.toNat_ofNat', Nat.mod_eq_of_lt hb]
  · rw [if_neg h]
    unfold u8At setB
    rw [List.getD_eq_getElem?_getD, List.getD_eq_getElem?_getD (l := l.set k _), List.getElem?_set_ne (fun e => h e.symm)]
theorem xor_ne {c : UInt8} {b : Nat} (hb : b < 256) (h0 : b ≠ 0) : c ^^^ UInt8.ofNat b ≠ c := by
  intro h
  have h1 := congrArg UInt8.toNat h
  rw [UInt8.toNat_xor, UInt8.toNat_ofNat', Nat.mod_eq_of_lt hb] at h1
  exact h0 (hx_cancel (a := c.toNat) (by rw [h1, Nat.xor_zero]))
theorem setB_hash {x : Nat} (hx : x < 18446744073709551616) (x0 : x ≠ 0) (l : List UInt8) (k b : Nat) (hk : k < l.length) (hb : b < 256) (h0 : b ≠ 0) : hashH x (setB l k b) ≠ hashH x l := by
  have e1 : setB l k b = l.take k ++ (l.getD k 0 ^^^ UInt8.ofNat b) :: l.drop (k + 1) := by
    unfold setB
    rw [List.set_eq_take_append_cons_drop, if_pos hk]
  have e2 : l = l.take k ++ l.getD k 0 :: l.drop (k + 1) := by
    have h1 := List.take_append_drop k l
    rw [List.drop_eq_getElem_cons hk] at h1
    have h2 : l.getD k 0 = l[k] := by rw [List.getD_eq_getElem?_getD, List.getElem?_eq_getElem hk]; rfl
    rw [h2, h1]
  rw [e1]
  have h := hashH_byte hx x0 (l.take k) (l.drop (k + 1)) _ _ (xor_ne (c := l.getD k 0) hb h0)
  rw [← e2] at h
  exact h

theorem other (x : Nat) (s : ByteArray) (a b : Nat) (hs : s.size ≤ maxLen) (h : s.size = 0 ∨ 500 < s.size ∨ x = 0 ∨ b = 0) (w : World) :
    Calls Try.prog 4 #[.int .u64 (x : Nat), .string s, .agg #[.int .u8 (a : Nat), .int .u8 (b : Nat)]] w fun e w' => e = .returned (.bool true) ∧ Below w.heap.size w w' := by
  unfold maxLen at hs
  have hal := (Below.refl w.heap.size w).alloc (Nat.le_refl _) (Obj.cells #[Value.int .u8 (a : Nat), Value.int .u8 (b : Nat)] 27)
  have go : ∀ (c0 c2 c3 : Bool), ((s.size : Int) == 0) = c0 → ((x : Int) == 0) = c2 → ((b : Int) == 0) = c3 → (c0 = true ∨ 500 < s.size ∨ c2 = true ∨ c3 = true) →
      Calls Try.prog 4 #[.int .u64 (x : Nat), .string s, .agg #[.int .u8 (a : Nat), .int .u8 (b : Nat)]] w fun e w' => e = .returned (.bool true) ∧ Below w.heap.size w w' := by
    intro c0 c2 c3 e0 e2 e3 hb
    have Hh := Lib.hid h
    clear h
    by_cases h1 : 500 < s.size
    · clear hb
      cases c0 <;> cases c2 <;> cases c3
      all_goals
        go_enter Try.func4, Try.ntmps4
        go_wp2_with fail
        refine (hashed_true _).mono ?_
        rintro e w' ⟨rfl, rfl⟩
        go_wp2
        go_ret
        exact ⟨rfl, hal⟩
    · have hb' : c0 = true ∨ c2 = true ∨ c3 = true := by
        rcases hb with hb | hb | hb
        · exact Or.inl hb
        · exact absurd hb h1
        · exact Or.inr hb
      clear hb
      cases c0 <;> cases c2 <;> cases c3
      all_goals try (exfalso; simp at hb'; done)
      all_goals
        clear hb'
        go_enter Try.func4, Try.ntmps4
        go_wp2_with fail
        refine (hashed_true _).mono ?_
        rintro e w' ⟨rfl, rfl⟩
        go_wp2
        go_ret
        exact ⟨rfl, hal⟩
  refine go _ _ _ rfl rfl rfl ?_
  rcases h with h | h | h | h
  · exact Or.inl (by rw [h]; rfl)
  · exact Or.inr (Or.inl h)
  · exact Or.inr (Or.inr (Or.inl (by rw [h]; rfl)))
  · exact Or.inr (Or.inr (Or.inr (by rw [h]; rfl)))

/-- The array's cells, behind the text's bytes. -/
theorem at_cell (w : World) (s : ByteArray) (a b : Value) (i : Nat) (hi : i < 2) :
    (bytesIn 5 (w.alloc (Obj.cells #[a, b] 27)) s).cell? ⟨w.heap.size, i, none⟩ = some (if i = 0 then a else b) := by
  have hs : (w.alloc (Obj.cells #[a, b] 27)).heap = w.heap.push (Obj.cells #[a, b] 27) := rfl
  have hb := bytesIn_below 5 (w0 := w.alloc (Obj.cells #[a, b] 27)) (w := w.alloc (Obj.cells #[a, b] 27)) s (Below.refl _ _)
  have e := hb.block w.heap.size (by rw [hs]; simp)
  rw [hs] at e
  unfold World.cell?
  rw [e]
  have h1 : i = 0 ∨ i = 1 := by omega
  rcases h1 with rfl | rfl <;> simp

theorem tmod_nat (a n : Nat) : (a : Int) % (n : Int) = ((a % n : Nat) : Int) := rfl

set_option maxHeartbeats 1000000 in
theorem short (x : Nat) (s : ByteArray) (a b : Nat) (hx : x < 18446744073709551616) (x0 : x ≠ 0) (n0 : s.size ≠ 0) (hs : s.size ≤ 500) (ha : a < 256) (hb : b < 256) (b0 : b ≠ 0) (w : World) :
    Calls Try.prog 4 #[.int .u64 (x : Nat), .string s, .agg #[.int .u8 (a : Nat), .int .u8 (b : Nat)]] w fun e w' => e = .returned (.bool true) ∧ Below w.heap.size w w' := by
  have e0 : ((s.size : Int) == 0) = false := beq_eq_false_iff_ne.2 (by omega)
  have e2 : ((x : Int) == 0) = false := by simp; omega
  have e3 : ((b : Int) == 0) = false := by simp; omega
  have h1 := Lib.hid (fun w => hash_any x s w hx (by unfold maxLen; omega))
  have hk0 := tmod_nat a s.size
  have hk := Nat.mod_lt a (show 0 < s.size by omega)
  generalize a % s.size = k at *
  have hl : s.data.toList.length = s.size := Array.length_toList
  have hd := setB_hash hx x0 s.data.toList k b (by omega) hb b0
  have h2 := fun w => hash_any x (bs (setB s.data.toList k b)) w hx (by rw [bs_size, setB_length, hl]; unfold maxLen; omega)
  have q : (bs (setB s.data.toList k b)).data.toList = setB s.data.toList k b := by simp [bs]
  rw [q] at h2
  clear q
  have hrow0 := fun W => bytesIn_row 5 W s
  have hbel0 := fun (W : World) => bytesIn_below 5 (w0 := w) (w := W) s
  have hconv := fun W => conv_in W s
  have hst := Lib.hid (fun j hj => setB_row s.data.toList k b s.size hl hk hb j hj)
  have hlen := Lib.hid ((setB_length s.data.toList k b).trans hl)
  generalize hashH x s.data.toList = r1 at *
  generalize hashH x (setB s.data.toList k b) = r2 at *
  have hne : ((r2 : Int) != (r1 : Int)) = true := by simp; omega
  have H2 := Lib.hid h2
  have Hrow0 := Lib.hid hrow0
  have Hbel0 := Lib.hid hbel0
  clear h2 hrow0 hbel0 hd hl
  have hc0 : (bytesIn 5 (w.alloc (Obj.cells #[Value.int .u8 (a : Nat), Value.int .u8 (b : Nat)] 27)) s).cell? ⟨w.heap.size, 0, none⟩ = some (.int .u8 (a : Nat)) := at_cell w s _ _ 0 (by decide)
  have hc1 : (bytesIn 5 (w.alloc (Obj.cells #[Value.int .u8 (a : Nat), Value.int .u8 (b : Nat)] 27)) s).cell? ⟨w.heap.size, 1, none⟩ = some (.int .u8 (b : Nat)) := at_cell w s _ _ 1 (by decide)
  go_enter Try.func4, Try.ntmps4
  have hsz : (w.alloc (Obj.cells #[Value.int .u8 (a : Nat), Value.int .u8 (b : Nat)] 27)).heap.size = w.heap.size + 1 := Array.size_push _
  have hal := (Below.refl w.heap.size w).alloc (Nat.le_refl _) (Obj.cells #[Value.int .u8 (a : Nat), Value.int .u8 (b : Nat)] 27)
  have hbel := Lib.hid (Hbel0.out _ hal)
  have hrow1 := Hrow0.out (w.alloc (Obj.cells #[Value.int .u8 (a : Nat), Value.int .u8 (b : Nat)] 27))
  rw [hsz] at hrow1
  have hrow := Lib.hid hrow1
  clear hrow1 Hrow0 Hbel0 hal hsz
  go_wp2_with fail
  rw [hk0]
  clear hk0 hconv
  generalize bytesIn 5 (w.alloc (Obj.cells #[Value.int .u8 (a : Nat), Value.int .u8 (b : Nat)] 27)) s = w2 at *
  generalize grownCap (w.alloc (Obj.cells #[Value.int .u8 (a : Nat), Value.int .u8 (b : Nat)] 27)) s.size 0 5 = cap at *
  have hcell := hrow.out.cell (i := k) hk
  have hfz := hrow.out.frozen (i := k) hk
  have s1 : (k : Int) < (s.size : Int) := by omega
  unfold u8At at hcell
  generalize (s.data.toList.getD k 0) = z at *
  go_region
  have hrow3 := ((hrow.out.set k (Value.int .u8 (bits .xor .u8 (z.toNat : Int) (b : Int)))).congr (fun j hj => hst.out j hj)).drew
  have hbel3 := (hbel.out.setCell (p := ⟨w.heap.size + 1, k, none⟩) (Nat.le_succ _) (Value.int .u8 (bits .xor .u8 (z.toNat : Int) (b : Int)))).drew
  clear hcell hfz hrow hbel hc0 hc1 hst
  generalize (w2.setCell ⟨w.heap.size + 1, k, none⟩ (Value.int .u8 (bits .xor .u8 (z.toNat : Int) (b : Int)))).drew = w3 at *
  have hcv : (convert 28 9 (.slice (some ⟨w.heap.size + 1, 0, none⟩) s.size cap)).run Try.prog w3 = .ok (.string (bs (setB s.data.toList k b))) w3 := conv_out hrow3 hlen.out cap
  clear hrow3 hlen
  generalize bs (setB s.data.toList k b) = t at *
  go_wp2_with fail
  refine (H2.out _).mono ?_
  rintro e w' ⟨rfl, rfl⟩
  go_wp2_with fail
  refine (h1.out _).mono ?_
  rintro e w' ⟨rfl, rfl⟩
  go_wp2_with fail
  refine (hashed_true _).mono ?_
  rintro e w' ⟨rfl, rfl⟩
  go_wp2
  go_ret
  exact ⟨rfl, hbel3⟩

theorem walk (a0 : Int) (a1 : ByteArray) (a2 b2 : Int) (w0 : (Lit.int .u64 a0).wf = true) (w1 : a1.size ≤ maxLen) (wa2 : (Lit.int .u8 a2).wf = true) (wb2 : (Lit.int .u8 b2).wf = true) (w : World) :
    Calls Try.prog 4 #[.int .u64 a0, .string a1, .agg #[.int .u8 a2, .int .u8 b2]] w fun e w' => e = .returned (.bool true) ∧ Below w.heap.size w w' := by
  obtain ⟨x, rfl, hx⟩ := u64_nat w0
  obtain ⟨a, rfl, ha⟩ := u8_nat wa2
  obtain ⟨b, rfl, hb⟩ := u8_nat wb2
  by_cases h : a1.size = 0 ∨ 500 < a1.size ∨ x = 0 ∨ b = 0
  · exact other x a1 a b w1 h w
  · exact short x a1 a b hx (by omega) (by omega) (by omega) ha hb (by omega) w
end Go.Proofs.Ytlhoomdmjkabfaa.hashesByteW
