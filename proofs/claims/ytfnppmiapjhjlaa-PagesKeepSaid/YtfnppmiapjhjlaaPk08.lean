/- PgHeadRef -/
import Derived.Test.YtfnppmiapjhjlaaPk07
/- PgHeadRef -/
namespace Go.Proofs.Ytfnppmiapjhjlaa
open Go.RowKit
set_option linter.unusedVariables false

theorem conv_blk {W : World} {b : Nat} {t : TypeId} {cs : Array Value} (l : List UInt8) (h : Blok W b t cs) (hl : cs = (l.map fun c => Value.int .u8 (c.toNat : Int)).toArray) (k : Nat) (hk : l.length = k) (cap : Nat) : (convert 36 9 (.slice (some ⟨b, 0, none⟩) k cap)).run Try.prog W = .ok (.string (bs l)) W := by
  subst hk
  refine run_convert_bytes_back (P := Try.prog) _ 36 9 5 ⟨b, 0, none⟩ cap l Try.underlying36 Try.underlying5 Try.underlying9 (fun j hj => ?_)
  have e : (⟨b, 0, none⟩ : Addr).add j = ⟨b, j, none⟩ := by simp [Addr.add]; omega
  rw [e, h.cell j, hl, List.getElem?_toArray, List.getElem?_map, List.getElem?_eq_getElem hj]
  rfl

set_option maxHeartbeats 20000000 in
theorem headr_any (n p : Nat) (w : World) (hn : n < 4294967296) (hp : p < 256) :
    Calls Try.prog 27 #[.int .i64 (n : Nat), .int .i64 (p : Nat)] w fun e w' => e = .returned (.string (hdP n p)) ∧ Below w.heap.size w w' := by
  have H2 := Lib.hid fun W => show Calls Try.prog 42 #[.int .u64 (n : Nat), .int .i64 4] W _ from putr_some n 4 W (by omega) (by omega) (by omega)
  obtain ⟨Z, hZ⟩ : ∃ Z : Array Value, madeCells #[Value.int .u8 0] 52 = Z := ⟨_, rfl⟩
  have hZ1 := run_make_row' (P := Try.prog) 36 5 (.int .u8 0) 1 Try.underlying36 (by kernel_rfl) rfl .i64 .i64 52 (by omega) (by omega)
  rw [hZ] at hZ1
  have z1 : (bs [UInt8.ofNat p]).size = 1 := by rw [bs_size]; rfl
  have z2 : (bs (be 4 n)).size = 4 := by rw [bs_size, be_length]
  have z3 : (bs (List.replicate 52 0)).size = 52 := by rw [bs_size, List.length_replicate]
  have a1 : ∀ W : World, (Op.stringOp .add ⟨#[98, 108, 109]⟩ (bs [UInt8.ofNat p])).run Try.prog W = .ok (.string ((⟨#[98, 108, 109]⟩ : ByteArray) ++ bs [UInt8.ofNat p])) W := fun W => run_string_add_sum (P := Try.prog) (w := W) _ _ (by rw [z1]; decide)
  have z4 : ((⟨#[98, 108, 109]⟩ : ByteArray) ++ bs [UInt8.ofNat p]).size = 4 := by rw [ByteArray.size_append, z1]; rfl
  have a2 : ∀ W : World, (Op.stringOp .add ((⟨#[98, 108, 109]⟩ : ByteArray) ++ bs [UInt8.ofNat p]) (bs (be 4 n))).run Try.prog W = .ok (.string ((⟨#[98, 108, 109]⟩ : ByteArray) ++ bs [UInt8.ofNat p] ++ bs (be 4 n))) W := fun W => run_string_add_sum (P := Try.prog) (w := W) _ _ (by rw [z4, z2]; decide)
  have z5 : ((⟨#[98, 108, 109]⟩ : ByteArray) ++ bs [UInt8.ofNat p] ++ bs (be 4 n)).size = 8 := by rw [ByteArray.size_append, z4, z2]
  have e5 : (⟨#[98, 108, 109]⟩ : ByteArray) ++ bs [UInt8.ofNat p] ++ bs (be 4 n) ++ bs (List.replicate 52 0) = bs (hdL n p) := by
    have e0 : (⟨#[98, 108, 109]⟩ : ByteArray) = bs [98, 108, 109] := rfl
    rw [e0, bs_append, bs_append, bs_append]
    unfold hdL
    simp
  have a3 : ∀ W : World, (Op.stringOp .add ((⟨#[98, 108, 109]⟩ : ByteArray) ++ bs [UInt8.ofNat p] ++ bs (be 4 n)) (bs (List.replicate 52 0))).run Try.prog W = .ok (.string (bs (hdL n p))) W := fun W => by rw [← e5]; exact run_string_add_sum (P := Try.prog) (w := W) _ _ (by rw [z5, z3]; decide)
  have H4 := Lib.hid fun W => seal_ref (bs (hdL n p)) W (by rw [bs_size, hdL_length]; decide)
  have hE : hdP n p = sealS (bs (hdL n p)) := rfl
  rw [← hE] at H4
  have c1 := fun (W : World) (b : Nat) (t : TypeId) (h : Blok W b t #[.int .u8 (p : Nat)]) => conv_blk [UInt8.ofNat p] h (by simp [Nat.mod_eq_of_lt hp]) 1 rfl 1
  have c2 := fun (W : World) (b : Nat) (t : TypeId) (h : Blok W b t Z) => show (convert 36 9 (.slice (some ⟨b, 0, none⟩) 52 52)).run Try.prog W = .ok (.string (bs (List.replicate 52 0))) W from conv_blk (List.replicate 52 0) h (hZ.symm.trans (by kernel_rfl)) 52 rfl 52
  have C1 := Lib.hid c1
  have C2 := Lib.hid c2
  obtain ⟨O, hO⟩ : ∃ O : Obj, .cells #[.int .u8 (p : Nat)] 5 = O := ⟨_, rfl⟩
  obtain ⟨M, hM⟩ : ∃ M : Obj, .cells Z 5 = M := ⟨_, rfl⟩
  have n1 : ∀ X : World, Blok (X.alloc O) X.heap.size 5 #[.int .u8 (p : Nat)] := fun X => by rw [← hO]; exact Blok.new X _ _
  have n2 : ∀ X : World, Blok (X.alloc M) X.heap.size 5 Z := fun X => by rw [← hM]; exact Blok.new X _ _
  have sz : ∀ (X : World) (o : Obj), (X.alloc o).heap.size = X.heap.size + 1 := fun X o => by simp
  have m1 : ∀ (X : World) (o : Obj), Blok ((X.alloc o).alloc O) (X.heap.size + 1) 5 #[.int .u8 (p : Nat)] := fun X o => by rw [← sz X o]; exact n1 _
  have m2 : ∀ (X : World) (o : Obj), Blok ((X.alloc o).alloc M) (X.heap.size + 1) 5 Z := fun X o => by rw [← sz X o]; exact n2 _
  have F0 := Lib.hid (show ∀ w', Below w.drew.heap.size w.drew w' → Hid (Below w.heap.size w w') from fun w' hb => Lib.hid ⟨hb.os, hb.tape, hb.output, hb.size, hb.block⟩)
  have F1 := Lib.hid (show ∀ w', Below (w.alloc O).drew.heap.size (w.alloc O).drew w' → Hid (Below w.heap.size w w') ∧ _ ∧ _ from fun w' hb => ⟨Lib.hid (bj ((Below.refl _ w).alloc (Nat.le_refl _) O).drew hb), C1.out _ _ _ (Blok.after (n1 w).drew hb), fun o => C1.out _ _ _ ((Blok.after (n1 w).drew hb).alloc o)⟩)
  have F2 := Lib.hid (show ∀ w', Below (w.alloc M).drew.heap.size (w.alloc M).drew w' → Hid (Below w.heap.size w w') ∧ _ ∧ _ from fun w' hb => ⟨Lib.hid (bj ((Below.refl _ w).alloc (Nat.le_refl _) M).drew hb), C2.out _ _ _ (Blok.after (n2 w).drew hb), fun o => C2.out _ _ _ ((Blok.after (n2 w).drew hb).alloc o)⟩)
  have F3 := Lib.hid (show ∀ w', Below ((w.alloc O).alloc M).drew.heap.size ((w.alloc O).alloc M).drew w' → Hid (Below w.heap.size w w') ∧ _ ∧ _ from fun w' hb => ⟨Lib.hid (bj (((Below.refl _ w).alloc (Nat.le_refl _) O).alloc (by rw [sz]; omega) M).drew hb), C1.out _ _ _ (Blok.after ((n1 w).alloc M).drew hb), C2.out _ _ _ (Blok.after (m2 w O).drew hb)⟩)
  have F4 := Lib.hid (show ∀ w', Below ((w.alloc M).alloc O).drew.heap.size ((w.alloc M).alloc O).drew w' → Hid (Below w.heap.size w w') ∧ _ ∧ _ from fun w' hb => ⟨Lib.hid (bj (((Below.refl _ w).alloc (Nat.le_refl _) M).alloc (by rw [sz]; omega) O).drew hb), C2.out _ _ _ (Blok.after ((n2 w).alloc O).drew hb), C1.out _ _ _ (Blok.after (m1 w M).drew hb)⟩)
  have k2 := C1.out _ _ _ (n1 w).drew
  have k4 := C1.out _ _ _ ((n1 w).alloc M).drew
  have k6 := C1.out _ _ _ (m1 w M).drew
  have j2 := C2.out _ _ _ (n2 w).drew
  have j4 := C2.out _ _ _ ((n2 w).alloc O).drew
  have j6 := C2.out _ _ _ (m2 w O).drew
  have k1 := fun X => C1.out _ _ _ (n1 X)
  have k3 := fun X => C1.out _ _ _ ((n1 X).alloc M)
  have k5 := fun X => C1.out _ _ _ (m1 X M)
  have j1 := fun X => C2.out _ _ _ (n2 X)
  have j3 := fun X => C2.out _ _ _ ((n2 X).alloc O)
  have j5 := fun X => C2.out _ _ _ (m2 X O)
  clear n1 n2 m1 m2 sz
  rw [hM] at hZ1
  have hZ1 : ∀ w : World, (Instr.makeSlice 36 (.int .i64 52) (.int .i64 52)).run Try.prog w = .ok (.slice (some ⟨w.heap.size, 0, none⟩) 52 52) (w.alloc M) := hZ1
  clear e5 hE c1 c2
  generalize hdP n p = R at *
  generalize bs (hdL n p) = S60 at *
  generalize bs (List.replicate 52 0) = ZS at *
  generalize (⟨#[98, 108, 109]⟩ : ByteArray) ++ bs [UInt8.ofNat p] ++ bs (be 4 n) = S8 at *
  generalize (⟨#[98, 108, 109]⟩ : ByteArray) ++ bs [UInt8.ofNat p] = S4 at *
  generalize bs [UInt8.ofNat p] = P1 at *
  generalize bs (be 4 n) = N4 at *
  have q2 : IntKind.u64.wrap ((n : Nat) : Int) = (n : Nat) := IntWalk.u64_in _ ⟨by omega, by omega⟩
  have q5 : (n : Int) % 18446744073709551616 = (n : Int) := by omega
  have q6 : IntKind.u8.wrap ((p : Nat) : Int) = (p : Nat) := by rw [IntKind.wrap_u8]; omega
  have q7 : (p : Int) % 256 = (p : Int) := by omega
  clear z1 z2 z3 z4 z5 hZ
  go_enter Try.func27, Try.ntmps27
  go_wp2_with fail
  go_region_with (first
    | (go_at_call 42; (refine (H2.out _).mono ?_); rintro e w' ⟨rfl, hb⟩; go_must (first | (have hB := F0.out _ hb; clear hb) | (obtain ⟨hB, y1, y2⟩ := F1.out _ hb; clear hb) | (obtain ⟨hB, y1, y2⟩ := F2.out _ hb; clear hb) | (obtain ⟨hB, y1, y2⟩ := F3.out _ hb; clear hb) | (obtain ⟨hB, y1, y2⟩ := F4.out _ hb; clear hb)))
    | (go_at_call 28; (refine (H4.out _).mono ?_); rintro e w' ⟨rfl, hb4⟩)
    | fail)
  all_goals
    go_wp2
    go_ret
    refine ⟨rfl, bj ?_ hb4⟩
    first
    | exact hB.out
    | exact hB.out.alloc hB.out.size _
    | exact (hB.out.alloc hB.out.size _).alloc (hB.out.alloc hB.out.size _).size _
end Go.Proofs.Ytfnppmiapjhjlaa
