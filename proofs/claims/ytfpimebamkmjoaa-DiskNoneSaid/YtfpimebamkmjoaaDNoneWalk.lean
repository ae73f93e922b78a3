/- DiskNone: the walk. -/
import Derived.Test.YtfpimebamkmjoaaDNone
import Derived.Test.YtfpimebamkmjoaaDApi
import Derived.Test.YtfpimebamkmjoaaDiskSinks
import Derived.Test.YtfpimebamkmjoaaActsGreat
namespace Go.Proofs.Ytfpimebamkmjoaa.noneOf
open Go.RowKit
set_option linter.unusedVariables false

/-- The act's cells in a block. -/
def Boxed (B : Nat) (x : ActS) (kA : Option Addr) (kc : Nat) (w : World) : Prop := Blok w B 34 #[.int .u8 (x.kind : Nat), .string x.name, .string x.dest, .string x.text, .int .i64 x.place, .int .i64 x.n, .slice kA x.keep.length kc]
/-- A turn of the loop. -/
def Turn (w : World) (B : Nat) (x : ActS) (kA : Option Addr) (kc : Nat) (p : Value) (wr : World) : Prop := Says 47 #[p] wr (.bool true) ∧ Boxed B x kA kc wr ∧ Touch [] w wr
/-- A list of one act. -/
theorem acts_one (W : World) (x : ActS) : ActsIn (W.alloc (.cells #[.int .u8 (x.kind : Nat), .string x.name, .string x.dest, .string x.text, .int .i64 x.place, .int .i64 x.n, x.keepV] 34)) (.slice (some ⟨W.heap.size, 0, none⟩) 1 1) [x] := by
  refine Or.inr ⟨W.heap.size, 0, 1, rfl, Nat.le_refl _, by unfold maxLen; omega, by simp, fun i y hy j u hu => ?_⟩
  cases i with
  | zero =>
    obtain rfl : x = y := by simpa using hy
    have hb := Blok.new W 34 #[.int .u8 (x.kind : Nat), .string x.name, .string x.dest, .string x.text, .int .i64 x.place, .int .i64 x.n, x.keepV]
    rw [Nat.zero_mul, Nat.zero_add, Nat.zero_add, hb.cell j, ← hu]
    exact List.getElem?_toArray (xs := actCells x) (i := j)
  | succ i => simp at hy
theorem act_later {w W : World} {x : ActS} (hx : ActOk w x) (hT : Touch [] w W) : ActOk W x := ⟨hx.kind, hx.name, hx.dest, hx.text, hx.place, hx.n, hx.keep.touch hT (fun b _ => by simp)⟩
set_option maxRecDepth 100000 in
set_option maxHeartbeats 8000000 in
theorem walk (w : World) (x : ActS) (hx : ActOk w x) : Calls Try.prog 4 #[actB x] w fun e w' => e = .returned (.bool true) ∧ Below w.heap.size w w' := by
  obtain ⟨kA, ko, kc, hkv, mk, -⟩ := hx.keep.cell
  have ht1 : Touch [] w (w.alloc (.cells #[.int .u8 (x.kind : Nat), .string x.name, .string x.dest, .string x.text, .int .i64 x.place, .int .i64 x.n, .slice kA x.keep.length kc] 34)) := (Touch.refl [] w).alloc _
  have hg0 := great_any _ [x] 1 _ (acts_one (w.alloc (.cells #[.int .u8 (x.kind : Nat), .string x.name, .string x.dest, .string x.text, .int .i64 x.place, .int .i64 x.n, .slice kA x.keep.length kc] 34)) x) (fun y hy => by
    obtain rfl : y = x := by simpa using hy
    exact act_later hx (ht1.alloc _)) (by decide)
  rw [hkv] at hg0
  have hsz : (w.alloc (.cells #[.int .u8 (x.kind : Nat), .string x.name, .string x.dest, .string x.text, .int .i64 x.place, .int .i64 x.n, .slice kA x.keep.length kc] 34)).heap.size = w.heap.size + 1 := by simp
  rw [hsz] at hg0
  have hg := Lib.hid hg0
  unfold actB
  rw [hkv]
  have hbx := Blok.new w 34 #[.int .u8 (x.kind : Nat), .string x.name, .string x.dest, .string x.text, .int .i64 x.place, .int .i64 x.n, .slice kA x.keep.length kc]
  have hbx2 := hbx.alloc (.cells #[.int .u8 (x.kind : Nat), .string x.name, .string x.dest, .string x.text, .int .i64 x.place, .int .i64 x.n, .slice kA x.keep.length kc] 34)
  have HT1 := Lib.hid (ht1.alloc (.cells #[.int .u8 (x.kind : Nat), .string x.name, .string x.dest, .string x.text, .int .i64 x.place, .int .i64 x.n, .slice kA x.keep.length kc] 34))
  have HBX := Lib.hid hbx2
  clear ht1 hbx hbx2 hkv hg0 hx mk hsz
  generalize greatS [x] 1 = gr at *
  go_enter Try.func4, Try.ntmps4
  go_wp2_with fail
  refine hg.out.mono ?_
  rintro e w' ⟨rfl, rfl⟩
  clear hg
  cases gr
  case true =>
    have hsk := Lib.hid (sinks_true api (((w.alloc (.cells #[.int .u8 (x.kind : Nat), .string x.name, .string x.dest, .string x.text, .int .i64 x.place, .int .i64 x.n, .slice kA x.keep.length kc] 34))).alloc (.cells #[.int .u8 (x.kind : Nat), .string x.name, .string x.dest, .string x.text, .int .i64 x.place, .int .i64 x.n, .slice kA x.keep.length kc] 34)))
    go_wp2_with fail
    refine hsk.out.mono ?_
    rintro e w2 ⟨rfl, hb⟩
    have HB := Lib.hid hb
    clear hb hsk
    go_wp2
    go_ret
    exact ⟨rfl, HT1.out.below (Nat.le_refl _) (fun x hx => by cases hx) |>.trans (HB.out.mono HT1.out.size)⟩
  generalize hW : ((w.alloc (.cells #[.int .u8 (x.kind : Nat), .string x.name, .string x.dest, .string x.text, .int .i64 x.place, .int .i64 x.n, .slice kA x.keep.length kc] 34))).alloc (.cells #[.int .u8 (x.kind : Nat), .string x.name, .string x.dest, .string x.text, .int .i64 x.place, .int .i64 x.n, .slice kA x.keep.length kc] 34) = W at *
  have HN0 := Lib.hid (none_nil W)
  clear hW
  generalize w.heap.size = B at *
  go_wp2_with fail
  go_loopw [3, 4] (fun p i wr => ∃ k : Nat, k ≤ 2 ∧ i = .int .i64 k ∧ Turn w B x kA kc p wr) (fun _ i _ => 2 - (intOf i).toNat)
  case atStart => exact ⟨0, by omega, rfl, HN0.out, HBX.out, HT1.out⟩
  case round =>
    obtain ⟨k, hk, rfl, hT⟩ := hrel
    have hN := Lib.hid hT.1
    have hB := hT.2.1
    have HT := Lib.hid hT.2.2
    have HBO := Lib.hid hB
    obtain ⟨c1, c2, c3, c4, c5, c6⟩ : wr.cell? ⟨B, 1, none⟩ = some (.string x.name) ∧ wr.cell? ⟨B, 2, none⟩ = some (.string x.dest) ∧ wr.cell? ⟨B, 3, none⟩ = some (.string x.text) ∧ wr.cell? ⟨B, 4, none⟩ = some (.int .i64 x.place) ∧ wr.cell? ⟨B, 5, none⟩ = some (.int .i64 x.n) ∧ wr.cell? ⟨B, 6, none⟩ = some (.slice kA x.keep.length kc) := ⟨hB.cell 1, hB.cell 2, hB.cell 3, hB.cell 4, hB.cell 5, hB.cell 6⟩
    clear hT hB
    by_cases hlt : k < 2
    · have l1 : (k : Int) < 2 := by omega
      have k0 := Lib.hid (read_nil hN.out x.name x.place x.n)
      have k1 := Lib.hid (size_nil hN.out x.name)
      have k2 := Lib.hid (create_nil hN.out x.name)
      have k3 := Lib.hid (append_nil hN.out x.name x.text)
      have k4 := Lib.hid (sync_nil hN.out x.name)
      have k5 := Lib.hid (rename_nil hN.out x.name x.dest)
      have k6 := Lib.hid (delete_nil hN.out x.name)
      have k7 := Lib.hid (names_nil hN.out)
      have k8 := Lib.hid (unsynced_nil hN.out)
      have k9 := Lib.hid (free_nil hN.out)
      have k10 := Lib.hid (reads_nil hN.out)
      have k11 := Lib.hid (starts_nil hN.out)
      have k12 := Lib.hid (up_nil hN.out)
      have k13 := Lib.hid (crash_nil hN.out kA x.keep.length kc)
      have k14 := Lib.hid (start_nil hN.out)
      have k15 := Lib.hid (fail_nil hN.out x.n kA x.keep.length kc)
      have k16 := Lib.hid (spoil_nil hN.out x.name x.place x.text)
      have k17 := Lib.hid (cut_nil hN.out x.name x.n)
      go_wp2_with fail
      refine k0.out.mono ?_
      rintro e w' ⟨rfl, rfl⟩
      clear k0
      go_wp2_with fail
      refine k1.out.mono ?_
      rintro e w' ⟨rfl, rfl⟩
      clear k1
      go_wp2_with fail
      refine k2.out.mono ?_
      rintro e w' ⟨rfl, rfl⟩
      clear k2
      go_wp2_with fail
      refine k3.out.mono ?_
      rintro e w' ⟨rfl, rfl⟩
      clear k3
      go_wp2_with fail
      refine k4.out.mono ?_
      rintro e w' ⟨rfl, rfl⟩
      clear k4
      go_wp2_with fail
      refine k5.out.mono ?_
      rintro e w' ⟨rfl, rfl⟩
      clear k5
      go_wp2_with fail
      refine k6.out.mono ?_
      rintro e w' ⟨rfl, rfl⟩
      clear k6
      go_wp2_with fail
      refine k7.out.mono ?_
      rintro e w' ⟨rfl, rfl⟩
      clear k7
      go_wp2_with fail
      refine k8.out.mono ?_
      rintro e w' ⟨rfl, rfl⟩
      clear k8
      go_wp2_with fail
      refine k9.out.mono ?_
      rintro e w' ⟨rfl, rfl⟩
      clear k9
      go_wp2_with fail
      refine k10.out.mono ?_
      rintro e w' ⟨rfl, rfl⟩
      clear k10
      go_wp2_with fail
      refine k11.out.mono ?_
      rintro e w' ⟨rfl, rfl⟩
      clear k11
      go_wp2_with fail
      refine k12.out.mono ?_
      rintro e w' ⟨rfl, rfl⟩
      clear k12
      go_wp2_with fail
      refine k13.out.mono ?_
      rintro e w' ⟨rfl, rfl⟩
      clear k13
      go_wp2_with fail
      refine k14.out.mono ?_
      rintro e w' ⟨rfl, rfl⟩
      clear k14
      go_wp2_with fail
      refine k15.out.mono ?_
      rintro e w' ⟨rfl, rfl⟩
      clear k15
      go_wp2_with fail
      refine k16.out.mono ?_
      rintro e w' ⟨rfl, rfl⟩
      clear k16
      go_wp2_with fail
      refine k17.out.mono ?_
      rintro e w' ⟨rfl, rfl⟩
      clear k17
      have HN2 := Lib.hid (none_bare (w := wr.alloc (.cells #[.pointer none, .int .i64 0, .map none, .bool false, .int .i64 0, .int .i64 0, .pointer none] 59)) (g := wr.heap.size) ((Blok.new wr _ _).cell 0))
      go_wp2
      go_roundw
      case rel => exact ⟨k + 1, by omega, by go_num, HN2.out, HBO.out.alloc _, HT.out.alloc _⟩
      case measure => simp [intOf]; omega
    · have l1 : decide ((k : Int) < 2) = false := decide_eq_false (by omega)
      have hsk := Lib.hid (sinks_true api wr)
      go_wp2_with fail
      refine hsk.out.mono ?_
      rintro e w2 ⟨rfl, hb⟩
      have HB := Lib.hid hb
      clear hb hsk
      go_wp2
      go_ret
      exact ⟨rfl, (HT.out.below (Nat.le_refl _) (fun x hx => by cases hx)).trans (HB.out.mono HT.out.size)⟩
end Go.Proofs.Ytfpimebamkmjoaa.noneOf
