/- ZnIxOpen, ZnIxIl, ZnIxFresh, ZnIxEx0, ZnIxEx, ZnIxNoneWalk -/
import Derived.Test.YtcpfkaehefcakaaGreatPn49
import Derived.Test.YtcpfkaehefcakaaGreatPn42
import Derived.Test.YtcpfkaehefcakaaGreatPn39
import Derived.Test.YtcpfkaehefcakaaGreatPn47
import Derived.Test.YtcpfkaehefcakaaGreatPn21
import Derived.Test.YtcpfkaehefcakaaGreatPn05
import Derived.Test.YtcpfkaehefcakaaGreatPn15
import Derived.Test.YtcpfkaehefcakaaGreatPn09
import Derived.Test.YtcpfkaehefcakaaGreatPn24
import Derived.Test.YtcpfkaehefcakaaGreatPn41
namespace Go.Proofs.YtcpfkaehefcakaaGreat
open Go.RowKit Go.Shelf
set_option linter.unusedVariables false
set_option maxRecDepth 100000
section
variable {w : World} {n c : Int} {d : Nat} {v : Value}
theorem xopen_nil (hs : Says 33 #[.pointer none, .string ⟨#[]⟩] (w.alloc (manO n c d v)) (.tuple #[.int .i64 0, .int .i64 1])) (r : Nat) :
    Calls Tryz.prog 8 #[.pointer none, manV n c d v, .float .f64 r] w fun e w' => e = .returned (.tuple #[.pointer none, .int .i64 1]) ∧ Below w.heap.size w w' := by
  unfold Says at hs
  have HS := Lib.hid hs
  have hb := (Below.refl w.heap.size w).alloc (Nat.le_refl _) (manO n c d v)
  clear hs
  unfold manV
  go_enter Tryz.func8, Tryz.ntmps8
  go_wp2_with fail
  refine HS.out.mono ?_
  rintro e w' ⟨rfl, rfl⟩
  go_wp2
  go_ret2
  exact ⟨rfl, hb⟩
end
theorem irow_cell {w : World} {base i n c : Nat} {A : Option Addr} {l : List Int} {x : Int} (h : IRow w base (.slice A n c) l) (hx : l[i]? = some x) : ∃ b, A = some ⟨b, 0, none⟩ ∧ w.cell? ⟨b, i, none⟩ = some (.int .i64 x) := by
  have hlt := (List.getElem?_eq_some_iff.1 hx).1
  obtain ⟨A', cap, e, h1, h2, h3, h4⟩ := own_form h
  obtain ⟨rfl, rfl, e3⟩ := Value.slice.inj e
  obtain ⟨b, rfl, hb, hbw⟩ := h3 (by omega)
  have h' : w.ownsRow base 3 1 (.slice (some ⟨b, 0, none⟩) l.length c) l.length _ := h
  refine ⟨b, rfl, (h'.cellAt i (by omega)).trans ?_⟩
  show (l.map _)[i]? = _
  rw [List.getElem?_map, hx]
  rfl
def OpenXEnd (At : Lies) (w0 : World) (gd r : Nat) (m : ManS) (D : DiskS) (E : List Nat) (w : World) (e : Ending) (w' : World) : Prop :=
  (∃ gx T j, e = .returned (.tuple #[ptr gx, .int .i64 0]) ∧ T.map (fun t => (t.n : Int)) = m.lv.flatten ∧ (∀ t ∈ T, HasT D t.n t.l ∧ keepsP t.t t.l = true) ∧ j ≤ 2 * m.lv.flatten.length ∧ IxAt At w0 gd gx r ⟨m, T, []⟩ { D with count := D.count + j } E w' ∧ Kept E w w') ∨
  (∃ n j, n ∈ m.lv.flatten ∧ openE D n ≠ 0 ∧ j ≤ 2 * m.lv.flatten.length ∧ e = .returned (.tuple #[.pointer none, err (openE D n)]) ∧ DS At w0 gd { D with count := D.count + j } E w' ∧ Kept E w w')
section
variable {At : Lies} (api : DiskApi At) (nap : NamesApi) {w0 w : World} {gd r : Nat} {D : DiskS} {E : List Nat} {n c : Int} {d : Nat} {A : Option Addr} {cp : Nat} {R : LvL}
include api
theorem xopen_no (h : DS At w0 gd D E w) (wf : WfP D) (hv : LvsHas w (.slice A R.length cp) R) (hl : R.flatten.length ≤ 100000) (hL : R.length ≤ 100000) (hq : mayM ⟨n, c, d, R⟩ = false ∨ D.down = true) :
    Calls Tryz.prog 8 #[ptr gd, manV n c d (.slice A R.length cp), .float .f64 r] w fun e w' => e = .returned (.tuple #[.pointer none, err (if mayM ⟨n, c, d, R⟩ = true then 61 else 2)]) ∧ DS At w0 gd D E w' ∧ Kept E w w' := by
  have hb := (Below.refl w.heap.size w).alloc (Nat.le_refl _) (manO n c d (.slice A R.length cp))
  have HB := Lib.hid hb
  have HS := Lib.hid ((h.below api hb).size api wf ⟨#[]⟩ (by decide))
  have HV := Lib.hid (mval_any n c d A R.length cp R _ (hv.below hb (Nat.le_refl _)) hl hL)
  have hsz := sizeS_two D ⟨#[]⟩
  have HD := Lib.hid h
  obtain ⟨k, hk⟩ : ∃ k, k = R.length := ⟨_, rfl⟩
  unfold manV at HV ⊢
  rw [← hk] at HV HS HB ⊢
  have HK := Lib.hid hk
  clear h hb hv hl hL hk
  have t1 : ((sizeS D ⟨#[]⟩).2 : Int) = 1 ↔ False := by
    refine ⟨fun q => ?_, False.elim⟩
    rcases hsz with ⟨-, e⟩ | ⟨-, e | e⟩ <;> rw [e] at q <;> omega
  cases hm : mayM ⟨n, c, d, R⟩ with
  | false =>
    rw [hm] at HV
    generalize (sizeS D ⟨#[]⟩).2 = z2 at *
    generalize (sizeS D ⟨#[]⟩).1 = z1 at *
    have t2 : ((z2 : Int) == 1) = false := by simpa using (fun q => t1.1 q)
    clear hm hq hsz t1
    go_enter Tryz.func8, Tryz.ntmps8
    go_wp2_with fail
    refine HS.out.mono ?_
    rintro e w' ⟨rfl, rfl⟩
    go_wp2_with fail
    refine HV.out.mono ?_
    rintro e w1 ⟨rfl, hb1⟩
    have HB1 := Lib.hid (bj HB.out hb1)
    clear hb1
    go_wp2
    go_ret2
    exact ⟨rfl, HD.out.below api HB1.out, Kept.of_below HB1.out HD.out.lt⟩
  | true =>
    have hd : D.down = true := hq.resolve_left (by rw [hm]; decide)
    have e2 : sizeS D ⟨#[]⟩ = (0, 61) := hsz.elim (fun q => q.2) (fun q => by rw [hd] at q; cases q.1)
    rw [e2] at HS
    rw [hm] at HV
    clear hm hq hsz t1 e2 hd
    go_enter Tryz.func8, Tryz.ntmps8
    go_wp2_with fail
    refine HS.out.mono ?_
    rintro e w' ⟨rfl, rfl⟩
    go_wp2_with fail
    refine HV.out.mono ?_
    rintro e w1 ⟨rfl, hb1⟩
    have HB1 := Lib.hid (bj HB.out hb1)
    clear hb1
    go_wp2
    go_ret2
    exact ⟨rfl, HD.out.below api HB1.out, Kept.of_below HB1.out HD.out.lt⟩
def OpLp (At : Lies) (w0 : World) (gd gx r gm : Nat) (m : ManS) (lv : Value) (rv : Value) (D : DiskS) (E : List Nat) (w : World) (k : Nat) (tv : Value) (wr : World) : Prop :=
  ∃ ps T Gk j, OpAt At w0 gd gx r gm m lv tv ps T Gk { D with count := D.count + j } (ownL rv ++ E) wr ∧ T.map (fun t => (t.n : Int)) = m.lv.flatten.take k ∧ (∀ t ∈ T, HasT D t.n t.l ∧ keepsP t.t t.l = true) ∧ j ≤ 2 * k ∧ Kept E w wr ∧ IRow wr w.heap.size rv m.lv.flatten
theorem open_start {w1 w2 w3 w4 w5 : World} {m : ManS} {v : Value} {k0 cp2 : Nat} {A2 : Option Addr} {rv : Value} (h : DS At w0 gd D E w) (hb : Below w.heap.size w (w.alloc (manO n c d v))) (h1 : Below (w.alloc (manO n c d v)).heap.size (w.alloc (manO n c d v)) w1) (h2 : Below w1.heap.size w1 w2)
    (hl : LvsNew w2 w1.heap.size (.slice A2 k0 cp2) m.lv) (h3 : Below w2.heap.size w2 w3) (ht : TabAt w3 w2.heap.size w2.heap.size [w2.heap.size] []) (hg : w2.heap.size < w3.heap.size)
    (hx : Blok w4 w3.heap.size 67 #[.pointer none, ptr gd, .int .i64 m.next, .int .i64 m.check, .int .u64 (m.seed : Nat), .slice A2 k0 cp2, .slice none 0 0, .float .f64 r, mtp w2.heap.size]) (h4 : Below w3.heap.size w3 w4) (hz : w4.heap.size = w3.heap.size + 1) (h5 : IRow w5 w4.heap.size rv m.lv.flatten) (hb5 : Below w4.heap.size w4 w5) :
    OpLp At w0 gd w3.heap.size r w2.heap.size m (.slice A2 k0 cp2) rv D E w 0 (.slice none 0 0) w5 := by
  obtain ⟨G2, hg2, hlv⟩ := hl.keep
  have s0 := hb.size
  have s1 := h1.size
  have s2 := h2.size
  have s3 := h3.size
  have s5 := hb5.size
  have hall := bj hb (bj h1 (bj h2 (bj h3 (bj h4 hb5))))
  have hrow : ∀ b ∈ ownL rv, w4.heap.size ≤ b ∧ b < w5.heap.size := fun b hb => h5.lt b (ownL_mem.1 hb)
  have hE := h.lt
  have hbase := h.kept.size
  have hn : ownL (.slice none 0 0) = [] := rfl
  have k2 := Kept.of_below (E := G2) (bj h3 (bj h4 hb5)) (fun b hb => (hg2 b hb).2)
  have k3 := Kept.of_below (E := [w2.heap.size]) (bj h4 hb5) (fun b hb => by rw [List.mem_singleton.1 hb]; exact hg)
  have hds : DS At w0 gd D ([w2.heap.size] ++ ((w3.heap.size :: ownL (.slice none 0 0)) ++ (G2 ++ (ownL rv ++ E)))) w5 := by
    refine ((h.more api hall (B := [w2.heap.size] ++ ([w3.heap.size] ++ (G2 ++ ownL rv))) (fun b hb => ?_)).less (fun b hb => ?_))
    · rcases List.mem_append.1 hb with q | q
      · rw [List.mem_singleton.1 q]; omega
      · rcases List.mem_append.1 q with q | q
        · rw [List.mem_singleton.1 q]; omega
        · rcases List.mem_append.1 q with q | q
          · have := hg2 b q; omega
          · have := hrow b q; omega
    · rw [hn] at hb
      simp only [List.mem_append, List.mem_cons, List.not_mem_nil, or_false] at hb ⊢
      rcases hb with q | q | q | q | q <;> simp [q]
  have hGk : ∀ b ∈ G2, b ∉ ownL rv ++ E := fun b hb hm => by
    have := hg2 b hb
    rcases List.mem_append.1 hm with q | q
    · have := hrow b q; omega
    · have := hE b q; omega
  have hgx : w3.heap.size ∉ ownL rv ++ E := fun hm => by
    rcases List.mem_append.1 hm with q | q
    · have := hrow _ q; omega
    · have := hE _ q; omega
  have hgm : w2.heap.size ∉ ownL rv ++ E := fun hm => by
    rcases List.mem_append.1 hm with q | q
    · have := hrow _ q; omega
    · have := hE _ q; omega
  refine ⟨[], [], G2, 0, ⟨hds, hx.below hb5, (hlv.step k2), PRow.nil _ _, (TabsAt.nil _ _).more (fun b hb => by cases hb), (ht.keep (E := [w2.heap.size]) k3 (fun b hb => hb)).low (by omega), ⟨?_, ?_, hgm⟩, ?_, hGk, by omega⟩, by simp, (fun t ht => by cases ht), Nat.le_refl _, Kept.of_below hall hE, h5.down (by omega)⟩
  · rw [hn]
    intro hm
    have := List.mem_singleton.1 hm
    omega
  · intro hm
    have := hg2 _ hm
    omega
  · rw [hn]
    intro b hb
    rw [List.mem_singleton.1 hb]
    exact ⟨fun hm => by have := hg2 _ hm; omega, hgx⟩
include nap in
set_option maxHeartbeats 1000000 in
theorem xopen_run (h : DS At w0 gd D E w) (wf : WfP D) (hd : D.down = false) (hc : D.count ≤ 999990000) (hv : LvsHas w (.slice A R.length cp) R) (hm : MayM ⟨n, c, d, R⟩) (hop : ∀ x ∈ R.flatten, openE D x = 0 → (tgL (rdW D (ptT x)).1).length ≤ 10000) :
    Calls Tryz.prog 8 #[ptr gd, manV n c d (.slice A R.length cp), .float .f64 r] w (OpenXEnd At w0 gd r ⟨n, c, d, R⟩ D E w) := by
  have hfl : R.flatten.length ≤ 40 := hm.2.2.2.2.1.2.1
  have hL5 : R.length ≤ 5 := hm.2.2.2.2.1.1
  have hnum : ∀ x ∈ R.flatten, 0 ≤ x ∧ x < 1000000 := fun x hx => ⟨hm.2.2.2.2.1.2.2.1 x hx, by have := hm.2.2.2.2.2 x hx; have := hm.2.1; show x < 1000000; simp only at *; omega⟩
  have hb := (Below.refl w.heap.size w).alloc (Nat.le_refl _) (manO n c d (.slice A R.length cp))
  have hbx : Blok (w.alloc (manO n c d (.slice A R.length cp))) w.heap.size 38 #[.int .i64 n, .int .i64 c, .int .u64 (d : Nat), .slice A R.length cp] := Blok.new _ _ _
  have HBX := Lib.hid hbx
  have HB := Lib.hid hb
  have HS := Lib.hid ((h.below api hb).size api wf ⟨#[]⟩ (by decide))
  have hv1 := hv.below hb (Nat.le_refl _)
  have HV := Lib.hid (mval_any n c d A R.length cp R _ hv1 (by omega) (by omega))
  have HCP := Lib.hid (fun W (hW : Below (w.alloc (manO n c d (.slice A R.length cp))).heap.size (w.alloc (manO n c d (.slice A R.length cp))) W) => xcopied_any n c d A cp R W (hv1.below hW (Nat.le_refl _)) (by omega) (by omega))
  have HALL := Lib.hid (fun W (hW : Below (w.alloc (manO n c d (.slice A R.length cp))).heap.size (w.alloc (manO n c d (.slice A R.length cp))) W) => lall_any _ R W (hv1.below hW (Nat.le_refl _)) (by omega) (by omega))
  have e1 : mayM ⟨n, c, d, R⟩ = true := decide_eq_true hm
  rw [e1] at HV
  have hz : (((sizeS D ⟨#[]⟩).2 : Int) == 1) = false ∧ (((sizeS D ⟨#[]⟩).2 : Int) == 61) = false := by
    rcases sizeS_two D ⟨#[]⟩ with ⟨q, -⟩ | ⟨-, e | e⟩
    · rw [hd] at q; cases q
    · rw [e]; exact ⟨by decide, by decide⟩
    · rw [e]; exact ⟨by decide, by decide⟩
  obtain ⟨hz1, hz2⟩ := hz
  have HWF := Lib.hid wf
  have HOT := Lib.hid (fun (W : World) (E' : List Nat) (j : Nat) (x : Int) (hj : j ≤ 80) (hx : x ∈ R.flatten) (hW : DS At w0 gd { D with count := D.count + j } E' W) => (show Calls Tryz.prog 38 #[ptr gd, .int .i64 x] W (OpenTEnd At w0 gd x { D with count := D.count + j } E' W) from by
    have := hnum x hx
    have hs := rdW_same D (D.count + j) (ptT x) hd
    refine popen_all api nap hW ⟨wf.synced, wf.used, wf.cap, wf.many⟩ (by show D.count + j ≤ _; omega) x (WalkArith.wf_i64 (by omega)) (fun ho => ?_)
    rw [hs.1]
    exact hop x hx ((openE_same D _ x hd).1.symm.trans ho)))
  have HNUM := Lib.hid hnum
  have HSAME := Lib.hid (fun k x => openE_same D k x hd)
  have HRD := Lib.hid (fun k x => rdW_same D k (ptT x) hd)
  have HHAS := Lib.hid (fun x (hx : openE D x = 0) => open_has hd hx)
  have HD := Lib.hid h
  obtain ⟨k0, hk0⟩ : ∃ k0, k0 = R.length := ⟨_, rfl⟩
  unfold ManEnd at HCP
  unfold manV at HV HCP ⊢
  rw [← hk0] at HV HS HB HBX HCP HALL ⊢
  have HK0 := Lib.hid hk0
  obtain ⟨ns, hns⟩ : ∃ ns, ns = R.flatten := ⟨_, rfl⟩
  have HNS := Lib.hid hns
  unfold IntsOut at HALL
  obtain ⟨N, hN⟩ : ∃ N, N = ns.length := ⟨_, rfl⟩
  have hN40 : N ≤ 40 := by rw [hN, hns]; exact hfl
  have HNN := Lib.hid hN
  rw [← hns] at HALL
  rw [← hN] at HALL
  clear h hb hbx hv hv1 hk0 hL5 hfl hnum wf hm hop e1 hd hns hN
  generalize (sizeS D ⟨#[]⟩).2 = z2 at *
  generalize (sizeS D ⟨#[]⟩).1 = z1 at *
  go_enter Tryz.func8, Tryz.ntmps8
  go_wp2_with fail
  refine HS.out.mono ?_
  rintro e w' ⟨rfl, rfl⟩
  go_wp2_with fail
  refine HV.out.mono ?_
  rintro e w1 ⟨rfl, hb1⟩
  have HB1 := Lib.hid hb1
  have B1 := Lib.hid (HBX.out.below hb1)
  obtain ⟨c0, c1, c2, c3⟩ := four_cells B1.out
  clear hb1
  go_wp2_with fail
  refine (HCP.out w1 HB1.out).mono ?_
  rintro e w2 ⟨A2, cp2, rfl, hl2, hb2⟩
  have HL2 := Lib.hid hl2
  have HB2 := Lib.hid hb2
  clear hl2 hb2
  go_wp2_with fail
  refine (tnew_any w2).mono ?_
  rintro e w3 ⟨rfl, ht3, hb3, hg3⟩
  have HT3 := Lib.hid ht3
  have HB3 := Lib.hid hb3
  have HG3 := Lib.hid hg3
  clear ht3 hb3 hg3
  have HBA := Lib.hid (bj HB1.out (bj HB2.out HB3.out))
  have hb4 := (Below.refl w3.heap.size w3).alloc (Nat.le_refl _) (.cells #[.pointer none, ptr gd, .int .i64 n, .int .i64 c, .int .u64 (d : Nat), .slice A2 k0 cp2, .slice none 0 0, .float .f64 r, mtp w2.heap.size] 67)
  have HX4 := Lib.hid (Blok.new w3 67 #[.pointer none, ptr gd, .int .i64 n, .int .i64 c, .int .u64 (d : Nat), .slice A2 k0 cp2, .slice none 0 0, .float .f64 r, mtp w2.heap.size])
  have HB4 := Lib.hid hb4
  have HA4 := Lib.hid (HALL.out _ (bj HBA.out HB4.out))
  have hsz4 : (w3.alloc (.cells #[.pointer none, ptr gd, .int .i64 n, .int .i64 c, .int .u64 (d : Nat), .slice A2 k0 cp2, .slice none 0 0, .float .f64 r, mtp w2.heap.size] 67)).heap.size = w3.heap.size + 1 := by simp
  have HSZ4 := Lib.hid hsz4
  have c3' := (((HBX.out.below (bj HB1.out HB2.out)).below HB3.out).below hb4).cell 3
  obtain ⟨w4, hw4⟩ : ∃ w4, w4 = w3.alloc (.cells #[.pointer none, ptr gd, .int .i64 n, .int .i64 c, .int .u64 (d : Nat), .slice A2 k0 cp2, .slice none 0 0, .float .f64 r, mtp w2.heap.size] 67) := ⟨_, rfl⟩
  rw [← hw4] at HX4 HB4 HA4 HSZ4
  clear hsz4 hb4 c0 c1 c2 c3 HALL HCP HV HS
  have HW4 := Lib.hid hw4
  clear hw4
  go_wp2_with fail
  rw [← HW4.out]
  refine HA4.out.mono ?_
  rintro e w5 ⟨A7, c7, rfl, r7, b7⟩
  have HLP : Hid (OpLp At w0 gd w3.heap.size r w2.heap.size ⟨n, c, d, R⟩ (.slice A2 k0 cp2) (.slice A7 N c7) D E w 0 (.slice none 0 0) w5) := Lib.hid (open_start api HD.out (by rw [HNS.out, ← HNN.out] at *; exact HB.out) HB1.out HB2.out HL2.out HB3.out HT3.out HG3.out HX4.out HB4.out HSZ4.out (by rw [← HNS.out]; exact r7) b7)
  clear c3' HBX HB HB1 B1 HB2 HL2 HB3 HT3 HG3 HX4 HB4 HSZ4 HBA HA4 HW4 r7 b7 HD
  generalize w3.heap.size = gx at *
  generalize w2.heap.size = gm at *
  go_wp2
  go_loopg [43] N (fun g i wr => ∃ (k : Nat) (tv : Value), k + g = N ∧ i = .int .i64 k ∧ OpLp At w0 gd gx r gm ⟨n, c, d, R⟩ (.slice A2 k0 cp2) (.slice A7 N c7) D E w k tv wr)
  case atStart => exact ⟨0, _, by omega, rfl, HLP.out⟩
  case round =>
    obtain ⟨k, tv, hkg, rfl, hL⟩ := hrel
    have HL := Lib.hid hL
    clear hL HLP
    cases gk with
    | zero =>
      obtain rfl : k = N := by omega
      have s1 : ¬ (k : Int) < (k : Int) := by omega
      obtain ⟨ps, T, Gk, j, hO, hT, hH, hj, hK, hR⟩ := HL.out
      have HO := Lib.hid (hO.made api)
      have f0 := hO.blok.frozen 0
      have q0 := hO.blok.cell 0
      have HT := Lib.hid (show T.map (fun t => (t.n : Int)) = R.flatten from by rw [hT]; show List.take k R.flatten = _; rw [← HNS.out, HNN.out, List.take_length])
      have HH := Lib.hid hH
      have HK := Lib.hid hK
      have HJ : Hid (j ≤ 2 * R.flatten.length) := Lib.hid (by rw [← HNS.out, ← HNN.out]; exact hj)
      clear hO hT hH hj hK hR HL
      go_wp2
      go_ret2
      exact Or.inl ⟨gx, T, j, rfl, HT.out, HH.out, HJ.out, HO.out.1.less (fun b hb => List.mem_append_right _ hb), HK.out.trans (HO.out.2.less (fun b hb => List.mem_append_right _ hb))⟩
    | succ gi =>
      have hkm : k < N := by omega
      have s1 : (k : Int) < (N : Int) := by omega
      obtain ⟨ps, T, Gk, j, hO, hT, hH, hj, hK, hR⟩ := HL.out
      have hkn : k < ns.length := by rw [← HNN.out]; exact hkm
      obtain ⟨x, hx⟩ : ∃ x, ns[k]? = some x := ⟨_, List.getElem?_eq_getElem hkn⟩
      have hxm : x ∈ R.flatten := by rw [← HNS.out]; exact List.mem_of_getElem? hx
      obtain ⟨bp, rfl, qc⟩ := irow_cell hR (i := k) (x := x) (by show R.flatten[k]? = _; rw [← HNS.out]; exact hx)
      have HOP := HOT.out wr _ j x (by omega) hxm hO.ds
      unfold OpenTEnd at HOP
      rw [(HSAME.out (D.count + j) x).1, (HRD.out (D.count + j) x).1] at HOP
      obtain ⟨j2, hj2, e2⟩ := (HSAME.out (D.count + j) x).2
      rw [e2] at HOP
      have HOQ := Lib.hid HOP
      have HX := Lib.hid hxm
      have HXN := Lib.hid hx
      have HO := Lib.hid hO
      have HT := Lib.hid hT
      have HH := Lib.hid hH
      have HK := Lib.hid hK
      have HR := Lib.hid hR
      clear hO hT hH hK hR HOP hx hxm e2 HL
      by_cases hoe : openE D x = 0
      · have HOR := HOQ.out.mono (fun e w' h => (h.resolve_right (fun q => q.1 hoe)).2)
        have hkp := ldF_keeps (rdW { D with count := D.count + j } (ptT x)).2.2 x (tgL (rdW D (ptT x)).1)
        have hhas := HHAS.out x hoe
        generalize ldF (rdW { D with count := D.count + j } (ptT x)).2.2 x (tgL (rdW D (ptT x)).1) = ft at *
        generalize tgL (rdW D (ptT x)).1 = fl at *
        unfold PEnd2 at HOR
        have HOS := Lib.hid HOR
        have HKP := Lib.hid hkp
        have HHS := Lib.hid hhas
        clear HOR hkp hhas hoe HOQ HHAS
        go_wp2_with fail
        refine HOS.out.mono ?_
        rintro e w5 ⟨gt, H, rfl, hp, d5, k5, n5⟩
        have c6 := (k5.blok HO.out.blok (List.mem_append_right _ (List.mem_append_left _ List.mem_cons_self))).cell 6
        have hx0 := (HNUM.out x HX.out).1
        have hpl : ps.length ≤ 10000 := by
          have h1 := HO.out.tabs.1
          have h2 := congrArg List.length HT.out
          rw [List.length_map, List.length_take] at h2
          omega
        obtain ⟨A6, n6, c6', A9, c9, w9, rfl, e9, q9, f9, hO9, hK9⟩ := HO.out.next api (t := ⟨x.toNat, fl, ft⟩) d5 k5 n5 (by show PtAt w5 gt gd ((x.toNat : Nat) : Int) fl ft H; rw [Int.toNat_of_nonneg hx0]; exact hp) hpl 64
        have HE := Lib.hid e9
        have hLP : OpLp At w0 gd gx r gm ⟨n, c, d, R⟩ (.slice A2 k0 cp2) (.slice (some ⟨bp, 0, none⟩) N c7) D E w (k + 1) (.slice A9 (n6 + 1) c9) (w9.setCell ⟨gx, 6, none⟩ (.slice A9 (n6 + 1) c9)) := by
          refine ⟨_, _, _, j + j2, by rw [← Nat.add_assoc]; exact hO9, ?_, fun t ht => ?_, by omega, HK.out.trans (hK9.less (fun b hb => List.mem_append_right _ hb)), hK9.irow HR.out (fun b hb => List.mem_append_left _ hb)⟩
          · rw [List.map_append, HT.out, List.take_add_one]
            show _ = List.take k R.flatten ++ (R.flatten[k]?).toList
            rw [← HNS.out, HXN.out]
            show _ ++ [((x.toNat : Nat) : Int)] = _
            rw [Int.toNat_of_nonneg hx0]
            rfl
          · rcases List.mem_append.1 ht with q | q
            · exact HH.out t q
            · rw [List.mem_singleton.1 q]
              refine ⟨?_, HKP.out⟩
              show HasT D ((x.toNat : Nat) : Int) fl
              rw [Int.toNat_of_nonneg hx0]
              exact HHS.out
        have HLP := Lib.hid hLP
        clear hO9 hK9 e9 hLP hp d5 k5 n5 HO HT HH HK HR hx0 hpl
        go_wp2_with (first | (at_builtin; refine wpList_append_two rfl _ _ rfl rfl rfl HE.out ?_) | fail)
        go_roundg gi
        case measure => omega
        case rel => exact ⟨k + 1, _, by omega, by go_num, HLP.out⟩
      · have t2 : ((openE D x : Int) != 0) = true := by simpa using hoe
        have HOR := HOQ.out.mono (fun e w' h => (h.resolve_left (fun q => hoe q.1)).2)
        have HOE := Lib.hid hoe
        have HOS := Lib.hid HOR
        obtain ⟨oe, ho⟩ : ∃ oe, oe = openE D x := ⟨_, rfl⟩
        rw [← ho] at HOS t2
        have HOO := Lib.hid ho
        clear HOR hoe HOQ ho
        go_wp2_with fail
        refine HOS.out.mono ?_
        rintro e w5 ⟨rfl, d5, k5⟩
        have HD5 := Lib.hid d5
        have HK5 := Lib.hid k5
        clear d5 k5
        go_wp2
        go_ret2
        rw [HOO.out]
        exact Or.inr ⟨x, j + j2, HX.out, HOE.out, by rw [← HNS.out, ← HNN.out]; omega, rfl, by rw [← Nat.add_assoc]; exact HD5.out.less (fun b hb => List.mem_append_right _ (List.mem_append_right _ (List.mem_append_right _ (List.mem_append_right _ hb)))), HK.out.trans (HK5.out.less (fun b hb => List.mem_append_right _ (List.mem_append_right _ (List.mem_append_right _ (List.mem_append_right _ hb)))))⟩
end
end Go.Proofs.YtcpfkaehefcakaaGreat
namespace Go.Proofs.YtcpfkaehefcakaaGreat
open Go.RowKit Go.Shelf
set_option linter.unusedVariables false
set_option maxRecDepth 100000
def log0 : LogS := ⟨0, 0, 0, 0⟩
structure IlAt (At : Lies) (w0 : World) (gd gl gx r : Nat) (S : IxS) (D : DiskS) (E : List Nat) (w : World) : Prop where
  ix : IxAt At w0 gd gx r S D (gl :: E) w
  log : Blok w gl 78 (logCells (ptr gl) gd log0)
  far : gl ∉ E
  low : w0.heap.size ≤ gl
  ok : IxOk D S
  dk : IxDk D S
section
variable {At : Lies} (api : DiskApi At) {w0 w w' : World} {gd gl gx r : Nat} {S S' : IxS} {D D' : DiskS} {E E' B N : List Nat}
theorem IlAt.lt (h : IlAt At w0 gd gl gx r S D E w) : ∀ b ∈ gl :: E, b < w.heap.size := h.ix.lt
include api in
theorem IlAt.nodup (h : IlAt At w0 gd gl gx r S D E w) : (namesS D).Nodup := rise_nodup (h.ix.ds.rise api) (fun n => by
  cases q : lessB n n with
  | true => exact absurd q (less_irrefl n)
  | false => rfl)
theorem IlAt.len (h : IlAt At w0 gd gl gx r S D E w) {L : List EntS} (hL : RiseE L) (hh : ∀ x, x ∈ L ↔ IxHas S x) : S.mem.length ≤ L.length ∧ (∀ t ∈ S.T, t.l.length ≤ L.length) ∧ (∀ ns, (allX S ns).length ≤ L.length) ∧ totX S ≤ 41 * L.length := by
  have h1 : S.mem.length ≤ L.length := rise_len h.ok.rise (fun x hx => (hh x).2 (Or.inl hx))
  have h2 : ∀ t ∈ S.T, t.l.length ≤ L.length := fun t ht => rise_len (h.ok.has t ht).props.1 (fun x hx => (hh x).2 (Or.inr ⟨t, ht, hx⟩))
  refine ⟨h1, h2, fun ns => rise_len (allX_rise h.ok ns) (fun x hx => ?_), ?_⟩
  · obtain ⟨t, ht, -, hx⟩ := allX_mem.1 hx
    exact (hh x).2 (Or.inr ⟨t, ht, hx⟩)
  · have h3 : ∀ T : List TbS, (∀ t ∈ T, t.l.length ≤ L.length) → totL (T.map TbS.l) ≤ T.length * L.length := by
      intro T
      induction T with
      | nil => intro _; exact Nat.le_of_eq (by simp [totL])
      | cons t T ih =>
        intro h
        rw [List.map_cons, totL_cons, List.length_cons, Nat.add_mul]
        have := ih (fun u hu => h u (List.mem_cons_of_mem _ hu))
        have := h t List.mem_cons_self
        omega
    have h4 := h3 S.T h2
    have h5 := h.ok.many_le
    have h6 : S.T.length * L.length ≤ 40 * L.length := Nat.mul_le_mul_right _ h5
    unfold totX
    omega
theorem IlAt.turn (api : DiskApi At) (h : IlAt At w0 gd gl gx r S D E w) (ht : Touch B w w') (hB : ∀ b ∈ B, b ∈ E ∧ w0.heap.size ≤ b) (hE : ∀ b ∈ E', b ∈ E ∨ (w.heap.size ≤ b ∧ b < w'.heap.size)) : IlAt At w0 gd gl gx r S D E' w' := by
  have hlt := h.lt gl List.mem_cons_self
  have hn : gl ∉ B := fun hm => h.far (hB gl hm).1
  refine ⟨h.ix.turn api ht (fun b hb => ⟨List.mem_cons_of_mem _ (hB b hb).1, (hB b hb).2⟩) (fun b hb => ?_), h.log.touch ht hn, fun hm => ?_, h.low, h.ok, h.dk⟩
  · rcases List.mem_cons.1 hb with e | k
    · rw [e]; exact Or.inl List.mem_cons_self
    · exact (hE b k).imp (List.mem_cons_of_mem _) id
  · rcases hE gl hm with k | k
    · exact h.far k
    · omega
theorem IlAt.below (api : DiskApi At) (h : IlAt At w0 gd gl gx r S D E w) (hb : Below w.heap.size w w') : IlAt At w0 gd gl gx r S D E w' := h.turn api (B := []) (Touch.of_below hb) (fun b hb => by cases hb) (fun b hb => Or.inl hb)
theorem IlAt.more (api : DiskApi At) (h : IlAt At w0 gd gl gx r S D E w) (hb : Below w.heap.size w w') (hE : ∀ b ∈ B, w.heap.size ≤ b ∧ b < w'.heap.size) : IlAt At w0 gd gl gx r S D (B ++ E) w' :=
  h.turn api (B := []) (Touch.of_below hb) (fun b hb => by cases hb) (fun b hb => (List.mem_append.1 hb).elim (fun k => Or.inr (hE b k)) Or.inl)
theorem IlAt.base (h : IlAt At w0 gd gl gx r S D E w) : Below w0.heap.size w0 w := h.ix.kept
theorem IlAt.from (h : IlAt At w0 gd gl gx r S D E w) (hi : IxAt At w0 gd gx r S' D' (gl :: E) w') (hk : Kept (gl :: E) w w') (ok : IxOk D' S') (dk : IxDk D' S') : IlAt At w0 gd gl gx r S' D' E w' ∧ Kept E w w' :=
  ⟨⟨hi, hk.blok h.log List.mem_cons_self, h.far, h.low, ok, dk⟩, hk.less (fun b hb => List.mem_cons_of_mem _ hb)⟩
include api
theorem il_add (h : IlAt At w0 gd gl gx r S D E w) {x : EntS} (hx : EntOk x) (hn : S.mem.length ≤ 100000) : Calls Tryz.prog 15 #[ptr gx, entB x] w fun e w' => e = .returned (err (addXE x)) ∧ IlAt At w0 gd gl gx r (addX S x) D E w' ∧ Kept E w w' := by
  refine (xadd_run api h.ix hx hn).mono ?_
  rintro e w' ⟨rfl, hi, hk⟩
  refine ⟨rfl, h.from hi hk ?_ ?_⟩
  · unfold addX
    split
    · exact h.ok.add hx (by assumption)
    · exact h.ok
  · unfold addX
    split
    · exact ⟨h.dk.up, h.dk.starts, h.dk.only, h.dk.used⟩
    · exact h.dk
omit api in
theorem il_waiting (h : IlAt At w0 gd gl gx r S D E w) : Calls Tryz.prog 24 #[ptr gx] w fun e w' => e = .returned (.int .i64 (S.mem.length : Nat)) ∧ w = w' := xwaiting_run h.ix
theorem il_manifest (h : IlAt At w0 gd gl gx r S D E w) : Calls Tryz.prog 14 #[ptr gx] w (ManEnd w S.m.next S.m.check S.m.seed S.m.lv) := xmanifest_run api h.ix h.ok
variable (nap : NamesApi)
include nap
def IlRange (At : Lies) (w0 : World) (gd gl gx r : Nat) (S : IxS) (D : DiskS) (R : List EntS) (E : List Nat) (w : World) (e : Ending) (w' : World) : Prop :=
  ∃ A c k, k ≤ 40 ∧ e = .returned (.tuple #[.slice A R.length c, .int .i64 0]) ∧ EntRow w' w.heap.size (.slice A R.length c) R ∧ IlAt At w0 gd gl gx r S { D with count := D.count + k } (ownL (.slice A R.length c) ++ E) w' ∧ Kept E w w'
theorem il_range (h : IlAt At w0 gd gl gx r S D E w) (hc : D.count ≤ 1000000) (ht : totX S ≤ 40000) (x : Nat) (hx : x < 18446744073709551616) (a b : Int) (wa : (Lit.int .i64 a).wf = true) (wb : (Lit.int .i64 b).wf = true) :
    Calls Tryz.prog 16 #[ptr gx, .int .u64 (x : Nat), .int .i64 a, .int .i64 b] w (IlRange At w0 gd gl gx r S D (rangeX S x a b) E w) := by
  refine (xrange_run api nap h.ix h.ok h.dk.up.wf (by omega) h.dk.up.down ht x hx a b wa wb).mono ?_
  rintro e w' ⟨A, c, k, hk, rfl, hr, hi, hkp⟩
  have hm := h.ok.many_le
  refine ⟨A, c, k, by omega, rfl, hr, ⟨hi.less (fun b hb => ?_), hkp.blok h.log List.mem_cons_self, fun hm => ?_, h.low, h.ok.count _, h.dk.count _⟩, hkp.less (fun b hb => List.mem_cons_of_mem _ hb)⟩
  · rcases List.mem_cons.1 hb with e | q
    · rw [e]; exact List.mem_append_right _ List.mem_cons_self
    · rcases List.mem_append.1 q with q | q
      · exact List.mem_append_left _ q
      · exact List.mem_append_right _ (List.mem_cons_of_mem _ q)
  · rcases List.mem_append.1 hm with q | q
    · have := hr.lt gl (ownL_mem.1 q)
      have := h.lt gl List.mem_cons_self
      omega
    · exact h.far q
variable (iap : ImApi At)
omit api nap in
theorem hop_ok {D : DiskS} {S : IxS} (dk : IxDk D S) (hd : (namesS D).Nodup) (ok : IxOk D S) {n : Nat} (hn : S.m.next = (n : Nat)) (hn9 : n ≤ 150) {l : List EntS} (hr : RiseE l) (hm : ∀ x ∈ l, mayE x = true) (hx : ∀ x ∈ l, EntOk x) (hl : l.length ≤ 120) {t : ByteArray} (ht : t.size ≤ 256 + 4 * l.length) (hroom : 4000 * n + 12000 ≤ D.cap) :
    (tgL (rdW (writeP D n l t).2 (ptT n)).1).length ≤ 10000 := by
  have hok := tbOk_of hr hm
  obtain ⟨k1, k2⟩ := dk.none_ ok
  obtain ⟨k3, k4⟩ := k2 n (by omega) (by omega)
  have hu := dk.used
  have hts := tbB_size l
  have hmany := dk.many hd
  have hm40 := ok.many_le
  obtain ⟨E1, e1, w1⟩ := write_ok dk.up (n := n) (by omega) hok (t := t) (by omega) k3 k4 (by omega)
  rw [e1]
  rw [(opens_yes w1.up.down (w1.has (by omega) hx hok)).2]
  omega
include iap
theorem il_flush (h : IlAt At w0 gd gl gx r S D E w) (hc : D.count ≤ 800000) {n : Nat} (hn : S.m.next = (n : Nat)) (hn9 : n ≤ 150) (hr : r < 18446744073709551616) (hl : S.mem.length ≤ 120) (hroom : 4000 * n + 12000 ≤ D.cap) (pe : Nat) (hpe : addLE S.m.lv n = (pe : Nat)) :
    Calls Tryz.prog 9 #[ptr gx, ptr gl] w fun e w' => ∃ E' S', e = .returned (err (if S.mem = [] then 0 else pe)) ∧ IlAt At w0 gd gl gx r S' E' E w' ∧ Kept E w w' ∧ E'.cap = D.cap ∧ E'.count ≤ D.count + 2 ∧ (∀ x, IxHas S' x ↔ IxHas S x) ∧
      (S.mem = [] ∨ pe ≠ 0 → S' = S) ∧ (S.mem ≠ [] → pe = 0 → S'.mem = [] ∧ S'.m = ⟨S.m.next + 1, 0, S.m.seed, addL S.m.lv n⟩) := by
  have hd := h.nodup api
  have hf : flushT D log0 = (0, D, log0) := flush_none h.dk.up.down 0 h.dk.starts
  have h0 := xflush_run api nap iap h.ix h.log h.far h.low h.dk.up.wf (L := log0) (by decide) (by rw [hf]; exact h.dk.up.wf) (by rw [hf]; exact h.dk.up.down) (by rw [hf]; show D.count ≤ _; omega) h.ok n hn (by omega) hr (by omega) pe hpe
    (fun t ht _ => by rw [hf]; exact hop_ok h.dk hd h.ok hn hn9 h.ok.rise h.ok.mayE h.ok.ok hl (flt_size (by omega) ht) hroom)
  rw [hf] at h0
  refine h0.mono ?_
  rintro e w' ⟨t, ht, rfl, hi, hb, hk⟩
  have hk' : Kept (gl :: E) w w' → True := fun _ => trivial
  by_cases hq : S.mem = []
  · have e1 : flushI 0 D S t n pe 0 = (0, D) := by unfold flushI; rw [if_neg (by decide), if_pos hq]
    have e2 : flushIX 0 D S t n pe 0 = S := by unfold flushIX; rw [if_neg (by decide), if_pos hq]
    have e1' : flushI 0 D S t n pe log0.endp = (0, D) := e1
    have e2' : flushIX 0 D S t n pe log0.endp = S := e2
    simp only at hi ⊢
    rw [e1', e2'] at hi
    rw [e1', if_pos hq]
    exact ⟨D, S, rfl, ⟨hi, hb, h.far, h.low, h.ok, h.dk⟩, hk, rfl, Nat.le_add_right _ _, fun x => Iff.rfl, fun _ => rfl, fun q => absurd hq q⟩
  · have hft : FltOf S.mem r t := by
      rcases ht with q | q | q
      · exact absurd q hq
      · exact absurd rfl q
      · exact q
    by_cases hp : pe = 0
    · subst hp
      obtain ⟨E', S', f1, f2, st, m1, m2⟩ := flush_ok h.dk hd h.ok hn hn9 hq hl hft (en := 0) (by omega) (by omega) hpe hroom
      have f1' : flushI 0 D S t n 0 log0.endp = (0, E') := f1
      have f2' : flushIX 0 D S t n 0 log0.endp = S' := f2
      simp only at hi ⊢
      rw [f1', f2'] at hi
      rw [f1', if_neg hq]
      exact ⟨E', S', rfl, ⟨hi, hb, h.far, h.low, st.ok, st.dk⟩, hk, st.cap, st.count, st.has, fun q => absurd (q.resolve_left hq) (by simp), fun _ _ => ⟨m1, m2⟩⟩
    · obtain ⟨E', f1, f2, st⟩ := flush_full h.dk hd h.ok hn hn9 hq hl hft (en := 0) hp hroom
      have f1' : flushI 0 D S t n pe log0.endp = (pe, E') := f1
      have f2' : flushIX 0 D S t n pe log0.endp = S := f2
      simp only at hi ⊢
      rw [f1', f2'] at hi
      rw [f1', if_neg hq]
      exact ⟨E', S, rfl, ⟨hi, hb, h.far, h.low, st.ok, st.dk⟩, hk, st.cap, st.count, fun x => Iff.rfl, fun _ => rfl, fun _ q => absurd q hp⟩
theorem il_merge (h : IlAt At w0 gd gl gx r S D E w) (hc : D.count ≤ 800000) {n : Nat} (hn : S.m.next = (n : Nat)) (hn9 : n ≤ 150) (hr : r < 18446744073709551616) (ht : totX S ≤ 40000) (lev : Int) (hal : (allX S (pickL S.m.lv lev)).length ≤ 120) (hroom : 4000 * n + 12000 ≤ D.cap) (pp : Nat) (hpp : pickE S.m.lv lev = (pp : Nat)) :
    Calls Tryz.prog 12 #[ptr gx, .int .i64 lev] w fun e w' => ∃ E' S', e = .returned (err pp) ∧ IlAt At w0 gd gl gx r S' E' E w' ∧ Kept E w w' ∧ E'.cap = D.cap ∧ E'.count ≤ D.count + 50 ∧ (∀ x, IxHas S' x ↔ IxHas S x) ∧ S'.mem = S.mem ∧
      (pp ≠ 0 → S' = S) ∧ (pp = 0 → S'.m = ⟨S.m.next + 1, S.m.check, S.m.seed, replL S.m.lv lev n⟩) := by
  have hd := h.nodup api
  have hmx := h.ok.may
  have hre : replE S.m.lv lev n = (pp : Nat) := by rw [replE_parts (by omega) (fun x hx => by have := hmx.2.2.2.2.2 x hx; omega), hpp]
  have hm40 := h.ok.many_le
  refine (xmerge_run api nap iap h.ix h.dk.up.wf h.dk.up.down (by omega) h.ok n hn (by omega) hr ht lev (by omega) pp hpp pp hre
    (fun k t hk hft _ => hop_ok (D := { D with count := D.count + k }) (h.dk.count (D.count + k)) hd (h.ok.count (D.count + k)) hn hn9 (allX_rise h.ok _) (fun y hy => (allX_ok h.ok _ y hy).2) (fun y hy => (allX_ok h.ok _ y hy).1) hal (flt_size (by omega) hft) hroom)).mono ?_
  rintro e w' ⟨t, k, hk, hft, rfl, hi, hkp⟩
  by_cases hp : pp = 0
  · subst hp
    obtain ⟨E', S', f1, f2, st, m1, m2⟩ := merge_ok h.dk hd h.ok hn hn9 hpp hal (hft.resolve_left (fun q => q rfl)) k hroom
    rw [f1, f2] at hi
    rw [f1]
    have := h.from hi hkp st.ok st.dk
    have hcn : E'.count ≤ D.count + k + 2 := st.count
    exact ⟨E', S', rfl, this.1, this.2, st.cap, by omega, st.has, m1, fun q => absurd rfl q, fun _ => m2⟩
  · have f1 : mergeI D S t n lev pp pp k = (pp, D) := by unfold mergeI; rw [if_pos hp]
    have f2 : mergeIX D S t n lev pp pp k = S := by unfold mergeIX; rw [if_pos hp]
    rw [f1, f2] at hi
    rw [f1]
    have := h.from hi hkp h.ok h.dk
    exact ⟨D, S, rfl, this.1, this.2, rfl, Nat.le_add_right _ _, fun x => Iff.rfl, rfl, fun _ => rfl, fun q => absurd q hp⟩
end
end Go.Proofs.YtcpfkaehefcakaaGreat
namespace Go.Proofs.YtcpfkaehefcakaaGreat
open Go.RowKit Go.Shelf
set_option linter.unusedVariables false
set_option maxRecDepth 100000
def ix0 (seed : Nat) : IxS := ⟨⟨0, 0, seed, []⟩, [], []⟩
section
variable {At : Lies} (api : DiskApi At) (nap : NamesApi) {w0 w w' : World} {gd gl gx r c : Nat} {E : List Nat}
include api nap
omit api nap in
theorem ix0_ok {c seed : Nat} (hc : c ≤ 1048576) (hs : seed < 18446744073709551616) : IxOk (newS c) (ix0 seed) ∧ IxDk (newS c) (ix0 seed) := by
  refine ⟨⟨?_, hs, fun n => ?_, List.nodup_nil, (fun t ht => by cases ht), (fun t ht => by cases ht), List.Pairwise.nil, (fun y hy => by cases hy), (fun y hy => by cases hy)⟩, ⟨upd_new hc, rfl, (fun n hn => by cases hn), ?_⟩⟩
  · exact ⟨by show (0:Int) ≤ 0; omega, by show (0:Int) ≤ 1000000; omega, by show (0:Int) ≤ 0; omega, by show (0:Int) ≤ 2147483647; omega, by show MayBe []; decide, fun x hx => by cases hx⟩
  · show n ∈ ([] : LvL).flatten ↔ ∃ t ∈ ([] : List TbS), _
    simp
  · show (usedS (newS c).l : Int) ≤ 4000 * 0
    exact Int.le_of_eq rfl
theorem il_first (hl : LogSt At w0 gd gl log0 (newS c) E w) (hc : c ≤ 1048576) (seed : Nat) (hs : seed < 18446744073709551616) (r : Nat) :
    Calls Tryz.prog 8 #[ptr gd, manV 0 0 seed (.slice none 0 0), .float .f64 r] w fun e w' => ∃ gx, e = .returned (.tuple #[ptr gx, .int .i64 0]) ∧ IlAt At w0 gd gl gx r (ix0 seed) (newS c) E w' ∧ Kept E w w' := by
  obtain ⟨h1, h2, h3, h4⟩ := hl
  obtain ⟨k1, k2⟩ := ix0_ok hc hs
  have hx := xopen_run api nap (r := r) (n := 0) (c := 0) (d := seed) (A := none) (cp := 0) (R := []) h1 (wp_new hc) rfl (by show 0 ≤ _; omega) (LvsHas.nil w none 0) k1.may (fun x hx => by cases hx)
  refine hx.mono ?_
  rintro e w' (⟨gx, T, j, rfl, hT, hH, hj, hi, hk⟩ | ⟨x, j, hx, -⟩)
  · have hj0 : j = 0 := by simpa using hj
    subst hj0
    have hT0 : T = [] := List.map_eq_nil_iff.1 hT
    subst hT0
    exact ⟨gx, rfl, ⟨hi, hk.blok h2 List.mem_cons_self, h3, h4, k1, k2⟩, hk.less (fun b hb => List.mem_cons_of_mem _ hb)⟩
  · cases hx
theorem log_first (cap : ChunksApi) (h : DS At w0 gd (newS c) E w) (hc : c ≤ 1048576) : Calls Tryz.prog 7 #[ptr gd] w fun e w' => ∃ gl, e = .returned (.tuple #[ptr gl, .int .i64 0]) ∧ w.heap.size ≤ gl ∧ LogSt At w0 gd gl log0 (newS c) E w' ∧ Kept E w w' := h.openLog api nap cap (wp_new hc) (by show 0 ≤ _; omega) rfl
theorem fresh_run (cap : ChunksApi) (w : World) (hc : c ≤ 1048576) : Calls Tryz.prog 27 #[.int .i64 (c : Nat)] w fun e w' => ∃ gd gl gx, e = .returned (.tuple #[ptr gd, ptr gl, ptr gx]) ∧ IlAt At w gd gl gx 4591870180066957722 (ix0 0) (newS c) [] w' := by
  have HNEW := Lib.hid (im_new api w c hc)
  have HLG := Lib.hid (fun W g (h : DS At w g (newS c) [] W) => log_first api nap cap h hc)
  have HIX := Lib.hid (fun W g gl (h : LogSt At w g gl log0 (newS c) [] W) => il_first api nap h hc 0 (by decide) 4591870180066957722)
  unfold manV at HIX
  clear hc
  go_enter Tryz.func27, Tryz.ntmps27
  go_wp2_with fail
  refine HNEW.out.mono ?_
  rintro e w1 ⟨g, rfl, hD⟩
  have H1 := Lib.hid hD
  clear hD
  go_wp2_with fail
  refine (HLG.out w1 g H1.out).mono ?_
  rintro e w2 ⟨gl, rfl, -, hl, -⟩
  have H2 := Lib.hid hl
  clear hl
  go_wp2_with fail
  refine (HIX.out w2 g gl H2.out).mono ?_
  rintro e w3 ⟨gx, rfl, hi, -⟩
  have H3 := Lib.hid hi
  clear hi
  go_wp2
  go_ret3
  exact ⟨g, gl, gx, rfl, H3.out⟩
end
end Go.Proofs.YtcpfkaehefcakaaGreat
namespace Go.Proofs.YtcpfkaehefcakaaGreat
open Go.RowKit Go.Shelf
set_option linter.unusedVariables false
set_option maxRecDepth 100000
def e0 : EntS := ⟨5, 0, 0⟩
def r0 : Nat := 4591870180066957722
def exM : Nat → ManS
  | 0 => ⟨0, 0, 0, []⟩
  | 1 => ⟨1, 0, 0, [[0]]⟩
  | _ => ⟨2, 0, 0, [[], [1]]⟩
def exQ : Nat → List EntS
  | 0 => [e0]
  | _ => []
theorem ex_lv : (addL [] 0 = [[0]] ∧ addLE [] 0 = 0) ∧ (pickE [[0]] 0 = 0 ∧ replL [[0]] 0 1 = [[], [1]]) ∧ pickE [[], [1]] 0 = 4 := by decide +kernel
theorem ex_sm : sameM ⟨1, 0, 0, [[0]]⟩ ⟨1, 0, 0, [[0]]⟩ = true ∧ sameM ⟨2, 0, 0, [[], [1]]⟩ ⟨2, 0, 0, [[], [1]]⟩ = true := by decide +kernel
theorem e0_ok : EntOk e0 := ⟨by decide, by decide, by decide, by decide, by decide⟩
theorem e0_may : mayE e0 = true := by decide
theorem e0_rise : RiseE [e0] := List.pairwise_singleton _ _
theorem e0_range : rangeE [e0] 5 (max 0 0) (capV 9) = [e0] := by decide
structure ExSt (At : Lies) (w0 : World) (gd gl gx k c : Nat) (E : List Nat) (w : World) : Prop where
  st : ∃ S D, IlAt At w0 gd gl gx r0 S D E w ∧ (∀ x, x ∈ [e0] ↔ IxHas S x) ∧ S.m = exM k ∧ S.mem = exQ k ∧ D.cap = 30000 ∧ D.count ≤ c
section
variable {At : Lies} (api : DiskApi At) (nap : NamesApi) (iap : ImApi At) {w0 w w' : World} {gd gl gx k c : Nat} {E E' B : List Nat}
include api
theorem ExSt.below (h : ExSt At w0 gd gl gx k c E w) (hb : Below w.heap.size w w') : ExSt At w0 gd gl gx k c E w' := by
  obtain ⟨S, D, h1, h2⟩ := h.st
  exact ⟨S, D, h1.below api hb, h2⟩
theorem ex_add (h : IlAt At w0 gd gl gx r0 (ix0 0) (newS 30000) E w) : Calls Tryz.prog 15 #[ptr gx, .agg #[.int .u64 5, .int .i64 0, .int .i64 0]] w fun e w' => e = .returned (.int .i64 0) ∧ ExSt At w0 gd gl gx 0 0 E w' ∧ Kept E w w' := by
  have h1 := il_add api h e0_ok (by show 0 ≤ _; omega)
  refine Calls.mono (f := 15) h1 ?_
  rintro e w' ⟨rfl, hi, hk⟩
  have e1 : addX (ix0 0) e0 = ⟨⟨0, 0, 0, []⟩, [], [e0]⟩ := by
    unfold addX
    rw [if_pos e0_may]
    rfl
  rw [e1] at hi
  refine ⟨by unfold addXE; rw [if_pos e0_may]; rfl, ⟨_, _, hi, fun x => ?_, rfl, rfl, rfl, Nat.le_refl _⟩, hk⟩
  unfold IxHas
  simp
omit api in
theorem ex_wait (h : ExSt At w0 gd gl gx k c E w) : Calls Tryz.prog 24 #[ptr gx] w fun e w' => e = .returned (.int .i64 ((exQ k).length : Nat)) ∧ w = w' := by
  obtain ⟨S, D, h1, h2, h3, h4, h5⟩ := h.st
  have := il_waiting h1
  rw [h4] at this
  exact this
theorem ex_man (h : ExSt At w0 gd gl gx k c E w) : Calls Tryz.prog 14 #[ptr gx] w (ManEnd w (exM k).next (exM k).check (exM k).seed (exM k).lv) := by
  obtain ⟨S, D, h1, h2, h3, h4, h5⟩ := h.st
  have := il_manifest api h1
  rw [h3] at this
  exact this
include nap
theorem ex_range (h : ExSt At w0 gd gl gx k c E w) (hc : c ≤ 500) : Calls Tryz.prog 16 #[ptr gx, .int .u64 5, .int .i64 0, .int .i64 9] w fun e w' => ∃ A cp, e = .returned (.tuple #[.slice A 1 cp, .int .i64 0]) ∧ EntRow w' w.heap.size (.slice A 1 cp) [e0] ∧ ExSt At w0 gd gl gx k (c + 50) (ownL (.slice A 1 cp) ++ E) w' ∧ Kept E w w' := by
  obtain ⟨S, D, h1, h2, h3, h4, h5, h6⟩ := h.st
  have hl := h1.len e0_rise h2
  have h7 := il_range api nap h1 (by omega) (by have := hl.2.2.2; simp at this; omega) 5 (by decide) 0 9 (by decide) (by decide)
  have h8 : rangeX S 5 0 9 = [e0] := by rw [range_same h1.ok e0_rise h2 5 0 9, e0_range]
  rw [h8] at h7
  refine Calls.mono (f := 16) h7 ?_
  rintro e w' ⟨A, cp, j, hj, rfl, hr, hi, hk⟩
  exact ⟨A, cp, rfl, hr, ⟨S, _, hi, h2, h3, h4, h5, by show D.count + j ≤ _; omega⟩, hk⟩
include iap
theorem ex_flush (h : ExSt At w0 gd gl gx 0 c E w) (hc : c ≤ 500) : Calls Tryz.prog 9 #[ptr gx, ptr gl] w fun e w' => e = .returned (.int .i64 0) ∧ ExSt At w0 gd gl gx 1 (c + 50) E w' ∧ Kept E w w' := by
  obtain ⟨S, D, h1, h2, h3, h4, h5, h6⟩ := h.st
  have hq : S.mem = [e0] := h4
  have hne : S.mem ≠ [] := by rw [hq]; simp
  have hm : S.m = ⟨0, 0, 0, []⟩ := h3
  have h7 := il_flush api nap iap h1 (by omega) (n := 0) (by rw [hm]; rfl) (by omega) (by unfold r0; decide) (by rw [hq]; simp) (by omega) 0 (by rw [hm]; exact ex_lv.1.2)
  refine h7.mono ?_
  rintro e w' ⟨E', S', rfl, hi, hk, hcap, hcnt, hh, -, hst⟩
  obtain ⟨m1, m2⟩ := hst hne rfl
  refine ⟨by simp, ⟨S', E', hi, fun x => (h2 x).trans (hh x).symm, ?_, m1, by rw [hcap, h5], by omega⟩, hk⟩
  rw [m2, hm]
  show (⟨0 + 1, 0, 0, addL [] ((0 : Nat) : Int)⟩ : ManS) = ⟨1, 0, 0, [[0]]⟩
  rw [show addL [] ((0 : Nat) : Int) = [[0]] from ex_lv.1.1]
  rfl
theorem ex_merge (h : ExSt At w0 gd gl gx 1 c E w) (hc : c ≤ 500) : Calls Tryz.prog 12 #[ptr gx, .int .i64 0] w fun e w' => e = .returned (.int .i64 0) ∧ ExSt At w0 gd gl gx 2 (c + 50) E w' ∧ Kept E w w' := by
  obtain ⟨S, D, h1, h2, h3, h4, h5, h6⟩ := h.st
  have hm : S.m = ⟨1, 0, 0, [[0]]⟩ := h3
  have hl := h1.len e0_rise h2
  have h7 := il_merge api nap iap h1 (by omega) (n := 1) (by rw [hm]; rfl) (by omega) (by unfold r0; decide) (by have := hl.2.2.2; simp at this; omega) 0 (by have := hl.2.2.1 (pickL S.m.lv 0); simp at this; omega) (by omega) 0 (by rw [hm]; exact ex_lv.2.1.1)
  refine h7.mono ?_
  rintro e w' ⟨E', S', rfl, hi, hk, hcap, hcnt, hh, hmem, -, hst⟩
  refine ⟨by simp, ⟨S', E', hi, fun x => (h2 x).trans (hh x).symm, ?_, by rw [hmem]; exact h4, by rw [hcap, h5], by omega⟩, hk⟩
  rw [hst rfl, hm]
  show (⟨1 + 1, 0, 0, replL [[0]] 0 ((1 : Nat) : Int)⟩ : ManS) = ⟨2, 0, 0, [[], [1]]⟩
  rw [show replL [[0]] 0 ((1 : Nat) : Int) = [[], [1]] from ex_lv.2.1.2]
  rfl
theorem ex_again (h : ExSt At w0 gd gl gx 2 c E w) (hc : c ≤ 500) : Calls Tryz.prog 12 #[ptr gx, .int .i64 0] w fun e w' => e = .returned (.int .i64 4) ∧ ExSt At w0 gd gl gx 2 (c + 50) E w' ∧ Kept E w w' := by
  obtain ⟨S, D, h1, h2, h3, h4, h5, h6⟩ := h.st
  have hm : S.m = ⟨2, 0, 0, [[], [1]]⟩ := h3
  have hl := h1.len e0_rise h2
  have h7 := il_merge api nap iap h1 (by omega) (n := 2) (by rw [hm]; rfl) (by omega) (by unfold r0; decide) (by have := hl.2.2.2; simp at this; omega) 0 (by have := hl.2.2.1 (pickL S.m.lv 0); simp at this; omega) (by omega) 4 (by rw [hm]; exact ex_lv.2.2)
  refine h7.mono ?_
  rintro e w' ⟨E', S', rfl, hi, hk, hcap, hcnt, hh, hmem, hst, -⟩
  have := hst (by decide)
  subst this
  exact ⟨by simp, ⟨S', E', hi, h2, h3, h4, by rw [hcap, h5], by omega⟩, hk⟩
end
theorem ex_same1 {W : World} {A : Option Addr} {cp : Nat} (h : LvsHas W (.slice A 1 cp) [[0]]) : Calls Tryz.prog 23 #[manV 1 0 0 (.slice A 1 cp), .agg #[.int .i64 1, .int .i64 0, .int .u64 0, .slice (some ⟨W.heap.size + 1, 0, none⟩) 1 1]]
    ((W.alloc (.cells #[.int .i64 0] 3)).alloc (.cells #[.slice (some ⟨W.heap.size, 0, none⟩) 1 1] 68)) fun e w' => e = .returned (.bool true) ∧ Below W.heap.size W w' := by
  have b1 : Below W.heap.size W (W.alloc (.cells #[.int .i64 0] 3)) := (Below.refl _ _).alloc (Nat.le_refl _) _
  have i1 : IntsIn (W.alloc (.cells #[.int .i64 0] 3)) (.slice (some ⟨W.heap.size, 0, none⟩) 1 1) [0] := ints_lit W [0] (by decide)
  have z1 : (W.alloc (.cells #[.int .i64 0] 3)).heap.size = W.heap.size + 1 := by simp
  generalize (W.alloc (.cells #[.int .i64 0] 3)) = W1 at *
  have h2 := lvs_lit W1 [⟨.slice (some ⟨W.heap.size, 0, none⟩) 1 1, [0]⟩] 1 rfl (by decide) (fun x hx => by rw [List.mem_singleton.1 hx]; exact i1)
  rw [z1] at h2
  have b2 := (b1.alloc (by rw [z1]; exact Nat.le_succ _) (.cells (lvals [⟨.slice (some ⟨W.heap.size, 0, none⟩) 1 1, [0]⟩]).toArray 68))
  refine (msamel_any 1 0 0 A 1 cp [[0]] 1 0 0 _ 1 1 [[0]] _ (h.below b2 (Nat.le_refl _)) h2 rfl rfl (by decide) (by decide)).mono ?_
  rintro e w' ⟨rfl, hb⟩
  exact ⟨by rw [ex_sm.1], bj b2 hb⟩
theorem ex_same2 {W : World} {A : Option Addr} {cp : Nat} (h : LvsHas W (.slice A 2 cp) [[], [1]]) : Calls Tryz.prog 23 #[manV 2 0 0 (.slice A 2 cp), .agg #[.int .i64 2, .int .i64 0, .int .u64 0, .slice (some ⟨W.heap.size + 1, 0, none⟩) 2 2]]
    ((W.alloc (.cells #[.int .i64 1] 3)).alloc (.cells #[.slice none 0 0, .slice (some ⟨W.heap.size, 0, none⟩) 1 1] 68)) fun e w' => e = .returned (.bool true) ∧ Below W.heap.size W w' := by
  have b1 : Below W.heap.size W (W.alloc (.cells #[.int .i64 1] 3)) := (Below.refl _ _).alloc (Nat.le_refl _) _
  have i1 : IntsIn (W.alloc (.cells #[.int .i64 1] 3)) (.slice (some ⟨W.heap.size, 0, none⟩) 1 1) [1] := ints_lit W [1] (by decide)
  have z1 : (W.alloc (.cells #[.int .i64 1] 3)).heap.size = W.heap.size + 1 := by simp
  generalize (W.alloc (.cells #[.int .i64 1] 3)) = W1 at *
  have h2 := lvs_lit W1 [⟨.slice none 0 0, []⟩, ⟨.slice (some ⟨W.heap.size, 0, none⟩) 1 1, [1]⟩] 2 rfl (by decide) (fun x hx => by
    rcases List.mem_cons.1 hx with rfl | hx
    · exact Or.inl ⟨rfl, none, 0, rfl⟩
    · rw [List.mem_singleton.1 hx]; exact i1)
  rw [z1] at h2
  have b2 := (b1.alloc (by rw [z1]; exact Nat.le_succ _) (.cells (lvals [⟨.slice none 0 0, []⟩, ⟨.slice (some ⟨W.heap.size, 0, none⟩) 1 1, [1]⟩]).toArray 68))
  refine (msamel_any 2 0 0 A 2 cp [[], [1]] 2 0 0 _ 2 2 [[], [1]] _ (h.below b2 (Nat.le_refl _)) h2 rfl rfl (by decide) (by decide)).mono ?_
  rintro e w' ⟨rfl, hb⟩
  exact ⟨by rw [ex_sm.2], bj b2 hb⟩
end Go.Proofs.YtcpfkaehefcakaaGreat
namespace Go.Proofs.YtcpfkaehefcakaaGreat
open Go.RowKit Go.Shelf
set_option linter.unusedVariables false
set_option maxRecDepth 100000
section
variable {At : Lies} (api : DiskApi At) (nap : NamesApi) (iap : ImApi At) (cap : ChunksApi)
include api nap iap cap
set_option maxHeartbeats 1000000 in
theorem indexed_true (w : World) : Calls Tryz.prog 5 #[] w fun e w' => e = .returned (.bool true) ∧ Below w.heap.size w w' := by
  have HF := Lib.hid (show Calls Tryz.prog 27 #[.int .i64 30000] w fun e w' => ∃ gd gl gx, e = .returned (.tuple #[ptr gd, ptr gl, ptr gx]) ∧ IlAt At w gd gl gx r0 (ix0 0) (newS 30000) [] w' from fresh_run api nap cap w (c := 30000) (by decide))
  go_enter Tryz.func5, Tryz.ntmps5
  go_wp2_with fail
  refine HF.out.mono ?_
  rintro e w1 ⟨gd, gl, gx, rfl, hi⟩
  have hb := (Below.refl w1.heap.size w1).alloc (Nat.le_refl _) (.cells #[.int .u64 5, .int .i64 0, .int .i64 0] 44)
  have bx := Blok.new w1 44 #[.int .u64 5, .int .i64 0, .int .i64 0]
  have h2 := hi.more api hb (B := [w1.heap.size]) (fun b hm => by rw [List.mem_singleton.1 hm]; exact ⟨Nat.le_refl _, bx.lt⟩)
  obtain ⟨w2, hw2⟩ : ∃ w2, w2 = w1.alloc (.cells #[.int .u64 5, .int .i64 0, .int .i64 0] 44) := ⟨_, rfl⟩
  rw [← hw2] at h2 bx
  have HW2 := Lib.hid hw2
  obtain ⟨ge, hge⟩ : ∃ ge, ge = w1.heap.size := ⟨_, rfl⟩
  rw [← hge] at h2 bx
  have HGE := Lib.hid hge
  have HAD := Lib.hid (ex_add api h2)
  have HBX := Lib.hid bx
  obtain ⟨x0, x1, x2⟩ : w2.cell? ⟨ge, 0, none⟩ = some (.int .u64 5) ∧ w2.cell? ⟨ge, 1, none⟩ = some (.int .i64 0) ∧ w2.cell? ⟨ge, 2, none⟩ = some (.int .i64 0) := ⟨bx.cell 0, bx.cell 1, bx.cell 2⟩
  clear hi hb h2 hw2 hge bx HF
  go_upto_region 3 with fail
  rw [← HGE.out]
  rw [← HW2.out]
  clear HW2
  go_wp2_with fail
  refine HAD.out.mono ?_
  rintro e w3 ⟨rfl, h3, k3⟩
  have HWT := Lib.hid (ex_wait h3)
  have H3 := Lib.hid h3
  have B3 := Lib.hid (k3.blok HBX.out (List.mem_append_left _ List.mem_cons_self))
  clear h3 k3 x0 x1 x2 HAD HBX
  go_wp2_with fail
  refine HWT.out.mono ?_
  rintro e w' ⟨rfl, rfl⟩
  have HRG := Lib.hid (ex_range api nap H3.out (by omega))
  clear HWT
  go_wp2_with fail
  refine HRG.out.mono ?_
  rintro e w5 ⟨A5, c5, rfl, r5, h5, k5⟩
  have H5 := Lib.hid h5
  have R5 := Lib.hid r5
  have B5 := Lib.hid (k5.blok B3.out (List.mem_append_left _ List.mem_cons_self))
  obtain ⟨x0, x1, x2⟩ : w5.cell? ⟨ge, 0, none⟩ = some (.int .u64 5) ∧ w5.cell? ⟨ge, 1, none⟩ = some (.int .i64 0) ∧ w5.cell? ⟨ge, 2, none⟩ = some (.int .i64 0) := ⟨B5.out.cell 0, B5.out.cell 1, B5.out.cell 2⟩
  have hb6 := (Below.refl w5.heap.size w5).alloc (Nat.le_refl _) (.cells #[.int .u64 5, .int .i64 0, .int .i64 0] 44)
  have H6 := Lib.hid (h5.below api hb6)
  have hs : EntsIn (w5.alloc (.cells #[.int .u64 5, .int .i64 0, .int .i64 0] 44)) (.slice (some ⟨w5.heap.size, 0, none⟩) 1 1) [e0] := ent_one w5 e0
  have r6 := EntRow.below r5 hb6 (Nat.le_refl _)
  have HSM := Lib.hid (tsame_any _ _ [e0] [e0] _ (EntRow.in_ r6) hs (by decide) (by decide))
  rw [show decide ([e0] = [e0]) = true from decide_eq_true rfl] at HSM
  have R6 := Lib.hid r6
  clear h5 r5 k5 hb6 hs r6 HRG B3 H3 B5
  unfold SameEnd at HSM
  go_wp2_with fail
  refine HSM.out.mono ?_
  rintro e w7 ⟨rfl, n7, rfl⟩
  have H7 := H6.out.below api (below_drewN (Below.refl _ _) n7)
  have R7 := Lib.hid (EntRow.below R6.out (below_drewN (Below.refl _ _) n7) (Nat.le_refl _))
  generalize (w5.alloc (.cells #[.int .u64 5, .int .i64 0, .int .i64 0] 44)).drewN n7 = w7 at *
  have HFL := Lib.hid (ex_flush api nap iap H7 (by omega))
  clear H7 HSM H6 R6 H5 R5 x0 x1 x2
  go_wp2_with fail
  refine HFL.out.mono ?_
  rintro e w8 ⟨rfl, h8, k8⟩
  have HWT := Lib.hid (ex_wait h8)
  have HMN := Lib.hid (ex_man api h8)
  have H8 := Lib.hid h8
  have R8 := Lib.hid (k8.row R7.out (fun b hb => List.mem_append_left _ hb))
  clear h8 k8 HFL R7
  go_wp2_with fail
  refine HWT.out.mono ?_
  rintro e w' ⟨rfl, rfl⟩
  go_wp2_with fail
  refine HMN.out.mono ?_
  rintro e w9 ⟨A9, c9, rfl, l9, b9⟩
  have l9' : LvsHas w9 (.slice A9 1 c9) [[0]] := l9.has
  have HSA := Lib.hid (ex_same1 l9')
  have H9 := Lib.hid (H8.out.below api b9)
  have R9 := Lib.hid (EntRow.below R8.out b9 (Nat.le_refl _))
  clear l9 b9 l9' HMN HWT H8 R8
  unfold manV exM
  unfold manV at HSA
  go_wp2_with fail
  refine HSA.out.mono ?_
  rintro e w10 ⟨rfl, b10⟩
  have H10 := Lib.hid (H9.out.below api b10)
  have R10 := Lib.hid (EntRow.below R9.out b10 (Nat.le_refl _))
  have HRG := Lib.hid (ex_range api nap H10.out (by omega))
  clear b10 H9 R9 HSA
  go_wp2_with fail
  refine HRG.out.mono ?_
  rintro e w11 ⟨A11, c11, rfl, r11, h11, k11⟩
  have H11 := Lib.hid h11
  have R11 := EntRow.in_ (k11.row R10.out (fun b hb => List.mem_append_left _ hb))
  have HSM := Lib.hid (tsame_any _ _ [e0] [e0] _ (EntRow.in_ r11) R11 (by decide) (by decide))
  rw [show decide ([e0] = [e0]) = true from decide_eq_true rfl] at HSM
  clear h11 r11 k11 R11 HRG R10 H10
  unfold SameEnd at HSM
  go_wp2_with fail
  refine HSM.out.mono ?_
  rintro e w12 ⟨rfl, n12, rfl⟩
  have H12 := Lib.hid (H11.out.below api (below_drewN (Below.refl _ _) n12))
  generalize w11.drewN n12 = w12 at *
  have HMG := Lib.hid (ex_merge api nap iap H12.out (by omega))
  clear HSM H11
  go_wp2_with fail
  refine HMG.out.mono ?_
  rintro e w13 ⟨rfl, h13, k13⟩
  have HMN := Lib.hid (ex_man api h13)
  have H13 := Lib.hid h13
  clear h13 k13 HMG H12
  go_wp2_with fail
  refine HMN.out.mono ?_
  rintro e w14 ⟨A14, c14, rfl, l14, b14⟩
  have l14' : LvsHas w14 (.slice A14 2 c14) [[], [1]] := l14.has
  have HSA := Lib.hid (ex_same2 l14')
  have H14 := Lib.hid (H13.out.below api b14)
  clear l14 b14 l14' HMN H13
  unfold manV exM
  unfold manV at HSA
  go_wp2_with fail
  refine HSA.out.mono ?_
  rintro e w15 ⟨rfl, b15⟩
  have HAG := Lib.hid (ex_again api nap iap (H14.out.below api b15) (by omega))
  clear b15 H14 HSA
  go_wp2_with fail
  refine HAG.out.mono ?_
  rintro e w16 ⟨rfl, h16, -⟩
  have HBB : Hid (Below w.heap.size w w16) := Lib.hid (by
    obtain ⟨S, D, q, -⟩ := h16.st
    exact q.base)
  clear h16 HAG
  go_wp2
  go_ret
  exact ⟨rfl, HBB.out⟩
end
end Go.Proofs.YtcpfkaehefcakaaGreat
namespace Go.Proofs.YtcpfkaehefcakaaGreat
open Go.RowKit Go.Shelf
set_option linter.unusedVariables false
set_option maxRecDepth 100000
theorem neg_no : mayM ⟨-1, 0, 0, []⟩ = false := by decide +kernel
theorem one_may : MayM ⟨1, 0, 0, [[0]]⟩ := by decide +kernel
theorem zero_may : mayM ⟨0, 0, 0, []⟩ = true := by decide +kernel
theorem open_new90 (c : Nat) (n : Int) : openE (newS c) n = 90 := by
  unfold openE
  rw [rdW_none (D := newS c) rfl rfl]
  rfl
theorem sameM_zero : sameM ⟨0, 0, 0, []⟩ ⟨0, 0, 0, []⟩ = true := by decide +kernel
section
variable {At : Lies} (api : DiskApi At) (nap : NamesApi) (iap : ImApi At) (cap : ChunksApi) {w0 w : World} {gd : Nat} {E : List Nat}
include api
theorem xo_neg (h : DS At w0 gd (newS 9000) E w) : Calls Tryz.prog 8 #[ptr gd, .agg #[.int .i64 (-1), .int .i64 0, .int .u64 0, .slice none 0 0], .float .f64 0] w fun e w' => e = .returned (.tuple #[.pointer none, .int .i64 2]) ∧ DS At w0 gd (newS 9000) E w' ∧ Kept E w w' := by
  have hx := xopen_no api (r := 0) (n := -1) (c := 0) (d := 0) (A := none) (cp := 0) (R := []) h (wp_new (by decide)) (LvsHas.nil w none 0) (by decide) (by decide) (Or.inl neg_no)
  rw [neg_no] at hx
  exact hx
theorem xo_down {D : DiskS} (h : DS At w0 gd D E w) (ok : WfP D) (hd : D.down = true) : Calls Tryz.prog 8 #[ptr gd, .agg #[.int .i64 0, .int .i64 0, .int .u64 0, .slice none 0 0], .float .f64 0] w fun e w' => e = .returned (.tuple #[.pointer none, .int .i64 61]) ∧ DS At w0 gd D E w' ∧ Kept E w w' := by
  have hx := xopen_no api (r := 0) (n := 0) (c := 0) (d := 0) (A := none) (cp := 0) (R := []) h ok (LvsHas.nil w none 0) (by decide) (by decide) (Or.inr hd)
  rw [zero_may] at hx
  exact hx
theorem xo_crash {D : DiskS} (h : DS At w0 gd D E w) (u : UpD D) : Calls Tryz.prog 26 #[ptr gd, .slice none 0 0] w fun e w' => ∃ D', e = .returned (.int .i64 0) ∧ D'.down = true ∧ WfP D' ∧ DS At w0 gd D' E w' ∧ Kept E w w' := by
  have hC := h.disk api (fun F hf => api.crash (.slice none 0 0) [] hf u.wf.ok (Or.inl ⟨rfl, none, 0, rfl⟩) (fun b hb => by cases hb) (by decide))
  have e1 : crashS D [] = (0, sinkS D []) := by unfold crashS; rw [if_neg (by simp [u.down])]
  have hw := wp_crash u.wf []
  rw [e1] at hC hw
  refine hC.mono ?_
  rintro e w' ⟨rfl, d, k⟩
  exact ⟨_, rfl, rfl, hw, d, k⟩
include nap
theorem xo_lost (h : DS At w0 gd (newS 9000) E w) : Calls Tryz.prog 8 #[ptr gd, .agg #[.int .i64 1, .int .i64 0, .int .u64 0, .slice (some ⟨w.heap.size + 1, 0, none⟩) 1 1], .float .f64 0]
    ((w.alloc (.cells #[.int .i64 0] 3)).alloc (.cells #[.slice (some ⟨w.heap.size, 0, none⟩) 1 1] 68)) fun e w' => e = .returned (.tuple #[.pointer none, .int .i64 90]) ∧ (∃ D, UpD D ∧ DS At w0 gd D E w') ∧ Kept E w w' := by
  have b1 : Below w.heap.size w (w.alloc (.cells #[.int .i64 0] 3)) := (Below.refl _ _).alloc (Nat.le_refl _) _
  have i1 : IntsIn (w.alloc (.cells #[.int .i64 0] 3)) (.slice (some ⟨w.heap.size, 0, none⟩) 1 1) [0] := ints_lit w [0] (by decide)
  have z1 : (w.alloc (.cells #[.int .i64 0] 3)).heap.size = w.heap.size + 1 := by simp
  generalize (w.alloc (.cells #[.int .i64 0] 3)) = W1 at *
  have h2 := lvs_lit W1 [⟨.slice (some ⟨w.heap.size, 0, none⟩) 1 1, [0]⟩] 1 rfl (by decide) (fun x hx => by rw [List.mem_singleton.1 hx]; exact i1)
  rw [z1] at h2
  have b2 := (b1.alloc (by rw [z1]; exact Nat.le_succ _) (.cells (lvals [⟨.slice (some ⟨w.heap.size, 0, none⟩) 1 1, [0]⟩]).toArray 68))
  have h3 := h.below api b2
  refine (xopen_run api nap (r := 0) (n := 1) (c := 0) (d := 0) (A := some ⟨w.heap.size + 1, 0, none⟩) (cp := 1) (R := [[0]]) h3 (wp_new (by decide)) rfl (by show 0 ≤ _; omega) h2 one_may (fun x _ hx => by rw [open_new90] at hx; cases hx)).mono ?_
  rintro e w' (⟨gx, T, j, rfl, hT, hH, -⟩ | ⟨n, j, hn, hne, hj, rfl, hd, hk⟩)
  · have : (0 : Int) ∈ T.map fun t => (t.n : Int) := by rw [hT]; simp
    obtain ⟨t, ht, -⟩ := List.mem_map.1 this
    obtain ⟨f, hf, -⟩ := (hH t ht).1
    cases hf
  · exact ⟨by rw [open_new90]; rfl, ⟨_, (upd_new (c := 9000) (by decide)).count _, hd⟩, (Kept.of_below b2 h.lt).trans hk⟩
namespace IxNoneW
include iap cap in
set_option maxHeartbeats 2000000 in
theorem walk (W : World) (v0 : Value) (a1 a2 : Int) (wx0 : ManIn W v0) (w1 : (Lit.int .u64 a1).wf = true) (w2 : (Lit.int .i64 a2).wf = true) : Calls Tryz.prog 4 #[v0, .int .u64 a1, .int .i64 a2] W fun e w' => e = .returned (.bool true) ∧ Below W.heap.size W w' := by
  obtain ⟨x0, x1, x2, A, k, cp, R, rfl, -, -, -, -⟩ := wx0
  obtain ⟨h, rfl, hh⟩ := u64_nat w1
  have hb1 := (Below.refl W.heap.size W).alloc (Nat.le_refl _) (manO x0 x1 x2 (.slice A k cp))
  obtain ⟨wa, hwa⟩ : ∃ wa, wa = W.alloc (manO x0 x1 x2 (.slice A k cp)) := ⟨_, rfl⟩
  rw [← hwa] at hb1
  have HB1 := Lib.hid hb1
  have HWA := Lib.hid hwa
  have HNEW := Lib.hid (show Calls Tryz.prog 6 #[.int .i64 9000] wa fun e w' => ∃ g, e = .returned (.tuple #[ptr g, .int .i64 0]) ∧ DS At wa g (newS 9000) [] w' from im_new api wa 9000 (by decide))
  unfold manV
  clear hb1 hwa w1
  go_enter Tryz.func4, Tryz.ntmps4
  go_upto_region 2 with fail
  rw [← HWA.out]
  clear HWA
  go_wp2_with fail
  refine HNEW.out.mono ?_
  rintro e wb ⟨g, rfl, hD⟩
  have HD := Lib.hid hD
  clear hD HNEW
  go_wp2
  go_loopw [7, 10] (fun p i wr => ∃ j : Nat, j ≤ 2 ∧ i = .int .i64 j ∧ IxNone wr p ∧ DS At wa g (newS 9000) [] wr) (fun _ i _ => 2 - (intOf i).toNat)
  case atStart => exact ⟨0, by omega, rfl, Or.inl rfl, HD.out⟩
  case round =>
    obtain ⟨j, hj, rfl, hn, hd⟩ := hrel
    have HN := Lib.hid hn
    have HDR := Lib.hid hd
    clear hn hd
    by_cases hj2 : j < 2
    · have s1 : (j : Int) < 2 := by omega
      have h1 := Lib.hid (xrange_none HN.out h 0 a2)
      have h2 := Lib.hid (xlast_none HN.out h a2)
      have h3 := Lib.hid (show Calls Tryz.prog 15 #[u7, .agg #[.int .u64 0, .int .i64 0, .int .i64 0]] wr fun e w' => e = .returned (.int .i64 1) ∧ Below wr.heap.size wr w' from xadd_none HN.out ⟨0, 0, 0⟩)
      go_wp2_with fail
      refine h1.out.mono ?_
      rintro e w' ⟨rfl, rfl⟩
      go_wp2_with fail
      refine h2.out.mono ?_
      rintro e w' ⟨rfl, rfl⟩
      go_wp2_with fail
      refine h3.out.mono ?_
      rintro e w3 ⟨rfl, b3⟩
      have N3 := Lib.hid (HN.out.below b3)
      have D3 := Lib.hid (HDR.out.below api b3)
      have h4 := Lib.hid (xflush_none (l := .pointer none) N3.out)
      clear h1 h2 h3 b3 HN HDR
      go_wp2_with fail
      refine h4.out.mono ?_
      rintro e w4 ⟨rfl, b4⟩
      have N4 := Lib.hid (N3.out.below b4)
      have D4 := Lib.hid (D3.out.below api b4)
      have h5 := Lib.hid (xmerge_none N4.out a2)
      clear h4 b4 N3 D3
      go_wp2_with fail
      refine h5.out.mono ?_
      rintro e w5 ⟨rfl, b5⟩
      have N5 := Lib.hid (N4.out.below b5)
      have D5 := Lib.hid (D4.out.below api b5)
      have h6 := Lib.hid (xwaiting_none N5.out)
      have h7 := Lib.hid (xmanifest_none N5.out)
      clear h5 b5 N4 D4
      go_wp2_with fail
      refine h6.out.mono ?_
      rintro e w' ⟨rfl, rfl⟩
      go_wp2_with fail
      refine h7.out.mono ?_
      rintro e w6 ⟨A6, c6, rfl, l6, b6⟩
      have D6 := Lib.hid (D5.out.below api b6)
      have h8 := Lib.hid (msamel_any 0 0 0 A6 0 c6 [] 0 0 0 none 0 0 [] w6 l6.has (LvsHas.nil w6 none 0) rfl rfl (by decide) (by decide))
      rw [sameM_zero] at h8
      clear h6 h7 b6 l6 N5 D5
      unfold manV
      unfold manV at h8
      go_wp2_with fail
      refine h8.out.mono ?_
      rintro e w7 ⟨rfl, b7⟩
      have D7 := Lib.hid (D6.out.below api b7)
      have hb8 := (Below.refl w7.heap.size w7).alloc (Nat.le_refl _) (.cells #[.pointer none, .pointer none, .int .i64 0, .int .i64 0, .int .u64 0, .slice none 0 0, .slice none 0 0, .float .f64 0, .pointer none] 67)
      have N8 : Hid (IxNone (w7.alloc (.cells #[.pointer none, .pointer none, .int .i64 0, .int .i64 0, .int .u64 0, .slice none 0 0, .slice none 0 0, .float .f64 0, .pointer none] 67)) (ptr w7.heap.size)) := Lib.hid (Or.inr ⟨_, rfl, (Blok.new w7 67 _).cell 0⟩)
      have D8 := Lib.hid (D7.out.below api hb8)
      clear h8 b7 D6 D7 hb8
      go_wp2
      go_roundw
      case rel => exact ⟨j + 1, by omega, by go_num, N8.out, D8.out⟩
      case measure => simp [intOf]; omega
    · obtain rfl : j = 2 := by omega
      have s1 : ¬ ((2 : Nat) : Int) < 2 := by omega
      have t1 : decide (((2 : Nat) : Int) < 2) = false := by decide
      have hb2 := Below.refl wr.heap.size wr
      have h1 := Lib.hid (show Calls Tryz.prog 8 #[.pointer none, .agg #[.int .i64 0, .int .i64 0, .int .u64 0, .slice none 0 0], .float .f64 0] wr fun e w' => e = .returned (.tuple #[.pointer none, .int .i64 1]) ∧ Below wr.heap.size wr w' from xopen_nil (n := 0) (c := 0) (d := 0) (v := .slice none 0 0) (size_nil (none_nil _) _) 0)
      clear hj2 HN
      go_wp2_with fail
      refine h1.out.mono ?_
      rintro e w1 ⟨rfl, b1⟩
      have D1 := Lib.hid (HDR.out.below api b1)
      have h2 := Lib.hid (xo_neg api D1.out)
      clear h1 b1 HDR D1
      go_wp2_with fail
      refine h2.out.mono ?_
      rintro e w2 ⟨rfl, d2, -⟩
      have h3 := Lib.hid (xo_lost api nap d2)
      clear h2 d2
      go_wp2_with fail
      refine h3.out.mono ?_
      rintro e w3 ⟨rfl, ⟨D3, u3, d3⟩, -⟩
      have h4 := Lib.hid (xo_crash api d3 u3)
      clear h3 u3 d3
      go_wp2_with fail
      refine h4.out.mono ?_
      rintro e w4 ⟨D4, rfl, dn4, ok4, d4, -⟩
      have h5 := Lib.hid (xo_down api d4 ok4 dn4)
      clear h4 dn4 ok4 d4
      go_wp2_with fail
      refine h5.out.mono ?_
      rintro e w5 ⟨rfl, d5, -⟩
      have HB5 := Lib.hid d5.kept
      have h6 := Lib.hid (indexed_true api nap iap cap w5)
      clear h5 d5
      go_wp2_with fail
      refine h6.out.mono ?_
      rintro e w6 ⟨rfl, b6⟩
      have HB6 := Lib.hid (bj HB1.out (bj HB5.out b6))
      clear b6 h6
      go_wp2
      go_ret
      exact ⟨rfl, HB6.out⟩
end IxNoneW
end
end Go.Proofs.YtcpfkaehefcakaaGreat
