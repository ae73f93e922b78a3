/- PtDisk -/
import Derived.Test.YtmbhafabphogdaaGreatRk37
import Derived.Test.YtmbhafabphogdaaGreatRk36
import Derived.Test.YtmbhafabphogdaaGreatRk35
/- PtDisk -/
namespace Go.Proofs.YtmbhafabphogdaaGreat
set_option linter.unusedVariables false

structure UpD (D : DiskS) : Prop where
  down : D.down = false
  fails : D.fails = 0
  wf : WfP D
theorem UpD.count {D : DiskS} (h : UpD D) (k : Nat) : UpD { D with count := k } := ⟨h.down, h.fails, ⟨h.wf.synced, h.wf.used, h.wf.cap, h.wf.many⟩⟩
theorem upd_new {c : Nat} (hc : c ≤ 1048576) : UpD (newS c) := ⟨rfl, rfl, wp_new hc⟩
theorem ba_empty_append (s : ByteArray) : ByteArray.empty ++ s = s := by
  apply ByteArray.ext
  rw [ByteArray.data_append]
  apply Array.toList_inj.1
  rw [Array.toList_append]
  rfl
/-- What a laid file leaves. -/
structure Laid (D E : DiskS) (n s : ByteArray) : Prop where
  up : UpD E
  count : E.count = D.count
  cap : E.cap = D.cap
  used : usedS E.l = usedS D.l + s.size
  many : E.l.length = D.l.length + 1
  file : ∀ m, fileOf E.l m = if m = n then some ⟨n, s, s.size⟩ else fileOf D.l m
theorem lay_ok {D : DiskS} (h : UpD D) (hm : D.l.length < 400) {n s : ByteArray} (hn : nameB n = true) (hf : fileOf D.l n = none) (hr : usedS D.l + s.size ≤ D.cap) : ∃ E, layP D n s = (0, E) ∧ Laid D E n s := by
  have c1 := createS_of h.down h.fails hn hf hm
  have w1 := wp_create h.wf n
  rw [c1] at w1
  have g1 : ∀ m, fileOf (layS D.l ⟨n, ByteArray.empty, 0⟩) m = if m = n then some ⟨n, ByteArray.empty, 0⟩ else fileOf D.l m := fun m => fileOf_lay (f := ⟨n, ByteArray.empty, 0⟩) hf m
  have u1 : usedS (layS D.l ⟨n, ByteArray.empty, 0⟩) = usedS D.l := by rw [used_lay]; rfl
  obtain ⟨D1, hD1⟩ : ∃ D1 : DiskS, { D with l := layS D.l ⟨n, ByteArray.empty, 0⟩ } = D1 := ⟨_, rfl⟩
  have d1 : D1.down = false ∧ D1.fails = 0 ∧ D1.count = D.count ∧ D1.cap = D.cap ∧ D1.l = layS D.l ⟨n, ByteArray.empty, 0⟩ := by rw [← hD1]; exact ⟨h.down, h.fails, rfl, rfl, rfl⟩
  rw [hD1] at c1 w1
  have f1 : fileOf D1.l n = some ⟨n, ByteArray.empty, 0⟩ := by rw [d1.2.2.2.2, g1, if_pos rfl]
  have a1 := appendS_of (s := s) d1.1 d1.2.1 f1 (by rw [d1.2.2.2.2, u1, d1.2.2.2.1]; exact hr)
  have w2 := wp_append w1 n s
  rw [a1] at w2
  obtain ⟨D2, hD2⟩ : ∃ D2, appE D1 n s = D2 := ⟨_, rfl⟩
  have d2 : D2.down = false ∧ D2.fails = 0 ∧ D2.count = D.count ∧ D2.cap = D.cap ∧ D2.l = setF D1.l (findS D1.l n) (fun f => { f with data := f.data ++ s }) := by
    rw [← hD2]
    exact ⟨d1.1, d1.2.1, d1.2.2.1, d1.2.2.2.1, rfl⟩
  rw [hD2] at a1 w2
  have g2 : ∀ m, fileOf D2.l m = if m = n then some ⟨n, s, 0⟩ else fileOf D.l m := fun m => by
    rw [d2.2.2.2.2, fileOf_setF _ (by intro f; rfl), f1]
    by_cases e : m = n
    · rw [if_pos e, if_pos e]
      show some (FileS.mk n (ByteArray.empty ++ s) 0) = _
      rw [ba_empty_append]
    · rw [if_neg e, if_neg e, d1.2.2.2.2, g1, if_neg e]
  have hk1 : D1.l[findS D1.l n]? = some ⟨n, ByteArray.empty, 0⟩ := by rw [fileOf_at]; exact f1
  have u2 : usedS D2.l = usedS D.l + s.size := by
    have := used_setF D1.l _ _ (fun f => { f with data := f.data ++ s }) hk1
    rw [← d2.2.2.2.2] at this
    have e1 : usedS D1.l = usedS D.l := by rw [d1.2.2.2.2]; exact u1
    have e2 : (ByteArray.empty ++ s).size = s.size := by rw [ba_empty_append]
    have e3 : (ByteArray.empty).size = 0 := rfl
    simp only [e2, e3] at this
    omega
  have f2 : fileOf D2.l n = some ⟨n, s, 0⟩ := by rw [g2, if_pos rfl]
  have s1 := syncS_of d2.1 d2.2.1 f2
  have w3 := wp_sync w2 n
  rw [s1] at w3
  refine ⟨{ D2 with l := setF D2.l (findS D2.l n) (fun f => { f with synced := f.data.size }) }, ?_, ⟨d2.1, d2.2.1, w3⟩, d2.2.2.1, d2.2.2.2.1, ?_, ?_, fun m => ?_⟩
  · unfold layP
    rw [c1]
    simp only
    rw [if_neg (by decide), a1]
    simp only
    rw [if_neg (by decide)]
    exact s1
  · show usedS (setF _ _ _) = _
    rw [used_set_same _ (by intro f; rfl), u2]
  · show (setF _ _ _).length = _
    rw [setF_length, d2.2.2.2.2, setF_length, d1.2.2.2.2, lay_length]
  · show fileOf (setF _ _ _) m = _
    rw [fileOf_setF _ (by intro f; rfl), f2, g2]
    by_cases e : m = n
    · rw [if_pos e, if_pos e]; rfl
    · rw [if_neg e, if_neg e, if_neg e]
/-- What a written table leaves. -/
structure Wrote (D E : DiskS) (n : Nat) (l : List EntS) (t : ByteArray) : Prop where
  up : UpD E
  count : E.count = D.count
  cap : E.cap = D.cap
  used : usedS E.l = usedS D.l + t.size + (tbB l).size
  many : E.l.length = D.l.length + 2
  table : fileOf E.l (ptT n) = some ⟨ptT n, tbB l, (tbB l).size⟩
  bloom : fileOf E.l (ptB n) = some ⟨ptB n, t, t.size⟩
  other : ∀ m, m ≠ ptT n → m ≠ ptB n → fileOf E.l m = fileOf D.l m
theorem write_ok {D : DiskS} (h : UpD D) {n : Nat} (hn : n ≤ 999999) {l : List EntS} (hok : tbOk l = true) {t : ByteArray} (hm : D.l.length < 390) (h1 : fileOf D.l (ptT n) = none) (h2 : fileOf D.l (ptB n) = none) (hr : usedS D.l + t.size + (tbB l).size + 6000 ≤ D.cap) : ∃ E, writeP D n l t = (0, E) ∧ Wrote D E n l t := by
  obtain ⟨n1, n2⟩ := pt_name hn
  have hne := pt_ne hn hn
  obtain ⟨D1, e1, L1⟩ := lay_ok (s := t) h (by omega) n2 h2 (by omega)
  obtain ⟨D2, e2, L2⟩ := lay_ok (s := tbB l) L1.up (by rw [L1.many]; omega) n1 (by rw [L1.file, if_neg (fun e => hne e.symm)]; exact h1) (by rw [L1.used, L1.cap]; omega)
  refine ⟨D2, ?_, L2.up, by rw [L2.count, L1.count], by rw [L2.cap, L1.cap], by rw [L2.used, L1.used], by rw [L2.many, L1.many], by rw [L2.file, if_pos rfl], by rw [L2.file, if_neg hne, L1.file, if_pos rfl], fun m q1 q2 => by rw [L2.file, if_neg q1, L1.file, if_neg q2]⟩
  unfold writeP
  rw [if_neg (by rw [not_or]; exact ⟨pt_full hn, by simp [hok]⟩), if_neg (by simp [h.down]), if_neg (by omega), e1]
  simp only
  rw [if_neg (by decide), e2]
  simp only
  rw [if_neg (by decide)]
theorem write_full {D : DiskS} (h : UpD D) {n : Nat} (hn : n ≤ 999999) {l : List EntS} (hok : tbOk l = true) {t : ByteArray} (hr : D.cap < usedS D.l + t.size + (tbB l).size + 6000) : writeP D n l t = (60, D) := by
  unfold writeP
  rw [if_neg (by rw [not_or]; exact ⟨pt_full hn, by simp [hok]⟩), if_neg (by simp [h.down]), if_pos (by omega)]
theorem Wrote.has {D E : DiskS} {n : Nat} {l : List EntS} {t : ByteArray} (h : Wrote D E n l t) (hl : l.length ≤ 89478484) (hx : ∀ x ∈ l, EntOk x) (hok : tbOk l = true) : HasT E n l := by
  obtain ⟨k1, k2, k3⟩ := tb_back hl hx hok
  exact ⟨_, h.table, k1, k3⟩
/-- A file that is read whole. -/
theorem rdW_of {D : DiskS} {n : ByteArray} {f : FileS} (hd : D.down = false) (h : fileOf D.l n = some f) : rdW D n = (f.data, 0, { D with count := D.count + 1 }) := by
  unfold rdW
  rw [sizeS_of hd h, if_pos rfl]
  have := readS_of (a := 0) (k := f.data.size) hd h (by omega)
  rw [Nat.zero_add] at this
  have e : f.data.extract 0 f.data.size = f.data := by
    apply ByteArray.ext
    rw [ByteArray.data_extract]
    exact Array.extract_size
  rw [e] at this
  exact this
theorem rdW_none {D : DiskS} {n : ByteArray} (hd : D.down = false) (h : fileOf D.l n = none) : rdW D n = (ByteArray.empty, 4, D) := by
  have e : sizeS D n = (0, 4) := by
    unfold sizeS
    rw [if_neg (by simp [hd]), fileOf_at, h]
  unfold rdW
  rw [e, if_neg (by decide)]
theorem rdW_any {D : DiskS} (n : ByteArray) (hd : D.down = false) : ∃ j, j ≤ 1 ∧ (rdW D n).2.2 = { D with count := D.count + j } := by
  cases h : fileOf D.l n with
  | none => rw [rdW_none hd h]; exact ⟨0, by omega, rfl⟩
  | some f => rw [rdW_of hd h]; exact ⟨1, by omega, rfl⟩
theorem fileOf_drop_ne {n m : ByteArray} (hne : m ≠ n) : ∀ l : List FileS, fileOf (dropS l (findS l n)) m = fileOf l m
  | [] => rfl
  | x :: l => by
    have ih := fileOf_drop_ne hne l
    by_cases e : x.name = n
    · have e1 : findS (x :: l) n = 0 := by unfold findS; rw [List.findIdx_cons]; simp [e]
      rw [e1]
      show fileOf l m = _
      unfold fileOf
      rw [List.find?_cons, decide_eq_false (fun q => hne (by rw [← e, q]))]
    · have e1 : findS (x :: l) n = findS l n + 1 := by unfold findS; rw [List.findIdx_cons]; simp [e]
      rw [e1]
      show fileOf (x :: dropS l (findS l n)) m = _
      unfold fileOf at ih ⊢
      rw [List.find?_cons, List.find?_cons, ih]
/-- A file that is deleted. -/
theorem deleteS_of {D : DiskS} (h : UpD D) {n : ByteArray} {f : FileS} (hf : fileOf D.l n = some f) : ∃ E, deleteS D n = (0, E) ∧ UpD E ∧ E.count = D.count ∧ E.cap = D.cap ∧ E.l = dropS D.l (findS D.l n) ∧ usedS E.l + f.data.size = usedS D.l ∧ E.l.length + 1 = D.l.length ∧ ∀ m, m ≠ n → fileOf E.l m = fileOf D.l m := by
  have hlt : findS D.l n < D.l.length := fileOf_lt.2 (by rw [hf]; simp)
  have hk : D.l[findS D.l n]? = some f := by rw [fileOf_at]; exact hf
  have e : deleteS D n = (0, { D with l := dropS D.l (findS D.l n) }) := by
    unfold deleteS doneS goesS
    rw [if_neg (by simp [h.down]), if_pos hlt, h.fails, if_pos (by decide)]
  have w := wp_delete h.wf n
  rw [e] at w
  exact ⟨_, e, ⟨h.down, h.fails, w⟩, rfl, rfl, rfl, used_drop hk, by have := dropS_length hlt; show (dropS _ _).length + 1 = _; omega, fun m hm => fileOf_drop_ne hm D.l⟩
theorem dropP_none {D : DiskS} (h : UpD D) {n : Int} (h1 : fileOf D.l (ptT n) = none) (h2 : fileOf D.l (ptB n) = none) : dropP D n = (0, D) := by
  unfold dropP
  rw [deleteS_no h.down h1]
  simp only
  rw [deleteS_no h.down h2, if_neg (by decide)]
  simp only
  rw [if_neg (by decide)]
theorem dropP_both {D : DiskS} (h : UpD D) {n : Nat} (hn : n ≤ 999999) {f g : FileS} (h1 : fileOf D.l (ptT n) = some f) (h2 : fileOf D.l (ptB n) = some g) : ∃ E, dropP D n = (0, E) ∧ UpD E ∧ E.cap = D.cap ∧ E.count = D.count ∧ E.l.length + 2 = D.l.length ∧ usedS E.l + f.data.size + g.data.size = usedS D.l := by
  obtain ⟨D1, e1, u1, c1, p1, l1, s1, z1, o1⟩ := deleteS_of h h1
  have g1 : fileOf D1.l (ptB n) = some g := by rw [o1 _ (pt_ne hn hn)]; exact h2
  obtain ⟨D2, e2, u2, c2, p2, l2, s2, z2, o2⟩ := deleteS_of u1 g1
  refine ⟨D2, ?_, u2, by rw [p2, p1], by rw [c2, c1], by omega, by omega⟩
  unfold dropP
  rw [e1]
  simp only
  rw [e2, if_neg (by decide)]
  simp only
  rw [if_neg (by decide)]
theorem fileOf_none_nil {l : List FileS} (h : l.length = 0) (n : ByteArray) : fileOf l n = none := by rw [List.length_eq_zero_iff.1 h]; rfl
end Go.Proofs.YtmbhafabphogdaaGreat
