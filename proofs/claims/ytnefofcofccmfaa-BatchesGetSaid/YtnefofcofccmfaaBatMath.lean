/- Batches as plain data: what is wrong with one, its bytes, what is got of bytes. No program. -/
import Derived.Test.YtnefofcofccmfaaRaws
import Derived.Test.YtnefofcofccmfaaEventsBytes
namespace Go.Proofs.Ytnefofcofccmfaa
open Go.RowKit
set_option linter.unusedVariables false

def echk (x : RawS) : Int := chk x.t x.d
def evOf (x : RawS) : ByteArray := evB x.t x.d x.b
/-- What is wrong with events, the first of them that has something. -/
def lchk : List RawS → Int
  | [] => 0
  | x :: l => if echk x = 0 then lchk l else echk x
/-- What is wrong with a batch (P9.1). -/
def bchk (s : ByteArray) (f : Int) (l : List RawS) : Int :=
  if s.size = 0 ∨ l.length = 0 then 2 else if 32 < s.size ∨ 8 < l.length then 3 else if f < 0 ∨ 1073741824 - (l.length : Int) < f then 2 else lchk l
theorem lchk_zero : ∀ {l : List RawS}, lchk l = 0 ↔ ∀ x ∈ l, echk x = 0
  | [] => by simp [lchk]
  | x :: l => by
    unfold lchk
    by_cases h : echk x = 0
    · rw [if_pos h, lchk_zero]; simp [h]
    · rw [if_neg h]; simp [h]
theorem lchk_drop : ∀ {l : List RawS} {k : Nat}, (∀ i x, i < k → l[i]? = some x → echk x = 0) → lchk l = lchk (l.drop k)
  | [], k, h => by simp
  | x :: l, 0, h => rfl
  | x :: l, k + 1, h => by
    rw [List.drop_succ_cons, ← lchk_drop (l := l) (k := k) (fun i y hi hy => h (i + 1) y (by omega) (by simpa using hy))]
    unfold lchk
    rw [if_pos (h 0 x (by omega) rfl)]
    cases l <;> rfl
theorem lchk_at {l : List RawS} {k : Nat} {x : RawS} (h : ∀ i x, i < k → l[i]? = some x → echk x = 0) (hx : l[k]? = some x) (he : ¬ echk x = 0) : lchk l = echk x := by
  obtain ⟨hk, e⟩ := List.getElem?_eq_some_iff.1 hx
  rw [lchk_drop h, List.drop_eq_getElem_cons hk, e, lchk, if_neg he]
theorem lchk_all {l : List RawS} {k : Nat} (h : ∀ i x, i < k → l[i]? = some x → echk x = 0) (hk : l.length ≤ k) : lchk l = 0 := by
  rw [lchk_drop h, List.drop_eq_nil_of_le hk]; rfl
theorem lchk_cases : ∀ l : List RawS, lchk l = 0 ∨ lchk l = 2 ∨ lchk l = 3
  | [] => Or.inl rfl
  | x :: l => by
    unfold lchk
    by_cases h : echk x = 0
    · rw [if_pos h]; exact lchk_cases l
    · rw [if_neg h]
      rcases chk_cases x.t x.d with h' | h'
      · exact absurd h' h
      · exact Or.inr h'
theorem bchk_arg {s : ByteArray} {f : Int} {l : List RawS} (h : s.size = 0 ∨ l.length = 0) : bchk s f l = 2 := by unfold bchk; rw [if_pos h]
theorem bchk_long {s : ByteArray} {f : Int} {l : List RawS} (h : ¬ (s.size = 0 ∨ l.length = 0)) (h2 : 32 < s.size ∨ 8 < l.length) : bchk s f l = 3 := by unfold bchk; rw [if_neg h, if_pos h2]
theorem bchk_first {s : ByteArray} {f : Int} {l : List RawS} (h : ¬ (s.size = 0 ∨ l.length = 0)) (h2 : ¬ (32 < s.size ∨ 8 < l.length)) (h3 : f < 0 ∨ 1073741824 - (l.length : Int) < f) : bchk s f l = 2 := by unfold bchk; rw [if_neg h, if_neg h2, if_pos h3]
theorem bchk_evs {s : ByteArray} {f : Int} {l : List RawS} (h : ¬ (s.size = 0 ∨ l.length = 0)) (h2 : ¬ (32 < s.size ∨ 8 < l.length)) (h3 : ¬ (f < 0 ∨ 1073741824 - (l.length : Int) < f)) : bchk s f l = lchk l := by unfold bchk; rw [if_neg h, if_neg h2, if_neg h3]
theorem bchk_zero {s : ByteArray} {f : Int} {l : List RawS} : bchk s f l = 0 ↔ (1 ≤ s.size ∧ s.size ≤ 32 ∧ 1 ≤ l.length ∧ l.length ≤ 8 ∧ 0 ≤ f ∧ f ≤ 1073741824 - (l.length : Int) ∧ ∀ x ∈ l, echk x = 0) := by
  by_cases h : s.size = 0 ∨ l.length = 0
  · rw [bchk_arg h]; omega
  · by_cases h2 : 32 < s.size ∨ 8 < l.length
    · rw [bchk_long h h2]; omega
    · by_cases h3 : f < 0 ∨ 1073741824 - (l.length : Int) < f
      · rw [bchk_first h h2 h3]; omega
      · rw [bchk_evs h h2 h3, lchk_zero]
        constructor
        · intro hx; exact ⟨by omega, by omega, by omega, by omega, by omega, by omega, hx⟩
        · rintro ⟨_, _, _, _, _, _, hx⟩; exact hx
theorem bchk_cases (s : ByteArray) (f : Int) (l : List RawS) : bchk s f l = 0 ∨ bchk s f l = 2 ∨ bchk s f l = 3 := by
  by_cases h : s.size = 0 ∨ l.length = 0
  · rw [bchk_arg h]; omega
  · by_cases h2 : 32 < s.size ∨ 8 < l.length
    · rw [bchk_long h h2]; omega
    · by_cases h3 : f < 0 ∨ 1073741824 - (l.length : Int) < f
      · rw [bchk_first h h2 h3]; omega
      · rw [bchk_evs h h2 h3]; exact lchk_cases l

/-- Events' bytes, one behind the other. -/
def evsB : List RawS → ByteArray
  | [] => ByteArray.empty
  | x :: l => evOf x ++ evsB l
theorem evsB_snoc : ∀ (l : List RawS) (x : RawS), evsB (l ++ [x]) = evsB l ++ evOf x
  | [], x => by simp [evsB]
  | y :: l, x => by rw [List.cons_append, evsB, evsB, evsB_snoc l x, ByteArray.append_assoc]
theorem evsB_size {l : List RawS} (h : ∀ x ∈ l, echk x = 0) : (evsB l).size ≤ l.length * 228 := by
  induction l with
  | nil => simp [evsB]
  | cons x l ih =>
    have h1 := ih (fun y hy => h y (List.mem_cons_of_mem _ hy))
    have h2 := chk_zero.1 (h x (List.mem_cons_self ..))
    rw [evsB, ByteArray.size_append, evOf, evB_size, List.length_cons]
    omega
def headB (s : ByteArray) (f n : Nat) : ByteArray := bs (be 2 s.size) ++ s ++ bs (be 8 f) ++ bs (be 1 n)
theorem headB_size (s : ByteArray) (f n : Nat) : (headB s f n).size = s.size + 11 := by
  unfold headB
  simp only [ByteArray.size_append, bs_size, be_length]
  omega
/-- A batch's bytes. -/
def batB (s : ByteArray) (f : Nat) (l : List RawS) : ByteArray := headB s f l.length ++ evsB l
def batS (s : ByteArray) (f : Int) (l : List RawS) : ByteArray := if bchk s f l = 0 then batB s f.toNat l else ByteArray.empty
theorem batB_size {s : ByteArray} {f : Int} {l : List RawS} (h : bchk s f l = 0) : 1 ≤ (batB s f.toNat l).size ∧ (batB s f.toNat l).size ≤ 2000 := by
  obtain ⟨h1, h2, h3, h4, h5, h6, h7⟩ := bchk_zero.1 h
  have := evsB_size h7
  unfold batB
  rw [ByteArray.size_append, headB_size]
  omega

/-- So many events, read one behind the other. -/
def evsR : Nat → ByteArray → Option (List RawS × ByteArray)
  | 0, s => some ([], s)
  | n + 1, s => if erOk s = true then (evsR n (erR s)).map (fun p => (⟨erT s, erD s, erW s⟩ :: p.1, p.2)) else none
structure EvOk (x : RawS) : Prop where
  c : echk x = 0
  b : x.b < 18446744073709551616
theorem evsR_form : ∀ {n : Nat} {s : ByteArray} {l : List RawS} {r : ByteArray}, evsR n s = some (l, r) → evsB l ++ r = s ∧ l.length = n ∧ ∀ x ∈ l, EvOk x
  | 0, s, l, r, h => by
    simp only [evsR, Option.some.injEq, Prod.mk.injEq] at h
    obtain ⟨rfl, rfl⟩ := h
    exact ⟨by simp [evsB], rfl, fun x hx => by cases hx⟩
  | n + 1, s, l, r, h => by
    unfold evsR at h
    by_cases ho : erOk s = true
    · rw [if_pos ho] at h
      cases hr : evsR n (erR s) with
      | none => rw [hr] at h; cases h
      | some p =>
        obtain ⟨l', r'⟩ := p
        rw [hr] at h
        simp only [Option.map_some, Option.some.injEq, Prod.mk.injEq] at h
        obtain ⟨rfl, rfl⟩ := h
        obtain ⟨e1, e2, e3⟩ := evsR_form hr
        obtain ⟨f1, f2⟩ := er_form ho
        refine ⟨?_, by rw [List.length_cons, e2], fun x hx => ?_⟩
        · rw [evsB, ByteArray.append_assoc, e1]; exact f2
        · rcases List.mem_cons.1 hx with rfl | hx
          · exact ⟨f1, erW_lt s⟩
          · exact e3 x hx
    · rw [if_neg ho] at h; cases h
theorem evsR_back : ∀ {l : List RawS} {r : ByteArray}, (∀ x ∈ l, EvOk x) → evsR l.length (evsB l ++ r) = some (l, r)
  | [], r, _ => by simp [evsR, evsB]
  | x :: l, r, h => by
    have hx := h x (List.mem_cons_self ..)
    obtain ⟨o1, o2, o3, o4, o5⟩ := er_back x.t x.d x.b (evsB l ++ r) hx.c hx.b
    rw [List.length_cons, evsR, evsB, ByteArray.append_assoc]
    unfold evOf
    rw [if_pos o1, o2, o3, o4, o5, evsR_back (fun y hy => h y (List.mem_cons_of_mem _ hy))]
    rfl
/-- A round more. -/
theorem evsR_step {n : Nat} {s : ByteArray} (h : erOk s = true) : evsR (n + 1) s = (evsR n (erR s)).map (fun p => (⟨erT s, erD s, erW s⟩ :: p.1, p.2)) := by rw [evsR, if_pos h]
theorem evsR_no {n : Nat} {s : ByteArray} (h : erOk s = false) : evsR (n + 1) s = none := by rw [evsR, if_neg (by rw [h]; decide)]

/-- How many events the bytes behind the stream's name say there are. -/
def bgM (s : ByteArray) : Nat := if h : 8 < (rdB s).size then ((rdB s)[8]).toNat else 0
theorem bgM_lt (s : ByteArray) : bgM s < 256 := by
  unfold bgM
  split
  · exact UInt8.toNat_lt _
  · omega
def bgBody (s : ByteArray) : ByteArray := (rdB s).extract 9 (rdB s).size
def bgHead (s : ByteArray) : Bool := rdOk s && decide (9 ≤ (rdB s).size) && decide (getS (rdB s) ≤ 1073741824)
def bgEvs (s : ByteArray) : Option (List RawS × ByteArray) := evsR (bgM s) (bgBody s)
/-- Whether bytes are a batch's that may be (P9.2), and which. -/
def bgOk (s : ByteArray) : Bool := bgHead s && match bgEvs s with
  | none => false
  | some (l, r) => decide (r.size = 0) && decide (bchk (rdA s) (getS (rdB s) : Nat) l = 0)
def bgS (s : ByteArray) : ByteArray := if bgOk s = true then rdA s else ByteArray.empty
def bgF (s : ByteArray) : Int := if bgOk s = true then (getS (rdB s) : Nat) else 0
def bgL (s : ByteArray) : List RawS := if bgOk s = true then ((bgEvs s).map (·.1)).getD [] else []
def bgE (s : ByteArray) : Int := if bgOk s = true then 0 else 10
theorem bg_no {s : ByteArray} (h : bgOk s = false) : bgS s = ByteArray.empty ∧ bgF s = 0 ∧ bgL s = [] ∧ bgE s = 10 := by simp [bgS, bgF, bgL, bgE, h]
theorem bg_yes {s : ByteArray} (h : bgOk s = true) : bgHead s = true ∧ bgS s = rdA s ∧ bgF s = (getS (rdB s) : Nat) ∧ bgE s = 0 ∧ bgEvs s = some (bgL s, ByteArray.empty) ∧ bchk (bgS s) (bgF s) (bgL s) = 0 := by
  have h1 : bgS s = rdA s ∧ bgF s = (getS (rdB s) : Nat) ∧ bgE s = 0 ∧ bgL s = ((bgEvs s).map (·.1)).getD [] := by simp [bgS, bgF, bgE, bgL, h]
  obtain ⟨a1, a2, a3, a4⟩ := h1
  unfold bgOk at h
  rw [Bool.and_eq_true] at h
  obtain ⟨h0, h⟩ := h
  refine ⟨h0, a1, a2, a3, ?_⟩
  rw [a1, a2, a4]
  cases he : bgEvs s with
  | none => rw [he] at h; cases h
  | some p =>
    obtain ⟨l, r⟩ := p
    rw [he] at h
    simp only [Bool.and_eq_true, decide_eq_true_eq] at h
    obtain ⟨hr, hc⟩ := h
    have : r = ByteArray.empty := ByteArray.ext (Array.eq_empty_of_size_eq_zero hr)
    subst this
    exact ⟨rfl, hc⟩
theorem bg_of {s : ByteArray} {l : List RawS} (h : bgHead s = true) (he : bgEvs s = some (l, ByteArray.empty)) (hc : bchk (rdA s) (getS (rdB s) : Nat) l = 0) : bgOk s = true := by
  unfold bgOk
  rw [h, he]
  simp [hc]
theorem bg_rest {s : ByteArray} {l : List RawS} {r : ByteArray} (he : bgEvs s = some (l, r)) (hc : ¬ r.size = 0 ∨ ¬ bchk (rdA s) (getS (rdB s) : Nat) l = 0) : bgOk s = false := by
  unfold bgOk
  rw [he]
  rcases hc with h | h <;> simp [h]
theorem bg_none {s : ByteArray} (he : bgEvs s = none) : bgOk s = false := by
  unfold bgOk
  rw [he]
  simp
theorem bg_head {s : ByteArray} (h : bgHead s = false) : bgOk s = false := by
  unfold bgOk
  rw [h]
  rfl

/-- The bytes that stand there are those of what is read. -/
theorem bg_form {s : ByteArray} {l : List RawS} {r : ByteArray} (h : bgHead s = true) (he : bgEvs s = some (l, r)) : batB (rdA s) (getS (rdB s)) l ++ r = s := by
  unfold bgHead at h
  simp only [Bool.and_eq_true, decide_eq_true_eq] at h
  obtain ⟨⟨h1, h2⟩, _⟩ := h
  obtain ⟨e1, e2, _⟩ := evsR_form he
  have w1 := rd_whole h1
  have w2 := get_whole (L := rdB s) (by omega)
  have w3 : bs (be 1 l.length) = (rdB s).extract 8 9 := by
    rw [e2]
    unfold bgM
    rw [dif_pos (by omega)]
    apply ByteArray.ext
    apply Array.toList_inj.1
    have hl : (rdB s).data.toList.length = (rdB s).size := data_len _
    rw [ByteArray.data_extract, Array.toList_extract, List.extract, List.drop_eq_getElem_cons (by omega)]
    simp [bs, be]
    rfl
  have w4 : (rdB s).extract 8 9 ++ bgBody s = (rdB s).extract 8 (rdB s).size := by
    unfold bgBody
    rw [ByteArray.extract_append_extract, Nat.min_eq_left (by omega), Nat.max_eq_right (by omega)]
  unfold batB headB
  simp only [ByteArray.append_assoc]
  rw [e1, w3, w4, w2, ← ByteArray.append_assoc, w1]
/-- And what is put is read so. -/
theorem bg_parse (s : ByteArray) (f : Nat) (l : List RawS) (r : ByteArray) (hs : s.size ≤ 65535) (hf : f ≤ 1073741824) (hl : l.length < 256) (hx : ∀ x ∈ l, EvOk x) :
    bgHead (batB s f l ++ r) = true ∧ rdA (batB s f l ++ r) = s ∧ getS (rdB (batB s f l ++ r)) = f ∧ bgEvs (batB s f l ++ r) = some (l, r) := by
  have e : batB s f l ++ r = bs (be 2 s.size) ++ s ++ (bs (be 8 f) ++ (bs (be 1 l.length) ++ (evsB l ++ r))) := by
    unfold batB headB
    simp only [ByteArray.append_assoc]
  obtain ⟨a1, a2, a3⟩ := rd_put (t := s) (r := bs (be 8 f) ++ (bs (be 1 l.length) ++ (evsB l ++ r))) hs
  obtain ⟨g1, g2⟩ := get_put (b := f) (by omega) (bs (be 1 l.length) ++ (evsB l ++ r))
  have hz : (bs (be 8 f) ++ (bs (be 1 l.length) ++ (evsB l ++ r))).size = 9 + (evsB l ++ r).size := by simp only [ByteArray.size_append, bs_size, be_length]; omega
  have hd : (bs (be 8 f) ++ (bs (be 1 l.length) ++ (evsB l ++ r))).data.toList = be 8 f ++ (UInt8.ofNat l.length :: (evsB l ++ r).data.toList) := by
    simp only [ByteArray.data_append, Array.toList_append, bs, be]
    simp
  rw [e]
  refine ⟨?_, a1, by rw [a2, g1], ?_⟩
  · unfold bgHead
    rw [a2, a3, g1, hz]
    simp only [Bool.true_and, Bool.and_eq_true, decide_eq_true_eq]
    omega
  · unfold bgEvs
    have hm : bgM (bs (be 2 s.size) ++ s ++ (bs (be 8 f) ++ (bs (be 1 l.length) ++ (evsB l ++ r)))) = l.length := by
      unfold bgM
      rw [a2, dif_pos (by omega)]
      have q : ∀ (x : ByteArray) (h : 8 < x.size) (y : UInt8), x.data.toList[8]? = some y → (x[8]'h) = y := fun x h y hy => by
        have hl' : 8 < x.data.toList.length := by rw [data_len]; exact h
        rw [List.getElem?_eq_getElem hl'] at hy
        exact Option.some.inj hy
      rw [q _ _ (UInt8.ofNat l.length) (by rw [hd, List.getElem?_append_right (by rw [be_length]; omega), be_length]; rfl), UInt8.toNat_ofNat']
      exact Nat.mod_eq_of_lt hl
    have hb : bgBody (bs (be 2 s.size) ++ s ++ (bs (be 8 f) ++ (bs (be 1 l.length) ++ (evsB l ++ r)))) = evsB l ++ r := by
      unfold bgBody
      rw [a2]
      apply ByteArray.ext
      apply Array.toList_inj.1
      rw [ByteArray.data_extract, Array.toList_extract, hd, hz, List.extract, List.take_of_length_le (by rw [List.length_drop, List.length_append, be_length, List.length_cons, data_len]; omega)]
      rw [show (9 : Nat) = (be 8 f).length + 1 by rw [be_length], List.drop_append, List.drop_of_length_le (by omega), Nat.add_sub_cancel_left]
      rfl
    rw [hm, hb]
    exact evsR_back hx

theorem evOk_of {s : ByteArray} {f : Int} {l : List RawS} (h : bchk s f l = 0) (hb : ∀ x ∈ l, x.b < 18446744073709551616) : ∀ x ∈ l, EvOk x := fun x hx => ⟨(bchk_zero.1 h).2.2.2.2.2.2 x hx, hb x hx⟩
/-- What is put is got (P9.3). -/
theorem bg_back {s : ByteArray} {f : Int} {l : List RawS} (h : bchk s f l = 0) (hb : ∀ x ∈ l, x.b < 18446744073709551616) :
    bgOk (batB s f.toNat l) = true ∧ bgS (batB s f.toNat l) = s ∧ bgF (batB s f.toNat l) = f ∧ bgL (batB s f.toNat l) = l := by
  obtain ⟨h1, h2, h3, h4, h5, h6, h7⟩ := bchk_zero.1 h
  obtain ⟨p1, p2, p3, p4⟩ := bg_parse s f.toNat l ByteArray.empty (by omega) (by omega) (by omega) (evOk_of h hb)
  rw [ByteArray.append_empty] at p1 p2 p3 p4
  have hf : ((f.toNat : Nat) : Int) = f := by omega
  have ho := bg_of p1 p4 (by rw [p2, p3, hf]; exact h)
  obtain ⟨_, q1, q2, _, q4, _⟩ := bg_yes ho
  refine ⟨ho, by rw [q1, p2], by rw [q2, p3, hf], ?_⟩
  rw [p4] at q4
  simp only [Option.some.injEq, Prod.mk.injEq] at q4
  exact q4.1.symm
/-- With something behind it it is not. -/
theorem bg_more {s : ByteArray} {f : Int} {l : List RawS} (h : bchk s f l = 0) (hb : ∀ x ∈ l, x.b < 18446744073709551616) (r : ByteArray) (hr : ¬ r.size = 0) : bgOk (batB s f.toNat l ++ r) = false := by
  obtain ⟨h1, h2, h3, h4, h5, h6, h7⟩ := bchk_zero.1 h
  obtain ⟨p1, p2, p3, p4⟩ := bg_parse s f.toNat l r (by omega) (by omega) (by omega) (evOk_of h hb)
  exact bg_rest p4 (Or.inl hr)
/-- What is got is put as the bytes that stood there. -/
theorem bg_put {t : ByteArray} (h : bgOk t = true) : bchk (bgS t) (bgF t) (bgL t) = 0 ∧ batB (bgS t) (bgF t).toNat (bgL t) = t ∧ ∀ x ∈ bgL t, EvOk x := by
  obtain ⟨q0, q1, q2, _, q4, q5⟩ := bg_yes h
  have hf := bg_form q0 q4
  rw [ByteArray.append_empty] at hf
  refine ⟨q5, ?_, (evsR_form q4).2.2⟩
  rw [q1, q2, Int.toNat_natCast]
  exact hf
/-- Cut off it is not. -/
theorem bg_cut {s : ByteArray} {f : Int} {l : List RawS} (h : bchk s f l = 0) (hb : ∀ x ∈ l, x.b < 18446744073709551616) (c : Nat) (hc : c < (batB s f.toNat l).size) : bgOk ((batB s f.toNat l).extract 0 c) = false := by
  cases e : bgOk ((batB s f.toNat l).extract 0 c) with
  | false => rfl
  | true =>
    exfalso
    obtain ⟨h1, h2, h3, h4, h5, h6, h7⟩ := bchk_zero.1 h
    obtain ⟨p1, p2, p3, p4⟩ := bg_parse s f.toNat l ByteArray.empty (by omega) (by omega) (by omega) (evOk_of h hb)
    rw [ByteArray.append_empty] at p1 p2 p3 p4
    obtain ⟨q1, q2, q3⟩ := bg_put e
    obtain ⟨k1, k2, k3, k4, k5, k6, k7⟩ := bchk_zero.1 q1
    have w : (batB s f.toNat l).extract 0 c ++ (batB s f.toNat l).extract c (batB s f.toNat l).size = batB s f.toNat l := by
      rw [ByteArray.extract_append_extract, Nat.min_eq_left (by omega), Nat.max_eq_right (by omega), ByteArray.extract_zero_size]
    generalize (batB s f.toNat l).extract 0 c = t at *
    obtain ⟨m1, m2, m3, m4⟩ := bg_parse (bgS t) (bgF t).toNat (bgL t) ((batB s f.toNat l).extract c (batB s f.toNat l).size) (by omega) (by omega) (by omega) q3
    rw [q2, w, p4] at m4
    simp only [Option.some.injEq, Prod.mk.injEq] at m4
    have := congrArg ByteArray.size m4.2
    rw [ByteArray.size_extract] at this
    simp at this
    omega
end Go.Proofs.Ytnefofcofccmfaa
