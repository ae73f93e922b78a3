/- DiskMath, NumsMath, SumsMath -/
import Derived.WalkKit
/- DiskMath -/
namespace Go.Proofs.YtbhgngimebecdaaGreat

/-- A file. -/
structure FileS where
  name : ByteArray
  data : ByteArray
  synced : Nat
/-- A disk: fails: behind so many changes it fails, less one (0: it does not). -/
structure DiskS where
  cap : Nat
  l : List FileS
  count : Nat
  down : Bool
  starts : Nat
  fails : Nat
  keep : List Int

def nameB (n : ByteArray) : Bool := decide (0 < n.size) && decide (n.size ≤ 12)
/-- Where a file is; as many as there are: nowhere. -/
def findS (l : List FileS) (n : ByteArray) : Nat := l.findIdx (fun f => decide (f.name = n))
def usedS (l : List FileS) : Nat := (l.map (fun f => f.data.size)).sum
def lessB (a b : ByteArray) : Bool := Op.bytesLess a.toList b.toList
/-- How many files stand ahead of a name. -/
def aheadS (l : List FileS) (n : ByteArray) : Nat := l.findIdx (fun f => !lessB f.name n)
def layS (l : List FileS) (f : FileS) : List FileS := l.take (aheadS l f.name) ++ [f] ++ l.drop (aheadS l f.name)
def dropS (l : List FileS) (i : Nat) : List FileS := l.take i ++ l.drop (i + 1)
/-- How many bytes of a file stay. -/
def staysS (f : FileS) (k : Int) : Nat := f.synced + min k.toNat (f.data.size - f.synced)
def crashF (f : FileS) (k : Int) : FileS := ⟨f.name, f.data.extract 0 (staysS f k), staysS f k⟩
/-- The first n of them have been cut. -/
def crashK (l : List FileS) (keep : List Int) (n : Nat) : List FileS := l.mapIdx (fun i f => if i < n then crashF f (keep.getD i 0) else f)
def crashL (l : List FileS) (keep : List Int) : List FileS := l.mapIdx (fun i f => crashF f (keep.getD i 0))
def sinkS (D : DiskS) (keep : List Int) : DiskS := { D with l := crashL D.l keep, down := true, fails := 0, keep := [] }
/-- A change that would be done: is it? -/
def goesS (D : DiskS) : Bool := !decide (D.fails = 1)
def nextS (D : DiskS) : DiskS := { D with fails := D.fails - 1 }
/-- A change that would be done: done, or the disk sinks. -/
def doneS (D : DiskS) (E : DiskS) : Nat × DiskS := if goesS D then (0, { E with fails := D.fails - 1 }) else (61, sinkS D D.keep)

def crashS (D : DiskS) (keep : List Int) : Nat × DiskS := if D.down then (61, D) else (0, sinkS D keep)
def startS (D : DiskS) : Nat × DiskS := if D.down then (0, { D with down := false, starts := D.starts + 1 }) else (2, D)
def failS (D : DiskS) (n : Int) (keep : List Int) : Nat × DiskS := if D.down then (61, D) else if n < 0 then (2, D) else (0, { D with fails := min n.toNat 1099511627776 + 1, keep := keep })
def createS (D : DiskS) (n : ByteArray) : Nat × DiskS :=
  if D.down then (61, D) else if !nameB n then (2, D) else if findS D.l n < D.l.length then (62, D) else if 400 ≤ D.l.length then (60, D)
  else doneS D { D with l := layS D.l ⟨n, ByteArray.empty, 0⟩ }
def setF (l : List FileS) (i : Nat) (h : FileS → FileS) : List FileS := l.modify i h
def appE (D : DiskS) (n s : ByteArray) : DiskS := { D with l := setF D.l (findS D.l n) (fun f => { f with data := f.data ++ s }) }
def appendS (D : DiskS) (n s : ByteArray) : Nat × DiskS :=
  if D.down then (61, D) else if findS D.l n < D.l.length then (if D.cap < usedS D.l + s.size then (60, D)
    else if goesS D then (0, nextS (appE D n s)) else (61, sinkS (appE D n s) D.keep)) else (4, D)
def readS (D : DiskS) (n : ByteArray) (a k : Int) : ByteArray × Nat × DiskS :=
  if D.down then (ByteArray.empty, 61, D) else
    let E := { D with count := D.count + 1 }
    match D.l[findS D.l n]? with
    | none => (ByteArray.empty, 4, E)
    | some f => if a < 0 ∨ k < 0 ∨ (f.data.size : Int) < a ∨ (f.data.size : Int) - a < k then (ByteArray.empty, 2, E) else (f.data.extract a.toNat (a.toNat + k.toNat), 0, E)
def syncS (D : DiskS) (n : ByteArray) : Nat × DiskS :=
  if D.down then (61, D) else if findS D.l n < D.l.length then doneS D { D with l := setF D.l (findS D.l n) (fun f => { f with synced := f.data.size }) } else (4, D)
/-- A file goes by another name. -/
def renameL (l : List FileS) (i : Nat) (to : ByteArray) : List FileS :=
  match l[i]? with
  | none => l
  | some f => layS (let m := dropS l i; if findS m to < m.length then dropS m (findS m to) else m) { f with name := to }
def renameS (D : DiskS) (n to : ByteArray) : Nat × DiskS :=
  if D.down then (61, D) else if findS D.l n < D.l.length then (if !nameB to then (2, D) else doneS D { D with l := if n = to then D.l else renameL D.l (findS D.l n) to }) else (4, D)
def deleteS (D : DiskS) (n : ByteArray) : Nat × DiskS :=
  if D.down then (61, D) else if findS D.l n < D.l.length then doneS D { D with l := dropS D.l (findS D.l n) } else (4, D)
def sizeS (D : DiskS) (n : ByteArray) : Nat × Nat :=
  if D.down then (0, 61) else match D.l[findS D.l n]? with
    | none => (0, 4)
    | some f => (f.data.size, 0)
/-- Bytes with others laid over them from a place on, k of these at most. -/
def overK (d s : ByteArray) (a k : Nat) : List UInt8 := d.data.toList.mapIdx (fun j c => if a ≤ j ∧ j < a + min k s.size then s.data.toList.getD (j - a) 0 else c)
def overS (d s : ByteArray) (a : Nat) : ByteArray := ⟨(overK d s a s.size).toArray⟩
def spoilS (D : DiskS) (n : ByteArray) (a : Int) (s : ByteArray) : Nat × DiskS :=
  if findS D.l n < D.l.length then (if a < 0 then (2, D) else (0, { D with l := setF D.l (findS D.l n) (fun f => { f with data := overS f.data s a.toNat }) })) else (4, D)
def cutS (D : DiskS) (n : ByteArray) (k : Int) : Nat × DiskS :=
  if findS D.l n < D.l.length then (if k < 0 then (2, D) else (0, { D with l := setF D.l (findS D.l n) (fun f => ⟨f.name, f.data.extract 0 (min k.toNat f.data.size), min f.synced (min k.toNat f.data.size)⟩) })) else (4, D)

/-- What a disk is like, always. -/
structure WfD (D : DiskS) : Prop where
  cap : D.cap ≤ 1048576
  used : usedS D.l ≤ D.cap
  many : D.l.length ≤ 400
  names : ∀ f ∈ D.l, 0 < f.name.size ∧ f.name.size ≤ 12
  synced : ∀ f ∈ D.l, f.synced ≤ f.data.size
  fails : D.fails ≤ 1099511627777
  order : D.l.Pairwise (fun f g => lessB f.name g.name = true)
end Go.Proofs.YtbhgngimebecdaaGreat

/- NumsMath -/
namespace Go.Proofs.YtbhgngimebecdaaGreat

/-- The k lowest bytes of n, the highest of them first. -/
def be : Nat → Nat → List UInt8
  | 0, _ => []
  | k + 1, n => UInt8.ofNat (n / 256 ^ k) :: be k n

/-- The number of bytes, the highest first. -/
def un (l : List UInt8) : Nat := l.foldl (fun a c => a * 256 + c.toNat) 0

theorem be_length : ∀ k n : Nat, (be k n).length = k
  | 0, _ => rfl
  | k + 1, n => by simp [be, be_length k n]

theorem un_nil : un [] = 0 := rfl
theorem un_snoc (l : List UInt8) (c : UInt8) : un (l ++ [c]) = un l * 256 + c.toNat := by simp [un]
theorem fold_un : ∀ (l : List UInt8) (a : Nat), l.foldl (fun a c => a * 256 + c.toNat) a = a * 256 ^ l.length + un l
  | [], a => by simp [un]
  | c :: l, a => by
    have h1 := fold_un l (a * 256 + c.toNat)
    have h2 := fold_un l (0 * 256 + c.toNat)
    simp only [un, List.foldl_cons, List.length_cons] at *
    rw [h1, h2, Nat.pow_succ]
    simp only [Nat.add_mul, Nat.zero_mul, Nat.zero_add]
    rw [Nat.mul_assoc, Nat.mul_comm 256]
    omega
theorem un_cons (c : UInt8) (l : List UInt8) : un (c :: l) = c.toNat * 256 ^ l.length + un l := by
  have h := fold_un l (0 * 256 + c.toNat)
  simp only [un, List.foldl_cons] at *
  rw [h]; simp
theorem un_lt : ∀ l : List UInt8, un l < 256 ^ l.length
  | [] => by decide
  | c :: l => by
    have h := un_lt l
    have hc := c.toNat_lt
    rw [un_cons, List.length_cons, Nat.pow_succ]
    have : c.toNat * 256 ^ l.length ≤ 255 * 256 ^ l.length := Nat.mul_le_mul_right _ (by omega)
    omega
theorem un_be : ∀ k n : Nat, un (be k n) = n % 256 ^ k
  | 0, n => by rw [be, un_nil, Nat.pow_zero, Nat.mod_one]
  | k + 1, n => by
    have e : (256 : Nat) ^ (k + 1) = 256 ^ k * 256 := Nat.pow_succ ..
    rw [be, un_cons, be_length, un_be k n, UInt8.toNat_ofNat', e, Nat.mod_mul, Nat.mul_comm, Nat.add_comm]
theorem be_un : ∀ l : List UInt8, be l.length (un l) = l := by
  intro l
  suffices h : ∀ (l : List UInt8) (m : Nat), be l.length (m * 256 ^ l.length + un l) = l by
    have := h l 0; simpa using this
  intro l
  induction l with
  | nil => intro m; rfl
  | cons c l ih =>
    intro m
    have hl := un_lt l
    have hp : 0 < 256 ^ l.length := Nat.pow_pos (by decide)
    rw [List.length_cons, be, un_cons]
    have e : m * 256 ^ (l.length + 1) + (c.toNat * 256 ^ l.length + un l) = (m * 256 + c.toNat) * 256 ^ l.length + un l := by
      rw [Nat.pow_succ, Nat.add_mul, Nat.mul_assoc m 256, Nat.mul_comm 256]; omega
    rw [e, ih]
    have e2 : ((m * 256 + c.toNat) * 256 ^ l.length + un l) / 256 ^ l.length = m * 256 + c.toNat := by
      rw [Nat.mul_comm, Nat.mul_add_div hp, Nat.div_eq_of_lt hl, Nat.add_zero]
    rw [e2]
    have hc := c.toNat_lt
    congr 1
    apply UInt8.toNat_inj.1
    rw [UInt8.toNat_ofNat']
    omega

/-- Only the k lowest bytes count. -/
theorem be_mod (k n : Nat) : be k (n % 256 ^ k) = be k n := by
  have h := be_un (be k n)
  rw [be_length, un_be] at h
  exact h

theorem be_snoc (k n : Nat) : be (k + 1) n = be k (n / 256) ++ [UInt8.ofNat n] := by
  have h := be_un (be k (n / 256) ++ [UInt8.ofNat n])
  rw [List.length_append, be_length, un_snoc, un_be, UInt8.toNat_ofNat'] at h
  have e : n / 256 % 256 ^ k * 256 + n % 2 ^ 8 = n % 256 ^ (k + 1) := by
    have e : (256 : Nat) ^ (k + 1) = 256 * 256 ^ k := by rw [Nat.pow_succ, Nat.mul_comm]
    rw [e, Nat.mod_mul, Nat.mul_comm 256]; omega
  rw [e] at h
  rw [← h]
  simp only [List.length_singleton]
  rw [be_mod]

/-- A text as bytes. -/
def bs (l : List UInt8) : ByteArray := ⟨l.toArray⟩
theorem bs_data (s : ByteArray) : bs s.data.toList = s := by cases s; simp [bs]
theorem bs_size (l : List UInt8) : (bs l).size = l.length := by simp [bs, ByteArray.size]
theorem bs_append (a b : List UInt8) : bs a ++ bs b = bs (a ++ b) := by
  apply ByteArray.ext; simp [bs]
theorem bs_inj {a b : List UInt8} (h : bs a = bs b) : a = b := by
  have := congrArg (fun s : ByteArray => s.data.toList) h; simpa [bs] using this

/-- The first eight bytes of a text, as a number (P1.1, Get). -/
def getS (s : ByteArray) : Nat := un (s.data.toList.take 8)
theorem getS_lt (s : ByteArray) : getS s < 18446744073709551616 := by
  have h := un_lt (s.data.toList.take 8)
  have h2 : (s.data.toList.take 8).length ≤ 8 := by rw [List.length_take]; omega
  have h3 : 256 ^ (s.data.toList.take 8).length ≤ 256 ^ 8 := Nat.pow_le_pow_right (by decide) h2
  unfold getS
  have : (256 : Nat) ^ 8 = 18446744073709551616 := by decide
  omega

/-- A number's bytes (P1.1, Put). -/
def putS (n : Nat) (size : Int) : ByteArray := if 1 ≤ size ∧ size ≤ 8 then bs (be size.toNat n) else ByteArray.empty

theorem take_snoc (s : ByteArray) (k : Nat) (h : k < s.size) : s.data.toList.take (k + 1) = s.data.toList.take k ++ [s[k]] := by
  rw [List.take_succ_eq_append_getElem (by simpa using h)]; rfl

end Go.Proofs.YtbhgngimebecdaaGreat

/- SumsMath -/
namespace Go.Proofs.YtbhgngimebecdaaGreat

theorem xor_cancel {a b c : Nat} (h : a ^^^ b = a ^^^ c) : b = c := by
  have h2 := congrArg (fun x => a ^^^ x) h
  simp only [← Nat.xor_assoc, Nat.xor_self, Nat.zero_xor] at h2
  exact h2
theorem xor_zero {a b : Nat} (h : a ^^^ b = 0) : a = b := by
  have h2 : a ^^^ b = a ^^^ a := by rw [h, Nat.xor_self]
  exact (xor_cancel h2).symm

theorem xor_lc (a b c : Nat) : a ^^^ (b ^^^ c) = b ^^^ (a ^^^ c) := by rw [← Nat.xor_assoc, ← Nat.xor_assoc, Nat.xor_comm a b]

/-- A state, a bit on. -/
def stp (x : Nat) : Nat := (x / 2) ^^^ (x % 2 * 3988292384)
/-- A state, k bits on. -/
def stk : Nat → Nat → Nat
  | 0, x => x
  | k + 1, x => stk k (stp x)
/-- A byte goes into a state. -/
def intoS (x c : Nat) : Nat := stk 8 (x ^^^ c)
/-- Bytes go into a state. -/
def foldS (x : Nat) (l : List UInt8) : Nat := l.foldl (fun a c => intoS a c.toNat) x

theorem xor_lt {a b : Nat} (ha : a < 4294967296) (hb : b < 4294967296) : a ^^^ b < 4294967296 := Nat.xor_lt_two_pow (n := 32) ha hb
theorem stp_lt {x : Nat} (h : x < 4294967296) : stp x < 4294967296 := by
  unfold stp
  refine xor_lt (by omega) ?_
  have : x % 2 < 2 := Nat.mod_lt _ (by decide)
  rcases Nat.lt_or_ge (x % 2) 1 with h1 | h1
  · have : x % 2 = 0 := by omega
    rw [this]; decide
  · have : x % 2 = 1 := by omega
    rw [this]; decide
theorem mul_xor (a b p : Nat) (ha : a < 2) (hb : b < 2) : (a ^^^ b) * p = a * p ^^^ b * p := by
  match a, b, ha, hb with
  | 0, 0, _, _ => simp
  | 0, 1, _, _ => simp
  | 1, 0, _, _ => simp
  | 1, 1, _, _ => simp
theorem xor_four (p q r s : Nat) : p ^^^ q ^^^ (r ^^^ s) = p ^^^ r ^^^ (q ^^^ s) := by
  rw [Nat.xor_assoc, Nat.xor_assoc, ← Nat.xor_assoc q, ← Nat.xor_assoc r, Nat.xor_comm q r]
theorem stp_xor (a b : Nat) : stp (a ^^^ b) = stp a ^^^ stp b := by
  unfold stp
  have h1 : (a ^^^ b) / 2 = a / 2 ^^^ b / 2 := Nat.xor_div_two
  have h2 : (a ^^^ b) % 2 = a % 2 ^^^ b % 2 := Nat.xor_mod_two_pow (n := 1)
  rw [h1, h2, mul_xor _ _ _ (Nat.mod_lt _ (by decide)) (Nat.mod_lt _ (by decide))]
  exact xor_four _ _ _ _
theorem stp_zero {x : Nat} (h : x < 4294967296) (h0 : stp x = 0) : x = 0 := by
  unfold stp at h0
  have h1 : x / 2 = x % 2 * 3988292384 := xor_zero h0
  clear h0
  have h2 : x % 2 = 0 ∨ x % 2 = 1 := by omega
  rcases h2 with h2 | h2
  · rw [h2, Nat.zero_mul] at h1
    omega
  · rw [h2, Nat.one_mul] at h1
    omega
theorem stk_lt : ∀ (k : Nat) {x : Nat}, x < 4294967296 → stk k x < 4294967296
  | 0, _, h => h
  | k + 1, _, h => stk_lt k (stp_lt h)
theorem stk_xor : ∀ (k a b : Nat), stk k (a ^^^ b) = stk k a ^^^ stk k b
  | 0, _, _ => rfl
  | k + 1, a, b => by rw [stk, stk, stk, stp_xor, stk_xor k]
theorem stk_zero : ∀ (k : Nat) {x : Nat}, x < 4294967296 → stk k x = 0 → x = 0
  | 0, _, _, h0 => h0
  | k + 1, _, h, h0 => stp_zero h (stk_zero k (stp_lt h) h0)
theorem stk_inj {k a b : Nat} (ha : a < 4294967296) (hb : b < 4294967296) (h : stk k a = stk k b) : a = b := by
  refine xor_zero (stk_zero k (xor_lt ha hb) ?_)
  rw [stk_xor, h, Nat.xor_self]
theorem stk_add : ∀ (i j x : Nat), stk (i + j) x = stk j (stk i x)
  | 0, j, x => by rw [Nat.zero_add]; rfl
  | i + 1, j, x => by rw [Nat.succ_add, stk, stk_add i j, stk]
theorem stk_one (k x : Nat) : stk (k + 1) x = stp (stk k x) := stk_add k 1 x
theorem stp_twice (b : Nat) : stp (2 * b) = b := by
  unfold stp
  have h1 : 2 * b / 2 = b := by omega
  have h2 : 2 * b % 2 = 0 := by omega
  rw [h1, h2, Nat.zero_mul, Nat.xor_zero]
theorem stk_shift : ∀ (k b : Nat), stk k (2 ^ k * b) = b
  | 0, b => by simp [stk]
  | k + 1, b => by
    have e : 2 ^ (k + 1) * b = 2 * (2 ^ k * b) := by rw [Nat.pow_succ]; simp [Nat.mul_assoc, Nat.mul_left_comm]
    rw [stk, e, stp_twice, stk_shift k]

/-- Bytes as a number, the lowest one first. -/
def leS : List UInt8 → Nat
  | [] => 0
  | c :: l => c.toNat ^^^ 256 * leS l

theorem byte_mod (c y : Nat) (hc : c < 256) : (c ^^^ 256 * y) % 256 = c ∧ (c ^^^ 256 * y) / 256 = y := by
  have h1 : (c ^^^ 256 * y) % 2 ^ 8 = c % 2 ^ 8 ^^^ (256 * y) % 2 ^ 8 := Nat.xor_mod_two_pow
  have h2 : (c ^^^ 256 * y) / 2 ^ 8 = c / 2 ^ 8 ^^^ (256 * y) / 2 ^ 8 := Nat.xor_div_two_pow
  have e : (2 : Nat) ^ 8 = 256 := by decide
  rw [e] at h1 h2
  have h3 : c % 256 = c := by omega
  have h4 : 256 * y % 256 = 0 := by omega
  have h5 : c / 256 = 0 := by omega
  have h6 : 256 * y / 256 = y := by omega
  rw [h3, h4, Nat.xor_zero] at h1
  rw [h5, h6, Nat.zero_xor] at h2
  exact ⟨h1, h2⟩
theorem leS_cons (c : UInt8) (l : List UInt8) : leS (c :: l) = c.toNat + 256 * leS l := by
  have h := byte_mod c.toNat (leS l) c.toNat_lt
  rw [leS]
  omega
theorem leS_lt : ∀ l : List UInt8, leS l < 256 ^ l.length
  | [] => by decide
  | c :: l => by
    have h := leS_lt l
    have hc := c.toNat_lt
    rw [leS_cons, List.length_cons, Nat.pow_succ]
    omega
theorem leS_inj : ∀ {l m : List UInt8}, l.length = m.length → leS l = leS m → l = m
  | [], [], _, _ => rfl
  | [], _ :: _, h, _ => by simp at h
  | _ :: _, [], h, _ => by simp at h
  | c :: l, d :: m, h, e => by
    rw [leS_cons, leS_cons] at e
    have hc := c.toNat_lt
    have hd := d.toNat_lt
    have e1 : c = d := UInt8.toNat_inj.1 (by omega)
    have e2 : l = m := leS_inj (by simpa using h) (by omega)
    rw [e1, e2]
theorem leS_lt4 {l : List UInt8} (h : l.length ≤ 4) : leS l < 4294967296 := by
  have h1 := leS_lt l
  have h2 : 256 ^ l.length ≤ 256 ^ 4 := Nat.pow_le_pow_right (by decide) h
  have h3 : (256 : Nat) ^ 4 = 4294967296 := by decide
  omega
theorem leS_rev (l : List UInt8) : leS l.reverse = un l := by
  suffices h : ∀ l : List UInt8, leS l = un l.reverse by rw [h, List.reverse_reverse]
  intro l
  induction l with
  | nil => rfl
  | cons c l ih => rw [leS_cons, List.reverse_cons, un_snoc, ih]; omega

theorem foldS_nil (x : Nat) : foldS x [] = x := rfl
theorem foldS_cons (x : Nat) (c : UInt8) (l : List UInt8) : foldS x (c :: l) = foldS (intoS x c.toNat) l := rfl
theorem foldS_append (x : Nat) (l m : List UInt8) : foldS x (l ++ m) = foldS (foldS x l) m := by unfold foldS; rw [List.foldl_append]
theorem foldS_snoc (x : Nat) (l : List UInt8) (c : UInt8) : foldS x (l ++ [c]) = intoS (foldS x l) c.toNat := foldS_append x l [c]
theorem foldS_le : ∀ (l : List UInt8) (x : Nat), foldS x l = stk (8 * l.length) (x ^^^ leS l)
  | [], x => by rw [foldS_nil, leS, Nat.xor_zero]; rfl
  | c :: l, x => by
    have e : 8 * (c :: l).length = 8 + 8 * l.length := by rw [List.length_cons]; omega
    have s : stk 8 (256 * leS l) = leS l := stk_shift 8 (leS l)
    rw [foldS_cons, foldS_le l, e, stk_add, leS, ← Nat.xor_assoc, stk_xor 8, s]
    rfl
theorem intoS_lt {x c : Nat} (hx : x < 4294967296) (hc : c < 256) : intoS x c < 4294967296 := stk_lt 8 (xor_lt hx (by omega))
theorem foldS_lt : ∀ (l : List UInt8) {x : Nat}, x < 4294967296 → foldS x l < 4294967296
  | [], _, h => h
  | c :: l, _, h => by rw [foldS_cons]; exact foldS_lt l (intoS_lt h c.toNat_lt)
theorem foldS_inj : ∀ (l : List UInt8) {x y : Nat}, x < 4294967296 → y < 4294967296 → foldS x l = foldS y l → x = y
  | [], _, _, _, _, h => h
  | c :: l, x, y, hx, hy, h => by
    rw [foldS_cons, foldS_cons] at h
    have hc := c.toNat_lt
    have h1 := foldS_inj l (intoS_lt hx c.toNat_lt) (intoS_lt hy c.toNat_lt) h
    have h2 := stk_inj (xor_lt hx (by omega)) (xor_lt hy (by omega)) h1
    rw [Nat.xor_comm x, Nat.xor_comm y] at h2
    exact xor_cancel h2
theorem foldS_short {x : Nat} (hx : x < 4294967296) {l m : List UInt8} (h : l.length = m.length) (h4 : l.length ≤ 4) (e : foldS x l = foldS x m) : l = m := by
  rw [foldS_le, foldS_le, h] at e
  exact leS_inj h (xor_cancel (stk_inj (xor_lt hx (leS_lt4 h4)) (xor_lt hx (leS_lt4 (by omega))) e))
/-- Of a text of which at most four bytes, side by side, are other ones, the state is another one. -/
theorem foldS_turned {x : Nat} (hx : x < 4294967296) (p q : List UInt8) {l m : List UInt8} (h : l.length = m.length) (h4 : l.length ≤ 4) (e : foldS x (p ++ l ++ q) = foldS x (p ++ m ++ q)) : l = m := by
  simp only [foldS_append] at e
  exact foldS_short (foldS_lt p hx) h h4 (foldS_inj q (foldS_lt _ (foldS_lt _ hx)) (foldS_lt _ (foldS_lt _ hx)) e)

/-- All 32 bits 1. -/
def allS : Nat := 4294967295
theorem all_xor {x : Nat} (h : x < 4294967296) : 4294967295 - x = 4294967295 ^^^ x := by
  have h1 := congrArg BitVec.toNat (BitVec.allOnes_xor (x := BitVec.ofNat 32 x))
  rw [BitVec.toNat_xor, BitVec.toNat_not, BitVec.toNat_allOnes, BitVec.toNat_ofNat] at h1
  have h2 : x % 2 ^ 32 = x := Nat.mod_eq_of_lt h
  rw [h2] at h1
  have h3 : (2 : Nat) ^ 32 - 1 = 4294967295 := by decide
  rw [h3] at h1
  exact h1.symm

/-- The sum of a text that had a sum, with another one behind it (P2.1). -/
def moreS (sum : Nat) (l : List UInt8) : Nat := 4294967295 - foldS (4294967295 - sum) l
/-- A text's sum (P2.1). -/
def sumS (l : List UInt8) : Nat := moreS 0 l
theorem moreS_lt (sum : Nat) (l : List UInt8) : moreS sum l < 4294967296 := by unfold moreS; omega
theorem sumS_lt (l : List UInt8) : sumS l < 4294967296 := moreS_lt 0 l
theorem moreS_more (sum : Nat) (a b : List UInt8) : moreS (moreS sum a) b = moreS sum (a ++ b) := by
  unfold moreS
  have h := foldS_lt a (x := 4294967295 - sum) (by omega)
  rw [foldS_append, show 4294967295 - (4294967295 - foldS (4294967295 - sum) a) = foldS (4294967295 - sum) a by omega]
theorem moreS_sum (a b : List UInt8) : moreS (sumS a) b = sumS (a ++ b) := moreS_more 0 a b
theorem sumS_fold (l : List UInt8) : sumS l = 4294967295 ^^^ foldS 4294967295 l := by
  unfold sumS moreS
  exact all_xor (foldS_lt l (by decide))
theorem sumS_inj {l m : List UInt8} (h : sumS l = sumS m) : foldS 4294967295 l = foldS 4294967295 m := by
  rw [sumS_fold, sumS_fold] at h
  exact xor_cancel h

/-- A text's sum in four bytes, the lowest one first. -/
def tailS (l : List UInt8) : List UInt8 := (be 4 (sumS l)).reverse
theorem tailS_length (l : List UInt8) : (tailS l).length = 4 := by unfold tailS; rw [List.length_reverse, be_length]
theorem leS_tail (l : List UInt8) : leS (tailS l) = sumS l := by
  unfold tailS
  rw [leS_rev, un_be]
  exact Nat.mod_eq_of_lt (sumS_lt l)
/-- What is sealed, by the state behind it. -/
theorem sealed_iff (a t : List UInt8) (ht : t.length = 4) : t = tailS a ↔ foldS 4294967295 (a ++ t) = stk 32 4294967295 := by
  have hf := foldS_lt a (x := 4294967295) (by decide)
  have e : foldS 4294967295 (a ++ t) = stk 32 (foldS 4294967295 a ^^^ leS t) := by rw [foldS_append, foldS_le t, ht]
  have e2 : foldS 4294967295 a ^^^ sumS a = 4294967295 := by
    rw [sumS_fold, Nat.xor_comm, Nat.xor_assoc, Nat.xor_self, Nat.xor_zero]
  rw [e]
  constructor
  · rintro rfl
    rw [leS_tail, e2]
  · intro h
    have h1 := stk_inj (xor_lt hf (leS_lt4 (by omega))) (by decide) h
    have h2 := xor_cancel (h1.trans e2.symm)
    rw [← leS_tail] at h2
    exact leS_inj (by rw [ht, tailS_length]) h2

/-- Three texts of one length, put against each other. -/
def xor3 : List UInt8 → List UInt8 → List UInt8 → List UInt8
  | a :: l, b :: m, c :: n => (a ^^^ b ^^^ c) :: xor3 l m n
  | _, _, _ => []
theorem intoS_xor3 (x y z a b c : Nat) : intoS (x ^^^ y ^^^ z) (a ^^^ b ^^^ c) = intoS x a ^^^ intoS y b ^^^ intoS z c := by
  unfold intoS
  rw [← stk_xor, ← stk_xor]
  congr 1
  simp only [xor_lc, Nat.xor_comm]
theorem foldS_xor3 : ∀ (l m n : List UInt8) (x y z : Nat), l.length = m.length → m.length = n.length →
    foldS (x ^^^ y ^^^ z) (xor3 l m n) = foldS x l ^^^ foldS y m ^^^ foldS z n
  | [], [], [], x, y, z, _, _ => rfl
  | a :: l, b :: m, c :: n, x, y, z, h1, h2 => by
    rw [xor3, foldS_cons, foldS_cons, foldS_cons, foldS_cons, ← foldS_xor3 l m n _ _ _ (by simpa using h1) (by simpa using h2)]
    rw [UInt8.toNat_xor, UInt8.toNat_xor, intoS_xor3]
  | [], _ :: _, _, _, _, _, h, _ => by simp at h
  | _ :: _, [], _, _, _, _, h, _ => by simp at h
  | _, [], _ :: _, _, _, _, _, h => by simp at h
  | _, _ :: _, [], _, _, _, _, h => by simp at h
theorem xor3_self (a : Nat) : a ^^^ a ^^^ a = a := by rw [Nat.xor_self, Nat.zero_xor]
theorem sumS_xor3 (l m n : List UInt8) (h1 : l.length = m.length) (h2 : m.length = n.length) : sumS (xor3 l m n) = sumS l ^^^ sumS m ^^^ sumS n := by
  have h := foldS_xor3 l m n 4294967295 4294967295 4294967295 h1 h2
  rw [xor3_self] at h
  rw [sumS_fold, sumS_fold, sumS_fold, sumS_fold, h]
  generalize foldS 4294967295 l = x
  generalize foldS 4294967295 m = y
  generalize foldS 4294967295 n = z
  generalize 4294967295 = M
  have e : M ^^^ x ^^^ (M ^^^ y) ^^^ (M ^^^ z) = (M ^^^ M ^^^ M) ^^^ (x ^^^ y ^^^ z) := by
    simp only [xor_lc, Nat.xor_comm]
  rw [e, xor3_self]
end Go.Proofs.YtbhgngimebecdaaGreat
