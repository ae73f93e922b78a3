/- Files on a disk as plain lists: what each call of the document does. No program. -/
import Derived.WalkKit
namespace Go.Proofs.Ytfpimebamkmjoaa

/-- A file. -/
structure FileS where
  name : ByteArray
  data : ByteArray
  synced : Nat
/-- A disk: fails: behind so many changes it fails, less one (0: it does not). -/
structure DiskS where
  cap : Nat
  l : List FileS
  count : Nat
  down : Bool
  starts : Nat
  fails : Nat
  keep : List Int

def nameB (n : ByteArray) : Bool := decide (0 < n.size) && decide (n.size ≤ 12)
/-- Where a file is; as many as there are: nowhere. -/
def findS (l : List FileS) (n : ByteArray) : Nat := l.findIdx (fun f => decide (f.name = n))
def usedS (l : List FileS) : Nat := (l.map (fun f => f.data.size)).sum
def lessB (a b : ByteArray) : Bool := Op.bytesLess a.toList b.toList
/-- How many files stand ahead of a name. -/
def aheadS (l : List FileS) (n : ByteArray) : Nat := l.findIdx (fun f => !lessB f.name n)
def layS (l : List FileS) (f : FileS) : List FileS := l.take (aheadS l f.name) ++ [f] ++ l.drop (aheadS l f.name)
def dropS (l : List FileS) (i : Nat) : List FileS := l.take i ++ l.drop (i + 1)
/-- How many bytes of a file stay. -/
def staysS (f : FileS) (k : Int) : Nat := f.synced + min k.toNat (f.data.size - f.synced)
def crashF (f : FileS) (k : Int) : FileS := ⟨f.name, f.data.extract 0 (staysS f k), staysS f k⟩
/-- The first n of them have been cut. -/
def crashK (l : List FileS) (keep : List Int) (n : Nat) : List FileS := l.mapIdx (fun i f => if i < n then crashF f (keep.getD i 0) else f)
def crashL (l : List FileS) (keep : List Int) : List FileS := l.mapIdx (fun i f => crashF f (keep.getD i 0))
def sinkS (D : DiskS) (keep : List Int) : DiskS := { D with l := crashL D.l keep, down := true, fails := 0, keep := [] }
/-- A change that would be done: is it? -/
def goesS (D : DiskS) : Bool := !decide (D.fails = 1)
def nextS (D : DiskS) : DiskS := { D with fails := D.fails - 1 }
/-- A change that would be done: done, or the disk sinks. -/
def doneS (D : DiskS) (E : DiskS) : Nat × DiskS := if goesS D then (0, { E with fails := D.fails - 1 }) else (61, sinkS D D.keep)

def crashS (D : DiskS) (keep : List Int) : Nat × DiskS := if D.down then (61, D) else (0, sinkS D keep)
def startS (D : DiskS) : Nat × DiskS := if D.down then (0, { D with down := false, starts := D.starts + 1 }) else (2, D)
def failS (D : DiskS) (n : Int) (keep : List Int) : Nat × DiskS := if D.down then (61, D) else if n < 0 then (2, D) else (0, { D with fails := min n.toNat 1099511627776 + 1, keep := keep })
def createS (D : DiskS) (n : ByteArray) : Nat × DiskS :=
  if D.down then (61, D) else if !nameB n then (2, D) else if findS D.l n < D.l.length then (62, D) else if 400 ≤ D.l.length then (60, D)
  else doneS D { D with l := layS D.l ⟨n, ByteArray.empty, 0⟩ }
def setF (l : List FileS) (i : Nat) (h : FileS → FileS) : List FileS := l.modify i h
def appE (D : DiskS) (n s : ByteArray) : DiskS := { D with l := setF D.l (findS D.l n) (fun f => { f with data := f.data ++ s }) }
def appendS (D : DiskS) (n s : ByteArray) : Nat × DiskS :=
  if D.down then (61, D) else if findS D.l n < D.l.length then (if D.cap < usedS D.l + s.size then (60, D)
    else if goesS D then (0, nextS (appE D n s)) else (61, sinkS (appE D n s) D.keep)) else (4, D)
def readS (D : DiskS) (n : ByteArray) (a k : Int) : ByteArray × Nat × DiskS :=
  if D.down then (ByteArray.empty, 61, D) else
    let E := { D with count := D.count + 1 }
    match D.l[findS D.l n]? with
    | none => (ByteArray.empty, 4, E)
    | some f => if a < 0 ∨ k < 0 ∨ (f.data.size : Int) < a ∨ (f.data.size : Int) - a < k then (ByteArray.empty, 2, E) else (f.data.extract a.toNat (a.toNat + k.toNat), 0, E)
def syncS (D : DiskS) (n : ByteArray) : Nat × DiskS :=
  if D.down then (61, D) else if findS D.l n < D.l.length then doneS D { D with l := setF D.l (findS D.l n) (fun f => { f with synced := f.data.size }) } else (4, D)
/-- A file goes by another name. -/
def renameL (l : List FileS) (i : Nat) (to : ByteArray) : List FileS :=
  match l[i]? with
  | none => l
  | some f => layS (let m := dropS l i; if findS m to < m.length then dropS m (findS m to) else m) { f with name := to }
def renameS (D : DiskS) (n to : ByteArray) : Nat × DiskS :=
  if D.down then (61, D) else if findS D.l n < D.l.length then (if !nameB to then (2, D) else doneS D { D with l := if n = to then D.l else renameL D.l (findS D.l n) to }) else (4, D)
def deleteS (D : DiskS) (n : ByteArray) : Nat × DiskS :=
  if D.down then (61, D) else if findS D.l n < D.l.length then doneS D { D with l := dropS D.l (findS D.l n) } else (4, D)
def sizeS (D : DiskS) (n : ByteArray) : Nat × Nat :=
  if D.down then (0, 61) else match D.l[findS D.l n]? with
    | none => (0, 4)
    | some f => (f.data.size, 0)
/-- Bytes with others laid over them from a place on, k of these at most. -/
def overK (d s : ByteArray) (a k : Nat) : List UInt8 := d.data.toList.mapIdx (fun j c => if a ≤ j ∧ j < a + min k s.size then s.data.toList.getD (j - a) 0 else c)
def overS (d s : ByteArray) (a : Nat) : ByteArray := ⟨(overK d s a s.size).toArray⟩
def spoilS (D : DiskS) (n : ByteArray) (a : Int) (s : ByteArray) : Nat × DiskS :=
  if findS D.l n < D.l.length then (if a < 0 then (2, D) else (0, { D with l := setF D.l (findS D.l n) (fun f => { f with data := overS f.data s a.toNat }) })) else (4, D)
def cutS (D : DiskS) (n : ByteArray) (k : Int) : Nat × DiskS :=
  if findS D.l n < D.l.length then (if k < 0 then (2, D) else (0, { D with l := setF D.l (findS D.l n) (fun f => ⟨f.name, f.data.extract 0 (min k.toNat f.data.size), min f.synced (min k.toNat f.data.size)⟩) })) else (4, D)

/-- What a disk is like, always. -/
structure WfD (D : DiskS) : Prop where
  cap : D.cap ≤ 1048576
  used : usedS D.l ≤ D.cap
  many : D.l.length ≤ 400
  names : ∀ f ∈ D.l, 0 < f.name.size ∧ f.name.size ≤ 12
  synced : ∀ f ∈ D.l, f.synced ≤ f.data.size
  fails : D.fails ≤ 1099511627777
  order : D.l.Pairwise (fun f g => lessB f.name g.name = true)
end Go.Proofs.Ytfpimebamkmjoaa
