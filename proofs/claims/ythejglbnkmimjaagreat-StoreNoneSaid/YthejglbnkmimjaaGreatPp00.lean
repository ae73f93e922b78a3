/- Lemmas of the library under short names. -/
import Derived.Lib.Hide
namespace Go.Proofs.YthejglbnkmimjaaGreat
abbrev Tw:=ByteArray
theorem qQ {p:Prop}(h:p):RowKit.Hid p:=Lib.hid h
theorem qX {a b:Prop}(h:a):a∨b:=Or.inl h
theorem qZ (n:Nat):n≤n:=Nat.le_refl n
theorem qJ {c:Prop}{i:Decidable c}(h:¬c){α:Sort _}{t e:α}:(ite c t e)=e:=if_neg h
theorem qK {c:Prop}{i:Decidable c}(h:c){α:Sort _}{t e:α}:(ite c t e)=t:=if_pos h
theorem qV {α:Type _}{a:α}{t:List α}(s:List α)(h:a∈t):a∈s++t:=List.mem_append_right s h
theorem qY {a b:Prop}(h:b):a∨b:=Or.inr h
theorem qU {a b:Prop}(h:a)(k:b):a∧b:=⟨h,k⟩
theorem qG {p:Prop}[Decidable p](h:¬p):decide p=false:=decide_eq_false h
theorem qW {p:Prop}[Decidable p](h:p):decide p=true:=decide_eq_true h
theorem qA {α:Type _}{a:α}{s:List α}(t:List α)(h:a∈s):a∈s++t:=List.mem_append_left t h
theorem qB {α:Type _}{a:α}{l:List α}:a∈a::l:=List.mem_cons_self
theorem qC {α:Type _}{a:α}{s t:List α}:a∈s++t↔a∈s∨a∈t:=List.mem_append
theorem qD {α:Type _}{l:List α}{i:Nat}(h:i<l.length):l[i]? = some l[i]:=List.getElem?_eq_getElem h
theorem qE {α:Type _}{a b:α}:a∈[b]↔a=b:=List.mem_singleton
theorem qF {α:Type _}(b:α){a:α}{l:List α}(h:a∈l):a∈b::l:=List.mem_cons_of_mem b h
theorem qH (n:Nat):0≤n:=Nat.zero_le n
theorem qI {α:Type _}{s t:List α}:(s++t).length=s.length+t.length:=List.length_append
theorem qL {α:Type _}{a b:α}{l:List α}:a∈b::l↔a=b∨a∈l:=List.mem_cons
theorem qM {α:Type _}{l:List α}{i:Nat}{a:α}:l[i]? = some a↔∃ h:i<l.length,l[i]=a:=List.getElem?_eq_some_iff
theorem qN {α β:Type _}{f:α→β}{l:List α}{b:β}:b∈l.map f↔∃ a,a∈l∧f a=b:=List.mem_map
theorem qO {α:Type _}{l:List α}{i:Nat}{a:α}(h:l[i]? = some a):a∈l:=List.mem_of_getElem? h
theorem qP {a b c:Nat}(h:a<b)(k:b≤c):a<c:=Nat.lt_of_lt_of_le h k
theorem qR {a b c:Nat}(h:a≤b)(k:b≤c):a≤c:=Nat.le_trans h k
theorem qS {s:ByteArray}{a b:Nat}:(s.extract a b).size=min b s.size-a:=ByteArray.size_extract
theorem qT {a b:ByteArray}:(a++b).size=a.size+b.size:=ByteArray.size_append
theorem qq {α:Type _}{i:Nat}{l:List α}:(l.take i).length=min i l.length:=List.length_take
theorem qz {α β:Type _}{f:α→β}{l:List α}{i:Nat}:(l.map f)[i]? =l[i]?.map f:=List.getElem?_map
theorem qj {α β:Type _}{l:List α}(f:α→β):(l.map f).length=l.length:=List.length_map f
theorem qk {α:Type _}{a:α}{l:List α}:(a::l).length=l.length+1:=List.length_cons
theorem qv {α:Type _}{a b:α}(h:some a=some b):a=b:=Option.some.inj h
theorem qy {α:Type _}[BEq α][LawfulBEq α]{a b:α}:(a==b)=false↔a≠b:=beq_eq_false_iff_ne
theorem qu {α:Type _}{l:List α}{i:Nat}{a:α}:l.getD i a=l[i]?.getD a:=List.getD_eq_getElem?_getD
theorem qg {α:Type _}{l:List α}{i:Nat}(h:l.length≤i):l.take i=l:=List.take_of_length_le h
theorem qb {α:Type _}{l:Array α}{i:Nat}{a:α}:l[i]? = some a↔∃ h:i<l.size,l[i]=a:=Array.getElem?_eq_some_iff
theorem qd {α:Type _}(a b c:List α):a++b++c=a++(b++c):=List.append_assoc a b c
theorem qh (n:Nat):(n:Int).toNat=n:=Int.toNat_natCast n
theorem ql {α:Type _}(i:Nat)(l:List α):l.take i++l.drop i=l:=List.take_append_drop i l
end Go.Proofs.YthejglbnkmimjaaGreat
