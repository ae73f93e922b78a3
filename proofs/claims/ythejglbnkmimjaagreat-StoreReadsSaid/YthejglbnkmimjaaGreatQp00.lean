/- Lemmas of the library under short names. -/
import Derived.Lib.Hide
namespace Go.Proofs.YthejglbnkmimjaaGreat
abbrev Tw:=ByteArray
theorem qQ {p:Prop}(h:p):RowKit.Hid p:=Lib.hid h
theorem qX {a b:Prop}(h:a):a∨b:=Or.inl h
theorem qZ {c:Prop}{i:Decidable c}(h:¬c){α:Sort _}{t e:α}:(ite c t e)=e:=if_neg h
theorem qJ {α:Type _}{a:α}{t:List α}(s:List α)(h:a∈t):a∈s++t:=List.mem_append_right s h
theorem qK (n:Nat):n≤n:=Nat.le_refl n
theorem qV {c:Prop}{i:Decidable c}(h:c){α:Sort _}{t e:α}:(ite c t e)=t:=if_pos h
theorem qY {a b:Prop}(h:b):a∨b:=Or.inr h
theorem qU (n:Nat)(w:World):RowKit.Below n w w:=RowKit.Below.refl n w
theorem qG {a b:Prop}(h:a)(k:b):a∧b:=⟨h,k⟩
theorem qW {α:Type _}{a:α}{s:List α}(t:List α)(h:a∈s):a∈s++t:=List.mem_append_left t h
theorem qA {p:Prop}[Decidable p](h:¬p):decide p=false:=decide_eq_false h
theorem qB {p:Prop}[Decidable p](h:p):decide p=true:=decide_eq_true h
theorem qC {α:Type _}{a:α}{l:List α}:a∈a::l:=List.mem_cons_self
theorem qD {α:Type _}{l:List α}{i:Nat}(h:i<l.length):l[i]? = some l[i]:=List.getElem?_eq_getElem h
theorem qE {α:Type _}{a:α}{s t:List α}:a∈s++t↔a∈s∨a∈t:=List.mem_append
theorem qF {α:Type _}(b:α){a:α}{l:List α}(h:a∈l):a∈b::l:=List.mem_cons_of_mem b h
theorem qH {α:Type _}{a b:α}:a∈[b]↔a=b:=List.mem_singleton
theorem qI (n:Nat):0≤n:=Nat.zero_le n
theorem qL {α:Type _}{a b:α}{l:List α}:a∈b::l↔a=b∨a∈l:=List.mem_cons
theorem qM {α:Type _}{l:List α}{i:Nat}{a:α}(h:l[i]? = some a):a∈l:=List.mem_of_getElem? h
theorem qN {α:Type _}{s t:List α}:(s++t).length=s.length+t.length:=List.length_append
theorem qO {α:Type _}{l:List α}{i:Nat}{a:α}:l[i]? = some a↔∃ h:i<l.length,l[i]=a:=List.getElem?_eq_some_iff
theorem qP {α β:Type _}{f:α→β}{l:List α}{b:β}:b∈l.map f↔∃ a,a∈l∧f a=b:=List.mem_map
theorem qR {a b c:Nat}(h:a≤b)(k:b≤c):a≤c:=Nat.le_trans h k
theorem qS {a b c:Nat}(h:a<b)(k:b≤c):a<c:=Nat.lt_of_lt_of_le h k
theorem qT {α:Type _}{i:Nat}{l:List α}:(l.take i).length=min i l.length:=List.length_take
theorem qx {a b:ByteArray}:(a++b).size=a.size+b.size:=ByteArray.size_append
theorem qz {α β:Type _}{l:List α}(f:α→β):(l.map f).length=l.length:=List.length_map f
theorem qj {α:Type _}{l:List α}{i:Nat}{a:α}:l.getD i a=l[i]?.getD a:=List.getD_eq_getElem?_getD
theorem qk {s:ByteArray}{a b:Nat}:(s.extract a b).size=min b s.size-a:=ByteArray.size_extract
theorem qv {α:Type _}{a:α}{l:List α}:(a::l).length=l.length+1:=List.length_cons
theorem qy (n:Int)(h:-9223372036854775808≤n∧n≤9223372036854775807):IntKind.i64.wrap n=n:=by rw[IntKind.wrap_i64];omega
theorem qu {α β:Type _}{f:α→β}{l:List α}{i:Nat}:(l.map f)[i]? =l[i]?.map f:=List.getElem?_map
theorem qg {α:Type _}[BEq α][LawfulBEq α]{a b:α}:(a==b)=false↔a≠b:=beq_eq_false_iff_ne
theorem qb {α:Type _}{a b:α}(h:some a=some b):a=b:=Option.some.inj h
theorem qd {α:Type _}{a:α}{l:List α}(h:a∈l):∃ i:Nat,l[i]? = some a:=List.getElem?_of_mem h
theorem qh (a b:Nat):a<b∨a≥b:=Nat.lt_or_ge a b
theorem ql {α:Type _}{l:Array α}{i:Nat}{a:α}:l[i]? = some a↔∃ h:i<l.size,l[i]=a:=Array.getElem?_eq_some_iff
theorem qm (n:Nat):(n:Int).toNat=n:=Int.toNat_natCast n
theorem qn {α:Type _}(a b c:List α):a++b++c=a++(b++c):=List.append_assoc a b c
theorem qp {α:Type _}{l:List α}{i:Nat}(h:l.length≤i):l.take i=l:=List.take_of_length_le h
theorem qa (n:Nat):0+n=n:=Nat.zero_add n
theorem qe {α:Type _}(i:Nat)(l:List α):l.take i++l.drop i=l:=List.take_append_drop i l
theorem qi {a b:ByteArray}(h:a.data=b.data):a=b:=ByteArray.ext h
theorem qo {α:Type _}{a:α}{l:List α}{p:α→Bool}:a∈l.filter p↔a∈l∧p a=true:=List.mem_filter
theorem qw {α:Type _}{l:List α}{i:Nat}:l.take (i+1)=l.take i++l[i]?.toList:=List.take_add_one
theorem xQ {α:Type _}{i:Nat}{l:List α}:(l.drop i).length=l.length-i:=List.length_drop
theorem xX {α:Type _}{l:List α}{i:Nat}(h:l.length≤i):l[i]? = none:=List.getElem?_eq_none h
theorem xZ {α β:Type _}{f:α→List β}{b:β}{l:List α}:b∈l.flatMap f↔∃ a,a∈l∧b∈f a:=List.mem_flatMap
theorem xJ {α:Type _}{i:Nat}{l:List α}(h:i<l.length):l.drop i=l[i]::l.drop (i+1):=List.drop_eq_getElem_cons h
theorem xK {α:Type _}{l:List α}:l.length=0↔l=[]:=List.length_eq_zero_iff
theorem xV {α:Type _}{s t:List α}(h:∀ i:Nat,s[i]? = t[i]?):s=t:=List.ext_getElem? h
theorem xY {α:Type _}{R:α→α→Prop}{l:List α}:l.Pairwise R↔∀ (i j:Nat)(hi:i<l.length)(a:j<l.length),i<j→R l[i] l[j]:=List.pairwise_iff_getElem
theorem xU {α:Type _}{R:α→α→Prop}{a:α}{l:List α}:(a::l).Pairwise R↔(∀ x∈l,R a x)∧l.Pairwise R:=List.pairwise_cons
theorem xG {α β:Type _}{x:Option α}{f:α→β}{b:β}:x.map f=some b↔∃ a,x=some a∧f a=b:=Option.map_eq_some_iff
abbrev X0(x:Value)(w:World):Ending->World->Prop:=fun e w'=>e = .returned x/\w=w'
abbrev X3(x:Value)(w:World):Ending->World->Prop:=fun e w'=>e = .returned x/\RowKit.Below w.heap.size w w'
theorem X5 {p n a}{w:World}{x:Value}{Q:Ending->World->Prop}(h:Calls p n a w (X0 x w))(k:Q (.returned x) w):Calls p n a w Q:=h.mono (by rintro e w'⟨rfl,rfl⟩;exact k)
theorem KG {p n a}{w:World}{x:Value}{R:World->Prop}{Q:Ending->World->Prop}(h:Calls p n a w fun e w'=>e = .returned x/\R w')(k:∀w',R w'->Q (.returned x) w'):Calls p n a w Q:=h.mono (by rintro e w'⟨rfl,b⟩;exact k _ b)
instance:Coe Int Value:=⟨.int .i64⟩
instance:Coe Nat Value:=⟨fun n=>.int .i64 n⟩
instance:Coe ByteArray Value:=⟨.string⟩
instance:Coe Bool Value:=⟨.bool⟩
end Go.Proofs.YthejglbnkmimjaaGreat
