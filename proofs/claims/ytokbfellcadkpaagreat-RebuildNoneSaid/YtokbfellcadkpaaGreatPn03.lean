/- ZnDiskRef, ZnDiskRefSet, ZnDiskRefCrash, ZnDiskRefActs, ZnDiskRefWrite, ZnDiskRefRead, ZnDiskRefCut, ZnDiskRefSpoil, ZnDiskRefNew, ZnIntsIn, ZnDiskApi, ZnSumsInto, ZnNumsPut, ZnNumsGet, ZnHash, ZnBlProbe, ZnFloats, ZnFloatOrd, ZnRates, ZnNumsRead, ZnNumsText, ZnEventsMath, ZnEventsBytes -/
import Derived.Test.YtokbfellcadkpaaGreatPn01
import Derived.Test.YtokbfellcadkpaaGreatPn02
import Derived.Maps.AppendAt
import Derived.Deep.DeepCutAuto
import Derived.Laws.Bits64
import Derived.Laws.Externs
import Derived.WalkMore
namespace Go.Proofs.YtokbfellcadkpaaGreat
set_option maxRecDepth 100000
set_option linter.unusedVariables false
section
open Go.RowKit
def ints (l:List Int) : List Value:=l.map (Value.int .i64)
theorem some_at {l:List FileS}{k:Nat}(h:k<l.length) : ∃ f,l[k]? = some f:=⟨l[k],List.getElem?_eq_getElem h⟩
theorem find_lt {l:List FileS}{n:ByteArray}{k:Nat}{f:FileS}(h:l[k]? = some f)(hf:f.name=n) : findS l n≤k:=by
 unfold findS;have hk:k<l.length:=(List.getElem?_eq_some_iff.1 h).1;rcases Nat.lt_or_ge k (l.findIdx (fun f=>decide (f.name=n))) with c | c
 ·have:=List.not_of_lt_findIdx c;rw[List.getElem?_eq_getElem hk] at h;have e:l[k]=f:=by simpa using h
  rw[e] at this;simp[hf] at this
 ·exact c
theorem find_at {l:List FileS}{n:ByteArray}(h:findS l n<l.length) : ∃ f,l[findS l n]? = some f∧f.name=n:=by
 have h':l.findIdx (fun f=>decide (f.name=n))<l.length:=h;have:=List.findIdx_getElem (w:=h');exact⟨l[findS l n],List.getElem?_eq_getElem h,of_decide_eq_true this⟩
theorem setF_length (l:List FileS)(k:Nat)(h:FileS→FileS) : (setF l k h).length=l.length:=by unfold setF;simp
def IntsAt (w:World)(v:Value)(l:List Int) : Prop :=
 (l=[]∧∃ a c,v = .slice a 0 c)∨∃ b off cap cs fr,v = .slice (some ⟨b,off,none⟩) l.length cap∧l.length≤cap∧cap≤maxLen∧w.heap[b]? = some (.cells cs 3 fr)∧∀ i x,l[i]? = some x→cs[off+i]? = some (.int .i64 x)
theorem IntsAt.of_own {w:World}{base:Nat}{v:Value}{l:List Int}(h:w.ownsRow base 3 1 v l.length (ints l)) : IntsAt w v l:=by
 rcases h.2 with⟨rfl,e⟩ | ⟨b,cap,cs,rfl,_,h2,h3,h4,_,h6⟩
 ·exact Or.inl ⟨List.eq_nil_of_length_eq_zero e,none,0,rfl⟩
 ·refine Or.inr ⟨b,0,cap,cs,(0,0),rfl,h3,h4,h2,fun i x hx=>?_⟩;have hi:i<l.length:=(List.getElem?_eq_some_iff.1 hx).1;have e:(ints l)[i]? = some (.int .i64 x):=by unfold ints;rw[List.getElem?_map,hx];rfl
  rw[← h6,List.getElem?_take,if_pos (by omega)] at e;simpa using e
theorem setF_get (l:List FileS)(k j:Nat)(h:FileS→FileS) : (setF l k h)[j]? = if j=k then(l[j]?).map h else l[j]? := by
 unfold setF;rw[List.getElem?_modify];by_cases e:j=k
 ·subst e;simp
 ·rw[if_neg e];have e2:¬ k=j:=fun x=>e x.symm
  cases l[j]?<;>simp[e2]
theorem crashF_size {f:FileS}{x:Int}(hs:f.synced≤f.data.size) : (crashF f x).data.size=staysS f x:=by
 show(f.data.extract 0 (staysS f x)).size=_;rw[ByteArray.size_extract];unfold staysS;omega
structure RefOk (D:DiskS) : Prop where
 sizes:∀ f∈D.l,f.synced≤f.data.size∧f.data.size≤1048576
 many:D.l.length≤400
 used:usedS D.l≤1048576
 cap:D.cap≤1048576
 fails:D.fails≤1099511627777
theorem none_at {l:List FileS}{n:ByteArray}(h:¬ findS l n<l.length) : l[findS l n]? = none:=List.getElem?_eq_none (by omega)
theorem used_mem {l:List FileS}{f:FileS}(h:f∈l) : f.data.size≤usedS l:=by
 induction l with
 | nil=>cases h
 | cons x l ih =>
   have e:usedS (x::l)=x.data.size+usedS l:=by unfold usedS;simp
   rcases List.mem_cons.1 h with rfl | h
   ·omega
   ·have:=ih h;omega
theorem used_setF (l:List FileS) : ∀ (k:Nat) (f:FileS) (h:FileS→FileS),l[k]? = some f→usedS (setF l k h)+f.data.size=usedS l+(h f).data.size:=by
 induction l with
 | nil=>intro k f h hk;simp at hk
 | cons x l ih =>
   intro k f h hk;have e:∀ x l,usedS (x::l)=x.data.size+usedS l:=fun x l=>by unfold usedS;simp
   cases k with
   | zero =>
     obtain rfl:x=f:=by simpa using hk
     have e2:setF (x::l) 0 h=h x::l:=rfl;rw[e2,e,e];omega
   | succ k =>
     have e2:setF (x::l) (k+1) h=x::setF l k h:=rfl;have:=ih k f h (by simpa using hk);rw[e2,e,e];omega
theorem mem_setF {l:List FileS}{k:Nat}{h:FileS→FileS}{x:FileS}(hx:x∈setF l k h) : x∈l∨∃ f,l[k]? = some f∧x=h f:=by
 obtain⟨j,hj⟩:=List.getElem?_of_mem hx;rw[setF_get] at hj;by_cases e:j=k
 ·subst e;rw[if_pos rfl] at hj;cases hl:l[j]? with
  | none=>rw[hl] at hj;cases hj
  | some f=>rw[hl] at hj;exact Or.inr ⟨f,rfl,by simpa using hj.symm⟩
 ·rw[if_neg e] at hj;exact Or.inl (List.mem_of_getElem? hj)
theorem RefOk.app {D:DiskS}(h:RefOk D){k:Nat}{f:FileS}(hk:D.l[k]? = some f)(s:ByteArray)(hs:usedS D.l+s.size≤D.cap) : RefOk { D with l:=setF D.l k (fun f=>{ f with data:=f.data++s }) }:=by
 have hu:usedS (setF D.l k (fun f=>{ f with data:=f.data++s }))+f.data.size=usedS D.l+(f.data++s).size:=used_setF D.l k f (fun f=>{ f with data:=f.data++s }) hk;have hz:(f.data++s).size=f.data.size+s.size:=ByteArray.size_append;have hc:=h.cap;have hu2:usedS (setF D.l k (fun f=>{ f with data:=f.data++s }))=usedS D.l+s.size:=by omega
 refine⟨fun x hx=>?_,by show(setF _ _ _).length≤_;rw[setF_length];exact h.many,by show usedS (setF _ _ _)≤_;omega,h.cap,h.fails⟩;have hb:x.data.size≤usedS (setF D.l k (fun f=>{ f with data:=f.data++s })):=used_mem hx;refine⟨?_,by omega⟩;rcases mem_setF hx with hx | ⟨f',hf',rfl⟩
 ·exact(h.sizes x hx).1
 ·have:=(h.sizes f' (List.mem_of_getElem? hf')).1;show f'.synced≤(f'.data++s).size;rw[ByteArray.size_append];omega
theorem readS_down {D:DiskS}{n:ByteArray}{a k:Int}(hd:D.down=true) : readS D n a k=(ByteArray.empty,61,D):=by
 unfold readS;rw[if_pos hd]
def readE (D:DiskS) : DiskS:={ D with count:=D.count+1 }
theorem readS_none {D:DiskS}{n:ByteArray}{a k:Int}(hd:D.down=false)(hf:¬ findS D.l n<D.l.length) : readS D n a k=(ByteArray.empty,4,readE D):=by
 unfold readS;rw[if_neg (by rw[hd];decide)];simp only[none_at hf];rfl
theorem readS_bad {D:DiskS}{n:ByteArray}{a k:Int}{f:FileS}(hd:D.down=false)(hf:D.l[findS D.l n]? = some f)(hb:a<0∨k<0∨(f.data.size:Int)<a∨(f.data.size:Int)-a<k) : readS D n a k=(ByteArray.empty,2,readE D):=by
 unfold readS;rw[if_neg (by rw[hd];decide)];simp only[hf];rw[if_pos hb];rfl
theorem readS_go {D:DiskS}{n:ByteArray}{a k:Int}{f:FileS}(hd:D.down=false)(hf:D.l[findS D.l n]? = some f)(hb:¬ (a<0∨k<0∨(f.data.size:Int)<a∨(f.data.size:Int)-a<k)) : readS D n a k=(f.data.extract a.toNat (a.toNat+k.toNat),0,readE D):=by
 unfold readS;rw[if_neg (by rw[hd];decide)];simp only[hf];rw[if_neg hb];rfl
def cutE (D:DiskS)(n:ByteArray)(k:Int) : DiskS:={ D with l:=setF D.l (findS D.l n) (fun f=>⟨f.name,f.data.extract 0 (min k.toNat f.data.size),min f.synced (min k.toNat f.data.size)⟩) }
theorem cutS_go {D:DiskS}{n:ByteArray}{k:Int}(hf:findS D.l n<D.l.length)(hk:¬ k<0) : cutS D n k=(0,cutE D n k):=by
 unfold cutS;rw[if_pos hf,if_neg hk];rfl
theorem cutS_arg {D:DiskS}{n:ByteArray}{k:Int}(hf:findS D.l n<D.l.length)(hk:k<0) : cutS D n k=(2,D):=by
 unfold cutS;rw[if_pos hf,if_pos hk]
theorem cutS_none {D:DiskS}{n:ByteArray}{k:Int}(hf:¬ findS D.l n<D.l.length) : cutS D n k=(4,D):=by
 unfold cutS;rw[if_neg hf]
theorem min_int {P:Program}(x y:Int)(m:Nat)(h:(m:Int)=if y<x then y else x) : ∀ ts t w,(Builtin.min_ ts t #[.int .i64 x,.int .i64 y]).run P w = .ok (.int .i64 (m:Nat)) w:=fun ts t w=>by
 rw[run_min_int2,h]
theorem spoilS_none {D:DiskS}{n:ByteArray}{a:Int}{s:ByteArray}(hf:¬ findS D.l n<D.l.length) : spoilS D n a s=(4,D):=by
 unfold spoilS;rw[if_neg hf]
theorem spoilS_arg {D:DiskS}{n:ByteArray}{a:Int}{s:ByteArray}(hf:findS D.l n<D.l.length)(ha:a<0) : spoilS D n a s=(2,D):=by
 unfold spoilS;rw[if_pos hf,if_pos ha]
theorem spoilS_go {D:DiskS}{n:ByteArray}{a:Int}{s:ByteArray}(hf:findS D.l n<D.l.length)(ha:¬ a<0) : spoilS D n a s=(0, { D with l:=setF D.l (findS D.l n) (fun f=>{ f with data:=overS f.data s a.toNat }) }):=by
 unfold spoilS;rw[if_pos hf,if_neg ha]
theorem overK_length (d s:ByteArray)(a k:Nat) : (overK d s a k).length=d.size:=by
 unfold overK;rw[List.length_mapIdx];exact Array.length_toList
theorem overK_at (d s:ByteArray)(a k j:Nat)(hj:j<d.size) : (overK d s a k).getD j 0=if a≤j∧j<a+min k s.size then s.data.toList.getD (j-a) 0 else d.data.toList.getD j 0:=by
 have hl:d.data.toList.length=d.size:=Array.length_toList;unfold overK;rw[List.getD_eq_getElem?_getD,List.getElem?_mapIdx,List.getElem?_eq_getElem (by omega),List.getD_eq_getElem?_getD (l:=d.data.toList),List.getElem?_eq_getElem (by omega)];rfl
def newS (c:Nat) : DiskS:=⟨c,[],0,false,0,0,[]⟩
theorem IntsAt.in_ {w:World}{v:Value}{l:List Int}(h:IntsAt w v l) : IntsIn w v l:=by
 rcases h with h | ⟨b,off,cap,cs,fr,h1,h2,h3,h4,h5⟩
 ·exact Or.inl h
 ·refine Or.inr ⟨b,off,cap,h1,h2,h3, ?_,fun i x hx=>?_⟩
  ·rcases Nat.lt_or_ge b w.heap.size with c | c
   ·exact c
   ·rw[Array.getElem?_eq_none c] at h4;cases h4
  ·rw[cell_of_row w b (off+i) cs _ fr h4];exact h5 i x hx
theorem IntsIn.touch {F:List Nat}{w w':World}{v:Value}{l:List Int}(h:IntsIn w v l)(ht:Touch F w w')(hF:∀ b,v.ownBlock=some b→b ∉ F) : IntsIn w' v l:=by
 rcases h with h | ⟨b,off,cap,rfl,h2,h3,h4,h5⟩
 ·exact Or.inl h
 ·exact Or.inr ⟨b,off,cap,rfl,h2,h3,Nat.lt_of_lt_of_le h4 ht.size,fun i x hx=>(ht.cell (p:=⟨b,off+i,none⟩) h4 (hF b rfl)).trans (h5 i x hx)⟩
structure ProgOk (D:DiskS) : Prop where
 sizes:∀ f∈D.l,f.synced≤f.data.size∧f.data.size≤1048576
 many:D.l.length≤400
 used:usedS D.l≤1048576
 cap:D.cap≤1048576
abbrev Lies := World→Nat→Nat→List Nat→DiskS→Prop
abbrev ptr (g:Nat) : Value:=.pointer (some ⟨g,0,none⟩)
def EndAt (At:Lies)(base g:Nat)(F:List Nat)(w:World)(v:Value)(E:DiskS)(e:Ending)(w':World) : Prop :=
 ∃ F',e = .returned v∧At w' base g F' E∧(∀ x∈F',x∈F∨w.heap.size≤x)∧Touch F w w'
def StrsAt (w:World)(v:Value)(l:List ByteArray) : Prop :=
 (l=[]∧∃ a c,v = .slice a 0 c)∨∃ b off cap,v = .slice (some ⟨b,off,none⟩) l.length cap∧l.length≤cap∧cap≤maxLen∧b<w.heap.size∧∀ i x,l[i]? = some x→w.cell? ⟨b,off+i,none⟩=some (.string x)
theorem StrsAt.cell {w:World}{v:Value}{l:List ByteArray}(h:StrsAt w v l) : ∃ A off cap,v = .slice A l.length cap∧l.length≤maxLen∧∀ i x,l[i]? = some x→∃ b,A=some ⟨b,off,none⟩∧w.cell? ⟨b,off+i,none⟩=some (.string x):=by
 rcases h with⟨rfl,a,c,rfl⟩ | ⟨b,off,cap,h1,h2,h3,h4,h5⟩
 ·exact⟨a,0,c,rfl,Nat.zero_le _,fun i x h=>by simp at h⟩
 ·exact⟨some ⟨b,off,none⟩,off,cap,h1,by omega,fun i x hx=>⟨b,rfl,h5 i x hx⟩⟩
def StrsEnd (At:Lies)(base g:Nat)(F:List Nat)(w:World)(l:List ByteArray)(E:DiskS)(e:Ending)(w':World) : Prop :=
 ∃ F' v,e = .returned v∧StrsAt w' v l∧(∀ b,v.ownBlock=some b→w.heap.size≤b∧b ∉ F')∧At w' base g F' E∧(∀ x∈F',x∈F∨w.heap.size≤x)∧Touch F w w'
def MadeAt (At:Lies)(base:Nat)(w:World)(c:Nat)(e:Ending)(w':World) : Prop :=
 ∃ g F,e = .returned (.tuple #[ptr g,.int .i64 0])∧At w' base g F (newS c)∧(∀ x∈F,w.heap.size≤x)∧Touch [] w w'
abbrev err (n:Nat) : Value:=.int .i64 (n:Nat)
structure DiskApi (At:Lies) : Prop where
 touch:∀ {w w':World} {base g:Nat} {F G:List Nat} {D:DiskS},At w base g F D→Touch G w w'→(∀ x∈F,x ∉ G)→At w' base g F D
 low:∀ {w:World} {base g:Nat} {F:List Nat} {D:DiskS},At w base g F D→∀ x∈F,base≤x∧x<w.heap.size
 new_ : ∀ (base c:Nat) (w:World),base≤w.heap.size→c≤1048576→Calls Tryz.prog 7 #[.int .i64 (c:Nat)] w (MadeAt At base w c)
 create:∀ {w:World} {base g:Nat} {F:List Nat} {D:DiskS} (n:ByteArray),At w base g F D→ProgOk D→n.size≤maxLen →
  Calls Tryz.prog 129 #[ptr g,.string n] w (EndAt At base g F w (err (createS D n).1) (createS D n).2)
 append:∀ {w:World} {base g:Nat} {F:List Nat} {D:DiskS} (n s:ByteArray),At w base g F D→ProgOk D→s.size≤1099511627776→n.size≤maxLen →
  Calls Tryz.prog 131 #[ptr g,.string n,.string s] w (EndAt At base g F w (err (appendS D n s).1) (appendS D n s).2)
 read:∀ {w:World} {base g:Nat} {F:List Nat} {D:DiskS} (n:ByteArray) (a k:Int),At w base g F D→ProgOk D→D.count≤1099511627776→(Lit.int .i64 a).wf=true→(Lit.int .i64 k).wf=true→n.size≤maxLen →
  Calls Tryz.prog 51 #[ptr g,.string n,.int .i64 a,.int .i64 k] w (EndAt At base g F w (.tuple #[.string (readS D n a k).1,err (readS D n a k).2.1]) (readS D n a k).2.2)
 sync:∀ {w:World} {base g:Nat} {F:List Nat} {D:DiskS} (n:ByteArray),At w base g F D→ProgOk D→n.size≤maxLen →
  Calls Tryz.prog 147 #[ptr g,.string n] w (EndAt At base g F w (err (syncS D n).1) (syncS D n).2)
 rename:∀ {w:World} {base g:Nat} {F:List Nat} {D:DiskS} (n m:ByteArray),At w base g F D→ProgOk D→m.size≤maxLen→n.size≤maxLen →
  Calls Tryz.prog 190 #[ptr g,.string n,.string m] w (EndAt At base g F w (err (renameS D n m).1) (renameS D n m).2)
 delete:∀ {w:World} {base g:Nat} {F:List Nat} {D:DiskS} (n:ByteArray),At w base g F D→ProgOk D→n.size≤maxLen →
  Calls Tryz.prog 54 #[ptr g,.string n] w (EndAt At base g F w (err (deleteS D n).1) (deleteS D n).2)
 size:∀ {w:World} {base g:Nat} {F:List Nat} {D:DiskS} (n:ByteArray),At w base g F D→ProgOk D→n.size≤maxLen →
  Calls Tryz.prog 50 #[ptr g,.string n] w (EndAt At base g F w (.tuple #[.int .i64 ((sizeS D n).1:Nat),err (sizeS D n).2]) D)
 names:∀ {w:World} {base g:Nat} {F:List Nat} {D:DiskS},At w base g F D→ProgOk D →
  Calls Tryz.prog 48 #[ptr g] w (StrsEnd At base g F w (D.l.map FileS.name) D)
 free:∀ {w:World} {base g:Nat} {F:List Nat} {D:DiskS},At w base g F D→ProgOk D →
  Calls Tryz.prog 162 #[ptr g] w (EndAt At base g F w (.int .i64 ((D.cap:Int)-(usedS D.l:Nat))) D)
 up:∀ {w:World} {base g:Nat} {F:List Nat} {D:DiskS},At w base g F D→ProgOk D →
  Calls Tryz.prog 116 #[ptr g] w (EndAt At base g F w (.bool (!D.down)) D)
 starts:∀ {w:World} {base g:Nat} {F:List Nat} {D:DiskS},At w base g F D→ProgOk D →
  Calls Tryz.prog 23 #[ptr g] w (EndAt At base g F w (.int .i64 (D.starts:Nat)) D)
 crash:∀ {w:World} {base g:Nat} {F:List Nat} {D:DiskS} (v:Value) (keep:List Int),At w base g F D→ProgOk D→IntsIn w v keep→(∀ b,v.ownBlock=some b→b ∉ F)→keep.length≤1048576 →
  Calls Tryz.prog 20 #[ptr g,v] w (EndAt At base g F w (err (crashS D keep).1) (crashS D keep).2)
 spoil:∀ {w:World} {base g:Nat} {F:List Nat} {D:DiskS} (n:ByteArray) (a:Int) (s:ByteArray),At w base g F D→ProgOk D→(Lit.int .i64 a).wf=true→s.size≤1048576→n.size≤maxLen →
  Calls Tryz.prog 52 #[ptr g,.string n,.int .i64 a,.string s] w (EndAt At base g F w (err (spoilS D n a s).1) (spoilS D n a s).2)
 cut:∀ {w:World} {base g:Nat} {F:List Nat} {D:DiskS} (n:ByteArray) (k:Int),At w base g F D→ProgOk D→(Lit.int .i64 k).wf=true→n.size≤maxLen →
  Calls Tryz.prog 53 #[ptr g,.string n,.int .i64 k] w (EndAt At base g F w (err (cutS D n k).1) (cutS D n k).2)
 upq:∀ {w:World} {base g:Nat} {F:List Nat} {D:DiskS},At w base g F D→Calls Tryz.prog 116 #[ptr g] w fun e w'=>e = .returned (.bool (!D.down))∧w=w'
 startsq:∀ {w:World} {base g:Nat} {F:List Nat} {D:DiskS},At w base g F D→Calls Tryz.prog 23 #[ptr g] w fun e w'=>e = .returned (.int .i64 (D.starts:Nat))∧w=w'
 sizeq:∀ {w:World} {base g:Nat} {F:List Nat} {D:DiskS} (n:ByteArray),At w base g F D→ProgOk D→n.size≤maxLen→Calls Tryz.prog 50 #[ptr g,.string n] w fun e w'=>e = .returned (.tuple #[.int .i64 ((sizeS D n).1:Nat),err (sizeS D n).2])∧w=w'
 rise:∀ {w:World} {base g:Nat} {F:List Nat} {D:DiskS},At w base g F D→D.l.Pairwise (fun f g=>lessB f.name g.name=true)∧∀ f∈D.l,nameB f.name=true
theorem val_u32 {a b:Int}(h:a=b) : Value.int .u32 a = .int .u32 b:=by rw[h]
theorem ret_u32 {a b:Int}(h:a=b) : Ending.returned (.int .u32 a) = .returned (.int .u32 b):=by rw[h]
theorem stp_walk (y:Nat)(hy:y<4294967296) : bits .xor .u32 ((y:Int)/2) (bits .and .u32 (y:Int) 1*3988292384%4294967296)=((stp y:Nat):Int):=by
 have h1:bits .and .u32 (y:Int) 1=((y%2:Nat):Int):=by
  have h:=u32_and_nat y 1 hy (by decide);rw[nat_mask1] at h;exact h
 have h2:((y%2:Nat):Int)*3988292384%4294967296=((y%2*3988292384:Nat):Int):=by omega
 have h3:(y:Int)/2=((y/2:Nat):Int):=by omega
 rw[h1,h2,h3];exact u32_xor_nat _ _ (by omega) (by omega)
set_option maxHeartbeats 400000 in
theorem into_any (x c:Nat)(w:World)(hx:x<4294967296)(hc:c<256) :
  Calls Tryz.prog 280 #[.int .u32 (x:Nat),.int .u8 (c:Nat)] w fun e w'=>e = .returned (.int .u32 (intoS x c:Nat))∧w=w':=by
 go_enter Tryz.func280,Tryz.ntmps280;go_wp2
 go_loop [0,9] (fun a i=>∃ k:Nat,k≤8∧i = .int .i64 k∧a = .int .u32 (stk k (x^^^c):Nat)) (fun _ i=>8-(intOf i).toNat)
 case atStart=>exact⟨0,by omega,rfl,val_u32 (u32_xor_nat x c hx (by omega))⟩
 case round =>
  obtain⟨k,hk,rfl,rfl⟩:=hrel;by_cases hlt:k<8
  ·have hy:stk k (x^^^c)<4294967296:=stk_lt k (xor_lt hx (by omega));have hs:=Lib.hid (stk_one k (x^^^c));generalize stk k (x^^^c)=y at *;go_wp2
   go_round
   case rel=>exact⟨k+1,by omega,by go_num,val_u32 (by rw[hs.out];exact stp_walk y hy)⟩
   case measure=>simp[intOf];omega
  ·obtain rfl:k=8:=by omega
   go_wp2;go_ret;exact⟨rfl,rfl⟩
theorem compl (x:Nat)(hx:x<4294967296) : bits .xor .u32 IntKind.u32.max (x:Int)=((4294967295-x:Nat):Int):=by
 have e:IntKind.u32.max=((4294967295:Nat):Int):=by decide
 rw[e,all_xor hx];exact u32_xor_nat _ _ (by decide) hx
set_option maxHeartbeats 400000 in
theorem more_any (x:Nat)(s:ByteArray)(w:World)(hx:x<4294967296)(hs:s.size≤maxLen) :
  Calls Tryz.prog 258 #[.int .u32 (x:Nat),.string s] w fun e w'=>e = .returned (.int .u32 (moreS x s.data.toList:Nat))∧w=w':=by
 unfold maxLen at hs;go_enter Tryz.func258,Tryz.ntmps258;go_wp2
 go_loop [5,11] (fun a i=>∃ k:Nat,k≤s.size∧i = .int .i64 k∧a = .int .u32 (foldS (4294967295-x) (s.data.toList.take k):Nat)) (fun _ i=>s.size-(intOf i).toNat)
 case atStart =>
  exact⟨0,by omega,rfl,val_u32 (by rw[List.take_zero,foldS_nil];exact compl x hx)⟩
 case round =>
  obtain⟨k,hk,rfl,rfl⟩:=hrel;have hy:foldS (4294967295-x) (s.data.toList.take k)<4294967296:=foldS_lt _ (by omega);by_cases hlt:k<s.size
  ·have h1:=Lib.hid (take_snoc s k hlt);have h2:=Lib.hid (foldS_snoc (4294967295-x) (s.data.toList.take k) s[k]);have hc:=(s[k]).toNat_lt;generalize foldS (4294967295-x) (s.data.toList.take k)=y at *;go_wp2_with fail;refine(into_any y _ _ hy hc).mono ?_;rintro e w' ⟨rfl,rfl⟩;go_wp2
   go_round
   case rel=>exact⟨k+1,by omega,by go_num,val_u32 (by rw[h1.out,h2.out])⟩
   case measure=>simp[intOf];omega
  ·obtain rfl:k=s.size:=by omega
   have h1:List.take s.size s.data.toList=s.data.toList:=List.take_of_length_le (by simp);have hm:moreS x s.data.toList=4294967295-foldS (4294967295-x) s.data.toList:=rfl;rw[h1] at hy ⊢;clear h1;generalize foldS (4294967295-x) s.data.toList=y at *;have Hm:=Lib.hid hm;clear hm;go_wp2;go_ret;exact⟨ret_u32 (by rw[Hm.out];exact compl y hy),rfl⟩
theorem sum_any (s:ByteArray)(w:World)(hs:s.size≤maxLen) :
  Calls Tryz.prog 217 #[.string s] w fun e w'=>e = .returned (.int .u32 (sumS s.data.toList:Nat))∧w=w':=by
 have h:=Lib.hid (fun w=>more_any 0 s w (by decide) hs);unfold maxLen at hs;go_enter Tryz.func217,Tryz.ntmps217;go_wp2_with fail;refine(h.out _).mono ?_;rintro e w' ⟨rfl,rfl⟩;go_wp2;go_ret;exact⟨rfl,rfl⟩
theorem be_at : ∀ (k n j:Nat) (h:j<(be k n).length),(be k n)[j]=UInt8.ofNat (n/256 ^ (k-1-j))
 | 0,n,j,h=>by simp[be] at h
 | k+1,n,0,h=>by simp[be]
 | k+1,n,j+1,h=>by
   have hj:j<(be k n).length:=by simpa[be] using h
   have e:k+1-1-(j+1)=k-1-j:=by omega
   simp only[be,List.getElem_cons_succ,be_at k n j hj,e]
def laidAt (n N k j:Nat) : Value:=.int .u8 (if j+k<N then 0 else((n/256 ^ (N-1-j)%256:Nat):Int))
theorem laid_step (n N k j:Nat)(hk:k<N) : (if j=N-1-k then Value.int .u8 ((n/256 ^ k%256:Nat):Int) else laidAt n N k j)=laidAt n N (k+1) j:=by
 unfold laidAt;by_cases h:j=N-1-k
 ·have e:N-1-j=k:=by omega
  rw[if_pos h,if_neg (by omega),e]
 ·rw[if_neg h];by_cases h2:j+k<N
  ·rw[if_pos h2,if_pos (by omega)]
  ·rw[if_neg h2,if_neg (by omega)]
theorem laid_full (n N j:Nat)(h:j<(be N n).length) : laidAt n N N j = .int .u8 ((be N n)[j].toNat:Int):=by
 unfold laidAt;rw[if_neg (by omega),be_at,UInt8.toNat_ofNat']
theorem byte_val (n k:Nat) : (n:Int)/2 ^ (8*k)%256=((n/256 ^ k%256:Nat):Int):=by
 have e:(2:Nat) ^ (8*k)=256 ^ k:=by rw[Nat.pow_mul]
 rw[← e,Int.natCast_emod,Int.natCast_ediv,Int.natCast_pow];rfl
set_option maxHeartbeats 400000 in
theorem put_some (n N:Nat)(w:World)(h1:1≤N)(h8:N≤8)(hn:n<18446744073709551616) :
  Calls Tryz.prog 58 #[.int .u64 (n:Nat),.int .i64 (N:Nat)] w fun e w'=>e = .returned (.string (bs (be N n)))∧Below w.heap.size w w':=by
 have hmk:=run_make_row' (P:=Tryz.prog) 109 5 (.int .u8 0) 1 Tryz.underlying109 (by kernel_rfl) rfl .i64 .i64 N (by omega) (by omega);go_enter Tryz.func58,Tryz.ntmps58;go_wp2;go_loopw [16] (fun i wr=>∃ k:Nat,k≤N∧i = .int .i64 k∧wr.rowIs w.heap.size 5 N (laidAt n N k)∧Below w.heap.size w wr) (fun i _=>N-(intOf i).toNat)
 case atStart=>exact⟨0,Nat.zero_le _,rfl,(World.rowIs_made _ _ _ _).congr (fun j hj=>by unfold laidAt;rw[if_pos (by omega)]),(Below.refl _ _).alloc (Nat.le_refl _) _⟩
 case round =>
  obtain⟨k,hk,rfl,hrow,hbel⟩:=hrel;by_cases hlt:k<N
  ·have hcell:=hrow.cell (i:=N-1-k) (by omega);have hfz:=hrow.frozen (N-1-k);go_wp2;go_roundw
   case rel =>
    rw[byte_val n k];exact⟨k+1,by omega,by go_num,(hrow.set _ _).congr (fun j _=>laid_step n N k j hlt),hbel.setCell (Nat.le_refl _) _⟩
   case measure=>simp[intOf];omega
  ·obtain rfl:k=N:=by omega
   have hcv:(convert 109 9 (.slice (some ⟨w.heap.size,0,none⟩) k k)).run Tryz.prog wr = .ok (.string (bs (be k n))) wr:=by
    have h:=run_convert_bytes_back (P:=Tryz.prog) wr 109 9 5 ⟨w.heap.size,0,none⟩ k (be k n) Tryz.underlying109 Tryz.underlying5 Tryz.underlying9
     (fun j hj=>by
      have e:(⟨w.heap.size,0,none⟩:Addr).add j=⟨w.heap.size,j,none⟩:=by simp[Addr.add];omega
      rw[e,hrow.cell (by rw[be_length] at hj;exact hj),laid_full n k j hj])
    rw[be_length] at h;exact h
   go_wp2;go_ret;exact⟨rfl,hbel⟩
theorem un_take_lt (s:ByteArray)(k:Nat)(h:k≤7) : un (s.data.toList.take k)≤72057594037927935:=by
 have h1:=un_lt (s.data.toList.take k);have h2:(s.data.toList.take k).length≤7:=by rw[List.length_take];omega
 have h3:256 ^ (s.data.toList.take k).length≤256 ^ 7:=Nat.pow_le_pow_right (by decide) h2;have:(256:Nat) ^ 7=72057594037927936:=by decide
 omega
theorem getS_step (s:ByteArray)(k:Nat)(h:k<s.size) : un (s.data.toList.take (k+1))=un (s.data.toList.take k)*256+(s[k]).toNat:=by
 rw[take_snoc s k h,un_snoc]
theorem getS_end (s:ByteArray)(k:Nat)(h:k=s.size∨k=8)(hk:k≤8) : un (s.data.toList.take k)=getS s:=by
 unfold getS;rcases h with h | h
 ·subst h;rw[List.take_of_length_le (by simp),List.take_of_length_le (by simp;omega)]
 ·rw[h]
theorem or_byte (a c:Nat)(ha:a≤72057594037927935)(hc:c<2 ^ 8) : bits .or .u64 ((a:Int)*256) (c:Int)=((a*256+c:Nat):Int):=by
 have e:(a:Int)*256=((a*256:Nat):Int):=by omega
 have h:=Nat.shiftLeft_add_eq_or_of_lt hc a;rw[Nat.shiftLeft_eq] at h
 have h1:(BitVec.ofInt 64 ((a*256:Nat):Int)).toNat=a*256:=by
  rw[BitVec.ofInt_natCast,BitVec.toNat_ofNat];exact Nat.mod_eq_of_lt (by omega)
 have h2:(BitVec.ofInt 64 (c:Int)).toNat=c:=by
  rw[BitVec.ofInt_natCast,BitVec.toNat_ofNat];exact Nat.mod_eq_of_lt (by omega)
 rw[e];show IntKind.u64.wrap ((BitVec.ofInt 64 ((a*256:Nat):Int)|||BitVec.ofInt 64 (c:Int)).toNat:Int)=_;rw[BitVec.toNat_or,h1,h2,← show a*256+c=a*256|||c from h,IntKind.wrap_u64];omega
set_option maxHeartbeats 400000 in
theorem get_any (s:ByteArray)(w:World)(hs:s.size≤maxLen) :
  Calls Tryz.prog 84 #[.string s] w fun e w'=>e = .returned (.int .u64 (getS s:Nat))∧w=w':=by
 unfold maxLen at hs;by_cases h8:s.size≤8
 all_goals
  go_enter Tryz.func84,Tryz.ntmps84;go_wp2
  go_loop [3,8] (fun n i=>∃ k:Nat,k≤s.size∧k≤8∧i = .int .i64 k∧n = .int .u64 (un (s.data.toList.take k):Nat)) (fun _ i=>8-(intOf i).toNat)
  case atStart=>exact⟨0,Nat.zero_le _,by omega,rfl,rfl⟩
  case round =>
   obtain⟨k,hk,hk8,rfl,rfl⟩:=hrel;by_cases hlt:k<s.size∧k<8
   ·obtain⟨h1,h2⟩:=hlt;have hb:=un_take_lt s k (by omega);have hst:=Lib.hid (getS_step s k h1);have hc:=(s[k]).toNat_lt;go_wp2
    go_round
    case rel=>exact⟨k+1,by omega,by omega,by go_num,by rw[hst.out,or_byte _ _ (by omega) hc]⟩
    case measure=>simp[intOf];omega
   ·have hend:=Lib.hid (getS_end s k (by omega) hk8);go_wp2;go_ret;exact⟨ret_int (by rw[hend.out]),rfl⟩
theorem val_u64 {a b:Int}(h:a=b) : Value.int .u64 a = .int .u64 b:=by rw[h]
theorem ret_u64 {a b:Int}(h:a=b) : Ending.returned (.int .u64 a) = .returned (.int .u64 b):=by rw[h]
theorem mixA_walk (x:Nat)(hx:x<18446744073709551616) : IntKind.u64.wrap (bits .xor .u64 (x:Int) ((x:Int)/4294967296)*11400714819323198485)=((mixA x:Nat):Int):=mixStep_u64 x 4294967296 11400714819323198485 hx
theorem mixH_walk (x:Nat) : bits .xor .u64 ((mixA x:Nat):Int) (((mixA x:Nat):Int)/536870912)=((mixH x:Nat):Int):=xorShift_u64 (mixA x) 536870912 (mixA_lt x)
theorem mix_any (x:Nat)(w:World)(hx:x<18446744073709551616) :
  Calls Tryz.prog 199 #[.int .u64 (x:Nat)] w fun e w'=>e = .returned (.int .u64 (mixH x:Nat))∧w=w':=by
 go_enter Tryz.func199,Tryz.ntmps199;go_wp2;go_ret;exact⟨ret_u64 (by rw[mixA_walk x hx,mixH_walk]),rfl⟩
theorem amount : bits .and .u64 (IntKind.u64.wrap (-17)) 63=47:=by decide +kernel
theorem rotH_or (x:Nat)(hx:x<18446744073709551616) : x*140737488355328%18446744073709551616|||x/131072=rotH x:=by
 have e:x*140737488355328%18446744073709551616=x%131072*140737488355328:=by omega
 have h:=nat_join 47 (x%131072*140737488355328) (x/131072) (Nat.mul_mod_left _ _) (by omega);rw[e,h];unfold rotH;omega
theorem rot_walk (x:Nat)(hx:x<18446744073709551616) : bits .or .u64 (IntKind.u64.wrap ((x:Int)*140737488355328)) ((x:Int)/131072)=((rotH x:Nat):Int):=by
 have e1:IntKind.u64.wrap ((x:Int)*140737488355328)=((x*140737488355328%18446744073709551616:Nat):Int):=by
  rw[IntKind.wrap_u64];omega
 have e2:(x:Int)/131072=((x/131072:Nat):Int):=by omega
 rw[e1,e2,u64_or_nat _ _ (by omega) (by omega),rotH_or x hx]
theorem rot_any (x:Nat)(w:World)(hx:x<18446744073709551616) :
  Calls Tryz.prog 288 #[.int .u64 (x:Nat),.int .i64 (-17)] w fun e w'=>e = .returned (.int .u64 (rotH x:Nat))∧w=w':=by
 have hb:=amount;go_enter Tryz.func288,Tryz.ntmps288;go_wp2;go_ret;exact⟨ret_u64 (rot_walk x hx),rfl⟩
theorem step_walk (x:Nat)(hx:x<18446744073709551616) : bits .or .u64 ((rotH x:Nat):Int) 1=((stepH x:Nat):Int):=by
 have h:=u64_or_nat (rotH x) 1 (rotH_lt hx) (by decide);rw[stepH_or] at h;exact h
theorem step_any (x:Nat)(w:World)(hx:x<18446744073709551616) :
  Calls Tryz.prog 281 #[.int .u64 (x:Nat)] w fun e w'=>e = .returned (.int .u64 (stepH x:Nat))∧w=w':=by
 have h:=Lib.hid (fun w=>rot_any x w hx);have hr:=rotH_lt hx;have hs:=Lib.hid (step_walk x hx);generalize rotH x=r at *;go_enter Tryz.func281,Tryz.ntmps281;go_wp2_with fail;refine(h.out _).mono ?_;rintro e w' ⟨rfl,rfl⟩;go_wp2;go_ret;exact⟨ret_u64 hs.out,rfl⟩
theorem hst_walk (y c:Nat)(hy:y<18446744073709551616)(hc:c<256) : IntKind.u64.wrap (bits .xor .u64 (y:Int) (c:Int)*1099511628211)=((hst y c:Nat):Int):=by
 rw[u64_xor_nat y c hy (byte_big hc),IntKind.wrap_u64,hst_eq,Int.natCast_emod,Int.natCast_mul];rfl
theorem start_walk (s:Nat)(hs:s<18446744073709551616) : bits .xor .u64 14695981039346656037 (s:Int)=((startH^^^s:Nat):Int):=u64_xor_nat 14695981039346656037 s (by decide) hs
set_option maxHeartbeats 400000 in
theorem hash_any (x:Nat)(s:ByteArray)(w:World)(hx:x<18446744073709551616)(hs:s.size≤maxLen) :
  Calls Tryz.prog 158 #[.int .u64 (x:Nat),.string s] w fun e w'=>e = .returned (.int .u64 (hashH x s.data.toList:Nat))∧w=w':=by
 unfold maxLen at hs;by_cases h0:x=0
 ·subst h0;go_enter Tryz.func158,Tryz.ntmps158;go_wp2;go_ret;exact⟨rfl,rfl⟩
 ·have h0':((x:Int)==0)=false:=by simp;omega
  have hst0:=start_walk x hx;have hlt0:=xlt startH_lt hx;have hH:hashH x s.data.toList=mixH (foldH (startH^^^x) s.data.toList):=by unfold hashH;rw[if_neg h0]
  generalize startH^^^x=y0 at *;have HH:=Lib.hid hH;clear hH;go_enter Tryz.func158,Tryz.ntmps158;go_wp2
  go_loop [5,13] (fun a i=>∃ k:Nat,k≤s.size∧i = .int .i64 k∧a = .int .u64 (foldH y0 (s.data.toList.take k):Nat)) (fun _ i=>s.size-(intOf i).toNat)
  case atStart=>exact⟨0,by omega,rfl,val_u64 (by rw[List.take_zero,foldH_nil])⟩
  case round =>
   obtain⟨k,hk,rfl,rfl⟩:=hrel;have hy:foldH y0 (s.data.toList.take k)<18446744073709551616:=foldH_lt _ hlt0;by_cases hlt:k<s.size
   ·have h1:=Lib.hid (take_snoc s k hlt);have h2:=Lib.hid (foldH_snoc y0 (s.data.toList.take k) s[k]);have hc:=(s[k]).toNat_lt;generalize foldH y0 (s.data.toList.take k)=y at *;go_wp2
    go_round
    case rel=>exact⟨k+1,by omega,by go_num,val_u64 (by rw[h1.out,h2.out];exact hst_walk y _ hy hc)⟩
    case measure=>simp[intOf];omega
   ·obtain rfl:k=s.size:=by omega
    have h1:List.take s.size s.data.toList=s.data.toList:=List.take_of_length_le (by simp);rw[h1] at hy ⊢;clear h1;generalize foldH y0 s.data.toList=y at *;have h:=Lib.hid (fun w=>mix_any y w hy);go_wp2_with fail;refine(h.out _).mono ?_;rintro e w' ⟨rfl,rfl⟩;go_wp2;go_ret;exact⟨ret_u64 (by rw[HH.out]),rfl⟩
theorem prb_walk (h n m:Nat)(hh:h<18446744073709551616)(hm:0<m) : prb h (n:Nat) (m:Nat)=(h+n*stepH h%18446744073709551616)%18446744073709551616%m:=by
 unfold prb;rw[if_neg (by omega),Int.toNat_natCast,Int.toNat_natCast];congr 1;omega
theorem prb_wrap (h n m s:Nat)(hh:h<18446744073709551616)(hn:n<9223372036854775808)(hm:m<9223372036854775808)(hm0:0<m)(hs:stepH h=s) :
  wrap64 (Int.tmod (IntKind.u64.wrap ((h:Int)+IntKind.u64.wrap ((n:Int)*(s:Int)))) (m:Int))=((prb h (n:Nat) (m:Nat):Nat):Int):=by
 rw[prb_walk h n m hh hm0,hs,IntKind.wrap_u64,IntKind.wrap_u64,← Int.natCast_mul];have e:((h:Int)+((n*s:Nat):Int)%18446744073709551616)%18446744073709551616=(((h+n*s%18446744073709551616)%18446744073709551616:Nat):Int):=by omega
 rw[e];generalize (h+n*s%18446744073709551616)%18446744073709551616=x;rw[← Int.ofNat_tmod];have:=Nat.mod_lt x hm0;generalize x%m=y at *;unfold wrap64;omega
set_option maxHeartbeats 400000 in
theorem probe_any (h:Nat)(i b:Int)(w:World)(hh:h<18446744073709551616)(wi:(Lit.int .i64 i).wf=true)(wb:(Lit.int .i64 b).wf=true) :
  Calls Tryz.prog 263 #[.int .u64 (h:Nat),.int .i64 i,.int .i64 b] w fun e w'=>e = .returned (.int .i64 (prb h i b:Nat))∧w=w':=by
 have bi:=bounds_i64 wi;have bb:=bounds_i64 wb;by_cases hb:b<1
 ·have e:prb h i b=0:=by unfold prb;rw[if_pos (Or.inl hb)]
  rw[e];go_enter Tryz.func263,Tryz.ntmps263;go_wp2;go_ret;exact⟨rfl,rfl⟩
 ·by_cases hi:i<0
  ·have e:prb h i b=0:=by unfold prb;rw[if_pos (Or.inr hi)]
   rw[e];go_enter Tryz.func263,Tryz.ntmps263;go_wp2;go_ret;exact⟨rfl,rfl⟩
  ·obtain⟨n,rfl⟩:∃ n:Nat,i=n:=⟨i.toNat,by omega⟩
   obtain⟨m,rfl⟩:∃ m:Nat,b=m:=⟨b.toNat,by omega⟩
   have hs:=Lib.hid fun w=>step_any h w hh
   have hl:=stepH_lt hh;have hw:=Lib.hid (prb_wrap h n m (stepH h) hh (by omega) (by omega) (by omega) rfl);generalize stepH h=s at *;generalize prb h (n:Nat) (m:Nat)=r at *;have hm0:((m:Int)==0)=false:=by simp;omega
   go_enter Tryz.func263,Tryz.ntmps263;go_wp2_with fail;refine(hs.out _).mono ?_;rintro e w' ⟨rfl,rfl⟩;go_wp2;go_ret;refine⟨ret_int ?_,rfl⟩;exact hw.out
theorem mask_any (k:Nat)(w:World)(hk:k<9223372036854775808) :
  Calls Tryz.prog 237 #[.int .i64 (k:Nat)] w fun e w'=>e = .returned (.int .u8 (2 ^ (k%8):Nat))∧w=w':=by
 go_enter Tryz.func237,Tryz.ntmps237;go_wp2;go_ret;refine⟨ret_int ?_,rfl⟩;have h:=pow8_lt (Nat.mod_lt k (by decide):k%8<8);have e:(2:Int) ^ (k%8)=((2 ^ (k%8):Nat):Int):=by rw[Int.natCast_pow];rfl
 rw[e];generalize 2 ^ (k%8)=x at *;omega
def RowOf (mk:Nat→Value)(w:World)(v:Value)(l:List Nat) : Prop :=
 (l=[]∧∃ a cap,v = .slice a 0 cap) ∨
 (0<l.length∧∃ b off cap,v = .slice (some ⟨b,off,none⟩) l.length cap∧l.length≤cap∧b<w.heap.size∧∀ i,i<l.length→w.cell? ⟨b,off+i,none⟩=some (mk (l.getD i 0)))
def u64V (n:Nat) : Value:=.int .u64 (n:Int)
theorem RowOf.of_owns {w:World}{base:Nat}{e:TypeId}{v:Value}{l:List Nat}(mk:Nat→Value)(h:w.ownsRow base e 1 v l.length (l.map mk)) : RowOf mk w v l:=by
 have h':=h;rcases h.2 with⟨hv,h0⟩ | ⟨g,cap,cur,hv,hg,hh,hn,hm,hsz,ht⟩
 ·exact Or.inl ⟨List.length_eq_zero_iff.1 h0,none,0,hv⟩
 ·by_cases hl:l=[]
  ·subst hl;exact Or.inl ⟨rfl,_,_,hv⟩
  ·refine Or.inr ⟨List.length_pos_iff.2 hl,g,0,cap,hv,hn, ?_,fun i hi=>?_⟩
   ·obtain⟨hlt,_⟩:=Array.getElem?_eq_some_iff.1 hh;exact hlt
   ·rw[hv] at h';rw[Nat.zero_add,h'.cellAt i (by omega),List.getElem?_map,List.getD_eq_getElem?_getD,List.getElem?_eq_getElem hi];rfl
theorem words_at {l:List Nat}(h:Words l)(k:Nat) : l.getD k 0<18446744073709551616:=by
 by_cases hk:k<l.length
 ·rw[List.getD_eq_getElem?_getD,List.getElem?_eq_getElem hk];exact h _ (List.getElem_mem hk)
 ·rw[List.getD_eq_getElem?_getD,List.getElem?_eq_none (by omega)];exact(by decide:(0:Nat)<18446744073709551616)
theorem take_next (l:List Nat)(k:Nat)(h:k<l.length) : l.take (k+1)=l.take k++[l.getD k 0]:=by
 rw[List.take_add_one,List.getElem?_eq_getElem h,List.getD_eq_getElem?_getD,List.getElem?_eq_getElem h];rfl
theorem f_lt {a b:Nat}(ha:a<18446744073709551616)(hb:b<18446744073709551616) : (FloatKind.f64.format.order a b==some Ordering.lt)=(!nanB a&&!nanB b&&decide (sr a<sr b)):=by
 show(Ieee.double.order a b==some Ordering.lt)=_;rw[order_eq ha hb];cases nanB a<;>cases nanB b<;>simp[compare,compareOfLessAndEq];by_cases h:sr a<sr b
 ·simp[h]
 ·by_cases h2:sr a=sr b<;>simp[h,h2]
theorem f_eq {a b:Nat}(ha:a<18446744073709551616)(hb:b<18446744073709551616) : (FloatKind.f64.format.order a b==some Ordering.eq)=(!nanB a&&!nanB b&&decide (sr a=sr b)):=by
 show(Ieee.double.order a b==some Ordering.eq)=_;rw[order_eq ha hb];cases nanB a<;>cases nanB b<;>simp[compare,compareOfLessAndEq];by_cases h:sr a<sr b
 ·have:¬ sr a=sr b:=by omega
  simp[h,this]
 ·by_cases h2:sr a=sr b<;>simp[h2,h]
theorem f_self {a:Nat}(ha:a<18446744073709551616) : (FloatKind.f64.format.order a a==some Ordering.eq) = !nanB a:=by
 rw[f_eq ha ha];cases nanB a<;>simp
theorem f_ne {a b:Nat} : (FloatKind.f64.format.order a b != some Ordering.eq) = !(FloatKind.f64.format.order a b==some Ordering.eq):=rfl
theorem f_le {a b:Nat}(ha:a<18446744073709551616)(hb:b<18446744073709551616) : (FloatKind.f64.format.order a b==some Ordering.lt||FloatKind.f64.format.order a b==some Ordering.eq)=(!nanB a&&!nanB b&&decide (sr a≤sr b)):=by
 rw[f_lt ha hb,f_eq ha hb];cases nanB a<;>cases nanB b<;>simp;by_cases h:sr a<sr b
 ·simp[h,Int.le_of_lt h]
 ·by_cases h2:sr a=sr b
  ·simp[h2]
  ·have h3:¬ sr a≤sr b:=by omega
   simp[h,h2,h3]
theorem isnan_f (b:Nat)(w:World)(hb:b<18446744073709551616) :
  Calls Tryz.prog 232 #[.float .f64 b] w fun e w'=>e = .returned (.bool (nanB b))∧w=w':=by
 have o1:(FloatKind.f64.format.order b b != some Ordering.eq)=nanB b:=by rw[f_ne,f_self hb];cases nanB b<;>rfl
 generalize nanB b=n at *;clear hb;go_enter Tryz.func232,Tryz.ntmps232;go_wp2;go_ret;exact⟨rfl,rfl⟩
theorem half_le {b:Nat}(hb:b<18446744073709551616)(hn:nanB b=false)(k:Nat) :
  (FloatKind.f64.format.order (hw k) b==some Ordering.lt||FloatKind.f64.format.order (hw k) b==some Ordering.eq)=decide ((hw k:Int)≤sr b):=by
 rw[f_le (hw_word k) hb,hn,hw_nan,hw_sr];rfl
theorem half_run (t:TypeId)(k:Nat)(hk:k<17)(w:World) : (binOp .quo t (.float .f64 (hw k)) (.float .f64 4611686018427387904)).run Tryz.prog w = .ok (.float .f64 (hw (k+1))) w :=
 run_float_arith w .quo t .f64 _ _ _ (halved k hk)
set_option maxHeartbeats 1000000 in
theorem probes_num (b:Nat)(w:World)(hb:b<18446744073709551616)(hn:nanB b=false) :
  Calls Tryz.prog 202 #[.float .f64 b] w fun e w'=>∃ n:Nat,e = .returned (.int .i64 n)∧LeastHalf (sr b) n∧w=w':=by
 have h1:=Lib.hid (fun w=>isnan_f b w hb);have h2:=Lib.hid (half_le hb hn);rw[hn] at h1;clear hb hn;generalize sr b=s at *;go_enter Tryz.func202,Tryz.ntmps202;go_wp2_with fail;go_step3;go_wp2_with fail;refine(h1.out _).mono ?_;rintro e w' ⟨rfl,rfl⟩;go_wp2;go_step3;go_wp2;go_loopw [3,4] (fun p h wr=>∃ k:Nat,1≤k∧k≤16∧p = .int .i64 k∧h = .float .f64 (hw k)∧(∀ j,1≤j→j<k→s<hw j)∧wr=w) (fun p _ _=>17-(intOf p).toNat)
 case atStart=>exact⟨1,by omega,by omega,rfl,by rw[hw_one],fun j _ _=>by omega,rfl⟩
 case round =>
  obtain⟨k,k1,k2,rfl,rfl,hall,rfl⟩:=hrel;by_cases hlt:k<16
  ·have s1:(k:Int)<16:=by omega
   have o1:=h2.out k;have H:=Lib.hid (half_run 24 k (by omega) wr);have Hall:=Lib.hid hall;clear hall;obtain⟨d,hd⟩:∃ d,decide ((hw k:Int)≤s)=d:=⟨_,rfl⟩
   rw[hd] at o1;have Hd:=Lib.hid hd;clear hd;have hx:=H.out;cases d
   ·have G:=Lib.hid (show hw (k+1)=hw (k+1) from rfl);obtain⟨x,hxk⟩:∃ x,x=hw k:=⟨_,rfl⟩
    obtain⟨y,hyk⟩:∃ y,y=hw (k+1):=⟨_,rfl⟩
    rw[← hxk,← hyk] at hx;rw[← hxk] at o1 ⊢;have X:=Lib.hid hxk;have Y:=Lib.hid hyk;clear hxk hyk H G;go_wp2;go_roundw
    case rel =>
     refine⟨k+1,by omega,by omega,by go_num,by rw[Y.out],fun j j1 j2=>?_,by trivial⟩;rcases Nat.lt_or_ge j k with c | c
     ·exact Hall.out j j1 c
     ·obtain rfl:j=k:=by omega
      have:=of_decide_eq_false Hd.out;omega
    case measure=>simp[intOf];omega
   ·obtain⟨x,hxk⟩:∃ x,x=hw k:=⟨_,rfl⟩
    rw[← hxk] at o1 ⊢;have X:=Lib.hid hxk;clear hx H hxk;go_wp2
    (try rw[Exit.noGoto_ret])
    go_ret;exact⟨k,rfl,⟨k1,k2,Hall.out,Or.inr (of_decide_eq_true Hd.out)⟩,rfl⟩
  ·obtain rfl:k=16:=by omega
   have Hall:=Lib.hid hall;clear hall;generalize hw 16=x at *;go_wp2
   (try rw[Exit.noGoto_ret])
   go_ret;exact⟨16,rfl,⟨by omega,by omega,Hall.out,Or.inl rfl⟩,rfl⟩
theorem probes_nan (b:Nat)(w:World)(hb:b<18446744073709551616)(hn:nanB b=true) :
  Calls Tryz.prog 202 #[.float .f64 b] w fun e w'=>e = .returned (.int .i64 4)∧w=w':=by
 have h1:=Lib.hid (fun w=>isnan_f b w hb);rw[hn] at h1;clear hb hn;go_enter Tryz.func202,Tryz.ntmps202;go_wp2_with fail;go_step3;go_wp2_with fail;refine(h1.out _).mono ?_;rintro e w' ⟨rfl,rfl⟩;go_wp2
 (try rw[Exit.noGoto_ret])
 go_ret;exact⟨rfl,rfl⟩
theorem probes_any (b:Nat)(w:World)(hb:b<18446744073709551616) :
  Calls Tryz.prog 202 #[.float .f64 b] w fun e w'=>∃ n:Nat,e = .returned (.int .i64 n)∧ProbesOf b n∧w=w':=by
 unfold ProbesOf;cases hn:nanB b
 ·refine(probes_num b w hb hn).mono ?_;rintro e w' ⟨n,he,h,hw⟩;exact⟨n,he,by rw[if_neg (by decide)];exact h,hw⟩
 ·refine(probes_nan b w hb hn).mono ?_;rintro e w' ⟨he,hw⟩;exact⟨4,he,by rw[if_pos rfl],hw⟩
theorem within_n (n:Int)(w:World) :
  Calls Tryz.prog 233 #[.int .i64 n,.int .i64 0,.int .i64 10000] w fun e w'=>e = .returned (.int .i64 (cN n:Nat))∧w=w':=by
 have hc:(n<0∧(cN n:Int)=0)∨(0≤n∧10000<n∧(cN n:Int)=10000)∨(0≤n∧n≤10000∧(cN n:Int)=n):=by unfold cN;split;omega;split<;>omega
 rcases hc with⟨c1,e⟩ | ⟨c1,c2,e⟩ | ⟨c1,c2,e⟩
 all_goals
  rw[e];clear e;go_enter Tryz.func233,Tryz.ntmps233;go_wp2;go_ret;exact⟨rfl,rfl⟩
theorem within_k (n:Int)(w:World) :
  Calls Tryz.prog 233 #[.int .i64 n,.int .i64 1,.int .i64 16] w fun e w'=>e = .returned (.int .i64 (cK n:Nat))∧w=w':=by
 have hc:(n<1∧(cK n:Int)=1)∨(1≤n∧16<n∧(cK n:Int)=16)∨(1≤n∧n≤16∧(cK n:Int)=n):=by unfold cK;split;omega;split<;>omega
 rcases hc with⟨c1,e⟩ | ⟨c1,c2,e⟩ | ⟨c1,c2,e⟩
 all_goals
  rw[e];clear e;go_enter Tryz.func233,Tryz.ntmps233;go_wp2;go_ret;exact⟨rfl,rfl⟩
theorem pages_any (n k:Int)(w:World) :
  Calls Tryz.prog 203 #[.int .i64 n,.int .i64 k] w fun e w'=>e = .returned (.int .i64 (pagesS n k:Nat))∧w=w':=by
 have h1:=Lib.hid (fun w=>within_n n w);have h2:=Lib.hid (fun w=>within_k k w);have b1:=cN_le n;have b2:=cK_le k;unfold pagesS;generalize cN n=a at *;generalize cK k=b at *;have hp:=prod_le b1 b2;have hq:(a:Int)*(b:Int)=((a*b:Nat):Int):=by simp
 have hc:(480<a*b*3/2∧pagesN a b=(a*b*3/2+479)/480)∨(a*b*3/2≤480∧pagesN a b=1):=by unfold pagesN bitsS;split<;>omega
 generalize pagesN a b=r at *;generalize a*b=p at *;have s1:(p:Int)≤160000:=by omega
 have s2:(p:Int)*3≤480000:=by omega
 have s3:(0:Int)≤(p:Int)*3:=by omega
 rcases hc with⟨c1,rfl⟩ | ⟨c1,rfl⟩
 all_goals
  go_enter Tryz.func203,Tryz.ntmps203;go_wp2_with fail;refine(h1.out _).mono ?_;rintro e w' ⟨rfl,rfl⟩;go_wp2_with fail;refine(h2.out _).mono ?_;rintro e w' ⟨rfl,rfl⟩;go_wp2;go_ret;exact⟨ret_int (by omega),rfl⟩
def rdLen (s:ByteArray) : Nat:=un (s.data.toList.take 2)
def rdOk (s:ByteArray) : Bool:=decide (2≤s.size∧rdLen s+2≤s.size)
def rdA (s:ByteArray) : ByteArray:=if rdOk s=true then s.extract 2 (2+rdLen s) else ByteArray.empty
def rdB (s:ByteArray) : ByteArray:=if rdOk s=true then s.extract (2+rdLen s) s.size else ByteArray.empty
theorem rdLen_get (s:ByteArray) : getS (s.extract 0 2)=rdLen s:=by
 unfold getS rdLen;have e:(s.extract 0 2).data.toList=s.data.toList.take 2:=by simp
 rw[e,List.take_of_length_le (by rw[List.length_take];omega)]
theorem rdLen_lt (s:ByteArray) : rdLen s≤65535:=by
 have h:=un_lt (s.data.toList.take 2);have h2:(s.data.toList.take 2).length≤2:=by rw[List.length_take];omega
 have h3:256 ^ (s.data.toList.take 2).length≤256 ^ 2:=Nat.pow_le_pow_right (by decide) h2;unfold rdLen;omega
theorem rd_no {s:ByteArray}(h:¬ (2≤s.size∧rdLen s+2≤s.size)) : rdOk s=false∧rdA s=ByteArray.empty∧rdB s=ByteArray.empty:=by
 have e:rdOk s=false:=by simpa[rdOk] using h
 simp[rdA,rdB,e]
theorem rd_yes {s:ByteArray}(h:2≤s.size∧rdLen s+2≤s.size) : rdOk s=true∧rdA s=s.extract 2 (2+rdLen s)∧rdB s=s.extract (2+rdLen s) s.size:=by
 have e:rdOk s=true:=by simpa[rdOk] using h
 simp[rdA,rdB,e]
theorem get_head (s:ByteArray)(w:World) : Calls Tryz.prog 84 #[.string (s.extract 0 2)] w fun e w'=>e = .returned (.int .u64 (rdLen s:Nat))∧w=w':=by
 rw[← rdLen_get];exact get_any _ w (by unfold maxLen;rw[ByteArray.size_extract];omega)
set_option maxHeartbeats 400000 in
theorem read_yes (s:ByteArray)(w:World)(hs:s.size≤maxLen)(h2:2≤s.size)(L:Nat)(hL:L≤65535)(h:L+2≤s.size)
  (hg:∀ w:World,Calls Tryz.prog 84 #[.string (s.extract 0 2)] w fun e w'=>e = .returned (.int .u64 (L:Nat))∧w=w') :
  Calls Tryz.prog 230 #[.string s] w fun e w'=>e = .returned (.tuple #[.string (s.extract 2 (2+L)),.string (s.extract (2+L) s.size),.bool true])∧Below w.heap.size w w':=by
 unfold maxLen at hs;have Hg:=Lib.hid hg;clear hg;go_enter Tryz.func230,Tryz.ntmps230;go_wp2_with (go_at_call 84;refine(Hg.out _).mono ?_;rintro e w' ⟨rfl,rfl⟩);go_quiet (fail);go_wp2;go_ret3;exact⟨rfl,below_drewN (Below.refl _ _) _⟩
theorem read_no (s:ByteArray)(w:World)(hs:s.size≤maxLen)(h2:2≤s.size)(L:Nat)(hL:L≤65535)(h:s.size<L+2)
  (hg:∀ w:World,Calls Tryz.prog 84 #[.string (s.extract 0 2)] w fun e w'=>e = .returned (.int .u64 (L:Nat))∧w=w') :
  Calls Tryz.prog 230 #[.string s] w fun e w'=>e = .returned (.tuple #[.string ByteArray.empty,.string ByteArray.empty,.bool false])∧Below w.heap.size w w':=by
 unfold maxLen at hs;have Hg:=Lib.hid hg;clear hg;go_enter Tryz.func230,Tryz.ntmps230;go_wp2_with (go_at_call 84;refine(Hg.out _).mono ?_;rintro e w' ⟨rfl,rfl⟩);go_ret3;exact⟨rfl,Below.refl _ _⟩
theorem read_any (s:ByteArray)(w:World)(hs:s.size≤maxLen) :
  Calls Tryz.prog 230 #[.string s] w fun e w'=>e = .returned (.tuple #[.string (rdA s),.string (rdB s),.bool (rdOk s)])∧Below w.heap.size w w':=by
 by_cases h2:2≤s.size
 ·by_cases h:rdLen s+2≤s.size
  ·obtain⟨e1,e2,e3⟩:=rd_yes ⟨h2,h⟩;rw[e1,e2,e3];exact read_yes s w hs h2 _ (rdLen_lt s) h (get_head s)
  ·obtain⟨e1,e2,e3⟩:=rd_no (s:=s) (by omega);rw[e1,e2,e3];exact read_no s w hs h2 _ (rdLen_lt s) (by omega) (get_head s)
 ·obtain⟨e1,e2,e3⟩:=rd_no (s:=s) (by omega);rw[e1,e2,e3];clear e1 e2 e3;go_enter Tryz.func230,Tryz.ntmps230;go_wp2;go_ret3;exact⟨rfl,Below.refl _ _⟩
theorem put_two (n:Nat)(w:World)(hn:n<18446744073709551616) :
  Calls Tryz.prog 58 #[.int .u64 (n:Nat),.int .i64 2] w fun e w'=>e = .returned (.string (bs (be 2 n)))∧Below w.heap.size w w' :=
 put_some n 2 w (by omega) (by omega) hn
theorem add_text (s:ByteArray)(h:s.size≤65535)(l:List UInt8)(hl:l.length=2)(w:World) : (Op.stringOp .add (bs l) s).run Tryz.prog w = .ok (.string (bs l++s)) w :=
 run_string_add_sum (P:=Tryz.prog) (w:=w) (bs l) s (by rw[bs_size,hl];omega)
theorem text_yes (s:ByteArray)(w:World)(h:s.size≤65535) :
  Calls Tryz.prog 57 #[.string s] w fun e w'=>e = .returned (.string (bs (be 2 s.size)++s))∧Below w.heap.size w w':=by
 have hp:=Lib.hid (put_two s.size w (by omega));have ha:=add_text s h (be 2 s.size) (be_length _ _);go_enter Tryz.func57,Tryz.ntmps57;go_wp2_with (go_at_call 58;refine hp.out.mono ?_;rintro e w' ⟨rfl,hb⟩);go_ret;exact⟨rfl,‹Below _ _ _›⟩
def chk (t d:ByteArray) : Int:=if t.size=0 then 2 else if 16<t.size∨200<d.size then 3 else 0
theorem chk_arg {t d:ByteArray}(h:t.size=0) : chk t d=2:=by unfold chk;rw[if_pos h]
theorem chk_long {t d:ByteArray}(h0:¬ t.size=0)(h:16<t.size∨200<d.size) : chk t d=3:=by unfold chk;rw[if_neg h0,if_pos h]
theorem chk_ok {t d:ByteArray}(h0:¬ t.size=0)(h:¬ (16<t.size∨200<d.size)) : chk t d=0:=by unfold chk;rw[if_neg h0,if_neg h]
theorem chk_zero {t d:ByteArray} : chk t d=0↔(1≤t.size∧t.size≤16∧d.size≤200):=by
 unfold chk;by_cases h0:t.size=0
 ·rw[if_pos h0];omega
 ·rw[if_neg h0];by_cases h:16<t.size∨200<d.size
  ·rw[if_pos h];omega
  ·rw[if_neg h];omega
theorem chk_cases (t d:ByteArray) : chk t d=0∨chk t d=2∨chk t d=3:=by
 unfold chk;by_cases h0:t.size=0
 ·rw[if_pos h0];omega
 ·rw[if_neg h0];by_cases h:16<t.size∨200<d.size
  ·rw[if_pos h];omega
  ·rw[if_neg h];omega
def evB (t d:ByteArray)(b:Nat) : ByteArray:=bs (be 2 t.size)++t++(bs (be 2 d.size)++d)++bs (be 8 b)
theorem evB_size (t d:ByteArray)(b:Nat) : (evB t d b).size=t.size+d.size+12:=by
 unfold evB;simp only[ByteArray.size_append,bs_size,be_length];omega
def erL (s:ByteArray) : ByteArray:=rdB (rdB s)
def erOk (s:ByteArray) : Bool:=decide (8≤(erL s).size∧chk (rdA s) (rdA (rdB s))=0)
def erT (s:ByteArray) : ByteArray:=if erOk s=true then rdA s else ByteArray.empty
def erD (s:ByteArray) : ByteArray:=if erOk s=true then rdA (rdB s) else ByteArray.empty
def erW (s:ByteArray) : Nat:=if erOk s=true then getS (erL s) else 0
def erR (s:ByteArray) : ByteArray:=if erOk s=true then(erL s).extract 8 (erL s).size else ByteArray.empty
theorem er_yes {s:ByteArray}(h:erOk s=true) : erT s=rdA s∧erD s=rdA (rdB s)∧erW s=getS (erL s)∧erR s=(erL s).extract 8 (erL s).size:=by
 simp[erT,erD,erW,erR,h]
theorem er_no {s:ByteArray}(h:erOk s=false) : erT s=ByteArray.empty∧erD s=ByteArray.empty∧erW s=0∧erR s=ByteArray.empty:=by
 simp[erT,erD,erW,erR,h]
theorem rdB_size (s:ByteArray) : (rdB s).size≤s.size:=by
 unfold rdB;by_cases h:rdOk s=true
 ·rw[if_pos h,ByteArray.size_extract];omega
 ·rw[if_neg h];exact Nat.zero_le _
theorem rdA_size (s:ByteArray) : (rdA s).size≤s.size:=by
 unfold rdA;by_cases h:rdOk s=true
 ·rw[if_pos h,ByteArray.size_extract];omega
 ·rw[if_neg h];exact Nat.zero_le _
theorem erW_lt (s:ByteArray) : erW s<18446744073709551616:=by
 unfold erW;by_cases h:erOk s=true
 ·rw[if_pos h];exact getS_lt _
 ·rw[if_neg h];decide
theorem rdOk_of (s:ByteArray)(h:0<(rdB s).size) : rdOk s=true:=by
 cases e:rdOk s with
 | true=>rfl
 | false =>
   unfold rdB at h;rw[e] at h;simp at h
theorem rdOk_two (s:ByteArray)(h:0<(erL s).size) : rdOk s=true∧rdOk (rdB s)=true:=by
 have h2:=rdOk_of (rdB s) h;refine⟨rdOk_of s ?_,h2⟩;have:(rdB (rdB s)).size≤(rdB s).size:=rdB_size _;unfold erL at h;omega
theorem data_len (s:ByteArray) : s.data.toList.length=s.size:=Array.length_toList
theorem rdLen_of {t:ByteArray}{n:Nat}{r:List UInt8}(hn:n≤65535)(h:t.data.toList=be 2 n++r) : rdLen t=n:=by
 unfold rdLen;rw[h,List.take_append_of_le_length (by rw[be_length];omega),List.take_of_length_le (by rw[be_length];omega),un_be];omega
theorem rd_put {t r:ByteArray}(h:t.size≤65535) : rdA (bs (be 2 t.size)++t++r)=t∧rdB (bs (be 2 t.size)++t++r)=r∧rdOk (bs (be 2 t.size)++t++r)=true:=by
 have hd:(bs (be 2 t.size)++t++r).data.toList=be 2 t.size++(t.data.toList++r.data.toList):=by
  simp only[ByteArray.data_append,Array.toList_append,List.append_assoc,bs]
 have hl:rdLen (bs (be 2 t.size)++t++r)=t.size:=rdLen_of h hd;have hz:(bs (be 2 t.size)++t++r).size=t.size+2+r.size:=by rw[ByteArray.size_append,ByteArray.size_append,bs_size,be_length];omega
 obtain⟨e1,e2,e3⟩:=rd_yes (s:=bs (be 2 t.size)++t++r) ⟨by omega,by omega⟩;refine⟨?_, ?_,e1⟩
 ·rw[e2,hl];apply ByteArray.ext;apply Array.toList_inj.1;rw[ByteArray.data_extract,Array.toList_extract,hd,List.extract,List.drop_left' (be_length 2 _),List.take_left' (by rw[data_len];omega)]
 ·rw[e3,hl];apply ByteArray.ext;apply Array.toList_inj.1;rw[ByteArray.data_extract,Array.toList_extract,hd,hz,List.extract,← List.drop_drop,List.drop_left' (be_length 2 _),List.drop_left' (data_len t),List.take_of_length_le (by rw[data_len];omega)]
theorem rd_whole {s:ByteArray}(h:rdOk s=true) : bs (be 2 (rdA s).size)++rdA s++rdB s=s:=by
 have h':2≤s.size∧rdLen s+2≤s.size:=by simpa[rdOk] using h
 obtain⟨_,e2,e3⟩:=rd_yes h';have hz:(rdA s).size=rdLen s:=by rw[e2,ByteArray.size_extract];omega
 rw[hz,e2,e3];apply ByteArray.ext;apply Array.toList_inj.1;have hl:s.data.toList.length=s.size:=data_len s
 have hb:be 2 (rdLen s)=s.data.toList.take 2:=by
  have:=be_un (s.data.toList.take 2);rw[List.length_take,hl,Nat.min_eq_left h'.1] at this;exact this
 simp only[ByteArray.data_append,Array.toList_append,ByteArray.data_extract,Array.toList_extract,List.extract,bs,hb];rw[Nat.add_sub_cancel_left,List.append_assoc,List.take_of_length_le (l:=List.drop (2+rdLen s) s.data.toList) (by rw[List.length_drop];omega),← List.drop_drop,List.take_append_drop,List.take_append_drop]
theorem get_whole {L:ByteArray}(h:8≤L.size) : bs (be 8 (getS L))++L.extract 8 L.size=L:=by
 apply ByteArray.ext;apply Array.toList_inj.1;have hl:L.data.toList.length=L.size:=data_len L
 have hb:be 8 (getS L)=L.data.toList.take 8:=by
  have:=be_un (L.data.toList.take 8);rw[List.length_take,hl,Nat.min_eq_left h] at this;exact this
 simp only[ByteArray.data_append,Array.toList_append,ByteArray.data_extract,Array.toList_extract,List.extract,bs,hb];rw[List.take_of_length_le (l:=List.drop 8 L.data.toList) (by rw[List.length_drop];omega),List.take_append_drop]
theorem get_put {b:Nat}(hb:b<18446744073709551616)(r:ByteArray) : getS (bs (be 8 b)++r)=b∧(bs (be 8 b)++r).extract 8 (bs (be 8 b)++r).size=r:=by
 have hd:(bs (be 8 b)++r).data.toList=be 8 b++r.data.toList:=by simp only[ByteArray.data_append,Array.toList_append,bs]
 have hz:(bs (be 8 b)++r).size=8+r.size:=by rw[ByteArray.size_append,bs_size,be_length]
 constructor
 ·unfold getS;rw[hd,List.take_left' (be_length 8 b),un_be];exact Nat.mod_eq_of_lt (by omega)
 ·apply ByteArray.ext;apply Array.toList_inj.1;rw[ByteArray.data_extract,Array.toList_extract,hd,hz,List.extract,List.drop_left' (be_length 8 b),List.take_of_length_le (by rw[data_len];omega)]
theorem er_back (t d:ByteArray)(b:Nat)(r:ByteArray)(hk:chk t d=0)(hb:b<18446744073709551616) :
  erOk (evB t d b++r)=true∧erT (evB t d b++r)=t∧erD (evB t d b++r)=d∧erW (evB t d b++r)=b∧erR (evB t d b++r)=r:=by
 have hz:=chk_zero.1 hk;have e:evB t d b++r=bs (be 2 t.size)++t++(bs (be 2 d.size)++d++(bs (be 8 b)++r)):=by unfold evB;simp only[ByteArray.append_assoc]
 obtain⟨a1,a2,a3⟩:=rd_put (t:=t) (r:=bs (be 2 d.size)++d++(bs (be 8 b)++r)) (by omega);obtain⟨b1,b2,b3⟩:=rd_put (t:=d) (r:=bs (be 8 b)++r) (by omega);obtain⟨g1,g2⟩:=get_put hb r;rw[e];have hL:erL (bs (be 2 t.size)++t++(bs (be 2 d.size)++d++(bs (be 8 b)++r)))=bs (be 8 b)++r:=by unfold erL;rw[a2,b2]
 have hok:erOk (bs (be 2 t.size)++t++(bs (be 2 d.size)++d++(bs (be 8 b)++r)))=true:=by
  unfold erOk;rw[hL,a1,a2,b1,hk,ByteArray.size_append,bs_size,be_length];simp
 obtain⟨q1,q2,q3,q4⟩:=er_yes hok;refine⟨hok, ?_, ?_, ?_, ?_⟩
 ·rw[q1,a1]
 ·rw[q2,a2,b1]
 ·rw[q3,hL,g1]
 ·rw[q4,hL,g2]
theorem er_form {s:ByteArray}(h:erOk s=true) : chk (erT s) (erD s)=0∧evB (erT s) (erD s) (erW s)++erR s=s:=by
 obtain⟨q1,q2,q3,q4⟩:=er_yes h;have h':8≤(erL s).size∧chk (rdA s) (rdA (rdB s))=0:=by simpa[erOk] using h
 obtain⟨o1,o2⟩:=rdOk_two s (by omega);refine⟨by rw[q1,q2];exact h'.2, ?_⟩;rw[q1,q2,q3,q4];have w1:=rd_whole o1;have w2:=rd_whole o2;have w3:=get_whole h'.1;have e:evB (rdA s) (rdA (rdB s)) (getS (erL s))++(erL s).extract 8 (erL s).size=bs (be 2 (rdA s).size)++rdA s++(bs (be 2 (rdA (rdB s)).size)++rdA (rdB s)++(bs (be 8 (getS (erL s)))++(erL s).extract 8 (erL s).size)):=by unfold evB;simp only[ByteArray.append_assoc]
 rw[e,w3];have e2:erL s=rdB (rdB s):=rfl;rw[e2,w2,w1]
end
end Go.Proofs.YtokbfellcadkpaaGreat
