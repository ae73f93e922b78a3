/- ZnDiskRefLay, ZnDiskRefNames, ZnDiskRefCreate, ZnDiskRefRename, ZnDiskWf, ZnDiskProg, ZnFiles, ZnDiskUp, ZnDiskSt -/
import Derived.Test.YtokbfellcadkpaaGreatPn03
import Derived.Test.YtokbfellcadkpaaGreatPn01
import Derived.Deep.DeepCutAuto
import Derived.Deep.RegionHeld3
import Derived.Maps.AppendAt
import Derived.Deep.RegionLaw
import Derived.Deep.CutBlock
namespace Go.Proofs.YtokbfellcadkpaaGreat
set_option maxRecDepth 100000
set_option linter.unusedVariables false
section
open Go.RowKit
theorem ahead_le (l:List FileS)(n:ByteArray) : aheadS l n≤l.length:=List.findIdx_le_length
theorem deleteS_go {D:DiskS}{n:ByteArray}(hd:D.down=false)(hf:findS D.l n<D.l.length) : deleteS D n=if goesS D then(0, { nextS D with l:=dropS D.l (findS D.l n) }) else(61,sinkS D D.keep):=by
 unfold deleteS doneS;rw[if_neg (by rw[hd];decide),if_pos hf];rfl
theorem deleteS_none {D:DiskS}{n:ByteArray}(hd:D.down=false)(hf:¬ findS D.l n<D.l.length) : deleteS D n=(4,D):=by
 unfold deleteS;rw[if_neg (by rw[hd];decide),if_neg hf]
theorem deleteS_down {D:DiskS}{n:ByteArray}(hd:D.down=true) : deleteS D n=(61,D):=by
 unfold deleteS;rw[if_pos hd]
theorem createS_down {D:DiskS}{n:ByteArray}(hd:D.down=true) : createS D n=(61,D):=by
 unfold createS;rw[if_pos hd]
theorem createS_arg {D:DiskS}{n:ByteArray}(hd:D.down=false)(hn:nameB n=false) : createS D n=(2,D):=by
 unfold createS;rw[if_neg (by rw[hd];decide),hn,if_pos (by decide)]
theorem createS_have {D:DiskS}{n:ByteArray}(hd:D.down=false)(hn:nameB n=true)(hf:findS D.l n<D.l.length) : createS D n=(62,D):=by
 unfold createS;rw[if_neg (by rw[hd];decide),hn,if_neg (by decide),if_pos hf]
theorem createS_full {D:DiskS}{n:ByteArray}(hd:D.down=false)(hn:nameB n=true)(hf:¬ findS D.l n<D.l.length)(hm:400≤D.l.length) : createS D n=(60,D):=by
 unfold createS;rw[if_neg (by rw[hd];decide),hn,if_neg (by decide),if_neg hf,if_pos hm]
theorem createS_go {D:DiskS}{n:ByteArray}(hd:D.down=false)(hn:nameB n=true)(hf:¬ findS D.l n<D.l.length)(hm:¬ 400≤D.l.length) :
  createS D n=if goesS D then(0, { nextS D with l:=layS D.l ⟨n,ByteArray.empty,0⟩ }) else(61,sinkS D D.keep):=by
 unfold createS doneS;rw[if_neg (by rw[hd];decide),hn,if_neg (by decide),if_neg hf,if_neg hm];rfl
theorem renameS_down {D:DiskS}{n tn:ByteArray}(hd:D.down=true) : renameS D n tn=(61,D):=by
 unfold renameS;rw[if_pos hd]
theorem renameS_none {D:DiskS}{n tn:ByteArray}(hd:D.down=false)(hf:¬ findS D.l n<D.l.length) : renameS D n tn=(4,D):=by
 unfold renameS;rw[if_neg (by rw[hd];decide),if_neg hf]
theorem renameS_arg {D:DiskS}{n tn:ByteArray}(hd:D.down=false)(hf:findS D.l n<D.l.length)(hn:nameB tn=false) : renameS D n tn=(2,D):=by
 unfold renameS;rw[if_neg (by rw[hd];decide),if_pos hf,hn,if_pos (by decide)]
theorem renameS_go {D:DiskS}{n tn:ByteArray}(hd:D.down=false)(hf:findS D.l n<D.l.length)(hn:nameB tn=true) :
  renameS D n tn=if goesS D then(0, { nextS D with l:=if n=tn then D.l else renameL D.l (findS D.l n) tn }) else(61,sinkS D D.keep):=by
 unfold renameS doneS;rw[if_neg (by rw[hd];decide),if_pos hf,hn,if_neg (by decide)];rfl
def clearL (m:List FileS)(tn:ByteArray) : List FileS:=if findS m tn<m.length then dropS m (findS m tn) else m
theorem renameL_at {l:List FileS}{i:Nat}{f:FileS}{tn:ByteArray}(h:l[i]? = some f) : renameL l i tn=layS (clearL (dropS l i) tn) { f with name:=tn }:=by
 unfold renameL;rw[h];rfl
theorem dropS_length {l:List FileS}{i:Nat}(h:i<l.length) : (dropS l i).length+1=l.length:=by
 unfold dropS;rw[List.length_append,List.length_take,List.length_drop];omega
theorem clearL_length (m:List FileS)(tn:ByteArray) : (clearL m tn).length≤m.length:=by
 unfold clearL;split
 ·rename_i h;have:=dropS_length h;omega
 ·exact Nat.le_refl _
end
section
theorem used_cons (x:FileS)(l:List FileS) : usedS (x::l)=x.data.size+usedS l:=by unfold usedS;simp
theorem used_append (a b:List FileS) : usedS (a++b)=usedS a+usedS b:=by unfold usedS;rw[List.map_append,List.sum_append]
theorem used_split (l:List FileS)(k:Nat) : usedS l=usedS (l.take k)+usedS (l.drop k):=by rw[← used_append,List.take_append_drop]
theorem used_lay (l:List FileS)(f:FileS) : usedS (layS l f)=usedS l+f.data.size:=by
 unfold layS;have h:=used_split l (aheadS l f.name);have h1:usedS [f]=f.data.size:=by rw[used_cons];rfl
 rw[used_append,used_append,h1];omega
theorem lay_length (l:List FileS)(f:FileS) : (layS l f).length=l.length+1:=by
 unfold layS;have:=ahead_le l f.name;rw[List.length_append,List.length_append,List.length_take,List.length_drop];show min _ _+1+_=_;omega
theorem lay_mem {l:List FileS}{f x:FileS}(h:x∈layS l f) : x∈l∨x=f:=by
 unfold layS at h;rw[List.mem_append,List.mem_append] at h;rcases h with(h | h) | h
 ·exact Or.inl (List.mem_of_mem_take h)
 ·exact Or.inr (by simpa using h)
 ·exact Or.inl (List.mem_of_mem_drop h)
theorem drop_mem {l:List FileS}{i:Nat}{x:FileS}(h:x∈dropS l i) : x∈l:=by
 unfold dropS at h;rw[List.mem_append] at h;rcases h with h | h
 ·exact List.mem_of_mem_take h
 ·exact List.mem_of_mem_drop h
theorem used_drop {l:List FileS}{i:Nat}{f:FileS}(h:l[i]? = some f) : usedS (dropS l i)+f.data.size=usedS l:=by
 unfold dropS;have h1:=used_split l i;have hi:=(List.getElem?_eq_some_iff.1 h).1
 have h2:l.drop i=f::l.drop (i+1):=by
  rw[List.drop_eq_getElem_cons hi];congr 1;rw[List.getElem?_eq_getElem hi] at h;simpa using h
 rw[h2,used_cons] at h1;rw[used_append];omega
theorem clear_mem {l:List FileS}{n:ByteArray}{x:FileS}(h:x∈clearL l n) : x∈l:=by
 unfold clearL at h;split at h
 ·exact drop_mem h
 ·exact h
theorem used_clear (l:List FileS)(n:ByteArray) : usedS (clearL l n)≤usedS l:=by
 unfold clearL;split
 ·rename_i h;obtain⟨f,hf⟩:=some_at h;have:=used_drop hf;omega
 ·exact Nat.le_refl _
theorem crashF_le (f:FileS)(k:Int) : (crashF f k).data.size≤f.data.size∧(f.synced≤f.data.size→(crashF f k).synced≤(crashF f k).data.size):=by
 refine⟨?_,fun h=>by rw[crashF_size h];exact Nat.le_refl _⟩;show(f.data.extract 0 (staysS f k)).size≤_;rw[ByteArray.size_extract];omega
theorem used_map_le : ∀ (l m:List FileS),l.length=m.length→(∀ (i:Nat) x y,l[i]? = some x→m[i]? = some y→x.data.size≤y.data.size)→usedS l≤usedS m
 | [],[],_,_=>Nat.le_refl _
 | x::l,y::m,h,hp=>by
   rw[used_cons,used_cons];have h1:=hp 0 x y rfl rfl;have h2:=used_map_le l m (by simpa using h) (fun i a b ha hb=>hp (i+1) a b (by simpa using ha) (by simpa using hb));omega
 | [],_::_,h,_=>by simp at h
 | _::_,[],h,_=>by simp at h
theorem crashL_get (l:List FileS)(keep:List Int)(j:Nat) : (crashL l keep)[j]? = (l[j]?).map (fun f=>crashF f (keep.getD j 0)):=by unfold crashL;simp
end
end Go.Proofs.YtokbfellcadkpaaGreat
namespace Go.Proofs.YtokbfellcadkpaaGreat
set_option linter.unusedVariables false
set_option maxRecDepth 100000
structure WfP (D:DiskS) : Prop where
 synced:∀ f∈D.l,f.synced≤f.data.size
 used:usedS D.l≤D.cap
 cap:D.cap≤1048576
 many:D.l.length≤400
theorem WfP.ok {D:DiskS}(h:WfP D) : ProgOk D:=by
 have h1:=h.used;have h2:=h.cap;exact⟨fun f hf=>⟨h.synced f hf,by have:=used_mem hf;omega⟩,h.many,by omega,h.cap⟩
theorem WfP.next {D:DiskS}(h:WfP D) : WfP (nextS D):=⟨h.synced,h.used,h.cap,h.many⟩
theorem WfP.sink {D:DiskS}(h:WfP D)(keep:List Int) : WfP (sinkS D keep):=by
 have hlen:(crashL D.l keep).length=D.l.length:=by unfold crashL;simp
 refine⟨fun f hf=>?_, ?_,h.cap,by show(crashL D.l keep).length≤_;rw[hlen];exact h.many⟩
 ·obtain⟨j,hj⟩:=List.getElem?_of_mem (show f∈crashL D.l keep from hf);rw[crashL_get] at hj;cases hl:D.l[j]? with
  | none=>rw[hl] at hj;cases hj
  | some x =>
    rw[hl] at hj;obtain rfl:crashF x (keep.getD j 0)=f:=by simpa using hj
    exact(crashF_le x _).2 (h.synced x (List.mem_of_getElem? hl))
 ·refine Nat.le_trans (used_map_le _ _ hlen (fun i x y hx hy=>?_)) h.used;have hx':(crashL D.l keep)[i]? = some x:=hx;rw[crashL_get,hy] at hx';obtain rfl:crashF y (keep.getD i 0)=x:=by simpa using hx'
  exact(crashF_le y _).1
theorem WfP.setF {D:DiskS}(h:WfP D){k:Nat}{f:FileS}(hk:D.l[k]? = some f)(g:FileS→FileS)(hg:(g f).synced≤(g f).data.size)(hu:usedS D.l+(g f).data.size≤D.cap+f.data.size) : WfP { D with l:=setF D.l k g }:=by
 have hz:=used_setF D.l k f g hk;refine⟨fun x hx=>?_,by show usedS (Go.Proofs.YtokbfellcadkpaaGreat.setF D.l k g)≤D.cap;omega,h.cap,by show(Go.Proofs.YtokbfellcadkpaaGreat.setF D.l k g).length≤_;rw[setF_length];exact h.many⟩;rcases mem_setF hx with hx | ⟨f',hf',rfl⟩
 ·exact h.synced x hx
 ·rw[hk] at hf';obtain rfl:f=f':=by simpa using hf'
  exact hg
theorem WfP.done {D E:DiskS}(h:WfP D)(hE:WfP E) : WfP (doneS D E).2:=by
 unfold doneS;split
 ·exact⟨hE.synced,hE.used,hE.cap,hE.many⟩
 ·exact h.sink _
theorem wp_new {c:Nat}(hc:c≤1048576) : WfP (newS c):=⟨fun f hf=>(by cases hf),Nat.zero_le _,hc,Nat.zero_le _⟩
section
variable {D : DiskS} (h : WfP D)
include h
theorem wp_create (n:ByteArray) : WfP (createS D n).2:=by
 unfold createS;split
 ·exact h
 ·split
  ·exact h
  ·split
   ·exact h
   ·split
    ·exact h
    ·rename_i hm;refine h.done ⟨fun f hf=>?_, ?_,h.cap, ?_⟩
     ·rcases lay_mem hf with hf | rfl
      ·exact h.synced f hf
      ·exact Nat.zero_le _
     ·show usedS (layS _ _)≤_;rw[used_lay];exact h.used
     ·show(layS _ _).length≤_;rw[lay_length];omega
theorem wp_append (n s:ByteArray) : WfP (appendS D n s).2:=by
 unfold appendS;split
 ·exact h
 ·split
  ·rename_i hf;split
   ·exact h
   ·rename_i hu;obtain⟨f,hk,_⟩:=find_at hf;have hE:WfP (appE D n s):=h.setF hk _ (by show f.synced≤(f.data++s).size;have:=h.synced f (List.mem_of_getElem? hk);rw[ByteArray.size_append];omega) (by show usedS D.l+(f.data++s).size≤_;rw[ByteArray.size_append];omega);split
    ·exact hE.next
    ·exact hE.sink _
  ·exact h
theorem wp_read (n:ByteArray)(a k:Int) : WfP (readS D n a k).2.2:=by
 have hE:WfP { D with count:=D.count+1 }:=⟨h.synced,h.used,h.cap,h.many⟩
 unfold readS;split
 ·exact h
 ·dsimp only;split
  ·exact hE
  ·split<;>exact hE
theorem wp_sync (n:ByteArray) : WfP (syncS D n).2:=by
 unfold syncS;split
 ·exact h
 ·split
  ·rename_i hf;obtain⟨f,hk,_⟩:=find_at hf;exact h.done (h.setF hk _ (Nat.le_refl _) (by have:=h.used;show usedS D.l+f.data.size≤_;omega))
  ·exact h
theorem wp_rename (n m:ByteArray) : WfP (renameS D n m).2:=by
 unfold renameS;split
 ·exact h
 ·split
  ·rename_i hf;split
   ·exact h
   ·obtain⟨f,hk,_⟩:=find_at hf;refine h.done ?_;by_cases e:n=m
    ·rw[if_pos e];exact h
    ·rw[if_neg e,renameL_at hk];have hu:=used_drop hk;have hc:=used_clear (dropS D.l (findS D.l n)) m;have hl:=dropS_length hf;have hcl:=clearL_length (dropS D.l (findS D.l n)) m;have hcap:=h.used;have hmany:=h.many;refine⟨fun x hx=>?_, ?_,h.cap, ?_⟩
     ·rcases lay_mem hx with hx | rfl
      ·exact h.synced x (drop_mem (clear_mem hx))
      ·exact h.synced f (List.mem_of_getElem? hk)
     ·show usedS (layS _ _)≤_;rw[used_lay];show _+f.data.size≤D.cap;omega
     ·show(layS _ _).length≤_;rw[lay_length];omega
  ·exact h
theorem wp_delete (n:ByteArray) : WfP (deleteS D n).2:=by
 unfold deleteS;split
 ·exact h
 ·split
  ·rename_i hf;obtain⟨f,hk,_⟩:=find_at hf;have hu:=used_drop hk;have hl:=dropS_length hf;have hcap:=h.used;have hmany:=h.many;exact h.done ⟨fun x hx=>h.synced x (drop_mem hx),by show usedS (dropS _ _)≤D.cap;omega,h.cap,by show(dropS _ _).length≤_;omega⟩
  ·exact h
theorem wp_crash (keep:List Int) : WfP (crashS D keep).2:=by
 unfold crashS;split
 ·exact h
 ·exact h.sink _
end
end Go.Proofs.YtokbfellcadkpaaGreat
namespace Go.Proofs.YtokbfellcadkpaaGreat
set_option maxRecDepth 100000
set_option linter.unusedVariables false
section
def fileOf (l:List FileS)(n:ByteArray) : Option FileS:=l.find? (fun f=>decide (f.name=n))
theorem fileOf_at : ∀ (l:List FileS) (n:ByteArray),l[findS l n]? = fileOf l n
 | [],n=>rfl
 | x::l,n=>by
   have ih:=fileOf_at l n;unfold findS fileOf at *;rw[List.findIdx_cons,List.find?_cons];cases h:decide (x.name=n)
   ·simpa using ih
   ·rfl
theorem fileOf_lt {l:List FileS}{n:ByteArray} : findS l n<l.length↔fileOf l n≠none:=by
 rw[← fileOf_at];constructor
 ·intro h e;rw[List.getElem?_eq_getElem h] at e;cases e
 ·intro h;rcases Nat.lt_or_ge (findS l n) l.length with c | c
  ·exact c
  ·exact absurd (List.getElem?_eq_none c) h
theorem fileOf_none {l:List FileS}{n:ByteArray} : fileOf l n=none↔∀ f∈l,f.name≠n:=by
 unfold fileOf;rw[List.find?_eq_none];simp
theorem fileOf_setF (h:FileS→FileS)(hh:∀ f,(h f).name=f.name)(n m:ByteArray) : ∀ l:List FileS,fileOf (setF l (findS l n) h) m=if m=n then(fileOf l n).map h else fileOf l m
 | []=>by
   unfold setF fileOf findS;simp
 | x::l=>by
   have ih:=fileOf_setF h hh n m l;by_cases e:x.name=n
   ·have e1:findS (x::l) n=0:=by unfold findS;rw[List.findIdx_cons];simp[e]
    rw[e1];show fileOf (h x::l) m=_;unfold fileOf;rw[List.find?_cons,List.find?_cons,List.find?_cons,hh,decide_eq_true e];by_cases em:m=n
    ·rw[if_pos em,em,decide_eq_true e];rfl
    ·rw[if_neg em,decide_eq_false (fun q=>em (by rw[← e,q]))]
   ·have e1:findS (x::l) n=findS l n+1:=by unfold findS;rw[List.findIdx_cons];simp[e]
    rw[e1];show fileOf (x::setF l (findS l n) h) m=_;unfold fileOf at ih ⊢;rw[List.find?_cons,List.find?_cons,List.find?_cons,decide_eq_false e];by_cases em:x.name=m
    ·rw[decide_eq_true em];by_cases q:m=n
     ·exact absurd (em.trans q) e
     ·rw[if_neg q]
    ·rw[decide_eq_false em];exact ih
theorem fileOf_lay {l:List FileS}{f:FileS}(hn:fileOf l f.name=none)(m:ByteArray) : fileOf (layS l f) m=if m=f.name then some f else fileOf l m:=by
 have h0:=fileOf_none.1 hn;unfold layS;have hsp:l=l.take (aheadS l f.name)++l.drop (aheadS l f.name):=(List.take_append_drop _ _).symm;generalize aheadS l f.name=k at *;unfold fileOf;rw[List.find?_append,List.find?_append];by_cases e:m=f.name
 ·subst e;rw[if_pos rfl,List.find?_eq_none.2 (fun x hx=>by simpa using h0 x (List.mem_of_mem_take hx))];simp
 ·rw[if_neg e];have e2:[f].find? (fun f=>decide (f.name=m))=none:=by simp[Ne.symm e]
  rw[e2]
  conv=>rhs;rw[hsp,List.find?_append]
  simp
theorem setF_names (h:FileS→FileS)(hh:∀ f,(h f).name=f.name) : ∀ (l:List FileS) (k:Nat),(setF l k h).map FileS.name=l.map FileS.name
 | [],k=>by unfold setF;simp
 | x::l,0=>by show(h x::l).map _=_;simp[hh]
 | x::l,k+1=>by
   show(x::setF l k h).map _=_;rw[List.map_cons,List.map_cons,setF_names h hh l k]
theorem used_set_same {l:List FileS}{n:ByteArray}(h:FileS→FileS)(hd:∀ f,(h f).data.size=f.data.size) : usedS (setF l (findS l n) h)=usedS l:=by
 rcases Nat.lt_or_ge (findS l n) l.length with c | c
 ·obtain⟨f,hf⟩:=some_at c;have:=used_setF l _ f h hf;have:=hd f;omega
 ·have e:setF l (findS l n) h=l:=by
   unfold setF;exact List.modify_eq_self c
  rw[e]
theorem sizeS_of {D:DiskS}{n:ByteArray}{f:FileS}(hd:D.down=false)(h:fileOf D.l n=some f) : sizeS D n=(f.data.size,0):=by
 unfold sizeS;rw[fileOf_at,h,if_neg (by simp[hd])]
theorem readS_of {D:DiskS}{n:ByteArray}{f:FileS}{a k:Nat}(hd:D.down=false)(h:fileOf D.l n=some f)(hk:a+k≤f.data.size) : readS D n (a:Nat) (k:Nat)=(f.data.extract a (a+k),0, { D with count:=D.count+1 }):=by
 unfold readS;dsimp only;rw[fileOf_at,h,if_neg (by simp[hd])];dsimp only;rw[if_neg (by omega),Int.toNat_natCast,Int.toNat_natCast]
theorem syncS_of {D:DiskS}{n:ByteArray}{f:FileS}(hd:D.down=false)(hf:D.fails=0)(h:fileOf D.l n=some f) : syncS D n=(0, { D with l:=setF D.l (findS D.l n) (fun f=>{ f with synced:=f.data.size }) }):=by
 unfold syncS doneS goesS;rw[if_neg (by simp[hd]),if_pos (fileOf_lt.2 (by rw[h];simp)),hf,if_pos (by decide)]
theorem appendS_of {D:DiskS}{n s:ByteArray}{f:FileS}(hd:D.down=false)(hf:D.fails=0)(h:fileOf D.l n=some f)(hr:usedS D.l+s.size≤D.cap) : appendS D n s=(0,appE D n s):=by
 unfold appendS goesS;rw[if_neg (by simp[hd]),if_pos (fileOf_lt.2 (by rw[h];simp)),if_neg (by omega),hf,if_pos (by decide)];unfold nextS appE;simp[hf]
theorem createS_of {D:DiskS}{n:ByteArray}(hd:D.down=false)(hf:D.fails=0)(hn:nameB n=true)(h:fileOf D.l n=none)(hm:D.l.length<400) : createS D n=(0, { D with l:=layS D.l ⟨n,ByteArray.empty,0⟩ }):=by
 unfold createS doneS goesS;rw[if_neg (by simp[hd]),if_neg (by simp[hn]),if_neg (fun q=>fileOf_lt.1 q h),if_neg (by omega),hf,if_pos (by decide)]
theorem deleteS_no {D:DiskS}{n:ByteArray}(hd:D.down=false)(h:fileOf D.l n=none) : deleteS D n=(4,D):=by
 unfold deleteS;rw[if_neg (by simp[hd]),if_neg (fun q=>fileOf_lt.1 q h)]
def layP (D:DiskS)(n s:ByteArray) : Nat × DiskS :=
 if (createS D n).1≠0 then createS D n
 else if (appendS (createS D n).2 n s).1≠0 then appendS (createS D n).2 n s
 else syncS (appendS (createS D n).2 n s).2 n
def rdW (D:DiskS)(n:ByteArray) : ByteArray × Nat × DiskS:=if (sizeS D n).2=0 then readS D n 0 ((sizeS D n).1:Nat) else(ByteArray.empty,(sizeS D n).2,D)
theorem wp_rdW {D:DiskS}(h:WfP D)(n:ByteArray) : WfP (rdW D n).2.2:=by
 unfold rdW;split
 ·exact wp_read h _ _ _
 ·exact h
theorem rdW_count (D:DiskS)(n:ByteArray) : (rdW D n).2.2.count≤D.count+1∧(rdW D n).2.2.cap=D.cap∧(rdW D n).2.2.l=D.l∧(rdW D n).2.2.down=D.down∧(rdW D n).2.2.fails=D.fails:=by
 unfold rdW readS;split
 ·split
  ·exact⟨Nat.le_succ _,rfl,rfl,rfl,rfl⟩
  ·dsimp only;split
   ·exact⟨Nat.le_refl _,rfl,rfl,rfl,rfl⟩
   ·split<;>exact⟨Nat.le_refl _,rfl,rfl,rfl,rfl⟩
 ·exact⟨Nat.le_succ _,rfl,rfl,rfl,rfl⟩
theorem wp_lay {D:DiskS}(ok:WfP D)(n s:ByteArray) : WfP (layP D n s).2:=by
 unfold layP;have o1:=wp_create ok n;have o2:=wp_append o1 n s;split
 ·exact o1
 ·split
  ·exact o2
  ·exact wp_sync o2 n
structure UpD (D:DiskS) : Prop where
 down:D.down=false
 fails:D.fails=0
 wf:WfP D
theorem UpD.count {D:DiskS}(h:UpD D)(k:Nat) : UpD { D with count:=k }:=⟨h.down,h.fails,⟨h.wf.synced,h.wf.used,h.wf.cap,h.wf.many⟩⟩
theorem upd_new {c:Nat}(hc:c≤1048576) : UpD (newS c):=⟨rfl,rfl,wp_new hc⟩
theorem ba_empty_append (s:ByteArray) : ByteArray.empty++s=s:=by
 apply ByteArray.ext;rw[ByteArray.data_append];apply Array.toList_inj.1;rw[Array.toList_append];rfl
structure Laid (D E:DiskS)(n s:ByteArray) : Prop where
 up:UpD E
 count:E.count=D.count
 cap:E.cap=D.cap
 used:usedS E.l=usedS D.l+s.size
 many:E.l.length=D.l.length+1
 file:∀ m,fileOf E.l m=if m=n then some ⟨n,s,s.size⟩ else fileOf D.l m
theorem lay_ok {D:DiskS}(h:UpD D)(hm:D.l.length<400){n s:ByteArray}(hn:nameB n=true)(hf:fileOf D.l n=none)(hr:usedS D.l+s.size≤D.cap) : ∃ E,layP D n s=(0,E)∧Laid D E n s:=by
 have c1:=createS_of h.down h.fails hn hf hm;have w1:=wp_create h.wf n;rw[c1] at w1;have g1:∀ m,fileOf (layS D.l ⟨n,ByteArray.empty,0⟩) m=if m=n then some ⟨n,ByteArray.empty,0⟩ else fileOf D.l m:=fun m=>fileOf_lay (f:=⟨n,ByteArray.empty,0⟩) hf m
 have u1:usedS (layS D.l ⟨n,ByteArray.empty,0⟩)=usedS D.l:=by rw[used_lay];rfl
 obtain⟨D1,hD1⟩:∃ D1:DiskS, { D with l:=layS D.l ⟨n,ByteArray.empty,0⟩ }=D1:=⟨_,rfl⟩
 have d1:D1.down=false∧D1.fails=0∧D1.count=D.count∧D1.cap=D.cap∧D1.l=layS D.l ⟨n,ByteArray.empty,0⟩:=by rw[← hD1];exact⟨h.down,h.fails,rfl,rfl,rfl⟩
 rw[hD1] at c1 w1;have f1:fileOf D1.l n=some ⟨n,ByteArray.empty,0⟩:=by rw[d1.2.2.2.2,g1,if_pos rfl]
 have a1:=appendS_of (s:=s) d1.1 d1.2.1 f1 (by rw[d1.2.2.2.2,u1,d1.2.2.2.1];exact hr);have w2:=wp_append w1 n s;rw[a1] at w2;obtain⟨D2,hD2⟩:∃ D2,appE D1 n s=D2:=⟨_,rfl⟩
 have d2:D2.down=false∧D2.fails=0∧D2.count=D.count∧D2.cap=D.cap∧D2.l=setF D1.l (findS D1.l n) (fun f=>{ f with data:=f.data++s }):=by
  rw[← hD2];exact⟨d1.1,d1.2.1,d1.2.2.1,d1.2.2.2.1,rfl⟩
 rw[hD2] at a1 w2
 have g2:∀ m,fileOf D2.l m=if m=n then some ⟨n,s,0⟩ else fileOf D.l m:=fun m=>by
  rw[d2.2.2.2.2,fileOf_setF _ (by intro f;rfl),f1];by_cases e:m=n
  ·rw[if_pos e,if_pos e];show some (FileS.mk n (ByteArray.empty++s) 0)=_;rw[ba_empty_append]
  ·rw[if_neg e,if_neg e,d1.2.2.2.2,g1,if_neg e]
 have hk1:D1.l[findS D1.l n]? = some ⟨n,ByteArray.empty,0⟩:=by rw[fileOf_at];exact f1
 have u2:usedS D2.l=usedS D.l+s.size:=by
  have:=used_setF D1.l _ _ (fun f=>{ f with data:=f.data++s }) hk1;rw[← d2.2.2.2.2] at this;have e1:usedS D1.l=usedS D.l:=by rw[d1.2.2.2.2];exact u1
  have e2:(ByteArray.empty++s).size=s.size:=by rw[ba_empty_append]
  have e3:(ByteArray.empty).size=0:=rfl;simp only[e2,e3] at this;omega
 have f2:fileOf D2.l n=some ⟨n,s,0⟩:=by rw[g2,if_pos rfl]
 have s1:=syncS_of d2.1 d2.2.1 f2;have w3:=wp_sync w2 n;rw[s1] at w3;refine⟨{ D2 with l:=setF D2.l (findS D2.l n) (fun f=>{ f with synced:=f.data.size }) }, ?_,⟨d2.1,d2.2.1,w3⟩,d2.2.2.1,d2.2.2.2.1, ?_, ?_,fun m=>?_⟩
 ·unfold layP;rw[c1];simp only;rw[if_neg (by decide),a1];simp only;rw[if_neg (by decide)];exact s1
 ·show usedS (setF _ _ _)=_;rw[used_set_same _ (by intro f;rfl),u2]
 ·show(setF _ _ _).length=_;rw[setF_length,d2.2.2.2.2,setF_length,d1.2.2.2.2,lay_length]
 ·show fileOf (setF _ _ _) m=_;rw[fileOf_setF _ (by intro f;rfl),f2,g2];by_cases e:m=n
  ·rw[if_pos e,if_pos e];rfl
  ·rw[if_neg e,if_neg e,if_neg e]
theorem rdW_of {D:DiskS}{n:ByteArray}{f:FileS}(hd:D.down=false)(h:fileOf D.l n=some f) : rdW D n=(f.data,0, { D with count:=D.count+1 }):=by
 unfold rdW;rw[sizeS_of hd h,if_pos rfl];have:=readS_of (a:=0) (k:=f.data.size) hd h (by omega);rw[Nat.zero_add] at this
 have e:f.data.extract 0 f.data.size=f.data:=by
  apply ByteArray.ext;rw[ByteArray.data_extract];exact Array.extract_size
 rw[e] at this;exact this
theorem rdW_none {D:DiskS}{n:ByteArray}(hd:D.down=false)(h:fileOf D.l n=none) : rdW D n=(ByteArray.empty,4,D):=by
 have e:sizeS D n=(0,4):=by
  unfold sizeS;rw[if_neg (by simp[hd]),fileOf_at,h]
 unfold rdW;rw[e,if_neg (by decide)]
theorem fileOf_drop_ne {n m:ByteArray}(hne:m≠n) : ∀ l:List FileS,fileOf (dropS l (findS l n)) m=fileOf l m
 | []=>rfl
 | x::l=>by
   have ih:=fileOf_drop_ne hne l;by_cases e:x.name=n
   ·have e1:findS (x::l) n=0:=by unfold findS;rw[List.findIdx_cons];simp[e]
    rw[e1];show fileOf l m=_;unfold fileOf;rw[List.find?_cons,decide_eq_false (fun q=>hne (by rw[← e,q]))]
   ·have e1:findS (x::l) n=findS l n+1:=by unfold findS;rw[List.findIdx_cons];simp[e]
    rw[e1];show fileOf (x::dropS l (findS l n)) m=_;unfold fileOf at ih ⊢;rw[List.find?_cons,List.find?_cons,ih]
theorem deleteS_of {D:DiskS}(h:UpD D){n:ByteArray}{f:FileS}(hf:fileOf D.l n=some f) : ∃ E,deleteS D n=(0,E)∧UpD E∧E.count=D.count∧E.cap=D.cap∧E.l=dropS D.l (findS D.l n)∧usedS E.l+f.data.size=usedS D.l∧E.l.length+1=D.l.length∧∀ m,m≠n→fileOf E.l m=fileOf D.l m:=by
 have hlt:findS D.l n<D.l.length:=fileOf_lt.2 (by rw[hf];simp);have hk:D.l[findS D.l n]? = some f:=by rw[fileOf_at];exact hf
 have e:deleteS D n=(0, { D with l:=dropS D.l (findS D.l n) }):=by
  unfold deleteS doneS goesS;rw[if_neg (by simp[h.down]),if_pos hlt,h.fails,if_pos (by decide)]
 have w:=wp_delete h.wf n;rw[e] at w;exact⟨_,e,⟨h.down,h.fails,w⟩,rfl,rfl,rfl,used_drop hk,by have:=dropS_length hlt;show(dropS _ _).length+1=_;omega,fun m hm=>fileOf_drop_ne hm D.l⟩
end
end Go.Proofs.YtokbfellcadkpaaGreat
namespace Go.Proofs.YtokbfellcadkpaaGreat
open Go.RowKit
set_option linter.unusedVariables false
set_option maxRecDepth 100000
def DS (At:Lies)(w0:World)(gd:Nat)(D:DiskS)(E:List Nat)(w:World) : Prop :=
 ∃ F,At w w0.heap.size gd F D∧Below w0.heap.size w0 w∧∀ b∈E,b ∉ F∧b<w.heap.size
structure Kept (E:List Nat)(w w':World) : Prop where
 size:w.heap.size≤w'.heap.size
 block:∀ b∈E,w'.heap[b]? = w.heap[b]?
def DEnd (At:Lies)(w0:World)(gd:Nat)(v:Value)(D':DiskS)(E:List Nat)(w:World)(e:Ending)(w':World) : Prop:=e = .returned v∧DS At w0 gd D' E w'∧Kept E w w'
abbrev ownL (v:Value) : List Nat:=v.ownBlock.toList
theorem ownL_mem {v:Value}{b:Nat} : b∈ownL v↔v.ownBlock=some b:=by simp[ownL]
section
variable {E E' : List Nat} {w w' w'' : World}
theorem Kept.refl (E:List Nat)(w:World) : Kept E w w:=⟨Nat.le_refl _,fun _ _=>rfl⟩
theorem Kept.trans (h:Kept E w w')(k:Kept E w' w'') : Kept E w w'':=⟨Nat.le_trans h.size k.size,fun b hb=>(k.block b hb).trans (h.block b hb)⟩
theorem Kept.less (h:Kept E w w')(hE:∀ b∈E',b∈E) : Kept E' w w':=⟨h.size,fun b hb=>h.block b (hE b hb)⟩
theorem Kept.drew (h:Kept E w w') : Kept E w w'.drew:=⟨h.size,h.block⟩
theorem Kept.blok {g:Nat}{t:TypeId}{cs:Array Value}(h:Kept E w w')(hb:Blok w g t cs)(hg:g∈E) : Blok w' g t cs:=(h.block g hg).trans hb
theorem Kept.of_touch {B:List Nat}(ht:Touch B w w')(hE:∀ b∈E,b<w.heap.size∧b ∉ B) : Kept E w w':=⟨ht.size,fun b h=>ht.block b (hE b h).1 (hE b h).2⟩
theorem Kept.of_below (hb:Below w.heap.size w w')(hE:∀ b∈E,b<w.heap.size) : Kept E w w':=⟨hb.size,fun b h=>hb.block b (hE b h)⟩
end
section
variable {At : Lies} {w0 w w' : World} {gd : Nat} {D D' : DiskS} {E E' : List Nat}
theorem DS.kept (h:DS At w0 gd D E w) : Below w0.heap.size w0 w:=by obtain⟨F,h1,h2,h3⟩:=h;exact h2
theorem DS.lt (h:DS At w0 gd D E w) : ∀ b∈E,b<w.heap.size:=by obtain⟨F,h1,h2,h3⟩:=h;exact fun b hb=>(h3 b hb).2
theorem DS.less (h:DS At w0 gd D E w)(hE:∀ b∈E',b∈E) : DS At w0 gd D E' w:=by
 obtain⟨F,h1,h2,h3⟩:=h;exact⟨F,h1,h2,fun b hb=>h3 b (hE b hb)⟩
theorem DS.rise (api:DiskApi At)(h:DS At w0 gd D E w) : D.l.Pairwise (fun f g=>lessB f.name g.name=true):=by
 obtain⟨F,h1,h2,h3⟩:=h;exact(api.rise h1).1
theorem DS.own2 (api:DiskApi At)(h:DS At w0 gd D E w){B:List Nat}(ht:Touch B w w')(hB:∀ b∈B,b∈E∧w0.heap.size≤b) : DS At w0 gd D E w':=by
 obtain⟨F,h1,h2,h3⟩:=h;exact⟨F,api.touch h1 ht (fun x hx hm=>(h3 x (hB x hm).1).1 hx),h2.trans (ht.below h2.size (fun x hx=>(hB x hx).2)),fun b hb=>⟨(h3 b hb).1,Nat.lt_of_lt_of_le (h3 b hb).2 ht.size⟩⟩
theorem DS.below (api:DiskApi At)(h:DS At w0 gd D E w)(hb:Below w.heap.size w w') : DS At w0 gd D E w':=by
 obtain⟨F,h1,h2,h3⟩:=h;exact⟨F,api.touch h1 (Touch.of_below hb) (fun _ _=>by simp),h2.trans (hb.mono h2.size),fun b hb2=>⟨(h3 b hb2).1,Nat.lt_of_lt_of_le (h3 b hb2).2 hb.size⟩⟩
theorem DS.drew (api:DiskApi At)(h:DS At w0 gd D E w) : DS At w0 gd D E w.drew:=h.below api (Below.refl _ _).drew
theorem DS.more (api:DiskApi At)(h:DS At w0 gd D E w)(hb:Below w.heap.size w w'){B:List Nat}(hB:∀ b∈B,w.heap.size≤b∧b<w'.heap.size) : DS At w0 gd D (B++E) w':=by
 obtain⟨F,h1,h2,h3⟩:=h;refine⟨F,api.touch h1 (Touch.of_below hb) (fun _ _=>by simp),h2.trans (hb.mono h2.size),fun b hm=>?_⟩;rcases List.mem_append.1 hm with hm | hm
 ·exact⟨fun hf=>by have:=(api.low h1 b hf).2;have:=(hB b hm).1;omega,(hB b hm).2⟩
 ·exact⟨(h3 b hm).1,Nat.lt_of_lt_of_le (h3 b hm).2 hb.size⟩
theorem DS.disk (api:DiskApi At)(h:DS At w0 gd D E w){P:Program}{f:FuncId}{args:Array Value}{v:Value}(hc:∀ F,At w w0.heap.size gd F D→Calls P f args w (EndAt At w0.heap.size gd F w v D')) : Calls P f args w (DEnd At w0 gd v D' E w):=by
 obtain⟨F,h1,h2,h3⟩:=h;refine(hc F h1).mono ?_;rintro e w' ⟨F',e1,e2,e3,e4⟩;refine⟨e1,⟨F',e2,h2.trans (e4.below h2.size (fun x hx=>(api.low h1 x hx).1)),fun b hb=>⟨fun hm=>?_,Nat.lt_of_lt_of_le (h3 b hb).2 e4.size⟩⟩,e4.size,fun b hb=>e4.block b (h3 b hb).2 (h3 b hb).1⟩;rcases e3 b hm with k | k
 ·exact(h3 b hb).1 k
 ·have:=(h3 b hb).2;omega
theorem DS.at_ (h:DS At w0 gd D E w) : ∃ F,At w w0.heap.size gd F D:=by obtain⟨F,h1,-⟩:=h;exact⟨F,h1⟩
theorem DS.size (api:DiskApi At)(h:DS At w0 gd D E w)(ok:WfP D)(n:ByteArray)(hn:n.size≤maxLen) : Calls Tryz.prog 50 #[ptr gd,.string n] w fun e w'=>e = .returned (.tuple #[.int .i64 ((sizeS D n).1:Nat),err (sizeS D n).2])∧w=w':=by
 obtain⟨F,h1⟩:=h.at_;exact api.sizeq n h1 ok.ok hn
end
theorem sizeS_two (D:DiskS)(n:ByteArray) : (D.down=true∧sizeS D n=(0,61))∨(D.down=false∧((sizeS D n).2=0∨(sizeS D n).2=4)):=by
 unfold sizeS;cases D.down
 ·refine Or.inr ⟨rfl, ?_⟩;rw[if_neg (by decide)];split
  ·exact Or.inr rfl
  ·exact Or.inl rfl
 ·exact Or.inl ⟨rfl,rfl⟩
theorem sizeS_most {D:DiskS}(h:WfP D)(n:ByteArray) : (sizeS D n).1≤1048576:=by
 unfold sizeS;split
 ·exact Nat.zero_le _
 ·split
  ·exact Nat.zero_le _
  ·rename_i f hf;exact(h.ok.sizes f (List.mem_of_getElem? hf)).2
theorem rdW_size {D:DiskS}(h:WfP D)(n:ByteArray) : (rdW D n).1.size≤D.cap:=by
 unfold rdW;split
 ·unfold readS;split
  ·exact Nat.zero_le _
  ·dsimp only;split
   ·exact Nat.zero_le _
   ·rename_i f hf;split
    ·exact Nat.zero_le _
    ·have:=used_mem (List.mem_of_getElem? hf);have:=h.used;show(f.data.extract _ _).size≤_;rw[ByteArray.size_extract];omega
 ·exact Nat.zero_le _
end Go.Proofs.YtokbfellcadkpaaGreat
