/- ZnTfGood, ZnTfGoodNew, ZnTfGoodRead, ZnTfRise -/
import Derived.Test.YtokbfellcadkpaaGreatPn10
import Derived.Test.YtokbfellcadkpaaGreatPn09
import Derived.Test.YtokbfellcadkpaaGreatPn24
namespace Go.Proofs.YtokbfellcadkpaaGreat
open Go.RowKit
set_option linter.unusedVariables false
set_option maxRecDepth 100000
def lastC (chs:List (List ByteArray)) : List ByteArray:=chs.getLast?.getD []
def endS (chs:List (List ByteArray)) : Nat:=if chs.length=0 then 0 else 4096*(chs.length-1)+(12+rowZ (lastC chs))
def allAt (i:Nat) : List (List ByteArray)→List (Nat × ByteArray)
 | []=>[]
 | ps::r=>rowP (4096*i+12) ps++allAt (i+1) r
theorem allAt_app : ∀ (a b:List (List ByteArray)) (i:Nat),allAt i (a++b)=allAt i a++allAt (i+a.length) b
 | [],b,i=>rfl
 | x::a,b,i=>by
   show rowP _ x++allAt (i+1) (a++b)=rowP _ x++allAt (i+1) a++_;rw[allAt_app a b (i+1),List.append_assoc,List.length_cons,show i+1+a.length=i+(a.length+1) by omega]
theorem allAt_one (i:Nat)(ps:List ByteArray) : allAt i [ps]=rowP (4096*i+12) ps:=by show rowP _ ps++[]=_;rw[List.append_nil]
theorem nmC_inj {i j:Nat}(hi:i≤999999)(hj:j≤999999)(h:nmC i=nmC j) : i=j:=by
 have:=nm_eq 99 hi hj;rw[show nmS 99 (i:Nat)=nmS 99 (j:Nat) from h] at this;simp at this;omega
theorem nmC_new {i:Nat}(h:i≤999999) : nmC i≠newB:=fun e=>by
 have h1:=nm_size (c:=99) h;rw[show nmS 99 (i:Nat)=newB from e] at h1;exact absurd h1 (by decide)
theorem nmC_isC {i:Nat}(h:i≤999999) : isC (nmC i)=true∧npN (nmC i)=i:=by
 obtain⟨a,b,c⟩:=np_back (c:=99) (by decide) h;exact⟨by unfold isC;rw[a,b];rfl,c⟩
theorem nmC_name {i:Nat}(h:i≤999999) : nameB (nmC i)=true:=by
 unfold nameB;rw[nm_size h];decide
structure GoodD (D:DiskS)(chs:List (List ByteArray)) : Prop where
 up:D.down=false
 fails:D.fails=0
 many:chs.length≤200
 files:∀ i ps,chs[i]? = some ps→∃ f,fileOf D.l (nmC i)=some f∧f.data=chunkB i ps
 small:∀ ps∈chs,12+rowZ ps≤4096∧∀ p∈ps,p.size≤2000
 only:∀ f∈D.l,isC f.name=true→∃ i,i<chs.length∧f.name=nmC i
 nonew:fileOf D.l newB=none
structure GoodL (D:DiskS)(L:LogS)(chs:List (List ByteArray)) : Prop where
 starts:D.starts=L.starts
 nch:L.chunks=chs.length
 endp:L.endp=endS chs
 sure:L.sure≤L.endp
structure SameF (D E:DiskS) : Prop where
 names:E.l.map FileS.name=D.l.map FileS.name
 data:∀ m,(fileOf E.l m).map FileS.data=(fileOf D.l m).map FileS.data
 used:usedS E.l=usedS D.l
 cap:E.cap=D.cap
 starts:E.starts=D.starts
 down:E.down=D.down
 fails:E.fails=D.fails
theorem SameF.refl (D:DiskS) : SameF D D:=⟨rfl,fun _=>rfl,rfl,rfl,rfl,rfl,rfl⟩
theorem SameF.count (D:DiskS)(c:Nat) : SameF D { D with count:=c }:=⟨rfl,fun _=>rfl,rfl,rfl,rfl,rfl,rfl⟩
theorem SameF.length {D E:DiskS}(h:SameF D E) : E.l.length=D.l.length:=by have:=congrArg List.length h.names;simpa using this
theorem SameF.none {D E:DiskS}(h:SameF D E)(m:ByteArray) : fileOf E.l m=none↔fileOf D.l m=none:=by
 have:=h.data m;cases h1:fileOf E.l m<;>cases h2:fileOf D.l m<;>simp_all
theorem SameF.synced (D:DiskS)(n:ByteArray) : SameF D { D with l:=setF D.l (findS D.l n) (fun f=>{ f with synced:=f.data.size }) }:=by
 refine⟨setF_names (fun f=>{ f with synced:=f.data.size }) (fun _=>rfl) _ _,fun m=>?_,used_set_same (fun f=>{ f with synced:=f.data.size }) (fun _=>rfl),rfl,rfl,rfl,rfl⟩;show(fileOf (setF D.l (findS D.l n) _) m).map _=_;rw[fileOf_setF (fun f=>{ f with synced:=f.data.size }) (fun _=>rfl)];split
 ·rename_i e;rw[e];cases fileOf D.l n<;>rfl
 ·rfl
theorem mem_names {l:List FileS}{f:FileS}(h:f∈l) : f.name∈l.map FileS.name:=List.mem_map.2 ⟨f,h,rfl⟩
theorem GoodD.same {D E:DiskS}{chs:List (List ByteArray)}(g:GoodD D chs)(h:SameF D E) : GoodD E chs:=by
 refine⟨h.down.trans g.up,h.fails.trans g.fails,g.many,fun i ps hi=>?_,g.small,fun f hf hc=>?_,(h.none _).2 g.nonew⟩
 ·obtain⟨f,h1,h2⟩:=g.files i ps hi;have:=h.data (nmC i);rw[h1] at this;cases hE:fileOf E.l (nmC i) with
  | none=>rw[hE] at this;cases this
  | some f' =>
    rw[hE] at this
    exact⟨f',rfl,by have e:f'.data=f.data:=by simpa using this
                    rw[e,h2]⟩
 ·have:=mem_names hf;rw[h.names] at this;obtain⟨f',hf',e⟩:=List.mem_map.1 this;rw[← e] at hc ⊢;exact g.only f' hf' hc
section
variable {D : DiskS} {L : LogS} {chs : List (List ByteArray)}
theorem ready_good (g:GoodD D chs)(gl:GoodL D L chs) : readyT D L=0:=by
 unfold readyT;rw[if_neg (by simp[g.up]),if_pos gl.starts]
theorem last_good (g:GoodD D chs)(h:0<chs.length) : ∃ f,fileOf D.l (nmC (chs.length-1))=some f∧f.data=chunkB (chs.length-1) (lastC chs)∧f.data.size=12+rowZ (lastC chs)∧12+rowZ (lastC chs)≤4096:=by
 have hl:chs[chs.length-1]? = some (lastC chs):=by
  unfold lastC;rw[List.getLast?_eq_getElem?];rw[List.getElem?_eq_getElem (by omega)];rfl
 obtain⟨f,h1,h2⟩:=g.files _ _ hl;have hm:=g.many;exact⟨f,h1,h2,by rw[h2,chunk_size (by omega)],(g.small _ (List.mem_of_getElem? hl)).1⟩
theorem sync_good (g:GoodD D chs)(gl:GoodL D L chs) : ∃ E,syncT D L=(0,E, { L with sure:=L.endp })∧SameF D E∧E.count=D.count:=by
 unfold syncT;rw[gl.nch];by_cases h0:chs.length=0
 ·rw[if_pos h0];exact⟨D,rfl,SameF.refl D,rfl⟩
 ·rw[if_neg h0];obtain⟨f,h1,_⟩:=last_good g (by omega);rw[syncS_of g.up g.fails h1,if_pos rfl];exact⟨_,rfl,SameF.synced D _,rfl⟩
theorem flush_good (g:GoodD D chs)(gl:GoodL D L chs) : ∃ E,flushT D L=(0,E, { L with sure:=L.endp })∧SameF D E∧E.count=D.count:=by
 unfold flushT;rw[if_neg (by simp[ready_good g gl])];exact sync_good g gl
theorem lastC_snoc (a:List (List ByteArray))(x:List ByteArray) : lastC (a++[x])=x:=by unfold lastC;simp
theorem endS_snoc (a:List (List ByteArray))(x:List ByteArray) : endS (a++[x])=4096*a.length+(12+rowZ x):=by
 unfold endS;rw[List.length_append,lastC_snoc,if_neg (by simp)];simp
theorem split_last (h:0<chs.length) : ∃ a x,chs=a++[x]:=by
 have hne:chs≠[]:=by intro e;rw[e] at h;simp at h
 exact⟨chs.dropLast,chs.getLast hne,(List.dropLast_concat_getLast hne).symm⟩
def fitC (chs:List (List ByteArray))(p:ByteArray) : Bool:=decide (0<chs.length∧12+rowZ (lastC chs)+(p.size+12)≤4096)
def plQ (chs:List (List ByteArray))(p:ByteArray) : Nat:=if fitC chs p=true then 4096*(chs.length-1)+(12+rowZ (lastC chs)) else 4096*chs.length+12
def plC (chs:List (List ByteArray))(p:ByteArray) : List (List ByteArray):=if fitC chs p=true then chs.dropLast++[lastC chs++[p]] else chs++[[p]]
structure Appended (D:DiskS)(L:LogS)(chs:List (List ByteArray))(p:ByteArray)(q:Nat)(E:DiskS)(M:LogS)(chs':List (List ByteArray)) : Prop where
 good:GoodD E chs'
 log:GoodL E M chs'
 all:allAt 0 chs'=allAt 0 chs++[(q,p)]
 endp:M.endp=q+(p.size+12)
 behind:L.endp≤q
 sure:M.sure≤q
 cap:E.cap=D.cap
 count:E.count=D.count
 length:E.l.length+chs.length=D.l.length+chs'.length
 used:usedS E.l≤usedS D.l+(p.size+24)
 room:usedS E.l+6000≤D.cap
 longer:chs'.length≤chs.length+1
 place:q=plQ chs p
 chunks:chs'=plC chs p
 sureEq:M.sure=if fitC chs p=true then L.sure else L.endp
 others:∀ k,isC k=false→(fileOf E.l k).map FileS.data=(fileOf D.l k).map FileS.data
 names:∀ k∈E.l.map FileS.name,k∈D.l.map FileS.name∨∃ i,i<chs'.length∧k=nmC i
theorem last_at {a:List (List ByteArray)}{x:List ByteArray}(g:GoodD D (a++[x])) : ∃ f,fileOf D.l (nmC a.length)=some f∧f.data=chunkB a.length x∧f.data.size=12+rowZ x∧12+rowZ x≤4096∧a.length≤199:=by
 obtain⟨f,h1,h2,h3,h4⟩:=last_good g (by simp);rw[lastC_snoc] at h2 h3 h4;rw[List.length_append,List.length_singleton,Nat.add_sub_cancel] at h1 h2;have:=g.many;rw[List.length_append,List.length_singleton] at this;exact⟨f,h1,h2,h3,h4,by omega⟩
theorem append_fit {a:List (List ByteArray)}{x:List ByteArray}(g:GoodD D (a++[x]))(gl:GoodL D L (a++[x]))(p:ByteArray)(hp:p.size≤2000)(hf:12+rowZ x+(p.size+12)≤4096)(hr:usedS D.l+(p.size+12)+6000≤D.cap) :
  ∃ q E M chs',appendT D L p=(q,0,E,M)∧Appended D L (a++[x]) p q E M chs':=by
 obtain⟨f,h1,h2,h3,h4,h5⟩:=last_at g;have hm:=g.many;have hsz:=sizeS_of g.up h1;rw[h3] at hsz;have hch:L.chunks=a.length+1:=by rw[gl.nch];simp
 have hft:ftS ((12+rowZ x:Nat):Int) p=true:=by unfold ftS;exact decide_eq_true (by omega)
 have hT:targetT D L p=(a.length,12+rowZ x,0):=by
  unfold targetT;rw[hch,if_neg (by omega),Nat.add_sub_cancel,hsz,if_pos rfl,if_pos hft]
 have hroom:roomT D (recS p)=true:=by unfold roomT;rw[recS_size];exact decide_eq_true (by omega)
 have hap:=appendS_of (s:=recS p) g.up g.fails h1 (by rw[recS_size];omega)
 have hO:onD (fun E=>extendT E L (recS p)) D L=(0,appE D (nmC a.length) (recS p),L):=by
  show((extendT D L (recS p)).1,(extendT D L (recS p)).2,L)=_;unfold extendT;rw[if_neg (by rw[hroom];decide),hch,Nat.add_sub_cancel,hap]
 have hA:appendT D L p=(4096*a.length+(12+rowZ x),0,appE D (nmC a.length) (recS p), { L with chunks:=a.length+1,endp:=4096*a.length+(12+rowZ x)+(recS p).size }):=by
  unfold appendT;rw[if_neg (by simp[ready_good g gl]),if_neg (by omega),hT];dsimp only;rw[if_neg (by simp),if_neg (show ¬ a.length=L.chunks by omega),hO];rfl
 have hfo:∀ m,fileOf (appE D (nmC a.length) (recS p)).l m=if m=nmC a.length then some { f with data:=f.data++recS p } else fileOf D.l m:=by
  intro m;show fileOf (setF D.l (findS D.l (nmC a.length)) (fun f=>{ f with data:=f.data++recS p })) m=_;rw[fileOf_setF (fun f=>{ f with data:=f.data++recS p }) (fun _=>rfl),h1];rfl
 have hnames:(appE D (nmC a.length) (recS p)).l.map FileS.name=D.l.map FileS.name:=setF_names (fun f=>{ f with data:=f.data++recS p }) (fun _=>rfl) _ _
 have hused:usedS (appE D (nmC a.length) (recS p)).l=usedS D.l+(p.size+12):=by
  have hk:=fileOf_at D.l (nmC a.length);rw[h1] at hk;have:=used_setF D.l _ f (fun f=>{ f with data:=f.data++recS p }) hk;rw[show(({ f with data:=f.data++recS p }:FileS)).data.size=f.data.size+(p.size+12) by show(f.data++recS p).size=_;rw[ByteArray.size_append,recS_size]] at this;show usedS (setF D.l _ _)=_;omega
 have hend:L.endp=4096*a.length+(12+rowZ x):=by rw[gl.endp,endS_snoc]
 have hlenE:(appE D (nmC a.length) (recS p)).l.length=D.l.length:=by
  have:=congrArg List.length hnames;simpa using this
 have hsure:=gl.sure;refine⟨_,_,_,a++[x++[p]],hA, ?_⟩;have hlen:(a++[x++[p]]).length=a.length+1:=by simp
 have hlen0:(a++[x]).length=a.length+1:=by simp
 refine⟨⟨g.up,g.fails,by omega,fun i ps hi=>?_,fun ps hps=>?_,fun y hy hc=>?_, ?_⟩,⟨gl.starts, ?_, ?_, ?_⟩, ?_, ?_, ?_, ?_,rfl,rfl,by omega,by omega,by omega,by omega, ?_, ?_, ?_, ?_, ?_⟩
 ·rw[hfo];by_cases e:i=a.length
  ·subst e;rw[if_pos rfl];rw[List.getElem?_append_right (Nat.le_refl _),Nat.sub_self] at hi;obtain rfl:x++[p]=ps:=by simpa using hi
   refine⟨_,rfl, ?_⟩;show f.data++recS p=_;rw[h2];exact(rowB_snoc _ _ _).symm
  ·have hia:i<a.length:=by
    have:=(List.getElem?_eq_some_iff.1 hi).1;rw[hlen] at this;omega
   rw[if_neg (fun q=>e (nmC_inj (by omega) (by omega) q))];rw[List.getElem?_append_left hia] at hi;exact g.files i ps (by rw[List.getElem?_append_left hia];exact hi)
 ·rcases List.mem_append.1 hps with h | h
  ·exact g.small ps (List.mem_append_left _ h)
  ·obtain rfl:ps=x++[p]:=by simpa using h
   have hs:=g.small x (List.mem_append_right _ (List.mem_singleton.2 rfl));refine⟨by rw[rowZ_snoc];omega,fun y hy=>?_⟩;rcases List.mem_append.1 hy with h | h
   ·exact hs.2 y h
   ·obtain rfl:y=p:=by simpa using h
    exact hp
 ·have hy':=mem_names hy;rw[hnames] at hy';obtain⟨z,hz,e⟩:=List.mem_map.1 hy';rw[← e] at hc ⊢;rw[hlen,← hlen0];exact g.only z hz hc
 ·rw[hfo,if_neg (fun q=>nmC_new (by omega) q.symm)];exact g.nonew
 ·rw[hlen]
 ·rw[endS_snoc,rowZ_snoc,recS_size];show 4096*a.length+(12+rowZ x)+(p.size+12)=_;omega
 ·show L.sure≤4096*a.length+(12+rowZ x)+(recS p).size;omega
 ·rw[allAt_app,allAt_app,allAt_one,allAt_one,rowP_snoc,← List.append_assoc,Nat.zero_add];rw[show 4096*a.length+12+rowZ x=4096*a.length+(12+rowZ x) by omega]
 ·show 4096*a.length+(12+rowZ x)+(recS p).size=_;rw[recS_size]
 ·omega
 ·show L.sure≤_;omega
 ·have hfc:fitC (a++[x]) p=true:=by unfold fitC;rw[lastC_snoc];exact decide_eq_true ⟨by omega,hf⟩
  unfold plQ;rw[if_pos hfc,lastC_snoc,hlen0,Nat.add_sub_cancel]
 ·have hfc:fitC (a++[x]) p=true:=by unfold fitC;rw[lastC_snoc];exact decide_eq_true ⟨by omega,hf⟩
  unfold plC;rw[if_pos hfc,lastC_snoc,List.dropLast_concat]
 ·have hfc:fitC (a++[x]) p=true:=by unfold fitC;rw[lastC_snoc];exact decide_eq_true ⟨by omega,hf⟩
  rw[if_pos hfc]
 ·intro k hk;rw[hfo,if_neg (fun e=>by rw[e,(nmC_isC (i:=a.length) (by omega)).1] at hk;cases hk)]
 ·intro k hk;rw[hnames] at hk;exact Or.inl hk
end
end Go.Proofs.YtokbfellcadkpaaGreat
namespace Go.Proofs.YtokbfellcadkpaaGreat
open Go.RowKit
set_option linter.unusedVariables false
set_option maxRecDepth 100000
theorem thenT_ok (D:DiskS)(L:LogS)(f:DiskS→LogS→Nat × DiskS × LogS) : thenT (0,D,L) f=f D L:=rfl
theorem thenT_onD {f:DiskS→Nat × DiskS}{D E:DiskS}{L:LogS}{k:DiskS→LogS→Nat × DiskS × LogS}(h:f D=(0,E)) : thenT (onD f D L) k=k E L:=by simp[thenT,onD,h]
section
variable {D : DiskS} {L : LogS} {chs : List (List ByteArray)}
theorem free_name (g:GoodD D chs)(h:chs.length≤199) : fileOf D.l (nmC chs.length)=none:=by
 rw[fileOf_none];intro f hf e;obtain⟨i,hi,e2⟩:=g.only f hf (by rw[e];exact(nmC_isC (by omega)).1);rw[e] at e2;have:=nmC_inj (by omega) (by omega) e2;omega
theorem fits_no {n:Nat}{p:ByteArray}(hp:p.size≤2000)(h:¬ (n+(p.size+12)≤4096)) : ftS (n:Nat) p=false:=by unfold ftS;exact decide_eq_false (by omega)
theorem target_new (g:GoodD D chs)(gl:GoodL D L chs)(p:ByteArray)(hp:p.size≤2000)(hf:0<chs.length→¬ 12+rowZ (lastC chs)+(p.size+12)≤4096) : targetT D L p=(chs.length,12,0):=by
 unfold targetT;rw[gl.nch];by_cases h0:chs.length=0
 ·rw[if_pos h0,h0]
 ·rw[if_neg h0];obtain⟨f,h1,h2,h3,h4⟩:=last_good g (by omega);have hsz:=sizeS_of g.up h1;rw[hsz,if_pos rfl,h3]
  rw[if_neg (by
   rw[fits_no hp (by have:=hf (by omega);omega)];decide)]
theorem append_new (g:GoodD D chs)(gl:GoodL D L chs)(p:ByteArray)(hp:p.size≤2000)(hf:0<chs.length→¬ 12+rowZ (lastC chs)+(p.size+12)≤4096)(hm:D.l.length<400)(h199:chs.length≤199)(hr:usedS D.l+(p.size+24)+6000≤D.cap) :
  ∃ q E M chs',appendT D L p=(q,0,E,M)∧Appended D L chs p q E M chs':=by
 obtain⟨D1,hs1,hs2,hs3⟩:=sync_good g gl;have g1:=g.same hs2;have hz:(hdS (chs.length:Nat)++recS p).size=p.size+24:=by rw[ByteArray.size_append,hd_size h199,recS_size];omega
 have hroom:roomT D (hdS (chs.length:Nat)++recS p)=true:=by unfold roomT;rw[hz];exact decide_eq_true (by omega)
 have hfree:=free_name g1 h199;have hcr:=createS_of g1.up g1.fails (nmC_name (i:=chs.length) (by omega)) hfree (by rw[hs2.length];exact hm);have hlay:=fun m=>fileOf_lay (l:=D1.l) (f:=⟨nmC chs.length,ByteArray.empty,0⟩) hfree m
 have hap:=appendS_of (D:={ D1 with l:=layS D1.l ⟨nmC chs.length,ByteArray.empty,0⟩ }) (n:=nmC chs.length) (s:=hdS (chs.length:Nat)++recS p) (f:=⟨nmC chs.length,ByteArray.empty,0⟩) g1.up g1.fails (by
   show fileOf (layS D1.l _) _=_;rw[hlay,if_pos rfl]) (by
   show usedS (layS D1.l _)+_≤D1.cap;rw[used_lay,hz,hs2.used,hs2.cap];show usedS D.l+0+_≤_;omega)
 obtain⟨D2,hD2⟩:∃ D2,D2=appE { D1 with l:=layS D1.l ⟨nmC chs.length,ByteArray.empty,0⟩ } (nmC chs.length) (hdS (chs.length:Nat)++recS p):=⟨_,rfl⟩
 rw[← hD2] at hap
 have hB:beginT D L (recS p)=(0,D2, { L with sure:=L.endp }):=by
  unfold beginT;rw[gl.nch,if_neg (by rw[hroom];simp;omega),hs1,thenT_ok,thenT_onD hcr];show((appendS _ _ _).1,(appendS _ _ _).2,_)=_;rw[hap,gl.nch]
 have hA:appendT D L p=(4096*chs.length+12,0,D2, { L with sure:=L.endp,chunks:=chs.length+1,endp:=4096*chs.length+12+(recS p).size }):=by
  unfold appendT;rw[if_neg (by simp[ready_good g gl]),if_neg (by omega),target_new g gl p hp hf];dsimp only;rw[if_neg (by simp),if_pos gl.nch.symm,hB];rfl
 have hfo:∀ m,fileOf D2.l m=if m=nmC chs.length then some ⟨nmC chs.length,hdS (chs.length:Nat)++recS p,0⟩ else fileOf D1.l m:=by
  intro m;rw[hD2];show fileOf (setF (layS D1.l ⟨nmC chs.length,ByteArray.empty,0⟩) (findS (layS D1.l ⟨nmC chs.length,ByteArray.empty,0⟩) (nmC chs.length)) (fun f=>{ f with data:=f.data++(hdS (chs.length:Nat)++recS p) })) m=_;rw[fileOf_setF (fun f=>{ f with data:=f.data++(hdS (chs.length:Nat)++recS p) }) (fun _=>rfl),hlay,if_pos rfl,hlay];by_cases e:m=nmC chs.length
  ·rw[if_pos e,if_pos e];show some (⟨nmC chs.length,ByteArray.empty++(hdS (chs.length:Nat)++recS p),0⟩:FileS)=_;rw[ByteArray.empty_append]
  ·rw[if_neg e,if_neg e,if_neg e]
 have hnames:D2.l.map FileS.name=(layS D1.l ⟨nmC chs.length,ByteArray.empty,0⟩).map FileS.name:=by
  rw[hD2];exact setF_names (fun f=>{ f with data:=f.data++(hdS (chs.length:Nat)++recS p) }) (fun _=>rfl) _ _
 have hused:usedS D2.l=usedS D.l+(p.size+24):=by
  have hk:=fileOf_at (layS D1.l ⟨nmC chs.length,ByteArray.empty,0⟩) (nmC chs.length);rw[hlay,if_pos rfl] at hk;have h1:=used_setF _ _ _ (fun f=>{ f with data:=f.data++(hdS (chs.length:Nat)++recS p) }) hk;rw[used_lay,hs2.used] at h1;have e:(ByteArray.empty++(hdS (chs.length:Nat)++recS p)).size=p.size+24:=by rw[ByteArray.empty_append,hz]
  rw[hD2];show usedS (setF _ _ _)=_;have h2:usedS (setF (layS D1.l ⟨nmC chs.length,ByteArray.empty,0⟩) (findS (layS D1.l ⟨nmC chs.length,ByteArray.empty,0⟩) (nmC chs.length)) (fun f=>{ f with data:=f.data++(hdS (chs.length:Nat)++recS p) }))+0=usedS D.l+0+(ByteArray.empty++(hdS (chs.length:Nat)++recS p)).size:=h1;rw[e] at h2;omega
 have hlenE:D2.l.length=D.l.length+1:=by
  have h1:=congrArg List.length hnames;rw[List.length_map,List.length_map,lay_length,hs2.length] at h1;exact h1
 have hm200:=g.many;have hend:=gl.endp
 have hendle:L.endp≤4096*chs.length:=by
  rw[hend];unfold endS;split
  ·omega
  ·obtain⟨f,_,_,_,h4⟩:=last_good g (by omega);omega
 have hcap2:D2.cap=D.cap∧D2.count=D.count∧D2.starts=D.starts∧D2.down=false∧D2.fails=0:=by
  rw[hD2];exact⟨hs2.cap,hs3,hs2.starts,g1.up,g1.fails⟩
 refine⟨_,_,_,chs++[[p]],hA, ?_⟩;have hlen:(chs++[[p]]).length=chs.length+1:=by simp
 refine⟨⟨hcap2.2.2.2.1,hcap2.2.2.2.2,by omega,fun i ps hi=>?_,fun ps hps=>?_,fun y hy hc=>?_, ?_⟩,⟨hcap2.2.2.1.trans gl.starts, ?_, ?_, ?_⟩, ?_, ?_, ?_, ?_,hcap2.1,hcap2.2.1,by omega,by omega,by omega,by omega, ?_, ?_, ?_, ?_, ?_⟩
 ·rw[hfo];by_cases e:i=chs.length
  ·subst e;rw[if_pos rfl];rw[List.getElem?_append_right (Nat.le_refl _),Nat.sub_self] at hi;obtain rfl:[p]=ps:=by simpa using hi
   exact⟨_,rfl,rfl⟩
  ·have hia:i<chs.length:=by
    have:=(List.getElem?_eq_some_iff.1 hi).1;rw[hlen] at this;omega
   rw[if_neg (fun q=>e (nmC_inj (by omega) (by omega) q))];rw[List.getElem?_append_left hia] at hi;exact g1.files i ps hi
 ·rcases List.mem_append.1 hps with h | h
  ·exact g.small ps h
  ·obtain rfl:ps=[p]:=by simpa using h
   refine⟨by show 12+(p.size+12+0)≤4096;omega,fun y hy=>?_⟩;obtain rfl:y=p:=by simpa using hy
   exact hp
 ·have hy':=mem_names hy;rw[hnames] at hy';obtain⟨z,hz,e⟩:=List.mem_map.1 hy';rw[← e] at hc ⊢;rw[hlen];rcases lay_mem hz with hz | rfl
  ·obtain⟨i,hi,e2⟩:=g1.only z hz hc;exact⟨i,by omega,e2⟩
  ·exact⟨chs.length,by omega,rfl⟩
 ·rw[hfo,if_neg (fun q=>nmC_new (by omega) q.symm)];exact g1.nonew
 ·rw[hlen]
 ·rw[endS_snoc,recS_size];show 4096*chs.length+12+(p.size+12)=4096*chs.length+(12+(p.size+12+0))
  omega
 ·show L.endp≤4096*chs.length+12+(recS p).size;omega
 ·rw[allAt_app,allAt_one,Nat.zero_add];rfl
 ·show 4096*chs.length+12+(recS p).size=_;rw[recS_size]
 ·omega
 ·show L.endp≤_;omega
 ·have hfc:fitC chs p=false:=by unfold fitC;exact decide_eq_false (fun h=>hf h.1 h.2)
  unfold plQ;rw[if_neg (by simp[hfc])]
 ·have hfc:fitC chs p=false:=by unfold fitC;exact decide_eq_false (fun h=>hf h.1 h.2)
  unfold plC;rw[if_neg (by simp[hfc])]
 ·have hfc:fitC chs p=false:=by unfold fitC;exact decide_eq_false (fun h=>hf h.1 h.2)
  rw[if_neg (by simp[hfc])]
 ·intro k hk;rw[hfo,if_neg (fun e=>by rw[e,(nmC_isC (i:=chs.length) (by omega)).1] at hk;cases hk)];exact hs2.data k
 ·intro k hk;rw[hnames] at hk;obtain⟨z,hz,e⟩:=List.mem_map.1 hk;rcases lay_mem hz with hz | rfl
  ·refine Or.inl ?_;rw[← hs2.names];exact List.mem_map.2 ⟨z,hz,e⟩
  ·exact Or.inr ⟨chs.length,by omega,e.symm⟩
theorem append_room (g:GoodD D chs)(gl:GoodL D L chs)(p:ByteArray)(hp:p.size≤2000)(hm:D.l.length<400)(h199:chs.length≤199)(hr:usedS D.l+(p.size+24)+6000≤D.cap) : ∃ q E M chs',appendT D L p=(q,0,E,M)∧Appended D L chs p q E M chs':=by
 by_cases hf:0<chs.length∧12+rowZ (lastC chs)+(p.size+12)≤4096
 ·obtain⟨a,x,rfl⟩:=split_last hf.1;rw[lastC_snoc] at hf;exact append_fit g gl p hp hf.2 (by omega)
 ·exact append_new g gl p hp (fun h1 h2=>hf ⟨h1,h2⟩) hm h199 hr
end
end Go.Proofs.YtokbfellcadkpaaGreat
namespace Go.Proofs.YtokbfellcadkpaaGreat
open Go.RowKit
set_option linter.unusedVariables false
set_option maxRecDepth 100000
theorem allAt_mem : ∀ (chs:List (List ByteArray)) (i:Nat) (x:Nat × ByteArray),x∈allAt i chs→∃ j ps,chs[j]? = some ps∧∃ y∈rowP 12 ps,x.1=4096*(i+j)+y.1∧x.2=y.2
 | [],i,x,h=>by cases h
 | ps::r,i,x,h=>by
   rcases List.mem_append.1 h with h | h
   ·refine⟨0,ps,rfl, ?_⟩
    have:∀ (l:List ByteArray) (k:Nat),x∈rowP (4096*i+k) l→∃ y∈rowP k l,x.1=4096*(i+0)+y.1∧x.2=y.2:=by
     intro l
     induction l with
     | nil=>intro k hx;cases hx
     | cons p l ih =>
       intro k hx;rcases List.mem_cons.1 hx with rfl | hx
       ·exact⟨(k,p),List.mem_cons_self,rfl,rfl⟩
       ·obtain⟨y,hy,e⟩:=ih (k+(p.size+12)) (by rw[← Nat.add_assoc];exact hx);exact⟨y,List.mem_cons_of_mem _ hy,e⟩
    exact this ps 12 h
   ·obtain⟨j,qs,h1,y,hy,e1,e2⟩:=allAt_mem r (i+1) x h;exact⟨j+1,qs,h1,y,hy,by rw[e1];omega,e2⟩
section
variable {D : DiskS} {L : LogS} {chs : List (List ByteArray)}
theorem chunk_good (g:GoodD D chs){i:Nat}{ps:List ByteArray}(hi:chs[i]? = some ps) : i≤199∧∃ f,fileOf D.l (nmC i)=some f∧f.data=chunkB i ps∧f.data.size=12+rowZ ps∧12+rowZ ps≤4096∧(∀ p∈ps,p.size≤2000):=by
 have hil:=(List.getElem?_eq_some_iff.1 hi).1;have hm:=g.many;obtain⟨f,h1,h2⟩:=g.files i ps hi;obtain⟨s1,s2⟩:=g.small ps (List.mem_of_getElem? hi);exact⟨by omega,f,h1,h2,by rw[h2,chunk_size (by omega)],s1,s2⟩
def firstS (l:List (Nat × ByteArray))(pos:Int)(D:DiskS) : NextS:=match l.find? (fun x=>decide (pos≤(x.1:Int))) with
 | none=>⟨ByteArray.empty,0,0,4,D⟩
 | some x=>⟨x.2,(x.1:Int),((x.1+(x.2.size+12):Nat):Int),0,D⟩
theorem find_row (n:Nat)(pos:Int) : ∀ (ps:List ByteArray) (k:Nat),((rowP k ps).map (fun x=>(x.1:Int))).find? (fun x=>decide (pos≤(n:Int)*4096+x))=((rowP (4096*n+k) ps).find? (fun x=>decide (pos≤(x.1:Int)))).map (fun x=>(x.1:Int)-4096*n)
 | [],k=>rfl
 | p::ps,k=>by
   show((k:Int)::_).find? _=(((4096*n+k,p)::rowP (4096*n+k+(p.size+12)) ps).find? _).map _;rw[List.find?_cons,List.find?_cons];have e:(n:Int)*4096+(k:Int)=((4096*n+k:Nat):Int):=by omega
   by_cases h:pos≤((4096*n+k:Nat):Int)
   ·rw[decide_eq_true (by rw[e];exact h),decide_eq_true h];show some (k:Int)=some (((4096*n+k:Nat):Int)-4096*n);congr 1;omega
   ·rw[decide_eq_false (by rw[e];exact h),decide_eq_false h];have:=find_row n pos ps (k+(p.size+12));rw[← Nat.add_assoc (4096*n) k (p.size+12)] at this;exact this
theorem next_K (g:GoodD D chs)(pos:Int) : ∀ (k n c:Nat),n+k=chs.length→∃ c',c'≤c+k∧nextK k n { D with count:=c } pos=firstS (allAt n (chs.drop n)) pos { D with count:=c' }
 | 0,n,c,h=>⟨c,Nat.le_refl _,by
   rw[List.drop_eq_nil_of_le (by omega)];rfl⟩
 | k+1,n,c,h=>by
   have hn:n<chs.length:=by omega
   have hps:=List.getElem?_eq_getElem hn;obtain⟨hn199,f,h1,h2,h3,h4,h5⟩:=chunk_good g hps;have hrd:=rdC_of (D:={ D with count:=c }) (n:=nmC n) (f:=f) g.up h1;obtain⟨s1,s2,s3⟩:=chunk_scan hn199 chs[n] h5;rw[← h2] at s1 s2 s3;have hdr:chs.drop n=chs[n]::chs.drop (n+1):=List.drop_eq_getElem_cons hn;have hff:=find_row n pos chs[n] 12;have hall:allAt n (chs.drop n)=rowP (4096*n+12) chs[n]++allAt (n+1) (chs.drop (n+1)):=by rw[hdr];rfl
   have hh:=hd_size hn199;cases hfd:(rowP (4096*n+12) chs[n]).find? (fun x=>decide (pos≤(x.1:Int))) with
   | none =>
     obtain⟨c',hc',e⟩:=next_K g pos k (n+1) (c+1) (by omega);refine⟨c',by omega, ?_⟩;rw[nextK,hrd,if_neg (by simp)];dsimp only;rw[s1,hff,hfd];dsimp only[Option.map];rw[e];unfold firstS;rw[hall,List.find?_append,hfd];rfl
   | some x =>
     refine⟨c+1,by omega, ?_⟩;rw[nextK,hrd,if_neg (by simp)];dsimp only;rw[s1,hff,hfd];dsimp only[Option.map];have hxm:=List.mem_of_find?_eq_some hfd;have hx0:x∈allAt n [chs[n]]:=by rw[allAt_one];exact hxm
     obtain⟨j,qs,hj,y,hy,e1,e2⟩:=allAt_mem _ _ _ hx0;have hj0:j=0:=by have:=(List.getElem?_eq_some_iff.1 hj).1;simpa using this
     subst hj0;obtain rfl:chs[n]=qs:=by simpa using hj
     obtain⟨r1,r2,r3,r4,r5,r6,r7⟩:=row_at chs[n] (hdS (n:Nat)) h5 y (by rw[hh];exact hy);have hB:rowB (hdS (n:Nat)) chs[n]=f.data:=h2.symm;rw[hB] at r2 r3;have ey:(x.1:Int)-4096*n=(y.1:Nat):=by omega
     rw[ey,r2,r3];unfold firstS;rw[hall,List.find?_append,hfd];show(⟨y.2,_,_,0,_⟩:NextS)=⟨x.2,_,_,0,_⟩
     rw[e2];congr 1
     ·omega
     ·omega
theorem allAt_lt (g:GoodD D chs)(x:Nat × ByteArray)(n:Nat)(h:x∈allAt 0 (chs.take n)) : x.1<4096*n:=by
 obtain⟨j,ps,hj,y,hy,e1,e2⟩:=allAt_mem _ _ _ h
 have hjn:j<n∧chs[j]? = some ps:=by
  have hjl:=(List.getElem?_eq_some_iff.1 hj).1;rw[List.length_take] at hjl;rw[List.getElem?_take,if_pos (by omega)] at hj;exact⟨by omega,hj⟩
 obtain⟨hj199,f,h1,h2,h3,h4,h5⟩:=chunk_good g hjn.2;obtain⟨r1,r2,r3,r4,r5,r6,r7⟩:=row_at ps (hdS (j:Nat)) h5 y (by rw[hd_size hj199];exact hy);rw[show rowB (hdS (j:Nat)) ps=chunkB j ps from rfl,chunk_size hj199] at r5;omega
theorem next_good (g:GoodD D chs)(gl:GoodL D L chs)(pos:Nat) : ∃ c,c≤D.count+200∧nextT D L (pos:Nat)=firstS (allAt 0 chs) (pos:Nat) { D with count:=c }:=by
 have hm:=g.many;unfold nextT;rw[if_neg (by simp[ready_good g gl]),gl.nch];have e1:(max (pos:Int) 0/4096).toNat=pos/4096:=by omega
 rw[e1];have hsplit:allAt 0 chs=allAt 0 (chs.take (pos/4096))++allAt (0+(chs.take (pos/4096)).length) (chs.drop (pos/4096)):=by rw[← allAt_app,List.take_append_drop]
 have hskip:(allAt 0 (chs.take (pos/4096))).find? (fun x=>decide ((pos:Int)≤(x.1:Int)))=none:=by
  rw[List.find?_eq_none];intro x hx;have:=allAt_lt g x _ hx;simp;omega
 rcases Nat.lt_or_ge (pos/4096) chs.length with hlt | hge
 ·obtain⟨c,hc,e⟩:=next_K g (pos:Nat) (chs.length-pos/4096) (pos/4096) D.count (by omega);refine⟨c,by omega, ?_⟩;have e2:({ D with count:=D.count }:DiskS)=D:=rfl;rw[e2] at e;rw[e];unfold firstS;rw[hsplit,List.find?_append,hskip,List.length_take,Nat.min_eq_left (Nat.le_of_lt hlt),Nat.zero_add];rfl
 ·refine⟨D.count,by omega, ?_⟩;have e0:chs.length-pos/4096=0:=by omega
  rw[e0];unfold firstS;rw[hsplit,List.find?_append,hskip,List.drop_eq_nil_of_le hge];rfl
end
theorem good_new (c:Nat)(hc:c≤1048576) : GoodD (newS c) []:=⟨rfl,rfl,Nat.zero_le _,fun i ps h=>(by simp at h),fun ps h=>(by cases h),fun f h=>(by cases h),rfl⟩
end Go.Proofs.YtokbfellcadkpaaGreat
namespace Go.Proofs.YtokbfellcadkpaaGreat
set_option maxRecDepth 100000
set_option linter.unusedVariables false
section
open Go.RowKit
abbrev Rec := Nat × ByteArray
def endR (x:Rec) : Nat:=x.1+(x.2.size+12)
def RiseR (l:List Rec) : Prop:=l.Pairwise (fun x y=>endR x≤y.1)
def posK (l:List Rec)(k:Nat) : Nat:=if k=0 then 0 else(l[k-1]?.map endR).getD 0
theorem posK_succ {l:List Rec}{k:Nat}{x:Rec}(h:l[k]? = some x) : posK l (k+1)=endR x:=by unfold posK;rw[if_neg (by omega),Nat.add_sub_cancel,h];rfl
theorem rowP_rise : ∀ (l:List ByteArray) (k:Nat),RiseR (rowP k l)∧∀ x∈rowP k l,k≤x.1∧endR x≤k+rowZ l
 | [],k=>⟨List.Pairwise.nil,fun x h=>by cases h⟩
 | p::l,k=>by
   obtain⟨h1,h2⟩:=rowP_rise l (k+(p.size+12));refine⟨List.pairwise_cons.2 ⟨fun y hy=>(h2 y hy).1,h1⟩,fun x hx=>?_⟩;show _∧_≤k+(p.size+12+rowZ l)
   rcases List.mem_cons.1 hx with rfl | hx
   ·refine⟨Nat.le_refl _, ?_⟩;show k+(p.size+12)≤_;omega
   ·have:=h2 x hx;omega
theorem allAt_rise : ∀ (chs:List (List ByteArray)) (i:Nat),(∀ ps∈chs,12+rowZ ps≤4096)→RiseR (allAt i chs)∧∀ x∈allAt i chs,4096*i+12≤x.1∧endR x≤4096*(i+chs.length)
 | [],i,_=>⟨List.Pairwise.nil,fun x h=>by cases h⟩
 | ps::r,i,h=>by
   obtain⟨h1,h2⟩:=allAt_rise r (i+1) (fun q hq=>h q (List.mem_cons_of_mem _ hq));obtain⟨h3,h4⟩:=rowP_rise ps (4096*i+12);have hz:=h ps List.mem_cons_self;refine⟨List.pairwise_append.2 ⟨h3,h1,fun x hx y hy=>?_⟩,fun x hx=>?_⟩
   ·have:=(h4 x hx).2;have:=(h2 y hy).1;omega
   ·rw[List.length_cons];rcases List.mem_append.1 hx with hx | hx
    ·have:=h4 x hx;omega
    ·have:=h2 x hx;omega
theorem end_posK (chs:List (List ByteArray))(h:∀ ps∈chs,12+rowZ ps≤4096) : posK (allAt 0 chs) (allAt 0 chs).length=endS chs∨(endS chs%4096=12∧posK (allAt 0 chs) (allAt 0 chs).length+12≤endS chs):=by
 by_cases h0:0<chs.length
 ·obtain⟨a,x,rfl⟩:=split_last h0;rw[endS_snoc,allAt_app,allAt_one,Nat.zero_add];by_cases hx:0<x.length
  ·left;have hne:x≠[]:=by intro e;rw[e] at hx;simp at hx
   obtain⟨y,p,rfl⟩:∃ y p,x=y++[p]:=⟨x.dropLast,x.getLast hne,(List.dropLast_concat_getLast hne).symm⟩
   rw[rowP_snoc,← List.append_assoc,List.length_append,List.length_singleton,rowZ_snoc];rw[posK_succ (x:=(4096*a.length+12+rowZ y,p)) (by rw[List.getElem?_append_right (Nat.le_refl _),Nat.sub_self];rfl)];show 4096*a.length+12+rowZ y+(p.size+12)=_;omega
  ·have e:x=[]:=List.eq_nil_of_length_eq_zero (by omega);subst e;right;show(4096*a.length+(12+0))%4096=12∧posK (allAt 0 a++[]) (allAt 0 a++[]).length+12≤4096*a.length+(12+0)
   rw[List.append_nil];refine⟨by omega, ?_⟩;obtain⟨_,h2⟩:=allAt_rise a 0 (fun ps hps=>h ps (List.mem_append_left _ hps))
   have:posK (allAt 0 a) (allAt 0 a).length≤4096*a.length:=by
    unfold posK;split
    ·exact Nat.zero_le _
    ·rw[List.getElem?_eq_getElem (by omega)];have:=(h2 _ (List.getElem_mem (show(allAt 0 a).length-1<(allAt 0 a).length by omega))).2;rw[Nat.zero_add] at this;exact this
   omega
 ·have e:chs=[]:=List.eq_nil_of_length_eq_zero (by omega);subst e;exact Or.inl rfl
end
end Go.Proofs.YtokbfellcadkpaaGreat
