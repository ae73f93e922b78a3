/- ZnChunksRef, ZnTfMath, ZnChunksApi, ZnTfRows -/
import Derived.Test.YtokbfellcadkpaaGreatPn08
import Derived.Test.YtokbfellcadkpaaGreatPn04
import Derived.Test.YtokbfellcadkpaaGreatPn02
import Derived.Test.YtokbfellcadkpaaGreatPn03
import Derived.Test.YtokbfellcadkpaaGreatPn01
namespace Go.Proofs.YtokbfellcadkpaaGreat
set_option maxRecDepth 100000
set_option linter.unusedVariables false
section
open Go.RowKit
def hdT (n:Nat) : ByteArray:=⟨#[99,104,110,107]⟩++bs (be 4 n)
def hdS (n:Int) : ByteArray:=if 0≤n∧n≤199 then sealS (hdT n.toNat) else ByteArray.empty
theorem hd_no {n:Int}(h:¬ (0≤n∧n≤199)) : hdS n=ByteArray.empty:=by unfold hdS;rw[if_neg h]
theorem hd_yes {n:Nat}(h:n≤199) : hdS (n:Nat)=sealS (hdT n):=by unfold hdS;rw[if_pos (by omega),Int.toNat_natCast]
theorem hdT_size (n:Nat) : (hdT n).size=8:=by unfold hdT;rw[ByteArray.size_append,bs_size,be_length];rfl
theorem hd_size {n:Nat}(h:n≤199) : (hdS (n:Nat)).size=12:=by rw[hd_yes h,sealS_size,hdT_size]
def scK (s:ByteArray)(n:Int) : Nat:=if ¬ (0≤n∧n≤199) then 0 else if ¬ s.extract 0 (min s.size 12)=(hdS n).extract 0 (min s.size 12) then 0 else if s.size<12 then 1 else 2
def scL (s:ByteArray)(n:Int) : List Int:=if scK s n=2 then wlL s 12 else []
def scE (s:ByteArray)(n:Int) : Nat:=if scK s n=2 then wlE s 12 else 0
def scOk (s:ByteArray)(n:Int) : Bool:=decide (¬ scK s n=0)
theorem sc_0 {s:ByteArray}{n:Int}(h:scK s n=0) : scL s n=[]∧scE s n=0∧scOk s n=false:=by simp[scL,scE,scOk,h]
theorem sc_1 {s:ByteArray}{n:Int}(h:scK s n=1) : scL s n=[]∧scE s n=0∧scOk s n=true:=by simp[scL,scE,scOk,h]
theorem sc_2 {s:ByteArray}{n:Int}(h:scK s n=2) : scL s n=wlL s 12∧scE s n=wlE s 12∧scOk s n=true:=by simp[scL,scE,scOk,h]
theorem scK_no {s:ByteArray}{n:Int}(h:¬ (0≤n∧n≤199)) : scK s n=0:=by unfold scK;rw[if_pos h]
theorem scK_bad {s:ByteArray}{n:Int}(h:0≤n∧n≤199)(h2:¬ s.extract 0 (min s.size 12)=(hdS n).extract 0 (min s.size 12)) : scK s n=0:=by unfold scK;rw[if_neg (by omega),if_pos h2]
theorem scK_short {s:ByteArray}{n:Int}(h:0≤n∧n≤199)(h2:s.extract 0 (min s.size 12)=(hdS n).extract 0 (min s.size 12))(h3:s.size<12) : scK s n=1:=by unfold scK;rw[if_neg (by omega),if_neg (by simp[h2]),if_pos h3]
theorem scK_whole {s:ByteArray}{n:Int}(h:0≤n∧n≤199)(h2:s.extract 0 (min s.size 12)=(hdS n).extract 0 (min s.size 12))(h3:¬ s.size<12) : scK s n=2:=by unfold scK;rw[if_neg (by omega),if_neg (by simp[h2]),if_neg h3]
def ftS (size:Int)(p:ByteArray) : Bool:=decide (p.size≤2000∧0≤size∧size≤4096∧size+(p.size:Int)+12≤4096)
def Scanned (s:ByteArray)(n:Int)(w:World)(e:Ending)(w':World) : Prop:=∃ u,e = .returned (.tuple #[u,.int .i64 (scE s n:Nat),.bool (scOk s n)])∧IntsIn w' u (scL s n)∧Below w.heap.size w w'
theorem ne_nil_of_size {H:ByteArray}(hz:H.size=12) : ¬ H.toList=[]∧(H.toList==[])=false:=by
 have:¬ H.toList=[]:=fun e=>by
  have h:H=ByteArray.empty:=ByteArray.ext (Array.toList_inj.1 (by rw[← Lib.toList_data,e];rfl));rw[h] at hz;cases hz
 exact⟨this,by rw[beq_eq_false_iff_ne];exact this⟩
def NoChunk (w:World)(e:Ending)(w':World) : Prop:=∃ u,e = .returned (.tuple #[u,.int .i64 0,.bool false])∧IntsIn w' u []∧Below w.heap.size w w'
def HalfChunk (w:World)(e:Ending)(w':World) : Prop:=∃ u,e = .returned (.tuple #[u,.int .i64 0,.bool true])∧IntsIn w' u []∧Below w.heap.size w w'
end
section
structure LogS where
 starts:Nat
 chunks:Nat
 endp:Nat
 sure:Nat
abbrev nmC (n:Nat) : ByteArray:=nmS 99 (n:Nat)
def newB : ByteArray:=⟨#[110,101,119]⟩
def stR (r:Nat→Nat) : Nat→Nat→Nat × Nat
 | 0,k=>(0,k)
 | n+1,k=>if r k=0 then stR r n (k+1) else(r k,k+1)
def readyT (D:DiskS)(L:LogS) : Nat:=if D.down then 61 else if D.starts=L.starts then 0 else 61
def rdC (D:DiskS)(n:ByteArray) : ByteArray × Nat × DiskS:=if (sizeS D n).2=0 then readS D n 0 ((sizeS D n).1:Nat) else(ByteArray.empty,(sizeS D n).2,D)
def syncT (D:DiskS)(L:LogS) : Nat × DiskS × LogS :=
 if L.chunks=0 then(0,D, { L with sure:=L.endp }) else
 if (syncS D (nmC (L.chunks-1))).1=0 then(0,(syncS D (nmC (L.chunks-1))).2, { L with sure:=L.endp }) else((syncS D (nmC (L.chunks-1))).1,(syncS D (nmC (L.chunks-1))).2,L)
def targetT (D:DiskS)(L:LogS)(p:ByteArray) : Nat × Nat × Nat :=
 if L.chunks=0 then(0,12,0) else
 if (sizeS D (nmC (L.chunks-1))).2=0 then(if ftS ((sizeS D (nmC (L.chunks-1))).1:Nat) p=true then(L.chunks-1,(sizeS D (nmC (L.chunks-1))).1,0) else(L.chunks,12,0))
 else(0,0,(sizeS D (nmC (L.chunks-1))).2)
def roomT (D:DiskS)(s:ByteArray) : Bool:=decide (6000≤(D.cap:Int)-(usedS D.l:Nat)-(s.size:Nat))
def thenT (a:Nat × DiskS × LogS)(f:DiskS→LogS→Nat × DiskS × LogS) : Nat × DiskS × LogS:=if a.1=0 then f a.2.1 a.2.2 else a
def onD (f:DiskS→Nat × DiskS)(D:DiskS)(L:LogS) : Nat × DiskS × LogS:=((f D).1,(f D).2,L)
def beginT (D:DiskS)(L:LogS)(r:ByteArray) : Nat × DiskS × LogS :=
 if 200≤L.chunks∨roomT D (hdS (L.chunks:Nat)++r)=false then(60,D,L) else
 thenT (thenT (syncT D L) (onD fun E=>createS E (nmC L.chunks))) (onD fun E=>appendS E (nmC L.chunks) (hdS (L.chunks:Nat)++r))
def extendT (D:DiskS)(L:LogS)(r:ByteArray) : Nat × DiskS:=if roomT D r=false then(60,D) else appendS D (nmC (L.chunks-1)) r
def appendT (D:DiskS)(L:LogS)(p:ByteArray) : Nat × Nat × DiskS × LogS :=
 if readyT D L≠0 then(0,readyT D L,D,L) else
 if 2000<p.size then(0,3,D,L) else
 if (targetT D L p).2.2≠0 then(0,(targetT D L p).2.2,D,L) else
 let n:=(targetT D L p).1
 let a:=(targetT D L p).2.1
 let r:=if n=L.chunks then beginT D L (recS p) else onD (fun E=>extendT E L (recS p)) D L
 if r.1≠0 then(0,r.1,r.2.1,r.2.2) else(4096*n+a,0,r.2.1, { r.2.2 with chunks:=n+1,endp:=4096*n+a+(recS p).size })
def flushT (D:DiskS)(L:LogS) : Nat × DiskS × LogS:=if readyT D L≠0 then(readyT D L,D,L) else syncT D L
def readC (D:DiskS)(n:ByteArray)(a:Nat) : ByteArray × Nat × DiskS :=
 if (sizeS D n).2≠0 then(ByteArray.empty,(sizeS D n).2,D) else
 if (sizeS D n).1<a+12 then(ByteArray.empty,4,D) else
 let b:=readS D n (a:Nat) 4
 if b.2.1≠0 then(ByteArray.empty,b.2.1,b.2.2) else
 if 2000<getS b.1∨(sizeS D n).1<a+12+getS b.1 then(ByteArray.empty,4,b.2.2) else
 let c:=readS b.2.2 n (a:Nat) ((getS b.1+12:Nat):Int)
 if c.2.1≠0 then(ByteArray.empty,c.2.1,c.2.2) else
 if getOk c.1 0=true then(getP c.1 0,0,c.2.2) else(ByteArray.empty,4,c.2.2)
def readT (D:DiskS)(L:LogS)(pos:Int) : ByteArray × Nat × DiskS :=
 if readyT D L≠0 then(ByteArray.empty,readyT D L,D) else
 if pos<0∨(L.chunks:Int)≤pos/4096∨pos%4096<12 then(ByteArray.empty,4,D) else readC D (nmC (pos/4096).toNat) (pos%4096).toNat
structure NextS where
 p:ByteArray
 at_ : Int
 next:Int
 e:Nat
 D:DiskS
def nextK : Nat→Nat→DiskS→Int→NextS
 | 0,_,D,_=>⟨ByteArray.empty,0,0,4,D⟩
 | k+1,n,D,pos =>
   if (rdC D (nmC n)).2.1≠0 then⟨ByteArray.empty,0,0,(rdC D (nmC n)).2.1,(rdC D (nmC n)).2.2⟩ else
   match (scL (rdC D (nmC n)).1 (n:Nat)).find? (fun x=>decide (pos≤(n:Int)*4096+x)) with
   | none=>nextK k (n+1) (rdC D (nmC n)).2.2 pos
   | some x=>⟨getP (rdC D (nmC n)).1 x,(n:Int)*4096+x,(n:Int)*4096+(getN (rdC D (nmC n)).1 x:Nat),0,(rdC D (nmC n)).2.2⟩
def nextT (D:DiskS)(L:LogS)(pos:Int) : NextS :=
 if readyT D L≠0 then⟨ByteArray.empty,0,0,readyT D L,D⟩ else
 nextK (L.chunks-(max pos 0/4096).toNat) (max pos 0/4096).toNat D pos
def sweepT (D:DiskS) : Nat × DiskS:=if (deleteS D newB).1=4 then(0,(deleteS D newB).2) else deleteS D newB
def isC (s:ByteArray) : Bool:=npOk s&&npK s==99
def cntL : List ByteArray→Nat→Nat × Nat
 | [],c=>(0,c)
 | s::r,c=>if isC s=true then(if npN s≠c∨200≤npN s then(63,c) else cntL r (c+1)) else cntL r c
def countT (D:DiskS)(L:LogS) : Nat × DiskS × LogS:=((cntL (D.l.map FileS.name) L.chunks).1,D, { L with chunks:=(cntL (D.l.map FileS.name) L.chunks).2 })
def thenD (a:Nat × DiskS)(f:DiskS→Nat × DiskS) : Nat × DiskS:=if a.1=0 then f a.2 else a
def rewriteT (D:DiskS)(n s:ByteArray) : Nat × DiskS:=thenD (thenD (thenD (createS D newB) fun E=>appendS E newB s) fun E=>syncS E newB) fun E=>renameS E newB n
def mendT (D:DiskS)(L:LogS)(n:Nat)(s:ByteArray)(e:Nat) : Nat × DiskS × LogS :=
 if s.size<12 then((deleteS D (nmC n)).1,(deleteS D (nmC n)).2, { L with chunks:=n }) else
 if e<s.size then onD (fun E=>rewriteT E (nmC n) (s.extract 0 e)) D { L with endp:=4096*n+e } else onD (fun E=>syncS E (nmC n)) D { L with endp:=4096*n+e }
def loadK : Nat→Nat→DiskS→LogS→Nat × DiskS × LogS
 | 0,_,D,L=>(0,D,L)
 | k+1,n,D,L =>
   if (rdC D (nmC n)).2.1≠0 then((rdC D (nmC n)).2.1,(rdC D (nmC n)).2.2,L) else
   if scOk (rdC D (nmC n)).1 (n:Nat)=false then(63,(rdC D (nmC n)).2.2,L) else
   if k=0 then mendT (rdC D (nmC n)).2.2 L n (rdC D (nmC n)).1 (scE (rdC D (nmC n)).1 (n:Nat)) else
   if (rdC D (nmC n)).1.size<12∨scE (rdC D (nmC n)).1 (n:Nat)<(rdC D (nmC n)).1.size then(63,(rdC D (nmC n)).2.2,L) else
   loadK k (n+1) (rdC D (nmC n)).2.2 { L with endp:=4096*n+scE (rdC D (nmC n)).1 (n:Nat) }
def loadT (D:DiskS)(L:LogS) : Nat × DiskS × LogS:=loadK L.chunks 0 D L
def openT (D:DiskS) : Nat × DiskS × LogS:=thenT (thenT (onD sweepT D ⟨D.starts,0,0,0⟩) countT) loadT
end
section
open Go.RowKit
structure ChunksApi : Prop where
 head:∀ (n:Int) (w:World),(Lit.int .i64 n).wf=true→Calls Tryz.prog 126 #[.int .i64 n] w fun e w'=>e = .returned (.string (hdS n))∧Below w.heap.size w w'
 scan:∀ (s:ByteArray) (n:Int) (w:World),s.size≤1100000→(Lit.int .i64 n).wf=true→Calls Tryz.prog 81 #[.string s,.int .i64 n] w (Scanned s n w)
 fits:∀ (size:Int) (p:ByteArray) (w:World),p.size≤maxLen→(Lit.int .i64 size).wf=true→Calls Tryz.prog 125 #[.int .i64 size,.string p] w fun e w'=>e = .returned (.bool (ftS size p))∧w=w'
 put:∀ (p:ByteArray) (w:World),p.size≤maxLen→Calls Tryz.prog 62 #[.string p] w fun e w'=>e = .returned (.tuple #[.string (prS p),.int .i64 (prE p)])∧Below w.heap.size w w'
theorem IntsIn.forms {w:World}{v:Value}{l:List Int}(h:IntsIn w v l) : ∃ A c,v = .slice A l.length c:=by
 obtain⟨A,off,cap,hv,_⟩:=h.cell;exact⟨A,cap,hv⟩
def rowB (a:ByteArray) : List ByteArray→ByteArray
 | []=>a
 | p::l=>rowB (a++recS p) l
def rowZ : List ByteArray→Nat
 | []=>0
 | p::l=>p.size+12+rowZ l
def rowP (k:Nat) : List ByteArray→List (Nat × ByteArray)
 | []=>[]
 | p::l=>(k,p)::rowP (k+(p.size+12)) l
def chunkB (n:Nat)(l:List ByteArray) : ByteArray:=rowB (hdS (n:Nat)) l
theorem rowB_size : ∀ (l:List ByteArray) (a:ByteArray),(rowB a l).size=a.size+rowZ l
 | [],a=>rfl
 | p::l,a=>by
   show(rowB (a++recS p) l).size=_;rw[rowB_size l,ByteArray.size_append,recS_size];show _=a.size+(p.size+12+rowZ l)
   omega
theorem rowB_snoc : ∀ (l:List ByteArray) (a p:ByteArray),rowB a (l++[p])=rowB a l++recS p
 | [],a,p=>rfl
 | x::l,a,p=>rowB_snoc l (a++recS x) p
theorem rowZ_snoc : ∀ (l:List ByteArray) (p:ByteArray),rowZ (l++[p])=rowZ l+(p.size+12)
 | [],p=>by show p.size+12+0=0+_;omega
 | x::l,p=>by
   show x.size+12+rowZ (l++[p])=x.size+12+rowZ l+_;rw[rowZ_snoc l p];omega
theorem rowP_snoc : ∀ (l:List ByteArray) (k:Nat) (p:ByteArray),rowP k (l++[p])=rowP k l++[(k+rowZ l,p)]
 | [],k,p=>by show [(k,p)]=[(k+0,p)];rfl
 | x::l,k,p=>by
   show(k,x)::rowP (k+(x.size+12)) (l++[p])=(k,x)::(rowP (k+(x.size+12)) l++[(k+(x.size+12+rowZ l),p)]);rw[rowP_snoc l,show k+(x.size+12)+rowZ l=k+(x.size+12+rowZ l) by omega]
theorem rowB_split : ∀ (l:List ByteArray) (a:ByteArray),rowB a l=a++rowB ByteArray.empty l
 | [],a=>by show a=a++ByteArray.empty;simp
 | p::l,a=>by
   show rowB (a++recS p) l=a++rowB (ByteArray.empty++recS p) l;rw[rowB_split l (a++recS p),rowB_split l (ByteArray.empty++recS p),ByteArray.empty_append,ByteArray.append_assoc]
theorem row_scan : ∀ (l:List ByteArray) (a:ByteArray),(∀ p∈l,p.size≤2000)→whL (rowB a l) ((rowB a l).size+1) a.size=(rowP a.size l).map (fun x=>(x.1:Int))∧whE (rowB a l) ((rowB a l).size+1) a.size=(rowB a l).size
 | [],a,_=>by
   obtain⟨e1,e2⟩:=wh_stop (s:=a) (k:=a.size) (gtOk_false (by omega));exact⟨e1,e2⟩
 | p::l,a,h=>by
   have hp:=h p List.mem_cons_self;obtain⟨g1,_,g3⟩:=rec_stands a p (rowB ByteArray.empty l) hp;have hs:rowB a (p::l)=a++recS p++rowB ByteArray.empty l:=rowB_split l (a++recS p);have hz:(a++recS p).size=a.size+(p.size+12):=by rw[ByteArray.size_append,recS_size]
   rw[← hs] at g1 g3;obtain⟨e1,e2⟩:=wh_step (s:=rowB a (p::l)) (k:=a.size) (by rw[rowB_size];omega) g1;obtain⟨i1,i2⟩:=row_scan l (a++recS p) (fun q hq=>h q (List.mem_cons_of_mem _ hq));rw[e1,e2,g3,← hz];refine⟨?_,i2⟩;show _=(a.size:Int)::(rowP (a.size+(p.size+12)) l).map _;rw[← hz];congr 1
theorem row_at : ∀ (l:List ByteArray) (a:ByteArray),(∀ p∈l,p.size≤2000)→∀ x∈rowP a.size l,gtOk (rowB a l) x.1=true∧getP (rowB a l) (x.1:Nat)=x.2∧getN (rowB a l) (x.1:Nat)=x.1+(x.2.size+12)∧a.size≤x.1∧x.1+(x.2.size+12)≤(rowB a l).size∧(rowB a l).extract x.1 (x.1+(x.2.size+12))=recS x.2∧x.2.size≤2000
 | [],a,_,x,hx=>by cases hx
 | p::l,a,h,x,hx=>by
   have hp:=h p List.mem_cons_self;have hs:rowB a (p::l)=a++recS p++rowB ByteArray.empty l:=rowB_split l (a++recS p);have hz:(a++recS p).size=a.size+(p.size+12):=by rw[ByteArray.size_append,recS_size]
   rcases List.mem_cons.1 hx with rfl | hx
   ·obtain⟨g1,g2,g3⟩:=rec_stands a p (rowB ByteArray.empty l) hp;rw[hs];exact⟨g1,g2,g3,Nat.le_refl _,by rw[ByteArray.size_append,hz];show a.size+(p.size+12)≤_;omega,ext_mid a (recS p) _ rfl (by rw[recS_size]),hp⟩
   ·rw[← hz] at hx;obtain⟨q1,q2,q3,q4,q5,q6,q7⟩:=row_at l (a++recS p) (fun q hq=>h q (List.mem_cons_of_mem _ hq)) x hx;exact⟨q1,q2,q3,by omega,q5,q6,q7⟩
theorem chunk_size {n:Nat}(h:n≤199)(l:List ByteArray) : (chunkB n l).size=12+rowZ l:=by unfold chunkB;rw[rowB_size,hd_size h]
theorem chunk_scan {n:Nat}(h:n≤199)(l:List ByteArray)(hl:∀ p∈l,p.size≤2000) : scL (chunkB n l) (n:Nat)=(rowP 12 l).map (fun x=>(x.1:Int))∧scE (chunkB n l) (n:Nat)=(chunkB n l).size∧scOk (chunkB n l) (n:Nat)=true:=by
 have hz:=chunk_size h l;have hh:=hd_size h
 have hk:scK (chunkB n l) (n:Nat)=2:=by
  refine scK_whole (by omega) ?_ (by omega);rw[show min (chunkB n l).size 12=12 by omega];unfold chunkB;rw[rowB_split];have e1:=ext_mid ByteArray.empty (hdS (n:Nat)) (rowB ByteArray.empty l) (i:=0) (j:=12) rfl (by rw[hh];rfl);have e2:=ext_mid ByteArray.empty (hdS (n:Nat)) ByteArray.empty (i:=0) (j:=12) rfl (by rw[hh];rfl);rw[ByteArray.empty_append] at e1 e2;rw[ByteArray.append_empty] at e2;rw[e1,e2]
 obtain⟨e1,e2,e3⟩:=sc_2 hk;obtain⟨r1,r2⟩:=row_scan l (hdS (n:Nat)) hl;rw[hh] at r1 r2;have c:(0:Int)≤12∧(12:Int)≤(chunkB n l).size:=by omega
 rw[e1,e2];refine⟨?_, ?_,e3⟩
 ·unfold wlL;rw[if_pos c];exact r1
 ·unfold wlE;rw[if_pos c];exact r2
end
end Go.Proofs.YtokbfellcadkpaaGreat
