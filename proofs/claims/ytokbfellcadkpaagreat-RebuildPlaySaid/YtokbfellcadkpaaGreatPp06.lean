import Derived.Test.YtokbfellcadkpaaGreatPp05
import Derived.Deep.DrawnRows
import Derived.Deep.RegionHeldLaw
set_option linter.unusedVariables false
set_option maxRecDepth 100000
set_option maxHeartbeats 9000000
namespace Go.Proofs.YtokbfellcadkpaaGreat
open Tryz
section
def ptT(n:Int):Tw:=nmS 116 n
def ptB(n:Int):Tw:=nmS 98 n
theorem UW(c:UInt8)(n:Int):(nmS c n).size<=7:=by
 unfold nmS;split
 ·rw[ji,qk,nT];omega
 ·exact qF _
theorem oC(n:Int):(ptT n).size<=maxLen:=qO (UW 116 n) (by decide)
theorem tI(n:Int):(ptB n).size<=maxLen:=qO (UW 98 n) (by decide)
theorem PI{n:Nat}(h:n<=999999):ky (ptT n)=true/\ky (ptB n)=true:=by
 unfold ptT ptB ky;rw[nj h,nj h];decide
theorem Z2{n:Nat}(h:n<=999999):ptT n≠ByteArray.empty:=by
 intro e;have:=nj (c:=116) h;rw[show nmS 116 (n:Nat)=ByteArray.empty from e]at this;exact absurd this (by decide)
theorem mq{n m:Nat}(h:n<=999999)(k:m<=999999):ptB n≠ptT m:=by
 unfold ptB ptT;rw[dh h,dh k];intro e;have a:=congrArg (fun s:Tw=>s.data.toList.head?) e;simp only[dbs,List.head?_cons]at a;exact absurd a (by decide)
def je(D:jK)(n:Int)(l:List jJ)(t:Tw):Nat × jK :=
 if ptT n=ByteArray.empty∨uY l=false then(2,D)
 else if D.down=true then(61,D)
 else if (D.cap:Int)-(jA D.l:Nat)-(t.size:Nat)-((tbB l).size:Nat)<6000 then(60,D)
 else if (jk D (ptB n) t).1≠0 then jk D (ptB n) t
 else if (jk (jk D (ptB n) t).2 (ptT n) (tbB l)).1≠0 then((jk (jk D (ptB n) t).2 (ptT n) (tbB l)).1,(j6 (jk (jk D (ptB n) t).2 (ptT n) (tbB l)).2 (ptB n)).2)
 else jk (jk D (ptB n) t).2 (ptT n) (tbB l)
def cD(r:Nat):Bool:=decide (r=0)||decide (r=4)
def yf(D:jK)(n:Int):Nat × jK :=
 if cD (j6 D (ptT n)).1=false then j6 D (ptT n)
 else if cD (j6 (j6 D (ptT n)).2 (ptB n)).1=false then j6 (j6 D (ptT n)).2 (ptB n)
 else(0,(j6 (j6 D (ptT n)).2 (ptB n)).2)
def bf(t:Tw)(l:List jJ):Bool:=l.all fun x=>uz t x.h
theorem tL{t:Tw}{l:List jJ}:bf t l=true↔∀x∈l,uz t x.h=true:=by unfold bf;rw[List.all_eq_true]
theorem PL(l:List jJ):bf ByteArray.empty l=true:=tL.2 fun x _=>Vg (Xk (by decide)) _
def ldF(D:jK)(n:Int)(l:List jJ):Tw:=if (rdW D (ptB n)).2.1=0/\bf (rdW D (ptB n)).1 l=true then(rdW D (ptB n)).1 else ByteArray.empty
theorem UA(D:jK)(n:Int)(l:List jJ):bf (ldF D n l) l=true:=by
 unfold ldF;split
 ·rename_i h;exact h.2
 ·exact PL l
def jo(D:jK)(n:Int):Nat:=if D.down=true then 61 else if (rdW D (ptT n)).2.1≠0 then 90 else if vB (rdW D (ptT n)).1=false then 90 else 0
def ye(D:jK)(n:Int):jK:=if D.down=true then D else if (rdW D (ptT n)).2.1≠0 then(rdW D (ptT n)).2.2 else if vB (rdW D (ptT n)).1=false then(rdW D (ptT n)).2.2 else(rdW (rdW D (ptT n)).2.2 (ptB n)).2.2
def tM(e:Nat):Nat:=if e=0 then 0 else if e=61 then 61 else 90
def tN(D:jK)(n:Int):Nat:=tM (jH D (ptT n)).2
def mz(l:List jJ)(t:Tw)(h:Nat):Bool:=decide (0<l.length)&&uz t h
def pcP(s:Tw)(i:Nat):Tw:=s.extract (24*i) (24*i+24)
def okP(s:Tw)(m:Nat):Bool:=(List.range m).all fun i=>vz (pcP s i)
def fp(s:Tw)(m:Nat):List jJ:=(List.range m).map fun i=>enG (pcP s i)
theorem UB{s:Tw}{m:Nat}:okP s m=true↔∀i,i<m->vz (pcP s i)=true:=by unfold okP;rw[List.all_eq_true];simp
theorem PM(s:Tw)(m:Nat):(fp s m).length=m:=by unfold fp;rw[qj,List.length_range]
def fe(s:Tw):Tw:=bs (List.replicate 8 0++s.data.toList)
theorem UC(s:Tw)(i:Nat):yJ (fe s) i=pcP s i:=by
 unfold yJ pcP fe;rw[yt,yt,pR,show 8+24*i=(List.replicate 8 (0:UInt8)).length+24*i by rw[List.length_replicate],List.drop_length_add_append,show 32+24*i-((List.replicate 8 (0:UInt8)).length+24*i)=24 by rw[List.length_replicate];omega,show 24*i+24-24*i=24 by omega]
theorem PN(s:Tw)(m:Nat):ya (fe s) m=fp s m:=by
 unfold ya fp;simp only[UC]
theorem UD{s:Tw}{lo hi i:Nat}(a:i<hi-lo):pcP (s.extract (8+24*lo) (8+24*hi)) i=yJ s (lo+i):=by
 unfold pcP yJ
 rw[yt,yt s,yt s,pR,List.drop_take,List.take_take,List.drop_drop,show 24*i+24-24*i=24 by omega,show 32+24*(lo+i)-(8+24*(lo+i))=24 by omega,
  show 8+24*lo+24*i=8+24*(lo+i) by omega,Nat.min_eq_left (by omega)]
theorem PO{s:Tw}(h:vB s=true){lo hi:Nat}(a:hi<=(tgL s).length):okP (s.extract (8+24*lo) (8+24*hi)) (hi-lo)=true/\fp (s.extract (8+24*lo) (8+24*hi)) (hi-lo)=((tgL s).drop lo).take (hi-lo):=by
 obtain⟨f,j,k,m,o,b,p⟩:=cl.1 h;rw[(rQ h).1]at a ⊢;rw[rX]at a;refine⟨UB.2 fun i d=>by rw[UD d];exact b _ (by omega), ?_⟩;apply List.ext_getElem?;intro i;unfold fp;rw[qu,List.getElem?_take,List.getElem?_drop];by_cases c:i<hi-lo
 ·rw[qV c,List.getElem?_range c,Yl _ (by omega)];show some (enG (pcP _ i))=_;rw[UD c]
 ·rw[qZ c,List.getElem?_eq_none (by rw[List.length_range];omega)];rfl
theorem UE{s:Tw}(h:vB s=true):jh (tgL s)/\(∀x∈tgL s,mayE x=true)/\s.size=12+24*(tgL s).length:=by
 obtain⟨d,f,i,a,j,b,c⟩:=cl.1 h;rw[(rQ h).1,rX];exact⟨Yz c,O1 s b,a⟩
theorem PP(s:Tw):∀x:Tw,kI (enG x):=by
 intro x;unfold enG;split
 ·rename_i h;have:=of_decide_eq_true h;exact⟨pW _,by simp only;omega,by simp only;omega,by simp only;omega,by simp only;omega⟩
 ·exact⟨by decide,by decide,by decide,by decide,by decide⟩
theorem UF(s:Tw):∀x∈tgL s,kI x:=by
 intro x a;unfold tgL ya at a;split at a
 ·obtain⟨i,_,rfl⟩:=qN.1 a;exact PP s _
 ·cases a
theorem PR{q:jJ->Bool}{l:List jJ}{lo hi:Nat}(h:∀(i:Nat) (x:jJ),l[i]? = some x->q x=true->lo<=i/\i<hi):l.filter q=((l.drop lo).take (hi-lo)).filter q:=by
 have e:l=l.take lo++((l.drop lo).take (hi-lo)++(l.drop lo).drop (hi-lo)):=by rw[ql,ql]
 have d:(l.take lo).filter q=[]:=List.filter_eq_nil_iff.2 fun y c b=>by
  obtain⟨j,a⟩:=List.getElem?_of_mem c;have k:=(qP.1 a).1;rw[qS]at k;rw[List.getElem?_take,qV (by omega)]at a;have:=(h j y a b).1;omega
 have f:((l.drop lo).drop (hi-lo)).filter q=[]:=List.filter_eq_nil_iff.2 fun y c b=>by
  obtain⟨j,a⟩:=List.getElem?_of_mem c;rw[List.getElem?_drop,List.getElem?_drop]at a;have:=(h _ y a b).2;omega
 conv=>lhs;rw[e]
 rw[List.filter_append,List.filter_append,d,f,List.nil_append,List.append_nil]
theorem PS{l:List jJ}(h:jh l)(lo m:Nat):jh ((l.drop lo).take m):=List.Pairwise.take (List.Pairwise.drop h)
theorem PT{l:List jJ}{lo m:Nat}{x:jJ}(h:x∈(l.drop lo).take m):x∈l:=List.mem_of_mem_drop (List.mem_of_mem_take h)
theorem P0{y:jJ}{h:Nat}{v:Int}(a:mayE y=true):jT y ⟨h,v,0⟩=uw h v y:=by
 have:=of_decide_eq_true a;unfold jT uw;rw[decide_eq_decide];simp only;omega
theorem P4(h:Nat)(v:Int)(y:jJ):uw h (v+1) y=bg h v y:=by
 unfold uw bg;rw[decide_eq_decide];omega
theorem UH{l:List jJ}(a:∀x∈l,mayE x=true)(h:Nat)(v:Int):l.countP (fun y=>jT y ⟨h,v,0⟩)=l.countP (uw h v):=List.countP_congr fun y b=>by rw[P0 (a y b)]
theorem P6(l:List jJ)(h:Nat)(v:Int):l.countP (uw h (v+1))=l.countP (bg h v):=List.countP_congr fun y a=>by rw[P4]
theorem UI{l:List jJ}(d:jh l){h:Nat}{a b:Int}{lo hi:Nat}(j:lo<=l.countP (uw h a))(k:l.countP (bg h b)<=hi):kZ ((l.drop lo).take (hi-lo)) h a b=kZ l h a b:=by
 unfold kZ;refine(PR fun i x f c=>?_).symm;have c:=of_decide_eq_true c;have c1:=oX (Yy h a) d i x f;have c2:=oX (Yu h b) d i x f;constructor
 ·have:uw h a x=false:=qW (by omega);rw[this]at c1;have:=of_decide_eq_false c1.symm;omega
 ·have:bg h b x=true:=qA (by omega);rw[this]at c2;have:=of_decide_eq_true c2.symm;omega
theorem P7{l:List jJ}(i:jh l){h:Nat}{a b:Int}{lo hi:Nat}(c:lo<=l.countP (uw h a))(d:l.countP (bg h b)<=hi)(f:hi<=lo):kZ l h a b=[]:=by
 rw[<-UI i c d,Nat.sub_eq_zero_of_le f];rfl
theorem P8{l:List jJ}(c:∀x∈l,mayE x=true)(h:Nat)(a b:Int):kZ l h (max a 0) b=kZ l h a b:=by
 unfold kZ;refine List.filter_congr fun x d=>?_
 have:=of_decide_eq_true (c x d);unfold inQ;rw[decide_eq_decide];omega
theorem P9{t:Tw}{l:List jJ}(m:bf t l=true){h:Nat}(f:mz l t h=false)(a b:Int):kZ l h a b=[]/\OM l h b=none:=by
 have i:∀x∈l,¬x.h=h:=fun x d e=>by
  have j:=tL.1 m x d;have k:0<l.length:=List.length_pos_of_mem d;unfold mz at f;rw[qA k,<-e,j]at f;cases f
 exact⟨List.filter_eq_nil_iff.2 fun x d o=>i x d (of_decide_eq_true o).1,OO fun x d=>qW fun c=>i x d c.1⟩
end
section
open Go.RowKit Go.Shelf
attribute [local go_sem ↓] Go.wp_at_zero Go.wp_at_succ
def tO(w:World)(l:List vI)(e:Ending)(w':World):Prop:=∃A c,e = .returned (.slice A l.length c)/\yK w' w.heap.size (.slice A l.length c) l/\Below w.heap.size w w'
theorem Pq{w:World}{base k:Nat}{v:Value}{l:List jJ}{x:jJ}(i:yK w base v (yV l k))(a:l[k]? = some x)(f:cm l.length k=true)(z:l.length<=10000)(q:base<=w.heap.size)(j:TypeId){g:Nat}(r:w.heap.size=g):
  ∃w' u,(Builtin.append_ #[214,214] j #[v,.slice (some ⟨g,0,none⟩) 1 1]).run prog (w.alloc (.cells #[.int .u64 (x.h:Nat),.int .i64 x.v,.int .i64 x.p,.int .i64 (k:Nat)] 274)) = .ok u w' /\
   (∃A c,u = .slice A (yV l (k+1)).length c/\yK w' base (.slice A (yV l (k+1)).length c) (yV l (k+1)))/\Below base w w':=by
 subst r;have s:k<l.length:=(qP.1 a).1;have y:=ZS l k;have h:=Om (yK.alloc i (.cells #[.int .u64 (x.h:Nat),.int .i64 x.v,.int .i64 x.p,.int .i64 (k:Nat)] 274)) (Ol w ⟨x,(k:Nat)⟩) (by simp;omega) (by simp;omega) j;rw[<-tC a f]at h;obtain⟨A,c,w',b,d,m,-⟩:=h;have o:(yV l k).length+[(⟨x,(k:Nat)⟩:vI)].length=(yV l (k+1)).length:=by rw[tC a f,qI]
 rw[o]at b d;refine⟨w',_,b,⟨A,c,rfl,d⟩, ?_⟩;exact((Below.refl base w).alloc q _).trans (lz m (by simp;omega) (yK.block i))
theorem Px(v:Value)(l:List jJ)(w:World)(V:ju w v l)(W:l.length<=10000):
  Calls prog 196 #[v] w (tO w (kh l)):=by
 obtain⟨A0,off,ae,rfl,-,U⟩:=V.form;have HC:=qQ U;have f:=qQ (show tO w (kh l)=tO w (yV l l.length) from rfl);generalize kh l=R at*;obtain⟨n,Q⟩:∃n,n=l.length:=⟨_,rfl⟩
 have J:=qQ Q;rw[<-Q]at W f ⊢;clear V U Q;go_enter func196,ntmps196;go_wp2;go_loopw [3,8] (fun u i wr=>∃k:Nat,k<=n/\i = .int .i64 k/\(∃A c,u = .slice A (yV l k).length c/\yK wr w.heap.size (.slice A (yV l k).length c) (yV l k))/\Below w.heap.size w wr) (fun _ i _=>n-(intOf i).toNat)
 case atStart=>exact⟨0,qF _,rfl,⟨none,0,rfl,yK.nil _ _⟩,Below.refl _ _⟩
 case round =>
  obtain⟨k,hk,rfl,⟨H,c1,rfl,m⟩,a⟩:=hrel;by_cases ad:k<n
  ·have s1:(k:Int)<(n:Int):=(by omega);obtain⟨x,r⟩:∃x,l[k]? = some x:=⟨_,qC (by rw[<-J.out];omega)⟩
   obtain⟨K,rfl,P,z,B,C⟩:=HC.out k x r;have X:=(a.cell (p:=⟨K,off+k*3,none⟩) P).trans z;have Y:=(a.cell (p:=⟨K,off+k*3+1,none⟩) P).trans B;have Z:=(a.cell (p:=⟨K,off+k*3+2,none⟩) P).trans C;have o:=yK.alloc m (.cells #[.int .u64 (x.h:Nat),.int .i64 x.v,.int .i64 x.p] 63);have j:=a.alloc a.size (.cells #[.int .u64 (x.h:Nat),.int .i64 x.v,.int .i64 x.p] 63);have e9:IntKind.i64.wrap ((n:Int)-1)=(n:Int)-1:=IntWalk.i64_in _ ⟨by omega,by omega⟩;have y:=qQ (Ya (l:=l) (k:=k));have b:cm l.length k=(decide (k%8=0)||decide (k+1=n)):=(by rw[J.out];rfl);cases d:cm l.length k
   ·have t1:((k:Int)%8==0)=false:=by
     rw[d]at b;have:=(Bool.or_eq_false_iff.1 b.symm).1;have:=of_decide_eq_false this;exact qv.2 (by omega)
    have t2:((k:Int)==(n:Int)-1)=false:=by
     rw[d]at b;have:=(Bool.or_eq_false_iff.1 b.symm).2;have:=of_decide_eq_false this;exact qv.2 (by omega)
    have ab:=qQ (y.out d);have ac:=qQ o;have aa:=qQ j;have HB:=qQ a;generalize yV l k=L at*;clear r z B C m o a j b d y f;obtain⟨xh,xv,xp⟩:=x;simp only at X Y Z;go_wp2;go_roundw
    case rel=>exact⟨k+1,by omega,by go_num,by rw[ab.out];exact⟨H,c1,rfl,ac.out⟩,aa.out⟩
    case measure=>simp[intOf];omega
   ·obtain⟨w',u,M,N,O⟩:=Pq o r d (by rw[<-J.out];exact W) j.size 214 (g:=wr.heap.size+1) (by simp);have I:=qQ M;have s:=qQ N;have T:=qQ (j.trans O);rw[d]at b;have S:=Bool.or_eq_true_iff.1 b.symm;obtain⟨xh,xv,xp⟩:=x;simp only at X Y Z I;generalize (yV l k).length=ll at*;by_cases h8:k%8=0
    ·have t1:((k:Int)%8==0)=true:=beq_iff_eq.2 (by omega);clear r z B C m o a j b d y f M N O S;go_wp2_with (first | (at_builtin;refine yI rfl _ _ rfl rfl rfl I.out ?_) | fail);go_roundw
     case rel=>exact⟨k+1,by omega,by go_num,s.out,T.out⟩
     case measure=>simp[intOf];omega
    ·have t1:((k:Int)%8==0)=false:=qv.2 (by omega)
     have t2:((k:Int)==(n:Int)-1)=true:=by
      rcases S with q|q
      ·exact absurd (of_decide_eq_true q) h8
      ·have:=of_decide_eq_true q;exact beq_iff_eq.2 (by omega)
     clear r z B C m o a j b d y f M N O S;go_wp2_with (first | (at_builtin;refine yI rfl _ _ rfl rfl rfl I.out ?_) | fail);go_roundw
     case rel=>exact⟨k+1,by omega,by go_num,s.out,T.out⟩
     case measure=>simp[intOf];omega
  ·obtain rfl:k=n:=(by omega);have s1:¬(k:Int)<(k:Int):=(by omega);have s:=qQ (show tO w R (.returned (.slice H (yV l k).length c1)) wr by rw[f.out];exact⟨H,c1,rfl,m,a⟩);clear ad m f;generalize yV l k=L at*;go_wp2;go_ret;exact s.out
end
section
open Go.RowKit Go.Shelf
attribute [local go_sem ↓] Go.wp_at_zero Go.wp_at_succ
def Z4(r:Int × Int)(w:World)(e:Ending)(w':World):Prop:=e = .returned (.tuple #[.int .i64 r.1,.int .i64 r.2])/\Below w.heap.size w w'
theorem Pz(lo hi many a p b q:Int)(c:(if 0>lo then 0 else lo)=a)(d:(if many<a then many else a)=p)(f:(if p>hi then p else hi)=b)(i:(if many<b then many else b)=q):dF lo hi many=(p,q):=by
 unfold dF;refine Prod.ext ?_ ?_<;>simp only<;>subst i f d c<;>(repeat' split)<;>omega
theorem UL(lo hi many:Int)(w:World):
  Calls prog 264 #[.int .i64 lo,.int .i64 hi,.int .i64 many] w (Z4 (dF lo hi many) w):=by
 obtain⟨a,c⟩:∃a:Int,(if 0>lo then 0 else lo)=a:=⟨_,rfl⟩
 obtain⟨p,d⟩:∃p:Int,(if many<a then many else a)=p:=⟨_,rfl⟩
 obtain⟨b,f⟩:∃b:Int,(if p>hi then p else hi)=b:=⟨_,rfl⟩
 obtain⟨q,i⟩:∃q:Int,(if many<b then many else b)=q:=⟨_,rfl⟩
 rw[Pz lo hi many a p b q c d f i];go_enter func264,ntmps264;go_wp2;go_ret2;exact⟨rfl,Below.refl _ _⟩
def oE(x:jJ)(m:List vI)(many:Int):Int × Int:=dF (cC x m 0 (max many 0)).1 (cC x m 0 (max many 0)).2 (max many 0)
theorem Pj(v:Value)(m:List vI)(many:Int)(x:jJ)(w:World)(hm:gM w v m)(hn:m.length<=1000000):
  Calls prog 221 #[v,.int .i64 many,kS x] w (Z4 (oE x m many) w):=by
 obtain⟨A0,off,am,rfl,ak,ae⟩:=hm.form;have HC:=qQ ae;obtain⟨n,ac⟩:∃n,n=m.length:=⟨_,rfl⟩
 have M:=qQ ac;obtain⟨a,al⟩:∃a,(if 0>many then 0 else many)=a:=⟨_,rfl⟩
 have ad:max many 0=a:=by subst al;split<;>omega
 have U:=qQ (show oE x m many=dF (cC x m 0 a).1 (cC x m 0 a).2 a by unfold oE;rw[ad]);generalize oE x m many=R at*;rw[<-ac]at hn ⊢;clear ak;have Y:=(Below.refl w.heap.size w).alloc (qK _) (.cells #[.int .u64 (x.h:Nat),.int .i64 x.v,.int .i64 x.p] 63);have d:=jY.new w 63 #[.int .u64 (x.h:Nat),.int .i64 x.v,.int .i64 x.p];obtain⟨f,ag⟩:∃f,w.alloc (.cells #[.int .u64 (x.h:Nat),.int .i64 x.v,.int .i64 x.p] 63)=f:=⟨_,rfl⟩
 obtain⟨B,hB⟩:∃B,w.heap.size=B:=⟨_,rfl⟩
 rw[ag]at Y d;rw[hB]at d;have S:=qQ Y
 have T:=qQ (show ∀W,Below f.heap.size f W->W.cell? ⟨B,0,none⟩=some (.int .u64 (x.h:Nat))/\W.cell? ⟨B,1,none⟩=some (.int .i64 x.v)/\W.cell? ⟨B,2,none⟩=some (.int .i64 x.p) from fun W A =>
  ⟨(A.cell (p:=⟨B,0,none⟩) d.lt).trans (d.cell 0),(A.cell (p:=⟨B,1,none⟩) d.lt).trans (d.cell 1),(A.cell (p:=⟨B,2,none⟩) d.lt).trans (d.cell 2)⟩)
 have ah:=qQ (show ∀W,Below f.heap.size f W->∀i y,m[i]? = some y->∃b,A0=some ⟨b,off,none⟩/\W.cell? ⟨b,off+i*4,none⟩=some (.int .u64 (y.e.h:Nat))/\W.cell? ⟨b,off+i*4+1,none⟩=some (.int .i64 y.e.v)/\W.cell? ⟨b,off+i*4+2,none⟩=some (.int .i64 y.e.p)/\W.cell? ⟨b,off+i*4+3,none⟩=some (.int .i64 y.k) from fun W A i y H=>by
  obtain⟨b,e,P,c0,c1,c2,N⟩:=HC.out i y H;have O:=bj S.out A;exact⟨b,e,(O.cell (p:=⟨b,off+i*4,none⟩) P).trans c0,(O.cell (p:=⟨b,off+i*4+1,none⟩) P).trans c1,(O.cell (p:=⟨b,off+i*4+2,none⟩) P).trans c2,(O.cell (p:=⟨b,off+i*4+3,none⟩) P).trans N⟩)
 clear hm ae ac HC ad Y d;obtain⟨I,K,J⟩:=x;simp only at ag T U;go_enter func221,ntmps221;go_wp2;go_step3;go_wp2;go_step3;go_wp2;go_loopw [6,7,15] (fun lo hi i wr=>∃(k:Nat) (z:Int),k<=n/\i = .int .i64 k/\lo = .int .i64 z/\hi = .int .i64 a/\cC ⟨I,K,J⟩ m 0 a=cC ⟨I,K,J⟩ (m.drop k) z a/\Below f.heap.size f wr) (fun _ _ i _=>n-(intOf i).toNat)
 case atStart=>exact⟨0,0,qF _,rfl,rfl,rfl,rfl,Below.refl _ _⟩
 case round =>
  obtain⟨k,z,hk,rfl,rfl,rfl,af,s⟩:=hrel;have V:=qQ af;clear af;by_cases aj:k<n
  ·have s1:(k:Int)<(n:Int):=(by omega);obtain⟨y,H⟩:∃y,m[k]? = some y:=⟨_,qC (by rw[<-M.out];omega)⟩
   obtain⟨b,rfl,c0,c1,c2,N⟩:=ah.out wr s k y H
   have hd:m.drop k=y::m.drop (k+1):=by
    rw[List.drop_eq_getElem_cons (by rw[<-M.out];omega)];have:=qC (l:=m) (i:=k) (by rw[<-M.out];omega);rw[H]at this;rw[<-qg this]
   have c:cC ⟨I,K,J⟩ (m.drop k) z a=_:=rfl;rw[hd]at c
   conv at c=>rhs;rw[cC]
   rw[<-hd]at c;have Z:=s.alloc s.size (.cells #[.int .u64 (y.e.h:Nat),.int .i64 y.e.v,.int .i64 y.e.p,.int .i64 y.k] 274);have Q:=jY.new wr 274 #[.int .u64 (y.e.h:Nat),.int .i64 y.e.v,.int .i64 y.e.p,.int .i64 y.k];have r:=qQ fun W=>oK y.e ⟨I,K,J⟩ W
   clear H hd;have j:=qQ Z;have L:=qQ Q;obtain⟨q,hq⟩:∃q,IntKind.i64.wrap (y.k+1)=q:=⟨_,rfl⟩
   rw[hq]at c;cases o:jT y.e ⟨I,K,J⟩
   ·rw[o,qZ (by decide)]at c;rw[o]at r;have u:=qQ (show R=dF z y.k a by rw[U.out,V.out,c]);have X:=qQ fun W=>UL z y.k a W
    clear c o Z Q s;generalize dF z y.k a=RR at*;obtain⟨⟨yh,yv,yp⟩,yk⟩:=y;simp only at c0 c1 c2 N hq r j L;obtain⟨a0,a1,a2⟩:=T.out _ j.out;go_wp2_with fail;refine(r.out _).mono ?_;rintro e w3⟨rfl,C⟩;have ai:=((L.out).qe (jG.qn C) (by simp)).cell 3;have aa:=bj j.out C;go_wp2_with fail;refine(X.out _).mono ?_;rintro e w4⟨rfl,ab⟩;go_wp2;go_ret2;exact⟨by rw[u.out];rfl,bj (bj S.out aa) ab⟩
   ·rw[o,qV rfl]at c;rw[o]at r;have u:=qQ (V.out.trans c);clear c o Z Q s;obtain⟨⟨yh,yv,yp⟩,yk⟩:=y;simp only at c0 c1 c2 N hq r j L;obtain⟨a0,a1,a2⟩:=T.out _ j.out;go_wp2_with fail;refine(r.out _).mono ?_;rintro e w3⟨rfl,C⟩;have ai:=((L.out).qe (jG.qn C) (by simp)).cell 3;have aa:=bj j.out C;go_wp2;go_roundw
    case rel=>exact⟨k+1,q,by omega,by go_num,rfl,rfl,u.out,aa⟩
    case measure=>simp[intOf];omega
  ·obtain rfl:k=n:=(by omega);have s1:¬(k:Int)<(k:Int):=(by omega);have c:=V.out;rw[List.drop_of_length_le (by rw[<-M.out];exact qK _),cC]at c;have u:=qQ (show R=dF z a a by rw[U.out,c]);have X:=qQ fun W=>UL z a a W
   clear c aj;generalize dF z a a=RR at*;go_wp2_with fail;refine(X.out _).mono ?_;rintro e w4⟨rfl,ab⟩;go_wp2;go_ret2;exact⟨by rw[u.out];rfl,bj (bj S.out s) ab⟩
end
section
open Go.RowKit Go.Shelf
attribute [local go_sem ↓] Go.wp_at_zero Go.wp_at_succ
structure tP(l:List jJ)(x:jJ)(lo hi:Nat):Prop where
 own:oE x (kh l) (l.length:Nat)=((lo:Int),(hi:Int))
 ref:∃c,tD x (kh l) c/\loM (kh l) c=(lo:Int)/\hiM (kh l) c (l.length:Nat)=(hi:Int)
 jQ:lo<=l.countP (fun y=>jT y x)
 zc:l.countP (fun y=>jT y x)<=hi
 top:hi<=l.length
 gap:hi<=lo+7
theorem UM{l:List jJ}(h:jh l)(o:l.length<=1000000)(x:jJ):∃lo hi,tP l x lo hi:=by
 obtain⟨lo,hi,a,b,f,i,j,k⟩:=Oe (e:=x) h;have c:=Oa (e:=x) h;refine⟨lo,hi, ?_,⟨_,c,a,b⟩,f,i,j,k⟩;have m:max ((l.length:Nat):Int) 0=(l.length:Nat):=by omega
 unfold oE;rw[m,Yi c (fun y p=>(Oi o y p).1)]
 have e:(if gQ l.length (l.countP fun y=>jT y x)=0 then 0 else loM (kh l) (gQ l.length (l.countP fun y=>jT y x)))=(lo:Int):=by
  rw[<-a];split
  ·rename_i d;rw[d];rfl
  ·rfl
 rw[e,b];exact On (by simp only;omega) (by simp only;omega) (by simp only;omega)
theorem tP.run{l:List jJ}{x:jJ}{lo hi:Nat}(h:tP l x lo hi){w:World}{v:Value}(a:gM w v (kh l))(b:l.length<=1000000):
  Calls prog 221 #[v,.int .i64 (l.length:Nat),kS x] w (Z4 ((lo:Int),(hi:Int)) w):=by
 rw[<-h.own];have:=ZS l l.length;exact Pj v _ _ x w a (by unfold kh;omega)
end
section
open Go.RowKit
def mj(At:jL)(w0:World)(gd:Nat)(l:List jJ)(r:Nat)(D':jK)(E:List Nat)(w:World)(e:Ending)(w':World):Prop :=
 ∃A c,e = .returned (.tuple #[.slice A l.length c,.int .i64 (r:Nat)])/\jE w' w.heap.size (.slice A l.length c) l/\DS At w0 gd D' (jF (.slice A l.length c)++E) w'/\jV E w w'
section
variable {E E':List Nat}{w w' w'':World}
theorem jV.row{base:Nat}{v:Value}{l:List jJ}(h:jV E w w')(a:jE w base v l)(j:∀b∈jF v,b∈E):jE w' base v l:=by
 refine⟨a.1, ?_⟩;rcases a.2 with i|⟨g,d,f,c,k,m,r⟩
 ·exact qX i
 ·exact qY ⟨g,d,f,c,k,(h.block g (j g (kG.2 (by rw[c];rfl)))).trans m,r⟩
theorem jV.xw{v:Value}{l:List vI}(h:jV E w w')(a:gM w v l)(o:∀b∈jF v,b∈E):gM w' v l:=by
 rcases a with a|⟨b,off,c,rfl,d,f,k,m⟩
 ·exact qX a
 ·exact qY ⟨b,off,c,rfl,d,f,qR k h.size,fun i x q j u p=>(World.cell?_of_block (w:=w) (h.block b (o b (kG.2 rfl)))).trans (m i x q j u p)⟩
theorem jV.xZ{v:Value}{l:List jJ}(h:jV E w w')(a:ju w v l)(o:∀b∈jF v,b∈E):ju w' v l:=by
 rcases a with a|⟨b,off,c,rfl,d,f,k,m⟩
 ·exact qX a
 ·exact qY ⟨b,off,c,rfl,d,f,qR k h.size,fun i x q j u p=>(World.cell?_of_block (w:=w) (h.block b (o b (kG.2 rfl)))).trans (m i x q j u p)⟩
theorem jV.filter{f:Value}{t:Tw}{p q:Value}{m:Option Nat}(h:jV E w w')(c:uj w (.agg #[p,q,.map m]) t)(j:∀b,m=some b->b∈E):uj w' (.agg #[p,q,.map m]) t:=by
 rcases c with c|⟨i,d,e,k⟩
 ·exact qX c
 ·refine qY ⟨i,d,e,k.of_block (h.block d (j d ?_))⟩;injection e with e;have:=congrArg (fun a=>a[2]?) e;simpa using this
theorem Pk{g:Nat}(w:World)(a b c:Value):jG [g] w (((w.setCell ⟨g,0,none⟩ a).setCell ⟨g,1,none⟩ b).setCell ⟨g,2,none⟩ c) :=
 (((jG.refl [g] w).setCell (p:=⟨g,0,none⟩) (qX (qH.2 rfl)) a).setCell (p:=⟨g,1,none⟩) (qX (qH.2 rfl)) b).setCell (p:=⟨g,2,none⟩) (qX (qH.2 rfl)) c
theorem fi{base:Nat}{v:Value}{l:List jJ}(h:jE w base v l):∀b∈jF v,base<=b/\b<w.heap.size:=by
 intro b a;have a:=kG.1 a;rcases h.2 with⟨rfl,-⟩|⟨g,f,i,rfl,c,d,-⟩
 ·cases a
 ·have e:g=b:=by simpa[Value.ownBlock] using a
  rw[<-e];exact⟨c,(qm.1 d).1⟩
end
def yC(w:World)(gt gd:Nat)(n:Int)(l:List jJ)(t:Tw)(G:List Nat):Prop :=
 ∃A c p q m,jY w gt 219 #[ptr gt,ptr gd,.int .i64 n,.int .i64 (l.length:Nat),.slice A (kh l).length c,.int .i64 p,.int .i64 q,.map m] /\
  gM w (.slice A (kh l).length c) (kh l)/\uj w (.agg #[.int .i64 p,.int .i64 q,.map m]) t/\gt∈G/\(∀b∈jF (.slice A (kh l).length c),b∈G)/\∀b,m=some b->b∈G
section
variable {w w':World}{gt gd:Nat}{n:Int}{l:List jJ}{t:Tw}{G E:List Nat}
theorem yC.keep(h:yC w gt gd n l t G)(i:jV E w w')(a:∀b∈G,b∈E):yC w' gt gd n l t G:=by
 obtain⟨A,c,p,q,m,r,s,u,j,k,o⟩:=h;exact⟨A,c,p,q,m,i.qa r (a gt j),i.xw s (fun b d=>a b (k b d)),i.filter (f:=.nilIface) u (fun b d=>a b (o b d)),j,k,o⟩
theorem yC.below(h:yC w gt gd n l t G)(a:Below w.heap.size w w'):yC w' gt gd n l t G:=by
 obtain⟨A,c,p,q,m,b,d,f,i,j,k⟩:=h;exact⟨A,c,p,q,m,jY.below b a,d.below a (qK _),f.below a,i,j,k⟩
theorem yC.drew(h:yC w gt gd n l t G):yC w.drew gt gd n l t G:=h.below (Below.refl _ _).drew
theorem yC.cells(h:yC w gt gd n l t G):w.cell? ⟨gt,0,none⟩=some (ptr gt)/\w.cell? ⟨gt,1,none⟩=some (ptr gd)/\w.cell? ⟨gt,2,none⟩=some (.int .i64 n)/\w.cell? ⟨gt,3,none⟩=some (.int .i64 (l.length:Nat)):=by
 obtain⟨A,c,p,q,m,a,-⟩:=h;exact⟨a.cell 0,a.cell 1,a.cell 2,a.cell 3⟩
end
theorem UN: (prog.info? 219).map (·.size)=some 8:=by kernel_rfl
theorem Pv(d:Nat)(p:Addr)(w:World):(Op.equalIn (d+1) 164 (.pointer (some p)) (.pointer (some p))).run prog w = .ok true w:=by
 cases a:prog.info? 219 with
 | none=>have:=UN;rw[a]at this;cases this
 | some i =>
   have b:i.size=8:=(by have:=UN;rw[a]at this;simpa using this);simp[Op.equalIn,run_underlying Tryz.underlying164,sizeOf,typeInfo,a,sameAddr]
theorem Py(p:Addr)(w:World):(binOp .neq 164 (.pointer (some p)) (.pointer (some p))).run prog w = .ok (.bool false) w:=by
 have a:(Op.equal 164 (.pointer (some p)) (.pointer (some p))).run prog w = .ok true w:=Pv 9999 p w;simp only[binOp];simp[a]
theorem Z5{w:World}{gt:Nat}(h:w.cell? ⟨gt,0,none⟩=some (ptr gt)):Calls prog 170 #[ptr gt] w fun e w'=>e = .returned (.bool false)/\w=w':=by
 have a:=Py ⟨gt,0,none⟩;go_enter func170,ntmps170;go_wp2;go_ret;exact⟨rfl,rfl⟩
theorem Pu(w:World):Calls prog 170 #[.pointer none] w fun e w'=>e = .returned (.bool true)/\w=w':=by
 go_enter func170,ntmps170;go_wp2;go_ret;exact⟨rfl,rfl⟩
section
variable {w:World}{gt gd:Nat}{n:Int}{l:List jJ}{t:Tw}{G:List Nat}
theorem UO(h:yC w gt gd n l t G):Calls prog 107 #[ptr gt] w fun e w'=>e = .returned (.int .i64 n)/\w=w':=by
 obtain⟨c0,c1,c2,a⟩:=h.cells;have b:=qQ (Z5 c0);clear h c0 c1 a;go_enter func107,ntmps107;go_wp2_with fail;refine b.out.mono ?_;rintro e w'⟨rfl,rfl⟩;go_wp2;go_ret;exact⟨rfl,rfl⟩
theorem Pg(h:yC w gt gd n l t G)(x:Nat)(f:x<18446744073709551616):Calls prog 182 #[ptr gt,.int .u64 (x:Nat)] w fun e w'=>e = .returned (.bool (mz l t x))/\Below w.heap.size w w':=by
 obtain⟨A,c,p,q,m,a,i,d,-⟩:=h;have c0:w.cell? ⟨gt,0,none⟩=some (ptr gt):=a.cell 0;have s:w.cell? ⟨gt,3,none⟩=some (.int .i64 (l.length:Nat)):=a.cell 3;have u:w.cell? ⟨gt,5,none⟩=some (.int .i64 p):=a.cell 5;have v:w.cell? ⟨gt,6,none⟩=some (.int .i64 q):=a.cell 6;have y:w.cell? ⟨gt,7,none⟩=some (.map m):=a.cell 7;have o:=qQ (Z5 c0);have j:=qQ (Vw _ x t w f d);unfold mz;by_cases b:0<l.length
 ·have C:decide ((0:Int)<(l.length:Int))=true:=qA (by omega);rw[qA b,Bool.true_and];generalize uz t x=r at*;generalize l.length=k at*;clear a i d c0 f;go_enter func182,ntmps182;go_wp2_with fail;refine o.out.mono ?_;rintro e w'⟨rfl,rfl⟩;go_wp2_with fail;refine j.out.mono ?_;rintro e w'⟨rfl,B⟩;go_wp2;go_ret;exact⟨rfl,B⟩
 ·have z:l.length=0:=by omega
  rw[qW b,Bool.false_and];rw[z]at s;clear a i d c0 b f j u v y;go_enter func182,ntmps182;go_wp2_with fail;refine o.out.mono ?_;rintro e w'⟨rfl,rfl⟩;go_wp2;go_ret;exact⟨rfl,Below.refl _ _⟩
end
theorem Pb(k:Nat)(w:World)(c:k<=1000):Calls prog 211 #[err k] w fun e w'=>e = .returned (err (tM k))/\w=w':=by
 unfold tM;by_cases a:k=0
 ·subst a;rw[qV rfl];go_enter func211,ntmps211;go_wp2;go_ret;exact⟨rfl,rfl⟩
 ·rw[qZ a];by_cases b:k=61
  ·subst b;rw[qV rfl];go_enter func211,ntmps211;go_wp2;go_ret;exact⟨rfl,rfl⟩
  ·rw[qZ b];have d:((k:Int)==0)=false:=(by simp;omega);have f:((k:Int)==61)=false:=(by simp;omega);go_enter func211,ntmps211;go_wp2;go_ret;exact⟨rfl,rfl⟩
section
variable {At:jL}(api:jM At){w0 w:World}{gd:Nat}{D:jK}{E:List Nat}
include api
theorem tR(h:DS At w0 gd D E w)(ok:WfP D):Calls prog 160 #[ptr gd] w fun e w'=>e = .returned (err (if D.down=true then 61 else 0))/\w=w':=by
 have c:=h.size api ok ⟨#[110,101,119]⟩ (by decide);rcases sg D ⟨#[110,101,119]⟩ with⟨f,i⟩|⟨f,i⟩
 ·rw[qV f];rw[i]at c;have d:=qQ c;clear c;go_enter func160,ntmps160;go_wp2_with fail;refine d.out.mono ?_;rintro e w'⟨rfl,rfl⟩;go_wp2;go_ret;exact⟨rfl,rfl⟩
 ·rw[qZ (by rw[f];decide)];have j:(((jH D ⟨#[110,101,119]⟩).2:Int)==1)=false:=by simp;omega
  have k:(((jH D ⟨#[110,101,119]⟩).2:Int)==61)=false:=by simp;omega
  have d:=qQ c;generalize (jH D ⟨#[110,101,119]⟩).1=a at*;generalize (jH D ⟨#[110,101,119]⟩).2=b at*;clear c i;go_enter func160,ntmps160;go_wp2_with fail;refine d.out.mono ?_;rintro e w'⟨rfl,rfl⟩;go_wp2;go_ret;exact⟨rfl,rfl⟩
theorem UP(h:DS At w0 gd D E w)(ok:WfP D)(n s:Tw)(i:n.size<=maxLen)(u:s.size<=1099511627776):Calls prog 163 #[ptr gd,.string n,.string s] w (yX At w0 gd (err (jk D n s).1) (jk D n s).2 E w):=by
 have d:=h.qi api (fun F hF=>api.create n hF ok.ok i);have q:=lO ok n;have z:=lP q n s;have j:=fun W (B:DS At w0 gd (jP D n).2 E W)=>B.qi api (fun F hF=>api.append n s hF q.ok u i)
 have v:=fun W (B:DS At w0 gd (j9 (jP D n).2 n s).2 E W)=>B.qi api (fun F hF=>api.sync n hF z.ok i)
 unfold jk;by_cases f:(jP D n).1=0
 ·rw[qZ (by simp[f])];rw[f]at d;by_cases p:(j9 (jP D n).2 n s).1=0
  ·rw[qZ (by simp[p])];rw[p]at j;generalize jc (j9 (jP D n).2 n s).2 n=Q at*;generalize (j9 (jP D n).2 n s).2=P at*;generalize (jP D n).2=K at*;have m:=qQ d;have A:=qQ j;have L:=qQ v;clear d j v h ok q z f p i u;go_enter func163,ntmps163;go_wp2_with fail;refine m.out.mono ?_;rintro e J⟨rfl,b,c⟩;have a:=qQ (qU b c);clear b c;go_wp2_with fail;refine(A.out _ a.out.1).mono ?_;rintro e O⟨rfl,o,r⟩;have k:=qQ (qU o r);clear o r;go_wp2_with fail;refine(L.out _ k.out.1).mono ?_;rintro e R⟨rfl,H,I⟩;have C:=qQ (qU H I);clear H I;go_wp2;go_ret;exact⟨rfl,C.out.1,(a.out.2.trans k.out.2).trans C.out.2⟩
  ·rw[qV p];have t:(((j9 (jP D n).2 n s).1:Int) != 0)=true:=(by simp;omega);generalize j9 (jP D n).2 n s=N at*;generalize (jP D n).2=K at*;generalize N.1=y at*;have m:=qQ d;have A:=qQ j;clear d j v h ok q z f p i u;go_enter func163,ntmps163;go_wp2_with fail;refine m.out.mono ?_;rintro e J⟨rfl,b,c⟩;have a:=qQ (qU b c);clear b c;go_wp2_with fail;refine(A.out _ a.out.1).mono ?_;rintro e O⟨rfl,o,r⟩;have k:=qQ (qU o r);clear o r;go_wp2;go_ret;exact⟨rfl,k.out.1,a.out.2.trans k.out.2⟩
 ·rw[qV f];have t:(((jP D n).1:Int) != 0)=true:=by simp;omega
  generalize jP D n=M at*;generalize M.1=y at*;have m:=qQ d;clear d j v h ok q z f i u;go_enter func163,ntmps163;go_wp2_with fail;refine m.out.mono ?_;rintro e J⟨rfl,b,c⟩;have a:=qQ (qU b c);clear b c;go_wp2;go_ret;exact⟨rfl,a.out.1,a.out.2⟩
theorem Z6(h:DS At w0 gd D E w)(ok:WfP D)(f:D.count<=1099511627776)(n:Tw)(c:n.size<=maxLen):Calls prog 194 #[ptr gd,.string n] w (yX At w0 gd (.tuple #[.string (rdW D n).1,err (rdW D n).2.1]) (rdW D n).2.2 E w):=by
 have m:=VC ok n;have b:=h.size api ok n c;have i:=h.qi api (fun F hF=>api.read n 0 ((jH D n).1:Nat) hF ok.ok f (by decide) (WalkArith.wf_i64 (by omega)) c);unfold rdW;by_cases a:(jH D n).2=0
 ·rw[qV a];rw[a]at b;generalize (jH D n).1=z at*;generalize kK D n 0 (z:Nat)=r at*;have d:=qQ b;have q:=qQ i;clear b i h ok f c a m;go_enter func194,ntmps194;go_wp2_with fail;refine d.out.mono ?_;rintro e s⟨rfl,rfl⟩;go_wp2_with fail;refine q.out.mono ?_;rintro e u⟨rfl,k,o⟩;have j:=qQ (qU k o);clear k o;go_wp2;go_ret2;exact⟨rfl,j.out.1,j.out.2⟩
 ·rw[qZ a];have t:(((jH D n).2:Int) != 0)=true:=by simp;omega
  generalize (jH D n).1=z at*;generalize (jH D n).2=y at*;have d:=qQ b;have p:=qQ h;clear b i h ok f c a m;go_enter func194,ntmps194;go_wp2_with fail;refine d.out.mono ?_;rintro e s⟨rfl,rfl⟩;go_wp2;go_ret2;exact⟨rfl,p.out,jV.refl _ _⟩
end
section
variable {At:jL}(api:jM At)(nap:jm){w0 w:World}{gt gd:Nat}{D:jK}{E G:List Nat}{n:Int}{l:List jJ}{t:Tw}
include api nap
theorem UR(h:DS At w0 gd D E w)(b:yC w gt gd n l t G)(ok:WfP D)(j:(Lit.int .i64 n).wf=true):Calls prog 171 #[ptr gt] w fun e w'=>e = .returned (err (tN D n))/\Below w.heap.size w w':=by
 obtain⟨c0,c1,c2,m⟩:=b.cells;have u:=qQ (Z5 c0);have d:=qQ fun W=>nap.table n W j
 have q:=qQ fun W (s:Below w.heap.size w W)=>(h.below api s).size api ok (ptT n) (oC n)
 have r:=qQ fun W=>Pb (jH D (ptT n)).2 W (by rcases sg D (ptT n) with⟨-,e⟩ | ⟨-,e | e⟩<;>rw[e]<;>decide)
 have c:=qQ b;unfold tN;rw[show nmS 116 n=ptT n from rfl]at d;generalize tM (jH D (ptT n)).2=y at*;generalize jH D (ptT n)=z at*;generalize ptT n=v at*;clear h b ok j c0 m;go_enter func171,ntmps171;go_wp2_with fail;refine u.out.mono ?_;rintro e w'⟨rfl,rfl⟩;go_wp2_with fail
 go_region_held3 (fun w'=>w'.cell? ⟨gt,1,none⟩=some (ptr gd)/\w'.cell? ⟨gt,2,none⟩=some (.int .i64 n)) (first | assumption | exact⟨by assumption,by assumption⟩ | exact⟨c1,c2⟩) (first
  | (go_at_call 110;refine(d.out _).mono ?_;rintro e i⟨rfl,f⟩;have a:=bj (show Below w.heap.size w _ from by first | exact(Below.refl _ _).drew | exact Below.refl _ _) f;have o:i.cell? ⟨gt,1,none⟩=some (ptr gd):=(c.out.below a).cells.2.1;have p:i.cell? ⟨gt,2,none⟩=some (.int .i64 n):=(c.out.below a).cells.2.2.1)
  | (go_at_call 50;refine(q.out _ a).mono ?_;rintro e A⟨rfl,rfl⟩)
  | fail)
 all_goals
  have k:=qQ a;clear a f o p;go_wp2_with fail;refine(r.out _).mono ?_;rintro e B⟨rfl,rfl⟩;go_wp2;go_ret;exact⟨rfl,k.out⟩
omit api nap in
theorem US(I:yC w gt gd n l t G)(H:l.length<=1000000)(x:Nat)(v:Int){lo hi:Nat}(r:tP l ⟨x,v,0⟩ lo hi):Calls prog 183 #[ptr gt,.int .u64 (x:Nat),.int .i64 v] w fun e w'=>e = .returned (.tuple #[.int .i64 (lo:Nat),.int .i64 (hi:Nat)])/\Below w.heap.size w w':=by
 obtain⟨A,c,p,q,m,a,o,z,-⟩:=I;have u:w.cell? ⟨gt,3,none⟩=some (.int .i64 (l.length:Nat)):=a.cell 3;have y:w.cell? ⟨gt,4,none⟩=some (.slice A (kh l).length c):=a.cell 4;have B:=qQ fun W (C:Below w.heap.size w W)=>r.run (o.below C (qK _)) H
 have i:=qQ fun(f:World) (b:Below w.heap.size w f)=>(show f.cell? ⟨gt,3,none⟩=some (.int .i64 (l.length:Nat))/\f.cell? ⟨gt,4,none⟩=some (.slice A (kh l).length c) from⟨(jY.below a b).cell 3,(jY.below a b).cell 4⟩)
 generalize (kh l).length=k at*;generalize l.length=j at*;clear a o z r;go_enter func183,ntmps183;go_wp2_with fail
 go_region_held3 (fun w'=>w'.cell? ⟨gt,3,none⟩=some (.int .i64 (j:Nat))/\w'.cell? ⟨gt,4,none⟩=some (.slice A k c)) (first | assumption | exact⟨by assumption,by assumption⟩ | exact⟨u,y⟩) (first
  | (go_at_call 221;refine(B.out _ (by first | exact(Below.refl _ _).drew | exact Below.refl _ _)).mono ?_;rintro e f⟨rfl,b⟩;have d:=bj (show Below w.heap.size w _ from by first | exact(Below.refl _ _).drew | exact Below.refl _ _) b;have J:=(i.out _ d).1;have K:=(i.out _ d).2)
  | fail)
 all_goals
  have s:=qQ d;clear d b;go_wp2;go_ret2;exact⟨rfl,s.out⟩
end
end
section
open Go.RowKit Go.Shelf
theorem Z7{w w2:World}{g i j k:Nat}(h:Below w.heap.size w w2)(d:w.heap.size<=g)(a b c:Value):
  Below w.heap.size w (((w2.setCell ⟨g,i,none⟩ a).setCell ⟨g,j,none⟩ b).setCell ⟨g,k,none⟩ c):=((h.setCell d _).setCell d _).setCell d _
def uU(s:Tw)(n k:Nat):List jJ:=(List.range n).map fun i=>if i<k then enG (yJ s i) else⟨0,0,0⟩
theorem rJ(s:Tw)(n k:Nat):(uU s n k).length=n:=by unfold uU;rw[qj,List.length_range]
theorem UT(s:Tw)(n:Nat):uU s n n=ya s n:=by
 unfold uU ya;apply List.map_congr_left;intro i a;rw[qV (List.mem_range.1 a)]
theorem Z8(s:Tw)(n k i:Nat):(uU s n k)[i]? = if i<n then some (if i<k then enG (yJ s i) else⟨0,0,0⟩) else none:=by
 unfold uU;rw[qu];by_cases h:i<n
 ·rw[List.getElem?_range h,qV h];rfl
 ·rw[List.getElem?_eq_none (by rw[List.length_range];omega),qZ h];rfl
theorem U0(s:Tw){n k:Nat}(b:k<n):(uU s n k).set k (enG (yJ s k))=uU s n (k+1):=by
 apply List.ext_getElem?;intro i;rw[List.getElem?_set,rJ,Z8,Z8];by_cases h:k=i
 ·subst h;rw[qV rfl,qV b,qV b,qV (Nat.lt_succ_self _)]
 ·rw[qZ h];by_cases a:i<k
  ·rw[qV a,qV (show i<k+1 by omega)]
  ·rw[qZ a,qZ (show ¬i<k+1 by omega)]
theorem Pc(s:Tw):∀n,yB (uU s n 0)=(madeCells #[Value.int .u64 0,.int .i64 0,.int .i64 0] (n*3)).toList:=by
 intro n;apply List.ext_getElem?;intro j;by_cases d:j<n*3
 ·have c:j/3<n:=by omega
  have a:=mS (uU s n 0) (j/3) ⟨0,0,0⟩ (by rw[Z8,qV c,qZ (Nat.not_lt_zero _)]) (j%3) (by omega);rw[show j/3*3+j%3=j by omega]at a;rw[a];unfold madeCells dw;rw[Array.toList_map,qu,Array.toList_range,List.getElem?_range d];have b:j%3<3:=by omega
  show _=some ((#[Value.int .u64 0,.int .i64 0,.int .i64 0]:Array Value)[j%3]!);generalize j%3=r at*
  match r,b with
  | 0,_=>rfl
  | 1,_=>rfl
  | 2,_=>rfl
 ·rw[List.getElem?_eq_none (by rw[oV,rJ];omega),List.getElem?_eq_none (by rw[Array.length_toList,size_madeCells];omega)]
theorem U1(s:Tw)(n:Nat)(i:n<=1000000):∃Z:Array Value,(∀w:World,(Instr.makeSlice 37 (.int .i64 (n:Nat)) (.int .i64 (n:Nat))).run prog w = .ok (.slice (some ⟨w.heap.size,0,none⟩) n n) (w.alloc (.cells Z 63))) /\
  ∀w:World,jE (w.alloc (.cells Z 63)) w.heap.size (.slice (some ⟨w.heap.size,0,none⟩) n n) (uU s n 0):=by
 obtain⟨f,b,c,a,d⟩:=info_parts ZL;refine⟨madeCells #[Value.int .u64 0,.int .i64 0,.int .i64 0] (n*3),fun w=>?_,fun w=>?_⟩
 ·have h:=run_makeSlice (P:=prog) w 37 63 f _ Tryz.underlying37 b c .i64 .i64 (n:Int) (n:Int) (by omega) (Int.le_refl _) (by rw[a];omega) (by rw[d];omega) (by omega);rw[a,qh]at h;exact h
 ·have h:=World.ownsRow_lit (base:=w.heap.size) (e:=63) (size:=3) w (madeCells #[Value.int .u64 0,.int .i64 0,.int .i64 0] (n*3)) n (qK _) (by unfold maxLen;omega) (size_madeCells _ _);unfold jE;rw[rJ,Pc];exact h
def fo(w:World)(s:Tw)(e:Ending)(w':World):Prop:=∃A c,e = .returned (.tuple #[.slice A (tgL s).length c,.int .i64 (tgE s)])/\jE w' w.heap.size (.slice A (tgL s).length c) (tgL s)/\Below w.heap.size w w'
theorem Pd{w w':World}{s:Tw}{e:Ending}(h:vB s=false)(d:e = .returned (.tuple #[.slice none 0 0,.int .i64 90]))(c:Below w.heap.size w w'):fo w s e w':=by
 obtain⟨a,b⟩:=ZE h;unfold fo;rw[a,b];exact⟨none,0,d,jE.nil _ _,c⟩
theorem U2(s:Tw)(w:World)(hs:s.size<=1100000):
  Calls prog 195 #[.string s] w (fo w s):=by
 have N:s.size<=maxLen:=by unfold maxLen;omega
 have o:=fun W=>Ox s W N
 have u:vB s=false->Hid (∀w':World,Below w.heap.size w w'->fo w s (.returned (.tuple #[.slice none 0 0,.int .i64 90])) w'):=fun h=>qQ fun w' r=>Pd h rfl r
 cases j:lx s with
 | false =>
   rw[j]at o;have H:=qQ o
   have p:=u (by
    cases e:vB s with
    | false=>rfl
    | true =>
      have h:=cl.1 e;rw[show lx s=true from qA ⟨h.1,h.2.1⟩]at j;cases j)
   generalize mR s=m at*;clear o u j N;go_enter func195,ntmps195;go_wp2_with fail;refine(H.out _).mono ?_;rintro e d⟨rfl,rfl⟩;go_wp2;go_ret2;exact p.out _ (Below.refl _ _)
 | true =>
 rw[j]at o;have ae:mR s=(tbN s:Nat):=by unfold mR;rw[j];rfl
 rw[ae]at o;have H:=qQ o;have U:=of_decide_eq_true j;have K:=fun W=>Yn (tbN s:Nat) W
 by_cases v:(s.size:Int)=fQ (tbN s:Nat)
 case neg =>
  have p:=u (by
   cases e:vB s with
   | false=>rfl
   | true =>
     have h:=cl.1 e;exact absurd (by rw[(oJ h.2.2.1).1,<-h.2.2.2.1]) v)
  have R:=qQ K;have t1:((s.size:Int) != fQ (tbN s:Nat))=true:=by rw[bne_iff_ne];exact v
  clear o u j ae v U K N;generalize fQ (tbN s:Nat)=z at*;generalize tbN s=n at*;go_enter func195,ntmps195;go_wp2_with fail;refine(H.out _).mono ?_;rintro e d⟨rfl,rfl⟩;go_wp2_with fail;refine(R.out _).mono ?_;rintro e d⟨rfl,rfl⟩;go_wp2;go_ret2;exact p.out _ (Below.refl _ _)
 have V:tbN s<=89478484/\s.size=12+24*tbN s:=by
  by_cases h:tbN s<=89478484
  ·rw[(oJ h).1]at v;exact⟨h,by omega⟩
  ·rw[(tA (qY (by omega))).1]at v;omega
 have aj:fQ (tbN s:Nat)=(s.size:Int):=v.symm;rw[aj]at K;have R:=qQ K;have I:=fun W=>Xq s W N
 cases B:vt s with
 | false =>
   rw[B]at I;have aa:=qQ I
   have p:=u (by
    cases e:vB s with
    | false=>rfl
    | true =>
      have h:=cl.1 e;rw[h.2.2.2.2.1]at B;cases B)
   generalize opA s=oa at*;clear o u j ae v U K aj I B V N;generalize tbN s=n at*;go_enter func195,ntmps195;go_wp2_with fail;refine(H.out _).mono ?_;rintro e d⟨rfl,rfl⟩;go_wp2_with fail;refine(R.out _).mono ?_;rintro e d⟨rfl,rfl⟩;go_wp2_with fail;refine(aa.out _).mono ?_;rintro e d⟨rfl,ac⟩;go_wp2;go_ret2;exact p.out _ ac
 | true =>
 rw[B]at I;have aa:=qQ I;obtain⟨Z,az,aq⟩:=U1 s (tbN s) (by omega);have ap:=qQ aq
 have ay:Hid ((∀i,i<tbN s->vz (yJ s i)=true)->yz (ya s (tbN s))=true->∀(A:Option Addr) c (w':World),jE w' w.heap.size (.slice A (tbN s) c) (ya s (tbN s))->Below w.heap.size w w'->fo w s (.returned (.tuple #[.slice A (tbN s) c,.int .i64 0])) w'):=qQ fun h1 h2 A c w' hr r=>by
  obtain⟨e1,e2⟩:=rQ (cl.2 ⟨U.1,U.2,V.1,V.2,B,h1,h2⟩);unfold fo;rw[e1,e2,rX];exact⟨A,c,rfl,hr,r⟩
 have ao:Hid ((∃i,i<tbN s/\vz (yJ s i)=false)∨yz (ya s (tbN s))=false->∀w':World,Below w.heap.size w w'->fo w s (.returned (.tuple #[.slice none 0 0,.int .i64 90])) w'):=qQ fun h w' r=>(u (by
  cases e:vB s with
  | false=>rfl
  | true =>
    have h2:=cl.1 e;rcases h with⟨i,hi,T⟩|T
    ·rw[h2.2.2.2.2.2.1 i hi]at T;cases T
    ·rw[h2.2.2.2.2.2.2]at T;cases T)).out w' r
 have ax:=qQ (show ∀k,k<tbN s->(uU s (tbN s) k).set k (enG (yJ s k))=uU s (tbN s) (k+1) from fun k hk=>U0 s hk);have aw:=qQ (UT s (tbN s));have Y:=qQ (show ∀k,(uU s (tbN s) k).length=tbN s from fun k=>rJ s (tbN s) k);have aA:=V.2;generalize opA s=oa at*;clear o u j ae v U K aj I B V aq N;generalize tbN s=n at*;have hw:IntKind.i64.wrap (n:Int)=(n:Int):=IntWalk.i64_in _ ⟨by omega,by omega⟩;go_enter func195,ntmps195;go_wp2_with fail;refine(H.out _).mono ?_;rintro e d⟨rfl,rfl⟩;go_wp2_with fail;refine(R.out _).mono ?_;rintro e d⟨rfl,rfl⟩;go_wp2_with fail;refine(aa.out _).mono ?_;rintro e d⟨rfl,ac⟩;have hR:=ap.out d;have X:=qQ ac;have au:=(Below.refl d.heap.size d).alloc (qK _) (.cells Z 63);clear ap ac H R aa;go_wp2;go_loopw [35] (fun i wr=>∃k:Nat,k<=n/\i = .int .i64 k/\(∀i,i<k->vz (yJ s i)=true)/\jE wr d.heap.size (.slice (some ⟨d.heap.size,0,none⟩) n n) (uU s n k)/\Below d.heap.size d wr) (fun i _=>n-(intOf i).toNat)
 case atStart=>exact⟨0,qF _,rfl,fun i h=>absurd h (by omega),hR,au⟩
 case round =>
  obtain⟨k,hk,rfl,ar,P,ad⟩:=hrel;clear hR au az;have HA:=qQ ar;clear ar;by_cases M:k<n
  ·have s1:(k:Int)<(n:Int):=(by omega);obtain⟨a,ha⟩:∃a,a=8+24*k:=⟨_,rfl⟩
   obtain⟨b,r⟩:∃b,b=32+24*k:=⟨_,rfl⟩
   have ak:Hid (∀W,Calls prog 212 #[.int .i64 (k:Nat)] W fun e w'=>e = .returned (.int .i64 (a:Nat))/\W=w'):=qQ fun W=>by
    have:=tB (k:Nat) W;rw[(oJ (by omega)).2,<-ha]at this;exact this
   have al:Hid (∀W,Calls prog 212 #[.int .i64 ((k:Int)+1)] W fun e w'=>e = .returned (.int .i64 (b:Nat))/\W=w'):=qQ fun W=>by
    have:=tB ((k+1:Nat):Int) W;rw[(oJ (by omega)).2,show 8+24*(k+1)=b by omega]at this;exact this
   have S:yJ s k=s.extract a b:=(by rw[ha,r];rfl);have q:=fun W=>Yw (s.extract a b) W (by unfold maxLen;rw[qT];omega)
   rw[<-S]at q;have ah:=qQ (ax.out k M);have x1:(a:Int)<=(b:Int):=(by omega);have x2:(b:Int)<=(s.size:Int):=(by omega);have x3:a<=b:=(by omega);have x4:b<=s.size:=(by omega);have ab:=qQ P;have am:=qQ ad;have af:Hid (vz (yJ s k)=vz (yJ s k)):=qQ rfl;rw[S]at q ah;rw[S]at af;have an:=qQ S;clear S ha r P ad;cases O:vz (s.extract a b) with
   | false =>
     rw[O]at q;have p:=qQ (ao.out (qX ⟨k,M,by rw[an.out];exact O⟩));have ag:=qQ q;clear q O af ah;generalize enG (s.extract a b)=x at*;obtain⟨xh,xv,xp⟩:=x;go_wp2_with fail;refine(ak.out _).mono ?_;rintro e C⟨rfl,rfl⟩;go_wp2_with fail;refine(al.out _).mono ?_;rintro e C⟨rfl,rfl⟩;go_wp2_with fail;refine(ag.out _).mono ?_;rintro e C⟨rfl,f⟩;have L:=ab.out.below f (qK _);obtain⟨⟨y,q0,q1,q2⟩,f0,f1,f2⟩:=L.at_ (Y.out k).symm M;have R3:=qQ (L.put (Y.out k).symm M ⟨xh,xv,xp⟩);go_wp2;go_ret2;exact p.out _ (bj X.out (Z7 (bj am.out f) (qK _) _ _ _))
   | true =>
     rw[O]at q;have ag:=qQ q
     have av:=qQ (show ∀i,i<k+1->vz (yJ s i)=true from fun i hi=>by
      rcases Nat.lt_or_ge i k with c|c
      ·exact HA.out i c
      ·obtain rfl:i=k:=(by omega);rw[an.out];exact O)
     clear q O af;generalize enG (s.extract a b)=x at*;obtain⟨xh,xv,xp⟩:=x;go_wp2_with fail;refine(ak.out _).mono ?_;rintro e C⟨rfl,rfl⟩;go_wp2_with fail;refine(al.out _).mono ?_;rintro e C⟨rfl,rfl⟩;go_wp2_with fail;refine(ag.out _).mono ?_;rintro e C⟨rfl,f⟩;have L:=ab.out.below f (qK _);obtain⟨⟨y,q0,q1,q2⟩,f0,f1,f2⟩:=L.at_ (Y.out k).symm M;have R3:=L.put (Y.out k).symm M ⟨xh,xv,xp⟩;rw[ah.out]at R3;have R4:=qQ R3;clear R3 L;go_wp2;exact⟨⟨k+1,by omega,by go_num,av.out,R4.out,Z7 (bj am.out f) (qK _) _ _ _⟩,by simp[intOf];omega⟩
  ·obtain rfl:k=n:=(by omega);have s1:¬(k:Int)<(k:Int):=(by omega);rw[aw.out]at P;have J:=Z1 _ _ wr (jE.xQ P) (by rw[rX];omega);have ab:=qQ P;clear P;cases Q:yz (ya s k) with
   | false =>
     rw[Q]at J;have ai:=qQ J;have p:=qQ (ao.out (qY Q));clear J Q;go_wp2_with fail;refine ai.out.mono ?_;rintro e C⟨rfl,f⟩;go_wp2;go_ret2;exact p.out _ (bj X.out (bj ad f))
   | true =>
     rw[Q]at J;have ai:=qQ J;have HY:=qQ (ay.out HA.out Q);clear J Q;go_wp2_with fail;refine ai.out.mono ?_;rintro e C⟨rfl,f⟩;go_wp2;go_ret2;exact HY.out _ _ _ (jE.down (jE.below ab.out f (qK _)) X.out.size) (bj X.out (bj ad f))
end
section
open Go.RowKit
section
variable {At:jL}(api:jM At)(nap:jm){w0 w:World}{gt gd:Nat}{D D':jK}{E G:List Nat}{n:Int}{l:List jJ}{t:Tw}
include api nap
theorem Pf(h:DS At w0 gd D E w)(S:yC w gt gd n l t G)(hG:∀b∈G,b∈E)(ok:WfP D)(hc:D.count<=1099511627776)(wn:(Lit.int .i64 n).wf=true)(lo hi m:Nat)(hm:hi=lo+m)(av:hi<=40000)(s:Tw)
  (T:kK D (ptT n) ((8+24*lo:Nat):Int) ((24*m:Nat):Int)=(s,0,D')) (hs:s.size=24*m) (r:okP s m=true):
  Calls prog 172 #[ptr gt,.int .i64 (lo:Nat),.int .i64 (hi:Nat)] w (mj At w0 gd (fp s m) 0 D' E w):=by
 obtain⟨c0,c1,c2,c3⟩:=S.cells;have hN:=qQ fun W=>nap.table n W wn
 rw[show nmS 116 n=ptT n from rfl]at hN;obtain⟨a,Q⟩:∃a,a=8+24*lo:=⟨_,rfl⟩
 obtain⟨b,o⟩:∃b,b=8+24*hi:=⟨_,rfl⟩
 obtain⟨z,L⟩:∃z,z=24*m:=⟨_,rfl⟩
 have al:Hid (∀W,Calls prog 212 #[.int .i64 (lo:Nat)] W fun e w'=>e = .returned (.int .i64 (a:Nat))/\W=w'):=qQ fun W=>by
  have:=tB (lo:Nat) W;rw[(oJ (by omega)).2,<-Q]at this;exact this
 have am:Hid (∀W,Calls prog 212 #[.int .i64 (hi:Nat)] W fun e w'=>e = .returned (.int .i64 (b:Nat))/\W=w'):=qQ fun W=>by
  have:=tB (hi:Nat) W;rw[(oJ (by omega)).2,<-o]at this;exact this
 rw[<-Q,<-L]at T
 have hR:=qQ fun W (hW:Below w.heap.size w W)=>(h.below api hW).qi api (v:=.tuple #[.string s,.int .i64 0]) (D':=D') (fun F hF=>by
  have:=api.read (ptT n) (a:Nat) (z:Nat) hF ok.ok hc (WalkArith.wf_i64 (by omega)) (WalkArith.wf_i64 (by omega)) (oC n);rw[T]at this;exact this)
 have e1:IntKind.i64.wrap ((b:Int)-(a:Int))=(z:Int):=by rw[IntWalk.i64_in _ ⟨by omega,by omega⟩];omega
 have e2:IntKind.i64.wrap ((hi:Int)-(lo:Int))=(m:Int):=by rw[IntWalk.i64_in _ ⟨by omega,by omega⟩];omega
 have e3:(hi:Int)-(lo:Int)=(m:Int):=by omega
 have e4:(b:Int)-(a:Int)=(z:Int):=by omega
 have ar:IntKind.i64.wrap (z:Int)=(z:Int):=IntWalk.i64_in _ ⟨by omega,by omega⟩;have C:=qQ S;have HK:=qQ (UB.1 r);obtain⟨Z,au,ag⟩:=U1 (fe s) m (by omega);have ae:=qQ ag;have aq:=qQ (show ∀k,k<m->(uU (fe s) m k).set k (enG (pcP s k))=uU (fe s) m (k+1) from fun k r=>by rw[<-UC];exact U0 _ r);have ao:=qQ (show uU (fe s) m m=fp s m by rw[UT,PN]);have ad:=qQ (show ∀k,(uU (fe s) m k).length=m from fun k=>rJ _ m k);have ab:=qQ (PM s m);have aA:m<=40000:=by omega
 have hw:IntKind.i64.wrap (m:Int)=(m:Int):=IntWalk.i64_in _ ⟨by omega,by omega⟩;have ac:=qQ h.lt;have aw:=qQ h.kept;generalize ptT n=nm at*;clear T Q o r h S ok hc wn c0 c3 hm av ag L;go_enter func172,ntmps172;go_wp2_with fail;refine(al.out _).mono ?_;rintro e U⟨rfl,rfl⟩;have aa:=qQ hG;go_wp2_with fail;have ak:=qU c1 c2
 go_region_held3 (fun w'=>w'.cell? ⟨gt,1,none⟩=some (ptr gd)/\w'.cell? ⟨gt,2,none⟩=some (.int .i64 n)) (first | (with_reducible assumption) | (with_reducible exact⟨by with_reducible assumption,by with_reducible assumption⟩) | exact ak) (first
  | (go_at_call 110;refine(hN.out _).mono ?_;rintro e U⟨rfl,o⟩;have j:=bj (show Below w.heap.size w _ from by first | (with_reducible exact(Below.refl _ _).drew) | (with_reducible exact Below.refl _ _)) o;have d1:U.cell? ⟨gt,1,none⟩=some (ptr gd):=(C.out.below j).cells.2.1;have d2:U.cell? ⟨gt,2,none⟩=some (.int .i64 n):=(C.out.below j).cells.2.2.1;have q:=j.drew;have d3:=qU d1 d2)
  | (go_at_call 212;refine(am.out _).mono ?_;rintro e w2⟨rfl,rfl⟩)
  | (go_at_call 51;(try rw[ar]);go_must (refine(hR.out _ (by first | (with_reducible exact j) | (with_reducible exact q))).mono ?_;rintro e c⟨rfl,h3,A⟩;have d5:=qU ((C.out.below (by first | (with_reducible exact j) | (with_reducible exact q))).keep A aa.out).cells.2.1 ((C.out.below (by first | (with_reducible exact j) | (with_reducible exact q))).keep A aa.out).cells.2.2.1))
  | fail)
 all_goals
  have Q3:jV E w c:=by first | exact(jV.qn j ac.out).trans A | exact(jV.qn q ac.out).trans A
  have B:=qQ (qU h3 Q3);have af:=ae.out c;have aj:=(Below.refl c.heap.size c).alloc (qK _) (.cells Z 63);clear ae h3 Q3 A d5 d3 j q o d1 d2 ak c1 c2;go_wp2;go_loopw [45] (fun i wr=>∃k:Nat,k<=m/\i = .int .i64 k/\jE wr c.heap.size (.slice (some ⟨c.heap.size,0,none⟩) m m) (uU (fe s) m k)/\Below c.heap.size c wr) (fun i _=>m-(intOf i).toNat)
  case atStart=>exact⟨0,qF _,rfl,af,aj⟩
  case round =>
   obtain⟨k,r,rfl,u,J⟩:=hrel;clear af aj au;by_cases K:k<m
   ·have s1:(k:Int)<(m:Int):=(by omega);obtain⟨f,ah⟩:∃f:Nat,f=24*k:=⟨_,rfl⟩
    obtain⟨d,ai⟩:∃d:Nat,d=24*k+24:=⟨_,rfl⟩
    have eP:pcP s k=s.extract f d:=(by rw[ah,ai];rfl);have M:=fun W=>Yw (s.extract f d) W (by unfold maxLen;rw[qT];omega)
    have N:=aq.out k K;have R:=HK.out k K;rw[eP]at N R;rw[R]at M;have an:=qQ M;have y1:IntKind.i64.wrap ((k:Int)*24)=(f:Int):=(by rw[IntWalk.i64_in _ ⟨by omega,by omega⟩];omega);have y2:IntKind.i64.wrap ((k:Int)+1)=(k:Int)+1:=IntWalk.i64_in _ ⟨by omega,by omega⟩;have y3:IntKind.i64.wrap (((k:Int)+1)*24)=(d:Int):=(by rw[IntWalk.i64_in _ ⟨by omega,by omega⟩];omega);have x1:(f:Int)<=(d:Int):=(by omega);have x2:(d:Int)<=(s.size:Int):=(by omega);have x3:f<=d:=(by omega);have x4:d<=s.size:=(by omega);have H:=qQ u;have p:=qQ J;have ap:=qQ N;clear eP ah ai u J M R N hs;generalize enG (s.extract f d)=x at*;obtain⟨V,Y,X⟩:=x;go_wp2_with fail;refine(an.out _).mono ?_;rintro e w4⟨rfl,I⟩;have O:=jE.below (H.out.below I (qK _)) ((Below.refl w4.heap.size w4).alloc (qK _) (.cells #[.int .u64 (V:Nat),.int .i64 Y,.int .i64 X] 63)) (qK _);obtain⟨⟨y,q0,q1,q2⟩,f0,f1,f2⟩:=O.at_ (ad.out k).symm K;have P:=O.put (ad.out k).symm K ⟨V,Y,X⟩;rw[ap.out]at P;have R4:=qQ P;have B4:=qQ ((bj p.out I).alloc (bj p.out I).size (.cells #[.int .u64 (V:Nat),.int .i64 Y,.int .i64 X] 63));clear P O I;go_wp2;exact⟨⟨k+1,by omega,by go_num,R4.out,Z7 B4.out (qK _) _ _ _⟩,by simp[intOf];omega⟩
   ·obtain rfl:k=m:=(by omega);have s1:¬(k:Int)<(k:Int):=(by omega);rw[ao.out]at u;have H:=qQ u;have p:=qQ J;clear u J;go_wp2;go_ret2;have L:=B.out.2.size;have az:c.heap.size<=wr.heap.size:=p.out.size;refine⟨some ⟨c.heap.size,0,none⟩,k,by rw[ab.out];rfl,by rw[ab.out];exact jE.down H.out L, ?_,B.out.2.trans (jV.qn p.out B.out.1.lt)⟩
    exact B.out.1.more api p.out (fun b o=>by
     obtain rfl:b=c.heap.size:=by simpa[jF,Value.ownBlock] using o
     exact⟨qK _,by
      rcases H.out.2 with⟨e,-⟩|⟨g,ax,ay,e,hg,hh,-⟩
      ·cases e
      ·have e2:=(Value.slice.inj e).1;have e3:c.heap.size=g:=(by simpa using e2);rw[e3];exact(qm.1 hh).1⟩)
end
def vO(D:jK)(n:Int)(l:List jJ):Prop:=∃f,jW D.l (ptT n)=some f/\vB f.data=true/\tgL f.data=l
theorem vO.count{D:jK}{n:Int}{l:List jJ}(h:vO D n l)(k:Nat):vO { D with count:=k } n l:=h
theorem vO.ready{D:jK}{n:Int}{l:List jJ}(h:vO D n l)(b:D.down=false):tN D n=0:=by
 obtain⟨f,a,c,d⟩:=h;unfold tN;rw[nP b a];rfl
theorem vO.props{D:jK}{n:Int}{l:List jJ}(h:vO D n l):jh l/\(∀x∈l,mayE x=true)/\∀x∈l,kI x:=by
 obtain⟨f,d,a,rfl⟩:=h;obtain⟨b,c,i⟩:=UE a;exact⟨b,c,UF _⟩
theorem vO.read{D:jK}{n:Int}{l:List jJ}(h:vO D n l)(d:D.down=false){lo m:Nat}(i:lo+m<=l.length):∃s,kK D (ptT n) ((8+24*lo:Nat):Int) ((24*m:Nat):Int)=(s,0, { D with count:=D.count+1 })/\s.size=24*m/\okP s m=true/\fp s m=(l.drop lo).take m:=by
 obtain⟨f,c,b,rfl⟩:=h;obtain⟨j,k,o⟩:=UE b;have a:=PO (lo:=lo) (hi:=lo+m) b i;rw[show 8+24*(lo+m)=8+24*lo+24*m by omega,show lo+m-lo=m by omega]at a;exact⟨_,sz d c (by omega),by rw[qT];omega,a.1,a.2⟩
section
variable {At:jL}(api:jM At)(nap:jm){w0 w:World}{gt gd:Nat}{D:jK}{E G:List Nat}{n:Int}{l:List jJ}{t:Tw}
include api nap
theorem U3(h:DS At w0 gd D E w)(p:yC w gt gd n l t G)(i:∀b∈G,b∈E)(ok:WfP D)(k:D.count<=1099511627776)(q:(Lit.int .i64 n).wf=true)(o:D.down=false)(j:vO D n l)(lo hi:Nat)(v:lo<=hi)(r:hi<=l.length)(u:l.length<=40000):
  Calls prog 172 #[ptr gt,.int .i64 (lo:Nat),.int .i64 (hi:Nat)] w (mj At w0 gd ((l.drop lo).take (hi-lo)) 0 { D with count:=D.count+1 } E w):=by
 obtain⟨s,a,c,d,f⟩:=j.read (lo:=lo) (m:=hi-lo) o (by omega);rw[<-f];exact Pf api nap h p i ok k q lo hi (hi-lo) (by omega) (by omega) s a c d
theorem Ph(h:DS At w0 gd D E w)(f:yC w gt gd n l t G)(r:∀b∈G,b∈E)(ok:WfP D)(u:D.count<=1099511627776)(p:(Lit.int .i64 n).wf=true)(o:D.down=false)(k:vO D n l)(K:l.length<=40000):
  Calls prog 108 #[ptr gt] w (mj At w0 gd l 0 { D with count:=D.count+1 } E w):=by
 have s:=qQ (UR api nap h f ok p);rw[k.ready o]at s;have j:=qQ fun W (d:Below w.heap.size w W)=>U3 api nap (h.below api d) (f.below d) r ok u p o k 0 l.length (qF _) (qK _) K
 rw[List.drop_zero,show l.length-0=l.length from rfl,List.take_length]at j;have I:=qQ fun W (d:Below w.heap.size w W)=>(f.below d).cells
 have J:=qQ h.lt;clear h f r ok u p o k;generalize v:l.length=m at*;have L:=qQ v;clear v;go_enter func108,ntmps108;go_wp2_with fail;refine s.out.mono ?_;rintro e C⟨rfl,a⟩;obtain⟨c0,c1,c2,M⟩:=I.out C a;have H:=qQ (j.out C a);have q:=qQ (jV.qn a J.out);clear a c0 c1 c2 j;go_wp2_with fail;refine H.out.mono ?_;rintro e N⟨A,c,rfl,y,z,B⟩;have i:=qQ (qU y (qU z B));clear y z B;go_wp2;go_ret2;exact⟨A,c,rfl,i.out.1.down q.out.size,i.out.2.1,q.out.trans i.out.2.2⟩
theorem Pm(h:DS At w0 gd D E w)(m:yC w gt gd n l t G)(hG:∀b∈G,b∈E)(ok:WfP D)(hc:D.count<=1099511627776)(V:(Lit.int .i64 n).wf=true)(P:D.down=false)(B:vO D n l)(hk:bf t l=true)(hl:l.length<=40000)
  (x:Nat) (hx:x<18446744073709551616) (a b:Int) (wa:(Lit.int .i64 a).wf=true) (wb:(Lit.int .i64 b).wf=true):
  Calls prog 140 #[ptr gt,.int .u64 (x:Nat),.int .i64 a,.int .i64 b] w fun e w'=>∃k,k<=1/\(mz l t x=false->k=0)/\mj At w0 gd (kZ l x a (min b 1073741824)) 0 { D with count:=D.count+k } E w e w':=by
 obtain⟨o,T,ab⟩:=B.props;have ba:=bounds_i64 wa;have bb:=bounds_i64 wb;obtain⟨d,O⟩:∃d,min b 1073741824=d:=⟨_,rfl⟩
 have i1:(if (1073741824:Int)<b then 1073741824 else b)=d:=by rw[<-O];split<;>omega
 have i2:IntKind.i64.wrap (d+1)=d+1:=IntWalk.i64_in _ ⟨by omega,by omega⟩;rw[O];have af:=qQ h.lt;have z:=qQ (UR api nap h m ok V);rw[B.ready P]at z;have r:=qQ fun W (f:Below w.heap.size w W)=>Pg (m.below f) x hx
 have p:Hid (∀w':World,Below w.heap.size w w'->kZ l x a d=[]->∃k,k<=1/\(mz l t x=false->k=0)/\mj At w0 gd (kZ l x a d) 0 { D with count:=D.count+k } E w (.returned (.tuple #[.slice none 0 0,.int .i64 0])) w'):=qQ fun w' C e=>by
  rw[e];exact⟨0,by omega,fun _=>rfl,none,0,rfl,jE.nil _ _,h.below api C,jV.qn C h.lt⟩
 cases H:mz l t x with
 | false =>
   rw[H]at r p;have Q:=(P9 hk H a d).1;rw[Q]at p ⊢;clear h m hG ok hc V P B hk hl hx wa wb o T ab ba bb O i2 Q H;go_enter func140,ntmps140;go_wp2_with fail;refine z.out.mono ?_;rintro e w1⟨rfl,i⟩;go_wp2_with fail;refine(r.out _ i).mono ?_;rintro e w2⟨rfl,j⟩;go_wp2;go_ret2;exact p.out _ (bj i j) (by first | rfl | trivial)
 | true =>
   rw[H]at r p;obtain⟨lo,h1,s⟩:=UM o (by omega) ⟨x,a,0⟩;obtain⟨l2,hi,I⟩:=UM o (by omega) ⟨x,d+1,0⟩;have J:=s.jQ;have u:=I.zc;rw[UH T]at J u;rw[P6]at u;have a3:=s.top;have a4:=I.top;have a5:=s.zc;rw[UH T]at a5;have Z:=qQ fun W (f:Below w.heap.size w W)=>US (m.below f) (by omega) x a s
   have aa:=qQ fun W (f:Below w.heap.size w W)=>US (m.below f) (by omega) x (d+1) I
   by_cases ae:lo<hi
   ·have ad:=qQ fun W (f:Below w.heap.size w W)=>U3 api nap (h.below api f) (m.below f) hG ok hc V P B lo hi (by omega) a4 hl
    have f:=UI (lo:=lo) (hi:=hi) o J u;have ah:((l.drop lo).take (hi-lo)).length=hi-lo:=(by rw[qS,List.length_drop];omega);have ac:=qQ fun(v:Value) W (hv:ju W v ((l.drop lo).take (hi-lo)))=>UK v _ x a d W hv (by omega) (fun y hy=>ab y (PT hy)) (PS o _ _)
    rw[f]at ac;have t1:decide ((hi:Int)<=(lo:Int))=false:=qW (by omega);have t2:¬(hi:Int)<=(lo:Int):=(by omega);generalize kZ l x a d=R at*;generalize (l.drop lo).take (hi-lo)=S at*;clear h m hG ok hc V P B hk hl hx wa wb o T ab ba bb O H s I J u a3 a4 a5 p f ah ae;go_enter func140,ntmps140;go_wp2_with fail;refine z.out.mono ?_;rintro e w1⟨rfl,i⟩;go_wp2_with fail;refine(r.out _ i).mono ?_;rintro e w2⟨rfl,K⟩;have j:=bj i K;clear K i z r;go_wp2_with fail;refine(Z.out _ j).mono ?_;rintro e w3⟨rfl,L⟩;have q:=bj j L;clear L j Z;go_wp2_with fail;refine(aa.out _ q).mono ?_;rintro e w4⟨rfl,N⟩;have M:=bj q N;clear N q aa;go_wp2_with fail;refine(ad.out _ M).mono ?_;rintro e w5⟨A,c,rfl,U,r2,r3⟩;have X:=qQ (qU r2 ((jV.qn M af.out).trans r3));have ag:=qQ (ac.out _ _ U.xQ);clear U r2 r3 M ad ac;go_wp2_with fail;refine ag.out.mono ?_;rintro e w6⟨A2,c2,rfl,U,b6⟩;have Y:=qQ (qU U b6);clear U b6;go_wp2;go_ret2;exact⟨1,qK _,fun e=>by simp at e,A2,c2,rfl,Y.out.1.down X.out.2.size,(X.out.1.less (fun b C=>qJ _ C)).more api Y.out.2 (fi Y.out.1),X.out.2.trans (jV.qn Y.out.2 (fun b C=>X.out.1.lt b (qJ _ C)))⟩
   ·have Q:=P7 (b:=d) o J u (by omega);have t1:decide ((hi:Int)<=(lo:Int))=true:=qA (by omega);have t2:(hi:Int)<=(lo:Int):=(by omega);rw[Q]at p ⊢;clear h m hG ok hc V P B hk hl hx wa wb o T ab ba bb O H s I J u a3 a4 a5 Q ae;go_enter func140,ntmps140;go_wp2_with fail;refine z.out.mono ?_;rintro e w1⟨rfl,i⟩;go_wp2_with fail;refine(r.out _ i).mono ?_;rintro e w2⟨rfl,K⟩;have j:=bj i K;clear K i z r;go_wp2_with fail;refine(Z.out _ j).mono ?_;rintro e w3⟨rfl,L⟩;have q:=bj j L;clear L j Z;go_wp2_with fail;refine(aa.out _ q).mono ?_;rintro e w4⟨rfl,N⟩;have M:=bj q N;clear N q aa;go_wp2;go_ret2;exact p.out _ M (by first | rfl | trivial)
end
end
section
open Go.RowKit
theorem Pn{l:List jJ}{x y:jJ}(h:y∈l):y∈jt l x:=by
 unfold jt;split
 ·exact h
 ·rw[<-ql (kD l x) l]at h;rcases qB.1 h with h|h
  ·exact qG _ (qG _ h)
  ·exact qJ _ h
theorem Pp(l:List jJ)(x:jJ):x∈jt l x:=by
 unfold jt;split
 ·rename_i h;exact qM h
 ·exact qG _ (qJ _ (qH.2 rfl))
theorem Z9{l:List jJ}{x y:jJ}:y∈jt l x↔y∈l∨y=x :=
 ⟨pt,fun h=>by
  rcases h with h|rfl
  ·exact Pn h
  ·exact Pp l y⟩
theorem U4{l:List jJ}(a:jh l){x:jJ}(h:x∈l):l[kD l x]? = some x:=by
 rcases Decidable.em (l[kD l x]? = some x) with c|c
 ·exact c
 ·rw[<-ql (kD l x) l]at h;rcases qB.1 h with h|h
  ·have:=ZG l x x h;rw[l9]at this;cases this
  ·have:=Yk a c x h;rw[l9]at this;cases this
theorem Pr{l:List jJ}(a:jh l){x:jJ}:l[kD l x]? = some x↔x∈l:=⟨qM,U4 a⟩
theorem Ps{l:List jJ}(a:jh l){x:jJ}(h:x∈l):jt l x=l:=by unfold jt;rw[qV (U4 a h)]
theorem Pt{l:List jJ}{x:jJ}(h:x ∉ l):jt l x=l.take (kD l x)++([x]++l.drop (kD l x)):=by
 unfold jt;rw[qZ (fun k=>h (qM k)),qb]
theorem Pa{l:List jJ}(m:jh l){x y:jJ}{i:Nat}(h:l[i]? = some y):(!jT y x)=decide (kD l x<=i):=by
 by_cases c:kD l x<=i
 ·rw[qA c];cases d:jT y x with
  | false=>rfl
  | true =>
    exfalso;have b:=(qP.1 h).1;have f:kD l x<l.length:=(by omega);have a:(!jT l[kD l x] x)=true:=List.findIdx_getElem (p:=fun y=>!jT y x) (xs:=l) (w:=f);rw[Bool.not_eq_true']at a;rcases Nat.lt_or_ge (kD l x) i with k|k
    ·have:=List.pairwise_iff_getElem.1 m (kD l x) i f b k;rw[qC b]at h;rw[qg h]at this;rw[fv this d]at a;cases a
    ·have e:i=kD l x:=(by omega);subst e;rw[qC b]at h;rw[qg h,d]at a;cases a
 ·rw[qW c];have j:y∈l.take (kD l x):=qM (i:=i) (by rw[List.getElem?_take,qV (by omega)];exact h);rw[ZG l x y j];rfl
theorem U5: ∀ {a b:List jJ},jh a->jh b->(∀y,y∈a↔y∈b)->a=b
 | [],[],_,_,_=>rfl
 | [],y::b,_,_,h=>absurd ((h y).2 qD) (by simp)
 | x::a,[],_,_,h=>absurd ((h x).1 qD) (by simp)
 | x::a,y::b,ha,hb,h=>by
   obtain⟨d,m⟩:=List.pairwise_cons.1 ha;obtain⟨f,o⟩:=List.pairwise_cons.1 hb
   have e:x=y:=by
    rcases qL.1 ((h x).1 qD) with k|k
    ·exact k
    ·rcases qL.1 ((h y).2 qD) with j|j
     ·exact j.symm
     ·have i:=OC (f x k);rw[d y j]at i;cases i
   subst e
   rw[U5 m o fun z=>⟨fun c=>by
    rcases qL.1 ((h z).1 (qE _ c)) with k|k
    ·subst k;have:=d z c;rw[l9]at this;cases this
    ·exact k,fun c=>by
    rcases qL.1 ((h z).2 (qE _ c)) with k|k
    ·subst k;have:=f z c;rw[l9]at this;cases this
    ·exact k⟩]
def fX(m:Option jJ):List jJ->Option jJ
 | []=>m
 | x::_=>match m with
   | none=>some x
   | some y=>if jT x y=true then some x else some y
def yR(L:List (List jJ)):Option jJ:=L.foldl fX none
def yS(e:jJ)(l:List jJ):List jJ:=l.dropWhile (fun x=>decide (x=e))
def bh(a:List jJ)(e:jJ):List jJ:=if a.getLast? = some e then a else a++[e]
def kv(L:List (List jJ)):Nat:=(L.map List.length).sum
def yu: Nat->List jJ->List (List jJ)->List jJ
 | 0,a,_=>a
 | n+1,a,L=>match yR L with
   | none=>a
   | some e=>yu n (bh a e) (L.map (yS e))
def mrg(a:List jJ)(L:List (List jJ)):List jJ:=yu (kv L) a L
def dH(L:List (List jJ)):List jJ:=mrg [] L
theorem Zq{L:List (List jJ)}{i:Nat}{l:List jJ}(h:L[i]? = some l):yR (L.take (i+1))=fX (yR (L.take i)) l:=by
 unfold yR;rw[List.take_add_one,h,List.foldl_append];rfl
theorem Zx: ∀(L:List (List jJ)) (m:Option jJ),L.foldl fX m=none↔m=none/\∀l∈L,l=[]
 | [],m=>by simp
 | []::L,m=>by
   rw[List.foldl_cons,Zx L];simp[fX]
 | (x::t)::L,m=>by
   rw[List.foldl_cons,Zx L];constructor
   ·rintro ⟨h,_⟩;cases m with
    | none=>cases h
    | some y =>
      simp only[fX]at h;split at h<;>cases h
   ·rintro ⟨_,h⟩;have:=h (x::t) qD;cases this
theorem tS{L:List (List jJ)}:yR L=none↔∀l∈L,l=[]:=by
 unfold yR;rw[Zx];simp
theorem Pe{x y e:jJ}(h:jT x y=false)(k:jT y e=false):jT x e=false:=by
 cases c:jT x e with
 | false=>rfl
 | true =>
   by_cases a:y=e
   ·subst a;rw[c]at h;cases h
   ·have:=fv c (ZK k a);rw[this]at h;cases h
theorem tT: ∀(L:List (List jJ)) (m:Option jJ) (e:jJ),L.foldl fX m=some e ->
  (m=some e∨∃l∈L,∃t,l=e::t)/\(∀y,m=some y->jT y e=false)/\∀l∈L,∀x t,l=x::t->jT x e=false
 | [],m,e,h=>by
   have s:m=some e:=h;subst s;exact⟨qX rfl,fun y r=>by cases r;exact l9 _,fun l b=>by cases b⟩
 | []::L,m,e,h=>by
   rw[List.foldl_cons]at h;obtain⟨a,f,o⟩:=tT L m e h;refine⟨?_,f,fun l b x t j=>?_⟩
   ·rcases a with a|⟨l,b,t,q⟩
    ·exact qX a
    ·exact qY ⟨l,qE _ b,t,q⟩
   ·rcases qL.1 b with rfl|b
    ·cases j
    ·exact o l b x t j
 | (x::t)::L,m,e,h=>by
   rw[List.foldl_cons]at h;obtain⟨a,f,o⟩:=tT L _ e h
   have j:jT x e=false/\(∀y,m=some y->jT y e=false)/\(m=some e∨∃l∈(x::t)::L,∃t,l=e::t):=by
    have k:(∃l∈L,∃t,l=e::t)->∃l∈(x::t)::L,∃t,l=e::t:=fun⟨l,b,v,q⟩=>⟨l,qE _ b,v,q⟩
    cases m with
    | none =>
      refine⟨f x rfl,fun y r=>(by cases r), ?_⟩;rcases a with a|a
      ·have:x=e:=qg a;subst this;exact qY ⟨_,qD,t,rfl⟩
      ·exact qY (k a)
    | some y =>
      cases c:jT x y with
      | true =>
        have p:fX (some y) (x::t)=some x:=(by unfold fX;simp only;rw[qV c]);rw[p]at a f;refine⟨f x rfl,fun z i=>?_, ?_⟩
        ·cases i;cases d:jT y e with
         | false=>rfl
         | true=>have:=fv c d;rw[f x rfl]at this;cases this
        ·rcases a with a|a
         ·have:x=e:=qg a;subst this;exact qY ⟨_,qD,t,rfl⟩
         ·exact qY (k a)
      | false =>
        have p:fX (some y) (x::t)=some y:=(by unfold fX;simp only;rw[qZ (by rw[c];decide)]);rw[p]at a f;refine⟨Pe c (f y rfl),fun z i=>by cases i;exact f y rfl, ?_⟩;rcases a with a|a
        ·exact qX a
        ·exact qY (k a)
   refine⟨j.2.2,j.2.1,fun l b z u i=>?_⟩;rcases qL.1 b with rfl|b
   ·injection i with i;rw[<-i];exact j.1
   ·exact o l b z u i
theorem lj{L:List (List jJ)}{e:jJ}(h:yR L=some e):∃l∈L,∃t,l=e::t:=by
 rcases(tT L none e h).1 with h|h
 ·cases h
 ·exact h
theorem Pi{L:List (List jJ)}{e:jJ}(h:yR L=some e):∀l∈L,∀x t,l=x::t->jT x e=false:=(tT L none e h).2.2
theorem Zz(e:jJ)(l:List jJ):(yS e l).length<=l.length:=(List.dropWhile_sublist _).length_le
theorem tq(e:jJ)(t:List jJ):yS e (e::t)=yS e t:=by unfold yS;rw[List.dropWhile_cons,qV (by simp)]
theorem Zj{e x:jJ}(h:x≠e)(t:List jJ):yS e (x::t)=x::t:=by unfold yS;rw[List.dropWhile_cons,qZ (by simpa using h)]
theorem gO(l:List jJ)(L:List (List jJ)):kv (l::L)=l.length+kv L:=by unfold kv;simp
theorem U6(e:jJ):∀L:List (List jJ),kv (L.map (yS e))<=kv L
 | []=>qK _
 | l::L=>by
   rw[List.map_cons,gO,gO];have:=U6 e L;have:=Zz e l;omega
theorem rK(e:jJ):∀L:List (List jJ),(∃l∈L,∃t,l=e::t)->kv (L.map (yS e))<kv L
 | [],h=>by obtain⟨l,b,_⟩:=h;cases b
 | l::L,⟨m,a,t,ht⟩=>by
   rw[List.map_cons,gO,gO];have c:=U6 e L;have d:=Zz e l;rcases qL.1 a with rfl|a
   ·subst ht;have f:=Zz e t;rw[tq,qk];omega
   ·have:=rK e L ⟨m,a,t,ht⟩;omega
theorem Zk{L:List (List jJ)}(h:kv L=0):yR L=none:=by
 rw[tS]
 induction L with
 | nil=>intro l b;cases b
 | cons a L c =>
   rw[gO]at h;intro l b;rcases qL.1 b with rfl|b
   ·exact List.length_eq_zero_iff.1 (by omega)
   ·exact c (by omega) l b
theorem U7: ∀(n m:Nat) (a:List jJ) (L:List (List jJ)),kv L<=n->kv L<=m->yu n a L=yu m a L
 | 0,0,a,L,_,_=>rfl
 | 0,m+1,a,L,h,_=>by
   have:=Zk (L:=L) (by omega);rw[yu,yu,this]
 | n+1,0,a,L,_,h=>by
   have:=Zk (L:=L) (by omega);rw[yu,yu,this]
 | n+1,m+1,a,L,h1,h2=>by
   rw[yu,yu];cases c:yR L with
   | none=>rfl
   | some e =>
     have:=rK e L (lj c);exact U7 n m _ _ (by omega) (by omega)
theorem Po{a:List jJ}{L:List (List jJ)}(h:yR L=none):mrg a L=a:=by
 unfold mrg;cases kv L with
 | zero=>rfl
 | succ n=>rw[yu,h]
theorem Pw{a:List jJ}{L:List (List jJ)}{e:jJ}(h:yR L=some e):mrg a L=mrg (bh a e) (L.map (yS e)):=by
 have c:=rK e L (lj h);unfold mrg;obtain⟨n,b⟩:∃n,kv L=n+1:=⟨kv L-1,by omega⟩
 rw[b,yu,h];exact U7 _ _ _ _ (by omega) (qK _)
theorem RQ(a:List jJ)(e:jJ):a.length<=(bh a e).length/\(bh a e).length<=a.length+1:=by
 unfold bh;split
 ·omega
 ·rw[qI,List.length_singleton];omega
theorem Zv: ∀(n:Nat) (a:List jJ) (L:List (List jJ)),kv L<=n->a.length<=(yu n a L).length/\(yu n a L).length<=a.length+kv L
 | 0,a,L,_=>⟨qK _,by rw[yu];omega⟩
 | n+1,a,L,h=>by
   rw[yu];cases c:yR L with
   | none=>exact⟨qK _,by simp only;omega⟩
   | some e =>
     have h1:=rK e L (lj c);have b:=RQ a e;have d:=Zv n (bh a e) (L.map (yS e)) (by omega);exact⟨by simp only;omega,by simp only;omega⟩
theorem RX(a:List jJ)(L:List (List jJ)):a.length<=(mrg a L).length:=(Zv _ a L (qK _)).1
theorem U8(L:List (List jJ)):(dH L).length<=kv L:=by
 have:=(Zv _ [] L (qK _)).2;rw[List.length_nil,Nat.zero_add]at this;exact this
def rV(a:List jJ)(L:List (List jJ)):List (List jJ):=match a.getLast? with
 | none=>L
 | some e=>L.map (yS e)
def cr(a:List jJ)(L:List (List jJ)):List jJ:=mrg a (rV a L)
theorem U9{a:List jJ}{L:List (List jJ)}(c:∀l∈L,∀x t,l=x::t->a.getLast?≠some x):rV a L=L:=by
 unfold rV;cases h:a.getLast? with
 | none=>rfl
 | some e =>
   show L.map (yS e)=L
   have:∀l∈L,yS e l=l:=fun l b=>by
    cases l with
    | nil=>rfl
    | cons x t=>exact Zj (fun d=>c _ b x t rfl (by rw[h,d])) t
   rw[List.map_congr_left this];exact List.map_id' L
theorem RZ{a:List jJ}{L:List (List jJ)}{i:Nat}{e:jJ}{t:List jJ}(c:a.getLast? = some e)(h:L[i]? = some (e::t)):cr a (L.set i t)=cr a L:=by
 unfold cr rV;rw[c];show mrg a ((L.set i t).map (yS e))=mrg a (L.map (yS e));congr 1;apply List.ext_getElem?;intro j;rw[qu,qu,List.getElem?_set];by_cases b:i=j
 ·subst b;have d:=(qP.1 h).1;rw[qV rfl,qV d,h];show some (yS e t)=some (yS e (e::t));rw[tq]
 ·rw[qZ b]
theorem RJ{a:List jJ}{L:List (List jJ)}{e:jJ}(h:yR L=some e)(b:∀l∈L,∀x t,l=x::t->a.getLast?≠some x):cr (a++[e]) L=cr a L:=by
 have c:a.getLast?≠some e:=by
  obtain⟨l,d,t,f⟩:=lj h;exact b l d e t f
 unfold cr;rw[U9 b,Pw h];unfold bh rV;rw[qZ c,List.getLast?_append,List.getLast?_singleton];rfl
theorem RK{a:List jJ}{L:List (List jJ)}(h:yR L=none):cr a L=a:=by
 unfold cr;rw[U9 (fun l c x t b=>by have:=tS.1 h l c;rw[this]at b;cases b),Po h]
theorem RV(a:List jJ)(L:List (List jJ)):a.length<=(cr a L).length:=RX _ _
theorem Uq: ∀ {L:List (List jJ)} {i:Nat} {e:jJ} {t:List jJ},L[i]? = some (e::t)->kv (L.set i t)+1=kv L
 | [],i,e,t,h=>by simp at h
 | l::L,0,e,t,h=>by
   obtain rfl:l=e::t:=(by simpa using h);rw[List.set_cons_zero,gO,gO,qk];omega
 | l::L,i+1,e,t,h=>by
   have:=Uq (L:=L) (i:=i) (e:=e) (t:=t) (by simpa using h);rw[List.set_cons_succ,gO,gO];omega
def lk(k:Nat)(a:List jJ)(L:List (List jJ)):Prop:=2*kv L+1<=k∨(2*kv L<=k/\∃l∈L,∃e t,l=e::t/\a.getLast? = some e)
theorem RY(L:List (List jJ)):lk (2*kv L+1) [] L:=qX (qK _)
theorem RU{k:Nat}{a:List jJ}{L:List (List jJ)}{i:Nat}{e:jJ}{t:List jJ}(b:lk k a L)(h:L[i]? = some (e::t)):0<k/\lk (k-1) a (L.set i t):=by
 have c:=Uq h;have d:2*kv L<=k:=by rcases b with h | h;omega;exact h.1
 exact⟨by omega,qX (by omega)⟩
theorem RG{k:Nat}{a:List jJ}{L:List (List jJ)}{e:jJ}(i:lk k a L)(h:yR L=some e)(j:∀l∈L,∀x t,l=x::t->a.getLast?≠some x):0<k/\lk (k-1) (a++[e]) L:=by
 have m:2*kv L+1<=k:=by
  rcases i with h|⟨_,l,b,d,t,c,f⟩
  ·exact h
  ·exact absurd f (j l b d t c)
 obtain⟨l,b,t,c⟩:=lj h;exact⟨by omega,qY ⟨by omega,l,b,e,t,c,by rw[List.getLast?_append,List.getLast?_singleton];rfl⟩⟩
theorem RW{a:List jJ}{e x:jJ}:x∈bh a e↔x∈a∨x=e:=by
 unfold bh;split
 ·rename_i h;constructor
  ·exact qX
  ·rintro (b | rfl)
   ·exact b
   ·exact List.mem_of_getLast? h
 ·simp
theorem Zy{e x:jJ}{l:List jJ}(h:x∈yS e l):x∈l:=(List.dropWhile_sublist _).subset h
theorem Ux(e:jJ){x:jJ}:∀ {l:List jJ},x∈l->x=e∨x∈yS e l
 | [],h=>by cases h
 | y::l,h=>by
   by_cases hy:y=e
   ·subst hy;rw[tq];rcases qL.1 h with rfl|h
    ·exact qX rfl
    ·exact Ux y h
   ·rw[Zj hy];exact qY h
theorem Uz: ∀(n:Nat) (a:List jJ) (L:List (List jJ)) (x:jJ),kv L<=n->(x∈yu n a L↔x∈a∨∃l∈L,x∈l)
 | 0,a,L,x,h=>by
   have:=tS.1 (Zk (L:=L) (by omega));rw[yu];constructor
   ·exact qX
   ·rintro (h|⟨l,b,d⟩)
    ·exact h
    ·rw[this l b]at d;cases d
 | n+1,a,L,x,h=>by
   rw[yu];cases c:yR L with
   | none =>
     have:=tS.1 c;constructor
     ·exact qX
     ·rintro (h|⟨l,b,d⟩)
      ·exact h
      ·rw[this l b]at d;cases d
   | some e =>
     have i:=rK e L (lj c);show x∈yu n (bh a e) (L.map (yS e))↔_;rw[Uz n (bh a e) (L.map (yS e)) x (by omega),RW];constructor
     ·rintro ((h|rfl)|⟨l,b,d⟩)
      ·exact qX h
      ·obtain⟨l,b,t,rfl⟩:=lj c;exact qY ⟨_,b,qD⟩
      ·obtain⟨m,f,rfl⟩:=qN.1 b;exact qY ⟨m,f,Zy d⟩
     ·rintro (h|⟨l,b,d⟩)
      ·exact qX (qX h)
      ·rcases Ux e d with h|h
       ·exact qX (qY h)
       ·exact qY ⟨_,List.mem_map_of_mem b,h⟩
theorem Uj{L:List (List jJ)}{x:jJ}:x∈dH L↔∃l∈L,x∈l:=by
 unfold dH mrg;rw[Uz _ _ _ _ (qK _)];simp
theorem RA{a:List jJ}{e:jJ}(b:jh a)(h:∀x∈a,jT x e=true):jh (a++[e]) :=
 List.pairwise_append.2 ⟨b,List.pairwise_singleton _ _,fun x c y d=>by rw[qH.1 d];exact h x c⟩
theorem RB{e:jJ}{l:List jJ}(f:jh l)(d:∀x t,l=x::t->jT x e=false):∀y∈yS e l,jT e y=true:=by
 cases l with
 | nil=>intro y a;cases a
 | cons x t =>
   obtain⟨c,i⟩:=List.pairwise_cons.1 f;by_cases b:x=e
   ·subst b;rw[tq];intro y a;exact c y (Zy a)
   ·rw[Zj b];have:=ZK (d x t rfl) b;intro y a;rcases qL.1 a with rfl|a
    ·exact this
    ·exact fv this (c y a)
theorem Uk: ∀(n:Nat) (a:List jJ) (L:List (List jJ)),jh a->(∀l∈L,jh l)->(∀x∈a,∀l∈L,∀y∈l,jT x y=true)->jh (yu n a L)
 | 0,a,L,h,_,_=>h
 | n+1,a,L,ha,hL,hal=>by
   rw[yu];cases c:yR L with
   | none=>exact ha
   | some e =>
     obtain⟨l,j,t,q⟩:=lj c;have i:e∈l:=by rw[q];exact qD
     have p:bh a e=a++[e]:=by
      unfold bh;rw[qZ];intro h;have:=hal e (List.mem_of_getLast? h) l j e i;rw[l9]at this;cases this
     show jh (yu n (bh a e) (L.map (yS e)));rw[p];refine Uk n _ _ (RA ha fun x b=>hal x b l j e i) (fun m f=>?_) (fun x b m f y o=>?_)
     ·obtain⟨k,d,rfl⟩:=qN.1 f;exact List.Pairwise.sublist (List.dropWhile_sublist _) (hL k d)
     ·obtain⟨k,d,rfl⟩:=qN.1 f;rcases qB.1 b with b|b
      ·exact hal x b k d y (Zy o)
      ·rw[qH.1 b];exact RB (hL k d) (fun z u r=>Pi c k d z u r) y o
theorem Uv{L:List (List jJ)}(h:∀l∈L,jh l):jh (dH L):=Uk _ _ _ List.Pairwise.nil h (fun x a=>by cases a)
end
section
open Go.RowKit Go.Shelf
abbrev mtp(g:Nat):Value:=.pointer (some ⟨g,0,none⟩)
def vZ(w:World)(base g:Nat)(F:List Nat)(l:List jJ):Prop :=
 ∃v,jY w g 161 #[mtp g,v]/\jE w base v l/\(∀k,v.ownBlock=some k->k∈F)/\g∈F/\(∀x∈F,base<=x/\x<w.heap.size)/\jh l/\∀x∈l,kI x
def bl(base g:Nat)(F:List Nat)(w:World)(r:Value)(l:List jJ)(e:Ending)(w':World):Prop :=
 ∃a,e = .returned r/\vZ w' base g a l/\(∀x∈a,x∈F∨w.heap.size<=x)/\jG F w w'
section
variable {w w':World}{base g:Nat}{F G:List Nat}{l:List jJ}
theorem vZ.qe(h:vZ w base g F l)(a:jG G w w')(i:∀x∈F,x ∉ G):vZ w' base g F l:=by
 obtain⟨v,k,m,c,d,f,o,p⟩:=h;exact⟨v,k.qe a (i g d),lC m a (fun b q=>i b (c b q)),c,d,fun x j=>⟨(f x j).1,qR (f x j).2 a.size⟩,o,p⟩
theorem vZ.below(h:vZ w base g F l)(a:Below w.heap.size w w'):vZ w' base g F l:=h.qe (jG.qn a) (fun _ _=>by simp)
theorem vZ.drewN(h:vZ w base g F l)(n:Nat):vZ (w.drewN n) base g F l:=h.qe ((jG.refl [] w).drewN n) (fun _ _=>by simp)
theorem vZ.shape(h:vZ w base g F l):∃A c,w.cell? ⟨g,0,none⟩=some (mtp g)/\w.cell? ⟨g,1,none⟩=some (.slice A l.length c)/\w.frozen? ⟨g,1,none⟩=false/\jE w base (.slice A l.length c) l/\g<w.heap.size:=by
 obtain⟨v,a,b,d,f,i,j,k⟩:=h;obtain⟨A,c,rfl,-⟩:=yw b;exact⟨A,c,a.cell 0,a.cell 1,a.frozen 1,b,a.lt⟩
end
theorem Uy: (prog.info? 161).map (·.size)=some 2:=by kernel_rfl
theorem RC(d:Nat)(p:Addr)(w:World):(Op.equalIn (d+1) 87 (.pointer (some p)) (.pointer (some p))).run prog w = .ok true w:=by
 cases a:prog.info? 161 with
 | none=>have:=Uy;rw[a]at this;cases this
 | some i =>
   have b:i.size=2:=(by have:=Uy;rw[a]at this;simpa using this);simp[Op.equalIn,run_underlying Tryz.underlying87,sizeOf,typeInfo,a,sameAddr]
theorem RD(p:Addr)(w:World):(binOp .neq 87 (.pointer (some p)) (.pointer (some p))).run prog w = .ok (.bool false) w:=by
 have a:(Op.equal 87 (.pointer (some p)) (.pointer (some p))).run prog w = .ok true w:=RC 9999 p w;simp only[binOp];simp[a]
theorem Zu{w:World}{g:Nat}(h:w.cell? ⟨g,0,none⟩=some (mtp g)):Calls prog 103 #[mtp g] w fun e w'=>e = .returned (.bool false)/\w=w':=by
 have a:=RD ⟨g,0,none⟩;go_enter func103,ntmps103;go_wp2;go_ret;exact⟨rfl,rfl⟩
theorem Uu{w:World}{g n c:Nat}{A:Option Addr}(h:w.cell? ⟨g,0,none⟩=some (mtp g))(b:w.cell? ⟨g,1,none⟩=some (.slice A n c)):Calls prog 93 #[mtp g] w fun e w'=>e = .returned (.slice A n c)/\w=w':=by
 have a:=qQ (Zu h);go_enter func93,ntmps93;go_wp2_with fail;refine a.out.mono ?_;rintro e w'⟨rfl,rfl⟩;go_wp2;go_ret;exact⟨rfl,rfl⟩
theorem Zg{w:World}{g base:Nat}{F:List Nat}{l:List jJ}(h:vZ w base g F l):Calls prog 35 #[mtp g] w fun e w'=>e = .returned (.int .i64 (l.length:Nat))/\w=w':=by
 obtain⟨A,c,c0,c1,-,-,-⟩:=h.shape;have a:=qQ (Uu c0 c1);clear h c0 c1;generalize l.length=n at*;go_enter func35,ntmps35;go_wp2_with fail;refine a.out.mono ?_;rintro e w'⟨rfl,rfl⟩;go_wp2;go_ret;exact⟨rfl,rfl⟩
def RE(w:World)(e:Ending)(w':World):Prop:=e = .returned (mtp w.heap.size)/\vZ w' w.heap.size w.heap.size [w.heap.size] []/\Below w.heap.size w w'/\w.heap.size<w'.heap.size
theorem RF(w:World):Calls prog 154 #[] w (RE w):=by
 go_enter func154,ntmps154;go_wp2;go_ret;have a:jY (w.alloc (.cells #[mtp w.heap.size,.slice none 0 0] 161)) w.heap.size 161 #[mtp w.heap.size,.slice none 0 0]:=jY.new _ _ _;have c:=(Below.refl w.heap.size w).alloc (qK _) (.cells #[mtp w.heap.size,.slice none 0 0] 161);exact⟨rfl,⟨.slice none 0 0,a,jE.nil _ _,fun k d=>(by cases d),by simp,fun x b=>by obtain rfl:=qH.1 b;exact⟨qK _,a.lt⟩,List.Pairwise.nil,fun x b=>by cases b⟩,c,a.lt⟩
theorem RH{w:World}{g base:Nat}{F:List Nat}{l:List jJ}(h:vZ w base g F l):Calls prog 41 #[mtp g] w (bl base g F w (.tuple #[]) []):=by
 have i:=qQ h;obtain⟨A,c,c0,c1,q,-,-⟩:=h.shape;have o:=qQ (Zu c0);clear h;go_enter func41,ntmps41;go_wp2_with fail;refine o.out.mono ?_;rintro e w'⟨rfl,rfl⟩;go_wp2;go_end0;obtain⟨v,j,r,s,b,d,u,y⟩:=i.out;have f:=j.put 1 (.slice none 0 0);exact⟨F,rfl,⟨.slice none 0 0,f,jE.nil _ _,fun k m=>(by cases m),b,fun x a=>⟨(d x a).1,by simpa[World.setCell] using (d x a).2⟩,List.Pairwise.nil,fun x a=>by cases a⟩,fun x a=>qX a,(jG.refl F w).setCell (p:=⟨g,1,none⟩) (qX b) _⟩
end
section
open Go.RowKit Go.Shelf
theorem RI{w:World}(a:Addr)(k:Value)(m:List jJ)(B:ju w k m)(z:m≠[])(H:m.length<=1000000)(d:TypeId):
  (Builtin.append_ #[37,37] d #[.slice (some a) 0 0,k]).run prog w=(Builtin.append_ #[37,37] d #[.slice none 0 0,k]).run prog w:=by
 have A:0<m.length:=List.length_pos_iff.2 z;obtain⟨i,o,q,r,s⟩:=info_parts ZL;obtain⟨p,C⟩:=B.src;rcases C with⟨c,rfl,f⟩|⟨b,c,rfl,f⟩
 ·omega
 ·have u:=run_append_grow (P:=prog) w 37 d 63 i _ Tryz.underlying37 o q a 0 0 [] (by simp) (fun j v h=>by simp at h) b m.length c (yB m) (by rw[r];exact p) f (by omega) (by omega) (growslice_fits (by omega) (by rw[s];omega));have y:=run_append_nil (P:=prog) w 37 d 63 i _ Tryz.underlying37 o q b m.length c (yB m) (by rw[r];exact p) f A (by omega) (by rw[s];omega);rw[u,y];simp
theorem RL{w:World}{base:Nat}{f:Value}{m:List jJ}(A:Option Addr)(j:ju w f m)(k:m≠[])(i:m.length<=1000000)(o:base<=w.heap.size)(d:TypeId):
  ∃b c w',(Builtin.append_ #[37,37] d #[.slice A 0 0,f]).run prog w = .ok (.slice b m.length c) w'/\jE w' base (.slice b m.length c) m/\w.grownBy w' none/\((Value.slice b m.length c).ownBlock=none∨(Value.slice b m.length c).ownBlock=some w.heap.size):=by
 have h:=oU (jE.nil w base) j (by simpa using i) o d;simp only[List.length_nil,Nat.zero_add,List.nil_append]at h;cases A with
 | none=>exact h
 | some a =>
   rw[RI a f m j k i d];exact h
theorem RM{C:Array Oper}{o:Oper}{a:Act}{w:World}{K:Act->World->Prop}{Q:Exit->Act->World->Prop}{E:Prop}{d:Value}{base:Nat}{A:Option Addr}{m:List jJ}(r:o.guard=none)(s x:Operand)
  (v:o.op = .call { callee:=.builtin .append,args:=#[s,x],argTypes:=#[37,37] }) (y:a.eval s = .slice A 0 0) (B:a.eval x=d)
  (z:ju w d m) (p:m≠[]) (u:m.length<=1000000) (q:base<=w.heap.size)
  (h:∀b w',jE w' base b m->w.grownBy w' none->(b.ownBlock=(Value.slice none 0 0).ownBlock∨b.ownBlock=some w.heap.size)->K (a.put o.dst b) w'):
  if Region.wanted o (yielded C a.tmps)=true then Oper.wp prog o a w K Q else E:=by
 obtain⟨H,c,w',f,i,j,k⟩:=RL A z p u q o.type;exact KY r s x _ v y B f (h _ w' i j k)
theorem RN{w:World}{base n c k:Nat}{A:Option Addr}{l:List jJ}(h:jE w base (.slice A n c) l)(i:n=l.length)(v:k<=n):jE w base (.slice A k c) (l.take k)/\sliced A 0 k c 3 = .slice A k c/\k<=c:=by
 subst i;have a:(l.take k).length=k:=by rw[qS];omega
 rcases h.2 with⟨d,u⟩|⟨g,s,b,d,m,o,i,p,q,r⟩
 ·obtain⟨rfl,-,rfl⟩:=Value.slice.inj d;obtain rfl:k=0:=by omega
  rw[List.take_zero];exact⟨jE.nil _ _,rfl,qK _⟩
 ·obtain⟨rfl,-,rfl⟩:=Value.slice.inj d;refine⟨⟨?_,qY ⟨g,c,b,by rw[a],m,o,by rw[a];omega,p,q, ?_⟩⟩, ?_,by omega⟩
  ·rw[oV]
  ·have e:yB l=yB (l.take k)++yB (l.drop k):=(by rw[<-Yt,ql]);rw[a];have j:b.toList.take (k*3)=(b.toList.take (l.length*3)).take (k*3):=(by rw[List.take_take];congr 1;omega);rw[j,r,e,List.take_left' (by rw[oV,a])]
  ·unfold sliced;by_cases f:c=0
   ·rw[qV f];simp
   ·rw[qZ f];simp[Addr.add]
theorem RO{n c k:Nat}{A:Option Addr}(b:k<=c)(W:World):(Instr.slice 37 (.slice A n c) (some (.int .i64 (k:Nat))) (some (.int .i64 (k:Nat))) (some (.int .i64 (k:Nat)))).run prog W = .ok (.slice A 0 0) W:=by
 have a:(sizeOf (prog.elem 37)).run prog W = .ok 3 W:=by simp[go_sem]
 rw[run_slice_lhm W _ _ _ c Tryz.underlying37 .i64 .i64 .i64 _ _ _ (by omega) (by omega) (by omega) (by omega),a];show Result.ok (sliced _ _ _ _ _) W=_;rw[qh];unfold sliced;rw[qV rfl,Nat.sub_self]
theorem RP{n c k:Nat}{A:Option Addr}(b:k<=c)(e:sliced A 0 k c 3 = .slice A k c)(W:World):(Instr.slice 37 (.slice A n c) none (some (.int .i64 (k:Nat))) none).run prog W = .ok (.slice A k c) W:=by
 have a:(sizeOf (prog.elem 37)).run prog W = .ok 3 W:=by simp[go_sem]
 rw[run_slice_h W _ _ _ c Tryz.underlying37 .i64 _ (by omega) (by omega),a];show Result.ok (sliced _ _ _ _ _) W=_;rw[qh,e]
theorem Zb: (63:TypeId)≠161:=by decide
theorem RS{w w1 j d:World}{base g n c:Nat}{F:List Nat}{A:Option Addr}{l m:List jJ}{x:jJ}{a:Value}(h:vZ w base g F l)(i:kI x)(M:jt l x=m)
  (U:jE w base (.slice A n c) l) (hF:∀k,(Value.slice A n c).ownBlock=some k->k∈F) (O:jG [] w w1) (H:Below w1.heap.size w1 j) (I:j.grownBy d (Value.slice A n c).ownBlock) (L:jE d base a m)
  (S:a.ownBlock=(Value.slice A n c).ownBlock∨a.ownBlock=some j.heap.size):bl base g F w (.tuple #[]) m (.returned (.tuple #[])) (d.setCell ⟨g,1,none⟩ a):=by
 obtain⟨v,C,W,X,r,o,Q,R⟩:=h;have P:jG F w j:=(O.trans (jG.qn H) (fun x i=>by cases i)).more (fun x i=>by cases i);have V:jG F w d:=P.grown I (fun k f=>qX (hF k f));have q:jG F w (d.setCell ⟨g,1,none⟩ a):=V.setCell (p:=⟨g,1,none⟩) (qX r) a;have T:(Value.slice A n c).ownBlock≠some g:=vR U C Zb;have u:jY j g 161 #[mtp g,v]:=C.qe (O.trans (jG.qn H) (fun x i=>by cases i)) (by simp);have z:jY d g 161 #[mtp g,v]:=(I.block g u.lt (fun e=>T e.symm)).trans u;have B:jY (d.setCell ⟨g,1,none⟩ a) g 161 #[mtp g,a]:=z.put 1 a;have s:jE (d.setCell ⟨g,1,none⟩ a) base a m:=yH L (vR L z Zb) a
 have K:∀y∈m,kI y:=fun y b=>by
  rw[<-M]at b;rcases pt b with k|k
  ·exact R y k
  ·rw[k];exact i
 have N:jh m:=by rw[<-M];exact ZW Q x
 have Y:(d.setCell ⟨g,1,none⟩ a).heap.size=d.heap.size:=by simp[World.setCell]
 rcases S with e|e
 ·exact⟨F,rfl,⟨a,B,s,fun k f=>hF k (by rw[<-e];exact f),r,fun y b=>⟨(o y b).1,qR (o y b).2 q.size⟩,N,K⟩,fun y b=>qX b,q⟩
 ·have J:=s.lt _ e;refine⟨j.heap.size::F,rfl,⟨a,B,s,fun k f=>?_,qE _ r,fun y b=>?_,N,K⟩,fun y b=>?_,q⟩
  ·rw[e]at f;injection f with f;rw[<-f];exact qD
  ·rcases qL.1 b with k|k
   ·rw[k];exact⟨J.1,J.2⟩
   ·exact⟨(o y k).1,qR (o y k).2 q.size⟩
  ·rcases qL.1 b with k|k
   ·rw[k];exact qY P.size
   ·exact qX k
theorem RT: Enters prog 136:=enters_of func136 (by kernel_rfl) rfl
def mv(W:World)(B1 B2 g b p:Nat)(v:Value)(x y:jJ):Prop:=W.cell? ⟨B1,0,none⟩=some (mtp g)/\W.cell? ⟨g,1,none⟩=some v /\
 W.cell? ⟨B2,0,none⟩=some (.int .u64 (x.h:Nat))/\W.cell? ⟨B2,1,none⟩=some (.int .i64 x.v)/\W.cell? ⟨B2,2,none⟩=some (.int .i64 x.p) /\
 W.cell? ⟨b,p,none⟩=some (.int .u64 (y.h:Nat))/\W.cell? ⟨b,p+1,none⟩=some (.int .i64 y.v)/\W.cell? ⟨b,p+2,none⟩=some (.int .i64 y.p)
theorem mv.below{W a:World}{B1 B2 g b p:Nat}{v:Value}{x y:jJ}(h:mv W B1 B2 g b p v x y)(s:Below W.heap.size W a):mv a B1 B2 g b p v x y:=by
 have q:∀ {p:Addr} {u:Value},W.cell? p=some u->a.cell? p=some u:=fun {p u} k=>(s.cell (p:=p) (World.block_lt_of_cell? W _ k)).trans k
 obtain⟨c,d,f,i,j,m,o,r⟩:=h;exact⟨q c,q d,q f,q i,q j,q m,q o,q r⟩
theorem R7(B1 B2 g b off n c i:Nat)(x y:jJ)(w:World)(hi:i<n)(L:n<=1000000)(j:mv w B1 B2 g b (off+i*3) (.slice (some ⟨b,off,none⟩) n c) x y):
  Calls prog 136 #[.int .i64 (i:Nat),mtp B1,mtp B2] w fun e w'=>e = .returned (.bool (!jT y x))/\Below w.heap.size w w':=by
 have a:Hid (∀W,Below w.heap.size w W->Below w.heap.size w W/\mv W B1 B2 g b (off+i*3) (.slice (some ⟨b,off,none⟩) n c) x y):=qQ fun W k=>⟨k,j.below k⟩
 have f:=fun W=>oK y x W
 have d:=a.out w (Below.refl _ _);have M:(i:Int)<(n:Int):=by omega
 have N:(n:Int)<=1000000:=by omega
 clear j;generalize jT y x=r at*;have m:=qQ f;clear f;obtain⟨s,v,u⟩:=x;obtain⟨z,B,A⟩:=y;unfold mv at a d;simp only at a d;obtain⟨-,c0,c1,c2,C,H,I,J,K⟩:=d;go_enter func136,ntmps136;go_wp2_with fail
 go_region_held3 (fun W=>Below w.heap.size w W/\W.cell? ⟨B1,0,none⟩=some (mtp g)/\W.cell? ⟨g,1,none⟩=some (.slice (some ⟨b,off,none⟩) n c) /\
  W.cell? ⟨B2,0,none⟩=some (.int .u64 (s:Nat))/\W.cell? ⟨B2,1,none⟩=some (.int .i64 v)/\W.cell? ⟨B2,2,none⟩=some (.int .i64 u) /\
  W.cell? ⟨b,off+i*3,none⟩=some (.int .u64 (z:Nat))/\W.cell? ⟨b,off+i*3+1,none⟩=some (.int .i64 B)/\W.cell? ⟨b,off+i*3+2,none⟩=some (.int .i64 A))
  (first | (with_reducible assumption) | ((with_reducible refine a.out _ ?_);(first | (with_reducible assumption) | (with_reducible exact Below.refl _ _) | (with_reducible exact(Below.refl _ _).drew) | exact(bj (And.left (by with_reducible assumption)) ‹Below _ _ _›));done) | fail)
  (first
  | (go_at_call 137;((with_reducible refine(m.out _).mono ?_);rintro e q⟨rfl,p⟩;have o:Below w.heap.size w q:=bj (And.left (by with_reducible assumption)) p))
  | fail)
 all_goals
  go_wp2;go_ret;exact⟨rfl,o⟩
structure Has(w:World)(p:Value)(l:List jJ):Prop where
 laid:∃v,ju w v l/\∀W,Below w.heap.size w W->Calls prog 93 #[p] W fun e w'=>e = .returned v/\W=w'
 qw:jh l
 ok:∀x∈l,kI x
theorem vZ.has{w:World}{base g:Nat}{F:List Nat}{l:List jJ}(h:vZ w base g F l):Has w (mtp g) l:=by
 obtain⟨A,c,c0,c1,-,f,-⟩:=h.shape;obtain⟨v,i,j,m,o,r,b,d⟩:=h;have q:∀ {p:Addr} {u:Value} {W:World},w.cell? p=some u->Below w.heap.size w W->W.cell? p=some u:=fun {p u W} k a=>(a.cell (p:=p) (World.block_lt_of_cell? w _ k)).trans k
 exact⟨⟨_,jE.xQ f,fun W a=>Uu (q c0 a) (q c1 a)⟩,b,d⟩
theorem R8{w:World}{p:Value}{l:List jJ}(h:Has w p l)(u:l.length<=500000)(k:Nat)(a b:Int):
  Calls prog 139 #[p,.int .u64 (k:Nat),.int .i64 a,.int .i64 b] w (yd w (kZ l k a b)):=by
 obtain⟨⟨v,m,d⟩,i,f⟩:=h;have o:=qQ (d w (Below.refl _ _));have q:=qQ (UK v l k a b w m u f i);clear d m i f;generalize kZ l k a b=R at*;go_enter func139,ntmps139;go_wp2_with fail;refine o.out.mono ?_;rintro e w'⟨rfl,rfl⟩;go_wp2_with fail;refine q.out.mono ?_;rintro e w'⟨A,c,rfl,j,s⟩;have r:=qQ j;clear j;go_wp2;go_ret;exact⟨A,c,rfl,r.out,s⟩
theorem R9{w:World}{p:Value}{l:List jJ}(h:Has w p l)(i:l.length<=500000):
  Calls prog 37 #[p] w (yd w l):=by
 obtain⟨⟨v,k,f⟩,s,r⟩:=h;have m:=qQ (f w (Below.refl _ _));have a:=qQ (UJ v l w k i);obtain⟨n,b⟩:∃n,n=l.length:=⟨_,rfl⟩
 have d:=qQ b;unfold yd at a;rw[<-b]at a;clear f k s r i b;go_enter func37,ntmps37;go_wp2_with fail;refine m.out.mono ?_;rintro e w'⟨rfl,rfl⟩;go_wp2_with fail;refine a.out.mono ?_;rintro e w'⟨A,c,rfl,j,q⟩;have o:=qQ j;clear j;go_wp2;go_ret;exact⟨A,c,by rw[<-d.out];rfl,by rw[<-d.out];exact o.out,q⟩
end
section
open Go.RowKit Go.Shelf
attribute [local go_sem ↓] Go.wp_at_zero Go.wp_at_succ
theorem Rq{L:List jJ}{x:jJ}(h:L[kD L x]?≠some x):[]++L.take (kD L x)++[x]++L.drop (kD L x)=jt L x:=by
 unfold jt;rw[qZ h,List.nil_append]
theorem Rx{L:List jJ}{x:jJ}(h:L[kD L x]? = some x):jt L x=L:=by
 unfold jt;rw[qV h]
end
end Go.Proofs.YtokbfellcadkpaaGreat
