import Derived.Test.YthejglbnkmimjaaGreatQp04
import Derived.Lib.SlicesCompact
import Derived.Deep.DrawnRows
set_option linter.unusedVariables false
set_option maxRecDepth 100000
set_option maxHeartbeats 9000000
namespace Go.Proofs.YthejglbnkmimjaaGreat
open Proofs.Tryz
section
open Go.RowKit
def yL(l:List jC):List UInt8:=l.flatMap uh
def ly: List UInt8:=[112,116,97,98]
def ua(n:Nat):List UInt8:=ly++be 4 n
def fh(l:List jC):Tw:=bs (ua l.length++yL l)
def tbB(l:List jC):Tw:=vO (fh l)
def ux(l:List jC):Bool:=ya l&&l.all mayE
def tbS(l:List jC):Tw:=if ux l=true then tbB l else ByteArray.empty
def tbE(l:List jC):Int:=if ux l=true then 0 else 2
theorem tB(n:Nat):(ua n).length=8:=by unfold ua;rw[qN,jn];rfl
theorem ZD(x:jC)(l:List jC):yL (x::l)=uh x++yL l:=by unfold yL;rw[List.flatMap_cons]
theorem YT(a b:List jC):yL (a++b)=yL a++yL b:=by unfold yL;rw[List.flatMap_append]
theorem OQ(x:jC):yL [x]=uh x:=by rw[ZD];show _++[]=_;rw[List.append_nil]
theorem tC: ∀l:List jC,(yL l).length=24*l.length
 | []=>rfl
 | x::l=>by rw[ZD,qN,Xg,tC l,qv];omega
theorem OX{l:List jC}{k:Nat}{x:jC}(h:l[k]? = some x):yL (l.take (k+1))=yL (l.take k)++uh x:=by rw[Vf l k x h,YT,OQ]
theorem Y0(l:List jC):(fh l).size=8+24*l.length:=by unfold fh;rw[kK,qN,tB,tC]
theorem ph(l:List jC):(tbB l).size=12+24*l.length:=by unfold tbB;rw[l7,Y0];omega
theorem Y4(l:List jC):(tbB l).data.toList=ua l.length++(yL l++bJ (fh l).data.toList):=by
 unfold tbB;rw[sn];unfold fh;rw[XP,qn]
theorem Y5{x:jC}(h:mayE x=true):(vP x).data.toList=uh x:=by unfold vP;rw[qV h,Vv]
theorem ZE{l:List jC}:ux l=true↔ya l=true/\∀x∈l,mayE x=true:=by unfold ux;rw[Bool.and_eq_true,List.all_eq_true]
theorem OZ{l:List jC}(h:ya l=false):ux l=false:=by unfold ux;rw[h];rfl
theorem OJ{l:List jC}{x:jC}(a:x∈l)(h:mayE x=false):ux l=false:=by
 cases e:ux l with
 | false=>rfl
 | true=>rw[(ZE.1 e).2 x a]at h;cases h
theorem Y6{l:List jC}(h:ux l=false):tbS l=ByteArray.empty/\tbE l=2:=by unfold tbS tbE;rw[h];exact⟨rfl,rfl⟩
theorem ZF{l:List jC}(h:ux l=true):tbS l=tbB l/\tbE l=0:=by unfold tbS tbE;rw[h];exact⟨rfl,rfl⟩
def yB(s:Tw)(i:Nat):Tw:=s.extract (8+24*i) (32+24*i)
def uH(s:Tw)(n:Nat):List jC:=(List.range n).map fun i=>enG (yB s i)
def tbN(s:Tw):Nat:=jz (s.extract 4 8)
def yw(s:Tw):Bool:=decide (8<=s.size/\s.extract 0 4=bs ly/\tbN s<=89478484/\s.size=12+24*tbN s/\yn s=true/\(∀i,i<tbN s->vg (yB s i)=true)/\ya (uH s (tbN s))=true)
def tgL(s:Tw):List jC:=if yw s=true then uH s (tbN s) else []
def tgE(s:Tw):Int:=if yw s=true then 0 else 90
theorem lu{s:Tw}:yw s=true↔(8<=s.size/\s.extract 0 4=bs ly/\tbN s<=89478484/\s.size=12+24*tbN s/\yn s=true/\(∀i,i<tbN s->vg (yB s i)=true)/\ya (uH s (tbN s))=true):=by unfold yw;exact decide_eq_true_iff
theorem ZH{s:Tw}(h:yw s=false):tgL s=[]/\tgE s=90:=by unfold tgL tgE;rw[h];exact⟨rfl,rfl⟩
theorem pn{s:Tw}(h:yw s=true):tgL s=uH s (tbN s)/\tgE s=0:=by unfold tgL tgE;rw[h];exact⟨rfl,rfl⟩
theorem pr(s:Tw)(n:Nat):(uH s n).length=n:=by unfold uH;rw[qz,List.length_range]
theorem Y7(s:Tw){n i:Nat}(h:i<n):(uH s n)[i]? = some (enG (yB s i)):=by unfold uH;rw[qu,List.getElem?_range h];rfl
theorem OV(s:Tw)(i:Nat):(yB s i).data.toList=(s.data.toList.drop (8+24*i)).take 24:=by unfold yB;rw[nr,show 32+24*i-(8+24*i)=24 by omega]
theorem OY(s:Tw){n:Nat}(h:∀i,i<n->vg (yB s i)=true):∀x∈uH s n,mayE x=true:=by
 intro x a;unfold uH at a;obtain⟨i,b,rfl⟩:=qP.1 a;exact(M4 (h i (List.mem_range.1 b))).1
theorem OU(n:Nat)(h:n<4294967296):un (be 4 n)=n:=by
 have p:(256:Nat) ^ 4=4294967296:=by decide
 rw[lO,p,Nat.mod_eq_of_lt h]
theorem OG{s:Tw}{l:List UInt8}(h:s.data.toList=l)(a:l.length=4):jz s=un l:=by unfold jz;rw[h,qp (by omega)]
theorem OW(l:List jC)(b:l.length<4294967296):(tbB l).extract 0 4=bs ly/\tbN (tbB l)=l.length:=by
 have e:=Y4 l;have a:ly.length=4:=rfl;constructor
 ·rw[fv,e];unfold ua;rw[List.drop_zero,qn,List.take_left' (by exact a)]
 ·unfold tbN;rw[OG (l:=be 4 l.length) _ (jn _ _),OU _ b];rw[nr,e];unfold ua;rw[qn,List.drop_left' a,List.take_left' (jn 4 l.length)]
theorem Y8{l:List jC}{i:Nat}{x:jC}(h:l[i]? = some x)(f:mayE x=true):yB (tbB l) i=vP x:=by
 have d:i<l.length:=(qO.1 h).1
 have e:(yB (tbB l) i).data.toList=uh x:=by
  rw[OV,Y4,<-List.drop_drop,List.drop_left' (tB _)]
  have a:l=l.take i++(x::l.drop (i+1)):=by
   have:=(qO.1 h).2;rw[<-this,<-xJ d,qe]
  have b:yL l=yL (l.take i)++(uh x++yL (l.drop (i+1))):=by
   conv=>lhs;rw[a]
   rw[YT,ZD]
  have c:(yL (l.take i)).length=24*i:=by rw[tC,qT];omega
  rw[b,qn,List.drop_left' c,qn,List.take_left' (Xg x)]
 rw[<-mO (yB (tbB l) i),e,<-Y5 f,mO]
theorem OA{l:List jC}(r:l.length<=89478484)(p:∀x∈l,kz x)(s:ux l=true):yw (tbB l)=true/\uH (tbB l) l.length=l/\tgL (tbB l)=l:=by
 obtain⟨y,f⟩:=ZE.1 s;obtain⟨q,b⟩:=OW l (by omega)
 have u:∀i,i<l.length->vg (yB (tbB l) i)=true:=fun i j=>by
  have d:=qD j;have a:=List.getElem_mem j;rw[Y8 d (f _ a),MT (p _ a),f _ a]
 have g:uH (tbB l) l.length=l:=by
  apply xV;intro i;rcases qh i l.length with c|c
  ·have d:=qD c;have a:=List.getElem_mem c;rw[Y7 _ c,Y8 d (f _ a),(Vy (p _ a) (f _ a)).2,d]
  ·rw[xX c,xX (by rw[pr];exact c)]
 have o:yw (tbB l)=true:=lu.2 ⟨by rw[ph];omega,q,by rw[b];exact r,by rw[ph,b],L8 _,by rw[b];exact u,by rw[b,g];exact y⟩;exact⟨o,g,by rw[(pn o).1,b,g]⟩
def fW(n:Int):Int:=if n<0∨89478484<n then 0 else 12+24*n
def oW(n:Int):Int:=if n<0∨89478484<n then 0 else 8+24*n
theorem tD{n:Int}(h:n<0∨89478484<n):fW n=0/\oW n=0:=by unfold fW oW;rw[qV h,qV h];exact⟨rfl,rfl⟩
theorem ZI{n:Int}(h:¬(n<0∨89478484<n)):fW n=12+24*n/\oW n=8+24*n:=by unfold fW oW;rw[qZ h,qZ h];exact⟨rfl,rfl⟩
theorem oA{n:Nat}(h:n<=89478484):fW (n:Nat)=((12+24*n:Nat):Int)/\oW (n:Nat)=((8+24*n:Nat):Int):=by
 obtain⟨a,b⟩:=ZI (n:=(n:Nat)) (by omega);rw[a,b];exact⟨by omega,by omega⟩
theorem Y9(n:Int)(w:World):
  Calls prog 261 #[n] w (X0 (.int .i64 (fW n)) w):=by
 by_cases h:n<0
 ·rw[(tD (qX h)).1];go_enter func261,ntmps261;go_wp2;go_ret;exact⟨rfl,rfl⟩
 ·by_cases a:89478484<n
  ·rw[(tD (qY a)).1];go_enter func261,ntmps261;go_wp2;go_ret;exact⟨rfl,rfl⟩
  ·rw[(ZI (n:=n) (by omega)).1];obtain⟨k,rfl⟩:∃k:Nat,n=k:=⟨n.toNat,by omega⟩
   go_enter func261,ntmps261;go_wp2;go_ret;exact⟨mL (by omega),rfl⟩
theorem tE(n:Int)(w:World):
  Calls prog 223 #[n] w (X0 (.int .i64 (oW n)) w):=by
 have c:=qQ (Y9 n w);by_cases h:n<0∨89478484<n
 ·obtain⟨a,b⟩:=tD h;rw[a]at c;rw[b];clear h a b;go_enter func223,ntmps223;go_wp2_with fail;refine X5 c.out ?_;go_wp2;go_ret;exact⟨rfl,rfl⟩
 ·obtain⟨a,b⟩:=ZI h;obtain⟨k,rfl⟩:∃k:Nat,n=k:=⟨n.toNat,by omega⟩
  obtain⟨z,d⟩:∃z:Nat,z=12+24*k:=⟨_,rfl⟩
  rw[a,show(12:Int)+24*(k:Nat)=(z:Nat) by omega]at c;rw[b];have g:((z:Int)==0)=false:=qg.2 (by omega);have f:k<=89478484:=by omega
  clear h a b d;go_enter func223,ntmps223;go_wp2_with fail;refine X5 c.out ?_;go_wp2;go_ret;exact⟨mL (by omega),rfl⟩
def ld(s:Tw):Bool:=decide (8<=s.size/\s.extract 0 4=bs ly)
def me(s:Tw):Int:=if ld s=true then(tbN s:Nat) else 0
theorem OB: (⟨#[112,116,97,98]⟩:Tw)=bs ly:=rfl
theorem OC(s:Tw)(a:8<=s.size):cI s ⟨#[112,116,97,98]⟩=ld s:=by
 unfold cI ld;rw[OB,decide_eq_decide];have:(bs ly).size=4:=rfl;rw[this];exact⟨fun h=>⟨a,h.2⟩,fun h=>⟨by omega,h.2⟩⟩
theorem OD(s:Tw)(w:World)(c:s.size<=maxLen):
  Calls prog 268 #[s] w (X0 (.tuple #[.int .i64 (me s),.bool (ld s)]) w):=by
 by_cases j:s.size<8
 ·have b:ld s=false:=qA (fun h=>by omega);have g:me s=0:=by unfold me;rw[b];rfl
  rw[b,g];have q:decide ((s.size:Int)<8)=true:=qB (by omega);clear b g;unfold maxLen at c;go_enter func268,ntmps268;go_wp2;go_ret2;exact⟨rfl,rfl⟩
 ·have a:=fun W=>Qp s ⟨#[112,116,97,98]⟩ W c (by decide)
  rw[OC s (by omega)]at a;have d:=qQ fun W=>dZ (s.extract 4 8) W (by unfold maxLen at*;rw[qk];omega)
  have i:jz (s.extract 4 8)=tbN s:=rfl
  have u:tbN s<4294967296:=by
   have h:=lN ((s.extract 4 8).data.toList.take 8);have p:(256:Nat) ^ 4=4294967296:=(by decide);have o:((s.extract 4 8).data.toList.take 8).length<=4:=(by rw[qT,dX,qk];omega);exact qS h (by rw[<-p];exact Nat.pow_le_pow_right (by decide) o)
  unfold me;rw[i]at d;clear i;have q:decide ((s.size:Int)<8)=false:=qA (by omega);have y:(8:Int)<=(s.size:Int):=by omega
  have z:8<=s.size:=by omega
  generalize tbN s=n at*;unfold maxLen at c;have f:=qQ a;clear a j;cases e:ld s
  all_goals
   rw[e]at f;clear e;go_enter func268,ntmps268;go_wp2_with fail;refine(f.out _).mono ?_;rintro e r⟨rfl,rfl⟩
   first
   | (go_wp2
      go_ret2;exact⟨rfl,rfl⟩)
   | (go_wp2_with fail
      refine(d.out _).mono ?_;rintro e r⟨rfl,rfl⟩;go_wp2;go_ret2;exact⟨rfl,rfl⟩)
end
section
def ptT(n:Int):Tw:=nmS 116 n
def ptB(n:Int):Tw:=nmS 98 n
theorem Yq(c:UInt8)(n:Int):(nmS c n).size<=7:=by
 unfold nmS;split
 ·rw[kK,qv,ni];omega
 ·exact qI _
theorem oB(n:Int):(ptT n).size<=maxLen:=qR (Yq 116 n) (by decide)
theorem tF(n:Int):(ptB n).size<=maxLen:=qR (Yq 98 n) (by decide)
theorem OE{n:Nat}(h:n<=999999):ks (ptT n)=true/\ks (ptB n)=true:=by
 unfold ptT ptB ks;rw[oX h,oX h];decide
theorem ZL{n:Nat}(h:n<=999999):ptT n≠ByteArray.empty:=by
 intro e;have:=oX (c:=116) h;rw[show nmS 116 (n:Nat)=ByteArray.empty from e]at this;exact absurd this (by decide)
theorem mi{n m:Nat}(h:n<=999999)(k:m<=999999):ptB n≠ptT m:=by
 unfold ptB ptT;rw[fJ h,fJ k];intro e;have a:=congrArg (fun s:Tw=>s.data.toList.head?) e;simp only[dbs,List.head?_cons]at a;exact absurd a (by decide)
def kA(D:jD)(n:Int)(l:List jC)(t:Tw):Nat × jD :=
 if ptT n=ByteArray.empty∨ux l=false then(2,D)
 else if D.down=true then(61,D)
 else if (D.cap:Int)-(jM D.l:Nat)-(t.size:Nat)-((tbB l).size:Nat)<6000 then(60,D)
 else if (ji D (ptB n) t).1≠0 then ji D (ptB n) t
 else if (ji (ji D (ptB n) t).2 (ptT n) (tbB l)).1≠0 then((ji (ji D (ptB n) t).2 (ptT n) (tbB l)).1,(jg (ji (ji D (ptB n) t).2 (ptT n) (tbB l)).2 (ptB n)).2)
 else ji (ji D (ptB n) t).2 (ptT n) (tbB l)
def cP(r:Nat):Bool:=decide (r=0)||decide (r=4)
def uW(D:jD)(n:Int):Nat × jD :=
 if cP (jg D (ptT n)).1=false then jg D (ptT n)
 else if cP (jg (jg D (ptT n)).2 (ptB n)).1=false then jg (jg D (ptT n)).2 (ptB n)
 else(0,(jg (jg D (ptT n)).2 (ptB n)).2)
def bR(t:Tw)(l:List jC):Bool:=l.all fun x=>gV t x.h
theorem tH{t:Tw}{l:List jC}:bR t l=true↔∀x∈l,gV t x.h=true:=by unfold bR;rw[List.all_eq_true]
theorem OF(l:List jC):bR ByteArray.empty l=true:=tH.2 fun x _=>VD (X6 (by decide)) _
def ldF(D:jD)(n:Int)(l:List jC):Tw:=if (rdW D (ptB n)).2.1=0/\bR (rdW D (ptB n)).1 l=true then(rdW D (ptB n)).1 else ByteArray.empty
theorem Yx(D:jD)(n:Int)(l:List jC):bR (ldF D n l) l=true:=by
 unfold ldF;split
 ·rename_i h;exact h.2
 ·exact OF l
def vU(D:jD)(n:Int):Nat:=if D.down=true then 61 else if (rdW D (ptT n)).2.1≠0 then 90 else if yw (rdW D (ptT n)).1=false then 90 else 0
def uI(D:jD)(n:Int):jD:=if D.down=true then D else if (rdW D (ptT n)).2.1≠0 then(rdW D (ptT n)).2.2 else if yw (rdW D (ptT n)).1=false then(rdW D (ptT n)).2.2 else(rdW (rdW D (ptT n)).2.2 (ptB n)).2.2
def tI(e:Nat):Nat:=if e=0 then 0 else if e=61 then 61 else 90
def tL(D:jD)(n:Int):Nat:=tI (jk D (ptT n)).2
def dq(l:List jC)(t:Tw)(h:Nat):Bool:=decide (0<l.length)&&gV t h
def pcP(s:Tw)(i:Nat):Tw:=s.extract (24*i) (24*i+24)
def okP(s:Tw)(m:Nat):Bool:=(List.range m).all fun i=>vg (pcP s i)
def fm(s:Tw)(m:Nat):List jC:=(List.range m).map fun i=>enG (pcP s i)
theorem Yz{s:Tw}{m:Nat}:okP s m=true↔∀i,i<m->vg (pcP s i)=true:=by unfold okP;rw[List.all_eq_true];simp
theorem OH(s:Tw)(m:Nat):(fm s m).length=m:=by unfold fm;rw[qz,List.length_range]
def fp(s:Tw):Tw:=bs (List.replicate 8 0++s.data.toList)
theorem Yj(s:Tw)(i:Nat):yB (fp s) i=pcP s i:=by
 unfold yB pcP fp;rw[fv,fv,XP,show 8+24*i=(List.replicate 8 (0:UInt8)).length+24*i by rw[List.length_replicate],List.drop_length_add_append,show 32+24*i-((List.replicate 8 (0:UInt8)).length+24*i)=24 by rw[List.length_replicate];omega,show 24*i+24-24*i=24 by omega]
theorem OI(s:Tw)(m:Nat):uH (fp s) m=fm s m:=by
 unfold uH fm;simp only[Yj]
theorem Yk{s:Tw}{lo hi i:Nat}(a:i<hi-lo):pcP (s.extract (8+24*lo) (8+24*hi)) i=yB s (lo+i):=by
 unfold pcP yB
 rw[fv,fv s,fv s,XP,List.drop_take,List.take_take,List.drop_drop,show 24*i+24-24*i=24 by omega,show 32+24*(lo+i)-(8+24*(lo+i))=24 by omega,
  show 8+24*lo+24*i=8+24*(lo+i) by omega,Nat.min_eq_left (by omega)]
theorem OL{s:Tw}(h:yw s=true){lo hi:Nat}(a:hi<=(tgL s).length):okP (s.extract (8+24*lo) (8+24*hi)) (hi-lo)=true/\fm (s.extract (8+24*lo) (8+24*hi)) (hi-lo)=((tgL s).drop lo).take (hi-lo):=by
 obtain⟨f,g,j,o,p,b,q⟩:=lu.1 h;rw[(pn h).1]at a ⊢;rw[pr]at a;refine⟨Yz.2 fun i d=>by rw[Yk d];exact b _ (by omega), ?_⟩;apply xV;intro i;unfold fm;rw[qu,List.getElem?_take,List.getElem?_drop];by_cases c:i<hi-lo
 ·rw[qV c,List.getElem?_range c,Y7 _ (by omega)];show some (enG (pcP _ i))=_;rw[Yk c]
 ·rw[qZ c,xX (by rw[List.length_range];omega)];rfl
theorem Yv{s:Tw}(h:yw s=true):kG (tgL s)/\(∀x∈tgL s,mayE x=true)/\s.size=12+24*(tgL s).length:=by
 obtain⟨d,f,g,a,i,b,c⟩:=lu.1 h;rw[(pn h).1,pr];exact⟨Vb c,OY s b,a⟩
theorem OM(s:Tw):∀x:Tw,kz (enG x):=by
 intro x;unfold enG;split
 ·rename_i h;have:=of_decide_eq_true h;exact⟨pB _,by simp only;omega,by simp only;omega,by simp only;omega,by simp only;omega⟩
 ·exact⟨by decide,by decide,by decide,by decide,by decide⟩
theorem Yy(s:Tw):∀x∈tgL s,kz x:=by
 intro x a;unfold tgL uH at a;split at a
 ·obtain⟨i,_,rfl⟩:=qP.1 a;exact OM s _
 ·cases a
theorem ON{q:jC->Bool}{l:List jC}{lo hi:Nat}(h:∀(i:Nat) (x:jC),l[i]? = some x->q x=true->lo<=i/\i<hi):l.filter q=((l.drop lo).take (hi-lo)).filter q:=by
 have e:l=l.take lo++((l.drop lo).take (hi-lo)++(l.drop lo).drop (hi-lo)):=by rw[qe,qe]
 have d:(l.take lo).filter q=[]:=List.filter_eq_nil_iff.2 fun y c b=>by
  obtain⟨j,a⟩:=qd c;have g:=(qO.1 a).1;rw[qT]at g;rw[List.getElem?_take,qV (by omega)]at a;have:=(h j y a b).1;omega
 have f:((l.drop lo).drop (hi-lo)).filter q=[]:=List.filter_eq_nil_iff.2 fun y c b=>by
  obtain⟨j,a⟩:=qd c;rw[List.getElem?_drop,List.getElem?_drop]at a;have:=(h _ y a b).2;omega
 conv=>lhs;rw[e]
 rw[List.filter_append,List.filter_append,d,f,List.nil_append,List.append_nil]
theorem ZM{l:List jC}(h:kG l)(lo m:Nat):kG ((l.drop lo).take m):=List.Pairwise.take (List.Pairwise.drop h)
theorem Yu{l:List jC}{lo m i:Nat}:((l.drop lo).take m)[i]? = if i<m then l[lo+i]? else none:=by rw[List.getElem?_take,List.getElem?_drop]
theorem Yg{l:List jC}{lo m:Nat}{x:jC}(h:x∈(l.drop lo).take m):x∈l:=List.mem_of_mem_drop (List.mem_of_mem_take h)
theorem OO{y:jC}{h:Nat}{v:Int}(a:mayE y=true):jb y ⟨h,v,0⟩=gS h v y:=by
 have:=of_decide_eq_true a;unfold jb gS;rw[decide_eq_decide];simp only;omega
theorem OP(h:Nat)(v:Int)(y:jC):gS h (v+1) y=uF h v y:=by
 unfold gS uF;rw[decide_eq_decide];omega
theorem ZN{l:List jC}(a:∀x∈l,mayE x=true)(h:Nat)(v:Int):l.countP (fun y=>jb y ⟨h,v,0⟩)=l.countP (gS h v):=List.countP_congr fun y b=>by rw[OO (a y b)]
theorem Yb(l:List jC)(h:Nat)(v:Int):l.countP (gS h (v+1))=l.countP (uF h v):=List.countP_congr fun y a=>by rw[OP]
theorem Yc{l:List jC}(d:kG l){h:Nat}{a b:Int}{lo hi:Nat}(g:lo<=l.countP (gS h a))(j:l.countP (uF h b)<=hi):vQ ((l.drop lo).take (hi-lo)) h a b=vQ l h a b:=by
 unfold vQ;refine(ON fun i x f c=>?_).symm;have c:=of_decide_eq_true c;have c1:=mc (Vh h a) d i x f;have c2:=mc (Xl h b) d i x f;constructor
 ·have:gS h a x=false:=qA (by omega);rw[this]at c1;have:=of_decide_eq_false c1.symm;omega
 ·have:uF h b x=true:=qB (by omega);rw[this]at c2;have:=of_decide_eq_true c2.symm;omega
theorem OR{l:List jC}(g:kG l){h:Nat}{a b:Int}{lo hi:Nat}(c:lo<=l.countP (gS h a))(d:l.countP (uF h b)<=hi)(f:hi<=lo):vQ l h a b=[]:=by
 rw[<-Yc g c d,Nat.sub_eq_zero_of_le f];rfl
theorem uV.zx{q:jC->Bool}{l:List jC}{k lo hi:Nat}(h:uV q l k)(b:lo<=k):uV q ((l.drop lo).take (hi-lo)) (k-lo):=by
 intro i x a;rw[Yu]at a;split at a
 ·rw[h _ x a,decide_eq_decide];omega
 ·cases a
theorem OS{l:List jC}(c:kG l){h:Nat}{b:Int}{lo hi:Nat}(i:lo-1<=l.countP (uF h b)-1)(j:lo<=l.countP (uF h b))(o:l.countP (uF h b)<=hi)(p:hi<=l.length):fK ((l.drop (lo-1)).take (hi-(lo-1))) h b=fK l h b:=by
 have a:=mc (Xl h b) c;generalize l.countP (uF h b)=K at*;cases K with
 | zero =>
   have hw:=uV.zx (lo:=lo-1) (hi:=hi) a (by omega);rw[show 0-(lo-1)=0 by omega]at hw;rw[Xr a,Xr hw]
 | succ k =>
   have hw:=uV.zx (lo:=lo-1) (hi:=hi) a (by omega);have g:k<l.length:=(by omega);have d:l[k]? = some l[k]:=qD g;have f:((l.drop (lo-1)).take (hi-(lo-1)))[k-(lo-1)]? = some l[k]:=(by rw[Yu,qV (by omega),show lo-1+(k-(lo-1))=k by omega];exact d);rw[show k+1-(lo-1)=k-(lo-1)+1 by omega]at hw;by_cases e:(l[k]).h=h
   ·rw[Xn a d e,Xn hw f e]
   ·rw[Xp c a d e,Xp (ZM c _ _) hw f e]
theorem Yd{t:Tw}{l:List jC}(o:bR t l=true){h:Nat}(f:dq l t h=false)(a b:Int):vQ l h a b=[]/\fK l h b=none:=by
 have g:∀x∈l,¬x.h=h:=fun x d e=>by
  have i:=tH.1 o x d;have j:0<l.length:=List.length_pos_of_mem d;unfold dq at f;rw[qB j,<-e,i]at f;cases f
 exact⟨List.filter_eq_nil_iff.2 fun x d p=>g x d (of_decide_eq_true p).1,Xm fun x d=>qA fun c=>g x d c.1⟩
def uL(l:List jC):List Nat:=Lib.compactUpTo (l.map jC.h).toArray (l.map jC.h).toArray.size
def tM(l:List jC)(p:Nat):Tw:=fu (bs (dN (uL l) (p:Nat) (480*(dQ (uL l).length (p:Nat):Nat):Int))) (p:Nat)
def bG(l:List jC)(r:Nat)(t:Tw):Prop:=∃p,pI r p/\t=tM l p
theorem Yf(l:List jC):(uL l).length<=l.length:=by
 unfold uL Lib.compactUpTo;rw[qz];refine qR (List.length_filter_le _ _) ?_;rw[List.length_range,List.size_toArray,qz];exact qK _
theorem OT{l:List jC}(f:∀x∈l,kz x):∀z∈uL l,z<18446744073709551616:=by
 intro z b;unfold uL Lib.compactUpTo at b;obtain⟨j,d,rfl⟩:=qP.1 b;have a:=List.mem_range.1 (qo.1 d).1
 have e:(l.map jC.h).toArray[j]! = (l.map jC.h)[j]'(by simpa using a):=by
  rw[getElem!_pos _ j a];simp
 rw[e];obtain⟨x,g,c⟩:=qP.1 (List.getElem_mem (l:=l.map jC.h) (n:=j) (by simpa using a));rw[<-c];exact(f x g).h
theorem Yh{r p:Nat}(h:pI r p):1<=p/\p<=16:=by
 unfold pI at h;split at h
 ·omega
 ·exact⟨h.1,h.2.1⟩
theorem Yl{n:Nat}{k:Int}(b:n<=10000):1<=dQ (n:Nat) k/\480*dQ (n:Nat) k<=24*n+960:=by
 have a:=Kf k;have e:cN (n:Nat)=n:=by unfold cN;split;omega;split<;>omega
 unfold dQ;rw[e];have c:n*cK k<=n*16:=Nat.mul_le_mul_left _ a;unfold nx s9;generalize n*cK k=q at*;split<;>omega
theorem pt{l:List jC}{r:Nat}{t:Tw}(f:l.length<=10000)(h:bG l r t):t.size<=256+4*l.length:=by
 obtain⟨p,b,rfl⟩:=h;obtain⟨g,i⟩:=Yh b;have d:=Yf l;have c:=Yl (n:=(uL l).length) (k:=(p:Nat)) (by omega);unfold tM;generalize (uL l).length=m at*;by_cases a:bV (bs (dN (uL l) (p:Nat) (480*(dQ (m:Nat) (p:Nat):Nat):Int))).size (p:Nat)=true
 ·rw[Lh a,show(480*(dQ (m:Nat) (p:Nat):Nat):Int)=((8*(60*dQ (m:Nat) (p:Nat)):Nat):Int) by omega,Ll _ _ _ (by omega) (by omega)];omega
 ·rw[VF (Bool.eq_false_iff.2 a)];show 0<=_;omega
end
section
open Go.RowKit
theorem O0(x y:jC):((((x.h:Int)==(y.h:Int))&&(x.v==y.v))&&(x.p==y.p))=decide (x=y):=by
 rw[Bool.eq_iff_iff,Bool.and_eq_true,Bool.and_eq_true,beq_iff_eq,beq_iff_eq,beq_iff_eq,decide_eq_true_iff];constructor
 ·rintro ⟨⟨c,a⟩,b⟩;exact oZ (by omega) a b
 ·rintro rfl;exact⟨⟨rfl,rfl⟩,rfl⟩
theorem O1(x y:jC)(w:World):(Op.equalIn 10000 117 (kv x) (kv y)).run prog w=.ok (decide (x=y)) w:=by
 rw[show(10000:Nat)=9998+1+1 from rfl,run_equalIn_agg w 9999 117 _ _ Tryz.underlying117 Tryz.stoodInHeld117];have e:=O0 x y;by_cases a:(x.h:Int)=(y.h:Int)
 ·by_cases b:x.v=y.v
  ·by_cases c:x.p=y.p
   ·have:x=y:=oZ (by omega) b c;rw[qB this];simp[Op.eqFields,go_sem,a,b,c]
   ·have:¬x=y:=fun h=>c (by rw[h])
    rw[qA this];simp[Op.eqFields,go_sem,a,b,c]
  ·have:¬x=y:=fun h=>b (by rw[h])
   rw[qA this];simp[Op.eqFields,go_sem,a,b]
 ·have:¬x=y:=fun h=>a (by rw[h])
  rw[qA this];simp[Op.eqFields,go_sem,a]
theorem Ym(x y:jC)(w:World):(binOp .eql 117 (kv x) (kv y)).run prog w=.ok (.bool (decide (x=y))) w:=by
 rw[run_eql_struct,O1];rfl
theorem O2(w:World)(o a:Obj):Below w.1.size w ((w.alloc o).alloc a):=((qU _ _).alloc (qK _) _).alloc (by simp) _
theorem oC(x y:jC)(w:World):
  Calls prog 172 #[kv x,kv y] w (X3 (.bool (jb x y)) w):=by
 obtain⟨h,v,p⟩:=x;obtain⟨a,v',d⟩:=y;have b:=O2 w (.cells #[.int .u64 (h:Nat),v,p] 117) (.cells #[.int .u64 (a:Nat),v',d] 117);have e:=l8 (x:=⟨h,v,p⟩) (y:=⟨a,v',d⟩);simp only at e;generalize jb ⟨h,v,p⟩ ⟨a,v',d⟩=q at*;by_cases c:h=a
 ·subst c;by_cases c:v=v'
  ·subst c;by_cases c:p<d
   ·obtain rfl:q=true:=e.2 (by omega);clear e;go_enter func172,ntmps172;go_wp2;go_ret;exact⟨rfl,b⟩
   ·obtain rfl:q=false:=Bool.eq_false_iff.2 (fun t=>by have:=e.1 t;omega);clear e;go_enter func172,ntmps172;go_wp2;go_ret;exact⟨rfl,b⟩
  ·by_cases c2:v<v'
   ·obtain rfl:q=true:=e.2 (by omega);clear e;go_enter func172,ntmps172;go_wp2;go_ret;exact⟨rfl,b⟩
   ·obtain rfl:q=false:=Bool.eq_false_iff.2 (fun t=>by have:=e.1 t;omega);clear e;go_enter func172,ntmps172;go_wp2;go_ret;exact⟨rfl,b⟩
 ·by_cases c2:h<a
  ·obtain rfl:q=true:=e.2 (by omega);clear e;have f:((h:Int) != (a:Int))=true:=(by simp;omega);have g:decide ((h:Int)<(a:Int))=true:=qB (by omega);go_enter func172,ntmps172;go_wp2;go_ret;exact⟨rfl,b⟩
  ·obtain rfl:q=false:=Bool.eq_false_iff.2 (fun t=>by have:=e.1 t;omega);clear e;have f:((h:Int) != (a:Int))=true:=(by simp;omega);have g:decide ((h:Int)<(a:Int))=false:=qA (by omega);go_enter func172,ntmps172;go_wp2;go_ret;exact⟨rfl,b⟩
theorem ZO(x:jC)(w:World):
  Calls prog 204 #[kv x] w (X3 (.bool (mayE x)) w):=by
 obtain⟨h,v,p⟩:=x;have a:=(qU w.1.size w).alloc (qK _) (.cells #[.int .u64 (h:Nat),v,p] 117);have e:mayE ⟨h,v,p⟩=decide (0<=v/\0<=p):=rfl;rw[e];clear e;by_cases c:0<=v
 ·by_cases c2:0<=p
  ·rw[qB ⟨c,c2⟩];go_enter func204,ntmps204;go_wp2;go_ret;exact⟨rfl,a⟩
  ·rw[qA (fun x=>c2 x.2)];go_enter func204,ntmps204;go_wp2;go_ret;exact⟨rfl,a⟩
 ·rw[qA (fun x=>c x.1)];go_enter func204,ntmps204;go_wp2;go_ret;exact⟨rfl,a⟩
end
section
open Go.RowKit Go.Shelf
theorem kC.form{w:World}{v:Value}{l:List jC}(h:kC w v l):∃A off d,v=.slice A l.length d/\l.length<=maxLen /\
  ∀i x,l[i]? = some x->∃b,A=some ⟨b,off,none⟩/\b<w.1.size/\w.cell? ⟨b,off+i*3,none⟩=some (.int .u64 (x.h:Nat))/\w.cell? ⟨b,off+i*3+1,none⟩=some (.int .i64 x.v)/\w.cell? ⟨b,off+i*3+2,none⟩=some (.int .i64 x.p):=by
 rcases h with⟨rfl,a,c,rfl⟩|⟨b,off,d,rfl,o,q,j,f⟩
 ·exact⟨a,0,c,rfl,qI _,fun i x h=>by simp at h⟩
 ·exact⟨some ⟨b,off,none⟩,off,d,rfl,by omega,fun i x g=>⟨b,rfl,j,f i x g 0 _ rfl,f i x g 1 _ rfl,f i x g 2 _ rfl⟩⟩
def O3(q:jC->Bool)(l:List jC)(w:World)(e:Ending)(w':World):Prop:=∃k:Nat,k<=l.length/\e=.returned (.int .i64 (k:Nat))/\(∀K,K<=l.length->uV q l K->k=K)/\Below w.1.size w w'
theorem O4(a b:Nat)(h:a<=b):((b:Int)-(a:Int)).tdiv 2=(((b-a)/2:Nat):Int):=by
 have e:(b:Int)-(a:Int)=((b-a:Nat):Int):=by omega
 rw[e];rfl
theorem O5(a b:Nat)(h:a<=b):((b-a:Nat):Int)/2=(((b-a)/2:Nat):Int):=rfl
theorem Yn(f:FuncId)(g:Nat)(q:jC->Bool)(v:Value)(l:List jC)(w:World)(Y:kC w v l)(hn:l.length<=1000000)(hE:Enters prog f)
  (T:∀(x:jC) (W:World),Below w.1.size w W->Calls prog f #[kv x,.pointer (some ⟨g,0,none⟩)] W fun e W'=>e=.returned (.bool (q x))/\Below W.1.size W W'):
  Calls prog 255 #[v,.func (.func f) #[] #[.pointer (some ⟨g,0,none⟩)]] w (O3 q l w):=by
 obtain⟨A,off,ac,rfl,-,U⟩:=Y.form;have Z:=qQ T;have HL:=qQ U;unfold Enters at hE;obtain⟨n,C⟩:∃n,n=l.length:=⟨_,rfl⟩
 have s:=qQ C;rw[<-C]at hn ⊢;clear Y T U C;go_enter func255,ntmps255;go_wp2;go_step3;go_wp2;go_step3;go_wp2;go_loopw [5,6] (fun H B wr=>∃a b:Nat,a<=b/\b<=n/\H=.int .i64 a/\B=.int .i64 b/\(∀K,K<=n->uV q l K->a<=K/\K<=b)/\Below w.1.size w wr) (fun H B _=>(intOf B).toNat-(intOf H).toNat)
 case atStart=>exact⟨0,n,qI _,qK _,rfl,rfl,fun K h _=>⟨qI _,h⟩,qU _ _⟩
 case round =>
  obtain⟨a,b,P,S,rfl,rfl,O,i⟩:=hrel;have r:=qQ O;clear O;have hm:=O4 a b P;have ab:=O5 a b P;by_cases ae:a<b
  ·have t:((a:Int)==(b:Int))=false:=qg.2 (by omega);obtain⟨d,X⟩:∃d,d=(b-a)/2:=⟨_,rfl⟩
   rw[<-X]at hm ab;have af:a+d<b:=(by omega);have ad:(d:Int)<=1000000:=(by omega);obtain⟨x,F⟩:∃x,l[a+d]? = some x:=⟨_,qD (by rw[<-s.out];omega)⟩
   have J:=qQ F;obtain⟨u,rfl,y,L,M,N⟩:=HL.out (a+d) _ F;have c0:=(i.cell (p:=⟨u,off+(a+d)*3,none⟩) y).trans L;have c1:=(i.cell (p:=⟨u,off+(a+d)*3+1,none⟩) y).trans M;have c2:=(i.cell (p:=⟨u,off+(a+d)*3+2,none⟩) y).trans N;clear L M N F X;have z:=Z.out x wr i;cases D:q x
   all_goals
    rw[D]at z;have aa:=qQ z;have I:=qQ D;clear D z;go_wp2_with fail;refine KG aa.out fun w2 Q=>?_;have R:=bj i Q;clear i Q c0 c1 c2;go_wp2;go_roundw
    case rel =>
     first
     | exact⟨a+d+1,b,by omega,S,by go_num,rfl,fun K j c=>⟨by have o:=c (a+d) x J.out;rw[I.out]at o;have:=of_decide_eq_true o.symm;omega,(r.out K j c).2⟩,R⟩
     | exact⟨a,a+d,by omega,by omega,rfl,by go_num,fun K j c=>⟨(r.out K j c).1,by have o:=c (a+d) x J.out;rw[I.out]at o;have:=of_decide_eq_false o.symm;omega⟩,R⟩
    case measure=>simp[intOf];omega
  ·obtain rfl:a=b:=(by omega);go_wp2;go_ret;exact⟨a,by rw[<-s.out];exact S,rfl,fun K j c=>by have:=r.out K (by rw[s.out];exact j) c;omega,i⟩
end
section
open Go.RowKit
def yM(l:List jC):List Value:=l.flatMap dw
theorem oE: ∀l:List jC,(yM l).length=l.length*3
 | []=>rfl
 | x::l=>by
   unfold yM;rw[List.flatMap_cons,qN];have:=oE l;unfold yM at this;rw[this,qv];show 3+_=_;omega
theorem mo: ∀(l:List jC) (i:Nat) (x:jC),l[i]? = some x->∀j,j<3->(yM l)[i*3+j]? = (dw x)[j]?
 | [],i,x,h=>by simp at h
 | y::l,0,x,h=>by
   intro j a;obtain rfl:y=x:=(by simpa using h);unfold yM;rw[List.flatMap_cons,Nat.zero_mul,qa,List.getElem?_append_left (by exact a)]
 | y::l,i+1,x,h=>by
   intro j a;have b:l[i]? = some x:=(by simpa using h);have e:(i+1)*3+j=3+(i*3+j):=(by omega);have:=mo l i x b j a;unfold yM at*;rw[List.flatMap_cons,e,List.getElem?_append_right (by show 3<=_;omega)];show(l.flatMap dw)[3+(i*3+j)-3]? = _;rw[Nat.add_sub_cancel_left];exact this
theorem O6{l:List jC}:∀u∈yM l,u.oneCell'=true:=by
 intro u b;unfold yM at b;obtain⟨f,_,a⟩:=xZ.1 b;simp only[dw,List.mem_cons,List.not_mem_nil,or_false]at a;rcases a with rfl|rfl|rfl<;>rfl
theorem Yp(a b:List jC):yM (a++b)=yM a++yM b:=by unfold yM;rw[List.flatMap_append]
abbrev jy(w:World)(base:Nat)(v:Value)(l:List jC):Prop:=w.ownsRow base 117 3 v l.length (yM l)
theorem jy.xE{w:World}{base:Nat}{v:Value}{l:List jC}(h:jy w base v l):kC w v l:=by
 have b:=h;rcases h.2 with⟨a,o⟩|⟨g,f,z,a,A,p,y,s,C,D⟩
 ·exact qX ⟨xK.1 o,none,0,a⟩
 ·by_cases r:l=[]
  ·subst r;exact qX ⟨rfl,_,_,a⟩
  ·refine qY ⟨g,0,f,a,y,s,(ql.1 p).1,fun i x d j u c=>?_⟩;have B:i<l.length:=(qO.1 d).1;have q:j<3:=(by have:=(qO.1 c).1;exact this);rw[a]at b;rw[qa];exact(b.cellAt (i*3+j) (by omega)).trans ((mo l i x d j q).trans c)
theorem jy.below{w w':World}{base B:Nat}{v:Value}{l:List jC}(h:jy w base v l)(i:Below B w w')(f:w.1.size<=B):jy w' base v l:=by
 refine⟨h.1, ?_⟩;rcases h.2 with d|⟨g,b,c,p,j,a,r⟩
 ·exact qX d
 ·obtain⟨o,_⟩:=ql.1 a;exact qY ⟨g,b,c,p,j,(i.block g (qS o f)).trans a,r⟩
theorem jy.block{w:World}{base:Nat}{v:Value}{l:List jC}(h:jy w base v l):∀k,v.ownBlock=some k->base<=k:=by
 intro k a;rcases h.2 with⟨rfl,_⟩|⟨g,c,d,rfl,b,_⟩
 ·cases a
 ·cases a;exact b
theorem jy.nil(w:World)(base:Nat):jy w base (.slice none 0 0) []:=World.ownsRow_nil _ _ _ _
theorem ZP: (prog.info? 117).map (fun i=>(i.zero,i.size,i.bytes))=some (some (.agg #[.int .u64 0,.int .i64 0,.int .i64 0]),3,24):=by kernel_rfl
theorem kC.src{w:World}{v:Value}{l:List jC}(h:kC w v l):gI w 3 v l.length (yM l):=by
 refine⟨oE l, ?_⟩;rcases h with⟨rfl,a,c,rfl⟩|⟨b,off,i,rfl,r,s,y,p⟩
 ·cases a with
  | none=>exact qX ⟨c,rfl,rfl⟩
  | some a=>exact qY ⟨a,c,rfl,fun j u d=>by cases d⟩
 ·refine qY ⟨⟨b,off,none⟩,i,rfl,fun j u d=>?_⟩;have z:j<l.length*3:=by have:=(qO.1 d).1;rw[oE]at this;exact this
  have q:j/3<l.length:=by omega
  have g:l[j/3]? = some l[j/3]:=qD q;have e:j/3*3+j%3=j:=by omega
  have f:=mo l (j/3) _ g (j%3) (by omega);rw[e,d]at f;have:=p (j/3) _ g (j%3) u f.symm;rw[e]at this;have o:(⟨b,off,none⟩:Addr).add j=⟨b,off+j,none⟩:=by unfold Addr.add;split<;>simp_all
  rw[o];exact this
theorem Yr(w:World)(x:jC):kC (w.alloc (.cells #[.int .u64 (x.h:Nat),x.v,x.p] 117)) (.slice (some ⟨w.1.size,0,none⟩) 1 1) [x]:=by
 refine qY ⟨w.1.size,0,1,rfl,qK _,by unfold maxLen;omega,by simp,fun i y b j u a=>?_⟩
 match i,b with
 | 0,b =>
   obtain rfl:x=y:=by simpa using b
   match j,a with
   | 0,a=>rw[<-a];simp[dw]
   | 1,a=>rw[<-a];simp[dw]
   | 2,a=>rw[<-a];simp[dw]
theorem pw{w:World}{base:Nat}{vs a:Value}{l m:List jC}(o:jy w base vs l)(p:kC w a m)(y:l.length+m.length<=1000000)(i:base<=w.1.size)(ty:TypeId):
  ∃A c w',(Builtin.append_ #[112,112] ty #[vs,a]).run prog w=.ok (.slice A (l.length+m.length) c) w'/\jy w' base (.slice A (l.length+m.length) c) (l++m)/\w.grownBy w' vs.ownBlock/\((Value.slice A (l.length+m.length) c).ownBlock=vs.ownBlock∨(Value.slice A (l.length+m.length) c).ownBlock=some w.1.size):=by
 obtain⟨u,j,q,r,s⟩:=info_parts ZP;obtain⟨v',w',d,b,f,g⟩:=cr (P:=prog) w base 112 117 u _ 3 24 ty Tryz.underlying112 j q r s rfl (by decide) vs l.length (yM l) o a m.length (yM m) p.src O6 (by unfold maxLen;omega) (by omega) i;obtain⟨A,c,rfl,-,-,-⟩:=v8 b;refine⟨A,c,w',d, ?_,f,g⟩;unfold jy;rw[Yp,qN];exact b
theorem rQ{B:Nat}{w w':World}{v:Value}(h:w.grownBy w' v.ownBlock)(b:B<=w.1.size)(a:∀k,v.ownBlock=some k->B<=k):Below B w w':=⟨h.os,h.tape,h.output,h.size,fun k c=>h.block k (by omega) (fun e=>by have:=a k e.symm;omega)⟩
theorem Ys(a:Option Addr)(c:Nat):∃A b,sliced a 0 0 c 3=.slice A 0 b:=by unfold sliced;exact⟨_,_,rfl⟩
section
variable {w:World}{v:Value}{l:List jC}{k m:Nat}
theorem Yt{b off a:Nat}(s:l.length<=a)(y:a<=maxLen)(z:k<=m)(B:m<=l.length):
  ∃A,sliced (some ⟨b,off,none⟩) k m a 3=.slice A (m-k) (a-k)/\∀W,b<W.1.size->(∀i x,l[i]? = some x->∀j u,(dw x)[j]? = some u->W.cell? ⟨b,off+(i*3+j),none⟩=some u)->kC W (.slice A (m-k) (a-k)) ((l.drop k).take (m-k)):=by
 have c:((l.drop k).take (m-k)).length=m-k:=by rw[qT,xQ];omega
 by_cases f:m-k=0
 ·have q:∃A,sliced (some (⟨b,off,none⟩:Addr)) k m a 3=.slice A (m-k) (a-k):=by unfold sliced;exact⟨_,rfl⟩
  obtain⟨A,e⟩:=q;refine⟨A,e,fun W _ _=>qX ⟨xK.1 (by rw[c];exact f),A,_,by rw[f]⟩⟩
 ·have e:sliced (some (⟨b,off,none⟩:Addr)) k m a 3=.slice (some ⟨b,off+k*3,none⟩) (m-k) (a-k):=by
   unfold sliced;rw[qZ (by omega)];simp[Addr.add]
  refine⟨_,e,fun W g o=>qY ⟨b,off+k*3,a-k,by rw[c],by omega,by omega,g,fun i x d j u r=>?_⟩⟩;have p:i<m-k:=by have:=(qO.1 d).1;rw[c]at this;exact this
  rw[List.getElem?_take,qV p,List.getElem?_drop]at d;have:=o (k+i) x d j u r;rw[show off+k*3+(i*3+j)=off+((k+i)*3+j) by omega];exact this
theorem O7(h:kC w v l)(F:k<=m)(q:m<=l.length):∃A c,
  (∀W,(Instr.slice 112 v (some (.int .i64 (k:Nat))) (some (.int .i64 (m:Nat))) none).run prog W=.ok (.slice A (m-k) c) W)/\∀B W,w.1.size<=B->Below B w W->kC W (.slice A (m-k) c) ((l.drop k).take (m-k)):=by
 have r:∀W,(sizeOf (prog.elem 112)).run prog W=.ok 3 W:=fun W=>by simp[go_sem]
 rcases h with⟨rfl,a,c,rfl⟩|⟨b,off,f,rfl,s,y,g,z⟩
 ·obtain rfl:m=0:=by simpa using q
  obtain rfl:k=0:=by omega
  obtain⟨A,d,e⟩:=Ys a c;refine⟨A,d,fun W=>?_,fun B W _ _=>qX ⟨by simp,A,d,rfl⟩⟩;rw[run_slice_lh W _ a 0 c Tryz.underlying112 .i64 .i64 _ _ (by omega) (by omega) (by omega),r];show Result.ok (sliced _ _ _ _ _) W=_;rw[qm,e]
 ·obtain⟨A,e,C⟩:=Yt (l:=l) (b:=b) (off:=off) s y F q;refine⟨A,f-k,fun W=>?_,fun B W D o=>C W (qS g o.size) fun i x I j u H=>(o.cell (p:=⟨b,off+(i*3+j),none⟩) (qS g D)).trans (z i x I j u H)⟩;rw[run_slice_lh W _ _ _ f Tryz.underlying112 .i64 .i64 _ _ (by omega) (by omega) (by omega),r];show Result.ok (sliced _ _ _ _ _) W=_;rw[qm,qm,e]
theorem Ya(h:kC w v l)(r:k<=l.length):∃A c,
  (∀W,(Instr.slice 112 v (some (.int .i64 (k:Nat))) none none).run prog W=.ok (.slice A (l.length-k) c) W)/\∀B W,w.1.size<=B->Below B w W->kC W (.slice A (l.length-k) c) (l.drop k):=by
 have s:∀W,(sizeOf (prog.elem 112)).run prog W=.ok 3 W:=fun W=>by simp[go_sem]
 rcases h with⟨rfl,a,c,rfl⟩|⟨b,off,f,rfl,z,C,g,D⟩
 ·obtain rfl:k=0:=by simpa using r
  obtain⟨A,d,e⟩:=Ys a c;refine⟨A,d,fun W=>?_,fun B W _ _=>qX ⟨by simp,A,d,rfl⟩⟩;rw[run_slice_l W _ a 0 c Tryz.underlying112 .i64 _ (by omega) (by omega),s];show Result.ok (sliced _ _ _ _ _) W=_;rw[qm,e];rfl
 ·obtain⟨A,e,o⟩:=Yt (l:=l) (b:=b) (off:=off) z C r (qK _);have y:(l.drop k).take (l.length-k)=l.drop k:=qp (by rw[xQ];omega);rw[y]at o;refine⟨A,f-k,fun W=>?_,fun B W F q=>o W (qS g q.size) fun i x I j u H=>(q.cell (p:=⟨b,off+(i*3+j),none⟩) (qS g F)).trans (D i x I j u H)⟩;rw[run_slice_l W _ _ _ f Tryz.underlying112 .i64 _ (by omega) (by omega),s];show Result.ok (sliced _ _ _ _ _) W=_;rw[qm,e]
end
end
section
open Go.ChangeShapes Go.WideShapes Go.ChangeAt Go.RowKit Go.Deep
structure vT where
 e:jC
 k:Int
def fa(x:vT):List Value:=[.int .u64 (x.e.h:Nat),.int .i64 x.e.v,.int .i64 x.e.p,.int .i64 x.k]
def bW(w:World)(v:Value)(l:List vT):Prop :=
 (l=[]/\∃a c,v=.slice a 0 c)∨∃b off d,v=.slice (some ⟨b,off,none⟩) l.length d/\l.length<=d/\d<=maxLen/\b<w.1.size /\
  ∀i x,l[i]? = some x->∀j u,(fa x)[j]? = some u->w.cell? ⟨b,off+(i*4+j),none⟩=some u
theorem bW.below{w w':World}{v:Value}{l:List vT}{B:Nat}(h:bW w v l)(a:Below B w w')(f:w.1.size<=B):bW w' v l:=by
 rcases h with h|⟨b,off,d,s,o,q,c,g⟩
 ·exact qX h
 ·exact qY ⟨b,off,d,s,o,q,qS c a.size,fun i x y j u r=>(a.cell (p:=⟨b,off+(i*4+j),none⟩) (qS c f)).trans (g i x y j u r)⟩
theorem bW.form{w:World}{v:Value}{l:List vT}(h:bW w v l):∃A off g,v=.slice A l.length g/\l.length<=maxLen /\
  ∀i x,l[i]? = some x->∃b,A=some ⟨b,off,none⟩/\b<w.1.size/\w.cell? ⟨b,off+i*4,none⟩=some (.int .u64 (x.e.h:Nat))/\w.cell? ⟨b,off+i*4+1,none⟩=some (.int .i64 x.e.v)/\w.cell? ⟨b,off+i*4+2,none⟩=some (.int .i64 x.e.p) /\
   w.cell? ⟨b,off+i*4+3,none⟩=some (.int .i64 x.k):=by
 rcases h with⟨rfl,a,c,rfl⟩|⟨b,off,g,rfl,o,q,j,d⟩
 ·exact⟨a,0,c,rfl,qI _,fun i x h=>by simp at h⟩
 ·exact⟨some ⟨b,off,none⟩,off,g,rfl,by omega,fun i x f=>⟨b,rfl,j,d i x f 0 _ rfl,d i x f 1 _ rfl,d i x f 2 _ rfl,d i x f 3 _ rfl⟩⟩
def bA(l:List vT):List Value:=l.flatMap fa
theorem ZR: ∀l:List vT,(bA l).length=l.length*4
 | []=>rfl
 | x::l=>by
   unfold bA;rw[List.flatMap_cons,qN];have:=ZR l;unfold bA at this;rw[this,qv];show 4+_=_;omega
theorem ZS: ∀(l:List vT) (i:Nat) (x:vT),l[i]? = some x->∀j,j<4->(bA l)[i*4+j]? = (fa x)[j]?
 | [],i,x,h=>by simp at h
 | y::l,0,x,h=>by
   intro j a;obtain rfl:y=x:=(by simpa using h);unfold bA;rw[List.flatMap_cons,Nat.zero_mul,qa,List.getElem?_append_left (by exact a)]
 | y::l,i+1,x,h=>by
   intro j a;have b:l[i]? = some x:=(by simpa using h);have e:(i+1)*4+j=4+(i*4+j):=(by omega);have:=ZS l i x b j a;unfold bA at*;rw[List.flatMap_cons,e,List.getElem?_append_right (by show 4<=_;omega)];show(l.flatMap fa)[4+(i*4+j)-4]? = _;rw[Nat.add_sub_cancel_left];exact this
theorem O8{l:List vT}:∀u∈bA l,u.oneCell'=true:=by
 intro u b;unfold bA at b;obtain⟨f,_,a⟩:=xZ.1 b;simp only[fa,List.mem_cons,List.not_mem_nil,or_false]at a;rcases a with rfl|rfl|rfl|rfl<;>rfl
theorem O9(a b:List vT):bA (a++b)=bA a++bA b:=by unfold bA;rw[List.flatMap_append]
abbrev yC(w:World)(base:Nat)(v:Value)(l:List vT):Prop:=w.ownsRow base 304 4 v l.length (bA l)
theorem yC.xE{w:World}{base:Nat}{v:Value}{l:List vT}(h:yC w base v l):bW w v l:=by
 have b:=h;rcases h.2 with⟨a,o⟩|⟨g,f,z,a,A,p,y,s,C,D⟩
 ·exact qX ⟨xK.1 o,none,0,a⟩
 ·by_cases r:l=[]
  ·subst r;exact qX ⟨rfl,_,_,a⟩
  ·refine qY ⟨g,0,f,a,y,s,(ql.1 p).1,fun i x d j u c=>?_⟩;have B:i<l.length:=(qO.1 d).1;have q:j<4:=(by have:=(qO.1 c).1;exact this);rw[a]at b;rw[qa];exact(b.cellAt (i*4+j) (by omega)).trans ((ZS l i x d j q).trans c)
theorem yC.below{w w':World}{base B:Nat}{v:Value}{l:List vT}(h:yC w base v l)(i:Below B w w')(f:w.1.size<=B):yC w' base v l:=by
 refine⟨h.1, ?_⟩;rcases h.2 with d|⟨g,b,c,p,j,a,r⟩
 ·exact qX d
 ·obtain⟨o,_⟩:=ql.1 a;exact qY ⟨g,b,c,p,j,(i.block g (qS o f)).trans a,r⟩
theorem yC.alloc{w:World}{base:Nat}{v:Value}{l:List vT}(h:yC w base v l)(o:Obj):yC (w.alloc o) base v l:=yC.below h ((qU w.1.size w).alloc (qK _) o) (qK _)
theorem yC.block{w:World}{base:Nat}{v:Value}{l:List vT}(h:yC w base v l):∀k,v.ownBlock=some k->base<=k:=by
 intro k a;rcases h.2 with⟨rfl,_⟩|⟨g,c,d,rfl,b,_⟩
 ·cases a
 ·cases a;exact b
theorem yC.nil(w:World)(base:Nat):yC w base (.slice none 0 0) []:=World.ownsRow_nil _ _ _ _
theorem Oq: (prog.info? 304).map (fun i=>(i.zero,i.size,i.bytes))=some (some (.agg #[.int .u64 0,.int .i64 0,.int .i64 0,.int .i64 0]),4,32):=by kernel_rfl
theorem bW.src{w:World}{v:Value}{l:List vT}(h:bW w v l):gI w 4 v l.length (bA l):=by
 refine⟨ZR l, ?_⟩;rcases h with⟨rfl,a,c,rfl⟩|⟨b,off,i,rfl,r,s,y,p⟩
 ·cases a with
  | none=>exact qX ⟨c,rfl,rfl⟩
  | some a=>exact qY ⟨a,c,rfl,fun j u d=>by cases d⟩
 ·refine qY ⟨⟨b,off,none⟩,i,rfl,fun j u d=>?_⟩;have z:j<l.length*4:=by have:=(qO.1 d).1;rw[ZR]at this;exact this
  have q:j/4<l.length:=by omega
  have g:l[j/4]? = some l[j/4]:=qD q;have e:j/4*4+j%4=j:=by omega
  have f:=ZS l (j/4) _ g (j%4) (by omega);rw[e,d]at f;have:=p (j/4) _ g (j%4) u f.symm;rw[e]at this;have o:(⟨b,off,none⟩:Addr).add j=⟨b,off+j,none⟩:=by unfold Addr.add;split<;>simp_all
  rw[o];exact this
theorem Ox(w:World)(x:vT):bW (w.alloc (.cells #[.int .u64 (x.e.h:Nat),x.e.v,x.e.p,x.k] 304)) (.slice (some ⟨w.1.size,0,none⟩) 1 1) [x]:=by
 refine qY ⟨w.1.size,0,1,rfl,qK _,by unfold maxLen;omega,by simp,fun i y b j u a=>?_⟩
 match i,b with
 | 0,b =>
   obtain rfl:x=y:=by simpa using b
   match j,a with
   | 0,a=>rw[<-a];simp[fa]
   | 1,a=>rw[<-a];simp[fa]
   | 2,a=>rw[<-a];simp[fa]
   | 3,a=>rw[<-a];simp[fa]
theorem Oz{w:World}{base:Nat}{vs a:Value}{l m:List vT}(o:yC w base vs l)(p:bW w a m)(y:l.length+m.length<=1000000)(i:base<=w.1.size)(ty:TypeId):
  ∃A c w',(Builtin.append_ #[234,234] ty #[vs,a]).run prog w=.ok (.slice A (l.length+m.length) c) w'/\yC w' base (.slice A (l.length+m.length) c) (l++m)/\w.grownBy w' vs.ownBlock/\((Value.slice A (l.length+m.length) c).ownBlock=vs.ownBlock∨(Value.slice A (l.length+m.length) c).ownBlock=some w.1.size):=by
 obtain⟨u,j,q,r,s⟩:=info_parts Oq;obtain⟨v',w',d,b,f,g⟩:=cr (P:=prog) w base 234 304 u _ 4 32 ty Tryz.underlying234 j q r s rfl (by decide) vs l.length (bA l) o a m.length (bA m) p.src O8 (by unfold maxLen;omega) (by omega) i;obtain⟨A,c,rfl,-,-,-⟩:=v8 b;refine⟨A,c,w',d, ?_,f,g⟩;unfold yC;rw[O9,qN];exact b
end
section
open Go.RowKit
def dV(n k:Nat):Bool:=decide (k%8=0)||decide (k+1=n)
def yD(l:List jC):Nat->List vT
 | 0=>[]
 | k+1=>yD l k++(if dV l.length k=true then(match l[k]? with|some x=>[⟨x,(k:Nat)⟩]|none=>[]) else [])
def kt(l:List jC):List vT:=yD l l.length
theorem tN{l:List jC}{k:Nat}{x:jC}(h:l[k]? = some x)(a:dV l.length k=true):yD l (k+1)=yD l k++[⟨x,(k:Nat)⟩]:=by
 rw[yD,qV a,h]
theorem Ye{l:List jC}{k:Nat}(a:dV l.length k=false):yD l (k+1)=yD l k:=by
 rw[yD,qZ (by rw[a];decide),List.append_nil]
theorem ZT(l:List jC):∀k,(yD l k).length<=k
 | 0=>qK _
 | k+1=>by
   have:=ZT l k;rw[yD,qN];split
   ·split<;>simp<;>omega
   ·simp;omega
def dx(n:Nat):Nat:=if n=0 then 0 else(n-1+7)/8+1
def fe(n j:Nat):Nat:=min (8*j) (n-1)
theorem Yi(l:List jC):∀k,k<l.length->(yD l k).length=(k+7)/8/\∀j,j<(k+7)/8->∃x,l[8*j]? = some x/\(yD l k)[j]? = some ⟨x,((8*j:Nat):Int)⟩
 | 0,h=>⟨rfl,fun j i=>by omega⟩
 | k+1,h=>by
   obtain⟨b,d⟩:=Yi l k (by omega);have g:l[k]? = some l[k]:=qD (by omega);by_cases f:k%8=0
   ·have e:dV l.length k=true:=(by unfold dV;rw[qB f];rfl);rw[tN g e,qN,b];refine⟨by simp;omega,fun j i=>?_⟩;rcases qh j ((k+7)/8) with c|c
    ·obtain⟨y,o,p⟩:=d j c;exact⟨y,o,by rw[List.getElem?_append_left (by rw[b];exact c)];exact p⟩
    ·obtain rfl:j=(k+7)/8:=(by omega);have a:8*((k+7)/8)=k:=(by omega);refine⟨l[k],by rw[a];exact g, ?_⟩;rw[List.getElem?_append_right (by omega),b,Nat.sub_self,a];rfl
   ·have e:dV l.length k=false:=(by unfold dV;rw[qA f,qA (by omega)];rfl);rw[Ye e];have a:(k+1+7)/8=(k+7)/8:=(by omega);rw[a];exact⟨b,d⟩
theorem Z1(l:List jC):(kt l).length=dx l.length/\∀j,j<dx l.length->∃x,l[fe l.length j]? = some x/\(kt l)[j]? = some ⟨x,((fe l.length j:Nat):Int)⟩:=by
 unfold kt dx fe;by_cases b:l.length=0
 ·rw[qV b,b];exact⟨rfl,fun j i=>by omega⟩
 ·rw[qZ b];obtain⟨n,o⟩:∃n,l.length=n+1:=⟨l.length-1,by omega⟩
  rw[o,Nat.add_sub_cancel];obtain⟨d,g⟩:=Yi l n (by omega);have f:l[n]? = some l[n]:=qD (by omega);have e:dV l.length n=true:=by unfold dV;rw[qB (p:=n+1=l.length) (by omega)];simp
  rw[tN f e,qN,d];refine⟨by simp,fun j i=>?_⟩;rcases qh j ((n+7)/8) with c|c
  ·obtain⟨y,q,r⟩:=g j c;have a:min (8*j) n=8*j:=(by omega);rw[a];exact⟨y,q,by rw[List.getElem?_append_left (by rw[d];exact c)];exact r⟩
  ·obtain rfl:j=(n+7)/8:=(by omega);have a:min (8*((n+7)/8)) n=n:=(by omega);refine⟨l[n],by rw[a];exact f, ?_⟩;rw[List.getElem?_append_right (by omega),d,Nat.sub_self,a];rfl
def cS(e:jC):List vT->Int->Int->Int × Int
 | [],lo,hi=>(lo,hi)
 | x::m,lo,hi=>if jb x.e e=true then cS e m (IntKind.i64.wrap (x.k+1)) hi else(lo,x.k)
def dz(lo hi many:Int):Int × Int:=(min (max lo 0) many,min (max hi (min (max lo 0) many)) many)
theorem Oj{lo hi many:Int}(h:0<=lo)(a:lo<=hi)(b:hi<=many):dz lo hi many=(lo,hi):=by
 unfold dz;refine Prod.ext ?_ ?_<;>simp only<;>omega
def loM(m:List vT)(c:Nat):Int:=if c=0 then 0 else match m[c-1]? with|some x=>x.k+1|none=>0
def hiM(m:List vT)(c:Nat)(many:Int):Int:=match m[c]? with|some x=>x.k|none=>many
def tO(e:jC)(m:List vT)(c:Nat):Prop:=c<=m.length/\∀(j:Nat) (x:vT),m[j]? = some x->jb x.e e=decide (j<c)
theorem Yo{e:jC}{many:Int}:∀ {m:List vT} {c:Nat} {lo:Int},tO e m c->(∀x∈m,IntKind.i64.wrap (x.k+1)=x.k+1) ->
  cS e m lo many=(if c=0 then lo else loM m c,hiM m c many)
 | [],c,lo,h,_=>by
   obtain rfl:c=0:=(by have:=h.1;simpa using this);rfl
 | x::m,c,lo,h,hw=>by
   have a:=h.2 0 x rfl;cases c with
   | zero =>
     rw[qA (by omega)]at a;rw[cS,qZ (by rw[a];decide)];rfl
   | succ c =>
     rw[qB (by omega)]at a;have d:tO e m c:=⟨by have:=h.1;simp at this;omega,fun j y b=>by rw[h.2 (j+1) y b];exact decide_eq_decide.2 (by omega)⟩
     rw[cS,qV a,Yo d (fun y b=>hw y (qF _ b)),hw x qC];refine Prod.ext ?_ rfl;simp only;unfold loM;rw[qZ (Nat.succ_ne_zero c),Nat.add_sub_cancel];cases c with
     | zero=>rfl
     | succ c =>
       rw[qZ (Nat.succ_ne_zero c),qZ (Nat.succ_ne_zero c),Nat.add_sub_cancel];rfl
section
variable {l:List jC}{e:jC}
theorem Ov(e:jC):∀x y,jb x y=true->jb y e=true->jb x e=true:=fun x y h k=>l9 h k
def gu(n K:Nat):Nat:=if K=n then dx n else(K+7)/8
theorem Oy(h:kG l):tO e (kt l) (gu l.length (l.countP fun x=>jb x e)):=by
 obtain⟨b,g⟩:=Z1 l;have i:=mc (q:=fun x=>jb x e) (Ov e) h;have p:l.countP (fun x=>jb x e)<=l.length:=List.countP_le_length;generalize l.countP (fun x=>jb x e)=K at*;refine⟨?_,fun j x c=>?_⟩
 ·rw[b];unfold gu dx;split
  ·exact qK _
  ·rw[qZ (by omega)];omega
 ·have a:j<dx l.length:=by rw[<-b];exact(qO.1 c).1
  obtain⟨y,o,d⟩:=g j a;rw[c]at d;have f:=qb d;rw[f];show jb y e=_;rw[show jb y e=decide (fe l.length j<K) from i _ y o];refine decide_eq_decide.2 ?_;unfold fe gu;unfold dx at a ⊢;split at a
  ·omega
  ·split<;>(try split)<;>omega
theorem Ou(h:kG l):∃lo hi:Nat,loM (kt l) (gu l.length (l.countP fun x=>jb x e))=(lo:Int)/\hiM (kt l) (gu l.length (l.countP fun x=>jb x e)) (l.length:Nat)=(hi:Int) /\
  lo<=l.countP (fun x=>jb x e)/\l.countP (fun x=>jb x e)<=hi/\hi<=l.length/\hi<=lo+7:=by
 obtain⟨b,c⟩:=Z1 l;have r:l.countP (fun x=>jb x e)<=l.length:=List.countP_le_length;generalize l.countP (fun x=>jb x e)=K at*
 have o:loM (kt l) (gu l.length K)=((if gu l.length K=0 then 0 else fe l.length (gu l.length K-1)+1:Nat):Int):=by
  unfold loM;split
  ·rfl
  ·rename_i d
   obtain⟨x,_,a⟩:=c (gu l.length K-1) (by
    unfold gu dx at d ⊢;split at d<;>split<;>split<;>(first|omega|(split at d<;>omega)))
   rw[a];simp
 have i:hiM (kt l) (gu l.length K) (l.length:Nat)=((if gu l.length K<dx l.length then fe l.length (gu l.length K) else l.length:Nat):Int):=by
  unfold hiM;split
  ·rename_i x a;have j:gu l.length K<dx l.length:=(by rw[<-b];exact(qO.1 a).1);obtain⟨y,_,p⟩:=c _ j;rw[a]at p;rw[qV j,qb p]
  ·rename_i a;rw[List.getElem?_eq_none_iff,b]at a;rw[qZ (by omega)]
 refine⟨_,_,o,i, ?_⟩;clear o i b c h;unfold fe gu dx;generalize l.length=n at*;by_cases f:n=0
 ·subst f;obtain rfl:K=0:=by omega
  simp
 ·rw[qZ f];by_cases g:K=n
  ·subst g;rw[qV rfl,qZ (by omega),qZ (by omega)];omega
  ·rw[qZ g];by_cases q:K=0
   ·subst q;simp
    try omega
   ·rw[qZ (by omega),qV (by omega)];omega
theorem Og(o:l.length<=1000000):∀x∈kt l,IntKind.i64.wrap (x.k+1)=x.k+1/\0<=x.k/\x.k<=1000000:=by
 intro x f;obtain⟨j,a⟩:=qd f;obtain⟨c,d⟩:=Z1 l;obtain⟨y,g,b⟩:=d j (by rw[<-c];exact(qO.1 a).1);rw[a]at b;have i:=(qO.1 g).1;rw[qb b];generalize fe l.length j=k at*;refine⟨qy _ ⟨?_, ?_⟩, ?_, ?_⟩<;>simp only<;>omega
end
end
section
open Go.RowKit
theorem jF.below{w w':World}{g:Nat}{t:TypeId}{cs:Array Value}(h:jF w g t cs)(a:Below w.1.size w w'):jF w' g t cs:=(a.block g h.lt).trans h
abbrev vG(w:World)(g:Nat)(h:Nat)(v p:Int):Prop:=jF w g 117 #[.int .u64 (h:Nat),v,p]
theorem vG.jY{w:World}{g h:Nat}{v p:Int}(H:vG w g h v p)(a:Nat):vG (w.setCell ⟨g,0,none⟩ (.int .u64 (a:Nat))) g a v p:=jF.put H 0 _
theorem vG.jX{w:World}{g h:Nat}{v p:Int}(H:vG w g h v p)(v':Int):vG (w.setCell ⟨g,1,none⟩ (.int .i64 v')) g h v' p:=jF.put H 1 _
theorem vG.jV{w:World}{g h:Nat}{v p:Int}(H:vG w g h v p)(a:Int):vG (w.setCell ⟨g,2,none⟩ (.int .i64 a)) g h v a:=jF.put H 2 _
theorem vG.facts{w:World}{g h:Nat}{v p:Int}(H:vG w g h v p):w.cell? ⟨g,0,none⟩=some (.int .u64 (h:Nat))/\w.cell? ⟨g,1,none⟩=some (.int .i64 v)/\w.cell? ⟨g,2,none⟩=some (.int .i64 p)/\w.frozen? ⟨g,0,none⟩=false/\w.frozen? ⟨g,1,none⟩=false/\w.frozen? ⟨g,2,none⟩=false :=
 ⟨jF.cell H 0,jF.cell H 1,jF.cell H 2,jF.frozen H 0,jF.frozen H 1,jF.frozen H 2⟩
theorem lf{w w2:World}{g:Nat}(h:Below w.1.size w w2)(d:w.1.size<=g)(a b c:Value):
  Below w.1.size w (((w2.setCell ⟨g,0,none⟩ a).setCell ⟨g,1,none⟩ b).setCell ⟨g,2,none⟩ c):=((h.setCell d _).setCell d _).setCell d _
theorem Yw(n:Nat)(h:n<18446744073709551616):(0<=IntKind.i64.wrap (n:Int)↔n<9223372036854775808)/\(n<9223372036854775808->IntKind.i64.wrap (n:Int)=n):=by
 rw[IntKind.wrap_i64];constructor
 ·omega
 ·intro;omega
theorem Ob{s:Tw}(d:s.size=24):mayE ⟨jz (s.extract 0 8),IntKind.i64.wrap (enV s:Nat),IntKind.i64.wrap (enP s:Nat)⟩=vg s/\(vg s=true->enG s=⟨jz (s.extract 0 8),IntKind.i64.wrap (enV s:Nat),IntKind.i64.wrap (enP s:Nat)⟩):=by
 have a:=Yw (enV s) (pB _);have b:=Yw (enP s) (pB _);constructor
 ·unfold mayE vg;rw[decide_eq_decide];simp only;rw[a.1,b.1];exact⟨fun h=>⟨d,h⟩,fun h=>h.2⟩
 ·intro h;have c:=of_decide_eq_true h;unfold enG;rw[qV h,a.2 c.2.1,b.2 c.2.2]
theorem Oc(s:Tw)(w:World)(f:s.size<=maxLen)(u:s.size≠24):
  Calls prog 224 #[s] w (X3 (.tuple #[kv ⟨0,0,0⟩,.bool false]) w):=by
 unfold maxLen at f;have t:((s.size:Int) != 24)=true:=by simp;omega
 have a:vG (w.alloc (.cells #[.int .u64 ((0:Nat):Int),.int .i64 0,.int .i64 0] 117)) w.1.size 0 0 0:=jF.new _ _ _;have d:=(qU w.1.size w).alloc (qK _) (.cells #[.int .u64 ((0:Nat):Int),.int .i64 0,.int .i64 0] 117);obtain⟨c,b⟩:∃c,w.alloc (.cells #[.int .u64 ((0:Nat):Int),.int .i64 0,.int .i64 0] 117)=c:=⟨_,rfl⟩
 rw[b]at a d;have r:w.alloc (.cells #[.int .u64 0,.int .i64 0,.int .i64 0] 117)=c:=b;clear b;obtain⟨g,i,j,o,p,q⟩:=a.facts;clear a;go_enter func224,ntmps224;go_wp2;exact bodyPost_ret (v:=.tuple #[kv ⟨0,0,0⟩,.bool false]) (by simp[results,Tryz.results224,go_sem,g,i,j]) rfl ⟨rfl,lf d (qK _) _ _ _⟩
theorem Od(s:Tw)(w:World)(Q:s.size=24):
  Calls prog 224 #[s] w (X3 (.tuple #[kv (enG s),.bool (vg s)]) w):=by
 have K:=qQ fun W=>dZ (s.extract 0 8) W (by unfold maxLen;rw[qk];omega)
 have L:=qQ fun W=>dZ (s.extract 8 16) W (by unfold maxLen;rw[qk];omega)
 have M:=qQ fun W=>dZ (s.extract 16 24) W (by unfold maxLen;rw[qk];omega)
 obtain⟨I,r⟩:=Ob Q;have g:=fun W=>ZO ⟨jz (s.extract 0 8),IntKind.i64.wrap (enV s:Nat),IntKind.i64.wrap (enP s:Nat)⟩ W
 rw[I]at g;have i:=qQ g;have D:=Vu (s:=s);unfold enV enP at*;clear g I;generalize jz (s.extract 0 8)=h at*;generalize jz (s.extract 8 16)=S at*;generalize jz (s.extract 16 24)=R at*;obtain⟨v,O⟩:∃v,IntKind.i64.wrap (S:Int)=v:=⟨_,rfl⟩
 obtain⟨p,N⟩:∃p,IntKind.i64.wrap (R:Int)=p:=⟨_,rfl⟩
 rw[O,N]at i r;have t:((s.size:Int) != 24)=false:=by simp;omega
 have a:vG (w.alloc (.cells #[.int .u64 ((0:Nat):Int),.int .i64 0,.int .i64 0] 117)) w.1.size 0 0 0:=jF.new _ _ _;have j:=(qU w.1.size w).alloc (qK _) (.cells #[.int .u64 ((0:Nat):Int),.int .i64 0,.int .i64 0] 117);obtain⟨u,q⟩:∃u,w.alloc (.cells #[.int .u64 ((0:Nat):Int),.int .i64 0,.int .i64 0] 117)=u:=⟨_,rfl⟩
 rw[q]at a j;have P:w.alloc (.cells #[.int .u64 0,.int .i64 0,.int .i64 0] 117)=u:=q;clear q;have y:=qQ (a.jY h);obtain⟨c,d,f,A,B,C⟩:=a.facts;clear a;cases b:vg s
 all_goals
  rw[b]at i
  first|rw[D b]|rw[r b]
  clear D r b;go_enter func224,ntmps224;go_wp2_with fail;refine X5 (K.out _) ?_;go_wp2_with fail;refine X5 (L.out _) ?_;go_wp2_with fail;refine X5 (M.out _) ?_;have z:=qQ ((y.out.jX v).jV p);have F:=lf j (qK _) (.int .u64 (h:Nat)) (.int .i64 v) (.int .i64 p);clear y;go_wp2_with fail;refine(i.out _).mono ?_;rintro e T⟨rfl,o⟩;have H:=bj F o;have J:vG T w.1.size h v p:=jF.below z.out o;clear c d f A B C o F z j P;obtain⟨c,d,f,A,B,C⟩:=J.facts;go_wp2
  first
  | exact bodyPost_ret (v:=.tuple #[kv ⟨0,0,0⟩,.bool false]) (by simp[results,Tryz.results224,go_sem,c,d,f]) rfl ⟨rfl,lf H (qK _) _ _ _⟩
  | exact bodyPost_ret (v:=.tuple #[kv ⟨h,v,p⟩,.bool true]) (by simp[results,Tryz.results224,go_sem,c,d,f]) rfl ⟨rfl,lf H (qK _) _ _ _⟩
theorem UQ(s:Tw)(w:World)(b:s.size<=maxLen):
  Calls prog 224 #[s] w (X3 (.tuple #[kv (enG s),.bool (vg s)]) w):=by
 by_cases a:s.size=24
 ·exact Od s w a
 ·have h:=M5 a;rw[Vu h,h];exact Oc s w b a
end
section
open Go.RowKit Go.Shelf
theorem Of: Enters prog 256:=enters_of func256 (by kernel_rfl) rfl
theorem Oh: Enters prog 257:=enters_of func257 (by kernel_rfl) rfl
theorem Ol(x y:jC)(g:Nat)(W:World)(b:vG W g y.h y.v y.p):
  Calls prog 256 #[kv x,.pointer (some ⟨g,0,none⟩)] W fun e d=>e=.returned (.bool (jb x y))/\Below W.1.size W d:=by
 have c:=qQ fun W=>oC x y W
 have a:vG (W.alloc (.cells #[.int .u64 (x.h:Nat),x.v,x.p] 117)) g y.h y.v y.p:=jF.alloc b _;obtain⟨o,q,r,-,-,-⟩:=a.facts;have f:=(qU W.1.size W).alloc (qK _) (.cells #[.int .u64 (x.h:Nat),x.v,x.p] 117);clear b a;obtain⟨h,v,p⟩:=x;obtain⟨j,v',s⟩:=y;go_enter func256,ntmps256;go_wp2_with fail;refine(c.out _).mono ?_;rintro e u⟨rfl,i⟩;go_wp2;go_ret;exact⟨rfl,bj f i⟩
theorem Om(x y:jC)(g:Nat)(W:World)(b:vG W g y.h y.v y.p):
  Calls prog 257 #[kv x,.pointer (some ⟨g,0,none⟩)] W fun e d=>e=.returned (.bool (!jb y x))/\Below W.1.size W d:=by
 have c:=qQ fun W=>oC y x W
 have a:vG (W.alloc (.cells #[.int .u64 (x.h:Nat),x.v,x.p] 117)) g y.h y.v y.p:=jF.alloc b _;obtain⟨o,q,r,-,-,-⟩:=a.facts;have f:=(qU W.1.size W).alloc (qK _) (.cells #[.int .u64 (x.h:Nat),x.v,x.p] 117);clear b a;obtain⟨h,v,p⟩:=x;obtain⟨j,v',s⟩:=y;go_enter func257,ntmps257;go_wp2_with fail;refine(c.out _).mono ?_;rintro e u⟨rfl,i⟩;go_wp2;go_ret;exact⟨rfl,bj f i⟩
def fi(l:List jC)(h:Nat)(v:Int):Nat:=l.countP (uF h v)
theorem UX{l:List jC}(a:kG l)(h:Nat)(v:Int):uV (gS h v) l (mg l h v):=mc (Vh h v) a
theorem Z2{l:List jC}(a:kG l)(h:Nat)(v:Int):uV (uF h v) l (fi l h v):=mc (Xl h v) a
theorem rX(q:jC->Bool)(l:List jC):l.countP q<=l.length:=List.countP_le_length
theorem On{x:jC}{h:Nat}{v:Int}(a:kz x):jb x ⟨h,v,-9223372036854775808⟩=gS h v x:=by
 unfold jb gS;rw[decide_eq_decide];have:=a.p0;simp only;omega
theorem Ot{x:jC}{h:Nat}{v:Int}(a:kz x):(!jb ⟨h,v,9223372036854775807⟩ x)=uF h v x:=by
 unfold jb uF;rw[<-decide_not,decide_eq_decide];have:=a.p1;simp only;omega
theorem Oa(v:Value)(l:List jC)(h:Nat)(n:Int)(w:World)(j:kC w v l)(p:l.length<=1000000)(q:∀x∈l,kz x)(r:kG l):
  Calls prog 218 #[v,.int .u64 (h:Nat),n] w (X3 (.int .i64 (mg l h n:Nat)) w):=by
 have b:vG (w.alloc (.cells #[.int .u64 (h:Nat),n,.int .i64 (-9223372036854775808)] 117)) w.1.size h n (-9223372036854775808):=jF.new _ _ _;have a:=(qU w.1.size w).alloc (qK _) (.cells #[.int .u64 (h:Nat),n,.int .i64 (-9223372036854775808)] 117);have o:=j.below a (qK _);have F:∀(d:Fn) (first c:Array Value) (w:World),(Instr.makeFunc d first c).run prog w=.ok (.func d first c) w:=fun _ _ _ _=>rfl
 have g:Enters prog 256:=Of
 have hcut:uV (fun x=>jb x ⟨h,n,-9223372036854775808⟩) l (mg l h n):=fun i x s=>by
  have:=UX r h n i x s;rw[<-this];exact On (q x (qM s))
 have C:mg l h n<=l.length:=rX _ l;generalize mg l h n=K at*;have z:=qQ (Yn 256 w.1.size (fun x=>jb x ⟨h,n,-9223372036854775808⟩) v l _ o p g (fun x W A=>Ol x ⟨h,n,-9223372036854775808⟩ w.1.size W (jF.below b A)));have y:=qQ hcut;have u:=qQ a;clear j p q r b o hcut a g;go_enter func218,ntmps218;go_wp2_with fail;refine z.out.mono ?_;rintro e H⟨k,D,rfl,f,B⟩;obtain rfl:=f K C y.out;clear f;go_wp2;go_ret;exact⟨rfl,bj u.out B⟩
theorem UZ(v:Value)(l:List jC)(h:Nat)(n:Int)(w:World)(j:kC w v l)(p:l.length<=1000000)(q:∀x∈l,kz x)(r:kG l):
  Calls prog 219 #[v,.int .u64 (h:Nat),n] w (X3 (.int .i64 (fi l h n:Nat)) w):=by
 have b:vG (w.alloc (.cells #[.int .u64 (h:Nat),n,.int .i64 9223372036854775807] 117)) w.1.size h n 9223372036854775807:=jF.new _ _ _;have a:=(qU w.1.size w).alloc (qK _) (.cells #[.int .u64 (h:Nat),n,.int .i64 9223372036854775807] 117);have o:=j.below a (qK _);have F:∀(d:Fn) (first c:Array Value) (w:World),(Instr.makeFunc d first c).run prog w=.ok (.func d first c) w:=fun _ _ _ _=>rfl
 have g:Enters prog 257:=Oh
 have hcut:uV (fun x=>!jb ⟨h,n,9223372036854775807⟩ x) l (fi l h n):=fun i x s=>by
  have:=Z2 r h n i x s;rw[<-this];exact Ot (q x (qM s))
 have C:fi l h n<=l.length:=rX _ l;generalize fi l h n=K at*;have z:=qQ (Yn 257 w.1.size (fun x=>!jb ⟨h,n,9223372036854775807⟩ x) v l _ o p g (fun x W A=>Om x ⟨h,n,9223372036854775807⟩ w.1.size W (jF.below b A)));have y:=qQ hcut;have u:=qQ a;clear j p q r b o hcut a g;go_enter func219,ntmps219;go_wp2_with fail;refine z.out.mono ?_;rintro e H⟨k,D,rfl,f,B⟩;obtain rfl:=f K C y.out;clear f;go_wp2;go_ret;exact⟨rfl,bj u.out B⟩
theorem UJ(A:Option Addr)(n c:Nat)(w:World):(binOp .eql 112 (.slice A n c) (.slice none 0 0)).run prog w=.ok (.bool A.isNone) w:=by
 have a:=run_equal_slice_nil (P:=prog) w 112 117 A n c Tryz.underlying112;simp only[binOp];simp[a]
def dY(w:World)(l:List jC)(e:Ending)(w':World):Prop:=∃A c,e=.returned (.slice A l.length c)/\jy w' w.1.size (.slice A l.length c) l/\Below w.1.size w w'
theorem UK(v:Value)(l:List jC)(w:World)(h:kC w v l)(s:l.length<=500000):Calls prog 113 #[v] w (dY w l):=by
 obtain⟨A,off,o,rfl,-,-⟩:=h.form;cases A with
 | none =>
   have J:l=[]:=by
    rcases h with⟨e,_⟩|⟨b,M,L,e,_⟩
    ·exact e
    ·cases e
   subst J;have K:=fun W=>UJ none 0 o W
   clear h s;go_enter func113,ntmps113;go_wp2;go_ret;exact⟨none,0,rfl,jy.nil _ _,qU _ _⟩
 | some a =>
   have f:=(qU w.1.size w).alloc (qK _) (.cells #[] 117);have u:jy (w.alloc (.cells #[] 117)) w.1.size (.slice (some ⟨w.1.size,0,none⟩) 0 0) []:=World.ownsRow_made w #[] 0 (qK _) (qI _) rfl;have q:=h.below f (qK _);obtain⟨z,F,w',c,d,p,H⟩:=pw u q (by simp;omega) (by simp) 112;have r:=f.trans (rQ p (B:=w.1.size) (by simp) (fun k I=>by simp[Value.ownBlock]at I;omega));have D:=qQ r;rw[List.nil_append]at d;have y:([]:List jC).length+l.length=l.length:=(by simp);rw[y]at c d;have i:=qQ d;clear h s f u q d p H r y;obtain⟨m,g⟩:∃m,m=l.length:=⟨_,rfl⟩
   have j:=qQ g;rw[<-g]at c i ⊢;clear g;have C:=qQ c;have K:=fun W=>UJ (some a) m o W
   clear c;go_enter func113,ntmps113;go_wp2_with (first|(at_builtin;refine yK rfl _ _ rfl rfl rfl C.out ?_)|fail);go_ret;exact⟨z,F,by rw[<-j.out];rfl,by rw[<-j.out];exact i.out,D.out⟩
theorem tP{w:World}{A:Option Addr}{n c i:Nat}{l:List jC}{x:jC}(h:kC w (.slice A n c) l)(g:l[i]? = some x):∃b off,A=some ⟨b,off,none⟩/\n=l.length/\b<w.1.size/\w.cell? ⟨b,off+i*3,none⟩=some (.int .u64 (x.h:Nat))/\w.cell? ⟨b,off+i*3+1,none⟩=some (.int .i64 x.v)/\w.cell? ⟨b,off+i*3+2,none⟩=some (.int .i64 x.p):=by
 obtain⟨j,off,o,e,_,f⟩:=h.form;obtain⟨rfl,rfl,rfl⟩:=Value.slice.inj e;obtain⟨b,a,d⟩:=f i x g;exact⟨b,off,a,rfl,d⟩
theorem UV(v:Value)(l:List jC)(h:Nat)(a b:Int)(w:World)(c:kC w v l)(hn:l.length<=500000)(u:∀x∈l,kz x)(f:kG l):
  Calls prog 165 #[v,.int .u64 (h:Nat),a,b] w (dY w (vQ l h a b)):=by
 have y:=qQ (Oa v l h a w c (by omega) u f);have z:=qQ fun W o=>UZ v l h b W (c.below o (qK _)) (by omega) u f
 have s:=Mq (UX f h a) (Z2 f h b);have l1:mg l h a<=l.length:=rX _ l;have U:fi l h b<=l.length:=rX _ l;have M:=qQ s;rw[s];generalize mg l h a=i at*;generalize fi l h b=j at*;obtain⟨A,off,D,rfl,-,-⟩:=c.form;clear s u f;by_cases S:i<j
 ·obtain⟨Z,c',hs,I⟩:=O7 c (Nat.le_of_lt S) U;have H:((l.drop i).take (j-i)).length=j-i:=by rw[qT,xQ];omega
  have K:=qQ fun B W P o=>UK _ _ W (I B W P o) (by rw[H];omega)
  have t:decide ((j:Int)<=(i:Int))=false:=qA (by omega);clear I c H;generalize l.length=n at*;generalize (l.drop i).take (j-i)=L at*;go_enter func165,ntmps165;go_wp2_with fail;refine y.out.mono ?_;rintro e X⟨rfl,d⟩;go_wp2_with fail;refine(z.out _ d).mono ?_;rintro e Y⟨rfl,q⟩;have p:=bj d q;go_wp2_with fail;refine(K.out _ _ (qK _) p).mono ?_;rintro e w3⟨A3,c3,rfl,J,Q⟩;have C:=qQ J;clear J;go_wp2;go_ret
  exact⟨_,_,rfl,⟨C.out.1,by
   rcases C.out.2 with O|⟨g,D,N,T,R,r⟩
   ·exact qX O
   ·exact qY ⟨g,D,N,T,qR p.size R,r⟩⟩,bj p Q⟩
 ·have F:(l.drop i).take (j-i)=[]:=by rw[show j-i=0 by omega,List.take_zero]
  rw[F];have t:decide ((j:Int)<=(i:Int))=true:=qB (by omega);clear c M F;generalize l.length=n at*;go_enter func165,ntmps165;go_wp2_with fail;refine y.out.mono ?_;rintro e X⟨rfl,d⟩;go_wp2_with fail;refine(z.out _ d).mono ?_;rintro e Y⟨rfl,q⟩;go_wp2;go_ret;exact⟨none,0,rfl,jy.nil _ _,bj d q⟩
end
section
open Go.RowKit
theorem oF{W0 W:World}{p:Addr}{v:Value}(h:Below W0.1.size W0 W)(b:p.block<W0.1.size)(a:W0.cell? p=some v):W.cell? p=some v:=(h.cell b).trans a
theorem Z4{f:Nat}{w1:World}{b h v p n:Nat}(i:n<18446744073709551616)(g:∀W,Calls prog f #[.int .u64 (n:Nat),.int .i64 8] W (X3 (.string (bs (be 8 n))) W))(W:World)
  (a:Below w1.1.size w1 W/\W.cell? ⟨b,0,none⟩=some (.int .u64 (h:Nat))/\W.cell? ⟨b,1,none⟩=some (.int .i64 (v:Nat))/\W.cell? ⟨b,2,none⟩=some (.int .i64 (p:Nat))):
  Calls prog f #[.int .u64 (n:Nat),.int .i64 8] W (X3 (.string (bs (be 8 n))) w1):=(g W).mono fun e w' ⟨d,c⟩=>⟨d,bj a.1 c⟩
theorem Oe(x:jC)(w:World)(b:mayE x=false):
  Calls prog 149 #[kv x] w (X3 (.string (vP x)) w):=by
 have a:=fun W=>ZO x W
 rw[b]at a;rw[tZ b];have c:=qQ a;obtain⟨h,v,p⟩:=x;clear a b;go_enter func149,ntmps149;go_wp2_with fail;refine(c.out _).mono ?_;rintro e f⟨rfl,d⟩;go_wp2;go_ret;exact⟨rfl,((qU _ _).alloc (qK _) _).trans (d.mono (by simp))⟩
theorem Oi(h v p:Nat)(w:World)(y:h<18446744073709551616)(H:v<9223372036854775808)(F:p<9223372036854775808):
  Calls prog 149 #[kv ⟨h,(v:Nat),(p:Nat)⟩] w (X3 (.string (vP ⟨h,(v:Nat),(p:Nat)⟩)) w):=by
 have g:mayE ⟨h,(v:Nat),(p:Nat)⟩=true:=qB ⟨by show(0:Int)<=(v:Int);omega,by show(0:Int)<=(p:Int);omega⟩;have f:=fun W=>ZO ⟨h,(v:Nat),(p:Nat)⟩ W
 rw[g]at f;have i:=qQ f;have j:=qQ fun W=>bK h 8 W (by omega) (by omega) y
 have o:=qQ fun W=>bK v 8 W (by omega) (by omega) (by omega)
 have q:=qQ fun W=>bK p 8 W (by omega) (by omega) (by omega)
 have d:=qQ (qG y (qG H F));have z:(bs (be 8 h)).size=8:=by rw[kK,jn]
 have A:(bs (be 8 v)).size=8:=by rw[kK,jn]
 have M:(bs (be 8 p)).size=8:=by rw[kK,jn]
 have e:vP ⟨h,(v:Nat),(p:Nat)⟩=bs (be 8 h)++bs (be 8 v)++bs (be 8 p):=by
  unfold vP;rw[qV g,cZ,cZ];unfold uh;rw[qn];rfl
 have T:∀w:World,(Op.stringOp .add (bs (be 8 h)) (bs (be 8 v))).run prog w=.ok (.string (bs (be 8 h)++bs (be 8 v))) w:=fun w=>run_string_add_sum (P:=prog) (w:=w) _ _ (by omega)
 have N:(bs (be 8 h)++bs (be 8 v)).size=16:=by rw[qx,z,A]
 have U:∀w:World,(Op.stringOp .add (bs (be 8 h)++bs (be 8 v)) (bs (be 8 p))).run prog w=.ok (.string (vP ⟨h,(v:Nat),(p:Nat)⟩)) w:=fun w=>by rw[e];exact run_string_add_sum (P:=prog) (w:=w) _ _ (by omega)
 generalize vP ⟨h,(v:Nat),(p:Nat)⟩=X at*;clear e f g;go_enter func149,ntmps149;go_wp2_with fail;refine KG (i.out _) fun w1 a=>?_;have I:=a.size;rw[World.size_alloc]at I;have J:w1.cell? ⟨w.1.size,0,none⟩=some (.int .u64 (h:Nat)):=oF a (by simp) (World.cell?_alloc_at _ _ _ _ rfl);have K:w1.cell? ⟨w.1.size,1,none⟩=some (.int .i64 (v:Nat)):=oF a (by simp) (World.cell?_alloc_at _ _ _ _ rfl);have L:w1.cell? ⟨w.1.size,2,none⟩=some (.int .i64 (p:Nat)):=oF a (by simp) (World.cell?_alloc_at _ _ _ _ rfl);have u:Below w.1.size w w1:=((qU _ _).alloc (qK _) _).trans (a.mono (by simp))
 have r:Hid (∀W,Below w1.1.size w1 W->Below w1.1.size w1 W/\W.cell? ⟨w.1.size,0,none⟩=some (.int .u64 (h:Nat))/\W.cell? ⟨w.1.size,1,none⟩=some (.int .i64 (v:Nat))/\W.cell? ⟨w.1.size,2,none⟩=some (.int .i64 (p:Nat))) :=
  qQ fun W c=>⟨c,oF c (show w.1.size<_ by omega) J,oF c (show w.1.size<_ by omega) K,oF c (show w.1.size<_ by omega) L⟩
 have B:=qQ (Z4 (w1:=w1) (b:=w.1.size) (h:=h) (v:=v) (p:=p) d.out.1 j.out);have C:=qQ (Z4 (w1:=w1) (b:=w.1.size) (h:=h) (v:=v) (p:=p) (n:=v) (by have:=d.out;omega) o.out);have D:=qQ (Z4 (w1:=w1) (b:=w.1.size) (h:=h) (v:=v) (p:=p) (n:=p) (by have:=d.out;omega) q.out);generalize bs (be 8 h)++bs (be 8 v)=Q at*;generalize bs (be 8 h)=O at*;generalize bs (be 8 v)=R at*;generalize bs (be 8 p)=S at*;have Y:IntKind.u64.wrap ((v:Nat):Int)=(v:Nat):=IntWalk.u64_in _ ⟨by omega,by omega⟩;have Z:IntKind.u64.wrap ((p:Nat):Int)=(p:Nat):=IntWalk.u64_in _ ⟨by omega,by omega⟩;clear a j o q i z A M N;go_wp2_with fail
 go_region_held3 (fun W=>Below w1.1.size w1 W/\W.cell? ⟨w.1.size,0,none⟩=some (.int .u64 (h:Nat))/\W.cell? ⟨w.1.size,1,none⟩=some (.int .i64 (v:Nat))/\W.cell? ⟨w.1.size,2,none⟩=some (.int .i64 (p:Nat)))
  (first|assumption|exact r.out _ (by assumption)|exact r.out _ (qU _ _).drew|fail) (first
  | (go_at_call 142;((with_reducible refine KG (B.out _ (by assumption)) fun w' s=>?_)))
  | (go_at_call 142;((with_reducible refine KG (C.out _ (by assumption)) fun w' s=>?_)))
  | (go_at_call 142;((with_reducible refine KG (D.out _ (by assumption)) fun w' s=>?_)))
  | fail)
 all_goals
  go_wp2;go_ret;exact⟨rfl,u.trans ((And.left (‹Below w1.1.size w1 _/\_›)).mono u.size)⟩
theorem Oo{x:jC}(b:kz x)(a:mayE x=true):∃v p:Nat,x=⟨x.h,(v:Nat),(p:Nat)⟩/\v<9223372036854775808/\p<9223372036854775808:=by
 have h:=of_decide_eq_true a;obtain⟨c,d,f,g,i⟩:=b;exact⟨x.v.toNat,x.p.toNat,oZ rfl (by show x.v=((x.v.toNat:Nat):Int);omega) (by show x.p=((x.p.toNat:Nat):Int);omega),by omega,by omega⟩
theorem UY(x:jC)(w:World)(b:kz x):
  Calls prog 149 #[kv x] w (X3 (.string (vP x)) w):=by
 cases a:mayE x with
 | false=>exact Oe x w a
 | true =>
   obtain⟨v,p,e,d,c⟩:=Oo b a;rw[e];exact Oi x.h v p w b.h d c
end
section
open Go.RowKit Go.Shelf
theorem Ow{C:Array Oper}{o:Oper}{a:Act}{w:World}{K:Act->World->Prop}{Q:Exit->Act->World->Prop}{E:Prop}{vs b:Value}{base:Nat}{l m:List jC}(p:o.guard=none)(s x:Operand)
  (r:o.op=.call { callee:=.builtin .append,args:=#[s,x],argTypes:=#[112,112] }) (y:a.eval s=vs) (B:a.eval x=b)
  (u:jy w base vs l) (z:kC w b m) (q:l.length+m.length<=1000000) (j:base<=w.1.size)
  (h:∀v' w',jy w' base v' (l++m)->w.grownBy w' vs.ownBlock->(v'.ownBlock=vs.ownBlock∨v'.ownBlock=some w.1.size)->K (a.put o.dst v') w'):
  if Region.wanted o (yielded C a.tmps)=true then Oper.wp prog o a w K Q else E:=by
 obtain⟨A,c,w',d,f,g,i⟩:=pw u z q j o.type;exact Qm p s x _ r y B d (h _ w' f g i)
theorem jy.shape{w:World}{base:Nat}{v:Value}{l:List jC}(h:jy w base v l):∃A c,v=.slice A l.length c/\jy w base (.slice A l.length c) l:=by
 obtain⟨A,c,rfl,-,-,-⟩:=v8 h;exact⟨A,c,rfl,h⟩
section
variable {wc W V:World}{vs v':Value}{base:Nat}
theorem rZ(h:Below wc.1.size wc W)(o:Obj):Below wc.1.size wc (W.alloc o):=h.alloc h.size o
theorem UU(h:Below wc.1.size wc W)(b:W.grownBy V vs.ownBlock)(a:∀k,vs.ownBlock=some k->wc.1.size<=k):Below wc.1.size wc V:=h.trans (rQ b h.size a)
theorem UG: ∀k,(Value.slice none 0 0).ownBlock=some k->wc.1.size<=k:=fun k h=>by cases h
theorem UW(h:Below wc.1.size wc W)(c:∀k,vs.ownBlock=some k->wc.1.size<=k)(b:v'.ownBlock=vs.ownBlock∨v'.ownBlock=some W.1.size):∀k,v'.ownBlock=some k->wc.1.size<=k:=by
 intro k a;rcases b with e|e
 ·exact c k (e.symm.trans a)
 ·rw[e]at a;injection a with a;rw[<-a];exact h.size
end
end
section
open Go.RowKit Go.Shelf
attribute [local go_sem ↓] Go.wp_at_zero Go.wp_at_succ
def tR(w:World)(l:List vT)(e:Ending)(w':World):Prop:=∃A c,e=.returned (.slice A l.length c)/\yC w' w.1.size (.slice A l.length c) l/\Below w.1.size w w'
theorem PQ{w:World}{base k:Nat}{v:Value}{l:List jC}{x:jC}(i:yC w base v (yD l k))(a:l[k]? = some x)(f:dV l.length k=true)(z:l.length<=10000)(q:base<=w.1.size)(ty:TypeId){g:Nat}(r:w.1.size=g):
  ∃w' u,(Builtin.append_ #[234,234] ty #[v,.slice (some ⟨g,0,none⟩) 1 1]).run prog (w.alloc (.cells #[.int .u64 (x.h:Nat),x.v,x.p,k] 304))=.ok u w' /\
   (∃A c,u=.slice A (yD l (k+1)).length c/\yC w' base (.slice A (yD l (k+1)).length c) (yD l (k+1)))/\Below base w w':=by
 subst r;have s:k<l.length:=(qO.1 a).1;have y:=ZT l k;have h:=Oz (yC.alloc i (.cells #[.int .u64 (x.h:Nat),x.v,x.p,k] 304)) (Ox w ⟨x,(k:Nat)⟩) (by simp;omega) (by simp;omega) ty;rw[<-tN a f]at h;obtain⟨A,c,w',b,d,j,-⟩:=h;have o:(yD l k).length+[(⟨x,(k:Nat)⟩:vT)].length=(yD l (k+1)).length:=by rw[tN a f,qN]
 rw[o]at b d;refine⟨w',_,b,⟨A,c,rfl,d⟩, ?_⟩;exact((qU base w).alloc q _).trans (rQ j (by simp;omega) (yC.block i))
theorem PX(v:Value)(l:List jC)(w:World)(U:kC w v l)(X:l.length<=10000):
  Calls prog 233 #[v] w (tR w (kt l)):=by
 obtain⟨A0,off,ae,rfl,-,T⟩:=U.form;have HC:=qQ T;have f:=qQ (show tR w (kt l)=tR w (yD l l.length) from rfl);generalize kt l=R at*;obtain⟨n,P⟩:∃n,n=l.length:=⟨_,rfl⟩
 have I:=qQ P;rw[<-P]at X f ⊢;clear U T P;go_enter func233,ntmps233;go_wp2;go_loopw [3,8] (fun u i wr=>∃k:Nat,k<=n/\i=.int .i64 k/\(∃A c,u=.slice A (yD l k).length c/\yC wr w.1.size (.slice A (yD l k).length c) (yD l k))/\Below w.1.size w wr) (fun _ i _=>n-(intOf i).toNat)
 case atStart=>exact⟨0,qI _,rfl,⟨none,0,rfl,yC.nil _ _⟩,qU _ _⟩
 case round =>
  obtain⟨k,hk,rfl,⟨F,c1,rfl,o⟩,a⟩:=hrel;by_cases ad:k<n
  ·have s1:(k:Int)<(n:Int):=(by omega);obtain⟨x,s⟩:∃x,l[k]? = some x:=⟨_,qD (by rw[<-I.out];omega)⟩
   obtain⟨J,rfl,O,B,C,D⟩:=HC.out k x s;have Y:=(a.cell (p:=⟨J,off+k*3,none⟩) O).trans B;have Z:=(a.cell (p:=⟨J,off+k*3+1,none⟩) O).trans C;have k2:=(a.cell (p:=⟨J,off+k*3+2,none⟩) O).trans D;have r:=yC.alloc o (.cells #[.int .u64 (x.h:Nat),.int .i64 x.v,.int .i64 x.p] 117);have j:=a.alloc a.size (.cells #[.int .u64 (x.h:Nat),.int .i64 x.v,.int .i64 x.p] 117);have e9:IntKind.i64.wrap ((n:Int)-1)=(n:Int)-1:=qy _ ⟨by omega,by omega⟩;have z:=qQ (Ye (l:=l) (k:=k));have b:dV l.length k=(decide (k%8=0)||decide (k+1=n)):=(by rw[I.out];rfl);cases d:dV l.length k
   ·have t1:((k:Int)%8==0)=false:=by
     rw[d]at b;have:=(Bool.or_eq_false_iff.1 b.symm).1;have:=of_decide_eq_false this;exact qg.2 (by omega)
    have t2:((k:Int)==(n:Int)-1)=false:=by
     rw[d]at b;have:=(Bool.or_eq_false_iff.1 b.symm).2;have:=of_decide_eq_false this;exact qg.2 (by omega)
    have ab:=qQ (z.out d);have ac:=qQ r;have aa:=qQ j;have HB:=qQ a;generalize yD l k=L at*;clear s B C D o r a j b d z f;obtain⟨xh,xv,xp⟩:=x;simp only at Y Z k2;go_wp2;go_roundw
    case rel=>exact⟨k+1,by omega,by go_num,by rw[ab.out];exact⟨F,c1,rfl,ac.out⟩,aa.out⟩
    case measure=>simp[intOf];omega
   ·obtain⟨w',u,K,M,N⟩:=PQ r s d (by rw[<-I.out];exact X) j.size 234 (g:=wr.1.size+1) (by simp);have H:=qQ K;have y:=qQ M;have S:=qQ (j.trans N);rw[d]at b;have Q:=Bool.or_eq_true_iff.1 b.symm;obtain⟨xh,xv,xp⟩:=x;simp only at Y Z k2 H;generalize (yD l k).length=ll at*;by_cases h8:k%8=0
    ·have t1:((k:Int)%8==0)=true:=beq_iff_eq.2 (by omega);clear s B C D o r a j b d z f K M N Q;go_wp2_with (first|(at_builtin;refine yK rfl _ _ rfl rfl rfl H.out ?_)|fail);go_roundw
     case rel=>exact⟨k+1,by omega,by go_num,y.out,S.out⟩
     case measure=>simp[intOf];omega
    ·have t1:((k:Int)%8==0)=false:=qg.2 (by omega)
     have t2:((k:Int)==(n:Int)-1)=true:=by
      rcases Q with q|q
      ·exact absurd (of_decide_eq_true q) h8
      ·have:=of_decide_eq_true q;exact beq_iff_eq.2 (by omega)
     clear s B C D o r a j b d z f K M N Q;go_wp2_with (first|(at_builtin;refine yK rfl _ _ rfl rfl rfl H.out ?_)|fail);go_roundw
     case rel=>exact⟨k+1,by omega,by go_num,y.out,S.out⟩
     case measure=>simp[intOf];omega
  ·obtain rfl:k=n:=(by omega);have s1:¬(k:Int)<(k:Int):=(by omega);have y:=qQ (show tR w R (.returned (.slice F (yD l k).length c1)) wr by rw[f.out];exact⟨F,c1,rfl,o,a⟩);clear ad o f;generalize yD l k=L at*;go_wp2;go_ret;exact y.out
end
section
open Go.RowKit Go.Shelf
attribute [local go_sem ↓] Go.wp_at_zero Go.wp_at_succ
def Z5(r:Int × Int)(w:World)(e:Ending)(w':World):Prop:=e=.returned (.tuple #[r.1,r.2])/\Below w.1.size w w'
theorem PZ(lo hi many a p b q:Int)(c:(if 0>lo then 0 else lo)=a)(d:(if many<a then many else a)=p)(f:(if p>hi then p else hi)=b)(g:(if many<b then many else b)=q):dz lo hi many=(p,q):=by
 unfold dz;refine Prod.ext ?_ ?_<;>simp only<;>subst g f d c<;>(repeat' split)<;>omega
theorem UA(lo hi many:Int)(w:World):
  Calls prog 260 #[lo,hi,many] w (Z5 (dz lo hi many) w):=by
 obtain⟨a,c⟩:∃a:Int,(if 0>lo then 0 else lo)=a:=⟨_,rfl⟩
 obtain⟨p,d⟩:∃p:Int,(if many<a then many else a)=p:=⟨_,rfl⟩
 obtain⟨b,f⟩:∃b:Int,(if p>hi then p else hi)=b:=⟨_,rfl⟩
 obtain⟨q,g⟩:∃q:Int,(if many<b then many else b)=q:=⟨_,rfl⟩
 rw[PZ lo hi many a p b q c d f g];go_enter func260,ntmps260;go_wp2;go_ret2;exact⟨rfl,qU _ _⟩
def oH(x:jC)(m:List vT)(many:Int):Int × Int:=dz (cS x m 0 (max many 0)).1 (cS x m 0 (max many 0)).2 (max many 0)
theorem PJ(v:Value)(m:List vT)(many:Int)(x:jC)(w:World)(hm:bW w v m)(hn:m.length<=1000000):
  Calls prog 222 #[v,many,kv x] w (Z5 (oH x m many) w):=by
 obtain⟨A0,off,ak,rfl,ai,ac⟩:=hm.form;have HC:=qQ ac;obtain⟨n,aa⟩:∃n,n=m.length:=⟨_,rfl⟩
 have J:=qQ aa;obtain⟨a,aj⟩:∃a,(if 0>many then 0 else many)=a:=⟨_,rfl⟩
 have ab:max many 0=a:=by subst aj;split<;>omega
 have Q:=qQ (show oH x m many=dz (cS x m 0 a).1 (cS x m 0 a).2 a by unfold oH;rw[ab]);generalize oH x m many=R at*;rw[<-aa]at hn ⊢;clear ai;have U:=(qU w.1.size w).alloc (qK _) (.cells #[.int .u64 (x.h:Nat),x.v,x.p] 117);have d:=jF.new w 117 #[.int .u64 (x.h:Nat),x.v,x.p];obtain⟨f,ae⟩:∃f,w.alloc (.cells #[.int .u64 (x.h:Nat),x.v,x.p] 117)=f:=⟨_,rfl⟩
 obtain⟨B,hB⟩:∃B,w.1.size=B:=⟨_,rfl⟩
 rw[ae]at U d;rw[hB]at d;have O:=qQ U
 have P:=qQ (show ∀W,Below f.1.size f W->W.cell? ⟨B,0,none⟩=some (.int .u64 (x.h:Nat))/\W.cell? ⟨B,1,none⟩=some (.int .i64 x.v)/\W.cell? ⟨B,2,none⟩=some (.int .i64 x.p) from fun W u =>
  ⟨(u.cell (p:=⟨B,0,none⟩) d.lt).trans (d.cell 0),(u.cell (p:=⟨B,1,none⟩) d.lt).trans (d.cell 1),(u.cell (p:=⟨B,2,none⟩) d.lt).trans (d.cell 2)⟩)
 have af:=qQ (show ∀W,Below f.1.size f W->∀i y,m[i]? = some y->∃b,A0=some ⟨b,off,none⟩/\W.cell? ⟨b,off+i*4,none⟩=some (.int .u64 (y.e.h:Nat))/\W.cell? ⟨b,off+i*4+1,none⟩=some (.int .i64 y.e.v)/\W.cell? ⟨b,off+i*4+2,none⟩=some (.int .i64 y.e.p)/\W.cell? ⟨b,off+i*4+3,none⟩=some (.int .i64 y.k) from fun W u i y C=>by
  obtain⟨b,e,M,c0,c1,c2,K⟩:=HC.out i y C;have L:=bj O.out u;exact⟨b,e,(L.cell (p:=⟨b,off+i*4,none⟩) M).trans c0,(L.cell (p:=⟨b,off+i*4+1,none⟩) M).trans c1,(L.cell (p:=⟨b,off+i*4+2,none⟩) M).trans c2,(L.cell (p:=⟨b,off+i*4+3,none⟩) M).trans K⟩)
 clear hm ac aa HC ab U d;obtain⟨D,H,F⟩:=x;simp only at ae P Q;go_enter func222,ntmps222;go_wp2;go_step3;go_wp2;go_step3;go_wp2;go_loopw [6,7,15] (fun lo hi i wr=>∃(k:Nat) (z:Int),k<=n/\i=.int .i64 k/\lo=.int .i64 z/\hi=.int .i64 a/\cS ⟨D,H,F⟩ m 0 a=cS ⟨D,H,F⟩ (m.drop k) z a/\Below f.1.size f wr) (fun _ _ i _=>n-(intOf i).toNat)
 case atStart=>exact⟨0,0,qI _,rfl,rfl,rfl,rfl,qU _ _⟩
 case round =>
  obtain⟨k,z,hk,rfl,rfl,rfl,ad,r⟩:=hrel;have S:=qQ ad;clear ad;by_cases ah:k<n
  ·have s1:(k:Int)<(n:Int):=(by omega);obtain⟨y,C⟩:∃y,m[k]? = some y:=⟨_,qD (by rw[<-J.out];omega)⟩
   obtain⟨b,rfl,c0,c1,c2,K⟩:=af.out wr r k y C
   have hd:m.drop k=y::m.drop (k+1):=by
    rw[xJ (by rw[<-J.out];omega)];have:=qD (l:=m) (i:=k) (by rw[<-J.out];omega);rw[C]at this;rw[<-qb this]
   have c:cS ⟨D,H,F⟩ (m.drop k) z a=_:=rfl;rw[hd]at c
   conv at c=>rhs;rw[cS]
   rw[<-hd]at c;have X:=r.alloc r.size (.cells #[.int .u64 (y.e.h:Nat),.int .i64 y.e.v,.int .i64 y.e.p,.int .i64 y.k] 304);have N:=jF.new wr 304 #[.int .u64 (y.e.h:Nat),.int .i64 y.e.v,.int .i64 y.e.p,.int .i64 y.k];have j:=qQ fun W=>oC y.e ⟨D,H,F⟩ W
   clear C hd;have g:=qQ X;have I:=qQ N;obtain⟨q,hq⟩:∃q,IntKind.i64.wrap (y.k+1)=q:=⟨_,rfl⟩
   rw[hq]at c;cases o:jb y.e ⟨D,H,F⟩
   ·rw[o,qZ (by decide)]at c;rw[o]at j;have s:=qQ (show R=dz z y.k a by rw[Q.out,S.out,c]);have T:=qQ fun W=>UA z y.k a W
    clear c o X N r;generalize dz z y.k a=RR at*;obtain⟨⟨yh,yv,yp⟩,yk⟩:=y;simp only at c0 c1 c2 K hq j g I;obtain⟨a0,a1,a2⟩:=P.out _ g.out;go_wp2_with fail;refine KG (j.out _) fun w3 A=>?_;have ag:=((I.out).xC (jH.xA A) (by simp)).cell 3;have Y:=bj g.out A;go_wp2_with fail;refine KG (T.out _) fun w4 Z=>?_;go_wp2;go_ret2;exact⟨by rw[s.out];rfl,bj (bj O.out Y) Z⟩
   ·rw[o,qV rfl]at c;rw[o]at j;have s:=qQ (S.out.trans c);clear c o X N r;obtain⟨⟨yh,yv,yp⟩,yk⟩:=y;simp only at c0 c1 c2 K hq j g I;obtain⟨a0,a1,a2⟩:=P.out _ g.out;go_wp2_with fail;refine KG (j.out _) fun w3 A=>?_;have ag:=((I.out).xC (jH.xA A) (by simp)).cell 3;have Y:=bj g.out A;go_wp2;go_roundw
    case rel=>exact⟨k+1,q,by omega,by go_num,rfl,rfl,s.out,Y⟩
    case measure=>simp[intOf];omega
  ·obtain rfl:k=n:=(by omega);have s1:¬(k:Int)<(k:Int):=(by omega);have c:=S.out;rw[List.drop_of_length_le (by rw[<-J.out];exact qK _),cS]at c;have s:=qQ (show R=dz z a a by rw[Q.out,c]);have T:=qQ fun W=>UA z a a W
   clear c ah;generalize dz z a a=RR at*;go_wp2_with fail;refine KG (T.out _) fun w4 Z=>?_;go_wp2;go_ret2;exact⟨by rw[s.out];rfl,bj (bj O.out r) Z⟩
end
section
open Go.RowKit Go.Shelf
attribute [local go_sem ↓] Go.wp_at_zero Go.wp_at_succ
structure tS(l:List jC)(x:jC)(lo hi:Nat):Prop where
 own:oH x (kt l) (l.length:Nat)=((lo:Int),(hi:Int))
 ref:∃c,tO x (kt l) c/\loM (kt l) c=(lo:Int)/\hiM (kt l) c (l.length:Nat)=(hi:Int)
 jJ:lo<=l.countP (fun y=>jb y x)
 zj:l.countP (fun y=>jb y x)<=hi
 top:hi<=l.length
 gap:hi<=lo+7
theorem Z6{l:List jC}(h:kG l)(p:l.length<=1000000)(x:jC):∃lo hi,tS l x lo hi:=by
 obtain⟨lo,hi,a,b,f,g,i,j⟩:=Ou (e:=x) h;have c:=Oy (e:=x) h;refine⟨lo,hi, ?_,⟨_,c,a,b⟩,f,g,i,j⟩;have o:max ((l.length:Nat):Int) 0=(l.length:Nat):=by omega
 unfold oH;rw[o,Yo c (fun y q=>(Og p y q).1)]
 have e:(if gu l.length (l.countP fun y=>jb y x)=0 then 0 else loM (kt l) (gu l.length (l.countP fun y=>jb y x)))=(lo:Int):=by
  rw[<-a];split
  ·rename_i d;rw[d];rfl
  ·rfl
 rw[e,b];exact Oj (by simp only;omega) (by simp only;omega) (by simp only;omega)
theorem tS.run{l:List jC}{x:jC}{lo hi:Nat}(h:tS l x lo hi){w:World}{v:Value}(a:bW w v (kt l))(b:l.length<=1000000):
  Calls prog 222 #[v,l.length,kv x] w (Z5 ((lo:Int),(hi:Int)) w):=by
 rw[<-h.own];have:=ZT l l.length;exact PJ v _ _ x w a (by unfold kt;omega)
end
section
open Go.RowKit
def mw(a:jR)(b:World)(gd:Nat)(l:List jC)(r:Nat)(D':jD)(E:List Nat)(w:World)(e:Ending)(w':World):Prop :=
 ∃A c,e=.returned (.tuple #[.slice A l.length c,r])/\jy w' w.1.size (.slice A l.length c) l/\DS a b gd D' (jL (.slice A l.length c)++E) w'/\jE E w w'
section
variable {E E':List Nat}{w w' w'':World}
theorem jE.row{base:Nat}{v:Value}{l:List jC}(h:jE E w w')(a:jy w base v l)(j:∀b∈jL v,b∈E):jy w' base v l:=by
 refine⟨a.1, ?_⟩;rcases a.2 with i|⟨g,d,f,c,o,p,r⟩
 ·exact qX i
 ·exact qY ⟨g,d,f,c,o,(h.block g (j g (jt.2 (by rw[c];rfl)))).trans p,r⟩
theorem jE.zF{v:Value}{l:List vT}(h:jE E w w')(a:bW w v l)(p:∀b∈jL v,b∈E):bW w' v l:=by
 rcases a with a|⟨b,off,c,rfl,d,f,g,o⟩
 ·exact qX a
 ·exact qY ⟨b,off,c,rfl,d,f,qS g h.size,fun i x r j u q=>(World.cell?_of_block (w:=w) (h.block b (p b (jt.2 rfl)))).trans (o i x r j u q)⟩
theorem jE.xM{v:Value}{l:List jC}(h:jE E w w')(a:kC w v l)(p:∀b∈jL v,b∈E):kC w' v l:=by
 rcases a with a|⟨b,off,c,rfl,d,f,g,o⟩
 ·exact qX a
 ·exact qY ⟨b,off,c,rfl,d,f,qS g h.size,fun i x r j u q=>(World.cell?_of_block (w:=w) (h.block b (p b (jt.2 rfl)))).trans (o i x r j u q)⟩
theorem jE.filter{f:Value}{t:Tw}{p q:Value}{m:Option Nat}(h:jE E w w')(c:gY w (.agg #[p,q,.map m]) t)(i:∀b,m=some b->b∈E):gY w' (.agg #[p,q,.map m]) t:=by
 rcases c with c|⟨g,d,e,j⟩
 ·exact qX c
 ·refine qY ⟨g,d,e,j.of_block (h.block d (i d ?_))⟩;injection e with e;have:=congrArg (fun a=>a[2]?) e;simpa using this
theorem Z7{g:Nat}(w:World)(a b c:Value):jH [g] w (((w.setCell ⟨g,0,none⟩ a).setCell ⟨g,1,none⟩ b).setCell ⟨g,2,none⟩ c) :=
 (((jH.refl [g] w).setCell (p:=⟨g,0,none⟩) (qX (qH.2 rfl)) a).setCell (p:=⟨g,1,none⟩) (qX (qH.2 rfl)) b).setCell (p:=⟨g,2,none⟩) (qX (qH.2 rfl)) c
theorem fo{base:Nat}{v:Value}{l:List jC}(h:jy w base v l):∀b∈jL v,base<=b/\b<w.1.size:=by
 intro b a;have a:=jt.1 a;rcases h.2 with⟨rfl,-⟩|⟨g,f,i,rfl,c,d,-⟩
 ·cases a
 ·have e:g=b:=by simpa[Value.ownBlock] using a
  rw[<-e];exact⟨c,(ql.1 d).1⟩
end
def yE(w:World)(gt gd:Nat)(n:Int)(l:List jC)(t:Tw)(G:List Nat):Prop :=
 ∃A c p q m,jF w gt 239 #[ptr gt,ptr gd,n,l.length,.slice A (kt l).length c,.int .i64 p,.int .i64 q,.map m] /\
  bW w (.slice A (kt l).length c) (kt l)/\gY w (.agg #[.int .i64 p,.int .i64 q,.map m]) t/\gt∈G/\(∀b∈jL (.slice A (kt l).length c),b∈G)/\∀b,m=some b->b∈G
section
variable {w w':World}{gt gd:Nat}{n:Int}{l:List jC}{t:Tw}{G E:List Nat}
theorem yE.keep(h:yE w gt gd n l t G)(g:jE E w w')(a:∀b∈G,b∈E):yE w' gt gd n l t G:=by
 obtain⟨A,c,p,q,m,r,s,u,i,j,o⟩:=h;exact⟨A,c,p,q,m,g.xW r (a gt i),g.zF s (fun b d=>a b (j b d)),g.filter (f:=.nilIface) u (fun b d=>a b (o b d)),i,j,o⟩
theorem yE.below(h:yE w gt gd n l t G)(a:Below w.1.size w w'):yE w' gt gd n l t G:=by
 obtain⟨A,c,p,q,m,b,d,f,g,i,j⟩:=h;exact⟨A,c,p,q,m,jF.below b a,d.below a (qK _),f.below a,g,i,j⟩
theorem yE.drew(h:yE w gt gd n l t G):yE w.drew gt gd n l t G:=h.below (qU _ _).drew
theorem yE.cells(h:yE w gt gd n l t G):w.cell? ⟨gt,0,none⟩=some (ptr gt)/\w.cell? ⟨gt,1,none⟩=some (ptr gd)/\w.cell? ⟨gt,2,none⟩=some (.int .i64 n)/\w.cell? ⟨gt,3,none⟩=some (.int .i64 (l.length:Nat)):=by
 obtain⟨A,c,p,q,m,a,-⟩:=h;exact⟨a.cell 0,a.cell 1,a.cell 2,a.cell 3⟩
end
end
section
open Go.RowKit Go.Shelf
theorem UB: ∀(l:List jC) (k:Nat) (x:jC),k<l.length->yM (l.set k x)=(((yM l).set (k*3) (.int .u64 (x.h:Nat))).set (k*3+1) (.int .i64 x.v)).set (k*3+2) (.int .i64 x.p)
 | [],k,x,h=>absurd h (Nat.not_lt_zero _)
 | y::l,0,x,_=>rfl
 | y::l,k+1,x,h=>by
   have ih:=UB l k x (by simpa using h);have e:(k+1)*3=k*3+3:=(by omega);unfold yM at*;rw[List.set_cons_succ,List.flatMap_cons,List.flatMap_cons,ih,e];rfl
theorem jy.put{w:World}{base g n a k:Nat}{l:List jC}(h:jy w base (.slice (some ⟨g,0,none⟩) n a) l)(i:n=l.length)(f:k<n)(x:jC):
  jy (((w.setCell ⟨g,k*3,none⟩ (.int .u64 (x.h:Nat))).setCell ⟨g,k*3+1,none⟩ (.int .i64 x.v)).setCell ⟨g,k*3+2,none⟩ (.int .i64 x.p)) base (.slice (some ⟨g,0,none⟩) n a) (l.set k x):=by
 subst i;have b:=(h.stored (k*3) (.int .u64 (x.h:Nat))).1;have c:=(b.stored (k*3+1) (.int .i64 x.v)).1;have d:=(c.stored (k*3+2) (.int .i64 x.p)).1;unfold jy;rw[UB l k x f,List.length_set];exact d
theorem jy.at_{w:World}{base g n b k:Nat}{l:List jC}(h:jy w base (.slice (some ⟨g,0,none⟩) n b) l)(d:n=l.length)(c:k<n):
  (∃x:jC,w.cell? ⟨g,k*3,none⟩=some (.int .u64 (x.h:Nat))/\w.cell? ⟨g,k*3+1,none⟩=some (.int .i64 x.v)/\w.cell? ⟨g,k*3+2,none⟩=some (.int .i64 x.p)) /\
  w.frozen? ⟨g,k*3,none⟩=false/\w.frozen? ⟨g,k*3+1,none⟩=false/\w.frozen? ⟨g,k*3+2,none⟩=false:=by
 subst d;have a:=qD c;refine⟨⟨l[k], ?_, ?_, ?_⟩,h.frozenAt _,h.frozenAt _,h.frozenAt _⟩
 ·exact(h.cellAt (k*3) (by omega)).trans (mo l k _ a 0 (by omega))
 ·exact(h.cellAt (k*3+1) (by omega)).trans (mo l k _ a 1 (by omega))
 ·exact(h.cellAt (k*3+2) (by omega)).trans (mo l k _ a 2 (by omega))
theorem jy.down{w:World}{base base':Nat}{v:Value}{l:List jC}(h:jy w base v l)(d:base'<=base):jy w base' v l:=by
 refine⟨h.1, ?_⟩;rcases h.2 with c|⟨g,a,b,i,f,r⟩
 ·exact qX c
 ·exact qY ⟨g,a,b,i,qR d f,r⟩
end
end Go.Proofs.YthejglbnkmimjaaGreat
