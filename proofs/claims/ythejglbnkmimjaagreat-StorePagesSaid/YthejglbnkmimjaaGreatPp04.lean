import Derived.Test.YthejglbnkmimjaaGreatPp03
set_option linter.unusedVariables false
set_option maxRecDepth 100000
set_option maxHeartbeats 9000000
namespace Go.Proofs.YthejglbnkmimjaaGreat
open Proofs.Tryz
section
open Go.RowKit
theorem NF(c k:Nat)(g:c<256):(bits .and .u8 ((c:Int)/2 ^ k) 1==0) = !c.testBit k:=by
 have d:(c:Int)/2 ^ k=((c/2 ^ k:Nat):Int):=by simp
 rw[d,show(1:Int)=((1:Nat):Int) from rfl,u8_and_nat _ _ (Nat.lt_of_le_of_lt (Nat.div_le_self _ _) g) (by decide),Nat.and_one_is_mod];have b:=LA (c:=c) (k:=k);cases a:c.testBit k with
 | true=>rw[b.2 a];rfl
 | false =>
   have i:¬c/2 ^ k%2=1:=fun e=>by rw[b.1 e]at a;cases a
   have f:c/2 ^ k%2=0:=(by omega);rw[f];rfl
theorem NH(mb x:Nat)(p n:Int)(C:Array Value)(q r:Bool)(c:Nat)(w:World)(K:x<=10000000)(s:C.size=60)(k:C.all (·.oneCell')=true)(B:c<256)
  (l:∀W,Below w.1.size w W->(Instr.lookup 235 (.map (some mb)) (.int .i64 ((x:Int)/480)) true).run prog W=.ok (.tuple #[.agg C,q]) W)
  (F:(q=false/\r=false)∨(q=true/\C[x%480/8]? = some (.int .u8 (c:Nat))/\r = !c.testBit (x%8))):
  Calls prog 258 #[.agg #[p,n,.map (some mb)],x] w (X3 (.bool r) w):=by
 have a:Below w.1.size w (w.alloc (.cells #[p,n,.map (some mb)] 237)):=(qG _ _).alloc (qK _) _;have A:=l _ a;have c0:(w.alloc (.cells #[p,n,.map (some mb)] 237)).cell? ⟨w.1.size,2,none⟩=some (.map (some mb)):=(jN.new w _ _).cell 2;obtain⟨b,G⟩:∃b,w.alloc (.cells #[p,n,.map (some mb)] 237)=b:=⟨_,rfl⟩
 rw[G]at a A c0;have m:=run_storeCells_new (P:=prog) b 335 (pgC (List.replicate 60 0)) C (by rw[s];exact tN) (by rw[s,rV];rfl) k;have j:pgC (List.replicate 60 0)=#[.int .u8 0,.int .u8 0,.int .u8 0,.int .u8 0,.int .u8 0,.int .u8 0,.int .u8 0,.int .u8 0,.int .u8 0,.int .u8 0,.int .u8 0,.int .u8 0,.int .u8 0,.int .u8 0,.int .u8 0,.int .u8 0,.int .u8 0,.int .u8 0,.int .u8 0,.int .u8 0,.int .u8 0,.int .u8 0,.int .u8 0,.int .u8 0,.int .u8 0,.int .u8 0,.int .u8 0,.int .u8 0,.int .u8 0,.int .u8 0,.int .u8 0,.int .u8 0,.int .u8 0,.int .u8 0,.int .u8 0,.int .u8 0,.int .u8 0,.int .u8 0,.int .u8 0,.int .u8 0,.int .u8 0,.int .u8 0,.int .u8 0,.int .u8 0,.int .u8 0,.int .u8 0,.int .u8 0,.int .u8 0,.int .u8 0,.int .u8 0,.int .u8 0,.int .u8 0,.int .u8 0,.int .u8 0,.int .u8 0,.int .u8 0,.int .u8 0,.int .u8 0,.int .u8 0,.int .u8 0]:=by rfl
 rw[j]at m;have g:=fun i v (h:C[i]? = some v)=>((jN.new b 335 C).cell i).trans h
 have d:Below w.1.size w (b.alloc (.cells C 335)):=a.alloc a.size _;rcases F with⟨rfl,rfl⟩|⟨rfl,t,rfl⟩
 ·have f:=qQ d;clear l g k a d j;go_enter func258,ntmps258;go_wp2;go_ret;exact⟨rfl,f.out⟩
 ·have o:=g _ _ t;obtain⟨z,H⟩:∃z,b.alloc (.cells C 335)=z:=⟨_,rfl⟩
  rw[H]at d m o;have f:=qQ d;obtain⟨i,u⟩:∃i:Nat,x%480/8=i:=⟨_,rfl⟩
  obtain⟨y,M⟩:∃y:Nat,x%480=y:=⟨_,rfl⟩
  have I:((x:Int)%480)=(y:Int):=by omega
  have J:((y:Int)/8)=(i:Int):=by omega
  rw[u]at o;clear l g k a d j t u;go_enter func258,ntmps258;go_wp2;go_ret;refine⟨pO ?_,f.out⟩;rw[show x%8=y%8 by omega];exact NF c (y%8) B
theorem NI{t:Tw}{m x:Nat}(f:x/480<m)(l:List UInt8)(q:Bool)(a:l=if x/480<m/\pgW t (x/480+1)=true then pgB t (x/480) else List.replicate 60 0)(b:q=(decide (x/480<m)&&pgW t (x/480+1))):
  l.length=60/\((q=false/\bX t x=false)∨(q=true/\(pgC l)[x%480/8]? = some (.int .u8 ((byT t x).toNat:Nat))/\bX t x = !(byT t x).toNat.testBit (x%8))):=by
 rw[qB f,Bool.true_and]at b;by_cases h:pgW t (x/480+1)=true
 ·rw[qV ⟨f,h⟩]at a;have g:l.length=60:=by rw[a];exact Va h
  refine⟨g,qY ⟨by rw[b,h], ?_, ?_⟩⟩
  ·rw[Md l (by omega),<-Mp x rfl,a,show x%480/8=x/8%60 by omega]
  ·unfold bX Vj;rw[h,Bool.true_and]
 ·rw[qZ (fun c=>h c.2)]at a;have d:=Bool.eq_false_iff.2 h;exact⟨by rw[a,List.length_replicate],qX ⟨by rw[b,d],by unfold bX;rw[d,Bool.false_and]⟩⟩
theorem NL(mb m x:Nat)(p n:Int)(t:Tw)(w:World)(d:yW w mb t m)(f:x/480<m)(g:x<=10000000):
  Calls prog 258 #[.agg #[p,n,.map (some mb)],x] w (X3 (.bool (bX t x)) w):=by
 obtain⟨a,h⟩:=NI (t:=t) f _ _ rfl rfl
 exact NH mb x p n (pgC _) _ (bX t x) (byT t x).toNat w g (by rw[rV,a]) (rY _) (UInt8.toNat_lt _)
  (fun W b=>by
   have:=(d.below b).look (k:=x/480) (by omega);rw[Int.natCast_ediv]at this;exact this) h
theorem NN{g:Nat}{p b:Int}{i:Nat}(hi:i<nps p):prb g (i:Nat) b∈gJ g p b:=tX.2 ⟨i,hi,rfl⟩
theorem NO(g:Nat)(w:World):Calls prog 221 #[.agg #[.int .i64 0,.int .i64 0,.map none],.int .u64 (g:Nat)] w (X3 (.bool true) w):=by
 have a:Below w.1.size w (w.alloc (.cells #[.int .i64 0,.int .i64 0,.map none] 237)):=(qG _ _).alloc (qK _) _;go_enter func221,ntmps221;go_wp2;refine wp_loop_rounds 1 ?_;rw[rounds_succ];go_wp2;go_ret;exact⟨rfl,a⟩
theorem NP{w wr:World}{g:Nat}{t:TypeId}{cs:Array Value}(h:jN wr g t cs):∀W,Below wr.1.size wr W->Below wr.1.size wr W/\W.cell? ⟨g,0,none⟩=cs[0]?/\W.cell? ⟨g,1,none⟩=cs[1]?/\W.cell? ⟨g,2,none⟩=cs[2]? := fun W b =>
 have a:jN W g t cs:=(b.block _ h.lt).trans h
 ⟨b,a.cell 0,a.cell 1,a.cell 2⟩
theorem NR(mb g p n:Nat)(t:Tw)(r:Bool)(w:World)(hg:g<18446744073709551616)(P:yW w mb t (n/60))(hn:60<=n/\n<=120000/\n%60=0)(hp:p<=16)
  (B:(∀k∈gJ g p ((8*n:Nat):Int),bX t k=false)->r=true) (A:∀k∈gJ g p ((8*n:Nat):Int),bX t k=true->r=false):
  Calls prog 221 #[.agg #[p,n,.map (some mb)],.int .u64 (g:Nat)] w (X3 (.bool r) w):=by
 have S:nps (p:Nat)=p:=by unfold nps;omega
 obtain⟨b,u⟩:∃b:Int,((8*n:Nat):Int)=b:=⟨_,rfl⟩
 have eb:8*(n:Int)=b:=by omega
 have T:(Lit.int .i64 b).wf=true:=WalkArith.wf_i64 (by omega);rw[u]at B A;have aa:=qQ B;have V:=qQ A;have X:=qQ fun(i:Nat) (W:World) (O:i<64)=>Vo g (i:Nat) b W hg (WalkArith.wf_i64 (by omega)) T
 have s:∀i:Nat,prb g (i:Nat) b/480<n/60/\prb g (i:Nat) b<=10000000:=fun i=>by
  have:=Ka g (i:Nat) (show 1<=b by omega);omega
 have U:=qQ s;have m:jN (w.alloc (.cells #[p,n,.map (some mb)] 237)) w.1.size 237 #[p,n,.map (some mb)]:=jN.new w _ _;have y:Below w.1.size w (w.alloc (.cells #[p,n,.map (some mb)] 237)):=(qG _ _).alloc (qK _) _;have C:=P.below y;obtain⟨a,ab⟩:∃a,w.alloc (.cells #[p,n,.map (some mb)] 237)=a:=⟨_,rfl⟩
 rw[ab]at m y C;have c0:a.cell? ⟨w.1.size,0,none⟩=some (.int .i64 (p:Nat)):=m.cell 0;have c1:a.cell? ⟨w.1.size,1,none⟩=some (.int .i64 (n:Nat)):=m.cell 1;have f:=qQ (show jN a w.1.size _ _/\yW a mb t (n/60)/\Below w.1.size w a from⟨m,C,y⟩);clear m y C s B A u T P;go_enter func221,ntmps221;go_wp2;clear c0 c1;go_loopw [8] (fun v wr=>∃k:Nat,k<=p/\v=.int .i64 k/\(∀j,j<k->bX t (prb g (j:Nat) b)=false)/\Below a.1.size a wr) (fun v _=>p-(intOf v).toNat)
 case atStart=>exact⟨0,qI _,rfl,fun j hj=>by omega,qG _ _⟩
 case round =>
  obtain⟨k,hk,rfl,M,N⟩:=hrel;have I:=qQ M;have d:=qQ N;clear M N;by_cases s:k<p
  ·have J:=qQ fun W=>X.out k W (by omega)
   have l:=U.out k;have R:=f.out.2.1.below d.out;have o:jN wr w.1.size _ _:=(d.out.block _ f.out.1.lt).trans f.out.1;have Y:=qQ (show ∀W,Below wr.1.size wr W->Below wr.1.size wr W/\W.cell? ⟨w.1.size,0,none⟩=some (.int .i64 (p:Nat))/\W.cell? ⟨w.1.size,1,none⟩=some (.int .i64 (n:Nat))/\W.cell? ⟨w.1.size,2,none⟩=some (.map (some mb)) from NP (w:=w) o);have Q:=qQ (NN (g:=g) (p:=(p:Nat)) (b:=b) (i:=k) (by rw[S];exact s));have c0:wr.cell? ⟨w.1.size,0,none⟩=some (.int .i64 (p:Nat)):=o.cell 0;have c1:wr.cell? ⟨w.1.size,1,none⟩=some (.int .i64 (n:Nat)):=o.cell 1;have c2:wr.cell? ⟨w.1.size,2,none⟩=some (.map (some mb)):=o.cell 2;obtain⟨x,H⟩:∃x,prb g (k:Nat) b=x:=⟨_,rfl⟩
   have Z:=qQ H;rw[H]at J l Q;have K:=qQ fun W (hW:Below wr.1.size wr W)=>(NL mb (n/60) x (p:Nat) (n:Nat) t W (R.below hW) l.1 l.2)
   have z:=qQ (show bX t x=bX t x from rfl);obtain⟨q,F⟩:∃q,bX t x=q:=⟨_,rfl⟩
   have z:=qQ F;rw[F]at K;have s5:(k:Int)<(p:Int):=(by omega);have ac:IntKind.i64.wrap b=b:=(by rw[IntKind.wrap_i64];omega);clear H l R o F;go_wp2_with fail
   go_region_held3 (fun W=>Below wr.1.size wr W/\W.cell? ⟨w.1.size,0,none⟩=some (.int .i64 (p:Nat))/\W.cell? ⟨w.1.size,1,none⟩=some (.int .i64 (n:Nat))/\W.cell? ⟨w.1.size,2,none⟩=some (.map (some mb)))
    (first|(with_reducible assumption)|((with_reducible refine Y.out _ ?_);(repeat' (first|(with_reducible assumption)|(with_reducible exact qG _ _)|(with_reducible refine Below.drew ?_)));done)|fail)
    (first
    | (go_at_call 259;((with_reducible refine X5 (J.out _) ?_)))
    | (go_at_call 258;((with_reducible refine KG (K.out _ (And.left (by with_reducible assumption))) fun w' u=>?_);have ad:=bj (And.left (by with_reducible assumption)) u))
    | fail)
   cases q with
   | true =>
     have G:=V.out x Q.out z.out;subst G;go_wp2;go_ret;exact⟨rfl,f.out.2.2.trans ((d.out.trans ((And.left (‹Below wr.1.size wr _/\_›)).mono d.out.size)).mono f.out.2.2.size)⟩
   | false =>
     go_wp2;go_roundw
     case rel =>
      refine⟨k+1,s,by go_num,fun j hj=>?_,d.out.trans ((And.left (‹Below wr.1.size wr _/\_›)).mono d.out.size)⟩;by_cases e:j=k
      ·rw[e,Z.out];exact z.out
      ·exact I.out j (by omega)
     case measure=>simp[intOf];omega
  ·have G:r=true:=aa.out fun x l=>by
    obtain⟨i,O,rfl⟩:=tX.1 l;rw[S]at O;exact I.out i (by omega)
   subst G;have s5:(p:Int)<=(k:Int):=(by omega);go_wp2;go_ret;exact⟨rfl,f.out.2.2.trans (d.out.mono f.out.2.2.size)⟩
theorem YY(f:Value)(g:Nat)(t:Tw)(w:World)(a:g<18446744073709551616)(h:gY w f t):
  Calls prog 221 #[f,.int .u64 (g:Nat)] w (X3 (.bool (gV t g)) w):=by
 rcases h with⟨h,rfl⟩|⟨h,j,rfl,d⟩
 ·rw[Vk h];exact NO g w
 ·obtain⟨l,m,n,o,p⟩:=tF.1 (Xn.1 h).2.1;exact NR j g _ _ t (gV t g) w a d (by omega) (by omega) Mq fun k b i=>Mx h b i
end
section
structure ji where
 next:Int
 check:Int
 seed:Nat
 lv:LvL
theorem ji.ext'{a b:ji}(d:a.next=b.next)(f:a.check=b.check)(g:a.seed=b.seed)(i:a.lv=b.lv):a=b:=by
 cases a;cases b;simp only at d f g i;subst d;subst f;subst g;subst i;rfl
def kF(m:ji):Prop:=0<=m.next/\m.next<=1000000/\0<=m.check/\m.check<=2147483647/\cX m.lv/\∀x∈m.lv.flatten,x<m.next
instance (m : ji):Decidable (kF m) := by unfold kF; infer_instance
def fA(m:ji):Bool:=decide (kF m)
def dP(m:ji):ji:=⟨m.next,m.check,m.seed,jc m.lv⟩
def u4(x:Int):List UInt8:=be 4 x.toNat
def lvB(l:List Int):List UInt8:=be 1 l.length++l.flatMap u4
def vU(L:LvL):List UInt8:=L.flatMap lvB
def cw: List UInt8:=[105,109,97,112]
def rA(m:ji):List UInt8:=cw++be 4 m.next.toNat++be 4 m.check.toNat++be 8 m.seed
def cL(m:ji):List UInt8:=rA m++be 1 (jc m.lv).length
def bJ(m:ji):List UInt8:=cL m++vU (jc m.lv)
def mfB(m:ji):Tw:=vv (bs (bJ m))
def mfS(m:ji):Tw:=if kF m then mfB m else ByteArray.empty
def mfE(m:ji):Int:=if kF m then 0 else 2
theorem Xw{m:ji}(h:¬kF m):mfS m=ByteArray.empty/\mfE m=2:=by unfold mfS mfE;rw[qZ h,qZ h];exact⟨rfl,rfl⟩
theorem ZQ{m:ji}(h:kF m):mfS m=mfB m/\mfE m=0:=by unfold mfS mfE;rw[qV h,qV h];exact⟨rfl,rfl⟩
theorem YU(x:Int):(u4 x).length=4:=je _ _
theorem rB: ∀l:List Int,(l.flatMap u4).length=4*l.length
 | []=>rfl
 | x::l=>by rw[List.flatMap_cons,qL,YU,rB l,qu];omega
theorem YG(l:List Int):(lvB l).length=1+4*l.length:=by unfold lvB;rw[qL,je,rB]
theorem rC(a b:LvL):vU (a++b)=vU a++vU b:=by unfold vU;rw[List.flatMap_append]
theorem ZX(x:List Int)(L:LvL):vU (x::L)=lvB x++vU L:=by unfold vU;rw[List.flatMap_cons]
theorem YW(x:List Int):vU [x]=lvB x:=by rw[ZX];show _++[]=_;rw[List.append_nil]
theorem ZZ: ∀L:LvL,(vU L).length=L.length+4*L.flatten.length
 | []=>rfl
 | x::L=>by rw[ZX,qL,YG,ZZ L,qu,List.flatten_cons,qL];omega
theorem NS(m:ji):(rA m).length=20:=by
 unfold rA;rw[qL,qL,qL,je,je,je];rfl
theorem tS(m:ji):(cL m).length=21:=by unfold cL;rw[qL,NS,je]
theorem ZJ(m:ji):(mfB m).size=25+(vU (jc m.lv)).length:=by unfold mfB;rw[ld,kP];unfold bJ;rw[qL,tS];omega
theorem YA(m:ji):(mfB m).data.toList=cL m++(vU (jc m.lv)++yi (bJ m)):=by
 unfold mfB;rw[rZ,tE]
 conv=>lhs;arg 1;unfold bJ
 rw[qh]
theorem kF.zK{m:ji}(h:kF m):(jc m.lv).length<=5/\(jc m.lv).flatten.length<=40/\∀x∈jc m.lv,x.length<=40/\∀y∈x,0<=y/\y<4294967296:=by
 obtain⟨o,p,q,r,d,i⟩:=h;have e:=l9 m.lv;have s:=pS m.lv;have k:(jc m.lv).flatten.length<=40:=by rw[e];exact d.2.1
 refine⟨by have:=d.1;omega,k,fun x g=>⟨?_,fun y l=>?_⟩⟩
 ·have j:∀(L:LvL),x∈L->x.length<=L.flatten.length:=by
   intro L
   induction L with
   | nil=>intro h;cases h
   | cons z L n =>
     intro h;rw[List.flatten_cons,qL];rcases qM.1 h with rfl|h
     ·omega
     ·have:=n h;omega
  have:=j _ g;omega
 ·have f:y∈m.lv.flatten:=by rw[<-e];exact List.mem_flatten.2 ⟨x,g,l⟩
  have a:=d.2.2.1 y f;have b:=i y f;omega
theorem tT{m:ji}(h:kF m):(mfB m).size<=190:=by
 obtain⟨a,b,-⟩:=h.zK;rw[ZJ,ZZ];omega
theorem NT(L:LvL)(n:Nat)(b:n<=L.length):kt (L.take (kt L n)) (kt L n)=kt L n:=by
 induction n with
 | zero=>rfl
 | succ n a =>
   by_cases c:L.getD n []=[]
   ·have e:kt L (n+1)=kt L n:=(by rw[kt,qV c]);rw[e];exact a (by omega)
   ·have e:kt L (n+1)=n+1:=(by rw[kt,qZ c]);rw[e,kt,qZ];rw[qj,List.getElem?_take,qV (by omega),<-qj];exact c
theorem N0(L:LvL):jc (jc L)=jc L:=by
 have b:=sa L L.length;have h:=NT L L.length (qK _);have e:jc L=L.take (kt L L.length):=rfl;have a:(L.take (kt L L.length)).length=kt L L.length:=by rw[qT];omega
 show(jc L).take (kt (jc L) (jc L).length)=jc L;rw[e,a,h,List.take_take,Nat.min_self]
theorem N5{L:LvL}(h:cX L):cX (jc L):=by
 have:=pS L;refine⟨by have:=h.1;omega, ?_⟩;rw[l9];exact h.2
theorem YB{m:ji}(h:kF m):kF (dP m):=by
 obtain⟨a,b,d,f,g,i⟩:=h;refine⟨a,b,d,f,N5 g, ?_⟩;show ∀x∈(jc m.lv).flatten,_;rw[l9];exact i
theorem YC(m:ji):mfB (dP m)=mfB m:=by
 have a:jc (dP m).lv=jc m.lv:=N0 m.lv;have b:bJ (dP m)=bJ m:=by unfold bJ cL rA;rw[a];rfl
 unfold mfB;rw[b]
def num(s:Tw)(p n:Nat):Nat:=jz (s.extract p (p+n))
def bq(s:Tw)(p k:Nat):List Int:=(List.range k).map fun j=>((num s (p+4*j) 4:Nat):Int)
theorem rD(s:Tw)(p k:Nat):(bq s p k).length=k:=by unfold bq;rw[qq,List.length_range]
theorem N7(s:Tw)(p k:Nat):bq s p (k+1)=bq s p k++[((num s (p+4*k) 4:Nat):Int)]:=by unfold bq;rw[List.range_succ,List.map_append];rfl
theorem Nq(s:Tw)(p:Nat):bq s p 0=[]:=rfl
theorem Nx(s:Tw)(p:Nat){k j:Nat}(h:j<k):(bq s p k)[j]? = some ((num s (p+4*j) 4:Nat):Int):=by unfold bq;rw[qv,List.getElem?_range h];rfl
theorem oH{s:Tw}{a b c:List UInt8}{p n:Nat}(h:s.data.toList=a++(b++c))(g:p=a.length)(f:n=b.length)(d:n<=8):num s p n=un b:=by
 subst g;subst f;unfold num jz;rw[fG,h,List.drop_left,show a.length+b.length-a.length=b.length by omega,List.take_left,qm d]
theorem ZK(s:Tw)(p n k:Nat)(d:n<=k)(b:n<=8):num s p n<256 ^ k:=by
 unfold num jz;have h:=fe ((s.extract p (p+n)).data.toList.take 8)
 have a:((s.extract p (p+n)).data.toList.take 8).length<=k:=by
  rw[qT,fG,qT];omega
 exact qS h (Nat.pow_le_pow_right (by decide) a)
theorem ZV(n:Nat)(h:n<4294967296):un (be 4 n)=n:=by
 have p:(256:Nat) ^ 4=4294967296:=by decide
 rw[dH,p,Nat.mod_eq_of_lt h]
theorem Nz(n:Nat)(h:n<18446744073709551616):un (be 8 n)=n:=by
 have p:(256:Nat) ^ 8=18446744073709551616:=by decide
 rw[dH,p,Nat.mod_eq_of_lt h]
theorem YD(n:Nat)(h:n<256):un (be 1 n)=n:=by rw[dH,Nat.pow_one,Nat.mod_eq_of_lt h]
theorem Nj{x:List Int}{j:Nat}(h:j<x.length):x.flatMap u4=(x.take j).flatMap u4++(u4 x[j]++(x.drop (j+1)).flatMap u4):=by
 conv=>lhs;rw[<-qp j x,xZ h,List.flatMap_append,List.flatMap_cons]
theorem Nk{s:Tw}{a c:List UInt8}{x:List Int}{p:Nat}(h:s.data.toList=a++(x.flatMap u4++c))(d:p=a.length)(f:∀y∈x,0<=y/\y<4294967296):bq s p x.length=x:=by
 apply xJ;intro j;rcases qd j x.length with c1|c1
 ·rw[Nx _ _ c1,qE c1]
  have e:s.data.toList=(a++(x.take j).flatMap u4)++(u4 x[j]++((x.drop (j+1)).flatMap u4++c)):=by
   rw[h,Nj c1];simp only[List.append_assoc]
  have b:p+4*j=(a++(x.take j).flatMap u4).length:=by rw[qL,rB,qT,d];omega
  have g:=f x[j] (List.getElem_mem c1);rw[oH e b (YU _).symm (by decide)];unfold u4;rw[ZV _ (by omega)];congr 1;omega
 ·rw[xX (by rw[rD];exact c1),xX c1]
def place(T:LvL)(i:Nat):Nat:=21+(vU (T.take i)).length
theorem Nv{T:LvL}{i:Nat}{x:List Int}(h:T[i]? = some x):place T (i+1)=place T i+1+4*x.length:=by
 have e:T.take (i+1)=T.take i++[x]:=by rw[xQ,h];rfl
 unfold place;rw[e,rC,YW,qL,YG];omega
theorem Ny{m:ji}{s:Tw}(h:kF m)(j:m.seed<18446744073709551616)(i:mfB m=s):
  ((num s 4 4:Nat):Int)=m.next/\((num s 8 4:Nat):Int)=m.check/\num s 12 8=m.seed/\num s 20 1=(jc m.lv).length:=by
 obtain⟨l,n,o,p,g,q⟩:=h;have r:=pS m.lv;have t:=g.1;have e:=YA m;rw[i]at e;unfold cL rA at e;have k:cw.length=4:=rfl;have a:s.data.toList=cw++(be 4 m.next.toNat++(be 4 m.check.toNat++(be 8 m.seed++(be 1 (jc m.lv).length++(vU (jc m.lv)++yi (bJ m)))))):=by rw[e];simp only[List.append_assoc]
 have b:s.data.toList=(cw++be 4 m.next.toNat)++(be 4 m.check.toNat++(be 8 m.seed++(be 1 (jc m.lv).length++(vU (jc m.lv)++yi (bJ m))))):=by rw[e];simp only[List.append_assoc]
 have d:s.data.toList=(cw++be 4 m.next.toNat++be 4 m.check.toNat)++(be 8 m.seed++(be 1 (jc m.lv).length++(vU (jc m.lv)++yi (bJ m)))):=by rw[e];simp only[List.append_assoc]
 have f:s.data.toList=(cw++be 4 m.next.toNat++be 4 m.check.toNat++be 8 m.seed)++(be 1 (jc m.lv).length++(vU (jc m.lv)++yi (bJ m))):=by rw[e];simp only[List.append_assoc]
 refine⟨?_, ?_, ?_, ?_⟩
 ·rw[oH a k.symm (je _ _).symm (by decide),ZV _ (by omega)];omega
 ·rw[oH b (by rw[qL,je];rfl) (je _ _).symm (by decide),ZV _ (by omega)];omega
 ·rw[oH d (by rw[qL,qL,je,je];rfl) (je _ _).symm (by decide),Nz _ j]
 ·rw[oH f (by rw[qL,qL,qL,je,je,je];rfl) (je _ _).symm (by decide),YD _ (by omega)]
theorem Nu{m:ji}{s:Tw}{i:Nat}{x:List Int}(h:kF m)(n:mfB m=s)(d:(jc m.lv)[i]? = some x):
  num s (place (jc m.lv) i) 1=x.length/\bq s (place (jc m.lv) i+1) x.length=x/\place (jc m.lv) i+1+4*x.length+4<=s.size:=by
 obtain⟨q,r,o⟩:=h.zK;obtain⟨t,p⟩:=o x (qN d);have l:i<(jc m.lv).length:=(qO.1 d).1;have e:=YA m;have b:=ZJ m;rw[n]at e b
 have k:jc m.lv=(jc m.lv).take i++(x::(jc m.lv).drop (i+1)):=by
  have:=(qO.1 d).2
  conv=>lhs;rw[<-qp i (jc m.lv),xZ l,this]
 have a:vU (jc m.lv)=vU ((jc m.lv).take i)++(be 1 x.length++(x.flatMap u4++vU ((jc m.lv).drop (i+1)))):=by
  conv=>lhs;rw[k]
  rw[rC,ZX];unfold lvB;simp only[List.append_assoc]
 have g:s.data.toList=(cL m++vU ((jc m.lv).take i))++(be 1 x.length++(x.flatMap u4++(vU ((jc m.lv).drop (i+1))++yi (bJ m)))):=by rw[e,a];simp only[List.append_assoc]
 have j:s.data.toList=(cL m++vU ((jc m.lv).take i)++be 1 x.length)++(x.flatMap u4++(vU ((jc m.lv).drop (i+1))++yi (bJ m))):=by rw[e,a];simp only[List.append_assoc]
 have f:place (jc m.lv) i=(cL m++vU ((jc m.lv).take i)).length:=by unfold place;rw[qL,tS]
 refine⟨?_, ?_, ?_⟩
 ·rw[oH g f (je _ _).symm (by decide),YD _ (by omega)]
 ·exact Nk j (by rw[qL,je,<-f]) p
 ·rw[a]at b;simp only[List.length_append,je,rB]at b;unfold place;omega
def nQ(s:Tw)(i p:Nat)(L:LvL):Prop:=∀m,kF m->mfB m=s->i<=(jc m.lv).length->p=place (jc m.lv) i/\L=(jc m.lv).take i
theorem YE(s:Tw):nQ s 0 21 []:=fun m _ _ _=>⟨rfl,rfl⟩
theorem YF{s:Tw}{i p k:Nat}{L:LvL}(h:nQ s i p L)(q:k<=num s p 1)(o:k=num s p 1∨s.size<p+1+4*k+4):nQ s (i+1) (p+1+4*k) (L++[bq s (p+1) k]):=by
 intro m b d g;obtain⟨rfl,rfl⟩:=h m b d (by omega);obtain⟨x,a⟩:∃x,(jc m.lv)[i]? = some x:=⟨_,qE g⟩
 obtain⟨l,f,n⟩:=Nu b d a;have j:k=x.length:=by omega
 subst j;refine⟨(Nv a).symm, ?_⟩;rw[f,xQ,a];rfl
def rE(s:Tw)(r:ji):Prop:=∀m,kF m->m.seed<18446744073709551616->mfB m=s->r=dP m
theorem YH{s:Tw}{n p:Nat}{L:LvL}(h:nQ s n p L)(t:n<=num s 20 1)(k:n=num s 20 1∨s.size<=p):rE s ⟨(num s 4 4:Nat),(num s 8 4:Nat),num s 12 8,L⟩:=by
 intro m b o a;obtain⟨d,f,g,q⟩:=Ny b o a;obtain⟨i,j⟩:=h m b a (by omega)
 have l:n=(jc m.lv).length:=by
  rcases k with e|e
  ·omega
  ·have r:(vU ((jc m.lv).take n)).length<=(vU (jc m.lv)).length:=by
    conv=>rhs;rw[<-qp n (jc m.lv),rC,qL]
    omega
   have:=ZJ m;rw[a]at this;unfold place at i;omega
 refine ji.ext' d f g ?_;show L=jc m.lv;rw[j,l,List.take_length]
def dR(s:Tw):Prop:=∃m,(kF m/\m.seed<18446744073709551616)/\mfB m=s
open Classical in
noncomputable def mgE (s:Tw):Int:=if dR s then 0 else 90
def rF: ji:=⟨0,0,0,[]⟩
open Classical in
noncomputable def mgM (s:Tw):ji:=if h:dR s then dP (Classical.choose h) else rF
theorem Ng{s:Tw}(h:¬dR s):mgE s=90/\mgM s=rF:=by unfold mgE mgM;rw[qZ h,dif_neg h];exact⟨rfl,rfl⟩
theorem Nb{s:Tw}{r:ji}(h:dR s)(f:rE s r):mgE s=0/\mgM s=r:=by
 unfold mgE mgM;rw[qV h,dif_pos h];obtain⟨⟨a,b⟩,d⟩:=Classical.choose_spec h;exact⟨rfl,(f _ a b d).symm⟩
theorem Nc{s:Tw}{r:ji}(f:rE s r)(g:r.seed<18446744073709551616):dR s↔kF r/\mfB r=s:=by
 constructor
 ·rintro ⟨m,⟨a,b⟩,d⟩;have e:=f m a b d;rw[e];exact⟨YB a,by rw[YC];exact d⟩
 ·rintro ⟨a,b⟩;exact⟨r,⟨a,g⟩,b⟩
theorem Nd{m:ji}(h:kF m)(d:m.seed<18446744073709551616):mgE (mfB m)=0/\mgM (mfB m)=dP m:=by
 have b:dR (mfB m):=⟨m,⟨h,d⟩,rfl⟩
 unfold mgE mgM;rw[qV b,dif_pos b];obtain⟨⟨g,j⟩,k⟩:=Classical.choose_spec b;refine⟨rfl, ?_⟩;generalize Classical.choose b=q at*
 have r:∀a:ji,kF a->a.seed<18446744073709551616->mfB a=mfB m->∃L p,nQ (mfB m) (num (mfB m) 20 1) p L:=by
  intro a s u t
  have n:∀i,∃L p,nQ (mfB m) i p L:=by
   intro i
   induction i with
   | zero=>exact⟨_,_,YE _⟩
   | succ i o =>
     obtain⟨L,p,h⟩:=o;exact⟨_,_,YF h (qK _) (qX rfl)⟩
  exact n _
 obtain⟨L,p,l⟩:=r m h d rfl;have f:=YH l (qK _) (qX rfl);rw[<-f q g j k,f m h d rfl]
def j7: Tw:=⟨#[109,97,112]⟩
def j5: Tw:=⟨#[110,101,119]⟩
theorem ZY: j7≠j5:=by decide +kernel
theorem Nf: vY j7=true:=by decide +kernel
theorem Nh: vY j5=true:=by decide +kernel
noncomputable def yM (D:jL):Int:=if (rdW D j7).2.1≠0 then((rdW D j7).2.1:Nat) else mgE (rdW D j7).1
noncomputable def kK (D:jL):ji:=if (rdW D j7).2.1≠0 then rF else mgM (rdW D j7).1
def cM(D:jL):jL:=(rdW D j7).2.2
def uW(D:jL)(m:ji):Nat × jL :=
 if ¬kF m then(2,D)
 else if D.down=true then(61,D)
 else if (jh D j5).1≠0/\(jh D j5).1≠4 then jh D j5
 else if ((jh D j5).2.cap:Int)-(j4 (jh D j5).2.l:Nat)-((mfB m).size:Nat)<6000 then(60,(jh D j5).2)
 else if (kQ (jh D j5).2 j5 (mfB m)).1≠0 then kQ (jh D j5).2 j5 (mfB m)
 else vj (kQ (jh D j5).2 j5 (mfB m)).2 j5 j7
theorem Nl{D:jL}(ok:WfP D)(m:ji):WfP (uW D m).2:=by
 unfold uW;have a:=dM ok j5;have b:=oW a j5 (mfB m);split
 ·exact ok
 ·split
  ·exact ok
  ·split
   ·exact a
   ·split
    ·exact a
    ·split
     ·exact b
     ·exact Xu b _ _
theorem Nm{D:jL}{m:ji}(a:¬kF m):uW D m=(2,D):=by unfold uW;rw[qV a]
def gM(fl:List Int)(n:Tw):Bool:=decide (n=j5)||(vm n&&!decide (npK n=99)&&!decide ((npN n:Int)∈fl))
def gN(l:List Tw)(m:ji):List Tw:=l.filter (gM m.lv.flatten)
def fw: jL->List Tw->Nat × jL
 | D,[]=>(0,D)
 | D,n::ns=>if (jh D n).1≠0 then jh D n else fw (jh D n).2 ns
def nX(D:jL)(m:ji):Nat × jL:=if D.down=true then(61,D) else fw D (gN (D.l.map jO.name) m)
abbrev jt(D:jL):List Tw:=D.l.map jO.name
theorem rH(n:Tw):∀l:List jO,(l.map jO.name).Nodup->(kr l (jx l n)).map jO.name=(l.map jO.name).filter (fun x=>!decide (x=n))
 | [],_=>rfl
 | x::l,hd=>by
   obtain⟨b,d⟩:=List.nodup_cons.1 (show(x.name::l.map jO.name).Nodup from hd);have a:=rH n l d;unfold kr jx at a ⊢;rw[List.findIdx_cons,List.map_cons];by_cases e:x.name=n
   ·rw[qB e,List.filter_cons_of_neg (by simp[e])];show l.map jO.name=_;refine(List.filter_eq_self.2 fun y f=>?_).symm;have:y≠n:=fun h=>b (e.trans h.symm ▸ f)
    simpa using this
   ·rw[qA e,List.filter_cons_of_pos (by simp[e])];simp only[cond_false,List.take_succ_cons,List.drop_succ_cons,List.cons_append,List.map_cons];rw[a]
theorem Nn{l:List jO}{n:Tw}(h:n∈l.map jO.name):∃f,jT l n=some f:=by
 obtain⟨f,a,rfl⟩:=qP.1 h;cases e:jT l f.name with
 | some g=>exact⟨g,rfl⟩
 | none =>
   unfold jT at e;have:=List.find?_eq_none.1 e f a;simp at this
end
section
open Go.RowKit
theorem Np{l:List Tw}{m:ji}{j:Nat}{x:Tw}(h:l[j]? = some x):gN (l.take (j+1)) m=gN (l.take j) m++(if gM m.lv.flatten x=true then [x] else []):=by
 unfold gN;rw[xQ,h,List.filter_append];congr 1;show [x].filter _=_;by_cases a:gM m.lv.flatten x=true
 ·rw[qV a,List.filter_cons_of_pos a,List.filter_nil]
 ·rw[qZ a,List.filter_cons_of_neg a,List.filter_nil]
theorem YI(l:List Tw)(m:ji):(gN l m).length<=l.length:=List.length_filter_le _ _
theorem Nr{n:Tw}(h:vY n=true):n.size<=maxLen:=by
 unfold vY at h;simp only[Bool.and_eq_true,decide_eq_true_eq]at h;exact qR h.2 (by decide)
theorem DS.names{At:j6}{g w:World}{gd:Nat}{D:jL}{E:List Nat}(api:j8 At)(h:DS At g gd D E w):∀x∈D.l.map jO.name,x.size<=maxLen:=by
 obtain⟨F,a,i,j⟩:=h;intro x d;obtain⟨f,b,rfl⟩:=qP.1 d;exact Nr ((api.xI a).2 f b)
def yN(s:Tw)(p:Nat):Tw:=s.extract p s.size
theorem ZU(s:Tw)(p:Nat):(yN s p).size=s.size-p:=by unfold yN;rw[qk];omega
theorem Ns(s:Tw):yN s 0=s:=by
 unfold yN;have a:=gK s;rw[bS,List.drop_zero,qm (by omega),cr]
theorem ZG(s:Tw)(p:Nat):(yN s p).data.toList=s.data.toList.drop p:=by
 unfold yN;have a:=gK s;rw[fG,qm (by rw[qw];omega)]
theorem Nt(s:Tw)(p k:Nat):jz ((yN s p).extract 0 (min k (yN s p).size))=num s p k:=by
 unfold num;congr 1;rw[bS,bS s p,ZG,ZU,List.drop_zero,Nat.sub_zero,show p+k-p=k by omega];congr 1;have a:=gK s;rcases qd k (s.size-p) with c|c
 ·rw[Nat.min_eq_left (by omega)]
 ·rw[Nat.min_eq_right c,qm (by rw[qw];omega),qm (by rw[qw];omega)]
theorem Na(s:Tw)(p k:Nat):(yN s p).extract (min k (yN s p).size) (yN s p).size=yN s (p+k):=by
 have a:=gK s;have b:=ZU s p;rw[<-cr ((yN s p).extract _ _),<-cr (yN s (p+k)),fG,ZG,ZG];congr 1;rw[List.drop_drop,qm (by rw[qw];omega)];rcases qd k (yN s p).size with c|c
 ·rw[Nat.min_eq_left (by omega)]
 ·rw[Nat.min_eq_right c,List.drop_eq_nil_of_le (by omega),List.drop_eq_nil_of_le (by omega)]
theorem YL(r:Tw):r.extract 0 r.size=r:=by
 have a:=gK r;rw[bS,List.drop_zero,qm (by omega),cr]
theorem YM(r:Tw):r.extract r.size r.size=ByteArray.empty:=by
 rw[bS,Nat.sub_self,List.take_zero];rfl
def ZW(w:World)(g:Nat)(x:Nat)(t:Tw)(e:Ending)(w':World):Prop:=e=.returned (.int .u64 (x:Nat))/\w'=w.setCell ⟨g,0,none⟩ (.string t)
theorem Ni(r:Tw)(k g:Nat)(w:World)(p:1<=k)(q:k<=8)(i:r.size<=1100000)(n:w.cell? ⟨g,0,none⟩=some (.string r))(o:w.frozen? ⟨g,0,none⟩=false):
  Calls prog 284 #[.pointer (some ⟨g,0,none⟩),k] w (ZW w g (jz (r.extract 0 (min k r.size))) (r.extract (min k r.size) r.size)):=by
 have b:=qQ (fun(m:Nat)=>cI (r.extract 0 m) w (by rw[qk];unfold maxLen;omega));unfold ZW;obtain⟨z,d⟩:∃z,z=r.size:=⟨_,rfl⟩
 rw[<-d]at i ⊢;rcases Nat.lt_trichotomy k z with c|c|c
 ·rw[Nat.min_eq_left (by omega)];have a:=qQ (b.out k);clear b;subst d;go_enter func284,ntmps284;go_wp2_with fail;refine X5 a.out ?_;go_wp2;go_ret;exact⟨rfl,rfl⟩
 ·obtain rfl:k=z:=c;rw[Nat.min_self];have a:=qQ (b.out k);clear b;subst d;rw[YL]at a ⊢;rw[YM];go_enter func284,ntmps284;go_wp2_with fail;refine X5 a.out ?_;go_wp2;go_ret;exact⟨rfl,rfl⟩
 ·rw[Nat.min_eq_right (by omega)];have a:=qQ (b.out z);clear b;by_cases l:z=0
  ·subst l
   have j:r=ByteArray.empty:=by
    have:r.data.toList=[]:=xK.1 (by rw[gK];exact d.symm);rw[<-cr r,this];rfl
   subst j;have f:ByteArray.empty.extract 0 0=ByteArray.empty:=(by rw[bS];rfl);rw[f]at a ⊢;clear f d;go_enter func284,ntmps284;go_wp2_with fail;refine X5 a.out ?_;go_wp2;go_ret;exact⟨rfl,rfl⟩
  ·subst d;rw[YL]at a ⊢;rw[YM];go_enter func284,ntmps284;go_wp2_with fail;refine X5 a.out ?_;go_wp2;go_ret;exact⟨rfl,rfl⟩
theorem YN(s:Tw)(p k g:Nat)(w:World)(d:1<=k)(f:k<=8)(i:s.size<=1100000)(a:w.cell? ⟨g,0,none⟩=some (.string (yN s p)))(b:w.frozen? ⟨g,0,none⟩=false):
  Calls prog 284 #[.pointer (some ⟨g,0,none⟩),k] w (ZW w g (num s p k) (yN s (p+k))):=by
 have h:=Ni (yN s p) k g w d f (by rw[ZU];omega) a b;rw[Nt,Na]at h;exact h
theorem No(s:Tw)(w:World)(d:s.size<=maxLen):
  Calls prog 46 #[s] w (X3 (.bool (stS s)) w):=by
 unfold maxLen at d;unfold stS;by_cases a:1<=s.size
 ·have f:decide ((1:Int)<=(s.size:Int))=true:=qB (by omega);by_cases b:s.size<=32
  ·have g:decide ((s.size:Int)<=32)=true:=qB (by omega);rw[qB ⟨a,b⟩];go_enter func46,ntmps46;go_wp2;go_ret;exact⟨rfl,qG _ _⟩
  ·have g:decide ((s.size:Int)<=32)=false:=qA (by omega);rw[qA (fun h=>b h.2)];go_enter func46,ntmps46;go_wp2;go_ret;exact⟨rfl,qG _ _⟩
 ·have f:decide ((1:Int)<=(s.size:Int))=false:=qA (by omega);rw[qA (fun h=>a h.1)];go_enter func46,ntmps46;go_wp2;go_ret;exact⟨rfl,qG _ _⟩
theorem Nw(c:UInt8)(n:Int)(w:World)(h:¬(0<=n/\n<=999999)):
  Calls prog 186 #[.int .u8 (c.toNat:Nat),n] w (X3 (.string ByteArray.empty) w):=by
 by_cases a:n<0
 ·have b:decide (n<0)=true:=qB a;clear h;go_enter func186,ntmps186;go_wp2;go_ret;exact⟨rfl,qG _ _⟩
 ·have b:decide (n<0)=false:=qA a;have d:decide (999999<n)=true:=qB (by omega);clear h;go_enter func186,ntmps186;go_wp2;go_ret;exact⟨rfl,qG _ _⟩
theorem OQ(l:List UInt8)(i:Nat)(b:UInt8)(hi:i<l.length)(j:Nat):(if j=i then Value.int .u8 ((b.toNat:Nat):Int) else l7 l j)=l7 (l.set i b) j:=by
 unfold l7;by_cases e:j=i
 ·subst e;rw[qV rfl,qj,List.getElem?_set_self hi];rfl
 ·rw[qZ e,qj,qj,List.getElem?_set_ne (fun h=>e h.symm)]
def nmL(c:UInt8)(k n:Nat):List UInt8:=c::(List.replicate (6-k) 0++de k n)
theorem YO(c:UInt8)(k n:Nat)(a:k<=6):(nmL c k n).length=7:=by simp[nmL,oB];omega
theorem OX(c:UInt8)(k n:Nat)(f:k<6):(nmL c k n).set (6-k) (UInt8.ofNat (48+n/10 ^ k%10))=nmL c (k+1) n:=by
 obtain⟨j,a⟩:∃j,6-k=j+1:=⟨5-k,by omega⟩
 have b:6-(k+1)=j:=by omega
 have d:(List.replicate j (0:UInt8)).length=j:=List.length_replicate;unfold nmL;rw[a,b,List.set_cons_succ,de,List.replicate_succ',qh,List.set_append_right _ _ (by omega),d,Nat.sub_self,List.singleton_append,List.set_cons_zero]
theorem OZ(c:UInt8)(n:Nat)(w:World)(h:n<=999999):
  Calls prog 186 #[.int .u8 (c.toNat:Nat),n] w (X3 (.string (bs (c::de 6 n))) w):=by
 have A:decide ((n:Int)<0)=false:=qA (by omega);have B:decide ((999999:Int)<(n:Int))=false:=qA (by omega);go_enter func186,ntmps186;go_wp2;go_loopw [1,15] (fun m i wr=>∃k:Nat,k<=6/\i=.int .i64 k/\m=.int .i64 (n/10 ^ k:Nat)/\RowB wr w.1.size 7 (l7 (nmL c k n))/\Below w.1.size w wr) (fun _ i _=>6-(intOf i).toNat)
 case atStart =>
  refine⟨0,qI _,rfl,by simp, ?_, ?_⟩
  ·refine⟨_,287,(0,0),(show(w.heap.push _)[w.1.size]? = _ from Array.getElem?_push_size),qK 7,qX rfl,fun i r=>?_⟩;have q:nmL c 0 n=[c,0,0,0,0,0,0]:=rfl;rw[q]
   match i,r with
   | 0,_|1,_|2,_|3,_|4,_|5,_|6,_=>rfl
  ·exact(qG _ _).alloc (qK _) _
 case round =>
  obtain⟨k,s,rfl,rfl,b,f⟩:=hrel;by_cases t:k<6
  ·obtain⟨m,a⟩:∃m,n/10 ^ k=m:=⟨_,rfl⟩
   have g:n/10 ^ (k+1)=m/10:=(by rw[Nat.pow_succ,<-Nat.div_div_eq_div_mul,a]);have z:m<=999999:=(by rw[<-a];exact qR (Nat.div_le_self _ _) h);rw[a];have p:=qQ g;have u:=b.cell (i:=6-k) (by omega);have y:=b.frozen (i:=6-k) (by omega);have l:=b.set (6-k) (.int .u8 ((UInt8.ofNat (48+m%10)).toNat:Nat));have d:=l.congr (fun j _=>OQ _ _ _ (by rw[YO c k n s];omega) j);rw[<-a,OX c k n t,a,oC _ (Nat.mod_lt _ (by decide))]at d;have o:=qQ d;clear a g l d;clear b;go_wp2;go_roundw
   case rel =>
    refine⟨k+1,by omega,by go_num,by rw[p.out];go_num, ?_, ?_⟩
    ·exact o.out
    ·exact f.setCell (by simp) _
   case measure=>simp[intOf];omega
  ·obtain rfl:k=6:=(by omega);have v:=Kz b (YO c 6 n (qK _)) 7;go_wp2;go_ret;exact⟨rfl,f⟩
theorem ZA(c:UInt8)(n:Int)(w:World):
  Calls prog 186 #[.int .u8 (c.toNat:Nat),n] w (X3 (.string (nmS c n)) w):=by
 by_cases h:0<=n/\n<=999999
 ·obtain⟨k,rfl⟩:∃k:Nat,n=k:=⟨n.toNat,by omega⟩
  rw[fW (by omega)];exact OZ c k w (by omega)
 ·rw[My h];exact Nw _ n w h
theorem OJ(n:Int)(w:World):Calls prog 128 #[n] w (X3 (.string (nmS 99 n)) w):=by
 have h:Calls prog 186 #[.int .u8 99,n] w (X3 (.string (nmS 99 n)) w):=ZA 99 n w
 generalize nmS 99 n=s at*;have H:=qQ h;clear h;go_enter func128,ntmps128;go_wp2_with fail;refine(H.out).mono ?_;rintro _ b⟨rfl,a⟩;go_wp2;go_ret;exact⟨rfl,a⟩
theorem OV(n:Int)(w:World):Calls prog 123 #[n] w (X3 (.string (nmS 116 n)) w):=by
 have h:Calls prog 186 #[.int .u8 116,n] w (X3 (.string (nmS 116 n)) w):=ZA 116 n w
 generalize nmS 116 n=s at*;have H:=qQ h;clear h;go_enter func123,ntmps123;go_wp2_with fail;refine(H.out).mono ?_;rintro _ b⟨rfl,a⟩;go_wp2;go_ret;exact⟨rfl,a⟩
theorem OY(n:Int)(w:World):Calls prog 124 #[n] w (X3 (.string (nmS 98 n)) w):=by
 have h:Calls prog 186 #[.int .u8 98,n] w (X3 (.string (nmS 98 n)) w):=ZA 98 n w
 generalize nmS 98 n=s at*;have H:=qQ h;clear h;go_enter func124,ntmps124;go_wp2_with fail;refine(H.out).mono ?_;rintro _ b⟨rfl,a⟩;go_wp2;go_ret;exact⟨rfl,a⟩
theorem YP(c:UInt8)(w:World):Calls prog 189 #[.int .u8 (c.toNat:Nat)] w (X0 (.bool (isK c)) w):=by
 by_cases a:c.toNat=99
 ·obtain rfl:c=99:=UInt8.toNat_inj.1 a;go_enter func189,ntmps189;go_wp2;go_ret;exact⟨rfl,rfl⟩
 ·by_cases b:c.toNat=116
  ·obtain rfl:c=116:=UInt8.toNat_inj.1 b;go_enter func189,ntmps189;go_wp2;go_ret;exact⟨rfl,rfl⟩
  ·by_cases d:c.toNat=98
   ·obtain rfl:c=98:=UInt8.toNat_inj.1 d;go_enter func189,ntmps189;go_wp2;go_ret;exact⟨rfl,rfl⟩
   ·have f:isK c=false:=by
     simp only[isK,Bool.or_eq_false_iff,beq_eq_false_iff_ne];exact⟨⟨fun e=>a (by rw[e];rfl),fun e=>b (by rw[e];rfl)⟩,fun e=>d (by rw[e];rfl)⟩
    have g:((c.toNat:Int)==99)=false:=qg.2 (by omega);have i:((c.toNat:Int)==116)=false:=qg.2 (by omega);have j:((c.toNat:Int)==98)=false:=qg.2 (by omega);rw[f];clear f a b d;go_enter func189,ntmps189;go_wp2;go_ret;exact⟨rfl,rfl⟩
def YR(w:World)(e:Ending)(w':World):Prop:=e=.returned (.tuple #[.int .u8 0,.int .i64 0,.bool false])/\w=w'
theorem OU(s:Tw)(w:World)(a:s.size<=maxLen)(h:¬s.size=7):
  Calls prog 126 #[s] w (YR w):=by
 unfold maxLen at a;have b:((s.size:Int) != 7)=true:=by simp;omega
 have d:((s.size:Int)==7)=false:=qg.2 (by omega);clear h;go_enter func126,ntmps126;go_wp2;go_ret3;exact⟨rfl,rfl⟩
theorem OG(s:Tw)(w:World)(d:0<s.size)(h:s.size=7)(c:UInt8)(f:s[0]'d=c)(b:isK c=false):
  Calls prog 126 #[s] w (YR w):=by
 have i:((s.size:Int) != 7)=false:=by simp;omega
 have j:((s.size:Int)==7)=true:=beq_iff_eq.2 (by omega);have g:(0:Int)<(s.size:Int):=by omega
 have a:=qQ (YP c);clear h;go_enter func126,ntmps126;go_wp2_with fail;refine(a.out w).mono ?_;rintro _ _⟨rfl,rfl⟩;rw[b];go_wp2;go_ret3;exact⟨rfl,rfl⟩
theorem OW(s:Tw)(w:World)(hz:0<s.size)(h:s.size=7)(c:UInt8)(l:List UInt8)(g:s.data.toList=c::l)(A:isK c=true):
  Calls prog 126 #[s] w (X0 (.tuple #[.int .u8 (npK s:Nat),.int .i64 (npN s:Nat),.bool (vm s)]) w):=by
 have t1:((s.size:Int) != 7)=false:=by simp;omega
 have t2:((s.size:Int)==7)=true:=beq_iff_eq.2 (by omega);have aa:l.length=6:=by have:=rJ s;rw[g,qu]at this;omega
 have hc:=Vl g hz;have aj:(0:Int)<(s.size:Int):=by omega
 have T:=qQ fun(j:Nat) (k:j<l.length)=>(⟨by omega,Mb g j k (by omega)⟩:∃hs:j+1<s.size,s[j+1]'hs=l[j])
 have J:=qQ fun(b:∀x∈l,isD x=true)=>Vd c l aa A b
 have M:bs (c::l)=s:=by rw[<-g,Vg]
 rw[M]at J
 have Z:=qQ fun(j:Nat) (k:j<l.length) (f:isD l[j]=false)=>tI (s:=s) (fun c' l' e=>by
  rw[g]at e;cases e;rintro ⟨_,_,ha⟩;rw[ha _ (List.getElem_mem k)]at f;cases f)
 have Y:=qQ fun(j:Nat) (k:j<=l.length) (b:∀i (a:i<l.length),i<j->isD l[i]=true)=>(by
  have h1:=tH (l:=l.take j) (fun x F=>by
   obtain⟨i,a⟩:=ql F;rw[List.getElem?_take]at a;by_cases v:i<j
   ·rw[qV v]at a;obtain⟨P,e⟩:=qO.1 a;rw[<-e];exact b i P v
   ·rw[qZ v]at a;cases a)
  rw[qT]at h1;have:10 ^ min j l.length<=10 ^ 6:=Nat.pow_le_pow_right (by decide) (by omega);omega:dv (l.take j)<=999999)
 obtain⟨K,y⟩:∃K,npK s=K:=⟨_,rfl⟩
 obtain⟨N,z⟩:∃N,npN s=N:=⟨_,rfl⟩
 obtain⟨o,C⟩:∃o,vm s=o:=⟨_,rfl⟩
 rw[y,z,C];have H:=qQ (qU y (qU z C));have U:=qQ (YP c);have V:=qQ A;clear h g y z C M A;go_enter func126,ntmps126;go_wp2_with fail;refine(U.out w).mono ?_;rintro _ _⟨rfl,rfl⟩;rw[V.out];go_wp2;go_loopw [3,16] (fun n i wr=>∃j:Nat,j<=6/\i=.int .i64 (j:Nat)/\n=.int .i64 (dv (l.take j):Nat)/\(∀i (a:i<l.length),i<j->isD l[i]=true)/\w=wr) (fun _ i _=>6-(intOf i).toNat)
 case atStart=>exact⟨0,qI _,rfl,rfl,fun i a h=>absurd h (by omega),rfl⟩
 case round =>
  obtain⟨j,k,rfl,rfl,b,rfl⟩:=hrel;have ae:=Y.out j (by omega) b;have G:=qQ b;clear b;by_cases P:j<6
  ·obtain⟨af,ag⟩:=T.out j (by omega);have ai:(1+(j:Int)).toNat=j+1:=(by omega);have ah:(1+(j:Int))<(s.size:Int):=(by omega);have ad:=(l[j]'(by omega)).toNat_lt;cases f:isD (l[j]'(by omega)) with
   | false =>
     have B:=Z.out j (by omega) f;obtain⟨p,q⟩:=rK B;obtain⟨r,t,u⟩:=H.out;rw[p]at r;rw[q]at t;rw[B]at u;subst r t u;simp only[isD,decide_eq_false_iff_not]at f;have O:(l[j]'(by omega)).toNat<48∨57<(l[j]'(by omega)).toNat:=(by omega);generalize l[j]'(by omega)=d at*;clear f p q B;by_cases ac:d.toNat<48
     ·have R:decide ((d.toNat:Int)<48)=true:=qB (by omega);clear O;go_wp2;go_ret3;exact⟨rfl,rfl⟩
     ·have R:decide ((d.toNat:Int)<48)=false:=qA (by omega);have v2:decide ((57:Int)<(d.toNat:Int))=true:=qB (by omega);clear O;go_wp2;go_ret3;exact⟨rfl,rfl⟩
   | true =>
     have X:=qQ (Mc (l:=l) (j:=j) (by omega))
     have I:∀i (a:i<l.length),i<j+1->isD l[i]=true:=fun i a v=>by
      by_cases e:i=j
      ·subst e;exact f
      ·exact G.out i a (by omega)
     have W:=qQ I;simp only[isD,decide_eq_true_eq]at f;generalize l[j]'(by omega)=d at*;obtain⟨d1,d2⟩:=f;have R:decide ((d.toNat:Int)<48)=false:=qA (by omega);have v2:decide ((57:Int)<(d.toNat:Int))=false:=qA (by omega);generalize dv (l.take j)=m at*;clear I;go_wp2;go_roundw
     case rel=>exact⟨j+1,by omega,by go_num,by rw[X.out];go_num,W.out,trivial⟩
     case measure=>simp[intOf];omega
  ·obtain rfl:j=6:=by omega
   have b:∀x∈l,isD x=true:=fun x F=>by
    obtain⟨i,a⟩:=ql F;obtain⟨ab,e'⟩:=qO.1 a;rw[<-e'];exact G.out i ab (by omega)
   obtain⟨p,q,S⟩:=J.out b;obtain⟨r,t,u⟩:=H.out;rw[q]at r;rw[S]at t;rw[p]at u;have Q:l.take 6=l:=qm (by omega);rw[Q];subst r t u;clear p q S Q b;go_wp2;go_ret3;exact⟨rfl,rfl⟩
theorem OA(s:Tw)(w:World)(m:s.size<=maxLen):
  Calls prog 126 #[s] w (X0 (.tuple #[.int .u8 (npK s:Nat),.int .i64 (npN s:Nat),.bool (vm s)]) w):=by
 by_cases b:s.size=7
 ·cases a:s.data.toList with
  | nil =>
    have:=rJ s;rw[a,b]at this;cases this
  | cons c l =>
    cases d:isK c with
    | true=>exact OW s w (by omega) b c l a d
    | false =>
      obtain⟨g,i⟩:=rK (tI (s:=s) (fun j k e=>by
       rw[a]at e;cases e;rintro ⟨_,h,_⟩;rw[d]at h;cases h))
      have f:=tI (s:=s) (fun j k e=>by
       rw[a]at e;cases e;rintro ⟨_,h,_⟩;rw[d]at h;cases h)
      rw[g,i,f];exact OG s w (by omega) b c (Vl a (by omega)) d
 ·have f:=tI (s:=s) (fun j k e=>by
   rintro ⟨h,_,_⟩;have:=rJ s;rw[e,qu]at this;omega)
  obtain⟨g,i⟩:=rK f;rw[g,i,f];exact OU s w m b
theorem OB: kZ where
 stream:=No
 chunk:=fun n w _=>OJ n w
 table:=fun n w _=>OV n w
 zN:=fun n w _=>OY n w
 parse:=fun s w a=>(OA s w a).mono (by rintro e w'⟨rfl,rfl⟩;exact⟨rfl,qG _ _⟩)
theorem YS(b:Nat)(w:World)(a:b<18446744073709551616):
  Calls prog 262 #[.float .f64 b] w (X0 (.bool (vC b)) w):=by
 have d:(FloatKind.f64.format.order b b != some Ordering.eq)=vC b:=by rw[NB,NA a];cases vC b<;>rfl
 generalize vC b=n at*;clear a;go_enter func262,ntmps262;go_wp2;go_ret;exact⟨rfl,rfl⟩
theorem OC{b:Nat}(a:b<18446744073709551616)(d:vC b=false)(k:Nat):
  (FloatKind.f64.format.order (hw k) b==some Ordering.lt||FloatKind.f64.format.order (hw k) b==some Ordering.eq)=decide ((hw k:Int)<=sr b):=by
 rw[NC (LS k) a,d,L4,L3];rfl
theorem OD(t:TypeId)(k:Nat)(a:k<17)(w:World):(binOp .quo t (.float .f64 (hw k)) (.float .f64 4611686018427387904)).run prog w=.ok (.float .f64 (hw (k+1))) w :=
 run_float_arith w .quo t .f64 _ _ _ (L7 k a)
theorem OE(b:Nat)(w:World)(i:b<18446744073709551616)(m:vC b=false):
  Calls prog 227 #[.float .f64 b] w fun e w'=>∃n:Nat,e=.returned (.int .i64 n)/\VA (sr b) n/\w=w':=by
 have t:=qQ (fun w=>YS b w i);have v:=qQ (OC i m);rw[m]at t;clear i m;generalize sr b=s at*;go_enter func227,ntmps227;go_wp2_with fail;go_step3;go_wp2_with fail;refine X5 (t.out _) ?_;go_wp2;go_step3;go_wp2;go_loopw [3,4] (fun p h wr=>∃k:Nat,1<=k/\k<=16/\p=.int .i64 k/\h=.float .f64 (hw k)/\(∀j,1<=j->j<k->s<hw j)/\wr=w) (fun p _ _=>17-(intOf p).toNat)
 case atStart=>exact⟨1,by omega,by omega,rfl,by rw[LR],fun j _ _=>by omega,rfl⟩
 case round =>
  obtain⟨k,A,B,rfl,rfl,g,rfl⟩:=hrel;by_cases C:k<16
  ·have I:(k:Int)<16:=(by omega);have q:=v.out k;have H:=qQ (OD 24 k (by omega) wr);have f:=qQ g;clear g;obtain⟨d,l⟩:∃d,decide ((hw k:Int)<=s)=d:=⟨_,rfl⟩
   rw[l]at q;have r:=qQ l;clear l;have u:=H.out;cases d
   ·have G:=qQ (show hw (k+1)=hw (k+1) from rfl);obtain⟨x,a⟩:∃x,x=hw k:=⟨_,rfl⟩
    obtain⟨y,o⟩:∃y,y=hw (k+1):=⟨_,rfl⟩
    rw[<-a,<-o]at u;rw[<-a]at q ⊢;have X:=qQ a;have Y:=qQ o;clear a o H G;go_wp2;go_roundw
    case rel =>
     refine⟨k+1,by omega,by omega,by go_num,by rw[Y.out],fun j z F=>?_,by trivial⟩;rcases qd j k with c|c
     ·exact f.out j z c
     ·obtain rfl:j=k:=(by omega);have:=of_decide_eq_false r.out;omega
    case measure=>simp[intOf];omega
   ·obtain⟨x,a⟩:∃x,x=hw k:=⟨_,rfl⟩
    rw[<-a]at q ⊢;have X:=qQ a;clear u H a;go_wp2
    (try rw[Exit.noGoto_ret])
    go_ret;exact⟨k,rfl,⟨A,B,f.out,qY (of_decide_eq_true r.out)⟩,rfl⟩
  ·obtain rfl:k=16:=(by omega);have f:=qQ g;clear g;generalize hw 16=x at*;go_wp2
   (try rw[Exit.noGoto_ret])
   go_ret;exact⟨16,rfl,⟨by omega,by omega,f.out,qX rfl⟩,rfl⟩
theorem OF(b:Nat)(w:World)(d:b<18446744073709551616)(f:vC b=true):
  Calls prog 227 #[.float .f64 b] w (X0 (.int .i64 4) w):=by
 have a:=qQ (fun w=>YS b w d);rw[f]at a;clear d f;go_enter func227,ntmps227;go_wp2_with fail;go_step3;go_wp2_with fail;refine X5 (a.out _) ?_;go_wp2
 (try rw[Exit.noGoto_ret])
 go_ret;exact⟨rfl,rfl⟩
theorem OH(b:Nat)(w:World)(d:b<18446744073709551616):
  Calls prog 227 #[.float .f64 b] w fun e w'=>∃n:Nat,e=.returned (.int .i64 n)/\pf b n/\w=w':=by
 unfold pf;cases f:vC b
 ·refine(OE b w d f).mono ?_;rintro e w'⟨n,a,h,hw⟩;exact⟨n,a,by rw[qZ (by decide)];exact h,hw⟩
 ·refine(OF b w d f).mono ?_;rintro e w'⟨a,hw⟩;exact⟨4,a,by rw[qV rfl],hw⟩
theorem OI(n:Int)(w:World):
  Calls prog 263 #[n,.int .i64 0,.int .i64 10000] w (X0 (.int .i64 (cN n:Nat)) w):=by
 have a:(n<0/\(cN n:Int)=0)∨(0<=n/\10000<n/\(cN n:Int)=10000)∨(0<=n/\n<=10000/\(cN n:Int)=n):=by unfold cN;split;omega;split<;>omega
 rcases a with⟨c1,e⟩|⟨c1,c2,e⟩|⟨c1,c2,e⟩
 all_goals
  rw[e];clear e;go_enter func263,ntmps263;go_wp2;go_ret;exact⟨rfl,rfl⟩
theorem OL(n:Int)(w:World):
  Calls prog 263 #[n,.int .i64 1,.int .i64 16] w (X0 (.int .i64 (cK n:Nat)) w):=by
 have a:(n<1/\(cK n:Int)=1)∨(1<=n/\16<n/\(cK n:Int)=16)∨(1<=n/\n<=16/\(cK n:Int)=n):=by unfold cK;split;omega;split<;>omega
 rcases a with⟨c1,e⟩|⟨c1,c2,e⟩|⟨c1,c2,e⟩
 all_goals
  rw[e];clear e;go_enter func263,ntmps263;go_wp2;go_ret;exact⟨rfl,rfl⟩
theorem OM(n k:Int)(w:World):
  Calls prog 228 #[n,k] w (X0 (.int .i64 (ct n k:Nat)) w):=by
 have g:=qQ (fun w=>OI n w);have i:=qQ (fun w=>OL k w);have d:=L8 n;have f:=VB k;unfold ct;generalize cN n=a at*;generalize cK k=b at*;have l:=L9 d f;have m:(a:Int)*(b:Int)=((a*b:Nat):Int):=by simp
 have j:(480<a*b*3/2/\oZ a b=(a*b*3/2+479)/480)∨(a*b*3/2<=480/\oZ a b=1):=by unfold oZ tK;split<;>omega
 generalize oZ a b=r at*;generalize a*b=p at*;have o:(p:Int)<=160000:=by omega
 have q:(p:Int)*3<=480000:=by omega
 have s:(0:Int)<=(p:Int)*3:=by omega
 rcases j with⟨c1,rfl⟩|⟨c1,rfl⟩
 all_goals
  go_enter func228,ntmps228;go_wp2_with fail;refine X5 (g.out _) ?_;go_wp2_with fail;refine X5 (i.out _) ?_;go_wp2;go_ret;exact⟨my (by omega),rfl⟩
def tj(n:Int):Value:=.int .i64 n
theorem kN.xy{w:World}{base:Nat}{e:TypeId}{v:Value}{l:List Int}(h:w.ownsRow base e 1 v l.length (l.map tj)):kN w v l:=by
 have b:=h;rcases h.2 with⟨a,f⟩|⟨g,cap,n,a,o,j,m,k,q,r⟩
 ·exact qX ⟨xK.1 f,none,0,a⟩
 ·refine qY ⟨g,0,cap,a,m,k,(qn.1 j).1,fun i x d=>?_⟩;rw[a]at b;have p:i<l.length:=(qO.1 d).1;rw[qe,b.cellAt i (by omega),qv,d];rfl
theorem ON{w:World}{base n size:Nat}{e:TypeId}{v:Value}{xs:List Value}(h:w.ownsRow base e size v n xs):∀k,v.ownBlock=some k->base<=k:=by
 intro k a;rcases h.2 with⟨rfl,_⟩|⟨g,cap,d,rfl,b,_⟩
 ·cases a
 ·cases a;exact b
def oI(s:Tw)(a:Int)(w:World)(e:Ending)(w':World):Prop:=∃u,e=.returned (.tuple #[u,.int .i64 (wlE s a:Nat)])/\kN w' u (wlL s a)/\Below w.1.size w w'
theorem lQ(a x b:Tw){i j:Nat}(hi:i=a.size)(f:j=a.size+x.size):(a++x++b).extract i j=x:=by
 subst hi f;rw[ByteArray.append_assoc];apply qi;apply Array.toList_inj.1;have d:a.data.toList.length=a.size:=Array.length_toList;have g:x.data.toList.length=x.size:=Array.length_toList;rw[ByteArray.data_extract,Array.toList_extract,List.extract];simp only[ByteArray.data_append,Array.toList_append];rw[List.drop_left' d,Nat.add_sub_cancel_left,List.take_left' g]
theorem YT(p:Tw):jj p=bs (be 4 p.size)++(p++(bs (yi (bs (be 4 p.size)++p).data.toList)++bs (be 4 p.size))):=by
 unfold jj vv;simp only[ByteArray.append_assoc]
theorem OO(n:Nat)(h:n<4294967296):jz (bs (be 4 n))=n:=by
 unfold jz;have:(bs (be 4 n)).data.toList=be 4 n:=by simp[bs]
 rw[this,qm (by rw[je];omega),dH];exact Nat.mod_eq_of_lt (by omega)
theorem Y0(a p b:Tw)(d:p.size<=2000):vQ (a++jj p++b) a.size=p.size:=by
 unfold vQ
 have e:a++jj p++b=a++bs (be 4 p.size)++((p++(bs (yi (bs (be 4 p.size)++p).data.toList)++bs (be 4 p.size)))++b):=by
  rw[YT];simp only[ByteArray.append_assoc]
 rw[e,lQ _ _ _ rfl (by rw[kP,je]),OO _ (by omega)]
theorem OP(a p b:Tw):(a++jj p++b).extract (a.size+4) (a.size+4+p.size)=p:=by
 have e:a++jj p++b=(a++bs (be 4 p.size))++p++((bs (yi (bs (be 4 p.size)++p).data.toList)++bs (be 4 p.size))++b):=by
  rw[YT];simp only[ByteArray.append_assoc]
 rw[e];exact lQ _ _ _ (by rw[qy,kP,je]) (by rw[qy,kP,je])
theorem ZB(a p b:Tw)(i:p.size<=2000):ud (a++jj p++b) a.size=true/\bT (a++jj p++b) (a.size:Nat)=p/\vy (a++jj p++b) (a.size:Nat)=a.size+(p.size+12):=by
 have d:=Y0 a p b i;have f:=OP a p b;have l:(a++jj p++b).size=a.size+(p.size+12)+b.size:=by rw[qy,qy,gU]
 have g:ud (a++jj p++b) a.size=true:=by
  rw[rU,d,f];refine⟨by omega,i,by omega, ?_⟩;exact lQ _ _ _ rfl (by rw[gU];omega)
 obtain⟨_,j,k⟩:=Xo g;refine⟨g, ?_, ?_⟩
 ·rw[j,d,f]
 ·rw[k,d];omega
def hdT(n:Nat):Tw:=⟨#[99,104,110,107]⟩++bs (be 4 n)
def hdS(n:Int):Tw:=if 0<=n/\n<=199 then vv (hdT n.toNat) else ByteArray.empty
theorem ZC{n:Int}(h:¬(0<=n/\n<=199)):hdS n=ByteArray.empty:=by unfold hdS;rw[qZ h]
theorem Y4{n:Nat}(h:n<=199):hdS (n:Nat)=vv (hdT n):=by unfold hdS;rw[qV (by omega),qa]
theorem Y5(n:Nat):(hdT n).size=8:=by unfold hdT;rw[qy,kP,je];rfl
theorem lX{n:Nat}(h:n<=199):(hdS (n:Nat)).size=12:=by rw[Y4 h,tP,Y5]
def scK(s:Tw)(n:Int):Nat:=if ¬(0<=n/\n<=199) then 0 else if ¬s.extract 0 (min s.size 12)=(hdS n).extract 0 (min s.size 12) then 0 else if s.size<12 then 1 else 2
def scL(s:Tw)(n:Int):List Int:=if scK s n=2 then wlL s 12 else []
def scE(s:Tw)(n:Int):Nat:=if scK s n=2 then wlE s 12 else 0
def bx(s:Tw)(n:Int):Bool:=decide (¬scK s n=0)
theorem OR{s:Tw}{n:Int}(h:scK s n=0):scL s n=[]/\scE s n=0/\bx s n=false:=by simp[scL,scE,bx,h]
theorem OS{s:Tw}{n:Int}(h:scK s n=1):scL s n=[]/\scE s n=0/\bx s n=true:=by simp[scL,scE,bx,h]
theorem Y6{s:Tw}{n:Int}(h:scK s n=2):scL s n=wlL s 12/\scE s n=wlE s 12/\bx s n=true:=by simp[scL,scE,bx,h]
theorem OT{s:Tw}{n:Int}(h:¬(0<=n/\n<=199)):scK s n=0:=by unfold scK;rw[qV h]
theorem O0{s:Tw}{n:Int}(h:0<=n/\n<=199)(a:¬s.extract 0 (min s.size 12)=(hdS n).extract 0 (min s.size 12)):scK s n=0:=by unfold scK;rw[qZ (by omega),qV a]
theorem O1{s:Tw}{n:Int}(h:0<=n/\n<=199)(a:s.extract 0 (min s.size 12)=(hdS n).extract 0 (min s.size 12))(b:s.size<12):scK s n=1:=by unfold scK;rw[qZ (by omega),qZ (by simp[a]),qV b]
theorem Y7{s:Tw}{n:Int}(h:0<=n/\n<=199)(a:s.extract 0 (min s.size 12)=(hdS n).extract 0 (min s.size 12))(b:¬s.size<12):scK s n=2:=by unfold scK;rw[qZ (by omega),qZ (by simp[a]),qZ b]
def ftS(size:Int)(p:Tw):Bool:=decide (p.size<=2000/\0<=size/\size<=4096/\size+(p.size:Int)+12<=4096)
def nZ(s:Tw)(n:Int)(w:World)(e:Ending)(w':World):Prop:=∃u,e=.returned (.tuple #[u,.int .i64 (scE s n:Nat),.bool (bx s n)])/\kN w' u (scL s n)/\Below w.1.size w w'
theorem ZD{H:Tw}(a:H.size=12):¬H.toList=[]/\(H.toList==[])=false:=by
 have:¬H.toList=[]:=fun e=>by
  have h:H=ByteArray.empty:=qi (Array.toList_inj.1 (by rw[<-Lib.toList_data,e];rfl));rw[h]at a;cases a
 exact⟨this,by rw[qg];exact this⟩
def rI(w:World)(e:Ending)(w':World):Prop:=∃u,e=.returned (.tuple #[u,.int .i64 0,.bool false])/\kN w' u []/\Below w.1.size w w'
def ZE(w:World)(e:Ending)(w':World):Prop:=∃u,e=.returned (.tuple #[u,.int .i64 0,.bool true])/\kN w' u []/\Below w.1.size w w'
end
section
structure jq where
 xB:Nat
 chunks:Nat
 endp:Nat
 sure:Nat
abbrev nmC(n:Nat):Tw:=nmS 99 (n:Nat)
def jo: Tw:=⟨#[110,101,119]⟩
def stR(r:Nat->Nat):Nat->Nat->Nat × Nat
 | 0,k=>(0,k)
 | n+1,k=>if r k=0 then stR r n (k+1) else(r k,k+1)
def vu(D:jL)(L:jq):Nat:=if D.down then 61 else if D.xB=L.xB then 0 else 61
def rdC(D:jL)(n:Tw):Tw × Nat × jL:=if (j9 D n).2=0 then kM D n 0 ((j9 D n).1:Nat) else(ByteArray.empty,(j9 D n).2,D)
def v7(D:jL)(L:jq):Nat × jL × jq :=
 if L.chunks=0 then(0,D, { L with sure:=L.endp }) else
 if (kJ D (nmC (L.chunks-1))).1=0 then(0,(kJ D (nmC (L.chunks-1))).2, { L with sure:=L.endp }) else((kJ D (nmC (L.chunks-1))).1,(kJ D (nmC (L.chunks-1))).2,L)
def uA(D:jL)(L:jq)(p:Tw):Nat × Nat × Nat :=
 if L.chunks=0 then(0,12,0) else
 if (j9 D (nmC (L.chunks-1))).2=0 then(if ftS ((j9 D (nmC (L.chunks-1))).1:Nat) p=true then(L.chunks-1,(j9 D (nmC (L.chunks-1))).1,0) else(L.chunks,12,0))
 else(0,0,(j9 D (nmC (L.chunks-1))).2)
def gG(D:jL)(s:Tw):Bool:=decide (6000<=(D.cap:Int)-(j4 D.l:Nat)-(s.size:Nat))
def uX(a:Nat × jL × jq)(f:jL->jq->Nat × jL × jq):Nat × jL × jq:=if a.1=0 then f a.2.1 a.2.2 else a
def onD(f:jL->Nat × jL)(D:jL)(L:jq):Nat × jL × jq:=((f D).1,(f D).2,L)
def cJ(D:jL)(L:jq)(r:Tw):Nat × jL × jq :=
 if 200<=L.chunks∨gG D (hdS (L.chunks:Nat)++r)=false then(60,D,L) else
 uX (uX (v7 D L) (onD fun E=>jk E (nmC L.chunks))) (onD fun E=>jr E (nmC L.chunks) (hdS (L.chunks:Nat)++r))
def uR(D:jL)(L:jq)(r:Tw):Nat × jL:=if gG D r=false then(60,D) else jr D (nmC (L.chunks-1)) r
def uS(D:jL)(L:jq)(p:Tw):Nat × Nat × jL × jq :=
 if vu D L≠0 then(0,vu D L,D,L) else
 if 2000<p.size then(0,3,D,L) else
 if (uA D L p).2.2≠0 then(0,(uA D L p).2.2,D,L) else
 let n:=(uA D L p).1
 let a:=(uA D L p).2.1
 let r:=if n=L.chunks then cJ D L (jj p) else onD (fun E=>uR E L (jj p)) D L
 if r.1≠0 then(0,r.1,r.2.1,r.2.2) else(4096*n+a,0,r.2.1, { r.2.2 with chunks:=n+1,endp:=4096*n+a+(jj p).size })
def yA(D:jL)(L:jq):Nat × jL × jq:=if vu D L≠0 then(vu D L,D,L) else v7 D L
def tk(D:jL)(n:Tw)(a:Nat):Tw × Nat × jL :=
 if (j9 D n).2≠0 then(ByteArray.empty,(j9 D n).2,D) else
 if (j9 D n).1<a+12 then(ByteArray.empty,4,D) else
 let b:=kM D n (a:Nat) 4
 if b.2.1≠0 then(ByteArray.empty,b.2.1,b.2.2) else
 if 2000<jz b.1∨(j9 D n).1<a+12+jz b.1 then(ByteArray.empty,4,b.2.2) else
 let c:=kM b.2.2 n (a:Nat) ((jz b.1+12:Nat):Int)
 if c.2.1≠0 then(ByteArray.empty,c.2.1,c.2.2) else
 if bZ c.1 0=true then(bT c.1 0,0,c.2.2) else(ByteArray.empty,4,c.2.2)
def lr(D:jL)(L:jq)(pos:Int):Tw × Nat × jL :=
 if vu D L≠0 then(ByteArray.empty,vu D L,D) else
 if pos<0∨(L.chunks:Int)<=pos/4096∨pos%4096<12 then(ByteArray.empty,4,D) else tk D (nmC (pos/4096).toNat) (pos%4096).toNat
structure oL where
 p:Tw
 at_ : Int
 next:Int
 e:Nat
 D:jL
def bK: Nat->Nat->jL->Int->oL
 | 0,_,D,_=>⟨ByteArray.empty,0,0,4,D⟩
 | k+1,n,D,pos =>
   if (rdC D (nmC n)).2.1≠0 then⟨ByteArray.empty,0,0,(rdC D (nmC n)).2.1,(rdC D (nmC n)).2.2⟩ else
   match (scL (rdC D (nmC n)).1 (n:Nat)).find? (fun x=>decide (pos<=(n:Int)*4096+x)) with
   | none=>bK k (n+1) (rdC D (nmC n)).2.2 pos
   | some x=>⟨bT (rdC D (nmC n)).1 x,(n:Int)*4096+x,(n:Int)*4096+(vy (rdC D (nmC n)).1 x:Nat),0,(rdC D (nmC n)).2.2⟩
def tb(D:jL)(L:jq)(pos:Int):oL :=
 if vu D L≠0 then⟨ByteArray.empty,0,0,vu D L,D⟩ else
 bK (L.chunks-(max pos 0/4096).toNat) (max pos 0/4096).toNat D pos
def yE(D:jL):Nat × jL:=if (jh D jo).1=4 then(0,(jh D jo).2) else jh D jo
def isC(s:Tw):Bool:=vm s&&npK s==99
def ym: List Tw->Nat->Nat × Nat
 | [],c=>(0,c)
 | s::r,c=>if isC s=true then(if npN s≠c∨200<=npN s then(63,c) else ym r (c+1)) else ym r c
def uf(D:jL)(L:jq):Nat × jL × jq:=((ym (D.l.map jO.name) L.chunks).1,D, { L with chunks:=(ym (D.l.map jO.name) L.chunks).2 })
def fB(a:Nat × jL)(f:jL->Nat × jL):Nat × jL:=if a.1=0 then f a.2 else a
def mQ(D:jL)(n s:Tw):Nat × jL:=fB (fB (fB (jk D jo) fun E=>jr E jo s) fun E=>kJ E jo) fun E=>vj E jo n
def lZ(D:jL)(L:jq)(n:Nat)(s:Tw)(e:Nat):Nat × jL × jq :=
 if s.size<12 then((jh D (nmC n)).1,(jh D (nmC n)).2, { L with chunks:=n }) else
 if e<s.size then onD (fun E=>mQ E (nmC n) (s.extract 0 e)) D { L with endp:=4096*n+e } else onD (fun E=>kJ E (nmC n)) D { L with endp:=4096*n+e }
def uT: Nat->Nat->jL->jq->Nat × jL × jq
 | 0,_,D,L=>(0,D,L)
 | k+1,n,D,L =>
   if (rdC D (nmC n)).2.1≠0 then((rdC D (nmC n)).2.1,(rdC D (nmC n)).2.2,L) else
   if bx (rdC D (nmC n)).1 (n:Nat)=false then(63,(rdC D (nmC n)).2.2,L) else
   if k=0 then lZ (rdC D (nmC n)).2.2 L n (rdC D (nmC n)).1 (scE (rdC D (nmC n)).1 (n:Nat)) else
   if (rdC D (nmC n)).1.size<12∨scE (rdC D (nmC n)).1 (n:Nat)<(rdC D (nmC n)).1.size then(63,(rdC D (nmC n)).2.2,L) else
   uT k (n+1) (rdC D (nmC n)).2.2 { L with endp:=4096*n+scE (rdC D (nmC n)).1 (n:Nat) }
def fC(D:jL)(L:jq):Nat × jL × jq:=uT L.chunks 0 D L
def gO(D:jL):Nat × jL × jq:=uX (uX (onD yE D ⟨D.xB,0,0,0⟩) uf) fC
end
section
open Go.RowKit
structure Ctx where
 w0:World
 F0:List Nat
 base:Nat
 m:Value
 G:List Nat
 wG:World
def gW(m:Value)(gd:Nat)(L:jq):Array Value:=#[m,ptr gd,.int .i64 (L.xB:Nat),.int .i64 (L.chunks:Nat),.int .i64 (L.endp:Nat),.int .i64 (L.sure:Nat)]
def TSt(At:j6)(c:Ctx)(gl gd:Nat)(L:jq)(D:jL)(w:World):Prop :=
 ∃F,At w c.base gd F D/\jN w gl 130 (gW c.m gd L)/\gl ∉ F/\(∀x∈F,x∈c.F0∨c.w0.1.size<=x)/\jP (gl::c.F0) c.w0 w/\c.wG.1.size<=w.1.size /\
  ∀b∈c.G,c.w0.1.size<=b/\b<c.wG.1.size/\b ∉ F/\b≠gl/\w.heap[b]? = c.wG.heap[b]?
def vI(At:j6)(c:Ctx)(gl gd:Nat)(v:Value)(L:jq)(D:jL)(e:Ending)(w:World):Prop:=e=.returned v/\TSt At c gl gd L D w
section
variable {At:j6}{c:Ctx}{gl gd:Nat}{L L':jq}{D D':jL}{w w':World}
theorem TSt.xC(api:j8 At)(h:TSt At c gl gd L D w)(a:jP [] w w'):TSt At c gl gd L D w':=by
 obtain⟨F,d,f,g,i,j,k,l⟩:=h;refine⟨F,api.xC d a (fun _ _=>by simp),f.xC a (by simp),g,i,j.trans a (fun x n=>by cases n),qR k a.size,fun b m=>?_⟩;obtain⟨o,p,q,r,s⟩:=l b m;exact⟨o,p,q,r,(a.block b (by omega) (by simp)).trans s⟩
theorem TSt.below(api:j8 At)(h:TSt At c gl gd L D w)(a:Below w.1.size w w'):TSt At c gl gd L D w':=h.xC api (jP.xA a)
theorem TSt.drew(api:j8 At)(h:TSt At c gl gd L D w):TSt At c gl gd L D w.drew:=h.xC api (jP.refl [] w).drew
theorem TSt.drewN(api:j8 At)(h:TSt At c gl gd L D w)(n:Nat):TSt At c gl gd L D (w.drewN n):=h.xC api ((jP.refl [] w).drewN n)
theorem TSt.cells(h:TSt At c gl gd L D w):w.cell? ⟨gl,0,none⟩=some c.m/\w.cell? ⟨gl,1,none⟩=some (ptr gd)/\w.cell? ⟨gl,2,none⟩=some (.int .i64 (L.xB:Nat))/\w.cell? ⟨gl,3,none⟩=some (.int .i64 (L.chunks:Nat)) /\
  w.cell? ⟨gl,4,none⟩=some (.int .i64 (L.endp:Nat))/\w.cell? ⟨gl,5,none⟩=some (.int .i64 (L.sure:Nat)):=by
 obtain⟨F,b,a,_⟩:=h;exact⟨a.cell 0,a.cell 1,a.cell 2,a.cell 3,a.cell 4,a.cell 5⟩
theorem TSt.frozen(h:TSt At c gl gd L D w)(i:Nat):w.frozen? ⟨gl,i,none⟩=false:=by
 obtain⟨F,b,a,_⟩:=h;exact a.frozen i
theorem TSt.xE(api:j8 At)(h:TSt At c gl gd L D w){f:FuncId}{args:Array Value}{v:Value}(z:∀F,At w c.base gd F D->Calls prog f args w (yq At c.base gd F w v D')):Calls prog f args w (vI At c gl gd v L D'):=by
 obtain⟨F,s,j,l,m,n,t,u⟩:=h;refine(z F s).mono ?_;rintro e w'⟨p,q,r,d,a⟩;refine⟨q,p,r,j.xC a l,fun g=>?_,fun x i=>?_,n.trans a (fun x i=>?_),qR t a.size,fun b y=>?_⟩
 ·rcases d gl g with k|k
  ·exact l k
  ·have:=j.lt;omega
 ·rcases d x i with k|k
  ·exact m x k
  ·exact qY (by have:=n.size;omega)
 ·rcases m x i with k|k
  ·exact qX (qF _ k)
  ·exact qY k
 ·obtain⟨A,B,o,C,G⟩:=u b y;refine⟨A,B,fun g=>?_,C,(a.block b (by omega) o).trans G⟩;rcases d b g with k|k
  ·exact o k
  ·omega
theorem TSt.same(h:TSt At c gl gd L D w){P:Program}{f:FuncId}{args:Array Value}{v:Value}(a:Calls P f args w fun e w'=>e=.returned v/\w=w'):Calls P f args w (vI At c gl gd v L D):=a.mono (by
 rintro e w'⟨rfl,rfl⟩;exact⟨rfl,h⟩)
theorem TSt.put(api:j8 At)(h:TSt At c gl gd L D w)(i:Nat)(v:Value)(t:(gW c.m gd L).setIfInBounds i v=gW c.m gd L'):TSt At c gl gd L' D (w.setCell ⟨gl,i,none⟩ v):=by
 obtain⟨F,j,k,f,l,n,o,q⟩:=h;have a:jP [gl] w (w.setCell ⟨gl,i,none⟩ v):=(jP.refl [gl] w).setCell (p:=⟨gl,i,none⟩) (qX (qH.2 rfl)) _;refine⟨F,api.xC j a (fun x d s=>f (by rw[<-qH.1 s];exact d)),by rw[<-t];exact k.put i v,f,l,n.trans a (fun x d=>qX (by rw[qH.1 d];exact qC)),qR o a.size,fun b r=>?_⟩;obtain⟨u,y,z,g,A⟩:=q b r;exact⟨u,y,z,g,(a.block b (by omega) (by simpa using g)).trans A⟩
theorem TSt.zB(api:j8 At)(h:TSt At c gl gd L D w)(k:Nat):TSt At c gl gd { L with chunks:=k } D (w.setCell ⟨gl,3,none⟩ (.int .i64 (k:Nat))):=h.put api 3 _ rfl
theorem TSt.zQ(api:j8 At)(h:TSt At c gl gd L D w)(k:Nat):TSt At c gl gd { L with endp:=k } D (w.setCell ⟨gl,4,none⟩ (.int .i64 (k:Nat))):=h.put api 4 _ rfl
theorem TSt.zO(api:j8 At)(h:TSt At c gl gd L D w)(k:Nat):TSt At c gl gd { L with sure:=k } D (w.setCell ⟨gl,5,none⟩ (.int .i64 (k:Nat))):=h.put api 5 _ rfl
theorem TSt.zX(h:TSt At c gl gd L D w){b:Nat}(d:b∈c.G):w.heap[b]? = c.wG.heap[b]? := by
 obtain⟨F,f,g,i,j,k,l,a⟩:=h;exact(a b d).2.2.2.2
theorem TSt.own(api:j8 At)(h:TSt At c gl gd L D w){f:List Nat}(i:jP c.G w w')(r:∀b∈f,b∈c.G∨w.1.size<=b)(o:∀b∈f,b<w'.1.size):TSt At { c with G:=f,wG:=w' } gl gd L D w':=by
 obtain⟨F,l,m,p,q,n,y,d⟩:=h;have hF:∀x∈F,x ∉ c.G:=fun x j a=>(d x a).2.2.1 j
 have s:gl ∉ c.G:=fun a=>(d gl a).2.2.2.1 rfl
 refine⟨F,api.xC l i hF,m.xC i s,p,q,n.trans i (fun x j=>qY (d x j).1),qK _,fun b g=>?_⟩;rcases r b g with k|k
 ·obtain⟨t,z,u,v,_⟩:=d b k;exact⟨t,o b g,u,v,rfl⟩
 ·exact⟨qR n.size k,o b g,fun a=>(by have:=(api.low l b a).2;omega),fun e=>(by have:=m.lt;omega),rfl⟩
theorem TSt.back{a:Ctx}(h:TSt At a gl gd L D w)(d:a.w0=c.w0)(k:a.F0=c.F0)(l:a.base=c.base)(n:a.m=c.m)(t:c.wG.1.size<=a.wG.1.size)(r:∀b∈c.G,b∈a.G/\b<c.wG.1.size/\a.wG.heap[b]? = c.wG.heap[b]?):TSt At c gl gd L D w:=by
 obtain⟨F,f,g,o,i,j,p,q⟩:=h;rw[l]at f;rw[n]at g;rw[d,k]at i j;refine⟨F,f,g,o,i,j,qR t p,fun b s=>?_⟩;obtain⟨A,B,C⟩:=r b s;obtain⟨u,H,v,y,z⟩:=q b A;exact⟨by rw[<-d];exact u,B,v,y,z.trans C⟩
end
theorem Y8: (prog.info? 130).map (·.size)=some 6:=by kernel_rfl
theorem O2(d:Nat)(p:Addr)(w:World):(Op.equalIn (d+1) 70 (.pointer (some p)) (.pointer (some p))).run prog w=.ok true w:=by
 cases a:prog.info? 130 with
 | none=>have:=Y8;rw[a]at this;cases this
 | some i =>
   have b:i.size=6:=(by have:=Y8;rw[a]at this;simpa using this);simp[Op.equalIn,run_underlying Tryz.underlying70,sizeOf,typeInfo,a,sameAddr]
theorem O3(p:Addr)(w:World):(binOp .neq 70 (.pointer (some p)) (.pointer (some p))).run prog w=.ok (.bool false) w:=by
 have a:(Op.equal 70 (.pointer (some p)) (.pointer (some p))).run prog w=.ok true w:=O2 9999 p w;simp only[binOp];simp[a]
theorem Y9{w:World}{gl:Nat}(h:w.cell? ⟨gl,0,none⟩=some (ptr gl)):Calls prog 114 #[ptr gl] w (X0 (.bool false) w):=by
 have a:=O3 ⟨gl,0,none⟩;go_enter func114,ntmps114;go_wp2;go_ret;exact⟨rfl,rfl⟩
theorem tc(n:Nat)(w:World)(d:n<=1000000):Calls prog 93 #[n] w (X0 (.int .i64 ((n:Nat)*4096:Int)) w):=by
 have b:(n:Int)<=1000000:=by omega
 have a:(0:Int)<=n:=by omega
 go_enter func93,ntmps93;go_wp2;go_ret;exact⟨rfl,rfl⟩
section
variable {At:j6}(api:j8 At){c:Ctx}{gl gd:Nat}{L L':jq}{D D':jL}{w w':World}
include api
theorem nJ(i:c.m=ptr gl)(h:TSt At c gl gd L D w):Calls prog 90 #[ptr gl] w (vI At c gl gd (err (vu D L)) L D):=by
 obtain⟨c0,c1,c2,l,n,o⟩:=h.cells;rw[i]at c0;have j:=qQ h;have p:=qQ (Y9 c0);obtain⟨F,a,-⟩:=h;have g:=qQ (api.jH a);have f:=qQ (fun k=>api.jD (api.xC a ((jP.refl [] w).drewN k) (fun _ _=>by simp)));unfold vu;cases b:D.down
 ·simp only[Bool.false_eq_true,if_false];rw[b]at g;by_cases d:D.xB=L.xB
  ·rw[qV d];have f:=qQ (fun k=>d ▸ f.out k);have r:((L.xB:Int) != (L.xB:Int))=false:=(by simp);generalize L.xB=q at*;clear a b d l n o i;go_enter func90,ntmps90;go_wp2_with fail;refine X5 p.out ?_;go_wp2_with fail;refine X5 g.out ?_;go_wp2_with fail;go_quiet ((go_at_call 75;exact Calls.quiet_of_same ((f.out _).mono fun _ _ h=>⟨h.1,h.2.symm⟩)));go_wp2;go_ret;exact⟨rfl,j.out.drewN api _⟩
  ·rw[qZ d];have r:((D.xB:Int) != (L.xB:Int))=true:=(by simp;omega);have s:¬(D.xB:Int)=(L.xB:Int):=(by omega);generalize L.xB=q at*;generalize D.xB=y at*;clear a b d l n o i;go_enter func90,ntmps90;go_wp2_with fail;refine X5 p.out ?_;go_wp2_with fail;refine X5 g.out ?_;go_wp2_with fail;go_quiet ((go_at_call 75;exact Calls.quiet_of_same ((f.out _).mono fun _ _ h=>⟨h.1,h.2.symm⟩)));go_wp2;go_ret;exact⟨rfl,j.out.drewN api _⟩
 ·simp only[if_true];rw[b]at g;clear a b l n o i f;go_enter func90,ntmps90;go_wp2_with fail;refine X5 p.out ?_;go_wp2_with fail;refine X5 g.out ?_;go_wp2;go_ret;exact⟨rfl,j.out⟩
end
theorem Yq{w:World}{gl:Nat}{v:Int}(a:w.cell? ⟨gl,0,none⟩=some (ptr gl))(h:w.cell? ⟨gl,4,none⟩=some (.int .i64 v)):Calls prog 66 #[ptr gl] w (X0 (.int .i64 v) w):=by
 have b:=qQ (Y9 a);clear a;go_enter func66,ntmps66;go_wp2_with fail;refine X5 b.out ?_;go_wp2;go_ret;exact⟨rfl,rfl⟩
end
section
open Go.RowKit
structure v8: Prop where
 head:∀(n:Int) (w:World),(Lit.int .i64 n).wf=true->Calls prog 152 #[n] w (X3 (.string (hdS n)) w)
 scan:∀(s:Tw) (n:Int) (w:World),s.size<=1100000->(Lit.int .i64 n).wf=true->Calls prog 92 #[s,n] w (nZ s n w)
 fits:∀(size:Int) (p:Tw) (w:World),p.size<=maxLen->(Lit.int .i64 size).wf=true->Calls prog 198 #[size,p] w (X0 (.bool (ftS size p)) w)
 put:∀(p:Tw) (w:World),p.size<=maxLen->Calls prog 145 #[p] w (X3 (.tuple #[.string (prS p),.int .i64 (prE p)]) w)
theorem kN.jX{w:World}{v:Value}{l:List Int}(h:kN w v l):∃A c,v=.slice A l.length c:=by
 obtain⟨A,off,cap,a,_⟩:=h.cell;exact⟨A,cap,a⟩
end
section
open Go.RowKit
theorem td{D:jL}(h:WfP D)(n:Tw):(j9 D n).1<=1048576:=by
 unfold j9;split
 ·exact qI _
 ·split
  ·exact qI _
  ·rename_i f a;exact(h.ok.xq f (qN a)).2
theorem mX{n:Nat}(h:n<=999999):(nmC n).size<=maxLen:=by rw[oE h];decide
theorem dS{n:Nat}(h:n<=9223372036854775807):(Lit.int .i64 (n:Nat)).wf=true:=WalkArith.wf_i64 (by omega)
theorem nK(nap:kZ)(n:Nat)(w:World)(a:n<=999999):Calls prog 128 #[n] w (X3 (.string (nmC n)) w):=nap.chunk n w (dS (by omega))
theorem ZF{D:jL}{n:Tw}{a k:Int}(h:WfP D):(kM D n a k).1.size<=1048576:=by
 unfold kM;split
 ·exact qI _
 ·dsimp only;split
  ·exact qI _
  ·rename_i f b;split
   ·exact qI _
   ·have:=(h.ok.xq f (qN b)).2;show(f.data.extract _ _).size<=_;rw[qk];omega
theorem Yx{D:jL}{n:Tw}(h:WfP D):(rdC D n).1.size<=1048576:=by
 unfold rdC;split
 ·exact ZF h
 ·exact qI _
theorem ZH{D:jL}(h:WfP D)(n:Tw):WfP (rdC D n).2.2:=by
 unfold rdC;split
 ·exact Xy h _ _ _
 ·exact h
theorem Yz(D:jL)(n:Tw)(a k:Int):(kM D n a k).2.2.count<=D.count+1:=by
 unfold kM;split
 ·exact Nat.le_succ _
 ·dsimp only;split
  ·exact qK _
  ·split<;>exact qK _
theorem Yj(D:jL)(n:Tw):(rdC D n).2.2.count<=D.count+1:=by
 unfold rdC;split
 ·exact Yz _ _ _ _
 ·exact Nat.le_succ _
section
variable {At:j6}(api:j8 At)(nap:kZ){c:Ctx}{gl gd:Nat}{L L':jq}{D D':jL}{w w':World}
include api nap
theorem Yk(h:TSt At c gl gd L D w)(ok:WfP D)(m:D.count<=1099511627776)(n:Nat)(i:n<=999999):Calls prog 91 #[ptr gl,n] w (vI At c gl gd (.tuple #[.string (rdC D (nmC n)).1,err (rdC D (nmC n)).2.1]) L (rdC D (nmC n)).2.2):=by
 have u:=td ok (nmC n);have q:=qQ fun W=>nK nap n W (by omega)
 have l:=qQ fun(W:World) (g:TSt At c gl gd L D W)=>(show Calls prog 129 #[ptr gd,.string (nmC n)] W (vI At c gl gd (.tuple #[.int .i64 ((j9 D (nmC n)).1:Nat),err (j9 D (nmC n)).2]) L D) from g.same (api.zP (nmC n) (Classical.choose_spec g).1 ok.ok (mX i)))
 have s:=qQ fun(W:World) (g:TSt At c gl gd L D W)=>g.xE api (fun F hF=>api.read (nmC n) 0 ((j9 D (nmC n)).1:Nat) hF ok.ok m (by decide) (dS (by omega)) (mX i))
 have o:=qQ h;unfold rdC;by_cases f:(j9 D (nmC n)).2=0
 ·rw[qV f];rw[f]at l;generalize (j9 D (nmC n)).1=z at*;generalize kM D (nmC n) 0 (z:Nat)=r at*;generalize nmC n=G at*;clear f u h m ok i;go_enter func91,ntmps91;go_wp2_with fail;refine(q.out _).mono ?_;rintro e H⟨rfl,d⟩;have a:=o.out.below api d;obtain⟨c0,c1,c2,A,B,C⟩:=a.cells;have j:=qQ a;clear d a;go_wp2_with fail;refine(l.out _ j.out).mono ?_;rintro e I⟨rfl,b⟩;obtain⟨J,K,M,N,O,P⟩:=b.cells;have k:=qQ b;clear b;go_wp2_with fail;refine(s.out _ k.out).mono ?_;rintro e Q⟨rfl,p⟩;have v:=qQ p;clear p;go_wp2;go_ret2;exact⟨rfl,v.out⟩
 ·rw[qZ f];have t:(((j9 D (nmC n)).2:Int) != 0)=true:=by simp;omega
  generalize (j9 D (nmC n)).2=y at*;generalize (j9 D (nmC n)).1=z at*;generalize nmC n=G at*;clear u h s m ok i f;go_enter func91,ntmps91;go_wp2_with fail;refine(q.out _).mono ?_;rintro e H⟨rfl,d⟩;have a:=o.out.below api d;obtain⟨c0,c1,c2,A,B,C⟩:=a.cells;have j:=qQ a;clear d a;go_wp2_with fail;refine(l.out _ j.out).mono ?_;rintro e I⟨rfl,b⟩;have k:=qQ b;clear b;go_wp2;go_ret2;exact⟨rfl,k.out⟩
omit nap in
theorem ZI(h:TSt At c gl gd L D w)(ok:WfP D)(s:Tw)(o:s.size<=1000000):Calls prog 199 #[ptr gl,s] w (vI At c gl gd (.bool (gG D s)) L D):=by
 have hF:=qQ (h.xE api (fun F hF=>api.free hF ok.ok));have k:=qQ h;obtain⟨c0,c1,c2,d,f,g⟩:=h.cells;have i:=ok.cap;have j:=ok.used;unfold gG;have m:(D.cap:Int)-(j4 D.l:Nat)-(s.size:Nat)<=1048576:=by omega
 have n:-1000000<=(D.cap:Int)-(j4 D.l:Nat)-(s.size:Nat):=by omega
 generalize (D.cap:Int)-(j4 D.l:Nat)=y at*;have hw:IntKind.i64.wrap (y-(s.size:Nat))=y-(s.size:Nat):=qz _ (by omega);clear i j h c0 c2 d f g ok;go_enter func199,ntmps199;go_wp2_with fail;refine hF.out.mono ?_;rintro e p⟨rfl,a⟩;have b:=qQ a;clear a;go_wp2;go_ret;exact⟨rfl,b.out⟩
theorem O4(h:TSt At c gl gd L D w)(ok:WfP D)(B:L.chunks<=200)(z:0<L.chunks):Calls prog 97 #[ptr gl] w (vI At c gl gd (err (v7 D L).1) (v7 D L).2.2 (v7 D L).2.1):=by
 obtain⟨n,o⟩:∃n,L.chunks=n+1:=⟨L.chunks-1,by omega⟩
 have A:=qQ fun W=>nK nap n W (by omega)
 have r:=qQ fun(W:World) (K:TSt At c gl gd L D W)=>K.xE api (fun F hF=>api.sync (nmC n) hF ok.ok (mX (by omega)))
 have j:=qQ h;obtain⟨c0,c1,c2,q,u,v⟩:=h.cells;have e:L.chunks-1=n:=by omega
 have R:decide ((0:Int)<((n+1:Nat):Int))=true:=qB (by omega);have N:((n+1:Nat):Int)-1=(n:Int):=by omega
 have Q:IntKind.i64.wrap (n:Int)=(n:Int):=qz _ (by omega);have hw:IntKind.i64.wrap (((n+1:Nat):Int)-1)=(n:Int):=by rw[N];exact qz _ (by omega)
 unfold v7;rw[qZ (by omega),e];rw[o]at q;have l:=qQ o;generalize s:((n+1:Nat):Int)=m at*;have k:=qQ s;by_cases f:(kJ D (nmC n)).1=0
 ·rw[qV f];rw[f]at r;generalize (kJ D (nmC n)).2=C at*;generalize nmC n=M at*;clear e o f h ok B z c0 c2 u v s;go_enter func97,ntmps97;go_wp2_with fail
  go_region_held3 (fun w'=>w'.cell? ⟨gl,1,none⟩=some (ptr gd)/\w'.cell? ⟨gl,3,none⟩=some (.int .i64 m)) (first|assumption|exact⟨by assumption,by assumption⟩|exact⟨c1,q⟩) (first
   | (go_at_call 128;refine(A.out _).mono ?_;rintro e g⟨rfl,d⟩;have b:=(show TSt At c gl gd L D _ from by first|exact j.out.drew api|exact j.out).below api d;have G:g.cell? ⟨gl,1,none⟩=some (ptr gd):=b.cells.2.1;have H:g.cell? ⟨gl,3,none⟩=some (.int .i64 m):=by rw[b.cells.2.2.2.1,l.out,k.out])
   | (go_at_call 160;refine(r.out _ b).mono ?_;rintro e i⟨rfl,a⟩;have I:i.cell? ⟨gl,1,none⟩=some (ptr gd):=a.cells.2.1;have J:i.cell? ⟨gl,3,none⟩=some (.int .i64 m):=by rw[a.cells.2.2.2.1,l.out,k.out])
   | fail)
  all_goals
   obtain⟨_,_,_,_,P,_⟩:=a.cells;have O:=a.frozen 5;have p:=qQ (a.zO api L.endp);clear b a d;generalize (L.endp:Int)=y at*;go_wp2;go_ret;exact⟨rfl,p.out⟩
 ·rw[qZ f];have t:(((kJ D (nmC n)).1:Int) != 0)=true:=by simp;omega
  generalize (kJ D (nmC n)).2=C at*;generalize (kJ D (nmC n)).1=y at*;generalize nmC n=M at*;clear e o f h ok B z c0 c2 u v s;go_enter func97,ntmps97;go_wp2_with fail
  go_region_held3 (fun w'=>w'.cell? ⟨gl,1,none⟩=some (ptr gd)/\w'.cell? ⟨gl,3,none⟩=some (.int .i64 m)) (first|assumption|exact⟨by assumption,by assumption⟩|exact⟨c1,q⟩) (first
   | (go_at_call 128;refine(A.out _).mono ?_;rintro e g⟨rfl,d⟩;have b:=(show TSt At c gl gd L D _ from by first|exact j.out.drew api|exact j.out).below api d;have G:g.cell? ⟨gl,1,none⟩=some (ptr gd):=b.cells.2.1;have H:g.cell? ⟨gl,3,none⟩=some (.int .i64 m):=by rw[b.cells.2.2.2.1,l.out,k.out])
   | (go_at_call 160;refine(r.out _ b).mono ?_;rintro e i⟨rfl,a⟩;have I:i.cell? ⟨gl,1,none⟩=some (ptr gd):=a.cells.2.1;have J:i.cell? ⟨gl,3,none⟩=some (.int .i64 m):=by rw[a.cells.2.2.2.1,l.out,k.out])
   | fail)
  all_goals
   have p:=qQ a;clear b a d;go_wp2;go_ret;exact⟨rfl,p.out⟩
omit nap in
theorem O5(h:TSt At c gl gd L D w)(a:L.chunks=0):Calls prog 97 #[ptr gl] w (vI At c gl gd (err (v7 D L).1) (v7 D L).2.2 (v7 D L).2.1):=by
 unfold v7;rw[qV a];obtain⟨c0,c1,c2,d,f,g⟩:=h.cells;rw[a]at d;have i:=h.frozen 5;have b:=qQ (h.zO api L.endp);generalize (L.endp:Int)=y at*;clear h c0 c1 c2 a;go_enter func97,ntmps97;go_wp2;go_ret;exact⟨rfl,b.out⟩
theorem Yv(h:TSt At c gl gd L D w)(ok:WfP D)(b:L.chunks<=200):Calls prog 97 #[ptr gl] w (vI At c gl gd (err (v7 D L).1) (v7 D L).2.2 (v7 D L).2.1):=by
 by_cases a:L.chunks=0
 ·exact O5 api h a
 ·exact O4 api nap h ok b (by omega)
variable (cap:v8)
include cap
theorem O6(h:TSt At c gl gd L D w)(ok:WfP D)(F:L.chunks<=200)(p:Tw)(A:p.size<=maxLen):Calls prog 146 #[ptr gl,p] w (vI At c gl gd (.tuple #[.int .i64 ((uA D L p).1:Nat),.int .i64 ((uA D L p).2.1:Nat),err (uA D L p).2.2]) L D):=by
 have f:=qQ h;obtain⟨c0,c1,c2,B,q,r⟩:=h.cells;unfold uA;by_cases g:L.chunks=0
 ·rw[qV g];rw[g]at B;clear h c0 c1 c2 g q r;go_enter func146,ntmps146;go_wp2;go_ret3;exact⟨rfl,f.out⟩
 rw[qZ g];obtain⟨n,l⟩:∃n,L.chunks=n+1:=⟨L.chunks-1,by omega⟩
 have e:L.chunks-1=n:=by omega
 rw[e];have G:=td ok (nmC n);have C:=qQ fun W=>nK nap n W (by omega)
 have s:=qQ fun(W:World) (N:TSt At c gl gd L D W)=>(show Calls prog 129 #[ptr gd,.string (nmC n)] W (vI At c gl gd (.tuple #[.int .i64 ((j9 D (nmC n)).1:Nat),err (j9 D (nmC n)).2]) L D) from N.same (api.zP (nmC n) (Classical.choose_spec N).1 ok.ok (mX (by omega))))
 have hF:=qQ fun(W:World)=>cap.fits ((j9 D (nmC n)).1:Nat) p W A (dS (by omega))
 have U:decide ((0:Int)<((n+1:Nat):Int))=true:=qB (by omega);have P:((n+1:Nat):Int)-1=(n:Int):=by omega
 have T:IntKind.i64.wrap (n:Int)=(n:Int):=qz _ (by omega);have hw:IntKind.i64.wrap (((n+1:Nat):Int)-1)=(n:Int):=by rw[P];exact qz _ (by omega)
 rw[l]at B;have I:=qQ l;generalize v:((n+1:Nat):Int)=m at*;have H:=qQ v;have R:w.cell? ⟨gl,3,none⟩=some (.int .i64 m):=B;by_cases i:(j9 D (nmC n)).2=0
 ·rw[qV i];rw[i]at s;cases u:ftS ((j9 D (nmC n)).1:Nat) p
  ·rw[qZ (by simp)];rw[u]at hF;have M:(L.chunks:Int)=m:=(by rw[I.out,H.out]);rw[M];generalize (j9 D (nmC n)).1=z at*;generalize nmC n=O at*;clear e l i h ok F g c0 c2 q r v G A u M;go_enter func146,ntmps146;go_wp2_with fail
   go_region_held3 (fun w'=>w'.cell? ⟨gl,1,none⟩=some (ptr gd)) (first|assumption|exact c1) (first
    | (go_at_call 128;refine(C.out _).mono ?_;rintro e o⟨rfl,d⟩;have b:=(show TSt At c gl gd L D _ from by first|exact f.out.drew api|exact f.out).below api d;have J:o.cell? ⟨gl,1,none⟩=some (ptr gd):=b.cells.2.1)
    | (go_at_call 129;refine(s.out _ b).mono ?_;rintro e j⟨rfl,a⟩;have K:j.cell? ⟨gl,1,none⟩=some (ptr gd):=a.cells.2.1)
    | fail)
   all_goals
    have S:j.cell? ⟨gl,3,none⟩=some (.int .i64 m):=(by rw[a.cells.2.2.2.1,I.out,H.out]);have k:=qQ a;clear b a d;go_wp2_with fail;refine(hF.out _).mono ?_;rintro e Q⟨rfl,rfl⟩;go_wp2;go_ret3;exact⟨rfl,k.out⟩
  ·rw[qV rfl];rw[u]at hF;generalize (j9 D (nmC n)).1=z at*;generalize nmC n=O at*;clear e l i h ok F g c0 c2 q r v G A u;go_enter func146,ntmps146;go_wp2_with fail
   go_region_held3 (fun w'=>w'.cell? ⟨gl,1,none⟩=some (ptr gd)) (first|assumption|exact c1) (first
    | (go_at_call 128;refine(C.out _).mono ?_;rintro e o⟨rfl,d⟩;have b:=(show TSt At c gl gd L D _ from by first|exact f.out.drew api|exact f.out).below api d;have J:o.cell? ⟨gl,1,none⟩=some (ptr gd):=b.cells.2.1)
    | (go_at_call 129;refine(s.out _ b).mono ?_;rintro e j⟨rfl,a⟩;have K:j.cell? ⟨gl,1,none⟩=some (ptr gd):=a.cells.2.1)
    | fail)
   all_goals
    have k:=qQ a;clear b a d;go_wp2_with fail;refine(hF.out _).mono ?_;rintro e Q⟨rfl,rfl⟩;go_wp2;go_ret3;exact⟨rfl,k.out⟩
 ·rw[qZ i];have t:(((j9 D (nmC n)).2:Int) != 0)=true:=by simp;omega
  generalize (j9 D (nmC n)).2=y at*;generalize (j9 D (nmC n)).1=z at*;generalize nmC n=O at*;clear e l i h ok F g c0 c2 q r v G A hF;go_enter func146,ntmps146;go_wp2_with fail
  go_region_held3 (fun w'=>w'.cell? ⟨gl,1,none⟩=some (ptr gd)) (first|assumption|exact c1) (first
   | (go_at_call 128;refine(C.out _).mono ?_;rintro e o⟨rfl,d⟩;have b:=(show TSt At c gl gd L D _ from by first|exact f.out.drew api|exact f.out).below api d;have J:o.cell? ⟨gl,1,none⟩=some (ptr gd):=b.cells.2.1)
   | (go_at_call 129;refine(s.out _ b).mono ?_;rintro e j⟨rfl,a⟩;have K:j.cell? ⟨gl,1,none⟩=some (ptr gd):=a.cells.2.1)
   | fail)
  all_goals
   have k:=qQ a;clear b a d;go_wp2;go_ret3;exact⟨rfl,k.out⟩
omit cap in
theorem O7(h:TSt At c gl gd L D w)(ok:WfP D)(q:L.chunks<=200)(a:0<L.chunks)(r:Tw)(k:r.size<=1000000):Calls prog 148 #[ptr gl,r] w (vI At c gl gd (err (uR D L r).1) L (uR D L r).2):=by
 have f:=qQ (ZI api h ok r k);unfold uR;cases g:gG D r
 ·rw[qV rfl];rw[g]at f;clear h ok q a k g;go_enter func148,ntmps148;go_wp2_with fail;refine f.out.mono ?_;rintro e l⟨rfl,b⟩;have y:=qQ b;clear b;go_wp2;go_ret;exact⟨rfl,y.out⟩
 ·rw[qZ (by simp)];rw[g]at f;obtain⟨n,t⟩:∃n,L.chunks=n+1:=⟨L.chunks-1,by omega⟩
  have e:L.chunks-1=n:=by omega
  rw[e];have B:=qQ fun W=>nK nap n W (by omega)
  have C:=qQ fun(W:World) (G:TSt At c gl gd L D W)=>G.xE api (fun F hF=>api.append (nmC n) r hF ok.ok (by omega) (mX (by omega)))
  have H:((n+1:Nat):Int)-1=(n:Int):=by omega
  have O:IntKind.i64.wrap (n:Int)=(n:Int):=qz _ (by omega);have hw:IntKind.i64.wrap (((n+1:Nat):Int)-1)=(n:Int):=by rw[H];exact qz _ (by omega)
  have j:=qQ t;generalize s:((n+1:Nat):Int)=m at*;have i:=qQ s;generalize jr D (nmC n) r=I at*;generalize nmC n=P at*;clear e t h ok q a s k g;go_enter func148,ntmps148;go_wp2_with fail;refine f.out.mono ?_;rintro e u⟨rfl,a⟩;have c1:u.cell? ⟨gl,1,none⟩=some (ptr gd):=a.cells.2.1;have A:u.cell? ⟨gl,3,none⟩=some (.int .i64 m):=by rw[a.cells.2.2.2.1,j.out,i.out]
  have o:=qQ a;clear a;go_wp2_with fail
  go_region_held3 (fun w'=>w'.cell? ⟨gl,1,none⟩=some (ptr gd)/\w'.cell? ⟨gl,3,none⟩=some (.int .i64 m)) (first|assumption|exact⟨by assumption,by assumption⟩|exact⟨c1,A⟩) (first
   | (go_at_call 128;refine(B.out _).mono ?_;rintro e l⟨rfl,p⟩;have b:=(show TSt At c gl gd L D _ from by first|exact o.out.drew api|exact o.out).below api p;have J:l.cell? ⟨gl,1,none⟩=some (ptr gd):=b.cells.2.1;have K:l.cell? ⟨gl,3,none⟩=some (.int .i64 m):=by rw[b.cells.2.2.2.1,j.out,i.out])
   | (go_at_call 203;refine(C.out _ b).mono ?_;rintro e v⟨rfl,d⟩;have M:v.cell? ⟨gl,1,none⟩=some (ptr gd):=d.cells.2.1;have N:v.cell? ⟨gl,3,none⟩=some (.int .i64 m):=by rw[d.cells.2.2.2.1,j.out,i.out])
   | fail)
  all_goals
   have z:=qQ d;clear b d p;go_wp2;go_ret;exact⟨rfl,z.out⟩
end
end
section
open Go.RowKit Go.Shelf
theorem O8{r:Nat->Nat}{n k:Nat}(h:k<n):stR r (n-k) k=if r k=0 then stR r (n-(k+1)) (k+1) else(r k,k+1):=by
 obtain⟨m,rfl⟩:∃m,n=k+1+m:=⟨n-k-1,by omega⟩
 have a:k+1+m-k=m+1:=by omega
 have b:k+1+m-(k+1)=m:=by omega
 rw[a,b];rfl
theorem O9{r:Nat->Nat}{n:Nat}:stR r (n-n) n=(0,n):=by rw[Nat.sub_self];rfl
theorem ZL{b n:Nat}(O:n<=1000)(r:Nat->Nat)(d:Nat->World->Prop)(f:Nat->FuncId)(x y:Nat->Array Value)
  (G:∀k,k<n->Enters prog (f k)) (F:∀k W,k<n->d k W->W.cell? ⟨b,k,none⟩=some (.func (.func (f k)) (x k) (y k)))
  (C:∀k W,k<n->d k W->Calls prog (f k) (x k++#[]++y k) W fun e u=>e=.returned (.int .i64 (r k:Nat))/\d (k+1) u) (W:World) (A:d 0 W):
  Calls prog 76 #[.slice (some ⟨b,0,none⟩) n n] W fun e u=>e=.returned (.int .i64 ((stR r n 0).1:Nat))/\d (stR r n 0).2 u:=by
 have I:=qQ F;have K:=qQ C;have J:=qQ G;have Q:=qQ O;have H:=qQ A;clear F C A G;go_enter func76,ntmps76;go_wp2;go_loopw [8] (fun i wr=>∃k:Nat,k<=n/\i=.int .i64 k/\stR r (n-k) k=stR r n 0/\d k wr) (fun i _=>n-(intOf i).toNat)
 case atStart=>exact⟨0,qI _,rfl,rfl,H.out⟩
 case round =>
  obtain⟨k,N,rfl,j,m⟩:=hrel;by_cases g:k<n
  ·have c1:=I.out k _ g m;have R:(k:Int)<(n:Int):=(by omega);have s:=qQ m;have a:=qQ j;have M:=qQ g;clear m j;rw[O8 g]at a;have z:=J.out k g;have v:=K.out k _ g s.out;have B:x k++#[]++y k=x k++y k:=(by simp);rw[B]at v;have q:=qQ v;unfold Enters at z;clear v B;by_cases l:r k=0
   ·rw[l]at q;rw[qV l]at a;clear l;go_wp2_with fail;refine q.out.mono ?_;rintro e P⟨rfl,o⟩;have p:=qQ o;clear o z c1;go_wp2;go_roundw
    case rel=>exact⟨k+1,by have:=M.out;omega,by go_num,a.out,p.out⟩
    case measure=>simp[intOf];omega
   ·have t:((r k:Int) != 0)=true:=(by simp;omega);rw[qZ l]at a;clear l;generalize r k=y at*;go_wp2_with fail;refine q.out.mono ?_;rintro e P⟨rfl,o⟩;have p:=qQ o;clear o z c1;go_wp2;go_ret;rw[<-a.out];exact⟨rfl,p.out⟩
  ·obtain rfl:k=n:=(by omega);rw[O9]at j;have s:=qQ m;have a:=qQ j;clear m j N;go_wp2;go_ret;rw[<-a.out];exact⟨rfl,s.out⟩
end
section
theorem Yy{D:jL}{n:Tw}{f:jO}(b:D.down=false)(h:jT D.l n=some f):rdC D n=(f.data,0, { D with count:=D.count+1 }):=by
 unfold rdC;rw[me b h,qV rfl];have:=rQ (a:=0) (k:=f.data.size) b h (by omega);rw[qe]at this
 have e:f.data.extract 0 f.data.size=f.data:=by
  apply qi;rw[ByteArray.data_extract];exact Array.extract_size
 rw[e]at this;exact this
end
section
open Go.RowKit
def vn(a:Tw):List Tw->Tw
 | []=>a
 | p::l=>vn (a++jj p) l
def kR: List Tw->Nat
 | []=>0
 | p::l=>p.size+12+kR l
def yx(k:Nat):List Tw->List (Nat × Tw)
 | []=>[]
 | p::l=>(k,p)::yx (k+(p.size+12)) l
def bz(n:Nat)(l:List Tw):Tw:=vn (hdS (n:Nat)) l
theorem ZM: ∀(l:List Tw) (a:Tw),(vn a l).size=a.size+kR l
 | [],a=>rfl
 | p::l,a=>by
   show(vn (a++jj p) l).size=_;rw[ZM l,qy,gU];show _=a.size+(p.size+12+kR l)
   omega
theorem Yu: ∀(l:List Tw) (a p:Tw),vn a (l++[p])=vn a l++jj p
 | [],a,p=>rfl
 | x::l,a,p=>Yu l (a++jj x) p
theorem tf: ∀(l:List Tw) (p:Tw),kR (l++[p])=kR l+(p.size+12)
 | [],p=>by show p.size+12+0=0+_;omega
 | x::l,p=>by
   show x.size+12+kR (l++[p])=x.size+12+kR l+_;rw[tf l p];omega
theorem ZN: ∀(l:List Tw) (k:Nat) (p:Tw),yx k (l++[p])=yx k l++[(k+kR l,p)]
 | [],k,p=>by show [(k,p)]=[(k+0,p)];rfl
 | x::l,k,p=>by
   show(k,x)::yx (k+(x.size+12)) (l++[p])=(k,x)::(yx (k+(x.size+12)) l++[(k+(x.size+12+kR l),p)]);rw[ZN l,show k+(x.size+12)+kR l=k+(x.size+12+kR l) by omega]
theorem rL: ∀(l:List Tw) (a:Tw),vn a l=a++vn ByteArray.empty l
 | [],a=>by show a=a++ByteArray.empty;simp
 | p::l,a=>by
   show vn (a++jj p) l=a++vn (ByteArray.empty++jj p) l;rw[rL l (a++jj p),rL l (ByteArray.empty++jj p),ByteArray.empty_append,ByteArray.append_assoc]
theorem Yg: ∀(l:List Tw) (a:Tw),(∀p∈l,p.size<=2000)->whL (vn a l) ((vn a l).size+1) a.size=(yx a.size l).map (fun x=>(x.1:Int))/\whE (vn a l) ((vn a l).size+1) a.size=(vn a l).size
 | [],a,_=>by
   obtain⟨b,d⟩:=YK (s:=a) (k:=a.size) (oF (by omega));exact⟨b,d⟩
 | p::l,a,h=>by
   have j:=h p qC;obtain⟨f,_,g⟩:=ZB a p (vn ByteArray.empty l) j;have n:vn a (p::l)=a++jj p++vn ByteArray.empty l:=rL l (a++jj p);have i:(a++jj p).size=a.size+(p.size+12):=(by rw[qy,gU]);rw[<-n]at f g;obtain⟨b,d⟩:=YJ (s:=vn a (p::l)) (k:=a.size) (by rw[ZM];omega) f;obtain⟨r,o⟩:=Yg l (a++jj p) (fun q m=>h q (qF _ m));rw[b,d,g,<-i];refine⟨?_,o⟩;show _=(a.size:Int)::(yx (a.size+(p.size+12)) l).map _;rw[<-i];congr 1
theorem tm: ∀(l:List Tw) (a:Tw),(∀p∈l,p.size<=2000)->∀x∈yx a.size l,ud (vn a l) x.1=true/\bT (vn a l) (x.1:Nat)=x.2/\vy (vn a l) (x.1:Nat)=x.1+(x.2.size+12)/\a.size<=x.1/\x.1+(x.2.size+12)<=(vn a l).size/\(vn a l).extract x.1 (x.1+(x.2.size+12))=jj x.2/\x.2.size<=2000
 | [],a,_,x,hx=>by cases hx
 | p::l,a,h,x,hx=>by
   have hp:=h p qC;have j:vn a (p::l)=a++jj p++vn ByteArray.empty l:=rL l (a++jj p);have b:(a++jj p).size=a.size+(p.size+12):=(by rw[qy,gU]);rcases qM.1 hx with rfl|hx
   ·obtain⟨d,f,g⟩:=ZB a p (vn ByteArray.empty l) hp;rw[j];exact⟨d,f,g,qK _,by rw[qy,b];show a.size+(p.size+12)<=_;omega,lQ a (jj p) _ rfl (by rw[gU]),hp⟩
   ·rw[<-b]at hx;obtain⟨k,m,n,t,o,r,s⟩:=tm l (a++jj p) (fun q i=>h q (qF _ i)) x hx;exact⟨k,m,n,by omega,o,r,s⟩
theorem tr{n:Nat}(h:n<=199)(l:List Tw):(bz n l).size=12+kR l:=by unfold bz;rw[ZM,lX h]
theorem Yb{n:Nat}(h:n<=199)(l:List Tw)(o:∀p∈l,p.size<=2000):scL (bz n l) (n:Nat)=(yx 12 l).map (fun x=>(x.1:Int))/\scE (bz n l) (n:Nat)=(bz n l).size/\bx (bz n l) (n:Nat)=true:=by
 have q:=tr h l;have d:=lX h
 have m:scK (bz n l) (n:Nat)=2:=by
  refine Y7 (by omega) ?_ (by omega);rw[show min (bz n l).size 12=12 by omega];unfold bz;rw[rL];have b:=lQ ByteArray.empty (hdS (n:Nat)) (vn ByteArray.empty l) (i:=0) (j:=12) rfl (by rw[d];rfl);have a:=lQ ByteArray.empty (hdS (n:Nat)) ByteArray.empty (i:=0) (j:=12) rfl (by rw[d];rfl);rw[ByteArray.empty_append]at b a;rw[ByteArray.append_empty]at a;rw[b,a]
 obtain⟨b,a,k⟩:=Y6 m;obtain⟨f,g⟩:=Yg l (hdS (n:Nat)) o;rw[d]at f g;have c:(0:Int)<=12/\(12:Int)<=(bz n l).size:=by omega
 rw[b,a];refine⟨?_, ?_,k⟩
 ·unfold wlL;rw[qV c];exact f
 ·unfold wlE;rw[qV c];exact g
theorem Oq(p:Tw)(d:p.size<=2000):bZ (jj p) 0=true/\bT (jj p) 0=p:=by
 obtain⟨a,b,_⟩:=ZB ByteArray.empty p ByteArray.empty d;rw[ByteArray.empty_append,ByteArray.append_empty]at a b;exact⟨(lf (jj p) 0).trans a,b⟩
theorem Ox(p:Tw)(a:p.size<=2000):jz ((jj p).extract 0 4)=p.size:=by
 have:=Y0 ByteArray.empty p ByteArray.empty a;rw[ByteArray.empty_append,ByteArray.append_empty]at this;exact this
end
end Go.Proofs.YthejglbnkmimjaaGreat
