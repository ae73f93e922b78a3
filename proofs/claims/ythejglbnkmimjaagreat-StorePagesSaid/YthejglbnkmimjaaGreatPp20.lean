import Derived.Test.YthejglbnkmimjaaGreatPp19
import Derived.Test.YthejglbnkmimjaaGreatPp14
set_option linter.unusedVariables false
set_option maxRecDepth 100000
set_option maxHeartbeats 9000000
namespace Go.Proofs.YthejglbnkmimjaaGreat
open Proofs.Tryz
section
open Go.RowKit Go.Shelf
theorem Qr(N:Nat)(w:World)(c:N<9223372036854775808):
  Calls prog 270 #[N] w (X3 (.string (bs (be 4 N))) w):=by
 have a:=qQ fun W=>gw N 4 W (by omega) (by omega) (by omega)
 have d:IntKind.u64.wrap ((N:Nat):Int)=(N:Nat):=IntWalk.u64_in _ ⟨by omega,by omega⟩;generalize bs (be 4 N)=R at*;go_enter func270,ntmps270;go_wp2_with fail;refine(a.out _).mono ?_;rintro e f⟨rfl,b⟩;go_wp2;go_ret;exact⟨rfl,b⟩
theorem Ck(N:Nat)(w:World)(c:N<9223372036854775808):
  Calls prog 272 #[N] w (X3 (.string (bs (be 1 N))) w):=by
 have a:=qQ fun W=>gw N 1 W (by omega) (by omega) (by omega)
 have d:IntKind.u64.wrap ((N:Nat):Int)=(N:Nat):=IntWalk.u64_in _ ⟨by omega,by omega⟩;generalize bs (be 1 N)=R at*;go_enter func272,ntmps272;go_wp2_with fail;refine(a.out _).mono ?_;rintro e f⟨rfl,b⟩;go_wp2;go_ret;exact⟨rfl,b⟩
theorem Wrt.drew{w1 W:World}{s:Tw}(h:Wrt w1 s W):Wrt w1 s W.drew:=⟨h.b.drew,h.o.drew⟩
def ny(w:World)(m:ji)(e:Ending)(w':World):Prop:=e=.returned (.tuple #[.string (mfS m),.int .i64 (mfE m)])/\Below w.1.size w w'
theorem qJO(n c:Int)(d:Nat)(A:Option Addr)(k cp:Nat)(R:LvL)(w:World)(h:km w (.slice A k cp) R)(m:R.flatten.length<=100000)(l:R.length<=100000)(f:¬kF ⟨n,c,d,R⟩):
  Calls prog 235 #[kD n c d (.slice A k cp)] w (ny w ⟨n,c,d,R⟩):=by
 have b:=(qG w.1.size w).alloc (qK _) (vq n c d (.slice A k cp));have o:=qQ b;have a:=Jd n c d A k cp R _ (h.below b (qK _)) m l;rw[show fA ⟨n,c,d,R⟩=false from qA f]at a;have g:=qQ a;obtain⟨i,j⟩:=Xw f;unfold ny;rw[i,j];unfold kD at g ⊢;clear a h m l b f i j;go_enter func235,ntmps235;go_wp2_with fail;refine g.out.mono ?_;rintro e q⟨rfl,p⟩;go_wp2;go_ret2;exact⟨rfl,bj o.out p⟩
def cA(m:ji)(T:LvL)(j:Nat):Tw:=bs (cL m++vU (T.take j))
def dh(m:ji)(T:LvL)(j:Nat)(x:List Int)(k:Nat):Tw:=bs (cL m++vU (T.take j)++be 1 x.length++(x.take k).flatMap u4)
theorem qJP(m:ji)(T:LvL):cA m T 0=bs (cL m):=by unfold cA;rw[List.take_zero];unfold vU;rw[List.flatMap_nil,List.append_nil]
theorem qJR(m:ji)(T:LvL)(j:Nat)(x:List Int):cA m T j++bs (be 1 x.length)=dh m T j x 0:=by unfold cA dh;rw[cF,List.take_zero,List.flatMap_nil,List.append_nil]
theorem qJS{m:ji}{T:LvL}{j k:Nat}{x:List Int}{y:Int}(h:x[k]? = some y):dh m T j x k++bs (be 4 y.toNat)=dh m T j x (k+1):=by
 unfold dh;rw[cF,xQ,h,List.flatMap_append];simp only[List.append_assoc];congr 4
theorem qJT{m:ji}{T:LvL}{j:Nat}{x:List Int}(h:T[j]? = some x):dh m T j x x.length=cA m T (j+1):=by
 unfold dh cA;rw[xQ,h,List.take_length,rC];show _=bs (cL m++(vU (T.take j)++vU [x]));rw[YW];unfold lvB;simp only[List.append_assoc]
theorem qJ0(m:ji):cA m (jc m.lv) (jc m.lv).length=bs (bJ m):=by unfold cA bJ;rw[List.take_length]
theorem qJ1(n c d t:Nat):bs cw++bs (be 4 n)++bs (be 4 c)++bs (be 8 d)++bs (be 1 t)=bs (cw++be 4 n++be 4 c++be 8 d++be 1 t):=by rw[cF,cF,cF,cF]
theorem Cv{T:LvL}{j:Nat}:(vU (T.take j)).length<=(vU T).length:=by
 conv=>rhs;rw[<-qp j T,rC,qL]
 omega
theorem Cy{m:ji}{T:LvL}{j:Nat}(h:(vU T).length<=200):(cA m T j).size<=221:=by
 have:=Cv (T:=T) (j:=j);unfold cA;rw[kP,qL,tS];omega
theorem qJ2{m:ji}{T:LvL}{j k:Nat}{x:List Int}(h:(vU T).length<=200)(a:x.length<=40):(dh m T j x k).size<=400:=by
 have:=Cv (T:=T) (j:=j);unfold dh;rw[kP,qL,qL,qL,tS,je,rB,qT];omega
theorem kF.bytes{m:ji}(h:kF m):(vU (jc m.lv)).length<=200:=by
 obtain⟨a,b,-⟩:=h.zK;rw[ZZ];omega
theorem qJ3(n c:Nat)(d:Nat)(A:Option Addr)(k cp:Nat)(R:LvL)(w:World)(h:km w (.slice A k cp) R)(hk:k=R.length)(q:kF ⟨(n:Nat),(c:Nat),d,R⟩)(hd:d<18446744073709551616):
  Calls prog 235 #[kD (n:Nat) (c:Nat) d (.slice A k cp)] w (ny w ⟨(n:Nat),(c:Nat),d,R⟩):=by
 have C:=(qG w.1.size w).alloc (qK _) (vq (n:Nat) (c:Nat) d (.slice A k cp));have HB:=qQ C;have h5:=q.2.2.2.2.1.1;have ax:=q.2.2.2.2.1.2.1;simp only at h5 ax;have HV:=Jd (n:Nat) (c:Nat) d A k cp R _ (h.below C (qK _)) (by omega) (by omega);rw[show fA ⟨(n:Nat),(c:Nat),d,R⟩=true from qB q]at HV;have ai:=qQ HV;obtain⟨e1,e2⟩:=ZQ q;obtain⟨A3,c3,HT⟩:=qXM A k cp R hk (by omega);have L:=qQ (fun W (I:Below w.1.size w W)=>HT W (h.below I (qK _)));have a9:n<=1000000:=by have:=q.2.1;simp only at this;omega
 have a6:c<=2147483647:=by have:=q.2.2.2.1;simp only at this;omega
 have S:=qQ q.bytes;obtain⟨t5,-,tl⟩:=q.zK;have au:=qQ tl;have U:=qQ (qJ0 ⟨(n:Nat),(c:Nat),d,R⟩);have ah:Hid (bs cw++bs (be 4 n)++bs (be 4 c)++bs (be 8 d)++bs (be 1 (jc R).length)=cA ⟨(n:Nat),(c:Nat),d,R⟩ (jc R) 0):=qQ (by rw[qJP,qJ1];rfl);unfold ny;rw[e1,e2];unfold mfB;unfold kD at ai ⊢;unfold Qj at L;simp only at S au U t5;clear HV h C q e1 e2 HT tl;generalize hT:jc R=T at*;clear hT;obtain⟨t,ht⟩:∃t,t=T.length:=⟨_,rfl⟩
 have av:=qQ ht;rw[<-ht]at L U ah t5;clear ht;have HZ:=qQ (show(cA ⟨(n:Nat),(c:Nat),d,R⟩ T t).size<=221 from Cy S.out);generalize hM:(⟨(n:Nat),(c:Nat),d,R⟩:ji)=M at*;clear hM;have am:=qQ fun W=>Qr n W (by omega)
 have an:=qQ fun W=>Qr c W (by omega)
 have ao:Hid (∀W:World,Calls prog 142 #[.int .u64 (d:Nat),.int .i64 8] W fun e l=>e=.returned (.string (bs (be 8 d)))/\Below W.1.size W l):=qQ fun W=>gw d 8 W (by omega) (by omega) hd
 have ap:=qQ fun W=>Ck t W (by omega)
 have s0:(bs cw).size=4:=rfl;have s1:(bs (be 4 n)).size=4:=by rw[kP,je]
 have s2:(bs (be 4 c)).size=4:=by rw[kP,je]
 have s3:(bs (be 8 d)).size=8:=by rw[kP,je]
 have s4:(bs (be 1 t)).size=1:=by rw[kP,je]
 have eI:(⟨#[105,109,97,112]⟩:Tw)=bs cw:=rfl;generalize bs cw=s at*;generalize bs (be 4 n)=r at*;generalize bs (be 4 c)=B at*;generalize bs (be 8 d)=V at*;generalize bs (be 1 t)=X4 at*;have X:∀w:World,(Op.stringOp .add ⟨#[105,109,97,112]⟩ r).run prog w=.ok (.string (s++r)) w:=fun w=>by rw[eI];exact run_string_add_sum (P:=prog) (w:=w) _ _ (by omega)
 have z1:(s++r).size=8:=by rw[qy,s0,s1]
 have Y:∀w:World,(Op.stringOp .add (s++r) B).run prog w=.ok (.string (s++r++B)) w:=fun w=>run_string_add_sum (P:=prog) (w:=w) _ _ (by omega)
 have z2:(s++r++B).size=12:=by rw[qy,z1,s2]
 have Z:∀w:World,(Op.stringOp .add (s++r++B) V).run prog w=.ok (.string (s++r++B++V)) w:=fun w=>run_string_add_sum (P:=prog) (w:=w) _ _ (by omega)
 have z3:(s++r++B++V).size=20:=by rw[qy,z2,s3]
 generalize s++r++B++V=Y3 at*;generalize s++r++B=Y2 at*;generalize s++r=Y1 at*;have g0:(w.alloc (vq (n:Nat) (c:Nat) d (.slice A k cp))).cell? ⟨w.1.size,0,none⟩=some (.int .i64 (n:Nat)):=World.cell?_alloc_at _ _ _ _ rfl;have g1:(w.alloc (vq (n:Nat) (c:Nat) d (.slice A k cp))).cell? ⟨w.1.size,1,none⟩=some (.int .i64 (c:Nat)):=World.cell?_alloc_at _ _ _ _ rfl;have g2:(w.alloc (vq (n:Nat) (c:Nat) d (.slice A k cp))).cell? ⟨w.1.size,2,none⟩=some (.int .u64 (d:Nat)):=World.cell?_alloc_at _ _ _ _ rfl;have g3:(w.alloc (vq (n:Nat) (c:Nat) d (.slice A k cp))).cell? ⟨w.1.size,3,none⟩=some (.slice A k cp):=World.cell?_alloc_at _ _ _ _ rfl;have G:=qQ (qU g0 (qU g1 (qU g2 g3)));have Z3:=qQ z3;have S4:=qQ s4;have ak:=qQ (qU X (qU Y Z));clear g0 g1 g2 g3 eI s0 s1 s2 s3 s4 z1 z2 z3 X Y Z hk h5 ax;go_enter func235,ntmps235;go_wp2_with fail;refine ai.out.mono ?_;rintro e a⟨rfl,F⟩;rw[World.size_alloc]at F;obtain⟨q0,q1,q2,q3⟩:=G.out;have c0:=cj F (show w.1.size<w.1.size+1 by omega) q0;have c1:=cj F (show w.1.size<w.1.size+1 by omega) q1;have c2:=cj F (show w.1.size<w.1.size+1 by omega) q2;have aa:=cj F (show w.1.size<w.1.size+1 by omega) q3;have aY:=F.size;rw[World.size_alloc]at aY;have aD:Below w.1.size w a:=HB.out.trans (F.mono (by simp));have ab:w.1.size<a.1.size:=by omega
 have ad:=qQ aD;clear F q0 q1 q2 q3 G ai HB
 have J:Hid (∀W,Below a.1.size a W->Below a.1.size a W/\W.cell? ⟨w.1.size,0,none⟩=some (.int .i64 (n:Nat))/\W.cell? ⟨w.1.size,1,none⟩=some (.int .i64 (c:Nat))/\W.cell? ⟨w.1.size,2,none⟩=some (.int .u64 (d:Nat))/\W.cell? ⟨w.1.size,3,none⟩=some (.slice A k cp)) :=
  qQ fun W I=>⟨I,cj I ab c0,cj I ab c1,cj I ab c2,cj I ab aa⟩
 have K1:=qQ fun W (hh:Below a.1.size a W/\W.cell? ⟨w.1.size,0,none⟩=some (.int .i64 (n:Nat))/\W.cell? ⟨w.1.size,1,none⟩=some (.int .i64 (c:Nat))/\W.cell? ⟨w.1.size,2,none⟩=some (.int .u64 (d:Nat))/\W.cell? ⟨w.1.size,3,none⟩=some (.slice A k cp)) (f:Wrt a ByteArray.empty W)=>(am.out W).mono fun e l p=>(⟨p.1,J.out l (f.below p.2).o,f.below p.2⟩:e=_/\_/\Wrt a ByteArray.empty l)
 have K2:=qQ fun W (hh:Below a.1.size a W/\W.cell? ⟨w.1.size,0,none⟩=some (.int .i64 (n:Nat))/\W.cell? ⟨w.1.size,1,none⟩=some (.int .i64 (c:Nat))/\W.cell? ⟨w.1.size,2,none⟩=some (.int .u64 (d:Nat))/\W.cell? ⟨w.1.size,3,none⟩=some (.slice A k cp)) (f:Wrt a ByteArray.empty W)=>(an.out W).mono fun e l p=>(⟨p.1,J.out l (f.below p.2).o,f.below p.2⟩:e=_/\_/\Wrt a ByteArray.empty l)
 have K3:=qQ fun W (hh:Below a.1.size a W/\W.cell? ⟨w.1.size,0,none⟩=some (.int .i64 (n:Nat))/\W.cell? ⟨w.1.size,1,none⟩=some (.int .i64 (c:Nat))/\W.cell? ⟨w.1.size,2,none⟩=some (.int .u64 (d:Nat))/\W.cell? ⟨w.1.size,3,none⟩=some (.slice A k cp)) (f:Wrt a ByteArray.empty W)=>(ao.out W).mono fun e l p=>(⟨p.1,J.out l (f.below p.2).o,f.below p.2⟩:e=_/\_/\Wrt a ByteArray.empty l)
 have K4:=qQ fun W (hh:Below a.1.size a W/\W.cell? ⟨w.1.size,0,none⟩=some (.int .i64 (n:Nat))/\W.cell? ⟨w.1.size,1,none⟩=some (.int .i64 (c:Nat))/\W.cell? ⟨w.1.size,2,none⟩=some (.int .u64 (d:Nat))/\W.cell? ⟨w.1.size,3,none⟩=some (.slice A k cp)) (f:Wrt a ByteArray.empty W)=>(f.write Y3 (by rw[Z3.out];decide)).mono fun e l p=>(⟨p.1,J.out l p.2.o,by have h2:=p.2;rw[ByteArray.empty_append]at h2;exact h2⟩:e=_/\_/\Wrt a Y3 l)
 have aG:=(Wrt.fresh a).drew;have aX:=J.out _ aG.o;clear c0 c1 c2 aa am an ao aD;obtain⟨X,Y,Z⟩:=ak.out;go_upto_region 4 with fail
 go_region_held3 (fun W=>Below a.1.size a W/\W.cell? ⟨w.1.size,0,none⟩=some (.int .i64 (n:Nat))/\W.cell? ⟨w.1.size,1,none⟩=some (.int .i64 (c:Nat))/\W.cell? ⟨w.1.size,2,none⟩=some (.int .u64 (d:Nat))/\W.cell? ⟨w.1.size,3,none⟩=some (.slice A k cp))
  (first|(with_reducible assumption)|fail)
  (first
  | (go_at_call 270;((with_reducible refine(K1.out _ (by with_reducible assumption) (by with_reducible assumption)).mono ?_);rintro e l⟨rfl,C,f⟩))
  | (go_at_call 270;((with_reducible refine(K2.out _ (by with_reducible assumption) (by with_reducible assumption)).mono ?_);rintro e l⟨rfl,C,f⟩))
  | (go_at_call 142;((with_reducible refine(K3.out _ (by with_reducible assumption) (by with_reducible assumption)).mono ?_);rintro e l⟨rfl,C,f⟩))
  | (go_at_call 140;((with_reducible refine(K4.out _ (by with_reducible assumption) (by with_reducible assumption)).mono ?_);rintro e l⟨rfl,C,f⟩))
  | fail)
 have HX:=qQ f;obtain⟨-,-,-,-,aa⟩:=C;have ar:=qQ (L.out l (bj ad.out f.o)).1;have aU:=(L.out a ad.out).2.form;obtain⟨A9,off,a4,ev,-,hc⟩:=aU;rw[<-av.out]at ev;obtain⟨rfl,-,rfl⟩:=Value.slice.inj ev;have HC:=qQ hc;have z4:=S4.out;have z3:=Z3.out;have HQ:=qQ fun W=>oA (bs (bJ M)) W (by have:=HZ.out;rw[U.out]at this;unfold maxLen;omega)
 have Z0:=qQ (show Y3.size+X4.size<=1000000 by omega);have a5:=fun(x:Int) (h0:0<=x) (h1:x<4294967296) W=>Qr x.toNat W (by omega)
 clear K1 K2 K3 K4 aX aG f L ev hc z3 z4 X Y Z ak Z3 S4 J;go_wp2_with fail;refine ar.out.mono ?_;rintro e w'⟨rfl,rfl⟩;go_wp2_with fail;refine KG (ap.out _) fun w6 aA=>?_;have v:=qQ ((HX.out.below aA).write X4 Z0.out);clear aA;go_wp2_with fail;refine KG v.out fun w7 W7=>?_;rw[ah.out]at W7;clear v ar ah ap Z0 aa HX;go_wp2;go_loopg [35] t (fun g i wr=>∃j:Nat,j+g=t/\i=.int .i64 j/\Wrt a (cA M T j) wr)
 case atStart=>exact⟨0,by omega,rfl,W7⟩
 case round =>
  obtain⟨j,a7,rfl,W8⟩:=hrel;clear W7;have Q:=qQ W8;clear W8;obtain⟨wo,rfl⟩:∃wo,wo=wr:=⟨_,rfl⟩
  cases gk with
  | zero =>
    obtain rfl:j=t:=(by omega);have l1:¬(j:Int)<(j:Int):=(by omega);have H:=Q.out;rw[U.out]at H;have v:=qQ H.told;clear H Q;go_wp2_with fail;refine KG v.out fun w8 O=>?_;have aJ:=qQ O;clear O;go_wp2_with fail;refine KG (HQ.out _) fun w9 aB=>?_;have aK:=qQ aB;clear aB;go_wp2;go_ret2;exact⟨rfl,bj ad.out (bj aJ.out aK.out)⟩
  | succ gi =>
    have aV:j<t:=(by omega);have l1:(j:Int)<(t:Int):=(by omega);obtain⟨x,f⟩:∃x,T[j]? = some x:=⟨_,qE (by rw[<-av.out];exact aV)⟩
    obtain⟨b,u,rfl,aC,cu,aF⟩:=HC.out j x f;have aR:=cj Q.out.o aC cu;obtain⟨A4,o4,c4,rfl,-,aE⟩:=aF.form;obtain⟨aI,xb⟩:=au.out x (qN f);have aO:=qQ xb;have a0:=qQ f;have aL:=qQ aE;have ae:=qQ (qJR M T j x);have al:=qQ (qJT (m:=M) f);have aN:=qQ (fun k=>qJ2 (m:=M) (T:=T) (j:=j) (k:=k) S.out aI);have ag:=qQ (fun W=>Ck x.length W (by omega));have aH:(bs (be 1 x.length)).size=1:=(by rw[kP,je]);obtain⟨m,q⟩:∃m,m=x.length:=⟨_,rfl⟩
    have HM:=qQ q;rw[<-q]at ae al ag aR aI aH;generalize aT:bs (be 1 m)=B1 at*;have aP:=qQ (show(cA M T j).size+B1.size<=1000000 by have:=Cy (m:=M) (j:=j) S.out;omega);clear aT f aC cu aF aE xb q aH;go_wp2_with fail;refine KG (ag.out _) fun w8 O=>?_;have v:=qQ ((Q.out.below O).write B1 aP.out);clear O;go_wp2_with fail;refine KG v.out fun w9 H=>?_;rw[ae.out]at H;clear v ag ae;go_wp2;go_loopg [45] m (fun g i wx=>∃k:Nat,k+g=m/\i=.int .i64 k/\Wrt a (dh M T j x k) wx)
    case atStart=>exact⟨0,by omega,rfl,H⟩
    case round =>
     obtain⟨z,a8,rfl,aw⟩:=hrel;have ac:=qQ aw;clear aw H;cases gk with
     | zero =>
       obtain rfl:z=m:=(by omega);have l2:¬(z:Int)<(z:Int):=(by omega);have K:=ac.out;rw[al.out]at K;have aM:=qQ K;clear K;go_wp2;go_roundg gi
       case measure=>omega
       case rel=>exact⟨j+1,by omega,by go_num,aM.out⟩
     | succ gj =>
       have aW:z<m:=(by omega);have l2:(z:Int)<(m:Int):=(by omega);obtain⟨y,hy⟩:∃y,x[z]? = some y:=⟨_,qE (by rw[<-HM.out];exact aW)⟩
       obtain⟨b2,rfl,az,cy⟩:=aL.out z y hy;obtain⟨y0,y1⟩:=aO.out y (qN hy);have aS:=cj ac.out.o az cy;have af:=qQ (qJS (m:=M) (T:=T) (j:=j) hy);obtain⟨N,rfl⟩:∃N:Nat,y=(N:Int):=⟨y.toNat,by omega⟩
       have aq:=qQ (fun W=>Qr N W (by omega));rw[qa]at af;have aZ:(bs (be 4 N)).size=4:=(by rw[kP,je]);generalize bs (be 4 N)=B4 at*;have aQ:=qQ (show(dh M T j x z).size+B4.size<=1000000 by have:=aN.out z;omega);clear hy az cy aZ y0 y1;go_wp2_with fail;refine(aq.out _).mono ?_;rintro e a_⟨rfl,ay⟩;have v:=qQ ((ac.out.below ay).write B4 aQ.out);clear ay aS;go_wp2_with fail;refine v.out.mono ?_;rintro e ba⟨rfl,aj⟩;rw[af.out]at aj;have K:=qQ aj;clear v aq af aj;go_wp2;go_roundg gj
       case measure=>omega
       case rel=>exact⟨z+1,by omega,by go_num,K.out⟩
theorem Cu(n c:Int)(d:Nat)(A:Option Addr)(k cp:Nat)(R:LvL)(w:World)(h:km w (.slice A k cp) R)(g:k=R.length)(i:R.flatten.length<=100000)(b:R.length<=100000)(f:d<18446744073709551616):
  Calls prog 235 #[kD n c d (.slice A k cp)] w (ny w ⟨n,c,d,R⟩):=by
 by_cases a:kF ⟨n,c,d,R⟩
 ·obtain⟨N,rfl⟩:∃N:Nat,n=(N:Int):=⟨n.toNat,by have:=a.1;simp only at this;omega⟩
  obtain⟨C,rfl⟩:∃C:Nat,c=(C:Int):=⟨c.toNat,by have:=a.2.2.1;simp only at this;omega⟩
  exact qJ3 N C d A k cp R w h g a f
 ·exact qJO n c d A k cp R w h i b a
theorem vB.xD{w:World}{base b i:Nat}{v:Value}{R:LvL}(h:vB w base v R)(g:b<base)(u:Value):vB (w.setCell ⟨b,i,none⟩ u) base v R:=by
 obtain⟨M,a,c,f⟩:=h;exact⟨M,vz a (fun e=>by have:=jl.block a b e;omega) u,fun x d=>vz (c x d) (fun e=>by have:=(jy.block (c x d) b e).1;omega) u,f⟩
theorem pX{w w':World}{g:Nat}{t:TypeId}{cs:Array Value}(h:jN w g t cs)(a:Below w.1.size w w'):jN w' g t cs:=(a.block g h.lt).trans h
def Jt(w:World)(s:Tw)(e:Ending)(w':World):Prop:=∃(b d:Int) (a:Nat) (A:Option Addr) (n c:Nat) (R:LvL),e=.returned (.tuple #[kD b d a (.slice A n c),.int .i64 (mgE s)])/\mgM s=⟨b,d,a,R⟩/\n=R.length/\vB w' w.1.size (.slice A n c) R/\Below w.1.size w w'/\a<18446744073709551616/\R.flatten.length<=100000/\R.length<=300
def bE(w:World)(g:Nat)(a b c d:Value):World:=(((w.setCell ⟨g,0,none⟩ a).setCell ⟨g,1,none⟩ b).setCell ⟨g,2,none⟩ c).setCell ⟨g,3,none⟩ d
theorem sE{B:Nat}{w W:World}{g:Nat}(h:Below B w W)(f:B<=g)(a b c d:Value):Below B w (bE W g a b c d):=(((h.setCell (p:=⟨g,0,none⟩) f a).setCell (p:=⟨g,1,none⟩) f b).setCell (p:=⟨g,2,none⟩) f c).setCell (p:=⟨g,3,none⟩) f d
theorem pZ{W:World}{g:Nat}{t:TypeId}{f i j k:Value}(h:jN W g t #[f,i,j,k])(a b c d:Value):jN (bE W g a b c d) g t #[a,b,c,d]:=(((h.put 0 a).put 1 b).put 2 c).put 3 d
theorem vB.manSet{W:World}{base g:Nat}{v:Value}{R:LvL}(h:vB W base v R)(f:g<base)(a b c d:Value):vB (bE W g a b c d) base v R:=(((h.xD f a).xD f b).xD f c).xD f d
theorem qJ4(s:Tw)(w:World)(hs:s.size<=1100000):Calls prog 191 #[s] w (Jt w s):=by
 have B0:=jN.new w 47 #[.int .i64 0,.int .i64 0,.int .u64 0,.slice none 0 0];have ag:=(qG w.1.size w).alloc (qK _) (.cells #[.int .i64 0,.int .i64 0,.int .u64 0,.slice none 0 0] 47);have HR:=qQ (qX7 s (w.alloc (.cells #[.int .i64 0,.int .i64 0,.int .u64 0,.slice none 0 0] 47)) hs);have ah:=qQ ag;have ai:=qQ B0;clear ag B0;go_enter func191,ntmps191;go_wp2_with fail;refine HR.out.mono ?_;rintro e C⟨g,i,j,A,n,c,R,rfl,hn,W,u,ad,X,ac,hL⟩;rw[World.size_alloc]at W u;have HN:=qQ hn;have aa:=qQ W;have ae:=qQ u;have U:=qQ ad;have t:=qQ (qU X (qU ac hL));have ak:=u.size;rw[World.size_alloc]at ak;have Z:=qQ ((ah.out.trans (u.mono (by simp))).alloc (B:=w.1.size) (by omega) (vq g i j (.slice A n c)));have m:=qQ (Cu g i j A n c R (C.alloc (vq g i j (.slice A n c))) (W.has.below ((qG C.1.size C).alloc (qK _) _) (qK _)) hn ac (by omega) X);have Y:=qQ ((pX ai.out (by rw[World.size_alloc];exact u)).alloc (vq g i j (.slice A n c)));unfold kD;unfold kD at m;have z:=Nc ad X
 have q:Hid (¬dR s->∀d,Below w.1.size w d->Jt w s (.returned (.tuple #[kD 0 0 0 (.slice none 0 0),.int .i64 90])) d):=qQ fun k d hB=>by
  obtain⟨o,p⟩:=Ng k;exact⟨0,0,0,none,0,0,[],by rw[o],by rw[p];rfl,rfl,vB.nil _ _,hB,by decide,by decide,by decide⟩
 have V:Hid (dR s->∀d,vB d w.1.size (.slice A n c) R->Below w.1.size w d->Jt w s (.returned (.tuple #[kD g i j (.slice A n c),.int .i64 0])) d):=qQ fun k d hN hB=>by
  obtain⟨o,p⟩:=Nb k U.out;exact⟨g,i,j,A,n,c,R,by rw[o],p,HN.out,hN,hB,t.out.1,t.out.2.1,t.out.2.2⟩
 unfold ny at m;clear hn W u ad X ac hL HR hs;by_cases r:kF ⟨g,i,j,R⟩
 case neg =>
  have k:¬dR s:=fun h=>r (z.1 h).1
  have q:=qQ (q.out k);obtain⟨o,p⟩:=Xw r;rw[o,p]at m;clear z V k o p r aa ae U t;go_wp2_with fail;refine m.out.mono ?_;rintro e S⟨rfl,f⟩;rw[World.size_alloc]at f;have a:=pX Y.out (by rw[World.size_alloc];exact f);have H:=a.cell 0;have I:=a.cell 1;have J:=a.cell 2;have K:=a.cell 3;have f0:=a.frozen 0;have f1:=a.frozen 1;have f2:=a.frozen 2;have f3:=a.frozen 3;simp only[List.getElem?_toArray]at H I J K;have F:=qQ (Z.out.trans (f.mono (by omega)));have G:=qQ a;clear a f m;go_wp2;have b:=pZ G.out (.int .i64 0) (.int .i64 0) (.int .u64 0) (.slice none 0 0);have l:=sE F.out (qK _) (.int .i64 0) (.int .i64 0) (.int .u64 0) (.slice none 0 0);unfold bE at b l;obtain⟨d,Q⟩:∃d,d=(((S.setCell ⟨w.1.size,0,none⟩ (.int .i64 0)).setCell ⟨w.1.size,1,none⟩ (.int .i64 0)).setCell ⟨w.1.size,2,none⟩ (.int .u64 0)).setCell ⟨w.1.size,3,none⟩ (.slice none 0 0):=⟨_,rfl⟩
  rw[<-Q]at b l ⊢;have L:=b.cell 0;have M:=b.cell 1;have N:=b.cell 2;have O:=b.cell 3;exact bodyPost_ret (v:=.tuple #[kD 0 0 0 (.slice none 0 0),.int .i64 90]) (by simp[results,Tryz.results191,go_sem,L,M,N,O];rfl) rfl (q.out d l)
 obtain⟨o,p⟩:=ZQ r;rw[o,p]at m;generalize mfB ⟨g,i,j,R⟩=T at*;by_cases y:T=s
 case neg =>
  have k:¬dR s:=fun h=>y (z.1 h).2
  have q:=qQ (q.out k);obtain⟨t1,t2,t3⟩:=Kv y;clear z V k o p r y aa ae U t;go_wp2_with fail;refine m.out.mono ?_;rintro e S⟨rfl,f⟩;rw[World.size_alloc]at f;have a:=pX Y.out (by rw[World.size_alloc];exact f);have H:=a.cell 0;have I:=a.cell 1;have J:=a.cell 2;have K:=a.cell 3;have f0:=a.frozen 0;have f1:=a.frozen 1;have f2:=a.frozen 2;have f3:=a.frozen 3;simp only[List.getElem?_toArray]at H I J K;have F:=qQ (Z.out.trans (f.mono (by omega)));have G:=qQ a;clear a f m;go_wp2;have b:=pZ G.out (.int .i64 0) (.int .i64 0) (.int .u64 0) (.slice none 0 0);have l:=sE F.out (qK _) (.int .i64 0) (.int .i64 0) (.int .u64 0) (.slice none 0 0);unfold bE at b l;obtain⟨d,Q⟩:∃d,d=(((S.setCell ⟨w.1.size,0,none⟩ (.int .i64 0)).setCell ⟨w.1.size,1,none⟩ (.int .i64 0)).setCell ⟨w.1.size,2,none⟩ (.int .u64 0)).setCell ⟨w.1.size,3,none⟩ (.slice none 0 0):=⟨_,rfl⟩
  rw[<-Q]at b l ⊢;have L:=b.cell 0;have M:=b.cell 1;have N:=b.cell 2;have O:=b.cell 3;exact bodyPost_ret (v:=.tuple #[kD 0 0 0 (.slice none 0 0),.int .i64 90]) (by simp[results,Tryz.results191,go_sem,L,M,N,O];rfl) rfl (q.out d l)
 case pos =>
  have k:dR s:=z.2 ⟨r,y⟩;have HY:=qQ (V.out k);obtain⟨t1,t2,t3⟩:=Kk y;clear z V k o p r U t q y;go_wp2_with fail;refine m.out.mono ?_;rintro e S⟨rfl,f⟩;rw[World.size_alloc]at f;have a:=pX Y.out (by rw[World.size_alloc];exact f);have H:=a.cell 0;have I:=a.cell 1;have J:=a.cell 2;have K:=a.cell 3;have f0:=a.frozen 0;have f1:=a.frozen 1;have f2:=a.frozen 2;have f3:=a.frozen 3;simp only[List.getElem?_toArray]at H I J K;have F:=qQ (Z.out.trans (f.mono (by omega)));have P:=pX (jN.new C 47 #[g,i,.int .u64 (j:Nat),.slice A n c]) (by rw[World.size_alloc];exact f);have i0:=P.cell 0;have i1:=P.cell 1;have i2:=P.cell 2;have i3:=P.cell 3;simp only[List.getElem?_toArray]at i0 i1 i2 i3;have af:=aa.out.below (((qG C.1.size C).alloc (qK _) (vq g i j (.slice A n c))).trans (f.mono (by omega))) (qK _);have aj:=qQ (af.manSet (show w.1.size<w.1.size+1 by omega) (.int .i64 g) (.int .i64 i) (.int .u64 (j:Nat)) (.slice A n c));have G:=qQ a;clear a f m P af;go_wp2;have b:=pZ G.out (.int .i64 g) (.int .i64 i) (.int .u64 (j:Nat)) (.slice A n c);have l:=sE F.out (qK _) (.int .i64 g) (.int .i64 i) (.int .u64 (j:Nat)) (.slice A n c);have ab:=aj.out;unfold bE at b l ab;obtain⟨d,Q⟩:∃d,d=(((S.setCell ⟨w.1.size,0,none⟩ (.int .i64 g)).setCell ⟨w.1.size,1,none⟩ (.int .i64 i)).setCell ⟨w.1.size,2,none⟩ (.int .u64 (j:Nat))).setCell ⟨w.1.size,3,none⟩ (.slice A n c):=⟨_,rfl⟩
  rw[<-Q]at b l ab ⊢;have L:=b.cell 0;have M:=b.cell 1;have N:=b.cell 2;have O:=b.cell 3;exact bodyPost_ret (v:=.tuple #[kD g i j (.slice A n c),.int .i64 0]) (by simp[results,Tryz.results191,go_sem,L,M,N,O];rfl) rfl (HY.out d (ab.down (by omega)) l)
end
section
open Go.RowKit Go.Shelf
theorem qJ5{D:jL}(h:(j9 D j7).2≠0):yM D=((j9 D j7).2:Nat)/\kK D=rF/\cM D=D:=by
 have e:rdW D j7=(ByteArray.empty,(j9 D j7).2,D):=by unfold rdW;rw[qZ h]
 unfold yM kK cM;rw[e];exact⟨qV h,qV h,rfl⟩
theorem qJ6{D:jL}(h:(j9 D j7).2=0)(a:(kM D j7 0 ((j9 D j7).1:Nat)).2.1≠0):yM D=((kM D j7 0 ((j9 D j7).1:Nat)).2.1:Nat)/\kK D=rF/\cM D=(kM D j7 0 ((j9 D j7).1:Nat)).2.2:=by
 have e:rdW D j7=kM D j7 0 ((j9 D j7).1:Nat):=by unfold rdW;rw[qV h]
 unfold yM kK cM;rw[e];exact⟨qV a,qV a,rfl⟩
theorem qJ7{D:jL}(h:(j9 D j7).2=0)(a:(kM D j7 0 ((j9 D j7).1:Nat)).2.1=0):yM D=mgE (kM D j7 0 ((j9 D j7).1:Nat)).1/\kK D=mgM (kM D j7 0 ((j9 D j7).1:Nat)).1/\cM D=(kM D j7 0 ((j9 D j7).1:Nat)).2.2:=by
 have e:rdW D j7=kM D j7 0 ((j9 D j7).1:Nat):=by unfold rdW;rw[qV h]
 unfold yM kK cM;rw[e];exact⟨qZ (by simp[a]),qZ (by simp[a]),rfl⟩
theorem qJ8(w:World)(g:Nat)(a b c d:Value):jP [g] w (bE w g a b c d) :=
 ((((jP.refl [g] w).setCell (p:=⟨g,0,none⟩) (qX qC) a).setCell (p:=⟨g,1,none⟩) (qX qC) b).setCell (p:=⟨g,2,none⟩) (qX qC) c).setCell (p:=⟨g,3,none⟩) (qX qC) d
abbrev mzO: Obj:=.cells #[.int .i64 0,.int .i64 0,.int .u64 0,.slice none 0 0] 47
section
variable {At:j6}(api:j8 At){w0 w:World}{gd:Nat}{D:jL}{E:List Nat}
include api
theorem Ja{w1 w2:World}{g:Nat}{D':jL}(m:∀b∈E,b<g)(n:w0.1.size<=g)(h:DS At w0 gd D' (g::E) w1)(o:jM E w w1)(i:Below w1.1.size w1 w2)(a b c d:Value):
  DS At w0 gd D' E (bE w2 g a b c d)/\jM E w (bE w2 g a b c d):=by
 have j:=h.below api i;have k:=qJ8 w2 g a b c d;have l:=j.zE api k (fun x f=>by rw[qH.1 f];exact⟨qC,n⟩);refine⟨l.less (fun x f=>qF _ f),(o.trans (jM.xA i (fun b i=>h.lt b (qF _ i)))).trans (jM.xP k fun x f=>⟨j.lt x (qF _ f),fun p=>?_⟩)⟩;have:=m x f;rw[qH.1 p]at this;exact Nat.lt_irrefl _ this
theorem qJ9(h:DS At w0 gd D E w)(ok:WfP D)(hc:D.count<=1099511627776):Calls prog 132 #[ptr gd] w (Jf At w0 gd D E w):=by
 have hz:=Vh ok j7;have ag:=ok.cap;have aa:=(qG w.1.size w).alloc (qK _) mzO;have f:=jN.new w 47 #[.int .i64 0,.int .i64 0,.int .u64 0,.slice none 0 0]
 have o:DS At w0 gd D (w.1.size::E) (w.alloc mzO):=h.more api aa (B:=[w.1.size]) (fun b hb=>by
  rw[qH.1 hb];exact⟨qK _,f.lt⟩)
 have N:=jM.xA aa h.lt;have ab:=h.lt;have ac:=h.kept.size;obtain⟨g,ao⟩:∃g,w.1.size=g:=⟨_,rfl⟩
 rw[ao]at o f ab ac;obtain⟨I,al⟩:∃I,w.alloc mzO=I:=⟨_,rfl⟩
 rw[al]at o f N;unfold mzO at al;have p:Calls prog 129 #[ptr gd,.string ⟨#[109,97,112]⟩] I (X0 (.tuple #[.int .i64 ((j9 D j7).1:Nat),err (j9 D j7).2]) I):=o.size api ok j7 (by decide)
 have J:Calls prog 130 #[ptr gd,.string ⟨#[109,97,112]⟩,.int .i64 0,.int .i64 ((j9 D j7).1:Nat)] I (yf At w0 gd (.tuple #[.string (kM D j7 0 ((j9 D j7).1:Nat)).1,err (kM D j7 0 ((j9 D j7).1:Nat)).2.1]) (kM D j7 0 ((j9 D j7).1:Nat)).2.2 (g::E) I) :=
  o.xE api (fun F hF=>api.read j7 0 ((j9 D j7).1:Nat) hF ok.ok hc (by decide) (WalkArith.wf_i64 (by omega)) (by decide))
 have ae:=tM ok j7;have j:=qQ (qU f (qU N (qU ab (qU ac o))));unfold Jf;by_cases k:(j9 D j7).2=0
 case neg =>
  obtain⟨q,u,C⟩:=qJ5 k;rw[q,u,C];have t:(((j9 D j7).2:Int) != 0)=true:=by simp;omega
  generalize (j9 D j7).1=z at*;generalize (j9 D j7).2=y at*;have O:=qQ p;have P:=f.cell 0;have Q:=f.cell 1;have S:=f.cell 2;have T:=f.cell 3;have f0:=f.frozen 0;have f1:=f.frozen 1;have f2:=f.frozen 2;have f3:=f.frozen 3;simp only[List.getElem?_toArray]at P Q S T;clear p J ae hz k q u C h ok hc aa o N ab ac f ag;go_enter func132,ntmps132;go_wp2_with fail;refine X5 O.out ?_;go_wp2;have d:=pZ j.out.1 (.int .i64 0) (.int .i64 0) (.int .u64 0) (.slice none 0 0);have i:=Ja api j.out.2.2.1 j.out.2.2.2.1 j.out.2.2.2.2 j.out.2.1 (qG _ _) (.int .i64 0) (.int .i64 0) (.int .u64 0) (.slice none 0 0);unfold bE at d i;obtain⟨G,ad⟩:∃G,G=(((I.setCell ⟨g,0,none⟩ (.int .i64 0)).setCell ⟨g,1,none⟩ (.int .i64 0)).setCell ⟨g,2,none⟩ (.int .u64 0)).setCell ⟨g,3,none⟩ (.slice none 0 0):=⟨_,rfl⟩
  rw[<-ad]at d i ⊢;have U:=d.cell 0;have V:=d.cell 1;have X:=d.cell 2;have Y:=d.cell 3;exact bodyPost_ret (v:=.tuple #[kD 0 0 0 (.slice none 0 0),y]) (by simp[results,Tryz.results132,go_sem,U,V,X,Y];rfl) rfl ⟨0,0,0,none,0,0,[],rfl,rfl,rfl,km.nil _ _ _,by decide,by decide,by decide,i.1,i.2⟩
 have er:rdW D j7=kM D j7 0 ((j9 D j7).1:Nat):=by unfold rdW;rw[qV k]
 rw[er]at ae;by_cases Z:(kM D j7 0 ((j9 D j7).1:Nat)).2.1=0
 case neg =>
  obtain⟨q,u,C⟩:=qJ6 k Z;rw[q,u,C];rw[k]at p;have t:(((kM D j7 0 ((j9 D j7).1:Nat)).2.1:Int) != 0)=true:=by simp;omega
  generalize kM D j7 0 ((j9 D j7).1:Nat)=r at*;generalize (j9 D j7).1=z at*;generalize r.2.1=y at*;have O:=qQ p;have K2:=qQ J;clear p J ae hz k Z q u C h ok hc aa o N ab ac f ag er;go_enter func132,ntmps132;go_wp2_with fail;refine X5 O.out ?_;go_wp2_with fail;refine K2.out.mono ?_;rintro e w2⟨rfl,q1,H⟩;have a:=H.xW j.out.1 qC;have P:=a.cell 0;have Q:=a.cell 1;have S:=a.cell 2;have T:=a.cell 3;have f0:=a.frozen 0;have f1:=a.frozen 1;have f2:=a.frozen 2;have f3:=a.frozen 3;simp only[List.getElem?_toArray]at P Q S T;have l:=qQ (qU q1 (qU H a));clear q1 H a;go_wp2;have d:=pZ l.out.2.2 (.int .i64 0) (.int .i64 0) (.int .u64 0) (.slice none 0 0);have i:=Ja api j.out.2.2.1 j.out.2.2.2.1 l.out.1 (j.out.2.1.trans (l.out.2.1.less (fun b hb=>qF _ hb))) (qG _ _) (.int .i64 0) (.int .i64 0) (.int .u64 0) (.slice none 0 0);unfold bE at d i;obtain⟨G,ad⟩:∃G,G=(((w2.setCell ⟨g,0,none⟩ (.int .i64 0)).setCell ⟨g,1,none⟩ (.int .i64 0)).setCell ⟨g,2,none⟩ (.int .u64 0)).setCell ⟨g,3,none⟩ (.slice none 0 0):=⟨_,rfl⟩
  rw[<-ad]at d i ⊢;have U:=d.cell 0;have V:=d.cell 1;have X:=d.cell 2;have Y:=d.cell 3;exact bodyPost_ret (v:=.tuple #[kD 0 0 0 (.slice none 0 0),y]) (by simp[results,Tryz.results132,go_sem,U,V,X,Y];rfl) rfl ⟨0,0,0,none,0,0,[],rfl,rfl,rfl,km.nil _ _ _,by decide,by decide,by decide,i.1,i.2⟩
 obtain⟨q,u,C⟩:=qJ7 k Z;rw[q,u,C];rw[k]at p;rw[Z]at J;generalize kM D j7 0 ((j9 D j7).1:Nat)=r at*;generalize (j9 D j7).1=z at*;generalize r.2.2=D' at*;have HG:=qQ (fun W=>qJ4 r.1 W (by omega));generalize r.1=s at*;have O:=qQ p;have K2:=qQ J;clear p J ae hz k Z q u C h ok hc aa o N ab ac f ag er;go_enter func132,ntmps132;go_wp2_with fail;refine X5 O.out ?_;go_wp2_with fail;refine K2.out.mono ?_;rintro e w2⟨rfl,q1,H⟩;have a:=H.xW j.out.1 qC;have l:=qQ (qU q1 (qU H a));have ah:=qQ (HG.out w2);clear q1 H a HG;go_wp2_with fail;refine ah.out.mono ?_;rintro e w3⟨K,L,M,A,n,c,R,rfl,hm,hn,ak,af,am,ai,hL⟩;have a:=pX l.out.2.2 af;have P:=a.cell 0;have Q:=a.cell 1;have S:=a.cell 2;have T:=a.cell 3;have f0:=a.frozen 0;have f1:=a.frozen 1;have f2:=a.frozen 2;have f3:=a.frozen 3;simp only[List.getElem?_toArray]at P Q S T;have m:=qQ (qU hm (qU hn (qU ak (qU af (qU am (qU ai (qU hL a)))))));have aj:g<w2.1.size:=l.out.2.2.lt;have an:=qQ aj;unfold kD;clear hm hn ak af am ai hL a ah aj;go_wp2;have d:=pZ m.out.2.2.2.2.2.2.2 (.int .i64 K) (.int .i64 L) (.int .u64 (M:Nat)) (.slice A n c);have i:=Ja api j.out.2.2.1 j.out.2.2.2.1 l.out.1 (j.out.2.1.trans (l.out.2.1.less (fun b hb=>qF _ hb))) m.out.2.2.2.1 (.int .i64 K) (.int .i64 L) (.int .u64 (M:Nat)) (.slice A n c);have hH:=(vB.manSet m.out.2.2.1 an.out (.int .i64 K) (.int .i64 L) (.int .u64 (M:Nat)) (.slice A n c)).has;unfold bE at d i hH;obtain⟨G,ad⟩:∃G,G=(((w3.setCell ⟨g,0,none⟩ (.int .i64 K)).setCell ⟨g,1,none⟩ (.int .i64 L)).setCell ⟨g,2,none⟩ (.int .u64 (M:Nat))).setCell ⟨g,3,none⟩ (.slice A n c):=⟨_,rfl⟩
 rw[<-ad]at d i hH ⊢;have U:=d.cell 0;have V:=d.cell 1;have X:=d.cell 2;have Y:=d.cell 3;exact bodyPost_ret (v:=.tuple #[kD K L M (.slice A n c),.int .i64 (mgE s)]) (by simp[results,Tryz.results132,go_sem,U,V,X,Y];rfl) rfl ⟨K,L,M,A,n,c,R,rfl,m.out.1,m.out.2.1,hH,m.out.2.2.2.2.2.2.1,m.out.2.2.2.2.2.1,m.out.2.2.2.2.1,i.1,i.2⟩
end
theorem qJq{D:jL}{m:ji}(c:kF m)(h:(jh D j5).1≠0)(b:(jh D j5).1≠4):uW D m=jh D j5:=by
 unfold uW;rw[qZ (by simpa using c)];by_cases a:D.down=true
 ·rw[qV a];unfold jh;rw[qV a]
 ·rw[qZ a,qV ⟨h,b⟩]
theorem qJx{D:jL}{m:ji}(b:kF m)(h:(jh D j5).1=0∨(jh D j5).1=4):
  uW D m=if ((jh D j5).2.cap:Int)-(j4 (jh D j5).2.l:Nat)-((mfB m).size:Nat)<6000 then(60,(jh D j5).2) else bt (jh D j5).2 (mfB m):=by
 have a:¬D.down=true:=fun a=>by
  have e:jh D j5=(61,D):=by unfold jh;rw[qV a]
  rw[e]at h;simp at h
 unfold uW bt;rw[qZ (by simpa using b),qZ a,qZ (by omega)]
section
variable {At:j6}(api:j8 At){w0 w:World}{gd:Nat}{D:jL}{E:List Nat}
include api
theorem qJz(n c:Int)(d:Nat)(A:Option Addr)(k cp:Nat)(R:LvL)(h:DS At w0 gd D E w)(ok:WfP D)(O:dc w0 E w (.slice A k cp) R)(T:k=R.length)(U:R.flatten.length<=100000)(Q:R.length<=100000)(S:d<18446744073709551616):
  Calls prog 180 #[ptr gd,kD n c d (.slice A k cp)] w (yf At w0 gd (err (uW D ⟨n,c,d,R⟩).1) (uW D ⟨n,c,d,R⟩).2 E w):=by
 have P:=O.now h;have J:=(qG w.1.size w).alloc (qK _) (vq n c d (.slice A k cp));have m:=jN.new w 47 #[n,c,.int .u64 (d:Nat),.slice A k cp];have v:=h.box api (vq n c d (.slice A k cp));have H:=P.below J (qK _);have G:=jM.xA J h.lt;obtain⟨g,ad⟩:∃g,w.1.size=g:=⟨_,rfl⟩
 rw[ad]at m;obtain⟨r,af⟩:∃r,w.alloc (vq n c d (.slice A k cp))=r:=⟨_,rfl⟩
 rw[af]at m v H G;have K:=C7 api v ok;have q:=qQ (Cu n c d A k cp R r H T U Q S);have m0:r.cell? ⟨g,0,none⟩=some (.int .i64 n):=m.cell 0;have m1:r.cell? ⟨g,1,none⟩=some (.int .i64 c):=m.cell 1;have m2:r.cell? ⟨g,2,none⟩=some (.int .u64 (d:Nat)):=m.cell 2;have m3:r.cell? ⟨g,3,none⟩=some (.slice A k cp):=m.cell 3;unfold ny at q;unfold kD at q ⊢
 have ab:∃u:Nat,(if D.down=true then 61 else 0)=u/\((u:Int)==1)=false:=by
  cases D.down
  ·exact⟨0,rfl,rfl⟩
  ·exact⟨61,rfl,rfl⟩
 obtain⟨u,V,tu⟩:=ab;rw[V]at K;have M:=qQ K;have i:=qQ (qU v G);by_cases o:kF ⟨n,c,d,R⟩
 case neg =>
  obtain⟨z,B⟩:=Xw o;rw[z,B]at q;rw[Nm o];clear P J m v H G h ok O T U Q S o z B V K;go_enter func180,ntmps180;go_wp2_with fail;refine X5 M.out ?_;go_wp2_with fail;refine KG q.out fun w2 a=>?_;have j:=qQ (qU (i.out.1.below api a) (i.out.2.trans (jM.xA a i.out.1.lt)));clear a;go_wp2;go_ret;exact⟨rfl,j.out.1,j.out.2⟩
 obtain⟨z,B⟩:=ZQ o;rw[z,B]at q;have ag:=tT o;have o1:=dM ok j5;have k2:∀W,DS At w0 gd D E W->Calls prog 125 #[ptr gd,.string ⟨#[110,101,119]⟩] W (yf At w0 gd (err (jh D j5).1) (jh D j5).2 E W):=fun W I=>I.xE api (fun F hF=>api.delete j5 hF ok.ok (by decide))
 by_cases Z:(jh D j5).1≠0/\(jh D j5).1≠4
 ·rw[qJq o Z.1 Z.2];have t1:(((jh D j5).1:Int) != 0)=true:=by simp;omega
  have t2:(((jh D j5).1:Int) != 4)=true:=by simp;omega
  have N:=qQ k2;generalize jh D j5=X at*;generalize X.1=y at*;generalize mfB ⟨n,c,d,R⟩=s at*;clear P J m v H G h ok O T U Q S o z B V K k2 Z o1;go_enter func180,ntmps180;go_wp2_with fail;refine X5 M.out ?_;go_wp2_with fail;refine KG q.out fun w2 a=>?_;have j:=qQ (qU (i.out.1.below api a) (i.out.2.trans (jM.xA a i.out.1.lt)));clear a;go_wp2_with fail;refine(N.out _ j.out.1).mono ?_;rintro e w3⟨rfl,q1,q2⟩;have p:=qQ (qU q1 (j.out.2.trans q2));clear q1 q2;go_wp2;go_ret;exact⟨rfl,p.out.1,p.out.2⟩
 have aa:(jh D j5).1=0∨(jh D j5).1=4:=by omega
 have tz:((((jh D j5).1:Int) != 0)=false)∨((((jh D j5).1:Int) != 0)=true/\(((jh D j5).1:Int) != 4)=false):=by
  rcases aa with e|e
  ·exact qX (by rw[e];rfl)
  ·exact qY ⟨by rw[e];rfl,by rw[e];rfl⟩
 rw[qJx o aa];have L:=dM ok j5;have ac:=L.cap;have ae:=L.used;generalize jh D j5=X at*;generalize mfB ⟨n,c,d,R⟩=s at*;have k3:∀W,DS At w0 gd X.2 E W->Calls prog 177 #[ptr gd] W (yf At w0 gd (.int .i64 ((X.2.cap:Int)-(j4 X.2.l:Nat))) X.2 E W):=fun W I=>I.xE api (fun F hF=>api.free hF L.ok)
 have k4:∀W,DS At w0 gd X.2 E W->Calls prog 236 #[ptr gd,s] W (yf At w0 gd (err (bt X.2 s).1) (bt X.2 s).2 E W):=fun W I=>qZo api I L s (by omega)
 obtain⟨y,hy⟩:∃y:Int,(X.2.cap:Int)-(j4 X.2.l:Nat)=y:=⟨_,rfl⟩
 have y1:y<=1048576:=by omega
 have y2:0<=y:=by omega
 have q1:IntKind.i64.wrap (y-(s.size:Int))=y-(s.size:Int):=qz _ ⟨by omega,by omega⟩;rw[hy]at k3 ⊢;have N:=qQ k2;have K3:=qQ k3;have K4:=qQ k4;generalize bt X.2 s=Y at*;generalize X.2=D1 at*;generalize X.1=x at*;clear P J m v H G h ok O T U Q S o z B V K k2 Z o1 k3 k4 aa L ac ae hy;by_cases hr:y-(s.size:Int)<6000
 ·rw[qV hr];rcases tz with t|⟨t,t'⟩
  all_goals
   go_enter func180,ntmps180;go_wp2_with fail;refine X5 M.out ?_;go_wp2_with fail;refine KG q.out fun w2 a=>?_;have j:=qQ (qU (i.out.1.below api a) (i.out.2.trans (jM.xA a i.out.1.lt)));clear a;go_wp2_with fail;refine(N.out _ j.out.1).mono ?_;rintro e w3⟨rfl,b,f⟩;have p:=qQ (qU b (j.out.2.trans f));clear b f;go_wp2_with fail;refine(K3.out _ p.out.1).mono ?_;rintro e w4⟨rfl,b,f⟩;have C:=qQ (qU b (p.out.2.trans f));clear b f;go_wp2;go_ret;exact⟨rfl,C.out.1,C.out.2⟩
 ·rw[qZ hr];rcases tz with t|⟨t,t'⟩
  all_goals
   go_enter func180,ntmps180;go_wp2_with fail;refine X5 M.out ?_;go_wp2_with fail;refine KG q.out fun w2 a=>?_;have j:=qQ (qU (i.out.1.below api a) (i.out.2.trans (jM.xA a i.out.1.lt)));clear a;go_wp2_with fail;refine(N.out _ j.out.1).mono ?_;rintro e w3⟨rfl,b,f⟩;have p:=qQ (qU b (j.out.2.trans f));clear b f;go_wp2_with fail;refine(K3.out _ p.out.1).mono ?_;rintro e w4⟨rfl,b,f⟩;have C:=qQ (qU b (p.out.2.trans f));clear b f;go_wp2_with fail;refine(K4.out _ C.out.1).mono ?_;rintro e w5⟨rfl,b,f⟩;have H5:=qQ (qU b (C.out.2.trans f));clear b f;go_wp2;go_ret;exact⟨rfl,H5.out.1,H5.out.2⟩
end
section
variable {At:j6}(api:j8 At)(nap:kZ){w0 w:World}{gd:Nat}{D:jL}{E:List Nat}
include api nap
theorem qJj(n c:Int)(d:Nat)(A:Option Addr)(k cp:Nat)(R:LvL)(h:DS At w0 gd D E w)(ok:WfP D)(hH:dc w0 E w (.slice A k cp) R)(hl:R.flatten.length<=100000)(hL:R.length<=100000):
  Calls prog 135 #[ptr gd,kD n c d (.slice A k cp)] w (Ba At w0 gd D ⟨n,c,d,R⟩ E w):=by
 have aw:=hH.now h;have f:=(qG w.1.size w).alloc (qK _) (vq n c d (.slice A k cp));have V:=jN.new w 47 #[n,c,.int .u64 (d:Nat),.slice A k cp];have h0:=h.box api (vq n c d (.slice A k cp));have ad:=aw.below f (qK _);have K0:=jM.xA f h.lt;have aj:=h.names api;obtain⟨g,aO⟩:∃g,w.1.size=g:=⟨_,rfl⟩
 rw[aO]at V;obtain⟨Z,aP⟩:∃Z,w.alloc (vq n c d (.slice A k cp))=Z:=⟨_,rfl⟩
 rw[aP]at V h0 ad K0;have I:=qQ (nR _ R Z ad hl hL);unfold bN at I;have m3:Z.cell? ⟨g,3,none⟩=some (.slice A k cp):=V.cell 3;have Q:=qQ (qU h0 K0);have aM:=qQ ok;have ag:(D.l.map jO.name).length<=400:=by rw[qq];exact ok.many
 obtain⟨fl,Y⟩:∃fl,R.flatten=fl:=⟨_,rfl⟩
 have aF:=qQ Y;rw[Y]at I;have aG:=qQ (show fl.length<=100000 by rw[<-Y];exact hl);obtain⟨O,ah⟩:∃O,O=fl.length:=⟨_,rfl⟩
 have aQ:=qQ ah;rw[<-ah]at I;obtain⟨o,ae⟩:∃o,D.l.map jO.name=o:=⟨_,rfl⟩
 rw[ae]at aj ag;have ar:=qQ ae;have aL:=qQ aj;have aJ:=qQ ag;unfold kD;clear h ok hH aw f V h0 ad K0 aj ag Y ah ae hl hL;go_enter func135,ntmps135;go_wp2_with fail;refine I.out.mono ?_;rintro e w1⟨A3,c3,rfl,G,b1⟩;have ay:=Q.out.1.more api b1 (B:=jS (.slice A3 O c3)) (fun b f=>G.block b (ja.1 f));have aA:kN w1 (.slice A3 O c3) fl:=G.xH;have ao:=qQ (Q.out.2.trans (jM.xA b1 Q.out.1.lt));have aq:=qQ (qXD api ay aM.out);have an:=qQ aA;clear G ay aA b1 I m3;go_wp2_with fail;refine aq.out.mono ?_;rintro e P⟨v,B,rfl,hs,az,af,hB⟩;rw[ar.out]at hs;have aB:=af.ints an.out (fun b f=>qW _ f);have aI:=qQ (ao.out.trans (af.less (fun b f=>qJ _ f)));have am:=qQ az;have aH:=qQ aB;obtain⟨S,os,cs,rfl,ms,hc⟩:=hs.cell;unfold maxLen at ms
 have HC:=qQ (fun W' (aN:Below P.1.size P W') (i:Nat) (x:Tw) (H:o[i]? = some x)=>(by
  obtain⟨b,e1,W⟩:=hc i x H;exact⟨b,e1,(aN.cell (p:=⟨b,os+i,none⟩) (World.block_lt_of_cell? _ _ W)).trans W⟩:∃b,S=some ⟨b,os,none⟩/\W'.cell? ⟨b,os+i,none⟩=some (.string x)))
 obtain⟨N,X⟩:∃N,N=o.length:=⟨_,rfl⟩
 have HN:=qQ X;have aK:=qQ (show N<=400 by rw[X];exact aJ.out);rw[<-X]at ms ⊢;clear hs az af hB aB hc X aq an ao Q;go_wp2;go_loopg [6,15] N (fun g u i wr=>∃(j:Nat) (z:Option Addr) (r C:Nat),j+g=N/\i=.int .i64 j/\u=.slice z r C/\r=(gN (o.take j) ⟨n,c,d,R⟩).length/\vf wr P.1.size (.slice z r C) (gN (o.take j) ⟨n,c,d,R⟩)/\Below P.1.size P wr)
 case atStart=>exact⟨0,none,0,0,by omega,rfl,rfl,rfl,vf.nil _ _,qG _ _⟩
 case round =>
  obtain⟨j,z,r,C,aR,rfl,rfl,ai,G,ax⟩:=hrel;have K:=qQ ai;have T:=qQ G;have s:=qQ ax;have ap:=qQ (show r<=400 by rw[ai];exact qR (YI _ _) (by rw[qT];have:=aK.out;omega));clear G ax ai;by_cases aC:j<N
  case neg =>
   obtain rfl:j=N:=(by omega);have t2:decide ((j:Int)<(j:Int))=false:=qA (by omega);have a:o.take j=o:=(by rw[HN.out,List.take_length]);have HT:=qQ a;clear a;go_wp2;go_ret;have hr:=T.out;rw[HT.out]at hr;refine⟨.slice z r C,rfl, ?_, ?_, ?_⟩
   ·rw[ar.out];exact hr.xH
   ·exact(am.out.more api s.out (B:=jS (.slice z r C)) (fun b f=>hr.block b (ja.1 f))).less (fun b f=>(qD.1 f).elim (qW _) (fun f=>qJ _ (qJ _ (qJ _ f))))
   ·exact aI.out.trans (jM.xA s.out (fun b f=>am.out.lt b (qJ _ (qJ _ f))))
  have t2:decide ((j:Int)<(N:Int))=true:=qB (by omega);have aS:(j:Int)<(N:Int):=by omega
  obtain⟨x,H⟩:∃x,o[j]? = some x:=by
   rw[HN.out]at aC;exact⟨o[j],qE aC⟩
  have aE:=aL.out x (qN H);obtain⟨b,e1,W⟩:=HC.out wr s.out j x H;subst e1;have ak:=Np (m:=⟨n,c,d,R⟩) H;have aD:gM (⟨n,c,d,R⟩:ji).lv.flatten x=(decide (x=j5)||(vm x&&!decide (npK x=99)&&!decide ((npN x:Int)∈fl))):=by rw[<-aF.out];rfl
  rw[aD]at ak;have HO:=qQ (qJQ nap x (.slice A3 O c3) fl wr aE (aH.out.below s.out (qK _)) (by have:=aG.out;omega));have U:=qQ ak;clear H aE aD ak;generalize (vm x&&!decide (npK x=99)&&!decide ((npN x:Int)∈fl))=q at*;cases gk with
  | zero=>omega
  | succ gj =>
  by_cases F:x=j5
  ·have al:x.toList=[110,101,119]:=(by rw[Lib.toList_data,F];rfl);have tn:(x.toList==[110,101,119])=true:=(by rw[al];rfl);have a:=U.out;rw[qB F,Bool.true_or,qV rfl]at a;obtain⟨w5,u5,L,⟨A6,c6,rfl,y⟩,M⟩:=CV (x:=x) T.out K.out (by have:=ap.out;omega) s.out.size 55;rw[<-a]at y;have J:=qQ (show r+1=(gN (o.take (j+1)) ⟨n,c,d,R⟩).length by rw[a,qL,<-K.out];rfl);have ab:=qQ L;have t:=qQ y;have ac:=qQ (s.out.trans M);clear L y M a F U HO;go_wp2_with (first|(at_builtin;refine yC rfl _ _ rfl rfl rfl ab.out ?_)|fail);go_roundg gj
   case measure=>omega
   case rel=>exact⟨j+1,A6,r+1,c6,by omega,by go_num,by first|rfl|go_num,J.out,t.out,ac.out⟩
  have al:¬x.toList=[110,101,119]:=fun h=>F (by rw[Lib.toList_data]at h;exact qi (Array.toList_inj.1 h))
  have tn:(x.toList==[110,101,119])=false:=qg.2 al;have a:=U.out;rw[qA F,Bool.false_or]at a;have av:=qQ a;clear U a F;go_wp2_with fail;refine KG HO.out fun w3 b3=>?_;have au:=qQ (T.out.below b3 (qK _));have aa:=qQ (s.out.trans (b3.mono s.out.size));clear b3 T s W;cases q with
  | false =>
    have a:=av.out;rw[qZ (by simp),List.append_nil]at a;have t:=au.out;rw[<-a]at t;have J:=qQ (show r=(gN (o.take (j+1)) ⟨n,c,d,R⟩).length by rw[a];exact K.out);have t:=qQ t;clear a;go_wp2_with fail;go_roundg gj
    case measure=>omega
    case rel=>exact⟨j+1,z,r,C,by omega,by go_num,by first|rfl|go_num,J.out,t.out,aa.out⟩
  | true =>
    have a:=av.out;rw[qV rfl]at a;obtain⟨w5,u5,L,⟨A6,c6,rfl,y⟩,M⟩:=CV (x:=x) au.out K.out (by have:=ap.out;omega) aa.out.size 55;rw[<-a]at y;have J:=qQ (show r+1=(gN (o.take (j+1)) ⟨n,c,d,R⟩).length by rw[a,qL,<-K.out];rfl);have ab:=qQ L;have t:=qQ y;have ac:=qQ (aa.out.trans M);clear L y M a;go_wp2_with (first|(at_builtin;refine yC rfl _ _ rfl rfl rfl ab.out ?_)|fail);go_roundg gj
    case measure=>omega
    case rel=>exact⟨j+1,A6,r+1,c6,by omega,by go_num,by first|rfl|go_num,J.out,t.out,ac.out⟩
end
theorem qJk(D:jL)(x:Tw)(ns:List Tw):fw D (x::ns)=if (jh D x).1≠0 then jh D x else fw (jh D x).2 ns:=rfl
section
variable {At:j6}(api:j8 At)(nap:kZ){w0 w:World}{gd:Nat}{D:jL}{E:List Nat}
include api nap
theorem qJv(n c:Int)(d:Nat)(A:Option Addr)(k cp:Nat)(R:LvL)(h:DS At w0 gd D E w)(ok:WfP D)(T:dc w0 E w (.slice A k cp) R)(Z:R.flatten.length<=100000)(U:R.length<=100000):
  Calls prog 83 #[ptr gd,kD n c d (.slice A k cp)] w (yf At w0 gd (err (nX D ⟨n,c,d,R⟩).1) (nX D ⟨n,c,d,R⟩).2 E w):=by
 have a:=(qG w.1.size w).alloc (qK _) (vq n c d (.slice A k cp));have p:=jN.new w 47 #[n,c,.int .u64 (d:Nat),.slice A k cp];have q:=h.box api (vq n c d (.slice A k cp));have B:=jM.xA a h.lt;have aa:=h.names api;obtain⟨g,ar⟩:∃g,w.1.size=g:=⟨_,rfl⟩
 rw[ar]at p;obtain⟨r,av⟩:∃r,w.alloc (vq n c d (.slice A k cp))=r:=⟨_,rfl⟩
 rw[av]at p q B;have z:=qQ (C7 api q ok);have u:=qQ (qJj api nap n c d A k cp R q ok (T.step B) Z U);unfold Ba at u;unfold nX;have O:=qQ (qU q B);by_cases m:D.down=true
 ·rw[qV m];rw[qV m]at z;unfold kD;clear h ok T a p q B aa Z U u m;go_enter func83,ntmps83;go_wp2_with fail;refine X5 z.out ?_;go_wp2;go_ret;exact⟨rfl,O.out.1,O.out.2⟩
 rw[qZ m];rw[qZ m]at z;have aj:∀x∈gN (D.l.map jO.name) ⟨n,c,d,R⟩,x.size<=maxLen:=fun x f=>aa x (qo.1 f).1
 have ai:(gN (D.l.map jO.name) ⟨n,c,d,R⟩).length<=400:=qR (YI _ _) (by rw[qq];exact ok.many);generalize gN (D.l.map jO.name) ⟨n,c,d,R⟩=L at*;have m0:r.cell? ⟨g,0,none⟩=some (.int .i64 n):=p.cell 0;have m1:r.cell? ⟨g,1,none⟩=some (.int .i64 c):=p.cell 1;have m2:r.cell? ⟨g,2,none⟩=some (.int .u64 (d:Nat)):=p.cell 2;have m3:r.cell? ⟨g,3,none⟩=some (.slice A k cp):=p.cell 3;have am:=qQ aj;have al:=qQ ai;have ao:=qQ ok;unfold kD at u ⊢;clear h ok T a p q B aa Z U m aj ai;go_enter func83,ntmps83;go_wp2_with fail;refine X5 z.out ?_;go_wp2_with fail;refine u.out.mono ?_;rintro e w2⟨v,rfl,hs,ag,ah⟩;have ap:=qQ hs;have ad:=qQ ag;have ae:=qQ (O.out.2.trans ah);obtain⟨S,os,cs,rfl,ms,hc⟩:=hs.cell;unfold maxLen at ms
 have HC:=qQ (fun W' (K:jM (jS (.slice S L.length cs)++E) w2 W') (i:Nat) (x:Tw) (f:L[i]? = some x)=>(by
  obtain⟨b,P,e2⟩:=hc i x f;subst P;exact⟨b,rfl,(World.cell?_of_block (w:=w2) (K.block b (qW _ (ja.2 rfl)))).trans e2⟩:∃b,S=some ⟨b,os,none⟩/\W'.cell? ⟨b,os+i,none⟩=some (.string x)))
 obtain⟨N,V⟩:∃N,N=L.length:=⟨_,rfl⟩
 have HN:=qQ V;rw[<-V]at ms HC ad al ⊢;clear hs ag ah hc V u z ap m0 m1 m2 m3;go_wp2;go_loopg [18] N (fun g' i wr=>∃(j:Nat) (o:jL),j+g'=N/\i=.int .i64 j/\fw D L=fw o (L.drop j)/\WfP o/\DS At w0 gd o (jS (.slice S N cs)++E) wr/\jM (jS (.slice S N cs)++E) w2 wr)
 case atStart=>exact⟨0,D,by omega,rfl,rfl,ao.out,ad.out,jM.refl _ _⟩
 case round =>
  obtain⟨j,o,aw,rfl,he,ak,m,K⟩:=hrel;have HE:=qQ he;have HD:=qQ m;have I:=qQ K;have af:=qQ ak;clear he ak m K;by_cases au:j<N
  case neg =>
   obtain rfl:j=N:=(by omega);have t2:decide ((j:Int)<(j:Int))=false:=qA (by omega);have ht:L.drop j=[]:=(by rw[HN.out,List.drop_length]);have Q:=HE.out;rw[ht]at Q;have H1:=qQ Q;clear ht Q;go_wp2;go_ret;rw[H1.out];exact⟨rfl,HD.out.less (fun b a=>qJ _ a),ae.out.trans (I.out.less (fun b a=>qJ _ a))⟩
  have t2:decide ((j:Int)<(N:Int))=true:=qB (by omega);have ax:(j:Int)<(N:Int):=by omega
  have Y:j<L.length:=by rw[<-HN.out];exact au
  obtain⟨x,f⟩:∃x,L[j]? = some x:=⟨L[j],qE Y⟩
  have ab:=am.out x (qN f)
  have W:L.drop j=x::L.drop (j+1):=by
   rw[xZ Y];rw[qE Y]at f;rw[qb f]
  obtain⟨b,P,e2⟩:=HC.out wr I.out j x f;subst P;have hst:=HE.out;rw[W,qJk]at hst;have M:=qQ (HD.out.xE api (fun F hF=>api.delete x hF af.out.ok ab));have o1:=dM af.out x;cases gk with
  | zero=>omega
  | succ gj =>
  by_cases C:(jh o x).1=0
  ·rw[qZ (by simp[C])]at hst;rw[C]at M;have J:=qQ hst;have an:=qQ o1;clear f ab W hst o1 C;generalize (jh o x).2=ac at*;go_wp2_with fail;refine M.out.mono ?_;rintro e w3⟨rfl,G,H⟩;have s:=qQ (qU G (I.out.trans H));clear G H;go_wp2_with fail;go_roundg gj
   case measure=>omega
   case rel=>exact⟨j+1,ac,by omega,by go_num,J.out,an.out,s.out.1,s.out.2⟩
  ·rw[qV C]at hst;have t:(((jh o x).1:Int) != 0)=true:=(by simp;omega);have J:=qQ hst;clear f ab W hst o1 C;generalize jh o x=X at*;have aq:Hid (fw D L=(X.1,X.2)):=qQ J.out;clear J;generalize X.2=ac at*;generalize X.1=y at*;go_wp2_with fail;refine M.out.mono ?_;rintro e w3⟨rfl,G,H⟩;have s:=qQ (qU G (I.out.trans H));clear G H;go_wp2;go_ret;rw[aq.out];exact⟨rfl,s.out.1.less (fun b a=>qJ _ a),ae.out.trans (s.out.2.less (fun b a=>qJ _ a))⟩
theorem qJy: gq At where
 load:=fun h ok j=>qJ9 api h ok j
 swap:=fun n c d A k a R h ok b i g f l=>qJz api n c d A k a R h ok b i g f l
 clean:=fun n c d A k a R h ok b i g f=>qJv api nap n c d A k a R h ok b g f
end
end
section
theorem iap: gq bA:=qJy api OB
end
end Go.Proofs.YthejglbnkmimjaaGreat
