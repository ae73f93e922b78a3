import Derived.Test.YthejglbnkmimjaaGreatQp19
import Derived.Test.YthejglbnkmimjaaGreatQp16
set_option linter.unusedVariables false
set_option maxRecDepth 100000
set_option maxHeartbeats 9000000
namespace Go.Proofs.YthejglbnkmimjaaGreat
open Proofs.Tryz
section
open Go.RowKit Go.Shelf
theorem Q9(N:Nat)(w:World)(c:N<9223372036854775808):
  Calls prog 270 #[N] w (X3 (.string (bs (be 4 N))) w):=by
 have a:=qQ fun W=>bK N 4 W (by omega) (by omega) (by omega)
 have d:IntKind.u64.wrap ((N:Nat):Int)=(N:Nat):=IntWalk.u64_in _ ⟨by omega,by omega⟩;generalize bs (be 4 N)=R at*;go_enter func270,ntmps270;go_wp2_with fail;refine(a.out _).mono ?_;rintro e f⟨rfl,b⟩;go_wp2;go_ret;exact⟨rfl,b⟩
theorem Bo(N:Nat)(w:World)(c:N<9223372036854775808):
  Calls prog 272 #[N] w (X3 (.string (bs (be 1 N))) w):=by
 have a:=qQ fun W=>bK N 1 W (by omega) (by omega) (by omega)
 have d:IntKind.u64.wrap ((N:Nat):Int)=(N:Nat):=IntWalk.u64_in _ ⟨by omega,by omega⟩;generalize bs (be 1 N)=R at*;go_enter func272,ntmps272;go_wp2_with fail;refine(a.out _).mono ?_;rintro e f⟨rfl,b⟩;go_wp2;go_ret;exact⟨rfl,b⟩
theorem Wrt.drew{w1 W:World}{s:Tw}(h:Wrt w1 s W):Wrt w1 s W.drew:=⟨h.b.drew,h.o.drew⟩
def ou(w:World)(m:kJ)(e:Ending)(w':World):Prop:=e=.returned (.tuple #[.string (mfS m),.int .i64 (mfE m)])/\Below w.1.size w w'
theorem qZE(n c:Int)(d:Nat)(A:Option Addr)(k cp:Nat)(R:LvL)(w:World)(h:kh w (.slice A k cp) R)(m:R.flatten.length<=100000)(l:R.length<=100000)(f:¬vX ⟨n,c,d,R⟩):
  Calls prog 235 #[kc n c d (.slice A k cp)] w (ou w ⟨n,c,d,R⟩):=by
 have b:=(qU w.1.size w).alloc (qK _) (vr n c d (.slice A k cp));have o:=qQ b;have a:=JT n c d A k cp R _ (h.below b (qK _)) m l;rw[show fV ⟨n,c,d,R⟩=false from qA f]at a;have g:=qQ a;obtain⟨i,j⟩:=Vn f;unfold ou;rw[i,j];unfold kc at g ⊢;clear a h m l b f i j;go_enter func235,ntmps235;go_wp2_with fail;refine g.out.mono ?_;rintro e q⟨rfl,p⟩;go_wp2;go_ret2;exact⟨rfl,bj o.out p⟩
def cC(m:kJ)(T:LvL)(j:Nat):Tw:=bs (mh m++uY (T.take j))
def dm(m:kJ)(T:LvL)(j:Nat)(x:List Int)(k:Nat):Tw:=bs (mh m++uY (T.take j)++be 1 x.length++(x.take k).flatMap u4)
theorem qZF(m:kJ)(T:LvL):cC m T 0=bs (mh m):=by unfold cC;rw[List.take_zero];unfold uY;rw[List.flatMap_nil,List.append_nil]
theorem qZH(m:kJ)(T:LvL)(j:Nat)(x:List Int):cC m T j++bs (be 1 x.length)=dm m T j x 0:=by unfold cC dm;rw[cZ,List.take_zero,List.flatMap_nil,List.append_nil]
theorem qZI{m:kJ}{T:LvL}{j k:Nat}{x:List Int}{y:Int}(h:x[k]? = some y):dm m T j x k++bs (be 4 y.toNat)=dm m T j x (k+1):=by
 unfold dm;rw[cZ,qw,h,List.flatMap_append];simp only[List.append_assoc];congr 4
theorem qZL{m:kJ}{T:LvL}{j:Nat}{x:List Int}(h:T[j]? = some x):dm m T j x x.length=cC m T (j+1):=by
 unfold dm cC;rw[qw,h,List.take_length,Vr];show _=bs (mh m++(uY (T.take j)++uY [x]));rw[Mf];unfold lvB;simp only[List.append_assoc]
theorem qZM(m:kJ):cC m (kO m.lv) (kO m.lv).length=bs (pz m):=by unfold cC pz;rw[List.take_length]
theorem qZN(n c d t:Nat):bs mf++bs (be 4 n)++bs (be 4 c)++bs (be 8 d)++bs (be 1 t)=bs (mf++be 4 n++be 4 c++be 8 d++be 1 t):=by rw[cZ,cZ,cZ,cZ]
theorem Bw{T:LvL}{j:Nat}:(uY (T.take j)).length<=(uY T).length:=by
 conv=>rhs;rw[<-qe j T,Vr,qN]
 omega
theorem CQ{m:kJ}{T:LvL}{j:Nat}(h:(uY T).length<=200):(cC m T j).size<=221:=by
 have:=Bw (T:=T) (j:=j);unfold cC;rw[kK,qN,Xe];omega
theorem qZO{m:kJ}{T:LvL}{j k:Nat}{x:List Int}(h:(uY T).length<=200)(a:x.length<=40):(dm m T j x k).size<=400:=by
 have:=Bw (T:=T) (j:=j);unfold dm;rw[kK,qN,qN,qN,Xe,jn,Xt,qT];omega
theorem vX.bytes{m:kJ}(h:vX m):(uY (kO m.lv)).length<=200:=by
 obtain⟨a,b,-⟩:=h.zO;rw[Xa];omega
theorem qZP(n c:Nat)(d:Nat)(A:Option Addr)(k cp:Nat)(R:LvL)(w:World)(h:kh w (.slice A k cp) R)(hk:k=R.length)(q:vX ⟨(n:Nat),(c:Nat),d,R⟩)(hd:d<18446744073709551616):
  Calls prog 235 #[kc (n:Nat) (c:Nat) d (.slice A k cp)] w (ou w ⟨(n:Nat),(c:Nat),d,R⟩):=by
 have C:=(qU w.1.size w).alloc (qK _) (vr (n:Nat) (c:Nat) d (.slice A k cp));have HB:=qQ C;have h5:=q.2.2.2.2.1.1;have ax:=q.2.2.2.2.1.2.1;simp only at h5 ax;have HV:=JT (n:Nat) (c:Nat) d A k cp R _ (h.below C (qK _)) (by omega) (by omega);rw[show fV ⟨(n:Nat),(c:Nat),d,R⟩=true from qB q]at HV;have ai:=qQ HV;obtain⟨e1,e2⟩:=Vp q;obtain⟨A3,c3,HT⟩:=qQL A k cp R hk (by omega);have L:=qQ (fun W (I:Below w.1.size w W)=>HT W (h.below I (qK _)));have a9:n<=1000000:=by have:=q.2.1;simp only at this;omega
 have a6:c<=2147483647:=by have:=q.2.2.2.1;simp only at this;omega
 have S:=qQ q.bytes;obtain⟨t5,-,tl⟩:=q.zO;have au:=qQ tl;have U:=qQ (qZM ⟨(n:Nat),(c:Nat),d,R⟩);have ah:Hid (bs mf++bs (be 4 n)++bs (be 4 c)++bs (be 8 d)++bs (be 1 (kO R).length)=cC ⟨(n:Nat),(c:Nat),d,R⟩ (kO R) 0):=qQ (by rw[qZF,qZN];rfl);unfold ou;rw[e1,e2];unfold mfB;unfold kc at ai ⊢;unfold QM at L;simp only at S au U t5;clear HV h C q e1 e2 HT tl;generalize hT:kO R=T at*;clear hT;obtain⟨t,ht⟩:∃t,t=T.length:=⟨_,rfl⟩
 have av:=qQ ht;rw[<-ht]at L U ah t5;clear ht;have HZ:=qQ (show(cC ⟨(n:Nat),(c:Nat),d,R⟩ T t).size<=221 from CQ S.out);generalize hM:(⟨(n:Nat),(c:Nat),d,R⟩:kJ)=M at*;clear hM;have am:=qQ fun W=>Q9 n W (by omega)
 have an:=qQ fun W=>Q9 c W (by omega)
 have ao:Hid (∀W:World,Calls prog 142 #[.int .u64 (d:Nat),.int .i64 8] W fun e l=>e=.returned (.string (bs (be 8 d)))/\Below W.1.size W l):=qQ fun W=>bK d 8 W (by omega) (by omega) hd
 have ap:=qQ fun W=>Bo t W (by omega)
 have s0:(bs mf).size=4:=rfl;have s1:(bs (be 4 n)).size=4:=by rw[kK,jn]
 have s2:(bs (be 4 c)).size=4:=by rw[kK,jn]
 have s3:(bs (be 8 d)).size=8:=by rw[kK,jn]
 have s4:(bs (be 1 t)).size=1:=by rw[kK,jn]
 have eI:(⟨#[105,109,97,112]⟩:Tw)=bs mf:=rfl;generalize bs mf=s at*;generalize bs (be 4 n)=r at*;generalize bs (be 4 c)=B at*;generalize bs (be 8 d)=V at*;generalize bs (be 1 t)=X4 at*;have X:∀w:World,(Op.stringOp .add ⟨#[105,109,97,112]⟩ r).run prog w=.ok (.string (s++r)) w:=fun w=>by rw[eI];exact run_string_add_sum (P:=prog) (w:=w) _ _ (by omega)
 have z1:(s++r).size=8:=by rw[qx,s0,s1]
 have Y:∀w:World,(Op.stringOp .add (s++r) B).run prog w=.ok (.string (s++r++B)) w:=fun w=>run_string_add_sum (P:=prog) (w:=w) _ _ (by omega)
 have z2:(s++r++B).size=12:=by rw[qx,z1,s2]
 have Z:∀w:World,(Op.stringOp .add (s++r++B) V).run prog w=.ok (.string (s++r++B++V)) w:=fun w=>run_string_add_sum (P:=prog) (w:=w) _ _ (by omega)
 have z3:(s++r++B++V).size=20:=by rw[qx,z2,s3]
 generalize s++r++B++V=Y3 at*;generalize s++r++B=Y2 at*;generalize s++r=Y1 at*;have g0:(w.alloc (vr (n:Nat) (c:Nat) d (.slice A k cp))).cell? ⟨w.1.size,0,none⟩=some (.int .i64 (n:Nat)):=World.cell?_alloc_at _ _ _ _ rfl;have g1:(w.alloc (vr (n:Nat) (c:Nat) d (.slice A k cp))).cell? ⟨w.1.size,1,none⟩=some (.int .i64 (c:Nat)):=World.cell?_alloc_at _ _ _ _ rfl;have g2:(w.alloc (vr (n:Nat) (c:Nat) d (.slice A k cp))).cell? ⟨w.1.size,2,none⟩=some (.int .u64 (d:Nat)):=World.cell?_alloc_at _ _ _ _ rfl;have g3:(w.alloc (vr (n:Nat) (c:Nat) d (.slice A k cp))).cell? ⟨w.1.size,3,none⟩=some (.slice A k cp):=World.cell?_alloc_at _ _ _ _ rfl;have G:=qQ (qG g0 (qG g1 (qG g2 g3)));have Z3:=qQ z3;have S4:=qQ s4;have ak:=qQ (qG X (qG Y Z));clear g0 g1 g2 g3 eI s0 s1 s2 s3 s4 z1 z2 z3 X Y Z hk h5 ax;go_enter func235,ntmps235;go_wp2_with fail;refine ai.out.mono ?_;rintro e a⟨rfl,F⟩;rw[World.size_alloc]at F;obtain⟨q0,q1,q2,q3⟩:=G.out;have c0:=cj F (show w.1.size<w.1.size+1 by omega) q0;have c1:=cj F (show w.1.size<w.1.size+1 by omega) q1;have c2:=cj F (show w.1.size<w.1.size+1 by omega) q2;have aa:=cj F (show w.1.size<w.1.size+1 by omega) q3;have aY:=F.size;rw[World.size_alloc]at aY;have aD:Below w.1.size w a:=HB.out.trans (F.mono (by simp));have ab:w.1.size<a.1.size:=by omega
 have ad:=qQ aD;clear F q0 q1 q2 q3 G ai HB
 have J:Hid (∀W,Below a.1.size a W->Below a.1.size a W/\W.cell? ⟨w.1.size,0,none⟩=some (.int .i64 (n:Nat))/\W.cell? ⟨w.1.size,1,none⟩=some (.int .i64 (c:Nat))/\W.cell? ⟨w.1.size,2,none⟩=some (.int .u64 (d:Nat))/\W.cell? ⟨w.1.size,3,none⟩=some (.slice A k cp)) :=
  qQ fun W I=>⟨I,cj I ab c0,cj I ab c1,cj I ab c2,cj I ab aa⟩
 have K1:=qQ fun W (hh:Below a.1.size a W/\W.cell? ⟨w.1.size,0,none⟩=some (.int .i64 (n:Nat))/\W.cell? ⟨w.1.size,1,none⟩=some (.int .i64 (c:Nat))/\W.cell? ⟨w.1.size,2,none⟩=some (.int .u64 (d:Nat))/\W.cell? ⟨w.1.size,3,none⟩=some (.slice A k cp)) (f:Wrt a ByteArray.empty W)=>(am.out W).mono fun e l p=>(⟨p.1,J.out l (f.below p.2).o,f.below p.2⟩:e=_/\_/\Wrt a ByteArray.empty l)
 have K2:=qQ fun W (hh:Below a.1.size a W/\W.cell? ⟨w.1.size,0,none⟩=some (.int .i64 (n:Nat))/\W.cell? ⟨w.1.size,1,none⟩=some (.int .i64 (c:Nat))/\W.cell? ⟨w.1.size,2,none⟩=some (.int .u64 (d:Nat))/\W.cell? ⟨w.1.size,3,none⟩=some (.slice A k cp)) (f:Wrt a ByteArray.empty W)=>(an.out W).mono fun e l p=>(⟨p.1,J.out l (f.below p.2).o,f.below p.2⟩:e=_/\_/\Wrt a ByteArray.empty l)
 have K3:=qQ fun W (hh:Below a.1.size a W/\W.cell? ⟨w.1.size,0,none⟩=some (.int .i64 (n:Nat))/\W.cell? ⟨w.1.size,1,none⟩=some (.int .i64 (c:Nat))/\W.cell? ⟨w.1.size,2,none⟩=some (.int .u64 (d:Nat))/\W.cell? ⟨w.1.size,3,none⟩=some (.slice A k cp)) (f:Wrt a ByteArray.empty W)=>(ao.out W).mono fun e l p=>(⟨p.1,J.out l (f.below p.2).o,f.below p.2⟩:e=_/\_/\Wrt a ByteArray.empty l)
 have K4:=qQ fun W (hh:Below a.1.size a W/\W.cell? ⟨w.1.size,0,none⟩=some (.int .i64 (n:Nat))/\W.cell? ⟨w.1.size,1,none⟩=some (.int .i64 (c:Nat))/\W.cell? ⟨w.1.size,2,none⟩=some (.int .u64 (d:Nat))/\W.cell? ⟨w.1.size,3,none⟩=some (.slice A k cp)) (f:Wrt a ByteArray.empty W)=>(f.write Y3 (by rw[Z3.out];decide)).mono fun e l p=>(⟨p.1,J.out l p.2.o,by have h2:=p.2;rw[ByteArray.empty_append]at h2;exact h2⟩:e=_/\_/\Wrt a Y3 l)
 have aG:=(Wrt.fresh a).drew;have aX:=J.out _ aG.o;clear c0 c1 c2 aa am an ao aD;obtain⟨X,Y,Z⟩:=ak.out;go_upto_region 4 with fail
 go_region_held3 (fun W=>Below a.1.size a W/\W.cell? ⟨w.1.size,0,none⟩=some (.int .i64 (n:Nat))/\W.cell? ⟨w.1.size,1,none⟩=some (.int .i64 (c:Nat))/\W.cell? ⟨w.1.size,2,none⟩=some (.int .u64 (d:Nat))/\W.cell? ⟨w.1.size,3,none⟩=some (.slice A k cp))
  (first|(with_reducible assumption)|fail)
  (first
  | (go_at_call 270;((with_reducible refine(K1.out _ (by with_reducible assumption) (by with_reducible assumption)).mono ?_);rintro e l⟨rfl,C,f⟩))
  | (go_at_call 270;((with_reducible refine(K2.out _ (by with_reducible assumption) (by with_reducible assumption)).mono ?_);rintro e l⟨rfl,C,f⟩))
  | (go_at_call 142;((with_reducible refine(K3.out _ (by with_reducible assumption) (by with_reducible assumption)).mono ?_);rintro e l⟨rfl,C,f⟩))
  | (go_at_call 140;((with_reducible refine(K4.out _ (by with_reducible assumption) (by with_reducible assumption)).mono ?_);rintro e l⟨rfl,C,f⟩))
  | fail)
 have HX:=qQ f;obtain⟨-,-,-,-,aa⟩:=C;have ar:=qQ (L.out l (bj ad.out f.o)).1;have aU:=(L.out a ad.out).2.form;obtain⟨A9,off,a4,ev,-,hc⟩:=aU;rw[<-av.out]at ev;obtain⟨rfl,-,rfl⟩:=Value.slice.inj ev;have HC:=qQ hc;have z4:=S4.out;have z3:=Z3.out;have HQ:=qQ fun W=>nh (bs (pz M)) W (by have:=HZ.out;rw[U.out]at this;unfold maxLen;omega)
 have Z0:=qQ (show Y3.size+X4.size<=1000000 by omega);have a5:=fun(x:Int) (h0:0<=x) (h1:x<4294967296) W=>Q9 x.toNat W (by omega)
 clear K1 K2 K3 K4 aX aG f L ev hc z3 z4 X Y Z ak Z3 S4 J;go_wp2_with fail;refine ar.out.mono ?_;rintro e w'⟨rfl,rfl⟩;go_wp2_with fail;refine KG (ap.out _) fun w6 aA=>?_;have v:=qQ ((HX.out.below aA).write X4 Z0.out);clear aA;go_wp2_with fail;refine KG v.out fun w7 W7=>?_;rw[ah.out]at W7;clear v ar ah ap Z0 aa HX;go_wp2;go_loopg [35] t (fun g i wr=>∃j:Nat,j+g=t/\i=.int .i64 j/\Wrt a (cC M T j) wr)
 case atStart=>exact⟨0,by omega,rfl,W7⟩
 case round =>
  obtain⟨j,a7,rfl,W8⟩:=hrel;clear W7;have Q:=qQ W8;clear W8;obtain⟨wo,rfl⟩:∃wo,wo=wr:=⟨_,rfl⟩
  cases gk with
  | zero =>
    obtain rfl:j=t:=(by omega);have l1:¬(j:Int)<(j:Int):=(by omega);have H:=Q.out;rw[U.out]at H;have v:=qQ H.told;clear H Q;go_wp2_with fail;refine KG v.out fun w8 O=>?_;have aJ:=qQ O;clear O;go_wp2_with fail;refine KG (HQ.out _) fun w9 aB=>?_;have aK:=qQ aB;clear aB;go_wp2;go_ret2;exact⟨rfl,bj ad.out (bj aJ.out aK.out)⟩
  | succ gi =>
    have aV:j<t:=(by omega);have l1:(j:Int)<(t:Int):=(by omega);obtain⟨x,f⟩:∃x,T[j]? = some x:=⟨_,qD (by rw[<-av.out];exact aV)⟩
    obtain⟨b,u,rfl,aC,cu,aF⟩:=HC.out j x f;have aR:=cj Q.out.o aC cu;obtain⟨A4,o4,c4,rfl,-,aE⟩:=aF.form;obtain⟨aI,xb⟩:=au.out x (qM f);have aO:=qQ xb;have a0:=qQ f;have aL:=qQ aE;have ae:=qQ (qZH M T j x);have al:=qQ (qZL (m:=M) f);have aN:=qQ (fun k=>qZO (m:=M) (T:=T) (j:=j) (k:=k) S.out aI);have ag:=qQ (fun W=>Bo x.length W (by omega));have aH:(bs (be 1 x.length)).size=1:=(by rw[kK,jn]);obtain⟨m,q⟩:∃m,m=x.length:=⟨_,rfl⟩
    have HM:=qQ q;rw[<-q]at ae al ag aR aI aH;generalize aT:bs (be 1 m)=B1 at*;have aP:=qQ (show(cC M T j).size+B1.size<=1000000 by have:=CQ (m:=M) (j:=j) S.out;omega);clear aT f aC cu aF aE xb q aH;go_wp2_with fail;refine KG (ag.out _) fun w8 O=>?_;have v:=qQ ((Q.out.below O).write B1 aP.out);clear O;go_wp2_with fail;refine KG v.out fun w9 H=>?_;rw[ae.out]at H;clear v ag ae;go_wp2;go_loopg [45] m (fun g i wx=>∃k:Nat,k+g=m/\i=.int .i64 k/\Wrt a (dm M T j x k) wx)
    case atStart=>exact⟨0,by omega,rfl,H⟩
    case round =>
     obtain⟨z,a8,rfl,aw⟩:=hrel;have ac:=qQ aw;clear aw H;cases gk with
     | zero =>
       obtain rfl:z=m:=(by omega);have l2:¬(z:Int)<(z:Int):=(by omega);have K:=ac.out;rw[al.out]at K;have aM:=qQ K;clear K;go_wp2;go_roundg gi
       case measure=>omega
       case rel=>exact⟨j+1,by omega,by go_num,aM.out⟩
     | succ gj =>
       have aW:z<m:=(by omega);have l2:(z:Int)<(m:Int):=(by omega);obtain⟨y,hy⟩:∃y,x[z]? = some y:=⟨_,qD (by rw[<-HM.out];exact aW)⟩
       obtain⟨b2,rfl,az,cy⟩:=aL.out z y hy;obtain⟨y0,y1⟩:=aO.out y (qM hy);have aS:=cj ac.out.o az cy;have af:=qQ (qZI (m:=M) (T:=T) (j:=j) hy);obtain⟨N,rfl⟩:∃N:Nat,y=(N:Int):=⟨y.toNat,by omega⟩
       have aq:=qQ (fun W=>Q9 N W (by omega));rw[qm]at af;have aZ:(bs (be 4 N)).size=4:=(by rw[kK,jn]);generalize bs (be 4 N)=B4 at*;have aQ:=qQ (show(dm M T j x z).size+B4.size<=1000000 by have:=aN.out z;omega);clear hy az cy aZ y0 y1;go_wp2_with fail;refine(aq.out _).mono ?_;rintro e a_⟨rfl,ay⟩;have v:=qQ ((ac.out.below ay).write B4 aQ.out);clear ay aS;go_wp2_with fail;refine v.out.mono ?_;rintro e ba⟨rfl,aj⟩;rw[af.out]at aj;have K:=qQ aj;clear v aq af aj;go_wp2;go_roundg gj
       case measure=>omega
       case rel=>exact⟨z+1,by omega,by go_num,K.out⟩
theorem qZR(n c:Int)(d:Nat)(A:Option Addr)(k cp:Nat)(R:LvL)(w:World)(h:kh w (.slice A k cp) R)(g:k=R.length)(i:R.flatten.length<=100000)(b:R.length<=100000)(f:d<18446744073709551616):
  Calls prog 235 #[kc n c d (.slice A k cp)] w (ou w ⟨n,c,d,R⟩):=by
 by_cases a:vX ⟨n,c,d,R⟩
 ·obtain⟨N,rfl⟩:∃N:Nat,n=(N:Int):=⟨n.toNat,by have:=a.1;simp only at this;omega⟩
  obtain⟨C,rfl⟩:∃C:Nat,c=(C:Int):=⟨c.toNat,by have:=a.2.2.1;simp only at this;omega⟩
  exact qZP N C d A k cp R w h g a f
 ·exact qZE n c d A k cp R w h i b a
theorem vw.xF{w:World}{base b i:Nat}{v:Value}{R:LvL}(h:vw w base v R)(g:b<base)(u:Value):vw (w.setCell ⟨b,i,none⟩ u) base v R:=by
 obtain⟨M,a,c,f⟩:=h;exact⟨M,vu a (fun e=>by have:=js.block a b e;omega) u,fun x d=>vu (c x d) (fun e=>by have:=(jd.block (c x d) b e).1;omega) u,f⟩
def dD(w:World)(g:Nat)(a b c d:Value):World:=(((w.setCell ⟨g,0,none⟩ a).setCell ⟨g,1,none⟩ b).setCell ⟨g,2,none⟩ c).setCell ⟨g,3,none⟩ d
theorem J5{B:Nat}{w W:World}{g:Nat}(h:Below B w W)(f:B<=g)(a b c d:Value):Below B w (dD W g a b c d):=(((h.setCell (p:=⟨g,0,none⟩) f a).setCell (p:=⟨g,1,none⟩) f b).setCell (p:=⟨g,2,none⟩) f c).setCell (p:=⟨g,3,none⟩) f d
theorem qZS{W:World}{g:Nat}{t:TypeId}{f i j k:Value}(h:jF W g t #[f,i,j,k])(a b c d:Value):jF (dD W g a b c d) g t #[a,b,c,d]:=(((h.put 0 a).put 1 b).put 2 c).put 3 d
theorem vw.manSet{W:World}{base g:Nat}{v:Value}{R:LvL}(h:vw W base v R)(f:g<base)(a b c d:Value):vw (dD W g a b c d) base v R:=(((h.xF f a).xF f b).xF f c).xF f d
end
section
open Go.RowKit Go.Shelf
theorem qZT(w:World)(g:Nat)(a b c d:Value):jH [g] w (dD w g a b c d) :=
 ((((jH.refl [g] w).setCell (p:=⟨g,0,none⟩) (qX qC) a).setCell (p:=⟨g,1,none⟩) (qX qC) b).setCell (p:=⟨g,2,none⟩) (qX qC) c).setCell (p:=⟨g,3,none⟩) (qX qC) d
abbrev mzO: Obj:=.cells #[.int .i64 0,.int .i64 0,.int .u64 0,.slice none 0 0] 47
section
variable {At:jR}(api:jS At){w0 w:World}{gd:Nat}{D:jD}{E:List Nat}
include api
theorem qZ0{w1 w2:World}{g:Nat}{D':jD}(m:∀b∈E,b<g)(n:w0.1.size<=g)(h:DS At w0 gd D' (g::E) w1)(o:jE E w w1)(i:Below w1.1.size w1 w2)(a b c d:Value):
  DS At w0 gd D' E (dD w2 g a b c d)/\jE E w (dD w2 g a b c d):=by
 have j:=h.below api i;have k:=qZT w2 g a b c d;have l:=j.zK api k (fun x f=>by rw[qH.1 f];exact⟨qC,n⟩);refine⟨l.less (fun x f=>qF _ f),(o.trans (jE.xA i (fun b i=>h.lt b (qF _ i)))).trans (jE.xP k fun x f=>⟨j.lt x (qF _ f),fun p=>?_⟩)⟩;have:=m x f;rw[qH.1 p]at this;exact Nat.lt_irrefl _ this
end
theorem qZ1{D:jD}{m:kJ}(c:vX m)(h:(jg D jO).1≠0)(b:(jg D jO).1≠4):uU D m=jg D jO:=by
 unfold uU;rw[qZ (by simpa using c)];by_cases a:D.down=true
 ·rw[qV a];unfold jg;rw[qV a]
 ·rw[qZ a,qV ⟨h,b⟩]
theorem qZ2{D:jD}{m:kJ}(b:vX m)(h:(jg D jO).1=0∨(jg D jO).1=4):
  uU D m=if ((jg D jO).2.cap:Int)-(jM (jg D jO).2.l:Nat)-((mfB m).size:Nat)<6000 then(60,(jg D jO).2) else bl (jg D jO).2 (mfB m):=by
 have a:¬D.down=true:=fun a=>by
  have e:jg D jO=(61,D):=by unfold jg;rw[qV a]
  rw[e]at h;simp at h
 unfold uU bl;rw[qZ (by simpa using b),qZ a,qZ (by omega)]
section
variable {At:jR}(api:jS At){w0 w:World}{gd:Nat}{D:jD}{E:List Nat}
include api
theorem qZ3(n c:Int)(d:Nat)(A:Option Addr)(k cp:Nat)(R:LvL)(h:DS At w0 gd D E w)(ok:WfP D)(O:df w0 E w (.slice A k cp) R)(T:k=R.length)(U:R.flatten.length<=100000)(Q:R.length<=100000)(S:d<18446744073709551616):
  Calls prog 180 #[ptr gd,kc n c d (.slice A k cp)] w (y9 At w0 gd (err (uU D ⟨n,c,d,R⟩).1) (uU D ⟨n,c,d,R⟩).2 E w):=by
 have P:=O.now h;have J:=(qU w.1.size w).alloc (qK _) (vr n c d (.slice A k cp));have m:=jF.new w 47 #[n,c,.int .u64 (d:Nat),.slice A k cp];have v:=h.box api (vr n c d (.slice A k cp));have H:=P.below J (qK _);have G:=jE.xA J h.lt;obtain⟨g,ad⟩:∃g,w.1.size=g:=⟨_,rfl⟩
 rw[ad]at m;obtain⟨r,af⟩:∃r,w.alloc (vr n c d (.slice A k cp))=r:=⟨_,rfl⟩
 rw[af]at m v H G;have K:=Be api v ok;have q:=qQ (qZR n c d A k cp R r H T U Q S);have m0:r.cell? ⟨g,0,none⟩=some (.int .i64 n):=m.cell 0;have m1:r.cell? ⟨g,1,none⟩=some (.int .i64 c):=m.cell 1;have m2:r.cell? ⟨g,2,none⟩=some (.int .u64 (d:Nat)):=m.cell 2;have m3:r.cell? ⟨g,3,none⟩=some (.slice A k cp):=m.cell 3;unfold ou at q;unfold kc at q ⊢
 have ab:∃u:Nat,(if D.down=true then 61 else 0)=u/\((u:Int)==1)=false:=by
  cases D.down
  ·exact⟨0,rfl,rfl⟩
  ·exact⟨61,rfl,rfl⟩
 obtain⟨u,V,tu⟩:=ab;rw[V]at K;have M:=qQ K;have i:=qQ (qG v G);by_cases o:vX ⟨n,c,d,R⟩
 case neg =>
  obtain⟨z,B⟩:=Vn o;rw[z,B]at q;rw[Mr o];clear P J m v H G h ok O T U Q S o z B V K;go_enter func180,ntmps180;go_wp2_with fail;refine X5 M.out ?_;go_wp2_with fail;refine KG q.out fun w2 a=>?_;have j:=qQ (qG (i.out.1.below api a) (i.out.2.trans (jE.xA a i.out.1.lt)));clear a;go_wp2;go_ret;exact⟨rfl,j.out.1,j.out.2⟩
 obtain⟨z,B⟩:=Vp o;rw[z,B]at q;have ag:=tK o;have o1:=dO ok jO;have k2:∀W,DS At w0 gd D E W->Calls prog 125 #[ptr gd,.string ⟨#[110,101,119]⟩] W (y9 At w0 gd (err (jg D jO).1) (jg D jO).2 E W):=fun W I=>I.xD api (fun F hF=>api.delete jO hF ok.ok (by decide))
 by_cases Z:(jg D jO).1≠0/\(jg D jO).1≠4
 ·rw[qZ1 o Z.1 Z.2];have t1:(((jg D jO).1:Int) != 0)=true:=by simp;omega
  have t2:(((jg D jO).1:Int) != 4)=true:=by simp;omega
  have N:=qQ k2;generalize jg D jO=X at*;generalize X.1=y at*;generalize mfB ⟨n,c,d,R⟩=s at*;clear P J m v H G h ok O T U Q S o z B V K k2 Z o1;go_enter func180,ntmps180;go_wp2_with fail;refine X5 M.out ?_;go_wp2_with fail;refine KG q.out fun w2 a=>?_;have j:=qQ (qG (i.out.1.below api a) (i.out.2.trans (jE.xA a i.out.1.lt)));clear a;go_wp2_with fail;refine(N.out _ j.out.1).mono ?_;rintro e w3⟨rfl,q1,q2⟩;have p:=qQ (qG q1 (j.out.2.trans q2));clear q1 q2;go_wp2;go_ret;exact⟨rfl,p.out.1,p.out.2⟩
 have aa:(jg D jO).1=0∨(jg D jO).1=4:=by omega
 have tz:((((jg D jO).1:Int) != 0)=false)∨((((jg D jO).1:Int) != 0)=true/\(((jg D jO).1:Int) != 4)=false):=by
  rcases aa with e|e
  ·exact qX (by rw[e];rfl)
  ·exact qY ⟨by rw[e];rfl,by rw[e];rfl⟩
 rw[qZ2 o aa];have L:=dO ok jO;have ac:=L.cap;have ae:=L.used;generalize jg D jO=X at*;generalize mfB ⟨n,c,d,R⟩=s at*;have k3:∀W,DS At w0 gd X.2 E W->Calls prog 177 #[ptr gd] W (y9 At w0 gd (.int .i64 ((X.2.cap:Int)-(jM X.2.l:Nat))) X.2 E W):=fun W I=>I.xD api (fun F hF=>api.free hF L.ok)
 have k4:∀W,DS At w0 gd X.2 E W->Calls prog 236 #[ptr gd,s] W (y9 At w0 gd (err (bl X.2 s).1) (bl X.2 s).2 E W):=fun W I=>qZV api I L s (by omega)
 obtain⟨y,hy⟩:∃y:Int,(X.2.cap:Int)-(jM X.2.l:Nat)=y:=⟨_,rfl⟩
 have y1:y<=1048576:=by omega
 have y2:0<=y:=by omega
 have q1:IntKind.i64.wrap (y-(s.size:Int))=y-(s.size:Int):=qy _ ⟨by omega,by omega⟩;rw[hy]at k3 ⊢;have N:=qQ k2;have K3:=qQ k3;have K4:=qQ k4;generalize bl X.2 s=Y at*;generalize X.2=D1 at*;generalize X.1=x at*;clear P J m v H G h ok O T U Q S o z B V K k2 Z o1 k3 k4 aa L ac ae hy;by_cases hr:y-(s.size:Int)<6000
 ·rw[qV hr];rcases tz with t|⟨t,t'⟩
  all_goals
   go_enter func180,ntmps180;go_wp2_with fail;refine X5 M.out ?_;go_wp2_with fail;refine KG q.out fun w2 a=>?_;have j:=qQ (qG (i.out.1.below api a) (i.out.2.trans (jE.xA a i.out.1.lt)));clear a;go_wp2_with fail;refine(N.out _ j.out.1).mono ?_;rintro e w3⟨rfl,b,f⟩;have p:=qQ (qG b (j.out.2.trans f));clear b f;go_wp2_with fail;refine(K3.out _ p.out.1).mono ?_;rintro e w4⟨rfl,b,f⟩;have C:=qQ (qG b (p.out.2.trans f));clear b f;go_wp2;go_ret;exact⟨rfl,C.out.1,C.out.2⟩
 ·rw[qZ hr];rcases tz with t|⟨t,t'⟩
  all_goals
   go_enter func180,ntmps180;go_wp2_with fail;refine X5 M.out ?_;go_wp2_with fail;refine KG q.out fun w2 a=>?_;have j:=qQ (qG (i.out.1.below api a) (i.out.2.trans (jE.xA a i.out.1.lt)));clear a;go_wp2_with fail;refine(N.out _ j.out.1).mono ?_;rintro e w3⟨rfl,b,f⟩;have p:=qQ (qG b (j.out.2.trans f));clear b f;go_wp2_with fail;refine(K3.out _ p.out.1).mono ?_;rintro e w4⟨rfl,b,f⟩;have C:=qQ (qG b (p.out.2.trans f));clear b f;go_wp2_with fail;refine(K4.out _ C.out.1).mono ?_;rintro e w5⟨rfl,b,f⟩;have H5:=qQ (qG b (C.out.2.trans f));clear b f;go_wp2;go_ret;exact⟨rfl,H5.out.1,H5.out.2⟩
end
section
variable {At:jR}(api:jS At)(nap:jw){w0 w:World}{gd:Nat}{D:jD}{E:List Nat}
include api nap
theorem qZ4(n c:Int)(d:Nat)(A:Option Addr)(k cp:Nat)(R:LvL)(h:DS At w0 gd D E w)(ok:WfP D)(hH:df w0 E w (.slice A k cp) R)(hl:R.flatten.length<=100000)(hL:R.length<=100000):
  Calls prog 135 #[ptr gd,kc n c d (.slice A k cp)] w (BJ At w0 gd D ⟨n,c,d,R⟩ E w):=by
 have aw:=hH.now h;have f:=(qU w.1.size w).alloc (qK _) (vr n c d (.slice A k cp));have W:=jF.new w 47 #[n,c,.int .u64 (d:Nat),.slice A k cp];have h0:=h.box api (vr n c d (.slice A k cp));have ad:=aw.below f (qK _);have K0:=jE.xA f h.lt;have aj:=h.names api;obtain⟨g,aO⟩:∃g,w.1.size=g:=⟨_,rfl⟩
 rw[aO]at W;obtain⟨wa,aP⟩:∃wa,w.alloc (vr n c d (.slice A k cp))=wa:=⟨_,rfl⟩
 rw[aP]at W h0 ad K0;have J:=qQ (mY _ R wa ad hl hL);unfold bQ at J;have m3:wa.cell? ⟨g,3,none⟩=some (.slice A k cp):=W.cell 3;have T:=qQ (qG h0 K0);have aM:=qQ ok;have ag:(D.l.map jI.name).length<=400:=by rw[qz];exact ok.many
 obtain⟨y,Z⟩:∃y,R.flatten=y:=⟨_,rfl⟩
 have aF:=qQ Z;rw[Z]at J;have aG:=qQ (show y.length<=100000 by rw[<-Z];exact hl);obtain⟨P,ah⟩:∃P,P=y.length:=⟨_,rfl⟩
 have aQ:=qQ ah;rw[<-ah]at J;obtain⟨o,ae⟩:∃o,D.l.map jI.name=o:=⟨_,rfl⟩
 rw[ae]at aj ag;have ar:=qQ ae;have aL:=qQ aj;have aJ:=qQ ag;unfold kc;clear h ok hH aw f W h0 ad K0 aj ag Z ah ae hl hL;go_enter func135,ntmps135;go_wp2_with fail;refine J.out.mono ?_;rintro e w1⟨A3,c3,rfl,H,b1⟩;have ay:=T.out.1.more api b1 (B:=jL (.slice A3 P c3)) (fun b f=>H.block b (jt.1 f));have aA:kF w1 (.slice A3 P c3) y:=H.xE;have ao:=qQ (T.out.2.trans (jE.xA b1 T.out.1.lt));have aq:=qQ (qQC api ay aM.out);have an:=qQ aA;clear H ay aA b1 J m3;go_wp2_with fail;refine aq.out.mono ?_;rintro e Q⟨v,B,rfl,hs,az,af,hB⟩;rw[ar.out]at hs;have aB:=af.ints an.out (fun b f=>qW _ f);have aI:=qQ (ao.out.trans (af.less (fun b f=>qJ _ f)));have am:=qQ az;have aH:=qQ aB;obtain⟨S,os,cs,rfl,ms,hc⟩:=hs.cell;unfold maxLen at ms
 have HC:=qQ (fun W' (aN:Below Q.1.size Q W') (i:Nat) (x:Tw) (I:o[i]? = some x)=>(by
  obtain⟨b,e1,X⟩:=hc i x I;exact⟨b,e1,(aN.cell (p:=⟨b,os+i,none⟩) (World.block_lt_of_cell? _ _ X)).trans X⟩:∃b,S=some ⟨b,os,none⟩/\W'.cell? ⟨b,os+i,none⟩=some (.string x)))
 obtain⟨N,Y⟩:∃N,N=o.length:=⟨_,rfl⟩
 have HN:=qQ Y;have aK:=qQ (show N<=400 by rw[Y];exact aJ.out);rw[<-Y]at ms ⊢;clear hs az af hB aB hc Y aq an ao T;go_wp2;go_loopg [6,15] N (fun g u i wr=>∃(j:Nat) (C:Option Addr) (r F:Nat),j+g=N/\i=.int .i64 j/\u=.slice C r F/\r=(gq (o.take j) ⟨n,c,d,R⟩).length/\gD wr Q.1.size (.slice C r F) (gq (o.take j) ⟨n,c,d,R⟩)/\Below Q.1.size Q wr)
 case atStart=>exact⟨0,none,0,0,by omega,rfl,rfl,rfl,gD.nil _ _,qU _ _⟩
 case round =>
  obtain⟨j,C,r,F,aR,rfl,rfl,ai,H,ax⟩:=hrel;have L:=qQ ai;have U:=qQ H;have s:=qQ ax;have ap:=qQ (show r<=400 by rw[ai];exact qR (YV _ _) (by rw[qT];have:=aK.out;omega));clear H ax ai;by_cases aC:j<N
  case neg =>
   obtain rfl:j=N:=(by omega);have t2:decide ((j:Int)<(j:Int))=false:=qA (by omega);have a:o.take j=o:=(by rw[HN.out,List.take_length]);have HT:=qQ a;clear a;go_wp2;go_ret;have hr:=U.out;rw[HT.out]at hr;refine⟨.slice C r F,rfl, ?_, ?_, ?_⟩
   ·rw[ar.out];exact hr.xE
   ·exact(am.out.more api s.out (B:=jL (.slice C r F)) (fun b f=>hr.block b (jt.1 f))).less (fun b f=>(qE.1 f).elim (qW _) (fun f=>qJ _ (qJ _ (qJ _ f))))
   ·exact aI.out.trans (jE.xA s.out (fun b f=>am.out.lt b (qJ _ (qJ _ f))))
  have t2:decide ((j:Int)<(N:Int))=true:=qB (by omega);have aS:(j:Int)<(N:Int):=by omega
  obtain⟨x,I⟩:∃x,o[j]? = some x:=by
   rw[HN.out]at aC;exact⟨o[j],qD aC⟩
  have aE:=aL.out x (qM I);obtain⟨b,e1,X⟩:=HC.out wr s.out j x I;subst e1;have ak:=NL (m:=⟨n,c,d,R⟩) I;have aD:gT (⟨n,c,d,R⟩:kJ).lv.flatten x=(decide (x=jO)||(vq x&&!decide (npK x=99)&&!decide ((npN x:Int)∈y))):=by rw[<-aF.out];rfl
  rw[aD]at ak;have HO:=qQ (qZU nap x (.slice A3 P c3) y wr aE (aH.out.below s.out (qK _)) (by have:=aG.out;omega));have V:=qQ ak;clear I aE aD ak;generalize (vq x&&!decide (npK x=99)&&!decide ((npN x:Int)∈y))=q at*;cases gk with
  | zero=>omega
  | succ gj =>
  by_cases G:x=jO
  ·have al:x.toList=[110,101,119]:=(by rw[Lib.toList_data,G];rfl);have tn:(x.toList==[110,101,119])=true:=(by rw[al];rfl);have a:=V.out;rw[qB G,Bool.true_or,qV rfl]at a;obtain⟨w5,u5,M,⟨A6,c6,rfl,z⟩,O⟩:=BW (x:=x) U.out L.out (by have:=ap.out;omega) s.out.size 55;rw[<-a]at z;have K:=qQ (show r+1=(gq (o.take (j+1)) ⟨n,c,d,R⟩).length by rw[a,qN,<-L.out];rfl);have ab:=qQ M;have t:=qQ z;have ac:=qQ (s.out.trans O);clear M z O a G V HO;go_wp2_with (first|(at_builtin;refine yK rfl _ _ rfl rfl rfl ab.out ?_)|fail);go_roundg gj
   case measure=>omega
   case rel=>exact⟨j+1,A6,r+1,c6,by omega,by go_num,by first|rfl|go_num,K.out,t.out,ac.out⟩
  have al:¬x.toList=[110,101,119]:=fun h=>G (by rw[Lib.toList_data]at h;exact qi (Array.toList_inj.1 h))
  have tn:(x.toList==[110,101,119])=false:=qg.2 al;have a:=V.out;rw[qA G,Bool.false_or]at a;have av:=qQ a;clear V a G;go_wp2_with fail;refine KG HO.out fun w3 b3=>?_;have au:=qQ (U.out.below b3 (qK _));have aa:=qQ (s.out.trans (b3.mono s.out.size));clear b3 U s X;cases q with
  | false =>
    have a:=av.out;rw[qZ (by simp),List.append_nil]at a;have t:=au.out;rw[<-a]at t;have K:=qQ (show r=(gq (o.take (j+1)) ⟨n,c,d,R⟩).length by rw[a];exact L.out);have t:=qQ t;clear a;go_wp2_with fail;go_roundg gj
    case measure=>omega
    case rel=>exact⟨j+1,C,r,F,by omega,by go_num,by first|rfl|go_num,K.out,t.out,aa.out⟩
  | true =>
    have a:=av.out;rw[qV rfl]at a;obtain⟨w5,u5,M,⟨A6,c6,rfl,z⟩,O⟩:=BW (x:=x) au.out L.out (by have:=ap.out;omega) aa.out.size 55;rw[<-a]at z;have K:=qQ (show r+1=(gq (o.take (j+1)) ⟨n,c,d,R⟩).length by rw[a,qN,<-L.out];rfl);have ab:=qQ M;have t:=qQ z;have ac:=qQ (aa.out.trans O);clear M z O a;go_wp2_with (first|(at_builtin;refine yK rfl _ _ rfl rfl rfl ab.out ?_)|fail);go_roundg gj
    case measure=>omega
    case rel=>exact⟨j+1,A6,r+1,c6,by omega,by go_num,by first|rfl|go_num,K.out,t.out,ac.out⟩
end
theorem qZ5(D:jD)(x:Tw)(ns:List Tw):fg D (x::ns)=if (jg D x).1≠0 then jg D x else fg (jg D x).2 ns:=rfl
section
variable {At:jR}(api:jS At)(nap:jw){w0 w:World}{gd:Nat}{D:jD}{E:List Nat}
include api nap
theorem qZ6(n c:Int)(d:Nat)(A:Option Addr)(k cp:Nat)(R:LvL)(h:DS At w0 gd D E w)(ok:WfP D)(T:df w0 E w (.slice A k cp) R)(Z:R.flatten.length<=100000)(U:R.length<=100000):
  Calls prog 83 #[ptr gd,kc n c d (.slice A k cp)] w (y9 At w0 gd (err (mn D ⟨n,c,d,R⟩).1) (mn D ⟨n,c,d,R⟩).2 E w):=by
 have a:=(qU w.1.size w).alloc (qK _) (vr n c d (.slice A k cp));have p:=jF.new w 47 #[n,c,.int .u64 (d:Nat),.slice A k cp];have q:=h.box api (vr n c d (.slice A k cp));have B:=jE.xA a h.lt;have aa:=h.names api;obtain⟨g,ar⟩:∃g,w.1.size=g:=⟨_,rfl⟩
 rw[ar]at p;obtain⟨r,av⟩:∃r,w.alloc (vr n c d (.slice A k cp))=r:=⟨_,rfl⟩
 rw[av]at p q B;have z:=qQ (Be api q ok);have u:=qQ (qZ4 api nap n c d A k cp R q ok (T.step B) Z U);unfold BJ at u;unfold mn;have O:=qQ (qG q B);by_cases m:D.down=true
 ·rw[qV m];rw[qV m]at z;unfold kc;clear h ok T a p q B aa Z U u m;go_enter func83,ntmps83;go_wp2_with fail;refine X5 z.out ?_;go_wp2;go_ret;exact⟨rfl,O.out.1,O.out.2⟩
 rw[qZ m];rw[qZ m]at z;have aj:∀x∈gq (D.l.map jI.name) ⟨n,c,d,R⟩,x.size<=maxLen:=fun x f=>aa x (qo.1 f).1
 have ai:(gq (D.l.map jI.name) ⟨n,c,d,R⟩).length<=400:=qR (YV _ _) (by rw[qz];exact ok.many);generalize gq (D.l.map jI.name) ⟨n,c,d,R⟩=L at*;have m0:r.cell? ⟨g,0,none⟩=some (.int .i64 n):=p.cell 0;have m1:r.cell? ⟨g,1,none⟩=some (.int .i64 c):=p.cell 1;have m2:r.cell? ⟨g,2,none⟩=some (.int .u64 (d:Nat)):=p.cell 2;have m3:r.cell? ⟨g,3,none⟩=some (.slice A k cp):=p.cell 3;have am:=qQ aj;have al:=qQ ai;have ao:=qQ ok;unfold kc at u ⊢;clear h ok T a p q B aa Z U m aj ai;go_enter func83,ntmps83;go_wp2_with fail;refine X5 z.out ?_;go_wp2_with fail;refine u.out.mono ?_;rintro e w2⟨v,rfl,hs,ag,ah⟩;have ap:=qQ hs;have ad:=qQ ag;have ae:=qQ (O.out.2.trans ah);obtain⟨S,os,cs,rfl,ms,hc⟩:=hs.cell;unfold maxLen at ms
 have HC:=qQ (fun W' (K:jE (jL (.slice S L.length cs)++E) w2 W') (i:Nat) (x:Tw) (f:L[i]? = some x)=>(by
  obtain⟨b,P,e2⟩:=hc i x f;subst P;exact⟨b,rfl,(World.cell?_of_block (w:=w2) (K.block b (qW _ (jt.2 rfl)))).trans e2⟩:∃b,S=some ⟨b,os,none⟩/\W'.cell? ⟨b,os+i,none⟩=some (.string x)))
 obtain⟨N,V⟩:∃N,N=L.length:=⟨_,rfl⟩
 have HN:=qQ V;rw[<-V]at ms HC ad al ⊢;clear hs ag ah hc V u z ap m0 m1 m2 m3;go_wp2;go_loopg [18] N (fun g' i wr=>∃(j:Nat) (o:jD),j+g'=N/\i=.int .i64 j/\fg D L=fg o (L.drop j)/\WfP o/\DS At w0 gd o (jL (.slice S N cs)++E) wr/\jE (jL (.slice S N cs)++E) w2 wr)
 case atStart=>exact⟨0,D,by omega,rfl,rfl,ao.out,ad.out,jE.refl _ _⟩
 case round =>
  obtain⟨j,o,aw,rfl,he,ak,m,K⟩:=hrel;have HE:=qQ he;have HD:=qQ m;have I:=qQ K;have af:=qQ ak;clear he ak m K;by_cases au:j<N
  case neg =>
   obtain rfl:j=N:=(by omega);have t2:decide ((j:Int)<(j:Int))=false:=qA (by omega);have ht:L.drop j=[]:=(by rw[HN.out,List.drop_length]);have Q:=HE.out;rw[ht]at Q;have H1:=qQ Q;clear ht Q;go_wp2;go_ret;rw[H1.out];exact⟨rfl,HD.out.less (fun b a=>qJ _ a),ae.out.trans (I.out.less (fun b a=>qJ _ a))⟩
  have t2:decide ((j:Int)<(N:Int))=true:=qB (by omega);have ax:(j:Int)<(N:Int):=by omega
  have Y:j<L.length:=by rw[<-HN.out];exact au
  obtain⟨x,f⟩:∃x,L[j]? = some x:=⟨L[j],qD Y⟩
  have ab:=am.out x (qM f)
  have W:L.drop j=x::L.drop (j+1):=by
   rw[xJ Y];rw[qD Y]at f;rw[qb f]
  obtain⟨b,P,e2⟩:=HC.out wr I.out j x f;subst P;have hst:=HE.out;rw[W,qZ5]at hst;have M:=qQ (HD.out.xD api (fun F hF=>api.delete x hF af.out.ok ab));have o1:=dO af.out x;cases gk with
  | zero=>omega
  | succ gj =>
  by_cases C:(jg o x).1=0
  ·rw[qZ (by simp[C])]at hst;rw[C]at M;have J:=qQ hst;have an:=qQ o1;clear f ab W hst o1 C;generalize (jg o x).2=ac at*;go_wp2_with fail;refine M.out.mono ?_;rintro e w3⟨rfl,G,H⟩;have s:=qQ (qG G (I.out.trans H));clear G H;go_wp2_with fail;go_roundg gj
   case measure=>omega
   case rel=>exact⟨j+1,ac,by omega,by go_num,J.out,an.out,s.out.1,s.out.2⟩
  ·rw[qV C]at hst;have t:(((jg o x).1:Int) != 0)=true:=(by simp;omega);have J:=qQ hst;clear f ab W hst o1 C;generalize jg o x=X at*;have aq:Hid (fg D L=(X.1,X.2)):=qQ J.out;clear J;generalize X.2=ac at*;generalize X.1=y at*;go_wp2_with fail;refine M.out.mono ?_;rintro e w3⟨rfl,G,H⟩;have s:=qQ (qG G (I.out.trans H));clear G H;go_wp2;go_ret;rw[aq.out];exact⟨rfl,s.out.1.less (fun b a=>qJ _ a),ae.out.trans (s.out.2.less (fun b a=>qJ _ a))⟩
theorem qZ7: uy At where
 swap:=fun n c d A k a R h ok b i g f j=>qZ3 api n c d A k a R h ok b i g f j
 clean:=fun n c d A k a R h ok b i g f=>qZ6 api nap n c d A k a R h ok b g f
end
end
section
theorem iap: uy gg:=qZ7 api Nx
end
end Go.Proofs.YthejglbnkmimjaaGreat
