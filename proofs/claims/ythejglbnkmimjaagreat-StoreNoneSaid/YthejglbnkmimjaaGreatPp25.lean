import Derived.Test.YthejglbnkmimjaaGreatPp17
import Derived.Test.YthejglbnkmimjaaGreatPp24
set_option linter.unusedVariables false
set_option maxRecDepth 100000
set_option maxHeartbeats 9000000
namespace Go.Proofs.YthejglbnkmimjaaGreat
open Tryz
section
open Go.RowKit Go.Shelf
theorem p6(N:Nat)(w:World)(c:N<9223372036854775808):
  Calls prog 270 #[.int .i64 (N:Nat)] w fun e w'=>e = .returned (.string (bs (be 4 N)))/\Below w.heap.size w w':=by
 have a:=qQ fun W=>uL N 4 W (by omega) (by omega) (by omega)
 have d:IntKind.u64.wrap ((N:Nat):Int)=(N:Nat):=IntWalk.u64_in _ ⟨by omega,by omega⟩;generalize bs (be 4 N)=R at*;go_enter func270,ntmps270;go_wp2_with fail;refine(a.out _).mono ?_;rintro e f⟨rfl,b⟩;go_wp2;go_ret;exact⟨rfl,b⟩
theorem VS(N:Nat)(w:World)(c:N<9223372036854775808):
  Calls prog 272 #[.int .i64 (N:Nat)] w fun e w'=>e = .returned (.string (bs (be 1 N)))/\Below w.heap.size w w':=by
 have a:=qQ fun W=>uL N 1 W (by omega) (by omega) (by omega)
 have d:IntKind.u64.wrap ((N:Nat):Int)=(N:Nat):=IntWalk.u64_in _ ⟨by omega,by omega⟩;generalize bs (be 1 N)=R at*;go_enter func272,ntmps272;go_wp2_with fail;refine(a.out _).mono ?_;rintro e f⟨rfl,b⟩;go_wp2;go_ret;exact⟨rfl,b⟩
theorem Wrt.drew{w1 W:World}{s:Tw}(h:Wrt w1 s W):Wrt w1 s W.drew:=⟨h.b.drew,h.o.drew⟩
def fO(w:World)(m:jS)(e:Ending)(w':World):Prop:=e = .returned (.tuple #[.string (mfS m),.int .i64 (mfE m)])/\Below w.heap.size w w'
theorem PI(n c:Int)(d:Nat)(A:Option Addr)(k cp:Nat)(R:LvL)(w:World)(h:kQ w (.slice A k cp) R)(m:R.flatten.length<=100000)(l:R.length<=100000)(f:¬jr ⟨n,c,d,R⟩):
  Calls prog 235 #[j9 n c d (.slice A k cp)] w (fO w ⟨n,c,d,R⟩):=by
 have b:=(Below.refl w.heap.size w).alloc (qZ _) (kF n c d (.slice A k cp));have o:=qQ b;have a:=QV n c d A k cp R _ (h.below b (qZ _)) m l;rw[show bP ⟨n,c,d,R⟩=false from qG f]at a;have g:=qQ a;obtain⟨i,j⟩:=rP f;unfold fO;rw[i,j];unfold j9 at g ⊢;clear a h m l b f i j;go_enter func235,ntmps235;go_wp2_with fail;refine g.out.mono ?_;rintro e q⟨rfl,p⟩;go_wp2;go_ret2;exact⟨rfl,bj o.out p⟩
def um(m:jS)(T:LvL)(j:Nat):Tw:=bs (gX m++jo (T.take j))
def bH(m:jS)(T:LvL)(j:Nat)(x:List Int)(k:Nat):Tw:=bs (gX m++jo (T.take j)++be 1 x.length++(x.take k).flatMap u4)
theorem PL(m:jS)(T:LvL):um m T 0=bs (gX m):=by unfold um;rw[List.take_zero];unfold jo;rw[List.flatMap_nil,List.append_nil]
theorem PM(m:jS)(T:LvL)(j:Nat)(x:List Int):um m T j++bs (be 1 x.length)=bH m T j x 0:=by unfold um bH;rw[gu,List.take_zero,List.flatMap_nil,List.append_nil]
theorem PN{m:jS}{T:LvL}{j k:Nat}{x:List Int}{y:Int}(h:x[k]? = some y):bH m T j x k++bs (be 4 y.toNat)=bH m T j x (k+1):=by
 unfold bH;rw[gu,List.take_add_one,h,List.flatMap_append];simp only[List.append_assoc];congr 4
theorem PO{m:jS}{T:LvL}{j:Nat}{x:List Int}(h:T[j]? = some x):bH m T j x x.length=um m T (j+1):=by
 unfold bH um;rw[List.take_add_one,h,List.take_length,mE];show _=bs (gX m++(jo (T.take j)++jo [x]));rw[XF];unfold lvB;simp only[List.append_assoc]
theorem PP(m:jS):um m (jI m.lv) (jI m.lv).length=bs (uV m):=by unfold um uV;rw[List.take_length]
theorem PR(n c d t:Nat):bs gH++bs (be 4 n)++bs (be 4 c)++bs (be 8 d)++bs (be 1 t)=bs (gH++be 4 n++be 4 c++be 8 d++be 1 t):=by rw[gu,gu,gu,gu]
theorem VT{T:LvL}{j:Nat}:(jo (T.take j)).length<=(jo T).length:=by
 conv=>rhs;rw[<-ql j T,mE,qI]
 omega
theorem V0{m:jS}{T:LvL}{j:Nat}(h:(jo T).length<=200):(um m T j).size<=221:=by
 have:=VT (T:=T) (j:=j);unfold um;rw[jh,qI,oZ];omega
theorem PS{m:jS}{T:LvL}{j k:Nat}{x:List Int}(h:(jo T).length<=200)(a:x.length<=40):(bH m T j x k).size<=400:=by
 have:=VT (T:=T) (j:=j);unfold bH;rw[jh,qI,qI,qI,oZ,jO,mD,qq];omega
theorem jr.bytes{m:jS}(h:jr m):(jo (jI m.lv)).length<=200:=by
 obtain⟨a,b,-⟩:=h.xk;rw[rq];omega
theorem PT(n c:Nat)(d:Nat)(A:Option Addr)(k cp:Nat)(R:LvL)(w:World)(h:kQ w (.slice A k cp) R)(hk:k=R.length)(q:jr ⟨(n:Nat),(c:Nat),d,R⟩)(hd:d<18446744073709551616):
  Calls prog 235 #[j9 (n:Nat) (c:Nat) d (.slice A k cp)] w (fO w ⟨(n:Nat),(c:Nat),d,R⟩):=by
 have C:=(Below.refl w.heap.size w).alloc (qZ _) (kF (n:Nat) (c:Nat) d (.slice A k cp));have HB:=qQ C;have h5:=q.2.2.2.2.1.1;have ax:=q.2.2.2.2.1.2.1;simp only at h5 ax;have HV:=QV (n:Nat) (c:Nat) d A k cp R _ (h.below C (qZ _)) (by omega) (by omega);rw[show bP ⟨(n:Nat),(c:Nat),d,R⟩=true from qW q]at HV;have ai:=qQ HV;obtain⟨e1,e2⟩:=rR q;obtain⟨A3,c3,HT⟩:=OS A k cp R hk (by omega);have L:=qQ (fun W (I:Below w.heap.size w W)=>HT W (h.below I (qZ _)));have a9:n<=1000000:=by have:=q.2.1;simp only at this;omega
 have a6:c<=2147483647:=by have:=q.2.2.2.1;simp only at this;omega
 have S:=qQ q.bytes;obtain⟨t5,-,tl⟩:=q.xk;have au:=qQ tl;have U:=qQ (PP ⟨(n:Nat),(c:Nat),d,R⟩);have ah:Hid (bs gH++bs (be 4 n)++bs (be 4 c)++bs (be 8 d)++bs (be 1 (jI R).length)=um ⟨(n:Nat),(c:Nat),d,R⟩ (jI R) 0):=qQ (by rw[PL,PR];rfl);unfold fO;rw[e1,e2];unfold mfB;unfold j9 at ai ⊢;unfold pR at L;simp only at S au U t5;clear HV h C q e1 e2 HT tl;generalize hT:jI R=T at*;clear hT;obtain⟨t,ht⟩:∃t,t=T.length:=⟨_,rfl⟩
 have av:=qQ ht;rw[<-ht]at L U ah t5;clear ht;have HZ:=qQ (show(um ⟨(n:Nat),(c:Nat),d,R⟩ T t).size<=221 from V0 S.out);generalize hM:(⟨(n:Nat),(c:Nat),d,R⟩:jS)=M at*;clear hM;have am:=qQ fun W=>p6 n W (by omega)
 have an:=qQ fun W=>p6 c W (by omega)
 have ao:Hid (∀W:World,Calls prog 142 #[.int .u64 (d:Nat),.int .i64 8] W fun e l=>e = .returned (.string (bs (be 8 d)))/\Below W.heap.size W l):=qQ fun W=>uL d 8 W (by omega) (by omega) hd
 have ap:=qQ fun W=>VS t W (by omega)
 have s0:(bs gH).size=4:=rfl;have s1:(bs (be 4 n)).size=4:=by rw[jh,jO]
 have s2:(bs (be 4 c)).size=4:=by rw[jh,jO]
 have s3:(bs (be 8 d)).size=8:=by rw[jh,jO]
 have s4:(bs (be 1 t)).size=1:=by rw[jh,jO]
 have eI:(⟨#[105,109,97,112]⟩:Tw)=bs gH:=rfl;generalize bs gH=s at*;generalize bs (be 4 n)=r at*;generalize bs (be 4 c)=B at*;generalize bs (be 8 d)=V at*;generalize bs (be 1 t)=X4 at*;have X:∀w:World,(Op.stringOp .add ⟨#[105,109,97,112]⟩ r).run prog w = .ok (.string (s++r)) w:=fun w=>by rw[eI];exact run_string_add_sum (P:=prog) (w:=w) _ _ (by omega)
 have z1:(s++r).size=8:=by rw[qT,s0,s1]
 have Y:∀w:World,(Op.stringOp .add (s++r) B).run prog w = .ok (.string (s++r++B)) w:=fun w=>run_string_add_sum (P:=prog) (w:=w) _ _ (by omega)
 have z2:(s++r++B).size=12:=by rw[qT,z1,s2]
 have Z:∀w:World,(Op.stringOp .add (s++r++B) V).run prog w = .ok (.string (s++r++B++V)) w:=fun w=>run_string_add_sum (P:=prog) (w:=w) _ _ (by omega)
 have z3:(s++r++B++V).size=20:=by rw[qT,z2,s3]
 generalize s++r++B++V=Y3 at*;generalize s++r++B=Y2 at*;generalize s++r=Y1 at*;have g0:(w.alloc (kF (n:Nat) (c:Nat) d (.slice A k cp))).cell? ⟨w.heap.size,0,none⟩=some (.int .i64 (n:Nat)):=World.cell?_alloc_at _ _ _ _ rfl;have g1:(w.alloc (kF (n:Nat) (c:Nat) d (.slice A k cp))).cell? ⟨w.heap.size,1,none⟩=some (.int .i64 (c:Nat)):=World.cell?_alloc_at _ _ _ _ rfl;have g2:(w.alloc (kF (n:Nat) (c:Nat) d (.slice A k cp))).cell? ⟨w.heap.size,2,none⟩=some (.int .u64 (d:Nat)):=World.cell?_alloc_at _ _ _ _ rfl;have g3:(w.alloc (kF (n:Nat) (c:Nat) d (.slice A k cp))).cell? ⟨w.heap.size,3,none⟩=some (.slice A k cp):=World.cell?_alloc_at _ _ _ _ rfl;have G:=qQ (qU g0 (qU g1 (qU g2 g3)));have Z3:=qQ z3;have S4:=qQ s4;have ak:=qQ (qU X (qU Y Z));clear g0 g1 g2 g3 eI s0 s1 s2 s3 s4 z1 z2 z3 X Y Z hk h5 ax;go_enter func235,ntmps235;go_wp2_with fail;refine ai.out.mono ?_;rintro e a⟨rfl,F⟩;rw[World.size_alloc]at F;obtain⟨q0,q1,q2,q3⟩:=G.out;have c0:=gC F (show w.heap.size<w.heap.size+1 by omega) q0;have c1:=gC F (show w.heap.size<w.heap.size+1 by omega) q1;have c2:=gC F (show w.heap.size<w.heap.size+1 by omega) q2;have aa:=gC F (show w.heap.size<w.heap.size+1 by omega) q3;have aY:=F.size;rw[World.size_alloc]at aY;have aD:Below w.heap.size w a:=HB.out.trans (F.mono (by simp));have ab:w.heap.size<a.heap.size:=by omega
 have ad:=qQ aD;clear F q0 q1 q2 q3 G ai HB
 have J:Hid (∀W,Below a.heap.size a W->Below a.heap.size a W/\W.cell? ⟨w.heap.size,0,none⟩=some (.int .i64 (n:Nat))/\W.cell? ⟨w.heap.size,1,none⟩=some (.int .i64 (c:Nat))/\W.cell? ⟨w.heap.size,2,none⟩=some (.int .u64 (d:Nat))/\W.cell? ⟨w.heap.size,3,none⟩=some (.slice A k cp)) :=
  qQ fun W I=>⟨I,gC I ab c0,gC I ab c1,gC I ab c2,gC I ab aa⟩
 have K1:=qQ fun W (hh:Below a.heap.size a W/\W.cell? ⟨w.heap.size,0,none⟩=some (.int .i64 (n:Nat))/\W.cell? ⟨w.heap.size,1,none⟩=some (.int .i64 (c:Nat))/\W.cell? ⟨w.heap.size,2,none⟩=some (.int .u64 (d:Nat))/\W.cell? ⟨w.heap.size,3,none⟩=some (.slice A k cp)) (f:Wrt a ByteArray.empty W)=>(am.out W).mono fun e l p=>(⟨p.1,J.out l (f.below p.2).o,f.below p.2⟩:e=_/\_/\Wrt a ByteArray.empty l)
 have K2:=qQ fun W (hh:Below a.heap.size a W/\W.cell? ⟨w.heap.size,0,none⟩=some (.int .i64 (n:Nat))/\W.cell? ⟨w.heap.size,1,none⟩=some (.int .i64 (c:Nat))/\W.cell? ⟨w.heap.size,2,none⟩=some (.int .u64 (d:Nat))/\W.cell? ⟨w.heap.size,3,none⟩=some (.slice A k cp)) (f:Wrt a ByteArray.empty W)=>(an.out W).mono fun e l p=>(⟨p.1,J.out l (f.below p.2).o,f.below p.2⟩:e=_/\_/\Wrt a ByteArray.empty l)
 have K3:=qQ fun W (hh:Below a.heap.size a W/\W.cell? ⟨w.heap.size,0,none⟩=some (.int .i64 (n:Nat))/\W.cell? ⟨w.heap.size,1,none⟩=some (.int .i64 (c:Nat))/\W.cell? ⟨w.heap.size,2,none⟩=some (.int .u64 (d:Nat))/\W.cell? ⟨w.heap.size,3,none⟩=some (.slice A k cp)) (f:Wrt a ByteArray.empty W)=>(ao.out W).mono fun e l p=>(⟨p.1,J.out l (f.below p.2).o,f.below p.2⟩:e=_/\_/\Wrt a ByteArray.empty l)
 have K4:=qQ fun W (hh:Below a.heap.size a W/\W.cell? ⟨w.heap.size,0,none⟩=some (.int .i64 (n:Nat))/\W.cell? ⟨w.heap.size,1,none⟩=some (.int .i64 (c:Nat))/\W.cell? ⟨w.heap.size,2,none⟩=some (.int .u64 (d:Nat))/\W.cell? ⟨w.heap.size,3,none⟩=some (.slice A k cp)) (f:Wrt a ByteArray.empty W)=>(f.write Y3 (by rw[Z3.out];decide)).mono fun e l p=>(⟨p.1,J.out l p.2.o,by have h2:=p.2;rw[ByteArray.empty_append]at h2;exact h2⟩:e=_/\_/\Wrt a Y3 l)
 have aG:=(Wrt.fresh a).drew;have aX:=J.out _ aG.o;clear c0 c1 c2 aa am an ao aD;obtain⟨X,Y,Z⟩:=ak.out;go_upto_region 4 with fail
 go_region_held3 (fun W=>Below a.heap.size a W/\W.cell? ⟨w.heap.size,0,none⟩=some (.int .i64 (n:Nat))/\W.cell? ⟨w.heap.size,1,none⟩=some (.int .i64 (c:Nat))/\W.cell? ⟨w.heap.size,2,none⟩=some (.int .u64 (d:Nat))/\W.cell? ⟨w.heap.size,3,none⟩=some (.slice A k cp))
  (first | (with_reducible assumption) | fail)
  (first
  | (go_at_call 270;((with_reducible refine(K1.out _ (by with_reducible assumption) (by with_reducible assumption)).mono ?_);rintro e l⟨rfl,C,f⟩))
  | (go_at_call 270;((with_reducible refine(K2.out _ (by with_reducible assumption) (by with_reducible assumption)).mono ?_);rintro e l⟨rfl,C,f⟩))
  | (go_at_call 142;((with_reducible refine(K3.out _ (by with_reducible assumption) (by with_reducible assumption)).mono ?_);rintro e l⟨rfl,C,f⟩))
  | (go_at_call 140;((with_reducible refine(K4.out _ (by with_reducible assumption) (by with_reducible assumption)).mono ?_);rintro e l⟨rfl,C,f⟩))
  | fail)
 have HX:=qQ f;obtain⟨-,-,-,-,aa⟩:=C;have ar:=qQ (L.out l (bj ad.out f.o)).1;have aU:=(L.out a ad.out).2.form;obtain⟨A9,off,a4,ev,-,hc⟩:=aU;rw[<-av.out]at ev;obtain⟨rfl,-,rfl⟩:=Value.slice.inj ev;have HC:=qQ hc;have z4:=S4.out;have z3:=Z3.out;have HQ:=qQ fun W=>na (bs (uV M)) W (by have:=HZ.out;rw[U.out]at this;unfold maxLen;omega)
 have Z0:=qQ (show Y3.size+X4.size<=1000000 by omega);have a5:=fun(x:Int) (h0:0<=x) (h1:x<4294967296) W=>p6 x.toNat W (by omega)
 clear K1 K2 K3 K4 aX aG f L ev hc z3 z4 X Y Z ak Z3 S4 J;go_wp2_with fail;refine ar.out.mono ?_;rintro e w5⟨rfl,rfl⟩;go_wp2_with fail;refine(ap.out _).mono ?_;rintro e w6⟨rfl,aA⟩;have v:=qQ ((HX.out.below aA).write X4 Z0.out);clear aA;go_wp2_with fail;refine v.out.mono ?_;rintro e w7⟨rfl,W7⟩;rw[ah.out]at W7;clear v ar ah ap Z0 aa HX;go_wp2;go_loopg [35] t (fun g i wr=>∃j:Nat,j+g=t/\i = .int .i64 j/\Wrt a (um M T j) wr)
 case atStart=>exact⟨0,by omega,rfl,W7⟩
 case round =>
  obtain⟨j,a7,rfl,W8⟩:=hrel;clear W7;have Q:=qQ W8;clear W8;obtain⟨wo,rfl⟩:∃wo,wo=wr:=⟨_,rfl⟩
  cases gk with
  | zero =>
    obtain rfl:j=t:=(by omega);have l1:¬(j:Int)<(j:Int):=(by omega);have H:=Q.out;rw[U.out]at H;have v:=qQ H.told;clear H Q;go_wp2_with fail;refine v.out.mono ?_;rintro e w8⟨rfl,O⟩;have aJ:=qQ O;clear O;go_wp2_with fail;refine(HQ.out _).mono ?_;rintro e w9⟨rfl,aB⟩;have aK:=qQ aB;clear aB;go_wp2;go_ret2;exact⟨rfl,bj ad.out (bj aJ.out aK.out)⟩
  | succ gi =>
    have aV:j<t:=(by omega);have l1:(j:Int)<(t:Int):=(by omega);obtain⟨x,f⟩:∃x,T[j]? = some x:=⟨_,qD (by rw[<-av.out];exact aV)⟩
    obtain⟨b,u,rfl,aC,cu,aF⟩:=HC.out j x f;have aR:=gC Q.out.o aC cu;obtain⟨A4,o4,c4,rfl,-,aE⟩:=aF.form;obtain⟨aI,xb⟩:=au.out x (qO f);have aO:=qQ xb;have a0:=qQ f;have aL:=qQ aE;have ae:=qQ (PM M T j x);have al:=qQ (PO (m:=M) f);have aN:=qQ (fun k=>PS (m:=M) (T:=T) (j:=j) (k:=k) S.out aI);have ag:=qQ (fun W=>VS x.length W (by omega));have aH:(bs (be 1 x.length)).size=1:=(by rw[jh,jO]);obtain⟨m,q⟩:∃m,m=x.length:=⟨_,rfl⟩
    have HM:=qQ q;rw[<-q]at ae al ag aR aI aH;generalize aT:bs (be 1 m)=B1 at*;have aP:=qQ (show(um M T j).size+B1.size<=1000000 by have:=V0 (m:=M) (j:=j) S.out;omega);clear aT f aC cu aF aE xb q aH;go_wp2_with fail;refine(ag.out _).mono ?_;rintro e w8⟨rfl,O⟩;have v:=qQ ((Q.out.below O).write B1 aP.out);clear O;go_wp2_with fail;refine v.out.mono ?_;rintro e w9⟨rfl,H⟩;rw[ae.out]at H;clear v ag ae;go_wp2;go_loopg [45] m (fun g i wx=>∃k:Nat,k+g=m/\i = .int .i64 k/\Wrt a (bH M T j x k) wx)
    case atStart=>exact⟨0,by omega,rfl,H⟩
    case round =>
     obtain⟨z,a8,rfl,aw⟩:=hrel;have ac:=qQ aw;clear aw H;cases gk with
     | zero =>
       obtain rfl:z=m:=(by omega);have l2:¬(z:Int)<(z:Int):=(by omega);have K:=ac.out;rw[al.out]at K;have aM:=qQ K;clear K;go_wp2;go_roundg gi
       case measure=>omega
       case rel=>exact⟨j+1,by omega,by go_num,aM.out⟩
     | succ gj =>
       have aW:z<m:=(by omega);have l2:(z:Int)<(m:Int):=(by omega);obtain⟨y,hy⟩:∃y,x[z]? = some y:=⟨_,qD (by rw[<-HM.out];exact aW)⟩
       obtain⟨b2,rfl,az,cy⟩:=aL.out z y hy;obtain⟨y0,y1⟩:=aO.out y (qO hy);have aS:=gC ac.out.o az cy;have af:=qQ (PN (m:=M) (T:=T) (j:=j) hy);obtain⟨N,rfl⟩:∃N:Nat,y=(N:Int):=⟨y.toNat,by omega⟩
       have aq:=qQ (fun W=>p6 N W (by omega));rw[qh]at af;have aZ:(bs (be 4 N)).size=4:=(by rw[jh,jO]);generalize bs (be 4 N)=B4 at*;have aQ:=qQ (show(bH M T j x z).size+B4.size<=1000000 by have:=aN.out z;omega);clear hy az cy aZ y0 y1;go_wp2_with fail;refine(aq.out _).mono ?_;rintro e a_⟨rfl,ay⟩;have v:=qQ ((ac.out.below ay).write B4 aQ.out);clear ay aS;go_wp2_with fail;refine v.out.mono ?_;rintro e ba⟨rfl,aj⟩;rw[af.out]at aj;have K:=qQ aj;clear v aq af aj;go_wp2;go_roundg gj
       case measure=>omega
       case rel=>exact⟨z+1,by omega,by go_num,K.out⟩
theorem V4(n c:Int)(d:Nat)(A:Option Addr)(k cp:Nat)(R:LvL)(w:World)(h:kQ w (.slice A k cp) R)(g:k=R.length)(i:R.flatten.length<=100000)(b:R.length<=100000)(f:d<18446744073709551616):
  Calls prog 235 #[j9 n c d (.slice A k cp)] w (fO w ⟨n,c,d,R⟩):=by
 by_cases a:jr ⟨n,c,d,R⟩
 ·obtain⟨N,rfl⟩:∃N:Nat,n=(N:Int):=⟨n.toNat,by have:=a.1;simp only at this;omega⟩
  obtain⟨C,rfl⟩:∃C:Nat,c=(C:Int):=⟨c.toNat,by have:=a.2.2.1;simp only at this;omega⟩
  exact PT N C d A k cp R w h g a f
 ·exact PI n c d A k cp R w h i b a
theorem kz.qe{w:World}{base b i:Nat}{v:Value}{R:LvL}(h:kz w base v R)(g:b<base)(u:Value):kz (w.setCell ⟨b,i,none⟩ u) base v R:=by
 obtain⟨M,a,c,f⟩:=h;exact⟨M,vW a (fun e=>by have:=j4.block a b e;omega) u,fun x d=>vW (c x d) (fun e=>by have:=(jP.block (c x d) b e).1;omega) u,f⟩
theorem l7{w w':World}{g:Nat}{t:TypeId}{cs:Array Value}(h:za w g t cs)(a:Below w.heap.size w w'):za w' g t cs:=(a.block g h.lt).trans h
def QC(w:World)(s:Tw)(e:Ending)(w':World):Prop:=∃(b d:Int) (a:Nat) (A:Option Addr) (n c:Nat) (R:LvL),e = .returned (.tuple #[j9 b d a (.slice A n c),.int .i64 (mgE s)])/\mgM s=⟨b,d,a,R⟩/\n=R.length/\kz w' w.heap.size (.slice A n c) R/\Below w.heap.size w w'/\a<18446744073709551616/\R.flatten.length<=100000/\R.length<=300
def uE(w:World)(g:Nat)(a b c d:Value):World:=(((w.setCell ⟨g,0,none⟩ a).setCell ⟨g,1,none⟩ b).setCell ⟨g,2,none⟩ c).setCell ⟨g,3,none⟩ d
theorem nF{B:Nat}{w W:World}{g:Nat}(h:Below B w W)(f:B<=g)(a b c d:Value):Below B w (uE W g a b c d):=(((h.setCell (p:=⟨g,0,none⟩) f a).setCell (p:=⟨g,1,none⟩) f b).setCell (p:=⟨g,2,none⟩) f c).setCell (p:=⟨g,3,none⟩) f d
theorem l8{W:World}{g:Nat}{t:TypeId}{f i j k:Value}(h:za W g t #[f,i,j,k])(a b c d:Value):za (uE W g a b c d) g t #[a,b,c,d]:=(((h.put 0 a).put 1 b).put 2 c).put 3 d
theorem kz.manSet{W:World}{base g:Nat}{v:Value}{R:LvL}(h:kz W base v R)(f:g<base)(a b c d:Value):kz (uE W g a b c d) base v R:=(((h.qe f a).qe f b).qe f c).qe f d
theorem P0(s:Tw)(w:World)(hs:s.size<=1100000):Calls prog 191 #[.string s] w (QC w s):=by
 have B0:=za.new w 47 #[.int .i64 0,.int .i64 0,.int .u64 0,.slice none 0 0];have ag:=(Below.refl w.heap.size w).alloc (qZ _) (.cells #[.int .i64 0,.int .i64 0,.int .u64 0,.slice none 0 0] 47);have HR:=qQ (Ov s (w.alloc (.cells #[.int .i64 0,.int .i64 0,.int .u64 0,.slice none 0 0] 47)) hs);have ah:=qQ ag;have ai:=qQ B0;clear ag B0;go_enter func191,ntmps191;go_wp2_with fail;refine HR.out.mono ?_;rintro e C⟨g,i,j,A,n,c,R,rfl,hn,W,u,ad,X,ac,hL⟩;rw[World.size_alloc]at W u;have HN:=qQ hn;have aa:=qQ W;have ae:=qQ u;have U:=qQ ad;have t:=qQ (qU X (qU ac hL));have ak:=u.size;rw[World.size_alloc]at ak;have Z:=qQ ((ah.out.trans (u.mono (by simp))).alloc (B:=w.heap.size) (by omega) (kF g i j (.slice A n c)));have m:=qQ (V4 g i j A n c R (C.alloc (kF g i j (.slice A n c))) (W.has.below ((Below.refl C.heap.size C).alloc (qZ _) _) (qZ _)) hn ac (by omega) X);have Y:=qQ ((l7 ai.out (by rw[World.size_alloc];exact u)).alloc (kF g i j (.slice A n c)));unfold j9;unfold j9 at m;have z:=G9 ad X
 have q:Hid (¬gw s->∀d,Below w.heap.size w d->QC w s (.returned (.tuple #[j9 0 0 0 (.slice none 0 0),.int .i64 90])) d):=qQ fun k d hB=>by
  obtain⟨o,p⟩:=G7 k;exact⟨0,0,0,none,0,0,[],by rw[o],by rw[p];rfl,rfl,kz.nil _ _,hB,by decide,by decide,by decide⟩
 have V:Hid (gw s->∀d,kz d w.heap.size (.slice A n c) R->Below w.heap.size w d->QC w s (.returned (.tuple #[j9 g i j (.slice A n c),.int .i64 0])) d):=qQ fun k d hN hB=>by
  obtain⟨o,p⟩:=G8 k U.out;exact⟨g,i,j,A,n,c,R,by rw[o],p,HN.out,hN,hB,t.out.1,t.out.2.1,t.out.2.2⟩
 unfold fO at m;clear hn W u ad X ac hL HR hs;by_cases r:jr ⟨g,i,j,R⟩
 case neg =>
  have k:¬gw s:=fun h=>r (z.1 h).1
  have q:=qQ (q.out k);obtain⟨o,p⟩:=rP r;rw[o,p]at m;clear z V k o p r aa ae U t;go_wp2_with fail;refine m.out.mono ?_;rintro e S⟨rfl,f⟩;rw[World.size_alloc]at f;have a:=l7 Y.out (by rw[World.size_alloc];exact f);have H:=a.cell 0;have I:=a.cell 1;have J:=a.cell 2;have K:=a.cell 3;have f0:=a.frozen 0;have f1:=a.frozen 1;have f2:=a.frozen 2;have f3:=a.frozen 3;simp only[List.getElem?_toArray]at H I J K;have F:=qQ (Z.out.trans (f.mono (by omega)));have G:=qQ a;clear a f m;go_wp2;have b:=l8 G.out (.int .i64 0) (.int .i64 0) (.int .u64 0) (.slice none 0 0);have l:=nF F.out (qZ _) (.int .i64 0) (.int .i64 0) (.int .u64 0) (.slice none 0 0);unfold uE at b l;obtain⟨d,Q⟩:∃d,d=(((S.setCell ⟨w.heap.size,0,none⟩ (.int .i64 0)).setCell ⟨w.heap.size,1,none⟩ (.int .i64 0)).setCell ⟨w.heap.size,2,none⟩ (.int .u64 0)).setCell ⟨w.heap.size,3,none⟩ (.slice none 0 0):=⟨_,rfl⟩
  rw[<-Q]at b l ⊢;have L:=b.cell 0;have M:=b.cell 1;have N:=b.cell 2;have O:=b.cell 3;exact bodyPost_ret (v:=.tuple #[j9 0 0 0 (.slice none 0 0),.int .i64 90]) (by simp[results,Tryz.results191,go_sem,L,M,N,O];rfl) rfl (q.out d l)
 obtain⟨o,p⟩:=rR r;rw[o,p]at m;generalize mfB ⟨g,i,j,R⟩=T at*;by_cases y:T=s
 case neg =>
  have k:¬gw s:=fun h=>y (z.1 h).2
  have q:=qQ (q.out k);obtain⟨t1,t2,t3⟩:=Q8 y;clear z V k o p r y aa ae U t;go_wp2_with fail;refine m.out.mono ?_;rintro e S⟨rfl,f⟩;rw[World.size_alloc]at f;have a:=l7 Y.out (by rw[World.size_alloc];exact f);have H:=a.cell 0;have I:=a.cell 1;have J:=a.cell 2;have K:=a.cell 3;have f0:=a.frozen 0;have f1:=a.frozen 1;have f2:=a.frozen 2;have f3:=a.frozen 3;simp only[List.getElem?_toArray]at H I J K;have F:=qQ (Z.out.trans (f.mono (by omega)));have G:=qQ a;clear a f m;go_wp2;have b:=l8 G.out (.int .i64 0) (.int .i64 0) (.int .u64 0) (.slice none 0 0);have l:=nF F.out (qZ _) (.int .i64 0) (.int .i64 0) (.int .u64 0) (.slice none 0 0);unfold uE at b l;obtain⟨d,Q⟩:∃d,d=(((S.setCell ⟨w.heap.size,0,none⟩ (.int .i64 0)).setCell ⟨w.heap.size,1,none⟩ (.int .i64 0)).setCell ⟨w.heap.size,2,none⟩ (.int .u64 0)).setCell ⟨w.heap.size,3,none⟩ (.slice none 0 0):=⟨_,rfl⟩
  rw[<-Q]at b l ⊢;have L:=b.cell 0;have M:=b.cell 1;have N:=b.cell 2;have O:=b.cell 3;exact bodyPost_ret (v:=.tuple #[j9 0 0 0 (.slice none 0 0),.int .i64 90]) (by simp[results,Tryz.results191,go_sem,L,M,N,O];rfl) rfl (q.out d l)
 case pos =>
  have k:gw s:=z.2 ⟨r,y⟩;have HY:=qQ (V.out k);obtain⟨t1,t2,t3⟩:=Q7 y;clear z V k o p r U t q y;go_wp2_with fail;refine m.out.mono ?_;rintro e S⟨rfl,f⟩;rw[World.size_alloc]at f;have a:=l7 Y.out (by rw[World.size_alloc];exact f);have H:=a.cell 0;have I:=a.cell 1;have J:=a.cell 2;have K:=a.cell 3;have f0:=a.frozen 0;have f1:=a.frozen 1;have f2:=a.frozen 2;have f3:=a.frozen 3;simp only[List.getElem?_toArray]at H I J K;have F:=qQ (Z.out.trans (f.mono (by omega)));have P:=l7 (za.new C 47 #[.int .i64 g,.int .i64 i,.int .u64 (j:Nat),.slice A n c]) (by rw[World.size_alloc];exact f);have i0:=P.cell 0;have i1:=P.cell 1;have i2:=P.cell 2;have i3:=P.cell 3;simp only[List.getElem?_toArray]at i0 i1 i2 i3;have af:=aa.out.below (((Below.refl C.heap.size C).alloc (qZ _) (kF g i j (.slice A n c))).trans (f.mono (by omega))) (qZ _);have aj:=qQ (af.manSet (show w.heap.size<w.heap.size+1 by omega) (.int .i64 g) (.int .i64 i) (.int .u64 (j:Nat)) (.slice A n c));have G:=qQ a;clear a f m P af;go_wp2;have b:=l8 G.out (.int .i64 g) (.int .i64 i) (.int .u64 (j:Nat)) (.slice A n c);have l:=nF F.out (qZ _) (.int .i64 g) (.int .i64 i) (.int .u64 (j:Nat)) (.slice A n c);have ab:=aj.out;unfold uE at b l ab;obtain⟨d,Q⟩:∃d,d=(((S.setCell ⟨w.heap.size,0,none⟩ (.int .i64 g)).setCell ⟨w.heap.size,1,none⟩ (.int .i64 i)).setCell ⟨w.heap.size,2,none⟩ (.int .u64 (j:Nat))).setCell ⟨w.heap.size,3,none⟩ (.slice A n c):=⟨_,rfl⟩
  rw[<-Q]at b l ab ⊢;have L:=b.cell 0;have M:=b.cell 1;have N:=b.cell 2;have O:=b.cell 3;exact bodyPost_ret (v:=.tuple #[j9 g i j (.slice A n c),.int .i64 0]) (by simp[results,Tryz.results191,go_sem,L,M,N,O];rfl) rfl (HY.out d (ab.down (by omega)) l)
end
section
open Go.RowKit Go.Shelf
theorem P3{D:zr}(h:(jQ D jG).2≠0):vE D=((jQ D jG).2:Nat)/\j5 D=mI/\gV D=D:=by
 have e:rdW D jG=(ByteArray.empty,(jQ D jG).2,D):=by unfold rdW;rw[qJ h]
 unfold vE j5 gV;rw[e];exact⟨qK h,qK h,rfl⟩
theorem P4{D:zr}(h:(jQ D jG).2=0)(a:(jx D jG 0 ((jQ D jG).1:Nat)).2.1≠0):vE D=((jx D jG 0 ((jQ D jG).1:Nat)).2.1:Nat)/\j5 D=mI/\gV D=(jx D jG 0 ((jQ D jG).1:Nat)).2.2:=by
 have e:rdW D jG=jx D jG 0 ((jQ D jG).1:Nat):=by unfold rdW;rw[qK h]
 unfold vE j5 gV;rw[e];exact⟨qK a,qK a,rfl⟩
theorem P5{D:zr}(h:(jQ D jG).2=0)(a:(jx D jG 0 ((jQ D jG).1:Nat)).2.1=0):vE D=mgE (jx D jG 0 ((jQ D jG).1:Nat)).1/\j5 D=mgM (jx D jG 0 ((jQ D jG).1:Nat)).1/\gV D=(jx D jG 0 ((jQ D jG).1:Nat)).2.2:=by
 have e:rdW D jG=jx D jG 0 ((jQ D jG).1:Nat):=by unfold rdW;rw[qK h]
 unfold vE j5 gV;rw[e];exact⟨qJ (by simp[a]),qJ (by simp[a]),rfl⟩
theorem P6(w:World)(g:Nat)(a b c d:Value):ze [g] w (uE w g a b c d) :=
 ((((ze.refl [g] w).setCell (p:=⟨g,0,none⟩) (qX qB) a).setCell (p:=⟨g,1,none⟩) (qX qB) b).setCell (p:=⟨g,2,none⟩) (qX qB) c).setCell (p:=⟨g,3,none⟩) (qX qB) d
abbrev mzO: Obj:=.cells #[.int .i64 0,.int .i64 0,.int .u64 0,.slice none 0 0] 47
section
variable {At:jK}(api:jY At){w0 w:World}{gd:Nat}{D:zr}{E:List Nat}
include api
theorem QD{w1 w2:World}{g:Nat}{D':zr}(m:∀b∈E,b<g)(n:w0.heap.size<=g)(h:DS At w0 gd D' (g::E) w1)(o:zt E w w1)(i:Below w1.heap.size w1 w2)(a b c d:Value):
  DS At w0 gd D' E (uE w2 g a b c d)/\zt E w (uE w2 g a b c d):=by
 have j:=h.below api i;have k:=P6 w2 g a b c d;have l:=j.x5 api k (fun x f=>by rw[qE.1 f];exact⟨qB,n⟩);refine⟨l.less (fun x f=>qF _ f),(o.trans (zt.qm i (fun b i=>h.lt b (qF _ i)))).trans (zt.xK k fun x f=>⟨j.lt x (qF _ f),fun p=>?_⟩)⟩;have:=m x f;rw[qE.1 p]at this;exact Nat.lt_irrefl _ this
theorem P7(h:DS At w0 gd D E w)(ok:WfP D)(hc:D.count<=1099511627776):Calls prog 132 #[ptr gd] w (QY At w0 gd D E w):=by
 have hz:=Zd ok jG;have ag:=ok.cap;have aa:=(Below.refl w.heap.size w).alloc (qZ _) mzO;have f:=za.new w 47 #[.int .i64 0,.int .i64 0,.int .u64 0,.slice none 0 0]
 have o:DS At w0 gd D (w.heap.size::E) (w.alloc mzO):=h.more api aa (B:=[w.heap.size]) (fun b hb=>by
  rw[qE.1 hb];exact⟨qZ _,f.lt⟩)
 have N:=zt.qm aa h.lt;have ab:=h.lt;have ac:=h.kept.size;obtain⟨g,ao⟩:∃g,w.heap.size=g:=⟨_,rfl⟩
 rw[ao]at o f ab ac;obtain⟨I,al⟩:∃I,w.alloc mzO=I:=⟨_,rfl⟩
 rw[al]at o f N;unfold mzO at al;have p:Calls prog 129 #[ptr gd,.string ⟨#[109,97,112]⟩] I fun e w'=>e = .returned (.tuple #[.int .i64 ((jQ D jG).1:Nat),err (jQ D jG).2])/\I=w':=o.size api ok jG (by decide)
 have J:Calls prog 130 #[ptr gd,.string ⟨#[109,97,112]⟩,.int .i64 0,.int .i64 ((jQ D jG).1:Nat)] I (yJ At w0 gd (.tuple #[.string (jx D jG 0 ((jQ D jG).1:Nat)).1,err (jx D jG 0 ((jQ D jG).1:Nat)).2.1]) (jx D jG 0 ((jQ D jG).1:Nat)).2.2 (g::E) I) :=
  o.qi api (fun F hF=>api.read jG 0 ((jQ D jG).1:Nat) hF ok.ok hc (by decide) (WalkArith.wf_i64 (by omega)) (by decide))
 have ae:=ox ok jG;have j:=qQ (qU f (qU N (qU ab (qU ac o))));unfold QY;by_cases k:(jQ D jG).2=0
 case neg =>
  obtain⟨q,u,C⟩:=P3 k;rw[q,u,C];have t:(((jQ D jG).2:Int) != 0)=true:=by simp;omega
  generalize (jQ D jG).1=z at*;generalize (jQ D jG).2=y at*;have O:=qQ p;have P:=f.cell 0;have Q:=f.cell 1;have S:=f.cell 2;have T:=f.cell 3;have f0:=f.frozen 0;have f1:=f.frozen 1;have f2:=f.frozen 2;have f3:=f.frozen 3;simp only[List.getElem?_toArray]at P Q S T;clear p J ae hz k q u C h ok hc aa o N ab ac f ag;go_enter func132,ntmps132;go_wp2_with fail;refine O.out.mono ?_;rintro e w1⟨rfl,rfl⟩;go_wp2;have d:=l8 j.out.1 (.int .i64 0) (.int .i64 0) (.int .u64 0) (.slice none 0 0);have i:=QD api j.out.2.2.1 j.out.2.2.2.1 j.out.2.2.2.2 j.out.2.1 (Below.refl _ _) (.int .i64 0) (.int .i64 0) (.int .u64 0) (.slice none 0 0);unfold uE at d i;obtain⟨G,ad⟩:∃G,G=(((I.setCell ⟨g,0,none⟩ (.int .i64 0)).setCell ⟨g,1,none⟩ (.int .i64 0)).setCell ⟨g,2,none⟩ (.int .u64 0)).setCell ⟨g,3,none⟩ (.slice none 0 0):=⟨_,rfl⟩
  rw[<-ad]at d i ⊢;have U:=d.cell 0;have V:=d.cell 1;have X:=d.cell 2;have Y:=d.cell 3;exact bodyPost_ret (v:=.tuple #[j9 0 0 0 (.slice none 0 0),.int .i64 (y:Nat)]) (by simp[results,Tryz.results132,go_sem,U,V,X,Y];rfl) rfl ⟨0,0,0,none,0,0,[],rfl,rfl,rfl,kQ.nil _ _ _,by decide,by decide,by decide,i.1,i.2⟩
 have er:rdW D jG=jx D jG 0 ((jQ D jG).1:Nat):=by unfold rdW;rw[qK k]
 rw[er]at ae;by_cases Z:(jx D jG 0 ((jQ D jG).1:Nat)).2.1=0
 case neg =>
  obtain⟨q,u,C⟩:=P4 k Z;rw[q,u,C];rw[k]at p;have t:(((jx D jG 0 ((jQ D jG).1:Nat)).2.1:Int) != 0)=true:=by simp;omega
  generalize jx D jG 0 ((jQ D jG).1:Nat)=r at*;generalize (jQ D jG).1=z at*;generalize r.2.1=y at*;have O:=qQ p;have K2:=qQ J;clear p J ae hz k Z q u C h ok hc aa o N ab ac f ag er;go_enter func132,ntmps132;go_wp2_with fail;refine O.out.mono ?_;rintro e w1⟨rfl,rfl⟩;go_wp2_with fail;refine K2.out.mono ?_;rintro e w2⟨rfl,q1,H⟩;have a:=H.qp j.out.1 qB;have P:=a.cell 0;have Q:=a.cell 1;have S:=a.cell 2;have T:=a.cell 3;have f0:=a.frozen 0;have f1:=a.frozen 1;have f2:=a.frozen 2;have f3:=a.frozen 3;simp only[List.getElem?_toArray]at P Q S T;have l:=qQ (qU q1 (qU H a));clear q1 H a;go_wp2;have d:=l8 l.out.2.2 (.int .i64 0) (.int .i64 0) (.int .u64 0) (.slice none 0 0);have i:=QD api j.out.2.2.1 j.out.2.2.2.1 l.out.1 (j.out.2.1.trans (l.out.2.1.less (fun b hb=>qF _ hb))) (Below.refl _ _) (.int .i64 0) (.int .i64 0) (.int .u64 0) (.slice none 0 0);unfold uE at d i;obtain⟨G,ad⟩:∃G,G=(((w2.setCell ⟨g,0,none⟩ (.int .i64 0)).setCell ⟨g,1,none⟩ (.int .i64 0)).setCell ⟨g,2,none⟩ (.int .u64 0)).setCell ⟨g,3,none⟩ (.slice none 0 0):=⟨_,rfl⟩
  rw[<-ad]at d i ⊢;have U:=d.cell 0;have V:=d.cell 1;have X:=d.cell 2;have Y:=d.cell 3;exact bodyPost_ret (v:=.tuple #[j9 0 0 0 (.slice none 0 0),.int .i64 (y:Nat)]) (by simp[results,Tryz.results132,go_sem,U,V,X,Y];rfl) rfl ⟨0,0,0,none,0,0,[],rfl,rfl,rfl,kQ.nil _ _ _,by decide,by decide,by decide,i.1,i.2⟩
 obtain⟨q,u,C⟩:=P5 k Z;rw[q,u,C];rw[k]at p;rw[Z]at J;generalize jx D jG 0 ((jQ D jG).1:Nat)=r at*;generalize (jQ D jG).1=z at*;generalize r.2.2=D' at*;have HG:=qQ (fun W=>P0 r.1 W (by omega));generalize r.1=s at*;have O:=qQ p;have K2:=qQ J;clear p J ae hz k Z q u C h ok hc aa o N ab ac f ag er;go_enter func132,ntmps132;go_wp2_with fail;refine O.out.mono ?_;rintro e w1⟨rfl,rfl⟩;go_wp2_with fail;refine K2.out.mono ?_;rintro e w2⟨rfl,q1,H⟩;have a:=H.qp j.out.1 qB;have l:=qQ (qU q1 (qU H a));have ah:=qQ (HG.out w2);clear q1 H a HG;go_wp2_with fail;refine ah.out.mono ?_;rintro e w3⟨K,L,M,A,n,c,R,rfl,hm,hn,ak,af,am,ai,hL⟩;have a:=l7 l.out.2.2 af;have P:=a.cell 0;have Q:=a.cell 1;have S:=a.cell 2;have T:=a.cell 3;have f0:=a.frozen 0;have f1:=a.frozen 1;have f2:=a.frozen 2;have f3:=a.frozen 3;simp only[List.getElem?_toArray]at P Q S T;have m:=qQ (qU hm (qU hn (qU ak (qU af (qU am (qU ai (qU hL a)))))));have aj:g<w2.heap.size:=l.out.2.2.lt;have an:=qQ aj;unfold j9;clear hm hn ak af am ai hL a ah aj;go_wp2;have d:=l8 m.out.2.2.2.2.2.2.2 (.int .i64 K) (.int .i64 L) (.int .u64 (M:Nat)) (.slice A n c);have i:=QD api j.out.2.2.1 j.out.2.2.2.1 l.out.1 (j.out.2.1.trans (l.out.2.1.less (fun b hb=>qF _ hb))) m.out.2.2.2.1 (.int .i64 K) (.int .i64 L) (.int .u64 (M:Nat)) (.slice A n c);have hH:=(kz.manSet m.out.2.2.1 an.out (.int .i64 K) (.int .i64 L) (.int .u64 (M:Nat)) (.slice A n c)).has;unfold uE at d i hH;obtain⟨G,ad⟩:∃G,G=(((w3.setCell ⟨g,0,none⟩ (.int .i64 K)).setCell ⟨g,1,none⟩ (.int .i64 L)).setCell ⟨g,2,none⟩ (.int .u64 (M:Nat))).setCell ⟨g,3,none⟩ (.slice A n c):=⟨_,rfl⟩
 rw[<-ad]at d i hH ⊢;have U:=d.cell 0;have V:=d.cell 1;have X:=d.cell 2;have Y:=d.cell 3;exact bodyPost_ret (v:=.tuple #[j9 K L M (.slice A n c),.int .i64 (mgE s)]) (by simp[results,Tryz.results132,go_sem,U,V,X,Y];rfl) rfl ⟨K,L,M,A,n,c,R,rfl,m.out.1,m.out.2.1,hH,m.out.2.2.2.2.2.2.1,m.out.2.2.2.2.2.1,m.out.2.2.2.2.1,i.1,i.2⟩
end
theorem P8{D:zr}{m:jS}(c:jr m)(h:(jL D zw).1≠0)(b:(jL D zw).1≠4):bu D m=jL D zw:=by
 unfold bu;rw[qJ (by simpa using c)];by_cases a:D.down=true
 ·rw[qK a];unfold jL;rw[qK a]
 ·rw[qJ a,qK ⟨h,b⟩]
theorem P9{D:zr}{m:jS}(b:jr m)(h:(jL D zw).1=0∨(jL D zw).1=4):
  bu D m=if ((jL D zw).2.cap:Int)-(jX (jL D zw).2.l:Nat)-((mfB m).size:Nat)<6000 then(60,(jL D zw).2) else uj (jL D zw).2 (mfB m):=by
 have a:¬D.down=true:=fun a=>by
  have e:jL D zw=(61,D):=by unfold jL;rw[qK a]
  rw[e]at h;simp at h
 unfold bu uj;rw[qJ (by simpa using b),qJ a,qJ (by omega)]
section
variable {At:jK}(api:jY At){w0 w:World}{gd:Nat}{D:zr}{E:List Nat}
include api
theorem Pq(n c:Int)(d:Nat)(A:Option Addr)(k cp:Nat)(R:LvL)(h:DS At w0 gd D E w)(ok:WfP D)(O:cX w0 E w (.slice A k cp) R)(T:k=R.length)(U:R.flatten.length<=100000)(Q:R.length<=100000)(S:d<18446744073709551616):
  Calls prog 180 #[ptr gd,j9 n c d (.slice A k cp)] w (yJ At w0 gd (err (bu D ⟨n,c,d,R⟩).1) (bu D ⟨n,c,d,R⟩).2 E w):=by
 have P:=O.now h;have J:=(Below.refl w.heap.size w).alloc (qZ _) (kF n c d (.slice A k cp));have m:=za.new w 47 #[.int .i64 n,.int .i64 c,.int .u64 (d:Nat),.slice A k cp];have v:=h.box api (kF n c d (.slice A k cp));have H:=P.below J (qZ _);have G:=zt.qm J h.lt;obtain⟨g,ad⟩:∃g,w.heap.size=g:=⟨_,rfl⟩
 rw[ad]at m;obtain⟨r,af⟩:∃r,w.alloc (kF n c d (.slice A k cp))=r:=⟨_,rfl⟩
 rw[af]at m v H G;have K:=VL api v ok;have q:=qQ (V4 n c d A k cp R r H T U Q S);have m0:r.cell? ⟨g,0,none⟩=some (.int .i64 n):=m.cell 0;have m1:r.cell? ⟨g,1,none⟩=some (.int .i64 c):=m.cell 1;have m2:r.cell? ⟨g,2,none⟩=some (.int .u64 (d:Nat)):=m.cell 2;have m3:r.cell? ⟨g,3,none⟩=some (.slice A k cp):=m.cell 3;unfold fO at q;unfold j9 at q ⊢
 have ab:∃u:Nat,(if D.down=true then 61 else 0)=u/\((u:Int)==1)=false:=by
  cases D.down
  ·exact⟨0,rfl,rfl⟩
  ·exact⟨61,rfl,rfl⟩
 obtain⟨u,V,tu⟩:=ab;rw[V]at K;have M:=qQ K;have i:=qQ (qU v G);by_cases o:jr ⟨n,c,d,R⟩
 case neg =>
  obtain⟨z,B⟩:=rP o;rw[z,B]at q;rw[DR o];clear P J m v H G h ok O T U Q S o z B V K;go_enter func180,ntmps180;go_wp2_with fail;refine M.out.mono ?_;rintro e w1⟨rfl,rfl⟩;go_wp2_with fail;refine q.out.mono ?_;rintro e w2⟨rfl,a⟩;have j:=qQ (qU (i.out.1.below api a) (i.out.2.trans (zt.qm a i.out.1.lt)));clear a;go_wp2;go_ret;exact⟨rfl,j.out.1,j.out.2⟩
 obtain⟨z,B⟩:=rR o;rw[z,B]at q;have ag:=GI o;have o1:=lK ok zw;have k2:∀W,DS At w0 gd D E W->Calls prog 125 #[ptr gd,.string ⟨#[110,101,119]⟩] W (yJ At w0 gd (err (jL D zw).1) (jL D zw).2 E W):=fun W I=>I.qi api (fun F hF=>api.delete zw hF ok.ok (by decide))
 by_cases Z:(jL D zw).1≠0/\(jL D zw).1≠4
 ·rw[P8 o Z.1 Z.2];have t1:(((jL D zw).1:Int) != 0)=true:=by simp;omega
  have t2:(((jL D zw).1:Int) != 4)=true:=by simp;omega
  have N:=qQ k2;generalize jL D zw=X at*;generalize X.1=y at*;generalize mfB ⟨n,c,d,R⟩=s at*;clear P J m v H G h ok O T U Q S o z B V K k2 Z o1;go_enter func180,ntmps180;go_wp2_with fail;refine M.out.mono ?_;rintro e w1⟨rfl,rfl⟩;go_wp2_with fail;refine q.out.mono ?_;rintro e w2⟨rfl,a⟩;have j:=qQ (qU (i.out.1.below api a) (i.out.2.trans (zt.qm a i.out.1.lt)));clear a;go_wp2_with fail;refine(N.out _ j.out.1).mono ?_;rintro e w3⟨rfl,q1,q2⟩;have p:=qQ (qU q1 (j.out.2.trans q2));clear q1 q2;go_wp2;go_ret;exact⟨rfl,p.out.1,p.out.2⟩
 have aa:(jL D zw).1=0∨(jL D zw).1=4:=by omega
 have tz:((((jL D zw).1:Int) != 0)=false)∨((((jL D zw).1:Int) != 0)=true/\(((jL D zw).1:Int) != 4)=false):=by
  rcases aa with e|e
  ·exact qX (by rw[e];rfl)
  ·exact qY ⟨by rw[e];rfl,by rw[e];rfl⟩
 rw[P9 o aa];have L:=lK ok zw;have ac:=L.cap;have ae:=L.used;generalize jL D zw=X at*;generalize mfB ⟨n,c,d,R⟩=s at*;have k3:∀W,DS At w0 gd X.2 E W->Calls prog 177 #[ptr gd] W (yJ At w0 gd (.int .i64 ((X.2.cap:Int)-(jX X.2.l:Nat))) X.2 E W):=fun W I=>I.qi api (fun F hF=>api.free hF L.ok)
 have k4:∀W,DS At w0 gd X.2 E W->Calls prog 236 #[ptr gd,.string s] W (yJ At w0 gd (err (uj X.2 s).1) (uj X.2 s).2 E W):=fun W I=>Oc api I L s (by omega)
 obtain⟨y,hy⟩:∃y:Int,(X.2.cap:Int)-(jX X.2.l:Nat)=y:=⟨_,rfl⟩
 have y1:y<=1048576:=by omega
 have y2:0<=y:=by omega
 have q1:IntKind.i64.wrap (y-(s.size:Int))=y-(s.size:Int):=IntWalk.i64_in _ ⟨by omega,by omega⟩;rw[hy]at k3 ⊢;have N:=qQ k2;have K3:=qQ k3;have K4:=qQ k4;generalize uj X.2 s=Y at*;generalize X.2=D1 at*;generalize X.1=x at*;clear P J m v H G h ok O T U Q S o z B V K k2 Z o1 k3 k4 aa L ac ae hy;by_cases hr:y-(s.size:Int)<6000
 ·rw[qK hr];rcases tz with t|⟨t,t'⟩
  all_goals
   go_enter func180,ntmps180;go_wp2_with fail;refine M.out.mono ?_;rintro e w1⟨rfl,rfl⟩;go_wp2_with fail;refine q.out.mono ?_;rintro e w2⟨rfl,a⟩;have j:=qQ (qU (i.out.1.below api a) (i.out.2.trans (zt.qm a i.out.1.lt)));clear a;go_wp2_with fail;refine(N.out _ j.out.1).mono ?_;rintro e w3⟨rfl,b,f⟩;have p:=qQ (qU b (j.out.2.trans f));clear b f;go_wp2_with fail;refine(K3.out _ p.out.1).mono ?_;rintro e w4⟨rfl,b,f⟩;have C:=qQ (qU b (p.out.2.trans f));clear b f;go_wp2;go_ret;exact⟨rfl,C.out.1,C.out.2⟩
 ·rw[qJ hr];rcases tz with t|⟨t,t'⟩
  all_goals
   go_enter func180,ntmps180;go_wp2_with fail;refine M.out.mono ?_;rintro e w1⟨rfl,rfl⟩;go_wp2_with fail;refine q.out.mono ?_;rintro e w2⟨rfl,a⟩;have j:=qQ (qU (i.out.1.below api a) (i.out.2.trans (zt.qm a i.out.1.lt)));clear a;go_wp2_with fail;refine(N.out _ j.out.1).mono ?_;rintro e w3⟨rfl,b,f⟩;have p:=qQ (qU b (j.out.2.trans f));clear b f;go_wp2_with fail;refine(K3.out _ p.out.1).mono ?_;rintro e w4⟨rfl,b,f⟩;have C:=qQ (qU b (p.out.2.trans f));clear b f;go_wp2_with fail;refine(K4.out _ C.out.1).mono ?_;rintro e w5⟨rfl,b,f⟩;have H5:=qQ (qU b (C.out.2.trans f));clear b f;go_wp2;go_ret;exact⟨rfl,H5.out.1,H5.out.2⟩
end
section
variable {At:jK}(api:jY At)(nap:jz){w0 w:World}{gd:Nat}{D:zr}{E:List Nat}
include api nap
theorem Px(n c:Int)(d:Nat)(A:Option Addr)(k cp:Nat)(R:LvL)(h:DS At w0 gd D E w)(ok:WfP D)(hH:cX w0 E w (.slice A k cp) R)(hl:R.flatten.length<=100000)(hL:R.length<=100000):
  Calls prog 135 #[ptr gd,j9 n c d (.slice A k cp)] w (VD At w0 gd D ⟨n,c,d,R⟩ E w):=by
 have aw:=hH.now h;have f:=(Below.refl w.heap.size w).alloc (qZ _) (kF n c d (.slice A k cp));have W:=za.new w 47 #[.int .i64 n,.int .i64 c,.int .u64 (d:Nat),.slice A k cp];have h0:=h.box api (kF n c d (.slice A k cp));have ad:=aw.below f (qZ _);have K0:=zt.qm f h.lt;have aj:=h.names api;obtain⟨g,aO⟩:∃g,w.heap.size=g:=⟨_,rfl⟩
 rw[aO]at W;obtain⟨wa,aP⟩:∃wa,w.alloc (kF n c d (.slice A k cp))=wa:=⟨_,rfl⟩
 rw[aP]at W h0 ad K0;have J:=qQ (pP _ R wa ad hl hL);unfold bl at J;have m3:wa.cell? ⟨g,3,none⟩=some (.slice A k cp):=W.cell 3;have T:=qQ (qU h0 K0);have aM:=qQ ok;have ag:(D.l.map zi.name).length<=400:=by rw[qj];exact ok.many
 obtain⟨y,Z⟩:∃y,R.flatten=y:=⟨_,rfl⟩
 have aF:=qQ Z;rw[Z]at J;have aG:=qQ (show y.length<=100000 by rw[<-Z];exact hl);obtain⟨P,ah⟩:∃P,P=y.length:=⟨_,rfl⟩
 have aQ:=qQ ah;rw[<-ah]at J;obtain⟨o,ae⟩:∃o,D.l.map zi.name=o:=⟨_,rfl⟩
 rw[ae]at aj ag;have ar:=qQ ae;have aL:=qQ aj;have aJ:=qQ ag;unfold j9;clear h ok hH aw f W h0 ad K0 aj ag Z ah ae hl hL;go_enter func135,ntmps135;go_wp2_with fail;refine J.out.mono ?_;rintro e w1⟨A3,c3,rfl,H,b1⟩;have ay:=T.out.1.more api b1 (B:=jA (.slice A3 P c3)) (fun b f=>H.block b (jq.1 f));have aA:ju w1 (.slice A3 P c3) y:=H.qw;have ao:=qQ (T.out.2.trans (zt.qm b1 T.out.1.lt));have aq:=qQ (O4 api ay aM.out);have an:=qQ aA;clear H ay aA b1 J m3;go_wp2_with fail;refine aq.out.mono ?_;rintro e Q⟨v,B,rfl,hs,az,af,hB⟩;rw[ar.out]at hs;have aB:=af.ints an.out (fun b f=>qA _ f);have aI:=qQ (ao.out.trans (af.less (fun b f=>qV _ f)));have am:=qQ az;have aH:=qQ aB;obtain⟨S,os,cs,rfl,ms,hc⟩:=hs.cell;unfold maxLen at ms
 have HC:=qQ (fun W' (aN:Below Q.heap.size Q W') (i:Nat) (x:Tw) (I:o[i]? = some x)=>(by
  obtain⟨b,e1,X⟩:=hc i x I;exact⟨b,e1,(aN.cell (p:=⟨b,os+i,none⟩) (World.block_lt_of_cell? _ _ X)).trans X⟩:∃b,S=some ⟨b,os,none⟩/\W'.cell? ⟨b,os+i,none⟩=some (.string x)))
 obtain⟨N,Y⟩:∃N,N=o.length:=⟨_,rfl⟩
 have HN:=qQ Y;have aK:=qQ (show N<=400 by rw[Y];exact aJ.out);rw[<-Y]at ms ⊢;clear hs az af hB aB hc Y aq an ao T;go_wp2;go_loopg [6,15] N (fun g u i wr=>∃(j:Nat) (C:Option Addr) (r F:Nat),j+g=N/\i = .int .i64 j/\u = .slice C r F/\r=(ye (o.take j) ⟨n,c,d,R⟩).length/\yj wr Q.heap.size (.slice C r F) (ye (o.take j) ⟨n,c,d,R⟩)/\Below Q.heap.size Q wr)
 case atStart=>exact⟨0,none,0,0,by omega,rfl,rfl,rfl,yj.nil _ _,Below.refl _ _⟩
 case round =>
  obtain⟨j,C,r,F,aR,rfl,rfl,ai,H,ax⟩:=hrel;have L:=qQ ai;have U:=qQ H;have s:=qQ ax;have ap:=qQ (show r<=400 by rw[ai];exact qR (Zh _ _) (by rw[qq];have:=aK.out;omega));clear H ax ai;by_cases aC:j<N
  case neg =>
   obtain rfl:j=N:=(by omega);have t2:decide ((j:Int)<(j:Int))=false:=qG (by omega);have a:o.take j=o:=(by rw[HN.out,List.take_length]);have HT:=qQ a;clear a;go_wp2;go_ret;have hr:=U.out;rw[HT.out]at hr;refine⟨.slice C r F,rfl, ?_, ?_, ?_⟩
   ·rw[ar.out];exact hr.qw
   ·exact(am.out.more api s.out (B:=jA (.slice C r F)) (fun b f=>hr.block b (jq.1 f))).less (fun b f=>(qC.1 f).elim (qA _) (fun f=>qV _ (qV _ (qV _ f))))
   ·exact aI.out.trans (zt.qm s.out (fun b f=>am.out.lt b (qV _ (qV _ f))))
  have t2:decide ((j:Int)<(N:Int))=true:=qW (by omega);have aS:(j:Int)<(N:Int):=by omega
  obtain⟨x,I⟩:∃x,o[j]? = some x:=by
   rw[HN.out]at aC;exact⟨o[j],qD aC⟩
  have aE:=aL.out x (qO I);obtain⟨b,e1,X⟩:=HC.out wr s.out j x I;subst e1;have ak:=D7 (m:=⟨n,c,d,R⟩) I;have aD:ya (⟨n,c,d,R⟩:jS).lv.flatten x=(decide (x=zw)||(kR x&&!decide (npK x=99)&&!decide ((npN x:Int)∈y))):=by rw[<-aF.out];rfl
  rw[aD]at ak;have HO:=qQ (Of nap x (.slice A3 P c3) y wr aE (aH.out.below s.out (qZ _)) (by have:=aG.out;omega));have V:=qQ ak;clear I aE aD ak;generalize (kR x&&!decide (npK x=99)&&!decide ((npN x:Int)∈y))=q at*;cases gk with
  | zero=>omega
  | succ gj =>
  by_cases G:x=zw
  ·have al:x.toList=[110,101,119]:=(by rw[Lib.toList_data,G];rfl);have tn:(x.toList==[110,101,119])=true:=(by rw[al];rfl);have a:=V.out;rw[qW G,Bool.true_or,qK rfl]at a;obtain⟨w5,u5,M,⟨A6,c6,rfl,z⟩,O⟩:=VM (x:=x) U.out L.out (by have:=ap.out;omega) s.out.size 55;rw[<-a]at z;have K:=qQ (show r+1=(ye (o.take (j+1)) ⟨n,c,d,R⟩).length by rw[a,qI,<-L.out];rfl);have ab:=qQ M;have t:=qQ z;have ac:=qQ (s.out.trans O);clear M z O a G V HO;go_wp2_with (first | (at_builtin;refine yc rfl _ _ rfl rfl rfl ab.out ?_) | fail);go_roundg gj
   case measure=>omega
   case rel=>exact⟨j+1,A6,r+1,c6,by omega,by go_num,by first | rfl | go_num,K.out,t.out,ac.out⟩
  have al:¬x.toList=[110,101,119]:=fun h=>G (by rw[Lib.toList_data]at h;exact ByteArray.ext (Array.toList_inj.1 h))
  have tn:(x.toList==[110,101,119])=false:=qy.2 al;have a:=V.out;rw[qG G,Bool.false_or]at a;have av:=qQ a;clear V a G;go_wp2_with fail;refine HO.out.mono ?_;rintro e w3⟨rfl,b3⟩;have au:=qQ (U.out.below b3 (qZ _));have aa:=qQ (s.out.trans (b3.mono s.out.size));clear b3 U s X;cases q with
  | false =>
    have a:=av.out;rw[qJ (by simp),List.append_nil]at a;have t:=au.out;rw[<-a]at t;have K:=qQ (show r=(ye (o.take (j+1)) ⟨n,c,d,R⟩).length by rw[a];exact L.out);have t:=qQ t;clear a;go_wp2_with fail;go_roundg gj
    case measure=>omega
    case rel=>exact⟨j+1,C,r,F,by omega,by go_num,by first | rfl | go_num,K.out,t.out,aa.out⟩
  | true =>
    have a:=av.out;rw[qK rfl]at a;obtain⟨w5,u5,M,⟨A6,c6,rfl,z⟩,O⟩:=VM (x:=x) au.out L.out (by have:=ap.out;omega) aa.out.size 55;rw[<-a]at z;have K:=qQ (show r+1=(ye (o.take (j+1)) ⟨n,c,d,R⟩).length by rw[a,qI,<-L.out];rfl);have ab:=qQ M;have t:=qQ z;have ac:=qQ (aa.out.trans O);clear M z O a;go_wp2_with (first | (at_builtin;refine yc rfl _ _ rfl rfl rfl ab.out ?_) | fail);go_roundg gj
    case measure=>omega
    case rel=>exact⟨j+1,A6,r+1,c6,by omega,by go_num,by first | rfl | go_num,K.out,t.out,ac.out⟩
end
theorem Pz(D:zr)(x:Tw)(a:List Tw):cI D (x::a)=if (jL D x).1≠0 then jL D x else cI (jL D x).2 a:=rfl
section
variable {At:jK}(api:jY At)(nap:jz){w0 w:World}{gd:Nat}{D:zr}{E:List Nat}
include api nap
theorem Pj(n c:Int)(d:Nat)(A:Option Addr)(k cp:Nat)(R:LvL)(h:DS At w0 gd D E w)(ok:WfP D)(T:cX w0 E w (.slice A k cp) R)(Z:R.flatten.length<=100000)(U:R.length<=100000):
  Calls prog 83 #[ptr gd,j9 n c d (.slice A k cp)] w (yJ At w0 gd (err (fU D ⟨n,c,d,R⟩).1) (fU D ⟨n,c,d,R⟩).2 E w):=by
 have a:=(Below.refl w.heap.size w).alloc (qZ _) (kF n c d (.slice A k cp));have p:=za.new w 47 #[.int .i64 n,.int .i64 c,.int .u64 (d:Nat),.slice A k cp];have q:=h.box api (kF n c d (.slice A k cp));have B:=zt.qm a h.lt;have aa:=h.names api;obtain⟨g,ar⟩:∃g,w.heap.size=g:=⟨_,rfl⟩
 rw[ar]at p;obtain⟨r,av⟩:∃r,w.alloc (kF n c d (.slice A k cp))=r:=⟨_,rfl⟩
 rw[av]at p q B;have z:=qQ (VL api q ok);have u:=qQ (Px api nap n c d A k cp R q ok (T.step B) Z U);unfold VD at u;unfold fU;have O:=qQ (qU q B);by_cases m:D.down=true
 ·rw[qK m];rw[qK m]at z;unfold j9;clear h ok T a p q B aa Z U u m;go_enter func83,ntmps83;go_wp2_with fail;refine z.out.mono ?_;rintro e w1⟨rfl,rfl⟩;go_wp2;go_ret;exact⟨rfl,O.out.1,O.out.2⟩
 rw[qJ m];rw[qJ m]at z;have aj:∀x∈ye (D.l.map zi.name) ⟨n,c,d,R⟩,x.size<=maxLen:=fun x f=>aa x (List.mem_filter.1 f).1
 have ai:(ye (D.l.map zi.name) ⟨n,c,d,R⟩).length<=400:=qR (Zh _ _) (by rw[qj];exact ok.many);generalize ye (D.l.map zi.name) ⟨n,c,d,R⟩=L at*;have m0:r.cell? ⟨g,0,none⟩=some (.int .i64 n):=p.cell 0;have m1:r.cell? ⟨g,1,none⟩=some (.int .i64 c):=p.cell 1;have m2:r.cell? ⟨g,2,none⟩=some (.int .u64 (d:Nat)):=p.cell 2;have m3:r.cell? ⟨g,3,none⟩=some (.slice A k cp):=p.cell 3;have am:=qQ aj;have al:=qQ ai;have ao:=qQ ok;unfold j9 at u ⊢;clear h ok T a p q B aa Z U m aj ai;go_enter func83,ntmps83;go_wp2_with fail;refine z.out.mono ?_;rintro e w1⟨rfl,rfl⟩;go_wp2_with fail;refine u.out.mono ?_;rintro e w2⟨v,rfl,hs,ag,ah⟩;have ap:=qQ hs;have ad:=qQ ag;have ae:=qQ (O.out.2.trans ah);obtain⟨S,os,cs,rfl,ms,hc⟩:=hs.cell;unfold maxLen at ms
 have HC:=qQ (fun W' (K:zt (jA (.slice S L.length cs)++E) w2 W') (i:Nat) (x:Tw) (f:L[i]? = some x)=>(by
  obtain⟨b,P,e2⟩:=hc i x f;subst P;exact⟨b,rfl,(World.cell?_of_block (w:=w2) (K.block b (qA _ (jq.2 rfl)))).trans e2⟩:∃b,S=some ⟨b,os,none⟩/\W'.cell? ⟨b,os+i,none⟩=some (.string x)))
 obtain⟨N,V⟩:∃N,N=L.length:=⟨_,rfl⟩
 have HN:=qQ V;rw[<-V]at ms HC ad al ⊢;clear hs ag ah hc V u z ap m0 m1 m2 m3;go_wp2;go_loopg [18] N (fun g' i wr=>∃(j:Nat) (o:zr),j+g'=N/\i = .int .i64 j/\cI D L=cI o (L.drop j)/\WfP o/\DS At w0 gd o (jA (.slice S N cs)++E) wr/\zt (jA (.slice S N cs)++E) w2 wr)
 case atStart=>exact⟨0,D,by omega,rfl,rfl,ao.out,ad.out,zt.refl _ _⟩
 case round =>
  obtain⟨j,o,aw,rfl,he,ak,m,K⟩:=hrel;have HE:=qQ he;have HD:=qQ m;have I:=qQ K;have af:=qQ ak;clear he ak m K;by_cases au:j<N
  case neg =>
   obtain rfl:j=N:=(by omega);have t2:decide ((j:Int)<(j:Int))=false:=qG (by omega);have ht:L.drop j=[]:=(by rw[HN.out,List.drop_length]);have Q:=HE.out;rw[ht]at Q;have H1:=qQ Q;clear ht Q;go_wp2;go_ret;rw[H1.out];exact⟨rfl,HD.out.less (fun b a=>qV _ a),ae.out.trans (I.out.less (fun b a=>qV _ a))⟩
  have t2:decide ((j:Int)<(N:Int))=true:=qW (by omega);have ax:(j:Int)<(N:Int):=by omega
  have Y:j<L.length:=by rw[<-HN.out];exact au
  obtain⟨x,f⟩:∃x,L[j]? = some x:=⟨L[j],qD Y⟩
  have ab:=am.out x (qO f)
  have W:L.drop j=x::L.drop (j+1):=by
   rw[List.drop_eq_getElem_cons Y];rw[qD Y]at f;rw[qv f]
  obtain⟨b,P,e2⟩:=HC.out wr I.out j x f;subst P;have hst:=HE.out;rw[W,Pz]at hst;have M:=qQ (HD.out.qi api (fun F hF=>api.delete x hF af.out.ok ab));have o1:=lK af.out x;cases gk with
  | zero=>omega
  | succ gj =>
  by_cases C:(jL o x).1=0
  ·rw[qJ (by simp[C])]at hst;rw[C]at M;have J:=qQ hst;have an:=qQ o1;clear f ab W hst o1 C;generalize (jL o x).2=ac at*;go_wp2_with fail;refine M.out.mono ?_;rintro e w3⟨rfl,G,H⟩;have s:=qQ (qU G (I.out.trans H));clear G H;go_wp2_with fail;go_roundg gj
   case measure=>omega
   case rel=>exact⟨j+1,ac,by omega,by go_num,J.out,an.out,s.out.1,s.out.2⟩
  ·rw[qK C]at hst;have t:(((jL o x).1:Int) != 0)=true:=(by simp;omega);have J:=qQ hst;clear f ab W hst o1 C;generalize jL o x=X at*;have aq:Hid (cI D L=(X.1,X.2)):=qQ J.out;clear J;generalize X.2=ac at*;generalize X.1=y at*;go_wp2_with fail;refine M.out.mono ?_;rintro e w3⟨rfl,G,H⟩;have s:=qQ (qU G (I.out.trans H));clear G H;go_wp2;go_ret;rw[aq.out];exact⟨rfl,s.out.1.less (fun b a=>qV _ a),ae.out.trans (s.out.2.less (fun b a=>qV _ a))⟩
theorem Pk: dS At where
 load:=fun h ok j=>P7 api h ok j
 swap:=fun n c d A k a R h ok b i g f l=>Pq api n c d A k a R h ok b i g f l
 clean:=fun n c d A k a R h ok b i g f=>Pj api nap n c d A k a R h ok b g f
end
end
section
theorem iap: dS yz:=Pk api LH
end
end Go.Proofs.YthejglbnkmimjaaGreat
