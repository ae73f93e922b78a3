import Derived.Test.YthejglbnkmimjaaGreatQp09
import Derived.Deep.AppendLies
set_option linter.unusedVariables false
set_option maxRecDepth 100000
set_option maxHeartbeats 9000000
namespace Go.Proofs.YthejglbnkmimjaaGreat
open Proofs.Tryz
section
open Go.RowKit Go.Shelf
def cz(L:List (List jC))(k:Nat)(d:Int):Prop:=(d<0/\-1<=d/\yq (L.take k)=none)∨∃(j:Nat) (x:jC) (t:List jC),d=(j:Nat)/\j<k/\L[j]? = some (x::t)/\yq (L.take k)=some x
theorem TB(L:List (List jC)):cz L 0 (-1):=qX ⟨by omega,by omega,rfl⟩
theorem TC{L:List (List jC)}{k:Nat}{d:Int}(h:L[k]? = some [])(g:cz L k d):cz L (k+1) d:=by
 unfold cz at*;rw[Xo h];rcases g with⟨a,c,b⟩|⟨j,x,t,a,c,b,f⟩
 ·exact qX ⟨a,c,by rw[b];rfl⟩
 ·exact qY ⟨j,x,t,a,by omega,b,by rw[f];rfl⟩
theorem TD{L:List (List jC)}{k:Nat}{d:Int}{x:jC}{t:List jC}(h:L[k]? = some (x::t))(f:cz L k d)(i:d<0):cz L (k+1) (k:Nat):=by
 unfold cz at*;rw[Xo h];rcases f with⟨b,c,a⟩|⟨j,y,u,b,c,a,g⟩
 ·exact qY ⟨k,x,t,rfl,Nat.lt_succ_self _,h,by rw[a];rfl⟩
 ·omega
theorem TE{L:List (List jC)}{k j:Nat}{x y:jC}{t u:List jC}(h:L[k]? = some (x::t))(l:cz L k (j:Nat))(c:L[j]? = some (y::u)):cz L (k+1) (if jb x y=true then(k:Nat) else(j:Nat)):=by
 unfold cz at*;rw[Xo h];rcases l with⟨d,f,a⟩|⟨i,z,v,d,f,a,g⟩
 ·omega
 ·obtain rfl:j=i:=by omega
  rw[c]at a;obtain⟨rfl,rfl⟩:=List.cons.inj (qb a);rw[g];split
  ·rename_i b;exact qY ⟨k,x,t,rfl,Nat.lt_succ_self _,h,qV b⟩
  ·rename_i b;exact qY ⟨j,y,u,rfl,by omega,c,qZ b⟩
def nW(T:List jC)(L:List (List jC))(k:Nat):Prop:=∀(i:Nat) (x:jC) (t:List jC),i<k->L[i]? = some (x::t)->T.getLast?≠some x
theorem TF(T:List jC)(L:List (List jC)):nW T L 0:=fun i x t h=>absurd h (Nat.not_lt_zero _)
theorem TH{T:List jC}{L:List (List jC)}{k:Nat}(h:L[k]? = some [])(b:nW T L k):nW T L (k+1):=fun i x t d a=>by
 rcases qh i k with c|c
 ·exact b i x t c a
 ·obtain rfl:i=k:=by omega
  rw[h]at a;cases a
theorem TI{T:List jC}{L:List (List jC)}{k:Nat}{x:jC}{t:List jC}(h:L[k]? = some (x::t))(d:T.getLast?≠some x)(b:nW T L k):nW T L (k+1):=fun i y u f a=>by
 rcases qh i k with c|c
 ·exact b i y u c a
 ·obtain rfl:i=k:=by omega
  rw[h]at a;obtain⟨rfl,rfl⟩:=List.cons.inj (qb a);exact d
theorem TL{T:List jC}{L:List (List jC)}(c:nW T L L.length):∀l∈L,∀x t,l=x::t->T.getLast?≠some x:=fun l b x t d=>by
 obtain⟨i,a⟩:=qd b;have:=(qO.1 a).1;subst d;exact c i x t this a
theorem TM{L:List (List jC)}{d:Int}(h:cz L L.length d):(d<0/\-1<=d/\yq L=none)∨∃(j:Nat) (x:jC) (t:List jC),d=(j:Nat)/\j<L.length/\L[j]? = some (x::t)/\yq L=some x:=by
 unfold cz at h;rw[List.take_length]at h;exact h
theorem JG{L:List kP}{k:Nat}{y:kP}(h:L[k]? = some y):(els L)[k]? = some y.l:=by unfold els;rw[qu,h];rfl
theorem nA(L:List kP):(els L).length=L.length:=qz _
theorem G6(L:List kP)(i:Nat)(x:kP):els (L.set i x)=(els L).set i x.l:=List.map_set
theorem dy.set{w:World}{L:List kP}(h:dy w L){i:Nat}{x:kP}(b:kC w x.v x.l):dy w (L.set i x):=fun y a=>by
 rcases List.mem_or_eq_of_mem_set a with a|rfl
 ·exact h y a
 ·exact b
def fE(w:World)(A1:Option Addr)(n c1:Nat)(R:List jC)(g:Nat)(u:Value)(wr:World):Prop:=∃(T:List jC) (a:List kP) (A:Option Addr) (c:Nat),u=.slice A T.length c /\
 jy wr w.1.size (.slice A T.length c) T/\kD wr w.1.size (.slice A1 n c1) a/\a.length=n/\dy w a/\lx g T (els a)/\dJ T (els a)=R/\Below w.1.size w wr
theorem fE.start{w w1:World}{A1:Option Addr}{c1:Nat}{L:List kP}(h:kD w1 w.1.size (.slice A1 L.length c1) L)(b:dy w L)(a:Below w.1.size w w1):fE w A1 L.length c1 (dT (els L)) (2*kr (els L)+1) (.slice none 0 0) w1 :=
 ⟨[],L,none,0,rfl,jy.nil _ _,h,rfl,b,NB _,rfl,a⟩
theorem fE.drop{w w2:World}{n c1 c2 g c k l b:Nat}{A2 B':Option Addr}{R T:List jC}{a:List kP}{x:jC}{t:List jC}
  (m:jy w2 w.1.size (.slice A2 T.length c2) T) (i:kD w2 w.1.size (.slice (some ⟨g,0,none⟩) n c1) a) (f:a.length=n) (p:dy w a) (s:lx c T (els a)) (q:dJ T (els a)=R) (o:Below w.1.size w w2)
  (y:l=T.length) (r:w.1.size<=g) (j:(els a)[k]? = some (x::t)) (v:T.getLast? = some x) (u:kC w (.slice B' t.length b) t):
  0<c/\fE w (some ⟨g,0,none⟩) n c1 R (c-1) (.slice A2 l c2) (w2.setCell ⟨g,k,none⟩ (.slice B' t.length b)):=by
 have d:=NC s j;subst y;refine⟨d.1,T,a.set k ⟨.slice B' t.length b,t⟩,A2,c2,rfl,jy.x9 m i,kD.put i f.symm ⟨.slice B' t.length b,t⟩,by rw[List.length_set,f],p.set u, ?_, ?_,o.setCell r _⟩
 ·rw[G6];exact d.2
 ·rw[G6,NU v j];exact q
theorem fE.add{w w2:World}{n c1 c2 d m:Nat}{A1 A2:Option Addr}{R T:List jC}{a:List kP}{x:jC}
  (r:jy w2 w.1.size (.slice A2 T.length c2) T) (C:kD w2 w.1.size (.slice A1 n c1) a) (B:a.length=n) (s:dy w a) (z:lx d T (els a)) (y:dJ T (els a)=R) (b:Below w.1.size w w2)
  (G:m=T.length) (j:yq (els a)=some x) (k:∀l∈els a,∀x t,l=x::t->T.getLast?≠some x) (F:T.length+1<=1000000):
  0<d/\∃u w',(Builtin.append_ #[112,112] 112 #[.slice A2 m c2,.slice (some ⟨w2.1.size,0,none⟩) 1 1]).run prog (w2.alloc (.cells #[.int .u64 (x.h:Nat),.int .i64 x.v,.int .i64 x.p] 117))=.ok u w'/\fE w A1 n c1 R (d-1) u w':=by
 subst G;have i:=ND z j k;have D:kD (w2.alloc (.cells #[.int .u64 (x.h:Nat),.int .i64 x.v,.int .i64 x.p] 117)) w.1.size (.slice A1 n c1) a:=kD.alloc C _;have f:jy (w2.alloc (.cells #[.int .u64 (x.h:Nat),.int .i64 x.v,.int .i64 x.p] 117)) w.1.size (.slice A2 T.length c2) T:=jy.below r ((qU w2.1.size w2).alloc (qK _) _) (qK _);obtain⟨A,c,w',o,q,g,-⟩:=pw f (Yr w2 x) (by simpa using F) (by have:=b.size;simp;omega) 112;refine⟨i.1,_,w',o,T++[x],a,A,c, ?_, ?_,kD.grown D f g,B,s,i.2,by rw[NG j k];exact y, ?_⟩
 ·rw[qN]
 ·rw[qN];exact q
 ·exact(b.alloc b.size _).trans (rQ g (by have:=b.size;simp;omega) (jy.block f))
theorem G7(v:Value)(L:List kP)(w:World)(hL:tj w v L)(hn:L.length<=500000)(ht:kr (els L)<=500000):
  Calls prog 108 #[v] w (dY w (dT (els L))):=by
 have ae:=qQ (Py v L w hL hn);have an:=qQ (fun w1 A1 c1 h1 h2=>fE.start (w:=w) (w1:=w1) (A1:=A1) (c1:=c1) (L:=L) h1 hL.2 h2);have aX:=qQ (qR (Vi (els L)) ht);unfold Zb at ae;generalize dT (els L)=R at*;generalize 2*kr (els L)+1=G at*;obtain⟨n,aN⟩:∃n,n=L.length:=⟨_,rfl⟩
 rw[<-aN]at hn an ae;clear hL ht aN;go_enter func108,ntmps108;go_wp2_with fail;go_step3;go_wp2_with fail;refine ae.out.mono ?_;rintro e w1⟨A1,c1,rfl,r1,b1⟩;have HS:=qQ (an.out w1 A1 c1 r1 b1);clear an ae r1 b1;go_wp2;go_step3;go_wp2;go_loopg [4] G (fun g u wr=>fE w A1 n c1 R g u wr)
 case atStart=>exact HS.out
 case round =>
  obtain⟨wo,rfl⟩:∃wo,wo=wr:=⟨_,rfl⟩
  obtain⟨go,rfl⟩:∃go,go=gk:=⟨_,rfl⟩
  obtain⟨T,A,A2,c2,rfl,hT,aO,aK,aG,aI,aq,aE⟩:=hrel;have HT:=qQ hT;have am:=qQ aO;have U:=qQ aG;have ay:=qQ aI;have ak:=qQ aq;have aw:=qQ aE;have f:=qQ aK;have aB:=qQ (show T.length<=500000 by have:=NA T (els A);rw[aq]at this;have:=aX.out;omega);obtain⟨tl,av⟩:∃tl,tl=T.length:=⟨_,rfl⟩
  have af:=qQ av;rw[<-av];clear hT aO aG aI aq aE aK av;go_wp2;go_loopg [5,12] n (fun Y s5 a3 wx=>∃(k:Nat) (d:Int),k+Y=n/\a3=.int .i64 k/\s5=.int .i64 d/\cz (els A) k d/\nW T (els A) k/\Below wo.1.size wo wx)
  case atStart=>exact⟨0,-1,by omega,rfl,rfl,TB _,TF _ _,qU _ _⟩
  case round =>
   obtain⟨k,d,a7,rfl,rfl,aL,aM,aa⟩:=hrel;have V:=qQ aL;have al:=qQ aM;have ad:=qQ aa;have P:=qQ (kD.below am.out aa (qK _));have ag:=qQ (jy.below HT.out aa (qK _));have a:=qQ (show Below w.1.size w wr from aw.out.trans (aa.mono aw.out.size));clear aL aM aa;cases gk with
   | zero =>
     obtain rfl:k=n:=(by omega);have s1:¬(k:Int)<(k:Int):=(by omega);have a1:=TM (L:=els A) (d:=d) (by rw[nA,f.out];exact V.out);have aW:=qQ (TL (T:=T) (L:=els A) (by rw[nA,f.out];exact al.out));rcases a1 with⟨l,m,ac⟩|⟨j,x,t,rfl,hj,hx,ac⟩
     ·have aR:=qQ (show dY w R (.returned (.slice A2 tl c2)) wr by
       rw[<-ak.out,NW ac,af.out];exact⟨A2,c2,rfl,ag.out,a.out⟩)
      clear ac;go_wp2
      (try rw[Exit.noGoto_ret])
      go_ret;exact aR.out
     ·obtain⟨a8,u,w3,e1,e2⟩:=fE.add ag.out P.out f.out U.out ay.out ak.out a.out af.out ac aW.out (by have:=aB.out;omega);have ax:=qQ e1;have aQ:=qQ e2;have aJ:j<k:=(by rw[nA,f.out]at hj;exact hj);obtain⟨y,F⟩:∃y,A[j]? = some y:=⟨_,qD (by rw[f.out];exact aJ)⟩
      obtain⟨g,rfl,ah,ar,-⟩:=am.out.some_ (by rw[f.out];omega);obtain⟨C,-⟩:=kD.cell P.out f.out.symm F;have D:=U.out y (qM F);have O:=JG F;rw[hx]at O;obtain⟨yv,yl⟩:=y;obtain rfl:x::t=yl:=qb O;simp only at C D;obtain⟨B,off,aC,rfl,ab,N⟩:=D.form;obtain⟨b,rfl,s,l,m,r⟩:=N 0 x rfl;simp only[Nat.zero_mul,Nat.add_zero]at l m r;have H:=(a.out.cell (p:=⟨b,off,none⟩) s).trans l;have I:=(a.out.cell (p:=⟨b,off+1,none⟩) s).trans m;have J:=(a.out.cell (p:=⟨b,off+2,none⟩) s).trans r;have s2:(j:Int)<(k:Int):=(by omega);have s3:(0:Int)<(((t.length:Nat):Int)+1):=(by omega);clear e1 e2 hj aJ hx ac F O D ab N l m r s;obtain⟨xh,xv,xp⟩:=x;simp only at H I J ax;simp only[List.length_cons]at C;go_wp2_with (first|(at_builtin;refine yK rfl _ _ rfl rfl rfl ax.out ?_)|fail);go_roundg (go-1)
      case measure=>omega
      case rel=>exact aQ.out
   | succ gi =>
     have a0:k<n:=(by omega);have s1:(k:Int)<(n:Int):=(by omega);obtain⟨y,F⟩:∃y,A[k]? = some y:=⟨_,qD (by rw[f.out];exact a0)⟩
     obtain⟨g,rfl,ah,ar,-⟩:=am.out.some_ (by rw[f.out];omega);obtain⟨C,fy⟩:=kD.cell P.out f.out.symm F;have K:=qQ (JG F);have D:=U.out y (qM F);have aU:=qQ F;clear F;obtain⟨yv,yl⟩:=y;simp only at C D K;have aS:=qQ D;obtain⟨B,off,aC,rfl,ab,N⟩:=D.form;cases yl with
     | nil =>
       simp only[List.length_nil]at C;clear N ab D;go_wp2;go_roundg gi
       case measure=>omega
       case rel=>exact⟨k+1,d,by omega,by go_num,rfl,TC K.out V.out,TH K.out al.out,ad.out⟩
     | cons x t =>
       simp only[List.length_cons]at C;obtain⟨b,rfl,s,l,m,r⟩:=N 0 x rfl;simp only[Nat.zero_mul,Nat.add_zero]at l m r;have H:=(a.out.cell (p:=⟨b,off,none⟩) s).trans l;have I:=(a.out.cell (p:=⟨b,off+1,none⟩) s).trans m;have J:=(a.out.cell (p:=⟨b,off+2,none⟩) s).trans r;have s3:(0:Int)<(((t.length:Nat):Int)+1):=(by omega);have s4:(((t.length:Nat):Int)+1==0)=false:=qg.2 (by omega);have S:=Pg (.slice A2 tl c2) T x wr (by rw[af.out];exact jy.xE ag.out) (by have:=aB.out;omega);have ao:b<wr.1.size:=qS s a.out.size;have aH:g<wr.1.size:=qS ar ad.out.size;by_cases Q:T.getLast? = some x
       ·rw[qB Q]at S;have X:=qQ S;obtain⟨B',c',hs,hp⟩:=Ya (k:=1) aS.out (by simp);have a9:∀W,(Instr.slice 112 (.slice (some ⟨b,off,none⟩) (t.length+1) aC) (some (.int .i64 1)) none none).run prog W=.ok (.slice B' t.length c') W:=fun W=>hs W
        have HP:=qQ (show kC w (.slice B' t.length c') t from hp w.1.size w (qK _) (qU _ _));have aP:=qQ (fun w2 h1 h2 h3=>fE.drop (w:=w) (w2:=w2) (c1:=c1) (c2:=c2) (A2:=A2) h1 h2 f.out U.out ay.out ak.out h3 af.out ah K.out Q HP.out);have HG:=qQ ah;clear Q hs hp l m r N ab D S ah ar s;obtain⟨xh,xv,xp⟩:=x;simp only at H I J;go_wp2_with fail;refine KG X.out fun w2 q=>?_;have a5:=(q.cell (p:=⟨g,k,none⟩) aH).trans C;have a6:=(kD.cell (kD.below P.out q (qK _)) f.out.symm aU.out).2;have HD:=qQ (aP.out w2 (jy.below ag.out q (qK _)) (kD.below P.out q (qK _)) (a.out.trans (q.mono a.out.size)));clear H I J C fy q;go_wp2;go_roundg (go-1)
        case measure=>have:=HD.out.1;omega
        case rel=>exact HD.out.2
       ·rw[qA Q]at S;have X:=qQ S;have aA:=qQ (TI K.out Q al.out);clear Q S D ab N l m r;by_cases hd:d<0
        ·have aV:=qQ (TD K.out V.out hd);obtain⟨xh,xv,xp⟩:=x;simp only at H I J;go_wp2_with fail;refine KG X.out fun w2 q=>?_;have aj:=qQ (bj ad.out q);clear H I J C fy q;go_wp2_with fail;go_quiet (fail);go_wp2;go_roundg gi
         case measure=>omega
         case rel=>exact⟨k+1,(k:Nat),by omega,by go_num,rfl,aV.out,aA.out,uK aj.out _⟩
        ·obtain⟨j,z,u,rfl,hj,hz,-⟩:∃(j:Nat) (z:jC) (u:List jC),d=(j:Nat)/\j<k/\(els A)[j]? = some (z::u)/\yq ((els A).take k)=some z:=by
          rcases V.out with⟨h,_⟩|h
          ·exact absurd h hd
          ·exact h
         have az:=qQ (TE K.out V.out hz);obtain⟨y2,ai⟩:∃y,A[j]? = some y:=⟨_,qD (by rw[f.out];omega)⟩
         obtain⟨gy,-⟩:=kD.cell P.out f.out.symm ai;have au:=U.out y2 (qM ai);have O:=JG ai;rw[hz]at O;obtain⟨a_,a4⟩:=y2;obtain rfl:z::u=a4:=qb O;simp only at gy au;obtain⟨B2,i,aD,rfl,a2,aF⟩:=au.form;obtain⟨c,rfl,Z,l,m,r⟩:=aF 0 z rfl;simp only[Nat.zero_mul,Nat.add_zero]at l m r;simp only[List.length_cons]at gy;have g0:=(a.out.cell (p:=⟨c,i,none⟩) Z).trans l;have g1:=(a.out.cell (p:=⟨c,i+1,none⟩) Z).trans m;have Y:=(a.out.cell (p:=⟨c,i+2,none⟩) Z).trans r;have ap:c<wr.1.size:=qS Z a.out.size;have s5:(0:Int)<(((u.length:Nat):Int)+1):=(by omega);have s6:(j:Int)<(n:Int):=(by omega);have s7:decide ((j:Int)<0)=false:=qA (by omega);have HL:=fun W=>oC x z W
         clear l m r hj hz ai O au a2 aF Z hd s;cases o:jb x z
         all_goals
          rw[o]at HL az;have aT:=qQ HL;clear HL o;obtain⟨xh,xv,xp⟩:=x;obtain⟨zh,zv,zp⟩:=z;simp only at H I J g0 g1 Y;go_wp2_with fail;refine KG X.out fun w2 q=>?_;have aj:=qQ (bj ad.out q)
          have HS:Hid (∀W,Below w2.1.size w2 W->Below w2.1.size w2 W/\W.cell? ⟨g,j,none⟩=some (.slice (some ⟨c,i,none⟩) (u.length+1) aD)/\W.cell? ⟨b,off,none⟩=some (.int .u64 (xh:Nat))/\W.cell? ⟨b,off+1,none⟩=some (.int .i64 xv)/\W.cell? ⟨b,off+2,none⟩=some (.int .i64 xp) /\
           W.cell? ⟨c,i,none⟩=some (.int .u64 (zh:Nat))/\W.cell? ⟨c,i+1,none⟩=some (.int .i64 zv)/\W.cell? ⟨c,i+2,none⟩=some (.int .i64 zp)):=qQ fun W hW=>by
           have M:=bj q hW;exact⟨hW,(M.cell (p:=⟨g,j,none⟩) aH).trans gy,(M.cell (p:=⟨b,off,none⟩) ao).trans H,(M.cell (p:=⟨b,off+1,none⟩) ao).trans I,(M.cell (p:=⟨b,off+2,none⟩) ao).trans J,(M.cell (p:=⟨c,i,none⟩) ap).trans g0,(M.cell (p:=⟨c,i+1,none⟩) ap).trans g1,(M.cell (p:=⟨c,i+2,none⟩) ap).trans Y⟩
          obtain⟨-,t0,t1,t2,t3,t4,t5,t6⟩:=HS.out w2 (qU _ _);clear H I J g0 g1 Y C fy q gy X;go_wp2_with fail
          go_region_held3 (fun W=>Below w2.1.size w2 W/\W.cell? ⟨g,j,none⟩=some (.slice (some ⟨c,i,none⟩) (u.length+1) aD)/\W.cell? ⟨b,off,none⟩=some (.int .u64 (xh:Nat))/\W.cell? ⟨b,off+1,none⟩=some (.int .i64 xv)/\W.cell? ⟨b,off+2,none⟩=some (.int .i64 xp) /\
           W.cell? ⟨c,i,none⟩=some (.int .u64 (zh:Nat))/\W.cell? ⟨c,i+1,none⟩=some (.int .i64 zv)/\W.cell? ⟨c,i+2,none⟩=some (.int .i64 zp))
           (first|(with_reducible assumption)|((with_reducible refine HS.out _ ?_);(first|(with_reducible assumption)|(with_reducible exact qU _ _)|(with_reducible exact(qU _ _).drew)|exact(bj (And.left (by with_reducible assumption)) ‹Below _ _ _›));done)|fail)
           (first
           | (go_at_call 172;((with_reducible refine KG (aT.out _) fun w3 aZ=>?_);have aY:Below w2.1.size w2 w3:=bj (And.left (by with_reducible assumption)) aZ))
           | fail)
          all_goals
           go_wp2;go_roundg gi
           case measure=>omega
           case rel=>exact⟨k+1,_,by omega,by go_num,rfl,az.out,aA.out,bj aj.out aY⟩
end
section
open Go.RowKit
def ui(x:jj):Int:=chk x.t x.d
def bu(x:jj):Tw:=evB x.t x.d x.b
def uB: List jj->Int
 | []=>0
 | x::l=>if ui x=0 then uB l else ui x
def kQ(s:Tw)(f:Int)(l:List jj):Int :=
 if s.size=0∨l.length=0 then 2 else if 32<s.size∨8<l.length then 3 else if f<0∨1073741824-(l.length:Int)<f then 2 else uB l
theorem G8: ∀ {l:List jj},uB l=0↔∀x∈l,ui x=0
 | []=>by simp[uB]
 | x::l=>by
   unfold uB;by_cases h:ui x=0
   ·rw[qV h,G8];simp[h]
   ·rw[qZ h];simp[h]
theorem JW: ∀ {l:List jj} {k:Nat},(∀i x,i<k->l[i]? = some x->ui x=0)->uB l=uB (l.drop k)
 | [],k,h=>by simp
 | x::l,0,h=>rfl
 | x::l,k+1,h=>by
   rw[List.drop_succ_cons,<-JW (l:=l) (k:=k) (fun i y hi hy=>h (i+1) y (by omega) (by simpa using hy))];unfold uB;rw[qV (h 0 x (by omega) rfl)];cases l<;>rfl
theorem G9{l:List jj}{k:Nat}{x:jj}(h:∀i x,i<k->l[i]? = some x->ui x=0)(c:l[k]? = some x)(a:¬ui x=0):uB l=ui x:=by
 obtain⟨b,e⟩:=qO.1 c;rw[JW h,xJ b,e,uB,qZ a]
theorem Gq{l:List jj}{k:Nat}(h:∀i x,i<k->l[i]? = some x->ui x=0)(a:l.length<=k):uB l=0:=by
 rw[JW h,List.drop_eq_nil_of_le a];rfl
theorem Gx: ∀l:List jj,uB l=0∨uB l=2∨uB l=3
 | []=>qX rfl
 | x::l=>by
   unfold uB;by_cases h:ui x=0
   ·rw[qV h];exact Gx l
   ·rw[qZ h];rcases tr x.t x.d with h'|h'
    ·exact absurd h' h
    ·exact qY h'
theorem QG{s:Tw}{f:Int}{l:List jj}(h:s.size=0∨l.length=0):kQ s f l=2:=by unfold kQ;rw[qV h]
theorem QW{s:Tw}{f:Int}{l:List jj}(h:¬(s.size=0∨l.length=0))(a:32<s.size∨8<l.length):kQ s f l=3:=by unfold kQ;rw[qZ h,qV a]
theorem QA{s:Tw}{f:Int}{l:List jj}(h:¬(s.size=0∨l.length=0))(a:¬(32<s.size∨8<l.length))(b:f<0∨1073741824-(l.length:Int)<f):kQ s f l=2:=by unfold kQ;rw[qZ h,qZ a,qV b]
theorem QB{s:Tw}{f:Int}{l:List jj}(h:¬(s.size=0∨l.length=0))(a:¬(32<s.size∨8<l.length))(b:¬(f<0∨1073741824-(l.length:Int)<f)):kQ s f l=uB l:=by unfold kQ;rw[qZ h,qZ a,qZ b]
theorem gh{s:Tw}{f:Int}{l:List jj}:kQ s f l=0↔(1<=s.size/\s.size<=32/\1<=l.length/\l.length<=8/\0<=f/\f<=1073741824-(l.length:Int)/\∀x∈l,ui x=0):=by
 by_cases h:s.size=0∨l.length=0
 ·rw[QG h];omega
 ·by_cases a:32<s.size∨8<l.length
  ·rw[QW h a];omega
  ·by_cases c:f<0∨1073741824-(l.length:Int)<f
   ·rw[QA h a c];omega
   ·rw[QB h a c,G8];constructor
    ·intro b;exact⟨by omega,by omega,by omega,by omega,by omega,by omega,b⟩
    ·rintro ⟨_,_,_,_,_,_,b⟩;exact b
theorem TN(s:Tw)(f:Int)(l:List jj):kQ s f l=0∨kQ s f l=2∨kQ s f l=3:=by
 by_cases h:s.size=0∨l.length=0
 ·rw[QG h];omega
 ·by_cases a:32<s.size∨8<l.length
  ·rw[QW h a];omega
  ·by_cases b:f<0∨1073741824-(l.length:Int)<f
   ·rw[QA h a b];omega
   ·rw[QB h a b];exact Gx l
def kR: List jj->Tw
 | []=>ByteArray.empty
 | x::l=>bu x++kR l
theorem JA: ∀(l:List jj) (x:jj),kR (l++[x])=kR l++bu x
 | [],x=>by simp[kR]
 | y::l,x=>by rw[List.cons_append,kR,kR,JA l x,ByteArray.append_assoc]
theorem JB{l:List jj}(h:∀x∈l,ui x=0):(kR l).size<=l.length*228:=by
 induction l with
 | nil=>simp[kR]
 | cons x l b =>
   have c:=b (fun y a=>h y (qF _ a));have d:=oI.1 (h x (qC ..));rw[kR,qx,bu,Ub,qv];omega
def cA(s:Tw)(f n:Nat):Tw:=bs (be 2 s.size)++s++bs (be 8 f)++bs (be 1 n)
theorem JC(s:Tw)(f n:Nat):(cA s f n).size=s.size+11:=by
 unfold cA;simp only[ByteArray.size_append,kK,jn];omega
def uC(s:Tw)(f:Nat)(l:List jj):Tw:=cA s f l.length++kR l
def oR(s:Tw)(f:Int)(l:List jj):Tw:=if kQ s f l=0 then uC s f.toNat l else ByteArray.empty
theorem TO{s:Tw}{f:Int}{l:List jj}(h:kQ s f l=0):1<=(uC s f.toNat l).size/\(uC s f.toNat l).size<=2000:=by
 obtain⟨b,c,d,g,i,j,a⟩:=gh.1 h;have:=JB a;unfold uC;rw[qx,JC];omega
def uD: Nat->Tw->Option (List jj × Tw)
 | 0,s=>some ([],s)
 | n+1,s=>if yu s=true then(uD n (erR s)).map (fun p=>(⟨erT s,erD s,erW s⟩::p.1,p.2)) else none
structure mK(x:jj):Prop where
 c:ui x=0
 b:x.b<18446744073709551616
theorem QC: ∀ {n:Nat} {s:Tw} {l:List jj} {r:Tw},uD n s=some (l,r)->kR l++r=s/\l.length=n/\∀x∈l,mK x
 | 0,s,l,r,h=>by
   simp only[uD,Option.some.injEq,Prod.mk.injEq]at h;obtain⟨rfl,rfl⟩:=h;exact⟨by simp[kR],rfl,fun x a=>by cases a⟩
 | n+1,s,l,r,h=>by
   unfold uD at h;by_cases b:yu s=true
   ·rw[qV b]at h;cases c:uD n (erR s) with
    | none=>rw[c]at h;cases h
    | some p =>
      obtain⟨k,m⟩:=p;rw[c]at h;simp only[Option.map_some,Option.some.injEq,Prod.mk.injEq]at h;obtain⟨rfl,rfl⟩:=h;obtain⟨d,f,g⟩:=QC c;obtain⟨i,j⟩:=Rj b;refine⟨?_,by rw[qv,f],fun x a=>?_⟩
      ·rw[kR,ByteArray.append_assoc,d];exact j
      ·rcases qL.1 a with rfl|a
       ·exact⟨i,R8 s⟩
       ·exact g x a
   ·rw[qZ b]at h;cases h
theorem Gz: ∀ {l:List jj} {r:Tw},(∀x∈l,mK x)->uD l.length (kR l++r)=some (l,r)
 | [],r,_=>by simp[uD,kR]
 | x::l,r,h=>by
   have hx:=h x (qC ..);obtain⟨f,g,i,j,k⟩:=Rz x.t x.d x.b (kR l++r) hx.c hx.b;rw[qv,uD,kR,ByteArray.append_assoc];unfold bu;rw[qV f,g,i,j,k,Gz (fun y a=>h y (qF _ a))];rfl
theorem TP{n:Nat}{s:Tw}(h:yu s=true):uD (n+1) s=(uD n (erR s)).map (fun p=>(⟨erT s,erD s,erW s⟩::p.1,p.2)):=by rw[uD,qV h]
theorem TS{n:Nat}{s:Tw}(h:yu s=false):uD (n+1) s=none:=by rw[uD,qZ (by rw[h];decide)]
def bgM(s:Tw):Nat:=if h:8<(rdB s).size then((rdB s)[8]).toNat else 0
theorem Gj(s:Tw):bgM s<256:=by
 unfold bgM;split
 ·exact UInt8.toNat_lt _
 ·omega
def rC(s:Tw):Tw:=(rdB s).extract 9 (rdB s).size
def bg(s:Tw):Bool:=vc s&&decide (9<=(rdB s).size)&&decide (jz (rdB s)<=1073741824)
def dG(s:Tw):Option (List jj × Tw):=uD (bgM s) (rC s)
def vv(s:Tw):Bool:=bg s&&match dG s with
 | none=>false
 | some (l,r)=>decide (r.size=0)&&decide (kQ (rdA s) (jz (rdB s):Nat) l=0)
def bgS(s:Tw):Tw:=if vv s=true then rdA s else ByteArray.empty
def bgF(s:Tw):Int:=if vv s=true then(jz (rdB s):Nat) else 0
def bgL(s:Tw):List jj:=if vv s=true then((dG s).map (·.1)).getD [] else []
def bgE(s:Tw):Int:=if vv s=true then 0 else 10
theorem TT{s:Tw}(h:vv s=false):bgS s=ByteArray.empty/\bgF s=0/\bgL s=[]/\bgE s=10:=by simp[bgS,bgF,bgL,bgE,h]
theorem dc{s:Tw}(h:vv s=true):bg s=true/\bgS s=rdA s/\bgF s=(jz (rdB s):Nat)/\bgE s=0/\dG s=some (bgL s,ByteArray.empty)/\kQ (bgS s) (bgF s) (bgL s)=0:=by
 have i:bgS s=rdA s/\bgF s=(jz (rdB s):Nat)/\bgE s=0/\bgL s=((dG s).map (·.1)).getD []:=by simp[bgS,bgF,bgE,bgL,h]
 obtain⟨a,b,d,f⟩:=i;unfold vv at h;rw[Bool.and_eq_true]at h;obtain⟨g,h⟩:=h;refine⟨g,a,b,d, ?_⟩;rw[a,b,f];cases c:dG s with
 | none=>rw[c]at h;cases h
 | some p =>
   obtain⟨l,r⟩:=p;rw[c]at h;simp only[Bool.and_eq_true,decide_eq_true_eq]at h;obtain⟨k,j⟩:=h;have:r=ByteArray.empty:=qi (Array.eq_empty_of_size_eq_zero k);subst this;exact⟨rfl,j⟩
theorem Gv{s:Tw}{l:List jj}(h:bg s=true)(b:dG s=some (l,ByteArray.empty))(a:kQ (rdA s) (jz (rdB s):Nat) l=0):vv s=true:=by
 unfold vv;rw[h,b];simp[a]
theorem T3{s:Tw}{l:List jj}{r:Tw}(b:dG s=some (l,r))(a:¬r.size=0∨¬kQ (rdA s) (jz (rdB s):Nat) l=0):vv s=false:=by
 unfold vv;rw[b];rcases a with h|h<;>simp[h]
theorem Gy{s:Tw}(h:bg s=false):vv s=false:=by
 unfold vv;rw[h];rfl
theorem T5{s:Tw}{l:List jj}{r:Tw}(h:bg s=true)(d:dG s=some (l,r)):uC (rdA s) (jz (rdB s)) l++r=s:=by
 unfold bg at h;simp only[Bool.and_eq_true,decide_eq_true_eq]at h;obtain⟨⟨c,k⟩,_⟩:=h;obtain⟨a,b,_⟩:=QC d;have f:=Za c;have g:=Ud (L:=rdB s) (by omega)
 have i:bs (be 1 l.length)=(rdB s).extract 8 9:=by
  rw[b];unfold bgM;rw[dif_pos (by omega)];apply qi;apply Array.toList_inj.1;have m:(rdB s).data.toList.length=(rdB s).size:=fB _;rw[ByteArray.data_extract,Array.toList_extract,List.extract,xJ (by omega)];simp[bs,be];rfl
 have j:(rdB s).extract 8 9++rC s=(rdB s).extract 8 (rdB s).size:=by
  unfold rC;rw[ByteArray.extract_append_extract,Nat.min_eq_left (by omega),Nat.max_eq_right (by omega)]
 unfold uC cA;simp only[ByteArray.append_assoc];rw[a,i,j,g,<-ByteArray.append_assoc,f]
theorem T7(s:Tw)(f:Nat)(l:List jj)(r:Tw)(u:s.size<=65535)(A:f<=1073741824)(n:l.length<256)(v:∀x∈l,mK x):
  bg (uC s f l++r)=true/\rdA (uC s f l++r)=s/\jz (rdB (uC s f l++r))=f/\dG (uC s f l++r)=some (l,r):=by
 have e:uC s f l++r=bs (be 2 s.size)++s++(bs (be 8 f)++(bs (be 1 l.length)++(kR l++r))):=by
  unfold uC cA;simp only[ByteArray.append_assoc]
 obtain⟨j,a,k⟩:=Zt (t:=s) (r:=bs (be 8 f)++(bs (be 1 l.length)++(kR l++r))) u;obtain⟨c,z⟩:=Uf (b:=f) (by omega) (bs (be 1 l.length)++(kR l++r));have i:(bs (be 8 f)++(bs (be 1 l.length)++(kR l++r))).size=9+(kR l++r).size:=by simp only[ByteArray.size_append,kK,jn];omega
 have d:(bs (be 8 f)++(bs (be 1 l.length)++(kR l++r))).data.toList=be 8 f++(UInt8.ofNat l.length::(kR l++r).data.toList):=by
  simp only[ByteArray.data_append,Array.toList_append,bs,be];simp
 rw[e];refine⟨?_,j,by rw[a,c], ?_⟩
 ·unfold bg;rw[a,k,c,i];simp only[Bool.true_and,Bool.and_eq_true,decide_eq_true_eq];omega
 ·unfold dG
  have p:bgM (bs (be 2 s.size)++s++(bs (be 8 f)++(bs (be 1 l.length)++(kR l++r))))=l.length:=by
   unfold bgM;rw[a,dif_pos (by omega)]
   have q:∀(x:Tw) (h:8<x.size) (y:UInt8),x.data.toList[8]? = some y->(x[8]'h)=y:=fun x h y g=>by
    have o:8<x.data.toList.length:=(by rw[fB];exact h);rw[qD o]at g;exact qb g
   rw[q _ _ (UInt8.ofNat l.length) (by rw[d,List.getElem?_append_right (by rw[jn];omega),jn];rfl),UInt8.toNat_ofNat'];exact Nat.mod_eq_of_lt n
  have m:rC (bs (be 2 s.size)++s++(bs (be 8 f)++(bs (be 1 l.length)++(kR l++r))))=kR l++r:=by
   unfold rC;rw[a];apply qi;apply Array.toList_inj.1;rw[ByteArray.data_extract,Array.toList_extract,d,i,List.extract,qp (by rw[xQ,qN,jn,qv,fB];omega)];rw[show(9:Nat)=(be 8 f).length+1 by rw[jn],List.drop_append,List.drop_of_length_le (by omega),Nat.add_sub_cancel_left];rfl
  rw[p,m];exact Gz v
theorem JD{s:Tw}{f:Int}{l:List jj}(h:kQ s f l=0)(c:∀x∈l,x.b<18446744073709551616):∀x∈l,mK x:=fun x a=>⟨(gh.1 h).2.2.2.2.2.2 x a,c x a⟩
theorem T8{s:Tw}{f:Int}{l:List jj}(h:kQ s f l=0)(m:∀x∈l,x.b<18446744073709551616):
  vv (uC s f.toNat l)=true/\bgS (uC s f.toNat l)=s/\bgF (uC s f.toNat l)=f/\bgL (uC s f.toNat l)=l:=by
 obtain⟨p,q,r,t,u,v,y⟩:=gh.1 h;obtain⟨k,a,c,d⟩:=T7 s f.toNat l ByteArray.empty (by omega) (by omega) (by omega) (JD h m);rw[ByteArray.append_empty]at k a c d;have i:((f.toNat:Nat):Int)=f:=by omega
 have j:=Gv k d (by rw[a,c,i];exact h);obtain⟨_,n,o,_,g,_⟩:=dc j;refine⟨j,by rw[n,a],by rw[o,c,i], ?_⟩;rw[d]at g;simp only[Option.some.injEq,Prod.mk.injEq]at g;exact g.1.symm
theorem T9{t:Tw}(h:vv t=true):kQ (bgS t) (bgF t) (bgL t)=0/\uC (bgS t) (bgF t).toNat (bgL t)=t/\∀x∈bgL t,mK x:=by
 obtain⟨c,d,f,_,b,g⟩:=dc h;have a:=T5 c b;rw[ByteArray.append_empty]at a;refine⟨g, ?_,(QC b).2.2⟩;rw[d,f,qm];exact a
theorem QD{P:Prop}{W0 W a:World}(b:Below W.1.size W a)(h:Below W0.1.size W0 W/\P):Below W0.1.size W0 a:=bj h.1 b
def gn(w:World)(g:Nat)(T:TypeId)(x y z:Value):Prop:=w.heap[g]? = some (.cells #[x,y,z] T (0,0))
theorem gn.new(w:World)(T:TypeId)(x y z:Value):gn (w.alloc (.cells #[x,y,z] T (0,0))) w.1.size T x y z:=by
 show(w.heap.push _)[w.1.size]? = _;simp
theorem gn.lt{w:World}{g:Nat}{T:TypeId}{x y z:Value}(h:gn w g T x y z):g<w.1.size:=by
 obtain⟨a,_⟩:=ql.1 h;exact a
theorem gn.below{w w':World}{g:Nat}{T:TypeId}{x y z:Value}(h:gn w g T x y z)(a:Below w.1.size w w'):gn w' g T x y z:=(a.block g h.lt).trans h
theorem gn.facts{w:World}{g:Nat}{T:TypeId}{x y z:Value}(h:gn w g T x y z):w.cell? ⟨g,0,none⟩=some x/\w.cell? ⟨g,1,none⟩=some y/\w.cell? ⟨g,2,none⟩=some z/\w.frozen? ⟨g,0,none⟩=false/\w.frozen? ⟨g,1,none⟩=false/\w.frozen? ⟨g,2,none⟩=false/\g<w.1.size:=by
 refine⟨?_, ?_, ?_, ?_, ?_, ?_,h.lt⟩<;>unfold gn at h<;>simp[World.cell?,World.frozen?,h]
theorem Gu{W0 W:World}{o:Obj}(h:Below W0.1.size W0 W):Below W0.1.size W0 (W.alloc o):=h.alloc h.size o
def uo(x:jj):List Value:=[.string x.t,.string x.d,.float .f64 x.b]
def vC(w:World)(v:Value)(l:List jj):Prop :=
 (l=[]/\∃a c,v=.slice a 0 c)∨(0<l.length/\∃b off f,v=.slice (some ⟨b,off,none⟩) l.length f/\l.length<=f/\b<w.1.size /\
  ∀i x,l[i]? = some x->w.cell? ⟨b,off+i*3,none⟩=some (.string x.t)/\w.cell? ⟨b,off+i*3+1,none⟩=some (.string x.d)/\w.cell? ⟨b,off+i*3+2,none⟩=some (.float .f64 x.b))
theorem vC.below{w w':World}{v:Value}{l:List jj}{B:Nat}(h:vC w v l)(a:Below B w w')(d:w.1.size<=B):vC w' v l:=by
 rcases h with h|⟨g,b,off,f,m,k,c,j⟩
 ·exact qX h
 ·exact qY ⟨g,b,off,f,m,k,qS c a.size,fun i x n=>by
   obtain⟨c0,c1,c2⟩:=j i x n;exact⟨(a.cell (qS c d)).trans c0,(a.cell (qS c d)).trans c1,(a.cell (qS c d)).trans c2⟩⟩
theorem JE: ∀l:List jj,(l.flatMap uo).length=l.length*3
 | []=>rfl
 | x::l=>by
   rw[List.flatMap_cons,qN,JE l,qv];show 3+_=_;omega
theorem rD: ∀(l:List jj) (i:Nat) (x:jj),l[i]? = some x->∀j,j<3->(l.flatMap uo)[i*3+j]? = (uo x)[j]?
 | [],i,x,h=>by simp at h
 | y::l,0,x,h=>by
   intro j a;obtain rfl:y=x:=(by simpa using h);rw[List.flatMap_cons,Nat.zero_mul,qa,List.getElem?_append_left (by exact a)]
 | y::l,i+1,x,h=>by
   intro j a;have b:l[i]? = some x:=(by simpa using h);have e:(i+1)*3+j=3+(i*3+j):=(by omega);rw[List.flatMap_cons,e,List.getElem?_append_right (by show 3<=_;omega)];show(l.flatMap uo)[3+(i*3+j)-3]? = _;rw[Nat.add_sub_cancel_left];exact rD l i x b j a
theorem vC.xz{w:World}{base:Nat}{v:Value}{l:List jj}(h:w.ownsRow base 64 3 v l.length (l.flatMap uo)):vC w v l:=by
 have b:=h;rcases h.2 with⟨a,j⟩|⟨g,f,n,a,o,k,m,q,r,s⟩
 ·exact qX ⟨xK.1 j,none,0,a⟩
 ·by_cases d:l=[]
  ·subst d;exact qX ⟨rfl,_,_,a⟩
  ·refine qY ⟨List.length_pos_iff.2 d,g,0,f,a,m,(ql.1 k).1,fun i x c=>?_⟩;have p:i<l.length:=(qO.1 c).1;rw[a]at b;have c0:=(b.cellAt (i*3+0) (by omega)).trans (rD l i x c 0 (by omega));have c1:=(b.cellAt (i*3+1) (by omega)).trans (rD l i x c 1 (by omega));have c2:=(b.cellAt (i*3+2) (by omega)).trans (rD l i x c 2 (by omega));rw[qa];exact⟨c0,c1,c2⟩
theorem JF{w w':World}{base B n size:Nat}{e:TypeId}{v:Value}{xs:List Value}(h:w.ownsRow base e size v n xs)(i:Below B w w')(f:w.1.size<=B):w'.ownsRow base e size v n xs:=by
 refine⟨h.1, ?_⟩;rcases h.2 with d|⟨g,b,c,l,j,a,r⟩
 ·exact qX d
 ·obtain⟨k,_⟩:=ql.1 a;exact qY ⟨g,b,c,l,j,(i.block g (qS k f)).trans a,r⟩
theorem Gg: (prog.info? 64).map (fun i=>(i.zero,i.size,i.bytes))=some (some (.agg #[.string ByteArray.empty,.string ByteArray.empty,.float .f64 0]),3,40):=by kernel_rfl
theorem Gb(l:List jj)(k:Nat)(x:jj)(h:l[k]? = some x):l.take (k+1)=l.take k++[x]:=by
 rw[qw,h];rfl
theorem vC.form{w:World}{v:Value}{l:List jj}(h:vC w v l):∃A c,v=.slice A l.length c:=by
 rcases h with⟨rfl,a,c,rfl⟩|⟨_,b,off,d,rfl,_⟩
 ·exact⟨_,_,rfl⟩
 ·exact⟨_,_,rfl⟩
theorem vC.pos{w:World}{A:Option Addr}{n c:Nat}{l:List jj}(h:vC w (.slice A n c) l)(g:0<l.length):∃b off,A=some ⟨b,off,none⟩/\b<w.1.size /\
  ∀i x,l[i]? = some x->w.cell? ⟨b,off+i*3,none⟩=some (.string x.t)/\w.cell? ⟨b,off+i*3+1,none⟩=some (.string x.d)/\w.cell? ⟨b,off+i*3+2,none⟩=some (.float .f64 x.b):=by
 rcases h with⟨rfl,_⟩|⟨_,b,off,k,j,_,a,f⟩
 ·cases g
 ·cases j;exact⟨b,off,rfl,a,f⟩
end
section
open Go.RowKit
attribute [local go_sem] cq
structure bC(x:jj):Prop where
 t:x.t.size<=100000
 d:x.d.size<=100000
 b:x.b<18446744073709551616
structure lJ(w:World)(s:Tw)(f:Int)(v:Value)(l:List jj):Prop where
 s:s.size<=100000
 f:(Lit.int .i64 f).wf=true
 v:vC w v l
 n:l.length<=300
 x:∀x∈l,bC x
theorem lJ.below{w w':World}{s:Tw}{f:Int}{v:Value}{l:List jj}(h:lJ w s f v l)(a:Below w.1.size w w'):lJ w' s f v l:=⟨h.s,h.f,h.v.below a (qK _),h.n,h.x⟩
theorem JH(s:Tw)(f:Int)(A:Option Addr)(n c:Nat)(r:Int)(w:World)(v:s.size<=100000)(i:(Lit.int .i64 f).wf=true)(u:n<=300)
  (h:((s.size=0∨n=0)/\r=2)∨(¬(s.size=0∨n=0)/\(32<s.size∨8<n)/\r=3)∨(¬(s.size=0∨n=0)/\¬(32<s.size∨8<n)/\(f<0∨1073741824-(n:Int)<f)/\r=2)):
  Calls prog 54 #[km s f (.slice A n c)] w (X3 (.int .i64 r) w):=by
 have t:=bounds_i64 i;unfold km;by_cases b:s.size=0
 ·have a:r=2:=by omega
  subst a;have j:((s.size:Int)==0)=true:=beq_iff_eq.2 (by omega);clear h;go_enter func54,ntmps54;go_wp2;go_ret;exact⟨rfl,(qU _ _).alloc (qK _) _⟩
 ·have j:((s.size:Int)==0)=false:=qg.2 (by omega);by_cases d:n=0
  ·have a:r=2:=(by omega);subst a;have k:((n:Int)==0)=true:=beq_iff_eq.2 (by omega);clear h b d;go_enter func54,ntmps54;go_wp2;go_ret;exact⟨rfl,(qU _ _).alloc (qK _) _⟩
  ·have k:((n:Int)==0)=false:=qg.2 (by omega);by_cases p:32<s.size
   ·have a:r=3:=(by omega);subst a;have l:decide ((32:Int)<(s.size:Int))=true:=qB (by omega);clear h b d;go_enter func54,ntmps54;go_wp2;go_ret;exact⟨rfl,(qU _ _).alloc (qK _) _⟩
   ·have l:decide ((32:Int)<(s.size:Int))=false:=qA (by omega);by_cases q:8<n
    ·have a:r=3:=(by omega);subst a;have m:decide ((8:Int)<(n:Int))=true:=qB (by omega);clear h b d;go_enter func54,ntmps54;go_wp2;go_ret;exact⟨rfl,(qU _ _).alloc (qK _) _⟩
    ·have m:decide ((8:Int)<(n:Int))=false:=qA (by omega);have a:r=2:=(by omega);subst a;by_cases g:f<0
     ·have o:decide (f<0)=true:=qB g;clear h b d;go_enter func54,ntmps54;go_wp2;go_ret;exact⟨rfl,(qU _ _).alloc (qK _) _⟩
     ·have o:decide (f<0)=false:=qA g;have y:decide ((1073741824:Int)-(n:Int)<f)=true:=qB (by omega);clear h b d;go_enter func54,ntmps54;go_wp2;go_ret;exact⟨rfl,(qU _ _).alloc (qK _) _⟩
theorem Tq(s:Tw)(f:Int)(p m c:Nat)(l:List jj)(w:World)(hs:1<=s.size)(ag:s.size<=32)(hl:1<=l.length)(af:l.length<=8)(hf:0<=f)(ae:f<=1073741824-(l.length:Int))(X:∀x∈l,bC x)(L:p<w.1.size)
  (T:∀i x,l[i]? = some x->w.cell? ⟨p,m+i*3,none⟩=some (.string x.t)/\w.cell? ⟨p,m+i*3+1,none⟩=some (.string x.d)/\w.cell? ⟨p,m+i*3+2,none⟩=some (.float .f64 x.b)):
  Calls prog 54 #[km s f (.slice (some ⟨p,m,none⟩) l.length c)] w (X3 (.int .i64 (uB l)) w):=by
 unfold km;have t0:((s.size:Int)==0)=false:=qg.2 (by omega);have t1:((l.length:Int)==0)=false:=qg.2 (by omega);have t2:decide ((32:Int)<(s.size:Int))=false:=qA (by omega);have t3:decide ((8:Int)<(l.length:Int))=false:=qA (by omega);have t4:decide (f<0)=false:=qA (by omega);have t5:decide ((1073741824:Int)-(l.length:Int)<f)=false:=qA (by omega);have aa:=qQ (fun(k:Nat) (x:jj) H I h3=>G9 (l:=l) (k:=k) (x:=x) H I h3);have Z:=qQ (fun(k:Nat) H I=>Gq (l:=l) (k:=k) H I);generalize uB l=r at*;go_enter func54,ntmps54;go_wp2;go_loopw [3] (fun i wr=>∃k:Nat,k<=l.length/\i=.int .i64 k/\(∀(i:Nat) (x:jj),i<k->l[i]? = some x->ui x=0)/\Below w.1.size w wr/\wr.cell? ⟨w.1.size,2,none⟩=some (.slice (some ⟨p,m,none⟩) l.length c)/\w.1.size<wr.1.size) (fun i _=>l.length-(intOf i).toNat)
 case atStart=>exact⟨0,qI _,rfl,fun i x h=>absurd h (by omega),(qU _ _).alloc (qK _) _,by simp,by simp⟩
 case round =>
  obtain⟨k,hk,rfl,U,a,K,v⟩:=hrel;have G:=qQ U;clear U;by_cases ac:k<l.length
  ·obtain⟨x,B⟩:∃x,l[k]? = some x:=⟨l[k],qD ac⟩
   obtain⟨Q,R,S⟩:=T k x B;have N:=X x (qM B);have q:=qQ fun W=>G4 x.t x.d x.b W (by have:=N.t;unfold maxLen;omega) (by have:=N.d;unfold maxLen;omega)
   have u:=qQ B;have j:=qQ (show ui x=chk x.t x.d from rfl);have C:=jm a L Q;have D:=jm a L R;have F:=jm a L S;clear B Q R S N T X;have V:=tr x.t x.d;generalize chk x.t x.d=o at*;have s1:(k:Int)<(l.length:Int):=(by omega);by_cases z:o=0
   ·subst z;have P:=j.out
    have O:∀(i:Nat) (y:jj),i<k+1->l[i]? = some y->ui y=0:=fun i y hi M=>by
     by_cases e:i=k
     ·subst e;rw[u.out]at M;cases M;exact P
     ·exact G.out i y (by omega) M
    have Y:=qQ O;clear O P;obtain⟨t,d,n⟩:=x;simp only at C D F q;clear j u V;go_wp2_with fail;refine KG (q.out _) fun w1 g=>?_;have J:=bj a g;have ab:=(g.cell (p:=⟨w.1.size,2,none⟩) v).trans K;have ad:=qS v g.size;clear a K g C D F v;go_wp2;go_roundw
    case rel=>exact⟨k+1,by omega,by go_num,Y.out,J,ab,ad⟩
    case measure=>simp[intOf];omega
   ·have A:=aa.out k x G.out u.out (by rw[j.out];exact z);rw[j.out]at A;have e1:((o:Int) != 0)=true:=(by simp;exact z);subst A;clear V z;obtain⟨t,d,n⟩:=x;simp only at C D F q;clear j u;go_wp2_with fail;refine KG (q.out _) fun w1 g=>?_;have J:=bj a g;clear a K g C D F v;go_wp2;go_ret;exact⟨rfl,J⟩
  ·obtain rfl:k=l.length:=(by omega);have s1:¬(l.length:Int)<(l.length:Int):=(by omega);have A:=Z.out _ G.out (qK _);subst A;go_wp2;go_ret;exact⟨rfl,a⟩
theorem QE(s:Tw)(f:Int)(v:Value)(l:List jj)(w:World)(h:lJ w s f v l):
  Calls prog 54 #[km s f v] w (X3 (.int .i64 (kQ s f l)) w):=by
 obtain⟨A,c,rfl⟩:=h.v.form;by_cases a:s.size=0∨l.length=0
 ·rw[QG a];exact JH s f A l.length c 2 w h.s h.f h.n (qX ⟨a,rfl⟩)
 ·by_cases b:32<s.size∨8<l.length
  ·rw[QW a b];exact JH s f A l.length c 3 w h.s h.f h.n (qY (qX ⟨a,b,rfl⟩))
  ·by_cases d:f<0∨1073741824-(l.length:Int)<f
   ·rw[QA a b d];exact JH s f A l.length c 2 w h.s h.f h.n (qY (qY ⟨a,b,d,rfl⟩))
   ·rw[QB a b d];obtain⟨p,j,rfl,i,g⟩:=h.v.pos (by omega);exact Tq s f p j c l w (by omega) (by omega) (by omega) (by omega) (by omega) (by omega) h.x i g
end
section
open Go.RowKit
attribute [local go_sem] cq
theorem Tx(p B c:Nat)(l:List jj)(w:World)(aa:l.length<=300)(T:∀x∈l,bC x)(H:p<w.1.size)
  (Q:∀i x,l[i]? = some x->w.cell? ⟨p,B+i*3,none⟩=some (.string x.t)/\w.cell? ⟨p,B+i*3+1,none⟩=some (.string x.d)/\w.cell? ⟨p,B+i*3+2,none⟩=some (.float .f64 x.b)):
  Calls prog 85 #[.slice (some ⟨p,B,none⟩) l.length c] w (X3 (.int .i64 (uB l)) w):=by
 have X:=qQ (fun(k:Nat) (x:jj) D F Y=>G9 (l:=l) (k:=k) (x:=x) D F Y);have V:=qQ (fun(k:Nat) D F=>Gq (l:=l) (k:=k) D F);generalize uB l=r at*;go_enter func85,ntmps85;go_wp2;go_step3;go_wp2;go_step3;go_wp2;go_loopw [2,7] (fun e i wr=>∃k:Nat,k<=l.length/\i=.int .i64 k/\e=.int .i64 0/\(∀(i:Nat) (x:jj),i<k->l[i]? = some x->ui x=0)/\Below w.1.size w wr) (fun _ i _=>l.length-(intOf i).toNat)
 case atStart=>exact⟨0,qI _,rfl,rfl,fun i x h=>absurd h (by omega),qU _ _⟩
 case round =>
  obtain⟨k,hk,rfl,rfl,R,a⟩:=hrel;have C:=qQ R;clear R;by_cases Z:k<l.length
  ·obtain⟨x,u⟩:∃x,l[k]? = some x:=⟨l[k],qD Z⟩
   obtain⟨N,O,P⟩:=Q k x u;have K:=T x (qM u);have j:=qQ fun W=>tw x.t x.d x.b W (by have:=K.t;unfold maxLen;omega) (by have:=K.d;unfold maxLen;omega)
   have m:=qQ u;have f:=qQ (show ui x=chk x.t x.d from rfl);have v:=jm a H N;have z:=jm a H O;have A:=jm a H P;clear u N O P K Q T;have S:=tr x.t x.d;generalize chk x.t x.d=o at*;have s1:(k:Int)<(l.length:Int):=(by omega);by_cases q:o=0
   ·subst q;have M:=f.out
    have L:∀(i:Nat) (y:jj),i<k+1->l[i]? = some y->ui y=0:=fun i y hi I=>by
     by_cases e:i=k
     ·subst e;rw[m.out]at I;cases I;exact M
     ·exact C.out i y (by omega) I
    have U:=qQ L;clear L M;obtain⟨t,d,n⟩:=x;simp only at v z A j;clear f m S;go_wp2_with fail;refine(j.out _).mono ?_;rintro e J⟨rfl,g⟩;have G:Below w.1.size w J:=bj (a.alloc a.size _) g;clear a g v z A;go_wp2;go_roundw
    case rel=>exact⟨k+1,by omega,by go_num,rfl,U.out,G⟩
    case measure=>simp[intOf];omega
   ·have s:=X.out k x C.out m.out (by rw[f.out];exact q);rw[f.out]at s;have e1:((o:Int) != 0)=true:=(by simp;exact q);subst s;clear S q;obtain⟨t,d,n⟩:=x;simp only at v z A j;clear f m;go_wp2_with fail;refine(j.out _).mono ?_;rintro e J⟨rfl,g⟩;have G:Below w.1.size w J:=bj (a.alloc a.size _) g;clear a g v z A;go_wp2
    (try rw[Exit.noGoto_ret])
    go_ret;exact⟨rfl,G⟩
  ·obtain rfl:k=l.length:=(by omega);have s1:¬(l.length:Int)<(l.length:Int):=(by omega);have s:=V.out _ C.out (qK _);subst s;go_wp2
   (try rw[Exit.noGoto_ret])
   go_ret;exact⟨rfl,a⟩
theorem JI(s:Tw)(f:Int)(A:Option Addr)(n c:Nat)(r:Int)(w:World)(v:s.size<=100000)(i:(Lit.int .i64 f).wf=true)(u:n<=300)
  (h:((s.size=0∨n=0)/\r=2)∨(¬(s.size=0∨n=0)/\(32<s.size∨8<n)/\r=3)∨(¬(s.size=0∨n=0)/\¬(32<s.size∨8<n)/\(f<0∨1073741824-(n:Int)<f)/\r=2)):
  Calls prog 40 #[km s f (.slice A n c)] w (X3 (.int .i64 r) w):=by
 have t:=bounds_i64 i;unfold km;by_cases b:s.size=0
 ·have a:r=2:=by omega
  subst a;have j:((s.size:Int)==0)=true:=beq_iff_eq.2 (by omega);clear h;go_enter func40,ntmps40;go_wp2;go_ret;exact⟨rfl,(qU _ _).alloc (qK _) _⟩
 ·have j:((s.size:Int)==0)=false:=qg.2 (by omega);by_cases d:n=0
  ·have a:r=2:=(by omega);subst a;have k:((n:Int)==0)=true:=beq_iff_eq.2 (by omega);clear h b d;go_enter func40,ntmps40;go_wp2;go_ret;exact⟨rfl,(qU _ _).alloc (qK _) _⟩
  ·have k:((n:Int)==0)=false:=qg.2 (by omega);by_cases p:32<s.size
   ·have a:r=3:=(by omega);subst a;have l:decide ((32:Int)<(s.size:Int))=true:=qB (by omega);clear h b d;go_enter func40,ntmps40;go_wp2;go_ret;exact⟨rfl,(qU _ _).alloc (qK _) _⟩
   ·have l:decide ((32:Int)<(s.size:Int))=false:=qA (by omega);by_cases q:8<n
    ·have a:r=3:=(by omega);subst a;have m:decide ((8:Int)<(n:Int))=true:=qB (by omega);clear h b d;go_enter func40,ntmps40;go_wp2;go_ret;exact⟨rfl,(qU _ _).alloc (qK _) _⟩
    ·have m:decide ((8:Int)<(n:Int))=false:=qA (by omega);have a:r=2:=(by omega);subst a;by_cases g:f<0
     ·have o:decide (f<0)=true:=qB g;clear h b d;go_enter func40,ntmps40;go_wp2;go_ret;exact⟨rfl,(qU _ _).alloc (qK _) _⟩
     ·have o:decide (f<0)=false:=qA g;have y:decide ((1073741824:Int)-(n:Int)<f)=true:=qB (by omega);clear h b d;go_enter func40,ntmps40;go_wp2;go_ret;exact⟨rfl,(qU _ _).alloc (qK _) _⟩
theorem Tz(s:Tw)(f:Int)(p a c:Nat)(l:List jj)(w:World)(z:1<=s.size)(A:s.size<=32)(v:1<=l.length)(y:l.length<=8)(q:0<=f)(u:f<=1073741824-(l.length:Int))(g:∀x∈l,bC x)(m:p<w.1.size)
  (j:∀i x,l[i]? = some x->w.cell? ⟨p,a+i*3,none⟩=some (.string x.t)/\w.cell? ⟨p,a+i*3+1,none⟩=some (.string x.d)/\w.cell? ⟨p,a+i*3+2,none⟩=some (.float .f64 x.b)):
  Calls prog 40 #[km s f (.slice (some ⟨p,a,none⟩) l.length c)] w (X3 (.int .i64 (uB l)) w):=by
 unfold km;have B:((s.size:Int)==0)=false:=qg.2 (by omega);have C:((l.length:Int)==0)=false:=qg.2 (by omega);have D:decide ((32:Int)<(s.size:Int))=false:=qA (by omega);have F:decide ((8:Int)<(l.length:Int))=false:=qA (by omega);have G:decide (f<0)=false:=qA (by omega);have H:decide ((1073741824:Int)-(l.length:Int)<f)=false:=qA (by omega);have k:Below w.1.size w (w.alloc (.cells #[s,f,.slice (some ⟨p,a,none⟩) l.length c] 92)):=(qU _ _).alloc (qK _) _
 have n:=qQ (Tx p a c l (w.alloc (.cells #[s,f,.slice (some ⟨p,a,none⟩) l.length c] 92)) (by omega) g (by simp;omega)
  (fun i x g=>⟨jm k m (j i x g).1,jm k m (j i x g).2.1,jm k m (j i x g).2.2⟩))
 generalize uB l=r at*;clear j g;go_enter func40,ntmps40;go_wp2_with fail;refine n.out.mono ?_;rintro e I⟨rfl,o⟩;go_wp2;go_ret;exact⟨rfl,k.trans (o.mono (by simp))⟩
theorem QF(s:Tw)(f:Int)(v:Value)(l:List jj)(w:World)(h:lJ w s f v l):
  Calls prog 40 #[km s f v] w (X3 (.int .i64 (kQ s f l)) w):=by
 obtain⟨A,c,rfl⟩:=h.v.form;by_cases a:s.size=0∨l.length=0
 ·rw[QG a];exact JI s f A l.length c 2 w h.s h.f h.n (qX ⟨a,rfl⟩)
 ·by_cases b:32<s.size∨8<l.length
  ·rw[QW a b];exact JI s f A l.length c 3 w h.s h.f h.n (qY (qX ⟨a,b,rfl⟩))
  ·by_cases d:f<0∨1073741824-(l.length:Int)<f
   ·rw[QA a b d];exact JI s f A l.length c 2 w h.s h.f h.n (qY (qY ⟨a,b,d,rfl⟩))
   ·rw[QB a b d];obtain⟨p,j,rfl,i,g⟩:=h.v.pos (by omega);exact Tz s f p j c l w (by omega) (by omega) (by omega) (by omega) (by omega) (by omega) h.x i g
end
section
open Go.RowKit
attribute [local go_sem] cq
def bc(w:World)(g:Nat)(T:TypeId)(x:Value):Prop:=w.heap[g]? = some (.cells #[x] T (0,0))
theorem bc.new(w:World)(T:TypeId)(x:Value):bc (w.alloc (.cells #[x] T (0,0))) w.1.size T x:=by
 show(w.heap.push _)[w.1.size]? = _;simp
theorem bc.lt{w:World}{g:Nat}{T:TypeId}{x:Value}(h:bc w g T x):g<w.1.size:=by
 obtain⟨a,_⟩:=ql.1 h;exact a
theorem bc.below{w w':World}{g:Nat}{T:TypeId}{x:Value}(h:bc w g T x)(a:Below w.1.size w w'):bc w' g T x:=(a.block g h.lt).trans h
theorem bc.drew{w:World}{g:Nat}{T:TypeId}{x:Value}(h:bc w g T x):bc w.drew g T x:=h
theorem bc.cell{w:World}{g:Nat}{T:TypeId}{x:Value}(h:bc w g T x):w.cell? ⟨g,0,none⟩=some x:=by
 unfold bc at h;simp[World.cell?,h]
theorem Tj(m:Nat)(d:m<256)(W:World)(g:Nat)(h:W.cell? ⟨g,0,none⟩=some (.int .u8 (m:Nat))):(convert 154 9 (.slice (some ⟨g,0,none⟩) 1 1)).run prog W=.ok (.string (bs (be 1 m))) W:=by
 have a:=run_convert_bytes_back (P:=prog) W 154 9 5 ⟨g,0,none⟩ 1 (be 1 m) Tryz.underlying154 Tryz.underlying5 Tryz.underlying9
  (fun j b=>by
   have c:j=0:=(by rw[jn]at b;omega);subst c;have e:(⟨g,0,none⟩:Addr).add 0=⟨g,0,none⟩:=rfl;rw[e,h];simp[be];omega)
 exact a
theorem Tk(s:Tw)(f:Int)(v:Value)(l:List jj)(w:World)(h:lJ w s f v l)(a:¬kQ s f l=0):
  Calls prog 55 #[km s f v] w (X3 (.tuple #[.string ByteArray.empty,.int .i64 (kQ s f l)]) w):=by
 have d:=fun W (i:Below w.1.size w W)=>QE s f v l W (h.below i)
 obtain⟨A,c,rfl⟩:=h.v.form;have g:Below w.1.size w (w.alloc (.cells #[s,f,.slice A l.length c] 92)):=(qU _ _).alloc (qK _) _;have b:=qQ (d _ g);unfold km at b ⊢;have m:(kQ s f l != 0)=true:=by simp;exact a
 have n:(kQ s f l==0)=false:=by simp;exact a
 clear a d h;generalize kQ s f l=k at*;go_enter func55,ntmps55;go_wp2_with fail;refine b.out.mono ?_;rintro e o⟨rfl,j⟩;go_wp2;go_ret2;exact⟨rfl,g.trans (j.mono (by simp))⟩
theorem Tv(s:Tw)(f:Nat)(p m c:Nat)(l:List jj)(w:World)(hf:f<=1073741824)(hs:s.size<=32)(hl:l.length<=8)(A:∀x∈l,mK x)(O:p<w.1.size)
  (hC:∀W,Below w.1.size w W->Calls prog 54 #[km s (f:Nat) (.slice (some ⟨p,m,none⟩) l.length c)] W (X3 (.int .i64 0) W))
  (L:∀i x,l[i]? = some x->w.cell? ⟨p,m+i*3,none⟩=some (.string x.t)/\w.cell? ⟨p,m+i*3+1,none⟩=some (.string x.d)/\w.cell? ⟨p,m+i*3+2,none⟩=some (.float .f64 x.b)):
  Calls prog 55 #[km s (f:Nat) (.slice (some ⟨p,m,none⟩) l.length c)] w (X3 (.tuple #[.string (uC s f l),.int .i64 0]) w):=by
 have j:Below w.1.size w (w.alloc (.cells #[s,f,.slice (some ⟨p,m,none⟩) l.length c] 92)):=(qU _ _).alloc (qK _) _;have H:=qQ (hC _ j);unfold km at H ⊢;clear hC;go_enter func55,ntmps55;go_wp2_with fail;refine H.out.mono ?_;rintro e a⟨rfl,o⟩;have k0:a.cell? ⟨w.1.size,0,none⟩=some (.string s):=jm o (by simp) (World.cell?_alloc_at _ _ _ _ rfl);have k1:a.cell? ⟨w.1.size,1,none⟩=some (.int .i64 (f:Nat)):=jm o (by simp) (World.cell?_alloc_at _ _ _ _ rfl);have V:a.cell? ⟨w.1.size,2,none⟩=some (.slice (some ⟨p,m,none⟩) l.length c):=jm o (by simp) (World.cell?_alloc_at _ _ _ _ rfl);have D:=o.size;rw[World.size_alloc]at D;have z:=j.trans (o.mono (by simp));clear o j H;go_upto_region 4 with fail;go_cut [5] (fun u q=>u=.string (cA s f l.length)/\Below a.1.size a q)
 case first =>
  have HT:=qQ fun W=>U0 s W (by omega)
  have hP:∀W:World,Calls prog 102 #[.int .u64 (f:Nat),.int .i64 8] W (X3 (.string (bs (be 8 f))) W):=fun W=>Vj f 8 W (by omega) (by omega) (by omega)
  have HP:=qQ hP;clear hP;have av:=fun W g h=>Tj l.length (by omega) W g h
  have hm:IntKind.u8.wrap (l.length:Int)=(l.length:Int):=by rw[IntKind.wrap_u8];omega
  have aw:(l.length:Int)%256=(l.length:Int):=by omega
  have ax:IntKind.u64.wrap (f:Int)=(f:Int):=by rw[IntKind.wrap_u64];omega
  have z1:(bs (be 2 s.size)++s).size=s.size+2:=by rw[qx,kK,jn];omega
  have z2:(bs (be 8 f)).size=8:=by rw[kK,jn]
  have z3:(bs (be 1 l.length)).size=1:=by rw[kK,jn]
  have e:cA s f l.length=bs (be 2 s.size)++s++bs (be 8 f)++bs (be 1 l.length):=rfl;have J:∀w:World,(Op.stringOp .add (bs (be 2 s.size)++s) (bs (be 8 f))).run prog w=.ok (.string (bs (be 2 s.size)++s++bs (be 8 f))) w:=fun w=>run_string_add_sum (P:=prog) (w:=w) _ _ (by omega)
  have z4:(bs (be 2 s.size)++s++bs (be 8 f)).size=s.size+10:=by rw[qx,z1,z2]
  have K:∀w:World,(Op.stringOp .add (bs (be 2 s.size)++s++bs (be 8 f)) (bs (be 1 l.length))).run prog w=.ok (.string (cA s f l.length)) w:=fun w=>run_string_add_sum (P:=prog) (w:=w) _ _ (by omega)
  generalize cA s f l.length=B at*;generalize bs (be 2 s.size)++s++bs (be 8 f)=X at*;generalize bs (be 2 s.size)++s=T at*;generalize bs (be 8 f)=Q at*;generalize bs (be 1 l.length)=R at*
  have HS:Hid (∀W,Below a.1.size a W->Below a.1.size a W/\W.cell? ⟨w.1.size,0,none⟩=some (.string s)/\W.cell? ⟨w.1.size,1,none⟩=some (.int .i64 (f:Nat))/\W.cell? ⟨w.1.size,2,none⟩=some (.slice (some ⟨p,m,none⟩) l.length c)) :=
   qQ fun W r=>⟨r,jm r (show w.1.size<_ by omega) k0,jm r (show w.1.size<_ by omega) k1,jm r (show w.1.size<_ by omega) V⟩
  clear z1 z2 z3 z4 e L A z D
  go_region_held_law (fun W=>Below a.1.size a W/\W.cell? ⟨w.1.size,0,none⟩=some (.string s)/\W.cell? ⟨w.1.size,1,none⟩=some (.int .i64 (f:Nat))/\W.cell? ⟨w.1.size,2,none⟩=some (.slice (some ⟨p,m,none⟩) l.length c))
   (first|(with_reducible assumption)|((with_reducible refine HS.out _ ?_);(repeat' (first|(with_reducible assumption)|(with_reducible exact qU _ _)|(with_reducible refine Gu ?_)|(with_reducible refine Below.drew ?_)));done)|fail)
   (first
   | (go_at_call 101;((with_reducible refine KG (HT.out _) fun w3 ab=>?_);(with_reducible (try (have F:=(bc.new _ _ _).drew.below ab;(try simp only[World.size_drew]at F);have ao:=F.cell)));have ar:=QD (W0:=a) ab (by with_reducible assumption)))
   | (go_at_call 102;((with_reducible refine KG (HP.out _) fun w4 M=>?_);(with_reducible (try (have A2:=(bc.new _ _ _).below M;have ap:=A2.cell));(try (have A3:=F.below M;have aq:=A3.cell)));have au:=QD (W0:=a) M (by with_reducible assumption)))
   | fail)
  all_goals
   go_step;go_step;go_meet;refine⟨rfl, ?_⟩
   repeat' (first|(with_reducible assumption)|(with_reducible exact qU _ _)|(with_reducible refine Gu ?_)|(with_reducible refine Below.drew ?_))
 case rest =>
  obtain⟨rfl,y⟩:=hcut;have aj:=z.trans (y.mono z.size);have j2:=jm y (show w.1.size<_ by omega) V;have al:w.1.size<wc.1.size:=qS D y.size;have HE:=qQ (show uC s f l=cA s f l.length++kR l from rfl);have an:=JC s f l.length;have aa:=qQ fun k x h=>Gb l k x h
  have af:=fun k (h:k<=l.length)=>JB (l:=l.take k) (fun x hx=>(A x (List.mem_of_mem_take hx)).c)
  have I:=qQ af;clear af k0 k1 V y D z;generalize cA s f l.length=B at*;go_wp2;go_loopw [5,6] (fun u i wr=>∃k:Nat,k<=l.length/\i=.int .i64 k/\u=.string (B++kR (l.take k))/\Below w.1.size w wr/\wr.cell? ⟨w.1.size,2,none⟩=some (.slice (some ⟨p,m,none⟩) l.length c)/\w.1.size<wr.1.size) (fun _ i _=>l.length-(intOf i).toNat)
  case atStart=>exact⟨0,qI _,rfl,by simp[kR],aj,j2,al⟩
  case round =>
   obtain⟨k,hk,rfl,rfl,j,ac,N⟩:=hrel;by_cases ak:k<l.length
   ·obtain⟨x,C⟩:∃x,l[k]? = some x:=⟨l[k],qD ak⟩
    obtain⟨a0,J,K⟩:=L k x C;have q:=A x (qM C);have G:=qQ fun W=>TW x.t x.d x.b W q.b q.c
    have q0:=jm j O a0;have q1:=jm j O J;have q2:=jm j O K;have hn:=aa.out k x C;have ad:=I.out k (by omega);have ae:=I.out (k+1) (by omega);rw[qT]at ad ae;have S:B++kR (l.take (k+1))=B++kR (l.take k)++bu x:=(by rw[hn,JA,ByteArray.append_assoc]);have U:(B++kR (l.take k)++bu x).size<=maxLen:=(by rw[<-S,qx,an];unfold maxLen;omega);have ha:∀w:World,(Op.stringOp .add (B++kR (l.take k)) (bu x)).run prog w=.ok (.string (B++kR (l.take k)++bu x)) w:=fun w=>run_string_add_sum (P:=prog) (w:=w) _ _ (by rw[qx]at U;exact U)
    have HN:=qQ S;have ag:evB x.t x.d x.b=bu x:=rfl;rw[ag]at G;clear C a0 J K q L A hn ad ae S U ag I aa;generalize B++kR (l.take k)++bu x=Y at*;generalize B++kR (l.take k)=Z at*;generalize bu x=E at*;obtain⟨t,d,n⟩:=x;simp only at q0 q1 q2 G;have s1:(k:Int)<(l.length:Int):=(by omega);go_wp2_with fail;refine KG (G.out _) fun w2 v=>?_;have ah:=bj j v;have ai:=(v.cell (p:=⟨w.1.size,2,none⟩) N).trans ac;have am:=qS N v.size;clear j ac v q0 q1 q2 N;go_wp2;go_roundw
    case rel=>exact⟨k+1,by omega,by go_num,by rw[HN.out],ah,ai,am⟩
    case measure=>simp[intOf];omega
   ·obtain rfl:k=l.length:=(by omega);have s1:¬(l.length:Int)<(l.length:Int):=(by omega);have hE:=HE.out;rw[List.take_length,<-hE];go_wp2;go_ret2;exact⟨rfl,j⟩
theorem Ty(s:Tw)(f:Int)(v:Value)(l:List jj)(w:World)(h:lJ w s f v l):
  Calls prog 55 #[km s f v] w (X3 (.tuple #[.string (oR s f l),.int .i64 (kQ s f l)]) w):=by
 unfold oR;by_cases a:kQ s f l=0
 ·rw[qV a,a];obtain⟨r,g,t,i,u,y,z⟩:=gh.1 a;obtain⟨A,c,n⟩:=h.v.form;subst n;obtain⟨p,q,rfl,m,d⟩:=h.v.pos (by omega);obtain⟨k,rfl⟩:∃k:Nat,f=k:=⟨f.toNat,by omega⟩
  rw[qm];refine Tv s k p q c l w (by omega) g i (JD a fun x o=>(h.x x o).b) m (fun W j=>?_) d;have:=QE s k _ l W (h.below j);rw[a]at this;exact this
 ·rw[qZ a];exact Tk s f v l w h a
end
section
open Go.RowKit
attribute [local go_sem] cq
def Tu(w:World)(e:Ending)(w':World):Prop:=e=.returned (.tuple #[km ByteArray.empty 0 (.slice none 0 0),.int .i64 10])/\Below w.1.size w w'
theorem Tg{s:Tw}(h:vc s=false):rdB s=ByteArray.empty:=by simp[rdB,h]
theorem gn.set{w:World}{g:Nat}{T:TypeId}{x y z:Value}(h:gn w g T x y z)(x' a b:Value):gn (((w.setCell ⟨g,0,none⟩ x').setCell ⟨g,1,none⟩ a).setCell ⟨g,2,none⟩ b) g T x' a b:=by
 unfold gn at h ⊢;simp[World.setCell,Array.getElem?_modify,h]
theorem nB{w w2:World}(h:Below w.1.size w w2)(x y z:Value):
  Below w.1.size w (((w2.setCell ⟨w.1.size,0,none⟩ x).setCell ⟨w.1.size,1,none⟩ y).setCell ⟨w.1.size,2,none⟩ z):=((h.setCell (qK _) _).setCell (qK _) _).setCell (qK _) _
theorem lK(W:World)(b i:Nat)(v:Value):W.grownBy (W.setCell ⟨b,i,none⟩ v) (some b):=⟨rfl,rfl,rfl,by simp[World.setCell],fun k _ a=>Below.heap_setCell _ _ _ _ (fun e=>a (by rw[e]))⟩
theorem JL{w:World}{base n size:Nat}{e:TypeId}{v:Value}{xs:List Value}(h:w.ownsRow base e size v n xs):∃A c,v=.slice A n c:=by
 rcases h.2 with⟨a,d⟩|⟨g,b,f,a,_⟩
 ·exact⟨none,0,by rw[a,d]⟩
 ·exact⟨_,b,a⟩
theorem Tb{R:Tw}(h:8<R.size){s:Tw}(e:rdB s=R):bgM s=(R[8]'h).toNat:=by
 subst e;unfold bgM;rw[dif_pos h]
theorem Gc{x:jj}(h:mK x):bC x:=by
 have:=oI.1 h.c;exact⟨by omega,by omega,h.b⟩
end
section
open Go.RowKit
attribute [local go_sem] cq
def JM(M:Nat)(s:Tw)(w:World)(e:Ending)(w':World):Prop :=
 ∃v q,e=.returned (.tuple #[v,.bool q])/\Below w.1.size w w'/\((q=false/\(∃A n c,v=.slice A n c)/\∀l,uD M s≠some (l,ByteArray.empty))∨(q=true/\∃l,uD M s=some (l,ByteArray.empty)/\w'.ownsRow w.1.size 64 3 v l.length (l.flatMap uo)))
theorem Tc(s:Tw)(M:Nat)(w:World)(hs:s.size<=100000)(hM:M<256):
  Calls prog 213 #[s,M] w (JM M s w):=by
 obtain⟨i0,hi,af,ag,ah⟩:=info_parts Gg;obtain⟨m,C⟩:∃m,uD M s=m:=⟨_,rfl⟩
 have J:=qQ (fun(e:Ending) (L:World) (h:∃v q,e=.returned (.tuple #[v,.bool q])/\Below w.1.size w L/\((q=false/\(∃A n c,v=.slice A n c)/\∀l,m≠some (l,ByteArray.empty))∨(q=true/\∃l,m=some (l,ByteArray.empty)/\L.ownsRow w.1.size 64 3 v l.length (l.flatMap uo))))=>(show JM M s w e L by unfold JM;rw[C];exact h));have N:=qQ (show m=(uD (M-0) s).map (fun p=>(([]:List jj)++p.1,p.2)) by rw[<-C];simp);clear C;go_enter func213,ntmps213;go_wp2;go_loopw [0,4,10] (fun r v i wr=>∃(k:Nat) (a:Tw) (g:List jj),k<=M/\r=.string a/\i=.int .i64 k/\g.length=k/\a.size<=100000/\m=(uD (M-k) a).map (fun p=>(g++p.1,p.2))/\wr.ownsRow w.1.size 64 3 v g.length (g.flatMap uo)/\Below w.1.size w wr) (fun _ _ i _=>M-(intOf i).toNat)
 case atStart=>exact⟨0,s,[],qI _,rfl,rfl,rfl,hs,N.out,World.ownsRow_nil _ _ _ _,qU _ _⟩
 case round =>
  obtain⟨k,a,g,hk,rfl,rfl,H,ai,C,D,B⟩:=hrel;rw[H]at D;have F:=qQ C;clear C N;obtain⟨A',c',rfl⟩:=JL D;by_cases aj:k<M
  ·have s1:(k:Int)<(M:Int):=(by omega);have G:=qQ fun W=>TK a W (by unfold maxLen;omega)
   cases y:yu a with
   | false =>
     have S:m=none:=by
      rw[F.out,show M-k=(M-k-1)+1 by omega,TS y];rfl
     have HN:=qQ S;clear S;obtain⟨U,V,X,Y⟩:=Zs y;rw[U,V,X,Y,y]at G;clear U V X Y y;go_wp2_with fail;refine(G.out _).mono ?_;rintro e Z⟨rfl,z⟩;have o:=bj B z;clear z D B;go_wp2;go_ret2;exact J.out _ _ ⟨_,_,rfl,o.alloc o.size _,qX ⟨rfl,⟨_,_,_,rfl⟩,fun l e=>by rw[HN.out]at e;cases e⟩⟩
   | true =>
     have ae:(erR a).size<=100000:=by
      rw[(ta y).2.2.2,qk];have:=bS (rdB a);have:=bS a;unfold erL;omega
     have P:m=(uD (M-(k+1)) (erR a)).map (fun p=>(g++[⟨erT a,erD a,erW a⟩]++p.1,p.2)):=by
      rw[F.out,show M-k=(M-(k+1))+1 by omega,TP y,Option.map_map];congr 1;funext p;simp
     have aa:=qQ P;rw[y]at G;clear P F y;generalize erT a=t at*;generalize erD a=d at*;generalize erW a=b at*;generalize erR a=R2 at*;go_wp2_with fail;refine(G.out _).mono ?_;rintro e Z⟨rfl,z⟩;have o:=bj B z;have K:=JF D z (qK _);clear z D B
     go_wp2_with (first
      | (at_builtin;refine wpList_append_own _ rfl _ _ 40 rfl w.1.size 64 i0 (.agg #[.string ByteArray.empty,.string ByteArray.empty,.float .f64 0]) 3 40 Tryz.underlying40 hi af ag ah rfl (by decide) _ _ _ rfl ((K.alloc _).alloc _) ⟨Z.1.size+1,0,none⟩ 1 1 [.string t,.string d,.float .f64 b] rfl rfl ?c1 ?c2 ?c3 ?c4 ?c5 ?_))
     case c1 =>
      intro j u f
      match j,f with
      | 0,f=>simp at f;subst f;simp[Addr.add]
      | 1,f=>simp at f;subst f;simp[Addr.add]
      | 2,f=>simp at f;subst f;simp[Addr.add]
     case c2 =>
      intro u T;simp at T;rcases T with rfl|rfl|rfl<;>rfl
     case c3=>unfold maxLen;omega
     case c4=>omega
     case c5=>have:=o.size;simp;omega
     ·intro v' w4 ad R _;have ac:=((o.alloc o.size (.cells #[t,d,.float .f64 b] 64)).alloc (by have:=o.size;simp;omega) (.cells #[t,d,.float .f64 b] 64)).grown R (by have:=o.size;simp;omega) (fun q e=>(K.lt q e).1);clear R K o;go_wp2;go_roundw
      case rel =>
       refine⟨k+1,R2,g++[⟨t,d,b⟩],by omega,rfl,by go_num,by rw[qN,H];rfl,ae,aa.out, ?_,ac⟩;rw[List.flatMap_append,qN,H];exact ad
      case measure=>simp[intOf];omega
  ·obtain rfl:k=M:=(by omega);have s1:¬(k:Int)<(k:Int):=(by omega);have Q:m=some (g,a):=(by rw[F.out,Nat.sub_self];simp[uD]);have O:=qQ Q;clear F Q;by_cases I:a.size=0
   ·have ab:a=ByteArray.empty:=qi (Array.eq_empty_of_size_eq_zero I);subst ab;go_wp2;go_ret2;exact J.out _ _ ⟨_,_,rfl,B,qY ⟨rfl,g,O.out,by rw[H];exact D⟩⟩
   ·have t1:a.toList.isEmpty=false:=by
     rw[List.isEmpty_eq_false_iff,Lib.toList_data];intro e;exact I (by rw[Lib.size_eq,e];rfl)
    have HR:=qQ I;clear I;go_wp2;go_ret2;exact J.out _ _ ⟨_,_,rfl,B,qX ⟨rfl,⟨_,_,_,rfl⟩,fun l e=>by rw[O.out]at e;cases e;exact HR.out rfl⟩⟩
theorem Td(R:Tw)(h:8<R.size){s:Tw}(e:rdB s=R):jz (R.extract 8 9)=bgM s:=by
 rw[Tb h e]
 have a:(R.extract 8 9).data.toList=[R[8]]:=by
  have b:R.data.toList.length=R.size:=fB _;rw[ByteArray.data_extract,Array.toList_extract,List.extract,xJ (by omega)];simp;rfl
 unfold jz;rw[a];simp[un]
theorem Tf(R:Tw):jz (R.extract 0 8)=jz R:=by
 unfold jz;have e:(R.extract 0 8).data.toList=R.data.toList.take 8:=by simp
 rw[e,List.take_take,Nat.min_self]
theorem lV{w:World}{base B n size:Nat}{e:TypeId}{v:Value}{xs:List Value}(h:w.ownsRow base e size v n xs)(d:B<=base):w.ownsRow B e size v n xs:=by
 refine⟨h.1, ?_⟩;rcases h.2 with c|⟨g,a,b,i,f,r⟩
 ·exact qX c
 ·exact qY ⟨g,a,b,i,qR d f,r⟩
def bgN(s:Tw):Nat:=jz (rdB s)
def Gd(s:Tw)(w:World)(e:Ending)(w':World):Prop :=
 ∃S F v q,e=.returned (.tuple #[km S F v,.bool q])/\(∃A n c,v=.slice A n c)/\Below w.1.size w w'/\(q=false->vv s=false)/\(q=true->bg s=true/\S=rdA s/\F=(jz (rdB s):Nat)/\∃l,dG s=some (l,ByteArray.empty)/\w'.ownsRow w.1.size 64 3 v l.length (l.flatMap uo))
theorem Gf{s:Tw}{w w':World}{e:Ending}(h:vv s=false)(b:e=.returned (.tuple #[km ByteArray.empty 0 (.slice none 0 0),.bool false]))(a:Below w.1.size w w'):Gd s w e w' :=
 ⟨_,_,_,_,b,⟨_,_,_,rfl⟩,a,fun _=>h,fun h=>by cases h⟩
theorem Th(s:Tw)(w:World)(hs:s.size<=100000):
  Calls prog 158 #[s] w (Gd s w):=by
 have z:=qQ fun W=>nZ s W (by unfold maxLen;omega)
 have af:=bS s;have D:Below w.1.size w (w.alloc (.cells #[.string ByteArray.empty,.int .i64 0,.slice none 0 0] 92)):=(qU _ _).alloc (qK _) _;have p:=gn.new w 92 (.string ByteArray.empty) (.int .i64 0) (.slice none 0 0);have N:∀(t:Tw) (W:World),t.size<=100->Calls prog 131 #[.string t] W fun e w'=>e=.returned (.int .u64 (jz t:Nat))/\w'=W:=fun t W h=>(dZ t W (by unfold maxLen;omega)).mono fun e w' h=>⟨h.1,h.2.symm⟩
 by_cases h9:(rdB s).size<9
 ·have H:=qQ (fun e w'=>Gf (s:=s) (w:=w) (w':=w') (e:=e) (Gy (by unfold bg;rw[qA (by omega)];simp)));have x1:decide (((rdB s).size:Int)<9)=true:=qB (by omega);generalize rdB s=R at*;generalize rdA s=A at*;generalize vc s=q at*;clear N hs;go_enter func158,ntmps158;go_wp2_with fail;refine(z.out _).mono ?_;rintro e o⟨rfl,d⟩;have g:=p.below d;have F:Below w.1.size w o:=D.trans (d.mono (by simp));obtain⟨i,j,k,V,X,Y,_⟩:=g.facts;clear p g d D;go_wp2;exact bodyPost_ret (v:=.tuple #[.agg #[.string ByteArray.empty,.int .i64 0,.slice none 0 0],.bool false]) (by simp[results,Tryz.results158,go_sem,i,j,k];rfl) rfl (H.out _ _ rfl (nB F _ _ _))
 ·have x1:decide (((rdB s).size:Int)<9)=false:=qA (by omega);have x3:(8:Int)<((rdB s).size:Int):=by omega
  have x4:(9:Int)<=((rdB s).size:Int):=by omega
  have J:=Tf (rdB s);have K:=Td (rdB s) (by omega) (s:=s) rfl;have hg:=pB (rdB s);have aa:=Gj s;have ag:((rdB s).extract 0 8).size<=100:=by rw[qk];omega
  have ah:((rdB s).extract 8 9).size<=100:=by rw[qk];omega
  have ac:((rdB s).extract 9 (rdB s).size).size<=100000:=by rw[qk];omega
  have u:=qQ (show dG s=uD (bgM s) ((rdB s).extract 9 (rdB s).size) from rfl);have I:=qQ fun W=>Tc ((rdB s).extract 9 (rdB s).size) (bgM s) W ac aa
  have T:=qQ N
  have ab:vc s=true:=by
   cases h:vc s with
   | true=>rfl
   | false=>rw[Tg h]at x4;exact absurd x4 (by decide)
  have y:=qQ (show jz (rdB s)<=1073741824->bg s=true from fun h=>by unfold bg;rw[ab,qB (by omega:9<=(rdB s).size),qB h];rfl);have C:=qQ (show 1073741824<jz (rdB s)->bg s=false from fun h=>by unfold bg;rw[qA (by omega:¬jz (rdB s)<=1073741824)];simp);have HA:=qQ (qG (rfl:rdA s=rdA s) (rfl:jz (rdB s)=jz (rdB s)));clear N hs h9 af ac ab;obtain⟨A,L⟩:∃A,rdA s=A:=⟨_,rfl⟩
  obtain⟨n,f⟩:∃n,jz (rdB s)=n:=⟨_,rfl⟩
  obtain⟨M,hM⟩:∃M,bgM s=M:=⟨_,rfl⟩
  rw[hM]at u I aa K;rw[f]at y C hg J;rw[L]at z;have G:=qQ (qG L (show bgN s=n from f));clear L f hM HA;generalize rdB s=R at*;generalize vc s=q at*;go_enter func158,ntmps158;go_wp2_with fail;refine(z.out _).mono ?_;rintro e o⟨rfl,d⟩;have g:=p.below d;have F:Below w.1.size w o:=D.trans (d.mono (by simp));clear p d D;go_wp2_with fail;go_quiet ((go_at_call 131;exact Calls.quiet_of_same ((T.out _ _ (by rw[qk];omega)))));rename_i nq _;rw[J,K];have r:gn (o.drewN nq) w.1.size 92 (.string ByteArray.empty) (.int .i64 0) (.slice none 0 0):=g;have P:=uK F nq;generalize o.drewN nq=w2 at*;clear g F T z ag ah J K x1;by_cases f:1073741824<n
  ·have H:=qQ (fun e w'=>Gf (s:=s) (w:=w) (w':=w') (e:=e) (Gy (C.out f)));have x2:decide ((1073741824:Int)<(n:Int))=true:=qB (by omega);obtain⟨i,j,k,V,X,Y,_⟩:=r.facts;clear f C y G u;go_wp2;exact bodyPost_ret (v:=.tuple #[.agg #[.string ByteArray.empty,.int .i64 0,.slice none 0 0],.bool false]) (by simp[results,Tryz.results158,go_sem,i,j,k];rfl) rfl (H.out _ _ rfl (nB P _ _ _))
  ·have x2:decide ((1073741824:Int)<(n:Int))=false:=qA (by omega);have hH:=y.out (by omega);have hm:IntKind.i64.wrap (M:Int)=(M:Int):=(by rw[IntKind.wrap_i64];omega);have am:IntKind.i64.wrap (n:Int)=(n:Int):=(by rw[IntKind.wrap_i64];omega);have ad:=qQ hH;have al:=r.lt;clear f C y hH;generalize ak:R.extract 9 R.size=aj at*;go_wp2_with fail;refine(I.out _).mono ?_;rintro e w3⟨v,q',rfl,O,S⟩;have E3:=r.below O;have ae:=bj P O
   have ai:∃A n c,v=.slice A n c:=by
    rcases S with⟨_,h,_⟩|⟨_,l,_,h⟩
    ·exact h
    ·obtain⟨a,c,h⟩:=JL h;exact⟨_,_,_,h⟩
   obtain⟨i,j,k,V,X,Y,_⟩:=E3.facts;clear r O P I;obtain⟨B,m,c,rfl⟩:=ai;have U:=qQ S;clear S;go_wp2;refine bodyPost_ret (v:=.tuple #[.agg #[.string A,.int .i64 (n:Nat),.slice B m c],q']) (by simp[results,Tryz.results158,go_sem,i,j,k]) rfl ⟨A,(n:Nat),.slice B m c,q',rfl,⟨_,_,_,rfl⟩,nB ae _ _ _, ?_, ?_⟩
   ·intro h;rcases U.out with⟨_,_,b⟩|⟨b,_⟩
    ·cases hb:vv s with
     | false=>rfl
     | true=>exact absurd (u.out.symm.trans (dc hb).2.2.2.2.1) (b _)
    ·rw[h]at b;cases b
   ·intro h;rcases U.out with⟨b,_⟩|⟨_,l,b,Z⟩
    ·rw[h]at b;cases b
    ·have Q:(Value.slice B m c).ownBlock≠some w.1.size:=fun e=>by have:=(Z.lt _ e).1;omega
     refine⟨ad.out,G.out.1.symm,by rw[<-G.out.2];rfl,l,u.out.trans b, ?_⟩;exact((lV Z (by omega)).kept (lK _ w.1.size 0 _) (.inr Q)).kept (lK _ w.1.size 1 _) (.inr Q) |>.kept (lK _ w.1.size 2 _) (.inr Q)
def JN(s:Tw)(w:World)(e:Ending)(w':World):Prop:=∃u,e=.returned (.tuple #[km (bgS s) (bgF s) u,.int .i64 (bgE s)])/\w'.ownsRow w.1.size 64 3 u (bgL s).length ((bgL s).flatMap uo)/\Below w.1.size w w'
theorem Gh{s:Tw}{w w':World}{e:Ending}(h:vv s=false)(a:Tu w e w'):JN s w e w':=by
 obtain⟨b,c,d,f⟩:=TT h;unfold JN;rw[b,c,d,f];exact⟨_,a.1,World.ownsRow_nil _ _ _ _,a.2⟩
theorem Tl(s:Tw)(w:World)(hs:s.size<=100000):Calls prog 95 #[s] w (JN s w):=by
 have aa:Below w.1.size w (w.alloc (.cells #[.string ByteArray.empty,.int .i64 0,.slice none 0 0] 92)):=(qU _ _).alloc (qK _) _;have E0:=gn.new w 92 (.string ByteArray.empty) (.int .i64 0) (.slice none 0 0);have HR:=qQ (Th s (w.alloc (.cells #[.string ByteArray.empty,.int .i64 0,.slice none 0 0] 92)) hs);have HA:=qQ (qR (rY s) hs);go_enter func95,ntmps95;go_wp2_with fail;refine HR.out.mono ?_;rintro e w1⟨S,F,v,q,rfl,⟨B,m,c,rfl⟩,U,X,Z⟩;have y:=E0.below U;have V:Below w.1.size w w1:=aa.trans (U.mono (by simp));clear E0 U aa HR;obtain⟨p,t,u,D,G,H,_⟩:=y.facts;have a:=y.set (.string S) (.int .i64 F) (.slice B m c);have k:=nB V (.string S) (.int .i64 F) (.slice B m c);unfold km;cases q with
 | false =>
   have L:=qQ fun P e=>Gh (w:=w) (w':=P) (e:=e) (X rfl)
   obtain⟨j0,j1,j2,Q,R,T,_⟩:=a.facts;obtain⟨c0,c1,c2,_⟩:=(a.set (.string ⟨#[]⟩) (.int .i64 0) (.slice none 0 0)).facts;clear X Z y a V;go_wp2;exact bodyPost_ret (v:=.tuple #[.agg #[.string ByteArray.empty,.int .i64 0,.slice none 0 0],.int .i64 10]) (by simp[results,Tryz.results95,go_sem,c0,c1,c2];rfl) rfl (L.out _ _ ⟨rfl,nB k _ _ _⟩)
 | true =>
   obtain⟨j,rfl,rfl,l,o,I⟩:=Z rfl;obtain⟨_,_,e1⟩:=JL I;cases e1;have ab:∀g,w.1.size+1<=g->(Value.slice B l.length c).ownBlock≠some w.1.size:=fun g hg e=>by have:=(I.lt _ e).1;simp at this;omega
   have f:=ab (w.1.size+1) (qK _);clear ab;have Y:=((I.kept (lK _ w.1.size 0 (.string (rdA s))) (.inr f)).kept (lK _ w.1.size 1 (.int .i64 (jz (rdB s):Nat))) (.inr f)).kept (lK _ w.1.size 2 (.slice B l.length c)) (.inr f);obtain⟨_,af,ad⟩:=QC o;have ae:=Gj s
   have hF:jz (rdB s)<=1073741824:=by
    unfold bg at j;simp only[Bool.and_eq_true,decide_eq_true_eq]at j;exact j.2
   have i:=qQ (QF (rdA s) (jz (rdB s):Nat) (.slice B l.length c) l _ ⟨HA.out,WalkArith.wf_i64 (by omega),vC.xz Y,by omega,fun x hx=>Gc (ad x hx)⟩);have N:=qQ fun h=>dc (Gv j o h)
   have O:=qQ fun h=>T3 o (qY h)
   have M:=qQ Y;have K:=qQ o;clear X Z I Y af ad ae hF j HA o V y;obtain⟨j0,j1,j2,Q,R,T,_⟩:=a.facts;unfold km at i;generalize hA:rdA s=A at*;generalize hn:jz (rdB s)=n at*;by_cases d:kQ A (n:Nat) l=0
   ·obtain⟨_,y1,y2,y3,J,_⟩:=N.out d;rw[K.out]at J;simp only[Option.some.injEq,Prod.mk.injEq]at J;have C:=qQ (qG y1 (qG y2 (qG y3 J.1)));rw[d]at i;clear N O d y1 y2 y3 J K hA hn;go_wp2_with fail;refine KG i.out fun w2 b=>?_;have z:=a.below b;have W:=bj k b;have HI:=qQ (JF M.out b (qK _));clear b a k i M p t u D G H j0 j1 j2 Q R T;obtain⟨p,t,u,D,G,H,_⟩:=z.facts;go_wp2;refine bodyPost_ret (v:=.tuple #[.agg #[A,n,.slice B l.length c],.int .i64 0]) (by simp[results,Tryz.results95,go_sem,p,t,u]) rfl ⟨.slice B l.length c, ?_, ?_,nB W _ _ _⟩
    ·rw[C.out.1,C.out.2.1,C.out.2.2.1];rfl
    ·rw[<-C.out.2.2.2];exact lV (((HI.out.kept (lK _ w.1.size 0 _) (.inr f)).kept (lK _ w.1.size 1 _) (.inr f)).kept (lK _ w.1.size 2 _) (.inr f)) (by simp)
   ·have ac:=O.out d;have L:=qQ fun P e=>Gh (w:=w) (w':=P) (e:=e) ac
    have t3:(kQ A (n:Nat) l != 0)=true:=(by simp;exact d);have t4:(kQ A (n:Nat) l==0)=false:=(by simp;exact d);clear N O d K hA hn ac M f;generalize kQ A (n:Nat) l=r at*;go_wp2_with fail;refine KG i.out fun w2 b=>?_;have z:=a.below b;have W:=bj k b;clear b a k i p t u D G H j0 j1 j2 Q R T;obtain⟨p,t,u,D,G,H,_⟩:=z.facts;obtain⟨c0,c1,c2,_⟩:=(z.set (.string ⟨#[]⟩) (.int .i64 0) (.slice none 0 0)).facts;go_wp2;exact bodyPost_ret (v:=.tuple #[.agg #[.string ByteArray.empty,.int .i64 0,.slice none 0 0],.int .i64 10]) (by simp[results,Tryz.results95,go_sem,c0,c1,c2];rfl) rfl (L.out _ _ ⟨rfl,nB W _ _ _⟩)
end
section
open Go.ChangeShapes Go.WideShapes Go.ChangeAt Go.RowKit Go.Deep
theorem Tm: ∃a,prog.underlying 64=some (.struct a)/\oneCellFields prog a=true/\a.size=3 /\
  (a[0]?.map Field.type=some 9/\a[1]?.map Field.type=some 9/\a[2]?.map Field.type=some 24) :=
 ⟨_,Tryz.underlying64,by kernel_rfl,by kernel_rfl,by kernel_rfl,by kernel_rfl,by kernel_rfl⟩
theorem Gl: prog.cellsOf 64=3:=by kernel_rfl
structure rE(x:jj):Prop where
 t:x.t.size<=maxLen
 d:x.d.size<=maxLen
 b:x.b<18446744073709551616
theorem Tn{H:Type}{enc:TypeId × Value->H}{W:World}{u:Nat}{cs:List Value}{y:DataW H × List MemPlace}
  (A:DataW.trod enc prog W 0 (fun _=>true) true u 64 cs=some y):∃x,cs=uo x/\rE x:=by
 obtain⟨g,G,F,S,M,N,O⟩:=Tm;obtain⟨d,n,_,rfl,l,I,B⟩:=DataW.trod_struct G A;rw[Gl]at l
 match cs,l with
 | [c0,c1,c2],_ =>
   have step:∀(i:Nat) (t:TypeId),g[i]?.map Field.type=some t->∃p,d[i]? = some p/\DataW.trod enc prog W 0 (fun _=>true) true n t ((([c0,c1,c2]:List Value).drop i).take 1)=some p:=by
    intro i t c;cases a:g[i]? with
    | none=>rw[a]at c;cases c
    | some f =>
      rw[a]at c;obtain rfl:f.type=t:=(by simpa using c);obtain⟨D,C⟩:=hone_of F i f a;have b:=B i f a;rw[D,C]at b;have j:i<d.length:=(by rw[I];exact(ql.1 a).1);refine⟨d[i],qD j, ?_⟩;rw[b,qD j]
   obtain⟨T,_,v⟩:=step 0 _ M;obtain⟨U,_,b⟩:=step 1 _ N;obtain⟨V,_,z⟩:=step 2 _ O;obtain⟨m,q,_,P⟩:=DataW.trod_string Tryz.underlying9 v;obtain⟨o,r,_,Q⟩:=DataW.trod_string Tryz.underlying9 b;obtain⟨k,s,_,R⟩:=KM Tryz.underlying24 z;refine⟨⟨m,o,k⟩, ?_,P,Q, ?_⟩
   ·have J:c0=.string m:=(by simpa using q);have K:c1=.string o:=(by simpa using r);have L:c2=.float .f64 k:=(by simpa using s);rw[J,K,L];rfl
   ·exact of_decide_eq_true (show decide (k<2 ^ 64)=true from R)
theorem Gm{p:Nat->jj->Prop}:∀n,(∀i,i<n->∃x,p i x)->∃l:List jj,l.length=n/\∀i x,l[i]? = some x->p i x
 | 0,_=>⟨[],rfl,fun i x h=>by simp at h⟩
 | n+1,h=>by
   obtain⟨l,b,d⟩:=Gm n (fun i g=>h i (by omega));obtain⟨x,f⟩:=h n (by omega);refine⟨l++[x],by rw[qN,b];rfl,fun i y a=>?_⟩;rcases qh i n with c|c
   ·rw[List.getElem?_append_left (by omega)]at a;exact d i y a
   ·rw[List.getElem?_append_right (by omega),b]at a
    have:i=n:=by
     have:=(qO.1 a).1;simp at this;omega
    subst this;rw[Nat.sub_self]at a;obtain rfl:x=y:=(by simpa using a);exact f
def rF(w:World)(v:Value)(l:List jj):Prop:=vC w v l/\l.length<=maxLen/\∃A c,v=.slice A l.length c
theorem Tp{H:Type}{enc:TypeId × Value->H}{W:World}{B:Nat}{c:Value}{d:DataW H}{p:List MemPlace}
  (J:DataW.trod enc prog W 0 (fun _=>true) true B 40 [c]=some (d,p)) (y:∀x∈p,x.block<W.1.size):∃l,rF W c l/\∀x∈l,rE x:=by
 rcases open_slice Tryz.underlying40 J with⟨k,f⟩|⟨a,len,o,m,n,D,R,k,_,U,V,M,f,g⟩
 ·obtain rfl:c=.slice none 0 0:=by simpa using k
  exact⟨[],⟨qX ⟨rfl,_,_,rfl⟩,qI _,_,_,rfl⟩,fun x f=>(by cases f)⟩
 ·obtain rfl:c=.slice (some a) len o:=by simpa using k
  simp only[Prod.mk.injEq]at f;obtain⟨rfl,rfl⟩:=f;simp only[if_true]at M;rw[Gl]at g y;by_cases L:len=0
  ·subst L;exact⟨[],⟨qX ⟨rfl,_,_,rfl⟩,qI _,_,_,rfl⟩,fun x f=>(by cases f)⟩
  ·have each:∀i,i<len->∃x,rE x/\∀j u,(uo x)[j]? = some u->W.cell? (a.add (i*3+j))=some u:=by
    intro i T;obtain⟨S,G,P⟩:=g i (by omega);obtain⟨_,I,C⟩:=World.cells?_some G;obtain⟨x,rfl,N⟩:=Tn P;refine⟨x,N,fun j u z=>?_⟩;have K:j<3:=(by have:=(qO.1 z).1;rw[I]at this;exact this);rw[<-Go.Deep.add_add,C j K];exact z
   obtain⟨b,off,Q⟩:=a
   have O:Q=none:=by
    obtain⟨x,_,f⟩:=each 0 (by omega);simpa[Addr.add] using World.cell?_spot (f 0 _ rfl)
   subst O;obtain⟨l,t,v⟩:=Gm len each;have F:b<W.1.size:=y (.cell b off) (qW _ (MemPlace.mem_row.2 ⟨0,by omega,by simp⟩))
   have A:∀i j:Nat,(⟨b,off,none⟩:Addr).add (i*3+j)=⟨b,off+i*3+j,none⟩:=fun i j=>by
    have:(⟨b,off,none⟩:Addr).add (i*3+j)=⟨b,off+(i*3+j),none⟩:=(by unfold Addr.add;split<;>simp_all);rw[this,Nat.add_assoc]
   refine⟨l,⟨qY ⟨by omega,b,off,o,by rw[t],by omega,F,fun i x f=>?_⟩,by omega,_,_,by rw[t]⟩,fun x f=>?_⟩
   ·have h:=(v i x f).2;have q:=h 0 _ rfl;have r:=h 1 _ rfl;have s:=h 2 _ rfl;rw[A]at q r s;exact⟨q,r,s⟩
   ·obtain⟨i,g⟩:=qd f;exact(v i x g).1
theorem rF.below{w w':World}{v:Value}{l:List jj}{B:Nat}(h:rF w v l)(b:Below B w w')(a:w.1.size<=B):rF w' v l:=⟨h.1.below b a,h.2⟩
structure yg where
 k:Nat
 s:Tw
 a:Int
 b:Int
 v:Value
 l:List jj
def JO(x:yg):List Value:=[.int .u8 (x.k:Nat),.string x.s,.int .i64 x.a,.int .i64 x.b,x.v]
abbrev dd(x:yg):Value:=.agg #[.int .u8 (x.k:Nat),x.s,x.a,x.b,x.v]
structure bd(W:World)(x:yg):Prop where
 k:x.k<256
 s:x.s.size<=maxLen
 a0:-9223372036854775808<=x.a
 a1:x.a<=9223372036854775807
 b0:-9223372036854775808<=x.b
 b1:x.b<=9223372036854775807
 v:rF W x.v x.l
 l:∀y∈x.l,rE y
theorem bd.below{w w':World}{x:yg}{B:Nat}(h:bd w x)(b:Below B w w')(a:w.1.size<=B):bd w' x:=⟨h.k,h.s,h.a0,h.a1,h.b0,h.b1,h.v.below b a,h.l⟩
theorem Tr: ∃a,prog.underlying 42=some (.struct a)/\oneCellFields prog a=true/\a.size=5 /\
  (a[0]?.map Field.type=some 5/\a[1]?.map Field.type=some 9/\a[2]?.map Field.type=some 3/\a[3]?.map Field.type=some 3/\a[4]?.map Field.type=some 40) :=
 ⟨_,Tryz.underlying42,by kernel_rfl,by kernel_rfl,by kernel_rfl,by kernel_rfl,by kernel_rfl,by kernel_rfl,by kernel_rfl⟩
theorem Gn: prog.cellsOf 42=5:=by kernel_rfl
theorem Ts{H:Type}{enc:TypeId × Value->H}{W:World}{J:Nat}{cs:List Value}{d:DataW H}{p:List MemPlace}
  (P:DataW.trod enc prog W 0 (fun _=>true) true J 42 cs=some (d,p)) (S:∀x∈p,x.block<W.1.size):
  ∃x,cs=JO x/\bd W x:=by
 obtain⟨r,X,V,aa,t0,t1,t2,t3,t4⟩:=Tr;obtain⟨m,n,_,g,u,Z,Q⟩:=DataW.trod_struct X P;simp only[Prod.mk.injEq]at g;obtain⟨_,rfl⟩:=g;rw[Gn]at u
 match cs,u with
 | [c0,c1,c2,c3,c4],_ =>
   have step:∀(i:Nat) (t:TypeId),r[i]?.map Field.type=some t->∃B,m[i]? = some B/\DataW.trod enc prog W 0 (fun _=>true) true n t ((([c0,c1,c2,c3,c4]:List Value).drop i).take 1)=some B:=by
    intro i t c;cases a:r[i]? with
    | none=>rw[a]at c;cases c
    | some f =>
      rw[a]at c;obtain rfl:f.type=t:=(by simpa using c);obtain⟨T,j⟩:=hone_of V i f a;have b:=Q i f a;rw[T,j]at b;have s:i<m.length:=(by rw[Z];exact(ql.1 a).1);refine⟨m[i],qD s, ?_⟩;rw[b,qD s]
   obtain⟨y0,_,K⟩:=step 0 _ t0;obtain⟨y1,_,b⟩:=step 1 _ t1;obtain⟨y2,_,L⟩:=step 2 _ t2;obtain⟨y3,_,M⟩:=step 3 _ t3;obtain⟨⟨C,p4⟩,Y,N⟩:=step 4 _ t4;obtain⟨k,D,_,wk⟩:=DataW.trod_int Tryz.underlying5 K;obtain⟨A,F,_,w1⟩:=DataW.trod_string Tryz.underlying9 b;obtain⟨v,G,_,w2⟩:=DataW.trod_int Tryz.underlying3 L;obtain⟨y,I,_,w3⟩:=DataW.trod_int Tryz.underlying3 M;obtain⟨z,rfl,j⟩:=KZ wk;have o:=bounds_i64 w2;have q:=bounds_i64 w3;have O:DataW.trod enc prog W 0 (fun _=>true) true n 40 [c4]=some (C,p4):=N;obtain⟨l,R,U⟩:=Tp O (fun x g=>S x (xZ.2 ⟨_,qM Y,g⟩));refine⟨⟨z,A,v,y,c4,l⟩, ?_,j,w1,o.1,o.2,q.1,q.2,R,U⟩;have q0:c0=.int .u8 (z:Nat):=(by simpa using D);have q1:c1=.string A:=(by simpa using F);have q2:c2=.int .i64 v:=(by simpa using G);have q3:c3=.int .i64 y:=(by simpa using I);rw[q0,q1,q2,q3];rfl
def mV(w:World)(v:Value)(l:List yg):Prop :=
 (l=[]/\∃a c,v=.slice a 0 c)∨∃b off d,v=.slice (some ⟨b,off,none⟩) l.length d/\l.length<=d/\d<=maxLen/\b<w.1.size /\
  ∀i x,l[i]? = some x->∀j u,(JO x)[j]? = some u->w.cell? ⟨b,off+(i*5+j),none⟩=some u
theorem Gp{p:Nat->yg->Prop}:∀n,(∀i,i<n->∃x,p i x)->∃l:List yg,l.length=n/\∀i x,l[i]? = some x->p i x
 | 0,_=>⟨[],rfl,fun i x h=>by simp at h⟩
 | n+1,h=>by
   obtain⟨l,b,d⟩:=Gp n (fun i g=>h i (by omega));obtain⟨x,f⟩:=h n (by omega);refine⟨l++[x],by rw[qN,b];rfl,fun i y a=>?_⟩;rcases qh i n with c|c
   ·rw[List.getElem?_append_left (by omega)]at a;exact d i y a
   ·rw[List.getElem?_append_right (by omega),b]at a
    have:i=n:=by
     have:=(qO.1 a).1;simp at this;omega
    subst this;rw[Nat.sub_self]at a;obtain rfl:x=y:=(by simpa using a);exact f
theorem qVa{H:Type}{enc:TypeId × Value->H}{W:World}{v:Value}{d:DataW H}{p:List MemPlace}(O:∃a len o,v=.slice a len o)
  (B:DataW.Trod enc prog W 0 (fun _=>true) true 22 v d p) (q:∀x∈p,x.block<W.1.size):∃l,mV W v l/\∀x∈l,bd W x:=by
 obtain⟨R,len,o,rfl⟩:=O;obtain⟨U,C⟩:=B;rcases open_slice Tryz.underlying22 C with⟨f,c⟩|⟨a,Y,S,m,n,D,Q,f,_,X,J,K,c,g⟩
 ·simp[Value.cells]at f;obtain⟨rfl,rfl,rfl⟩:=f;exact⟨[],qX ⟨rfl,_,_,rfl⟩,fun x c=>by cases c⟩
 ·simp[Value.cells]at f;obtain⟨rfl,rfl,rfl⟩:=f;simp only[Prod.mk.injEq]at c;obtain⟨rfl,rfl⟩:=c;simp only[if_true]at K;rw[Gn]at g q;by_cases G:len=0
  ·subst G;exact⟨[],qX ⟨rfl,_,_,rfl⟩,fun x c=>by cases c⟩
  ·have each:∀i,i<len->∃x,bd W x/\∀j u,(JO x)[j]? = some u->W.cell? (a.add (i*5+j))=some u:=by
    intro i V;obtain⟨T,z,N⟩:=g i (by omega);obtain⟨_,A,t⟩:=World.cells?_some z;obtain⟨x,rfl,L⟩:=Ts N (fun x c=>q x (qJ _ (xZ.2 ⟨i,List.mem_range.2 (by omega),c⟩)));refine⟨x,L,fun j u k=>?_⟩;have F:j<5:=(by have:=(qO.1 k).1;rw[A]at this;exact this);rw[<-Go.Deep.add_add,t j F];exact k
   obtain⟨b,off,P⟩:=a
   have M:P=none:=by
    obtain⟨x,_,c⟩:=each 0 (by omega);simpa[Addr.add] using World.cell?_spot (c 0 _ rfl)
   subst M;obtain⟨l,I,r⟩:=Gp len each;have y:b<W.1.size:=q (.cell b off) (qW _ (MemPlace.mem_row.2 ⟨0,by omega,by simp⟩));refine⟨l,qY ⟨b,off,o,by rw[I],by omega,J,y,fun i x c j u k=>?_⟩,fun x c=>?_⟩
   ·have h:=(r i x c).2 j u k;have s:(⟨b,off,none⟩:Addr).add (i*5+j)=⟨b,off+(i*5+j),none⟩:=(by unfold Addr.add;split<;>simp_all);rw[s]at h;exact h
   ·obtain⟨i,g⟩:=qd c;exact(r i x g).1
theorem mV.below{w w':World}{v:Value}{l:List yg}{B:Nat}(h:mV w v l)(a:Below B w w')(f:w.1.size<=B):mV w' v l:=by
 rcases h with h|⟨b,off,d,o,k,m,c,g⟩
 ·exact qX h
 ·exact qY ⟨b,off,d,o,k,m,qS c a.size,fun i x q j u n=>(a.cell (p:=⟨b,off+(i*5+j),none⟩) (qS c f)).trans (g i x q j u n)⟩
theorem mV.form{w:World}{v:Value}{l:List yg}(h:mV w v l):∃A off g,v=.slice A l.length g/\l.length<=maxLen /\
  ∀i x,l[i]? = some x->∃b,A=some ⟨b,off,none⟩/\b<w.1.size/\w.cell? ⟨b,off+i*5,none⟩=some (.int .u8 (x.k:Nat))/\w.cell? ⟨b,off+i*5+1,none⟩=some (.string x.s)/\w.cell? ⟨b,off+i*5+2,none⟩=some (.int .i64 x.a) /\
   w.cell? ⟨b,off+i*5+3,none⟩=some (.int .i64 x.b)/\w.cell? ⟨b,off+i*5+4,none⟩=some x.v:=by
 rcases h with⟨rfl,a,c,rfl⟩|⟨b,off,g,rfl,m,n,j,d⟩
 ·exact⟨a,0,c,rfl,qI _,fun i x h=>by simp at h⟩
 ·exact⟨some ⟨b,off,none⟩,off,g,rfl,by omega,fun i x f=>⟨b,rfl,j,d i x f 0 _ rfl,d i x f 1 _ rfl,d i x f 2 _ rfl,d i x f 3 _ rfl,d i x f 4 _ rfl⟩⟩
theorem qVe{H:Type}{enc:TypeId × Value->H}{W a:World}{v:Value}{d:DataW H}{p:List MemPlace}
  (f:DataW.Trod enc prog W 0 (fun _=>true) true 22 v d p) (g:∀x∈p,x.block<W.1.size) (c:Below W.1.size W a):
  DataW.Trod enc prog a 0 (fun b=>decide (b<W.1.size)) true 22 v d p :=
 Below.trod Qn (by kernel_rfl) (of_decide_eq_true (by kernel_rfl)) f c g
structure rH where
 d:Nat
 r:Nat
 m:Nat
abbrev JP(x:rH):Value:=.agg #[.int .u64 (x.d:Nat),.float .f64 x.r,.int .u16 (x.m:Nat)]
def qVi: Value:=.agg #[.int .u64 0,.float .f64 0,.int .u16 0]
structure JR(x:rH):Prop where
 d:x.d<18446744073709551616
 r:x.r<18446744073709551616
 m:x.m<65536
theorem Gs: ∃a,prog.underlying 27=some (.struct a)/\oneCellFields prog a=true/\a.size=3 /\
  (a[0]?.map Field.type=some 23/\a[1]?.map Field.type=some 24/\a[2]?.map Field.type=some 25) :=
 ⟨_,Tryz.underlying27,by kernel_rfl,by kernel_rfl,by kernel_rfl,by kernel_rfl,by kernel_rfl⟩
theorem Tt: prog.cellsOf 27=3:=by kernel_rfl
theorem qVo{W:World}{r:Reach}{base:Nat}{v:Value}(h:Value.okWide prog W r base 27 v):∃cs,v=.agg cs:=by
 obtain⟨b,a,_⟩:=Gs;obtain⟨cs,e,_⟩:=okWide_struct a h;exact⟨cs,e⟩
theorem qVw{H:Type}{enc:TypeId × Value->H}{W:World}{v:Value}{d:DataW H}{p:List MemPlace}(O:∃cs,v=.agg cs)
  (J:DataW.Trod enc prog W 0 (fun _=>true) true 27 v d p) (aa:∀x∈p,x.block<W.1.size):∃x,v=JP x/\JR x:=by
 obtain⟨cs,rfl⟩:=O;obtain⟨C,g⟩:=J;have g:DataW.trod enc prog W 0 (fun _=>true) true C 27 cs.toList=some (d,p):=g;obtain⟨m,N,M,ab,T,U,V⟩:=Gs;obtain⟨xs,n,_,hx,j,P,o⟩:=DataW.trod_struct N g;rw[Tt]at j;obtain⟨l,r⟩:∃l,l=cs.toList:=⟨_,rfl⟩
 rw[<-r]at j o
 match l,j with
 | [c0,c1,c2],_ =>
   have step:∀(i:Nat) (t:TypeId),m[i]?.map Field.type=some t->∃y,xs[i]? = some y/\DataW.trod enc prog W 0 (fun _=>true) true n t ((([c0,c1,c2]:List Value).drop i).take 1)=some y:=by
    intro i t c;cases a:m[i]? with
    | none=>rw[a]at c;cases c
    | some f =>
      rw[a]at c;obtain rfl:f.type=t:=(by simpa using c);obtain⟨L,K⟩:=hone_of M i f a;have b:=o i f a;rw[L,K]at b;have q:i<xs.length:=(by rw[P];exact(ql.1 a).1);refine⟨xs[i],qD q, ?_⟩;rw[b,qD q]
   obtain⟨y0,_,G⟩:=step 0 _ T;obtain⟨y1,_,b⟩:=step 1 _ U;obtain⟨y2,_,I⟩:=step 2 _ V;obtain⟨k0,z,_,X⟩:=DataW.trod_int Tryz.underlying23 G;obtain⟨k,A,_,Y⟩:=KM Tryz.underlying24 b;obtain⟨k2,B,_,Z⟩:=DataW.trod_int Tryz.underlying25 I;obtain⟨s,rfl,D⟩:=Dc X;obtain⟨u,rfl,F⟩:=Dd Z;refine⟨⟨s,k,u⟩, ?_,D,of_decide_eq_true (show decide (k<2 ^ 64)=true from Y),F⟩;have Q:c0=.int .u64 (s:Nat):=(by simpa using z);have R:c1=.float .f64 k:=(by simpa using A);have S:c2=.int .u16 (u:Nat):=(by simpa using B);rw[<-Array.toArray_toList (xs:=cs),<-r,Q,R,S]
theorem qYQ{H:Type}{enc:TypeId × Value->H}{W a:World}{v:Value}{d:DataW H}{p:List MemPlace}
  (f:DataW.Trod enc prog W 0 (fun _=>true) true 27 v d p) (g:∀x∈p,x.block<W.1.size) (c:Below W.1.size W a):
  DataW.Trod enc prog a 0 (fun b=>decide (b<W.1.size)) true 27 v d p :=
 Below.trod Qn (by kernel_rfl) (of_decide_eq_true (by kernel_rfl)) f c g
def QH(a b c:Nat):Value:=.agg #[.int .u8 (a:Nat),.int .u8 (b:Nat),.int .u8 (c:Nat)]
def qYX: Value:=.agg #[.int .u8 0,.int .u8 0,.int .u8 0]
theorem Ta: prog.cellsOf 28=3:=by kernel_rfl
theorem Te: prog.cellsOf 5=1:=by kernel_rfl
theorem qYZ{W:World}{r:Reach}{b:Nat}{v:Value}(a:Value.okWide prog W r b 28 v):∃cs,v=.agg cs:=by
 simp only[Value.okWide,Tryz.underlying28]at a;obtain⟨cs,c,_⟩:=a;exact⟨cs,c⟩
theorem qYJ{H:Type}{enc:TypeId × Value->H}{W:World}{v:Value}{d:DataW H}{p:List MemPlace}(G:∃cs,v=.agg cs)
  (A:DataW.Trod enc prog W 0 (fun _=>true) true 28 v d p):∃a b c:Nat,(a<256/\b<256/\c<256)/\v=QH a b c:=by
 obtain⟨cs,rfl⟩:=G;obtain⟨u,B⟩:=A;have C:DataW.trod enc prog W 0 (fun _=>true) true u 28 cs.toList=some (d,p):=B;obtain⟨xs,m,_,_,o,J,r⟩:=DataW.trod_array Tryz.underlying28 C;rw[Ta]at o;rw[Te]at r
 have j:∀i c,cs.toList[i]? = some c->∃k:Nat,c=Value.int .u8 (k:Nat)/\k<256:=fun i c f=>by
  have D:i<3:=by have:=(qO.1 f).1;omega
  have q:=r i D
  have s:(cs.toList.drop (i*1)).take 1=[c]:=by
   obtain⟨g,e⟩:=qO.1 f;rw[Nat.mul_one,xJ g,e];rfl
  rw[s,qD (by omega)]at q;obtain⟨k,t,_,I⟩:=DataW.trod_int Tryz.underlying5 q;obtain⟨n,rfl,F⟩:=KZ I;exact⟨n,by simpa using t,F⟩
 obtain⟨l,g⟩:∃l,l=cs.toList:=⟨_,rfl⟩
 rw[<-g]at o j
 match l,o with
 | [c0,c1,c2],_ =>
   obtain⟨a,rfl,y⟩:=j 0 _ rfl;obtain⟨b,rfl,z⟩:=j 1 _ rfl;obtain⟨c,rfl,f⟩:=j 2 _ rfl;refine⟨a,b,c,⟨y,z,f⟩, ?_⟩;unfold QH;rw[<-Array.toArray_toList (xs:=cs),<-g]
theorem qYK{H:Type}{enc:TypeId × Value->H}{W a:World}{v:Value}{d:DataW H}{p:List MemPlace}
  (f:DataW.Trod enc prog W 0 (fun _=>true) true 28 v d p) (g:∀x∈p,x.block<W.1.size) (c:Below W.1.size W a):
  DataW.Trod enc prog a 0 (fun b=>decide (b<W.1.size)) true 28 v d p :=
 Below.trod Qn (by kernel_rfl) (of_decide_eq_true (by kernel_rfl)) f c g
end
end Go.Proofs.YthejglbnkmimjaaGreat
