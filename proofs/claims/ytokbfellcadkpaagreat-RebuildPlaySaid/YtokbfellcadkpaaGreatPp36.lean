import Derived.Test.YtokbfellcadkpaaGreatPp32
import Derived.Test.YtokbfellcadkpaaGreatPp35
import Derived.Test.YtokbfellcadkpaaGreatPp30
set_option linter.unusedVariables false
set_option maxRecDepth 100000
set_option maxHeartbeats 9000000
namespace Go.Proofs.YtokbfellcadkpaaGreat
open Tryz
section
open Go.RowKit
theorem qK0{c:UInt8}{n:Int}(h:nmS c n≠ByteArray.empty):¬(nmS c n).toList=[]/\((nmS c n).toList==[])=false:=by
 have a:¬(nmS c n).toList=[]:=fun e=>h (by
  rw[Lib.toList_data]at e;exact ByteArray.ext (Array.toList_inj.1 e))
 exact⟨a,by rw[qv];exact a⟩
section
variable {At:jL}(api:jM At)(nap:jm){w0 w:World}{gd:Nat}{D:jK}{E:List Nat}
theorem ri{D:jK}(ok:WfP D)(n:Int)(l:List jJ)(t:Tw):WfP (je D n l t).2:=by
 unfold je;have a:=nR ok (ptB n) t;have b:=nR a (ptT n) (tbB l);split
 ·exact ok
 ·split
  ·exact ok
  ·split
   ·exact ok
   ·split
    ·exact a
    ·split
     ·exact dW b _
     ·exact b
theorem Ct{D:jK}(ok:WfP D)(n:Int):WfP (yf D n).2:=by
 unfold yf;have a:=dW ok (ptT n);have b:=dW a (ptB n);split
 ·exact a
 ·split
  ·exact b
  ·exact b
include api nap
theorem qK1(h:DS At w0 gd D E w)(ok:WfP D)(n:Int)(wn:(Lit.int .i64 n).wf=true)(v:Value)(l:List jJ)(Q:ju w v l)(hl:l.length<=1000)(ae:∀x∈l,kI x)(r:Nat)(hr:r<18446744073709551616)(hn:ptT n≠ByteArray.empty)(J:uY l=true)(hd:D.down=false):
  Calls prog 94 #[ptr gd,.int .i64 n,v,.float .f64 r] w fun e w'=>∃t,gP l r t/\yX At w0 gd (err (je D n l t).1) (je D n l t).2 E w e w':=by
 have P:=qJu v l w Q (by omega) ae;unfold od at P;rw[(ZD J).1,(ZD J).2]at P;have ab:=qQ P;have O:=qQ fun W=>nap.table n W wn
 have G:=qQ fun W=>nap.xr n W wn
 have HU:=qQ fun W (I:Below w.heap.size w W)=>tR api (h.below api I) ok
 rw[qZ (by rw[hd];decide)]at HU;obtain⟨n1,n2⟩:=qK0 (c:=116) (n:=n) hn;have Z:=qQ fun W (I:Below w.heap.size w W)=>qJs v l r W (Q.below I (qK _)) hl ae hr
 have aa:=qQ fun W (I:Below w.heap.size w W)=>(h.below api I).qi api (fun F hF=>api.free hF ok.ok)
 have ax:=ok;have ar:=ok.cap;have aw:=ok.used;have au:=pw l;have ap:=qQ h.lt;have HH:=qQ h;obtain⟨A,off,az,rfl,-,-⟩:=Q.form
 have HW:Hid (∀t,(je D n l t)=if (D.cap:Int)-(jA D.l:Nat)-(t.size:Nat)-((tbB l).size:Nat)<6000 then(60,D)
   else if (jk D (ptB n) t).1≠0 then jk D (ptB n) t
   else if (jk (jk D (ptB n) t).2 (ptT n) (tbB l)).1≠0 then((jk (jk D (ptB n) t).2 (ptT n) (tbB l)).1,(j6 (jk (jk D (ptB n) t).2 (ptT n) (tbB l)).2 (ptB n)).2)
   else jk (jk D (ptB n) t).2 (ptT n) (tbB l)):=qQ fun t=>by
  unfold je;rw[qZ (by rw[not_or];exact⟨hn,by simp[J]⟩),qZ (by rw[hd];decide)]
 have ak:=qQ fun(t:Tw) (J:t.size<=100000) W (f:List Nat) (j:DS At w0 gd D f W)=>UP api j ok (ptB n) t (tI n) (by omega)
 have al:=qQ fun(t:Tw) W (f:List Nat) (j:DS At w0 gd (jk D (ptB n) t).2 f W)=>UP api j (nR ok _ _) (ptT n) (tbB l) (oC n) (by omega)
 have ah:=qQ fun(t:Tw) W (f:List Nat) (j:DS At w0 gd (jk (jk D (ptB n) t).2 (ptT n) (tbB l)).2 f W)=>j.qi api (fun F hF=>api.delete (ptB n) hF (nR (nR ok _ _) _ _).ok (tI n))
 have ai:=qQ fun(t:Tw) (hf:gP l r t)=>rG (show l.length<=10000 by omega) hf
 rw[show nmS 116 n=ptT n from rfl]at O n1 n2;rw[show nmS 98 n=ptB n from rfl]at G;generalize ptT n=R at*;generalize ptB n=nb at*;generalize hS:tbB l=S at*;clear h ok Q ae hr J hd P wn hn ax hS;have aA:S.size<=24012:=by omega
 clear au;have HM:Hid (l.length<=1000):=qQ hl;obtain⟨m,hm⟩:∃m,l.length=m:=⟨_,rfl⟩
 have ay:=qQ hm;rw[hm]at ab Z ⊢;clear hm hl;go_enter func94,ntmps94;go_wp2_with fail;refine ab.out.mono ?_;rintro e w1⟨rfl,b1⟩;go_wp2_with fail;refine(O.out _).mono ?_;rintro e w2⟨rfl,b2⟩;have L:=qQ (bj b1 b2);clear b1 b2 ab;go_wp2_with fail;refine(HU.out _ L.out).mono ?_;rintro e w3⟨rfl,rfl⟩;go_wp2_with fail;refine(Z.out _ L.out).mono ?_;rintro e w4⟨t,rfl,ad,b4⟩;have T:=qQ (bj L.out b4);have av:=ai.out t ad;have aB:t.size<=5000:=by have:=HM.out;omega
 have d:=qQ (HW.out t);have M:=qQ ad;clear b4 L HU Z ai ad av HW;obtain⟨y,hy⟩:∃y:Int,(D.cap:Int)-(jA D.l:Nat)=y:=⟨_,rfl⟩
 have y1:y<=1048576:=by omega
 have y2:0<=y:=by omega
 have q1:IntKind.i64.wrap (y-(t.size:Int))=y-(t.size:Int):=IntWalk.i64_in _ ⟨by omega,by omega⟩;have q2:IntKind.i64.wrap (y-(t.size:Int)-(S.size:Int))=y-(t.size:Int)-(S.size:Int):=IntWalk.i64_in _ ⟨by omega,by omega⟩;rw[hy]at aa d;have ag:=qQ (aa.out _ T.out);have aj:=qQ (jV.qn T.out ap.out);clear aa T hy ar aw;go_wp2_with fail;refine ag.out.mono ?_;rintro e w5⟨rfl,d5,k5⟩;have a:=qQ (qU d5 (aj.out.trans k5));clear d5 k5 ag aj;by_cases an:y-(t.size:Int)-(S.size:Int)<6000
 ·rw[qV an]at d;go_wp2;go_ret;exact⟨t,M.out,by rw[d.out];exact⟨rfl,a.out.1,a.out.2⟩⟩
 ·rw[qZ an]at d;have s:=qQ fun W (f:List Nat) j=>ak.out t (by omega) W f j
  have z:=qQ fun W (f:List Nat) j=>al.out t W f j
  have Y:=qQ fun W (f:List Nat) j=>ah.out t W f j
  clear ak al ah;by_cases B:(jk D nb t).1=0
  ·rw[qZ (by rw[B];decide)]at d;rw[B]at s;by_cases C:(jk (jk D nb t).2 R S).1=0
   ·rw[qZ (by rw[C];decide)]at d;rw[C]at z;generalize hX:jk (jk D nb t).2 R S=X at*;generalize (jk D nb t).2=D1 at*;have HX:=qQ C;clear B C hX;go_wp2_with fail;refine(G.out _).mono ?_;rintro e w6⟨rfl,i⟩;have g:=qQ (qU (a.out.1.below api i) (a.out.2.trans (jV.qn i a.out.1.lt)));clear i a;go_wp2_with fail;refine(s.out _ _ g.out.1).mono ?_;rintro e w7⟨rfl,k,o⟩;have b:=qQ (qU k (g.out.2.trans o));clear k o g s;go_wp2_with fail;refine(O.out _).mono ?_;rintro e w8⟨rfl,u⟩;have p:=qQ (qU (b.out.1.below api u) (b.out.2.trans (jV.qn u b.out.1.lt)));clear u b;go_wp2_with fail;refine(z.out _ _ p.out.1).mono ?_;rintro e w9⟨rfl,H,K⟩;have q:=qQ (qU H (p.out.2.trans K));clear H K p z;go_wp2;go_ret;exact⟨t,M.out,by rw[d.out,HX.out];exact⟨rfl,q.out.1,q.out.2⟩⟩
   ·rw[qV C]at d;have te:(((jk (jk D nb t).2 R S).1:Int) != 0)=true:=(by simp;omega);generalize hX:jk (jk D nb t).2 R S=X at*;generalize (jk D nb t).2=D1 at*;generalize X.1=x1 at*;generalize X.2=U at*;generalize (j6 U nb).2=D3 at*;generalize (j6 U nb).1=x3 at*;clear B C hX;go_wp2_with fail;refine(G.out _).mono ?_;rintro e w6⟨rfl,i⟩;have g:=qQ (qU (a.out.1.below api i) (a.out.2.trans (jV.qn i a.out.1.lt)));clear i a;go_wp2_with fail;refine(s.out _ _ g.out.1).mono ?_;rintro e w7⟨rfl,k,o⟩;have b:=qQ (qU k (g.out.2.trans o));clear k o g s;go_wp2_with fail;refine(O.out _).mono ?_;rintro e w8⟨rfl,u⟩;have p:=qQ (qU (b.out.1.below api u) (b.out.2.trans (jV.qn u b.out.1.lt)));clear u b;go_wp2_with fail;refine(z.out _ _ p.out.1).mono ?_;rintro e w9⟨rfl,H,K⟩;have q:=qQ (qU H (p.out.2.trans K));clear H K p z;go_wp2_with fail;refine(G.out _).mono ?_;rintro e aC⟨rfl,ac⟩;have V:=qQ (qU (q.out.1.below api ac) (q.out.2.trans (jV.qn ac q.out.1.lt)));clear ac q;go_wp2_with fail;refine(Y.out _ _ V.out.1).mono ?_;rintro e aD⟨rfl,am,ao⟩;have af:=qQ (qU am (V.out.2.trans ao));clear am ao V Y;go_wp2;go_ret;exact⟨t,M.out,by rw[d.out];exact⟨rfl,af.out.1,af.out.2⟩⟩
  ·rw[qV B]at d;have te:(((jk D nb t).1:Int) != 0)=true:=(by simp;omega);clear z Y;generalize jk D nb t=X at*;have aq:Hid (je D n l t=(X.1,X.2)):=qQ d.out;clear d;generalize X.1=x1 at*;generalize X.2=U at*;clear B;go_wp2_with fail;refine(G.out _).mono ?_;rintro e w6⟨rfl,i⟩;have g:=qQ (qU (a.out.1.below api i) (a.out.2.trans (jV.qn i a.out.1.lt)));clear i a;go_wp2_with fail;refine(s.out _ _ g.out.1).mono ?_;rintro e w7⟨rfl,k,o⟩;have b:=qQ (qU k (g.out.2.trans o));clear k o g s;go_wp2;go_ret;exact⟨t,M.out,by rw[aq.out];exact⟨rfl,b.out.1,b.out.2⟩⟩
end
theorem Ca{r:Nat}(h:cD r=false):((r:Int) != 0)=true/\((r:Int) != 4)=true:=by
 unfold cD at h;rw[Bool.or_eq_false_iff,decide_eq_false_iff_not,decide_eq_false_iff_not]at h;exact⟨by simp;omega,by simp;omega⟩
theorem Ce{r:Nat}(h:cD r=true):(((r:Int) != 0)=false/\r=0)∨(((r:Int) != 0)=true/\((r:Int) != 4)=false/\r=4):=by
 unfold cD at h;rw[Bool.or_eq_true,decide_eq_true_iff,decide_eq_true_iff]at h;rcases h with h|h
 ·exact qX ⟨by rw[h];rfl,h⟩
 ·exact qY ⟨by rw[h];rfl,by rw[h];rfl,h⟩
section
variable {At:jL}(api:jM At)(nap:jm){w0 w:World}{gd:Nat}{D:jK}{E:List Nat}
include api nap
theorem Ci(h:DS At w0 gd D E w)(ok:WfP D)(n:Int)(H:(Lit.int .i64 n).wf=true):Calls prog 47 #[ptr gd,.int .i64 n] w (yX At w0 gd (err (yf D n).1) (yf D n).2 E w):=by
 have K:=qQ fun W=>nap.table n W H
 have L:=qQ fun W=>nap.xr n W H
 have A:=qQ fun W (u:List Nat) (G:DS At w0 gd D u W)=>G.qi api (fun F hF=>api.delete (ptT n) hF ok.ok (oC n))
 have C:=qQ fun W (u:List Nat) (G:DS At w0 gd (j6 D (ptT n)).2 u W)=>G.qi api (fun F hF=>api.delete (ptB n) hF (dW ok _).ok (tI n))
 have J:=qQ h;rw[show nmS 116 n=ptT n from rfl]at K;rw[show nmS 98 n=ptB n from rfl]at L;unfold yf;generalize ptT n=j at*;generalize ptB n=nb at*;generalize hX:j6 D j=X at*;generalize hY:j6 X.2 nb=Y at*;obtain⟨s,I⟩:=X;obtain⟨t,k⟩:=Y;simp only at A C hX hY ⊢;generalize Z:(if cD s=false then(s,I) else if cD t=false then(t,k) else(0,k))=R at*;have y:=qQ Z;clear h ok H hX hY Z;go_enter func47,ntmps47;go_wp2_with fail;refine(K.out _).mono ?_;rintro e w1⟨rfl,O⟩;go_wp2_with fail;refine(L.out _).mono ?_;rintro e f⟨rfl,P⟩;have o:=bj O P;have V:=(Below.refl f.heap.size f).alloc (qK _) (.cells #[.string j,.string nb] 9);have B:=o.alloc o.size (.cells #[.string j,.string nb] 9);have T:=jY.new f 9 #[.string j,.string nb];have p:=(J.out.below api o).more api V (B:=[f.heap.size]) (fun b a=>by rw[qH.1 a];exact⟨qK _,T.lt⟩);obtain⟨w3,aa⟩:∃w3,f.alloc (.cells #[.string j,.string nb] 9)=w3:=⟨_,rfl⟩
 obtain⟨g,hg⟩:∃g,f.heap.size=g:=⟨_,rfl⟩
 rw[aa]at B T p;rw[hg]at T p;have c0:=T.cell 0;have v:=qQ (qU p (qU T (jV.qn B J.out.lt)));clear O P B T o V p;go_wp2_with fail;refine wp_loop_rounds 3 ?_;rw[rounds_succ];go_wp2_with fail;refine(A.out _ _ v.out.1).mono ?_;rintro e w4⟨rfl,Q,q⟩;have z:=q.qa v.out.2.1 (qG _ qD);have c1:=z.cell 1;have l:=qQ (qU Q (qU z (qU q (v.out.2.2.trans (q.less (fun b a=>qJ _ a))))));clear c0 Q q z A;cases c:cD s
 ·obtain⟨t1,t2⟩:=Ca c;have i:=qQ (show R=(s,I) by rw[<-y.out,c,qV rfl]);clear c;go_wp2;go_ret;rw[i.out];exact⟨rfl,l.out.1.less (fun b a=>qJ _ a),l.out.2.2.2⟩
 ·have M:=qQ c;have ab:=Ce c;clear c;rcases ab with⟨t1,rfl⟩|⟨t1,t2,rfl⟩
  all_goals
   go_wp2_with fail;rw[rounds_succ];go_wp2_with fail;refine(C.out _ _ l.out.1).mono ?_;rintro e w5⟨rfl,U,k5⟩;have m:=qQ (qU (U.less (fun b a=>qJ _ a)) (l.out.2.2.2.trans (k5.less (fun b a=>qJ _ a))));clear U k5 C c1;cases d:cD t
   ·obtain⟨u1,u2⟩:=Ca d;have i:=qQ (show R=(t,k) by rw[<-y.out,M.out,qZ (by decide),d,qV rfl]);clear d;go_wp2;go_ret;rw[i.out];exact⟨rfl,m.out.1,m.out.2⟩
   ·have i:=qQ (show R=(0,k) by rw[<-y.out,M.out,qZ (by decide),d,qZ (by decide)]);have u12:=Ce d;clear d;rcases u12 with⟨u1,rfl⟩|⟨u1,u2,rfl⟩
    all_goals
     go_wp2_with fail;rw[rounds_succ];go_wp2;go_ret;rw[i.out];exact⟨rfl,m.out.1,m.out.2⟩
end
end
section
open Go.RowKit Go.Shelf
section
variable {At:jL}{w0 w w' W:World}{gd gx r:Nat}{S:IxS}{D D':jK}{E N Fm Gr Gk:List Nat}
theorem jz.back(m:IxM w w0.heap.size gx gd r S Fm Gr Gk)(i:DS At w0 gd D (Fm++(Gr++(Gk++E))) w)(c:∀b∈Fm,b ∉ Gr/\b ∉ Gk/\b ∉ E)(g:∀b∈Gr,b ∉ Gk/\b ∉ E)(j:∀b∈Gk,b ∉ E)(l:∀b∈Fm++Gr,w0.heap.size<=b)
  (o:DS At w0 gd D' (N++(Fm++(Gr++(Gk++E)))) w') (p:jV (Fm++(Gr++(Gk++E))) w w') (n:∀b∈N,w.heap.size<=b):jz At w0 gd gx r S D' (N++E) w':=by
 have d:=i.lt
 have f:∀b,b<w.heap.size->b ∉ E->b ∉ N++E:=fun b a s q=>by
  rcases qB.1 q with k|k
  ·have:=n b k;omega
  ·exact s k
 refine⟨Fm,Gr,Gk,o.less (fun b a=>?_),m.keep (p.less fun b a=>?_),fun b a=>⟨(c b a).1,(c b a).2.1,f b (d b (qG _ a)) (c b a).2.2⟩,fun b a=>⟨(g b a).1,f b (d b (qJ _ (qG _ a))) (g b a).2⟩,fun b a=>f b (d b (qJ _ (qJ _ (qG _ a)))) (j b a),l⟩
 ·rcases qB.1 a with k|k
  ·exact qJ _ (qG _ k)
  ·rcases qB.1 k with k|k
   ·exact qJ _ (qJ _ (qG _ k))
   ·rcases qB.1 k with k|k
    ·exact qJ _ (qJ _ (qJ _ (qG _ k)))
    ·rcases qB.1 k with k|k
     ·exact qG _ k
     ·exact qJ _ (qJ _ (qJ _ (qJ _ k)))
 ·rcases qB.1 a with k|k
  ·exact qG _ k
  ·rcases qB.1 k with k|k
   ·exact qJ _ (qG _ k)
   ·exact qJ _ (qJ _ (qG _ k))
theorem jV.zn{G:List Nat}{w w':World}{base:Nat}{v:Value}{M:List kL}(h:jV G w w')(a:kQ w base v M)(k:∀b∈jF v,b∈G):kQ w' base v M:=by
 refine⟨a.1, ?_⟩;rcases a.2 with f|⟨g,c,d,e,i,j,r⟩
 ·exact qX f
 ·exact qY ⟨g,c,d,e,i,(h.block g (k g (kG.2 (by rw[e];rfl)))).trans j,r⟩
structure uS(At:jL)(w0:World)(gd:Nat)(w:World)(E N:List Nat)(D:jK)(Ls:List (List jJ))(v:Value)(wr:World):Prop where
 ds:DS At w0 gd D (N++E) wr
 kept:jV E w wr
 new:∀b∈N,w.heap.size<=b
 base:w0.heap.size<=w.heap.size
 xO:∀b∈E,b<w.heap.size
 rows:∃L,kQ wr w.heap.size v L/\els L=Ls/\(∀b∈jF v,b∈N)/\∀x∈L,jE wr w.heap.size x.v x.l/\∀b∈jF x.v,b∈N
theorem uS.shape{a:List (List jJ)}{v:Value}(h:uS At w0 gd w E N D a v W):∃A n c,n=a.length/\v = .slice A n c:=by
 obtain⟨L,b,d,-⟩:=h.rows;obtain⟨A,c,rfl,-⟩:=yw b;exact⟨A,_,c,by rw[<-d,mc],rfl⟩
theorem uS.lists{a:List (List jJ)}{v:Value}(h:uS At w0 gd w E N D a v W):∃L,tr W v L/\els L=a:=by
 obtain⟨L,b,c,g,d⟩:=h.rows;exact⟨L,kQ.xQ b (fun x f=>jE.xQ (d x f).1),c⟩
theorem uS.nil(api:jM At)(h:DS At w0 gd D E w):uS At w0 gd w E [] D [] (.slice none 0 0) w :=
 ⟨h,jV.refl _ _,fun b a=>(by cases a),h.kept.size,h.lt,[],kQ.nil _ _,rfl,fun b a=>(by cases a),fun x c=>(by cases c)⟩
theorem uS.one(api:jM At){A:Option Addr}{n c:Nat}{l:List jJ}(h:DS At w0 gd D E w)(a:Below w.heap.size w W)(g:jE W w.heap.size (.slice A n c) l):
  uS At w0 gd w E (W.heap.size::jF (.slice A n c)) D [l] (.slice (some ⟨W.heap.size,0,none⟩) 1 1) (W.alloc (.cells #[.slice A n c] 37)):=by
 have i:=(Below.refl W.heap.size W).alloc (qK _) (.cells #[.slice A n c] 37);have d:=a.alloc (B:=w.heap.size) a.size (.cells #[.slice A n c] 37);have j:W.heap.size<(W.alloc (.cells #[.slice A n c] 37)).heap.size:=by simp
 have f:=fi g;refine⟨h.more api d (fun b a=>?_),jV.qn d h.lt,fun b a=>?_,h.kept.size,h.lt,[⟨.slice A n c,l⟩],World.ownsRow_lit (base:=w.heap.size) (e:=37) (size:=1) W #[.slice A n c] 1 a.size (by unfold maxLen;omega) rfl,rfl,fun b a=>?_,fun x m=>?_⟩
 ·rcases qL.1 a with e|k
  ·rw[e];exact⟨by have:=Below.size ‹Below w.heap.size w W›;omega,j⟩
  ·have:=f b k;exact⟨this.1,by omega⟩
 ·rcases qL.1 a with e|k
  ·rw[e];exact Below.size ‹Below w.heap.size w W›
  ·exact(f b k).1
 ·have e:b=W.heap.size:=by simpa[jF,Value.ownBlock] using a
  rw[e];exact qD
 ·obtain rfl:=qH.1 m;exact⟨g.below i (qK _),fun b a=>qE _ a⟩
theorem uS.told{g:List (List jJ)}{v u:Value}{l:List jJ}(h:uS At w0 gd w E N D g v W)(o:DS At w0 gd D' (jF u++(N++E)) w')(d:jV (N++E) W w')(j:jE w' W.heap.size u l):
  uS At w0 gd w E (jF u++N) D' g v w'/\jE w' w.heap.size u l:=by
 obtain⟨L,m,n,i,c⟩:=h.rows;have q:=h.kept.size;have p:=fi j;refine⟨⟨o.less (fun b a=>?_),h.kept.trans (d.less (fun b a=>qJ _ a)),fun b a=>?_,h.base,h.xO,L,d.zn m (fun b a=>qG _ (i b a)),n,fun b a=>qJ _ (i b a),fun x f=>⟨d.row (c x f).1 (fun b a=>qG _ ((c x f).2 b a)),fun b a=>qJ _ ((c x f).2 b a)⟩⟩,j.down q⟩
 ·rw[qb]at a;exact a
 ·rcases qB.1 a with k|k
  ·have:=(p b k).1;omega
  ·exact h.new b k
theorem uS.add(api:jM At){s:List (List jJ)}{A d:Option Addr}{n c g f:Nat}{l:List jJ}(h:uS At w0 gd w E N D s (.slice A n c) W)(Z:jE W w.heap.size (.slice d g f) l)(z:∀b∈jF (.slice d g f),b∈N)(hn:s.length<=500000)(R:TypeId):
  ∃i j w' T,(Builtin.append_ #[163,163] R #[.slice A n c,.slice (some ⟨W.heap.size,0,none⟩) 1 1]).run prog (W.alloc (.cells #[.slice d g f] 37)) = .ok (.slice i (n+1) j) w'/\uS At w0 gd w E T D (s++[l]) (.slice i (n+1) j) w':=by
 obtain⟨L,I,J,m,K⟩:=h.rows;have v:=(Below.refl W.heap.size W).alloc (qK _) (.cells #[.slice d g f] 37)
 have p:L.length=n:=by
  obtain⟨A2,c2,e,-⟩:=yw I;exact(Value.slice.inj e).2.1.symm
 have C:=kQ.alloc I (.cells #[.slice d g f] 37);have hz:=h.kept.size;have aa:w.heap.size<=(W.alloc (.cells #[.slice d g f] 37)).heap.size:=by simp;omega
 obtain⟨i,j,w',G,o,t,H⟩:=GQ (M:=[⟨.slice d g f,l⟩]) C (S6 W ⟨.slice d g f,l⟩) (fun u z=>by
  obtain rfl:u = .slice d g f:=by simpa[dI] using z
  rfl) (by rw[p,<-p,<-mc,J];simp;omega) aa R
 rw[p]at G o H;have O:jG (jF (.slice A n c)) W w':=((jG.qn v).more (fun x B=>by cases B)).grown t (fun k V=>qX (kG.2 V))
 have Q:∀b∈jF (.slice i (n+1) j),b∈jF (.slice A n c)∨(W.heap.size<=b/\b<w'.heap.size):=fun b a=>by
  have y:=kG.1 a;rcases H with e|e
  ·exact qX (kG.2 (by rw[<-e];exact y))
  ·have X:=(o.lt b y).2;refine qY ⟨?_,X⟩;have F:(Value.slice i (n+1) j).ownBlock=some (W.alloc (.cells #[.slice d g f] 37)).heap.size:=e;rw[y]at F;obtain rfl:=qg F;simp
 have P:∀b∈E,b ∉ jF (.slice A n c)/\b<W.heap.size:=fun b a=>⟨fun Y=>(by have:=h.new b (m b Y);have:=h.xO b a;omega),h.ds.lt b (qJ _ a)⟩
 have U:jV E W w':=jV.xB O (fun b a=>⟨(P b a).2,(P b a).1⟩);refine⟨i,j,w',jF (.slice i (n+1) j)++N,G,⟨h.ds.xJ api O (fun b a=>?_) (fun b a=>?_),h.kept.trans U,fun b a=>?_,h.base,h.xO,L++[⟨.slice d g f,l⟩],by rw[<-p]at o ⊢;exact o,by rw[show els (L++[⟨.slice d g f,l⟩])=els L++[l] from by unfold els;rw[List.map_append];rfl,J],fun b a=>qG _ a,fun x B=>?_⟩⟩
 ·exact⟨qG _ (m b a),qO h.base (h.new b (m b a))⟩
 ·rcases qB.1 a with k|k
  ·rcases qB.1 k with k|k
   ·rcases Q b k with q|q
    ·exact qX (qG _ (m b q))
    ·exact qY q
   ·exact qX (qG _ k)
  ·exact qX (qJ _ k)
 ·rcases qB.1 a with k|k
  ·rcases Q b k with q|q
   ·exact h.new b (m b q)
   ·omega
  ·exact h.new b k
 ·rcases qB.1 B with k|k
  ·exact⟨jE.zG ((K x k).1.below v (qK _)) C t,fun b a=>qJ _ ((K x k).2 b a)⟩
  ·obtain rfl:=qH.1 k;exact⟨jE.zG (Z.below v (qK _)) C t,fun b a=>qJ _ (z b a)⟩
end
def Jh(At:jL)(w0:World)(gd gx r:Nat)(S:IxS)(D:jK)(R:List jJ)(m:Nat)(E:List Nat)(w:World)(e:Ending)(w':World):Prop :=
 ∃A c k,k<=m/\e = .returned (.tuple #[.slice A R.length c,.int .i64 0])/\jE w' w.heap.size (.slice A R.length c) R/\jz At w0 gd gx r S { D with count:=D.count+k } (jF (.slice A R.length c)++E) w'/\jV E w w'
def cQ(S:IxS):Nat:=S.mem.length+kv (S.T.map TbS.l)
theorem Co(q:jJ->Bool):∀(T:List TbS),kv (T.map fun t=>t.l.filter q)<=kv (T.map TbS.l)
 | []=>qK _
 | t::T=>by
   rw[List.map_cons,List.map_cons,gO,gO];have:=Co q T;have:=List.length_filter_le q t.l;omega
theorem Cw{T:List TbS}{t:TbS}(h:t∈T):t.l.length<=kv (T.map TbS.l):=by
 induction T with
 | nil=>cases h
 | cons x T a =>
   rw[List.map_cons,gO];rcases qL.1 h with rfl|h
   ·omega
   ·have:=a h;omega
section
variable {At:jL}(api:jM At)(nap:jm){w0 w w':World}{gd gx r:Nat}{S:IxS}{D:jK}{E:List Nat}
include api nap
theorem qK2(h:jz At w0 gd gx r S D E w)(ok:jl D S)(J:WfP D)(hc:D.count<=1000000000)(V:D.down=false)(Z:cQ S<=40000)(x:Nat)(hx:x<18446744073709551616)(a b:Int)(wa:(Lit.int .i64 a).wf=true)(wb:(Lit.int .i64 b).wf=true):
  Calls prog 72 #[ptr gx,.int .u64 (x:Nat),.int .i64 a,.int .i64 b] w (Jh At w0 gd gx r S D (oh S x a b) S.T.length E w):=by
 obtain⟨Fm,Gr,Gk,P,hM,d3,d4,F,d6⟩:=h;obtain⟨gm,A,cp,B,c2,z,f⟩:=hM.cells;obtain⟨c0,-,-,-,-,-,c6,-,c8⟩:=f.cs;have aD:=qQ (nY c0);have bb:=bounds_i64 wb;have aM:(if (1073741824:Int)<b then 1073741824 else b)=kt b:=by unfold kt;split<;>omega
 have aa:=R8 f.mem.has (by unfold cQ at Z;omega) x a (kt b);have ac:=qQ (fun(N:List Nat) (D':jK) (W:World) (V:DS At w0 gd D' (N++(Fm++(Gr++(Gk++E)))) W) (d:jV (Fm++(Gr++(Gk++E))) w W) (hN:∀b∈N,w.heap.size<=b)=>jz.back hM P d3 d4 F d6 V d hN);have Q:∀b∈Gk,b∈Fm++(Gr++(Gk++E)):=fun b c=>qJ _ (qJ _ (qG _ c))
 have U:∀b∈Gr,b∈Fm++(Gr++(Gk++E)):=fun b c=>qJ _ (qG _ c)
 have ab:∀b∈E,b∈Fm++(Gr++(Gk++E)):=fun b c=>qJ _ (qJ _ (qJ _ c))
 have aj:z.length=S.T.length:=f.xK.1;obtain⟨n,af⟩:∃n,Fm++(Gr++(Gk++E))=n:=⟨_,rfl⟩
 rw[af]at P ac Q U ab;have al:=qQ P
 have HT:=qQ (fun(i g:Nat) (t:TbS) (q:z[i]? = some g) (y:S.T[i]? = some t) (k:Nat) (d:k<=40) (W:World) (N:List Nat) (hW:DS At w0 gd { D with count:=D.count+k } (N++n) W) (aC:jV n w W)=>(show Calls prog 140 #[ptr g,.int .u64 (x:Nat),.int .i64 a,.int .i64 b] W fun e w'=>∃j,j<=1/\mj At w0 gd (kZ t.l x a (kt b)) 0 { D with count:=D.count+k+j } (N++n) W e w' from by
  obtain⟨H,I,s⟩:=f.xK.2 i g t q y;have Y:=qM y;have aK:=Cw Y;have hn:=(ok.xU Y).1;refine(Pm api nap hW (I.keep aC (fun b c=>Q b (s b c))) (fun b c=>qJ _ (Q b (s b c))) ⟨J.synced,J.used,J.cap,J.many⟩ (by show D.count+k<=_;omega) (WalkArith.wf_i64 (by omega)) V ((ok.has t Y).count _) (ok.keep t Y) (by unfold cQ at Z;omega) x hx a b wa wb).mono ?_;rintro e w'⟨j,hj,-,G⟩;exact⟨j,hj,G⟩))
 have HP:=qQ (fun(W:World) (d:jV n w W) (i g:Nat) (q:z[i]? = some g)=>(show ∃C,B=some ⟨C,0,none⟩/\W.cell? ⟨C,i,none⟩=some (ptr g) from by
  obtain⟨B',aH,e,-,-,az⟩:=vm.form (d.xM f.row (fun b c=>U b (f.xI b c)));obtain⟨rfl,-,-⟩:=Value.slice.inj e;obtain⟨C,e1,-,-,e2⟩:=az i g q;exact⟨C,e1,e2⟩))
 have ad:=qQ (fun(W:World) (d:jV n w W)=>(show W.cell? ⟨gx,6,none⟩=some (.slice B z.length c2) from(d.qa f.qa (U gx f.own)).cell 6));have aF:=qQ aj;have ay:=ok.xE;have HR:Hid (oh S x a b=dH ((kZ S.mem x a (kt b))::S.T.map fun t=>kZ t.l x a (kt b))):=qQ rfl
 have aw:=qQ (show kv ((kZ S.mem x a (kt b))::S.T.map fun t=>kZ t.l x a (kt b))<=40000 from by
  rw[gO];have:=Co (inQ x a (kt b)) S.T;have:=List.length_filter_le (inQ x a (kt b)) S.mem;unfold cQ at Z;unfold kZ;omega)
 have am:=qQ ab;obtain⟨m,hm⟩:∃m,m=z.length:=⟨_,rfl⟩
 have aL:m<=40:=by omega
 have HM:=qQ hm;have X:S.T.length=m:=by omega
 have aE:=qQ X;rw[<-hm]at c6 ad;rw[X];generalize hF0:kZ S.mem x a (kt b)=o at*;unfold yd at aa;have ar:=qQ aa
 have av:Hid (∀k t,S.T[k]? = some t->(o::(S.T.take k).map fun t=>kZ t.l x a (kt b))++[kZ t.l x a (kt b)]=o::(S.T.take (k+1)).map fun t=>kZ t.l x a (kt b)):=qQ fun k t d=>by
  rw[List.take_add_one,d,List.map_append];rfl
 have ak:Hid ((o::(S.T.take m).map fun t=>kZ t.l x a (kt b))=o::S.T.map fun t=>kZ t.l x a (kt b)):=qQ (by rw[<-X,List.take_length])
 have ae:Hid (∀k,k<=m->(o::(S.T.take k).map fun t=>kZ t.l x a (kt b)).length=k+1):=qQ fun k d=>by
  rw[qk,qj,qS];omega
 have ao:Hid (∀k,k<m->∃g t,z[k]? = some g/\S.T[k]? = some t):=qQ fun k d=>⟨_,_,qC (by omega),qC (by omega)⟩
 have aq:=qQ (show(o::S.T.map fun t=>kZ t.l x a (kt b)).length<=500000 from by rw[qk,qj];omega);clear hM f P d3 d4 F d6 ok J hc V Z wa wb Q U ab aj ay hm X af aa c0 hF0;generalize oh S x a b=R at*;go_enter func72,ntmps72;go_wp2_with fail;refine aD.out.mono ?_;rintro e w'⟨rfl,rfl⟩;go_wp2_with fail;refine ar.out.mono ?_;rintro e w1⟨A1,c1,rfl,r1,b1⟩;have H1:=qQ (uS.one api al.out b1 r1);have aG:=ad.out _ H1.out.kept;clear c6 c8 b1 r1;go_wp2;go_loopg [10,32] m (fun g u i wr=>∃(k:Nat) (N:List Nat) (j:Nat),k+g=m/\j<=k/\i = .int .i64 k/\uS At w0 gd w n N { D with count:=D.count+j } (o::(S.T.take k).map fun t=>kZ t.l x a (kt b)) u wr)
 case atStart=>exact⟨0,_,0,by omega,qK _,rfl,H1.out⟩
 case round =>
  obtain⟨k,N,j,aJ,aA,rfl,G⟩:=hrel;obtain⟨Ak,nk,ck,ai,rfl⟩:=G.shape;have ag:k<=m:=by omega
  rw[ae.out k ag]at ai;subst ai;have v:=qQ G;clear G;cases gk with
  | zero =>
    obtain rfl:k=m:=(by omega);have s1:¬(k:Int)<(k:Int):=(by omega);have K:=v.out;rw[ak.out]at K;obtain⟨L,I,s⟩:=K.lists;have M:=GJ _ L wr I (by rw[<-mc,s];exact aq.out) (by rw[s];have:=aw.out;omega);rw[s,<-HR.out]at M;unfold yd at M;have HG:=qQ M;have p:=qQ K;clear M K I s v;go_wp2_with fail;refine HG.out.mono ?_;rintro e w9⟨A9,c9,rfl,r9,O⟩;have an:=qQ (ac.out (jF (.slice A9 R.length c9)) { D with count:=D.count+j } w9 ((p.out.ds.less (fun b c=>qJ _ c)).more api O (fi r9)) (p.out.kept.trans (jV.qn O (fun b c=>p.out.ds.lt b (qJ _ c)))) (fun b c=>qO p.out.kept.size (fi r9 b c).1));have au:=qQ (r9.down p.out.kept.size);have ap:=qQ ((p.out.kept.trans (jV.qn O (fun b c=>p.out.ds.lt b (qJ _ c)))).less am.out);clear r9 O;go_wp2;go_ret2;exact⟨A9,c9,j,aA,rfl,au.out,an.out,ap.out⟩
  | succ gi =>
    have aB:k<m:=(by omega);have s1:(k:Int)<(m:Int):=(by omega);obtain⟨g,t,q,y⟩:=ao.out k aB;obtain⟨C,rfl,I⟩:=HP.out wr v.out.kept k g q;have ax:=qQ (HT.out k g t q y j (by omega) wr N v.out.ds v.out.kept);have HG:=qQ y;clear q y;go_wp2_with fail;refine ax.out.mono ?_;rintro e w5⟨j2,aI,A5,c5,rfl,r5,F,k5⟩;obtain⟨L5,r6⟩:=v.out.told F k5 r5;have ah:(o::(S.T.take k).map fun t=>kZ t.l x a (kt b)).length<=500000:=(by rw[ae.out k ag];omega);obtain⟨A6,c6,w6,N6,e6,L6⟩:=L5.add api r6 (fun b c=>qG _ c) ah 163;rw[av.out k t HG.out,Nat.add_assoc]at L6;have HE:=qQ e6;have H6:=qQ L6;clear L5 r6 ah e6 L6 r5 F k5;go_wp2_with (first | (at_builtin;refine yI rfl _ _ rfl rfl rfl HE.out ?_) | fail);go_roundg gi
    case measure=>omega
    case rel=>exact⟨k+1,N6,j+j2,by omega,by omega,by go_num,H6.out⟩
end
theorem Jl(q:TbS->Bool):∀(T:List TbS),kv ((T.filter q).map TbS.l)<=kv (T.map TbS.l)
 | []=>qK _
 | t::T=>by
   have:=Jl q T;rw[List.map_cons,gO,List.filter_cons];split
   ·rw[List.map_cons,gO];omega
   ·omega
section
variable {At:jL}(api:jM At)(nap:jm){w0 w w':World}{gd gx r:Nat}{S:IxS}{D:jK}{E:List Nat}
include api nap
theorem qK3(h:jz At w0 gd gx r S D E w)(ok:jl D S)(O:WfP D)(hc:D.count<=1000000000)(X:D.down=false)(ht:cQ S<=40000)(v:Value)(ns:List Int)(hv:kX w v ns)(an:∀b∈jF v,b∈E)(al:ns.length<=1000000):
  Calls prog 44 #[ptr gx,v] w (Jh At w0 gd gx r S D (ka S ns) S.T.length E w):=by
 obtain⟨Fm,Gr,Gk,U,hM,d3,d4,J,d6⟩:=h;obtain⟨gm,A,cp,B,c2,G,z⟩:=hM.cells;obtain⟨c0,-,-,-,-,-,c6,-,c8⟩:=z.cs;have ae:=qQ (fun(N:List Nat) (D':jK) (W:World) (X:DS At w0 gd D' (N++(Fm++(Gr++(Gk++E)))) W) (y:jV (Fm++(Gr++(Gk++E))) w W) (hN:∀b∈N,w.heap.size<=b)=>jz.back hM U d3 d4 J d6 X y hN);have K:∀b∈Gk,b∈Fm++(Gr++(Gk++E)):=fun b a=>qJ _ (qJ _ (qG _ a))
 have ab:∀b∈Gr,b∈Fm++(Gr++(Gk++E)):=fun b a=>qJ _ (qG _ a)
 have V:∀b∈E,b∈Fm++(Gr++(Gk++E)):=fun b a=>qJ _ (qJ _ (qJ _ a))
 have aH:G.length=S.T.length:=z.xK.1;obtain⟨d,aj⟩:∃d,Fm++(Gr++(Gk++E))=d:=⟨_,rfl⟩
 rw[aj]at U ae K ab V;have ao:=qQ U
 have ax:=qQ (fun(i g:Nat) (t:TbS) (f:G[i]? = some g) (o:S.T[i]? = some t) (W:World) (M:jV d w W)=>(show Calls prog 107 #[ptr g] W fun e w'=>e = .returned (.int .i64 (t.n:Nat))/\W=w' from by
  obtain⟨H,C,p⟩:=z.xK.2 i g t f o;exact UO (C.keep M (fun b a=>K b (p b a)))))
 have af:=qQ (fun(n:Int) (W:World) (M:jV d w W)=>QA v ns n W (M.ints hv (fun b a=>V b (an b a))) al)
 have HT:=qQ (fun(i g:Nat) (t:TbS) (f:G[i]? = some g) (o:S.T[i]? = some t) (k:Nat) (y:k<=40) (W:World) (N:List Nat) (hW:DS At w0 gd { D with count:=D.count+k } (N++d) W) (M:jV d w W)=>(show Calls prog 108 #[ptr g] W (mj At w0 gd t.l 0 { D with count:=D.count+k+1 } (N++d) W) from by
  obtain⟨H,C,p⟩:=z.xK.2 i g t f o;have ac:=qM o;have aM:=Cw ac;have hn:=(ok.xU ac).1;exact Ph api nap hW (C.keep M (fun b a=>K b (p b a))) (fun b a=>qJ _ (K b (p b a))) ⟨O.synced,O.used,O.cap,O.many⟩ (by show D.count+k<=_;omega) (WalkArith.wf_i64 (by omega)) X ((ok.has t ac).count _) (by unfold cQ at ht;omega)))
 have HP:=qQ (fun(W:World) (y:jV d w W) (i g:Nat) (f:G[i]? = some g)=>(show ∃I,B=some ⟨I,0,none⟩/\W.cell? ⟨I,i,none⟩=some (ptr g) from by
  obtain⟨B',aJ,e,-,-,aD⟩:=vm.form (y.xM z.row (fun b a=>ab b (z.xI b a)));obtain⟨rfl,-,-⟩:=Value.slice.inj e;obtain⟨I,e1,-,-,e2⟩:=aD i g f;exact⟨I,e1,e2⟩))
 have aC:=ok.xE;have HR:Hid (ka S ns=dH ((cP (S.T.take S.T.length) ns).map TbS.l)):=qQ (by rw[List.take_length];rfl)
 have ai:=qQ (show kv ((cP (S.T.take S.T.length) ns).map TbS.l)<=40000 from by
  rw[List.take_length];have:=Jl (fun t=>decide ((t.n:Int)∈ns)) S.T;unfold cQ at ht;unfold cP;omega)
 have ap:=qQ V
 have aA:Hid (∀k t,S.T[k]? = some t->(cP (S.T.take (k+1)) ns).map TbS.l=(cP (S.T.take k) ns).map TbS.l++(if decide ((t.n:Int)∈ns)=true then [t.l] else [])):=qQ fun k t y=>by
  unfold cP;rw[List.take_add_one,y,List.filter_append,List.map_append];congr 1;show(List.filter _ [t]).map TbS.l=_;by_cases q:(t.n:Int)∈ns
  ·simp[q]
  ·simp[q]
 have aw:Hid (∀k,k<=40->((cP (S.T.take k) ns).map TbS.l).length<=40):=qQ fun k y=>by
  rw[qj];have h1:=List.length_filter_le (fun t=>decide ((t.n:Int)∈ns)) (S.T.take k);rw[qS]at h1;unfold cP;omega
 obtain⟨m,hm⟩:∃m,m=G.length:=⟨_,rfl⟩
 have aN:m<=40:=by omega
 have ak:S.T.length=m:=by omega
 rw[<-hm]at c6;rw[ak]at HR ai ⊢;have ar:Hid (∀k,k<m->∃g t,G[k]? = some g/\S.T[k]? = some t):=qQ fun k y=>⟨_,_,qC (by omega),qC (by omega)⟩
 have H0:=qQ (uS.nil api ao.out);obtain⟨Av,ov,cv,rfl,-,-⟩:=hv.form;obtain⟨nv,am⟩:∃nv,nv=ns.length:=⟨_,rfl⟩
 rw[<-am]at af ⊢;clear hM z U d3 d4 J d6 ok O hc X ht K ab V aH aC hm ak aj c0 c8 hv an al am;generalize ka S ns=R at*;go_enter func44,ntmps44;go_wp2;go_loopg [6,16] m (fun g u i wr=>∃(k:Nat) (N:List Nat) (j:Nat),k+g=m/\j<=k/\i = .int .i64 k/\uS At w0 gd w d N { D with count:=D.count+j } ((cP (S.T.take k) ns).map TbS.l) u wr)
 case atStart=>exact⟨0,_,0,by omega,qK _,rfl,H0.out⟩
 case round =>
  obtain⟨k,N,j,aK,aE,rfl,hL⟩:=hrel;obtain⟨Ak,nk,ck,ad,rfl⟩:=hL.shape;have aL:k<=m:=by omega
  have aG:=aw.out k (by omega);rw[<-ad]at aG;have ag:=qQ ad;have c:=qQ hL;clear hL ad;cases gk with
  | zero =>
    obtain rfl:k=m:=(by omega);have s1:¬(k:Int)<(k:Int):=(by omega);obtain⟨L,C,p⟩:=c.out.lists;have P:=GJ _ L wr C (by rw[<-mc,p,<-ag.out];omega) (by rw[p];have:=ai.out;omega);rw[p,<-HR.out]at P;unfold yd at P;have HG:=qQ P;clear P C p;go_wp2_with fail;refine HG.out.mono ?_;rintro e w9⟨A9,c9,rfl,Z,Q⟩;have aq:=qQ (ae.out (jF (.slice A9 R.length c9)) { D with count:=D.count+j } w9 ((c.out.ds.less (fun b a=>qJ _ a)).more api Q (fi Z)) (c.out.kept.trans (jV.qn Q (fun b a=>c.out.ds.lt b (qJ _ a)))) (fun b a=>qO c.out.kept.size (fi Z b a).1));have ay:=qQ (Z.down c.out.kept.size);have au:=qQ ((c.out.kept.trans (jV.qn Q (fun b a=>c.out.ds.lt b (qJ _ a)))).less ap.out);clear Z Q;go_wp2;go_ret2;exact⟨A9,c9,j,aE,rfl,ay.out,aq.out,au.out⟩
  | succ gi =>
    have aF:k<m:=(by omega);have s1:(k:Int)<(m:Int):=(by omega);obtain⟨g,t,f,o⟩:=ar.out k aF;obtain⟨I,rfl,C⟩:=HP.out wr c.out.kept k g f;have aB:=qQ (HT.out k g t f o j (by omega) wr N c.out.ds c.out.kept);have ah:=qQ (ax.out k g t f o wr c.out.kept);have F:=af.out (t.n:Nat) wr c.out.kept;have s:=aA.out k t o;clear f o;cases Y:decide ((t.n:Int)∈ns) with
    | false =>
      rw[Y]at F s;rw[qZ (by decide),List.append_nil]at s;have av:=qQ (show uS At w0 gd w d N { D with count:=D.count+j } ((cP (S.T.take (k+1)) ns).map TbS.l) (.slice Ak nk ck) wr from by rw[s];exact c.out);have aa:=qQ F;clear Y F s;go_wp2_with fail;refine ah.out.mono ?_;rintro e w5⟨rfl,rfl⟩;go_wp2_with fail;refine aa.out.mono ?_;rintro e w5⟨rfl,rfl⟩;go_wp2;go_roundg gi
      case measure=>omega
      case rel=>exact⟨k+1,N,j,by omega,by omega,by go_num,av.out⟩
    | true =>
      rw[Y]at F s;rw[qV rfl]at s;have az:=qQ s;have aa:=qQ F;clear Y F s;go_wp2_with fail;refine ah.out.mono ?_;rintro e w5⟨rfl,rfl⟩;go_wp2_with fail;refine aa.out.mono ?_;rintro e w5⟨rfl,rfl⟩;go_wp2_with fail;refine aB.out.mono ?_;rintro e w5⟨A5,c5,rfl,r5,J,k5⟩;obtain⟨L5,r6⟩:=c.out.told J k5 r5;obtain⟨A6,aI,w6,N6,e6,L6⟩:=L5.add api r6 (fun b a=>qG _ a) (by rw[<-ag.out];omega) 163;rw[<-az.out,Nat.add_assoc]at L6;have HE:=qQ e6;have H6:=qQ L6;clear L5 r6 e6 L6 r5 J k5;go_wp2_with (first | (at_builtin;refine yI rfl _ _ rfl rfl rfl HE.out ?_) | fail);go_roundg gi
      case measure=>omega
      case rel=>exact⟨k+1,N6,j+1,by omega,by omega,by go_num,H6.out⟩
end
end
end Go.Proofs.YtokbfellcadkpaaGreat
