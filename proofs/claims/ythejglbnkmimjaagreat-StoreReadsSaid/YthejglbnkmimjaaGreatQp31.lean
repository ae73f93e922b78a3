import Derived.Test.YthejglbnkmimjaaGreatQp30
import Derived.Test.YthejglbnkmimjaaGreatQp22
import Derived.Test.YthejglbnkmimjaaGreatQp10
import Derived.Test.YthejglbnkmimjaaGreatQp26
import Derived.Test.YthejglbnkmimjaaGreatQp27
set_option linter.unusedVariables false
set_option maxRecDepth 100000
set_option maxHeartbeats 9000000
namespace Go.Proofs.YthejglbnkmimjaaGreat
open Proofs.Tryz
section
open Go.RowKit
theorem qJT{c:UInt8}{n:Int}(h:nmS c n≠ByteArray.empty):¬(nmS c n).toList=[]/\((nmS c n).toList==[])=false:=by
 have a:¬(nmS c n).toList=[]:=fun e=>h (by
  rw[Lib.toList_data]at e;exact qi (Array.toList_inj.1 e))
 exact⟨a,by rw[qg];exact a⟩
section
variable {At:jR}(api:jS At)(nap:jw){w0 w:World}{gd:Nat}{D:jD}{E:List Nat}
theorem ri{D:jD}(ok:WfP D)(n:Int)(l:List jC)(t:Tw):WfP (kA D n l t).2:=by
 unfold kA;have a:=nf ok (ptB n) t;have b:=nf a (ptT n) (tbB l);split
 ·exact ok
 ·split
  ·exact ok
  ·split
   ·exact ok
   ·split
    ·exact a
    ·split
     ·exact dO b _
     ·exact b
theorem C8{D:jD}(ok:WfP D)(n:Int):WfP (uW D n).2:=by
 unfold uW;have a:=dO ok (ptT n);have b:=dO a (ptB n);split
 ·exact a
 ·split
  ·exact b
  ·exact b
include api nap
theorem qJ0(h:DS At w0 gd D E w)(ok:WfP D)(n:Int)(wn:(Lit.int .i64 n).wf=true)(v:Value)(l:List jC)(T:kC w v l)(hl:l.length<=1000)(ag:∀x∈l,kz x)(r:Nat)(hr:r<18446744073709551616)(hn:ptT n≠ByteArray.empty)(K:ux l=true)(hd:D.down=false):
  Calls prog 111 #[ptr gd,n,v,.float .f64 r] w fun e w'=>∃t,bG l r t/\y9 At w0 gd (err (kA D n l t).1) (kA D n l t).2 E w e w':=by
 have R:=qZk v l w T (by omega) ag;unfold og at R;rw[(ZF K).1,(ZF K).2]at R;have ad:=qQ R;have Q:=qQ fun W=>nap.table n W wn
 have H:=qQ fun W=>nap.zM n W wn
 have HU:=qQ fun W (J:Below w.1.size w W)=>tT api (h.below api J) ok
 rw[qZ (by rw[hd];decide)]at HU;obtain⟨n1,n2⟩:=qJT (c:=116) (n:=n) hn;have ab:=qQ fun W (J:Below w.1.size w W)=>qJS v l r W (T.below J (qK _)) hl ag hr
 have ac:=qQ fun W (J:Below w.1.size w W)=>(h.below api J).xD api (fun F hF=>api.free hF ok.ok)
 have az:=ok;have av:=ok.cap;have ay:=ok.used;have aw:=ph l;have ar:=qQ h.lt;have HH:=qQ h;obtain⟨A,off,aB,rfl,-,-⟩:=T.form
 have HW:Hid (∀t,(kA D n l t)=if (D.cap:Int)-(jM D.l:Nat)-(t.size:Nat)-((tbB l).size:Nat)<6000 then(60,D)
   else if (ji D (ptB n) t).1≠0 then ji D (ptB n) t
   else if (ji (ji D (ptB n) t).2 (ptT n) (tbB l)).1≠0 then((ji (ji D (ptB n) t).2 (ptT n) (tbB l)).1,(jg (ji (ji D (ptB n) t).2 (ptT n) (tbB l)).2 (ptB n)).2)
   else ji (ji D (ptB n) t).2 (ptT n) (tbB l)):=qQ fun t=>by
  unfold kA;rw[qZ (by rw[not_or];exact⟨hn,by simp[K]⟩),qZ (by rw[hd];decide)]
 have am:=qQ fun(t:Tw) (K:t.size<=100000) W (f:List Nat) (j:DS At w0 gd D f W)=>UF api j ok (ptB n) t (tF n) (by omega)
 have an:=qQ fun(t:Tw) W (f:List Nat) (j:DS At w0 gd (ji D (ptB n) t).2 f W)=>UF api j (nf ok _ _) (ptT n) (tbB l) (oB n) (by omega)
 have aj:=qQ fun(t:Tw) W (f:List Nat) (j:DS At w0 gd (ji (ji D (ptB n) t).2 (ptT n) (tbB l)).2 f W)=>j.xD api (fun F hF=>api.delete (ptB n) hF (nf (nf ok _ _) _ _).ok (tF n))
 have ak:=qQ fun(t:Tw) (hf:bG l r t)=>pt (show l.length<=10000 by omega) hf
 rw[show nmS 116 n=ptT n from rfl]at Q n1 n2;rw[show nmS 98 n=ptB n from rfl]at H;generalize ptT n=U at*;generalize ptB n=nb at*;generalize hS:tbB l=S at*;clear h ok T ag hr K hd R wn hn az hS;have aC:S.size<=24012:=by omega
 clear aw;have HM:Hid (l.length<=1000):=qQ hl;obtain⟨m,hm⟩:∃m,l.length=m:=⟨_,rfl⟩
 have aA:=qQ hm;rw[hm]at ad ab ⊢;clear hm hl;go_enter func111,ntmps111;go_wp2_with fail;refine KG ad.out fun w1 b1=>?_;go_wp2_with fail;refine KG (Q.out _) fun w2 b2=>?_;have O:=qQ (bj b1 b2);clear b1 b2 ad;go_wp2_with fail;refine X5 (HU.out _ O.out) ?_;go_wp2_with fail;refine(ab.out _ O.out).mono ?_;rintro e w4⟨t,rfl,af,b4⟩;have V:=qQ (bj O.out b4);have ax:=ak.out t af;have aD:t.size<=5000:=by have:=HM.out;omega
 have d:=qQ (HW.out t);have P:=qQ af;clear b4 O HU ab ak af ax HW;obtain⟨y,hy⟩:∃y:Int,(D.cap:Int)-(jM D.l:Nat)=y:=⟨_,rfl⟩
 have y1:y<=1048576:=by omega
 have y2:0<=y:=by omega
 have q1:IntKind.i64.wrap (y-(t.size:Int))=y-(t.size:Int):=qy _ ⟨by omega,by omega⟩;have q2:IntKind.i64.wrap (y-(t.size:Int)-(S.size:Int))=y-(t.size:Int)-(S.size:Int):=qy _ ⟨by omega,by omega⟩;rw[hy]at ac d;have ai:=qQ (ac.out _ V.out);have al:=qQ (jE.xA V.out ar.out);clear ac V hy av ay;go_wp2_with fail;refine ai.out.mono ?_;rintro e w5⟨rfl,d5,k5⟩;have a:=qQ (qG d5 (al.out.trans k5));clear d5 k5 ai al;by_cases ap:y-(t.size:Int)-(S.size:Int)<6000
 ·rw[qV ap]at d;go_wp2;go_ret;exact⟨t,P.out,by rw[d.out];exact⟨rfl,a.out.1,a.out.2⟩⟩
 ·rw[qZ ap]at d;have s:=qQ fun W (f:List Nat) j=>am.out t (by omega) W f j
  have z:=qQ fun W (f:List Nat) j=>an.out t W f j
  have aa:=qQ fun W (f:List Nat) j=>aj.out t W f j
  clear am an aj;by_cases B:(ji D nb t).1=0
  ·rw[qZ (by rw[B];decide)]at d;rw[B]at s;by_cases C:(ji (ji D nb t).2 U S).1=0
   ·rw[qZ (by rw[C];decide)]at d;rw[C]at z;generalize hX:ji (ji D nb t).2 U S=X at*;generalize (ji D nb t).2=D1 at*;have HX:=qQ C;clear B C hX;go_wp2_with fail;refine KG (H.out _) fun w6 i=>?_;have g:=qQ (qG (a.out.1.below api i) (a.out.2.trans (jE.xA i a.out.1.lt)));clear i a;go_wp2_with fail;refine(s.out _ _ g.out.1).mono ?_;rintro e w7⟨rfl,k,o⟩;have b:=qQ (qG k (g.out.2.trans o));clear k o g s;go_wp2_with fail;refine KG (Q.out _) fun w8 u=>?_;have p:=qQ (qG (b.out.1.below api u) (b.out.2.trans (jE.xA u b.out.1.lt)));clear u b;go_wp2_with fail;refine(z.out _ _ p.out.1).mono ?_;rintro e w9⟨rfl,I,M⟩;have q:=qQ (qG I (p.out.2.trans M));clear I M p z;go_wp2;go_ret;exact⟨t,P.out,by rw[d.out,HX.out];exact⟨rfl,q.out.1,q.out.2⟩⟩
   ·rw[qV C]at d;have te:(((ji (ji D nb t).2 U S).1:Int) != 0)=true:=(by simp;omega);generalize hX:ji (ji D nb t).2 U S=X at*;generalize (ji D nb t).2=D1 at*;generalize X.1=x1 at*;generalize X.2=Y at*;generalize (jg Y nb).2=D3 at*;generalize (jg Y nb).1=x3 at*;clear B C hX;go_wp2_with fail;refine KG (H.out _) fun w6 i=>?_;have g:=qQ (qG (a.out.1.below api i) (a.out.2.trans (jE.xA i a.out.1.lt)));clear i a;go_wp2_with fail;refine(s.out _ _ g.out.1).mono ?_;rintro e w7⟨rfl,k,o⟩;have b:=qQ (qG k (g.out.2.trans o));clear k o g s;go_wp2_with fail;refine KG (Q.out _) fun w8 u=>?_;have p:=qQ (qG (b.out.1.below api u) (b.out.2.trans (jE.xA u b.out.1.lt)));clear u b;go_wp2_with fail;refine(z.out _ _ p.out.1).mono ?_;rintro e w9⟨rfl,I,M⟩;have q:=qQ (qG I (p.out.2.trans M));clear I M p z;go_wp2_with fail;refine(H.out _).mono ?_;rintro e aE⟨rfl,ae⟩;have Z:=qQ (qG (q.out.1.below api ae) (q.out.2.trans (jE.xA ae q.out.1.lt)));clear ae q;go_wp2_with fail;refine(aa.out _ _ Z.out.1).mono ?_;rintro e aF⟨rfl,ao,aq⟩;have ah:=qQ (qG ao (Z.out.2.trans aq));clear ao aq Z aa;go_wp2;go_ret;exact⟨t,P.out,by rw[d.out];exact⟨rfl,ah.out.1,ah.out.2⟩⟩
  ·rw[qV B]at d;have te:(((ji D nb t).1:Int) != 0)=true:=(by simp;omega);clear z aa;generalize ji D nb t=X at*;have au:Hid (kA D n l t=(X.1,X.2)):=qQ d.out;clear d;generalize X.1=x1 at*;generalize X.2=Y at*;clear B;go_wp2_with fail;refine KG (H.out _) fun w6 i=>?_;have g:=qQ (qG (a.out.1.below api i) (a.out.2.trans (jE.xA i a.out.1.lt)));clear i a;go_wp2_with fail;refine(s.out _ _ g.out.1).mono ?_;rintro e w7⟨rfl,k,o⟩;have b:=qQ (qG k (g.out.2.trans o));clear k o g s;go_wp2;go_ret;exact⟨t,P.out,by rw[au.out];exact⟨rfl,b.out.1,b.out.2⟩⟩
end
theorem C9{r:Nat}(h:cP r=false):((r:Int) != 0)=true/\((r:Int) != 4)=true:=by
 unfold cP at h;rw[Bool.or_eq_false_iff,decide_eq_false_iff_not,decide_eq_false_iff_not]at h;exact⟨by simp;omega,by simp;omega⟩
theorem Cq{r:Nat}(h:cP r=true):(((r:Int) != 0)=false/\r=0)∨(((r:Int) != 0)=true/\((r:Int) != 4)=false/\r=4):=by
 unfold cP at h;rw[Bool.or_eq_true,decide_eq_true_iff,decide_eq_true_iff]at h;rcases h with h|h
 ·exact qX ⟨by rw[h];rfl,h⟩
 ·exact qY ⟨by rw[h];rfl,by rw[h];rfl,h⟩
section
variable {At:jR}(api:jS At)(nap:jw){w0 w:World}{gd:Nat}{D:jD}{E:List Nat}
include api nap
theorem Cx(h:DS At w0 gd D E w)(ok:WfP D)(n:Int)(K:(Lit.int .i64 n).wf=true):Calls prog 74 #[ptr gd,n] w (y9 At w0 gd (err (uW D n).1) (uW D n).2 E w):=by
 have P:=qQ fun W=>nap.table n W K
 have Q:=qQ fun W=>nap.zM n W K
 have H:=qQ fun W (y:List Nat) (J:DS At w0 gd D y W)=>J.xD api (fun F hF=>api.delete (ptT n) hF ok.ok (oB n))
 have I:=qQ fun W (y:List Nat) (J:DS At w0 gd (jg D (ptT n)).2 y W)=>J.xD api (fun F hF=>api.delete (ptB n) hF (dO ok _).ok (tF n))
 have O:=qQ h;rw[show nmS 116 n=ptT n from rfl]at P;rw[show nmS 98 n=ptB n from rfl]at Q;unfold uW;generalize ptT n=j at*;generalize ptB n=nb at*;generalize hX:jg D j=X at*;generalize hY:jg X.2 nb=Y at*;obtain⟨u,M⟩:=X;obtain⟨v,k⟩:=Y;simp only at H I hX hY ⊢;generalize hR:(if cP u=false then(u,M) else if cP v=false then(v,k) else(0,k))=R at*;have A:=qQ hR;clear h ok K hX hY hR;go_enter func74,ntmps74;go_wp2_with fail;refine KG (P.out _) fun w1 V=>?_;go_wp2_with fail;refine(Q.out _).mono ?_;rintro e f⟨rfl,Z⟩;have p:=bj V Z;have hA:=(qU f.1.size f).alloc (qK _) (.cells #[j,nb] 9);have B:=p.alloc p.size (.cells #[j,nb] 9);have T:=jF.new f 9 #[j,nb];have q:=(O.out.below api p).more api hA (B:=[f.1.size]) (fun b a=>by rw[qH.1 a];exact⟨qK _,T.lt⟩);obtain⟨w3,aa⟩:∃w3,f.alloc (.cells #[j,nb] 9)=w3:=⟨_,rfl⟩
 obtain⟨g,hg⟩:∃g,f.1.size=g:=⟨_,rfl⟩
 rw[aa]at B T q;rw[hg]at T q;have c0:=T.cell 0;have z:=qQ (qG q (qG T (jE.xA B O.out.lt)));clear V Z B T p hA q;go_wp2_with fail;refine wp_loop_rounds 3 ?_;rw[rounds_succ];go_wp2_with fail;refine(H.out _ _ z.out.1).mono ?_;rintro e w4⟨rfl,d4,s⟩;have C:=s.xW z.out.2.1 (qW _ qC);have c1:=C.cell 1;have m:=qQ (qG d4 (qG C (qG s (z.out.2.2.trans (s.less (fun b a=>qJ _ a))))));clear c0 d4 s C H;cases c:cP u
 ·obtain⟨t1,t2⟩:=C9 c;have i:=qQ (show R=(u,M) by rw[<-A.out,c,qV rfl]);clear c;go_wp2;go_ret;rw[i.out];exact⟨rfl,m.out.1.less (fun b a=>qJ _ a),m.out.2.2.2⟩
 ·have U:=qQ c;have ab:=Cq c;clear c;rcases ab with⟨t1,rfl⟩|⟨t1,t2,rfl⟩
  all_goals
   go_wp2_with fail;rw[rounds_succ];go_wp2_with fail;refine(I.out _ _ m.out.1).mono ?_;rintro e w5⟨rfl,d5,k5⟩;have o:=qQ (qG (d5.less (fun b a=>qJ _ a)) (m.out.2.2.2.trans (k5.less (fun b a=>qJ _ a))));clear d5 k5 I c1;cases d:cP v
   ·obtain⟨u1,u2⟩:=C9 d;have i:=qQ (show R=(v,k) by rw[<-A.out,U.out,qZ (by decide),d,qV rfl]);clear d;go_wp2;go_ret;rw[i.out];exact⟨rfl,o.out.1,o.out.2⟩
   ·have i:=qQ (show R=(0,k) by rw[<-A.out,U.out,qZ (by decide),d,qZ (by decide)]);have u12:=Cq d;clear d;rcases u12 with⟨u1,rfl⟩|⟨u1,u2,rfl⟩
    all_goals
     go_wp2_with fail;rw[rounds_succ];go_wp2;go_ret;rw[i.out];exact⟨rfl,o.out.1,o.out.2⟩
end
section
variable {At:jR}(api:jS At)(nap:jw){w0 w:World}{gt gd:Nat}{D:jD}{E G:List Nat}{n:Nat}{l:List jC}{t:Tw}
include api
theorem DS.reads(h:DS At w0 gd D E w)(u:UpD D):Calls prog 12 #[ptr gd] w (y9 At w0 gd (.int .i64 (D.count:Nat)) D E w):=h.xD api (fun F hF=>api.reads hF u.wf.ok)
include nap
end
end
section
open Go.RowKit Go.Shelf
section
variable {At:jR}{w0 w w' W:World}{gd gx r:Nat}{S:IxS}{D D':jD}{E N Fm Gr Gk:List Nat}
theorem jf.back(o:IxM w w0.1.size gx gd r S Fm Gr Gk)(i:DS At w0 gd D (Fm++(Gr++(Gk++E))) w)(c:∀b∈Fm,b ∉ Gr/\b ∉ Gk/\b ∉ E)(g:∀b∈Gr,b ∉ Gk/\b ∉ E)(j:∀b∈Gk,b ∉ E)(m:∀b∈Fm++Gr,w0.1.size<=b)
  (q:DS At w0 gd D' (N++(Fm++(Gr++(Gk++E)))) w') (s:jE (Fm++(Gr++(Gk++E))) w w') (p:∀b∈N,w.1.size<=b):jf At w0 gd gx r S D' (N++E) w':=by
 have d:=i.lt
 have f:∀b,b<w.1.size->b ∉ E->b ∉ N++E:=fun b a v u=>by
  rcases qE.1 u with k|k
  ·have:=p b k;omega
  ·exact v k
 refine⟨Fm,Gr,Gk,q.less (fun b a=>?_),o.keep (s.less fun b a=>?_),fun b a=>⟨(c b a).1,(c b a).2.1,f b (d b (qW _ a)) (c b a).2.2⟩,fun b a=>⟨(g b a).1,f b (d b (qJ _ (qW _ a))) (g b a).2⟩,fun b a=>f b (d b (qJ _ (qJ _ (qW _ a)))) (j b a),m⟩
 ·rcases qE.1 a with k|k
  ·exact qJ _ (qW _ k)
  ·rcases qE.1 k with k|k
   ·exact qJ _ (qJ _ (qW _ k))
   ·rcases qE.1 k with k|k
    ·exact qJ _ (qJ _ (qJ _ (qW _ k)))
    ·rcases qE.1 k with k|k
     ·exact qW _ k
     ·exact qJ _ (qJ _ (qJ _ (qJ _ k)))
 ·rcases qE.1 a with k|k
  ·exact qW _ k
  ·rcases qE.1 k with k|k
   ·exact qJ _ (qW _ k)
   ·exact qJ _ (qJ _ (qW _ k))
theorem jE.zo{G:List Nat}{w w':World}{base:Nat}{v:Value}{M:List kP}(h:jE G w w')(a:kD w base v M)(k:∀b∈jL v,b∈G):kD w' base v M:=by
 refine⟨a.1, ?_⟩;rcases a.2 with f|⟨g,c,d,e,i,j,r⟩
 ·exact qX f
 ·exact qY ⟨g,c,d,e,i,(h.block g (k g (jt.2 (by rw[e];rfl)))).trans j,r⟩
structure gX(At:jR)(w0:World)(gd:Nat)(w:World)(E N:List Nat)(D:jD)(Ls:List (List jC))(v:Value)(wr:World):Prop where
 ds:DS At w0 gd D (N++E) wr
 kept:jE E w wr
 new:∀b∈N,w.1.size<=b
 base:w0.1.size<=w.1.size
 zV:∀b∈E,b<w.1.size
 rows:∃L,kD wr w.1.size v L/\els L=Ls/\(∀b∈jL v,b∈N)/\∀x∈L,jy wr w.1.size x.v x.l/\∀b∈jL x.v,b∈N
theorem gX.shape{a:List (List jC)}{v:Value}(h:gX At w0 gd w E N D a v W):∃A n c,n=a.length/\v=.slice A n c:=by
 obtain⟨L,b,d,-⟩:=h.rows;obtain⟨A,c,rfl,-⟩:=v8 b;exact⟨A,_,c,by rw[<-d,nA],rfl⟩
theorem gX.lists{a:List (List jC)}{v:Value}(h:gX At w0 gd w E N D a v W):∃L,tj W v L/\els L=a:=by
 obtain⟨L,b,c,g,d⟩:=h.rows;exact⟨L,kD.xE b (fun x f=>jy.xE (d x f).1),c⟩
theorem gX.nil(api:jS At)(h:DS At w0 gd D E w):gX At w0 gd w E [] D [] (.slice none 0 0) w :=
 ⟨h,jE.refl _ _,fun b a=>(by cases a),h.kept.size,h.lt,[],kD.nil _ _,rfl,fun b a=>(by cases a),fun x c=>(by cases c)⟩
theorem gX.one(api:jS At){A:Option Addr}{n c:Nat}{l:List jC}(h:DS At w0 gd D E w)(a:Below w.1.size w W)(g:jy W w.1.size (.slice A n c) l):
  gX At w0 gd w E (W.1.size::jL (.slice A n c)) D [l] (.slice (some ⟨W.1.size,0,none⟩) 1 1) (W.alloc (.cells #[.slice A n c] 112)):=by
 have i:=(qU W.1.size W).alloc (qK _) (.cells #[.slice A n c] 112);have d:=a.alloc (B:=w.1.size) a.size (.cells #[.slice A n c] 112);have j:W.1.size<(W.alloc (.cells #[.slice A n c] 112)).1.size:=by simp
 have f:=fo g;refine⟨h.more api d (fun b a=>?_),jE.xA d h.lt,fun b a=>?_,h.kept.size,h.lt,[⟨.slice A n c,l⟩],World.ownsRow_lit (base:=w.1.size) (e:=112) (size:=1) W #[.slice A n c] 1 a.size (by unfold maxLen;omega) rfl,rfl,fun b a=>?_,fun x m=>?_⟩
 ·rcases qL.1 a with e|k
  ·rw[e];exact⟨by have:=Below.size ‹Below w.1.size w W›;omega,j⟩
  ·have:=f b k;exact⟨this.1,by omega⟩
 ·rcases qL.1 a with e|k
  ·rw[e];exact Below.size ‹Below w.1.size w W›
  ·exact(f b k).1
 ·have e:b=W.1.size:=by simpa[jL,Value.ownBlock] using a
  rw[e];exact qC
 ·obtain rfl:=qH.1 m;exact⟨g.below i (qK _),fun b a=>qF _ a⟩
theorem gX.told{g:List (List jC)}{v u:Value}{l:List jC}(h:gX At w0 gd w E N D g v W)(p:DS At w0 gd D' (jL u++(N++E)) w')(d:jE (N++E) W w')(j:jy w' W.1.size u l):
  gX At w0 gd w E (jL u++N) D' g v w'/\jy w' w.1.size u l:=by
 obtain⟨L,m,o,i,c⟩:=h.rows;have s:=h.kept.size;have q:=fo j;refine⟨⟨p.less (fun b a=>?_),h.kept.trans (d.less (fun b a=>qJ _ a)),fun b a=>?_,h.base,h.zV,L,d.zo m (fun b a=>qW _ (i b a)),o,fun b a=>qJ _ (i b a),fun x f=>⟨d.row (c x f).1 (fun b a=>qW _ ((c x f).2 b a)),fun b a=>qJ _ ((c x f).2 b a)⟩⟩,j.down s⟩
 ·rw[qn]at a;exact a
 ·rcases qE.1 a with k|k
  ·have:=(q b k).1;omega
  ·exact h.new b k
theorem gX.add(api:jS At){s:List (List jC)}{A d:Option Addr}{n c g f:Nat}{l:List jC}(h:gX At w0 gd w E N D s (.slice A n c) W)(hr:jy W w.1.size (.slice d g f) l)(B:∀b∈jL (.slice d g f),b∈N)(hn:s.length<=500000)(ty:TypeId):
  ∃i j w' U,(Builtin.append_ #[159,159] ty #[.slice A n c,.slice (some ⟨W.1.size,0,none⟩) 1 1]).run prog (W.alloc (.cells #[.slice d g f] 112))=.ok (.slice i (n+1) j) w'/\gX At w0 gd w E U D (s++[l]) (.slice i (n+1) j) w':=by
 obtain⟨L,K,O,m,P⟩:=h.rows;have y:=(qU W.1.size W).alloc (qK _) (.cells #[.slice d g f] 112)
 have p:L.length=n:=by
  obtain⟨A2,c2,e,-⟩:=v8 K;exact(Value.slice.inj e).2.1.symm
 have F:=kD.alloc K (.cells #[.slice d g f] 112);have hz:=h.kept.size;have aa:w.1.size<=(W.alloc (.cells #[.slice d g f] 112)).1.size:=by simp;omega
 obtain⟨i,j,w',I,o,v,J⟩:=US (M:=[⟨.slice d g f,l⟩]) F (Pv W ⟨.slice d g f,l⟩) (fun u B=>by
  obtain rfl:u=.slice d g f:=by simpa[dj] using B
  rfl) (by rw[p,<-p,<-nA,O];simp;omega) aa ty
 rw[p]at I o J;have Q:jH (jL (.slice A n c)) W w':=((jH.xA y).more (fun x C=>by cases C)).grown v (fun k X=>qX (jt.2 X))
 have T:∀b∈jL (.slice i (n+1) j),b∈jL (.slice A n c)∨(W.1.size<=b/\b<w'.1.size):=fun b a=>by
  have z:=jt.1 a;rcases J with e|e
  ·exact qX (jt.2 (by rw[<-e];exact z))
  ·have Y:=(o.lt b z).2;refine qY ⟨?_,Y⟩;have H:(Value.slice i (n+1) j).ownBlock=some (W.alloc (.cells #[.slice d g f] 112)).1.size:=e;rw[z]at H;obtain rfl:=qb H;simp
 have R:∀b∈E,b ∉ jL (.slice A n c)/\b<W.1.size:=fun b a=>⟨fun Z=>(by have:=h.new b (m b Z);have:=h.zV b a;omega),h.ds.lt b (qJ _ a)⟩
 have V:jE E W w':=jE.xP Q (fun b a=>⟨(R b a).2,(R b a).1⟩);refine⟨i,j,w',jL (.slice i (n+1) j)++N,I,⟨h.ds.xL api Q (fun b a=>?_) (fun b a=>?_),h.kept.trans V,fun b a=>?_,h.base,h.zV,L++[⟨.slice d g f,l⟩],by rw[<-p]at o ⊢;exact o,by rw[show els (L++[⟨.slice d g f,l⟩])=els L++[l] from by unfold els;rw[List.map_append];rfl,O],fun b a=>qW _ a,fun x C=>?_⟩⟩
 ·exact⟨qW _ (m b a),qR h.base (h.new b (m b a))⟩
 ·rcases qE.1 a with k|k
  ·rcases qE.1 k with k|k
   ·rcases T b k with q|q
    ·exact qX (qW _ (m b q))
    ·exact qY q
   ·exact qX (qW _ k)
  ·exact qX (qJ _ k)
 ·rcases qE.1 a with k|k
  ·rcases T b k with q|q
   ·exact h.new b (m b q)
   ·omega
  ·exact h.new b k
 ·rcases qE.1 C with k|k
  ·exact⟨jy.zy ((P x k).1.below y (qK _)) F v,fun b a=>qJ _ ((P x k).2 b a)⟩
  ·obtain rfl:=qH.1 k;exact⟨jy.zy (hr.below y (qK _)) F v,fun b a=>qJ _ (B b a)⟩
end
def v7(D:jD)(n a:Nat)(m:kJ):Nat × jD:=if a≠0 then(a,D) else if vU D n≠0 then(vU D n,uI D n) else uU (uI D n) m
noncomputable def Qj (D:jD)(n:Nat):TbS:=⟨n,tgL (rdW D (ptT n)).1,ldF (rdW D (ptT n)).2.2 n (tgL (rdW D (ptT n)).1)⟩
noncomputable def bF (S:IxS)(D:jD)(n b:Nat)(R:LvL)(a:Int):IxS:=if (v7 D n b (jo S R a)).1=0 then fI S R a (Qj D n) S.mem else S
def mB(gx:Nat)(w w':World):Prop:=w'.cell? ⟨gx,8,none⟩=w.cell? ⟨gx,8,none⟩
theorem Jv: (160:TypeId)≠111:=by decide
section
variable {At:jR}(api:jS At)(nap:jw)(iap:uy At){w0 w w':World}{gd gx r:Nat}{S:IxS}{D:jD}{E:List Nat}
include api nap iap
theorem qJ1(h:jf At w0 gd gx r S D E w)(wf:WfP D)(hc:D.count<=1000000000)(n:Nat)(hn:S.m.next=(n:Nat))(b_:n<=999999)(a9:S.m.seed<18446744073709551616)(c:Int)(f:FuncId)(ak:Array Value)(hE:Enters prog f)(R:LvL)(J:Nat)
  (aR:Calls prog f (#[.int .i64 (n:Nat)]++ak) w (dW w R (J:Nat))) (hR:R.flatten.length<=100000) (hL:R.length<=100000) (a8:(tgL (rdW D (ptT n)).1).length<=10000) (hT:S.T.length<=1000):
  Calls prog 112 #[ptr gx,n,c,.func (.func f) #[] ak] w fun e w'=>nH At w0 gd gx r (err (v7 D n J (jo S R c)).1) (bF S D n J R c) (v7 D n J (jo S R c)).2 E w e w'/\mB gx w w':=by
 obtain⟨Fm,Gr,Gk,d1,hM,d3,M,O,d6⟩:=h;obtain⟨gm,A,cp,B,c2,y,hC⟩:=hM.cells;obtain⟨c0,c1,-,-,c4,-,c6,-,-⟩:=hC.cs;have g:=qQ hC;have X:=qQ (qG d1 (qG d3 (qG M (qG O d6))))
 have aB:Hid (∀(D':jD) (W:World) (N:List Nat),DS At w0 gd D' (N++(Fm++(Gr++(Gk++E)))) W->jE (Fm++(Gr++(Gk++E))) w W->(∀b∈N,w.1.size<=b)->jf At w0 gd gx r S D' E W/\jE E w W/\mB gx w W):=qQ fun D' W N hd hk hN =>
  ⟨(jf.back hM d1 d3 M O d6 hd hk hN).less (fun b a=>qJ _ a),hk.less (fun b a=>qJ _ (qJ _ (qJ _ a))),((hk.xW hC.xW (qJ _ (qW _ hC.own))).cell 8).trans (hC.xW.cell 8).symm⟩
 unfold dW at aR;have a1:=qQ aR;have HR:=qQ hR;have HL:=qQ hL;have a0:=qQ a8;have aF:=qQ wf;have aX:=qQ hc;have HN:=qQ hn;have b2:=qQ a9;have a2:=qQ hT;unfold Enters at hE;have wn:(Lit.int .i64 (n:Nat)).wf=true:=WalkArith.wf_i64 (by omega);have WN:=qQ wn;have cv:(n:Int)<=999999:=by omega
 obtain⟨k,hk⟩:∃k,k=R.length:=⟨_,rfl⟩
 rw[<-hk]at a1;have HK:=qQ hk;obtain⟨tp,aT⟩:∃tp,v7 D n J (jo S R c)=tp:=⟨_,rfl⟩
 obtain⟨tx,aU⟩:∃tx,bF S D n J R c=tx:=⟨_,rfl⟩
 rw[aT,aU];have ah:=qQ aT;have ai:=qQ aU;clear aT aU;clear aR hC hM d1 d3 M O d6 hR hL a8 wf hc hn a9 hT wn b_ hk;go_enter func112,ntmps112;go_wp2_with fail;refine a1.out.mono ?_;rintro e w1⟨i,j,rfl,r1,b1⟩;obtain⟨G2,am,aP⟩:=r1.keep;have D1:=X.out.1.more api b1 am;have K1:=jE.xA b1 X.out.1.lt;by_cases ay:J=0
 case neg =>
  have t1:((J:Int) != 0)=true:=by simp;omega
  have Z:v7 D n J (jo S R c)=(J,D):=by unfold v7;rw[qV ay]
  have e2:bF S D n J R c=S:=by unfold bF;rw[Z];exact qZ ay
  have P:=qQ (ah.out.symm.trans Z);have Q:=qQ (ai.out.symm.trans e2);have I:=qQ (aB.out D w1 G2 D1 K1 (fun b a=>(am b a).1));clear r1 b1 am aP D1 K1 Z e2 ay c0 c1 c4 c6;go_wp2;go_ret;rw[P.out,Q.out];exact⟨⟨rfl,I.out.1,I.out.2.1⟩,I.out.2.2⟩
 case pos =>
  subst ay;have cn:=(K1.xW g.out.xW (qJ _ (qW _ g.out.own))).cell 1;have HO:=CT api nap D1 aF.out (by have:=aX.out;omega) (n:Nat) WN.out (fun _=>a0.out);unfold re at HO;have ab:=qQ (qG am (qG aP (qG K1 b1)));have ar:=qQ HO;clear r1 b1 am aP D1 K1 HO c0 c1;by_cases ho:vU D n=0
  case neg =>
   have t1:((vU D n:Int) != 0)=true:=(by simp;omega);have Z:v7 D n 0 (jo S R c)=(vU D n,uI D n):=(by unfold v7;rw[qZ (by decide),qV ho]);have e2:bF S D n 0 R c=S:=(by unfold bF;rw[Z];exact qZ ho);have P:=qQ (ah.out.symm.trans Z);have Q:=qQ (ai.out.symm.trans e2);have ag:=qQ (ar.out.mono (fun e w' h=>(h.resolve_left (fun q=>ho q.1)).2));clear Z e2 ho ar ah ai;generalize vU D n=oe at*;go_wp2_with fail;refine ag.out.mono ?_;rintro e K⟨rfl,d2,k2⟩;have I:=qQ (aB.out _ K G2 d2 (ab.out.2.2.1.trans (k2.less (fun b a=>qJ _ a))) (fun b a=>(ab.out.1 b a).1));clear d2 k2;go_wp2;go_ret;rw[P.out,Q.out];exact⟨⟨rfl,I.out.1,I.out.2.1⟩,I.out.2.2⟩
  case pos =>
   have ag:=ar.out.mono (fun e w' h=>(h.resolve_right (fun q=>q.1 ho)).2);unfold rp at ag;have bp:=qQ ag;have e0:v7 D n 0 (jo S R c)=uU (uI D n) (jo S R c):=(by unfold v7;rw[qZ (by decide),qZ (fun q=>q ho)]);have aK:bF S D n 0 R c=if (uU (uI D n) (jo S R c)).1=0 then fI S R c (Qj D n) S.mem else S:=by unfold bF;rw[e0]
   have ba:Qj D n=⟨n,tgL (rdW D (ptT n)).1,ldF (rdW D (ptT n)).2.2 n (tgL (rdW D (ptT n)).1)⟩:=rfl;rw[ba]at aK;have P:=qQ (ah.out.symm.trans e0);have Q:=qQ (ai.out.symm.trans aK);have wo:=Jk aF.out (n:Nat);have b3:=qQ wo;clear ho ar ag e0 aK ba wo a0 aF aX ah ai;generalize ldF (rdW D (ptT n)).2.2 n (tgL (rdW D (ptT n)).1)=ft at*;generalize tgL (rdW D (ptT n)).1=fl at*;generalize uI D n=D2 at*;go_wp2_with fail;refine bp.out.mono ?_;rintro e K⟨gt,H,rfl,hp,d2,k2,n2⟩;have K2:jE (Fm++(Gr++(Gk++E))) w K:=ab.out.2.2.1.trans (k2.less (fun b a=>qJ _ a));have c4:=(K2.xW g.out.xW (qJ _ (qW _ g.out.own))).cell 4;have hA:=(qU K.1.size K).alloc (qK _) (.cells #[.int .i64 ((n:Int)+1),c,.int .u64 (S.m.seed:Nat),.slice i k j] 47);have BM:=jF.new K 47 #[.int .i64 ((n:Int)+1),c,.int .u64 (S.m.seed:Nat),.slice i k j];have D3:=d2.more api hA (B:=[K.1.size]) (fun b a=>by rw[qH.1 a];exact⟨qK _,BM.lt⟩);have K3:jE (H++(G2++(Fm++(Gr++(Gk++E))))) K (K.alloc (.cells #[.int .i64 ((n:Int)+1),c,.int .u64 (S.m.seed:Nat),.slice i k j] 47)):=jE.xA hA d2.lt;obtain⟨gb,b8⟩:∃gb,K.1.size=gb:=⟨_,rfl⟩
   rw[b8]at BM D3;obtain⟨F,cc⟩:∃F,K.alloc (.cells #[.int .i64 ((n:Int)+1),c,.int .u64 (S.m.seed:Nat),.slice i k j] 47)=F:=⟨_,rfl⟩
   rw[cc]at BM D3 K3 hA;have aC:=qQ (show w.1.size<=gb from by have:=K2.size;omega);have P3:=qQ (hp.below hA);have D4:=D3.drew api;have aH:bE F.drew (.slice i k j) R G2:=(ab.out.2.1.step (k2.less (fun b a=>qW _ a))).step ((K3.less (fun b a=>qJ _ (qW _ a))).drew);have a5:∀b∈G2,b∈[gb]++(H++(G2++(Fm++(Gr++(Gk++E))))):=fun b a=>qJ _ (qJ _ (qW _ a))
   have HO:df w0 ([gb]++(H++(G2++(Fm++(Gr++(Gk++E)))))) F.drew (.slice i k j) R:=fun W _ au=>aH W (au.less a5)
   have aE:=qQ (iap.swap ((n:Int)+1) c S.m.seed i k j R D4 b3.out HO HK.out HR.out HL.out b2.out);have K4:jE (Fm++(Gr++(Gk++E))) w F.drew:=(K2.trans (K3.less (fun b a=>qJ _ (qJ _ a)))).drew;have aY:=qQ K4;have bn:=qQ aH;have aW:=qQ BM
   have a4:∀b∈[gb]++(H++G2),w.1.size<=b:=fun b a=>by
    have:=ab.out.2.2.2.size;rcases qE.1 a with q|q
    ·rw[qH.1 q];exact aC.out
    ·rcases qE.1 q with q|q
     ·have:=n2 b q;omega
     ·exact(ab.out.1 b q).1
   have aZ:=qQ a4;have c1:F.drew.cell? ⟨gx,1,none⟩=some (ptr gd):=(K4.xW g.out.xW (qJ _ (qW _ g.out.own))).cell 1;obtain⟨m0,m1,m2,m3⟩:=lB BM;have ct:F.drew.cell? ⟨gx,1,none⟩=some (ptr gd)/\F.drew.cell? ⟨gb,0,none⟩=some (.int .i64 ((n:Int)+1))/\F.drew.cell? ⟨gb,1,none⟩=some (.int .i64 c)/\F.drew.cell? ⟨gb,2,none⟩=some (.int .u64 (S.m.seed:Nat))/\F.drew.cell? ⟨gb,3,none⟩=some (.slice i k j):=⟨c1,m0,m1,m2,m3⟩
   have a3:jo S R c=⟨(n:Int)+1,c,S.m.seed,R⟩:=(by unfold jo;rw[HN.out]);rw[a3]at P Q;unfold y9 at aE;unfold kc at aE;clear hA D3 K3 K2 D4 aH HO K4 BM a4 c1 m0 m1 m2 m3 hp d2 k2 n2 a5 a3;generalize ca:uU D2 ⟨(n:Int)+1,c,S.m.seed,R⟩=sp at*
   have bi:Hid (∀W,jE ([gb]++(H++(G2++(Fm++(Gr++(Gk++E)))))) F.drew W->W.cell? ⟨gx,1,none⟩=some (ptr gd)/\W.cell? ⟨gb,0,none⟩=some (.int .i64 ((n:Int)+1))/\W.cell? ⟨gb,1,none⟩=some (.int .i64 c)/\W.cell? ⟨gb,2,none⟩=some (.int .u64 (S.m.seed:Nat))/\W.cell? ⟨gb,3,none⟩=some (.slice i k j)):=qQ fun W au=>by
    have B1:=(aY.out.trans (au.less (fun b a=>qJ _ (qJ _ (qJ _ a))))).xW g.out.xW (qJ _ (qW _ g.out.own));have B2:=au.xW aW.out.drew (qW _ qC);exact⟨B1.cell 1,lB B2⟩
   clear ca;go_wp2_with fail
   go_region_held3 (fun W=>W.cell? ⟨gx,1,none⟩=some (ptr gd)/\W.cell? ⟨gb,0,none⟩=some (.int .i64 ((n:Int)+1))/\W.cell? ⟨gb,1,none⟩=some (.int .i64 c)/\W.cell? ⟨gb,2,none⟩=some (.int .u64 (S.m.seed:Nat))/\W.cell? ⟨gb,3,none⟩=some (.slice i k j))
    (first|(with_reducible assumption)|fail)
    (first
    | (go_at_call 180;((with_reducible refine aE.out.mono ?_);rintro e o⟨rfl,M,k4⟩;have aL:=bi.out o k4))
    | fail)
   obtain⟨bb,D5⟩:=sp;simp only at M aL P Q
   have O:DS At w0 gd D5 (([gb]++(H++G2))++(Fm++(Gr++(Gk++E)))) o:=by
    rw[qn,qn];exact M
   have K5:jE (Fm++(Gr++(Gk++E))) w o:=aY.out.trans (k4.less (fun b a=>qJ _ (qJ _ (qJ _ a))));have ac:bE o (.slice i k j) R G2:=bn.out.step (k4.less (fun b a=>qJ _ (qJ _ (qW _ a))));have P5:=P3.out.drew.keep k4 (fun b a=>qJ _ (qW _ a));have ap:=k4.xW aW.out.drew (qW _ qC);by_cases aS:bb=0
   case neg =>
    have t1:((bb:Int) != 0)=true:=(by simp;omega);have I:=qQ (aB.out D5 o _ O K5 aZ.out);have aq:=qQ (show tx=S from by rw[Q.out];exact qZ aS);clear M O k4 K5 ac P5 ap aS aL;go_wp2;go_ret;rw[P.out,aq.out];exact⟨⟨rfl,I.out.1,I.out.2.1⟩,I.out.2.2⟩
   case pos =>
    subst aS;have az:=mY (.slice i k j) R o ac.now HR.out HL.out;unfold bQ at az;have aV:=qQ az;have H5:=qQ (qG O (qG K5 (qG ac (qG P5 ap))));obtain⟨U,aO⟩:∃U,U=R.flatten.length:=⟨_,rfl⟩
    rw[<-aO]at aV;have ck:=qQ aO;clear M O k4 K5 ac P5 ap aL az aO;go_wp2_with fail;refine aV.out.mono ?_;rintro e w5⟨A6,ad,rfl,r6,b6⟩;have al:=(qU w5.1.size w5).alloc (qK _) (.cells #[.slice A6 U ad] 37);have B6:=jF.new w5 37 #[.slice A6 U ad];obtain⟨g6,b7⟩:∃g6,w5.1.size=g6:=⟨_,rfl⟩
    rw[b7]at B6;obtain⟨w6,ce⟩:∃w6,w5.alloc (.cells #[.slice A6 U ad] 37)=w6:=⟨_,rfl⟩
    rw[ce]at al B6;have aJ:Below o.1.size o w6:=b6.trans (al.mono b6.size);have av:=H5.out.1.lt;have aG:jE (([gb]++(H++G2))++(Fm++(Gr++(Gk++E)))) o w6:=jE.xA aJ av;have K6:jE (Fm++(Gr++(Gk++E))) w w6:=H5.out.2.1.trans (aG.less (fun b a=>qJ _ a));have aj:=K6.xW g.out.xW (qJ _ (qW _ g.out.own));have c6:=aj.cell 6;have co:=aj.frozen 6;have R6:=K6.xj g.out.row (fun b a=>qJ _ (qW _ (g.out.xq b a)));have T6:=g.out.xO.keep K6 (fun b a=>qJ _ (qJ _ (qW _ a)));have I6:kF w6 (.slice A6 U ad) R.flatten:=(jd.xE r6).below al (qK _);have aQ:∀b∈jL (.slice A6 U ad),o.1.size<=b/\b<w5.1.size:=fun b a=>r6.lt b (jt.1 a)
    have an:∀b∈jL (.slice B y.length c2),b∈Gr/\b<o.1.size:=fun b a=>⟨g.out.xq b a,av b (qJ _ (qJ _ (qW _ (g.out.xq b a))))⟩
    have bk:=qQ (qJC (E:=Gk++(g6::jL (.slice A6 U ad))) T6 R6 B6 I6 (by have:=HR.out;omega) (by rw[g.out.xO.1];exact a2.out) (fun b a=>qW _ a) (qJ _ qC) (fun b a=>qJ _ (qF _ a)) (fun b a=>by
     have z5:=b6.size;have z6:=al.size;rcases qE.1 a with q|q
     ·refine⟨fun v=>(X.out.2.2.1 b (an b v).1).1 q, ?_⟩;have:=av b (qJ _ (qJ _ (qJ _ (qW _ q))));omega
     ·rcases qL.1 q with e|q
      ·refine⟨fun v=>?_,by rw[e];exact B6.lt⟩;have:=(an b v).2;omega
      ·refine⟨fun v=>?_,by have:=(aQ b q).2;omega⟩;have:=(an b v).2;have:=(aQ b q).1;omega))
    have aD:=qQ (show gx ∉ jL (.slice B y.length c2) from fun v=>vJ R6 aj Jv (jt.1 v));have b0:=qQ (fun(b:Nat) (a:b∈jL (.slice B y.length c2))=>(show b<w.1.size from X.out.1.lt b (qJ _ (qW _ (an b a).1))));have aA:=qQ (qG aJ (qG aG (qG K6 aj)));have cu:∀(fn:Fn) (first ak:Array Value) (w:World),(Instr.makeFunc fn first ak).run prog w=.ok (.func fn first ak) w:=fun _ _ _ _=>rfl
    clear r6 b6 al B6 aJ av aG K6 aj R6 T6 I6 aQ an;go_wp2_with fail;refine bk.out.mono ?_;rintro e w7⟨u,rfl,r7,o7,t7⟩;obtain⟨V,Y,rfl,-,-,-⟩:=r7.form
    have b9:(cl y S.T R.flatten).length<=1000:=by
     unfold cl;rw[qz];refine qR (List.length_filter_le _ _) ?_;rw[List.length_zip];have:=a2.out;omega
    obtain⟨d,aw⟩:∃d,d=(cl y S.T R.flatten).length:=⟨_,rfl⟩
    rw[<-aw]at r7 o7;rw[<-aw];have X7:=aA.out.2.2.2.xC t7 aD.out;have x6:=X7.cell 6;have f6:=X7.frozen 6;have X8:=X7.put 6 (.slice V d Y);have a6:(Value.slice V d Y).ownBlock≠some gx:=fun e=>aD.out (by rw[<-o7];exact jt.2 e)
    have r8:vt (w7.setCell ⟨gx,6,none⟩ (.slice V d Y)) w0.1.size (.slice V d Y) (cl y S.T R.flatten):=vu (p:=⟨gx,6,none⟩) r7 a6 _;have t8:jH (gx::jL (.slice B y.length c2)) o (w7.setCell ⟨gx,6,none⟩ (.slice V d Y)):=(((jH.xA aA.out.1).more (fun x hx=>by cases hx)).trans t7 (fun x hx=>qX (qF _ hx))).setCell (p:=⟨gx,6,none⟩) (qX qC) _;have aM:gb ∉ jL (.slice B y.length c2):=fun v=>by have:=b0.out gb v;have:=aC.out;omega
    have aN:gx≠gb:=fun e=>by
     have h1:=X.out.1.lt gx (qJ _ (qW _ g.out.own));have:=aC.out;omega
    have M8:=((jF.below H5.out.2.2.2.2 aA.out.1).xC t7 aM).xF (p:=⟨gx,6,none⟩) (fun e=>aN e.symm) (.slice V d Y);obtain⟨w8,ci⟩:∃w8,w7.setCell ⟨gx,6,none⟩ (.slice V d Y)=w8:=⟨_,rfl⟩
    rw[ci]at r8 t8 X8 M8;have c6:=X8.cell 6;have a_:w0.1.size<=w8.1.size:=(by have:=X.out.1.kept.size;have:=H5.out.2.1.size;have:=t8.size;omega);obtain⟨z,C,w9,e9,r9,t9,o9⟩:=C7 gt 108 r8 aw (by omega) a_;have X9:=X8.xC t9 (fun v=>aD.out (by rw[<-o7];exact v));have M9:=M8.xC t9 (fun v=>aM (by rw[<-o7];exact v));have y6:=X9.cell 6;have g9:=X9.frozen 6;have s:=X9.put 6 (.slice z (d+1) C);have aI:=M9.xF (p:=⟨gx,6,none⟩) (fun e=>aN e.symm) (.slice z (d+1) C);have a7:(Value.slice z (d+1) C).ownBlock≠some gx:=vJ r9 X9 Jv;have aa:vt (w9.setCell ⟨gx,6,none⟩ (.slice z (d+1) C)) w0.1.size (.slice z (d+1) C) (cl y S.T R.flatten++[gt]):=vu (p:=⟨gx,6,none⟩) r9 a7 _;have ao:jH (gx::jL (.slice B y.length c2)) o (w9.setCell ⟨gx,6,none⟩ (.slice z (d+1) C)):=(t8.trans t9 (fun x hx=>qX (qF _ (by rw[<-o7];exact hx)))).setCell (p:=⟨gx,6,none⟩) (qX qC) _
    have bv:=qQ (fun(b:Nat) (a:b∈jL (.slice z (d+1) C))=>(show b∈jL (.slice B y.length c2)∨(o.1.size<=b/\b<w9.1.size) from by
     rcases o9 b a with q|q
     ·exact qX (by rw[<-o7];exact q)
     ·exact qY ⟨qR t8.size q.1,q.2⟩))
    have bm:=qQ e9;have ae:(w9.setCell ⟨gx,6,none⟩ (.slice z (d+1) C)).1.size=w9.1.size:=(by simp[World.setCell]);obtain⟨af,cb⟩:∃af,w9.setCell ⟨gx,6,none⟩ (.slice z (d+1) C)=af:=⟨_,rfl⟩
    rw[cb]at aa ao s aI ae;obtain⟨m0,m1,m2,m3⟩:=lB aI;have z2:=s.cell 2;have z3:=s.cell 3;have z4:=s.cell 4;have z5:=s.cell 5;have v2:=s.frozen 2;have v3:=s.frozen 3;have v4:=s.frozen 4;have v5:=s.frozen 5;have b4:=qQ (qG s (qG aa (qG ao ae)));clear r7 o7 t7 b9 X7 X8 a6 r8 t8 aM aN M8 a_ e9 r9 t9 o9 X9 M9 s aI a7 aa ao ae aw;go_wp2_with (first|(at_builtin;refine yK rfl _ _ rfl rfl rfl bm.out ?_)|fail);go_ret;have aq:=Q.out;rw[qV (by trivial)]at aq;rw[P.out,aq];obtain⟨s,aa,ao,ae⟩:=b4.out;have q1:=aa
    have F1:jF ((((af.setCell ⟨gx,2,none⟩ (.int .i64 ((n:Int)+1))).setCell ⟨gx,3,none⟩ (.int .i64 c)).setCell ⟨gx,4,none⟩ (.int .u64 (S.m.seed:Nat))).setCell ⟨gx,5,none⟩ (.slice i k j)) gx 111 #[ptr gx,ptr gd,.int .i64 (S.m.next+1),c,.int .u64 (S.m.seed:Nat),.slice i k j,.slice z (d+1) C,.float .f64 r,mtp gm]:=by
     rw[HN.out];exact(((s.put 2 _).put 3 _).put 4 _).put 5 _
    have ax:(Value.slice z (d+1) C).ownBlock≠some gx:=vJ aa s Jv;have F2:vt ((((af.setCell ⟨gx,2,none⟩ (.int .i64 ((n:Int)+1))).setCell ⟨gx,3,none⟩ (.int .i64 c)).setCell ⟨gx,4,none⟩ (.int .u64 (S.m.seed:Nat))).setCell ⟨gx,5,none⟩ (.slice i k j)) w0.1.size (.slice z (d+1) C) (cl y S.T R.flatten++[gt]):=vu (vu (vu (vu aa ax _) ax _) ax _) ax _;have F3:jH (gx::jL (.slice B y.length c2)) o ((((af.setCell ⟨gx,2,none⟩ (.int .i64 ((n:Int)+1))).setCell ⟨gx,3,none⟩ (.int .i64 c)).setCell ⟨gx,4,none⟩ (.int .u64 (S.m.seed:Nat))).setCell ⟨gx,5,none⟩ (.slice i k j)):=(((ao.setCell (p:=⟨gx,2,none⟩) (qX qC) _).setCell (p:=⟨gx,3,none⟩) (qX qC) _).setCell (p:=⟨gx,4,none⟩) (qX qC) _).setCell (p:=⟨gx,5,none⟩) (qX qC) _;have F4:((((af.setCell ⟨gx,2,none⟩ (.int .i64 ((n:Int)+1))).setCell ⟨gx,3,none⟩ (.int .i64 c)).setCell ⟨gx,4,none⟩ (.int .u64 (S.m.seed:Nat))).setCell ⟨gx,5,none⟩ (.slice i k j)).1.size=w9.1.size:=(by simp only[World.setCell,Array.size_modify]at ae ⊢;exact ae);obtain⟨O,K5,ac,P5,ap⟩:=H5.out;obtain⟨d1,d3,M,b5,d6⟩:=X.out
    have HT:=qJF (N:=[gb]++(H++G2)) (G2:=G2) (H:=H) api g.out d1 d3 M b5 d6 O K5 aZ.out ac (fun b a=>qJ _ (qJ _ a)) P5 (fun b a=>qJ _ (qW _ a)) HN.out F3 F1 F2 (fun b a=>by
     rcases bv.out b a with q|q
     ·exact qX q
     ·exact qY ⟨q.1,by rw[F4];exact q.2⟩)
    exact⟨⟨rfl,HT⟩,(F1.cell 8).trans (g.out.xW.cell 8).symm⟩
end
def vy(D:jD)(n:Nat)(l:List jC)(t:Tw)(a:Nat)(m:kJ):Nat × jD :=
 if (kA D n l t).1≠0 then kA D n l t
 else if (v7 (kA D n l t).2 n a m).1≠0 then((v7 (kA D n l t).2 n a m).1,(uW (v7 (kA D n l t).2 n a m).2 n).2)
 else v7 (kA D n l t).2 n a m
noncomputable def uZ (S:IxS)(D:jD)(n:Nat)(l:List jC)(t:Tw)(b:Nat)(R:LvL)(a:Int):IxS:=if (kA D n l t).1≠0 then S else bF S (kA D n l t).2 n b R a
theorem Jy{D:jD}(h:WfP D)(n a:Nat)(m:kJ):WfP (v7 D n a m).2:=by
 unfold v7;split
 ·exact h
 ·split
  ·exact Jk h _
  ·exact Mp (Jk h _) m
section
variable {At:jR}(api:jS At)(nap:jw)(iap:uy At){w0 w w':World}{gd gx r:Nat}{S:IxS}{D:jD}{E:List Nat}
theorem jf.zf{D':jD}(h:jf At w0 gd gx r S D E w){P:Program}{f:FuncId}{args:Array Value}{Q:Ending->World->Prop}
  (s:∀E',(∀b∈E,b∈E')->DS At w0 gd D E' w->Calls P f args w fun e w'=>DS At w0 gd D' E' w'/\jE E' w w'/\Q e w'):Calls P f args w fun e w'=>jf At w0 gd gx r S D' E w'/\jE E w w'/\mB gx w w'/\Q e w':=by
 obtain⟨Fm,Gr,Gk,g,i,j,m,o,p⟩:=h;obtain⟨v,A,u,B,c2,y,c⟩:=i.cells;refine(s _ (fun b a=>qJ _ (qJ _ (qJ _ a))) g).mono ?_;rintro e w'⟨d,k,q⟩;refine⟨jf.back (N:=[]) i g j m o p d k (fun b a=>by cases a),k.less (fun b a=>qJ _ (qJ _ (qJ _ a))), ?_,q⟩;exact((k.xW c.xW (qJ _ (qW _ c.own))).cell 8).trans (c.xW.cell 8).symm
include api nap iap
theorem Cz(h:jf At w0 gd gx r S D E w)(I:WfP D)(p:D.down=false)(hc:D.count<=1000000000)(n:Nat)(hn:S.m.next=(n:Nat))(ab:n<=999999)(am:S.m.seed<18446744073709551616)(hr:r<18446744073709551616)
  (v:Value) (l:List jC) (hv:kC w v l) (ay:∀b∈jL v,b∈E) (hl:l.length<=1000) (aj:∀x∈l,kz x) (F:ux l=true)
  (a:Int) (f:FuncId) (C:Array Value) (hE:Enters prog f) (R:LvL) (c:Nat)
  (al:∀W D',jf At w0 gd gx r S D' E W->jE E w W->Calls prog f (#[.int .i64 (n:Nat)]++C) W (dW W R (c:Nat))) (hR:R.flatten.length<=100000) (hL:R.length<=100000)
  (ak:∀t,bG l r t->(kA D n l t).1=0->(tgL (rdW (kA D n l t).2 (ptT n)).1).length<=10000) (hT:S.T.length<=1000):
  Calls prog 64 #[ptr gx,v,a,.func (.func f) #[] C] w fun e w'=>∃t,bG l r t/\nH At w0 gd gx r (err (vy D n l t c (jo S R a)).1) (uZ S D n l t c R a) (vy D n l t c (jo S R a)).2 E w e w'/\mB gx w w':=by
 have hI:=h;obtain⟨Fm,Gr,Gk,U,X,d3,s,d5,d6⟩:=h;obtain⟨gm,A,cp,B,c2,ps,u⟩:=X.cells;obtain⟨c0,c1,au,-,-,-,-,c7,-⟩:=u.cs;rw[hn]at au;have wn:(Lit.int .i64 (n:Nat)).wf=true:=WalkArith.wf_i64 (by omega);have an:kC w.drew v l:=hv.below (qU _ _).drew (qK _);have g:=qJ0 api nap (U.drew api) I (n:Nat) wn v l an hl aj r hr (ZL ab) F p;have Q:=qQ g;have ax:w.drew.cell? ⟨gx,1,none⟩=some (ptr gd)/\w.drew.cell? ⟨gx,7,none⟩=some (.float .f64 r):=⟨c1,c7⟩
 have HI:=qQ hI
 have ad:Hid (∀(D':jD) (W:World),DS At w0 gd D' (Fm++(Gr++(Gk++E))) W->jE (Fm++(Gr++(Gk++E))) w.drew W->jf At w0 gd gx r S D' E W/\jE E w W/\(W.cell? ⟨gx,1,none⟩=some (ptr gd)/\W.cell? ⟨gx,7,none⟩=some (.float .f64 r))/\mB gx w W):=qQ fun D' W p Z=>by
  have aa:jE (Fm++(Gr++(Gk++E))) w W:=(jE.refl _ w).drew.trans Z;have J:=aa.xW u.xW (qJ _ (qW _ u.own));exact⟨jf.back (N:=[]) X U d3 s d5 d6 p aa (fun b Y=>by cases Y),aa.less (fun b Y=>qJ _ (qJ _ (qJ _ Y))),⟨J.cell 1,J.cell 7⟩,(J.cell 8).trans (u.xW.cell 8).symm⟩
 have af:Hid (∀t,bG l r t->(kA D n l t).1=0->∀W,jf At w0 gd gx r S (kA D n l t).2 E W->jE E w W->Calls prog 112 #[ptr gx,n,a,.func (.func f) #[] C] W fun e w'=>(nH At w0 gd gx r (err (v7 (kA D n l t).2 n c (jo S R a)).1) (bF S (kA D n l t).2 n c R a) (v7 (kA D n l t).2 n c (jo S R a)).2 E W e w'/\mB gx W w')):=qQ fun t F h0 W g Z =>
  qJ1 api nap iap g (ri I _ _ _) (by rw[(qZt D n l t).count];exact hc) n hn ab am a f C hE R c (al W _ g Z) hR hL (ak t F h0) hT
 have ae:Hid (∀t (o:IxS) W,jf At w0 gd gx r o (v7 (kA D n l t).2 n c (jo S R a)).2 E W->Calls prog 74 #[ptr gd,n] W fun e w'=>jf At w0 gd gx r o (uW (v7 (kA D n l t).2 n c (jo S R a)).2 n).2 E w'/\jE E W w'/\mB gx W w'/\e=.returned (err (uW (v7 (kA D n l t).2 n c (jo S R a)).2 n).1)):=qQ fun t o W g =>
  g.zf (fun E' _ p=>(Cx api nap p (Jy (ri I _ _ _) _ _ _) (n:Nat) wn).mono fun e w' h=>⟨h.2.1,h.2.2,h.1⟩)
 have aq:Hid (∀(o:IxS) (D':jD) W,jf At w0 gd gx r o D' E W->W.cell? ⟨gx,1,none⟩=some (ptr gd)):=qQ fun o D' W g=>by
  obtain⟨_,_,_,_,aw,_⟩:=g;obtain⟨_,_,_,_,_,_,av⟩:=aw.cells;exact av.cs.2.1
 obtain⟨Av,ov,cv,rfl,-,-⟩:=hv.form;obtain⟨nv,ai⟩:∃nv,nv=l.length:=⟨_,rfl⟩
 rw[<-ai]at Q ⊢;clear hI U X u d3 s d5 d6 I p hc hn ab am hr hv ay hl aj F hE al hR hL ak hT wn an g ai c0;go_enter func64,ntmps64;go_wp2_with fail
 go_region_held3 (fun W=>W.cell? ⟨gx,1,none⟩=some (ptr gd)/\W.cell? ⟨gx,7,none⟩=some (.float .f64 r))
  (first|(with_reducible assumption)|fail)
  (first
  | (go_at_call 111;((with_reducible refine Q.out.mono ?_);rintro e w4⟨t,ah,rfl,s,k4⟩;have V:=ad.out _ w4 s k4;have ag:=V.2.2.1))
  | fail)
 have j:=qQ V;have y:=qQ ah;clear V s k4 ah Q ad ax;by_cases d:(kA D n l t).1=0
 case neg =>
  have H:(((kA D n l t).1:Int) != 0)=true:=by simp;omega
  have i:Hid (vy D n l t c (jo S R a)=kA D n l t/\uZ S D n l t c R a=S):=qQ ⟨by unfold vy;rw[qV d],by unfold uZ;rw[qV d]⟩;clear d ag;have HQ:=qQ (show ∀z,(kA D n l t).1=z->(kA D n l t).1=z from fun z h=>h);obtain⟨z,hz⟩:∃z,(kA D n l t).1=z:=⟨_,rfl⟩
  have HZ:=qQ hz;rw[hz]at H ⊢;clear hz;go_wp2;go_ret;refine⟨t,y.out, ?_⟩;rw[i.out.1,i.out.2,HZ.out];exact⟨⟨rfl,j.out.1,j.out.2.1⟩,j.out.2.2.2⟩
 case pos =>
  have H:(((kA D n l t).1:Int) != 0)=false:=by rw[d];rfl
  have O:=af.out t y.out d w4 j.out.1 j.out.2.1;have M:=qQ (ae.out t);unfold nH at O;have P:=qQ O;have i:Hid (((v7 (kA D n l t).2 n c (jo S R a)).1=0->vy D n l t c (jo S R a)=v7 (kA D n l t).2 n c (jo S R a))/\((v7 (kA D n l t).2 n c (jo S R a)).1≠0->vy D n l t c (jo S R a)=((v7 (kA D n l t).2 n c (jo S R a)).1,(uW (v7 (kA D n l t).2 n c (jo S R a)).2 n).2))/\uZ S D n l t c R a=bF S (kA D n l t).2 n c R a):=qQ ⟨fun q=>by unfold vy;rw[qZ (fun h=>h d),qZ (fun h=>h q)],fun q=>by unfold vy;rw[qZ (fun h=>h d),qV q],by unfold uZ;rw[qZ (fun h=>h d)]⟩;rw[d];clear af ae O d H ag;generalize bF S (kA D n l t).2 n c R a=tx at*;generalize v7 (kA D n l t).2 n c (jo S R a)=tp at*;obtain⟨ao,D5⟩:=tp;simp only at P M i;go_wp2_with fail;refine P.out.mono ?_;rintro e w5⟨⟨rfl,i5,k5⟩,s5⟩;have k:=qQ (qG i5 (qG (j.out.2.1.trans k5) (s5.trans j.out.2.2.2)));have c1:=aq.out _ _ _ i5;clear i5 k5 s5 P;by_cases ac:ao=0
  case pos =>
   subst ac;go_wp2;go_ret;refine⟨t,y.out, ?_⟩;rw[i.out.1 (by trivial),i.out.2.2];exact⟨⟨rfl,k.out.1,k.out.2.1⟩,k.out.2.2⟩
  case neg =>
   have H:((ao:Int) != 0)=true:=(by simp;omega);have ar:=qQ ac;have ap:=qQ (M.out tx w5 k.out.1);clear ac M;go_wp2_with fail;refine ap.out.mono ?_;rintro e w6⟨i6,k6,s6,rfl⟩;have K:=qQ (qG i6 (qG (k.out.2.1.trans k6) (s6.trans k.out.2.2)));clear i6 k6 s6;go_wp2;go_ret;refine⟨t,y.out, ?_⟩;rw[i.out.2.1 ar.out,i.out.2.2];exact⟨⟨rfl,K.out.1,K.out.2.1⟩,K.out.2.2⟩
end
theorem qJ2(L:LvL)(n:Int):(kI L n).length<=5/\(kI L n).flatten.length<=41:=by
 by_cases h:vo L n=0
 ·have:=KY h;exact⟨this.1.1,by have:=this.1.2.1;omega⟩
 ·unfold kI;rw[qZ h];exact⟨qI _,qI _⟩
theorem qJ3(L:LvL)(k n:Int):(kq L k n).length<=5/\(kq L k n).flatten.length<=41:=by
 by_cases h:yA L k n=0
 ·have:=KU h;exact⟨this.1.1,by have:=this.1.2.1;omega⟩
 ·unfold kq;rw[qZ h];exact⟨qI _,qI _⟩
section
variable {At:jR}(api:jS At){w0 w W:World}{gd gx r gb gk:Nat}{S:IxS}{D:jD}{E:List Nat}
theorem jf.xg(h:jf At w0 gd gx r S D E w):∃A cp,w.cell? ⟨gx,5,none⟩=some (.slice A S.m.lv.length cp)/\kh w (.slice A S.m.lv.length cp) S.m.lv:=by
 obtain⟨Fm,Gr,Gk,-,b,-⟩:=h;obtain⟨c,A,cp,B,c2,d,a⟩:=b.cells;exact⟨A,cp,a.cs.2.2.2.2.2.1,a.lv.now⟩
theorem qJ4(h:jf At w0 gd gx r S D E W)(b:vX S.m)(i:jF W gb 71 #[ptr gx])(n:Int)(k:Nat)(j:vo S.m.lv n=(k:Nat)):
  Calls prog 67 (#[.int .i64 n]++#[ptr gb]) W (dW W (kI S.m.lv n) (k:Nat)):=by
 obtain⟨A,y,v,o⟩:=h.xg;have u:=i.cell 0;have a:=qQv _ S.m.lv n W o (by have:=b.2.2.2.2.1.2.1;omega) (by have:=b.2.2.2.2.1.1;omega);rw[j]at a;unfold dW at a ⊢;have f:=qQ a;show Calls prog 67 #[n,ptr gb] W _;obtain⟨m,c⟩:∃m,m=(kI S.m.lv n).length:=⟨_,rfl⟩
 have s:=qQ c;rw[<-c]at f ⊢;clear h b i j o a c;generalize kI S.m.lv n=R at*;go_enter func67,ntmps67;go_wp2_with fail;refine f.out.mono ?_;rintro e z⟨q,c1,rfl,p,g⟩;have d:=qQ (qG p g);clear p g;go_wp2;go_ret2;exact⟨q,c1,rfl,d.out.1,d.out.2⟩
theorem qJ5(h:jf At w0 gd gx r S D E W)(j:vX S.m)(u:jF W gb 71 #[ptr gx])(a:Int)(v:jF W gk 3 #[a])(n:Int)(k:Nat)(y:yA S.m.lv a n=(k:Nat)):
  Calls prog 72 (#[.int .i64 n]++#[ptr gb,ptr gk]) W (dW W (kq S.m.lv a n) (k:Nat)):=by
 obtain⟨A,i,g,z⟩:=h.xg;have c:=u.cell 0;have f:=v.cell 0;have b:=qQg _ S.m.lv a n W.drew (z.below (qU _ _).drew (qK _)) (by have:=j.2.2.2.2.1.2.1;omega) (by have:=j.2.2.2.2.1.1;omega);rw[y]at b;unfold dW at b ⊢;have s:=qQ b;show Calls prog 72 #[n,ptr gb,ptr gk] W _;obtain⟨m,o⟩:∃m,m=(kq S.m.lv a n).length:=⟨_,rfl⟩
 have K:=qQ o;rw[<-o]at s ⊢;have M:W.drew.cell? ⟨gb,0,none⟩=some (ptr gx)/\W.drew.cell? ⟨gk,0,none⟩=some (.int .i64 a)/\W.drew.cell? ⟨gx,5,none⟩=some (.slice A S.m.lv.length i):=⟨c,f,g⟩
 have F:Hid (∀w',Below W.drew.1.size W.drew w'->w'.cell? ⟨gb,0,none⟩=some (ptr gx)/\w'.cell? ⟨gk,0,none⟩=some (.int .i64 a)/\w'.cell? ⟨gx,5,none⟩=some (.slice A S.m.lv.length i)):=qQ fun w' hw =>
  ⟨(hw.cell (p:=⟨gb,0,none⟩) (World.block_lt_of_cell? W _ c)).trans c,(hw.cell (p:=⟨gk,0,none⟩) (World.block_lt_of_cell? W _ f)).trans f,(hw.cell (p:=⟨gx,5,none⟩) (World.block_lt_of_cell? W _ g)).trans g⟩
 clear h j u v y z b o;generalize kq S.m.lv a n=R at*;generalize S.m.lv.length=I at*;go_enter func72,ntmps72;go_wp2_with fail
 go_region_held3 (fun w'=>w'.cell? ⟨gb,0,none⟩=some (ptr gx)/\w'.cell? ⟨gk,0,none⟩=some (.int .i64 a)/\w'.cell? ⟨gx,5,none⟩=some (.slice A I i))
  (first|(with_reducible assumption)|fail)
  (first
  | (go_at_call 73;((with_reducible refine s.out.mono ?_);rintro e J⟨C,c1,rfl,B,d⟩;have H:=F.out J d))
  | fail)
 have q:=qQ (qG B d);clear B d H;go_wp2;go_ret2;exact⟨C,c1,rfl,q.out.1,(qU _ W).drew.trans q.out.2⟩
end
def dE(f:Nat)(D:jD)(S:IxS)(t:Tw)(n a:Nat)(en:Int):Nat × jD :=
 if f≠0 then(f,D) else if S.mem=[] then(0,D) else vy D n S.mem t a (jo S (kI S.m.lv n) en)
noncomputable def dF (f:Nat)(D:jD)(S:IxS)(t:Tw)(n a:Nat)(en:Int):IxS :=
 if f≠0 then S else if S.mem=[] then S
 else if (vy D n S.mem t a (jo S (kI S.m.lv n) en)).1=0 then { uZ S D n S.mem t a (kI S.m.lv n) en with mem:=[] } else uZ S D n S.mem t a (kI S.m.lv n) en
theorem IxM.zu{w:World}{base gx gd r:Nat}{S:IxS}{Fm Gr Gk:List Nat}(h:IxM w base gx gd r S Fm Gr Gk):∃a,w.cell? ⟨gx,8,none⟩=some (mtp a)/\vZ w base a Fm S.mem:=by
 obtain⟨a,A,c,B,c2,d,b⟩:=h.cells;exact⟨a,b.cs.2.2.2.2.2.2.2.2,b.mem⟩
section
variable {At:jR}(api:jS At)(nap:jw)(iap:uy At){w0 w w':World}{gd gl gx r:Nat}{S:IxS}{D:jD}{E:List Nat}{L:jq}
include api in
theorem qJ6(h:jf At w0 gd gx r S D E w):∃a,w.cell? ⟨gx,8,none⟩=some (mtp a)/\Calls prog 69 #[mtp a] w fun e w'=>e=.returned (.tuple #[])/\jf At w0 gd gx r { S with mem:=[] } D E w'/\jE E w w':=by
 obtain⟨Fm,Gr,Gk,c,o,d,f,g,i⟩:=h;obtain⟨a,A,q,B,c2,s,b⟩:=o.cells;refine⟨a,b.cs.2.2.2.2.2.2.2.2,(PM b.mem).mono ?_⟩;rintro e w'⟨p,rfl,j,k,m⟩;exact⟨rfl,jf.zz api c b d f g i j k m⟩
include api nap iap
theorem qJ7(h:jf At w0 gd gx r S D (gl::E) w)(aL:jF w gl 130 (gW (ptr gl) gd L))(aH:gl ∉ E)(an:w0.1.size<=gl)(wf:WfP D)(aF:L.chunks<=200)
  (U:WfP (yJ D L).2.1) (Q:(yJ D L).2.1.down=false) (P:(yJ D L).2.1.count<=1000000000) (ok:kB D S) (n:Nat) (hn:S.m.next=(n:Nat)) (ac:n<=999999) (hr:r<18446744073709551616) (hl:S.mem.length<=1000)
  (d:Nat) (ae:vo S.m.lv n=(d:Nat)) (T:∀t,bG S.mem r t->(kA (yJ D L).2.1 n S.mem t).1=0->(tgL (rdW (kA (yJ D L).2.1 n S.mem t).2 (ptT n)).1).length<=10000):
  Calls prog 36 #[ptr gx,ptr gl] w fun e w'=>∃t,(S.mem=[]∨(yJ D L).1≠0∨bG S.mem r t)/\e=.returned (err (dE (yJ D L).1 (yJ D L).2.1 S t n d (yJ D L).2.2.endp).1) /\
   jf At w0 gd gx r (dF (yJ D L).1 (yJ D L).2.1 S t n d (yJ D L).2.2.endp) (dE (yJ D L).1 (yJ D L).2.1 S t n d (yJ D L).2.2.endp).2 (gl::E) w'/\jF w' gl 130 (gW (ptr gl) gd (yJ D L).2.2)/\jE E w w':=by
 have a:=(qU w.1.size w).alloc (qK _) (.cells #[ptr gx] 71);have I:=jF.new w 71 #[ptr gx];have ay:=qQ h.lt
 have c:=h.xL api (E':=gl::(w.1.size::E)) (B:=[]) (jH.xA a) (fun b a=>by cases a) (fun b o=>by
  rcases qL.1 o with e|o
  ·rw[e];exact qX qC
  ·rcases qL.1 o with e|o
   ·rw[e];exact qY ⟨qK _,I.lt⟩
   ·exact qX (qF _ o))
 have ar:=qQ (jE.xA a (fun b o=>ay.out b (qF _ o)));have ai:=jF.below aL a;obtain⟨gb,a0⟩:∃gb,w.1.size=gb:=⟨_,rfl⟩
 rw[a0]at c I;obtain⟨w1,a4⟩:∃w1,w.alloc (.cells #[ptr gx] 71)=w1:=⟨_,rfl⟩
 rw[a4]at c I ar ai
 have ak:gl ∉ gb::E:=fun o=>by
  rcases qL.1 o with e|o
  ·have:=ay.out gl qC;omega
  ·exact aH o
 have af:=c.flush api nap ai ak an wf aF
 have aW:Hid (∀(S':IxS) (D':jD) (E':List Nat) W,jf At w0 gd gx r S' D' E' W->W.cell? ⟨gx,0,none⟩=some (ptr gx)):=qQ fun S' D' E' W k=>by
  obtain⟨_,_,_,_,aZ,_⟩:=k;obtain⟨_,_,_,_,_,_,aY⟩:=aZ.cells;exact aY.cs.1
 have c0:=aW.out _ _ _ _ c;have a1:=qQ (od c0);have Z:=I.cell 0;have aR:=qQ I;have J:=qQ ok;have a5:=qQ (qG ak an);generalize yJ D L=ft at*;obtain⟨f,i,j⟩:=ft;simp only at af U Q P T ⊢;have aU:=qQ af;clear h aL aH an wf aF ai c I ok ak af a c0;go_enter func36,ntmps36;go_wp2_with fail;refine X5 a1.out ?_;go_wp2_with fail;refine aU.out.mono ?_;rintro e g⟨rfl,i2,l2,k2⟩;have ag:=qQ (ar.out.trans (k2.less (fun b a=>qF _ a)));have v:=qQ i2;have X:=qQ l2;have B2:=k2.xW aR.out qC;have Z:=B2.cell 0;have ao:=qQ B2;clear i2 l2 k2 B2;by_cases R:f=0
 case neg =>
  have t1:((f:Int) != 0)=true:=by simp;omega
  have s:=qQ (show ∀t,dE f i S t n d j.endp=(f,i)/\dF f i S t n d j.endp=S from fun t=>⟨by unfold dE;rw[qV R],by unfold dF;rw[qV R]⟩);have aT:=qQ R;clear R U Q P hn ac hr hl ae T;go_wp2;go_ret;refine⟨ByteArray.empty,qY (qX aT.out), ?_⟩;rw[(s.out _).1,(s.out _).2]
  exact⟨rfl,v.out.less (fun b a=>by
   rcases qL.1 a with e|a
   ·rw[e];exact qC
   ·exact qF _ (qF _ a)),X.out,ag.out⟩
 case pos =>
  subst R;obtain⟨Fm,Gr,Gk,-,hM,-⟩:=v.out;obtain⟨q,K,hT⟩:=hM.zu;have O:=qQ (PH hT);clear hM hT;by_cases y:S.mem=[]
  ·have s:=qQ (show ∀t,dE 0 i S t n d j.endp=(0,i)/\dF 0 i S t n d j.endp=S from fun t=>⟨by unfold dE;rw[qZ (by decide),qV y],by unfold dF;rw[qZ (by decide),qV y]⟩);have Y:=qQ y;rw[y]at O;have aX:=qQ (show Calls prog 63 #[mtp q] g (X0 (.int .i64 0) g) from O.out);clear y U Q P hn ac hr hl ae T O;go_wp2_with fail;refine X5 aX.out ?_;go_wp2;go_ret;refine⟨ByteArray.empty,qX Y.out, ?_⟩;rw[(s.out _).1,(s.out _).2]
   exact⟨rfl,v.out.less (fun b a=>by
    rcases qL.1 a with e|a
    ·rw[e];exact qC
    ·exact qF _ (qF _ a)),X.out,ag.out⟩
  ·have aK:((S.mem.length:Int)==0)=false:=by
    have:=List.length_pos_iff.2 y;simp;omega
   have aM:∀x∈S.mem,kz x:=J.out.ok;have aP:ux S.mem=true:=Qz J.out.xH J.out.mayE;have ah:=qQ (qG hl (qG aM aP));have Y:=qQ y
   have A:Hid (∀W,Below g.1.size g W->jf At w0 gd gx r S i (gl::(gb::E)) W/\jF W gl 130 (gW (ptr gl) gd j)/\jF W gb 71 #[ptr gx]/\W.cell? ⟨gx,8,none⟩=some (mtp q)/\jE E w W):=qQ fun W k =>
    ⟨v.out.below api k,jF.below X.out k,jF.below ao.out k,(k.cell (p:=⟨gx,8,none⟩) (World.block_lt_of_cell? g _ K)).trans K,ag.out.trans (jE.xA k (fun b a=>v.out.lt b (qF _ (qF _ a))))⟩
   have V:Hid (Calls prog 65 #[mtp q] g.drew (dY g.drew S.mem)):=qQ (by
    obtain⟨Fm,Gr,Gk,-,hM,-⟩:=(v.out).drew api;obtain⟨ab,aa,aE⟩:=hM.zu
    have e:ab=q:=by
     have c:g.cell? ⟨gx,8,none⟩=some (mtp ab):=aa;rw[K]at c;injection c with c;injection c with c;injection c with c;injection c with c;exact c.symm
    rw[e]at aE;exact Pq aE.has (by omega))
   obtain⟨M,ad⟩:∃M,M=S.mem.length:=⟨_,rfl⟩
   have a6:=qQ ad;rw[<-ad]at O aK;unfold dY at V;rw[<-ad]at V;have a7:g.drew.cell? ⟨gb,0,none⟩=some (ptr gx)/\g.drew.cell? ⟨gx,8,none⟩=some (mtp q):=⟨Z,K⟩
   have a8:∀(fn:Fn) (first aA:Array Value) (w:World),(Instr.makeFunc fn first aA).run prog w=.ok (.func fn first aA) w:=fun _ _ _ _=>rfl
   clear y hl aM aP ad;go_wp2_with fail;refine X5 O.out ?_;go_wp2_with fail;have ap:Hid (∀W,jF W gl 130 (gW (ptr gl) gd j)->Calls prog 66 #[ptr gl] W (X0 (.int .i64 (j.endp:Nat)) W)):=qQ fun W k=>Ni (k.cell 0) (k.cell 4)
   have a3:=qJ2 S.m.lv n
   have av:Hid (∀(z:Option Addr) (F:Nat) (W:World),Below g.drew.1.size g.drew W->jy W g.drew.1.size (.slice z M F) S.mem->Calls prog 64 #[ptr gx,.slice z M F,j.endp,.func (.func 67) #[] #[ptr gb]] W fun e w'=>∃t,bG S.mem r t /\
     nH At w0 gd gx r (err (vy i n S.mem t d (jo S (kI S.m.lv n) j.endp)).1) (uZ S i n S.mem t d (kI S.m.lv n) j.endp) (vy i n S.mem t d (jo S (kI S.m.lv n) j.endp)).2 (jL (.slice z M F)++(gl::(gb::E))) W e w'/\mB gx W w'):=qQ fun z F W k aN=>by
    obtain⟨q1,q2,q3,q4,q5⟩:=A.out W ((qU _ g).drew.trans k);have a2:=fo aN;have i3:jf At w0 gd gx r S i (jL (.slice z M F)++(gl::(gb::E))) W:=(v.out.drew api).more api k a2
    exact Cz api nap iap i3 U Q P n hn ac J.out.seed hr _ S.mem aN.xE (fun b a=>qW _ a) ah.out.1 ah.out.2.1 ah.out.2.2 _ _ #[ptr gb] (enters_of func67 (by kernel_rfl) rfl) (kI S.m.lv n) d
     (fun W' D' hi hk=>qJ4 hi J.out.may (hk.xW q3 (qJ _ (qF _ qC))) n d ae) (by omega) (by omega) T (by have:=J.out.xR;omega)
   have s:Hid (∀t,dE 0 i S t n d j.endp=vy i n S.mem t d (jo S (kI S.m.lv n) j.endp)/\dF 0 i S t n d j.endp=(if (vy i n S.mem t d (jo S (kI S.m.lv n) j.endp)).1=0 then { uZ S i n S.mem t d (kI S.m.lv n) j.endp with mem:=[] } else uZ S i n S.mem t d (kI S.m.lv n) j.endp)):=qQ fun t=>⟨by unfold dE;rw[qZ (by decide),qZ Y.out],by unfold dF;rw[qZ (by decide),qZ Y.out]⟩
   have az:Hid (∀W,Below g.drew.1.size g.drew W->W.cell? ⟨gb,0,none⟩=some (ptr gx)/\W.cell? ⟨gx,8,none⟩=some (mtp q)):=qQ fun W k=>by
    obtain⟨q1,q2,q3,q4,q5⟩:=A.out W ((qU _ g).drew.trans k);exact⟨q3.cell 0,q4⟩
   clear aK U Q P hn ac hr ae T Z K a3
   go_region_held3 (fun W=>W.cell? ⟨gb,0,none⟩=some (ptr gx)/\W.cell? ⟨gx,8,none⟩=some (mtp q))
    (first|(with_reducible assumption)|fail)
    (first
    | (go_at_call 65;((with_reducible refine V.out.mono ?_);rintro e H⟨z,F,rfl,r3,C⟩;have aC:=az.out H C;have aq:=qQ (ap.out H (A.out H ((qU _ g).drew.trans C)).2.1);have aw:=qQ (av.out z F H C r3)))
    | (go_at_call 66;((with_reducible refine X5 aq.out ?_)))
    | (go_at_call 64;((with_reducible refine aw.out.mono ?_);rintro e w5⟨t,aG,aI,aO⟩;have aD:w5.cell? ⟨gb,0,none⟩=some (ptr gx)/\w5.cell? ⟨gx,8,none⟩=some (mtp q):=⟨(aI.2.2.xW (A.out H ((qU _ g).drew.trans C)).2.2.1 (qJ _ (qF _ qC))).cell 0,Eq.trans aO aC.2⟩;obtain⟨rfl,aJ,am⟩:=aI))
    | fail)
   all_goals
    have ax:=qQ (am.xW (A.out H ((qU _ g).drew.trans C)).2.1 (qJ _ qC));have au:=qQ ((A.out H ((qU _ g).drew.trans C)).2.2.2.2.trans (am.less (fun b a=>qJ _ (qF _ (qF _ a)))))
    have al:=aJ.less (E':=gl::E) (fun b a=>by
     rcases qL.1 a with e|a
     ·rw[e];exact qJ _ qC
     ·exact qJ _ (qF _ (qF _ a)))
    obtain⟨ab,aa,aj⟩:=qJ6 api al
    have aB:ab=q:=by
     have c:=aD.2.symm.trans aa;injection c with c;injection c with c;injection c with c;injection c with c;exact c.symm
    rw[aB]at aj;have aS:=qQ aj;have aV:=qQ al;have u:=qQ (qG aG (s.out t));obtain⟨Z,K⟩:=aD;clear aJ am al aj aG aa aB aO aC r3 C aw av s aq A az V ap v X ao;generalize uZ S i n S.mem t d (kI S.m.lv n) j.endp=S' at*;generalize vy i n S.mem t d (jo S (kI S.m.lv n) j.endp)=lp at*;obtain⟨aQ,D5⟩:=lp;by_cases hz:aQ=0
    ·subst hz;go_wp2_with fail;refine aS.out.mono ?_;rintro e w6⟨rfl,i6,k6⟩;have H6:=qQ (qG i6 (qG (k6.xW ax.out qC) (au.out.trans (k6.less (fun b a=>qF _ a)))));clear i6 k6;go_wp2;go_ret;refine⟨t,(by first|exact qY u.out.1|exact qY (qY u.out.1)), ?_⟩;rw[u.out.2.1,u.out.2.2,qV (by trivial)];exact⟨rfl,H6.out.1,H6.out.2.1,H6.out.2.2⟩
    ·have t1:((aQ:Int)==0)=false:=(by simp;omega);have HZ:=qQ hz;clear hz;go_wp2;go_ret;refine⟨t,(by first|exact qY u.out.1|exact qY (qY u.out.1)), ?_⟩;rw[u.out.2.1,u.out.2.2,qZ HZ.out];exact⟨rfl,aV.out,ax.out,au.out⟩
end
def Ju(At:jR)(w0:World)(gd gx r:Nat)(S:IxS)(D:jD)(R:List jC)(m:Nat)(E:List Nat)(w:World)(e:Ending)(w':World):Prop :=
 ∃A c k,k<=m/\e=.returned (.tuple #[.slice A R.length c,.int .i64 0])/\jy w' w.1.size (.slice A R.length c) R/\jf At w0 gd gx r S { D with count:=D.count+k } (jL (.slice A R.length c)++E) w'/\jE E w w'
def gH(S:IxS):Nat:=S.mem.length+kr (S.T.map TbS.l)
theorem Cj(q:jC->Bool):∀(T:List TbS),kr (T.map fun t=>t.l.filter q)<=kr (T.map TbS.l)
 | []=>qK _
 | t::T=>by
   rw[List.map_cons,List.map_cons,bU,bU];have:=Cj q T;have:=List.length_filter_le q t.l;omega
theorem Jg{T:List TbS}{t:TbS}(h:t∈T):t.l.length<=kr (T.map TbS.l):=by
 induction T with
 | nil=>cases h
 | cons x T a =>
   rw[List.map_cons,bU];rcases qL.1 h with rfl|h
   ·omega
   ·have:=a h;omega
section
variable {At:jR}(api:jS At)(nap:jw){w0 w w':World}{gd gx r:Nat}{S:IxS}{D:jD}{E:List Nat}
include api nap
theorem qJ8(h:jf At w0 gd gx r S D E w)(ok:kB D S)(M:WfP D)(hc:D.count<=1000000000)(Y:D.down=false)(ht:gH S<=40000)(x:Nat)(hx:x<18446744073709551616)(a b:Int)(wa:(Lit.int .i64 a).wf=true)(wb:(Lit.int .i64 b).wf=true):
  Calls prog 60 #[ptr gx,.int .u64 (x:Nat),a,.int .i64 b] w (Ju At w0 gd gx r S D (vf S x a b) S.T.length E w):=by
 obtain⟨Fm,Gr,Gk,U,hM,d3,d4,I,d6⟩:=h;obtain⟨gm,A,cp,B,c2,C,f⟩:=hM.cells;obtain⟨c0,-,-,-,-,-,c6,-,c8⟩:=f.cs;have aE:=qQ (od c0);have bb:=bounds_i64 wb;have aN:(if (1073741824:Int)<b then 1073741824 else b)=kY b:=by unfold kY;split<;>omega
 have ab:=P9 f.mem.has (by unfold gH at ht;omega) x a (kY b);have ad:=qQ (fun(N:List Nat) (D':jD) (W:World) (Y:DS At w0 gd D' (N++(Fm++(Gr++(Gk++E)))) W) (d:jE (Fm++(Gr++(Gk++E))) w W) (hN:∀b∈N,w.1.size<=b)=>jf.back hM U d3 d4 I d6 Y d hN);have V:∀b∈Gk,b∈Fm++(Gr++(Gk++E)):=fun b c=>qJ _ (qJ _ (qW _ c))
 have X:∀b∈Gr,b∈Fm++(Gr++(Gk++E)):=fun b c=>qJ _ (qW _ c)
 have ac:∀b∈E,b∈Fm++(Gr++(Gk++E)):=fun b c=>qJ _ (qJ _ (qJ _ c))
 have ak:C.length=S.T.length:=f.xO.1;obtain⟨o,ag⟩:∃o,Fm++(Gr++(Gk++E))=o:=⟨_,rfl⟩
 rw[ag]at U ad V X ac;have am:=qQ U
 have HT:=qQ (fun(i g:Nat) (t:TbS) (s:C[i]? = some g) (z:S.T[i]? = some t) (k:Nat) (d:k<=40) (W:World) (N:List Nat) (hW:DS At w0 gd { D with count:=D.count+k } (N++o) W) (aD:jE o w W)=>(show Calls prog 107 #[ptr g,.int .u64 (x:Nat),a,.int .i64 b] W fun e w'=>∃j,j<=1/\mw At w0 gd (vQ t.l x a (kY b)) 0 { D with count:=D.count+k+j } (N++o) W e w' from by
  obtain⟨H,K,v⟩:=f.xO.2 i g t s z;have aa:=qM z;have aL:=Jg aa;have hn:=(ok.xT aa).1;refine(PD api nap hW (K.keep aD (fun b c=>V b (v b c))) (fun b c=>qJ _ (V b (v b c))) ⟨M.synced,M.used,M.cap,M.many⟩ (by show D.count+k<=_;omega) (WalkArith.wf_i64 (by omega)) Y ((ok.has t aa).count _) (ok.keep t aa) (by unfold gH at ht;omega) x hx a b wa wb).mono ?_;rintro e w'⟨j,hj,-,J⟩;exact⟨j,hj,J⟩))
 have HP:=qQ (fun(W:World) (d:jE o w W) (i g:Nat) (s:C[i]? = some g)=>(show ∃F,B=some ⟨F,0,none⟩/\W.cell? ⟨F,i,none⟩=some (ptr g) from by
  obtain⟨B',aI,e,-,-,aA⟩:=vt.form (d.xj f.row (fun b c=>X b (f.xq b c)));obtain⟨rfl,-,-⟩:=Value.slice.inj e;obtain⟨F,e1,-,-,e2⟩:=aA i g s;exact⟨F,e1,e2⟩))
 have ae:=qQ (fun(W:World) (d:jE o w W)=>(show W.cell? ⟨gx,6,none⟩=some (.slice B C.length c2) from(d.xW f.xW (X gx f.own)).cell 6));have aG:=qQ ak;have az:=ok.xR;have HR:Hid (vf S x a b=dT ((vQ S.mem x a (kY b))::S.T.map fun t=>vQ t.l x a (kY b))):=qQ rfl
 have ax:=qQ (show kr ((vQ S.mem x a (kY b))::S.T.map fun t=>vQ t.l x a (kY b))<=40000 from by
  rw[bU];have:=Cj (inQ x a (kY b)) S.T;have:=List.length_filter_le (inQ x a (kY b)) S.mem;unfold gH at ht;unfold vQ;omega)
 have an:=qQ ac;obtain⟨m,hm⟩:∃m,m=C.length:=⟨_,rfl⟩
 have aM:m<=40:=by omega
 have HM:=qQ hm;have Z:S.T.length=m:=by omega
 have aF:=qQ Z;rw[<-hm]at c6 ae;rw[Z];generalize hF0:vQ S.mem x a (kY b)=p at*;unfold dY at ab;have au:=qQ ab
 have aw:Hid (∀k t,S.T[k]? = some t->(p::(S.T.take k).map fun t=>vQ t.l x a (kY b))++[vQ t.l x a (kY b)]=p::(S.T.take (k+1)).map fun t=>vQ t.l x a (kY b)):=qQ fun k t d=>by
  rw[qw,d,List.map_append];rfl
 have al:Hid ((p::(S.T.take m).map fun t=>vQ t.l x a (kY b))=p::S.T.map fun t=>vQ t.l x a (kY b)):=qQ (by rw[<-Z,List.take_length])
 have af:Hid (∀k,k<=m->(p::(S.T.take k).map fun t=>vQ t.l x a (kY b)).length=k+1):=qQ fun k d=>by
  rw[qv,qz,qT];omega
 have ap:Hid (∀k,k<m->∃g t,C[k]? = some g/\S.T[k]? = some t):=qQ fun k d=>⟨_,_,qD (by omega),qD (by omega)⟩
 have ar:=qQ (show(p::S.T.map fun t=>vQ t.l x a (kY b)).length<=500000 from by rw[qv,qz];omega);clear hM f U d3 d4 I d6 ok M hc Y ht wa wb V X ac ak az hm Z ag ab c0 hF0;generalize vf S x a b=R at*;go_enter func60,ntmps60;go_wp2_with fail;refine X5 aE.out ?_;go_wp2_with fail;refine au.out.mono ?_;rintro e w1⟨A1,c1,rfl,r1,b1⟩;have H1:=qQ (gX.one api am.out b1 r1);have aH:=ae.out _ H1.out.kept;clear c6 c8 b1 r1;go_wp2;go_loopg [10,32] m (fun g u i wr=>∃(k:Nat) (N:List Nat) (j:Nat),k+g=m/\j<=k/\i=.int .i64 k/\gX At w0 gd w o N { D with count:=D.count+j } (p::(S.T.take k).map fun t=>vQ t.l x a (kY b)) u wr)
 case atStart=>exact⟨0,_,0,by omega,qK _,rfl,H1.out⟩
 case round =>
  obtain⟨k,N,j,aK,aB,rfl,J⟩:=hrel;obtain⟨Ak,nk,ck,aj,rfl⟩:=J.shape;have ah:k<=m:=by omega
  rw[af.out k ah]at aj;subst aj;have y:=qQ J;clear J;cases gk with
  | zero =>
    obtain rfl:k=m:=(by omega);have s1:¬(k:Int)<(k:Int):=(by omega);have O:=y.out;rw[al.out]at O;obtain⟨L,K,v⟩:=O.lists;have P:=G7 _ L wr K (by rw[<-nA,v];exact ar.out) (by rw[v];have:=ax.out;omega);rw[v,<-HR.out]at P;unfold dY at P;have HG:=qQ P;have q:=qQ O;clear P O K v y;go_wp2_with fail;refine HG.out.mono ?_;rintro e w9⟨A9,c9,rfl,r9,Q⟩;have ao:=qQ (ad.out (jL (.slice A9 R.length c9)) { D with count:=D.count+j } w9 ((q.out.ds.less (fun b c=>qJ _ c)).more api Q (fo r9)) (q.out.kept.trans (jE.xA Q (fun b c=>q.out.ds.lt b (qJ _ c)))) (fun b c=>qR q.out.kept.size (fo r9 b c).1));have av:=qQ (r9.down q.out.kept.size);have aq:=qQ ((q.out.kept.trans (jE.xA Q (fun b c=>q.out.ds.lt b (qJ _ c)))).less an.out);clear r9 Q;go_wp2;go_ret2;exact⟨A9,c9,j,aB,rfl,av.out,ao.out,aq.out⟩
  | succ gi =>
    have aC:k<m:=(by omega);have s1:(k:Int)<(m:Int):=(by omega);obtain⟨g,t,s,z⟩:=ap.out k aC;obtain⟨F,rfl,K⟩:=HP.out wr y.out.kept k g s;have ay:=qQ (HT.out k g t s z j (by omega) wr N y.out.ds y.out.kept);have HG:=qQ z;clear s z;go_wp2_with fail;refine ay.out.mono ?_;rintro e w5⟨j2,aJ,A5,c5,rfl,r5,I,k5⟩;obtain⟨L5,r6⟩:=y.out.told I k5 r5;have ai:(p::(S.T.take k).map fun t=>vQ t.l x a (kY b)).length<=500000:=(by rw[af.out k ah];omega);obtain⟨A6,c6,w6,N6,e6,L6⟩:=L5.add api r6 (fun b c=>qW _ c) ai 159;rw[aw.out k t HG.out,Nat.add_assoc]at L6;have HE:=qQ e6;have H6:=qQ L6;clear L5 r6 ai e6 L6 r5 I k5;go_wp2_with (first|(at_builtin;refine yK rfl _ _ rfl rfl rfl HE.out ?_)|fail);go_roundg gi
    case measure=>omega
    case rel=>exact⟨k+1,N6,j+j2,by omega,by omega,by go_num,H6.out⟩
end
theorem Jb(q:TbS->Bool):∀(T:List TbS),kr ((T.filter q).map TbS.l)<=kr (T.map TbS.l)
 | []=>qK _
 | t::T=>by
   have:=Jb q T;rw[List.map_cons,bU,List.filter_cons];split
   ·rw[List.map_cons,bU];omega
   ·omega
section
variable {At:jR}(api:jS At)(nap:jw){w0 w w':World}{gd gx r:Nat}{S:IxS}{D:jD}{E:List Nat}
include api nap
theorem qJ9(h:jf At w0 gd gx r S D E w)(ok:kB D S)(P:WfP D)(hc:D.count<=1000000000)(Y:D.down=false)(ht:gH S<=40000)(v:Value)(ns:List Int)(hv:kF w v ns)(an:∀b∈jL v,b∈E)(al:ns.length<=1000000):
  Calls prog 71 #[ptr gx,v] w (Ju At w0 gd gx r S D (ka S ns) S.T.length E w):=by
 obtain⟨Fm,Gr,Gk,V,hM,d3,d4,K,d6⟩:=h;obtain⟨gm,A,cp,B,c2,I,z⟩:=hM.cells;obtain⟨c0,-,-,-,-,-,c6,-,c8⟩:=z.cs;have ae:=qQ (fun(N:List Nat) (D':jD) (W:World) (Y:DS At w0 gd D' (N++(Fm++(Gr++(Gk++E)))) W) (y:jE (Fm++(Gr++(Gk++E))) w W) (hN:∀b∈N,w.1.size<=b)=>jf.back hM V d3 d4 K d6 Y y hN);have M:∀b∈Gk,b∈Fm++(Gr++(Gk++E)):=fun b a=>qJ _ (qJ _ (qW _ a))
 have ab:∀b∈Gr,b∈Fm++(Gr++(Gk++E)):=fun b a=>qJ _ (qW _ a)
 have X:∀b∈E,b∈Fm++(Gr++(Gk++E)):=fun b a=>qJ _ (qJ _ (qJ _ a))
 have aH:I.length=S.T.length:=z.xO.1;obtain⟨d,aj⟩:∃d,Fm++(Gr++(Gk++E))=d:=⟨_,rfl⟩
 rw[aj]at V ae M ab X;have ao:=qQ V
 have ax:=qQ (fun(i g:Nat) (t:TbS) (f:I[i]? = some g) (o:S.T[i]? = some t) (W:World) (O:jE d w W)=>(show Calls prog 121 #[ptr g] W (X0 (.int .i64 (t.n:Nat)) W) from by
  obtain⟨H,C,p⟩:=z.xO.2 i g t f o;exact UD (C.keep O (fun b a=>M b (p b a)))))
 have af:=qQ (fun(n:Int) (W:World) (O:jE d w W)=>QI v ns n W (O.ints hv (fun b a=>X b (an b a))) al)
 have HT:=qQ (fun(i g:Nat) (t:TbS) (f:I[i]? = some g) (o:S.T[i]? = some t) (k:Nat) (y:k<=40) (W:World) (N:List Nat) (hW:DS At w0 gd { D with count:=D.count+k } (N++d) W) (O:jE d w W)=>(show Calls prog 122 #[ptr g] W (mw At w0 gd t.l 0 { D with count:=D.count+k+1 } (N++d) W) from by
  obtain⟨H,C,p⟩:=z.xO.2 i g t f o;have ac:=qM o;have aM:=Jg ac;have hn:=(ok.xT ac).1;exact PC api nap hW (C.keep O (fun b a=>M b (p b a))) (fun b a=>qJ _ (M b (p b a))) ⟨P.synced,P.used,P.cap,P.many⟩ (by show D.count+k<=_;omega) (WalkArith.wf_i64 (by omega)) Y ((ok.has t ac).count _) (by unfold gH at ht;omega)))
 have HP:=qQ (fun(W:World) (y:jE d w W) (i g:Nat) (f:I[i]? = some g)=>(show ∃J,B=some ⟨J,0,none⟩/\W.cell? ⟨J,i,none⟩=some (ptr g) from by
  obtain⟨B',aJ,e,-,-,aD⟩:=vt.form (y.xj z.row (fun b a=>ab b (z.xq b a)));obtain⟨rfl,-,-⟩:=Value.slice.inj e;obtain⟨J,e1,-,-,e2⟩:=aD i g f;exact⟨J,e1,e2⟩))
 have aC:=ok.xR;have HR:Hid (ka S ns=dT ((cf (S.T.take S.T.length) ns).map TbS.l)):=qQ (by rw[List.take_length];rfl)
 have ai:=qQ (show kr ((cf (S.T.take S.T.length) ns).map TbS.l)<=40000 from by
  rw[List.take_length];have:=Jb (fun t=>decide ((t.n:Int)∈ns)) S.T;unfold gH at ht;unfold cf;omega)
 have ap:=qQ X
 have aA:Hid (∀k t,S.T[k]? = some t->(cf (S.T.take (k+1)) ns).map TbS.l=(cf (S.T.take k) ns).map TbS.l++(if decide ((t.n:Int)∈ns)=true then [t.l] else [])):=qQ fun k t y=>by
  unfold cf;rw[qw,y,List.filter_append,List.map_append];congr 1;show(List.filter _ [t]).map TbS.l=_;by_cases q:(t.n:Int)∈ns
  ·simp[q]
  ·simp[q]
 have aw:Hid (∀k,k<=40->((cf (S.T.take k) ns).map TbS.l).length<=40):=qQ fun k y=>by
  rw[qz];have h1:=List.length_filter_le (fun t=>decide ((t.n:Int)∈ns)) (S.T.take k);rw[qT]at h1;unfold cf;omega
 obtain⟨m,hm⟩:∃m,m=I.length:=⟨_,rfl⟩
 have aN:m<=40:=by omega
 have ak:S.T.length=m:=by omega
 rw[<-hm]at c6;rw[ak]at HR ai ⊢;have ar:Hid (∀k,k<m->∃g t,I[k]? = some g/\S.T[k]? = some t):=qQ fun k y=>⟨_,_,qD (by omega),qD (by omega)⟩
 have H0:=qQ (gX.nil api ao.out);obtain⟨Av,ov,cv,rfl,-,-⟩:=hv.form;obtain⟨nv,am⟩:∃nv,nv=ns.length:=⟨_,rfl⟩
 rw[<-am]at af ⊢;clear hM z V d3 d4 K d6 ok P hc Y ht M ab X aH aC hm ak aj c0 c8 hv an al am;generalize ka S ns=R at*;go_enter func71,ntmps71;go_wp2;go_loopg [6,16] m (fun g u i wr=>∃(k:Nat) (N:List Nat) (j:Nat),k+g=m/\j<=k/\i=.int .i64 k/\gX At w0 gd w d N { D with count:=D.count+j } ((cf (S.T.take k) ns).map TbS.l) u wr)
 case atStart=>exact⟨0,_,0,by omega,qK _,rfl,H0.out⟩
 case round =>
  obtain⟨k,N,j,aK,aE,rfl,hL⟩:=hrel;obtain⟨Ak,nk,ck,ad,rfl⟩:=hL.shape;have aL:k<=m:=by omega
  have aG:=aw.out k (by omega);rw[<-ad]at aG;have ag:=qQ ad;have c:=qQ hL;clear hL ad;cases gk with
  | zero =>
    obtain rfl:k=m:=(by omega);have s1:¬(k:Int)<(k:Int):=(by omega);obtain⟨L,C,p⟩:=c.out.lists;have Q:=G7 _ L wr C (by rw[<-nA,p,<-ag.out];omega) (by rw[p];have:=ai.out;omega);rw[p,<-HR.out]at Q;unfold dY at Q;have HG:=qQ Q;clear Q C p;go_wp2_with fail;refine HG.out.mono ?_;rintro e w9⟨A9,c9,rfl,r9,U⟩;have aq:=qQ (ae.out (jL (.slice A9 R.length c9)) { D with count:=D.count+j } w9 ((c.out.ds.less (fun b a=>qJ _ a)).more api U (fo r9)) (c.out.kept.trans (jE.xA U (fun b a=>c.out.ds.lt b (qJ _ a)))) (fun b a=>qR c.out.kept.size (fo r9 b a).1));have ay:=qQ (r9.down c.out.kept.size);have au:=qQ ((c.out.kept.trans (jE.xA U (fun b a=>c.out.ds.lt b (qJ _ a)))).less ap.out);clear r9 U;go_wp2;go_ret2;exact⟨A9,c9,j,aE,rfl,ay.out,aq.out,au.out⟩
  | succ gi =>
    have aF:k<m:=(by omega);have s1:(k:Int)<(m:Int):=(by omega);obtain⟨g,t,f,o⟩:=ar.out k aF;obtain⟨J,rfl,C⟩:=HP.out wr c.out.kept k g f;have aB:=qQ (HT.out k g t f o j (by omega) wr N c.out.ds c.out.kept);have ah:=qQ (ax.out k g t f o wr c.out.kept);have F:=af.out (t.n:Nat) wr c.out.kept;have s:=aA.out k t o;clear f o;cases Z:decide ((t.n:Int)∈ns) with
    | false =>
      rw[Z]at F s;rw[qZ (by decide),List.append_nil]at s;have av:=qQ (show gX At w0 gd w d N { D with count:=D.count+j } ((cf (S.T.take (k+1)) ns).map TbS.l) (.slice Ak nk ck) wr from by rw[s];exact c.out);have aa:=qQ F;clear Z F s;go_wp2_with fail;refine X5 ah.out ?_;go_wp2_with fail;refine aa.out.mono ?_;rintro e w'⟨rfl,rfl⟩;go_wp2;go_roundg gi
      case measure=>omega
      case rel=>exact⟨k+1,N,j,by omega,by omega,by go_num,av.out⟩
    | true =>
      rw[Z]at F s;rw[qV rfl]at s;have az:=qQ s;have aa:=qQ F;clear Z F s;go_wp2_with fail;refine X5 ah.out ?_;go_wp2_with fail;refine aa.out.mono ?_;rintro e w'⟨rfl,rfl⟩;go_wp2_with fail;refine aB.out.mono ?_;rintro e w5⟨A5,c5,rfl,r5,K,k5⟩;obtain⟨L5,r6⟩:=c.out.told K k5 r5;obtain⟨A6,aI,w6,N6,e6,L6⟩:=L5.add api r6 (fun b a=>qW _ a) (by rw[<-ag.out];omega) 159;rw[<-az.out,Nat.add_assoc]at L6;have HE:=qQ e6;have H6:=qQ L6;clear L5 r6 e6 L6 r5 K k5;go_wp2_with (first|(at_builtin;refine yK rfl _ _ rfl rfl rfl HE.out ?_)|fail);go_roundg gi
      case measure=>omega
      case rel=>exact⟨k+1,N6,j+1,by omega,by omega,by go_num,H6.out⟩
end
def fM: jD->List Int->Nat × jD
 | D,[]=>(0,D)
 | D,n::ns=>if (uW D n).1≠0 then uW D n else fM (uW D n).2 ns
theorem Ck(D:jD)(n:Int)(ns:List Int):fM D (n::ns)=if (uW D n).1≠0 then uW D n else fM (uW D n).2 ns:=rfl
def dH(D:jD)(S:IxS)(t:Tw)(n:Nat)(a:Int)(c b k:Nat):Nat × jD :=
 if c≠0 then(c,D)
 else if (vy { D with count:=D.count+k } n (ka S (kU S.m.lv a)) t b (jo S (kq S.m.lv a n) S.m.check)).1≠0 then vy { D with count:=D.count+k } n (ka S (kU S.m.lv a)) t b (jo S (kq S.m.lv a n) S.m.check)
 else fM (vy { D with count:=D.count+k } n (ka S (kU S.m.lv a)) t b (jo S (kq S.m.lv a n) S.m.check)).2 (kU S.m.lv a)
noncomputable def dt (D:jD)(S:IxS)(t:Tw)(n:Nat)(a:Int)(c b k:Nat):IxS :=
 if c≠0 then S else uZ S { D with count:=D.count+k } n (ka S (kU S.m.lv a)) t b (kq S.m.lv a n) S.m.check
theorem qJq(S:IxS)(D:jD)(n a:Nat)(R:LvL):(bF S D n a R S.m.check).m.check=S.m.check:=by
 unfold bF;split
 ·rfl
 ·rfl
theorem qJx(S:IxS)(D:jD)(n:Nat)(l:List jC)(t:Tw)(a:Nat)(R:LvL):(uZ S D n l t a R S.m.check).m.check=S.m.check:=by
 unfold uZ;split
 ·rfl
 ·exact qJq _ _ _ _ _
theorem qJz{D:jD}(h:WfP D)(n:Nat)(l:List jC)(t:Tw)(a:Nat)(m:kJ):WfP (vy D n l t a m).2:=by
 unfold vy;split
 ·exact ri h _ _ _
 ·split
  ·exact C8 (Jy (ri h _ _ _) _ _ _) _
  ·exact Jy (ri h _ _ _) _ _ _
theorem qJj{D:jD}{S:IxS}(ok:kB D S)(ns:List Int):(ka S ns).length<=gH S:=by
 unfold ka cf gH;have a:=Vi ((S.T.filter fun t=>decide ((t.n:Int)∈ns)).map TbS.l);have b:=Jb (fun t=>decide ((t.n:Int)∈ns)) S.T;omega
section
variable {At:jR}(api:jS At)(nap:jw)(iap:uy At){w0 w w':World}{gd gx r:Nat}{S:IxS}{D:jD}{E:List Nat}
theorem jf.zJ(h:jf At w0 gd gx r S D E w):w.cell? ⟨gx,0,none⟩=some (ptr gx)/\w.cell? ⟨gx,1,none⟩=some (ptr gd)/\w.cell? ⟨gx,3,none⟩=some (.int .i64 S.m.check):=by
 obtain⟨_,_,_,_,b,_⟩:=h;obtain⟨_,_,_,_,_,_,a⟩:=b.cells;exact⟨a.cs.1,a.cs.2.1,a.cs.2.2.2.1⟩
include api nap iap
theorem qJk(h:jf At w0 gd gx r S D E w)(I:WfP D)(Y:D.down=false)(hc:D.count<=900000000)(ok:kB D S)(n:Nat)(hn:S.m.next=(n:Nat))(aq:n<=999999)(hr:r<18446744073709551616)(ht:gH S<=40000)(a:Int)(a4:(ka S (kU S.m.lv a)).length<=1000)
  (F:Nat) (aw:vV S.m.lv a=(F:Nat)) (q:Nat) (av:yA S.m.lv a n=(q:Nat))
  (ai:∀k t,k<=40->bG (ka S (kU S.m.lv a)) r t->(kA { D with count:=D.count+k } n (ka S (kU S.m.lv a)) t).1=0->(tgL (rdW (kA { D with count:=D.count+k } n (ka S (kU S.m.lv a)) t).2 (ptT n)).1).length<=10000):
  Calls prog 37 #[ptr gx,a] w fun e w'=>∃t k,k<=S.T.length/\(F≠0∨bG (ka S (kU S.m.lv a)) r t)/\nH At w0 gd gx r (err (dH D S t n a F q k).1) (dt D S t n a F q k) (dH D S t n a F q k).2 E w e w':=by
 have d:=((qU w.1.size w).alloc (qK _) (.cells #[ptr gx] 71)).alloc (B:=w.1.size) (by simp) (.cells #[a] 3);have U:jF ((w.alloc (.cells #[ptr gx] 71)).alloc (.cells #[a] 3)) w.1.size 71 #[ptr gx]:=(jF.new w 71 #[ptr gx]).alloc _
 have R:jF ((w.alloc (.cells #[ptr gx] 71)).alloc (.cells #[a] 3)) (w.1.size+1) 3 #[a]:=by
  have:=jF.new (w.alloc (.cells #[ptr gx] 71)) 3 #[a];rw[World.size_alloc]at this;exact this
 have aX:=qQ h.lt
 have s:=h.more api d (B:=[w.1.size,w.1.size+1]) (fun b hm=>by
  rcases qL.1 hm with e|hm
  ·rw[e];exact⟨qK _,U.lt⟩
  ·rw[qH.1 hm];exact⟨Nat.le_succ _,R.lt⟩)
 have aC:=qQ (jE.xA d aX.out);obtain⟨C,aN⟩:∃C,w.1.size+1=C:=⟨_,rfl⟩
 rw[aN]at s R;obtain⟨gb,a5⟩:∃gb,w.1.size=gb:=⟨_,rfl⟩
 rw[a5]at s U;obtain⟨u,bb⟩:∃u,(w.alloc (.cells #[ptr gx] 71)).alloc (.cells #[a] 3)=u:=⟨_,rfl⟩
 rw[bb]at s U R aC;have bp:gb+1=C:=by omega
 have c0:=s.zJ.1;have a9:=qQ (od c0);have V:=U.cell 0;have bk:=R.cell 0;obtain⟨A,cp,X,hv⟩:=s.xg;have ab:=BF _ S.m.lv a u.drew (hv.below (qU _ _).drew (qK _)) (by have:=ok.may.2.2.2.2.1.2.1;omega) (by have:=ok.may.2.2.2.2.1.1;omega);rw[show nC u.drew S.m.lv a=fun e w'=>∃A c,e=.returned (.tuple #[.slice A (kU S.m.lv a).length c,.int .i64 (vV S.m.lv a)])/\jd w' u.drew.1.size (.slice A (kU S.m.lv a).length c) (kU S.m.lv a)/\Below u.drew.1.size u.drew w' from rfl,aw]at ab;have an:u.drew.cell? ⟨gb,0,none⟩=some (ptr gx)/\u.drew.cell? ⟨C,0,none⟩=some (.int .i64 a)/\u.drew.cell? ⟨gx,5,none⟩=some (.slice A S.m.lv.length cp):=⟨V,bk,X⟩
 have aI:Hid (∀w',Below u.drew.1.size u.drew w'->w'.cell? ⟨gb,0,none⟩=some (ptr gx)/\w'.cell? ⟨C,0,none⟩=some (.int .i64 a)/\w'.cell? ⟨gx,5,none⟩=some (.slice A S.m.lv.length cp)):=qQ fun w' hw =>
  ⟨(hw.cell (p:=⟨gb,0,none⟩) (World.block_lt_of_cell? u _ V)).trans V,(hw.cell (p:=⟨C,0,none⟩) (World.block_lt_of_cell? u _ bk)).trans bk,(hw.cell (p:=⟨gx,5,none⟩) (World.block_lt_of_cell? u _ X)).trans X⟩
 have J:=qQ (qG s (qG U R));have v:=qQ ok;obtain⟨M,hM⟩:∃M,M=kU S.m.lv a:=⟨_,rfl⟩
 rw[<-hM]at ab ai a4;obtain⟨y,au⟩:∃y,y=M.length:=⟨_,rfl⟩
 rw[<-au]at ab;have aH:=qQ ab;have H:=qQ (qG hM au);generalize S.m.lv.length=bi at*;clear h d U R s hv ab c0 ok aN hM au;go_enter func37,ntmps37;go_wp2_with fail;refine X5 a9.out ?_;go_wp2_with fail
 go_region_held3 (fun w'=>w'.cell? ⟨gb,0,none⟩=some (ptr gx)/\w'.cell? ⟨C,0,none⟩=some (.int .i64 a)/\w'.cell? ⟨gx,5,none⟩=some (.slice A bi cp))
  (first|(with_reducible assumption)|fail)
  (first
  | (go_at_call 70;((with_reducible refine aH.out.mono ?_);rintro e w2⟨P,c2,rfl,r2,b2⟩;have a2:=aI.out w2 b2))
  | fail)
 have ad:Below u.1.size u w2:=(qU _ u).drew.trans b2;have i2:=J.out.1.more api ad (B:=jL (.slice P y c2)) (fun b d=>r2.lt b (jt.1 d));have aD:=qQ (aC.out.trans (jE.xA ad (fun b d=>J.out.1.lt b (qJ _ d))));have aA:=qQ i2;have ay:=qQ (qG (jF.below J.out.2.1 ad) (jF.below J.out.2.2 ad));have aj:=qQ (jd.xE r2);obtain⟨V,bk,X⟩:=a2;clear r2 b2 ad i2 an aI aH;by_cases af:F=0
 case neg =>
  have t1:((F:Int) != 0)=true:=by simp;omega
  have HF:=qQ (show ∀t k,dH D S t n a F q k=(F,D)/\dt D S t n a F q k=S from fun t k=>⟨by unfold dH;rw[qV af],by unfold dt;rw[qV af]⟩);have aZ:=qQ af;clear af Y hc hn aq hr ht aw av ai I X;go_wp2;go_ret;refine⟨ByteArray.empty,0,qI _,qX aZ.out, ?_⟩;rw[(HF.out _ _).1,(HF.out _ _).2];exact⟨rfl,aA.out.less (fun b d=>qJ _ (qJ _ d)),aD.out⟩
 case pos =>
  subst af
  have aK:M.length<=1000000:=by
   rw[H.out.1];have s:(kU S.m.lv a).length<=S.m.lv.flatten.length:=rn (CL v.out.may.2.2.2.2.1.2.2.2) rh;have:=v.out.may.2.2.2.2.1.2.1;omega
  have ah:=qJ9 api nap aA.out v.out I (by omega) Y (by omega) _ M aj.out (fun b d=>qW _ d) aK;unfold Ju at ah;obtain⟨na,ar⟩:∃na,na=(ka S M).length:=⟨_,rfl⟩
  have bm:=qQ ar;rw[<-ar]at ah;have aS:=qQ ah;clear ah ar aK X;go_wp2_with fail;refine aS.out.mono ?_;rintro e w3⟨A3,c3,k,hk,rfl,r3,i3,k3⟩;have ag:=k3.xW ay.out.1 (qJ _ (qW _ qC));have ax:=k3.xW ay.out.2 (qJ _ (qW _ (qF _ qC)));have ba:=qJ3 S.m.lv a n;have a7:=qJj v.out M
  have aF:=Cz api nap iap (i3.drew api) ⟨I.synced,I.used,I.cap,I.many⟩ Y (by show D.count+k<=_;have:=v.out.xR;omega) n hn aq v.out.seed hr _ (ka S M) (r3.xE.below (qU _ w3).drew (qK _)) (fun b d=>qW _ d) (by omega) (fun x K=>(oc v.out M x K).1) (Qz (Qx v.out M) (fun x K=>(oc v.out M x K).2)) S.m.check _ #[ptr gb,ptr C] (enters_of func72 (by kernel_rfl) rfl) (kq S.m.lv a n) q
   (fun W' D' hi aO=>qJ5 hi v.out.may (aO.xW ag.drew (qJ _ (qJ _ (qW _ qC)))) a (aO.xW ax.drew (qJ _ (qJ _ (qW _ (qF _ qC))))) n q av) (by omega) (by omega) (ai k · (by have:=v.out.xR;omega)) (by have:=v.out.xR;omega)
  have aG:=qQ aF;have an:w3.drew.cell? ⟨gb,0,none⟩=some (ptr gx)/\w3.drew.cell? ⟨gx,3,none⟩=some (.int .i64 S.m.check):=⟨ag.cell 0,i3.zJ.2.2⟩
  have Z:=qQ (qG hk (qG (aD.out.trans (k3.less (fun b d=>qJ _ (qJ _ d)))) (qG ag (aj.out))));have a8:∀(fn:Fn) (first aJ:Array Value) (w:World),(Instr.makeFunc fn first aJ).run prog w=.ok (.func fn first aJ) w:=fun _ _ _ _=>rfl
  have az:=qQ (fun(D':jD) (t:Tw) (E':List Nat) (W:World) (h:jf At w0 gd gx r (uZ S { D with count:=D.count+k } n (ka S M) t q (kq S.m.lv a n) S.m.check) D' E' W)=>(show W.cell? ⟨gx,3,none⟩=some (.int .i64 S.m.check) from by
   have:=h.zJ.2.2;rw[qJx]at this;exact this))
  have aE:=qQ k3;have ac:=qQ I
  have HF:Hid (∀t,dH D S t n a 0 q k=(if (vy { D with count:=D.count+k } n (ka S M) t q (jo S (kq S.m.lv a n) S.m.check)).1≠0 then vy { D with count:=D.count+k } n (ka S M) t q (jo S (kq S.m.lv a n) S.m.check) else fM (vy { D with count:=D.count+k } n (ka S M) t q (jo S (kq S.m.lv a n) S.m.check)).2 M)/\dt D S t n a 0 q k=uZ S { D with count:=D.count+k } n (ka S M) t q (kq S.m.lv a n) S.m.check):=qQ fun t=>by
   rw[H.out.1];exact⟨by unfold dH;rw[qZ (by decide)],by unfold dt;rw[qZ (by decide)]⟩
  clear r3 i3 k3 ag ax hk ba a7 aF hn aq hr ht aw av ai Y hc I bk;go_wp2_with fail
  go_region_held3 (fun w'=>w'.cell? ⟨gb,0,none⟩=some (ptr gx)/\w'.cell? ⟨gx,3,none⟩=some (.int .i64 S.m.check))
   (first|(with_reducible assumption)|fail)
   (first
   | (go_at_call 64;((with_reducible refine aG.out.mono ?_);rintro e w5⟨t,aM,⟨rfl,ao,ae⟩,a_⟩;have a3:w5.cell? ⟨gb,0,none⟩=some (ptr gx)/\w5.cell? ⟨gx,3,none⟩=some (.int .i64 S.m.check):=⟨(ae.xW Z.out.2.2.1.drew (qJ _ (qJ _ (qW _ qC)))).cell 0,az.out _ _ _ _ ao⟩))
   | fail)
  have aV:Hid (∀W,jE (jL (.slice P y c2)++([gb,C]++E)) w2 W->∀i x,M[i]? = some x->∃b o,P=some ⟨b,o,none⟩/\W.cell? ⟨b,o+i,none⟩=some (.int .i64 x)):=qQ fun W hW i x K=>by
   have s:=hW.ints aj.out (fun b d=>qW _ d);obtain⟨A',o',c',e,-,hc⟩:=s.form;obtain⟨rfl,-,-⟩:=Value.slice.inj e;obtain⟨b,e1,e2,e3⟩:=hc i x K;exact⟨b,o',e1,e3⟩
  have aB:=qQ ao;have aW:=qQ (aE.out.drew.trans (ae.less (fun b d=>qJ _ d)));have ak:=qQ (Z.out.2.1.drew.trans (ae.less (fun b d=>qJ _ (qJ _ (qJ _ d)))));have aU:Hid (∀W,jE (jL (.slice A3 na c3)++(jL (.slice P y c2)++([gb,C]++E))) w5 W->W.cell? ⟨gb,0,none⟩=some (ptr gx)):=qQ fun W hW=>((ae.trans hW).xW Z.out.2.2.1.drew (qJ _ (qJ _ (qW _ qC)))).cell 0
  have z:=qQ (qG (show bG (ka S (kU S.m.lv a)) r t from by rw[<-H.out.1];exact aM) (HF.out t));have a1:=qQ (qJz (D:={ D with count:=D.count+k }) ⟨ac.out.synced,ac.out.used,ac.out.cap,ac.out.many⟩ n (ka S M) t q (jo S (kq S.m.lv a n) S.m.check));have al:=qQ Z.out.1
  have bn:y<=40:=by
   have s:(kU S.m.lv a).length<=S.m.lv.flatten.length:=rn (CL v.out.may.2.2.2.2.1.2.2.2) rh;have:=v.out.may.2.2.2.2.1.2.1;rw[<-H.out.1,<-H.out.2]at s;omega
  have aY:Hid (∀i x,M[i]? = some x->(Lit.int .i64 x).wf=true):=qQ fun i x K=>by
   have aQ:x∈S.m.lv.flatten:=rh x (by rw[<-H.out.1];exact qM K);have s:=v.out.may.2.2.2.2.1.2.2.1 x aQ;have h2:=v.out.may.2.2.2.2.2 x aQ;have h3:=v.out.may.2.1;exact WalkArith.wf_i64 (by omega)
  obtain⟨V,-⟩:=a3;clear ao ae a_ an aM HF az aG Z aE a8 ac;generalize uZ S { D with count:=D.count+k } n (ka S M) t q (kq S.m.lv a n) S.m.check=S' at*;generalize vy { D with count:=D.count+k } n (ka S M) t q (jo S (kq S.m.lv a n) S.m.check)=lp at*;obtain⟨aR,D5⟩:=lp;by_cases O:aR=0
  case neg =>
   have t1:((aR:Int) != 0)=true:=(by simp;omega);have HZ:=qQ O;clear O;go_wp2;go_ret;refine⟨t,k,al.out,(by first|exact z.out.1|exact qY z.out.1), ?_⟩;rw[z.out.2.1,z.out.2.2,qV HZ.out];exact⟨rfl,aB.out.less (fun b d=>qJ _ (qJ _ (qJ _ d))),ak.out⟩
  case pos =>
   subst O;go_wp2;go_loopg [49] y (fun g i wr=>∃(j:Nat) (D':jD),j+g=y/\i=.int .i64 j/\fM D5 M=fM D' (M.drop j)/\WfP D'/\jf At w0 gd gx r S' D' (jL (.slice A3 na c3)++(jL (.slice P y c2)++([gb,C]++E))) wr/\jE (jL (.slice A3 na c3)++(jL (.slice P y c2)++([gb,C]++E))) w5 wr)
   case atStart=>exact⟨0,D5,by omega,rfl,by rw[List.drop_zero],a1.out,aB.out,jE.refl _ _⟩
   case round =>
    obtain⟨j,D',bv,rfl,he,hw,hi,aP⟩:=hrel;have HE:=qQ he;have HW:=qQ hw;have HI:=qQ hi;have HK:=qQ aP;clear he hw hi aP;cases gk with
    | zero =>
      obtain rfl:j=y:=(by omega);have s1:¬(j:Int)<(j:Int):=(by omega);have s:=HE.out;rw[H.out.2,List.drop_length]at s
      have aa:=qQ (show dH D S t n a 0 q k=(0,D')/\dt D S t n a 0 q k=S' from by
       rw[z.out.2.1,z.out.2.2,qZ (by simp)];exact⟨s,rfl⟩)
      clear s;go_wp2;go_ret;refine⟨t,k,al.out,(by first|exact z.out.1|exact qY z.out.1), ?_⟩;rw[aa.out.1,aa.out.2];exact⟨rfl,HI.out.less (fun b d=>qJ _ (qJ _ (qJ _ d))),ak.out.trans (HK.out.less (fun b d=>qJ _ (qJ _ (qJ _ d))))⟩
    | succ gi =>
      have a6:j<y:=(by omega);have s1:(j:Int)<(y:Int):=(by omega);have ap:j<M.length:=(by rw[<-H.out.2];exact a6);have aL:M.drop j=M[j]::M.drop (j+1):=xJ ap;obtain⟨b,o,rfl,q1⟩:=aV.out wr (aW.out.trans (HK.out.less (fun b d=>qJ _ d))) j M[j] (qD ap);have wn:=aY.out j M[j] (qD ap);have aT:=qQ (HI.out.zf (f:=74) (args:=#[ptr gd,.int .i64 M[j]]) (Q:=fun e w'=>e=.returned (err (uW D' M[j]).1)) (fun E' _ Y=>(Cx api nap Y HW.out M[j] wn).mono fun e w' h=>⟨h.2.1,h.2.2,h.1⟩));have V:=aU.out wr HK.out;have c1:=HI.out.zJ.2.1;have s:=HE.out;rw[aL,Ck]at s;have J:=qQ s;have a0:=qQ (C8 HW.out M[j]);clear s aL wn HE;generalize M[j]=x at*;generalize uW D' x=dp at*;obtain⟨am,D6⟩:=dp;go_wp2_with fail;refine aT.out.mono ?_;rintro e w6⟨i6,k6,s6,rfl⟩;have H6:=qQ (qG i6 (HK.out.trans k6));clear i6 k6 s6;by_cases O:am=0
      ·subst O;have H2:=qQ (show fM D5 M=fM D6 (M.drop (j+1)) from by rw[J.out,qZ (by simp)]);go_wp2;go_roundg gi
       case measure=>omega
       case rel=>exact⟨j+1,D6,by omega,by go_num,H2.out,a0.out,H6.out.1,H6.out.2⟩
      ·have t1:((am:Int) != 0)=true:=by simp;omega
       have aa:=qQ (show dH D S t n a 0 q k=(am,D6)/\dt D S t n a 0 q k=S' from by
        rw[z.out.2.1,z.out.2.2,qZ (by simp)];exact⟨by rw[J.out,qV O],rfl⟩)
       clear O;go_wp2;go_ret;refine⟨t,k,al.out,(by first|exact z.out.1|exact qY z.out.1), ?_⟩;rw[aa.out.1,aa.out.2];exact⟨rfl,H6.out.1.less (fun b d=>qJ _ (qJ _ (qJ _ d))),ak.out.trans (H6.out.2.less (fun b d=>qJ _ (qJ _ (qJ _ d))))⟩
end
end
end Go.Proofs.YthejglbnkmimjaaGreat
