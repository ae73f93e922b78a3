import Derived.Test.YthejglbnkmimjaaGreatPp30
import Derived.Test.YthejglbnkmimjaaGreatPp22
import Derived.Test.YthejglbnkmimjaaGreatPp26
import Derived.Test.YthejglbnkmimjaaGreatPp27
set_option linter.unusedVariables false
set_option maxRecDepth 100000
set_option maxHeartbeats 9000000
namespace Go.Proofs.YthejglbnkmimjaaGreat
open Proofs.Tryz
section
open Go.RowKit
theorem qK9{c:UInt8}{n:Int}(h:nmS c n≠ByteArray.empty):¬(nmS c n).toList=[]/\((nmS c n).toList==[])=false:=by
 have a:¬(nmS c n).toList=[]:=fun e=>h (by
  rw[Lib.toList_data]at e;exact qi (Array.toList_inj.1 e))
 exact⟨a,by rw[qg];exact a⟩
section
variable {At:j6}(api:j8 At)(nap:kZ){w0 w:World}{gd:Nat}{D:jL}{E:List Nat}
theorem sS{D:jL}(ok:WfP D)(n:Int)(l:List jI)(t:Tw):WfP (kG D n l t).2:=by
 unfold kG;have a:=oW ok (ptB n) t;have b:=oW a (ptT n) (tbB l);split
 ·exact ok
 ·split
  ·exact ok
  ·split
   ·exact ok
   ·split
    ·exact a
    ·split
     ·exact dM b _
     ·exact b
theorem DB{D:jL}(ok:WfP D)(n:Int):WfP (uC D n).2:=by
 unfold uC;have a:=dM ok (ptT n);have b:=dM a (ptB n);split
 ·exact a
 ·split
  ·exact b
  ·exact b
include api nap
theorem qKq(h:DS At w0 gd D E w)(ok:WfP D)(n:Int)(wn:(Lit.int .i64 n).wf=true)(v:Value)(l:List jI)(R:kB w v l)(hl:l.length<=1000)(af:∀x∈l,ks x)(r:Nat)(hr:r<18446744073709551616)(hn:ptT n≠ByteArray.empty)(J:uq l=true)(hd:D.down=false):
  Calls prog 111 #[ptr gd,n,v,.float .f64 r] w fun e w'=>∃t,bV l r t/\yf At w0 gd (err (kG D n l t).1) (kG D n l t).2 E w e w':=by
 have Q:=qJh v l w R (by omega) af;unfold pJ at Q;rw[(Zx J).1,(Zx J).2]at Q;have ac:=qQ Q;have P:=qQ fun W=>nap.table n W wn
 have G:=qQ fun W=>nap.zN n W wn
 have HU:=qQ fun W (I:Below w.1.size w W)=>QE api (h.below api I) ok
 rw[qZ (by rw[hd];decide)]at HU;obtain⟨n1,n2⟩:=qK9 (c:=116) (n:=n) hn;have aa:=qQ fun W (I:Below w.1.size w W)=>qK8 v l r W (R.below I (qK _)) hl af hr
 have ab:=qQ fun W (I:Below w.1.size w W)=>(h.below api I).xE api (fun F hF=>api.free hF ok.ok)
 have ay:=ok;have au:=ok.cap;have ax:=ok.used;have av:=rN l;have aq:=qQ h.lt;have HH:=qQ h;obtain⟨A,off,aA,rfl,-,-⟩:=R.form
 have HW:Hid (∀t,(kG D n l t)=if (D.cap:Int)-(j4 D.l:Nat)-(t.size:Nat)-((tbB l).size:Nat)<6000 then(60,D)
   else if (kQ D (ptB n) t).1≠0 then kQ D (ptB n) t
   else if (kQ (kQ D (ptB n) t).2 (ptT n) (tbB l)).1≠0 then((kQ (kQ D (ptB n) t).2 (ptT n) (tbB l)).1,(jh (kQ (kQ D (ptB n) t).2 (ptT n) (tbB l)).2 (ptB n)).2)
   else kQ (kQ D (ptB n) t).2 (ptT n) (tbB l)):=qQ fun t=>by
  unfold kG;rw[qZ (by rw[not_or];exact⟨hn,by simp[J]⟩),qZ (by rw[hd];decide)]
 have al:=qQ fun(t:Tw) (J:t.size<=100000) W (f:List Nat) (j:DS At w0 gd D f W)=>Uy api j ok (ptB n) t (QJ n) (by omega)
 have am:=qQ fun(t:Tw) W (f:List Nat) (j:DS At w0 gd (kQ D (ptB n) t).2 f W)=>Uy api j (oW ok _ _) (ptT n) (tbB l) (oS n) (by omega)
 have ai:=qQ fun(t:Tw) W (f:List Nat) (j:DS At w0 gd (kQ (kQ D (ptB n) t).2 (ptT n) (tbB l)).2 f W)=>j.xE api (fun F hF=>api.delete (ptB n) hF (oW (oW ok _ _) _ _).ok (QJ n))
 have aj:=qQ fun(t:Tw) (hf:bV l r t)=>rR (show l.length<=10000 by omega) hf
 rw[show nmS 116 n=ptT n from rfl]at P n1 n2;rw[show nmS 98 n=ptB n from rfl]at G;generalize ptT n=T at*;generalize ptB n=nb at*;generalize hS:tbB l=S at*;clear h ok R af hr J hd Q wn hn ay hS;have aB:S.size<=24012:=by omega
 clear av;have HM:Hid (l.length<=1000):=qQ hl;obtain⟨m,hm⟩:∃m,l.length=m:=⟨_,rfl⟩
 have az:=qQ hm;rw[hm]at ac aa ⊢;clear hm hl;go_enter func111,ntmps111;go_wp2_with fail;refine KG ac.out fun w1 b1=>?_;go_wp2_with fail;refine KG (P.out _) fun w2 b2=>?_;have M:=qQ (bj b1 b2);clear b1 b2 ac;go_wp2_with fail;refine X5 (HU.out _ M.out) ?_;go_wp2_with fail;refine(aa.out _ M.out).mono ?_;rintro e w4⟨t,rfl,ae,b4⟩;have U:=qQ (bj M.out b4);have aw:=aj.out t ae;have aC:t.size<=5000:=by have:=HM.out;omega
 have d:=qQ (HW.out t);have O:=qQ ae;clear b4 M HU aa aj ae aw HW;obtain⟨y,hy⟩:∃y:Int,(D.cap:Int)-(j4 D.l:Nat)=y:=⟨_,rfl⟩
 have y1:y<=1048576:=by omega
 have y2:0<=y:=by omega
 have q1:IntKind.i64.wrap (y-(t.size:Int))=y-(t.size:Int):=qz _ ⟨by omega,by omega⟩;have q2:IntKind.i64.wrap (y-(t.size:Int)-(S.size:Int))=y-(t.size:Int)-(S.size:Int):=qz _ ⟨by omega,by omega⟩;rw[hy]at ab d;have ah:=qQ (ab.out _ U.out);have ak:=qQ (jM.xA U.out aq.out);clear ab U hy au ax;go_wp2_with fail;refine ah.out.mono ?_;rintro e w5⟨rfl,d5,k5⟩;have a:=qQ (qU d5 (ak.out.trans k5));clear d5 k5 ah ak;by_cases ao:y-(t.size:Int)-(S.size:Int)<6000
 ·rw[qV ao]at d;go_wp2;go_ret;exact⟨t,O.out,by rw[d.out];exact⟨rfl,a.out.1,a.out.2⟩⟩
 ·rw[qZ ao]at d;have s:=qQ fun W (f:List Nat) j=>al.out t (by omega) W f j
  have z:=qQ fun W (f:List Nat) j=>am.out t W f j
  have Z:=qQ fun W (f:List Nat) j=>ai.out t W f j
  clear al am ai;by_cases B:(kQ D nb t).1=0
  ·rw[qZ (by rw[B];decide)]at d;rw[B]at s;by_cases C:(kQ (kQ D nb t).2 T S).1=0
   ·rw[qZ (by rw[C];decide)]at d;rw[C]at z;generalize hX:kQ (kQ D nb t).2 T S=X at*;generalize (kQ D nb t).2=D1 at*;have HX:=qQ C;clear B C hX;go_wp2_with fail;refine KG (G.out _) fun w6 i=>?_;have g:=qQ (qU (a.out.1.below api i) (a.out.2.trans (jM.xA i a.out.1.lt)));clear i a;go_wp2_with fail;refine(s.out _ _ g.out.1).mono ?_;rintro e w7⟨rfl,k,o⟩;have b:=qQ (qU k (g.out.2.trans o));clear k o g s;go_wp2_with fail;refine KG (P.out _) fun w8 u=>?_;have p:=qQ (qU (b.out.1.below api u) (b.out.2.trans (jM.xA u b.out.1.lt)));clear u b;go_wp2_with fail;refine(z.out _ _ p.out.1).mono ?_;rintro e w9⟨rfl,H,K⟩;have q:=qQ (qU H (p.out.2.trans K));clear H K p z;go_wp2;go_ret;exact⟨t,O.out,by rw[d.out,HX.out];exact⟨rfl,q.out.1,q.out.2⟩⟩
   ·rw[qV C]at d;have te:(((kQ (kQ D nb t).2 T S).1:Int) != 0)=true:=(by simp;omega);generalize hX:kQ (kQ D nb t).2 T S=X at*;generalize (kQ D nb t).2=D1 at*;generalize X.1=x1 at*;generalize X.2=V at*;generalize (jh V nb).2=D3 at*;generalize (jh V nb).1=x3 at*;clear B C hX;go_wp2_with fail;refine KG (G.out _) fun w6 i=>?_;have g:=qQ (qU (a.out.1.below api i) (a.out.2.trans (jM.xA i a.out.1.lt)));clear i a;go_wp2_with fail;refine(s.out _ _ g.out.1).mono ?_;rintro e w7⟨rfl,k,o⟩;have b:=qQ (qU k (g.out.2.trans o));clear k o g s;go_wp2_with fail;refine KG (P.out _) fun w8 u=>?_;have p:=qQ (qU (b.out.1.below api u) (b.out.2.trans (jM.xA u b.out.1.lt)));clear u b;go_wp2_with fail;refine(z.out _ _ p.out.1).mono ?_;rintro e w9⟨rfl,H,K⟩;have q:=qQ (qU H (p.out.2.trans K));clear H K p z;go_wp2_with fail;refine(G.out _).mono ?_;rintro e aD⟨rfl,ad⟩;have Y:=qQ (qU (q.out.1.below api ad) (q.out.2.trans (jM.xA ad q.out.1.lt)));clear ad q;go_wp2_with fail;refine(Z.out _ _ Y.out.1).mono ?_;rintro e aE⟨rfl,an,ap⟩;have ag:=qQ (qU an (Y.out.2.trans ap));clear an ap Y Z;go_wp2;go_ret;exact⟨t,O.out,by rw[d.out];exact⟨rfl,ag.out.1,ag.out.2⟩⟩
  ·rw[qV B]at d;have te:(((kQ D nb t).1:Int) != 0)=true:=(by simp;omega);clear z Z;generalize kQ D nb t=X at*;have ar:Hid (kG D n l t=(X.1,X.2)):=qQ d.out;clear d;generalize X.1=x1 at*;generalize X.2=V at*;clear B;go_wp2_with fail;refine KG (G.out _) fun w6 i=>?_;have g:=qQ (qU (a.out.1.below api i) (a.out.2.trans (jM.xA i a.out.1.lt)));clear i a;go_wp2_with fail;refine(s.out _ _ g.out.1).mono ?_;rintro e w7⟨rfl,k,o⟩;have b:=qQ (qU k (g.out.2.trans o));clear k o g s;go_wp2;go_ret;exact⟨t,O.out,by rw[ar.out];exact⟨rfl,b.out.1,b.out.2⟩⟩
end
theorem DC{r:Nat}(h:cO r=false):((r:Int) != 0)=true/\((r:Int) != 4)=true:=by
 unfold cO at h;rw[Bool.or_eq_false_iff,decide_eq_false_iff_not,decide_eq_false_iff_not]at h;exact⟨by simp;omega,by simp;omega⟩
theorem DD{r:Nat}(h:cO r=true):(((r:Int) != 0)=false/\r=0)∨(((r:Int) != 0)=true/\((r:Int) != 4)=false/\r=4):=by
 unfold cO at h;rw[Bool.or_eq_true,decide_eq_true_iff,decide_eq_true_iff]at h;rcases h with h|h
 ·exact qX ⟨by rw[h];rfl,h⟩
 ·exact qY ⟨by rw[h];rfl,by rw[h];rfl,h⟩
section
variable {At:j6}(api:j8 At)(nap:kZ){w0 w:World}{gd:Nat}{D:jL}{E:List Nat}
include api nap
theorem DE(h:DS At w0 gd D E w)(ok:WfP D)(n:Int)(H:(Lit.int .i64 n).wf=true):Calls prog 74 #[ptr gd,n] w (yf At w0 gd (err (uC D n).1) (uC D n).2 E w):=by
 have K:=qQ fun W=>nap.table n W H
 have M:=qQ fun W=>nap.zN n W H
 have A:=qQ fun W (u:List Nat) (G:DS At w0 gd D u W)=>G.xE api (fun F hF=>api.delete (ptT n) hF ok.ok (oS n))
 have C:=qQ fun W (u:List Nat) (G:DS At w0 gd (jh D (ptT n)).2 u W)=>G.xE api (fun F hF=>api.delete (ptB n) hF (dM ok _).ok (QJ n))
 have J:=qQ h;rw[show nmS 116 n=ptT n from rfl]at K;rw[show nmS 98 n=ptB n from rfl]at M;unfold uC;generalize ptT n=j at*;generalize ptB n=nb at*;generalize hX:jh D j=X at*;generalize hY:jh X.2 nb=Y at*;obtain⟨s,I⟩:=X;obtain⟨t,k⟩:=Y;simp only at A C hX hY ⊢;generalize hR:(if cO s=false then(s,I) else if cO t=false then(t,k) else(0,k))=R at*;have y:=qQ hR;clear h ok H hX hY hR;go_enter func74,ntmps74;go_wp2_with fail;refine KG (K.out _) fun w1 P=>?_;go_wp2_with fail;refine(M.out _).mono ?_;rintro e f⟨rfl,Q⟩;have o:=bj P Q;have Z:=(qG f.1.size f).alloc (qK _) (.cells #[j,nb] 9);have B:=o.alloc o.size (.cells #[j,nb] 9);have T:=jN.new f 9 #[j,nb];have p:=(J.out.below api o).more api Z (B:=[f.1.size]) (fun b a=>by rw[qH.1 a];exact⟨qK _,T.lt⟩);obtain⟨w3,aa⟩:∃w3,f.alloc (.cells #[j,nb] 9)=w3:=⟨_,rfl⟩
 obtain⟨g,hg⟩:∃g,f.1.size=g:=⟨_,rfl⟩
 rw[aa]at B T p;rw[hg]at T p;have c0:=T.cell 0;have v:=qQ (qU p (qU T (jM.xA B J.out.lt)));clear P Q B T o Z p;go_wp2_with fail;refine wp_loop_rounds 3 ?_;rw[rounds_succ];go_wp2_with fail;refine(A.out _ _ v.out.1).mono ?_;rintro e w4⟨rfl,U,q⟩;have z:=q.xW v.out.2.1 (qW _ qC);have c1:=z.cell 1;have l:=qQ (qU U (qU z (qU q (v.out.2.2.trans (q.less (fun b a=>qJ _ a))))));clear c0 U q z A;cases c:cO s
 ·obtain⟨t1,t2⟩:=DC c;have i:=qQ (show R=(s,I) by rw[<-y.out,c,qV rfl]);clear c;go_wp2;go_ret;rw[i.out];exact⟨rfl,l.out.1.less (fun b a=>qJ _ a),l.out.2.2.2⟩
 ·have O:=qQ c;have ab:=DD c;clear c;rcases ab with⟨t1,rfl⟩|⟨t1,t2,rfl⟩
  all_goals
   go_wp2_with fail;rw[rounds_succ];go_wp2_with fail;refine(C.out _ _ l.out.1).mono ?_;rintro e w5⟨rfl,V,k5⟩;have m:=qQ (qU (V.less (fun b a=>qJ _ a)) (l.out.2.2.2.trans (k5.less (fun b a=>qJ _ a))));clear V k5 C c1;cases d:cO t
   ·obtain⟨u1,u2⟩:=DC d;have i:=qQ (show R=(t,k) by rw[<-y.out,O.out,qZ (by decide),d,qV rfl]);clear d;go_wp2;go_ret;rw[i.out];exact⟨rfl,m.out.1,m.out.2⟩
   ·have i:=qQ (show R=(0,k) by rw[<-y.out,O.out,qZ (by decide),d,qZ (by decide)]);have u12:=DD d;clear d;rcases u12 with⟨u1,rfl⟩|⟨u1,u2,rfl⟩
    all_goals
     go_wp2_with fail;rw[rounds_succ];go_wp2;go_ret;rw[i.out];exact⟨rfl,m.out.1,m.out.2⟩
end
end
section
open Go.RowKit Go.Shelf
section
variable {At:j6}{w0 w w' W:World}{gd gx r:Nat}{S:IxS}{D D':jL}{E N Fm Gr Gk:List Nat}
theorem js.back(m:IxM w w0.1.size gx gd r S Fm Gr Gk)(i:DS At w0 gd D (Fm++(Gr++(Gk++E))) w)(c:∀b∈Fm,b ∉ Gr/\b ∉ Gk/\b ∉ E)(g:∀b∈Gr,b ∉ Gk/\b ∉ E)(j:∀b∈Gk,b ∉ E)(l:∀b∈Fm++Gr,w0.1.size<=b)
  (o:DS At w0 gd D' (N++(Fm++(Gr++(Gk++E)))) w') (p:jM (Fm++(Gr++(Gk++E))) w w') (n:∀b∈N,w.1.size<=b):js At w0 gd gx r S D' (N++E) w':=by
 have d:=i.lt
 have f:∀b,b<w.1.size->b ∉ E->b ∉ N++E:=fun b a s q=>by
  rcases qD.1 q with k|k
  ·have:=n b k;omega
  ·exact s k
 refine⟨Fm,Gr,Gk,o.less (fun b a=>?_),m.keep (p.less fun b a=>?_),fun b a=>⟨(c b a).1,(c b a).2.1,f b (d b (qW _ a)) (c b a).2.2⟩,fun b a=>⟨(g b a).1,f b (d b (qJ _ (qW _ a))) (g b a).2⟩,fun b a=>f b (d b (qJ _ (qJ _ (qW _ a)))) (j b a),l⟩
 ·rcases qD.1 a with k|k
  ·exact qJ _ (qW _ k)
  ·rcases qD.1 k with k|k
   ·exact qJ _ (qJ _ (qW _ k))
   ·rcases qD.1 k with k|k
    ·exact qJ _ (qJ _ (qJ _ (qW _ k)))
    ·rcases qD.1 k with k|k
     ·exact qW _ k
     ·exact qJ _ (qJ _ (qJ _ (qJ _ k)))
 ·rcases qD.1 a with k|k
  ·exact qW _ k
  ·rcases qD.1 k with k|k
   ·exact qJ _ (qW _ k)
   ·exact qJ _ (qJ _ (qW _ k))
theorem jM.jV{G:List Nat}{w w':World}{base:Nat}{v:Value}{M:List ky}(h:jM G w w')(a:kC w base v M)(k:∀b∈jS v,b∈G):kC w' base v M:=by
 refine⟨a.1, ?_⟩;rcases a.2 with f|⟨g,c,d,e,i,j,r⟩
 ·exact qX f
 ·exact qY ⟨g,c,d,e,i,(h.block g (k g (ja.2 (by rw[e];rfl)))).trans j,r⟩
structure ui(At:j6)(w0:World)(gd:Nat)(w:World)(E N:List Nat)(D:jL)(Ls:List (List jI))(v:Value)(wr:World):Prop where
 ds:DS At w0 gd D (N++E) wr
 kept:jM E w wr
 new:∀b∈N,w.1.size<=b
 base:w0.1.size<=w.1.size
 xm:∀b∈E,b<w.1.size
 rows:∃L,kC wr w.1.size v L/\els L=Ls/\(∀b∈jS v,b∈N)/\∀x∈L,ju wr w.1.size x.v x.l/\∀b∈jS x.v,b∈N
theorem ui.shape{a:List (List jI)}{v:Value}(h:ui At w0 gd w E N D a v W):∃A n c,n=a.length/\v=.slice A n c:=by
 obtain⟨L,b,d,-⟩:=h.rows;obtain⟨A,c,rfl,-⟩:=vl b;exact⟨A,_,c,by rw[<-d,nE],rfl⟩
theorem ui.lists{a:List (List jI)}{v:Value}(h:ui At w0 gd w E N D a v W):∃L,QL W v L/\els L=a:=by
 obtain⟨L,b,c,g,d⟩:=h.rows;exact⟨L,kC.xH b (fun x f=>ju.xH (d x f).1),c⟩
theorem ui.nil(api:j8 At)(h:DS At w0 gd D E w):ui At w0 gd w E [] D [] (.slice none 0 0) w :=
 ⟨h,jM.refl _ _,fun b a=>(by cases a),h.kept.size,h.lt,[],kC.nil _ _,rfl,fun b a=>(by cases a),fun x c=>(by cases c)⟩
theorem ui.one(api:j8 At){A:Option Addr}{n c:Nat}{l:List jI}(h:DS At w0 gd D E w)(a:Below w.1.size w W)(g:ju W w.1.size (.slice A n c) l):
  ui At w0 gd w E (W.1.size::jS (.slice A n c)) D [l] (.slice (some ⟨W.1.size,0,none⟩) 1 1) (W.alloc (.cells #[.slice A n c] 112)):=by
 have i:=(qG W.1.size W).alloc (qK _) (.cells #[.slice A n c] 112);have d:=a.alloc (B:=w.1.size) a.size (.cells #[.slice A n c] 112);have j:W.1.size<(W.alloc (.cells #[.slice A n c] 112)).1.size:=by simp
 have f:=lW g;refine⟨h.more api d (fun b a=>?_),jM.xA d h.lt,fun b a=>?_,h.kept.size,h.lt,[⟨.slice A n c,l⟩],World.ownsRow_lit (base:=w.1.size) (e:=112) (size:=1) W #[.slice A n c] 1 a.size (by unfold maxLen;omega) rfl,rfl,fun b a=>?_,fun x m=>?_⟩
 ·rcases qM.1 a with e|k
  ·rw[e];exact⟨by have:=Below.size ‹Below w.1.size w W›;omega,j⟩
  ·have:=f b k;exact⟨this.1,by omega⟩
 ·rcases qM.1 a with e|k
  ·rw[e];exact Below.size ‹Below w.1.size w W›
  ·exact(f b k).1
 ·have e:b=W.1.size:=by simpa[jS,Value.ownBlock] using a
  rw[e];exact qC
 ·obtain rfl:=qH.1 m;exact⟨g.below i (qK _),fun b a=>qF _ a⟩
theorem ui.told{g:List (List jI)}{v u:Value}{l:List jI}(h:ui At w0 gd w E N D g v W)(o:DS At w0 gd D' (jS u++(N++E)) w')(d:jM (N++E) W w')(j:ju w' W.1.size u l):
  ui At w0 gd w E (jS u++N) D' g v w'/\ju w' w.1.size u l:=by
 obtain⟨L,m,n,i,c⟩:=h.rows;have q:=h.kept.size;have p:=lW j;refine⟨⟨o.less (fun b a=>?_),h.kept.trans (d.less (fun b a=>qJ _ a)),fun b a=>?_,h.base,h.xm,L,d.jV m (fun b a=>qW _ (i b a)),n,fun b a=>qJ _ (i b a),fun x f=>⟨d.row (c x f).1 (fun b a=>qW _ ((c x f).2 b a)),fun b a=>qJ _ ((c x f).2 b a)⟩⟩,j.down q⟩
 ·rw[qh]at a;exact a
 ·rcases qD.1 a with k|k
  ·have:=(p b k).1;omega
  ·exact h.new b k
theorem ui.add(api:j8 At){s:List (List jI)}{A d:Option Addr}{n c g f:Nat}{l:List jI}(h:ui At w0 gd w E N D s (.slice A n c) W)(Z:ju W w.1.size (.slice d g f) l)(z:∀b∈jS (.slice d g f),b∈N)(hn:s.length<=500000)(R:TypeId):
  ∃i j w' T,(Builtin.append_ #[159,159] R #[.slice A n c,.slice (some ⟨W.1.size,0,none⟩) 1 1]).run prog (W.alloc (.cells #[.slice d g f] 112))=.ok (.slice i (n+1) j) w'/\ui At w0 gd w E T D (s++[l]) (.slice i (n+1) j) w':=by
 obtain⟨L,I,J,m,K⟩:=h.rows;have v:=(qG W.1.size W).alloc (qK _) (.cells #[.slice d g f] 112)
 have p:L.length=n:=by
  obtain⟨A2,c2,e,-⟩:=vl I;exact(Value.slice.inj e).2.1.symm
 have C:=kC.alloc I (.cells #[.slice d g f] 112);have hz:=h.kept.size;have aa:w.1.size<=(W.alloc (.cells #[.slice d g f] 112)).1.size:=by simp;omega
 obtain⟨i,j,w',G,o,t,H⟩:=GX (M:=[⟨.slice d g f,l⟩]) C (Rs W ⟨.slice d g f,l⟩) (fun u z=>by
  obtain rfl:u=.slice d g f:=by simpa[dj] using z
  rfl) (by rw[p,<-p,<-nE,J];simp;omega) aa R
 rw[p]at G o H;have O:jP (jS (.slice A n c)) W w':=((jP.xA v).more (fun x B=>by cases B)).grown t (fun k V=>qX (ja.2 V))
 have Q:∀b∈jS (.slice i (n+1) j),b∈jS (.slice A n c)∨(W.1.size<=b/\b<w'.1.size):=fun b a=>by
  have y:=ja.1 a;rcases H with e|e
  ·exact qX (ja.2 (by rw[<-e];exact y))
  ·have X:=(o.lt b y).2;refine qY ⟨?_,X⟩;have F:(Value.slice i (n+1) j).ownBlock=some (W.alloc (.cells #[.slice d g f] 112)).1.size:=e;rw[y]at F;obtain rfl:=qb F;simp
 have P:∀b∈E,b ∉ jS (.slice A n c)/\b<W.1.size:=fun b a=>⟨fun Y=>(by have:=h.new b (m b Y);have:=h.xm b a;omega),h.ds.lt b (qJ _ a)⟩
 have U:jM E W w':=jM.xP O (fun b a=>⟨(P b a).2,(P b a).1⟩);refine⟨i,j,w',jS (.slice i (n+1) j)++N,G,⟨h.ds.xL api O (fun b a=>?_) (fun b a=>?_),h.kept.trans U,fun b a=>?_,h.base,h.xm,L++[⟨.slice d g f,l⟩],by rw[<-p]at o ⊢;exact o,by rw[show els (L++[⟨.slice d g f,l⟩])=els L++[l] from by unfold els;rw[List.map_append];rfl,J],fun b a=>qW _ a,fun x B=>?_⟩⟩
 ·exact⟨qW _ (m b a),qR h.base (h.new b (m b a))⟩
 ·rcases qD.1 a with k|k
  ·rcases qD.1 k with k|k
   ·rcases Q b k with q|q
    ·exact qX (qW _ (m b q))
    ·exact qY q
   ·exact qX (qW _ k)
  ·exact qX (qJ _ k)
 ·rcases qD.1 a with k|k
  ·rcases Q b k with q|q
   ·exact h.new b (m b q)
   ·omega
  ·exact h.new b k
 ·rcases qD.1 B with k|k
  ·exact⟨ju.zc ((K x k).1.below v (qK _)) C t,fun b a=>qJ _ ((K x k).2 b a)⟩
  ·obtain rfl:=qH.1 k;exact⟨ju.zc (Z.below v (qK _)) C t,fun b a=>qJ _ (z b a)⟩
end
def vh(D:jL)(n a:Nat)(m:ji):Nat × jL:=if a≠0 then(a,D) else if kS D n≠0 then(kS D n,uI D n) else uW (uI D n) m
noncomputable def Qe (D:jL)(n:Nat):TbS:=⟨n,tgL (rdW D (ptT n)).1,ldF (rdW D (ptT n)).2.2 n (tgL (rdW D (ptT n)).1)⟩
noncomputable def bF (S:IxS)(D:jL)(n b:Nat)(R:LvL)(a:Int):IxS:=if (vh D n b (kX S R a)).1=0 then fT S R a (Qe D n) S.mem else S
def mO(gx:Nat)(w w':World):Prop:=w'.cell? ⟨gx,8,none⟩=w.cell? ⟨gx,8,none⟩
theorem KJ: (160:TypeId)≠111:=by decide
section
variable {At:j6}(api:j8 At)(nap:kZ)(iap:gq At){w0 w w':World}{gd gx r:Nat}{S:IxS}{D:jL}{E:List Nat}
include api nap iap
theorem qKx(h:js At w0 gd gx r S D E w)(wf:WfP D)(hc:D.count<=1000000000)(n:Nat)(hn:S.m.next=(n:Nat))(ca:n<=999999)(a9:S.m.seed<18446744073709551616)(c:Int)(f:FuncId)(ak:Array Value)(hE:Enters prog f)(R:LvL)(F:Nat)
  (aR:Calls prog f (#[.int .i64 (n:Nat)]++ak) w (dG w R (F:Nat))) (hR:R.flatten.length<=100000) (hL:R.length<=100000) (a8:(tgL (rdW D (ptT n)).1).length<=10000) (hT:S.T.length<=1000):
  Calls prog 112 #[ptr gx,n,c,.func (.func f) #[] ak] w fun e w'=>nc At w0 gd gx r (err (vh D n F (kX S R c)).1) (bF S D n F R c) (vh D n F (kX S R c)).2 E w e w'/\mO gx w w':=by
 obtain⟨Fm,Gr,Gk,d1,hM,d3,I,J,d6⟩:=h;obtain⟨gm,A,cp,B,c2,t,hC⟩:=hM.cells;obtain⟨c0,c1,-,-,c4,-,c6,-,-⟩:=hC.cs;have g:=qQ hC;have Q:=qQ (qU d1 (qU d3 (qU I (qU J d6))))
 have aB:Hid (∀(D':jL) (W:World) (N:List Nat),DS At w0 gd D' (N++(Fm++(Gr++(Gk++E)))) W->jM (Fm++(Gr++(Gk++E))) w W->(∀b∈N,w.1.size<=b)->js At w0 gd gx r S D' E W/\jM E w W/\mO gx w W):=qQ fun D' W N hd X hN =>
  ⟨(js.back hM d1 d3 I J d6 hd X hN).less (fun b a=>qJ _ a),X.less (fun b a=>qJ _ (qJ _ (qJ _ a))),((X.xW hC.xW (qJ _ (qW _ hC.own))).cell 8).trans (hC.xW.cell 8).symm⟩
 unfold dG at aR;have a1:=qQ aR;have HR:=qQ hR;have HL:=qQ hL;have a0:=qQ a8;have aF:=qQ wf;have aX:=qQ hc;have HN:=qQ hn;have b3:=qQ a9;have a2:=qQ hT;unfold Enters at hE;have wn:(Lit.int .i64 (n:Nat)).wf=true:=WalkArith.wf_i64 (by omega);have WN:=qQ wn;have cy:(n:Int)<=999999:=by omega
 obtain⟨k,X⟩:∃k,k=R.length:=⟨_,rfl⟩
 rw[<-X]at a1;have HK:=qQ X;obtain⟨tp,aT⟩:∃tp,vh D n F (kX S R c)=tp:=⟨_,rfl⟩
 obtain⟨tx,aU⟩:∃tx,bF S D n F R c=tx:=⟨_,rfl⟩
 rw[aT,aU];have ah:=qQ aT;have ai:=qQ aU;clear aT aU;clear aR hC hM d1 d3 I J d6 hR hL a8 wf hc hn a9 hT wn ca X;go_enter func112,ntmps112;go_wp2_with fail;refine a1.out.mono ?_;rintro e w1⟨i,j,rfl,r1,b1⟩;obtain⟨G2,am,aP⟩:=r1.keep;have D1:=Q.out.1.more api b1 am;have K1:=jM.xA b1 Q.out.1.lt;by_cases ay:F=0
 case neg =>
  have t1:((F:Int) != 0)=true:=by simp;omega
  have V:vh D n F (kX S R c)=(F,D):=by unfold vh;rw[qV ay]
  have e2:bF S D n F R c=S:=by unfold bF;rw[V];exact qZ ay
  have K:=qQ (ah.out.symm.trans V);have M:=qQ (ai.out.symm.trans e2);have C:=qQ (aB.out D w1 G2 D1 K1 (fun b a=>(am b a).1));clear r1 b1 am aP D1 K1 V e2 ay c0 c1 c4 c6;go_wp2;go_ret;rw[K.out,M.out];exact⟨⟨rfl,C.out.1,C.out.2.1⟩,C.out.2.2⟩
 case pos =>
  subst ay;have co:=(K1.xW g.out.xW (qJ _ (qW _ g.out.own))).cell 1;have HO:=DY api nap D1 aF.out (by have:=aX.out;omega) (n:Nat) WN.out (fun _=>a0.out);unfold sR at HO;have ab:=qQ (qU am (qU aP (qU K1 b1)));have ar:=qQ HO;clear r1 b1 am aP D1 K1 HO c0 c1;by_cases Y:kS D n=0
  case neg =>
   have t1:((kS D n:Int) != 0)=true:=(by simp;omega);have V:vh D n 0 (kX S R c)=(kS D n,uI D n):=(by unfold vh;rw[qZ (by decide),qV Y]);have e2:bF S D n 0 R c=S:=(by unfold bF;rw[V];exact qZ Y);have K:=qQ (ah.out.symm.trans V);have M:=qQ (ai.out.symm.trans e2);have ag:=qQ (ar.out.mono (fun e w' h=>(h.resolve_left (fun q=>Y q.1)).2));clear V e2 Y ar ah ai;generalize kS D n=oe at*;go_wp2_with fail;refine ag.out.mono ?_;rintro e G⟨rfl,d2,k2⟩;have C:=qQ (aB.out _ G G2 d2 (ab.out.2.2.1.trans (k2.less (fun b a=>qJ _ a))) (fun b a=>(ab.out.1 b a).1));clear d2 k2;go_wp2;go_ret;rw[K.out,M.out];exact⟨⟨rfl,C.out.1,C.out.2.1⟩,C.out.2.2⟩
  case pos =>
   have ag:=ar.out.mono (fun e w' h=>(h.resolve_right (fun q=>q.1 Y)).2);unfold sO at ag;have bv:=qQ ag;have e0:vh D n 0 (kX S R c)=uW (uI D n) (kX S R c):=(by unfold vh;rw[qZ (by decide),qZ (fun q=>q Y)]);have aK:bF S D n 0 R c=if (uW (uI D n) (kX S R c)).1=0 then fT S R c (Qe D n) S.mem else S:=by unfold bF;rw[e0]
   have ba:Qe D n=⟨n,tgL (rdW D (ptT n)).1,ldF (rdW D (ptT n)).2.2 n (tgL (rdW D (ptT n)).1)⟩:=rfl;rw[ba]at aK;have K:=qQ (ah.out.symm.trans e0);have M:=qQ (ai.out.symm.trans aK);have wo:=KZ aF.out (n:Nat);have b4:=qQ wo;clear Y ar ag e0 aK ba wo a0 aF aX ah ai;generalize ldF (rdW D (ptT n)).2.2 n (tgL (rdW D (ptT n)).1)=ft at*;generalize tgL (rdW D (ptT n)).1=fl at*;generalize uI D n=D2 at*;go_wp2_with fail;refine bv.out.mono ?_;rintro e G⟨gt,H,rfl,hp,d2,k2,n2⟩;have K2:jM (Fm++(Gr++(Gk++E))) w G:=ab.out.2.2.1.trans (k2.less (fun b a=>qJ _ a));have c4:=(K2.xW g.out.xW (qJ _ (qW _ g.out.own))).cell 4;have hA:=(qG G.1.size G).alloc (qK _) (.cells #[.int .i64 ((n:Int)+1),c,.int .u64 (S.m.seed:Nat),.slice i k j] 47);have BM:=jN.new G 47 #[.int .i64 ((n:Int)+1),c,.int .u64 (S.m.seed:Nat),.slice i k j];have D3:=d2.more api hA (B:=[G.1.size]) (fun b a=>by rw[qH.1 a];exact⟨qK _,BM.lt⟩);have K3:jM (H++(G2++(Fm++(Gr++(Gk++E))))) G (G.alloc (.cells #[.int .i64 ((n:Int)+1),c,.int .u64 (S.m.seed:Nat),.slice i k j] 47)):=jM.xA hA d2.lt;obtain⟨gb,b9⟩:∃gb,G.1.size=gb:=⟨_,rfl⟩
   rw[b9]at BM D3;obtain⟨z,ce⟩:∃z,G.alloc (.cells #[.int .i64 ((n:Int)+1),c,.int .u64 (S.m.seed:Nat),.slice i k j] 47)=z:=⟨_,rfl⟩
   rw[ce]at BM D3 K3 hA;have aC:=qQ (show w.1.size<=gb from by have:=K2.size;omega);have P3:=qQ (hp.below hA);have D4:=D3.drew api;have aH:gz z.drew (.slice i k j) R G2:=(ab.out.2.1.step (k2.less (fun b a=>qW _ a))).step ((K3.less (fun b a=>qJ _ (qW _ a))).drew);have a5:∀b∈G2,b∈[gb]++(H++(G2++(Fm++(Gr++(Gk++E))))):=fun b a=>qJ _ (qJ _ (qW _ a))
   have HO:dc w0 ([gb]++(H++(G2++(Fm++(Gr++(Gk++E)))))) z.drew (.slice i k j) R:=fun W _ au=>aH W (au.less a5)
   have aE:=qQ (iap.swap ((n:Int)+1) c S.m.seed i k j R D4 b4.out HO HK.out HR.out HL.out b3.out);have K4:jM (Fm++(Gr++(Gk++E))) w z.drew:=(K2.trans (K3.less (fun b a=>qJ _ (qJ _ a)))).drew;have aY:=qQ K4;have bp:=qQ aH;have aW:=qQ BM
   have a4:∀b∈[gb]++(H++G2),w.1.size<=b:=fun b a=>by
    have:=ab.out.2.2.2.size;rcases qD.1 a with q|q
    ·rw[qH.1 q];exact aC.out
    ·rcases qD.1 q with q|q
     ·have:=n2 b q;omega
     ·exact(ab.out.1 b q).1
   have aZ:=qQ a4;have c1:z.drew.cell? ⟨gx,1,none⟩=some (ptr gd):=(K4.xW g.out.xW (qJ _ (qW _ g.out.own))).cell 1;obtain⟨m0,m1,m2,m3⟩:=mM BM;have cv:z.drew.cell? ⟨gx,1,none⟩=some (ptr gd)/\z.drew.cell? ⟨gb,0,none⟩=some (.int .i64 ((n:Int)+1))/\z.drew.cell? ⟨gb,1,none⟩=some (.int .i64 c)/\z.drew.cell? ⟨gb,2,none⟩=some (.int .u64 (S.m.seed:Nat))/\z.drew.cell? ⟨gb,3,none⟩=some (.slice i k j):=⟨c1,m0,m1,m2,m3⟩
   have a3:kX S R c=⟨(n:Int)+1,c,S.m.seed,R⟩:=(by unfold kX;rw[HN.out]);rw[a3]at K M;unfold yf at aE;unfold kD at aE;clear hA D3 K3 K2 D4 aH HO K4 BM a4 c1 m0 m1 m2 m3 hp d2 k2 n2 a5 a3;generalize cb:uW D2 ⟨(n:Int)+1,c,S.m.seed,R⟩=sp at*
   have bi:Hid (∀W,jM ([gb]++(H++(G2++(Fm++(Gr++(Gk++E)))))) z.drew W->W.cell? ⟨gx,1,none⟩=some (ptr gd)/\W.cell? ⟨gb,0,none⟩=some (.int .i64 ((n:Int)+1))/\W.cell? ⟨gb,1,none⟩=some (.int .i64 c)/\W.cell? ⟨gb,2,none⟩=some (.int .u64 (S.m.seed:Nat))/\W.cell? ⟨gb,3,none⟩=some (.slice i k j)):=qQ fun W au=>by
    have B1:=(aY.out.trans (au.less (fun b a=>qJ _ (qJ _ (qJ _ a))))).xW g.out.xW (qJ _ (qW _ g.out.own));have B2:=au.xW aW.out.drew (qW _ qC);exact⟨B1.cell 1,mM B2⟩
   clear cb;go_wp2_with fail
   go_region_held3 (fun W=>W.cell? ⟨gx,1,none⟩=some (ptr gd)/\W.cell? ⟨gb,0,none⟩=some (.int .i64 ((n:Int)+1))/\W.cell? ⟨gb,1,none⟩=some (.int .i64 c)/\W.cell? ⟨gb,2,none⟩=some (.int .u64 (S.m.seed:Nat))/\W.cell? ⟨gb,3,none⟩=some (.slice i k j))
    (first|(with_reducible assumption)|fail)
    (first
    | (go_at_call 180;((with_reducible refine aE.out.mono ?_);rintro e l⟨rfl,I,Z⟩;have aL:=bi.out l Z))
    | fail)
   obtain⟨bb,D5⟩:=sp;simp only at I aL K M
   have J:DS At w0 gd D5 (([gb]++(H++G2))++(Fm++(Gr++(Gk++E)))) l:=by
    rw[qh,qh];exact I
   have K5:jM (Fm++(Gr++(Gk++E))) w l:=aY.out.trans (Z.less (fun b a=>qJ _ (qJ _ (qJ _ a))));have ac:gz l (.slice i k j) R G2:=bp.out.step (Z.less (fun b a=>qJ _ (qJ _ (qW _ a))));have P5:=P3.out.drew.keep Z (fun b a=>qJ _ (qW _ a));have ap:=Z.xW aW.out.drew (qW _ qC);by_cases aS:bb=0
   case neg =>
    have t1:((bb:Int) != 0)=true:=(by simp;omega);have C:=qQ (aB.out D5 l _ J K5 aZ.out);have aq:=qQ (show tx=S from by rw[M.out];exact qZ aS);clear I J Z K5 ac P5 ap aS aL;go_wp2;go_ret;rw[K.out,aq.out];exact⟨⟨rfl,C.out.1,C.out.2.1⟩,C.out.2.2⟩
   case pos =>
    subst aS;have az:=nR (.slice i k j) R l ac.now HR.out HL.out;unfold bN at az;have aV:=qQ az;have H5:=qQ (qU J (qU K5 (qU ac (qU P5 ap))));obtain⟨O,aO⟩:∃O,O=R.flatten.length:=⟨_,rfl⟩
    rw[<-aO]at aV;have cn:=qQ aO;clear I J Z K5 ac P5 ap aL az aO;go_wp2_with fail;refine aV.out.mono ?_;rintro e w5⟨A6,ad,rfl,r6,b6⟩;have al:=(qG w5.1.size w5).alloc (qK _) (.cells #[.slice A6 O ad] 37);have B6:=jN.new w5 37 #[.slice A6 O ad];obtain⟨g6,b8⟩:∃g6,w5.1.size=g6:=⟨_,rfl⟩
    rw[b8]at B6;obtain⟨w6,ci⟩:∃w6,w5.alloc (.cells #[.slice A6 O ad] 37)=w6:=⟨_,rfl⟩
    rw[ci]at al B6;have aJ:Below l.1.size l w6:=b6.trans (al.mono b6.size);have av:=H5.out.1.lt;have aG:jM (([gb]++(H++G2))++(Fm++(Gr++(Gk++E)))) l w6:=jM.xA aJ av;have K6:jM (Fm++(Gr++(Gk++E))) w w6:=H5.out.2.1.trans (aG.less (fun b a=>qJ _ a));have aj:=K6.xW g.out.xW (qJ _ (qW _ g.out.own));have c6:=aj.cell 6;have cu:=aj.frozen 6;have R6:=K6.xf g.out.row (fun b a=>qJ _ (qW _ (g.out.xj b a)));have T6:=g.out.xO.keep K6 (fun b a=>qJ _ (qJ _ (qW _ a)));have I6:kN w6 (.slice A6 O ad) R.flatten:=(jy.xH r6).below al (qK _);have aQ:∀b∈jS (.slice A6 O ad),l.1.size<=b/\b<w5.1.size:=fun b a=>r6.lt b (ja.1 a)
    have an:∀b∈jS (.slice B t.length c2),b∈Gr/\b<l.1.size:=fun b a=>⟨g.out.xj b a,av b (qJ _ (qJ _ (qW _ (g.out.xj b a))))⟩
    have bk:=qQ (qKP (E:=Gk++(g6::jS (.slice A6 O ad))) T6 R6 B6 I6 (by have:=HR.out;omega) (by rw[g.out.xO.1];exact a2.out) (fun b a=>qW _ a) (qJ _ qC) (fun b a=>qJ _ (qF _ a)) (fun b a=>by
     have z5:=b6.size;have z6:=al.size;rcases qD.1 a with q|q
     ·refine⟨fun s=>(Q.out.2.2.1 b (an b s).1).1 q, ?_⟩;have:=av b (qJ _ (qJ _ (qJ _ (qW _ q))));omega
     ·rcases qM.1 q with e|q
      ·refine⟨fun s=>?_,by rw[e];exact B6.lt⟩;have:=(an b s).2;omega
      ·refine⟨fun s=>?_,by have:=(aQ b q).2;omega⟩;have:=(an b s).2;have:=(aQ b q).1;omega))
    have aD:=qQ (show gx ∉ jS (.slice B t.length c2) from fun s=>vO R6 aj KJ (ja.1 s));have b2:=qQ (fun(b:Nat) (a:b∈jS (.slice B t.length c2))=>(show b<w.1.size from Q.out.1.lt b (qJ _ (qW _ (an b a).1))));have aA:=qQ (qU aJ (qU aG (qU K6 aj)));have cx:∀(fn:Fn) (first ak:Array Value) (w:World),(Instr.makeFunc fn first ak).run prog w=.ok (.func fn first ak) w:=fun _ _ _ _=>rfl
    clear r6 b6 al B6 aJ av aG K6 aj R6 T6 I6 aQ an;go_wp2_with fail;refine bk.out.mono ?_;rintro e w7⟨u,rfl,r7,o7,t7⟩;obtain⟨P,U,rfl,-,-,-⟩:=r7.form
    have b_:(cl t S.T R.flatten).length<=1000:=by
     unfold cl;rw[qq];refine qR (List.length_filter_le _ _) ?_;rw[List.length_zip];have:=a2.out;omega
    obtain⟨d,aw⟩:∃d,d=(cl t S.T R.flatten).length:=⟨_,rfl⟩
    rw[<-aw]at r7 o7;rw[<-aw];have X7:=aA.out.2.2.2.xC t7 aD.out;have x6:=X7.cell 6;have f6:=X7.frozen 6;have X8:=X7.put 6 (.slice P d U);have a6:(Value.slice P d U).ownBlock≠some gx:=fun e=>aD.out (by rw[<-o7];exact ja.2 e)
    have r8:yK (w7.setCell ⟨gx,6,none⟩ (.slice P d U)) w0.1.size (.slice P d U) (cl t S.T R.flatten):=vz (p:=⟨gx,6,none⟩) r7 a6 _;have t8:jP (gx::jS (.slice B t.length c2)) l (w7.setCell ⟨gx,6,none⟩ (.slice P d U)):=(((jP.xA aA.out.1).more (fun x hx=>by cases hx)).trans t7 (fun x hx=>qX (qF _ hx))).setCell (p:=⟨gx,6,none⟩) (qX qC) _;have aM:gb ∉ jS (.slice B t.length c2):=fun s=>by have:=b2.out gb s;have:=aC.out;omega
    have aN:gx≠gb:=fun e=>by
     have h1:=Q.out.1.lt gx (qJ _ (qW _ g.out.own));have:=aC.out;omega
    have M8:=((jN.below H5.out.2.2.2.2 aA.out.1).xC t7 aM).xD (p:=⟨gx,6,none⟩) (fun e=>aN e.symm) (.slice P d U);obtain⟨w8,ck⟩:∃w8,w7.setCell ⟨gx,6,none⟩ (.slice P d U)=w8:=⟨_,rfl⟩
    rw[ck]at r8 t8 X8 M8;have c6:=X8.cell 6;have a_:w0.1.size<=w8.1.size:=(by have:=Q.out.1.kept.size;have:=H5.out.2.1.size;have:=t8.size;omega);obtain⟨v,y,w9,e9,r9,t9,o9⟩:=DA gt 108 r8 aw (by omega) a_;have X9:=X8.xC t9 (fun s=>aD.out (by rw[<-o7];exact s));have M9:=M8.xC t9 (fun s=>aM (by rw[<-o7];exact s));have y6:=X9.cell 6;have g9:=X9.frozen 6;have o:=X9.put 6 (.slice v (d+1) y);have aI:=M9.xD (p:=⟨gx,6,none⟩) (fun e=>aN e.symm) (.slice v (d+1) y);have a7:(Value.slice v (d+1) y).ownBlock≠some gx:=vO r9 X9 KJ;have aa:yK (w9.setCell ⟨gx,6,none⟩ (.slice v (d+1) y)) w0.1.size (.slice v (d+1) y) (cl t S.T R.flatten++[gt]):=vz (p:=⟨gx,6,none⟩) r9 a7 _;have ao:jP (gx::jS (.slice B t.length c2)) l (w9.setCell ⟨gx,6,none⟩ (.slice v (d+1) y)):=(t8.trans t9 (fun x hx=>qX (qF _ (by rw[<-o7];exact hx)))).setCell (p:=⟨gx,6,none⟩) (qX qC) _
    have b0:=qQ (fun(b:Nat) (a:b∈jS (.slice v (d+1) y))=>(show b∈jS (.slice B t.length c2)∨(l.1.size<=b/\b<w9.1.size) from by
     rcases o9 b a with q|q
     ·exact qX (by rw[<-o7];exact q)
     ·exact qY ⟨qR t8.size q.1,q.2⟩))
    have bm:=qQ e9;have ae:(w9.setCell ⟨gx,6,none⟩ (.slice v (d+1) y)).1.size=w9.1.size:=(by simp[World.setCell]);obtain⟨af,cc⟩:∃af,w9.setCell ⟨gx,6,none⟩ (.slice v (d+1) y)=af:=⟨_,rfl⟩
    rw[cc]at aa ao o aI ae;obtain⟨m0,m1,m2,m3⟩:=mM aI;have z2:=o.cell 2;have z3:=o.cell 3;have z4:=o.cell 4;have z5:=o.cell 5;have v2:=o.frozen 2;have v3:=o.frozen 3;have v4:=o.frozen 4;have v5:=o.frozen 5;have b5:=qQ (qU o (qU aa (qU ao ae)));clear r7 o7 t7 b_ X7 X8 a6 r8 t8 aM aN M8 a_ e9 r9 t9 o9 X9 M9 o aI a7 aa ao ae aw;go_wp2_with (first|(at_builtin;refine yC rfl _ _ rfl rfl rfl bm.out ?_)|fail);go_ret;have aq:=M.out;rw[qV (by trivial)]at aq;rw[K.out,aq];obtain⟨o,aa,ao,ae⟩:=b5.out;have q1:=aa
    have F1:jN ((((af.setCell ⟨gx,2,none⟩ (.int .i64 ((n:Int)+1))).setCell ⟨gx,3,none⟩ (.int .i64 c)).setCell ⟨gx,4,none⟩ (.int .u64 (S.m.seed:Nat))).setCell ⟨gx,5,none⟩ (.slice i k j)) gx 111 #[ptr gx,ptr gd,.int .i64 (S.m.next+1),c,.int .u64 (S.m.seed:Nat),.slice i k j,.slice v (d+1) y,.float .f64 r,mtp gm]:=by
     rw[HN.out];exact(((o.put 2 _).put 3 _).put 4 _).put 5 _
    have ax:(Value.slice v (d+1) y).ownBlock≠some gx:=vO aa o KJ;have F2:yK ((((af.setCell ⟨gx,2,none⟩ (.int .i64 ((n:Int)+1))).setCell ⟨gx,3,none⟩ (.int .i64 c)).setCell ⟨gx,4,none⟩ (.int .u64 (S.m.seed:Nat))).setCell ⟨gx,5,none⟩ (.slice i k j)) w0.1.size (.slice v (d+1) y) (cl t S.T R.flatten++[gt]):=vz (vz (vz (vz aa ax _) ax _) ax _) ax _;have F3:jP (gx::jS (.slice B t.length c2)) l ((((af.setCell ⟨gx,2,none⟩ (.int .i64 ((n:Int)+1))).setCell ⟨gx,3,none⟩ (.int .i64 c)).setCell ⟨gx,4,none⟩ (.int .u64 (S.m.seed:Nat))).setCell ⟨gx,5,none⟩ (.slice i k j)):=(((ao.setCell (p:=⟨gx,2,none⟩) (qX qC) _).setCell (p:=⟨gx,3,none⟩) (qX qC) _).setCell (p:=⟨gx,4,none⟩) (qX qC) _).setCell (p:=⟨gx,5,none⟩) (qX qC) _;have F4:((((af.setCell ⟨gx,2,none⟩ (.int .i64 ((n:Int)+1))).setCell ⟨gx,3,none⟩ (.int .i64 c)).setCell ⟨gx,4,none⟩ (.int .u64 (S.m.seed:Nat))).setCell ⟨gx,5,none⟩ (.slice i k j)).1.size=w9.1.size:=(by simp only[World.setCell,Array.size_modify]at ae ⊢;exact ae);obtain⟨J,K5,ac,P5,ap⟩:=H5.out;obtain⟨d1,d3,I,b7,d6⟩:=Q.out
    have HT:=qKT (N:=[gb]++(H++G2)) (G2:=G2) (H:=H) api g.out d1 d3 I b7 d6 J K5 aZ.out ac (fun b a=>qJ _ (qJ _ a)) P5 (fun b a=>qJ _ (qW _ a)) HN.out F3 F1 F2 (fun b a=>by
     rcases b0.out b a with q|q
     ·exact qX q
     ·exact qY ⟨q.1,by rw[F4];exact q.2⟩)
    exact⟨⟨rfl,HT⟩,(F1.cell 8).trans (g.out.xW.cell 8).symm⟩
end
def vt(D:jL)(n:Nat)(l:List jI)(t:Tw)(a:Nat)(m:ji):Nat × jL :=
 if (kG D n l t).1≠0 then kG D n l t
 else if (vh (kG D n l t).2 n a m).1≠0 then((vh (kG D n l t).2 n a m).1,(uC (vh (kG D n l t).2 n a m).2 n).2)
 else vh (kG D n l t).2 n a m
noncomputable def uG (S:IxS)(D:jL)(n:Nat)(l:List jI)(t:Tw)(b:Nat)(R:LvL)(a:Int):IxS:=if (kG D n l t).1≠0 then S else bF S (kG D n l t).2 n b R a
theorem KK{D:jL}(h:WfP D)(n a:Nat)(m:ji):WfP (vh D n a m).2:=by
 unfold vh;split
 ·exact h
 ·split
  ·exact KZ h _
  ·exact Nl (KZ h _) m
section
variable {At:j6}(api:j8 At)(nap:kZ)(iap:gq At){w0 w w':World}{gd gx r:Nat}{S:IxS}{D:jL}{E:List Nat}
theorem js.zu{D':jL}(h:js At w0 gd gx r S D E w){P:Program}{f:FuncId}{args:Array Value}{Q:Ending->World->Prop}
  (o:∀E',(∀b∈E,b∈E')->DS At w0 gd D E' w->Calls P f args w fun e w'=>DS At w0 gd D' E' w'/\jM E' w w'/\Q e w'):Calls P f args w fun e w'=>js At w0 gd gx r S D' E w'/\jM E w w'/\mO gx w w'/\Q e w':=by
 obtain⟨Fm,Gr,Gk,g,i,j,l,m,n⟩:=h;obtain⟨s,A,p,B,c2,t,c⟩:=i.cells;refine(o _ (fun b a=>qJ _ (qJ _ (qJ _ a))) g).mono ?_;rintro e w'⟨d,k,q⟩;refine⟨js.back (N:=[]) i g j l m n d k (fun b a=>by cases a),k.less (fun b a=>qJ _ (qJ _ (qJ _ a))), ?_,q⟩;exact((k.xW c.xW (qJ _ (qW _ c.own))).cell 8).trans (c.xW.cell 8).symm
include api nap iap
theorem DF(h:js At w0 gd gx r S D E w)(H:WfP D)(p:D.down=false)(hc:D.count<=1000000000)(n:Nat)(hn:S.m.next=(n:Nat))(aa:n<=999999)(al:S.m.seed<18446744073709551616)(hr:r<18446744073709551616)
  (v:Value) (l:List jI) (hv:kB w v l) (ax:∀b∈jS v,b∈E) (hl:l.length<=1000) (ai:∀x∈l,ks x) (F:uq l=true)
  (a:Int) (f:FuncId) (C:Array Value) (hE:Enters prog f) (R:LvL) (c:Nat)
  (ak:∀W D',js At w0 gd gx r S D' E W->jM E w W->Calls prog f (#[.int .i64 (n:Nat)]++C) W (dG W R (c:Nat))) (hR:R.flatten.length<=100000) (hL:R.length<=100000)
  (aj:∀t,bV l r t->(kG D n l t).1=0->(tgL (rdW (kG D n l t).2 (ptT n)).1).length<=10000) (hT:S.T.length<=1000):
  Calls prog 64 #[ptr gx,v,a,.func (.func f) #[] C] w fun e w'=>∃t,bV l r t/\nc At w0 gd gx r (err (vt D n l t c (kX S R a)).1) (uG S D n l t c R a) (vt D n l t c (kX S R a)).2 E w e w'/\mO gx w w':=by
 have hI:=h;obtain⟨Fm,Gr,Gk,Q,V,d3,s,d5,d6⟩:=h;obtain⟨gm,A,cp,B,c2,ps,u⟩:=V.cells;obtain⟨c0,c1,ar,-,-,-,-,c7,-⟩:=u.cs;rw[hn]at ar;have wn:(Lit.int .i64 (n:Nat)).wf=true:=WalkArith.wf_i64 (by omega);have am:kB w.drew v l:=hv.below (qG _ _).drew (qK _);have g:=qKq api nap (Q.drew api) H (n:Nat) wn v l am hl ai r hr (Zk aa) F p;have P:=qQ g;have aw:w.drew.cell? ⟨gx,1,none⟩=some (ptr gd)/\w.drew.cell? ⟨gx,7,none⟩=some (.float .f64 r):=⟨c1,c7⟩
 have HI:=qQ hI
 have ac:Hid (∀(D':jL) (W:World),DS At w0 gd D' (Fm++(Gr++(Gk++E))) W->jM (Fm++(Gr++(Gk++E))) w.drew W->js At w0 gd gx r S D' E W/\jM E w W/\(W.cell? ⟨gx,1,none⟩=some (ptr gd)/\W.cell? ⟨gx,7,none⟩=some (.float .f64 r))/\mO gx w W):=qQ fun D' W p Y=>by
  have Z:jM (Fm++(Gr++(Gk++E))) w W:=(jM.refl _ w).drew.trans Y;have I:=Z.xW u.xW (qJ _ (qW _ u.own));exact⟨js.back (N:=[]) V Q d3 s d5 d6 p Z (fun b X=>by cases X),Z.less (fun b X=>qJ _ (qJ _ (qJ _ X))),⟨I.cell 1,I.cell 7⟩,(I.cell 8).trans (u.xW.cell 8).symm⟩
 have ae:Hid (∀t,bV l r t->(kG D n l t).1=0->∀W,js At w0 gd gx r S (kG D n l t).2 E W->jM E w W->Calls prog 112 #[ptr gx,n,a,.func (.func f) #[] C] W fun e w'=>(nc At w0 gd gx r (err (vh (kG D n l t).2 n c (kX S R a)).1) (bF S (kG D n l t).2 n c R a) (vh (kG D n l t).2 n c (kX S R a)).2 E W e w'/\mO gx W w')):=qQ fun t F h0 W g Y =>
  qKx api nap iap g (sS H _ _ _) (by rw[(qKJ D n l t).count];exact hc) n hn aa al a f C hE R c (ak W _ g Y) hR hL (aj t F h0) hT
 have ad:Hid (∀t (o:IxS) W,js At w0 gd gx r o (vh (kG D n l t).2 n c (kX S R a)).2 E W->Calls prog 74 #[ptr gd,n] W fun e w'=>js At w0 gd gx r o (uC (vh (kG D n l t).2 n c (kX S R a)).2 n).2 E w'/\jM E W w'/\mO gx W w'/\e=.returned (err (uC (vh (kG D n l t).2 n c (kX S R a)).2 n).1)):=qQ fun t o W g =>
  g.zu (fun E' _ p=>(DE api nap p (KK (sS H _ _ _) _ _ _) (n:Nat) wn).mono fun e w' h=>⟨h.2.1,h.2.2,h.1⟩)
 have ap:Hid (∀(o:IxS) (D':jL) W,js At w0 gd gx r o D' E W->W.cell? ⟨gx,1,none⟩=some (ptr gd)):=qQ fun o D' W g=>by
  obtain⟨_,_,_,_,av,_⟩:=g;obtain⟨_,_,_,_,_,_,au⟩:=av.cells;exact au.cs.2.1
 obtain⟨Av,ov,cv,rfl,-,-⟩:=hv.form;obtain⟨nv,ah⟩:∃nv,nv=l.length:=⟨_,rfl⟩
 rw[<-ah]at P ⊢;clear hI Q V u d3 s d5 d6 H p hc hn aa al hr hv ax hl ai F hE ak hR hL aj hT wn am g ah c0;go_enter func64,ntmps64;go_wp2_with fail
 go_region_held3 (fun W=>W.cell? ⟨gx,1,none⟩=some (ptr gd)/\W.cell? ⟨gx,7,none⟩=some (.float .f64 r))
  (first|(with_reducible assumption)|fail)
  (first
  | (go_at_call 111;((with_reducible refine P.out.mono ?_);rintro e w4⟨t,ag,rfl,s,k4⟩;have U:=ac.out _ w4 s k4;have af:=U.2.2.1))
  | fail)
 have j:=qQ U;have y:=qQ ag;clear U s k4 ag P ac aw;by_cases d:(kG D n l t).1=0
 case neg =>
  have G:(((kG D n l t).1:Int) != 0)=true:=by simp;omega
  have i:Hid (vt D n l t c (kX S R a)=kG D n l t/\uG S D n l t c R a=S):=qQ ⟨by unfold vt;rw[qV d],by unfold uG;rw[qV d]⟩;clear d af;have HQ:=qQ (show ∀z,(kG D n l t).1=z->(kG D n l t).1=z from fun z h=>h);obtain⟨z,hz⟩:∃z,(kG D n l t).1=z:=⟨_,rfl⟩
  have HZ:=qQ hz;rw[hz]at G ⊢;clear hz;go_wp2;go_ret;refine⟨t,y.out, ?_⟩;rw[i.out.1,i.out.2,HZ.out];exact⟨⟨rfl,j.out.1,j.out.2.1⟩,j.out.2.2.2⟩
 case pos =>
  have G:(((kG D n l t).1:Int) != 0)=false:=by rw[d];rfl
  have M:=ae.out t y.out d w4 j.out.1 j.out.2.1;have K:=qQ (ad.out t);unfold nc at M;have O:=qQ M;have i:Hid (((vh (kG D n l t).2 n c (kX S R a)).1=0->vt D n l t c (kX S R a)=vh (kG D n l t).2 n c (kX S R a))/\((vh (kG D n l t).2 n c (kX S R a)).1≠0->vt D n l t c (kX S R a)=((vh (kG D n l t).2 n c (kX S R a)).1,(uC (vh (kG D n l t).2 n c (kX S R a)).2 n).2))/\uG S D n l t c R a=bF S (kG D n l t).2 n c R a):=qQ ⟨fun q=>by unfold vt;rw[qZ (fun h=>h d),qZ (fun h=>h q)],fun q=>by unfold vt;rw[qZ (fun h=>h d),qV q],by unfold uG;rw[qZ (fun h=>h d)]⟩;rw[d];clear ae ad M d G af;generalize bF S (kG D n l t).2 n c R a=tx at*;generalize vh (kG D n l t).2 n c (kX S R a)=tp at*;obtain⟨an,D5⟩:=tp;simp only at O K i;go_wp2_with fail;refine O.out.mono ?_;rintro e w5⟨⟨rfl,i5,k5⟩,s5⟩;have k:=qQ (qU i5 (qU (j.out.2.1.trans k5) (s5.trans j.out.2.2.2)));have c1:=ap.out _ _ _ i5;clear i5 k5 s5 O;by_cases ab:an=0
  case pos =>
   subst ab;go_wp2;go_ret;refine⟨t,y.out, ?_⟩;rw[i.out.1 (by trivial),i.out.2.2];exact⟨⟨rfl,k.out.1,k.out.2.1⟩,k.out.2.2⟩
  case neg =>
   have G:((an:Int) != 0)=true:=(by simp;omega);have aq:=qQ ab;have ao:=qQ (K.out tx w5 k.out.1);clear ab K;go_wp2_with fail;refine ao.out.mono ?_;rintro e w6⟨i6,k6,s6,rfl⟩;have J:=qQ (qU i6 (qU (k.out.2.1.trans k6) (s6.trans k.out.2.2)));clear i6 k6 s6;go_wp2;go_ret;refine⟨t,y.out, ?_⟩;rw[i.out.2.1 aq.out,i.out.2.2];exact⟨⟨rfl,J.out.1,J.out.2.1⟩,J.out.2.2⟩
end
theorem qKz(L:LvL)(n:Int):(kL L n).length<=5/\(kL L n).flatten.length<=41:=by
 by_cases h:yU L n=0
 ·have:=Kg h;exact⟨this.1.1,by have:=this.1.2.1;omega⟩
 ·unfold kL;rw[qZ h];exact⟨qI _,qI _⟩
theorem qKj(L:LvL)(k n:Int):(kh L k n).length<=5/\(kh L k n).flatten.length<=41:=by
 by_cases h:yL L k n=0
 ·have:=Kb h;exact⟨this.1.1,by have:=this.1.2.1;omega⟩
 ·unfold kh;rw[qZ h];exact⟨qI _,qI _⟩
section
variable {At:j6}(api:j8 At){w0 w W:World}{gd gx r gb gk:Nat}{S:IxS}{D:jL}{E:List Nat}
theorem js.zZ(h:js At w0 gd gx r S D E w):∃A cp,w.cell? ⟨gx,5,none⟩=some (.slice A S.m.lv.length cp)/\km w (.slice A S.m.lv.length cp) S.m.lv:=by
 obtain⟨Fm,Gr,Gk,-,b,-⟩:=h;obtain⟨c,A,cp,B,c2,d,a⟩:=b.cells;exact⟨A,cp,a.cs.2.2.2.2.2.1,a.lv.now⟩
theorem qKk(h:js At w0 gd gx r S D E W)(b:kF S.m)(i:jN W gb 71 #[ptr gx])(n:Int)(k:Nat)(j:yU S.m.lv n=(k:Nat)):
  Calls prog 67 (#[.int .i64 n]++#[ptr gb]) W (dG W (kL S.m.lv n) (k:Nat)):=by
 obtain⟨A,u,t,l⟩:=h.zZ;have s:=i.cell 0;have a:=qJX _ S.m.lv n W l (by have:=b.2.2.2.2.1.2.1;omega) (by have:=b.2.2.2.2.1.1;omega);rw[j]at a;unfold dG at a ⊢;have f:=qQ a;show Calls prog 67 #[n,ptr gb] W _;obtain⟨m,c⟩:∃m,m=(kL S.m.lv n).length:=⟨_,rfl⟩
 have q:=qQ c;rw[<-c]at f ⊢;clear h b i j l a c;generalize kL S.m.lv n=R at*;go_enter func67,ntmps67;go_wp2_with fail;refine f.out.mono ?_;rintro e v⟨p,c1,rfl,o,g⟩;have d:=qQ (qU o g);clear o g;go_wp2;go_ret2;exact⟨p,c1,rfl,d.out.1,d.out.2⟩
theorem qKv(h:js At w0 gd gx r S D E W)(j:kF S.m)(s:jN W gb 71 #[ptr gx])(a:Int)(t:jN W gk 3 #[a])(n:Int)(k:Nat)(u:yL S.m.lv a n=(k:Nat)):
  Calls prog 72 (#[.int .i64 n]++#[ptr gb,ptr gk]) W (dG W (kh S.m.lv a n) (k:Nat)):=by
 obtain⟨A,i,g,v⟩:=h.zZ;have c:=s.cell 0;have f:=t.cell 0;have b:=qJZ _ S.m.lv a n W.drew (v.below (qG _ _).drew (qK _)) (by have:=j.2.2.2.2.1.2.1;omega) (by have:=j.2.2.2.2.1.1;omega);rw[u]at b;unfold dG at b ⊢;have q:=qQ b;show Calls prog 72 #[n,ptr gb,ptr gk] W _;obtain⟨m,l⟩:∃m,m=(kh S.m.lv a n).length:=⟨_,rfl⟩
 have H:=qQ l;rw[<-l]at q ⊢;have I:W.drew.cell? ⟨gb,0,none⟩=some (ptr gx)/\W.drew.cell? ⟨gk,0,none⟩=some (.int .i64 a)/\W.drew.cell? ⟨gx,5,none⟩=some (.slice A S.m.lv.length i):=⟨c,f,g⟩
 have B:Hid (∀w',Below W.drew.1.size W.drew w'->w'.cell? ⟨gb,0,none⟩=some (ptr gx)/\w'.cell? ⟨gk,0,none⟩=some (.int .i64 a)/\w'.cell? ⟨gx,5,none⟩=some (.slice A S.m.lv.length i)):=qQ fun w' hw =>
  ⟨(hw.cell (p:=⟨gb,0,none⟩) (World.block_lt_of_cell? W _ c)).trans c,(hw.cell (p:=⟨gk,0,none⟩) (World.block_lt_of_cell? W _ f)).trans f,(hw.cell (p:=⟨gx,5,none⟩) (World.block_lt_of_cell? W _ g)).trans g⟩
 clear h j s t u v b l;generalize kh S.m.lv a n=R at*;generalize S.m.lv.length=F at*;go_enter func72,ntmps72;go_wp2_with fail
 go_region_held3 (fun w'=>w'.cell? ⟨gb,0,none⟩=some (ptr gx)/\w'.cell? ⟨gk,0,none⟩=some (.int .i64 a)/\w'.cell? ⟨gx,5,none⟩=some (.slice A F i))
  (first|(with_reducible assumption)|fail)
  (first
  | (go_at_call 73;((with_reducible refine q.out.mono ?_);rintro e G⟨z,c1,rfl,y,d⟩;have C:=B.out G d))
  | fail)
 have o:=qQ (qU y d);clear y d C;go_wp2;go_ret2;exact⟨z,c1,rfl,o.out.1,(qG _ W).drew.trans o.out.2⟩
end
def dB(f:Nat)(D:jL)(S:IxS)(t:Tw)(n a:Nat)(en:Int):Nat × jL :=
 if f≠0 then(f,D) else if S.mem=[] then(0,D) else vt D n S.mem t a (kX S (kL S.m.lv n) en)
noncomputable def dC (f:Nat)(D:jL)(S:IxS)(t:Tw)(n a:Nat)(en:Int):IxS :=
 if f≠0 then S else if S.mem=[] then S
 else if (vt D n S.mem t a (kX S (kL S.m.lv n) en)).1=0 then { uG S D n S.mem t a (kL S.m.lv n) en with mem:=[] } else uG S D n S.mem t a (kL S.m.lv n) en
theorem IxM.zg{w:World}{base gx gd r:Nat}{S:IxS}{Fm Gr Gk:List Nat}(h:IxM w base gx gd r S Fm Gr Gk):∃a,w.cell? ⟨gx,8,none⟩=some (mtp a)/\vE w base a Fm S.mem:=by
 obtain⟨a,A,c,B,c2,d,b⟩:=h.cells;exact⟨a,b.cs.2.2.2.2.2.2.2.2,b.mem⟩
section
variable {At:j6}(api:j8 At)(nap:kZ)(iap:gq At){w0 w w':World}{gd gl gx r:Nat}{S:IxS}{D:jL}{E:List Nat}{L:jq}
include api in
theorem qKy(h:js At w0 gd gx r S D E w):∃a,w.cell? ⟨gx,8,none⟩=some (mtp a)/\Calls prog 69 #[mtp a] w fun e w'=>e=.returned (.tuple #[])/\js At w0 gd gx r { S with mem:=[] } D E w'/\jM E w w':=by
 obtain⟨Fm,Gr,Gk,c,m,d,f,g,i⟩:=h;obtain⟨a,A,o,B,c2,p,b⟩:=m.cells;refine⟨a,b.cs.2.2.2.2.2.2.2.2,(Rq b.mem).mono ?_⟩;rintro e w'⟨n,rfl,j,k,l⟩;exact⟨rfl,js.zf api c b d f g i j k l⟩
include api nap iap
theorem qKu(h:js At w0 gd gx r S D (gl::E) w)(aJ:jN w gl 130 (gW (ptr gl) gd L))(aF:gl ∉ E)(al:w0.1.size<=gl)(wf:WfP D)(aD:L.chunks<=200)
  (R:WfP (yA D L).2.1) (O:(yA D L).2.1.down=false) (M:(yA D L).2.1.count<=1000000000) (ok:kV D S) (n:Nat) (hn:S.m.next=(n:Nat)) (aa:n<=999999) (hr:r<18446744073709551616) (hl:S.mem.length<=1000)
  (d:Nat) (ac:yU S.m.lv n=(d:Nat)) (Q:∀t,bV S.mem r t->(kG (yA D L).2.1 n S.mem t).1=0->(tgL (rdW (kG (yA D L).2.1 n S.mem t).2 (ptT n)).1).length<=10000):
  Calls prog 36 #[ptr gx,ptr gl] w fun e w'=>∃t,(S.mem=[]∨(yA D L).1≠0∨bV S.mem r t)/\e=.returned (err (dB (yA D L).1 (yA D L).2.1 S t n d (yA D L).2.2.endp).1) /\
   js At w0 gd gx r (dC (yA D L).1 (yA D L).2.1 S t n d (yA D L).2.2.endp) (dB (yA D L).1 (yA D L).2.1 S t n d (yA D L).2.2.endp).2 (gl::E) w'/\jN w' gl 130 (gW (ptr gl) gd (yA D L).2.2)/\jM E w w':=by
 have a:=(qG w.1.size w).alloc (qK _) (.cells #[ptr gx] 71);have G:=jN.new w 71 #[ptr gx];have aw:=qQ h.lt
 have c:=h.xL api (E':=gl::(w.1.size::E)) (B:=[]) (jP.xA a) (fun b a=>by cases a) (fun b l=>by
  rcases qM.1 l with e|l
  ·rw[e];exact qX qC
  ·rcases qM.1 l with e|l
   ·rw[e];exact qY ⟨qK _,G.lt⟩
   ·exact qX (qF _ l))
 have ap:=qQ (jM.xA a (fun b l=>aw.out b (qF _ l)));have ag:=jN.below aJ a;obtain⟨gb,aY⟩:∃gb,w.1.size=gb:=⟨_,rfl⟩
 rw[aY]at c G;obtain⟨w1,a2⟩:∃w1,w.alloc (.cells #[ptr gx] 71)=w1:=⟨_,rfl⟩
 rw[a2]at c G ap ag
 have ai:gl ∉ gb::E:=fun l=>by
  rcases qM.1 l with e|l
  ·have:=aw.out gl qC;omega
  ·exact aF l
 have ad:=c.flush api nap ag ai al wf aD
 have aU:Hid (∀(S':IxS) (D':jL) (E':List Nat) W,js At w0 gd gx r S' D' E' W->W.cell? ⟨gx,0,none⟩=some (ptr gx)):=qQ fun S' D' E' W k=>by
  obtain⟨_,_,_,_,aX,_⟩:=k;obtain⟨_,_,_,_,_,_,aW⟩:=aX.cells;exact aW.cs.1
 have c0:=aU.out _ _ _ _ c;have aZ:=qQ (pV c0);have X:=G.cell 0;have aP:=qQ G;have H:=qQ ok;have a3:=qQ (qU ai al);generalize yA D L=ft at*;obtain⟨f,i,j⟩:=ft;simp only at ad R O M Q ⊢;have aS:=qQ ad;clear h aJ aF al wf aD ag c G ok ai ad a c0;go_enter func36,ntmps36;go_wp2_with fail;refine X5 aZ.out ?_;go_wp2_with fail;refine aS.out.mono ?_;rintro e g⟨rfl,i2,l2,k2⟩;have ae:=qQ (ap.out.trans (k2.less (fun b a=>qF _ a)));have u:=qQ i2;have U:=qQ l2;have B2:=k2.xW aP.out qC;have X:=B2.cell 0;have am:=qQ B2;clear i2 l2 k2 B2;by_cases P:f=0
 case neg =>
  have t1:((f:Int) != 0)=true:=by simp;omega
  have q:=qQ (show ∀t,dB f i S t n d j.endp=(f,i)/\dC f i S t n d j.endp=S from fun t=>⟨by unfold dB;rw[qV P],by unfold dC;rw[qV P]⟩);have aR:=qQ P;clear P R O M hn aa hr hl ac Q;go_wp2;go_ret;refine⟨ByteArray.empty,qY (qX aR.out), ?_⟩;rw[(q.out _).1,(q.out _).2]
  exact⟨rfl,u.out.less (fun b a=>by
   rcases qM.1 a with e|a
   ·rw[e];exact qC
   ·exact qF _ (qF _ a)),U.out,ae.out⟩
 case pos =>
  subst P;obtain⟨Fm,Gr,Gk,-,hM,-⟩:=u.out;obtain⟨o,I,hT⟩:=hM.zg;have K:=qQ (R7 hT);clear hM hT;by_cases v:S.mem=[]
  ·have q:=qQ (show ∀t,dB 0 i S t n d j.endp=(0,i)/\dC 0 i S t n d j.endp=S from fun t=>⟨by unfold dB;rw[qZ (by decide),qV v],by unfold dC;rw[qZ (by decide),qV v]⟩);have V:=qQ v;rw[v]at K;have aV:=qQ (show Calls prog 63 #[mtp o] g (X0 (.int .i64 0) g) from K.out);clear v R O M hn aa hr hl ac Q K;go_wp2_with fail;refine X5 aV.out ?_;go_wp2;go_ret;refine⟨ByteArray.empty,qX V.out, ?_⟩;rw[(q.out _).1,(q.out _).2]
   exact⟨rfl,u.out.less (fun b a=>by
    rcases qM.1 a with e|a
    ·rw[e];exact qC
    ·exact qF _ (qF _ a)),U.out,ae.out⟩
  ·have aI:((S.mem.length:Int)==0)=false:=by
    have:=List.length_pos_iff.2 v;simp;omega
   have aK:∀x∈S.mem,ks x:=H.out.ok;have aN:uq S.mem=true:=Qa H.out.xI H.out.mayE;have af:=qQ (qU hl (qU aK aN));have V:=qQ v
   have z:Hid (∀W,Below g.1.size g W->js At w0 gd gx r S i (gl::(gb::E)) W/\jN W gl 130 (gW (ptr gl) gd j)/\jN W gb 71 #[ptr gx]/\W.cell? ⟨gx,8,none⟩=some (mtp o)/\jM E w W):=qQ fun W k =>
    ⟨u.out.below api k,jN.below U.out k,jN.below am.out k,(k.cell (p:=⟨gx,8,none⟩) (World.block_lt_of_cell? g _ I)).trans I,ae.out.trans (jM.xA k (fun b a=>u.out.lt b (qF _ (qF _ a))))⟩
   have T:Hid (Calls prog 65 #[mtp o] g.drew (dX g.drew S.mem)):=qQ (by
    obtain⟨Fm,Gr,Gk,-,hM,-⟩:=(u.out).drew api;obtain⟨Z,Y,aC⟩:=hM.zg
    have e:Z=o:=by
     have c:g.cell? ⟨gx,8,none⟩=some (mtp Z):=Y;rw[I]at c;injection c with c;injection c with c;injection c with c;injection c with c;exact c.symm
    rw[e]at aC;exact Rn aC.has (by omega))
   obtain⟨J,ab⟩:∃J,J=S.mem.length:=⟨_,rfl⟩
   have a4:=qQ ab;rw[<-ab]at K aI;unfold dX at T;rw[<-ab]at T;have a5:g.drew.cell? ⟨gb,0,none⟩=some (ptr gx)/\g.drew.cell? ⟨gx,8,none⟩=some (mtp o):=⟨X,I⟩
   have a6:∀(fn:Fn) (first ay:Array Value) (w:World),(Instr.makeFunc fn first ay).run prog w=.ok (.func fn first ay) w:=fun _ _ _ _=>rfl
   clear v hl aK aN ab;go_wp2_with fail;refine X5 K.out ?_;go_wp2_with fail;have an:Hid (∀W,jN W gl 130 (gW (ptr gl) gd j)->Calls prog 66 #[ptr gl] W (X0 (.int .i64 (j.endp:Nat)) W)):=qQ fun W k=>Yq (k.cell 0) (k.cell 4)
   have a1:=qKz S.m.lv n
   have ar:Hid (∀(y:Option Addr) (C:Nat) (W:World),Below g.drew.1.size g.drew W->ju W g.drew.1.size (.slice y J C) S.mem->Calls prog 64 #[ptr gx,.slice y J C,j.endp,.func (.func 67) #[] #[ptr gb]] W fun e w'=>∃t,bV S.mem r t /\
     nc At w0 gd gx r (err (vt i n S.mem t d (kX S (kL S.m.lv n) j.endp)).1) (uG S i n S.mem t d (kL S.m.lv n) j.endp) (vt i n S.mem t d (kX S (kL S.m.lv n) j.endp)).2 (jS (.slice y J C)++(gl::(gb::E))) W e w'/\mO gx W w'):=qQ fun y C W k aL=>by
    obtain⟨q1,q2,q3,q4,q5⟩:=z.out W ((qG _ g).drew.trans k);have a0:=lW aL;have i3:js At w0 gd gx r S i (jS (.slice y J C)++(gl::(gb::E))) W:=(u.out.drew api).more api k a0
    exact DF api nap iap i3 R O M n hn aa H.out.seed hr _ S.mem aL.xH (fun b a=>qW _ a) af.out.1 af.out.2.1 af.out.2.2 _ _ #[ptr gb] (enters_of func67 (by kernel_rfl) rfl) (kL S.m.lv n) d
     (fun W' D' hi hk=>qKk hi H.out.may (hk.xW q3 (qJ _ (qF _ qC))) n d ac) (by omega) (by omega) Q (by have:=H.out.xS;omega)
   have q:Hid (∀t,dB 0 i S t n d j.endp=vt i n S.mem t d (kX S (kL S.m.lv n) j.endp)/\dC 0 i S t n d j.endp=(if (vt i n S.mem t d (kX S (kL S.m.lv n) j.endp)).1=0 then { uG S i n S.mem t d (kL S.m.lv n) j.endp with mem:=[] } else uG S i n S.mem t d (kL S.m.lv n) j.endp)):=qQ fun t=>⟨by unfold dB;rw[qZ (by decide),qZ V.out],by unfold dC;rw[qZ (by decide),qZ V.out]⟩
   have ax:Hid (∀W,Below g.drew.1.size g.drew W->W.cell? ⟨gb,0,none⟩=some (ptr gx)/\W.cell? ⟨gx,8,none⟩=some (mtp o)):=qQ fun W k=>by
    obtain⟨q1,q2,q3,q4,q5⟩:=z.out W ((qG _ g).drew.trans k);exact⟨q3.cell 0,q4⟩
   clear aI R O M hn aa hr ac Q X I a1
   go_region_held3 (fun W=>W.cell? ⟨gb,0,none⟩=some (ptr gx)/\W.cell? ⟨gx,8,none⟩=some (mtp o))
    (first|(with_reducible assumption)|fail)
    (first
    | (go_at_call 65;((with_reducible refine T.out.mono ?_);rintro e F⟨y,C,rfl,r3,A⟩;have aA:=ax.out F A;have ao:=qQ (an.out F (z.out F ((qG _ g).drew.trans A)).2.1);have au:=qQ (ar.out y C F A r3)))
    | (go_at_call 66;((with_reducible refine X5 ao.out ?_)))
    | (go_at_call 64;((with_reducible refine au.out.mono ?_);rintro e w5⟨t,aE,aG,aM⟩;have aB:w5.cell? ⟨gb,0,none⟩=some (ptr gx)/\w5.cell? ⟨gx,8,none⟩=some (mtp o):=⟨(aG.2.2.xW (z.out F ((qG _ g).drew.trans A)).2.2.1 (qJ _ (qF _ qC))).cell 0,Eq.trans aM aA.2⟩;obtain⟨rfl,aH,ak⟩:=aG))
    | fail)
   all_goals
    have av:=qQ (ak.xW (z.out F ((qG _ g).drew.trans A)).2.1 (qJ _ qC));have aq:=qQ ((z.out F ((qG _ g).drew.trans A)).2.2.2.2.trans (ak.less (fun b a=>qJ _ (qF _ (qF _ a)))))
    have aj:=aH.less (E':=gl::E) (fun b a=>by
     rcases qM.1 a with e|a
     ·rw[e];exact qJ _ qC
     ·exact qJ _ (qF _ (qF _ a)))
    obtain⟨Z,Y,ah⟩:=qKy api aj
    have az:Z=o:=by
     have c:=aB.2.symm.trans Y;injection c with c;injection c with c;injection c with c;injection c with c;exact c.symm
    rw[az]at ah;have aQ:=qQ ah;have aT:=qQ aj;have s:=qQ (qU aE (q.out t));obtain⟨X,I⟩:=aB;clear aH ak aj ah aE Y az aM aA r3 A au ar q ao z ax T an u U am;generalize uG S i n S.mem t d (kL S.m.lv n) j.endp=S' at*;generalize vt i n S.mem t d (kX S (kL S.m.lv n) j.endp)=lp at*;obtain⟨aO,D5⟩:=lp;by_cases hz:aO=0
    ·subst hz;go_wp2_with fail;refine aQ.out.mono ?_;rintro e w6⟨rfl,i6,k6⟩;have H6:=qQ (qU i6 (qU (k6.xW av.out qC) (aq.out.trans (k6.less (fun b a=>qF _ a)))));clear i6 k6;go_wp2;go_ret;refine⟨t,(by first|exact qY s.out.1|exact qY (qY s.out.1)), ?_⟩;rw[s.out.2.1,s.out.2.2,qV (by trivial)];exact⟨rfl,H6.out.1,H6.out.2.1,H6.out.2.2⟩
    ·have t1:((aO:Int)==0)=false:=(by simp;omega);have HZ:=qQ hz;clear hz;go_wp2;go_ret;refine⟨t,(by first|exact qY s.out.1|exact qY (qY s.out.1)), ?_⟩;rw[s.out.2.1,s.out.2.2,qZ HZ.out];exact⟨rfl,aT.out,av.out,aq.out⟩
end
def KV(At:j6)(w0:World)(gd gx r:Nat)(S:IxS)(D:jL)(R:List jI)(m:Nat)(E:List Nat)(w:World)(e:Ending)(w':World):Prop :=
 ∃A c k,k<=m/\e=.returned (.tuple #[.slice A R.length c,.int .i64 0])/\ju w' w.1.size (.slice A R.length c) R/\js At w0 gd gx r S { D with count:=D.count+k } (jS (.slice A R.length c)++E) w'/\jM E w w'
def gD(S:IxS):Nat:=S.mem.length+vX (S.T.map TbS.l)
theorem DH(q:jI->Bool):∀(T:List TbS),vX (T.map fun t=>t.l.filter q)<=vX (T.map TbS.l)
 | []=>qK _
 | t::T=>by
   rw[List.map_cons,List.map_cons,bG,bG];have:=DH q T;have:=List.length_filter_le q t.l;omega
theorem KY{T:List TbS}{t:TbS}(h:t∈T):t.l.length<=vX (T.map TbS.l):=by
 induction T with
 | nil=>cases h
 | cons x T a =>
   rw[List.map_cons,bG];rcases qM.1 h with rfl|h
   ·omega
   ·have:=a h;omega
section
variable {At:j6}(api:j8 At)(nap:kZ){w0 w w':World}{gd gx r:Nat}{S:IxS}{D:jL}{E:List Nat}
include api nap
theorem qKg(h:js At w0 gd gx r S D E w)(ok:kV D S)(J:WfP D)(hc:D.count<=1000000000)(V:D.down=false)(Z:gD S<=40000)(x:Nat)(hx:x<18446744073709551616)(a b:Int)(wa:(Lit.int .i64 a).wf=true)(wb:(Lit.int .i64 b).wf=true):
  Calls prog 60 #[ptr gx,.int .u64 (x:Nat),a,.int .i64 b] w (KV At w0 gd gx r S D (yF S x a b) S.T.length E w):=by
 obtain⟨Fm,Gr,Gk,P,hM,d3,d4,F,d6⟩:=h;obtain⟨gm,A,cp,B,c2,z,f⟩:=hM.cells;obtain⟨c0,-,-,-,-,-,c6,-,c8⟩:=f.cs;have aD:=qQ (pV c0);have bb:=bounds_i64 wb;have aM:(if (1073741824:Int)<b then 1073741824 else b)=kA b:=by unfold kA;split<;>omega
 have aa:=Rm f.mem.has (by unfold gD at Z;omega) x a (kA b);have ac:=qQ (fun(N:List Nat) (D':jL) (W:World) (V:DS At w0 gd D' (N++(Fm++(Gr++(Gk++E)))) W) (d:jM (Fm++(Gr++(Gk++E))) w W) (hN:∀b∈N,w.1.size<=b)=>js.back hM P d3 d4 F d6 V d hN);have Q:∀b∈Gk,b∈Fm++(Gr++(Gk++E)):=fun b c=>qJ _ (qJ _ (qW _ c))
 have U:∀b∈Gr,b∈Fm++(Gr++(Gk++E)):=fun b c=>qJ _ (qW _ c)
 have ab:∀b∈E,b∈Fm++(Gr++(Gk++E)):=fun b c=>qJ _ (qJ _ (qJ _ c))
 have aj:z.length=S.T.length:=f.xO.1;obtain⟨n,af⟩:∃n,Fm++(Gr++(Gk++E))=n:=⟨_,rfl⟩
 rw[af]at P ac Q U ab;have al:=qQ P
 have HT:=qQ (fun(i g:Nat) (t:TbS) (q:z[i]? = some g) (y:S.T[i]? = some t) (k:Nat) (d:k<=40) (W:World) (N:List Nat) (hW:DS At w0 gd { D with count:=D.count+k } (N++n) W) (aC:jM n w W)=>(show Calls prog 107 #[ptr g,.int .u64 (x:Nat),a,.int .i64 b] W fun e w'=>∃j,j<=1/\nA At w0 gd (vD t.l x a (kA b)) 0 { D with count:=D.count+k+j } (N++n) W e w' from by
  obtain⟨H,I,s⟩:=f.xO.2 i g t q y;have Y:=qN y;have aK:=KY Y;have hn:=(ok.xT Y).1;refine(RX api nap hW (I.keep aC (fun b c=>Q b (s b c))) (fun b c=>qJ _ (Q b (s b c))) ⟨J.synced,J.used,J.cap,J.many⟩ (by show D.count+k<=_;omega) (WalkArith.wf_i64 (by omega)) V ((ok.has t Y).count _) (ok.keep t Y) (by unfold gD at Z;omega) x hx a b wa wb).mono ?_;rintro e w'⟨j,hj,-,G⟩;exact⟨j,hj,G⟩))
 have HP:=qQ (fun(W:World) (d:jM n w W) (i g:Nat) (q:z[i]? = some g)=>(show ∃C,B=some ⟨C,0,none⟩/\W.cell? ⟨C,i,none⟩=some (ptr g) from by
  obtain⟨B',aH,e,-,-,az⟩:=yK.form (d.xf f.row (fun b c=>U b (f.xj b c)));obtain⟨rfl,-,-⟩:=Value.slice.inj e;obtain⟨C,e1,-,-,e2⟩:=az i g q;exact⟨C,e1,e2⟩))
 have ad:=qQ (fun(W:World) (d:jM n w W)=>(show W.cell? ⟨gx,6,none⟩=some (.slice B z.length c2) from(d.xW f.xW (U gx f.own)).cell 6));have aF:=qQ aj;have ay:=ok.xS;have HR:Hid (yF S x a b=dz ((vD S.mem x a (kA b))::S.T.map fun t=>vD t.l x a (kA b))):=qQ rfl
 have aw:=qQ (show vX ((vD S.mem x a (kA b))::S.T.map fun t=>vD t.l x a (kA b))<=40000 from by
  rw[bG];have:=DH (inQ x a (kA b)) S.T;have:=List.length_filter_le (inQ x a (kA b)) S.mem;unfold gD at Z;unfold vD;omega)
 have am:=qQ ab;obtain⟨m,hm⟩:∃m,m=z.length:=⟨_,rfl⟩
 have aL:m<=40:=by omega
 have HM:=qQ hm;have X:S.T.length=m:=by omega
 have aE:=qQ X;rw[<-hm]at c6 ad;rw[X];generalize hF0:vD S.mem x a (kA b)=o at*;unfold dX at aa;have ar:=qQ aa
 have av:Hid (∀k t,S.T[k]? = some t->(o::(S.T.take k).map fun t=>vD t.l x a (kA b))++[vD t.l x a (kA b)]=o::(S.T.take (k+1)).map fun t=>vD t.l x a (kA b)):=qQ fun k t d=>by
  rw[xQ,d,List.map_append];rfl
 have ak:Hid ((o::(S.T.take m).map fun t=>vD t.l x a (kA b))=o::S.T.map fun t=>vD t.l x a (kA b)):=qQ (by rw[<-X,List.take_length])
 have ae:Hid (∀k,k<=m->(o::(S.T.take k).map fun t=>vD t.l x a (kA b)).length=k+1):=qQ fun k d=>by
  rw[qu,qq,qT];omega
 have ao:Hid (∀k,k<m->∃g t,z[k]? = some g/\S.T[k]? = some t):=qQ fun k d=>⟨_,_,qE (by omega),qE (by omega)⟩
 have aq:=qQ (show(o::S.T.map fun t=>vD t.l x a (kA b)).length<=500000 from by rw[qu,qq];omega);clear hM f P d3 d4 F d6 ok J hc V Z wa wb Q U ab aj ay hm X af aa c0 hF0;generalize yF S x a b=R at*;go_enter func60,ntmps60;go_wp2_with fail;refine X5 aD.out ?_;go_wp2_with fail;refine ar.out.mono ?_;rintro e w1⟨A1,c1,rfl,r1,b1⟩;have H1:=qQ (ui.one api al.out b1 r1);have aG:=ad.out _ H1.out.kept;clear c6 c8 b1 r1;go_wp2;go_loopg [10,32] m (fun g u i wr=>∃(k:Nat) (N:List Nat) (j:Nat),k+g=m/\j<=k/\i=.int .i64 k/\ui At w0 gd w n N { D with count:=D.count+j } (o::(S.T.take k).map fun t=>vD t.l x a (kA b)) u wr)
 case atStart=>exact⟨0,_,0,by omega,qK _,rfl,H1.out⟩
 case round =>
  obtain⟨k,N,j,aJ,aA,rfl,G⟩:=hrel;obtain⟨Ak,nk,ck,ai,rfl⟩:=G.shape;have ag:k<=m:=by omega
  rw[ae.out k ag]at ai;subst ai;have v:=qQ G;clear G;cases gk with
  | zero =>
    obtain rfl:k=m:=(by omega);have s1:¬(k:Int)<(k:Int):=(by omega);have K:=v.out;rw[ak.out]at K;obtain⟨L,I,s⟩:=K.lists;have M:=GS _ L wr I (by rw[<-nE,s];exact aq.out) (by rw[s];have:=aw.out;omega);rw[s,<-HR.out]at M;unfold dX at M;have HG:=qQ M;have p:=qQ K;clear M K I s v;go_wp2_with fail;refine HG.out.mono ?_;rintro e w9⟨A9,c9,rfl,r9,O⟩;have an:=qQ (ac.out (jS (.slice A9 R.length c9)) { D with count:=D.count+j } w9 ((p.out.ds.less (fun b c=>qJ _ c)).more api O (lW r9)) (p.out.kept.trans (jM.xA O (fun b c=>p.out.ds.lt b (qJ _ c)))) (fun b c=>qR p.out.kept.size (lW r9 b c).1));have au:=qQ (r9.down p.out.kept.size);have ap:=qQ ((p.out.kept.trans (jM.xA O (fun b c=>p.out.ds.lt b (qJ _ c)))).less am.out);clear r9 O;go_wp2;go_ret2;exact⟨A9,c9,j,aA,rfl,au.out,an.out,ap.out⟩
  | succ gi =>
    have aB:k<m:=(by omega);have s1:(k:Int)<(m:Int):=(by omega);obtain⟨g,t,q,y⟩:=ao.out k aB;obtain⟨C,rfl,I⟩:=HP.out wr v.out.kept k g q;have ax:=qQ (HT.out k g t q y j (by omega) wr N v.out.ds v.out.kept);have HG:=qQ y;clear q y;go_wp2_with fail;refine ax.out.mono ?_;rintro e w5⟨j2,aI,A5,c5,rfl,r5,F,k5⟩;obtain⟨L5,r6⟩:=v.out.told F k5 r5;have ah:(o::(S.T.take k).map fun t=>vD t.l x a (kA b)).length<=500000:=(by rw[ae.out k ag];omega);obtain⟨A6,c6,w6,N6,e6,L6⟩:=L5.add api r6 (fun b c=>qW _ c) ah 159;rw[av.out k t HG.out,Nat.add_assoc]at L6;have HE:=qQ e6;have H6:=qQ L6;clear L5 r6 ah e6 L6 r5 F k5;go_wp2_with (first|(at_builtin;refine yC rfl _ _ rfl rfl rfl HE.out ?_)|fail);go_roundg gi
    case measure=>omega
    case rel=>exact⟨k+1,N6,j+j2,by omega,by omega,by go_num,H6.out⟩
end
theorem KU(q:TbS->Bool):∀(T:List TbS),vX ((T.filter q).map TbS.l)<=vX (T.map TbS.l)
 | []=>qK _
 | t::T=>by
   have:=KU q T;rw[List.map_cons,bG,List.filter_cons];split
   ·rw[List.map_cons,bG];omega
   ·omega
section
variable {At:j6}(api:j8 At)(nap:kZ){w0 w w':World}{gd gx r:Nat}{S:IxS}{D:jL}{E:List Nat}
include api nap
theorem qKb(h:js At w0 gd gx r S D E w)(ok:kV D S)(O:WfP D)(hc:D.count<=1000000000)(X:D.down=false)(ht:gD S<=40000)(v:Value)(ns:List Int)(hv:kN w v ns)(an:∀b∈jS v,b∈E)(al:ns.length<=1000000):
  Calls prog 71 #[ptr gx,v] w (KV At w0 gd gx r S D (vW S ns) S.T.length E w):=by
 obtain⟨Fm,Gr,Gk,U,hM,d3,d4,J,d6⟩:=h;obtain⟨gm,A,cp,B,c2,G,z⟩:=hM.cells;obtain⟨c0,-,-,-,-,-,c6,-,c8⟩:=z.cs;have ae:=qQ (fun(N:List Nat) (D':jL) (W:World) (X:DS At w0 gd D' (N++(Fm++(Gr++(Gk++E)))) W) (y:jM (Fm++(Gr++(Gk++E))) w W) (hN:∀b∈N,w.1.size<=b)=>js.back hM U d3 d4 J d6 X y hN);have K:∀b∈Gk,b∈Fm++(Gr++(Gk++E)):=fun b a=>qJ _ (qJ _ (qW _ a))
 have ab:∀b∈Gr,b∈Fm++(Gr++(Gk++E)):=fun b a=>qJ _ (qW _ a)
 have V:∀b∈E,b∈Fm++(Gr++(Gk++E)):=fun b a=>qJ _ (qJ _ (qJ _ a))
 have aH:G.length=S.T.length:=z.xO.1;obtain⟨d,aj⟩:∃d,Fm++(Gr++(Gk++E))=d:=⟨_,rfl⟩
 rw[aj]at U ae K ab V;have ao:=qQ U
 have ax:=qQ (fun(i g:Nat) (t:TbS) (f:G[i]? = some g) (o:S.T[i]? = some t) (W:World) (M:jM d w W)=>(show Calls prog 121 #[ptr g] W (X0 (.int .i64 (t.n:Nat)) W) from by
  obtain⟨H,C,p⟩:=z.xO.2 i g t f o;exact Uk (C.keep M (fun b a=>K b (p b a)))))
 have af:=qQ (fun(n:Int) (W:World) (M:jM d w W)=>Qx v ns n W (M.ints hv (fun b a=>V b (an b a))) al)
 have HT:=qQ (fun(i g:Nat) (t:TbS) (f:G[i]? = some g) (o:S.T[i]? = some t) (k:Nat) (y:k<=40) (W:World) (N:List Nat) (hW:DS At w0 gd { D with count:=D.count+k } (N++d) W) (M:jM d w W)=>(show Calls prog 122 #[ptr g] W (nA At w0 gd t.l 0 { D with count:=D.count+k+1 } (N++d) W) from by
  obtain⟨H,C,p⟩:=z.xO.2 i g t f o;have ac:=qN o;have aM:=KY ac;have hn:=(ok.xT ac).1;exact RQ api nap hW (C.keep M (fun b a=>K b (p b a))) (fun b a=>qJ _ (K b (p b a))) ⟨O.synced,O.used,O.cap,O.many⟩ (by show D.count+k<=_;omega) (WalkArith.wf_i64 (by omega)) X ((ok.has t ac).count _) (by unfold gD at ht;omega)))
 have HP:=qQ (fun(W:World) (y:jM d w W) (i g:Nat) (f:G[i]? = some g)=>(show ∃I,B=some ⟨I,0,none⟩/\W.cell? ⟨I,i,none⟩=some (ptr g) from by
  obtain⟨B',aJ,e,-,-,aD⟩:=yK.form (y.xf z.row (fun b a=>ab b (z.xj b a)));obtain⟨rfl,-,-⟩:=Value.slice.inj e;obtain⟨I,e1,-,-,e2⟩:=aD i g f;exact⟨I,e1,e2⟩))
 have aC:=ok.xS;have HR:Hid (vW S ns=dz ((ch (S.T.take S.T.length) ns).map TbS.l)):=qQ (by rw[List.take_length];rfl)
 have ai:=qQ (show vX ((ch (S.T.take S.T.length) ns).map TbS.l)<=40000 from by
  rw[List.take_length];have:=KU (fun t=>decide ((t.n:Int)∈ns)) S.T;unfold gD at ht;unfold ch;omega)
 have ap:=qQ V
 have aA:Hid (∀k t,S.T[k]? = some t->(ch (S.T.take (k+1)) ns).map TbS.l=(ch (S.T.take k) ns).map TbS.l++(if decide ((t.n:Int)∈ns)=true then [t.l] else [])):=qQ fun k t y=>by
  unfold ch;rw[xQ,y,List.filter_append,List.map_append];congr 1;show(List.filter _ [t]).map TbS.l=_;by_cases q:(t.n:Int)∈ns
  ·simp[q]
  ·simp[q]
 have aw:Hid (∀k,k<=40->((ch (S.T.take k) ns).map TbS.l).length<=40):=qQ fun k y=>by
  rw[qq];have h1:=List.length_filter_le (fun t=>decide ((t.n:Int)∈ns)) (S.T.take k);rw[qT]at h1;unfold ch;omega
 obtain⟨m,hm⟩:∃m,m=G.length:=⟨_,rfl⟩
 have aN:m<=40:=by omega
 have ak:S.T.length=m:=by omega
 rw[<-hm]at c6;rw[ak]at HR ai ⊢;have ar:Hid (∀k,k<m->∃g t,G[k]? = some g/\S.T[k]? = some t):=qQ fun k y=>⟨_,_,qE (by omega),qE (by omega)⟩
 have H0:=qQ (ui.nil api ao.out);obtain⟨Av,ov,cv,rfl,-,-⟩:=hv.form;obtain⟨nv,am⟩:∃nv,nv=ns.length:=⟨_,rfl⟩
 rw[<-am]at af ⊢;clear hM z U d3 d4 J d6 ok O hc X ht K ab V aH aC hm ak aj c0 c8 hv an al am;generalize vW S ns=R at*;go_enter func71,ntmps71;go_wp2;go_loopg [6,16] m (fun g u i wr=>∃(k:Nat) (N:List Nat) (j:Nat),k+g=m/\j<=k/\i=.int .i64 k/\ui At w0 gd w d N { D with count:=D.count+j } ((ch (S.T.take k) ns).map TbS.l) u wr)
 case atStart=>exact⟨0,_,0,by omega,qK _,rfl,H0.out⟩
 case round =>
  obtain⟨k,N,j,aK,aE,rfl,hL⟩:=hrel;obtain⟨Ak,nk,ck,ad,rfl⟩:=hL.shape;have aL:k<=m:=by omega
  have aG:=aw.out k (by omega);rw[<-ad]at aG;have ag:=qQ ad;have c:=qQ hL;clear hL ad;cases gk with
  | zero =>
    obtain rfl:k=m:=(by omega);have s1:¬(k:Int)<(k:Int):=(by omega);obtain⟨L,C,p⟩:=c.out.lists;have P:=GS _ L wr C (by rw[<-nE,p,<-ag.out];omega) (by rw[p];have:=ai.out;omega);rw[p,<-HR.out]at P;unfold dX at P;have HG:=qQ P;clear P C p;go_wp2_with fail;refine HG.out.mono ?_;rintro e w9⟨A9,c9,rfl,Z,Q⟩;have aq:=qQ (ae.out (jS (.slice A9 R.length c9)) { D with count:=D.count+j } w9 ((c.out.ds.less (fun b a=>qJ _ a)).more api Q (lW Z)) (c.out.kept.trans (jM.xA Q (fun b a=>c.out.ds.lt b (qJ _ a)))) (fun b a=>qR c.out.kept.size (lW Z b a).1));have ay:=qQ (Z.down c.out.kept.size);have au:=qQ ((c.out.kept.trans (jM.xA Q (fun b a=>c.out.ds.lt b (qJ _ a)))).less ap.out);clear Z Q;go_wp2;go_ret2;exact⟨A9,c9,j,aE,rfl,ay.out,aq.out,au.out⟩
  | succ gi =>
    have aF:k<m:=(by omega);have s1:(k:Int)<(m:Int):=(by omega);obtain⟨g,t,f,o⟩:=ar.out k aF;obtain⟨I,rfl,C⟩:=HP.out wr c.out.kept k g f;have aB:=qQ (HT.out k g t f o j (by omega) wr N c.out.ds c.out.kept);have ah:=qQ (ax.out k g t f o wr c.out.kept);have F:=af.out (t.n:Nat) wr c.out.kept;have s:=aA.out k t o;clear f o;cases Y:decide ((t.n:Int)∈ns) with
    | false =>
      rw[Y]at F s;rw[qZ (by decide),List.append_nil]at s;have av:=qQ (show ui At w0 gd w d N { D with count:=D.count+j } ((ch (S.T.take (k+1)) ns).map TbS.l) (.slice Ak nk ck) wr from by rw[s];exact c.out);have aa:=qQ F;clear Y F s;go_wp2_with fail;refine X5 ah.out ?_;go_wp2_with fail;refine aa.out.mono ?_;rintro e w'⟨rfl,rfl⟩;go_wp2;go_roundg gi
      case measure=>omega
      case rel=>exact⟨k+1,N,j,by omega,by omega,by go_num,av.out⟩
    | true =>
      rw[Y]at F s;rw[qV rfl]at s;have az:=qQ s;have aa:=qQ F;clear Y F s;go_wp2_with fail;refine X5 ah.out ?_;go_wp2_with fail;refine aa.out.mono ?_;rintro e w'⟨rfl,rfl⟩;go_wp2_with fail;refine aB.out.mono ?_;rintro e w5⟨A5,c5,rfl,r5,J,k5⟩;obtain⟨L5,r6⟩:=c.out.told J k5 r5;obtain⟨A6,aI,w6,N6,e6,L6⟩:=L5.add api r6 (fun b a=>qW _ a) (by rw[<-ag.out];omega) 159;rw[<-az.out,Nat.add_assoc]at L6;have HE:=qQ e6;have H6:=qQ L6;clear L5 r6 e6 L6 r5 J k5;go_wp2_with (first|(at_builtin;refine yC rfl _ _ rfl rfl rfl HE.out ?_)|fail);go_roundg gi
      case measure=>omega
      case rel=>exact⟨k+1,N6,j+1,by omega,by omega,by go_num,H6.out⟩
end
def fj: jL->List Int->Nat × jL
 | D,[]=>(0,D)
 | D,n::ns=>if (uC D n).1≠0 then uC D n else fj (uC D n).2 ns
theorem DI(D:jL)(n:Int)(ns:List Int):fj D (n::ns)=if (uC D n).1≠0 then uC D n else fj (uC D n).2 ns:=rfl
def dD(D:jL)(S:IxS)(t:Tw)(n:Nat)(a:Int)(c b k:Nat):Nat × jL :=
 if c≠0 then(c,D)
 else if (vt { D with count:=D.count+k } n (vW S (kU S.m.lv a)) t b (kX S (kh S.m.lv a n) S.m.check)).1≠0 then vt { D with count:=D.count+k } n (vW S (kU S.m.lv a)) t b (kX S (kh S.m.lv a n) S.m.check)
 else fj (vt { D with count:=D.count+k } n (vW S (kU S.m.lv a)) t b (kX S (kh S.m.lv a n) S.m.check)).2 (kU S.m.lv a)
noncomputable def dr (D:jL)(S:IxS)(t:Tw)(n:Nat)(a:Int)(c b k:Nat):IxS :=
 if c≠0 then S else uG S { D with count:=D.count+k } n (vW S (kU S.m.lv a)) t b (kh S.m.lv a n) S.m.check
theorem qKc(S:IxS)(D:jL)(n a:Nat)(R:LvL):(bF S D n a R S.m.check).m.check=S.m.check:=by
 unfold bF;split
 ·rfl
 ·rfl
theorem qKd(S:IxS)(D:jL)(n:Nat)(l:List jI)(t:Tw)(a:Nat)(R:LvL):(uG S D n l t a R S.m.check).m.check=S.m.check:=by
 unfold uG;split
 ·rfl
 ·exact qKc _ _ _ _ _
theorem qKf{D:jL}(h:WfP D)(n:Nat)(l:List jI)(t:Tw)(a:Nat)(m:ji):WfP (vt D n l t a m).2:=by
 unfold vt;split
 ·exact sS h _ _ _
 ·split
  ·exact DB (KK (sS h _ _ _) _ _ _) _
  ·exact KK (sS h _ _ _) _ _ _
theorem qKh{D:jL}{S:IxS}(ok:kV D S)(ns:List Int):(vW S ns).length<=gD S:=by
 unfold vW ch gD;have a:=Um ((S.T.filter fun t=>decide ((t.n:Int)∈ns)).map TbS.l);have b:=KU (fun t=>decide ((t.n:Int)∈ns)) S.T;omega
section
variable {At:j6}(api:j8 At)(nap:kZ)(iap:gq At){w0 w w':World}{gd gx r:Nat}{S:IxS}{D:jL}{E:List Nat}
theorem js.zG(h:js At w0 gd gx r S D E w):w.cell? ⟨gx,0,none⟩=some (ptr gx)/\w.cell? ⟨gx,1,none⟩=some (ptr gd)/\w.cell? ⟨gx,3,none⟩=some (.int .i64 S.m.check):=by
 obtain⟨_,_,_,_,b,_⟩:=h;obtain⟨_,_,_,_,_,_,a⟩:=b.cells;exact⟨a.cs.1,a.cs.2.1,a.cs.2.2.2.1⟩
include api nap iap
theorem qKl(h:js At w0 gd gx r S D E w)(G:WfP D)(V:D.down=false)(hc:D.count<=900000000)(ok:kV D S)(n:Nat)(hn:S.m.next=(n:Nat))(ap:n<=999999)(hr:r<18446744073709551616)(ht:gD S<=40000)(a:Int)(a3:(vW S (kU S.m.lv a)).length<=1000)
  (C:Nat) (av:vH S.m.lv a=(C:Nat)) (l:Nat) (au:yL S.m.lv a n=(l:Nat))
  (ah:∀k t,k<=40->bV (vW S (kU S.m.lv a)) r t->(kG { D with count:=D.count+k } n (vW S (kU S.m.lv a)) t).1=0->(tgL (rdW (kG { D with count:=D.count+k } n (vW S (kU S.m.lv a)) t).2 (ptT n)).1).length<=10000):
  Calls prog 37 #[ptr gx,a] w fun e w'=>∃t k,k<=S.T.length/\(C≠0∨bV (vW S (kU S.m.lv a)) r t)/\nc At w0 gd gx r (err (dD D S t n a C l k).1) (dr D S t n a C l k) (dD D S t n a C l k).2 E w e w':=by
 have d:=((qG w.1.size w).alloc (qK _) (.cells #[ptr gx] 71)).alloc (B:=w.1.size) (by simp) (.cells #[a] 3);have P:jN ((w.alloc (.cells #[ptr gx] 71)).alloc (.cells #[a] 3)) w.1.size 71 #[ptr gx]:=(jN.new w 71 #[ptr gx]).alloc _
 have O:jN ((w.alloc (.cells #[ptr gx] 71)).alloc (.cells #[a] 3)) (w.1.size+1) 3 #[a]:=by
  have:=jN.new (w.alloc (.cells #[ptr gx] 71)) 3 #[a];rw[World.size_alloc]at this;exact this
 have aW:=qQ h.lt
 have q:=h.more api d (B:=[w.1.size,w.1.size+1]) (fun b hm=>by
  rcases qM.1 hm with e|hm
  ·rw[e];exact⟨qK _,P.lt⟩
  ·rw[qH.1 hm];exact⟨Nat.le_succ _,O.lt⟩)
 have aB:=qQ (jM.xA d aW.out);obtain⟨z,aM⟩:∃z,w.1.size+1=z:=⟨_,rfl⟩
 rw[aM]at q O;obtain⟨gb,a4⟩:∃gb,w.1.size=gb:=⟨_,rfl⟩
 rw[a4]at q P;obtain⟨s,ba⟩:∃s,(w.alloc (.cells #[ptr gx] 71)).alloc (.cells #[a] 3)=s:=⟨_,rfl⟩
 rw[ba]at q P O aB;have bp:gb+1=z:=by omega
 have c0:=q.zG.1;have a8:=qQ (pV c0);have R:=P.cell 0;have bk:=O.cell 0;obtain⟨A,cp,U,hv⟩:=q.zZ;have aa:=C8 _ S.m.lv a s.drew (hv.below (qG _ _).drew (qK _)) (by have:=ok.may.2.2.2.2.1.2.1;omega) (by have:=ok.may.2.2.2.2.1.1;omega);rw[show nT s.drew S.m.lv a=fun e w'=>∃A c,e=.returned (.tuple #[.slice A (kU S.m.lv a).length c,.int .i64 (vH S.m.lv a)])/\jy w' s.drew.1.size (.slice A (kU S.m.lv a).length c) (kU S.m.lv a)/\Below s.drew.1.size s.drew w' from rfl,av]at aa;have am:s.drew.cell? ⟨gb,0,none⟩=some (ptr gx)/\s.drew.cell? ⟨z,0,none⟩=some (.int .i64 a)/\s.drew.cell? ⟨gx,5,none⟩=some (.slice A S.m.lv.length cp):=⟨R,bk,U⟩
 have aH:Hid (∀w',Below s.drew.1.size s.drew w'->w'.cell? ⟨gb,0,none⟩=some (ptr gx)/\w'.cell? ⟨z,0,none⟩=some (.int .i64 a)/\w'.cell? ⟨gx,5,none⟩=some (.slice A S.m.lv.length cp)):=qQ fun w' hw =>
  ⟨(hw.cell (p:=⟨gb,0,none⟩) (World.block_lt_of_cell? s _ R)).trans R,(hw.cell (p:=⟨z,0,none⟩) (World.block_lt_of_cell? s _ bk)).trans bk,(hw.cell (p:=⟨gx,5,none⟩) (World.block_lt_of_cell? s _ U)).trans U⟩
 have H:=qQ (qU q (qU P O));have u:=qQ ok;obtain⟨M,hM⟩:∃M,M=kU S.m.lv a:=⟨_,rfl⟩
 rw[<-hM]at aa ah a3;obtain⟨v,ar⟩:∃v,v=M.length:=⟨_,rfl⟩
 rw[<-ar]at aa;have aG:=qQ aa;have F:=qQ (qU hM ar);generalize S.m.lv.length=bb at*;clear h d P O q hv aa c0 ok aM hM ar;go_enter func37,ntmps37;go_wp2_with fail;refine X5 a8.out ?_;go_wp2_with fail
 go_region_held3 (fun w'=>w'.cell? ⟨gb,0,none⟩=some (ptr gx)/\w'.cell? ⟨z,0,none⟩=some (.int .i64 a)/\w'.cell? ⟨gx,5,none⟩=some (.slice A bb cp))
  (first|(with_reducible assumption)|fail)
  (first
  | (go_at_call 70;((with_reducible refine aG.out.mono ?_);rintro e w2⟨K,c2,rfl,r2,b2⟩;have a1:=aH.out w2 b2))
  | fail)
 have ac:Below s.1.size s w2:=(qG _ s).drew.trans b2;have i2:=H.out.1.more api ac (B:=jS (.slice K v c2)) (fun b d=>r2.lt b (ja.1 d));have aC:=qQ (aB.out.trans (jM.xA ac (fun b d=>H.out.1.lt b (qJ _ d))));have az:=qQ i2;have ax:=qQ (qU (jN.below H.out.2.1 ac) (jN.below H.out.2.2 ac));have ai:=qQ (jy.xH r2);obtain⟨R,bk,U⟩:=a1;clear r2 b2 ac i2 am aH aG;by_cases ae:C=0
 case neg =>
  have t1:((C:Int) != 0)=true:=by simp;omega
  have Y:=qQ (show ∀t k,dD D S t n a C l k=(C,D)/\dr D S t n a C l k=S from fun t k=>⟨by unfold dD;rw[qV ae],by unfold dr;rw[qV ae]⟩);have aY:=qQ ae;clear ae V hc hn ap hr ht av au ah G U;go_wp2;go_ret;refine⟨ByteArray.empty,0,qI _,qX aY.out, ?_⟩;rw[(Y.out _ _).1,(Y.out _ _).2];exact⟨rfl,az.out.less (fun b d=>qJ _ (qJ _ d)),aC.out⟩
 case pos =>
  subst ae
  have aJ:M.length<=1000000:=by
   rw[F.out.1];have q:(kU S.m.lv a).length<=S.m.lv.flatten.length:=sN (Cw u.out.may.2.2.2.2.1.2.2.2) sL;have:=u.out.may.2.2.2.2.1.2.1;omega
  have ag:=qKb api nap az.out u.out G (by omega) V (by omega) _ M ai.out (fun b d=>qW _ d) aJ;unfold KV at ag;obtain⟨na,aq⟩:∃na,na=(vW S M).length:=⟨_,rfl⟩
  have bi:=qQ aq;rw[<-aq]at ag;have aR:=qQ ag;clear ag aq aJ U;go_wp2_with fail;refine aR.out.mono ?_;rintro e w3⟨A3,c3,k,hk,rfl,r3,i3,k3⟩;have af:=k3.xW ax.out.1 (qJ _ (qW _ qC));have aw:=k3.xW ax.out.2 (qJ _ (qW _ (qF _ qC)));have a_:=qKj S.m.lv a n;have a6:=qKh u.out M
  have aE:=DF api nap iap (i3.drew api) ⟨G.synced,G.used,G.cap,G.many⟩ V (by show D.count+k<=_;have:=u.out.xS;omega) n hn ap u.out.seed hr _ (vW S M) (r3.xH.below (qG _ w3).drew (qK _)) (fun b d=>qW _ d) (by omega) (fun x I=>(pK u.out M x I).1) (Qa (Qt u.out M) (fun x I=>(pK u.out M x I).2)) S.m.check _ #[ptr gb,ptr z] (enters_of func72 (by kernel_rfl) rfl) (kh S.m.lv a n) l
   (fun W' D' hi aN=>qKv hi u.out.may (aN.xW af.drew (qJ _ (qJ _ (qW _ qC)))) a (aN.xW aw.drew (qJ _ (qJ _ (qW _ (qF _ qC))))) n l au) (by omega) (by omega) (ah k · (by have:=u.out.xS;omega)) (by have:=u.out.xS;omega)
  have aF:=qQ aE;have am:w3.drew.cell? ⟨gb,0,none⟩=some (ptr gx)/\w3.drew.cell? ⟨gx,3,none⟩=some (.int .i64 S.m.check):=⟨af.cell 0,i3.zG.2.2⟩
  have X:=qQ (qU hk (qU (aC.out.trans (k3.less (fun b d=>qJ _ (qJ _ d)))) (qU af (ai.out))));have a7:∀(fn:Fn) (first aI:Array Value) (w:World),(Instr.makeFunc fn first aI).run prog w=.ok (.func fn first aI) w:=fun _ _ _ _=>rfl
  have ay:=qQ (fun(D':jL) (t:Tw) (E':List Nat) (W:World) (h:js At w0 gd gx r (uG S { D with count:=D.count+k } n (vW S M) t l (kh S.m.lv a n) S.m.check) D' E' W)=>(show W.cell? ⟨gx,3,none⟩=some (.int .i64 S.m.check) from by
   have:=h.zG.2.2;rw[qKd]at this;exact this))
  have aD:=qQ k3;have ab:=qQ G
  have Y:Hid (∀t,dD D S t n a 0 l k=(if (vt { D with count:=D.count+k } n (vW S M) t l (kX S (kh S.m.lv a n) S.m.check)).1≠0 then vt { D with count:=D.count+k } n (vW S M) t l (kX S (kh S.m.lv a n) S.m.check) else fj (vt { D with count:=D.count+k } n (vW S M) t l (kX S (kh S.m.lv a n) S.m.check)).2 M)/\dr D S t n a 0 l k=uG S { D with count:=D.count+k } n (vW S M) t l (kh S.m.lv a n) S.m.check):=qQ fun t=>by
   rw[F.out.1];exact⟨by unfold dD;rw[qZ (by decide)],by unfold dr;rw[qZ (by decide)]⟩
  clear r3 i3 k3 af aw hk a_ a6 aE hn ap hr ht av au ah V hc G bk;go_wp2_with fail
  go_region_held3 (fun w'=>w'.cell? ⟨gb,0,none⟩=some (ptr gx)/\w'.cell? ⟨gx,3,none⟩=some (.int .i64 S.m.check))
   (first|(with_reducible assumption)|fail)
   (first
   | (go_at_call 64;((with_reducible refine aF.out.mono ?_);rintro e w5⟨t,aL,⟨rfl,an,ad⟩,a9⟩;have a2:w5.cell? ⟨gb,0,none⟩=some (ptr gx)/\w5.cell? ⟨gx,3,none⟩=some (.int .i64 S.m.check):=⟨(ad.xW X.out.2.2.1.drew (qJ _ (qJ _ (qW _ qC)))).cell 0,ay.out _ _ _ _ an⟩))
   | fail)
  have aU:Hid (∀W,jM (jS (.slice K v c2)++([gb,z]++E)) w2 W->∀i x,M[i]? = some x->∃b o,K=some ⟨b,o,none⟩/\W.cell? ⟨b,o+i,none⟩=some (.int .i64 x)):=qQ fun W hW i x I=>by
   have q:=hW.ints ai.out (fun b d=>qW _ d);obtain⟨A',o',c',e,-,hc⟩:=q.form;obtain⟨rfl,-,-⟩:=Value.slice.inj e;obtain⟨b,e1,e2,e3⟩:=hc i x I;exact⟨b,o',e1,e3⟩
  have aA:=qQ an;have aV:=qQ (aD.out.drew.trans (ad.less (fun b d=>qJ _ d)));have aj:=qQ (X.out.2.1.drew.trans (ad.less (fun b d=>qJ _ (qJ _ (qJ _ d)))));have aT:Hid (∀W,jM (jS (.slice A3 na c3)++(jS (.slice K v c2)++([gb,z]++E))) w5 W->W.cell? ⟨gb,0,none⟩=some (ptr gx)):=qQ fun W hW=>((ad.trans hW).xW X.out.2.2.1.drew (qJ _ (qJ _ (qW _ qC)))).cell 0
  have y:=qQ (qU (show bV (vW S (kU S.m.lv a)) r t from by rw[<-F.out.1];exact aL) (Y.out t));have a0:=qQ (qKf (D:={ D with count:=D.count+k }) ⟨ab.out.synced,ab.out.used,ab.out.cap,ab.out.many⟩ n (vW S M) t l (kX S (kh S.m.lv a n) S.m.check));have ak:=qQ X.out.1
  have bm:v<=40:=by
   have q:(kU S.m.lv a).length<=S.m.lv.flatten.length:=sN (Cw u.out.may.2.2.2.2.1.2.2.2) sL;have:=u.out.may.2.2.2.2.1.2.1;rw[<-F.out.1,<-F.out.2]at q;omega
  have aX:Hid (∀i x,M[i]? = some x->(Lit.int .i64 x).wf=true):=qQ fun i x I=>by
   have aP:x∈S.m.lv.flatten:=sL x (by rw[<-F.out.1];exact qN I);have q:=u.out.may.2.2.2.2.1.2.2.1 x aP;have h2:=u.out.may.2.2.2.2.2 x aP;have h3:=u.out.may.2.1;exact WalkArith.wf_i64 (by omega)
  obtain⟨R,-⟩:=a2;clear an ad a9 am aL Y ay aF X aD a7 ab;generalize uG S { D with count:=D.count+k } n (vW S M) t l (kh S.m.lv a n) S.m.check=S' at*;generalize vt { D with count:=D.count+k } n (vW S M) t l (kX S (kh S.m.lv a n) S.m.check)=lp at*;obtain⟨aQ,D5⟩:=lp;by_cases J:aQ=0
  case neg =>
   have t1:((aQ:Int) != 0)=true:=(by simp;omega);have HZ:=qQ J;clear J;go_wp2;go_ret;refine⟨t,k,ak.out,(by first|exact y.out.1|exact qY y.out.1), ?_⟩;rw[y.out.2.1,y.out.2.2,qV HZ.out];exact⟨rfl,aA.out.less (fun b d=>qJ _ (qJ _ (qJ _ d))),aj.out⟩
  case pos =>
   subst J;go_wp2;go_loopg [49] v (fun g i wr=>∃(j:Nat) (D':jL),j+g=v/\i=.int .i64 j/\fj D5 M=fj D' (M.drop j)/\WfP D'/\js At w0 gd gx r S' D' (jS (.slice A3 na c3)++(jS (.slice K v c2)++([gb,z]++E))) wr/\jM (jS (.slice A3 na c3)++(jS (.slice K v c2)++([gb,z]++E))) w5 wr)
   case atStart=>exact⟨0,D5,by omega,rfl,by rw[List.drop_zero],a0.out,aA.out,jM.refl _ _⟩
   case round =>
    obtain⟨j,D',bv,rfl,he,hw,hi,aO⟩:=hrel;have HE:=qQ he;have HW:=qQ hw;have HI:=qQ hi;have HK:=qQ aO;clear he hw hi aO;cases gk with
    | zero =>
      obtain rfl:j=v:=(by omega);have s1:¬(j:Int)<(j:Int):=(by omega);have q:=HE.out;rw[F.out.2,List.drop_length]at q
      have Z:=qQ (show dD D S t n a 0 l k=(0,D')/\dr D S t n a 0 l k=S' from by
       rw[y.out.2.1,y.out.2.2,qZ (by simp)];exact⟨q,rfl⟩)
      clear q;go_wp2;go_ret;refine⟨t,k,ak.out,(by first|exact y.out.1|exact qY y.out.1), ?_⟩;rw[Z.out.1,Z.out.2];exact⟨rfl,HI.out.less (fun b d=>qJ _ (qJ _ (qJ _ d))),aj.out.trans (HK.out.less (fun b d=>qJ _ (qJ _ (qJ _ d))))⟩
    | succ gi =>
      have a5:j<v:=(by omega);have s1:(j:Int)<(v:Int):=(by omega);have ao:j<M.length:=(by rw[<-F.out.2];exact a5);have aK:M.drop j=M[j]::M.drop (j+1):=xZ ao;obtain⟨b,o,rfl,q1⟩:=aU.out wr (aV.out.trans (HK.out.less (fun b d=>qJ _ d))) j M[j] (qE ao);have wn:=aX.out j M[j] (qE ao);have aS:=qQ (HI.out.zu (f:=74) (args:=#[ptr gd,.int .i64 M[j]]) (Q:=fun e w'=>e=.returned (err (uC D' M[j]).1)) (fun E' _ V=>(DE api nap V HW.out M[j] wn).mono fun e w' h=>⟨h.2.1,h.2.2,h.1⟩));have R:=aT.out wr HK.out;have c1:=HI.out.zG.2.1;have q:=HE.out;rw[aK,DI]at q;have H:=qQ q;have aZ:=qQ (DB HW.out M[j]);clear q aK wn HE;generalize M[j]=x at*;generalize uC D' x=dp at*;obtain⟨al,D6⟩:=dp;go_wp2_with fail;refine aS.out.mono ?_;rintro e w6⟨i6,k6,s6,rfl⟩;have H6:=qQ (qU i6 (HK.out.trans k6));clear i6 k6 s6;by_cases J:al=0
      ·subst J;have H2:=qQ (show fj D5 M=fj D6 (M.drop (j+1)) from by rw[H.out,qZ (by simp)]);go_wp2;go_roundg gi
       case measure=>omega
       case rel=>exact⟨j+1,D6,by omega,by go_num,H2.out,aZ.out,H6.out.1,H6.out.2⟩
      ·have t1:((al:Int) != 0)=true:=by simp;omega
       have Z:=qQ (show dD D S t n a 0 l k=(al,D6)/\dr D S t n a 0 l k=S' from by
        rw[y.out.2.1,y.out.2.2,qZ (by simp)];exact⟨by rw[H.out,qV J],rfl⟩)
       clear J;go_wp2;go_ret;refine⟨t,k,ak.out,(by first|exact y.out.1|exact qY y.out.1), ?_⟩;rw[Z.out.1,Z.out.2];exact⟨rfl,H6.out.1.less (fun b d=>qJ _ (qJ _ (qJ _ d))),aj.out.trans (H6.out.2.less (fun b d=>qJ _ (qJ _ (qJ _ d))))⟩
end
end
section
theorem sT{n:Nat}(h:n<=999999):vm (ptT n)=true/\npK (ptT n)=116/\npN (ptT n)=n/\vm (ptB n)=true/\npK (ptB n)=98/\npN (ptB n)=n:=by
 obtain⟨a,b,d⟩:=Xi (c:=116) (by decide) h;obtain⟨f,g,i⟩:=Xi (c:=98) (by decide) h;exact⟨a,b,d,f,g,i⟩
theorem s9{n m:Nat}(h:n<=999999)(k:m<=999999):(ptT n=ptT m->n=m)/\(ptB n=ptB m->n=m):=by
 obtain⟨-,-,a,-,-,b⟩:=sT h;obtain⟨-,-,c,-,-,d⟩:=sT k;exact⟨fun e=>by rw[e]at a;omega,fun e=>by rw[e]at b;omega⟩
theorem Qi: vm j7=false:=by decide +kernel
theorem DL: vm j5=false:=by decide +kernel
theorem fk{n:Nat}(h:n<=999999):ptT n≠j7/\ptT n≠j5/\ptB n≠j7/\ptB n≠j5:=by
 obtain⟨a,-,-,b,-,-⟩:=sT h;have m:=Qi;have w:=DL;exact⟨fun e=>by rw[e,m]at a;exact Bool.noConfusion a,fun e=>by rw[e,w]at a;exact Bool.noConfusion a,fun e=>by rw[e,m]at b;exact Bool.noConfusion b,fun e=>by rw[e,w]at b;exact Bool.noConfusion b⟩
theorem qKm(T:List TbS):(T.flatMap fun t=>[ptT t.n,ptB t.n]).length=2*T.length:=by
 induction T with
 | nil=>rfl
 | cons t T a =>
   rw[List.flatMap_cons,qL,a,qu];show 2+2*T.length=2*(T.length+1);omega
theorem pG{D:jL}{n:Tw}(h:n ∉ jt D):jT D.l n=none:=fi.2 fun f a e=>h (qP.2 ⟨f,a,e⟩)
theorem qKn{D E:jL}{S:IxS}(ok:kV D S){n:Nat}(I:S.m.next=(n:Nat)){R:LvL}{en:Int}(p:kF ⟨S.m.next+1,en,S.m.seed,R⟩){x:TbS}(g:x.n=n)(C:vo E n x.l)(F:bu x.t x.l=true){P:Int->Prop}
  (d:∀y:Int,y∈R.flatten↔y=n∨(y∈S.m.lv.flatten/\P y)) (v:∀t∈ue S.T R,jT E.l (ptT t.n)=jT D.l (ptT t.n)) {mem:List jI} (B:kY mem) (A:∀y∈mem,ks y) (z:∀y∈mem,mayE y=true):kV E (fT S R en x mem):=by
 have hst:∀t:TbS,t∈ue S.T R↔t∈S.T/\(t.n:Int)∈R.flatten:=fun t=>by unfold ue;rw[qo];simp
 refine⟨p,ok.seed,fun y=>?_, ?_,fun t c=>?_,fun t c=>?_,B,A,z⟩
 ·show y∈R.flatten↔∃t∈ue S.T R++[x],(t.n:Int)=y;rw[d];constructor
  ·rintro (rfl|⟨i,G⟩)
   ·exact⟨x,qJ _ (qH.2 rfl),by rw[g]⟩
   ·obtain⟨t,c,rfl⟩:=(ok.xR y).1 i;exact⟨t,qW _ ((hst t).2 ⟨c,(d _).2 (qY ⟨i,G⟩)⟩),rfl⟩
  ·rintro ⟨t,c,rfl⟩;rcases qD.1 c with q|q
   ·exact(d _).1 ((hst t).1 q).2
   ·rw[qH.1 q,g];exact qX rfl
 ·show((ue S.T R++[x]).map TbS.n).Nodup;rw[List.map_append];refine List.nodup_append.2 ⟨(List.Sublist.map _ List.filter_sublist).nodup ok.uniq,by simp,fun a s b u e=>?_⟩;obtain⟨t,c,rfl⟩:=qP.1 s;have:=(ok.xT ((hst t).1 c).1).2;have H:b=x.n:=by simpa using u
  omega
 ·rcases qD.1 c with q|q
  ·obtain⟨f,j,k,o⟩:=ok.has t ((hst t).1 q).1;exact⟨f,by rw[v t q];exact j,k,o⟩
  ·rw[qH.1 q,g];exact C
 ·rcases qD.1 c with q|q
  ·exact ok.keep t ((hst t).1 q).1
  ·rw[qH.1 q];exact F
end
end Go.Proofs.YthejglbnkmimjaaGreat
