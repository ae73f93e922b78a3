import Derived.Test.YtokbfellcadkpaaGreatPp33
import Derived.Test.YtokbfellcadkpaaGreatPp08
import Derived.Test.YtokbfellcadkpaaGreatPp10
set_option linter.unusedVariables false
set_option maxRecDepth 100000
set_option maxHeartbeats 9000000
namespace Go.Proofs.YtokbfellcadkpaaGreat
open Tryz
section
open Go.RowKit
def C5(At:jL)(w0:World)(gd:Nat)(t:Tw)(D':jK)(E:List Nat)(w:World)(e:Ending)(w':World):Prop :=
 ∃(p q:Int) (m:Option Nat),e = .returned (.agg #[.int .i64 p,.int .i64 q,.map m])/\uj w' (.agg #[.int .i64 p,.int .i64 q,.map m]) t/\DS At w0 gd D' (m.toList++E) w'/\jV E w w'/\∀b∈m.toList,w.heap.size<=b
theorem uj.qe{w w':World}{F:List Nat}{p q:Int}{m:Option Nat}{t:Tw}(h:uj w (.agg #[.int .i64 p,.int .i64 q,.map m]) t)(g:jG F w w')(d:∀b∈m.toList,b ∉ F/\b<w.heap.size):uj w' (.agg #[.int .i64 p,.int .i64 q,.map m]) t :=
 jV.filter (E:=m.toList) (f:=.nilIface) ⟨g.size,fun b a=>g.block b (d b a).2 (d b a).1⟩ h (fun b a=>by simp[a])
section
variable {At:jL}(api:jM At)(nap:jm){w0 w:World}{gd:Nat}{D:jK}{E:List Nat}
include api
theorem Ju{w1 w':World}{g:Nat}{D':jK}{p q:Int}{m:Option Nat}{t:Tw}(y:∀b∈E,b<g)(A:w0.heap.size<=g)(h:DS At w0 gd D' (g::E) w1)(u:jV E w w1)(f:Below w1.heap.size w1 w')(z:uj w' (.agg #[.int .i64 p,.int .i64 q,.map m]) t)
  (i:∀b∈m.toList,w1.heap.size<=b/\b<w'.heap.size) (a b c:Value):
  C5 At w0 gd t D' E w (.returned (.agg #[.int .i64 p,.int .i64 q,.map m])) (((w'.setCell ⟨g,0,none⟩ a).setCell ⟨g,1,none⟩ b).setCell ⟨g,2,none⟩ c):=by
 have j:=h.more api f i;have o:=Pk (g:=g) w' a b c;have C:=h.lt g qD;have s:=j.zX api o (fun x d=>by rw[qH.1 d];exact⟨qJ _ qD,A⟩);refine⟨p,q,m,rfl,z.qe o (fun x d=>⟨fun k=>?_,(i x d).2⟩),s.less (fun x d=>?_),(u.trans (jV.qn f (fun b f=>h.lt b (qE _ f)))).trans (jV.xB o fun x d=>⟨j.lt x (qJ _ (qE _ d)),fun k=>?_⟩),fun x d=>?_⟩
 ·have:=(i x d).1;rw[qH.1 k]at this;omega
 ·rcases qB.1 d with d|d
  ·exact qG _ d
  ·exact qJ _ (qE _ d)
 ·have:=y x d;rw[qH.1 k]at this;exact Nat.lt_irrefl _ this
 ·have j:=(i x d).1;have s:=u.size;omega
include nap
theorem qKZ(h:DS At w0 gd D E w)(ok:WfP D)(hc:D.count<=1099511627776)(aD:D.cap<=1048576)(n:Int)(wn:(Lit.int .i64 n).wf=true)(v:Value)(l:List jJ)(hv:ju w v l)(au:∀b∈jF v,b∈E)(ar:∀x∈l,kI x)(hl:l.length<=1000000):
  Calls prog 197 #[ptr gd,.int .i64 n,v] w (C5 At w0 gd (ldF D n l) (rdW D (ptB n)).2.2 E w):=by
 have hz:=sb ok (ptB n);have ac:=(Below.refl w.heap.size w).alloc (qK _) (.cells #[.int .i64 0,.int .i64 0,.map none] 217);have U:=jY.new w 217 #[.int .i64 0,.int .i64 0,.map none]
 have h0:DS At w0 gd D (w.heap.size::E) (w.alloc (.cells #[.int .i64 0,.int .i64 0,.map none] 217)):=h.more api ac (B:=[w.heap.size]) (fun b a=>by
  rw[qH.1 a];exact⟨qK _,U.lt⟩)
 have v0:=hv.below ac (qK _);have K0:=jV.qn ac h.lt;have ai:=h.lt;have al:=h.kept.size;obtain⟨g,aE⟩:∃g,w.heap.size=g:=⟨_,rfl⟩
 rw[aE]at h0 U ai al;obtain⟨wa,aF⟩:∃wa,w.alloc (.cells #[.int .i64 0,.int .i64 0,.map none] 217)=wa:=⟨_,rfl⟩
 rw[aF]at h0 U v0 K0;have hN:=qQ fun W=>nap.xr n W wn
 rw[show nmS 98 n=ptB n from rfl]at hN;have hW:=qQ fun W (a:Below wa.heap.size wa W)=>Z6 api (h0.below api a) ok hc (ptB n) (tI n)
 have d:=qQ (qU U (qU K0 (qU ai (qU al (qU v0 h0)))));have hL:=qQ fun W=>qKX (rdW D (ptB n)).1 W (by omega)
 obtain⟨t,ht⟩:∃t,ldF D n l=t:=⟨_,rfl⟩
 have HT:Hid (((rdW D (ptB n)).2.1≠0->t=ByteArray.empty)/\((rdW D (ptB n)).2.1=0->((∀x∈l,uz (rdW D (ptB n)).1 x.h=true)->t=(rdW D (ptB n)).1)/\((∃x∈l,uz (rdW D (ptB n)).1 x.h=false)->t=ByteArray.empty))):=qQ (by
  rw[<-ht];unfold ldF;refine⟨fun e=>qZ (fun c=>e c.1),fun e=>⟨fun ad=>qV ⟨e,tL.2 ad⟩,fun⟨x,u,av⟩=>qZ (fun c=>?_)⟩⟩;rw[tL.1 c.2 x u]at av;cases av)
 rw[ht];generalize rdW D (ptB n)=r at*;generalize ptB n=nm at*;obtain⟨A,off,cap,rfl,-,-⟩:=hv.form;have aC:=qQ ar;have HE:=qQ au;clear h ok hc aD wn hv au ac hz ht h0 v0 K0 ai al U ar;by_cases he:r.2.1=0
 case neg =>
  have te:((r.2.1:Int) != 0)=true:=by simp;omega
  rw[HT.out.1 he];generalize r.2.1=y at*;clear hL HT he;generalize l.length=m at*;go_enter func197,ntmps197;go_wp2_with fail;refine(hN.out _).mono ?_;rintro e w1⟨rfl,H⟩;have Z:=qQ (jV.qn H d.out.2.2.2.2.2.lt);have Y:=qQ (hW.out _ H);clear H hW hN;go_wp2_with fail;refine Y.out.mono ?_;rintro e w2⟨rfl,I,q2⟩;have F:=Z.out.trans q2;have f:=F.qa d.out.1 qD;have k0:=f.cell 0;have k1:=f.cell 1;have k2:=f.cell 2;have f0:=f.frozen 0;have f1:=f.frozen 1;have f2:=f.frozen 2;have o:=qQ (qU I (qU F f));clear I q2 F f Y Z;go_wp2;refine lG (p:=6) (g:=g) (t:=217) (C:=#[.int .i64 0,.int .i64 0,.map none]) rfl rfl ?_ rfl rfl ?_
  ·exact((o.out.2.2.put 0 _).put 1 _).put 2 _
  ·exact Ju api d.out.2.2.1 d.out.2.2.2.1 o.out.1 (d.out.2.1.trans (o.out.2.1.less (fun b a=>qE _ a))) (Below.refl _ _) (uj.none _) (fun b a=>by cases a) _ _ _
 case pos =>
  obtain⟨r1,r2,r3⟩:=r;simp only at he hL HT hW ⊢;subst he;have ap:=qQ (HT.out.2 rfl);clear HT;obtain⟨Q,af⟩:∃Q,l.length=Q:=⟨_,rfl⟩
  have HZ:=qQ af;rw[af];rw[af]at d HE;clear af;go_enter func197,ntmps197;go_wp2_with fail;refine(hN.out _).mono ?_;rintro e w1⟨rfl,H⟩;have Z:=qQ (jV.qn H d.out.2.2.2.2.2.lt);have aG:=qQ H;have Y:=qQ (hW.out _ H);clear H hW hN;go_wp2_with fail;refine Y.out.mono ?_;rintro e w2⟨rfl,I,q2⟩;have F:=Z.out.trans q2;have f:=F.qa d.out.1 qD;have V2:=F.xZ d.out.2.2.2.2.1 (fun b a=>qE _ (HE.out b a));have o:=qQ (qU I (qU F (qU f V2)));clear I q2 F f V2 Y Z;go_wp2_with fail;refine(hL.out _).mono ?_;rintro e P⟨p,q,m,rfl,hf,hm,b3⟩;have hF3:=jY.new P 217 #[.int .i64 p,.int .i64 q,.map m];have b4:=b3.alloc b3.size (.cells #[.int .i64 p,.int .i64 q,.map m] 217);have ak:=hf.below ((Below.refl P.heap.size P).alloc (qK _) (.cells #[.int .i64 p,.int .i64 q,.map m] 217));have am:∀b∈m.toList,w2.heap.size<=b/\b<(P.alloc (.cells #[.int .i64 p,.int .i64 q,.map m] 217)).heap.size:=fun b a=>⟨(hm b a).1,by have:=(hm b a).2;simp;omega⟩
  obtain⟨gf,aq⟩:∃gf,P.heap.size=gf:=⟨_,rfl⟩
  obtain⟨w4,an⟩:∃w4,P.alloc (.cells #[.int .i64 p,.int .i64 q,.map m] 217)=w4:=⟨_,rfl⟩
  rw[aq,an]at hF3;rw[an]at b4 ak am;have K:=qQ (qU hF3 (qU b4 (qU ak am)));clear hF3 b4 ak am hf hm b3 hL;go_wp2;clear an aq;go_loopw [26] (fun i wr=>∃k:Nat,k<=l.length/\i = .int .i64 k/\(∀j y,j<k->l[j]? = some y->uz r1 y.h=true)/\Below w4.heap.size w4 wr) (fun i _=>l.length-(intOf i).toNat)
  case atStart=>exact⟨0,qF _,rfl,fun j y h=>absurd h (by omega),Below.refl _ _⟩
  case round =>
   obtain⟨k,hk,rfl,ad,L⟩:=hrel;have X:=qQ ad;have ag:=qQ L;have N:=bj K.out.2.1 L;have ax:=qQ N;have J:=jY.below K.out.1 L;have a0:=J.cell 0;have a1:=J.cell 1;have a2:=J.cell 2;have s:=jY.below o.out.2.2.1 N;have aA:=qQ s;have az:=qQ J;clear ad;by_cases ae:k<l.length
   ·obtain⟨x,u⟩:∃x,l[k]? = some x:=⟨_,qC ae⟩
    have ao:=aC.out x (qM u);have hV:=o.out.2.2.2.below N (qK _);have aj:ju wr (.slice A l.length cap) l:=(by rw[HZ.out];exact hV);obtain⟨bb,of,rfl,-,aH,d0,d1,I⟩:=oG aj u;have s1:(k:Int)<(Q:Int):=(by rw[<-HZ.out];omega);have s2:k<Q:=(by rw[<-HZ.out];exact ae);have s3:(k:Int)<=1000000:=(by omega);have aa:=(Below.refl wr.heap.size wr).alloc (qK _) (.cells #[.int .u64 (x.h:Nat),.int .i64 x.v,.int .i64 x.p] 63);have M:=Vw _ x.h r1 _ ao.h ((K.out.2.2.1.below L).below aa);have B5:=qQ (bj ag.out aa);have V:=jY.below az.out aa;have e0:=V.cell 0;have e1:=V.cell 1;have e2:=V.cell 2;cases O:uz r1 x.h with
    | false =>
      rw[O]at M;have HM:=qQ M;have ay:=qQ (ap.out.2 ⟨x,qM u,O⟩);clear M O u ao hV aj s J L N ae V X aa;obtain⟨xh,xv,xp⟩:=x;simp only at d0 d1 I HM B5 e0 e1 e2;go_wp2_with fail;refine HM.out.mono ?_;rintro e w6⟨rfl,b6⟩;have ab:=bj B5.out b6;have ah:=bj K.out.2.1 ab;have z:=jY.below o.out.2.2.1 ah;have k0:=z.cell 0;have k1:=z.cell 1;have k2:=z.cell 2;have f0:=z.frozen 0;have f1:=z.frozen 1;have f2:=z.frozen 2;have H6:=qQ (qU z ah);clear ab ah z b6;go_wp2;refine lG (p:=6) (g:=g) (t:=217) (C:=#[.int .i64 0,.int .i64 0,.map none]) rfl rfl ?_ rfl rfl ?_
      ·exact((H6.out.1.put 0 _).put 1 _).put 2 _
      ·rw[ay.out];exact Ju api d.out.2.2.1 d.out.2.2.2.1 o.out.1 (d.out.2.1.trans (o.out.2.1.less (fun b a=>qE _ a))) H6.out.2 (uj.none _) (fun b a=>by cases a) _ _ _
    | true =>
      rw[O]at M;have HM:=qQ M
      have aw:=qQ (show ∀j y,j<k+1->l[j]? = some y->uz r1 y.h=true from fun j y hj hy=>by
       rcases Nat.lt_or_ge j k with c|c
       ·exact X.out j y c hy
       ·obtain rfl:j=k:=(by omega);rw[u]at hy;rw[<-qg hy];exact O)
      clear M O u ao hV aj s J L N V X aa;obtain⟨xh,xv,xp⟩:=x;simp only at d0 d1 I HM B5 e0 e1 e2;go_wp2_with fail;refine HM.out.mono ?_;rintro e w6⟨rfl,b6⟩;have ab:=qQ (bj B5.out b6);clear b6;go_wp2;go_roundw
      case rel=>exact⟨k+1,by omega,by go_num,aw.out,ab.out⟩
      case measure=>simp[intOf];omega
   ·obtain rfl:k=l.length:=(by omega);have s1:¬((l.length:Nat):Int)<(Q:Int):=(by rw[<-HZ.out];omega);have s2:¬l.length<Q:=by rw[<-HZ.out];omega
    have aB:=qQ (ap.out.1 (fun x u=>by
     obtain⟨j,hj⟩:=List.getElem?_of_mem u;exact X.out j x (qP.1 hj).1 hj))
    have k0:=s.cell 0;have k1:=s.cell 1;have k2:=s.cell 2;have f0:=s.frozen 0;have f1:=s.frozen 1;have f2:=s.frozen 2;clear s J L N X ae;go_wp2;refine lG (p:=6) (g:=g) (t:=217) (C:=#[.int .i64 p,.int .i64 q,.map m]) rfl rfl ?_ rfl rfl ?_
    ·exact((aA.out.put 0 _).put 1 _).put 2 _
    ·rw[aB.out];exact Ju api d.out.2.2.1 d.out.2.2.2.1 o.out.1 (d.out.2.1.trans (o.out.2.1.less (fun b a=>qE _ a))) ax.out (K.out.2.2.1.below ag.out) (fun b a=>⟨(K.out.2.2.2 b a).1,qR (K.out.2.2.2 b a).2 ag.out.size⟩) _ _ _
end
end
section
structure ru(D E:jK)(n:Nat)(l:List jJ)(t:Tw):Prop where
 up:UpD E
 count:E.count=D.count
 cap:E.cap=D.cap
 used:jA E.l=jA D.l+t.size+(tbB l).size
 many:E.l.length=D.l.length+2
 table:jW E.l (ptT n)=some ⟨ptT n,tbB l,(tbB l).size⟩
 xr:jW E.l (ptB n)=some ⟨ptB n,t,t.size⟩
 other:∀m,m≠ptT n->m≠ptB n->jW E.l m=jW D.l m
theorem C6{D:jK}(h:UpD D){n:Nat}(d:n<=999999){l:List jJ}(p:uY l=true){t:Tw}(C:D.l.length<390)(k:jW D.l (ptT n)=none)(o:jW D.l (ptB n)=none)(F:jA D.l+t.size+(tbB l).size+6000<=D.cap):∃E,je D n l t=(0,E)/\ru D E n l t:=by
 obtain⟨q,u⟩:=PI d;have f:=mq d d;obtain⟨A,i,a⟩:=XO (s:=t) h (by omega) u o (by omega);obtain⟨g,j,b⟩:=XO (s:=tbB l) a.up (by rw[a.many];omega) q (by rw[a.file,qZ (fun e=>f e.symm)];exact k) (by rw[a.used,a.cap];omega);refine⟨g, ?_,b.up,by rw[b.count,a.count],by rw[b.cap,a.cap],by rw[b.used,a.used],by rw[b.many,a.many],by rw[b.file,qV rfl],by rw[b.file,qZ f,a.file,qV rfl],fun m y z=>by rw[b.file,qZ y,a.file,qZ z]⟩;unfold je;rw[qZ (by rw[not_or];exact⟨Z2 d,by simp[p]⟩),qZ (by simp[h.down]),qZ (by omega),i];simp only;rw[qZ (by decide),j];simp only;rw[qZ (by decide)]
theorem C7{D:jK}(h:UpD D){n:Nat}(a:n<=999999){l:List jJ}(b:uY l=true){t:Tw}(d:D.cap<jA D.l+t.size+(tbB l).size+6000):je D n l t=(60,D):=by
 unfold je;rw[qZ (by rw[not_or];exact⟨Z2 a,by simp[b]⟩),qZ (by simp[h.down]),qV (by omega)]
theorem ru.has{D E:jK}{n:Nat}{l:List jJ}{t:Tw}(h:ru D E n l t)(a:l.length<=89478484)(d:∀x∈l,kI x)(b:uY l=true):vO E n l:=by
 obtain⟨f,i,g⟩:=O5 a d b;exact⟨_,h.table,f,g⟩
theorem qKJ{D:jK}(h:UpD D){n:Nat}(a:n<=999999){f g:jU}(m:jW D.l (ptT n)=some f)(o:jW D.l (ptB n)=some g):∃E,yf D n=(0,E)/\UpD E/\E.cap=D.cap/\E.count=D.count/\E.l.length+2=D.l.length/\jA E.l+f.data.size+g.data.size=jA D.l:=by
 obtain⟨b,i,u1,c1,q,t,z,C,p⟩:=sy h m;have k:jW b.l (ptB n)=some g:=by rw[p _ (mq a a)];exact o
 obtain⟨d,j,u2,c2,s,u,A,F,y⟩:=sy u1 k;refine⟨d, ?_,u2,by rw[s,q],by rw[c2,c1],by omega,by omega⟩;unfold yf;rw[i];simp only;rw[j,qZ (by decide)];simp only;rw[qZ (by decide)]
structure kF(D E:jK):Prop where
 qp:E.qp=D.qp
 cap:E.cap=D.cap
 count:E.count=D.count
theorem kF.refl(D:jK):kF D D:=⟨rfl,rfl,rfl⟩
theorem kF.trans{D E F:jK}(h:kF D E)(k:kF E F):kF D F:=⟨k.qp.trans h.qp,k.cap.trans h.cap,k.count.trans h.count⟩
theorem Jg{D E F:jK}(h:kF D E)(k:kF D F):kF D (yW E F).2:=by
 unfold yW;split
 ·exact⟨k.qp,k.cap,k.count⟩
 ·exact⟨h.qp,h.cap,h.count⟩
theorem Jb(D:jK)(n:Tw):kF D (jP D n).2:=by
 unfold jP;split
 ·exact kF.refl D
 ·split
  ·exact kF.refl D
  ·split
   ·exact kF.refl D
   ·split
    ·exact kF.refl D
    ·exact Jg (kF.refl D) ⟨rfl,rfl,rfl⟩
theorem C8(D:jK)(n s:Tw):kF D (j9 D n s).2:=by
 unfold j9;split
 ·exact kF.refl D
 ·split
  ·split
   ·exact kF.refl D
   ·split
    ·exact⟨rfl,rfl,rfl⟩
    ·exact⟨rfl,rfl,rfl⟩
  ·exact kF.refl D
theorem qKK(D:jK)(n:Tw):kF D (jc D n).2:=by
 unfold jc;split
 ·exact kF.refl D
 ·split
  ·exact Jg (kF.refl D) ⟨rfl,rfl,rfl⟩
  ·exact kF.refl D
theorem C9(D:jK)(n:Tw):kF D (j6 D n).2:=by
 unfold j6;split
 ·exact kF.refl D
 ·split
  ·exact Jg (kF.refl D) ⟨rfl,rfl,rfl⟩
  ·exact kF.refl D
theorem mZ(D:jK)(n s:Tw):kF D (jk D n s).2:=by
 unfold jk;split
 ·exact Jb D n
 ·split
  ·exact(Jb D n).trans (C8 _ n s)
  ·exact((Jb D n).trans (C8 _ n s)).trans (qKK _ n)
theorem qKV(D:jK)(n:Int)(l:List jJ)(t:Tw):kF D (je D n l t).2:=by
 unfold je;split
 ·exact kF.refl D
 ·split
  ·exact kF.refl D
  ·split
   ·exact kF.refl D
   ·split
    ·exact mZ D _ _
    ·split
     ·exact((mZ D _ _).trans (mZ _ _ _)).trans (C9 _ _)
     ·exact(mZ D _ _).trans (mZ _ _ _)
theorem Cq{n m:Tw}(a:m≠n)(l:List jU):jW (yM l n) m=jW l m:=by
 unfold yM;split
 ·exact sk a l
 ·rfl
theorem qKY{l:List jU}{n:Tw}{x:jU}(h:x∈yM l n):x∈l:=by
 unfold yM at h;split at h
 ·exact nO h
 ·exact h
theorem Cx{l:List jU}{n:Tw}(d:(l.map jU.name).Nodup):jW (yM l n) n=none:=by
 unfold yM;split
 ·refine fS.2 fun f g e=>?_
  have a:f.name∈(kO l (jD l n)).map jU.name:=qN.2 ⟨f,g,rfl⟩;rw[pc n l d]at a;have b:=(List.mem_filter.1 a).2;rw[e]at b;simp at b
 ·rename_i h;exact Classical.byContradiction fun q=>h (fP.2 q)
theorem rf{l:List jU}{i:Nat}(h:(l.map jU.name).Nodup):((kO l i).map jU.name).Nodup:=by
 refine List.Sublist.nodup (List.Sublist.map _ ?_) h;unfold kO;have e:l=l.take i++l.drop i:=(ql i l).symm
 conv=>rhs;rw[e]
 refine List.Sublist.append_left ?_ _;rw[<-List.drop_drop];exact List.drop_sublist 1 _
theorem qKU{l:List jU}(h:l.Pairwise (fun f g=>vC f.name g.name=true))(i:∀n,vC n n=false):(l.map jU.name).Nodup:=by
 unfold List.Nodup;rw[List.pairwise_map];exact h.imp fun {a b} d e=>by rw[e,i]at d;cases d
theorem qKG{D:jK}(h:UpD D)(d:(j7 D).Nodup){n m:Tw}{f:jU}(q:jW D.l n=some f)(C:ky m=true)(g:n≠m):
  ∃E,vD D n m=(0,E)/\UpD E/\kF D E/\jA E.l<=jA D.l/\E.l.length<=D.l.length/\jW E.l m=some ⟨m,f.data,f.synced⟩/\jW E.l n=none/\(∀k,k≠m->k≠n->jW E.l k=jW D.l k)/\∀x∈j7 E,x=m∨(x∈j7 D/\x≠n):=by
 have t:jD D.l n<D.l.length:=fP.2 (by rw[q];simp);have s:D.l[jD D.l n]? = some f:=by rw[dA];exact q
 have e:vD D n m=(0, { D with l:=kY (yM (kO D.l (jD D.l n)) m) ⟨m,f.data,f.synced⟩ }):=by
  unfold vD yW vf;rw[qZ (by simp[h.down]),qV t,qZ (by simp[C]),h.fails,qV (by decide),qZ g,nL s]
 have w:=XI h.wf n m;rw[e]at w;have F:=rf (i:=jD D.l n) d;have A:jW (yM (kO D.l (jD D.l n)) m) m=none:=Cx F;have b:∀k,jW (kY (yM (kO D.l (jD D.l n)) m) ⟨m,f.data,f.synced⟩) k=if k=m then some ⟨m,f.data,f.synced⟩ else jW (yM (kO D.l (jD D.l n)) m) k:=fun k=>XL (f:=⟨m,f.data,f.synced⟩) A k
 have H:jW (kO D.l (jD D.l n)) n=none:=by
  refine fS.2 fun x j z=>?_
  have a:x.name∈(kO D.l (jD D.l n)).map jU.name:=qN.2 ⟨x,j,rfl⟩;rw[pc n D.l d]at a;have p:=(List.mem_filter.1 a).2;rw[z]at p;simp at p
 refine⟨_,e,⟨h.down,h.fails,w⟩,⟨rfl,rfl,rfl⟩, ?_, ?_,by show jW (kY _ _) m=_;rw[b,qV rfl],by show jW (kY _ _) n=_;rw[b,qZ g,Cq g,H],fun k u I=>by show jW (kY _ _) k=_;rw[b,qZ u,Cq u,sk I],fun x j=>?_⟩
 ·show jA (kY _ _)<=_;rw[nN];have:=pL s;have:=VX (kO D.l (jD D.l n)) m;show _+f.data.size<=_;omega
 ·show(kY _ _).length<=_;rw[pI];have:=pH t;have:=Ke (kO D.l (jD D.l n)) m;omega
 ·obtain⟨y,o,rfl⟩:=qN.1 (show x∈(kY (yM (kO D.l (jD D.l n)) m) ⟨m,f.data,f.synced⟩).map jU.name from j);rcases mC o with o|rfl
  ·have a:y.name∈(kO D.l (jD D.l n)).map jU.name:=qN.2 ⟨y,qKY o,rfl⟩;rw[pc n D.l d]at a;obtain⟨J,K⟩:=List.mem_filter.1 a;exact qY ⟨J,by simpa using K⟩
  ·exact qX rfl
theorem Qx(D:jK)(k:List Int):j7 (uE D k)=j7 D:=by
 show(bU D.l k).map jU.name=D.l.map jU.name;unfold bU;refine List.ext_getElem? fun i=>?_
 rw[qu,List.getElem?_mapIdx,qu];cases D.l[i]?<;>rfl
theorem Cz(D:jK)(n s:Tw):j7 (j9 D n s).2=j7 D:=by
 unfold j9;split
 ·rfl
 ·split
  ·split
   ·rfl
   ·split
    ·show(jd D.l _ _).map jU.name=_;exact lS _ (by intro f;rfl) _ _
    ·rw[Qx];show(jd D.l _ _).map jU.name=_;exact lS _ (by intro f;rfl) _ _
  ·rfl
theorem qKW(D:jK)(n:Tw):j7 (jc D n).2=j7 D:=by
 unfold jc;split
 ·rfl
 ·split
  ·unfold yW;split
   ·show(jd D.l _ _).map jU.name=_;exact lS _ (by intro f;rfl) _ _
   ·exact Qx _ _
  ·rfl
theorem Cj(D:jK)(n:Tw):j7 (jP D n).2=j7 D∨(jW D.l n=none/\(j7 (jP D n).2).Perm (n::j7 D)):=by
 unfold jP;split
 ·exact qX rfl
 ·split
  ·exact qX rfl
  ·split
   ·exact qX rfl
   ·rename_i a;split
    ·exact qX rfl
    ·unfold yW;split
     ·refine qY ⟨Classical.byContradiction fun q=>a (fP.2 q), ?_⟩;show((kY D.l ⟨n,ByteArray.empty,0⟩).map jU.name).Perm _;unfold kY;generalize vp D.l n=k;have e:j7 D=(D.l.take k).map jU.name++(D.l.drop k).map jU.name:=(by rw[<-List.map_append,ql]);rw[e,List.map_append,List.map_append];show((D.l.take k).map jU.name++[n]++(D.l.drop k).map jU.name).Perm _;rw[qb];exact List.perm_middle
     ·exact qX (Qx _ _)
theorem Ck(D:jK)(n s:Tw):j7 (jk D n s).2=j7 (jP D n).2:=by
 unfold jk;split
 ·rfl
 ·split
  ·exact Cz _ _ _
  ·rw[qKW,Cz]
theorem Jc{D:jK}{n s x:Tw}(a:x∈j7 (jk D n s).2):x=n∨x∈j7 D:=by
 rw[Ck]at a;rcases Cj D n with e|⟨-,e⟩
 ·rw[e]at a;exact qY a
 ·exact qL.1 (e.mem_iff.1 a)
theorem rh{D:jK}{n s:Tw}(h:(j7 D).Nodup):(j7 (jk D n s).2).Nodup:=by
 rw[Ck];rcases Cj D n with e|⟨k,e⟩
 ·rw[e];exact h
 ·refine e.nodup_iff.2 (List.nodup_cons.2 ⟨fun d=>?_,h⟩);obtain⟨f,b,a⟩:=qN.1 d;exact fS.1 k f b a
theorem qKA{D:jK}(h:UpD D)(y:(j7 D).Nodup){m:j5}(z:jw m)(d:jW D.l jB=none)(M:D.l.length<399)(N:jA D.l+(mfB m).size+6000<=D.cap):
  ∃E,yc D m=(0,E)/\UpD E/\kF D E/\jA E.l<=jA D.l+(mfB m).size/\E.l.length<=D.l.length+1/\jW E.l jC=some ⟨jC,mfB m,(mfB m).size⟩/\jW E.l jB=none/\(∀k,k≠jC->k≠jB->jW E.l k=jW D.l k)/\∀x∈j7 E,x=jC∨x∈j7 D:=by
 have q:=sj h.down d;obtain⟨L,b,a⟩:=XO (s:=mfB m) h (by omega) Nk d (by omega);obtain⟨p,t,u2,J,j,i,u,H,I,K⟩:=qKG a.up (by have:=rh (n:=jB) (s:=mfB m) y;rw[b]at this;exact this) (n:=jB) (m:=jC) (f:=⟨jB,mfB m,(mfB m).size⟩) (by rw[a.file,qV rfl]) Nj (fun e=>Xt e.symm);refine⟨p, ?_,u2, ?_,by rw[a.used]at j;exact j,by rw[a.many]at i;exact i,u,H,fun k F g=>by rw[I k F g,a.file,qZ g],fun x A=>?_⟩
 ·unfold yc;rw[qZ (by simpa using z),qZ (by simp[h.down]),q];simp only;rw[qZ (by decide),qZ (by omega),b];simp only;rw[qZ (by decide)];exact t
 ·have o:=mZ D jB (mfB m);rw[b]at o;exact o.trans J
 ·rcases K x A with e|⟨e,k⟩
  ·exact qX e
  ·have C:x∈j7 (jk D jB (mfB m)).2:=(by rw[b];exact e);rcases Jc C with e|e
   ·exact absurd e k
   ·exact qY e
structure TbS where
 n:Nat
 l:List jJ
 t:Tw
structure IxS where
 m:j5
 T:List TbS
 mem:List jJ
def yF(S:IxS)(x:jJ):Prop:=x∈S.mem∨∃t∈S.T,x∈t.l
def kt(b:Int):Int:=min b 1073741824
def oh(S:IxS)(h:Nat)(a b:Int):List jJ:=dH (kZ S.mem h a (kt b)::S.T.map fun t=>kZ t.l h a (kt b))
structure jl(D:jK)(S:IxS):Prop where
 may:jw S.m
 seed:S.m.seed<18446744073709551616
 xY:∀n:Int,n∈S.m.lv.flatten↔∃t∈S.T,(t.n:Int)=n
 uniq:(S.T.map TbS.n).Nodup
 has:∀t∈S.T,vO D t.n t.l
 keep:∀t∈S.T,bf t.t t.l=true
 qw:jh S.mem
 ok:∀x∈S.mem,kI x
 mayE:∀x∈S.mem,Go.Proofs.YtokbfellcadkpaaGreat.mayE x=true
theorem jl.xU{D:jK}{S:IxS}(h:jl D S){t:TbS}(a:t∈S.T):t.n<1000000/\(t.n:Int)<S.m.next:=by
 have b:=h.may.2.2.2.2.2 _ ((h.xY _).2 ⟨t,a,rfl⟩);have d:=h.may.2.1;omega
theorem jl.many{D:jK}{S:IxS}(h:jl D S):S.T.length=S.m.lv.flatten.length:=by
 have f:(S.T.map fun t=>(t.n:Int)).Perm S.m.lv.flatten:=by
  refine(List.perm_ext_iff_of_nodup ?_ h.may.2.2.2.2.1.2.2.2).2 fun n=>?_
  ·have:=h.uniq;rw[show(S.T.map fun t=>(t.n:Int))=(S.T.map TbS.n).map (fun n:Nat=>(n:Int)) by rw[List.map_map];rfl];unfold List.Nodup at this ⊢;rw[List.pairwise_map];exact this.imp fun {a b} d e=>d (by omega)
  ·rw[h.xY n,qN]
 have:=f.length_eq;rw[qj]at this;exact this
theorem jl.xE{D:jK}{S:IxS}(h:jl D S):S.T.length<=40:=by rw[h.many];exact h.may.2.2.2.2.1.2.1
theorem jl.zN{D:jK}{S:IxS}(h:jl D S)(k:Nat)(a b:Int):∀l∈kZ S.mem k a b::S.T.map (fun t=>kZ t.l k a b),jh l:=fun l d=>by
 rcases qL.1 d with rfl|d
 ·exact List.Pairwise.filter _ h.qw
 ·obtain⟨t,f,rfl⟩:=qN.1 d;exact List.Pairwise.filter _ (h.has t f).props.1
theorem jl.count{D:jK}{S:IxS}(h:jl D S)(k:Nat):jl { D with count:=k } S:=⟨h.may,h.seed,h.xY,h.uniq,fun t a=>(h.has t a).count k,h.keep,h.qw,h.ok,h.mayE⟩
theorem qKB{D:jK}{S:IxS}(h:jl D S){L:List jJ}(m:jh L)(i:∀x,x∈L↔yF S x)(k:Nat)(a b:Int):oh S k a b=kZ L k (max a 0) (kt b):=by
 have o:∀x∈L,Go.Proofs.YtokbfellcadkpaaGreat.mayE x=true:=fun x d=>by
  rcases(i x).1 d with q|⟨t,f,q⟩
  ·exact h.mayE x q
  ·exact(h.has t f).props.2.1 x q
 rw[P8 o];refine U5 (Uv (h.zN k a (kt b))) (List.Pairwise.filter _ m) fun x=>?_
 unfold oh;rw[Uj];unfold kZ;rw[List.mem_filter,i x];constructor
 ·rintro ⟨l,g,d⟩;rcases qL.1 g with rfl|g
  ·exact⟨qX (List.mem_filter.1 d).1,(List.mem_filter.1 d).2⟩
  ·obtain⟨t,f,rfl⟩:=qN.1 g;exact⟨qY ⟨t,f,(List.mem_filter.1 d).1⟩,(List.mem_filter.1 d).2⟩
 ·rintro ⟨q|⟨t,f,q⟩,j⟩
  ·exact⟨_,qD,List.mem_filter.2 ⟨q,j⟩⟩
  ·exact⟨_,qE _ (qN.2 ⟨t,f,rfl⟩),List.mem_filter.2 ⟨q,j⟩⟩
theorem jl.add{D:jK}{S:IxS}(h:jl D S){x:jJ}(d:kI x)(b:Go.Proofs.YtokbfellcadkpaaGreat.mayE x=true):jl D { S with mem:=jt S.mem x }:=by
 refine⟨h.may,h.seed,h.xY,h.uniq,h.has,h.keep,ZW h.qw x,fun y a=>?_,fun y a=>?_⟩
 ·rcases pt a with k|rfl
  ·exact h.ok y k
  ·exact d
 ·rcases pt a with k|rfl
  ·exact h.mayE y k
  ·exact b
theorem qKC{S:IxS}{x y:jJ}:yF { S with mem:=jt S.mem x } y↔yF S y∨y=x:=by
 unfold yF;simp only[Z9];constructor
 ·rintro ((k|k)|k)
  ·exact qX (qX k)
  ·exact qY k
  ·exact qX (qY k)
 ·rintro ((k|k)|k)
  ·exact qX (qX k)
  ·exact qY k
  ·exact qX (qY k)
def uP(T:List TbS)(R:LvL):List TbS:=T.filter fun t=>decide ((t.n:Int)∈R.flatten)
def fA(S:IxS)(R:LvL)(a:Int)(x:TbS)(mem:List jJ):IxS:=⟨⟨S.m.next+1,a,S.m.seed,R⟩,uP S.T R++[x],mem⟩
theorem qKD{L:LvL}{n:Int}(h:vd L n=0)(x:Int):x∈(kJ L n).flatten↔x=n∨x∈L.flatten:=by
 have d:bq L:=by
  unfold vd at h;split at h
  ·cases h
  ·rename_i c;exact of_decide_eq_true (by cases a:yT L with | true=>exact a | false=>exact absurd (qX a) c)
 unfold kJ;rw[qV h,lF];have b:=sC n (L:=ke L) (k:=0) (by rw[pY d.1];omega);rw[b.mem_iff,qL,nC]
theorem Cv: ∀ {L:LvL} {k:Nat},L.flatten.Nodup->∀x:Int,x∈(L.set k []).flatten↔x∈L.flatten/\x ∉ L.getD k []
 | [],k,_,x=>by simp
 | y::L,0,hd,x=>by
   rw[List.flatten_cons]at hd;obtain⟨f,d,a⟩:=List.nodup_append.1 hd;simp only[List.set_cons_zero,List.flatten_cons,List.nil_append,List.getD_cons_zero,List.mem_append];constructor
   ·exact fun h=>⟨qY h,fun k=>a x k x h rfl⟩
   ·rintro ⟨k|k,q⟩
    ·exact absurd k q
    ·exact k
 | y::L,k+1,hd,x=>by
   rw[List.flatten_cons]at hd;obtain⟨f,d,a⟩:=List.nodup_append.1 hd;have g:=Cv (k:=k) d x;simp only[List.set_cons_succ,List.flatten_cons,List.getD_cons_succ,List.mem_append,g];constructor
   ·rintro (q|⟨q,r⟩)
    ·refine⟨qX q,fun r=>?_⟩;rw[qz]at r;cases b:L[k]? with
     | none=>rw[b]at r;cases r
     | some z =>
       rw[b]at r;exact a x q x (List.mem_flatten.2 ⟨z,qM b,r⟩) rfl
    ·exact⟨qY q,r⟩
   ·rintro ⟨q|q,r⟩
    ·exact qX q
    ·exact qY ⟨q,r⟩
theorem qKE{L:LvL}{k n:Int}(h:vw L k n=0)(x:Int):x∈(kN L k n).flatten↔x=n∨(x∈L.flatten/\x ∉ js L k):=by
 have a:=h;unfold vw at a;split at a
 ·rename_i c;exact absurd a c
 ·rename_i c;obtain⟨b,i,j,g,-⟩:=nD (L:=L) (k:=k) (by omega);unfold kN;rw[qV h,lF];have d:=pY b.1;have f:=sC n (L:=(ke L).set k.toNat []) (k:=toL k.toNat) (by rw[List.length_set,d];exact KB _);rw[f.mem_iff,qL,Cv (by rw[nC];exact b.2.2.2),nC,lE,g]
theorem Cy{L:LvL}{n:Int}(b:bq L)(d:0<=n)(a:∀x∈L.flatten,x<n):vd L n=if L.flatten.length=40 then 60 else 0:=by
 unfold vd;rw[qZ];rintro (h|h|h)
 ·rw[show yT L=true from qA b]at h;cases h
 ·omega
 ·have:=a n h;omega
theorem Cu{L:LvL}{k n:Int}(b:0<=n)(a:∀x∈L.flatten,x<n):vw L k n=ki L k:=by
 unfold vw;split
 ·rfl
 ·rename_i c;rw[qZ]
  ·have:ki L k=0:=Classical.byContradiction fun q=>c q
   exact this.symm
  ·rintro (h|h)
   ·omega
   ·have:=a n h;omega
theorem om{L:LvL}{k:Int}:∀x∈js L k,x∈L.flatten:=fun x a=>by
 unfold js at a;split at a
 ·rw[lE,qz]at a;cases b:L[k.toNat]? with
  | none=>rw[b]at a;cases a
  | some z =>
    rw[b]at a;exact List.mem_flatten.2 ⟨z,qM b,a⟩
 ·cases a
theorem Cg{L:LvL}{k:Int}(h:L.flatten.Nodup):(js L k).Nodup:=by
 unfold js;split
 ·rw[lE,qz];cases d:L[k.toNat]? with
  | none=>exact List.nodup_nil
  | some z =>
    obtain⟨b,e⟩:=qP.1 d
    have:z.Sublist L.flatten:=by
     have a:L=L.take k.toNat++(z::L.drop (k.toNat+1)):=by rw[<-e,<-List.drop_eq_getElem_cons b,ql]
     conv=>rhs;rw[a,List.flatten_append,List.flatten_cons]
     exact(List.sublist_append_left z _).trans (List.sublist_append_right _ _)
    exact this.nodup h
 ·exact List.nodup_nil
def cP(T:List TbS)(ns:List Int):List TbS:=T.filter fun t=>decide ((t.n:Int)∈ns)
def ka(S:IxS)(ns:List Int):List jJ:=dH ((cP S.T ns).map TbS.l)
theorem rl{S:IxS}{ns:List Int}{x:jJ}:x∈ka S ns↔∃t∈S.T,(t.n:Int)∈ns/\x∈t.l:=by
 unfold ka cP;rw[Uj];constructor
 ·rintro ⟨l,f,d⟩;obtain⟨t,g,rfl⟩:=qN.1 f;obtain⟨a,b⟩:=List.mem_filter.1 g;exact⟨t,a,of_decide_eq_true b,d⟩
 ·rintro ⟨t,a,b,d⟩;exact⟨t.l,qN.2 ⟨t,List.mem_filter.2 ⟨a,qA b⟩,rfl⟩,d⟩
theorem Qz{D:jK}{S:IxS}(h:jl D S)(ns:List Int):jh (ka S ns):=Uv fun l a=>by
 obtain⟨t,b,rfl⟩:=qN.1 a;exact(h.has t (List.mem_filter.1 b).1).props.1
theorem ot{D:jK}{S:IxS}(h:jl D S)(ns:List Int):∀x∈ka S ns,kI x/\Go.Proofs.YtokbfellcadkpaaGreat.mayE x=true:=fun x a=>by
 obtain⟨t,b,-,a⟩:=rl.1 a;exact⟨(h.has t b).props.2.2 x a,(h.has t b).props.2.1 x a⟩
theorem Qj{l:List jJ}(b:jh l)(a:∀x∈l,Go.Proofs.YtokbfellcadkpaaGreat.mayE x=true):uY l=true:=by
 unfold uY;rw[Bool.and_eq_true,List.all_eq_true];exact⟨b.sorted,a⟩
theorem rm{α:Type}[DecidableEq α]:∀ {a b:List α},a.Nodup->(∀x∈a,x∈b)->a.length<=b.length
 | [],b,_,_=>qF _
 | x::a,b,hd,h=>by
   obtain⟨g,i⟩:=List.nodup_cons.1 hd;have d:=h x qD;have j:=rm (b:=b.erase x) i fun y f=>(List.mem_erase_of_ne (fun e:y=x=>g (by rw[<-e];exact f))).2 (h y (qE _ f))
   rw[List.length_erase_of_mem d]at j;have:=List.length_pos_of_mem d;rw[qk];omega
theorem lW{a b:List jJ}(f:jh a)(h:∀x∈a,x∈b):a.length<=b.length :=
 rm (f.imp fun {x y} d e=>by rw[e,l9]at d;cases d) h
end
section
open Go.RowKit
section
variable {At:jL}{w0 w w':World}{gd:Nat}{D D':jK}{E E' B:List Nat}
theorem DS.xJ(api:jM At)(h:DS At w0 gd D E w)(d:jG B w w')(j:∀b∈B,b∈E/\w0.heap.size<=b)(m:∀b∈E',b∈E∨(w.heap.size<=b/\b<w'.heap.size)):DS At w0 gd D E' w':=by
 obtain⟨F,g,i,a⟩:=h;refine⟨F,api.qe g d (fun x f q=>(a x (j x q).1).1 f),i.trans (d.below i.size (fun x f=>(j x f).2)),fun b o=>?_⟩;rcases m b o with k|⟨t,s⟩
 ·exact⟨(a b k).1,qR (a b k).2 d.size⟩
 ·exact⟨fun p=>by have:=(api.low g b p).2;omega,s⟩
end
def uB(w:World)(v:Value)(R:LvL)(G:List Nat):Prop:=∀W,jV G w W->jn W v R
section
variable {w w':World}{v:Value}{R:LvL}{G G' E:List Nat}
theorem uB.now(h:uB w v R G):jn w v R:=h w (jV.refl _ _)
theorem uB.step(h:uB w v R G)(a:jV G w w'):uB w' v R G:=fun W k=>h W (a.trans k)
theorem uB.more(h:uB w v R G)(a:∀b∈G,b∈G'):uB w v R G':=fun W k=>h W (k.less a)
end
theorem jV.x7{G:List Nat}{w w':World}{base:Nat}{v:Value}{M:List LvS}(h:jV G w w')(a:j8 w base v M)(m:∀b∈jF v,b∈G):j8 w' base v M:=by
 refine⟨a.1, ?_⟩;rcases a.2 with i|⟨g,d,f,e,j,k,r⟩
 ·exact qX i
 ·exact qY ⟨g,d,f,e,j,(h.block g (m g (kG.2 (by rw[e];rfl)))).trans k,r⟩
theorem jV.zK{G:List Nat}{w w':World}{base:Nat}{v:Value}{l:List Int}(h:jV G w w')(a:j4 w base v l)(m:∀b∈jF v,b∈G):j4 w' base v l:=by
 refine⟨a.1, ?_⟩;rcases a.2 with i|⟨g,d,f,e,j,k,r⟩
 ·exact qX i
 ·exact qY ⟨g,d,f,e,j,(h.block g (m g (kG.2 (by rw[e];rfl)))).trans k,r⟩
theorem vJ.keep{w:World}{base:Nat}{v:Value}{R:LvL}(h:vJ w base v R):∃G,(∀b∈G,base<=b/\b<w.heap.size)/\uB w v R G:=by
 obtain⟨M,f,g,i⟩:=h;refine⟨jF v++M.flatMap (fun x=>jF x.v),fun b a=>?_,fun W k=>⟨M,j8.xQ (k.x7 f (fun b a=>qG _ a)) (fun x d=>j4.xQ (k.zK (g x d) (fun b a=>qJ _ (List.mem_flatMap.2 ⟨x,d,a⟩)))),i⟩⟩;rcases qB.1 a with a|a
 ·exact f.lt b (kG.1 a)
 ·obtain⟨x,d,a⟩:=List.mem_flatMap.1 a;exact(g x d).lt b (kG.1 a)
theorem vZ.keep{w w':World}{base g:Nat}{F E:List Nat}{l:List jJ}(h:vZ w base g F l)(a:jV E w w')(hF:∀b∈F,b∈E):vZ w' base g F l:=by
 obtain⟨v,k,m,d,f,i,o,p⟩:=h;exact⟨v,a.qa k (hF g f),a.row m (fun b q=>hF b (d b (kG.1 q))),d,f,fun x j=>⟨(i x j).1,qR (i x j).2 a.size⟩,o,p⟩
abbrev vm(w:World)(base:Nat)(v:Value)(ps:List Nat):Prop:=w.ownsRow base 164 1 v ps.length (ps.map ptr)
theorem vm.nil(w:World)(base:Nat):vm w base (.slice none 0 0) []:=World.ownsRow_nil _ _ _ _
theorem jV.xM{G:List Nat}{w w':World}{base:Nat}{v:Value}{ps:List Nat}(h:jV G w w')(a:vm w base v ps)(m:∀b∈jF v,b∈G):vm w' base v ps:=by
 refine⟨a.1, ?_⟩;rcases a.2 with i|⟨g,d,f,e,j,k,r⟩
 ·exact qX i
 ·exact qY ⟨g,d,f,e,j,(h.block g (m g (kG.2 (by rw[e];rfl)))).trans k,r⟩
theorem vm.below{w w':World}{base B:Nat}{v:Value}{ps:List Nat}(h:vm w base v ps)(j:Below B w w')(i:w.heap.size<=B):vm w' base v ps:=by
 refine⟨h.1, ?_⟩;rcases h.2 with f|⟨g,b,d,o,k,a,r⟩
 ·exact qX f
 ·obtain⟨m,_⟩:=qm.1 a;exact qY ⟨g,b,d,o,k,(j.block g (qR m i)).trans a,r⟩
theorem vm.form{w:World}{base:Nat}{v:Value}{ps:List Nat}(h:vm w base v ps):∃A cap,v = .slice A ps.length cap/\ps.length<=cap/\cap<=maxLen/\∀i g,ps[i]? = some g->∃b,A=some ⟨b,0,none⟩/\v.ownBlock=some b/\b<w.heap.size/\w.cell? ⟨b,i,none⟩=some (ptr g):=by
 obtain⟨A,cap,rfl,d,f,j,m⟩:=yw h;refine⟨A,cap,rfl,d,f,fun i g a=>?_⟩;have p:=(qP.1 a).1;obtain⟨b,rfl,o,k⟩:=j (by omega);refine⟨b,rfl,rfl,k,(h.cellAt i (by omega)).trans ?_⟩;show(ps.map ptr)[i]? = _;rw[qu,a];rfl
def uC(w:World)(gd:Nat)(ps:List Nat)(T:List TbS)(G:List Nat):Prop :=
 ps.length=T.length/\∀(i:Nat) (g:Nat) (t:TbS),ps[i]? = some g->T[i]? = some t->∃H,yC w g gd t.n t.l t.t H/\∀b∈H,b∈G
section
variable {w w':World}{gd:Nat}{ps:List Nat}{T:List TbS}{G G' E:List Nat}
theorem uC.keep(h:uC w gd ps T G)(m:jV E w w')(j:∀b∈G,b∈E):uC w' gd ps T G:=⟨h.1,fun i g t d f=>by
 obtain⟨H,o,a⟩:=h.2 i g t d f;exact⟨H,o.keep m (fun b k=>j b (a b k)),a⟩⟩
theorem uC.more(h:uC w gd ps T G)(f:∀b∈G,b∈G'):uC w gd ps T G':=⟨h.1,fun i g t a d=>by
 obtain⟨H,k,m⟩:=h.2 i g t a d;exact⟨H,k,fun b j=>f b (m b j)⟩⟩
theorem uC.nil(w:World)(gd:Nat):uC w gd [] [] []:=⟨rfl,fun i g t h=>by simp at h⟩
theorem uC.snoc(h:uC w gd ps T G){g:Nat}{t:TbS}{H:List Nat}(m:yC w g gd t.n t.l t.t H):uC w gd (ps++[g]) (T++[t]) (H++G):=by
 refine⟨by rw[qI,qI,h.1];rfl,fun i x y a d=>?_⟩;have k:=h.1;rcases Nat.lt_or_ge i ps.length with c|c
 ·rw[List.getElem?_append_left c]at a;rw[List.getElem?_append_left (by omega)]at d;obtain⟨K,o,p⟩:=h.2 i x y a d;exact⟨K,o,fun b f=>qJ _ (p b f)⟩
 ·rw[List.getElem?_append_right c]at a;rw[List.getElem?_append_right (by omega)]at d
  have j:i=ps.length:=by
   have:=(qP.1 a).1;simp at this;omega
  subst j;rw[Nat.sub_self]at a;rw[k,Nat.sub_self]at d;obtain rfl:g=x:=by simpa using a
  obtain rfl:t=y:=by simpa using d
  exact⟨H,m,fun b f=>qG _ f⟩
theorem uC.filter(p:TbS->Bool):∀ {ps:List Nat} {T:List TbS},uC w gd ps T G->uC w gd (((ps.zip T).filter fun x=>p x.2).map Prod.fst) (T.filter p) G:=by
 intro ps T h;obtain⟨q,o⟩:=h
 have e:((ps.zip T).filter fun x=>p x.2).map Prod.snd=T.filter p:=by
  rw[show(fun x:Nat × TbS=>p x.2)=p ∘ Prod.snd from rfl,<-List.filter_map,List.map_snd_zip (by omega)]
 have m:∀(i:Nat) (g:Nat) (t:TbS),(((ps.zip T).filter fun x=>p x.2).map Prod.fst)[i]? = some g->(T.filter p)[i]? = some t->(g,t)∈ps.zip T:=by
  intro i g t b a;rw[<-e]at a;rw[qu]at b a;obtain⟨x,f,rfl⟩:=Option.map_eq_some_iff.1 b;obtain⟨y,k,rfl⟩:=Option.map_eq_some_iff.1 a;rw[f]at k;obtain rfl:x=y:=qg k;exact(List.mem_filter.1 (qM f)).1
 refine⟨by rw[<-e,qj,qj],fun i g t b a=>?_⟩;obtain⟨j,d⟩:=List.getElem?_of_mem (m i g t b a);rw[List.getElem?_zip_eq_some]at d;exact o j g t d.1 d.2
end
def IxM(w:World)(base gx gd r:Nat)(S:IxS)(Fm Gr Gk:List Nat):Prop :=
 ∃(d:Nat) (f a:Value) (ps:List Nat),jY w gx 89 #[ptr gx,ptr gd,.int .i64 S.m.next,.int .i64 S.m.check,.int .u64 (S.m.seed:Nat),f,a,.float .f64 r,mtp d] /\
  uB w f S.m.lv Gk/\vm w base a ps/\uC w gd ps S.T Gk/\vZ w base d Fm S.mem/\gx∈Gr/\(∀b∈jF a,b∈Gr)/\base<=gx
def jz(At:jL)(w0:World)(gd gx r:Nat)(S:IxS)(D:jK)(E:List Nat)(w:World):Prop :=
 ∃Fm Gr Gk,DS At w0 gd D (Fm++(Gr++(Gk++E))) w/\IxM w w0.heap.size gx gd r S Fm Gr Gk/\(∀b∈Fm,b ∉ Gr/\b ∉ Gk/\b ∉ E)/\(∀b∈Gr,b ∉ Gk/\b ∉ E)/\(∀b∈Gk,b ∉ E)/\∀b∈Fm++Gr,w0.heap.size<=b
def nV(At:jL)(w0:World)(gd gx r:Nat)(v:Value)(S:IxS)(D:jK)(E:List Nat)(w:World)(e:Ending)(w':World):Prop:=e = .returned v/\jz At w0 gd gx r S D E w'/\jV E w w'
section
variable {At:jL}{w0 w w':World}{base gd gx r:Nat}{S S':IxS}{D D':jK}{E E' B Fm Gr Gk:List Nat}
theorem IxM.keep(h:IxM w base gx gd r S Fm Gr Gk)(d:jV (Fm++(Gr++Gk)) w w'):IxM w' base gx gd r S Fm Gr Gk:=by
 obtain⟨i,s,t,ps,j,k,m,o,p,f,g,q⟩:=h;exact⟨i,s,t,ps,d.qa j (qJ _ (qG _ f)),k.step (d.less (fun b a=>qJ _ (qJ _ a))),d.xM m (fun b a=>qJ _ (qG _ (g b a))),o.keep d (fun b a=>qJ _ (qJ _ a)),p.keep d (fun b a=>qG _ a),f,g,q⟩
theorem jz.ds(h:jz At w0 gd gx r S D E w):DS At w0 gd D E w:=by
 obtain⟨Fm,Gr,Gk,a,-⟩:=h;exact a.less (fun b d=>qJ _ (qJ _ (qJ _ d)))
theorem jz.kept(h:jz At w0 gd gx r S D E w):Below w0.heap.size w0 w:=h.ds.kept
theorem jz.lt(h:jz At w0 gd gx r S D E w):∀b∈E,b<w.heap.size:=h.ds.lt
theorem jz.xJ(api:jM At)(h:jz At w0 gd gx r S D E w)(u:jG B w w')(i:∀b∈B,b∈E/\w0.heap.size<=b)(t:∀b∈E',b∈E∨(w.heap.size<=b/\b<w'.heap.size)):jz At w0 gd gx r S D E' w':=by
 obtain⟨Fm,Gr,Gk,p,y,d,g,s,z⟩:=h;have A:=p.lt
 have f:∀b∈Fm++(Gr++Gk),b<w.heap.size/\b ∉ B:=fun b a=>by
  refine⟨A b ?_,fun m=>?_⟩
  ·rcases qB.1 a with k|k
   ·exact qG _ k
   ·rcases qB.1 k with k|k
    ·exact qJ _ (qG _ k)
    ·exact qJ _ (qJ _ (qG _ k))
  ·have j:=(i b m).1;rcases qB.1 a with k|k
   ·exact(d b k).2.2 j
   ·rcases qB.1 k with k|k
    ·exact(g b k).2 j
    ·exact s b k j
 have o:∀b,b<w.heap.size->b ∉ E->b ∉ E':=fun b a C m=>by
  rcases t b m with k|k
  ·exact C k
  ·omega
 refine⟨Fm,Gr,Gk,p.xJ api u (fun b a=>⟨qJ _ (qJ _ (qJ _ (i b a).1)),(i b a).2⟩) (fun b a=>?_),y.keep (jV.xB u f),fun b a=>⟨(d b a).1,(d b a).2.1,o b (f b (qG _ a)).1 (d b a).2.2⟩,fun b a=>⟨(g b a).1,o b (f b (qJ _ (qG _ a))).1 (g b a).2⟩,fun b a=>o b (f b (qJ _ (qJ _ a))).1 (s b a),z⟩;rcases qB.1 a with k|k
 ·exact qX (qG _ k)
 ·rcases qB.1 k with k|k
  ·exact qX (qJ _ (qG _ k))
  ·rcases qB.1 k with k|k
   ·exact qX (qJ _ (qJ _ (qG _ k)))
   ·rcases t b k with q|q
    ·exact qX (qJ _ (qJ _ (qJ _ q)))
    ·exact qY q
theorem jz.below(api:jM At)(h:jz At w0 gd gx r S D E w)(a:Below w.heap.size w w'):jz At w0 gd gx r S D E w':=h.xJ api (jG.qn a) (fun b a=>by cases a) (fun b a=>qX a)
theorem jz.drew(api:jM At)(h:jz At w0 gd gx r S D E w):jz At w0 gd gx r S D E w.drew:=h.below api (Below.refl _ _).drew
theorem jz.less(h:jz At w0 gd gx r S D E w)(d:∀b∈E',b∈E):jz At w0 gd gx r S D E' w:=by
 obtain⟨Fm,Gr,Gk,i,j,f,g,m,o⟩:=h;refine⟨Fm,Gr,Gk,i.less (fun b a=>?_),j,fun b a=>⟨(f b a).1,(f b a).2.1,fun k=>(f b a).2.2 (d b k)⟩,fun b a=>⟨(g b a).1,fun k=>(g b a).2 (d b k)⟩,fun b a k=>m b a (d b k),o⟩;rcases qB.1 a with k|k
 ·exact qG _ k
 ·rcases qB.1 k with k|k
  ·exact qJ _ (qG _ k)
  ·rcases qB.1 k with k|k
   ·exact qJ _ (qJ _ (qG _ k))
   ·exact qJ _ (qJ _ (qJ _ (d b k)))
theorem jz.more(api:jM At)(h:jz At w0 gd gx r S D E w)(a:Below w.heap.size w w')(d:∀b∈B,w.heap.size<=b/\b<w'.heap.size):jz At w0 gd gx r S D (B++E) w' :=
 h.xJ api (B:=[]) (jG.qn a) (fun b a=>by cases a) (fun b a=>(qB.1 a).elim (fun k=>qY (d b k)) qX)
theorem jz.quiet(h:jz At w0 gd gx r S D E w){P:Program}{f:FuncId}{args:Array Value}{Q:Ending->World->Prop}
  (s:∀E',(∀b∈E,b∈E')->DS At w0 gd D E' w->Calls P f args w fun e w'=>DS At w0 gd D' E' w'/\jV E' w w'/\Q e w'):Calls P f args w fun e w'=>jz At w0 gd gx r S D' E w'/\jV E w w'/\Q e w':=by
 obtain⟨Fm,Gr,Gk,g,i,j,m,o,p⟩:=h;refine(s _ (fun b a=>qJ _ (qJ _ (qJ _ a))) g).mono ?_;rintro e w'⟨d,k,q⟩;refine⟨⟨Fm,Gr,Gk,d,i.keep (k.less fun b a=>?_),j,m,o,p⟩,k.less (fun b a=>qJ _ (qJ _ (qJ _ a))),q⟩;rcases qB.1 a with k|k
 ·exact qG _ k
 ·rcases qB.1 k with k|k
  ·exact qJ _ (qG _ k)
  ·exact qJ _ (qJ _ (qG _ k))
end
theorem Cb{w:World}{base:Nat}{v:Value}{l:List vI}(h:yK w base v l):∀b∈jF v,base<=b/\b<w.heap.size:=by
 intro b a;have a:=kG.1 a;rcases h.2 with⟨rfl,-⟩|⟨g,i,j,rfl,d,f,-⟩
 ·cases a
 ·have e:g=b:=by simpa[Value.ownBlock] using a
  rw[<-e];exact⟨d,(qm.1 f).1⟩
def rp(At:jL)(w0:World)(gd:Nat)(n:Int)(l:List jJ)(t:Tw)(D':jK)(E:List Nat)(w:World)(e:Ending)(w':World):Prop :=
 ∃a G,e = .returned (.tuple #[ptr a,.int .i64 0])/\yC w' a gd n l t G/\DS At w0 gd D' (G++E) w'/\jV E w w'/\∀b∈G,w.heap.size<=b
section
variable {At:jL}(api:jM At)(nap:jm){w0 w:World}{gd:Nat}{D:jK}{E:List Nat}
include api
theorem qKF{w1 w2 g d:World}{I o:jK}{n:Int}{l:List jJ}{A B:Option Addr}{c c2:Nat}{p q:Int}{m:Option Nat}{t:Tw}
  (K:DS At w0 gd I E w1) (F:jV E w w1) (i:Below w1.heap.size w1 w2) (O:jE w2 w1.heap.size (.slice A l.length c) l) (u:Below w2.heap.size w2 g) (H:yK g w2.heap.size (.slice B (kh l).length c2) (kh l))
  (J:uj d (.agg #[.int .i64 p,.int .i64 q,.map m]) t) (y:DS At w0 gd o (m.toList++(jF (.slice B (kh l).length c2)++(jF (.slice A l.length c)++E))) d) (k:jV (jF (.slice B (kh l).length c2)++(jF (.slice A l.length c)++E)) g d) (N:∀b∈m.toList,g.heap.size<=b):
  rp At w0 gd n l t o E w (.returned (.tuple #[ptr d.heap.size,.int .i64 0])) (d.alloc (.cells #[ptr d.heap.size,ptr gd,.int .i64 n,.int .i64 (l.length:Nat),.slice B (kh l).length c2,.int .i64 p,.int .i64 q,.map m] 219)):=by
 have z:=(Below.refl d.heap.size d).alloc (qK _) (.cells #[ptr d.heap.size,ptr gd,.int .i64 n,.int .i64 (l.length:Nat),.slice B (kh l).length c2,.int .i64 p,.int .i64 q,.map m] 219);have s:=jY.new d 219 #[ptr d.heap.size,ptr gd,.int .i64 n,.int .i64 (l.length:Nat),.slice B (kh l).length c2,.int .i64 p,.int .i64 q,.map m];have M:=y.lt;have j:=jV.qn z M;have L:gM d (.slice B (kh l).length c2) (kh l):=k.xw H.xQ (fun b a=>qG _ a);refine⟨d.heap.size,d.heap.size::(jF (.slice B (kh l).length c2)++m.toList),rfl,⟨B,c2,p,q,m,s,j.xw L (fun b a=>?_),j.filter (f:=.nilIface) J (fun b a=>?_),qD,fun b a=>?_,fun b a=>?_⟩, ?_, ?_,fun b a=>?_⟩
 ·exact qJ _ (qG _ a)
 ·exact qG _ (by simp[a])
 ·exact qE _ (qG _ a)
 ·exact qE _ (qJ _ (by simp[a]))
 ·refine(y.more api z (B:=[d.heap.size]) (fun b a=>?_)).less (fun b a=>?_)
  ·rw[qH.1 a];exact⟨qK _,s.lt⟩
  ·rcases qB.1 a with a|a
   ·rcases qL.1 a with a|a
    ·rw[a];exact qG _ qD
    ·rcases qB.1 a with a|a
     ·exact qJ _ (qJ _ (qG _ a))
     ·exact qJ _ (qG _ a)
   ·exact qJ _ (qJ _ (qJ _ (qJ _ a)))
 ·have C:∀b∈E,b<w1.heap.size:=K.lt;exact((F.trans (jV.qn i C)).trans ((jV.qn u (fun b a=>qR (C b a) i.size)).trans (k.less (fun b a=>qJ _ (qJ _ a))))).trans (j.less (fun b a=>qJ _ (qJ _ (qJ _ a))))
 ·have P:=F.size;have Q:=i.size;have U:=u.size;have V:=k.size;rcases qL.1 a with e|a
  ·omega
  ·rcases qB.1 a with a|a
   ·have:=(Cb H b a).1;omega
   ·have:=N b a;omega
include nap
theorem qKH(h:DS At w0 gd D E w)(ok:WfP D)(hc:D.count<=1000000000)(ae:D.cap<=1048576)(n:Int)(H:(Lit.int .i64 n).wf=true)(hd:D.down=false)(Z:(rdW D (ptT n)).2.1=0)(h2:vB (rdW D (ptT n)).1=true)(hl:(tgL (rdW D (ptT n)).1).length<=10000):
  Calls prog 155 #[ptr gd,.int .i64 n] w (rp At w0 gd n (tgL (rdW D (ptT n)).1) (ldF (rdW D (ptT n)).2.2 n (tgL (rdW D (ptT n)).1)) (rdW (rdW D (ptT n)).2.2 (ptB n)).2.2 E w):=by
 have o:=tR api h ok;rw[qZ (by rw[hd];decide)]at o;have N:=qQ o;have hz:=sb ok (ptT n);obtain⟨q1,q2,q3,q4,q5⟩:=L4 D (ptT n);have k:=qQ fun W=>nap.table n W H
 rw[show nmS 116 n=ptT n from rfl]at k;have u:=qQ fun W (y:Below w.heap.size w W)=>Z6 api (h.below api y) ok (by omega) (ptT n) (oC n)
 have f:=qQ fun W=>U2 (rdW D (ptT n)).1 W (by omega)
 unfold fo at f;rw[(rQ h2).2]at f;have hM:=qQ fun(v:Value) W (z:ju W v (tgL (rdW D (ptT n)).1))=>Px v _ W z hl
 have ab:=pM ok (ptT n);have aa:=qQ fun(v:Value) W (E':List Nat) (ad:DS At w0 gd (rdW D (ptT n)).2.2 E' W) (z:ju W v (tgL (rdW D (ptT n)).1)) (af:∀b∈jF v,b∈E')=>qKZ api nap ad ab (by omega) (by omega) n H v _ z af (UF _) (by omega)
 have ac:=qQ h.lt;rw[Z]at u;generalize ldF (rdW D (ptT n)).2.2 n (tgL (rdW D (ptT n)).1)=t at*;generalize (rdW (rdW D (ptT n)).2.2 (ptB n)).2.2=D2 at*;generalize (rdW D (ptT n)).2.2=D1 at*;generalize tgL (rdW D (ptT n)).1=l at*;generalize (rdW D (ptT n)).1=s at*;generalize ptT n=nm at*;clear h ok hc ae H hd Z h2 hl o hz q1 q2 q3 q4 q5 ab;have HZ:=qQ (show l.length=l.length from rfl);go_enter func155,ntmps155;go_wp2_with fail;refine N.out.mono ?_;rintro e w'⟨rfl,rfl⟩;go_wp2_with fail;refine(k.out _).mono ?_;rintro e w1⟨rfl,j⟩;have K:=qQ (jV.qn j ac.out);have J:=qQ (u.out _ j);clear j u k N;go_wp2_with fail;refine J.out.mono ?_;rintro e w2⟨rfl,P,k2⟩;have g:=qQ (qU P (K.out.trans k2));clear P k2 J K;go_wp2_with fail;refine(f.out _).mono ?_;rintro e w3⟨A,c,rfl,C,O⟩;have a:=qQ (qU C O);have M:=qQ (hM.out _ _ C.xQ);clear C O f hM;go_wp2_with fail;refine M.out.mono ?_;rintro e w4⟨B,c2,rfl,F,d⟩;have U:DS At w0 gd D1 (jF (.slice A l.length c)++E) w3:=g.out.1.more api a.out.2 (fi a.out.1);have V:=U.more api d (Cb F);have X:=a.out.1.xQ.below d (qK _);have L:=qQ (aa.out _ _ _ V X (fun b y=>qJ _ (qG _ y)));have I:=qQ (qU F d);clear F d U V X aa M;go_wp2_with fail;refine L.out.mono ?_;rintro e w5⟨p,q,m,rfl,Y,Q,k5,n5⟩;have HF:=qQ (qKF api (n:=n) g.out.1 g.out.2 a.out.2 a.out.1 I.out.2 I.out.1 Y Q k5 n5);have i:=jY.new w5 219 #[.pointer none,ptr gd,.int .i64 n,.int .i64 (l.length:Nat),.slice B (kh l).length c2,.int .i64 p,.int .i64 q,.map m];have c0:=i.cell 0;have f0:=i.frozen 0;clear Y Q k5 n5 i L;go_wp2;go_ret2;exact HF.out
end
end
section
variable {D:jK}{n:Nat}{l:List jJ}{c c':Nat}
theorem Cc{E:jK}(h:vO D n l)(g:jW E.l (ptT n)=jW D.l (ptT n)):vO E n l:=by
 obtain⟨f,a,b,d⟩:=h;exact⟨f,g.trans a,b,d⟩
theorem Cd(d s:Tw)(a:Nat):(y7 d s a).size=d.size:=by
 show(cU d s a s.size).toArray.size=_;rw[List.size_toArray,fO]
end
end Go.Proofs.YtokbfellcadkpaaGreat
