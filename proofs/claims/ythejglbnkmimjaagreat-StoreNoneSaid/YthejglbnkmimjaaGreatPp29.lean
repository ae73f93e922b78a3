import Derived.Test.YthejglbnkmimjaaGreatPp09
import Derived.Test.YthejglbnkmimjaaGreatPp28
import Derived.Lib.SlicesCompact
import Derived.Test.YthejglbnkmimjaaGreatPp12
set_option linter.unusedVariables false
set_option maxRecDepth 100000
set_option maxHeartbeats 9000000
namespace Go.Proofs.YthejglbnkmimjaaGreat
open Tryz
section
open Go.RowKit
def V6(At:jK)(w0:World)(gd:Nat)(t:Tw)(D':zr)(E:List Nat)(w:World)(e:Ending)(w':World):Prop :=
 ∃(p q:Int) (m:Option Nat),e = .returned (.agg #[.int .i64 p,.int .i64 q,.map m])/\yS w' (.agg #[.int .i64 p,.int .i64 q,.map m]) t/\DS At w0 gd D' (m.toList++E) w'/\zt E w w'/\∀b∈m.toList,w.heap.size<=b
theorem yS.qa{w w':World}{F:List Nat}{p q:Int}{m:Option Nat}{t:Tw}(h:yS w (.agg #[.int .i64 p,.int .i64 q,.map m]) t)(d:ze F w w')(c:∀b∈m.toList,b ∉ F/\b<w.heap.size):yS w' (.agg #[.int .i64 p,.int .i64 q,.map m]) t :=
 zt.filter (E:=m.toList) (f:=.nilIface) ⟨d.size,fun b a=>d.block b (c b a).2 (c b a).1⟩ h (fun b a=>by simp[a])
section
variable {At:jK}(api:jY At)(nap:jz){w0 w:World}{gd:Nat}{D:zr}{E:List Nat}
include api
theorem QE{w1 w':World}{g:Nat}{D':zr}{p q:Int}{m:Option Nat}{t:Tw}(s:∀b∈E,b<g)(y:w0.heap.size<=g)(h:DS At w0 gd D' (g::E) w1)(o:zt E w w1)(f:Below w1.heap.size w1 w')(u:yS w' (.agg #[.int .i64 p,.int .i64 q,.map m]) t)
  (i:∀b∈m.toList,w1.heap.size<=b/\b<w'.heap.size) (a b c:Value):
  V6 At w0 gd t D' E w (.returned (.agg #[.int .i64 p,.int .i64 q,.map m])) (((w'.setCell ⟨g,0,none⟩ a).setCell ⟨g,1,none⟩ b).setCell ⟨g,2,none⟩ c):=by
 have j:=h.more api f i;have l:=tG (g:=g) w' a b c;have z:=h.lt g qB;have n:=j.x5 api l (fun x d=>by rw[qE.1 d];exact⟨qV _ qB,y⟩);refine⟨p,q,m,rfl,u.qa l (fun x d=>⟨fun k=>?_,(i x d).2⟩),n.less (fun x d=>?_),(o.trans (zt.qm f (fun b f=>h.lt b (qF _ f)))).trans (zt.xK l fun x d=>⟨j.lt x (qV _ (qF _ d)),fun k=>?_⟩),fun x d=>?_⟩
 ·have:=(i x d).1;rw[qE.1 k]at this;omega
 ·rcases qC.1 d with d|d
  ·exact qA _ d
  ·exact qV _ (qF _ d)
 ·have:=s x d;rw[qE.1 k]at this;exact Nat.lt_irrefl _ this
 ·have j:=(i x d).1;have n:=o.size;omega
include nap
theorem Pt(h:DS At w0 gd D E w)(ok:WfP D)(hc:D.count<=1099511627776)(aD:D.cap<=1048576)(n:Int)(wn:(Lit.int .i64 n).wf=true)(v:Value)(l:List zn)(hv:jb w v l)(au:∀b∈jA v,b∈E)(ar:∀x∈l,vP x)(hl:l.length<=1000000):
  Calls prog 234 #[ptr gd,.int .i64 n,v] w (V6 At w0 gd (ldF D n l) (rdW D (ptB n)).2.2 E w):=by
 have hz:=ox ok (ptB n);have ac:=(Below.refl w.heap.size w).alloc (qZ _) (.cells #[.int .i64 0,.int .i64 0,.map none] 237);have U:=za.new w 237 #[.int .i64 0,.int .i64 0,.map none]
 have h0:DS At w0 gd D (w.heap.size::E) (w.alloc (.cells #[.int .i64 0,.int .i64 0,.map none] 237)):=h.more api ac (B:=[w.heap.size]) (fun b a=>by
  rw[qE.1 a];exact⟨qZ _,U.lt⟩)
 have v0:=hv.below ac (qZ _);have K0:=zt.qm ac h.lt;have ai:=h.lt;have al:=h.kept.size;obtain⟨g,aE⟩:∃g,w.heap.size=g:=⟨_,rfl⟩
 rw[aE]at h0 U ai al;obtain⟨wa,aF⟩:∃wa,w.alloc (.cells #[.int .i64 0,.int .i64 0,.map none] 237)=wa:=⟨_,rfl⟩
 rw[aF]at h0 U v0 K0;have hN:=qQ fun W=>nap.zm n W wn
 rw[show nmS 98 n=ptB n from rfl]at hN;have hW:=qQ fun W (a:Below wa.heap.size wa W)=>tA api (h0.below api a) ok hc (ptB n) (Hv n)
 have d:=qQ (qU U (qU K0 (qU ai (qU al (qU v0 h0)))));have hL:=qQ fun W=>Ps (rdW D (ptB n)).1 W (by omega)
 obtain⟨t,ht⟩:∃t,ldF D n l=t:=⟨_,rfl⟩
 have HT:Hid (((rdW D (ptB n)).2.1≠0->t=ByteArray.empty)/\((rdW D (ptB n)).2.1=0->((∀x∈l,yR (rdW D (ptB n)).1 x.h=true)->t=(rdW D (ptB n)).1)/\((∃x∈l,yR (rdW D (ptB n)).1 x.h=false)->t=ByteArray.empty))):=qQ (by
  rw[<-ht];unfold ldF;refine⟨fun e=>qJ (fun c=>e c.1),fun e=>⟨fun ad=>qK ⟨e,oo.2 ad⟩,fun⟨x,u,av⟩=>qJ (fun c=>?_)⟩⟩;rw[oo.1 c.2 x u]at av;cases av)
 rw[ht];generalize rdW D (ptB n)=r at*;generalize ptB n=nm at*;obtain⟨A,off,cap,rfl,-,-⟩:=hv.form;have aC:=qQ ar;have HE:=qQ au;clear h ok hc aD wn hv au ac hz ht h0 v0 K0 ai al U ar;by_cases he:r.2.1=0
 case neg =>
  have te:((r.2.1:Int) != 0)=true:=by simp;omega
  rw[HT.out.1 he];generalize r.2.1=y at*;clear hL HT he;generalize l.length=m at*;go_enter func234,ntmps234;go_wp2_with fail;refine(hN.out _).mono ?_;rintro e w1⟨rfl,H⟩;have Z:=qQ (zt.qm H d.out.2.2.2.2.2.lt);have Y:=qQ (hW.out _ H);clear H hW hN;go_wp2_with fail;refine Y.out.mono ?_;rintro e w2⟨rfl,I,q2⟩;have F:=Z.out.trans q2;have f:=F.qp d.out.1 qB;have k0:=f.cell 0;have k1:=f.cell 1;have k2:=f.cell 2;have f0:=f.frozen 0;have f1:=f.frozen 1;have f2:=f.frozen 2;have o:=qQ (qU I (qU F f));clear I q2 F f Y Z;go_wp2;refine cd (p:=6) (g:=g) (t:=237) (C:=#[.int .i64 0,.int .i64 0,.map none]) rfl rfl ?_ rfl rfl ?_
  ·exact((o.out.2.2.put 0 _).put 1 _).put 2 _
  ·exact QE api d.out.2.2.1 d.out.2.2.2.1 o.out.1 (d.out.2.1.trans (o.out.2.1.less (fun b a=>qF _ a))) (Below.refl _ _) (yS.none _) (fun b a=>by cases a) _ _ _
 case pos =>
  obtain⟨r1,r2,r3⟩:=r;simp only at he hL HT hW ⊢;subst he;have ap:=qQ (HT.out.2 rfl);clear HT;obtain⟨Q,af⟩:∃Q,l.length=Q:=⟨_,rfl⟩
  have HZ:=qQ af;rw[af];rw[af]at d HE;clear af;go_enter func234,ntmps234;go_wp2_with fail;refine(hN.out _).mono ?_;rintro e w1⟨rfl,H⟩;have Z:=qQ (zt.qm H d.out.2.2.2.2.2.lt);have aG:=qQ H;have Y:=qQ (hW.out _ H);clear H hW hN;go_wp2_with fail;refine Y.out.mono ?_;rintro e w2⟨rfl,I,q2⟩;have F:=Z.out.trans q2;have f:=F.qp d.out.1 qB;have V2:=F.xJ d.out.2.2.2.2.1 (fun b a=>qF _ (HE.out b a));have o:=qQ (qU I (qU F (qU f V2)));clear I q2 F f V2 Y Z;go_wp2_with fail;refine(hL.out _).mono ?_;rintro e P⟨p,q,m,rfl,hf,hm,b3⟩;have hF3:=za.new P 237 #[.int .i64 p,.int .i64 q,.map m];have b4:=b3.alloc b3.size (.cells #[.int .i64 p,.int .i64 q,.map m] 237);have ak:=hf.below ((Below.refl P.heap.size P).alloc (qZ _) (.cells #[.int .i64 p,.int .i64 q,.map m] 237));have am:∀b∈m.toList,w2.heap.size<=b/\b<(P.alloc (.cells #[.int .i64 p,.int .i64 q,.map m] 237)).heap.size:=fun b a=>⟨(hm b a).1,by have:=(hm b a).2;simp;omega⟩
  obtain⟨gf,aq⟩:∃gf,P.heap.size=gf:=⟨_,rfl⟩
  obtain⟨w4,an⟩:∃w4,P.alloc (.cells #[.int .i64 p,.int .i64 q,.map m] 237)=w4:=⟨_,rfl⟩
  rw[aq,an]at hF3;rw[an]at b4 ak am;have K:=qQ (qU hF3 (qU b4 (qU ak am)));clear hF3 b4 ak am hf hm b3 hL;go_wp2;clear an aq;go_loopw [26] (fun i wr=>∃k:Nat,k<=l.length/\i = .int .i64 k/\(∀j y,j<k->l[j]? = some y->yR r1 y.h=true)/\Below w4.heap.size w4 wr) (fun i _=>l.length-(intOf i).toNat)
  case atStart=>exact⟨0,qH _,rfl,fun j y h=>absurd h (by omega),Below.refl _ _⟩
  case round =>
   obtain⟨k,hk,rfl,ad,L⟩:=hrel;have X:=qQ ad;have ag:=qQ L;have N:=bj K.out.2.1 L;have ax:=qQ N;have J:=za.below K.out.1 L;have a0:=J.cell 0;have a1:=J.cell 1;have a2:=J.cell 2;have s:=za.below o.out.2.2.1 N;have aA:=qQ s;have az:=qQ J;clear ad;by_cases ae:k<l.length
   ·obtain⟨x,u⟩:∃x,l[k]? = some x:=⟨_,qD ae⟩
    have ao:=aC.out x (qO u);have hV:=o.out.2.2.2.below N (qZ _);have aj:jb wr (.slice A l.length cap) l:=(by rw[HZ.out];exact hV);obtain⟨bb,of,rfl,-,aH,d0,d1,I⟩:=sF aj u;have s1:(k:Int)<(Q:Int):=(by rw[<-HZ.out];omega);have s2:k<Q:=(by rw[<-HZ.out];exact ae);have s3:(k:Int)<=1000000:=(by omega);have aa:=(Below.refl wr.heap.size wr).alloc (qZ _) (.cells #[.int .u64 (x.h:Nat),.int .i64 x.v,.int .i64 x.p] 117);have M:=XC _ x.h r1 _ ao.h ((K.out.2.2.1.below L).below aa);have B5:=qQ (bj ag.out aa);have V:=za.below az.out aa;have e0:=V.cell 0;have e1:=V.cell 1;have e2:=V.cell 2;cases O:yR r1 x.h with
    | false =>
      rw[O]at M;have HM:=qQ M;have ay:=qQ (ap.out.2 ⟨x,qO u,O⟩);clear M O u ao hV aj s J L N ae V X aa;obtain⟨xh,xv,xp⟩:=x;simp only at d0 d1 I HM B5 e0 e1 e2;go_wp2_with fail;refine HM.out.mono ?_;rintro e w6⟨rfl,b6⟩;have ab:=bj B5.out b6;have ah:=bj K.out.2.1 ab;have z:=za.below o.out.2.2.1 ah;have k0:=z.cell 0;have k1:=z.cell 1;have k2:=z.cell 2;have f0:=z.frozen 0;have f1:=z.frozen 1;have f2:=z.frozen 2;have H6:=qQ (qU z ah);clear ab ah z b6;go_wp2;refine cd (p:=6) (g:=g) (t:=237) (C:=#[.int .i64 0,.int .i64 0,.map none]) rfl rfl ?_ rfl rfl ?_
      ·exact((H6.out.1.put 0 _).put 1 _).put 2 _
      ·rw[ay.out];exact QE api d.out.2.2.1 d.out.2.2.2.1 o.out.1 (d.out.2.1.trans (o.out.2.1.less (fun b a=>qF _ a))) H6.out.2 (yS.none _) (fun b a=>by cases a) _ _ _
    | true =>
      rw[O]at M;have HM:=qQ M
      have aw:=qQ (show ∀j y,j<k+1->l[j]? = some y->yR r1 y.h=true from fun j y hj hy=>by
       rcases Nat.lt_or_ge j k with c|c
       ·exact X.out j y c hy
       ·obtain rfl:j=k:=(by omega);rw[u]at hy;rw[<-qv hy];exact O)
      clear M O u ao hV aj s J L N V X aa;obtain⟨xh,xv,xp⟩:=x;simp only at d0 d1 I HM B5 e0 e1 e2;go_wp2_with fail;refine HM.out.mono ?_;rintro e w6⟨rfl,b6⟩;have ab:=qQ (bj B5.out b6);clear b6;go_wp2;go_roundw
      case rel=>exact⟨k+1,by omega,by go_num,aw.out,ab.out⟩
      case measure=>simp[intOf];omega
   ·obtain rfl:k=l.length:=(by omega);have s1:¬((l.length:Nat):Int)<(Q:Int):=(by rw[<-HZ.out];omega);have s2:¬l.length<Q:=by rw[<-HZ.out];omega
    have aB:=qQ (ap.out.1 (fun x u=>by
     obtain⟨j,hj⟩:=List.getElem?_of_mem u;exact X.out j x (qM.1 hj).1 hj))
    have k0:=s.cell 0;have k1:=s.cell 1;have k2:=s.cell 2;have f0:=s.frozen 0;have f1:=s.frozen 1;have f2:=s.frozen 2;clear s J L N X ae;go_wp2;refine cd (p:=6) (g:=g) (t:=237) (C:=#[.int .i64 p,.int .i64 q,.map m]) rfl rfl ?_ rfl rfl ?_
    ·exact((aA.out.put 0 _).put 1 _).put 2 _
    ·rw[aB.out];exact QE api d.out.2.2.1 d.out.2.2.2.1 o.out.1 (d.out.2.1.trans (o.out.2.1.less (fun b a=>qF _ a))) ax.out (K.out.2.2.1.below ag.out) (fun b a=>⟨(K.out.2.2.2 b a).1,qP (K.out.2.2.2 b a).2 ag.out.size⟩) _ _ _
end
end
section
structure yH(D E:zr):Prop where
 qn:E.qn=D.qn
 cap:E.cap=D.cap
 count:E.count=D.count
theorem yH.refl(D:zr):yH D D:=⟨rfl,rfl,rfl⟩
theorem yH.trans{D E F:zr}(h:yH D E)(k:yH E F):yH D F:=⟨k.qn.trans h.qn,k.cap.trans h.cap,k.count.trans h.count⟩
theorem Pa{D E F:zr}(h:yH D E)(k:yH D F):yH D (vw E F).2:=by
 unfold vw;split
 ·exact⟨k.qn,k.cap,k.count⟩
 ·exact⟨h.qn,h.cap,h.count⟩
theorem Pe(D:zr)(n:Tw):yH D (jL D n).2:=by
 unfold jL;split
 ·exact yH.refl D
 ·split
  ·exact Pa (yH.refl D) ⟨rfl,rfl,rfl⟩
  ·exact yH.refl D
theorem V7{l:List zi}(h:l.Pairwise (fun f g=>kB f.name g.name=true))(d:∀n,kB n n=false):(l.map zi.name).Nodup:=by
 unfold List.Nodup;rw[List.pairwise_map];exact h.imp fun {a b} c e=>by rw[e,d]at c;cases c
structure TbS where
 n:Nat
 l:List zn
 t:Tw
structure IxS where
 m:jS
 T:List TbS
 mem:List zn
def cZ(S:IxS)(x:zn):Prop:=x∈S.mem∨∃t∈S.T,x∈t.l
def j7(b:Int):Int:=min b 1073741824
def v7(S:IxS)(h:Nat)(a b:Int):List zn:=bx (kZ S.mem h a (j7 b)::S.T.map fun t=>kZ t.l h a (j7 b))
def yI(p:zn->Prop)(h:Nat)(b:Int)(n:Int):Prop:=(∀x,p x->x.h=h->x.v<=b->x.v<=n)/\((n = -1)∨∃x,p x/\x.h=h/\x.v<=b/\x.v=n)/\-1<=n
theorem yI.both{p q:zn->Prop}{h:Nat}{b m n:Int}(l:yI p h b m)(o:yI q h b n):yI (fun x=>p x∨q x) h b (max m n):=by
 obtain⟨s,t,z⟩:=l;obtain⟨u,y,A⟩:=o;refine⟨fun x a j k=>?_, ?_,by omega⟩
 ·rcases a with a|a
  ·have:=s x a j k;omega
  ·have:=u x a j k;omega
 ·rcases Int.le_total m n with c|c
  ·rw[Int.max_eq_right c];rcases y with e|⟨x,d,f,g,i⟩
   ·exact qX e
   ·exact qY ⟨x,qY d,f,g,i⟩
  ·rw[Int.max_eq_left c];rcases t with e|⟨x,d,f,g,i⟩
   ·exact qX e
   ·exact qY ⟨x,qX d,f,g,i⟩
theorem yI.congr{p q:zn->Prop}{h:Nat}{b n:Int}(a:yI p h b n)(c:∀x,p x↔q x):yI q h b n :=
 ⟨fun x d=>a.1 x ((c x).2 d),a.2.1.imp id (fun⟨x,f,g⟩=>⟨x,(c x).1 f,g⟩),a.2.2⟩
theorem V8{l:List zn}(s:jj l)(q:∀x∈l,mayE x=true)(h:Nat)(b:Int):yI (· ∈ l) h b (if vZ l h b=true then(kt l h b).v else -1):=by
 cases c:bS l h b with
 | none =>
   have j:vZ l h b=false:=(by unfold vZ;rw[c];rfl);rw[j];have o:l.filter (upQ h b)=[]:=List.getLast?_eq_none_iff.1 c;refine⟨fun x k d g=>?_,qX rfl,by simp⟩;have:=List.filter_eq_nil_iff.1 o x k;unfold upQ at this;simp[d,g]at this
 | some y =>
   have j:vZ l h b=true:=(by unfold vZ;rw[c];rfl);have p:kt l h b=y:=(by unfold kt;rw[c];rfl);rw[j,qK rfl,p];obtain⟨f,i⟩:=List.getLast?_eq_some_iff.1 c;have u:y∈l.filter (upQ h b):=(by rw[i];simp);obtain⟨m,z⟩:=List.mem_filter.1 u;have n:=of_decide_eq_true z;refine⟨fun x k d g=>?_,qY ⟨y,m,n.1,n.2,rfl⟩, ?_⟩
   ·have a:x∈l.filter (upQ h b):=List.mem_filter.2 ⟨k,qW ⟨d,g⟩⟩;rw[i]at a;rcases qC.1 a with a|a
    ·have t:jj (f++[y]):=(by rw[<-i];exact List.Pairwise.filter _ s);have:=(List.pairwise_append.1 t).2.2 x a y (qE.2 rfl);rw[dY]at this;omega
    ·rw[qE.1 a];omega
   ·have:=of_decide_eq_true (q y m);omega
structure kX(D:zr)(S:IxS):Prop where
 may:jr S.m
 seed:S.m.seed<18446744073709551616
 xU:∀n:Int,n∈S.m.lv.flatten↔∃t∈S.T,(t.n:Int)=n
 uniq:(S.T.map TbS.n).Nodup
 has:∀t∈S.T,vH D t.n t.l
 keep:∀t∈S.T,bG t.t t.l=true
 qo:jj S.mem
 ok:∀x∈S.mem,vP x
 mayE:∀x∈S.mem,Go.Proofs.YthejglbnkmimjaaGreat.mayE x=true
theorem kX.xz{D:zr}{S:IxS}(h:kX D S){t:TbS}(a:t∈S.T):t.n<1000000/\(t.n:Int)<S.m.next:=by
 have b:=h.may.2.2.2.2.2 _ ((h.xU _).2 ⟨t,a,rfl⟩);have c:=h.may.2.1;omega
theorem kX.many{D:zr}{S:IxS}(h:kX D S):S.T.length=S.m.lv.flatten.length:=by
 have d:(S.T.map fun t=>(t.n:Int)).Perm S.m.lv.flatten:=by
  refine(List.perm_ext_iff_of_nodup ?_ h.may.2.2.2.2.1.2.2.2).2 fun n=>?_
  ·have:=h.uniq;rw[show(S.T.map fun t=>(t.n:Int))=(S.T.map TbS.n).map (fun n:Nat=>(n:Int)) by rw[List.map_map];rfl];unfold List.Nodup at this ⊢;rw[List.pairwise_map];exact this.imp fun {a b} c e=>c (by omega)
  ·rw[h.xU n,qN]
 have:=d.length_eq;rw[qj]at this;exact this
theorem kX.xG{D:zr}{S:IxS}(h:kX D S):S.T.length<=40:=by rw[h.many];exact h.may.2.2.2.2.1.2.1
theorem kX.xm{D:zr}{S:IxS}(h:kX D S)(k:Nat)(a b:Int):∀l∈kZ S.mem k a b::S.T.map (fun t=>kZ t.l k a b),jj l:=fun l c=>by
 rcases qL.1 c with rfl|c
 ·exact List.Pairwise.filter _ h.qo
 ·obtain⟨t,d,rfl⟩:=qN.1 c;exact List.Pairwise.filter _ (h.has t d).props.1
theorem kX.count{D:zr}{S:IxS}(h:kX D S)(k:Nat):kX { D with count:=k } S:=⟨h.may,h.seed,h.xU,h.uniq,fun t a=>(h.has t a).count k,h.keep,h.qo,h.ok,h.mayE⟩
theorem kX.add{D:zr}{S:IxS}(h:kX D S){x:zn}(c:vP x)(b:Go.Proofs.YthejglbnkmimjaaGreat.mayE x=true):kX D { S with mem:=kS S.mem x }:=by
 refine⟨h.may,h.seed,h.xU,h.uniq,h.has,h.keep,Xh h.qo x,fun y a=>?_,fun y a=>?_⟩
 ·rcases oY a with k|rfl
  ·exact h.ok y k
  ·exact c
 ·rcases oY a with k|rfl
  ·exact h.mayE y k
  ·exact b
def V9(T:List TbS)(a:List Int):List TbS:=T.filter fun t=>decide ((t.n:Int)∈a)
def p7(S:IxS)(a:List Int):List zn:=bx ((V9 S.T a).map TbS.l)
theorem Pi{S:IxS}{d:List Int}{x:zn}:x∈p7 S d↔∃t∈S.T,(t.n:Int)∈d/\x∈t.l:=by
 unfold p7 V9;rw[ZR];constructor
 ·rintro ⟨l,f,c⟩;obtain⟨t,g,rfl⟩:=qN.1 f;obtain⟨a,b⟩:=List.mem_filter.1 g;exact⟨t,a,of_decide_eq_true b,c⟩
 ·rintro ⟨t,a,b,c⟩;exact⟨t.l,qN.2 ⟨t,List.mem_filter.2 ⟨a,qW b⟩,rfl⟩,c⟩
theorem Po{D:zr}{S:IxS}(h:kX D S)(c:List Int):jj (p7 S c):=ZT fun l a=>by
 obtain⟨t,b,rfl⟩:=qN.1 a;exact(h.has t (List.mem_filter.1 b).1).props.1
theorem QF{α:Type}[DecidableEq α]:∀ {a b:List α},a.Nodup->(∀x∈a,x∈b)->a.length<=b.length
 | [],b,_,_=>qH _
 | x::a,b,hd,h=>by
   obtain⟨f,g⟩:=List.nodup_cons.1 hd;have c:=h x qB;have i:=QF (b:=b.erase x) g fun y d=>(List.mem_erase_of_ne (fun e:y=x=>f (by rw[<-e];exact d))).2 (h y (qF _ d))
   rw[List.length_erase_of_mem c]at i;have:=List.length_pos_of_mem c;rw[qk];omega
theorem dT{a b:List zn}(d:jj a)(h:∀x∈a,x∈b):a.length<=b.length :=
 QF (d.imp fun {x y} c e=>by rw[e,mP]at c;cases c) h
end
section
open Go.RowKit
section
variable {At:jK}{w0 w w':World}{gd:Nat}{D D':zr}{E E' B:List Nat}
theorem DS.xX(api:jY At)(h:DS At w0 gd D E w)(c:ze B w w')(i:∀b∈B,b∈E/\w0.heap.size<=b)(j:∀b∈E',b∈E∨(w.heap.size<=b/\b<w'.heap.size)):DS At w0 gd D E' w':=by
 obtain⟨F,f,g,a⟩:=h;refine⟨F,api.qa f c (fun x d n=>(a x (i x n).1).1 d),g.trans (c.below g.size (fun x d=>(i x d).2)),fun b l=>?_⟩;rcases j b l with k|⟨p,o⟩
 ·exact⟨(a b k).1,qP (a b k).2 c.size⟩
 ·exact⟨fun m=>by have:=(api.low f b m).2;omega,o⟩
end
def ur(w:World)(v:Value)(R:LvL)(G:List Nat):Prop:=∀W,zt G w W->kQ W v R
section
variable {w w':World}{v:Value}{R:LvL}{G G' E:List Nat}
theorem ur.now(h:ur w v R G):kQ w v R:=h w (zt.refl _ _)
theorem ur.step(h:ur w v R G)(a:zt G w w'):ur w' v R G:=fun W k=>h W (a.trans k)
theorem ur.more(h:ur w v R G)(a:∀b∈G,b∈G'):ur w v R G':=fun W k=>h W (k.less a)
end
theorem zt.zB{G:List Nat}{w w':World}{base:Nat}{v:Value}{M:List LvS}(h:zt G w w')(a:j4 w base v M)(k:∀b∈jA v,b∈G):j4 w' base v M:=by
 refine⟨a.1, ?_⟩;rcases a.2 with f|⟨g,c,d,e,i,j,r⟩
 ·exact qX f
 ·exact qY ⟨g,c,d,e,i,(h.block g (k g (jq.2 (by rw[e];rfl)))).trans j,r⟩
theorem zt.zJ{G:List Nat}{w w':World}{base:Nat}{v:Value}{l:List Int}(h:zt G w w')(a:jP w base v l)(k:∀b∈jA v,b∈G):jP w' base v l:=by
 refine⟨a.1, ?_⟩;rcases a.2 with f|⟨g,c,d,e,i,j,r⟩
 ·exact qX f
 ·exact qY ⟨g,c,d,e,i,(h.block g (k g (jq.2 (by rw[e];rfl)))).trans j,r⟩
theorem kz.keep{w:World}{base:Nat}{v:Value}{R:LvL}(h:kz w base v R):∃G,(∀b∈G,base<=b/\b<w.heap.size)/\ur w v R G:=by
 obtain⟨M,d,f,g⟩:=h;refine⟨jA v++M.flatMap (fun x=>jA x.v),fun b a=>?_,fun W k=>⟨M,j4.qw (k.zB d (fun b a=>qA _ a)) (fun x c=>jP.qw (k.zJ (f x c) (fun b a=>qV _ (List.mem_flatMap.2 ⟨x,c,a⟩)))),g⟩⟩;rcases qC.1 a with a|a
 ·exact d.lt b (jq.1 a)
 ·obtain⟨x,c,a⟩:=List.mem_flatMap.1 a;exact(f x c).lt b (jq.1 a)
theorem kC.keep{w w':World}{base g:Nat}{F E:List Nat}{l:List zn}(h:kC w base g F l)(a:zt E w w')(hF:∀b∈F,b∈E):kC w' base g F l:=by
 obtain⟨v,j,k,c,d,f,m,n⟩:=h;exact⟨v,a.qp j (hF g d),a.row k (fun b o=>hF b (c b (jq.1 o))),c,d,fun x i=>⟨(f x i).1,qP (f x i).2 a.size⟩,m,n⟩
abbrev yL(w:World)(base:Nat)(v:Value)(ps:List Nat):Prop:=w.ownsRow base 160 1 v ps.length (ps.map ptr)
theorem yL.nil(w:World)(base:Nat):yL w base (.slice none 0 0) []:=World.ownsRow_nil _ _ _ _
theorem zt.xH{G:List Nat}{w w':World}{base:Nat}{v:Value}{ps:List Nat}(h:zt G w w')(a:yL w base v ps)(k:∀b∈jA v,b∈G):yL w' base v ps:=by
 refine⟨a.1, ?_⟩;rcases a.2 with f|⟨g,c,d,e,i,j,r⟩
 ·exact qX f
 ·exact qY ⟨g,c,d,e,i,(h.block g (k g (jq.2 (by rw[e];rfl)))).trans j,r⟩
theorem yL.below{w w':World}{base B:Nat}{v:Value}{ps:List Nat}(h:yL w base v ps)(i:Below B w w')(f:w.heap.size<=B):yL w' base v ps:=by
 refine⟨h.1, ?_⟩;rcases h.2 with d|⟨g,b,c,l,j,a,r⟩
 ·exact qX d
 ·obtain⟨k,_⟩:=qb.1 a;exact qY ⟨g,b,c,l,j,(i.block g (qP k f)).trans a,r⟩
theorem yL.form{w:World}{base:Nat}{v:Value}{ps:List Nat}(h:yL w base v ps):∃A a,v = .slice A ps.length a/\ps.length<=a/\a<=maxLen/\∀i g,ps[i]? = some g->∃b,A=some ⟨b,0,none⟩/\v.ownBlock=some b/\b<w.heap.size/\w.cell? ⟨b,i,none⟩=some (ptr g):=by
 obtain⟨A,a,rfl,d,f,j,l⟩:=v8 h;refine⟨A,a,rfl,d,f,fun i g c=>?_⟩;have n:=(qM.1 c).1;obtain⟨b,rfl,m,k⟩:=j (by omega);refine⟨b,rfl,rfl,k,(h.cellAt i (by omega)).trans ?_⟩;show(ps.map ptr)[i]? = _;rw[qz,c];rfl
def uk(w:World)(gd:Nat)(ps:List Nat)(T:List TbS)(G:List Nat):Prop :=
 ps.length=T.length/\∀(i:Nat) (g:Nat) (t:TbS),ps[i]? = some g->T[i]? = some t->∃H,yG w g gd t.n t.l t.t H/\∀b∈H,b∈G
section
variable {w w':World}{gd:Nat}{ps:List Nat}{T:List TbS}{G G' E:List Nat}
theorem uk.keep(h:uk w gd ps T G)(k:zt E w w')(f:∀b∈G,b∈E):uk w' gd ps T G:=⟨h.1,fun i g t c d=>by
 obtain⟨H,l,a⟩:=h.2 i g t c d;exact⟨H,l.keep k (fun b j=>f b (a b j)),a⟩⟩
theorem uk.more(h:uk w gd ps T G)(d:∀b∈G,b∈G'):uk w gd ps T G':=⟨h.1,fun i g t a c=>by
 obtain⟨H,j,k⟩:=h.2 i g t a c;exact⟨H,j,fun b f=>d b (k b f)⟩⟩
theorem uk.nil(w:World)(gd:Nat):uk w gd [] [] []:=⟨rfl,fun i g t h=>by simp at h⟩
theorem uk.snoc(h:uk w gd ps T G){g:Nat}{t:TbS}{H:List Nat}(m:yG w g gd t.n t.l t.t H):uk w gd (ps++[g]) (T++[t]) (H++G):=by
 refine⟨by rw[qI,qI,h.1];rfl,fun i x y a d=>?_⟩;have k:=h.1;rcases Nat.lt_or_ge i ps.length with c|c
 ·rw[List.getElem?_append_left c]at a;rw[List.getElem?_append_left (by omega)]at d;obtain⟨K,o,p⟩:=h.2 i x y a d;exact⟨K,o,fun b f=>qV _ (p b f)⟩
 ·rw[List.getElem?_append_right c]at a;rw[List.getElem?_append_right (by omega)]at d
  have j:i=ps.length:=by
   have:=(qM.1 a).1;simp at this;omega
  subst j;rw[Nat.sub_self]at a;rw[k,Nat.sub_self]at d;obtain rfl:g=x:=by simpa using a
  obtain rfl:t=y:=by simpa using d
  exact⟨H,m,fun b f=>qA _ f⟩
end
def IxM(w:World)(base gx gd r:Nat)(S:IxS)(Fm Gr Gk:List Nat):Prop :=
 ∃(c:Nat) (d a:Value) (ps:List Nat),za w gx 111 #[ptr gx,ptr gd,.int .i64 S.m.next,.int .i64 S.m.check,.int .u64 (S.m.seed:Nat),d,a,.float .f64 r,mtp c] /\
  ur w d S.m.lv Gk/\yL w base a ps/\uk w gd ps S.T Gk/\kC w base c Fm S.mem/\gx∈Gr/\(∀b∈jA a,b∈Gr)/\base<=gx
def jy(At:jK)(w0:World)(gd gx r:Nat)(S:IxS)(D:zr)(E:List Nat)(w:World):Prop :=
 ∃Fm Gr Gk,DS At w0 gd D (Fm++(Gr++(Gk++E))) w/\IxM w w0.heap.size gx gd r S Fm Gr Gk/\(∀b∈Fm,b ∉ Gr/\b ∉ Gk/\b ∉ E)/\(∀b∈Gr,b ∉ Gk/\b ∉ E)/\(∀b∈Gk,b ∉ E)/\∀b∈Fm++Gr,w0.heap.size<=b
def Pw(At:jK)(w0:World)(gd gx r:Nat)(v:Value)(S:IxS)(D:zr)(E:List Nat)(w:World)(e:Ending)(w':World):Prop:=e = .returned v/\jy At w0 gd gx r S D E w'/\zt E w w'
section
variable {At:jK}{w0 w w':World}{base gd gx r:Nat}{S S':IxS}{D D':zr}{E E' B Fm Gr Gk:List Nat}
theorem IxM.keep(h:IxM w base gx gd r S Fm Gr Gk)(c:zt (Fm++(Gr++Gk)) w w'):IxM w' base gx gd r S Fm Gr Gk:=by
 obtain⟨g,o,p,ps,i,j,k,l,m,d,f,n⟩:=h;exact⟨g,o,p,ps,c.qp i (qV _ (qA _ d)),j.step (c.less (fun b a=>qV _ (qV _ a))),c.xH k (fun b a=>qV _ (qA _ (f b a))),l.keep c (fun b a=>qV _ (qV _ a)),m.keep c (fun b a=>qA _ a),d,f,n⟩
theorem jy.ds(h:jy At w0 gd gx r S D E w):DS At w0 gd D E w:=by
 obtain⟨Fm,Gr,Gk,a,-⟩:=h;exact a.less (fun b c=>qV _ (qV _ (qV _ c)))
theorem jy.kept(h:jy At w0 gd gx r S D E w):Below w0.heap.size w0 w:=h.ds.kept
theorem jy.lt(h:jy At w0 gd gx r S D E w):∀b∈E,b<w.heap.size:=h.ds.lt
theorem jy.xX(api:jY At)(h:jy At w0 gd gx r S D E w)(p:ze B w w')(g:∀b∈B,b∈E/\w0.heap.size<=b)(o:∀b∈E',b∈E∨(w.heap.size<=b/\b<w'.heap.size)):jy At w0 gd gx r S D E' w':=by
 obtain⟨Fm,Gr,Gk,m,s,c,f,n,t⟩:=h;have u:=m.lt
 have d:∀b∈Fm++(Gr++Gk),b<w.heap.size/\b ∉ B:=fun b a=>by
  refine⟨u b ?_,fun j=>?_⟩
  ·rcases qC.1 a with k|k
   ·exact qA _ k
   ·rcases qC.1 k with k|k
    ·exact qV _ (qA _ k)
    ·exact qV _ (qV _ (qA _ k))
  ·have i:=(g b j).1;rcases qC.1 a with k|k
   ·exact(c b k).2.2 i
   ·rcases qC.1 k with k|k
    ·exact(f b k).2 i
    ·exact n b k i
 have l:∀b,b<w.heap.size->b ∉ E->b ∉ E':=fun b a y j=>by
  rcases o b j with k|k
  ·exact y k
  ·omega
 refine⟨Fm,Gr,Gk,m.xX api p (fun b a=>⟨qV _ (qV _ (qV _ (g b a).1)),(g b a).2⟩) (fun b a=>?_),s.keep (zt.xK p d),fun b a=>⟨(c b a).1,(c b a).2.1,l b (d b (qA _ a)).1 (c b a).2.2⟩,fun b a=>⟨(f b a).1,l b (d b (qV _ (qA _ a))).1 (f b a).2⟩,fun b a=>l b (d b (qV _ (qV _ a))).1 (n b a),t⟩;rcases qC.1 a with k|k
 ·exact qX (qA _ k)
 ·rcases qC.1 k with k|k
  ·exact qX (qV _ (qA _ k))
  ·rcases qC.1 k with k|k
   ·exact qX (qV _ (qV _ (qA _ k)))
   ·rcases o b k with q|q
    ·exact qX (qV _ (qV _ (qV _ q)))
    ·exact qY q
theorem jy.below(api:jY At)(h:jy At w0 gd gx r S D E w)(a:Below w.heap.size w w'):jy At w0 gd gx r S D E w':=h.xX api (ze.qm a) (fun b a=>by cases a) (fun b a=>qX a)
theorem jy.drew(api:jY At)(h:jy At w0 gd gx r S D E w):jy At w0 gd gx r S D E w.drew:=h.below api (Below.refl _ _).drew
theorem jy.less(h:jy At w0 gd gx r S D E w)(c:∀b∈E',b∈E):jy At w0 gd gx r S D E' w:=by
 obtain⟨Fm,Gr,Gk,g,i,d,f,j,l⟩:=h;refine⟨Fm,Gr,Gk,g.less (fun b a=>?_),i,fun b a=>⟨(d b a).1,(d b a).2.1,fun k=>(d b a).2.2 (c b k)⟩,fun b a=>⟨(f b a).1,fun k=>(f b a).2 (c b k)⟩,fun b a k=>j b a (c b k),l⟩;rcases qC.1 a with k|k
 ·exact qA _ k
 ·rcases qC.1 k with k|k
  ·exact qV _ (qA _ k)
  ·rcases qC.1 k with k|k
   ·exact qV _ (qV _ (qA _ k))
   ·exact qV _ (qV _ (qV _ (c b k)))
theorem jy.more(api:jY At)(h:jy At w0 gd gx r S D E w)(a:Below w.heap.size w w')(c:∀b∈B,w.heap.size<=b/\b<w'.heap.size):jy At w0 gd gx r S D (B++E) w' :=
 h.xX api (B:=[]) (ze.qm a) (fun b a=>by cases a) (fun b a=>(qC.1 a).elim (fun k=>qY (c b k)) qX)
theorem jy.quiet(h:jy At w0 gd gx r S D E w){P:Program}{f:FuncId}{c:Array Value}{Q:Ending->World->Prop}
  (o:∀E',(∀b∈E,b∈E')->DS At w0 gd D E' w->Calls P f c w fun e w'=>DS At w0 gd D' E' w'/\zt E' w w'/\Q e w'):Calls P f c w fun e w'=>jy At w0 gd gx r S D' E w'/\zt E w w'/\Q e w':=by
 obtain⟨Fm,Gr,Gk,g,i,j,l,m,n⟩:=h;refine(o _ (fun b a=>qV _ (qV _ (qV _ a))) g).mono ?_;rintro e w'⟨d,k,q⟩;refine⟨⟨Fm,Gr,Gk,d,i.keep (k.less fun b a=>?_),j,l,m,n⟩,k.less (fun b a=>qV _ (qV _ (qV _ a))),q⟩;rcases qC.1 a with k|k
 ·exact qA _ k
 ·rcases qC.1 k with k|k
  ·exact qV _ (qA _ k)
  ·exact qV _ (qV _ (qA _ k))
end
theorem Vq{w:World}{base:Nat}{v:Value}{l:List kL}(h:vC w base v l):∀b∈jA v,base<=b/\b<w.heap.size:=by
 intro b a;have a:=jq.1 a;rcases h.2 with⟨rfl,-⟩|⟨g,f,i,rfl,c,d,-⟩
 ·cases a
 ·have e:g=b:=by simpa[Value.ownBlock] using a
  rw[<-e];exact⟨c,(qb.1 d).1⟩
def p8(At:jK)(w0:World)(gd:Nat)(n:Int)(l:List zn)(t:Tw)(D':zr)(E:List Nat)(w:World)(e:Ending)(w':World):Prop :=
 ∃a G,e = .returned (.tuple #[ptr a,.int .i64 0])/\yG w' a gd n l t G/\DS At w0 gd D' (G++E) w'/\zt E w w'/\∀b∈G,w.heap.size<=b
section
variable {At:jK}(api:jY At)(nap:jz){w0 w:World}{gd:Nat}{D:zr}{E:List Nat}
include api
theorem RQ{w1 w2 g d:World}{I o:zr}{n:Int}{l:List zn}{A B:Option Addr}{c c2:Nat}{p q:Int}{m:Option Nat}{t:Tw}
  (K:DS At w0 gd I E w1) (F:zt E w w1) (i:Below w1.heap.size w1 w2) (O:jC w2 w1.heap.size (.slice A l.length c) l) (u:Below w2.heap.size w2 g) (H:vC g w2.heap.size (.slice B (jw l).length c2) (jw l))
  (J:yS d (.agg #[.int .i64 p,.int .i64 q,.map m]) t) (y:DS At w0 gd o (m.toList++(jA (.slice B (jw l).length c2)++(jA (.slice A l.length c)++E))) d) (k:zt (jA (.slice B (jw l).length c2)++(jA (.slice A l.length c)++E)) g d) (N:∀b∈m.toList,g.heap.size<=b):
  p8 At w0 gd n l t o E w (.returned (.tuple #[ptr d.heap.size,.int .i64 0])) (d.alloc (.cells #[ptr d.heap.size,ptr gd,.int .i64 n,.int .i64 (l.length:Nat),.slice B (jw l).length c2,.int .i64 p,.int .i64 q,.map m] 239)):=by
 have z:=(Below.refl d.heap.size d).alloc (qZ _) (.cells #[ptr d.heap.size,ptr gd,.int .i64 n,.int .i64 (l.length:Nat),.slice B (jw l).length c2,.int .i64 p,.int .i64 q,.map m] 239);have s:=za.new d 239 #[ptr d.heap.size,ptr gd,.int .i64 n,.int .i64 (l.length:Nat),.slice B (jw l).length c2,.int .i64 p,.int .i64 q,.map m];have M:=y.lt;have j:=zt.qm z M;have L:uG d (.slice B (jw l).length c2) (jw l):=k.xf H.qw (fun b a=>qA _ a);refine⟨d.heap.size,d.heap.size::(jA (.slice B (jw l).length c2)++m.toList),rfl,⟨B,c2,p,q,m,s,j.xf L (fun b a=>?_),j.filter (f:=.nilIface) J (fun b a=>?_),qB,fun b a=>?_,fun b a=>?_⟩, ?_, ?_,fun b a=>?_⟩
 ·exact qV _ (qA _ a)
 ·exact qA _ (by simp[a])
 ·exact qF _ (qA _ a)
 ·exact qF _ (qV _ (by simp[a]))
 ·refine(y.more api z (B:=[d.heap.size]) (fun b a=>?_)).less (fun b a=>?_)
  ·rw[qE.1 a];exact⟨qZ _,s.lt⟩
  ·rcases qC.1 a with a|a
   ·rcases qL.1 a with a|a
    ·rw[a];exact qA _ qB
    ·rcases qC.1 a with a|a
     ·exact qV _ (qV _ (qA _ a))
     ·exact qV _ (qA _ a)
   ·exact qV _ (qV _ (qV _ (qV _ a)))
 ·have C:∀b∈E,b<w1.heap.size:=K.lt;exact((F.trans (zt.qm i C)).trans ((zt.qm u (fun b a=>qP (C b a) i.size)).trans (k.less (fun b a=>qV _ (qV _ a))))).trans (j.less (fun b a=>qV _ (qV _ (qV _ a))))
 ·have P:=F.size;have Q:=i.size;have U:=u.size;have V:=k.size;rcases qL.1 a with e|a
  ·omega
  ·rcases qC.1 a with a|a
   ·have:=(Vq H b a).1;omega
   ·have:=N b a;omega
include nap
theorem RX(h:DS At w0 gd D E w)(ok:WfP D)(hc:D.count<=1000000000)(ae:D.cap<=1048576)(n:Int)(H:(Lit.int .i64 n).wf=true)(hd:D.down=false)(Z:(rdW D (ptT n)).2.1=0)(h2:ve (rdW D (ptT n)).1=true)(hl:(tgL (rdW D (ptT n)).1).length<=10000):
  Calls prog 179 #[ptr gd,.int .i64 n] w (p8 At w0 gd n (tgL (rdW D (ptT n)).1) (ldF (rdW D (ptT n)).2.2 n (tgL (rdW D (ptT n)).1)) (rdW (rdW D (ptT n)).2.2 (ptB n)).2.2 E w):=by
 have o:=tW api h ok;rw[qJ (by rw[hd];decide)]at o;have N:=qQ o;have hz:=ox ok (ptT n);obtain⟨q1,q2,q3,q4,q5⟩:=DO D (ptT n);have k:=qQ fun W=>nap.table n W H
 rw[show nmS 116 n=ptT n from rfl]at k;have u:=qQ fun W (y:Below w.heap.size w W)=>tA api (h.below api y) ok (by omega) (ptT n) (oi n)
 have f:=qQ fun W=>ZE (rdW D (ptT n)).1 W (by omega)
 unfold cH at f;rw[(oU h2).2]at f;have hM:=qQ fun(v:Value) W (z:jb W v (tgL (rdW D (ptT n)).1))=>Bw v _ W z hl
 have ab:=DN ok (ptT n);have aa:=qQ fun(v:Value) W (E':List Nat) (ad:DS At w0 gd (rdW D (ptT n)).2.2 E' W) (z:jb W v (tgL (rdW D (ptT n)).1)) (af:∀b∈jA v,b∈E')=>Pt api nap ad ab (by omega) (by omega) n H v _ z af (J0 _) (by omega)
 have ac:=qQ h.lt;rw[Z]at u;generalize ldF (rdW D (ptT n)).2.2 n (tgL (rdW D (ptT n)).1)=t at*;generalize (rdW (rdW D (ptT n)).2.2 (ptB n)).2.2=D2 at*;generalize (rdW D (ptT n)).2.2=D1 at*;generalize tgL (rdW D (ptT n)).1=l at*;generalize (rdW D (ptT n)).1=s at*;generalize ptT n=nm at*;clear h ok hc ae H hd Z h2 hl o hz q1 q2 q3 q4 q5 ab;have HZ:=qQ (show l.length=l.length from rfl);go_enter func179,ntmps179;go_wp2_with fail;refine N.out.mono ?_;rintro e w'⟨rfl,rfl⟩;go_wp2_with fail;refine(k.out _).mono ?_;rintro e w1⟨rfl,j⟩;have K:=qQ (zt.qm j ac.out);have J:=qQ (u.out _ j);clear j u k N;go_wp2_with fail;refine J.out.mono ?_;rintro e w2⟨rfl,P,k2⟩;have g:=qQ (qU P (K.out.trans k2));clear P k2 J K;go_wp2_with fail;refine(f.out _).mono ?_;rintro e w3⟨A,c,rfl,C,O⟩;have a:=qQ (qU C O);have M:=qQ (hM.out _ _ C.qw);clear C O f hM;go_wp2_with fail;refine M.out.mono ?_;rintro e w4⟨B,c2,rfl,F,d⟩;have U:DS At w0 gd D1 (jA (.slice A l.length c)++E) w3:=g.out.1.more api a.out.2 (lW a.out.1);have V:=U.more api d (Vq F);have X:=a.out.1.qw.below d (qZ _);have L:=qQ (aa.out _ _ _ V X (fun b y=>qV _ (qA _ y)));have I:=qQ (qU F d);clear F d U V X aa M;go_wp2_with fail;refine L.out.mono ?_;rintro e w5⟨p,q,m,rfl,Y,Q,k5,n5⟩;have HF:=qQ (RQ api (n:=n) g.out.1 g.out.2 a.out.2 a.out.1 I.out.2 I.out.1 Y Q k5 n5);have i:=za.new w5 239 #[.pointer none,ptr gd,.int .i64 n,.int .i64 (l.length:Nat),.slice B (jw l).length c2,.int .i64 p,.int .i64 q,.map m];have c0:=i.cell 0;have f0:=i.frozen 0;clear Y Q k5 n5 i L;go_wp2;go_ret2;exact HF.out
end
end
end Go.Proofs.YthejglbnkmimjaaGreat
