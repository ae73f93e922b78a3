import Derived.Test.YthejglbnkmimjaaGreatQp23
import Derived.Test.YthejglbnkmimjaaGreatQp14
import Derived.Test.YthejglbnkmimjaaGreatQp06
set_option linter.unusedVariables false
set_option maxRecDepth 100000
set_option maxHeartbeats 9000000
namespace Go.Proofs.YthejglbnkmimjaaGreat
open Proofs.Tryz
section
open Go.RowKit
theorem qZb(t:Tw)(h:64<=t.size):jz (t.extract 3 4)=hpT t:=by
 have e:(t.extract 3 4).data.toList=[t.data.toList.getD 3 0]:=by
  rw[nr,xJ (by rw[dX];omega),qj,qD (by rw[dX];omega)];rfl
 unfold jz hpT;rw[e];simp[un]
theorem qZc(t:Tw):hpT t<256:=UInt8.toNat_lt _
theorem qZd(t:Tw):hnT t<4294967296:=by
 unfold hnT jz;have a:((t.extract 4 8).data.toList.take 8).length<=4:=by rw[qT,dX,qk];omega
 exact qS (lN _) (Nat.pow_le_pow_right (n:=256) (by decide) a)
def noC: Array Value:=#[.int .i64 0,.int .i64 0,.map none]
theorem qZf(t:Tw)(w:World)(h:t.size<64):
  Calls prog 299 #[t] w (X3 (.agg noC) w):=by
 have c:(t.size:Int)<64:=by omega
 have a:=qQ (jF.new w 237 #[.int .i64 0,.int .i64 0,.map none]);have b:=qQ ((qU w.1.size w).alloc (qK _) (.cells #[.int .i64 0,.int .i64 0,.map none] 237));go_enter func299,ntmps299;go_wp2;refine lW rfl rfl a.out rfl rfl ?_;exact⟨rfl,b.out⟩
theorem qZh(t:Tw)(p n:Nat)(R:Value->World->Prop)(w:World)(h:64<=t.size)(Y:hpT t=p)(V:hnT t=n)
  (o:yr t=false->∀W,Below w.1.size w W->R (.agg noC) W)
  (z:yr t=true->∀W mb,Below w.1.size w W->w.1.size<=mb->yX W mb t 0->R (.agg #[p,n,.map (some mb)]) W):
  Calls prog 299 #[t] w fun e w'=>∃f,e=.returned f/\R f w':=by
 have ag:p<256:=by have:=qZc t;omega
 have af:n<4294967296:=by have:=qZd t;omega
 have L:=qQ fun W=>show Calls prog 131 #[.string (t.extract 3 4)] W _ from dZ (t.extract 3 4) W (by rw[qk];unfold maxLen;omega)
 have M:=qQ fun W=>show Calls prog 131 #[.string (t.extract 4 8)] W _ from dZ (t.extract 4 8) W (by rw[qk];unfold maxLen;omega)
 have eg:jz (t.extract 4 8)=n:=V;rw[qZb t h,Y]at L;rw[eg]at M;have q:=qQ fun W=>J6 n p W
 have N:=qQ fun W=>CX n p W af ag
 have s:=@Ly t;have u:=@Lu t;have y:=@XT t;rw[Y,V]at s u y;have s1:(64:Int)<=(t.size:Int):=by omega
 have s2:¬(t.size:Int)<64:=by omega
 have s3:(4:Int)<=(t.size:Int):=by omega
 have s4:(8:Int)<=(t.size:Int):=by omega
 have i:=qQ (jF.new w 237 #[.int .i64 0,.int .i64 0,.map none]);have j:=qQ ((qU w.1.size w).alloc (qK _) (.cells #[.int .i64 0,.int .i64 0,.map none] 237));obtain⟨d,ah⟩:∃d,w.alloc (.cells #[.int .i64 0,.int .i64 0,.map none] 237)=d:=⟨_,rfl⟩
 rw[ah]at i j;have aj:∀W:World,(Instr.makeMap 235 none).run prog W=.ok (.map (some W.1.size)) (W.alloc (.map #[] 0)):=fun W=>run_makeMap _ W
 have q1:IntKind.i64.wrap (p:Int)=(p:Nat):=by rw[IntKind.wrap_i64];omega
 have q2:IntKind.i64.wrap (n:Int)=(n:Nat):=by rw[IntKind.wrap_i64];omega
 go_enter func299,ntmps299;go_wp2_with fail
 go_region_held3 (fun W=>Below d.1.size d W)
  (first|(with_reducible assumption)|((repeat' (first|(with_reducible assumption)|(with_reducible exact qU _ _)|(with_reducible refine Below.drew ?_)));done)|fail)
  (first
  | (go_at_call 131;(first|((with_reducible refine X5 (L.out _) ?_))|((with_reducible refine X5 (M.out _) ?_))))
  | fail)
 by_cases m:bV n p=true
 ·rw[m]at q;by_cases l:t.extract 0 64=hdP n p
  ·have ab:=qQ (z (y.2 ⟨h,m,l⟩));have he:=VW l.symm;clear s u y o z l m;go_wp2_with fail
   go_region_held3 (fun W=>Below d.1.size d W)
    (first|(with_reducible assumption)|((repeat' (first|(with_reducible assumption)|(with_reducible exact qU _ _)|(with_reducible refine Below.drew ?_)));done)|fail)
    (first
    | (go_at_call 264;((with_reducible refine X5 (q.out _) ?_)))
    | (go_at_call 265;((with_reducible refine KG (N.out _) fun w' H=>?_);have ac:=bj (by with_reducible assumption) H))
    | fail)
   have k:=qQ (show Below d.1.size d w' by assumption);have b:=j.out.trans (k.out.mono j.out.size);have ad:w.1.size<w'.1.size:=qS i.out.lt k.out.size;have U:jF w' w.1.size _ _:=(k.out.block _ i.out.lt).trans i.out;have a:=U.alloc (.map #[] 0);have I:=b.alloc b.size (.map #[] 0);have A:=yX.new w' t;obtain⟨mb,ae⟩:∃mb,w'.1.size=mb:=⟨_,rfl⟩
   rw[ae]at A;have X:mb≠w.1.size:=(by omega);obtain⟨wm,ai⟩:∃wm,w'.alloc (.map #[] 0)=wm:=⟨_,rfl⟩
   rw[ai]at a I A;have k0:=a.cell 0;have k1:=a.cell 1;have k2:=a.cell 2;have O:=a.frozen 0;have P:=a.frozen 1;have Q:=a.frozen 2;have c:=qQ (qG a (qG I (qG A (qG X b.size))));clear U a I A X b ad;go_wp2;refine lW (p:=2) (g:=w.1.size) (t:=237) (C:=#[.int .i64 (p:Nat),.int .i64 (n:Nat),.map (some mb)]) rfl rfl ?_ rfl rfl ?_
   ·exact((c.out.1.put 0 _).put 1 _).put 2 _
   ·exact⟨_,rfl,ab.out _ mb (((c.out.2.1.setCell (qK _) _).setCell (qK _) _).setCell (qK _) _) (by have:=c.out.2.2.2.2;omega) (c.out.2.2.1.of_block ((heap_setCell_other _ _ _ _ c.out.2.2.2.1).trans ((heap_setCell_other _ _ _ _ c.out.2.2.2.1).trans (heap_setCell_other _ _ _ _ c.out.2.2.2.1))))⟩
  ·have F:=qQ (o (u l));have he:=XN (fun h:hdP n p=t.extract 0 64=>l h.symm);clear s u y o z l m;go_wp2_with fail
   go_region_held3 (fun W=>Below d.1.size d W)
    (first|(with_reducible assumption)|((repeat' (first|(with_reducible assumption)|(with_reducible exact qU _ _)|(with_reducible refine Below.drew ?_)));done)|fail)
    (first
    | (go_at_call 264;((with_reducible refine X5 (q.out _) ?_)))
    | (go_at_call 265;((with_reducible refine KG (N.out _) fun w' H=>?_);have ac:=bj (by with_reducible assumption) H))
    | fail)
   have k:=qQ (show Below d.1.size d w' by assumption);have b:=j.out.trans (k.out.mono j.out.size);have a:jF w' w.1.size _ _:=(k.out.block _ i.out.lt).trans i.out;have k0:=a.cell 0;have k1:=a.cell 1;have k2:=a.cell 2;have O:=a.frozen 0;have P:=a.frozen 1;have Q:=a.frozen 2;have c:=qQ (qG a b);clear a b;go_wp2;refine lW (p:=2) (g:=w.1.size) (t:=237) (C:=#[.int .i64 0,.int .i64 0,.map none]) rfl rfl ?_ rfl rfl ?_
   ·exact((c.out.1.put 0 _).put 1 _).put 2 _
   ·exact⟨_,rfl,F.out _ (((c.out.2.setCell (qK _) _).setCell (qK _) _).setCell (qK _) _)⟩
 ·have J:=Bool.eq_false_iff.2 m;rw[J]at q;have F:=qQ (o (s J));clear s u y o z m J;go_wp2_with fail;obtain⟨K,Z⟩:∃K,d.drew=K:=⟨_,rfl⟩
  rw[Z];go_quiet ((go_at_call 264;exact Calls.quiet_of_same ((q.out _).mono fun _ _ h=>⟨h.1,h.2.symm⟩)));have b:=j.out.drew;have a:=i.out.drew;rw[Z]at b a;have b:=uK b nq;have a:=a.drewN nq;obtain⟨wz,aa⟩:∃wz,K.drewN nq=wz:=⟨_,rfl⟩
  rw[aa]at b a ⊢;have k0:=a.cell 0;have k1:=a.cell 1;have k2:=a.cell 2;have O:=a.frozen 0;have P:=a.frozen 1;have Q:=a.frozen 2;have c:=qQ (qG a b);clear a b aa;go_wp2;refine lW (p:=2) (g:=w.1.size) (t:=237) (C:=#[.int .i64 0,.int .i64 0,.map none]) rfl rfl ?_ rfl rfl ?_
  ·exact((c.out.1.put 0 _).put 1 _).put 2 _
  ·exact⟨_,rfl,F.out _ (((c.out.2.setCell (qK _) _).setCell (qK _) _).setCell (qK _) _)⟩
theorem CZ(t:Tw)(w:World):
  Calls prog 299 #[t] w fun e w'=>Below w.1.size w w'/\((yr t=false/\e=.returned (.agg noC))∨(yr t=true/\∃mb,w.1.size<=mb/\e=.returned (.agg #[.int .i64 (hpT t:Nat),.int .i64 (hnT t:Nat),.map (some mb)])/\yX w' mb t 0)):=by
 by_cases h:64<=t.size
 ·refine(qZh t _ _ (fun f w'=>Below w.1.size w w'/\((yr t=false/\f=.agg noC)∨(yr t=true/\∃mb,w.1.size<=mb/\f=.agg #[.int .i64 (hpT t:Nat),.int .i64 (hnT t:Nat),.map (some mb)]/\yX w' mb t 0))) w h rfl rfl (fun h W a=>⟨a,qX ⟨h,rfl⟩⟩) (fun h W mb a c b=>⟨a,qY ⟨h,mb,c,rfl,b⟩⟩)).mono ?_;rintro e w'⟨f,rfl,a,⟨h,rfl⟩|⟨h,mb,c,rfl,b⟩⟩
  ·exact⟨a,qX ⟨h,rfl⟩⟩
  ·exact⟨a,qY ⟨h,mb,c,rfl,b⟩⟩
 ·refine KG (qZf t w (by omega)) fun w' a=>?_;exact⟨a,qX ⟨X6 (by omega),rfl⟩⟩
theorem qZl(t:Tw)(w:World)(h:yr t=false):
  Calls prog 269 #[t] w (X3 (.agg noC) w):=by
 have F:=qQ fun W=>CZ t W
 have l:=jF.new w 237 #[.int .i64 0,.int .i64 0,.map none];have n:=(qU w.1.size w).alloc (qK _) (.cells #[.int .i64 0,.int .i64 0,.map none] 237);obtain⟨s,I⟩:∃s,w.alloc (.cells #[.int .i64 0,.int .i64 0,.map none] 237)=s:=⟨_,rfl⟩
 rw[I]at l n;have y:=qQ l;have i:=qQ n;have A:=qQ h;clear l n h;go_enter func269,ntmps269;go_wp2_with fail;refine(F.out _).mono ?_;rintro e f⟨c,⟨-,rfl⟩|⟨q,-⟩⟩
 ·have m:=y.out.after c;have a:=jF.new f 237 #[.int .i64 0,.int .i64 0,.map none];have b:=qQ (m.alloc (.cells #[.int .i64 0,.int .i64 0,.map none] 237));have o:=qQ ((bj i.out c).alloc (bj i.out c).size (.cells #[.int .i64 0,.int .i64 0,.map none] 237));have d:w.1.size≠f.1.size:=Nat.ne_of_lt m.lt;obtain⟨j,H⟩:∃j,f.1.size=j:=⟨_,rfl⟩
  obtain⟨u,J⟩:∃u,f.alloc (.cells #[.int .i64 0,.int .i64 0,.map none] 237)=u:=⟨_,rfl⟩
  rw[J]at a b o;rw[H]at a d;unfold noC;have O:=a.cell 0;have P:=a.cell 1;have Q:=a.cell 2;have L:=a.frozen 0;have M:=a.frozen 1;have N:=a.frozen 2;have U:=b.out.cell 0;have V:=b.out.cell 1;have X:=b.out.cell 2;have Y:=b.out.frozen 0;have Z:=b.out.frozen 1;have s2:=b.out.frozen 2;have K:=qQ a;have z:=qQ c;clear a m c;go_wp2;refine wp_loop_rounds 1 ?_;rw[rounds_succ];go_wp2;refine lW (p:=2) (g:=w.1.size) (t:=237) (C:=#[.int .i64 0,.int .i64 0,.map none]) rfl rfl ?_ rfl rfl ?_
  ·exact((((((b.out.xF d _).xF d _).xF d _).put 0 _).put 1 _).put 2 _)
  ·have k:w.1.size<=j:=(by have:=b.out.lt;have:=(bj i.out z.out).size;omega);exact⟨rfl,((((((o.out.setCell k _).setCell k _).setCell k _).setCell (qK _) _).setCell (qK _) _).setCell (qK _) _)⟩
 ·rw[A.out]at q;cases q
def nF(w wr:World)(a mb:Nat)(C:Array Value)(t:Tw)(k:Nat):Prop :=
 jF wr a 237 C/\jF wr w.1.size 237 #[.int .i64 0,.int .i64 0,.map none]/\yX wr mb t k/\Below w.1.size w wr
theorem nF.other{w wr c:World}{b mb k:Nat}{C:Array Value}{t:Tw}(h:nF w wr b mb C t k)(a:Below wr.1.size wr c):nF w c b mb C t k :=
 ⟨h.1.after a,h.2.1.after a,h.2.2.1.below a,h.2.2.2.trans (a.mono h.2.2.2.size)⟩
theorem qZm(t:Tw)(p n m:Nat)(w:World)(hs:t.size<=1100000)(h:yr t=true)(hp:hpT t=p)(hn:hnT t=n)(hm:n=60*m)(az:m<=2000)(aB:p<=16):
  Calls prog 269 #[t] w fun e w'=>∃mb,e=.returned (.agg #[p,n,.map (some mb)])/\yX w' mb t m/\Below w.1.size w w'/\w.1.size<=mb:=by
 have HR:=qQ fun W=>CZ t W
 have HP:=qQ fun(j:Nat) (W:World) (hj:j<=100000)=>qXo t j W hj hs
 have hB:=jF.new w 237 #[.int .i64 0,.int .i64 0,.map none];have hb:=(qU w.1.size w).alloc (qK _) (.cells #[.int .i64 0,.int .i64 0,.map none] 237);obtain⟨w1,au⟩:∃w1,w.alloc (.cells #[.int .i64 0,.int .i64 0,.map none] 237)=w1:=⟨_,rfl⟩
 rw[au]at hB hb;have HB:=qQ hB;have ah:=qQ hb;have V:=qQ (qG h (qG hp (qG hn hm)));obtain⟨Z,hZ⟩:∃Z,pgZ=Z:=⟨_,rfl⟩
 have z1:Z.size=60:=by rw[<-hZ];exact J4
 clear hB hb h hp hn;go_enter func269,ntmps269;go_wp2_with fail;refine(HR.out _).mono ?_;rintro e f⟨P,⟨hh,-⟩|⟨-,mb,aA,rfl,hM⟩⟩
 ·rw[V.out.1]at hh;cases hh
 ·rw[V.out.2.1,V.out.2.2.1];have ae:=hM.lt;have aD:w.1.size<w1.1.size:=HB.out.lt;have N:=HB.out.after P;have d:=jF.new f 237 #[.int .i64 0,.int .i64 0,.map none];have aa:=N.alloc (.cells #[.int .i64 0,.int .i64 0,.map none] 237);have ab:=hM.of_block (Below.heap_alloc f (.cells #[.int .i64 0,.int .i64 0,.map none] 237) mb ae);have ac:=(bj ah.out P).alloc (bj ah.out P).size (.cells #[.int .i64 0,.int .i64 0,.map none] 237);have s:w.1.size≠f.1.size:=Nat.ne_of_lt N.lt;have u:mb≠f.1.size:=Nat.ne_of_lt ae;have ar:w.1.size≠mb:=by omega
  have o:w.1.size<=f.1.size:=Nat.le_of_lt N.lt;have ap:w.1.size<=mb:=by omega
  obtain⟨a,am⟩:∃a,f.1.size=a:=⟨_,rfl⟩
  obtain⟨Q,av⟩:∃Q,f.alloc (.cells #[.int .i64 0,.int .i64 0,.map none] 237)=Q:=⟨_,rfl⟩
  rw[av]at d aa ab ac;rw[am]at d s u o;have k0:=d.cell 0;have k1:=d.cell 1;have k2:=d.cell 2;have f0:=d.frozen 0;have f1:=d.frozen 1;have f2:=d.frozen 2;obtain⟨C,hC⟩:∃C:Array Value,#[.int .i64 (p:Nat),.int .i64 (n:Nat),.map (some mb)]=C:=⟨_,rfl⟩
  have l:nF w (((Q.setCell ⟨a,0,none⟩ (.int .i64 (p:Nat))).setCell ⟨a,1,none⟩ (.int .i64 (n:Nat))).setCell ⟨a,2,none⟩ (.map (some mb))) a mb C t 0:=by
   refine⟨?_,((aa.xF s _).xF s _).xF s _,ab.of_block ((heap_setCell_other _ _ _ _ u).trans ((heap_setCell_other _ _ _ _ u).trans (heap_setCell_other _ _ _ _ u))),((ac.setCell o _).setCell o _).setCell o _⟩;rw[<-hC];exact((d.put 0 _).put 1 _).put 2 _
  have HL:=qQ l;have J:=qQ hC;have hq:IntKind.i64.wrap ((n:Int)/60)=(m:Int):=by rw[IntKind.wrap_i64];omega
  have aC:(n:Int)/60=(m:Int):=by omega
  have F:=qQ (qG s (qG u (qG ar (qG o ap))));clear l ac ab aa d N hM P ae hm hC;go_wp2;have l:=HL.out;obtain⟨w4,aw⟩:∃w4,(((Q.setCell ⟨a,0,none⟩ (.int .i64 (p:Nat))).setCell ⟨a,1,none⟩ (.int .i64 (n:Nat))).setCell ⟨a,2,none⟩ (.map (some mb)))=w4:=⟨_,rfl⟩
  rw[aw]at l ⊢;clear HL aw av au am k0 k1 k2 f0 f1 f2 s u ar o ap;go_loopw [12] (fun v wr=>∃k:Nat,k<=m/\v=.int .i64 k/\nF w wr a mb C t k) (fun v _=>m-(intOf v).toNat)
  case atStart=>exact⟨0,qI _,rfl,l⟩
  case round =>
   clear l;obtain⟨k,hk,rfl,c⟩:=hrel;by_cases aq:k<m
   ·have s1:(k:Int)<(m:Int):=(by omega);have K:=qQ (HP.out (k+1) wr (by omega));obtain⟨q,af⟩:∃q,pgW t (k+1)=q:=⟨_,rfl⟩
    obtain⟨D,H⟩:∃D,pgC (pgL t (k+1))=D:=⟨_,rfl⟩
    have zD:D.size=60:=(by rw[<-H,p8,qXw]);have oD:D.all (·.oneCell')=true:=(by rw[<-H];exact p9 _);unfold pgV at K;rw[af,H]at K;have e1:((k+1:Nat):Int)=(k:Int)+1:=(by omega);rw[e1]at K;have M:=qQ (qG af H);have A:=qQ c;clear af H c e1;go_wp2_with fail;refine K.out.mono ?_;rintro e y⟨rfl,Y⟩;have O:=A.out.other Y;have i:=jF.new y 335 Z;have b:nF w ((y.alloc (.cells Z 335)).setRow y.1.size D) a mb C t k:=O.other (Q6 ((qU _ _).alloc (qK _) _) (qK _) D);have I:=i.row D;have ao:mb≠y.1.size:=Nat.ne_of_lt O.2.2.1.lt;obtain⟨g,hg⟩:∃g,y.1.size=g:=⟨_,rfl⟩
    rw[hg]at i I b;have an:=qQ hg;cases q with
    | false =>
      have U:=qQ i;have L:=qQ b;clear O b i I ao Y
      go_wp2_with (first
       | (refine Q7 hZ rfl _ rfl rfl ?_;rw[an.out])
       | (refine Q8 rfl _ _ rfl rfl rfl U.out z1 zD oD ?_))
      go_roundw
      case rel=>exact⟨k+1,aq,by go_num,L.out.1,L.out.2.1,L.out.2.2.1.skip M.out.1,L.out.2.2.2⟩
      case measure=>simp[intOf];omega
    | true =>
      obtain⟨X,ak⟩:∃X,(y.alloc (.cells Z 335)).setRow g D=X:=⟨_,rfl⟩
      rw[ak]at b I;obtain⟨w7,ag,aj,ad⟩:=b.2.2.1.put (by omega) M.out.1;rw[<-qZQ M.out.1]at ag;unfold pgV at ag;rw[M.out.2]at ag
      have ai:nF w w7 a mb C t (k+1):=by
       have al:=ad.block;refine⟨(al a b.1.lt fun e=>?_).trans b.1,(al _ b.2.1.lt fun e=>?_).trans b.2.1,aj,b.2.2.2.grown ad b.2.2.2.size fun z hz=>?_⟩
       ·injection e with e;exact F.out.2.1 e.symm
       ·injection e with e;exact F.out.2.2.1 e
       ·injection hz with hz;rw[<-hz];exact F.out.2.2.2.2
      have c2:X.cell? ⟨a,2,none⟩=some (.map (some mb)):=(by rw[b.1.cell 2,<-J.out];rfl);have U:=qQ i;have ax:=qQ I;have ay:=qQ ai;clear O b i I ao Y aj ad ai
      go_wp2_with (first
       | (refine Q7 hZ rfl _ rfl rfl ?_;rw[an.out])
       | (refine Q8 rfl _ _ rfl rfl rfl U.out z1 zD oD ?_;rw[ak])
       | (refine Bt rfl _ rfl rfl ax.out zD ?_))
      go_roundw
      case rel=>exact⟨k+1,aq,by go_num,ay.out⟩
      case measure=>simp[intOf];omega
   ·obtain rfl:k=m:=(by omega);have s1:¬(k:Int)<(k:Int):=(by omega);have A:=qQ c;have k0:=(J.out ▸ c.1).cell 0;have k1:=(J.out ▸ c.1).cell 1;have k2:=(J.out ▸ c.1).cell 2;have r0:=c.2.1.cell 0;have r1:=c.2.1.cell 1;have r2:=c.2.1.cell 2;have g0:=c.2.1.frozen 0;have g1:=c.2.1.frozen 1;have g2:=c.2.1.frozen 2;clear c;go_wp2;refine lW (p:=2) (g:=w.1.size) (t:=237) (C:=#[.int .i64 (p:Nat),.int .i64 (n:Nat),.map (some mb)]) rfl rfl ?_ rfl rfl ?_
    ·exact((A.out.2.1.put 0 _).put 1 _).put 2 _
    ·have e3:=F.out.2.2.1.symm;exact⟨mb,rfl,A.out.2.2.1.of_block ((heap_setCell_other _ _ _ _ e3).trans ((heap_setCell_other _ _ _ _ e3).trans (heap_setCell_other _ _ _ _ e3))),((A.out.2.2.2.setCell (qK _) _).setCell (qK _) _).setCell (qK _) _,F.out.2.2.2.2⟩
theorem qZn(t:Tw)(w:World)(g:t.size<=1100000):
  Calls prog 269 #[t] w fun e w'=>∃(p q:Int) (m:Option Nat),e=.returned (.agg #[p,q,.map m])/\gY w' (.agg #[p,q,.map m]) t/\(∀b∈m.toList,w.1.size<=b/\b<w'.1.size)/\Below w.1.size w w':=by
 by_cases h:yr t=true
 ·obtain⟨i,j,k,l,n⟩:=sa.1 (XT.1 h).2.1;refine(qZm t (hpT t) (hnT t) (hnT t/60) w g h rfl rfl (by omega) (by omega) (by omega)).mono ?_;rintro e w'⟨d,rfl,c,a,f⟩
  exact⟨_,_,_,rfl,qY ⟨h,d,rfl,c⟩,fun b a=>(by
   obtain rfl:b=d:=(by simpa using a);exact⟨f,c.lt⟩),a⟩
 ·have h:=Bool.eq_false_iff.2 h;refine KG (qZl t w h) fun w' a=>?_;exact⟨_,_,_,rfl,qX ⟨h,rfl⟩,fun b a=>(by cases a),a⟩
end
section
open Go.RowKit
def CJ(At:jR)(w0:World)(gd:Nat)(t:Tw)(D':jD)(E:List Nat)(w:World)(e:Ending)(w':World):Prop :=
 ∃(p q:Int) (m:Option Nat),e=.returned (.agg #[p,q,.map m])/\gY w' (.agg #[p,q,.map m]) t/\DS At w0 gd D' (m.toList++E) w'/\jE E w w'/\∀b∈m.toList,w.1.size<=b
theorem gY.xC{w w':World}{F:List Nat}{p q:Int}{m:Option Nat}{t:Tw}(h:gY w (.agg #[p,q,.map m]) t)(d:jH F w w')(c:∀b∈m.toList,b ∉ F/\b<w.1.size):gY w' (.agg #[p,q,.map m]) t :=
 jE.filter (E:=m.toList) (f:=.nilIface) ⟨d.size,fun b a=>d.block b (c b a).2 (c b a).1⟩ h (fun b a=>by simp[a])
section
variable {At:jR}(api:jS At)(nap:jw){w0 w:World}{gd:Nat}{D:jD}{E:List Nat}
include api
theorem J7{w1 w':World}{g:Nat}{D':jD}{p q:Int}{m:Option Nat}{t:Tw}(s:∀b∈E,b<g)(y:w0.1.size<=g)(h:DS At w0 gd D' (g::E) w1)(o:jE E w w1)(f:Below w1.1.size w1 w')(u:gY w' (.agg #[p,q,.map m]) t)
  (i:∀b∈m.toList,w1.1.size<=b/\b<w'.1.size) (a b c:Value):
  CJ At w0 gd t D' E w (.returned (.agg #[p,q,.map m])) (((w'.setCell ⟨g,0,none⟩ a).setCell ⟨g,1,none⟩ b).setCell ⟨g,2,none⟩ c):=by
 have j:=h.more api f i;have l:=Z7 (g:=g) w' a b c;have z:=h.lt g qC;have n:=j.zK api l (fun x d=>by rw[qH.1 d];exact⟨qJ _ qC,y⟩);refine⟨p,q,m,rfl,u.xC l (fun x d=>⟨fun k=>?_,(i x d).2⟩),n.less (fun x d=>?_),(o.trans (jE.xA f (fun b f=>h.lt b (qF _ f)))).trans (jE.xP l fun x d=>⟨j.lt x (qJ _ (qF _ d)),fun k=>?_⟩),fun x d=>?_⟩
 ·have:=(i x d).1;rw[qH.1 k]at this;omega
 ·rcases qE.1 d with d|d
  ·exact qW _ d
  ·exact qJ _ (qF _ d)
 ·have:=s x d;rw[qH.1 k]at this;exact Nat.lt_irrefl _ this
 ·have j:=(i x d).1;have n:=o.size;omega
include nap
theorem qZp(h:DS At w0 gd D E w)(ok:WfP D)(hc:D.count<=1099511627776)(aD:D.cap<=1048576)(n:Int)(wn:(Lit.int .i64 n).wf=true)(v:Value)(l:List jC)(hv:kC w v l)(au:∀b∈jL v,b∈E)(ar:∀x∈l,kz x)(hl:l.length<=1000000):
  Calls prog 234 #[ptr gd,n,v] w (CJ At w0 gd (ldF D n l) (rdW D (ptB n)).2.2 E w):=by
 have hz:=Xy ok (ptB n);have ac:=(qU w.1.size w).alloc (qK _) (.cells #[.int .i64 0,.int .i64 0,.map none] 237);have U:=jF.new w 237 #[.int .i64 0,.int .i64 0,.map none]
 have h0:DS At w0 gd D (w.1.size::E) (w.alloc (.cells #[.int .i64 0,.int .i64 0,.map none] 237)):=h.more api ac (B:=[w.1.size]) (fun b a=>by
  rw[qH.1 a];exact⟨qK _,U.lt⟩)
 have v0:=hv.below ac (qK _);have K0:=jE.xA ac h.lt;have ai:=h.lt;have al:=h.kept.size;obtain⟨g,aE⟩:∃g,w.1.size=g:=⟨_,rfl⟩
 rw[aE]at h0 U ai al;obtain⟨wa,aF⟩:∃wa,w.alloc (.cells #[.int .i64 0,.int .i64 0,.map none] 237)=wa:=⟨_,rfl⟩
 rw[aF]at h0 U v0 K0;have hN:=qQ fun W=>nap.zM n W wn
 rw[show nmS 98 n=ptB n from rfl]at hN;have hW:=qQ fun W (a:Below wa.1.size wa W)=>Z9 api (h0.below api a) ok hc (ptB n) (tF n)
 have d:=qQ (qG U (qG K0 (qG ai (qG al (qG v0 h0)))));have hL:=qQ fun W=>qZn (rdW D (ptB n)).1 W (by omega)
 obtain⟨t,ht⟩:∃t,ldF D n l=t:=⟨_,rfl⟩
 have HT:Hid (((rdW D (ptB n)).2.1≠0->t=ByteArray.empty)/\((rdW D (ptB n)).2.1=0->((∀x∈l,gV (rdW D (ptB n)).1 x.h=true)->t=(rdW D (ptB n)).1)/\((∃x∈l,gV (rdW D (ptB n)).1 x.h=false)->t=ByteArray.empty))):=qQ (by
  rw[<-ht];unfold ldF;refine⟨fun e=>qZ (fun c=>e c.1),fun e=>⟨fun ad=>qV ⟨e,tH.2 ad⟩,fun⟨x,u,av⟩=>qZ (fun c=>?_)⟩⟩;rw[tH.1 c.2 x u]at av;cases av)
 rw[ht];generalize rdW D (ptB n)=r at*;generalize ptB n=nm at*;obtain⟨A,off,cap,rfl,-,-⟩:=hv.form;have aC:=qQ ar;have HE:=qQ au;clear h ok hc aD wn hv au ac hz ht h0 v0 K0 ai al U ar;by_cases he:r.2.1=0
 case neg =>
  have te:((r.2.1:Int) != 0)=true:=by simp;omega
  rw[HT.out.1 he];generalize r.2.1=y at*;clear hL HT he;generalize l.length=m at*;go_enter func234,ntmps234;go_wp2_with fail;refine KG (hN.out _) fun w1 H=>?_;have Z:=qQ (jE.xA H d.out.2.2.2.2.2.lt);have Y:=qQ (hW.out _ H);clear H hW hN;go_wp2_with fail;refine Y.out.mono ?_;rintro e w2⟨rfl,I,q2⟩;have F:=Z.out.trans q2;have f:=F.xW d.out.1 qC;have k0:=f.cell 0;have k1:=f.cell 1;have k2:=f.cell 2;have f0:=f.frozen 0;have f1:=f.frozen 1;have f2:=f.frozen 2;have o:=qQ (qG I (qG F f));clear I q2 F f Y Z;go_wp2;refine lW (p:=6) (g:=g) (t:=237) (C:=#[.int .i64 0,.int .i64 0,.map none]) rfl rfl ?_ rfl rfl ?_
  ·exact((o.out.2.2.put 0 _).put 1 _).put 2 _
  ·exact J7 api d.out.2.2.1 d.out.2.2.2.1 o.out.1 (d.out.2.1.trans (o.out.2.1.less (fun b a=>qF _ a))) (qU _ _) (gY.none _) (fun b a=>by cases a) _ _ _
 case pos =>
  obtain⟨r1,r2,r3⟩:=r;simp only at he hL HT hW ⊢;subst he;have ap:=qQ (HT.out.2 rfl);clear HT;obtain⟨Q,af⟩:∃Q,l.length=Q:=⟨_,rfl⟩
  have HZ:=qQ af;rw[af];rw[af]at d HE;clear af;go_enter func234,ntmps234;go_wp2_with fail;refine KG (hN.out _) fun w1 H=>?_;have Z:=qQ (jE.xA H d.out.2.2.2.2.2.lt);have aG:=qQ H;have Y:=qQ (hW.out _ H);clear H hW hN;go_wp2_with fail;refine Y.out.mono ?_;rintro e w2⟨rfl,I,q2⟩;have F:=Z.out.trans q2;have f:=F.xW d.out.1 qC;have V2:=F.xM d.out.2.2.2.2.1 (fun b a=>qF _ (HE.out b a));have o:=qQ (qG I (qG F (qG f V2)));clear I q2 F f V2 Y Z;go_wp2_with fail;refine(hL.out _).mono ?_;rintro e P⟨p,q,m,rfl,hf,hm,b3⟩;have hF3:=jF.new P 237 #[p,q,.map m];have b4:=b3.alloc b3.size (.cells #[p,q,.map m] 237);have ak:=hf.below ((qU P.1.size P).alloc (qK _) (.cells #[p,q,.map m] 237));have am:∀b∈m.toList,w2.1.size<=b/\b<(P.alloc (.cells #[p,q,.map m] 237)).1.size:=fun b a=>⟨(hm b a).1,by have:=(hm b a).2;simp;omega⟩
  obtain⟨gf,aq⟩:∃gf,P.1.size=gf:=⟨_,rfl⟩
  obtain⟨w4,an⟩:∃w4,P.alloc (.cells #[p,q,.map m] 237)=w4:=⟨_,rfl⟩
  rw[aq,an]at hF3;rw[an]at b4 ak am;have K:=qQ (qG hF3 (qG b4 (qG ak am)));clear hF3 b4 ak am hf hm b3 hL;go_wp2;clear an aq;go_loopw [26] (fun i wr=>∃k:Nat,k<=l.length/\i=.int .i64 k/\(∀j y,j<k->l[j]? = some y->gV r1 y.h=true)/\Below w4.1.size w4 wr) (fun i _=>l.length-(intOf i).toNat)
  case atStart=>exact⟨0,qI _,rfl,fun j y h=>absurd h (by omega),qU _ _⟩
  case round =>
   obtain⟨k,hk,rfl,ad,L⟩:=hrel;have X:=qQ ad;have ag:=qQ L;have N:=bj K.out.2.1 L;have ax:=qQ N;have J:=jF.below K.out.1 L;have a0:=J.cell 0;have a1:=J.cell 1;have a2:=J.cell 2;have s:=jF.below o.out.2.2.1 N;have aA:=qQ s;have az:=qQ J;clear ad;by_cases ae:k<l.length
   ·obtain⟨x,u⟩:∃x,l[k]? = some x:=⟨_,qD ae⟩
    have ao:=aC.out x (qM u);have hV:=o.out.2.2.2.below N (qK _);have aj:kC wr (.slice A l.length cap) l:=(by rw[HZ.out];exact hV);obtain⟨bb,of,rfl,-,aH,d0,d1,I⟩:=tP aj u;have s1:(k:Int)<(Q:Int):=(by rw[<-HZ.out];omega);have s2:k<Q:=(by rw[<-HZ.out];exact ae);have s3:(k:Int)<=1000000:=(by omega);have aa:=(qU wr.1.size wr).alloc (qK _) (.cells #[.int .u64 (x.h:Nat),.int .i64 x.v,.int .i64 x.p] 117);have M:=Vm _ x.h r1 _ ao.h ((K.out.2.2.1.below L).below aa);have B5:=qQ (bj ag.out aa);have V:=jF.below az.out aa;have e0:=V.cell 0;have e1:=V.cell 1;have e2:=V.cell 2;cases O:gV r1 x.h with
    | false =>
      rw[O]at M;have HM:=qQ M;have ay:=qQ (ap.out.2 ⟨x,qM u,O⟩);clear M O u ao hV aj s J L N ae V X aa;obtain⟨xh,xv,xp⟩:=x;simp only at d0 d1 I HM B5 e0 e1 e2;go_wp2_with fail;refine KG HM.out fun w6 b6=>?_;have ab:=bj B5.out b6;have ah:=bj K.out.2.1 ab;have z:=jF.below o.out.2.2.1 ah;have k0:=z.cell 0;have k1:=z.cell 1;have k2:=z.cell 2;have f0:=z.frozen 0;have f1:=z.frozen 1;have f2:=z.frozen 2;have H6:=qQ (qG z ah);clear ab ah z b6;go_wp2;refine lW (p:=6) (g:=g) (t:=237) (C:=#[.int .i64 0,.int .i64 0,.map none]) rfl rfl ?_ rfl rfl ?_
      ·exact((H6.out.1.put 0 _).put 1 _).put 2 _
      ·rw[ay.out];exact J7 api d.out.2.2.1 d.out.2.2.2.1 o.out.1 (d.out.2.1.trans (o.out.2.1.less (fun b a=>qF _ a))) H6.out.2 (gY.none _) (fun b a=>by cases a) _ _ _
    | true =>
      rw[O]at M;have HM:=qQ M
      have aw:=qQ (show ∀j y,j<k+1->l[j]? = some y->gV r1 y.h=true from fun j y hj hy=>by
       rcases qh j k with c|c
       ·exact X.out j y c hy
       ·obtain rfl:j=k:=(by omega);rw[u]at hy;rw[<-qb hy];exact O)
      clear M O u ao hV aj s J L N V X aa;obtain⟨xh,xv,xp⟩:=x;simp only at d0 d1 I HM B5 e0 e1 e2;go_wp2_with fail;refine KG HM.out fun w6 b6=>?_;have ab:=qQ (bj B5.out b6);clear b6;go_wp2;go_roundw
      case rel=>exact⟨k+1,by omega,by go_num,aw.out,ab.out⟩
      case measure=>simp[intOf];omega
   ·obtain rfl:k=l.length:=(by omega);have s1:¬((l.length:Nat):Int)<(Q:Int):=(by rw[<-HZ.out];omega);have s2:¬l.length<Q:=by rw[<-HZ.out];omega
    have aB:=qQ (ap.out.1 (fun x u=>by
     obtain⟨j,hj⟩:=qd u;exact X.out j x (qO.1 hj).1 hj))
    have k0:=s.cell 0;have k1:=s.cell 1;have k2:=s.cell 2;have f0:=s.frozen 0;have f1:=s.frozen 1;have f2:=s.frozen 2;clear s J L N X ae;go_wp2;refine lW (p:=6) (g:=g) (t:=237) (C:=#[.int .i64 p,.int .i64 q,.map m]) rfl rfl ?_ rfl rfl ?_
    ·exact((aA.out.put 0 _).put 1 _).put 2 _
    ·rw[aB.out];exact J7 api d.out.2.2.1 d.out.2.2.2.1 o.out.1 (d.out.2.1.trans (o.out.2.1.less (fun b a=>qF _ a))) ax.out (K.out.2.2.1.below ag.out) (fun b a=>⟨(K.out.2.2.2 b a).1,qS (K.out.2.2.2 b a).2 ag.out.size⟩) _ _ _
end
end
section
structure ry(D E:jD)(n:Nat)(l:List jC)(t:Tw):Prop where
 up:UpD E
 count:E.count=D.count
 cap:E.cap=D.cap
 used:jM E.l=jM D.l+t.size+(tbB l).size
 many:E.l.length=D.l.length+2
 table:jN E.l (ptT n)=some ⟨ptT n,tbB l,(tbB l).size⟩
 zM:jN E.l (ptB n)=some ⟨ptB n,t,t.size⟩
 other:∀m,m≠ptT n->m≠ptB n->jN E.l m=jN D.l m
theorem CK{D:jD}(h:UpD D){n:Nat}(c:n<=999999){l:List jC}(o:ux l=true){t:Tw}(A:D.l.length<390)(j:jN D.l (ptT n)=none)(k:jN D.l (ptB n)=none)(C:jM D.l+t.size+(tbB l).size+6000<=D.cap):∃E,kA D n l t=(0,E)/\ry D E n l t:=by
 obtain⟨p,q⟩:=OE c;have d:=mi c c;obtain⟨z,g,a⟩:=XL (s:=t) h (by omega) q k (by omega);obtain⟨f,i,b⟩:=XL (s:=tbB l) a.up (by rw[a.many];omega) p (by rw[a.file,qZ (fun e=>d e.symm)];exact j) (by rw[a.used,a.cap];omega);refine⟨f, ?_,b.up,by rw[b.count,a.count],by rw[b.cap,a.cap],by rw[b.used,a.used],by rw[b.many,a.many],by rw[b.file,qV rfl],by rw[b.file,qZ d,a.file,qV rfl],fun m u y=>by rw[b.file,qZ u,a.file,qZ y]⟩;unfold kA;rw[qZ (by rw[not_or];exact⟨ZL c,by simp[o]⟩),qZ (by simp[h.down]),qZ (by omega),g];simp only;rw[qZ (by decide),i];simp only;rw[qZ (by decide)]
theorem CV{D:jD}(h:UpD D){n:Nat}(a:n<=999999){l:List jC}(b:ux l=true){t:Tw}(c:D.cap<jM D.l+t.size+(tbB l).size+6000):kA D n l t=(60,D):=by
 unfold kA;rw[qZ (by rw[not_or];exact⟨ZL a,by simp[b]⟩),qZ (by simp[h.down]),qV (by omega)]
theorem ry.has{D E:jD}{n:Nat}{l:List jC}{t:Tw}(h:ry D E n l t)(a:l.length<=89478484)(c:∀x∈l,kz x)(b:ux l=true):yj E n l:=by
 obtain⟨d,g,f⟩:=OA a c b;exact⟨_,h.table,d,f⟩
theorem qZr{D:jD}(h:UpD D){n:Nat}(a:n<=999999){f g:jI}(k:jN D.l (ptT n)=some f)(m:jN D.l (ptB n)=some g):∃E,uW D n=(0,E)/\UpD E/\E.cap=D.cap/\E.count=D.count/\E.l.length+2=D.l.length/\jM E.l+f.data.size+g.data.size=jM D.l:=by
 obtain⟨b,d,u1,c1,p,s,y,A,o⟩:=sc h k;have j:jN b.l (ptB n)=some g:=by rw[o _ (mi a a)];exact m
 obtain⟨c,i,u2,c2,q,t,z,C,u⟩:=sc u1 j;refine⟨c, ?_,u2,by rw[q,p],by rw[c2,c1],by omega,by omega⟩;unfold uW;rw[d];simp only;rw[i,qZ (by decide)];simp only;rw[qZ (by decide)]
structure kS(D E:jD):Prop where
 xB:E.xB=D.xB
 cap:E.cap=D.cap
 count:E.count=D.count
theorem kS.refl(D:jD):kS D D:=⟨rfl,rfl,rfl⟩
theorem kS.trans{D E F:jD}(h:kS D E)(k:kS E F):kS D F:=⟨k.xB.trans h.xB,k.cap.trans h.cap,k.count.trans h.count⟩
theorem J8{D E F:jD}(h:kS D E)(k:kS D F):kS D (yI E F).2:=by
 unfold yI;split
 ·exact⟨k.xB,k.cap,k.count⟩
 ·exact⟨h.xB,h.cap,h.count⟩
theorem J9(D:jD)(n:Tw):kS D (jx D n).2:=by
 unfold jx;split
 ·exact kS.refl D
 ·split
  ·exact kS.refl D
  ·split
   ·exact kS.refl D
   ·split
    ·exact kS.refl D
    ·exact J8 (kS.refl D) ⟨rfl,rfl,rfl⟩
theorem CY(D:jD)(n s:Tw):kS D (jc D n s).2:=by
 unfold jc;split
 ·exact kS.refl D
 ·split
  ·split
   ·exact kS.refl D
   ·split
    ·exact⟨rfl,rfl,rfl⟩
    ·exact⟨rfl,rfl,rfl⟩
  ·exact kS.refl D
theorem qZs(D:jD)(n:Tw):kS D (kZ D n).2:=by
 unfold kZ;split
 ·exact kS.refl D
 ·split
  ·exact J8 (kS.refl D) ⟨rfl,rfl,rfl⟩
  ·exact kS.refl D
theorem CU(D:jD)(n:Tw):kS D (jg D n).2:=by
 unfold jg;split
 ·exact kS.refl D
 ·split
  ·exact J8 (kS.refl D) ⟨rfl,rfl,rfl⟩
  ·exact kS.refl D
theorem mW(D:jD)(n s:Tw):kS D (ji D n s).2:=by
 unfold ji;split
 ·exact J9 D n
 ·split
  ·exact(J9 D n).trans (CY _ n s)
  ·exact((J9 D n).trans (CY _ n s)).trans (qZs _ n)
theorem qZt(D:jD)(n:Int)(l:List jC)(t:Tw):kS D (kA D n l t).2:=by
 unfold kA;split
 ·exact kS.refl D
 ·split
  ·exact kS.refl D
  ·split
   ·exact kS.refl D
   ·split
    ·exact mW D _ _
    ·split
     ·exact((mW D _ _).trans (mW _ _ _)).trans (CU _ _)
     ·exact(mW D _ _).trans (mW _ _ _)
theorem CG{n m:Tw}(a:m≠n)(l:List jI):jN (yT l n) m=jN l m:=by
 unfold yT;split
 ·exact sb a l
 ·rfl
theorem qZa{l:List jI}{n:Tw}{x:jI}(h:x∈yT l n):x∈l:=by
 unfold yT at h;split at h
 ·exact nc h
 ·exact h
theorem CW{l:List jI}{n:Tw}(c:(l.map jI.name).Nodup):jN (yT l n) n=none:=by
 unfold yT;split
 ·refine fk.2 fun f d e=>?_
  have a:f.name∈(kx l (j8 l n)).map jI.name:=qP.2 ⟨f,d,rfl⟩;rw[pj n l c]at a;have b:=(qo.1 a).2;rw[e]at b;simp at b
 ·rename_i h;exact Classical.byContradiction fun q=>h (l6.2 q)
theorem ru{l:List jI}{i:Nat}(h:(l.map jI.name).Nodup):((kx l i).map jI.name).Nodup:=by
 refine List.Sublist.nodup (List.Sublist.map _ ?_) h;unfold kx;have e:l=l.take i++l.drop i:=(qe i l).symm
 conv=>rhs;rw[e]
 refine List.Sublist.append_left ?_ _;rw[<-List.drop_drop];exact List.drop_sublist 1 _
theorem CA{l:List jI}(h:l.Pairwise (fun f g=>vD f.name g.name=true))(d:∀n,vD n n=false):(l.map jI.name).Nodup:=by
 unfold List.Nodup;rw[List.pairwise_map];exact h.imp fun {a b} c e=>by rw[e,d]at c;cases c
theorem qZe{D:jD}(h:UpD D)(c:(jl D).Nodup){n m:Tw}{f:jI}(p:jN D.l n=some f)(A:ks m=true)(d:n≠m):
  ∃E,vI D n m=(0,E)/\UpD E/\kS D E/\jM E.l<=jM D.l/\E.l.length<=D.l.length/\jN E.l m=some ⟨m,f.data,f.synced⟩/\jN E.l n=none/\(∀k,k≠m->k≠n->jN E.l k=jN D.l k)/\∀x∈jl E,x=m∨(x∈jl D/\x≠n):=by
 have s:j8 D.l n<D.l.length:=l6.2 (by rw[p];simp);have q:D.l[j8 D.l n]? = some f:=by rw[dP];exact p
 have e:vI D n m=(0, { D with l:=kL (yT (kx D.l (j8 D.l n)) m) ⟨m,f.data,f.synced⟩ }):=by
  unfold vI yI yQ;rw[qZ (by simp[h.down]),qV s,qZ (by simp[A]),h.fails,qV (by decide),qZ d,nj q]
 have w:=XE h.wf n m;rw[e]at w;have C:=ru (i:=j8 D.l n) c;have z:jN (yT (kx D.l (j8 D.l n)) m) m=none:=CW C;have b:∀k,jN (kL (yT (kx D.l (j8 D.l n)) m) ⟨m,f.data,f.synced⟩) k=if k=m then some ⟨m,f.data,f.synced⟩ else jN (yT (kx D.l (j8 D.l n)) m) k:=fun k=>XF (f:=⟨m,f.data,f.synced⟩) z k
 have F:jN (kx D.l (j8 D.l n)) n=none:=by
  refine fk.2 fun x g u=>?_
  have a:x.name∈(kx D.l (j8 D.l n)).map jI.name:=qP.2 ⟨x,g,rfl⟩;rw[pj n D.l c]at a;have o:=(qo.1 a).2;rw[u]at o;simp at o
 refine⟨_,e,⟨h.down,h.fails,w⟩,⟨rfl,rfl,rfl⟩, ?_, ?_,by show jN (kL _ _) m=_;rw[b,qV rfl],by show jN (kL _ _) n=_;rw[b,qZ d,CG d,F],fun k t H=>by show jN (kL _ _) k=_;rw[b,qZ t,CG t,sb H],fun x g=>?_⟩
 ·show jM (kL _ _)<=_;rw[ng];have:=pO q;have:=Ke (kx D.l (j8 D.l n)) m;show _+f.data.size<=_;omega
 ·show(kL _ _).length<=_;rw[pN];have:=pM s;have:=Kn (kx D.l (j8 D.l n)) m;omega
 ·obtain⟨y,j,rfl⟩:=qP.1 (show x∈(kL (yT (kx D.l (j8 D.l n)) m) ⟨m,f.data,f.synced⟩).map jI.name from g);rcases mT j with j|rfl
  ·have a:y.name∈(kx D.l (j8 D.l n)).map jI.name:=qP.2 ⟨y,qZa j,rfl⟩;rw[pj n D.l c]at a;obtain⟨I,J⟩:=qo.1 a;exact qY ⟨I,by simpa using J⟩
  ·exact qX rfl
theorem Qq(D:jD)(k:List Int):jl (uf D k)=jl D:=by
 show(bN D.l k).map jI.name=D.l.map jI.name;unfold bN;refine xV fun i=>?_
 rw[qu,List.getElem?_mapIdx,qu];cases D.l[i]?<;>rfl
theorem CB(D:jD)(n s:Tw):jl (jc D n s).2=jl D:=by
 unfold jc;split
 ·rfl
 ·split
  ·split
   ·rfl
   ·split
    ·show(kN D.l _ _).map jI.name=_;exact mz _ (by intro f;rfl) _ _
    ·rw[Qq];show(kN D.l _ _).map jI.name=_;exact mz _ (by intro f;rfl) _ _
  ·rfl
theorem qZi(D:jD)(n:Tw):jl (kZ D n).2=jl D:=by
 unfold kZ;split
 ·rfl
 ·split
  ·unfold yI;split
   ·show(kN D.l _ _).map jI.name=_;exact mz _ (by intro f;rfl) _ _
   ·exact Qq _ _
  ·rfl
theorem CC(D:jD)(n:Tw):jl (jx D n).2=jl D∨(jN D.l n=none/\(jl (jx D n).2).Perm (n::jl D)):=by
 unfold jx;split
 ·exact qX rfl
 ·split
  ·exact qX rfl
  ·split
   ·exact qX rfl
   ·rename_i a;split
    ·exact qX rfl
    ·unfold yI;split
     ·refine qY ⟨Classical.byContradiction fun q=>a (l6.2 q), ?_⟩;show((kL D.l ⟨n,ByteArray.empty,0⟩).map jI.name).Perm _;unfold kL;generalize yV D.l n=k;have e:jl D=(D.l.take k).map jI.name++(D.l.drop k).map jI.name:=(by rw[<-List.map_append,qe]);rw[e,List.map_append,List.map_append];show((D.l.take k).map jI.name++[n]++(D.l.drop k).map jI.name).Perm _;rw[qn];exact List.perm_middle
     ·exact qX (Qq _ _)
theorem CD(D:jD)(n s:Tw):jl (ji D n s).2=jl (jx D n).2:=by
 unfold ji;split
 ·rfl
 ·split
  ·exact CB _ _ _
  ·rw[qZi,CB]
theorem Jq{D:jD}{n s x:Tw}(a:x∈jl (ji D n s).2):x=n∨x∈jl D:=by
 rw[CD]at a;rcases CC D n with e|⟨-,e⟩
 ·rw[e]at a;exact qY a
 ·exact qL.1 (e.mem_iff.1 a)
theorem rf{D:jD}{n s:Tw}(h:(jl D).Nodup):(jl (ji D n s).2).Nodup:=by
 rw[CD];rcases CC D n with e|⟨k,e⟩
 ·rw[e];exact h
 ·refine e.nodup_iff.2 (List.nodup_cons.2 ⟨fun c=>?_,h⟩);obtain⟨f,b,a⟩:=qP.1 c;exact fk.1 k f b a
theorem qZo{D:jD}(h:UpD D)(u:(jl D).Nodup){m:kJ}(y:vX m)(c:jN D.l jO=none)(L:D.l.length<399)(M:jM D.l+(mfB m).size+6000<=D.cap):
  ∃E,uU D m=(0,E)/\UpD E/\kS D E/\jM E.l<=jM D.l+(mfB m).size/\E.l.length<=D.l.length+1/\jN E.l jh=some ⟨jh,mfB m,(mfB m).size⟩/\jN E.l jO=none/\(∀k,k≠jh->k≠jO->jN E.l k=jN D.l k)/\∀x∈jl E,x=jh∨x∈jl D:=by
 have p:=su h.down c;obtain⟨K,b,a⟩:=XL (s:=mfB m) h (by omega) Mn c (by omega);obtain⟨o,q,u2,I,i,g,t,F,H,J⟩:=qZe a.up (by have:=rf (n:=jO) (s:=mfB m) u;rw[b]at this;exact this) (n:=jO) (m:=jh) (f:=⟨jO,mfB m,(mfB m).size⟩) (by rw[a.file,qV rfl]) Mm (fun e=>Xi e.symm);refine⟨o, ?_,u2, ?_,by rw[a.used]at i;exact i,by rw[a.many]at g;exact g,t,F,fun k C d=>by rw[H k C d,a.file,qZ d],fun x z=>?_⟩
 ·unfold uU;rw[qZ (by simpa using y),qZ (by simp[h.down]),p];simp only;rw[qZ (by decide),qZ (by omega),b];simp only;rw[qZ (by decide)];exact q
 ·have j:=mW D jO (mfB m);rw[b]at j;exact j.trans I
 ·rcases J x z with e|⟨e,k⟩
  ·exact qX e
  ·have A:x∈jl (ji D jO (mfB m)).2:=(by rw[b];exact e);rcases Jq A with e|e
   ·exact absurd e k
   ·exact qY e
structure TbS where
 n:Nat
 l:List jC
 t:Tw
structure IxS where
 m:kJ
 T:List TbS
 mem:List jC
def uX(S:IxS)(x:jC):Prop:=x∈S.mem∨∃t∈S.T,x∈t.l
def kY(b:Int):Int:=min b 1073741824
def vf(S:IxS)(h:Nat)(a b:Int):List jC:=dT (vQ S.mem h a (kY b)::S.T.map fun t=>vQ t.l h a (kY b))
def uw(p:jC->Prop)(h:Nat)(b:Int)(n:Int):Prop:=(∀x,p x->x.h=h->x.v<=b->x.v<=n)/\((n = -1)∨∃x,p x/\x.h=h/\x.v<=b/\x.v=n)/\-1<=n
theorem uw.both{p q:jC->Prop}{h:Nat}{b m n:Int}(l:uw p h b m)(o:uw q h b n):uw (fun x=>p x∨q x) h b (max m n):=by
 obtain⟨s,t,z⟩:=l;obtain⟨u,y,A⟩:=o;refine⟨fun x a j k=>?_, ?_,by omega⟩
 ·rcases a with a|a
  ·have:=s x a j k;omega
  ·have:=u x a j k;omega
 ·rcases Int.le_total m n with c|c
  ·rw[Int.max_eq_right c];rcases y with e|⟨x,d,f,g,i⟩
   ·exact qX e
   ·exact qY ⟨x,qY d,f,g,i⟩
  ·rw[Int.max_eq_left c];rcases t with e|⟨x,d,f,g,i⟩
   ·exact qX e
   ·exact qY ⟨x,qX d,f,g,i⟩
theorem uw.congr{p q:jC->Prop}{h:Nat}{b n:Int}(a:uw p h b n)(c:∀x,p x↔q x):uw q h b n :=
 ⟨fun x d=>a.1 x ((c x).2 d),a.2.1.imp id (fun⟨x,f,g⟩=>⟨x,(c x).1 f,g⟩),a.2.2⟩
theorem CE{l:List jC}(s:kG l)(q:∀x∈l,mayE x=true)(h:Nat)(b:Int):uw (· ∈ l) h b (if yZ l h b=true then(vm l h b).v else -1):=by
 cases c:fK l h b with
 | none =>
   have j:yZ l h b=false:=(by unfold yZ;rw[c];rfl);rw[j];have o:l.filter (upQ h b)=[]:=List.getLast?_eq_none_iff.1 c;refine⟨fun x k d g=>?_,qX rfl,by simp⟩;have:=List.filter_eq_nil_iff.1 o x k;unfold upQ at this;simp[d,g]at this
 | some y =>
   have j:yZ l h b=true:=(by unfold yZ;rw[c];rfl);have p:vm l h b=y:=(by unfold vm;rw[c];rfl);rw[j,qV rfl,p];obtain⟨f,i⟩:=List.getLast?_eq_some_iff.1 c;have u:y∈l.filter (upQ h b):=(by rw[i];simp);obtain⟨m,z⟩:=qo.1 u;have n:=of_decide_eq_true z;refine⟨fun x k d g=>?_,qY ⟨y,m,n.1,n.2,rfl⟩, ?_⟩
   ·have a:x∈l.filter (upQ h b):=qo.2 ⟨k,qB ⟨d,g⟩⟩;rw[i]at a;rcases qE.1 a with a|a
    ·have t:kG (f++[y]):=(by rw[<-i];exact List.Pairwise.filter _ s);have:=(List.pairwise_append.1 t).2.2 x a y (qH.2 rfl);rw[l8]at this;omega
    ·rw[qH.1 a];omega
   ·have:=of_decide_eq_true (q y m);omega
structure kB(D:jD)(S:IxS):Prop where
 may:vX S.m
 seed:S.m.seed<18446744073709551616
 x5:∀n:Int,n∈S.m.lv.flatten↔∃t∈S.T,(t.n:Int)=n
 uniq:(S.T.map TbS.n).Nodup
 has:∀t∈S.T,yj D t.n t.l
 keep:∀t∈S.T,bR t.t t.l=true
 xH:kG S.mem
 ok:∀x∈S.mem,kz x
 mayE:∀x∈S.mem,Go.Proofs.YthejglbnkmimjaaGreat.mayE x=true
theorem kB.xT{D:jD}{S:IxS}(h:kB D S){t:TbS}(a:t∈S.T):t.n<1000000/\(t.n:Int)<S.m.next:=by
 have b:=h.may.2.2.2.2.2 _ ((h.x5 _).2 ⟨t,a,rfl⟩);have c:=h.may.2.1;omega
theorem kB.many{D:jD}{S:IxS}(h:kB D S):S.T.length=S.m.lv.flatten.length:=by
 have d:(S.T.map fun t=>(t.n:Int)).Perm S.m.lv.flatten:=by
  refine(List.perm_ext_iff_of_nodup ?_ h.may.2.2.2.2.1.2.2.2).2 fun n=>?_
  ·have:=h.uniq;rw[show(S.T.map fun t=>(t.n:Int))=(S.T.map TbS.n).map (fun n:Nat=>(n:Int)) by rw[List.map_map];rfl];unfold List.Nodup at this ⊢;rw[List.pairwise_map];exact this.imp fun {a b} c e=>c (by omega)
  ·rw[h.x5 n,qP]
 have:=d.length_eq;rw[qz]at this;exact this
theorem kB.xR{D:jD}{S:IxS}(h:kB D S):S.T.length<=40:=by rw[h.many];exact h.may.2.2.2.2.1.2.1
theorem kB.zS{D:jD}{S:IxS}(h:kB D S)(k:Nat)(a b:Int):∀l∈vQ S.mem k a b::S.T.map (fun t=>vQ t.l k a b),kG l:=fun l c=>by
 rcases qL.1 c with rfl|c
 ·exact List.Pairwise.filter _ h.xH
 ·obtain⟨t,d,rfl⟩:=qP.1 c;exact List.Pairwise.filter _ (h.has t d).props.1
theorem kB.count{D:jD}{S:IxS}(h:kB D S)(k:Nat):kB { D with count:=k } S:=⟨h.may,h.seed,h.x5,h.uniq,fun t a=>(h.has t a).count k,h.keep,h.xH,h.ok,h.mayE⟩
theorem kB.add{D:jD}{S:IxS}(h:kB D S){x:jC}(c:kz x)(b:Go.Proofs.YthejglbnkmimjaaGreat.mayE x=true):kB D { S with mem:=vz S.mem x }:=by
 refine⟨h.may,h.seed,h.x5,h.uniq,h.has,h.keep,Vd h.xH x,fun y a=>?_,fun y a=>?_⟩
 ·rcases tJ a with k|rfl
  ·exact h.ok y k
  ·exact c
 ·rcases tJ a with k|rfl
  ·exact h.mayE y k
  ·exact b
def gQ(T:List TbS)(R:LvL):List TbS:=T.filter fun t=>decide ((t.n:Int)∈R.flatten)
def fI(S:IxS)(R:LvL)(a:Int)(x:TbS)(mem:List jC):IxS:=⟨⟨S.m.next+1,a,S.m.seed,R⟩,gQ S.T R++[x],mem⟩
theorem qZw{L:LvL}{n:Int}(h:vo L n=0)(x:Int):x∈(kI L n).flatten↔x=n∨x∈L.flatten:=by
 have d:cw L:=by
  unfold vo at h;split at h
  ·cases h
  ·rename_i c;exact of_decide_eq_true (by cases a:yR L with|true=>exact a|false=>exact absurd (qX a) c)
 unfold kI;rw[qV h,pU];have b:=sH n (L:=ke L) (k:=0) (by rw[pY d.1];omega);rw[b.mem_iff,qL,nR]
theorem CF: ∀ {L:LvL} {k:Nat},L.flatten.Nodup->∀x:Int,x∈(L.set k []).flatten↔x∈L.flatten/\x ∉ L.getD k []
 | [],k,_,x=>by simp
 | y::L,0,hd,x=>by
   rw[List.flatten_cons]at hd;obtain⟨d,c,a⟩:=List.nodup_append.1 hd;simp only[List.set_cons_zero,List.flatten_cons,List.nil_append,List.getD_cons_zero,List.mem_append];constructor
   ·exact fun h=>⟨qY h,fun k=>a x k x h rfl⟩
   ·rintro ⟨k|k,q⟩
    ·exact absurd k q
    ·exact k
 | y::L,k+1,hd,x=>by
   rw[List.flatten_cons]at hd;obtain⟨d,c,a⟩:=List.nodup_append.1 hd;have f:=CF (k:=k) c x;simp only[List.set_cons_succ,List.flatten_cons,List.getD_cons_succ,List.mem_append,f];constructor
   ·rintro (q|⟨q,r⟩)
    ·refine⟨qX q,fun r=>?_⟩;rw[qj]at r;cases b:L[k]? with
     | none=>rw[b]at r;cases r
     | some z =>
       rw[b]at r;exact a x q x (List.mem_flatten.2 ⟨z,qM b,r⟩) rfl
    ·exact⟨qY q,r⟩
   ·rintro ⟨q|q,r⟩
    ·exact qX q
    ·exact qY ⟨q,r⟩
theorem qJQ{L:LvL}{k n:Int}(h:yA L k n=0)(x:Int):x∈(kq L k n).flatten↔x=n∨(x∈L.flatten/\x ∉ kU L k):=by
 have a:=h;unfold yA at a;split at a
 ·rename_i c;exact absurd a c
 ·rename_i c;obtain⟨b,i,j,g,-⟩:=pG (L:=L) (k:=k) (by omega);unfold kq;rw[qV h,pU];have d:=pY b.1;have f:=sH n (L:=(ke L).set k.toNat []) (k:=toL k.toNat) (by rw[List.length_set,d];exact KV _);rw[f.mem_iff,qL,CF (by rw[nR];exact b.2.2.2),nR,lI,g]
theorem CH{L:LvL}{n:Int}(b:cw L)(c:0<=n)(a:∀x∈L.flatten,x<n):vo L n=if L.flatten.length=40 then 60 else 0:=by
 unfold vo;rw[qZ];rintro (h|h|h)
 ·rw[show yR L=true from qB b]at h;cases h
 ·omega
 ·have:=a n h;omega
theorem CI{L:LvL}{k n:Int}(b:0<=n)(a:∀x∈L.flatten,x<n):yA L k n=vV L k:=by
 unfold yA;split
 ·rfl
 ·rename_i c;rw[qZ]
  ·have:vV L k=0:=Classical.byContradiction fun q=>c q
   exact this.symm
  ·rintro (h|h)
   ·omega
   ·have:=a n h;omega
theorem rh{L:LvL}{k:Int}:∀x∈kU L k,x∈L.flatten:=fun x a=>by
 unfold kU at a;split at a
 ·rw[lI,qj]at a;cases b:L[k.toNat]? with
  | none=>rw[b]at a;cases a
  | some z =>
    rw[b]at a;exact List.mem_flatten.2 ⟨z,qM b,a⟩
 ·cases a
theorem CL{L:LvL}{k:Int}(h:L.flatten.Nodup):(kU L k).Nodup:=by
 unfold kU;split
 ·rw[lI,qj];cases c:L[k.toNat]? with
  | none=>exact List.nodup_nil
  | some z =>
    obtain⟨b,e⟩:=qO.1 c
    have:z.Sublist L.flatten:=by
     have a:L=L.take k.toNat++(z::L.drop (k.toNat+1)):=by rw[<-e,<-xJ b,qe]
     conv=>rhs;rw[a,List.flatten_append,List.flatten_cons]
     exact(List.sublist_append_left z _).trans (List.sublist_append_right _ _)
    exact this.nodup h
 ·exact List.nodup_nil
def cf(T:List TbS)(ns:List Int):List TbS:=T.filter fun t=>decide ((t.n:Int)∈ns)
def ka(S:IxS)(ns:List Int):List jC:=dT ((cf S.T ns).map TbS.l)
theorem rm{S:IxS}{ns:List Int}{x:jC}:x∈ka S ns↔∃t∈S.T,(t.n:Int)∈ns/\x∈t.l:=by
 unfold ka cf;rw[YZ];constructor
 ·rintro ⟨l,d,c⟩;obtain⟨t,f,rfl⟩:=qP.1 d;obtain⟨a,b⟩:=qo.1 f;exact⟨t,a,of_decide_eq_true b,c⟩
 ·rintro ⟨t,a,b,c⟩;exact⟨t.l,qP.2 ⟨t,qo.2 ⟨a,qB b⟩,rfl⟩,c⟩
theorem Qx{D:jD}{S:IxS}(h:kB D S)(ns:List Int):kG (ka S ns):=YK fun l a=>by
 obtain⟨t,b,rfl⟩:=qP.1 a;exact(h.has t (qo.1 b).1).props.1
theorem oc{D:jD}{S:IxS}(h:kB D S)(ns:List Int):∀x∈ka S ns,kz x/\Go.Proofs.YthejglbnkmimjaaGreat.mayE x=true:=fun x a=>by
 obtain⟨t,b,-,a⟩:=rm.1 a;exact⟨(h.has t b).props.2.2 x a,(h.has t b).props.2.1 x a⟩
theorem Qz{l:List jC}(b:kG l)(a:∀x∈l,Go.Proofs.YthejglbnkmimjaaGreat.mayE x=true):ux l=true:=by
 unfold ux;rw[Bool.and_eq_true,List.all_eq_true];exact⟨b.sorted,a⟩
theorem rn{α:Type}[DecidableEq α]:∀ {a b:List α},a.Nodup->(∀x∈a,x∈b)->a.length<=b.length
 | [],b,_,_=>qI _
 | x::a,b,hd,h=>by
   obtain⟨f,g⟩:=List.nodup_cons.1 hd;have c:=h x qC;have i:=rn (b:=b.erase x) g fun y d=>(List.mem_erase_of_ne (fun e:y=x=>f (by rw[<-e];exact d))).2 (h y (qF _ d))
   rw[List.length_erase_of_mem c]at i;have:=List.length_pos_of_mem c;rw[qv];omega
theorem lA{a b:List jC}(d:kG a)(h:∀x∈a,x∈b):a.length<=b.length :=
 rn (d.imp fun {x y} c e=>by rw[e,px]at c;cases c) h
end
section
open Go.RowKit
section
variable {At:jR}{w0 w w':World}{gd:Nat}{D D':jD}{E E' B:List Nat}
theorem DS.xL(api:jS At)(h:DS At w0 gd D E w)(c:jH B w w')(i:∀b∈B,b∈E/\w0.1.size<=b)(j:∀b∈E',b∈E∨(w.1.size<=b/\b<w'.1.size)):DS At w0 gd D E' w':=by
 obtain⟨F,f,g,a⟩:=h;refine⟨F,api.xC f c (fun x d n=>(a x (i x n).1).1 d),g.trans (c.below g.size (fun x d=>(i x d).2)),fun b l=>?_⟩;rcases j b l with k|⟨p,o⟩
 ·exact⟨(a b k).1,qS (a b k).2 c.size⟩
 ·exact⟨fun m=>by have:=(api.low f b m).2;omega,o⟩
end
def bE(w:World)(v:Value)(R:LvL)(G:List Nat):Prop:=∀W,jE G w W->kh W v R
section
variable {w w':World}{v:Value}{R:LvL}{G G' E:List Nat}
theorem bE.now(h:bE w v R G):kh w v R:=h w (jE.refl _ _)
theorem bE.step(h:bE w v R G)(a:jE G w w'):bE w' v R G:=fun W k=>h W (a.trans k)
theorem bE.more(h:bE w v R G)(a:∀b∈G,b∈G'):bE w v R G':=fun W k=>h W (k.less a)
end
theorem jE.xg{G:List Nat}{w w':World}{base:Nat}{v:Value}{M:List LvS}(h:jE G w w')(a:js w base v M)(k:∀b∈jL v,b∈G):js w' base v M:=by
 refine⟨a.1, ?_⟩;rcases a.2 with f|⟨g,c,d,e,i,j,r⟩
 ·exact qX f
 ·exact qY ⟨g,c,d,e,i,(h.block g (k g (jt.2 (by rw[e];rfl)))).trans j,r⟩
theorem jE.zA{G:List Nat}{w w':World}{base:Nat}{v:Value}{l:List Int}(h:jE G w w')(a:jd w base v l)(k:∀b∈jL v,b∈G):jd w' base v l:=by
 refine⟨a.1, ?_⟩;rcases a.2 with f|⟨g,c,d,e,i,j,r⟩
 ·exact qX f
 ·exact qY ⟨g,c,d,e,i,(h.block g (k g (jt.2 (by rw[e];rfl)))).trans j,r⟩
theorem vw.keep{w:World}{base:Nat}{v:Value}{R:LvL}(h:vw w base v R):∃G,(∀b∈G,base<=b/\b<w.1.size)/\bE w v R G:=by
 obtain⟨M,d,f,g⟩:=h;refine⟨jL v++M.flatMap (fun x=>jL x.v),fun b a=>?_,fun W k=>⟨M,js.xE (k.xg d (fun b a=>qW _ a)) (fun x c=>jd.xE (k.zA (f x c) (fun b a=>qJ _ (xZ.2 ⟨x,c,a⟩)))),g⟩⟩;rcases qE.1 a with a|a
 ·exact d.lt b (jt.1 a)
 ·obtain⟨x,c,a⟩:=xZ.1 a;exact(f x c).lt b (jt.1 a)
theorem vZ.keep{w w':World}{base g:Nat}{F E:List Nat}{l:List jC}(h:vZ w base g F l)(a:jE E w w')(hF:∀b∈F,b∈E):vZ w' base g F l:=by
 obtain⟨v,j,k,c,d,f,m,n⟩:=h;exact⟨v,a.xW j (hF g d),a.row k (fun b o=>hF b (c b (jt.1 o))),c,d,fun x i=>⟨(f x i).1,qS (f x i).2 a.size⟩,m,n⟩
abbrev vt(w:World)(base:Nat)(v:Value)(ps:List Nat):Prop:=w.ownsRow base 160 1 v ps.length (ps.map ptr)
theorem vt.nil(w:World)(base:Nat):vt w base (.slice none 0 0) []:=World.ownsRow_nil _ _ _ _
theorem jE.xj{G:List Nat}{w w':World}{base:Nat}{v:Value}{ps:List Nat}(h:jE G w w')(a:vt w base v ps)(k:∀b∈jL v,b∈G):vt w' base v ps:=by
 refine⟨a.1, ?_⟩;rcases a.2 with f|⟨g,c,d,e,i,j,r⟩
 ·exact qX f
 ·exact qY ⟨g,c,d,e,i,(h.block g (k g (jt.2 (by rw[e];rfl)))).trans j,r⟩
theorem vt.below{w w':World}{base B:Nat}{v:Value}{ps:List Nat}(h:vt w base v ps)(i:Below B w w')(f:w.1.size<=B):vt w' base v ps:=by
 refine⟨h.1, ?_⟩;rcases h.2 with d|⟨g,b,c,l,j,a,r⟩
 ·exact qX d
 ·obtain⟨k,_⟩:=ql.1 a;exact qY ⟨g,b,c,l,j,(i.block g (qS k f)).trans a,r⟩
theorem vt.form{w:World}{base:Nat}{v:Value}{ps:List Nat}(h:vt w base v ps):∃A a,v=.slice A ps.length a/\ps.length<=a/\a<=maxLen/\∀i g,ps[i]? = some g->∃b,A=some ⟨b,0,none⟩/\v.ownBlock=some b/\b<w.1.size/\w.cell? ⟨b,i,none⟩=some (ptr g):=by
 obtain⟨A,a,rfl,d,f,j,l⟩:=v8 h;refine⟨A,a,rfl,d,f,fun i g c=>?_⟩;have n:=(qO.1 c).1;obtain⟨b,rfl,m,k⟩:=j (by omega);refine⟨b,rfl,rfl,k,(h.cellAt i (by omega)).trans ?_⟩;show(ps.map ptr)[i]? = _;rw[qu,c];rfl
def uu(w:World)(gd:Nat)(ps:List Nat)(T:List TbS)(G:List Nat):Prop :=
 ps.length=T.length/\∀(i:Nat) (g:Nat) (t:TbS),ps[i]? = some g->T[i]? = some t->∃H,yE w g gd t.n t.l t.t H/\∀b∈H,b∈G
section
variable {w w':World}{gd:Nat}{ps:List Nat}{T:List TbS}{G G' E:List Nat}
theorem uu.keep(h:uu w gd ps T G)(k:jE E w w')(f:∀b∈G,b∈E):uu w' gd ps T G:=⟨h.1,fun i g t c d=>by
 obtain⟨H,l,a⟩:=h.2 i g t c d;exact⟨H,l.keep k (fun b j=>f b (a b j)),a⟩⟩
theorem uu.more(h:uu w gd ps T G)(d:∀b∈G,b∈G'):uu w gd ps T G':=⟨h.1,fun i g t a c=>by
 obtain⟨H,j,k⟩:=h.2 i g t a c;exact⟨H,j,fun b f=>d b (k b f)⟩⟩
theorem uu.nil(w:World)(gd:Nat):uu w gd [] [] []:=⟨rfl,fun i g t h=>by simp at h⟩
theorem uu.snoc(h:uu w gd ps T G){g:Nat}{t:TbS}{H:List Nat}(m:yE w g gd t.n t.l t.t H):uu w gd (ps++[g]) (T++[t]) (H++G):=by
 refine⟨by rw[qN,qN,h.1];rfl,fun i x y a d=>?_⟩;have k:=h.1;rcases qh i ps.length with c|c
 ·rw[List.getElem?_append_left c]at a;rw[List.getElem?_append_left (by omega)]at d;obtain⟨K,o,p⟩:=h.2 i x y a d;exact⟨K,o,fun b f=>qJ _ (p b f)⟩
 ·rw[List.getElem?_append_right c]at a;rw[List.getElem?_append_right (by omega)]at d
  have j:i=ps.length:=by
   have:=(qO.1 a).1;simp at this;omega
  subst j;rw[Nat.sub_self]at a;rw[k,Nat.sub_self]at d;obtain rfl:g=x:=by simpa using a
  obtain rfl:t=y:=by simpa using d
  exact⟨H,m,fun b f=>qW _ f⟩
theorem uu.filter(p:TbS->Bool):∀ {ps:List Nat} {T:List TbS},uu w gd ps T G->uu w gd (((ps.zip T).filter fun x=>p x.2).map Prod.fst) (T.filter p) G:=by
 intro ps T h;obtain⟨m,l⟩:=h
 have e:((ps.zip T).filter fun x=>p x.2).map Prod.snd=T.filter p:=by
  rw[show(fun x:Nat × TbS=>p x.2)=p ∘ Prod.snd from rfl,<-List.filter_map,List.map_snd_zip (by omega)]
 have k:∀(i:Nat) (g:Nat) (t:TbS),(((ps.zip T).filter fun x=>p x.2).map Prod.fst)[i]? = some g->(T.filter p)[i]? = some t->(g,t)∈ps.zip T:=by
  intro i g t b a;rw[<-e]at a;rw[qu]at b a;obtain⟨x,d,rfl⟩:=xG.1 b;obtain⟨y,f,rfl⟩:=xG.1 a;rw[d]at f;obtain rfl:x=y:=qb f;exact(qo.1 (qM d)).1
 refine⟨by rw[<-e,qz,qz],fun i g t b a=>?_⟩;obtain⟨j,c⟩:=qd (k i g t b a);rw[List.getElem?_zip_eq_some]at c;exact l j g t c.1 c.2
end
def IxM(w:World)(base gx gd r:Nat)(S:IxS)(Fm Gr Gk:List Nat):Prop :=
 ∃(c:Nat) (d a:Value) (ps:List Nat),jF w gx 111 #[ptr gx,ptr gd,S.m.next,S.m.check,.int .u64 (S.m.seed:Nat),d,a,.float .f64 r,mtp c] /\
  bE w d S.m.lv Gk/\vt w base a ps/\uu w gd ps S.T Gk/\vZ w base c Fm S.mem/\gx∈Gr/\(∀b∈jL a,b∈Gr)/\base<=gx
def jf(At:jR)(w0:World)(gd gx r:Nat)(S:IxS)(D:jD)(E:List Nat)(w:World):Prop :=
 ∃Fm Gr Gk,DS At w0 gd D (Fm++(Gr++(Gk++E))) w/\IxM w w0.1.size gx gd r S Fm Gr Gk/\(∀b∈Fm,b ∉ Gr/\b ∉ Gk/\b ∉ E)/\(∀b∈Gr,b ∉ Gk/\b ∉ E)/\(∀b∈Gk,b ∉ E)/\∀b∈Fm++Gr,w0.1.size<=b
def nH(At:jR)(w0:World)(gd gx r:Nat)(v:Value)(S:IxS)(D:jD)(E:List Nat)(w:World)(e:Ending)(w':World):Prop:=e=.returned v/\jf At w0 gd gx r S D E w'/\jE E w w'
section
variable {At:jR}{w0 w w':World}{base gd gx r:Nat}{S S':IxS}{D D':jD}{E E' B Fm Gr Gk:List Nat}
theorem IxM.keep(h:IxM w base gx gd r S Fm Gr Gk)(c:jE (Fm++(Gr++Gk)) w w'):IxM w' base gx gd r S Fm Gr Gk:=by
 obtain⟨g,o,p,ps,i,j,k,l,m,d,f,n⟩:=h;exact⟨g,o,p,ps,c.xW i (qJ _ (qW _ d)),j.step (c.less (fun b a=>qJ _ (qJ _ a))),c.xj k (fun b a=>qJ _ (qW _ (f b a))),l.keep c (fun b a=>qJ _ (qJ _ a)),m.keep c (fun b a=>qW _ a),d,f,n⟩
theorem jf.ds(h:jf At w0 gd gx r S D E w):DS At w0 gd D E w:=by
 obtain⟨Fm,Gr,Gk,a,-⟩:=h;exact a.less (fun b c=>qJ _ (qJ _ (qJ _ c)))
theorem jf.kept(h:jf At w0 gd gx r S D E w):Below w0.1.size w0 w:=h.ds.kept
theorem jf.lt(h:jf At w0 gd gx r S D E w):∀b∈E,b<w.1.size:=h.ds.lt
theorem jf.xL(api:jS At)(h:jf At w0 gd gx r S D E w)(p:jH B w w')(g:∀b∈B,b∈E/\w0.1.size<=b)(o:∀b∈E',b∈E∨(w.1.size<=b/\b<w'.1.size)):jf At w0 gd gx r S D E' w':=by
 obtain⟨Fm,Gr,Gk,m,s,c,f,n,t⟩:=h;have u:=m.lt
 have d:∀b∈Fm++(Gr++Gk),b<w.1.size/\b ∉ B:=fun b a=>by
  refine⟨u b ?_,fun j=>?_⟩
  ·rcases qE.1 a with k|k
   ·exact qW _ k
   ·rcases qE.1 k with k|k
    ·exact qJ _ (qW _ k)
    ·exact qJ _ (qJ _ (qW _ k))
  ·have i:=(g b j).1;rcases qE.1 a with k|k
   ·exact(c b k).2.2 i
   ·rcases qE.1 k with k|k
    ·exact(f b k).2 i
    ·exact n b k i
 have l:∀b,b<w.1.size->b ∉ E->b ∉ E':=fun b a y j=>by
  rcases o b j with k|k
  ·exact y k
  ·omega
 refine⟨Fm,Gr,Gk,m.xL api p (fun b a=>⟨qJ _ (qJ _ (qJ _ (g b a).1)),(g b a).2⟩) (fun b a=>?_),s.keep (jE.xP p d),fun b a=>⟨(c b a).1,(c b a).2.1,l b (d b (qW _ a)).1 (c b a).2.2⟩,fun b a=>⟨(f b a).1,l b (d b (qJ _ (qW _ a))).1 (f b a).2⟩,fun b a=>l b (d b (qJ _ (qJ _ a))).1 (n b a),t⟩;rcases qE.1 a with k|k
 ·exact qX (qW _ k)
 ·rcases qE.1 k with k|k
  ·exact qX (qJ _ (qW _ k))
  ·rcases qE.1 k with k|k
   ·exact qX (qJ _ (qJ _ (qW _ k)))
   ·rcases o b k with q|q
    ·exact qX (qJ _ (qJ _ (qJ _ q)))
    ·exact qY q
theorem jf.below(api:jS At)(h:jf At w0 gd gx r S D E w)(a:Below w.1.size w w'):jf At w0 gd gx r S D E w':=h.xL api (jH.xA a) (fun b a=>by cases a) (fun b a=>qX a)
theorem jf.drew(api:jS At)(h:jf At w0 gd gx r S D E w):jf At w0 gd gx r S D E w.drew:=h.below api (qU _ _).drew
theorem jf.less(h:jf At w0 gd gx r S D E w)(c:∀b∈E',b∈E):jf At w0 gd gx r S D E' w:=by
 obtain⟨Fm,Gr,Gk,g,i,d,f,j,l⟩:=h;refine⟨Fm,Gr,Gk,g.less (fun b a=>?_),i,fun b a=>⟨(d b a).1,(d b a).2.1,fun k=>(d b a).2.2 (c b k)⟩,fun b a=>⟨(f b a).1,fun k=>(f b a).2 (c b k)⟩,fun b a k=>j b a (c b k),l⟩;rcases qE.1 a with k|k
 ·exact qW _ k
 ·rcases qE.1 k with k|k
  ·exact qJ _ (qW _ k)
  ·rcases qE.1 k with k|k
   ·exact qJ _ (qJ _ (qW _ k))
   ·exact qJ _ (qJ _ (qJ _ (c b k)))
theorem jf.more(api:jS At)(h:jf At w0 gd gx r S D E w)(a:Below w.1.size w w')(c:∀b∈B,w.1.size<=b/\b<w'.1.size):jf At w0 gd gx r S D (B++E) w' :=
 h.xL api (B:=[]) (jH.xA a) (fun b a=>by cases a) (fun b a=>(qE.1 a).elim (fun k=>qY (c b k)) qX)
theorem jf.quiet(h:jf At w0 gd gx r S D E w){P:Program}{f:FuncId}{args:Array Value}{Q:Ending->World->Prop}
  (n:∀E',(∀b∈E,b∈E')->DS At w0 gd D E' w->Calls P f args w fun e w'=>DS At w0 gd D' E' w'/\jE E' w w'/\Q e w'):Calls P f args w fun e w'=>jf At w0 gd gx r S D' E w'/\jE E w w'/\Q e w':=by
 obtain⟨Fm,Gr,Gk,c,g,i,j,l,m⟩:=h;refine(n _ (fun b a=>qJ _ (qJ _ (qJ _ a))) c).mono ?_;rintro e w'⟨d,k,q⟩;refine⟨⟨Fm,Gr,Gk,d,g.keep (k.less fun b a=>?_),i,j,l,m⟩,k.less (fun b a=>qJ _ (qJ _ (qJ _ a))),q⟩;rcases qE.1 a with k|k
 ·exact qW _ k
 ·rcases qE.1 k with k|k
  ·exact qJ _ (qW _ k)
  ·exact qJ _ (qJ _ (qW _ k))
end
theorem CM{w:World}{base:Nat}{v:Value}{l:List vT}(h:yC w base v l):∀b∈jL v,base<=b/\b<w.1.size:=by
 intro b a;have a:=jt.1 a;rcases h.2 with⟨rfl,-⟩|⟨g,f,i,rfl,c,d,-⟩
 ·cases a
 ·have e:g=b:=by simpa[Value.ownBlock] using a
  rw[<-e];exact⟨c,(ql.1 d).1⟩
def rp(At:jR)(w0:World)(gd:Nat)(n:Int)(l:List jC)(t:Tw)(D':jD)(E:List Nat)(w:World)(e:Ending)(w':World):Prop :=
 ∃a G,e=.returned (.tuple #[ptr a,.int .i64 0])/\yE w' a gd n l t G/\DS At w0 gd D' (G++E) w'/\jE E w w'/\∀b∈G,w.1.size<=b
section
variable {At:jR}(api:jS At)(nap:jw){w0 w:World}{gd:Nat}{D:jD}{E:List Nat}
include api
theorem qJX{w1 w2 g d:World}{I o:jD}{n:Int}{l:List jC}{A B:Option Addr}{c c2:Nat}{p q:Int}{m:Option Nat}{t:Tw}
  (K:DS At w0 gd I E w1) (F:jE E w w1) (i:Below w1.1.size w1 w2) (O:jy w2 w1.1.size (.slice A l.length c) l) (u:Below w2.1.size w2 g) (H:yC g w2.1.size (.slice B (kt l).length c2) (kt l))
  (J:gY d (.agg #[p,q,.map m]) t) (y:DS At w0 gd o (m.toList++(jL (.slice B (kt l).length c2)++(jL (.slice A l.length c)++E))) d) (k:jE (jL (.slice B (kt l).length c2)++(jL (.slice A l.length c)++E)) g d) (N:∀b∈m.toList,g.1.size<=b):
  rp At w0 gd n l t o E w (.returned (.tuple #[ptr d.1.size,.int .i64 0])) (d.alloc (.cells #[ptr d.1.size,ptr gd,n,l.length,.slice B (kt l).length c2,p,q,.map m] 239)):=by
 have z:=(qU d.1.size d).alloc (qK _) (.cells #[ptr d.1.size,ptr gd,n,l.length,.slice B (kt l).length c2,p,q,.map m] 239);have s:=jF.new d 239 #[ptr d.1.size,ptr gd,n,l.length,.slice B (kt l).length c2,p,q,.map m];have M:=y.lt;have j:=jE.xA z M;have L:bW d (.slice B (kt l).length c2) (kt l):=k.zF H.xE (fun b a=>qW _ a);refine⟨d.1.size,d.1.size::(jL (.slice B (kt l).length c2)++m.toList),rfl,⟨B,c2,p,q,m,s,j.zF L (fun b a=>?_),j.filter (f:=.nilIface) J (fun b a=>?_),qC,fun b a=>?_,fun b a=>?_⟩, ?_, ?_,fun b a=>?_⟩
 ·exact qJ _ (qW _ a)
 ·exact qW _ (by simp[a])
 ·exact qF _ (qW _ a)
 ·exact qF _ (qJ _ (by simp[a]))
 ·refine(y.more api z (B:=[d.1.size]) (fun b a=>?_)).less (fun b a=>?_)
  ·rw[qH.1 a];exact⟨qK _,s.lt⟩
  ·rcases qE.1 a with a|a
   ·rcases qL.1 a with a|a
    ·rw[a];exact qW _ qC
    ·rcases qE.1 a with a|a
     ·exact qJ _ (qJ _ (qW _ a))
     ·exact qJ _ (qW _ a)
   ·exact qJ _ (qJ _ (qJ _ (qJ _ a)))
 ·have C:∀b∈E,b<w1.1.size:=K.lt;exact((F.trans (jE.xA i C)).trans ((jE.xA u (fun b a=>qS (C b a) i.size)).trans (k.less (fun b a=>qJ _ (qJ _ a))))).trans (j.less (fun b a=>qJ _ (qJ _ (qJ _ a))))
 ·have P:=F.size;have Q:=i.size;have U:=u.size;have V:=k.size;rcases qL.1 a with e|a
  ·omega
  ·rcases qE.1 a with a|a
   ·have:=(CM H b a).1;omega
   ·have:=N b a;omega
include nap
theorem qJZ(h:DS At w0 gd D E w)(ok:WfP D)(hc:D.count<=1000000000)(ae:D.cap<=1048576)(n:Int)(H:(Lit.int .i64 n).wf=true)(hd:D.down=false)(Z:(rdW D (ptT n)).2.1=0)(h2:yw (rdW D (ptT n)).1=true)(hl:(tgL (rdW D (ptT n)).1).length<=10000):
  Calls prog 179 #[ptr gd,n] w (rp At w0 gd n (tgL (rdW D (ptT n)).1) (ldF (rdW D (ptT n)).2.2 n (tgL (rdW D (ptT n)).1)) (rdW (rdW D (ptT n)).2.2 (ptB n)).2.2 E w):=by
 have o:=tT api h ok;rw[qZ (by rw[hd];decide)]at o;have N:=qQ o;have hz:=Xy ok (ptT n);obtain⟨q1,q2,q3,q4,q5⟩:=LU D (ptT n);have k:=qQ fun W=>nap.table n W H
 rw[show nmS 116 n=ptT n from rfl]at k;have u:=qQ fun W (y:Below w.1.size w W)=>Z9 api (h.below api y) ok (by omega) (ptT n) (oB n)
 have f:=qQ fun W=>UM (rdW D (ptT n)).1 W (by omega)
 unfold fw at f;rw[(pn h2).2]at f;have hM:=qQ fun(v:Value) W (z:kC W v (tgL (rdW D (ptT n)).1))=>PX v _ W z hl
 have ab:=pR ok (ptT n);have aa:=qQ fun(v:Value) W (E':List Nat) (ad:DS At w0 gd (rdW D (ptT n)).2.2 E' W) (z:kC W v (tgL (rdW D (ptT n)).1)) (af:∀b∈jL v,b∈E')=>qZp api nap ad ab (by omega) (by omega) n H v _ z af (Yy _) (by omega)
 have ac:=qQ h.lt;rw[Z]at u;generalize ldF (rdW D (ptT n)).2.2 n (tgL (rdW D (ptT n)).1)=t at*;generalize (rdW (rdW D (ptT n)).2.2 (ptB n)).2.2=D2 at*;generalize (rdW D (ptT n)).2.2=D1 at*;generalize tgL (rdW D (ptT n)).1=l at*;generalize (rdW D (ptT n)).1=s at*;generalize ptT n=nm at*;clear h ok hc ae H hd Z h2 hl o hz q1 q2 q3 q4 q5 ab;have HZ:=qQ (show l.length=l.length from rfl);go_enter func179,ntmps179;go_wp2_with fail;refine X5 N.out ?_;go_wp2_with fail;refine KG (k.out _) fun w1 j=>?_;have K:=qQ (jE.xA j ac.out);have J:=qQ (u.out _ j);clear j u k N;go_wp2_with fail;refine J.out.mono ?_;rintro e w2⟨rfl,P,k2⟩;have g:=qQ (qG P (K.out.trans k2));clear P k2 J K;go_wp2_with fail;refine(f.out _).mono ?_;rintro e w3⟨A,c,rfl,C,O⟩;have a:=qQ (qG C O);have M:=qQ (hM.out _ _ C.xE);clear C O f hM;go_wp2_with fail;refine M.out.mono ?_;rintro e w4⟨B,c2,rfl,F,d⟩;have U:DS At w0 gd D1 (jL (.slice A l.length c)++E) w3:=g.out.1.more api a.out.2 (fo a.out.1);have V:=U.more api d (CM F);have X:=a.out.1.xE.below d (qK _);have L:=qQ (aa.out _ _ _ V X (fun b y=>qJ _ (qW _ y)));have I:=qQ (qG F d);clear F d U V X aa M;go_wp2_with fail;refine L.out.mono ?_;rintro e w5⟨p,q,m,rfl,Y,Q,k5,n5⟩;have HF:=qQ (qJX api (n:=n) g.out.1 g.out.2 a.out.2 a.out.1 I.out.2 I.out.1 Y Q k5 n5);have i:=jF.new w5 239 #[.pointer none,ptr gd,n,l.length,.slice B (kt l).length c2,p,q,.map m];have c0:=i.cell 0;have f0:=i.frozen 0;clear Y Q k5 n5 i L;go_wp2;go_ret2;exact HF.out
end
end
end Go.Proofs.YthejglbnkmimjaaGreat
