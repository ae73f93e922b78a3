import Derived.Test.YthejglbnkmimjaaGreatPp27
import Derived.Test.YthejglbnkmimjaaGreatPp18
set_option linter.unusedVariables false
set_option maxRecDepth 100000
set_option maxHeartbeats 9000000
namespace Go.Proofs.YthejglbnkmimjaaGreat
open Tryz
section
open Go.RowKit
theorem Pd(t:Tw)(h:64<=t.size):jJ (t.extract 3 4)=hpT t:=by
 have e:(t.extract 3 4).data.toList=[t.data.toList.getD 3 0]:=by
  rw[dX,List.drop_eq_getElem_cons (by rw[uJ];omega),qu,qD (by rw[uJ];omega)];rfl
 unfold jJ hpT;rw[e];simp[un]
theorem Pf(t:Tw):hpT t<256:=UInt8.toNat_lt _
theorem Ph(t:Tw):hnT t<4294967296:=by
 unfold hnT jJ;have a:((t.extract 4 8).data.toList.take 8).length<=4:=by rw[qq,uJ,qS];omega
 exact qP (cA _) (Nat.pow_le_pow_right (n:=256) (by decide) a)
def noC: Array Value:=#[.int .i64 0,.int .i64 0,.map none]
theorem Pm(t:Tw)(w:World)(h:t.size<64):
  Calls prog 299 #[.string t] w fun e w'=>e = .returned (.agg noC)/\Below w.heap.size w w':=by
 have c:(t.size:Int)<64:=by omega
 have a:=qQ (za.new w 237 #[.int .i64 0,.int .i64 0,.map none]);have b:=qQ ((Below.refl w.heap.size w).alloc (qZ _) (.cells #[.int .i64 0,.int .i64 0,.map none] 237));go_enter func299,ntmps299;go_wp2;refine cd rfl rfl a.out rfl rfl ?_;exact⟨rfl,b.out⟩
theorem Pn(t:Tw)(p n:Nat)(R:Value->World->Prop)(w:World)(h:64<=t.size)(P:hpT t=p)(N:hnT t=n)
  (o:vb t=false->∀W,Below w.heap.size w W->R (.agg noC) W)
  (v:vb t=true->∀W mb,Below w.heap.size w W->w.heap.size<=mb->vX W mb t 0->R (.agg #[.int .i64 (p:Nat),.int .i64 (n:Nat),.map (some mb)]) W):
  Calls prog 299 #[.string t] w fun e w'=>∃f,e = .returned f/\R f w':=by
 have ae:p<256:=by have:=Pf t;omega
 have ad:n<4294967296:=by have:=Ph t;omega
 have G:=qQ fun W=>show Calls prog 131 #[.string (t.extract 3 4)] W _ from gQ (t.extract 3 4) W (by rw[qS];unfold maxLen;omega)
 have H:=qQ fun W=>show Calls prog 131 #[.string (t.extract 4 8)] W _ from gQ (t.extract 4 8) W (by rw[qS];unfold maxLen;omega)
 have eg:jJ (t.extract 4 8)=n:=N;rw[Pd t h,P]at G;rw[eg]at H;have q:=qQ fun W=>Pg n p W
 have I:=qQ fun W=>Pc n p W ad ae
 have r:=@Uq t;have s:=@Ux t;have u:=@rE t;rw[P,N]at r s u;have s1:(64:Int)<=(t.size:Int):=by omega
 have s2:¬(t.size:Int)<64:=by omega
 have s3:(4:Int)<=(t.size:Int):=by omega
 have s4:(8:Int)<=(t.size:Int):=by omega
 have i:=qQ (za.new w 237 #[.int .i64 0,.int .i64 0,.map none]);have j:=qQ ((Below.refl w.heap.size w).alloc (qZ _) (.cells #[.int .i64 0,.int .i64 0,.map none] 237));obtain⟨d,af⟩:∃d,w.alloc (.cells #[.int .i64 0,.int .i64 0,.map none] 237)=d:=⟨_,rfl⟩
 rw[af]at i j;have ah:∀W:World,(Instr.makeMap 235 none).run prog W = .ok (.map (some W.heap.size)) (W.alloc (.map #[] 0)):=fun W=>run_makeMap _ W
 have q1:IntKind.i64.wrap (p:Int)=(p:Nat):=by rw[IntKind.wrap_i64];omega
 have q2:IntKind.i64.wrap (n:Int)=(n:Nat):=by rw[IntKind.wrap_i64];omega
 go_enter func299,ntmps299;go_wp2_with fail
 go_region_held3 (fun W=>Below d.heap.size d W)
  (first | (with_reducible assumption) | ((repeat' (first | (with_reducible assumption) | (with_reducible exact Below.refl _ _) | (with_reducible refine Below.drew ?_)));done) | fail)
  (first
  | (go_at_call 131;(first | ((with_reducible refine(G.out _).mono ?_);rintro e w'⟨rfl,rfl⟩) | ((with_reducible refine(H.out _).mono ?_);rintro e w'⟨rfl,rfl⟩)))
  | fail)
 by_cases m:dZ n p=true
 ·rw[m]at q;by_cases l:t.extract 0 64=hdP n p
  ·have Z:=qQ (v (u.2 ⟨h,m,l⟩));have he:=Qs l.symm;clear r s u o v l m;go_wp2_with fail
   go_region_held3 (fun W=>Below d.heap.size d W)
    (first | (with_reducible assumption) | ((repeat' (first | (with_reducible assumption) | (with_reducible exact Below.refl _ _) | (with_reducible refine Below.drew ?_)));done) | fail)
    (first
    | (go_at_call 264;((with_reducible refine(q.out _).mono ?_);rintro e w'⟨rfl,rfl⟩))
    | (go_at_call 265;((with_reducible refine(I.out _).mono ?_);rintro e w'⟨rfl,A⟩;have aa:=bj (by with_reducible assumption) A))
    | fail)
   have k:=qQ (show Below d.heap.size d w' by assumption);have b:=j.out.trans (k.out.mono j.out.size);have ab:w.heap.size<w'.heap.size:=qP i.out.lt k.out.size;have M:za w' w.heap.size _ _:=(k.out.block _ i.out.lt).trans i.out;have a:=M.alloc (.map #[] 0);have B:=b.alloc b.size (.map #[] 0);have y:=vX.new w' t;obtain⟨mb,ac⟩:∃mb,w'.heap.size=mb:=⟨_,rfl⟩
   rw[ac]at y;have O:mb≠w.heap.size:=(by omega);obtain⟨X,ag⟩:∃X,w'.alloc (.map #[] 0)=X:=⟨_,rfl⟩
   rw[ag]at a B y;have T:=a.cell 0;have U:=a.cell 1;have V:=a.cell 2;have J:=a.frozen 0;have K:=a.frozen 1;have L:=a.frozen 2;have c:=qQ (qU a (qU B (qU y (qU O b.size))));clear M a B y O b ab;go_wp2;refine cd (p:=2) (g:=w.heap.size) (t:=237) (C:=#[.int .i64 (p:Nat),.int .i64 (n:Nat),.map (some mb)]) rfl rfl ?_ rfl rfl ?_
   ·exact((c.out.1.put 0 _).put 1 _).put 2 _
   ·exact⟨_,rfl,Z.out _ mb (((c.out.2.1.setCell (qZ _) _).setCell (qZ _) _).setCell (qZ _) _) (by have:=c.out.2.2.2.2;omega) (c.out.2.2.1.of_block ((heap_setCell_other _ _ _ _ c.out.2.2.2.1).trans ((heap_setCell_other _ _ _ _ c.out.2.2.2.1).trans (heap_setCell_other _ _ _ _ c.out.2.2.2.1))))⟩
  ·have z:=qQ (o (s l));have he:=rG (fun h:hdP n p=t.extract 0 64=>l h.symm);clear r s u o v l m;go_wp2_with fail
   go_region_held3 (fun W=>Below d.heap.size d W)
    (first | (with_reducible assumption) | ((repeat' (first | (with_reducible assumption) | (with_reducible exact Below.refl _ _) | (with_reducible refine Below.drew ?_)));done) | fail)
    (first
    | (go_at_call 264;((with_reducible refine(q.out _).mono ?_);rintro e w'⟨rfl,rfl⟩))
    | (go_at_call 265;((with_reducible refine(I.out _).mono ?_);rintro e w'⟨rfl,A⟩;have aa:=bj (by with_reducible assumption) A))
    | fail)
   have k:=qQ (show Below d.heap.size d w' by assumption);have b:=j.out.trans (k.out.mono j.out.size);have a:za w' w.heap.size _ _:=(k.out.block _ i.out.lt).trans i.out;have T:=a.cell 0;have U:=a.cell 1;have V:=a.cell 2;have J:=a.frozen 0;have K:=a.frozen 1;have L:=a.frozen 2;have c:=qQ (qU a b);clear a b;go_wp2;refine cd (p:=2) (g:=w.heap.size) (t:=237) (C:=#[.int .i64 0,.int .i64 0,.map none]) rfl rfl ?_ rfl rfl ?_
   ·exact((c.out.1.put 0 _).put 1 _).put 2 _
   ·exact⟨_,rfl,z.out _ (((c.out.2.setCell (qZ _) _).setCell (qZ _) _).setCell (qZ _) _)⟩
 ·have D:=Bool.eq_false_iff.2 m;rw[D]at q;have z:=qQ (o (r D));clear r s u o v m D;go_wp2_with fail;obtain⟨F,Q⟩:∃F,d.drew=F:=⟨_,rfl⟩
  rw[Q];go_quiet ((go_at_call 264;exact Calls.quiet_of_same ((q.out _).mono fun _ _ h=>⟨h.1,h.2.symm⟩)));have b:=j.out.drew;have a:=i.out.drew;rw[Q]at b a;have b:=yg b nq;have a:=a.drewN nq;obtain⟨Y,S⟩:∃Y,F.drewN nq=Y:=⟨_,rfl⟩
  rw[S]at b a ⊢;have T:=a.cell 0;have U:=a.cell 1;have V:=a.cell 2;have J:=a.frozen 0;have K:=a.frozen 1;have L:=a.frozen 2;have c:=qQ (qU a b);clear a b S;go_wp2;refine cd (p:=2) (g:=w.heap.size) (t:=237) (C:=#[.int .i64 0,.int .i64 0,.map none]) rfl rfl ?_ rfl rfl ?_
  ·exact((c.out.1.put 0 _).put 1 _).put 2 _
  ·exact⟨_,rfl,z.out _ (((c.out.2.setCell (qZ _) _).setCell (qZ _) _).setCell (qZ _) _)⟩
theorem V5(t:Tw)(w:World):
  Calls prog 299 #[.string t] w fun e w'=>Below w.heap.size w w'/\((vb t=false/\e = .returned (.agg noC))∨(vb t=true/\∃mb,w.heap.size<=mb/\e = .returned (.agg #[.int .i64 (hpT t:Nat),.int .i64 (hnT t:Nat),.map (some mb)])/\vX w' mb t 0)):=by
 by_cases h:64<=t.size
 ·refine(Pn t _ _ (fun f w'=>Below w.heap.size w w'/\((vb t=false/\f = .agg noC)∨(vb t=true/\∃mb,w.heap.size<=mb/\f = .agg #[.int .i64 (hpT t:Nat),.int .i64 (hnT t:Nat),.map (some mb)]/\vX w' mb t 0))) w h rfl rfl (fun h W a=>⟨a,qX ⟨h,rfl⟩⟩) (fun h W mb a c b=>⟨a,qY ⟨h,mb,c,rfl,b⟩⟩)).mono ?_;rintro e w'⟨f,rfl,a,⟨h,rfl⟩|⟨h,mb,c,rfl,b⟩⟩
  ·exact⟨a,qX ⟨h,rfl⟩⟩
  ·exact⟨a,qY ⟨h,mb,c,rfl,b⟩⟩
 ·refine(Pm t w (by omega)).mono ?_;rintro e w'⟨rfl,a⟩;exact⟨a,qX ⟨rF (by omega),rfl⟩⟩
theorem Pp(t:Tw)(w:World)(h:vb t=false):
  Calls prog 269 #[.string t] w fun e w'=>e = .returned (.agg noC)/\Below w.heap.size w w':=by
 have z:=qQ fun W=>V5 t W
 have l:=za.new w 237 #[.int .i64 0,.int .i64 0,.map none];have n:=(Below.refl w.heap.size w).alloc (qZ _) (.cells #[.int .i64 0,.int .i64 0,.map none] 237);obtain⟨r,B⟩:∃r,w.alloc (.cells #[.int .i64 0,.int .i64 0,.map none] 237)=r:=⟨_,rfl⟩
 rw[B]at l n;have u:=qQ l;have i:=qQ n;have y:=qQ h;clear l n h;go_enter func269,ntmps269;go_wp2_with fail;refine(z.out _).mono ?_;rintro e f⟨c,⟨-,rfl⟩|⟨q,-⟩⟩
 ·have m:=u.out.after c;have a:=za.new f 237 #[.int .i64 0,.int .i64 0,.map none];have b:=qQ (m.alloc (.cells #[.int .i64 0,.int .i64 0,.map none] 237));have o:=qQ ((bj i.out c).alloc (bj i.out c).size (.cells #[.int .i64 0,.int .i64 0,.map none] 237));have d:w.heap.size≠f.heap.size:=Nat.ne_of_lt m.lt;obtain⟨j,A⟩:∃j,f.heap.size=j:=⟨_,rfl⟩
  obtain⟨s,D⟩:∃s,f.alloc (.cells #[.int .i64 0,.int .i64 0,.map none] 237)=s:=⟨_,rfl⟩
  rw[D]at a b o;rw[A]at a d;unfold noC;have J:=a.cell 0;have K:=a.cell 1;have L:=a.cell 2;have G:=a.frozen 0;have H:=a.frozen 1;have I:=a.frozen 2;have M:=b.out.cell 0;have N:=b.out.cell 1;have O:=b.out.cell 2;have P:=b.out.frozen 0;have Q:=b.out.frozen 1;have R:=b.out.frozen 2;have F:=qQ a;have v:=qQ c;clear a m c;go_wp2;refine wp_loop_rounds 1 ?_;rw[rounds_succ];go_wp2;refine cd (p:=2) (g:=w.heap.size) (t:=237) (C:=#[.int .i64 0,.int .i64 0,.map none]) rfl rfl ?_ rfl rfl ?_
  ·exact((((((b.out.qe d _).qe d _).qe d _).put 0 _).put 1 _).put 2 _)
  ·have k:w.heap.size<=j:=(by have:=b.out.lt;have:=(bj i.out v.out).size;omega);exact⟨rfl,((((((o.out.setCell k _).setCell k _).setCell k _).setCell (qZ _) _).setCell (qZ _) _).setCell (qZ _) _)⟩
 ·rw[y.out]at q;cases q
def fP(w wr:World)(a mb:Nat)(C:Array Value)(t:Tw)(k:Nat):Prop :=
 za wr a 237 C/\za wr w.heap.size 237 #[.int .i64 0,.int .i64 0,.map none]/\vX wr mb t k/\Below w.heap.size w wr
theorem fP.other{w wr c:World}{b mb k:Nat}{C:Array Value}{t:Tw}(h:fP w wr b mb C t k)(a:Below wr.heap.size wr c):fP w c b mb C t k :=
 ⟨h.1.after a,h.2.1.after a,h.2.2.1.below a,h.2.2.2.trans (a.mono h.2.2.2.size)⟩
theorem Pr(t:Tw)(p n m:Nat)(w:World)(hs:t.size<=1100000)(h:vb t=true)(hp:hpT t=p)(hn:hnT t=n)(hm:n=60*m)(ax:m<=2000)(az:p<=16):
  Calls prog 269 #[.string t] w fun e w'=>∃mb,e = .returned (.agg #[.int .i64 (p:Nat),.int .i64 (n:Nat),.map (some mb)])/\vX w' mb t m/\Below w.heap.size w w'/\w.heap.size<=mb:=by
 have HR:=qQ fun W=>V5 t W
 have HP:=qQ fun(j:Nat) (W:World) (hj:j<=100000)=>PK t j W hj hs
 have T:=za.new w 237 #[.int .i64 0,.int .i64 0,.map none];have hb:=(Below.refl w.heap.size w).alloc (qZ _) (.cells #[.int .i64 0,.int .i64 0,.map none] 237);obtain⟨w1,aq⟩:∃w1,w.alloc (.cells #[.int .i64 0,.int .i64 0,.map none] 237)=w1:=⟨_,rfl⟩
 rw[aq]at T hb;have HB:=qQ T;have af:=qQ hb;have P:=qQ (qU h (qU hp (qU hn hm)));obtain⟨Z,hZ⟩:∃Z,pgZ=Z:=⟨_,rfl⟩
 have z1:Z.size=60:=by rw[<-hZ];exact QW
 clear T hb h hp hn;go_enter func269,ntmps269;go_wp2_with fail;refine(HR.out _).mono ?_;rintro e f⟨M,⟨hh,-⟩|⟨-,mb,ay,rfl,X⟩⟩
 ·rw[P.out.1]at hh;cases hh
 ·rw[P.out.2.1,P.out.2.2.1];have ac:=X.lt;have aB:w.heap.size<w1.heap.size:=HB.out.lt;have K:=HB.out.after M;have d:=za.new f 237 #[.int .i64 0,.int .i64 0,.map none];have U:=K.alloc (.cells #[.int .i64 0,.int .i64 0,.map none] 237);have Y:=X.of_block (Below.heap_alloc f (.cells #[.int .i64 0,.int .i64 0,.map none] 237) mb ac);have aa:=(bj af.out M).alloc (bj af.out M).size (.cells #[.int .i64 0,.int .i64 0,.map none] 237);have r:w.heap.size≠f.heap.size:=Nat.ne_of_lt K.lt;have s:mb≠f.heap.size:=Nat.ne_of_lt ac;have ap:w.heap.size≠mb:=by omega
  have o:w.heap.size<=f.heap.size:=Nat.le_of_lt K.lt;have an:w.heap.size<=mb:=by omega
  obtain⟨a,ak⟩:∃a,f.heap.size=a:=⟨_,rfl⟩
  obtain⟨N,ar⟩:∃N,f.alloc (.cells #[.int .i64 0,.int .i64 0,.map none] 237)=N:=⟨_,rfl⟩
  rw[ar]at d U Y aa;rw[ak]at d r s o;have k0:=d.cell 0;have k1:=d.cell 1;have k2:=d.cell 2;have f0:=d.frozen 0;have f1:=d.frozen 1;have f2:=d.frozen 2;obtain⟨C,V⟩:∃C:Array Value,#[.int .i64 (p:Nat),.int .i64 (n:Nat),.map (some mb)]=C:=⟨_,rfl⟩
  have l:fP w (((N.setCell ⟨a,0,none⟩ (.int .i64 (p:Nat))).setCell ⟨a,1,none⟩ (.int .i64 (n:Nat))).setCell ⟨a,2,none⟩ (.map (some mb))) a mb C t 0:=by
   refine⟨?_,((U.qe r _).qe r _).qe r _,Y.of_block ((heap_setCell_other _ _ _ _ s).trans ((heap_setCell_other _ _ _ _ s).trans (heap_setCell_other _ _ _ _ s))),((aa.setCell o _).setCell o _).setCell o _⟩;rw[<-V];exact((d.put 0 _).put 1 _).put 2 _
  have HL:=qQ l;have G:=qQ V;have hq:IntKind.i64.wrap ((n:Int)/60)=(m:Int):=by rw[IntKind.wrap_i64];omega
  have aA:(n:Int)/60=(m:Int):=by omega
  have A:=qQ (qU r (qU s (qU ap (qU o an))));clear l aa Y U d K X M ac hm V;go_wp2;have l:=HL.out;obtain⟨w4,au⟩:∃w4,(((N.setCell ⟨a,0,none⟩ (.int .i64 (p:Nat))).setCell ⟨a,1,none⟩ (.int .i64 (n:Nat))).setCell ⟨a,2,none⟩ (.map (some mb)))=w4:=⟨_,rfl⟩
  rw[au]at l ⊢;clear HL au ar aq ak k0 k1 k2 f0 f1 f2 r s ap o an;go_loopw [12] (fun v wr=>∃k:Nat,k<=m/\v = .int .i64 k/\fP w wr a mb C t k) (fun v _=>m-(intOf v).toNat)
  case atStart=>exact⟨0,qH _,rfl,l⟩
  case round =>
   clear l;obtain⟨k,hk,rfl,c⟩:=hrel;by_cases ao:k<m
   ·have s1:(k:Int)<(m:Int):=(by omega);have H:=qQ (HP.out (k+1) wr (by omega));obtain⟨q,ad⟩:∃q,pgW t (k+1)=q:=⟨_,rfl⟩
    obtain⟨D,B⟩:∃D,pgC (pgL t (k+1))=D:=⟨_,rfl⟩
    have zD:D.size=60:=(by rw[<-B,mA,PV]);have oD:D.all (·.oneCell')=true:=(by rw[<-B];exact mB _);unfold pgV at H;rw[ad,B]at H;have e1:((k+1:Nat):Int)=(k:Int)+1:=(by omega);rw[e1]at H;have J:=qQ (qU ad B);have y:=qQ c;clear ad B c e1;go_wp2_with fail;refine H.out.mono ?_;rintro e u⟨rfl,R⟩;have L:=y.out.other R;have i:=za.new u 335 Z;have b:fP w ((u.alloc (.cells Z 335)).setRow u.heap.size D) a mb C t k:=L.other (pS ((Below.refl _ _).alloc (qZ _) _) (qZ _) D);have F:=i.row D;have am:mb≠u.heap.size:=Nat.ne_of_lt L.2.2.1.lt;obtain⟨g,hg⟩:∃g,u.heap.size=g:=⟨_,rfl⟩
    rw[hg]at i F b;have al:=qQ hg;cases q with
    | false =>
      have O:=qQ i;have I:=qQ b;clear L b i F am R
      go_wp2_with (first
       | (refine pT hZ rfl _ rfl rfl ?_;rw[al.out])
       | (refine p5 rfl _ _ rfl rfl rfl O.out z1 zD oD ?_))
      go_roundw
      case rel=>exact⟨k+1,ao,by go_num,I.out.1,I.out.2.1,I.out.2.2.1.skip J.out.1,I.out.2.2.2⟩
      case measure=>simp[intOf];omega
    | true =>
      obtain⟨Q,ai⟩:∃Q,(u.alloc (.cells Z 335)).setRow g D=Q:=⟨_,rfl⟩
      rw[ai]at b F;obtain⟨w7,ae,ah,ab⟩:=b.2.2.1.put (by omega) J.out.1;rw[<-PY J.out.1]at ae;unfold pgV at ae;rw[J.out.2]at ae
      have ag:fP w w7 a mb C t (k+1):=by
       have aj:=ab.block;refine⟨(aj a b.1.lt fun e=>?_).trans b.1,(aj _ b.2.1.lt fun e=>?_).trans b.2.1,ah,b.2.2.2.grown ab b.2.2.2.size fun z hz=>?_⟩
       ·injection e with e;exact A.out.2.1 e.symm
       ·injection e with e;exact A.out.2.2.1 e
       ·injection hz with hz;rw[<-hz];exact A.out.2.2.2.2
      have c2:Q.cell? ⟨a,2,none⟩=some (.map (some mb)):=(by rw[b.1.cell 2,<-G.out];rfl);have O:=qQ i;have av:=qQ F;have aw:=qQ ag;clear L b i F am R ah ab ag
      go_wp2_with (first
       | (refine pT hZ rfl _ rfl rfl ?_;rw[al.out])
       | (refine p5 rfl _ _ rfl rfl rfl O.out z1 zD oD ?_;rw[ai])
       | (refine VP rfl _ rfl rfl av.out zD ?_))
      go_roundw
      case rel=>exact⟨k+1,ao,by go_num,aw.out⟩
      case measure=>simp[intOf];omega
   ·obtain rfl:k=m:=(by omega);have s1:¬(k:Int)<(k:Int):=(by omega);have y:=qQ c;have k0:=(G.out ▸ c.1).cell 0;have k1:=(G.out ▸ c.1).cell 1;have k2:=(G.out ▸ c.1).cell 2;have r0:=c.2.1.cell 0;have r1:=c.2.1.cell 1;have r2:=c.2.1.cell 2;have g0:=c.2.1.frozen 0;have g1:=c.2.1.frozen 1;have g2:=c.2.1.frozen 2;clear c;go_wp2;refine cd (p:=2) (g:=w.heap.size) (t:=237) (C:=#[.int .i64 (p:Nat),.int .i64 (n:Nat),.map (some mb)]) rfl rfl ?_ rfl rfl ?_
    ·exact((y.out.2.1.put 0 _).put 1 _).put 2 _
    ·have S:=A.out.2.2.1.symm;exact⟨mb,rfl,y.out.2.2.1.of_block ((heap_setCell_other _ _ _ _ S).trans ((heap_setCell_other _ _ _ _ S).trans (heap_setCell_other _ _ _ _ S))),((y.out.2.2.2.setCell (qZ _) _).setCell (qZ _) _).setCell (qZ _) _,A.out.2.2.2.2⟩
theorem Ps(t:Tw)(w:World)(g:t.size<=1100000):
  Calls prog 269 #[.string t] w fun e w'=>∃(p q:Int) (m:Option Nat),e = .returned (.agg #[.int .i64 p,.int .i64 q,.map m])/\yS w' (.agg #[.int .i64 p,.int .i64 q,.map m]) t/\(∀b∈m.toList,w.heap.size<=b/\b<w'.heap.size)/\Below w.heap.size w w':=by
 by_cases h:vb t=true
 ·obtain⟨i,j,k,l,n⟩:=rB.1 (rE.1 h).2.1;refine(Pr t (hpT t) (hnT t) (hnT t/60) w g h rfl rfl (by omega) (by omega) (by omega)).mono ?_;rintro e w'⟨d,rfl,c,a,f⟩
  exact⟨_,_,_,rfl,qY ⟨h,d,rfl,c⟩,fun b a=>(by
   obtain rfl:b=d:=(by simpa using a);exact⟨f,c.lt⟩),a⟩
 ·have h:=Bool.eq_false_iff.2 h;refine(Pp t w h).mono ?_;rintro e w'⟨rfl,a⟩;exact⟨_,_,_,rfl,qX ⟨h,rfl⟩,fun b a=>(by cases a),a⟩
end
end Go.Proofs.YthejglbnkmimjaaGreat
