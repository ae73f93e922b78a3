import Derived.Test.YthejglbnkmimjaaGreatPp36
import Derived.Test.YthejglbnkmimjaaGreatPp20
set_option linter.unusedVariables false
set_option maxRecDepth 100000
set_option maxHeartbeats 9000000
namespace Go.Proofs.YthejglbnkmimjaaGreat
open Tryz
section
open Go.RowKit Go.Shelf
theorem TF(seed r:Nat)(W:World):Calls prog 17 #[.pointer none,.int .u64 (seed:Nat),.float .f64 r] W fun e w'=>e = .returned (.tuple #[.pointer none,.int .i64 1])/\Below W.heap.size W w':=by
 have a:=qQ (PB none W (fun d _=>Mr d));go_enter func17,ntmps17;go_wp2_with fail;refine a.out.mono ?_;rintro e f⟨rfl,b⟩;have c:=qQ b;clear b a;go_wp2;go_ret2;exact⟨rfl,c.out⟩
def lf: zr:=vr (yf 9000) []
theorem TH: WfP lf:=by
 have h:=DE (Zk (c:=9000) (by decide)) [];have a:gv (yf 9000) []=(0,vr (yf 9000) []):=by unfold gv;rw[qJ (by simp[(sb (c:=9000) (by decide)).down])]
 rw[a]at h;exact h
theorem YT: (y9 lf).1=61:=by decide +kernel
section
variable {At:jK}(api:jY At)(nap:jz)(cap:kc)(rapi:lk At){w0 w:World}{gd:Nat}{D:zr}
include api in
theorem TI(h:DS At w0 gd (yf 9000) [] w):Calls prog 25 #[ptr gd,.slice none 0 0] w fun e w'=>e = .returned (.int .i64 0)/\DS At w0 gd lf [] w':=by
 have u:=sb (c:=9000) (by decide);have a:=h.qi api (fun F i=>api.zl (.slice none 0 0) [] i u.wf.ok (qX ⟨rfl,none,0,rfl⟩) (fun b g=>by cases g) (by decide));have f:gv (yf 9000) []=(0,vr (yf 9000) []):=by unfold gv;rw[qJ (by simp[u.down])]
 rw[f]at a;refine a.mono ?_;rintro e w'⟨rfl,d,-⟩;exact⟨rfl,d⟩
include api nap cap in
theorem TL(h:DS At w0 gd lf [] w):Calls prog 38 #[ptr gd] w fun e w'=>e = .returned (.tuple #[.pointer none,.int .i64 61])/\Below w0.heap.size w0 w':=by
 obtain⟨F,c,d,o⟩:=h;have k:=api.low c;have i:DSt At ⟨w,F,w0.heap.size,.pointer none,[],w⟩ gd lf w:=⟨F,c,fun x a=>qX a,ze.refl _ w,qZ _,fun b j=>(by cases j)⟩
 refine(JN api nap cap i TH (by show(0:Nat)<=_;omega)).mono ?_;rintro e w' (⟨g,-⟩|⟨-,f,n,-,-,l,-⟩)
 ·rw[YT]at g;cases g
 ·rw[YT]at f;refine⟨f,d.trans ?_⟩;have m:ze F w w':=l;exact m.below d.size (fun x a=>(k x a).1)
include api nap cap in
theorem TM(h:DS At w0 gd lf [] w)(seed r:Nat):Calls prog 17 #[ptr gd,.int .u64 (seed:Nat),.float .f64 r] w fun e w'=>e = .returned (.tuple #[.pointer none,.int .i64 61])/\Below w0.heap.size w0 w':=by
 have a:=qQ (TL api nap cap h);clear h;go_enter func17,ntmps17;go_wp2_with fail;refine a.out.mono ?_;rintro e d⟨rfl,b⟩;have c:=qQ b;clear b a;go_wp2;go_ret2;exact⟨rfl,c.out⟩
theorem TN(a:Int)(u v x:Value)(w:World):(Instr.field 47 (.agg #[.int .i64 a,u,v,x]) 0).run prog w = .ok (.int .i64 a) w:=by
 rfl
theorem TO(w:World)(x:bD):pC (w.alloc (.cells #[.int .u8 (x.k:Nat),.string x.s,.int .i64 x.a,.int .i64 x.b,x.v] 42)) (.slice (some ⟨w.heap.size,0,none⟩) 1 1) [x]:=by
 have B:=za.new w 42 #[.int .u8 (x.k:Nat),.string x.s,.int .i64 x.a,.int .i64 x.b,x.v];refine qY ⟨w.heap.size,0,1,rfl,qZ _,by unfold maxLen;omega,by simp,fun i y d j u c=>?_⟩
 match i,d with
 | 0,d =>
   obtain rfl:x=y:=by simpa using d
   match j,c with
   | 0,c=>rw[<-c];exact B.cell 0
   | 1,c=>rw[<-c];exact B.cell 1
   | 2,c=>rw[<-c];exact B.cell 2
   | 3,c=>rw[<-c];exact B.cell 3
   | 4,c=>rw[<-c];exact B.cell 4
include api nap cap rapi
namespace StNoneW
theorem walk(W:World)(x:bD)(h:nY)(wx:fL W x)(wh:QX h):Calls prog 5 #[Ku x,QQ h] W fun e w'=>e = .returned (.bool true)/\Below W.heap.size W w':=by
 have an:=qQ (fun W=>TX api nap cap rapi W);obtain⟨aD,aE,A,c,ap⟩:=wx.v;have Q:=(Below.refl W.heap.size W).alloc (qZ _) (.cells #[.int .u8 (x.k:Nat),.string x.s,.int .i64 x.a,.int .i64 x.b,x.v] 42);have Y:=za.new W 42 #[.int .u8 (x.k:Nat),.string x.s,.int .i64 x.a,.int .i64 x.b,x.v];obtain⟨J,af⟩:∃J,W.alloc (.cells #[.int .u8 (x.k:Nat),.string x.s,.int .i64 x.a,.int .i64 x.b,x.v] 42)=J:=⟨_,rfl⟩
 have aq:J.heap.size=W.heap.size+1:=by rw[<-af];simp
 rw[af]at Q Y;have R:=Q.alloc Q.size (.cells #[.int .u64 (h.d:Nat),.float .f64 h.r,.int .u16 (h.m:Nat)] 27);have M:=za.new J 27 #[.int .u64 (h.d:Nat),.float .f64 h.r,.int .u16 (h.m:Nat)];have p:=Y.alloc (.cells #[.int .u64 (h.d:Nat),.float .f64 h.r,.int .u16 (h.m:Nat)] 27);obtain⟨K,ag⟩:∃K,J.alloc (.cells #[.int .u64 (h.d:Nat),.float .f64 h.r,.int .u16 (h.m:Nat)] 27)=K:=⟨_,rfl⟩
 rw[ag]at R M p;rw[aq]at M;have ar:K.heap.size=W.heap.size+2:=by rw[<-ag];simp[aq]
 have G:=R.alloc R.size (.cells #[.int .u8 (x.k:Nat),.string x.s,.int .i64 x.a,.int .i64 x.b,x.v] 42);have ab:=M.alloc (.cells #[.int .u8 (x.k:Nat),.string x.s,.int .i64 x.a,.int .i64 x.b,x.v] 42);have Z:=p.alloc (.cells #[.int .u8 (x.k:Nat),.string x.s,.int .i64 x.a,.int .i64 x.b,x.v] 42);have O:=TO K x;obtain⟨l,ah⟩:∃l,K.alloc (.cells #[.int .u8 (x.k:Nat),.string x.s,.int .i64 x.a,.int .i64 x.b,x.v] 42)=l:=⟨_,rfl⟩
 rw[ah]at G ab Z O;rw[ar]at O;have u:Hid (Calls prog 6 #[.slice (some ⟨W.heap.size+2,0,none⟩) 1 1,.int .i64 1] l fun e w'=>e = .returned (.bool (gS [x] 1))/\l=w'):=qQ (Mm _ [x] 1 l O (fun y hy=>by rw[qE.1 hy];exact wx.below G (qZ _)) (by decide));have q:=qQ (fun W' (P:Below l.heap.size l W')=>qU (Z.below P) (ab.below P));have k0:=p.cell 0;have k1:=p.cell 1;have k2:=p.cell 2;have k3:=p.cell 3;have k4:=p.cell 4;have ak:=qQ G;have ae:W.heap.size<=l.heap.size:=G.size;have aG:l.heap.size=W.heap.size+3:=by rw[<-ah];simp[ar]
 obtain⟨kk,I,z,N,vv,H⟩:=x;obtain⟨T,V,hm⟩:=h;simp only at ap af ag ah u q k0 k1 k2 k3 k4;clear Q Y R M p G ab Z O wx aD aE wh;show Calls prog 5 #[.agg #[.int .u8 (kk:Nat),.string I,.int .i64 z,.int .i64 N,vv],.agg #[.int .u64 (T:Nat),.float .f64 V,.int .u16 (hm:Nat)]] W _;subst ap;go_enter func5,ntmps5;by_cases ad:gS [⟨kk,I,z,N,.slice A H.length c,H⟩] 1=true
 ·rw[ad]at u
  go_wp2_with (first
   | (go_at_call 6;((with_reducible refine u.out.mono ?_);rintro e w'⟨rfl,rfl⟩))
   | (go_at_call 7;((with_reducible refine(an.out _).mono ?_);rintro e f⟨rfl,j⟩))
   | fail)
  have HF:=qQ (ak.out.trans (j.mono ae));clear j;go_wp2;go_ret;exact⟨rfl,HF.out⟩
 ·have ao:gS [⟨kk,I,z,N,.slice A H.length c,H⟩] 1=false:=by simpa using ad
  rw[ao]at u;clear ad ao
  go_wp2_with (first
   | (go_at_call 6;((with_reducible refine u.out.mono ?_);rintro e w'⟨rfl,rfl⟩))
   | fail)
  go_loopw [5,6] (fun sv iv wr=>∃k:Nat,k<=2/\iv = .int .i64 (k:Nat)/\uF wr sv/\Below l.heap.size l wr) (fun _ iv _=>2-(intOf iv).toNat)
  case atStart=>exact⟨0,by omega,rfl,qX rfl,Below.refl _ _⟩
  case round =>
   obtain⟨k,hk,rfl,U,F⟩:=hrel;have i:=qQ F;obtain⟨t,X⟩:=q.out wr F;have c1:=t.cell 1;have c2:=t.cell 2;have c3:=t.cell 3;have c4:=t.cell 4;have d0:=X.cell 0;have d1:=X.cell 1;by_cases aF:k<2
   ·have s1:(k:Int)<2:=(by omega);have au:=qQ (TW U I z (.slice A H.length c) ⟨_,_,_,rfl⟩);have HN:=qQ U;have n:=qQ (fun f (j:Below wr.heap.size wr f)=>(show uF f u5/\f.cell? ⟨W.heap.size,1,none⟩=some (.string I)/\f.cell? ⟨W.heap.size,2,none⟩=some (.int .i64 z)/\f.cell? ⟨W.heap.size,3,none⟩=some (.int .i64 N) from⟨HN.out.below j,((q.out f (i.out.trans (j.mono i.out.size))).1).cell 1,((q.out f (i.out.trans (j.mono i.out.size))).1).cell 2,((q.out f (i.out.trans (j.mono i.out.size))).1).cell 3⟩));clear U F t X
    go_wp2_with (first
     | (go_at_call 18;((with_reducible refine au.out.mono ?_);rintro e f⟨rfl,j⟩;have ac:=n.out f j;obtain⟨-,m1,m2,m3⟩:=ac;have o:=qQ j;clear j))
     | (go_at_call 13;((with_reducible refine(TZ (n.out _ o.out).1 _ _ _).mono ?_);rintro e w'⟨rfl,rfl⟩))
     | (go_at_call 21;((with_reducible refine(TJ (n.out _ o.out).1 _ _ _).mono ?_);rintro e w'⟨rfl,rfl⟩))
     | (go_at_call 20;((with_reducible refine(TK (n.out _ o.out).1 _).mono ?_);rintro e w'⟨rfl,rfl⟩))
     | (go_at_call 19;((with_reducible refine(TV (n.out _ o.out).1).mono ?_);rintro e w'⟨rfl,rfl⟩))
     | (go_at_call 23;((with_reducible refine(TY (n.out _ o.out).1).mono ?_);rintro e w'⟨rfl,rfl⟩))
     | (go_at_call 15;((with_reducible refine(TU (n.out _ o.out).1).mono ?_);rintro e w'⟨rfl,rfl⟩))
     | (go_at_call 16;((with_reducible refine(TG (n.out _ o.out).1 _).mono ?_);rintro e w'⟨rfl,rfl⟩))
     | (go_at_call 11;((with_reducible refine(TA (n.out _ o.out).1).mono ?_);rintro e w5⟨rfl,C⟩;have av:=qQ C;clear C))
     | fail)
    have aj:Hid (Below l.heap.size l w5):=qQ ((i.out.trans (o.out.mono i.out.size)).trans (av.out.mono ((i.out.trans (o.out.mono i.out.size)).size)));rw[TN];go_wp2;go_roundw
    case rel=>exact⟨k+1,by omega,by go_num,qY ⟨_,rfl,(za.new w5 _ _).cell 0⟩,aj.out.alloc aj.out.size _⟩
    case measure=>simp[intOf];omega
   ·obtain rfl:k=2:=(by omega);have s1:¬((2:Nat):Int)<2:=(by omega);have P:=qR ae F.size;have aB:=qQ (show Calls prog 24 #[.int .i64 9000] wr fun e w'=>∃g,e = .returned (.tuple #[ptr g,.int .i64 0])/\DS At wr g (yf 9000) [] w' from VE api wr 9000 (by decide));have n:=qQ (fun f (j:Below wr.heap.size wr f)=>(show f.cell? ⟨W.heap.size+1,0,none⟩=some (.int .u64 (T:Nat))/\f.cell? ⟨W.heap.size+1,1,none⟩=some (.float .f64 V) from⟨((q.out f (i.out.trans (j.mono i.out.size))).2).cell 0,((q.out f (i.out.trans (j.mono i.out.size))).2).cell 1⟩));clear U F t X;have ax:=qQ (ak.out.trans (i.out.mono ae))
    go_wp2_with (first
     | (go_at_call 24;((with_reducible refine aB.out.mono ?_);rintro e f⟨gd,rfl,D4⟩;have ac:=n.out f D4.kept;obtain⟨m0,m1⟩:=ac;have az:=qQ D4;clear D4;have al:=qQ (TF T V f)))
     | (go_at_call 17;((with_reducible refine al.out.mono ?_);rintro e w5⟨rfl,C⟩;have aA:=qQ (az.out.below api C);clear C al;have ay:=qQ (TI api aA.out)))
     | (go_at_call 25;((with_reducible refine ay.out.mono ?_);rintro e w6⟨rfl,D6⟩;have aC:=n.out w6 D6.kept;obtain⟨n0,n1⟩:=aC;have am:=qQ (TM api nap cap D6 T V);clear D6))
     | (go_at_call 17;((with_reducible refine am.out.mono ?_);rintro e w7⟨rfl,b7⟩;have ai:=qQ b7;clear b7 am))
     | (go_at_call 7;((with_reducible refine(an.out _).mono ?_);rintro e w8⟨rfl,b8⟩;have aw:=qQ b8;clear b8))
     | fail)
    go_ret;exact⟨rfl,ax.out.trans ((ai.out.trans (aw.out.mono ai.out.size)).mono P)⟩
end StNoneW
end
section
variable {At:jK}(api:jY At){w0 w w':World}{gd gl gx r:Nat}{S S':IxS}{L:jV}{chs:List (List Tw)}{D D':zr}{E E' B:List Nat}
theorem uQ.xX(api:jY At)(h:uQ At w0 gd gl gx r S L chs D E w)(g:ze B w w')(c:∀b∈B,b∈E/\w0.heap.size<=b)(f:∀b∈E',b∈E∨(w.heap.size<=b/\b<w'.heap.size)):uQ At w0 gd gl gx r S L chs D E' w':=by
 have j:=h.ix.lt gl qB;have i:gl ∉ B:=fun d=>h.qe (c gl d).1
 refine⟨h.ix.xX api g (fun b a=>⟨qF _ (c b a).1,(c b a).2⟩) (fun b a=>?_),h.log.qa g i,fun d=>?_,h.low,h.ok,h.fl,h.xQ,h.gl⟩
 ·rcases qL.1 a with e|k
  ·rw[e];exact qX qB
  ·exact(f b k).imp (qF _) id
 ·rcases f gl d with k|k
  ·exact h.qe k
  ·omega
theorem uQ.more(api:jY At)(h:uQ At w0 gd gl gx r S L chs D E w)(a:Below w.heap.size w w')(c:∀b∈B,w.heap.size<=b/\b<w'.heap.size):uQ At w0 gd gl gx r S L chs D (B++E) w' :=
 h.xX api (B:=[]) (ze.qm a) (fun b a=>by cases a) (fun b a=>(qC.1 a).elim (fun k=>qY (c b k)) qX)
theorem TP(h:jt At w0 gd gl L chs D E w):Calls prog 66 #[ptr gl] w fun e w'=>e = .returned (.int .i64 (jn chs:Nat))/\w=w':=by
 have:=Du (v:=((jn chs:Nat):Int)) (h.st.2.1.cell 0) (by rw[<-h.gl.endp];exact h.st.2.1.cell 4);exact this
theorem Y0(api:jY At)(nap:jz)(h:cK At w0 gd gl L D E w)(ok:WfP D)(g:D.count<=1000000000)(f:L.chunks<=200):
  Calls prog 80 #[ptr gl,.int .i64 (-1)] w fun e w'=>∃k:Nat,k≠1/\e = .returned (.tuple #[.string ByteArray.empty,.int .i64 (k:Nat)])/\cK At w0 gd gl L D E w'/\zt E w w':=by
 have a:∃k:Nat,k≠1/\dE D L (-1)=(ByteArray.empty,k,D):=by
  unfold dE;by_cases q:vU D L≠0
  ·rw[qK q];refine⟨vU D L, ?_,rfl⟩;unfold vU;split
   ·decide
   ·split<;>decide
  ·rw[qJ q,qK (qX (by decide))];exact⟨4,by decide,rfl⟩
 obtain⟨k,i,a⟩:=a;refine(h.call api (v:=.tuple #[.string ByteArray.empty,.int .i64 (k:Nat)]) (D':=D) (L':=L) (fun c j d=>?_)).mono ?_
 ·have:=QB api nap j d ok g (-1) (by decide) f;rw[a]at this;exact this
 ·rintro e w'⟨rfl,b,l⟩;exact⟨k,i,rfl,b,l⟩
def Q4(At:jK)(w0:World)(gd gl r seed:Nat)(L:jV)(chs:List (List Tw))(D:zr)(E:List Nat)(w:World)(e:Ending)(w':World):Prop :=
 (∃gx T j,e = .returned (.tuple #[ptr gx,.bool true])/\vE D=0/\(j5 D).seed=seed/\(j5 D).check<=(jn chs:Nat)/\T.map (fun t=>(t.n:Int))=(j5 D).lv.flatten/\(∀t∈T,vH D t.n t.l)/\j<=81/\uQ At w0 gd gl gx r ⟨j5 D,T,[]⟩ L chs { D with count:=D.count+j } E w'/\zt E w w') ∨
 (∃j,e = .returned (.tuple #[.pointer none,.bool false])/\(vE D≠0∨(j5 D).seed≠seed∨((jn chs:Nat):Int)<(j5 D).check∨∃x∈(j5 D).lv.flatten,jl D x≠0)/\j<=81/\jt At w0 gd gl L chs { D with count:=D.count+j } E w'/\zt E w w')
theorem Y4(api:jY At)(nap:jz)(iap:dS At)(h:jt At w0 gd gl L chs D E w)(am:D.count<=810000000)(af:vE D=0->jr (j5 D)/\∀x∈(j5 D).lv.flatten,jl D x=0->(tgL (rdW D (ptT x)).1).length<=10000)(seed r:Nat):
  Calls prog 81 #[ptr gd,ptr gl,.int .u64 (seed:Nat),.float .f64 r] w (Q4 At w0 gd gl r seed L chs D E w):=by
 have hd:=h.fl.up.down;have u:=SN iap h (by omega);unfold j9 at u;have u:=qQ u;have O:=qQ af;have Q:=qQ (fun(j:Nat) (x:Int)=>qU (Rc hd (kD.count D (D.count+j)) x) (Vo hd (kD.count D (D.count+j)) (ptT x)).1);have V:=qQ (fun gx T j e w' (q:e = .returned (.tuple #[ptr gx,.bool true])/\vE D=0/\(j5 D).seed=seed/\(j5 D).check<=(jn chs:Nat)/\T.map (fun t:TbS=>(t.n:Int))=(j5 D).lv.flatten/\(∀t∈T,vH D t.n t.l)/\j<=81/\uQ At w0 gd gl gx r ⟨j5 D,T,[]⟩ L chs { D with count:=D.count+j } E w'/\zt E w w')=>(show Q4 At w0 gd gl r seed L chs D E w e w' from qX ⟨gx,T,j,q⟩));have p:=qQ (fun j e w' (q:e = .returned (.tuple #[.pointer none,.bool false])/\(vE D≠0∨(j5 D).seed≠seed∨((jn chs:Nat):Int)<(j5 D).check∨∃x∈(j5 D).lv.flatten,jl D x≠0)/\j<=81/\jt At w0 gd gl L chs { D with count:=D.count+j } E w'/\zt E w w')=>(show Q4 At w0 gd gl r seed L chs D E w e w' from qY ⟨j,q⟩));have M:=qQ (fun(j:Nat) W (q:jt At w0 gd gl L chs { D with count:=D.count+j } E W)=>TP q);clear h af hd;generalize vE D=H at*;generalize j5 D=lm at*;obtain⟨J,o,g,R⟩:=lm;simp only at O V p;have ah:∃v,v=jn chs:=⟨_,rfl⟩
 obtain⟨v,ae⟩:=ah;rw[<-ae]at V p M;clear ae;go_enter func81,ntmps81;go_wp2_with fail;refine u.out.mono ?_;rintro e f⟨y0,y1,y2,A,n,c,R',j,rfl,hM,hn,hv,al,an,ak,hj,h1,k1⟩;obtain⟨rfl,rfl,rfl,rfl⟩:=jS.mk.inj hM;subst hn;have G:=(Below.refl f.heap.size f).alloc (qZ _) (.cells #[.int .i64 J,.int .i64 o,.int .u64 (g:Nat),.slice A R.length c] 47);have i:=za.new f 47 #[.int .i64 J,.int .i64 o,.int .u64 (g:Nat),.slice A R.length c];have F:=h1.below api G;have k2:=k1.trans (zt.qm G (fun x d=>h1.lt x (qF _ d)));have ac:=hv.below G (qZ _);obtain⟨a,aj⟩:∃a,f.alloc (.cells #[.int .i64 J,.int .i64 o,.int .u64 (g:Nat),.slice A R.length c] 47)=a:=⟨_,rfl⟩
 rw[aj]at F k2 i ac;have z0:=i.cell 0;have z1:=i.cell 1;have z2:=i.cell 2;have z3:=i.cell 3;have s:=qQ (qU F (qU k2 (qU ac i)));have K:=qQ (fun k=>(M.out j (a.drewN k) (F.below api (yg (Below.refl _ _) k))).mono fun _ _ q=>qU q.1 q.2.symm);clear F k2 G h1 k1 u hv ac i M hM;have b:Hid (∀(nq:Nat),jt At w0 gd gl L chs { D with count:=D.count+j } E (a.drewN nq)/\zt E w (a.drewN nq)):=qQ fun nq=>⟨s.out.1.below api (yg (Below.refl _ _) nq),s.out.2.1.trans (zt.qm (yg (Below.refl _ _) nq) (fun x d=>s.out.1.lt x (qF _ d)))⟩
 by_cases c1:H=0
 case neg =>
  have C:¬(H:Int)=0:=by omega
  have q1:((H:Int)==0)=false:=qy.2 C;have q2:((H:Int) != 0)=true:=by rw[bne,q1];rfl
  go_wp2;go_quiet (fail);go_wp2;go_ret2;exact p.out j _ _ ⟨rfl,qX c1,by omega,(b.out _).1,(b.out _).2⟩
 subst c1;by_cases c2:g=seed
 case neg =>
  have C:¬(g:Int)=(seed:Int):=by omega
  have q1:((g:Int)==(seed:Int))=false:=qy.2 C;have q2:((g:Int) != (seed:Int))=true:=by rw[bne,q1];rfl
  go_wp2;go_quiet (fail);go_wp2;go_ret2;exact p.out j _ _ ⟨rfl,qY (qX c2),by omega,(b.out _).1,(b.out _).2⟩
 subst c2;by_cases X:(v:Int)<o
 case pos =>
  have C:decide ((v:Int)<o)=true:=qW X;go_wp2;go_quiet ((go_at_call 66;exact Calls.quiet_of_same (K.out _)));go_wp2;go_ret2;exact p.out j _ _ ⟨rfl,qY (qY (qX X)),by omega,(b.out _).1,(b.out _).2⟩
 have C:decide ((v:Int)<o)=false:=qG X;obtain⟨m1,m2⟩:=O.out rfl;have U:=qQ (fun(W:World) (hW:jt At w0 gd gl L chs { D with count:=D.count+j } E W) (hV:kQ W (.slice A R.length c) R)=>YU api nap hW (by show D.count+j<=_;omega) m1 ak hV (fun x d h0=>by rw[(Q.out j x).2];exact m2 x d (by rw[<-(Q.out j x).1];exact h0)) r);unfold j9 at U;clear m1 m2 O;go_wp2;go_quiet ((go_at_call 66;exact Calls.quiet_of_same (K.out _)));rename_i nq _;have ao:(a.drewN nq).cell? ⟨f.heap.size,0,none⟩=some (.int .i64 J):=z0;have ap:(a.drewN nq).cell? ⟨f.heap.size,1,none⟩=some (.int .i64 o):=z1;have aq:(a.drewN nq).cell? ⟨f.heap.size,2,none⟩=some (.int .u64 (g:Nat)):=z2;have ar:(a.drewN nq).cell? ⟨f.heap.size,3,none⟩=some (.slice A R.length c):=z3;have P:=qQ (U.out _ (b.out nq).1 (s.out.2.2.1.below (yg (Below.refl _ _) nq) (qZ _)));have ad:=qQ (b.out nq).2;clear z0 z1 z2 z3 b U s K;generalize a.drewN nq=wq at*;go_wp2_with fail;refine P.out.mono ?_;rintro e w4 (⟨gx,T,m,rfl,hT,hH,ai,y,z⟩|⟨x,m,d,aa,ai,rfl,y,z⟩)
 ·have N:=qQ (qU hT (qU hH (qU y z)));clear hT hH y z P;go_wp2;go_ret2;obtain⟨Y,Z,f3,f4⟩:=N.out;refine V.out gx T (j+m) _ _ ⟨rfl,trivial,trivial,by omega,Y,Z,by omega, ?_,ad.out.trans f4⟩;rw[show D.count+(j+m)=D.count+j+m by omega];exact f3
 ·have ab:=aa;rw[(Q.out j x).1]at ab;have N:=qQ (qU d (qU ab (qU y z)));obtain⟨I,ag⟩:∃I,I=jl { D with count:=D.count+j } x:=⟨_,rfl⟩
  rw[<-ag]at aa ⊢;have q5:¬(I:Int)=0:=by omega
  have q6:((I:Int)==0)=false:=qy.2 q5;clear d aa ab y z P ag;go_wp2;go_ret2;obtain⟨Y,Z,f3,f4⟩:=N.out;refine p.out (j+m) _ _ ⟨rfl,qY (qY (qY ⟨x,Y,Z⟩)),by omega, ?_,ad.out.trans f4⟩;rw[show D.count+(j+m)=D.count+j+m by omega];exact f3
theorem TR(api:jY At)(nap:jz)(h:jt At w0 gd gl L chs D E w)(U:D.count<=850000000)(seed r:Nat)(O:seed<18446744073709551616):
  Calls prog 82 #[ptr gd,.int .u64 (seed:Nat),.float .f64 r] w fun e w'=>∃gx D',e = .returned (.tuple #[ptr gx,.int .i64 0])/\uQ At w0 gd gl gx r ⟨ue seed,[],[]⟩ L chs D' E w'/\zt E w w'/\D'.qn=D.qn/\D'.cap=D.cap/\D'.count<=D.count+80/\jX D'.l<=jX D.l/\jU D'.l jG=none:=by
 have m:Hid (Calls prog 125 #[ptr gd,.string ⟨#[109,97,112]⟩] w _):=qQ (SO api h jG Vm (by decide))
 have s:=qQ (fun(D':zr) (W:World) (Q:D'.count=D.count) (M:jt At w0 gd gl L chs D' E W)=>(show Calls prog 133 #[ptr gd,.agg #[.int .i64 0,.int .i64 0,.int .u64 (seed:Nat),.slice none 0 0],.float .f64 r] W _ from
  YU api nap (n:=0) (c:=0) (d:=seed) (A:=none) (cp:=0) (R:=[]) M (by omega) (SS seed) O (kQ.nil W none 0) (fun x i=>by cases i) r))
 clear h;go_enter func82,ntmps82;go_wp2_with fail;refine m.out.mono ?_;rintro e P⟨f,a,rfl,g,t,F,k,C,z,-⟩;have y:jU a.l jG=none:=Vd fun q=>((z jG).1 q).2 rfl
 have p:=qQ (s.out a P k.count t);have H:=qQ (qU F (qU k (qU C y)))
 have N:f=0∨f=4:=by
  unfold tV at g;simpa using g
 clear t F k C z y g m s;rcases N with rfl|rfl
 all_goals
  go_wp2_with fail;refine p.out.mono ?_;rintro e X (⟨gx,T,j,rfl,v,-,V,u,G⟩|⟨x,j,i,-⟩);rotate_left
  ·cases i
  obtain rfl:T=[]:=List.map_eq_nil_iff.1 v;have o:=qQ (qU u G);clear u G v p;go_wp2;go_ret2;obtain⟨I,b,J,K⟩:=H.out;exact⟨gx,_,rfl,o.out.1,I.trans o.out.2,b.qn,b.cap,by show a.count+j<=_;have:=b.count;omega,J,K⟩
end
section
variable {At:jK}(api:jY At){w0 w w':World}{gd gl gx r seed:Nat}{S S':IxS}{L:jV}{chs:List (List Tw)}{D D':zr}{E E' B:List Nat}
structure Q5(At:jK)(w0:World)(gd gl gx r seed:Nat)(S:IxS)(L:jV)(chs:List (List Tw))(D:zr)(E:List Nat)(w:World)(S':IxS)(D':zr)(w':World):Prop where
 sx:jR At w0 gd gl gx r S' L chs D' E w'
 kept:zt E w w'
 m:S'.m=S.m
 T:S'.T=S.T
 mem:∀y,y∈S'.mem↔∃x∈zo 0 chs,S.m.check<=(x.1:Int)/\y∈ki seed x
 cap:D'.cap=D.cap
 qn:D'.qn=D.qn
 count:D'.count<=D.count+200*((zo 0 chs).length+1)
 used:jX D'.l<=jX D.l
 map:jU D'.l jG=jU D.l jG
theorem Y5(api:jY At)(h:uQ At w0 gd gl gx r S L chs D E w):Calls prog 31 #[ptr gx] w (cf w S.m.next S.m.check S.m.seed S.m.lv):=RV api h.ix h.ok
end
section
variable {At:jK}(api:jY At)(nap:jz)(iap:dS At)(cap:kc){w0 w w':World}{gd gl gx r seed:Nat}{S S':IxS}{L:jV}{chs:List (List Tw)}{D D':zr}{E E' B:List Nat}
def nj(At:jK)(w0:World)(gd gl gx r seed:Nat)(S:IxS)(L:jV)(chs:List (List Tw))(D:zr)(E:List Nat)(w:World):Prop :=
 ∀a A c,kz a w.heap.size (.slice A S.m.lv.length c) S.m.lv->Below w.heap.size w a ->
  let w2:=a.alloc (.cells #[.int .i64 S.m.next,.int .i64 S.m.check,.int .u64 (S.m.seed:Nat),.slice A S.m.lv.length c] 47)
  Calls prog 83 #[ptr gd,.agg #[.int .i64 S.m.next,.int .i64 S.m.check,.int .u64 (S.m.seed:Nat),.slice A S.m.lv.length c]] w2 fun e b=>e = .returned (.int .i64 0) /\
   za b a.heap.size 47 #[.int .i64 S.m.next,.int .i64 S.m.check,.int .u64 (S.m.seed:Nat),.slice A S.m.lv.length c] /\
   Calls prog 84 #[ptr gx,ptr gl,.agg #[.int .i64 S.m.next,.int .i64 S.m.check,.int .u64 (S.m.seed:Nat),.slice A S.m.lv.length c]] b fun e d=>e = .returned (.int .i64 0)/\∃S' D',Q5 At w0 gd gl gx r seed S L chs D E w S' D' d
include api nap iap cap in
theorem Y6(h:uQ At w0 gd gl gx r S L chs D E w)(N:S.mem=[])(R:S.m.seed=seed)(g:Nat)(F:S.m.check=(g:Nat))(C:g<=900000)(hw:∀x∈zo 0 chs,kK x.2=true)(H:(vM seed (zo 0 chs)).length<=1000)(Y:D.count<=840000000)(Q:seed<18446744073709551616)(K:S.m.lv.length<=100000):
  nj At w0 gd gl gx r seed S L chs D E w:=by
 intro d A c P k;obtain⟨G,o,J⟩:=P.keep;have l:=h.more api k (B:=G) (fun b i=>o b i);have j:=(Below.refl d.heap.size d).alloc (qZ _) (.cells #[.int .i64 S.m.next,.int .i64 S.m.check,.int .u64 (S.m.seed:Nat),.slice A S.m.lv.length c] 47);have n:=za.new d 47 #[.int .i64 S.m.next,.int .i64 S.m.check,.int .u64 (S.m.seed:Nat),.slice A S.m.lv.length c];have u:=l.more api j (B:=[d.heap.size]) (fun x a=>by rw[qE.1 a];exact⟨qZ _,n.lt⟩);have M:ur (d.alloc (.cells #[.int .i64 S.m.next,.int .i64 S.m.check,.int .u64 (S.m.seed:Nat),.slice A S.m.lv.length c] 47)) (.slice A S.m.lv.length c) S.m.lv G:=J.step (zt.qm j (fun x a=>(o x a).2));have I:zt E w (d.alloc (.cells #[.int .i64 S.m.next,.int .i64 S.m.check,.int .u64 (S.m.seed:Nat),.slice A S.m.lv.length c] 47)):=(zt.qm k (fun x a=>h.ix.lt x (qF _ a))).trans (zt.qm j (fun x a=>l.ix.lt x (qF _ (qV _ a))));intro w2;refine(SP iap u (G:=G) (fun b i=>qF _ (qV _ (qA _ i))) M rfl rfl K).mono ?_;rintro e w3⟨X,rfl,v,q,f,T,O⟩;have z:=q.qp n (qA _ qB);refine⟨rfl,z, ?_⟩;have p:=TE api nap cap v N g C S.m.next A S.m.lv.length c Q hw H (by rw[f.count];omega);rw[<-F]at p;rw[R];refine p.mono ?_;rintro e w4⟨rfl,S',s,y,U,V,W,t,Z⟩;refine⟨rfl,S',_,⟨y.less (fun x a=>qV _ (qV _ a)),I.trans ((q.less (fun x a=>qV _ (qV _ a))).trans (U.less (fun x a=>qV _ (qV _ a)))),V,W,t,f.cap,f.qn, ?_,T,O⟩⟩;have:=f.count;show s<=_;omega
include api nap iap cap in
theorem TS(h:jt At w0 gd gl L chs D E w)(ok:WfP D)(al:D.count<=800000000)(i:vE D=0->jr (j5 D)/\∀x∈(j5 D).lv.flatten,jl D x=0->(tgL (rdW D (ptT x)).1).length<=10000)
  (aa:¬(vE D≠0∨(j5 D).seed≠seed∨((jn chs:Nat):Int)<(j5 D).check∨∃x∈(j5 D).lv.flatten,jl D x≠0)) (hw:∀x∈zo 0 chs,kK x.2=true) (af:(vM seed (zo 0 chs)).length<=1000) (hs:seed<18446744073709551616):
  Calls prog 39 #[ptr gd,ptr gl,.int .u64 (seed:Nat),.float .f64 r] w fun e w'=>∃gx T S' D' j,e = .returned (.tuple #[ptr gx,.bool false,.int .i64 0])/\T.map (fun t=>(t.n:Int))=(j5 D).lv.flatten/\(∀t∈T,vH D t.n t.l)/\j<=81/\zt E w w' /\
   ∃v,zt E w v/\Q5 At w0 gd gl gx r seed ⟨j5 D,T,[]⟩ L chs { D with count:=D.count+j } E v S' D' w':=by
 have Z:=h.xQ.many;have O:=qQ (Y0 api nap h.st ok (by omega) (by rw[h.gl.xV];exact Z));have M:=qQ (fun W (f:cK At w0 gd gl L D E W)=>Y4 api nap iap (⟨f,h.fl,h.xQ,h.gl⟩:jt At w0 gd gl L chs D E W) (by omega) i seed r);have ag:=pd h.xQ;have ad:=qQ (fun q=>(i q).1);have P:=qQ aa
 have s:=qQ (fun(gx:Nat) (T:List TbS) (j:Nat) (W:World) (hj:j<=81) (ai:(j5 D).seed=seed) (ak:(j5 D).check<=((jn chs:Nat):Int)) (h0:vE D=0) (f:uQ At w0 gd gl gx r ⟨j5 D,T,[]⟩ L chs { D with count:=D.count+j } E W)=>(by
  have Y:=(i h0).1;have h3:=Y.2.2.1;obtain⟨u,ae⟩:∃u:Nat,(j5 D).check=(u:Nat):=⟨(j5 D).check.toNat,by omega⟩
  exact Y6 api nap iap cap f rfl ai u ae (by omega) hw af (by show D.count+j<=_;omega) hs (by have:=Y.2.2.2.2.1.1;simp only at this ⊢;omega):nj At w0 gd gl gx r seed ⟨j5 D,T,[]⟩ L chs { D with count:=D.count+j } E W))
 unfold nj at s;have o:=qQ (fun(gx:Nat) (T:List TbS) (j:Nat) (W:World) (f:uQ At w0 gd gl gx r ⟨j5 D,T,[]⟩ L chs { D with count:=D.count+j } E W)=>Y5 api f);unfold cf j9 at o;clear i aa h ag Z;go_enter func39,ntmps39;go_wp2_with fail;refine O.out.mono ?_;rintro e w1⟨k,hk,rfl,V,k1⟩;have q1:¬(k:Int)=1:=by omega
 have q2:((k:Int)==1)=false:=qy.2 q1;have K:=qQ (M.out w1 V);have ab:=qQ k1;clear V k1 O hk M;go_wp2_with fail;refine K.out.mono ?_;rintro e G (⟨gx,T,j,rfl,l1,l2,g,l4,l5,C,y,k2⟩|⟨j,rfl,ah,-⟩);rotate_left
 ·exact absurd ah P.out
 have m:=qQ (o.out gx T j G y);have p:=qQ (s.out gx T j G C l2 g l1 y);have I:=qQ (qU l4 (qU l5 (qU C (ab.out.trans k2))));clear l1 l2 g l4 l5 C y k2 K o s q1 q2 P ad;obtain⟨F,z⟩:∃F,F=j5 D:=⟨_,rfl⟩
 rw[<-z]at m p I;obtain⟨x0,x1,x2,R⟩:=F;have ac:=qQ z;clear z;go_wp2_with fail;refine m.out.mono ?_;rintro e H⟨A,c,rfl,g,Q⟩;have b:=p.out H A c g Q;have a:=za.new H 47 #[.int .i64 x0,.int .i64 x1,.int .u64 (x2:Nat),.slice A R.length c];obtain⟨w4,aj⟩:∃w4,H.alloc (.cells #[.int .i64 x0,.int .i64 x1,.int .u64 (x2:Nat),.slice A R.length c] 47)=w4:=⟨_,rfl⟩
 rw[aj]at b a;have b:=qQ b;have z0:=a.cell 0;have z1:=a.cell 1;have z2:=a.cell 2;have z3:=a.cell 3;clear g Q m p a;go_wp2_with fail;refine b.out.mono ?_;rintro e w5⟨rfl,d,X⟩;have J:=qQ X;have y0:=d.cell 0;have y1:=d.cell 1;have y2:=d.cell 2;have y3:=d.cell 3;clear X d b z0 z1 z2 z3;go_wp2_with fail;refine J.out.mono ?_;rintro e w6⟨rfl,S',D',hp⟩;have N:=qQ hp;clear hp J y0 y1 y2 y3;go_wp2;go_ret3;obtain⟨f1,f2,f3,U⟩:=I.out;rw[<-ac.out];exact⟨gx,T,S',D',j,rfl,f1,f2,f3,U.trans N.out.kept,G,U,N.out⟩
end
section
variable {At:jK}(api:jY At)(nap:jz)(iap:dS At)(cap:kc){w0 w w':World}{gd gl gx r seed:Nat}{S S':IxS}{L:jV}{chs:List (List Tw)}{D D':zr}{E E' B:List Nat}
include api nap iap cap in
theorem TT(h:jt At w0 gd gl L chs D E w)(ok:WfP D)(ao:D.count<=800000000)(ag:vE D=0->jr (j5 D)/\∀x∈(j5 D).lv.flatten,jl D x=0->(tgL (rdW D (ptT x)).1).length<=10000)
  (ai:¬(vE D=0/\(j5 D).seed=seed/\(j5 D).check<=((jn chs:Nat):Int)/\∀x∈(j5 D).lv.flatten,jl D x=0)) (hw:∀x∈zo 0 chs,kK x.2=true) (al:(vM seed (zo 0 chs)).length<=1000) (hs:seed<18446744073709551616):
  Calls prog 39 #[ptr gd,ptr gl,.int .u64 (seed:Nat),.float .f64 r] w fun e w'=>∃gx S' D',e = .returned (.tuple #[ptr gx,.bool true,.int .i64 0])/\zt E w w' /\
   ∃v a,Q5 At w0 gd gl gx r seed ⟨ue seed,[],[]⟩ L chs a E v S' D' w'/\a.qn=D.qn/\a.cap=D.cap/\a.count<=D.count+161/\jX a.l<=jX D.l/\jU a.l jG=none:=by
 have af:=h.xQ.many;have ah:=h.fl.up.down;have O:=qQ (Y0 api nap h.st ok (by omega) (by rw[h.gl.xV];exact af));have J:=qQ (fun W (b:cK At w0 gd gl L D E W)=>Y4 api nap iap (⟨b,h.fl,h.xQ,h.gl⟩:jt At w0 gd gl L chs D E W) (by omega) ag seed r)
 have P:=qQ (fun(gx:Nat) (T:List TbS) (j:Nat) (h0:vE D=0) (am:(j5 D).seed=seed) (ak:(j5 D).check<=((jn chs:Nat):Int)) (hT:T.map (fun t:TbS=>(t.n:Int))=(j5 D).lv.flatten) (hH:∀t∈T,vH D t.n t.l)=>(ai ⟨h0,am,ak,fun x hx=>by
  rw[<-hT]at hx;obtain⟨t,ht,rfl⟩:=qN.1 hx;exact(QL ah (hH t ht)).1⟩:False))
 have C:=qQ (fun(j:Nat) (W:World) (s:j<=81) (b:jt At w0 gd gl L chs { D with count:=D.count+j } E W)=>TR api nap b (by show D.count+j<=_;omega) seed r hs)
 have m:=qQ (fun(gx:Nat) (a:zr) (W:World) (o:a.count<=D.count+161) (b:uQ At w0 gd gl gx r ⟨ue seed,[],[]⟩ L chs a E W) =>
  (Y6 api nap iap cap b rfl rfl 0 rfl (by omega) hw al (by omega) hs (qH _):nj At w0 gd gl gx r seed ⟨ue seed,[],[]⟩ L chs a E W))
 have i:=qQ (fun(gx:Nat) (a:zr) (W:World) (b:uQ At w0 gd gl gx r ⟨ue seed,[],[]⟩ L chs a E W)=>Y5 api b);unfold nj at m;unfold cf j9 at i;have aa:(ue seed).next=0:=rfl;have ab:(ue seed).check=0:=rfl;have ac:(ue seed).seed=seed:=rfl;have ad:(ue seed).lv=[]:=rfl;simp only[aa,ab,ac,ad,List.length_nil]at m i;clear ag ai h af aa ab ac ad ah;go_enter func39,ntmps39;go_wp2_with fail;refine O.out.mono ?_;rintro e w1⟨k,hk,rfl,Z,k1⟩;have q1:¬(k:Int)=1:=by omega
 have q2:((k:Int)==1)=false:=qy.2 q1;have I:=qQ (J.out w1 Z);have G:=qQ k1;clear Z k1 O hk J;go_wp2_with fail;refine I.out.mono ?_;rintro e w2 (⟨gx,T,j,rfl,l1,l2,l3,p,l5,-⟩|⟨j,rfl,-,s,h2,k2⟩)
 ·exact(P.out gx T j l1 l2 l3 p l5).elim
 have z:=qQ (C.out j w2 s h2);have H:=qQ (G.out.trans k2);clear h2 k2 I C q1 q2 P G;go_wp2_with fail;refine z.out.mono ?_;rintro e u⟨gx,a,rfl,q,k3,R,U,V,X,Y⟩
 have o:a.count<=D.count+161:=by
  have:a.count<=D.count+j+80:=V;omega
 have K:=qQ (i.out gx a u q);have N:=qQ (m.out gx a u o q);have aj:=qQ (qU (H.out.trans k3) (qU (show a.qn=D.qn from R) (qU (show a.cap=D.cap from U) (qU o (qU (show jX a.l<=jX D.l from X) Y)))));clear q k3 R U V X Y o z i m H s;go_wp2_with fail;refine K.out.mono ?_;rintro e y⟨A,c,rfl,p,Q⟩;have f:=N.out y A c p Q;have d:=za.new y 47 #[.int .i64 0,.int .i64 0,.int .u64 (seed:Nat),.slice A 0 c];obtain⟨w5,an⟩:∃w5,y.alloc (.cells #[.int .i64 0,.int .i64 0,.int .u64 (seed:Nat),.slice A 0 c] 47)=w5:=⟨_,rfl⟩
 rw[an]at f d;have f:=qQ f;have z0:=d.cell 0;have z1:=d.cell 1;have z2:=d.cell 2;have z3:=d.cell 3;clear p Q K N d;go_wp2_with fail;refine f.out.mono ?_;rintro e w6⟨rfl,g,ae⟩;have F:=qQ ae;have y0:=g.cell 0;have y1:=g.cell 1;have y2:=g.cell 2;have y3:=g.cell 3;clear ae g f z0 z1 z2 z3;go_wp2_with fail;refine F.out.mono ?_;rintro e w7⟨rfl,S',D',hp⟩;have M:=qQ hp;clear hp F y0 y1 y2 y3;go_wp2;go_ret3;obtain⟨f1,f2,f3,f4,f5,f6⟩:=aj.out;exact⟨gx,S',D',rfl,f1.trans M.out.kept,u,a,M.out,f2,f3,f4,f5,f6⟩
end
end
section
open Go.RowKit Go.Shelf
theorem Y7{D:zr}{n:Int}{l b:List zn}(h:vH D n l)(k:vH D n b):l=b:=by
 obtain⟨f,c,-,d⟩:=h;obtain⟨g,a,-,i⟩:=k;rw[c]at a;obtain rfl:=qv a;rw[<-d,<-i]
theorem Tv{At:jK}(api:jY At)(nap:jz)(iap:dS At)(cap:kc):lk At where
 keep:=by
  intro w0 w gd gl L chs D E seed r S h ok o g aa G C hr;have F:=h.fl.up.down;obtain⟨l1,k,-⟩:=Rq F ok.may ok.seed g.map;have H:(j5 D).lv.flatten=S.m.lv.flatten:=by rw[k];exact Rz S.m
  have P:(j5 D).check=S.m.check:=by rw[k];rfl
  have ab:(j5 D).seed=S.m.seed:=by rw[k];rfl
  refine(TS api nap iap cap h h.fl.up.wf C (fun _=>⟨by rw[k];exact XI ok.may,fun x d _=>?_⟩) ?_ o.whole G (by rw[<-o.sd];exact ok.seed)).mono ?_
  ·rw[H]at d;obtain⟨t,b,rfl⟩:=(ok.xU x).1 d;rw[(QL F (g.has t b)).2];exact aa t b
  ·rintro (q|q|q|⟨x,d,q⟩)
   ·exact q l1
   ·exact q (ab.trans o.sd)
   ·have:=o.check;rw[P]at q;omega
   ·rw[H]at d;obtain⟨t,b,rfl⟩:=(ok.xU x).1 d;exact q (QL F (g.has t b)).1
  ·rintro e w'⟨gx,T,S',D',j,rfl,p,N,hj,I,v,ad,a⟩;have s:S'.m=ga S.m:=a.m.trans k;have O:S'.T=T:=a.T;rw[H]at p
   have Y:T.length=S.T.length:=by
    have i:=congrArg List.length p;rw[qj]at i;have:=ok.many;omega
   have ac:∀t∈T,∃u∈S.T,u.l=t.l:=fun t b=>by
    have:(t.n:Int)∈S.m.lv.flatten:=(by rw[<-p];exact qN.2 ⟨t,b,rfl⟩);obtain⟨u,c,z⟩:=(ok.xU _).1 this;refine⟨u,c, ?_⟩;have f:=g.has u c;rw[z]at f;exact Y7 f (N t b)
   have Z:∀u∈S.T,∃t∈T,t.l=u.l:=fun u c=>by
    have:(u.n:Int)∈T.map fun t:TbS=>(t.n:Int):=by rw[p];exact(ok.xU _).2 ⟨u,c,rfl⟩
    obtain⟨t,b,z⟩:=qN.1 this;refine⟨t,b, ?_⟩;have f:=N t b;rw[z]at f;exact Y7 f (g.has u c)
   refine⟨gx,S',D',rfl,⟨a.sx,I, ?_,a.cap,a.qn, ?_,a.used⟩,⟨?_,fun t b=>a.sx.ok.has t b⟩,s⟩
   ·refine o.opened (by rw[s];rfl) (by rw[s];rfl) (fun y=>?_) (fun y=>?_) (by rw[O,Y];exact qZ _)
    ·rw[O];constructor
     ·rintro ⟨t,b,J⟩;obtain⟨u,c,e⟩:=ac t b;exact⟨u,c,by rw[e];exact J⟩
     ·rintro ⟨u,c,J⟩;obtain⟨t,b,e⟩:=Z u c;exact⟨t,b,by rw[e];exact J⟩
    ·rw[a.mem];simp only[P]
   ·have:=a.count;simp only at this;omega
   ·have i:jU D'.l jG=jU D.l jG:=a.map;rw[i,g.map,s,XL]
 zc:=by
  intro w0 w gd gl L chs D E seed r h hw Q G C hs hr;refine(TT api nap iap cap h h.fl.up.wf C (fun A=>?_) ?_ hw G hs).mono ?_
  ·rcases Q with q|⟨-,q1,q2,-⟩
   ·exact absurd A q
   ·exact⟨q1,q2⟩
  ·rintro ⟨A,i,f,X⟩;rcases Q with q|⟨-,-,-,q|q|⟨x,d,q⟩⟩
   ·exact q A
   ·exact q i
   ·omega
   ·exact q (X x d)
  ·rintro e w'⟨gx,S',D',rfl,I,v,D2,a,R,U,e3,V,W⟩;refine⟨gx,S',D',rfl,⟨a.sx,I,Ry hw (by rw[a.m];rfl) (by rw[a.m];rfl) a.T (fun y=>?_),a.cap.trans U,a.qn.trans R, ?_,qR a.used V⟩,a.map.trans W,a.T,a.m⟩
   ·rw[a.mem];exact⟨fun⟨x,K,_,M⟩=>⟨x,K,M⟩,fun⟨x,K,M⟩=>⟨x,K,by show(0:Int)<=_;omega,M⟩⟩
   ·have:=a.count;omega
end
end Go.Proofs.YthejglbnkmimjaaGreat
