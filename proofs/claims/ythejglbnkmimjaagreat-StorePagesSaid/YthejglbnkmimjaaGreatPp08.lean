import Derived.Test.YthejglbnkmimjaaGreatPp07
import Derived.Deep.AppendLies
set_option linter.unusedVariables false
set_option maxRecDepth 100000
set_option maxHeartbeats 9000000
namespace Go.Proofs.YthejglbnkmimjaaGreat
open Proofs.Tryz
section
open Go.RowKit Go.Shelf
attribute [local go_sem ↓] Go.wp_at_zero Go.wp_at_succ
theorem cY.since{w W:World}{base g:Nat}{F:List Nat}{r:Value}{l:List jI}{e:Ending}{w':World}(h:cY base g F W r l e w')(b:jP [] w W):cY base g F w r l e w':=by
 obtain⟨c,d,f,i,j⟩:=h;refine⟨c,d,f,fun x a=>?_,(b.more (G:=F) (fun x a=>by cases a)).trans j (fun x a=>qX a)⟩;rcases i x a with k|k
 ·exact qX k
 ·exact qY (qR b.size k)
theorem cY.same{w W:World}{base g:Nat}{F:List Nat}{r:Value}{l:List jI}(h:vE W base g F l)(b:jP [] w W):cY base g F w r l (.returned r) W :=
 ⟨F,rfl,h,fun x a=>qX a,b.more (fun x a=>by cases a)⟩
theorem Sa{w:World}{base g:Nat}{F:List Nat}{l:List jI}{x:jI}(h:vE w base g F l)(j:ks x)(hn:l.length<=100000):
  Calls prog 150 #[mtp g,ki x] w (cY base g F w (.bool (!decide (x∈l))) (vp l x)):=by
 have HT:=qQ h;obtain⟨A,c,c0,c1,-,al,hg⟩:=h.shape;have Z:kY l:=by obtain⟨v,h1,h2,h3,h4,h5,h6,h7⟩:=h;exact h6
 have aj:=ju.xH al;have J:jP [] w ((w.alloc (.cells #[mtp g] 109)).alloc (.cells #[.int .u64 (x.h:Nat),.int .i64 x.v,.int .i64 x.p] 117)):=((jP.refl [] w).alloc _).alloc _;have S:jN ((w.alloc (.cells #[mtp g] 109)).alloc (.cells #[.int .u64 (x.h:Nat),.int .i64 x.v,.int .i64 x.p] 117)) w.1.size 109 #[mtp g]:=jN.alloc (jN.new _ _ _) _
 have T:vL ((w.alloc (.cells #[mtp g] 109)).alloc (.cells #[.int .u64 (x.h:Nat),.int .i64 x.v,.int .i64 x.p] 117)) (w.1.size+1) x.h x.v x.p:=by
  have:=jN.new (w.alloc (.cells #[mtp g] 109)) 117 #[.int .u64 (x.h:Nat),.int .i64 x.v,.int .i64 x.p];rw[show(w.alloc (.cells #[mtp g] 109)).1.size=w.1.size+1 by simp]at this;exact this
 obtain⟨B,hB⟩:∃B,w.1.size=B:=⟨_,rfl⟩
 rw[hB]at S T;obtain⟨d,ap⟩:∃d,(w.alloc (.cells #[mtp g] 109)).alloc (.cells #[.int .u64 (x.h:Nat),.int .i64 x.v,.int .i64 x.p] 117)=d:=⟨_,rfl⟩
 rw[ap]at S T J;have ad:Below w.1.size w d:=J.below (qK _) (fun x j=>by cases j);have Y:kB d (.slice A l.length c) l:=aj.below ad (qK _);have q:∀ {p:Addr} {u:Value},w.cell? p=some u->d.cell? p=some u:=fun {p u} k=>(ad.cell (p:=p) (World.block_lt_of_cell? w _ k)).trans k
 have d0:=q c0;have H:=q c1;have X:=S.cell 0;obtain⟨x0,x1,x2,-,-,-⟩:=T.facts;have hK:=Z1 l x;obtain⟨n,M⟩:∃n,n=l.length:=⟨_,rfl⟩
 obtain⟨K,I⟩:∃K,K=vP l x:=⟨_,rfl⟩
 have HF:=qQ Y.form;have U:=qQ Y;rw[<-M]at c1 H Y hn hK U;rw[<-I]at hK;have an:Enters prog 206:=Rh;have au:∀(fn:Fn) (first ah:Array Value) (w:World),(Instr.makeFunc fn first ah).run prog w=.ok (.func fn first ah) w:=fun _ _ _ _=>rfl
 have ab:Hid (Calls prog 205 #[.int .i64 (n:Nat),.func (.func 206) #[] #[mtp B,mtp (B+1)]] d (Kc K d)):=qQ (by
  refine Fv _ _ _ n K d (by omega) hK an (fun i W hi L=>?_);obtain⟨y,m⟩:∃y,l[i]? = some y:=⟨_,qE (by rw[<-M];exact hi)⟩
  obtain⟨b,off,rfl,-,-,s,z,C⟩:=QA U.out m;have hA:nB d B (B+1) g b (off+i*3) (.slice (some ⟨b,off,none⟩) n c) x y:=⟨X,H,x0,x1,x2,s,z,C⟩
  have:=Rl B (B+1) g b off n c i x y W hi (by omega) (hA.below L);rw[RG Z m,<-I]at this;exact this)
 have ae:=qQ (JG d0)
 have af:Hid (∀W,Below d.1.size d W->x ∉ l->Calls prog 207 #[mtp g,.int .i64 (K:Nat),ki x] W (cY base g F W (.tuple #[]) (vp l x))):=qQ fun W L ao=>by
  have hA:vE W base g F l:=(HT.out.xC J (fun _ _=>by simp)).below L;have:=Rf hA j (by rw[<-M];exact hn) ao;rw[<-I]at this;exact this
 have ac:Hid (∀W,Below d.1.size d W->W.cell? ⟨B,0,none⟩=some (mtp g)/\W.cell? ⟨g,1,none⟩=some (.slice A n c)/\W.cell? ⟨B+1,0,none⟩=some (.int .u64 (x.h:Nat))/\W.cell? ⟨B+1,1,none⟩=some (.int .i64 x.v)/\W.cell? ⟨B+1,2,none⟩=some (.int .i64 x.p)):=qQ fun W L=>by
  have q:∀ {p:Addr} {u:Value},d.cell? p=some u->W.cell? p=some u:=fun {p u} k=>(L.cell (p:=p) (World.block_lt_of_cell? d _ k)).trans k
  exact⟨q X,q H,q x0,q x1,q x2⟩
 have aa:=qQ (show l[K]? = some x↔x∈l by rw[I];exact RV Z);have am:=qQ (show x∈l->vp l x=l from RY Z);have V:Hid (jP [] w d):=qQ J;have HX:=qQ j;have ag:=qQ M;clear h Z aj J S T ad Y c0 c1 q j al M I;by_cases ak:K<n
 ·obtain⟨y,m⟩:∃y,l[K]? = some y:=⟨_,qE (by rw[<-ag.out];exact ak)⟩
  obtain⟨b,off,rfl,-,o,s,z,C⟩:=QA U.out m;have ai:=fun W=>UI y x W
  have t1:(K:Int)<(n:Int):=by omega
  by_cases r:y=x
  ·have f:x∈l:=(by rw[r]at m;exact aa.out.1 m);rw[qB r]at ai;rw[qB f,am.out f];have ar:=qQ r;have aq:=qQ o;clear f r m;go_enter func150,ntmps150;go_wp2_with fail;refine X5 ae.out ?_;go_wp2_with fail;refine ab.out.mono ?_;rintro e N⟨rfl,a⟩;obtain⟨z0,z1,O,P,Q⟩:=ac.out N a;have u0:=(a.cell (p:=⟨b,off+K*3,none⟩) o).trans s;have u1:=(a.cell (p:=⟨b,off+K*3+1,none⟩) o).trans z;have u2:=(a.cell (p:=⟨b,off+K*3+2,none⟩) o).trans C;clear s z C d0 H X x0 x1 x2;obtain⟨xh,xv,xp⟩:=x;obtain⟨yh,yv,yp⟩:=y;simp only at u0 u1 u2 O P Q;go_wp2;go_quiet (fail);go_wp2;go_ret;exact cY.same (((HT.out.xC V.out (fun _ _=>by simp)).below a).drewN _) ((V.out.trans (jP.xA a) (fun x j=>by cases j)).drewN _)
  ·have f:x ∉ l:=fun k=>r (by have:=aa.out.2 k;rw[m]at this;exact qb this)
   rw[qA r]at ai;rw[qA f];have HM:=qQ f;clear f r m;go_enter func150,ntmps150;go_wp2_with fail;refine X5 ae.out ?_;go_wp2_with fail;refine ab.out.mono ?_;rintro e N⟨rfl,a⟩;obtain⟨z0,z1,O,P,Q⟩:=ac.out N a;have u0:=(a.cell (p:=⟨b,off+K*3,none⟩) o).trans s;have u1:=(a.cell (p:=⟨b,off+K*3+1,none⟩) o).trans z;have u2:=(a.cell (p:=⟨b,off+K*3+2,none⟩) o).trans C;clear s z C d0 H X x0 x1 x2;generalize vp l x=R at*;obtain⟨xh,xv,xp⟩:=x;obtain⟨yh,yv,yp⟩:=y;simp only at u0 u1 u2 O P Q;go_wp2;go_quiet (fail);go_wp2_with fail;refine(af.out _ (uu a _) HM.out).mono ?_;rintro e w4⟨F',rfl,g2,g3,g4⟩;go_wp2;go_ret;exact cY.since ⟨F',rfl,g2,g3,g4⟩ ((V.out.trans (jP.xA a) (fun x j=>by cases j)).drewN _)
 ·have f:x ∉ l:=fun k=>by
   have h2:=aa.out.2 k;rw[xX (by rw[<-ag.out];omega)]at h2;cases h2
  rw[qA f];have HM:=qQ f;have t1:¬(K:Int)<(n:Int):=by omega
  have t2:decide (K<n)=false:=qA ak;clear f HF U;generalize vp l x=R at*;go_enter func150,ntmps150;go_wp2_with fail;refine X5 ae.out ?_;go_wp2_with fail;refine ab.out.mono ?_;rintro e N⟨rfl,a⟩;obtain⟨z0,z1,O,P,Q⟩:=ac.out N a;obtain⟨xh,xv,xp⟩:=x;simp only at O P Q;go_wp2;go_quiet (fail);go_wp2_with fail;refine(af.out _ (uu a _) HM.out).mono ?_;rintro e w4⟨F',rfl,g2,g3,g4⟩;go_wp2;go_ret;exact cY.since ⟨F',rfl,g2,g3,g4⟩ ((V.out.trans (jP.xA a) (fun x j=>by cases j)).drewN _)
end
section
open Go.RowKit
section
variable {At:j6}(api:j8 At)(nap:kZ){w0 w:World}{gt gd:Nat}{D:jL}{E G:List Nat}{n:Int}{l:List jI}{t:Tw}
include api nap
omit nap in
theorem Se{w1 w':World}{g:Nat}{D':jL}(k:∀b∈E,b<g)(m:w0.1.size<=g)(h:DS At w0 gd D' (g::E) w1)(o:jM E w w1)(d:Below w1.1.size w1 w')(a b c:Value)(v:Value):
  yf At w0 gd v D' E w (.returned v) (((w'.setCell ⟨g,0,none⟩ a).setCell ⟨g,1,none⟩ b).setCell ⟨g,2,none⟩ c):=by
 have i:=h.below api d;have j:=i.zE api (Zr (g:=g) w' a b c) (fun x f=>by rw[qH.1 f];exact⟨qC,m⟩);refine⟨rfl,j.less (fun b d=>qF _ d),(o.trans (jM.xA d (fun b d=>h.lt b (qF _ d)))).trans (jM.xP (Zr (g:=g) w' a b c) fun x f=>⟨i.lt x (qF _ f),fun p=>?_⟩)⟩;have:=k x f;rw[qH.1 p]at this;exact Nat.lt_irrefl _ this
theorem Si(h:DS At w0 gd D E w)(hp:yS w gt gd n l t G)(hG:∀b∈G,b∈E)(ok:WfP D)(hc:D.count<=1099511627776)(wn:(Lit.int .i64 n).wf=true)(hd:D.down=false)(O:vo D n l)(hk:bu t l=true)(hl:l.length<=40000)
  (x:Nat) (hx:x<18446744073709551616) (b:Int) (wb:(Lit.int .i64 b).wf=true):
  Calls prog 139 #[ptr gt,.int .u64 (x:Nat),.int .i64 b] w fun e w'=>∃k,k<=1/\(dT l t x=false->k=0)/\yf At w0 gd (.tuple #[ki (yZ l x (min b 1073741824)),.bool (yB l x (min b 1073741824)),.int .i64 0]) { D with count:=D.count+k } E w e w':=by
 obtain⟨R,hm,af⟩:=O.props;have Z:=bounds_i64 wb;obtain⟨f,ad⟩:∃f,min b 1073741824=f:=⟨_,rfl⟩
 have i1:(if (1073741824:Int)<b then 1073741824 else b)=f:=by rw[<-ad];split<;>omega
 have i2:IntKind.i64.wrap (f+1)=f+1:=qz _ ⟨by omega,by omega⟩;rw[ad];have aa:=(qG w.1.size w).alloc (qK _) (.cells #[.int .u64 ((0:Nat):Int),.int .i64 0,.int .i64 0] 117);have F:vL (w.alloc (.cells #[.int .u64 ((0:Nat):Int),.int .i64 0,.int .i64 0] 117)) w.1.size 0 0 0:=jN.new _ _ _
 have z:DS At w0 gd D (w.1.size::E) (w.alloc (.cells #[.int .u64 ((0:Nat):Int),.int .i64 0,.int .i64 0] 117)):=h.more api aa (B:=[w.1.size]) (fun b m=>by
  rw[qH.1 m];exact⟨qK _,F.lt⟩)
 have C:=hp.below aa;have K:=jM.xA aa h.lt;have L:=h.lt;have P:=h.kept.size;have ab:∀b∈G,b∈w.1.size::E:=fun b m=>qF _ (hG b m)
 obtain⟨g,an⟩:∃g,w.1.size=g:=⟨_,rfl⟩
 rw[an]at z F L P ab;obtain⟨i,ag⟩:∃i,w.alloc (.cells #[.int .u64 ((0:Nat):Int),.int .i64 0,.int .i64 0] 117)=i:=⟨_,rfl⟩
 rw[ag]at z F C K;have ap:w.alloc (.cells #[.int .u64 0,.int .i64 0,.int .i64 0] 117)=i:=ag;clear ag aa h hp hG;have X:=qQ (qU F (qU K (qU L (qU P z))));have hR:=qQ (Za api nap z C ok wn);rw[O.ready hd]at hR;have M:=qQ fun W (j:Below i.1.size i W)=>Uv (C.below j) x hx
 have H:Hid (∀(k:Nat) (y:jI) (q:Bool) (o w':World) (a b c:Value),k<=1->(dT l t x=false->k=0)->yZ l x f=y->yB l x f=q->DS At w0 gd { D with count:=D.count+k } (g::E) o->jM (g::E) i o->Below o.1.size o w' ->
   ∃k,k<=1/\(dT l t x=false->k=0)/\yf At w0 gd (.tuple #[ki (yZ l x f),.bool (yB l x f),.int .i64 0]) { D with count:=D.count+k } E w (.returned (.tuple #[ki y,.bool q,.int .i64 0])) (((w'.setCell ⟨g,0,none⟩ a).setCell ⟨g,1,none⟩ b).setCell ⟨g,2,none⟩ c)):=qQ fun k y q o w' a b c T U p r d1 q1 Z=>by
  rw[p,r];exact⟨k,T,U,Se api L P d1 (K.trans (q1.less (fun b m=>qF _ m))) Z a b c _⟩
 cases Q:dT l t x with
 | false =>
   rw[Q]at M H;have he:=(UD hk Q 0 f).2;have p:yZ l x f=⟨0,0,0⟩:=(by unfold yZ;rw[he];rfl);have r:yB l x f=false:=(by unfold yB;rw[he];rfl);have V:=qQ (fun w' (m:Below i.1.size i w')=>H.out 0 ⟨0,0,0⟩ false i w' (.int .u64 ((0:Nat):Int)) (.int .i64 0) (.int .i64 0) (by omega) (fun _=>rfl) p r X.out.2.2.2.2 (jM.refl _ _) m);rw[p,r]at V ⊢;clear H;clear z C ok hc wn hd O hk hl hx wb R hm af Z ad i2 he Q p r K L P ab F;go_enter func139,ntmps139;go_wp2_with fail;refine hR.out.mono ?_;rintro e o⟨rfl,s⟩;go_wp2_with fail;refine KG (M.out _ s) fun w2 I=>?_;have u:=bj s I;obtain⟨k0,T,U,f0,f1,f2⟩:=vL.facts (show vL w2 g 0 0 0 from jN.below X.out.1 u);have ak:=qQ u;clear s I u;go_wp2;exact bodyPost_ret (v:=.tuple #[ki ⟨0,0,0⟩,.bool false,.int .i64 0]) (by simp[results,Tryz.results139,go_sem,k0,T,U]) rfl (V.out _ ak.out)
 | true =>
   rw[Q]at M H;obtain⟨lo,hi,N⟩:=Zp R (by omega) ⟨x,f+1,0⟩;have a1:=N.zn;have a2:=N.zz;rw[Zy hm,UB]at a1 a2;have a4:=N.top;have hA:=qQ fun W (j:Below i.1.size i W)=>Ze (C.below j) (by omega) x (f+1) N
   have ae:=qQ fun W (j:Below i.1.size i W)=>JQ api nap (z.below api j) (C.below j) ab ok hc wn hd O (lo-1) hi (by omega) a4 hl
   have j:=PC (lo:=lo) (hi:=hi) R (by omega) a1 a2 a4;have ao:((l.drop (lo-1)).take (hi-(lo-1))).length=hi-(lo-1):=(by rw[qT,qw];omega);have ac:=qQ fun(v:Value) W (hv:kB W v ((l.drop (lo-1)).take (hi-(lo-1))))=>Ui v _ x f W hv (by omega) (fun y hy=>af y (UA hy)) (Zv R _ _)
   have p:yZ ((l.drop (lo-1)).take (hi-(lo-1))) x f=yZ l x f:=(by unfold yZ;rw[j]);have r:yB ((l.drop (lo-1)).take (hi-(lo-1))) x f=yB l x f:=(by unfold yB;rw[j]);rw[p,r]at ac;obtain⟨d,am⟩:∃d:Int,(lo:Int)-1=d:=⟨_,rfl⟩
   obtain⟨J,aj⟩:∃J:Nat,lo-1=J:=⟨_,rfl⟩
   have j1:IntKind.i64.wrap ((lo:Int)-1)=d:=(by rw[qz _ ⟨by omega,by omega⟩];omega);have j2:(if (0:Int)>d then 0 else d)=(J:Int):=(by split<;>omega);have j3:(if d<(0:Int) then 0 else d)=(J:Int):=(by split<;>omega);rw[aj]at ae ac;have V:=qQ (fun o w' a b c=>H.out 1 (yZ l x f) (yB l x f) o w' a b c (by omega) (fun e=>by cases e) rfl rfl);generalize (l.drop J).take (hi-J)=S at*;clear H z C ok hc wn hd O hk hl hx wb R hm af Z ad Q N a1 a2 a4 j ao p r am aj K L P ab F;generalize yZ l x f=y at*;generalize yB l x f=q at*;obtain⟨yh,yv,yp⟩:=y;go_enter func139,ntmps139;go_wp2_with fail;refine hR.out.mono ?_;rintro e o⟨rfl,s⟩;go_wp2_with fail;refine KG (M.out _ s) fun w2 ah=>?_;have I:=bj s ah;clear ah s hR M;go_wp2_with fail;refine KG (hA.out _ I) fun w3 ai=>?_;have u:=bj I ai;clear ai I hA;go_wp2_with fail;refine(ae.out _ u).mono ?_;rintro e w4⟨A,c,rfl,r1,r2,r3⟩;have K4:=(jM.xA u X.out.2.2.2.2.lt).trans r3;have D4:=r2.less (E':=g::E) (fun b m=>qJ _ m);have H4:=qQ (qU D4 K4);have HL:=qQ (ac.out _ _ r1.xH);clear r1 r2 r3 u ae ac K4 D4;go_wp2_with fail;refine KG HL.out fun w5 Y=>?_;have B6:=Y.alloc Y.size (.cells #[.int .u64 (yh:Nat),yv,yp] 117);have E5:vL w5 g 0 0 0:=jN.below (H4.out.2.xW X.out.1 qC) Y;obtain⟨k0,T,U,f0,f1,f2⟩:=vL.facts (show vL _ g 0 0 0 from jN.alloc E5 (.cells #[.int .u64 (yh:Nat),yv,yp] 117));have al:=qQ B6;have HN:=qQ (show g≠w5.1.size from Nat.ne_of_lt E5.lt);clear Y B6 E5;go_wp2;exact bodyPost_ret (v:=.tuple #[ki ⟨yh,yv,yp⟩,.bool q,.int .i64 0]) (by simp[results,Tryz.results139,go_sem,k0,T,U]) rfl (V.out _ _ _ _ _ H4.out.1 H4.out.2 al.out)
end
end
section
open Go.RowKit Go.Shelf
def cS(L:List (List jI))(k:Nat)(d:Int):Prop:=(d<0/\-1<=d/\yn (L.take k)=none)∨∃(j:Nat) (x:jI) (t:List jI),d=(j:Nat)/\j<k/\L[j]? = some (x::t)/\yn (L.take k)=some x
theorem So(L:List (List jI)):cS L 0 (-1):=qX ⟨by omega,by omega,rfl⟩
theorem Sw{L:List (List jI)}{k:Nat}{d:Int}(h:L[k]? = some [])(g:cS L k d):cS L (k+1) d:=by
 unfold cS at*;rw[JX h];rcases g with⟨a,c,b⟩|⟨j,x,t,a,c,b,f⟩
 ·exact qX ⟨a,c,by rw[b];rfl⟩
 ·exact qY ⟨j,x,t,a,by omega,b,by rw[f];rfl⟩
theorem TQ{L:List (List jI)}{k:Nat}{d:Int}{x:jI}{t:List jI}(h:L[k]? = some (x::t))(f:cS L k d)(i:d<0):cS L (k+1) (k:Nat):=by
 unfold cS at*;rw[JX h];rcases f with⟨b,c,a⟩|⟨j,y,u,b,c,a,g⟩
 ·exact qY ⟨k,x,t,rfl,Nat.lt_succ_self _,h,by rw[a];rfl⟩
 ·omega
theorem TX{L:List (List jI)}{k j:Nat}{x y:jI}{t u:List jI}(h:L[k]? = some (x::t))(m:cS L k (j:Nat))(c:L[j]? = some (y::u)):cS L (k+1) (if jm x y=true then(k:Nat) else(j:Nat)):=by
 unfold cS at*;rw[JX h];rcases m with⟨d,f,a⟩|⟨i,z,v,d,f,a,g⟩
 ·omega
 ·obtain rfl:j=i:=by omega
  rw[c]at a;obtain⟨rfl,rfl⟩:=List.cons.inj (qb a);rw[g];split
  ·rename_i b;exact qY ⟨k,x,t,rfl,Nat.lt_succ_self _,h,qV b⟩
  ·rename_i b;exact qY ⟨j,y,u,rfl,by omega,c,qZ b⟩
def nD(T:List jI)(L:List (List jI))(k:Nat):Prop:=∀(i:Nat) (x:jI) (t:List jI),i<k->L[i]? = some (x::t)->T.getLast?≠some x
theorem TZ(T:List jI)(L:List (List jI)):nD T L 0:=fun i x t h=>absurd h (Nat.not_lt_zero _)
theorem TJ{T:List jI}{L:List (List jI)}{k:Nat}(h:L[k]? = some [])(b:nD T L k):nD T L (k+1):=fun i x t d a=>by
 rcases qd i k with c|c
 ·exact b i x t c a
 ·obtain rfl:i=k:=by omega
  rw[h]at a;cases a
theorem TK{T:List jI}{L:List (List jI)}{k:Nat}{x:jI}{t:List jI}(h:L[k]? = some (x::t))(d:T.getLast?≠some x)(b:nD T L k):nD T L (k+1):=fun i y u f a=>by
 rcases qd i k with c|c
 ·exact b i y u c a
 ·obtain rfl:i=k:=by omega
  rw[h]at a;obtain⟨rfl,rfl⟩:=List.cons.inj (qb a);exact d
theorem TV{T:List jI}{L:List (List jI)}(c:nD T L L.length):∀l∈L,∀x t,l=x::t->T.getLast?≠some x:=fun l b x t d=>by
 obtain⟨i,a⟩:=ql b;have:=(qO.1 a).1;subst d;exact c i x t this a
theorem TY{L:List (List jI)}{d:Int}(h:cS L L.length d):(d<0/\-1<=d/\yn L=none)∨∃(j:Nat) (x:jI) (t:List jI),d=(j:Nat)/\j<L.length/\L[j]? = some (x::t)/\yn L=some x:=by
 unfold cS at h;rw[List.take_length]at h;exact h
theorem JN{L:List ky}{k:Nat}{y:ky}(h:L[k]? = some y):(els L)[k]? = some y.l:=by unfold els;rw[qv,h];rfl
theorem nE(L:List ky):(els L).length=L.length:=qq _
theorem GR(L:List ky)(i:Nat)(x:ky):els (L.set i x)=(els L).set i x.l:=List.map_set
theorem dy.set{w:World}{L:List ky}(h:dy w L){i:Nat}{x:ky}(b:kB w x.v x.l):dy w (L.set i x):=fun y a=>by
 rcases List.mem_or_eq_of_mem_set a with a|rfl
 ·exact h y a
 ·exact b
def fL(w:World)(A1:Option Addr)(n c1:Nat)(R:List jI)(g:Nat)(u:Value)(wr:World):Prop:=∃(T:List jI) (a:List ky) (A:Option Addr) (c:Nat),u=.slice A T.length c /\
 ju wr w.1.size (.slice A T.length c) T/\kC wr w.1.size (.slice A1 n c1) a/\a.length=n/\dy w a/\mW g T (els a)/\dZ T (els a)=R/\Below w.1.size w wr
theorem fL.start{w w1:World}{A1:Option Addr}{c1:Nat}{L:List ky}(h:kC w1 w.1.size (.slice A1 L.length c1) L)(b:dy w L)(a:Below w.1.size w w1):fL w A1 L.length c1 (dz (els L)) (2*vX (els L)+1) (.slice none 0 0) w1 :=
 ⟨[],L,none,0,rfl,ju.nil _ _,h,rfl,b,RM _,rfl,a⟩
theorem fL.drop{w w2:World}{n c1 c2 g c k m b:Nat}{A2 B':Option Addr}{R T:List jI}{a:List ky}{x:jI}{t:List jI}
  (o:ju w2 w.1.size (.slice A2 T.length c2) T) (i:kC w2 w.1.size (.slice (some ⟨g,0,none⟩) n c1) a) (f:a.length=n) (q:dy w a) (u:mW c T (els a)) (r:dZ T (els a)=R) (p:Below w.1.size w w2)
  (z:m=T.length) (s:w.1.size<=g) (j:(els a)[k]? = some (x::t)) (y:T.getLast? = some x) (v:kB w (.slice B' t.length b) t):
  0<c/\fL w (some ⟨g,0,none⟩) n c1 R (c-1) (.slice A2 m c2) (w2.setCell ⟨g,k,none⟩ (.slice B' t.length b)):=by
 have d:=RN u j;subst z;refine⟨d.1,T,a.set k ⟨.slice B' t.length b,t⟩,A2,c2,rfl,ju.xx o i,kC.put i f.symm ⟨.slice B' t.length b,t⟩,by rw[List.length_set,f],q.set v, ?_, ?_,p.setCell s _⟩
 ·rw[GR];exact d.2
 ·rw[GR,RF y j];exact r
theorem fL.add{w w2:World}{n c1 c2 d m:Nat}{A1 A2:Option Addr}{R T:List jI}{a:List ky}{x:jI}
  (r:ju w2 w.1.size (.slice A2 T.length c2) T) (C:kC w2 w.1.size (.slice A1 n c1) a) (B:a.length=n) (s:dy w a) (z:mW d T (els a)) (y:dZ T (els a)=R) (b:Below w.1.size w w2)
  (I:m=T.length) (j:yn (els a)=some x) (k:∀l∈els a,∀x t,l=x::t->T.getLast?≠some x) (H:T.length+1<=1000000):
  0<d/\∃u w',(Builtin.append_ #[112,112] 112 #[.slice A2 m c2,.slice (some ⟨w2.1.size,0,none⟩) 1 1]).run prog (w2.alloc (.cells #[.int .u64 (x.h:Nat),.int .i64 x.v,.int .i64 x.p] 117))=.ok u w'/\fL w A1 n c1 R (d-1) u w':=by
 subst I;have i:=RO z j k;have F:kC (w2.alloc (.cells #[.int .u64 (x.h:Nat),.int .i64 x.v,.int .i64 x.p] 117)) w.1.size (.slice A1 n c1) a:=kC.alloc C _;have f:ju (w2.alloc (.cells #[.int .u64 (x.h:Nat),.int .i64 x.v,.int .i64 x.p] 117)) w.1.size (.slice A2 T.length c2) T:=ju.below r ((qG w2.1.size w2).alloc (qK _) _) (qK _);obtain⟨A,c,w',o,q,g,-⟩:=rS f (UN w2 x) (by simpa using H) (by have:=b.size;simp;omega) 112;refine⟨i.1,_,w',o,T++[x],a,A,c, ?_, ?_,kC.grown F f g,B,s,i.2,by rw[RH j k];exact y, ?_⟩
 ·rw[qL]
 ·rw[qL];exact q
 ·exact(b.alloc b.size _).trans (rq g (by have:=b.size;simp;omega) (ju.block f))
theorem GS(v:Value)(L:List ky)(w:World)(hL:QL w v L)(hn:L.length<=500000)(ht:vX (els L)<=500000):
  Calls prog 108 #[v] w (dX w (dz (els L))):=by
 have af:=qQ (Rt v L w hL hn);have ao:=qQ (fun w1 A1 c1 h1 h2=>fL.start (w:=w) (w1:=w1) (A1:=A1) (c1:=c1) (L:=L) h1 hL.2 h2);have aY:=qQ (qR (Um (els L)) ht);unfold JB at af;generalize dz (els L)=R at*;generalize 2*vX (els L)+1=G at*;obtain⟨n,aO⟩:∃n,n=L.length:=⟨_,rfl⟩
 rw[<-aO]at hn ao af;clear hL ht aO;go_enter func108,ntmps108;go_wp2_with fail;go_step3;go_wp2_with fail;refine af.out.mono ?_;rintro e w1⟨A1,c1,rfl,r1,b1⟩;have HS:=qQ (ao.out w1 A1 c1 r1 b1);clear ao af r1 b1;go_wp2;go_step3;go_wp2;go_loopg [4] G (fun g u wr=>fL w A1 n c1 R g u wr)
 case atStart=>exact HS.out
 case round =>
  obtain⟨wo,rfl⟩:∃wo,wo=wr:=⟨_,rfl⟩
  obtain⟨go,rfl⟩:∃go,go=gk:=⟨_,rfl⟩
  obtain⟨T,C,A2,c2,rfl,hT,aP,aL,aH,aJ,ar,aF⟩:=hrel;have HT:=qQ hT;have an:=qQ aP;have X:=qQ aH;have az:=qQ aJ;have al:=qQ ar;have ax:=qQ aF;have f:=qQ aL;have aC:=qQ (show T.length<=500000 by have:=RL T (els C);rw[ar]at this;have:=aY.out;omega);obtain⟨tl,aw⟩:∃tl,tl=T.length:=⟨_,rfl⟩
  have ag:=qQ aw;rw[<-aw];clear hT aP aH aJ ar aF aL aw;go_wp2;go_loopg [5,12] n (fun g2 s5 a4 wx=>∃(k:Nat) (d:Int),k+g2=n/\a4=.int .i64 k/\s5=.int .i64 d/\cS (els C) k d/\nD T (els C) k/\Below wo.1.size wo wx)
  case atStart=>exact⟨0,-1,by omega,rfl,rfl,So _,TZ _ _,qG _ _⟩
  case round =>
   obtain⟨k,d,a8,rfl,rfl,aM,aN,ab⟩:=hrel;have Y:=qQ aM;have am:=qQ aN;have ae:=qQ ab;have S:=qQ (kC.below an.out ab (qK _));have ah:=qQ (ju.below HT.out ab (qK _));have a:=qQ (show Below w.1.size w wr from ax.out.trans (ab.mono ax.out.size));clear aM aN ab;cases gk with
   | zero =>
     obtain rfl:k=n:=(by omega);have s1:¬(k:Int)<(k:Int):=(by omega);have a2:=TY (L:=els C) (d:=d) (by rw[nE,f.out];exact Y.out);have aX:=qQ (TV (T:=T) (L:=els C) (by rw[nE,f.out];exact am.out));rcases a2 with⟨m,q,ad⟩|⟨j,x,t,rfl,hj,hx,ad⟩
     ·have aS:=qQ (show dX w R (.returned (.slice A2 tl c2)) wr by
       rw[<-al.out,RI ad,ag.out];exact⟨A2,c2,rfl,ah.out,a.out⟩)
      clear ad;go_wp2
      (try rw[Exit.noGoto_ret])
      go_ret;exact aS.out
     ·obtain⟨a9,u,w3,e1,e2⟩:=fL.add ah.out S.out f.out X.out az.out al.out a.out ag.out ad aX.out (by have:=aC.out;omega);have ay:=qQ e1;have aR:=qQ e2;have aK:j<k:=(by rw[nE,f.out]at hj;exact hj);obtain⟨y,I⟩:∃y,C[j]? = some y:=⟨_,qE (by rw[f.out];exact aK)⟩
      obtain⟨g,rfl,ai,au,-⟩:=an.out.some_ (by rw[f.out];omega);obtain⟨F,-⟩:=kC.cell S.out f.out.symm I;have H:=X.out y (qN I);have Q:=JN I;rw[hx]at Q;obtain⟨yv,yl⟩:=y;obtain rfl:x::t=yl:=qb Q;simp only at F H;obtain⟨B,off,aD,rfl,ac,P⟩:=H.form;obtain⟨b,rfl,A,m,q,s⟩:=P 0 x rfl;simp only[Nat.zero_mul,Nat.add_zero]at m q s;have J:=(a.out.cell (p:=⟨b,off,none⟩) A).trans m;have K:=(a.out.cell (p:=⟨b,off+1,none⟩) A).trans q;have M:=(a.out.cell (p:=⟨b,off+2,none⟩) A).trans s;have s2:(j:Int)<(k:Int):=(by omega);have s3:(0:Int)<(((t.length:Nat):Int)+1):=(by omega);clear e1 e2 hj aK hx ad I Q H ac P m q s A;obtain⟨xh,xv,xp⟩:=x;simp only at J K M ay;simp only[List.length_cons]at F;go_wp2_with (first|(at_builtin;refine yC rfl _ _ rfl rfl rfl ay.out ?_)|fail);go_roundg (go-1)
      case measure=>omega
      case rel=>exact aR.out
   | succ gi =>
     have a1:k<n:=(by omega);have s1:(k:Int)<(n:Int):=(by omega);obtain⟨y,I⟩:∃y,C[k]? = some y:=⟨_,qE (by rw[f.out];exact a1)⟩
     obtain⟨g,rfl,ai,au,-⟩:=an.out.some_ (by rw[f.out];omega);obtain⟨F,fy⟩:=kC.cell S.out f.out.symm I;have N:=qQ (JN I);have H:=X.out y (qN I);have aV:=qQ I;clear I;obtain⟨yv,yl⟩:=y;simp only at F H N;have aT:=qQ H;obtain⟨B,off,aD,rfl,ac,P⟩:=H.form;cases yl with
     | nil =>
       simp only[List.length_nil]at F;clear P ac H;go_wp2;go_roundg gi
       case measure=>omega
       case rel=>exact⟨k+1,d,by omega,by go_num,rfl,Sw N.out Y.out,TJ N.out am.out,ae.out⟩
     | cons x t =>
       simp only[List.length_cons]at F;obtain⟨b,rfl,A,m,q,s⟩:=P 0 x rfl;simp only[Nat.zero_mul,Nat.add_zero]at m q s;have J:=(a.out.cell (p:=⟨b,off,none⟩) A).trans m;have K:=(a.out.cell (p:=⟨b,off+1,none⟩) A).trans q;have M:=(a.out.cell (p:=⟨b,off+2,none⟩) A).trans s;have s3:(0:Int)<(((t.length:Nat):Int)+1):=(by omega);have s4:(((t.length:Nat):Int)+1==0)=false:=qg.2 (by omega);have V:=Ri (.slice A2 tl c2) T x wr (by rw[ag.out];exact ju.xH ah.out) (by have:=aC.out;omega);have ap:b<wr.1.size:=qS A a.out.size;have aI:g<wr.1.size:=qS au ae.out.size;by_cases U:T.getLast? = some x
       ·rw[qB U]at V;have Z:=qQ V;obtain⟨B',c',hs,hp⟩:=UR (k:=1) aT.out (by simp);have a_:∀W,(Instr.slice 112 (.slice (some ⟨b,off,none⟩) (t.length+1) aD) (some (.int .i64 1)) none none).run prog W=.ok (.slice B' t.length c') W:=fun W=>hs W
        have HP:=qQ (show kB w (.slice B' t.length c') t from hp w.1.size w (qK _) (qG _ _));have aQ:=qQ (fun w2 h1 h2 h3=>fL.drop (w:=w) (w2:=w2) (c1:=c1) (c2:=c2) (A2:=A2) h1 h2 f.out X.out az.out al.out h3 ag.out ai N.out U HP.out);have HG:=qQ ai;clear U hs hp m q s P ac H V ai au A;obtain⟨xh,xv,xp⟩:=x;simp only at J K M;go_wp2_with fail;refine KG Z.out fun w2 r=>?_;have a6:=(r.cell (p:=⟨g,k,none⟩) aI).trans F;have a7:=(kC.cell (kC.below S.out r (qK _)) f.out.symm aV.out).2;have HD:=qQ (aQ.out w2 (ju.below ah.out r (qK _)) (kC.below S.out r (qK _)) (a.out.trans (r.mono a.out.size)));clear J K M F fy r;go_wp2;go_roundg (go-1)
        case measure=>have:=HD.out.1;omega
        case rel=>exact HD.out.2
       ·rw[qA U]at V;have Z:=qQ V;have aB:=qQ (TK N.out U am.out);clear U V H ac P m q s;by_cases hd:d<0
        ·have aW:=qQ (TQ N.out Y.out hd);obtain⟨xh,xv,xp⟩:=x;simp only at J K M;go_wp2_with fail;refine KG Z.out fun w2 r=>?_;have ak:=qQ (bj ae.out r);clear J K M F fy r;go_wp2_with fail;go_quiet (fail);go_wp2;go_roundg gi
         case measure=>omega
         case rel=>exact⟨k+1,(k:Nat),by omega,by go_num,rfl,aW.out,aB.out,uu ak.out _⟩
        ·obtain⟨j,z,u,rfl,hj,hz,-⟩:∃(j:Nat) (z:jI) (u:List jI),d=(j:Nat)/\j<k/\(els C)[j]? = some (z::u)/\yn ((els C).take k)=some z:=by
          rcases Y.out with⟨h,_⟩|h
          ·exact absurd h hd
          ·exact h
         have aA:=qQ (TX N.out Y.out hz);obtain⟨y2,aj⟩:∃y,C[j]? = some y:=⟨_,qE (by rw[f.out];omega)⟩
         obtain⟨gy,-⟩:=kC.cell S.out f.out.symm aj;have av:=X.out y2 (qN aj);have Q:=JN aj;rw[hz]at Q;obtain⟨ba,a5⟩:=y2;obtain rfl:z::u=a5:=qb Q;simp only at gy av;obtain⟨B2,i,aE,rfl,a3,aG⟩:=av.form;obtain⟨c,rfl,aa,m,q,s⟩:=aG 0 z rfl;simp only[Nat.zero_mul,Nat.add_zero]at m q s;simp only[List.length_cons]at gy;have g0:=(a.out.cell (p:=⟨c,i,none⟩) aa).trans m;have g1:=(a.out.cell (p:=⟨c,i+1,none⟩) aa).trans q;have g2:=(a.out.cell (p:=⟨c,i+2,none⟩) aa).trans s;have aq:c<wr.1.size:=qS aa a.out.size;have s5:(0:Int)<(((u.length:Nat):Int)+1):=(by omega);have s6:(j:Int)<(n:Int):=(by omega);have s7:decide ((j:Int)<0)=false:=qA (by omega);have HL:=fun W=>oT x z W
         clear m q s hj hz aj Q av a3 aG aa hd A;cases o:jm x z
         all_goals
          rw[o]at HL aA;have aU:=qQ HL;clear HL o;obtain⟨xh,xv,xp⟩:=x;obtain⟨zh,zv,zp⟩:=z;simp only at J K M g0 g1 g2;go_wp2_with fail;refine KG Z.out fun w2 r=>?_;have ak:=qQ (bj ae.out r)
          have HS:Hid (∀W,Below w2.1.size w2 W->Below w2.1.size w2 W/\W.cell? ⟨g,j,none⟩=some (.slice (some ⟨c,i,none⟩) (u.length+1) aE)/\W.cell? ⟨b,off,none⟩=some (.int .u64 (xh:Nat))/\W.cell? ⟨b,off+1,none⟩=some (.int .i64 xv)/\W.cell? ⟨b,off+2,none⟩=some (.int .i64 xp) /\
           W.cell? ⟨c,i,none⟩=some (.int .u64 (zh:Nat))/\W.cell? ⟨c,i+1,none⟩=some (.int .i64 zv)/\W.cell? ⟨c,i+2,none⟩=some (.int .i64 zp)):=qQ fun W hW=>by
           have O:=bj r hW;exact⟨hW,(O.cell (p:=⟨g,j,none⟩) aI).trans gy,(O.cell (p:=⟨b,off,none⟩) ap).trans J,(O.cell (p:=⟨b,off+1,none⟩) ap).trans K,(O.cell (p:=⟨b,off+2,none⟩) ap).trans M,(O.cell (p:=⟨c,i,none⟩) aq).trans g0,(O.cell (p:=⟨c,i+1,none⟩) aq).trans g1,(O.cell (p:=⟨c,i+2,none⟩) aq).trans g2⟩
          obtain⟨-,t0,t1,t2,t3,t4,t5,t6⟩:=HS.out w2 (qG _ _);clear J K M g0 g1 g2 F fy r gy Z;go_wp2_with fail
          go_region_held3 (fun W=>Below w2.1.size w2 W/\W.cell? ⟨g,j,none⟩=some (.slice (some ⟨c,i,none⟩) (u.length+1) aE)/\W.cell? ⟨b,off,none⟩=some (.int .u64 (xh:Nat))/\W.cell? ⟨b,off+1,none⟩=some (.int .i64 xv)/\W.cell? ⟨b,off+2,none⟩=some (.int .i64 xp) /\
           W.cell? ⟨c,i,none⟩=some (.int .u64 (zh:Nat))/\W.cell? ⟨c,i+1,none⟩=some (.int .i64 zv)/\W.cell? ⟨c,i+2,none⟩=some (.int .i64 zp))
           (first|(with_reducible assumption)|((with_reducible refine HS.out _ ?_);(first|(with_reducible assumption)|(with_reducible exact qG _ _)|(with_reducible exact(qG _ _).drew)|exact(bj (And.left (by with_reducible assumption)) ‹Below _ _ _›));done)|fail)
           (first
           | (go_at_call 172;((with_reducible refine KG (aU.out _) fun w3 a0=>?_);have aZ:Below w2.1.size w2 w3:=bj (And.left (by with_reducible assumption)) a0))
           | fail)
          all_goals
           go_wp2;go_roundg gi
           case measure=>omega
           case rel=>exact⟨k+1,_,by omega,by go_num,rfl,aA.out,aB.out,bj ak.out aZ⟩
end
section
open Go.RowKit
def bW(x:jd):Int:=chk x.t x.d
def mB(x:jd):Tw:=evB x.t x.d x.b
def uk: List jd->Int
 | []=>0
 | x::l=>if bW x=0 then uk l else bW x
def kT(s:Tw)(f:Int)(l:List jd):Int :=
 if s.size=0∨l.length=0 then 2 else if 32<s.size∨8<l.length then 3 else if f<0∨1073741824-(l.length:Int)<f then 2 else uk l
theorem GT: ∀ {l:List jd},uk l=0↔∀x∈l,bW x=0
 | []=>by simp[uk]
 | x::l=>by
   unfold uk;by_cases h:bW x=0
   ·rw[qV h,GT];simp[h]
   ·rw[qZ h];simp[h]
theorem JO: ∀ {l:List jd} {k:Nat},(∀i x,i<k->l[i]? = some x->bW x=0)->uk l=uk (l.drop k)
 | [],k,h=>by simp
 | x::l,0,h=>rfl
 | x::l,k+1,h=>by
   rw[List.drop_succ_cons,<-JO (l:=l) (k:=k) (fun i y hi hy=>h (i+1) y (by omega) (by simpa using hy))];unfold uk;rw[qV (h 0 x (by omega) rfl)];cases l<;>rfl
theorem TU{l:List jd}{k:Nat}{x:jd}(h:∀i x,i<k->l[i]? = some x->bW x=0)(c:l[k]? = some x)(a:¬bW x=0):uk l=bW x:=by
 obtain⟨b,e⟩:=qO.1 c;rw[JO h,xZ b,e,uk,qZ a]
theorem TG{l:List jd}{k:Nat}(h:∀i x,i<k->l[i]? = some x->bW x=0)(a:l.length<=k):uk l=0:=by
 rw[JO h,List.drop_eq_nil_of_le a];rfl
theorem G3: ∀l:List jd,uk l=0∨uk l=2∨uk l=3
 | []=>qX rfl
 | x::l=>by
   unfold uk;by_cases h:bW x=0
   ·rw[qV h];exact G3 l
   ·rw[qZ h];rcases JH x.t x.d with h'|h'
    ·exact absurd h' h
    ·exact qY h'
theorem JP{s:Tw}{f:Int}{l:List jd}(h:s.size=0∨l.length=0):kT s f l=2:=by unfold kT;rw[qV h]
theorem JR{s:Tw}{f:Int}{l:List jd}(h:¬(s.size=0∨l.length=0))(a:32<s.size∨8<l.length):kT s f l=3:=by unfold kT;rw[qZ h,qV a]
theorem JS{s:Tw}{f:Int}{l:List jd}(h:¬(s.size=0∨l.length=0))(a:¬(32<s.size∨8<l.length))(b:f<0∨1073741824-(l.length:Int)<f):kT s f l=2:=by unfold kT;rw[qZ h,qZ a,qV b]
theorem JT{s:Tw}{f:Int}{l:List jd}(h:¬(s.size=0∨l.length=0))(a:¬(32<s.size∨8<l.length))(b:¬(f<0∨1073741824-(l.length:Int)<f)):kT s f l=uk l:=by unfold kT;rw[qZ h,qZ a,qZ b]
theorem bc{s:Tw}{f:Int}{l:List jd}:kT s f l=0↔(1<=s.size/\s.size<=32/\1<=l.length/\l.length<=8/\0<=f/\f<=1073741824-(l.length:Int)/\∀x∈l,bW x=0):=by
 by_cases h:s.size=0∨l.length=0
 ·rw[JP h];omega
 ·by_cases a:32<s.size∨8<l.length
  ·rw[JR h a];omega
  ·by_cases c:f<0∨1073741824-(l.length:Int)<f
   ·rw[JS h a c];omega
   ·rw[JT h a c,GT];constructor
    ·intro b;exact⟨by omega,by omega,by omega,by omega,by omega,by omega,b⟩
    ·rintro ⟨_,_,_,_,_,_,b⟩;exact b
theorem TW(s:Tw)(f:Int)(l:List jd):kT s f l=0∨kT s f l=2∨kT s f l=3:=by
 by_cases h:s.size=0∨l.length=0
 ·rw[JP h];omega
 ·by_cases a:32<s.size∨8<l.length
  ·rw[JR h a];omega
  ·by_cases b:f<0∨1073741824-(l.length:Int)<f
   ·rw[JS h a b];omega
   ·rw[JT h a b];exact G3 l
def vR: List jd->Tw
 | []=>ByteArray.empty
 | x::l=>mB x++vR l
theorem G4: ∀(l:List jd) (x:jd),vR (l++[x])=vR l++mB x
 | [],x=>by simp[vR]
 | y::l,x=>by rw[List.cons_append,vR,vR,G4 l x,ByteArray.append_assoc]
theorem G5{l:List jd}(h:∀x∈l,bW x=0):(vR l).size<=l.length*228:=by
 induction l with
 | nil=>simp[vR]
 | cons x l b =>
   have c:=b (fun y a=>h y (qF _ a));have d:=rh.1 (h x (qC ..));rw[vR,qy,mB,GD,qu];omega
def mC(s:Tw)(f n:Nat):Tw:=bs (be 2 s.size)++s++bs (be 8 f)++bs (be 1 n)
theorem G6(s:Tw)(f n:Nat):(mC s f n).size=s.size+11:=by
 unfold mC;simp only[ByteArray.size_append,kP,je];omega
def uv(s:Tw)(f:Nat)(l:List jd):Tw:=mC s f l.length++vR l
def J0(s:Tw)(f:Int)(l:List jd):Tw:=if kT s f l=0 then uv s f.toNat l else ByteArray.empty
theorem TA{s:Tw}{f:Int}{l:List jd}(h:kT s f l=0):1<=(uv s f.toNat l).size/\(uv s f.toNat l).size<=2000:=by
 obtain⟨b,c,d,g,i,j,a⟩:=bc.1 h;have:=G5 a;unfold uv;rw[qy,G6];omega
def uD: Nat->Tw->Option (List jd × Tw)
 | 0,s=>some ([],s)
 | n+1,s=>if ya s=true then(uD n (erR s)).map (fun p=>(⟨erT s,erD s,erW s⟩::p.1,p.2)) else none
structure nF(x:jd):Prop where
 c:bW x=0
 b:x.b<18446744073709551616
theorem QS: ∀ {n:Nat} {s:Tw} {l:List jd} {r:Tw},uD n s=some (l,r)->vR l++r=s/\l.length=n/\∀x∈l,nF x
 | 0,s,l,r,h=>by
   simp only[uD,Option.some.injEq,Prod.mk.injEq]at h;obtain⟨rfl,rfl⟩:=h;exact⟨by simp[vR],rfl,fun x a=>by cases a⟩
 | n+1,s,l,r,h=>by
   unfold uD at h;by_cases b:ya s=true
   ·rw[qV b]at h;cases c:uD n (erR s) with
    | none=>rw[c]at h;cases h
    | some p =>
      obtain⟨k,m⟩:=p;rw[c]at h;simp only[Option.map_some,Option.some.injEq,Prod.mk.injEq]at h;obtain⟨rfl,rfl⟩:=h;obtain⟨d,f,g⟩:=QS c;obtain⟨i,j⟩:=Sd b;refine⟨?_,by rw[qu,f],fun x a=>?_⟩
      ·rw[vR,ByteArray.append_assoc,d];exact j
      ·rcases qM.1 a with rfl|a
       ·exact⟨i,Sy s⟩
       ·exact g x a
   ·rw[qZ b]at h;cases h
theorem G7: ∀ {l:List jd} {r:Tw},(∀x∈l,nF x)->uD l.length (vR l++r)=some (l,r)
 | [],r,_=>by simp[uD,vR]
 | x::l,r,h=>by
   have hx:=h x (qC ..);obtain⟨f,g,i,j,k⟩:=Sc x.t x.d x.b (vR l++r) hx.c hx.b;rw[qu,uD,vR,ByteArray.append_assoc];unfold mB;rw[qV f,g,i,j,k,G7 (fun y a=>h y (qF _ a))];rfl
theorem TB{n:Nat}{s:Tw}(h:ya s=true):uD (n+1) s=(uD n (erR s)).map (fun p=>(⟨erT s,erD s,erW s⟩::p.1,p.2)):=by rw[uD,qV h]
theorem TC{n:Nat}{s:Tw}(h:ya s=false):uD (n+1) s=none:=by rw[uD,qZ (by rw[h];decide)]
def bgM(s:Tw):Nat:=if h:8<(rdB s).size then((rdB s)[8]).toNat else 0
theorem G8(s:Tw):bgM s<256:=by
 unfold bgM;split
 ·exact UInt8.toNat_lt _
 ·omega
def rr(s:Tw):Tw:=(rdB s).extract 9 (rdB s).size
def bd(s:Tw):Bool:=vw s&&decide (9<=(rdB s).size)&&decide (jz (rdB s)<=1073741824)
def dV(s:Tw):Option (List jd × Tw):=uD (bgM s) (rr s)
def vZ(s:Tw):Bool:=bd s&&match dV s with
 | none=>false
 | some (l,r)=>decide (r.size=0)&&decide (kT (rdA s) (jz (rdB s):Nat) l=0)
def bgS(s:Tw):Tw:=if vZ s=true then rdA s else ByteArray.empty
def bgF(s:Tw):Int:=if vZ s=true then(jz (rdB s):Nat) else 0
def bgL(s:Tw):List jd:=if vZ s=true then((dV s).map (·.1)).getD [] else []
def bgE(s:Tw):Int:=if vZ s=true then 0 else 10
theorem TD{s:Tw}(h:vZ s=false):bgS s=ByteArray.empty/\bgF s=0/\bgL s=[]/\bgE s=10:=by simp[bgS,bgF,bgL,bgE,h]
theorem dY{s:Tw}(h:vZ s=true):bd s=true/\bgS s=rdA s/\bgF s=(jz (rdB s):Nat)/\bgE s=0/\dV s=some (bgL s,ByteArray.empty)/\kT (bgS s) (bgF s) (bgL s)=0:=by
 have i:bgS s=rdA s/\bgF s=(jz (rdB s):Nat)/\bgE s=0/\bgL s=((dV s).map (·.1)).getD []:=by simp[bgS,bgF,bgE,bgL,h]
 obtain⟨a,b,d,f⟩:=i;unfold vZ at h;rw[Bool.and_eq_true]at h;obtain⟨g,h⟩:=h;refine⟨g,a,b,d, ?_⟩;rw[a,b,f];cases c:dV s with
 | none=>rw[c]at h;cases h
 | some p =>
   obtain⟨l,r⟩:=p;rw[c]at h;simp only[Bool.and_eq_true,decide_eq_true_eq]at h;obtain⟨k,j⟩:=h;have:r=ByteArray.empty:=qi (Array.eq_empty_of_size_eq_zero k);subst this;exact⟨rfl,j⟩
theorem G9{s:Tw}{l:List jd}(h:bd s=true)(b:dV s=some (l,ByteArray.empty))(a:kT (rdA s) (jz (rdB s):Nat) l=0):vZ s=true:=by
 unfold vZ;rw[h,b];simp[a]
theorem TE{s:Tw}{l:List jd}{r:Tw}(b:dV s=some (l,r))(a:¬r.size=0∨¬kT (rdA s) (jz (rdB s):Nat) l=0):vZ s=false:=by
 unfold vZ;rw[b];rcases a with h|h<;>simp[h]
theorem Gq{s:Tw}(h:bd s=false):vZ s=false:=by
 unfold vZ;rw[h];rfl
theorem TF{s:Tw}{l:List jd}{r:Tw}(h:bd s=true)(d:dV s=some (l,r)):uv (rdA s) (jz (rdB s)) l++r=s:=by
 unfold bd at h;simp only[Bool.and_eq_true,decide_eq_true_eq]at h;obtain⟨⟨c,k⟩,_⟩:=h;obtain⟨a,b,_⟩:=QS d;have f:=JM c;have g:=GF (L:=rdB s) (by omega)
 have i:bs (be 1 l.length)=(rdB s).extract 8 9:=by
  rw[b];unfold bgM;rw[dif_pos (by omega)];apply qi;apply Array.toList_inj.1;have m:(rdB s).data.toList.length=(rdB s).size:=fI _;rw[ByteArray.data_extract,Array.toList_extract,List.extract,xZ (by omega)];simp[bs,be];rfl
 have j:(rdB s).extract 8 9++rr s=(rdB s).extract 8 (rdB s).size:=by
  unfold rr;rw[ByteArray.extract_append_extract,Nat.min_eq_left (by omega),Nat.max_eq_right (by omega)]
 unfold uv mC;simp only[ByteArray.append_assoc];rw[a,i,j,g,<-ByteArray.append_assoc,f]
theorem TH(s:Tw)(f:Nat)(l:List jd)(r:Tw)(v:s.size<=65535)(B:f<=1073741824)(o:l.length<256)(z:∀x∈l,nF x):
  bd (uv s f l++r)=true/\rdA (uv s f l++r)=s/\jz (rdB (uv s f l++r))=f/\dV (uv s f l++r)=some (l,r):=by
 have e:uv s f l++r=bs (be 2 s.size)++s++(bs (be 8 f)++(bs (be 1 l.length)++(vR l++r))):=by
  unfold uv mC;simp only[ByteArray.append_assoc]
 obtain⟨j,a,k⟩:=JL (t:=s) (r:=bs (be 8 f)++(bs (be 1 l.length)++(vR l++r))) v;obtain⟨c,A⟩:=GH (b:=f) (by omega) (bs (be 1 l.length)++(vR l++r));have i:(bs (be 8 f)++(bs (be 1 l.length)++(vR l++r))).size=9+(vR l++r).size:=by simp only[ByteArray.size_append,kP,je];omega
 have d:(bs (be 8 f)++(bs (be 1 l.length)++(vR l++r))).data.toList=be 8 f++(UInt8.ofNat l.length::(vR l++r).data.toList):=by
  simp only[ByteArray.data_append,Array.toList_append,bs,be];simp
 rw[e];refine⟨?_,j,by rw[a,c], ?_⟩
 ·unfold bd;rw[a,k,c,i];simp only[Bool.true_and,Bool.and_eq_true,decide_eq_true_eq];omega
 ·unfold dV
  have u:bgM (bs (be 2 s.size)++s++(bs (be 8 f)++(bs (be 1 l.length)++(vR l++r))))=l.length:=by
   unfold bgM;rw[a,dif_pos (by omega)]
   have q:∀(x:Tw) (h:8<x.size) (y:UInt8),x.data.toList[8]? = some y->(x[8]'h)=y:=fun x h y g=>by
    have p:8<x.data.toList.length:=(by rw[fI];exact h);rw[qE p]at g;exact qb g
   rw[q _ _ (UInt8.ofNat l.length) (by rw[d,List.getElem?_append_right (by rw[je];omega),je];rfl),UInt8.toNat_ofNat'];exact Nat.mod_eq_of_lt o
  have m:rr (bs (be 2 s.size)++s++(bs (be 8 f)++(bs (be 1 l.length)++(vR l++r))))=vR l++r:=by
   unfold rr;rw[a];apply qi;apply Array.toList_inj.1;rw[ByteArray.data_extract,Array.toList_extract,d,i,List.extract,qm (by rw[qw,qL,je,qu,fI];omega)];rw[show(9:Nat)=(be 8 f).length+1 by rw[je],List.drop_append,List.drop_of_length_le (by omega),Nat.add_sub_cancel_left];rfl
  rw[u,m];exact G7 z
theorem Gx{s:Tw}{f:Int}{l:List jd}(h:kT s f l=0)(c:∀x∈l,x.b<18446744073709551616):∀x∈l,nF x:=fun x a=>⟨(bc.1 h).2.2.2.2.2.2 x a,c x a⟩
theorem TI{s:Tw}{f:Int}{l:List jd}(h:kT s f l=0)(m:∀x∈l,x.b<18446744073709551616):
  vZ (uv s f.toNat l)=true/\bgS (uv s f.toNat l)=s/\bgF (uv s f.toNat l)=f/\bgL (uv s f.toNat l)=l:=by
 obtain⟨q,r,u,v,y,z,A⟩:=bc.1 h;obtain⟨k,a,c,d⟩:=TH s f.toNat l ByteArray.empty (by omega) (by omega) (by omega) (Gx h m);rw[ByteArray.append_empty]at k a c d;have i:((f.toNat:Nat):Int)=f:=by omega
 have j:=G9 k d (by rw[a,c,i];exact h);obtain⟨_,o,p,_,g,_⟩:=dY j;refine⟨j,by rw[o,a],by rw[p,c,i], ?_⟩;rw[d]at g;simp only[Option.some.injEq,Prod.mk.injEq]at g;exact g.1.symm
theorem TL{t:Tw}(h:vZ t=true):kT (bgS t) (bgF t) (bgL t)=0/\uv (bgS t) (bgF t).toNat (bgL t)=t/\∀x∈bgL t,nF x:=by
 obtain⟨c,d,f,_,b,g⟩:=dY h;have a:=TF c b;rw[ByteArray.append_empty]at a;refine⟨g, ?_,(QS b).2.2⟩;rw[d,f,qa];exact a
theorem Gz{P:Prop}{W0 W a:World}(b:Below W.1.size W a)(h:Below W0.1.size W0 W/\P):Below W0.1.size W0 a:=bj h.1 b
def gT(w:World)(g:Nat)(T:TypeId)(x y z:Value):Prop:=w.heap[g]? = some (.cells #[x,y,z] T (0,0))
theorem gT.new(w:World)(T:TypeId)(x y z:Value):gT (w.alloc (.cells #[x,y,z] T (0,0))) w.1.size T x y z:=by
 show(w.heap.push _)[w.1.size]? = _;simp
theorem gT.lt{w:World}{g:Nat}{T:TypeId}{x y z:Value}(h:gT w g T x y z):g<w.1.size:=by
 obtain⟨a,_⟩:=qn.1 h;exact a
theorem gT.below{w w':World}{g:Nat}{T:TypeId}{x y z:Value}(h:gT w g T x y z)(a:Below w.1.size w w'):gT w' g T x y z:=(a.block g h.lt).trans h
theorem gT.facts{w:World}{g:Nat}{T:TypeId}{x y z:Value}(h:gT w g T x y z):w.cell? ⟨g,0,none⟩=some x/\w.cell? ⟨g,1,none⟩=some y/\w.cell? ⟨g,2,none⟩=some z/\w.frozen? ⟨g,0,none⟩=false/\w.frozen? ⟨g,1,none⟩=false/\w.frozen? ⟨g,2,none⟩=false/\g<w.1.size:=by
 refine⟨?_, ?_, ?_, ?_, ?_, ?_,h.lt⟩<;>unfold gT at h<;>simp[World.cell?,World.frozen?,h]
def cT(x:jd):List Value:=[.string x.t,.string x.d,.float .f64 x.b]
def vr(w:World)(v:Value)(l:List jd):Prop :=
 (l=[]/\∃a c,v=.slice a 0 c)∨(0<l.length/\∃b off f,v=.slice (some ⟨b,off,none⟩) l.length f/\l.length<=f/\b<w.1.size /\
  ∀i x,l[i]? = some x->w.cell? ⟨b,off+i*3,none⟩=some (.string x.t)/\w.cell? ⟨b,off+i*3+1,none⟩=some (.string x.d)/\w.cell? ⟨b,off+i*3+2,none⟩=some (.float .f64 x.b))
theorem vr.below{w w':World}{v:Value}{l:List jd}{B:Nat}(h:vr w v l)(a:Below B w w')(d:w.1.size<=B):vr w' v l:=by
 rcases h with h|⟨g,b,off,f,m,k,c,j⟩
 ·exact qX h
 ·exact qY ⟨g,b,off,f,m,k,qS c a.size,fun i x o=>by
   obtain⟨c0,c1,c2⟩:=j i x o;exact⟨(a.cell (qS c d)).trans c0,(a.cell (qS c d)).trans c1,(a.cell (qS c d)).trans c2⟩⟩
theorem QT: ∀(l:List jd) (i:Nat) (x:jd),l[i]? = some x->∀j,j<3->(l.flatMap cT)[i*3+j]? = (cT x)[j]?
 | [],i,x,h=>by simp at h
 | y::l,0,x,h=>by
   intro j a;obtain rfl:y=x:=(by simpa using h);rw[List.flatMap_cons,Nat.zero_mul,qe,List.getElem?_append_left (by exact a)]
 | y::l,i+1,x,h=>by
   intro j a;have b:l[i]? = some x:=(by simpa using h);have e:(i+1)*3+j=3+(i*3+j):=(by omega);rw[List.flatMap_cons,e,List.getElem?_append_right (by show 3<=_;omega)];show(l.flatMap cT)[3+(i*3+j)-3]? = _;rw[Nat.add_sub_cancel_left];exact QT l i x b j a
theorem vr.xy{w:World}{base:Nat}{v:Value}{l:List jd}(h:w.ownsRow base 64 3 v l.length (l.flatMap cT)):vr w v l:=by
 have b:=h;rcases h.2 with⟨a,j⟩|⟨g,f,o,a,p,k,m,r,s,u⟩
 ·exact qX ⟨xK.1 j,none,0,a⟩
 ·by_cases d:l=[]
  ·subst d;exact qX ⟨rfl,_,_,a⟩
  ·refine qY ⟨List.length_pos_iff.2 d,g,0,f,a,m,(qn.1 k).1,fun i x c=>?_⟩;have q:i<l.length:=(qO.1 c).1;rw[a]at b;have c0:=(b.cellAt (i*3+0) (by omega)).trans (QT l i x c 0 (by omega));have c1:=(b.cellAt (i*3+1) (by omega)).trans (QT l i x c 1 (by omega));have c2:=(b.cellAt (i*3+2) (by omega)).trans (QT l i x c 2 (by omega));rw[qe];exact⟨c0,c1,c2⟩
theorem oz{w w':World}{base B n size:Nat}{e:TypeId}{v:Value}{xs:List Value}(h:w.ownsRow base e size v n xs)(i:Below B w w')(f:w.1.size<=B):w'.ownsRow base e size v n xs:=by
 refine⟨h.1, ?_⟩;rcases h.2 with d|⟨g,b,c,m,j,a,r⟩
 ·exact qX d
 ·obtain⟨k,_⟩:=qn.1 a;exact qY ⟨g,b,c,m,j,(i.block g (qS k f)).trans a,r⟩
theorem TM: (prog.info? 64).map (fun i=>(i.zero,i.size,i.bytes))=some (some (.agg #[.string ByteArray.empty,.string ByteArray.empty,.float .f64 0]),3,40):=by kernel_rfl
theorem TN(l:List jd)(k:Nat)(x:jd)(h:l[k]? = some x):l.take (k+1)=l.take k++[x]:=by
 rw[xQ,h];rfl
theorem vr.form{w:World}{v:Value}{l:List jd}(h:vr w v l):∃A c,v=.slice A l.length c:=by
 rcases h with⟨rfl,a,c,rfl⟩|⟨_,b,off,d,rfl,_⟩
 ·exact⟨_,_,rfl⟩
 ·exact⟨_,_,rfl⟩
theorem vr.pos{w:World}{A:Option Addr}{n c:Nat}{l:List jd}(h:vr w (.slice A n c) l)(g:0<l.length):∃b off,A=some ⟨b,off,none⟩/\b<w.1.size /\
  ∀i x,l[i]? = some x->w.cell? ⟨b,off+i*3,none⟩=some (.string x.t)/\w.cell? ⟨b,off+i*3+1,none⟩=some (.string x.d)/\w.cell? ⟨b,off+i*3+2,none⟩=some (.float .f64 x.b):=by
 rcases h with⟨rfl,_⟩|⟨_,b,off,k,j,_,a,f⟩
 ·cases g
 ·cases j;exact⟨b,off,rfl,a,f⟩
end
section
open Go.RowKit
attribute [local go_sem] dK
structure dU(x:jd):Prop where
 t:x.t.size<=100000
 d:x.d.size<=100000
 b:x.b<18446744073709551616
structure oj(w:World)(s:Tw)(f:Int)(v:Value)(l:List jd):Prop where
 s:s.size<=100000
 f:(Lit.int .i64 f).wf=true
 v:vr w v l
 n:l.length<=300
 x:∀x∈l,dU x
theorem oj.below{w w':World}{s:Tw}{f:Int}{v:Value}{l:List jd}(h:oj w s f v l)(a:Below w.1.size w w'):oj w' s f v l:=⟨h.s,h.f,h.v.below a (qK _),h.n,h.x⟩
end
section
open Go.RowKit
attribute [local go_sem] dK
theorem TO(p B c:Nat)(l:List jd)(w:World)(ab:l.length<=300)(V:∀x∈l,dU x)(J:p<w.1.size)
  (S:∀i x,l[i]? = some x->w.cell? ⟨p,B+i*3,none⟩=some (.string x.t)/\w.cell? ⟨p,B+i*3+1,none⟩=some (.string x.d)/\w.cell? ⟨p,B+i*3+2,none⟩=some (.float .f64 x.b)):
  Calls prog 85 #[.slice (some ⟨p,B,none⟩) l.length c] w (X3 (.int .i64 (uk l)) w):=by
 have Z:=qQ (fun(k:Nat) (x:jd) F H h3=>TU (l:=l) (k:=k) (x:=x) F H h3);have Y:=qQ (fun(k:Nat) F H=>TG (l:=l) (k:=k) F H);generalize uk l=r at*;go_enter func85,ntmps85;go_wp2;go_step3;go_wp2;go_step3;go_wp2;go_loopw [2,7] (fun e i wr=>∃k:Nat,k<=l.length/\i=.int .i64 k/\e=.int .i64 0/\(∀(i:Nat) (x:jd),i<k->l[i]? = some x->bW x=0)/\Below w.1.size w wr) (fun _ i _=>l.length-(intOf i).toNat)
 case atStart=>exact⟨0,qI _,rfl,rfl,fun i x h=>absurd h (by omega),qG _ _⟩
 case round =>
  obtain⟨k,hk,rfl,rfl,T,a⟩:=hrel;have C:=qQ T;clear T;by_cases aa:k<l.length
  ·obtain⟨x,u⟩:∃x,l[k]? = some x:=⟨l[k],qE aa⟩
   obtain⟨P,Q,R⟩:=S k x u;have M:=V x (qN u);have j:=qQ fun W=>QR x.t x.d x.b W (by have:=M.t;unfold maxLen;omega) (by have:=M.d;unfold maxLen;omega)
   have m:=qQ u;have f:=qQ (show bW x=chk x.t x.d from rfl);have v:=ka a J P;have z:=ka a J Q;have A:=ka a J R;clear u P Q R M S V;have U:=JH x.t x.d;generalize chk x.t x.d=o at*;have s1:(k:Int)<(l.length:Int):=(by omega);by_cases q:o=0
   ·subst q;have O:=f.out
    have N:∀(i:Nat) (y:jd),i<k+1->l[i]? = some y->bW y=0:=fun i y hi K=>by
     by_cases e:i=k
     ·subst e;rw[m.out]at K;cases K;exact O
     ·exact C.out i y (by omega) K
    have X:=qQ N;clear N O;obtain⟨t,d,n⟩:=x;simp only at v z A j;clear f m U;go_wp2_with fail;refine(j.out _).mono ?_;rintro e L⟨rfl,g⟩;have I:Below w.1.size w L:=bj (a.alloc a.size _) g;clear a g v z A;go_wp2;go_roundw
    case rel=>exact⟨k+1,by omega,by go_num,rfl,X.out,I⟩
    case measure=>simp[intOf];omega
   ·have s:=Z.out k x C.out m.out (by rw[f.out];exact q);rw[f.out]at s;have e1:((o:Int) != 0)=true:=(by simp;exact q);subst s;clear U q;obtain⟨t,d,n⟩:=x;simp only at v z A j;clear f m;go_wp2_with fail;refine(j.out _).mono ?_;rintro e L⟨rfl,g⟩;have I:Below w.1.size w L:=bj (a.alloc a.size _) g;clear a g v z A;go_wp2
    (try rw[Exit.noGoto_ret])
    go_ret;exact⟨rfl,I⟩
  ·obtain rfl:k=l.length:=(by omega);have s1:¬(l.length:Int)<(l.length:Int):=(by omega);have s:=Y.out _ C.out (qK _);subst s;go_wp2
   (try rw[Exit.noGoto_ret])
   go_ret;exact⟨rfl,a⟩
theorem J1(s:Tw)(f:Int)(A:Option Addr)(n c:Nat)(r:Int)(w:World)(z:s.size<=100000)(i:(Lit.int .i64 f).wf=true)(y:n<=300)
  (h:((s.size=0∨n=0)/\r=2)∨(¬(s.size=0∨n=0)/\(32<s.size∨8<n)/\r=3)∨(¬(s.size=0∨n=0)/\¬(32<s.size∨8<n)/\(f<0∨1073741824-(n:Int)<f)/\r=2)):
  Calls prog 40 #[ve s f (.slice A n c)] w (X3 (.int .i64 r) w):=by
 have v:=bounds_i64 i;unfold ve;by_cases b:s.size=0
 ·have a:r=2:=by omega
  subst a;have j:((s.size:Int)==0)=true:=beq_iff_eq.2 (by omega);clear h;go_enter func40,ntmps40;go_wp2;go_ret;exact⟨rfl,(qG _ _).alloc (qK _) _⟩
 ·have j:((s.size:Int)==0)=false:=qg.2 (by omega);by_cases d:n=0
  ·have a:r=2:=(by omega);subst a;have k:((n:Int)==0)=true:=beq_iff_eq.2 (by omega);clear h b d;go_enter func40,ntmps40;go_wp2;go_ret;exact⟨rfl,(qG _ _).alloc (qK _) _⟩
  ·have k:((n:Int)==0)=false:=qg.2 (by omega);by_cases q:32<s.size
   ·have a:r=3:=(by omega);subst a;have m:decide ((32:Int)<(s.size:Int))=true:=qB (by omega);clear h b d;go_enter func40,ntmps40;go_wp2;go_ret;exact⟨rfl,(qG _ _).alloc (qK _) _⟩
   ·have m:decide ((32:Int)<(s.size:Int))=false:=qA (by omega);by_cases u:8<n
    ·have a:r=3:=(by omega);subst a;have o:decide ((8:Int)<(n:Int))=true:=qB (by omega);clear h b d;go_enter func40,ntmps40;go_wp2;go_ret;exact⟨rfl,(qG _ _).alloc (qK _) _⟩
    ·have o:decide ((8:Int)<(n:Int))=false:=qA (by omega);have a:r=2:=(by omega);subst a;by_cases g:f<0
     ·have p:decide (f<0)=true:=qB g;clear h b d;go_enter func40,ntmps40;go_wp2;go_ret;exact⟨rfl,(qG _ _).alloc (qK _) _⟩
     ·have p:decide (f<0)=false:=qA g;have B:decide ((1073741824:Int)-(n:Int)<f)=true:=qB (by omega);clear h b d;go_enter func40,ntmps40;go_wp2;go_ret;exact⟨rfl,(qG _ _).alloc (qK _) _⟩
theorem TP(s:Tw)(f:Int)(p a c:Nat)(l:List jd)(w:World)(A:1<=s.size)(B:s.size<=32)(y:1<=l.length)(z:l.length<=8)(u:0<=f)(v:f<=1073741824-(l.length:Int))(g:∀x∈l,dU x)(m:p<w.1.size)
  (j:∀i x,l[i]? = some x->w.cell? ⟨p,a+i*3,none⟩=some (.string x.t)/\w.cell? ⟨p,a+i*3+1,none⟩=some (.string x.d)/\w.cell? ⟨p,a+i*3+2,none⟩=some (.float .f64 x.b)):
  Calls prog 40 #[ve s f (.slice (some ⟨p,a,none⟩) l.length c)] w (X3 (.int .i64 (uk l)) w):=by
 unfold ve;have C:((s.size:Int)==0)=false:=qg.2 (by omega);have F:((l.length:Int)==0)=false:=qg.2 (by omega);have H:decide ((32:Int)<(s.size:Int))=false:=qA (by omega);have I:decide ((8:Int)<(l.length:Int))=false:=qA (by omega);have J:decide (f<0)=false:=qA (by omega);have K:decide ((1073741824:Int)-(l.length:Int)<f)=false:=qA (by omega);have k:Below w.1.size w (w.alloc (.cells #[s,f,.slice (some ⟨p,a,none⟩) l.length c] 92)):=(qG _ _).alloc (qK _) _
 have o:=qQ (TO p a c l (w.alloc (.cells #[s,f,.slice (some ⟨p,a,none⟩) l.length c] 92)) (by omega) g (by simp;omega)
  (fun i x g=>⟨ka k m (j i x g).1,ka k m (j i x g).2.1,ka k m (j i x g).2.2⟩))
 generalize uk l=r at*;clear j g;go_enter func40,ntmps40;go_wp2_with fail;refine o.out.mono ?_;rintro e L⟨rfl,q⟩;go_wp2;go_ret;exact⟨rfl,k.trans (q.mono (by simp))⟩
theorem Q0(s:Tw)(f:Int)(v:Value)(l:List jd)(w:World)(h:oj w s f v l):
  Calls prog 40 #[ve s f v] w (X3 (.int .i64 (kT s f l)) w):=by
 obtain⟨A,c,rfl⟩:=h.v.form;by_cases a:s.size=0∨l.length=0
 ·rw[JP a];exact J1 s f A l.length c 2 w h.s h.f h.n (qX ⟨a,rfl⟩)
 ·by_cases b:32<s.size∨8<l.length
  ·rw[JR a b];exact J1 s f A l.length c 3 w h.s h.f h.n (qY (qX ⟨a,b,rfl⟩))
  ·by_cases d:f<0∨1073741824-(l.length:Int)<f
   ·rw[JS a b d];exact J1 s f A l.length c 2 w h.s h.f h.n (qY (qY ⟨a,b,d,rfl⟩))
   ·rw[JT a b d];obtain⟨p,j,rfl,i,g⟩:=h.v.pos (by omega);exact TP s f p j c l w (by omega) (by omega) (by omega) (by omega) (by omega) (by omega) h.x i g
end
section
open Go.RowKit
attribute [local go_sem] dK
def TS(w:World)(e:Ending)(w':World):Prop:=e=.returned (.tuple #[ve ByteArray.empty 0 (.slice none 0 0),.int .i64 10])/\Below w.1.size w w'
def TT(s:Tw)(w:World)(e:Ending)(w':World):Prop:=∃u,e=.returned (.tuple #[ve (bgS s) (bgF s) u,.int .i64 (bgE s)])/\vr w' u (bgL s)/\Below w.1.size w w'
theorem T3{s:Tw}(h:vw s=false):rdB s=ByteArray.empty:=by simp[rdB,h]
theorem gT.set{w:World}{g:Nat}{T:TypeId}{x y z:Value}(h:gT w g T x y z)(x' a b:Value):gT (((w.setCell ⟨g,0,none⟩ x').setCell ⟨g,1,none⟩ a).setCell ⟨g,2,none⟩ b) g T x' a b:=by
 unfold gT at h ⊢;simp[World.setCell,Array.getElem?_modify,h]
theorem nH{w w2:World}(h:Below w.1.size w w2)(x y z:Value):
  Below w.1.size w (((w2.setCell ⟨w.1.size,0,none⟩ x).setCell ⟨w.1.size,1,none⟩ y).setCell ⟨w.1.size,2,none⟩ z):=((h.setCell (qK _) _).setCell (qK _) _).setCell (qK _) _
theorem lB(W:World)(b i:Nat)(v:Value):W.grownBy (W.setCell ⟨b,i,none⟩ v) (some b):=⟨rfl,rfl,rfl,by simp[World.setCell],fun k _ a=>Below.heap_setCell _ _ _ _ (fun e=>a (by rw[e]))⟩
theorem J2{w:World}{base n size:Nat}{e:TypeId}{v:Value}{xs:List Value}(h:w.ownsRow base e size v n xs):∃A c,v=.slice A n c:=by
 rcases h.2 with⟨a,d⟩|⟨g,b,f,a,_⟩
 ·exact⟨none,0,by rw[a,d]⟩
 ·exact⟨_,b,a⟩
theorem T5{R:Tw}(h:8<R.size){s:Tw}(e:rdB s=R):bgM s=(R[8]'h).toNat:=by
 subst e;unfold bgM;rw[dif_pos h]
theorem Gj{x:jd}(h:nF x):dU x:=by
 have:=rh.1 h.c;exact⟨by omega,by omega,h.b⟩
end
section
open Go.RowKit
attribute [local go_sem] dK
def J3(M:Nat)(s:Tw)(w:World)(e:Ending)(w':World):Prop :=
 ∃v q,e=.returned (.tuple #[v,.bool q])/\Below w.1.size w w'/\((q=false/\(∃A n c,v=.slice A n c)/\∀l,uD M s≠some (l,ByteArray.empty))∨(q=true/\∃l,uD M s=some (l,ByteArray.empty)/\w'.ownsRow w.1.size 64 3 v l.length (l.flatMap cT)))
theorem T7(s:Tw)(M:Nat)(w:World)(hs:s.size<=100000)(hM:M<256):
  Calls prog 213 #[s,M] w (J3 M s w):=by
 obtain⟨i0,hi,af,ag,ah⟩:=info_parts TM;obtain⟨m,C⟩:∃m,uD M s=m:=⟨_,rfl⟩
 have L:=qQ (fun(e:Ending) (O:World) (h:∃v q,e=.returned (.tuple #[v,.bool q])/\Below w.1.size w O/\((q=false/\(∃A n c,v=.slice A n c)/\∀l,m≠some (l,ByteArray.empty))∨(q=true/\∃l,m=some (l,ByteArray.empty)/\O.ownsRow w.1.size 64 3 v l.length (l.flatMap cT))))=>(show J3 M s w e O by unfold J3;rw[C];exact h));have P:=qQ (show m=(uD (M-0) s).map (fun p=>(([]:List jd)++p.1,p.2)) by rw[<-C];simp);clear C;go_enter func213,ntmps213;go_wp2;go_loopw [0,4,10] (fun r v i wr=>∃(k:Nat) (a:Tw) (g:List jd),k<=M/\r=.string a/\i=.int .i64 k/\g.length=k/\a.size<=100000/\m=(uD (M-k) a).map (fun p=>(g++p.1,p.2))/\wr.ownsRow w.1.size 64 3 v g.length (g.flatMap cT)/\Below w.1.size w wr) (fun _ _ i _=>M-(intOf i).toNat)
 case atStart=>exact⟨0,s,[],qI _,rfl,rfl,rfl,hs,P.out,World.ownsRow_nil _ _ _ _,qG _ _⟩
 case round =>
  obtain⟨k,a,g,hk,rfl,rfl,J,ai,C,F,B⟩:=hrel;rw[J]at F;have H:=qQ C;clear C P;obtain⟨A',c',rfl⟩:=J2 F;by_cases aj:k<M
  ·have s1:(k:Int)<(M:Int):=(by omega);have I:=qQ fun W=>Sp a W (by unfold maxLen;omega)
   cases y:ya a with
   | false =>
     have U:m=none:=by
      rw[H.out,show M-k=(M-k-1)+1 by omega,TC y];rfl
     have HN:=qQ U;clear U;obtain⟨X,Y,Z,q4⟩:=JI y;rw[X,Y,Z,q4,y]at I;clear X Y Z q4 y;go_wp2_with fail;refine KG (I.out _) fun w3 z=>?_;have o:=bj B z;clear z F B;go_wp2;go_ret2;exact L.out _ _ ⟨_,_,rfl,o.alloc o.size _,qX ⟨rfl,⟨_,_,_,rfl⟩,fun l e=>by rw[HN.out]at e;cases e⟩⟩
   | true =>
     have ae:(erR a).size<=100000:=by
      rw[(QO y).2.2.2,qk];have:=bg (rdB a);have:=bg a;unfold erL;omega
     have R:m=(uD (M-(k+1)) (erR a)).map (fun p=>(g++[⟨erT a,erD a,erW a⟩]++p.1,p.2)):=by
      rw[H.out,show M-k=(M-(k+1))+1 by omega,TB y,Option.map_map];congr 1;funext p;simp
     have aa:=qQ R;rw[y]at I;clear R H y;generalize erT a=t at*;generalize erD a=d at*;generalize erW a=b at*;generalize erR a=R2 at*;go_wp2_with fail;refine KG (I.out _) fun w3 z=>?_;have o:=bj B z;have N:=oz F z (qK _);clear z F B
     go_wp2_with (first
      | (at_builtin;refine wpList_append_own _ rfl _ _ 40 rfl w.1.size 64 i0 (.agg #[.string ByteArray.empty,.string ByteArray.empty,.float .f64 0]) 3 40 Tryz.underlying40 hi af ag ah rfl (by decide) _ _ _ rfl ((N.alloc _).alloc _) ⟨w3.1.size+1,0,none⟩ 1 1 [.string t,.string d,.float .f64 b] rfl rfl ?c1 ?c2 ?c3 ?c4 ?c5 ?_))
     case c1 =>
      intro j u f
      match j,f with
      | 0,f=>simp at f;subst f;simp[Addr.add]
      | 1,f=>simp at f;subst f;simp[Addr.add]
      | 2,f=>simp at f;subst f;simp[Addr.add]
     case c2 =>
      intro u V;simp at V;rcases V with rfl|rfl|rfl<;>rfl
     case c3=>unfold maxLen;omega
     case c4=>omega
     case c5=>have:=o.size;simp;omega
     ·intro v' w4 ad T _;have ac:=((o.alloc o.size (.cells #[t,d,.float .f64 b] 64)).alloc (by have:=o.size;simp;omega) (.cells #[t,d,.float .f64 b] 64)).grown T (by have:=o.size;simp;omega) (fun q e=>(N.lt q e).1);clear T N o;go_wp2;go_roundw
      case rel =>
       refine⟨k+1,R2,g++[⟨t,d,b⟩],by omega,rfl,by go_num,by rw[qL,J];rfl,ae,aa.out, ?_,ac⟩;rw[List.flatMap_append,qL,J];exact ad
      case measure=>simp[intOf];omega
  ·obtain rfl:k=M:=(by omega);have s1:¬(k:Int)<(k:Int):=(by omega);have S:m=some (g,a):=(by rw[H.out,Nat.sub_self];simp[uD]);have Q:=qQ S;clear H S;by_cases K:a.size=0
   ·have ab:a=ByteArray.empty:=qi (Array.eq_empty_of_size_eq_zero K);subst ab;go_wp2;go_ret2;exact L.out _ _ ⟨_,_,rfl,B,qY ⟨rfl,g,Q.out,by rw[J];exact F⟩⟩
   ·have t1:a.toList.isEmpty=false:=by
     rw[List.isEmpty_eq_false_iff,Lib.toList_data];intro e;exact K (by rw[Lib.size_eq,e];rfl)
    have HR:=qQ K;clear K;go_wp2;go_ret2;exact L.out _ _ ⟨_,_,rfl,B,qX ⟨rfl,⟨_,_,_,rfl⟩,fun l e=>by rw[Q.out]at e;cases e;exact HR.out rfl⟩⟩
theorem T8(R:Tw)(h:8<R.size){s:Tw}(e:rdB s=R):jz (R.extract 8 9)=bgM s:=by
 rw[T5 h e]
 have a:(R.extract 8 9).data.toList=[R[8]]:=by
  have b:R.data.toList.length=R.size:=fI _;rw[ByteArray.data_extract,Array.toList_extract,List.extract,xZ (by omega)];simp;rfl
 unfold jz;rw[a];simp[un]
theorem T9(R:Tw):jz (R.extract 0 8)=jz R:=by
 unfold jz;have e:(R.extract 0 8).data.toList=R.data.toList.take 8:=by simp
 rw[e,List.take_take,Nat.min_self]
theorem lC{w:World}{base B n size:Nat}{e:TypeId}{v:Value}{xs:List Value}(h:w.ownsRow base e size v n xs)(d:B<=base):w.ownsRow B e size v n xs:=by
 refine⟨h.1, ?_⟩;rcases h.2 with c|⟨g,a,b,i,f,r⟩
 ·exact qX c
 ·exact qY ⟨g,a,b,i,qR d f,r⟩
def bgN(s:Tw):Nat:=jz (rdB s)
def Gv(s:Tw)(w:World)(e:Ending)(w':World):Prop :=
 ∃S F v q,e=.returned (.tuple #[ve S F v,.bool q])/\(∃A n c,v=.slice A n c)/\Below w.1.size w w'/\(q=false->vZ s=false)/\(q=true->bd s=true/\S=rdA s/\F=(jz (rdB s):Nat)/\∃l,dV s=some (l,ByteArray.empty)/\w'.ownsRow w.1.size 64 3 v l.length (l.flatMap cT))
theorem Gy{s:Tw}{w w':World}{e:Ending}(h:vZ s=false)(b:e=.returned (.tuple #[ve ByteArray.empty 0 (.slice none 0 0),.bool false]))(a:Below w.1.size w w'):Gv s w e w' :=
 ⟨_,_,_,_,b,⟨_,_,_,rfl⟩,a,fun _=>h,fun h=>by cases h⟩
theorem Tq(s:Tw)(w:World)(hs:s.size<=100000):
  Calls prog 158 #[s] w (Gv s w):=by
 have z:=qQ fun W=>nC s W (by unfold maxLen;omega)
 have af:=bg s;have F:Below w.1.size w (w.alloc (.cells #[.string ByteArray.empty,.int .i64 0,.slice none 0 0] 92)):=(qG _ _).alloc (qK _) _;have p:=gT.new w 92 (.string ByteArray.empty) (.int .i64 0) (.slice none 0 0);have P:∀(t:Tw) (W:World),t.size<=100->Calls prog 131 #[.string t] W fun e w'=>e=.returned (.int .u64 (jz t:Nat))/\w'=W:=fun t W h=>(cI t W (by unfold maxLen;omega)).mono fun e w' h=>⟨h.1,h.2.symm⟩
 by_cases h9:(rdB s).size<9
 ·have J:=qQ (fun e w'=>Gy (s:=s) (w:=w) (w':=w') (e:=e) (Gq (by unfold bd;rw[qA (by omega)];simp)));have x1:decide (((rdB s).size:Int)<9)=true:=qB (by omega);generalize rdB s=R at*;generalize rdA s=A at*;generalize vw s=q at*;clear P hs;go_enter func158,ntmps158;go_wp2_with fail;refine(z.out _).mono ?_;rintro e o⟨rfl,d⟩;have g:=p.below d;have H:Below w.1.size w o:=F.trans (d.mono (by simp));obtain⟨i,j,k,Y,Z,f2,_⟩:=g.facts;clear p g d F;go_wp2;exact bodyPost_ret (v:=.tuple #[.agg #[.string ByteArray.empty,.int .i64 0,.slice none 0 0],.bool false]) (by simp[results,Tryz.results158,go_sem,i,j,k];rfl) rfl (J.out _ _ rfl (nH H _ _ _))
 ·have x1:decide (((rdB s).size:Int)<9)=false:=qA (by omega);have x3:(8:Int)<((rdB s).size:Int):=by omega
  have x4:(9:Int)<=((rdB s).size:Int):=by omega
  have L:=T9 (rdB s);have N:=T8 (rdB s) (by omega) (s:=s) rfl;have hg:=p9 (rdB s);have aa:=G8 s;have ag:((rdB s).extract 0 8).size<=100:=by rw[qk];omega
  have ah:((rdB s).extract 8 9).size<=100:=by rw[qk];omega
  have ac:((rdB s).extract 9 (rdB s).size).size<=100000:=by rw[qk];omega
  have u:=qQ (show dV s=uD (bgM s) ((rdB s).extract 9 (rdB s).size) from rfl);have K:=qQ fun W=>T7 ((rdB s).extract 9 (rdB s).size) (bgM s) W ac aa
  have V:=qQ P
  have ab:vw s=true:=by
   cases h:vw s with
   | true=>rfl
   | false=>rw[T3 h]at x4;exact absurd x4 (by decide)
  have y:=qQ (show jz (rdB s)<=1073741824->bd s=true from fun h=>by unfold bd;rw[ab,qB (by omega:9<=(rdB s).size),qB h];rfl);have C:=qQ (show 1073741824<jz (rdB s)->bd s=false from fun h=>by unfold bd;rw[qA (by omega:¬jz (rdB s)<=1073741824)];simp);have HA:=qQ (qU (rfl:rdA s=rdA s) (rfl:jz (rdB s)=jz (rdB s)));clear P hs h9 af ac ab;obtain⟨A,O⟩:∃A,rdA s=A:=⟨_,rfl⟩
  obtain⟨n,f⟩:∃n,jz (rdB s)=n:=⟨_,rfl⟩
  obtain⟨M,hM⟩:∃M,bgM s=M:=⟨_,rfl⟩
  rw[hM]at u K aa N;rw[f]at y C hg L;rw[O]at z;have I:=qQ (qU O (show bgN s=n from f));clear O f hM HA;generalize rdB s=R at*;generalize vw s=q at*;go_enter func158,ntmps158;go_wp2_with fail;refine(z.out _).mono ?_;rintro e o⟨rfl,d⟩;have g:=p.below d;have H:Below w.1.size w o:=F.trans (d.mono (by simp));clear p d F;go_wp2_with fail;go_quiet ((go_at_call 131;exact Calls.quiet_of_same ((V.out _ _ (by rw[qk];omega)))));rename_i nq _;rw[L,N];have r:gT (o.drewN nq) w.1.size 92 (.string ByteArray.empty) (.int .i64 0) (.slice none 0 0):=g;have S:=uu H nq;generalize o.drewN nq=w2 at*;clear g H V z ag ah L N x1;by_cases f:1073741824<n
  ·have J:=qQ (fun e w'=>Gy (s:=s) (w:=w) (w':=w') (e:=e) (Gq (C.out f)));have x2:decide ((1073741824:Int)<(n:Int))=true:=qB (by omega);obtain⟨i,j,k,Y,Z,f2,_⟩:=r.facts;clear f C y I u;go_wp2;exact bodyPost_ret (v:=.tuple #[.agg #[.string ByteArray.empty,.int .i64 0,.slice none 0 0],.bool false]) (by simp[results,Tryz.results158,go_sem,i,j,k];rfl) rfl (J.out _ _ rfl (nH S _ _ _))
  ·have x2:decide ((1073741824:Int)<(n:Int))=false:=qA (by omega);have hH:=y.out (by omega);have hm:IntKind.i64.wrap (M:Int)=(M:Int):=(by rw[IntKind.wrap_i64];omega);have am:IntKind.i64.wrap (n:Int)=(n:Int):=(by rw[IntKind.wrap_i64];omega);have ad:=qQ hH;have al:=r.lt;clear f C y hH;generalize ak:R.extract 9 R.size=aj at*;go_wp2_with fail;refine(K.out _).mono ?_;rintro e w3⟨v,q',rfl,Q,U⟩;have E3:=r.below Q;have ae:=bj S Q
   have ai:∃A n c,v=.slice A n c:=by
    rcases U with⟨_,h,_⟩|⟨_,l,_,h⟩
    ·exact h
    ·obtain⟨a,c,h⟩:=J2 h;exact⟨_,_,_,h⟩
   obtain⟨i,j,k,Y,Z,f2,_⟩:=E3.facts;clear r Q S K;obtain⟨B,m,c,rfl⟩:=ai;have X:=qQ U;clear U;go_wp2;refine bodyPost_ret (v:=.tuple #[.agg #[.string A,.int .i64 (n:Nat),.slice B m c],q']) (by simp[results,Tryz.results158,go_sem,i,j,k]) rfl ⟨A,(n:Nat),.slice B m c,q',rfl,⟨_,_,_,rfl⟩,nH ae _ _ _, ?_, ?_⟩
   ·intro h;rcases X.out with⟨_,_,b⟩|⟨b,_⟩
    ·cases hb:vZ s with
     | false=>rfl
     | true=>exact absurd (u.out.symm.trans (dY hb).2.2.2.2.1) (b _)
    ·rw[h]at b;cases b
   ·intro h;rcases X.out with⟨b,_⟩|⟨_,l,b,h3⟩
    ·rw[h]at b;cases b
    ·have T:(Value.slice B m c).ownBlock≠some w.1.size:=fun e=>by have:=(h3.lt _ e).1;omega
     refine⟨ad.out,I.out.1.symm,by rw[<-I.out.2];rfl,l,u.out.trans b, ?_⟩;exact((lC h3 (by omega)).kept (lB _ w.1.size 0 _) (.inr T)).kept (lB _ w.1.size 1 _) (.inr T) |>.kept (lB _ w.1.size 2 _) (.inr T)
def J4(s:Tw)(w:World)(e:Ending)(w':World):Prop:=∃u,e=.returned (.tuple #[ve (bgS s) (bgF s) u,.int .i64 (bgE s)])/\w'.ownsRow w.1.size 64 3 u (bgL s).length ((bgL s).flatMap cT)/\Below w.1.size w w'
theorem Gu{s:Tw}{w w':World}{e:Ending}(h:vZ s=false)(a:TS w e w'):J4 s w e w':=by
 obtain⟨b,c,d,f⟩:=TD h;unfold J4;rw[b,c,d,f];exact⟨_,a.1,World.ownsRow_nil _ _ _ _,a.2⟩
theorem Gg(s:Tw)(w:World)(hs:s.size<=100000):Calls prog 95 #[s] w (J4 s w):=by
 have ad:Below w.1.size w (w.alloc (.cells #[.string ByteArray.empty,.int .i64 0,.slice none 0 0] 92)):=(qG _ _).alloc (qK _) _;have E0:=gT.new w 92 (.string ByteArray.empty) (.int .i64 0) (.slice none 0 0);have HR:=qQ (Tq s (w.alloc (.cells #[.string ByteArray.empty,.int .i64 0,.slice none 0 0] 92)) hs);have HA:=qQ (qR (rm s) hs);go_enter func95,ntmps95;go_wp2_with fail;refine HR.out.mono ?_;rintro e w1⟨S,F,v,q,rfl,⟨B,m,c,rfl⟩,X,aa,ac⟩;have z:=E0.below X;have Y:Below w.1.size w w1:=ad.trans (X.mono (by simp));clear E0 X ad HR;obtain⟨p,u,y,I,J,K,_⟩:=z.facts;have a:=z.set (.string S) (.int .i64 F) (.slice B m c);have k:=nH Y (.string S) (.int .i64 F) (.slice B m c);unfold ve;cases q with
 | false =>
   have O:=qQ fun T e=>Gu (w:=w) (w':=T) (e:=e) (aa rfl)
   obtain⟨j0,j1,j2,U,V,W,_⟩:=a.facts;obtain⟨c0,c1,c2,_⟩:=(a.set (.string ⟨#[]⟩) (.int .i64 0) (.slice none 0 0)).facts;clear aa ac z a Y;go_wp2;exact bodyPost_ret (v:=.tuple #[.agg #[.string ByteArray.empty,.int .i64 0,.slice none 0 0],.int .i64 10]) (by simp[results,Tryz.results95,go_sem,c0,c1,c2];rfl) rfl (O.out _ _ ⟨rfl,nH k _ _ _⟩)
 | true =>
   obtain⟨j,rfl,rfl,l,o,L⟩:=ac rfl;obtain⟨_,_,e1⟩:=J2 L;cases e1;have ae:∀g,w.1.size+1<=g->(Value.slice B l.length c).ownBlock≠some w.1.size:=fun g hg e=>by have:=(L.lt _ e).1;simp at this;omega
   have f:=ae (w.1.size+1) (qK _);clear ae;have ab:=((L.kept (lB _ w.1.size 0 (.string (rdA s))) (.inr f)).kept (lB _ w.1.size 1 (.int .i64 (jz (rdB s):Nat))) (.inr f)).kept (lB _ w.1.size 2 (.slice B l.length c)) (.inr f);obtain⟨_,ai,ag⟩:=QS o;have ah:=G8 s
   have hF:jz (rdB s)<=1073741824:=by
    unfold bd at j;simp only[Bool.and_eq_true,decide_eq_true_eq]at j;exact j.2
   have i:=qQ (Q0 (rdA s) (jz (rdB s):Nat) (.slice B l.length c) l _ ⟨HA.out,WalkArith.wf_i64 (by omega),vr.xy ab,by omega,fun x hx=>Gj (ag x hx)⟩);have Q:=qQ fun h=>dY (G9 j o h)
   have R:=qQ fun h=>TE o (qY h)
   have P:=qQ ab;have N:=qQ o;clear aa ac L ab ai ag ah hF j HA o Y z;obtain⟨j0,j1,j2,U,V,W,_⟩:=a.facts;unfold ve at i;generalize hA:rdA s=A at*;generalize hn:jz (rdB s)=n at*;by_cases d:kT A (n:Nat) l=0
   ·obtain⟨_,y1,y2,y3,M,_⟩:=Q.out d;rw[N.out]at M;simp only[Option.some.injEq,Prod.mk.injEq]at M;have H:=qQ (qU y1 (qU y2 (qU y3 M.1)));rw[d]at i;clear Q R d y1 y2 y3 M N hA hn;go_wp2_with fail;refine KG i.out fun w2 b=>?_;have C:=a.below b;have Z:=bj k b;have HI:=qQ (oz P.out b (qK _));clear b a k i P p u y I J K j0 j1 j2 U V W;obtain⟨p,u,y,I,J,K,_⟩:=C.facts;go_wp2;refine bodyPost_ret (v:=.tuple #[.agg #[A,n,.slice B l.length c],.int .i64 0]) (by simp[results,Tryz.results95,go_sem,p,u,y]) rfl ⟨.slice B l.length c, ?_, ?_,nH Z _ _ _⟩
    ·rw[H.out.1,H.out.2.1,H.out.2.2.1];rfl
    ·rw[<-H.out.2.2.2];exact lC (((HI.out.kept (lB _ w.1.size 0 _) (.inr f)).kept (lB _ w.1.size 1 _) (.inr f)).kept (lB _ w.1.size 2 _) (.inr f)) (by simp)
   ·have af:=R.out d;have O:=qQ fun T e=>Gu (w:=w) (w':=T) (e:=e) af
    have t3:(kT A (n:Nat) l != 0)=true:=(by simp;exact d);have t4:(kT A (n:Nat) l==0)=false:=(by simp;exact d);clear Q R d N hA hn af P f;generalize kT A (n:Nat) l=r at*;go_wp2_with fail;refine KG i.out fun w2 b=>?_;have C:=a.below b;have Z:=bj k b;clear b a k i p u y I J K j0 j1 j2 U V W;obtain⟨p,u,y,I,J,K,_⟩:=C.facts;obtain⟨c0,c1,c2,_⟩:=(C.set (.string ⟨#[]⟩) (.int .i64 0) (.slice none 0 0)).facts;go_wp2;exact bodyPost_ret (v:=.tuple #[.agg #[.string ByteArray.empty,.int .i64 0,.slice none 0 0],.int .i64 10]) (by simp[results,Tryz.results95,go_sem,c0,c1,c2];rfl) rfl (O.out _ _ ⟨rfl,nH Z _ _ _⟩)
theorem Tx(s:Tw)(w:World)(d:s.size<=100000):Calls prog 95 #[s] w (TT s w):=(Gg s w d).mono fun e f ⟨u,a,b,c⟩=>⟨u,a,vr.xy b,c⟩
end
section
open Go.ChangeShapes Go.WideShapes Go.ChangeAt Go.RowKit Go.Deep
theorem Tz: ∃a,prog.underlying 64=some (.struct a)/\oneCellFields prog a=true/\a.size=3 /\
  (a[0]?.map Field.type=some 9/\a[1]?.map Field.type=some 9/\a[2]?.map Field.type=some 24) :=
 ⟨_,Tryz.underlying64,by kernel_rfl,by kernel_rfl,by kernel_rfl,by kernel_rfl,by kernel_rfl⟩
theorem Gb: prog.cellsOf 64=3:=by kernel_rfl
structure re(x:jd):Prop where
 t:x.t.size<=maxLen
 d:x.d.size<=maxLen
 b:x.b<18446744073709551616
theorem Tj{H:Type}{enc:TypeId × Value->H}{W:World}{v:Nat}{cs:List Value}{y:DataW H × List MemPlace}
  (B:DataW.trod enc prog W 0 (fun _=>true) true v 64 cs=some y):∃x,cs=cT x/\re x:=by
 obtain⟨g,K,J,U,P,Q,R⟩:=Tz;obtain⟨d,n,_,rfl,m,L,C⟩:=DataW.trod_struct K B;rw[Gb]at m
 match cs,m with
 | [c0,c1,c2],_ =>
   have step:∀(i:Nat) (t:TypeId),g[i]?.map Field.type=some t->∃q,d[i]? = some q/\DataW.trod enc prog W 0 (fun _=>true) true n t ((([c0,c1,c2]:List Value).drop i).take 1)=some q:=by
    intro i t c;cases a:g[i]? with
    | none=>rw[a]at c;cases c
    | some f =>
      rw[a]at c;obtain rfl:f.type=t:=(by simpa using c);obtain⟨I,F⟩:=hone_of J i f a;have b:=C i f a;rw[I,F]at b;have j:i<d.length:=(by rw[L];exact(qn.1 a).1);refine⟨d[i],qE j, ?_⟩;rw[b,qE j]
   obtain⟨V,_,z⟩:=step 0 _ P;obtain⟨X,_,b⟩:=step 1 _ Q;obtain⟨Y,_,A⟩:=step 2 _ R;obtain⟨o,r,_,w0⟩:=DataW.trod_string Tryz.underlying9 z;obtain⟨p,s,_,S⟩:=DataW.trod_string Tryz.underlying9 b;obtain⟨k,u,_,T⟩:=Kn Tryz.underlying24 A;refine⟨⟨o,p,k⟩, ?_,w0,S, ?_⟩
   ·have M:c0=.string o:=(by simpa using r);have N:c1=.string p:=(by simpa using s);have O:c2=.float .f64 k:=(by simpa using u);rw[M,N,O];rfl
   ·exact of_decide_eq_true (show decide (k<2 ^ 64)=true from T)
theorem Gc{p:Nat->jd->Prop}:∀n,(∀i,i<n->∃x,p i x)->∃l:List jd,l.length=n/\∀i x,l[i]? = some x->p i x
 | 0,_=>⟨[],rfl,fun i x h=>by simp at h⟩
 | n+1,h=>by
   obtain⟨l,b,d⟩:=Gc n (fun i g=>h i (by omega));obtain⟨x,f⟩:=h n (by omega);refine⟨l++[x],by rw[qL,b];rfl,fun i y a=>?_⟩;rcases qd i n with c|c
   ·rw[List.getElem?_append_left (by omega)]at a;exact d i y a
   ·rw[List.getElem?_append_right (by omega),b]at a
    have:i=n:=by
     have:=(qO.1 a).1;simp at this;omega
    subst this;rw[Nat.sub_self]at a;obtain rfl:x=y:=(by simpa using a);exact f
def ri(w:World)(v:Value)(l:List jd):Prop:=vr w v l/\l.length<=maxLen/\∃A c,v=.slice A l.length c
theorem Tk{H:Type}{enc:TypeId × Value->H}{W:World}{C:Nat}{c:Value}{d:DataW H}{p:List MemPlace}
  (L:DataW.trod enc prog W 0 (fun _=>true) true C 40 [c]=some (d,p)) (z:∀x∈p,x.block<W.1.size):∃l,ri W c l/\∀x∈l,re x:=by
 rcases open_slice Tryz.underlying40 L with⟨k,f⟩|⟨a,len,o,m,n,D,T,k,_,X,Y,O,f,g⟩
 ·obtain rfl:c=.slice none 0 0:=by simpa using k
  exact⟨[],⟨qX ⟨rfl,_,_,rfl⟩,qI _,_,_,rfl⟩,fun x f=>(by cases f)⟩
 ·obtain rfl:c=.slice (some a) len o:=by simpa using k
  simp only[Prod.mk.injEq]at f;obtain⟨rfl,rfl⟩:=f;simp only[if_true]at O;rw[Gb]at g z;by_cases N:len=0
  ·subst N;exact⟨[],⟨qX ⟨rfl,_,_,rfl⟩,qI _,_,_,rfl⟩,fun x f=>(by cases f)⟩
  ·have each:∀i,i<len->∃x,re x/\∀j u,(cT x)[j]? = some u->W.cell? (a.add (i*3+j))=some u:=by
    intro i V;obtain⟨U,J,R⟩:=g i (by omega);obtain⟨_,K,F⟩:=World.cells?_some J;obtain⟨x,rfl,P⟩:=Tj R;refine⟨x,P,fun j u A=>?_⟩;have M:j<3:=(by have:=(qO.1 A).1;rw[K]at this;exact this);rw[<-Go.Deep.add_add,F j M];exact A
   obtain⟨b,off,S⟩:=a
   have Q:S=none:=by
    obtain⟨x,_,f⟩:=each 0 (by omega);simpa[Addr.add] using World.cell?_spot (f 0 _ rfl)
   subst Q;obtain⟨l,v,y⟩:=Gc len each;have I:b<W.1.size:=z (.cell b off) (qW _ (MemPlace.mem_row.2 ⟨0,by omega,by simp⟩))
   have B:∀i j:Nat,(⟨b,off,none⟩:Addr).add (i*3+j)=⟨b,off+i*3+j,none⟩:=fun i j=>by
    have:(⟨b,off,none⟩:Addr).add (i*3+j)=⟨b,off+(i*3+j),none⟩:=(by unfold Addr.add;split<;>simp_all);rw[this,Nat.add_assoc]
   refine⟨l,⟨qY ⟨by omega,b,off,o,by rw[v],by omega,I,fun i x f=>?_⟩,by omega,_,_,by rw[v]⟩,fun x f=>?_⟩
   ·have h:=(y i x f).2;have q:=h 0 _ rfl;have r:=h 1 _ rfl;have s:=h 2 _ rfl;rw[B]at q r s;exact⟨q,r,s⟩
   ·obtain⟨i,g⟩:=ql f;exact(y i x g).1
theorem ri.below{w w':World}{v:Value}{l:List jd}{B:Nat}(h:ri w v l)(b:Below B w w')(a:w.1.size<=B):ri w' v l:=⟨h.1.below b a,h.2⟩
structure cq where
 k:Nat
 s:Tw
 a:Int
 b:Int
 v:Value
 l:List jd
def J5(x:cq):List Value:=[.int .u8 (x.k:Nat),.string x.s,.int .i64 x.a,.int .i64 x.b,x.v]
structure lD(W:World)(x:cq):Prop where
 k:x.k<256
 s:x.s.size<=maxLen
 a0:-9223372036854775808<=x.a
 a1:x.a<=9223372036854775807
 b0:-9223372036854775808<=x.b
 b1:x.b<=9223372036854775807
 v:ri W x.v x.l
 l:∀y∈x.l,re y
theorem lD.below{w w':World}{x:cq}{B:Nat}(h:lD w x)(b:Below B w w')(a:w.1.size<=B):lD w' x:=⟨h.k,h.s,h.a0,h.a1,h.b0,h.b1,h.v.below b a,h.l⟩
theorem Tv: ∃a,prog.underlying 42=some (.struct a)/\oneCellFields prog a=true/\a.size=5 /\
  (a[0]?.map Field.type=some 5/\a[1]?.map Field.type=some 9/\a[2]?.map Field.type=some 3/\a[3]?.map Field.type=some 3/\a[4]?.map Field.type=some 40) :=
 ⟨_,Tryz.underlying42,by kernel_rfl,by kernel_rfl,by kernel_rfl,by kernel_rfl,by kernel_rfl,by kernel_rfl,by kernel_rfl⟩
theorem Gd: prog.cellsOf 42=5:=by kernel_rfl
theorem Ty{H:Type}{enc:TypeId × Value->H}{W:World}{L:Nat}{cs:List Value}{d:DataW H}{p:List MemPlace}
  (R:DataW.trod enc prog W 0 (fun _=>true) true L 42 cs=some (d,p)) (U:∀x∈p,x.block<W.1.size):
  ∃x,cs=J5 x/\lD W x:=by
 obtain⟨r,Z,Y,ac,t0,t1,t2,t3,t4⟩:=Tv;obtain⟨m,n,_,g,u,ab,S⟩:=DataW.trod_struct Z R;simp only[Prod.mk.injEq]at g;obtain⟨_,rfl⟩:=g;rw[Gd]at u
 match cs,u with
 | [c0,c1,c2,c3,c4],_ =>
   have step:∀(i:Nat) (t:TypeId),r[i]?.map Field.type=some t->∃B,m[i]? = some B/\DataW.trod enc prog W 0 (fun _=>true) true n t ((([c0,c1,c2,c3,c4]:List Value).drop i).take 1)=some B:=by
    intro i t c;cases a:r[i]? with
    | none=>rw[a]at c;cases c
    | some f =>
      rw[a]at c;obtain rfl:f.type=t:=(by simpa using c);obtain⟨V,j⟩:=hone_of Y i f a;have b:=S i f a;rw[V,j]at b;have s:i<m.length:=(by rw[ab];exact(qn.1 a).1);refine⟨m[i],qE s, ?_⟩;rw[b,qE s]
   obtain⟨y0,_,M⟩:=step 0 _ t0;obtain⟨y1,_,b⟩:=step 1 _ t1;obtain⟨y2,_,N⟩:=step 2 _ t2;obtain⟨y3,_,O⟩:=step 3 _ t3;obtain⟨⟨C,p4⟩,aa,P⟩:=step 4 _ t4;obtain⟨k,F,_,wk⟩:=DataW.trod_int Tryz.underlying5 M;obtain⟨A,I,_,w1⟩:=DataW.trod_string Tryz.underlying9 b;obtain⟨v,J,_,w2⟩:=DataW.trod_int Tryz.underlying3 N;obtain⟨y,K,_,w3⟩:=DataW.trod_int Tryz.underlying3 O;obtain⟨z,rfl,j⟩:=Kq wk;have o:=bounds_i64 w2;have q:=bounds_i64 w3;have Q:DataW.trod enc prog W 0 (fun _=>true) true n 40 [c4]=some (C,p4):=P;obtain⟨l,T,X⟩:=Tk Q (fun x g=>U x (xV.2 ⟨_,qN aa,g⟩));refine⟨⟨z,A,v,y,c4,l⟩, ?_,j,w1,o.1,o.2,q.1,q.2,T,X⟩;have q0:c0=.int .u8 (z:Nat):=(by simpa using F);have q1:c1=.string A:=(by simpa using I);have q2:c2=.int .i64 v:=(by simpa using J);have q3:c3=.int .i64 y:=(by simpa using K);rw[q0,q1,q2,q3];rfl
def mD(w:World)(v:Value)(l:List cq):Prop :=
 (l=[]/\∃a c,v=.slice a 0 c)∨∃b off d,v=.slice (some ⟨b,off,none⟩) l.length d/\l.length<=d/\d<=maxLen/\b<w.1.size /\
  ∀i x,l[i]? = some x->∀j u,(J5 x)[j]? = some u->w.cell? ⟨b,off+(i*5+j),none⟩=some u
theorem Gf{p:Nat->cq->Prop}:∀n,(∀i,i<n->∃x,p i x)->∃l:List cq,l.length=n/\∀i x,l[i]? = some x->p i x
 | 0,_=>⟨[],rfl,fun i x h=>by simp at h⟩
 | n+1,h=>by
   obtain⟨l,b,d⟩:=Gf n (fun i g=>h i (by omega));obtain⟨x,f⟩:=h n (by omega);refine⟨l++[x],by rw[qL,b];rfl,fun i y a=>?_⟩;rcases qd i n with c|c
   ·rw[List.getElem?_append_left (by omega)]at a;exact d i y a
   ·rw[List.getElem?_append_right (by omega),b]at a
    have:i=n:=by
     have:=(qO.1 a).1;simp at this;omega
    subst this;rw[Nat.sub_self]at a;obtain rfl:x=y:=(by simpa using a);exact f
theorem qYd{H:Type}{enc:TypeId × Value->H}{W:World}{v:Value}{d:DataW H}{p:List MemPlace}(Q:∃a len o,v=.slice a len o)
  (C:DataW.Trod enc prog W 0 (fun _=>true) true 22 v d p) (q:∀x∈p,x.block<W.1.size):∃l,mD W v l/\∀x∈l,lD W x:=by
 obtain⟨T,len,o,rfl⟩:=Q;obtain⟨X,F⟩:=C;rcases open_slice Tryz.underlying22 F with⟨f,c⟩|⟨a,aa,U,m,n,D,S,f,_,Z,L,M,c,g⟩
 ·simp[Value.cells]at f;obtain⟨rfl,rfl,rfl⟩:=f;exact⟨[],qX ⟨rfl,_,_,rfl⟩,fun x c=>by cases c⟩
 ·simp[Value.cells]at f;obtain⟨rfl,rfl,rfl⟩:=f;simp only[Prod.mk.injEq]at c;obtain⟨rfl,rfl⟩:=c;simp only[if_true]at M;rw[Gd]at g q;by_cases J:len=0
  ·subst J;exact⟨[],qX ⟨rfl,_,_,rfl⟩,fun x c=>by cases c⟩
  ·have each:∀i,i<len->∃x,lD W x/\∀j u,(J5 x)[j]? = some u->W.cell? (a.add (i*5+j))=some u:=by
    intro i Y;obtain⟨V,A,P⟩:=g i (by omega);obtain⟨_,B,y⟩:=World.cells?_some A;obtain⟨x,rfl,N⟩:=Ty P (fun x c=>q x (qJ _ (xV.2 ⟨i,List.mem_range.2 (by omega),c⟩)));refine⟨x,N,fun j u k=>?_⟩;have I:j<5:=(by have:=(qO.1 k).1;rw[B]at this;exact this);rw[<-Go.Deep.add_add,y j I];exact k
   obtain⟨b,off,R⟩:=a
   have O:R=none:=by
    obtain⟨x,_,c⟩:=each 0 (by omega);simpa[Addr.add] using World.cell?_spot (c 0 _ rfl)
   subst O;obtain⟨l,K,r⟩:=Gf len each;have z:b<W.1.size:=q (.cell b off) (qW _ (MemPlace.mem_row.2 ⟨0,by omega,by simp⟩));refine⟨l,qY ⟨b,off,o,by rw[K],by omega,L,z,fun i x c j u k=>?_⟩,fun x c=>?_⟩
   ·have h:=(r i x c).2 j u k;have s:(⟨b,off,none⟩:Addr).add (i*5+j)=⟨b,off+(i*5+j),none⟩:=(by unfold Addr.add;split<;>simp_all);rw[s]at h;exact h
   ·obtain⟨i,g⟩:=ql c;exact(r i x g).1
theorem mD.below{w w':World}{v:Value}{l:List cq}{B:Nat}(h:mD w v l)(a:Below B w w')(f:w.1.size<=B):mD w' v l:=by
 rcases h with h|⟨b,off,d,q,k,m,c,g⟩
 ·exact qX h
 ·exact qY ⟨b,off,d,q,k,m,qS c a.size,fun i x r j u o=>(a.cell (p:=⟨b,off+(i*5+j),none⟩) (qS c f)).trans (g i x r j u o)⟩
theorem mD.form{w:World}{v:Value}{l:List cq}(h:mD w v l):∃A off g,v=.slice A l.length g/\l.length<=maxLen /\
  ∀i x,l[i]? = some x->∃b,A=some ⟨b,off,none⟩/\b<w.1.size/\w.cell? ⟨b,off+i*5,none⟩=some (.int .u8 (x.k:Nat))/\w.cell? ⟨b,off+i*5+1,none⟩=some (.string x.s)/\w.cell? ⟨b,off+i*5+2,none⟩=some (.int .i64 x.a) /\
   w.cell? ⟨b,off+i*5+3,none⟩=some (.int .i64 x.b)/\w.cell? ⟨b,off+i*5+4,none⟩=some x.v:=by
 rcases h with⟨rfl,a,c,rfl⟩|⟨b,off,g,rfl,m,o,j,d⟩
 ·exact⟨a,0,c,rfl,qI _,fun i x h=>by simp at h⟩
 ·exact⟨some ⟨b,off,none⟩,off,g,rfl,by omega,fun i x f=>⟨b,rfl,j,d i x f 0 _ rfl,d i x f 1 _ rfl,d i x f 2 _ rfl,d i x f 3 _ rfl,d i x f 4 _ rfl⟩⟩
theorem qYf{H:Type}{enc:TypeId × Value->H}{W a:World}{v:Value}{d:DataW H}{p:List MemPlace}
  (f:DataW.Trod enc prog W 0 (fun _=>true) true 22 v d p) (g:∀x∈p,x.block<W.1.size) (c:Below W.1.size W a):
  DataW.Trod enc prog a 0 (fun b=>decide (b<W.1.size)) true 22 v d p :=
 Below.trod Kj (by kernel_rfl) (of_decide_eq_true (by kernel_rfl)) f c g
structure sQ where
 d:Nat
 r:Nat
 m:Nat
abbrev J6(x:sQ):Value:=.agg #[.int .u64 (x.d:Nat),.float .f64 x.r,.int .u16 (x.m:Nat)]
def qYh: Value:=.agg #[.int .u64 0,.float .f64 0,.int .u16 0]
structure J7(x:sQ):Prop where
 d:x.d<18446744073709551616
 r:x.r<18446744073709551616
 m:x.m<65536
theorem Gh: ∃a,prog.underlying 27=some (.struct a)/\oneCellFields prog a=true/\a.size=3 /\
  (a[0]?.map Field.type=some 23/\a[1]?.map Field.type=some 24/\a[2]?.map Field.type=some 25) :=
 ⟨_,Tryz.underlying27,by kernel_rfl,by kernel_rfl,by kernel_rfl,by kernel_rfl,by kernel_rfl⟩
theorem Tu: prog.cellsOf 27=3:=by kernel_rfl
theorem qYl{W:World}{r:Reach}{base:Nat}{v:Value}(h:Value.okWide prog W r base 27 v):∃cs,v=.agg cs:=by
 obtain⟨b,a,_⟩:=Gh;obtain⟨cs,e,_⟩:=okWide_struct a h;exact⟨cs,e⟩
theorem qYm{H:Type}{enc:TypeId × Value->H}{W:World}{v:Value}{d:DataW H}{p:List MemPlace}(Q:∃cs,v=.agg cs)
  (L:DataW.Trod enc prog W 0 (fun _=>true) true 27 v d p) (aa:∀x∈p,x.block<W.1.size):∃x,v=J6 x/\J7 x:=by
 obtain⟨cs,rfl⟩:=Q;obtain⟨C,g⟩:=L;have g:DataW.trod enc prog W 0 (fun _=>true) true C 27 cs.toList=some (d,p):=g;obtain⟨m,P,O,ab,V,X,Y⟩:=Gh;obtain⟨xs,n,_,hx,j,R,o⟩:=DataW.trod_struct P g;rw[Tu]at j;obtain⟨l,r⟩:∃l,l=cs.toList:=⟨_,rfl⟩
 rw[<-r]at j o
 match l,j with
 | [c0,c1,c2],_ =>
   have step:∀(i:Nat) (t:TypeId),m[i]?.map Field.type=some t->∃y,xs[i]? = some y/\DataW.trod enc prog W 0 (fun _=>true) true n t ((([c0,c1,c2]:List Value).drop i).take 1)=some y:=by
    intro i t c;cases a:m[i]? with
    | none=>rw[a]at c;cases c
    | some f =>
      rw[a]at c;obtain rfl:f.type=t:=(by simpa using c);obtain⟨N,M⟩:=hone_of O i f a;have b:=o i f a;rw[N,M]at b;have q:i<xs.length:=(by rw[R];exact(qn.1 a).1);refine⟨xs[i],qE q, ?_⟩;rw[b,qE q]
   obtain⟨y0,_,J⟩:=step 0 _ V;obtain⟨y1,_,b⟩:=step 1 _ X;obtain⟨y2,_,K⟩:=step 2 _ Y;obtain⟨k0,z,_,w0⟩:=DataW.trod_int Tryz.underlying23 J;obtain⟨k,A,_,Z⟩:=Kn Tryz.underlying24 b;obtain⟨k2,B,_,w2⟩:=DataW.trod_int Tryz.underlying25 K;obtain⟨s,rfl,F⟩:=F7 w0;obtain⟨u,rfl,I⟩:=F8 w2;refine⟨⟨s,k,u⟩, ?_,F,of_decide_eq_true (show decide (k<2 ^ 64)=true from Z),I⟩;have S:c0=.int .u64 (s:Nat):=(by simpa using z);have T:c1=.float .f64 k:=(by simpa using A);have U:c2=.int .u16 (u:Nat):=(by simpa using B);rw[<-Array.toArray_toList (xs:=cs),<-r,S,T,U]
theorem qYn{H:Type}{enc:TypeId × Value->H}{W a:World}{v:Value}{d:DataW H}{p:List MemPlace}
  (f:DataW.Trod enc prog W 0 (fun _=>true) true 27 v d p) (g:∀x∈p,x.block<W.1.size) (c:Below W.1.size W a):
  DataW.Trod enc prog a 0 (fun b=>decide (b<W.1.size)) true 27 v d p :=
 Below.trod Kj (by kernel_rfl) (of_decide_eq_true (by kernel_rfl)) f c g
end
end Go.Proofs.YthejglbnkmimjaaGreat
