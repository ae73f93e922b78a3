import Derived.Test.YthejglbnkmimjaaGreatPp34
import Derived.Test.YthejglbnkmimjaaGreatPp33
import Derived.Test.YthejglbnkmimjaaGreatPp13
import Derived.Test.YthejglbnkmimjaaGreatPp19
set_option linter.unusedVariables false
set_option maxRecDepth 100000
set_option maxHeartbeats 9000000
namespace Go.Proofs.YthejglbnkmimjaaGreat
open Tryz
section
theorem QI{n:Nat}(h:n<=999999):kR (ptT n)=true/\npK (ptT n)=116/\npN (ptT n)=n/\kR (ptB n)=true/\npK (ptB n)=98/\npN (ptB n)=n:=by
 obtain⟨a,b,d⟩:=rN (c:=116) (by decide) h;obtain⟨f,g,i⟩:=rN (c:=98) (by decide) h;exact⟨a,b,d,f,g,i⟩
theorem pv: kR jG=false:=by decide +kernel
theorem Vc: kR zw=false:=by decide +kernel
theorem RS{n:Nat}(h:n<=999999):ptT n≠jG/\ptT n≠zw/\ptB n≠jG/\ptB n≠zw:=by
 obtain⟨a,-,-,b,-,-⟩:=QI h;have m:=pv;have w:=Vc;exact⟨fun e=>by rw[e,m]at a;exact Bool.noConfusion a,fun e=>by rw[e,w]at a;exact Bool.noConfusion a,fun e=>by rw[e,m]at b;exact Bool.noConfusion b,fun e=>by rw[e,w]at b;exact Bool.noConfusion b⟩
theorem RT(T:List TbS):(T.flatMap fun t=>[ptT t.n,ptB t.n]).length=2*T.length:=by
 induction T with
 | nil=>rfl
 | cons t T a =>
   rw[List.flatMap_cons,qI,a,qk];show 2+2*T.length=2*(T.length+1);omega
theorem Vd{D:zr}{n:Tw}(h:n ∉ kM D):jU D.l n=none:=mn.2 fun f a e=>h (qN.2 ⟨f,a,e⟩)
theorem Vf{D:zr}(h:UpD D)(b:(kM D).Nodup)(n:Tw):∃e E,jL D n=(e,E)/\tV e=true/\UpD E/\yH D E/\jX E.l<=jX D.l/\(kM E).Nodup/\(∀k,k∈kM E↔k∈kM D/\k≠n)/\∀k,k≠n->jU E.l k=jU D.l k:=by
 cases c:jU D.l n with
 | none =>
   refine⟨4,D,Zu h.down c,rfl,h,yH.refl D,qZ _,b,fun k=>⟨fun a=>⟨a,fun e=>?_⟩,fun a=>a.1⟩,fun k _=>rfl⟩;obtain⟨f,j,m⟩:=qN.1 a;exact mn.1 c f j (m.trans e)
 | some f =>
   obtain⟨E,d,u1,c1,t,o,u,v,s⟩:=Zb h c;have i:=Pe D n;rw[d]at i
   have g:kM E=(kM D).filter (fun x=>!decide (x=n)):=by
    show E.l.map zi.name=_;rw[o];exact Zf n D.l b
   refine⟨0,E,d,rfl,u1,i,by omega,by rw[g];exact List.Pairwise.filter _ b,fun k=>?_,s⟩;rw[g,List.mem_filter];simp
theorem QL{D:zr}{n:Int}{l:List zn}(a:D.down=false)(h:vH D n l):jl D n=0/\tgL (rdW D (ptT n)).1=l:=by
 obtain⟨f,b,c,d⟩:=h;unfold jl;rw[dD a b,qJ (by rw[a];decide)];simp[c,d]
theorem Vh{x:Tw}(h:isC x=true):kR x=true/\npK x=99:=by
 unfold isC at h;rw[Bool.and_eq_true]at h;exact⟨h.1,by simpa using h.2⟩
theorem Vl{x:Tw}(h:isC x=true):x≠jG/\x≠zw/\∀n:Nat,n<=999999->x≠ptT n/\x≠ptB n:=by
 obtain⟨a,b⟩:=Vh h;have m:=pv;have w:=Vc;refine⟨fun e=>?_,fun e=>?_,fun n f=>?_⟩
 ·rw[e,m]at a;exact Bool.noConfusion a
 ·rw[e,w]at a;exact Bool.noConfusion a
 ·obtain⟨-,c,-,-,d,-⟩:=QI f;refine⟨fun e=>?_,fun e=>?_⟩
  ·rw[e,c]at b;exact absurd b (by decide)
  ·rw[e,d]at b;exact absurd b (by decide)
structure bL(X:List Tw)(D:zr)(S:IxS):Prop where
 up:UpD D
 nodup:(kM D).Nodup
 only:∀n∈kM D,n=jG∨n∈X∨∃t∈S.T,n=ptT t.n∨n=ptB t.n
 xL:∀x∈X,isC x=true
 xC:X.length<=200
theorem bL.many{X:List Tw}{D:zr}{S:IxS}(h:bL X D S)(ok:kX D S):D.l.length<=281:=by
 have a:=QF (b:=jG::(X++S.T.flatMap fun t=>[ptT t.n,ptB t.n])) h.nodup (fun n c=>by
  rcases h.only n c with e|e|⟨t,d,e⟩
  ·rw[e];exact qB
  ·exact qF _ (qA _ e)
  ·refine qF _ (qV _ (List.mem_flatMap.2 ⟨t,d, ?_⟩));rcases e with e|e<;>rw[e]<;>simp)
 have f:(kM D).length=D.l.length:=qj _;rw[qk,qI,RT]at a;have:=ok.xG;have:=h.xC;omega
theorem bL.count{X:List Tw}{D:zr}{S:IxS}(h:bL X D S)(k:Nat):bL X { D with count:=k } S:=⟨h.up.count k,h.nodup,h.only,h.xL,h.xC⟩
end
def uy(n:Nat):List Tw:=(List.range n).map nmC
theorem py{n:Nat}{x:Tw}:x∈uy n↔∃i,i<n/\x=nmC i:=by
 unfold uy;rw[qN];constructor
 ·rintro ⟨i,h,e⟩;exact⟨i,List.mem_range.1 h,e.symm⟩
 ·rintro ⟨i,h,e⟩;exact⟨i,List.mem_range.2 h,e.symm⟩
theorem R1{n:Nat}(h:n<=200):∀x∈uy n,isC x=true:=fun x a=>by
 obtain⟨i,b,rfl⟩:=py.1 a;exact(fE (by omega)).1
theorem R5(n:Nat):(uy n).length=n:=by unfold uy;rw[qj,List.length_range]
theorem R6{n:Nat}(h:n<=999999):isC (ptT n)=false/\isC (ptB n)=false:=by
 have g:∀x:Tw,(x=ptT n∨x=ptB n)->isC x=false:=fun x a=>by
  cases q:isC x with
  | false=>rfl
  | true =>
    have:=(Vl q).2.2 n h;rcases a with e|e
    ·exact absurd e this.1
    ·exact absurd e this.2
 exact⟨g _ (qX rfl),g _ (qY rfl)⟩
theorem Vm: isC jG=false:=by unfold isC;rw[pv];rfl
theorem kX.data{D E:zr}{S:IxS}(ok:kX D S)(h:∀t∈S.T,(jU E.l (ptT t.n)).map zi.data=(jU D.l (ptT t.n)).map zi.data):kX E S:=by
 refine⟨ok.may,ok.seed,ok.xU,ok.uniq,fun t b=>?_,ok.keep,ok.qo,ok.ok,ok.mayE⟩;obtain⟨f,d,g,i⟩:=ok.has t b;have e:=h t b;rw[d]at e;obtain⟨c,j,a⟩:=Option.map_eq_some_iff.1 (e:(jU E.l (ptT t.n)).map zi.data=some f.data);exact⟨c,j,by rw[a];exact g,by rw[a];exact i⟩
theorem kX.zT{D E:zr}{S:IxS}(ok:kX D S)(h:kD D E):kX E S:=ok.data fun t _=>h.data _
section
variable {D E:zr}{S S':IxS}{L M:jV}{chs chs':List (List Tw)}
theorem bL.app{p:Tw}{q:Nat}(dk:bL (uy chs.length) D S)(ok:kX D S)(a:dM D L chs p q E M chs')(hw:WfP E)(d:(kM E).Nodup):kX E S/\bL (uy chs'.length) E S:=by
 have b:=a.xQ.many;refine⟨ok.data fun t g=>a.others _ (R6 (by have:=(ok.xz g).1;omega)).1,⟨a.xQ.up,a.xQ.fails,hw⟩,d,fun n f=>?_,R1 b,by rw[R5];exact b⟩;rcases a.names n f with k|k
 ·rcases dk.only n k with e|e|e
  ·exact qX e
  ·refine qY (qX ?_);obtain⟨i,j,e⟩:=py.1 e;have:=a.length
   have l:chs.length<=chs'.length:=by
    rw[a.chunks];unfold plC;split
    ·rename_i c
     have:0<chs.length:=by
      unfold uB at c;exact(of_decide_eq_true c).1
     rw[qI,List.length_dropLast];simp;omega
    ·simp
   exact py.2 ⟨i,by omega,e⟩
  ·exact qY (qY e)
 ·exact qY (qX (py.2 k))
theorem vi.xc(h:vi D L chs)(e:E.qn=D.qn):vi E L chs:=⟨e.trans h.qn,h.xV,h.endp,h.sure⟩
end
section
structure cV(X:List Tw)(D:zr):Prop where
 up:UpD D
 nodup:(kM D).Nodup
 only:∀n∈kM D,n=jG∨n=zw∨n∈X∨∃k:Nat,k<=999999/\(n=ptT k∨n=ptB k)
 xL:∀x∈X,isC x=true
 xC:X.length<=200
theorem cV.count{X:List Tw}{D:zr}(h:cV X D)(k:Nat):cV X { D with count:=k }:=⟨h.up.count k,h.nodup,h.only,h.xL,h.xC⟩
structure pg(D E:zr)(p:Tw->Prop):Prop where
 up:UpD E
 stays:yH D E
 used:jX E.l<=jX D.l
 nodup:(kM E).Nodup
 names:∀k,k∈kM E↔k∈kM D/\p k
 other:∀k,p k->jU E.l k=jU D.l k
theorem Vn: ∀(a:List Tw) {D:zr},UpD D->(kM D).Nodup->a.Nodup->(∀n∈a,n∈kM D)->∃E,cI D a=(0,E)/\pg D E (fun k=>k ∉ a)
 | [],D,h,hd,hn,hm=>⟨D,rfl,h,yH.refl D,qZ _,hd,fun k=>by simp,fun k _=>rfl⟩
 | n::a,D,h,hd,hn,hm=>by
   obtain⟨o,s⟩:=List.nodup_cons.1 hn;obtain⟨e,z,c,C,u1,v,y,j,g,u⟩:=Vf h hd n;obtain⟨f,t⟩:=DT (hm n qB);obtain⟨A,l,-⟩:=Zb h t;obtain⟨rfl,rfl⟩:=Prod.mk.inj (c.symm.trans l);obtain⟨i,m,L⟩:=Vn a u1 j s (fun x d=>(g x).2 ⟨hm x (qF _ d),fun q=>o (q ▸ d)⟩);refine⟨i, ?_,L.up,v.trans L.stays,qR L.used y,L.nodup,fun k=>?_,fun k b=>?_⟩
   ·unfold cI;rw[c];simpa using m
   ·rw[L.names,g];simp only[List.mem_cons,not_or];exact⟨fun q=>⟨q.1.1,q.1.2,q.2⟩,fun q=>⟨⟨q.1,q.2.1⟩,q.2.2⟩⟩
   ·simp only[List.mem_cons,not_or]at b;rw[L.other k b.2,u k b.1]
theorem R7{D:zr}(h:UpD D)(a:(kM D).Nodup)(m:jS):∃E,fU D m=(0,E)/\pg D E (fun k=>ya m.lv.flatten k=false∨k ∉ kM D):=by
 obtain⟨E,b,L⟩:=Vn (ye (kM D) m) h a (a.filter _) (fun n d=>(List.mem_filter.1 d).1)
 have e:∀k,k ∉ ye (kM D) m↔(ya m.lv.flatten k=false∨k ∉ kM D):=fun k=>by
  unfold ye;rw[List.mem_filter];cases ya m.lv.flatten k<;>simp
 refine⟨E, ?_,L.up,L.stays,L.used,L.nodup,fun k=>by rw[L.names,e],fun k c=>L.other k ((e k).2 c)⟩;unfold fU;rw[qJ (by simp[h.down])];exact b
theorem R8{x:Tw}(h:isC x=true)(a:List Int):ya a x=false:=by
 obtain⟨c,b⟩:=Vh h;unfold ya;rw[b];simp[(Vl h).2.1]
theorem Vp{n:Nat}(h:n<=999999)(a:List Int):ya a (ptT n) = !decide ((n:Int)∈a)/\ya a (ptB n) = !decide ((n:Int)∈a):=by
 obtain⟨b,c,d,g,i,j⟩:=QI h;have f:=RS h;unfold ya;rw[b,c,d,g,i,j];simp[f.2.1,f.2.2.2]
theorem R9(a:List Int):ya a jG=false:=by
 unfold ya;rw[pv];simp[DP]
theorem pg.dk{X:List Tw}{D E:zr}{S:IxS}{m:jS}(c:cV X D)(i:m.lv.flatten=S.m.lv.flatten)(L:pg D E (fun k=>ya m.lv.flatten k=false∨k ∉ kM D))(ok:kX D S):kX E S/\bL X E S/\(∀k,isC k=true->jU E.l k=jU D.l k)/\jU E.l jG=jU D.l jG:=by
 refine⟨ok.data fun t b=>?_,⟨L.up,L.nodup,fun n s=>?_,c.xL,c.xC⟩,fun k d=>L.other k (qX (R8 d _)),L.other _ (qX (R9 _))⟩
 ·have z:=(ok.xz b).1;rw[L.other _ (qX ?_)];rw[(Vp (by omega) _).1,i,qW ((ok.xU _).2 ⟨t,b,rfl⟩)];rfl
 ·obtain⟨f,o⟩:=(L.names n).1 s;have a:ya m.lv.flatten n=false:=o.resolve_right (fun q=>q f);rcases c.only n f with e|e|e|⟨k,d,e⟩
  ·exact qX e
  ·rw[e]at a;unfold ya at a;simp at a
  ·exact qY (qX e)
  ·have g:(k:Int)∈m.lv.flatten:=by
    obtain⟨u,v⟩:=Vp d m.lv.flatten;rcases e with e|e
    ·rw[e,u]at a;simpa using a
    ·rw[e,v]at a;simpa using a
   rw[i]at g;obtain⟨t,b,y⟩:=(ok.xU _).1 g;have j:t.n=k:=(by omega);exact qY (qY ⟨t,b,by rw[j];exact e⟩)
theorem Vr{D E:zr}{chs:List (List Tw)}(g:js D chs)(j:UpD E)(d:∀k∈kM E,k∈kM D)(t:∀k,isC k=true->jU E.l k=jU D.l k):js E chs:=by
 have y:=g.many;refine⟨j.down,j.fails,g.many,fun i u c=>?_,g.small,fun f a b=>?_,Vd fun q=>?_⟩
 ·obtain⟨f,n,o⟩:=g.files i u c;have v:=(qM.1 c).1;exact⟨f,by rw[t _ (fE (by omega)).1];exact n,o⟩
 ·obtain⟨m,s,e⟩:=qN.1 (d f.name (qN.2 ⟨f,a,rfl⟩));rw[<-e]at b ⊢;exact g.only m s b
 ·obtain⟨f,a,e⟩:=qN.1 (d _ q);exact mn.1 g.xq f a e
theorem Rq{D:zr}(a:D.down=false){m:jS}(c:jr m)(g:m.seed<18446744073709551616)(h:(jU D.l jG).map zi.data=some (mfB m)):vE D=0/\j5 D=ga m/\gV D={ D with count:=D.count+1 }:=by
 obtain⟨f,b,e⟩:=Option.map_eq_some_iff.1 h;have d:=dD a b;obtain⟨i,j⟩:=Gq c g;unfold vE j5 gV;rw[d];simp only[e];exact⟨by rw[qJ (by decide),i],by rw[qJ (by decide),j],trivial⟩
theorem Rx{D:zr}(a:D.down=false)(h:jU D.l jG=none):vE D≠0/\gV D=D:=by
 have b:=fY a h;unfold vE gV;rw[b];exact⟨by simp,rfl⟩
theorem Rz(m:jS):(ga m).lv.flatten=m.lv.flatten:=ng m.lv
end
def ki(seed:Nat)(x:Nat × Tw):List zn:=(List.range (bgL x.2).length).map fun i=>⟨jc seed (bgS x.2).data.toList,bgF x.2+(i:Nat),(x.1:Nat)⟩
def vM(seed:Nat)(l:List (Nat × Tw)):List zn:=l.flatMap (ki seed)
theorem fR{seed:Nat}{l:List (Nat × Tw)}{y:zn}:y∈vM seed l↔∃x∈l,y∈ki seed x:=List.mem_flatMap
theorem Rj(seed:Nat)(l:List (Nat × Tw))(x:Nat × Tw)(y:zn):y∈vM seed (l++[x])↔y∈vM seed l∨y∈ki seed x:=by
 unfold vM;rw[List.flatMap_append,qC];simp
structure gE(seed:Nat)(S:IxS)(chs:List (List Tw)):Prop where
 sd:S.m.seed=seed
 whole:∀x∈zo 0 chs,kK x.2=true
 has:∀y,cZ S y↔y∈vM seed (zo 0 chs)
 xR:∀x∈zo 0 chs,(x.1:Int)<S.m.check->∀y∈ki seed x,∃t∈S.T,y∈t.l
 check:S.m.check<=(jn chs:Nat)
 fresh:∀y∈S.mem,∃x∈zo 0 chs,S.m.check<=(x.1:Int)/\y∈ki seed x
 xW:S.T.length<=((zo 0 chs).filter fun x=>decide ((x.1:Int)<S.m.check)).length
section
variable {seed:Nat}{S S':IxS}{chs chs':List (List Tw)}{D E:zr}
theorem Rk{D:zr}(g:js D chs):∀x∈zo 0 chs,x.1<jn chs:=by
 intro x o;have n:=(fF chs 0 (fun d c=>(g.small d c).1))
 have l:=KF chs (fun d c=>(g.small d c).1);obtain⟨i,a⟩:=List.getElem?_of_mem o;have b:=(qM.1 a).1
 have m:x.1+12<=cT (zo 0 chs) (zo 0 chs).length:=by
  unfold cT;rw[qJ (by omega)];have f:(zo 0 chs)[(zo 0 chs).length-1]? = some ((zo 0 chs)[(zo 0 chs).length-1]'(by omega)):=qD _;rw[f];show x.1+12<=kx _;by_cases e:i=(zo 0 chs).length-1
  ·subst e;rw[f]at a;obtain rfl:=qv a;unfold kx;omega
  ·have:=List.pairwise_iff_getElem.1 n.1 i ((zo 0 chs).length-1) b (by omega) (by omega)
   have j:(zo 0 chs)[i]'b=x:=by
    rw[qD b]at a;exact qv a
   rw[j]at this;unfold kx at this ⊢;omega
 rcases l with e|⟨s,t⟩
 ·rw[e]at m;omega
 ·omega
theorem gE.append(h:gE seed S chs){q:Nat}{p:Tw}(l:kK p=true)(b:zo 0 chs'=zo 0 chs++[(q,p)])(u:jn chs<=q)(t:q<=jn chs')(o:∀y,cZ S' y↔cZ S y∨y∈ki seed (q,p))(g:S'.T=S.T)(c:S'.m=S.m)(n:∀y∈S'.mem,y∈S.mem∨y∈ki seed (q,p)):gE seed S' chs':=by
 have s:=h.check;refine⟨by rw[c];exact h.sd,fun x a=>?_,fun y=>?_,fun x a d y f=>?_,by rw[c];omega,fun y f=>?_, ?_⟩
 ·rw[b]at a;rcases qC.1 a with k|k
  ·exact h.whole x k
  ·rw[qE.1 k];exact l
 ·rw[o,h.has,b,Rj]
 ·rw[b]at a;rw[g];rw[c]at d;rcases qC.1 a with k|k
  ·exact h.xR x k d y f
  ·rw[qE.1 k]at d;simp only at d;omega
 ·rw[c,b];rcases n y f with k|k
  ·obtain⟨x,a,i,j⟩:=h.fresh y k;exact⟨x,qA _ a,i,j⟩
  ·exact⟨(q,p),qV _ (qE.2 rfl),by simp only;omega,k⟩
 ·rw[g,c,b,List.filter_append,qI];have:=h.xW;omega
theorem gE.opened(h:gE seed S chs)(d:S'.m.check=S.m.check)(n:S'.m.seed=S.m.seed)(g:∀y,(∃t∈S'.T,y∈t.l)↔∃t∈S.T,y∈t.l)(f:∀y,y∈S'.mem↔∃x∈zo 0 chs,S.m.check<=(x.1:Int)/\y∈ki seed x)(i:S'.T.length<=S.T.length):gE seed S' chs:=by
 refine⟨n.trans h.sd,h.whole,fun y=>?_,fun x b j y a=>(g y).2 (h.xR x b (by rw[<-d];exact j) y a),by rw[d];exact h.check,fun y a=>by rw[d];exact(f y).1 a,by rw[d];exact qR i h.xW⟩;rw[fR];constructor
 ·rintro (q|q)
  ·obtain⟨x,b,-,a⟩:=(f y).1 q;exact⟨x,b,a⟩
  ·exact fR.1 ((h.has y).1 (qY ((g y).1 q)))
 ·rintro ⟨x,b,a⟩;rcases Int.lt_or_le (x.1:Int) S.m.check with c|c
  ·exact qY ((g y).2 (h.xR x b c y a))
  ·exact qX ((f y).2 ⟨x,b,c,a⟩)
theorem Ry(hw:∀x∈zo 0 chs,kK x.2=true)(i:S'.m.seed=seed)(a:S'.m.check=0)(c:S'.T=[])(b:∀y,y∈S'.mem↔∃x∈zo 0 chs,y∈ki seed x):gE seed S' chs:=by
 refine⟨i,hw,fun y=>?_,fun x d g=>by rw[a]at g;omega,by rw[a];omega,fun y j=>by
  obtain⟨x,d,f⟩:=(b y).1 j;exact⟨x,d,by rw[a];omega,f⟩,by rw[c];exact qH _⟩
 rw[fR,<-b];unfold cZ;rw[c];simp
theorem Vs{x:Nat × Tw}(h:kK x.2=true)(t:x.1<=2147483647):∀y∈ki seed x,vP y/\mayE y=true:=by
 intro y b;unfold ki at b;obtain⟨i,a,rfl⟩:=qN.1 b;have a:=List.mem_range.1 a;obtain⟨-,o,s,-,-,c⟩:=br h;obtain⟨f,g,j,l,m,n,-⟩:=gU.1 c;have d:jc seed (bgS x.2).data.toList<18446744073709551616:=rK _ _;refine⟨⟨d,by show _<=bgF x.2+(i:Nat);omega,by show bgF x.2+(i:Nat)<=_;omega,by show _<=((x.1:Nat):Int);omega,by show((x.1:Nat):Int)<=_;omega⟩, ?_⟩;unfold mayE;exact qW ⟨by show 0<=bgF x.2+(i:Nat);omega,by show 0<=((x.1:Nat):Int);omega⟩
end
section
theorem QM{L:List Rec}(h:gY L){p:Nat}{x:Rec}(f:L.find? (fun z=>decide (p<=z.1))=some x):x∈L/\p<=x.1/\∀z∈L,z.1<kx x↔z.1<p∨z=x:=by
 obtain⟨g,m,n,rfl,d⟩:=List.find?_eq_some_iff_append.1 f;have i:p<=x.1:=of_decide_eq_true g;have j:x.1<kx x:=by unfold kx;omega
 refine⟨qV _ qB,i,fun z l=>?_⟩;have b:=(List.pairwise_append.1 h).2.1;have c:=(List.pairwise_cons.1 b).1;rcases qC.1 l with k|k
 ·have a:=d z k;simp at a;exact⟨fun _=>qX a,fun _=>by omega⟩
 ·rcases qL.1 k with e|k
  ·subst e;exact⟨fun _=>qY rfl,fun _=>j⟩
  ·have:=c z k
   exact⟨fun q=>by omega,fun q=>by
    rcases q with q|q
    ·omega
    ·rw[q]at this;omega⟩
theorem Ru{L:List Rec}{p:Nat}(a:L.find? (fun z=>decide (p<=z.1))=none):∀z∈L,z.1<p:=fun z b=>by
 have:=List.find?_eq_none.1 a z b;simp at this;exact this
def lx(L:List Rec)(p:Nat):Nat:=(L.filter fun z=>decide (p<=z.1)).length
theorem Vt(L:List Rec)(p:Nat):lx L p<=L.length:=List.length_filter_le _ _
theorem Rb{L:List Rec}(h:gY L){p:Nat}{x:Rec}(c:L.find? (fun z=>decide (p<=z.1))=some x):lx L (kx x)+1<=lx L p:=by
 obtain⟨a,b,d⟩:=QM h c;have f:x.1<kx x:=by unfold kx;omega
 have e:L.filter (fun z=>decide (kx x<=z.1))=(L.filter (fun z=>decide (p<=z.1))).filter (fun z=>decide (kx x<=z.1)):=by
  rw[List.filter_filter];refine List.filter_congr fun z _=>?_
  by_cases q:kx x<=z.1
  ·rw[qW q,qW (show p<=z.1 by omega)];rfl
  ·rw[qG q];rfl
 unfold lx;rw[e];exact List.length_filter_lt_length_iff_exists.2 ⟨x,List.mem_filter.2 ⟨a,qW b⟩,by simp;omega⟩
def bM(seed:Nat)(L:List Rec)(c p:Nat)(M:List zn):Prop:=∀y,y∈M↔∃x∈L,c<=x.1/\x.1<p/\y∈ki seed x
theorem bM.start(seed:Nat)(L:List Rec)(c:Nat):bM seed L c c []:=fun y=>⟨fun h=>(by cases h),fun⟨x,_,a,b,_⟩=>by omega⟩
theorem bM.step{seed:Nat}{L:List Rec}{c p:Nat}{M i:List zn}(h:bM seed L c p M)(n:gY L){x:Rec}(l:L.find? (fun z=>decide (p<=z.1))=some x)(s:c<=p)(m:∀y,y∈i↔y∈M∨y∈ki seed x):bM seed L c (kx x) i:=by
 obtain⟨j,o,d⟩:=QM n l;intro y;rw[m,h];constructor
 ·rintro (⟨z,a,f,g,b⟩|q)
  ·exact⟨z,a,f,(d z a).2 (qX g),b⟩
  ·exact⟨x,j,by omega,(d x j).2 (qY rfl),q⟩
 ·rintro ⟨z,a,f,g,b⟩;rcases(d z a).1 g with k|k
  ·exact qX ⟨z,a,f,k,b⟩
  ·rw[k]at b;exact qY b
theorem bM.done{seed:Nat}{L:List Rec}{c p:Nat}{M:List zn}(h:bM seed L c p M)(f:L.find? (fun z=>decide (p<=z.1))=none):∀y,y∈M↔∃x∈L,(c:Int)<=(x.1:Int)/\y∈ki seed x:=fun y=>by
 have d:=Ru f;rw[h];exact⟨fun⟨x,a,g,_,b⟩=>⟨x,a,by omega,b⟩,fun⟨x,a,g,b⟩=>⟨x,a,by omega,d x a,b⟩⟩
theorem bM.len{seed:Nat}{L:List Rec}{c p:Nat}{M:List zn}(h:bM seed L c p M)(a:jj M):M.length<=(vM seed L).length:=dT a fun y b=>by
 obtain⟨x,d,_,_,f⟩:=(h y).1 b;exact fR.2 ⟨x,d,f⟩
theorem Va: ∀(ps:List Tw) (k:Nat) (x:Rec),x∈vS k ps->x.2∈ps
 | [],_,_,h=>by cases h
 | p::ps,k,x,h=>by
   rcases qL.1 h with e|h
   ·rw[e];exact qB
   ·exact qF _ (Va ps _ x h)
theorem Ve: ∀(chs:List (List Tw)) (i:Nat) (x:Rec),x∈zo i chs->∃a∈chs,x.2∈a
 | [],_,_,h=>by cases h
 | a::r,i,x,h=>by
   rcases qC.1 h with h|h
   ·exact⟨a,qB,Va _ _ _ h⟩
   ·obtain⟨q,b,c⟩:=Ve r (i+1) x h;exact⟨q,qF _ b,c⟩
theorem Vi{D:zr}{chs:List (List Tw)}(g:js D chs){x:Rec}(h:x∈zo 0 chs):x.2.size<=2000:=by
 obtain⟨c,a,b⟩:=Ve chs 0 x h;exact(g.small c a).2 _ b
theorem Vo{D D':zr}(a:D.down=false)(k:kD D D')(n:Tw):(rdW D' n).1=(rdW D n).1/\(rdW D' n).2.1=(rdW D n).2.1:=by
 have e:=k.data n;have b:=k.down.trans a;cases h:jU D.l n with
 | none =>
   rw[h]at e
   have d:jU D'.l n=none:=by cases q:jU D'.l n with
    | none=>rfl
    | some f=>rw[q]at e;cases e
   rw[fY a h,fY b d];exact⟨rfl,rfl⟩
 | some f =>
   rw[h]at e;obtain⟨i,g,c⟩:=Option.map_eq_some_iff.1 (e:(jU D'.l n).map zi.data=some f.data);rw[dD a h,dD b g,c];exact⟨rfl,rfl⟩
theorem Rc{D D':zr}(c:D.down=false)(k:kD D D')(n:Int):jl D' n=jl D n:=by
 obtain⟨a,b⟩:=Vo c k (ptT n);unfold jl;rw[a,b,k.down]
structure jN where
 s:Tw
 v:Int
 e:jD
def gq(s:Tw)(f:Int)(l:List jD):List jN:=l.mapIdx fun i x=>⟨s,f+(i:Nat),x⟩
theorem Vw(s:Tw)(f:Int)(l:List jD):(gq s f l).length=l.length:=List.length_mapIdx
theorem lz(s:Tw)(f:Int)(l:List jD)(i:Nat):(gq s f l)[i]? = (l[i]?).map fun x=>⟨s,f+(i:Nat),x⟩:=List.getElem?_mapIdx
theorem YQ{s:Tw}{f:Int}{l:List jD}{x:jN}(h:x∈gq s f l):x.s=s:=by
 obtain⟨i,a⟩:=List.getElem?_of_mem h;rw[lz]at a;obtain⟨y,-,rfl⟩:=Option.map_eq_some_iff.1 a;rfl
theorem Rf(s:Tw)(f:Int)(l:List jD):(gq s f l).map jN.v=(List.range l.length).map fun i=>f+((i:Nat):Int):=by
 refine List.ext_getElem? fun i=>?_
 rw[qz,lz,qz];by_cases h:i<l.length
 ·rw[qD h,List.getElem?_range h];rfl
 ·rw[List.getElem?_eq_none (by omega),List.getElem?_eq_none (by rw[List.length_range];omega)];rfl
def cY(p:Tw):List jN:=gq (bgS p) (bgF p) (bgL p)
def jT(l:List Rec):List jN:=l.flatMap fun x=>cY x.2
theorem Rh(l:List Rec)(x:Rec):jT (l++[x])=jT l++cY x.2:=by unfold jT;rw[List.flatMap_append];simp
theorem pb: ∀(l:List Rec),(∀x∈l,kK x.2=true)->(jT l).length<=8*l.length
 | [],_=>qZ _
 | x::l,h=>by
   have ih:=pb l (fun y b=>h y (qF _ b));have e:jT (x::l)=cY x.2++jT l:=rfl;rw[e,qI,qk];obtain⟨-,-,-,-,-,a⟩:=br (h x qB);obtain⟨-,-,-,c,-⟩:=gU.1 a;have:(cY x.2).length=(bgL x.2).length:=Vw _ _ _;omega
def ofT(s:Tw)(T:List jN):List jN:=T.filter fun x=>decide (x.s=s)
theorem Rl(s:Tw)(A B:List jN):ofT s (A++B)=ofT s A++ofT s B:=List.filter_append ..
theorem nI{s:Tw}{T:List jN}{x:jN}:x∈ofT s T↔x∈T/\x.s=s:=by unfold ofT;rw[List.mem_filter,decide_eq_true_iff]
theorem Rm(s:Tw)(f:Int)(l:List jD):ofT s (gq s f l)=gq s f l:=List.filter_eq_self.2 fun x a=>qW (YQ a)
theorem Rn{s t:Tw}(h:t≠s)(f:Int)(l:List jD):ofT s (gq t f l)=[]:=List.filter_eq_nil_iff.2 fun x a=>by rw[YQ a];simpa using h
def yu(T:List jN):Prop:=∀s,(ofT s T).map jN.v=(List.range (ofT s T).length).map fun i=>((i:Nat):Int)
theorem yu.nil: yu []:=fun s=>rfl
theorem yu.snoc{T:List jN}(h:yu T)(s:Tw)(l:List jD):yu (T++gq s ((ofT s T).length:Nat) l):=by
 intro t;rw[Rl];by_cases e:s=t
 ·subst e;rw[Rm,List.map_append,h s,Rf,qI,Vw,List.range_add,List.map_append,List.map_map];congr 1
 ·rw[Rn e,List.append_nil];exact h t
theorem yu.at_{T:List jN}(h:yu T){s:Tw}{i:Nat}{x:jN}(a:(ofT s T)[i]? = some x):x.v=(i:Nat):=by
 have e:=congrArg (fun l=>l[i]?) (h s);simp only[List.getElem?_map]at e;have b:=(qM.1 a).1;rw[a,List.getElem?_range b]at e;exact qv e
theorem yu.qo{T:List jN}(h:yu T)(s:Tw):(ofT s T).Pairwise fun a b=>a.v<b.v:=by
 refine List.pairwise_iff_getElem.2 fun i j c d f=>?_
 rw[h.at_ (qD c),h.at_ (qD d)];omega
theorem yu.xm{T:List jN}(h:yu T):T.Pairwise fun a b=>a.s=b.s->a.v<b.v:=by
 refine List.pairwise_iff_getElem.2 fun i j d g f e=>?_
 have c:=List.pairwise_filter.1 (h.qo T[j].s);have:=List.pairwise_iff_getElem.1 c i j d g f;exact this (qW e) (qW rfl)
theorem YX: ∀ {a b:List jN},a.Pairwise (fun x y=>x.v<y.v)->b.Pairwise (fun x y=>x.v<y.v)->(∀y,y∈a↔y∈b)->a=b
 | [],[],_,_,_=>rfl
 | [],y::b,_,_,h=>absurd ((h y).2 qB) (by simp)
 | x::a,[],_,_,h=>absurd ((h x).1 qB) (by simp)
 | x::a,y::b,ha,hb,h=>by
   obtain⟨d,g⟩:=List.pairwise_cons.1 ha;obtain⟨f,i⟩:=List.pairwise_cons.1 hb
   have e:x=y:=by
    rcases qL.1 ((h x).1 qB) with k|k
    ·exact k
    ·rcases qL.1 ((h y).2 qB) with j|j
     ·exact j.symm
     ·have l:=f x k;have m:=d y j;omega
   subst e
   rw[YX g i fun z=>⟨fun c=>by
    rcases qL.1 ((h z).1 (qF _ c)) with k|k
    ·subst k;have:=d z c;omega
    ·exact k,fun c=>by
    rcases qL.1 ((h z).2 (qF _ c)) with k|k
    ·subst k;have:=f z c;omega
    ·exact k⟩]
def kN(s:Tw)(a b:Int)(T:List jN):List jN:=(ofT s T).filter fun x=>decide (a<=x.v/\x.v<=b)
theorem nL{s:Tw}{a b:Int}{T:List jN}{x:jN}:x∈kN s a b T↔x∈ofT s T/\a<=x.v/\x.v<=b:=by unfold kN;rw[List.mem_filter,decide_eq_true_iff]
def nM(l:List Rec)(q:Nat):Tw:=((l.find? fun x=>decide (x.1=q)).map (·.2)).getD ByteArray.empty
theorem QN{l:List Rec}(d:gY l){i j:Nat}{x y:Rec}(f:l[i]? = some x)(g:l[j]? = some y)(h:x.1<=y.1):i<=j:=by
 rcases Nat.lt_or_ge j i with c|c
 ·obtain⟨a,rfl⟩:=qM.1 f;obtain⟨b,rfl⟩:=qM.1 g;have:=List.pairwise_iff_getElem.1 d j i b a c;unfold kx at this;omega
 ·exact c
theorem YZ{l:List Rec}(c:gY l){x y:Rec}(d:x∈l)(f:y∈l)(h:x.1=y.1):x=y:=by
 obtain⟨i,b⟩:=List.getElem?_of_mem d;obtain⟨j,a⟩:=List.getElem?_of_mem f;have g:=QN c b a (by omega);have m:=QN c a b (by omega);obtain rfl:i=j:=by omega
 rw[b]at a;exact qv a
theorem Rp{l:List Rec}(f:gY l){x:Rec}(b:x∈l):nM l x.1=x.2:=by
 unfold nM;cases a:l.find? fun y=>decide (y.1=x.1) with
 | none =>
   have:=List.find?_eq_none.1 a x b;simp at this
 | some y =>
   have c:=List.find?_some a;have d:=List.mem_of_find?_eq_some a;have:y=x:=YZ f d b (of_decide_eq_true c);rw[this];rfl
def lj: jD:=⟨ByteArray.empty,ByteArray.empty,0⟩
def yM(l:List Rec)(s:Tw)(e:zn):List jN:=if bgS (nM l e.p.toNat)=s then [⟨s,e.v,(bgL (nM l e.p.toNat)).getD (e.v-bgF (nM l e.p.toNat)).toNat lj⟩] else []
theorem nN{seed:Nat}{l:List Rec}{e:zn}(h:e∈vM seed l):∃x∈l,∃i,i<(bgL x.2).length/\e=⟨jc seed (bgS x.2).data.toList,bgF x.2+(i:Nat),(x.1:Nat)⟩:=by
 obtain⟨x,c,a⟩:=fR.1 h;unfold ki at a;obtain⟨i,b,rfl⟩:=qN.1 a;exact⟨x,c,i,List.mem_range.1 b,rfl⟩
theorem nO{seed:Nat}{l:List Rec}(a:gY l){x:Rec}(b:x∈l)(s:Tw){i:Nat}(hi:i<(bgL x.2).length)(h:Nat):
  yM l s ⟨h,bgF x.2+(i:Nat),(x.1:Nat)⟩=if bgS x.2=s then [⟨s,bgF x.2+(i:Nat),(bgL x.2).getD i lj⟩] else []:=by
 unfold yM;simp only[Int.toNat_natCast];rw[Rp a b,show(bgF x.2+(i:Int)-bgF x.2).toNat=i by omega]
theorem pc{p:Tw}{i:Nat}(hi:i<(bgL p).length):(⟨bgS p,bgF p+(i:Nat),(bgL p).getD i lj⟩:jN)∈cY p:=by
 refine qO (i:=i) ?_;unfold cY;rw[lz,qD hi];simp[List.getD_eq_getElem?_getD,List.getElem?_eq_getElem hi]
theorem Rr{seed:Nat}{l:List Rec}(t:gY l)(W:yu (jT l)){R:List zn}(hR:jj R)(s:Tw)(a b:Int)
  (z:∀y,y∈R↔y∈vM seed l/\y.h=jc seed s.data.toList/\a<=y.v/\y.v<=b):R.flatMap (yM l s)=kN s a b (jT l):=by
 refine YX (List.pairwise_flatMap.2 ⟨fun e T=>?_, ?_⟩) (List.Pairwise.filter _ (W.qo s)) fun x=>?_
 ·unfold yM;split
  ·exact List.pairwise_singleton _ _
  ·exact List.Pairwise.nil
 ·have U:=W.xm;unfold jT at U;have aa:=(List.pairwise_flatMap.1 U).2;refine List.Pairwise.imp_of_mem (R:=fun x y=>jE x y=true) (fun {n o} m1 m2 H x d y j=>?_) hR;obtain⟨I,P,-,-⟩:=(z n).1 m1;obtain⟨n2,C,-,-⟩:=(z o).1 m2;obtain⟨m,g,i1,f,rfl⟩:=nN I;obtain⟨r2,Y,i2,X,rfl⟩:=nN n2;rw[nO (seed:=seed) t g s f]at d;rw[nO (seed:=seed) t Y s X]at j;split at d
  ·split at j
   ·rename_i J q2;rw[qE.1 d,qE.1 j];simp only;rw[dY]at H;simp only at H P C;rcases H with c|⟨-,c|⟨c1,c2⟩⟩
    ·omega
    ·exact c
    ·exfalso;obtain⟨K,n⟩:=List.getElem?_of_mem g;obtain⟨O,o⟩:=List.getElem?_of_mem Y;have ab:K<=O:=QN t n o (by omega);have ac:K≠O:=fun e=>by rw[e,o]at n;obtain rfl:=qv n;omega
     obtain⟨h1,Z⟩:=qM.1 n;obtain⟨u,f2⟩:=qM.1 o;have:=List.pairwise_iff_getElem.1 aa K O h1 u (by omega);rw[Z,f2]at this;have:=this _ (pc f) _ (pc X) (by rw[J,q2]);simp only at this;omega
   ·cases j
  ·cases d
 ·rw[List.mem_flatMap,nL,nI];constructor
  ·rintro ⟨e,T,d⟩;obtain⟨I,P,C,g3⟩:=(z e).1 T;obtain⟨m,g,i1,f,rfl⟩:=nN I;rw[nO (seed:=seed) t g s f]at d;split at d
   ·rename_i J;have V:=pc f;rw[J]at V;rw[qE.1 d];exact⟨⟨List.mem_flatMap.2 ⟨m,g,V⟩,rfl⟩,C,g3⟩
   ·cases d
  ·rintro ⟨⟨d,A⟩,u,Q⟩;obtain⟨m,g,d⟩:=List.mem_flatMap.1 d;obtain⟨i,F⟩:=List.getElem?_of_mem d;unfold cY at F;rw[lz]at F;obtain⟨y,j,rfl⟩:=Option.map_eq_some_iff.1 F;have f:=(qM.1 j).1;simp only at A u Q;refine⟨⟨jc seed (bgS m.2).data.toList,bgF m.2+(i:Nat),(m.1:Nat)⟩,(z _).2 ⟨fR.2 ⟨m,g, ?_⟩,by rw[<-A],u,Q⟩, ?_⟩
   ·exact qN.2 ⟨i,List.mem_range.2 f,rfl⟩
   ·rw[nO (seed:=seed) t g s f,qK A,qu,j,A];exact qE.2 rfl
def uu(s:Tw)(T:List jN):Int:=((ofT s T).length:Nat)-1
theorem Rs{T:List jN}(h:yu T){s:Tw}{a b:Int}(g:∀x∈ofT s T,x.v<=b){x:jN}(t:(kN s a b T).getLast? = some x):x.v=uu s T:=by
 have e:kN s a b T=(ofT s T).filter fun x=>decide (a<=x.v):=List.filter_congr fun y d=>by
  have:=g y d;exact decide_eq_decide.2 ⟨fun k=>k.1,fun k=>⟨k,this⟩⟩
 have m:x∈kN s a b T:=List.mem_of_getLast? t;obtain⟨i,j⟩:=List.getElem?_of_mem (nL.1 m).1;have C:=h.at_ j;have A:=(qM.1 j).1;unfold uu;rcases Nat.lt_or_ge (i+1) (ofT s T).length with c|c
 ·exfalso;have z:=qD (l:=ofT s T) (i:=(ofT s T).length-1) (by omega);have d:=h.at_ z;have n:(ofT s T)[(ofT s T).length-1]∈kN s a b T:=nL.2 ⟨List.getElem_mem _,by have:=(nL.1 m).2.1;omega,g _ (List.getElem_mem _)⟩;obtain⟨f,u⟩:=List.getLast?_eq_some_iff.1 t;have o:(kN s a b T).Pairwise fun x y=>x.v<y.v:=List.Pairwise.filter _ (h.qo s)
  rw[u]at o n;rcases qC.1 n with k|k
  ·have:=(List.pairwise_append.1 o).2.2 _ k x qB;omega
  ·rw[qE.1 k]at d;omega
 ·omega
end
section
open Go.RowKit
def nP(x:jN):List Value:=[.string x.s,.int .i64 x.v,.string x.e.t,.string x.e.d,.float .f64 x.e.b]
abbrev fS(x:jN):Array Value:=#[.string x.s,.int .i64 x.v,.string x.e.t,.string x.e.d,.float .f64 x.e.b]
def yN(l:List jN):List Value:=l.flatMap nP
theorem QO: ∀l:List jN,(yN l).length=l.length*5
 | []=>rfl
 | x::l=>by
   unfold yN;rw[List.flatMap_cons,qI];have:=QO l;unfold yN at this;rw[this,qk];show 5+_=_;omega
theorem dx: ∀(l:List jN) (i:Nat) (x:jN),l[i]? = some x->∀j,j<5->(yN l)[i*5+j]? = (nP x)[j]?
 | [],i,x,h=>by simp at h
 | y::l,0,x,h=>by
   intro j a;obtain rfl:y=x:=(by simpa using h);unfold yN;rw[List.flatMap_cons,Nat.zero_mul,Nat.zero_add,List.getElem?_append_left (by exact a)]
 | y::l,i+1,x,h=>by
   intro j a;have b:l[i]? = some x:=(by simpa using h);have e:(i+1)*5+j=5+(i*5+j):=(by omega);have:=dx l i x b j a;unfold yN at*;rw[List.flatMap_cons,e,List.getElem?_append_right (by show 5<=_;omega)];show(l.flatMap nP)[5+(i*5+j)-5]? = _;rw[Nat.add_sub_cancel_left];exact this
theorem Rt{l:List jN}:∀u∈yN l,u.oneCell'=true:=by
 intro u b;unfold yN at b;obtain⟨f,_,a⟩:=List.mem_flatMap.1 b;simp only[nP,List.mem_cons,List.not_mem_nil,or_false]at a;rcases a with rfl|rfl|rfl|rfl|rfl<;>rfl
theorem Ra(a b:List jN):yN (a++b)=yN a++yN b:=by unfold yN;rw[List.flatMap_append]
def fT(w:World)(v:Value)(l:List jN):Prop :=
 (l=[]/\∃a c,v = .slice a 0 c)∨∃b off cap,v = .slice (some ⟨b,off,none⟩) l.length cap/\l.length<=cap/\cap<=maxLen/\b<w.heap.size /\
  ∀i x,l[i]? = some x->∀j u,(nP x)[j]? = some u->w.cell? ⟨b,off+(i*5+j),none⟩=some u
theorem fT.form{w:World}{v:Value}{l:List jN}(h:fT w v l):∃A off cap,v = .slice A l.length cap/\l.length<=maxLen /\
  ∀i x,l[i]? = some x->∃b,A=some ⟨b,off,none⟩/\b<w.heap.size/\w.cell? ⟨b,off+i*5,none⟩=some (.string x.s)/\w.cell? ⟨b,off+i*5+1,none⟩=some (.int .i64 x.v)/\w.cell? ⟨b,off+i*5+2,none⟩=some (.string x.e.t) /\
   w.cell? ⟨b,off+i*5+3,none⟩=some (.string x.e.d)/\w.cell? ⟨b,off+i*5+4,none⟩=some (.float .f64 x.e.b):=by
 rcases h with⟨rfl,a,c,rfl⟩|⟨b,off,cap,rfl,m,n,j,f⟩
 ·exact⟨a,0,c,rfl,qH _,fun i x h=>by simp at h⟩
 ·exact⟨some ⟨b,off,none⟩,off,cap,rfl,by omega,fun i x g=>⟨b,rfl,j,f i x g 0 _ rfl,f i x g 1 _ rfl,f i x g 2 _ rfl,f i x g 3 _ rfl,f i x g 4 _ rfl⟩⟩
abbrev kO(w:World)(base:Nat)(v:Value)(l:List jN):Prop:=w.ownsRow base 66 5 v l.length (yN l)
theorem kO.qw{w:World}{base:Nat}{v:Value}{l:List jN}(h:kO w base v l):fT w v l:=by
 have b:=h;rcases h.2 with⟨a,f⟩|⟨g,cap,y,a,z,m,t,s,C,F⟩
 ·exact qX ⟨List.length_eq_zero_iff.1 f,none,0,a⟩
 ·by_cases o:l=[]
  ·subst o;exact qX ⟨rfl,_,_,a⟩
  ·refine qY ⟨g,0,cap,a,t,s,(qb.1 m).1,fun i x d j u c=>?_⟩;have A:i<l.length:=(qM.1 d).1;have n:j<5:=(by have:=(qM.1 c).1;exact this);rw[a]at b;rw[Nat.zero_add];exact(b.cellAt (i*5+j) (by omega)).trans ((dx l i x d j n).trans c)
theorem kO.below{w w':World}{base B:Nat}{v:Value}{l:List jN}(h:kO w base v l)(b:Below B w w')(a:w.heap.size<=B):kO w' base v l:=tm h b a
theorem kO.nil(w:World)(base:Nat):kO w base (.slice none 0 0) []:=World.ownsRow_nil _ _ _ _
theorem kO.own{w:World}{base:Nat}{v:Value}{l:List jN}(h:kO w base v l):∀b∈jA v,base<=b/\b<w.heap.size:=fun b a=>h.lt b (jq.1 a)
theorem zt.zQ{E:List Nat}{w w':World}{base:Nat}{v:Value}{l:List jN}(h:zt E w w')(a:kO w base v l)(i:∀b∈jA v,b∈E):kO w' base v l:=by
 refine⟨a.1, ?_⟩;rcases a.2 with f|⟨g,cap,d,c,j,m,r⟩
 ·exact qX f
 ·exact qY ⟨g,cap,d,c,j,(h.block g (i g (jq.2 (by rw[c];rfl)))).trans m,r⟩
theorem Re: (prog.info? 66).map (fun i=>(i.zero,i.size,i.bytes))=some (some (.agg #[.string ByteArray.empty,.int .i64 0,.string ByteArray.empty,.string ByteArray.empty,.float .f64 0]),5,64):=by kernel_rfl
theorem fT.src{w:World}{v:Value}{l:List jN}(h:fT w v l):cW w 5 v l.length (yN l):=by
 refine⟨QO l, ?_⟩;rcases h with⟨rfl,a,c,rfl⟩|⟨b,off,cap,rfl,o,s,t,m⟩
 ·cases a with
  | none=>exact qX ⟨c,rfl,rfl⟩
  | some a=>exact qY ⟨a,c,rfl,fun j u d=>by cases d⟩
 ·refine qY ⟨⟨b,off,none⟩,cap,rfl,fun j u d=>?_⟩;have y:j<l.length*5:=by have:=(qM.1 d).1;rw[QO]at this;exact this
  have n:j/5<l.length:=by omega
  have g:l[j/5]? = some l[j/5]:=qD n;have e:j/5*5+j%5=j:=by omega
  have f:=dx l (j/5) _ g (j%5) (by omega);rw[e,d]at f;have:=m (j/5) _ g (j%5) u f.symm;rw[e]at this;have i:(⟨b,off,none⟩:Addr).add j=⟨b,off+j,none⟩:=by unfold Addr.add;split<;>simp_all
  rw[i];exact this
theorem Ri(w:World)(x:jN):fT (w.alloc (.cells (fS x) 66)) (.slice (some ⟨w.heap.size,0,none⟩) 1 1) [x]:=by
 have B:=za.new w 66 (fS x);refine qY ⟨w.heap.size,0,1,rfl,qZ _,by unfold maxLen;omega,by simp,fun i y b j u a=>?_⟩
 match i,b with
 | 0,b =>
   obtain rfl:x=y:=by simpa using b
   match j,a with
   | 0,a=>rw[<-a];exact B.cell 0
   | 1,a=>rw[<-a];exact B.cell 1
   | 2,a=>rw[<-a];exact B.cell 2
   | 3,a=>rw[<-a];exact B.cell 3
   | 4,a=>rw[<-a];exact B.cell 4
theorem Ro{w:World}{base:Nat}{a b:Value}{l m:List jN}(s:kO w base a l)(t:fT w b m)(C:l.length+m.length<=1000000)(n:base<=w.heap.size)(f:TypeId):
  ∃A c w',(Builtin.append_ #[36,36] f #[a,b]).run prog w = .ok (.slice A (l.length+m.length) c) w'/\kO w' base (.slice A (l.length+m.length) c) (l++m)/\w.grownBy w' a.ownBlock/\((Value.slice A (l.length+m.length) c).ownBlock=a.ownBlock∨(Value.slice A (l.length+m.length) c).ownBlock=some w.heap.size):=by
 obtain⟨z,o,u,v,y⟩:=info_parts Re;obtain⟨F,w',g,d,i,j⟩:=cr (P:=prog) w base 36 66 z _ 5 64 f Tryz.underlying36 o u v y rfl (by decide) a l.length (yN l) s b m.length (yN m) t.src Rt (by unfold maxLen;omega) (by omega) n;obtain⟨A,c,rfl,-,-,-⟩:=v8 d;refine⟨A,c,w',g, ?_,i,j⟩;unfold kO;rw[Ra,qI];exact d
end
section
open Go.RowKit Go.Shelf
structure jR(At:jK)(w0:World)(gd gl gx r:Nat)(S:IxS)(L:jV)(chs:List (List Tw))(D:zr)(E:List Nat)(w:World):Prop where
 ix:jy At w0 gd gx r S D (gl::E) w
 log:za w gl 130 (gM (ptr gl) gd L)
 qe:gl ∉ E
 low:w0.heap.size<=gl
 ok:kX D S
 dk:bL (uy chs.length) D S
 xQ:js D chs
 gl:vi D L chs
theorem pd{D:zr}{chs:List (List Tw)}(g:js D chs):jn chs<=819200:=by
 unfold jn;split
 ·omega
 ·obtain⟨f,-,-,a,b⟩:=nK g (by omega);have:=g.many;omega
section
variable {At:jK}(api:jY At){w0 w w':World}{gd gl gx r:Nat}{S S':IxS}{L:jV}{chs:List (List Tw)}{D D':zr}{E E' B N:List Nat}
theorem jR.lt(h:jR At w0 gd gl gx r S L chs D E w):∀b∈gl::E,b<w.heap.size:=h.ix.lt
theorem jR.xX(api:jY At)(h:jR At w0 gd gl gx r S L chs D E w)(g:ze B w w')(c:∀b∈B,b∈E/\w0.heap.size<=b)(f:∀b∈E',b∈E∨(w.heap.size<=b/\b<w'.heap.size)):jR At w0 gd gl gx r S L chs D E' w':=by
 have j:=h.lt gl qB;have i:gl ∉ B:=fun d=>h.qe (c gl d).1
 refine⟨h.ix.xX api g (fun b a=>⟨qF _ (c b a).1,(c b a).2⟩) (fun b a=>?_),h.log.qa g i,fun d=>?_,h.low,h.ok,h.dk,h.xQ,h.gl⟩
 ·rcases qL.1 a with e|k
  ·rw[e];exact qX qB
  ·exact(f b k).imp (qF _) id
 ·rcases f gl d with k|k
  ·exact h.qe k
  ·omega
theorem jR.below(api:jY At)(h:jR At w0 gd gl gx r S L chs D E w)(a:Below w.heap.size w w'):jR At w0 gd gl gx r S L chs D E w':=h.xX api (B:=[]) (ze.qm a) (fun b a=>by cases a) (fun b a=>qX a)
theorem jR.drew(api:jY At)(h:jR At w0 gd gl gx r S L chs D E w):jR At w0 gd gl gx r S L chs D E w.drew:=h.below api (Below.refl _ _).drew
theorem jR.less(h:jR At w0 gd gl gx r S L chs D E w)(a:∀b∈E',b∈E):jR At w0 gd gl gx r S L chs D E' w:=⟨h.ix.less (fun b c=>by
 rcases qL.1 c with e|k
 ·rw[e];exact qB
 ·exact qF _ (a b k)),h.log,fun d=>h.qe (a gl d),h.low,h.ok,h.dk,h.xQ,h.gl⟩
theorem jR.more(api:jY At)(h:jR At w0 gd gl gx r S L chs D E w)(a:Below w.heap.size w w')(c:∀b∈B,w.heap.size<=b/\b<w'.heap.size):jR At w0 gd gl gx r S L chs D (B++E) w' :=
 h.xX api (B:=[]) (ze.qm a) (fun b a=>by cases a) (fun b a=>(qC.1 a).elim (fun k=>qY (c b k)) qX)
theorem jR.base(h:jR At w0 gd gl gx r S L chs D E w):Below w0.heap.size w0 w:=h.ix.kept
theorem jR.chunks(h:jR At w0 gd gl gx r S L chs D E w):L.chunks<=200:=by rw[h.gl.xV];exact h.xQ.many
theorem jR.from(h:jR At w0 gd gl gx r S L chs D E w)(hi:jy At w0 gd gx r S' D' (gl::E) w')(a:zt (gl::E) w w')(ok:kX D' S')(dk:bL (uy chs.length) D' S')(g:js D' chs)(d:D'.qn=D.qn):jR At w0 gd gl gx r S' L chs D' E w'/\zt E w w' :=
 ⟨⟨hi,a.qp h.log qB,h.qe,h.low,ok,dk,g,h.gl.xc d⟩,a.less (fun b c=>qF _ c)⟩
theorem jR.xT(h:jR At w0 gd gl gx r S L chs D E w)(k:Nat):js { D with count:=k } chs:=h.xQ.same (kD.count D k)
include api
theorem Rw(h:jR At w0 gd gl gx r S L chs D E w){x:zn}(a:vP x)(d:S.mem.length<=100000):Calls prog 89 #[ptr gx,ji x] w fun e w'=>e = .returned (err (dq x))/\jR At w0 gd gl gx r (cJ S x) L chs D E w'/\zt E w w':=by
 refine(RY api h.ix a d).mono ?_;rintro e w'⟨rfl,b,c⟩;refine⟨rfl,h.from b c ?_ ?_ h.xQ rfl⟩
 ·unfold cJ;split
  ·exact h.ok.add a (by assumption)
  ·exact h.ok
 ·unfold cJ;split
  ·exact⟨h.dk.up,h.dk.nodup,h.dk.only,h.dk.xL,h.dk.xC⟩
  ·exact h.dk
variable (nap:jz)
include nap
def SQ(At:jK)(w0:World)(gd gl gx r:Nat)(S:IxS)(L:jV)(chs:List (List Tw))(D:zr)(R:List zn)(E:List Nat)(w:World)(e:Ending)(w':World):Prop :=
 ∃A c k,k<=S.T.length/\e = .returned (.tuple #[.slice A R.length c,.int .i64 0])/\jC w' w.heap.size (.slice A R.length c) R/\jR At w0 gd gl gx r S L chs { D with count:=D.count+k } (jA (.slice A R.length c)++E) w'/\zt E w w'
omit api nap in
theorem vi.count(h:vi D L chs)(k:Nat):vi { D with count:=k } L chs:=⟨h.qn,h.xV,h.endp,h.sure⟩
theorem SX(h:jR At w0 gd gl gx r S L chs D E w)(t:D.count<=1000000000)(m:bI S<=40000)(x:Nat)(n:x<18446744073709551616)(a b:Int)(o:(Lit.int .i64 a).wf=true)(s:(Lit.int .i64 b).wf=true):
  Calls prog 60 #[ptr gx,.int .u64 (x:Nat),.int .i64 a,.int .i64 b] w (SQ At w0 gd gl gx r S L chs D (v7 S x a b) E w):=by
 refine(RA api nap h.ix h.ok h.dk.up.wf (by omega) h.dk.up.down m x n a b o s).mono ?_;rintro e w'⟨A,c,k,j,rfl,g,i,f⟩;refine⟨A,c,k,j,rfl,g,⟨i.less (fun b d=>?_),f.qp h.log qB,fun l=>?_,h.low,h.ok.count _,h.dk.count _,h.xT _,h.gl.count _⟩,f.less (fun b d=>qF _ d)⟩
 ·rcases qL.1 d with e|q
  ·rw[e];exact qV _ qB
  ·rcases qC.1 q with q|q
   ·exact qA _ q
   ·exact qV _ (qF _ q)
 ·rcases qC.1 l with q|q
  ·have:=g.lt gl (jq.1 q);have:=h.lt gl qB;omega
  ·exact h.qe q
theorem SZ(h:jR At w0 gd gl gx r S L chs D E w)(j:D.count<=1000000000)(d:bI S<=40000)(x:Nat)(f:x<18446744073709551616)(b:Int)(i:(Lit.int .i64 b).wf=true):
  Calls prog 86 #[ptr gx,.int .u64 (x:Nat),.int .i64 b] w fun e w'=>∃(z:Int) (k:Nat),k<=200/\yI (cZ S) x (j7 b) z/\e = .returned (.tuple #[.int .i64 z,.int .i64 0])/\jR At w0 gd gl gx r S L chs { D with count:=D.count+k } E w'/\zt E w w':=by
 refine(RC api nap h.ix h.ok h.dk.up.wf (by omega) h.dk.up.down d x f b i).mono ?_;rintro e w'⟨z,k,l,g,rfl,a,c⟩;have m:=h.ok.xG;exact⟨z,k,by omega,g,rfl,h.from a c (h.ok.count _) (h.dk.count _) (h.xT _) rfl⟩
theorem SJ(cap:kc)(h:jR At w0 gd gl gx r S L chs D E w)(p:Tw)(i:p.size<=2000):Calls prog 88 #[ptr gl,.string p] w fun e w' =>
  (e = .returned (.tuple #[.int .i64 0,.int .i64 60])/\jR At w0 gd gl gx r S L chs D E w'/\zt E w w') ∨
  ∃q D' M chs',e = .returned (.tuple #[.int .i64 (q:Nat),.int .i64 0])/\jR At w0 gd gl gx r S M chs' D' E w'/\zt E w w'/\dM D L chs p q D' M chs':=by
 have u:=h.dk.many h.ok;refine(h.ix.log api h.log h.qe h.low (fun c m l=>JQ api nap cap m l h.dk.up.wf h.chunks p (qR i (by decide)))).mono ?_;rintro e w'⟨rfl,a,b,g⟩;rcases MJ h.xQ h.gl p i (by omega) with q|⟨q,D',M,chs',f,d⟩
 ·rw[q]at a b;rw[q];exact qX ⟨rfl,⟨a,b,h.qe,h.low,h.ok,h.dk,h.xQ,h.gl⟩,g⟩
 ·have s:WfP D':=by
   have:=Zw (L:=L) h.dk.up.wf p;rw[f]at this;exact this
  rw[f]at a b;rw[f]
  have o:(kM D').Nodup:=V7 (a.ds.qo api) (fun n=>by
   cases q:kB n n with
   | true=>exact absurd q (lA n)
   | false=>rfl)
  obtain⟨t,j⟩:=h.dk.app h.ok d s o;exact qY ⟨q,D',M,chs',rfl,⟨a,b,h.qe,h.low,t,j,d.xQ,d.log⟩,g,d⟩
theorem SK(cap:kc)(h:jR At w0 gd gl gx r S L chs D E w)(p:Tw)(g:p.size<=2000)(j:chs.length<=199)(u:jX D.l+(p.size+24)+6000<=D.cap):Calls prog 88 #[ptr gl,.string p] w fun e w' =>
  ∃q D' M chs',e = .returned (.tuple #[.int .i64 (q:Nat),.int .i64 0])/\jR At w0 gd gl gx r S M chs' D' E w'/\zt E w w'/\dM D L chs p q D' M chs':=by
 have z:=h.dk.many h.ok;refine(h.ix.log api h.log h.qe h.low (fun c s m=>JQ api nap cap s m h.dk.up.wf h.chunks p (qR g (by decide)))).mono ?_;rintro e w'⟨rfl,b,f,o⟩;obtain⟨q,D',M,chs',d,a⟩:=MK h.xQ h.gl p g (by omega) j u
 have v:WfP D':=by
  have:=Zw (L:=L) h.dk.up.wf p;rw[d]at this;exact this
 rw[d]at b f;rw[d]
 have t:(kM D').Nodup:=V7 (b.ds.qo api) (fun n=>by
  cases q:kB n n with
  | true=>exact absurd q (lA n)
  | false=>rfl)
 obtain⟨y,i⟩:=h.dk.app h.ok a v t;exact⟨q,D',M,chs',rfl,⟨b,f,h.qe,h.low,y,i,a.xQ,a.log⟩,o,a⟩
theorem SV(cap:kc)(h:jR At w0 gd gl gx r S L chs D E w)(l:D.count<=900000000){q:Nat}{p:Tw}(j:(q,p)∈zo 0 chs):Calls prog 80 #[ptr gl,.int .i64 (q:Nat)] w fun e w'=>e = .returned (.tuple #[.string p,.int .i64 0])/\jR At w0 gd gl gx r S L chs { D with count:=D.count+2 } E w'/\zt E w w':=by
 obtain⟨b,m⟩:=MV h.xQ h.gl j;refine(h.ix.log api h.log h.qe h.low (fun c i d=>QB api nap i d h.dk.up.wf (by omega) (q:Nat) (bY (by omega)) h.chunks)).mono ?_;rintro e w'⟨rfl,a,f,g⟩;rw[b]at a;rw[b];exact⟨rfl,⟨a,f,h.qe,h.low,h.ok.count _,h.dk.count _,h.xT _,h.gl.count _⟩,g⟩
def SY: Option (Nat × Tw)->Value
 | none=>.tuple #[.string ByteArray.empty,.int .i64 0,.int .i64 0,.int .i64 4]
 | some x=>.tuple #[.string x.2,.int .i64 (x.1:Nat),.int .i64 ((x.1+(x.2.size+12):Nat):Int),.int .i64 0]
theorem YJ(cap:kc)(h:jR At w0 gd gl gx r S L chs D E w)(o:D.count<=900000000)(pos:Nat)(n:pos<=9223372036854775807):Calls prog 43 #[ptr gl,.int .i64 (pos:Nat)] w fun e w'=>∃k,k<=D.count+200/\e = .returned (SY ((zo 0 chs).find? fun x=>decide (pos<=x.1)))/\jR At w0 gd gl gx r S L chs { D with count:=k } E w'/\zt E w w':=by
 obtain⟨k,j,b⟩:=MU h.xQ h.gl pos;refine(h.ix.log api h.log h.qe h.low (fun c m f=>Fu api nap cap m f h.dk.up.wf (by omega) (pos:Nat) (bY n) h.chunks)).mono ?_;rintro e w'⟨rfl,a,g,l⟩;rw[b]at a;rw[b]
 have d:(cS (zo 0 chs) (pos:Nat) { D with count:=k }).D={ D with count:=k }:=by
  unfold cS;split<;>rfl
 rw[d]at a;refine⟨k,j, ?_,⟨a,g,h.qe,h.low,h.ok.count _,h.dk.count _,h.xT _,h.gl.count _⟩,l⟩
 have i:(zo 0 chs).find? (fun x=>decide (((pos:Nat):Int)<=(x.1:Int)))=(zo 0 chs).find? (fun x=>decide (pos<=x.1)):=by
  congr 1;funext x;exact decide_eq_decide.2 (by omega)
 unfold cS;rw[i];cases (zo 0 chs).find? (fun x=>decide (pos<=x.1))<;>rfl
end
theorem SU{w:World}{u:Value}{l:List jD}(h:ke w u l):∃A c,u = .slice A l.length c:=by
 rcases h with⟨rfl,a,c,rfl⟩|⟨-,b,off,cap,rfl,-⟩
 ·exact⟨a,c,rfl⟩
 ·exact⟨_,cap,rfl⟩
theorem YK(seed:Nat)(x:Rec):(ki seed x).length=(bgL x.2).length:=by unfold ki;rw[qj,List.length_range]
theorem pf{seed q:Nat}{p:Tw}{k:Nat}(a:k<(bgL p).length):(ki seed (q,p))[k]? = some ⟨jc seed (bgS p).data.toList,bgF p+(k:Nat),(q:Nat)⟩:=by
 unfold ki;rw[qz,List.getElem?_range a];rfl
theorem SG{a:List zn}{j:Nat}{x:zn}(h:a[j]? = some x)(y:zn):y∈a.take (j+1)↔y∈a.take j∨y=x:=by
 rw[List.take_add_one,h];simp
structure ch(seed q:Nat)(p:Tw)(k:Nat)(S S':IxS):Prop where
 m:S'.m=S.m
 T:S'.T=S.T
 len:S'.mem.length<=S.mem.length+k
 mem:∀y,y∈S'.mem↔y∈S.mem∨y∈(ki seed (q,p)).take k
theorem ch.zero(seed q:Nat)(p:Tw)(S:IxS):ch seed q p 0 S S:=⟨rfl,rfl,qZ _,fun y=>by simp⟩
section
variable {At:jK}(api:jY At){w0 w:World}{gd gl gx r seed q k:Nat}{S S':IxS}{L:jV}{chs:List (List Tw)}{D:zr}{E:List Nat}{p:Tw}
include api in
theorem YV(h:jR At w0 gd gl gx r S' L chs D E w)(b:ch seed q p k S S'){a:Nat}{v:Int}(j:(ki seed (q,p))[k]? = some ⟨a,v,(q:Nat)⟩)(ok:vP ⟨a,v,(q:Nat)⟩)(f:mayE ⟨a,v,(q:Nat)⟩=true)(o:S.mem.length+k<=100000):
  Calls prog 89 #[ptr gx,.agg #[.int .u64 (a:Nat),.int .i64 v,.int .i64 (q:Nat)]] w fun e w'=>e = .returned (.int .i64 0)/\∃c,jR At w0 gd gl gx r c L chs D E w'/\zt E w w'/\ch seed q p (k+1) S c:=by
 have n:=b.len;refine(Rw api h ok (by omega)).mono ?_;rintro e w'⟨rfl,d,l⟩;have g:dq ⟨a,v,(q:Nat)⟩=0:=by unfold dq;rw[qK f]
 have i:cJ S' ⟨a,v,(q:Nat)⟩={ S' with mem:=kS S'.mem ⟨a,v,(q:Nat)⟩ }:=by unfold cJ;rw[qK f]
 rw[g];rw[i]at d;refine⟨rfl,_,d,l,⟨b.m,b.T, ?_,fun y=>?_⟩⟩
 ·have:=Gp S'.mem ⟨a,v,(q:Nat)⟩;show(kS _ _).length<=_;omega
 ·show y∈kS _ _↔_;rw[Br,b.mem,SG j,or_assoc]
include api in
theorem SW(h:jR At w0 gd gl gx r S L chs D E w)(hs:seed<18446744073709551616)(hw:kK p=true)(hz:p.size<=2000)(hq:q<=2147483647)(hn:S.mem.length<=90000):
  Calls prog 136 #[ptr gx,.int .u64 (seed:Nat),.string p,.int .i64 (q:Nat)] w fun e w'=>e = .returned (.int .i64 0)/\∃S',jR At w0 gd gl gx r S' L chs D E w'/\zt E w w'/\ch seed q p (bgL p).length S S':=by
 obtain⟨-,-,-,X,-,hb⟩:=br hw;obtain⟨c1,c2,c3,c4,c5,c6,-⟩:=gU.1 hb
 have T:Hid (Calls prog 95 #[.string p] w fun e w'=>∃A c,e = .returned (.tuple #[.agg #[.string (bgS p),.int .i64 (bgF p),.slice A (bgL p).length c],.int .i64 0])/\Below w.heap.size w w'):=qQ ((Mg p w (by omega)).mono fun e w' hg=>by
  obtain⟨u,rfl,hu,j⟩:=hg;obtain⟨A,c,rfl⟩:=SU hu;rw[X];exact⟨A,c,rfl,j⟩)
 have HH:=qQ (fun W=>XB seed (bgS p) W hs (by unfold maxLen;omega));have ac:=qQ (fun k (H:k<(bgL p).length)=>qU (pf (seed:=seed) (q:=q) H) (Vs (seed:=seed) (x:=(q,p)) hw hq _ (qO (pf H))));have V:=qQ h;generalize bgS p=s at*;generalize bgF p=f at*;generalize (bgL p).length=n at*;generalize jc seed s.data.toList=hh at*;clear h hw hb X c1 c2 hs hz hq;go_enter func136,ntmps136;go_wp2_with fail;refine T.out.mono ?_;rintro e d⟨A,c,rfl,j⟩;have C:=(Below.refl d.heap.size d).alloc (qZ _) (.cells #[.string s,.int .i64 f,.slice A n c] 92);have g:=za.new d 92 #[.string s,.int .i64 f,.slice A n c];have y:=V.out.below api j;have z:=y.more api C (B:=[d.heap.size]) (fun x a=>by rw[qE.1 a];exact⟨qZ _,g.lt⟩);have I:=(zt.qm j (fun x a=>V.out.lt x (qF _ a)):zt E w d).trans (zt.qm C (fun x a=>y.lt x (qF _ a)));obtain⟨w2,ae⟩:∃w2,d.alloc (.cells #[.string s,.int .i64 f,.slice A n c] 92)=w2:=⟨_,rfl⟩
 rw[ae]at g z I;have k0:=g.cell 0;have k2:=g.cell 2;have P:=qQ z;have U:=qQ I;have R:=qQ g;clear C g y z I j T;go_wp2_with fail;refine(HH.out _).mono ?_;rintro e w'⟨rfl,rfl⟩;go_wp2;go_loopw [28] (fun i wr=>∃(k:Nat) (S':IxS),k<=n/\i = .int .i64 k/\jR At w0 gd gl gx r S' L chs D ([d.heap.size]++E) wr/\zt E w wr/\za wr d.heap.size 92 #[.string s,.int .i64 f,.slice A n c]/\ch seed q p k S S') (fun i _=>n-(intOf i).toNat)
 case atStart=>exact⟨0,S,qH _,rfl,P.out,U.out,R.out,ch.zero seed q p S⟩
 case round =>
  obtain⟨k,S',H,rfl,t,o,m,l⟩:=hrel;by_cases aa:k<n
  ·have s1:(k:Int)<(n:Int):=(by omega);obtain⟨F,K,J⟩:=ac.out k aa;have k1:=m.cell 1;obtain⟨v,hv⟩:∃v,v=f+(k:Int):=⟨_,rfl⟩
   rw[show(f+((k:Nat):Int))=v from hv.symm]at F K J;have Q:=qQ (YV api t l F K J (by omega));have ew:IntKind.i64.wrap (f+(k:Int))=v:=(by rw[IntKind.wrap_i64];omega);have ad:=qQ o;have ab:=qQ m;clear t o m l F K J hv P U R k0 k2;go_wp2_with fail;refine Q.out.mono ?_;rintro e w3⟨rfl,S2,Y,O,Z⟩;have b:=qQ (qU Y (qU Z (qU (ad.out.trans (O.less (fun x a=>qV _ a))) (O.qp ab.out (qA _ qB)))));clear Y O Z Q k1;go_wp2;go_roundw
   case rel=>exact⟨k+1,S2,by omega,by go_num,b.out.1,b.out.2.2.1,b.out.2.2.2,b.out.2.1⟩
   case measure=>simp[intOf];omega
  ·obtain rfl:k=n:=(by omega);have s1:¬(k:Int)<(k:Int):=(by omega);have b:=qQ (qU (t.less (fun x a=>qV _ a):jR At w0 gd gl gx r S' L chs D E wr) (qU o l));clear t o m l aa;go_wp2;go_ret;exact⟨rfl,S',b.out.1,b.out.2.1,b.out.2.2⟩
end
end
section
open Go.RowKit Go.Shelf
attribute [local go_sem] bA
theorem YY: (prog.info? 73).map (·.size)=some 4:=by kernel_rfl
theorem SA(d:Nat)(p:Addr)(w:World):(Op.equalIn (d+1) 32 (.pointer (some p)) (.pointer (some p))).run prog w = .ok true w:=by
 cases a:prog.info? 73 with
 | none=>have:=YY;rw[a]at this;cases this
 | some i =>
   have b:i.size=4:=(by have:=YY;rw[a]at this;simpa using this);simp[Op.equalIn,run_underlying Tryz.underlying32,sizeOf,typeInfo,a,sameAddr]
theorem SB(d:Nat)(p:Addr)(w:World):(Op.equalIn (d+1) 32 (.pointer none) (.pointer (some p))).run prog w = .ok false w:=by
 simp[Op.equalIn,run_underlying Tryz.underlying32]
theorem SC(p:Addr)(w:World):(binOp .neq 32 (.pointer (some p)) (.pointer (some p))).run prog w = .ok (.bool false) w:=by
 have a:(Op.equal 32 (.pointer (some p)) (.pointer (some p))).run prog w = .ok true w:=SA 9999 p w;simp only[binOp];simp[a]
theorem SD(p:Addr)(w:World):(binOp .neq 32 (.pointer none) (.pointer (some p))).run prog w = .ok (.bool true) w:=by
 have a:(Op.equal 32 (.pointer none) (.pointer (some p))).run prog w = .ok false w:=SB 9999 p w;simp only[binOp];simp[a]
theorem QP{w:World}{g:Nat}(h:w.cell? ⟨g,0,none⟩=some (ptr g)):Calls prog 30 #[ptr g] w fun e w'=>e = .returned (.bool false)/\w=w':=by
 have a:=SC ⟨g,0,none⟩;go_enter func30,ntmps30;go_wp2;go_ret;exact⟨rfl,rfl⟩
theorem SE(w:World):Calls prog 30 #[.pointer none] w fun e w'=>e = .returned (.bool true)/\w=w':=by
 go_enter func30,ntmps30;go_wp2;go_ret;exact⟨rfl,rfl⟩
theorem SF{w:World}{g:Nat}(h:w.cell? ⟨g,0,none⟩=some (.pointer none)):Calls prog 30 #[ptr g] w fun e w'=>e = .returned (.bool true)/\w=w':=by
 have a:=SD ⟨g,0,none⟩;go_enter func30,ntmps30;go_wp2;go_ret;exact⟨rfl,rfl⟩
def uF(w:World)(p:Value):Prop:=p = .pointer none∨∃g,p=ptr g/\w.cell? ⟨g,0,none⟩=some (.pointer none)
theorem uF.below{w w':World}{p:Value}(h:uF w p)(c:Below w.heap.size w w'):uF w' p:=by
 rcases h with h|⟨g,b,a⟩
 ·exact qX h
 ·exact qY ⟨g,b,(c.cell (p:=⟨g,0,none⟩) (World.block_lt_of_cell? w _ a)).trans a⟩
theorem dz{w:World}{p:Value}(h:uF w p):Calls prog 30 #[p] w fun e w'=>e = .returned (.bool true)/\w=w':=by
 rcases h with rfl|⟨g,rfl,a⟩
 ·exact SE w
 ·exact SF a
abbrev SH(gs gl gx seed:Nat):Array Value:=#[ptr gs,ptr gl,ptr gx,.int .u64 (seed:Nat)]
structure jM(At:jK)(w0:World)(gd gl gx gs r seed:Nat)(S:IxS)(L:jV)(chs:List (List Tw))(D:zr)(E:List Nat)(w:World):Prop where
 sx:jR At w0 gd gl gx r S L chs D (gs::E) w
 st:za w gs 73 (SH gs gl gx seed)
 qe:gs ∉ E
 low:w0.heap.size<=gs
 rb:gE seed S chs
 vs:yu (jT (zo 0 chs))
 sd:seed<18446744073709551616
section
variable {At:jK}{w0 w w':World}{gd gl gx gs r seed:Nat}{S S':IxS}{L L':jV}{chs chs':List (List Tw)}{D D':zr}{E E' B G:List Nat}
theorem jM.lt(h:jM At w0 gd gl gx gs r seed S L chs D E w):∀b∈E,b<w.heap.size:=fun b a=>h.sx.lt b (qF _ (qF _ a))
theorem jM.xX(api:jY At)(h:jM At w0 gd gl gx gs r seed S L chs D E w)(g:ze B w w')(c:∀b∈B,b∈E/\w0.heap.size<=b)(f:∀b∈E',b∈E∨(w.heap.size<=b/\b<w'.heap.size)):jM At w0 gd gl gx gs r seed S L chs D E' w':=by
 have i:=h.st.lt;refine⟨h.sx.xX api g (fun b a=>⟨qF _ (c b a).1,(c b a).2⟩) (fun b a=>?_),h.st.qa g (fun d=>h.qe (c gs d).1),fun d=>?_,h.low,h.rb,h.vs,h.sd⟩
 ·rcases qL.1 a with e|k
  ·rw[e];exact qX qB
  ·exact(f b k).imp (qF _) id
 ·rcases f gs d with k|k
  ·exact h.qe k
  ·omega
theorem jM.below(api:jY At)(h:jM At w0 gd gl gx gs r seed S L chs D E w)(a:Below w.heap.size w w'):jM At w0 gd gl gx gs r seed S L chs D E w':=h.xX api (B:=[]) (ze.qm a) (fun b a=>by cases a) (fun b a=>qX a)
theorem jM.drew(api:jY At)(h:jM At w0 gd gl gx gs r seed S L chs D E w):jM At w0 gd gl gx gs r seed S L chs D E w.drew:=h.below api (Below.refl _ _).drew
theorem jM.less(h:jM At w0 gd gl gx gs r seed S L chs D E w)(a:∀b∈E',b∈E):jM At w0 gd gl gx gs r seed S L chs D E' w:=⟨h.sx.less (fun b c=>by
 rcases qL.1 c with e|k
 ·rw[e];exact qB
 ·exact qF _ (a b k)),h.st,fun d=>h.qe (a gs d),h.low,h.rb,h.vs,h.sd⟩
theorem jM.more(api:jY At)(h:jM At w0 gd gl gx gs r seed S L chs D E w)(a:Below w.heap.size w w')(c:∀b∈B,w.heap.size<=b/\b<w'.heap.size):jM At w0 gd gl gx gs r seed S L chs D (B++E) w' :=
 h.xX api (B:=[]) (ze.qm a) (fun b a=>by cases a) (fun b a=>(qC.1 a).elim (fun k=>qY (c b k)) qX)
theorem jM.base(h:jM At w0 gd gl gx gs r seed S L chs D E w):Below w0.heap.size w0 w:=h.sx.base
theorem jM.xB(h:jM At w0 gd gl gx gs r seed S L chs D E w)(a:Below w.heap.size w w'):zt E w w':=zt.qm a h.lt
theorem jM.step(h:jM At w0 gd gl gx gs r seed S L chs D E w)(hi:jR At w0 gd gl gx r S' L' chs' D' (gs::E) w')(a:zt (gs::E) w w')(d:gE seed S' chs')(f:yu (jT (zo 0 chs'))):jM At w0 gd gl gx gs r seed S' L' chs' D' E w'/\zt E w w' :=
 ⟨⟨hi,a.qp h.st qB,h.qe,h.low,d,f,h.sd⟩,a.less (fun b c=>qF _ c)⟩
theorem jM.stepG(h:jM At w0 gd gl gx gs r seed S L chs D E w)(hi:jR At w0 gd gl gx r S L' chs D' (G++(gs::E)) w')(c:zt (gs::E) w w')(d:∀b∈G,w.heap.size<=b):jM At w0 gd gl gx gs r seed S L' chs D' (G++E) w'/\zt E w w':=by
 have g:=h.st.lt;refine⟨⟨hi.less (fun b a=>?_),c.qp h.st qB,fun f=>?_,h.low,h.rb,h.vs,h.sd⟩,c.less (fun b a=>qF _ a)⟩
 ·rcases qL.1 a with e|q
  ·rw[e];exact qV _ qB
  ·rcases qC.1 q with q|q
   ·exact qA _ q
   ·exact qV _ (qF _ q)
 ·rcases qC.1 f with q|q
  ·have:=d gs q;omega
  ·exact h.qe q
theorem jM.cells(h:jM At w0 gd gl gx gs r seed S L chs D E w):w.cell? ⟨gs,0,none⟩=some (ptr gs)/\w.cell? ⟨gs,1,none⟩=some (ptr gl)/\w.cell? ⟨gs,2,none⟩=some (ptr gx)/\w.cell? ⟨gs,3,none⟩=some (.int .u64 (seed:Nat)):=⟨h.st.cell 0,h.st.cell 1,h.st.cell 2,h.st.cell 3⟩
theorem fq(seed:Nat):∀(l:List Rec),(∀x∈l,kK x.2=true)->(vM seed l).length<=8*l.length
 | [],_=>qZ _
 | x::l,h=>by
   have ih:=fq seed l (fun y b=>h y (qF _ b));have e:vM seed (x::l)=ki seed x++vM seed l:=rfl;rw[e,qI,qk];obtain⟨-,-,-,-,-,a⟩:=br (h x qB);obtain⟨-,-,-,c,-⟩:=gU.1 a;have:(ki seed x).length=(bgL x.2).length:=(by unfold ki;rw[qj,List.length_range]);omega
theorem jM.len(h:jM At w0 gd gl gx gs r seed S L chs D E w):S.mem.length<=8*(zo 0 chs).length/\(∀t∈S.T,t.l.length<=8*(zo 0 chs).length)/\(∀f,(p7 S f).length<=8*(zo 0 chs).length)/\bI S<=328*(zo 0 chs).length:=by
 have m:=fq seed (zo 0 chs) h.rb.whole;obtain⟨A,rfl⟩:∃A,A=vM seed (zo 0 chs):=⟨_,rfl⟩
 have d:=h.rb.has;have ok:=h.sx.ok;have s:S.mem.length<=(vM seed (zo 0 chs)).length:=dT ok.qo (fun x b=>(d x).1 (qX b));have g:∀t∈S.T,t.l.length<=(vM seed (zo 0 chs)).length:=fun t a=>dT (ok.has t a).props.1 (fun x b=>(d x).1 (qY ⟨t,a,b⟩))
 refine⟨by omega,fun t a=>by have:=g t a;omega,fun f=>qR (dT (Po ok f) (fun x b=>?_)) m, ?_⟩
 ·obtain⟨t,a,-,b⟩:=Pi.1 b;exact(d x).1 (qY ⟨t,a,b⟩)
 ·have i:∀(c:Nat) (T:List TbS),(∀t∈T,t.l.length<=c)->kJ (T.map TbS.l)<=T.length*c:=by
   intro c T
   induction T with
   | nil=>intro _;exact Nat.le_of_eq (by simp[kJ])
   | cons t T o =>
     intro h;rw[List.map_cons,uc,qk,Nat.add_mul];have:=o (fun u n=>h u (qF _ n));have:=h t qB;omega
  have v:=i (8*(zo 0 chs).length) S.T (fun t a=>by have:=g t a;omega);have j:=ok.xG;have y:S.T.length*(8*(zo 0 chs).length)<=40*(8*(zo 0 chs).length):=Nat.mul_le_mul_right _ j;unfold bI;omega
theorem jM.qo(h:jM At w0 gd gl gx gs r seed S L chs D E w):gY (zo 0 chs):=(fF chs 0 (fun b a=>(h.sx.xQ.small b a).1)).1
theorem ph{l:List Rec}(hw:∀x∈l,kK x.2=true):∀x∈jT l,0<=x.v/\x.v<=1073741823:=by
 intro x b;obtain⟨g,f,b⟩:=List.mem_flatMap.1 b;obtain⟨i,a⟩:=List.getElem?_of_mem b;unfold cY at a;rw[lz]at a;obtain⟨y,d,rfl⟩:=Option.map_eq_some_iff.1 a;have n:=(qM.1 d).1;obtain⟨-,-,-,-,-,c⟩:=br (hw g f);obtain⟨-,-,-,-,j,m,-⟩:=gU.1 c;simp only;omega
end
section
variable {At:jK}(api:jY At)(nap:jz){w0 w w':World}{gd gl gx gs r seed:Nat}{S S':IxS}{L L':jV}{chs chs':List (List Tw)}{D D':zr}{E E' B G:List Nat}
theorem QR{gs seed:Nat}{w:World}(h:w.cell? ⟨gs,3,none⟩=some (.int .u64 (seed:Nat)))(a:seed<18446744073709551616)(s:Tw)(b:s.size<=maxLen):Calls prog 61 #[ptr gs,.string s] w fun e w'=>e = .returned (.int .u64 (jc seed s.data.toList:Nat))/\w=w':=by
 have c:=qQ (fun W=>XB seed s W a b);clear b a;generalize jc seed s.data.toList=d at*;go_enter func61,ntmps61;go_wp2_with fail;refine(c.out _).mono ?_;rintro e w'⟨rfl,rfl⟩;go_wp2;go_ret;exact⟨rfl,rfl⟩
include api nap in
theorem SI(h:jR At w0 gd gl gx r S L chs D E w)(l:D.count<=900000000):Calls prog 80 #[ptr gl,.int .i64 (-1)] w fun e w'=>e = .returned (.tuple #[.string ByteArray.empty,.int .i64 4])/\jR At w0 gd gl gx r S L chs D E w'/\zt E w w':=by
 have b:dE D L (-1)=(ByteArray.empty,4,D):=by
  unfold dE
  have d:vU D L=0:=by
   unfold vU;rw[qJ (by rw[h.dk.up.down];decide),qK h.gl.qn]
  rw[qJ (by simp[d]),qK (qX (by omega))]
 refine(h.ix.log api h.log h.qe h.low (fun c j f=>QB api nap j f h.dk.up.wf (by omega) (-1) (by decide) h.chunks)).mono ?_;rintro e w'⟨rfl,a,g,i⟩;rw[b]at a;rw[b];exact⟨rfl,⟨a,g,h.qe,h.low,h.ok,h.dk,h.xQ,h.gl⟩,i⟩
include api nap in
theorem SL(h:jM At w0 gd gl gx gs r seed S L chs D E w)(g:D.count<=900000000):Calls prog 59 #[ptr gs] w fun e w'=>e = .returned (.int .i64 0)/\jM At w0 gd gl gx gs r seed S L chs D E w'/\zt E w w':=by
 obtain⟨c0,c1,c2,j⟩:=h.cells;have b:=qQ (SI api nap h.sx g);have c:=qQ (fun d (l:jR At w0 gd gl gx r S L chs D (gs::E) d) (m:zt (gs::E) w d)=>h.step l m h.rb h.vs);clear h c0 c2 j g;go_enter func59,ntmps59;go_wp2_with fail;refine b.out.mono ?_;rintro e n⟨rfl,f,i⟩;have a:=qQ (c.out n f i);clear f i b c;go_wp2;go_ret;exact⟨rfl,a.out.1,a.out.2⟩
end
end
section
structure fx(D:zr)(S:IxS):Prop where
 map:(jU D.l jG).map zi.data=some (mfB S.m)
 has:∀t∈S.T,vH D t.n t.l
end
section
open Go.RowKit Go.Shelf
structure jt(At:jK)(w0:World)(gd gl:Nat)(L:jV)(chs:List (List Tw))(D:zr)(E:List Nat)(w:World):Prop where
 st:cK At w0 gd gl L D E w
 fl:cV (uy chs.length) D
 xQ:js D chs
 gl:vi D L chs
structure uQ(At:jK)(w0:World)(gd gl gx r:Nat)(S:IxS)(L:jV)(chs:List (List Tw))(D:zr)(E:List Nat)(w:World):Prop where
 ix:jy At w0 gd gx r S D (gl::E) w
 log:za w gl 130 (gM (ptr gl) gd L)
 qe:gl ∉ E
 low:w0.heap.size<=gl
 ok:kX D S
 fl:cV (uy chs.length) D
 xQ:js D chs
 gl:vi D L chs
theorem SM{D:zr}(h:WfP D):WfP (y9 D).2.1:=by
 unfold y9;refine og (og (JL h) (fun E _ c=>c)) (fun E L c=>?_);unfold bc
 have:∀(k n:Nat) (E:zr) (L:jV),WfP E->WfP (yY k n E L).2.1:=by
  intro k
  induction k with
  | zero=>intro n E L c;exact c
  | succ k l =>
    intro n E L c;have b:=sa c (nmC n);unfold yY;split
    ·exact b
    ·split
     ·exact b
     ·split
      ·unfold cM;split
       ·exact lK b _
       ·split
        ·show WfP (dF _ _ _).2
         have g:∀(a:Nat × zr) (f:zr->Nat × zr),WfP a.2->(∀D,WfP D->WfP (f D).2)->WfP (bg a f).2:=by
          intro a f i j;unfold bg;split
          ·exact j _ i
          ·exact i
         exact g _ _ (g _ _ (g _ _ (mg b _) (fun D d=>mc d _ _)) (fun D d=>mf d _)) (fun D d=>DD d _ _)
        ·exact mf b _
      ·split
       ·exact b
       ·exact l _ _ _ b
 exact this _ _ _ _ c
section
variable {At:jK}(api:jY At){w0 w w':World}{gd gl gx r:Nat}{S S':IxS}{L:jV}{chs:List (List Tw)}{D D':zr}{E E' B N:List Nat}
theorem jt.lt(h:jt At w0 gd gl L chs D E w):∀b∈gl::E,b<w.heap.size:=h.st.1.lt
theorem jt.xX(api:jY At)(h:jt At w0 gd gl L chs D E w)(g:ze B w w')(c:∀b∈B,b∈E/\w0.heap.size<=b)(f:∀b∈E',b∈E∨(w.heap.size<=b/\b<w'.heap.size)):jt At w0 gd gl L chs D E' w':=by
 have j:=h.lt gl qB;have i:gl ∉ B:=fun d=>h.st.2.2.1 (c gl d).1
 refine⟨⟨h.st.1.xX api g (fun b a=>⟨qF _ (c b a).1,(c b a).2⟩) (fun b a=>?_),h.st.2.1.qa g i,fun d=>?_,h.st.2.2.2⟩,h.fl,h.xQ,h.gl⟩
 ·rcases qL.1 a with e|k
  ·rw[e];exact qX qB
  ·exact(f b k).imp (qF _) id
 ·rcases f gl d with k|k
  ·exact h.st.2.2.1 k
  ·omega
theorem jt.below(api:jY At)(h:jt At w0 gd gl L chs D E w)(a:Below w.heap.size w w'):jt At w0 gd gl L chs D E w':=h.xX api (B:=[]) (ze.qm a) (fun b a=>by cases a) (fun b a=>qX a)
theorem jt.from(h:jt At w0 gd gl L chs D E w){G:List Nat}(hi:DS At w0 gd D' (G++(gl::E)) w')(c:zt (gl::E) w w')(f:gl ∉ G)(d:cV (uy chs.length) D')(g:js D' chs)(j:D'.qn=D.qn):jt At w0 gd gl L chs D' (G++E) w'/\zt E w w' :=
 ⟨⟨⟨hi.less (fun b a=>by
   rcases qL.1 a with e|q
   ·rw[e];exact qV _ qB
   ·rcases qC.1 q with q|q
    ·exact qA _ q
    ·exact qV _ (qF _ q)),c.qp h.st.2.1 qB,fun i=>(qC.1 i).elim f h.st.2.2.1,h.st.2.2.2⟩,d,g,h.gl.xc j⟩,c.less (fun b a=>qF _ a)⟩
theorem jt.count(h:jt At w0 gd gl L chs D E w)(k:Nat):cV (uy chs.length) { D with count:=k }/\js { D with count:=k } chs:=⟨h.fl.count k,h.xQ.same (kD.count D k)⟩
theorem SN(iap:dS At)(h:jt At w0 gd gl L chs D E w)(K:D.count<=900000000):Calls prog 132 #[ptr gd] w fun e w' =>
  ∃(b d:Int) (a:Nat) (A:Option Addr) (n c:Nat) (R:LvL) (j:Nat),e = .returned (.tuple #[j9 b d a (.slice A n c),.int .i64 (vE D)])/\j5 D=⟨b,d,a,R⟩/\n=R.length/\kQ w' (.slice A n c) R/\R.length<=300/\R.flatten.length<=100000/\a<18446744073709551616/\j<=1/\jt At w0 gd gl L chs { D with count:=D.count+j } E w'/\zt E w w':=by
 refine(iap.load h.st.1 h.fl.up.wf (by omega)).mono ?_;rintro e w'⟨b,d,a,A,n,c,R,rfl,o,s,t,u,v,y,g,z⟩
 have F:∃j,j<=1/\gV D={ D with count:=D.count+j }:=by
  unfold gV;cases q:jU D.l jG with
  | none=>rw[fY h.fl.up.down q];exact⟨0,by omega,rfl⟩
  | some f=>rw[dD h.fl.up.down q];exact⟨1,by omega,rfl⟩
 obtain⟨j,C,e⟩:=F;rw[e]at g;obtain⟨I,J⟩:=h.count (D.count+j);obtain⟨i,m⟩:=h.from (G:=[]) (D':={ D with count:=D.count+j }) g z (fun H=>by cases H) I J rfl;exact⟨b,d,a,A,n,c,R,j,rfl,o,s,t,u,v,y,C,i,m⟩
include api
theorem SO(h:jt At w0 gd gl L chs D E w)(n:Tw)(v:isC n=false)(A:n.size<=maxLen):Calls prog 125 #[ptr gd,.string n] w fun e w' =>
  ∃f D',e = .returned (err f)/\tV f=true/\jt At w0 gd gl L chs D' E w'/\zt E w w'/\yH D D'/\jX D'.l<=jX D.l/\(∀k,k∈kM D'↔k∈kM D/\k≠n)/\∀k,k≠n->jU D'.l k=jU D.l k:=by
 refine(h.st.1.qi api (fun F hF=>api.delete n hF h.fl.up.wf.ok A)).mono ?_;rintro e w'⟨rfl,d,a⟩;obtain⟨f,D',c,s,u1,i,C,j,b,g⟩:=Vf h.fl.up h.fl.nodup n;rw[c]at d;rw[c];have y:∀k,isC k=true->k≠n:=fun k a e=>by rw[e,v]at a;cases a
 have t:=Vr h.xQ u1 (fun k a=>((b k).1 a).1) (fun k a=>g k (y k a));obtain⟨m,o⟩:=h.from (G:=[]) d a (fun u=>by cases u) ⟨u1,j,fun q z=>h.fl.only q ((b q).1 z).1,h.fl.xL,h.fl.xC⟩ t i.qn;exact⟨f,D',rfl,s,m,o,i,C,b,g⟩
theorem YU(nap:jz)(h:jt At w0 gd gl L chs D E w)(hc:D.count<=900000000){n c:Int}{d:Nat}{A:Option Addr}{cp:Nat}{R:LvL}(f:jr ⟨n,c,d,R⟩)(U:d<18446744073709551616)(Y:kQ w (.slice A R.length cp) R)(X:∀x∈R.flatten,jl D x=0->(tgL (rdW D (ptT x)).1).length<=10000)(r:Nat):
  Calls prog 133 #[ptr gd,j9 n c d (.slice A R.length cp),.float .f64 r] w fun e w' =>
   (∃gx T j,e = .returned (.tuple #[ptr gx,.int .i64 0])/\T.map (fun t=>(t.n:Int))=R.flatten/\(∀t∈T,vH D t.n t.l)/\j<=80/\uQ At w0 gd gl gx r ⟨⟨n,c,d,R⟩,T,[]⟩ L chs { D with count:=D.count+j } E w'/\zt E w w') ∨
   (∃x j,x∈R.flatten/\jl D x≠0/\j<=80/\e = .returned (.tuple #[.pointer none,err (jl D x)])/\jt At w0 gd gl L chs { D with count:=D.count+j } E w'/\zt E w w'):=by
 have K:=f.2.2.2.2.1.2.1;simp only at K;refine(RO api nap (r:=r) h.st.1 h.fl.up.wf h.fl.up.down (by omega) Y f X).mono ?_;rintro e w' (⟨gx,T,j,rfl,O,o,v,u,i⟩|⟨x,j,Z,V,v,rfl,u,i⟩)
 ·have s:T.map (fun t=>(t.n:Int))=R.flatten:=O;have z:j<=80:=by simp only at v;omega
  have W:kX { D with count:=D.count+j } ⟨⟨n,c,d,R⟩,T,[]⟩:=by
   refine⟨f,U,fun y=>?_, ?_,fun t g=>(o t g).1.count _,fun t g=>(o t g).2,List.Pairwise.nil,(fun y C=>by cases C),(fun y C=>by cases C)⟩
   ·show y∈R.flatten↔∃t∈T,(t.n:Int)=y;rw[<-s,qN]
   ·show(T.map TbS.n).Nodup;have m:R.flatten.Nodup:=f.2.2.2.2.1.2.2.2;rw[<-s]at m;unfold List.Nodup at m ⊢;rw[List.pairwise_map]at m ⊢;exact m.imp fun {a b} P e=>P (by omega)
  obtain⟨F,H⟩:=h.count (D.count+j);exact qX ⟨gx,T,j,rfl,s,fun t g=>(o t g).1,z,⟨u,i.qp h.st.2.1 qB,h.st.2.2.1,h.st.2.2.2,W,F,H,h.gl.count _⟩,i.less (fun b Q=>qF _ Q)⟩
 ·have z:j<=80:=by simp only at v;omega
  obtain⟨F,H⟩:=h.count (D.count+j);obtain⟨I,J⟩:=h.from (G:=[]) (D':={ D with count:=D.count+j }) u i (fun f=>by cases f) F H rfl;exact qY ⟨x,j,Z,V,z,rfl,I,J⟩
omit api in
theorem SP(iap:dS At)(h:uQ At w0 gd gl gx r S L chs D E w){n c:Int}{d:Nat}{A:Option Addr}{k cp:Nat}{R:LvL}{G:List Nat}(y:∀b∈G,b∈gl::E)(J:ur w (.slice A k cp) R G)(f:k=R.length)(o:R.flatten=S.m.lv.flatten)(z:R.length<=100000):
  Calls prog 83 #[ptr gd,j9 n c d (.slice A k cp)] w fun e w'=>∃D',e = .returned (.int .i64 0)/\jR At w0 gd gl gx r S L chs D' E w'/\zt E w w'/\yH D D'/\jX D'.l<=jX D.l/\jU D'.l jG=jU D.l jG:=by
 have T:=h.ok.xG;have U:=h.ok.many;obtain⟨D',i,a⟩:=R7 h.fl.up h.fl.nodup (m:=⟨n,c,d,R⟩);obtain⟨Q,s,O,P⟩:=a.dk (m:=⟨n,c,d,R⟩) h.fl o h.ok
 have C:Calls prog 83 #[ptr gd,j9 n c d (.slice A k cp)] w fun e w'=>jy At w0 gd gx r S D' (gl::E) w'/\zt (gl::E) w w'/\e = .returned (.int .i64 0):=by
  refine h.ix.quiet fun E' v u=>?_
  refine(iap.clean n c d A k cp R u h.fl.up.wf (fun W _ K=>J W (K.less (fun b g=>v b (y b g)))) f (by rw[o];omega) z).mono ?_;rintro e w'⟨rfl,j,t⟩;rw[i]at j;rw[i];exact⟨j,t,rfl⟩
 refine C.mono ?_;rintro e w'⟨H,f,rfl⟩;have F:=Vr h.xQ a.up (fun q I=>((a.names q).1 I).1) O;exact⟨D',rfl,⟨H,f.qp h.log qB,h.qe,h.low,Q,s,F,h.gl.xc a.stays.qn⟩,f.less (fun b g=>qF _ g),a.stays,a.used,P⟩
theorem SR(nap:jz)(cap:kc)(h:DS At w0 gd D E w)(a:cV (uy chs.length) D)(g:js D chs)(l:D.count<=900000000):Calls prog 38 #[ptr gd] w fun e w' =>
  ∃gl D',e = .returned (.tuple #[ptr gl,.int .i64 0])/\w.heap.size<=gl/\jt At w0 gd gl ⟨D.qn,chs.length,jn chs,jn chs⟩ chs D' E w'/\zt E w w'/\kD D D'/\D'.count<=D.count+200:=by
 obtain⟨D',c,b,c1⟩:=MW g (h.qo api);refine(h.zC api nap cap a.up.wf (by omega) (by rw[c])).mono ?_;rintro e w'⟨gl,rfl,j,f,i⟩;rw[c]at f
 have hw:WfP D':=by
  have:=SM (D:=D) a.up.wf;rw[c]at this;exact this
 refine⟨gl,D',rfl,j,⟨f,⟨⟨b.down.trans a.up.down,b.fails.trans a.up.fails,hw⟩,by unfold kM;rw[b.names];exact a.nodup,fun n d=>a.only n (by unfold kM at d ⊢;rw[<-b.names];exact d),a.xL,a.xC⟩,g.same b,⟨b.qn,rfl,rfl,qZ _⟩⟩,i,b,c1⟩
end
end
section
open Go.RowKit Go.Shelf
structure QS(At:jK)(w0:World)(gd gl gx r seed:Nat)(S:IxS)(L:jV)(chs:List (List Tw))(D D':zr)(E:List Nat)(w w':World):Prop where
 sx:jR At w0 gd gl gx r S L chs D' E w'
 kept:zt E w w'
 rb:gE seed S chs
 cap:D'.cap=D.cap
 qn:D'.qn=D.qn
 count:D'.count<=D.count+400+200*(zo 0 chs).length
 used:jX D'.l<=jX D.l
def ue(seed:Nat):jS:=⟨0,0,seed,[]⟩
theorem SS(seed:Nat):jr (ue seed):=⟨by show(0:Int)<=0;omega,by show(0:Int)<=1000000;omega,by show(0:Int)<=0;omega,by show(0:Int)<=2147483647;omega,(show dy [] by decide),fun x a=>by cases a⟩
def S0(seed:Nat)(a:Nat)(D:zr):Prop :=
 vE D≠0∨(vE D=0/\jr (j5 D)/\(∀x∈(j5 D).lv.flatten,jl D x=0->(tgL (rdW D (ptT x)).1).length<=10000)/\((j5 D).seed≠seed∨(a:Int)<(j5 D).check∨∃x∈(j5 D).lv.flatten,jl D x≠0))
structure lk(At:jK):Prop where
 keep:∀ {w0 w:World} {gd gl:Nat} {L:jV} {chs:List (List Tw)} {D:zr} {E:List Nat} (seed r:Nat) (S:IxS),jt At w0 gd gl L chs D E w->kX D S->gE seed S chs->fx D S->(∀t∈S.T,t.l.length<=10000)->(vM seed (zo 0 chs)).length<=1000->D.count<=800000000->r<18446744073709551616 ->
  Calls prog 39 #[ptr gd,ptr gl,.int .u64 (seed:Nat),.float .f64 r] w fun e w'=>∃gx S' D',e = .returned (.tuple #[ptr gx,.bool false,.int .i64 0])/\QS At w0 gd gl gx r seed S' L chs D D' E w w'/\fx D' S'/\S'.m=ga S.m
 zc:∀ {w0 w:World} {gd gl:Nat} {L:jV} {chs:List (List Tw)} {D:zr} {E:List Nat} (seed r:Nat),jt At w0 gd gl L chs D E w->(∀x∈zo 0 chs,kK x.2=true)->S0 seed (jn chs) D->(vM seed (zo 0 chs)).length<=1000->D.count<=800000000->seed<18446744073709551616->r<18446744073709551616 ->
  Calls prog 39 #[ptr gd,ptr gl,.int .u64 (seed:Nat),.float .f64 r] w fun e w'=>∃gx S' D',e = .returned (.tuple #[ptr gx,.bool true,.int .i64 0])/\QS At w0 gd gl gx r seed S' L chs D D' E w w'/\jU D'.l jG=none/\S'.T=[]/\S'.m=ue seed
def QT(seed:Nat)(D:zr)(S:IxS):Prop:=fx D S∨(jU D.l jG=none/\S.T=[]/\S.m=ue seed)
end
section
open Go.RowKit Go.Shelf
structure nR(seed:Nat)(S:IxS)(chs:List (List Tw))(D:zr):Prop where
 fl:cV (uy chs.length) D
 xQ:js D chs
 whole:∀x∈zo 0 chs,kK x.2=true
 vs:yu (jT (zo 0 chs))
 ix:(kX D S/\gE seed S chs/\fx D S)∨jU D.l jG=none
 lens:∀t∈S.T,t.l.length<=10000
section
variable {At:jK}(api:jY At)(nap:jz)(cap:kc)(rapi:lk At){w0 w:World}{gd gl gx gs r seed:Nat}{S S':IxS}{L L':jV}{chs chs':List (List Tw)}{D D':zr}{E:List Nat}
theorem fx.zN(h:fx D S)(k:kD D D'):fx D' S:=⟨(k.data jG).trans h.map,fun t j=>by
 obtain⟨f,c,d,g⟩:=h.has t j;have e:=k.data (ptT t.n);rw[c]at e;obtain⟨b,i,a⟩:=Option.map_eq_some_iff.1 (e:(jU D'.l (ptT t.n)).map zi.data=some f.data);exact⟨b,i,by rw[a];exact d,by rw[a];exact g⟩⟩
def YG(At:jK)(w0:World)(gd r seed:Nat)(S:IxS)(chs:List (List Tw))(D:zr)(E:List Nat)(w:World)(e:Ending)(w':World):Prop :=
 ∃gs gl gx S' L D',e = .returned (.tuple #[ptr gs,.int .i64 0])/\jM At w0 gd gl gx gs r seed S' L chs D' E w'/\zt E w w'/\QT seed D' S'/\(S'.m.next=S.m.next∨S'.m.next=0)/\D'.cap=D.cap/\D'.count<=D.count+600+200*(zo 0 chs).length/\jX D'.l<=jX D.l
include rapi in
theorem S1(a:jt At w0 gd gl L chs D E w)(o:nR seed S chs D)(l:seed<18446744073709551616)(g:r<18446744073709551616)(f:D.count<=800000000)(y:(zo 0 chs).length<=100):
  Calls prog 39 #[ptr gd,ptr gl,.int .u64 (seed:Nat),.float .f64 r] w fun e w'=>∃gx j S' D',e = .returned (.tuple #[ptr gx,.bool j,.int .i64 0])/\QS At w0 gd gl gx r seed S' L chs D D' E w w'/\QT seed D' S'/\(S'.m.next=S.m.next∨S'.m.next=0):=by
 have d:(vM seed (zo 0 chs)).length<=1000:=by have:=fq seed (zo 0 chs) o.whole;omega
 rcases o.ix with⟨s,t,u⟩|q
 ·refine(rapi.keep seed r S a s t u o.lens d f g).mono ?_;rintro e w'⟨gx,S',D',rfl,b,c,n⟩;exact⟨gx,_,S',D',rfl,b,qX c,qX (by rw[n];rfl)⟩
 ·refine(rapi.zc seed r a o.whole (qX (Rx a.fl.up.down q).1) d f l g).mono ?_;rintro e w'⟨gx,S',D',rfl,b,c,v,i⟩;exact⟨gx,_,S',D',rfl,b,qY ⟨c,v,i⟩,qY (by rw[i];rfl)⟩
include api nap cap rapi in
theorem S5(s:DS At w0 gd D E w)(o:nR seed S chs D)(R:seed<18446744073709551616)(hr:r<18446744073709551616)(O:D.count<=700000000)(hn:(zo 0 chs).length<=100):
  Calls prog 17 #[ptr gd,.int .u64 (seed:Nat),.float .f64 r] w (YG At w0 gd r seed S chs D E w):=by
 have ag:=s.kept.size;have v:=s.lt
 have J:=qQ ((SR api nap cap s o.fl o.xQ (by omega)).mono (fun e w' (hq:∃gl D',e = .returned (.tuple #[ptr gl,.int .i64 0])/\w.heap.size<=gl/\jt At w0 gd gl ⟨D.qn,chs.length,jn chs,jn chs⟩ chs D' E w'/\zt E w w'/\kD D D'/\D'.count<=D.count+200)=>(show ∃gl D',e = .returned (.tuple #[ptr gl,.int .i64 0])/\jt At w0 gd gl ⟨D.qn,chs.length,jn chs,jn chs⟩ chs D' E w'/\zt E w w'/\D'.cap=D.cap/\D'.count<=D.count+200/\jX D'.l=jX D.l/\nR seed S chs D' from by
  obtain⟨gl,D',e1,-,c,hk,m,ab⟩:=hq;refine⟨gl,D',e1,c,hk,m.cap,ab,m.used,c.fl,c.xQ,o.whole,o.vs, ?_,o.lens⟩;rcases o.ix with⟨X,Y,q3⟩|q
  ·exact qX ⟨X.zT m,Y,q3.zN m⟩
  ·refine qY ?_;have e:=m.data jG;rw[q]at e;cases q:jU D'.l jG with
   | none=>rfl
   | some f=>rw[q]at e;cases e)))
 have I:=qQ (fun W gl L D' (c:jt At w0 gd gl L chs D' E W) (o:nR seed S chs D') (O:D'.count<=800000000)=>S1 rapi c o R hr O hn);have aa:=qQ o.vs;clear s o;go_enter func17,ntmps17;go_wp2_with fail;refine J.out.mono ?_;rintro e w1⟨gl,Z,rfl,c,U,ac,af,ah,V⟩;have H:=qQ (I.out w1 gl _ Z c V (by omega));have t:=qQ U;clear c V U J I;go_wp2_with fail;refine H.out.mono ?_;rintro e a⟨gx,an,S',D2,rfl,d,P,Q⟩;have u:=(Below.refl a.heap.size a).alloc (qZ _) (.cells #[.pointer none,ptr gl,ptr gx,.int .u64 (seed:Nat)] 73);have g:=za.new a 73 #[.pointer none,ptr gl,ptr gx,.int .u64 (seed:Nat)];have n:=d.sx.more api u (B:=[a.heap.size]) (fun x A=>by rw[qE.1 A];exact⟨qZ _,g.lt⟩);have ae:w.heap.size<=a.heap.size:=qR t.out.size d.kept.size;have C:zt E w (a.alloc (.cells #[.pointer none,ptr gl,ptr gx,.int .u64 (seed:Nat)] 73)):=(t.out.trans d.kept).trans (zt.qm u (fun x A=>qP (v x A) ae));obtain⟨j,ad⟩:∃j,a.alloc (.cells #[.pointer none,ptr gl,ptr gx,.int .u64 (seed:Nat)] 73)=j:=⟨_,rfl⟩
 rw[ad]at g n C;have z:ze [a.heap.size] j (j.setCell ⟨a.heap.size,0,none⟩ (ptr a.heap.size)):=(ze.refl _ _).setCell (p:=⟨a.heap.size,0,none⟩) (qX qB) _;have K:=n.xX api (E':=[a.heap.size]++E) z (fun b i=>by rw[qE.1 i];exact⟨qA _ qB,by omega⟩) (fun b i=>qX i);have F:=g.put 0 (ptr a.heap.size)
 have T:zt E w (j.setCell ⟨a.heap.size,0,none⟩ (ptr a.heap.size)):=C.trans (zt.xK z (fun b i=>⟨n.lt b (qF _ (qV _ i)),fun y=>by
  have X:=qE.1 y;have Y:=v b i;omega⟩))
 have hF:YG At w0 gd r seed S chs D E w (.returned (.tuple #[ptr a.heap.size,.int .i64 0])) (j.setCell ⟨a.heap.size,0,none⟩ (ptr a.heap.size)):=by
  refine⟨a.heap.size,gl,gx,S',_,D2,rfl,⟨K,F,fun y=>?_,by omega,d.rb,aa.out,R⟩,T,P,Q,d.cap.trans ac,by have:=d.count;omega,by have:=d.used;omega⟩;have:=v _ y;omega
 have HF:=qQ hF;have f0:=g.frozen 0;have c0:=g.cell 0;clear hF K F T z n C u g d P Q H t;go_wp2;go_ret2;exact HF.out
end
section
variable {At:jK}(api:jY At)(nap:jz)(cap:kc)(rapi:lk At)
theorem S6(seed c:Nat)(b:c<=1048576):nR seed ⟨ue seed,[],[]⟩ [] (yf c) :=
 ⟨⟨sb b,List.nodup_nil,(fun n d=>by cases d),(fun x a=>by cases a),qH _⟩,MA c b,(fun x a=>by cases a),yu.nil,qY rfl,fun t f=>by cases f⟩
def YW(At:jK)(x:nY)(w:World)(e:Ending)(w':World):Prop :=
 ∃a gd gs gl gx S L D,Below w.heap.size w a/\e = .returned (.tuple #[ptr gd,ptr gs,.bool true])/\jM At a gd gl gx gs x.r x.d S L [] D [] w'/\QT x.d D S/\S.m.next=0/\D.cap=6000+4*x.m/\D.count<=600/\jX D.l=0
include api nap cap rapi
theorem S7(x:nY)(o:QX x)(w:World):Calls prog 8 #[QQ x] w (YW At x w):=by
 have O:=o.m;have j:=(Below.refl w.heap.size w).alloc (qZ _) (.cells #[.int .u64 (x.d:Nat),.float .f64 x.r,.int .u16 (x.m:Nat)] 27);have a:=za.new w 27 #[.int .u64 (x.d:Nat),.float .f64 x.r,.int .u16 (x.m:Nat)];obtain⟨f,Q⟩:∃f,w.alloc (.cells #[.int .u64 (x.d:Nat),.float .f64 x.r,.int .u16 (x.m:Nat)] 27)=f:=⟨_,rfl⟩
 rw[Q]at j a;have b:=VE api f (6000+4*x.m) (by omega);have i:=qQ (fun(W:World) gd (c:DS At f gd (yf (6000+4*x.m)) [] W)=>S5 (gd:=gd) (r:=x.r) (seed:=x.d) (S:=⟨ue x.d,[],[]⟩) (chs:=[]) (E:=[]) api nap cap rapi c (S6 x.d _ (by omega)) o.d o.r (by show(0:Nat)<=_;omega) (by show(0:Nat)<=_;omega));have u:((6000+4*x.m:Nat):Int)=6000+(x.m:Int)*4:=by omega
 rw[u]at b;have b:=qQ b;have I:=qQ j;have J:=qQ a;have C:=a.cell 0;have F:=a.cell 1;have H:=a.cell 2;obtain⟨U,sr,s⟩:=x;simp only at O b i C F H ⊢;clear j a u;go_enter func8,ntmps8;go_wp2_with fail;refine b.out.mono ?_;rintro e V⟨gd,rfl,c⟩;have t:=qQ (i.out V gd c);have g:=J.out.below c.kept;have R:=g.cell 0;have T:=g.cell 1;clear c g i C F H b;go_wp2_with fail;refine t.out.mono ?_;rintro e X⟨gs,gl,gx,S',L,D',rfl,v,-,z,A,y,n,P⟩;have K:Hid (YW At ⟨U,sr,s⟩ w (.returned (.tuple #[ptr gd,ptr gs,.bool true])) X):=qQ ⟨f,gd,gs,gl,gx,S',L,D',I.out,rfl,v,z,by rcases A with q | q<;>exact q,y,by have:(yf (6000+4*s)).count=0:=rfl;rw[this]at n;exact n,by have:jX (yf (6000+4*s)).l=0:=rfl;omega⟩;clear v z A y n P t R T;go_wp2;go_ret3;exact K.out
end
end
section
open Go.RowKit Go.Shelf
attribute [local go_sem] bA
theorem YA(s:Tw)(f:Int)(v:Value)(l:List jD)(w:World)(P:ke w v l)(i:Nat)(x:jD)(j:l[i]? = some x)(hf:0<=f/\f<=1073741824)(hl:l.length<=100):
  Calls prog 45 #[vJ s f v,.int .i64 (i:Nat)] w fun e w'=>e = .returned (.agg (fS ⟨s,f+(i:Nat),x⟩))/\Below w.heap.size w w':=by
 have hi:=(qM.1 j).1;rcases P with⟨rfl,-⟩|⟨K,b,off,cap,rfl,O,u,F⟩
 ·simp at j
 obtain⟨c0,c1,c2⟩:=F i x j;obtain⟨t,d,n⟩:=x;simp only at c0 c1 c2;have y:=(Below.refl w.heap.size w).alloc (qZ _) (.cells #[.string s,.int .i64 f,.slice (some ⟨b,off,none⟩) l.length cap] 92);have A:=za.new w 92 #[.string s,.int .i64 f,.slice (some ⟨b,off,none⟩) l.length cap];obtain⟨o,H⟩:∃o,w.alloc (.cells #[.string s,.int .i64 f,.slice (some ⟨b,off,none⟩) l.length cap] 92)=o:=⟨_,rfl⟩
 have R:o.heap.size=w.heap.size+1:=by rw[<-H];simp
 rw[H]at y A;have g:=y.alloc y.size (.cells #[.string ⟨#[]⟩,.int .i64 0,.string ⟨#[]⟩,.string ⟨#[]⟩,.float .f64 0] 66);have m:=A.alloc (.cells #[.string ⟨#[]⟩,.int .i64 0,.string ⟨#[]⟩,.string ⟨#[]⟩,.float .f64 0] 66);have a:=za.new o 66 #[.string ⟨#[]⟩,.int .i64 0,.string ⟨#[]⟩,.string ⟨#[]⟩,.float .f64 0];obtain⟨z,Q⟩:∃z,o.alloc (.cells #[.string ⟨#[]⟩,.int .i64 0,.string ⟨#[]⟩,.string ⟨#[]⟩,.float .f64 0] 66)=z:=⟨_,rfl⟩
 rw[Q]at g m a;rw[R]at a;have Y:=(g.cell (p:=⟨b,off+i*3,none⟩) u).trans c0;have Z:=(g.cell (p:=⟨b,off+i*3+1,none⟩) u).trans c1;have e2:=(g.cell (p:=⟨b,off+i*3+2,none⟩) u).trans c2;have k0:=m.cell 0;have k1:=m.cell 1;have k2:=m.cell 2;have f0:=a.frozen 0;have f1:=a.frozen 1;have f2:=a.frozen 2;have f3:=a.frozen 3;have f4:=a.frozen 4;have m0:=a.cell 0;have m1:=a.cell 1;have m2:=a.cell 2;have m3:=a.cell 3;have m4:=a.cell 4;have ew:IntKind.i64.wrap (f+(i:Int))=f+(i:Int):=by rw[IntKind.wrap_i64];omega
 have s1:(i:Int)<(l.length:Int):=by omega
 have C:=qQ g;have I:=qQ a;clear y A g m a c0 c1 c2 F j u O K;unfold vJ;go_enter func45,ntmps45;go_wp2;have c:=((((I.out.put 0 (.string s)).put 1 (.int .i64 (f+(i:Int)))).put 2 (.string t)).put 3 (.string d)).put 4 (.float .f64 n);have T:=c.cell 0;have U:=c.cell 1;have V:=c.cell 2;have W:=c.cell 3;have X:=c.cell 4
 have J:=qQ (show Below w.heap.size w (((((z.setCell ⟨w.heap.size+1,0,none⟩ (.string s)).setCell ⟨w.heap.size+1,1,none⟩ (.int .i64 (f+(i:Int)))).setCell ⟨w.heap.size+1,2,none⟩ (.string t)).setCell ⟨w.heap.size+1,3,none⟩ (.string d)).setCell ⟨w.heap.size+1,4,none⟩ (.float .f64 n)).drew from
  (C.out.trans ((((((ze.refl [w.heap.size+1] z).setCell (p:=⟨w.heap.size+1,0,none⟩) (qX qB) _).setCell (p:=⟨w.heap.size+1,1,none⟩) (qX qB) _).setCell (p:=⟨w.heap.size+1,2,none⟩) (qX qB) _).setCell (p:=⟨w.heap.size+1,3,none⟩) (qX qB) _).setCell (p:=⟨w.heap.size+1,4,none⟩) (qX qB) _ |>.below C.out.size (fun x j=>by rw[qE.1 j];omega))).drew)
 clear c;go_region
 go_wp2;exact bodyPost_ret (v:=.agg (fS ⟨s,f+(i:Nat),⟨t,d,n⟩⟩)) (by simp[results,Tryz.results45,go_sem,T,U,V,W,X]) rfl ⟨rfl,J.out⟩
abbrev dj(w:World)(base:Nat)(v:Value)(l:List jD):Prop:=w.ownsRow base 64 3 v l.length (l.flatMap gP)
theorem Q0{w:World}{g:Nat}(a b c:Value):ze [g] w (((w.setCell ⟨g,0,none⟩ a).setCell ⟨g,1,none⟩ b).setCell ⟨g,2,none⟩ c):=(((ze.refl [g] w).setCell (p:=⟨g,0,none⟩) (qX qB) _).setCell (p:=⟨g,1,none⟩) (qX qB) _).setCell (p:=⟨g,2,none⟩) (qX qB) _
theorem Sq(p:Tw)(w:World)(hw:kK p=true)(V:p.size<=100000):Calls prog 44 #[.string p] w fun e w'=>∃A c,e = .returned (.tuple #[vJ (bgS p) (bgF p) (.slice A (bgL p).length c),.int .i64 0])/\dj w' w.heap.size (.slice A (bgL p).length c) (bgL p)/\Below w.heap.size w w':=by
 obtain⟨-,-,-,O,-,-⟩:=br hw;have F:=(Below.refl w.heap.size w).alloc (qZ _) (.cells #[.string ⟨#[]⟩,.int .i64 0,.slice none 0 0] 92);have y:=za.new w 92 #[.string ⟨#[]⟩,.int .i64 0,.slice none 0 0];obtain⟨b,T⟩:∃b,w.alloc (.cells #[.string ⟨#[]⟩,.int .i64 0,.slice none 0 0] 92)=b:=⟨_,rfl⟩
 have W:b.heap.size=w.heap.size+1:=by rw[<-T];simp
 rw[T]at F y
 have K:Hid (Calls prog 95 #[.string p] b fun e w'=>∃A c,e = .returned (.tuple #[.agg #[.string (bgS p),.int .i64 (bgF p),.slice A (bgL p).length c],.int .i64 0])/\dj w' b.heap.size (.slice A (bgL p).length c) (bgL p)/\Below b.heap.size b w'):=qQ ((Kk p b V).mono fun e w' hg=>by
  obtain⟨u,rfl,R,b1⟩:=hg;obtain⟨A,c,rfl,-,-,-⟩:=v8 R;rw[O];exact⟨A,c,rfl,R,b1⟩)
 have J:=qQ F;have Y:=qQ y;have C:=qQ W;unfold vJ;generalize bgS p=s at*;generalize bgF p=f at*;generalize hL:bgL p=L at*;clear F y hL O hw V W;go_enter func44,ntmps44;go_wp2_with fail;refine K.out.mono ?_;rintro e X⟨A,c,rfl,H,l⟩;have aa:=qQ H;obtain⟨n,i⟩:∃n,n=L.length:=⟨_,rfl⟩
 rw[<-i];have m:=l.alloc l.size (.cells #[.string s,.int .i64 f,.slice A n c] 92);have d:=za.new X 92 #[.string s,.int .i64 f,.slice A n c];have a:=(Y.out.below l).alloc (.cells #[.string s,.int .i64 f,.slice A n c] 92);obtain⟨t,U⟩:∃t,X.alloc (.cells #[.string s,.int .i64 f,.slice A n c] 92)=t:=⟨_,rfl⟩
 have I:dj t b.heap.size (.slice A n c) L:=by rw[<-U,i];exact H.alloc _
 rw[U]at m d a;have o:=kv I a (by decide);have Q:=vW (vW (vW I (p:=⟨w.heap.size,0,none⟩) o (.string s)) (p:=⟨w.heap.size,1,none⟩) o (.int .i64 f)) (p:=⟨w.heap.size,2,none⟩) o (.slice A n c);have P:=(J.out.trans (m.mono (by rw[C.out];omega))).trans ((Q0 (g:=w.heap.size) (w:=t) (.string s) (.int .i64 f) (.slice A n c)).below ((J.out.trans (m.mono (by rw[C.out];omega))).size) (fun x hx=>by rw[qE.1 hx];exact qZ _));have j:=((a.put 0 (.string s)).put 1 (.int .i64 f)).put 2 (.slice A n c);have k0:=d.cell 0;have k1:=d.cell 1;have k2:=d.cell 2;have j0:=a.cell 0;have j1:=a.cell 1;have j2:=a.cell 2;have f0:=a.frozen 0;have f1:=a.frozen 1;have f2:=a.frozen 2;have q0:=j.cell 0;have q1:=j.cell 1;have q2:=j.cell 2;have z:=qQ (qU (cv Q (show w.heap.size<=b.heap.size by rw[C.out];omega)) P);rw[<-i]at z;have Z:=qQ i;clear l m d a j o Q P H I K aa i;go_wp2;obtain rfl:n=L.length:=Z.out;exact bodyPost_ret (v:=.tuple #[.agg #[.string s,.int .i64 f,.slice A L.length c],.int .i64 0]) (by simp[results,Tryz.results44,go_sem,q0,q1,q2]) rfl ⟨A,c,rfl,z.out.1,z.out.2⟩
section
variable {At:jK}(api:jY At)(nap:jz)(cap:kc){w0 w:World}{gd gl gx gs r seed q:Nat}{S:IxS}{L:jV}{chs:List (List Tw)}{D:zr}{E:List Nat}{p:Tw}
include api nap cap
theorem Sx(h:jM At w0 gd gl gx gs r seed S L chs D E w)(hc:D.count<=900000000)(t:(q,p)∈zo 0 chs):Calls prog 62 #[ptr gs,.int .i64 (q:Nat)] w fun e w'=>∃A c,e = .returned (.tuple #[vJ (bgS p) (bgF p) (.slice A (bgL p).length c),.int .i64 0])/\dj w' w.heap.size (.slice A (bgL p).length c) (bgL p) /\
  jM At w0 gd gl gx gs r seed S L chs { D with count:=D.count+2 } (jA (.slice A (bgL p).length c)++E) w'/\zt E w w':=by
 have hw:=h.rb.whole _ t;have hz:=Vi h.sx.xQ t;simp only at hw hz;have ai:=h.base.size;have aj:=qQ h.lt;have C:=(Below.refl w.heap.size w).alloc (qZ _) (.cells #[.string ⟨#[]⟩,.int .i64 0,.slice none 0 0] 92);have j:=za.new w 92 #[.string ⟨#[]⟩,.int .i64 0,.slice none 0 0];have d:=h.more api C (B:=[w.heap.size]) (fun x a=>by rw[qE.1 a];exact⟨qZ _,j.lt⟩);have F:=h.xB C;obtain⟨O,ak⟩:∃O,w.alloc (.cells #[.string ⟨#[]⟩,.int .i64 0,.slice none 0 0] 92)=O:=⟨_,rfl⟩
 rw[ak]at j d F;obtain⟨-,c1,-,-⟩:=d.cells;have U:=qQ (SV api nap cap d.sx hc t);have V:=qQ (fun X (hi:jR At w0 gd gl gx r S L chs { D with count:=D.count+2 } (gs::([w.heap.size]++E)) X) (hk:zt (gs::([w.heap.size]++E)) O X)=>d.step hi hk d.rb d.vs);have z:=qQ (fun W=>Sq p W hw (by omega));have ah:=qQ j;have T:=qQ F;unfold vJ at z ⊢;generalize bgS p=s at*;generalize bgF p=f at*;generalize hL:bgL p=L' at*;obtain⟨n,J⟩:∃n,n=L'.length:=⟨_,rfl⟩
 rw[<-J]at z ⊢;have HN:=qQ J;clear C j d F h hL hw hz t J hc;go_enter func62,ntmps62;go_wp2_with fail;refine U.out.mono ?_;rintro e P⟨rfl,ab,ag⟩;have i:=V.out P ab ag;have Q:=qQ (z.out P);have R:=qQ i;clear ab ag i U V c1;go_wp2_with fail;refine Q.out.mono ?_;rintro e w3⟨A,c,rfl,u,m⟩;obtain⟨i,H⟩:=R.out;have Y:=i.below api m;have I:=H.trans (zt.qm m i.lt);have b:=I.qp ah.out (qA _ qB);have o:=kv u b (by decide);have ae:=vW (vW (vW u (p:=⟨w.heap.size,0,none⟩) o (.string s)) (p:=⟨w.heap.size,1,none⟩) o (.int .i64 f)) (p:=⟨w.heap.size,2,none⟩) o (.slice A n c);have ad:=u;have Z:=i.more api m (B:=jA (.slice A n c)) (fun x a=>ad.lt x (jq.1 a));have K:=Q0 (g:=w.heap.size) (w:=w3) (.string s) (.int .i64 f) (.slice A n c)
 have af:w.heap.size<=P.heap.size:=by
  have:=(T.out.trans (H.less (fun x a=>qV _ a))).size;exact this
 have hF:=Z.xX api (E':=jA (.slice A n c)++E) K (fun x a=>by rw[qE.1 a];exact⟨qV _ (qA _ qB),ai⟩) (fun x a=>(qC.1 a).elim (fun q=>qX (qA _ q)) (fun q=>qX (qV _ (qV _ q))));have aa:∀x∈E,x<w3.heap.size/\x ∉ [w.heap.size]:=fun x a=>⟨Y.lt x (qV _ a),fun hm=>?_⟩
 rotate_left
 ·have d:=qE.1 hm;have i:=aj.out x a;omega
 have ac:=(T.out.trans (I.less (fun x a=>qV _ a))).trans (zt.xK K aa);have l:=((b.put 0 (.string s)).put 1 (.int .i64 f)).put 2 (.slice A n c);have j0:=b.cell 0;have j1:=b.cell 1;have j2:=b.cell 2;have f0:=b.frozen 0;have f1:=b.frozen 1;have f2:=b.frozen 2;have q0:=l.cell 0;have q1:=l.cell 1;have q2:=l.cell 2;have y:=qQ (qU (cv ae af) (qU hF ac));clear i H Y I b o ae ad Z K af hF ac l u m aa Q R;go_wp2;obtain rfl:n=L'.length:=HN.out;exact bodyPost_ret (v:=.tuple #[.agg #[.string s,.int .i64 f,.slice A L'.length c],.int .i64 0]) (by simp[results,Tryz.results62,go_sem,q0,q1,q2]) rfl ⟨A,c,rfl,y.out.1,y.out.2.1,y.out.2.2⟩
end
end
end Go.Proofs.YthejglbnkmimjaaGreat
