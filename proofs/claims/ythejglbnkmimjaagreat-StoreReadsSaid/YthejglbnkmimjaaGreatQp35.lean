import Derived.Test.YthejglbnkmimjaaGreatQp34
set_option linter.unusedVariables false
set_option maxRecDepth 100000
set_option maxHeartbeats 9000000
namespace Go.Proofs.YthejglbnkmimjaaGreat
open Proofs.Tryz
section
open Go.RowKit Go.Shelf
def fS(seed:Nat)(s:Tw)(a b:Int)(x:jT):Bool:=decide (a<=x.v)&&decide (x.v<=b)&&decide (kX seed x.s.data.toList=kX seed s.data.toList)
def gw(seed:Nat)(s:Tw)(a b:Int)(T:List jT):Nat:=(T.filter (fS seed s a b)).length
theorem qVR{seed:Nat}{s:Tw}{a b:Int}{T:List jT}{k:Nat}{x:jT}(h:T[k]? = some x):gw seed s a b (T.take (k+1))=gw seed s a b (T.take k)+(if fS seed s a b x=true then 1 else 0):=by
 unfold gw;rw[qw,h,List.filter_append,qN];congr 1;show([x].filter (fS seed s a b)).length=_;rw[List.filter_cons];split<;>rfl
theorem qVS{w:World}{v:Value}{T:List jT}(O:vh w v T)(hn:T.length<=100000)(seed:Nat)(hs:seed<18446744073709551616)(s:Tw)(R:s.size<=maxLen)(Q:∀x∈T,x.s.size<=maxLen)(a b:Int)(hv:∀x∈T,0<=x.v/\x.v<=1073741823):
  Calls prog 14 #[v,.int .u64 (seed:Nat),s,a,b] w (X0 (.int .i64 (gw seed s a b T:Nat)) w):=by
 obtain⟨A,off,c,rfl,-,P⟩:=O.form;have U:=qQ P;have Y:=qQ Q;have J:=qQ (fun(t:Tw) (ht:t.size<=maxLen) W=>MD seed t W hs ht);have Z:=qQ R;obtain⟨n,C⟩:∃n,n=T.length:=⟨_,rfl⟩
 have M:=qQ C;rw[<-C];have ac:n<=100000:=by omega
 have X:=qQ (fun k=>(show gw seed s a b (T.take k)<=100000 from qR (List.length_filter_le _ _) (by rw[qT];omega)));clear O P Q C hn R hv;go_enter func14,ntmps14;go_wp2;go_loopw [11,12] (fun nv G wr=>∃k:Nat,k<=n/\G=.int .i64 (k:Nat)/\nv=.int .i64 (gw seed s a b (T.take k):Nat)/\wr=w) (fun _ G _=>n-(intOf G).toNat)
 case atStart=>exact⟨0,qI _,rfl,rfl,rfl⟩
 case round =>
  obtain⟨k,hk,rfl,rfl,rfl⟩:=hrel;by_cases aa:k<n
  ·have s1:(k:Int)<(n:Int):=(by omega);obtain⟨y,l⟩:∃y,T[k]? = some y:=⟨_,qD (by rw[<-M.out];exact aa)⟩
   obtain⟨g,rfl,hg,a0,a1,-,-,-⟩:=U.out k y l;have q:=qQ (J.out y.s (Y.out y (qM l)));have I:=qQ (J.out s Z.out);have d:=qVR (seed:=seed) (s:=s) (a:=a) (b:=b) l;have ab:=X.out k;have f:fS seed s a b y=(decide (a<=y.v)&&decide (y.v<=b)&&decide (kX seed y.s.data.toList=kX seed s.data.toList)):=rfl;obtain⟨ys,p,ye⟩:=y;simp only at a0 a1 q f;generalize kX seed ys.data.toList=u at*;generalize kX seed s.data.toList=z at*;generalize gw seed s a b (T.take k)=m at*;by_cases c1:a<=p
   ·have r1:p≥a:=c1;by_cases c2:p<=b
    ·by_cases o:u=z
     ·rw[f,qB c1,qB c2,qB o]at d;have j:=qQ d;have r3:((u:Nat):Int)=(z:Nat):=(by omega);clear d f l c1 o
      go_wp2_with (first
       | (go_at_call 35;((with_reducible refine(q.out _).mono ?_);rintro e H⟨rfl,rfl⟩))
       | (go_at_call 35;((with_reducible refine(I.out _).mono ?_);rintro e H⟨rfl,rfl⟩))
       | fail)
      go_roundw
      case rel=>exact⟨k+1,by omega,by go_num,by rw[j.out];go_num,by first|rfl|trivial⟩
      case measure=>simp[intOf];omega
     ·rw[f,qB c1,qB c2,qA o]at d;have j:=qQ d;have r3:¬((u:Nat):Int)=(z:Nat):=(by omega);clear d f l c1 o
      go_wp2_with (first
       | (go_at_call 35;((with_reducible refine(q.out _).mono ?_);rintro e H⟨rfl,rfl⟩))
       | (go_at_call 35;((with_reducible refine(I.out _).mono ?_);rintro e H⟨rfl,rfl⟩))
       | fail)
      go_roundw
      case rel=>exact⟨k+1,by omega,by go_num,by rw[j.out];go_num,by first|rfl|trivial⟩
      case measure=>simp[intOf];omega
    ·rw[f,qB c1,qA c2]at d;have j:=qQ d;clear d f l c1;go_wp2;go_roundw
     case rel=>exact⟨k+1,by omega,by go_num,by rw[j.out];go_num,by first|rfl|trivial⟩
     case measure=>simp[intOf];omega
   ·rw[f,qA c1]at d;have j:=qQ d;have r1:¬p≥a:=c1;clear d f l c1;go_wp2;go_roundw
    case rel=>exact⟨k+1,by omega,by go_num,by rw[j.out];go_num,by first|rfl|trivial⟩
    case measure=>simp[intOf];omega
  ·obtain rfl:k=n:=(by omega);have s1:¬(k:Int)<(k:Int):=(by omega);have N:T.take k=T:=(by rw[M.out,List.take_length]);have V:=qQ N;clear N;go_wp2;go_ret;exact⟨by rw[V.out];rfl,rfl⟩
theorem qVT(seed:Nat)(s:Tw)(a b:Int)(x:Rec):(yO seed x).countP (fun e=>decide (e.h=kX seed s.data.toList/\a<=e.v/\e.v<=b))=(bL x.2).countP (fS seed s a b):=by
 have g:(bL x.2).countP (fS seed s a b)=((bL x.2).map jT.v).countP (fun v=>decide (a<=v)&&decide (v<=b)&&decide (kX seed (bgS x.2).data.toList=kX seed s.data.toList)):=by
  rw[List.countP_map];refine List.countP_congr fun y j=>?_
  unfold fS;rw[Qb j];exact Iff.rfl
 rw[g];unfold bL;rw[Ca,List.countP_map];unfold yO;rw[List.countP_map];refine List.countP_congr fun i _=>?_
 simp only[Function.comp_apply,Bool.and_eq_true,decide_eq_true_eq];constructor
 ·rintro ⟨c,d,f⟩;exact⟨⟨d,f⟩,c⟩
 ·rintro ⟨⟨d,f⟩,c⟩;exact⟨c,d,f⟩
theorem Dz(seed:Nat)(s:Tw)(a b:Int):∀R:List Rec,(uE seed R).countP (fun e=>decide (e.h=kX seed s.data.toList/\a<=e.v/\e.v<=b))=(ja R).countP (fS seed s a b)
 | []=>rfl
 | x::R=>by
   have c:uE seed (x::R)=yO seed x++uE seed R:=rfl;have d:ja (x::R)=bL x.2++ja R:=rfl;rw[c,d,List.countP_append,List.countP_append,qVT,Dz seed s a b R]
theorem Dj(seed:Nat)(s:Tw)(a b:Int)(T:List jT):gw seed s a b T=T.countP (fS seed s a b):=by
 unfold gw;rw[List.countP_eq_length_filter]
theorem qV0(seed:Nat)(s:Tw)(a b:Int)(T:List jT):(kV s a b T).length<=gw seed s a b T:=by
 rw[Dj];unfold kV ofT;rw[List.filter_filter,<-List.countP_eq_length_filter];refine List.countP_mono_left fun x g h=>?_
 unfold fS;simp only[Bool.and_eq_true,decide_eq_true_eq]at h ⊢;obtain⟨⟨c,d⟩,f⟩:=h;exact⟨⟨c,d⟩,by rw[f]⟩
section
variable {At:jR}{w0 w:World}{gd gl gx gs r seed:Nat}{S:IxS}{L:jq}{chs:List (List Tw)}{D:jD}{E:List Nat}
theorem qV1(h:ju At w0 gd gl gx gs r seed S L chs D E w)(s:Tw)(a b:Int):(vf S (kX seed s.data.toList) a b).length<=gw seed s a b (ja (jP 0 chs)):=by
 rw[Dj,<-Dz,List.countP_eq_length_filter];refine lA (nN h.sx.ok _ a b) (fun x d=>?_);have c:=(mI h.sx.ok _ a b x).1 d;exact qo.2 ⟨(h.rb.has x).1 c.1,qB ⟨c.2.1,c.2.2.1,by have:=c.2.2.2;unfold kY at this;omega⟩⟩
end
end
section
open Go.RowKit Go.Shelf
theorem qV2{P:List jT}{a:Int}{b k:Nat}{x:jT}(h:P[k]? = some x):(((P.take (k+1)).filter fun y=>decide (a<=y.v)).take b)=if a<=x.v/\(((P.take k).filter fun y=>decide (a<=y.v)).take b).length<b then(((P.take k).filter fun y=>decide (a<=y.v)).take b)++[x] else(((P.take k).filter fun y=>decide (a<=y.v)).take b):=by
 rw[qw,h,List.filter_append];generalize (P.take k).filter (fun y=>decide (a<=y.v))=Q;show(Q++[x].filter _).take b=_;rw[qT];by_cases c1:a<=x.v
 ·rw[List.filter_cons,qV (qB c1)];by_cases c2:min b Q.length<b
  ·rw[qV ⟨c1,c2⟩,List.take_append,qp (l:=Q) (by omega)];congr 1;exact qp (by simp;omega)
  ·rw[qZ (fun q=>c2 q.2)];exact List.take_append_of_le_length (by omega)
 ·rw[List.filter_cons,qZ (by simpa using c1),qZ (fun q=>c1 q.1)];rw[List.filter_nil,List.append_nil]
theorem qV3{T:List jT}(c:yf T)(s:Tw){a:Int}(k:0<=a)(b:Nat):(((ofT s T).filter fun y=>decide (a<=y.v)).take b)=kV s a (a+(b:Nat)-1) T:=by
 have f:(ofT s T).filter (fun y=>decide (a<=y.v))=(ofT s T).drop a.toNat:=by
  have g:(ofT s T).filter (fun y=>decide (a<=y.v))=kV s a ((ofT s T).length:Nat) T:=by
   unfold kV;refine List.filter_congr fun y j=>?_
   obtain⟨i,d⟩:=qd j;have:=c.at_ d;have:=(qO.1 d).1;exact decide_eq_decide.2 ⟨fun q=>⟨q,by omega⟩,fun q=>q.1⟩
  rw[g,Ci c];exact qp (by rw[xQ];omega)
 rw[f,Ci c];congr 1;omega
theorem qV4{P:List jT}{q:jT->Bool}{i:Nat}{x:jT}(h:P[i]? = some x):((P.drop i).filter q).reverse=if q x=true then((P.drop (i+1)).filter q).reverse++[x] else((P.drop (i+1)).filter q).reverse:=by
 obtain⟨a,rfl⟩:=qO.1 h;rw[xJ a,List.filter_cons];split<;>simp
variable {w:World}{gm:Nat}{vL:Value}{T:List jT}
theorem qV5(g:w.cell? ⟨gm,0,none⟩=some vL)(s:Tw)(f:s.size<=maxLen)(a b:Int)(o:Bool)(d:yP s a b≠0):
  Calls prog 26 #[ptr gm,s,a,b,o] w (X3 (.tuple #[.slice none 0 0,.int .i64 2]) w):=by
 have c:=sw s w f;unfold yP at d;by_cases e:stS s=true
 ·rw[e]at c d;have c:=qQ c;by_cases c1:0<=a
  ·have c2:¬1<=b:=fun q=>d (by rw[qV ⟨rfl,c1,q⟩])
   have l:¬a<0:=(by omega);have m:b<1:=(by omega);clear g f e d c1 c2;go_enter func26,ntmps26
   go_wp2_with (first
    | (go_at_call 52;((with_reducible refine c.out.mono ?_);rintro e k⟨rfl,rfl⟩))
    | fail)
   go_ret2;exact⟨rfl,qU _ _⟩
  ·have l:a<0:=(by omega);clear g f e d c1;go_enter func26,ntmps26
   go_wp2_with (first
    | (go_at_call 52;((with_reducible refine c.out.mono ?_);rintro e k⟨rfl,rfl⟩))
    | fail)
   go_ret2;exact⟨rfl,qU _ _⟩
 ·have j:stS s=false:=by simpa using e
  rw[j]at c;have c:=qQ c;clear g f e j d;go_enter func26,ntmps26
  go_wp2_with (first
   | (go_at_call 52;((with_reducible refine c.out.mono ?_);rintro e k⟨rfl,rfl⟩))
   | fail)
  go_ret2;exact⟨rfl,qU _ _⟩
theorem qV6(h0:w.cell? ⟨gm,0,none⟩=some vL)(hT:vh w vL T)(W:T.length<=100000)(hv:yf T)(s:Tw)(hs:s.size<=maxLen)(a b:Int)(j:b<=9223372036854775807)(hq:yP s a b=0):
  Calls prog 26 #[ptr gm,s,a,b,.bool false] w fun e w'=>∃A c,e=.returned (.tuple #[.slice A (kV s a (a+b-1) T).length c,.int .i64 0])/\vh w' (.slice A (kV s a (a+b-1) T).length c) (kV s a (a+b-1) T)/\Below w.1.size w w':=by
 obtain⟨c0,c1,c2⟩:=Ql hq;have H:=sw s w hs;rw[c0]at H;have H:=qQ H;have HM:=qQ (sC h0 hT W s);obtain⟨f,rfl⟩:∃f:Nat,b=f:=⟨b.toNat,by omega⟩
 have ab:=qV3 hv s c1 f;rw[<-ab];have af:(ofT s T).length<=100000:=qR (List.length_filter_le _ _) W;have aa:∀(i:Nat) x,(ofT s T)[i]? = some x->x.v=((i:Nat):Int):=fun i x hx=>hv.at_ hx
 generalize ofT s T=P at*;obtain⟨pm,Z⟩:∃pm,pm=((P.filter fun y=>decide (a<=y.v)).take f).length:=⟨_,rfl⟩
 rw[<-Z];have ae:=qQ Z;clear Z;obtain⟨n,Y⟩:∃n,n=P.length:=⟨_,rfl⟩
 have HN:=qQ Y;have ai:n<=100000:=by omega
 have ac:=qQ aa;have r1:¬a<0:=by omega
 have r2:¬((f:Nat):Int)<1:=by omega
 rw[<-Y]at HM;clear h0 hT W hv hs hq ab af Y aa c0 c1 c2 j;go_enter func26,ntmps26
 go_wp2_with (first
  | (go_at_call 52;((with_reducible refine X5 H.out ?_)))
  | (go_at_call 53;((with_reducible refine HM.out.mono ?_);rintro e w3⟨A3,c3,rfl,r3,Q⟩;have V:=qQ (qG r3 Q);clear r3 Q))
  | fail)
 go_loopw [13,14] (fun lv iv wr=>∃(k o c1:Nat) (z:Option Addr),k<=n/\iv=.int .i64 (k:Nat)/\lv=.slice z o c1/\o=(((P.take k).filter fun y=>decide (a<=y.v)).take f).length/\kT wr w3.1.size (.slice z o c1) (((P.take k).filter fun y=>decide (a<=y.v)).take f)/\Below w3.1.size w3 wr) (fun _ iv _=>n-(intOf iv).toNat)
 case atStart=>exact⟨0,0,0,none,qI _,rfl,rfl,by simp,by simpa using kT.nil _ _,qU _ _⟩
 case round =>
  obtain⟨k,o,c1,z,hk,rfl,rfl,l,m,j⟩:=hrel;by_cases ag:k<n
  ·have s1:(k:Int)<(n:Int):=(by omega);obtain⟨y,C⟩:∃y,P[k]? = some y:=⟨_,qD (by rw[<-HN.out];exact ag)⟩
   obtain⟨g,rfl,-,G,⟨I,J,M,N,O⟩,-⟩:=V.out.1.cells C;have b0:=jm j G I;have b1:=jm j G J;have b2:=jm j G M;have Q:=jm j G N;have b4:=jm j G O;have p:=qV2 (a:=a) (b:=f) C;have U:=ac.out k y C;rw[<-l,U]at p;rw[U]at b1
   have R:(((P.take k).filter fun y=>decide (a<=y.v)).take f).length<=100000:=by
    have h2:((P.take k).filter fun y=>decide (a<=y.v)).length<=(P.take k).length:=List.length_filter_le _ _;rw[qT]at h2 ⊢;omega
   have aj:o<=100000:=(by omega);by_cases t:a<=(k:Int)
   ·have t1:(k:Int)≥a:=t;by_cases q2:o<f
    ·rw[qV ⟨t,q2⟩]at p;have t2:(o:Int)<(f:Int):=(by omega);obtain⟨u,w9,e9,A9,n9,c9,rfl,X,r9,b9⟩:=KQ m R j.size y 36;rw[<-p]at r9 X;have ad:=qQ e9;have d:=qQ (qG X (qG r9 (j.trans b9)));obtain⟨ys,yv,⟨yt,yd,yb⟩⟩:=y;simp only at b0 b1 b2 Q b4 U;subst U;clear e9 X r9 b9 C I J M N O p m l R t;go_wp2_with (first|(at_builtin;refine yK rfl _ _ rfl rfl rfl ad.out ?_)|fail);go_roundw
     case rel=>exact⟨k+1,n9,c9,A9,by omega,by go_num,rfl,d.out.1,d.out.2.1,d.out.2.2⟩
     case measure=>simp[intOf];omega
    ·rw[qZ (fun q=>q2 q.2)]at p;have t2:¬(o:Int)<(f:Int):=(by omega);rw[<-p]at m l;have d:=qQ (qG l (qG m j));clear C I J M N O p m l R t;go_wp2;go_roundw
     case rel=>exact⟨k+1,o,c1,z,by omega,by go_num,rfl,d.out.1,d.out.2.1,d.out.2.2⟩
     case measure=>simp[intOf];omega
   ·rw[qZ (fun q=>t q.1)]at p;have t1:¬(k:Int)≥a:=t;rw[<-p]at m l;have d:=qQ (qG l (qG m j));clear C I J M N O p m l R t;go_wp2;go_roundw
    case rel=>exact⟨k+1,o,c1,z,by omega,by go_num,rfl,d.out.1,d.out.2.1,d.out.2.2⟩
    case measure=>simp[intOf];omega
  ·obtain rfl:k=n:=(by omega);have s1:¬(k:Int)<(k:Int):=(by omega);have e1:P.take k=P:=(by rw[HN.out,List.take_length]);rw[e1]at m l;have d:=qQ (qG m.xE (V.out.2.trans (j.mono V.out.2.size)));have ah:o=pm:=l.trans ae.out.symm;subst ah;clear m l;go_wp2;go_ret2;exact⟨z,c1,rfl,d.out.1,d.out.2⟩
theorem qV7(h0:w.cell? ⟨gm,0,none⟩=some vL)(hT:vh w vL T)(Z:T.length<=100000)(hv:yf T)(s:Tw)(hs:s.size<=maxLen)(a b:Int)(ha:a<=9223372036854775807)(hq:yP s a b=0):
  Calls prog 26 #[ptr gm,s,a,b,.bool true] w fun e w'=>∃A c,e=.returned (.tuple #[.slice A (kV s (a-b+1) a T).reverse.length c,.int .i64 0])/\vh w' (.slice A (kV s (a-b+1) a T).reverse.length c) (kV s (a-b+1) a T).reverse/\Below w.1.size w w':=by
 obtain⟨c0,c1,c2⟩:=Ql hq;have J:=sw s w hs;rw[c0]at J;have J:=qQ J;have HM:=qQ (sC h0 hT Z s);obtain⟨z,rfl⟩:∃z:Nat,b=z:=⟨b.toNat,by omega⟩
 unfold kV;obtain⟨q,ad⟩:∃q:jT->Bool,q=fun x=>decide (a-(z:Nat)+1<=x.v/\x.v<=a):=⟨_,rfl⟩
 rw[<-ad];have HQ:=qQ (fun(x:jT)=>(show q x=decide (a-(z:Nat)+1<=x.v/\x.v<=a) by rw[ad]));have al:0<=a:=c1;have ak:a<=9223372036854775807:=ha;have ai:(ofT s T).length<=100000:=qR (List.length_filter_le _ _) Z;have ae:∀(i:Nat) x,(ofT s T)[i]? = some x->x.v=((i:Nat):Int):=fun i x hx=>hv.at_ hx
 generalize ofT s T=P at*;obtain⟨pm,ac⟩:∃pm,pm=(P.filter q).reverse.length:=⟨_,rfl⟩
 rw[<-ac];have ah:=qQ ac;clear ac;obtain⟨n,ab⟩:∃n,n=P.length:=⟨_,rfl⟩
 have I:=qQ ab;have ao:n<=100000:=by omega
 have af:=qQ ae;have r1:¬a<0:=by omega
 have r2:¬((z:Nat):Int)<1:=by omega
 rw[<-ab]at HM;clear h0 hT Z hv hs hq ai ab ae c0 c1 c2 ha ad;go_enter func26,ntmps26
 go_wp2_with (first
  | (go_at_call 52;((with_reducible refine X5 J.out ?_)))
  | (go_at_call 53;((with_reducible refine HM.out.mono ?_);rintro e w3⟨A3,c3,rfl,r3,U⟩;have X:=qQ (qG r3 U);clear r3 U))
  | fail)
 go_loopw [13,14] (fun lv iv wr=>∃(k p c1:Nat) (t:Option Addr),k<=n/\iv=.int .i64 (k:Nat)/\lv=.slice t p c1/\p=(((P.drop (n-k)).filter q).reverse).length/\kT wr w3.1.size (.slice t p c1) (((P.drop (n-k)).filter q).reverse)/\Below w3.1.size w3 wr) (fun _ iv _=>n-(intOf iv).toNat)
 case atStart=>exact⟨0,0,0,none,qI _,rfl,rfl,by rw[List.drop_of_length_le (by rw[<-I.out];omega)];rfl,by rw[List.drop_of_length_le (by rw[<-I.out];omega)];exact kT.nil _ _,qU _ _⟩
 case round =>
  obtain⟨k,p,c1,t,hk,rfl,rfl,o,l,m⟩:=hrel;by_cases an:k<n
  ·have s1:(k:Int)<(n:Int):=(by omega);obtain⟨y,C⟩:∃y,P[n-1-k]? = some y:=⟨_,qD (by rw[<-I.out];omega)⟩
   obtain⟨g,rfl,-,H,⟨M,N,O,Q,R⟩,-⟩:=X.out.1.cells C;have b0:=jm m H M;have Y:=jm m H N;have b2:=jm m H O;have U:=jm m H Q;have b4:=jm m H R;have f:=qV4 (q:=q) C;rw[show n-1-k+1=n-k by omega]at f;rw[show n-1-k=n-(k+1) by omega]at f;have G:=af.out (n-1-k) y C;have j:=HQ.out y;rw[G]at Y j;have s7:(n:Int)-1-(k:Int)<(n:Int):=(by omega);have s8:0<=(n:Int)-1-(k:Int):=by omega
   have W:((P.drop (n-k)).filter q).reverse.length<=100000:=by
    rw[List.length_reverse];have h2:((P.drop (n-k)).filter q).length<=(P.drop (n-k)).length:=List.length_filter_le _ _;rw[xQ]at h2;have:=I.out;omega
   obtain⟨i,V⟩:∃i:Nat,i=n-1-k:=⟨_,rfl⟩
   rw[<-V]at Y j G;have am:i<=100000:=(by omega);by_cases q1:(i:Int)<=a
   ·by_cases q2:a-(i:Int)<(z:Nat)
    ·rw[qB (by omega)]at j;rw[qV j]at f;obtain⟨u,w9,e9,A9,n9,c9,rfl,aa,r9,b9⟩:=KQ l W m.size y 36;rw[<-f]at r9 aa;have ag:=qQ e9;have d:=qQ (qG aa (qG r9 (m.trans b9)));obtain⟨ys,yv,⟨yt,yd,yb⟩⟩:=y;simp only at b0 Y b2 U b4 G;subst G;clear e9 aa r9 b9 C M N O Q R f l o W j;subst V;go_wp2_with (first|(at_builtin;refine yK rfl _ _ rfl rfl rfl ag.out ?_)|fail);go_roundw
     case rel=>exact⟨k+1,n9,c9,A9,by omega,by go_num,rfl,d.out.1,d.out.2.1,d.out.2.2⟩
     case measure=>simp[intOf];omega
    ·rw[qA (by omega)]at j;rw[qZ (by rw[j];decide)]at f;rw[<-f]at l o;have d:=qQ (qG o (qG l m));clear C M N O Q R f l o W j G;subst V;go_wp2;go_roundw
     case rel=>exact⟨k+1,p,c1,t,by omega,by go_num,rfl,d.out.1,d.out.2.1,d.out.2.2⟩
     case measure=>simp[intOf];omega
   ·rw[qA (by omega)]at j;rw[qZ (by rw[j];decide)]at f;rw[<-f]at l o;have d:=qQ (qG o (qG l m));clear C M N O Q R f l o W j G;subst V;go_wp2;go_roundw
    case rel=>exact⟨k+1,p,c1,t,by omega,by go_num,rfl,d.out.1,d.out.2.1,d.out.2.2⟩
    case measure=>simp[intOf];omega
  ·obtain rfl:k=n:=(by omega);have s1:¬(k:Int)<(k:Int):=(by omega);rw[Nat.sub_self,List.drop_zero]at l o;have d:=qQ (qG l.xE (X.out.2.trans (m.mono X.out.2.size)));have aj:p=pm:=o.trans ah.out.symm;subst aj;clear l o;go_wp2;go_ret2;exact⟨t,c1,rfl,d.out.1,d.out.2⟩
end
section
open Go.RowKit Go.Shelf
theorem qV8{w:World}{gm:Nat}{vL:Value}{T:List jT}(j:w.cell? ⟨gm,0,none⟩=some vL)(o:vh w vL T)(u:T.length<=100000)(s:Tw)(M:s.size<=100000)(a:Int)(l:List jj){A:Option Addr}{m c:Nat}(v:vC w (.slice A m c) l)(J:m=l.length)(t:l.length<=300)(y:∀x∈l,bC x)(d:uc s a l T≠0):
  Calls prog 28 #[ptr gm,s,a,.slice A m c] w (X3 (.tuple #[.int .i64 0,.int .i64 (uc s a l T)]) w):=by
 have k:=qQ (show Calls prog 54 #[.agg #[s,.int .i64 0,.slice A m c]] w (X3 (.int .i64 (kQ s 0 l)) w) from QE s 0 (.slice A m c) l w ⟨M,by decide,v,t,y⟩);have q:gm<w.1.size:=World.block_lt_of_cell? w _ j;have H:=qQ (fun W (p:Below w.1.size w W)=>sC (jm p q j) (o.below p (qK _)) u s);have Q:(ofT s T).length<=100000:=qR (List.length_filter_le _ _) u;unfold uc at d ⊢;unfold uN at d ⊢;generalize ofT s T=P at*;clear j o v J t y q;generalize kQ s 0 l=z at*;by_cases c1:z≠0
 ·rw[qV c1];have N:¬(z:Int)=0:=c1;clear d c1;go_enter func28,ntmps28
  go_wp2_with (first
   | (go_at_call 54;((with_reducible refine k.out.mono ?_);rintro e C⟨rfl,b⟩;have f:=qQ b;clear b))
   | fail)
  go_ret2;exact⟨rfl,f.out⟩
 ·rw[qZ c1]at d ⊢;obtain rfl:z=0:=by simpa using c1
  by_cases c2:a < -2
  ·rw[qV c2];clear d c1;go_enter func28,ntmps28
   go_wp2_with (first
    | (go_at_call 54;((with_reducible refine k.out.mono ?_);rintro e C⟨rfl,b⟩;have f:=qQ b;clear b))
    | fail)
   go_ret2;exact⟨rfl,f.out⟩
  ·rw[qZ c2]at d ⊢;by_cases g:a≠-2/\a≠((P.length:Nat):Int)-1
   ·rw[qV g];have N:(a != -2)=true:=(by rw[bne_iff_ne];exact g.1);have R:(a != ((P.length:Nat):Int)-1)=true:=(by rw[bne_iff_ne];exact g.2);clear d c1 g;go_enter func28,ntmps28
    go_wp2_with (first
     | (go_at_call 54;((with_reducible refine k.out.mono ?_);rintro e C⟨rfl,b⟩;have f:=qQ b;clear b;have I:=qQ (H.out _ f.out)))
     | (go_at_call 53;((with_reducible refine I.out.mono ?_);rintro e U⟨O,g,rfl,-,n⟩;have G:=qQ n;clear n))
     | fail)
    go_ret2;exact⟨rfl,f.out.trans (G.out.mono f.out.size)⟩
   ·exact absurd (by rw[qZ g]) d
end
section
open Go.RowKit Go.Shelf
attribute [local go_sem ↓] Go.wp_at_zero Go.wp_at_succ
theorem uJ.jK{q:Bool}{c w:World}{gm a:Nat}{F:List Nat}{vL vM b:Value}{T:List jT}{K:List Int}{s:Tw}{v f:Int}{y:jj}(h:uJ q c gm F a vL vM b (T++[⟨s,v,y⟩]) K w)(e:v=f):uJ q c gm F a vL vM b (T++[⟨s,f,y⟩]) K w:=e ▸ h
theorem Dv{s:Tw}{a:Int}{l:List jj}{T:List jT}(h:uc s a l T=0):kQ s 0 l=0/\¬a < -2/\(a = -2∨a≠-2/\a=((ofT s T).length:Nat)-1):=by
 unfold uc at h;by_cases c1:kQ s 0 l=0
 ·rw[qZ (by simpa using c1)]at h;by_cases c2:a < -2
  ·rw[qV c2]at h;cases h
  ·rw[qZ c2]at h;by_cases c:a≠-2/\a≠uN s T
   ·rw[qV c]at h;cases h
   ·refine⟨c1,c2, ?_⟩;by_cases b:a = -2
    ·exact qX b
    ·exact qY ⟨b,Decidable.byContradiction fun d=>c ⟨b,d⟩⟩
 ·rw[qV c1]at h;exact absurd h c1
theorem Dy{q:Bool}{w:World}{gm J:Nat}{F:List Nat}{vL vM O:Value}{T:List jT}{K:List Int}(h:uJ q w gm F J vL vM O T K w)(hT:vh w vL T)(hn:T.length<=90000)(Y:K.length<=90000)(s:Tw)(hs:s.size<=100000)(a:Int)(l:List jj){A:Option Addr}{m c:Nat}(hv:∀W,jH F w W->vC W (.slice A m c) l)(hm:m=l.length)(Z:l.length<=300)(hx:∀x∈l,bC x)(hq:uc s a l T=0)(hb:kQ s ((ofT s T).length:Nat) l=0):
  Calls prog 28 #[ptr gm,s,a,.slice A m c] w fun e w'=>e=.returned (.tuple #[.int .i64 ((ofT s T).length:Nat),.int .i64 0])/\∃ad ae,uJ q w gm F J ad ae O (T++yc s ((ofT s T).length:Nat) l) (K++[((l.length:Nat):Int)]) w':=by
 obtain⟨q1,q2,v⟩:=Dv hq;obtain⟨-,-,ay,-⟩:=gh.1 q1;have aj:=h.m.lt;have h0:w.cell? ⟨gm,0,none⟩=some vL:=h.m.cell 0;have M:=hv w (jH.refl _ _);have al:0<l.length:=by omega
 obtain⟨p,u,rfl,-,-⟩:=M.pos al
 have HE:Hid (∀W,jH F w W->∀i x,l[i]? = some x->W.cell? ⟨p,u+i*3,none⟩=some (.string x.t)/\W.cell? ⟨p,u+i*3+1,none⟩=some (.string x.d)/\W.cell? ⟨p,u+i*3+2,none⟩=some (.float .f64 x.b)):=qQ fun W z i x X=>by
  rcases hv W z with⟨e,-⟩|⟨-,b,off,cap,e,-,-,hc⟩
  ·rw[e]at X;cases X
  ·obtain⟨U,-,-⟩:=Value.slice.inj e;cases U;exact hc i x X
 have ah:Hid (Calls prog 54 #[.agg #[s,.int .i64 0,.slice (some ⟨p,u,none⟩) m c]] w (X3 (.int .i64 0) w)):=qQ (by
  have:=QE s 0 (.slice (some ⟨p,u,none⟩) m c) l w ⟨hs,by decide,M,Z,hx⟩;rw[q1]at this;exact this)
 have HM:=qQ (fun W (z:Below w.1.size w W)=>sC (jm z aj h0) (hT.below z (qK _)) (by omega) s);have ax:(ofT s T).length<=90000:=qR (List.length_filter_le _ _) hn;obtain⟨g,C⟩:∃g,g=(ofT s T).length:=⟨_,rfl⟩
 have ag:Hid (∀W,Below w.1.size w W->Calls prog 55 #[.agg #[s,.int .i64 (g:Nat),.slice (some ⟨p,u,none⟩) m c]] W (X3 (.tuple #[.string (oR s (g:Nat) l),.int .i64 0]) W)):=qQ fun W z=>by
  have:=Ty s (g:Nat) (.slice (some ⟨p,u,none⟩) m c) l W ⟨hs,WalkArith.wf_i64 (by omega),M.below z (qK _),Z,hx⟩;rw[C,hb,<-C]at this;exact this
 have H:=qQ h;rw[<-C]at HM ax v ⊢;have aA:=qQ C;subst hm;have af:Hid (T.length<=90000/\K.length<=90000):=qQ ⟨hn,Y⟩;obtain⟨n,ab⟩:∃n,n=l.length:=⟨_,rfl⟩
 rw[<-ab]at ah ag ⊢;have I:=qQ ab;have aB:n<=300:=by omega
 clear h hT hn Y hv Z hx hq hb q1 ay h0 M C ab hs aj al
 have HF:Hid (∀N r2:Bool,(a != -2)=N->(N=true->(a != ((g:Nat):Int)-1)=false)->Calls prog 28 #[ptr gm,s,a,.slice (some ⟨p,u,none⟩) n c] w fun e w'=>e=.returned (.tuple #[.int .i64 (g:Nat),.int .i64 0])/\∃ad ae,uJ q w gm F J ad ae O (T++yc s (g:Nat) l) (K++[((n:Nat):Int)]) w'):=qQ (by
  intro N r2 aC ac;clear v;cases N
  case' true =>
   have g2:=ac rfl;clear ac
  case' false =>
   clear ac
  all_goals
   go_enter func28,ntmps28
   go_wp2_with (first
    | (go_at_call 54;((with_reducible refine KG ah.out fun w2 b2=>?_);have Q:=qQ b2;clear b2;have ar:=qQ (HM.out _ Q.out)))
    | (go_at_call 53;((with_reducible refine ar.out.mono ?_);rintro e w3⟨A3,c3,rfl,-,b3⟩;have R:=qQ (Q.out.trans (b3.mono Q.out.size));clear b3;have av:=qQ (ag.out _ R.out)))
    | (go_at_call 55;((with_reducible refine KG av.out fun w4 b4=>?_);have am:=qQ (R.out.trans (b4.mono R.out.size));clear b4))
    | fail)
   go_loopw [12] (fun iv wr=>∃(k:Nat) (G:Value),k<=n/\iv=.int .i64 (k:Nat)/\uJ q w gm F J G vM O (T++yc s (g:Nat) (l.take k)) K wr) (fun iv _=>n-(intOf iv).toNat)
   case atStart=>exact⟨0,vL,qI _,rfl,by rw[List.take_zero,show yc s (g:Nat) []=[] from rfl,List.append_nil];exact H.out.below am.out⟩
   case round =>
    obtain⟨k,G,Y,rfl,j⟩:=hrel;by_cases az:k<n
    ·have s1:(k:Int)<(n:Int):=(by omega);obtain⟨y,hy⟩:∃y,l[k]? = some y:=⟨_,qD (by rw[<-I.out];exact az)⟩
     obtain⟨e0,U,e2⟩:=HE.out wr j.tc k y hy;have ak:=j.m.lt;have z0:wr.cell? ⟨gm,0,none⟩=some G:=j.m.cell 0;have za:∀o,(wr.alloc o).cell? ⟨gm,0,none⟩=some G:=fun o=>(((qU wr.1.size wr).alloc (qK _) o).cell (p:=⟨gm,0,none⟩) ak).trans z0
     have zb:∀o,(wr.drew.alloc o).cell? ⟨gm,0,none⟩=some G:=za;have HY:=qQ hy;have aa:(T++yc s (g:Nat) (l.take k)).length<=100000:=(by rw[qN,Jh,qT];have:=af.out.1;omega);obtain⟨P,V⟩:∃P,P=T++yc s (g:Nat) (l.take k):=⟨_,rfl⟩
     rw[<-V]at j aa;have aq:=qQ aa;have aw:=qQ V;have au:=qQ j;obtain⟨yt,yd,yb⟩:=y;simp only at e0 U e2;clear j hy ak aa V;go_wp2
     go_region_law (first
      | (refine qVP (x:=⟨s,IntKind.i64.wrap (IntKind.i64.wrap ((g:Nat):Int)+((k:Nat):Int)),⟨yt,yd,yb⟩⟩) au.out aq.out (by repeat' (first|with_reducible assumption|with_reducible exact qU _ _|with_reducible refine Below.drew ?_|with_reducible refine rZ ?_ _)) (by rfl) _ _ (by rfl) (by rfl) (by rfl) (by first|exact sG _ _|exact(sG _ _).drew|exact(sG _ _).drew.drew) ?_;intro A1 c1 V1 k1 f1 ai;have ao:=qQ ai;clear ai)
      | fail)
     all_goals
      have ap:=qQ (ao.out.jK (f:=(g:Nat)+((k:Nat):Int)) (by simp only[IntKind.wrap_i64];omega));go_wp2;go_roundw
      case rel =>
       refine⟨k+1,.slice A1 (P.length+1) c1,by omega,by go_num, ?_⟩;rw[qw,HY.out,show(some (⟨yt,yd,yb⟩:jj)).toList=[⟨yt,yd,yb⟩] from rfl,qKX,qT,Nat.min_eq_left (by rw[<-I.out];omega),<-qn,<-aw.out];exact ap.out
      case measure=>simp[intOf];omega
    ·obtain rfl:k=n:=(by omega);have s1:¬(k:Int)<(k:Int):=(by omega);obtain⟨A5,c5,w6,e5,k5,f5,m5⟩:=j.many ((qU _ _).alloc (qK _) (.cells #[k] 3)) (k:Nat) (KB wr (k:Nat)) (qR af.out.2 (by omega)) 37;have z0:wr.cell? ⟨gm,1,none⟩=some vM:=j.m.cell 1;rw[I.out,List.take_length]at m5;have an:=qQ e5;have H5:=qQ m5;clear j e5 m5;go_wp2_with (first|(at_builtin;refine yK rfl _ _ rfl rfl rfl an.out ?_)|fail);go_ret2;exact⟨rfl,_,_,by rw[I.out];exact H5.out⟩)
 rcases v with v|⟨v,q4⟩
 ·exact HF.out false false (by rw[bne_eq_false_iff_eq];exact v) (fun e=>by cases e)
 ·exact HF.out true false (by rw[bne_iff_ne];exact v) (fun _=>by rw[bne_eq_false_iff_eq];exact q4)
end
section
open Go.RowKit Go.Shelf
structure uO(w1 w:World)(gm:Nat)(vL vM:Value)(T:List jT)(K:List Int):Prop where
 m:jF w gm 39 #[vL,vM,.int .i64 0]
 rL:kT w w1.1.size vL T
 rM:jd w w1.1.size vM K
 lo:w1.1.size<=gm
def cH(gm:Nat)(vL vM:Value):List Nat:=gm::(jL vL++jL vM)
section
variable {w1 w w':World}{gm:Nat}{vL vM:Value}{T:List jT}{K:List Int}
theorem sD{b:Nat}(h:b∈jL vL):b∈cH gm vL vM:=qF _ (qW _ h)
theorem sE{b:Nat}(h:b∈jL vM):b∈cH gm vL vM:=qF _ (qJ _ h)
theorem uO.kept(h:uO w1 w gm vL vM T K){E:List Nat}(d:jE E w w')(a:∀b∈cH gm vL vM,b∈E):uO w1 w' gm vL vM T K :=
 ⟨d.xW h.m (a gm qC),d.zB h.rL (fun b c=>a b (sD c)),d.zA h.rM (fun b c=>a b (sE c)),h.lo⟩
theorem uO.lt(h:uO w1 w gm vL vM T K):∀b∈cH gm vL vM,w1.1.size<=b/\b<w.1.size:=fun b a=>by
 rcases qL.1 a with k|k
 ·rw[k];exact⟨h.lo,h.m.lt⟩
 ·rcases qE.1 k with k|k
  ·exact h.rL.own b k
  ·exact h.rM.lt b (jt.1 k)
theorem uO.below(h:uO w1 w gm vL vM T K)(a:Below w.1.size w w'):uO w1 w' gm vL vM T K:=h.kept (jE.xA a (fun b a=>(h.lt b a).2)) (fun b a=>a)
theorem uO.cell(h:uO w1 w gm vL vM T K):w.cell? ⟨gm,0,none⟩=some vL:=h.m.cell 0
theorem uO.mp(h:uO w1 w gm vL vM T K)(hw:w1.1.size<=w.1.size):uJ false w gm (cH gm vL vM) w1.1.size vL vM (.int .i64 0) T K w where
 m:=h.m
 gL:=qX ⟨h.rL,fun b a=>qX (sD a)⟩
 gM:=qX ⟨h.rM,fun b a=>qX (sE a)⟩
 zZ:=fun b a=>(h.lt b (sD a)).2
 zW:=fun b a=>(h.lt b (sE a)).2
 aL:=fun c=>vJ h.rL h.m (by decide) (jt.1 c)
 aM:=fun c=>vJ h.rM h.m (by decide) (jt.1 c)
 ap:=fun b a c=>fT h.rL h.rM (by decide) b (jt.1 c) (jt.1 a)
 tc:=jH.refl _ _
 gF:=qC
 lo:=hw
theorem uJ.jQ{F:List Nat}(h:uJ false w gm F w1.1.size vL vM (.int .i64 0) T K w')(lo:w1.1.size<=gm):uO w1 w' gm vL vM T K:=by
 refine⟨h.m, ?_, ?_,lo⟩
 ·rcases h.gL with k|k
  ·exact k.1
  ·cases k.1
 ·have e:K.length=(K.map lL).length:=by rw[qz]
  rcases h.gM with k|k
  ·exact k.1
  ·cases k.1
end
def KpS(At:jR)(w1:World)(gd gs gm r seed i:Nat)(T:List jT)(cn:Nat)(w:World):Prop :=
 ∃vL vM K gl gx S L chs D,ju At w1 gd gl gx gs r seed S L chs D (cH gm vL vM) w/\ub seed D S/\uO w1 w gm vL vM T K/\ja (jP 0 chs)=T/\(jP 0 chs).length<=i/\S.m.next<=(i:Nat)/\D.count<=cn/\K.length<=i
def KpB(At:jR)(w1:World)(gd gs gm gb r seed i:Nat)(T:List jT)(cn:Nat)(x:yg)(gl gx:Nat)(S:IxS)(L:jq)(chs:List (List Tw))(D:jD)(vL vM:Value)(K:List Int)(E:List Nat)(w:World):Prop :=
 ju At w1 gd gl gx gs r seed S L chs D E w/\(∀b∈gb::cH gm vL vM,b∈E)/\ub seed D S/\uO w1 w gm vL vM T K/\jF w gb 42 #[.int .u8 (x.k:Nat),x.s,x.a,x.b,x.v]/\ja (jP 0 chs)=T/\(jP 0 chs).length<=i/\S.m.next<=(i:Nat)/\D.count<=cn/\K.length<=i
section
variable {At:jR}{w1 w w':World}{gd gs gm gb r seed i cn:Nat}{T:List jT}{x:yg}
theorem KpS.box(api:jS At)(h:KpS At w1 gd gs gm r seed i T cn w):
  ∃gl gx S L chs D vL vM K,KpB At w1 gd gs gm w.1.size r seed i T cn x gl gx S L chs D vL vM K ([w.1.size]++cH gm vL vM) (w.alloc (.cells #[.int .u8 (x.k:Nat),x.s,x.a,x.b,x.v] 42)):=by
 obtain⟨vL,vM,K,gl,gx,S,L,chs,D,f,g,j,l⟩:=h;have d:=(qU w.1.size w).alloc (qK _) (.cells #[.int .u8 (x.k:Nat),x.s,x.a,x.b,x.v] 42);have c:=jF.new w 42 #[.int .u8 (x.k:Nat),x.s,x.a,x.b,x.v];exact⟨gl,gx,S,L,chs,D,vL,vM,K,f.more api d (B:=[w.1.size]) (fun y n=>by rw[qH.1 n];exact⟨qK _,c.lt⟩),fun b m=>m,g,j.below d,c,l⟩
variable {gl gx:Nat}{S:IxS}{L:jq}{chs:List (List Tw)}{D:jD}{vL vM:Value}{K:List Int}{E:List Nat}
theorem KpB.below(api:jS At)(h:KpB At w1 gd gs gm gb r seed i T cn x gl gx S L chs D vL vM K E w)(a:Below w.1.size w w'):KpB At w1 gd gs gm gb r seed i T cn x gl gx S L chs D vL vM K E w' :=
 ⟨h.1.below api a,h.2.1,h.2.2.1,h.2.2.2.1.below a,h.2.2.2.2.1.below a,h.2.2.2.2.2⟩
theorem KpB.step{d a:Nat}{G:List Nat}(h:KpB At w1 gd gs gm gb r seed i T cn x gl gx S L chs D vL vM K E w)(g:ju At w1 gd gl gx gs r seed S L chs { D with count:=a } (G++E) w')(f:jE E w w')(j:a<=d):KpB At w1 gd gs gm gb r seed i T d x gl gx S L chs { D with count:=a } vL vM K (G++E) w' :=
 ⟨g,fun b c=>qJ _ (h.2.1 b c),h.2.2.1.same (cm.refl D) g.sx.ok,h.2.2.2.1.kept f (fun b c=>h.2.1 b (qF _ c)),f.xW h.2.2.2.2.1 (h.2.1 gb qC),h.2.2.2.2.2.1,h.2.2.2.2.2.2.1,h.2.2.2.2.2.2.2.1,j,h.2.2.2.2.2.2.2.2.2⟩
theorem KpB.done(h:KpB At w1 gd gs gm gb r seed i T cn x gl gx S L chs D vL vM K E w){j c:Nat}(t:i<=j)(s:cn<=c):KpS At w1 gd gs gm r seed j T c w:=by
 obtain⟨a,d,f,g,n,k,o,p,q,m⟩:=h;exact⟨vL,vM,K,gl,gx,S,L,chs,D,a.less (fun b l=>d b (qF _ l)),f,g,k,by omega,by omega,by omega,by omega⟩
theorem KpB.cells(h:KpB At w1 gd gs gm gb r seed i T cn x gl gx S L chs D vL vM K E w):w.cell? ⟨gb,0,none⟩=some (.int .u8 (x.k:Nat))/\w.cell? ⟨gb,1,none⟩=some (.string x.s)/\w.cell? ⟨gb,2,none⟩=some (.int .i64 x.a)/\w.cell? ⟨gb,3,none⟩=some (.int .i64 x.b)/\w.cell? ⟨gb,4,none⟩=some x.v :=
 have B:=h.2.2.2.2.1
 ⟨B.cell 0,B.cell 1,B.cell 2,B.cell 3,B.cell 4⟩
end
def dL(At:jR)(w1:World)(gd gs gm r seed i:Nat)(a:List jT)(cn:Nat)(e:Ending)(w':World):Prop:=e=.returned (.bool true)/\KpS At w1 gd gs gm r seed (i+1) a (cn+70000) w'
section
variable {At:jR}(api:jS At)(nap:jw)(iap:uy At)(cap:vR){w1 w w':World}{gd gs gm r seed i cn:Nat}{T:List jT}{x:yg}
include api nap cap
theorem qV9(h:KpS At w1 gd gs gm r seed i T cn w)(hi:i<=90)(hc:cn<=600000000)(f:bd w x)(N:x.k%12=5)(p:yP x.s x.a x.b=0):
  Calls prog 9 #[ptr gs,ptr gm,dd x] w (dL At w1 gd gs gm r seed i T cn):=by
 obtain⟨gl,gx,S,L,chs,D,vL,vM,K,d⟩:=h.box api (x:=x);obtain⟨c0,c1,c2,u,z⟩:=d.cells;obtain⟨n,af⟩:∃n,w.alloc (.cells #[.int .u8 (x.k:Nat),x.s,x.a,x.b,x.v] 42)=n:=⟨_,rfl⟩
 rw[af]at d c0 c1 c2 u z;have O:(jP 0 chs).length<=90:=qR d.2.2.2.2.2.2.1 hi
 have hT:T.length<=800:=by
  have H:=lD (jP 0 chs) d.1.rb.whole;have I:=d.2.2.2.2.2.1;rw[I]at H;omega
 have R:yf T:=by have:=d.1.vs;rw[d.2.2.2.2.2.1]at this;exact this
 have Q:∀y∈T,y.e.b<18446744073709551616:=by have:=Dq d.1.rb.whole;rw[d.2.2.2.2.2.1]at this;exact this
 have l:Hid (Calls prog 13 #[ptr gs,x.s,x.a,x.b] n fun e w'=>∃A c E,e=.returned (.tuple #[.slice A (kV x.s x.a (x.a+x.b-1) T).length c,.int .i64 0])/\vh w' (.slice A (kV x.s x.a (x.a+x.b-1) T).length c) (kV x.s x.a (x.a+x.b-1) T)/\∃X,KpB At w1 gd gs gm w.1.size r seed i T (cn+2000) x gl gx S L chs X vL vM K E w'):=qQ (by
  refine(Ji api nap cap d.1 (by have:=d.2.2.2.2.2.2.2.2.1;omega) (by omega) x.s f.s x.a x.b (WalkArith.wf_i64 ⟨f.a0,f.a1⟩) (WalkArith.wf_i64 ⟨f.b0,f.b1⟩) p).mono ?_;rintro e w'⟨A,c,k,N,rfl,C,G,g3⟩;have ah:=Dx d.1 O x.s x.a (di x.a x.b);have ag:=d.2.2.2.2.2.2.2.2.1;rw[d.2.2.2.2.2.1]at C G ⊢;exact⟨A,c,_,rfl,C.xE,_,d.step G g3 (by omega)⟩)
 have m:=qQ (fun W vL (h0:W.cell? ⟨gm,0,none⟩=some vL) (ae:vh W vL T)=>qV6 h0 ae (by omega) R x.s f.s x.a x.b f.b1 p);obtain⟨P,j⟩:∃P,P=kV x.s x.a (x.a+x.b-1) T:=⟨_,rfl⟩
 have M:P.length<=800:=by
  have H:(kV x.s x.a (x.a+x.b-1) T).length<=(ofT x.s T).length:=List.length_filter_le _ _;have I:(ofT x.s T).length<=T.length:=List.length_filter_le _ _;rw[j];omega
 have J:∀y∈P,y.e.b<18446744073709551616:=fun y hy=>Q y (nL.1 (mD.1 (j ▸ hy)).1).1
 rw[<-j]at l m;have q:=qQ (qG M J);have j1:((x.k:Nat):Int)%12=5:=by omega
 obtain⟨xk,xs,xa,xb,xv,xl⟩:=x;simp only at c0 c1 c2 u z j1 l m ⊢;clear d O hT R Q j M J p f N h;go_enter func9,ntmps9
 go_wp2_with (first
  | (go_at_call 13;((with_reducible refine l.out.mono ?_);rintro e w2⟨A2,n2,E2,rfl,U,D2,g⟩;obtain⟨d0,d1,d2,d3,d4⟩:=g.cells;have Y:=qQ g;have ac:=qQ U;have ab:=qQ (m.out _ _ g.2.2.2.1.cell g.2.2.2.1.rL.xE);clear g U))
  | (go_at_call 26;((with_reducible refine ab.out.mono ?_);rintro e w3⟨A3,n3,rfl,V,o⟩;have ad:=qQ (Jw (ac.out.below o (qK _)) V (by have:=q.out.1;omega) q.out.2);have Z:=qQ (Y.out.below api o);clear V o))
  | (go_at_call 22;((with_reducible refine KG ad.out fun w4 t=>?_);have aa:=qQ (Z.out.below api t);clear t))
  | fail)
 go_ret;exact⟨rfl,aa.out.done (by omega) (by omega)⟩
theorem qVq(h:KpS At w1 gd gs gm r seed i T cn w)(hi:i<=90)(hc:cn<=600000000)(f:bd w x)(N:x.k%12=6)(p:yP x.s x.a x.b=0):
  Calls prog 9 #[ptr gs,ptr gm,dd x] w (dL At w1 gd gs gm r seed i T cn):=by
 obtain⟨gl,gx,S,L,chs,D,vL,vM,K,d⟩:=h.box api (x:=x);obtain⟨c0,c1,c2,u,z⟩:=d.cells;obtain⟨n,af⟩:∃n,w.alloc (.cells #[.int .u8 (x.k:Nat),x.s,x.a,x.b,x.v] 42)=n:=⟨_,rfl⟩
 rw[af]at d c0 c1 c2 u z;have O:(jP 0 chs).length<=90:=qR d.2.2.2.2.2.2.1 hi
 have hT:T.length<=800:=by
  have H:=lD (jP 0 chs) d.1.rb.whole;have I:=d.2.2.2.2.2.1;rw[I]at H;omega
 have R:yf T:=by have:=d.1.vs;rw[d.2.2.2.2.2.1]at this;exact this
 have Q:∀y∈T,y.e.b<18446744073709551616:=by have:=Dq d.1.rb.whole;rw[d.2.2.2.2.2.1]at this;exact this
 have l:Hid (Calls prog 21 #[ptr gs,x.s,x.a,x.b] n fun e w'=>∃A c E,e=.returned (.tuple #[.slice A (kV x.s (x.a-x.b+1) x.a T).reverse.length c,.int .i64 0])/\vh w' (.slice A (kV x.s (x.a-x.b+1) x.a T).reverse.length c) (kV x.s (x.a-x.b+1) x.a T).reverse/\∃X,KpB At w1 gd gs gm w.1.size r seed i T (cn+2000) x gl gx S L chs X vL vM K E w'):=qQ (by
  refine(DO api nap cap d.1 (by have:=d.2.2.2.2.2.2.2.2.1;omega) (by omega) x.s f.s x.a x.b (WalkArith.wf_i64 ⟨f.a0,f.a1⟩) (WalkArith.wf_i64 ⟨f.b0,f.b1⟩) p).mono ?_;rintro e w'⟨A,c,k,N,rfl,C,G,g3⟩;have ah:=Dx d.1 O x.s (x.a-x.b+1) x.a;have ag:=d.2.2.2.2.2.2.2.2.1;rw[d.2.2.2.2.2.1]at C G ⊢;exact⟨A,c,_,rfl,C.xE,_,d.step G g3 (by omega)⟩)
 have m:=qQ (fun W vL (h0:W.cell? ⟨gm,0,none⟩=some vL) (ae:vh W vL T)=>qV7 h0 ae (by omega) R x.s f.s x.a x.b f.a1 p);obtain⟨P,j⟩:∃P,P=(kV x.s (x.a-x.b+1) x.a T).reverse:=⟨_,rfl⟩
 have M:P.length<=800:=by
  have H:(kV x.s (x.a-x.b+1) x.a T).length<=(ofT x.s T).length:=List.length_filter_le _ _;have I:(ofT x.s T).length<=T.length:=List.length_filter_le _ _;rw[j,List.length_reverse];omega
 have J:∀y∈P,y.e.b<18446744073709551616:=fun y hy=>Q y (nL.1 (mD.1 (List.mem_reverse.1 (j ▸ hy))).1).1
 rw[<-j]at l m;have q:=qQ (qG M J);have j1:((x.k:Nat):Int)%12=6:=by omega
 obtain⟨xk,xs,xa,xb,xv,xl⟩:=x;simp only at c0 c1 c2 u z j1 l m ⊢;clear d O hT R Q j M J p f N h;go_enter func9,ntmps9
 go_wp2_with (first
  | (go_at_call 21;((with_reducible refine l.out.mono ?_);rintro e w2⟨A2,n2,E2,rfl,U,D2,g⟩;obtain⟨d0,d1,d2,d3,d4⟩:=g.cells;have Y:=qQ g;have ac:=qQ U;have ab:=qQ (m.out _ _ g.2.2.2.1.cell g.2.2.2.1.rL.xE);clear g U))
  | (go_at_call 26;((with_reducible refine ab.out.mono ?_);rintro e w3⟨A3,n3,rfl,V,o⟩;have ad:=qQ (Jw (ac.out.below o (qK _)) V (by have:=q.out.1;omega) q.out.2);have Z:=qQ (Y.out.below api o);clear V o))
  | (go_at_call 22;((with_reducible refine KG ad.out fun w4 t=>?_);have aa:=qQ (Z.out.below api t);clear t))
  | fail)
 go_ret;exact⟨rfl,aa.out.done (by omega) (by omega)⟩
end
section
variable {At:jR}{w1 w w':World}{gd gs gm gb r seed i cn:Nat}{T:List jT}{x:yg}{gl gx:Nat}{S:IxS}{L:jq}{chs:List (List Tw)}{D:jD}{vL vM:Value}{K:List Int}{E:List Nat}
theorem KpB.op(h:KpB At w1 gd gs gm gb r seed i T cn x gl gx S L chs D vL vM K E w){a:IxS}{L':jq}{D':jD}(f:ju At w1 gd gl gx gs r seed a L' chs D' E w')(g:jE E w w')(j:ub seed D' a)(n:a.m.next<=S.m.next+1)(o:D'.count<=D.count+50):KpS At w1 gd gs gm r seed (i+1) T (cn+70000) w':=by
 obtain⟨p,d,s,k,t,l,u,v,y,q⟩:=h;exact⟨vL,vM,K,gl,gx,a,L',chs,D',f.less (fun b c=>d b (qF _ c)),j,k.kept g (fun b c=>d b (qF _ c)),l,by omega,by omega,by omega,by omega⟩
end
section
variable {At:jR}(api:jS At)(nap:jw)(iap:uy At)(cap:vR){w1 w w':World}{gd gs gm r seed i cn:Nat}{T:List jT}{x:yg}
include api nap cap
omit cap in
theorem qVx(h:KpS At w1 gd gs gm r seed i T cn w)(hi:i<=90)(hc:cn<=600000000)(f:bd w x)(V:x.k%12=5∨x.k%12=6)(n:yP x.s x.a x.b≠0):
  Calls prog 9 #[ptr gs,ptr gm,dd x] w (dL At w1 gd gs gm r seed i T cn):=by
 obtain⟨gl,gx,S,L,chs,D,vL,vM,K,d⟩:=h.box api (x:=x);obtain⟨c0,c1,c2,H,I⟩:=d.cells;obtain⟨G,U⟩:∃G,w.alloc (.cells #[.int .u8 (x.k:Nat),x.s,x.a,x.b,x.v] 42)=G:=⟨_,rfl⟩
 rw[U]at d c0 c1 c2 H I;have A:=qQ (DN nap d.1 x.s f.s x.a x.b n);have z:=qQ (qKe nap d.1 x.s f.s x.a x.b n);have u:=qQ (fun(W:World) vL o (R:W.cell? ⟨gm,0,none⟩=some vL)=>qV5 R x.s f.s x.a x.b o n);have C:=qQ d;have y:=qQ (fun w:World=>Jw (w:=w) (va:=.slice none 0 0) (vb:=.slice none 0 0) (l:=[]) (qX ⟨rfl,_,_,rfl⟩) (qX ⟨rfl,_,_,rfl⟩) (by decide) (fun _ f=>by cases f));have J:(((x.k:Nat):Int)%12=5)∨(((x.k:Nat):Int)%12=6):=by omega
 obtain⟨xk,xs,xa,xb,xv,xl⟩:=x;simp only at c0 c1 c2 H I J A z u y ⊢;clear d n f V h;rcases J with X|X
 ·go_enter func9,ntmps9
  go_wp2_with (first
   | (go_at_call 13;((with_reducible refine A.out.mono ?_);rintro e Y⟨rfl,g⟩;have c:=qQ (C.out.below api g);clear g;obtain⟨M,N,O,P,Q⟩:=c.out.cells;have t:=qQ (fun o=>u.out _ _ o c.out.2.2.2.1.cell)))
   | (go_at_call 26;((with_reducible refine(t.out _).mono ?_);rintro e Z⟨rfl,j⟩;have p:=qQ (c.out.below api j);clear j))
   | (go_at_call 22;((with_reducible refine KG (y.out _) fun w4 m=>?_);have q:=qQ (p.out.below api m);clear m))
   | fail)
  go_ret;exact⟨rfl,q.out.done (by omega) (by omega)⟩
 ·go_enter func9,ntmps9
  go_wp2_with (first
   | (go_at_call 21;((with_reducible refine z.out.mono ?_);rintro e Y⟨rfl,g⟩;have c:=qQ (C.out.below api g);clear g;obtain⟨M,N,O,P,Q⟩:=c.out.cells;have t:=qQ (fun o=>u.out _ _ o c.out.2.2.2.1.cell)))
   | (go_at_call 26;((with_reducible refine(t.out _).mono ?_);rintro e Z⟨rfl,j⟩;have p:=qQ (c.out.below api j);clear j))
   | (go_at_call 22;((with_reducible refine KG (y.out _) fun w4 m=>?_);have q:=qQ (p.out.below api m);clear m))
   | fail)
  go_ret;exact⟨rfl,q.out.done (by omega) (by omega)⟩
theorem qVz(h:KpS At w1 gd gs gm r seed i T cn w)(hi:i<=90)(hc:cn<=600000000)(m:bd w x)(u:x.k%12=7):
  Calls prog 9 #[ptr gs,ptr gm,dd x] w (dL At w1 gd gs gm r seed i T cn):=by
 obtain⟨gl,gx,S,L,chs,D,vL,vM,K,c⟩:=h.box api (x:=x);obtain⟨c0,c1,c2,q,t⟩:=c.cells;obtain⟨n,P⟩:∃n,w.alloc (.cells #[.int .u8 (x.k:Nat),x.s,x.a,x.b,x.v] 42)=n:=⟨_,rfl⟩
 rw[P]at c c0 c1 c2 q t
 have N:T.length<=800:=by
  have J:=lD (jP 0 chs) c.1.rb.whole;have M:=c.2.2.2.2.2.1;have h3:=c.2.2.2.2.2.2.1;rw[M]at J;omega
 have j:Hid (Calls prog 20 #[ptr gs,x.s] n fun e w'=>e=.returned (.tuple #[.int .i64 (if stS x.s=true then uN x.s T else -1),.int .i64 (if stS x.s=true then 0 else 2)])/\∃y E,KpB At w1 gd gs gm w.1.size r seed i T (cn+70000) x gl gx S L chs y vL vM K E w'):=qQ (by
  by_cases f:stS x.s=true
  ·rw[qV f,qV f];refine(DP api nap cap c.1 (by have:=c.2.2.2.2.2.2.2.2.1;omega) (by have:=c.2.2.2.2.2.2.1;omega) x.s m.s f).mono ?_;rintro e w'⟨k,u,rfl,o,H⟩;have aa:=c.2.2.2.2.2.2.2.2.1;rw[c.2.2.2.2.2.1];exact⟨rfl,_,_,c.step (G:=[]) o H (by omega)⟩
  ·rw[qZ f,qZ f];refine KG (qKi nap c.1 x.s m.s (by simpa using f)) fun w' o=>?_;have d:=c.below api o;exact⟨rfl,_,_,d.1,d.2.1,d.2.2.1,d.2.2.2.1,d.2.2.2.2.1,d.2.2.2.2.2.1,d.2.2.2.2.2.2.1,d.2.2.2.2.2.2.2.1,by have:=d.2.2.2.2.2.2.2.2.1;omega,d.2.2.2.2.2.2.2.2.2⟩)
 have l:=qQ (fun(W:World) vL (I:W.cell? ⟨gm,0,none⟩=some vL) (O:vh W vL T)=>qVN I O (by omega) x.s m.s);generalize (if stS x.s=true then uN x.s T else -1)=z1 at j l;generalize (if stS x.s=true then(0:Int) else 2)=z2 at j l;have Q:((x.k:Nat):Int)%12=7:=by omega
 obtain⟨xk,xs,xa,xb,xv,xl⟩:=x;simp only at c0 c1 c2 q t Q j l ⊢;clear c N m u h;go_enter func9,ntmps9
 go_wp2_with (first
  | (go_at_call 20;((with_reducible refine j.out.mono ?_);rintro e w2⟨rfl,R,U,g⟩;obtain⟨V,X,Y,Z,d4⟩:=g.cells;have z:=qQ g;have C:=qQ (l.out _ _ g.2.2.2.1.cell g.2.2.2.1.rL.xE);clear g))
  | (go_at_call 27;((with_reducible refine KG C.out fun w3 p=>?_);have A:=qQ (z.out.below api p);clear p))
  | fail)
 go_ret;exact⟨rfl,A.out.done (by omega) (by omega)⟩
omit cap in
theorem qVj(h:KpS At w1 gd gs gm r seed i T cn w)(hi:i<=90)(C:cn<=600000000)(t:x.k%12=8):
  Calls prog 9 #[ptr gs,ptr gm,dd x] w (dL At w1 gd gs gm r seed i T cn):=by
 obtain⟨gl,gx,S,L,chs,D,vL,vM,K,c⟩:=h.box api (x:=x);obtain⟨c0,c1,c2,g,j⟩:=c.cells;obtain⟨d,q⟩:∃d,w.alloc (.cells #[.int .u8 (x.k:Nat),x.s,x.a,x.b,x.v] 42)=d:=⟨_,rfl⟩
 rw[q]at c c0 c1 c2 g j
 have f:Hid (Calls prog 23 #[ptr gs] d fun e w'=>e=.returned (.int .i64 0)/\KpS At w1 gd gs gm r seed (i+1) T (cn+70000) w'):=qQ ((qKv api nap c.1 c.2.2.1).mono (by
  rintro e w'⟨rfl,z,y,n,o,p,A,-⟩;exact⟨rfl,c.op n o p (by omega) (by omega)⟩))
 have u:((x.k:Nat):Int)%12=8:=by omega
 obtain⟨J,N,H,I,O,M⟩:=x;simp only at c0 c1 c2 g j u f ⊢;clear c t h;go_enter func9,ntmps9
 go_wp2_with (first
  | (go_at_call 23;((with_reducible refine f.out.mono ?_);rintro e G⟨rfl,l⟩;have m:=qQ l;clear l))
  | fail)
 go_ret;exact⟨rfl,m.out⟩
include iap
omit cap in
theorem qVk(h:KpS At w1 gd gs gm r seed i T cn w)(hi:i<=90)(M:cn<=600000000)(C:r<18446744073709551616)(A:x.k%12=9):
  Calls prog 9 #[ptr gs,ptr gm,dd x] w (dL At w1 gd gs gm r seed i T cn):=by
 obtain⟨gl,gx,S,L,chs,D,vL,vM,K,c⟩:=h.box api (x:=x);obtain⟨c0,c1,c2,l,m⟩:=c.cells;obtain⟨f,y⟩:∃f,w.alloc (.cells #[.int .u8 (x.k:Nat),x.s,x.a,x.b,x.v] 42)=f:=⟨_,rfl⟩
 rw[y]at c c0 c1 c2 l m
 have d:Hid (Calls prog 15 #[ptr gs] f fun e w'=>∃z,(z=0∨z=60)/\e=.returned (.int .i64 z)/\KpS At w1 gd gs gm r seed (i+1) T (cn+70000) w'):=qQ ((qKy api nap iap c.1 c.2.2.1 (by have:=c.2.2.2.2.2.2.2.2.1;omega) (by have:=c.2.2.2.2.2.2.2.1;omega) (by have:=c.2.2.2.2.2.2.1;omega) C).mono (by
  rintro e w'⟨z,J,I,H,g,rfl,o,p,q,t,u,-⟩;exact⟨z,g,rfl,c.op o p q t u⟩))
 have G:((x.k:Nat):Int)%12=9:=by omega
 obtain⟨Q,U,O,P,V,R⟩:=x;simp only at c0 c1 c2 l m G d ⊢;clear c A h;go_enter func9,ntmps9;go_wp2_with fail;refine d.out.mono ?_;rintro e N⟨z,g,rfl,n⟩;have j:=qQ n;clear n d;rcases g with rfl|rfl
 ·go_wp2;go_ret;exact⟨rfl,j.out⟩
 ·go_wp2;go_ret;exact⟨rfl,j.out⟩
omit cap in
theorem qVv(h:KpS At w1 gd gs gm r seed i T cn w)(hi:i<=90)(N:cn<=600000000)(G:r<18446744073709551616)(C:x.k%12=10∨x.k%12=11):
  Calls prog 9 #[ptr gs,ptr gm,dd x] w (dL At w1 gd gs gm r seed i T cn):=by
 obtain⟨gl,gx,S,L,chs,D,vL,vM,K,c⟩:=h.box api (x:=x);obtain⟨c0,c1,c2,l,m⟩:=c.cells;obtain⟨j,A⟩:∃j,w.alloc (.cells #[.int .u8 (x.k:Nat),x.s,x.a,x.b,x.v] 42)=j:=⟨_,rfl⟩
 rw[A]at c c0 c1 c2 l m
 have g:Hid (Calls prog 16 #[ptr gs,x.a] j fun e w'=>∃z,(z=0∨z=60∨z=4∨z=2/\(x.a<0∨¬x.a<0/\5<=x.a))/\e=.returned (.int .i64 z)/\KpS At w1 gd gs gm r seed (i+1) T (cn+70000) w'/\w'.cell? ⟨w.1.size,2,none⟩=some (.int .i64 x.a)):=qQ ((qKu api nap iap c.1 c.2.2.1 (by have:=c.2.2.2.2.2.2.2.2.1;omega) (by have:=c.2.2.2.2.2.2.2.1;omega) (by have:=c.2.2.2.2.2.2.1;omega) G x.a).mono (by
  rintro e w'⟨z,M,J,I,f,rfl,q,n,t,u,y,-⟩;exact⟨z,by omega,rfl,c.op q n t u y,(n.xW c.2.2.2.2.1 (c.2.1 _ qC)).cell 2⟩))
 have o:(((x.k:Nat):Int)%12=10)∨(((x.k:Nat):Int)%12=11):=by omega
 obtain⟨V,X,R,U,Y,W⟩:=x;simp only at c0 c1 c2 l m o g ⊢;clear c C h;rcases o with H|H
 all_goals
  go_enter func9,ntmps9;go_wp2_with fail;refine g.out.mono ?_;rintro e Q⟨z,f,rfl,p,P⟩;have d:=qQ p;clear p g;rcases f with rfl|rfl|rfl|⟨rfl,f|⟨f,O⟩⟩
  ·go_wp2;go_ret;exact⟨rfl,d.out⟩
  ·go_wp2;go_ret;exact⟨rfl,d.out⟩
  ·go_wp2;go_ret;exact⟨rfl,d.out⟩
  ·go_wp2;go_ret;exact⟨rfl,d.out⟩
  ·go_wp2;go_ret;exact⟨rfl,d.out⟩
end
end
section
open Go.RowKit Go.Shelf
theorem Du{w:World}{base:Nat}{e:TypeId}{size n c:Nat}{A:Option Addr}{xs:List Value}(h:w.ownsRow base e size (.slice A n c) n xs):sliced A 0 n n size=.slice A n n/\n<=c:=by
 obtain⟨g,j,q,d,-,f,-⟩:=v8 h;obtain⟨rfl,-,rfl⟩:=Value.slice.inj q;refine⟨?_,d⟩;unfold sliced;by_cases a:n=0
 ·rw[qV a];rfl
 ·rw[qZ a];obtain⟨b,rfl,-⟩:=f (by omega);simp[Addr.add]
theorem qVy{w:World}{base n c:Nat}{A:Option Addr}{xs:List Value}(h:w.ownsRow base 66 5 (.slice A n c) n xs)(W:World):(Instr.slice 36 (.slice A n c) none (some (.int .i64 (n:Nat))) (some (.int .i64 (n:Nat)))).run prog W=.ok (.slice A n n) W:=by
 have a:(sizeOf (prog.elem 36)).run prog W=.ok 5 W:=by simp[go_sem]
 obtain⟨e,b⟩:=Du h;rw[run_slice_hm W _ A n c Tryz.underlying36 .i64 .i64 _ _ (by omega) (by omega) (by omega),a];show Result.ok (sliced _ _ _ _ _) W=_;rw[qm,e]
theorem qVu{w:World}{base n c:Nat}{A:Option Addr}{xs:List Value}(h:w.ownsRow base 3 1 (.slice A n c) n xs)(W:World):(Instr.slice 37 (.slice A n c) none (some (.int .i64 (n:Nat))) (some (.int .i64 (n:Nat)))).run prog W=.ok (.slice A n n) W:=by
 have a:(sizeOf (prog.elem 37)).run prog W=.ok 1 W:=by simp[go_sem]
 obtain⟨e,b⟩:=Du h;rw[run_slice_hm W _ A n c Tryz.underlying37 .i64 .i64 _ _ (by omega) (by omega) (by omega),a];show Result.ok (sliced _ _ _ _ _) W=_;rw[qm,e]
theorem vC.src{w:World}{v:Value}{l:List jj}(h:vC w v l):gI w 3 v l.length (l.flatMap uo):=by
 refine⟨JE l, ?_⟩;rcases h with⟨rfl,a,c,rfl⟩|⟨q,b,off,cap,rfl,s,t,n⟩
 ·cases a with
  | none=>exact qX ⟨c,rfl,rfl⟩
  | some a=>exact qY ⟨a,c,rfl,fun j u f=>by cases f⟩
 ·refine qY ⟨⟨b,off,none⟩,cap,rfl,fun j u f=>?_⟩;have y:j<l.length*3:=by have:=(qO.1 f).1;rw[JE]at this;exact this
  have o:j/3<l.length:=by omega
  have g:l[j/3]? = some l[j/3]:=qD o;have e:j/3*3+j%3=j:=by omega
  have d:=rD l (j/3) _ g (j%3) (by omega);rw[e,f]at d;have m:(⟨b,off,none⟩:Addr).add j=⟨b,off+j,none⟩:=by unfold Addr.add;split<;>simp_all
  rw[m];obtain⟨c0,c1,c2⟩:=n (j/3) _ g;have p:j%3=0∨j%3=1∨j%3=2:=by omega
  rcases p with k|k|k
  ·rw[k]at d;rw[show off+j=off+j/3*3 by omega,c0];exact d.symm
  ·rw[k]at d;rw[show off+j=off+j/3*3+1 by omega,c1];exact d.symm
  ·rw[k]at d;rw[show off+j=off+j/3*3+2 by omega,c2];exact d.symm
theorem qVg: ∀(l:List jj),∀u∈l.flatMap uo,u.oneCell'=true:=by
 intro l u b;obtain⟨x,-,a⟩:=xZ.1 b;simp only[uo,List.mem_cons,List.not_mem_nil,or_false]at a;rcases a with rfl|rfl|rfl<;>rfl
theorem qVb{w:World}{v:Value}{l:List jj}(h:vC w v l)(q:l.length<=300)(ty:TypeId):
  ∃A c w',(Builtin.append_ #[40,40] ty #[.slice none 0 0,v]).run prog w=.ok (.slice A l.length c) w'/\w'.ownsRow w.1.size 64 3 (.slice A l.length c) l.length (l.flatMap uo)/\Below w.1.size w w':=by
 obtain⟨p,f,m,n,o⟩:=info_parts Gg;obtain⟨s,w',b,a,d,-⟩:=cr (P:=prog) w w.1.size 40 64 p _ 3 40 ty Tryz.underlying40 f m n o rfl (by decide) (.slice none 0 0) 0 [] (World.ownsRow_nil _ _ _ _) v l.length (l.flatMap uo) h.src (qVg l) (by unfold maxLen;omega) (by omega) (qK _);simp only[Nat.zero_add,List.nil_append]at a;obtain⟨A,c,rfl,-,-,-⟩:=v8 a;exact⟨A,c,w',b,a,jH.below ((jH.refl [] w).grown d (fun k g=>by cases g)) (qK _) (fun x j=>by cases j)⟩
end
section
open Go.RowKit Go.Shelf
theorem jE.owns{E:List Nat}{w w':World}{base:Nat}{e:TypeId}{size n:Nat}{v:Value}{xs:List Value}(h:jE E w w')(a:w.ownsRow base e size v n xs)(j:∀b∈jL v,b∈E):w'.ownsRow base e size v n xs:=by
 refine⟨a.1, ?_⟩;rcases a.2 with f|⟨g,cap,d,c,k,l,r⟩
 ·exact qX f
 ·exact qY ⟨g,cap,d,c,k,(h.block g (j g (jt.2 (by rw[c];rfl)))).trans l,r⟩
theorem Dg{w:World}{size n c:Nat}{A:Option Addr}{xs:List Value}(h:gI w size (.slice A n c) n xs):gI w size (.slice A n n) n xs:=by
 refine⟨h.1, ?_⟩;rcases h.2 with⟨b,e,d⟩|⟨a,b,e,f⟩
 ·obtain⟨rfl,-,-⟩:=Value.slice.inj e;subst d;exact qX ⟨0,rfl,rfl⟩
 ·obtain⟨rfl,-,-⟩:=Value.slice.inj e;exact qY ⟨a,n,rfl,f⟩
theorem qVc{w:World}{n c:Nat}{A:Option Addr}{T:List jT}(h:vh w (.slice A n c) T):vh w (.slice A n n) T:=by
 rcases h with⟨rfl,a,g,e⟩|⟨b,off,cap,e,j,k,d,f⟩
 ·obtain⟨rfl,rfl,-⟩:=Value.slice.inj e;exact qX ⟨rfl,_,_,rfl⟩
 ·obtain⟨rfl,rfl,rfl⟩:=Value.slice.inj e;exact qY ⟨b,off,T.length,rfl,qK _,by omega,d,f⟩
section
variable {At:jR}{w1 w w':World}{gd gs gm gb r seed i cn:Nat}{T:List jT}{x:yg}{gl gx:Nat}{S:IxS}{L:jq}{chs:List (List Tw)}{D:jD}{vL vM:Value}{K:List Int}{E B F:List Nat}
theorem KpB.more(api:jS At)(h:KpB At w1 gd gs gm gb r seed i T cn x gl gx S L chs D vL vM K E w)(a:Below w.1.size w w')(c:∀b∈B,w.1.size<=b/\b<w'.1.size):KpB At w1 gd gs gm gb r seed i T cn x gl gx S L chs D vL vM K (B++E) w' :=
 ⟨h.1.more api a c,fun b d=>qJ _ (h.2.1 b d),h.2.2.1,h.2.2.2.1.below a,h.2.2.2.2.1.below a,h.2.2.2.2.2⟩
theorem KpB.xC(api:jS At)(h:KpB At w1 gd gs gm gb r seed i T cn x gl gx S L chs D vL vM K E w)(d:jH F w w')(hF:∀b∈F,b∈E/\w1.1.size<=b/\b ∉ gb::cH gm vL vM):KpB At w1 gd gs gm gb r seed i T cn x gl gx S L chs D vL vM K E w':=by
 have c:jE (gb::cH gm vL vM) w w':=jE.xP d (fun b a=>⟨h.1.lt b (h.2.1 b a),fun f=>(hF b f).2.2 a⟩);exact⟨h.1.xL api d (fun b a=>⟨(hF b a).1,(hF b a).2.1⟩) (fun b a=>qX a),h.2.1,h.2.2.1,h.2.2.2.1.kept c (fun b a=>qF _ a),c.xW h.2.2.2.2.1 qC,h.2.2.2.2.2⟩
theorem KpB.base(h:KpB At w1 gd gs gm gb r seed i T cn x gl gx S L chs D vL vM K E w):Below w1.1.size w1 w:=h.1.base
end
def qVd(At:jR)(w1:World)(gd gs gm gb r seed i:Nat)(T:List jT)(cn:Nat)(x:yg)(vL vM:Value)(K:List Int)(e:Ending)(w':World):Prop :=
 (∃z gl gx S L chs D E,e=.returned (.tuple #[.int .i64 0,.int .i64 z])/\(z=uc x.s x.a x.l T/\z≠0/\z≠60∨z=60/\uc x.s x.a x.l T=0)/\KpB At w1 gd gs gm gb r seed i T cn x gl gx S L chs D vL vM K E w') ∨
 (∃gl gx S L chs D E,e=.returned (.tuple #[.int .i64 ((ofT x.s T).length:Nat),.int .i64 0])/\uc x.s x.a x.l T=0/\kQ x.s ((ofT x.s T).length:Nat) x.l=0/\ju At w1 gd gl gx gs r seed S L chs D E w'/\(∀b∈gb::cH gm vL vM,b∈E)/\ub seed D S/\uO w1 w' gm vL vM T K/\jF w' gb 42 #[.int .u8 (x.k:Nat),x.s,x.a,x.b,x.v]/\ja (jP 0 chs)=T++yc x.s ((ofT x.s T).length:Nat) x.l/\(jP 0 chs).length<=i+1/\S.m.next<=(i:Nat)/\D.count<=cn/\K.length<=i)
section
variable {At:jR}(api:jS At)(nap:jw)(iap:uy At)(cap:vR){w1 w w':World}{gd gs gm gb r seed i cn:Nat}{T:List jT}{x:yg}
include api nap cap
theorem qVf{gl gx:Nat}{S:IxS}{L:jq}{chs:List (List Tw)}{D:jD}{vL vM:Value}{K:List Int}{E:List Nat}(h:KpB At w1 gd gs gm gb r seed i T cn x gl gx S L chs D vL vM K E w)(hi:i<=90)(Y:cn<=600000000)(V:x.s.size<=300/\x.l.length<=20/\∀y∈x.l,bC y){A:Option Addr}{c:Nat}{base:Nat}(U:w.ownsRow base 64 3 (.slice A x.l.length c) x.l.length (x.l.flatMap uo))(R:∀b∈jL (.slice A x.l.length c),b∈E):
  Calls prog 18 #[ptr gs,x.s,x.a,.slice A x.l.length c] w (qVd At w1 gd gs gm gb r seed i T (cn+70000) x vL vM K):=by
 obtain⟨O,d,p,t,u,j,P,Q,X,o⟩:=h;refine(Je api nap cap O (by omega) (by omega) x.s (by omega) x.a x.l (fun W _ C=>vC.xz (C.owns U R)) rfl (by omega) V.2.2).mono ?_;rintro e w'⟨k,C,(⟨z,rfl,G,f,g⟩|⟨rfl,H,q,M,J,N,I,f,g,wr⟩)⟩
 ·rw[j]at G;refine qX ⟨z,gl,gx,S,L,chs,_,E,rfl, ?_,f,d,p.same (cm.refl D) f.sx.ok,t.kept g (fun b n=>d b (qF _ n)),g.xW u (d gb qC),j,P,Q,by show D.count+k<=_;omega,o⟩;rcases G with q|q
  ·exact qX q
  ·exact qY ⟨q.1,q.2.1⟩
 ·rw[j]at H q ⊢;have v:=wr.all;rw[j]at v;refine qY ⟨gl,gx,M,J,N,I,E,rfl,H,q,f,d,p.wrote wr.map wr.m wr.T f.sx.ok,t.kept g (fun b n=>d b (qF _ n)),g.xW u (d gb qC),v,by rw[wr.len];omega,by rw[wr.m];omega, ?_,o⟩;have:=wr.count;simp only at this;omega
end
section
variable {At:jR}(api:jS At)(nap:jw)(iap:uy At)(cap:vR){w1 w w':World}{gd gs gm gb r seed i cn:Nat}{T:List jT}{x:yg}
theorem qVh{s:Tw}{l:List jj}{n:Nat}(h:kQ s 0 l=0)(g:n<=100000):kQ s (n:Nat) l=0:=by
 obtain⟨a,b,c,d,j,k,f⟩:=gh.1 h;exact gh.2 ⟨a,b,c,d,by omega,by omega,f⟩
theorem pJ(A:Option Addr)(n c m d:Nat):jL (.slice A n c)=jL (.slice A m d):=by cases A<;>rfl
include api nap cap
theorem qVl(h:KpS At w1 gd gs gm r seed i T cn w)(hi:i<=80)(hc:cn<=600000000)(ao:x.s.size<=300/\x.l.length<=20/\∀y∈x.l,bC y)(am:vC w1 x.v x.l){Z:Option Addr}{Y cc:Nat}(hv:x.v=.slice Z Y cc)(aB:Y=x.l.length)(hk:x.k%12<5):
  Calls prog 9 #[ptr gs,ptr gm,dd x] w fun e w'=>∃T2,dL At w1 gd gs gm r seed i T2 cn e w':=by
 obtain⟨gl,gx,S,L,chs,D,vL,vM,K,d⟩:=h.box api (x:=x);obtain⟨c0,c1,c2,c3,c4⟩:=d.cells;obtain⟨W0,aE⟩:∃W0,w.alloc (.cells #[.int .u8 (x.k:Nat),x.s,x.a,x.b,x.v] 42)=W0:=⟨_,rfl⟩
 rw[aE]at d c0 c1 c2 c3 c4
 have hT:T.length<=800:=by
  have h1:=lD (jP 0 chs) d.1.rb.whole;have h2:=d.2.2.2.2.2.1;have h3:=d.2.2.2.2.2.2.1;rw[h2]at h1;omega
 have ax:K.length<=90:=by have:=d.2.2.2.2.2.2.2.2.2;omega
 rw[hv]at am c4;have ab:Hid (∀W,Below w1.1.size w1 W->vC W (.slice Z Y cc) x.l):=qQ fun W hW=>am.below hW (qK _)
 obtain⟨A4,c5,W1,e1,o1,b1⟩:=qVb (ab.out W0 d.base) (by omega) 40;have ak:=d.more api b1 (B:=jL (.slice A4 x.l.length c5)) (fun b d=>o1.lt b (jt.1 d));have aa:=qQ (qVf api nap cap ak (by omega) hc ao o1 (fun b d=>qW _ d));obtain⟨d0,R,U,d3,M⟩:=ak.cells;rw[hv]at M;have aj:=qQ e1;have G:=qQ ao;have ag:=qQ aB;have Q:=qQ (qG hT ax);have j1:¬((x.k:Nat):Int)%12=5:=by omega
 have j2:¬((x.k:Nat):Int)%12=6:=by omega
 have j3:¬((x.k:Nat):Int)%12=7:=by omega
 have j4:¬((x.k:Nat):Int)%12=8:=by omega
 have j5:¬((x.k:Nat):Int)%12=9:=by omega
 have j6:¬((x.k:Nat):Int)%12=10:=by omega
 have j7:¬((x.k:Nat):Int)%12=11:=by omega
 obtain⟨xk,I,xa,xb,xv,O⟩:=x;simp only at c0 c1 c2 c3 c4 d0 R U d3 M j1 j2 j3 j4 j5 j6 j7 aa aj ab G ag hv ⊢;subst hv;obtain⟨nl,an⟩:∃nl,nl=O.length:=⟨_,rfl⟩
 rw[<-an]at aa aj;have aI:=qQ an;have HD:=qQ (qG R (qG U M));clear d hT ax am e1 o1 b1 ak ao hk h aB an d0 R U d3 M;obtain⟨R,U,M⟩:=HD.out;go_enter func9,ntmps9;go_wp2_with (first|(at_builtin;refine yK rfl _ _ rfl rfl rfl aj.out ?_)|fail);refine aa.out.mono ?_;rintro e f (⟨z,av,aw,S2,L2,au,D2,E2,rfl,hz,t⟩|⟨av,aw,S2,L2,au,D2,E2,rfl,q0,q,g1,g2,g3,V,g5,g6,g7,g8,g9,aD⟩)
 ·clear aa R U M;obtain⟨y0,y1,y2,y3,y4⟩:=t.cells;simp only at y1 y2 y4;rcases hz with⟨af,X,aJ⟩|⟨af,X⟩
  ·have P:=qQ (qV8 (a:=xa) t.2.2.2.1.cell t.2.2.2.1.rL.xE (by have:=Q.out.1;omega) I (by have:=G.out.1;omega) O (ab.out f t.base) ag.out (by have:=G.out.2.1;omega) G.out.2.2 (by rw[<-af];exact X));rw[<-af]at P;have aC:=qQ t;clear t af X
   go_wp2_with (first
    | (go_at_call 28;((with_reducible refine P.out.mono ?_);rintro e H⟨rfl,b3⟩;have ac:=qQ (aC.out.below api b3);clear b3))
    | fail)
   go_ret;exact⟨T,rfl,ac.out.done (by omega) (by omega)⟩
  ·subst af;have o:=t.2.2.2.1;obtain⟨u,cL,rfl,-,-,-,-⟩:=v8 o.rL;obtain⟨C,cM,rfl,-,-,-,-⟩:=v8 o.rM;have m0:f.cell? ⟨gm,0,none⟩=some (.slice u T.length cL):=o.m.cell 0;have m1:f.cell? ⟨gm,1,none⟩=some (.slice C K.length cM):=o.m.cell 1;have s0:=qVy o.rL;have s1:=qVu o.rM;obtain⟨n,ae⟩:∃n,n=T.length:=⟨_,rfl⟩
   obtain⟨g,ah⟩:∃g,g=K.length:=⟨_,rfl⟩
   rw[<-ae]at m0 s0;rw[<-ah]at m1 s1;have al:Below f.1.size f (f.alloc (.cells #[.slice u n n,.slice C g g,.int .i64 0] 39)).drew:=((qU f.1.size f).alloc (qK _) _).drew;have BZ:jF (f.alloc (.cells #[.slice u n n,.slice C g g,.int .i64 0] 39)).drew f.1.size 39 #[.slice u n n,.slice C g g,.int .i64 0]:=jF.new _ _ _;obtain⟨W3,ay⟩:∃W3,(f.alloc (.cells #[.slice u n n,.slice C g g,.int .i64 0] 39)).drew=W3:=⟨_,rfl⟩
   rw[ay]at al BZ;have aF:=BZ.lt;have N:=t.more api al (B:=[f.1.size]) (fun b d=>by rw[qH.1 d];exact⟨qK _,aF⟩);have p:=N.2.2.2.1;have ai:w1.1.size<=f.1.size:=t.base.size;have aA:=o.mp ai
   have ad:uJ true W3 f.1.size [f.1.size] w1.1.size (.slice u n n) (.slice C g g) (.int .i64 0) T K W3 :=
    ⟨BZ,qY ⟨rfl,⟨u,by rw[ae]⟩,by rw[ae];exact Dg p.rL.xE.src⟩,qY ⟨rfl,⟨C,by rw[ah]⟩,by rw[ah];exact Dg p.rM.xE.src⟩,(fun b d=>(p.lt b (sD (by rw[pJ u _ _ n n];exact d))).2),(fun b d=>(p.lt b (sE (by rw[pJ C _ _ g g];exact d))).2),(fun d=>by have:=(o.lt _ (sD (by rw[pJ u _ _ n n];exact d))).2;omega),(fun d=>by have:=(o.lt _ (sE (by rw[pJ C _ _ g g];exact d))).2;omega),(fun b d J=>aA.ap b (by rw[pJ u _ _ n n];exact d) (by rw[pJ C _ _ g g];exact J)),jH.refl _ _,qH.2 rfl,N.base.size⟩
   have P:=qQ (Dy ad (by rw[ae];exact qVc p.rL.xE) (by have:=Q.out.1;omega) (by have:=Q.out.2;omega) I (by have:=G.out.1;omega) xa O (m:=Y) (A:=Z) (c:=cc) (fun W hW=>ab.out W (N.base.trans (hW.below N.base.size (fun b d=>by rw[qH.1 d];exact ai)))) ag.out (by have:=G.out.2.1;omega) G.out.2.2 X (qVh (Dv X).1 (by have h2:(ofT I T).length<=T.length:=List.length_filter_le _ _;have:=Q.out.1;omega)))
   have HG:Hid (∀H,jH [f.1.size] W3 H->KpS At w1 gd gs gm r seed (i+1) T (cn+70000) H):=qQ fun H ht=>(N.xC api ht (fun b d=>by
    rw[qH.1 d];exact⟨qW _ (qH.2 rfl),ai,fun J=>by have:=t.1.lt _ (t.2.1 _ J);omega⟩)).done (by omega) (by omega)
   obtain⟨u0,u1,u2,u3,u4⟩:=N.cells;simp only at u1 u2 u4;clear t o X ae ah al BZ N p aA ad ai;go_wp2;go_region
   clear m0 m1 s0 s1 y0 y1 y2 y3 y4 ay
   go_wp2_with (first
    | (go_at_call 28;((with_reducible refine P.out.mono ?_);rintro e H⟨rfl,aG,aH,p⟩;have ac:=qQ (HG.out _ p.tc);clear p))
    | fail)
   go_ret;exact⟨T,rfl,ac.out⟩
 ·clear aa R U M;have y1:f.cell? ⟨w.1.size,1,none⟩=some (.string I):=g5.cell 1;have y2:f.cell? ⟨w.1.size,2,none⟩=some (.int .i64 xa):=g5.cell 2;have y4:f.cell? ⟨w.1.size,4,none⟩=some (.slice Z Y cc):=g5.cell 4;have ad:=V.mp g1.base.size;have P:=qQ (Dy ad V.rL.xE (by have:=Q.out.1;omega) (by have:=Q.out.2;omega) I (by have:=G.out.1;omega) xa O (m:=Y) (A:=Z) (c:=cc) (fun W hW=>ab.out W (g1.base.trans (hW.below g1.base.size (fun b d=>(V.lt b d).1)))) ag.out (by have:=G.out.2.1;omega) G.out.2.2 q0 q)
  have HG:Hid (∀H aq ar,uJ false f gm (cH gm vL vM) w1.1.size aq ar (.int .i64 0) (T++yc I ((ofT I T).length:Nat) O) (K++[((O.length:Nat):Int)]) H->KpS At w1 gd gs gm r seed (i+1) (T++yc I ((ofT I T).length:Nat) O) (cn+70000) H):=qQ (by
   intro H aq ar J;have o:=J.jQ V.lo;refine⟨aq,ar,_,av,aw,S2,L2,au,D2,g1.xL api J.tc (fun b d=>⟨g2 b (qF _ d),(V.lt b d).1⟩) (fun b d=>?_),g3,o,g6,g7,by omega,g9,by rw[qN];show K.length+1<=_;omega⟩;have az:=(o.lt b d).2;rcases qL.1 d with j|j
   ·rw[j];exact qX (g2 gm (qF _ qC))
   ·rcases qE.1 j with j|j
    ·rcases J.gL with⟨-,k⟩|k
     ·rcases k b j with k|k
      ·exact qX (g2 b (qF _ k))
      ·exact qY ⟨k,az⟩
     ·cases k.1
    ·rcases J.gM with⟨-,k⟩|k
     ·rcases k b j with k|k
      ·exact qX (g2 b (qF _ k))
      ·exact qY ⟨k,az⟩
     ·cases k.1)
  clear ad g1 g2 g3 V g5 g6 g7 g8 g9 aD q0 q
  go_wp2_with (first
   | (go_at_call 28;((with_reducible refine P.out.mono ?_);rintro e H⟨rfl,aG,aH,p⟩;have ac:=qQ (HG.out _ _ _ p);clear p))
   | fail)
  go_ret;exact⟨_,rfl,ac.out⟩
end
section
variable {At:jR}(api:jS At)(nap:jw)(iap:uy At)(cap:vR){w1 w w':World}{gd gs gm r seed i cn:Nat}{T:List jT}{x:yg}
include api nap iap cap
theorem qVm(h:KpS At w1 gd gs gm r seed i T cn w)(hi:i<=80)(c:cn<=600000000)(j:r<18446744073709551616)(m:bd w1 x)(t:dC x=false):
  Calls prog 9 #[ptr gs,ptr gm,dd x] w fun e w'=>∃f,dL At w1 gd gs gm r seed i f cn e w':=by
 have o:Below w1.1.size w1 w:=by
  obtain⟨vL,vM,K,gl,gx,S,L,chs,D,n,-⟩:=h;exact n.base
 have d:=m.below o (qK _);have u:=qVI t d.l;have C:x.k%12<12:=Nat.mod_lt _ (by decide);have one:∀ {e w'},dL At w1 gd gs gm r seed i T cn e w'->∃f,dL At w1 gd gs gm r seed i f cn e w':=fun k=>⟨_,k⟩
 rcases(show x.k%12<5∨(x.k%12=5∨x.k%12=6)∨x.k%12=7∨x.k%12=8∨x.k%12=9∨(x.k%12=10∨x.k%12=11) by omega) with q|q|q|q|q|q
 ·obtain⟨p,-,z,A,y⟩:=m.v;exact qVl api nap cap h hi c u p y rfl q
 ·by_cases g:yP x.s x.a x.b=0
  ·rcases q with q|q
   ·exact(qV9 api nap cap h (by omega) c d q g).mono fun e w' k=>one k
   ·exact(qVq api nap cap h (by omega) c d q g).mono fun e w' k=>one k
  ·exact(qVx api nap h (by omega) c d q g).mono fun e w' k=>one k
 ·exact(qVz api nap cap h (by omega) c d q).mono fun e w' k=>one k
 ·exact(qVj api nap h (by omega) c q).mono fun e w' k=>one k
 ·exact(qVk api nap iap h (by omega) c j q).mono fun e w' k=>one k
 ·exact(qVv api nap iap h (by omega) c j q).mono fun e w' k=>one k
end
section
variable {At:jR}(api:jS At){w0 w:World}{gd gl gx gs r seed:Nat}{S:IxS}{L:jq}{chs:List (List Tw)}{D:jD}{E:List Nat}
include api
theorem qVn(h:ju At w0 gd gl gx gs r seed S L chs D E w):Calls prog 11 #[ptr gs] w (ch w S.m.next S.m.check S.m.seed S.m.lv):=by
 have d:=(qU w.1.size w).alloc (qK _) (.cells #[.int .i64 0,.int .i64 0,.int .u64 0,.slice none 0 0] 47);have B:=jF.new w 47 #[.int .i64 0,.int .i64 0,.int .u64 0,.slice none 0 0];have n:(w.alloc (.cells #[.int .i64 0,.int .i64 0,.int .u64 0,.slice none 0 0] 47)).1.size=w.1.size+1:=by simp
 obtain⟨z,H⟩:∃z,w.alloc (.cells #[.int .i64 0,.int .i64 0,.int .u64 0,.slice none 0 0] 47)=z:=⟨_,rfl⟩
 rw[H]at d B n;have k:=h.below api d;obtain⟨c0,-,c2,-⟩:=k.cells;have b:=qQ (mF c0);have l:=qKI api k.sx;have s:=qQ d;have G:=qQ B;have y:=qQ n;clear h k d B n;unfold ch kc at l;unfold ch;have u:=qQ l;clear l;generalize S.m.next=o at*;generalize S.m.check=p at*;generalize S.m.seed=q at*;generalize S.m.lv=R at*;obtain⟨m,A⟩:∃m,m=R.length:=⟨_,rfl⟩
 rw[<-A]at u ⊢;clear A;go_enter func11,ntmps11;go_wp2_with fail;refine X5 b.out ?_;go_wp2_with fail;refine u.out.mono ?_;rintro e V⟨a,c,rfl,C,j⟩;have f:=jF.below G.out j;obtain⟨I,J,M,N⟩:=lB f;obtain⟨O,P,Q,U⟩:=Jj f;have b:=qQ ((C.manSet (g:=w.1.size) (by rw[y.out];omega) (.int .i64 o) (.int .i64 p) (.int .u64 (q:Nat)) (.slice a m c)).down (base':=w.1.size) (by rw[y.out];omega));have t:=qQ (J5 (s.out.trans (j.mono s.out.size)) (qK _) (.int .i64 o) (.int .i64 p) (.int .u64 (q:Nat)) (.slice a m c));unfold dD at b t;clear C j f;go_wp2;exact bodyPost_ret (v:=kc o p q (.slice a m c)) (by simp[results,kc,Tryz.results11,go_sem,I,J,M,N]) rfl ⟨a,c,rfl,b.out,t.out⟩
theorem KX(h:ju At w0 gd gl gx gs r seed S L chs D E w):Calls prog 12 #[ptr gd] w fun e w'=>e=.returned (.int .i64 (D.count:Nat))/\ju At w0 gd gl gx gs r seed S L chs D E w'/\jE E w w':=by
 refine(h.sx.ix.quiet (D':=D) (Q:=fun e _=>e=.returned (.int .i64 (D.count:Nat))) (fun m n f=>(f.reads api h.sx.dk.up).mono fun e w' k=>⟨k.2.1,k.2.2,k.1⟩)).mono ?_;rintro e w'⟨g,j,l⟩;obtain⟨a,b⟩:=h.sx.from g j h.sx.ok h.sx.dk h.sx.xI rfl;obtain⟨c,d⟩:=h.step a b h.rb h.vs;exact⟨l,c,d⟩
end
section
variable {At:jR}{w1 w w':World}{gd gs gm r seed i cn:Nat}{T:List jT}
theorem KpS.base(h:KpS At w1 gd gs gm r seed i T cn w):Below w1.1.size w1 w:=by
 obtain⟨vL,vM,K,gl,gx,S,L,chs,D,a,-⟩:=h;exact a.base
theorem KpS.below(api:jS At)(h:KpS At w1 gd gs gm r seed i T cn w)(a:Below w.1.size w w'):KpS At w1 gd gs gm r seed i T cn w':=by
 obtain⟨vL,vM,K,gl,gx,S,L,chs,D,b,c,d,f⟩:=h;exact⟨vL,vM,K,gl,gx,S,L,chs,D,b.below api a,c,d.below a,f⟩
theorem KpS.up(h:KpS At w1 gd gs gm r seed i T cn w){j c:Nat}(o:i<=j)(n:cn<=c):KpS At w1 gd gs gm r seed j T c w:=by
 obtain⟨vL,vM,K,gl,gx,S,L,chs,D,a,b,d,f,g,k,l,m⟩:=h;exact⟨vL,vM,K,gl,gx,S,L,chs,D,a,b,d,f,by omega,by omega,by omega,by omega⟩
theorem KpS.start(api:jS At){gl gx:Nat}{S:IxS}{L:jq}{D:jD}(h:ju At w1 gd gl gx gs r seed S L [] D [] w)(f:ub seed D S)(g:S.m.next=0)(d:D.count<=cn):KpS At w1 gd gs w.1.size r seed 0 [] cn (w.alloc (.cells #[.slice none 0 0,.slice none 0 0,.int .i64 0] 39)):=by
 have a:=(qU w.1.size w).alloc (qK _) (.cells #[.slice none 0 0,.slice none 0 0,.int .i64 0] 39);have B:=jF.new w 39 #[.slice none 0 0,.slice none 0 0,.int .i64 0];have c:=h.more api a (B:=[w.1.size]) (fun b a=>by rw[qH.1 a];exact⟨qK _,B.lt⟩);exact⟨.slice none 0 0,.slice none 0 0,[],gl,gx,S,L,[],D,c,f,⟨B,kT.nil _ _,jd.nil _ _,h.base.size⟩,rfl,qI _,by rw[g];exact Int.le_refl _,d,qI _⟩
end
theorem qVp{l:List Rec}(hw:∀x∈l,vv x.2=true):∀x∈ja l,x.s.size<=maxLen:=by
 intro x a;obtain⟨f,d,a⟩:=xZ.1 a;obtain⟨-,-,-,-,-,c⟩:=dc (hw f d);obtain⟨-,b,-⟩:=gh.1 c;rw[Qb a];exact qR b (by unfold maxLen;omega)
end
section
open Go.RowKit Go.Shelf
attribute [local go_sem] cq
section
variable {At:jR}(api:jS At)(nap:jw)(iap:uy At)(cap:vR)
include api nap iap cap
namespace StRdW
omit api nap iap cap in
theorem rd_page{a:Nat}(h:a<256):(wrap64 (a:Int)).tmod 20=((a%20:Nat):Int):=by
 have b:wrap64 (a:Int)=(a:Int):=by unfold wrap64;omega
 rw[b,Int.tmod_eq_emod_of_nonneg (by omega)];omega
omit api nap iap cap in
theorem rd_count{b:Nat}(h:b<256):wrap64 (1+(wrap64 (b:Int)).tmod 20)=((1+b%20:Nat):Int):=by
 rw[rd_page h];unfold wrap64;omega
theorem walk(W:World)(v0:Value)(C:List yg)(t:rH)(a2 b2 c2:Nat)(b7:mV W v0 C)(cx:∀x∈C,bd W x)(aS:JR t)(w2:a2<256/\b2<256/\c2<256):Calls prog 3 #[v0,JP t,QH a2 b2 c2] W (X3 (.bool true) W):=by
 have ba:=qQ (fun W=>qVH api nap iap cap W);have am:=(qU W.1.size W).alloc (qK _) (.cells #[.int .u64 (t.d:Nat),.float .f64 t.r,.int .u16 (t.m:Nat)] 27);have B0:=jF.new W 27 #[.int .u64 (t.d:Nat),.float .f64 t.r,.int .u16 (t.m:Nat)];obtain⟨w0,ci⟩:∃w0,W.alloc (.cells #[.int .u64 (t.d:Nat),.float .f64 t.r,.int .u16 (t.m:Nat)] 27)=w0:=⟨_,rfl⟩
 rw[ci]at am B0;have an:=(qU w0.1.size w0).alloc (qK _) (.cells #[.int .u8 (a2:Nat),.int .u8 (b2:Nat),.int .u8 (c2:Nat)] 28);have B1:=jF.new w0 28 #[.int .u8 (a2:Nat),.int .u8 (b2:Nat),.int .u8 (c2:Nat)];obtain⟨w1,ck⟩:∃w1,w0.alloc (.cells #[.int .u8 (a2:Nat),.int .u8 (b2:Nat),.int .u8 (c2:Nat)] 28)=w1:=⟨_,rfl⟩
 rw[ck]at an B1;have ae:=B0.below an;have aj:Below W.1.size W w1:=am.trans (an.mono am.size);have aN:=b7.below aj (qK _);have aR:∀x∈C,bd w1 x:=fun x y=>(cx x y).below aj (qK _)
 have dn:W.1.size<=w1.1.size:=aj.size;obtain⟨A,off,c,rfl,ml,bn⟩:=aN.form;have aF:=qZG _ C 60 w1 aN aR (by decide);obtain⟨n,hn⟩:∃n,n=C.length:=⟨_,rfl⟩
 rw[<-hn]at aF;have u:Hid (Calls prog 6 #[.slice A n c,.int .i64 60] w1 (X0 (.bool (cB C 60)) w1)):=qQ aF;have ap:=qQ aj;have HC:=qQ (fun W' (hW:Below w1.1.size w1 W')=>qG (ae.below hW) (B1.below hW));have aT:=qQ bn;have bb:=qQ aR;have HN:=qQ hn;have cM:=qQ aS;have aB:=qQ w2;have k0:=ae.cell 0;have k1:=ae.cell 1;have k2:=ae.cell 2;have ax:=qQ (D9 api nap iap cap t aS w1);rw[<-hn];clear am an B0 B1 ae aj aN aR b7 cx bn aF aS hn w2;unfold QH;obtain⟨o,hr,hm⟩:=t;simp only at ax ci ck HC k0 k1 k2;show Calls prog 3 #[.slice A n c,.agg #[.int .u64 (o:Nat),.float .f64 hr,.int .u16 (hm:Nat)],.agg #[.int .u8 (a2:Nat),.int .u8 (b2:Nat),.int .u8 (c2:Nat)]] W _;go_enter func3,ntmps3;by_cases aL:cB C 60=true
 ·rw[aL]at u
  go_wp2_with (first
   | (go_at_call 6;((with_reducible refine X5 u.out ?_)))
   | (go_at_call 7;((with_reducible refine KG (ba.out _) fun w4 Q=>?_)))
   | fail)
  have HF:=qQ (ap.out.trans (Q.mono dn));clear Q;go_ret;exact⟨rfl,HF.out⟩
 ·have aK:cB C 60=false:=by simpa using aL
  rw[aK]at u;have aU:=qQ aK;clear aL aK
  go_wp2_with (first
   | (go_at_call 6;((with_reducible refine X5 u.out ?_)))
   | fail)
  refine ax.out.mono ?_;rintro e w3⟨H,gd,ai,d2,d3,S0,L0,D0,aI,rfl,h0,p,I,h3,h4,h5⟩;have aM:=KpS.start api h0 p I h4;obtain⟨w4,d0⟩:∃w4,w3.alloc (.cells #[.slice none 0 0,.slice none 0 0,.int .i64 0] 39)=w4:=⟨_,rfl⟩
  rw[d0]at aM;have ec:w1.1.size<=H.1.size:=aI.size
  have ea:n<=60:=by
   have:=aU.out;unfold cB at this;simp only[Bool.or_eq_false_iff,decide_eq_false_iff_not]at this;have:=this.2;rw[<-HN.out]at this;omega
  have cL:Hid (∀x∈C,dC x=false):=qQ (by
   have:=aU.out;unfold cB at this;simp only[Bool.or_eq_false_iff,decide_eq_false_iff_not]at this;exact fun x y=>by simpa using List.any_eq_false.1 this.1 x y)
  have z:=qQ aI;have aV:=qQ aM;obtain⟨gm,c7⟩:∃gm,w3.1.size=gm:=⟨_,rfl⟩
  rw[c7]at aV;clear aI h0 p I h3 h4 h5 aM ax k0 k1 k2;go_wp2;go_loopw [11] (fun iv wr=>∃(k:Nat) (T:List jT),k<=n/\iv=.int .i64 (k:Nat)/\KpS At H gd ai gm hr o k T (600+70000*k) wr) (fun iv _=>n-(intOf iv).toNat)
  case atStart=>exact⟨0,[],qI _,rfl,aV.out⟩
  case round =>
   obtain⟨k,T,hk,rfl,hP⟩:=hrel;have HP:=qQ hP;have aJ:=hP.base;have aa:=z.out.trans (aJ.mono z.out.size);clear hP;by_cases dl:k<n
   ·have s1:(k:Int)<(n:Int):=(by omega);obtain⟨x,y⟩:∃x,C[k]? = some x:=⟨_,qD (by rw[<-HN.out];exact dl)⟩
    obtain⟨b,rfl,X,e0,e1,e2,e3,e4⟩:=aT.out k x y;have f0:=jm aa X e0;have f1:=jm aa X e1;have f2:=jm aa X e2;have f3:=jm aa X e3;have f4:=jm aa X e4;have P:=(bb.out x (qM y)).below z.out (qK _);have co:=cL.out x (qM y);have c_:x.k%12<12:=Nat.mod_lt _ (by decide);have cu:bd H { x with k:=x.k%12 }:=⟨by show x.k%12<256;omega,P.s,P.a0,P.a1,P.b0,P.b1,P.v,P.l⟩
    have ac:Hid (∀W',Below wr.1.size wr W'->Calls prog 9 #[ptr ai,ptr gm,dd { x with k:=x.k%12 }] W' fun e w'=>∃T2,dL At H gd ai gm hr o k T2 (600+70000*k) e w'):=qQ fun W' hW=>qVm api nap iap cap (HP.out.below api hW) (by omega) (by omega) cM.out.r cu co
    have ek:((x.k%12:Nat):Int)=((x.k:Nat):Int)%12:=(by omega);obtain⟨-,-,A3,c3,cv⟩:=P.v;obtain⟨xk,g,xa,xb,xv,xl⟩:=x;simp only at f0 f1 f2 f3 f4 ek cv;subst cv;obtain⟨n3,b_⟩:∃n3,n3=xl.length:=⟨_,rfl⟩
    rw[<-b_]at f4 ac;unfold dd at ac;simp only at ac;rw[ek]at ac;clear e0 e1 e2 e3 e4 y aJ aa P co cu c_ ek b_;have bm:=(qU wr.1.size wr).alloc (qK _) (.cells #[.int .u8 (((xk:Nat):Int)%12),g,xa,xb,.slice A3 n3 c3] 42);have aW:=qQ (ac.out _ bm);clear bm ac;go_wp2_with fail;refine aW.out.mono ?_;rintro e w5⟨T2,rfl,k5⟩;have cR:=qQ (k5.up (j:=k+1) (c:=600+70000*(k+1)) (by omega) (by omega));clear k5 aW;go_wp2;go_roundw
    case rel=>exact⟨k+1,T2,by omega,by go_num,cR.out⟩
    case measure=>simp[intOf];omega
   ·obtain rfl:k=n:=(by omega);have s1:¬(k:Int)<(k:Int):=(by omega);obtain⟨vL,vM,K,gl,gx,S,L,chs,D,U,g2,g3,g4,g5,g6,g7,g8⟩:=HP.out;have b8:=U.sx.ok.many;have b9:=U.sx.ok.xR
    have bi:T.length<=480:=by
     have p:=lD (jP 0 chs) U.rb.whole;rw[g4]at p;omega
    have hM:=qVn api U;have a3:Hid (yR S.m.lv=true):=qQ (qB U.sx.ok.may.2.2.2.2.1);have aq:Hid (S.m.lv.length<=100000/\S.m.lv.flatten.length<=100000):=qQ ⟨by have:=U.sx.ok.may.2.2.2.2.1.1;omega,by omega⟩;unfold ch kc at hM;have HM:=qQ hM;have u:=qQ (qG U (qG g3 (qG g4 (qG g5 g7))));have ar:=qQ b8;have aA:=qQ (qG bi b9);clear U g2 g3 g4 g5 g6 g7 g8 b8 b9 bi hM aJ aa;generalize S.m.lv=R at HM aq ar a3;go_wp2_with fail;refine HM.out.mono ?_;rintro e w3⟨A4,cp,rfl,ca,Q⟩;have c4:∀V:World,(Instr.field 47 (.agg #[S.m.next,S.m.check,.int .u64 (S.m.seed:Nat),.slice A4 R.length cp]) 3).run prog V=.ok (.slice A4 R.length cp) V:=fun V=>rfl
    have ao:=mY (.slice A4 R.length cp) R w3 ca.has aq.out.2 aq.out.1;unfold bQ at ao;obtain⟨tn,aO⟩:∃tn,tn=R.flatten.length:=⟨_,rfl⟩
    rw[<-aO]at ao ar;have aX:=qQ ao;have ag:=qQ Q;clear ca ao Q aO;go_wp2_with fail;refine aX.out.mono ?_;rintro e d1⟨A5,c5,rfl,-,b5⟩;have Y:=qQ (uO.below u.out.2.1 (ag.out.trans (b5.mono ag.out.size)));have az:=qQ (u.out.1.below api (ag.out.trans (b5.mono ag.out.size)));have bk:=z.out.trans (az.out.base.mono z.out.size);obtain⟨c8,al⟩:=HC.out _ bk;have y0:=al.cell 0;have y1:=al.cell 1;have y2:=al.cell 2;clear c4 HM aX ag b5 bk c8 al;go_wp2;go_region
    go_wp2;obtain⟨a,bv⟩:∃a:Nat,a=a2%20:=⟨_,rfl⟩
    obtain⟨f,bp⟩:∃f:Nat,f=1+b2%20:=⟨_,rfl⟩
    have aD:=rd_page aB.out.1;have aE:=rd_count aB.out.2.1;rw[<-bv]at aD;rw[<-bp]at aE;rw[aD,aE];clear aD aE;have d_:a<20:=(by omega);have d8:1<=f:=(by omega);have d9:f<=20:=(by omega);obtain⟨wl,aP⟩:∃wl:World,wl=d1.drew:=⟨_,rfl⟩
    have a_:Hid (ju At H gd gl gx ai hr o S L chs D (cH gm vL vM) wl/\uO H wl gm vL vM T K):=qQ (by rw[aP];exact⟨az.out.drew api,uO.below Y.out (qU _ _).drew⟩);rw[<-aP];have d4:D.count<=600+70000*k:=u.out.2.2.2.2
    have ad:Hid (yf T/\(∀x∈T,x.s.size<=maxLen)/\(∀x∈T,0<=x.v/\x.v<=1073741823)/\T=ja (jP 0 chs)/\o<18446744073709551616/\(jP 0 chs).length<=k):=qQ (by
     have p:=u.out.2.2.1;have I:=u.out.1;refine⟨by rw[<-p];exact I.vs,by rw[<-p];exact qVp I.rb.whole,by rw[<-p];exact sA I.rb.whole,p.symm,I.sd,u.out.2.2.2.1⟩)
    clear bv bp Y az u y0 y1 y2 aB a3 aP;go_loopw [16] (fun iv wx=>∃(j J:Nat),j<=k/\iv=.int .i64 (j:Nat)/\J<=5000000+2000*j/\ju At H gd gl gx ai hr o S L chs { D with count:=J } (cH gm vL vM) wx/\uO H wx gm vL vM T K) (fun iv _=>k-(intOf iv).toNat)
    case atStart=>exact⟨0,D.count,qI _,rfl,by omega,a_.out.1,a_.out.2⟩
    case round =>
     obtain⟨j,J,hj,rfl,d7,hA,aG⟩:=hrel;by_cases c9:j<k
     ·have s2:(j:Int)<(k:Int):=(by omega);obtain⟨x,y⟩:∃x,C[j]? = some x:=⟨_,qD (by rw[<-HN.out];exact c9)⟩
      obtain⟨b,rfl,X,e0,e1,e2,e3,e4⟩:=aT.out j x y;have HF:Hid (∀V,Below H.1.size H V->V.cell? ⟨b,off+j*5+1,none⟩=some (.string x.s)/\V.cell? ⟨W.1.size,0,none⟩=some (.int .u64 (o:Nat))):=qQ fun V hV=>⟨jm (z.out.trans (hV.mono z.out.size)) X e1,(HC.out V (z.out.trans (hV.mono z.out.size))).1.cell 0⟩
      have aQ:=(bb.out x (qM y)).s;obtain⟨xk,g,xa,xb,xv,xl⟩:=x;simp only at HF aQ;have HA:=qQ hA;have a4:=qQ aG;have aC:=qQ aQ;have d6:J<=6000000:=(by omega);have a9:=qQ (KX api hA);clear hA aG aQ e0 e1 e2 e3 e4 y X;go_wp2_with fail;refine a9.out.mono ?_;rintro e w5⟨rfl,a5,k5⟩;have Y:=qQ a5;have aY:=qQ (a4.out.kept k5 (fun b M=>M));obtain⟨f5,-⟩:=HF.out w5 a5.base;have ak:Hid (∀V,uO H V gm vL vM T K->Calls prog 14 #[vL,.int .u64 (o:Nat),g,a,.int .i64 ((a:Int)+(f:Int)-1)] V (X0 (.int .i64 (gw o g (a:Nat) ((a:Int)+(f:Int)-1) T:Nat)) V)):=qQ fun V hV=>qVS hV.rL.xE (by have:=aA.out.1;omega) o ad.out.2.2.2.2.1 g aC.out ad.out.2.1 _ _ ad.out.2.2.1
      have au:Hid (gw o g (a:Nat) ((a:Int)+(f:Int)-1) T<=480):=qQ (qR (List.length_filter_le _ _) aA.out.1);clear a5 k5 a9 HA a4;by_cases hq:yP g (a:Nat) (f:Nat)=0
      ·have db:(jP 0 chs).length<=90:=(by have:=ad.out.2.2.2.2.2;omega);have ab:=qQ (Ji api nap cap Y.out (by show J<=_;omega) (by omega) g aC.out (a:Nat) (f:Nat) (WalkArith.wf_i64 (by omega)) (WalkArith.wf_i64 (by omega)) hq)
       have ay:Hid ((vf S (kX o g.data.toList) (a:Nat) (di (a:Nat) (f:Nat))).length<=gw o g (a:Nat) ((a:Int)+(f:Int)-1) T):=qQ (by
        have p:=qV1 Y.out g (a:Nat) (di (a:Nat) (f:Nat));rw[<-ad.out.2.2.2.1]at p;have I:di (a:Nat) (f:Nat)=(a:Int)+(f:Int)-1:=(by unfold di;omega);rw[I]at p ⊢;exact p)
       have a8:Hid ((kV g (a:Nat) ((a:Nat)+(f:Nat)-1) T).length<=gw o g (a:Nat) ((a:Int)+(f:Int)-1) T):=qQ (qV0 o g (a:Nat) ((a:Int)+(f:Int)-1) T);have aZ:=qQ ar.out;generalize gw o g (a:Nat) ((a:Int)+(f:Int)-1) T=N at ak au ay a8;generalize (vf S (kX o g.data.toList) (a:Nat) (di (a:Nat) (f:Nat))).length=rl at ab ay;clear hq db;go_wp2_with fail;refine ab.out.mono ?_;rintro e w6⟨A6,c6,kk,da,rfl,-,a6,k6⟩;rw[<-ad.out.2.2.2.1]at a6 ⊢;have ce:=a8.out;generalize (kV g (a:Nat) ((a:Nat)+(f:Nat)-1) T).length=pl at a6 ce ⊢;have ah:=qQ (aY.out.kept k6 (fun b M=>M));have Z:=qQ (KX api a6);obtain⟨nw,cb⟩:∃nw,nw=J+kk:=⟨_,rfl⟩
       have cc:(((J+kk:Nat)):Int)=(nw:Int):=(by omega);have b3:kk<=tn+2*N:=(by have:=aZ.out;have:=ay.out;omega);have d5:=au.out;have aO:tn<=40:=(by have:=aZ.out;have:=aA.out.2;omega);have r1:¬(5*(tn:Int)+3*(N:Int)<(nw:Int)-(J:Int)):=(by omega);have r2:¬((N:Int)<(pl:Int)):=(by omega);have eb:nw<=6002000:=(by omega);simp only at Z;rw[cc]at Z;have aw:=qQ (qG cb b3);clear a6 k6 ab cb cc da b3 ce f5;go_wp2_with fail;refine Z.out.mono ?_;rintro e G⟨rfl,a7,k7⟩;have O:=ah.out.kept k7 (fun b M=>qJ _ M);obtain⟨f7,z7⟩:=HF.out G a7.base;have m7:G.cell? ⟨gm,0,none⟩=some vL:=O.cell;have af:=qQ (qG a7 O)
       have av:Hid (∀q,Calls prog 14 #[vL,.int .u64 (o:Nat),g,a,.int .i64 ((a:Int)+(f:Int)-1)] (G.drewN q) fun e w'=>e=.returned (.int .i64 (N:Nat))/\w'=G.drewN q):=qQ fun q=>by
        exact(ak.out (G.drewN q) (O.below (uK (qU _ _) q))).mono fun _ _ h=>⟨h.1,h.2.symm⟩
       clear a7 k7 O Z ah;go_wp2;go_quiet ((go_at_call 14;exact Calls.quiet_of_same (av.out _)));rename_i nq;go_wp2;go_roundw
       case rel=>exact⟨j+1,nw,by omega,by go_num,by have p:=aw.out.1;have I:=aw.out.2;omega,by rw[aw.out.1];exact(af.out.1.drewN api nq).less (fun b M=>qJ _ M),af.out.2.below (uK (qU _ _) nq)⟩
       case measure=>simp[intOf];omega
      ·have ab:=qQ (DN nap Y.out g aC.out (a:Nat) (f:Nat) hq);generalize gw o g (a:Nat) ((a:Int)+(f:Int)-1) T=N at ak au;clear hq;go_wp2_with fail;refine KG ab.out fun w6 b6=>?_;have ah:=qQ (aY.out.below b6);have Z:=qQ (KX api (Y.out.below api b6));clear b6 ab f5;go_wp2_with fail;refine Z.out.mono ?_;rintro e G⟨rfl,a7,k7⟩;have O:=ah.out.kept k7 (fun b M=>M);obtain⟨f7,z7⟩:=HF.out G a7.base;have m7:G.cell? ⟨gm,0,none⟩=some vL:=O.cell;have af:=qQ (qG a7 O)
       have av:Hid (∀q,Calls prog 14 #[vL,.int .u64 (o:Nat),g,a,.int .i64 ((a:Int)+(f:Int)-1)] (G.drewN q) fun e w'=>e=.returned (.int .i64 (N:Nat))/\w'=G.drewN q):=qQ fun q=>by
        exact(ak.out (G.drewN q) (O.below (uK (qU _ _) q))).mono fun _ _ h=>⟨h.1,h.2.symm⟩
       clear a7 k7 O Z ah;go_wp2;go_quiet ((go_at_call 14;exact Calls.quiet_of_same (av.out _)));rename_i nq;go_wp2;go_roundw
       case rel=>exact⟨j+1,J,by omega,by go_num,by omega,af.out.1.drewN api nq,af.out.2.below (uK (qU _ _) nq)⟩
       case measure=>simp[intOf];omega
     ·obtain rfl:j=k:=(by omega);have s2:¬(j:Int)<(j:Int):=(by omega);have aH:Below W.1.size W wr:=ap.out.trans ((z.out.trans (hA.base.mono z.out.size)).mono ap.out.size);have cy:=qQ aH;have dp:=aH.size;clear hA aG aH
      go_wp2_with (first
       | (go_at_call 7;((with_reducible refine KG (ba.out _) fun w4 Q=>?_)))
       | fail)
      have HE:=qQ (cy.out.trans (Q.mono dp));clear Q;go_ret;exact⟨rfl,HE.out⟩
end StRdW
end
end
end Go.Proofs.YthejglbnkmimjaaGreat
