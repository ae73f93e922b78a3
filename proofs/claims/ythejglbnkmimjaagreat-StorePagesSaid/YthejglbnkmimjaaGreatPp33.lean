import Derived.Test.YthejglbnkmimjaaGreatPp32
set_option linter.unusedVariables false
set_option maxRecDepth 100000
set_option maxHeartbeats 9000000
namespace Go.Proofs.YthejglbnkmimjaaGreat
open Proofs.Tryz
section
open Go.RowKit Go.Shelf
def qV2(At:j6)(w0:World)(gd gx r:Nat)(S:IxS)(D:jL)(x:Nat)(b:Int)(m:Nat)(E:List Nat)(w:World)(e:Ending)(w':World):Prop :=
 ∃(z:Int) (k:Nat),k<=m/\ua (uU S) x b z/\e=.returned (.tuple #[z,.int .i64 0])/\js At w0 gd gx r S { D with count:=D.count+k } E w'/\jM E w w'
theorem Dn{l:List jI}(c:∀x∈l,ks x)(h:Nat)(b:Int):-9223372036854775808<=(yZ l h b).v/\(yZ l h b).v<=9223372036854775807:=by
 unfold yZ;cases d:fD l h b with
 | none=>exact⟨by decide,by decide⟩
 | some y =>
   have f:y∈l.filter (upQ h b):=List.mem_of_getLast? d;obtain⟨g,i,j,m,n⟩:=c y (qo.1 f).1;exact⟨by show _<=y.v;omega,by show y.v<=_;omega⟩
section
variable {At:j6}(api:j8 At)(nap:kZ){w0 w w':World}{gd gx r:Nat}{S:IxS}{D:jL}{E:List Nat}
include api nap
theorem qV3(h:js At w0 gd gx r S D E w)(ok:kV D S)(wf:WfP D)(hc:D.count<=1000000000)(hd:D.down=false)(ht:gD S<=40000)(x:Nat)(hx:x<18446744073709551616)(b:Int)(wb:(Lit.int .i64 b).wf=true):
  Calls prog 86 #[ptr gx,.int .u64 (x:Nat),.int .i64 b] w (qV2 At w0 gd gx r S D x (kA b) S.T.length E w):=by
 obtain⟨Q,I,F,d1,hM,d3,d4,U,d6⟩:=h;obtain⟨gm,A,cp,B,c2,V,o⟩:=hM.cells;obtain⟨c0,-,-,-,-,-,c6,-,c8⟩:=o.cs;have aZ:=qQ (pV c0);have bb:=bounds_i64 wb;have ba:(if (1073741824:Int)<b then 1073741824 else b)=kA b:=by unfold kA;split<;>omega
 have bi:min b 1073741824=kA b:=rfl;have af:=Rp o.mem.has (by unfold gD at ht;omega) x (kA b);have aj:=qQ (fun(D':jL) (W:World) (hd:DS At w0 gd D' (Q++(I++(F++E))) W) (f:jM (Q++(I++(F++E))) w W)=>js.back (N:=[]) hM d1 d3 d4 U d6 hd f (fun b c=>by cases c));have aa:∀b∈F,b∈Q++(I++(F++E)):=fun b c=>qJ _ (qJ _ (qW _ c))
 have ab:∀b∈I,b∈Q++(I++(F++E)):=fun b c=>qJ _ (qW _ c)
 have ah:∀b∈E,b∈Q++(I++(F++E)):=fun b c=>qJ _ (qJ _ (qJ _ c))
 have a0:V.length=S.T.length:=o.xO.1;have aC:=qQ (Dn ok.ok x (kA b));have aO:=qQ (Ca ok.xI ok.mayE x (kA b))
 have aP:Hid (∀(k:Nat) (t:TbS) (z:Int),S.T[k]? = some t->ua (fun y=>y∈S.mem∨∃t∈S.T.take k,y∈t.l) x (kA b) z->ua (fun y=>y∈S.mem∨∃t∈S.T.take (k+1),y∈t.l) x (kA b) (max z (if yB t.l x (kA b)=true then(yZ t.l x (kA b)).v else -1))):=qQ fun k t z f Z=>by
  have O:=qN f;refine(Z.both (Ca (ok.has t O).props.1 (ok.has t O).props.2.1 x (kA b))).congr fun y=>?_
  rw[xQ,f];constructor
  ·rintro ((q|⟨u,K,h2⟩)|q)
   ·exact qX q
   ·exact qY ⟨u,qW _ K,h2⟩
   ·exact qY ⟨t,qJ _ (by simp),q⟩
  ·rintro (q|⟨u,K,h2⟩)
   ·exact qX (qX q)
   ·rcases qD.1 K with K|K
    ·exact qX (qY ⟨u,K,h2⟩)
    ·obtain rfl:u=t:=(by simpa using K);exact qY h2
 have ap:Hid (∀z,ua (fun y=>y∈S.mem∨∃t∈S.T.take S.T.length,y∈t.l) x (kA b) z->ua (uU S) x (kA b) z):=qQ fun z Z=>Z.congr fun y=>by rw[List.take_length];rfl
 have aE:=qQ (fun(t:TbS) (O:t∈S.T)=>Dn (ok.has t O).props.2.2 x (kA b));obtain⟨n,aw⟩:∃n,Q++(I++(F++E))=n:=⟨_,rfl⟩
 rw[aw]at d1 aj aa ab ah;have al:=qQ d1
 have HT:=qQ (fun(i g:Nat) (t:TbS) (M:V[i]? = some g) (P:S.T[i]? = some t) (k:Nat) (f:k<=40) (W:World) (hW:DS At w0 gd { D with count:=D.count+k } n W) (aW:jM n w W)=>(show Calls prog 139 #[ptr g,.int .u64 (x:Nat),.int .i64 b] W fun e w'=>∃j,j<=1/\yf At w0 gd (.tuple #[ki (yZ t.l x (kA b)),.bool (yB t.l x (kA b)),.int .i64 0]) { D with count:=D.count+k+j } n W e w' from by
  obtain⟨H,q1,q2⟩:=o.xO.2 i g t M P;have ac:=qN P;have a9:=KY ac;have hn:=(ok.xT ac).1;refine(Si api nap hW (q1.keep aW (fun b c=>aa b (q2 b c))) (fun b c=>aa b (q2 b c)) ⟨wf.synced,wf.used,wf.cap,wf.many⟩ (by show D.count+k<=_;omega) (WalkArith.wf_i64 (by omega)) hd ((ok.has t ac).count _) (ok.keep t ac) (by unfold gD at ht;omega) x hx b wb).mono ?_;rintro e w'⟨j,hj,-,hL⟩;exact⟨j,hj,hL⟩))
 have HP:=qQ (fun(W:World) (f:jM n w W) (i g:Nat) (M:V[i]? = some g)=>(show ∃Y,B=some ⟨Y,0,none⟩/\W.cell? ⟨Y,i,none⟩=some (ptr g) from by
  obtain⟨B',a4,e,-,-,aT⟩:=yK.form (f.xf o.row (fun b c=>ab b (o.xj b c)));obtain⟨rfl,-,-⟩:=Value.slice.inj e;obtain⟨Y,e1,-,-,e2⟩:=aT i g M;exact⟨Y,e1,e2⟩))
 have ak:=qQ (fun(W:World) (f:jM n w W)=>(show W.cell? ⟨gx,6,none⟩=some (.slice B V.length c2) from(f.xW o.xW (ab gx o.own)).cell 6));have aS:=ok.xS;have aG:=qQ ah;obtain⟨m,O⟩:∃m,m=V.length:=⟨_,rfl⟩
 have a_:m<=40:=by omega
 have ai:S.T.length=m:=by omega
 rw[<-O]at c6 ak;rw[ai]at ap ⊢;have a3:Hid (S.T.length=m):=qQ ai;have aI:Hid (∀k,k<m->∃g t,V[k]? = some g/\S.T[k]? = some t):=qQ fun k f=>⟨_,_,qE (by omega),qE (by omega)⟩
 have aL:Hid (∀z,ua (· ∈ S.mem) x (kA b) z->ua (fun y=>y∈S.mem∨∃t∈S.T.take 0,y∈t.l) x (kA b) z):=qQ fun z Z=>Z.congr fun y=>by simp
 unfold GQ at af;generalize yZ S.mem x (kA b)=le at*;generalize yB S.mem x (kA b)=lo at*;obtain⟨lh,lv,lp⟩:=le;have aM:=qQ af;clear hM o d1 d3 d4 U d6 ok wf hc hd ht wb aa ab ah a0 aS O ai aw af c0;generalize a5:kA b=cb at*;go_enter func86,ntmps86;go_wp2_with fail;refine X5 aZ.out ?_;go_wp2_with fail;refine KG aM.out fun w1 b1=>?_;have K1:=jM.xA b1 al.out.lt;have D1:=al.out.below api b1;have hA:=(qG w1.1.size w1).alloc (qK _) (.cells #[.int .u64 (lh:Nat),lv,lp] 117);have K2:=K1.trans (jM.xA hA D1.lt);have D2:=D1.below api hA;have EA:=jN.new w1 117 #[.int .u64 (lh:Nat),lv,lp];obtain⟨w2,a1⟩:∃w2,w1.alloc (.cells #[.int .u64 (lh:Nat),lv,lp] 117)=w2:=⟨_,rfl⟩
 rw[a1]at K2 D2 EA;have aF:=qQ D2;have aJ:=qQ K2;have q6:=ak.out _ K2;have ev:=EA.cell 1;clear b1 K1 D1 hA K2 D2 EA c6 c8;have aX:=aC.out;have ar:Hid (∃z0:Int,z0=(if lo=true then lv else -1)/\-9223372036854775808<=z0/\z0<=9223372036854775807/\ua (fun y=>y∈S.mem∨∃t∈S.T.take 0,y∈t.l) x cb z0):=qQ ⟨_,rfl,by split<;>omega,by split<;>omega,aL.out _ aO.out⟩;clear aX;cases lo
 all_goals
  obtain⟨z0,aA,ad,ae,C⟩:=ar.out;simp only[if_true,Bool.false_eq_true,if_false]at aA;subst aA;have aR:=qQ C;have av:=qQ (qU ad ae);clear ad ae C ar;go_wp2;go_loopg [8,37] m (fun g u i wr=>∃(k j:Nat) (z:Int),k+g=m/\j<=k/\i=.int .i64 k/\u=.int .i64 z/\-9223372036854775808<=z/\z<=9223372036854775807/\ua (fun y=>y∈S.mem∨∃t∈S.T.take k,y∈t.l) x cb z/\DS At w0 gd { D with count:=D.count+j } n wr/\jM n w wr)
  case atStart=>exact⟨0,0,_,by omega,qK _,rfl,rfl,av.out.1,av.out.2,aR.out,aF.out,aJ.out⟩
  case round =>
   obtain⟨k,j,z,a7,aU,rfl,rfl,ad,ae,C,ax,ay⟩:=hrel;have a8:k<=m:=(by omega);have an:=qQ ax;have X:=qQ ay;have HZ:=qQ C;clear ax ay C;cases gk with
   | zero =>
     obtain rfl:k=m:=(by omega);have s1:¬(k:Int)<(k:Int):=(by omega);have aH:=qQ (aj.out { D with count:=D.count+j } wr an.out X.out);have aQ:=qQ (ap.out z HZ.out);have aK:=qQ (X.out.less aG.out);go_wp2;go_ret2;exact⟨z,j,aU,aQ.out,rfl,aH.out,aK.out⟩
   | succ gi =>
     have aV:k<m:=(by omega);have s1:(k:Int)<(m:Int):=(by omega);obtain⟨g,t,M,P⟩:=aI.out k aV;obtain⟨Y,rfl,q1⟩:=HP.out wr X.out k g M;have aq:=HT.out k g t M P j (by omega) wr an.out X.out;have J:=aP.out k t z P HZ.out;have aD:=aE.out t (qN P);clear M P;generalize yZ t.l x cb=te at*;generalize yB t.l x cb=tq at*;obtain⟨th,d,tp⟩:=te;simp only at aD;have aN:=qQ aq;clear aq;go_wp2_with fail;refine aN.out.mono ?_;rintro e w5⟨j2,a6,rfl,U,k5⟩;have k6:=X.out.trans k5;have hB:=(qG w5.1.size w5).alloc (qK _) (.cells #[.int .u64 (th:Nat),d,tp] 117);have k7:=k6.trans (jM.xA hB U.lt);have d7:=U.below api hB;have EB:=jN.new w5 117 #[.int .u64 (th:Nat),d,tp];obtain⟨w6,a2⟩:∃w6,w5.alloc (.cells #[.int .u64 (th:Nat),d,tp] 117)=w6:=⟨_,rfl⟩
     rw[a2]at k7 d7 EB;rw[Nat.add_assoc]at d7;have et:=EB.cell 1;have am:=qQ d7;have ao:=qQ k7;clear U k5 k6 hB k7 d7 EB;have aY:∀ts ty w,(Builtin.max_ ts ty #[.int .i64 z,d]).run prog w=.ok (.int .i64 (max z d)) w:=fun ts ty w=>by rw[run_max_int2,show(if z<d then(d:Int) else z)=max z d by split<;>omega]
     cases tq
     ·have az:max z (-1)=z:=Int.max_eq_left HZ.out.2.2;simp only[Bool.false_eq_true,if_false]at J;rw[az]at J;have ag:=qQ J;clear J az aY;go_wp2;go_roundg gi
      case measure=>omega
      case rel=>exact⟨k+1,j+j2,z,by omega,by omega,by go_num,rfl,ad,ae,ag.out,am.out,ao.out⟩
     ·simp only[if_true]at J;have ag:=qQ J;have C:-9223372036854775808<=max z d:=(by omega);have aB:max z d<=9223372036854775807:=(by omega);have au:=qQ (qU C aB);clear J C aB;go_wp2;go_roundg gi
      case measure=>omega
      case rel=>exact⟨k+1,j+j2,max z d,by omega,by omega,by go_num,rfl,au.out.1,au.out.2,ag.out,am.out,ao.out⟩
end
theorem qV4{D:jL}{L:jq}(ok:WfP D):WfP (yA D L).2.1:=by
 unfold yA;split
 ·exact ok
 ·exact JC ok
structure jw(At:j6)(w0:World)(gd gl gx r:Nat)(S:IxS)(L:jq)(chs:List (List Tw))(D:jL)(E:List Nat)(w:World):Prop where
 ix:js At w0 gd gx r S D (gl::E) w
 log:jN w gl 130 (gW (ptr gl) gd L)
 xD:gl ∉ E
 low:w0.1.size<=gl
 ok:kV D S
 dk:yH (bI chs.length) D S
 xF:ku D chs
 gl:uV D L chs
structure Dp(N:Nat)(D E:jL)(S S':IxS):Prop where
 cap:E.cap=D.cap
 xB:E.xB=D.xB
 count:E.count<=D.count+N
 has:∀x,uU S' x↔uU S x
 xO:∀x,(∃t∈S.T,x∈t.l)->∃t∈S'.T,x∈t.l
 seed:S'.m.seed=S.m.seed
def dE(D E:jL):Prop:=(jT E.l j7).map jO.data=(jT D.l j7).map jO.data
theorem dE.refl(D:jL):dE D D:=rfl
theorem sb{D:jL}{chs:List (List Tw)}(g:ku D chs):kz chs<=819200:=by
 unfold kz;split
 ·omega
 ·obtain⟨f,-,-,b,c⟩:=sJ g (by omega);have:=g.many;omega
theorem Dr{X:List Tw}{D:jL}{S:IxS}(dk:yH X D S)(ok:kV D S){n:Nat}(F:S.m.next=(n:Nat))(b:n<=999999){l:List jI}(j:kY l)(i:∀x∈l,mayE x=true)(u:∀x∈l,ks x)(g:l.length<=10000)(t:Tw)(hw:(kG D n l t).1=0):
  (tgL (rdW (kG D n l t).2 (ptT n)).1).length<=10000:=by
 have c:=Qa j i;obtain⟨H,v⟩:=dk.none_ ok;obtain⟨y,z⟩:=v n b (by omega);have C:=dk.many ok;by_cases o:j4 D.l+t.size+(tbB l).size+6000<=D.cap
 ·obtain⟨A,f,d⟩:=Cd dk.up (n:=n) b c (t:=t) (by omega) y z o;rw[f,(sq d.up.down (d.has (by omega) u c)).2];exact g
 ·rw[Cf dk.up (n:=n) b c (t:=t) (by omega)]at hw;exact absurd (show(60:Nat)=0 from hw) (by decide)
section
variable {At:j6}(api:j8 At){w0 w w':World}{gd gl gx r:Nat}{S S':IxS}{L:jq}{chs:List (List Tw)}{D D':jL}{E E' B N:List Nat}
theorem jw.lt(h:jw At w0 gd gl gx r S L chs D E w):∀b∈gl::E,b<w.1.size:=h.ix.lt
theorem jw.xL(api:j8 At)(h:jw At w0 gd gl gx r S L chs D E w)(i:jP B w w')(d:∀b∈B,b∈E/\w0.1.size<=b)(g:∀b∈E',b∈E∨(w.1.size<=b/\b<w'.1.size)):jw At w0 gd gl gx r S L chs D E' w':=by
 have l:=h.lt gl qC;have j:gl ∉ B:=fun f=>h.xD (d gl f).1
 refine⟨h.ix.xL api i (fun b c=>⟨qF _ (d b c).1,(d b c).2⟩) (fun b c=>?_),h.log.xC i j,fun f=>?_,h.low,h.ok,h.dk,h.xF,h.gl⟩
 ·rcases qM.1 c with e|k
  ·rw[e];exact qX qC
  ·exact(g b k).imp (qF _) id
 ·rcases g gl f with k|k
  ·exact h.xD k
  ·omega
theorem jw.below(api:j8 At)(h:jw At w0 gd gl gx r S L chs D E w)(c:Below w.1.size w w'):jw At w0 gd gl gx r S L chs D E w':=h.xL api (B:=[]) (jP.xA c) (fun b c=>by cases c) (fun b c=>qX c)
theorem jw.drew(api:j8 At)(h:jw At w0 gd gl gx r S L chs D E w):jw At w0 gd gl gx r S L chs D E w.drew:=h.below api (qG _ _).drew
theorem jw.less(h:jw At w0 gd gl gx r S L chs D E w)(c:∀b∈E',b∈E):jw At w0 gd gl gx r S L chs D E' w:=⟨h.ix.less (fun b d=>by
 rcases qM.1 d with e|k
 ·rw[e];exact qC
 ·exact qF _ (c b k)),h.log,fun f=>h.xD (c gl f),h.low,h.ok,h.dk,h.xF,h.gl⟩
theorem jw.more(api:j8 At)(h:jw At w0 gd gl gx r S L chs D E w)(c:Below w.1.size w w')(d:∀b∈B,w.1.size<=b/\b<w'.1.size):jw At w0 gd gl gx r S L chs D (B++E) w' :=
 h.xL api (B:=[]) (jP.xA c) (fun b c=>by cases c) (fun b c=>(qD.1 c).elim (fun k=>qY (d b k)) qX)
theorem jw.base(h:jw At w0 gd gl gx r S L chs D E w):Below w0.1.size w0 w:=h.ix.kept
theorem jw.chunks(h:jw At w0 gd gl gx r S L chs D E w):L.chunks<=200:=by rw[h.gl.x5];exact h.xF.many
theorem jw.from(h:jw At w0 gd gl gx r S L chs D E w)(hi:js At w0 gd gx r S' D' (gl::E) w')(c:jM (gl::E) w w')(ok:kV D' S')(dk:yH (bI chs.length) D' S')(g:ku D' chs)(f:D'.xB=D.xB):jw At w0 gd gl gx r S' L chs D' E w'/\jM E w w' :=
 ⟨⟨hi,c.xW h.log qC,h.xD,h.low,ok,dk,g,h.gl.zH f⟩,c.less (fun b d=>qF _ d)⟩
theorem jw.zY(h:jw At w0 gd gl gx r S L chs D E w)(k:Nat):ku { D with count:=k } chs:=h.xF.same (vM.count D k)
include api
theorem qV5(h:jw At w0 gd gl gx r S L chs D E w){x:jI}(b:ks x)(f:S.mem.length<=100000):Calls prog 89 #[ptr gx,ki x] w fun e w'=>e=.returned (err (mN x))/\jw At w0 gd gl gx r (fq S x) L chs D E w'/\jM E w w':=by
 refine(qKH api h.ix b f).mono ?_;rintro e w'⟨rfl,c,d⟩;refine⟨rfl,h.from c d ?_ ?_ h.xF rfl⟩
 ·unfold fq;split
  ·exact h.ok.add b (by assumption)
  ·exact h.ok
 ·unfold fq;split
  ·exact⟨h.dk.up,h.dk.nodup,h.dk.only,h.dk.x9,h.dk.xz⟩
  ·exact h.dk
variable (nap:kZ)
include nap
def qV6(At:j6)(w0:World)(gd gl gx r:Nat)(S:IxS)(L:jq)(chs:List (List Tw))(D:jL)(R:List jI)(E:List Nat)(w:World)(e:Ending)(w':World):Prop :=
 ∃A c k,k<=S.T.length/\e=.returned (.tuple #[.slice A R.length c,.int .i64 0])/\ju w' w.1.size (.slice A R.length c) R/\jw At w0 gd gl gx r S L chs { D with count:=D.count+k } (jS (.slice A R.length c)++E) w'/\jM E w w'
omit api nap in
theorem uV.count(h:uV D L chs)(k:Nat):uV { D with count:=k } L chs:=⟨h.xB,h.x5,h.endp,h.sure⟩
theorem qV7(iap:gq At)(h:jw At w0 gd gl gx r S L chs D E w)(hc:D.count<=900000000){n:Nat}(C:S.m.next=(n:Nat))(H:n<=999999)(hr:r<18446744073709551616)(hl:S.mem.length<=1000):
  Calls prog 36 #[ptr gx,ptr gl] w fun e w'=>∃k E' S',e=.returned (err k)/\jw At w0 gd gl gx r S' { L with sure:=L.endp } chs E' E w'/\jM E w w'/\Dp 2 D E' S S' /\
   ((k=0/\S.mem=[]/\S'=S/\dE D E'/\j4 E'.l=j4 D.l) ∨
    (k=0/\S.mem≠[]/\S'.mem=[]/\S'.m=kX S (kL S.m.lv n) (kz chs:Nat)/\S'.T.length=S.T.length+1/\(jT E'.l j7).map jO.data=some (mfB S'.m)/\j4 E'.l<=j4 D.l+28*S.mem.length+460) ∨
    (k=60/\S.mem≠[]/\S'=S/\dE D E'/\j4 E'.l<=j4 D.l/\(S.T.length=40∨D.cap<j4 D.l+28*S.mem.length+6460))):=by
 obtain⟨F,g,b,K⟩:=qQc h.xF h.gl
 have X:WfP F:=by
  have:=qV4 (L:=L) h.dk.up.wf;rw[g]at this;exact this
 have o:=h.ok.zl b;have v:=h.dk.same b X;have Z:=h.xF.same b;have ag:=sb h.xF;have ac:=h.gl.endp;have V:=h.ok.may
 obtain⟨J,W⟩:∃J:Nat,yU S.m.lv n=(J:Nat):=by
  rw[Ci V.2.2.2.2.1 (n:=(n:Nat)) (by omega) (fun x hx=>by have:=V.2.2.2.2.2 x hx;omega)];split
  ·exact⟨60,rfl⟩
  ·exact⟨0,rfl⟩
 have P:=qKu api nap iap h.ix h.log h.xD h.low h.dk.up.wf h.chunks (by rw[g];exact X) (by rw[g];exact v.up.down) (by rw[g];show F.count<=_;rw[K];omega) h.ok n C H hr hl J W
  (fun t I=>by rw[g];exact Dr v o C H o.xI o.mayE o.ok (by omega) t)
 rw[g]at P;refine P.mono ?_;rintro e w'⟨t,I,rfl,A,Q,hk⟩;simp only at A Q ⊢;obtain⟨k,E',S',y,M,f,O,gs,ae⟩:=qKw v o C H (by omega) t (en:=(kz chs:Nat)) (by omega) (by omega) W;rw[<-ac]at y M;rw[y,M]at A;rw[y];have ab:=f.xF Z;have hst:E'.xB=D.xB:=f.xB.trans b.xB;have aa:uV E' { L with sure:=L.endp } chs:=⟨hst.trans h.gl.xB,h.gl.x5,h.gl.endp,qK _⟩
 refine⟨k,E',S',rfl,⟨A,Q,h.xD,h.low,f.ok,f.dk,ab,aa⟩,hk,⟨f.cap.trans b.cap,hst,by rw[K]at O;exact O,f.has,f.xO,gs⟩, ?_⟩;have U:dE D F:=b.data j7;have ah:=rN S.mem;have hu:=b.used;have af:=b.cap;rcases ae with⟨i,c,j,d⟩|⟨i,c,j,d,u,Y,a7⟩|⟨i,c,j,d,u⟩
 ·refine qX ⟨i,c,j, ?_, ?_⟩
  ·rw[d];exact U
  ·rw[d];exact hu
 ·have z:bV S.mem r t:=by
   rcases I with q|q|q
   ·exact absurd q c
   ·exact absurd rfl q
   ·exact q
  have ad:=rR (by omega) z;refine qY (qX ⟨i,c,j,d,u, ?_,by omega⟩);rw[Y];rfl
 ·have z:bV S.mem r t:=by
   rcases I with q|q|q
   ·exact absurd q c
   ·exact absurd rfl q
   ·exact q
  have ad:=rR (by omega) z;have ai:=d.used;refine qY (qY ⟨i,c,j, ?_,by omega,u.imp id (fun q=>by omega)⟩);unfold dE;rw[d.files];exact U
theorem qV8(iap:gq At)(h:jw At w0 gd gl gx r S L chs D E w)(hc:D.count<=900000000){n:Nat}(u:S.m.next=(n:Nat))(v:n<=999999)(X:r<18446744073709551616)(Z:gD S<=40000)(lev:Int)(P:(vW S (kU S.m.lv lev)).length<=1000)(b:Nat)(z:vH S.m.lv lev=(b:Nat)):
  Calls prog 37 #[ptr gx,lev] w fun e w'=>∃k E' S',e=.returned (err k)/\jw At w0 gd gl gx r S' L chs E' E w'/\jM E w w'/\Dp 50 D E' S S'/\S'.m.check=S.m.check/\S'.mem=S.mem /\
   ((k=b/\b≠0/\S'=S/\dE D E'/\j4 E'.l=j4 D.l) ∨
    (k=0/\b=0/\S'.m=kX S (kh S.m.lv lev n) S.m.check/\S'.T.length<=S.T.length/\(jT E'.l j7).map jO.data=some (mfB S'.m)/\j4 E'.l<=j4 D.l+28*(vW S (kU S.m.lv lev)).length+460) ∨
    (k=60/\b=0/\S'=S/\dE D E'/\j4 E'.l<=j4 D.l/\D.cap<j4 D.l+28*(vW S (kU S.m.lv lev)).length+6460)):=by
 have W:=h.ok.may;have J:yL S.m.lv lev n=(b:Nat):=by rw[Co (by omega) (fun x hx=>by have:=W.2.2.2.2.2 x hx;omega),z]
 have ac:=h.ok.xS
 refine(qKl api nap iap h.ix h.dk.up.wf h.dk.up.down (by omega) h.ok n u v X Z lev P b z b J
  (fun k t U o=>Dr (D:={ D with count:=D.count+k }) (h.dk.count (D.count+k)) (h.ok.count (D.count+k)) u v (Qt h.ok _) (fun y A=>(pK h.ok _ y A).2) (fun y A=>(pK h.ok _ y A).1) (by omega) t)).mono ?_
 rintro e w'⟨t,k,U,o,rfl,I,V⟩;obtain⟨f,E',S',F,K,c,gc,gs,M,O,ab⟩:=qVQ h.dk h.ok u v (lev:=lev) (by omega) t k z J;rw[F,K]at I;rw[F];have Q:=c.xF h.xF;have H:=h.from I V c.ok c.dk Q c.xB;refine⟨f,E',S',rfl,H.1,H.2,⟨c.cap,c.xB,by omega,c.has,c.xO,gs⟩,M,O, ?_⟩;have ad:=rN (vW S (kU S.m.lv lev));rcases ab with⟨i,d,j,g⟩|⟨i,d,j,g,C,a6⟩|⟨i,d,j,g,C⟩
 ·exact qX ⟨i,d,j,by rw[g];exact dE.refl D,by rw[g]⟩
 ·have Y:=rR (by omega) (o.resolve_left (fun q=>q d));exact qY (qX ⟨i,d,j,g,by rw[C];rfl,by omega⟩)
 ·have Y:=rR (by omega) (o.resolve_left (fun q=>q d));have aa:=g.used;simp only at aa;refine qY (qY ⟨i,d,j, ?_,by omega,by omega⟩);exact congrArg (Option.map jO.data) (g.files j7)
theorem qV9(h:jw At w0 gd gl gx r S L chs D E w)(u:D.count<=1000000000)(m:gD S<=40000)(x:Nat)(n:x<18446744073709551616)(a b:Int)(o:(Lit.int .i64 a).wf=true)(t:(Lit.int .i64 b).wf=true):
  Calls prog 60 #[ptr gx,.int .u64 (x:Nat),a,.int .i64 b] w (qV6 At w0 gd gl gx r S L chs D (yF S x a b) E w):=by
 refine(qKg api nap h.ix h.ok h.dk.up.wf (by omega) h.dk.up.down m x n a b o t).mono ?_;rintro e w'⟨A,c,k,j,rfl,g,i,f⟩;refine⟨A,c,k,j,rfl,g,⟨i.less (fun b d=>?_),f.xW h.log qC,fun l=>?_,h.low,h.ok.count _,h.dk.count _,h.zY _,h.gl.count _⟩,f.less (fun b d=>qF _ d)⟩
 ·rcases qM.1 d with e|q
  ·rw[e];exact qJ _ qC
  ·rcases qD.1 q with q|q
   ·exact qW _ q
   ·exact qJ _ (qF _ q)
 ·rcases qD.1 l with q|q
  ·have:=g.lt gl (ja.1 q);have:=h.lt gl qC;omega
  ·exact h.xD q
theorem qVq(h:jw At w0 gd gl gx r S L chs D E w)(l:D.count<=1000000000)(f:gD S<=40000)(x:Nat)(g:x<18446744073709551616)(b:Int)(j:(Lit.int .i64 b).wf=true):
  Calls prog 86 #[ptr gx,.int .u64 (x:Nat),b] w fun e w'=>∃(z:Int) (k:Nat),k<=200/\ua (uU S) x (kA b) z/\e=.returned (.tuple #[z,.int .i64 0])/\jw At w0 gd gl gx r S L chs { D with count:=D.count+k } E w'/\jM E w w':=by
 refine(qV3 api nap h.ix h.ok h.dk.up.wf (by omega) h.dk.up.down f x g b j).mono ?_;rintro e w'⟨z,k,m,i,rfl,c,d⟩;have n:=h.ok.xS;exact⟨z,k,by omega,i,rfl,h.from c d (h.ok.count _) (h.dk.count _) (h.zY _) rfl⟩
theorem qVx(cap:v8)(h:jw At w0 gd gl gx r S L chs D E w)(p:Tw)(j:p.size<=2000):Calls prog 88 #[ptr gl,p] w fun e w' =>
  (e=.returned (.tuple #[.int .i64 0,.int .i64 60])/\jw At w0 gd gl gx r S L chs D E w'/\jM E w w') ∨
  ∃q D' M chs',e=.returned (.tuple #[.int .i64 (q:Nat),.int .i64 0])/\jw At w0 gd gl gx r S M chs' D' E w'/\jM E w w'/\mH D L chs p q D' M chs':=by
 have y:=h.dk.many h.ok;refine(h.ix.log api h.log h.xD h.low (fun c o m=>GK api nap cap o m h.dk.up.wf h.chunks p (qR j (by decide)))).mono ?_;rintro e w'⟨rfl,b,d,i⟩;rcases qQm h.xF h.gl p j (by omega) with q|⟨q,D',M,chs',g,f⟩
 ·rw[q]at b d;rw[q];exact qX ⟨rfl,⟨b,d,h.xD,h.low,h.ok,h.dk,h.xF,h.gl⟩,i⟩
 ·have u:WfP D':=by
   have:=GJ (L:=L) h.dk.up.wf p;rw[g]at this;exact this
  rw[g]at b d;rw[g]
  have t:(jt D').Nodup:=Cp (b.ds.xI api) (fun n=>by
   cases q:vT n n with
   | true=>exact absurd q (oc n)
   | false=>rfl)
  obtain⟨v,l⟩:=h.dk.app h.ok f u t;exact qY ⟨q,D',M,chs',rfl,⟨b,d,h.xD,h.low,v,l,f.xF,f.log⟩,i,f⟩
theorem qVz(cap:v8)(h:jw At w0 gd gl gx r S L chs D E w)(p:Tw)(i:p.size<=2000)(m:chs.length<=199)(y:j4 D.l+(p.size+24)+6000<=D.cap):Calls prog 88 #[ptr gl,p] w fun e w' =>
  ∃q D' M chs',e=.returned (.tuple #[.int .i64 (q:Nat),.int .i64 0])/\jw At w0 gd gl gx r S M chs' D' E w'/\jM E w w'/\mH D L chs p q D' M chs':=by
 have C:=h.dk.many h.ok;refine(h.ix.log api h.log h.xD h.low (fun c u o=>GK api nap cap u o h.dk.up.wf h.chunks p (qR i (by decide)))).mono ?_;rintro e w'⟨rfl,d,g,t⟩;obtain⟨q,D',M,chs',f,b⟩:=qQn h.xF h.gl p i (by omega) m y
 have z:WfP D':=by
  have:=GJ (L:=L) h.dk.up.wf p;rw[f]at this;exact this
 rw[f]at d g;rw[f]
 have v:(jt D').Nodup:=Cp (d.ds.xI api) (fun n=>by
  cases q:vT n n with
  | true=>exact absurd q (oc n)
  | false=>rfl)
 obtain⟨A,j⟩:=h.dk.app h.ok b z v;exact⟨q,D',M,chs',rfl,⟨d,g,h.xD,h.low,A,j,b.xF,b.log⟩,t,b⟩
theorem qVj(cap:v8)(h:jw At w0 gd gl gx r S L chs D E w)(m:D.count<=900000000){q:Nat}{p:Tw}(l:(q,p)∈jR 0 chs):Calls prog 80 #[ptr gl,q] w fun e w'=>e=.returned (.tuple #[p,.int .i64 0])/\jw At w0 gd gl gx r S L chs { D with count:=D.count+2 } E w'/\jM E w w':=by
 obtain⟨d,n⟩:=qQp h.xF h.gl l;refine(h.ix.log api h.log h.xD h.low (fun c j f=>Jb api nap j f h.dk.up.wf (by omega) (q:Nat) (dS (by omega)) h.chunks)).mono ?_;rintro e w'⟨rfl,b,g,i⟩;rw[d]at b;rw[d];exact⟨rfl,⟨b,g,h.xD,h.low,h.ok.count _,h.dk.count _,h.zY _,h.gl.count _⟩,i⟩
def XU: Option (Nat × Tw)->Value
 | none=>.tuple #[.string ByteArray.empty,.int .i64 0,.int .i64 0,.int .i64 4]
 | some x=>.tuple #[x.2,x.1,.int .i64 ((x.1+(x.2.size+12):Nat):Int),.int .i64 0]
theorem KL(cap:v8)(h:jw At w0 gd gl gx r S L chs D E w)(t:D.count<=900000000)(pos:Nat)(o:pos<=9223372036854775807):Calls prog 43 #[ptr gl,pos] w fun e w'=>∃k,k<=D.count+200/\e=.returned (XU ((jR 0 chs).find? fun x=>decide (pos<=x.1)))/\jw At w0 gd gl gx r S L chs { D with count:=k } E w'/\jM E w w':=by
 obtain⟨k,l,d⟩:=qQs h.xF h.gl pos;refine(h.ix.log api h.log h.xD h.low (fun c n g=>qQC api nap cap n g h.dk.up.wf (by omega) (pos:Nat) (dS o) h.chunks)).mono ?_;rintro e w'⟨rfl,b,i,m⟩;rw[d]at b;rw[d]
 have f:(lF (jR 0 chs) (pos:Nat) { D with count:=k }).D={ D with count:=k }:=by
  unfold lF;split<;>rfl
 rw[f]at b;refine⟨k,l, ?_,⟨b,i,h.xD,h.low,h.ok.count _,h.dk.count _,h.zY _,h.gl.count _⟩,m⟩
 have j:(jR 0 chs).find? (fun x=>decide (((pos:Nat):Int)<=(x.1:Int)))=(jR 0 chs).find? (fun x=>decide (pos<=x.1)):=by
  congr 1;funext x;exact decide_eq_decide.2 (by omega)
 unfold lF;rw[j];cases (jR 0 chs).find? (fun x=>decide (pos<=x.1))<;>rfl
end
theorem qVk{w:World}{u:Value}{l:List jd}(h:vr w u l):∃A c,u=.slice A l.length c:=by
 rcases h with⟨rfl,a,c,rfl⟩|⟨-,b,off,cap,rfl,-⟩
 ·exact⟨a,c,rfl⟩
 ·exact⟨_,cap,rfl⟩
theorem Dt(seed:Nat)(x:Rec):(yV seed x).length=(bgL x.2).length:=by unfold yV;rw[qq,List.length_range]
theorem XG{seed q:Nat}{p:Tw}{k:Nat}(b:k<(bgL p).length):(yV seed (q,p))[k]? = some ⟨kx seed (bgS p).data.toList,bgF p+(k:Nat),(q:Nat)⟩:=by
 unfold yV;rw[qv,List.getElem?_range b];rfl
theorem qVv{b:List jI}{j:Nat}{x:jI}(h:b[j]? = some x)(y:jI):y∈b.take (j+1)↔y∈b.take j∨y=x:=by
 rw[xQ,h];simp
structure lS(seed q:Nat)(p:Tw)(k:Nat)(S S':IxS):Prop where
 m:S'.m=S.m
 T:S'.T=S.T
 len:S'.mem.length<=S.mem.length+k
 mem:∀y,y∈S'.mem↔y∈S.mem∨y∈(yV seed (q,p)).take k
theorem lS.zero(seed q:Nat)(p:Tw)(S:IxS):lS seed q p 0 S S:=⟨rfl,rfl,qK _,fun y=>by simp⟩
section
variable {At:j6}(api:j8 At){w0 w:World}{gd gl gx r seed q k:Nat}{S S':IxS}{L:jq}{chs:List (List Tw)}{D:jL}{E:List Nat}{p:Tw}
include api in
theorem Da(h:jw At w0 gd gl gx r S' L chs D E w)(c:lS seed q p k S S'){b:Nat}{v:Int}(l:(yV seed (q,p))[k]? = some ⟨b,v,(q:Nat)⟩)(ok:ks ⟨b,v,(q:Nat)⟩)(g:mayE ⟨b,v,(q:Nat)⟩=true)(t:S.mem.length+k<=100000):
  Calls prog 89 #[ptr gx,.agg #[.int .u64 (b:Nat),v,q]] w fun e w'=>e=.returned (.int .i64 0)/\∃f,jw At w0 gd gl gx r f L chs D E w'/\jM E w w'/\lS seed q p (k+1) S f:=by
 have o:=c.len;refine(qV5 api h ok (by omega)).mono ?_;rintro e w'⟨rfl,d,n⟩;have i:mN ⟨b,v,(q:Nat)⟩=0:=by unfold mN;rw[qV g]
 have j:fq S' ⟨b,v,(q:Nat)⟩={ S' with mem:=vp S'.mem ⟨b,v,(q:Nat)⟩ }:=by unfold fq;rw[qV g]
 rw[i];rw[j]at d;refine⟨rfl,_,d,n,⟨c.m,c.T, ?_,fun y=>?_⟩⟩
 ·have:=Og S'.mem ⟨b,v,(q:Nat)⟩;show(vp _ _).length<=_;omega
 ·show y∈vp _ _↔_;rw[RK,c.mem,qVv l,or_assoc]
include api in
theorem qVy(h:jw At w0 gd gl gx r S L chs D E w)(hs:seed<18446744073709551616)(hw:vZ p=true)(hz:p.size<=2000)(hq:q<=2147483647)(hn:S.mem.length<=90000):
  Calls prog 136 #[ptr gx,.int .u64 (seed:Nat),p,q] w fun e w'=>e=.returned (.int .i64 0)/\∃S',jw At w0 gd gl gx r S' L chs D E w'/\jM E w w'/\lS seed q p (bgL p).length S S':=by
 obtain⟨-,-,-,Y,-,hb⟩:=dY hw;obtain⟨c1,c2,c3,c4,c5,c6,-⟩:=bc.1 hb
 have U:Hid (Calls prog 95 #[p] w fun e w'=>∃A c,e=.returned (.tuple #[.agg #[.string (bgS p),.int .i64 (bgF p),.slice A (bgL p).length c],.int .i64 0])/\Below w.1.size w w'):=qQ ((Tx p w (by omega)).mono fun e w' hg=>by
  obtain⟨u,rfl,hu,l⟩:=hg;obtain⟨A,c,rfl⟩:=qVk hu;rw[Y];exact⟨A,c,rfl,l⟩)
 have HH:=qQ (fun W=>Vi seed (bgS p) W hs (by unfold maxLen;omega));have ad:=qQ (fun k (I:k<(bgL p).length)=>qU (XG (seed:=seed) (q:=q) I) (Dj (seed:=seed) (x:=(q,p)) hw hq _ (qN (XG I))));have X:=qQ h;generalize bgS p=s at*;generalize bgF p=f at*;generalize (bgL p).length=n at*;generalize kx seed s.data.toList=hh at*;clear h hw hb Y c1 c2 hs hz hq;go_enter func136,ntmps136;go_wp2_with fail;refine U.out.mono ?_;rintro e g⟨A,c,rfl,l⟩;have F:=(qG g.1.size g).alloc (qK _) (.cells #[s,f,.slice A n c] 92);have j:=jN.new g 92 #[s,f,.slice A n c];have z:=X.out.below api l;have C:=z.more api F (B:=[g.1.size]) (fun x b=>by rw[qH.1 b];exact⟨qK _,j.lt⟩);have J:=(jM.xA l (fun x b=>X.out.lt x (qF _ b)):jM E w g).trans (jM.xA F (fun x b=>z.lt x (qF _ b)));obtain⟨w2,af⟩:∃w2,g.alloc (.cells #[s,f,.slice A n c] 92)=w2:=⟨_,rfl⟩
 rw[af]at j C J;have k0:=j.cell 0;have k2:=j.cell 2;have P:=qQ C;have V:=qQ J;have T:=qQ j;clear F j z C J l U;go_wp2_with fail;refine X5 (HH.out _) ?_;go_wp2;go_loopw [28] (fun i wr=>∃(k:Nat) (S':IxS),k<=n/\i=.int .i64 k/\jw At w0 gd gl gx r S' L chs D ([g.1.size]++E) wr/\jM E w wr/\jN wr g.1.size 92 #[s,f,.slice A n c]/\lS seed q p k S S') (fun i _=>n-(intOf i).toNat)
 case atStart=>exact⟨0,S,qI _,rfl,P.out,V.out,T.out,lS.zero seed q p S⟩
 case round =>
  obtain⟨k,S',I,rfl,y,t,o,m⟩:=hrel;by_cases ab:k<n
  ·have s1:(k:Int)<(n:Int):=(by omega);obtain⟨H,M,K⟩:=ad.out k ab;have k1:=o.cell 1;obtain⟨v,hv⟩:∃v,v=f+(k:Int):=⟨_,rfl⟩
   rw[show(f+((k:Nat):Int))=v from hv.symm]at H M K;have Q:=qQ (Da api y m H M K (by omega));have ew:IntKind.i64.wrap (f+(k:Int))=v:=(by rw[IntKind.wrap_i64];omega);have ae:=qQ t;have ac:=qQ o;clear y t o m H M K hv P V T k0 k2;go_wp2_with fail;refine Q.out.mono ?_;rintro e w3⟨rfl,S2,Z,O,aa⟩;have d:=qQ (qU Z (qU aa (qU (ae.out.trans (O.less (fun x b=>qJ _ b))) (O.xW ac.out (qW _ qC)))));clear Z O aa Q k1;go_wp2;go_roundw
   case rel=>exact⟨k+1,S2,by omega,by go_num,d.out.1,d.out.2.2.1,d.out.2.2.2,d.out.2.1⟩
   case measure=>simp[intOf];omega
  ·obtain rfl:k=n:=(by omega);have s1:¬(k:Int)<(k:Int):=(by omega);have d:=qQ (qU (y.less (fun x b=>qJ _ b):jw At w0 gd gl gx r S' L chs D E wr) (qU t m));clear y t o m ab;go_wp2;go_ret;exact⟨rfl,S',d.out.1,d.out.2.1,d.out.2.2⟩
end
end
section
open Go.RowKit Go.Shelf
attribute [local go_sem] dK
theorem De: (prog.info? 73).map (·.size)=some 4:=by kernel_rfl
theorem qVu(d:Nat)(p:Addr)(w:World):(Op.equalIn (d+1) 32 (.pointer (some p)) (.pointer (some p))).run prog w=.ok true w:=by
 cases b:prog.info? 73 with
 | none=>have:=De;rw[b]at this;cases this
 | some i =>
   have c:i.size=4:=(by have:=De;rw[b]at this;simpa using this);simp[Op.equalIn,run_underlying Tryz.underlying32,sizeOf,typeInfo,b,sameAddr]
theorem qVg(p:Addr)(w:World):(binOp .neq 32 (.pointer (some p)) (.pointer (some p))).run prog w=.ok (.bool false) w:=by
 have b:(Op.equal 32 (.pointer (some p)) (.pointer (some p))).run prog w=.ok true w:=qVu 9999 p w;simp only[binOp];simp[b]
theorem pF{w:World}{g:Nat}(h:w.cell? ⟨g,0,none⟩=some (ptr g)):Calls prog 30 #[ptr g] w (X0 (.bool false) w):=by
 have b:=qVg ⟨g,0,none⟩;go_enter func30,ntmps30;go_wp2;go_ret;exact⟨rfl,rfl⟩
abbrev qVb(gs gl gx seed:Nat):Array Value:=#[ptr gs,ptr gl,ptr gx,.int .u64 (seed:Nat)]
structure jg(At:j6)(w0:World)(gd gl gx gs r seed:Nat)(S:IxS)(L:jq)(chs:List (List Tw))(D:jL)(E:List Nat)(w:World):Prop where
 sx:jw At w0 gd gl gx r S L chs D (gs::E) w
 st:jN w gs 73 (qVb gs gl gx seed)
 xD:gs ∉ E
 low:w0.1.size<=gs
 rb:uo seed S chs
 vs:uE (jn (jR 0 chs))
 sd:seed<18446744073709551616
section
variable {At:j6}{w0 w w':World}{gd gl gx gs r seed:Nat}{S S':IxS}{L L':jq}{chs chs':List (List Tw)}{D D':jL}{E E' B G:List Nat}
theorem jg.lt(h:jg At w0 gd gl gx gs r seed S L chs D E w):∀b∈E,b<w.1.size:=fun b c=>h.sx.lt b (qF _ (qF _ c))
theorem jg.xL(api:j8 At)(h:jg At w0 gd gl gx gs r seed S L chs D E w)(i:jP B w w')(d:∀b∈B,b∈E/\w0.1.size<=b)(g:∀b∈E',b∈E∨(w.1.size<=b/\b<w'.1.size)):jg At w0 gd gl gx gs r seed S L chs D E' w':=by
 have j:=h.st.lt;refine⟨h.sx.xL api i (fun b c=>⟨qF _ (d b c).1,(d b c).2⟩) (fun b c=>?_),h.st.xC i (fun f=>h.xD (d gs f).1),fun f=>?_,h.low,h.rb,h.vs,h.sd⟩
 ·rcases qM.1 c with e|k
  ·rw[e];exact qX qC
  ·exact(g b k).imp (qF _) id
 ·rcases g gs f with k|k
  ·exact h.xD k
  ·omega
theorem jg.below(api:j8 At)(h:jg At w0 gd gl gx gs r seed S L chs D E w)(c:Below w.1.size w w'):jg At w0 gd gl gx gs r seed S L chs D E w':=h.xL api (B:=[]) (jP.xA c) (fun b c=>by cases c) (fun b c=>qX c)
theorem jg.drew(api:j8 At)(h:jg At w0 gd gl gx gs r seed S L chs D E w):jg At w0 gd gl gx gs r seed S L chs D E w.drew:=h.below api (qG _ _).drew
theorem jg.less(h:jg At w0 gd gl gx gs r seed S L chs D E w)(c:∀b∈E',b∈E):jg At w0 gd gl gx gs r seed S L chs D E' w:=⟨h.sx.less (fun b d=>by
 rcases qM.1 d with e|k
 ·rw[e];exact qC
 ·exact qF _ (c b k)),h.st,fun f=>h.xD (c gs f),h.low,h.rb,h.vs,h.sd⟩
theorem jg.more(api:j8 At)(h:jg At w0 gd gl gx gs r seed S L chs D E w)(c:Below w.1.size w w')(d:∀b∈B,w.1.size<=b/\b<w'.1.size):jg At w0 gd gl gx gs r seed S L chs D (B++E) w' :=
 h.xL api (B:=[]) (jP.xA c) (fun b c=>by cases c) (fun b c=>(qD.1 c).elim (fun k=>qY (d b k)) qX)
theorem jg.base(h:jg At w0 gd gl gx gs r seed S L chs D E w):Below w0.1.size w0 w:=h.sx.base
theorem jg.xg(h:jg At w0 gd gl gx gs r seed S L chs D E w)(b:Below w.1.size w w'):jM E w w':=jM.xA b h.lt
theorem jg.step(h:jg At w0 gd gl gx gs r seed S L chs D E w)(hi:jw At w0 gd gl gx r S' L' chs' D' (gs::E) w')(c:jM (gs::E) w w')(f:uo seed S' chs')(g:uE (jn (jR 0 chs'))):jg At w0 gd gl gx gs r seed S' L' chs' D' E w'/\jM E w w' :=
 ⟨⟨hi,c.xW h.st qC,h.xD,h.low,f,g,h.sd⟩,c.less (fun b d=>qF _ d)⟩
theorem jg.stepG(h:jg At w0 gd gl gx gs r seed S L chs D E w)(hi:jw At w0 gd gl gx r S L' chs D' (G++(gs::E)) w')(d:jM (gs::E) w w')(f:∀b∈G,w.1.size<=b):jg At w0 gd gl gx gs r seed S L' chs D' (G++E) w'/\jM E w w':=by
 have i:=h.st.lt;refine⟨⟨hi.less (fun b c=>?_),d.xW h.st qC,fun g=>?_,h.low,h.rb,h.vs,h.sd⟩,d.less (fun b c=>qF _ c)⟩
 ·rcases qM.1 c with e|q
  ·rw[e];exact qJ _ qC
  ·rcases qD.1 q with q|q
   ·exact qW _ q
   ·exact qJ _ (qF _ q)
 ·rcases qD.1 g with q|q
  ·have:=f gs q;omega
  ·exact h.xD q
theorem jg.cells(h:jg At w0 gd gl gx gs r seed S L chs D E w):w.cell? ⟨gs,0,none⟩=some (ptr gs)/\w.cell? ⟨gs,1,none⟩=some (ptr gl)/\w.cell? ⟨gs,2,none⟩=some (ptr gx)/\w.cell? ⟨gs,3,none⟩=some (.int .u64 (seed:Nat)):=⟨h.st.cell 0,h.st.cell 1,h.st.cell 2,h.st.cell 3⟩
theorem mz(seed:Nat):∀(l:List Rec),(∀x∈l,vZ x.2=true)->(yI seed l).length<=8*l.length
 | [],_=>qK _
 | x::l,h=>by
   have ih:=mz seed l (fun y c=>h y (qF _ c));have e:yI seed (x::l)=yV seed x++yI seed l:=rfl;rw[e,qL,qu];obtain⟨-,-,-,-,-,b⟩:=dY (h x qC);obtain⟨-,-,-,d,-⟩:=bc.1 b;have:(yV seed x).length=(bgL x.2).length:=(by unfold yV;rw[qq,List.length_range]);omega
theorem jg.len(h:jg At w0 gd gl gx gs r seed S L chs D E w):S.mem.length<=8*(jR 0 chs).length/\(∀t∈S.T,t.l.length<=8*(jR 0 chs).length)/\(∀ns,(vW S ns).length<=8*(jR 0 chs).length)/\gD S<=328*(jR 0 chs).length:=by
 have m:=mz seed (jR 0 chs) h.rb.whole;obtain⟨A,rfl⟩:∃A,A=yI seed (jR 0 chs):=⟨_,rfl⟩
 have f:=h.rb.has;have ok:=h.sx.ok;have v:S.mem.length<=(yI seed (jR 0 chs)).length:=lO ok.xI (fun x d=>(f x).1 (qX d));have g:∀t∈S.T,t.l.length<=(yI seed (jR 0 chs)).length:=fun t b=>lO (ok.has t b).props.1 (fun x d=>(f x).1 (qY ⟨t,b,d⟩))
 refine⟨by omega,fun t b=>by have:=g t b;omega,fun ns=>qR (lO (Qt ok ns) (fun x d=>?_)) m, ?_⟩
 ·obtain⟨t,b,-,d⟩:=sM.1 d;exact(f x).1 (qY ⟨t,b,d⟩)
 ·have i:∀(c:Nat) (T:List TbS),(∀t∈T,t.l.length<=c)->vX (T.map TbS.l)<=T.length*c:=by
   intro c T
   induction T with
   | nil=>intro _;exact Nat.le_of_eq (by simp[vX])
   | cons t T o =>
     intro h;rw[List.map_cons,bG,qu,Nat.add_mul];have:=o (fun u n=>h u (qF _ n));have:=h t qC;omega
  have y:=i (8*(jR 0 chs).length) S.T (fun t b=>by have:=g t b;omega);have j:=ok.xS;have z:S.T.length*(8*(jR 0 chs).length)<=40*(8*(jR 0 chs).length):=Nat.mul_le_mul_right _ j;unfold gD;omega
theorem jg.xI(h:jg At w0 gd gl gx gs r seed S L chs D E w):bC (jR 0 chs):=(lH chs 0 (fun c b=>(h.sx.xF.small c b).1)).1
theorem XW{l:List Rec}(hw:∀x∈l,vZ x.2=true):∀x∈jn l,0<=x.v/\x.v<=1073741823:=by
 intro x c;obtain⟨j,g,c⟩:=xV.1 c;obtain⟨i,b⟩:=ql c;unfold uN at b;rw[mS]at b;obtain⟨y,f,rfl⟩:=xG.1 b;have o:=(qO.1 f).1;obtain⟨-,-,-,-,-,d⟩:=dY (hw j g);obtain⟨-,-,-,-,m,n,-⟩:=bc.1 d;simp only;omega
end
section
variable {At:j6}(api:j8 At)(nap:kZ){w0 w w':World}{gd gl gx gs r seed:Nat}{S S':IxS}{L L':jq}{chs chs':List (List Tw)}{D D':jL}{E E' B G:List Nat}
theorem KM{gs seed:Nat}{w:World}(h:w.cell? ⟨gs,3,none⟩=some (.int .u64 (seed:Nat)))(b:seed<18446744073709551616)(s:Tw)(c:s.size<=maxLen):Calls prog 61 #[ptr gs,s] w (X0 (.int .u64 (kx seed s.data.toList:Nat)) w):=by
 have d:=qQ (fun W=>Vi seed s W b c);clear c b;generalize kx seed s.data.toList=f at*;go_enter func61,ntmps61;go_wp2_with fail;refine X5 (d.out _) ?_;go_wp2;go_ret;exact⟨rfl,rfl⟩
include api nap in
theorem qVc(h:jw At w0 gd gl gx r S L chs D E w)(m:D.count<=900000000):Calls prog 80 #[ptr gl,.int .i64 (-1)] w fun e w'=>e=.returned (.tuple #[.string ByteArray.empty,.int .i64 4])/\jw At w0 gd gl gx r S L chs D E w'/\jM E w w':=by
 have d:lr D L (-1)=(ByteArray.empty,4,D):=by
  unfold lr
  have f:vu D L=0:=by
   unfold vu;rw[qZ (by rw[h.dk.up.down];decide),qV h.gl.xB]
  rw[qZ (by simp[f]),qV (qX (by omega))]
 refine(h.ix.log api h.log h.xD h.low (fun c l g=>Jb api nap l g h.dk.up.wf (by omega) (-1) (by decide) h.chunks)).mono ?_;rintro e w'⟨rfl,b,i,j⟩;rw[d]at b;rw[d];exact⟨rfl,⟨b,i,h.xD,h.low,h.ok,h.dk,h.xF,h.gl⟩,j⟩
include api nap in
theorem qVd(h:jg At w0 gd gl gx gs r seed S L chs D E w)(i:D.count<=900000000):Calls prog 59 #[ptr gs] w fun e w'=>e=.returned (.int .i64 0)/\jg At w0 gd gl gx gs r seed S L chs D E w'/\jM E w w':=by
 obtain⟨c0,c1,c2,l⟩:=h.cells;have c:=qQ (qVc api nap h.sx i);have d:=qQ (fun f (m:jw At w0 gd gl gx r S L chs D (gs::E) f) (n:jM (gs::E) w f)=>h.step m n h.rb h.vs);clear h c0 c2 l i;go_enter func59,ntmps59;go_wp2_with fail;refine c.out.mono ?_;rintro e o⟨rfl,g,j⟩;have b:=qQ (d.out o g j);clear g j c d;go_wp2;go_ret;exact⟨rfl,b.out.1,b.out.2⟩
end
end
section
open Go.RowKit Go.Shelf
structure ke(At:j6)(w0:World)(gd gl:Nat)(L:jq)(chs:List (List Tw))(D:jL)(E:List Nat)(w:World):Prop where
 st:fx At w0 gd gl L D E w
 fl:dt (bI chs.length) D
 xF:ku D chs
 gl:uV D L chs
structure gu(At:j6)(w0:World)(gd gl gx r:Nat)(S:IxS)(L:jq)(chs:List (List Tw))(D:jL)(E:List Nat)(w:World):Prop where
 ix:js At w0 gd gx r S D (gl::E) w
 log:jN w gl 130 (gW (ptr gl) gd L)
 xD:gl ∉ E
 low:w0.1.size<=gl
 ok:kV D S
 fl:dt (bI chs.length) D
 xF:ku D chs
 gl:uV D L chs
theorem qVf{D:jL}(h:WfP D):WfP (gO D).2.1:=by
 unfold gO;refine QM (QM (BJ h) (fun E _ c=>c)) (fun E L c=>?_);unfold fC
 have:∀(k n:Nat) (E:jL) (L:jq),WfP E->WfP (uT k n E L).2.1:=by
  intro k
  induction k with
  | zero=>intro n E L c;exact c
  | succ k l =>
    intro n E L c;have b:=ZH c (nmC n);unfold uT;split
    ·exact b
    ·split
     ·exact b
     ·split
      ·unfold lZ;split
       ·exact dM b _
       ·split
        ·show WfP (mQ _ _ _).2
         have g:∀(a:Nat × jL) (f:jL->Nat × jL),WfP a.2->(∀D,WfP D->WfP (f D).2)->WfP (fB a f).2:=by
          intro a f i j;unfold fB;split
          ·exact j _ i
          ·exact i
         exact g _ _ (g _ _ (g _ _ (lj b _) (fun D d=>lk d _ _)) (fun D d=>mr d _)) (fun D d=>Xu d _ _)
        ·exact mr b _
      ·split
       ·exact b
       ·exact l _ _ _ b
 exact this _ _ _ _ c
section
variable {At:j6}(api:j8 At){w0 w w':World}{gd gl gx r:Nat}{S S':IxS}{L:jq}{chs:List (List Tw)}{D D':jL}{E E' B N:List Nat}
theorem ke.lt(h:ke At w0 gd gl L chs D E w):∀b∈gl::E,b<w.1.size:=h.st.1.lt
theorem ke.xL(api:j8 At)(h:ke At w0 gd gl L chs D E w)(i:jP B w w')(d:∀b∈B,b∈E/\w0.1.size<=b)(g:∀b∈E',b∈E∨(w.1.size<=b/\b<w'.1.size)):ke At w0 gd gl L chs D E' w':=by
 have l:=h.lt gl qC;have j:gl ∉ B:=fun f=>h.st.2.2.1 (d gl f).1
 refine⟨⟨h.st.1.xL api i (fun b c=>⟨qF _ (d b c).1,(d b c).2⟩) (fun b c=>?_),h.st.2.1.xC i j,fun f=>?_,h.st.2.2.2⟩,h.fl,h.xF,h.gl⟩
 ·rcases qM.1 c with e|k
  ·rw[e];exact qX qC
  ·exact(g b k).imp (qF _) id
 ·rcases g gl f with k|k
  ·exact h.st.2.2.1 k
  ·omega
theorem ke.below(api:j8 At)(h:ke At w0 gd gl L chs D E w)(c:Below w.1.size w w'):ke At w0 gd gl L chs D E w':=h.xL api (B:=[]) (jP.xA c) (fun b c=>by cases c) (fun b c=>qX c)
theorem ke.from(h:ke At w0 gd gl L chs D E w){G:List Nat}(hi:DS At w0 gd D' (G++(gl::E)) w')(d:jM (gl::E) w w')(f:gl ∉ G)(fl:dt (bI chs.length) D')(g:ku D' chs)(j:D'.xB=D.xB):ke At w0 gd gl L chs D' (G++E) w'/\jM E w w' :=
 ⟨⟨⟨hi.less (fun b c=>by
   rcases qM.1 c with e|q
   ·rw[e];exact qJ _ qC
   ·rcases qD.1 q with q|q
    ·exact qW _ q
    ·exact qJ _ (qF _ q)),d.xW h.st.2.1 qC,fun i=>(qD.1 i).elim f h.st.2.2.1,h.st.2.2.2⟩,fl,g,h.gl.zH j⟩,d.less (fun b c=>qF _ c)⟩
theorem ke.count(h:ke At w0 gd gl L chs D E w)(k:Nat):dt (bI chs.length) { D with count:=k }/\ku { D with count:=k } chs:=⟨h.fl.count k,h.xF.same (vM.count D k)⟩
theorem qVh(iap:gq At)(h:ke At w0 gd gl L chs D E w)(O:D.count<=900000000):Calls prog 132 #[ptr gd] w fun e w' =>
  ∃(d g:Int) (b:Nat) (A:Option Addr) (n c:Nat) (R:LvL) (j:Nat),e=.returned (.tuple #[kD d g b (.slice A n c),.int .i64 (yM D)])/\kK D=⟨d,g,b,R⟩/\n=R.length/\km w' (.slice A n c) R/\R.length<=300/\R.flatten.length<=100000/\b<18446744073709551616/\j<=1/\ke At w0 gd gl L chs { D with count:=D.count+j } E w'/\jM E w w':=by
 refine(iap.load h.st.1 h.fl.up.wf (by omega)).mono ?_;rintro e w'⟨d,g,b,A,n,c,R,rfl,t,u,v,y,z,C,i,F⟩
 have I:∃j,j<=1/\cM D={ D with count:=D.count+j }:=by
  unfold cM;cases q:jT D.l j7 with
  | none=>rw[mi h.fl.up.down q];exact⟨0,by omega,rfl⟩
  | some f=>rw[lu h.fl.up.down q];exact⟨1,by omega,rfl⟩
 obtain⟨j,H,e⟩:=I;rw[e]at i;obtain⟨K,M⟩:=h.count (D.count+j);obtain⟨m,o⟩:=h.from (G:=[]) (D':={ D with count:=D.count+j }) i F (fun J=>by cases J) K M rfl;exact⟨d,g,b,A,n,c,R,j,rfl,t,u,v,y,z,C,H,m,o⟩
include api
theorem qVl(h:ke At w0 gd gl L chs D E w)(n:Tw)(z:isC n=false)(H:n.size<=maxLen):Calls prog 125 #[ptr gd,n] w fun e w' =>
  ∃f D',e=.returned (err f)/\cO f=true/\ke At w0 gd gl L chs D' E w'/\jM E w w'/\kc D D'/\j4 D'.l<=j4 D.l/\(∀k,k∈jt D'↔k∈jt D/\k≠n)/\∀k,k≠n->jT D'.l k=jT D.l k:=by
 refine(h.st.1.xE api (fun F hF=>api.delete n hF h.fl.up.wf.ok H)).mono ?_;rintro e w'⟨rfl,g,b⟩;obtain⟨f,D',d,u,u1,j,I,m,c,i⟩:=Qw h.fl.up h.fl.nodup n;rw[d]at g;rw[d];have A:∀k,isC k=true->k≠n:=fun k b e=>by rw[e,z]at b;cases b
 have v:=Dx h.xF u1 (fun k b=>((c k).1 b).1) (fun k b=>i k (A k b));obtain⟨o,t⟩:=h.from (G:=[]) g b (fun y=>by cases y) ⟨u1,m,fun q C=>h.fl.only q ((c q).1 C).1,h.fl.x9,h.fl.xz⟩ v j.xB;exact⟨f,D',rfl,u,o,t,j,I,c,i⟩
theorem Di(nap:kZ)(h:ke At w0 gd gl L chs D E w)(hc:D.count<=900000000){n c:Int}{d:Nat}{A:Option Addr}{cp:Nat}{R:LvL}(f:kF ⟨n,c,d,R⟩)(U:d<18446744073709551616)(Y:km w (.slice A R.length cp) R)(X:∀x∈R.flatten,kS D x=0->(tgL (rdW D (ptT x)).1).length<=10000)(r:Nat):
  Calls prog 133 #[ptr gd,kD n c d (.slice A R.length cp),.float .f64 r] w fun e w' =>
   (∃gx T j,e=.returned (.tuple #[ptr gx,.int .i64 0])/\T.map (fun t=>(t.n:Int))=R.flatten/\(∀t∈T,vo D t.n t.l)/\j<=80/\gu At w0 gd gl gx r ⟨⟨n,c,d,R⟩,T,[]⟩ L chs { D with count:=D.count+j } E w'/\jM E w w') ∨
   (∃x j,x∈R.flatten/\kS D x≠0/\j<=80/\e=.returned (.tuple #[.pointer none,err (kS D x)])/\ke At w0 gd gl L chs { D with count:=D.count+j } E w'/\jM E w w'):=by
 have M:=f.2.2.2.2.1.2.1;simp only at M;refine(qV0 api nap (r:=r) h.st.1 h.fl.up.wf h.fl.up.down (by omega) Y f X).mono ?_;rintro e w' (⟨gx,T,j,rfl,O,o,z,v,i⟩|⟨x,j,Z,V,z,rfl,v,i⟩)
 ·have u:T.map (fun t=>(t.n:Int))=R.flatten:=O;have C:j<=80:=by simp only at z;omega
  have W:kV { D with count:=D.count+j } ⟨⟨n,c,d,R⟩,T,[]⟩:=by
   refine⟨f,U,fun y=>?_, ?_,fun t g=>(o t g).1.count _,fun t g=>(o t g).2,List.Pairwise.nil,(fun y F=>by cases F),(fun y F=>by cases F)⟩
   ·show y∈R.flatten↔∃t∈T,(t.n:Int)=y;rw[<-u,qP]
   ·show(T.map TbS.n).Nodup;have m:R.flatten.Nodup:=f.2.2.2.2.1.2.2.2;rw[<-u]at m;unfold List.Nodup at m ⊢;rw[List.pairwise_map]at m ⊢;exact m.imp fun {a b} P e=>P (by omega)
  obtain⟨H,I⟩:=h.count (D.count+j);exact qX ⟨gx,T,j,rfl,u,fun t g=>(o t g).1,C,⟨v,i.xW h.st.2.1 qC,h.st.2.2.1,h.st.2.2.2,W,H,I,h.gl.count _⟩,i.less (fun b Q=>qF _ Q)⟩
 ·have C:j<=80:=by simp only at z;omega
  obtain⟨H,I⟩:=h.count (D.count+j);obtain⟨J,K⟩:=h.from (G:=[]) (D':={ D with count:=D.count+j }) v i (fun f=>by cases f) H I rfl;exact qY ⟨x,j,Z,V,C,rfl,J,K⟩
omit api in
theorem qVm(iap:gq At)(h:gu At w0 gd gl gx r S L chs D E w){n c:Int}{d:Nat}{A:Option Addr}{k cp:Nat}{R:LvL}{G:List Nat}(C:∀b∈G,b∈gl::E)(M:gz w (.slice A k cp) R G)(g:k=R.length)(t:R.flatten=S.m.lv.flatten)(F:R.length<=100000):
  Calls prog 83 #[ptr gd,kD n c d (.slice A k cp)] w fun e w'=>∃D',e=.returned (.int .i64 0)/\jw At w0 gd gl gx r S L chs D' E w'/\jM E w w'/\kc D D'/\j4 D'.l<=j4 D.l/\jT D'.l j7=jT D.l j7:=by
 have U:=h.ok.xS;have V:=h.ok.many;obtain⟨D',j,f⟩:=qVK h.fl.up h.fl.nodup (m:=⟨n,c,d,R⟩);obtain⟨T,u,P,Q⟩:=f.dk (m:=⟨n,c,d,R⟩) h.fl t h.ok
 have H:Calls prog 83 #[ptr gd,kD n c d (.slice A k cp)] w fun e w'=>js At w0 gd gx r S D' (gl::E) w'/\jM (gl::E) w w'/\e=.returned (.int .i64 0):=by
  refine h.ix.quiet fun E' z y=>?_
  refine(iap.clean n c d A k cp R y h.fl.up.wf (fun W _ O=>M W (O.less (fun b i=>z b (C b i)))) g (by rw[t];omega) F).mono ?_;rintro e w'⟨rfl,o,v⟩;rw[j]at o;rw[j];exact⟨o,v,rfl⟩
 refine H.mono ?_;rintro e w'⟨J,g,rfl⟩;have I:=Dx h.xF f.up (fun q K=>((f.names q).1 K).1) P;exact⟨D',rfl,⟨J,g.xW h.log qC,h.xD,h.low,T,u,I,h.gl.zH f.stays.xB⟩,g.less (fun b i=>qF _ i),f.stays,f.used,Q⟩
theorem qVn(nap:kZ)(cap:v8)(h:DS At w0 gd D E w)(fl:dt (bI chs.length) D)(g:ku D chs)(l:D.count<=900000000):Calls prog 38 #[ptr gd] w fun e w' =>
  ∃gl D',e=.returned (.tuple #[ptr gl,.int .i64 0])/\w.1.size<=gl/\ke At w0 gd gl ⟨D.xB,chs.length,kz chs,kz chs⟩ chs D' E w'/\jM E w w'/\vM D D'/\D'.count<=D.count+200:=by
 obtain⟨D',c,b,c1⟩:=qQa g (h.xI api);refine(h.zw api nap cap fl.up.wf (by omega) (by rw[c])).mono ?_;rintro e w'⟨gl,rfl,j,f,i⟩;rw[c]at f
 have hw:WfP D':=by
  have:=qVf (D:=D) fl.up.wf;rw[c]at this;exact this
 refine⟨gl,D',rfl,j,⟨f,⟨⟨b.down.trans fl.up.down,b.fails.trans fl.up.fails,hw⟩,by unfold jt;rw[b.names];exact fl.nodup,fun n d=>fl.only n (by unfold jt at d ⊢;rw[<-b.names];exact d),fl.x9,fl.xz⟩,g.same b,⟨b.xB,rfl,rfl,qK _⟩⟩,i,b,c1⟩
end
end
section
open Go.RowKit Go.Shelf
structure KN(At:j6)(w0:World)(gd gl gx r seed:Nat)(S:IxS)(L:jq)(chs:List (List Tw))(D D':jL)(E:List Nat)(w w':World):Prop where
 sx:jw At w0 gd gl gx r S L chs D' E w'
 kept:jM E w w'
 rb:uo seed S chs
 cap:D'.cap=D.cap
 xB:D'.xB=D.xB
 count:D'.count<=D.count+400+200*(jR 0 chs).length
 used:j4 D'.l<=j4 D.l
def cD(seed:Nat):ji:=⟨0,0,seed,[]⟩
theorem qVp(seed:Nat):kF (cD seed):=⟨by show(0:Int)<=0;omega,by show(0:Int)<=1000000;omega,by show(0:Int)<=0;omega,by show(0:Int)<=2147483647;omega,(show cX [] by decide),fun x b=>by cases b⟩
def qVr(seed:Nat)(en:Nat)(D:jL):Prop :=
 yM D≠0∨(yM D=0/\kF (kK D)/\(∀x∈(kK D).lv.flatten,kS D x=0->(tgL (rdW D (ptT x)).1).length<=10000)/\((kK D).seed≠seed∨(en:Int)<(kK D).check∨∃x∈(kK D).lv.flatten,kS D x≠0))
structure nh(At:j6):Prop where
 keep:∀ {w0 w:World} {gd gl:Nat} {L:jq} {chs:List (List Tw)} {D:jL} {E:List Nat} (seed r:Nat) (S:IxS),ke At w0 gd gl L chs D E w->kV D S->uo seed S chs->nf D S->(∀t∈S.T,t.l.length<=10000)->(yI seed (jR 0 chs)).length<=1000->D.count<=800000000->r<18446744073709551616 ->
  Calls prog 39 #[ptr gd,ptr gl,.int .u64 (seed:Nat),.float .f64 r] w fun e w'=>∃gx S' D',e=.returned (.tuple #[ptr gx,.bool false,.int .i64 0])/\KN At w0 gd gl gx r seed S' L chs D D' E w w'/\nf D' S'/\S'.m=dP S.m
 jE:∀ {w0 w:World} {gd gl:Nat} {L:jq} {chs:List (List Tw)} {D:jL} {E:List Nat} (seed r:Nat),ke At w0 gd gl L chs D E w->(∀x∈jR 0 chs,vZ x.2=true)->qVr seed (kz chs) D->(yI seed (jR 0 chs)).length<=1000->D.count<=800000000->seed<18446744073709551616->r<18446744073709551616 ->
  Calls prog 39 #[ptr gd,ptr gl,.int .u64 (seed:Nat),.float .f64 r] w fun e w'=>∃gx S' D',e=.returned (.tuple #[ptr gx,.bool true,.int .i64 0])/\KN At w0 gd gl gx r seed S' L chs D D' E w w'/\jT D'.l j7=none/\S'.T=[]/\S'.m=cD seed
end
section
open Go.RowKit Go.Shelf
def bM(seed:Nat)(D:jL)(S:IxS):Prop:=nf D S∨(jT D.l j7=none/\S.T=[]/\S.m=cD seed)
theorem bM.same{seed:Nat}{D E:jL}{S:IxS}(h:bM seed D S)(c:dE D E)(ok:kV E S):bM seed E S:=by
 rcases h with b|⟨b,g,i⟩
 ·exact qX ⟨Eq.trans c b.map,fun t d=>ok.has t d⟩
 ·refine qY ⟨?_,g,i⟩;have e:=c;unfold dE at e;rw[b]at e;cases q:jT E.l j7 with
  | none=>rfl
  | some f=>rw[q]at e;cases e
section
variable {At:j6}(api:j8 At)(nap:kZ)(iap:gq At){w0 w:World}{gd gl gx gs r seed:Nat}{S S':IxS}{L L':jq}{chs chs':List (List Tw)}{D D':jL}{E:List Nat}
include api nap
include iap
def Do(At:j6)(w0:World)(gd gl gx gs r seed:Nat)(S:IxS)(chs:List (List Tw))(D:jL)(E:List Nat)(w:World)(ok:Int->Prop)(e:Ending)(w':World):Prop :=
 ∃z S' L' D',ok z/\e=.returned (.int .i64 z)/\jg At w0 gd gl gx gs r seed S' L' chs D' E w'/\jM E w w'/\bM seed D' S'/\S'.m.next<=S.m.next+1/\D'.count<=D.count+50/\D'.cap=D.cap
theorem qVs(h:jg At w0 gd gl gx gs r seed S L chs D E w)(u:bM seed D S)(T:D.count<=900000000)(ac:S.m.next<=99999)(V:(jR 0 chs).length<=100)(X:r<18446744073709551616):Calls prog 15 #[ptr gs] w (Do At w0 gd gl gx gs r seed S chs D E w (fun z=>z=0∨z=60)):=by
 obtain⟨c0,c1,c2,M⟩:=h.cells;obtain⟨n,H⟩:∃n:Nat,S.m.next=(n:Nat):=⟨S.m.next.toNat,by have:=h.sx.ok.may.1;omega⟩
 have U:=h.len.1;have J:=qQ (pF c0);have F:=h.sx.drew api
 have A:Hid (Calls prog 36 #[ptr gx,ptr gl] w.drew fun e w'=>∃k S' L' D',(k=0∨k=60)/\e=.returned (err k)/\(jg At w0 gd gl gx gs r seed S' L' chs D' E w'/\jM E w w'/\bM seed D' S'/\S'.m.next<=S.m.next+1/\D'.count<=D.count+50/\D'.cap=D.cap)/\(w'.cell? ⟨gs,1,none⟩=some (ptr gl)/\w'.cell? ⟨gs,2,none⟩=some (ptr gx))):=qQ (by
  refine(qV7 api nap iap F T H (by omega) X (by omega)).mono ?_;rintro e w'⟨k,D',S',rfl,d,g,v,aa⟩;have ab:=v.count;have l:=v.cap;have o:jM (gs::E) w w':=(show jM (gs::E) w w.drew from(jM.refl _ _).drew).trans g;rcases aa with⟨rfl,i,rfl,c,j⟩|⟨rfl,i,K,c,j,C,a7⟩|⟨rfl,i,rfl,c,j,C⟩
  ·obtain⟨b,f⟩:=h.step d o h.rb h.vs;exact⟨0,S',_,D',qX rfl,rfl,⟨b,f,u.same c d.ok,by omega,by omega,l⟩,b.cells.2.1,b.cells.2.2.1⟩
  ·have Y:=h.rb.flush h.sx.xF v.has K c i j;obtain⟨b,f⟩:=h.step d o Y h.vs;have ad:S'.m.next=S.m.next+1:=(by rw[c];rfl);exact⟨0,S',_,D',qX rfl,rfl,⟨b,f,qX ⟨C,fun t Z=>d.ok.has t Z⟩,by omega,by omega,l⟩,b.cells.2.1,b.cells.2.2.1⟩
  ·obtain⟨b,f⟩:=h.step d o h.rb h.vs;exact⟨60,S',_,D',qY rfl,rfl,⟨b,f,u.same c d.ok,by omega,by omega,l⟩,b.cells.2.1,b.cells.2.2.1⟩)
 have P:w.drew.cell? ⟨gs,1,none⟩=some (ptr gl)/\w.drew.cell? ⟨gs,2,none⟩=some (ptr gx):=⟨c1,c2⟩
 clear h u c0 c1 c2 M F U H V;go_enter func15,ntmps15;go_wp2_with fail;refine X5 J.out ?_;go_wp2_with fail
 go_region_held3 (fun W=>W.cell? ⟨gs,1,none⟩=some (ptr gl)/\W.cell? ⟨gs,2,none⟩=some (ptr gx))
  (first|(with_reducible assumption)|fail)
  (first
  | (go_at_call 36;((with_reducible refine A.out.mono ?_);rintro e w2⟨k,S',L',D',g,rfl,I,Q⟩))
  | fail)
 rename_i O;have y:=qQ (qU g I);clear g I Q O P A;go_wp2;go_ret;refine⟨(k:Nat),S',L',D', ?_,rfl,y.out.2⟩;have:=y.out.1;omega
theorem qVt(h:jg At w0 gd gl gx gs r seed S L chs D E w)(v:bM seed D S)(Q:D.count<=900000000)(ad:S.m.next<=99999)(V:(jR 0 chs).length<=100)(X:r<18446744073709551616)(lev:Int):Calls prog 16 #[ptr gs,lev] w (Do At w0 gd gl gx gs r seed S chs D E w (fun z=>z=0∨z=60∨z=4∨z=2/\(lev<0∨4<lev))):=by
 obtain⟨c0,c1,c2,P⟩:=h.cells;obtain⟨n,F⟩:∃n:Nat,S.m.next=(n:Nat):=⟨S.m.next.toNat,by have:=h.sx.ok.may.1;omega⟩
 obtain⟨-,-,l,aa⟩:=h.len;have l:=l (kU S.m.lv lev);have K:=qQ (pF c0)
 obtain⟨c,H,W⟩:∃c:Nat,vH S.m.lv lev=(c:Nat)/\(c=0∨c=4∨c=2/\(lev<0∨4<lev)):=by
  have hv:ye S.m.lv=true:=qB h.sx.ok.may.2.2.2.2.1;unfold vH;rw[hv];by_cases q:lev<0∨4<lev
  ·rw[qV (qY q)];exact⟨2,rfl,qY (qY ⟨rfl,q⟩)⟩
  ·rw[qZ (by simp;omega)];split
   ·exact⟨4,rfl,qY (qX rfl)⟩
   ·exact⟨0,rfl,qX rfl⟩
 have A:Hid (Calls prog 37 #[ptr gx,lev] w fun e w'=>∃z S' L' D',(z=0∨z=60∨z=4∨z=2/\(lev<0∨4<lev))/\e=.returned (.int .i64 z)/\jg At w0 gd gl gx gs r seed S' L' chs D' E w'/\jM E w w'/\bM seed D' S'/\S'.m.next<=S.m.next+1/\D'.count<=D.count+50/\D'.cap=D.cap):=qQ (by
  refine(qV8 api nap iap h.sx Q F (by omega) X (by omega) lev (by omega) c H).mono ?_;rintro e w'⟨k,D',S',rfl,b,u,i,T,U,ab⟩;have ac:=i.count;have o:=i.cap;rcases ab with⟨rfl,C,rfl,d,j⟩|⟨rfl,C,M,d,j,O⟩|⟨rfl,C,rfl,d,j,O⟩
  ·obtain⟨f,g⟩:=h.step b u h.rb h.vs;exact⟨(k:Nat),S',_,D',by omega,rfl,f,g,v.same d b.ok,by omega,by omega,o⟩
  ·have Y:=h.rb.merge i.has i.xO i.seed T U d;obtain⟨f,g⟩:=h.step b u Y h.vs;have ae:S'.m.next=S.m.next+1:=(by rw[M];rfl);exact⟨0,S',_,D',qX rfl,rfl,f,g,qX ⟨j,fun t Z=>b.ok.has t Z⟩,by omega,by omega,o⟩
  ·obtain⟨f,g⟩:=h.step b u h.rb h.vs;exact⟨60,S',_,D',qY (qX rfl),rfl,f,g,v.same d b.ok,by omega,by omega,o⟩)
 clear h v c0 c1 P F V H W l aa;go_enter func16,ntmps16;go_wp2_with fail;refine X5 K.out ?_;go_wp2_with fail;refine A.out.mono ?_;rintro e w2⟨z,S',L',D',J,rfl,I⟩;have y:=qQ (qU J I);clear J I A;go_wp2;go_ret;exact⟨z,S',L',D',y.out.1,rfl,y.out.2⟩
end
structure pH(seed:Nat)(S:IxS)(chs:List (List Tw))(D:jL):Prop where
 fl:dt (bI chs.length) D
 xF:ku D chs
 whole:∀x∈jR 0 chs,vZ x.2=true
 vs:uE (jn (jR 0 chs))
 ix:(kV D S/\uo seed S chs/\nf D S)∨jT D.l j7=none
 lens:∀t∈S.T,t.l.length<=10000
section
variable {At:j6}(api:j8 At)(nap:kZ)(cap:v8)(rapi:nh At){w0 w:World}{gd gl gx gs r seed:Nat}{S S':IxS}{L L':jq}{chs chs':List (List Tw)}{D D':jL}{E:List Nat}
theorem jg.xE(h:jg At w0 gd gl gx gs r seed S L chs D E w)(d:bM seed D S)(i:(jR 0 chs).length<=100):DS At w0 gd D E w/\pH seed S chs D:=by
 have f:=h.len.2.1;refine⟨h.sx.ix.ds.less (fun b c=>qF _ (qF _ c)),h.sx.dk.fl h.sx.ok,h.sx.xF,h.rb.whole,h.vs, ?_,fun t g=>by have:=f t g;omega⟩;rcases d with q|q
 ·exact qX ⟨h.sx.ok,h.rb,q⟩
 ·exact qY q.1
theorem nf.jY(h:nf D S)(k:vM D D'):nf D' S:=⟨(k.data j7).trans h.map,fun t m=>by
 obtain⟨f,d,g,i⟩:=h.has t m;have e:=k.data (ptT t.n);rw[d]at e;obtain⟨c,j,b⟩:=xG.1 (e:(jT D'.l (ptT t.n)).map jO.data=some f.data);exact⟨c,j,by rw[b];exact g,by rw[b];exact i⟩⟩
def Dw(At:j6)(w0:World)(gd r seed:Nat)(S:IxS)(chs:List (List Tw))(D:jL)(E:List Nat)(w:World)(e:Ending)(w':World):Prop :=
 ∃gs gl gx S' L D',e=.returned (.tuple #[ptr gs,.int .i64 0])/\jg At w0 gd gl gx gs r seed S' L chs D' E w'/\jM E w w'/\bM seed D' S'/\(S'.m.next=S.m.next∨S'.m.next=0)/\D'.cap=D.cap/\D'.count<=D.count+600+200*(jR 0 chs).length/\j4 D'.l<=j4 D.l
include rapi in
theorem qVa(b:ke At w0 gd gl L chs D E w)(o:pH seed S chs D)(n:seed<18446744073709551616)(i:r<18446744073709551616)(g:D.count<=800000000)(A:(jR 0 chs).length<=100):
  Calls prog 39 #[ptr gd,ptr gl,.int .u64 (seed:Nat),.float .f64 r] w fun e w'=>∃gx l S' D',e=.returned (.tuple #[ptr gx,.bool l,.int .i64 0])/\KN At w0 gd gl gx r seed S' L chs D D' E w w'/\bM seed D' S'/\(S'.m.next=S.m.next∨S'.m.next=0):=by
 have f:(yI seed (jR 0 chs)).length<=1000:=by have:=mz seed (jR 0 chs) o.whole;omega
 rcases o.ix with⟨u,v,y⟩|q
 ·refine(rapi.keep seed r S b u v y o.lens f g i).mono ?_;rintro e w'⟨gx,S',D',rfl,c,d,t⟩;exact⟨gx,_,S',D',rfl,c,qX d,qX (by rw[t];rfl)⟩
 ·refine(rapi.jE seed r b o.whole (qX (qVG b.fl.up.down q).1) f g n i).mono ?_;rintro e w'⟨gx,S',D',rfl,c,d,z,j⟩;exact⟨gx,_,S',D',rfl,c,qY ⟨d,z,j⟩,qY (by rw[j];rfl)⟩
include api nap cap rapi in
theorem FQ(u:DS At w0 gd D E w)(o:pH seed S chs D)(U:seed<18446744073709551616)(hr:r<18446744073709551616)(P:D.count<=700000000)(hn:(jR 0 chs).length<=100):
  Calls prog 17 #[ptr gd,.int .u64 (seed:Nat),.float .f64 r] w (Dw At w0 gd r seed S chs D E w):=by
 have ag:=u.kept.size;have z:=u.lt
 have M:=qQ ((qVn api nap cap u o.fl o.xF (by omega)).mono (fun e w' (hq:∃gl D',e=.returned (.tuple #[ptr gl,.int .i64 0])/\w.1.size<=gl/\ke At w0 gd gl ⟨D.xB,chs.length,kz chs,kz chs⟩ chs D' E w'/\jM E w w'/\vM D D'/\D'.count<=D.count+200)=>(show ∃gl D',e=.returned (.tuple #[ptr gl,.int .i64 0])/\ke At w0 gd gl ⟨D.xB,chs.length,kz chs,kz chs⟩ chs D' E w'/\jM E w w'/\D'.cap=D.cap/\D'.count<=D.count+200/\j4 D'.l=j4 D.l/\pH seed S chs D' from by
  obtain⟨gl,D',e1,-,d,hk,n,ab⟩:=hq;refine⟨gl,D',e1,d,hk,n.cap,ab,n.used,d.fl,d.xF,o.whole,o.vs, ?_,o.lens⟩;rcases o.ix with⟨Z,q2,q3⟩|q
  ·exact qX ⟨Z.zl n,q2,q3.jY n⟩
  ·refine qY ?_;have e:=n.data j7;rw[q]at e;cases q:jT D'.l j7 with
   | none=>rfl
   | some f=>rw[q]at e;cases e)))
 have K:=qQ (fun W gl L D' (d:ke At w0 gd gl L chs D' E W) (o:pH seed S chs D') (P:D'.count<=800000000)=>qVa rapi d o U hr P hn);have aa:=qQ o.vs;clear u o;go_enter func17,ntmps17;go_wp2_with fail;refine M.out.mono ?_;rintro e w1⟨gl,D1,rfl,d,X,ac,af,ah,Y⟩;have J:=qQ (K.out w1 gl _ D1 d Y (by omega));have v:=qQ X;clear d Y X M K;go_wp2_with fail;refine J.out.mono ?_;rintro e c⟨gx,an,S',D2,rfl,g,Q,T⟩;have y:=(qG c.1.size c).alloc (qK _) (.cells #[.pointer none,ptr gl,ptr gx,.int .u64 (seed:Nat)] 73);have i:=jN.new c 73 #[.pointer none,ptr gl,ptr gx,.int .u64 (seed:Nat)];have t:=g.sx.more api y (B:=[c.1.size]) (fun x F=>by rw[qH.1 F];exact⟨qK _,i.lt⟩);have ae:w.1.size<=c.1.size:=qR v.out.size g.kept.size;have H:jM E w (c.alloc (.cells #[.pointer none,ptr gl,ptr gx,.int .u64 (seed:Nat)] 73)):=(v.out.trans g.kept).trans (jM.xA y (fun x F=>qS (z x F) ae));obtain⟨m,ad⟩:∃m,c.alloc (.cells #[.pointer none,ptr gl,ptr gx,.int .u64 (seed:Nat)] 73)=m:=⟨_,rfl⟩
 rw[ad]at i t H;have C:jP [c.1.size] m (m.setCell ⟨c.1.size,0,none⟩ (ptr c.1.size)):=(jP.refl _ _).setCell (p:=⟨c.1.size,0,none⟩) (qX qC) _;have O:=t.xL api (E':=[c.1.size]++E) C (fun b j=>by rw[qH.1 j];exact⟨qW _ qC,by omega⟩) (fun b j=>qX j);have I:=i.put 0 (ptr c.1.size)
 have V:jM E w (m.setCell ⟨c.1.size,0,none⟩ (ptr c.1.size)):=H.trans (jM.xP C (fun b j=>⟨t.lt b (qF _ (qJ _ j)),fun A=>by
  have Z:=qH.1 A;have q2:=z b j;omega⟩))
 have hF:Dw At w0 gd r seed S chs D E w (.returned (.tuple #[ptr c.1.size,.int .i64 0])) (m.setCell ⟨c.1.size,0,none⟩ (ptr c.1.size)):=by
  refine⟨c.1.size,gl,gx,S',_,D2,rfl,⟨O,I,fun A=>?_,by omega,g.rb,aa.out,U⟩,V,Q,T,g.cap.trans ac,by have:=g.count;omega,by have:=g.used;omega⟩;have:=z _ A;omega
 have HF:=qQ hF;have f0:=i.frozen 0;have c0:=i.cell 0;clear hF O I V C t H y i g Q T J v;go_wp2;go_ret2;exact HF.out
end
section
variable {At:j6}(api:j8 At)(nap:kZ)(cap:v8)(rapi:nh At)
theorem qVe(seed c:Nat)(d:c<=1048576):pH seed ⟨cD seed,[],[]⟩ [] (fV c) :=
 ⟨⟨MX d,List.nodup_nil,(fun n f=>by cases f),(fun x b=>by cases b),qI _⟩,qQe c d,(fun x b=>by cases b),uE.nil,qY rfl,fun t g=>by cases g⟩
def FX(At:j6)(x:sQ)(w:World)(e:Ending)(w':World):Prop :=
 ∃b gd gs gl gx S L D,Below w.1.size w b/\e=.returned (.tuple #[ptr gd,ptr gs,.bool true])/\jg At b gd gl gx gs x.r x.d S L [] D [] w'/\bM x.d D S/\S.m.next=0/\D.cap=6000+4*x.m/\D.count<=600/\j4 D.l=0
include api nap cap rapi
theorem FZ(x:sQ)(t:J7 x)(w:World):Calls prog 8 #[J6 x] w (FX At x w):=by
 have P:=t.m;have n:=(qG w.1.size w).alloc (qK _) (.cells #[.int .u64 (x.d:Nat),.float .f64 x.r,.int .u16 (x.m:Nat)] 27);have b:=jN.new w 27 #[.int .u64 (x.d:Nat),.float .f64 x.r,.int .u16 (x.m:Nat)];obtain⟨g,T⟩:∃g,w.alloc (.cells #[.int .u64 (x.d:Nat),.float .f64 x.r,.int .u16 (x.m:Nat)] 27)=g:=⟨_,rfl⟩
 rw[T]at n b;have c:=qXC api g (6000+4*x.m) (by omega);have j:=qQ (fun(W:World) gd (f:DS At g gd (fV (6000+4*x.m)) [] W)=>FQ (gd:=gd) (r:=x.r) (seed:=x.d) (S:=⟨cD x.d,[],[]⟩) (chs:=[]) (E:=[]) api nap cap rapi f (qVe x.d _ (by omega)) t.d t.r (by show(0:Nat)<=_;omega) (by show(0:Nat)<=_;omega));have y:((6000+4*x.m:Nat):Int)=6000+(x.m:Int)*4:=by omega
 rw[y]at c;have c:=qQ c;have K:=qQ n;have M:=qQ b;have H:=b.cell 0;have I:=b.cell 1;have J:=b.cell 2;obtain⟨X,sr,u⟩:=x;simp only at P c j H I J ⊢;clear n b y;go_enter func8,ntmps8;go_wp2_with fail;refine c.out.mono ?_;rintro e Y⟨gd,rfl,f⟩;have v:=qQ (j.out Y gd f);have i:=M.out.below f.kept;have U:=i.cell 0;have V:=i.cell 1;clear f i j H I J c;go_wp2_with fail;refine v.out.mono ?_;rintro e Z⟨gs,gl,gx,S',L,D',rfl,z,-,C,F,A,o,Q⟩;have O:Hid (FX At ⟨X,sr,u⟩ w (.returned (.tuple #[ptr gd,ptr gs,.bool true])) Z):=qQ ⟨g,gd,gs,gl,gx,S',L,D',K.out,rfl,z,C,by rcases F with q|q<;>exact q,A,by have:(fV (6000+4*u)).count=0:=rfl;rw[this]at o;exact o,by have:j4 (fV (6000+4*u)).l=0:=rfl;omega⟩;clear z C F A o Q v U V;go_wp2;go_ret3;exact O.out
end
end
section
open Go.RowKit Go.Shelf
attribute [local go_sem] dK
theorem KO(s:Tw)(f:Int)(v:Value)(l:List jd)(w:World)(P:vr w v l)(i:Nat)(x:jd)(m:l[i]? = some x)(hf:0<=f/\f<=1073741824)(hl:l.length<=100):
  Calls prog 45 #[ve s f v,i] w (X3 (.agg (bL ⟨s,f+(i:Nat),x⟩)) w):=by
 have hi:=(qO.1 m).1;rcases P with⟨rfl,-⟩|⟨M,b,off,cap,rfl,O,y,H⟩
 ·simp at m
 obtain⟨c0,c1,c2⟩:=H i x m;obtain⟨t,d,n⟩:=x;simp only at c0 c1 c2;have z:=(qG w.1.size w).alloc (qK _) (.cells #[s,f,.slice (some ⟨b,off,none⟩) l.length cap] 92);have C:=jN.new w 92 #[s,f,.slice (some ⟨b,off,none⟩) l.length cap];obtain⟨u,I⟩:∃u,w.alloc (.cells #[s,f,.slice (some ⟨b,off,none⟩) l.length cap] 92)=u:=⟨_,rfl⟩
 have T:u.1.size=w.1.size+1:=by rw[<-I];simp
 rw[I]at z C;have j:=z.alloc z.size (.cells #[.string ⟨#[]⟩,.int .i64 0,.string ⟨#[]⟩,.string ⟨#[]⟩,.float .f64 0] 66);have o:=C.alloc (.cells #[.string ⟨#[]⟩,.int .i64 0,.string ⟨#[]⟩,.string ⟨#[]⟩,.float .f64 0] 66);have c:=jN.new u 66 #[.string ⟨#[]⟩,.int .i64 0,.string ⟨#[]⟩,.string ⟨#[]⟩,.float .f64 0];obtain⟨A,Q⟩:∃A,u.alloc (.cells #[.string ⟨#[]⟩,.int .i64 0,.string ⟨#[]⟩,.string ⟨#[]⟩,.float .f64 0] 66)=A:=⟨_,rfl⟩
 rw[Q]at j o c;rw[T]at c;have Z:=(j.cell (p:=⟨b,off+i*3,none⟩) y).trans c0;have e1:=(j.cell (p:=⟨b,off+i*3+1,none⟩) y).trans c1;have e2:=(j.cell (p:=⟨b,off+i*3+2,none⟩) y).trans c2;have k0:=o.cell 0;have k1:=o.cell 1;have k2:=o.cell 2;have f0:=c.frozen 0;have f1:=c.frozen 1;have f2:=c.frozen 2;have f3:=c.frozen 3;have f4:=c.frozen 4;have m0:=c.cell 0;have m1:=c.cell 1;have m2:=c.cell 2;have m3:=c.cell 3;have m4:=c.cell 4;have ew:IntKind.i64.wrap (f+(i:Int))=f+(i:Int):=by rw[IntKind.wrap_i64];omega
 have s1:(i:Int)<(l.length:Int):=by omega
 have F:=qQ j;have J:=qQ c;clear z C j o c c0 c1 c2 H m y O M;unfold ve;go_enter func45,ntmps45;go_wp2;have g:=((((J.out.put 0 (.string s)).put 1 (.int .i64 (f+(i:Int)))).put 2 (.string t)).put 3 (.string d)).put 4 (.float .f64 n);have U:=g.cell 0;have V:=g.cell 1;have W:=g.cell 2;have X:=g.cell 3;have Y:=g.cell 4
 have K:=qQ (show Below w.1.size w (((((A.setCell ⟨w.1.size+1,0,none⟩ (.string s)).setCell ⟨w.1.size+1,1,none⟩ (.int .i64 (f+(i:Int)))).setCell ⟨w.1.size+1,2,none⟩ (.string t)).setCell ⟨w.1.size+1,3,none⟩ (.string d)).setCell ⟨w.1.size+1,4,none⟩ (.float .f64 n)).drew from
  (F.out.trans ((((((jP.refl [w.1.size+1] A).setCell (p:=⟨w.1.size+1,0,none⟩) (qX qC) _).setCell (p:=⟨w.1.size+1,1,none⟩) (qX qC) _).setCell (p:=⟨w.1.size+1,2,none⟩) (qX qC) _).setCell (p:=⟨w.1.size+1,3,none⟩) (qX qC) _).setCell (p:=⟨w.1.size+1,4,none⟩) (qX qC) _ |>.below F.out.size (fun x m=>by rw[qH.1 m];omega))).drew)
 clear g;go_region
 go_wp2;exact bodyPost_ret (v:=.agg (bL ⟨s,f+(i:Nat),⟨t,d,n⟩⟩)) (by simp[results,Tryz.results45,go_sem,U,V,W,X,Y]) rfl ⟨rfl,K.out⟩
abbrev mj(w:World)(base:Nat)(v:Value)(l:List jd):Prop:=w.ownsRow base 64 3 v l.length (l.flatMap cT)
theorem KP{w:World}{g:Nat}(a b c:Value):jP [g] w (((w.setCell ⟨g,0,none⟩ a).setCell ⟨g,1,none⟩ b).setCell ⟨g,2,none⟩ c):=(((jP.refl [g] w).setCell (p:=⟨g,0,none⟩) (qX qC) _).setCell (p:=⟨g,1,none⟩) (qX qC) _).setCell (p:=⟨g,2,none⟩) (qX qC) _
theorem FJ(p:Tw)(w:World)(hw:vZ p=true)(W:p.size<=100000):Calls prog 44 #[p] w fun e w'=>∃A c,e=.returned (.tuple #[ve (bgS p) (bgF p) (.slice A (bgL p).length c),.int .i64 0])/\mj w' w.1.size (.slice A (bgL p).length c) (bgL p)/\Below w.1.size w w':=by
 obtain⟨-,-,-,O,-,-⟩:=dY hw;have H:=(qG w.1.size w).alloc (qK _) (.cells #[.string ⟨#[]⟩,.int .i64 0,.slice none 0 0] 92);have z:=jN.new w 92 #[.string ⟨#[]⟩,.int .i64 0,.slice none 0 0];obtain⟨d,U⟩:∃d,w.alloc (.cells #[.string ⟨#[]⟩,.int .i64 0,.slice none 0 0] 92)=d:=⟨_,rfl⟩
 have X:d.1.size=w.1.size+1:=by rw[<-U];simp
 rw[U]at H z
 have M:Hid (Calls prog 95 #[p] d fun e w'=>∃A c,e=.returned (.tuple #[.agg #[.string (bgS p),.int .i64 (bgF p),.slice A (bgL p).length c],.int .i64 0])/\mj w' d.1.size (.slice A (bgL p).length c) (bgL p)/\Below d.1.size d w'):=qQ ((Gg p d W).mono fun e w' hg=>by
  obtain⟨u,rfl,T,b1⟩:=hg;obtain⟨A,c,rfl,-,-,-⟩:=vl T;rw[O];exact⟨A,c,rfl,T,b1⟩)
 have K:=qQ H;have Z:=qQ z;have F:=qQ X;unfold ve;generalize bgS p=s at*;generalize bgF p=f at*;generalize hL:bgL p=L at*;clear H z hL O hw W X;go_enter func44,ntmps44;go_wp2_with fail;refine M.out.mono ?_;rintro e Y⟨A,c,rfl,I,m⟩;have aa:=qQ I;obtain⟨n,j⟩:∃n,n=L.length:=⟨_,rfl⟩
 rw[<-j];have o:=m.alloc m.size (.cells #[s,f,.slice A n c] 92);have i:=jN.new Y 92 #[s,f,.slice A n c];have b:=(Z.out.below m).alloc (.cells #[s,f,.slice A n c] 92);obtain⟨y,V⟩:∃y,Y.alloc (.cells #[s,f,.slice A n c] 92)=y:=⟨_,rfl⟩
 have J:mj y d.1.size (.slice A n c) L:=by rw[<-V,j];exact I.alloc _
 rw[V]at o i b;have t:=vO J b (by decide);have Q:=vz (vz (vz J (p:=⟨w.1.size,0,none⟩) t (.string s)) (p:=⟨w.1.size,1,none⟩) t (.int .i64 f)) (p:=⟨w.1.size,2,none⟩) t (.slice A n c);have P:=(K.out.trans (o.mono (by rw[F.out];omega))).trans ((KP (g:=w.1.size) (w:=y) (.string s) (.int .i64 f) (.slice A n c)).below ((K.out.trans (o.mono (by rw[F.out];omega))).size) (fun x hx=>by rw[qH.1 hx];exact qK _));have l:=((b.put 0 (.string s)).put 1 (.int .i64 f)).put 2 (.slice A n c);have k0:=i.cell 0;have k1:=i.cell 1;have k2:=i.cell 2;have j0:=b.cell 0;have j1:=b.cell 1;have j2:=b.cell 2;have f0:=b.frozen 0;have f1:=b.frozen 1;have f2:=b.frozen 2;have q0:=l.cell 0;have q1:=l.cell 1;have q2:=l.cell 2;have C:=qQ (qU (lC Q (show w.1.size<=d.1.size by rw[F.out];omega)) P);rw[<-j]at C;have HN:=qQ j;clear m o i b l t Q P I J M aa j;go_wp2;obtain rfl:n=L.length:=HN.out;exact bodyPost_ret (v:=.tuple #[.agg #[s,f,.slice A L.length c],.int .i64 0]) (by simp[results,Tryz.results44,go_sem,q0,q1,q2]) rfl ⟨A,c,rfl,C.out.1,C.out.2⟩
section
variable {At:j6}(api:j8 At)(nap:kZ)(cap:v8){w0 w:World}{gd gl gx gs r seed q:Nat}{S:IxS}{L:jq}{chs:List (List Tw)}{D:jL}{E:List Nat}{p:Tw}
include api nap cap
theorem qVi(h:jg At w0 gd gl gx gs r seed S L chs D E w)(hc:D.count<=900000000)(u:(q,p)∈jR 0 chs):Calls prog 62 #[ptr gs,.int .i64 (q:Nat)] w fun e w'=>∃A c,e=.returned (.tuple #[ve (bgS p) (bgF p) (.slice A (bgL p).length c),.int .i64 0])/\mj w' w.1.size (.slice A (bgL p).length c) (bgL p) /\
  jg At w0 gd gl gx gs r seed S L chs { D with count:=D.count+2 } (jS (.slice A (bgL p).length c)++E) w'/\jM E w w':=by
 have hw:=h.rb.whole _ u;have hz:=KD h.sx.xF u;simp only at hw hz;have aj:=h.base.size;have ak:=qQ h.lt;have F:=(qG w.1.size w).alloc (qK _) (.cells #[.string ⟨#[]⟩,.int .i64 0,.slice none 0 0] 92);have l:=jN.new w 92 #[.string ⟨#[]⟩,.int .i64 0,.slice none 0 0];have i:=h.more api F (B:=[w.1.size]) (fun x b=>by rw[qH.1 b];exact⟨qK _,l.lt⟩);have H:=h.xg F;obtain⟨O,al⟩:∃O,w.alloc (.cells #[.string ⟨#[]⟩,.int .i64 0,.slice none 0 0] 92)=O:=⟨_,rfl⟩
 rw[al]at l i H;obtain⟨-,c1,-,-⟩:=i.cells;have V:=qQ (qVj api nap cap i.sx hc u);have X:=qQ (fun Y (hi:jw At w0 gd gl gx r S L chs { D with count:=D.count+2 } (gs::([w.1.size]++E)) Y) (hk:jM (gs::([w.1.size]++E)) O Y)=>i.step hi hk i.rb i.vs);have C:=qQ (fun W=>FJ p W hw (by omega));have ai:=qQ l;have U:=qQ H;unfold ve at C ⊢;generalize bgS p=s at*;generalize bgF p=f at*;generalize hL:bgL p=L' at*;obtain⟨n,K⟩:∃n,n=L'.length:=⟨_,rfl⟩
 rw[<-K]at C ⊢;have HN:=qQ K;clear F l i H h hL hw hz u K hc;go_enter func62,ntmps62;go_wp2_with fail;refine V.out.mono ?_;rintro e P⟨rfl,ac,ah⟩;have j:=X.out P ac ah;have Q:=qQ (C.out P);have T:=qQ j;clear ac ah j V X c1;go_wp2_with fail;refine Q.out.mono ?_;rintro e w3⟨A,c,rfl,y,o⟩;obtain⟨j,I⟩:=T.out;have Z:=j.below api o;have J:=I.trans (jM.xA o j.lt);have d:=J.xW ai.out (qW _ qC);have t:=vO y d (by decide);have af:=vz (vz (vz y (p:=⟨w.1.size,0,none⟩) t (.string s)) (p:=⟨w.1.size,1,none⟩) t (.int .i64 f)) (p:=⟨w.1.size,2,none⟩) t (.slice A n c);have ae:=y;have aa:=j.more api o (B:=jS (.slice A n c)) (fun x b=>ae.lt x (ja.1 b));have M:=KP (g:=w.1.size) (w:=w3) (.string s) (.int .i64 f) (.slice A n c)
 have ag:w.1.size<=P.1.size:=by
  have:=(U.out.trans (I.less (fun x b=>qJ _ b))).size;exact this
 have hF:=aa.xL api (E':=jS (.slice A n c)++E) M (fun x b=>by rw[qH.1 b];exact⟨qJ _ (qW _ qC),aj⟩) (fun x b=>(qD.1 b).elim (fun q=>qX (qW _ q)) (fun q=>qX (qJ _ (qJ _ q))));have ab:∀x∈E,x<w3.1.size/\x ∉ [w.1.size]:=fun x b=>⟨Z.lt x (qJ _ b),fun hm=>?_⟩
 rotate_left
 ·have i:=qH.1 hm;have j:=ak.out x b;omega
 have ad:=(U.out.trans (J.less (fun x b=>qJ _ b))).trans (jM.xP M ab);have m:=((d.put 0 (.string s)).put 1 (.int .i64 f)).put 2 (.slice A n c);have j0:=d.cell 0;have j1:=d.cell 1;have j2:=d.cell 2;have f0:=d.frozen 0;have f1:=d.frozen 1;have f2:=d.frozen 2;have q0:=m.cell 0;have q1:=m.cell 1;have q2:=m.cell 2;have z:=qQ (qU (lC af ag) (qU hF ad));clear j I Z J d t af ae aa M ag hF ad m y o ab Q T;go_wp2;obtain rfl:n=L'.length:=HN.out;exact bodyPost_ret (v:=.tuple #[.agg #[s,f,.slice A L'.length c],.int .i64 0]) (by simp[results,Tryz.results62,go_sem,q0,q1,q2]) rfl ⟨A,c,rfl,z.out.1,z.out.2.1,z.out.2.2⟩
end
end
section
open Go.RowKit Go.Shelf
theorem nr{D:jL}{S:IxS}(h:kV D S)(k:Nat)(a b:Int)(x:jI):x∈yF S k a b↔uU S x/\x.h=k/\a<=x.v/\x.v<=kA b:=by
 have c:∀l:List jI,x∈vD l k a (kA b)↔x∈l/\(x.h=k/\a<=x.v/\x.v<=kA b):=fun l=>by
  unfold vD inQ;rw[qo,decide_eq_true_iff]
 unfold yF;rw[Ut];constructor
 ·rintro ⟨l,f,d⟩;rcases qM.1 f with rfl|f
  ·exact⟨qX ((c _).1 d).1,((c _).1 d).2⟩
  ·obtain⟨t,g,rfl⟩:=qP.1 f;exact⟨qY ⟨t,g,((c _).1 d).1⟩,((c _).1 d).2⟩
 ·rintro ⟨q|⟨t,g,q⟩,i⟩
  ·exact⟨_,qC,(c _).2 ⟨q,i⟩⟩
  ·exact⟨_,qF _ (qP.2 ⟨t,g,rfl⟩),(c _).2 ⟨q,i⟩⟩
theorem pI{D:jL}{S:IxS}(h:kV D S)(k:Nat)(a b:Int):kY (yF S k a b):=Ue (h.zT k a (kA b))
theorem qVo(l:List Rec)(s:Tw)(e:jI):(uw l s e).length<=1:=by
 unfold uw;split
 ·exact qK _
 ·exact qI _
theorem FK(l:List Rec)(s:Tw):∀R:List jI,(R.flatMap (uw l s)).length<=R.length
 | []=>qK _
 | e::R=>by
   rw[List.flatMap_cons,qL,qu];have:=FK l s R;have:=qVo l s e;omega
theorem FV(f:jI->List jb){R:List jI}{k:Nat}{e:jI}(h:R[k]? = some e):(R.take (k+1)).flatMap f=(R.take k).flatMap f++f e:=by
 rw[xQ,h,List.flatMap_append];simp
section
variable {At:j6}{w0 we wr w':World}{gd gl gx gs r seed gb k cnt:Nat}{S:IxS}{L:jq}{chs:List (List Tw)}{D:jL}{E N:List Nat}{Rv lv:Value}{R:List jI}{s:Tw}{a:Int}
def pL(we:World)(gb:Nat)(chs:List (List Tw))(N:List Nat)(a:Int)(wr:World):Prop :=
 (a = -1/\jN wr gb 92 #[.string ⟨#[]⟩,.int .i64 0,.slice none 0 0]) ∨
 ∃q p A c,a=((q:Nat):Int)/\(q,p)∈jR 0 chs/\jN wr gb 92 #[.string (bgS p),.int .i64 (bgF p),.slice A (bgL p).length c]/\mj wr we.1.size (.slice A (bgL p).length c) (bgL p)/\∀b∈jS (.slice A (bgL p).length c),b∈N
structure gg(At:j6)(w0:World)(gd gl gx gs r seed:Nat)(S:IxS)(L:jq)(chs:List (List Tw))(D:jL)(E:List Nat)(we:World)(gb:Nat)(Rv:Value)(R:List jI)(s:Tw)(k:Nat)(lv:Value)(a:Int)(cnt:Nat)(N:List Nat)(wr:World):Prop where
 row:kI wr we.1.size lv ((R.take k).flatMap (uw (jR 0 chs) s))
 rv:ju wr we.1.size Rv R
 box:pL we gb chs N a wr
 st:jg At w0 gd gl gx gs r seed S L chs { D with count:=cnt } (N++E) wr
 kept:jM E we wr
 gb:gb∈N
 ol:∀b∈jS lv,b∈N
 xw:∀b∈jS Rv,b∈N
 low:∀b∈N,we.1.size<=b
theorem pL.keep{i:List Nat}(h:pL we gb chs N a wr)(f:jM (N++E) wr w')(d:gb∈N)(t:∀b∈N,b∈i):pL we gb chs i a w':=by
 rcases h with⟨e,B⟩|⟨q,p,A,c,e,y,B,l,j⟩
 ·exact qX ⟨e,f.xW B (qW _ d)⟩
 ·refine qY ⟨q,p,A,c,e,y,f.xW B (qW _ d),⟨l.1, ?_⟩,fun b u=>t b (j b u)⟩;rcases l.2 with o|⟨g,cap,n,m,d,v,rest⟩
  ·exact qX o
  ·exact qY ⟨g,cap,n,m,d,(f.block g (qW _ (j g (ja.2 (by rw[m];rfl))))).trans v,rest⟩
theorem gg.below(api:j8 At)(h:gg At w0 gd gl gx gs r seed S L chs D E we gb Rv R s k lv a cnt N wr)(c:Below wr.1.size wr w'):gg At w0 gd gl gx gs r seed S L chs D E we gb Rv R s k lv a cnt N w':=by
 have d:=h.st.xg c;exact⟨h.row.below c (qK _),h.rv.below c (qK _),pL.keep h.box d h.gb (fun b c=>c),h.st.below api c,h.kept.trans (d.less (fun b c=>qJ _ c)),h.gb,h.ol,h.xw,h.low⟩
theorem gg.zX(api:j8 At)(h:gg At w0 gd gl gx gs r seed S L chs D E we gb Rv R s k lv a cnt N wr)(g:we.1.size<=wr.1.size)(c:Below wr.1.size wr w'){B:List Nat}(d:∀x∈B,wr.1.size<=x/\x<w'.1.size):gg At w0 gd gl gx gs r seed S L chs D E we gb Rv R s k lv a cnt (B++N) w':=by
 have f:=h.st.xg c;refine⟨h.row.below c (qK _),h.rv.below c (qK _),pL.keep h.box f h.gb (fun b c=>qJ _ c),by rw[qh];exact h.st.more api c d,h.kept.trans (f.less (fun b c=>qJ _ c)),qJ _ h.gb,fun b c=>qJ _ (h.ol b c),fun b c=>qJ _ (h.xw b c),fun b c=>?_⟩;rcases qD.1 c with q|q
 ·have:=(d b q).1;omega
 ·exact h.low b q
theorem gg.more(api:j8 At)(h:gg At w0 gd gl gx gs r seed S L chs D E we gb Rv R s k lv a cnt N wr)(hl:we.1.size<=wr.1.size)(Z:w0.1.size<=we.1.size)(hR:R.length<=100000){e:jI}{x:jb}(O:R[k]? = some e)(Y:uw (jR 0 chs) s e=[x])(M:∀b∈E,b<we.1.size)(F:TypeId):
  ∃C H w',(Builtin.append_ #[36,36] F #[lv,.slice (some ⟨wr.1.size,0,none⟩) 1 1]).run prog (wr.alloc (.cells (bL x) 66))=.ok C w'/\gg At w0 gd gl gx gs r seed S L chs D E we gb Rv R s (k+1) C a cnt H w':=by
 have n:=(qG wr.1.size wr).alloc (qK _) (.cells (bL x) 66);have f:=h.below api n;have y:=Dl wr x;obtain⟨l,X⟩:∃l,wr.alloc (.cells (bL x) 66)=l:=⟨_,rfl⟩
 rw[X]at f y n ⊢;have aa:((R.take k).flatMap (uw (jR 0 chs) s)).length<=100000:=qR (FK _ _ _) (by rw[qT];omega);have hz:=n.size;obtain⟨A,c,w',I,m,J,K⟩:=KI f.row y (by rw[List.length_singleton];omega) (by omega) F;have t:∀b∈jS lv,we.1.size<=b/\b<l.1.size:=fun b d=>f.row.own b d
 have i:jP (jS lv) l w':=(jP.refl _ _).grown J (fun j P=>qX (ja.2 P));have z:=FV (uw (jR 0 chs) s) O;rw[Y]at z
 have U:∀b∈jS (.slice A (((R.take k).flatMap (uw (jR 0 chs) s)).length+[x].length) c),b∈jS lv∨b=l.1.size:=fun b d=>by
  have d:=ja.1 d;rcases K with q|q
  ·exact qX (ja.2 (by rw[<-q];exact d))
  ·rw[q]at d;exact qY (qb d).symm
 have hst:=f.st.xL api (E':=(jS (.slice A (((R.take k).flatMap (uw (jR 0 chs) s)).length+[x].length) c)++N)++E) i (fun b d=>⟨qW _ (f.ol b d),by have:=(t b d).1;omega⟩) (fun b d=>by
  rcases qD.1 d with q|q
  ·rcases qD.1 q with q|q
   ·rcases U b q with j|j
    ·exact qX (qW _ (f.ol b j))
    ·exact qY ⟨by omega,(m.lt b (ja.1 q)).2⟩
   ·exact qX (qW _ q)
  ·exact qX (qJ _ q))
 have T:∀b∈E,b<l.1.size/\b ∉ jS lv:=fun b d=>⟨f.st.lt b (qJ _ d),fun g=>by have:=(t b g).1;have:=M b d;omega⟩
 have Q:=jM.xP i T
 have u:gb ∉ jS lv:=fun g=>by
  rcases f.box with⟨-,B⟩|⟨q,p,o,c2,-,-,B,-⟩
  ·exact vO f.row B (by decide) (ja.1 g)
  ·exact vO f.row B (by decide) (ja.1 g)
 refine⟨_,jS (.slice A (((R.take k).flatMap (uw (jR 0 chs) s)).length+[x].length) c)++N,w',I,⟨by rw[z];unfold kI;rw[qL];unfold kI at m;rw[qL]at m;exact m, ?_, ?_,hst,f.kept.trans Q,qJ _ f.gb,fun b d=>qW _ d,fun b d=>qJ _ (f.xw b d),fun b d=>?_⟩⟩
 ·exact cQ f.rv i (fun b d g=>dF f.row f.rv (by decide) b d (ja.1 g))
 ·rcases f.box with⟨e,B⟩|⟨q,p,o,c2,e,W,B,v,V⟩
  ·exact qX ⟨e,B.xC i u⟩
  ·exact qY ⟨q,p,o,c2,e,W,B.xC i u,cQ v i (fun b d g=>dF f.row v (by decide) b d (ja.1 g)),fun b d=>qJ _ (V b d)⟩
 ·rcases qD.1 d with q|q
  ·exact(m.lt b (ja.1 q)).1
  ·exact f.low b q
theorem gg.skip(h:gg At w0 gd gl gx gs r seed S L chs D E we gb Rv R s k lv a cnt N wr){e:jI}(c:R[k]? = some e)(d:uw (jR 0 chs) s e=[]):gg At w0 gd gl gx gs r seed S L chs D E we gb Rv R s (k+1) lv a cnt N wr:=by
 have b:=FV (uw (jR 0 chs) s) c;rw[d,List.append_nil]at b;exact⟨by rw[b];exact h.row,h.rv,h.box,h.st,h.kept,h.gb,h.ol,h.xw,h.low⟩
theorem gg.read(api:j8 At)(h:gg At w0 gd gl gx gs r seed S L chs D E we gb Rv R s k lv a cnt N wr)(K:w0.1.size<=we.1.size)(H:we.1.size<=wr.1.size)(F:∀b∈E,b<we.1.size){q:Nat}{p:Tw}(I:(q,p)∈jR 0 chs){A:Option Addr}{c:Nat}(t:mj w' wr.1.size (.slice A (bgL p).length c) (bgL p))
  (y:jg At w0 gd gl gx gs r seed S L chs { D with count:=cnt+2 } (jS (.slice A (bgL p).length c)++(N++E)) w') (i:jM (N++E) wr w'):
  (∃m n o,jN w' gb 92 #[m,n,o])/\gg At w0 gd gl gx gs r seed S L chs D E we gb Rv R s k lv ((q:Nat):Int) (cnt+2) (jS (.slice A (bgL p).length c)++N) (((w'.setCell ⟨gb,0,none⟩ (.string (bgS p))).setCell ⟨gb,1,none⟩ (.int .i64 (bgF p))).setCell ⟨gb,2,none⟩ (.slice A (bgL p).length c)):=by
 have M:=h.low gb h.gb
 have C:∃m n o,jN w' gb 92 #[m,n,o]:=by
  rcases h.box with⟨-,B⟩|⟨q,p,J,c2,-,-,B,-⟩
  ·exact⟨_,_,_,i.xW B (qW _ h.gb)⟩
  ·exact⟨_,_,_,i.xW B (qW _ h.gb)⟩
 obtain⟨m,n,o,B⟩:=C;have l:=KP (g:=gb) (w:=w') (.string (bgS p)) (.int .i64 (bgF p)) (.slice A (bgL p).length c);have z:=((B.put 0 (.string (bgS p))).put 1 (.int .i64 (bgF p))).put 2 (.slice A (bgL p).length c);have u:=i.x8 h.row (fun b d=>qW _ (h.ol b d));have v:=i.row h.rv (fun b d=>qW _ (h.xw b d));refine⟨⟨m,n,o,B⟩,⟨cQ u l (fun b d f=>?_),cQ v l (fun b d f=>?_),qY ⟨q,p,A,c,rfl,I,z, ?_,fun b d=>qW _ d⟩,y.xL api l (fun b d=>⟨?_, ?_⟩) (fun b d=>qX ?_), ?_,qJ _ h.gb,fun b d=>qJ _ (h.ol b d),fun b d=>qJ _ (h.xw b d),fun b d=>?_⟩⟩
 ·rw[qH.1 f]at d;exact vO u B (by decide) d
 ·rw[qH.1 f]at d;exact vO v B (by decide) d
 ·exact lC (cQ t l (fun b d f=>by
   rw[qH.1 f]at d;exact vO t B (by decide) d)) H
 ·rw[qH.1 d];exact qJ _ (qW _ h.gb)
 ·rw[qH.1 d];omega
 ·rcases qD.1 d with j|j
  ·rcases qD.1 j with j|j
   ·exact qW _ j
   ·exact qJ _ (qW _ j)
  ·exact qJ _ (qJ _ j)
 ·refine h.kept.trans ((i.less (fun b d=>qJ _ d)).trans (jM.xP l (fun b d=>⟨y.lt b (qJ _ (qJ _ d)),fun f=>?_⟩)));rw[qH.1 f]at d;have:=F gb d;omega
 ·rcases qD.1 d with j|j
  ·have:=(t.lt b (ja.1 j)).1;omega
  ·exact h.low b j
end
end
section
open Go.RowKit
theorem qVw(x:jb)(c:x.e.b<18446744073709551616)(w:World):Calls prog 48 #[.agg (bL x),.agg (bL x)] w (X3 (.bool true) w):=by
 obtain⟨s,v,⟨t,d,b⟩⟩:=x;simp only at c;have j:Below w.1.size w ((w.alloc (.cells (bL ⟨s,v,⟨t,d,b⟩⟩) 66)).alloc (.cells (bL ⟨s,v,⟨t,d,b⟩⟩) 66)):=((qG _ _).alloc (qK _) _).alloc (by simp) _;have f:=qQ j;have g:=qQ fun W=>Ss t d b t d b W c c
 rw[Sg]at g;have m:=ox (a:=s) rfl;have n:v=v:=rfl;clear c j;unfold bL at*;go_enter func48,ntmps48
 go_wp2_with (first
  | (go_at_call 96;((with_reducible refine(g.out _).mono ?_);rintro e o⟨rfl,i⟩;have l:=qQ i;clear i))
  | fail)
 go_ret;exact⟨rfl,f.out.trans (l.out.mono f.out.size)⟩
theorem FY{w:World}{va vb:Value}{l:List jb}(X:fv w va l)(Y:fv w vb l)(hn:l.length<=100000)(hl:∀x∈l,x.e.b<18446744073709551616):Calls prog 22 #[va,vb] w (X3 (.bool true) w):=by
 obtain⟨A,f,ca,rfl,-,Z⟩:=X.form;obtain⟨B,g,cb,rfl,-,aa⟩:=Y.form;have HA:=qQ Z;have HB:=qQ aa;have HL:=qQ hl;clear X Y Z aa hl;obtain⟨n,u⟩:∃n,n=l.length:=⟨_,rfl⟩
 have HN:=qQ u;rw[<-u];rw[<-u]at hn;clear u;go_enter func22,ntmps22;go_wp2;go_loopw [5] (fun i wr=>∃k:Nat,k<=n/\i=.int .i64 (k:Nat)/\Below w.1.size w wr) (fun i _=>n-(intOf i).toNat)
 case atStart=>exact⟨0,qI _,rfl,qG _ _⟩
 case round =>
  obtain⟨k,hk,rfl,o⟩:=hrel;have z:=qQ o;by_cases ae:k<n
  ·obtain⟨x,y⟩:∃x,l[k]? = some x:=⟨_,qE (by rw[<-HN.out];exact ae)⟩
   obtain⟨p,rfl,j,H,I,J,K,M⟩:=HA.out k x y;obtain⟨q,rfl,m,O,P,Q,T,U⟩:=HB.out k x y;have C:=qQ fun W=>qVw x (HL.out x (qN y)) W
   have F:Hid (∀W,Below wr.1.size wr W->Below wr.1.size wr W/\W.cell? ⟨p,f+k*5,none⟩=some (.string x.s)/\W.cell? ⟨p,f+k*5+1,none⟩=some (.int .i64 x.v)/\W.cell? ⟨p,f+k*5+2,none⟩=some (.string x.e.t)/\W.cell? ⟨p,f+k*5+3,none⟩=some (.string x.e.d)/\W.cell? ⟨p,f+k*5+4,none⟩=some (.float .f64 x.e.b) /\
     W.cell? ⟨q,g+k*5,none⟩=some (.string x.s)/\W.cell? ⟨q,g+k*5+1,none⟩=some (.int .i64 x.v)/\W.cell? ⟨q,g+k*5+2,none⟩=some (.string x.e.t)/\W.cell? ⟨q,g+k*5+3,none⟩=some (.string x.e.d)/\W.cell? ⟨q,g+k*5+4,none⟩=some (.float .f64 x.e.b)) :=
    qQ fun W V=>by
     have c:=o.trans (V.mono o.size);exact⟨V,ka c j H,ka c j I,ka c j J,ka c j K,ka c j M,ka c m O,ka c m P,ka c m Q,ka c m T,ka c m U⟩
   have ac:=F.out wr (qG _ _);have s1:(k:Int)<(n:Int):=(by omega);obtain⟨xs,xv,⟨xt,xd,xb⟩⟩:=x;simp only at F ac;unfold bL at C;simp only at C;clear H I J K M O P Q T U y o;go_wp2_with fail
   go_region_held3 (fun W=>Below wr.1.size wr W/\W.cell? ⟨p,f+k*5,none⟩=some (.string xs)/\W.cell? ⟨p,f+k*5+1,none⟩=some (.int .i64 xv)/\W.cell? ⟨p,f+k*5+2,none⟩=some (.string xt)/\W.cell? ⟨p,f+k*5+3,none⟩=some (.string xd)/\W.cell? ⟨p,f+k*5+4,none⟩=some (.float .f64 xb) /\
     W.cell? ⟨q,g+k*5,none⟩=some (.string xs)/\W.cell? ⟨q,g+k*5+1,none⟩=some (.int .i64 xv)/\W.cell? ⟨q,g+k*5+2,none⟩=some (.string xt)/\W.cell? ⟨q,g+k*5+3,none⟩=some (.string xd)/\W.cell? ⟨q,g+k*5+4,none⟩=some (.float .f64 xb))
    (first|(with_reducible assumption)|((with_reducible refine F.out _ ?_);(first|(with_reducible assumption)|(with_reducible exact qG _ _)|(with_reducible exact(qG _ _).drew)|exact(Gz ‹Below _ _ _› (by with_reducible assumption)));done)|fail)
    (first
    | (go_at_call 48;((with_reducible refine KG (C.out _) fun w3 ad=>?_);have ab:=Gz (W0:=wr) ad (by with_reducible assumption)))
    | fail)
   all_goals
    go_wp2;go_roundw
    case rel=>exact⟨k+1,by omega,by go_num,z.out.trans (ab.mono z.out.size)⟩
    case measure=>simp[intOf];omega
  ·obtain rfl:k=n:=(by omega);have s1:¬(k:Int)<(k:Int):=(by omega);go_wp2;go_ret;exact⟨rfl,z.out⟩
end
end Go.Proofs.YthejglbnkmimjaaGreat
