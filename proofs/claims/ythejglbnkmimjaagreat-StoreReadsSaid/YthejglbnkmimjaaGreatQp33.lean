import Derived.Test.YthejglbnkmimjaaGreatQp32
set_option linter.unusedVariables false
set_option maxRecDepth 100000
set_option maxHeartbeats 9000000
namespace Go.Proofs.YthejglbnkmimjaaGreat
open Proofs.Tryz
section
open Go.RowKit Go.Shelf
def qKE(At:jR)(w0:World)(gd gx r:Nat)(S:IxS)(D:jD)(x:Nat)(b:Int)(m:Nat)(E:List Nat)(w:World)(e:Ending)(w':World):Prop :=
 ∃(z:Int) (k:Nat),k<=m/\uw (uX S) x b z/\e=.returned (.tuple #[z,.int .i64 0])/\jf At w0 gd gx r S { D with count:=D.count+k } E w'/\jE E w w'
theorem DV{l:List jC}(c:∀x∈l,kz x)(h:Nat)(b:Int):-9223372036854775808<=(vm l h b).v/\(vm l h b).v<=9223372036854775807:=by
 unfold vm;cases d:fK l h b with
 | none=>exact⟨by decide,by decide⟩
 | some y =>
   have f:y∈l.filter (upQ h b):=List.mem_of_getLast? d;obtain⟨g,i,j,m,n⟩:=c y (qo.1 f).1;exact⟨by show _<=y.v;omega,by show y.v<=_;omega⟩
section
variable {At:jR}(api:jS At)(nap:jw){w0 w w':World}{gd gx r:Nat}{S:IxS}{D:jD}{E:List Nat}
include api nap
theorem qKF(h:jf At w0 gd gx r S D E w)(ok:kB D S)(wf:WfP D)(hc:D.count<=1000000000)(hd:D.down=false)(ht:gH S<=40000)(x:Nat)(hx:x<18446744073709551616)(b:Int)(wb:(Lit.int .i64 b).wf=true):
  Calls prog 86 #[ptr gx,.int .u64 (x:Nat),.int .i64 b] w (qKE At w0 gd gx r S D x (kY b) S.T.length E w):=by
 obtain⟨Q,I,F,d1,hM,d3,d4,U,d6⟩:=h;obtain⟨gm,A,cp,B,c2,V,o⟩:=hM.cells;obtain⟨c0,-,-,-,-,-,c6,-,c8⟩:=o.cs;have aZ:=qQ (od c0);have bb:=bounds_i64 wb;have ba:(if (1073741824:Int)<b then 1073741824 else b)=kY b:=by unfold kY;split<;>omega
 have bi:min b 1073741824=kY b:=rfl;have af:=Px o.mem.has (by unfold gH at ht;omega) x (kY b);have aj:=qQ (fun(D':jD) (W:World) (hd:DS At w0 gd D' (Q++(I++(F++E))) W) (f:jE (Q++(I++(F++E))) w W)=>jf.back (N:=[]) hM d1 d3 d4 U d6 hd f (fun b c=>by cases c));have aa:∀b∈F,b∈Q++(I++(F++E)):=fun b c=>qJ _ (qJ _ (qW _ c))
 have ab:∀b∈I,b∈Q++(I++(F++E)):=fun b c=>qJ _ (qW _ c)
 have ah:∀b∈E,b∈Q++(I++(F++E)):=fun b c=>qJ _ (qJ _ (qJ _ c))
 have a0:V.length=S.T.length:=o.xO.1;have aC:=qQ (DV ok.ok x (kY b));have aO:=qQ (CE ok.xH ok.mayE x (kY b))
 have aP:Hid (∀(k:Nat) (t:TbS) (z:Int),S.T[k]? = some t->uw (fun y=>y∈S.mem∨∃t∈S.T.take k,y∈t.l) x (kY b) z->uw (fun y=>y∈S.mem∨∃t∈S.T.take (k+1),y∈t.l) x (kY b) (max z (if yZ t.l x (kY b)=true then(vm t.l x (kY b)).v else -1))):=qQ fun k t z f Z=>by
  have O:=qM f;refine(Z.both (CE (ok.has t O).props.1 (ok.has t O).props.2.1 x (kY b))).congr fun y=>?_
  rw[qw,f];constructor
  ·rintro ((q|⟨u,K,h2⟩)|q)
   ·exact qX q
   ·exact qY ⟨u,qW _ K,h2⟩
   ·exact qY ⟨t,qJ _ (by simp),q⟩
  ·rintro (q|⟨u,K,h2⟩)
   ·exact qX (qX q)
   ·rcases qE.1 K with K|K
    ·exact qX (qY ⟨u,K,h2⟩)
    ·obtain rfl:u=t:=(by simpa using K);exact qY h2
 have ap:Hid (∀z,uw (fun y=>y∈S.mem∨∃t∈S.T.take S.T.length,y∈t.l) x (kY b) z->uw (uX S) x (kY b) z):=qQ fun z Z=>Z.congr fun y=>by rw[List.take_length];rfl
 have aE:=qQ (fun(t:TbS) (O:t∈S.T)=>DV (ok.has t O).props.2.2 x (kY b));obtain⟨n,aw⟩:∃n,Q++(I++(F++E))=n:=⟨_,rfl⟩
 rw[aw]at d1 aj aa ab ah;have al:=qQ d1
 have HT:=qQ (fun(i g:Nat) (t:TbS) (M:V[i]? = some g) (P:S.T[i]? = some t) (k:Nat) (f:k<=40) (W:World) (hW:DS At w0 gd { D with count:=D.count+k } n W) (aW:jE n w W)=>(show Calls prog 139 #[ptr g,.int .u64 (x:Nat),.int .i64 b] W fun e w'=>∃j,j<=1/\y9 At w0 gd (.tuple #[kv (vm t.l x (kY b)),.bool (yZ t.l x (kY b)),.int .i64 0]) { D with count:=D.count+k+j } n W e w' from by
  obtain⟨H,q1,q2⟩:=o.xO.2 i g t M P;have ac:=qM P;have a9:=Jg ac;have hn:=(ok.xT ac).1;refine(Pj api nap hW (q1.keep aW (fun b c=>aa b (q2 b c))) (fun b c=>aa b (q2 b c)) ⟨wf.synced,wf.used,wf.cap,wf.many⟩ (by show D.count+k<=_;omega) (WalkArith.wf_i64 (by omega)) hd ((ok.has t ac).count _) (ok.keep t ac) (by unfold gH at ht;omega) x hx b wb).mono ?_;rintro e w'⟨j,hj,-,hL⟩;exact⟨j,hj,hL⟩))
 have HP:=qQ (fun(W:World) (f:jE n w W) (i g:Nat) (M:V[i]? = some g)=>(show ∃Y,B=some ⟨Y,0,none⟩/\W.cell? ⟨Y,i,none⟩=some (ptr g) from by
  obtain⟨B',a4,e,-,-,aT⟩:=vt.form (f.xj o.row (fun b c=>ab b (o.xq b c)));obtain⟨rfl,-,-⟩:=Value.slice.inj e;obtain⟨Y,e1,-,-,e2⟩:=aT i g M;exact⟨Y,e1,e2⟩))
 have ak:=qQ (fun(W:World) (f:jE n w W)=>(show W.cell? ⟨gx,6,none⟩=some (.slice B V.length c2) from(f.xW o.xW (ab gx o.own)).cell 6));have aS:=ok.xR;have aG:=qQ ah;obtain⟨m,O⟩:∃m,m=V.length:=⟨_,rfl⟩
 have a_:m<=40:=by omega
 have ai:S.T.length=m:=by omega
 rw[<-O]at c6 ak;rw[ai]at ap ⊢;have a3:Hid (S.T.length=m):=qQ ai;have aI:Hid (∀k,k<m->∃g t,V[k]? = some g/\S.T[k]? = some t):=qQ fun k f=>⟨_,_,qD (by omega),qD (by omega)⟩
 have aL:Hid (∀z,uw (· ∈ S.mem) x (kY b) z->uw (fun y=>y∈S.mem∨∃t∈S.T.take 0,y∈t.l) x (kY b) z):=qQ fun z Z=>Z.congr fun y=>by simp
 unfold UR at af;generalize vm S.mem x (kY b)=le at*;generalize yZ S.mem x (kY b)=lo at*;obtain⟨lh,lv,lp⟩:=le;have aM:=qQ af;clear hM o d1 d3 d4 U d6 ok wf hc hd ht wb aa ab ah a0 aS O ai aw af c0;generalize a5:kY b=cb at*;go_enter func86,ntmps86;go_wp2_with fail;refine X5 aZ.out ?_;go_wp2_with fail;refine KG aM.out fun w1 b1=>?_;have K1:=jE.xA b1 al.out.lt;have D1:=al.out.below api b1;have hA:=(qU w1.1.size w1).alloc (qK _) (.cells #[.int .u64 (lh:Nat),lv,lp] 117);have K2:=K1.trans (jE.xA hA D1.lt);have D2:=D1.below api hA;have EA:=jF.new w1 117 #[.int .u64 (lh:Nat),lv,lp];obtain⟨w2,a1⟩:∃w2,w1.alloc (.cells #[.int .u64 (lh:Nat),lv,lp] 117)=w2:=⟨_,rfl⟩
 rw[a1]at K2 D2 EA;have aF:=qQ D2;have aJ:=qQ K2;have q6:=ak.out _ K2;have ev:=EA.cell 1;clear b1 K1 D1 hA K2 D2 EA c6 c8;have aX:=aC.out;have ar:Hid (∃z0:Int,z0=(if lo=true then lv else -1)/\-9223372036854775808<=z0/\z0<=9223372036854775807/\uw (fun y=>y∈S.mem∨∃t∈S.T.take 0,y∈t.l) x cb z0):=qQ ⟨_,rfl,by split<;>omega,by split<;>omega,aL.out _ aO.out⟩;clear aX;cases lo
 all_goals
  obtain⟨z0,aA,ad,ae,C⟩:=ar.out;simp only[if_true,Bool.false_eq_true,if_false]at aA;subst aA;have aR:=qQ C;have av:=qQ (qG ad ae);clear ad ae C ar;go_wp2;go_loopg [8,37] m (fun g u i wr=>∃(k j:Nat) (z:Int),k+g=m/\j<=k/\i=.int .i64 k/\u=.int .i64 z/\-9223372036854775808<=z/\z<=9223372036854775807/\uw (fun y=>y∈S.mem∨∃t∈S.T.take k,y∈t.l) x cb z/\DS At w0 gd { D with count:=D.count+j } n wr/\jE n w wr)
  case atStart=>exact⟨0,0,_,by omega,qK _,rfl,rfl,av.out.1,av.out.2,aR.out,aF.out,aJ.out⟩
  case round =>
   obtain⟨k,j,z,a7,aU,rfl,rfl,ad,ae,C,ax,ay⟩:=hrel;have a8:k<=m:=(by omega);have an:=qQ ax;have X:=qQ ay;have HZ:=qQ C;clear ax ay C;cases gk with
   | zero =>
     obtain rfl:k=m:=(by omega);have s1:¬(k:Int)<(k:Int):=(by omega);have aH:=qQ (aj.out { D with count:=D.count+j } wr an.out X.out);have aQ:=qQ (ap.out z HZ.out);have aK:=qQ (X.out.less aG.out);go_wp2;go_ret2;exact⟨z,j,aU,aQ.out,rfl,aH.out,aK.out⟩
   | succ gi =>
     have aV:k<m:=(by omega);have s1:(k:Int)<(m:Int):=(by omega);obtain⟨g,t,M,P⟩:=aI.out k aV;obtain⟨Y,rfl,q1⟩:=HP.out wr X.out k g M;have aq:=HT.out k g t M P j (by omega) wr an.out X.out;have J:=aP.out k t z P HZ.out;have aD:=aE.out t (qM P);clear M P;generalize vm t.l x cb=te at*;generalize yZ t.l x cb=tq at*;obtain⟨th,d,tp⟩:=te;simp only at aD;have aN:=qQ aq;clear aq;go_wp2_with fail;refine aN.out.mono ?_;rintro e w5⟨j2,a6,rfl,U,k5⟩;have k6:=X.out.trans k5;have hB:=(qU w5.1.size w5).alloc (qK _) (.cells #[.int .u64 (th:Nat),d,tp] 117);have k7:=k6.trans (jE.xA hB U.lt);have d7:=U.below api hB;have EB:=jF.new w5 117 #[.int .u64 (th:Nat),d,tp];obtain⟨w6,a2⟩:∃w6,w5.alloc (.cells #[.int .u64 (th:Nat),d,tp] 117)=w6:=⟨_,rfl⟩
     rw[a2]at k7 d7 EB;rw[Nat.add_assoc]at d7;have et:=EB.cell 1;have am:=qQ d7;have ao:=qQ k7;clear U k5 k6 hB k7 d7 EB;have aY:∀ts ty w,(Builtin.max_ ts ty #[.int .i64 z,d]).run prog w=.ok (.int .i64 (max z d)) w:=fun ts ty w=>by rw[run_max_int2,show(if z<d then(d:Int) else z)=max z d by split<;>omega]
     cases tq
     ·have az:max z (-1)=z:=Int.max_eq_left HZ.out.2.2;simp only[Bool.false_eq_true,if_false]at J;rw[az]at J;have ag:=qQ J;clear J az aY;go_wp2;go_roundg gi
      case measure=>omega
      case rel=>exact⟨k+1,j+j2,z,by omega,by omega,by go_num,rfl,ad,ae,ag.out,am.out,ao.out⟩
     ·simp only[if_true]at J;have ag:=qQ J;have C:-9223372036854775808<=max z d:=(by omega);have aB:max z d<=9223372036854775807:=(by omega);have au:=qQ (qG C aB);clear J C aB;go_wp2;go_roundg gi
      case measure=>omega
      case rel=>exact⟨k+1,j+j2,max z d,by omega,by omega,by go_num,rfl,au.out.1,au.out.2,ag.out,am.out,ao.out⟩
end
theorem DY{D:jD}{L:jq}(ok:WfP D):WfP (yJ D L).2.1:=by
 unfold yJ;split
 ·exact ok
 ·exact Zh ok
structure je(At:jR)(w0:World)(gd gl gx r:Nat)(S:IxS)(L:jq)(chs:List (List Tw))(D:jD)(E:List Nat)(w:World):Prop where
 ix:jf At w0 gd gx r S D (gl::E) w
 log:jF w gl 130 (gW (ptr gl) gd L)
 xF:gl ∉ E
 low:w0.1.size<=gl
 ok:kB D S
 dk:yN (bI chs.length) D S
 xI:kj D chs
 gl:uA D L chs
structure DU(N:Nat)(D E:jD)(S S':IxS):Prop where
 cap:E.cap=D.cap
 xB:E.xB=D.xB
 count:E.count<=D.count+N
 has:∀x,uX S' x↔uX S x
 xO:∀x,(∃t∈S.T,x∈t.l)->∃t∈S'.T,x∈t.l
 seed:S'.m.seed=S.m.seed
def cm(D E:jD):Prop:=(jN E.l jh).map jI.data=(jN D.l jh).map jI.data
theorem cm.refl(D:jD):cm D D:=rfl
theorem Jp{D:jD}{chs:List (List Tw)}(g:kj D chs):vB chs<=819200:=by
 unfold vB;split
 ·omega
 ·obtain⟨f,-,-,b,c⟩:=rA g (by omega);have:=g.many;omega
theorem DG{X:List Tw}{D:jD}{S:IxS}(dk:yN X D S)(ok:kB D S){n:Nat}(F:S.m.next=(n:Nat))(b:n<=999999){l:List jC}(j:kG l)(i:∀x∈l,mayE x=true)(u:∀x∈l,kz x)(g:l.length<=10000)(t:Tw)(hw:(kA D n l t).1=0):
  (tgL (rdW (kA D n l t).2 (ptT n)).1).length<=10000:=by
 have c:=Qz j i;obtain⟨H,v⟩:=dk.none_ ok;obtain⟨y,z⟩:=v n b (by omega);have C:=dk.many ok;by_cases o:jM D.l+t.size+(tbB l).size+6000<=D.cap
 ·obtain⟨A,f,d⟩:=CK dk.up (n:=n) b c (t:=t) (by omega) y z o;rw[f,(Cg d.up.down (d.has (by omega) u c)).2];exact g
 ·rw[CV dk.up (n:=n) b c (t:=t) (by omega)]at hw;exact absurd (show(60:Nat)=0 from hw) (by decide)
section
variable {At:jR}(api:jS At){w0 w w':World}{gd gl gx r:Nat}{S S':IxS}{L:jq}{chs:List (List Tw)}{D D':jD}{E E' B N:List Nat}
theorem je.lt(h:je At w0 gd gl gx r S L chs D E w):∀b∈gl::E,b<w.1.size:=h.ix.lt
theorem je.xL(api:jS At)(h:je At w0 gd gl gx r S L chs D E w)(i:jH B w w')(d:∀b∈B,b∈E/\w0.1.size<=b)(g:∀b∈E',b∈E∨(w.1.size<=b/\b<w'.1.size)):je At w0 gd gl gx r S L chs D E' w':=by
 have l:=h.lt gl qC;have j:gl ∉ B:=fun f=>h.xF (d gl f).1
 refine⟨h.ix.xL api i (fun b c=>⟨qF _ (d b c).1,(d b c).2⟩) (fun b c=>?_),h.log.xC i j,fun f=>?_,h.low,h.ok,h.dk,h.xI,h.gl⟩
 ·rcases qL.1 c with e|k
  ·rw[e];exact qX qC
  ·exact(g b k).imp (qF _) id
 ·rcases g gl f with k|k
  ·exact h.xF k
  ·omega
theorem je.below(api:jS At)(h:je At w0 gd gl gx r S L chs D E w)(c:Below w.1.size w w'):je At w0 gd gl gx r S L chs D E w':=h.xL api (B:=[]) (jH.xA c) (fun b c=>by cases c) (fun b c=>qX c)
theorem je.drew(api:jS At)(h:je At w0 gd gl gx r S L chs D E w):je At w0 gd gl gx r S L chs D E w.drew:=h.below api (qU _ _).drew
theorem je.less(h:je At w0 gd gl gx r S L chs D E w)(c:∀b∈E',b∈E):je At w0 gd gl gx r S L chs D E' w:=⟨h.ix.less (fun b d=>by
 rcases qL.1 d with e|k
 ·rw[e];exact qC
 ·exact qF _ (c b k)),h.log,fun f=>h.xF (c gl f),h.low,h.ok,h.dk,h.xI,h.gl⟩
theorem je.more(api:jS At)(h:je At w0 gd gl gx r S L chs D E w)(c:Below w.1.size w w')(d:∀b∈B,w.1.size<=b/\b<w'.1.size):je At w0 gd gl gx r S L chs D (B++E) w' :=
 h.xL api (B:=[]) (jH.xA c) (fun b c=>by cases c) (fun b c=>(qE.1 c).elim (fun k=>qY (d b k)) qX)
theorem je.base(h:je At w0 gd gl gx r S L chs D E w):Below w0.1.size w0 w:=h.ix.kept
theorem je.chunks(h:je At w0 gd gl gx r S L chs D E w):L.chunks<=200:=by rw[h.gl.xS];exact h.xI.many
theorem je.from(h:je At w0 gd gl gx r S L chs D E w)(hi:jf At w0 gd gx r S' D' (gl::E) w')(c:jE (gl::E) w w')(ok:kB D' S')(dk:yN (bI chs.length) D' S')(g:kj D' chs)(f:D'.xB=D.xB):je At w0 gd gl gx r S' L chs D' E w'/\jE E w w' :=
 ⟨⟨hi,c.xW h.log qC,h.xF,h.low,ok,dk,g,h.gl.zN f⟩,c.less (fun b d=>qF _ d)⟩
theorem je.zH(h:je At w0 gd gl gx r S L chs D E w)(k:Nat):kj { D with count:=k } chs:=h.xI.same (vj.count D k)
include api
theorem qKH(h:je At w0 gd gl gx r S L chs D E w){x:jC}(b:kz x)(f:S.mem.length<=100000):Calls prog 89 #[ptr gx,kv x] w fun e w'=>e=.returned (err (mA x))/\je At w0 gd gl gx r (fL S x) L chs D E w'/\jE E w w':=by
 refine(qJY api h.ix b f).mono ?_;rintro e w'⟨rfl,c,d⟩;refine⟨rfl,h.from c d ?_ ?_ h.xI rfl⟩
 ·unfold fL;split
  ·exact h.ok.add b (by assumption)
  ·exact h.ok
 ·unfold fL;split
  ·exact⟨h.dk.up,h.dk.nodup,h.dk.only,h.dk.x7,h.dk.xx⟩
  ·exact h.dk
theorem qKI(h:je At w0 gd gl gx r S L chs D E w):Calls prog 31 #[ptr gx] w (ch w S.m.next S.m.check S.m.seed S.m.lv):=CR api h.ix h.ok
variable (nap:jw)
include nap
def qKL(At:jR)(w0:World)(gd gl gx r:Nat)(S:IxS)(L:jq)(chs:List (List Tw))(D:jD)(R:List jC)(E:List Nat)(w:World)(e:Ending)(w':World):Prop :=
 ∃A c k,k<=S.T.length/\e=.returned (.tuple #[.slice A R.length c,.int .i64 0])/\jy w' w.1.size (.slice A R.length c) R/\je At w0 gd gl gx r S L chs { D with count:=D.count+k } (jL (.slice A R.length c)++E) w'/\jE E w w'
omit api nap in
theorem uA.count(h:uA D L chs)(k:Nat):uA { D with count:=k } L chs:=⟨h.xB,h.xS,h.endp,h.sure⟩
theorem qKM(iap:uy At)(h:je At w0 gd gl gx r S L chs D E w)(hc:D.count<=900000000){n:Nat}(C:S.m.next=(n:Nat))(H:n<=999999)(hr:r<18446744073709551616)(hl:S.mem.length<=1000):
  Calls prog 36 #[ptr gx,ptr gl] w fun e w'=>∃k E' S',e=.returned (err k)/\je At w0 gd gl gx r S' { L with sure:=L.endp } chs E' E w'/\jE E w w'/\DU 2 D E' S S' /\
   ((k=0/\S.mem=[]/\S'=S/\cm D E'/\jM E'.l=jM D.l) ∨
    (k=0/\S.mem≠[]/\S'.mem=[]/\S'.m=jo S (kI S.m.lv n) (vB chs:Nat)/\S'.T.length=S.T.length+1/\(jN E'.l jh).map jI.data=some (mfB S'.m)/\jM E'.l<=jM D.l+28*S.mem.length+460) ∨
    (k=60/\S.mem≠[]/\S'=S/\cm D E'/\jM E'.l<=jM D.l/\(S.T.length=40∨D.cap<jM D.l+28*S.mem.length+6460))):=by
 obtain⟨F,g,b,K⟩:=GA h.xI h.gl
 have X:WfP F:=by
  have:=DY (L:=L) h.dk.up.wf;rw[g]at this;exact this
 have o:=h.ok.zl b;have v:=h.dk.same b X;have Z:=h.xI.same b;have ag:=Jp h.xI;have ac:=h.gl.endp;have V:=h.ok.may
 obtain⟨J,W⟩:∃J:Nat,vo S.m.lv n=(J:Nat):=by
  rw[CH V.2.2.2.2.1 (n:=(n:Nat)) (by omega) (fun x hx=>by have:=V.2.2.2.2.2 x hx;omega)];split
  ·exact⟨60,rfl⟩
  ·exact⟨0,rfl⟩
 have P:=qJ7 api nap iap h.ix h.log h.xF h.low h.dk.up.wf h.chunks (by rw[g];exact X) (by rw[g];exact v.up.down) (by rw[g];show F.count<=_;rw[K];omega) h.ok n C H hr hl J W
  (fun t I=>by rw[g];exact DG v o C H o.xH o.mayE o.ok (by omega) t)
 rw[g]at P;refine P.mono ?_;rintro e w'⟨t,I,rfl,A,Q,hk⟩;simp only at A Q ⊢;obtain⟨k,E',S',y,M,f,O,gs,ae⟩:=qJm v o C H (by omega) t (en:=(vB chs:Nat)) (by omega) (by omega) W;rw[<-ac]at y M;rw[y,M]at A;rw[y];have ab:=f.xI Z;have hst:E'.xB=D.xB:=f.xB.trans b.xB;have aa:uA E' { L with sure:=L.endp } chs:=⟨hst.trans h.gl.xB,h.gl.xS,h.gl.endp,qK _⟩
 refine⟨k,E',S',rfl,⟨A,Q,h.xF,h.low,f.ok,f.dk,ab,aa⟩,hk,⟨f.cap.trans b.cap,hst,by rw[K]at O;exact O,f.has,f.xO,gs⟩, ?_⟩;have U:cm D F:=b.data jh;have ah:=ph S.mem;have hu:=b.used;have af:=b.cap;rcases ae with⟨i,c,j,d⟩|⟨i,c,j,d,u,Y,a7⟩|⟨i,c,j,d,u⟩
 ·refine qX ⟨i,c,j, ?_, ?_⟩
  ·rw[d];exact U
  ·rw[d];exact hu
 ·have z:bG S.mem r t:=by
   rcases I with q|q|q
   ·exact absurd q c
   ·exact absurd rfl q
   ·exact q
  have ad:=pt (by omega) z;refine qY (qX ⟨i,c,j,d,u, ?_,by omega⟩);rw[Y];rfl
 ·have z:bG S.mem r t:=by
   rcases I with q|q|q
   ·exact absurd q c
   ·exact absurd rfl q
   ·exact q
  have ad:=pt (by omega) z;have ai:=d.used;refine qY (qY ⟨i,c,j, ?_,by omega,u.imp id (fun q=>by omega)⟩);unfold cm;rw[d.files];exact U
theorem qKN(iap:uy At)(h:je At w0 gd gl gx r S L chs D E w)(hc:D.count<=900000000){n:Nat}(u:S.m.next=(n:Nat))(v:n<=999999)(X:r<18446744073709551616)(Z:gH S<=40000)(lev:Int)(P:(ka S (kU S.m.lv lev)).length<=1000)(b:Nat)(z:vV S.m.lv lev=(b:Nat)):
  Calls prog 37 #[ptr gx,lev] w fun e w'=>∃k E' S',e=.returned (err k)/\je At w0 gd gl gx r S' L chs E' E w'/\jE E w w'/\DU 50 D E' S S'/\S'.m.check=S.m.check/\S'.mem=S.mem /\
   ((k=b/\b≠0/\S'=S/\cm D E'/\jM E'.l=jM D.l) ∨
    (k=0/\b=0/\S'.m=jo S (kq S.m.lv lev n) S.m.check/\S'.T.length<=S.T.length/\(jN E'.l jh).map jI.data=some (mfB S'.m)/\jM E'.l<=jM D.l+28*(ka S (kU S.m.lv lev)).length+460) ∨
    (k=60/\b=0/\S'=S/\cm D E'/\jM E'.l<=jM D.l/\D.cap<jM D.l+28*(ka S (kU S.m.lv lev)).length+6460)):=by
 have W:=h.ok.may;have J:yA S.m.lv lev n=(b:Nat):=by rw[CI (by omega) (fun x hx=>by have:=W.2.2.2.2.2 x hx;omega),z]
 have ac:=h.ok.xR
 refine(qJk api nap iap h.ix h.dk.up.wf h.dk.up.down (by omega) h.ok n u v X Z lev P b z b J
  (fun k t U o=>DG (D:={ D with count:=D.count+k }) (h.dk.count (D.count+k)) (h.ok.count (D.count+k)) u v (Qx h.ok _) (fun y A=>(oc h.ok _ y A).2) (fun y A=>(oc h.ok _ y A).1) (by omega) t)).mono ?_
 rintro e w'⟨t,k,U,o,rfl,I,V⟩;obtain⟨f,E',S',F,K,c,gc,gs,M,O,ab⟩:=qJn h.dk h.ok u v (lev:=lev) (by omega) t k z J;rw[F,K]at I;rw[F];have Q:=c.xI h.xI;have H:=h.from I V c.ok c.dk Q c.xB;refine⟨f,E',S',rfl,H.1,H.2,⟨c.cap,c.xB,by omega,c.has,c.xO,gs⟩,M,O, ?_⟩;have ad:=ph (ka S (kU S.m.lv lev));rcases ab with⟨i,d,j,g⟩|⟨i,d,j,g,C,a6⟩|⟨i,d,j,g,C⟩
 ·exact qX ⟨i,d,j,by rw[g];exact cm.refl D,by rw[g]⟩
 ·have Y:=pt (by omega) (o.resolve_left (fun q=>q d));exact qY (qX ⟨i,d,j,g,by rw[C];rfl,by omega⟩)
 ·have Y:=pt (by omega) (o.resolve_left (fun q=>q d));have aa:=g.used;simp only at aa;refine qY (qY ⟨i,d,j, ?_,by omega,by omega⟩);exact congrArg (Option.map jI.data) (g.files jh)
theorem qKO(h:je At w0 gd gl gx r S L chs D E w)(u:D.count<=1000000000)(m:gH S<=40000)(x:Nat)(n:x<18446744073709551616)(a b:Int)(o:(Lit.int .i64 a).wf=true)(t:(Lit.int .i64 b).wf=true):
  Calls prog 60 #[ptr gx,.int .u64 (x:Nat),a,.int .i64 b] w (qKL At w0 gd gl gx r S L chs D (vf S x a b) E w):=by
 refine(qJ8 api nap h.ix h.ok h.dk.up.wf (by omega) h.dk.up.down m x n a b o t).mono ?_;rintro e w'⟨A,c,k,j,rfl,g,i,f⟩;refine⟨A,c,k,j,rfl,g,⟨i.less (fun b d=>?_),f.xW h.log qC,fun l=>?_,h.low,h.ok.count _,h.dk.count _,h.zH _,h.gl.count _⟩,f.less (fun b d=>qF _ d)⟩
 ·rcases qL.1 d with e|q
  ·rw[e];exact qJ _ qC
  ·rcases qE.1 q with q|q
   ·exact qW _ q
   ·exact qJ _ (qF _ q)
 ·rcases qE.1 l with q|q
  ·have:=g.lt gl (jt.1 q);have:=h.lt gl qC;omega
  ·exact h.xF q
theorem qKP(h:je At w0 gd gl gx r S L chs D E w)(l:D.count<=1000000000)(f:gH S<=40000)(x:Nat)(g:x<18446744073709551616)(b:Int)(j:(Lit.int .i64 b).wf=true):
  Calls prog 86 #[ptr gx,.int .u64 (x:Nat),b] w fun e w'=>∃(z:Int) (k:Nat),k<=200/\uw (uX S) x (kY b) z/\e=.returned (.tuple #[z,.int .i64 0])/\je At w0 gd gl gx r S L chs { D with count:=D.count+k } E w'/\jE E w w':=by
 refine(qKF api nap h.ix h.ok h.dk.up.wf (by omega) h.dk.up.down f x g b j).mono ?_;rintro e w'⟨z,k,m,i,rfl,c,d⟩;have n:=h.ok.xR;exact⟨z,k,by omega,i,rfl,h.from c d (h.ok.count _) (h.dk.count _) (h.zH _) rfl⟩
theorem qKR(h:je At w0 gd gl gx r S L chs D E w):Calls prog 49 #[ptr gl] w fun e w'=>∃D',e=.returned (.int .i64 0)/\je At w0 gd gl gx r S { L with sure:=L.endp } chs D' E w'/\jE E w w'/\vj D D'/\D'.count=D.count:=by
 obtain⟨F,d,b,i⟩:=GA h.xI h.gl
 have n:WfP F:=by
  have:=DY (L:=L) h.dk.up.wf;rw[d]at this;exact this
 refine(h.ix.log api h.log h.xF h.low (fun c m j=>U5 api nap m j h.dk.up.wf h.chunks)).mono ?_;rintro e w'⟨rfl,g,f,l⟩;rw[d]at g f;rw[d];exact⟨F,rfl,⟨g,f,h.xF,h.low,h.ok.zl b,h.dk.same b n,h.xI.same b,⟨b.xB.trans h.gl.xB,h.gl.xS,h.gl.endp,qK _⟩⟩,l,b,i⟩
theorem qKS(cap:vR)(h:je At w0 gd gl gx r S L chs D E w)(p:Tw)(j:p.size<=2000):Calls prog 88 #[ptr gl,p] w fun e w' =>
  (e=.returned (.tuple #[.int .i64 0,.int .i64 60])/\je At w0 gd gl gx r S L chs D E w'/\jE E w w') ∨
  ∃q D' M chs',e=.returned (.tuple #[.int .i64 (q:Nat),.int .i64 0])/\je At w0 gd gl gx r S M chs' D' E w'/\jE E w w'/\mZ D L chs p q D' M chs':=by
 have y:=h.dk.many h.ok;refine(h.ix.log api h.log h.xF h.low (fun c o m=>U6 api nap cap o m h.dk.up.wf h.chunks p (qR j (by decide)))).mono ?_;rintro e w'⟨rfl,b,d,i⟩;rcases Sr h.xI h.gl p j (by omega) with q|⟨q,D',M,chs',g,f⟩
 ·rw[q]at b d;rw[q];exact qX ⟨rfl,⟨b,d,h.xF,h.low,h.ok,h.dk,h.xI,h.gl⟩,i⟩
 ·have u:WfP D':=by
   have:=U4 (L:=L) h.dk.up.wf p;rw[g]at this;exact this
  rw[g]at b d;rw[g]
  have t:(jl D').Nodup:=CA (b.ds.xH api) (fun n=>by
   cases q:vD n n with
   | true=>exact absurd q (oO n)
   | false=>rfl)
  obtain⟨v,l⟩:=h.dk.app h.ok f u t;exact qY ⟨q,D',M,chs',rfl,⟨b,d,h.xF,h.low,v,l,f.xI,f.log⟩,i,f⟩
theorem qKT(cap:vR)(h:je At w0 gd gl gx r S L chs D E w)(p:Tw)(i:p.size<=2000)(m:chs.length<=199)(y:jM D.l+(p.size+24)+6000<=D.cap):Calls prog 88 #[ptr gl,p] w fun e w' =>
  ∃q D' M chs',e=.returned (.tuple #[.int .i64 (q:Nat),.int .i64 0])/\je At w0 gd gl gx r S M chs' D' E w'/\jE E w w'/\mZ D L chs p q D' M chs':=by
 have C:=h.dk.many h.ok;refine(h.ix.log api h.log h.xF h.low (fun c u o=>U6 api nap cap u o h.dk.up.wf h.chunks p (qR i (by decide)))).mono ?_;rintro e w'⟨rfl,d,g,t⟩;obtain⟨q,D',M,chs',f,b⟩:=Ss h.xI h.gl p i (by omega) m y
 have z:WfP D':=by
  have:=U4 (L:=L) h.dk.up.wf p;rw[f]at this;exact this
 rw[f]at d g;rw[f]
 have v:(jl D').Nodup:=CA (d.ds.xH api) (fun n=>by
  cases q:vD n n with
  | true=>exact absurd q (oO n)
  | false=>rfl)
 obtain⟨A,j⟩:=h.dk.app h.ok b z v;exact⟨q,D',M,chs',rfl,⟨d,g,h.xF,h.low,A,j,b.xI,b.log⟩,t,b⟩
theorem qK0(cap:vR)(h:je At w0 gd gl gx r S L chs D E w)(m:D.count<=900000000){q:Nat}{p:Tw}(l:(q,p)∈jP 0 chs):Calls prog 80 #[ptr gl,q] w fun e w'=>e=.returned (.tuple #[p,.int .i64 0])/\je At w0 gd gl gx r S L chs { D with count:=D.count+2 } E w'/\jE E w w':=by
 obtain⟨d,n⟩:=Sa h.xI h.gl l;refine(h.ix.log api h.log h.xF h.low (fun c j f=>JU api nap j f h.dk.up.wf (by omega) (q:Nat) (hQ (by omega)) h.chunks)).mono ?_;rintro e w'⟨rfl,b,g,i⟩;rw[d]at b;rw[d];exact⟨rfl,⟨b,g,h.xF,h.low,h.ok.count _,h.dk.count _,h.zH _,h.gl.count _⟩,i⟩
end
theorem qK1(seed:Nat)(x:Rec):(yO seed x).length=(bgL x.2).length:=by unfold yO;rw[qz,List.length_range]
theorem DW{seed q:Nat}{p:Tw}{k:Nat}(b:k<(bgL p).length):(yO seed (q,p))[k]? = some ⟨kX seed (bgS p).data.toList,bgF p+(k:Nat),(q:Nat)⟩:=by
 unfold yO;rw[qu,List.getElem?_range b];rfl
theorem qK2{b:List jC}{j:Nat}{x:jC}(h:b[j]? = some x)(y:jC):y∈b.take (j+1)↔y∈b.take j∨y=x:=by
 rw[qw,h];simp
structure pQ(seed q:Nat)(p:Tw)(k:Nat)(S S':IxS):Prop where
 m:S'.m=S.m
 T:S'.T=S.T
 len:S'.mem.length<=S.mem.length+k
 mem:∀y,y∈S'.mem↔y∈S.mem∨y∈(yO seed (q,p)).take k
theorem pQ.zero(seed q:Nat)(p:Tw)(S:IxS):pQ seed q p 0 S S:=⟨rfl,rfl,qK _,fun y=>by simp⟩
section
variable {At:jR}(api:jS At){w0 w:World}{gd gl gx r seed q k:Nat}{S S':IxS}{L:jq}{chs:List (List Tw)}{D:jD}{E:List Nat}{p:Tw}
include api in
theorem qK3(h:je At w0 gd gl gx r S' L chs D E w)(c:pQ seed q p k S S'){b:Nat}{v:Int}(l:(yO seed (q,p))[k]? = some ⟨b,v,(q:Nat)⟩)(ok:kz ⟨b,v,(q:Nat)⟩)(g:mayE ⟨b,v,(q:Nat)⟩=true)(t:S.mem.length+k<=100000):
  Calls prog 89 #[ptr gx,.agg #[.int .u64 (b:Nat),v,q]] w fun e w'=>e=.returned (.int .i64 0)/\∃f,je At w0 gd gl gx r f L chs D E w'/\jE E w w'/\pQ seed q p (k+1) S f:=by
 have o:=c.len;refine(qKH api h ok (by omega)).mono ?_;rintro e w'⟨rfl,d,n⟩;have i:mA ⟨b,v,(q:Nat)⟩=0:=by unfold mA;rw[qV g]
 have j:fL S' ⟨b,v,(q:Nat)⟩={ S' with mem:=vz S'.mem ⟨b,v,(q:Nat)⟩ }:=by unfold fL;rw[qV g]
 rw[i];rw[j]at d;refine⟨rfl,_,d,n,⟨c.m,c.T, ?_,fun y=>?_⟩⟩
 ·have:=M7 S'.mem ⟨b,v,(q:Nat)⟩;show(vz _ _).length<=_;omega
 ·show y∈vz _ _↔_;rw[Me,c.mem,qK2 l,or_assoc]
end
end
section
open Go.RowKit Go.Shelf
attribute [local go_sem] cq
theorem DA: (prog.info? 73).map (·.size)=some 4:=by kernel_rfl
theorem qK4(d:Nat)(p:Addr)(w:World):(Op.equalIn (d+1) 32 (.pointer (some p)) (.pointer (some p))).run prog w=.ok true w:=by
 cases b:prog.info? 73 with
 | none=>have:=DA;rw[b]at this;cases this
 | some i =>
   have c:i.size=4:=(by have:=DA;rw[b]at this;simpa using this);simp[Op.equalIn,run_underlying Tryz.underlying32,sizeOf,typeInfo,b,sameAddr]
theorem qK5(p:Addr)(w:World):(binOp .neq 32 (.pointer (some p)) (.pointer (some p))).run prog w=.ok (.bool false) w:=by
 have b:(Op.equal 32 (.pointer (some p)) (.pointer (some p))).run prog w=.ok true w:=qK4 9999 p w;simp only[binOp];simp[b]
theorem mF{w:World}{g:Nat}(h:w.cell? ⟨g,0,none⟩=some (ptr g)):Calls prog 30 #[ptr g] w (X0 (.bool false) w):=by
 have b:=qK5 ⟨g,0,none⟩;go_enter func30,ntmps30;go_wp2;go_ret;exact⟨rfl,rfl⟩
abbrev qK6(gs gl gx seed:Nat):Array Value:=#[ptr gs,ptr gl,ptr gx,.int .u64 (seed:Nat)]
structure ju(At:jR)(w0:World)(gd gl gx gs r seed:Nat)(S:IxS)(L:jq)(chs:List (List Tw))(D:jD)(E:List Nat)(w:World):Prop where
 sx:je At w0 gd gl gx r S L chs D (gs::E) w
 st:jF w gs 73 (qK6 gs gl gx seed)
 xF:gs ∉ E
 low:w0.1.size<=gs
 rb:cF seed S chs
 vs:yf (ja (jP 0 chs))
 sd:seed<18446744073709551616
section
variable {At:jR}{w0 w w':World}{gd gl gx gs r seed:Nat}{S S':IxS}{L L':jq}{chs chs':List (List Tw)}{D D':jD}{E E' B G:List Nat}
theorem ju.lt(h:ju At w0 gd gl gx gs r seed S L chs D E w):∀b∈E,b<w.1.size:=fun b c=>h.sx.lt b (qF _ (qF _ c))
theorem ju.xL(api:jS At)(h:ju At w0 gd gl gx gs r seed S L chs D E w)(i:jH B w w')(d:∀b∈B,b∈E/\w0.1.size<=b)(g:∀b∈E',b∈E∨(w.1.size<=b/\b<w'.1.size)):ju At w0 gd gl gx gs r seed S L chs D E' w':=by
 have j:=h.st.lt;refine⟨h.sx.xL api i (fun b c=>⟨qF _ (d b c).1,(d b c).2⟩) (fun b c=>?_),h.st.xC i (fun f=>h.xF (d gs f).1),fun f=>?_,h.low,h.rb,h.vs,h.sd⟩
 ·rcases qL.1 c with e|k
  ·rw[e];exact qX qC
  ·exact(g b k).imp (qF _) id
 ·rcases g gs f with k|k
  ·exact h.xF k
  ·omega
theorem ju.below(api:jS At)(h:ju At w0 gd gl gx gs r seed S L chs D E w)(c:Below w.1.size w w'):ju At w0 gd gl gx gs r seed S L chs D E w':=h.xL api (B:=[]) (jH.xA c) (fun b c=>by cases c) (fun b c=>qX c)
theorem ju.drew(api:jS At)(h:ju At w0 gd gl gx gs r seed S L chs D E w):ju At w0 gd gl gx gs r seed S L chs D E w.drew:=h.below api (qU _ _).drew
theorem ju.drewN(api:jS At)(h:ju At w0 gd gl gx gs r seed S L chs D E w)(n:Nat):ju At w0 gd gl gx gs r seed S L chs D E (w.drewN n):=h.below api (uK (qU _ _) n)
theorem ju.less(h:ju At w0 gd gl gx gs r seed S L chs D E w)(c:∀b∈E',b∈E):ju At w0 gd gl gx gs r seed S L chs D E' w:=⟨h.sx.less (fun b d=>by
 rcases qL.1 d with e|k
 ·rw[e];exact qC
 ·exact qF _ (c b k)),h.st,fun f=>h.xF (c gs f),h.low,h.rb,h.vs,h.sd⟩
theorem ju.more(api:jS At)(h:ju At w0 gd gl gx gs r seed S L chs D E w)(c:Below w.1.size w w')(d:∀b∈B,w.1.size<=b/\b<w'.1.size):ju At w0 gd gl gx gs r seed S L chs D (B++E) w' :=
 h.xL api (B:=[]) (jH.xA c) (fun b c=>by cases c) (fun b c=>(qE.1 c).elim (fun k=>qY (d b k)) qX)
theorem ju.base(h:ju At w0 gd gl gx gs r seed S L chs D E w):Below w0.1.size w0 w:=h.sx.base
theorem ju.xy(h:ju At w0 gd gl gx gs r seed S L chs D E w)(b:Below w.1.size w w'):jE E w w':=jE.xA b h.lt
theorem ju.step(h:ju At w0 gd gl gx gs r seed S L chs D E w)(hi:je At w0 gd gl gx r S' L' chs' D' (gs::E) w')(c:jE (gs::E) w w')(f:cF seed S' chs')(g:yf (ja (jP 0 chs'))):ju At w0 gd gl gx gs r seed S' L' chs' D' E w'/\jE E w w' :=
 ⟨⟨hi,c.xW h.st qC,h.xF,h.low,f,g,h.sd⟩,c.less (fun b d=>qF _ d)⟩
theorem ju.stepG(h:ju At w0 gd gl gx gs r seed S L chs D E w)(hi:je At w0 gd gl gx r S L' chs D' (G++(gs::E)) w')(d:jE (gs::E) w w')(f:∀b∈G,w.1.size<=b):ju At w0 gd gl gx gs r seed S L' chs D' (G++E) w'/\jE E w w':=by
 have i:=h.st.lt;refine⟨⟨hi.less (fun b c=>?_),d.xW h.st qC,fun g=>?_,h.low,h.rb,h.vs,h.sd⟩,d.less (fun b c=>qF _ c)⟩
 ·rcases qL.1 c with e|q
  ·rw[e];exact qJ _ qC
  ·rcases qE.1 q with q|q
   ·exact qW _ q
   ·exact qJ _ (qF _ q)
 ·rcases qE.1 g with q|q
  ·have:=f gs q;omega
  ·exact h.xF q
theorem ju.cells(h:ju At w0 gd gl gx gs r seed S L chs D E w):w.cell? ⟨gs,0,none⟩=some (ptr gs)/\w.cell? ⟨gs,1,none⟩=some (ptr gl)/\w.cell? ⟨gs,2,none⟩=some (ptr gx)/\w.cell? ⟨gs,3,none⟩=some (.int .u64 (seed:Nat)):=⟨h.st.cell 0,h.st.cell 1,h.st.cell 2,h.st.cell 3⟩
theorem nM(seed:Nat):∀(l:List Rec),(∀x∈l,vv x.2=true)->(uE seed l).length<=8*l.length
 | [],_=>qK _
 | x::l,h=>by
   have ih:=nM seed l (fun y c=>h y (qF _ c));have e:uE seed (x::l)=yO seed x++uE seed l:=rfl;rw[e,qN,qv];obtain⟨-,-,-,-,-,b⟩:=dc (h x qC);obtain⟨-,-,-,d,-⟩:=gh.1 b;have:(yO seed x).length=(bgL x.2).length:=(by unfold yO;rw[qz,List.length_range]);omega
theorem ju.len(h:ju At w0 gd gl gx gs r seed S L chs D E w):S.mem.length<=8*(jP 0 chs).length/\(∀t∈S.T,t.l.length<=8*(jP 0 chs).length)/\(∀ns,(ka S ns).length<=8*(jP 0 chs).length)/\gH S<=328*(jP 0 chs).length:=by
 have m:=nM seed (jP 0 chs) h.rb.whole;obtain⟨A,rfl⟩:∃A,A=uE seed (jP 0 chs):=⟨_,rfl⟩
 have f:=h.rb.has;have ok:=h.sx.ok;have v:S.mem.length<=(uE seed (jP 0 chs)).length:=lA ok.xH (fun x d=>(f x).1 (qX d));have g:∀t∈S.T,t.l.length<=(uE seed (jP 0 chs)).length:=fun t b=>lA (ok.has t b).props.1 (fun x d=>(f x).1 (qY ⟨t,b,d⟩))
 refine⟨by omega,fun t b=>by have:=g t b;omega,fun ns=>qR (lA (Qx ok ns) (fun x d=>?_)) m, ?_⟩
 ·obtain⟨t,b,-,d⟩:=rm.1 d;exact(f x).1 (qY ⟨t,b,d⟩)
 ·have i:∀(c:Nat) (T:List TbS),(∀t∈T,t.l.length<=c)->kr (T.map TbS.l)<=T.length*c:=by
   intro c T
   induction T with
   | nil=>intro _;exact Nat.le_of_eq (by simp[kr])
   | cons t T o =>
     intro h;rw[List.map_cons,bU,qv,Nat.add_mul];have:=o (fun u n=>h u (qF _ n));have:=h t qC;omega
  have y:=i (8*(jP 0 chs).length) S.T (fun t b=>by have:=g t b;omega);have j:=ok.xR;have z:S.T.length*(8*(jP 0 chs).length)<=40*(8*(jP 0 chs).length):=Nat.mul_le_mul_right _ j;unfold gH;omega
theorem ju.xH(h:ju At w0 gd gl gx gs r seed S L chs D E w):mJ (jP 0 chs):=(QU chs 0 (fun c b=>(h.sx.xI.small c b).1)).1
theorem sA{l:List Rec}(hw:∀x∈l,vv x.2=true):∀x∈ja l,0<=x.v/\x.v<=1073741823:=by
 intro x c;obtain⟨j,g,c⟩:=xZ.1 c;obtain⟨i,b⟩:=qd c;unfold bL at b;rw[nI]at b;obtain⟨y,f,rfl⟩:=xG.1 b;have o:=(qO.1 f).1;obtain⟨-,-,-,-,-,d⟩:=dc (hw j g);obtain⟨-,-,-,-,m,n,-⟩:=gh.1 d;simp only;omega
end
section
variable {At:jR}(api:jS At)(nap:jw){w0 w w':World}{gd gl gx gs r seed:Nat}{S S':IxS}{L L':jq}{chs chs':List (List Tw)}{D D':jD}{E E' B G:List Nat}
theorem Jr{gs seed:Nat}{w:World}(h:w.cell? ⟨gs,3,none⟩=some (.int .u64 (seed:Nat)))(b:seed<18446744073709551616)(s:Tw)(c:s.size<=maxLen):Calls prog 61 #[ptr gs,s] w (X0 (.int .u64 (kX seed s.data.toList:Nat)) w):=by
 have d:=qQ (fun W=>MC seed s W b c);clear c b;generalize kX seed s.data.toList=f at*;go_enter func61,ntmps61;go_wp2_with fail;refine X5 (d.out _) ?_;go_wp2;go_ret;exact⟨rfl,rfl⟩
include api nap in
theorem qK7(h:je At w0 gd gl gx r S L chs D E w)(m:D.count<=900000000):Calls prog 80 #[ptr gl,.int .i64 (-1)] w fun e w'=>e=.returned (.tuple #[.string ByteArray.empty,.int .i64 4])/\je At w0 gd gl gx r S L chs D E w'/\jE E w w':=by
 have d:lj D L (-1)=(ByteArray.empty,4,D):=by
  unfold lj
  have f:yG D L=0:=by
   unfold yG;rw[qZ (by rw[h.dk.up.down];decide),qV h.gl.xB]
  rw[qZ (by simp[f]),qV (qX (by omega))]
 refine(h.ix.log api h.log h.xF h.low (fun c l g=>JU api nap l g h.dk.up.wf (by omega) (-1) (by decide) h.chunks)).mono ?_;rintro e w'⟨rfl,b,i,j⟩;rw[d]at b;rw[d];exact⟨rfl,⟨b,i,h.xF,h.low,h.ok,h.dk,h.xI,h.gl⟩,j⟩
include api nap in
theorem qK8(h:ju At w0 gd gl gx gs r seed S L chs D E w)(i:D.count<=900000000):Calls prog 59 #[ptr gs] w fun e w'=>e=.returned (.int .i64 0)/\ju At w0 gd gl gx gs r seed S L chs D E w'/\jE E w w':=by
 obtain⟨c0,c1,c2,l⟩:=h.cells;have c:=qQ (qK7 api nap h.sx i);have d:=qQ (fun f (m:je At w0 gd gl gx r S L chs D (gs::E) f) (n:jE (gs::E) w f)=>h.step m n h.rb h.vs);clear h c0 c2 l i;go_enter func59,ntmps59;go_wp2_with fail;refine c.out.mono ?_;rintro e o⟨rfl,g,j⟩;have b:=qQ (d.out o g j);clear g j c d;go_wp2;go_ret;exact⟨rfl,b.out.1,b.out.2⟩
end
end
section
open Go.RowKit Go.Shelf
structure gp(At:jR)(w0:World)(gd gl:Nat)(L:jq)(chs:List (List Tw))(D:jD)(E:List Nat)(w:World):Prop where
 st:gE At w0 gd gl L D E w
 fl:fO (bI chs.length) D
 xI:kj D chs
 gl:uA D L chs
structure dI(At:jR)(w0:World)(gd gl gx r:Nat)(S:IxS)(L:jq)(chs:List (List Tw))(D:jD)(E:List Nat)(w:World):Prop where
 ix:jf At w0 gd gx r S D (gl::E) w
 log:jF w gl 130 (gW (ptr gl) gd L)
 xF:gl ∉ E
 low:w0.1.size<=gl
 ok:kB D S
 fl:fO (bI chs.length) D
 xI:kj D chs
 gl:uA D L chs
theorem qK9{D:jD}(h:WfP D):WfP (gz D).2.1:=by
 unfold gz;refine tb (tb (Uo h) (fun E _ c=>c)) (fun E L c=>?_);unfold fG
 have:∀(k n:Nat) (E:jD) (L:jq),WfP E->WfP (uq k n E L).2.1:=by
  intro k
  induction k with
  | zero=>intro n E L c;exact c
  | succ k l =>
    intro n E L c;have b:=U1 c (nmC n);unfold uq;split
    ·exact b
    ·split
     ·exact b
     ·split
      ·unfold ff;split
       ·exact dO b _
       ·split
        ·show WfP (lk _ _ _).2
         have g:∀(a:Nat × jD) (f:jD->Nat × jD),WfP a.2->(∀D,WfP D->WfP (f D).2)->WfP (fU a f).2:=by
          intro a f i j;unfold fU;split
          ·exact j _ i
          ·exact i
         exact g _ _ (g _ _ (g _ _ (lT b _) (fun D d=>l5 d _ _)) (fun D d=>mq d _)) (fun D d=>XE d _ _)
        ·exact mq b _
      ·split
       ·exact b
       ·exact l _ _ _ b
 exact this _ _ _ _ c
section
variable {At:jR}(api:jS At){w0 w w':World}{gd gl gx r:Nat}{S S':IxS}{L:jq}{chs:List (List Tw)}{D D':jD}{E E' B N:List Nat}
theorem gp.from(h:gp At w0 gd gl L chs D E w){G:List Nat}(hi:DS At w0 gd D' (G++(gl::E)) w')(d:jE (gl::E) w w')(i:gl ∉ G)(f:fO (bI chs.length) D')(g:kj D' chs)(l:D'.xB=D.xB):gp At w0 gd gl L chs D' (G++E) w'/\jE E w w' :=
 ⟨⟨⟨hi.less (fun b c=>by
   rcases qL.1 c with e|q
   ·rw[e];exact qJ _ qC
   ·rcases qE.1 q with q|q
    ·exact qW _ q
    ·exact qJ _ (qF _ q)),d.xW h.st.2.1 qC,fun j=>(qE.1 j).elim i h.st.2.2.1,h.st.2.2.2⟩,f,g,h.gl.zN l⟩,d.less (fun b c=>qF _ c)⟩
theorem gp.count(h:gp At w0 gd gl L chs D E w)(k:Nat):fO (bI chs.length) { D with count:=k }/\kj { D with count:=k } chs:=⟨h.fl.count k,h.xI.same (vj.count D k)⟩
include api
theorem qKq(h:gp At w0 gd gl L chs D E w)(n:Tw)(z:isC n=false)(H:n.size<=maxLen):Calls prog 125 #[ptr gd,n] w fun e w' =>
  ∃f D',e=.returned (err f)/\cP f=true/\gp At w0 gd gl L chs D' E w'/\jE E w w'/\kS D D'/\jM D'.l<=jM D.l/\(∀k,k∈jl D'↔k∈jl D/\k≠n)/\∀k,k≠n->jN D'.l k=jN D.l k:=by
 refine(h.st.1.xD api (fun F hF=>api.delete n hF h.fl.up.wf.ok H)).mono ?_;rintro e w'⟨rfl,g,b⟩;obtain⟨f,D',d,u,u1,j,I,m,c,i⟩:=Qy h.fl.up h.fl.nodup n;rw[d]at g;rw[d];have A:∀k,isC k=true->k≠n:=fun k b e=>by rw[e,z]at b;cases b
 have v:=Cp h.xI u1 (fun k b=>((c k).1 b).1) (fun k b=>i k (A k b));obtain⟨o,t⟩:=h.from (G:=[]) g b (fun y=>by cases y) ⟨u1,m,fun q C=>h.fl.only q ((c q).1 C).1,h.fl.x7,h.fl.xx⟩ v j.xB;exact⟨f,D',rfl,u,o,t,j,I,c,i⟩
theorem qKx(nap:jw)(h:gp At w0 gd gl L chs D E w)(hc:D.count<=900000000){n c:Int}{d:Nat}{A:Option Addr}{cp:Nat}{R:LvL}(f:vX ⟨n,c,d,R⟩)(U:d<18446744073709551616)(Y:kh w (.slice A R.length cp) R)(X:∀x∈R.flatten,vU D x=0->(tgL (rdW D (ptT x)).1).length<=10000)(r:Nat):
  Calls prog 133 #[ptr gd,kc n c d (.slice A R.length cp),.float .f64 r] w fun e w' =>
   (∃gx T j,e=.returned (.tuple #[ptr gx,.int .i64 0])/\T.map (fun t=>(t.n:Int))=R.flatten/\(∀t∈T,yj D t.n t.l)/\j<=80/\dI At w0 gd gl gx r ⟨⟨n,c,d,R⟩,T,[]⟩ L chs { D with count:=D.count+j } E w'/\jE E w w') ∨
   (∃x j,x∈R.flatten/\vU D x≠0/\j<=80/\e=.returned (.tuple #[.pointer none,err (vU D x)])/\gp At w0 gd gl L chs { D with count:=D.count+j } E w'/\jE E w w'):=by
 have M:=f.2.2.2.2.1.2.1;simp only at M;refine(qKB api nap (r:=r) h.st.1 h.fl.up.wf h.fl.up.down (by omega) Y f X).mono ?_;rintro e w' (⟨gx,T,j,rfl,O,o,z,v,i⟩|⟨x,j,Z,V,z,rfl,v,i⟩)
 ·have u:T.map (fun t=>(t.n:Int))=R.flatten:=O;have C:j<=80:=by simp only at z;omega
  have W:kB { D with count:=D.count+j } ⟨⟨n,c,d,R⟩,T,[]⟩:=by
   refine⟨f,U,fun y=>?_, ?_,fun t g=>(o t g).1.count _,fun t g=>(o t g).2,List.Pairwise.nil,(fun y F=>by cases F),(fun y F=>by cases F)⟩
   ·show y∈R.flatten↔∃t∈T,(t.n:Int)=y;rw[<-u,qP]
   ·show(T.map TbS.n).Nodup;have m:R.flatten.Nodup:=f.2.2.2.2.1.2.2.2;rw[<-u]at m;unfold List.Nodup at m ⊢;rw[List.pairwise_map]at m ⊢;exact m.imp fun {a b} P e=>P (by omega)
  obtain⟨H,I⟩:=h.count (D.count+j);exact qX ⟨gx,T,j,rfl,u,fun t g=>(o t g).1,C,⟨v,i.xW h.st.2.1 qC,h.st.2.2.1,h.st.2.2.2,W,H,I,h.gl.count _⟩,i.less (fun b Q=>qF _ Q)⟩
 ·have C:j<=80:=by simp only at z;omega
  obtain⟨H,I⟩:=h.count (D.count+j);obtain⟨J,K⟩:=h.from (G:=[]) (D':={ D with count:=D.count+j }) v i (fun f=>by cases f) H I rfl;exact qY ⟨x,j,Z,V,C,rfl,J,K⟩
omit api in
theorem qKz(iap:uy At)(h:dI At w0 gd gl gx r S L chs D E w){n c:Int}{d:Nat}{A:Option Addr}{k cp:Nat}{R:LvL}{G:List Nat}(C:∀b∈G,b∈gl::E)(M:bE w (.slice A k cp) R G)(g:k=R.length)(t:R.flatten=S.m.lv.flatten)(F:R.length<=100000):
  Calls prog 83 #[ptr gd,kc n c d (.slice A k cp)] w fun e w'=>∃D',e=.returned (.int .i64 0)/\je At w0 gd gl gx r S L chs D' E w'/\jE E w w'/\kS D D'/\jM D'.l<=jM D.l/\jN D'.l jh=jN D.l jh:=by
 have U:=h.ok.xR;have V:=h.ok.many;obtain⟨D',j,f⟩:=qJt h.fl.up h.fl.nodup (m:=⟨n,c,d,R⟩);obtain⟨T,u,P,Q⟩:=f.dk (m:=⟨n,c,d,R⟩) h.fl t h.ok
 have H:Calls prog 83 #[ptr gd,kc n c d (.slice A k cp)] w fun e w'=>jf At w0 gd gx r S D' (gl::E) w'/\jE (gl::E) w w'/\e=.returned (.int .i64 0):=by
  refine h.ix.quiet fun E' z y=>?_
  refine(iap.clean n c d A k cp R y h.fl.up.wf (fun W _ O=>M W (O.less (fun b i=>z b (C b i)))) g (by rw[t];omega) F).mono ?_;rintro e w'⟨rfl,o,v⟩;rw[j]at o;rw[j];exact⟨o,v,rfl⟩
 refine H.mono ?_;rintro e w'⟨J,g,rfl⟩;have I:=Cp h.xI f.up (fun q K=>((f.names q).1 K).1) P;exact⟨D',rfl,⟨J,g.xW h.log qC,h.xF,h.low,T,u,I,h.gl.zN f.stays.xB⟩,g.less (fun b i=>qF _ i),f.stays,f.used,Q⟩
theorem qKj(nap:jw)(cap:vR)(h:DS At w0 gd D E w)(b:fO (bI chs.length) D)(g:kj D chs)(m:D.count<=900000000):Calls prog 38 #[ptr gd] w fun e w' =>
  ∃gl D',e=.returned (.tuple #[ptr gl,.int .i64 0])/\w.1.size<=gl/\gp At w0 gd gl ⟨D.xB,chs.length,vB chs,vB chs⟩ chs D' E w'/\jE E w w'/\vj D D'/\D'.count<=D.count+200:=by
 obtain⟨D',d,c,c1⟩:=Si g (h.xH api);refine(h.jW api nap cap b.up.wf (by omega) (by rw[d])).mono ?_;rintro e w'⟨gl,rfl,l,i,j⟩;rw[d]at i
 have hw:WfP D':=by
  have:=qK9 (D:=D) b.up.wf;rw[d]at this;exact this
 refine⟨gl,D',rfl,l,⟨i,⟨⟨c.down.trans b.up.down,c.fails.trans b.up.fails,hw⟩,by unfold jl;rw[c.names];exact b.nodup,fun n f=>b.only n (by unfold jl at f ⊢;rw[<-c.names];exact f),b.x7,b.xx⟩,g.same c,⟨c.xB,rfl,rfl,qK _⟩⟩,j,c,c1⟩
end
end
section
open Go.RowKit Go.Shelf
structure Js(At:jR)(w0:World)(gd gl gx r seed:Nat)(S:IxS)(L:jq)(chs:List (List Tw))(D D':jD)(E:List Nat)(w w':World):Prop where
 sx:je At w0 gd gl gx r S L chs D' E w'
 kept:jE E w w'
 rb:cF seed S chs
 cap:D'.cap=D.cap
 xB:D'.xB=D.xB
 count:D'.count<=D.count+400+200*(jP 0 chs).length
 used:jM D'.l<=jM D.l
def bo(seed:Nat):kJ:=⟨0,0,seed,[]⟩
theorem qKk(seed:Nat):vX (bo seed):=⟨by show(0:Int)<=0;omega,by show(0:Int)<=1000000;omega,by show(0:Int)<=0;omega,by show(0:Int)<=2147483647;omega,(show cw [] by decide),fun x b=>by cases b⟩
structure Qf(At:jR):Prop where
end
section
open Go.RowKit Go.Shelf
def ub(seed:Nat)(D:jD)(S:IxS):Prop:=qKC D S∨(jN D.l jh=none/\S.T=[]/\S.m=bo seed)
theorem ub.same{seed:Nat}{D E:jD}{S:IxS}(h:ub seed D S)(c:cm D E)(ok:kB E S):ub seed E S:=by
 rcases h with b|⟨b,g,i⟩
 ·exact qX ⟨Eq.trans c b.map,fun t d=>ok.has t d⟩
 ·refine qY ⟨?_,g,i⟩;have e:=c;unfold cm at e;rw[b]at e;cases q:jN E.l jh with
  | none=>rfl
  | some f=>rw[q]at e;cases e
section
variable {At:jR}(api:jS At)(nap:jw)(iap:uy At){w0 w:World}{gd gl gx gs r seed:Nat}{S S':IxS}{L L':jq}{chs chs':List (List Tw)}{D D':jD}{E:List Nat}
include api nap
theorem qKv(h:ju At w0 gd gl gx gs r seed S L chs D E w)(m:ub seed D S):Calls prog 23 #[ptr gs] w fun e w'=>e=.returned (.int .i64 0)/\∃L' D',ju At w0 gd gl gx gs r seed S L' chs D' E w'/\jE E w w'/\ub seed D' S/\D'.count=D.count/\D'.cap=D.cap:=by
 obtain⟨c0,c1,c2,o⟩:=h.cells;have n:=qQ (mF c0);have f:=qQ (qKR api nap h.sx);have H:=qQ (qG h m);clear h m c0 c2 o;go_enter func23,ntmps23;go_wp2_with fail;refine X5 n.out ?_;go_wp2_with fail;refine f.out.mono ?_;rintro e t⟨D',rfl,c,l,d,j⟩;obtain⟨g,i⟩:=H.out.1.step c l H.out.1.rb H.out.1.vs;have b:=qQ (qG g (qG i (qG (H.out.2.same (d.data jh) c.ok) (qG j d.cap))));clear g i c l d j f;go_wp2;go_ret;exact⟨rfl,_,D',b.out.1,b.out.2.1,b.out.2.2.1,b.out.2.2.2.1,b.out.2.2.2.2⟩
include iap
def DB(At:jR)(w0:World)(gd gl gx gs r seed:Nat)(S:IxS)(chs:List (List Tw))(D:jD)(E:List Nat)(w:World)(ok:Int->Prop)(e:Ending)(w':World):Prop :=
 ∃z S' L' D',ok z/\e=.returned (.int .i64 z)/\ju At w0 gd gl gx gs r seed S' L' chs D' E w'/\jE E w w'/\ub seed D' S'/\S'.m.next<=S.m.next+1/\D'.count<=D.count+50/\D'.cap=D.cap
theorem qKy(h:ju At w0 gd gl gx gs r seed S L chs D E w)(u:ub seed D S)(T:D.count<=900000000)(ac:S.m.next<=99999)(V:(jP 0 chs).length<=100)(X:r<18446744073709551616):Calls prog 15 #[ptr gs] w (DB At w0 gd gl gx gs r seed S chs D E w (fun z=>z=0∨z=60)):=by
 obtain⟨c0,c1,c2,M⟩:=h.cells;obtain⟨n,H⟩:∃n:Nat,S.m.next=(n:Nat):=⟨S.m.next.toNat,by have:=h.sx.ok.may.1;omega⟩
 have U:=h.len.1;have J:=qQ (mF c0);have F:=h.sx.drew api
 have A:Hid (Calls prog 36 #[ptr gx,ptr gl] w.drew fun e w'=>∃k S' L' D',(k=0∨k=60)/\e=.returned (err k)/\(ju At w0 gd gl gx gs r seed S' L' chs D' E w'/\jE E w w'/\ub seed D' S'/\S'.m.next<=S.m.next+1/\D'.count<=D.count+50/\D'.cap=D.cap)/\(w'.cell? ⟨gs,1,none⟩=some (ptr gl)/\w'.cell? ⟨gs,2,none⟩=some (ptr gx))):=qQ (by
  refine(qKM api nap iap F T H (by omega) X (by omega)).mono ?_;rintro e w'⟨k,D',S',rfl,d,g,v,aa⟩;have ab:=v.count;have l:=v.cap;have o:jE (gs::E) w w':=(show jE (gs::E) w w.drew from(jE.refl _ _).drew).trans g;rcases aa with⟨rfl,i,rfl,c,j⟩|⟨rfl,i,K,c,j,C,a7⟩|⟨rfl,i,rfl,c,j,C⟩
  ·obtain⟨b,f⟩:=h.step d o h.rb h.vs;exact⟨0,S',_,D',qX rfl,rfl,⟨b,f,u.same c d.ok,by omega,by omega,l⟩,b.cells.2.1,b.cells.2.2.1⟩
  ·have Y:=h.rb.flush h.sx.xI v.has K c i j;obtain⟨b,f⟩:=h.step d o Y h.vs;have ad:S'.m.next=S.m.next+1:=(by rw[c];rfl);exact⟨0,S',_,D',qX rfl,rfl,⟨b,f,qX ⟨C,fun t Z=>d.ok.has t Z⟩,by omega,by omega,l⟩,b.cells.2.1,b.cells.2.2.1⟩
  ·obtain⟨b,f⟩:=h.step d o h.rb h.vs;exact⟨60,S',_,D',qY rfl,rfl,⟨b,f,u.same c d.ok,by omega,by omega,l⟩,b.cells.2.1,b.cells.2.2.1⟩)
 have P:w.drew.cell? ⟨gs,1,none⟩=some (ptr gl)/\w.drew.cell? ⟨gs,2,none⟩=some (ptr gx):=⟨c1,c2⟩
 clear h u c0 c1 c2 M F U H V;go_enter func15,ntmps15;go_wp2_with fail;refine X5 J.out ?_;go_wp2_with fail
 go_region_held3 (fun W=>W.cell? ⟨gs,1,none⟩=some (ptr gl)/\W.cell? ⟨gs,2,none⟩=some (ptr gx))
  (first|(with_reducible assumption)|fail)
  (first
  | (go_at_call 36;((with_reducible refine A.out.mono ?_);rintro e w2⟨k,S',L',D',g,rfl,I,Q⟩))
  | fail)
 rename_i O;have y:=qQ (qG g I);clear g I Q O P A;go_wp2;go_ret;refine⟨(k:Nat),S',L',D', ?_,rfl,y.out.2⟩;have:=y.out.1;omega
theorem qKu(h:ju At w0 gd gl gx gs r seed S L chs D E w)(v:ub seed D S)(Q:D.count<=900000000)(ad:S.m.next<=99999)(V:(jP 0 chs).length<=100)(X:r<18446744073709551616)(lev:Int):Calls prog 16 #[ptr gs,lev] w (DB At w0 gd gl gx gs r seed S chs D E w (fun z=>z=0∨z=60∨z=4∨z=2/\(lev<0∨4<lev))):=by
 obtain⟨c0,c1,c2,P⟩:=h.cells;obtain⟨n,F⟩:∃n:Nat,S.m.next=(n:Nat):=⟨S.m.next.toNat,by have:=h.sx.ok.may.1;omega⟩
 obtain⟨-,-,l,aa⟩:=h.len;have l:=l (kU S.m.lv lev);have K:=qQ (mF c0)
 obtain⟨c,H,W⟩:∃c:Nat,vV S.m.lv lev=(c:Nat)/\(c=0∨c=4∨c=2/\(lev<0∨4<lev)):=by
  have hv:yR S.m.lv=true:=qB h.sx.ok.may.2.2.2.2.1;unfold vV;rw[hv];by_cases q:lev<0∨4<lev
  ·rw[qV (qY q)];exact⟨2,rfl,qY (qY ⟨rfl,q⟩)⟩
  ·rw[qZ (by simp;omega)];split
   ·exact⟨4,rfl,qY (qX rfl)⟩
   ·exact⟨0,rfl,qX rfl⟩
 have A:Hid (Calls prog 37 #[ptr gx,lev] w fun e w'=>∃z S' L' D',(z=0∨z=60∨z=4∨z=2/\(lev<0∨4<lev))/\e=.returned (.int .i64 z)/\ju At w0 gd gl gx gs r seed S' L' chs D' E w'/\jE E w w'/\ub seed D' S'/\S'.m.next<=S.m.next+1/\D'.count<=D.count+50/\D'.cap=D.cap):=qQ (by
  refine(qKN api nap iap h.sx Q F (by omega) X (by omega) lev (by omega) c H).mono ?_;rintro e w'⟨k,D',S',rfl,b,u,i,T,U,ab⟩;have ac:=i.count;have o:=i.cap;rcases ab with⟨rfl,C,rfl,d,j⟩|⟨rfl,C,M,d,j,O⟩|⟨rfl,C,rfl,d,j,O⟩
  ·obtain⟨f,g⟩:=h.step b u h.rb h.vs;exact⟨(k:Nat),S',_,D',by omega,rfl,f,g,v.same d b.ok,by omega,by omega,o⟩
  ·have Y:=h.rb.merge i.has i.xO i.seed T U d;obtain⟨f,g⟩:=h.step b u Y h.vs;have ae:S'.m.next=S.m.next+1:=(by rw[M];rfl);exact⟨0,S',_,D',qX rfl,rfl,f,g,qX ⟨j,fun t Z=>b.ok.has t Z⟩,by omega,by omega,o⟩
  ·obtain⟨f,g⟩:=h.step b u h.rb h.vs;exact⟨60,S',_,D',qY (qX rfl),rfl,f,g,v.same d b.ok,by omega,by omega,o⟩)
 clear h v c0 c1 P F V H W l aa;go_enter func16,ntmps16;go_wp2_with fail;refine X5 K.out ?_;go_wp2_with fail;refine A.out.mono ?_;rintro e w2⟨z,S',L',D',J,rfl,I⟩;have y:=qQ (qG J I);clear J I A;go_wp2;go_ret;exact⟨z,S',L',D',y.out.1,rfl,y.out.2⟩
end
section
variable {At:jR}(api:jS At)(nap:jw)(cap:vR)(rapi:Qf At){w0 w:World}{gd gl gx gs r seed:Nat}{S S':IxS}{L L':jq}{chs chs':List (List Tw)}{D D':jD}{E:List Nat}
def DC(At:jR)(w0:World)(gd r seed:Nat)(S:IxS)(chs:List (List Tw))(D:jD)(E:List Nat)(w:World)(e:Ending)(w':World):Prop :=
 ∃gs gl gx S' L D',e=.returned (.tuple #[ptr gs,.int .i64 0])/\ju At w0 gd gl gx gs r seed S' L chs D' E w'/\jE E w w'/\ub seed D' S'/\(S'.m.next=S.m.next∨S'.m.next=0)/\D'.cap=D.cap/\D'.count<=D.count+600+200*(jP 0 chs).length/\jM D'.l<=jM D.l
end
section
variable {At:jR}(api:jS At)(nap:jw)(cap:vR)(rapi:Qf At)
def DD(At:jR)(x:rH)(w:World)(e:Ending)(w':World):Prop :=
 ∃b gd gs gl gx S L D,Below w.1.size w b/\e=.returned (.tuple #[ptr gd,ptr gs,.bool true])/\ju At b gd gl gx gs x.r x.d S L [] D [] w'/\ub x.d D S/\S.m.next=0/\D.cap=6000+4*x.m/\D.count<=600/\jM D.l=0
include api nap cap rapi
end
end
section
open Go.RowKit Go.Shelf
attribute [local go_sem] cq
theorem DE(s:Tw)(f:Int)(v:Value)(l:List jj)(w:World)(P:vC w v l)(i:Nat)(x:jj)(m:l[i]? = some x)(hf:0<=f/\f<=1073741824)(hl:l.length<=100):
  Calls prog 45 #[km s f v,i] w (X3 (.agg (bt ⟨s,f+(i:Nat),x⟩)) w):=by
 have hi:=(qO.1 m).1;rcases P with⟨rfl,-⟩|⟨M,b,off,cap,rfl,O,y,H⟩
 ·simp at m
 obtain⟨c0,c1,c2⟩:=H i x m;obtain⟨t,d,n⟩:=x;simp only at c0 c1 c2;have z:=(qU w.1.size w).alloc (qK _) (.cells #[s,f,.slice (some ⟨b,off,none⟩) l.length cap] 92);have C:=jF.new w 92 #[s,f,.slice (some ⟨b,off,none⟩) l.length cap];obtain⟨u,I⟩:∃u,w.alloc (.cells #[s,f,.slice (some ⟨b,off,none⟩) l.length cap] 92)=u:=⟨_,rfl⟩
 have T:u.1.size=w.1.size+1:=by rw[<-I];simp
 rw[I]at z C;have j:=z.alloc z.size (.cells #[.string ⟨#[]⟩,.int .i64 0,.string ⟨#[]⟩,.string ⟨#[]⟩,.float .f64 0] 66);have o:=C.alloc (.cells #[.string ⟨#[]⟩,.int .i64 0,.string ⟨#[]⟩,.string ⟨#[]⟩,.float .f64 0] 66);have c:=jF.new u 66 #[.string ⟨#[]⟩,.int .i64 0,.string ⟨#[]⟩,.string ⟨#[]⟩,.float .f64 0];obtain⟨A,Q⟩:∃A,u.alloc (.cells #[.string ⟨#[]⟩,.int .i64 0,.string ⟨#[]⟩,.string ⟨#[]⟩,.float .f64 0] 66)=A:=⟨_,rfl⟩
 rw[Q]at j o c;rw[T]at c;have Z:=(j.cell (p:=⟨b,off+i*3,none⟩) y).trans c0;have e1:=(j.cell (p:=⟨b,off+i*3+1,none⟩) y).trans c1;have e2:=(j.cell (p:=⟨b,off+i*3+2,none⟩) y).trans c2;have k0:=o.cell 0;have k1:=o.cell 1;have k2:=o.cell 2;have f0:=c.frozen 0;have f1:=c.frozen 1;have f2:=c.frozen 2;have f3:=c.frozen 3;have f4:=c.frozen 4;have m0:=c.cell 0;have m1:=c.cell 1;have m2:=c.cell 2;have m3:=c.cell 3;have m4:=c.cell 4;have ew:IntKind.i64.wrap (f+(i:Int))=f+(i:Int):=by rw[IntKind.wrap_i64];omega
 have s1:(i:Int)<(l.length:Int):=by omega
 have F:=qQ j;have J:=qQ c;clear z C j o c c0 c1 c2 H m y O M;unfold km;go_enter func45,ntmps45;go_wp2;have g:=((((J.out.put 0 (.string s)).put 1 (.int .i64 (f+(i:Int)))).put 2 (.string t)).put 3 (.string d)).put 4 (.float .f64 n);have U:=g.cell 0;have V:=g.cell 1;have W:=g.cell 2;have X:=g.cell 3;have Y:=g.cell 4
 have K:=qQ (show Below w.1.size w (((((A.setCell ⟨w.1.size+1,0,none⟩ (.string s)).setCell ⟨w.1.size+1,1,none⟩ (.int .i64 (f+(i:Int)))).setCell ⟨w.1.size+1,2,none⟩ (.string t)).setCell ⟨w.1.size+1,3,none⟩ (.string d)).setCell ⟨w.1.size+1,4,none⟩ (.float .f64 n)).drew from
  (F.out.trans ((((((jH.refl [w.1.size+1] A).setCell (p:=⟨w.1.size+1,0,none⟩) (qX qC) _).setCell (p:=⟨w.1.size+1,1,none⟩) (qX qC) _).setCell (p:=⟨w.1.size+1,2,none⟩) (qX qC) _).setCell (p:=⟨w.1.size+1,3,none⟩) (qX qC) _).setCell (p:=⟨w.1.size+1,4,none⟩) (qX qC) _ |>.below F.out.size (fun x m=>by rw[qH.1 m];omega))).drew)
 clear g;go_region
 go_wp2;exact bodyPost_ret (v:=.agg (bt ⟨s,f+(i:Nat),⟨t,d,n⟩⟩)) (by simp[results,Tryz.results45,go_sem,U,V,W,X,Y]) rfl ⟨rfl,K.out⟩
abbrev mH(w:World)(base:Nat)(v:Value)(l:List jj):Prop:=w.ownsRow base 64 3 v l.length (l.flatMap uo)
theorem Jt{w:World}{g:Nat}(a b c:Value):jH [g] w (((w.setCell ⟨g,0,none⟩ a).setCell ⟨g,1,none⟩ b).setCell ⟨g,2,none⟩ c):=(((jH.refl [g] w).setCell (p:=⟨g,0,none⟩) (qX qC) _).setCell (p:=⟨g,1,none⟩) (qX qC) _).setCell (p:=⟨g,2,none⟩) (qX qC) _
theorem qKg(p:Tw)(w:World)(hw:vv p=true)(W:p.size<=100000):Calls prog 44 #[p] w fun e w'=>∃A c,e=.returned (.tuple #[km (bgS p) (bgF p) (.slice A (bgL p).length c),.int .i64 0])/\mH w' w.1.size (.slice A (bgL p).length c) (bgL p)/\Below w.1.size w w':=by
 obtain⟨-,-,-,O,-,-⟩:=dc hw;have H:=(qU w.1.size w).alloc (qK _) (.cells #[.string ⟨#[]⟩,.int .i64 0,.slice none 0 0] 92);have z:=jF.new w 92 #[.string ⟨#[]⟩,.int .i64 0,.slice none 0 0];obtain⟨d,U⟩:∃d,w.alloc (.cells #[.string ⟨#[]⟩,.int .i64 0,.slice none 0 0] 92)=d:=⟨_,rfl⟩
 have X:d.1.size=w.1.size+1:=by rw[<-U];simp
 rw[U]at H z
 have M:Hid (Calls prog 95 #[p] d fun e w'=>∃A c,e=.returned (.tuple #[.agg #[.string (bgS p),.int .i64 (bgF p),.slice A (bgL p).length c],.int .i64 0])/\mH w' d.1.size (.slice A (bgL p).length c) (bgL p)/\Below d.1.size d w'):=qQ ((Tl p d W).mono fun e w' hg=>by
  obtain⟨u,rfl,T,b1⟩:=hg;obtain⟨A,c,rfl,-,-,-⟩:=v8 T;rw[O];exact⟨A,c,rfl,T,b1⟩)
 have K:=qQ H;have Z:=qQ z;have F:=qQ X;unfold km;generalize bgS p=s at*;generalize bgF p=f at*;generalize hL:bgL p=L at*;clear H z hL O hw W X;go_enter func44,ntmps44;go_wp2_with fail;refine M.out.mono ?_;rintro e Y⟨A,c,rfl,I,m⟩;have aa:=qQ I;obtain⟨n,j⟩:∃n,n=L.length:=⟨_,rfl⟩
 rw[<-j];have o:=m.alloc m.size (.cells #[s,f,.slice A n c] 92);have i:=jF.new Y 92 #[s,f,.slice A n c];have b:=(Z.out.below m).alloc (.cells #[s,f,.slice A n c] 92);obtain⟨y,V⟩:∃y,Y.alloc (.cells #[s,f,.slice A n c] 92)=y:=⟨_,rfl⟩
 have J:mH y d.1.size (.slice A n c) L:=by rw[<-V,j];exact I.alloc _
 rw[V]at o i b;have t:=vJ J b (by decide);have Q:=vu (vu (vu J (p:=⟨w.1.size,0,none⟩) t (.string s)) (p:=⟨w.1.size,1,none⟩) t (.int .i64 f)) (p:=⟨w.1.size,2,none⟩) t (.slice A n c);have P:=(K.out.trans (o.mono (by rw[F.out];omega))).trans ((Jt (g:=w.1.size) (w:=y) (.string s) (.int .i64 f) (.slice A n c)).below ((K.out.trans (o.mono (by rw[F.out];omega))).size) (fun x hx=>by rw[qH.1 hx];exact qK _));have l:=((b.put 0 (.string s)).put 1 (.int .i64 f)).put 2 (.slice A n c);have k0:=i.cell 0;have k1:=i.cell 1;have k2:=i.cell 2;have j0:=b.cell 0;have j1:=b.cell 1;have j2:=b.cell 2;have f0:=b.frozen 0;have f1:=b.frozen 1;have f2:=b.frozen 2;have q0:=l.cell 0;have q1:=l.cell 1;have q2:=l.cell 2;have C:=qQ (qG (lV Q (show w.1.size<=d.1.size by rw[F.out];omega)) P);rw[<-j]at C;have HN:=qQ j;clear m o i b l t Q P I J M aa j;go_wp2;obtain rfl:n=L.length:=HN.out;exact bodyPost_ret (v:=.tuple #[.agg #[s,f,.slice A L.length c],.int .i64 0]) (by simp[results,Tryz.results44,go_sem,q0,q1,q2]) rfl ⟨A,c,rfl,C.out.1,C.out.2⟩
section
variable {At:jR}(api:jS At)(nap:jw)(cap:vR){w0 w:World}{gd gl gx gs r seed q:Nat}{S:IxS}{L:jq}{chs:List (List Tw)}{D:jD}{E:List Nat}{p:Tw}
include api nap cap
theorem qKb(h:ju At w0 gd gl gx gs r seed S L chs D E w)(hc:D.count<=900000000)(u:(q,p)∈jP 0 chs):Calls prog 62 #[ptr gs,.int .i64 (q:Nat)] w fun e w'=>∃A c,e=.returned (.tuple #[km (bgS p) (bgF p) (.slice A (bgL p).length c),.int .i64 0])/\mH w' w.1.size (.slice A (bgL p).length c) (bgL p) /\
  ju At w0 gd gl gx gs r seed S L chs { D with count:=D.count+2 } (jL (.slice A (bgL p).length c)++E) w'/\jE E w w':=by
 have hw:=h.rb.whole _ u;have hz:=qKQ h.sx.xI u;simp only at hw hz;have aj:=h.base.size;have ak:=qQ h.lt;have F:=(qU w.1.size w).alloc (qK _) (.cells #[.string ⟨#[]⟩,.int .i64 0,.slice none 0 0] 92);have l:=jF.new w 92 #[.string ⟨#[]⟩,.int .i64 0,.slice none 0 0];have i:=h.more api F (B:=[w.1.size]) (fun x b=>by rw[qH.1 b];exact⟨qK _,l.lt⟩);have H:=h.xy F;obtain⟨O,al⟩:∃O,w.alloc (.cells #[.string ⟨#[]⟩,.int .i64 0,.slice none 0 0] 92)=O:=⟨_,rfl⟩
 rw[al]at l i H;obtain⟨-,c1,-,-⟩:=i.cells;have V:=qQ (qK0 api nap cap i.sx hc u);have X:=qQ (fun Y (hi:je At w0 gd gl gx r S L chs { D with count:=D.count+2 } (gs::([w.1.size]++E)) Y) (hk:jE (gs::([w.1.size]++E)) O Y)=>i.step hi hk i.rb i.vs);have C:=qQ (fun W=>qKg p W hw (by omega));have ai:=qQ l;have U:=qQ H;unfold km at C ⊢;generalize bgS p=s at*;generalize bgF p=f at*;generalize hL:bgL p=L' at*;obtain⟨n,K⟩:∃n,n=L'.length:=⟨_,rfl⟩
 rw[<-K]at C ⊢;have HN:=qQ K;clear F l i H h hL hw hz u K hc;go_enter func62,ntmps62;go_wp2_with fail;refine V.out.mono ?_;rintro e P⟨rfl,ac,ah⟩;have j:=X.out P ac ah;have Q:=qQ (C.out P);have T:=qQ j;clear ac ah j V X c1;go_wp2_with fail;refine Q.out.mono ?_;rintro e w3⟨A,c,rfl,y,o⟩;obtain⟨j,I⟩:=T.out;have Z:=j.below api o;have J:=I.trans (jE.xA o j.lt);have d:=J.xW ai.out (qW _ qC);have t:=vJ y d (by decide);have af:=vu (vu (vu y (p:=⟨w.1.size,0,none⟩) t (.string s)) (p:=⟨w.1.size,1,none⟩) t (.int .i64 f)) (p:=⟨w.1.size,2,none⟩) t (.slice A n c);have ae:=y;have aa:=j.more api o (B:=jL (.slice A n c)) (fun x b=>ae.lt x (jt.1 b));have M:=Jt (g:=w.1.size) (w:=w3) (.string s) (.int .i64 f) (.slice A n c)
 have ag:w.1.size<=P.1.size:=by
  have:=(U.out.trans (I.less (fun x b=>qJ _ b))).size;exact this
 have hF:=aa.xL api (E':=jL (.slice A n c)++E) M (fun x b=>by rw[qH.1 b];exact⟨qJ _ (qW _ qC),aj⟩) (fun x b=>(qE.1 b).elim (fun q=>qX (qW _ q)) (fun q=>qX (qJ _ (qJ _ q))));have ab:∀x∈E,x<w3.1.size/\x ∉ [w.1.size]:=fun x b=>⟨Z.lt x (qJ _ b),fun hm=>?_⟩
 rotate_left
 ·have i:=qH.1 hm;have j:=ak.out x b;omega
 have ad:=(U.out.trans (J.less (fun x b=>qJ _ b))).trans (jE.xP M ab);have m:=((d.put 0 (.string s)).put 1 (.int .i64 f)).put 2 (.slice A n c);have j0:=d.cell 0;have j1:=d.cell 1;have j2:=d.cell 2;have f0:=d.frozen 0;have f1:=d.frozen 1;have f2:=d.frozen 2;have q0:=m.cell 0;have q1:=m.cell 1;have q2:=m.cell 2;have z:=qQ (qG (lV af ag) (qG hF ad));clear j I Z J d t af ae aa M ag hF ad m y o ab Q T;go_wp2;obtain rfl:n=L'.length:=HN.out;exact bodyPost_ret (v:=.tuple #[.agg #[s,f,.slice A L'.length c],.int .i64 0]) (by simp[results,Tryz.results62,go_sem,q0,q1,q2]) rfl ⟨A,c,rfl,z.out.1,z.out.2.1,z.out.2.2⟩
end
end
section
open Go.RowKit Go.Shelf
theorem mI{D:jD}{S:IxS}(h:kB D S)(k:Nat)(a b:Int)(x:jC):x∈vf S k a b↔uX S x/\x.h=k/\a<=x.v/\x.v<=kY b:=by
 have c:∀l:List jC,x∈vQ l k a (kY b)↔x∈l/\(x.h=k/\a<=x.v/\x.v<=kY b):=fun l=>by
  unfold vQ inQ;rw[qo,decide_eq_true_iff]
 unfold vf;rw[YZ];constructor
 ·rintro ⟨l,f,d⟩;rcases qL.1 f with rfl|f
  ·exact⟨qX ((c _).1 d).1,((c _).1 d).2⟩
  ·obtain⟨t,g,rfl⟩:=qP.1 f;exact⟨qY ⟨t,g,((c _).1 d).1⟩,((c _).1 d).2⟩
 ·rintro ⟨q|⟨t,g,q⟩,i⟩
  ·exact⟨_,qC,(c _).2 ⟨q,i⟩⟩
  ·exact⟨_,qF _ (qP.2 ⟨t,g,rfl⟩),(c _).2 ⟨q,i⟩⟩
theorem nN{D:jD}{S:IxS}(h:kB D S)(k:Nat)(a b:Int):kG (vf S k a b):=YK (h.zS k a (kY b))
theorem qKc(l:List Rec)(s:Tw)(e:jC):(gZ l s e).length<=1:=by
 unfold gZ;split
 ·exact qK _
 ·exact qI _
theorem DF(l:List Rec)(s:Tw):∀R:List jC,(R.flatMap (gZ l s)).length<=R.length
 | []=>qK _
 | e::R=>by
   rw[List.flatMap_cons,qN,qv];have:=DF l s R;have:=qKc l s e;omega
theorem DH(f:jC->List jT){R:List jC}{k:Nat}{e:jC}(h:R[k]? = some e):(R.take (k+1)).flatMap f=(R.take k).flatMap f++f e:=by
 rw[qw,h,List.flatMap_append];simp
section
variable {At:jR}{w0 we wr w':World}{gd gl gx gs r seed gb k cnt:Nat}{S:IxS}{L:jq}{chs:List (List Tw)}{D:jD}{E N:List Nat}{Rv lv:Value}{R:List jC}{s:Tw}{a:Int}
def pX(we:World)(gb:Nat)(chs:List (List Tw))(N:List Nat)(a:Int)(wr:World):Prop :=
 (a = -1/\jF wr gb 92 #[.string ⟨#[]⟩,.int .i64 0,.slice none 0 0]) ∨
 ∃q p A c,a=((q:Nat):Int)/\(q,p)∈jP 0 chs/\jF wr gb 92 #[.string (bgS p),.int .i64 (bgF p),.slice A (bgL p).length c]/\mH wr we.1.size (.slice A (bgL p).length c) (bgL p)/\∀b∈jL (.slice A (bgL p).length c),b∈N
structure ga(At:jR)(w0:World)(gd gl gx gs r seed:Nat)(S:IxS)(L:jq)(chs:List (List Tw))(D:jD)(E:List Nat)(we:World)(gb:Nat)(Rv:Value)(R:List jC)(s:Tw)(k:Nat)(lv:Value)(a:Int)(cnt:Nat)(N:List Nat)(wr:World):Prop where
 row:kT wr we.1.size lv ((R.take k).flatMap (gZ (jP 0 chs) s))
 rv:jy wr we.1.size Rv R
 box:pX we gb chs N a wr
 st:ju At w0 gd gl gx gs r seed S L chs { D with count:=cnt } (N++E) wr
 kept:jE E we wr
 gb:gb∈N
 ol:∀b∈jL lv,b∈N
 xe:∀b∈jL Rv,b∈N
 low:∀b∈N,we.1.size<=b
theorem pX.keep{i:List Nat}(h:pX we gb chs N a wr)(f:jE (N++E) wr w')(d:gb∈N)(t:∀b∈N,b∈i):pX we gb chs i a w':=by
 rcases h with⟨e,B⟩|⟨q,p,A,c,e,y,B,l,j⟩
 ·exact qX ⟨e,f.xW B (qW _ d)⟩
 ·refine qY ⟨q,p,A,c,e,y,f.xW B (qW _ d),⟨l.1, ?_⟩,fun b u=>t b (j b u)⟩;rcases l.2 with o|⟨g,cap,n,m,d,v,z⟩
  ·exact qX o
  ·exact qY ⟨g,cap,n,m,d,(f.block g (qW _ (j g (jt.2 (by rw[m];rfl))))).trans v,z⟩
theorem ga.below(api:jS At)(h:ga At w0 gd gl gx gs r seed S L chs D E we gb Rv R s k lv a cnt N wr)(c:Below wr.1.size wr w'):ga At w0 gd gl gx gs r seed S L chs D E we gb Rv R s k lv a cnt N w':=by
 have d:=h.st.xy c;exact⟨h.row.below c (qK _),h.rv.below c (qK _),pX.keep h.box d h.gb (fun b c=>c),h.st.below api c,h.kept.trans (d.less (fun b c=>qJ _ c)),h.gb,h.ol,h.xe,h.low⟩
theorem ga.xc(api:jS At)(h:ga At w0 gd gl gx gs r seed S L chs D E we gb Rv R s k lv a cnt N wr)(g:we.1.size<=wr.1.size)(c:Below wr.1.size wr w'){B:List Nat}(d:∀x∈B,wr.1.size<=x/\x<w'.1.size):ga At w0 gd gl gx gs r seed S L chs D E we gb Rv R s k lv a cnt (B++N) w':=by
 have f:=h.st.xy c;refine⟨h.row.below c (qK _),h.rv.below c (qK _),pX.keep h.box f h.gb (fun b c=>qJ _ c),by rw[qn];exact h.st.more api c d,h.kept.trans (f.less (fun b c=>qJ _ c)),qJ _ h.gb,fun b c=>qJ _ (h.ol b c),fun b c=>qJ _ (h.xe b c),fun b c=>?_⟩;rcases qE.1 c with q|q
 ·have:=(d b q).1;omega
 ·exact h.low b q
theorem ga.more(api:jS At)(h:ga At w0 gd gl gx gs r seed S L chs D E we gb Rv R s k lv a cnt N wr)(hl:we.1.size<=wr.1.size)(Y:w0.1.size<=we.1.size)(Z:R.length<=100000){e:jC}{x:jT}(M:R[k]? = some e)(X:gZ (jP 0 chs) s e=[x])(K:∀b∈E,b<we.1.size)(ty:TypeId):
  ∃C F w',(Builtin.append_ #[36,36] ty #[lv,.slice (some ⟨wr.1.size,0,none⟩) 1 1]).run prog (wr.alloc (.cells (bt x) 66))=.ok C w'/\ga At w0 gd gl gx gs r seed S L chs D E we gb Rv R s (k+1) C a cnt F w':=by
 have n:=(qU wr.1.size wr).alloc (qK _) (.cells (bt x) 66);have f:=h.below api n;have y:=sG wr x;obtain⟨l,W⟩:∃l,wr.alloc (.cells (bt x) 66)=l:=⟨_,rfl⟩
 rw[W]at f y n ⊢;have aa:((R.take k).flatMap (gZ (jP 0 chs) s)).length<=100000:=qR (DF _ _ _) (by rw[qT];omega);have hz:=n.size;obtain⟨A,c,w',H,m,I,J⟩:=DZ f.row y (by rw[List.length_singleton];omega) (by omega) ty;have t:∀b∈jL lv,we.1.size<=b/\b<l.1.size:=fun b d=>f.row.own b d
 have i:jH (jL lv) l w':=(jH.refl _ _).grown I (fun j O=>qX (jt.2 O));have z:=DH (gZ (jP 0 chs) s) M;rw[X]at z
 have T:∀b∈jL (.slice A (((R.take k).flatMap (gZ (jP 0 chs) s)).length+[x].length) c),b∈jL lv∨b=l.1.size:=fun b d=>by
  have d:=jt.1 d;rcases J with q|q
  ·exact qX (jt.2 (by rw[<-q];exact d))
  ·rw[q]at d;exact qY (qb d).symm
 have hst:=f.st.xL api (E':=(jL (.slice A (((R.take k).flatMap (gZ (jP 0 chs) s)).length+[x].length) c)++N)++E) i (fun b d=>⟨qW _ (f.ol b d),by have:=(t b d).1;omega⟩) (fun b d=>by
  rcases qE.1 d with q|q
  ·rcases qE.1 q with q|q
   ·rcases T b q with j|j
    ·exact qX (qW _ (f.ol b j))
    ·exact qY ⟨by omega,(m.lt b (jt.1 q)).2⟩
   ·exact qX (qW _ q)
  ·exact qX (qJ _ q))
 have Q:∀b∈E,b<l.1.size/\b ∉ jL lv:=fun b d=>⟨f.st.lt b (qJ _ d),fun g=>by have:=(t b g).1;have:=K b d;omega⟩
 have P:=jE.xP i Q
 have u:gb ∉ jL lv:=fun g=>by
  rcases f.box with⟨-,B⟩|⟨q,p,o,c2,-,-,B,-⟩
  ·exact vJ f.row B (by decide) (jt.1 g)
  ·exact vJ f.row B (by decide) (jt.1 g)
 refine⟨_,jL (.slice A (((R.take k).flatMap (gZ (jP 0 chs) s)).length+[x].length) c)++N,w',H,⟨by rw[z];unfold kT;rw[qN];unfold kT at m;rw[qN]at m;exact m, ?_, ?_,hst,f.kept.trans P,qJ _ f.gb,fun b d=>qW _ d,fun b d=>qJ _ (f.xe b d),fun b d=>?_⟩⟩
 ·exact bw f.rv i (fun b d g=>fT f.row f.rv (by decide) b d (jt.1 g))
 ·rcases f.box with⟨e,B⟩|⟨q,p,o,c2,e,V,B,v,U⟩
  ·exact qX ⟨e,B.xC i u⟩
  ·exact qY ⟨q,p,o,c2,e,V,B.xC i u,bw v i (fun b d g=>fT f.row v (by decide) b d (jt.1 g)),fun b d=>qJ _ (U b d)⟩
 ·rcases qE.1 d with q|q
  ·exact(m.lt b (jt.1 q)).1
  ·exact f.low b q
theorem ga.skip(h:ga At w0 gd gl gx gs r seed S L chs D E we gb Rv R s k lv a cnt N wr){e:jC}(c:R[k]? = some e)(d:gZ (jP 0 chs) s e=[]):ga At w0 gd gl gx gs r seed S L chs D E we gb Rv R s (k+1) lv a cnt N wr:=by
 have b:=DH (gZ (jP 0 chs) s) c;rw[d,List.append_nil]at b;exact⟨by rw[b];exact h.row,h.rv,h.box,h.st,h.kept,h.gb,h.ol,h.xe,h.low⟩
theorem ga.read(api:jS At)(h:ga At w0 gd gl gx gs r seed S L chs D E we gb Rv R s k lv a cnt N wr)(K:w0.1.size<=we.1.size)(H:we.1.size<=wr.1.size)(F:∀b∈E,b<we.1.size){q:Nat}{p:Tw}(I:(q,p)∈jP 0 chs){A:Option Addr}{c:Nat}(t:mH w' wr.1.size (.slice A (bgL p).length c) (bgL p))
  (y:ju At w0 gd gl gx gs r seed S L chs { D with count:=cnt+2 } (jL (.slice A (bgL p).length c)++(N++E)) w') (i:jE (N++E) wr w'):
  (∃m n o,jF w' gb 92 #[m,n,o])/\ga At w0 gd gl gx gs r seed S L chs D E we gb Rv R s k lv ((q:Nat):Int) (cnt+2) (jL (.slice A (bgL p).length c)++N) (((w'.setCell ⟨gb,0,none⟩ (.string (bgS p))).setCell ⟨gb,1,none⟩ (.int .i64 (bgF p))).setCell ⟨gb,2,none⟩ (.slice A (bgL p).length c)):=by
 have M:=h.low gb h.gb
 have C:∃m n o,jF w' gb 92 #[m,n,o]:=by
  rcases h.box with⟨-,B⟩|⟨q,p,J,c2,-,-,B,-⟩
  ·exact⟨_,_,_,i.xW B (qW _ h.gb)⟩
  ·exact⟨_,_,_,i.xW B (qW _ h.gb)⟩
 obtain⟨m,n,o,B⟩:=C;have l:=Jt (g:=gb) (w:=w') (.string (bgS p)) (.int .i64 (bgF p)) (.slice A (bgL p).length c);have z:=((B.put 0 (.string (bgS p))).put 1 (.int .i64 (bgF p))).put 2 (.slice A (bgL p).length c);have u:=i.zB h.row (fun b d=>qW _ (h.ol b d));have v:=i.row h.rv (fun b d=>qW _ (h.xe b d));refine⟨⟨m,n,o,B⟩,⟨bw u l (fun b d f=>?_),bw v l (fun b d f=>?_),qY ⟨q,p,A,c,rfl,I,z, ?_,fun b d=>qW _ d⟩,y.xL api l (fun b d=>⟨?_, ?_⟩) (fun b d=>qX ?_), ?_,qJ _ h.gb,fun b d=>qJ _ (h.ol b d),fun b d=>qJ _ (h.xe b d),fun b d=>?_⟩⟩
 ·rw[qH.1 f]at d;exact vJ u B (by decide) d
 ·rw[qH.1 f]at d;exact vJ v B (by decide) d
 ·exact lV (bw t l (fun b d f=>by
   rw[qH.1 f]at d;exact vJ t B (by decide) d)) H
 ·rw[qH.1 d];exact qJ _ (qW _ h.gb)
 ·rw[qH.1 d];omega
 ·rcases qE.1 d with j|j
  ·rcases qE.1 j with j|j
   ·exact qW _ j
   ·exact qJ _ (qW _ j)
  ·exact qJ _ (qJ _ j)
 ·refine h.kept.trans ((i.less (fun b d=>qJ _ d)).trans (jE.xP l (fun b d=>⟨y.lt b (qJ _ (qJ _ d)),fun f=>?_⟩)));rw[qH.1 f]at d;have:=F gb d;omega
 ·rcases qE.1 d with j|j
  ·have:=(t.lt b (jt.1 j)).1;omega
  ·exact h.low b j
end
theorem qKd{l:List Rec}(hw:∀x∈l,vv x.2=true)(s:Tw)(a b:Int):kV s a (kY b) (ja l)=kV s a b (ja l):=by
 unfold kV;refine List.filter_congr fun x c=>?_
 have:=sA hw x (nL.1 c).1;unfold kY;exact decide_eq_decide.2 ⟨fun k=>⟨k.1,by omega⟩,fun k=>⟨k.1,by omega⟩⟩
def lF(At:jR)(w0:World)(gd gl gx gs r seed:Nat)(S:IxS)(L:jq)(chs:List (List Tw))(D:jD)(P:List jT)(m:Nat)(E:List Nat)(w:World)(e:Ending)(w':World):Prop :=
 ∃A c k,k<=m/\e=.returned (.tuple #[.slice A P.length c,.int .i64 0])/\kT w' w.1.size (.slice A P.length c) P/\ju At w0 gd gl gx gs r seed S L chs { D with count:=D.count+k } (jL (.slice A P.length c)++E) w'/\jE E w w'
section
variable {At:jR}(api:jS At)(nap:jw)(cap:vR){w0 w:World}{gd gl gx gs r seed:Nat}{S:IxS}{L:jq}{chs:List (List Tw)}{D:jD}{E:List Nat}
theorem qKf(h:ju At w0 gd gl gx gs r seed S L chs D E w)(s:Tw)(a b:Int){k:Nat}{e:jC}(n:(vf S (kX seed s.data.toList) a b)[k]? = some e):
  ∃(q:Nat) (p:Tw) (i:Nat),e=⟨kX seed s.data.toList,bgF p+(i:Nat),(q:Nat)⟩/\(q,p)∈jP 0 chs/\i<(bgL p).length/\(bgL p).length<=8/\0<=bgF p/\bgF p<=1073741824/\q<=819200/\gZ (jP 0 chs) s e=if bgS p=s then [⟨s,bgF p+(i:Nat),(bgL p).getD i ow⟩] else []:=by
 obtain⟨l,d,-⟩:=(mI h.sx.ok _ a b e).1 (qM n);obtain⟨x,c,i,f,rfl⟩:=sV ((h.rb.has e).1 l);simp only at d;obtain⟨-,-,-,-,-,m⟩:=dc (h.rb.whole x c);obtain⟨-,-,-,g,j,o,-⟩:=gh.1 m;have t:=Cr h.sx.xI x c;have u:=Jp h.sx.xI;exact⟨x.1,x.2,i,by rw[d],c,f,g,j,by omega,by omega,sY (seed:=seed) h.xH c s f _⟩
include api nap cap
theorem Ja(h:ju At w0 gd gl gx gs r seed S L chs D E w)(hc:D.count<=800000000)(hn:(jP 0 chs).length<=100)(s:Tw)(hz:s.size<=maxLen)(a b:Int)(wa:(Lit.int .i64 a).wf=true)(wb:(Lit.int .i64 b).wf=true):
  Calls prog 34 #[ptr gs,s,a,.int .i64 b] w (lF At w0 gd gl gx gs r seed S L chs D (kV s a b (ja (jP 0 chs))) (S.T.length+2*(vf S (kX seed s.data.toList) a b).length) E w):=by
 have aN:=qKY (seed:=seed) h.xH h.vs (nN h.sx.ok (kX seed s.data.toList) a b) s a (kY b) (fun y=>by rw[mI h.sx.ok,h.rb.has]);rw[qKd h.rb.whole]at aN;have aJ:=h.base.size;have aK:=qQ h.lt;have co:S.T.length<=40:=h.sx.ok.xR
 have bp:(vf S (kX seed s.data.toList) a b).length<=800:=by
  have h1:=nM seed (jP 0 chs) h.rb.whole;have h2:(vf S (kX seed s.data.toList) a b).length<=(uE seed (jP 0 chs)).length:=lA (nN h.sx.ok _ a b) (fun x Q=>(h.rb.has x).1 ((mI h.sx.ok _ a b x).1 Q).1);omega
 have b5:=h.len.2.2.2;have a4:kX seed s.data.toList<18446744073709551616:=XJ _ _;have bi:=qQ (fun(k:Nat) (e:jC) he=>qKf h s a b (k:=k) (e:=e) he);have aW:=qQ (qK8 api nap h (by omega))
 have aE:Hid (∀W,ju At w0 gd gl gx gs r seed S L chs D E W->Calls prog 60 #[ptr gx,.int .u64 (kX seed s.data.toList:Nat),a,.int .i64 b] W fun e w'=>∃A c k,k<=S.T.length/\e=.returned (.tuple #[.slice A (vf S (kX seed s.data.toList) a b).length c,.int .i64 0])/\jy w' W.1.size (.slice A (vf S (kX seed s.data.toList) a b).length c) (vf S (kX seed s.data.toList) a b) /\
   ju At w0 gd gl gx gs r seed S L chs { D with count:=D.count+k } (jL (.slice A (vf S (kX seed s.data.toList) a b).length c)++E) w'/\jE E W w'/\(w'.cell? ⟨gs,2,none⟩=some (ptr gx)/\w'.cell? ⟨gs,3,none⟩=some (.int .u64 (seed:Nat)))):=qQ fun W hW =>
  (qKO api nap hW.sx (by omega) (by omega) _ a4 a b wa wb).mono (by
   rintro e w'⟨A,c,k,hk,rfl,I,hi,b3⟩;obtain⟨g1,g2⟩:=hW.stepG hi b3 (fun b o=>(I.lt b (jt.1 o)).1);exact⟨A,c,k,hk,rfl,I,g1,g2,g1.cells.2.2.1,g1.cells.2.2.2⟩)
 have aT:=qQ (fun W (hW:ju At w0 gd gl gx gs r seed S L chs D E W)=>Jr hW.cells.2.2.2 h.sd s hz);have bb:=qQ (fun W cnt N (b2:cnt<=900000000) (hW:ju At w0 gd gl gx gs r seed S L chs { D with count:=cnt } (N++E) W) q p (hq:(q,p)∈jP 0 chs)=>qKb api nap cap hW b2 hq);have bk:=qQ h.xH;generalize kV s a b (ja (jP 0 chs))=P at*;generalize vf S (kX seed s.data.toList) a b=R at*;generalize kX seed s.data.toList=hh at*;obtain⟨n,aM⟩:∃n,n=R.length:=⟨_,rfl⟩
 rw[<-aM]at aE bp ⊢;have ao:=qQ aM;have HP:=qQ aN;clear aN h hn hz wa wb b5 a4 aM;go_enter func34,ntmps34;go_wp2_with fail;refine aW.out.mono ?_;rintro e w1⟨rfl,h1,k1⟩;have aq:=h1.drew api;obtain⟨-,-,c2,c3⟩:=aq.cells;have bv:w1.drew.cell? ⟨gs,2,none⟩=some (ptr gx)/\w1.drew.cell? ⟨gs,3,none⟩=some (.int .u64 (seed:Nat)):=⟨c2,c3⟩
 have aS:=qQ (aT.out _ aq);have aX:=qQ (aE.out _ aq);have aB:=qQ (show jE E w w1.drew from k1.drew);clear h1 k1 aq c2 c3 aT aE aW;go_wp2_with fail
 go_region_held3 (fun W=>W.cell? ⟨gs,2,none⟩=some (ptr gx)/\W.cell? ⟨gs,3,none⟩=some (.int .u64 (seed:Nat)))
  (first|(with_reducible assumption)|fail)
  (first
  | (go_at_call 61;((with_reducible refine X5 aS.out ?_)))
  | (go_at_call 60;((with_reducible refine aX.out.mono ?_);rintro e d⟨A,c,j,hj,rfl,aO,h2,k2,b1⟩))
  | fail)
 have ar:=(qU d.1.size d).alloc (qK _) (.cells #[.string ⟨#[]⟩,.int .i64 0,.slice none 0 0] 92);have B3:=jF.new d 92 #[.string ⟨#[]⟩,.int .i64 0,.slice none 0 0];have h3:=h2.more api ar (B:=[d.1.size]) (fun x Q=>by rw[qH.1 Q];exact⟨qK _,B3.lt⟩);have a5:jE E w (d.alloc (.cells #[.string ⟨#[]⟩,.int .i64 0,.slice none 0 0] 92)):=aB.out.trans (k2.trans (jE.xA ar (fun x Q=>h2.lt x (qJ _ Q))));have aR:w.1.size<=w1.1.size:=aB.out.size;have b6:w1.1.size<=d.1.size:=k2.size;have ba:=aO.below ar (qK _)
 have aZ:ga At w0 gd gl gx gs r seed S L chs D E w d.1.size (.slice A n c) R s 0 (.slice none 0 0) (-1) (D.count+j) ([d.1.size]++jL (.slice A n c)) (d.alloc (.cells #[.string ⟨#[]⟩,.int .i64 0,.slice none 0 0] 92)) :=
  ⟨kT.nil _ _,lV ba aR,qX ⟨rfl,B3⟩,by rw[qn];exact h3,a5,qW _ qC,(fun b o=>by cases jt.1 o),(fun b o=>qJ _ o),fun b o=>by
   rcases qE.1 o with q|q
   ·rw[qH.1 q];omega
   ·have:=(aO.lt b (jt.1 q)).1;exact qR aR this⟩
 have z:=qQ aZ;have HW:=qQ (show w.1.size<=d.1.size+1 by omega);have cv:j<=40:=by omega
 rename_i bn;clear aZ ba aR b6 a5 h3 B3 ar aO h2 k2 b1 bv aS aX aB bn;obtain⟨w3,b7⟩:∃w3,d.alloc (.cells #[.string ⟨#[]⟩,.int .i64 0,.slice none 0 0] 92)=w3:=⟨_,rfl⟩
 rw[b7]at z;obtain⟨am,b9⟩:∃am,am=w.1.size:=⟨_,rfl⟩
 go_wp2;go_loopw [12,13,15,42] (fun bm lv av i wr=>∃(k:Nat) (a:Int) (cnt:Nat) (N:List Nat) (U:Option Addr) (n1 c1:Nat),k<=n/\bm=.int .i64 0/\lv=.slice U n1 c1/\av=.int .i64 a/\i=.int .i64 k/\(D.count<=cnt/\cnt<=D.count+j+2*k)/\ga At w0 gd gl gx gs r seed S L chs D E w d.1.size (.slice A n c) R s k (.slice U n1 c1) a cnt N wr) (fun _ _ _ i _=>n-(intOf i).toNat)
 case atStart=>exact⟨0,_,_,_,none,0,0,qI _,rfl,rfl,rfl,rfl,⟨Nat.le_add_right _ _,qK _⟩,z.out⟩
 case round =>
  obtain⟨k,a1,cnt,N,U,n1,c1,hk,rfl,rfl,rfl,rfl,ct,M⟩:=hrel;by_cases b4:k<n
  ·have s1:(k:Int)<(n:Int):=(by omega);obtain⟨e,he⟩:∃e,R[k]? = some e:=⟨_,qD (by rw[<-ao.out];exact b4)⟩
   obtain⟨q,p,m,rfl,hq,aI,a6,aG,aH,a_,a7⟩:=bi.out k e he;obtain⟨A',off,ck,e1,-,a2⟩:=M.rv.xE.form;obtain⟨b0,rfl,cp,d0,d1,d2⟩:=a2 k _ he;obtain⟨rfl,-,-⟩:=Value.slice.inj e1;have a0:=(qU wr.1.size wr).alloc (qK _) (.cells #[.int .u64 (hh:Nat),.int .i64 (bgF p+(m:Nat)),.int .i64 (q:Nat)] 117);have Z:=jF.new wr 117 #[.int .u64 (hh:Nat),.int .i64 (bgF p+(m:Nat)),.int .i64 (q:Nat)];have ah:=M.xc api (by have:=M.kept.size;omega) a0 (B:=[wr.1.size]) (fun x Q=>by rw[qH.1 Q];exact⟨qK _,Z.lt⟩);obtain⟨Y,az⟩:∃Y,wr.alloc (.cells #[.int .u64 (hh:Nat),.int .i64 (bgF p+(m:Nat)),.int .i64 (q:Nat)] 117)=Y:=⟨_,rfl⟩
   have b_:am<=Y.1.size:=by
    have:=ah.kept.size;rw[az]at this;omega
   rw[az]at ah;rw[az]at Z;have ci:Hid (∀x∈E,x<Y.1.size):=qQ (fun x Q=>ah.st.lt x (qJ _ Q));simp only at d0 d1 d2;have p0:=Z.cell 0;have p1:=Z.cell 1;have p2:=Z.cell 2;have HE:=qQ he;have ae:=qQ a7;have z:=qQ ah;have aC:=qQ Z;obtain⟨f,H⟩:∃f,f=bgF p:=⟨_,rfl⟩
   obtain⟨v1,ac⟩:∃v1,v1=bgF p+(m:Int):=⟨_,rfl⟩
   have ap:IntKind.i64.wrap (v1-f)=(m:Int):=(by rw[ac,H,IntKind.wrap_i64];omega);have cn:v1-f=(m:Int):=(by rw[ac,H];omega);rw[<-ac]at d1 p1 HE ae az aC;clear M ah Z a0 he a7 e1 a2;have aY:=qQ (show v1=f+(m:Int) by rw[ac,H]);have ce:=qQ H;have aU:=qQ aI;have ag:=qQ b9;obtain⟨t,X⟩:∃t,t=(bgL p).length:=⟨_,rfl⟩
   have aV:=qQ X;have cu:m<t:=(by omega);have cx:t<=8:=(by omega);have a3:0<=f/\f<=1073741824:=(by rw[H];exact⟨aG,aH⟩);have cy:(m:Int)<(t:Int):=(by omega);have cL:(m:Int)≥0:=(by omega);by_cases ha:a1=(q:Int)
   ·subst ha;have cb:((q:Int) != (q:Int))=false:=(by simp);have cc:((q:Int)==(q:Int))=true:=(by simp);rcases z.out.box with⟨e,-⟩|⟨q',p',C,c2,e,a9,BB,I,ho⟩
    ·omega
    have a8:p'=p:=by
     have h1:=Co bk.out a9 hq (show q'=q by omega);exact congrArg Prod.snd h1
    rw[a8]at BB I;rw[<-X,<-H]at BB;rw[<-X]at I;have q0:=BB.cell 0;have q1:=BB.cell 1;have q2:=BB.cell 2;have aj:D.count<=cnt/\cnt<=D.count+j+2*(k+1):=(by omega);have aA:Hid (mH Y w.1.size (.slice C t c2) (bgL p)):=qQ (by rw[X]at I ⊢;exact I);have aF:Hid (am<=Y.1.size):=qQ b_;clear H ac X aI a6 aG aH BB I ho hq a9 a8 e a_;obtain⟨v,rfl⟩:∃v,v=Y:=⟨_,rfl⟩
    obtain⟨u,O⟩:∃u,u=bgS p:=⟨_,rfl⟩
    have af:=qQ O;rw[<-O]at q0;by_cases g:u=s
    ·have aQ:(u.toList==s.toList)=true:=oL g;have l:=ae.out;rw[qV (by rw[<-af.out];exact g)]at l;obtain⟨x,aa⟩:∃x,x=(bgL p).getD m ow:=⟨_,rfl⟩
     have al:(bgL p)[m]? = some x:=(by rw[aa,qj,qD aU.out];rfl);rw[<-aa]at l;have J:=qQ (DE u f (.slice C t c2) (bgL p) v (vC.xz aA.out) m x al a3 (by rw[<-aV.out];omega));rw[<-aY.out,g]at J;have HT:=qQ (fun W (o:Below v.1.size v W)=>(z.out.below api o).more api (by have:=aF.out;have:=ag.out;have:=o.size;omega) aJ (by rw[<-ao.out];omega) HE.out l aK.out 36);unfold km at J;rw[g]at q0;clear g l aa al O ap;go_wp2_with fail;refine KG J.out fun wB ai=>?_;obtain⟨ca,N',w9,V,K⟩:=HT.out wB ai;have ad:=qQ V;have aL:=v8 K.row;obtain⟨A9,c9,rfl,-,-,-⟩:=aL;obtain⟨n9,ak⟩:∃n9,n9=((R.take (k+1)).flatMap (gZ (jP 0 chs) s)).length:=⟨_,rfl⟩
     rw[<-ak]at K ad;have H9:=qQ K;clear V K ai HT J ak;go_wp2_with (first|(at_builtin;refine yK rfl _ _ rfl rfl rfl ad.out ?_)|fail);go_wp2;go_roundw
     case rel=>exact⟨k+1,_,_,N',A9,_,c9,by omega,rfl,rfl,rfl,by go_num,aj,H9.out⟩
     case measure=>simp[intOf];omega
    ·have aQ:(u.toList==s.toList)=false:=rU g;have l:=ae.out;rw[qZ (by rw[<-af.out];exact g)]at l;have H9:=qQ (z.out.skip HE.out l);clear g l O ap;go_wp2;go_roundw
     case rel=>exact⟨k+1,_,_,_,U,n1,c1,by omega,rfl,rfl,rfl,by go_num,aj,H9.out⟩
     case measure=>simp[intOf];omega
   ·have cb:((q:Int) != a1)=true:=(by simp;omega);have cc:((q:Int)==a1)=false:=qg.2 (by omega);have an:=qQ (bb.out Y cnt ([wr.1.size]++N) (by omega) z.out.st q p hq);have aD:=qQ (fun W' A c I g hk=>z.out.read (w':=W') (A:=A) (c:=c) (p:=p) api aJ (by have:=ag.out;omega) aK.out hq I g hk);unfold km at an;rw[<-X,<-H]at an;rw[<-X,<-H]at aD;clear H ac X aI a6 aG aH a_;go_wp2_with fail;refine an.out.mono ?_;rintro e w6⟨C,c2,rfl,ax,h6,k6⟩;obtain⟨⟨t0,t1,t2,F⟩,h7⟩:=aD.out w6 C c2 ax h6 k6;have ab:=k6.xW aC.out (qW _ (qW _ qC));have au:wr.1.size≠d.1.size:=jF.xi ab F (by decide);have BP:=((F.put 0 (.string (bgS p))).put 1 (.int .i64 f)).put 2 (.slice C t c2);have BO:=((ab.xF (p:=⟨d.1.size,0,none⟩) au (.string (bgS p))).xF (p:=⟨d.1.size,1,none⟩) au (.int .i64 f)).xF (p:=⟨d.1.size,2,none⟩) au (.slice C t c2);have aw:=vJ ax F (by decide);have aP:=vu (vu (vu ax (p:=⟨d.1.size,0,none⟩) aw (.string (bgS p))) (p:=⟨d.1.size,1,none⟩) aw (.int .i64 f)) (p:=⟨d.1.size,2,none⟩) aw (.slice C t c2);have g0:=F.frozen 0;have g1:=F.frozen 1;have g2:=F.frozen 2;have j0:=F.cell 0;have j1:=F.cell 1;have j2:=F.cell 2;have o0:=ab.cell 0;have o1:=ab.cell 1;have o2:=ab.cell 2;have aj:D.count<=cnt+2/\cnt+2<=D.count+j+2*(k+1):=(by omega);obtain⟨v,b8⟩:∃v,((w6.setCell ⟨d.1.size,0,none⟩ (.string (bgS p))).setCell ⟨d.1.size,1,none⟩ (.int .i64 f)).setCell ⟨d.1.size,2,none⟩ (.slice C t c2)=v:=⟨_,rfl⟩
    rw[b8]at h7 BP BO aP;have q0:=BP.cell 0;have q1:=BP.cell 1;have q2:=BP.cell 2;clear p0 p1 p2;have p0:=BO.cell 0;have p1:=BO.cell 1;have p2:=BO.cell 2;have aF:Hid (am<=v.1.size):=qQ (by have:=h7.kept.size;have:=ag.out;omega);have aA:Hid (mH v w.1.size (.slice C t c2) (bgL p)):=qQ (lV aP (by have:=ag.out;omega));clear z;have z:=qQ h7;clear h7 BP BO aP aw au F ab ax h6 k6 aD an aC;obtain⟨u,O⟩:∃u,u=bgS p:=⟨_,rfl⟩
    have af:=qQ O;rw[<-O]at q0;by_cases g:u=s
    ·have aQ:(u.toList==s.toList)=true:=oL g;have l:=ae.out;rw[qV (by rw[<-af.out];exact g)]at l;obtain⟨x,aa⟩:∃x,x=(bgL p).getD m ow:=⟨_,rfl⟩
     have al:(bgL p)[m]? = some x:=(by rw[aa,qj,qD aU.out];rfl);rw[<-aa]at l;have J:=qQ (DE u f (.slice C t c2) (bgL p) v (vC.xz aA.out) m x al a3 (by rw[<-aV.out];omega));rw[<-aY.out,g]at J;have HT:=qQ (fun W (o:Below v.1.size v W)=>(z.out.below api o).more api (by have:=aF.out;have:=ag.out;have:=o.size;omega) aJ (by rw[<-ao.out];omega) HE.out l aK.out 36);unfold km at J;rw[g]at q0;clear g l aa al O ap;go_wp2_with fail;refine KG J.out fun wB ai=>?_;obtain⟨ca,N',w9,V,K⟩:=HT.out wB ai;have ad:=qQ V;have aL:=v8 K.row;obtain⟨A9,c9,rfl,-,-,-⟩:=aL;obtain⟨n9,ak⟩:∃n9,n9=((R.take (k+1)).flatMap (gZ (jP 0 chs) s)).length:=⟨_,rfl⟩
     rw[<-ak]at K ad;have H9:=qQ K;clear V K ai HT J ak;go_wp2_with (first|(at_builtin;refine yK rfl _ _ rfl rfl rfl ad.out ?_)|fail);go_wp2;go_roundw
     case rel=>exact⟨k+1,_,_,N',A9,_,c9,by omega,rfl,rfl,rfl,by go_num,aj,H9.out⟩
     case measure=>simp[intOf];omega
    ·have aQ:(u.toList==s.toList)=false:=rU g;have l:=ae.out;rw[qZ (by rw[<-af.out];exact g)]at l;have H9:=qQ (z.out.skip HE.out l);clear g l O ap;go_wp2;go_roundw
     case rel=>exact⟨k+1,_,_,_,U,n1,c1,by omega,rfl,rfl,rfl,by go_num,aj,H9.out⟩
     case measure=>simp[intOf];omega
  ·obtain rfl:k=n:=(by omega);have s1:¬(k:Int)<(k:Int):=(by omega);have ay:=M.row;rw[qp (by rw[<-ao.out];exact qK _),HP.out]at ay;obtain⟨A9,c9,V,-,-,-⟩:=v8 ay;obtain⟨rfl,rfl,rfl⟩:=Value.slice.inj V
   have hst:ju At w0 gd gl gx gs r seed S L chs { D with count:=D.count+(cnt-D.count) } (jL (.slice U P.length c1)++E) wr:=by
    rw[show D.count+(cnt-D.count)=cnt by omega];exact M.st.less (fun b o=>(qE.1 o).elim (fun q=>qW _ (M.ol b q)) (fun q=>qJ _ q))
   have hF:lF At w0 gd gl gx gs r seed S L chs D P (S.T.length+2*k) E w (.returned (.tuple #[.slice U P.length c1,.int .i64 0])) wr:=⟨U,c1,cnt-D.count,by omega,rfl,ay,hst,M.kept⟩
   have HF:=qQ hF;clear hF hst ay V M;go_wp2;go_ret2;exact HF.out
end
section
variable {At:jR}(api:jS At){w0 w w':World}{gd gl gx r:Nat}{S S':IxS}{L:jq}{chs:List (List Tw)}{D D':jD}{E E' B:List Nat}
theorem dI.xL(api:jS At)(h:dI At w0 gd gl gx r S L chs D E w)(i:jH B w w')(d:∀b∈B,b∈E/\w0.1.size<=b)(g:∀b∈E',b∈E∨(w.1.size<=b/\b<w'.1.size)):dI At w0 gd gl gx r S L chs D E' w':=by
 have l:=h.ix.lt gl qC;have j:gl ∉ B:=fun f=>h.xF (d gl f).1
 refine⟨h.ix.xL api i (fun b c=>⟨qF _ (d b c).1,(d b c).2⟩) (fun b c=>?_),h.log.xC i j,fun f=>?_,h.low,h.ok,h.fl,h.xI,h.gl⟩
 ·rcases qL.1 c with e|k
  ·rw[e];exact qX qC
  ·exact(g b k).imp (qF _) id
 ·rcases g gl f with k|k
  ·exact h.xF k
  ·omega
theorem dI.more(api:jS At)(h:dI At w0 gd gl gx r S L chs D E w)(c:Below w.1.size w w')(d:∀b∈B,w.1.size<=b/\b<w'.1.size):dI At w0 gd gl gx r S L chs D (B++E) w' :=
 h.xL api (B:=[]) (jH.xA c) (fun b c=>by cases c) (fun b c=>(qE.1 c).elim (fun k=>qY (d b k)) qX)
theorem gE.below(api:jS At)(h:gE At w0 gd gl L D E w)(b:Below w.1.size w w'):gE At w0 gd gl L D E w':=⟨h.1.below api b,h.2.1.below b,h.2.2.1,h.2.2.2⟩
theorem gE.lt(h:gE At w0 gd gl L D E w):∀b∈gl::E,b<w.1.size:=h.1.lt
theorem qKh(api:jS At)(nap:jw)(h:gE At w0 gd gl L D E w)(ok:WfP D)(i:D.count<=1000000000)(g:L.chunks<=200):
  Calls prog 80 #[ptr gl,.int .i64 (-1)] w fun e w'=>∃k:Nat,k≠1/\e=.returned (.tuple #[.string ByteArray.empty,k])/\gE At w0 gd gl L D E w'/\jE E w w':=by
 have b:∃k:Nat,k≠1/\lj D L (-1)=(ByteArray.empty,k,D):=by
  unfold lj;by_cases q:yG D L≠0
  ·rw[qV q];refine⟨yG D L, ?_,rfl⟩;unfold yG;split
   ·decide
   ·split<;>decide
  ·rw[qZ q,qV (qX (by decide))];exact⟨4,by decide,rfl⟩
 obtain⟨k,j,b⟩:=b;refine(h.call api (v:=.tuple #[.string ByteArray.empty,k]) (D':=D) (L':=L) (fun c l f=>?_)).mono ?_
 ·have:=JU api nap l f ok i (-1) (by decide) g;rw[b]at this;exact this
 ·rintro e w'⟨rfl,d,m⟩;exact⟨k,j,rfl,d,m⟩
theorem qKl(api:jS At)(nap:jw)(h:gp At w0 gd gl L chs D E w)(ab:D.count<=850000000)(seed r:Nat)(Y:seed<18446744073709551616):
  Calls prog 82 #[ptr gd,.int .u64 (seed:Nat),.float .f64 r] w fun e w'=>∃gx D',e=.returned (.tuple #[ptr gx,.int .i64 0])/\dI At w0 gd gl gx r ⟨bo seed,[],[]⟩ L chs D' E w'/\jE E w w'/\D'.xB=D.xB/\D'.cap=D.cap/\D'.count<=D.count+80/\jM D'.l<=jM D.l/\jN D'.l jh=none:=by
 have t:Hid (Calls prog 125 #[ptr gd,.string ⟨#[109,97,112]⟩] w _):=qQ (qKq api h jh Cl (by decide))
 have y:=qQ (fun(D':jD) (W:World) (aa:D'.count=D.count) (V:gp At w0 gd gl L chs D' E W)=>(show Calls prog 133 #[ptr gd,.agg #[.int .i64 0,.int .i64 0,.int .u64 (seed:Nat),.slice none 0 0],.float .f64 r] W _ from
  qKx api nap (n:=0) (c:=0) (d:=seed) (A:=none) (cp:=0) (R:=[]) V (by omega) (qKk seed) Y (kh.nil W none 0) (fun x m=>by cases m) r))
 clear h;go_enter func82,ntmps82;go_wp2_with fail;refine t.out.mono ?_;rintro e Z⟨f,b,rfl,i,z,K,o,J,I,-⟩;have H:jN b.l jh=none:=ot fun q=>((I jh).1 q).2 rfl
 have v:=qQ (y.out b Z o.count z);have O:=qQ (qG K (qG o (qG J H)))
 have X:f=0∨f=4:=by
  unfold cP at i;simpa using i
 clear z K o J I H i t y;rcases X with rfl|rfl
 all_goals
  go_wp2_with fail;refine v.out.mono ?_;rintro e w2 (⟨gx,T,j,rfl,F,-,hj,C,M⟩|⟨x,j,m,-⟩);rotate_left
  ·cases m
  obtain rfl:T=[]:=List.map_eq_nil_iff.1 F;have u:=qQ (qG C M);clear C M F v;go_wp2;go_ret2;obtain⟨P,g,Q,U⟩:=O.out;exact⟨gx,_,rfl,u.out.1,P.trans u.out.2,g.xB,g.cap,by show b.count+j<=_;have:=g.count;omega,Q,U⟩
end
section
variable {At:jR}(api:jS At){w0 w w':World}{gd gl gx r seed:Nat}{S S':IxS}{L:jq}{chs:List (List Tw)}{D D':jD}{E E' B:List Nat}
theorem qKm(api:jS At)(h:dI At w0 gd gl gx r S L chs D E w):Calls prog 31 #[ptr gx] w (ch w S.m.next S.m.check S.m.seed S.m.lv):=CR api h.ix h.ok
end
end
end Go.Proofs.YthejglbnkmimjaaGreat
