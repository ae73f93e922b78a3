import Derived.Test.YthejglbnkmimjaaGreatPp35
import Derived.Test.YthejglbnkmimjaaGreatPp26
set_option linter.unusedVariables false
set_option maxRecDepth 100000
set_option maxHeartbeats 9000000
namespace Go.Proofs.YthejglbnkmimjaaGreat
open Tryz
section
open Go.RowKit Go.Shelf
theorem ly{D:zr}{S:IxS}(h:kX D S)(k:Nat)(a b:Int)(x:zn):x∈v7 S k a b↔cZ S x/\x.h=k/\a<=x.v/\x.v<=j7 b:=by
 have c:∀l:List zn,x∈kZ l k a (j7 b)↔x∈l/\(x.h=k/\a<=x.v/\x.v<=j7 b):=fun l=>by
  unfold kZ inQ;rw[List.mem_filter,decide_eq_true_iff]
 unfold v7;rw[ZR];constructor
 ·rintro ⟨l,f,d⟩;rcases qL.1 f with rfl|f
  ·exact⟨qX ((c _).1 d).1,((c _).1 d).2⟩
  ·obtain⟨t,g,rfl⟩:=qN.1 f;exact⟨qY ⟨t,g,((c _).1 d).1⟩,((c _).1 d).2⟩
 ·rintro ⟨q|⟨t,g,q⟩,i⟩
  ·exact⟨_,qB,(c _).2 ⟨q,i⟩⟩
  ·exact⟨_,qF _ (qN.2 ⟨t,g,rfl⟩),(c _).2 ⟨q,i⟩⟩
theorem nS{D:zr}{S:IxS}(h:kX D S)(k:Nat)(a b:Int):jj (v7 S k a b):=ZT (h.xm k a (j7 b))
theorem Sz(l:List Rec)(s:Tw)(e:zn):(yM l s e).length<=1:=by
 unfold yM;split
 ·exact qZ _
 ·exact qH _
theorem YB(l:List Rec)(s:Tw):∀R:List zn,(R.flatMap (yM l s)).length<=R.length
 | []=>qZ _
 | e::R=>by
   rw[List.flatMap_cons,qI,qk];have:=YB l s R;have:=Sz l s e;omega
theorem YC(f:zn->List jN){R:List zn}{k:Nat}{e:zn}(h:R[k]? = some e):(R.take (k+1)).flatMap f=(R.take k).flatMap f++f e:=by
 rw[List.take_add_one,h,List.flatMap_append];simp
section
variable {At:jK}{w0 we wr w':World}{gd gl gx gs r seed gb k cnt:Nat}{S:IxS}{L:jV}{chs:List (List Tw)}{D:zr}{E N:List Nat}{Rv lv:Value}{R:List zn}{s:Tw}{a:Int}
def lu(we:World)(gb:Nat)(chs:List (List Tw))(N:List Nat)(a:Int)(wr:World):Prop :=
 (a = -1/\za wr gb 92 #[.string ⟨#[]⟩,.int .i64 0,.slice none 0 0]) ∨
 ∃q p A c,a=((q:Nat):Int)/\(q,p)∈zo 0 chs/\za wr gb 92 #[.string (bgS p),.int .i64 (bgF p),.slice A (bgL p).length c]/\dj wr we.heap.size (.slice A (bgL p).length c) (bgL p)/\∀b∈jA (.slice A (bgL p).length c),b∈N
structure uX(At:jK)(w0:World)(gd gl gx gs r seed:Nat)(S:IxS)(L:jV)(chs:List (List Tw))(D:zr)(E:List Nat)(we:World)(gb:Nat)(Rv:Value)(R:List zn)(s:Tw)(k:Nat)(lv:Value)(a:Int)(cnt:Nat)(N:List Nat)(wr:World):Prop where
 row:kO wr we.heap.size lv ((R.take k).flatMap (yM (zo 0 chs) s))
 rv:jC wr we.heap.size Rv R
 box:lu we gb chs N a wr
 st:jM At w0 gd gl gx gs r seed S L chs { D with count:=cnt } (N++E) wr
 kept:zt E we wr
 gb:gb∈N
 ol:∀b∈jA lv,b∈N
 xM:∀b∈jA Rv,b∈N
 low:∀b∈N,we.heap.size<=b
theorem lu.keep{i:List Nat}(h:lu we gb chs N a wr)(f:zt (N++E) wr w')(d:gb∈N)(v:∀b∈N,b∈i):lu we gb chs i a w':=by
 rcases h with⟨e,B⟩|⟨q,p,A,c,e,C,B,l,j⟩
 ·exact qX ⟨e,f.qp B (qA _ d)⟩
 ·refine qY ⟨q,p,A,c,e,C,f.qp B (qA _ d),⟨l.1, ?_⟩,fun b y=>v b (j b y)⟩;rcases l.2 with t|⟨g,cap,o,m,d,z,rest⟩
  ·exact qX t
  ·exact qY ⟨g,cap,o,m,d,(f.block g (qA _ (j g (jq.2 (by rw[m];rfl))))).trans z,rest⟩
theorem uX.below(api:jY At)(h:uX At w0 gd gl gx gs r seed S L chs D E we gb Rv R s k lv a cnt N wr)(c:Below wr.heap.size wr w'):uX At w0 gd gl gx gs r seed S L chs D E we gb Rv R s k lv a cnt N w':=by
 have d:=h.st.xB c;exact⟨h.row.below c (qZ _),h.rv.below c (qZ _),lu.keep h.box d h.gb (fun b c=>c),h.st.below api c,h.kept.trans (d.less (fun b c=>qV _ c)),h.gb,h.ol,h.xM,h.low⟩
theorem uX.xP(api:jY At)(h:uX At w0 gd gl gx gs r seed S L chs D E we gb Rv R s k lv a cnt N wr)(g:we.heap.size<=wr.heap.size)(c:Below wr.heap.size wr w'){B:List Nat}(d:∀x∈B,wr.heap.size<=x/\x<w'.heap.size):uX At w0 gd gl gx gs r seed S L chs D E we gb Rv R s k lv a cnt (B++N) w':=by
 have f:=h.st.xB c;refine⟨h.row.below c (qZ _),h.rv.below c (qZ _),lu.keep h.box f h.gb (fun b c=>qV _ c),by rw[qd];exact h.st.more api c d,h.kept.trans (f.less (fun b c=>qV _ c)),qV _ h.gb,fun b c=>qV _ (h.ol b c),fun b c=>qV _ (h.xM b c),fun b c=>?_⟩;rcases qC.1 c with q|q
 ·have:=(d b q).1;omega
 ·exact h.low b q
theorem uX.more(api:jY At)(h:uX At w0 gd gl gx gs r seed S L chs D E we gb Rv R s k lv a cnt N wr)(hl:we.heap.size<=wr.heap.size)(h0:w0.heap.size<=we.heap.size)(hR:R.length<=100000){e:zn}{x:jN}(P:R[k]? = some e)(hx:yM (zo 0 chs) s e=[x])(O:∀b∈E,b<we.heap.size)(H:TypeId):
  ∃G I w',(Builtin.append_ #[36,36] H #[lv,.slice (some ⟨wr.heap.size,0,none⟩) 1 1]).run prog (wr.alloc (.cells (fS x) 66)) = .ok G w'/\uX At w0 gd gl gx gs r seed S L chs D E we gb Rv R s (k+1) G a cnt I w':=by
 have o:=(Below.refl wr.heap.size wr).alloc (qZ _) (.cells (fS x) 66);have f:=h.below api o;have C:=Ri wr x;obtain⟨l,Z⟩:∃l,wr.alloc (.cells (fS x) 66)=l:=⟨_,rfl⟩
 rw[Z]at f C o ⊢;have aa:((R.take k).flatMap (yM (zo 0 chs) s)).length<=100000:=qR (YB _ _ _) (by rw[qq];omega);have hz:=o.size;obtain⟨A,c,w',J,m,K,M⟩:=Ro f.row C (by rw[List.length_singleton];omega) (by omega) H;have v:∀b∈jA lv,we.heap.size<=b/\b<l.heap.size:=fun b d=>f.row.own b d
 have i:ze (jA lv) l w':=(ze.refl _ _).grown K (fun j Q=>qX (jq.2 Q));have F:=YC (yM (zo 0 chs) s) P;rw[hx]at F
 have W:∀b∈jA (.slice A (((R.take k).flatMap (yM (zo 0 chs) s)).length+[x].length) c),b∈jA lv∨b=l.heap.size:=fun b d=>by
  have d:=jq.1 d;rcases M with q|q
  ·exact qX (jq.2 (by rw[<-q];exact d))
  ·rw[q]at d;exact qY (qv d).symm
 have hst:=f.st.xX api (E':=(jA (.slice A (((R.take k).flatMap (yM (zo 0 chs) s)).length+[x].length) c)++N)++E) i (fun b d=>⟨qA _ (f.ol b d),by have:=(v b d).1;omega⟩) (fun b d=>by
  rcases qC.1 d with q|q
  ·rcases qC.1 q with q|q
   ·rcases W b q with j|j
    ·exact qX (qA _ (f.ol b j))
    ·exact qY ⟨by omega,(m.lt b (jq.1 q)).2⟩
   ·exact qX (qA _ q)
  ·exact qX (qV _ q))
 have V:∀b∈E,b<l.heap.size/\b ∉ jA lv:=fun b d=>⟨f.st.lt b (qV _ d),fun g=>by have:=(v b g).1;have:=O b d;omega⟩
 have U:=zt.xK i V
 have y:gb ∉ jA lv:=fun g=>by
  rcases f.box with⟨-,B⟩|⟨q,p,t,c2,-,-,B,-⟩
  ·exact kv f.row B (by decide) (jq.1 g)
  ·exact kv f.row B (by decide) (jq.1 g)
 refine⟨_,jA (.slice A (((R.take k).flatMap (yM (zo 0 chs) s)).length+[x].length) c)++N,w',J,⟨by rw[F];unfold kO;rw[qI];unfold kO at m;rw[qI]at m;exact m, ?_, ?_,hst,f.kept.trans U,qV _ f.gb,fun b d=>qA _ d,fun b d=>qV _ (f.xM b d),fun b d=>?_⟩⟩
 ·exact gz f.rv i (fun b d g=>cG f.row f.rv (by decide) b d (jq.1 g))
 ·rcases f.box with⟨e,B⟩|⟨q,p,t,c2,e,Y,B,z,X⟩
  ·exact qX ⟨e,B.qa i y⟩
  ·exact qY ⟨q,p,t,c2,e,Y,B.qa i y,gz z i (fun b d g=>cG f.row z (by decide) b d (jq.1 g)),fun b d=>qV _ (X b d)⟩
 ·rcases qC.1 d with q|q
  ·exact(m.lt b (jq.1 q)).1
  ·exact f.low b q
theorem uX.skip(h:uX At w0 gd gl gx gs r seed S L chs D E we gb Rv R s k lv a cnt N wr){e:zn}(c:R[k]? = some e)(d:yM (zo 0 chs) s e=[]):uX At w0 gd gl gx gs r seed S L chs D E we gb Rv R s (k+1) lv a cnt N wr:=by
 have b:=YC (yM (zo 0 chs) s) c;rw[d,List.append_nil]at b;exact⟨by rw[b];exact h.row,h.rv,h.box,h.st,h.kept,h.gb,h.ol,h.xM,h.low⟩
theorem uX.read(api:jY At)(h:uX At w0 gd gl gx gs r seed S L chs D E we gb Rv R s k lv a cnt N wr)(M:w0.heap.size<=we.heap.size)(I:we.heap.size<=wr.heap.size)(H:∀b∈E,b<we.heap.size){q:Nat}{p:Tw}(J:(q,p)∈zo 0 chs){A:Option Addr}{c:Nat}(v:dj w' wr.heap.size (.slice A (bgL p).length c) (bgL p))
  (C:jM At w0 gd gl gx gs r seed S L chs { D with count:=cnt+2 } (jA (.slice A (bgL p).length c)++(N++E)) w') (i:zt (N++E) wr w'):
  (∃m o t,za w' gb 92 #[m,o,t])/\uX At w0 gd gl gx gs r seed S L chs D E we gb Rv R s k lv ((q:Nat):Int) (cnt+2) (jA (.slice A (bgL p).length c)++N) (((w'.setCell ⟨gb,0,none⟩ (.string (bgS p))).setCell ⟨gb,1,none⟩ (.int .i64 (bgF p))).setCell ⟨gb,2,none⟩ (.slice A (bgL p).length c)):=by
 have O:=h.low gb h.gb
 have G:∃m o t,za w' gb 92 #[m,o,t]:=by
  rcases h.box with⟨-,B⟩|⟨q,p,K,c2,-,-,B,-⟩
  ·exact⟨_,_,_,i.qp B (qA _ h.gb)⟩
  ·exact⟨_,_,_,i.qp B (qA _ h.gb)⟩
 obtain⟨m,o,t,B⟩:=G;have l:=Q0 (g:=gb) (w:=w') (.string (bgS p)) (.int .i64 (bgF p)) (.slice A (bgL p).length c);have F:=((B.put 0 (.string (bgS p))).put 1 (.int .i64 (bgF p))).put 2 (.slice A (bgL p).length c);have y:=i.zQ h.row (fun b d=>qA _ (h.ol b d));have z:=i.row h.rv (fun b d=>qA _ (h.xM b d));refine⟨⟨m,o,t,B⟩,⟨gz y l (fun b d f=>?_),gz z l (fun b d f=>?_),qY ⟨q,p,A,c,rfl,J,F, ?_,fun b d=>qA _ d⟩,C.xX api l (fun b d=>⟨?_, ?_⟩) (fun b d=>qX ?_), ?_,qV _ h.gb,fun b d=>qV _ (h.ol b d),fun b d=>qV _ (h.xM b d),fun b d=>?_⟩⟩
 ·rw[qE.1 f]at d;exact kv y B (by decide) d
 ·rw[qE.1 f]at d;exact kv z B (by decide) d
 ·exact cv (gz v l (fun b d f=>by
   rw[qE.1 f]at d;exact kv v B (by decide) d)) I
 ·rw[qE.1 d];exact qV _ (qA _ h.gb)
 ·rw[qE.1 d];omega
 ·rcases qC.1 d with j|j
  ·rcases qC.1 j with j|j
   ·exact qA _ j
   ·exact qV _ (qA _ j)
  ·exact qV _ (qV _ j)
 ·refine h.kept.trans ((i.less (fun b d=>qV _ d)).trans (zt.xK l (fun b d=>⟨C.lt b (qV _ (qV _ d)),fun f=>?_⟩)));rw[qE.1 f]at d;have:=H gb d;omega
 ·rcases qC.1 d with j|j
  ·have:=(v.lt b (jq.1 j)).1;omega
  ·exact h.low b j
end
theorem Sj{l:List Rec}(hw:∀x∈l,kK x.2=true)(s:Tw)(a b:Int):kN s a (j7 b) (jT l)=kN s a b (jT l):=by
 unfold kN;refine List.filter_congr fun x c=>?_
 have:=ph hw x (nI.1 c).1;unfold j7;exact decide_eq_decide.2 ⟨fun k=>⟨k.1,by omega⟩,fun k=>⟨k.1,by omega⟩⟩
def cl(At:jK)(w0:World)(gd gl gx gs r seed:Nat)(S:IxS)(L:jV)(chs:List (List Tw))(D:zr)(P:List jN)(m:Nat)(E:List Nat)(w:World)(e:Ending)(w':World):Prop :=
 ∃A c k,k<=m/\e = .returned (.tuple #[.slice A P.length c,.int .i64 0])/\kO w' w.heap.size (.slice A P.length c) P/\jM At w0 gd gl gx gs r seed S L chs { D with count:=D.count+k } (jA (.slice A P.length c)++E) w'/\zt E w w'
section
variable {At:jK}(api:jY At)(nap:jz)(cap:kc){w0 w:World}{gd gl gx gs r seed:Nat}{S:IxS}{L:jV}{chs:List (List Tw)}{D:zr}{E:List Nat}
theorem Sk(h:jM At w0 gd gl gx gs r seed S L chs D E w)(s:Tw)(a b:Int){k:Nat}{e:zn}(o:(v7 S (jc seed s.data.toList) a b)[k]? = some e):
  ∃(q:Nat) (p:Tw) (i:Nat),e=⟨jc seed s.data.toList,bgF p+(i:Nat),(q:Nat)⟩/\(q,p)∈zo 0 chs/\i<(bgL p).length/\(bgL p).length<=8/\0<=bgF p/\bgF p<=1073741824/\q<=819200/\yM (zo 0 chs) s e=if bgS p=s then [⟨s,bgF p+(i:Nat),(bgL p).getD i lj⟩] else []:=by
 obtain⟨l,d,-⟩:=(ly h.sx.ok _ a b e).1 (qO o);obtain⟨x,c,i,f,rfl⟩:=nN ((h.rb.has e).1 l);simp only at d;obtain⟨-,-,-,-,-,m⟩:=br (h.rb.whole x c);obtain⟨-,-,-,g,j,t,-⟩:=gU.1 m;have v:=Rk h.sx.xQ x c;have y:=pd h.sx.xQ;exact⟨x.1,x.2,i,by rw[d],c,f,g,j,by omega,by omega,nO (seed:=seed) h.qo c s f _⟩
include api nap cap
theorem Q1(h:jM At w0 gd gl gx gs r seed S L chs D E w)(hc:D.count<=800000000)(hn:(zo 0 chs).length<=100)(s:Tw)(hz:s.size<=maxLen)(a b:Int)(wa:(Lit.int .i64 a).wf=true)(wb:(Lit.int .i64 b).wf=true):
  Calls prog 34 #[ptr gs,.string s,.int .i64 a,.int .i64 b] w (cl At w0 gd gl gx gs r seed S L chs D (kN s a b (jT (zo 0 chs))) (S.T.length+2*(v7 S (jc seed s.data.toList) a b).length) E w):=by
 have aN:=Rr (seed:=seed) h.qo h.vs (nS h.sx.ok (jc seed s.data.toList) a b) s a (j7 b) (fun y=>by rw[ly h.sx.ok,h.rb.has]);rw[Sj h.rb.whole]at aN;have aJ:=h.base.size;have aK:=qQ h.lt;have cu:S.T.length<=40:=h.sx.ok.xG
 have bv:(v7 S (jc seed s.data.toList) a b).length<=800:=by
  have h1:=fq seed (zo 0 chs) h.rb.whole;have h2:(v7 S (jc seed s.data.toList) a b).length<=(vM seed (zo 0 chs)).length:=dT (nS h.sx.ok _ a b) (fun x Q=>(h.rb.has x).1 ((ly h.sx.ok _ a b x).1 Q).1);omega
 have b6:=h.len.2.2.2;have a4:jc seed s.data.toList<18446744073709551616:=rK _ _;have bi:=qQ (fun(k:Nat) (e:zn) he=>Sk h s a b (k:=k) (e:=e) he);have aW:=qQ (SL api nap h (by omega))
 have aE:Hid (∀W,jM At w0 gd gl gx gs r seed S L chs D E W->Calls prog 60 #[ptr gx,.int .u64 (jc seed s.data.toList:Nat),.int .i64 a,.int .i64 b] W fun e w'=>∃A c k,k<=S.T.length/\e = .returned (.tuple #[.slice A (v7 S (jc seed s.data.toList) a b).length c,.int .i64 0])/\jC w' W.heap.size (.slice A (v7 S (jc seed s.data.toList) a b).length c) (v7 S (jc seed s.data.toList) a b) /\
   jM At w0 gd gl gx gs r seed S L chs { D with count:=D.count+k } (jA (.slice A (v7 S (jc seed s.data.toList) a b).length c)++E) w'/\zt E W w'/\(w'.cell? ⟨gs,2,none⟩=some (ptr gx)/\w'.cell? ⟨gs,3,none⟩=some (.int .u64 (seed:Nat)))):=qQ fun W hW =>
  (SX api nap hW.sx (by omega) (by omega) _ a4 a b wa wb).mono (by
   rintro e w'⟨A,c,k,hk,rfl,I,hi,b4⟩;obtain⟨g1,g2⟩:=hW.stepG hi b4 (fun b o=>(I.lt b (jq.1 o)).1);exact⟨A,c,k,hk,rfl,I,g1,g2,g1.cells.2.2.1,g1.cells.2.2.2⟩)
 have aT:=qQ (fun W (hW:jM At w0 gd gl gx gs r seed S L chs D E W)=>QR hW.cells.2.2.2 h.sd s hz);have bb:=qQ (fun W cnt N (b3:cnt<=900000000) (hW:jM At w0 gd gl gx gs r seed S L chs { D with count:=cnt } (N++E) W) q p (hq:(q,p)∈zo 0 chs)=>Sx api nap cap hW b3 hq);have bk:=qQ h.qo;generalize kN s a b (jT (zo 0 chs))=P at*;generalize v7 S (jc seed s.data.toList) a b=R at*;generalize jc seed s.data.toList=hh at*;obtain⟨n,aM⟩:∃n,n=R.length:=⟨_,rfl⟩
 rw[<-aM]at aE bv ⊢;have ao:=qQ aM;have HP:=qQ aN;clear aN h hn hz wa wb b6 a4 aM;go_enter func34,ntmps34;go_wp2_with fail;refine aW.out.mono ?_;rintro e w1⟨rfl,h1,k1⟩;have aq:=h1.drew api;obtain⟨-,-,c2,c3⟩:=aq.cells;have b1:w1.drew.cell? ⟨gs,2,none⟩=some (ptr gx)/\w1.drew.cell? ⟨gs,3,none⟩=some (.int .u64 (seed:Nat)):=⟨c2,c3⟩
 have aS:=qQ (aT.out _ aq);have aX:=qQ (aE.out _ aq);have aB:=qQ (show zt E w w1.drew from k1.drew);clear h1 k1 aq c2 c3 aT aE aW;go_wp2_with fail
 go_region_held3 (fun W=>W.cell? ⟨gs,2,none⟩=some (ptr gx)/\W.cell? ⟨gs,3,none⟩=some (.int .u64 (seed:Nat)))
  (first | (with_reducible assumption) | fail)
  (first
  | (go_at_call 61;((with_reducible refine aS.out.mono ?_);rintro e w'⟨rfl,rfl⟩))
  | (go_at_call 60;((with_reducible refine aX.out.mono ?_);rintro e d⟨A,c,j,hj,rfl,aO,h2,k2,b2⟩))
  | fail)
 have ar:=(Below.refl d.heap.size d).alloc (qZ _) (.cells #[.string ⟨#[]⟩,.int .i64 0,.slice none 0 0] 92);have B3:=za.new d 92 #[.string ⟨#[]⟩,.int .i64 0,.slice none 0 0];have h3:=h2.more api ar (B:=[d.heap.size]) (fun x Q=>by rw[qE.1 Q];exact⟨qZ _,B3.lt⟩);have a5:zt E w (d.alloc (.cells #[.string ⟨#[]⟩,.int .i64 0,.slice none 0 0] 92)):=aB.out.trans (k2.trans (zt.qm ar (fun x Q=>h2.lt x (qV _ Q))));have aR:w.heap.size<=w1.heap.size:=aB.out.size;have b7:w1.heap.size<=d.heap.size:=k2.size;have ba:=aO.below ar (qZ _)
 have aZ:uX At w0 gd gl gx gs r seed S L chs D E w d.heap.size (.slice A n c) R s 0 (.slice none 0 0) (-1) (D.count+j) ([d.heap.size]++jA (.slice A n c)) (d.alloc (.cells #[.string ⟨#[]⟩,.int .i64 0,.slice none 0 0] 92)) :=
  ⟨kO.nil _ _,cv ba aR,qX ⟨rfl,B3⟩,by rw[qd];exact h3,a5,qA _ qB,(fun b o=>by cases jq.1 o),(fun b o=>qV _ o),fun b o=>by
   rcases qC.1 o with q|q
   ·rw[qE.1 q];omega
   ·have:=(aO.lt b (jq.1 q)).1;exact qR aR this⟩
 have C:=qQ aZ;have HW:=qQ (show w.heap.size<=d.heap.size+1 by omega);have c5:j<=40:=by omega
 rename_i bp;clear aZ ba aR b7 a5 h3 B3 ar aO h2 k2 b2 b1 aS aX aB bp;obtain⟨w3,b8⟩:∃w3,d.alloc (.cells #[.string ⟨#[]⟩,.int .i64 0,.slice none 0 0] 92)=w3:=⟨_,rfl⟩
 rw[b8]at C;obtain⟨am,b_⟩:∃am,am=w.heap.size:=⟨_,rfl⟩
 go_wp2;go_loopw [12,13,15,42] (fun bm lv av i wr=>∃(k:Nat) (a:Int) (cnt:Nat) (N:List Nat) (U:Option Addr) (n1 c1:Nat),k<=n/\bm = .int .i64 0/\lv = .slice U n1 c1/\av = .int .i64 a/\i = .int .i64 k/\(D.count<=cnt/\cnt<=D.count+j+2*k)/\uX At w0 gd gl gx gs r seed S L chs D E w d.heap.size (.slice A n c) R s k (.slice U n1 c1) a cnt N wr) (fun _ _ _ i _=>n-(intOf i).toNat)
 case atStart=>exact⟨0,_,_,_,none,0,0,qH _,rfl,rfl,rfl,rfl,⟨Nat.le_add_right _ _,qZ _⟩,C.out⟩
 case round =>
  obtain⟨k,a1,cnt,N,U,n1,c1,hk,rfl,rfl,rfl,rfl,cy,M⟩:=hrel;by_cases b5:k<n
  ·have s1:(k:Int)<(n:Int):=(by omega);obtain⟨e,he⟩:∃e,R[k]? = some e:=⟨_,qD (by rw[<-ao.out];exact b5)⟩
   obtain⟨q,p,m,rfl,hq,aI,a6,aG,aH,a_,a7⟩:=bi.out k e he;obtain⟨A',off,co,e1,-,a2⟩:=M.rv.qw.form;obtain⟨b0,rfl,cx,d0,d1,d2⟩:=a2 k _ he;obtain⟨rfl,-,-⟩:=Value.slice.inj e1;have a0:=(Below.refl wr.heap.size wr).alloc (qZ _) (.cells #[.int .u64 (hh:Nat),.int .i64 (bgF p+(m:Nat)),.int .i64 (q:Nat)] 117);have Z:=za.new wr 117 #[.int .u64 (hh:Nat),.int .i64 (bgF p+(m:Nat)),.int .i64 (q:Nat)];have ah:=M.xP api (by have:=M.kept.size;omega) a0 (B:=[wr.heap.size]) (fun x Q=>by rw[qE.1 Q];exact⟨qZ _,Z.lt⟩);obtain⟨Y,az⟩:∃Y,wr.alloc (.cells #[.int .u64 (hh:Nat),.int .i64 (bgF p+(m:Nat)),.int .i64 (q:Nat)] 117)=Y:=⟨_,rfl⟩
   have ca:am<=Y.heap.size:=by
    have:=ah.kept.size;rw[az]at this;omega
   rw[az]at ah;rw[az]at Z;have ck:Hid (∀x∈E,x<Y.heap.size):=qQ (fun x Q=>ah.st.lt x (qV _ Q));simp only at d0 d1 d2;have p0:=Z.cell 0;have p1:=Z.cell 1;have p2:=Z.cell 2;have HE:=qQ he;have ae:=qQ a7;have C:=qQ ah;have aC:=qQ Z;obtain⟨f,H⟩:∃f,f=bgF p:=⟨_,rfl⟩
   obtain⟨v1,ac⟩:∃v1,v1=bgF p+(m:Int):=⟨_,rfl⟩
   have ap:IntKind.i64.wrap (v1-f)=(m:Int):=(by rw[ac,H,IntKind.wrap_i64];omega);have cp:v1-f=(m:Int):=(by rw[ac,H];omega);rw[<-ac]at d1 p1 HE ae az aC;clear M ah Z a0 he a7 e1 a2;have aY:=qQ (show v1=f+(m:Int) by rw[ac,H]);have ci:=qQ H;have aU:=qQ aI;have ag:=qQ b_;obtain⟨t,X⟩:∃t,t=(bgL p).length:=⟨_,rfl⟩
   have aV:=qQ X;have c4:m<t:=(by omega);have c6:t<=8:=(by omega);have a3:0<=f/\f<=1073741824:=(by rw[H];exact⟨aG,aH⟩);have c7:(m:Int)<(t:Int):=(by omega);have c8:(m:Int)≥0:=(by omega);by_cases ha:a1=(q:Int)
   ·subst ha;have cc:((q:Int) != (q:Int))=false:=(by simp);have ce:((q:Int)==(q:Int))=true:=(by simp);rcases C.out.box with⟨e,-⟩|⟨q',p',F,c2,e,a9,BB,I,ho⟩
    ·omega
    have a8:p'=p:=by
     have h1:=YZ bk.out a9 hq (show q'=q by omega);exact congrArg Prod.snd h1
    rw[a8]at BB I;rw[<-X,<-H]at BB;rw[<-X]at I;have q0:=BB.cell 0;have q1:=BB.cell 1;have q2:=BB.cell 2;have aj:D.count<=cnt/\cnt<=D.count+j+2*(k+1):=(by omega);have aA:Hid (dj Y w.heap.size (.slice F t c2) (bgL p)):=qQ (by rw[X]at I ⊢;exact I);have aF:Hid (am<=Y.heap.size):=qQ ca;clear H ac X aI a6 aG aH BB I ho hq a9 a8 e a_;obtain⟨z,rfl⟩:∃z,z=Y:=⟨_,rfl⟩
    obtain⟨v,O⟩:∃v,v=bgS p:=⟨_,rfl⟩
    have af:=qQ O;rw[<-O]at q0;by_cases g:v=s
    ·have aQ:(v.toList==s.toList)=true:=Jl g;have l:=ae.out;rw[qK (by rw[<-af.out];exact g)]at l;obtain⟨x,aa⟩:∃x,x=(bgL p).getD m lj:=⟨_,rfl⟩
     have al:(bgL p)[m]? = some x:=(by rw[aa,qu,qD aU.out];rfl);rw[<-aa]at l;have J:=qQ (YA v f (.slice F t c2) (bgL p) z (ke.xD aA.out) m x al a3 (by rw[<-aV.out];omega));rw[<-aY.out,g]at J;have HT:=qQ (fun W (o:Below z.heap.size z W)=>(C.out.below api o).more api (by have:=aF.out;have:=ag.out;have:=o.size;omega) aJ (by rw[<-ao.out];omega) HE.out l aK.out 36);unfold vJ at J;rw[g]at q0;clear g l aa al O ap;go_wp2_with fail;refine J.out.mono ?_;rintro e wB⟨rfl,ai⟩;obtain⟨cb,N',w9,V,K⟩:=HT.out wB ai;have ad:=qQ V;have aL:=v8 K.row;obtain⟨A9,c9,rfl,-,-,-⟩:=aL;obtain⟨n9,ak⟩:∃n9,n9=((R.take (k+1)).flatMap (yM (zo 0 chs) s)).length:=⟨_,rfl⟩
     rw[<-ak]at K ad;have H9:=qQ K;clear V K ai HT J ak;go_wp2_with (first | (at_builtin;refine yc rfl _ _ rfl rfl rfl ad.out ?_) | fail);go_wp2;go_roundw
     case rel=>exact⟨k+1,_,_,N',A9,_,c9,by omega,rfl,rfl,rfl,by go_num,aj,H9.out⟩
     case measure=>simp[intOf];omega
    ·have aQ:(v.toList==s.toList)=false:=Jm g;have l:=ae.out;rw[qJ (by rw[<-af.out];exact g)]at l;have H9:=qQ (C.out.skip HE.out l);clear g l O ap;go_wp2;go_roundw
     case rel=>exact⟨k+1,_,_,_,U,n1,c1,by omega,rfl,rfl,rfl,by go_num,aj,H9.out⟩
     case measure=>simp[intOf];omega
   ·have cc:((q:Int) != a1)=true:=(by simp;omega);have ce:((q:Int)==a1)=false:=qy.2 (by omega);have an:=qQ (bb.out Y cnt ([wr.heap.size]++N) (by omega) C.out.st q p hq);have aD:=qQ (fun W' A c I g hk=>C.out.read (w':=W') (A:=A) (c:=c) (p:=p) api aJ (by have:=ag.out;omega) aK.out hq I g hk);unfold vJ at an;rw[<-X,<-H]at an;rw[<-X,<-H]at aD;clear H ac X aI a6 aG aH a_;go_wp2_with fail;refine an.out.mono ?_;rintro e w6⟨F,c2,rfl,ax,h6,k6⟩;obtain⟨⟨t0,t1,t2,G⟩,h7⟩:=aD.out w6 F c2 ax h6 k6;have ab:=k6.qp aC.out (qA _ (qA _ qB));have au:wr.heap.size≠d.heap.size:=za.xS ab G (by decide);have BP:=((G.put 0 (.string (bgS p))).put 1 (.int .i64 f)).put 2 (.slice F t c2);have BO:=((ab.qe (p:=⟨d.heap.size,0,none⟩) au (.string (bgS p))).qe (p:=⟨d.heap.size,1,none⟩) au (.int .i64 f)).qe (p:=⟨d.heap.size,2,none⟩) au (.slice F t c2);have aw:=kv ax G (by decide);have aP:=vW (vW (vW ax (p:=⟨d.heap.size,0,none⟩) aw (.string (bgS p))) (p:=⟨d.heap.size,1,none⟩) aw (.int .i64 f)) (p:=⟨d.heap.size,2,none⟩) aw (.slice F t c2);have g0:=G.frozen 0;have g1:=G.frozen 1;have g2:=G.frozen 2;have j0:=G.cell 0;have j1:=G.cell 1;have j2:=G.cell 2;have o0:=ab.cell 0;have o1:=ab.cell 1;have o2:=ab.cell 2;have aj:D.count<=cnt+2/\cnt+2<=D.count+j+2*(k+1):=(by omega);obtain⟨z,b9⟩:∃z,((w6.setCell ⟨d.heap.size,0,none⟩ (.string (bgS p))).setCell ⟨d.heap.size,1,none⟩ (.int .i64 f)).setCell ⟨d.heap.size,2,none⟩ (.slice F t c2)=z:=⟨_,rfl⟩
    rw[b9]at h7 BP BO aP;have q0:=BP.cell 0;have q1:=BP.cell 1;have q2:=BP.cell 2;clear p0 p1 p2;have p0:=BO.cell 0;have p1:=BO.cell 1;have p2:=BO.cell 2;have aF:Hid (am<=z.heap.size):=qQ (by have:=h7.kept.size;have:=ag.out;omega);have aA:Hid (dj z w.heap.size (.slice F t c2) (bgL p)):=qQ (cv aP (by have:=ag.out;omega));clear C;have C:=qQ h7;clear h7 BP BO aP aw au G ab ax h6 k6 aD an aC;obtain⟨v,O⟩:∃v,v=bgS p:=⟨_,rfl⟩
    have af:=qQ O;rw[<-O]at q0;by_cases g:v=s
    ·have aQ:(v.toList==s.toList)=true:=Jl g;have l:=ae.out;rw[qK (by rw[<-af.out];exact g)]at l;obtain⟨x,aa⟩:∃x,x=(bgL p).getD m lj:=⟨_,rfl⟩
     have al:(bgL p)[m]? = some x:=(by rw[aa,qu,qD aU.out];rfl);rw[<-aa]at l;have J:=qQ (YA v f (.slice F t c2) (bgL p) z (ke.xD aA.out) m x al a3 (by rw[<-aV.out];omega));rw[<-aY.out,g]at J;have HT:=qQ (fun W (o:Below z.heap.size z W)=>(C.out.below api o).more api (by have:=aF.out;have:=ag.out;have:=o.size;omega) aJ (by rw[<-ao.out];omega) HE.out l aK.out 36);unfold vJ at J;rw[g]at q0;clear g l aa al O ap;go_wp2_with fail;refine J.out.mono ?_;rintro e wB⟨rfl,ai⟩;obtain⟨cb,N',w9,V,K⟩:=HT.out wB ai;have ad:=qQ V;have aL:=v8 K.row;obtain⟨A9,c9,rfl,-,-,-⟩:=aL;obtain⟨n9,ak⟩:∃n9,n9=((R.take (k+1)).flatMap (yM (zo 0 chs) s)).length:=⟨_,rfl⟩
     rw[<-ak]at K ad;have H9:=qQ K;clear V K ai HT J ak;go_wp2_with (first | (at_builtin;refine yc rfl _ _ rfl rfl rfl ad.out ?_) | fail);go_wp2;go_roundw
     case rel=>exact⟨k+1,_,_,N',A9,_,c9,by omega,rfl,rfl,rfl,by go_num,aj,H9.out⟩
     case measure=>simp[intOf];omega
    ·have aQ:(v.toList==s.toList)=false:=Jm g;have l:=ae.out;rw[qJ (by rw[<-af.out];exact g)]at l;have H9:=qQ (C.out.skip HE.out l);clear g l O ap;go_wp2;go_roundw
     case rel=>exact⟨k+1,_,_,_,U,n1,c1,by omega,rfl,rfl,rfl,by go_num,aj,H9.out⟩
     case measure=>simp[intOf];omega
  ·obtain rfl:k=n:=(by omega);have s1:¬(k:Int)<(k:Int):=(by omega);have ay:=M.row;rw[qg (by rw[<-ao.out];exact qZ _),HP.out]at ay;obtain⟨A9,c9,V,-,-,-⟩:=v8 ay;obtain⟨rfl,rfl,rfl⟩:=Value.slice.inj V
   have hst:jM At w0 gd gl gx gs r seed S L chs { D with count:=D.count+(cnt-D.count) } (jA (.slice U P.length c1)++E) wr:=by
    rw[show D.count+(cnt-D.count)=cnt by omega];exact M.st.less (fun b o=>(qC.1 o).elim (fun q=>qA _ (M.ol b q)) (fun q=>qV _ q))
   have hF:cl At w0 gd gl gx gs r seed S L chs D P (S.T.length+2*k) E w (.returned (.tuple #[.slice U P.length c1,.int .i64 0])) wr:=⟨U,c1,cnt-D.count,by omega,rfl,ay,hst,M.kept⟩
   have HF:=qQ hF;clear hF hst ay V M;go_wp2;go_ret2;exact HF.out
end
theorem Sv{seed:Nat}{l:List Rec}{s:Tw}{x:jN}(g:x∈ofT s (jT l)):∃y∈vM seed l,y.h=jc seed s.data.toList/\y.v=x.v:=by
 obtain⟨c,f⟩:=nI.1 g;obtain⟨b,o,c⟩:=List.mem_flatMap.1 c;obtain⟨i,d⟩:=List.getElem?_of_mem c;unfold cY at d;rw[lz]at d;obtain⟨y,j,rfl⟩:=Option.map_eq_some_iff.1 d;have m:=(qM.1 j).1;simp only at f;exact⟨⟨jc seed (bgS b.2).data.toList,bgF b.2+(i:Nat),(b.1:Nat)⟩,fR.2 ⟨b,o,qN.2 ⟨i,List.mem_range.2 m,rfl⟩⟩,by rw[<-f],rfl⟩
theorem Sy{s:Tw}{a b:Int}{T:List jN}(h:kN s a b T=[]):∀x∈ofT s T,x.v<=b->x.v<a:=fun x f d=>by
 rcases Int.lt_or_le x.v a with c|c
 ·exact c
 ·have:x∈kN s a b T:=nL.2 ⟨f,c,d⟩;rw[h]at this;cases this
section
variable {At:jK}(api:jY At)(nap:jz)(cap:kc){w0 w:World}{gd gl gx gs r seed:Nat}{S:IxS}{L:jV}{chs:List (List Tw)}{D:zr}{E:List Nat}
theorem Su(h:jM At w0 gd gl gx gs r seed S L chs D E w){s:Tw}{u z:Int}(I:u<=1073741824)(q:yI (cZ S) (jc seed s.data.toList) (j7 u) z)(t:∀x∈ofT s (jT (zo 0 chs)),x.v<=u):(∀x∈ofT s (jT (zo 0 chs)),x.v<=z)/\-1<=z/\z<=1073741823/\(0<=z->z<=u):=by
 obtain⟨g,d,F⟩:=q;have m:j7 u=u:=by unfold j7;omega
 rw[m]at g d;refine⟨fun x b=>?_,F, ?_,fun H=>?_⟩
 ·obtain⟨y,A,f,G⟩:=Sv (seed:=seed) b;have:=g y ((h.rb.has y).2 A) f (by rw[G];exact t x b);omega
 ·rcases d with e|⟨y,f,-,-,j⟩
  ·omega
  ·obtain⟨c,C,i,o,rfl⟩:=nN ((h.rb.has y).1 f);have:=ph (l:=[c]) (fun x b=>by rw[qE.1 b];exact h.rb.whole c C) _ (List.mem_flatMap.2 ⟨c,qB,pc o⟩);simp only at this j;omega
 ·rcases d with e|⟨y,-,-,J,j⟩
  ·omega
  ·omega
include api nap cap
theorem YD(h:jM At w0 gd gl gx gs r seed S L chs D E w)(hc:D.count<=700000000)(o:(zo 0 chs).length<=100)(s:Tw)(U:s.size<=maxLen):
  Calls prog 41 #[ptr gs,.string s] w fun e w'=>∃k,k<=70000/\e = .returned (.tuple #[.int .i64 (uu s (jT (zo 0 chs))),.int .i64 0])/\jM At w0 gd gl gx gs r seed S L chs { D with count:=D.count+k } E w'/\zt E w w':=by
 have ai:jc seed s.data.toList<18446744073709551616:=rK _ _;have aA:=h.len.2.2.2;have aj:=h.sd;have aG:S.T.length<=40:=h.sx.ok.xG;have an:=qQ (fun W cnt (f:jM At w0 gd gl gx gs r seed S L chs { D with count:=cnt } E W)=>QR f.cells.2.2.2 aj s U)
 have ao:Hid (∀W cnt,cnt<=900000000->jM At w0 gd gl gx gs r seed S L chs { D with count:=cnt } E W->∀u:Int,0<=u->u<=1073741824->(∀x∈ofT s (jT (zo 0 chs)),x.v<=u)->Calls prog 86 #[ptr gx,.int .u64 (jc seed s.data.toList:Nat),.int .i64 u] W fun e w'=>∃(z:Int) (k:Nat),k<=200/\((∀x∈ofT s (jT (zo 0 chs)),x.v<=z)/\-1<=z/\z<=1073741823/\(0<=z->z<=u))/\e = .returned (.tuple #[.int .i64 z,.int .i64 0]) /\
   jM At w0 gd gl gx gs r seed S L chs { D with count:=cnt+k } E w'/\zt E W w'/\(w'.cell? ⟨gs,2,none⟩=some (ptr gx)/\w'.cell? ⟨gs,3,none⟩=some (.int .u64 (seed:Nat)))):=qQ fun W cnt ah f u u0 u1 C =>
  (SZ api nap f.sx (by show cnt<=_;omega) (by omega) _ ai u (WalkArith.wf_i64 (by omega))).mono (by
   rintro e w'⟨z,k,hk,ht,rfl,hi,az⟩;obtain⟨K,g2⟩:=f.step hi az f.rb f.vs;exact⟨z,k,hk,Su f u1 ht C,rfl,K,g2,K.cells.2.2.1,K.cells.2.2.2⟩)
 have am:Hid (∀W cnt,cnt<=800000000->jM At w0 gd gl gx gs r seed S L chs { D with count:=cnt } E W->∀a b:Int,-1073741825<=a->a<=1073741825->-1<=b->b<=1073741825->Calls prog 34 #[ptr gs,.string s,.int .i64 a,.int .i64 b] W (cl At w0 gd gl gx gs r seed S L chs { D with count:=cnt } (kN s a b (jT (zo 0 chs))) 1700 E W)):=qQ fun W cnt ah f a b a0 a1 b0 b1 =>
  (Q1 api nap cap f ah o s U a b (WalkArith.wf_i64 (by omega)) (WalkArith.wf_i64 (by omega))).mono (by
   rintro e w'⟨A,c,k,hk,rest⟩;refine⟨A,c,k, ?_,rest⟩;have y:=fq seed (zo 0 chs) f.rb.whole;have F:(v7 S (jc seed s.data.toList) a b).length<=(vM seed (zo 0 chs)).length:=dT (nS f.sx.ok _ a b) (fun x d=>(f.rb.has x).1 ((ly f.sx.ok _ a b x).1 d).1);omega)
 have au:=qQ h.vs;have ar:=qQ (show(jT (zo 0 chs)).length<=800 by have:=pb (zo 0 chs) h.rb.whole;omega);have aq:=qQ h;have ad:Hid (∀x∈ofT s (jT (zo 0 chs)),0<=x.v/\x.v<=1073741824):=qQ fun x d=>by have:=ph h.rb.whole x (nI.1 d).1;omega
 have aE:=qQ h.lt;generalize jT (zo 0 chs)=T at*;generalize jc seed s.data.toList=hh at*;clear h ai aA aj o U;go_enter func41,ntmps41;go_wp2;go_loopw [6,7] (fun V mv wr=>∃(u:Int) (j m cnt:Nat),V = .int .i64 u/\mv = .int .i64 (m:Nat)/\m=2 ^ j/\j<=30/\0<=u/\u<=1073741824/\(∀x∈ofT s T,x.v<=u)/\D.count<=cnt/\cnt<=D.count+2000*j/\jM At w0 gd gl gx gs r seed S L chs { D with count:=cnt } E wr/\zt E w wr) (fun V _ _=>(intOf V).toNat)
 case atStart=>exact⟨1073741824,0,1,D.count,rfl,rfl,rfl,by omega,by omega,by omega,fun x d=>(ad.out x d).2,qZ _,qZ _,aq.out,zt.refl _ _⟩
 case round =>
  obtain⟨u,j,m,cnt,rfl,rfl,H,hj,aB,aC,C,aI,aJ,hS,hK⟩:=hrel
  have aO:m<=1073741824:=by
   have:=Nat.pow_le_pow_right (show 0<2 by decide) hj;rw[H];exact this
  have aM:1<=m:=by rw[H];exact Nat.one_le_two_pow
  have G:=hS.drew api;obtain⟨-,-,c2,c3⟩:=G.cells;have aw:wr.drew.cell? ⟨gs,2,none⟩=some (ptr gx)/\wr.drew.cell? ⟨gs,3,none⟩=some (.int .u64 (seed:Nat)):=⟨c2,c3⟩
  have Z:=qQ (an.out _ cnt G);have ac:=qQ (ao.out _ cnt (by omega) G u aB aC C);have aa:=qQ (show zt E w wr.drew from hK.drew);have HM:=qQ (qU H C);clear hS G hK H C c2 c3;go_wp2_with fail
  go_region_held3 (fun W=>W.cell? ⟨gs,2,none⟩=some (ptr gx)/\W.cell? ⟨gs,3,none⟩=some (.int .u64 (seed:Nat)))
   (first | (with_reducible assumption) | fail)
   (first
   | (go_at_call 61;((with_reducible refine Z.out.mono ?_);rintro e w'⟨rfl,rfl⟩))
   | (go_at_call 86;((with_reducible refine ac.out.mono ?_);rintro e w2⟨z,i,aK,aD,rfl,F,k2,ax⟩))
   | fail)
  rename_i av;obtain⟨z1,z2,z3,X⟩:=aD;have ea:z-(m:Int)+1=z-(m:Int)+1:=rfl;have Y:=qQ (am.out w2 (cnt+i) (by omega) F (z-(m:Int)+1) z (by omega) (by omega) (by omega) (by omega));have J:=qQ z1;have ab:=qQ (aa.out.trans k2);clear F k2 ax aw av Z ac aa ea z1;go_wp2_with fail;refine Y.out.mono ?_;rintro e w3⟨A,c,l,aL,rfl,Q,M,al⟩;obtain⟨P,t⟩:∃P,P=kN s (z-(m:Int)+1) z T:=⟨_,rfl⟩
  rw[<-t]at Q M ⊢;obtain⟨n,o⟩:∃n,n=P.length:=⟨_,rfl⟩
  have hF:=Q.qw.form;have ae:jM At w0 gd gl gx gs r seed S L chs { D with count:=cnt+i+l } E w3:=M.less (fun b hb=>qV _ hb);have q:=qQ (qU ae (ab.out.trans al));clear M ae Q al Y ab;rw[<-o]at hF ⊢;by_cases h0:n=0
  ·have af:P=[]:=List.length_eq_zero_iff.1 (by omega);have I:=qQ (Sy (by rw[<-t];exact af));subst h0;clear hF t af o;by_cases aP:z<(m:Int)
   ·have HV:Hid (uu s T = -1):=qQ (by
     have:ofT s T=[]:=by
      refine List.eq_nil_iff_forall_not_mem.2 fun x d=>?_
      have y:=I.out x d (J.out x d);have F:=(ad.out x d).1;omega
     unfold uu;rw[this];rfl)
    clear I;go_wp2;go_ret2;refine⟨cnt+i+l-D.count,by omega,by rw[HV.out];rfl, ?_,q.out.2⟩;rw[show D.count+(cnt+i+l-D.count)=cnt+i+l by omega];exact q.out.1
   ·have aN:j<=29:=by
     rcases Nat.lt_or_ge j 30 with c|c
     ·omega
     ·exfalso;have y:=Nat.pow_le_pow_right (show 0<2 by decide) c;rw[<-HM.out.1]at y;have:(2:Nat) ^ 30=1073741824:=(by decide);omega
    have aQ:=X (by omega);clear X;go_wp2;go_roundw
    case rel =>
     refine⟨z-(m:Int),j+1,m*2,cnt+i+l,by go_num,by go_num,by rw[Nat.pow_succ,<-HM.out.1],by omega,by omega,by omega,fun x d=>?_,by omega,by omega,q.out.1,q.out.2⟩;have y:=I.out x d (J.out x d);omega
    case measure=>simp[intOf];omega
  ·obtain⟨g,rfl⟩:∃g,n=g+1:=⟨n-1,by omega⟩
   obtain⟨x,d⟩:∃x,P[g]? = some x:=⟨_,qD (by omega)⟩
   have ak:P.getLast? = some x:=(by rw[List.getLast?_eq_getElem?,<-o];exact d);have hv:x.v=uu s T:=Rs au.out J.out (by rw[<-t];exact ak);obtain⟨A',off,aF,e1,-,ag⟩:=hF;obtain⟨b0,rfl,aH,d0,d1,-⟩:=ag g x d;obtain⟨rfl,-,-⟩:=Value.slice.inj e1;obtain⟨lt,O⟩:∃lt,lt=uu s T:=⟨_,rfl⟩
   rw[hv,<-O]at d1;have ap:=qQ O;have s1:((g+1:Nat):Int)-1=(g:Int):=(by omega);have s2:(g:Int)<((g+1:Nat):Int):=by omega
   have ay:g<800:=by
    have y:P.length<=T.length:=(by rw[t];exact qR (List.length_filter_le _ _) (List.length_filter_le _ _));have:=ar.out;omega
   have s3:(g:Int)<800:=(by omega);clear ay;clear e1 ag hv ak d t o d0 X O;go_wp2;go_ret2;refine⟨cnt+i+l-D.count,by omega,by rw[<-ap.out];rfl, ?_,q.out.2⟩;rw[show D.count+(cnt+i+l-D.count)=cnt+i+l by omega];exact q.out.1
end
section
variable {At:jK}(api:jY At)(nap:jz)(cap:kc){w0 w:World}{gd gl gx gs r seed:Nat}{S S':IxS}{L L':jV}{chs chs':List (List Tw)}{D D':zr}{E:List Nat}
structure YE(S S':IxS)(chs chs':List (List Tw))(D D':zr)(s:Tw)(f:Int)(l:List jD):Prop where
 all:jT (zo 0 chs')=jT (zo 0 chs)++gq s f l
 len:(zo 0 chs').length=(zo 0 chs).length+1
 m:S'.m=S.m
 T:S'.T=S.T
 cap:D'.cap=D.cap
 count:D'.count=D.count
 map:(jU D'.l jG).map zi.data=(jU D.l jG).map zi.data
 used:jX D'.l<=jX D.l+2024
 zS:chs'.length<=chs.length+1
def nT(chs:List (List Tw))(D:zr):Prop:=D.cap<jX D.l+8024∨199<chs.length
def YF(At:jK)(w0:World)(gd gl gx gs r seed:Nat)(S:IxS)(L:jV)(chs:List (List Tw))(D:zr)(s:Tw)(f:Int)(l:List jD)(E:List Nat)(w:World)(e:Ending)(w':World):Prop :=
 (e = .returned (.int .i64 60)/\nT chs D/\jM At w0 gd gl gx gs r seed S L chs D E w'/\zt E w w') ∨
 (e = .returned (.int .i64 0)/\∃S' L' chs' D',jM At w0 gd gl gx gs r seed S' L' chs' D' E w'/\zt E w w'/\YE S S' chs chs' D D' s f l)
include api nap cap
theorem Sg(h:jR At w0 gd gl gx r S L chs D E w)(p:Tw)(b:p.size<=2000):Calls prog 88 #[ptr gl,.string p] w fun e w' =>
  (e = .returned (.tuple #[.int .i64 0,.int .i64 60])/\nT chs D/\jR At w0 gd gl gx r S L chs D E w'/\zt E w w') ∨
  ∃q D' M chs',e = .returned (.tuple #[.int .i64 (q:Nat),.int .i64 0])/\jR At w0 gd gl gx r S M chs' D' E w'/\zt E w w'/\dM D L chs p q D' M chs':=by
 by_cases c:nT chs D
 ·refine(SJ api nap cap h p b).mono ?_;rintro e w' (⟨rfl,q⟩|q)
  ·exact qX ⟨rfl,c,q⟩
  ·exact qY q
 ·unfold nT at c;exact(SK api nap cap h p b (by omega) (by omega)).mono fun e w' q=>qY q
theorem Sb(h:jM At w0 gd gl gx gs r seed S L chs D E w)(hn:(zo 0 chs).length<=100)(s:Tw)(l:List jD){A:Option Addr}{n c:Nat}(hv:ke w (.slice A n c) l)(aH:n=l.length)(hb:∀x∈l,bt x)(f:Int)(hf:f=((ofT s (jT (zo 0 chs))).length:Nat))(J:jg s f l=0):
  Calls prog 42 #[ptr gs,.agg #[.string s,.int .i64 f,.slice A n c]] w (YF At w0 gd gl gx gs r seed S L chs D s f l E w):=by
 obtain⟨k1,k2,k3,k4,k5,k6,-⟩:=gU.1 J;have aD:∀x∈l,x.b<18446744073709551616:=fun x d=>(hb x d).b
 obtain⟨o,t,v,i⟩:=M4 J aD;have ak:=(MN J).2;have a4:=h.base.size;have aF:=h.lt;have a5:=h.len.1;have aa:=(Below.refl w.heap.size w).alloc (qZ _) (.cells #[.string s,.int .i64 f,.slice A n c] 92);have z:=za.new w 92 #[.string s,.int .i64 f,.slice A n c];have af:=h.more api aa (B:=[w.heap.size]) (fun x d=>by rw[qE.1 d];exact⟨qZ _,z.lt⟩);have ag:=h.xB aa;have aj:=hv.below aa (qZ _);obtain⟨w1,aZ⟩:∃w1,w.alloc (.cells #[.string s,.int .i64 f,.slice A n c] 92)=w1:=⟨_,rfl⟩
 rw[aZ]at z af ag aj;have C:=Pu s f (.slice A n c) l w1 ⟨by omega,WalkArith.wf_i64 (by omega),aj,by omega,hb⟩;unfold td vJ at C;rw[qK J,J]at C;obtain⟨p,hp⟩:∃p,p=yi s f.toNat l:=⟨_,rfl⟩
 rw[<-hp]at C o t v i ak;have C:=qQ C;have aO:=qQ ak;have am:=qQ (fun W (H:jM At w0 gd gl gx gs r seed S L chs D ([w.heap.size]++E) W)=>Sg api nap cap H.sx p ak);have ae:=qQ af;have au:=qQ ag;have an:=qQ z;have a0:=z.cell 0;have a1:=z.cell 1;have a2:=z.cell 2;have ar:=qQ (fun(W:World) (hc:W.cell? ⟨gs,3,none⟩=some (.int .u64 (seed:Nat)))=>QR hc h.sd s (by unfold maxLen;omega));have HP:=qQ (qU o (qU t (qU v i)));have a7:n<=8:=by omega
 have av:=qQ aH;have ay:=qQ h.vs;have aw:=qQ h.rb;have HF:=qQ hf;have a3:=qQ aF;have aL:=qQ (show L.endp=jn chs from h.sx.gl.endp);clear aa af ag aj hv z h hp hb aD J o t v i aH hf k1 k2 k3 k4 aF;go_enter func42,ntmps42;go_wp2_with fail;refine C.out.mono ?_;rintro e w2⟨rfl,Y⟩;have Z:=ae.out.below api Y;have B2:=an.out.below Y;have aK:=au.out.trans (zt.qm Y (fun x d=>ae.out.lt x (qV _ d)));obtain⟨-,c1,-,-⟩:=Z.cells;have ac:=qQ (am.out w2 Z);have j:=qQ (qU Z (qU B2 aK));clear Z B2 aK Y am C ae au an a0 a1 a2;go_wp2_with fail;refine ac.out.mono ?_;rintro e w3 (⟨rfl,aI,V,P⟩|⟨q,D3,M,G,rfl,V,P,F⟩)
 ·have ai:=j.out.1.step V P aw.out ay.out;have aN:=qQ aI;have ao:=qQ (qU (ai.1.less (fun x d=>qV _ d):jM At w0 gd gl gx gs r seed S L chs D E w3) (j.out.2.2.trans (ai.2.less (fun x d=>qV _ d))));clear ai V P ac c1 aI;go_wp2;go_ret;exact qX ⟨rfl,aN.out,ao.out.1,ao.out.2⟩
 ·have I:=F.all;have aT:jn G=q+(p.size+12):=by rw[<-F.log.endp,F.endp]
  have ab:jn chs<=q:=by rw[<-aL.out];exact F.behind
  have aU:=pd F.xQ;have a6:q<=819200:=by omega
  obtain⟨o,t,v,i⟩:=HP.out;have ad:=qQ (fun k (hk:k<(bgL p).length)=>qU (pf (seed:=seed) (q:=q) hk) (Vs (seed:=seed) (x:=(q,p)) o (by show q<=_;omega) _ (qO (pf hk))));rw[t,v,i,<-av.out]at ad;have aX:=j.out.1.st;have U:=qQ F;have HQ:=qQ (qU I (qU ab (show q<=jn G by omega)));have X:=qQ (qU V P);obtain⟨hh,aE⟩:∃hh,hh=jc seed s.data.toList:=⟨_,rfl⟩
  rw[<-aE]at ar ad;have aA:=P.qp j.out.2.1 (qF _ (qA _ qB));have az:=aA.cell 2;clear V P ac c1 F I aT ab aU o t v i aX aE aA;go_wp2;go_loopw [33] (fun iv wr=>∃(k:Nat) (S':IxS),k<=n/\iv = .int .i64 (k:Nat)/\jR At w0 gd gl gx r S' M G D3 (gs::([w.heap.size]++E)) wr/\zt (gs::([w.heap.size]++E)) w3 wr/\ch seed q p k S S') (fun iv _=>n-(intOf iv).toNat)
  case atStart=>exact⟨0,S,qH _,rfl,X.out.1,zt.refl _ _,ch.zero seed q p S⟩
  case round =>
   obtain⟨k,S2,hk,rfl,hi,K,g⟩:=hrel;have Q:=(X.out.2.trans K).qp j.out.1.st qB;have O:=(X.out.2.trans K).qp j.out.2.1 (qF _ (qA _ qB));by_cases aV:k<n
   ·have s1:(k:Int)<(n:Int):=(by omega);obtain⟨he,aJ,aG⟩:=ad.out k aV;have al:=qQ (YV api (hi.drew api) g he aJ aG (by omega));have EW:Hid (IntKind.i64.wrap (f+(k:Int))=f+(k:Int)):=qQ (by rw[IntKind.wrap_i64];omega);have aB:wr.drew.cell? ⟨gs,2,none⟩=some (ptr gx)/\wr.drew.cell? ⟨gs,3,none⟩=some (.int .u64 (seed:Nat))/\wr.drew.cell? ⟨w.heap.size,0,none⟩=some (.string s)/\wr.drew.cell? ⟨w.heap.size,1,none⟩=some (.int .i64 f):=⟨Q.drew.cell 2,Q.drew.cell 3,O.drew.cell 0,O.drew.cell 1⟩
    have aq:=qQ (ar.out wr.drew aB.2.1);have ax:=qQ (fun W (H:zt (gs::([w.heap.size]++E)) wr.drew W)=>(show W.cell? ⟨gs,2,none⟩=some (ptr gx)/\W.cell? ⟨gs,3,none⟩=some (.int .u64 (seed:Nat))/\W.cell? ⟨w.heap.size,0,none⟩=some (.string s)/\W.cell? ⟨w.heap.size,1,none⟩=some (.int .i64 f) from⟨(H.qp Q.drew qB).cell 2,(H.qp Q.drew qB).cell 3,(H.qp O.drew (qF _ (qA _ qB))).cell 0,(H.qp O.drew (qF _ (qA _ qB))).cell 1⟩));have HK:=qQ (show zt (gs::([w.heap.size]++E)) w3 wr.drew from K.drew);clear hi K g he aJ aG Q O az;go_wp2_with fail
    go_region_held3 (fun W=>W.cell? ⟨gs,2,none⟩=some (ptr gx)/\W.cell? ⟨gs,3,none⟩=some (.int .u64 (seed:Nat))/\W.cell? ⟨w.heap.size,0,none⟩=some (.string s)/\W.cell? ⟨w.heap.size,1,none⟩=some (.int .i64 f))
     (first | (with_reducible assumption) | fail)
     (first
     | (go_at_call 61;((with_reducible refine aq.out.mono ?_);rintro e w'⟨rfl,rfl⟩))
     | (go_at_call 89;(try rw[EW.out]);((with_reducible refine al.out.mono ?_);rintro e w9⟨rfl,S9,h9,k9,a9⟩;have aR:=ax.out w9 k9))
     | fail)
    rename_i aQ;have H9:=qQ (qU h9 (qU (HK.out.trans k9) a9));clear h9 k9 a9 aR aQ aB al aq ax HK;go_wp2;go_roundw
    case rel=>exact⟨k+1,S9,by omega,by go_num,H9.out.1,H9.out.2.1,H9.out.2.2⟩
    case measure=>simp[intOf];omega
   ·obtain rfl:k=n:=(by omega);have s1:¬(k:Int)<(k:Int):=by omega
    have hF:YF At w0 gd gl gx gs r seed S L chs D s f l E w (.returned (.int .i64 0)) wr:=by
     obtain⟨o,t,v,i⟩:=HP.out;obtain⟨I,ab,aS⟩:=HQ.out;have aP:(ki seed (q,p)).take k=ki seed (q,p):=qg (by rw[YK,i,<-av.out];exact qZ _);have ah:=g.mem;rw[aP]at ah
     have aW:gE seed S2 G:=aw.out.append o I ab aS (fun y=>by
      unfold cZ;rw[ah,g.T];constructor
      ·rintro ((q|q)|q)
       ·exact qX (qX q)
       ·exact qY q
       ·exact qX (qY q)
      ·rintro ((q|q)|q)
       ·exact qX (qX q)
       ·exact qY q
       ·exact qX (qY q)) g.T g.m (fun y hy=>(ah y).1 hy)
     have aC:jT (zo 0 G)=jT (zo 0 chs)++gq s f l:=by
      rw[I,Rh];unfold cY;simp only;rw[t,v,i]
     have aY:yu (jT (zo 0 G)):=by
      rw[aC,HF.out];exact ay.out.snoc s l
     have hS:=j.out.1.step hi (X.out.2.trans K) aW aY;refine qY ⟨rfl,S2,M,G,D3,hS.1.less (fun x d=>qV _ d),j.out.2.2.trans (hS.2.less (fun x d=>qV _ d)),aC,by rw[I];simp,g.m,g.T,U.out.cap,U.out.count,U.out.others jG Vm,by have:=U.out.used;have:=aO.out;omega,U.out.zS⟩
    have aM:=qQ hF;clear hF hi K g Q O az;go_wp2;go_ret;exact aM.out
end
def bN(s:Tw)(a:Int)(l:List jD)(T:List jN):Int:=if jg s 0 l≠0 then jg s 0 l else if a < -2 then 2 else if a≠-2/\a≠uu s T then 80 else 0
section
variable {At:jK}(api:jY At)(nap:jz)(cap:kc){w0 w:World}{gd gl gx gs r seed:Nat}{S S':IxS}{L L':jV}{chs chs':List (List Tw)}{D D':zr}{E:List Nat}
def ld(At:jK)(w0:World)(gd gl gx gs r seed:Nat)(S:IxS)(L:jV)(chs:List (List Tw))(D:zr)(s:Tw)(a:Int)(l:List jD)(E:List Nat)(w:World)(e:Ending)(w':World):Prop :=
 ∃k,k<=70000/\((∃z,e = .returned (.tuple #[.int .i64 0,.int .i64 z])/\(z=bN s a l (jT (zo 0 chs))/\z≠0/\z≠60∨z=60/\bN s a l (jT (zo 0 chs))=0/\nT chs D)/\jM At w0 gd gl gx gs r seed S L chs { D with count:=D.count+k } E w'/\zt E w w') ∨
  (e = .returned (.tuple #[.int .i64 ((ofT s (jT (zo 0 chs))).length:Nat),.int .i64 0])/\bN s a l (jT (zo 0 chs))=0/\jg s ((ofT s (jT (zo 0 chs))).length:Nat) l=0/\∃S' L' chs' D',jM At w0 gd gl gx gs r seed S' L' chs' D' E w'/\zt E w w'/\YE S S' chs chs' { D with count:=D.count+k } D' s ((ofT s (jT (zo 0 chs))).length:Nat) l))
include api nap cap
theorem YH(h:jM At w0 gd gl gx gs r seed S L chs D E w)(hc:D.count<=700000000)(hn:(zo 0 chs).length<=99)(s:Tw)(hs:s.size<=100000)(a:Int)(l:List jD){A:Option Addr}{n c:Nat}(hv:∀W,Below w0.heap.size w0 W->zt E w W->ke W (.slice A n c) l)(aq:n=l.length)(hl:l.length<=300)(f:∀x∈l,bt x):
  Calls prog 18 #[ptr gs,.string s,.int .i64 a,.slice A n c] w (ld At w0 gd gl gx gs r seed S L chs D s a l E w):=by
 have aA:=h.base.size;have ap:=h.lt;have aj:=(Below.refl w.heap.size w).alloc (qZ _) (.cells #[.string s,.int .i64 0,.slice A n c] 92);have y:=za.new w 92 #[.string s,.int .i64 0,.slice A n c];have Q:=h.more api aj (B:=[w.heap.size]) (fun x d=>by rw[qE.1 d];exact⟨qZ _,y.lt⟩);have ab:=h.xB aj;obtain⟨H,aD⟩:∃H,w.alloc (.cells #[.string s,.int .i64 0,.slice A n c] 92)=H:=⟨_,rfl⟩
 rw[aD]at y Q ab;have K:=qQ (show Calls prog 40 #[.agg #[.string s,.int .i64 0,.slice A n c]] H fun e w'=>e = .returned (.int .i64 (jg s 0 l))/\Below H.heap.size H w' from pA s 0 (.slice A n c) l H ⟨hs,by decide,hv H Q.base ab,hl,f⟩);have aa:=qQ (QP Q.cells.1);have am:=qQ (fun W (hW:jM At w0 gd gl gx gs r seed S L chs D ([w.heap.size]++E) W)=>YD api nap cap hW (by omega) (by omega) s (by unfold maxLen;omega))
 have ax:(ofT s (jT (zo 0 chs))).length<=800:=by
  have h1:=pb (zo 0 chs) h.rb.whole;have F:(ofT s (jT (zo 0 chs))).length<=(jT (zo 0 chs)).length:=List.length_filter_le _ _;omega
 have an:=qQ (fun W cnt (hW:jM At w0 gd gl gx gs r seed S L chs { D with count:=cnt } ([w.heap.size]++E) W) (U:zt E w W) (P:jg s ((ofT s (jT (zo 0 chs))).length:Nat) l=0)=>Sb api nap cap hW (by omega) s l (hv W hW.base U) aq f _ rfl P)
 have af:Hid (jg s 0 l=0->jg s ((ofT s (jT (zo 0 chs))).length:Nat) l=0):=qQ fun q=>by
  obtain⟨k1,k2,V,k4,G,k6,k7⟩:=gU.1 q;exact gU.2 ⟨k1,k2,V,k4,by omega,by omega,k7⟩
 have Z:Hid (uu s (jT (zo 0 chs))=((ofT s (jT (zo 0 chs))).length:Nat)-1):=qQ rfl;have al:Hid (jg s 0 l=0∨jg s 0 l=2∨jg s 0 l=3):=qQ (MM s 0 l);have z:Hid (bN s a l (jT (zo 0 chs))=if jg s 0 l≠0 then jg s 0 l else if a < -2 then 2 else if a≠-2/\a≠uu s (jT (zo 0 chs)) then 80 else 0):=qQ rfl;have j:=qQ (qU Q (qU ab y));have av:=qQ ap;have k0:=y.cell 0;have k1:=y.cell 1;have k2:=y.cell 2;obtain⟨C,P⟩:∃C,C=jg s 0 l:=⟨_,rfl⟩
 rw[<-P]at K af al z;have aF:=qQ P;clear aj y Q ab h hv aq hl f ap P hs hn;have az:=al.out;by_cases O:C=0
 ·subst O;go_enter func18,ntmps18;go_wp2_with fail;refine aa.out.mono ?_;rintro e w'⟨rfl,rfl⟩;go_wp2_with fail;refine K.out.mono ?_;rintro e w2⟨rfl,o⟩;have F:=j.out.1.below api o;have X:=j.out.2.1.trans (zt.qm o (fun x d=>j.out.1.lt x (qV _ d)));have B2:=j.out.2.2.below o;have J:=qQ (qU F (qU X B2));clear F X B2 o K aa k0 k1 k2 j;by_cases ha:a < -2
  ·have t1:decide (a < -2)=true:=qW ha;have hF:ld At w0 gd gl gx gs r seed S L chs D s a l E w (.returned (.tuple #[.int .i64 0,.int .i64 2])) w2:=⟨0,by omega,qX ⟨2,rfl,qX ⟨by rw[z.out,qJ (by simp),qK ha],by decide,by decide⟩,J.out.1.less (fun x d=>qV _ d),J.out.2.1⟩⟩
   have i:=qQ hF;clear hF;go_wp2;go_ret2;exact i.out
  ·have t1:decide (a < -2)=false:=qG ha;have ag:=qQ (am.out w2 J.out.1);obtain⟨lt,ao⟩:∃lt,lt=uu s (jT (zo 0 chs)):=⟨_,rfl⟩
   rw[<-ao]at ag z Z;clear am ao;go_wp2_with fail;refine ag.out.mono ?_;rintro e Y⟨k,U,rfl,h3,V⟩;have B3:=V.qp J.out.2.2 (qA _ qB);have au:=J.out.2.1.trans (V.less (fun x d=>qV _ d));have g:=qQ (qU h3 (qU au B3));clear h3 V B3 au ag;by_cases m:a≠-2/\a≠lt
   ·have u1:(a != -2)=true:=(by simp;exact m.1);have u2:(a != lt)=true:=(by simp;exact m.2);have u3:(a==-2)=false:=qy.2 m.1;have u4:(a==lt)=false:=qy.2 m.2;have hF:ld At w0 gd gl gx gs r seed S L chs D s a l E w (.returned (.tuple #[.int .i64 0,.int .i64 80])) Y:=⟨k,U,qX ⟨80,rfl,qX ⟨by rw[z.out,qJ (by simp),qJ (show ¬a < -2 by omega),qK m],by decide,by decide⟩,g.out.1.less (fun x d=>qV _ d),g.out.2.1⟩⟩
    have i:=qQ hF;clear hF m;go_wp2;go_ret2;exact i.out
   ·have ak:Hid (bN s a l (jT (zo 0 chs))=0):=qQ (by rw[z.out,qJ (by simp),qJ (show ¬a < -2 by omega),qJ m]);have ae:=qQ (af.out trivial);have ai:=an.out;obtain⟨t,ac⟩:∃t,t=(ofT s (jT (zo 0 chs))).length:=⟨_,rfl⟩
    have aw:=qQ ac;rw[<-ac]at Z ae ax;simp only[<-ac]at ai;have el:lt+1=(t:Int):=(by have:=Z.out;omega);have aG:-1<=lt/\lt<=800:=(by omega);have I:=g.out.2.2.put 1 (.int .i64 (t:Int));have ht:ze [w.heap.size] Y (Y.setCell ⟨w.heap.size,1,none⟩ (.int .i64 (t:Int))):=(ze.refl _ _).setCell (p:=⟨w.heap.size,1,none⟩) (qX qB) _;have h4:=g.out.1.xX api (E':=[w.heap.size]++E) ht (fun b f=>by rw[qE.1 f];exact⟨qA _ qB,aA⟩) (fun b f=>qX f)
    have ad:zt E w (Y.setCell ⟨w.heap.size,1,none⟩ (.int .i64 (t:Int))):=g.out.2.1.trans (zt.xK ht (fun b f=>⟨g.out.1.lt b (qV _ f),fun hm=>by
     have h1:=qE.1 hm;have F:=av.out b f;omega⟩))
    have g1:=g.out.2.2.frozen 1;have j1:=g.out.2.2.cell 1;obtain⟨w4,aE⟩:∃w4,Y.setCell ⟨w.heap.size,1,none⟩ (.int .i64 (t:Int))=w4:=⟨_,rfl⟩
    rw[aE]at I h4 ad;have m0:=I.cell 0;have m1:=I.cell 1;have m2:=I.cell 2;have ah:=qQ (ai w4 _ h4 ad ae.out);have H4:=qQ (qU h4 (qU ad I));clear I h4 ad ht an ai Z z af g ac
    have aC:(a = -2/\(a != -2)=false)∨(a≠-2/\(a != -2)=true/\(a != lt)=false):=by
     by_cases v:a = -2
     ·exact qX ⟨v,by rw[v];rfl⟩
     ·refine qY ⟨v,by simp;exact v, ?_⟩
      have:a=lt:=by
       by_cases q2:a=lt
       ·exact q2
       ·exact absurd ⟨v,q2⟩ m
      rw[this];simp
    clear m;rcases aC with⟨v,u1⟩|⟨v,u1,u2⟩
    all_goals
     clear v;go_wp2_with fail;refine ah.out.mono ?_;rintro e w5 (⟨rfl,ar,M,G⟩|⟨rfl,S',L',chs',D',M,G,wr⟩)
     ·have hF:ld At w0 gd gl gx gs r seed S L chs D s a l E w (.returned (.tuple #[.int .i64 0,.int .i64 60])) w5:=⟨k,U,qX ⟨60,rfl,qY ⟨rfl,ak.out,ar⟩,M.less (fun x d=>qV _ d),H4.out.2.1.trans (G.less (fun x d=>qV _ d))⟩⟩
      have i:=qQ hF;clear hF M G ah ar;go_wp2;go_ret2;exact i.out
     ·have hF:ld At w0 gd gl gx gs r seed S L chs D s a l E w (.returned (.tuple #[.int .i64 (t:Int),.int .i64 0])) w5:=by
       have ay:=ae.out;have aB:=aw.out;subst aB;exact⟨k,U,qY ⟨rfl,ak.out,ay,S',L',chs',D',M.less (fun x d=>qV _ d),H4.out.2.1.trans (G.less (fun x d=>qV _ d)),wr⟩⟩
      have i:=qQ hF;have B5:=G.qp H4.out.2.2 (qA _ qB);have r1:=B5.cell 1;clear hF M G ah wr B5;go_wp2;go_ret2;exact i.out
 ·have t0:(C != 0)=true:=by simp;exact O
  have t1:(C==0)=false:=qy.2 O;go_enter func18,ntmps18;go_wp2_with fail;refine aa.out.mono ?_;rintro e w'⟨rfl,rfl⟩;go_wp2_with fail;refine K.out.mono ?_;rintro e w2⟨rfl,o⟩;have F:=j.out.1.below api o;have X:=j.out.2.1.trans (zt.qm o (fun x d=>j.out.1.lt x (qV _ d)));have hF:ld At w0 gd gl gx gs r seed S L chs D s a l E w (.returned (.tuple #[.int .i64 0,.int .i64 C])) w2:=⟨0,by omega,qX ⟨C,rfl,qX ⟨by rw[z.out,qK O],O,by omega⟩,F.less (fun x d=>qV _ d),X⟩⟩
  have i:=qQ hF;clear hF F X o K aa k0 k1 k2 j az;go_wp2;go_ret2;exact i.out
end
end
section
open Go.RowKit Go.Shelf
attribute [local go_sem] bA
theorem YI: ∀(l:List jN) (k:Nat) (x:jN),k<l.length->yN (l.set k x)=(((((yN l).set (k*5) (.string x.s)).set (k*5+1) (.int .i64 x.v)).set (k*5+2) (.string x.e.t)).set (k*5+3) (.string x.e.d)).set (k*5+4) (.float .f64 x.e.b)
 | [],k,x,h=>absurd h (Nat.not_lt_zero _)
 | y::l,0,x,_=>rfl
 | y::l,k+1,x,h=>by
   have ih:=YI l k x (by simpa using h);have e:(k+1)*5=k*5+5:=(by omega);unfold yN at*;rw[List.set_cons_succ,List.flatMap_cons,List.flatMap_cons,ih,e];rfl
def nx(w:World)(g o:Nat)(x:jN):World:=((((w.setCell ⟨g,o,none⟩ (.string x.s)).setCell ⟨g,o+1,none⟩ (.int .i64 x.v)).setCell ⟨g,o+2,none⟩ (.string x.e.t)).setCell ⟨g,o+3,none⟩ (.string x.e.d)).setCell ⟨g,o+4,none⟩ (.float .f64 x.e.b)
theorem YL(w:World)(g o:Nat)(x:jN):ze [g] w (nx w g o x):=(((((ze.refl [g] w).setCell (p:=⟨g,o,none⟩) (qX qB) _).setCell (p:=⟨g,o+1,none⟩) (qX qB) _).setCell (p:=⟨g,o+2,none⟩) (qX qB) _).setCell (p:=⟨g,o+3,none⟩) (qX qB) _).setCell (p:=⟨g,o+4,none⟩) (qX qB) _
theorem kO.put{w:World}{base g n cap k:Nat}{l:List jN}(h:kO w base (.slice (some ⟨g,0,none⟩) n cap) l)(q:k<l.length)(x:jN):kO (nx w g (k*5) x) base (.slice (some ⟨g,0,none⟩) n cap) (l.set k x):=by
 have y:n=l.length:=by
  obtain⟨A,c,e,-⟩:=v8 h;exact(Value.slice.inj e).2.1
 subst y;have f:=(h.stored (k*5) (.string x.s)).1;have i:=(f.stored (k*5+1) (.int .i64 x.v)).1;have j:=(i.stored (k*5+2) (.string x.e.t)).1;have m:=(j.stored (k*5+3) (.string x.e.d)).1;have o:=(m.stored (k*5+4) (.float .f64 x.e.b)).1;unfold kO;rw[YI l k x q,List.length_set];exact o
theorem kO.cells{w:World}{base n c k:Nat}{A:Option Addr}{l:List jN}(h:kO w base (.slice A n c) l){x:jN}(f:l[k]? = some x):∃g,A=some ⟨g,0,none⟩/\base<=g/\g<w.heap.size/\(w.cell? ⟨g,k*5,none⟩=some (.string x.s)/\w.cell? ⟨g,k*5+1,none⟩=some (.int .i64 x.v)/\w.cell? ⟨g,k*5+2,none⟩=some (.string x.e.t)/\w.cell? ⟨g,k*5+3,none⟩=some (.string x.e.d)/\w.cell? ⟨g,k*5+4,none⟩=some (.float .f64 x.e.b)) /\
  (w.frozen? ⟨g,k*5,none⟩=false/\w.frozen? ⟨g,k*5+1,none⟩=false/\w.frozen? ⟨g,k*5+2,none⟩=false/\w.frozen? ⟨g,k*5+3,none⟩=false/\w.frozen? ⟨g,k*5+4,none⟩=false):=by
 have C:=(qM.1 f).1
 have m:n=l.length:=by
  obtain⟨o,q,e,-⟩:=v8 h;exact(Value.slice.inj e).2.1
 subst m
 have j:∃g,A=some ⟨g,0,none⟩:=by
  rcases h.2 with⟨e,z⟩|⟨g,cap,y,e,-⟩
  ·omega
  ·exact⟨g,(Value.slice.inj e).1⟩
 obtain⟨g,rfl⟩:=j;have i:=h.lt g rfl;refine⟨g,rfl,i.1,i.2,⟨?_, ?_, ?_, ?_, ?_⟩,h.frozenAt _,h.frozenAt _,h.frozenAt _,h.frozenAt _,h.frozenAt _⟩
 ·exact(h.cellAt (k*5) (by omega)).trans (dx l k _ f 0 (by omega))
 ·exact(h.cellAt (k*5+1) (by omega)).trans (dx l k _ f 1 (by omega))
 ·exact(h.cellAt (k*5+2) (by omega)).trans (dx l k _ f 2 (by omega))
 ·exact(h.cellAt (k*5+3) (by omega)).trans (dx l k _ f 3 (by omega))
 ·exact(h.cellAt (k*5+4) (by omega)).trans (dx l k _ f 4 (by omega))
def cm(l:List jN)(k:Nat)(R:List jN):Prop:=R.length=l.length/\∀m,m<l.length->R[m]? = if m<k∨l.length-k<=m then l[l.length-1-m]? else l[m]?
theorem cm.start(l:List jN):cm l 0 l:=⟨rfl,fun m b=>by rw[qJ (by omega)]⟩
theorem cm.step{l R:List jN}{k j:Nat}(h:cm l k R)(v:j=l.length-1-k)(z:k<j){x y:jN}(q:R[k]? = some x)(t:R[j]? = some y):cm l (k+1) ((R.set k y).set j x):=by
 have i:=h.1;have f:=h.2 k (by omega);have g:=h.2 j (by omega);rw[qJ (by omega)]at f g;refine⟨by rw[List.length_set,List.length_set];exact i,fun m o=>?_⟩;rw[List.getElem?_set,List.getElem?_set,List.length_set];by_cases b:j=m
 ·rw[qK b,qK (by omega),qK (by omega),<-q,f];congr 1;omega
 ·rw[qJ b];by_cases c:k=m
  ·rw[qK c,qK (by omega),qK (by omega),<-t,g];congr 1;omega
  ·rw[qJ c,h.2 m o];by_cases d:m<k∨l.length-k<=m
   ·rw[qK d,qK (by omega)]
   ·rw[qJ d,qJ (by omega)]
theorem cm.done{l R:List jN}{k:Nat}(h:cm l k R)(c:l.length<=2*k+1):R=l.reverse:=by
 refine List.ext_getElem? fun m=>?_
 by_cases b:m<l.length
 ·rw[h.2 m b,List.getElem?_reverse b];by_cases e:m<k∨l.length-k<=m
  ·rw[qK e]
  ·rw[qJ e];congr 1;omega
 ·rw[List.getElem?_eq_none (by rw[h.1];omega),List.getElem?_eq_none (by rw[List.length_reverse];omega)]
theorem Sc{w:World}{base n c:Nat}{A:Option Addr}{l:List jN}(h:kO w base (.slice A n c) l)(hl:l.length<=100000):Calls prog 47 #[.slice A n c] w fun e w'=>e = .returned (.tuple #[])/\kO w' base (.slice A n c) l.reverse/\ze (jA (.slice A n c)) w w':=by
 have Z:n=l.length:=by
  obtain⟨A',c',e,-⟩:=v8 h;exact(Value.slice.inj e).2.1
 have t:=qQ Z;have HR:=qQ h;have ah:n<=100000:=by omega
 clear Z h hl;go_enter func47,ntmps47;go_wp2;go_loopw [2,3] (fun H jv wr=>∃(k j:Nat) (R:List jN),H = .int .i64 (k:Nat)/\jv = .int .i64 ((n:Int)-1-k)/\2*k<=n+1/\cm l k R/\kO wr base (.slice A n c) R/\ze (jA (.slice A n c)) w wr) (fun H _ _=>n+2-2*(intOf H).toNat)
 case atStart=>exact⟨0,0,l,rfl,by simp,by omega,cm.start l,HR.out,ze.refl _ _⟩
 case round =>
  obtain⟨k,-,R,rfl,rfl,hk,f,d,o⟩:=hrel;by_cases v:k+1<n-k
  ·obtain⟨j,Y⟩:∃j:Nat,j=n-1-k:=⟨_,rfl⟩
   have X:(n:Int)-1-(k:Int)=(j:Int):=(by omega);have s1:(k:Int)<(j:Int):=(by omega);have ad:R.length=n:=(by rw[f.1,t.out]);obtain⟨x,C⟩:∃x,R[k]? = some x:=⟨_,qD (by omega)⟩
   obtain⟨y,F⟩:∃y,R[j]? = some y:=⟨_,qD (by omega)⟩
   obtain⟨g,rfl,ae,af,⟨I,J,K,M,O⟩,⟨f0,f1,f2,f3,f4⟩⟩:=d.cells C;obtain⟨g',m,-,-,⟨P,Q,U,V,W⟩,⟨h0,h1,h2,h3,h4⟩⟩:=d.cells F;obtain rfl:g=g':=(by injection m with m;injection m);have i:=f.step (j:=j) (by rw[<-t.out];omega) (by omega) C F;have aa:=(d.put (k:=k) (by omega) y).put (k:=j) (by rw[List.length_set];omega) x;have ab:ze (jA (.slice (some ⟨g,0,none⟩) n c)) w (nx (nx wr g (k*5) y) g (j*5) x):=(o.trans (YL wr g (k*5) y) (fun z G=>qX (by rw[qE.1 G];exact jq.2 rfl))).trans (YL _ g (j*5) x) (fun z G=>qX (by rw[qE.1 G];exact jq.2 rfl));have b:=qQ (qU i (qU (aa.below (Below.refl _ _).drew (qZ _)) ab.drew));have s2:(k:Int)<(n:Int):=(by omega);have s3:(j:Int)<(n:Int):=(by omega);have ag:k<j:=(by omega);rw[X];have q:=qQ (qU Y v);clear Y v X;obtain⟨xs,xv,⟨xt,xd,xb⟩⟩:=x;obtain⟨ys,yv,⟨yt,yd,yb⟩⟩:=y;unfold nx at b;simp only at b;simp only at I J K M O P Q U V W;clear i aa ab C F f d o m ae af ad;go_wp2;go_region
   obtain⟨w5,ac⟩:∃w5,w5=((((((((((wr.setCell ⟨g,k*5,none⟩ (.string ys)).setCell ⟨g,k*5+1,none⟩ (.int .i64 yv)).setCell ⟨g,k*5+2,none⟩ (.string yt)).setCell ⟨g,k*5+3,none⟩ (.string yd)).setCell ⟨g,k*5+4,none⟩ (.float .f64 yb)).setCell ⟨g,j*5,none⟩ (.string xs)).setCell ⟨g,j*5+1,none⟩ (.int .i64 xv)).setCell ⟨g,j*5+2,none⟩ (.string xt)).setCell ⟨g,j*5+3,none⟩ (.string xd)).setCell ⟨g,j*5+4,none⟩ (.float .f64 xb)).drew:=⟨_,rfl⟩
   rw[<-ac]at b ⊢;clear ac I J K M O P Q U V W f0 f1 f2 f3 f4 h0 h1 h2 h3 h4;go_wp2;go_roundw
   case rel=>exact⟨k+1,0,_,by go_num,by have:=q.out.1;have:=q.out.2;simp;omega,by have:=q.out.1;omega,b.out.1,b.out.2.1,b.out.2.2⟩
   case measure=>simp[intOf];omega
  ·have i:=f.done (by rw[<-t.out];omega);rw[i]at d;have b:=qQ (qU d o);have s1:¬(k:Int)<(n:Int)-1-(k:Int):=(by omega);clear f i d o v;go_wp2;go_end0;exact⟨rfl,b.out.1,b.out.2⟩
end
section
open Go.RowKit Go.Shelf
section
variable {At:jK}(api:jY At)(nap:jz)(cap:kc){w0 w:World}{gd gl gx gs r seed:Nat}{S:IxS}{L:jV}{chs:List (List Tw)}{D:zr}{E:List Nat}
def uH(s:Tw)(a b:Int):Int:=if stS s=true/\0<=a/\1<=b then 0 else 2
theorem pn(nap:jz){gs:Nat}{w:World}(h:w.cell? ⟨gs,0,none⟩=some (ptr gs))(s:Tw)(d:s.size<=maxLen)(a b:Int):Calls prog 33 #[ptr gs,.string s,.int .i64 a,.int .i64 b] w fun e w'=>e = .returned (.int .i64 (uH s a b))/\Below w.heap.size w w':=by
 have j:=qQ (QP h);have f:=qQ (nap.stream s w d);have i:Hid (uH s a b=if stS s=true/\0<=a/\1<=b then 0 else 2):=qQ rfl;generalize uH s a b=z at*;generalize stS s=q at*;clear h d;cases q with
 | false =>
   have d:z=2:=(by rw[i.out,qJ (by simp)]);subst d;go_enter func33,ntmps33;go_wp2_with fail;refine j.out.mono ?_;rintro e w'⟨rfl,rfl⟩;go_wp2_with fail;refine f.out.mono ?_;rintro e l⟨rfl,c⟩;have g:=qQ c;clear c f;go_wp2;go_ret;exact⟨rfl,g.out⟩
 | true =>
   by_cases m:a<0
   ·have d:z=2:=(by rw[i.out,qJ (by omega)]);subst d;have t:decide (a<0)=true:=qW m;go_enter func33,ntmps33;go_wp2_with fail;refine j.out.mono ?_;rintro e w'⟨rfl,rfl⟩;go_wp2_with fail;refine f.out.mono ?_;rintro e l⟨rfl,c⟩;have g:=qQ c;clear c f;go_wp2;go_ret;exact⟨rfl,g.out⟩
   ·have t:decide (a<0)=false:=qG m;by_cases o:b<1
    ·have d:z=2:=(by rw[i.out,qJ (by omega)]);subst d;have v:decide (b<1)=true:=qW o;go_enter func33,ntmps33;go_wp2_with fail;refine j.out.mono ?_;rintro e w'⟨rfl,rfl⟩;go_wp2_with fail;refine f.out.mono ?_;rintro e l⟨rfl,c⟩;have g:=qQ c;clear c f;go_wp2;go_ret;exact⟨rfl,g.out⟩
    ·have v:decide (b<1)=false:=qG o;have d:z=0:=(by rw[i.out,qK ⟨rfl,by omega,by omega⟩]);subst d;go_enter func33,ntmps33;go_wp2_with fail;refine j.out.mono ?_;rintro e w'⟨rfl,rfl⟩;go_wp2_with fail;refine f.out.mono ?_;rintro e l⟨rfl,c⟩;have g:=qQ c;clear c f;go_wp2;go_ret;exact⟨rfl,g.out⟩
def nz(a b:Int):Int:=min a 1073741824+min b 1073741824-1
theorem Sd{l:List Rec}(hw:∀x∈l,kK x.2=true)(s:Tw){a b:Int}(d:0<=a)(f:1<=b):kN s a (nz a b) (jT l)=kN s a (a+b-1) (jT l):=by
 unfold kN;refine List.filter_congr fun x c=>?_
 have:=ph hw x (nI.1 c).1;unfold nz;exact decide_eq_decide.2 ⟨fun k=>⟨k.1,by omega⟩,fun k=>⟨k.1,by omega⟩⟩
include nap in
theorem Tj(h:jM At w0 gd gl gx gs r seed S L chs D E w)(s:Tw)(i:s.size<=maxLen)(a b:Int)(d:uH s a b≠0):Calls prog 13 #[ptr gs,.string s,.int .i64 a,.int .i64 b] w fun e w'=>e = .returned (.tuple #[.slice none 0 0,.int .i64 2])/\Below w.heap.size w w':=by
 have c:=pn nap h.cells.1 s i a b
 have g:uH s a b=2:=by
  unfold uH at d ⊢;split at d
  ·exact absurd rfl d
  ·rename_i q;rw[qJ q]
 rw[g]at c;have c:=qQ c;clear h i d g;go_enter func13,ntmps13;go_wp2_with fail;refine c.out.mono ?_;rintro e l⟨rfl,f⟩;have j:=qQ f;clear f c;go_wp2;go_ret2;exact⟨rfl,j.out⟩
include nap in
theorem Tk(h:jM At w0 gd gl gx gs r seed S L chs D E w)(s:Tw)(i:s.size<=maxLen)(a b:Int)(d:uH s a b≠0):Calls prog 21 #[ptr gs,.string s,.int .i64 a,.int .i64 b] w fun e w'=>e = .returned (.tuple #[.slice none 0 0,.int .i64 2])/\Below w.heap.size w w':=by
 have c:=pn nap h.cells.1 s i a b
 have g:uH s a b=2:=by
  unfold uH at d ⊢;split at d
  ·exact absurd rfl d
  ·rename_i q;rw[qJ q]
 rw[g]at c;have c:=qQ c;clear h i d g;go_enter func21,ntmps21;go_wp2_with fail;refine c.out.mono ?_;rintro e l⟨rfl,f⟩;have j:=qQ f;clear f c;go_wp2;go_ret2;exact⟨rfl,j.out⟩
theorem YM{s:Tw}{a b:Int}(h:uH s a b=0):stS s=true/\0<=a/\1<=b:=by
 unfold uH at h;split at h
 ·assumption
 ·exact absurd h (by decide)
theorem cl.later{P:List jN}{m:Nat}{w1 w':World}{e:Ending}(h:cl At w0 gd gl gx gs r seed S L chs D P m E w1 e w')(j:zt E w w1)(l:w.heap.size<=w1.heap.size):cl At w0 gd gl gx gs r seed S L chs D P m E w e w':=by
 obtain⟨A,c,k,b,d,f,g,i⟩:=h;exact⟨A,c,k,b,d,cv f l,g,j.trans i⟩
include api nap cap
theorem Sf(h:jM At w0 gd gl gx gs r seed S L chs D E w)(K:D.count<=800000000)(y:(zo 0 chs).length<=100)(s:Tw)(l:s.size<=maxLen)(a b:Int)(m:(Lit.int .i64 a).wf=true)(G:(Lit.int .i64 b).wf=true)(j:uH s a b=0):
  Calls prog 13 #[ptr gs,.string s,.int .i64 a,.int .i64 b] w (cl At w0 gd gl gx gs r seed S L chs D (kN s a (a+b-1) (jT (zo 0 chs))) (S.T.length+2*(v7 S (jc seed s.data.toList) a (nz a b)).length) E w):=by
 have d:=pn nap h.cells.1 s l a b;rw[j]at d;obtain⟨-,I,J⟩:=YM j;have M:=bounds_i64 m;have O:=bounds_i64 G;have z:=Sd h.rb.whole s I J;have C:kN s a (min a 1073741824+min b 1073741824-1) (jT (zo 0 chs))=kN s a (a+b-1) (jT (zo 0 chs)):=z;have g:=qQ (fun W (i:Below w.heap.size w W)=>Q1 api nap cap (h.below api i) K y s l a (min a 1073741824+min b 1073741824-1) m (WalkArith.wf_i64 (by omega)));rw[C]at g;have t:=qQ (fun W (i:Below w.heap.size w W)=>h.xB i);have d:=qQ d;unfold nz;generalize (v7 S (jc seed s.data.toList) a (min a 1073741824+min b 1073741824-1)).length=Q at*;generalize kN s a (a+b-1) (jT (zo 0 chs))=P at*;clear h l m G j z C y;go_enter func13,ntmps13;go_wp2_with fail;refine d.out.mono ?_;rintro e F⟨rfl,f⟩;have o:=qQ (g.out F f);have q:=qQ (qU (t.out F f) f.size);clear f d t g;go_wp2_with fail;refine o.out.mono ?_;rintro e U v;have H:=qQ (v.later q.out.1 q.out.2);obtain⟨A,c,k,-,rfl,-⟩:=v;clear o;go_wp2;go_ret2;exact H.out
theorem Sh(h:jM At w0 gd gl gx gs r seed S L chs D E w)(hc:D.count<=800000000)(i:(zo 0 chs).length<=100)(s:Tw)(G:s.size<=maxLen)(a b:Int)(H:(Lit.int .i64 a).wf=true)(U:(Lit.int .i64 b).wf=true)(z:uH s a b=0):
  Calls prog 21 #[ptr gs,.string s,.int .i64 a,.int .i64 b] w (cl At w0 gd gl gx gs r seed S L chs D (kN s (a-b+1) a (jT (zo 0 chs))).reverse (S.T.length+2*(v7 S (jc seed s.data.toList) (a-b+1) a).length) E w):=by
 have j:=pn nap h.cells.1 s G a b;rw[z]at j;obtain⟨-,ha,d⟩:=YM z;have ba:=bounds_i64 H;have bb:=bounds_i64 U;have ab:=h.base.size
 have aa:(kN s (a-b+1) a (jT (zo 0 chs))).length<=800:=by
  have h1:=pb (zo 0 chs) h.rb.whole;have h2:(kN s (a-b+1) a (jT (zo 0 chs))).length<=(jT (zo 0 chs)).length:=qR (List.length_filter_le _ _) (List.length_filter_le _ _);omega
 have I:=qQ (fun W (y:Below w.heap.size w W)=>Q1 api nap cap (h.below api y) hc i s G (a-b+1) a (WalkArith.wf_i64 (by omega)) H);have K:=qQ (fun W (y:Below w.heap.size w W)=>h.xB y);have X:=qQ h.lt;have j:=qQ j;generalize (v7 S (jc seed s.data.toList) (a-b+1) a).length=rl at*;generalize kN s (a-b+1) a (jT (zo 0 chs))=P at*;clear h G H U z i;go_enter func21,ntmps21;go_wp2_with fail;refine j.out.mono ?_;rintro e O⟨rfl,o⟩;have J:=qQ (I.out O o);have m:=qQ (qU (K.out O o) o.size);clear o j K I;go_wp2_with fail;refine J.out.mono ?_;rintro e w3⟨A,c,k,hk,rfl,f,g,l⟩;have t:=qQ (Sc f (by omega));have q:=qQ (qU f (qU g l));obtain⟨n,i⟩:∃n,n=P.length:=⟨_,rfl⟩
 have Y:=qQ i;rw[<-i]at t q ⊢;clear f g l J i aa;go_wp2_with fail;refine t.out.mono ?_;rintro e Q⟨rfl,C,F⟩;obtain⟨f,g,l⟩:=q.out;have v:=g.xX api (E':=jA (.slice A n c)++E) F (fun b d=>⟨qA _ d,by have:=(f.lt b (jq.1 d)).1;have:=m.out.2;omega⟩) (fun b d=>qX d)
 have M:zt E w Q:=(m.out.1.trans l).trans (zt.xK F (fun b d=>⟨g.lt b (qV _ d),fun hm=>by
  have h5:=(f.lt b (jq.1 hm)).1;have h6:=X.out b d;have h7:=m.out.2;omega⟩))
 have V:Hid (cl At w0 gd gl gx gs r seed S L chs D P.reverse (S.T.length+2*rl) E w (.returned (.tuple #[.slice A n c,.int .i64 0])) Q):=qQ (by
  have Z:n=P.reverse.length:=by rw[List.length_reverse];exact Y.out
  rw[Z]at C v ⊢;exact⟨A,c,k,hk,rfl,cv C m.out.2,v,M⟩)
 clear C F f g l v M t q;go_wp2;go_ret2;exact V.out
theorem Sl(h:jM At w0 gd gl gx gs r seed S L chs D E w)(v:D.count<=700000000)(m:(zo 0 chs).length<=100)(s:Tw)(c:s.size<=maxLen)(o:stS s=true):Calls prog 20 #[ptr gs,.string s] w fun e w'=>∃k,k<=70000/\e = .returned (.tuple #[.int .i64 (uu s (jT (zo 0 chs))),.int .i64 0])/\jM At w0 gd gl gx gs r seed S L chs { D with count:=D.count+k } E w'/\zt E w w':=by
 have t:=qQ (QP h.cells.1);have b:=nap.stream s w c;rw[o]at b;have b:=qQ b;have f:=qQ (fun W (l:Below w.heap.size w W)=>qU (YD api nap cap (h.below api l) v m s c) (h.xB l));generalize uu s (jT (zo 0 chs))=lt at*;clear h c o m;go_enter func20,ntmps20;go_wp2_with fail;refine t.out.mono ?_;rintro e w'⟨rfl,rfl⟩;go_wp2_with fail;refine b.out.mono ?_;rintro e z⟨rfl,i⟩;have g:=qQ (f.out z i);clear i b f;go_wp2_with fail;refine g.out.1.mono ?_;rintro e A⟨k,y,rfl,j,q⟩;have d:=qQ (qU j (g.out.2.trans q));clear j q;go_wp2;go_ret2;exact⟨k,y,rfl,d.out.1,d.out.2⟩
end
end
section
open Go.RowKit Go.Shelf
attribute [local go_sem] bA
def exA: jD:=⟨⟨#[97]⟩,⟨#[]⟩,0⟩
def exB: jD:=⟨⟨#[98]⟩,⟨#[]⟩,0⟩
def vQ: Tw:=⟨#[115]⟩
def fj: List jN:=[⟨vQ,0,exA⟩,⟨vQ,1,exB⟩]
def cU: List jN:=[⟨vQ,0,exA⟩,⟨vQ,1,exB⟩,⟨vQ,2,exA⟩]
theorem Q2: bt exA:=⟨by decide,by decide,by decide⟩
theorem Sm: bt exB:=⟨by decide,by decide,by decide⟩
def kr(At:jK)(w0:World)(gd gl gx gs:Nat)(T:List jN)(n u cn:Nat)(E:List Nat)(w:World):Prop :=
 ∃S L chs D,jM At w0 gd gl gx gs 0 0 S L chs D E w/\jT (zo 0 chs)=T/\(zo 0 chs).length<=n/\D.cap=26000/\jX D.l<=u/\chs.length<=n/\D.count<=cn
section
variable {At:jK}(api:jY At)(nap:jz)(cap:kc)(rapi:lk At){w0 w w':World}{gd gl gx gs n u cn:Nat}{T:List jN}{E B:List Nat}
theorem kr.more(api:jY At)(h:kr At w0 gd gl gx gs T n u cn E w)(g:Below w.heap.size w w')(f:∀b∈B,w.heap.size<=b/\b<w'.heap.size):kr At w0 gd gl gx gs T n u cn (B++E) w':=by
 obtain⟨S,L,chs,D,c,d⟩:=h;exact⟨S,L,chs,D,c.more api g f,d⟩
theorem kr.base(h:kr At w0 gd gl gx gs T n u cn E w):Below w0.heap.size w0 w:=by
 obtain⟨S,L,chs,D,b,c⟩:=h;exact b.base
include api nap cap
theorem YN(h:kr At w0 gd gl gx gs T n u cn E w)(Q:n<=90)(U:u<=10000)(P:cn<=1000000)(s:Tw)(y:s.size<=100000)(a:Int)(l:List jD){A:Option Addr}{m c:Nat}(C:∀W,zt E w W->ke W (.slice A m c) l)(t:m=l.length)(o:l.length<=300)(j:∀x∈l,bt x)(v:bN s a l T=0):
  Calls prog 18 #[ptr gs,.string s,.int .i64 a,.slice A m c] w fun e w'=>e = .returned (.tuple #[.int .i64 ((ofT s T).length:Nat),.int .i64 0])/\kr At w0 gd gl gx gs (T++gq s ((ofT s T).length:Nat) l) (n+1) (u+2024) (cn+70000) E w'/\zt E w w':=by
 obtain⟨S,L,chs,D,g,rfl,J,i,K,M,O⟩:=h;refine(YH api nap cap g (by omega) (by omega) s y a l (fun W _ b=>C W b) t o j).mono ?_;rintro e w'⟨k,b,(⟨z,-,F,-⟩|⟨rfl,-,-,S',L',chs',D',d,f,wr⟩)⟩
 ·exfalso;rcases F with⟨G,H,-⟩|⟨-,-,I⟩
  ·exact H (G.trans v)
  ·rcases I with q|q
   ·omega
   ·omega
 ·exact⟨rfl,⟨S',L',chs',D',d,wr.all,by rw[wr.len];omega,wr.cap.trans i,by have:=wr.used;simp only at this;omega,by have:=wr.zS;omega,by have:=wr.count;simp only at this;omega⟩,f⟩
theorem Sn(h:kr At w0 gd gl gx gs T n u cn E w)(P:n<=90)(O:cn<=1000000)(s:Tw)(G:s.size<=100000)(a:Int)(l:List jD){A:Option Addr}{m c:Nat}(H:∀W,zt E w W->ke W (.slice A m c) l)(F:m=l.length)(C:l.length<=300)(y:∀x∈l,bt x)(d:bN s a l T≠0):
  Calls prog 18 #[ptr gs,.string s,.int .i64 a,.slice A m c] w fun e w'=>e = .returned (.tuple #[.int .i64 0,.int .i64 (bN s a l T)])/\kr At w0 gd gl gx gs T n u (cn+70000) E w'/\zt E w w':=by
 obtain⟨S,L,chs,D,i,rfl,j,o,t,v,M⟩:=h;refine(YH api nap cap i (by omega) (by omega) s G a l (fun W _ b=>H W b) F C y).mono ?_;rintro e w'⟨k,b,(⟨z,rfl,I,f,g⟩|⟨-,q,-⟩)⟩
 ·rcases I with⟨J,-,-⟩|⟨-,K,-⟩
  ·rw[J];exact⟨rfl,⟨S,L,chs,_,f,rfl,j,o,t,v,by show D.count+k<=_;omega⟩,g⟩
  ·exact absurd K d
 ·exact absurd q d
theorem Sp(h:kr At w0 gd gl gx gs T n u cn E w)(v:n<=90)(q:cn<=1000000)(s:Tw)(m:s.size<=maxLen)(l:stS s=true):
  Calls prog 20 #[ptr gs,.string s] w fun e w'=>e = .returned (.tuple #[.int .i64 (uu s T),.int .i64 0])/\kr At w0 gd gl gx gs T n u (cn+70000) E w'/\zt E w w':=by
 obtain⟨S,L,chs,D,d,rfl,f,g,i,j,o⟩:=h;refine(Sl api nap cap d (by omega) (by omega) s m l).mono ?_;rintro e w'⟨k,t,rfl,b,c⟩;exact⟨rfl,⟨S,L,chs,_,b,rfl,f,g,i,j,by show D.count+k<=_;omega⟩,c⟩
theorem Sr(h:kr At w0 gd gl gx gs T n u cn E w)(O:n<=90)(K:cn<=1000000)(s:Tw)(y:s.size<=maxLen)(a b:Int)(C:(Lit.int .i64 a).wf=true)(F:(Lit.int .i64 b).wf=true)(v:uH s a b=0){P:List jN}(q:kN s a (a+b-1) T=P):
  Calls prog 13 #[ptr gs,.string s,.int .i64 a,.int .i64 b] w fun e w'=>∃A c,e = .returned (.tuple #[.slice A P.length c,.int .i64 0])/\kO w' w.heap.size (.slice A P.length c) P/\kr At w0 gd gl gx gs T n u (cn+2000) (jA (.slice A P.length c)++E) w'/\zt E w w':=by
 obtain⟨S,L,chs,D,d,rfl,j,l,m,o,I⟩:=h;subst q;have J:=d.sx.ok.xG
 have t:∀a b,(v7 S (jc 0 s.data.toList) a b).length<=800:=fun a b=>by
  have G:=fq 0 (zo 0 chs) d.rb.whole;have H:(v7 S (jc 0 s.data.toList) a b).length<=(vM 0 (zo 0 chs)).length:=dT (nS d.sx.ok _ a b) (fun x z=>(d.rb.has x).1 ((ly d.sx.ok _ a b x).1 z).1);omega
 refine(Sf api nap cap d (by omega) (by omega) s y a b C F v).mono ?_;rintro e w'⟨A,c,k,M,rfl,f,g,i⟩;exact⟨A,c,rfl,f,⟨S,L,chs,_,g,rfl,j,l,m,o,by have:=t a (nz a b);show D.count+k<=_;omega⟩,i⟩
theorem Ss(h:kr At w0 gd gl gx gs T n u cn E w)(O:n<=90)(K:cn<=1000000)(s:Tw)(y:s.size<=maxLen)(a b:Int)(C:(Lit.int .i64 a).wf=true)(F:(Lit.int .i64 b).wf=true)(v:uH s a b=0){P:List jN}(q:(kN s (a-b+1) a T).reverse=P):
  Calls prog 21 #[ptr gs,.string s,.int .i64 a,.int .i64 b] w fun e w'=>∃A c,e = .returned (.tuple #[.slice A P.length c,.int .i64 0])/\kO w' w.heap.size (.slice A P.length c) P/\kr At w0 gd gl gx gs T n u (cn+2000) (jA (.slice A P.length c)++E) w'/\zt E w w':=by
 obtain⟨S,L,chs,D,d,rfl,j,l,m,o,I⟩:=h;subst q;have J:=d.sx.ok.xG
 have t:∀a b,(v7 S (jc 0 s.data.toList) a b).length<=800:=fun a b=>by
  have G:=fq 0 (zo 0 chs) d.rb.whole;have H:(v7 S (jc 0 s.data.toList) a b).length<=(vM 0 (zo 0 chs)).length:=dT (nS d.sx.ok _ a b) (fun x z=>(d.rb.has x).1 ((ly d.sx.ok _ a b x).1 z).1);omega
 refine(Sh api nap cap d (by omega) (by omega) s y a b C F v).mono ?_;rintro e w'⟨A,c,k,M,rfl,f,g,i⟩;exact⟨A,c,rfl,f,⟨S,L,chs,_,g,rfl,j,l,m,o,by have:=t (a-b+1) a;show D.count+k<=_;omega⟩,i⟩
end
theorem Sa: bN vQ (-1) [exA,exB] []=0:=by decide +kernel
theorem YO: bN vQ (-1) [exA] fj=80:=by decide +kernel
theorem Se: bN vQ 1 [exA] fj=0:=by decide +kernel
theorem Si: (ofT vQ []).length=0/\(ofT vQ fj).length=2:=⟨rfl,by decide +kernel⟩
theorem YP: uu vQ cU=2/\stS vQ=true:=by decide +kernel
theorem So: kN vQ 1 (1+9-1) cU=[⟨vQ,1,exB⟩,⟨vQ,2,exA⟩]:=rfl
theorem Sw: (kN vQ (1-9+1) 1 cU).reverse=[⟨vQ,1,exB⟩,⟨vQ,0,exA⟩]:=rfl
theorem YR: uH vQ 1 9=0:=by decide +kernel
theorem TQ(w:World){W:World}(c:zt [w.heap.size] (w.alloc (.cells #[.string ⟨#[97]⟩,.string ⟨#[]⟩,.float .f64 0,.string ⟨#[98]⟩,.string ⟨#[]⟩,.float .f64 0] 64)) W):
  ke W (.slice (some ⟨w.heap.size,0,none⟩) 2 2) [exA,exB]/\ke W (.slice (some ⟨w.heap.size,0,none⟩) 1 2) [exA]:=by
 have B:=c.qp (za.new w 64 #[.string ⟨#[97]⟩,.string ⟨#[]⟩,.float .f64 0,.string ⟨#[98]⟩,.string ⟨#[]⟩,.float .f64 0]) qB;refine⟨qY ⟨by decide,w.heap.size,0,2,rfl,by decide,B.lt,fun i x b=>?_⟩,qY ⟨by decide,w.heap.size,0,2,rfl,by decide,B.lt,fun i x b=>?_⟩⟩
 ·match i,b with
  | 0,b=>obtain rfl:=qv b;exact⟨B.cell 0,B.cell 1,B.cell 2⟩
  | 1,b=>obtain rfl:=qv b;exact⟨B.cell 3,B.cell 4,B.cell 5⟩
 ·match i,b with
  | 0,b=>obtain rfl:=qv b;exact⟨B.cell 0,B.cell 1,B.cell 2⟩
end
section
open Go.RowKit Go.Shelf
attribute [local go_sem] bA
section
variable {At:jK}(api:jY At)(nap:jz)(cap:kc)(rapi:lk At)
include api nap cap rapi
theorem TX(w:World):Calls prog 7 #[] w fun e w'=>e = .returned (.bool true)/\Below w.heap.size w w':=by
 have ak:=qQ (show Calls prog 8 #[.agg #[.int .u64 0,.float .f64 0,.int .u16 5000]] w fun e w'=>∃d gd gs gl gx,Below w.heap.size w d/\e = .returned (.tuple #[ptr gd,ptr gs,.bool true])/\kr At d gd gl gx gs [] 0 0 600 [] w' from(S7 api nap cap rapi ⟨0,0,5000⟩ ⟨by decide,by decide,by decide⟩ w).mono (by
  rintro e w'⟨d,gd,gs,gl,gx,S,L,D,z,rfl,h2,G,H,C,F,I⟩;exact⟨d,gd,gs,gl,gx,z,rfl,S,L,[],D,h2,rfl,qH _,C,by omega,qH _,F⟩))
 have V:=qQ (fun d gd gl gx gs g W (h:kr At d gd gl gx gs [] 0 0 600 [g] W) (o:∀f,zt [g] W f->ke f (.slice (some ⟨g,0,none⟩) 2 2) [exA,exB])=>(show Calls prog 18 #[ptr gs,.string ⟨#[115]⟩,.int .i64 (-1),.slice (some ⟨g,0,none⟩) 2 2] W fun e w'=>e = .returned (.tuple #[.int .i64 0,.int .i64 0])/\kr At d gd gl gx gs fj 1 2024 70600 [g] w'/\zt [g] W w' from
  YN api nap cap h (by decide) (by decide) (by decide) vQ (by decide) (-1) [exA,exB] o rfl (by decide) (fun x j=>by
   rcases qL.1 j with rfl|j
   ·exact Q2
   ·rw[qE.1 j];exact Sm) Sa))
 have X:=qQ (fun d gd gl gx gs g W (h:kr At d gd gl gx gs fj 1 2024 70600 [g] W) (o:∀f,zt [g] W f->ke f (.slice (some ⟨g,0,none⟩) 1 2) [exA])=>(show Calls prog 18 #[ptr gs,.string ⟨#[115]⟩,.int .i64 (-1),.slice (some ⟨g,0,none⟩) 1 2] W fun e w'=>e = .returned (.tuple #[.int .i64 0,.int .i64 80])/\kr At d gd gl gx gs fj 1 2024 140600 [g] w'/\zt [g] W w' from by
  have:=Sn api nap cap h (by decide) (by decide) vQ (by decide) (-1) [exA] o rfl (by decide) (fun x j=>by rw[qE.1 j];exact Q2) (by rw[YO];decide);rw[YO]at this;exact this))
 have Y:=qQ (fun d gd gl gx gs g W (h:kr At d gd gl gx gs fj 1 2024 140600 [g] W) (o:∀f,zt [g] W f->ke f (.slice (some ⟨g,0,none⟩) 1 2) [exA])=>(show Calls prog 18 #[ptr gs,.string ⟨#[115]⟩,.int .i64 1,.slice (some ⟨g,0,none⟩) 1 2] W fun e w'=>e = .returned (.tuple #[.int .i64 2,.int .i64 0])/\kr At d gd gl gx gs cU 2 4048 210600 [g] w'/\zt [g] W w' from by
  have:=YN api nap cap h (by decide) (by decide) (by decide) vQ (by decide) 1 [exA] o rfl (by decide) (fun x j=>by rw[qE.1 j];exact Q2) Se;rw[Si.2]at this;exact this))
 have ai:=qQ (fun d gd gl gx gs g W (h:kr At d gd gl gx gs cU 2 4048 210600 [g] W)=>(show Calls prog 20 #[ptr gs,.string ⟨#[115]⟩] W fun e w'=>e = .returned (.tuple #[.int .i64 2,.int .i64 0])/\kr At d gd gl gx gs cU 2 4048 280600 [g] w'/\zt [g] W w' from by
  have:=Sp api nap cap h (by decide) (by decide) vQ (by unfold maxLen;decide) YP.2;rw[YP.1]at this;exact this))
 have ah:=qQ (fun d gd gl gx gs E W (h:kr At d gd gl gx gs cU 2 4048 280600 E W)=>(show Calls prog 13 #[ptr gs,.string ⟨#[115]⟩,.int .i64 1,.int .i64 9] W fun e w'=>∃A c,e = .returned (.tuple #[.slice A 2 c,.int .i64 0])/\kO w' W.heap.size (.slice A 2 c) [⟨vQ,1,exB⟩,⟨vQ,2,exA⟩]/\kr At d gd gl gx gs cU 2 4048 282600 (jA (.slice A 2 c)++E) w'/\zt E W w' from
  Sr api nap cap h (by decide) (by decide) vQ (by unfold maxLen;decide) 1 9 (by decide) (by decide) YR So))
 have aa:=qQ (fun d gd gl gx gs E W (h:kr At d gd gl gx gs cU 2 4048 282600 E W)=>(show Calls prog 21 #[ptr gs,.string ⟨#[115]⟩,.int .i64 1,.int .i64 9] W fun e w'=>∃A c,e = .returned (.tuple #[.slice A 2 c,.int .i64 0])/\kO w' W.heap.size (.slice A 2 c) [⟨vQ,1,exB⟩,⟨vQ,0,exA⟩]/\kr At d gd gl gx gs cU 2 4048 284600 (jA (.slice A 2 c)++E) w'/\zt E W w' from
  Ss api nap cap h (by decide) (by decide) vQ (by unfold maxLen;decide) 1 9 (by decide) (by decide) YR Sw))
 have ap:=qQ TQ;have aj:=qQ (fun d gd gl gx gs T n u cn W f g (h:kr At d gd gl gx gs T n u cn [] W) (m:Below W.heap.size W f) (hg:W.heap.size<=g/\g<f.heap.size)=>(show kr At d gd gl gx gs T n u cn [g] f from h.more (B:=[g]) api m (fun b m=>by rw[qE.1 m];exact hg)));go_enter func7,ntmps7;go_wp2_with fail;refine ak.out.mono ?_;rintro e l⟨d,gd,gs,gl,gx,am,rfl,z⟩;have J:=(Below.refl l.heap.size l).alloc (qZ _) (.cells #[.string ⟨#[97]⟩,.string ⟨#[]⟩,.float .f64 0,.string ⟨#[98]⟩,.string ⟨#[]⟩,.float .f64 0] 64);have t:=qQ (fun W i=>ap.out l (W:=W) i);obtain⟨P,an⟩:∃P,l.alloc (.cells #[.string ⟨#[97]⟩,.string ⟨#[]⟩,.float .f64 0,.string ⟨#[98]⟩,.string ⟨#[]⟩,.float .f64 0] 64)=P:=⟨_,rfl⟩
 have av:P.heap.size=l.heap.size+1:=by rw[<-an];simp
 rw[an]at J t;have H2:=qQ (aj.out _ _ _ _ _ _ _ _ _ _ _ l.heap.size z J (by omega));have ab:=qQ (V.out _ _ _ _ _ _ _ H2.out (fun f i=>(t.out f i).1));have Z:=qQ am;clear am z J av ak aj V;go_wp2_with fail;refine ab.out.mono ?_;rintro e w3⟨rfl,G,O⟩;have ac:=qQ (X.out _ _ _ _ _ _ _ G (fun f i=>(t.out f (O.trans i)).2));have ao:=qQ O;clear G O X ab;go_wp2_with fail;refine ac.out.mono ?_;rintro e w4⟨rfl,H,k4⟩;have ad:=qQ (Y.out _ _ _ _ _ _ _ H (fun f i=>(t.out f ((ao.out.trans k4).trans i)).2));clear H k4 Y ac;go_wp2_with fail;refine ad.out.mono ?_;rintro e w5⟨rfl,C,-⟩;have ae:=qQ (ai.out _ _ _ _ _ _ _ C);clear C ad ai;go_wp2_with fail;refine ae.out.mono ?_;rintro e w6⟨rfl,F,-⟩;have af:=qQ (ah.out _ _ _ _ _ _ _ F);clear F ae ah;go_wp2_with fail;refine af.out.mono ?_;rintro e w7⟨A7,c7,rfl,q,I,-⟩;have ag:=qQ (aa.out _ _ _ _ _ _ _ I);have al:=qQ q;clear I af aa q;go_wp2_with fail;refine ag.out.mono ?_;rintro e w8⟨A8,c8,rfl,r8,h8,k8⟩;have q:=k8.zQ al.out (fun b m=>qA _ m);obtain⟨A',aw,au,e7,-,K⟩:=q.qw.form;obtain⟨b7,rfl,-,x0,x1,Q,-⟩:=K 0 _ rfl;obtain⟨aq,v,-,-,x6,-⟩:=K 1 _ rfl;obtain⟨rfl,-,-⟩:=Value.slice.inj e7;obtain rfl:b7=aq:=by injection v with v;injection v
 obtain⟨A',ax,au,e8,-,M⟩:=r8.qw.form;obtain⟨b8,rfl,-,-,y1,-⟩:=M 0 _ rfl;obtain⟨ar,y,-,-,y6,U,-⟩:=M 1 _ rfl;obtain⟨rfl,-,-⟩:=Value.slice.inj e8;obtain rfl:b8=ar:=by injection y with y;injection y
 have HF:=qQ (Z.out.trans (h8.base.mono Z.out.size));rw[Nat.zero_mul,Nat.add_zero]at x1 Q y1;rw[Nat.one_mul]at x6 y6 U;unfold exB at Q;unfold exA at U;simp only at x1 Q x6 y1 y6 U;clear q r8 h8 k8 ag al K M x0 e7 e8 v y;go_wp2;go_ret;exact⟨rfl,HF.out⟩
end
end
section
open Go.RowKit Go.Shelf
section
variable {w:World}{p:Value}
theorem YS(h:uF w p)(s:Tw)(a b:Int):Calls prog 33 #[p,.string s,.int .i64 a,.int .i64 b] w fun e w'=>e = .returned (.int .i64 1)/\w=w':=by
 have c:=qQ (dz h);clear h;go_enter func33,ntmps33;go_wp2_with fail;refine c.out.mono ?_;rintro e w'⟨rfl,rfl⟩;go_wp2;go_ret;exact⟨rfl,rfl⟩
theorem TZ(h:uF w p)(s:Tw)(a b:Int):Calls prog 13 #[p,.string s,.int .i64 a,.int .i64 b] w fun e w'=>e = .returned (.tuple #[.slice none 0 0,.int .i64 1])/\w=w':=by
 have c:=qQ (YS h s a b);clear h;go_enter func13,ntmps13;go_wp2_with fail;refine c.out.mono ?_;rintro e w'⟨rfl,rfl⟩;go_wp2;go_ret2;exact⟨rfl,rfl⟩
theorem TJ(h:uF w p)(s:Tw)(a b:Int):Calls prog 21 #[p,.string s,.int .i64 a,.int .i64 b] w fun e w'=>e = .returned (.tuple #[.slice none 0 0,.int .i64 1])/\w=w':=by
 have c:=qQ (YS h s a b);clear h;go_enter func21,ntmps21;go_wp2_with fail;refine c.out.mono ?_;rintro e w'⟨rfl,rfl⟩;go_wp2;go_ret2;exact⟨rfl,rfl⟩
theorem TK(h:uF w p)(s:Tw):Calls prog 20 #[p,.string s] w fun e w'=>e = .returned (.tuple #[.int .i64 (-1),.int .i64 1])/\w=w':=by
 have b:=qQ (dz h);clear h;go_enter func20,ntmps20;go_wp2_with fail;refine b.out.mono ?_;rintro e w'⟨rfl,rfl⟩;go_wp2;go_ret2;exact⟨rfl,rfl⟩
theorem TV(h:uF w p):Calls prog 19 #[p] w fun e w'=>e = .returned (.tuple #[.slice none 0 0,.int .i64 1])/\w=w':=by
 have b:=qQ (dz h);clear h;go_enter func19,ntmps19;go_wp2_with fail;refine b.out.mono ?_;rintro e w'⟨rfl,rfl⟩;go_wp2;go_ret2;exact⟨rfl,rfl⟩
theorem TY(h:uF w p):Calls prog 23 #[p] w fun e w'=>e = .returned (.int .i64 1)/\w=w':=by
 have b:=qQ (dz h);clear h;go_enter func23,ntmps23;go_wp2_with fail;refine b.out.mono ?_;rintro e w'⟨rfl,rfl⟩;go_wp2;go_ret;exact⟨rfl,rfl⟩
theorem TU(h:uF w p):Calls prog 15 #[p] w fun e w'=>e = .returned (.int .i64 1)/\w=w':=by
 have b:=qQ (dz h);clear h;go_enter func15,ntmps15;go_wp2_with fail;refine b.out.mono ?_;rintro e w'⟨rfl,rfl⟩;go_wp2;go_ret;exact⟨rfl,rfl⟩
theorem TG(h:uF w p)(a:Int):Calls prog 16 #[p,.int .i64 a] w fun e w'=>e = .returned (.int .i64 1)/\w=w':=by
 have b:=qQ (dz h);clear h;go_enter func16,ntmps16;go_wp2_with fail;refine b.out.mono ?_;rintro e w'⟨rfl,rfl⟩;go_wp2;go_ret;exact⟨rfl,rfl⟩
theorem TW(h:uF w p)(s:Tw)(a:Int)(v:Value)(j:∃A n c,v = .slice A n c):Calls prog 18 #[p,.string s,.int .i64 a,v] w fun e w'=>e = .returned (.tuple #[.int .i64 0,.int .i64 1])/\Below w.heap.size w w':=by
 obtain⟨A,n,c,rfl⟩:=j;have b:=(Below.refl w.heap.size w).alloc (qZ _) (.cells #[.string s,.int .i64 0,.slice A n c] 92);have d:=h.below b;obtain⟨f,l⟩:∃f,w.alloc (.cells #[.string s,.int .i64 0,.slice A n c] 92)=f:=⟨_,rfl⟩
 rw[l]at b d;have g:=qQ b;have i:=qQ (dz d);clear h d b;go_enter func18,ntmps18;go_wp2_with fail;refine i.out.mono ?_;rintro e w'⟨rfl,rfl⟩;go_wp2;go_ret2;exact⟨rfl,g.out⟩
theorem TA(h:uF w p):Calls prog 11 #[p] w fun e w'=>e = .returned (.agg #[.int .i64 0,.int .i64 0,.int .u64 0,.slice none 0 0])/\Below w.heap.size w w':=by
 have c:=(Below.refl w.heap.size w).alloc (qZ _) (.cells #[.int .i64 0,.int .i64 0,.int .u64 0,.slice none 0 0] 47);have f:=h.below c;have B:=za.new w 47 #[.int .i64 0,.int .i64 0,.int .u64 0,.slice none 0 0];obtain⟨d,m⟩:∃d,w.alloc (.cells #[.int .i64 0,.int .i64 0,.int .u64 0,.slice none 0 0] 47)=d:=⟨_,rfl⟩
 rw[m]at c f B;have l:=qQ (dz f);have A:=B.cell 0;have C:=B.cell 1;have F:=B.cell 2;have G:=B.cell 3;have q:=B.frozen 0;have t:=B.frozen 1;have y:=B.frozen 2;have z:=B.frozen 3;have b:=(((B.put 0 (.int .i64 0)).put 1 (.int .i64 0)).put 2 (.int .u64 0)).put 3 (.slice none 0 0);have c0:=b.cell 0;have c1:=b.cell 1;have c2:=b.cell 2;have j:=b.cell 3
 have g:Below w.heap.size w ((((d.setCell ⟨w.heap.size,0,none⟩ (.int .i64 0)).setCell ⟨w.heap.size,1,none⟩ (.int .i64 0)).setCell ⟨w.heap.size,2,none⟩ (.int .u64 0)).setCell ⟨w.heap.size,3,none⟩ (.slice none 0 0)) :=
  c.trans (((((ze.refl [w.heap.size] d).setCell (p:=⟨w.heap.size,0,none⟩) (qX qB) _).setCell (p:=⟨w.heap.size,1,none⟩) (qX qB) _).setCell (p:=⟨w.heap.size,2,none⟩) (qX qB) _).setCell (p:=⟨w.heap.size,3,none⟩) (qX qB) _ |>.below c.size (fun x o=>by rw[qE.1 o];exact qZ _))
 have i:=qQ g;clear h f c g B b;go_enter func11,ntmps11;go_wp2_with fail;refine l.out.mono ?_;rintro e w'⟨rfl,rfl⟩;go_wp2;exact bodyPost_ret (v:=.agg #[.int .i64 0,.int .i64 0,.int .u64 0,.slice none 0 0]) (by simp[results,Tryz.results11,go_sem,c0,c1,c2,j]) rfl ⟨rfl,i.out⟩
end
section
variable {At:jK}(api:jY At)(nap:jz)(cap:kc){w0 w:World}{gd gl gx r seed:Nat}{S:IxS}{L:jV}{chs:List (List Tw)}{D:zr}{E:List Nat}
include api nap cap
theorem TB(h:jR At w0 gd gl gx r S L chs D E w)(b:D.count<=900000000)(pos:Nat)(i:pos<=2147483647)(c:(zo 0 chs).find? (fun x=>decide (pos<=x.1))=none):
  Calls prog 43 #[ptr gl,.int .i64 (pos:Nat)] w fun e w'=>e = .returned (.tuple #[.string ByteArray.empty,.int .i64 0,.int .i64 0,.int .i64 4])/\∃k,k<=D.count+200/\jR At w0 gd gl gx r S L chs { D with count:=k } E w'/\zt E w w':=by
 refine(YJ api nap cap h b pos (by omega)).mono ?_;rintro e w'⟨k,f,rfl,d,g⟩;rw[c];exact⟨rfl,k,f,d,g⟩
theorem TC(h:jR At w0 gd gl gx r S L chs D E w)(b:D.count<=900000000)(pos:Nat)(i:pos<=2147483647){q:Nat}{p:Tw}(c:(zo 0 chs).find? (fun x=>decide (pos<=x.1))=some (q,p)):
  Calls prog 43 #[ptr gl,.int .i64 (pos:Nat)] w fun e w'=>e = .returned (.tuple #[.string p,.int .i64 (q:Nat),.int .i64 (kx (q,p):Nat),.int .i64 0])/\∃k,k<=D.count+200/\jR At w0 gd gl gx r S L chs { D with count:=k } E w'/\zt E w w':=by
 refine(YJ api nap cap h b pos (by omega)).mono ?_;rintro e w'⟨k,f,rfl,d,g⟩;rw[c];exact⟨rfl,k,f,d,g⟩
omit api nap cap in
theorem TD{D:zr}(g:js D chs){x:Rec}(c:x∈zo 0 chs):kx x<=900000:=by
 have f:=((fF chs 0 (fun d b=>(g.small d b).1)).2 x c).2;have:=g.many;omega
theorem TE(h:jR At w0 gd gl gx r S L chs D E w)(aq:S.mem=[])(f:Nat)(aG:f<=900000)(n:Int)(A:Option Addr)(k cp:Nat)(hs:seed<18446744073709551616)(hw:∀x∈zo 0 chs,kK x.2=true)(ap:(vM seed (zo 0 chs)).length<=1000)(aN:D.count<=850000000):
  Calls prog 84 #[ptr gx,ptr gl,.agg #[.int .i64 n,.int .i64 (f:Nat),.int .u64 (seed:Nat),.slice A k cp]] w fun e w'=>e = .returned (.int .i64 0)/\∃S' c',jR At w0 gd gl gx r S' L chs { D with count:=c' } E w'/\zt E w w'/\S'.m=S.m/\S'.T=S.T /\
   (∀y,y∈S'.mem↔∃x∈zo 0 chs,(f:Int)<=(x.1:Int)/\y∈ki seed x)/\c'<=D.count+200*((zo 0 chs).length+1):=by
 have g:=h.xQ
 have J:(zo 0 chs).length<=200000:=by
  have F:=(fF chs 0 (fun X V=>(g.small X V).1))
  have j:=KF chs (fun X V=>(g.small X V).1);have P:=pd g
  have h4:∀(l:List Rec) (a:Nat),gY l->(∀x∈l,a<=x.1)->(∀x∈l,kx x<=819200)->a+12*l.length<=819200+a:=by
   intro l
   induction l with
   | nil=>intro a _ _ _;simp
   | cons x l ih =>
     intro a hr ha U;have ac:=List.pairwise_cons.1 hr;have:=ih a ac.2 (fun y K=>ha y (qF _ K)) (fun y K=>U y (qF _ K))
     have aF:∀(l:List Rec) (b:Nat),gY l->(∀y∈l,b<=y.1)->(∀y∈l,kx y<=819200)->b<=819200->b+12*l.length<=819200:=by
      intro l
      induction l with
      | nil=>intro b _ _ _ hb;simpa using hb
      | cons z l aL =>
        intro b hr hb U aM;have ac:=List.pairwise_cons.1 hr;have hz:=U z qB;have aO:=hb z qB;have aP:z.1+12<=kx z:=(by unfold kx;omega);have:=aL (kx z) ac.2 ac.1 (fun y K=>U y (qF _ K)) hz;rw[qk];omega
     have:=aF (x::l) 0 hr (fun y K=>qH _) U (by omega);omega
  have h5:∀x∈zo 0 chs,kx x<=819200:=fun x d=>by
   have:=(F.2 x d).2;have:=g.many;omega
  have:=h4 (zo 0 chs) 0 F.1 (fun x d=>qH _) h5;omega
 have C:=(fF chs 0 (fun X V=>(g.small X V).1)).1;have af:=(Below.refl w.heap.size w).alloc (qZ _) (.cells #[.int .i64 n,.int .i64 (f:Nat),.int .u64 (seed:Nat),.slice A k cp] 47);have Q:=za.new w 47 #[.int .i64 n,.int .i64 (f:Nat),.int .u64 (seed:Nat),.slice A k cp];have F:=h.more api af (B:=[w.heap.size]) (fun x d=>by rw[qE.1 d];exact⟨qZ _,Q.lt⟩);have ag:=(zt.qm af (fun x d=>h.lt x (qF _ d)):zt E w _)
 obtain⟨w1,aK⟩:∃w1,w.alloc (.cells #[.int .i64 n,.int .i64 (f:Nat),.int .u64 (seed:Nat),.slice A k cp] 47)=w1:=⟨_,rfl⟩
 rw[aK]at Q F ag;have k1:=Q.cell 1;have H1:=qQ F;have aB:=qQ ag;have ay:=qQ Q;have HG:=qQ g;have HW:=qQ hw;have az:=qQ ap;have aD:=qQ aq;have aC:=qQ J;have aE:=qQ C;obtain⟨R,o⟩:∃R,R=zo 0 chs:=⟨_,rfl⟩
 have i:=qQ o;clear af Q F ag h g hw ap aq J C o;go_enter func84,ntmps84;go_wp2
 go_loopw [7] (fun p wr=>∃(pos c:Nat) (S':IxS),p = .int .i64 pos/\f<=pos/\pos<=900000/\jR At w0 gd gl gx r S' L chs { D with count:=c } ([w.heap.size]++E) wr/\zt E w wr/\za wr w.heap.size 47 #[.int .i64 n,.int .i64 (f:Nat),.int .u64 (seed:Nat),.slice A k cp] /\
  S'.m=S.m/\S'.T=S.T/\bM seed R f pos S'.mem/\c+200*lx R pos<=D.count+200*R.length) (fun p _=>lx R (intOf p).toNat)
 case atStart =>
  refine⟨f,D.count,S,rfl,qZ _,aG,H1.out,aB.out,ay.out,rfl,rfl, ?_, ?_⟩
  ·rw[aD.out];exact bM.start seed R f
  ·have:=Vt R f;omega
 case round =>
  obtain⟨pos,c,S',rfl,an,aI,o,Z,ae,hm,hT,hF,ab⟩:=hrel;have J:=aC.out;rw[<-i.out]at J;have av:=Vt R pos;have aa:c<=900000000:=by omega
  cases v:R.find? (fun x=>decide (pos<=x.1)) with
  | none =>
    have G:=v;rw[i.out]at G;have I:=qQ (TB api nap cap o aa pos (by omega) G);have HD:=qQ (hF.done v);have H:=qQ (qU hm (qU hT (qU Z ab)));clear o Z ae hm hT hF ab v G aa av J k1 an aI;go_wp2_with fail;refine I.out.mono ?_;rintro e w2⟨rfl,c2,t,j,M⟩;have O:=qQ (qU t (qU (j.less (fun x d=>qV _ d):jR At w0 gd gl gx r S' L chs { D with count:=c2 } E w2) (M.less (fun x d=>qV _ d):zt E wr w2)));clear j M t I;go_wp2;go_ret;obtain⟨m1,m2,m3,m4⟩:=H.out;obtain⟨Y,f2,f3⟩:=O.out;have Y:c2<=c+200:=Y;refine⟨rfl,S',c2,f2,m3.trans f3,m1,m2, ?_, ?_⟩
    ·rw[<-i.out];exact HD.out
    ·rw[<-i.out];omega
  | some x =>
    obtain⟨q,p⟩:=x;have G:=v;rw[i.out]at G;have C:=aE.out;rw[<-i.out]at C;have hst:=Rb C v;obtain⟨aw,ax,-⟩:=QM C v;have W:=aw;rw[i.out]at W;have ao:=TD HG.out W;have au:q<kx (q,p):=by unfold kx;simp only;omega
    have aH:S'.mem.length<=1000:=by
     have F:=hF.len o.ok.qo;have j:=az.out;rw[<-i.out]at j;omega
    have I:=qQ (TC api nap cap o aa pos (by omega) G);have aj:=qQ (fun(w3:World) (c3:Nat) (P:jR At w0 gd gl gx r S' L chs { D with count:=c3 } ([w.heap.size]++E) w3)=>SW (p:=p) api P hs (HW.out _ W) (Vi HG.out W) (by omega:q<=2147483647) (by omega));have al:=qQ (fun(M':List zn) (hM:∀y,y∈M'↔y∈S'.mem∨y∈ki seed (q,p))=>hF.step C v an hM);have H:=qQ (qU hm (qU hT (qU Z ae)));have aJ:pos<kx (q,p):=Nat.lt_of_le_of_lt ax au;obtain⟨ai,ar⟩:∃ai,ai=kx (q,p):=⟨_,rfl⟩
    rw[<-ar]at I al hst ao aJ;have ak:=qQ (qU hst ab);clear o Z ae hm hT hF ab v G aa av J k1 C aw W ax au aH ar hst;go_wp2_with fail;refine I.out.mono ?_;rintro e w2⟨rfl,c2,t,j,M⟩;have ad:=M.qp H.out.2.2.2 (qA _ qB);have k2:=ad.cell 2;have HA:=qQ (aj.out w2 c2 j);have O:=qQ (qU t (qU ad (H.out.2.2.1.trans (M.less (fun x d=>qV _ d)))));clear j M t ad I aj;go_wp2_with fail;refine HA.out.mono ?_;rintro e w3⟨rfl,S3,P,ah,am⟩;have aA:=qQ (qU P (qU (ah.qp O.out.2.1 (qA _ qB)) (qU (O.out.2.2.trans (ah.less (fun x d=>qV _ d))) am)));clear P ah am HA k2;go_wp2;go_roundw
    case rel =>
     obtain⟨Y,f2,f3,f4⟩:=aA.out;obtain⟨s1,s2⟩:=ak.out;have t:=O.out.1;have t:c2<=c+200:=t;refine⟨ai,c2,S3,by go_num,by omega,ao,Y,f3,f2,f4.m.trans H.out.1,f4.T.trans H.out.2.1,al.out _ (fun y=>?_),by omega⟩;rw[f4.mem,<-YK seed (q,p),List.take_length]
    case measure =>
     have:=ak.out.1;simp[intOf];omega
end
end
end Go.Proofs.YthejglbnkmimjaaGreat
