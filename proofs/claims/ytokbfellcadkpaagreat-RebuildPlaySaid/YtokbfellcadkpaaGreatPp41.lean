import Derived.Test.YtokbfellcadkpaaGreatPp40
import Derived.Test.YtokbfellcadkpaaGreatPp29
set_option linter.unusedVariables false
set_option maxRecDepth 100000
set_option maxHeartbeats 9000000
namespace Go.Proofs.YtokbfellcadkpaaGreat
open Tryz
section
open Go.RowKit Go.Shelf
structure vn(At:jL)(W:World)(gd gl gx b r:Nat)(S:IxS)(L:jN)(chs:List (List Tw))(D:jK)(A Q:List jJ)(M:j5)(F E:List Nat)(w:World):Prop where
 sx:jy At W gd gl gx r S L chs D (F++E) w
 rx:bR w W.heap.size b A Q M F
 apart:∀x∈F,x ∉ E
structure kT(At:jL)(W:World)(gd gl gx b r seed:Nat)(S:IxS)(L:jN)(chs:List (List Tw))(D:jK)(A Q:List jJ)(M:j5)(F E:List Nat)(w:World):Prop where
 du:vn At W gd gl gx b r S L chs D A Q M F E w
 rb:yr seed S chs
 qw:jh A
 all:∀y,y∈A↔y∈vu seed (jO 0 chs)
theorem kT.sx{At:jL}{W:World}{gd gl gx b r seed:Nat}{S:IxS}{L:jN}{chs:List (List Tw)}{D:jK}{A Q:List jJ}{M:j5}{F E:List Nat}{w:World}(h:kT At W gd gl gx b r seed S L chs D A Q M F E w):jy At W gd gl gx r S L chs D (F++E) w:=h.du.sx
theorem kT.rx{At:jL}{W:World}{gd gl gx b r seed:Nat}{S:IxS}{L:jN}{chs:List (List Tw)}{D:jK}{A Q:List jJ}{M:j5}{F E:List Nat}{w:World}(h:kT At W gd gl gx b r seed S L chs D A Q M F E w):bR w W.heap.size b A Q M F:=h.du.rx
section
variable {At:jL}{W w w':World}{gd gl gx b r seed:Nat}{S S':IxS}{L L':jN}{chs chs':List (List Tw)}{D D':jK}{A Q A' Q':List jJ}{M M':j5}{F E E' B:List Nat}
theorem vn.lt(h:vn At W gd gl gx b r S L chs D A Q M F E w):∀x∈F++E,x<w.heap.size:=fun x a=>h.sx.lt x (qE _ a)
theorem vn.below(api:jM At)(h:vn At W gd gl gx b r S L chs D A Q M F E w)(a:Below w.heap.size w w'):vn At W gd gl gx b r S L chs D A Q M F E w':=⟨h.sx.below api a,h.rx.below a,h.apart⟩
theorem vn.less(h:vn At W gd gl gx b r S L chs D A Q M F E w)(d:∀x∈E',x∈E):vn At W gd gl gx b r S L chs D A Q M F E' w:=⟨h.sx.less (fun x a=>(qB.1 a).elim (qG _) (fun q=>qJ _ (d x q))),h.rx,fun x a f=>h.apart x a (d x f)⟩
theorem vn.more(api:jM At)(h:vn At W gd gl gx b r S L chs D A Q M F E w)(f:Below w.heap.size w w')(d:∀x∈B,w.heap.size<=x/\x<w'.heap.size):vn At W gd gl gx b r S L chs D A Q M F (B++E) w' :=
 ⟨(h.sx.more api f d).less (fun x a=>by
   rcases qB.1 a with k|k
   ·exact qJ _ (qG _ k)
   ·rcases qB.1 k with k|k
    ·exact qG _ k
    ·exact qJ _ (qJ _ k)),h.rx.below f,fun x a g=>by
   rcases qB.1 g with k|k
   ·have:=h.lt x (qG _ a);have:=d x k;omega
   ·exact h.apart x a k⟩
theorem vn.xJ(api:jM At)(h:vn At W gd gl gx b r S L chs D A Q M F E w)(f:jG B w w')(d:∀x∈B,x∈E/\W.heap.size<=x):vn At W gd gl gx b r S L chs D A Q M F E w' :=
 ⟨h.sx.xJ api f (fun x a=>⟨qJ _ (d x a).1,(d x a).2⟩) (fun x a=>qX a),h.rx.keep (jV.xB f (fun x a=>⟨h.lt x (qG _ a),fun g=>h.apart x a (d x g).1⟩)),h.apart⟩
theorem vn.step{d f:Nat}(h:vn At W gd gl gx b r S L chs D A Q M F E w)(hi:jy At W gd d f r S' L' chs' D' (F++E) w')(g:jV (F++E) w w'):vn At W gd d f b r S' L' chs' D' A Q M F E w'/\jV E w w' :=
 ⟨⟨hi,h.rx.keep (g.less (fun x a=>qG _ a)),h.apart⟩,g.less (fun x a=>qJ _ a)⟩
theorem vn.ref(api:jM At)(h:vn At W gd gl gx b r S L chs D A Q M F E w){v:Value}{e:Ending}(o:nU W.heap.size b v A' Q' M' F w e w'):e = .returned v/\∃F',vn At W gd gl gx b r S L chs D A' Q' M' F' E w'/\jV E w w':=by
 obtain⟨F',rfl,t,m,l⟩:=o;have i:=h.lt;obtain⟨y,C,z,G,g,-⟩:=h.rx.parts;have f:=g.2.1
 have s:∀x∈F',x ∉ E:=fun x a d=>by
  rcases l x a with k|k
  ·exact h.apart x k d
  ·have:=i x (qJ _ d);omega
 refine⟨rfl,F',⟨h.sx.xJ api m (fun x a=>?_) (fun x a=>?_),t,s⟩,jV.xB m (fun x a=>⟨i x (qJ _ a),fun d=>h.apart b f (by rw[<-qH.1 d];exact a)⟩)⟩
 ·rw[qH.1 a];exact⟨qG _ f,(g.2.2.2.2.2 b f).1⟩
 ·rcases qB.1 a with k|k
  ·rcases l x k with q|q
   ·exact qX (qG _ q)
   ·exact qY q
  ·exact qX (qJ _ k)
theorem vn.base(h:vn At W gd gl gx b r S L chs D A Q M F E w):W.heap.size<=w.heap.size:=h.sx.base.size
end
theorem Ql(seed:Nat):∀(l:List (Nat × Tw)),(∀x∈l,kr x.2=true)->(vu seed l).length<=8*l.length
 | [],_=>qK _
 | x::l,h=>by
   have ih:=Ql seed l (fun y d=>h y (qE _ d));have e:vu seed (x::l)=kV seed x++vu seed l:=rfl;rw[e,qI,qk];obtain⟨-,-,-,-,-,a⟩:=oN (h x qD);obtain⟨-,-,-,f,-⟩:=lh.1 a;have:(kV seed x).length=(bgL x.2).length:=(by unfold kV;rw[qj,List.length_range]);omega
section
variable {At:jL}{W w w':World}{gd gl gx b r seed:Nat}{S:IxS}{L:jN}{chs:List (List Tw)}{D:jK}{A Q:List jJ}{M:j5}{F E E' B:List Nat}
theorem kT.has(h:kT At W gd gl gx b r seed S L chs D A Q M F E w)(y:jJ):y∈A↔yF S y:=by rw[h.all,h.rb.has]
theorem kT.len(h:kT At W gd gl gx b r seed S L chs D A Q M F E w):S.mem.length<=A.length/\(∀t∈S.T,t.l.length<=A.length)/\(∀ns,(ka S ns).length<=A.length)/\cQ S<=41*A.length:=by
 have f:=h.has;have ok:=h.sx.ok;have i:S.mem.length<=A.length:=lW ok.qw (fun x a=>(f x).2 (qX a));have g:∀t∈S.T,t.l.length<=A.length:=fun t d=>lW (ok.has t d).props.1 (fun x a=>(f x).2 (qY ⟨t,d,a⟩))
 refine⟨i,g,fun ns=>lW (Qz ok ns) (fun x a=>?_), ?_⟩
 ·obtain⟨t,d,-,a⟩:=rl.1 a;exact(f x).2 (qY ⟨t,d,a⟩)
 ·have m:∀T:List TbS,(∀t∈T,t.l.length<=A.length)->kv (T.map TbS.l)<=T.length*A.length:=by
   intro T
   induction T with
   | nil=>intro _;exact Nat.le_of_eq (by simp[kv])
   | cons t T v =>
     intro h;rw[List.map_cons,gO,qk,Nat.add_mul];have:=v (fun u s=>h u (qE _ s));have:=h t qD;omega
  have y:=m S.T g;have o:=ok.xE;have z:S.T.length*A.length<=40*A.length:=Nat.mul_le_mul_right _ o;unfold cQ;omega
theorem kT.below(api:jM At)(h:kT At W gd gl gx b r seed S L chs D A Q M F E w)(a:Below w.heap.size w w'):kT At W gd gl gx b r seed S L chs D A Q M F E w':=⟨h.du.below api a,h.rb,h.qw,h.all⟩
theorem kT.less(h:kT At W gd gl gx b r seed S L chs D A Q M F E w)(a:∀x∈E',x∈E):kT At W gd gl gx b r seed S L chs D A Q M F E' w:=⟨h.du.less a,h.rb,h.qw,h.all⟩
theorem kT.more(api:jM At)(h:kT At W gd gl gx b r seed S L chs D A Q M F E w)(d:Below w.heap.size w w')(a:∀x∈B,w.heap.size<=x/\x<w'.heap.size):kT At W gd gl gx b r seed S L chs D A Q M F (B++E) w':=⟨h.du.more api d a,h.rb,h.qw,h.all⟩
theorem kT.lt(h:kT At W gd gl gx b r seed S L chs D A Q M F E w):∀x∈E,x<w.heap.size:=fun x a=>h.sx.lt x (qE _ (qJ _ a))
theorem kT.base(h:kT At W gd gl gx b r seed S L chs D A Q M F E w):Below W.heap.size W w:=h.sx.base
end
section
variable {At:jL}(api:jM At)(nap:jm){W w w':World}{gd gl gx b r seed:Nat}{S:IxS}{L:jN}{chs:List (List Tw)}{D:jK}{A Q:List jJ}{M:j5}{F E E' B:List Nat}
include api nap
theorem qV7(h:kT At W gd gl gx b r seed S L chs D A Q M F E w)(l:D.count<=1000000)(C:A.length<=900)(x:Nat)(t:x<18446744073709551616)(a c:Int)(v:(Lit.int .i64 a).wf=true)(z:(Lit.int .i64 c).wf=true):
  Calls prog 72 #[ptr gx,.int .u64 (x:Nat),.int .i64 a,.int .i64 c] w fun e w'=>∃B n k,k<=200/\e = .returned (.tuple #[.slice B (kZ A x (max a 0) (kt c)).length n,.int .i64 0])/\jE w' w.heap.size (.slice B (kZ A x (max a 0) (kt c)).length n) (kZ A x (max a 0) (kt c)) /\
   kT At W gd gl gx b r seed S L chs { D with count:=D.count+k } A Q M F (jF (.slice B (kZ A x (max a 0) (kt c)).length n)++E) w'/\jV (F++E) w w':=by
 have G:=h.len;have e:=qKB h.sx.ok h.qw h.has x a c;have f:=qVF api nap h.sx l (by omega) x t a c v z;rw[e]at f;refine f.mono ?_;rintro e w'⟨B,n,k,o,rfl,i,m,g⟩;refine⟨B,n,k,o,rfl,i,⟨⟨m.less (fun y d=>?_),h.rx.keep (g.less fun y d=>qG _ d),fun y d s=>?_⟩,h.rb,h.qw,h.all⟩,g⟩;rotate_left
 ·rcases qB.1 s with q|q
  ·have:=(i.lt y (kG.1 q)).1;have:=h.du.lt y (qG _ d);omega
  ·exact h.du.apart y d q
 rcases qB.1 d with q|q
 ·exact qJ _ (qG _ q)
 ·rcases qB.1 q with q|q
  ·exact qG _ q
  ·exact qJ _ (qJ _ q)
omit api nap in
theorem qV8(h:kT At W gd gl gx b r seed S L chs D A Q M F E w)(d:A.length<=900)(x:Nat)(a c:Int):Calls prog 74 #[ptr b,.int .u64 (x:Nat),.int .i64 a,.int .i64 c] w (yd w (kZ A x (max a 0) (kt c))):=qKR h.rx (by omega) x a c
end
def cq: Array Value:=#[.string ⟨#[97]⟩,.string ⟨#[98]⟩,.string ⟨#[99]⟩,.string ⟨#[100]⟩]
def abS(j:Nat):Tw:=⟨#[97+UInt8.ofNat j]⟩
theorem Dv{w:World}{g:Nat}(h:jY w g 44 cq){j:Nat}(a:j<4):w.cell? ⟨g,j,none⟩=some (.string (abS j)):=by
 have:j=0∨j=1∨j=2∨j=3:=by omega
 rcases this with rfl|rfl|rfl|rfl
 ·exact h.cell 0
 ·exact h.cell 1
 ·exact h.cell 2
 ·exact h.cell 3
theorem qV9(j:Nat):(abS j).size<=maxLen:=by show 1<=_;decide
section
variable {At:jL}(api:jM At)(nap:jm){W w w':World}{gd gl gx b r seed:Nat}{S:IxS}{L:jN}{chs:List (List Tw)}{D:jK}{A Q:List jJ}{M:j5}{F E E' B:List Nat}
include api nap
theorem qVq(h:kT At W gd gl gx b r seed S L chs D A Q M F E w)(hc:D.count<=990000)(hA:A.length<=900)(ap:seed<18446744073709551616):
  Calls prog 19 #[ptr gx,ptr b,.int .u64 (seed:Nat)] w fun e w'=>∃k,k<=800/\e = .returned (.bool true)/\kT At W gd gl gx b r seed S L chs { D with count:=D.count+k } A Q M F E w'/\jV (F++E) w w':=by
 have hb:=(Below.refl w.heap.size w).alloc (qK _) (.cells cq 44);have C:jY (w.alloc (.cells cq 44)) w.heap.size 44 cq:=jY.new _ _ _;have U:=h.more api hb (B:=[w.heap.size]) (fun x a=>by rw[qH.1 a];exact⟨qK _,C.lt⟩);have f:=h.sx.lt;have O:=qQ (jV.qn hb (fun x a=>f x (qE _ a)):jV (F++E) w _);obtain⟨w1,am⟩:∃w1,w.alloc (.cells cq 44)=w1:=⟨_,rfl⟩
 rw[am]at C U O;have H1:=qQ U;have HB:=qQ C;clear hb C U h f;unfold cq at am;go_enter func19,ntmps19;go_wp2;go_loopw [8] (fun i wr=>∃j c:Nat,j<=4/\i = .int .i64 j/\c<=200*j/\kT At W gd gl gx b r seed S L chs { D with count:=D.count+c } A Q M F ([w.heap.size]++E) wr/\jV (F++E) w wr/\jY wr w.heap.size 44 cq) (fun i _=>4-(intOf i).toNat)
 case atStart=>exact⟨0,0,by omega,rfl,by omega,H1.out,O.out,HB.out⟩
 case round =>
  obtain⟨j,c,hj,rfl,au,d,hK,ak⟩:=hrel;have s:=qQ d;have T:=qQ hK;have K:=qQ ak;clear d hK ak H1 HB O;by_cases f:j<4
  ·have s1:(j:Int)<4:=(by omega);have k0:=Dv K.out f;have ah:=qQ f;have G:=(Below.refl wr.heap.size wr).alloc (qK _) (.cells #[.string ⟨#[]⟩,.string ⟨#[]⟩,.float .f64 0] 55);have V:=s.out.below api G;have P:=qQ (T.out.trans (jV.qn G (fun x a=>s.out.sx.lt x (qE _ ((qB.1 a).elim (qG _) (fun q=>qJ _ (qJ _ q)))))));have J:=qQ (K.out.below G);obtain⟨w2,aq⟩:∃w2,wr.alloc (.cells #[.string ⟨#[]⟩,.string ⟨#[]⟩,.float .f64 0] 55)=w2:=⟨_,rfl⟩
   rw[aq]at V P J;have H:=qQ V;have o:=qQ (GV seed (abS j) 0 (some ⟨wr.heap.size,0,none⟩) 1 1 0 w2 ap (qV9 j) (by decide) (by decide));unfold yd at o;rw[rW]at o;clear G V s T K;go_wp2_with fail;refine o.out.mono ?_;rintro e w3⟨A3,c3,rfl,r3,y⟩;have Y:=H.out.below api y;have ae:=qQ (P.out.trans (jV.qn y (fun x a=>H.out.sx.lt x (qE _ ((qB.1 a).elim (qG _) (fun q=>qJ _ (qJ _ q)))))));have ab:=qQ (J.out.below y);obtain⟨A',o',c',e',-,al⟩:=(jE.xQ r3).form;obtain⟨rfl,-,rfl⟩:=Value.slice.inj e';obtain⟨ob,rfl,-,g0,-,-⟩:=al 0 ⟨uq seed (abS j).data.toList,0+((0:Nat):Int),0⟩ rfl;simp only[Nat.zero_mul,Nat.add_zero]at g0;have hh:=Kz seed (abS j).data.toList;generalize uq seed (abS j).data.toList=hs at*;have ai:=qQ (qV7 api nap Y (by show D.count+c<=1000000;omega) hA hs hh 0 1073741824 (by decide) (by decide));have H3:=qQ Y;clear Y r3 y al e' H P J o k0;go_wp2_with fail;refine ai.out.mono ?_;rintro e w4⟨B4,n4,k4,av,rfl,r4,Z,aa⟩;have ac:=qQ (aa.qa ab.out (qJ _ (qG _ qD)));have af:=qQ (ae.out.trans (aa.less (fun x a=>(qB.1 a).elim (qG _) (fun q=>qJ _ (qJ _ q)))));have t:=qQ (qV8 Z hA hs 0 1073741824);have m:=qQ Z;have N:=qQ (jE.xQ r4);clear r4 Z aa ai H3 ae ab g0;obtain⟨R,d⟩:∃R,R=kZ A hs (max 0 0) (kt 1073741824):=⟨_,rfl⟩
   rw[<-d]at t N m;have aj:=qQ (show R.length<=900 by rw[d];unfold kZ;exact qO (List.length_filter_le _ _) hA);rw[<-d];clear d;unfold yd at t;generalize ar:R.length=rn at*;go_wp2_with fail;refine t.out.mono ?_;rintro e l⟨A5,c5,rfl,r5,g⟩;have h5:=m.out.below api g;have ad:=qQ (ac.out.below g);have ag:=qQ (af.out.trans (jV.qn g (fun x a=>m.out.sx.lt x (qE _ ((qB.1 a).elim (qG _) (fun q=>qJ _ (qJ _ (qJ _ q))))))));have v:=qQ (Sh (.slice B4 rn n4) (.slice A5 rn c5) R R l (N.out.below g (qK _)) (jE.xQ r5) (by have:=aj.out;omega) (by have:=aj.out;omega));have I:=qQ h5;clear h5 r5 g m ac af t N;rw[qA (rfl:R=R)]at v;unfold UG at v;go_wp2_with fail;refine v.out.mono ?_;rintro e w6⟨rfl,n6,rfl⟩;have z:Below l.heap.size l (l.drewN n6):=vo (Below.refl _ _) n6;generalize l.drewN n6=w6 at*;have H6:=qQ (I.out.below api z);have an:=qQ (ad.out.below z);have ao:=qQ (ag.out.trans (jV.qn z (fun x a=>I.out.sx.lt x (qE _ ((qB.1 a).elim (qG _) (fun q=>qJ _ (qJ _ (qJ _ q))))))));clear z I ad ag v;go_wp2_with fail;go_roundw
   case rel=>exact⟨j+1,c+k4,by have:=ah.out;omega,by go_num,by omega,by
    have:=H6.out.less (E':=[w.heap.size]++E) (fun x a=>qJ _ a);have e:D.count+(c+k4)=D.count+c+k4:=(by omega);rw[e];exact this,ao.out,an.out⟩
   case measure=>simp[intOf];have:=ah.out;omega
  ·obtain rfl:j=4:=(by omega);have s1:¬((4:Nat):Int)<4:=(by omega);clear f;go_wp2;go_ret;exact⟨c,by omega,rfl,s.out.less (fun x a=>qJ _ a),T.out⟩
end
def bS(laid:Bool)(seed:Nat)(D:jK)(S:IxS):Prop:=(laid=true/\uf D S)∨(laid=false/\jW D.l jC=none/\S.T=[]/\S.m=cJ seed)
structure RbB(i:Nat)(S:IxS)(chs:List (List Tw))(D:jK):Prop where
 next:S.m.next<=i
 xH:∃kf,S.T.length<=kf/\kf+(jO 0 chs).length<=i
 used:jA D.l<=15000*i
 count:D.count<=14000*i+1000
 cap:D.cap=1048576
 chunks:chs.length<=i
def RbC(i:Nat)(S:IxS)(chs:List (List Tw))(D:jK):Prop:=RbB i S chs D/\D.count<=14000*i
theorem RbC.same{i k:Nat}{S:IxS}{chs:List (List Tw)}{D:jK}(h:RbC i S chs D)(s:k<=1000):RbB i S chs { D with count:=D.count+k }:=by
 obtain⟨⟨a,d,f,m,g,l⟩,o⟩:=h;exact⟨a,d,f,by show D.count+k<=_;omega,g,l⟩
section
variable {At:jL}(api:jM At)(nap:jm){W w w':World}{gd gl gx b r seed:Nat}{S S':IxS}{L L':jN}{chs chs':List (List Tw)}{D D':jK}{A Q A' Q':List jJ}{M M':j5}{F F' E E' B:List Nat}
theorem kT.xK(h:kT At W gd gl gx b r seed S L chs D A Q M F E w){i:Nat}(a:RbB i S chs D)(hi:i<=60):S.T.length<=30:=by
 obtain⟨g,d,f⟩:=a.xH;have:=h.rb.xK;have:=List.length_filter_le (fun x:Nat × Tw=>decide ((x.1:Int)<S.m.check)) (jO 0 chs);omega
theorem kT.xx(h:kT At W gd gl gx b r seed S L chs D A Q M F E w){i:Nat}(a:RbB i S chs D)(hi:i<=60):A.length<=480:=by
 obtain⟨o,f,g⟩:=a.xH;have l:=Ql seed (jO 0 chs) h.rb.whole;have m:A.length<=(vu seed (jO 0 chs)).length:=lW h.qw (fun x d=>(h.all x).1 d);omega
include api
theorem qVx(h:vn At W gd gl gx b r S L chs D A Q M F E w){x:jJ}(g:kI x)(a:A.length<=10000)(d:Q.length<=10000):Calls prog 17 #[ptr b,kS x] w fun e w'=>e = .returned (err (uR x))/\∃F',vn At W gd gl gx b r S L chs D (dX A x) (dX Q x) M F' E w'/\jV E w w':=by
 refine(qKT h.rx g a d h.base).mono ?_;intro e w' f;obtain⟨rfl,F',i,l⟩:=h.ref api f;exact⟨rfl,F',i,l⟩
theorem qVz(h:vn At W gd gl gx b r S L chs D A Q M F E w){x:jJ}(g:kI x)(f:S.mem.length<=100000):Calls prog 18 #[ptr gx,kS x] w fun e w'=>e = .returned (err (uR x))/\vn At W gd gl gx b r (cS S x) L chs D A Q M F E w'/\jV E w w':=by
 refine(DI api h.sx g f).mono ?_;rintro e w'⟨rfl,a,d⟩;obtain⟨i,l⟩:=h.step a d;exact⟨rfl,i,l⟩
include nap
theorem qVj(iap:yn At)(h:kT At W gd gl gx b r seed S L chs D A Q M F E w){i:Nat}(a:RbB i S chs D)(hi:i<60){laid:Bool}(R:bS laid seed D S)(V:r<18446744073709551616):
  Calls prog 10 #[ptr gx,ptr gl] w fun e w'=>∃S' L' D',e = .returned (.int .i64 0)/\kT At W gd gl gx b r seed S' L' chs D' A Q M F E w'/\jV E w w'/\RbC (i+1) S' chs D'/\bS (laid||decide (0<S'.m.next)) seed D' S':=by
 obtain⟨ac,ad,ae,af⟩:=h.len;have hA:=h.xx a (by omega);have hT:=h.xK a (by omega);have H:=h.sx.ok.may;obtain⟨n,U⟩:∃n:Nat,S.m.next=(n:Nat):=⟨S.m.next.toNat,by have:=H.1;omega⟩
 have b1:=a.next;have b3:=a.used;have b4:=a.count;have b5:=a.cap;have b6:=a.chunks;obtain⟨I,O,b8⟩:=a.xH;refine(DM api nap iap h.sx (by omega) U (by omega) V (by omega)).mono ?_;rintro e w'⟨k,D',S',rfl,s,P,y,Z⟩;obtain⟨J,K⟩:=h.du.step s P;have aa:=y.count;have ab:=y.cap;rcases Z with⟨rfl,g,rfl,d,o⟩|⟨rfl,g,C,d,o,G,a7⟩|⟨rfl,g,C,d,o,G⟩
 ·refine⟨S',_,D',rfl,⟨J,h.rb,h.qw,h.all⟩,K,⟨⟨by omega,⟨I,O,by omega⟩,by omega,by omega,by omega,by omega⟩,by omega⟩, ?_⟩;rcases R with⟨rfl,z⟩|⟨rfl,z,w2,N⟩
  ·exact qX ⟨rfl,⟨Eq.trans d z.map,fun t v=>s.ok.has t v⟩⟩
  ·refine qY ⟨by rw[N];rfl, ?_,w2,N⟩;have e:=d;unfold dz at e;rw[z]at e;cases q:jW D'.l jC with
   | none=>rfl
   | some f=>rw[q]at e;cases e
 ·have ag:S'.m.next=S.m.next+1:=by rw[d];rfl
  have h0:=H.1;have Y:=h.rb.flush h.sx.xX y.has C d g o;have T:S.mem.length<=480:=by omega
  refine⟨S',_,D',rfl,⟨J,Y,h.qw,h.all⟩,K,⟨⟨by omega,⟨I+1,by omega,by omega⟩,by omega,by omega,by omega,by omega⟩,by omega⟩,qX ⟨?_,⟨G,fun t v=>s.ok.has t v⟩⟩⟩;rw[qA (by omega),Bool.or_true]
 ·exfalso;have T:S.mem.length<=480:=by omega
  omega
theorem qVk(iap:yn At)(h:kT At W gd gl gx b r seed S L chs D A Q M F E w){i:Nat}(a:RbB i S chs D)(hi:i<60){laid:Bool}(K:bS laid seed D S)(hr:r<18446744073709551616)(lev:Int)(am:0<=lev/\lev<=4):
  Calls prog 12 #[ptr gx,.int .i64 lev] w fun e w'=>∃k S' D',e = .returned (err k)/\(k=0∨k=4)/\kT At W gd gl gx b r seed S' L chs D' A Q M F E w'/\jV E w w'/\RbC (i+1) S' chs D'/\bS laid seed D' S':=by
 obtain⟨aj,ak,ab,al⟩:=h.len;have hA:=h.xx a (by omega);have hT:=h.xK a (by omega);have N:=h.sx.ok.may;obtain⟨n,hn⟩:∃n:Nat,S.m.next=(n:Nat):=⟨S.m.next.toNat,by have:=N.1;omega⟩
 have b1:=a.next;have b3:=a.used;have b4:=a.count;have b5:=a.cap;have b6:=a.chunks;obtain⟨P,Y,b8⟩:=a.xH
 obtain⟨g,O,ad⟩:∃g:Nat,ki S.m.lv lev=(g:Nat)/\(g=0∨g=4):=by
  have hv:yT S.m.lv=true:=qA N.2.2.2.2.1;unfold ki;rw[qZ (by rw[hv];simp;omega)];split
  ·exact⟨4,rfl,qY rfl⟩
  ·exact⟨0,rfl,qX rfl⟩
 have ag:=ab (js S.m.lv lev);refine(qVE api nap iap h.sx (by omega) hn (by omega) hr (by omega) lev (by omega) g O).mono ?_;rintro e w'⟨k,D',S',rfl,C,hk,o,aa,ac,af⟩;obtain⟨R,T⟩:=h.du.step C hk;have ah:=o.count;have ai:=o.cap;rcases af with⟨rfl,v,rfl,d,z⟩|⟨rfl,v,I,d,z,V⟩|⟨rfl,v,I,d,z,V⟩
 ·refine⟨k,S',D',rfl,ad,⟨R,h.rb,h.qw,h.all⟩,T,⟨⟨by omega,⟨P,Y,by omega⟩,by omega,by omega,by omega,by omega⟩,by omega⟩, ?_⟩;rcases K with⟨rfl,s⟩|⟨rfl,s,U,H⟩
  ·exact qX ⟨rfl,⟨Eq.trans d s.map,fun t G=>C.ok.has t G⟩⟩
  ·refine qY ⟨rfl, ?_,U,H⟩;have e:=d;unfold dz at e;rw[s]at e;cases q:jW D'.l jC with
   | none=>rfl
   | some f=>rw[q]at e;cases e
 ·have an:S'.m.next=S.m.next+1:=by rw[I];rfl
  have ae:=h.rb.merge o.has o.xK o.seed aa ac d;refine⟨0,S',D',rfl,qX rfl,⟨R,ae,h.qw,h.all⟩,T,⟨⟨by omega,⟨P,by omega,by omega⟩,by omega,by omega,by omega,by omega⟩,by omega⟩, ?_⟩;rcases K with⟨rfl,s⟩|⟨rfl,s,U,H⟩
  ·exact qX ⟨rfl,⟨z,fun t G=>C.ok.has t G⟩⟩
  ·exfalso;have Z:ki S.m.lv lev=0:=(by rw[O,v];rfl);have h2:=(nD Z).2.2.2.2;obtain⟨y,hy⟩:=List.exists_mem_of_length_pos h2;have J:=om y hy;rw[H]at J;cases J
 ·exfalso;omega
end
structure bT(At:jL)(W:World)(gd gl gx b r seed:Nat)(S0:IxS)(chs0:List (List Tw))(q:Nat)(p:Tw)(jx ja:Nat)(S:IxS)(L:jN)(chs:List (List Tw))(D:jK)(A Q:List jJ)(M:j5)(F E:List Nat)(w:World):Prop where
 du:vn At W gd gl gx b r S L chs D A Q M F E w
 rb:yr seed S0 chs0
 whole:kr p=true
 app:jO 0 chs=jO 0 chs0++[(q,p)]
 behind:kC chs0<=q
 end_ : q<=kC chs
 hx:∀y,yF S y↔yF S0 y∨y∈(kV seed (q,p)).take jx
 hf:∀y∈S.mem,y∈S0.mem∨y∈kV seed (q,p)
 hT:S.T=S0.T
 hm:S.m=S0.m
 qw:jh A
 ha:∀y,y∈A↔y∈vu seed (jO 0 chs0)∨y∈(kV seed (q,p)).take ja
theorem Dy{a:List jJ}{j:Nat}{x:jJ}(h:a[j]? = some x)(y:jJ):y∈a.take (j+1)↔y∈a.take j∨y=x:=by
 rw[List.take_add_one,h];simp
section
variable {At:jL}(api:jM At){W w w':World}{gd gl gx b r seed:Nat}{S0 S S':IxS}{chs0 chs:List (List Tw)}{q jx ja:Nat}{p:Tw}{L:jN}{D:jK}{A Q:List jJ}{M:j5}{F E E' B:List Nat}
theorem bT.more(api:jM At)(h:bT At W gd gl gx b r seed S0 chs0 q p jx ja S L chs D A Q M F E w)(d:Below w.heap.size w w')(a:∀x∈B,w.heap.size<=x/\x<w'.heap.size):bT At W gd gl gx b r seed S0 chs0 q p jx ja S L chs D A Q M F (B++E) w':=⟨h.du.more api d a,h.rb,h.whole,h.app,h.behind,h.end_,h.hx,h.hf,h.hT,h.hm,h.qw,h.ha⟩
theorem bT.done(h:bT At W gd gl gx b r seed S0 chs0 q p jx ja S L chs D A Q M F E w)(g:(kV seed (q,p)).length<=jx)(f:(kV seed (q,p)).length<=ja):kT At W gd gl gx b r seed S L chs D A Q M F E w:=by
 have a:(kV seed (q,p)).take jx=kV seed (q,p):=qd g;have d:(kV seed (q,p)).take ja=kV seed (q,p):=qd f;refine⟨h.du,h.rb.append h.whole h.app h.behind h.end_ (fun y=>by rw[h.hx,a]) h.hT h.hm h.hf,h.qw,fun y=>?_⟩;rw[h.ha,d,h.app,Ji]
theorem bT.lens(h:bT At W gd gl gx b r seed S0 chs0 q p jx ja S L chs D A Q M F E w)(m:(jO 0 chs).length<=60):A.length<=480/\S.mem.length<=480:=by
 have hw:∀x∈jO 0 chs,kr x.2=true:=fun x a=>by
  rw[h.app]at a;rcases qB.1 a with k|k
  ·exact h.rb.whole x k
  ·rw[qH.1 k];exact h.whole
 have g:=Ql seed (jO 0 chs) hw;have d:∀y,(y∈vu seed (jO 0 chs0)∨y∈kV seed (q,p))->y∈vu seed (jO 0 chs):=fun y f=>by rw[h.app,Ji];exact f
 have i:A.length<=(vu seed (jO 0 chs)).length:=lW h.qw (fun x a=>d x (((h.ha x).1 a).imp id (fun k=>List.mem_of_mem_take k)));have l:S.mem.length<=(vu seed (jO 0 chs)).length:=lW h.du.sx.ok.qw (fun x a=>d x ((h.hf x a).imp (fun k=>(h.rb.has x).1 (qX k)) id));omega
theorem bT.one(h:bT At W gd gl gx b r seed S0 chs0 q p jx ja S L chs D A Q M F E w){x:jJ}(a:x∈kV seed (q,p)):kI x/\mayE x=true:=by
 refine D9 (x:=(q,p)) h.whole ?_ x a;have d:=sV h.du.sx.xX;have:=h.end_;show q<=_;omega
include api
theorem qVv(h:bT At W gd gl gx b r seed S0 chs0 q p jx ja S L chs D A Q M F E w)(o:(jO 0 chs).length<=60)(s:Q.length<=9000){x:jJ}(f:(kV seed (q,p))[ja]? = some x):Calls prog 17 #[ptr b,kS x] w fun e w'=>e = .returned (.int .i64 0)/\∃A' Q' F',Q'.length<=Q.length+1/\bT At W gd gl gx b r seed S0 chs0 q p jx (ja+1) S L chs D A' Q' M F' E w'/\jV E w w':=by
 obtain⟨m,a⟩:=h.one (qM f);have t:=h.lens o;refine(qVx api h.du m (by omega) (by omega)).mono ?_;rintro e w'⟨rfl,F',d,k⟩;have g:uR x=0:=by unfold uR;rw[qV a]
 have i:dX A x=jt A x:=by unfold dX;rw[qV a]
 have l:dX Q x=jt Q x:=by unfold dX;rw[qV a]
 rw[g];rw[i,l]at d;refine⟨rfl,_,_,F',Yv Q x,⟨d,h.rb,h.whole,h.app,h.behind,h.end_,h.hx,h.hf,h.hT,h.hm,ZW h.qw x,fun y=>?_⟩,k⟩;rw[Z9,h.ha,Dy f,or_assoc]
theorem qVy(h:bT At W gd gl gx b r seed S0 chs0 q p jx ja S L chs D A Q M F E w)(m:(jO 0 chs).length<=60){x:jJ}(a:(kV seed (q,p))[jx]? = some x):Calls prog 18 #[ptr gx,kS x] w fun e w'=>e = .returned (.int .i64 0)/\∃S',bT At W gd gl gx b r seed S0 chs0 q p (jx+1) ja S' L chs D A Q M F E w'/\jV E w w':=by
 obtain⟨l,f⟩:=h.one (qM a);have s:=h.lens m;refine(qVz api h.du l (by omega)).mono ?_;rintro e w'⟨rfl,d,k⟩;have g:uR x=0:=by unfold uR;rw[qV f]
 have i:cS S x={ S with mem:=jt S.mem x }:=by unfold cS;rw[qV f]
 rw[g];rw[i]at d;refine⟨rfl,_,⟨d,h.rb,h.whole,h.app,h.behind,h.end_,fun y=>?_,fun y o=>?_,h.hT,h.hm,h.qw,h.ha⟩,k⟩
 ·rw[qKC,h.hx,Dy a,or_assoc]
 ·rcases pt o with k|rfl
  ·exact h.hf y k
  ·exact qY (qM a)
theorem qVu(nap:jm)(cap:yY)(h:kT At W gd gl gx b r seed S L chs D A Q M F E w){i:Nat}(d:RbB i S chs D)(hi:i<60){laid:Bool}(G:bS laid seed D S)(p:Tw)(H:p.size<=2000)(hw:kr p=true):
  Calls prog 15 #[ptr gl,.string p] w fun e w'=>∃q L' chs' D',e = .returned (.tuple #[.int .i64 (q:Nat),.int .i64 0])/\bT At W gd gl gx b r seed S chs q p 0 0 S L' chs' D' A Q M F E w'/\jV E w w'/\RbC (i+1) S chs' D'/\bS laid seed D' S/\q<=819200:=by
 have U:=d.used;have V:=d.count;have Y:=d.cap;have Z:=d.chunks;have T:=d.next;obtain⟨K,v,b8⟩:=d.xH;refine(DN api nap cap h.sx p H (by omega) (by omega)).mono ?_;rintro e w'⟨q,D',L',chs',rfl,s,C,a⟩;obtain⟨N,O⟩:=h.du.step s C;have o:=a.all;have ac:(jO 0 chs').length=(jO 0 chs).length+1:=by rw[o];simp
 have aa:kC chs'=q+(p.size+12):=by rw[<-a.log.endp,a.endp]
 have z:kC chs<=q:=by rw[<-h.sx.gl.endp];exact a.behind
 have ab:=sV a.xX;refine⟨q,L',chs',D',rfl,⟨N,h.rb,hw,o,z,by omega,fun y=>by simp,fun y J=>qX J,rfl,rfl,h.qw,fun y=>by rw[h.all];simp⟩,O,⟨⟨by omega,⟨K,v,by omega⟩, ?_, ?_, ?_, ?_⟩, ?_⟩, ?_,by omega⟩
 ·have:=a.used;omega
 ·have:=a.count;omega
 ·have:=a.cap;omega
 ·have:=a.jZ;omega
 ·have:=a.count;omega
 ·have g:=a.others jC Qb;rcases G with⟨rfl,m⟩|⟨rfl,m,P,R⟩
  ·exact qX ⟨rfl,⟨g.trans m.map,fun t I=>s.ok.has t I⟩⟩
  ·refine qY ⟨rfl, ?_,P,R⟩;rw[m]at g;cases e:jW D'.l jC with
   | none=>rfl
   | some f=>rw[e]at g;cases g
end
structure pK(At:jL)(W:World)(gd b seed:Nat)(S:IxS)(chs:List (List Tw))(D:jK)(A Q:List jJ)(M:j5)(F E:List Nat)(w:World):Prop where
 ds:DS At W gd D (F++E) w
 fl:dV (bJ chs.length) D
 xX:kx D chs
 rx:bR w W.heap.size b A Q M F
 apart:∀x∈F,x ∉ E
 rb:yr seed S chs
 qw:jh A
 all:∀y,y∈A↔y∈vu seed (jO 0 chs)
 zU:∃D0,jl D0 S
 lens:∀t∈S.T,t.l.length<=1000
def mV(seed:Nat)(chs:List (List Tw))(D:jK)(S:IxS):Prop:=uf D S∨Qh seed (kC chs) D
theorem jl.whole{a D:jK}{S:IxS}(ok:jl a S)(w:uf D S):jl D S:=⟨ok.may,ok.seed,ok.xY,ok.uniq,w.has,ok.keep,ok.qw,ok.ok,ok.mayE⟩
theorem bS.zM{laid:Bool}{seed:Nat}{D:jK}{S:IxS}{chs:List (List Tw)}(h:bS laid seed D S)(up:UpD D):mV seed chs D S:=by
 rcases h with⟨-,w⟩|⟨-,w,-,-⟩
 ·exact qX w
 ·exact qY (qX (Qd up.down w).1)
section
variable {At:jL}(api:jM At)(nap:jm){W w w':World}{gd gl gx b r seed:Nat}{S S':IxS}{L L':jN}{chs chs':List (List Tw)}{D D':jK}{A Q A' Q':List jJ}{M M':j5}{F F' E E' B:List Nat}
theorem kT.leave(h:kT At W gd gl gx b r seed S L chs D A Q M F E w){i:Nat}(a:RbB i S chs D)(hi:i<=60):pK At W gd b seed S chs D A Q M F E w:=by
 have d:=h.len;have l:=h.xx a hi;exact⟨h.sx.ix.ds.less (fun x g=>qE _ g),h.sx.dk.fl h.sx.ok,h.sx.xX,h.rx,h.du.apart,h.rb,h.qw,h.all,⟨D,h.sx.ok⟩,fun t f=>by have:=d.2.1 t f;omega⟩
theorem bS.spoilt{laid:Bool}{n:Tw}(N:bS laid seed D S)(o:cZ n D D')(ok:jl D S)(V:seed<18446744073709551616)(U:S.m.check<=(kC chs:Nat))(H:∀t∈S.T,t.l.length<=1000):mV seed chs D' S:=by
 rcases N with⟨-,w⟩|⟨-,w,-,-⟩
 ·rcases o.seen (X:=[]) w ok.may ok.seed (fun t v=>by have:=(ok.xU v).1;omega) with k|k|⟨k1,t,v,k2⟩
  ·exact qX k
  ·exact qY (qX k)
  ·obtain⟨O,y,Z⟩:=Je o.up.down ok.may ok.seed k1;refine qY (qY ⟨O,by rw[y];exact tX ok.may,fun x I s=>?_,qY (qY ⟨(t.n:Int), ?_,k2⟩)⟩)
   ·rw[y,sK]at I;obtain⟨u,d,rfl⟩:=(ok.xY x).1 I;have Y:=(ok.xU d).1;obtain⟨f,C,J,G⟩:=w.has u d;by_cases i:n=ptT u.n
    ·rcases o.one with q|⟨R,g,a,z,P⟩
     ·rw[i]at q;rw[dd o.up.down q];have:tgL ByteArray.empty=[]:=(by decide +kernel);simp only;rw[this];exact qF _
     ·rw[i]at a z;rw[C]at a;obtain rfl:=qg a;rw[cW o.up.down z];rcases DR J P with q|q
      ·rw[q,G];have:=H u d;omega
      ·exfalso;unfold jo at s;rw[cW o.up.down z,qZ (by rw[o.up.down];decide)]at s;simp[q]at s
    ·have K:jW D'.l (ptT u.n)=some f:=(by rw[o.other _ (fun q=>i q.symm)];exact C);rw[cW o.up.down K,G];have:=H u d;omega
   ·rw[y,sK];exact(ok.xY _).2 ⟨t,v,rfl⟩
 ·refine qY (qX (Qd o.up.down ?_).1);by_cases e:n=jC
  ·rcases o.one with q|⟨f,g,a,-⟩
   ·rw[e]at q;exact q
   ·rw[e,w]at a;cases a
  ·rw[o.other _ (fun q=>e q.symm)];exact w
include api nap
theorem qVg(cap:yY)(h:pK At W gd b seed S chs D A Q M F E w)(l:D.count<=800000000):Calls prog 8 #[ptr gd] w fun e w' =>
  ∃gl L' D',e = .returned (.tuple #[ptr gl,.int .i64 0])/\kM At W gd gl L' chs D' (F++E) w'/\pK At W gd b seed S chs D' A Q M F E w'/\jV (F++E) w w'/\ks D D'/\D'.count<=D.count+200:=by
 refine(qVO api nap cap h.ds h.fl h.xX (by omega)).mono ?_;rintro e w'⟨gl,D',rfl,m,a,f,i,g⟩;exact⟨gl,_,D',rfl,a,⟨a.st.1.less (fun x d=>qE _ d),a.fl,a.xX,h.rx.keep (f.less fun x d=>qG _ d),h.apart,h.rb,h.qw,h.all,h.zU,h.lens⟩,f,i,g⟩
omit api nap in
theorem uf.same(h:uf D S)(k:ks D D'):uf D' S:=⟨(k.data jC).trans h.map,fun t s=>by
 obtain⟨f,g,i,m⟩:=h.has t s;have e:=k.data (ptT t.n);rw[g]at e;obtain⟨d,o,a⟩:=Option.map_eq_some_iff.1 (e:(jW D'.l (ptT t.n)).map jU.data=some f.data);exact⟨d,o,by rw[a];exact i,by rw[a];exact m⟩⟩
omit api nap in
theorem mV.same(h:mV seed chs D S)(a:D.down=false)(k:ks D D'):mV seed chs D' S:=by
 obtain⟨i,l⟩:=qV5 a k;rcases h with w|n
 ·exact qX (w.same k)
 ·refine qY ?_;unfold Qh at n ⊢;rw[i,l];rcases n with n|⟨m,o,s,t⟩
  ·exact qX n
  ·refine qY ⟨m,o,fun x d f=>?_,t.imp id (Or.imp id (fun⟨x,d,g⟩=>⟨x,d,by rw[Jw a k];exact g⟩))⟩;rw[(Qf a k (ptT x)).1];exact s x d (by rw[<-Jw a k];exact f)
omit api nap in
theorem qVb(rapi:dY At)(s:kM At W gd gl L chs D (F++E) w)(h:pK At W gd b seed S chs D A Q M F E w)(C:mV seed chs D S)(G:seed<18446744073709551616)(o:r<18446744073709551616)(i:D.count<=800000000)(R:(jO 0 chs).length<=60):
  Calls prog 9 #[ptr gd,ptr gl,.int .u64 (seed:Nat),.float .f64 r] w fun e w'=>∃gx S' D' f,e = .returned (.tuple #[ptr gx,.bool f,.int .i64 0])/\kT At W gd gl gx b r seed S' L chs D' A Q M F E w'/\jV E w w'/\bS (!f) seed D' S'/\(uf D S->f=false)/\D'.cap=D.cap/\D'.count<=D.count+12400/\jA D'.l<=jA D.l/\(f=false->S'.m.next=S.m.next/\S'.T.length=S.T.length)/\(¬uf D S->f=true):=by
 have P:=Ql seed (jO 0 chs) h.rb.whole;by_cases hw:uf D S
 ·obtain⟨N,I⟩:=h.zU;have ok:=I.whole hw;refine(rapi.keep seed r S s ok h.rb hw (fun t H=>by have:=h.lens t H;omega) (by omega) i o).mono ?_;rintro e w'⟨gx,S',D',rfl,a,g,v⟩
  have z:S'.T.length=S.T.length:=by
   have y:=a.sx.ok.many;have O:=ok.many;have e:S'.m.lv.flatten=S.m.lv.flatten:=(by rw[v];exact sK S.m);rw[e]at y;omega
  refine⟨gx,S',D',false,rfl,⟨⟨a.sx,h.rx.keep (a.kept.less fun x d=>qG _ d),h.apart⟩,a.rb,h.qw,h.all⟩,a.kept.less (fun x d=>qJ _ d),qX ⟨rfl,g⟩,fun _=>rfl,a.cap,by have:=a.count;omega,a.used,fun _=>⟨by rw[v];rfl,z⟩,fun q=>absurd hw q⟩
 ·refine(rapi.zY seed r s h.rb.whole (C.resolve_left hw) (by omega) i G o).mono ?_;rintro e w'⟨gx,S',D',rfl,a,g,J,K⟩;exact⟨gx,S',D',true,rfl,⟨⟨a.sx,h.rx.keep (a.kept.less fun x d=>qG _ d),h.apart⟩,a.rb,h.qw,h.all⟩,a.kept.less (fun x d=>qJ _ d),qY ⟨rfl,g,J,K⟩,fun q=>absurd q hw,a.cap,by have:=a.count;omega,a.used,(fun q=>by cases q),fun _=>rfl⟩
end
theorem qVc: isC jC=false:=Qb
def cV(x:Tw):Bool:=decide (x=jC)||(ku x&&!decide (npK x=99))
theorem qVd{x:Tw}(h:cV x=true):isC x=false:=by
 cases q:isC x with
 | false=>rfl
 | true =>
   obtain⟨d,a⟩:=Js q;unfold cV at h;rw[a]at h;simp[(lB q).1]at h
theorem qVf{l:List Tw}{j:Nat}{x:Tw}(h:l[j]? = some x):(l.take (j+1)).filter cV=(l.take j).filter cV++(if cV x=true then [x] else []):=by
 rw[List.take_add_one,h,List.filter_append];by_cases q:cV x=true<;>simp[List.filter,q]
theorem qVh(a:World)(c:UInt8):RowB ((a.alloc (.cells #[.int .u8 (c.toNat:Int)] 5)).drew) a.heap.size 1 (fF [c]):=by
 refine⟨#[.int .u8 (c.toNat:Int)],5,(0,0),World.alloc_heap_new a _,qK 1,qX rfl,fun i d=>?_⟩;obtain rfl:i=0:=by omega
 rfl
theorem qVl{s:Tw}(h:s.size=1):∃c:UInt8,s=⟨#[c]⟩:=by
 have a:s.data.toList.length=1:=h
 match e:s.data.toList,a with
 | [c],_=>exact⟨c,ByteArray.ext (Array.toList_inj.1 e)⟩
section
variable {At:jL}(api:jM At)(nap:jm){W w w':World}{gd:Nat}{X:List Tw}{D:jK}{E:List Nat}
def qVm(At:jL)(W:World)(gd:Nat)(D:jK)(E:List Nat)(w:World)(e:Ending)(w':World):Prop :=
 ∃n c D',e = .returned (.tuple #[])/\isC n=false/\cZ n { D with count:=c } D'/\c<=D.count+1/\DS At W gd D' E w'/\jV E w w'
include api nap
theorem qVn(h:DS At W gd D E w)(fl:dV X D)(hc:D.count<=900000000)(a k:Nat)(ha:a<256)(hk:k<256):
  Calls prog 13 #[ptr gd,.int .u8 (a:Nat),.int .u8 (k:Nat)] w (qVm At W gd D E w):=by
 have ok:=fl.up.wf;have ax:=h.names api;have au:=qQ (Bz api h ok);have o:=qQ fl;have bv:=qQ h.lt;have aw:(D.l.map jU.name).length<=400:=by rw[qj];exact ok.many
 obtain⟨y,av⟩:∃y,D.l.map jU.name=y:=⟨_,rfl⟩
 rw[av]at ax aw au;have a2:=qQ av;have aG:=qQ ax;have aZ:=qQ aw;clear h fl ax aw av ok;go_enter func13,ntmps13;go_wp2_with fail;refine au.out.mono ?_;rintro e V⟨v,B,rfl,hs,aL,aO,hB⟩;have aE:=qQ aO;have ar:=qQ (aL.less (fun x s=>qJ _ s):DS At W gd D E V);obtain⟨T,os,cs,rfl,ms,ae⟩:=hs.cell;unfold maxLen at ms
 have HC:=qQ (fun d (G:Below V.heap.size V d) (i:Nat) (x:Tw) (s:y[i]? = some x)=>(by
  obtain⟨b,e1,e2⟩:=ae i x s;exact⟨b,e1,(G.cell (p:=⟨b,os+i,none⟩) (World.block_lt_of_cell? _ _ e2)).trans e2⟩:∃b,T=some ⟨b,os,none⟩/\d.cell? ⟨b,os+i,none⟩=some (.string x)))
 obtain⟨N,hN⟩:∃N,N=y.length:=⟨_,rfl⟩
 have HN:=qQ hN;have a0:=qQ (show N<=400 by rw[hN];exact aZ.out);rw[<-hN]at ms ⊢;clear hs aL aO hB ae hN au;go_wp2;go_loopg [7,8] N (fun g u i wr=>∃(j:Nat) (A5:Option Addr) (t c5:Nat),j+g=N/\i = .int .i64 j/\u = .slice A5 t c5/\t=((y.take j).filter cV).length/\uA wr V.heap.size (.slice A5 t c5) ((y.take j).filter cV)/\Below V.heap.size V wr)
 case atStart=>exact⟨0,none,0,0,by omega,rfl,rfl,rfl,uA.nil _ _,Below.refl _ _⟩
 case round =>
  obtain⟨j,A5,t,c5,b4,rfl,rfl,U,aQ,aJ⟩:=hrel;have ad:=qQ U;have am:=qQ aQ;have K:=qQ aJ;have aY:=qQ (show t<=400 by rw[U];exact qO (List.length_filter_le _ _) (by rw[qS];have:=a0.out;omega));clear aQ aJ U;by_cases aN:j<N
  case neg =>
   obtain rfl:j=N:=(by omega);have bp:¬(j:Int)<(j:Int):=(by omega);have hr:=am.out;have U:=ad.out;rw[show y.take j=y by rw[HN.out,List.take_length]]at hr U;obtain⟨FL,hFL⟩:∃FL,FL=y.filter cV:=⟨_,rfl⟩
   rw[<-hFL]at hr U;have aF:=qQ (fun x (s:x∈FL)=>(by rw[hFL]at s;exact⟨(List.mem_filter.1 s).2,aG.out x (List.mem_filter.1 s).1,by rw[<-a2.out]at s;exact YA (List.mem_filter.1 s).1⟩:cV x=true/\x.size<=maxLen/\∃f,jW D.l x=some f));obtain⟨T5,o5,d5,q5,-,aK⟩:=hr.xQ.cell;obtain⟨rfl,q6,rfl⟩:=Value.slice.inj q5;have Y:=qQ (ar.out.below api K.out);have ab:=qQ (aE.out.trans (jV.qn K.out ar.out.lt));have a1:=qQ U;clear hr hFL q5 q6 am K ad ar aE U;cases gk with
   | succ gj=>omega
   | zero =>
   by_cases h0:t=0
   ·subst h0;go_wp2;go_end0;exact⟨jC,D.count,D,rfl,qVc,cZ.refl o.out.up o.out.nodup,by omega,Y.out,ab.out⟩
   ·have hm:a%t<t:=Nat.mod_lt _ (by omega);obtain⟨x,s⟩:∃x,FL[a%t]? = some x:=⟨_,qC (by rw[<-a1.out];exact hm)⟩
    obtain⟨b,rfl,k0⟩:=aK _ x s;have bi:=aF.out x (qM s);have b_:¬(t:Int)=0:=(by omega);have b7:(a:Int)%(t:Int)=((a%t:Nat):Int):=rfl;obtain⟨aS,af,f,hf⟩:=bi;have bm:f.data.size<=1048576:=qO (s8 (VY hf)) (qO o.out.up.wf.used o.out.up.wf.cap);have ap:=Y.out.size api o.out.up.wf x af;rw[nP o.out.up.down hf]at ap
    have al:=qQ (fun d (G:Below wr.heap.size wr d) (p i:Nat) (a8:p+i<=f.data.size)=>(by
     have h1:=(Y.out.below api G).qi api (fun F hF=>api.read x (p:Nat) (i:Nat) hF o.out.up.wf.ok (by omega) (bE (by omega)) (bE (by omega)) af);rw[sz o.out.up.down hf a8]at h1;exact h1:Calls prog 51 #[ptr gd,.string x,.int .i64 (p:Nat),.int .i64 (i:Nat)] d (yX At W gd (.tuple #[.string (f.data.extract p (p+i)),.int .i64 0]) { D with count:=D.count+1 } E d)))
    have aq:=qQ (fun(p:Nat) (hp:p<=10000000)=>(Y.out.qi api (fun F hF=>api.cut x (p:Nat) hF o.out.up.wf.ok (bE (by omega)) af):Calls prog 53 #[ptr gd,.string x,.int .i64 (p:Nat)] wr (yX At W gd (err (gA D x (p:Nat)).1) (gA D x (p:Nat)).2 E wr)));have ai:=qQ (Y.out.qi api (fun F hF=>api.delete x hF o.out.up.wf.ok af):Calls prog 54 #[ptr gd,.string x] wr (yX At W gd (err (j6 D x).1) (j6 D x).2 E wr));have ao:=qQ (qVd aS);obtain⟨z,hz⟩:∃z,f.data.size=z:=⟨_,rfl⟩
    rw[hz]at ap bm;have HZ:=qQ hz;have a5:=qQ ap;have aU:¬(z:Int)+1=0:=(by omega);clear s aK aF ap hz aS hf;generalize a%t=m at*;go_wp2_with fail;refine a5.out.mono ?_;rintro e w4⟨rfl,rfl⟩;have h3:k%3=0∨k%3=1∨k%3=2:=(by omega);rcases h3 with h3|h3|h3
    ·have t3:(k:Int)%3=0:=(by omega);have b6:(k:Int)%((z:Int)+1)=((k%(z+1):Nat):Int):=(by simp);have b8:(k:Int).tmod ((z:Int)+1)=((k%(z+1):Nat):Int):=rfl;have hp:k%(z+1)<=z:=(by have:=Nat.mod_lt k (show 0<z+1 by omega);omega);have aj:=qQ (fun c=>D7 (n:=x) o.out.up o.out.nodup (k%(z+1)) c);generalize k%(z+1)=p at*;by_cases ay:p<z
     ·have a7:min (1:Int) ((z:Int)-(p:Int))=1:=(by omega);have ak:=qQ (show ∀d,Below wr.heap.size wr d->Calls prog 51 #[ptr gd,.string x,.int .i64 (p:Nat),.int .i64 1] d (yX At W gd (.tuple #[.string (f.data.extract p (p+1)),.int .i64 0]) { D with count:=D.count+1 } E d) from fun d G=>al.out d G p 1 (by rw[HZ.out];omega));have a4:=qQ ay;have a9:IntKind.i64.wrap ((z:Int)+1)=(z:Int)+1:=(by rw[IntKind.wrap_i64];omega);have a_:IntKind.i64.wrap ((z:Int)-(p:Int))=(z:Int)-(p:Int):=(by rw[IntKind.wrap_i64];omega);have ba:IntKind.i64.wrap (k:Int)=(k:Int):=(by rw[IntKind.wrap_i64];omega);have bb:IntKind.i64.wrap (p:Int)=(p:Int):=(by rw[IntKind.wrap_i64];omega);have bk:((z:Int)+1==0)=false:=qv.2 aU;clear al aq ai ay;go_upto_region 14 with fail
      go_region_held3 (fun d=>True)
       (first | trivial | fail)
       (first
       | (go_at_call 51;((with_reducible refine(ak.out _ (Below.drew (Below.refl _ _))).mono ?_);rintro e Z⟨rfl,H,I⟩))
       | fail)
      have C:=qQ (qU H I);have aR:(f.data.extract p (p+1)).size=1:=(by rw[qT,HZ.out];have:=a4.out;omega);obtain⟨c0,ae⟩:=qVl aR;rw[ae];have ts:((⟨#[c0]⟩:Tw).toList==[])=false:=(by rw[Lib.toList_data];rfl);obtain⟨zz,aV⟩:∃zz,bits .xor .u8 (c0.toNat:Int) (bits .or .u8 (a:Int) 1)=IntKind.u8.wrap zz:=⟨_,rfl⟩
      obtain⟨c,b0⟩:∃c:UInt8,bits .xor .u8 (c0.toNat:Int) (bits .or .u8 (a:Int) 1)=(c.toNat:Int):=⟨UInt8.ofNat (zz%256).toNat,by rw[aV,IntKind.wrap_u8,UInt8.toNat_ofNat',show(2:Nat) ^ 8=256 from rfl];omega⟩
      have b1:=Qt (qVh Z c) rfl 1;have a6:0<(⟨#[c0]⟩:Tw).size:=qR Nat.zero_lt_one (qK 1);have b2:(⟨#[c0]⟩:Tw)[0]'a6=c0:=rfl;have aI:=qQ (fun(d:World) (G:Below Z.heap.size Z d)=>((C.out.1.below api G).qi api (fun F hF=>api.ze x (p:Nat) ⟨#[c]⟩ hF (o.out.up.count _).wf.ok (bE (by omega)) (by show 1<=1048576;omega) af):Calls prog 52 #[ptr gd,.string x,.int .i64 (p:Nat),.string ⟨#[c]⟩] d (yX At W gd (err (gW { D with count:=D.count+1 } x (p:Nat) ⟨#[c]⟩).1) (gW { D with count:=D.count+1 } x (p:Nat) ⟨#[c]⟩).2 E d)));have a3:=qQ (D7 (n:=x) (D:={ D with count:=D.count+1 }) (o.out.up.count _) o.out.nodup p c);clear H I aR ae aV;go_upto_region 16 with fail
      go_region_held_law (fun d=>True)
       (first | trivial | fail)
       (first
       | (go_at_call 52;((with_reducible refine(aI.out _ (Below.drew (bd (Below.refl _ _) _))).mono ?_);rintro e w6⟨rfl,aM,aP⟩)))
      all_goals
       have aD:=qQ (qU aM aP);clear aM aP aI;go_wp2;go_end0;exact⟨x,D.count+1,_,rfl,ao.out,a3.out,by omega,aD.out.1,ab.out.trans ((jV.qn (Below.drew (Below.refl _ _)) Y.out.lt).trans (C.out.2.trans ((jV.qn (Below.drew (bd (Below.refl _ _) _)) C.out.1.lt).trans aD.out.2)))⟩
     ·obtain rfl:p=z:=(by omega);have a7:min (1:Int) 0=0:=(by omega);have b9:IntKind.i64.wrap 0=0:=(by rw[IntKind.wrap_i64];omega);have ak:=qQ (show ∀d,Below wr.heap.size wr d->Calls prog 51 #[ptr gd,.string x,.int .i64 (p:Nat),.int .i64 0] d (yX At W gd (.tuple #[.string (f.data.extract p (p+0)),.int .i64 0]) { D with count:=D.count+1 } E d) from fun d G=>al.out d G p 0 (by rw[HZ.out];omega))
      have he:f.data.extract p (p+0)=ByteArray.empty:=by
       rw[Nat.add_zero];exact ByteArray.ext (Array.eq_empty_of_size_eq_zero (by have:(f.data.extract p p).size=0:=(by rw[qT];omega);exact this))
      rw[he]at ak;have a9:IntKind.i64.wrap ((p:Int)+1)=(p:Int)+1:=(by rw[IntKind.wrap_i64];omega);have a_:IntKind.i64.wrap ((p:Int)-(p:Int))=(p:Int)-(p:Int):=(by rw[IntKind.wrap_i64];omega);have ba:IntKind.i64.wrap (k:Int)=(k:Int):=(by rw[IntKind.wrap_i64];omega);have bb:IntKind.i64.wrap (p:Int)=(p:Int):=(by rw[IntKind.wrap_i64];omega);have bk:((p:Int)+1==0)=false:=qv.2 aU;clear al aq ai ay he;go_upto_region 14 with fail
      go_region_held3 (fun d=>True)
       (first | trivial | fail)
       (first
       | (go_at_call 51;((with_reducible refine(ak.out _ (Below.drew (Below.refl _ _))).mono ?_);rintro e Z⟨rfl,H,I⟩))
       | fail)
      have C:=qQ (qU H I);have ts:(ByteArray.empty.toList==[])=true:=(by rw[Lib.toList_data];rfl);clear H I;go_wp2;go_end0;exact⟨x,D.count+1,_,rfl,ao.out,cZ.refl (o.out.up.count _) o.out.nodup,by omega,C.out.1,ab.out.trans ((jV.qn (Below.drew (Below.refl _ _)) Y.out.lt).trans C.out.2)⟩
    ·have t3:(k:Int)%3=1:=(by omega);have b5:(k:Int)*7%((z:Int)+1)=((k*7%(z+1):Nat):Int):=(by simp);have hp:k*7%(z+1)<=z:=(by have:=Nat.mod_lt (k*7) (show 0<z+1 by omega);omega);have aA:=qQ (aq.out (k*7%(z+1)) (by omega));have aj:=qQ (qVT (n:=x) o.out.up o.out.nodup (k*7%(z+1)));generalize k*7%(z+1)=p at*;go_wp2_with fail;refine aA.out.mono ?_;rintro e Z⟨rfl,H,I⟩;have C:=qQ (qU H I);clear H I aA;go_wp2;go_end0;exact⟨x,D.count,_,rfl,ao.out,aj.out,by omega,C.out.1,ab.out.trans C.out.2⟩
    ·have t3:(k:Int)%3=2:=(by omega);have aj:=qQ (qV0 (n:=x) o.out.up o.out.nodup);go_wp2_with fail;refine ai.out.mono ?_;rintro e Z⟨rfl,H,I⟩;have C:=qQ (qU H I);clear H I ai;go_wp2;go_end0;exact⟨x,D.count,_,rfl,ao.out,aj.out,by omega,C.out.1,ab.out.trans C.out.2⟩
  have bp:(j:Int)<(N:Int):=by omega
  obtain⟨x,s⟩:∃x,y[j]? = some x:=by
   rw[HN.out]at aN;exact⟨y[j],qC aN⟩
  have aT:=aG.out x (qM s);obtain⟨b,e1,e2⟩:=HC.out wr K.out j x s;subst e1;have an:=qQ (qVf s);have HP:=qQ (nap.parse x wr aT);have aX:=qQ (fun d G=>(by obtain⟨b',q1,q2⟩:=HC.out d G j x s;obtain⟨rfl,-⟩:=Addr.mk.inj (qg q1);exact q2:d.cell? ⟨b,os+j,none⟩=some (.string x)):∀d,Below V.heap.size V d->d.cell? ⟨b,os+j,none⟩=some (.string x));clear s aT;cases gk with
  | zero=>omega
  | succ gj =>
  go_wp2_with fail;refine HP.out.mono ?_;rintro e w3⟨rfl,b3⟩;have e3:=aX.out w3 (K.out.trans (b3.mono K.out.size));have aH:=qQ (am.out.below b3 (qK _));have ah:=qQ (K.out.trans (b3.mono K.out.size));clear b3 am K e2 HP;have aa:cV x=(decide (x=jC)||(ku x&&!decide (npK x=99))):=rfl;by_cases J:cV x=true
  ·have O:=an.out;rw[qV J]at O;obtain⟨Z,u5,f1,⟨A6,c6,rfl,f2⟩,f3⟩:=JS (x:=x) aH.out ad.out (by have:=aY.out;omega) ah.out.size 103;rw[<-O]at f2;have ac:=qQ (show t+1=((y.take (j+1)).filter cV).length by rw[O,qI,<-ad.out];rfl);have aB:=qQ f1;have P:=qQ f2;have aC:=qQ (ah.out.trans f3);clear f1 f2 f3 O an;by_cases R:x=jC
   ·have ag:x.toList=[109,97,112]:=(by rw[Lib.toList_data,R];rfl);have tn:(x.toList==[109,97,112])=true:=(by rw[ag];rfl);clear R aa J;go_wp2_with (first | (at_builtin;refine yI rfl _ _ rfl rfl rfl aB.out ?_) | fail);go_roundg gj
    case measure=>omega
    case rel=>exact⟨j+1,A6,t+1,c6,by omega,by go_num,by first | rfl | go_num,ac.out,P.out,aC.out⟩
   ·have ag:¬x.toList=[109,97,112]:=fun h=>R (by rw[Lib.toList_data]at h;exact ByteArray.ext (Array.toList_inj.1 h))
    have tn:(x.toList==[109,97,112])=false:=qv.2 ag
    have h2:ku x=true/\npK x≠99:=by
     rw[aa,qW R,Bool.false_or,Bool.and_eq_true]at J;exact⟨J.1,by simpa using J.2⟩
    have o1:=h2.1;have o2:¬((npK x:Nat):Int)=99:=fun e=>h2.2 (by omega)
    clear R aa J h2;generalize ku x=aW at*;generalize npK x=kd at*;subst o1;go_wp2_with (first | (at_builtin;refine yI rfl _ _ rfl rfl rfl aB.out ?_) | fail);go_roundg gj
    case measure=>omega
    case rel=>exact⟨j+1,A6,t+1,c6,by omega,by go_num,by first | rfl | go_num,ac.out,P.out,aC.out⟩
  ·have O:=an.out;rw[qZ J,List.append_nil]at O;have P:=aH.out;rw[<-O]at P;have ac:=qQ (show t=((y.take (j+1)).filter cV).length by rw[O];exact ad.out);have P:=qQ P;clear O;have R:¬x=jC:=fun e=>J (by rw[aa,qA e];rfl)
   have ag:¬x.toList=[109,97,112]:=fun h=>R (by rw[Lib.toList_data]at h;exact ByteArray.ext (Array.toList_inj.1 h))
   have tn:(x.toList==[109,97,112])=false:=qv.2 ag;have az:ku x=true->npK x=99:=fun h1=>Classical.byContradiction fun h2=>J (by rw[aa,h1,qW h2];simp)
   clear aa J R an;generalize ku x=aW at*;generalize npK x=kd at*;cases aW with
   | false =>
     clear az;go_wp2_with fail;go_roundg gj
     case measure=>omega
     case rel=>exact⟨j+1,A5,t,c5,by omega,by go_num,by first | rfl | go_num,ac.out,P.out,ah.out⟩
   | true =>
     obtain rfl:=az rfl;clear az;go_wp2_with fail;go_roundg gj
     case measure=>omega
     case rel=>exact⟨j+1,A5,t,c5,by omega,by go_num,by first | rfl | go_num,ac.out,P.out,ah.out⟩
end
theorem qVp{w:World}{u:Value}{l:List jg}(h:uO w u l):∃A c,u = .slice A l.length c:=by
 rcases h with⟨rfl,a,c,rfl⟩|⟨-,b,off,cap,rfl,-⟩
 ·exact⟨a,c,rfl⟩
 ·exact⟨_,cap,rfl⟩
theorem qVr(seed:Nat)(x:Rec):(kV seed x).length=(bgL x.2).length:=by unfold kV;rw[qj,List.length_range]
theorem Du{seed q:Nat}{p:Tw}{k:Nat}(a:k<(bgL p).length):(kV seed (q,p))[k]? = some ⟨uq seed (bgS p).data.toList,bgF p+(k:Nat),(q:Nat)⟩:=by
 unfold kV;rw[qu,List.getElem?_range a];rfl
theorem qVs{a:List jJ}{j:Nat}{x:jJ}(h:a[j]? = some x)(y:jJ):y∈a.take (j+1)↔y∈a.take j∨y=x:=by
 rw[List.take_add_one,h];simp
structure nW(seed q:Nat)(p:Tw)(k:Nat)(S S':IxS):Prop where
 m:S'.m=S.m
 T:S'.T=S.T
 len:S'.mem.length<=S.mem.length+k
 mem:∀y,y∈S'.mem↔y∈S.mem∨y∈(kV seed (q,p)).take k
theorem nW.zero(seed q:Nat)(p:Tw)(S:IxS):nW seed q p 0 S S:=⟨rfl,rfl,qK _,fun y=>by simp⟩
section
variable {At:jL}(api:jM At){w0 w:World}{gd gl gx r seed q k:Nat}{S S':IxS}{L:jN}{chs:List (List Tw)}{D:jK}{E:List Nat}{p:Tw}
include api in
theorem qVt(h:jy At w0 gd gl gx r S' L chs D E w)(f:nW seed q p k S S'){a:Nat}{v:Int}(s:(kV seed (q,p))[k]? = some ⟨a,v,(q:Nat)⟩)(ok:kI ⟨a,v,(q:Nat)⟩)(i:mayE ⟨a,v,(q:Nat)⟩=true)(C:S.mem.length+k<=100000):
  Calls prog 18 #[ptr gx,.agg #[.int .u64 (a:Nat),.int .i64 v,.int .i64 (q:Nat)]] w fun e w'=>e = .returned (.int .i64 0)/\∃g,jy At w0 gd gl gx r g L chs D E w'/\jV E w w'/\nW seed q p (k+1) S g:=by
 have z:=f.len;refine(DI api h ok (by omega)).mono ?_;rintro e w'⟨rfl,d,t⟩;have l:uR ⟨a,v,(q:Nat)⟩=0:=by unfold uR;rw[qV i]
 have o:cS S' ⟨a,v,(q:Nat)⟩={ S' with mem:=jt S'.mem ⟨a,v,(q:Nat)⟩ }:=by unfold cS;rw[qV i]
 rw[l];rw[o]at d;refine⟨rfl,_,d,t,⟨f.m,f.T, ?_,fun y=>?_⟩⟩
 ·have:=Yv S'.mem ⟨a,v,(q:Nat)⟩;show(jt _ _).length<=_;omega
 ·show y∈jt _ _↔_;rw[Z9,f.mem,qVs s,or_assoc]
include api in
theorem qVa(h:jy At w0 gd gl gx r S L chs D E w)(hs:seed<18446744073709551616)(hw:kr p=true)(hz:p.size<=2000)(hq:q<=2147483647)(hn:S.mem.length<=90000):
  Calls prog 91 #[ptr gx,.int .u64 (seed:Nat),.string p,.int .i64 (q:Nat)] w fun e w'=>e = .returned (.int .i64 0)/\∃S',jy At w0 gd gl gx r S' L chs D E w'/\jV E w w'/\nW seed q p (bgL p).length S S':=by
 obtain⟨-,-,-,e4,-,hb⟩:=oN hw;obtain⟨c1,c2,c3,c4,c5,c6,-⟩:=lh.1 hb
 have V:Hid (Calls prog 157 #[.string p] w fun e w'=>∃A c,e = .returned (.tuple #[.agg #[.string (bgS p),.int .i64 (bgF p),.slice A (bgL p).length c],.int .i64 0])/\Below w.heap.size w w'):=qQ ((qZv p w (by omega)).mono fun e w' hg=>by
  obtain⟨u,rfl,hu,m⟩:=hg;obtain⟨A,c,rfl⟩:=qVp hu;rw[e4];exact⟨A,c,rfl,m⟩)
 have HH:=qQ (fun W=>Li seed (bgS p) W hs (by unfold maxLen;omega));have ad:=qQ (fun k (J:k<(bgL p).length)=>qU (Du (seed:=seed) (q:=q) J) (D9 (seed:=seed) (x:=(q,p)) hw hq _ (qM (Du J))));have Z:=qQ h;generalize bgS p=s at*;generalize bgF p=f at*;generalize (bgL p).length=n at*;generalize uq seed s.data.toList=hh at*;clear h hw hb e4 c1 c2 hs hz hq;go_enter func91,ntmps91;go_wp2_with fail;refine V.out.mono ?_;rintro e g⟨A,c,rfl,m⟩;have H:=(Below.refl g.heap.size g).alloc (qK _) (.cells #[.string s,.int .i64 f,.slice A n c] 53);have l:=jY.new g 53 #[.string s,.int .i64 f,.slice A n c];have C:=Z.out.below api m;have G:=C.more api H (B:=[g.heap.size]) (fun x a=>by rw[qH.1 a];exact⟨qK _,l.lt⟩);have K:=(jV.qn m (fun x a=>Z.out.lt x (qE _ a)):jV E w g).trans (jV.qn H (fun x a=>C.lt x (qE _ a)));obtain⟨w2,af⟩:∃w2,g.alloc (.cells #[.string s,.int .i64 f,.slice A n c] 53)=w2:=⟨_,rfl⟩
 rw[af]at l G K;have k0:=l.cell 0;have k2:=l.cell 2;have R:=qQ G;have Y:=qQ K;have U:=qQ l;clear H l C G K m V;go_wp2_with fail;refine(HH.out _).mono ?_;rintro e w'⟨rfl,rfl⟩;go_wp2;go_loopw [28] (fun i wr=>∃(k:Nat) (S':IxS),k<=n/\i = .int .i64 k/\jy At w0 gd gl gx r S' L chs D ([g.heap.size]++E) wr/\jV E w wr/\jY wr g.heap.size 53 #[.string s,.int .i64 f,.slice A n c]/\nW seed q p k S S') (fun i _=>n-(intOf i).toNat)
 case atStart=>exact⟨0,S,qF _,rfl,R.out,Y.out,U.out,nW.zero seed q p S⟩
 case round =>
  obtain⟨k,S',J,rfl,z,y,t,o⟩:=hrel;by_cases ab:k<n
  ·have s1:(k:Int)<(n:Int):=(by omega);obtain⟨I,O,N⟩:=ad.out k ab;have k1:=t.cell 1;obtain⟨v,hv⟩:∃v,v=f+(k:Int):=⟨_,rfl⟩
   rw[show(f+((k:Nat):Int))=v from hv.symm]at I O N;have T:=qQ (qVt api z o I O N (by omega));have ew:IntKind.i64.wrap (f+(k:Int))=v:=(by rw[IntKind.wrap_i64];omega);have ae:=qQ y;have ac:=qQ t;clear z y t o I O N hv R Y U k0 k2;go_wp2_with fail;refine T.out.mono ?_;rintro e w3⟨rfl,S2,h3,P,aa⟩;have d:=qQ (qU h3 (qU aa (qU (ae.out.trans (P.less (fun x a=>qJ _ a))) (P.qa ac.out (qG _ qD)))));clear h3 P aa T k1;go_wp2;go_roundw
   case rel=>exact⟨k+1,S2,by omega,by go_num,d.out.1,d.out.2.2.1,d.out.2.2.2,d.out.2.1⟩
   case measure=>simp[intOf];omega
  ·obtain rfl:k=n:=(by omega);have s1:¬(k:Int)<(k:Int):=(by omega);have d:=qQ (qU (z.less (fun x a=>qJ _ a):jy At w0 gd gl gx r S' L chs D E wr) (qU y o));clear z y t o ab;go_wp2;go_ret;exact⟨rfl,S',d.out.1,d.out.2.1,d.out.2.2⟩
end
end
section
open Go.RowKit Go.Shelf
theorem qVe{seed:Nat}{s:Tw}{f:Int}{l:List jg}(h:vT s f l=0)(m:∀x∈l,x.b<18446744073709551616)(q:Nat):kr (uM s f.toNat l)=true/\kV seed (q,uM s f.toNat l)=br seed s f l.length (q:Nat):=by
 obtain⟨a,d,g,i⟩:=Tg h m;refine⟨a, ?_⟩;unfold kV br;simp only;rw[d,g,i]
def evT: jg:=⟨⟨#[116]⟩,⟨#[]⟩,0⟩
theorem qVi: rj evT:=⟨by decide,by decide,by decide⟩
theorem qVo: gT evT=0:=by decide
def gY(n:Nat):List jg:=List.replicate n evT
theorem fD(n:Nat):(gY n).length=n:=List.length_replicate
theorem Qm{n:Nat}{x:jg}(h:x∈gY n):x=evT:=(List.mem_replicate.1 h).2
theorem qVw(n:Nat):gY (n+1)=gY n++[evT]:=List.replicate_succ'
theorem qYQ{n:Nat}:∀x∈gY n,x.b<18446744073709551616:=fun x a=>by rw[Qm a];decide
def nA(s:Tw)(f n:Nat):Tw:=uM s f (gY n)
theorem Dg{s:Tw}{f n:Nat}(a:1<=s.size)(d:s.size<=32)(g:1<=n)(i:n<=8)(m:f<=1000000):vT s (f:Int) (gY n)=0:=lh.2 ⟨a,d,by rw[fD];exact g,by rw[fD];exact i,by omega,by rw[fD];omega,fun x l=>by rw[Qm l];exact qVo⟩
theorem KQ{s:Tw}{f n:Nat}(i:1<=s.size)(l:s.size<=32)(m:1<=n)(o:n<=8)(t:f<=1000000)(seed q:Nat):kr (nA s f n)=true/\kV seed (q,nA s f n)=br seed s (f:Int) n (q:Nat)/\(nA s f n).size<=2000:=by
 have d:=Dg i l m o t;obtain⟨a,b⟩:=qVe (seed:=seed) d qYQ q;rw[qh,fD]at b;rw[qh]at a;have g:=(Tz d).2;rw[qh]at g;exact⟨a,b,g⟩
theorem Db{s:Tw}{f n:Nat}(d:1<=s.size)(g:s.size<=32)(i:1<=n)(l:n<=8)(m:f<=1000000){v:Value}{w:World}(h:uO w v (gY n)):
  Calls prog 14 #[.agg #[.string s,.int .i64 (f:Nat),v]] w fun e w'=>e = .returned (.tuple #[.string (nA s f n),.int .i64 0])/\Below w.heap.size w w':=by
 have a:=Dg d g i l m;have:=qJj s (f:Int) v (gY n) w ⟨by omega,bE (by omega),h,by rw[fD];omega,fun x o=>by rw[Qm o];exact qVi⟩;unfold JY uv at this;rw[qV a,a,qh]at this;exact this
abbrev KX(w:World)(base:Nat)(v:Value)(l:List jg):Prop:=w.ownsRow base 55 3 v l.length (l.flatMap cM)
theorem qYX(w:World):dg (w.alloc (.cells #[.string ⟨#[116]⟩,.string ⟨#[]⟩,.float .f64 0] 55)) 3 (.slice (some ⟨w.heap.size,0,none⟩) 1 1) 1 (cM evT):=by
 have B:=jY.new w 55 #[.string ⟨#[116]⟩,.string ⟨#[]⟩,.float .f64 0];refine⟨rfl,qY ⟨_,_,rfl,fun j u a=>?_⟩⟩
 match j,a with
 | 0,a=>obtain rfl:=qg a;exact B.cell 0
 | 1,a=>obtain rfl:=qg a;exact B.cell 1
 | 2,a=>obtain rfl:=qg a;exact B.cell 2
theorem qYZ{w:World}{base n c:Nat}{A:Option Addr}(v:KX w base (.slice A n c) (gY n))(K:n<=100)(J:base<=w.heap.size)(i:TypeId):
  ∃w' u,(Builtin.append_ #[51,51] i #[.slice A n c,.slice (some ⟨w.heap.size,0,none⟩) 1 1]).run prog (w.alloc (.cells #[.string ⟨#[116]⟩,.string ⟨#[]⟩,.float .f64 0] 55)) = .ok u w' /\
   (∃A' a,u = .slice A' (n+1) a/\KX w' base (.slice A' (n+1) a) (gY (n+1)))/\jG (Value.slice A n c).ownBlock.toList w w':=by
 have f:=(Below.refl w.heap.size w).alloc (qK _) (.cells #[.string ⟨#[116]⟩,.string ⟨#[]⟩,.float .f64 0] 55);have o:=Q4 v f (qK _);obtain⟨H,s,z,C,G⟩:=info_parts CG
 obtain⟨N,w',l,d,m,I⟩:=fE (P:=prog) _ base 51 55 H _ 3 40 i Tryz.underlying51 s z C G rfl (by decide) (.slice A n c) (gY n).length ((gY n).flatMap cM) o (.slice (some ⟨w.heap.size,0,none⟩) 1 1) 1 (cM evT) (qYX w)
  (fun u g=>by
   simp[cM]at g;rcases g with rfl|rfl|rfl<;>rfl) (by rw[fD];unfold maxLen;omega) (by rw[fD];omega) (by simp;omega)
 rw[fD]at d;obtain⟨A',a,rfl,-,-,-⟩:=yw d;refine⟨w',_,l,⟨A',a,rfl, ?_⟩, ?_⟩
 ·show World.ownsRow _ _ _ _ _ _ _;rw[fD,qVw,List.flatMap_append];simpa using d
 ·exact jG.grown (F:=(Value.slice A n c).ownBlock.toList) ((jG.qn f).more (fun x y=>by cases y)) m (fun k t=>qX (by simp[t]))
end
section
open Go.RowKit Go.Shelf
def rbR: Nat:=4591870180066957722
theorem KZ: rbR<18446744073709551616:=by decide
def dy: jN:=⟨0,0,0,0⟩
theorem qYJ(m:j5):p9 m m=true:=qA ⟨rfl,rfl,rfl,rfl⟩
section
variable {At:jL}(api:jM At)(nap:jm)(iap:yn At)(cap:yY)(rapi:dY At){w0 w w':World}{gd gl gx r seed n c u:Nat}{S S':IxS}{L:jN}{chs:List (List Tw)}{D D':jK}{E E' B:List Nat}
theorem Dc(api:jM At)(nap:jm)(cap:yY)(h:DS At w0 gd (y9 c) E w)(a:c<=1048576):Calls prog 8 #[ptr gd] w fun e w'=>∃gl,e = .returned (.tuple #[ptr gl,.int .i64 0])/\w.heap.size<=gl/\bX At w0 gd gl dy (y9 c) E w'/\jV E w w':=h.zB api nap cap (VV a) (by show 0<=_;omega) rfl
theorem Dd(h:bX At w0 gd gl dy (y9 c) E w)(a:c<=1048576):kM At w0 gd gl dy [] (y9 c) E w :=
 ⟨h,⟨L7 a,List.nodup_nil,(fun n d=>by cases d),(fun x f=>by cases f),qF _⟩,qQI c a,⟨rfl,rfl,rfl,qK _⟩⟩
theorem qYK{M:List jJ}(h:∀y,y ∉ M):M.length=0:=by rw[List.eq_nil_iff_forall_not_mem.2 h];rfl
theorem qYV{M:List jJ}{x:jJ}(a:jh M)(h:∀y,y∈M↔y=x):M.length=1:=by
 have f:M.length<=1:=lW (b:=[x]) a (fun y d=>qH.2 ((h y).1 d));have g:=List.length_pos_of_mem ((h x).2 rfl);omega
def WhS(At:jL)(w0:World)(gd gl gx seed n c u:Nat)(L:jN)(chs:List (List Tw))(E:List Nat)(w:World):Prop :=
 ∃S D,jy At w0 gd gl gx rbR S L chs D E w/\yr seed S chs/\S.m=cJ seed/\S.T=[]/\S.mem.length=n/\jW D.l jC=none/\D.cap=20000/\jA D.l<=u/\D.count<=c
theorem WhS.below(api:jM At)(h:WhS At w0 gd gl gx seed n c u L chs E w)(f:Below w.heap.size w w'):WhS At w0 gd gl gx seed n c u L chs E w':=by
 obtain⟨S,D,a,d⟩:=h;exact⟨S,D,a.below api f,d⟩
theorem Df(h:WhS At w0 gd gl gx seed n c u L chs E w):Calls prog 22 #[ptr gx] w fun e w'=>e = .returned (.int .i64 (n:Nat))/\w=w':=by
 obtain⟨S,D,a,-,-,-,rfl,-⟩:=h;exact qVC a
theorem Dh(api:jM At)(h:WhS At w0 gd gl gx seed n c u L chs E w):Calls prog 11 #[ptr gx] w fun e w'=>∃A cp,e = .returned (.agg #[.int .i64 0,.int .i64 0,.int .u64 (seed:Nat),.slice A 0 cp])/\Below w.heap.size w w':=by
 obtain⟨S,D,a,-,d,-⟩:=h;refine(DL api a).mono ?_;rintro e w'⟨A,cp,rfl,-,b⟩;rw[d];exact⟨A,cp,rfl,b⟩
theorem Dl(seed:Nat)(A:Option Addr)(cp:Nat)(W:World):Calls prog 21 #[.agg #[.int .i64 0,.int .i64 0,.int .u64 (seed:Nat),.slice A 0 cp],.agg #[.int .i64 0,.int .i64 0,.int .u64 (seed:Nat),.slice none 0 0]] W fun e w'=>e = .returned (.bool true)/\Below W.heap.size W w':=by
 have:=qXD 0 0 seed A 0 cp [] 0 0 seed none 0 0 [] W (jn.nil W A cp) (jn.nil W none 0) rfl rfl (by decide) (by decide);rw[qYJ]at this;exact this
theorem KJ(rapi:dY At)(h:kM At w0 gd gl L chs D E w)(m:seed<18446744073709551616)(hw:∀x∈jO 0 chs,kr x.2=true)(i:Qh seed (kC chs) D)(g:∀M,jh M->(∀y,y∈M↔y∈vu seed (jO 0 chs))->M.length=n)(f:(vu seed (jO 0 chs)).length<=1000)(z:(jO 0 chs).length<=1)(d:D.cap=20000)(o:jA D.l<=u)(C:D.count<=c)(G:c<=700000):
  Calls prog 9 #[ptr gd,ptr gl,.int .u64 (seed:Nat),.float .f64 rbR] w fun e w'=>∃gx,e = .returned (.tuple #[ptr gx,.bool true,.int .i64 0])/\WhS At w0 gd gl gx seed n (c+600) u L chs E w'/\jV E w w':=by
 refine(rapi.zY seed rbR h hw i f (by omega) m KZ).mono ?_;rintro e w'⟨gx,S',D',rfl,t,s,a,v⟩;refine⟨gx,rfl,⟨S',D',t.sx,t.rb,v,a,g _ t.sx.ok.qw (fun y=>?_),s,t.cap.trans d,qO t.used o, ?_⟩,t.kept⟩
 ·rw[<-t.rb.has];unfold yF;rw[a];simp
 ·have:=t.count;omega
theorem qYY(rapi:dY At)(h:bX At w0 gd gl dy (y9 20000) E w)(d:seed<18446744073709551616):
  Calls prog 9 #[ptr gd,ptr gl,.int .u64 (seed:Nat),.float .f64 rbR] w fun e w'=>∃gx,e = .returned (.tuple #[ptr gx,.bool true,.int .i64 0])/\WhS At w0 gd gl gx seed 0 600 0 dy [] E w'/\jV E w w':=by
 have:=KJ (n:=0) (c:=0) (u:=0) rapi (Dd h (by decide)) d (fun x f=>by cases f) (qX (by rw[(Bj 20000).1];decide)) (fun M i a=>qYK (fun y g=>by have:=(a y).1 g;cases this)) (qF _) (qF _) rfl (qF _) (qK _) (by decide);rw[Nat.zero_add]at this;exact this
def whP: Tw:=nA ⟨#[115]⟩ 0 1
theorem Qn(seed q:Nat):kr whP=true/\kV seed (q,whP)=br seed ⟨#[115]⟩ 0 1 (q:Nat)/\whP.size<=2000:=KQ (by decide) (by decide) (by decide) (by decide) (by decide) seed q
theorem qYU(seed:Nat)(x:Rec):vu seed [x]=kV seed x:=by unfold vu;simp
theorem sU(seed q:Nat):∃x,vu seed [(q,whP)]=[x]:=by
 rw[qYU,(Qn seed q).2.1];exact⟨_,rfl⟩
theorem Dm(seed q:Nat)(M:List jJ)(d:jh M)(a:∀y,y∈M↔y∈vu seed [(q,whP)]):M.length=1:=by
 obtain⟨x,f⟩:=sU seed q;rw[f]at a;exact qYV d (fun y=>by rw[a,qH])
def WhA(At:jL)(w0:World)(gd gl q c u:Nat)(L:jN)(chs:List (List Tw))(E:List Nat)(w:World):Prop :=
 ∃D,kM At w0 gd gl L chs D E w/\jO 0 chs=[(q,whP)]/\jW D.l jC=none/\D.cap=20000/\jA D.l<=u/\D.count<=c
theorem qYG{D D':jK}(h:jW D.l jC=none)(k:(jW D'.l jC).map jU.data=(jW D.l jC).map jU.data):jW D'.l jC=none:=by
 rw[h]at k;cases e:jW D'.l jC with
 | none=>rfl
 | some f=>rw[e]at k;cases k
theorem qYW(api:jM At)(nap:jm)(cap:yY)(h:WhS At w0 gd gl gx seed 0 c 0 dy [] E w)(C:c<=1000):
  Calls prog 15 #[ptr gl,.string whP] w fun e w'=>∃q M chs',e = .returned (.tuple #[.int .i64 (q:Nat),.int .i64 0])/\WhA At w0 gd gl q c 2100 M chs' E w'/\jV E w w':=by
 obtain⟨S,D,d,s,t,v,y,f,g,z,i⟩:=h;have o:=(Qn 0 0).2.2;refine(DN api nap cap d whP o (by show 0<=_;omega) (by omega)).mono ?_;rintro e w'⟨q,D',M,chs',rfl,l,m,a⟩;have G:=a.used;exact⟨q,M,chs',rfl,⟨D',l.leave,a.all,qYG f (a.others jC Qb),a.cap.trans g,by omega,by rw[a.count];exact i⟩,m⟩
theorem qYA(rapi:dY At){q:Nat}(h:WhA At w0 gd gl q c 2100 L chs E w)(o:seed<18446744073709551616)(s:c<=10000):
  Calls prog 9 #[ptr gd,ptr gl,.int .u64 (seed:Nat),.float .f64 rbR] w fun e w'=>∃gx,e = .returned (.tuple #[ptr gx,.bool true,.int .i64 0])/\WhS At w0 gd gl gx seed 1 (c+600) 2100 L chs E w'/\jV E w w':=by
 obtain⟨D,f,a,g,i,l,m⟩:=h;refine KJ rapi f o (fun x d=>?_) (qX (Qd f.fl.up.down g).1) (by rw[a];exact Dm seed q) ?_ (by rw[a];exact qK _) i l m (by omega)
 ·rw[a]at d;rw[qH.1 d];exact(Qn 0 0).1
 ·rw[a];obtain⟨x,d⟩:=sU seed q;rw[d];show 1<=1000;decide
def WhF(At:jL)(w0:World)(gd gl gx seed q c u:Nat)(L:jN)(chs:List (List Tw))(E:List Nat)(w:World):Prop :=
 ∃S D,jy At w0 gd gl gx rbR S L chs D E w/\yr seed S chs/\uf D S/\jO 0 chs=[(q,whP)]/\S.mem=[]/\S.m.check=(kC chs:Nat)/\(∀t∈S.T,t.l.length<=1)/\D.cap=20000/\jA D.l<=u/\D.count<=c
theorem Dn{q:Nat}(i:yr seed S chs)(ok:jl D S)(g:jO 0 chs=[(q,whP)]):∀t∈S.T,t.l.length<=1:=fun t f=>by
 have a:t.l.length<=(vu seed (jO 0 chs)).length:=lW (ok.has t f).props.1 (fun x d=>(i.has x).1 (qY ⟨t,f,d⟩));rw[g]at a;obtain⟨x,d⟩:=sU seed q;rw[d]at a;exact a
theorem qYB(api:jM At)(nap:jm)(iap:yn At){q:Nat}(h:WhS At w0 gd gl gx seed 1 c 2100 L chs E w)(s:jO 0 chs=[(q,whP)])(R:c<=10000):
  Calls prog 10 #[ptr gx,ptr gl] w fun e w'=>e = .returned (.int .i64 0)/\(∃L',WhF At w0 gd gl gx seed q (c+2) 3000 L' chs E w')/\jV E w w':=by
 obtain⟨S,D,o,K,I,C,v,V,G,Y,U⟩:=h;have J:S.m.next=((0:Nat):Int):=by rw[I];rfl
 refine(DM api nap iap o (by omega) J (by decide) KZ (by omega)).mono ?_;rintro e w'⟨k,D',S',rfl,f,H,g,O⟩;have T:=g.count;rcases O with⟨rfl,d,-⟩|⟨rfl,d,i,l,z,a,P⟩|⟨-,-,-,-,-,a⟩
 ·rw[d]at v;cases v
 ·have y:=K.flush o.xX g.has i l d z;exact⟨rfl,⟨_,S',D',f,y,⟨a,fun t N=>f.ok.has t N⟩,s,i,by rw[l];rfl,Dn y f.ok s,g.cap.trans G,by omega,by omega⟩,H⟩
 ·exfalso;rw[C]at a;rcases a with q|q
  ·cases q
  ·omega
theorem qYC(rapi:dY At){q:Nat}(h:WhF At w0 gd gl gx seed q c u L chs E w)(N:c<=100000):
  Calls prog 9 #[ptr gd,ptr gl,.int .u64 (seed:Nat),.float .f64 rbR] w fun e w'=>∃a,e = .returned (.tuple #[ptr a,.bool false,.int .i64 0])/\WhF At w0 gd gl a seed q (c+600) u L chs E w'/\jV E w w':=by
 obtain⟨S,D,g,v,hw,d,P,o,i,s,C,O⟩:=h;refine(rapi.keep seed rbR S g.leave g.ok v hw (fun t z=>by have:=i t z;omega) ?_ (by omega) KZ).mono ?_
 ·rw[d];obtain⟨x,G⟩:=sU seed q;rw[G];show 1<=1000;decide
 ·rintro e w'⟨a,S',D',rfl,t,J,I⟩;have l:S'.m.check=(kC chs:Nat):=by rw[I];exact o
  have f:D'.count<=D.count+400+200*(jO 0 chs).length:=t.count;rw[d]at f;have f:D'.count<=D.count+400+200*1:=f;refine⟨a,rfl,⟨S',D',t.sx,t.rb,J,d, ?_,l,Dn t.rb t.sx.ok d,t.cap.trans s,qO t.used C,by omega⟩,t.kept⟩;refine List.eq_nil_iff_forall_not_mem.2 fun y H=>?_
  obtain⟨x,K,R,-⟩:=t.rb.fresh y H;have:=D8 t.sx.xX x K;omega
theorem jy.xR(h:jy At w0 gd gl gx r S L chs D E w):∃G,kM At w0 gd gl L chs D (G++E) w/\∀W,jV G w W->Calls prog 22 #[ptr gx] W fun e w'=>e = .returned (.int .i64 (S.mem.length:Nat))/\W=w':=by
 obtain⟨o,t,s,d,f,g,i,l,v⟩:=h.ix;refine⟨o++(t++s),⟨⟨d.less (fun b z=>?_),h.log,fun H=>?_,h.low⟩,h.dk.fl h.ok,h.xX,h.gl⟩,fun W y=>?_⟩
 ·rcases qL.1 z with e|k
  ·rw[e];exact qJ _ (qJ _ (qJ _ qD))
  ·rcases qB.1 k with k|k
   ·rcases qB.1 k with k|k
    ·exact qG _ k
    ·rcases qB.1 k with k|k
     ·exact qJ _ (qG _ k)
     ·exact qJ _ (qJ _ (qG _ k))
   ·exact qJ _ (qJ _ (qJ _ (qE _ k)))
 ·rcases qB.1 H with k|k
  ·rcases qB.1 k with k|k
   ·exact(g gl k).2.2 qD
   ·rcases qB.1 k with k|k
    ·exact(i gl k).2 qD
    ·exact l gl k qD
  ·exact h.qo k
 ·have m:=f.keep y;obtain⟨N,A,K,B,c2,O,a⟩:=m.cells;obtain⟨c0,-,-,-,-,-,-,-,J⟩:=a.cs;have I:=qQ (nY c0);have C:=qQ (Zg a.mem);clear m a h d f g i l v;generalize S.mem.length=n at*;go_enter func22,ntmps22;go_wp2_with fail;refine I.out.mono ?_;rintro e w'⟨rfl,rfl⟩;go_wp2_with fail;refine C.out.mono ?_;rintro e w'⟨rfl,rfl⟩;go_wp2;go_ret;exact⟨rfl,rfl⟩
theorem qYD(rapi:dY At){q:Nat}(h:WhF At w0 gd gl gx seed q c u L chs E w)(Y:c<=100000)(d:Nat)(N:seed≠d)(P:d<18446744073709551616):
  Calls prog 9 #[ptr gd,ptr gl,.int .u64 (d:Nat),.float .f64 rbR] w fun e w'=>∃g G,e = .returned (.tuple #[ptr g,.bool true,.int .i64 0])/\WhS At w0 gd gl g d 1 (c+600) u L chs (G++E) w'/\Calls prog 22 #[ptr gx] w' fun e w2=>e = .returned (.int .i64 0)/\w'=w2:=by
 obtain⟨S,D,f,O,hw,i,K,Z,y,C,R,H⟩:=h;obtain⟨G,s,T⟩:=f.xR;have o:=s.fl.up.down;obtain⟨V,l,-⟩:=Je o f.ok.may f.ok.seed hw.map;have I:(jb D).lv.flatten=S.m.lv.flatten:=by rw[l];exact sK S.m
 refine(KJ rapi s P (fun x a=>?_) (qY ⟨V,by rw[l];exact tX f.ok.may,fun x a _=>?_,qX ?_⟩) (by rw[i];exact Dm d q) ?_ (by rw[i];exact qK _) C R H (by omega)).mono ?_
 ·rw[i]at a;rw[qH.1 a];exact(Qn 0 0).1
 ·rw[I]at a;obtain⟨t,v,rfl⟩:=(f.ok.xY x).1 a;rw[(pQ o (hw.has t v)).2];have:=y t v;omega
 ·rw[l];show S.m.seed≠d;rw[O.sd];exact N
 ·rw[i];obtain⟨x,a⟩:=sU d q;rw[a];show 1<=1000;decide
 ·rintro e w'⟨g,rfl,U,J⟩;have:=T w' (J.less (fun b z=>qG _ z));rw[K]at this;exact⟨g,G,rfl,U,this⟩
end
def gU(At:jL)(W:World)(gd gl gx b r seed j:Nat)(laid:Bool)(E:List Nat)(w:World):Prop :=
 ∃S L chs D A Q M F,kT At W gd gl gx b r seed S L chs D A Q M F E w/\RbB j S chs D/\bS laid seed D S/\Q.length<=4*j
def gG(At:jL)(W:World)(gd gl gx b r seed j:Nat)(laid:Bool)(nx:Int)(E:List Nat)(w:World):Prop :=
 ∃S L chs D A Q M F,kT At W gd gl gx b r seed S L chs D A Q M F E w/\RbC j S chs D/\bS laid seed D S/\Q.length<=4*j/\S.m.next=nx
def Qp(At:jL)(W:World)(gd b r seed j c:Nat)(w6 laid:Bool)(E:List Nat)(w:World):Prop :=
 ∃S chs D A Q M F,pK At W gd b seed S chs D A Q M F E w/\mV seed chs D S/\RbB j S chs { D with count:=0 }/\D.count<=14000*j+1000+c/\Q.length<=4*j/\(w6=true->(laid=true->uf D S)/\(laid=false->¬uf D S))
def Qr(At:jL)(W:World)(gd gl b r seed j c:Nat)(w6 laid:Bool)(E:List Nat)(w:World):Prop :=
 ∃S chs D A Q M F L,pK At W gd b seed S chs D A Q M F E w/\kM At W gd gl L chs D (F++E) w/\mV seed chs D S/\RbB j S chs { D with count:=0 }/\D.count<=14000*j+1000+c/\Q.length<=4*j/\(w6=true->(laid=true->uf D S)/\(laid=false->¬uf D S))
def bK(At:jL)(W:World)(gd gl gx b r seed j q:Nat)(p:Tw)(jx ja:Nat)(laid:Bool)(E:List Nat)(w:World):Prop :=
 ∃S0 chs0 S L chs D A Q M F,bT At W gd gl gx b r seed S0 chs0 q p jx ja S L chs D A Q M F E w/\RbC j S0 chs D/\bS laid seed D S0/\Q.length+4<=4*j+ja
section
variable {At:jL}{W w w':World}{gd gl gx b r seed j c q jx ja:Nat}{p:Tw}{laid w6:Bool}{nx:Int}{E E' B:List Nat}
theorem gU.more(api:jM At)(h:gU At W gd gl gx b r seed j laid E w)(g:Below w.heap.size w w')(f:∀x∈B,w.heap.size<=x/\x<w'.heap.size):gU At W gd gl gx b r seed j laid (B++E) w':=by
 obtain⟨S,L,chs,D,A,Q,M,F,a,d⟩:=h;exact⟨S,L,chs,D,A,Q,M,F,a.more api g f,d⟩
theorem gU.base(h:gU At W gd gl gx b r seed j laid E w):Below W.heap.size W w:=by
 obtain⟨S,L,chs,D,A,Q,M,F,a,d⟩:=h;exact a.base
theorem gG.less(h:gG At W gd gl gx b r seed j laid nx E w)(f:∀x∈E',x∈E):gG At W gd gl gx b r seed j laid nx E' w:=by
 obtain⟨S,L,chs,D,A,Q,M,F,a,d⟩:=h;exact⟨S,L,chs,D,A,Q,M,F,a.less f,d⟩
theorem gG.lt(h:gG At W gd gl gx b r seed j laid nx E w):∀x∈E,x<w.heap.size:=by
 obtain⟨S,L,chs,D,A,Q,M,F,a,d⟩:=h;exact a.lt
theorem bK.more(api:jM At)(h:bK At W gd gl gx b r seed j q p jx ja laid E w)(g:Below w.heap.size w w')(f:∀x∈B,w.heap.size<=x/\x<w'.heap.size):bK At W gd gl gx b r seed j q p jx ja laid (B++E) w':=by
 obtain⟨S0,chs0,S,L,chs,D,A,Q,M,F,a,d⟩:=h;exact⟨S0,chs0,S,L,chs,D,A,Q,M,F,a.more api g f,d⟩
theorem bK.xJ(api:jM At)(h:bK At W gd gl gx b r seed j q p jx ja laid E w)(g:jG B w w')(f:∀x∈B,x∈E/\W.heap.size<=x):bK At W gd gl gx b r seed j q p jx ja laid E w':=by
 obtain⟨S0,chs0,S,L,chs,D,A,Q,M,F,a,d⟩:=h;exact⟨S0,chs0,S,L,chs,D,A,Q,M,F,⟨a.du.xJ api g f,a.rb,a.whole,a.app,a.behind,a.end_,a.hx,a.hf,a.hT,a.hm,a.qw,a.ha⟩,d⟩
section
variable (api:jM At)(nap:jm)
include api nap
theorem qYE(iap:yn At)(h:gU At W gd gl gx b r seed j laid E w)(g:j<60)(i:r<18446744073709551616):
  Calls prog 10 #[ptr gx,ptr gl] w fun e w'=>e = .returned (.int .i64 0)/\∃nx,gG At W gd gl gx b r seed (j+1) (laid||decide (0<nx)) nx E w'/\jV E w w':=by
 obtain⟨S,L,chs,D,A,Q,M,F,a,d,f,v⟩:=h;refine(qVj api nap iap a d g f i).mono ?_;rintro e w'⟨S',L',D',rfl,l,o,s,t⟩;exact⟨rfl,S'.m.next,⟨S',L',chs,D',A,Q,M,F,l,s,t,by omega,rfl⟩,o⟩
theorem qYF(iap:yn At)(h:gU At W gd gl gx b r seed j laid E w)(g:j<60)(i:r<18446744073709551616)(lev:Nat)(z:lev<=4):
  Calls prog 12 #[ptr gx,.int .i64 (lev:Nat)] w fun e w'=>∃(k:Nat) (nx:Int),e = .returned (.int .i64 (k:Nat))/\(k=0∨k=4)/\gG At W gd gl gx b r seed (j+1) laid nx E w'/\jV E w w':=by
 obtain⟨S,L,chs,D,A,Q,M,F,a,d,f,y⟩:=h;refine(qVk api nap iap a d g f i (lev:Nat) (by omega)).mono ?_;rintro e w'⟨k,S',D',rfl,l,o,s,t,v⟩;exact⟨k,S'.m.next,rfl,l,⟨S',L,chs,D',A,Q,M,F,o,t,v,by omega,rfl⟩,s⟩
omit nap in
theorem qYH(h:gG At W gd gl gx b r seed j laid nx E w):Calls prog 11 #[ptr gx] w fun e w'=>∃m o s,e = .returned (.agg #[.int .i64 nx,m,o,s])/\gG At W gd gl gx b r seed j laid nx E w'/\jV E w w':=by
 have l:=h.lt;obtain⟨S,L,chs,D,A,Q,M,F,a,f,g,i,rfl⟩:=h;refine(DL api a.sx).mono ?_;rintro e w'⟨t,v,rfl,-,d⟩;exact⟨_,_,_,rfl,⟨S,L,chs,D,A,Q,M,F,a.below api d,f,g,i,rfl⟩,jV.qn d l⟩
theorem qYI(h:gG At W gd gl gx b r seed j laid nx E w)(m:j<=60)(o:seed<18446744073709551616):
  Calls prog 19 #[ptr gx,ptr b,.int .u64 (seed:Nat)] w fun e w'=>e = .returned (.bool true)/\gU At W gd gl gx b r seed j laid E w'/\jV E w w':=by
 obtain⟨S,L,chs,D,A,Q,M,F,g,f,i,l,-⟩:=h;have H:=g.xx f.1 m;have I:=f.1.count;refine(qVq api nap g (by omega) (by omega) o).mono ?_;rintro e w'⟨k,J,rfl,y,z⟩;refine⟨rfl,⟨S,L,chs, { D with count:=D.count+k },A,Q,M,F,y,f.same (by omega), ?_,l⟩,z.less (fun x v=>qJ _ v)⟩;rcases i with⟨d,a⟩|⟨d,a,C,G⟩
 ·exact qX ⟨d,⟨a.map,fun t s=>(a.has t s).count _⟩⟩
 ·exact qY ⟨d,a,C,G⟩
omit api nap in
theorem qYL(h:gU At W gd gl gx b r seed j laid E w)(m:j<60):Qp At W gd b r seed j 0 true laid E w:=by
 obtain⟨S,L,chs,D,A,Q,M,F,f,a,g,i⟩:=h;have l:=f.sx.dk.up;refine⟨S,chs,D,A,Q,M,F,f.leave a (by omega),g.zM l,⟨a.next,a.xH,a.used,qF _,a.cap,a.chunks⟩,a.count,i,fun _=>?_⟩;rcases g with⟨rfl,d⟩|⟨rfl,d,-,-⟩
 ·exact⟨fun _=>d,fun q=>by cases q⟩
 ·refine⟨(fun q=>by cases q),fun _ q=>?_⟩;have:=q.map;rw[d]at this;cases this
theorem qYM(h:gU At W gd gl gx b r seed j laid E w)(hj:j<60)(P:seed<18446744073709551616)(a k:Nat)(H:a<256)(N:k<256):
  Calls prog 13 #[ptr gd,.int .u8 (a:Nat),.int .u8 (k:Nat)] w fun e w'=>e = .returned (.tuple #[])/\Qp At W gd b r seed j 1 false laid E w'/\jV E w w':=by
 obtain⟨S,L,chs,D,A,Q,M,F,v,g,z,G⟩:=h;have d:=v.leave g (by omega);have Y:=g.count;have J:=v.rb.check;refine(qVn api nap d.ds d.fl (by omega) a k H N).mono ?_;rintro e w'⟨n,m,D',rfl,O,o,Z,K,y⟩
 have C:bS laid seed { D with count:=m } S:=by
  rcases z with⟨s,i⟩|⟨s,i,U,V⟩
  ·exact qX ⟨s,⟨i.map,fun t T=>(i.has t T).count _⟩⟩
  ·exact qY ⟨s,i,U,V⟩
 have R:=C.spoilt o (v.sx.ok.count m) P J d.lens;have aa:D'.count=m:=o.stays.count;have I:D'.cap=D.cap:=o.stays.cap;have ab:jA D'.l<=jA D.l:=o.used;refine⟨rfl,⟨S,chs,D',A,Q,M,F,⟨K,⟨o.up,o.nodup,fun x f=>d.fl.only x (o.names x f),d.fl.xA,d.fl.xD⟩,Ja d.xX o.up o.names (fun x f=>o.other x (fun e=>by rw[e,O]at f;cases f)),d.rx.keep (y.less fun x f=>qG _ f),d.apart,d.rb,d.qw,d.all,d.zU,d.lens⟩,R,⟨g.next,g.xH, ?_,qF _,I.trans g.cap,g.chunks⟩,by omega,G,fun q=>by cases q⟩,y.less (fun x f=>qJ _ f)⟩;show jA D'.l<=_;have:=g.used;omega
theorem Dp(cap:yY)(h:Qp At W gd b r seed j c w6 laid E w)(Y:j<60)(V:c<=1):
  Calls prog 8 #[ptr gd] w fun e w'=>∃gl,e = .returned (.tuple #[ptr gl,.int .i64 0])/\Qr At W gd gl b r seed j 201 w6 laid E w'/\jV E w w':=by
 obtain⟨S,chs,D,A,Q,M,F,m,z,d,U,C,G⟩:=h;refine(qVg api nap cap m (by omega)).mono ?_;rintro e w'⟨gl,L',D',rfl,P,N,O,a,k4⟩;have H:=m.fl.up.down;have Z:=a.used;refine⟨gl,rfl,⟨S,chs,D',A,Q,M,F,L',N,P,z.same H a,⟨d.next,d.xH, ?_,qF _,a.cap.trans d.cap,d.chunks⟩,by omega,C,fun q=>?_⟩,O.less (fun x K=>qJ _ K)⟩
 ·show jA D'.l<=_;have:jA D.l<=15000*j:=d.used;omega
 ·obtain⟨R,T⟩:=G q;refine⟨fun e=>(R e).same a,fun e hw=>T e ?_⟩;refine⟨(a.data jC).symm.trans hw.map,fun t J=>?_⟩;obtain⟨f,s,v,y⟩:=hw.has t J;have g:=a.data (ptT t.n);rw[s]at g;obtain⟨o,I,i⟩:=Option.map_eq_some_iff.1 (g.symm:(jW D.l (ptT t.n)).map jU.data=some f.data);exact⟨o,I,by rw[i];exact v,by rw[i];exact y⟩
omit api nap in
theorem Dr(rapi:dY At)(h:Qr At W gd gl b r seed j 201 w6 laid E w)(hj:j<60)(C:seed<18446744073709551616)(z:r<18446744073709551616):
  Calls prog 9 #[ptr gd,ptr gl,.int .u64 (seed:Nat),.float .f64 r] w fun e w'=>∃gx a nx,e = .returned (.tuple #[ptr gx,.bool a,.int .i64 0])/\gG At W gd gl gx b r seed (j+1) (!a) nx E w'/\jV E w w'/\(w6=true->a = !laid):=by
 obtain⟨S,chs,D,A,Q,M,F,L,i,y,o,d,h4,h5,s⟩:=h;obtain⟨f,r1,R⟩:=d.xH;refine(qVb rapi y i o C z (by omega) (by omega)).mono ?_;rintro e w'⟨gx,S',D',a,rfl,G,H,g,I,k5,k6,k7,J,K⟩;have ae:S.m.next<=(j:Nat):=d.next;have af:jA D.l<=15000*j:=d.used;have ac:D.cap=1048576:=d.cap;have ad:chs.length<=j:=d.chunks
 have t:S'.m.next<=(j:Nat)/\∃f,S'.T.length<=f/\f+(jO 0 chs).length<=j:=by
  cases a with
  | false =>
    obtain⟨Y,Z⟩:=J rfl;exact⟨by omega,f,by omega,by omega⟩
  | true =>
    rcases g with⟨q,-⟩|⟨-,-,U,V⟩
    ·cases q
    ·rw[U,V];exact⟨by show(0:Int)<=_;omega,f,qF _,R⟩
 obtain⟨aa,N,v,ab⟩:=t;refine⟨gx,a,S'.m.next,rfl,⟨S',L,chs,D',A,Q,M,F,G,⟨⟨by omega,⟨N,v,by omega⟩,by omega,by omega,by omega,by omega⟩,by omega⟩,g,by omega,rfl⟩,H,fun q=>?_⟩;obtain⟨O,P⟩:=s q;cases laid with
 | true=>exact I (O rfl)
 | false=>exact K (P rfl)
theorem qYN(cap:yY)(h:gU At W gd gl gx b r seed j laid E w)(g:j<60)(p:Tw)(i:p.size<=2000)(hw:kr p=true):
  Calls prog 15 #[ptr gl,.string p] w fun e w'=>∃q:Nat,q<=819200/\e = .returned (.tuple #[.int .i64 (q:Nat),.int .i64 0])/\bK At W gd gl gx b r seed (j+1) q p 0 0 laid E w'/\jV E w w':=by
 obtain⟨S,L,chs,D,A,Q,M,F,a,d,f,v⟩:=h;refine(qVu api nap cap a d g f p i hw).mono ?_;rintro e w'⟨q,L',chs',D',rfl,l,m,o,s,t⟩;exact⟨q,t,rfl,⟨S,chs,S,L',chs',D',A,Q,M,F,l,o,s,by omega⟩,m⟩
omit nap in
theorem qYO(h:bK At W gd gl gx b r seed j q p jx ja laid E w)(o:j<=60)(s:ja<=4){x:jJ}(g:(kV seed (q,p))[ja]? = some x):Calls prog 17 #[ptr b,kS x] w fun e w'=>e = .returned (.int .i64 0)/\bK At W gd gl gx b r seed j q p jx (ja+1) laid E w'/\jV E w w':=by
 obtain⟨S0,chs0,S,L,chs,D,A,Q,M,F,d,a,f,m⟩:=h;obtain⟨v,y,z⟩:=a.1.xH;refine(qVv api d (by omega) (by omega) g).mono ?_;rintro e w'⟨rfl,A',Q',F',t,i,l⟩;exact⟨rfl,⟨S0,chs0,S,L,chs,D,A',Q',M,F',i,a,f,by omega⟩,l⟩
omit nap in
theorem qYP(h:bK At W gd gl gx b r seed j q p jx ja laid E w)(o:j<=60){x:jJ}(i:(kV seed (q,p))[jx]? = some x):Calls prog 18 #[ptr gx,kS x] w fun e w'=>e = .returned (.int .i64 0)/\bK At W gd gl gx b r seed j q p (jx+1) ja laid E w'/\jV E w w':=by
 obtain⟨S0,chs0,S,L,chs,D,A,Q,M,F,d,a,f,g⟩:=h;obtain⟨s,t,v⟩:=a.1.xH;refine(qVy api d (by omega) i).mono ?_;rintro e w'⟨rfl,S',l,m⟩;exact⟨rfl,⟨S0,chs0,S',L,chs,D,A,Q,M,F,l,a,f,g⟩,m⟩
omit api nap in
theorem qYR(h:bK At W gd gl gx b r seed j q p jx ja laid E w)(I:(kV seed (q,p)).length<=jx)(G:(kV seed (q,p)).length<=ja)(O:ja<=4):∃nx,gG At W gd gl gx b r seed j laid nx E w:=by
 obtain⟨S0,chs0,S,L,chs,D,A,Q,M,F,a,z,C,N⟩:=h;obtain⟨⟨g,i,l,o,s,v⟩,y⟩:=z;refine⟨S.m.next,S,L,chs,D,A,Q,M,F,a.done I G,⟨⟨by rw[a.hm];exact g,by rw[a.hT];exact i,l,o,s,v⟩,y⟩, ?_,by omega,rfl⟩;rcases C with⟨f,d⟩|⟨f,d,J,K⟩
 ·exact qX ⟨f,⟨by rw[a.hm];exact d.map,fun t H=>d.has t (by rw[<-a.hT];exact H)⟩⟩
 ·exact qY ⟨f,d,a.hT.trans J,a.hm.trans K⟩
omit api nap in
theorem qYS(api:jM At){S:IxS}{L:jN}{D:jK}(h:jy At W gd gl gx r S L [] D [] w)(z:yr seed S [])(d:S.m=cJ seed)(f:S.T=[])(s:jW D.l jC=none)(o:D.cap=1048576)(H:jA D.l=0)(G:D.count<=1000):
  gU At W gd gl gx w.heap.size r seed 0 false [] (w.alloc (.cells #[.slice none 0 0,.slice none 0 0,.int .i64 0,.int .i64 0,.int .u64 0,.slice none 0 0] 42)):=by
 have i:=(Below.refl w.heap.size w).alloc (qK _) (.cells #[.slice none 0 0,.slice none 0 0,.int .i64 0,.int .i64 0,.int .u64 0,.slice none 0 0] 42);have B:=jY.new w 42 #[.slice none 0 0,.slice none 0 0,.int .i64 0,.int .i64 0,.int .u64 0,.slice none 0 0];have v:=h.base.size;have g:=h.more api i (B:=[w.heap.size]) (fun x t=>by rw[qH.1 t];exact⟨qK _,B.lt⟩);refine⟨S,L,[],D,[],[],⟨0,0,0,[]⟩,[w.heap.size],⟨⟨g,⟨.slice none 0 0,.slice none 0 0,.slice none 0 0,[],B,jE.nil _ _,jE.nil _ _,fun W C=>jn.nil W none 0,(fun d=>by cases d),qD,(fun k a=>by cases kG.1 a),(fun k a=>by cases kG.1 a),(fun k a=>by cases a),fun k a=>?_⟩,fun x _ d=>by cases d⟩,z,List.Pairwise.nil,fun y=>?_⟩,⟨by rw[d];show(0:Int)<=_;omega,⟨0,by rw[f];exact qK _,qK _⟩,by omega,by omega,o,qK _⟩,qY ⟨rfl,s,f,d⟩,qK _⟩
 ·rw[qH.1 a];exact⟨v,B.lt⟩
 ·exact⟨(fun h=>by cases h),(fun h=>by cases h)⟩
omit nap in
theorem qYT(rapi:dY At)(h:bX At W gd gl dy (y9 1048576) [] w)(d:seed<18446744073709551616)(a:r<18446744073709551616):
  Calls prog 9 #[ptr gd,ptr gl,.int .u64 (seed:Nat),.float .f64 r] w fun e w'=>∃gx,e = .returned (.tuple #[ptr gx,.bool true,.int .i64 0])/\gU At W gd gl gx w'.heap.size r seed 0 false [] (w'.alloc (.cells #[.slice none 0 0,.slice none 0 0,.int .i64 0,.int .i64 0,.int .u64 0,.slice none 0 0] 42)):=by
 refine(rapi.zY seed r (Dd h (by decide)) (fun x f=>by cases f) (qX (by rw[(Bj 1048576).1];decide)) (qF _) (qF _) d a).mono ?_;rintro e w'⟨gx,S',D',rfl,t,g,i,m⟩;have s:jA D'.l<=0:=t.used;have o:D'.count<=0+400+200*0:=t.count;exact⟨gx,rfl,qYS api t.sx t.rb m i g t.cap (by omega) (by omega)⟩
end
end
end
section
open Go.RowKit Go.Shelf
def fsA(a:Nat->Nat):Array Value:=#[.int .i64 (a 0:Nat),.int .i64 (a 1:Nat),.int .i64 (a 2:Nat),.int .i64 (a 3:Nat)]
def nB(a:Nat->Nat)(k v:Nat):Nat->Nat:=fun i=>if i=k then v else a i
theorem Dt{w:World}{g:Nat}{a:Nat->Nat}(h:jY w g 43 (fsA a)){k:Nat}(d:k<4):w.cell? ⟨g,k,none⟩=some (.int .i64 (a k:Nat)):=by
 have:k=0∨k=1∨k=2∨k=3:=by omega
 rcases this with rfl|rfl|rfl|rfl
 ·exact h.cell 0
 ·exact h.cell 1
 ·exact h.cell 2
 ·exact h.cell 3
theorem qY0{w:World}{g:Nat}{a:Nat->Nat}(h:jY w g 43 (fsA a)){k:Nat}(d:k<4)(v:Nat):jY (w.setCell ⟨g,k,none⟩ (.int .i64 (v:Nat))) g 43 (fsA (nB a k v)):=by
 have:k=0∨k=1∨k=2∨k=3:=by omega
 rcases this with rfl|rfl|rfl|rfl
 ·exact h.put 0 _
 ·exact h.put 1 _
 ·exact h.put 2 _
 ·exact h.put 3 _
theorem qY1{d:Nat->Nat}{k v c a:Nat}(h:∀i,d i<=c)(g:v<=a)(f:c<=a):∀i,nB d k v i<=a:=fun i=>by
 have:=h i;unfold nB;split<;>omega
structure bV(gf gs:Nat)(fs:Nat->Nat)(c:Nat)(w:World):Prop where
 f:jY w gf 43 (fsA fs)
 s:jY w gs 44 cq
 le:∀i,fs i<=c
theorem bV.below{gf d c:Nat}{a:Nat->Nat}{w w':World}(h:bV gf d a c w)(g:Below w.heap.size w w'):bV gf d a c w':=⟨h.f.below g,h.s.below g,h.le⟩
theorem bV.kept{gf a c:Nat}{d:Nat->Nat}{w w':World}{E:List Nat}(h:bV gf a d c w)(g:jV E w w')(i:gf∈E)(l:a∈E):bV gf a d c w':=⟨g.qa h.f i,g.qa h.s l,h.le⟩
theorem bV.up{gf g c a:Nat}{d:Nat->Nat}{w:World}(h:bV gf g d c w)(l:c<=a):bV gf g d a w:=⟨h.f,h.s,fun i=>qO (h.le i) l⟩
theorem qY2(w:World):bV w.heap.size (w.heap.size+1) (fun _=>0) 0 ((w.alloc (.cells #[.int .i64 0,.int .i64 0,.int .i64 0,.int .i64 0] 43)).alloc (.cells cq 44)):=by
 have a:(w.alloc (.cells #[.int .i64 0,.int .i64 0,.int .i64 0,.int .i64 0] 43)).heap.size=w.heap.size+1:=by simp
 refine⟨(jY.new w 43 #[.int .i64 0,.int .i64 0,.int .i64 0,.int .i64 0]).alloc _, ?_,fun i=>qK _⟩;have:=jY.new (w.alloc (.cells #[.int .i64 0,.int .i64 0,.int .i64 0,.int .i64 0] 43)) 44 cq;rw[a]at this;exact this
structure cz(we:World)(gb:Nat)(s:Tw)(f n:Nat)(A:Option Addr)(c:Nat)(wr:World):Prop where
 box:jY wr gb 53 #[.string s,.int .i64 (f:Nat),.slice A n c]
 row:KX wr we.heap.size (.slice A n c) (gY n)
 xG:Below we.heap.size we wr
 new:we.heap.size<=gb
theorem cz.more{m wr:World}{a f n c:Nat}{s:Tw}{A:Option Addr}(h:cz m a s f n A c wr)(N:n<=50)(z:TypeId):
  ∃d A' i,(Builtin.append_ #[51,51] z #[.slice A n c,.slice (some ⟨wr.heap.size,0,none⟩) 1 1]).run prog (wr.alloc (.cells #[.string ⟨#[116]⟩,.string ⟨#[]⟩,.float .f64 0] 55)) = .ok (.slice A' (n+1) i) d /\
   d.cell? ⟨a,2,none⟩=some (.slice A n c)/\d.frozen? ⟨a,2,none⟩=false/\cz m a s f (n+1) A' i (d.setCell ⟨a,2,none⟩ (.slice A' (n+1) i)):=by
 obtain⟨d,u,C,⟨A',i,rfl,t⟩,v⟩:=qYZ h.row (by omega) h.xG.size z;have H:(Value.slice A n c).ownBlock≠some a:=vR h.row h.box (by decide);have o:=h.box.qe v (fun G=>H (by simpa using G))
 have hF:∀x∈(Value.slice A n c).ownBlock.toList,m.heap.size<=x:=fun x l=>by
  rcases h.row.2 with⟨e,-⟩|⟨g,cap,J,e,K,-⟩
  ·rw[e]at l;cases l
  ·rw[e]at l;have:x=g:=(by simpa[Value.ownBlock] using l);omega
 have y:Below m.heap.size m d:=h.xG.trans (v.below h.xG.size hF);have I:(Value.slice A' (n+1) i).ownBlock≠some a:=vR t o (by decide);refine⟨d,A',i,C,o.cell 2,o.frozen 2,⟨o.put 2 _,yH t I _, ?_,h.new⟩⟩;exact y.trans ((jG.setCell (F:=[a]) (jG.refl _ _) (qX qD) _).below y.size (fun x l=>by rw[qH.1 l];exact h.new))
theorem cz.drew{d wr:World}{a f n c:Nat}{s:Tw}{A:Option Addr}(h:cz d a s f n A c wr):cz d a s f n A c wr.drew:=⟨h.box.drew,Q4 h.row (Below.refl _ _).drew (qK _),h.xG.trans (Below.refl _ _).drew,h.new⟩
theorem cz.zf{g wr:World}{a f n c:Nat}{s:Tw}{A:Option Addr}(h:cz g a s f n A c wr):uO wr (.slice A n c) (gY n):=by
 have d:=uO.xL h.row;exact d
theorem cz.start(a:World)(s:Tw)(f:Nat):cz a a.heap.size s f 0 none 0 (a.alloc (.cells #[.string s,.int .i64 (f:Nat),.slice none 0 0] 53)) :=
 ⟨jY.new a 53 #[.string s,.int .i64 (f:Nat),.slice none 0 0],World.ownsRow_nil _ _ _ _,(Below.refl _ _).alloc (qK _) _,qK _⟩
theorem qY3(a:Int)(u v x:Value)(w:World):(Instr.field 40 (.agg #[.int .i64 a,u,v,x]) 0).run prog w = .ok (.int .i64 a) w:=by
 rfl
end
section
open Go.RowKit Go.Shelf
theorem qY4(w:World):uO (w.alloc (.cells #[.string ⟨#[116]⟩,.string ⟨#[]⟩,.float .f64 0] 55)) (.slice (some ⟨w.heap.size,0,none⟩) 1 1) (gY 1):=by
 have B:=jY.new w 55 #[.string ⟨#[116]⟩,.string ⟨#[]⟩,.float .f64 0];refine qY ⟨qK 1,w.heap.size,0,1,rfl,qK 1,B.lt,fun i x a=>?_⟩;have f:i=0:=by have:=(qP.1 a).1;rw[fD]at this;omega
 subst f;have d:x=evT:=Qm (qM a);subst d;exact⟨B.cell 0,B.cell 1,B.cell 2⟩
section
variable {At:jL}(api:jM At)(nap:jm)(iap:yn At)(cap:yY)(rapi:dY At)
include api nap iap cap rapi
theorem qY5(w:World):Calls prog 6 #[] w fun e w'=>e = .returned (.bool true)/\Below w.heap.size w w':=by
 have Y:=qQ (show Calls prog 7 #[.int .i64 20000] w fun e w'=>∃g,e = .returned (.tuple #[ptr g,.int .i64 0])/\DS At w g (y9 20000) [] w' from B9 api w 20000 (by decide));have U:=qQ (fun W g (h:DS At w g (y9 20000) [] W)=>Dc api nap cap h (by decide));have Z:=qQ (fun W gd gl (h:bX At w gd gl dy (y9 20000) [] W)=>(show Calls prog 9 #[ptr gd,ptr gl,.int .u64 5,.float .f64 4591870180066957722] W fun e w'=>∃gx,e = .returned (.tuple #[ptr gx,.bool true,.int .i64 0])/\WhS At w gd gl gx 5 0 600 0 dy [] [] w'/\jV [] W w' from qYY (seed:=5) rapi h (by decide)));have av:=qQ (fun W gd gl gx n c u L chs E (h:WhS At w gd gl gx 5 n c u L chs E W)=>(show Calls prog 11 #[ptr gx] W fun e w'=>∃A a,e = .returned (.agg #[.int .i64 0,.int .i64 0,.int .u64 5,.slice A 0 a])/\Below W.heap.size W w' from Dh api h));have aw:=qQ (fun W gd gl gx n c u L chs E (h:WhS At w gd gl gx 6 n c u L chs E W)=>(show Calls prog 11 #[ptr gx] W fun e w'=>∃A a,e = .returned (.agg #[.int .i64 0,.int .i64 0,.int .u64 6,.slice A 0 a])/\Below W.heap.size W w' from Dh api h));have aD:=qQ (fun A a W=>(show Calls prog 21 #[.agg #[.int .i64 0,.int .i64 0,.int .u64 5,.slice A 0 a],.agg #[.int .i64 0,.int .i64 0,.int .u64 5,.slice none 0 0]] W fun e w'=>e = .returned (.bool true)/\Below W.heap.size W w' from Dl 5 A a W));have aE:=qQ (fun A a W=>(show Calls prog 21 #[.agg #[.int .i64 0,.int .i64 0,.int .u64 6,.slice A 0 a],.agg #[.int .i64 0,.int .i64 0,.int .u64 6,.slice none 0 0]] W fun e w'=>e = .returned (.bool true)/\Below W.heap.size W w' from Dl 6 A a W));have aF:=qQ (fun W gd gl gx s c u L chs E (h:WhS At w gd gl gx s 0 c u L chs E W)=>(show Calls prog 22 #[ptr gx] W fun e w'=>e = .returned (.int .i64 0)/\W=w' from Df h));have ad:=qQ (fun W gd gl gx s c u L chs E (h:WhS At w gd gl gx s 1 c u L chs E W)=>(show Calls prog 22 #[ptr gx] W fun e w'=>e = .returned (.int .i64 1)/\W=w' from Df h));have aB:=qQ (fun(W:World) (v:Value) (h:uO W v (gY 1))=>(show Calls prog 14 #[.agg #[.string ⟨#[115]⟩,.int .i64 0,v]] W fun e w'=>e = .returned (.tuple #[.string whP,.int .i64 0])/\Below W.heap.size W w' from Db (s:=⟨#[115]⟩) (f:=0) (n:=1) (by decide) (by decide) (by decide) (by decide) (by decide) h));have am:=qQ (fun W gd gl gx (h:WhS At w gd gl gx 5 0 600 0 dy [] [] W)=>qYW api nap cap h (by decide));have ay:=qQ (fun W gd gl q L chs (h:WhA At w gd gl q 600 2100 L chs [] W)=>(show Calls prog 9 #[ptr gd,ptr gl,.int .u64 5,.float .f64 4591870180066957722] W fun e w'=>∃gx,e = .returned (.tuple #[ptr gx,.bool true,.int .i64 0])/\WhS At w gd gl gx 5 1 1200 2100 L chs [] w'/\jV [] W w' from qYA (seed:=5) rapi h (by decide) (by decide)));have HQ:=qQ (fun W gd gl q c u L chs (h:WhA At w gd gl q c u L chs [] W)=>(by obtain⟨D,-,H,-⟩:=h;exact H:jO 0 chs=[(q,whP)]));have au:=qQ (fun W gd gl gx q L chs (H:jO 0 chs=[(q,whP)]) (h:WhS At w gd gl gx 5 1 1200 2100 L chs [] W)=>qYB api nap iap h H (by decide));have az:=qQ (fun W gd gl gx q L chs (h:WhF At w gd gl gx 5 q 1202 3000 L chs [] W)=>(show Calls prog 9 #[ptr gd,ptr gl,.int .u64 5,.float .f64 4591870180066957722] W fun e w'=>∃z,e = .returned (.tuple #[ptr z,.bool false,.int .i64 0])/\WhF At w gd gl z 5 q 1802 3000 L chs [] w'/\jV [] W w' from qYC rapi h (by decide)));have aA:=qQ (fun W gd gl gx q L chs (h:WhF At w gd gl gx 5 q 1802 3000 L chs [] W)=>(show Calls prog 9 #[ptr gd,ptr gl,.int .u64 6,.float .f64 4591870180066957722] W fun e w'=>∃C G,e = .returned (.tuple #[ptr C,.bool true,.int .i64 0])/\WhS At w gd gl C 6 1 2402 3000 L chs (G++[]) w'/\Calls prog 22 #[ptr gx] w' fun e N=>e = .returned (.int .i64 0)/\w'=N from qYD rapi h (by decide) 6 (by decide) (by decide)));have m:=qQ (fun W W' gd gl gx s n c u L chs E (h:WhS At w gd gl gx s n c u L chs E W) (hb:Below W.heap.size W W')=>WhS.below api h hb);have aq:=qQ (fun W gd gl gx s n c u L chs E (h:WhS At w gd gl gx s n c u L chs E W)=>(by obtain⟨S,D,h1,-⟩:=h;exact h1.base:Below w.heap.size w W));have ar:=qQ qY4;generalize whP=p at*;go_enter func6,ntmps6;go_wp2_with fail;refine Y.out.mono ?_;rintro e w1⟨gd,rfl,hD⟩;have O:=qQ (U.out w1 gd hD);clear hD U Y;go_wp2_with fail;refine O.out.mono ?_;rintro e N⟨gl,rfl,-,hl,-⟩;have P:=qQ (Z.out N gd gl hl);clear hl Z O;go_wp2_with fail;refine P.out.mono ?_;rintro e w3⟨gx,rfl,K,-⟩;have HX:=qQ K;have V:=qQ (av.out _ _ _ _ _ _ _ _ _ _ K);clear K P;go_wp2_with fail;refine V.out.mono ?_;rintro e w4⟨A4,c4,rfl,b4⟩;have ae:=qQ (m.out _ _ _ _ _ _ _ _ _ _ _ _ HX.out b4);clear b4 V HX;go_wp2_with fail;refine(aD.out A4 c4 w4).mono ?_;rintro e t⟨rfl,b5⟩;have y:=qQ (m.out _ _ _ _ _ _ _ _ _ _ _ _ ae.out b5);have i:=qQ (aF.out _ _ _ _ _ _ _ _ _ _ y.out);clear b5 ae;go_wp2_with fail;refine i.out.mono ?_;rintro e w'⟨rfl,rfl⟩;clear i;have aj:=(Below.refl t.heap.size t).alloc (qK _) (.cells #[.string ⟨#[116]⟩,.string ⟨#[]⟩,.float .f64 0] 55);have l:=m.out _ _ _ _ _ _ _ _ _ _ _ _ y.out aj;have d:=aB.out _ _ (ar.out t);obtain⟨w6,aJ⟩:∃w6,t.alloc (.cells #[.string ⟨#[116]⟩,.string ⟨#[]⟩,.float .f64 0] 55)=w6:=⟨_,rfl⟩
 rw[aJ]at l d;have l:=qQ l;have d:=qQ d;clear aj y;go_wp2_with fail;refine d.out.mono ?_;rintro e w7⟨rfl,b7⟩;have R:=qQ (am.out _ _ _ _ (m.out _ _ _ _ _ _ _ _ _ _ _ _ l.out b7));clear b7 d l;go_wp2_with fail;refine R.out.mono ?_;rintro e w8⟨q,M,chs',rfl,I,-⟩;have aC:=qQ (HQ.out _ _ _ _ _ _ _ _ I);have ac:=qQ (ay.out _ _ _ _ _ _ I);clear I R;go_wp2_with fail;refine ac.out.mono ?_;rintro e w9⟨aL,rfl,J,-⟩;have i:=qQ (ad.out _ _ _ _ _ _ _ _ _ _ J);have T:=qQ (au.out _ _ _ _ q _ _ aC.out J);clear J ac;go_wp2_with fail;refine i.out.mono ?_;rintro e w'⟨rfl,rfl⟩;clear i;go_wp2_with fail;refine T.out.mono ?_;rintro e aM⟨rfl,⟨L',ah⟩,-⟩;have aa:=qQ (az.out _ _ _ _ _ _ _ ah);clear ah T;go_wp2_with fail;refine aa.out.mono ?_;rintro e aN⟨z,rfl,ai,-⟩;have ab:=qQ (aA.out _ _ _ _ _ _ _ ai);clear ai aa;go_wp2_with fail;refine ab.out.mono ?_;rintro e aO⟨C,G,rfl,o,ak⟩;have aG:=qQ ak;have aH:=qQ (ad.out _ _ _ _ _ _ _ _ _ _ o);have ax:=qQ (aw.out _ _ _ _ _ _ _ _ _ _ o);have ap:=qQ (aq.out _ _ _ _ _ _ _ _ _ _ _ o);clear o ak ab;go_wp2_with fail;refine aG.out.mono ?_;rintro e w'⟨rfl,rfl⟩;go_wp2_with fail;refine aH.out.mono ?_;rintro e w'⟨rfl,rfl⟩;go_wp2_with fail;refine ax.out.mono ?_;rintro e aK⟨al,aI,rfl,af⟩;have an:=qQ (bj ap.out af);clear af;go_wp2_with fail;refine(aE.out al aI aK).mono ?_;rintro e aP⟨rfl,ag⟩;have ao:=qQ (bj an.out ag);clear ag;go_wp2;go_ret;exact⟨rfl,ao.out⟩
end
end
end Go.Proofs.YtokbfellcadkpaaGreat
