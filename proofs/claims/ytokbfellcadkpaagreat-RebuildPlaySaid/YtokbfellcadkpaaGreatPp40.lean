import Derived.Test.YtokbfellcadkpaaGreatPp38
import Derived.Test.YtokbfellcadkpaaGreatPp39
import Derived.Test.YtokbfellcadkpaaGreatPp16
set_option linter.unusedVariables false
set_option maxRecDepth 100000
set_option maxHeartbeats 9000000
namespace Go.Proofs.YtokbfellcadkpaaGreat
open Tryz
section
open Go.RowKit Go.Shelf
def dJ(f:Nat)(D:jK)(S:IxS)(t:Tw)(n a:Nat)(en:Int):Nat × jK :=
 if f≠0 then(f,D) else if S.mem=[] then(0,D) else v7 D n S.mem t a (jv S (kJ S.m.lv n) en)
noncomputable def dK (f:Nat)(D:jK)(S:IxS)(t:Tw)(n a:Nat)(en:Int):IxS :=
 if f≠0 then S else if S.mem=[] then S
 else if (v7 D n S.mem t a (jv S (kJ S.m.lv n) en)).1=0 then { yb S D n S.mem t a (kJ S.m.lv n) en with mem:=[] } else yb S D n S.mem t a (kJ S.m.lv n) en
theorem IxM.zW{w:World}{base gx gd r:Nat}{S:IxS}{b f d:List Nat}(h:IxM w base gx gd r S b f d):∃a,w.cell? ⟨gx,8,none⟩=some (mtp a)/\vZ w base a b S.mem:=by
 obtain⟨a,A,g,B,c2,i,c⟩:=h.cells;exact⟨a,c.cs.2.2.2.2.2.2.2.2,c.mem⟩
section
variable {At:jL}(api:jM At)(nap:jm)(iap:yn At){w0 w w':World}{gd gl gx r:Nat}{S:IxS}{D:jK}{E:List Nat}{L:jN}
include api in
theorem qKr(h:jz At w0 gd gx r S D E w):∃a,w.cell? ⟨gx,8,none⟩=some (mtp a)/\Calls prog 41 #[mtp a] w fun e w'=>e = .returned (.tuple #[])/\jz At w0 gd gx r { S with mem:=[] } D E w'/\jV E w w':=by
 obtain⟨o,q,p,c,m,d,f,g,i⟩:=h;obtain⟨a,A,s,B,c2,t,b⟩:=m.cells;refine⟨a,b.cs.2.2.2.2.2.2.2.2,(RH b.mem).mono ?_⟩;rintro e w'⟨n,rfl,j,k,l⟩;exact⟨rfl,jz.zF api c b d f g i j k l⟩
include api nap iap
theorem qKs(h:jz At w0 gd gx r S D (gl::E) w)(aL:jY w gl 76 (uy (ptr gl) gd L))(aH:gl ∉ E)(an:w0.heap.size<=gl)(wf:WfP D)(aF:L.chunks<=200)
  (U:WfP (vl D L).2.1) (Q:(vl D L).2.1.down=false) (P:(vl D L).2.1.count<=1000000) (ok:jl D S) (n:Nat) (hn:S.m.next=(n:Nat)) (ac:n<=999999) (hr:r<18446744073709551616) (hl:S.mem.length<=1000)
  (d:Nat) (ae:vd S.m.lv n=(d:Nat)) (T:∀t,gP S.mem r t->(je (vl D L).2.1 n S.mem t).1=0->(tgL (rdW (je (vl D L).2.1 n S.mem t).2 (ptT n)).1).length<=10000):
  Calls prog 10 #[ptr gx,ptr gl] w fun e w'=>∃t,(S.mem=[]∨(vl D L).1≠0∨gP S.mem r t)/\e = .returned (err (dJ (vl D L).1 (vl D L).2.1 S t n d (vl D L).2.2.endp).1) /\
   jz At w0 gd gx r (dK (vl D L).1 (vl D L).2.1 S t n d (vl D L).2.2.endp) (dJ (vl D L).1 (vl D L).2.1 S t n d (vl D L).2.2.endp).2 (gl::E) w'/\jY w' gl 76 (uy (ptr gl) gd (vl D L).2.2)/\jV E w w':=by
 have a:=(Below.refl w.heap.size w).alloc (qK _) (.cells #[ptr gx] 33);have H:=jY.new w 33 #[ptr gx];have ay:=qQ h.lt
 have c:=h.xJ api (E':=gl::(w.heap.size::E)) (B:=[]) (jG.qn a) (fun b a=>by cases a) (fun b o=>by
  rcases qL.1 o with e|o
  ·rw[e];exact qX qD
  ·rcases qL.1 o with e|o
   ·rw[e];exact qY ⟨qK _,H.lt⟩
   ·exact qX (qE _ o))
 have ar:=qQ (jV.qn a (fun b o=>ay.out b (qE _ o)));have ai:=jY.below aL a;obtain⟨l,a0⟩:∃l,w.heap.size=l:=⟨_,rfl⟩
 rw[a0]at c H;obtain⟨w1,a4⟩:∃w1,w.alloc (.cells #[ptr gx] 33)=w1:=⟨_,rfl⟩
 rw[a4]at c H ar ai
 have ak:gl ∉ l::E:=fun o=>by
  rcases qL.1 o with e|o
  ·have:=ay.out gl qD;omega
  ·exact aH o
 have af:=c.flush api nap ai ak an wf aF
 have aW:Hid (∀(S':IxS) (D':jK) (E':List Nat) W,jz At w0 gd gx r S' D' E' W->W.cell? ⟨gx,0,none⟩=some (ptr gx)):=qQ fun S' D' E' W k=>by
  obtain⟨_,_,_,_,aZ,_⟩:=k;obtain⟨_,_,_,_,_,_,aY⟩:=aZ.cells;exact aY.cs.1
 have c0:=aW.out _ _ _ _ c;have a1:=qQ (nY c0);have Z:=H.cell 0;have aR:=qQ H;have I:=qQ ok;have a5:=qQ (qU ak an);generalize vl D L=ft at*;obtain⟨f,i,j⟩:=ft;simp only at af U Q P T ⊢;have aU:=qQ af;clear h aL aH an wf aF ai c H ok ak af a c0;go_enter func10,ntmps10;go_wp2_with fail;refine a1.out.mono ?_;rintro e w'⟨rfl,rfl⟩;go_wp2_with fail;refine aU.out.mono ?_;rintro e g⟨rfl,i2,l2,k2⟩;have ag:=qQ (ar.out.trans (k2.less (fun b a=>qE _ a)));have v:=qQ i2;have X:=qQ l2;have B2:=k2.qa aR.out qD;have Z:=B2.cell 0;have ao:=qQ B2;clear i2 l2 k2 B2;by_cases R:f=0
 case neg =>
  have t1:((f:Int) != 0)=true:=by simp;omega
  have s:=qQ (show ∀t,dJ f i S t n d j.endp=(f,i)/\dK f i S t n d j.endp=S from fun t=>⟨by unfold dJ;rw[qV R],by unfold dK;rw[qV R]⟩);have aT:=qQ R;clear R U Q P hn ac hr hl ae T;go_wp2;go_ret;refine⟨ByteArray.empty,qY (qX aT.out), ?_⟩;rw[(s.out _).1,(s.out _).2]
  exact⟨rfl,v.out.less (fun b a=>by
   rcases qL.1 a with e|a
   ·rw[e];exact qD
   ·exact qE _ (qE _ a)),X.out,ag.out⟩
 case pos =>
  subst R;obtain⟨Fm,Gr,Gk,-,hM,-⟩:=v.out;obtain⟨q,J,hT⟩:=hM.zW;have O:=qQ (Zg hT);clear hM hT;by_cases y:S.mem=[]
  ·have s:=qQ (show ∀t,dJ 0 i S t n d j.endp=(0,i)/\dK 0 i S t n d j.endp=S from fun t=>⟨by unfold dJ;rw[qZ (by decide),qV y],by unfold dK;rw[qZ (by decide),qV y]⟩);have Y:=qQ y;rw[y]at O;have aX:=qQ (show Calls prog 35 #[mtp q] g fun e w'=>e = .returned (.int .i64 0)/\g=w' from O.out);clear y U Q P hn ac hr hl ae T O;go_wp2_with fail;refine aX.out.mono ?_;rintro e w'⟨rfl,rfl⟩;go_wp2;go_ret;refine⟨ByteArray.empty,qX Y.out, ?_⟩;rw[(s.out _).1,(s.out _).2]
   exact⟨rfl,v.out.less (fun b a=>by
    rcases qL.1 a with e|a
    ·rw[e];exact qD
    ·exact qE _ (qE _ a)),X.out,ag.out⟩
  ·have aK:((S.mem.length:Int)==0)=false:=by
    have:=List.length_pos_iff.2 y;simp;omega
   have aM:∀x∈S.mem,kI x:=I.out.ok;have aP:uY S.mem=true:=Qj I.out.qw I.out.mayE;have ah:=qQ (qU hl (qU aM aP));have Y:=qQ y
   have A:Hid (∀W,Below g.heap.size g W->jz At w0 gd gx r S i (gl::(l::E)) W/\jY W gl 76 (uy (ptr gl) gd j)/\jY W l 33 #[ptr gx]/\W.cell? ⟨gx,8,none⟩=some (mtp q)/\jV E w W):=qQ fun W k =>
    ⟨v.out.below api k,jY.below X.out k,jY.below ao.out k,(k.cell (p:=⟨gx,8,none⟩) (World.block_lt_of_cell? g _ J)).trans J,ag.out.trans (jV.qn k (fun b a=>v.out.lt b (qE _ (qE _ a))))⟩
   have V:Hid (Calls prog 37 #[mtp q] g.drew (yd g.drew S.mem)):=qQ (by
    obtain⟨Fm,Gr,Gk,-,hM,-⟩:=(v.out).drew api;obtain⟨ab,aa,aE⟩:=hM.zW
    have e:ab=q:=by
     have c:g.cell? ⟨gx,8,none⟩=some (mtp ab):=aa;rw[J]at c;injection c with c;injection c with c;injection c with c;injection c with c;exact c.symm
    rw[e]at aE;exact R9 aE.has (by omega))
   obtain⟨K,ad⟩:∃K,K=S.mem.length:=⟨_,rfl⟩
   have a6:=qQ ad;rw[<-ad]at O aK;unfold yd at V;rw[<-ad]at V;have a7:g.drew.cell? ⟨l,0,none⟩=some (ptr gx)/\g.drew.cell? ⟨gx,8,none⟩=some (mtp q):=⟨Z,J⟩
   have a8:∀(fn:Fn) (first aA:Array Value) (w:World),(Instr.makeFunc fn first aA).run prog w = .ok (.func fn first aA) w:=fun _ _ _ _=>rfl
   clear y hl aM aP ad;go_wp2_with fail;refine O.out.mono ?_;rintro e w'⟨rfl,rfl⟩;go_wp2_with fail;have ap:Hid (∀W,jY W gl 76 (uy (ptr gl) gd j)->Calls prog 38 #[ptr gl] W fun e w'=>e = .returned (.int .i64 (j.endp:Nat))/\W=w'):=qQ fun W k=>Uc (k.cell 0) (k.cell 4)
   have a3:=qKj S.m.lv n
   have av:Hid (∀(z:Option Addr) (F:Nat) (W:World),Below g.drew.heap.size g.drew W->jE W g.drew.heap.size (.slice z K F) S.mem->Calls prog 36 #[ptr gx,.slice z K F,.int .i64 (j.endp:Nat),.func (.func 39) #[] #[ptr l]] W fun e w'=>∃t,gP S.mem r t /\
     nV At w0 gd gx r (err (v7 i n S.mem t d (jv S (kJ S.m.lv n) j.endp)).1) (yb S i n S.mem t d (kJ S.m.lv n) j.endp) (v7 i n S.mem t d (jv S (kJ S.m.lv n) j.endp)).2 (jF (.slice z K F)++(gl::(l::E))) W e w'/\mK gx W w'):=qQ fun z F W k aN=>by
    obtain⟨q1,q2,q3,q4,q5⟩:=A.out W ((Below.refl _ g).drew.trans k);have a2:=fi aN;have i3:jz At w0 gd gx r S i (jF (.slice z K F)++(gl::(l::E))) W:=(v.out.drew api).more api k a2
    exact DK api nap iap i3 U Q P n hn ac I.out.seed hr _ S.mem aN.xQ (fun b a=>qG _ a) ah.out.1 ah.out.2.1 ah.out.2.2 _ _ #[ptr l] (enters_of func39 (by kernel_rfl) rfl) (kJ S.m.lv n) d
     (fun W' D' hi hk=>qKv hi I.out.may (hk.qa q3 (qJ _ (qE _ qD))) n d ae) (by omega) (by omega) T (by have:=I.out.xE;omega)
   have s:Hid (∀t,dJ 0 i S t n d j.endp=v7 i n S.mem t d (jv S (kJ S.m.lv n) j.endp)/\dK 0 i S t n d j.endp=(if (v7 i n S.mem t d (jv S (kJ S.m.lv n) j.endp)).1=0 then { yb S i n S.mem t d (kJ S.m.lv n) j.endp with mem:=[] } else yb S i n S.mem t d (kJ S.m.lv n) j.endp)):=qQ fun t=>⟨by unfold dJ;rw[qZ (by decide),qZ Y.out],by unfold dK;rw[qZ (by decide),qZ Y.out]⟩
   have az:Hid (∀W,Below g.drew.heap.size g.drew W->W.cell? ⟨l,0,none⟩=some (ptr gx)/\W.cell? ⟨gx,8,none⟩=some (mtp q)):=qQ fun W k=>by
    obtain⟨q1,q2,q3,q4,q5⟩:=A.out W ((Below.refl _ g).drew.trans k);exact⟨q3.cell 0,q4⟩
   clear aK U Q P hn ac hr ae T Z J a3
   go_region_held3 (fun W=>W.cell? ⟨l,0,none⟩=some (ptr gx)/\W.cell? ⟨gx,8,none⟩=some (mtp q))
    (first | (with_reducible assumption) | fail)
    (first
    | (go_at_call 37;((with_reducible refine V.out.mono ?_);rintro e G⟨z,F,rfl,r3,C⟩;have aC:=az.out G C;have aq:=qQ (ap.out G (A.out G ((Below.refl _ g).drew.trans C)).2.1);have aw:=qQ (av.out z F G C r3)))
    | (go_at_call 38;((with_reducible refine aq.out.mono ?_);rintro e w4⟨rfl,rfl⟩))
    | (go_at_call 36;((with_reducible refine aw.out.mono ?_);rintro e w5⟨t,aG,aI,aO⟩;have aD:w5.cell? ⟨l,0,none⟩=some (ptr gx)/\w5.cell? ⟨gx,8,none⟩=some (mtp q):=⟨(aI.2.2.qa (A.out G ((Below.refl _ g).drew.trans C)).2.2.1 (qJ _ (qE _ qD))).cell 0,Eq.trans aO aC.2⟩;obtain⟨rfl,aJ,am⟩:=aI))
    | fail)
   all_goals
    have ax:=qQ (am.qa (A.out G ((Below.refl _ g).drew.trans C)).2.1 (qJ _ qD));have au:=qQ ((A.out G ((Below.refl _ g).drew.trans C)).2.2.2.2.trans (am.less (fun b a=>qJ _ (qE _ (qE _ a)))))
    have al:=aJ.less (E':=gl::E) (fun b a=>by
     rcases qL.1 a with e|a
     ·rw[e];exact qJ _ qD
     ·exact qJ _ (qE _ (qE _ a)))
    obtain⟨ab,aa,aj⟩:=qKr api al
    have aB:ab=q:=by
     have c:=aD.2.symm.trans aa;injection c with c;injection c with c;injection c with c;injection c with c;exact c.symm
    rw[aB]at aj;have aS:=qQ aj;have aV:=qQ al;have u:=qQ (qU aG (s.out t));obtain⟨Z,J⟩:=aD;clear aJ am al aj aG aa aB aO aC r3 C aw av s aq A az V ap v X ao;generalize yb S i n S.mem t d (kJ S.m.lv n) j.endp=S' at*;generalize v7 i n S.mem t d (jv S (kJ S.m.lv n) j.endp)=lp at*;obtain⟨aQ,D5⟩:=lp;by_cases hz:aQ=0
    ·subst hz;go_wp2_with fail;refine aS.out.mono ?_;rintro e w6⟨rfl,i6,k6⟩;have H6:=qQ (qU i6 (qU (k6.qa ax.out qD) (au.out.trans (k6.less (fun b a=>qE _ a)))));clear i6 k6;go_wp2;go_ret;refine⟨t,(by first | exact qY u.out.1 | exact qY (qY u.out.1)), ?_⟩;rw[u.out.2.1,u.out.2.2,qV (by trivial)];exact⟨rfl,H6.out.1,H6.out.2.1,H6.out.2.2⟩
    ·have t1:((aQ:Int)==0)=false:=(by simp;omega);have HZ:=qQ hz;clear hz;go_wp2;go_ret;refine⟨t,(by first | exact qY u.out.1 | exact qY (qY u.out.1)), ?_⟩;rw[u.out.2.1,u.out.2.2,qZ HZ.out];exact⟨rfl,aV.out,ax.out,au.out⟩
end
end
section
theorem sQ{n:Nat}(h:n<=999999):ku (ptT n)=true/\npK (ptT n)=116/\npN (ptT n)=n/\ku (ptB n)=true/\npK (ptB n)=98/\npN (ptB n)=n:=by
 obtain⟨a,b,d⟩:=Xc (c:=116) (by decide) h;obtain⟨f,g,i⟩:=Xc (c:=98) (by decide) h;exact⟨a,b,d,f,g,i⟩
theorem sX{n m:Nat}(h:n<=999999)(k:m<=999999):(ptT n=ptT m->n=m)/\(ptB n=ptB m->n=m):=by
 obtain⟨-,-,a,-,-,b⟩:=sQ h;obtain⟨-,-,c,-,-,d⟩:=sQ k;exact⟨fun e=>by rw[e]at a;omega,fun e=>by rw[e]at b;omega⟩
theorem Qu: ku jC=false:=by decide +kernel
theorem DY: ku jB=false:=by decide +kernel
theorem dx{n:Nat}(h:n<=999999):ptT n≠jC/\ptT n≠jB/\ptB n≠jC/\ptB n≠jB:=by
 obtain⟨a,-,-,b,-,-⟩:=sQ h;have m:=Qu;have w:=DY;exact⟨fun e=>by rw[e,m]at a;exact Bool.noConfusion a,fun e=>by rw[e,w]at a;exact Bool.noConfusion a,fun e=>by rw[e,m]at b;exact Bool.noConfusion b,fun e=>by rw[e,w]at b;exact Bool.noConfusion b⟩
theorem qKt(T:List TbS):(T.flatMap fun t=>[ptT t.n,ptB t.n]).length=2*T.length:=by
 induction T with
 | nil=>rfl
 | cons t T a =>
   rw[List.flatMap_cons,qI,a,qk];show 2+2*T.length=2*(T.length+1);omega
theorem nG{D:jK}{n:Tw}(h:n ∉ j7 D):jW D.l n=none:=fS.2 fun f a e=>h (qN.2 ⟨f,a,e⟩)
theorem qKa{D E:jK}{S:IxS}(ok:jl D S){n:Nat}(J:S.m.next=(n:Nat)){R:LvL}{en:Int}(p:jw ⟨S.m.next+1,en,S.m.seed,R⟩){x:TbS}(g:x.n=n)(F:vO E n x.l)(G:bf x.t x.l=true){P:Int->Prop}
  (d:∀y:Int,y∈R.flatten↔y=n∨(y∈S.m.lv.flatten/\P y)) (v:∀t∈uP S.T R,jW E.l (ptT t.n)=jW D.l (ptT t.n)) {mem:List jJ} (C:jh mem) (A:∀y∈mem,kI y) (z:∀y∈mem,mayE y=true):jl E (fA S R en x mem):=by
 have hst:∀t:TbS,t∈uP S.T R↔t∈S.T/\(t.n:Int)∈R.flatten:=fun t=>by unfold uP;rw[List.mem_filter];simp
 refine⟨p,ok.seed,fun y=>?_, ?_,fun t c=>?_,fun t c=>?_,C,A,z⟩
 ·show y∈R.flatten↔∃t∈uP S.T R++[x],(t.n:Int)=y;rw[d];constructor
  ·rintro (rfl|⟨i,H⟩)
   ·exact⟨x,qJ _ (qH.2 rfl),by rw[g]⟩
   ·obtain⟨t,c,rfl⟩:=(ok.xY y).1 i;exact⟨t,qG _ ((hst t).2 ⟨c,(d _).2 (qY ⟨i,H⟩)⟩),rfl⟩
  ·rintro ⟨t,c,rfl⟩;rcases qB.1 c with q|q
   ·exact(d _).1 ((hst t).1 q).2
   ·rw[qH.1 q,g];exact qX rfl
 ·show((uP S.T R++[x]).map TbS.n).Nodup;rw[List.map_append];refine List.nodup_append.2 ⟨(List.Sublist.map _ List.filter_sublist).nodup ok.uniq,by simp,fun a s b u e=>?_⟩;obtain⟨t,c,rfl⟩:=qN.1 s;have:=(ok.xU ((hst t).1 c).1).2;have I:b=x.n:=by simpa using u
  omega
 ·rcases qB.1 c with q|q
  ·obtain⟨f,j,k,o⟩:=ok.has t ((hst t).1 q).1;exact⟨f,by rw[v t q];exact j,k,o⟩
  ·rw[qH.1 q,g];exact F
 ·rcases qB.1 c with q|q
  ·exact ok.keep t ((hst t).1 q).1
  ·rw[qH.1 q];exact G
theorem sZ{D:jK}(h:UpD D)(b:(j7 D).Nodup)(n:Tw):∃e E,j6 D n=(e,E)/\cD e=true/\UpD E/\kF D E/\jA E.l<=jA D.l/\(j7 E).Nodup/\(∀k,k∈j7 E↔k∈j7 D/\k≠n)/\∀k,k≠n->jW E.l k=jW D.l k:=by
 cases c:jW D.l n with
 | none =>
   refine⟨4,D,sj h.down c,rfl,h,kF.refl D,qK _,b,fun k=>⟨fun a=>⟨a,fun e=>?_⟩,fun a=>a.1⟩,fun k _=>rfl⟩;obtain⟨f,j,m⟩:=qN.1 a;exact fS.1 c f j (m.trans e)
 | some f =>
   obtain⟨E,d,u1,c1,q,o,s,t,p⟩:=sy h c;have i:=C9 D n;rw[d]at i
   have g:j7 E=(j7 D).filter (fun x=>!decide (x=n)):=by
    show E.l.map jU.name=_;rw[o];exact pc n D.l b
   refine⟨0,E,d,rfl,u1,i,by omega,by rw[g];exact List.Pairwise.filter _ b,fun k=>?_,p⟩;rw[g,List.mem_filter];simp
structure Jr(D E:jK)(ns:List Int):Prop where
 up:UpD E
 stays:kF D E
 used:jA E.l<=jA D.l
 nodup:(j7 E).Nodup
 names:∀k,k∈j7 E↔k∈j7 D/\∀n∈ns,k≠ptT n/\k≠ptB n
 other:∀k,(∀n∈ns,k≠ptT n/\k≠ptB n)->jW E.l k=jW D.l k
theorem DU{D:jK}(h:UpD D)(j:(j7 D).Nodup)(n:Int):∃E,yf D n=(0,E)/\Jr D E [n]:=by
 obtain⟨A,z,g,d,u1,v,F,b,m,p⟩:=sZ h j (ptT n);obtain⟨C,a,i,f,u2,y,G,c,o,s⟩:=sZ u1 b (ptB n);refine⟨a, ?_,u2,v.trans y,by omega,c,fun k=>?_,fun k l=>?_⟩
 ·unfold yf;rw[g];simp only;rw[qZ (by rw[d];decide),i];simp only;rw[qZ (by rw[f];decide)]
 ·rw[o,m];simp only[List.mem_singleton,forall_eq];exact⟨fun q=>⟨q.1.1,q.1.2,q.2⟩,fun q=>⟨⟨q.1,q.2.1⟩,q.2.2⟩⟩
 ·obtain⟨t,u⟩:=l n qD;rw[s k u,p k t]
theorem DG: ∀(ns:List Int) {D:jK},UpD D->(j7 D).Nodup->∃E,fC D ns=(0,E)/\Jr D E ns
 | [],D,h,hd=>⟨D,rfl,h,kF.refl D,qK _,hd,fun k=>by simp,fun k _=>rfl⟩
 | n::ns,D,h,hd=>by
   obtain⟨j,g,a⟩:=DU h hd n;obtain⟨f,i,b⟩:=DG ns a.up a.nodup;refine⟨f, ?_,b.up,a.stays.trans b.stays,qO b.used a.used,b.nodup,fun k=>?_,fun k d=>?_⟩
   ·rw[DV,g];simp only;rw[qZ (by decide)];exact i
   ·rw[b.names,a.names];simp only[List.mem_cons,List.not_mem_nil,or_false,forall_eq_or_imp,forall_eq];exact⟨fun q=>⟨q.1.1,q.1.2,q.2⟩,fun q=>⟨⟨q.1,q.2.1⟩,q.2.2⟩⟩
   ·rw[b.other k (fun m c=>d m (qE _ c)),a.other k (fun m c=>by rw[qH.1 c];exact d n qD)]
structure qKe(D E:jK)(n:Nat)(l:List jJ)(t:Tw)(m:j5):Prop where
 up:UpD E
 qp:E.qp=D.qp
 cap:E.cap=D.cap
 count:E.count<=D.count+2
 used:jA E.l<=jA D.l+t.size+(tbB l).size+(mfB m).size
 has:vO E n l
 names:∀k∈j7 E,k=jC∨k=ptT n∨k=ptB n∨k∈j7 D
 other:∀k,k≠jC->k≠jB->k≠ptT n->k≠ptB n->jW E.l k=jW D.l k
theorem pQ{D:jK}{n:Int}{l:List jJ}(a:D.down=false)(h:vO D n l):jo D n=0/\tgL (rdW D (ptT n)).1=l:=by
 obtain⟨f,b,c,d⟩:=h;unfold jo;rw[cW a b,qZ (by rw[a];decide)];simp[c,d]
theorem DW{D E:jK}{n:Nat}{l:List jJ}{t:Tw}(h:je D n l t=(0,E))(a:(j7 D).Nodup)(w:ru D E n l t):(j7 E).Nodup/\kF D E/\∀k∈j7 E,k=ptT n∨k=ptB n∨k∈j7 D:=by
 have e:E=(jk (jk D (ptB n) t).2 (ptT n) (tbB l)).2:=by
  unfold je at h;split at h
  ·cases h
  ·split at h
   ·cases h
   ·split at h
    ·cases h
    ·split at h
     ·rename_i c;exact absurd (by rw[h]) c
     ·split at h
      ·rename_i c;exact absurd (congrArg Prod.fst h) c
      ·rw[h]
 rw[e];refine⟨rh (rh a),(mZ _ _ _).trans (mZ _ _ _),fun k b=>?_⟩;rcases Jc b with q|q
 ·exact qX q
 ·rcases Jc q with q|q
  ·exact qY (qX q)
  ·exact qY (qY q)
theorem DA{D:jK}{l:List jU}(h:(j7 D).Nodup)(k:(l.map jU.name).Nodup):(j7 (yW D { D with l:=l }).2).Nodup:=by
 unfold yW;split
 ·exact k
 ·rw[Qx];exact h
theorem Qg{D:jK}(h:(j7 D).Nodup)(n:Tw):(j7 (j6 D n).2).Nodup:=by
 unfold j6;split
 ·exact h
 ·split
  ·exact DA h (rf h)
  ·exact h
theorem qKi{l:List jU}(n:Tw)(h:(l.map jU.name).Nodup):((yM l n).map jU.name).Nodup:=by
 unfold yM;split
 ·exact rf h
 ·exact h
theorem qKo{l:List jU}{f:jU}(h:(l.map jU.name).Nodup)(d:jW l f.name=none):((kY l f).map jU.name).Nodup:=by
 have i:((kY l f).map jU.name).Perm (f.name::l.map jU.name):=by
  unfold kY;generalize vp l f.name=k;have e:l.map jU.name=(l.take k).map jU.name++(l.drop k).map jU.name:=by rw[<-List.map_append,ql]
  rw[e,List.map_append,List.map_append];show((l.take k).map jU.name++[f.name]++(l.drop k).map jU.name).Perm _;rw[qb];exact List.perm_middle
 refine i.nodup_iff.2 (List.nodup_cons.2 ⟨fun c=>?_,h⟩);obtain⟨g,b,a⟩:=qN.1 c;exact fS.1 d g b a
theorem qKw{D:jK}(h:(j7 D).Nodup)(n m:Tw):(j7 (vD D n m).2).Nodup:=by
 unfold vD;split
 ·exact h
 ·split
  ·split
   ·exact h
   ·refine DA h ?_;split
    ·exact h
    ·cases a:D.l[jD D.l n]? with
     | none =>
       unfold fH;rw[a];exact h
     | some f =>
       rw[nL a];exact qKo (qKi m (rf h)) (Cx (rf h))
  ·exact h
theorem qVQ{D:jK}(h:(j7 D).Nodup)(m:j5):(j7 (yc D m).2).Nodup:=by
 unfold yc;split
 ·exact h
 ·split
  ·exact h
  ·split
   ·exact Qg h _
   ·split
    ·exact Qg h _
    ·split
     ·exact rh (Qg h _)
     ·exact qKw (rh (Qg h _)) _ _
theorem Js{x:Tw}(h:isC x=true):ku x=true/\npK x=99:=by
 unfold isC at h;rw[Bool.and_eq_true]at h;exact⟨h.1,by simpa using h.2⟩
theorem lB{x:Tw}(h:isC x=true):x≠jC/\x≠jB/\∀n:Nat,n<=999999->x≠ptT n/\x≠ptB n:=by
 obtain⟨a,b⟩:=Js h;have m:=Qu;have w:=DY;refine⟨fun e=>?_,fun e=>?_,fun n f=>?_⟩
 ·rw[e,m]at a;exact Bool.noConfusion a
 ·rw[e,w]at a;exact Bool.noConfusion a
 ·obtain⟨-,c,-,-,d,-⟩:=sQ f;refine⟨fun e=>?_,fun e=>?_⟩
  ·rw[e,c]at b;exact absurd b (by decide)
  ·rw[e,d]at b;exact absurd b (by decide)
structure vi(X:List Tw)(D:jK)(S:IxS):Prop where
 up:UpD D
 nodup:(j7 D).Nodup
 only:∀n∈j7 D,n=jC∨n∈X∨∃t∈S.T,n=ptT t.n∨n=ptB t.n
 xA:∀x∈X,isC x=true
 xD:X.length<=200
theorem vi.many{X:List Tw}{D:jK}{S:IxS}(h:vi X D S)(ok:jl D S):D.l.length<=281:=by
 have a:=rm (b:=jC::(X++S.T.flatMap fun t=>[ptT t.n,ptB t.n])) h.nodup (fun n c=>by
  rcases h.only n c with e|e|⟨t,d,e⟩
  ·rw[e];exact qD
  ·exact qE _ (qG _ e)
  ·refine qE _ (qJ _ (List.mem_flatMap.2 ⟨t,d, ?_⟩));rcases e with e|e<;>rw[e]<;>simp)
 have f:(j7 D).length=D.l.length:=qj _;rw[qk,qI,qKt]at a;have:=ok.xE;have:=h.xD;omega
theorem vi.none_{X:List Tw}{D:jK}{S:IxS}(h:vi X D S)(ok:jl D S):jW D.l jB=none/\∀n:Nat,n<=999999->S.m.next<=n->jW D.l (ptT n)=none/\jW D.l (ptB n)=none:=by
 refine⟨nG fun b=>?_,fun n a f=>⟨nG fun b=>?_,nG fun b=>?_⟩⟩
 ·rcases h.only _ b with e|e|⟨t,c,e⟩
  ·exact Xt e.symm
  ·exact(lB (h.xA _ e)).2.1 rfl
  ·have:=(ok.xU c).1;have:=dx (n:=t.n) (by omega);rcases e with e|e
   ·exact this.2.1 e.symm
   ·exact this.2.2.2 e.symm
 ·rcases h.only _ b with e|e|⟨t,c,e⟩
  ·exact(dx a).1 e
  ·exact((lB (h.xA _ e)).2.2 n a).1 rfl
  ·have d:=ok.xU c;rcases e with e|e
   ·have:=(sX a (by omega)).1 e;omega
   ·exact mq (by omega) a e.symm
 ·rcases h.only _ b with e|e|⟨t,c,e⟩
  ·exact(dx a).2.2.1 e
  ·exact((lB (h.xA _ e)).2.2 n a).2 rfl
  ·have d:=ok.xU c;rcases e with e|e
   ·exact mq a (by omega) e
   ·have:=(sX a (by omega)).2 e;omega
theorem vi.count{X:List Tw}{D:jK}{S:IxS}(h:vi X D S)(k:Nat):vi X { D with count:=k } S:=⟨h.up.count k,h.nodup,h.only,h.xA,h.xD⟩
structure bZ(D E:jK):Prop where
 up:UpD E
 nodup:(j7 E).Nodup
 qp:E.qp=D.qp
 cap:E.cap=D.cap
 count:E.count<=D.count+2
 used:jA E.l<=jA D.l
 names:∀k∈j7 E,k∈j7 D
 files:∀k,jW E.l k=jW D.l k
theorem bZ.refl{D:jK}(h:UpD D)(a:(j7 D).Nodup):bZ D D:=⟨h,a,rfl,rfl,by omega,qK _,fun k b=>b,fun k=>rfl⟩
theorem bZ.ok{D E:jK}{S:IxS}(h:bZ D E)(ok:jl D S):jl E S:=by
 refine⟨ok.may,ok.seed,ok.xY,ok.uniq,fun u d=>?_,ok.keep,ok.qw,ok.ok,ok.mayE⟩;obtain⟨f,a,b,c⟩:=ok.has u d;exact⟨f,by rw[h.files];exact a,b,c⟩
theorem bZ.dk{X:List Tw}{D E:jK}{S:IxS}(h:bZ D E)(k:vi X D S):vi X E S:=⟨h.up,h.nodup,fun n a=>k.only n (h.names n a),k.xA,k.xD⟩
theorem qVX{D:jK}(h:UpD D){m:j5}(a:jw m)(b:jW D.l jB=none)(c:D.cap<jA D.l+(mfB m).size+6000):yc D m=(60,D):=by
 unfold yc;rw[qZ (by simpa using a),qZ (by simp[h.down]),sj h.down b];simp only;rw[qZ (by decide),qV (by omega)]
theorem qVZ{D a:jK}{n:Nat}(H:n<=999999){l:List jJ}{t:Tw}(F:(j7 D).Nodup)(J:jW D.l (ptT n)=none)(K:jW D.l (ptB n)=none)(A:je D n l t=(0,a))(w1:ru D a n l t)(j:Nat)(R:j<=2):
  ∃E,yf { a with count:=a.count+j } (n:Nat)=(0,E)/\bZ D E:=by
 obtain⟨z,P,O⟩:=DW A F w1;obtain⟨c,i,b⟩:=DU (D:={ a with count:=a.count+j }) (w1.up.count _) z (n:Nat);obtain⟨s,C,u3,y,p,T,Q⟩:=qKJ (D:={ a with count:=a.count+j }) (w1.up.count _) (n:=n) H w1.table w1.xr;obtain rfl:c=s:=congrArg Prod.snd (i.symm.trans C);have hw:=w1.used;simp only at Q p;refine⟨c,i,b.up,b.nodup,b.stays.qp.trans P.qp,y.trans w1.cap,by rw[p,w1.count];omega,by omega,fun k G=>?_,fun k=>?_⟩
 ·obtain⟨u,v⟩:=(b.names k).1 G;obtain⟨d,f⟩:=v _ qD;rcases O k u with e|e|e
  ·exact absurd e d
  ·exact absurd e f
  ·exact e
 ·have o:∀q:Tw,(q=ptT n∨q=ptB n)->jW c.l q=none:=fun q I=>nG fun g=>by
   obtain⟨d,f⟩:=((b.names q).1 g).2 _ qD;rcases I with e|e
   ·exact d e
   ·exact f e
  by_cases c1:k=ptT n
  ·rw[o k (qX c1),c1,J]
  ·by_cases c2:k=ptB n
   ·rw[o k (qY c2),c2,K]
   ·rw[b.other k (fun m g=>by rw[qH.1 g];exact⟨c1,c2⟩)];exact w1.other k c1 c2
structure DB(D E:jK)(n:Nat)(l:List jJ)(t:Tw)(m:j5):Prop where
 laid:qKe D E n l t m
 map:jW E.l jC=some ⟨jC,mfB m,(mfB m).size⟩
 zo : jW E.l jB=none
 nodup:(j7 E).Nodup
theorem Jt{X:List Tw}{D:jK}{S:IxS}(dk:vi X D S)(ok:jl D S){n:Nat}(hn:S.m.next=(n:Nat))(s:n<=999999){l:List jJ}(hr:jh l)(hm:∀x∈l,mayE x=true)(hx:∀x∈l,kI x)(hl:l.length<=10000)(t:Tw)
  {R:LvL} {en:Int} (C:jw (jv S R en)) (o:Nat):
  (o=0/\∃E x,v7 D n l t o (jv S R en)=(0,E)/\yb S D n l t o R en=fA S R en x S.mem/\x.n=n/\x.l=l/\bf x.t x.l=true/\DB D E n l t (jv S R en)) ∨
  (∃e E,v7 D n l t o (jv S R en)=(e,E)/\e≠0/\(e=60∨e=o)/\(o≠0∨D.cap<jA D.l+t.size+(tbB l).size+6190)/\yb S D n l t o R en=S/\bZ D E):=by
 have G:=Qj hr hm;obtain⟨k1,k2⟩:=dk.none_ ok;obtain⟨O,P⟩:=k2 n s (by omega);have af:=dk.many ok;by_cases ac:jA D.l+t.size+(tbB l).size+6000<=D.cap
 ·obtain⟨g,q,p⟩:=C6 dk.up (n:=n) s G (t:=t) (by omega) O P ac;obtain⟨H,s1,n1⟩:=DW q dk.nodup p;have J:=p.has (by omega) hx G;obtain⟨Q,o2⟩:=pQ p.up.down J;obtain⟨j,hj,o3⟩:=(Jp g g.count (n:Nat) p.up.down).2;have T:ye g (n:Nat)={ g with count:=g.count+j }:=o3;have K:jW g.l jB=none:=by rw[p.other jB (fun e=>(dx (n:=n) s).2.1 e.symm) (fun e=>(dx (n:=n) s).2.2.2 e.symm)];exact k1
  have back:∀(i:Nat) (e:Nat),i<=2->e≠0->(e=60∨e=o)->(o≠0∨D.cap<jA D.l+t.size+(tbB l).size+6190)->vP g n o (jv S R en)=(e, { g with count:=g.count+i }) ->
    ∃e E,v7 D n l t o (jv S R en)=(e,E)/\e≠0/\(e=60∨e=o)/\(o≠0∨D.cap<jA D.l+t.size+(tbB l).size+6190)/\yb S D n l t o R en=S/\bZ D E:=by
   intro i e hi F aa ae v;obtain⟨u,z,y⟩:=qVZ s dk.nodup O P q p i hi;refine⟨e,u, ?_,F,aa,ae, ?_,y⟩
   ·unfold v7;rw[q];simp only;rw[qZ (by decide),v];simp only;rw[qV F,z]
   ·unfold yb;rw[q];simp only;rw[qZ (by decide)];unfold bQ;rw[v];exact qZ F
  by_cases A:o=0
  ·subst A;by_cases ad:jA g.l+(mfB (jv S R en)).size+6000<=g.cap
   ·refine qX ⟨rfl, ?_⟩;obtain⟨u,z,u2,y,q2,l2,Y,Z,I,x2⟩:=qKA (D:={ g with count:=g.count+j }) (p.up.count _) H C K (by show g.l.length<_;rw[p.many];omega) ad
    have v:vP g n 0 (jv S R en)=(0,u):=by
     unfold vP;rw[qZ (by decide),qZ (by rw[Q];decide),T];exact z
    have hw:=p.used
    have ab:(j7 u).Nodup:=by
     have:=qVQ (D:={ g with count:=g.count+j }) H (jv S R en);rw[z]at this;exact this
    refine⟨u,Qk g n, ?_, ?_,rfl,o2, ?_,⟨u2,(y.qp.trans s1.qp),(y.cap.trans p.cap), ?_, ?_, ?_,fun k hk=>?_,fun k a b c d=>?_⟩,Y,Z,ab⟩
    ·unfold v7;rw[q];simp only;rw[qZ (by decide),v];simp
    ·unfold yb;rw[q];simp only;rw[qZ (by decide)];unfold bQ;rw[v];simp
    ·show bf (ldF _ _ _) _=true;exact UA _ _ _
    ·have:=y.count;have:=p.count;show u.count<=_;simp only at*;omega
    ·show jA u.l<=_;simp only at q2;omega
    ·obtain⟨f,U,V,W⟩:=J;exact⟨f,by rw[I _ (fun e=>(dx (n:=n) s).1 e) (fun e=>(dx (n:=n) s).2.1 e)];exact U,V,W⟩
    ·rcases x2 k hk with e|e
     ·exact qX e
     ·rcases n1 k e with e|e|e
      ·exact qY (qX e)
      ·exact qY (qY (qX e))
      ·exact qY (qY (qY e))
    ·rw[I k a b];exact p.other k c d
   ·refine qY (back j 60 hj (by decide) (qX rfl) (qY (by have:=p.used;have:=p.cap;have:=tQ C;omega)) ?_);unfold vP;rw[qZ (by decide),qZ (by rw[Q];decide),T];exact qVX (D:={ g with count:=g.count+j }) (p.up.count _) C K (by show g.cap<jA g.l+_+_;omega)
  ·refine qY (back 0 o (by omega) A (qY rfl) (qX A) ?_);unfold vP;rw[qV A];rfl
 ·have q:=C7 dk.up (n:=n) s G (t:=t) (by omega);refine qY ⟨60,D, ?_,by decide,qX rfl,qY (by omega), ?_,bZ.refl dk.up dk.nodup⟩
  ·unfold v7;rw[q];simp
  ·unfold yb;rw[q];simp
structure pX(X:List Tw)(D E:jK)(S S':IxS):Prop where
 ok:jl E S'
 dk:vi X E S'
 has:∀x,yF S' x↔yF S x
 xK:∀x,(∃t∈S.T,x∈t.l)->∃t∈S'.T,x∈t.l
 qp:E.qp=D.qp
 cap:E.cap=D.cap
 other:∀k,isC k=true->jW E.l k=jW D.l k
theorem bZ.step{X:List Tw}{D E:jK}{S:IxS}(h:bZ D E)(dk:vi X D S)(ok:jl D S):pX X D E S S:=⟨h.ok ok,h.dk dk,fun x=>Iff.rfl,fun x a=>a,h.qp,h.cap,fun k _=>h.files k⟩
theorem DC{X:List Tw}{D I E:jK}{S:IxS}(dk:vi X D S)(ok:jl D S){n:Nat}(hn:S.m.next=(n:Nat))(g:n<=999999){l:List jJ}{t:Tw}{R:LvL}{en:Int}(W:jw (jv S R en)){x:TbS}(H:x.n=n)(xl:x.l=l)(xk:bf x.t x.l=true)
  (L:DB D I n l t (jv S R en)) {ns:List Int} (b:Jr I E ns) (J:∀y:Int,y∈R.flatten↔y=n∨(y∈S.m.lv.flatten/\y ∉ ns)) (ad:∀y∈ns,y∈S.m.lv.flatten)
  {mem:List jJ} (hr:jh mem) (ae:∀y∈mem,kI y) (ab:∀y∈mem,mayE y=true) (Y:∀y,yF (fA S R en x mem) y↔yF S y) (af:∀y,(∃u∈S.T,y∈u.l)->∃u∈(fA S R en x mem).T,y∈u.l):
  pX X D E S (fA S R en x mem)/\jW E.l jC=some ⟨jC,mfB (jv S R en),(mfB (jv S R en)).size⟩:=by
 have hst:∀u:TbS,u∈uP S.T R↔u∈S.T/\(u.n:Int) ∉ ns:=fun u=>by
  unfold uP;rw[List.mem_filter,decide_eq_true_iff,J];constructor
  ·rintro ⟨c,d|d⟩
   ·have:=(ok.xU c).2;omega
   ·exact⟨c,d.2⟩
  ·rintro ⟨c,d⟩;exact⟨c,qY ⟨(ok.xY _).2 ⟨u,c,rfl⟩,d⟩⟩
 have p:∀y∈ns,∃j:Nat,y=(j:Nat)/\j<n:=fun y a=>by
  obtain⟨u,c,rfl⟩:=(ok.xY y).1 (ad y a);exact⟨u.n,rfl,by have:=(ok.xU c).2;omega⟩
 have K:∀j:Nat,j<=999999->(j:Int) ∉ ns->∀y∈ns,(ptT j≠ptT y/\ptT j≠ptB y)/\ptB j≠ptT y/\ptB j≠ptB y:=fun j o O y a=>by
  obtain⟨i,rfl,C⟩:=p y a;exact⟨⟨fun e=>by have:=(sX o (by omega)).1 e;subst this;exact O a,fun e=>mq (by omega) o e.symm⟩,fun e=>mq o (by omega) e,fun e=>by have:=(sX o (by omega)).2 e;subst this;exact O a⟩
 have ac:((n:Nat):Int) ∉ ns:=fun F=>by
  obtain⟨i,e,C⟩:=p _ F;omega
 have aa:∀y∈ns,jC≠ptT y/\jC≠ptB y:=fun y a=>by
  obtain⟨i,rfl,C⟩:=p y a;have:=dx (n:=i) (by omega);exact⟨fun e=>this.1 e.symm,fun e=>this.2.2.1 e.symm⟩
 refine⟨⟨?_,⟨b.up,b.nodup,fun q hq=>?_,dk.xA,dk.xD⟩,Y,af,b.stays.qp.trans L.laid.qp,b.stays.cap.trans L.laid.cap,fun k Z=>?_⟩,by rw[b.other _ aa];exact L.map⟩
 ·refine qKa ok hn W H ?_ xk (P:=fun y=>y ∉ ns) J (fun u G=>?_) hr ae ab
  ·rw[xl];obtain⟨f,v,z,Q⟩:=L.laid.has;exact⟨f,by rw[b.other _ (fun y a=>(K n g ac y a).1)];exact v,z,Q⟩
  ·obtain⟨ag,ah⟩:=(hst u).1 G;have d:=ok.xU ag;have s:u.n<=999999:=(by omega);have:=dx s;rw[b.other _ (fun y a=>(K u.n s ah y a).1)];exact L.laid.other _ this.1 this.2.1 (fun e=>by have:=(sX s g).1 e;omega) (fun e=>mq g s e.symm)
 ·show q=jC∨q∈X∨∃u∈uP S.T R++[x],q=ptT u.n∨q=ptB u.n;obtain⟨c,d⟩:=(b.names q).1 hq;rcases L.laid.names q c with e|e|e|e
  ·exact qX e
  ·exact qY (qY ⟨x,qJ _ (qH.2 rfl),qX (by rw[H];exact e)⟩)
  ·exact qY (qY ⟨x,qJ _ (qH.2 rfl),qY (by rw[H];exact e)⟩)
  ·rcases dk.only q e with e|e|⟨u,G,e⟩
   ·exact qX e
   ·exact qY (qX e)
   ·refine qY (qY ⟨u,qG _ ((hst u).2 ⟨G,fun F=>?_⟩),e⟩);obtain⟨v,z⟩:=d _ F;rcases e with e|e
    ·exact v e
    ·exact z e
 ·obtain⟨U,V,A⟩:=lB Z
  rw[b.other k (fun y a=>by
   obtain⟨i,rfl,C⟩:=p y a;exact A i (by omega))]
  exact L.laid.other k U V (A n g).1 (A n g).2
theorem qVJ{X:List Tw}{D:jK}{S:IxS}(dk:vi X D S)(ok:jl D S){n:Nat}(C:S.m.next=(n:Nat))(F:n<=999999)(I:S.mem.length<=10000)(t:Tw){en:Int}(v:0<=en)(z:en<=2147483647){g:Nat}(G:vd S.m.lv n=(g:Nat)):
  ∃e E S',dJ 0 D S t n g en=(e,E)/\dK 0 D S t n g en=S'/\pX X D E S S'/\E.count<=D.count+2/\S'.m.seed=S.m.seed /\
   ((e=0/\S.mem=[]/\S'=S/\E=D) ∨
    (e=0/\S.mem≠[]/\S'.mem=[]/\S'.m=jv S (kJ S.m.lv n) en/\S'.T.length=S.T.length+1/\jW E.l jC=some ⟨jC,mfB S'.m,(mfB S'.m).size⟩/\jA E.l<=jA D.l+t.size+(tbB S.mem).size+190) ∨
    (e=60/\S.mem≠[]/\S'=S/\bZ D E/\(S.T.length=40∨D.cap<jA D.l+t.size+(tbB S.mem).size+6190))):=by
 by_cases b:S.mem=[]
 ·refine⟨0,D,S, ?_, ?_,(bZ.refl dk.up dk.nodup).step dk ok,by omega,rfl,qX ⟨rfl,b,rfl,rfl⟩⟩
  ·unfold dJ;rw[qZ (by decide),qV b]
  ·unfold dK;rw[qZ (by decide),qV b]
 ·have p:=ok.may;have K:=Cy p.2.2.2.2.1 (n:=(n:Nat)) (by omega) (fun x hx=>by have:=p.2.2.2.2.2 x hx;omega)
  have aa:g=0∨(g=60/\S.T.length=40):=by
   rw[G]at K;split at K
   ·rename_i c;exact qY ⟨by omega,by rw[ok.many];exact c⟩
   ·exact qX (by omega)
  have A:dJ 0 D S t n g en=v7 D n S.mem t g (jv S (kJ S.m.lv n) en):=by unfold dJ;rw[qZ (by decide),qZ b]
  rcases aa with rfl|⟨rfl,R⟩
  ·have J:vd S.m.lv n=0:=G;obtain⟨O,a2,-⟩:=KC J;have s:=fun y=>qKD J y
   have o:jw (jv S (kJ S.m.lv n) en):=⟨by show 0<=S.m.next+1;omega,by show S.m.next+1<=_;omega,v,z,O,fun y a=>by
    show y<S.m.next+1;rcases(s y).1 a with e|e
    ·omega
    ·have:=p.2.2.2.2.2 y e;omega⟩
   rcases Jt dk ok C F ok.qw ok.mayE ok.ok I t o 0 with⟨-,E,x,f,j,xn,H,xk,L⟩|⟨e,E,f,P,Q,ac,j,i⟩
   ·have hst:∀u∈S.T,u∈uP S.T (kJ S.m.lv n):=fun u d=>List.mem_filter.2 ⟨d,qA ((s _).2 (qY ((ok.xY _).2 ⟨u,d,rfl⟩)))⟩
    obtain⟨U,Y⟩:=DC (mem:=[]) dk ok C F o xn H xk L (ns:=[]) ⟨L.laid.up,kF.refl _,qK _,L.nodup,fun k=>by simp,fun k _=>rfl⟩ (fun y=>by rw[s y];simp) (fun y a=>by cases a)
     List.Pairwise.nil (fun y a=>by cases a) (fun y a=>by cases a) (fun y=>by
      unfold yF;show(y∈[]∨∃u∈uP S.T (kJ S.m.lv n)++[x],y∈u.l)↔_;constructor
      ·rintro (q|⟨u,d,q⟩)
       ·cases q
       ·rcases qB.1 d with k|k
        ·exact qY ⟨u,(List.mem_filter.1 k).1,q⟩
        ·rw[qH.1 k,H]at q;exact qX q
      ·rintro (q|⟨u,d,q⟩)
       ·exact qY ⟨x,qJ _ (qH.2 rfl),by rw[H];exact q⟩
       ·exact qY ⟨u,qG _ (hst u d),q⟩)
     (fun y=>by
      rintro ⟨u,d,q⟩;exact⟨u,qG _ (hst u d),q⟩)
    have W:uP S.T (kJ S.m.lv n)=S.T:=List.filter_eq_self.2 fun u d=>qA ((s _).2 (qY ((ok.xY _).2 ⟨u,d,rfl⟩)))
    refine⟨0,E,fA S (kJ S.m.lv n) en x [],by rw[A,f], ?_,U,L.laid.count,rfl,qY (qX ⟨rfl,b,rfl,rfl, ?_,Y, ?_⟩)⟩
    ·unfold dK;rw[qZ (by decide),qZ b,f,j];simp only;rw[qV trivial];rfl
    ·show(uP S.T (kJ S.m.lv n)++[x]).length=_;rw[W];simp
    ·have:=L.laid.used;have:=tQ o;omega
   ·obtain rfl:e=60:=(by omega);refine⟨60,E,S,by rw[A,f], ?_,i.step dk ok,i.count,rfl,qY (qY ⟨rfl,b,rfl,i,qY (by omega)⟩)⟩;unfold dK;rw[qZ (by decide),qZ b,f,j];simp only;rw[qZ (by decide)]
  ·
    have ab:jw (jv S S.m.lv en):=⟨by show 0<=S.m.next+1;omega,by show S.m.next+1<=_;omega,v,z,p.2.2.2.2.1,fun y a=>by
     show y<S.m.next+1;have:=p.2.2.2.2.2 y a;omega⟩
    have Z:vd S.m.lv n≠0:=by rw[G];decide
    have V:kJ S.m.lv n=[]∨jw (jv S (kJ S.m.lv n) en):=by
     unfold kJ;rw[qZ Z];exact qX rfl
    have o:jw (jv S (kJ S.m.lv n) en):=by
     rcases V with e|e
     ·rw[e];exact⟨by show 0<=S.m.next+1;omega,by show S.m.next+1<=_;omega,v,z,(show bq [] by decide),fun y a=>by cases a⟩
     ·exact e
    rcases Jt dk ok C F ok.qw ok.mayE ok.ok I t o 60 with⟨h,-⟩|⟨e,E,f,P,Q,-,j,i⟩
    ·exact absurd h (by decide)
    ·obtain rfl:e=60:=(by omega);refine⟨60,E,S,by rw[A,f], ?_,i.step dk ok,i.count,rfl,qY (qY ⟨rfl,b,rfl,i,qX R⟩)⟩;unfold dK;rw[qZ (by decide),qZ b,f,j];simp only;rw[qZ (by decide)]
theorem qVK{X:List Tw}{D:jK}{S:IxS}(dk:vi X D S)(ok:jl D S){n:Nat}(C:S.m.next=(n:Nat))(F:n<=999999){lev:Int}(K:(ka S (js S.m.lv lev)).length<=10000)(t:Tw)(k:Nat){c:Nat}(Q:ki S.m.lv lev=(c:Nat)){s:Nat}(W:vw S.m.lv lev n=(s:Nat)):
  ∃e E S',dZ D S t n lev c s k=(e,E)/\dq D S t n lev c s k=S'/\pX X D E S S'/\E.count<=D.count+k+2/\S'.m.seed=S.m.seed/\S'.m.check=S.m.check/\S'.mem=S.mem /\
   ((e=c/\c≠0/\S'=S/\E=D) ∨
    (e=0/\c=0/\S'.m=jv S (kN S.m.lv lev n) S.m.check/\S'.T.length<=S.T.length/\jW E.l jC=some ⟨jC,mfB S'.m,(mfB S'.m).size⟩/\jA E.l<=jA D.l+t.size+(tbB (ka S (js S.m.lv lev))).size+190) ∨
    (e=60/\c=0/\S'=S/\bZ D { E with count:=D.count }/\D.cap<jA D.l+t.size+(tbB (ka S (js S.m.lv lev))).size+6190)):=by
 by_cases p:c=0
 ·subst p;have o:=ok.may;have G:ki S.m.lv lev=0:=Q;have H:vw S.m.lv lev n=0:=by rw[Cu (by omega) (fun x U=>by have:=o.2.2.2.2.2 x U;omega),G]
  obtain rfl:s=0:=by omega
  obtain⟨I,V,-⟩:=KD H;have i:=fun y=>qKE H y
  have A:jw (jv S (kN S.m.lv lev n) S.m.check):=⟨by show 0<=S.m.next+1;omega,by show S.m.next+1<=_;omega,o.2.2.1,o.2.2.2.1,I,fun y a=>by
   show y<S.m.next+1;rcases(i y).1 a with e|⟨e,-⟩
   ·omega
   ·have:=o.2.2.2.2.2 y e;omega⟩
  have hst:∀u:TbS,u∈uP S.T (kN S.m.lv lev n)↔u∈S.T/\(u.n:Int) ∉ js S.m.lv lev:=fun u=>by
   unfold uP;rw[List.mem_filter,decide_eq_true_iff,i];constructor
   ·rintro ⟨f,j|j⟩
    ·have:=(ok.xU f).2;omega
    ·exact⟨f,j.2⟩
   ·rintro ⟨f,j⟩;exact⟨f,qY ⟨(ok.xY _).2 ⟨u,f,rfl⟩,j⟩⟩
  rcases Jt (D:={ D with count:=D.count+k }) (dk.count _) (ok.count _) C F (Qz ok (js S.m.lv lev)) (fun y a=>(ot ok _ y a).2) (fun y a=>(ot ok _ y a).1) K t A 0 with⟨-,E1,x,e1,e2,xn,xl,xk,L⟩|⟨e,E,e1,e0,ee,why,e2,sm⟩
  ·obtain⟨E,J,z⟩:=DG (js S.m.lv lev) L.laid.up L.nodup
   obtain⟨d,P⟩:=DC (mem:=S.mem) (dk.count (D.count+k)) (ok.count _) C F A xn xl xk L z i (fun y a=>om y a) ok.qw ok.ok ok.mayE (fun y=>by
     unfold yF;show(y∈S.mem∨∃u∈uP S.T (kN S.m.lv lev n)++[x],y∈u.l)↔_;constructor
     ·rintro (q|⟨u,b,q⟩)
      ·exact qX q
      ·rcases qB.1 b with k|k
       ·exact qY ⟨u,((hst u).1 k).1,q⟩
       ·rw[qH.1 k,xl]at q;obtain⟨v,R,-,a⟩:=rl.1 q;exact qY ⟨v,R,a⟩
     ·rintro (q|⟨u,b,q⟩)
      ·exact qX q
      ·by_cases g:(u.n:Int)∈js S.m.lv lev
       ·exact qY ⟨x,qJ _ (qH.2 rfl),by rw[xl];exact rl.2 ⟨u,b,g,q⟩⟩
       ·exact qY ⟨u,qG _ ((hst u).2 ⟨b,g⟩),q⟩)
    (fun y=>by
     rintro ⟨u,b,q⟩;by_cases g:(u.n:Int)∈js S.m.lv lev
     ·exact⟨x,qJ _ (qH.2 rfl),by rw[xl];exact rl.2 ⟨u,b,g,q⟩⟩
     ·exact⟨u,qG _ ((hst u).2 ⟨b,g⟩),q⟩)
   have O:(uP S.T (kN S.m.lv lev n)++[x]).length<=S.T.length:=by
    obtain⟨y,a⟩:=List.exists_mem_of_length_pos (nD G).2.2.2.2;obtain⟨u,b,rfl⟩:=(ok.xY y).1 (om y a)
    have f:(uP S.T (kN S.m.lv lev n)).length<S.T.length:=by
     unfold uP;refine List.length_filter_lt_length_iff_exists.2 ⟨u,b, ?_⟩;rw[decide_eq_true_iff,i];rintro (e|⟨-,e⟩)
     ·have:=(ok.xU b).2;omega
     ·exact e a
    rw[qI];simp;omega
   refine⟨0,E,fA S (kN S.m.lv lev n) S.m.check x S.mem, ?_, ?_,⟨d.ok,d.dk,d.has,d.xK,d.qp,d.cap,d.other⟩, ?_,rfl,rfl,rfl,qY (qX ⟨rfl,rfl,rfl,O,P, ?_⟩)⟩
   ·unfold dZ;rw[qZ (by decide),e1];simp only;rw[qZ (by decide)];exact J
   ·unfold dq;rw[qZ (by decide)];exact e2
   ·rw[z.stays.count];have:=L.laid.count;simp only at this;omega
   ·have:=L.laid.used;have:=tQ A;have:=z.used;simp only at*;omega
  ·obtain rfl:e=60:=(by omega);refine⟨60,E,S, ?_, ?_, ?_,sm.count,rfl,rfl,rfl,qY (qY ⟨rfl,rfl,rfl, ?_, ?_⟩)⟩
   ·unfold dZ;rw[qZ (by decide),e1];simp
   ·unfold dq;rw[qZ (by decide)];exact e2
   ·have:=sm.step (dk.count _) (ok.count _);exact⟨this.ok,this.dk,this.has,this.xK,this.qp,this.cap,this.other⟩
   ·exact⟨sm.up.count _,sm.nodup,sm.qp,sm.cap,by simp,sm.used,sm.names,sm.files⟩
   ·rcases why with w|w
    ·exact absurd rfl w
    ·exact w
 ·refine⟨c,D,S, ?_, ?_,(bZ.refl dk.up dk.nodup).step dk ok,by omega,rfl,rfl,rfl,qX ⟨rfl,p,rfl,rfl⟩⟩
  ·unfold dZ;rw[qV p]
  ·unfold dq;rw[qV p]
end
def bJ(n:Nat):List Tw:=(List.range n).map nmC
theorem sJ{n:Nat}{x:Tw}:x∈bJ n↔∃i,i<n/\x=nmC i:=by
 unfold bJ;rw[qN];constructor
 ·rintro ⟨i,h,e⟩;exact⟨i,List.mem_range.1 h,e.symm⟩
 ·rintro ⟨i,h,e⟩;exact⟨i,List.mem_range.2 h,e.symm⟩
theorem qVV{n:Nat}(h:n<=200):∀x∈bJ n,isC x=true:=fun x a=>by
 obtain⟨i,b,rfl⟩:=sJ.1 a;exact(lr (by omega)).1
theorem qVY(n:Nat):(bJ n).length=n:=by unfold bJ;rw[qj,List.length_range]
theorem qVU{n:Nat}(h:n<=999999):isC (ptT n)=false/\isC (ptB n)=false:=by
 have g:∀x:Tw,(x=ptT n∨x=ptB n)->isC x=false:=fun x a=>by
  cases q:isC x with
  | false=>rfl
  | true =>
    have:=(lB q).2.2 n h;rcases a with e|e
    ·exact absurd e this.1
    ·exact absurd e this.2
 exact⟨g _ (qX rfl),g _ (qY rfl)⟩
theorem Qb: isC jC=false:=by unfold isC;rw[Qu];rfl
theorem jl.data{D E:jK}{S:IxS}(ok:jl D S)(h:∀t∈S.T,(jW E.l (ptT t.n)).map jU.data=(jW D.l (ptT t.n)).map jU.data):jl E S:=by
 refine⟨ok.may,ok.seed,ok.xY,ok.uniq,fun t b=>?_,ok.keep,ok.qw,ok.ok,ok.mayE⟩;obtain⟨f,d,g,i⟩:=ok.has t b;have e:=h t b;rw[d]at e;obtain⟨c,j,a⟩:=Option.map_eq_some_iff.1 (e:(jW E.l (ptT t.n)).map jU.data=some f.data);exact⟨c,j,by rw[a];exact g,by rw[a];exact i⟩
theorem vi.same{X:List Tw}{D E:jK}{S:IxS}(dk:vi X D S)(h:ks D E)(hw:WfP E):vi X E S:=⟨⟨h.down.trans dk.up.down,h.fails.trans dk.up.fails,hw⟩,by unfold j7;rw[h.names];exact dk.nodup,fun n a=>dk.only n (by unfold j7 at a ⊢;rw[<-h.names];exact a),dk.xA,dk.xD⟩
theorem jl.z7{D E:jK}{S:IxS}(ok:jl D S)(h:ks D E):jl E S:=ok.data fun t _=>h.data _
section
variable {D E:jK}{S S':IxS}{L M:jN}{chs chs':List (List Tw)}
theorem vi.app{p:Tw}{q:Nat}(dk:vi (bJ chs.length) D S)(ok:jl D S)(a:rH D L chs p q E M chs')(hw:WfP E)(d:(j7 E).Nodup):jl E S/\vi (bJ chs'.length) E S:=by
 have b:=a.xX.many;refine⟨ok.data fun t g=>a.others _ (qVU (by have:=(ok.xU g).1;omega)).1,⟨a.xX.up,a.xX.fails,hw⟩,d,fun n f=>?_,qVV b,by rw[qVY];exact b⟩;rcases a.names n f with k|k
 ·rcases dk.only n k with e|e|e
  ·exact qX e
  ·refine qY (qX ?_);obtain⟨i,j,e⟩:=sJ.1 e;have:=a.length
   have l:chs.length<=chs'.length:=by
    rw[a.chunks];unfold plC;split
    ·rename_i c
     have:0<chs.length:=by
      unfold gg at c;exact(of_decide_eq_true c).1
     rw[qI,List.length_dropLast];simp;omega
    ·simp
   exact sJ.2 ⟨i,by omega,e⟩
  ·exact qY (qY e)
 ·exact qY (qX (sJ.2 k))
theorem pX.xX(h:pX (bJ chs.length) D E S S')(g:kx D chs):kx E chs:=by
 have o:=g.many;refine⟨h.dk.up.down,h.dk.up.fails,g.many,fun i l a=>?_,g.small,fun f j b=>?_,(h.dk.none_ h.ok).1⟩
 ·obtain⟨f,c,d⟩:=g.files i l a;have m:=(qP.1 a).1;exact⟨f,by rw[h.other _ (lr (by omega)).1];exact c,d⟩
 ·rcases h.dk.only f.name (qN.2 ⟨f,j,rfl⟩) with e|e|⟨t,k,e⟩
  ·exact absurd e (lB b).1
  ·obtain⟨i,a,e⟩:=sJ.1 e;exact⟨i,a,e⟩
  ·have:=(lB b).2.2 t.n (by have:=(h.ok.xU k).1;omega);rcases e with e|e
   ·exact absurd e this.1
   ·exact absurd e this.2
theorem uN.zZ(h:uN D L chs)(e:E.qp=D.qp):uN E L chs:=⟨e.trans h.qp,h.xC,h.endp,h.sure⟩
end
section
structure dV(X:List Tw)(D:jK):Prop where
 up:UpD D
 nodup:(j7 D).Nodup
 only:∀n∈j7 D,n=jC∨n=jB∨n∈X∨∃k:Nat,k<=999999/\(n=ptT k∨n=ptB k)
 xA:∀x∈X,isC x=true
 xD:X.length<=200
theorem vi.fl{X:List Tw}{D:jK}{S:IxS}(h:vi X D S)(ok:jl D S):dV X D:=⟨h.up,h.nodup,fun n a=>by
 rcases h.only n a with e|e|⟨t,b,e⟩
 ·exact qX e
 ·exact qY (qY (qX e))
 ·exact qY (qY (qY ⟨t.n,by have:=(ok.xU b).1;omega,e⟩)),h.xA,h.xD⟩
theorem dV.count{X:List Tw}{D:jK}(h:dV X D)(k:Nat):dV X { D with count:=k }:=⟨h.up.count k,h.nodup,h.only,h.xA,h.xD⟩
structure Qc(D E:jK)(p:Tw->Prop):Prop where
 up:UpD E
 stays:kF D E
 used:jA E.l<=jA D.l
 nodup:(j7 E).Nodup
 names:∀k,k∈j7 E↔k∈j7 D/\p k
 other:∀k,p k->jW E.l k=jW D.l k
theorem DD: ∀(ns:List Tw) {D:jK},UpD D->(j7 D).Nodup->ns.Nodup->(∀n∈ns,n∈j7 D)->∃E,fx D ns=(0,E)/\Qc D E (fun k=>k ∉ ns)
 | [],D,h,hd,hn,hm=>⟨D,rfl,h,kF.refl D,qK _,hd,fun k=>by simp,fun k _=>rfl⟩
 | n::ns,D,h,hd,hn,hm=>by
   obtain⟨m,o⟩:=List.nodup_cons.1 hn;obtain⟨e,v,b,z,u1,t,u,i,d,s⟩:=sZ h hd n;obtain⟨f,p⟩:=YA (hm n qD);obtain⟨y,j,-⟩:=sy h p;obtain⟨rfl,rfl⟩:=Prod.mk.inj (b.symm.trans j);obtain⟨g,l,L⟩:=DD ns u1 i o (fun x c=>(d x).2 ⟨hm x (qE _ c),fun q=>m (q ▸ c)⟩);refine⟨g, ?_,L.up,t.trans L.stays,qO L.used u,L.nodup,fun k=>?_,fun k a=>?_⟩
   ·unfold fx;rw[b];simpa using l
   ·rw[L.names,d];simp only[List.mem_cons,not_or];exact⟨fun q=>⟨q.1.1,q.1.2,q.2⟩,fun q=>⟨⟨q.1,q.2.1⟩,q.2.2⟩⟩
   ·simp only[List.mem_cons,not_or]at a;rw[L.other k a.2,s k a.1]
theorem qVG{D:jK}(h:UpD D)(a:(j7 D).Nodup)(m:j5):∃E,mL D m=(0,E)/\Qc D E (fun k=>ue m.lv.flatten k=false∨k ∉ j7 D):=by
 obtain⟨E,b,L⟩:=DD (ui (j7 D) m) h a (a.filter _) (fun n d=>(List.mem_filter.1 d).1)
 have e:∀k,k ∉ ui (j7 D) m↔(ue m.lv.flatten k=false∨k ∉ j7 D):=fun k=>by
  unfold ui;rw[List.mem_filter];cases ue m.lv.flatten k<;>simp
 refine⟨E, ?_,L.up,L.stays,L.used,L.nodup,fun k=>by rw[L.names,e],fun k c=>L.other k ((e k).2 c)⟩;unfold mL;rw[qZ (by simp[h.down])];exact b
theorem qVW{x:Tw}(h:isC x=true)(fl:List Int):ue fl x=false:=by
 obtain⟨b,a⟩:=Js h;unfold ue;rw[a];simp[(lB h).2.1]
theorem DE{n:Nat}(h:n<=999999)(fl:List Int):ue fl (ptT n) = !decide ((n:Int)∈fl)/\ue fl (ptB n) = !decide ((n:Int)∈fl):=by
 obtain⟨a,b,c,d,g,i⟩:=sQ h;have f:=dx h;unfold ue;rw[a,b,c,d,g,i];simp[f.2.1,f.2.2.2]
theorem qVA(fl:List Int):ue fl jC=false:=by
 unfold ue;rw[Qu];simp[Xt]
theorem Qc.dk{X:List Tw}{D E:jK}{S:IxS}{m:j5}(fl:dV X D)(g:m.lv.flatten=S.m.lv.flatten)(L:Qc D E (fun k=>ue m.lv.flatten k=false∨k ∉ j7 D))(ok:jl D S):jl E S/\vi X E S/\(∀k,isC k=true->jW E.l k=jW D.l k)/\jW E.l jC=jW D.l jC:=by
 refine⟨ok.data fun t b=>?_,⟨L.up,L.nodup,fun n o=>?_,fl.xA,fl.xD⟩,fun k c=>L.other k (qX (qVW c _)),L.other _ (qX (qVA _))⟩
 ·have v:=(ok.xU b).1;rw[L.other _ (qX ?_)];rw[(DE (by omega) _).1,g,qA ((ok.xY _).2 ⟨t,b,rfl⟩)];rfl
 ·obtain⟨d,j⟩:=(L.names n).1 o;have a:ue m.lv.flatten n=false:=j.resolve_right (fun q=>q d);rcases fl.only n d with e|e|e|⟨k,c,e⟩
  ·exact qX e
  ·rw[e]at a;unfold ue at a;simp at a
  ·exact qY (qX e)
  ·have f:(k:Int)∈m.lv.flatten:=by
    obtain⟨p,s⟩:=DE c m.lv.flatten;rcases e with e|e
    ·rw[e,p]at a;simpa using a
    ·rw[e,s]at a;simpa using a
   rw[g]at f;obtain⟨t,b,u⟩:=(ok.xY _).1 f;have i:t.n=k:=(by omega);exact qY (qY ⟨t,b,by rw[i];exact e⟩)
theorem Ja{D E:jK}{chs:List (List Tw)}(g:kx D chs)(up:UpD E)(d:∀k∈j7 E,k∈j7 D)(p:∀k,isC k=true->jW E.l k=jW D.l k):kx E chs:=by
 have u:=g.many;refine⟨up.down,up.fails,g.many,fun i s c=>?_,g.small,fun f a b=>?_,nG fun q=>?_⟩
 ·obtain⟨f,m,n⟩:=g.files i s c;have t:=(qP.1 c).1;exact⟨f,by rw[p _ (lr (by omega)).1];exact m,n⟩
 ·obtain⟨j,o,e⟩:=qN.1 (d f.name (qN.2 ⟨f,a,rfl⟩));rw[<-e]at b ⊢;exact g.only j o b
 ·obtain⟨f,a,e⟩:=qN.1 (d _ q);exact fS.1 g.x8 f a e
theorem Je{D:jK}(a:D.down=false){m:j5}(c:jw m)(g:m.seed<18446744073709551616)(h:(jW D.l jC).map jU.data=some (mfB m)):vW D=0/\jb D=dD m/\bA D={ D with count:=D.count+1 }:=by
 obtain⟨f,b,e⟩:=Option.map_eq_some_iff.1 h;have d:=cW a b;obtain⟨i,j⟩:=Nq c g;unfold vW jb bA;rw[d];simp only[e];exact⟨by rw[qZ (by decide),i],by rw[qZ (by decide),j],trivial⟩
theorem Qd{D:jK}(a:D.down=false)(h:jW D.l jC=none):vW D≠0/\bA D=D:=by
 have b:=dd a h;unfold vW bA;rw[b];exact⟨by simp,rfl⟩
theorem sK(m:j5):(dD m).lv.flatten=m.lv.flatten:=lF m.lv
end
section
open Go.RowKit Go.Shelf
theorem qVB{D:jK}{L:jN}(ok:WfP D):WfP (vl D L).2.1:=by
 unfold vl;split
 ·exact ok
 ·exact Zm ok
structure jy(At:jL)(w0:World)(gd gl gx r:Nat)(S:IxS)(L:jN)(chs:List (List Tw))(D:jK)(E:List Nat)(w:World):Prop where
 ix:jz At w0 gd gx r S D (gl::E) w
 log:jY w gl 76 (uy (ptr gl) gd L)
 qo:gl ∉ E
 low:w0.heap.size<=gl
 ok:jl D S
 dk:vi (bJ chs.length) D S
 xX:kx D chs
 gl:uN D L chs
structure DF(N:Nat)(D E:jK)(S S':IxS):Prop where
 cap:E.cap=D.cap
 qp:E.qp=D.qp
 count:E.count<=D.count+N
 has:∀x,yF S' x↔yF S x
 xK:∀x,(∃t∈S.T,x∈t.l)->∃t∈S'.T,x∈t.l
 seed:S'.m.seed=S.m.seed
def dz(D E:jK):Prop:=(jW E.l jC).map jU.data=(jW D.l jC).map jU.data
theorem dz.refl(D:jK):dz D D:=rfl
theorem sV{D:jK}{chs:List (List Tw)}(g:kx D chs):kC chs<=819200:=by
 unfold kC;split
 ·omega
 ·obtain⟨f,-,-,a,b⟩:=rF g (by omega);have:=g.many;omega
theorem DH{X:List Tw}{D:jK}{S:IxS}(dk:vi X D S)(ok:jl D S){n:Nat}(v:S.m.next=(n:Nat))(a:n<=999999){l:List jJ}(i:jh l)(g:∀x∈l,mayE x=true)(k:∀x∈l,kI x)(f:l.length<=10000)(t:Tw)(hw:(je D n l t).1=0):
  (tgL (rdW (je D n l t).2 (ptT n)).1).length<=10000:=by
 have b:=Qj i g;obtain⟨y,o⟩:=dk.none_ ok;obtain⟨p,q⟩:=o n a (by omega);have u:=dk.many ok;by_cases j:jA D.l+t.size+(tbB l).size+6000<=D.cap
 ·obtain⟨s,d,c⟩:=C6 dk.up (n:=n) a b (t:=t) (by omega) p q j;rw[d,(pQ c.up.down (c.has (by omega) k b)).2];exact f
 ·rw[C7 dk.up (n:=n) a b (t:=t) (by omega)]at hw;exact absurd (show(60:Nat)=0 from hw) (by decide)
section
variable {At:jL}(api:jM At){w0 w w':World}{gd gl gx r:Nat}{S S':IxS}{L:jN}{chs:List (List Tw)}{D D':jK}{E E' B N:List Nat}
theorem jy.lt(h:jy At w0 gd gl gx r S L chs D E w):∀b∈gl::E,b<w.heap.size:=h.ix.lt
theorem jy.xJ(api:jM At)(h:jy At w0 gd gl gx r S L chs D E w)(g:jG B w w')(c:∀b∈B,b∈E/\w0.heap.size<=b)(f:∀b∈E',b∈E∨(w.heap.size<=b/\b<w'.heap.size)):jy At w0 gd gl gx r S L chs D E' w':=by
 have j:=h.lt gl qD;have i:gl ∉ B:=fun d=>h.qo (c gl d).1
 refine⟨h.ix.xJ api g (fun b a=>⟨qE _ (c b a).1,(c b a).2⟩) (fun b a=>?_),h.log.qe g i,fun d=>?_,h.low,h.ok,h.dk,h.xX,h.gl⟩
 ·rcases qL.1 a with e|k
  ·rw[e];exact qX qD
  ·exact(f b k).imp (qE _) id
 ·rcases f gl d with k|k
  ·exact h.qo k
  ·omega
theorem jy.below(api:jM At)(h:jy At w0 gd gl gx r S L chs D E w)(a:Below w.heap.size w w'):jy At w0 gd gl gx r S L chs D E w':=h.xJ api (B:=[]) (jG.qn a) (fun b a=>by cases a) (fun b a=>qX a)
theorem jy.less(h:jy At w0 gd gl gx r S L chs D E w)(a:∀b∈E',b∈E):jy At w0 gd gl gx r S L chs D E' w:=⟨h.ix.less (fun b c=>by
 rcases qL.1 c with e|k
 ·rw[e];exact qD
 ·exact qE _ (a b k)),h.log,fun d=>h.qo (a gl d),h.low,h.ok,h.dk,h.xX,h.gl⟩
theorem jy.more(api:jM At)(h:jy At w0 gd gl gx r S L chs D E w)(a:Below w.heap.size w w')(c:∀b∈B,w.heap.size<=b/\b<w'.heap.size):jy At w0 gd gl gx r S L chs D (B++E) w' :=
 h.xJ api (B:=[]) (jG.qn a) (fun b a=>by cases a) (fun b a=>(qB.1 a).elim (fun k=>qY (c b k)) qX)
theorem jy.base(h:jy At w0 gd gl gx r S L chs D E w):Below w0.heap.size w0 w:=h.ix.kept
theorem jy.chunks(h:jy At w0 gd gl gx r S L chs D E w):L.chunks<=200:=by rw[h.gl.xC];exact h.xX.many
theorem jy.from(h:jy At w0 gd gl gx r S L chs D E w)(hi:jz At w0 gd gx r S' D' (gl::E) w')(a:jV (gl::E) w w')(ok:jl D' S')(dk:vi (bJ chs.length) D' S')(g:kx D' chs)(d:D'.qp=D.qp):jy At w0 gd gl gx r S' L chs D' E w'/\jV E w w' :=
 ⟨⟨hi,a.qa h.log qD,h.qo,h.low,ok,dk,g,h.gl.zZ d⟩,a.less (fun b c=>qE _ c)⟩
theorem jy.zV(h:jy At w0 gd gl gx r S L chs D E w)(k:Nat):kx { D with count:=k } chs:=h.xX.same (ks.count D k)
include api
theorem DI(h:jy At w0 gd gl gx r S L chs D E w){x:jJ}(a:kI x)(d:S.mem.length<=100000):Calls prog 18 #[ptr gx,kS x] w fun e w'=>e = .returned (err (uR x))/\jy At w0 gd gl gx r (cS S x) L chs D E w'/\jV E w w':=by
 refine(qKO api h.ix a d).mono ?_;rintro e w'⟨rfl,b,c⟩;refine⟨rfl,h.from b c ?_ ?_ h.xX rfl⟩
 ·unfold cS;split
  ·exact h.ok.add a (by assumption)
  ·exact h.ok
 ·unfold cS;split
  ·exact⟨h.dk.up,h.dk.nodup,h.dk.only,h.dk.xA,h.dk.xD⟩
  ·exact h.dk
omit api in
theorem qVC(h:jy At w0 gd gl gx r S L chs D E w):Calls prog 22 #[ptr gx] w fun e w'=>e = .returned (.int .i64 (S.mem.length:Nat))/\w=w':=qKN h.ix
theorem DL(h:jy At w0 gd gl gx r S L chs D E w):Calls prog 11 #[ptr gx] w (fB w S.m.next S.m.check S.m.seed S.m.lv):=Cn api h.ix h.ok
variable (nap:jm)
include nap
def qVD(At:jL)(w0:World)(gd gl gx r:Nat)(S:IxS)(L:jN)(chs:List (List Tw))(D:jK)(R:List jJ)(E:List Nat)(w:World)(e:Ending)(w':World):Prop :=
 ∃A c k,k<=200/\e = .returned (.tuple #[.slice A R.length c,.int .i64 0])/\jE w' w.heap.size (.slice A R.length c) R/\jy At w0 gd gl gx r S L chs { D with count:=D.count+k } (jF (.slice A R.length c)++E) w'/\jV E w w'
omit api nap in
theorem uN.count(h:uN D L chs)(k:Nat):uN { D with count:=k } L chs:=⟨h.qp,h.xC,h.endp,h.sure⟩
theorem DM(iap:yn At)(h:jy At w0 gd gl gx r S L chs D E w)(hc:D.count<=900000){n:Nat}(y:S.m.next=(n:Nat))(z:n<=999999)(hr:r<18446744073709551616)(hl:S.mem.length<=1000):
  Calls prog 10 #[ptr gx,ptr gl] w fun e w'=>∃k E' S',e = .returned (err k)/\jy At w0 gd gl gx r S' { L with sure:=L.endp } chs E' E w'/\jV E w w'/\DF 2 D E' S S' /\
   ((k=0/\S.mem=[]/\S'=S/\dz D E'/\jA E'.l=jA D.l) ∨
    (k=0/\S.mem≠[]/\S'.mem=[]/\S'.m=jv S (kJ S.m.lv n) (kC chs:Nat)/\S'.T.length=S.T.length+1/\(jW E'.l jC).map jU.data=some (mfB S'.m)/\jA E'.l<=jA D.l+28*S.mem.length+460) ∨
    (k=60/\S.mem≠[]/\S'=S/\dz D E'/\jA E'.l<=jA D.l/\(S.T.length=40∨D.cap<jA D.l+28*S.mem.length+6460))):=by
 obtain⟨F,f,a,G⟩:=qQV h.xX h.gl
 have R:WfP F:=by
  have:=qVB (L:=L) h.dk.up.wf;rw[f]at this;exact this
 have j:=h.ok.z7 a;have p:=h.dk.same a R;have V:=h.xX.same a;have ae:=sV h.xX;have aa:=h.gl.endp;have P:=h.ok.may
 obtain⟨C,Q⟩:∃C:Nat,vd S.m.lv n=(C:Nat):=by
  rw[Cy P.2.2.2.2.1 (n:=(n:Nat)) (by omega) (fun x hx=>by have:=P.2.2.2.2.2 x hx;omega)];split
  ·exact⟨60,rfl⟩
  ·exact⟨0,rfl⟩
 have J:=qKs api nap iap h.ix h.log h.qo h.low h.dk.up.wf h.chunks (by rw[f];exact R) (by rw[f];exact p.up.down) (by rw[f];show F.count<=_;rw[G];omega) h.ok n y z hr hl C Q
  (fun t A=>by rw[f];exact DH p j y z j.qw j.mayE j.ok (by omega) t)
 rw[f]at J;refine J.mono ?_;rintro e w'⟨t,A,rfl,v,K,Z⟩;simp only at v K ⊢;obtain⟨k,E',S',s,H,d,I,W,ac⟩:=qVJ p j y z (by omega) t (en:=(kC chs:Nat)) (by omega) (by omega) Q;rw[<-aa]at s H;rw[s,H]at v;rw[s];have Y:=d.xX V;have hst:E'.qp=D.qp:=d.qp.trans a.qp;have X:uN E' { L with sure:=L.endp } chs:=⟨hst.trans h.gl.qp,h.gl.xC,h.gl.endp,qK _⟩
 refine⟨k,E',S',rfl,⟨v,K,h.qo,h.low,d.ok,d.dk,Y,X⟩,Z,⟨d.cap.trans a.cap,hst,by rw[G]at I;exact I,d.has,d.xK,W⟩, ?_⟩;have O:dz D F:=a.data jC;have af:=pw S.mem;have hu:=a.used;have ad:=a.cap;rcases ac with⟨g,b,i,c⟩|⟨g,b,i,c,o,U,a7⟩|⟨g,b,i,c,o⟩
 ·refine qX ⟨g,b,i, ?_, ?_⟩
  ·rw[c];exact O
  ·rw[c];exact hu
 ·have u:gP S.mem r t:=by
   rcases A with q|q|q
   ·exact absurd q b
   ·exact absurd rfl q
   ·exact q
  have ab:=rG (by omega) u;refine qY (qX ⟨g,b,i,c,o, ?_,by omega⟩);rw[U];rfl
 ·have u:gP S.mem r t:=by
   rcases A with q|q|q
   ·exact absurd q b
   ·exact absurd rfl q
   ·exact q
  have ab:=rG (by omega) u;have ag:=c.used;refine qY (qY ⟨g,b,i, ?_,by omega,o.imp id (fun q=>by omega)⟩);unfold dz;rw[c.files];exact O
theorem qVE(iap:yn At)(h:jy At w0 gd gl gx r S L chs D E w)(hc:D.count<=900000){n:Nat}(o:S.m.next=(n:Nat))(p:n<=999999)(U:r<18446744073709551616)(W:cQ S<=40000)(lev:Int)(K:(ka S (js S.m.lv lev)).length<=1000)(a:Nat)(s:ki S.m.lv lev=(a:Nat)):
  Calls prog 12 #[ptr gx,.int .i64 lev] w fun e w'=>∃k E' S',e = .returned (err k)/\jy At w0 gd gl gx r S' L chs E' E w'/\jV E w w'/\DF 50 D E' S S'/\S'.m.check=S.m.check/\S'.mem=S.mem /\
   ((k=a/\a≠0/\S'=S/\dz D E'/\jA E'.l=jA D.l) ∨
    (k=0/\a=0/\S'.m=jv S (kN S.m.lv lev n) S.m.check/\S'.T.length<=S.T.length/\(jW E'.l jC).map jU.data=some (mfB S'.m)/\jA E'.l<=jA D.l+28*(ka S (js S.m.lv lev)).length+460) ∨
    (k=60/\a=0/\S'=S/\dz D E'/\jA E'.l<=jA D.l/\D.cap<jA D.l+28*(ka S (js S.m.lv lev)).length+6460)):=by
 have R:=h.ok.may;have F:vw S.m.lv lev n=(a:Nat):=by rw[Cu (by omega) (fun x Y=>by have:=R.2.2.2.2.2 x Y;omega),s]
 have aa:=h.ok.xE
 refine(qKd api nap iap h.ix h.dk.up.wf h.dk.up.down (by omega) h.ok n o p U W lev K a s a F
  (fun k t P j=>DH (D:={ D with count:=D.count+k }) (h.dk.count (D.count+k)) (h.ok.count (D.count+k)) o p (Qz h.ok _) (fun y u=>(ot h.ok _ y u).2) (fun y u=>(ot h.ok _ y u).1) (by omega) t)).mono ?_
 rintro e w'⟨t,k,P,j,rfl,C,Q⟩;obtain⟨f,E',S',z,G,b,gc,J,H,I,Z⟩:=qVK h.dk h.ok o p (lev:=lev) (by omega) t k s F;rw[z,G]at C;rw[z];have O:=b.xX h.xX;have A:=h.from C Q b.ok b.dk O b.qp;refine⟨f,E',S',rfl,A.1,A.2,⟨b.cap,b.qp,by omega,b.has,b.xK,J⟩,H,I, ?_⟩;have ab:=pw (ka S (js S.m.lv lev));rcases Z with⟨g,c,i,d⟩|⟨g,c,i,d,v,a6⟩|⟨g,c,i,d,v⟩
 ·exact qX ⟨g,c,i,by rw[d];exact dz.refl D,by rw[d]⟩
 ·have V:=rG (by omega) (j.resolve_left (fun q=>q c));exact qY (qX ⟨g,c,i,d,by rw[v];rfl,by omega⟩)
 ·have V:=rG (by omega) (j.resolve_left (fun q=>q c));have X:=d.used;simp only at X;refine qY (qY ⟨g,c,i, ?_,by omega,by omega⟩);exact congrArg (Option.map jU.data) (d.files jC)
theorem qVF(h:jy At w0 gd gl gx r S L chs D E w)(p:D.count<=1000000)(l:cQ S<=40000)(x:Nat)(m:x<18446744073709551616)(a b:Int)(n:(Lit.int .i64 a).wf=true)(o:(Lit.int .i64 b).wf=true):
  Calls prog 72 #[ptr gx,.int .u64 (x:Nat),.int .i64 a,.int .i64 b] w (qVD At w0 gd gl gx r S L chs D (oh S x a b) E w):=by
 refine(qK2 api nap h.ix h.ok h.dk.up.wf (by omega) h.dk.up.down l x m a b n o).mono ?_;rintro e w'⟨A,c,k,s,rfl,i,j,f⟩;have g:=h.ok.xE;refine⟨A,c,k,by omega,rfl,i,⟨j.less (fun b d=>?_),f.qa h.log qD,fun g=>?_,h.low,h.ok.count _,h.dk.count _,h.zV _,h.gl.count _⟩,f.less (fun b d=>qE _ d)⟩
 ·rcases qL.1 d with e|q
  ·rw[e];exact qJ _ qD
  ·rcases qB.1 q with q|q
   ·exact qG _ q
   ·exact qJ _ (qE _ q)
 ·rcases qB.1 g with q|q
  ·have:=i.lt gl (kG.1 q);have:=h.lt gl qD;omega
  ·exact h.qo q
theorem DN(cap:yY)(h:jy At w0 gd gl gx r S L chs D E w)(p:Tw)(g:p.size<=2000)(j:chs.length<=199)(t:jA D.l+(p.size+24)+6000<=D.cap):Calls prog 15 #[ptr gl,.string p] w fun e w' =>
  ∃q D' M chs',e = .returned (.tuple #[.int .i64 (q:Nat),.int .i64 0])/\jy At w0 gd gl gx r S M chs' D' E w'/\jV E w w'/\rH D L chs p q D' M chs':=by
 have y:=h.dk.many h.ok;refine(h.ix.log api h.log h.qo h.low (fun c o k=>Ri api nap cap o k h.dk.up.wf h.chunks p (qO g (by decide)))).mono ?_;rintro e w'⟨rfl,b,f,m⟩;obtain⟨q,D',M,chs',d,a⟩:=qQC h.xX h.gl p g (by omega) j t
 have u:WfP D':=by
  have:=Rt (L:=L) h.dk.up.wf p;rw[d]at this;exact this
 rw[d]at b f;rw[d]
 have s:(j7 D').Nodup:=qKU (b.ds.qw api) (fun n=>by
  cases q:vC n n with
  | true=>exact absurd q (rB n)
  | false=>rfl)
 obtain⟨v,i⟩:=h.dk.app h.ok a u s;exact⟨q,D',M,chs',rfl,⟨b,f,h.qo,h.low,v,i,a.xX,a.log⟩,m,a⟩
def qVH: Option (Nat × Tw)->Value
 | none=>.tuple #[.string ByteArray.empty,.int .i64 0,.int .i64 0,.int .i64 4]
 | some x=>.tuple #[.string x.2,.int .i64 (x.1:Nat),.int .i64 ((x.1+(x.2.size+12):Nat):Int),.int .i64 0]
theorem DO(cap:yY)(h:jy At w0 gd gl gx r S L chs D E w)(o:D.count<=900000000)(pos:Nat)(n:pos<=9223372036854775807):Calls prog 90 #[ptr gl,.int .i64 (pos:Nat)] w fun e w'=>∃k,k<=D.count+200/\e = .returned (qVH ((jO 0 chs).find? fun x=>decide (pos<=x.1)))/\jy At w0 gd gl gx r S L chs { D with count:=k } E w'/\jV E w w':=by
 obtain⟨k,j,b⟩:=qQE h.xX h.gl pos;refine(h.ix.log api h.log h.qo h.low (fun c m f=>TW api nap cap m f h.dk.up.wf (by omega) (pos:Nat) (bE n) h.chunks)).mono ?_;rintro e w'⟨rfl,a,g,l⟩;rw[b]at a;rw[b]
 have d:(lX (jO 0 chs) (pos:Nat) { D with count:=k }).D={ D with count:=k }:=by
  unfold lX;split<;>rfl
 rw[d]at a;refine⟨k,j, ?_,⟨a,g,h.qo,h.low,h.ok.count _,h.dk.count _,h.zV _,h.gl.count _⟩,l⟩
 have i:(jO 0 chs).find? (fun x=>decide (((pos:Nat):Int)<=(x.1:Int)))=(jO 0 chs).find? (fun x=>decide (pos<=x.1)):=by
  congr 1;funext x;exact decide_eq_decide.2 (by omega)
 unfold lX;rw[i];cases (jO 0 chs).find? (fun x=>decide (pos<=x.1))<;>rfl
end
structure kM(At:jL)(w0:World)(gd gl:Nat)(L:jN)(chs:List (List Tw))(D:jK)(E:List Nat)(w:World):Prop where
 st:bX At w0 gd gl L D E w
 fl:dV (bJ chs.length) D
 xX:kx D chs
 gl:uN D L chs
structure gV(At:jL)(w0:World)(gd gl gx r:Nat)(S:IxS)(L:jN)(chs:List (List Tw))(D:jK)(E:List Nat)(w:World):Prop where
 ix:jz At w0 gd gx r S D (gl::E) w
 log:jY w gl 76 (uy (ptr gl) gd L)
 qo:gl ∉ E
 low:w0.heap.size<=gl
 ok:jl D S
 fl:dV (bJ chs.length) D
 xX:kx D chs
 gl:uN D L chs
theorem qVI{D:jK}(h:WfP D):WfP (uo D).2.1:=by
 unfold uo;refine tb (tb (GH h) (fun E _ c=>c)) (fun E L c=>?_);unfold di
 have:∀(k n:Nat) (E:jK) (L:jN),WfP E->WfP (uK k n E L).2.1:=by
  intro k
  induction k with
  | zero=>intro n E L c;exact c
  | succ k l =>
    intro n E L c;have b:=Zf c (nmC n);unfold uK;split
    ·exact b
    ·split
     ·exact b
     ·split
      ·unfold fk;split
       ·exact dW b _
       ·split
        ·show WfP (l8 _ _ _).2
         have g:∀(a:Nat × jK) (f:jK->Nat × jK),WfP a.2->(∀D,WfP D->WfP (f D).2)->WfP (dt a f).2:=by
          intro a f i j;unfold dt;split
          ·exact j _ i
          ·exact i
         exact g _ _ (g _ _ (g _ _ (lO b _) (fun D d=>lP d _ _)) (fun D d=>mD d _)) (fun D d=>XI d _ _)
        ·exact mD b _
      ·split
       ·exact b
       ·exact l _ _ _ b
 exact this _ _ _ _ c
section
variable {At:jL}(api:jM At){w0 w w':World}{gd gl gx r:Nat}{S S':IxS}{L:jN}{chs:List (List Tw)}{D D':jK}{E E' B N:List Nat}
theorem jy.leave(h:jy At w0 gd gl gx r S L chs D E w):kM At w0 gd gl L chs D E w:=⟨⟨h.ix.ds,h.log,h.qo,h.low⟩,h.dk.fl h.ok,h.xX,h.gl⟩
theorem kM.lt(h:kM At w0 gd gl L chs D E w):∀b∈gl::E,b<w.heap.size:=h.st.1.lt
theorem kM.xJ(api:jM At)(h:kM At w0 gd gl L chs D E w)(g:jG B w w')(c:∀b∈B,b∈E/\w0.heap.size<=b)(f:∀b∈E',b∈E∨(w.heap.size<=b/\b<w'.heap.size)):kM At w0 gd gl L chs D E' w':=by
 have j:=h.lt gl qD;have i:gl ∉ B:=fun d=>h.st.2.2.1 (c gl d).1
 refine⟨⟨h.st.1.xJ api g (fun b a=>⟨qE _ (c b a).1,(c b a).2⟩) (fun b a=>?_),h.st.2.1.qe g i,fun d=>?_,h.st.2.2.2⟩,h.fl,h.xX,h.gl⟩
 ·rcases qL.1 a with e|k
  ·rw[e];exact qX qD
  ·exact(f b k).imp (qE _) id
 ·rcases f gl d with k|k
  ·exact h.st.2.2.1 k
  ·omega
theorem kM.below(api:jM At)(h:kM At w0 gd gl L chs D E w)(a:Below w.heap.size w w'):kM At w0 gd gl L chs D E w':=h.xJ api (B:=[]) (jG.qn a) (fun b a=>by cases a) (fun b a=>qX a)
theorem kM.from(h:kM At w0 gd gl L chs D E w){G:List Nat}(hi:DS At w0 gd D' (G++(gl::E)) w')(c:jV (gl::E) w w')(d:gl ∉ G)(fl:dV (bJ chs.length) D')(g:kx D' chs)(i:D'.qp=D.qp):kM At w0 gd gl L chs D' (G++E) w'/\jV E w w' :=
 ⟨⟨⟨hi.less (fun b a=>by
   rcases qL.1 a with e|q
   ·rw[e];exact qJ _ qD
   ·rcases qB.1 q with q|q
    ·exact qG _ q
    ·exact qJ _ (qE _ q)),c.qa h.st.2.1 qD,fun f=>(qB.1 f).elim d h.st.2.2.1,h.st.2.2.2⟩,fl,g,h.gl.zZ i⟩,c.less (fun b a=>qE _ a)⟩
theorem kM.count(h:kM At w0 gd gl L chs D E w)(k:Nat):dV (bJ chs.length) { D with count:=k }/\kx { D with count:=k } chs:=⟨h.fl.count k,h.xX.same (ks.count D k)⟩
theorem qVL(iap:yn At)(h:kM At w0 gd gl L chs D E w)(I:D.count<=900000000):Calls prog 86 #[ptr gd] w fun e w' =>
  ∃(b d:Int) (a:Nat) (A:Option Addr) (n c:Nat) (R:LvL) (j:Nat),e = .returned (.tuple #[jr b d a (.slice A n c),.int .i64 (vW D)])/\jb D=⟨b,d,a,R⟩/\n=R.length/\jn w' (.slice A n c) R/\R.length<=300/\R.flatten.length<=100000/\a<18446744073709551616/\j<=1/\kM At w0 gd gl L chs { D with count:=D.count+j } E w'/\jV E w w':=by
 refine(iap.load h.st.1 h.fl.up.wf (by omega)).mono ?_;rintro e w'⟨b,d,a,A,n,c,R,rfl,m,o,p,s,t,u,g,v⟩
 have z:∃j,j<=1/\bA D={ D with count:=D.count+j }:=by
  unfold bA;cases q:jW D.l jC with
  | none=>rw[dd h.fl.up.down q];exact⟨0,by omega,rfl⟩
  | some f=>rw[cW h.fl.up.down q];exact⟨1,by omega,rfl⟩
 obtain⟨j,y,e⟩:=z;rw[e]at g;obtain⟨F,H⟩:=h.count (D.count+j);obtain⟨i,k⟩:=h.from (G:=[]) (D':={ D with count:=D.count+j }) g v (fun C=>by cases C) F H rfl;exact⟨b,d,a,A,n,c,R,j,rfl,m,o,p,s,t,u,y,i,k⟩
include api
theorem qVM(h:kM At w0 gd gl L chs D E w)(n:Tw)(u:isC n=false)(z:n.size<=maxLen):Calls prog 54 #[ptr gd,.string n] w fun e w' =>
  ∃f D',e = .returned (err f)/\cD f=true/\kM At w0 gd gl L chs D' E w'/\jV E w w'/\kF D D'/\jA D'.l<=jA D.l/\(∀k,k∈j7 D'↔k∈j7 D/\k≠n)/\∀k,k≠n->jW D'.l k=jW D.l k:=by
 refine(h.st.1.qi api (fun F hF=>api.delete n hF h.fl.up.wf.ok z)).mono ?_;rintro e w'⟨rfl,d,a⟩;obtain⟨f,D',c,p,u1,i,A,j,b,g⟩:=sZ h.fl.up h.fl.nodup n;rw[c]at d;rw[c];have v:∀k,isC k=true->k≠n:=fun k a e=>by rw[e,u]at a;cases a
 have s:=Ja h.xX u1 (fun k a=>((b k).1 a).1) (fun k a=>g k (v k a));obtain⟨m,o⟩:=h.from (G:=[]) d a (fun t=>by cases t) ⟨u1,j,fun q y=>h.fl.only q ((b q).1 y).1,h.fl.xA,h.fl.xD⟩ s i.qp;exact⟨f,D',rfl,p,m,o,i,A,b,g⟩
theorem DP(nap:jm)(h:kM At w0 gd gl L chs D E w)(X:D.count<=900000000){n c:Int}{d:Nat}{A:Option Addr}{cp:Nat}{R:LvL}(f:jw ⟨n,c,d,R⟩)(O:d<18446744073709551616)(V:jn w (.slice A R.length cp) R)(U:∀x∈R.flatten,jo D x=0->(tgL (rdW D (ptT x)).1).length<=10000)(r:Nat):
  Calls prog 87 #[ptr gd,jr n c d (.slice A R.length cp),.float .f64 r] w fun e w' =>
   (∃gx T j,e = .returned (.tuple #[ptr gx,.int .i64 0])/\T.map (fun t=>(t.n:Int))=R.flatten/\(∀t∈T,vO D t.n t.l)/\j<=80/\gV At w0 gd gl gx r ⟨⟨n,c,d,R⟩,T,[]⟩ L chs { D with count:=D.count+j } E w'/\jV E w w') ∨
   (∃x j,x∈R.flatten/\jo D x≠0/\j<=80/\e = .returned (.tuple #[.pointer none,err (jo D x)])/\kM At w0 gd gl L chs { D with count:=D.count+j } E w'/\jV E w w'):=by
 have H:=f.2.2.2.2.1.2.1;simp only at H;refine(qKn api nap (r:=r) h.st.1 h.fl.up.wf h.fl.up.down (by omega) V f U).mono ?_;rintro e w' (⟨gx,T,j,rfl,I,m,q,p,i⟩|⟨x,j,W,P,q,rfl,p,i⟩)
 ·have o:T.map (fun t=>(t.n:Int))=R.flatten:=I;have s:j<=80:=by simp only at q;omega
  have Q:jl { D with count:=D.count+j } ⟨⟨n,c,d,R⟩,T,[]⟩:=by
   refine⟨f,O,fun y=>?_, ?_,fun t g=>(m t g).1.count _,fun t g=>(m t g).2,List.Pairwise.nil,(fun y u=>by cases u),(fun y u=>by cases u)⟩
   ·show y∈R.flatten↔∃t∈T,(t.n:Int)=y;rw[<-o,qN]
   ·show(T.map TbS.n).Nodup;have k:R.flatten.Nodup:=f.2.2.2.2.1.2.2.2;rw[<-o]at k;unfold List.Nodup at k ⊢;rw[List.pairwise_map]at k ⊢;exact k.imp fun {a b} J e=>J (by omega)
  obtain⟨v,z⟩:=h.count (D.count+j);exact qX ⟨gx,T,j,rfl,o,fun t g=>(m t g).1,s,⟨p,i.qa h.st.2.1 qD,h.st.2.2.1,h.st.2.2.2,Q,v,z,h.gl.count _⟩,i.less (fun b K=>qE _ K)⟩
 ·have s:j<=80:=by simp only at q;omega
  obtain⟨v,z⟩:=h.count (D.count+j);obtain⟨C,F⟩:=h.from (G:=[]) (D':={ D with count:=D.count+j }) p i (fun f=>by cases f) v z rfl;exact qY ⟨x,j,W,P,s,rfl,C,F⟩
omit api in
theorem qVN(iap:yn At)(h:gV At w0 gd gl gx r S L chs D E w){n c:Int}{d:Nat}{A:Option Addr}{k cp:Nat}{R:LvL}{G:List Nat}(v:∀b∈G,b∈gl::E)(I:uB w (.slice A k cp) R G)(f:k=R.length)(o:R.flatten=S.m.lv.flatten)(y:R.length<=100000):
  Calls prog 31 #[ptr gd,jr n c d (.slice A k cp)] w fun e w'=>∃D',e = .returned (.int .i64 0)/\jy At w0 gd gl gx r S L chs D' E w'/\jV E w w'/\kF D D'/\jA D'.l<=jA D.l/\jW D'.l jC=jW D.l jC:=by
 have Q:=h.ok.xE;have T:=h.ok.many;obtain⟨D',i,a⟩:=qVG h.fl.up h.fl.nodup (m:=⟨n,c,d,R⟩);obtain⟨P,p,K,O⟩:=a.dk (m:=⟨n,c,d,R⟩) h.fl o h.ok
 have z:Calls prog 31 #[ptr gd,jr n c d (.slice A k cp)] w fun e w'=>jz At w0 gd gx r S D' (gl::E) w'/\jV (gl::E) w w'/\e = .returned (.int .i64 0):=by
  refine h.ix.quiet fun E' u t=>?_
  refine(iap.clean n c d A k cp R t h.fl.up.wf (fun W _ J=>I W (J.less (fun b g=>u b (v b g)))) f (by rw[o];omega) y).mono ?_;rintro e w'⟨rfl,j,s⟩;rw[i]at j;rw[i];exact⟨j,s,rfl⟩
 refine z.mono ?_;rintro e w'⟨F,f,rfl⟩;have C:=Ja h.xX a.up (fun q H=>((a.names q).1 H).1) K;exact⟨D',rfl,⟨F,f.qa h.log qD,h.qo,h.low,P,p,C,h.gl.zZ a.stays.qp⟩,f.less (fun b g=>qE _ g),a.stays,a.used,O⟩
theorem qVO(nap:jm)(cap:yY)(h:DS At w0 gd D E w)(fl:dV (bJ chs.length) D)(g:kx D chs)(j:D.count<=900000000):Calls prog 8 #[ptr gd] w fun e w' =>
  ∃gl D',e = .returned (.tuple #[ptr gl,.int .i64 0])/\w.heap.size<=gl/\kM At w0 gd gl ⟨D.qp,chs.length,kC chs,kC chs⟩ chs D' E w'/\jV E w w'/\ks D D'/\D'.count<=D.count+200:=by
 obtain⟨D',b,a,c1⟩:=qQH g (h.qw api);refine(h.zB api nap cap fl.up.wf (by omega) (by rw[b])).mono ?_;rintro e w'⟨gl,rfl,i,d,f⟩;rw[b]at d
 have hw:WfP D':=by
  have:=qVI (D:=D) fl.up.wf;rw[b]at this;exact this
 refine⟨gl,D',rfl,i,⟨d,⟨⟨a.down.trans fl.up.down,a.fails.trans fl.up.fails,hw⟩,by unfold j7;rw[a.names];exact fl.nodup,fun n c=>fl.only n (by unfold j7 at c ⊢;rw[<-a.names];exact c),fl.xA,fl.xD⟩,g.same a,⟨a.qp,rfl,rfl,qK _⟩⟩,f,a,c1⟩
end
end
section
def pZ(s t:Tw):Prop:=t=s∨(∃k,k<s.size/\t=s.extract 0 k)∨(t.size=s.size/\t≠s/\∃k:Nat,∀j:Nat,j<k∨k+4<=j->s.data.toList[j]? = t.data.toList[j]?)
theorem qVP{s t:Tw}(h:ur s)(k:pZ s t):t=s∨¬ur t:=by
 rcases k with e|⟨k,b,e⟩|⟨f,d,k,b⟩
 ·exact qX e
 ·refine qY fun a=>?_
  rw[e]at a;have g:=yO s
  have c:s=s.extract 0 k++s.extract k s.size:=by
   rw[yt s 0 k,yt s k s.size,uh,List.drop_zero,Nat.sub_zero,qd (l:=s.data.toList.drop k) (by rw[List.length_drop];omega),ql,bG]
  rw[c]at h;have:=Nz a h;rw[qT]at this;omega
 ·exact qY fun a=>d (Vk (YW h) (YW a) k f.symm b).symm
theorem DR{s t:Tw}(h:vB s=true)(k:pZ s t):t=s∨vB t=false:=by
 rcases k with e|⟨k,a,e⟩|⟨c,b,k,a⟩
 ·exact qX e
 ·rw[e];exact qY (O8 h a)
 ·exact qY (O6 h k c.symm a (fun e=>b e.symm))
theorem qVR(d:Tw)(c:UInt8)(a:Nat):pZ d (y7 d ⟨#[c]⟩ a):=by
 by_cases e:y7 d ⟨#[c]⟩ a=d
 ·exact qX e
 ·refine qY (qY ⟨Cd d _ a,e,a,fun j k=>?_⟩);show _=(cU d ⟨#[c]⟩ a 1)[j]?;have l:=fO d ⟨#[c]⟩ a 1;have i:d.data.toList.length=d.size:=Array.length_toList;rcases Nat.lt_or_ge j d.size with f|f
  ·have b:=XF d ⟨#[c]⟩ a 1 j f
   have g:¬(a<=j/\j<a+min 1 (⟨#[c]⟩:Tw).size):=by
    have:(⟨#[c]⟩:Tw).size=1:=rfl;rw[this];omega
   rw[qZ g]at b;rw[qC (by omega),qC (by omega)];rw[qz,qz,qC (by omega),qC (by omega)]at b;exact congrArg some b.symm
  ·rw[List.getElem?_eq_none (by omega),List.getElem?_eq_none (by omega)]
theorem qVS(d:Tw)(k:Nat):pZ d (d.extract 0 (min k d.size)):=by
 rcases Nat.lt_or_ge k d.size with h|h
 ·exact qY (qX ⟨k,h,by rw[Nat.min_eq_left (Nat.le_of_lt h)]⟩)
 ·refine qX ?_;rw[Nat.min_eq_right h];apply ByteArray.ext;rw[ByteArray.data_extract];exact Array.extract_size
structure cZ(n:Tw)(D E:jK):Prop where
 up:UpD E
 stays:kF D E
 used:jA E.l<=jA D.l
 nodup:(j7 E).Nodup
 names:∀k∈j7 E,k∈j7 D
 other:∀k,k≠n->jW E.l k=jW D.l k
 one:jW E.l n=none∨∃f g,jW D.l n=some f/\jW E.l n=some g/\pZ f.data g.data
theorem cZ.refl{n:Tw}{D:jK}(h:UpD D)(a:(j7 D).Nodup):cZ n D D:=⟨h,kF.refl D,qK _,a,fun k b=>b,fun k _=>rfl,by
 cases e:jW D.l n with
 | none=>exact qX rfl
 | some f=>exact qY ⟨f,f,rfl,rfl,qX rfl⟩⟩
theorem DT{n:Tw}{D:jK}(h:UpD D)(g:(j7 D).Nodup)(u:jU->jU)(c:∀f,(u f).name=f.name)(j:∀f,pZ f.data (u f).data)(m:∀f:jU,(u f).data.size<=f.data.size)(hw:WfP { D with l:=jd D.l (jD D.l n) u })(i:jD D.l n<D.l.length):cZ n D { D with l:=jd D.l (jD D.l n) u }:=by
 obtain⟨f,b⟩:∃f,jW D.l n=some f:=by
  cases e:jW D.l n with
  | none=>exact absurd e (fP.1 i)
  | some f=>exact⟨f,rfl⟩
 have a:D.l[jD D.l n]? = some f:=by rw[dA];exact b
 have o:=mB D.l _ f u a;have p:=m f;have d:j7 { D with l:=jd D.l (jD D.l n) u }=j7 D:=lS u c D.l _;refine⟨⟨h.down,h.fails,hw⟩,⟨rfl,rfl,rfl⟩, ?_,by rw[d];exact g,fun k a=>by rw[d]at a;exact a,fun k a=>?_,qY ⟨f,u f,b, ?_,j f⟩⟩
 ·show jA (jd _ _ _)<=_;omega
 ·show jW (jd _ _ _) _=_;rw[lR u c,qZ a]
 ·show jW (jd _ _ _) _=_;rw[lR u c,qV rfl,b];rfl
theorem D7{n:Tw}{D:jK}(h:UpD D)(d:(j7 D).Nodup)(a:Nat)(c:UInt8):cZ n D (gW D n (a:Nat) ⟨#[c]⟩).2:=by
 have hw:=LS h.wf n (a:Nat) ⟨#[c]⟩;unfold gW at hw ⊢;split at hw
 ·rename_i b;rw[qV b];rw[qZ (by omega)]at hw ⊢;exact DT h d (fun f=>{ f with data:=y7 f.data ⟨#[c]⟩ ((a:Nat):Int).toNat }) (fun _=>rfl) (fun f=>qVR _ _ _) (fun f=>Nat.le_of_eq (Cd _ _ _)) hw b
 ·rename_i b;rw[qZ b];exact cZ.refl h d
theorem qVT{n:Tw}{D:jK}(h:UpD D)(b:(j7 D).Nodup)(k:Nat):cZ n D (gA D n (k:Nat)).2:=by
 have hw:=L0 h.wf n (k:Nat);unfold gA at hw ⊢;split at hw
 ·rename_i a;rw[qV a];rw[qZ (by omega)]at hw ⊢;exact DT h b (fun f=>⟨f.name,f.data.extract 0 (min ((k:Nat):Int).toNat f.data.size),min f.synced (min ((k:Nat):Int).toNat f.data.size)⟩) (fun _=>rfl) (fun f=>qVS _ _) (fun f=>by show(f.data.extract _ _).size<=_;rw[qT];omega) hw a
 ·rename_i a;rw[qZ a];exact cZ.refl h b
theorem qV0{n:Tw}{D:jK}(h:UpD D)(d:(j7 D).Nodup):cZ n D (j6 D n).2:=by
 obtain⟨f,E,c,m,u1,j,l,b,a,i⟩:=sZ h d n;rw[c];exact⟨u1,j,l,b,fun k g=>((a k).1 g).1,i,qX (nG fun q=>((a n).1 q).2 rfl)⟩
structure uf(D:jK)(S:IxS):Prop where
 map:(jW D.l jC).map jU.data=some (mfB S.m)
 has:∀t∈S.T,vO D t.n t.l
theorem cZ.seen{X:List Tw}{n:Tw}{D E:jK}{S:IxS}(h:cZ n D E)(w:uf D S)(A:jw S.m)(F:S.m.seed<18446744073709551616)(C:∀t∈S.T,t.n<=999999):
  uf E S∨vW E≠0∨((jW E.l jC).map jU.data=some (mfB S.m)/\∃t∈S.T,jo E t.n≠0):=by
 have z:ur (mfB S.m):=⟨S.m,⟨A,F⟩,rfl⟩
 by_cases e:n=jC
 ·subst e;have v:∀t∈S.T,vO E t.n t.l:=fun t c=>Cc (w.has t c) (h.other _ (dx (C t c)).1)
  rcases h.one with q|⟨f,g,d,b,i⟩
  ·exact qY (qX (Qd h.up.down q).1)
  ·have y:f.data=mfB S.m:=by
    have:=w.map;rw[d]at this;exact qg this
   rw[y]at i;rcases qVP z i with q|q
   ·exact qX ⟨by rw[b,<-q];rfl,v⟩
   ·refine qY (qX ?_);unfold vW;rw[cW h.up.down b];simp only;rw[qZ (by decide)];unfold mgE;rw[qZ q];decide
 ·have s:(jW E.l jC).map jU.data=some (mfB S.m):=by rw[h.other _ (fun q=>e q.symm)];exact w.map
  by_cases c:∃t∈S.T,jo E t.n≠0
  ·exact qY (qY ⟨s,c⟩)
  ·refine qX ⟨s,fun t u=>?_⟩;have a:jo E t.n=0:=Classical.byContradiction fun q=>c ⟨t,u,q⟩
   obtain⟨f,o,k,p⟩:=w.has t u;by_cases j:n=ptT t.n
   ·rcases h.one with q|⟨G,g,d,b,i⟩
    ·exfalso;rw[j]at q;unfold jo at a;rw[dd h.up.down q,qZ (by rw[h.up.down];decide)]at a;simp at a
    ·rw[j]at d b;rw[o]at d;obtain rfl:=qg d;rcases DR k i with q|q
     ·exact⟨g,b,by rw[q];exact k,by rw[q];exact p⟩
     ·exfalso;unfold jo at a;rw[cW h.up.down b,qZ (by rw[h.up.down];decide)]at a;simp[q]at a
   ·exact Cc ⟨f,o,k,p⟩ (h.other _ (fun q=>j q.symm))
end
def kV(seed:Nat)(x:Nat × Tw):List jJ:=(List.range (bgL x.2).length).map fun i=>⟨uq seed (bgS x.2).data.toList,bgF x.2+(i:Nat),(x.1:Nat)⟩
def vu(seed:Nat)(l:List (Nat × Tw)):List jJ:=l.flatMap (kV seed)
theorem sY{seed:Nat}{l:List (Nat × Tw)}{y:jJ}:y∈vu seed l↔∃x∈l,y∈kV seed x:=List.mem_flatMap
theorem Ji(seed:Nat)(l:List (Nat × Tw))(x:Nat × Tw)(y:jJ):y∈vu seed (l++[x])↔y∈vu seed l∨y∈kV seed x:=by
 unfold vu;rw[List.flatMap_append,qB];simp
structure yr(seed:Nat)(S:IxS)(chs:List (List Tw)):Prop where
 sd:S.m.seed=seed
 whole:∀x∈jO 0 chs,kr x.2=true
 has:∀y,yF S y↔y∈vu seed (jO 0 chs)
 xO:∀x∈jO 0 chs,(x.1:Int)<S.m.check->∀y∈kV seed x,∃t∈S.T,y∈t.l
 check:S.m.check<=(kC chs:Nat)
 fresh:∀y∈S.mem,∃x∈jO 0 chs,S.m.check<=(x.1:Int)/\y∈kV seed x
 xK:S.T.length<=((jO 0 chs).filter fun x=>decide ((x.1:Int)<S.m.check)).length
section
variable {seed:Nat}{S S':IxS}{chs chs':List (List Tw)}{D E:jK}
theorem yr.merge(h:yr seed S chs)(c:∀x,yF S' x↔yF S x)(j:∀x,(∃t∈S.T,x∈t.l)->∃t∈S'.T,x∈t.l)(i:S'.m.seed=S.m.seed)(a:S'.m.check=S.m.check)(f:S'.mem=S.mem)(g:S'.T.length<=S.T.length):yr seed S' chs :=
 ⟨i.trans h.sd,h.whole,fun y=>(c y).trans (h.has y),fun x k d y b=>j y (h.xO x k (by rw[<-a];exact d) y b),by rw[a];exact h.check,fun y b=>by rw[f]at b;rw[a];exact h.fresh y b,by rw[a];exact qO g h.xK⟩
theorem D8{D:jK}(g:kx D chs):∀x∈jO 0 chs,x.1<kC chs:=by
 intro x n;have m:=(oR chs 0 (fun d c=>(g.small d c).1))
 have k:=BJ chs (fun d c=>(g.small d c).1);obtain⟨i,a⟩:=List.getElem?_of_mem n;have b:=(qP.1 a).1
 have l:x.1+12<=lZ (jO 0 chs) (jO 0 chs).length:=by
  unfold lZ;rw[qZ (by omega)];have f:(jO 0 chs)[(jO 0 chs).length-1]? = some ((jO 0 chs)[(jO 0 chs).length-1]'(by omega)):=qC _;rw[f];show x.1+12<=vy _;by_cases e:i=(jO 0 chs).length-1
  ·subst e;rw[f]at a;obtain rfl:=qg a;unfold vy;omega
  ·have:=List.pairwise_iff_getElem.1 m.1 i ((jO 0 chs).length-1) b (by omega) (by omega)
   have j:(jO 0 chs)[i]'b=x:=by
    rw[qC b]at a;exact qg a
   rw[j]at this;unfold vy at this ⊢;omega
 rcases k with e|⟨o,p⟩
 ·rw[e]at l;omega
 ·omega
theorem yr.flush(h:yr seed S chs)(g:kx D chs)(d:∀x,yF S' x↔yF S x)(f:S'.mem=[]){R:LvL}(c:S'.m=jv S R (kC chs:Nat))(k:S.mem≠[])(i:S'.T.length=S.T.length+1):yr seed S' chs:=by
 have e:S'.m.check=(kC chs:Nat):=by rw[c];rfl
 refine⟨by rw[c];exact h.sd,h.whole,fun y=>(d y).trans (h.has y),fun x b _ y a=>?_,by rw[e];exact Int.le_refl _,(fun y a=>by rw[f]at a;cases a), ?_⟩;rotate_left
 ·rw[e];have j:(jO 0 chs).filter (fun x=>decide ((x.1:Int)<((kC chs:Nat):Int)))=jO 0 chs:=List.filter_eq_self.2 fun x b=>qA (by have:=D8 g x b;omega)
  rw[j,i];obtain⟨y,a⟩:=List.exists_mem_of_ne_nil _ k;obtain⟨x,b,l,-⟩:=h.fresh y a;have n:((jO 0 chs).filter fun x=>decide ((x.1:Int)<S.m.check)).length<(jO 0 chs).length:=List.length_filter_lt_length_iff_exists.2 ⟨x,b,by simp;omega⟩;have:=h.xK;omega
 have:yF S' y:=(d y).2 ((h.has y).2 (sY.2 ⟨x,b,a⟩));rcases this with q|q
 ·rw[f]at q;cases q
 ·exact q
theorem yr.append(h:yr seed S chs){q:Nat}{p:Tw}(l:kr p=true)(b:jO 0 chs'=jO 0 chs++[(q,p)])(u:kC chs<=q)(t:q<=kC chs')(o:∀y,yF S' y↔yF S y∨y∈kV seed (q,p))(g:S'.T=S.T)(c:S'.m=S.m)(n:∀y∈S'.mem,y∈S.mem∨y∈kV seed (q,p)):yr seed S' chs':=by
 have s:=h.check;refine⟨by rw[c];exact h.sd,fun x a=>?_,fun y=>?_,fun x a d y f=>?_,by rw[c];omega,fun y f=>?_, ?_⟩
 ·rw[b]at a;rcases qB.1 a with k|k
  ·exact h.whole x k
  ·rw[qH.1 k];exact l
 ·rw[o,h.has,b,Ji]
 ·rw[b]at a;rw[g];rw[c]at d;rcases qB.1 a with k|k
  ·exact h.xO x k d y f
  ·rw[qH.1 k]at d;simp only at d;omega
 ·rw[c,b];rcases n y f with k|k
  ·obtain⟨x,a,i,j⟩:=h.fresh y k;exact⟨x,qG _ a,i,j⟩
  ·exact⟨(q,p),qJ _ (qH.2 rfl),by simp only;omega,k⟩
 ·rw[g,c,b,List.filter_append,qI];have:=h.xK;omega
theorem yr.opened(h:yr seed S chs)(d:S'.m.check=S.m.check)(k:S'.m.seed=S.m.seed)(g:∀y,(∃t∈S'.T,y∈t.l)↔∃t∈S.T,y∈t.l)(f:∀y,y∈S'.mem↔∃x∈jO 0 chs,S.m.check<=(x.1:Int)/\y∈kV seed x)(i:S'.T.length<=S.T.length):yr seed S' chs:=by
 refine⟨k.trans h.sd,h.whole,fun y=>?_,fun x b j y a=>(g y).2 (h.xO x b (by rw[<-d];exact j) y a),by rw[d];exact h.check,fun y a=>by rw[d];exact(f y).1 a,by rw[d];exact qO i h.xK⟩;rw[sY];constructor
 ·rintro (q|q)
  ·obtain⟨x,b,-,a⟩:=(f y).1 q;exact⟨x,b,a⟩
  ·exact sY.1 ((h.has y).1 (qY ((g y).1 q)))
 ·rintro ⟨x,b,a⟩;rcases Int.lt_or_le (x.1:Int) S.m.check with c|c
  ·exact qY ((g y).2 (h.xO x b c y a))
  ·exact qX ((f y).2 ⟨x,b,c,a⟩)
theorem qV1(hw:∀x∈jO 0 chs,kr x.2=true)(i:S'.m.seed=seed)(a:S'.m.check=0)(c:S'.T=[])(b:∀y,y∈S'.mem↔∃x∈jO 0 chs,y∈kV seed x):yr seed S' chs:=by
 refine⟨i,hw,fun y=>?_,fun x d g=>by rw[a]at g;omega,by rw[a];omega,fun y j=>by
  obtain⟨x,d,f⟩:=(b y).1 j;exact⟨x,d,by rw[a];omega,f⟩,by rw[c];exact qF _⟩
 rw[sY,<-b];unfold yF;rw[c];simp
theorem D9{x:Nat × Tw}(h:kr x.2=true)(p:x.1<=2147483647):∀y∈kV seed x,kI y/\mayE y=true:=by
 intro y b;unfold kV at b;obtain⟨i,a,rfl⟩:=qN.1 b;have a:=List.mem_range.1 a;obtain⟨-,n,o,-,-,c⟩:=oN h;obtain⟨f,g,j,k,l,m,-⟩:=lh.1 c;have d:uq seed (bgS x.2).data.toList<18446744073709551616:=Kz _ _;refine⟨⟨d,by show _<=bgF x.2+(i:Nat);omega,by show bgF x.2+(i:Nat)<=_;omega,by show _<=((x.1:Nat):Int);omega,by show((x.1:Nat):Int)<=_;omega⟩, ?_⟩;unfold mayE;exact qA ⟨by show 0<=bgF x.2+(i:Nat);omega,by show 0<=((x.1:Nat):Int);omega⟩
end
section
theorem Jo{L:List Rec}(h:mr L){p:Nat}{x:Rec}(f:L.find? (fun z=>decide (p<=z.1))=some x):x∈L/\p<=x.1/\∀z∈L,z.1<vy x↔z.1<p∨z=x:=by
 obtain⟨g,m,n,rfl,d⟩:=List.find?_eq_some_iff_append.1 f;have i:p<=x.1:=of_decide_eq_true g;have j:x.1<vy x:=by unfold vy;omega
 refine⟨qJ _ qD,i,fun z l=>?_⟩;have b:=(List.pairwise_append.1 h).2.1;have c:=(List.pairwise_cons.1 b).1;rcases qB.1 l with k|k
 ·have a:=d z k;simp at a;exact⟨fun _=>qX a,fun _=>by omega⟩
 ·rcases qL.1 k with e|k
  ·subst e;exact⟨fun _=>qY rfl,fun _=>j⟩
  ·have:=c z k
   exact⟨fun q=>by omega,fun q=>by
    rcases q with q|q
    ·omega
    ·rw[q]at this;omega⟩
theorem qV2{L:List Rec}{p:Nat}(a:L.find? (fun z=>decide (p<=z.1))=none):∀z∈L,z.1<p:=fun z b=>by
 have:=List.find?_eq_none.1 a z b;simp at this;exact this
def pJ(L:List Rec)(p:Nat):Nat:=(L.filter fun z=>decide (p<=z.1)).length
theorem Dq(L:List Rec)(p:Nat):pJ L p<=L.length:=List.length_filter_le _ _
theorem qV3{L:List Rec}(h:mr L){p:Nat}{x:Rec}(c:L.find? (fun z=>decide (p<=z.1))=some x):pJ L (vy x)+1<=pJ L p:=by
 obtain⟨a,b,d⟩:=Jo h c;have f:x.1<vy x:=by unfold vy;omega
 have e:L.filter (fun z=>decide (vy x<=z.1))=(L.filter (fun z=>decide (p<=z.1))).filter (fun z=>decide (vy x<=z.1)):=by
  rw[List.filter_filter];refine List.filter_congr fun z _=>?_
  by_cases q:vy x<=z.1
  ·rw[qA q,qA (show p<=z.1 by omega)];rfl
  ·rw[qW q];rfl
 unfold pJ;rw[e];exact List.length_filter_lt_length_iff_exists.2 ⟨x,List.mem_filter.2 ⟨a,qA b⟩,by simp;omega⟩
def dj(seed:Nat)(L:List Rec)(c p:Nat)(M:List jJ):Prop:=∀y,y∈M↔∃x∈L,c<=x.1/\x.1<p/\y∈kV seed x
theorem dj.start(seed:Nat)(L:List Rec)(c:Nat):dj seed L c c []:=fun y=>⟨fun h=>(by cases h),fun⟨x,_,a,b,_⟩=>by omega⟩
theorem dj.step{seed:Nat}{L:List Rec}{c p:Nat}{M i:List jJ}(h:dj seed L c p M)(n:mr L){x:Rec}(l:L.find? (fun z=>decide (p<=z.1))=some x)(s:c<=p)(m:∀y,y∈i↔y∈M∨y∈kV seed x):dj seed L c (vy x) i:=by
 obtain⟨j,o,d⟩:=Jo n l;intro y;rw[m,h];constructor
 ·rintro (⟨z,a,f,g,b⟩|q)
  ·exact⟨z,a,f,(d z a).2 (qX g),b⟩
  ·exact⟨x,j,by omega,(d x j).2 (qY rfl),q⟩
 ·rintro ⟨z,a,f,g,b⟩;rcases(d z a).1 g with k|k
  ·exact qX ⟨z,a,f,k,b⟩
  ·rw[k]at b;exact qY b
theorem dj.done{seed:Nat}{L:List Rec}{c p:Nat}{M:List jJ}(h:dj seed L c p M)(f:L.find? (fun z=>decide (p<=z.1))=none):∀y,y∈M↔∃x∈L,(c:Int)<=(x.1:Int)/\y∈kV seed x:=fun y=>by
 have d:=qV2 f;rw[h];exact⟨fun⟨x,a,g,_,b⟩=>⟨x,a,by omega,b⟩,fun⟨x,a,g,b⟩=>⟨x,a,by omega,d x a,b⟩⟩
theorem dj.len{seed:Nat}{L:List Rec}{c p:Nat}{M:List jJ}(h:dj seed L c p M)(a:jh M):M.length<=(vu seed L).length:=lW a fun y b=>by
 obtain⟨x,d,_,_,f⟩:=(h y).1 b;exact sY.2 ⟨x,d,f⟩
theorem Dx: ∀(ps:List Tw) (k:Nat) (x:Rec),x∈yD k ps->x.2∈ps
 | [],_,_,h=>by cases h
 | p::ps,k,x,h=>by
   rcases qL.1 h with e|h
   ·rw[e];exact qD
   ·exact qE _ (Dx ps _ x h)
theorem Dz: ∀(chs:List (List Tw)) (i:Nat) (x:Rec),x∈jO i chs->∃a∈chs,x.2∈a
 | [],_,_,h=>by cases h
 | a::r,i,x,h=>by
   rcases qB.1 h with h|h
   ·exact⟨a,qD,Dx _ _ _ h⟩
   ·obtain⟨q,b,c⟩:=Dz r (i+1) x h;exact⟨q,qE _ b,c⟩
theorem qV4{D:jK}{chs:List (List Tw)}(g:kx D chs){x:Rec}(h:x∈jO 0 chs):x.2.size<=2000:=by
 obtain⟨c,a,b⟩:=Dz chs 0 x h;exact(g.small c a).2 _ b
theorem Qf{D D':jK}(a:D.down=false)(k:ks D D')(n:Tw):(rdW D' n).1=(rdW D n).1/\(rdW D' n).2.1=(rdW D n).2.1:=by
 have e:=k.data n;have b:=k.down.trans a;cases h:jW D.l n with
 | none =>
   rw[h]at e
   have d:jW D'.l n=none:=by cases q:jW D'.l n with
    | none=>rfl
    | some f=>rw[q]at e;cases e
   rw[dd a h,dd b d];exact⟨rfl,rfl⟩
 | some f =>
   rw[h]at e;obtain⟨i,g,c⟩:=Option.map_eq_some_iff.1 (e:(jW D'.l n).map jU.data=some f.data);rw[cW a h,cW b g,c];exact⟨rfl,rfl⟩
theorem Jw{D D':jK}(c:D.down=false)(k:ks D D')(n:Int):jo D' n=jo D n:=by
 obtain⟨a,b⟩:=Qf c k (ptT n);unfold jo;rw[a,b,k.down]
theorem qV5{D D':jK}(c:D.down=false)(k:ks D D'):vW D'=vW D/\jb D'=jb D:=by
 obtain⟨a,b⟩:=Qf c k jC;unfold vW jb;rw[a,b];exact⟨rfl,rfl⟩
end
section
open Go.RowKit Go.Shelf
structure Dj(At:jL)(w0:World)(gd gl gx r seed:Nat)(S:IxS)(L:jN)(chs:List (List Tw))(D D':jK)(E:List Nat)(w w':World):Prop where
 sx:jy At w0 gd gl gx r S L chs D' E w'
 kept:jV E w w'
 rb:yr seed S chs
 cap:D'.cap=D.cap
 qp:D'.qp=D.qp
 count:D'.count<=D.count+400+200*(jO 0 chs).length
 used:jA D'.l<=jA D.l
def cJ(seed:Nat):j5:=⟨0,0,seed,[]⟩
theorem qV6(seed:Nat):jw (cJ seed):=⟨by show(0:Int)<=0;omega,by show(0:Int)<=1000000;omega,by show(0:Int)<=0;omega,by show(0:Int)<=2147483647;omega,(show bq [] by decide),fun x a=>by cases a⟩
def Qh(seed:Nat)(en:Nat)(D:jK):Prop :=
 vW D≠0∨(vW D=0/\jw (jb D)/\(∀x∈(jb D).lv.flatten,jo D x=0->(tgL (rdW D (ptT x)).1).length<=10000)/\((jb D).seed≠seed∨(en:Int)<(jb D).check∨∃x∈(jb D).lv.flatten,jo D x≠0))
structure dY(At:jL):Prop where
 keep:∀ {w0 w:World} {gd gl:Nat} {L:jN} {chs:List (List Tw)} {D:jK} {E:List Nat} (seed r:Nat) (S:IxS),kM At w0 gd gl L chs D E w->jl D S->yr seed S chs->uf D S->(∀t∈S.T,t.l.length<=10000)->(vu seed (jO 0 chs)).length<=1000->D.count<=800000000->r<18446744073709551616 ->
  Calls prog 9 #[ptr gd,ptr gl,.int .u64 (seed:Nat),.float .f64 r] w fun e w'=>∃gx S' D',e = .returned (.tuple #[ptr gx,.bool false,.int .i64 0])/\Dj At w0 gd gl gx r seed S' L chs D D' E w w'/\uf D' S'/\S'.m=dD S.m
 zY:∀ {w0 w:World} {gd gl:Nat} {L:jN} {chs:List (List Tw)} {D:jK} {E:List Nat} (seed r:Nat),kM At w0 gd gl L chs D E w->(∀x∈jO 0 chs,kr x.2=true)->Qh seed (kC chs) D->(vu seed (jO 0 chs)).length<=1000->D.count<=800000000->seed<18446744073709551616->r<18446744073709551616 ->
  Calls prog 9 #[ptr gd,ptr gl,.int .u64 (seed:Nat),.float .f64 r] w fun e w'=>∃gx S' D',e = .returned (.tuple #[ptr gx,.bool true,.int .i64 0])/\Dj At w0 gd gl gx r seed S' L chs D D' E w w'/\jW D'.l jC=none/\S'.T=[]/\S'.m=cJ seed
end
end Go.Proofs.YtokbfellcadkpaaGreat
