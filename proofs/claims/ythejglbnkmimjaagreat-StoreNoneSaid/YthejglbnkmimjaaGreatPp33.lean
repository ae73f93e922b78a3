import Derived.Test.YthejglbnkmimjaaGreatPp32
import Derived.Test.YthejglbnkmimjaaGreatPp31
set_option linter.unusedVariables false
set_option maxRecDepth 100000
set_option maxHeartbeats 9000000
namespace Go.Proofs.YthejglbnkmimjaaGreat
open Tryz
section
open Go.RowKit Go.Shelf
theorem pj(D:zr)(k:Nat)(n:Tw)(a:D.down=false):(rdW { D with count:=k } n).1=(rdW D n).1/\(rdW { D with count:=k } n).2.1=(rdW D n).2.1/\∃j,j<=1/\(rdW { D with count:=k } n).2.2={ D with count:=k+j }:=by
 cases h:jU D.l n with
 | none =>
   rw[fY (D:=D) a h,fY (D:={ D with count:=k }) a h];exact⟨rfl,rfl,0,by omega,rfl⟩
 | some f =>
   rw[dD (D:=D) a h,dD (D:={ D with count:=k }) a h];exact⟨rfl,rfl,1,by omega,rfl⟩
theorem Vb(D:zr)(k:Nat)(n:Int)(a:D.down=false):jl { D with count:=k } n=jl D n/\∃j,j<=2/\gO { D with count:=k } n={ D with count:=k+j }:=by
 obtain⟨b,f,j,p,g⟩:=pj D k (ptT n) a;have l:¬D.down=true:=by rw[a];decide
 refine⟨?_, ?_⟩
 ·unfold jl;rw[b,f]
 ·unfold gO;rw[qJ l,f,b,g];split
  ·exact⟨j,by omega,rfl⟩
  ·split
   ·exact⟨j,by omega,rfl⟩
   ·obtain⟨-,-,o,q,i⟩:=pj D (k+j) (ptB n) a;rw[i];exact⟨j+o,by omega,by rw[Nat.add_assoc]⟩
theorem RI{D:zr}{n:Int}(a:D.down=false)(h:jl D n=0):vH D n (tgL (rdW D (ptT n)).1):=by
 unfold jl at h;rw[qJ (by rw[a];decide)]at h;cases b:jU D.l (ptT n) with
 | none =>
   rw[fY a b]at h;simp at h
 | some f =>
   rw[dD a b]at h ⊢;simp at h;exact⟨f,b,h,rfl⟩
theorem kC.low{w:World}{base base' g:Nat}{F:List Nat}{l:List zn}(h:kC w base g F l)(b:base'<=base):kC w base' g F l:=by
 obtain⟨v,i,j,k,o,a,p,q⟩:=h;exact⟨v,i,j.down b,k,o,fun x f=>⟨qR b (a x f).1,(a x f).2⟩,p,q⟩
structure lq(At:jK)(w0:World)(gd gx r gm:Nat)(m:jS)(lv tv:Value)(ps:List Nat)(T:List TbS)(Gk:List Nat)(D:zr)(E:List Nat)(w:World):Prop where
 ds:DS At w0 gd D ([gm]++((gx::jA tv)++(Gk++E))) w
 qp:za w gx 111 #[.pointer none,ptr gd,.int .i64 m.next,.int .i64 m.check,.int .u64 (m.seed:Nat),lv,tv,.float .f64 r,mtp gm]
 lv:ur w lv m.lv Gk
 row:yL w w0.heap.size tv ps
 xW:uk w gd ps T Gk
 mem:kC w w0.heap.size gm [gm] []
 xO:gm ∉ gx::jA tv/\gm ∉ Gk/\gm ∉ E
 gr:∀b∈gx::jA tv,b ∉ Gk/\b ∉ E
 gk:∀b∈Gk,b ∉ E
 low:w0.heap.size<=gx
section
variable {At:jK}{w0 w w5 W:World}{gd gx r gm gt:Nat}{m:jS}{lv tv:Value}{ps H:List Nat}{T:List TbS}{Gk:List Nat}{D D':zr}{E E':List Nat}{t:TbS}
theorem lq.made(api:jY At)(h:lq At w0 gd gx r gm m lv tv ps T Gk D E w):jy At w0 gd gx r ⟨m,T,[]⟩ D E (w.setCell ⟨gx,0,none⟩ (ptr gx))/\zt E w (w.setCell ⟨gx,0,none⟩ (ptr gx)):=by
 have i:ze [gx] w (w.setCell ⟨gx,0,none⟩ (ptr gx)):=(ze.refl [gx] w).setCell (p:=⟨gx,0,none⟩) (qX (qE.2 rfl)) _;have g:=h.ds.lt
 have l:∀b∈[gm]++(jA tv++(Gk++E)),b<w.heap.size/\b ∉ [gx]:=fun b a=>by
  rcases qC.1 a with q|q
  ·refine⟨g b (qA _ q),fun f=>h.xO.1 ?_⟩;rw[<-qE.1 q,qE.1 f];exact qB
  ·rcases qC.1 q with q|q
   ·refine⟨g b (qV _ (qA _ (qF _ q))),fun f=>?_⟩;exact kv h.row h.qp (by decide) (by rw[qE.1 f]at q;exact jq.1 q)
   ·rcases qC.1 q with q|q
    ·exact⟨g b (qV _ (qV _ (qA _ q))),fun f=>(h.gr gx qB).1 (by rw[<-qE.1 f];exact q)⟩
    ·exact⟨g b (qV _ (qV _ (qV _ q))),fun f=>(h.gr gx qB).2 (by rw[<-qE.1 f];exact q)⟩
 have k:=zt.xK i l;refine⟨⟨[gm],gx::jA tv,Gk,h.ds.x5 api i (fun b a=>by rw[qE.1 a];exact⟨qV _ (qA _ qB),h.low⟩),⟨gm,lv,tv,ps,h.qp.put 0 (ptr gx),h.lv.step (k.less (fun b a=>qV _ (qV _ (qA _ a)))),k.xH h.row (fun b a=>qV _ (qA _ a)),h.xW.keep k (fun b a=>qV _ (qV _ (qA _ a))),h.mem.keep k (fun b a=>qA _ a),qB,fun b a=>qF _ a,h.low⟩,fun b a=>by rw[qE.1 a];exact h.xO,h.gr,h.gk,fun b a=>?_⟩,k.less (fun b a=>qV _ (qV _ (qV _ a)))⟩;rcases qC.1 a with q|q
 ·obtain⟨v,o,s,u,y,j,z,B⟩:=h.mem;exact(j b q).1
 ·rcases qL.1 q with e|q
  ·rw[e];exact h.low
  ·exact(h.row.lt b (jq.1 q)).1
theorem lq.next(api:jY At)(h:lq At w0 gd gx r gm m lv tv ps T Gk D E w)(B:DS At w0 gd D' (H++([gm]++((gx::jA tv)++(Gk++E)))) w5)(o:zt ([gm]++((gx::jA tv)++(Gk++E))) w w5)(u:∀b∈H,w.heap.size<=b)(S:yG w5 gt gd t.n t.l t.t H)(P:ps.length<=10000)(L:TypeId):
  ∃A n c g i j,tv = .slice A n c/\(Builtin.append_ #[108,108] L #[tv,.slice (some ⟨w5.heap.size,0,none⟩) 1 1]).run prog (w5.alloc (.cells #[ptr gt] 160)) = .ok (.slice g (n+1) i) j /\
   j.cell? ⟨gx,6,none⟩=some tv/\j.frozen? ⟨gx,6,none⟩=false/\lq At w0 gd gx r gm m lv (.slice g (n+1) i) (ps++[gt]) (T++[t]) (H++Gk) D' E (j.setCell ⟨gx,6,none⟩ (.slice g (n+1) i))/\zt E w (j.setCell ⟨gx,6,none⟩ (.slice g (n+1) i)):=by
 have k:=h.ds.lt;have v:=B.lt;have aa:=o.size;have F:=o.qp h.qp (qV _ (qA _ qB));have C:=o.xH h.row (fun b a=>qV _ (qA _ (qF _ a)));obtain⟨A,c,U,-,-,-⟩:=v8 C;obtain⟨g,i,j,M,I,K,o9⟩:=RH gt L C rfl P B.kept.size;have O:gx ∉ jA tv:=fun f=>kv C F (by decide) (jq.1 f)
 have s:=F.qa K O;have Q:(Value.slice g (ps.length+1) i).ownBlock≠some gx:=kv I s (by decide);have J:ze (gx::jA tv) w5 (j.setCell ⟨gx,6,none⟩ (.slice g (ps.length+1) i)):=(K.more (fun x V=>qX (qF _ V))).setCell (p:=⟨gx,6,none⟩) (qX qB) _;have X:(j.setCell ⟨gx,6,none⟩ (.slice g (ps.length+1) i)).heap.size=j.heap.size:=by simp[World.setCell]
 have y:∀b∈gx::jA (.slice g (ps.length+1) i),b∈gx::jA tv∨(w5.heap.size<=b/\b<(j.setCell ⟨gx,6,none⟩ (.slice g (ps.length+1) i)).heap.size):=fun b a=>by
  rcases qL.1 a with e|q
  ·rw[e];exact qX qB
  ·rcases o9 b q with p|p
   ·exact qX (qF _ p)
   ·rw[X];exact qY p
 have N:∀b∈[gm]++(H++(Gk++E)),b<w5.heap.size/\b ∉ gx::jA tv:=fun b a=>by
  rcases qC.1 a with q|q
  ·exact⟨v b (qV _ (qA _ q)),fun f=>h.xO.1 (by rw[<-qE.1 q];exact f)⟩
  ·rcases qC.1 q with q|q
   ·refine⟨v b (qA _ q),fun f=>?_⟩;have:=u b q;have:=k b (qV _ (qA _ f));omega
   ·refine⟨v b (qV _ (qV _ (qV _ q))),fun f=>?_⟩;rcases qC.1 q with q|q
    ·exact(h.gr b f).1 q
    ·exact(h.gr b f).2 q
 have z:=zt.xK J N;have G:zt Gk w (j.setCell ⟨gx,6,none⟩ (.slice g (ps.length+1) i)):=(o.less (fun b a=>qV _ (qV _ (qA _ a)))).trans (z.less (fun b a=>qV _ (qV _ (qA _ a))));have Z:zt [gm] w (j.setCell ⟨gx,6,none⟩ (.slice g (ps.length+1) i)):=(o.less (fun b a=>qA _ a)).trans (z.less (fun b a=>qA _ a));have Y:zt E w (j.setCell ⟨gx,6,none⟩ (.slice g (ps.length+1) i)):=(o.less (fun b a=>qV _ (qV _ (qV _ a)))).trans (z.less (fun b a=>qV _ (qV _ (qV _ a))));refine⟨A,ps.length,c,g,i,j,U,M,s.cell 6,s.frozen 6,⟨B.xX api J (fun b a=>⟨qV _ (qV _ (qA _ a)), ?_⟩) (fun b a=>?_),s.put 6 _,(h.lv.step G).more (fun b a=>qV _ a),vW (p:=⟨gx,6,none⟩) I Q _,(h.xW.keep G (fun b a=>a)).snoc (S.keep z (fun b a=>qV _ (qA _ a))),h.mem.keep Z (fun b a=>a),⟨fun f=>?_,fun f=>?_,h.xO.2.2⟩,fun b a=>⟨fun f=>?_,fun f=>?_⟩,fun b a f=>?_,h.low⟩,Y⟩
 ·rcases qL.1 a with e|q
  ·rw[e];exact h.low
  ·exact(h.row.lt b (jq.1 q)).1
 ·rcases qC.1 a with q|q
  ·exact qX (qV _ (qA _ q))
  ·rcases qC.1 q with q|q
   ·rcases y b q with p|p
    ·exact qX (qV _ (qV _ (qA _ p)))
    ·exact qY p
   ·rcases qC.1 q with q|q
    ·rcases qC.1 q with q|q
     ·exact qX (qA _ q)
     ·exact qX (qV _ (qV _ (qV _ (qA _ q))))
    ·exact qX (qV _ (qV _ (qV _ (qV _ q))))
 ·have:=k gm (qA _ qB);rcases y gm f with p|p
  ·exact h.xO.1 p
  ·omega
 ·have:=k gm (qA _ qB);rcases qC.1 f with p|p
  ·have:=u gm p;omega
  ·exact h.xO.2.1 p
 ·rcases y b a with p|p
  ·have:=k b (qV _ (qA _ p));rcases qC.1 f with q|q
   ·have:=u b q;omega
   ·exact(h.gr b p).1 q
  ·rcases qC.1 f with q|q
   ·have:=v b (qA _ q);omega
   ·have:=k b (qV _ (qV _ (qA _ q)));omega
 ·rcases y b a with p|p
  ·exact(h.gr b p).2 f
  ·have:=k b (qV _ (qV _ (qV _ f)));omega
 ·rcases qC.1 a with q|q
  ·have:=u b q;have:=k b (qV _ (qV _ (qV _ f)));omega
  ·exact h.gk b q f
end
theorem RL{w:World}{base i n c:Nat}{A:Option Addr}{l:List Int}{x:Int}(h:jP w base (.slice A n c) l)(a:l[i]? = some x):∃b,A=some ⟨b,0,none⟩/\w.cell? ⟨b,i,none⟩=some (.int .i64 x):=by
 have y:=(qM.1 a).1;obtain⟨j,k,e,p,q,g,s⟩:=v8 h;obtain⟨rfl,rfl,o⟩:=Value.slice.inj e;obtain⟨b,rfl,u,v⟩:=g (by omega);have f:w.ownsRow base 3 1 (.slice (some ⟨b,0,none⟩) l.length c) l.length _:=h;refine⟨b,rfl,(f.cellAt i (by omega)).trans ?_⟩;show(l.map _)[i]? = _;rw[qz,a];rfl
def RM(At:jK)(w0:World)(gd r:Nat)(m:jS)(D:zr)(E:List Nat)(w:World)(e:Ending)(w':World):Prop :=
 (∃gx T j,e = .returned (.tuple #[ptr gx,.int .i64 0])/\T.map (fun t=>(t.n:Int))=m.lv.flatten/\(∀t∈T,vH D t.n t.l/\bG t.t t.l=true)/\j<=2*m.lv.flatten.length/\jy At w0 gd gx r ⟨m,T,[]⟩ { D with count:=D.count+j } E w'/\zt E w w') ∨
 (∃n j,n∈m.lv.flatten/\jl D n≠0/\j<=2*m.lv.flatten.length/\e = .returned (.tuple #[.pointer none,err (jl D n)])/\DS At w0 gd { D with count:=D.count+j } E w'/\zt E w w')
section
variable {At:jK}(api:jY At)(nap:jz){w0 w:World}{gd r:Nat}{D:zr}{E:List Nat}{n c:Int}{d:Nat}{A:Option Addr}{cp:Nat}{R:LvL}
include api
def pk(At:jK)(w0:World)(gd gx r gm:Nat)(m:jS)(lv:Value)(a:Value)(D:zr)(E:List Nat)(w:World)(k:Nat)(tv:Value)(wr:World):Prop :=
 ∃ps T Gk j,lq At w0 gd gx r gm m lv tv ps T Gk { D with count:=D.count+j } (jA a++E) wr/\T.map (fun t=>(t.n:Int))=m.lv.flatten.take k/\(∀t∈T,vH D t.n t.l/\bG t.t t.l=true)/\j<=2*k/\zt E w wr/\jP wr w.heap.size a m.lv.flatten
theorem RN{w1 w2 g j w5:World}{m:jS}{v:Value}{G u:Nat}{A2:Option Addr}{i:Value}(h:DS At w0 gd D E w)(a:Below w.heap.size w (w.alloc (kF n c d v)))(I:Below (w.alloc (kF n c d v)).heap.size (w.alloc (kF n c d v)) w1)(J:Below w1.heap.size w1 w2)
  (S:kz w2 w1.heap.size (.slice A2 G u) m.lv) (y:Below w2.heap.size w2 g) (F:kC g w2.heap.size w2.heap.size [w2.heap.size] []) (O:w2.heap.size<g.heap.size)
  (V:za j g.heap.size 111 #[.pointer none,ptr gd,.int .i64 m.next,.int .i64 m.check,.int .u64 (m.seed:Nat),.slice A2 G u,.slice none 0 0,.float .f64 r,mtp w2.heap.size]) (z:Below g.heap.size g j) (hz:j.heap.size=g.heap.size+1) (K:jP w5 j.heap.size i m.lv.flatten) (l:Below j.heap.size j w5):
  pk At w0 gd g.heap.size r w2.heap.size m (.slice A2 G u) i D E w 0 (.slice none 0 0) w5:=by
 obtain⟨k,o,U⟩:=S.keep;have s0:=a.size;have s1:=I.size;have s2:=J.size;have s3:=y.size;have s5:=l.size;have L:=bj a (bj I (bj J (bj y (bj z l))));have s:∀b∈jA i,j.heap.size<=b/\b<w5.heap.size:=fun b a=>K.lt b (jq.1 a)
 have p:=h.lt;have Z:=h.kept.size;have C:jA (.slice none 0 0)=[]:=rfl;have X:=zt.qm (E:=k) (bj y (bj z l)) (fun b a=>(o b a).2);have Y:=zt.qm (E:=[w2.heap.size]) (bj z l) (fun b a=>by rw[qE.1 a];exact O)
 have N:DS At w0 gd D ([w2.heap.size]++((g.heap.size::jA (.slice none 0 0))++(k++(jA i++E)))) w5:=by
  refine((h.more api L (B:=[w2.heap.size]++([g.heap.size]++(k++jA i))) (fun b a=>?_)).less (fun b a=>?_))
  ·rcases qC.1 a with q|q
   ·rw[qE.1 q];omega
   ·rcases qC.1 q with q|q
    ·rw[qE.1 q];omega
    ·rcases qC.1 q with q|q
     ·have:=o b q;omega
     ·have:=s b q;omega
  ·rw[C]at a;simp only[List.mem_append,List.mem_cons,List.not_mem_nil,or_false]at a ⊢;rcases a with q|q|q|q|q<;>simp[q]
 have M:∀b∈k,b ∉ jA i++E:=fun b a f=>by
  have:=o b a;rcases qC.1 f with q|q
  ·have:=s b q;omega
  ·have:=p b q;omega
 have Q:g.heap.size ∉ jA i++E:=fun f=>by
  rcases qC.1 f with q|q
  ·have:=s _ q;omega
  ·have:=p _ q;omega
 have P:w2.heap.size ∉ jA i++E:=fun f=>by
  rcases qC.1 f with q|q
  ·have:=s _ q;omega
  ·have:=p _ q;omega
 refine⟨[],[],k,0,⟨N,V.below l,(U.step X),yL.nil _ _,(uk.nil _ _).more (fun b a=>by cases a),(F.keep (E:=[w2.heap.size]) Y (fun b a=>a)).low (by omega),⟨?_, ?_,P⟩, ?_,M,by omega⟩,by simp,(fun t F=>by cases F),qZ _,zt.qm L p,K.down (by omega)⟩
 ·rw[C];intro f;have:=qE.1 f;omega
 ·intro f;have:=o _ f;omega
 ·rw[C];intro b a;rw[qE.1 a];exact⟨fun f=>by have:=o _ f;omega,Q⟩
include nap in
theorem RO(h:DS At w0 gd D E w)(G:WfP D)(z:D.down=false)(hc:D.count<=999990000)(hv:kQ w (.slice A R.length cp) R)(B:jr ⟨n,c,d,R⟩)(aN:∀x∈R.flatten,jl D x=0->(tgL (rdW D (ptT x)).1).length<=10000):
  Calls prog 133 #[ptr gd,j9 n c d (.slice A R.length cp),.float .f64 r] w (RM At w0 gd r ⟨n,c,d,R⟩ D E w):=by
 have aI:R.flatten.length<=40:=B.2.2.2.2.1.2.1;have a2:R.length<=5:=B.2.2.2.2.1.1;have ar:∀x∈R.flatten,0<=x/\x<1000000:=fun x f=>⟨B.2.2.2.2.1.2.2.1 x f,by have:=B.2.2.2.2.2 x f;have:=B.2.1;show x<1000000;simp only at*;omega⟩
 have a:=(Below.refl w.heap.size w).alloc (qZ _) (kF n c d (.slice A R.length cp));have aH:za (w.alloc (kF n c d (.slice A R.length cp))) w.heap.size 47 #[.int .i64 n,.int .i64 c,.int .u64 (d:Nat),.slice A R.length cp]:=za.new _ _ _;have ad:=qQ aH;have HB:=qQ a;have HS:=qQ ((h.below api a).size api G ⟨#[]⟩ (by decide));have ai:=hv.below a (qZ _);have U:=qQ (QV n c d A R.length cp R _ ai (by omega) (by omega));have M:=qQ (fun W (hW:Below (w.alloc (kF n c d (.slice A R.length cp))).heap.size (w.alloc (kF n c d (.slice A R.length cp))) W)=>Vk n c d A cp R W (ai.below hW (qZ _)) (by omega) (by omega));have I:=qQ (fun W (hW:Below (w.alloc (kF n c d (.slice A R.length cp))).heap.size (w.alloc (kF n c d (.slice A R.length cp))) W)=>pP _ R W (ai.below hW (qZ _)) (by omega) (by omega));have e1:bP ⟨n,c,d,R⟩=true:=qW B;rw[e1]at U
 have hz:(((jQ D ⟨#[]⟩).2:Int)==1)=false/\(((jQ D ⟨#[]⟩).2:Int)==61)=false:=by
  rcases oq D ⟨#[]⟩ with⟨q,-⟩|⟨-,e|e⟩
  ·rw[z]at q;cases q
  ·rw[e];exact⟨by decide,by decide⟩
  ·rw[e];exact⟨by decide,by decide⟩
 obtain⟨ba,bb⟩:=hz;have a6:=qQ G
 have aY:=qQ (fun(W:World) (E':List Nat) (j:Nat) (x:Int) (hj:j<=80) (f:x∈R.flatten) (hW:DS At w0 gd { D with count:=D.count+j } E' W)=>(show Calls prog 179 #[ptr gd,.int .i64 x] W (pz At w0 gd x { D with count:=D.count+j } E' W) from by
  have:=ar x f;have hs:=pj D (D.count+j) (ptT x) z;refine RG api nap hW ⟨G.synced,G.used,G.cap,G.many⟩ (by show D.count+j<=_;omega) x (WalkArith.wf_i64 (by omega)) (fun ho=>?_);rw[hs.1];exact aN x f ((Vb D _ x z).1.symm.trans ho)))
 have aV:=qQ ar;have aA:=qQ (fun k x=>Vb D k x z);have aZ:=qQ (fun k x=>pj D k (ptT x) z);have ay:=qQ (fun x (f:jl D x=0)=>RI z f);have HD:=qQ h;obtain⟨l,aq⟩:∃l,l=R.length:=⟨_,rfl⟩
 unfold cf at M;unfold j9 at U M ⊢;rw[<-aq]at U HS HB ad M I ⊢;have a5:=qQ aq;obtain⟨ns,ah⟩:∃ns,ns=R.flatten:=⟨_,rfl⟩
 have o:=qQ ah;unfold bl at I;obtain⟨N,hN⟩:∃N,N=ns.length:=⟨_,rfl⟩
 have a8:N<=40:=by rw[hN,ah];exact aI
 have P:=qQ hN;rw[<-ah]at I;rw[<-hN]at I;clear h a aH hv ai aq a2 aI ar G B aN e1 z ah hN;generalize (jQ D ⟨#[]⟩).2=z2 at*;generalize (jQ D ⟨#[]⟩).1=z1 at*;go_enter func133,ntmps133;go_wp2_with fail;refine HS.out.mono ?_;rintro e w'⟨rfl,rfl⟩;go_wp2_with fail;refine U.out.mono ?_;rintro e w1⟨rfl,ao⟩;have L:=qQ ao;have B1:=qQ (ad.out.below ao);obtain⟨c0,c1,c2,c3⟩:=nH B1.out;clear ao;go_wp2_with fail;refine(M.out w1 L.out).mono ?_;rintro e F⟨u,y,rfl,aM,aF⟩;have az:=qQ aM;have aa:=qQ aF;clear aM aF;go_wp2_with fail;refine(CR F).mono ?_;rintro e s⟨rfl,aQ,aG,aJ⟩;have aB:=qQ aQ;have ab:=qQ aG;have ax:=qQ aJ;clear aQ aG aJ;have aw:=qQ (bj L.out (bj aa.out ab.out));have ap:=(Below.refl s.heap.size s).alloc (qZ _) (.cells #[.pointer none,ptr gd,.int .i64 n,.int .i64 c,.int .u64 (d:Nat),.slice u l y,.slice none 0 0,.float .f64 r,mtp F.heap.size] 111);have am:=qQ (za.new s 111 #[.pointer none,ptr gd,.int .i64 n,.int .i64 c,.int .u64 (d:Nat),.slice u l y,.slice none 0 0,.float .f64 r,mtp F.heap.size]);have ac:=qQ ap;have ak:=qQ (I.out _ (bj aw.out ac.out));have aP:(s.alloc (.cells #[.pointer none,ptr gd,.int .i64 n,.int .i64 c,.int .u64 (d:Nat),.slice u l y,.slice none 0 0,.float .f64 r,mtp F.heap.size] 111)).heap.size=s.heap.size+1:=by simp
 have al:=qQ aP;have a1:=(((ad.out.below (bj L.out aa.out)).below ab.out).below ap).cell 3;obtain⟨w4,au⟩:∃w4,w4=s.alloc (.cells #[.pointer none,ptr gd,.int .i64 n,.int .i64 c,.int .u64 (d:Nat),.slice u l y,.slice none 0 0,.float .f64 r,mtp F.heap.size] 111):=⟨_,rfl⟩
 rw[<-au]at am ac ak al;clear aP ap c0 c1 c2 c3 I M U HS;have aC:=qQ au;clear au;go_wp2_with fail;rw[<-aC.out];refine ak.out.mono ?_;rintro e w5⟨A7,c7,rfl,r7,b7⟩;have ae:Hid (pk At w0 gd s.heap.size r F.heap.size ⟨n,c,d,R⟩ (.slice u l y) (.slice A7 N c7) D E w 0 (.slice none 0 0) w5):=qQ (RN api HD.out (by rw[o.out,<-P.out]at*;exact HB.out) L.out aa.out az.out ab.out aB.out ax.out am.out ac.out al.out (by rw[<-o.out];exact r7) b7);clear a1 ad HB L B1 aa az ab aB ax am ac al aw ak aC r7 b7 HD;generalize s.heap.size=gx at*;generalize F.heap.size=gm at*;go_wp2;go_loopg [43] N (fun g i wr=>∃(k:Nat) (tv:Value),k+g=N/\i = .int .i64 k/\pk At w0 gd gx r gm ⟨n,c,d,R⟩ (.slice u l y) (.slice A7 N c7) D E w k tv wr)
 case atStart=>exact⟨0,_,by omega,rfl,ae.out⟩
 case round =>
  obtain⟨k,tv,a_,rfl,hL⟩:=hrel;have HL:=qQ hL;clear hL ae;cases gk with
  | zero =>
    obtain rfl:k=N:=(by omega);have s1:¬(k:Int)<(k:Int):=(by omega);obtain⟨ps,T,Gk,j,p,hT,X,hj,Y,Z⟩:=HL.out;have v:=qQ (p.made api);have f0:=p.qp.frozen 0;have q0:=p.qp.cell 0;have S:=qQ (show T.map (fun t=>(t.n:Int))=R.flatten from by rw[hT];show List.take k R.flatten=_;rw[<-o.out,P.out,List.take_length]);have HH:=qQ X;have O:=qQ Y;have HJ:Hid (j<=2*R.flatten.length):=qQ (by rw[<-o.out,<-P.out];exact hj);clear p hT X hj Y Z HL;go_wp2;go_ret2;exact qX ⟨gx,T,j,rfl,S.out,HH.out,HJ.out,v.out.1.less (fun b a=>qV _ a),O.out.trans (v.out.2.less (fun b a=>qV _ a))⟩
  | succ gi =>
    have a3:k<N:=(by omega);have s1:(k:Int)<(N:Int):=(by omega);obtain⟨ps,T,Gk,j,p,hT,X,hj,Y,Z⟩:=HL.out;have a4:k<ns.length:=(by rw[<-P.out];exact a3);obtain⟨x,f⟩:∃x,ns[k]? = some x:=⟨_,qD a4⟩
    have av:x∈R.flatten:=(by rw[<-o.out];exact qO f);obtain⟨bp,rfl,qc⟩:=RL Z (i:=k) (x:=x) (by show R.flatten[k]? = _;rw[<-o.out];exact f);have Q:=aY.out wr _ j x (by omega) av p.ds;unfold pz at Q;rw[(aA.out (D.count+j) x).1,(aZ.out (D.count+j) x).1]at Q;obtain⟨j2,a9,e2⟩:=(aA.out (D.count+j) x).2;rw[e2]at Q;have af:=qQ Q;have HX:=qQ av;have a0:=qQ f;have v:=qQ p;have S:=qQ hT;have HH:=qQ X;have O:=qQ Y;have HR:=qQ Z;clear p hT X Y Z Q f av e2 HL;by_cases C:jl D x=0
    ·have J:=af.out.mono (fun e w' h=>(h.resolve_right (fun q=>q.1 C)).2);have aL:=Hu (rdW { D with count:=D.count+j } (ptT x)).2.2 x (tgL (rdW D (ptT x)).1);have aK:=ay.out x C;generalize ldF (rdW { D with count:=D.count+j } (ptT x)).2.2 x (tgL (rdW D (ptT x)).1)=ft at*;generalize tgL (rdW D (ptT x)).1=fl at*;unfold p8 at J;have ag:=qQ J;have aU:=qQ aL;have aS:=qQ aK;clear J aL aK C af ay;go_wp2_with fail;refine ag.out.mono ?_;rintro e w5⟨gt,H,rfl,hp,V,K,n5⟩;have c6:=(K.qp v.out.qp (qV _ (qA _ qB))).cell 6;have aj:=(aV.out x HX.out).1
     have aO:ps.length<=10000:=by
      have h1:=v.out.xW.1;have h2:=congrArg List.length S.out;rw[qj,qq]at h2;omega
     obtain⟨A6,n6,a7,A9,c9,w9,rfl,e9,q9,f9,aE,an⟩:=v.out.next api (t:=⟨x.toNat,fl,ft⟩) V K n5 (by show yG w5 gt gd ((x.toNat:Nat):Int) fl ft H;rw[Int.toNat_of_nonneg aj];exact hp) aO 108;have HE:=qQ e9
     have aD:pk At w0 gd gx r gm ⟨n,c,d,R⟩ (.slice u l y) (.slice (some ⟨bp,0,none⟩) N c7) D E w (k+1) (.slice A9 (n6+1) c9) (w9.setCell ⟨gx,6,none⟩ (.slice A9 (n6+1) c9)):=by
      refine⟨_,_,_,j+j2,by rw[<-Nat.add_assoc];exact aE, ?_,fun t ht=>?_,by omega,O.out.trans (an.less (fun b a=>qV _ a)),an.zJ HR.out (fun b a=>qA _ a)⟩
      ·rw[List.map_append,S.out,List.take_add_one];show _=List.take k R.flatten++(R.flatten[k]?).toList;rw[<-o.out,a0.out];show _++[((x.toNat:Nat):Int)]=_;rw[Int.toNat_of_nonneg aj];rfl
      ·rcases qC.1 ht with q|q
       ·exact HH.out t q
       ·rw[qE.1 q];refine⟨?_,aU.out⟩;show vH D ((x.toNat:Nat):Int) fl;rw[Int.toNat_of_nonneg aj];exact aS.out
     have ae:=qQ aD;clear aE an e9 aD hp V K n5 v S HH O HR aj aO;go_wp2_with (first | (at_builtin;refine yc rfl _ _ rfl rfl rfl HE.out ?_) | fail);go_roundg gi
     case measure=>omega
     case rel=>exact⟨k+1,_,by omega,by go_num,ae.out⟩
    ·have t2:((jl D x:Int) != 0)=true:=(by simpa using C);have J:=af.out.mono (fun e w' h=>(h.resolve_left (fun q=>C q.1)).2);have aW:=qQ C;have ag:=qQ J;obtain⟨oe,ho⟩:∃oe,oe=jl D x:=⟨_,rfl⟩
     rw[<-ho]at ag t2;have aX:=qQ ho;clear J C af ho;go_wp2_with fail;refine ag.out.mono ?_;rintro e w5⟨rfl,V,K⟩;have aR:=qQ V;have aT:=qQ K;clear V K;go_wp2;go_ret2;rw[aX.out];exact qY ⟨x,j+j2,HX.out,aW.out,by rw[<-o.out,<-P.out];omega,rfl,by rw[<-Nat.add_assoc];exact aR.out.less (fun b a=>qV _ (qV _ (qV _ (qV _ a)))),O.out.trans (aT.out.less (fun b a=>qV _ (qV _ (qV _ (qV _ a)))))⟩
end
end
end Go.Proofs.YthejglbnkmimjaaGreat
