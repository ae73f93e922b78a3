import Derived.Test.YthejglbnkmimjaaGreatPp29
import Derived.Test.YthejglbnkmimjaaGreatPp08
set_option linter.unusedVariables false
set_option maxRecDepth 100000
set_option maxHeartbeats 9000000
namespace Go.Proofs.YthejglbnkmimjaaGreat
open Tryz
section
open Go.RowKit
def cK(At:jK)(w0:World)(gd gl:Nat)(L:jV)(D:zr)(E:List Nat)(w:World):Prop :=
 DS At w0 gd D (gl::E) w/\za w gl 130 (gM (ptr gl) gd L)/\gl ∉ E/\w0.heap.size<=gl
section
variable {At:jK}(api:jY At){w0 w w':World}{gd gl gx r:Nat}{L L':jV}{D D':zr}{S:IxS}{E:List Nat}
theorem RP{F:List Nat}(c:At w w0.heap.size gd F D)(d:gl ∉ F)(a:za w gl 130 (gM (ptr gl) gd L)):TSt At ⟨w,F,w0.heap.size,ptr gl,[],w⟩ gl gd L D w :=
 ⟨F,c,a,d,fun x f=>qX f,ze.refl _ w,qZ _,fun b a=>(by cases a)⟩
include api
theorem cK.call(h:cK At w0 gd gl L D E w){f:FuncId}{k:Array Value}{v:Value}
  (y:∀c:Ctx,c.m=ptr gl->TSt At c gl gd L D w->Calls prog f k w (kU At c gl gd v L' D')):Calls prog f k w fun e w'=>e = .returned v/\cK At w0 gd gl L' D' E w'/\zt E w w':=by
 obtain⟨⟨F,l,n,d⟩,t,p,o⟩:=h;have A:=api.low l;refine(y _ rfl (RP l (d gl qB).1 t)).mono ?_;rintro e w'⟨rfl,s,B,C,I,G,H,J,K⟩;have g:ze (gl::F) w w':=H;refine⟨rfl,⟨⟨s,B,n.trans (g.below n.size (fun x j=>?_)),fun b a=>?_⟩,C,p,o⟩, ?_⟩
 ·rcases qL.1 j with rfl|j
  ·exact o
  ·exact(A x j).1
 ·have u:=(d b a).2;refine⟨fun z=>?_,qP u g.size⟩;rcases G b z with q|q
  ·exact(d b a).1 q
  ·have M:w.heap.size<=b:=q;omega
 ·exact zt.xK g (fun b a=>⟨(d b (qF _ a)).2,fun i=>by
   rcases qL.1 i with e|i
   ·exact p (e ▸ a)
   ·exact(d b (qF _ a)).1 i⟩)
theorem jy.log(h:jy At w0 gd gx r S D (gl::E) w)(z:za w gl 130 (gM (ptr gl) gd L))(C:gl ∉ E)(B:w0.heap.size<=gl){f:FuncId}{l:Array Value}{v:Value}
  (A:∀c:Ctx,c.m=ptr gl->TSt At c gl gd L D w->Calls prog f l w (kU At c gl gd v L' D')):
  Calls prog f l w fun e w'=>e = .returned v/\jy At w0 gd gx r S D' (gl::E) w'/\za w' gl 130 (gM (ptr gl) gd L')/\zt E w w':=by
 obtain⟨g,j,i,s,t,n,o,p,u⟩:=h
 have F:gl ∉ g++(j++(i++E)):=fun a=>by
  rcases qC.1 a with k|k
  ·exact(n gl k).2.2 qB
  ·rcases qC.1 k with k|k
   ·exact(o gl k).2 qB
   ·rcases qC.1 k with k|k
    ·exact p gl k qB
    ·exact C k
 have y:cK At w0 gd gl L D (g++(j++(i++E))) w:=⟨s.less (fun b a=>by
  rcases qL.1 a with e|k
  ·rw[e];exact qV _ (qV _ (qV _ qB))
  ·rcases qC.1 k with k|k
   ·exact qA _ k
   ·rcases qC.1 k with k|k
    ·exact qV _ (qA _ k)
    ·rcases qC.1 k with k|k
     ·exact qV _ (qV _ (qA _ k))
     ·exact qV _ (qV _ (qV _ (qF _ k)))),z,F,B⟩
 refine(y.call api A).mono ?_;rintro e w'⟨rfl,⟨d,q,-,-⟩,k⟩;refine⟨rfl,⟨g,j,i,d.less (fun b a=>?_),t.keep (k.less fun b a=>?_),n,o,p,u⟩,q,k.less (fun b a=>qV _ (qV _ (qV _ a)))⟩
 ·rcases qC.1 a with k|k
  ·exact qF _ (qA _ k)
  ·rcases qC.1 k with k|k
   ·exact qF _ (qV _ (qA _ k))
   ·rcases qC.1 k with k|k
    ·exact qF _ (qV _ (qV _ (qA _ k)))
    ·rcases qL.1 k with e|k
     ·rw[e];exact qB
     ·exact qF _ (qV _ (qV _ (qV _ k)))
 ·rcases qC.1 a with k|k
  ·exact qA _ k
  ·rcases qC.1 k with k|k
   ·exact qV _ (qA _ k)
   ·exact qV _ (qV _ (qA _ k))
theorem DS.zC(H:jz)(m:kc)(h:DS At w0 gd D E w)(ok:WfP D)(t:D.count<=1000000000)(n:(y9 D).1=0):
  Calls prog 38 #[ptr gd] w fun e w'=>∃gl,e = .returned (.tuple #[ptr gl,.int .i64 0])/\w.heap.size<=gl/\cK At w0 gd gl { (y9 D).2.2 with sure:=(y9 D).2.2.endp } (y9 D).2.1 E w'/\zt E w w':=by
 obtain⟨F,j,f,c⟩:=h;have z:=api.low j;have o:DSt At ⟨w,F,w0.heap.size,.pointer none,[],w⟩ gd D w:=⟨F,j,fun x d=>qX d,ze.refl _ w,qZ _,fun b p=>(by cases p)⟩
 refine(JN api H m o ok t).mono ?_;rintro e w' (⟨_,gl,rfl,v,l,A,k,B,C,G,I,J⟩|⟨q,-⟩)
 ·have g:ze (gl::F) w w':=G;have y:w.heap.size<=gl:=v;refine⟨gl,rfl,y,⟨⟨l,A,f.trans (g.below f.size (fun x d=>?_)),fun b a=>?_⟩,k,fun a=>?_, ?_⟩, ?_⟩
  ·rcases qL.1 d with e|d
   ·have:=f.size;omega
   ·exact(z x d).1
  ·rcases qL.1 a with e|a
   ·rw[e];exact⟨B,k.lt⟩
   ·have s:=(c b a).2;refine⟨fun u=>?_,qP s g.size⟩;rcases C b u with q|q
    ·exact(c b a).1 q
    ·have K:w.heap.size<=b:=q;omega
  ·have:=(c gl a).2;omega
  ·have:=f.size;omega
  ·exact zt.xK g (fun b a=>⟨(c b a).2,fun i=>by
    rcases qL.1 i with e|i
    ·have:=(c b a).2;omega
    ·exact(c b a).1 i⟩)
 ·exact absurd n q
end
end
end Go.Proofs.YthejglbnkmimjaaGreat
