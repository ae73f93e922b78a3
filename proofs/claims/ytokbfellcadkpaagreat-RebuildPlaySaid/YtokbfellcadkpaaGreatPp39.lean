import Derived.Test.YtokbfellcadkpaaGreatPp34
import Derived.Test.YtokbfellcadkpaaGreatPp09
set_option linter.unusedVariables false
set_option maxRecDepth 100000
set_option maxHeartbeats 9000000
namespace Go.Proofs.YtokbfellcadkpaaGreat
open Tryz
section
open Go.RowKit
def bX(At:jL)(w0:World)(gd gl:Nat)(L:jN)(D:jK)(E:List Nat)(w:World):Prop :=
 DS At w0 gd D (gl::E) w/\jY w gl 76 (uy (ptr gl) gd L)/\gl ∉ E/\w0.heap.size<=gl
section
variable {At:jL}(api:jM At){w0 w w':World}{gd gl gx r:Nat}{L L':jN}{D D':jK}{S:IxS}{E:List Nat}
theorem qKp{F:List Nat}(c:At w w0.heap.size gd F D)(d:gl ∉ F)(a:jY w gl 76 (uy (ptr gl) gd L)):TSt At ⟨w,F,w0.heap.size,ptr gl,[],w⟩ gl gd L D w :=
 ⟨F,c,a,d,fun x f=>qX f,jG.refl _ w,qK _,fun b a=>(by cases a)⟩
include api
theorem bX.call(h:bX At w0 gd gl L D E w){f:FuncId}{args:Array Value}{v:Value}
  (u:∀c:Ctx,c.m=ptr gl->TSt At c gl gd L D w->Calls prog f args w (vV At c gl gd v L' D')):Calls prog f args w fun e w'=>e = .returned v/\bX At w0 gd gl L' D' E w'/\jV E w w':=by
 obtain⟨⟨F,k,l,d⟩,s,o,n⟩:=h;have z:=api.low k;refine(u _ rfl (qKp k (d gl qD).1 s)).mono ?_;rintro e w'⟨rfl,p,A,B,H,C,G,I,J⟩;have g:jG (gl::F) w w':=G;refine⟨rfl,⟨⟨p,A,l.trans (g.below l.size (fun x j=>?_)),fun b a=>?_⟩,B,o,n⟩, ?_⟩
 ·rcases qL.1 j with rfl|j
  ·exact n
  ·exact(z x j).1
 ·have t:=(d b a).2;refine⟨fun y=>?_,qR t g.size⟩;rcases C b y with q|q
  ·exact(d b a).1 q
  ·have K:w.heap.size<=b:=q;omega
 ·exact jV.xB g (fun b a=>⟨(d b (qE _ a)).2,fun i=>by
   rcases qL.1 i with e|i
   ·exact o (e ▸ a)
   ·exact(d b (qE _ a)).1 i⟩)
theorem jz.log(h:jz At w0 gd gx r S D (gl::E) w)(y:jY w gl 76 (uy (ptr gl) gd L))(B:gl ∉ E)(A:w0.heap.size<=gl){f:FuncId}{args:Array Value}{v:Value}
  (z:∀c:Ctx,c.m=ptr gl->TSt At c gl gd L D w->Calls prog f args w (vV At c gl gd v L' D')):
  Calls prog f args w fun e w'=>e = .returned v/\jz At w0 gd gx r S D' (gl::E) w'/\jY w' gl 76 (uy (ptr gl) gd L')/\jV E w w':=by
 obtain⟨g,j,i,q,s,l,n,o,t⟩:=h
 have C:gl ∉ g++(j++(i++E)):=fun a=>by
  rcases qB.1 a with k|k
  ·exact(l gl k).2.2 qD
  ·rcases qB.1 k with k|k
   ·exact(n gl k).2 qD
   ·rcases qB.1 k with k|k
    ·exact o gl k qD
    ·exact B k
 have u:bX At w0 gd gl L D (g++(j++(i++E))) w:=⟨q.less (fun b a=>by
  rcases qL.1 a with e|k
  ·rw[e];exact qJ _ (qJ _ (qJ _ qD))
  ·rcases qB.1 k with k|k
   ·exact qG _ k
   ·rcases qB.1 k with k|k
    ·exact qJ _ (qG _ k)
    ·rcases qB.1 k with k|k
     ·exact qJ _ (qJ _ (qG _ k))
     ·exact qJ _ (qJ _ (qJ _ (qE _ k)))),y,C,A⟩
 refine(u.call api z).mono ?_;rintro e w'⟨rfl,⟨d,p,-,-⟩,k⟩;refine⟨rfl,⟨g,j,i,d.less (fun b a=>?_),s.keep (k.less fun b a=>?_),l,n,o,t⟩,p,k.less (fun b a=>qJ _ (qJ _ (qJ _ a)))⟩
 ·rcases qB.1 a with k|k
  ·exact qE _ (qG _ k)
  ·rcases qB.1 k with k|k
   ·exact qE _ (qJ _ (qG _ k))
   ·rcases qB.1 k with k|k
    ·exact qE _ (qJ _ (qJ _ (qG _ k)))
    ·rcases qL.1 k with e|k
     ·rw[e];exact qD
     ·exact qE _ (qJ _ (qJ _ (qJ _ k)))
 ·rcases qB.1 a with k|k
  ·exact qG _ k
  ·rcases qB.1 k with k|k
   ·exact qJ _ (qG _ k)
   ·exact qJ _ (qJ _ (qG _ k))
theorem jz.flush(j:jm)(h:jz At w0 gd gx r S D (gl::E) w)(b:jY w gl 76 (uy (ptr gl) gd L))(i:gl ∉ E)(f:w0.heap.size<=gl)(ok:WfP D)(d:L.chunks<=200):
  Calls prog 34 #[ptr gl] w fun e w'=>e = .returned (err (vl D L).1)/\jz At w0 gd gx r S (vl D L).2.1 (gl::E) w'/\jY w' gl 76 (uy (ptr gl) gd (vl D L).2.2)/\jV E w w' :=
 h.log api b i f (fun c g a=>Re api j g a ok d)
theorem DS.zB(G:jm)(cap:yY)(h:DS At w0 gd D E w)(ok:WfP D)(s:D.count<=1000000000)(m:(uo D).1=0):
  Calls prog 8 #[ptr gd] w fun e w'=>∃gl,e = .returned (.tuple #[ptr gl,.int .i64 0])/\w.heap.size<=gl/\bX At w0 gd gl { (uo D).2.2 with sure:=(uo D).2.2.endp } (uo D).2.1 E w'/\jV E w w':=by
 obtain⟨F,j,f,c⟩:=h;have y:=api.low j;have n:DSt At ⟨w,F,w0.heap.size,.pointer none,[],w⟩ gd D w:=⟨F,j,fun x d=>qX d,jG.refl _ w,qK _,fun b o=>(by cases o)⟩
 refine(T3 api G cap n ok s).mono ?_;rintro e w' (⟨_,gl,rfl,u,l,z,k,A,B,C,H,I⟩|⟨q,-⟩)
 ·have g:jG (gl::F) w w':=C;have v:w.heap.size<=gl:=u;refine⟨gl,rfl,v,⟨⟨l,z,f.trans (g.below f.size (fun x d=>?_)),fun b a=>?_⟩,k,fun a=>?_, ?_⟩, ?_⟩
  ·rcases qL.1 d with e|d
   ·have:=f.size;omega
   ·exact(y x d).1
  ·rcases qL.1 a with e|a
   ·rw[e];exact⟨A,k.lt⟩
   ·have p:=(c b a).2;refine⟨fun t=>?_,qR p g.size⟩;rcases B b t with q|q
    ·exact(c b a).1 q
    ·have J:w.heap.size<=b:=q;omega
  ·have:=(c gl a).2;omega
  ·have:=f.size;omega
  ·exact jV.xB g (fun b a=>⟨(c b a).2,fun i=>by
    rcases qL.1 i with e|i
    ·have:=(c b a).2;omega
    ·exact(c b a).1 i⟩)
 ·exact absurd m q
end
end
end Go.Proofs.YtokbfellcadkpaaGreat
