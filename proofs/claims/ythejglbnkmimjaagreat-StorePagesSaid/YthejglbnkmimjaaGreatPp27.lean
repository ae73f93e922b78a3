import Derived.Test.YthejglbnkmimjaaGreatPp24
import Derived.Test.YthejglbnkmimjaaGreatPp09
set_option linter.unusedVariables false
set_option maxRecDepth 100000
set_option maxHeartbeats 9000000
namespace Go.Proofs.YthejglbnkmimjaaGreat
open Proofs.Tryz
section
open Go.RowKit
def fx(At:j6)(w0:World)(gd gl:Nat)(L:jq)(D:jL)(E:List Nat)(w:World):Prop :=
 DS At w0 gd D (gl::E) w/\jN w gl 130 (gW (ptr gl) gd L)/\gl ∉ E/\w0.1.size<=gl
section
variable {At:j6}(api:j8 At){w0 w w':World}{gd gl gx r:Nat}{L L':jq}{D D':jL}{S:IxS}{E:List Nat}
theorem qK0{F:List Nat}(c:At w w0.1.size gd F D)(d:gl ∉ F)(a:jN w gl 130 (gW (ptr gl) gd L)):TSt At ⟨w,F,w0.1.size,ptr gl,[],w⟩ gl gd L D w :=
 ⟨F,c,a,d,fun x f=>qX f,jP.refl _ w,qK _,fun b a=>(by cases a)⟩
include api
theorem fx.call(h:fx At w0 gd gl L D E w){f:FuncId}{args:Array Value}{v:Value}
  (u:∀c:Ctx,c.m=ptr gl->TSt At c gl gd L D w->Calls prog f args w (vI At c gl gd v L' D')):Calls prog f args w fun e w'=>e=.returned v/\fx At w0 gd gl L' D' E w'/\jM E w w':=by
 obtain⟨⟨F,k,l,d⟩,s,o,n⟩:=h;have z:=api.low k;refine(u _ rfl (qK0 k (d gl qC).1 s)).mono ?_;rintro e w'⟨rfl,p,A,B,H,C,G,I,J⟩;have g:jP (gl::F) w w':=G;refine⟨rfl,⟨⟨p,A,l.trans (g.below l.size (fun x j=>?_)),fun b a=>?_⟩,B,o,n⟩, ?_⟩
 ·rcases qM.1 j with rfl|j
  ·exact n
  ·exact(z x j).1
 ·have t:=(d b a).2;refine⟨fun y=>?_,qS t g.size⟩;rcases C b y with q|q
  ·exact(d b a).1 q
  ·have K:w.1.size<=b:=q;omega
 ·exact jM.xP g (fun b a=>⟨(d b (qF _ a)).2,fun i=>by
   rcases qM.1 i with e|i
   ·exact o (e ▸ a)
   ·exact(d b (qF _ a)).1 i⟩)
theorem js.log(h:js At w0 gd gx r S D (gl::E) w)(y:jN w gl 130 (gW (ptr gl) gd L))(B:gl ∉ E)(A:w0.1.size<=gl){f:FuncId}{args:Array Value}{v:Value}
  (z:∀c:Ctx,c.m=ptr gl->TSt At c gl gd L D w->Calls prog f args w (vI At c gl gd v L' D')):
  Calls prog f args w fun e w'=>e=.returned v/\js At w0 gd gx r S D' (gl::E) w'/\jN w' gl 130 (gW (ptr gl) gd L')/\jM E w w':=by
 obtain⟨g,j,i,q,s,l,n,o,t⟩:=h
 have C:gl ∉ g++(j++(i++E)):=fun a=>by
  rcases qD.1 a with k|k
  ·exact(l gl k).2.2 qC
  ·rcases qD.1 k with k|k
   ·exact(n gl k).2 qC
   ·rcases qD.1 k with k|k
    ·exact o gl k qC
    ·exact B k
 have u:fx At w0 gd gl L D (g++(j++(i++E))) w:=⟨q.less (fun b a=>by
  rcases qM.1 a with e|k
  ·rw[e];exact qJ _ (qJ _ (qJ _ qC))
  ·rcases qD.1 k with k|k
   ·exact qW _ k
   ·rcases qD.1 k with k|k
    ·exact qJ _ (qW _ k)
    ·rcases qD.1 k with k|k
     ·exact qJ _ (qJ _ (qW _ k))
     ·exact qJ _ (qJ _ (qJ _ (qF _ k)))),y,C,A⟩
 refine(u.call api z).mono ?_;rintro e w'⟨rfl,⟨d,p,-,-⟩,k⟩;refine⟨rfl,⟨g,j,i,d.less (fun b a=>?_),s.keep (k.less fun b a=>?_),l,n,o,t⟩,p,k.less (fun b a=>qJ _ (qJ _ (qJ _ a)))⟩
 ·rcases qD.1 a with k|k
  ·exact qF _ (qW _ k)
  ·rcases qD.1 k with k|k
   ·exact qF _ (qJ _ (qW _ k))
   ·rcases qD.1 k with k|k
    ·exact qF _ (qJ _ (qJ _ (qW _ k)))
    ·rcases qM.1 k with e|k
     ·rw[e];exact qC
     ·exact qF _ (qJ _ (qJ _ (qJ _ k)))
 ·rcases qD.1 a with k|k
  ·exact qW _ k
  ·rcases qD.1 k with k|k
   ·exact qJ _ (qW _ k)
   ·exact qJ _ (qJ _ (qW _ k))
theorem js.flush(j:kZ)(h:js At w0 gd gx r S D (gl::E) w)(b:jN w gl 130 (gW (ptr gl) gd L))(i:gl ∉ E)(f:w0.1.size<=gl)(ok:WfP D)(d:L.chunks<=200):
  Calls prog 49 #[ptr gl] w fun e w'=>e=.returned (err (yA D L).1)/\js At w0 gd gx r S (yA D L).2.1 (gl::E) w'/\jN w' gl 130 (gW (ptr gl) gd (yA D L).2.2)/\jM E w w' :=
 h.log api b i f (fun c g a=>SV api j g a ok d)
theorem DS.zw(H:kZ)(m:v8)(h:DS At w0 gd D E w)(ok:WfP D)(t:D.count<=1000000000)(n:(gO D).1=0):
  Calls prog 38 #[ptr gd] w fun e w'=>∃gl,e=.returned (.tuple #[ptr gl,.int .i64 0])/\w.1.size<=gl/\fx At w0 gd gl { (gO D).2.2 with sure:=(gO D).2.2.endp } (gO D).2.1 E w'/\jM E w w':=by
 obtain⟨F,j,f,c⟩:=h;have z:=api.low j;have o:DSt At ⟨w,F,w0.1.size,.pointer none,[],w⟩ gd D w:=⟨F,j,fun x d=>qX d,jP.refl _ w,qK _,fun b p=>(by cases p)⟩
 refine(qQ2 api H m o ok t).mono ?_;rintro e w' (⟨_,gl,rfl,v,l,A,k,B,C,G,I,J⟩|⟨q,-⟩)
 ·have g:jP (gl::F) w w':=G;have y:w.1.size<=gl:=v;refine⟨gl,rfl,y,⟨⟨l,A,f.trans (g.below f.size (fun x d=>?_)),fun b a=>?_⟩,k,fun a=>?_, ?_⟩, ?_⟩
  ·rcases qM.1 d with e|d
   ·have:=f.size;omega
   ·exact(z x d).1
  ·rcases qM.1 a with e|a
   ·rw[e];exact⟨B,k.lt⟩
   ·have s:=(c b a).2;refine⟨fun u=>?_,qS s g.size⟩;rcases C b u with q|q
    ·exact(c b a).1 q
    ·have K:w.1.size<=b:=q;omega
  ·have:=(c gl a).2;omega
  ·have:=f.size;omega
  ·exact jM.xP g (fun b a=>⟨(c b a).2,fun i=>by
    rcases qM.1 i with e|i
    ·have:=(c b a).2;omega
    ·exact(c b a).1 i⟩)
 ·exact absurd n q
end
end
end Go.Proofs.YthejglbnkmimjaaGreat
