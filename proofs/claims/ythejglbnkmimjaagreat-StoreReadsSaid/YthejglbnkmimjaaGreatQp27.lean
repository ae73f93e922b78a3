import Derived.Test.YthejglbnkmimjaaGreatQp24
import Derived.Test.YthejglbnkmimjaaGreatQp08
set_option linter.unusedVariables false
set_option maxRecDepth 100000
set_option maxHeartbeats 9000000
namespace Go.Proofs.YthejglbnkmimjaaGreat
open Proofs.Tryz
section
open Go.RowKit
def gE(At:jR)(w0:World)(gd gl:Nat)(L:jq)(D:jD)(E:List Nat)(w:World):Prop :=
 DS At w0 gd D (gl::E) w/\jF w gl 130 (gW (ptr gl) gd L)/\gl ∉ E/\w0.1.size<=gl
section
variable {At:jR}(api:jS At){w0 w w':World}{gd gl gx r:Nat}{L L':jq}{D D':jD}{S:IxS}{E:List Nat}
theorem qJH{F:List Nat}(c:At w w0.1.size gd F D)(d:gl ∉ F)(a:jF w gl 130 (gW (ptr gl) gd L)):TSt At ⟨w,F,w0.1.size,ptr gl,[],w⟩ gl gd L D w :=
 ⟨F,c,a,d,fun x f=>qX f,jH.refl _ w,qK _,fun b a=>(by cases a)⟩
include api
theorem gE.call(h:gE At w0 gd gl L D E w){f:FuncId}{args:Array Value}{v:Value}
  (u:∀c:Ctx,c.m=ptr gl->TSt At c gl gd L D w->Calls prog f args w (vY At c gl gd v L' D')):Calls prog f args w fun e w'=>e=.returned v/\gE At w0 gd gl L' D' E w'/\jE E w w':=by
 obtain⟨⟨F,k,l,d⟩,s,o,n⟩:=h;have z:=api.low k;refine(u _ rfl (qJH k (d gl qC).1 s)).mono ?_;rintro e w'⟨rfl,p,A,B,H,C,G,I,J⟩;have g:jH (gl::F) w w':=G;refine⟨rfl,⟨⟨p,A,l.trans (g.below l.size (fun x j=>?_)),fun b a=>?_⟩,B,o,n⟩, ?_⟩
 ·rcases qL.1 j with rfl|j
  ·exact n
  ·exact(z x j).1
 ·have t:=(d b a).2;refine⟨fun y=>?_,qS t g.size⟩;rcases C b y with q|q
  ·exact(d b a).1 q
  ·have K:w.1.size<=b:=q;omega
 ·exact jE.xP g (fun b a=>⟨(d b (qF _ a)).2,fun i=>by
   rcases qL.1 i with e|i
   ·exact o (e ▸ a)
   ·exact(d b (qF _ a)).1 i⟩)
theorem jf.log(h:jf At w0 gd gx r S D (gl::E) w)(y:jF w gl 130 (gW (ptr gl) gd L))(B:gl ∉ E)(A:w0.1.size<=gl){f:FuncId}{args:Array Value}{v:Value}
  (z:∀c:Ctx,c.m=ptr gl->TSt At c gl gd L D w->Calls prog f args w (vY At c gl gd v L' D')):
  Calls prog f args w fun e w'=>e=.returned v/\jf At w0 gd gx r S D' (gl::E) w'/\jF w' gl 130 (gW (ptr gl) gd L')/\jE E w w':=by
 obtain⟨g,j,i,q,s,l,n,o,t⟩:=h
 have C:gl ∉ g++(j++(i++E)):=fun a=>by
  rcases qE.1 a with k|k
  ·exact(l gl k).2.2 qC
  ·rcases qE.1 k with k|k
   ·exact(n gl k).2 qC
   ·rcases qE.1 k with k|k
    ·exact o gl k qC
    ·exact B k
 have u:gE At w0 gd gl L D (g++(j++(i++E))) w:=⟨q.less (fun b a=>by
  rcases qL.1 a with e|k
  ·rw[e];exact qJ _ (qJ _ (qJ _ qC))
  ·rcases qE.1 k with k|k
   ·exact qW _ k
   ·rcases qE.1 k with k|k
    ·exact qJ _ (qW _ k)
    ·rcases qE.1 k with k|k
     ·exact qJ _ (qJ _ (qW _ k))
     ·exact qJ _ (qJ _ (qJ _ (qF _ k)))),y,C,A⟩
 refine(u.call api z).mono ?_;rintro e w'⟨rfl,⟨d,p,-,-⟩,k⟩;refine⟨rfl,⟨g,j,i,d.less (fun b a=>?_),s.keep (k.less fun b a=>?_),l,n,o,t⟩,p,k.less (fun b a=>qJ _ (qJ _ (qJ _ a)))⟩
 ·rcases qE.1 a with k|k
  ·exact qF _ (qW _ k)
  ·rcases qE.1 k with k|k
   ·exact qF _ (qJ _ (qW _ k))
   ·rcases qE.1 k with k|k
    ·exact qF _ (qJ _ (qJ _ (qW _ k)))
    ·rcases qL.1 k with e|k
     ·rw[e];exact qC
     ·exact qF _ (qJ _ (qJ _ (qJ _ k)))
 ·rcases qE.1 a with k|k
  ·exact qW _ k
  ·rcases qE.1 k with k|k
   ·exact qJ _ (qW _ k)
   ·exact qJ _ (qJ _ (qW _ k))
theorem jf.flush(j:jw)(h:jf At w0 gd gx r S D (gl::E) w)(b:jF w gl 130 (gW (ptr gl) gd L))(i:gl ∉ E)(f:w0.1.size<=gl)(ok:WfP D)(d:L.chunks<=200):
  Calls prog 49 #[ptr gl] w fun e w'=>e=.returned (err (yJ D L).1)/\jf At w0 gd gx r S (yJ D L).2.1 (gl::E) w'/\jF w' gl 130 (gW (ptr gl) gd (yJ D L).2.2)/\jE E w w' :=
 h.log api b i f (fun c g a=>U5 api j g a ok d)
theorem DS.jW(H:jw)(m:vR)(h:DS At w0 gd D E w)(ok:WfP D)(t:D.count<=1000000000)(n:(gz D).1=0):
  Calls prog 38 #[ptr gd] w fun e w'=>∃gl,e=.returned (.tuple #[ptr gl,.int .i64 0])/\w.1.size<=gl/\gE At w0 gd gl { (gz D).2.2 with sure:=(gz D).2.2.endp } (gz D).2.1 E w'/\jE E w w':=by
 obtain⟨F,j,f,c⟩:=h;have z:=api.low j;have o:DSt At ⟨w,F,w0.1.size,.pointer none,[],w⟩ gd D w:=⟨F,j,fun x d=>qX d,jH.refl _ w,qK _,fun b p=>(by cases p)⟩
 refine(S3 api H m o ok t).mono ?_;rintro e w' (⟨_,gl,rfl,v,l,A,k,B,C,G,I,J⟩|⟨q,-⟩)
 ·have g:jH (gl::F) w w':=G;have y:w.1.size<=gl:=v;refine⟨gl,rfl,y,⟨⟨l,A,f.trans (g.below f.size (fun x d=>?_)),fun b a=>?_⟩,k,fun a=>?_, ?_⟩, ?_⟩
  ·rcases qL.1 d with e|d
   ·have:=f.size;omega
   ·exact(z x d).1
  ·rcases qL.1 a with e|a
   ·rw[e];exact⟨B,k.lt⟩
   ·have s:=(c b a).2;refine⟨fun u=>?_,qS s g.size⟩;rcases C b u with q|q
    ·exact(c b a).1 q
    ·have K:w.1.size<=b:=q;omega
  ·have:=(c gl a).2;omega
  ·have:=f.size;omega
  ·exact jE.xP g (fun b a=>⟨(c b a).2,fun i=>by
    rcases qL.1 i with e|i
    ·have:=(c b a).2;omega
    ·exact(c b a).1 i⟩)
 ·exact absurd n q
end
end
end Go.Proofs.YthejglbnkmimjaaGreat
