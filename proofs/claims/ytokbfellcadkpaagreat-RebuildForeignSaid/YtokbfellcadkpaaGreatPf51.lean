/- ZfIxLog -/
import Derived.Test.YtokbfellcadkpaaGreatPf44
import Derived.Test.YtokbfellcadkpaaGreatPf12
import Derived.Test.YtokbfellcadkpaaGreatPf10
namespace Go.Proofs.YtokbfellcadkpaaGreat
open Go.RowKit
set_option linter.unusedVariables false
set_option maxRecDepth 100000
def LogSt (At:Lies)(w0:World)(gd gl:Nat)(L:LogS)(D:DiskS)(E:List Nat)(w:World) : Prop :=
 DS At w0 gd D (gl::E) w∧Blok w gl 76 (logCells (ptr gl) gd L)∧gl ∉ E∧w0.heap.size≤gl
section
variable {At : Lies} (api : DiskApi At) {w0 w w' : World} {gd gl gx r : Nat} {L L' : LogS} {D D' : DiskS} {S : IxS} {E : List Nat}
theorem ctx_own {F:List Nat}(h1:At w w0.heap.size gd F D)(hn:gl ∉ F)(hb:Blok w gl 76 (logCells (ptr gl) gd L)) : TSt At ⟨w,F,w0.heap.size,ptr gl,[],w⟩ gl gd L D w :=
 ⟨F,h1,hb,hn,fun x hx=>Or.inl hx,Touch.refl _ w,Nat.le_refl _,fun b hb=>(by cases hb)⟩
include api
theorem LogSt.call (h:LogSt At w0 gd gl L D E w){f:FuncId}{args:Array Value}{v:Value}
  (hc:∀ c:Ctx,c.m=ptr gl→TSt At c gl gd L D w→Calls Tryz.prog f args w (TRet At c gl gd v L' D')):Calls Tryz.prog f args w fun e w'=>e = .returned v∧LogSt At w0 gd gl L' D' E w'∧Kept E w w':=by
 obtain⟨⟨F,h1,h2,h3⟩,hb,hn,hl⟩:=h;have hlow:=api.low h1;refine(hc _ rfl (ctx_own h1 (h3 gl List.mem_cons_self).1 hb)).mono ?_;rintro e w' ⟨rfl,F',k1,k2,k3,k4,k5,k6,k7⟩;have hT:Touch (gl::F) w w':=k5;refine⟨rfl,⟨⟨F',k1,h2.trans (hT.below h2.size (fun x hx=>?_)),fun b hm=>?_⟩,k2,hn,hl⟩, ?_⟩
 ·rcases List.mem_cons.1 hx with rfl | hx
  ·exact hl
  ·exact(hlow x hx).1
 ·have hbw:=(h3 b hm).2;refine⟨fun hf=>?_,Nat.lt_of_lt_of_le hbw hT.size⟩;rcases k4 b hf with q | q
  ·exact(h3 b hm).1 q
  ·have q':w.heap.size≤b:=q;omega
 ·exact Kept.of_touch hT (fun b hm=>⟨(h3 b (List.mem_cons_of_mem _ hm)).2,fun hq=>by
   rcases List.mem_cons.1 hq with e | hq
   ·exact hn (e ▸ hm)
   ·exact(h3 b (List.mem_cons_of_mem _ hm)).1 hq⟩)
theorem IxAt.log (h:IxAt At w0 gd gx r S D (gl::E) w)(hb:Blok w gl 76 (logCells (ptr gl) gd L))(hn:gl ∉ E)(hl:w0.heap.size≤gl){f:FuncId}{args:Array Value}{v:Value}
  (hc:∀ c:Ctx,c.m=ptr gl→TSt At c gl gd L D w→Calls Tryz.prog f args w (TRet At c gl gd v L' D')) :
  Calls Tryz.prog f args w fun e w'=>e = .returned v∧IxAt At w0 gd gx r S D' (gl::E) w'∧Blok w' gl 76 (logCells (ptr gl) gd L')∧Kept E w w':=by
 obtain⟨Fm,Gr,Gk,h1,h2,h3,h4,h5,h6⟩:=h
 have hno:gl ∉ Fm++(Gr++(Gk++E)):=fun hm=>by
  rcases List.mem_append.1 hm with k | k
  ·exact(h3 gl k).2.2 List.mem_cons_self
  ·rcases List.mem_append.1 k with k | k
   ·exact(h4 gl k).2 List.mem_cons_self
   ·rcases List.mem_append.1 k with k | k
    ·exact h5 gl k List.mem_cons_self
    ·exact hn k
 have hL:LogSt At w0 gd gl L D (Fm++(Gr++(Gk++E))) w:=⟨h1.less (fun b hm=>by
  rcases List.mem_cons.1 hm with e | k
  ·rw[e];exact List.mem_append_right _ (List.mem_append_right _ (List.mem_append_right _ List.mem_cons_self))
  ·rcases List.mem_append.1 k with k | k
   ·exact List.mem_append_left _ k
   ·rcases List.mem_append.1 k with k | k
    ·exact List.mem_append_right _ (List.mem_append_left _ k)
    ·rcases List.mem_append.1 k with k | k
     ·exact List.mem_append_right _ (List.mem_append_right _ (List.mem_append_left _ k))
     ·exact List.mem_append_right _ (List.mem_append_right _ (List.mem_append_right _ (List.mem_cons_of_mem _ k)))),hb,hno,hl⟩
 refine(hL.call api hc).mono ?_;rintro e w' ⟨rfl,⟨d,b',-,-⟩,k⟩;refine⟨rfl,⟨Fm,Gr,Gk,d.less (fun b hm=>?_),h2.keep (k.less fun b hm=>?_),h3,h4,h5,h6⟩,b',k.less (fun b hm=>List.mem_append_right _ (List.mem_append_right _ (List.mem_append_right _ hm)))⟩
 ·rcases List.mem_append.1 hm with k | k
  ·exact List.mem_cons_of_mem _ (List.mem_append_left _ k)
  ·rcases List.mem_append.1 k with k | k
   ·exact List.mem_cons_of_mem _ (List.mem_append_right _ (List.mem_append_left _ k))
   ·rcases List.mem_append.1 k with k | k
    ·exact List.mem_cons_of_mem _ (List.mem_append_right _ (List.mem_append_right _ (List.mem_append_left _ k)))
    ·rcases List.mem_cons.1 k with e | k
     ·rw[e];exact List.mem_cons_self
     ·exact List.mem_cons_of_mem _ (List.mem_append_right _ (List.mem_append_right _ (List.mem_append_right _ k)))
 ·rcases List.mem_append.1 hm with k | k
  ·exact List.mem_append_left _ k
  ·rcases List.mem_append.1 k with k | k
   ·exact List.mem_append_right _ (List.mem_append_left _ k)
   ·exact List.mem_append_right _ (List.mem_append_right _ (List.mem_append_left _ k))
theorem IxAt.flush (nap:NamesApi)(h:IxAt At w0 gd gx r S D (gl::E) w)(hb:Blok w gl 76 (logCells (ptr gl) gd L))(hn:gl ∉ E)(hl:w0.heap.size≤gl)(ok:WfP D)(hc:L.chunks≤200) :
  Calls Tryz.prog 34 #[ptr gl] w fun e w'=>e = .returned (err (flushT D L).1)∧IxAt At w0 gd gx r S (flushT D L).2.1 (gl::E) w'∧Blok w' gl 76 (logCells (ptr gl) gd (flushT D L).2.2)∧Kept E w w' :=
 h.log api hb hn hl (fun c hm hT=>flush_run api nap hm hT ok hc)
theorem DS.openLog (nap:NamesApi)(cap:ChunksApi)(h:DS At w0 gd D E w)(ok:WfP D)(hct:D.count≤1000000000)(h0:(openT D).1=0) :
  Calls Tryz.prog 8 #[ptr gd] w fun e w'=>∃ gl,e = .returned (.tuple #[ptr gl,.int .i64 0])∧w.heap.size≤gl∧LogSt At w0 gd gl { (openT D).2.2 with sure:=(openT D).2.2.endp } (openT D).2.1 E w'∧Kept E w w':=by
 obtain⟨F,h1,h2,h3⟩:=h;have hlow:=api.low h1;have hD:DSt At ⟨w,F,w0.heap.size,.pointer none,[],w⟩ gd D w:=⟨F,h1,fun x hx=>Or.inl hx,Touch.refl _ w,Nat.le_refl _,fun b hb=>(by cases hb)⟩
 refine(open_run api nap cap hD ok hct).mono ?_;rintro e w' (⟨_,gl,rfl,hg,F',k1,k2,k3,k4,k5,k6,k7⟩ | ⟨q,-⟩)
 ·have hT:Touch (gl::F) w w':=k5;have hge:w.heap.size≤gl:=hg;refine⟨gl,rfl,hge,⟨⟨F',k1,h2.trans (hT.below h2.size (fun x hx=>?_)),fun b hm=>?_⟩,k2,fun hm=>?_, ?_⟩, ?_⟩
  ·rcases List.mem_cons.1 hx with e | hx
   ·have:=h2.size;omega
   ·exact(hlow x hx).1
  ·rcases List.mem_cons.1 hm with e | hm
   ·rw[e];exact⟨k3,k2.lt⟩
   ·have hbw:=(h3 b hm).2;refine⟨fun hf=>?_,Nat.lt_of_lt_of_le hbw hT.size⟩;rcases k4 b hf with q | q
    ·exact(h3 b hm).1 q
    ·have q':w.heap.size≤b:=q;omega
  ·have:=(h3 gl hm).2;omega
  ·have:=h2.size;omega
  ·exact Kept.of_touch hT (fun b hm=>⟨(h3 b hm).2,fun hq=>by
    rcases List.mem_cons.1 hq with e | hq
    ·have:=(h3 b hm).2;omega
    ·exact(h3 b hm).1 hq⟩)
 ·exact absurd h0 q
end
end Go.Proofs.YtokbfellcadkpaaGreat
