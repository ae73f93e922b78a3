import Derived.Shelf.SlicesE.DeleteFunc
import Derived.Test.YthejglbnkmimjaaGreatPp30
set_option linter.unusedVariables false
set_option maxRecDepth 100000
set_option maxHeartbeats 9000000
namespace Go.Proofs.YthejglbnkmimjaaGreat
open Tryz
section
open Go.RowKit Go.Shelf
abbrev RD(L:List (Nat × TbS)):Type:=Option { x:Nat × TbS // x∈L }
instance (L : List (Nat × TbS)):Inhabited (RD L) := ⟨none⟩
theorem RE: (prog.info? 160).map (fun i=>(i.zero,i.size,i.bytes))=some (some (.pointer none),1,8):=by kernel_rfl
theorem RF(w:World)(g:Nat):cW (w.alloc (.cells #[ptr g] 160)) 1 (.slice (some ⟨w.heap.size,0,none⟩) 1 1) 1 [ptr g] :=
 ⟨rfl,qY ⟨_,1,rfl,fun j u a=>by
  match j,a with
  | 0,a =>
    obtain rfl:ptr g=u:=(by simpa using a);exact(za.new w 160 #[ptr g]).cell 0⟩⟩
theorem RH{w:World}{base n:Nat}{v:Value}{a:List Nat}(g:Nat)(j:TypeId)(z:yL w base v a)(y:n=a.length)(J:a.length<=10000)(I:base<=w.heap.size):
  ∃A c w',(Builtin.append_ #[108,108] j #[v,.slice (some ⟨w.heap.size,0,none⟩) 1 1]).run prog (w.alloc (.cells #[ptr g] 160)) = .ok (.slice A (n+1) c) w'/\yL w' base (.slice A (n+1) c) (a++[g])/\ze (jA v) w w'/\∀b∈jA (.slice A (n+1) c),b∈jA v∨(w.heap.size<=b/\b<w'.heap.size):=by
 subst y;obtain⟨H,q,D,F,G⟩:=info_parts RE;have i:=(Below.refl w.heap.size w).alloc (qZ _) (.cells #[ptr g] 160);have p:=yL.below z i (qZ _);obtain⟨K,w',l,d,m,o⟩:=cr (P:=prog) _ base 108 160 H _ 1 8 j Tryz.underlying108 q D F G rfl (by decide) v a.length (a.map ptr) p _ 1 [ptr g] (RF w g) (fun u B=>by rw[qE.1 B];rfl) (by unfold maxLen;omega) (by omega) (by simp;omega);obtain⟨A,c,rfl,-,-,-⟩:=v8 d;refine⟨A,c,w',l,by unfold yL;rw[qI,List.map_append];exact d,((ze.qm i).more (fun x C=>by cases C)).grown m (fun k r=>qX (jq.2 r)),fun b t=>?_⟩;have f:=jq.1 t;rcases o with e|e
 ·exact qX (jq.2 (by rw[<-e];exact f))
 ·have s:=(d.lt b f).2;rw[f]at e;obtain rfl:=qv e;exact qY ⟨by simp,s⟩
end
end Go.Proofs.YthejglbnkmimjaaGreat
