/- ZnIxLists -/
import Derived.Test.YtokbfellcadkpaaGreatPn47
import Derived.Test.YtokbfellcadkpaaGreatPn44
import Derived.Test.YtokbfellcadkpaaGreatPn15
import Derived.Test.YtokbfellcadkpaaGreatPn14
import Derived.Test.YtokbfellcadkpaaGreatPn46
import Derived.Test.YtokbfellcadkpaaGreatPn13
import Derived.OpenShut
import Derived.BigQuiet
import Derived.Deep.LoopGhost
import Derived.WalkMore
import Derived.Deep.RegionHeld3
namespace Go.Proofs.YtokbfellcadkpaaGreat
open Go.RowKit Go.Shelf
set_option linter.unusedVariables false
set_option maxRecDepth 100000
section
variable {At : Lies} {w0 w w' W : World} {gd gx r : Nat} {S : IxS} {D D' : DiskS} {E N Fm Gr Gk : List Nat}
theorem IxAt.back (hM:IxM w w0.heap.size gx gd r S Fm Gr Gk)(h1:DS At w0 gd D (Fm++(Gr++(Gk++E))) w)(h3:∀ b∈Fm,b ∉ Gr∧b ∉ Gk∧b ∉ E)(h4:∀ b∈Gr,b ∉ Gk∧b ∉ E)(h5:∀ b∈Gk,b ∉ E)(h6:∀ b∈Fm++Gr,w0.heap.size≤b)
  (hd:DS At w0 gd D' (N++(Fm++(Gr++(Gk++E)))) w') (hk:Kept (Fm++(Gr++(Gk++E))) w w') (hN:∀ b∈N,w.heap.size≤b):IxAt At w0 gd gx r S D' (N++E) w':=by
 have hlt:=h1.lt
 have hno:∀ b,b<w.heap.size→b ∉ E→b ∉ N++E:=fun b hb hn hm=>by
  rcases List.mem_append.1 hm with k | k
  ·have:=hN b k;omega
  ·exact hn k
 refine⟨Fm,Gr,Gk,hd.less (fun b hb=>?_),hM.keep (hk.less fun b hb=>?_),fun b hb=>⟨(h3 b hb).1,(h3 b hb).2.1,hno b (hlt b (List.mem_append_left _ hb)) (h3 b hb).2.2⟩,fun b hb=>⟨(h4 b hb).1,hno b (hlt b (List.mem_append_right _ (List.mem_append_left _ hb))) (h4 b hb).2⟩,fun b hb=>hno b (hlt b (List.mem_append_right _ (List.mem_append_right _ (List.mem_append_left _ hb)))) (h5 b hb),h6⟩
 ·rcases List.mem_append.1 hb with k | k
  ·exact List.mem_append_right _ (List.mem_append_left _ k)
  ·rcases List.mem_append.1 k with k | k
   ·exact List.mem_append_right _ (List.mem_append_right _ (List.mem_append_left _ k))
   ·rcases List.mem_append.1 k with k | k
    ·exact List.mem_append_right _ (List.mem_append_right _ (List.mem_append_right _ (List.mem_append_left _ k)))
    ·rcases List.mem_append.1 k with k | k
     ·exact List.mem_append_left _ k
     ·exact List.mem_append_right _ (List.mem_append_right _ (List.mem_append_right _ (List.mem_append_right _ k)))
 ·rcases List.mem_append.1 hb with k | k
  ·exact List.mem_append_left _ k
  ·rcases List.mem_append.1 k with k | k
   ·exact List.mem_append_right _ (List.mem_append_left _ k)
   ·exact List.mem_append_right _ (List.mem_append_right _ (List.mem_append_left _ k))
end
end Go.Proofs.YtokbfellcadkpaaGreat
