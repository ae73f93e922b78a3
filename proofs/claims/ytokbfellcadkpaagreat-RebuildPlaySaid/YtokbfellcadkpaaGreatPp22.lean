import Derived.RangeFuncFrom
import Derived.Test.YtokbfellcadkpaaGreatPp01
set_option linter.unusedVariables false
set_option maxRecDepth 100000
set_option maxHeartbeats 9000000
namespace Go.Proofs.YtokbfellcadkpaaGreat
section
open Go.RowKit
theorem qJV(w:World)(z:Value)(n:Nat)(t:TypeId):RowB (w.alloc (.cells (madeCells #[z] n) t)) w.heap.size n (fun _=>z) :=
 ⟨madeCells #[z] n,t,(0,0),World.alloc_heap_new w _,Nat.le_of_eq (size_madeCells _ _).symm,qX rfl,fun i a=>by simp[madeCells,a,Nat.mod_one]⟩
theorem RowB.alloc{w:World}{b n:Nat}{f:Nat->Value}(h:RowB w b n f)(o:Obj):RowB (w.alloc o) b n f:=h.of_block ((World.grownBy_alloc w o none).block b h.lt (by simp))
theorem RowB.grown{w w':World}{b n:Nat}{f:Nat->Value}{row:Option Nat}(h:RowB w b n f)(a:w.grownBy w' row)(c:some b≠row):RowB w' b n f:=h.of_block (a.block b h.lt c)
theorem RowB.own{β:Type}(b n:Nat)(f:β->Nat->Value):Own (fun(s:β) W=>RowB W b n (f s)):=fun s X Y row d j k =>
 d.grown j (fun e=>by
  obtain⟨o,a,i⟩:=k b e.symm;obtain⟨c,t,l,g,_⟩:=d;rw[g]at a;cases a;cases i)
def CL(D:Nat):Deferred:={ target:=.collected D,args:=#[] }
def gK(B:Nat)(a:List Nat)(W:World):Prop:=a.Nodup/\∀D∈a,B<=D/\W.heap[D]? = some (.deferred (some []))
theorem gK.nil(B:Nat)(W:World):gK B [] W:=⟨List.nodup_nil,fun D h=>by cases h⟩
theorem gK.lt{B:Nat}{a:List Nat}{W:World}(h:gK B a W){D:Nat}(b:D∈a):D<W.heap.size:=(qm.1 (h.2 D b).2).1
theorem gK.cons{B:Nat}{a:List Nat}{W:World}(h:gK B a W){D:Nat}(c:B<=D)(d:W.heap[D]? = some (.deferred (some [])))(f:D ∉ a):gK B (D::a) W :=
 ⟨List.nodup_cons.2 ⟨f,h.1⟩,fun E b=>by
  rcases qL.1 b with rfl|b
  ·exact⟨c,d⟩
  ·exact h.2 E b⟩
theorem qJY{β:Type}{B N:Nat}{c:List Nat}(d:∀D∈c,D<N):OwnFrom N (fun(_ : β) W=>gK B c W):=fun s X Y row b f g =>
 ⟨b.1,fun D a=>⟨(b.2 D a).1,(f.block D (b.lt a) (fun e=>by
  have:=(g D e.symm).1;have:=d D a;omega)).trans (b.2 D a).2⟩⟩
theorem gK.setCell{B:Nat}{b:List Nat}{W:World}(h:gK B b W){c:Nat}(f:c<B)(i:Nat)(v:Value):gK B b (W.setCell ⟨c,i,none⟩ v) :=
 ⟨h.1,fun D a=>⟨(h.2 D a).1,(Below.heap_setCell W _ _ D (fun e=>by have:=(h.2 D a).1;have d:D=c:=e;omega)).trans (h.2 D a).2⟩⟩
theorem CM{F:Fence}{n:Nat}{P:Program}{c:Func}{d:Array Value}{R:Ending->World->Prop}{B:Nat}:∀(a:List Nat) (w:World),gK B a w ->
  (∀w',Below B w w'->LeavesInM F n P c d R [] .returning w')->LeavesInM F n P c d R (a.map CL) .returning w
 | [],w,_,h=>h w (Below.refl _ _)
 | D::a,w,hD,h=>by
   have h1:=hD.2 D qD;have i:=hD.lt qD;have f:Below B w (w.putObj D (.deferred none)):=(Below.refl B w).grown (grownBy_putObj' w D _) (by omega) (fun k e=>by cases e;exact h1.1);refine⟨by simp,.inl ⟨D,_,rfl,run_takeDeferred h1.2,CM a _ ⟨(List.nodup_cons.1 hD.1).2,fun E b=>⟨(hD.2 E (qE _ b)).1, ?_⟩⟩ fun w' hw=>h w' (f.trans hw)⟩⟩;have g:E≠D:=fun e=>(List.nodup_cons.1 hD.1).1 (e ▸ b)
   exact((grownBy_putObj' w D (.deferred none)).block E (hD.lt (qE _ b)) (fun e=>by cases e;exact g rfl)).trans (hD.2 E (qE _ b)).2
end
end Go.Proofs.YtokbfellcadkpaaGreat
