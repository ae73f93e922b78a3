/- ZnBlRow -/
import Derived.RangeFuncLeaves
import Derived.RangeFuncKeeps
import Derived.RangeFuncFrom
import Derived.Test.YtokbfellcadkpaaGreatPn01
namespace Go.Proofs.YtokbfellcadkpaaGreat
set_option maxRecDepth 100000
set_option linter.unusedVariables false
section
open Go.RowKit
theorem rowB_made (w:World)(z:Value)(n:Nat)(t:TypeId) : RowB (w.alloc (.cells (madeCells #[z] n) t)) w.heap.size n (fun _=>z) :=
 ⟨madeCells #[z] n,t,(0,0),World.alloc_heap_new w _,Nat.le_of_eq (size_madeCells _ _).symm,Or.inl rfl,fun i hi=>by simp[madeCells,hi,Nat.mod_one]⟩
theorem RowB.alloc {w:World}{b n:Nat}{f:Nat→Value}(h:RowB w b n f)(o:Obj) : RowB (w.alloc o) b n f:=h.of_block ((World.grownBy_alloc w o none).block b h.lt (by simp))
theorem RowB.grown {w w':World}{b n:Nat}{f:Nat→Value}{row:Option Nat}(h:RowB w b n f)(hg:w.grownBy w' row)(hne:some b≠row) : RowB w' b n f:=h.of_block (hg.block b h.lt hne)
theorem RowB.own {β:Type}(b n:Nat)(f:β→Nat→Value) : Own (fun(s:β) W=>RowB W b n (f s)):=fun s X Y row hs hg hrow =>
 hs.grown hg (fun e=>by
  obtain⟨o,ho,hc⟩:=hrow b e.symm;obtain⟨c,t,fr,hb,_⟩:=hs;rw[hb] at ho;cases ho;cases hc)
def coll (D:Nat) : Deferred:={ target:=.collected D,args:=#[] }
def DefsAt (B:Nat)(Ds:List Nat)(W:World) : Prop:=Ds.Nodup∧∀ D∈Ds,B≤D∧W.heap[D]? = some (.deferred (some []))
theorem DefsAt.nil (B:Nat)(W:World) : DefsAt B [] W:=⟨List.nodup_nil,fun D h=>by cases h⟩
theorem DefsAt.lt {B:Nat}{Ds:List Nat}{W:World}(h:DefsAt B Ds W){D:Nat}(hD:D∈Ds) : D<W.heap.size:=(Array.getElem?_eq_some_iff.1 (h.2 D hD).2).1
theorem DefsAt.cons {B:Nat}{Ds:List Nat}{W:World}(h:DefsAt B Ds W){D:Nat}(hB:B≤D)(hD:W.heap[D]? = some (.deferred (some [])))(hn:D ∉ Ds) : DefsAt B (D::Ds) W :=
 ⟨List.nodup_cons.2 ⟨hn,h.1⟩,fun E hE=>by
  rcases List.mem_cons.1 hE with rfl | hE
  ·exact⟨hB,hD⟩
  ·exact h.2 E hE⟩
theorem defsAt_own {β:Type}{B N:Nat}{Ds:List Nat}(hN:∀ D∈Ds,D<N) : OwnFrom N (fun(_ : β) W=>DefsAt B Ds W):=fun s X Y row hs hg hrow =>
 ⟨hs.1,fun D hD=>⟨(hs.2 D hD).1,(hg.block D (hs.lt hD) (fun e=>by
  have:=(hrow D e.symm).1;have:=hN D hD;omega)).trans (hs.2 D hD).2⟩⟩
theorem DefsAt.setCell {B:Nat}{Ds:List Nat}{W:World}(h:DefsAt B Ds W){c:Nat}(hc:c<B)(i:Nat)(v:Value) : DefsAt B Ds (W.setCell ⟨c,i,none⟩ v) :=
 ⟨h.1,fun D hD=>⟨(h.2 D hD).1,(Below.heap_setCell W _ _ D (fun e=>by have:=(h.2 D hD).1;have e':D=c:=e;omega)).trans (h.2 D hD).2⟩⟩
theorem leaves_all {F:Fence}{n:Nat}{P:Program}{fn:Func}{tmps:Array Value}{R:Ending→World→Prop}{B:Nat} : ∀ (Ds:List Nat) (w:World),DefsAt B Ds w →
  (∀ w',Below B w w'→LeavesInM F n P fn tmps R [] .returning w')→LeavesInM F n P fn tmps R (Ds.map coll) .returning w
 | [],w,_,h=>h w (Below.refl _ _)
 | D::Ds,w,hD,h=>by
   have h1:=hD.2 D List.mem_cons_self;have hlt:=hD.lt List.mem_cons_self;have hb:Below B w (w.putObj D (.deferred none)):=(Below.refl B w).grown (grownBy_putObj' w D _) (by omega) (fun k e=>by cases e;exact h1.1);refine⟨by simp,.inl ⟨D,_,rfl,run_takeDeferred h1.2,leaves_all Ds _ ⟨(List.nodup_cons.1 hD.1).2,fun E hE=>⟨(hD.2 E (List.mem_cons_of_mem _ hE)).1, ?_⟩⟩ fun w' hw=>h w' (hb.trans hw)⟩⟩;have hne:E≠D:=fun e=>(List.nodup_cons.1 hD.1).1 (e ▸ hE)
   exact((grownBy_putObj' w D (.deferred none)).block E (hD.lt (List.mem_cons_of_mem _ hE)) (fun e=>by cases e;exact hne rfl)).trans (hD.2 E (List.mem_cons_of_mem _ hE)).2
end
end Go.Proofs.YtokbfellcadkpaaGreat
