/- ZnIxDel, ZnIxTake0 -/
import Derived.Test.YtokbfellcadkpaaGreatPn44
import Derived.Test.YtokbfellcadkpaaGreatPn15
import Derived.Test.YtokbfellcadkpaaGreatPn17
import Derived.Test.YtokbfellcadkpaaGreatPn19
import Derived.Test.YtokbfellcadkpaaGreatPn22
import Derived.Lib.OwnBridge
import Derived.BigQuiet
import Derived.Test.YtokbfellcadkpaaGreatPn47
import Derived.Test.YtokbfellcadkpaaGreatPn45
import Derived.Test.YtokbfellcadkpaaGreatPn37
namespace Go.Proofs.YtokbfellcadkpaaGreat
open Go.RowKit Go.Shelf
set_option linter.unusedVariables false
set_option maxRecDepth 100000
theorem dq_any (gb:Nat)(A:Option Addr)(n c:Nat)(p:Value)(y:Int)(q:Bool)(W:World)(hbox:W.cell? ⟨gb,0,none⟩=some (.slice A n c))
  (hN:∀ k,Calls Tryz.prog 107 #[p] (W.drewN k) fun e w'=>e = .returned (.int .i64 y)∧w'=W.drewN k)
  (hC:∀ k,Calls Tryz.prog 106 #[.slice A n c,.int .i64 y] (W.drewN k) fun e w'=>e = .returned (.bool q)∧w'=W.drewN k) :
  Calls Tryz.prog 166 #[p,ptr gb] W fun e w'=>e = .returned (.bool (!q))∧∃ k,w'=W.drewN k:=by
 have HN:=Lib.hid hN;have HC:=Lib.hid hC;clear hN hC;go_enter Tryz.func166,Tryz.ntmps166;go_wp2_with fail;go_quiet (first | (go_at_call 107;exact Calls.quiet_of_same (HN.out _)) | (go_at_call 106;exact Calls.quiet_of_same (HC.out _)));go_wp2;go_ret;exact⟨rfl,_,rfl⟩
theorem ptnum_nil (w:World) : Calls Tryz.prog 107 #[.pointer none] w fun e w'=>e = .returned (.int .i64 0)∧w=w':=by
 have hn:=Lib.hid (ptnone_nil w);go_enter Tryz.func107,Tryz.ntmps107;go_wp2_with fail;refine hn.out.mono ?_;rintro e w' ⟨rfl,rfl⟩;go_wp2;go_ret;exact⟨rfl,rfl⟩
abbrev DelT (L:List (Nat × TbS)) : Type:=Option { x:Nat × TbS // x∈L }
instance (L : List (Nat × TbS)) : Inhabited (DelT L) := ⟨none⟩
def delV {L:List (Nat × TbS)} : DelT L→Value
 | none=>.pointer none
 | some x=>ptr x.1.1
def delP {L:List (Nat × TbS)}(ns:List Int) : DelT L→Bool
 | none=>!decide ((0:Int)∈ns)
 | some x=>!decide ((x.1.2.n:Int)∈ns)
def delZ (L:List (Nat × TbS)) : List (DelT L):=L.attach.map some
theorem delV_one {L:List (Nat × TbS)} : OneCell (delV (L:=L)):=fun x=>by cases x<;>rfl
theorem delZ_vals (L:List (Nat × TbS)) : (delZ L).map delV=L.map fun x=>ptr x.1:=by
 unfold delZ;rw[List.map_map];show L.attach.map (fun x=>ptr x.1.1)=_;rw[show(fun x:{ x // x∈L }=>ptr x.1.1)=(fun x:Nat × TbS=>ptr x.1) ∘ Subtype.val from rfl,← List.map_map,List.attach_map_subtype_val]
theorem delZ_left (L:List (Nat × TbS))(ns:List Int) : ((delZ L).filter fun x=>!delP ns x).map delV=(L.filter fun x=>decide ((x.2.n:Int)∈ns)).map fun x=>ptr x.1:=by
 unfold delZ;rw[List.filter_map,List.map_map]
 have e:((fun x:DelT L=>!delP ns x) ∘ some)=(fun x:Nat × TbS=>decide ((x.2.n:Int)∈ns)) ∘ Subtype.val:=by
  funext x;show(!(!decide _))=_;rw[Bool.not_not];rfl
 rw[e,show(delV (L:=L) ∘ some)=(fun x:Nat × TbS=>ptr x.1) ∘ Subtype.val from rfl,← List.map_map,← List.filter_map,List.attach_map_subtype_val]
def leftP (ps:List Nat)(T:List TbS)(ns:List Int) : List Nat:=((ps.zip T).filter fun x=>decide ((x.2.n:Int)∈ns)).map Prod.fst
section
variable {w : World} {gd gb base cur n c : Nat} {A : Option Addr} {ps : List Nat} {T : List TbS} {ns : List Int} {G : List Nat} {v : Value}
theorem dq_of (hT:TabsAt w gd ps T G)(hb:Blok w gb 96 #[.slice A n c])(hv:IntsIn w (.slice A n c) ns)(hns:ns.length≤1000000)(E:List Nat)(hG:∀ b∈G,b∈E)(hgb:gb∈E)(hvE:∀ b∈ownL (.slice A n c),b∈E)(W:World)(hk:Kept E w W)(x:DelT (ps.zip T)) :
  FnGives Tryz.prog 166 #[ptr gb] #[delV x] (.bool (delP ns x)) W:=by
 have hc:W.cell? ⟨gb,0,none⟩=some (.slice A n c):=(hk.blok hb hgb).cell 0;have hCo:∀ (y:Int) (k:Nat),Calls Tryz.prog 106 #[.slice A n c,.int .i64 y] (W.drewN k) fun e w'=>e = .returned (.bool (decide (y∈ns)))∧w'=W.drewN k:=fun y k=>contains_any _ ns y (W.drewN k) ((hk.ints hv hvE).below (below_drewN (Below.refl _ _) k) (Nat.le_refl _)) hns
 cases x with
 | none=>exact dq_any gb A n c (.pointer none) 0 (decide ((0:Int)∈ns)) W hc (fun k=>(ptnum_nil (W.drewN k)).mono fun _ _ h=>⟨h.1,h.2.symm⟩) (hCo 0)
 | some x =>
   obtain⟨⟨g,t⟩,hx⟩:=x;obtain⟨i,hi⟩:=List.getElem?_of_mem hx;rw[List.getElem?_zip_eq_some] at hi;obtain⟨H,q1,q2⟩:=hT.2 i g t hi.1 hi.2;have q3:=q1.keep hk (fun b hb=>hG b (q2 b hb));exact dq_any gb A n c (ptr g) (t.n:Nat) (decide ((t.n:Int)∈ns)) W hc (fun k=>(ptnum_run (q3.below (below_drewN (Below.refl _ _) k))).mono fun _ _ h=>⟨h.1,h.2.symm⟩) (hCo _)
theorem sw_kept {α:Type}[Inhabited α](enc:α→Value)(w:World)(blk off k:Nat)(dk:Array α)(os:Array Obj){E:List Nat}(hE:∀ b∈E,b≠blk∧b<w.heap.size) : Kept E w (sortWorld enc w blk off k dk os):=by
 have h1:(Sort.putRow enc (Sort.ahead w k) blk off dk).heap.size=w.heap.size:=by simp[Sort.putRow,Sort.mapBlock,Sort.ahead]
 refine⟨?_,fun b hb=>?_⟩
 ·show w.heap.size≤((Sort.putRow enc (Sort.ahead w k) blk off dk).heap++os).size;rw[Array.size_append,h1];omega
 ·obtain⟨e1,e2⟩:=hE b hb;show((Sort.putRow enc (Sort.ahead w k) blk off dk).heap++os)[b]? = _;rw[Array.getElem?_append_left (by rw[h1];exact e2)];simp[Sort.putRow,Sort.mapBlock,Sort.ahead,Array.getElem?_modify,Ne.symm e1]
theorem del_any (hT:TabsAt w gd ps T G)(hr:PRow w base v ps)(hb:Blok w gb 96 #[.slice A n c])(hv:IntsIn w (.slice A n c) ns)(hns:ns.length≤1000000)(hps:ps.length≤1000)(E:List Nat)(hG:∀ b∈G,b∈E)(hgb:gb∈E)(hvE:∀ b∈ownL (.slice A n c),b∈E)(hE:∀ b∈E,b ∉ ownL v∧b<w.heap.size) :
  Calls Tryz.prog 165 #[v,.func (.func 166) #[] #[ptr gb]] w fun e w'=>∃ u,e = .returned u∧PRow w' base u (leftP ps T ns)∧ownL u=ownL v∧Touch (ownL v) w w':=by
 have hl:=hT.1;by_cases hn:v = .slice none 0 0
 ·subst hn
  have hl0:ps=[]:=by
   rcases hr.2 with⟨-,e⟩ | ⟨g,cap,cur,e,-⟩
   ·exact List.length_eq_zero_iff.1 e
   ·cases e
  subst hl0
  have HI:Hid (∀ W,Calls Tryz.prog 207 #[.slice none 0 0,.func (.func 166) #[] #[ptr gb]] W fun e w'=>e = .returned (.int .i64 (-1))∧W=w'):=Lib.hid fun W=>by
   clear hT hr hb hv hE hvE hG hgb;go_enter Tryz.func207,Tryz.ntmps207;go_wp2;refine wp_loop_rounds 1 ?_;rw[rounds_succ];go_wp2;go_ret;exact⟨rfl,rfl⟩
  have HR:=Lib.hid hr;clear hT hr hb hv hE hvE hG hgb;go_enter Tryz.func165,Tryz.ntmps165;go_wp2_with fail;refine(HI.out _).mono ?_;rintro e w' ⟨rfl,rfl⟩;go_wp2;go_ret;exact⟨_,rfl,PRow.nil _ _,rfl,Touch.refl _ _⟩
 ·have hz:(delZ (ps.zip T)).length=ps.length:=by
   unfold delZ;rw[List.length_map,List.length_attach,List.length_zip];omega
  have hvals:ps.map ptr=(delZ (ps.zip T)).map delV:=by
   rw[delZ_vals,show(fun x:Nat × TbS=>ptr x.1)=ptr ∘ Prod.fst from rfl,← List.map_map,List.map_fst_zip (by omega)]
  have hr2:=hr;unfold PRow at hr2;rw[hvals] at hr2;obtain⟨g,cap,rfl,hg,hlt,hnc,hcm,-,hH⟩:=Lib.holds_of_ownsRow hr2 hn;have hne:∀ b∈E,b≠g∧b<w.heap.size:=fun b hb=>⟨fun e=>(hE b hb).1 (ownL_mem.2 (by rw[e];rfl)),(hE b hb).2⟩
  have hp:PredAt Tryz.prog 166 #[ptr gb] (delV (L:=ps.zip T)) (delP ns) w:=fun W x hW=>dq_of hT hb hv hns E hG hgb hvE W (Kept.of_below hW (fun b hb=>(hE b hb).2)) x
  have hpo:PredOver Tryz.prog 166 #[ptr gb] (delV (L:=ps.zip T)) (delP ns) g 0 (delZ (ps.zip T)).toArray.size w:=fun k os dk x _=>dq_of hT hb hv hns E hG hgb hvE _ (sw_kept _ _ _ _ _ _ _ hne) x
  have eg:∀ args w,(callFunc 166 args).run Tryz.prog w = .ok (.enter 166 args) w:=enters_of Tryz.func166 (by kernel_rfl) rfl;have h:=AnyE.slices_DeleteFunc Tryz.del delV delV_one (delP ns) 166 #[ptr gb] eg none (fun w=>Tryz.zeroValue164 w) g 0 cap (delZ (ps.zip T)).toArray w hp hpo hH (by rw[List.size_toArray];omega) (by rw[List.size_toArray];omega);rw[List.size_toArray,hz] at h;refine h.mono ?_;rintro e w' ⟨rfl,q,rfl⟩;have hfl:((delZ (ps.zip T)).filter fun x=>!delP ns x).length≤ps.length:=by rw[← hz];exact List.length_filter_le _ _
  have h2:=Lib.ownsRow_putRow (q:=q) (k:=((delZ (ps.zip T)).filter fun x=>!delP ns x).length) (ys:=((delZ (ps.zip T)).filter fun x=>!delP ns x)++List.replicate (ps.length-((delZ (ps.zip T)).filter fun x=>!delP ns x).length) none) hr2 (by rw[List.length_append,List.length_replicate];omega) hfl;rw[List.take_left,delZ_left] at h2
  have hlen:((delZ (ps.zip T)).filter fun x=>!delP ns x).length=(leftP ps T ns).length:=by
   have:=congrArg List.length (delZ_left (ps.zip T) ns);rw[List.length_map,List.length_map] at this;unfold leftP;rw[List.length_map];exact this
  rw[hlen];refine⟨_,rfl, ?_,rfl, ?_⟩
  ·have e:(leftP ps T ns).map ptr=((ps.zip T).filter fun x=>decide ((x.2.n:Int)∈ns)).map fun x=>ptr x.1:=by unfold leftP;rw[List.map_map];rfl
   unfold PRow;rw[e];rw[hlen] at h2;exact h2
  ·refine⟨rfl,rfl,rfl,by simp[Sort.putRow,Sort.mapBlock,Sort.ahead],fun b hb hn=>?_⟩;have hbg:g≠b:=fun e=>hn (ownL_mem.2 (by rw[e];rfl))
   simp[Sort.putRow,Sort.mapBlock,Sort.ahead,Array.getElem?_modify,hbg]
end
end Go.Proofs.YtokbfellcadkpaaGreat
namespace Go.Proofs.YtokbfellcadkpaaGreat
open Go.RowKit Go.Shelf
set_option linter.unusedVariables false
set_option maxRecDepth 100000
theorem info_ptp : (Tryz.prog.info? 164).map (fun i=>(i.zero,i.size,i.bytes))=some (some (.pointer none),1,8):=by kernel_rfl
theorem ptp_src (w:World)(g:Nat) : SrcAt (w.alloc (.cells #[ptr g] 164)) 1 (.slice (some ⟨w.heap.size,0,none⟩) 1 1) 1 [ptr g] :=
 ⟨rfl,Or.inr ⟨_,1,rfl,fun j u hj=>by
  match j,hj with
  | 0,hj =>
    obtain rfl:ptr g=u:=by simpa using hj
    exact(Blok.new w 164 #[ptr g]).cell 0⟩⟩
theorem prow_append {w:World}{base n:Nat}{v:Value}{ps:List Nat}(g:Nat)(ty:TypeId)(hown:PRow w base v ps)(hn:n=ps.length)(hl:ps.length≤10000)(hb:base≤w.heap.size) :
  ∃ A c w',(Builtin.append_ #[86,86] ty #[v,.slice (some ⟨w.heap.size,0,none⟩) 1 1]).run Tryz.prog (w.alloc (.cells #[ptr g] 164)) = .ok (.slice A (n+1) c) w'∧PRow w' base (.slice A (n+1) c) (ps++[g])∧Touch (ownL v) w w'∧∀ b∈ownL (.slice A (n+1) c),b∈ownL v∨(w.heap.size≤b∧b<w'.heap.size):=by
 subst hn;obtain⟨i0,hi,hz0,hz1,hz2⟩:=info_parts info_ptp;have hB:=(Below.refl w.heap.size w).alloc (Nat.le_refl _) (.cells #[ptr g] 164);have h1:=PRow.below hown hB (Nat.le_refl _);obtain⟨v',w',e1,e2,e3,e4⟩:=run_append_src (P:=Tryz.prog) _ base 86 164 i0 _ 1 8 ty Tryz.underlying86 hi hz0 hz1 hz2 rfl (by decide) v ps.length (ps.map ptr) h1 _ 1 [ptr g] (ptp_src w g) (fun u hu=>by rw[List.mem_singleton.1 hu];rfl) (by unfold maxLen;omega) (by omega) (by simp;omega);obtain⟨A,c,rfl,-,-,-⟩:=own_form e2;refine⟨A,c,w',e1,by unfold PRow;rw[List.length_append,List.map_append];exact e2,((Touch.of_below hB).more (fun x hx=>by cases hx)).grown e3 (fun k hk=>Or.inl (ownL_mem.2 hk)),fun b hm=>?_⟩;have hb':=ownL_mem.1 hm;rcases e4 with e | e
 ·exact Or.inl (ownL_mem.2 (by rw[← e];exact hb'))
 ·have hlt:=(e2.lt b hb').2;rw[hb'] at e;obtain rfl:=Option.some.inj e;exact Or.inr ⟨by simp,hlt⟩
def nextM (S:IxS)(R:LvL)(check:Int) : ManS:=⟨S.m.next+1,check,S.m.seed,R⟩
section
variable {At : Lies} {w0 w w5 w9 : World} {gd gx r gm cp c2 gt n cp5 n9 c9 k5 : Nat} {S : IxS} {D D' : DiskS} {E N Fm Gr Gk ps G2 H : List Nat} {A B A5 A9 : Option Addr} {R : LvL} {l : List EntS} {t : ByteArray} {check : Int}
theorem take_fin (api:DiskApi At)(hC:IxCells w w0.heap.size gx gd r S Fm Gr Gk gm A cp B c2 ps)(h1:DS At w0 gd D (Fm++(Gr++(Gk++E))) w)(h3:∀ b∈Fm,b ∉ Gr∧b ∉ Gk∧b ∉ E)(h4:∀ b∈Gr,b ∉ Gk∧b ∉ E)(h5:∀ b∈Gk,b ∉ E)(h6:∀ b∈Fm++Gr,w0.heap.size≤b)
  (hd:DS At w0 gd D' (N++(Fm++(Gr++(Gk++E)))) w5) (hk:Kept (Fm++(Gr++(Gk++E))) w w5) (hN:∀ b∈N,w.heap.size≤b)
  (hlv:LvKeep w5 (.slice A5 k5 cp5) R G2) (hG2:∀ b∈G2,b∈N) (hp:PtAt w5 gt gd (n:Nat) l t H) (hH:∀ b∈H,b∈N) (hn:S.m.next=(n:Nat))
  (ht:Touch (gx::ownL (.slice B ps.length c2)) w5 w9)
  (hb9:Blok w9 gx 89 #[ptr gx,ptr gd,.int .i64 (S.m.next+1),.int .i64 check,.int .u64 (S.m.seed:Nat),.slice A5 k5 cp5,.slice A9 n9 c9,.float .f64 r,mtp gm])
  (hr9:PRow w9 w0.heap.size (.slice A9 n9 c9) (leftP ps S.T R.flatten++[gt])) (ho9:∀ b∈ownL (.slice A9 n9 c9),b∈ownL (.slice B ps.length c2)∨(w5.heap.size≤b∧b<w9.heap.size)) :
  IxAt At w0 gd gx r (laidX S R check ⟨n,l,t⟩ S.mem) D' E w9∧Kept E w w9:=by
 have hlt:=h1.lt;have hlt5:=hd.lt
 have hB:∀ b∈gx::ownL (.slice B ps.length c2),b∈Gr:=fun b hb=>by
  rcases List.mem_cons.1 hb with e | k
  ·rw[e];exact hC.own
  ·exact hC.rowOwn b k
 have lGr:∀ b∈Gr,b<w.heap.size:=fun b hb=>hlt b (List.mem_append_right _ (List.mem_append_left _ hb))
 have hfar:∀ b∈N++(Fm++(Gk++E)),b<w5.heap.size∧b ∉ gx::ownL (.slice B ps.length c2):=fun b hb=>by
  refine⟨hlt5 b ?_,fun hm=>?_⟩
  ·rcases List.mem_append.1 hb with k | k
   ·exact List.mem_append_left _ k
   ·rcases List.mem_append.1 k with k | k
    ·exact List.mem_append_right _ (List.mem_append_left _ k)
    ·exact List.mem_append_right _ (List.mem_append_right _ (List.mem_append_right _ k))
  ·have hg:=hB b hm;rcases List.mem_append.1 hb with k | k
   ·have:=hN b k;have:=lGr b hg;omega
   ·rcases List.mem_append.1 k with k | k
    ·exact(h3 b k).1 hg
    ·rcases List.mem_append.1 k with k | k
     ·exact(h4 b hg).1 k
     ·exact(h4 b hg).2 k
 have hK9:Kept (N++(Fm++(Gk++E))) w5 w9:=Kept.of_touch ht hfar;have hz5:=hk.size
 have hnewr:∀ b∈gx::ownL (.slice A9 n9 c9),b∈Gr∨(w5.heap.size≤b∧b<w9.heap.size):=fun b hb=>by
  rcases List.mem_cons.1 hb with e | k
  ·rw[e];exact Or.inl hC.own
  ·rcases ho9 b k with q | q
   ·exact Or.inl (hC.rowOwn b q)
   ·exact Or.inr q
 have hkk:∀ b∈H++(G2++Gk),b∈N∨b∈Gk:=fun b hb=>by
  rcases List.mem_append.1 hb with k | k
  ·exact Or.inl (hH b k)
  ·rcases List.mem_append.1 k with k | k
   ·exact Or.inl (hG2 b k)
   ·exact Or.inr k
 have hds:DS At w0 gd D' (Fm++((gx::ownL (.slice A9 n9 c9))++((H++(G2++Gk))++E))) w9:=hd.turn api ht (fun b hb=>⟨List.mem_append_right _ (List.mem_append_right _ (List.mem_append_left _ (hB b hb))),h6 b (List.mem_append_right _ (hB b hb))⟩) (fun b hb=>by
  rcases List.mem_append.1 hb with k | k
  ·exact Or.inl (List.mem_append_right _ (List.mem_append_left _ k))
  ·rcases List.mem_append.1 k with k | k
   ·rcases hnewr b k with q | q
    ·exact Or.inl (List.mem_append_right _ (List.mem_append_right _ (List.mem_append_left _ q)))
    ·exact Or.inr q
   ·rcases List.mem_append.1 k with k | k
    ·rcases hkk b k with q | q
     ·exact Or.inl (List.mem_append_left _ q)
     ·exact Or.inl (List.mem_append_right _ (List.mem_append_right _ (List.mem_append_right _ (List.mem_append_left _ q))))
    ·exact Or.inl (List.mem_append_right _ (List.mem_append_right _ (List.mem_append_right _ (List.mem_append_right _ k)))))
 have kG2:Kept G2 w5 w9:=hK9.less (fun b hb=>List.mem_append_left _ (hG2 b hb));have kH:Kept H w5 w9:=hK9.less (fun b hb=>List.mem_append_left _ (hH b hb));have kGk:Kept Gk w w9:=(hk.less (fun b hb=>List.mem_append_right _ (List.mem_append_right _ (List.mem_append_left _ hb)))).trans (hK9.less (fun b hb=>List.mem_append_right _ (List.mem_append_right _ (List.mem_append_left _ hb))));have kFm:Kept Fm w w9:=(hk.less (fun b hb=>List.mem_append_left _ hb)).trans (hK9.less (fun b hb=>List.mem_append_right _ (List.mem_append_left _ hb)));have hts:=(hC.tabs.keep kGk (fun b hb=>hb)).filter (fun t=>decide ((t.n:Int)∈R.flatten));have hts2:=hts.snoc (t:=⟨n,l,t⟩) (hp.keep kH (fun b hb=>hb));refine⟨⟨Fm,gx::ownL (.slice A9 n9 c9),H++(G2++Gk),hds,⟨gm,_,_,leftP ps S.T R.flatten++[gt],hb9,(hlv.step kG2).more (fun b hb=>List.mem_append_right _ (List.mem_append_left _ hb)),hr9,hts2.more (fun b hb=>?_),hC.mem.keep kFm (fun b hb=>hb),List.mem_cons_self,fun b hb=>List.mem_cons_of_mem _ hb,hC.low⟩,fun b hb=>⟨fun hm=>?_,fun hm=>?_,(h3 b hb).2.2⟩,fun b hb=>⟨fun hm=>?_,fun hm=>?_⟩,fun b hb hm=>?_,fun b hb=>?_⟩,(hk.less (fun b hb=>List.mem_append_right _ (List.mem_append_right _ (List.mem_append_right _ hb)))).trans (hK9.less (fun b hb=>List.mem_append_right _ (List.mem_append_right _ (List.mem_append_right _ hb))))⟩
 ·rcases List.mem_append.1 hb with k | k
  ·exact List.mem_append_left _ k
  ·exact List.mem_append_right _ (List.mem_append_right _ k)
 ·have:=hlt b (List.mem_append_left _ hb);rcases hnewr b hm with q | q
  ·exact(h3 b hb).1 q
  ·omega
 ·have:=hlt b (List.mem_append_left _ hb);rcases hkk b hm with q | q
  ·have:=hN b q;omega
  ·exact(h3 b hb).2.1 q
 ·rcases hnewr b hb with q | q
  ·have:=lGr b q;rcases hkk b hm with p | p
   ·have:=hN b p;omega
   ·exact(h4 b q).1 p
  ·rcases hkk b hm with p | p
   ·have:=hlt5 b (List.mem_append_left _ p);omega
   ·have:=hlt b (List.mem_append_right _ (List.mem_append_right _ (List.mem_append_left _ p)));omega
 ·rcases hnewr b hb with q | q
  ·exact(h4 b q).2 hm
  ·have:=hlt b (List.mem_append_right _ (List.mem_append_right _ (List.mem_append_right _ hm)));omega
 ·rcases hkk b hb with p | p
  ·have:=hN b p;have:=hlt b (List.mem_append_right _ (List.mem_append_right _ (List.mem_append_right _ hm)));omega
  ·exact h5 b p hm
 ·rcases List.mem_append.1 hb with k | k
  ·exact h6 b (List.mem_append_left _ k)
  ·rcases hnewr b k with q | q
   ·exact h6 b (List.mem_append_right _ q)
   ·have:=h1.kept.size;omega
end
end Go.Proofs.YtokbfellcadkpaaGreat
