/- ZnEnts, ZnIntRow, ZnLvs, ZnRaws, ZnBatMath, ZnBatRaw, ZnF64In -/
import Derived.Test.YtokbfellcadkpaaGreatPn01
import Derived.Deep.Slices
import Derived.Deep.Fields
import Derived.ChangeSame
import Derived.WideShapes
import Derived.Carry
import Derived.ProofKit
import Derived.OpenShut
import Derived.Test.YtokbfellcadkpaaGreatPn03
import Derived.ChangeShapes
namespace Go.Proofs.YtokbfellcadkpaaGreat
set_option maxRecDepth 100000
set_option linter.unusedVariables false
section
open Go.ChangeShapes Go.WideShapes Go.ChangeAt Go.RowKit Go.Deep
structure EntS where
 h:Nat
 v:Int
 p:Int
def entCells (x:EntS) : List Value:=[.int .u64 (x.h:Nat),.int .i64 x.v,.int .i64 x.p]
abbrev entB (x:EntS) : Value:=.agg #[.int .u64 (x.h:Nat),.int .i64 x.v,.int .i64 x.p]
structure EntOk (x:EntS) : Prop where
 h:x.h<18446744073709551616
 v0:-9223372036854775808≤x.v
 v1:x.v≤9223372036854775807
 p0:-9223372036854775808≤x.p
 p1:x.p≤9223372036854775807
def EntsIn (w:World)(v:Value)(l:List EntS) : Prop :=
 (l=[]∧∃ a c,v = .slice a 0 c)∨∃ b off cap,v = .slice (some ⟨b,off,none⟩) l.length cap∧l.length≤cap∧cap≤maxLen∧b<w.heap.size ∧
  ∀ i x,l[i]? = some x→∀ j u,(entCells x)[j]? = some u→w.cell? ⟨b,off+(i*3+j),none⟩=some u
theorem EntsIn.below {w w':World}{v:Value}{l:List EntS}{B:Nat}(h:EntsIn w v l)(hb:Below B w w')(hB:w.heap.size≤B) : EntsIn w' v l:=by
 rcases h with h | ⟨b,off,cap,hv,hl,hm,hlt,hc⟩
 ·exact Or.inl h
 ·exact Or.inr ⟨b,off,cap,hv,hl,hm,Nat.lt_of_lt_of_le hlt hb.size,fun i x hx j u hu=>(hb.cell (p:=⟨b,off+(i*3+j),none⟩) (Nat.lt_of_lt_of_le hlt hB)).trans (hc i x hx j u hu)⟩
def intV (x:Int) : Value:=.int .i64 x
theorem IntsIn.form {w:World}{v:Value}{l:List Int}(h:IntsIn w v l) : ∃ A off cap,v = .slice A l.length cap∧l.length≤maxLen ∧
  ∀ i x,l[i]? = some x→∃ b,A=some ⟨b,off,none⟩∧b<w.heap.size∧w.cell? ⟨b,off+i,none⟩=some (.int .i64 x):=by
 rcases h with⟨rfl,a,c,rfl⟩ | ⟨b,off,cap,rfl,h2,h3,h4,h5⟩
 ·exact⟨a,0,c,rfl,Nat.zero_le _,fun i x h=>by simp at h⟩
 ·exact⟨some ⟨b,off,none⟩,off,cap,rfl,by omega,fun i x hx=>⟨b,rfl,h4,h5 i x hx⟩⟩
theorem intV_one {l:List Int} : ∀ u∈l.map intV,u.oneCell'=true:=by
 intro u hu;obtain⟨x,-,rfl⟩:=List.mem_map.1 hu;rfl
abbrev IRow (w:World)(base:Nat)(v:Value)(l:List Int) : Prop:=w.ownsRow base 3 1 v l.length (l.map intV)
theorem IRow.nil (w:World)(base:Nat) : IRow w base (.slice none 0 0) []:=World.ownsRow_nil _ _ _ _
theorem IRow.in_ {w:World}{base:Nat}{v:Value}{l:List Int}(h:IRow w base v l) : IntsIn w v l:=by
 have h':=h;rcases h.2 with⟨hv,h0⟩ | ⟨g,cap,cur,hv,hg,hh,hn,hm,hsz,ht⟩
 ·exact Or.inl ⟨List.length_eq_zero_iff.1 h0,none,0,hv⟩
 ·refine Or.inr ⟨g,0,cap,hv,hn,hm,(Array.getElem?_eq_some_iff.1 hh).1,fun i x hx=>?_⟩;have hi:i<l.length:=(List.getElem?_eq_some_iff.1 hx).1;rw[hv] at h';rw[Nat.zero_add];refine(h'.cellAt i (by omega)).trans ?_;show(l.map intV)[i]? = _;rw[List.getElem?_map,hx];rfl
theorem IRow.below {w w':World}{base B:Nat}{v:Value}{l:List Int}(h:IRow w base v l)(hb:Below B w w')(hB:w.heap.size≤B) : IRow w' base v l:=by
 refine⟨h.1, ?_⟩;rcases h.2 with h0 | ⟨g,cap,cur,hv,hg,hh,r⟩
 ·exact Or.inl h0
 ·obtain⟨hlt,_⟩:=Array.getElem?_eq_some_iff.1 hh;exact Or.inr ⟨g,cap,cur,hv,hg,(hb.block g (Nat.lt_of_lt_of_le hlt hB)).trans hh,r⟩
theorem IRow.block {w:World}{base:Nat}{v:Value}{l:List Int}(h:IRow w base v l) : ∀ k,v.ownBlock=some k→base≤k∧k<w.heap.size:=fun k hk=>h.lt k hk
theorem IRow.down {w:World}{base base':Nat}{v:Value}{l:List Int}(h:IRow w base v l)(hb:base'≤base) : IRow w base' v l:=by
 refine⟨h.1, ?_⟩;rcases h.2 with h0 | ⟨g,cap,cur,hv,hg,r⟩
 ·exact Or.inl h0
 ·exact Or.inr ⟨g,cap,cur,hv,Nat.le_trans hb hg,r⟩
theorem IntsIn.src {w:World}{v:Value}{l:List Int}(h:IntsIn w v l) : SrcAt w 1 v l.length (l.map intV):=by
 refine⟨by rw[List.length_map,Nat.mul_one], ?_⟩;rcases h with⟨rfl,a,c,rfl⟩ | ⟨b,off,cap,rfl,h2,h3,h4,h5⟩
 ·cases a with
  | none=>exact Or.inl ⟨c,rfl,rfl⟩
  | some a=>exact Or.inr ⟨a,c,rfl,fun j u hu=>by cases hu⟩
 ·refine Or.inr ⟨⟨b,off,none⟩,cap,rfl,fun j u hu=>?_⟩;rw[List.getElem?_map] at hu;obtain⟨x,hx,rfl⟩:=Option.map_eq_some_iff.1 hu;have ea:(⟨b,off,none⟩:Addr).add j=⟨b,off+j,none⟩:=by unfold Addr.add;split<;>simp_all
  rw[ea];exact h5 j x hx
theorem int_one (w:World)(x:Int) : IntsIn (w.alloc (.cells #[.int .i64 x] 3)) (.slice (some ⟨w.heap.size,0,none⟩) 1 1) [x]:=by
 refine Or.inr ⟨w.heap.size,0,1,rfl,Nat.le_refl _,by unfold maxLen;omega,by simp,fun i y hy=>?_⟩
 match i,hy with
 | 0,hy =>
   obtain rfl:x=y:=by simpa using hy
   simp
theorem ints_append {w:World}{base:Nat}{vs vx:Value}{l m:List Int}(hown:IRow w base vs l)(hsrc:IntsIn w vx m)(hl:l.length+m.length≤1000000)(hb:base≤w.heap.size)(ty:TypeId) :
  ∃ A c w',(Builtin.append_ #[96,96] ty #[vs,vx]).run Tryz.prog w = .ok (.slice A (l.length+m.length) c) w'∧IRow w' base (.slice A (l.length+m.length) c) (l++m)∧w.grownBy w' vs.ownBlock∧((Value.slice A (l.length+m.length) c).ownBlock=vs.ownBlock∨(Value.slice A (l.length+m.length) c).ownBlock=some w.heap.size):=by
 obtain⟨i0,hi,hz0,hz1,hz2⟩:=info_parts info_int;obtain⟨v',w',e1,e2,e3,e4⟩:=run_append_src (P:=Tryz.prog) w base 96 3 i0 _ 1 8 ty Tryz.underlying96 hi hz0 hz1 hz2 rfl (by decide) vs l.length (l.map intV) hown vx m.length (m.map intV) hsrc.src intV_one (by unfold maxLen;omega) (by omega) hb;obtain⟨A,c,rfl,-,-,-⟩:=own_form e2;refine⟨A,c,w',e1, ?_,e3,e4⟩;unfold IRow;rw[List.map_append,List.length_append];exact e2
theorem igrown_below {B:Nat}{w w':World}{v:Value}(h:w.grownBy w' v.ownBlock)(hB:B≤w.heap.size)(hv:∀ k,v.ownBlock=some k→B≤k) : Below B w w':=⟨h.os,h.tape,h.output,h.size,fun k hk=>h.block k (by omega) (fun e=>by have:=hv k e.symm;omega)⟩
theorem ints_isnil (A:Option Addr)(n c:Nat)(w:World) : (binOp .eql 96 (.slice A n c) (.slice none 0 0)).run Tryz.prog w = .ok (.bool A.isNone) w:=by
 have he:=run_equal_slice_nil (P:=Tryz.prog) w 96 3 A n c Tryz.underlying96;simp only[binOp];simp[he]
def IntsOut (w:World)(l:List Int)(e:Ending)(w':World) : Prop:=∃ A c,e = .returned (.slice A l.length c)∧IRow w' w.heap.size (.slice A l.length c) l∧Below w.heap.size w w'
theorem iclone_any (v:Value)(l:List Int)(w:World)(h:IntsIn w v l)(hl:l.length≤500000) : Calls Tryz.prog 105 #[v] w (IntsOut w l):=by
 obtain⟨A,off,cap,rfl,-,-⟩:=h.form;cases A with
 | none =>
   have hn:l=[]:=by
    rcases h with⟨e,_⟩ | ⟨b,off',cap',e,_⟩
    ·exact e
    ·cases e
   subst hn;have hq:=fun W=>ints_isnil none 0 cap W
   clear h hl;go_enter Tryz.func105,Tryz.ntmps105;go_wp2;go_ret;exact⟨none,0,rfl,IRow.nil _ _,Below.refl _ _⟩
 | some a =>
   have hb:=(Below.refl w.heap.size w).alloc (Nat.le_refl _) (.cells #[] 3);have hown:IRow (w.alloc (.cells #[] 3)) w.heap.size (.slice (some ⟨w.heap.size,0,none⟩) 0 0) []:=World.ownsRow_made w #[] 0 (Nat.le_refl _) (Nat.zero_le _) rfl;have h1:=h.below hb (Nat.le_refl _);obtain⟨A',c',w',e1,e2,e3,e4⟩:=ints_append hown h1 (by simp;omega) (by simp) 96;have hT:=hb.trans (igrown_below e3 (B:=w.heap.size) (by simp) (fun k hk=>by simp[Value.ownBlock] at hk;omega));have HT:=Lib.hid hT;rw[List.nil_append] at e2;have hz:([]:List Int).length+l.length=l.length:=by simp
   rw[hz] at e1 e2;have HK:=Lib.hid e2;clear h hl hb hown h1 e2 e3 e4 hT hz;obtain⟨m,hm⟩:∃ m,m=l.length:=⟨_,rfl⟩
   have HM:=Lib.hid hm;rw[← hm] at e1 HK ⊢;clear hm;have HE:=Lib.hid e1;have hq:=fun W=>ints_isnil (some a) m cap W
   clear e1;go_enter Tryz.func105,Tryz.ntmps105;go_wp2_with (first | (at_builtin;refine wpList_append_two rfl _ _ rfl rfl rfl HE.out ?_) | fail);go_ret;exact⟨A',c',by rw[← HM.out];rfl,by rw[← HM.out];exact HK.out,HT.out⟩
structure LvS where
 v:Value
 l:List Int
abbrev lvl (L:List LvS) : List (List Int):=L.map LvS.l
abbrev lvals (L:List LvS) : List Value:=L.map LvS.v
def LvEach (w:World)(L:List LvS) : Prop:=∀ x∈L,IntsIn w x.v x.l
def LvsAt (w:World)(v:Value)(L:List LvS) : Prop :=
 (L=[]∧∃ a c,v = .slice a 0 c)∨∃ b off cap,v = .slice (some ⟨b,off,none⟩) L.length cap∧L.length≤cap∧cap≤maxLen∧b<w.heap.size∧∀ i x,L[i]? = some x→w.cell? ⟨b,off+i,none⟩=some x.v
def LvsIn (w:World)(v:Value)(L:List LvS) : Prop:=LvsAt w v L∧LvEach w L
theorem LvEach.below {w w':World}{L:List LvS}{B:Nat}(h:LvEach w L)(hb:Below B w w')(hB:w.heap.size≤B) : LvEach w' L:=fun x hx=>(h x hx).below hb hB
theorem LvsAt.below {w w':World}{v:Value}{L:List LvS}{B:Nat}(h:LvsAt w v L)(hb:Below B w w')(hB:w.heap.size≤B) : LvsAt w' v L:=by
 rcases h with h | ⟨b,off,cap,hv,hl,hm,hlt,hc⟩
 ·exact Or.inl h
 ·exact Or.inr ⟨b,off,cap,hv,hl,hm,Nat.lt_of_lt_of_le hlt hb.size,fun i x hx=>(hb.cell (p:=⟨b,off+i,none⟩) (Nat.lt_of_lt_of_le hlt hB)).trans (hc i x hx)⟩
theorem LvsIn.below {w w':World}{v:Value}{L:List LvS}{B:Nat}(h:LvsIn w v L)(hb:Below B w w')(hB:w.heap.size≤B) : LvsIn w' v L:=⟨h.1.below hb hB,h.2.below hb hB⟩
theorem LvsAt.form {w:World}{v:Value}{L:List LvS}(h:LvsAt w v L) : ∃ A off cap,v = .slice A L.length cap∧L.length≤maxLen ∧
  ∀ i x,L[i]? = some x→∃ b,A=some ⟨b,off,none⟩∧b<w.heap.size∧w.cell? ⟨b,off+i,none⟩=some x.v:=by
 rcases h with⟨rfl,a,c,rfl⟩ | ⟨b,off,cap,rfl,h2,h3,h4,h5⟩
 ·exact⟨a,0,c,rfl,Nat.zero_le _,fun i x h=>by simp at h⟩
 ·exact⟨some ⟨b,off,none⟩,off,cap,rfl,by omega,fun i x hx=>⟨b,rfl,h4,h5 i x hx⟩⟩
theorem LvEach.one {w:World}{L:List LvS}(h:LvEach w L) : ∀ u∈lvals L,u.oneCell'=true:=by
 intro u hu;obtain⟨x,hx,rfl⟩:=List.mem_map.1 hu;obtain⟨A,off,cap,e,-,-⟩:=(h x hx).form;rw[e];rfl
abbrev LvRow (w:World)(base:Nat)(v:Value)(L:List LvS) : Prop:=w.ownsRow base 96 1 v L.length (lvals L)
theorem LvRow.nil (w:World)(base:Nat) : LvRow w base (.slice none 0 0) []:=World.ownsRow_nil _ _ _ _
theorem LvRow.at_ {w:World}{base:Nat}{v:Value}{L:List LvS}(h:LvRow w base v L) : LvsAt w v L:=by
 have h':=h;rcases h.2 with⟨hv,h0⟩ | ⟨g,cap,cur,hv,hg,hh,hn,hm,hsz,ht⟩
 ·exact Or.inl ⟨List.length_eq_zero_iff.1 h0,none,0,hv⟩
 ·refine Or.inr ⟨g,0,cap,hv,hn,hm,(Array.getElem?_eq_some_iff.1 hh).1,fun i x hx=>?_⟩;have hi:i<L.length:=(List.getElem?_eq_some_iff.1 hx).1;rw[hv] at h';rw[Nat.zero_add];refine(h'.cellAt i (by omega)).trans ?_;show(L.map LvS.v)[i]? = _;rw[List.getElem?_map,hx];rfl
theorem LvRow.in_ {w:World}{base:Nat}{v:Value}{L:List LvS}(h:LvRow w base v L)(he:LvEach w L) : LvsIn w v L:=⟨h.at_,he⟩
theorem LvRow.below {w w':World}{base B:Nat}{v:Value}{L:List LvS}(h:LvRow w base v L)(hb:Below B w w')(hB:w.heap.size≤B) : LvRow w' base v L:=by
 refine⟨h.1, ?_⟩;rcases h.2 with h0 | ⟨g,cap,cur,hv,hg,hh,r⟩
 ·exact Or.inl h0
 ·obtain⟨hlt,_⟩:=Array.getElem?_eq_some_iff.1 hh;exact Or.inr ⟨g,cap,cur,hv,hg,(hb.block g (Nat.lt_of_lt_of_le hlt hB)).trans hh,r⟩
theorem LvRow.block {w:World}{base:Nat}{v:Value}{L:List LvS}(h:LvRow w base v L) : ∀ k,v.ownBlock=some k→base≤k:=by
 intro k hk;rcases h.2 with⟨rfl,_⟩ | ⟨g,cap,cur,rfl,hg,_⟩
 ·cases hk
 ·cases hk;exact hg
theorem LvRow.down {w:World}{base base':Nat}{v:Value}{L:List LvS}(h:LvRow w base v L)(hb:base'≤base) : LvRow w base' v L:=by
 refine⟨h.1, ?_⟩;rcases h.2 with h0 | ⟨g,cap,cur,hv,hg,r⟩
 ·exact Or.inl h0
 ·exact Or.inr ⟨g,cap,cur,hv,Nat.le_trans hb hg,r⟩
theorem LvRow.some_ {w:World}{base n c:Nat}{A:Option Addr}{L:List LvS}(h:LvRow w base (.slice A n c) L)(hn:0<L.length) : ∃ g,A=some ⟨g,0,none⟩∧base≤g∧g<w.heap.size∧n=L.length:=by
 rcases h.2 with⟨hv,h0⟩ | ⟨g,cap,cur,hv,hg,hh,_⟩
 ·omega
 ·obtain⟨rfl,rfl,-⟩:=Value.slice.inj hv;exact⟨g,rfl,hg,(Array.getElem?_eq_some_iff.1 hh).1,rfl⟩
theorem LvRow.cell {w:World}{base g n c i:Nat}{L:List LvS}{x:LvS}(h:LvRow w base (.slice (some ⟨g,0,none⟩) n c) L)(hn:n=L.length)(hx:L[i]? = some x) : w.cell? ⟨g,i,none⟩=some x.v∧w.frozen? ⟨g,i,none⟩=false:=by
 subst hn;have hi:i<L.length:=(List.getElem?_eq_some_iff.1 hx).1;refine⟨(h.cellAt i (by omega)).trans ?_,h.frozenAt i⟩;show(L.map LvS.v)[i]? = _;rw[List.getElem?_map,hx];rfl
theorem LvRow.put {w:World}{base g n c i:Nat}{L:List LvS}(h:LvRow w base (.slice (some ⟨g,0,none⟩) n c) L)(hn:n=L.length)(x:LvS) : LvRow (w.setCell ⟨g,i,none⟩ x.v) base (.slice (some ⟨g,0,none⟩) n c) (L.set i x):=by
 subst hn;have h1:=(h.stored i x.v).1;unfold LvRow lvals;rw[List.length_set,List.map_set];exact h1
theorem info_lv : (Tryz.prog.info? 96).map (fun i=>(i.zero,i.size,i.bytes))=some (some (.slice none 0 0),1,24):=by kernel_rfl
theorem LvsAt.src {w:World}{v:Value}{L:List LvS}(h:LvsAt w v L) : SrcAt w 1 v L.length (lvals L):=by
 refine⟨by unfold lvals;rw[List.length_map,Nat.mul_one], ?_⟩;rcases h with⟨rfl,a,c,rfl⟩ | ⟨b,off,cap,rfl,h2,h3,h4,h5⟩
 ·cases a with
  | none=>exact Or.inl ⟨c,rfl,rfl⟩
  | some a=>exact Or.inr ⟨a,c,rfl,fun j u hu=>by cases hu⟩
 ·refine Or.inr ⟨⟨b,off,none⟩,cap,rfl,fun j u hu=>?_⟩;unfold lvals at hu;rw[List.getElem?_map] at hu;obtain⟨x,hx,rfl⟩:=Option.map_eq_some_iff.1 hu;have ea:(⟨b,off,none⟩:Addr).add j=⟨b,off+j,none⟩:=by unfold Addr.add;split<;>simp_all
  rw[ea];exact h5 j x hx
theorem lvs_append {w:World}{base:Nat}{vs vx:Value}{L M:List LvS}(hown:LvRow w base vs L)(hsrc:LvsAt w vx M)(h1:∀ u∈lvals M,u.oneCell'=true)(hl:L.length+M.length≤1000000)(hb:base≤w.heap.size)(ty:TypeId) :
  ∃ A c w',(Builtin.append_ #[38,38] ty #[vs,vx]).run Tryz.prog w = .ok (.slice A (L.length+M.length) c) w'∧LvRow w' base (.slice A (L.length+M.length) c) (L++M)∧w.grownBy w' vs.ownBlock∧((Value.slice A (L.length+M.length) c).ownBlock=vs.ownBlock∨(Value.slice A (L.length+M.length) c).ownBlock=some w.heap.size):=by
 obtain⟨i0,hi,hz0,hz1,hz2⟩:=info_parts info_lv;obtain⟨v',w',e1,e2,e3,e4⟩:=run_append_src (P:=Tryz.prog) w base 38 96 i0 _ 1 24 ty Tryz.underlying38 hi hz0 hz1 hz2 rfl (by decide) vs L.length (lvals L) hown vx M.length (lvals M) hsrc.src h1 (by unfold maxLen;omega) (by omega) hb;obtain⟨A,c,rfl,-,-,-⟩:=own_form e2;refine⟨A,c,w',e1, ?_,e3,e4⟩;unfold LvRow lvals;rw[List.map_append,List.length_append];exact e2
theorem lv_ne : (96:TypeId)≠3:=by decide
theorem LvRow.grown {w w':World}{base base':Nat}{u v:Value}{L:List LvS}{l:List Int}(h:LvRow w base v L)(hr:IRow w base' u l)(hg:w.grownBy w' u.ownBlock) : LvRow w' base v L :=
 own_touch h (F:=u.ownBlock.toList) (Touch.grown (Touch.refl _ w) hg (fun k hk=>Or.inl (by rw[hk];simp))) (fun b hb hm=>own_own_ne hr h lv_ne.symm b hb (by simpa using hm))
theorem IRow.far_l {w:World}{base base' g n c i:Nat}{v x:Value}{L:List LvS}{l:List Int}(h:IRow w base v l)(hr:LvRow w base' (.slice (some ⟨g,0,none⟩) n c) L) : IRow (w.setCell ⟨g,i,none⟩ x) base v l :=
 own_far h (fun hb=>own_own_ne hr h lv_ne g hb rfl) x
theorem LvRow.alloc {w:World}{base:Nat}{v:Value}{L:List LvS}(h:LvRow w base v L)(o:Obj) : LvRow (w.alloc o) base v L:=LvRow.below h ((Below.refl w.heap.size w).alloc (Nat.le_refl _) o) (Nat.le_refl _)
def LvOwn (w:World)(base:Nat)(M:List LvS) : Prop:=∀ x∈M,IRow w base x.v x.l
theorem LvOwn.each {w:World}{base:Nat}{M:List LvS}(h:LvOwn w base M) : LvEach w M:=fun x hx=>IRow.in_ (h x hx)
theorem LvOwn.below {w w':World}{base B:Nat}{M:List LvS}(h:LvOwn w base M)(hb:Below B w w')(hB:w.heap.size≤B) : LvOwn w' base M:=fun x hx=>IRow.below (h x hx) hb hB
theorem LvOwn.down {w:World}{base base':Nat}{M:List LvS}(h:LvOwn w base M)(hb:base'≤base) : LvOwn w base' M:=fun x hx=>IRow.down (h x hx) hb
theorem LvOwn.take {w:World}{base:Nat}{M:List LvS}(h:LvOwn w base M)(k:Nat) : LvOwn w base (M.take k):=fun x hx=>h x (List.mem_of_mem_take hx)
def LvApart (M:List LvS) : Prop:=∀ (i j:Nat) (x y:LvS),M[i]? = some x→M[j]? = some y→i≠j→∀ g,x.v.ownBlock=some g→y.v.ownBlock≠some g
theorem LvApart.set {M:List LvS}{k:Nat}{x:LvS}(h:LvApart M)(hx:∀ g,x.v.ownBlock=some g→∀ j y,j≠k→M[j]? = some y→y.v.ownBlock≠some g) : LvApart (M.set k x):=by
 intro i j a b ha hb hij g hg;rw[List.getElem?_set] at ha hb;split at ha
 ·rename_i e;subst e;split at ha
  ·obtain rfl:x=a:=by simpa using ha
   rw[if_neg hij] at hb;exact hx g hg j b (fun e=>hij e.symm) hb
  ·cases ha
 ·rename_i e;split at hb
  ·rename_i e2;subst e2;split at hb
   ·obtain rfl:x=b:=by simpa using hb
    intro hbg;exact hx g hbg i a (fun e3=>e e3.symm) ha hg
   ·cases hb
  ·exact h i j a b ha hb hij g hg
theorem lvl_at {L:List LvS}{k:Nat}{y:LvS}(h:L[k]? = some y) : (lvl L)[k]? = some y.l:=by unfold lvl;rw[List.getElem?_map,h];rfl
theorem lvl_length (L:List LvS) : (lvl L).length=L.length:=List.length_map _
theorem lvl_set (L:List LvS)(i:Nat)(x:LvS) : lvl (L.set i x)=(lvl L).set i x.l:=List.map_set
theorem lvl_take (L:List LvS)(k:Nat) : lvl (L.take k)=(lvl L).take k:=List.map_take
theorem lvl_getD {L:List LvS}{k:Nat}{y:LvS}(h:L[k]? = some y) : (lvl L).getD k []=y.l:=by rw[List.getD_eq_getElem?_getD,lvl_at h];rfl
def LvsNew (w:World)(base:Nat)(v:Value)(R:LvL) : Prop:=∃ M,LvRow w base v M∧LvOwn w base M∧lvl M=R
theorem LvsNew.below {w w':World}{base B:Nat}{v:Value}{R:LvL}(h:LvsNew w base v R)(hb:Below B w w')(hB:w.heap.size≤B) : LvsNew w' base v R:=by
 obtain⟨M,h1,h2,h3⟩:=h;exact⟨M,LvRow.below h1 hb hB,h2.below hb hB,h3⟩
theorem LvsNew.down {w:World}{base base':Nat}{v:Value}{R:LvL}(h:LvsNew w base v R)(hb:base'≤base) : LvsNew w base' v R:=by
 obtain⟨M,h1,h2,h3⟩:=h;exact⟨M,LvRow.down h1 hb,h2.down hb,h3⟩
theorem LvsNew.nil (w:World)(base:Nat) : LvsNew w base (.slice none 0 0) []:=⟨[],LvRow.nil _ _,fun x hx=>(by cases hx),rfl⟩
def LvsHas (w:World)(v:Value)(R:LvL) : Prop:=∃ M,LvsIn w v M∧lvl M=R
theorem LvsNew.has {w:World}{base:Nat}{v:Value}{R:LvL}(h:LvsNew w base v R) : LvsHas w v R:=by
 obtain⟨M,h1,h2,h3⟩:=h;exact⟨M,LvRow.in_ h1 h2.each,h3⟩
theorem LvsHas.below {w w':World}{v:Value}{R:LvL}{B:Nat}(h:LvsHas w v R)(hb:Below B w w')(hB:w.heap.size≤B) : LvsHas w' v R:=by
 obtain⟨M,h1,h2⟩:=h;exact⟨M,h1.below hb hB,h2⟩
theorem LvsHas.form {w:World}{v:Value}{R:LvL}(h:LvsHas w v R) : ∃ A off cap,v = .slice A R.length cap∧R.length≤maxLen ∧
  ∀ i x,R[i]? = some x→∃ b u,A=some ⟨b,off,none⟩∧b<w.heap.size∧w.cell? ⟨b,off+i,none⟩=some u∧IntsIn w u x:=by
 obtain⟨M,h1,rfl⟩:=h;obtain⟨A,off,cap,hv,hl,hc⟩:=h1.1.form;rw[lvl_length];refine⟨A,off,cap,hv,hl,fun i x hx=>?_⟩;unfold lvl at hx;rw[List.getElem?_map] at hx;obtain⟨y,hy,rfl⟩:=Option.map_eq_some_iff.1 hx;obtain⟨b,e1,e2,e3⟩:=hc i y hy;exact⟨b,y.v,e1,e2,e3,h1.2 y (List.mem_of_getElem? hy)⟩
theorem LvsHas.nil (w:World)(A:Option Addr)(c:Nat) : LvsHas w (.slice A 0 c) []:=⟨[],⟨Or.inl ⟨rfl,A,c,rfl⟩,fun x hx=>(by cases hx)⟩,rfl⟩
structure RawS where
 t:ByteArray
 d:ByteArray
 b:Nat
end
section
open Go.RowKit
def echk (x:RawS) : Int:=chk x.t x.d
def evOf (x:RawS) : ByteArray:=evB x.t x.d x.b
def lchk : List RawS→Int
 | []=>0
 | x::l=>if echk x=0 then lchk l else echk x
def bchk (s:ByteArray)(f:Int)(l:List RawS) : Int :=
 if s.size=0∨l.length=0 then 2 else if 32<s.size∨8<l.length then 3 else if f<0∨1073741824-(l.length:Int)<f then 2 else lchk l
theorem lchk_zero : ∀ {l:List RawS},lchk l=0↔∀ x∈l,echk x=0
 | []=>by simp[lchk]
 | x::l=>by
   unfold lchk;by_cases h:echk x=0
   ·rw[if_pos h,lchk_zero];simp[h]
   ·rw[if_neg h];simp[h]
theorem lchk_drop : ∀ {l:List RawS} {k:Nat},(∀ i x,i<k→l[i]? = some x→echk x=0)→lchk l=lchk (l.drop k)
 | [],k,h=>by simp
 | x::l,0,h=>rfl
 | x::l,k+1,h=>by
   rw[List.drop_succ_cons,← lchk_drop (l:=l) (k:=k) (fun i y hi hy=>h (i+1) y (by omega) (by simpa using hy))];unfold lchk;rw[if_pos (h 0 x (by omega) rfl)];cases l<;>rfl
theorem lchk_at {l:List RawS}{k:Nat}{x:RawS}(h:∀ i x,i<k→l[i]? = some x→echk x=0)(hx:l[k]? = some x)(he:¬ echk x=0) : lchk l=echk x:=by
 obtain⟨hk,e⟩:=List.getElem?_eq_some_iff.1 hx;rw[lchk_drop h,List.drop_eq_getElem_cons hk,e,lchk,if_neg he]
theorem lchk_all {l:List RawS}{k:Nat}(h:∀ i x,i<k→l[i]? = some x→echk x=0)(hk:l.length≤k) : lchk l=0:=by
 rw[lchk_drop h,List.drop_eq_nil_of_le hk];rfl
theorem bchk_arg {s:ByteArray}{f:Int}{l:List RawS}(h:s.size=0∨l.length=0) : bchk s f l=2:=by unfold bchk;rw[if_pos h]
theorem bchk_long {s:ByteArray}{f:Int}{l:List RawS}(h:¬ (s.size=0∨l.length=0))(h2:32<s.size∨8<l.length) : bchk s f l=3:=by unfold bchk;rw[if_neg h,if_pos h2]
theorem bchk_first {s:ByteArray}{f:Int}{l:List RawS}(h:¬ (s.size=0∨l.length=0))(h2:¬ (32<s.size∨8<l.length))(h3:f<0∨1073741824-(l.length:Int)<f) : bchk s f l=2:=by unfold bchk;rw[if_neg h,if_neg h2,if_pos h3]
theorem bchk_evs {s:ByteArray}{f:Int}{l:List RawS}(h:¬ (s.size=0∨l.length=0))(h2:¬ (32<s.size∨8<l.length))(h3:¬ (f<0∨1073741824-(l.length:Int)<f)) : bchk s f l=lchk l:=by unfold bchk;rw[if_neg h,if_neg h2,if_neg h3]
theorem bchk_zero {s:ByteArray}{f:Int}{l:List RawS} : bchk s f l=0↔(1≤s.size∧s.size≤32∧1≤l.length∧l.length≤8∧0≤f∧f≤1073741824-(l.length:Int)∧∀ x∈l,echk x=0):=by
 by_cases h:s.size=0∨l.length=0
 ·rw[bchk_arg h];omega
 ·by_cases h2:32<s.size∨8<l.length
  ·rw[bchk_long h h2];omega
  ·by_cases h3:f<0∨1073741824-(l.length:Int)<f
   ·rw[bchk_first h h2 h3];omega
   ·rw[bchk_evs h h2 h3,lchk_zero];constructor
    ·intro hx;exact⟨by omega,by omega,by omega,by omega,by omega,by omega,hx⟩
    ·rintro ⟨_,_,_,_,_,_,hx⟩;exact hx
def evsB : List RawS→ByteArray
 | []=>ByteArray.empty
 | x::l=>evOf x++evsB l
theorem evsB_snoc : ∀ (l:List RawS) (x:RawS),evsB (l++[x])=evsB l++evOf x
 | [],x=>by simp[evsB]
 | y::l,x=>by rw[List.cons_append,evsB,evsB,evsB_snoc l x,ByteArray.append_assoc]
theorem evsB_size {l:List RawS}(h:∀ x∈l,echk x=0) : (evsB l).size≤l.length*228:=by
 induction l with
 | nil=>simp[evsB]
 | cons x l ih =>
   have h1:=ih (fun y hy=>h y (List.mem_cons_of_mem _ hy));have h2:=chk_zero.1 (h x (List.mem_cons_self ..));rw[evsB,ByteArray.size_append,evOf,evB_size,List.length_cons];omega
def headB (s:ByteArray)(f n:Nat) : ByteArray:=bs (be 2 s.size)++s++bs (be 8 f)++bs (be 1 n)
theorem headB_size (s:ByteArray)(f n:Nat) : (headB s f n).size=s.size+11:=by
 unfold headB;simp only[ByteArray.size_append,bs_size,be_length];omega
def batB (s:ByteArray)(f:Nat)(l:List RawS) : ByteArray:=headB s f l.length++evsB l
def batS (s:ByteArray)(f:Int)(l:List RawS) : ByteArray:=if bchk s f l=0 then batB s f.toNat l else ByteArray.empty
theorem batB_size {s:ByteArray}{f:Int}{l:List RawS}(h:bchk s f l=0) : 1≤(batB s f.toNat l).size∧(batB s f.toNat l).size≤2000:=by
 obtain⟨h1,h2,h3,h4,h5,h6,h7⟩:=bchk_zero.1 h;have:=evsB_size h7;unfold batB;rw[ByteArray.size_append,headB_size];omega
def evsR : Nat→ByteArray→Option (List RawS × ByteArray)
 | 0,s=>some ([],s)
 | n+1,s=>if erOk s=true then(evsR n (erR s)).map (fun p=>(⟨erT s,erD s,erW s⟩::p.1,p.2)) else none
structure EvOk (x:RawS) : Prop where
 c:echk x=0
 b:x.b<18446744073709551616
theorem evsR_form : ∀ {n:Nat} {s:ByteArray} {l:List RawS} {r:ByteArray},evsR n s=some (l,r)→evsB l++r=s∧l.length=n∧∀ x∈l,EvOk x
 | 0,s,l,r,h=>by
   simp only[evsR,Option.some.injEq,Prod.mk.injEq] at h;obtain⟨rfl,rfl⟩:=h;exact⟨by simp[evsB],rfl,fun x hx=>by cases hx⟩
 | n+1,s,l,r,h=>by
   unfold evsR at h;by_cases ho:erOk s=true
   ·rw[if_pos ho] at h;cases hr:evsR n (erR s) with
    | none=>rw[hr] at h;cases h
    | some p =>
      obtain⟨l',r'⟩:=p;rw[hr] at h;simp only[Option.map_some,Option.some.injEq,Prod.mk.injEq] at h;obtain⟨rfl,rfl⟩:=h;obtain⟨e1,e2,e3⟩:=evsR_form hr;obtain⟨f1,f2⟩:=er_form ho;refine⟨?_,by rw[List.length_cons,e2],fun x hx=>?_⟩
      ·rw[evsB,ByteArray.append_assoc,e1];exact f2
      ·rcases List.mem_cons.1 hx with rfl | hx
       ·exact⟨f1,erW_lt s⟩
       ·exact e3 x hx
   ·rw[if_neg ho] at h;cases h
theorem evsR_back : ∀ {l:List RawS} {r:ByteArray},(∀ x∈l,EvOk x)→evsR l.length (evsB l++r)=some (l,r)
 | [],r,_=>by simp[evsR,evsB]
 | x::l,r,h=>by
   have hx:=h x (List.mem_cons_self ..);obtain⟨o1,o2,o3,o4,o5⟩:=er_back x.t x.d x.b (evsB l++r) hx.c hx.b;rw[List.length_cons,evsR,evsB,ByteArray.append_assoc];unfold evOf;rw[if_pos o1,o2,o3,o4,o5,evsR_back (fun y hy=>h y (List.mem_cons_of_mem _ hy))];rfl
theorem evsR_step {n:Nat}{s:ByteArray}(h:erOk s=true) : evsR (n+1) s=(evsR n (erR s)).map (fun p=>(⟨erT s,erD s,erW s⟩::p.1,p.2)):=by rw[evsR,if_pos h]
theorem evsR_no {n:Nat}{s:ByteArray}(h:erOk s=false) : evsR (n+1) s=none:=by rw[evsR,if_neg (by rw[h];decide)]
def bgM (s:ByteArray) : Nat:=if h:8<(rdB s).size then((rdB s)[8]).toNat else 0
theorem bgM_lt (s:ByteArray) : bgM s<256:=by
 unfold bgM;split
 ·exact UInt8.toNat_lt _
 ·omega
def bgBody (s:ByteArray) : ByteArray:=(rdB s).extract 9 (rdB s).size
def bgHead (s:ByteArray) : Bool:=rdOk s&&decide (9≤(rdB s).size)&&decide (getS (rdB s)≤1073741824)
def bgEvs (s:ByteArray) : Option (List RawS × ByteArray):=evsR (bgM s) (bgBody s)
def bgOk (s:ByteArray) : Bool:=bgHead s&&match bgEvs s with
 | none=>false
 | some (l,r)=>decide (r.size=0)&&decide (bchk (rdA s) (getS (rdB s):Nat) l=0)
def bgS (s:ByteArray) : ByteArray:=if bgOk s=true then rdA s else ByteArray.empty
def bgF (s:ByteArray) : Int:=if bgOk s=true then(getS (rdB s):Nat) else 0
def bgL (s:ByteArray) : List RawS:=if bgOk s=true then((bgEvs s).map (·.1)).getD [] else []
def bgE (s:ByteArray) : Int:=if bgOk s=true then 0 else 10
theorem bg_no {s:ByteArray}(h:bgOk s=false) : bgS s=ByteArray.empty∧bgF s=0∧bgL s=[]∧bgE s=10:=by simp[bgS,bgF,bgL,bgE,h]
theorem bg_yes {s:ByteArray}(h:bgOk s=true) : bgHead s=true∧bgS s=rdA s∧bgF s=(getS (rdB s):Nat)∧bgE s=0∧bgEvs s=some (bgL s,ByteArray.empty)∧bchk (bgS s) (bgF s) (bgL s)=0:=by
 have h1:bgS s=rdA s∧bgF s=(getS (rdB s):Nat)∧bgE s=0∧bgL s=((bgEvs s).map (·.1)).getD []:=by simp[bgS,bgF,bgE,bgL,h]
 obtain⟨a1,a2,a3,a4⟩:=h1;unfold bgOk at h;rw[Bool.and_eq_true] at h;obtain⟨h0,h⟩:=h;refine⟨h0,a1,a2,a3, ?_⟩;rw[a1,a2,a4];cases he:bgEvs s with
 | none=>rw[he] at h;cases h
 | some p =>
   obtain⟨l,r⟩:=p;rw[he] at h;simp only[Bool.and_eq_true,decide_eq_true_eq] at h;obtain⟨hr,hc⟩:=h;have:r=ByteArray.empty:=ByteArray.ext (Array.eq_empty_of_size_eq_zero hr);subst this;exact⟨rfl,hc⟩
theorem bg_of {s:ByteArray}{l:List RawS}(h:bgHead s=true)(he:bgEvs s=some (l,ByteArray.empty))(hc:bchk (rdA s) (getS (rdB s):Nat) l=0) : bgOk s=true:=by
 unfold bgOk;rw[h,he];simp[hc]
theorem bg_rest {s:ByteArray}{l:List RawS}{r:ByteArray}(he:bgEvs s=some (l,r))(hc:¬ r.size=0∨¬ bchk (rdA s) (getS (rdB s):Nat) l=0) : bgOk s=false:=by
 unfold bgOk;rw[he];rcases hc with h | h<;>simp[h]
theorem bg_head {s:ByteArray}(h:bgHead s=false) : bgOk s=false:=by
 unfold bgOk;rw[h];rfl
theorem bg_parse (s:ByteArray)(f:Nat)(l:List RawS)(r:ByteArray)(hs:s.size≤65535)(hf:f≤1073741824)(hl:l.length<256)(hx:∀ x∈l,EvOk x) :
  bgHead (batB s f l++r)=true∧rdA (batB s f l++r)=s∧getS (rdB (batB s f l++r))=f∧bgEvs (batB s f l++r)=some (l,r):=by
 have e:batB s f l++r=bs (be 2 s.size)++s++(bs (be 8 f)++(bs (be 1 l.length)++(evsB l++r))):=by
  unfold batB headB;simp only[ByteArray.append_assoc]
 obtain⟨a1,a2,a3⟩:=rd_put (t:=s) (r:=bs (be 8 f)++(bs (be 1 l.length)++(evsB l++r))) hs;obtain⟨g1,g2⟩:=get_put (b:=f) (by omega) (bs (be 1 l.length)++(evsB l++r));have hz:(bs (be 8 f)++(bs (be 1 l.length)++(evsB l++r))).size=9+(evsB l++r).size:=by simp only[ByteArray.size_append,bs_size,be_length];omega
 have hd:(bs (be 8 f)++(bs (be 1 l.length)++(evsB l++r))).data.toList=be 8 f++(UInt8.ofNat l.length::(evsB l++r).data.toList):=by
  simp only[ByteArray.data_append,Array.toList_append,bs,be];simp
 rw[e];refine⟨?_,a1,by rw[a2,g1], ?_⟩
 ·unfold bgHead;rw[a2,a3,g1,hz];simp only[Bool.true_and,Bool.and_eq_true,decide_eq_true_eq];omega
 ·unfold bgEvs
  have hm:bgM (bs (be 2 s.size)++s++(bs (be 8 f)++(bs (be 1 l.length)++(evsB l++r))))=l.length:=by
   unfold bgM;rw[a2,dif_pos (by omega)]
   have q:∀ (x:ByteArray) (h:8<x.size) (y:UInt8),x.data.toList[8]? = some y→(x[8]'h)=y:=fun x h y hy=>by
    have hl':8<x.data.toList.length:=by rw[data_len];exact h
    rw[List.getElem?_eq_getElem hl'] at hy;exact Option.some.inj hy
   rw[q _ _ (UInt8.ofNat l.length) (by rw[hd,List.getElem?_append_right (by rw[be_length];omega),be_length];rfl),UInt8.toNat_ofNat'];exact Nat.mod_eq_of_lt hl
  have hb:bgBody (bs (be 2 s.size)++s++(bs (be 8 f)++(bs (be 1 l.length)++(evsB l++r))))=evsB l++r:=by
   unfold bgBody;rw[a2];apply ByteArray.ext;apply Array.toList_inj.1;rw[ByteArray.data_extract,Array.toList_extract,hd,hz,List.extract,List.take_of_length_le (by rw[List.length_drop,List.length_append,be_length,List.length_cons,data_len];omega)];rw[show(9:Nat)=(be 8 f).length+1 by rw[be_length],List.drop_append,List.drop_of_length_le (by omega),Nat.add_sub_cancel_left];rfl
  rw[hm,hb];exact evsR_back hx
theorem evOk_of {s:ByteArray}{f:Int}{l:List RawS}(h:bchk s f l=0)(hb:∀ x∈l,x.b<18446744073709551616) : ∀ x∈l,EvOk x:=fun x hx=>⟨(bchk_zero.1 h).2.2.2.2.2.2 x hx,hb x hx⟩
theorem bg_back {s:ByteArray}{f:Int}{l:List RawS}(h:bchk s f l=0)(hb:∀ x∈l,x.b<18446744073709551616) :
  bgOk (batB s f.toNat l)=true∧bgS (batB s f.toNat l)=s∧bgF (batB s f.toNat l)=f∧bgL (batB s f.toNat l)=l:=by
 obtain⟨h1,h2,h3,h4,h5,h6,h7⟩:=bchk_zero.1 h;obtain⟨p1,p2,p3,p4⟩:=bg_parse s f.toNat l ByteArray.empty (by omega) (by omega) (by omega) (evOk_of h hb);rw[ByteArray.append_empty] at p1 p2 p3 p4;have hf:((f.toNat:Nat):Int)=f:=by omega
 have ho:=bg_of p1 p4 (by rw[p2,p3,hf];exact h);obtain⟨_,q1,q2,_,q4,_⟩:=bg_yes ho;refine⟨ho,by rw[q1,p2],by rw[q2,p3,hf], ?_⟩;rw[p4] at q4;simp only[Option.some.injEq,Prod.mk.injEq] at q4;exact q4.1.symm
end
section
open Go.ChangeShapes Go.WideShapes Go.ChangeAt Go.RowKit Go.Deep
def batV (s:ByteArray)(f:Int)(v:Value) : Value:=.agg #[.string s,.int .i64 f,v]
end
end Go.Proofs.YtokbfellcadkpaaGreat
namespace Go.Proofs.YtokbfellcadkpaaGreat
open Go.ChangeShapes Go.WideShapes Go.ChangeAt Go.RowKit
set_option linter.unusedVariables false
section
variable {H : Type} {enc : TypeId × Value → H} {P : Program} {w : World} {base : Nat} {spare : Nat → Bool} {held : Bool}
theorem trod_f64 {fuel:Nat}{t:TypeId}{cs:List Value}{x:DataW H × List MemPlace}(ht:P.underlying t=some (.float .f64))(h:DataW.trod enc P w base spare held fuel t cs=some x) : ∃ n,cs=[.float .f64 n]∧x=(.lit (.float .f64 n),[])∧(Lit.float .f64 n).wf=true:=by
 cases fuel with
 | zero=>simp[DataW.trod] at h
 | succ n =>
   unfold DataW.trod at h;rw[ht] at h;split at h<;>simp_all
theorem okWide_f64 {r:Reach}{b0:Nat}{t:TypeId}{v:Value}(ht:P.underlying t=some (.float .f64))(h:Value.okWide P w r b0 t v) : ∃ n,v = .float .f64 n:=by
 simp only[Value.okWide,ht,Cell.okWide] at h;cases v<;>simp_all [Cell.ok]
theorem open_f64 {r:Reach}{b0:Nat}{t:TypeId}{v:Value}{d:DataW H}{ps:List MemPlace}(ht:P.underlying t=some (.float .f64))(hval:Value.okWide P w r b0 t v)(hd:DataW.Trod enc P w base spare held t v d ps) :
  ∃ n:Nat,v = .float .f64 n∧d = .lit (.float .f64 n)∧ps=[]∧n<18446744073709551616:=by
 obtain⟨n,rfl⟩:=okWide_f64 ht hval;obtain⟨fuel,hf⟩:=hd;obtain⟨n',h,hx,hw⟩:=trod_f64 ht hf;simp[Value.cells] at h;subst h;simp only[Prod.mk.injEq] at hx;refine⟨n,rfl,hx.1,hx.2, ?_⟩;have:=of_decide_eq_true (show decide (n<2 ^ 64)=true from hw);exact this
theorem shut_f64 {t:TypeId}{n:Nat}(ht:P.underlying t=some (.float .f64))(hw:n<18446744073709551616) : DataW.Trod enc P w base spare held t (.float .f64 n) (.lit (.float .f64 n)) []:=by
 have h:(Lit.float .f64 n).wf=true:=decide_eq_true (show n<2 ^ 64 from hw);exact⟨1,by simp[DataW.trod,Value.cells,ht,h]⟩
end
end Go.Proofs.YtokbfellcadkpaaGreat
