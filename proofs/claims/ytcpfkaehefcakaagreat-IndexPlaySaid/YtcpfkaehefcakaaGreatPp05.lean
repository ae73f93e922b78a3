/- ZpEnts, ZpIntRow, ZpLvs, ZpLvLit, ZpPlActs, ZpF64In -/
import Derived.Test.YtcpfkaehefcakaaGreatPp02
import Derived.Deep.Slices
import Derived.Deep.Fields
import Derived.ChangeSame
import Derived.WideShapes
import Derived.Carry
import Derived.ProofKit
import Derived.OpenShut
import Derived.ChangeShapes
namespace Go.Proofs.YtcpfkaehefcakaaGreat
set_option maxRecDepth 100000
set_option linter.unusedVariables false
section
open Go.ChangeShapes Go.WideShapes Go.ChangeAt Go.RowKit Go.Deep
structure EntS where
 h:Nat
 v:Int
 p:Int
def entCells (x:EntS) : List Value:=[.int .u64 (x.h:Nat),.int .i64 x.v,.int .i64 x.p]
abbrev entB (x:EntS) : Value:=.agg #[.int .u64 (x.h:Nat),.int .i64 x.v,.int .i64 x.p]
structure EntOk (x:EntS) : Prop where
 h:x.h<18446744073709551616
 v0:-9223372036854775808≤x.v
 v1:x.v≤9223372036854775807
 p0:-9223372036854775808≤x.p
 p1:x.p≤9223372036854775807
theorem ent_hone : ∃ fs,Tryz.prog.underlying 44=some (.struct fs)∧oneCellFields Tryz.prog fs=true∧fs.size=3 ∧
  (fs[0]?.map Field.type=some 35∧fs[1]?.map Field.type=some 3∧fs[2]?.map Field.type=some 3) :=
 ⟨_,Tryz.underlying44,by kernel_rfl,by kernel_rfl,by kernel_rfl,by kernel_rfl,by kernel_rfl⟩
theorem ent_cells : Tryz.prog.cellsOf 44=3:=by kernel_rfl
set_option maxRecDepth 100000 in
theorem ent_in {H:Type}{enc:TypeId × Value→H}{W:World}{fuel:Nat}{cs:List Value}{y:DataW H × List MemPlace}
  (hf:DataW.trod enc Tryz.prog W 0 (fun _=>true) true fuel 44 cs=some y):∃ x,cs=entCells x∧EntOk x:=by
 obtain⟨fs,hs,hone,hsz,t0,t1,t2⟩:=ent_hone
 obtain⟨xs,n,_,rfl,hlen,hxl,hg⟩:=DataW.trod_struct hs hf
 rw[ent_cells] at hlen
 match cs,hlen with
 | [c0,c1,c2],_ =>
   have step:∀ (i:Nat) (t:TypeId),fs[i]?.map Field.type=some t→∃ yy,xs[i]? = some yy∧DataW.trod enc Tryz.prog W 0 (fun _=>true) true n t ((([c0,c1,c2]:List Value).drop i).take 1)=some yy:=by
    intro i t ht
    cases hfi:fs[i]? with
    | none=>rw[hfi] at ht;cases ht
    | some f =>
      rw[hfi] at ht
      obtain rfl:f.type=t:=by simpa using ht
      obtain⟨ho,hk⟩:=hone_of hone i f hfi
      have h1:=hg i f hfi
      rw[ho,hk] at h1
      have hil:i<xs.length:=by rw[hxl];exact(Array.getElem?_eq_some_iff.1 hfi).1
      refine⟨xs[i],List.getElem?_eq_getElem hil, ?_⟩
      rw[h1,List.getElem?_eq_getElem hil]
   obtain⟨y0,_,h0⟩:=step 0 _ t0
   obtain⟨y1,_,h1⟩:=step 1 _ t1
   obtain⟨y2,_,h2⟩:=step 2 _ t2
   obtain⟨k,e0,_,wk⟩:=DataW.trod_int Tryz.underlying35 h0
   obtain⟨i1,e1,_,w1⟩:=DataW.trod_int Tryz.underlying3 h1
   obtain⟨i2,e2,_,w2⟩:=DataW.trod_int Tryz.underlying3 h2
   obtain⟨kn,rfl,hk⟩:=u64_nat wk
   have b1:=bounds_i64 w1
   have b2:=bounds_i64 w2
   refine⟨⟨kn,i1,i2⟩, ?_,hk,b1.1,b1.2,b2.1,b2.2⟩
   have q0:c0 = .int .u64 (kn:Nat):=by simpa using e0
   have q1:c1 = .int .i64 i1:=by simpa using e1
   have q2:c2 = .int .i64 i2:=by simpa using e2
   rw[q0,q1,q2]
   rfl
def EntsIn (w:World)(v:Value)(l:List EntS) : Prop :=
 (l=[]∧∃ a c,v = .slice a 0 c)∨∃ b off cap,v = .slice (some ⟨b,off,none⟩) l.length cap∧l.length≤cap∧cap≤maxLen∧b<w.heap.size ∧
  ∀ i x,l[i]? = some x→∀ j u,(entCells x)[j]? = some u→w.cell? ⟨b,off+(i*3+j),none⟩=some u
theorem EntsIn.below {w w':World}{v:Value}{l:List EntS}{B:Nat}(h:EntsIn w v l)(hb:Below B w w')(hB:w.heap.size≤B) : EntsIn w' v l:=by
 rcases h with h | ⟨b,off,cap,hv,hl,hm,hlt,hc⟩
 ·exact Or.inl h
 ·exact Or.inr ⟨b,off,cap,hv,hl,hm,Nat.lt_of_lt_of_le hlt hb.size,fun i x hx j u hu=>(hb.cell (p:=⟨b,off+(i*3+j),none⟩) (Nat.lt_of_lt_of_le hlt hB)).trans (hc i x hx j u hu)⟩
theorem ents_laidOut : laidOutB Tryz.prog=true:=by kernel_rfl
def intV (x:Int) : Value:=.int .i64 x
theorem IntsIn.form {w:World}{v:Value}{l:List Int}(h:IntsIn w v l) : ∃ A off cap,v = .slice A l.length cap∧l.length≤maxLen ∧
  ∀ i x,l[i]? = some x→∃ b,A=some ⟨b,off,none⟩∧b<w.heap.size∧w.cell? ⟨b,off+i,none⟩=some (.int .i64 x):=by
 rcases h with⟨rfl,a,c,rfl⟩ | ⟨b,off,cap,rfl,h2,h3,h4,h5⟩
 ·exact⟨a,0,c,rfl,Nat.zero_le _,fun i x h=>by simp at h⟩
 ·exact⟨some ⟨b,off,none⟩,off,cap,rfl,by omega,fun i x hx=>⟨b,rfl,h4,h5 i x hx⟩⟩
theorem intV_one {l:List Int} : ∀ u∈l.map intV,u.oneCell'=true:=by
 intro u hu
 obtain⟨x,-,rfl⟩:=List.mem_map.1 hu
 rfl
abbrev IRow (w:World)(base:Nat)(v:Value)(l:List Int) : Prop:=w.ownsRow base 3 1 v l.length (l.map intV)
theorem IRow.nil (w:World)(base:Nat) : IRow w base (.slice none 0 0) []:=World.ownsRow_nil _ _ _ _
theorem IRow.in_ {w:World}{base:Nat}{v:Value}{l:List Int}(h:IRow w base v l) : IntsIn w v l:=by
 have h':=h
 rcases h.2 with⟨hv,h0⟩ | ⟨g,cap,cur,hv,hg,hh,hn,hm,hsz,ht⟩
 ·exact Or.inl ⟨List.length_eq_zero_iff.1 h0,none,0,hv⟩
 ·refine Or.inr ⟨g,0,cap,hv,hn,hm,(Array.getElem?_eq_some_iff.1 hh).1,fun i x hx=>?_⟩
  have hi:i<l.length:=(List.getElem?_eq_some_iff.1 hx).1
  rw[hv] at h'
  rw[Nat.zero_add]
  refine(h'.cellAt i (by omega)).trans ?_
  show(l.map intV)[i]? = _
  rw[List.getElem?_map,hx]
  rfl
theorem IRow.below {w w':World}{base B:Nat}{v:Value}{l:List Int}(h:IRow w base v l)(hb:Below B w w')(hB:w.heap.size≤B) : IRow w' base v l:=by
 refine⟨h.1, ?_⟩
 rcases h.2 with h0 | ⟨g,cap,cur,hv,hg,hh,r⟩
 ·exact Or.inl h0
 ·obtain⟨hlt,_⟩:=Array.getElem?_eq_some_iff.1 hh
  exact Or.inr ⟨g,cap,cur,hv,hg,(hb.block g (Nat.lt_of_lt_of_le hlt hB)).trans hh,r⟩
theorem IRow.block {w:World}{base:Nat}{v:Value}{l:List Int}(h:IRow w base v l) : ∀ k,v.ownBlock=some k→base≤k∧k<w.heap.size:=fun k hk=>h.lt k hk
theorem IRow.down {w:World}{base base':Nat}{v:Value}{l:List Int}(h:IRow w base v l)(hb:base'≤base) : IRow w base' v l:=by
 refine⟨h.1, ?_⟩
 rcases h.2 with h0 | ⟨g,cap,cur,hv,hg,r⟩
 ·exact Or.inl h0
 ·exact Or.inr ⟨g,cap,cur,hv,Nat.le_trans hb hg,r⟩
theorem IntsIn.src {w:World}{v:Value}{l:List Int}(h:IntsIn w v l) : SrcAt w 1 v l.length (l.map intV):=by
 refine⟨by rw[List.length_map,Nat.mul_one], ?_⟩
 rcases h with⟨rfl,a,c,rfl⟩ | ⟨b,off,cap,rfl,h2,h3,h4,h5⟩
 ·cases a with
  | none=>exact Or.inl ⟨c,rfl,rfl⟩
  | some a=>exact Or.inr ⟨a,c,rfl,fun j u hu=>by cases hu⟩
 ·refine Or.inr ⟨⟨b,off,none⟩,cap,rfl,fun j u hu=>?_⟩
  rw[List.getElem?_map] at hu
  obtain⟨x,hx,rfl⟩:=Option.map_eq_some_iff.1 hu
  have ea:(⟨b,off,none⟩:Addr).add j=⟨b,off+j,none⟩:=by unfold Addr.add;split<;>simp_all
  rw[ea]
  exact h5 j x hx
theorem int_one (w:World)(x:Int) : IntsIn (w.alloc (.cells #[.int .i64 x] 3)) (.slice (some ⟨w.heap.size,0,none⟩) 1 1) [x]:=by
 refine Or.inr ⟨w.heap.size,0,1,rfl,Nat.le_refl _,by unfold maxLen;omega,by simp,fun i y hy=>?_⟩
 match i,hy with
 | 0,hy =>
   obtain rfl:x=y:=by simpa using hy
   simp
theorem ints_append {w:World}{base:Nat}{vs vx:Value}{l m:List Int}(hown:IRow w base vs l)(hsrc:IntsIn w vx m)(hl:l.length+m.length≤1000000)(hb:base≤w.heap.size)(ty:TypeId) :
  ∃ A c w',(Builtin.append_ #[68,68] ty #[vs,vx]).run Tryz.prog w = .ok (.slice A (l.length+m.length) c) w'∧IRow w' base (.slice A (l.length+m.length) c) (l++m)∧w.grownBy w' vs.ownBlock∧((Value.slice A (l.length+m.length) c).ownBlock=vs.ownBlock∨(Value.slice A (l.length+m.length) c).ownBlock=some w.heap.size):=by
 obtain⟨i0,hi,hz0,hz1,hz2⟩:=info_parts info_int
 obtain⟨v',w',e1,e2,e3,e4⟩:=run_append_src (P:=Tryz.prog) w base 68 3 i0 _ 1 8 ty Tryz.underlying68 hi hz0 hz1 hz2 rfl (by decide) vs l.length (l.map intV) hown vx m.length (m.map intV) hsrc.src intV_one (by unfold maxLen;omega) (by omega) hb
 obtain⟨A,c,rfl,-,-,-⟩:=own_form e2
 refine⟨A,c,w',e1, ?_,e3,e4⟩
 unfold IRow
 rw[List.map_append,List.length_append]
 exact e2
theorem igrown_below {B:Nat}{w w':World}{v:Value}(h:w.grownBy w' v.ownBlock)(hB:B≤w.heap.size)(hv:∀ k,v.ownBlock=some k→B≤k) : Below B w w':=⟨h.os,h.tape,h.output,h.size,fun k hk=>h.block k (by omega) (fun e=>by have:=hv k e.symm;omega)⟩
theorem isliced_nil (a:Option Addr)(c:Nat) : ∃ A c',sliced a 0 0 c 1 = .slice A 0 c':=by unfold sliced;exact⟨_,_,rfl⟩
theorem ints_to {w:World}{v:Value}{l:List Int}{m:Nat}(h:IntsIn w v l)(hm:m≤l.length) : ∃ A c,
  (∀ W,(Instr.slice 68 v none (some (.int .i64 (m:Nat))) none).run Tryz.prog W = .ok (.slice A m c) W)∧∀ B W,w.heap.size≤B→Below B w W→IntsIn W (.slice A m c) (l.take m):=by
 have hz:∀ W,(sizeOf (Tryz.prog.elem 68)).run Tryz.prog W = .ok 1 W:=fun W=>by simp[go_sem]
 rcases h with⟨rfl,a,c,rfl⟩ | ⟨b,off,cap,rfl,h2,h3,h4,h5⟩
 ·obtain rfl:m=0:=by simpa using hm
  obtain⟨A,c',e⟩:=isliced_nil a c
  refine⟨A,c',fun W=>?_,fun B W _ _=>Or.inl ⟨by simp,A,c',rfl⟩⟩
  rw[run_slice_h W _ a 0 c Tryz.underlying68 .i64 _ (by omega) (by omega),hz]
  show Result.ok (sliced _ _ _ _ _) W=_
  rw[Int.toNat_natCast,e]
 ·have hlen:(l.take m).length=m:=by rw[List.length_take];omega
  by_cases h0:m=0
  ·subst h0
   have hs:∃ A,sliced (some (⟨b,off,none⟩:Addr)) 0 0 cap 1 = .slice A 0 cap:=by unfold sliced;exact⟨_,rfl⟩
   obtain⟨A,e⟩:=hs
   refine⟨A,cap,fun W=>?_,fun B W _ _=>Or.inl ⟨by simp,A,cap,rfl⟩⟩
   rw[run_slice_h W _ _ _ cap Tryz.underlying68 .i64 _ (by omega) (by omega),hz]
   show Result.ok (sliced _ _ _ _ _) W=_
   rw[Int.toNat_natCast,e]
  ·have e:sliced (some (⟨b,off,none⟩:Addr)) 0 m cap 1 = .slice (some ⟨b,off,none⟩) m cap:=by
    unfold sliced
    rw[if_neg (by omega)]
    simp[Addr.add]
   refine⟨_,cap,fun W=>?_,fun B W hB hb=>Or.inr ⟨b,off,cap,by rw[hlen],by omega,h3,Nat.lt_of_lt_of_le h4 hb.size,fun i x hx=>?_⟩⟩
   ·rw[run_slice_h W _ _ _ cap Tryz.underlying68 .i64 _ (by omega) (by omega),hz]
    show Result.ok (sliced _ _ _ _ _) W=_
    rw[Int.toNat_natCast,e]
   ·have hi:i<m:=by have:=(List.getElem?_eq_some_iff.1 hx).1;rw[hlen] at this;exact this
    rw[List.getElem?_take,if_pos hi] at hx
    exact(hb.cell (p:=⟨b,off+i,none⟩) (Nat.lt_of_lt_of_le h4 hB)).trans (h5 i x hx)
theorem ints_isnil (A:Option Addr)(n c:Nat)(w:World) : (binOp .eql 68 (.slice A n c) (.slice none 0 0)).run Tryz.prog w = .ok (.bool A.isNone) w:=by
 have he:=run_equal_slice_nil (P:=Tryz.prog) w 68 3 A n c Tryz.underlying68
 simp only[binOp]
 simp[he]
def IntsOut (w:World)(l:List Int)(e:Ending)(w':World) : Prop:=∃ A c,e = .returned (.slice A l.length c)∧IRow w' w.heap.size (.slice A l.length c) l∧Below w.heap.size w w'
theorem iclone_any (v:Value)(l:List Int)(w:World)(h:IntsIn w v l)(hl:l.length≤500000) : Calls Tryz.prog 81 #[v] w (IntsOut w l):=by
 obtain⟨A,off,cap,rfl,-,-⟩:=h.form
 cases A with
 | none =>
   have hn:l=[]:=by
    rcases h with⟨e,_⟩ | ⟨b,off',cap',e,_⟩
    ·exact e
    ·cases e
   subst hn
   have hq:=fun W=>ints_isnil none 0 cap W
   clear h hl
   go_enter Tryz.func81,Tryz.ntmps81
   go_wp2
   go_ret
   exact⟨none,0,rfl,IRow.nil _ _,Below.refl _ _⟩
 | some a =>
   have hb:=(Below.refl w.heap.size w).alloc (Nat.le_refl _) (.cells #[] 3)
   have hown:IRow (w.alloc (.cells #[] 3)) w.heap.size (.slice (some ⟨w.heap.size,0,none⟩) 0 0) []:=World.ownsRow_made w #[] 0 (Nat.le_refl _) (Nat.zero_le _) rfl
   have h1:=h.below hb (Nat.le_refl _)
   obtain⟨A',c',w',e1,e2,e3,e4⟩:=ints_append hown h1 (by simp;omega) (by simp) 68
   have hT:=hb.trans (igrown_below e3 (B:=w.heap.size) (by simp) (fun k hk=>by simp[Value.ownBlock] at hk;omega))
   have HT:=Lib.hid hT
   rw[List.nil_append] at e2
   have hz:([]:List Int).length+l.length=l.length:=by simp
   rw[hz] at e1 e2
   have HK:=Lib.hid e2
   clear h hl hb hown h1 e2 e3 e4 hT hz
   obtain⟨m,hm⟩:∃ m,m=l.length:=⟨_,rfl⟩
   have HM:=Lib.hid hm
   rw[← hm] at e1 HK ⊢
   clear hm
   have HE:=Lib.hid e1
   have hq:=fun W=>ints_isnil (some a) m cap W
   clear e1
   go_enter Tryz.func81,Tryz.ntmps81
   go_wp2_with (first | (at_builtin;refine wpList_append_two rfl _ _ rfl rfl rfl HE.out ?_) | fail)
   go_ret
   exact⟨A',c',by rw[← HM.out];rfl,by rw[← HM.out];exact HK.out,HT.out⟩
structure LvS where
 v:Value
 l:List Int
abbrev lvl (L:List LvS) : List (List Int):=L.map LvS.l
abbrev lvals (L:List LvS) : List Value:=L.map LvS.v
def LvEach (w:World)(L:List LvS) : Prop:=∀ x∈L,IntsIn w x.v x.l
def LvsAt (w:World)(v:Value)(L:List LvS) : Prop :=
 (L=[]∧∃ a c,v = .slice a 0 c)∨∃ b off cap,v = .slice (some ⟨b,off,none⟩) L.length cap∧L.length≤cap∧cap≤maxLen∧b<w.heap.size∧∀ i x,L[i]? = some x→w.cell? ⟨b,off+i,none⟩=some x.v
def LvsIn (w:World)(v:Value)(L:List LvS) : Prop:=LvsAt w v L∧LvEach w L
theorem LvEach.below {w w':World}{L:List LvS}{B:Nat}(h:LvEach w L)(hb:Below B w w')(hB:w.heap.size≤B) : LvEach w' L:=fun x hx=>(h x hx).below hb hB
theorem LvsAt.below {w w':World}{v:Value}{L:List LvS}{B:Nat}(h:LvsAt w v L)(hb:Below B w w')(hB:w.heap.size≤B) : LvsAt w' v L:=by
 rcases h with h | ⟨b,off,cap,hv,hl,hm,hlt,hc⟩
 ·exact Or.inl h
 ·exact Or.inr ⟨b,off,cap,hv,hl,hm,Nat.lt_of_lt_of_le hlt hb.size,fun i x hx=>(hb.cell (p:=⟨b,off+i,none⟩) (Nat.lt_of_lt_of_le hlt hB)).trans (hc i x hx)⟩
theorem LvsIn.below {w w':World}{v:Value}{L:List LvS}{B:Nat}(h:LvsIn w v L)(hb:Below B w w')(hB:w.heap.size≤B) : LvsIn w' v L:=⟨h.1.below hb hB,h.2.below hb hB⟩
theorem LvsAt.form {w:World}{v:Value}{L:List LvS}(h:LvsAt w v L) : ∃ A off cap,v = .slice A L.length cap∧L.length≤maxLen ∧
  ∀ i x,L[i]? = some x→∃ b,A=some ⟨b,off,none⟩∧b<w.heap.size∧w.cell? ⟨b,off+i,none⟩=some x.v:=by
 rcases h with⟨rfl,a,c,rfl⟩ | ⟨b,off,cap,rfl,h2,h3,h4,h5⟩
 ·exact⟨a,0,c,rfl,Nat.zero_le _,fun i x h=>by simp at h⟩
 ·exact⟨some ⟨b,off,none⟩,off,cap,rfl,by omega,fun i x hx=>⟨b,rfl,h4,h5 i x hx⟩⟩
theorem LvEach.one {w:World}{L:List LvS}(h:LvEach w L) : ∀ u∈lvals L,u.oneCell'=true:=by
 intro u hu
 obtain⟨x,hx,rfl⟩:=List.mem_map.1 hu
 obtain⟨A,off,cap,e,-,-⟩:=(h x hx).form
 rw[e]
 rfl
abbrev LvRow (w:World)(base:Nat)(v:Value)(L:List LvS) : Prop:=w.ownsRow base 68 1 v L.length (lvals L)
theorem LvRow.nil (w:World)(base:Nat) : LvRow w base (.slice none 0 0) []:=World.ownsRow_nil _ _ _ _
theorem LvRow.at_ {w:World}{base:Nat}{v:Value}{L:List LvS}(h:LvRow w base v L) : LvsAt w v L:=by
 have h':=h
 rcases h.2 with⟨hv,h0⟩ | ⟨g,cap,cur,hv,hg,hh,hn,hm,hsz,ht⟩
 ·exact Or.inl ⟨List.length_eq_zero_iff.1 h0,none,0,hv⟩
 ·refine Or.inr ⟨g,0,cap,hv,hn,hm,(Array.getElem?_eq_some_iff.1 hh).1,fun i x hx=>?_⟩
  have hi:i<L.length:=(List.getElem?_eq_some_iff.1 hx).1
  rw[hv] at h'
  rw[Nat.zero_add]
  refine(h'.cellAt i (by omega)).trans ?_
  show(L.map LvS.v)[i]? = _
  rw[List.getElem?_map,hx]
  rfl
theorem LvRow.in_ {w:World}{base:Nat}{v:Value}{L:List LvS}(h:LvRow w base v L)(he:LvEach w L) : LvsIn w v L:=⟨h.at_,he⟩
theorem LvRow.below {w w':World}{base B:Nat}{v:Value}{L:List LvS}(h:LvRow w base v L)(hb:Below B w w')(hB:w.heap.size≤B) : LvRow w' base v L:=by
 refine⟨h.1, ?_⟩
 rcases h.2 with h0 | ⟨g,cap,cur,hv,hg,hh,r⟩
 ·exact Or.inl h0
 ·obtain⟨hlt,_⟩:=Array.getElem?_eq_some_iff.1 hh
  exact Or.inr ⟨g,cap,cur,hv,hg,(hb.block g (Nat.lt_of_lt_of_le hlt hB)).trans hh,r⟩
theorem LvRow.block {w:World}{base:Nat}{v:Value}{L:List LvS}(h:LvRow w base v L) : ∀ k,v.ownBlock=some k→base≤k:=by
 intro k hk
 rcases h.2 with⟨rfl,_⟩ | ⟨g,cap,cur,rfl,hg,_⟩
 ·cases hk
 ·cases hk;exact hg
theorem LvRow.down {w:World}{base base':Nat}{v:Value}{L:List LvS}(h:LvRow w base v L)(hb:base'≤base) : LvRow w base' v L:=by
 refine⟨h.1, ?_⟩
 rcases h.2 with h0 | ⟨g,cap,cur,hv,hg,r⟩
 ·exact Or.inl h0
 ·exact Or.inr ⟨g,cap,cur,hv,Nat.le_trans hb hg,r⟩
theorem LvRow.some_ {w:World}{base n c:Nat}{A:Option Addr}{L:List LvS}(h:LvRow w base (.slice A n c) L)(hn:0<L.length) : ∃ g,A=some ⟨g,0,none⟩∧base≤g∧g<w.heap.size∧n=L.length:=by
 rcases h.2 with⟨hv,h0⟩ | ⟨g,cap,cur,hv,hg,hh,_⟩
 ·omega
 ·obtain⟨rfl,rfl,-⟩:=Value.slice.inj hv
  exact⟨g,rfl,hg,(Array.getElem?_eq_some_iff.1 hh).1,rfl⟩
theorem LvRow.cell {w:World}{base g n c i:Nat}{L:List LvS}{x:LvS}(h:LvRow w base (.slice (some ⟨g,0,none⟩) n c) L)(hn:n=L.length)(hx:L[i]? = some x) : w.cell? ⟨g,i,none⟩=some x.v∧w.frozen? ⟨g,i,none⟩=false:=by
 subst hn
 have hi:i<L.length:=(List.getElem?_eq_some_iff.1 hx).1
 refine⟨(h.cellAt i (by omega)).trans ?_,h.frozenAt i⟩
 show(L.map LvS.v)[i]? = _
 rw[List.getElem?_map,hx]
 rfl
theorem LvRow.put {w:World}{base g n c i:Nat}{L:List LvS}(h:LvRow w base (.slice (some ⟨g,0,none⟩) n c) L)(hn:n=L.length)(x:LvS) : LvRow (w.setCell ⟨g,i,none⟩ x.v) base (.slice (some ⟨g,0,none⟩) n c) (L.set i x):=by
 subst hn
 have h1:=(h.stored i x.v).1
 unfold LvRow lvals
 rw[List.length_set,List.map_set]
 exact h1
theorem info_lv : (Tryz.prog.info? 68).map (fun i=>(i.zero,i.size,i.bytes))=some (some (.slice none 0 0),1,24):=by kernel_rfl
theorem LvsAt.src {w:World}{v:Value}{L:List LvS}(h:LvsAt w v L) : SrcAt w 1 v L.length (lvals L):=by
 refine⟨by unfold lvals;rw[List.length_map,Nat.mul_one], ?_⟩
 rcases h with⟨rfl,a,c,rfl⟩ | ⟨b,off,cap,rfl,h2,h3,h4,h5⟩
 ·cases a with
  | none=>exact Or.inl ⟨c,rfl,rfl⟩
  | some a=>exact Or.inr ⟨a,c,rfl,fun j u hu=>by cases hu⟩
 ·refine Or.inr ⟨⟨b,off,none⟩,cap,rfl,fun j u hu=>?_⟩
  unfold lvals at hu
  rw[List.getElem?_map] at hu
  obtain⟨x,hx,rfl⟩:=Option.map_eq_some_iff.1 hu
  have ea:(⟨b,off,none⟩:Addr).add j=⟨b,off+j,none⟩:=by unfold Addr.add;split<;>simp_all
  rw[ea]
  exact h5 j x hx
theorem lvs_append {w:World}{base:Nat}{vs vx:Value}{L M:List LvS}(hown:LvRow w base vs L)(hsrc:LvsAt w vx M)(h1:∀ u∈lvals M,u.oneCell'=true)(hl:L.length+M.length≤1000000)(hb:base≤w.heap.size)(ty:TypeId) :
  ∃ A c w',(Builtin.append_ #[36,36] ty #[vs,vx]).run Tryz.prog w = .ok (.slice A (L.length+M.length) c) w'∧LvRow w' base (.slice A (L.length+M.length) c) (L++M)∧w.grownBy w' vs.ownBlock∧((Value.slice A (L.length+M.length) c).ownBlock=vs.ownBlock∨(Value.slice A (L.length+M.length) c).ownBlock=some w.heap.size):=by
 obtain⟨i0,hi,hz0,hz1,hz2⟩:=info_parts info_lv
 obtain⟨v',w',e1,e2,e3,e4⟩:=run_append_src (P:=Tryz.prog) w base 36 68 i0 _ 1 24 ty Tryz.underlying36 hi hz0 hz1 hz2 rfl (by decide) vs L.length (lvals L) hown vx M.length (lvals M) hsrc.src h1 (by unfold maxLen;omega) (by omega) hb
 obtain⟨A,c,rfl,-,-,-⟩:=own_form e2
 refine⟨A,c,w',e1, ?_,e3,e4⟩
 unfold LvRow lvals
 rw[List.map_append,List.length_append]
 exact e2
theorem lv_ne : (68:TypeId)≠3:=by decide
theorem LvRow.grown {w w':World}{base base':Nat}{u v:Value}{L:List LvS}{l:List Int}(h:LvRow w base v L)(hr:IRow w base' u l)(hg:w.grownBy w' u.ownBlock) : LvRow w' base v L :=
 own_touch h (F:=u.ownBlock.toList) (Touch.grown (Touch.refl _ w) hg (fun k hk=>Or.inl (by rw[hk];simp))) (fun b hb hm=>own_own_ne hr h lv_ne.symm b hb (by simpa using hm))
theorem IRow.far_l {w:World}{base base' g n c i:Nat}{v x:Value}{L:List LvS}{l:List Int}(h:IRow w base v l)(hr:LvRow w base' (.slice (some ⟨g,0,none⟩) n c) L) : IRow (w.setCell ⟨g,i,none⟩ x) base v l :=
 own_far h (fun hb=>own_own_ne hr h lv_ne g hb rfl) x
def LvOwn (w:World)(base:Nat)(M:List LvS) : Prop:=∀ x∈M,IRow w base x.v x.l
theorem LvOwn.each {w:World}{base:Nat}{M:List LvS}(h:LvOwn w base M) : LvEach w M:=fun x hx=>IRow.in_ (h x hx)
theorem LvOwn.below {w w':World}{base B:Nat}{M:List LvS}(h:LvOwn w base M)(hb:Below B w w')(hB:w.heap.size≤B) : LvOwn w' base M:=fun x hx=>IRow.below (h x hx) hb hB
theorem LvOwn.down {w:World}{base base':Nat}{M:List LvS}(h:LvOwn w base M)(hb:base'≤base) : LvOwn w base' M:=fun x hx=>IRow.down (h x hx) hb
theorem LvOwn.take {w:World}{base:Nat}{M:List LvS}(h:LvOwn w base M)(k:Nat) : LvOwn w base (M.take k):=fun x hx=>h x (List.mem_of_mem_take hx)
def LvApart (M:List LvS) : Prop:=∀ (i j:Nat) (x y:LvS),M[i]? = some x→M[j]? = some y→i≠j→∀ g,x.v.ownBlock=some g→y.v.ownBlock≠some g
theorem LvApart.set {M:List LvS}{k:Nat}{x:LvS}(h:LvApart M)(hx:∀ g,x.v.ownBlock=some g→∀ j y,j≠k→M[j]? = some y→y.v.ownBlock≠some g) : LvApart (M.set k x):=by
 intro i j a b ha hb hij g hg
 rw[List.getElem?_set] at ha hb
 split at ha
 ·rename_i e
  subst e
  split at ha
  ·obtain rfl:x=a:=by simpa using ha
   rw[if_neg hij] at hb
   exact hx g hg j b (fun e=>hij e.symm) hb
  ·cases ha
 ·rename_i e
  split at hb
  ·rename_i e2
   subst e2
   split at hb
   ·obtain rfl:x=b:=by simpa using hb
    intro hbg
    exact hx g hbg i a (fun e3=>e e3.symm) ha hg
   ·cases hb
  ·exact h i j a b ha hb hij g hg
theorem lvl_at {L:List LvS}{k:Nat}{y:LvS}(h:L[k]? = some y) : (lvl L)[k]? = some y.l:=by unfold lvl;rw[List.getElem?_map,h];rfl
theorem lvl_length (L:List LvS) : (lvl L).length=L.length:=List.length_map _
theorem lvl_set (L:List LvS)(i:Nat)(x:LvS) : lvl (L.set i x)=(lvl L).set i x.l:=List.map_set
theorem lvl_take (L:List LvS)(k:Nat) : lvl (L.take k)=(lvl L).take k:=List.map_take
theorem lvl_getD {L:List LvS}{k:Nat}{y:LvS}(h:L[k]? = some y) : (lvl L).getD k []=y.l:=by rw[List.getD_eq_getElem?_getD,lvl_at h];rfl
def LvsNew (w:World)(base:Nat)(v:Value)(R:LvL) : Prop:=∃ M,LvRow w base v M∧LvOwn w base M∧lvl M=R
theorem LvsNew.down {w:World}{base base':Nat}{v:Value}{R:LvL}(h:LvsNew w base v R)(hb:base'≤base) : LvsNew w base' v R:=by
 obtain⟨M,h1,h2,h3⟩:=h
 exact⟨M,LvRow.down h1 hb,h2.down hb,h3⟩
theorem LvsNew.nil (w:World)(base:Nat) : LvsNew w base (.slice none 0 0) []:=⟨[],LvRow.nil _ _,fun x hx=>(by cases hx),rfl⟩
def LvsHas (w:World)(v:Value)(R:LvL) : Prop:=∃ M,LvsIn w v M∧lvl M=R
theorem LvsNew.has {w:World}{base:Nat}{v:Value}{R:LvL}(h:LvsNew w base v R) : LvsHas w v R:=by
 obtain⟨M,h1,h2,h3⟩:=h
 exact⟨M,LvRow.in_ h1 h2.each,h3⟩
theorem LvsHas.below {w w':World}{v:Value}{R:LvL}{B:Nat}(h:LvsHas w v R)(hb:Below B w w')(hB:w.heap.size≤B) : LvsHas w' v R:=by
 obtain⟨M,h1,h2⟩:=h
 exact⟨M,h1.below hb hB,h2⟩
theorem LvsHas.form {w:World}{v:Value}{R:LvL}(h:LvsHas w v R) : ∃ A off cap,v = .slice A R.length cap∧R.length≤maxLen ∧
  ∀ i x,R[i]? = some x→∃ b u,A=some ⟨b,off,none⟩∧b<w.heap.size∧w.cell? ⟨b,off+i,none⟩=some u∧IntsIn w u x:=by
 obtain⟨M,h1,rfl⟩:=h
 obtain⟨A,off,cap,hv,hl,hc⟩:=h1.1.form
 rw[lvl_length]
 refine⟨A,off,cap,hv,hl,fun i x hx=>?_⟩
 unfold lvl at hx
 rw[List.getElem?_map] at hx
 obtain⟨y,hy,rfl⟩:=Option.map_eq_some_iff.1 hx
 obtain⟨b,e1,e2,e3⟩:=hc i y hy
 exact⟨b,y.v,e1,e2,e3,h1.2 y (List.mem_of_getElem? hy)⟩
theorem LvsHas.nil (w:World)(A:Option Addr)(c:Nat) : LvsHas w (.slice A 0 c) []:=⟨[],⟨Or.inl ⟨rfl,A,c,rfl⟩,fun x hx=>(by cases hx)⟩,rfl⟩
end
section
open Go.RowKit
theorem ints_lit (w:World)(ns:List Int)(hm:ns.length≤10000) : IntsIn (w.alloc (.cells (ns.map intV).toArray 3)) (.slice (some ⟨w.heap.size,0,none⟩) ns.length ns.length) ns :=
 Or.inr ⟨w.heap.size,0,ns.length,rfl,Nat.le_refl _,by unfold maxLen;omega,by simp,fun i x hx=>by
  rw[Nat.zero_add]
  refine(Blok.new w 3 _).cell i |>.trans ?_
  rw[List.getElem?_toArray,List.getElem?_map,hx]
  rfl⟩
theorem lvs_lit (w:World)(M:List LvS)(n:Nat)(hn:M.length=n)(hm:n≤10000)(he:LvEach w M) : LvsHas (w.alloc (.cells (lvals M).toArray 68)) (.slice (some ⟨w.heap.size,0,none⟩) n n) (lvl M):=by
 subst hn
 exact⟨M,⟨Or.inr ⟨w.heap.size,0,M.length,rfl,Nat.le_refl _,by unfold maxLen;omega,by simp,fun i x hx=>by
  rw[Nat.zero_add]
  refine(Blok.new w 68 _).cell i |>.trans ?_
  rw[List.getElem?_toArray]
  unfold lvals
  rw[List.getElem?_map,hx]
  rfl⟩,he.below ((Below.refl _ _).alloc (Nat.le_refl _) _) (Nat.le_refl _)⟩,rfl⟩
end
section
open Go.ChangeShapes Go.WideShapes Go.ChangeAt Go.RowKit Go.Deep
structure PAct where
 k:Nat
 e:EntS
 a:Int
 b:Int
def pactCells (x:PAct) : List Value:=[.int .u8 (x.k:Nat),.int .u64 (x.e.h:Nat),.int .i64 x.e.v,.int .i64 x.e.p,.int .i64 x.a,.int .i64 x.b]
abbrev pactB (x:PAct) : Value:=.agg #[.int .u8 (x.k:Nat),.int .u64 (x.e.h:Nat),.int .i64 x.e.v,.int .i64 x.e.p,.int .i64 x.a,.int .i64 x.b]
structure PActOk (x:PAct) : Prop where
 k:x.k<256
 e:EntOk x.e
 a0:-9223372036854775808≤x.a
 a1:x.a≤9223372036854775807
 b0:-9223372036854775808≤x.b
 b1:x.b≤9223372036854775807
theorem pact_fields : ∃ fs,Tryz.prog.underlying 46=some (.struct fs)∧fs.size=4 ∧
  (fs[0]?.map (fun f=>(f.type,f.offset,Tryz.prog.cellsOf f.type))=some (5,0,1)∧fs[1]?.map (fun f=>(f.type,f.offset,Tryz.prog.cellsOf f.type))=some (44,1,3)∧fs[2]?.map (fun f=>(f.type,f.offset,Tryz.prog.cellsOf f.type))=some (3,4,1)∧fs[3]?.map (fun f=>(f.type,f.offset,Tryz.prog.cellsOf f.type))=some (3,5,1)) :=
 ⟨_,Tryz.underlying46,by kernel_rfl,by kernel_rfl,by kernel_rfl,by kernel_rfl,by kernel_rfl⟩
theorem pact_cells : Tryz.prog.cellsOf 46=6:=by kernel_rfl
set_option maxRecDepth 100000 in
theorem pact_in {H:Type}{enc:TypeId × Value→H}{W:World}{fuel:Nat}{cs:List Value}{y:DataW H × List MemPlace}
  (hf:DataW.trod enc Tryz.prog W 0 (fun _=>true) true fuel 46 cs=some y):∃ x,cs=pactCells x∧PActOk x:=by
 obtain⟨fs,hs,hsz,t0,t1,t2,t3⟩:=pact_fields
 obtain⟨xs,n,_,rfl,hlen,hxl,hg⟩:=DataW.trod_struct hs hf
 rw[pact_cells] at hlen
 match cs,hlen with
 | [c0,c1,c2,c3,c4,c5],_ =>
   have step:∀ (i:Nat) (t:TypeId) (o k:Nat),fs[i]?.map (fun f=>(f.type,f.offset,Tryz.prog.cellsOf f.type))=some (t,o,k)→∃ yy,DataW.trod enc Tryz.prog W 0 (fun _=>true) true n t ((([c0,c1,c2,c3,c4,c5]:List Value).drop o).take k)=some yy:=by
    intro i t o k ht
    cases hfi:fs[i]? with
    | none=>rw[hfi] at ht;cases ht
    | some f =>
      rw[hfi] at ht
      simp only[Option.map_some,Option.some.injEq,Prod.mk.injEq] at ht
      obtain⟨rfl,rfl,rfl⟩:=ht
      have h1:=hg i f hfi
      have hil:i<xs.length:=by rw[hxl];exact(Array.getElem?_eq_some_iff.1 hfi).1
      exact⟨xs[i],by rw[h1,List.getElem?_eq_getElem hil]⟩
   obtain⟨y0,h0⟩:=step 0 _ _ _ t0
   obtain⟨y1,h1⟩:=step 1 _ _ _ t1
   obtain⟨y2,h2⟩:=step 2 _ _ _ t2
   obtain⟨y3,h3⟩:=step 3 _ _ _ t3
   obtain⟨k,e0,_,wk⟩:=DataW.trod_int Tryz.underlying5 h0
   obtain⟨x,e1,ok1⟩:=ent_in h1
   obtain⟨i2,e2,_,w2⟩:=DataW.trod_int Tryz.underlying3 h2
   obtain⟨i3,e3,_,w3⟩:=DataW.trod_int Tryz.underlying3 h3
   obtain⟨kn,rfl,hk⟩:=u8_nat wk
   have b2:=bounds_i64 w2
   have b3:=bounds_i64 w3
   refine⟨⟨kn,x,i2,i3⟩, ?_,hk,ok1,b2.1,b2.2,b3.1,b3.2⟩
   have q0:c0 = .int .u8 (kn:Nat):=by simpa using e0
   have q1:[c1,c2,c3]=entCells x:=e1
   have q2:c4 = .int .i64 i2:=by simpa using e2
   have q3:c5 = .int .i64 i3:=by simpa using e3
   unfold entCells at q1
   simp only[List.cons.injEq,and_true] at q1
   obtain⟨r1,r2,r3⟩:=q1
   rw[q0,q2,q3,r1,r2,r3]
   rfl
def PActsIn (w:World)(v:Value)(l:List PAct) : Prop :=
 (l=[]∧∃ a c,v = .slice a 0 c)∨∃ b off cap,v = .slice (some ⟨b,off,none⟩) l.length cap∧l.length≤cap∧cap≤maxLen∧b<w.heap.size ∧
  ∀ i x,l[i]? = some x→∀ j u,(pactCells x)[j]? = some u→w.cell? ⟨b,off+(i*6+j),none⟩=some u
theorem pacts_of {p:Nat→PAct→Prop} : ∀ n,(∀ i,i<n→∃ x,p i x)→∃ l:List PAct,l.length=n∧∀ i x,l[i]? = some x→p i x
 | 0,_=>⟨[],rfl,fun i x h=>by simp at h⟩
 | n+1,h=>by
   obtain⟨l,hl,hp⟩:=pacts_of n (fun i hi=>h i (by omega))
   obtain⟨x,hx⟩:=h n (by omega)
   refine⟨l++[x],by rw[List.length_append,hl];rfl,fun i y hy=>?_⟩
   rcases Nat.lt_or_ge i n with c | c
   ·rw[List.getElem?_append_left (by omega)] at hy
    exact hp i y hy
   ·rw[List.getElem?_append_right (by omega),hl] at hy
    have:i=n:=by
     have:=(List.getElem?_eq_some_iff.1 hy).1
     simp at this
     omega
    subst this
    rw[Nat.sub_self] at hy
    obtain rfl:x=y:=by simpa using hy
    exact hx
set_option maxRecDepth 100000 in
theorem pacts_in {H:Type}{enc:TypeId × Value→H}{W:World}{v:Value}{d:DataW H}{p:List MemPlace}(hval:∃ a len cap,v = .slice a len cap)
  (hd:DataW.Trod enc Tryz.prog W 0 (fun _=>true) true 22 v d p) (hlt:∀ x∈p,x.block<W.heap.size):∃ l,PActsIn W v l∧∀ x∈l,PActOk x:=by
 obtain⟨a0,len,cap,rfl⟩:=hval
 obtain⟨fuel,hf⟩:=hd
 rcases open_slice Tryz.underlying22 hf with⟨hcs,hx⟩ | ⟨a,len',cap',m,n,D,Pl,hcs,_,hl,hm,hmm,hx,hi⟩
 ·simp[Value.cells] at hcs
  obtain⟨rfl,rfl,rfl⟩:=hcs
  exact⟨[],Or.inl ⟨rfl,_,_,rfl⟩,fun x hx=>by cases hx⟩
 ·simp[Value.cells] at hcs
  obtain⟨rfl,rfl,rfl⟩:=hcs
  simp only[Prod.mk.injEq] at hx
  obtain⟨rfl,rfl⟩:=hx
  simp only[if_true] at hmm
  rw[pact_cells] at hi hlt
  by_cases hl0:len=0
  ·subst hl0
   exact⟨[],Or.inl ⟨rfl,_,_,rfl⟩,fun x hx=>by cases hx⟩
  ·have each:∀ i,i<len→∃ x,PActOk x∧∀ j u,(pactCells x)[j]? = some u→W.cell? (a.add (i*6+j))=some u:=by
    intro i hil
    obtain⟨cs',hc,ht⟩:=hi i (by omega)
    obtain⟨_,hcl,hat⟩:=World.cells?_some hc
    obtain⟨x,rfl,hok⟩:=pact_in ht
    refine⟨x,hok,fun j u hu=>?_⟩
    have hj:j<6:=by have:=(List.getElem?_eq_some_iff.1 hu).1;rw[hcl] at this;exact this
    rw[← Go.Deep.add_add,hat j hj]
    exact hu
   obtain⟨b,off,spot⟩:=a
   have hspot:spot=none:=by
    obtain⟨x,_,hx⟩:=each 0 (by omega)
    simpa[Addr.add] using World.cell?_spot (hx 0 _ rfl)
   subst hspot
   obtain⟨l,hll,hlp⟩:=pacts_of len each
   have hbW:b<W.heap.size:=hlt (.cell b off) (List.mem_append_left _ (MemPlace.mem_row.2 ⟨0,by omega,by simp⟩))
   refine⟨l,Or.inr ⟨b,off,cap,by rw[hll],by omega,hm,hbW,fun i x hx j u hu=>?_⟩,fun x hx=>?_⟩
   ·have h:=(hlp i x hx).2 j u hu
    have ea:(⟨b,off,none⟩:Addr).add (i*6+j)=⟨b,off+(i*6+j),none⟩:=by unfold Addr.add;split<;>simp_all
    rw[ea] at h
    exact h
   ·obtain⟨i,hi⟩:=List.getElem?_of_mem hx
    exact(hlp i x hi).1
theorem PActsIn.form {w:World}{v:Value}{l:List PAct}(h:PActsIn w v l) : ∃ A off cap,v = .slice A l.length cap∧l.length≤maxLen ∧
  ∀ i x,l[i]? = some x→∃ b,A=some ⟨b,off,none⟩∧b<w.heap.size∧w.cell? ⟨b,off+i*6,none⟩=some (.int .u8 (x.k:Nat))∧w.cell? ⟨b,off+i*6+1,none⟩=some (.int .u64 (x.e.h:Nat))∧w.cell? ⟨b,off+i*6+2,none⟩=some (.int .i64 x.e.v) ∧
   w.cell? ⟨b,off+i*6+3,none⟩=some (.int .i64 x.e.p)∧w.cell? ⟨b,off+i*6+4,none⟩=some (.int .i64 x.a)∧w.cell? ⟨b,off+i*6+5,none⟩=some (.int .i64 x.b):=by
 rcases h with⟨rfl,a,c,rfl⟩ | ⟨b,off,cap,rfl,h2,h3,h4,h5⟩
 ·exact⟨a,0,c,rfl,Nat.zero_le _,fun i x h=>by simp at h⟩
 ·exact⟨some ⟨b,off,none⟩,off,cap,rfl,by omega,fun i x hx=>⟨b,rfl,h4,h5 i x hx 0 _ rfl,h5 i x hx 1 _ rfl,h5 i x hx 2 _ rfl,h5 i x hx 3 _ rfl,h5 i x hx 4 _ rfl,h5 i x hx 5 _ rfl⟩⟩
theorem pacts_out {H:Type}{enc:TypeId × Value→H}{W W':World}{v:Value}{d:DataW H}{p:List MemPlace}
  (hd:DataW.Trod enc Tryz.prog W 0 (fun _=>true) true 22 v d p) (hlt:∀ x∈p,x.block<W.heap.size) (hb:Below W.heap.size W W') :
  DataW.Trod enc Tryz.prog W' 0 (fun b=>decide (b<W.heap.size)) true 22 v d p :=
 Below.trod ents_laidOut (by kernel_rfl) (of_decide_eq_true (by kernel_rfl)) hd hb hlt
end
end Go.Proofs.YtcpfkaehefcakaaGreat
namespace Go.Proofs.YtcpfkaehefcakaaGreat
open Go.ChangeShapes Go.WideShapes Go.ChangeAt Go.RowKit
set_option linter.unusedVariables false
section
variable {H : Type} {enc : TypeId × Value → H} {P : Program} {w : World} {base : Nat} {spare : Nat → Bool} {held : Bool}
theorem trod_f64 {fuel:Nat}{t:TypeId}{cs:List Value}{x:DataW H × List MemPlace}(ht:P.underlying t=some (.float .f64))(h:DataW.trod enc P w base spare held fuel t cs=some x) : ∃ n,cs=[.float .f64 n]∧x=(.lit (.float .f64 n),[])∧(Lit.float .f64 n).wf=true:=by
 cases fuel with
 | zero=>simp[DataW.trod] at h
 | succ n =>
   unfold DataW.trod at h
   rw[ht] at h
   split at h<;>simp_all
theorem okWide_f64 {r:Reach}{b0:Nat}{t:TypeId}{v:Value}(ht:P.underlying t=some (.float .f64))(h:Value.okWide P w r b0 t v) : ∃ n,v = .float .f64 n:=by
 simp only[Value.okWide,ht,Cell.okWide] at h
 cases v<;>simp_all [Cell.ok]
theorem open_f64 {r:Reach}{b0:Nat}{t:TypeId}{v:Value}{d:DataW H}{ps:List MemPlace}(ht:P.underlying t=some (.float .f64))(hval:Value.okWide P w r b0 t v)(hd:DataW.Trod enc P w base spare held t v d ps) :
  ∃ n:Nat,v = .float .f64 n∧d = .lit (.float .f64 n)∧ps=[]∧n<18446744073709551616:=by
 obtain⟨n,rfl⟩:=okWide_f64 ht hval
 obtain⟨fuel,hf⟩:=hd
 obtain⟨n',h,hx,hw⟩:=trod_f64 ht hf
 simp[Value.cells] at h
 subst h
 simp only[Prod.mk.injEq] at hx
 refine⟨n,rfl,hx.1,hx.2, ?_⟩
 have:=of_decide_eq_true (show decide (n<2 ^ 64)=true from hw)
 exact this
theorem shut_f64 {t:TypeId}{n:Nat}(ht:P.underlying t=some (.float .f64))(hw:n<18446744073709551616) : DataW.Trod enc P w base spare held t (.float .f64 n) (.lit (.float .f64 n)) []:=by
 have h:(Lit.float .f64 n).wf=true:=decide_eq_true (show n<2 ^ 64 from hw)
 exact⟨1,by simp[DataW.trod,Value.cells,ht,h]⟩
end
end Go.Proofs.YtcpfkaehefcakaaGreat
