/- ZpMtLay, ZpMtLaid, ZpMtAdd -/
import Derived.Test.YtcpfkaehefcakaaGreatPp10
import Derived.Test.YtcpfkaehefcakaaGreatPp08
import Derived.Deep.CutBlock
import Derived.Deep.RegionHeldLaw
import Derived.Deep.DrawnRows
import Derived.Test.YtcpfkaehefcakaaGreatPp02
namespace Go.Proofs.YtcpfkaehefcakaaGreat
set_option maxRecDepth 100000
set_option linter.unusedVariables false
section
open Go.RowKit Go.Shelf
theorem append_bare {w:World}(a:Addr)(vx:Value)(m:List EntS)(hs:EntsIn w vx m)(h0:m≠[])(hl:m.length≤1000000)(ty:TypeId) :
  (Builtin.append_ #[40,40] ty #[.slice (some a) 0 0,vx]).run Tryz.prog w=(Builtin.append_ #[40,40] ty #[.slice none 0 0,vx]).run Tryz.prog w:=by
 have hm:0<m.length:=List.length_pos_iff.2 h0
 obtain⟨i,hi,hz0,hz1,hz2⟩:=info_parts info_ent
 obtain⟨hlen,hsrc⟩:=hs.src
 rcases hsrc with⟨c,rfl,hc⟩ | ⟨b,c,rfl,hc⟩
 ·omega
 ·have e1:=run_append_grow (P:=Tryz.prog) w 40 ty 44 i _ Tryz.underlying40 hi hz0 a 0 0 [] (by simp) (fun j v h=>by simp at h) b m.length c (entFlat m) (by rw[hz1];exact hlen) hc (by omega) (by omega) (growslice_fits (by omega) (by rw[hz2];omega))
  have e2:=run_append_nil (P:=Tryz.prog) w 40 ty 44 i _ Tryz.underlying40 hi hz0 b m.length c (entFlat m) (by rw[hz1];exact hlen) hc hm (by omega) (by rw[hz2];omega)
  rw[e1,e2]
  simp
theorem ents_fresh {w:World}{base:Nat}{vx:Value}{m:List EntS}(A:Option Addr)(hsrc:EntsIn w vx m)(h0:m≠[])(hl:m.length≤1000000)(hb:base≤w.heap.size)(ty:TypeId) :
  ∃ A' c w',(Builtin.append_ #[40,40] ty #[.slice A 0 0,vx]).run Tryz.prog w = .ok (.slice A' m.length c) w'∧EntRow w' base (.slice A' m.length c) m∧w.grownBy w' none∧((Value.slice A' m.length c).ownBlock=none∨(Value.slice A' m.length c).ownBlock=some w.heap.size):=by
 have h:=ents_append (EntRow.nil w base) hsrc (by simpa using hl) hb ty
 simp only[List.length_nil,Nat.zero_add,List.nil_append] at h
 cases A with
 | none=>exact h
 | some a =>
   rw[append_bare a vx m hsrc h0 hl ty]
   exact h
theorem step_append_fresh {ops:Array Oper}{o:Oper}{a:Act}{w:World}{K:Act→World→Prop}{Q:Exit→Act→World→Prop}{E:Prop}{vx:Value}{base:Nat}{A:Option Addr}{m:List EntS}(hgd:o.guard=none)(s x:Operand)
  (ho:o.op = .call { callee:=.builtin .append,args:=#[s,x],argTypes:=#[40,40] }) (hs:a.eval s = .slice A 0 0) (hx:a.eval x=vx)
  (hsrc:EntsIn w vx m) (h0:m≠[]) (hl:m.length≤1000000) (hb:base≤w.heap.size)
  (h:∀ v' w',EntRow w' base v' m→w.grownBy w' none→(v'.ownBlock=(Value.slice none 0 0).ownBlock∨v'.ownBlock=some w.heap.size)→K (a.put o.dst v') w') :
  if Region.wanted o (yielded ops a.tmps)=true then Oper.wp Tryz.prog o a w K Q else E:=by
 obtain⟨A',c,w',e1,e2,e3,e4⟩:=ents_fresh A hsrc h0 hl hb o.type
 exact step_append_run hgd s x _ ho hs hx e1 (h _ w' e2 e3 e4)
theorem row_take {w:World}{base n c k:Nat}{A:Option Addr}{l:List EntS}(h:EntRow w base (.slice A n c) l)(hn:n=l.length)(hk:k≤n) : EntRow w base (.slice A k c) (l.take k)∧sliced A 0 k c 3 = .slice A k c∧k≤c:=by
 subst hn
 have hlen:(l.take k).length=k:=by rw[List.length_take];omega
 rcases h.2 with⟨hv,h0⟩ | ⟨g,cap,cur,hv,hg,hh,hn,hm,hsz,ht⟩
 ·obtain⟨rfl,-,rfl⟩:=Value.slice.inj hv
  obtain rfl:k=0:=by omega
  rw[List.take_zero]
  exact⟨EntRow.nil _ _,rfl,Nat.le_refl _⟩
 ·obtain⟨rfl,-,rfl⟩:=Value.slice.inj hv
  refine⟨⟨?_,Or.inr ⟨g,c,cur,by rw[hlen],hg,hh,by rw[hlen];omega,hm,hsz, ?_⟩⟩, ?_,by omega⟩
  ·rw[entFlat_length]
  ·have e:entFlat l=entFlat (l.take k)++entFlat (l.drop k):=by rw[← entFlat_append,List.take_append_drop]
   rw[hlen]
   have h2:cur.toList.take (k*3)=(cur.toList.take (l.length*3)).take (k*3):=by rw[List.take_take];congr 1;omega
   rw[h2,ht,e,List.take_left' (by rw[entFlat_length,hlen])]
  ·unfold sliced
   by_cases hc:c=0
   ·rw[if_pos hc]
    simp
   ·rw[if_neg hc]
    simp[Addr.add]
theorem slice_at {n c k:Nat}{A:Option Addr}(hk:k≤c)(W:World) : (Instr.slice 40 (.slice A n c) (some (.int .i64 (k:Nat))) (some (.int .i64 (k:Nat))) (some (.int .i64 (k:Nat)))).run Tryz.prog W = .ok (.slice A 0 0) W:=by
 have hz:(sizeOf (Tryz.prog.elem 40)).run Tryz.prog W = .ok 3 W:=by simp[go_sem]
 rw[run_slice_lhm W _ _ _ c Tryz.underlying40 .i64 .i64 .i64 _ _ _ (by omega) (by omega) (by omega) (by omega),hz]
 show Result.ok (sliced _ _ _ _ _) W=_
 rw[Int.toNat_natCast]
 unfold sliced
 rw[if_pos rfl,Nat.sub_self]
theorem slice_to {n c k:Nat}{A:Option Addr}(hk:k≤c)(e:sliced A 0 k c 3 = .slice A k c)(W:World) : (Instr.slice 40 (.slice A n c) none (some (.int .i64 (k:Nat))) none).run Tryz.prog W = .ok (.slice A k c) W:=by
 have hz:(sizeOf (Tryz.prog.elem 40)).run Tryz.prog W = .ok 3 W:=by simp[go_sem]
 rw[run_slice_h W _ _ _ c Tryz.underlying40 .i64 _ (by omega) (by omega),hz]
 show Result.ok (sliced _ _ _ _ _) W=_
 rw[Int.toNat_natCast,e]
theorem tab_ne : (44:TypeId)≠133:=by decide
theorem laid_end {w w1 V2 V3:World}{base g n c:Nat}{F:List Nat}{A:Option Addr}{l m:List EntS}{x:EntS}{v3:Value}(h:TabAt w base g F l)(hx:EntOk x)(hok:layEn l x=m)
  (hv:EntRow w base (.slice A n c) l) (hF:∀ k,(Value.slice A n c).ownBlock=some k→k∈F) (hw1:Touch [] w w1) (hb:Below w1.heap.size w1 V2) (hg:V2.grownBy V3 (Value.slice A n c).ownBlock) (ho:EntRow V3 base v3 m)
  (hat:v3.ownBlock=(Value.slice A n c).ownBlock∨v3.ownBlock=some V2.heap.size):TabEnd base g F w (.tuple #[]) m (.returned (.tuple #[])) (V3.setCell ⟨g,1,none⟩ v3):=by
 obtain⟨v,h1,h2,h3,h4,h5,h6,h7⟩:=h
 have t2:Touch F w V2:=(hw1.trans (Touch.of_below hb) (fun x hx=>by cases hx)).more (fun x hx=>by cases hx)
 have t3:Touch F w V3:=t2.grown hg (fun k hk=>Or.inl (hF k hk))
 have t4:Touch F w (V3.setCell ⟨g,1,none⟩ v3):=t3.setCell (p:=⟨g,1,none⟩) (Or.inl h4) v3
 have hgne:(Value.slice A n c).ownBlock≠some g:=own_ne hv h1 tab_ne
 have B2:Blok V2 g 133 #[mtp g,v]:=h1.touch (hw1.trans (Touch.of_below hb) (fun x hx=>by cases hx)) (by simp)
 have B3:Blok V3 g 133 #[mtp g,v]:=(hg.block g B2.lt (fun e=>hgne e.symm)).trans B2
 have B4:Blok (V3.setCell ⟨g,1,none⟩ v3) g 133 #[mtp g,v3]:=B3.put 1 v3
 have o4:EntRow (V3.setCell ⟨g,1,none⟩ v3) base v3 m:=own_far ho (own_ne ho B3 tab_ne) v3
 have hmok:∀ y∈m,EntOk y:=fun y hy=>by
  rw[← hok] at hy
  rcases mem_layE hy with k | k
  ·exact h7 y k
  ·rw[k];exact hx
 have hr:RiseE m:=by rw[← hok];exact rise_layE h6 x
 have hsz:(V3.setCell ⟨g,1,none⟩ v3).heap.size=V3.heap.size:=by simp[World.setCell]
 rcases hat with e | e
 ·exact⟨F,rfl,⟨v3,B4,o4,fun k hk=>hF k (by rw[← e];exact hk),h4,fun y hy=>⟨(h5 y hy).1,Nat.lt_of_lt_of_le (h5 y hy).2 t4.size⟩,hr,hmok⟩,fun y hy=>Or.inl hy,t4⟩
 ·have hlt:=o4.lt _ e
  refine⟨V2.heap.size::F,rfl,⟨v3,B4,o4,fun k hk=>?_,List.mem_cons_of_mem _ h4,fun y hy=>?_,hr,hmok⟩,fun y hy=>?_,t4⟩
  ·rw[e] at hk
   injection hk with hk
   rw[← hk]
   exact List.mem_cons_self
  ·rcases List.mem_cons.1 hy with k | k
   ·rw[k];exact⟨hlt.1,hlt.2⟩
   ·exact⟨(h5 y k).1,Nat.lt_of_lt_of_le (h5 y k).2 t4.size⟩
  ·rcases List.mem_cons.1 hy with k | k
   ·rw[k];exact Or.inr t2.size
   ·exact Or.inl k
end
end Go.Proofs.YtcpfkaehefcakaaGreat
namespace Go.Proofs.YtcpfkaehefcakaaGreat
open Go.RowKit Go.Shelf
set_option linter.unusedVariables false
set_option maxRecDepth 100000
attribute [local go_sem ↓] Go.wp_at_zero Go.wp_at_succ
set_option maxHeartbeats 4000000 in
set_option maxRecDepth 100000 in
theorem lay_run {w:World}{base g:Nat}{F:List Nat}{l:List EntS}{x:EntS}(h:TabAt w base g F l)(hx:EntOk x)(hn:l.length≤100000)(hne:x ∉ l) :
  Calls Tryz.prog 113 #[mtp g,.int .i64 (posE l x:Nat),entB x] w (TabEnd base g F w (.tuple #[]) (layEn l x)):=by
 have HT:=Lib.hid h
 obtain⟨v,h1,h2,h3,h4,h5,h6,h7⟩:=h
 obtain⟨A,c,rfl,hnc,hcm,-,-⟩:=own_form h2
 have hp:=posE_le l x
 obtain⟨n,hnn⟩:∃ n,n=l.length:=⟨_,rfl⟩
 obtain⟨k,hk⟩:∃ k,k=posE l x:=⟨_,rfl⟩
 have HL:=Lib.hid (mlay_new hne)
 rw[← hk] at hp HL ⊢
 rw[← hnn] at hp hnc h1 h2 h3 hn
 have hin:EntsIn w (.slice A n c) l:=by rw[hnn] at h2 ⊢;exact EntRow.in_ h2
 obtain⟨rt,rs,rk⟩:=row_take h2 hnn hp
 have E0:EnAt (w.alloc (.cells #[.int .u64 (x.h:Nat),.int .i64 x.v,.int .i64 x.p] 44)) w.heap.size x.h x.v x.p:=Blok.new _ _ _
 have hT1:Touch [] w (w.alloc (.cells #[.int .u64 (x.h:Nat),.int .i64 x.v,.int .i64 x.p] 44)):=(Touch.refl [] w).alloc _
 obtain⟨B,hB⟩:∃ B,w.heap.size=B:=⟨_,rfl⟩
 rw[hB] at E0
 obtain⟨w1,hw1⟩:∃ w1,w.alloc (.cells #[.int .u64 (x.h:Nat),.int .i64 x.v,.int .i64 x.p] 44)=w1:=⟨_,rfl⟩
 rw[hw1] at E0 hT1
 have hin1:EntsIn w1 (.slice A n c) l:=hin.below (B:=w.heap.size) (hT1.below (Nat.le_refl _) (fun x hx=>by cases hx)) (Nat.le_refl _)
 have g1:Blok w1 g 133 #[mtp g,.slice A n c]:=h1.touch hT1 (by simp)
 obtain⟨A2,c2,q2,p2⟩:=ents_from hin1 (k:=k) (by omega)
 have q1:=slice_at (A:=A) (n:=n) rk
 have q3:=slice_to (A:=A) (n:=n) rk rs
 rw[← hnn] at q2 p2
 have HP:=Lib.hid p2
 have HS:Hid (∀ W,Below w1.heap.size w1 W→Below w1.heap.size w1 W∧W.cell? ⟨g,1,none⟩=some (.slice A n c)∧W.cell? ⟨B,0,none⟩=some (.int .u64 (x.h:Nat))∧W.cell? ⟨B,1,none⟩=some (.int .i64 x.v)∧W.cell? ⟨B,2,none⟩=some (.int .i64 x.p)):=Lib.hid fun W hW =>
  ⟨hW,(hW.cell (p:=⟨g,1,none⟩) g1.lt).trans (g1.cell 1),(hW.cell (p:=⟨B,0,none⟩) E0.lt).trans (E0.cell 0),(hW.cell (p:=⟨B,1,none⟩) E0.lt).trans (E0.cell 1),(hW.cell (p:=⟨B,2,none⟩) E0.lt).trans (E0.cell 2)⟩
 have HBb:Hid (∀ W,Below w1.heap.size w1 W→w1.heap.size≤W.heap.size):=Lib.hid fun W hW=>hW.size
 have HD:Hid ((l.drop k).length≤100000):=Lib.hid (by rw[List.length_drop,← hnn];omega)
 have HEND:Hid (∀ V2 V3 v3,Below w1.heap.size w1 V2→V2.grownBy V3 (Value.slice A n c).ownBlock→EntRow V3 base v3 (l.take k++([x]++l.drop k))→(v3.ownBlock=(Value.slice A n c).ownBlock∨v3.ownBlock=some V2.heap.size)→TabEnd base g F w (.tuple #[]) (layEn l x) (.returned (.tuple #[])) (V3.setCell ⟨g,1,none⟩ v3)) :=
  Lib.hid fun V2 V3 v3 a1 a2 a3 a4=>laid_end HT.out hx rfl h2 h3 hT1 a1 a2 (by rw[HL.out];exact a3) a4
 have HG:Hid (∀ V2,Below w1.heap.size w1 V2→Blok V2 g 133 #[mtp g,.slice A n c]∧EntRow V2 base (.slice A k c) (l.take k)∧base≤V2.heap.size):=Lib.hid fun V2 a=>by
  have hb2:Below w.heap.size w V2:=(hT1.below (Nat.le_refl _) (fun x hx=>by cases hx)).trans (a.mono hT1.size)
  exact⟨g1.touch (Touch.of_below a) (by simp),EntRow.below rt hb2 (Nat.le_refl _),Nat.le_trans (h5 g h4).1 (Nat.le_trans (Nat.le_of_lt (h5 g h4).2) hb2.size)⟩
 have HNE:Hid ((Value.slice A k c).ownBlock=(Value.slice A n c).ownBlock):=Lib.hid (by cases A<;>rfl)
 have HGN:Hid ((Value.slice A n c).ownBlock≠some g):=Lib.hid (own_ne h2 h1 tab_ne)
 have HTL:Hid ((l.take k).length=k):=Lib.hid (by rw[List.length_take];omega)
 obtain⟨-,s0,s1,s2,s3⟩:=HS.out w1 (Below.refl _ _)
 have hw1':∀ H:World,H=w1→H=w1:=fun _ h=>h
 clear h1 h2 h3 h4 h5 h6 h7 hin rt rs hT1 hin1 g1 E0 p2 HT hne
 have HN:=Lib.hid hnn
 have HK:=Lib.hid hk
 clear hnn hk
 generalize layEn l x=R at *
 go_enter Tryz.func113,Tryz.ntmps113
 go_wp2_with fail
 go_region_held_law (fun W=>Below w1.heap.size w1 W∧W.cell? ⟨g,1,none⟩=some (.slice A n c)∧W.cell? ⟨B,0,none⟩=some (.int .u64 (x.h:Nat))∧W.cell? ⟨B,1,none⟩=some (.int .i64 x.v)∧W.cell? ⟨B,2,none⟩=some (.int .i64 x.p))
  (first | (with_reducible assumption) | ((with_reducible refine HS.out _ ?_);(repeat' (first | (with_reducible assumption) | (with_reducible exact Below.refl _ _) | (with_reducible refine Below.drew ?_) | (with_reducible refine st_alloc ?_ _) | exact And.left (by with_reducible assumption)));done) | fail)
  (first
  | (refine step_append_fresh (A:=A) (m:=[x]) (base:=w1.heap.size) (by rfl) _ _ (by rfl) (by rfl) (by rfl) (ent_one _ x) (by simp) (by simp) (HBb.out _ (by first | (with_reducible exact And.left (by with_reducible assumption)) | (refine st_alloc ?_ _;exact And.left (by with_reducible assumption)))) ?_;intro v1 V1 own1 gr1 at1;have far1:∀ z,v1.ownBlock=some z→w1.heap.size≤z:=far_more (by first | (with_reducible exact And.left (by with_reducible assumption)) | (refine st_alloc ?_ _;exact And.left (by with_reducible assumption))) far_none at1;have b1:Below w1.heap.size w1 V1:=st_grown (by first | (with_reducible exact And.left (by with_reducible assumption)) | (refine st_alloc ?_ _;exact And.left (by with_reducible assumption))) gr1 far_none)
  | (refine step_append_ents (l:=[x]) (m:=l.drop k) (by rfl) _ _ (by rfl) (by rfl) (by rfl) own1 (HP.out _ _ (Nat.le_refl _) b1) (by have:=HD.out;simp only[List.length_cons,List.length_nil];omega) (HBb.out _ b1) ?_;intro v2 V2 own2 gr2 at2;have far2:∀ z,v2.ownBlock=some z→w1.heap.size≤z:=far_more b1 far1 at2;have b2:Below w1.heap.size w1 V2:=st_grown b1 gr2 far1)
  | fail)
 all_goals
  clear gr1 at1 far1 b1 own1 gr2 at2 far2
  obtain⟨gB,rT,hb0⟩:=HG.out V2 b2
  obtain⟨A3,c3,V3,e1,e2,e3,e4⟩:=ents_append rT (EntRow.in_ own2) (by have:=HD.out;have:=HTL.out;simp only[List.length_append,List.length_cons,List.length_nil];omega) hb0 40
  rw[HNE.out] at e3 e4
  have gB3:Blok V3 g 133 #[mtp g,.slice A n c]:=(e3.block g gB.lt (fun e=>HGN.out e.symm)).trans gB
  have HFIN:=Lib.hid (HEND.out V2 V3 _ b2 e3 e2 e4)
  have k1:=gB3.cell 1
  have f1:=gB3.frozen 1
  have k2:=gB.cell 1
  have HE:=Lib.hid e1
  obtain⟨A4,c4,rfl,-⟩:=EntRow.shape own2
  clear e1 e2 e3 e4 gB3 gB rT own2 b2
  generalize (l.take k).length+([x]++l.drop k).length=N at *
  generalize ([x]++l.drop k).length=M at *
  go_wp2_with (first | (at_builtin;refine wpList_append_two rfl _ _ rfl rfl rfl HE.out ?_) | fail)
  go_end0
  exact HFIN.out
end Go.Proofs.YtcpfkaehefcakaaGreat
namespace Go.Proofs.YtcpfkaehefcakaaGreat
open Go.RowKit Go.Shelf
set_option linter.unusedVariables false
set_option maxRecDepth 100000
attribute [local go_sem ↓] Go.wp_at_zero Go.wp_at_succ
theorem TabEnd.since {w W:World}{base g:Nat}{F:List Nat}{r:Value}{l:List EntS}{e:Ending}{w':World}(h:TabEnd base g F W r l e w')(ht:Touch [] w W) : TabEnd base g F w r l e w':=by
 obtain⟨F',h1,h2,h3,h4⟩:=h
 refine⟨F',h1,h2,fun x hx=>?_,(ht.more (G:=F) (fun x hx=>by cases hx)).trans h4 (fun x hx=>Or.inl hx)⟩
 rcases h3 x hx with k | k
 ·exact Or.inl k
 ·exact Or.inr (Nat.le_trans ht.size k)
theorem TabEnd.same {w W:World}{base g:Nat}{F:List Nat}{r:Value}{l:List EntS}(h:TabAt W base g F l)(ht:Touch [] w W) : TabEnd base g F w r l (.returned r) W :=
 ⟨F,rfl,h,fun x hx=>Or.inl hx,ht.more (fun x hx=>by cases hx)⟩
set_option maxHeartbeats 4000000 in
set_option maxRecDepth 100000 in
theorem add_run {w:World}{base g:Nat}{F:List Nat}{l:List EntS}{x:EntS}(h:TabAt w base g F l)(hx:EntOk x)(hn:l.length≤100000) :
  Calls Tryz.prog 56 #[mtp g,entB x] w (TabEnd base g F w (.bool (!decide (x∈l))) (layEn l x)):=by
 have HT:=Lib.hid h
 obtain⟨A,c,c0,c1,-,hrow,hg⟩:=h.shape
 have hr:RiseE l:=by obtain⟨v,h1,h2,h3,h4,h5,h6,h7⟩:=h;exact h6
 have hin:=EntRow.in_ hrow
 have hT1:Touch [] w ((w.alloc (.cells #[mtp g] 65)).alloc (.cells #[.int .u64 (x.h:Nat),.int .i64 x.v,.int .i64 x.p] 44)):=((Touch.refl [] w).alloc _).alloc _
 have E1:Blok ((w.alloc (.cells #[mtp g] 65)).alloc (.cells #[.int .u64 (x.h:Nat),.int .i64 x.v,.int .i64 x.p] 44)) w.heap.size 65 #[mtp g]:=Blok.alloc (Blok.new _ _ _) _
 have E2:EnAt ((w.alloc (.cells #[mtp g] 65)).alloc (.cells #[.int .u64 (x.h:Nat),.int .i64 x.v,.int .i64 x.p] 44)) (w.heap.size+1) x.h x.v x.p:=by
  have:=Blok.new (w.alloc (.cells #[mtp g] 65)) 44 #[.int .u64 (x.h:Nat),.int .i64 x.v,.int .i64 x.p]
  rw[show(w.alloc (.cells #[mtp g] 65)).heap.size=w.heap.size+1 by simp] at this
  exact this
 obtain⟨B,hB⟩:∃ B,w.heap.size=B:=⟨_,rfl⟩
 rw[hB] at E1 E2
 obtain⟨w2,hw2⟩:∃ w2,(w.alloc (.cells #[mtp g] 65)).alloc (.cells #[.int .u64 (x.h:Nat),.int .i64 x.v,.int .i64 x.p] 44)=w2:=⟨_,rfl⟩
 rw[hw2] at E1 E2 hT1
 have hb1:Below w.heap.size w w2:=hT1.below (Nat.le_refl _) (fun x hx=>by cases hx)
 have hin2:EntsIn w2 (.slice A l.length c) l:=hin.below hb1 (Nat.le_refl _)
 have q:∀ {p:Addr} {u:Value},w.cell? p=some u→w2.cell? p=some u:=fun {p u} k=>(hb1.cell (p:=p) (World.block_lt_of_cell? w _ k)).trans k
 have d0:=q c0
 have d1:=q c1
 have e0:=E1.cell 0
 obtain⟨x0,x1,x2,-,-,-⟩:=E2.facts
 have hK:=posE_le l x
 obtain⟨n,hnn⟩:∃ n,n=l.length:=⟨_,rfl⟩
 obtain⟨K,hKK⟩:∃ K,K=posE l x:=⟨_,rfl⟩
 have HF:=Lib.hid hin2.form
 have HIN:=Lib.hid hin2
 rw[← hnn] at c1 d1 hin2 hn hK HIN
 rw[← hKK] at hK
 have hen:Enters Tryz.prog 111:=aq_enters
 have hmf:∀ (fn:Fn) (first cap:Array Value) (w:World),(Instr.makeFunc fn first cap).run Tryz.prog w = .ok (.func fn first cap) w:=fun _ _ _ _=>rfl
 have HSE:Hid (Calls Tryz.prog 110 #[.int .i64 (n:Nat),.func (.func 111) #[] #[mtp B,mtp (B+1)]] w2 (AtEnd K w2)):=Lib.hid (by
  refine ssearch_any _ _ _ n K w2 (by omega) hK hen (fun i W hi hW=>?_)
  obtain⟨y,hy⟩:∃ y,l[i]? = some y:=⟨_,List.getElem?_eq_getElem (by rw[← hnn];exact hi)⟩
  obtain⟨b,off,rfl,-,-,y0,y1,y2⟩:=ent_cell HIN.out hy
  have hA:AskAt w2 B (B+1) g b (off+i*3) (.slice (some ⟨b,off,none⟩) n c) x y:=⟨e0,d1,x0,x1,x2,y0,y1,y2⟩
  have:=addq_any B (B+1) g b off n c i x y W hi (by omega) (hA.below hW)
  rw[pos_ask hr hy,← hKK] at this
  exact this)
 have hno:=Lib.hid (tnone_run d0)
 have HLAY:Hid (∀ W,Below w2.heap.size w2 W→x ∉ l→Calls Tryz.prog 113 #[mtp g,.int .i64 (K:Nat),entB x] W (TabEnd base g F W (.tuple #[]) (layEn l x))):=Lib.hid fun W hW hne=>by
  have hA:TabAt W base g F l:=(HT.out.touch hT1 (fun _ _=>by simp)).below hW
  have:=lay_run hA hx (by rw[← hnn];exact hn) hne
  rw[← hKK] at this
  exact this
 have HSW:Hid (∀ W,Below w2.heap.size w2 W→W.cell? ⟨B,0,none⟩=some (mtp g)∧W.cell? ⟨g,1,none⟩=some (.slice A n c)∧W.cell? ⟨B+1,0,none⟩=some (.int .u64 (x.h:Nat))∧W.cell? ⟨B+1,1,none⟩=some (.int .i64 x.v)∧W.cell? ⟨B+1,2,none⟩=some (.int .i64 x.p)):=Lib.hid fun W hW=>by
  have q:∀ {p:Addr} {u:Value},w2.cell? p=some u→W.cell? p=some u:=fun {p u} k=>(hW.cell (p:=p) (World.block_lt_of_cell? w2 _ k)).trans k
  exact⟨q e0,q d1,q x0,q x1,q x2⟩
 have HME:=Lib.hid (show l[K]? = some x↔x∈l by rw[hKK];exact pos_mem_iff hr)
 have HOLD:=Lib.hid (show x∈l→layEn l x=l from lay_old hr)
 have HTW:Hid (Touch [] w w2):=Lib.hid hT1
 have HX:=Lib.hid hx
 have HNN:=Lib.hid hnn
 clear h hr hin hT1 E1 E2 hb1 hin2 c0 c1 q hx hrow hnn hKK
 by_cases hlt:K<n
 ·obtain⟨y,hy⟩:∃ y,l[K]? = some y:=⟨_,List.getElem?_eq_getElem (by rw[← HNN.out];exact hlt)⟩
  obtain⟨b,off,rfl,-,hbk,y0,y1,y2⟩:=ent_cell HIN.out hy
  have heq:=fun W=>ent_eql y x W
  have t1:(K:Int)<(n:Int):=by omega
  by_cases hyx:y=x
  ·have hm:x∈l:=by rw[hyx] at hy;exact HME.out.1 hy
   rw[decide_eq_true hyx] at heq
   rw[decide_eq_true hm,HOLD.out hm]
   have HHY:=Lib.hid hyx
   have HBK:=Lib.hid hbk
   clear hm hyx hy
   go_enter Tryz.func56,Tryz.ntmps56
   go_wp2_with fail
   refine hno.out.mono ?_
   rintro e w' ⟨rfl,rfl⟩
   go_wp2_with fail
   refine HSE.out.mono ?_
   rintro e w3 ⟨rfl,hb3⟩
   obtain⟨z0,z1,z2,z3,z4⟩:=HSW.out w3 hb3
   have u0:=(hb3.cell (p:=⟨b,off+K*3,none⟩) hbk).trans y0
   have u1:=(hb3.cell (p:=⟨b,off+K*3+1,none⟩) hbk).trans y1
   have u2:=(hb3.cell (p:=⟨b,off+K*3+2,none⟩) hbk).trans y2
   clear y0 y1 y2 d0 d1 e0 x0 x1 x2
   obtain⟨xh,xv,xp⟩:=x
   obtain⟨yh,yv,yp⟩:=y
   simp only at u0 u1 u2 z2 z3 z4
   go_wp2
   go_quiet (fail)
   go_wp2
   go_ret
   exact TabEnd.same (((HT.out.touch HTW.out (fun _ _=>by simp)).below hb3).drewN _) ((HTW.out.trans (Touch.of_below hb3) (fun x hx=>by cases hx)).drewN _)
  ·have hm:x ∉ l:=fun k=>hyx (by have:=HME.out.2 k;rw[hy] at this;exact Option.some.inj this)
   rw[decide_eq_false hyx] at heq
   rw[decide_eq_false hm]
   have HM:=Lib.hid hm
   clear hm hyx hy
   go_enter Tryz.func56,Tryz.ntmps56
   go_wp2_with fail
   refine hno.out.mono ?_
   rintro e w' ⟨rfl,rfl⟩
   go_wp2_with fail
   refine HSE.out.mono ?_
   rintro e w3 ⟨rfl,hb3⟩
   obtain⟨z0,z1,z2,z3,z4⟩:=HSW.out w3 hb3
   have u0:=(hb3.cell (p:=⟨b,off+K*3,none⟩) hbk).trans y0
   have u1:=(hb3.cell (p:=⟨b,off+K*3+1,none⟩) hbk).trans y1
   have u2:=(hb3.cell (p:=⟨b,off+K*3+2,none⟩) hbk).trans y2
   clear y0 y1 y2 d0 d1 e0 x0 x1 x2
   generalize layEn l x=R at *
   obtain⟨xh,xv,xp⟩:=x
   obtain⟨yh,yv,yp⟩:=y
   simp only at u0 u1 u2 z2 z3 z4
   go_wp2
   go_quiet (fail)
   go_wp2_with fail
   refine(HLAY.out _ (below_drewN hb3 _) HM.out).mono ?_
   rintro e w4 ⟨F',rfl,g2,g3,g4⟩
   go_wp2
   go_ret
   exact TabEnd.since ⟨F',rfl,g2,g3,g4⟩ ((HTW.out.trans (Touch.of_below hb3) (fun x hx=>by cases hx)).drewN _)
 ·have hm:x ∉ l:=fun k=>by
   have h2:=HME.out.2 k
   rw[List.getElem?_eq_none (by rw[← HNN.out];omega)] at h2
   cases h2
  rw[decide_eq_false hm]
  have HM:=Lib.hid hm
  have t1:¬ (K:Int)<(n:Int):=by omega
  have t2:decide (K<n)=false:=decide_eq_false hlt
  clear hm HF HIN
  generalize layEn l x=R at *
  go_enter Tryz.func56,Tryz.ntmps56
  go_wp2_with fail
  refine hno.out.mono ?_
  rintro e w' ⟨rfl,rfl⟩
  go_wp2_with fail
  refine HSE.out.mono ?_
  rintro e w3 ⟨rfl,hb3⟩
  obtain⟨z0,z1,z2,z3,z4⟩:=HSW.out w3 hb3
  obtain⟨xh,xv,xp⟩:=x
  simp only at z2 z3 z4
  go_wp2
  go_quiet (fail)
  go_wp2_with fail
  refine(HLAY.out _ (below_drewN hb3 _) HM.out).mono ?_
  rintro e w4 ⟨F',rfl,g2,g3,g4⟩
  go_wp2
  go_ret
  exact TabEnd.since ⟨F',rfl,g2,g3,g4⟩ ((HTW.out.trans (Touch.of_below hb3) (fun x hx=>by cases hx)).drewN _)
end Go.Proofs.YtcpfkaehefcakaaGreat
