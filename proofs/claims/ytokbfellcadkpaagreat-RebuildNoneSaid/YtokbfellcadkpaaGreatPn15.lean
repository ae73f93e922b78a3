/- ZnPtMath, ZnMdMake, ZnPtMem, ZnPtSmall, ZnPtRange, ZnMtLay, ZnMtLaid, ZnMtAdd -/
import Derived.Test.YtokbfellcadkpaaGreatPn05
import Derived.Test.YtokbfellcadkpaaGreatPn14
import Derived.Test.YtokbfellcadkpaaGreatPn04
import Derived.Test.YtokbfellcadkpaaGreatPn08
import Derived.Deep.CutBlock
import Derived.Deep.DeepCutAuto
import Derived.Deep.DrawnRows
import Derived.Test.YtokbfellcadkpaaGreatPn03
import Derived.WalkMore
import Derived.Deep.RegionHeld3
import Derived.Deep.DeepMust
import Derived.Deep.RegionHeldLaw
import Derived.Test.YtokbfellcadkpaaGreatPn01
namespace Go.Proofs.YtokbfellcadkpaaGreat
set_option maxRecDepth 100000
set_option linter.unusedVariables false
section
def ptT (n:Int) : ByteArray:=nmS 116 n
def ptB (n:Int) : ByteArray:=nmS 98 n
theorem pt_size (c:UInt8)(n:Int) : (nmS c n).size≤7:=by
 unfold nmS;split
 ·rw[bs_size,List.length_cons,de_length];omega
 ·exact Nat.zero_le _
theorem ptT_le (n:Int) : (ptT n).size≤maxLen:=Nat.le_trans (pt_size 116 n) (by decide)
theorem ptB_le (n:Int) : (ptB n).size≤maxLen:=Nat.le_trans (pt_size 98 n) (by decide)
theorem pt_name {n:Nat}(h:n≤999999) : nameB (ptT n)=true∧nameB (ptB n)=true:=by
 unfold ptT ptB nameB;rw[nm_size h,nm_size h];decide
theorem pt_full {n:Nat}(h:n≤999999) : ptT n≠ByteArray.empty:=by
 intro e;have:=nm_size (c:=116) h;rw[show nmS 116 (n:Nat)=ByteArray.empty from e] at this;exact absurd this (by decide)
theorem pt_ne {n m:Nat}(h:n≤999999)(k:m≤999999) : ptB n≠ptT m:=by
 unfold ptB ptT;rw[nm_yes h,nm_yes k];intro e;have h2:=congrArg (fun s:ByteArray=>s.data.toList.head?) e;simp only[dbs,List.head?_cons] at h2;exact absurd h2 (by decide)
def writeP (D:DiskS)(n:Int)(l:List EntS)(t:ByteArray) : Nat × DiskS :=
 if ptT n=ByteArray.empty∨tbOk l=false then(2,D)
 else if D.down=true then(61,D)
 else if (D.cap:Int)-(usedS D.l:Nat)-(t.size:Nat)-((tbB l).size:Nat)<6000 then(60,D)
 else if (layP D (ptB n) t).1≠0 then layP D (ptB n) t
 else if (layP (layP D (ptB n) t).2 (ptT n) (tbB l)).1≠0 then((layP (layP D (ptB n) t).2 (ptT n) (tbB l)).1,(deleteS (layP (layP D (ptB n) t).2 (ptT n) (tbB l)).2 (ptB n)).2)
 else layP (layP D (ptB n) t).2 (ptT n) (tbB l)
def goneP (r:Nat) : Bool:=decide (r=0)||decide (r=4)
def dropP (D:DiskS)(n:Int) : Nat × DiskS :=
 if goneP (deleteS D (ptT n)).1=false then deleteS D (ptT n)
 else if goneP (deleteS (deleteS D (ptT n)).2 (ptB n)).1=false then deleteS (deleteS D (ptT n)).2 (ptB n)
 else(0,(deleteS (deleteS D (ptT n)).2 (ptB n)).2)
def keepsP (t:ByteArray)(l:List EntS) : Bool:=l.all fun x=>mayT t x.h
theorem keepsP_iff {t:ByteArray}{l:List EntS} : keepsP t l=true↔∀ x∈l,mayT t x.h=true:=by unfold keepsP;rw[List.all_eq_true]
theorem keeps_none (l:List EntS) : keepsP ByteArray.empty l=true:=keepsP_iff.2 fun x _=>mayT_no (hdOk_short (by decide)) _
def ldF (D:DiskS)(n:Int)(l:List EntS) : ByteArray:=if (rdW D (ptB n)).2.1=0∧keepsP (rdW D (ptB n)).1 l=true then(rdW D (ptB n)).1 else ByteArray.empty
theorem ldF_keeps (D:DiskS)(n:Int)(l:List EntS) : keepsP (ldF D n l) l=true:=by
 unfold ldF;split
 ·rename_i h;exact h.2
 ·exact keeps_none l
def openE (D:DiskS)(n:Int) : Nat:=if D.down=true then 61 else if (rdW D (ptT n)).2.1≠0 then 90 else if tgOk (rdW D (ptT n)).1=false then 90 else 0
def openD (D:DiskS)(n:Int) : DiskS:=if D.down=true then D else if (rdW D (ptT n)).2.1≠0 then(rdW D (ptT n)).2.2 else if tgOk (rdW D (ptT n)).1=false then(rdW D (ptT n)).2.2 else(rdW (rdW D (ptT n)).2.2 (ptB n)).2.2
theorem tg_rise {s:ByteArray}(h:tgOk s=true) : RiseE (tgL s)∧(∀ x∈tgL s,mayE x=true)∧s.size=12+24*(tgL s).length:=by
 obtain⟨h1,h2,h3,h4,h5,h6,h7⟩:=tgOk_iff.1 h;rw[(tg_yes h).1,tbGot_length];exact⟨sorted_rise h7,got_may s h6,h4⟩
theorem got_entok (s:ByteArray) : ∀ x:ByteArray,EntOk (enG x):=by
 intro x;unfold enG;split
 ·rename_i h;have:=of_decide_eq_true h;exact⟨getS_lt _,by simp only;omega,by simp only;omega,by simp only;omega,by simp only;omega⟩
 ·exact⟨by decide,by decide,by decide,by decide,by decide⟩
theorem tg_entok (s:ByteArray) : ∀ x∈tgL s,EntOk x:=by
 intro x hx;unfold tgL tbGot at hx;split at hx
 ·obtain⟨i,_,rfl⟩:=List.mem_map.1 hx;exact got_entok s _
 ·cases hx
end
end Go.Proofs.YtokbfellcadkpaaGreat
namespace Go.Proofs.YtokbfellcadkpaaGreat
open Go.RowKit Go.Shelf
set_option linter.unusedVariables false
set_option maxRecDepth 100000
attribute [local go_sem ↓] Go.wp_at_zero Go.wp_at_succ
def MidsOut (w:World)(l:List MidS)(e:Ending)(w':World) : Prop:=∃ A c,e = .returned (.slice A l.length c)∧MidRow w' w.heap.size (.slice A l.length c) l∧Below w.heap.size w w'
theorem mid_more {w:World}{base k:Nat}{v:Value}{l:List EntS}{x:EntS}(hrow:MidRow w base v (midsTo l k))(hx:l[k]? = some x)(hm:isMid l.length k=true)(hn:l.length≤10000)(hb:base≤w.heap.size)(ty:TypeId){g:Nat}(hg:w.heap.size=g) :
  ∃ w' u,(Builtin.append_ #[214,214] ty #[v,.slice (some ⟨g,0,none⟩) 1 1]).run Tryz.prog (w.alloc (.cells #[.int .u64 (x.h:Nat),.int .i64 x.v,.int .i64 x.p,.int .i64 (k:Nat)] 274)) = .ok u w' ∧
   (∃ A c,u = .slice A (midsTo l (k+1)).length c∧MidRow w' base (.slice A (midsTo l (k+1)).length c) (midsTo l (k+1)))∧Below base w w':=by
 subst hg;have hk:k<l.length:=(List.getElem?_eq_some_iff.1 hx).1;have hlen:=midsTo_length l k;have h:=mids_append (MidRow.alloc hrow (.cells #[.int .u64 (x.h:Nat),.int .i64 x.v,.int .i64 x.p,.int .i64 (k:Nat)] 274)) (mid_one w ⟨x,(k:Nat)⟩) (by simp;omega) (by simp;omega) ty;rw[← mids_yes hx hm] at h;obtain⟨A,c,w',e1,e2,e3,-⟩:=h;have e4:(midsTo l k).length+[(⟨x,(k:Nat)⟩:MidS)].length=(midsTo l (k+1)).length:=by rw[mids_yes hx hm,List.length_append]
 rw[e4] at e1 e2;refine⟨w',_,e1,⟨A,c,rfl,e2⟩, ?_⟩;exact((Below.refl base w).alloc hb _).trans (grown_below e3 (by simp;omega) (MidRow.block hrow))
set_option maxHeartbeats 2000000 in
set_option maxRecDepth 100000 in
theorem mmake_any (v:Value)(l:List EntS)(w:World)(hl:EntsIn w v l)(hn:l.length≤10000) :
  Calls Tryz.prog 196 #[v] w (MidsOut w (midsL l)):=by
 obtain⟨A0,off,cap,rfl,-,hcell⟩:=hl.form;have HC:=Lib.hid hcell;have HLE:=Lib.hid (show MidsOut w (midsL l)=MidsOut w (midsTo l l.length) from rfl);generalize midsL l=R at *;obtain⟨n,hnn⟩:∃ n,n=l.length:=⟨_,rfl⟩
 have HN:=Lib.hid hnn;rw[← hnn] at hn HLE ⊢;clear hl hcell hnn;go_enter Tryz.func196,Tryz.ntmps196;go_wp2;go_loopw [3,8] (fun u i wr=>∃ k:Nat,k≤n∧i = .int .i64 k∧(∃ A c,u = .slice A (midsTo l k).length c∧MidRow wr w.heap.size (.slice A (midsTo l k).length c) (midsTo l k))∧Below w.heap.size w wr) (fun _ i _=>n-(intOf i).toNat)
 case atStart=>exact⟨0,Nat.zero_le _,rfl,⟨none,0,rfl,MidRow.nil _ _⟩,Below.refl _ _⟩
 case round =>
  obtain⟨k,hk,rfl,⟨A1,c1,rfl,hrow⟩,hbel⟩:=hrel;by_cases hlt:k<n
  ·have s1:(k:Int)<(n:Int):=by omega
   obtain⟨x,hx⟩:∃ x,l[k]? = some x:=⟨_,List.getElem?_eq_getElem (by rw[← HN.out];omega)⟩
   obtain⟨bk,rfl,hbk,d0,d1,d2⟩:=HC.out k x hx;have k0:=(hbel.cell (p:=⟨bk,off+k*3,none⟩) hbk).trans d0;have k1:=(hbel.cell (p:=⟨bk,off+k*3+1,none⟩) hbk).trans d1;have k2:=(hbel.cell (p:=⟨bk,off+k*3+2,none⟩) hbk).trans d2;have hrow2:=MidRow.alloc hrow (.cells #[.int .u64 (x.h:Nat),.int .i64 x.v,.int .i64 x.p] 63);have hbel2:=hbel.alloc hbel.size (.cells #[.int .u64 (x.h:Nat),.int .i64 x.v,.int .i64 x.p] 63);have e9:IntKind.i64.wrap ((n:Int)-1)=(n:Int)-1:=IntWalk.i64_in _ ⟨by omega,by omega⟩;have HNo:=Lib.hid (mids_no (l:=l) (k:=k));have HIs:isMid l.length k=(decide (k%8=0)||decide (k+1=n)):=by rw[HN.out];rfl
   cases hm:isMid l.length k
   ·have t1:((k:Int)%8==0)=false:=by
     rw[hm] at HIs;have:=(Bool.or_eq_false_iff.1 HIs.symm).1;have:=of_decide_eq_false this;exact beq_eq_false_iff_ne.2 (by omega)
    have t2:((k:Int)==(n:Int)-1)=false:=by
     rw[hm] at HIs;have:=(Bool.or_eq_false_iff.1 HIs.symm).2;have:=of_decide_eq_false this;exact beq_eq_false_iff_ne.2 (by omega)
    have HEQ:=Lib.hid (HNo.out hm);have HR2:=Lib.hid hrow2;have HB2:=Lib.hid hbel2;have HB:=Lib.hid hbel;generalize midsTo l k=L at *;clear hx d0 d1 d2 hrow hrow2 hbel hbel2 HIs hm HNo HLE;obtain⟨xh,xv,xp⟩:=x;simp only at k0 k1 k2;go_wp2;go_roundw
    case rel=>exact⟨k+1,by omega,by go_num,by rw[HEQ.out];exact⟨A1,c1,rfl,HR2.out⟩,HB2.out⟩
    case measure=>simp[intOf];omega
   ·obtain⟨w',u,e1,e2,e3⟩:=mid_more hrow2 hx hm (by rw[← HN.out];exact hn) hbel2.size 214 (g:=wr.heap.size+1) (by simp);have HE1:=Lib.hid e1;have HE2:=Lib.hid e2;have HE3:=Lib.hid (hbel2.trans e3);rw[hm] at HIs;have hor:=Bool.or_eq_true_iff.1 HIs.symm;obtain⟨xh,xv,xp⟩:=x;simp only at k0 k1 k2 HE1;generalize (midsTo l k).length=ll at *;by_cases h8:k%8=0
    ·have t1:((k:Int)%8==0)=true:=beq_iff_eq.2 (by omega);clear hx d0 d1 d2 hrow hrow2 hbel hbel2 HIs hm HNo HLE e1 e2 e3 hor;go_wp2_with (first | (at_builtin;refine wpList_append_two rfl _ _ rfl rfl rfl HE1.out ?_) | fail);go_roundw
     case rel=>exact⟨k+1,by omega,by go_num,HE2.out,HE3.out⟩
     case measure=>simp[intOf];omega
    ·have t1:((k:Int)%8==0)=false:=beq_eq_false_iff_ne.2 (by omega)
     have t2:((k:Int)==(n:Int)-1)=true:=by
      rcases hor with q | q
      ·exact absurd (of_decide_eq_true q) h8
      ·have:=of_decide_eq_true q;exact beq_iff_eq.2 (by omega)
     clear hx d0 d1 d2 hrow hrow2 hbel hbel2 HIs hm HNo HLE e1 e2 e3 hor;go_wp2_with (first | (at_builtin;refine wpList_append_two rfl _ _ rfl rfl rfl HE1.out ?_) | fail);go_roundw
     case rel=>exact⟨k+1,by omega,by go_num,HE2.out,HE3.out⟩
     case measure=>simp[intOf];omega
  ·obtain rfl:k=n:=by omega
   have s1:¬ (k:Int)<(k:Int):=by omega
   have HE2:=Lib.hid (show MidsOut w R (.returned (.slice A1 (midsTo l k).length c1)) wr by rw[HLE.out];exact⟨A1,c1,rfl,hrow,hbel⟩);clear hlt hrow HLE;generalize midsTo l k=L at *;go_wp2;go_ret;exact HE2.out
end Go.Proofs.YtokbfellcadkpaaGreat
namespace Go.Proofs.YtokbfellcadkpaaGreat
open Go.RowKit
set_option linter.unusedVariables false
set_option maxRecDepth 100000
section
variable {E E' : List Nat} {w w' w'' : World}
theorem Kept.row {base:Nat}{v:Value}{l:List EntS}(h:Kept E w w')(hr:EntRow w base v l)(hE:∀ b∈ownL v,b∈E) : EntRow w' base v l:=by
 refine⟨hr.1, ?_⟩;rcases hr.2 with h0 | ⟨g,cap,cur,hv,hg,hh,r⟩
 ·exact Or.inl h0
 ·exact Or.inr ⟨g,cap,cur,hv,hg,(h.block g (hE g (ownL_mem.2 (by rw[hv];rfl)))).trans hh,r⟩
theorem Kept.mids {v:Value}{l:List MidS}(h:Kept E w w')(hm:MidsIn w v l)(hE:∀ b∈ownL v,b∈E) : MidsIn w' v l:=by
 rcases hm with hm | ⟨b,off,cap,rfl,h1,h2,h3,h4⟩
 ·exact Or.inl hm
 ·exact Or.inr ⟨b,off,cap,rfl,h1,h2,Nat.lt_of_lt_of_le h3 h.size,fun i x hx j u hu=>(World.cell?_of_block (w:=w) (h.block b (hE b (ownL_mem.2 rfl)))).trans (h4 i x hx j u hu)⟩
theorem Kept.ents {v:Value}{l:List EntS}(h:Kept E w w')(hm:EntsIn w v l)(hE:∀ b∈ownL v,b∈E) : EntsIn w' v l:=by
 rcases hm with hm | ⟨b,off,cap,rfl,h1,h2,h3,h4⟩
 ·exact Or.inl hm
 ·exact Or.inr ⟨b,off,cap,rfl,h1,h2,Nat.lt_of_lt_of_le h3 h.size,fun i x hx j u hu=>(World.cell?_of_block (w:=w) (h.block b (hE b (ownL_mem.2 rfl)))).trans (h4 i x hx j u hu)⟩
theorem Kept.filter {f:Value}{t:ByteArray}{p q:Value}{m:Option Nat}(h:Kept E w w')(hf:FilterAt w (.agg #[p,q,.map m]) t)(hE:∀ b,m=some b→b∈E) : FilterAt w' (.agg #[p,q,.map m]) t:=by
 rcases hf with hf | ⟨h1,mb,e,hm⟩
 ·exact Or.inl hf
 ·refine Or.inr ⟨h1,mb,e,hm.of_block (h.block mb (hE mb ?_))⟩;injection e with e;have:=congrArg (fun a=>a[2]?) e;simpa using this
theorem touch_3 {g:Nat}(w:World)(a b c:Value) : Touch [g] w (((w.setCell ⟨g,0,none⟩ a).setCell ⟨g,1,none⟩ b).setCell ⟨g,2,none⟩ c) :=
 (((Touch.refl [g] w).setCell (p:=⟨g,0,none⟩) (Or.inl (List.mem_singleton.2 rfl)) a).setCell (p:=⟨g,1,none⟩) (Or.inl (List.mem_singleton.2 rfl)) b).setCell (p:=⟨g,2,none⟩) (Or.inl (List.mem_singleton.2 rfl)) c
theorem row_own {base:Nat}{v:Value}{l:List EntS}(h:EntRow w base v l) : ∀ b∈ownL v,base≤b∧b<w.heap.size:=by
 intro b hb;have hb:=ownL_mem.1 hb;rcases h.2 with⟨rfl,-⟩ | ⟨g,cap,cur,rfl,hg,hh,-⟩
 ·cases hb
 ·have e:g=b:=by simpa[Value.ownBlock] using hb
  rw[← e];exact⟨hg,(Array.getElem?_eq_some_iff.1 hh).1⟩
end
def PtAt (w:World)(gt gd:Nat)(n:Int)(l:List EntS)(t:ByteArray)(G:List Nat) : Prop :=
 ∃ A c p q m,Blok w gt 219 #[ptr gt,ptr gd,.int .i64 n,.int .i64 (l.length:Nat),.slice A (midsL l).length c,.int .i64 p,.int .i64 q,.map m] ∧
  MidsIn w (.slice A (midsL l).length c) (midsL l)∧FilterAt w (.agg #[.int .i64 p,.int .i64 q,.map m]) t∧gt∈G∧(∀ b∈ownL (.slice A (midsL l).length c),b∈G)∧∀ b,m=some b→b∈G
section
variable {w w' : World} {gt gd : Nat} {n : Int} {l : List EntS} {t : ByteArray} {G E : List Nat}
theorem PtAt.keep (h:PtAt w gt gd n l t G)(hk:Kept E w w')(hG:∀ b∈G,b∈E) : PtAt w' gt gd n l t G:=by
 obtain⟨A,c,p,q,m,h1,h2,h3,h4,h5,h6⟩:=h;exact⟨A,c,p,q,m,hk.blok h1 (hG gt h4),hk.mids h2 (fun b hb=>hG b (h5 b hb)),hk.filter (f:=.nilIface) h3 (fun b hb=>hG b (h6 b hb)),h4,h5,h6⟩
theorem PtAt.below (h:PtAt w gt gd n l t G)(hb:Below w.heap.size w w') : PtAt w' gt gd n l t G:=by
 obtain⟨A,c,p,q,m,h1,h2,h3,h4,h5,h6⟩:=h;exact⟨A,c,p,q,m,Blok.below h1 hb,h2.below hb (Nat.le_refl _),h3.below hb,h4,h5,h6⟩
theorem PtAt.drew (h:PtAt w gt gd n l t G) : PtAt w.drew gt gd n l t G:=h.below (Below.refl _ _).drew
theorem PtAt.cells (h:PtAt w gt gd n l t G) : w.cell? ⟨gt,0,none⟩=some (ptr gt)∧w.cell? ⟨gt,1,none⟩=some (ptr gd)∧w.cell? ⟨gt,2,none⟩=some (.int .i64 n)∧w.cell? ⟨gt,3,none⟩=some (.int .i64 (l.length:Nat)):=by
 obtain⟨A,c,p,q,m,h1,-⟩:=h;exact⟨h1.cell 0,h1.cell 1,h1.cell 2,h1.cell 3⟩
end
end Go.Proofs.YtokbfellcadkpaaGreat
namespace Go.Proofs.YtokbfellcadkpaaGreat
open Go.RowKit
set_option linter.unusedVariables false
set_option maxRecDepth 100000
theorem info_ptab : (Tryz.prog.info? 219).map (·.size)=some 8:=by kernel_rfl
theorem ptsame_in (d:Nat)(p:Addr)(w:World) : (Op.equalIn (d+1) 164 (.pointer (some p)) (.pointer (some p))).run Tryz.prog w = .ok true w:=by
 cases hq:Tryz.prog.info? 219 with
 | none=>have:=info_ptab;rw[hq] at this;cases this
 | some i =>
   have hi:i.size=8:=by have:=info_ptab;rw[hq] at this;simpa using this
   simp[Op.equalIn,run_underlying Tryz.underlying164,sizeOf,typeInfo,hq,sameAddr]
theorem ptsame_ptr (p:Addr)(w:World) : (binOp .neq 164 (.pointer (some p)) (.pointer (some p))).run Tryz.prog w = .ok (.bool false) w:=by
 have he:(Op.equal 164 (.pointer (some p)) (.pointer (some p))).run Tryz.prog w = .ok true w:=ptsame_in 9999 p w;simp only[binOp];simp[he]
theorem ptnone_run {w:World}{gt:Nat}(h:w.cell? ⟨gt,0,none⟩=some (ptr gt)) : Calls Tryz.prog 170 #[ptr gt] w fun e w'=>e = .returned (.bool false)∧w=w':=by
 have hsp:=ptsame_ptr ⟨gt,0,none⟩;go_enter Tryz.func170,Tryz.ntmps170;go_wp2;go_ret;exact⟨rfl,rfl⟩
theorem ptnone_nil (w:World) : Calls Tryz.prog 170 #[.pointer none] w fun e w'=>e = .returned (.bool true)∧w=w':=by
 go_enter Tryz.func170,Tryz.ntmps170;go_wp2;go_ret;exact⟨rfl,rfl⟩
section
variable {w : World} {gt gd : Nat} {n : Int} {l : List EntS} {t : ByteArray} {G : List Nat}
theorem ptnum_run (h:PtAt w gt gd n l t G) : Calls Tryz.prog 107 #[ptr gt] w fun e w'=>e = .returned (.int .i64 n)∧w=w':=by
 obtain⟨c0,c1,c2,c3⟩:=h.cells;have hn:=Lib.hid (ptnone_run c0);clear h c0 c1 c3;go_enter Tryz.func107,Tryz.ntmps107;go_wp2_with fail;refine hn.out.mono ?_;rintro e w' ⟨rfl,rfl⟩;go_wp2;go_ret;exact⟨rfl,rfl⟩
end
section
variable {At : Lies} (api : DiskApi At) {w0 w : World} {gd : Nat} {D : DiskS} {E : List Nat}
include api
theorem ptup_run (h:DS At w0 gd D E w)(ok:WfP D) : Calls Tryz.prog 160 #[ptr gd] w fun e w'=>e = .returned (err (if D.down=true then 61 else 0))∧w=w':=by
 have hS:=h.size api ok ⟨#[110,101,119]⟩ (by decide);rcases sizeS_two D ⟨#[110,101,119]⟩ with⟨h1,h2⟩ | ⟨h1,h2⟩
 ·rw[if_pos h1];rw[h2] at hS;have HS:=Lib.hid hS;clear hS;go_enter Tryz.func160,Tryz.ntmps160;go_wp2_with fail;refine HS.out.mono ?_;rintro e w' ⟨rfl,rfl⟩;go_wp2;go_ret;exact⟨rfl,rfl⟩
 ·rw[if_neg (by rw[h1];decide)];have t1:(((sizeS D ⟨#[110,101,119]⟩).2:Int)==1)=false:=by simp;omega
  have t2:(((sizeS D ⟨#[110,101,119]⟩).2:Int)==61)=false:=by simp;omega
  have HS:=Lib.hid hS;generalize (sizeS D ⟨#[110,101,119]⟩).1=a at *;generalize (sizeS D ⟨#[110,101,119]⟩).2=b at *;clear hS h2;go_enter Tryz.func160,Tryz.ntmps160;go_wp2_with fail;refine HS.out.mono ?_;rintro e w' ⟨rfl,rfl⟩;go_wp2;go_ret;exact⟨rfl,rfl⟩
theorem ptlay_run (h:DS At w0 gd D E w)(ok:WfP D)(n s:ByteArray)(hn:n.size≤maxLen)(hs:s.size≤1099511627776) : Calls Tryz.prog 163 #[ptr gd,.string n,.string s] w (DEnd At w0 gd (err (layP D n s).1) (layP D n s).2 E w):=by
 have k1:=h.disk api (fun F hF=>api.create n hF ok.ok hn);have o1:=wp_create ok n;have o2:=wp_append o1 n s;have k2:=fun W (hW:DS At w0 gd (createS D n).2 E W)=>hW.disk api (fun F hF=>api.append n s hF o1.ok hs hn)
 have k3:=fun W (hW:DS At w0 gd (appendS (createS D n).2 n s).2 E W)=>hW.disk api (fun F hF=>api.sync n hF o2.ok hn)
 unfold layP;by_cases h1:(createS D n).1=0
 ·rw[if_neg (by simp[h1])];rw[h1] at k1;by_cases h2:(appendS (createS D n).2 n s).1=0
  ·rw[if_neg (by simp[h2])];rw[h2] at k2;generalize syncS (appendS (createS D n).2 n s).2 n=X3 at *;generalize (appendS (createS D n).2 n s).2=D2 at *;generalize (createS D n).2=D1 at *;have K1:=Lib.hid k1;have K2:=Lib.hid k2;have K3:=Lib.hid k3;clear k1 k2 k3 h ok o1 o2 h1 h2 hn hs;go_enter Tryz.func163,Tryz.ntmps163;go_wp2_with fail;refine K1.out.mono ?_;rintro e w1 ⟨rfl,d1,q1⟩;have H1:=Lib.hid (And.intro d1 q1);clear d1 q1;go_wp2_with fail;refine(K2.out _ H1.out.1).mono ?_;rintro e w2 ⟨rfl,d2,q2⟩;have H2:=Lib.hid (And.intro d2 q2);clear d2 q2;go_wp2_with fail;refine(K3.out _ H2.out.1).mono ?_;rintro e w3 ⟨rfl,d3,q3⟩;have H3:=Lib.hid (And.intro d3 q3);clear d3 q3;go_wp2;go_ret;exact⟨rfl,H3.out.1,(H1.out.2.trans H2.out.2).trans H3.out.2⟩
  ·rw[if_pos h2];have t:(((appendS (createS D n).2 n s).1:Int) != 0)=true:=by simp;omega
   generalize appendS (createS D n).2 n s=X2 at *;generalize (createS D n).2=D1 at *;generalize X2.1=y at *;have K1:=Lib.hid k1;have K2:=Lib.hid k2;clear k1 k2 k3 h ok o1 o2 h1 h2 hn hs;go_enter Tryz.func163,Tryz.ntmps163;go_wp2_with fail;refine K1.out.mono ?_;rintro e w1 ⟨rfl,d1,q1⟩;have H1:=Lib.hid (And.intro d1 q1);clear d1 q1;go_wp2_with fail;refine(K2.out _ H1.out.1).mono ?_;rintro e w2 ⟨rfl,d2,q2⟩;have H2:=Lib.hid (And.intro d2 q2);clear d2 q2;go_wp2;go_ret;exact⟨rfl,H2.out.1,H1.out.2.trans H2.out.2⟩
 ·rw[if_pos h1];have t:(((createS D n).1:Int) != 0)=true:=by simp;omega
  generalize createS D n=X1 at *;generalize X1.1=y at *;have K1:=Lib.hid k1;clear k1 k2 k3 h ok o1 o2 h1 hn hs;go_enter Tryz.func163,Tryz.ntmps163;go_wp2_with fail;refine K1.out.mono ?_;rintro e w1 ⟨rfl,d1,q1⟩;have H1:=Lib.hid (And.intro d1 q1);clear d1 q1;go_wp2;go_ret;exact⟨rfl,H1.out.1,H1.out.2⟩
theorem whole_run (h:DS At w0 gd D E w)(ok:WfP D)(hc:D.count≤1099511627776)(n:ByteArray)(hn:n.size≤maxLen) : Calls Tryz.prog 194 #[ptr gd,.string n] w (DEnd At w0 gd (.tuple #[.string (rdW D n).1,err (rdW D n).2.1]) (rdW D n).2.2 E w):=by
 have hz:=sizeS_most ok n;have k1:=h.size api ok n hn;have k2:=h.disk api (fun F hF=>api.read n 0 ((sizeS D n).1:Nat) hF ok.ok hc (by decide) (WalkArith.wf_i64 (by omega)) hn);unfold rdW;by_cases h1:(sizeS D n).2=0
 ·rw[if_pos h1];rw[h1] at k1;generalize (sizeS D n).1=z at *;generalize readS D n 0 (z:Nat)=r at *;have K1:=Lib.hid k1;have K2:=Lib.hid k2;clear k1 k2 h ok hc hn h1 hz;go_enter Tryz.func194,Tryz.ntmps194;go_wp2_with fail;refine K1.out.mono ?_;rintro e w1 ⟨rfl,rfl⟩;go_wp2_with fail;refine K2.out.mono ?_;rintro e w2 ⟨rfl,d2,q2⟩;have H2:=Lib.hid (And.intro d2 q2);clear d2 q2;go_wp2;go_ret2;exact⟨rfl,H2.out.1,H2.out.2⟩
 ·rw[if_neg h1];have t:(((sizeS D n).2:Int) != 0)=true:=by simp;omega
  generalize (sizeS D n).1=z at *;generalize (sizeS D n).2=y at *;have K1:=Lib.hid k1;have HH:=Lib.hid h;clear k1 k2 h ok hc hn h1 hz;go_enter Tryz.func194,Tryz.ntmps194;go_wp2_with fail;refine K1.out.mono ?_;rintro e w1 ⟨rfl,rfl⟩;go_wp2;go_ret2;exact⟨rfl,HH.out,Kept.refl _ _⟩
end
end Go.Proofs.YtokbfellcadkpaaGreat
namespace Go.Proofs.YtokbfellcadkpaaGreat
set_option maxRecDepth 100000
set_option linter.unusedVariables false
section
open Go.RowKit
def HasT (D:DiskS)(n:Int)(l:List EntS) : Prop:=∃ f,fileOf D.l (ptT n)=some f∧tgOk f.data=true∧tgL f.data=l
theorem HasT.count {D:DiskS}{n:Int}{l:List EntS}(h:HasT D n l)(k:Nat) : HasT { D with count:=k } n l:=h
theorem HasT.props {D:DiskS}{n:Int}{l:List EntS}(h:HasT D n l) : RiseE l∧(∀ x∈l,mayE x=true)∧∀ x∈l,EntOk x:=by
 obtain⟨f,h1,h2,rfl⟩:=h;obtain⟨k1,k2,k3⟩:=tg_rise h2;exact⟨k1,k2,tg_entok _⟩
end
section
open Go.RowKit Go.Shelf
theorem append_bare {w:World}(a:Addr)(vx:Value)(m:List EntS)(hs:EntsIn w vx m)(h0:m≠[])(hl:m.length≤1000000)(ty:TypeId) :
  (Builtin.append_ #[37,37] ty #[.slice (some a) 0 0,vx]).run Tryz.prog w=(Builtin.append_ #[37,37] ty #[.slice none 0 0,vx]).run Tryz.prog w:=by
 have hm:0<m.length:=List.length_pos_iff.2 h0;obtain⟨i,hi,hz0,hz1,hz2⟩:=info_parts info_ent;obtain⟨hlen,hsrc⟩:=hs.src;rcases hsrc with⟨c,rfl,hc⟩ | ⟨b,c,rfl,hc⟩
 ·omega
 ·have e1:=run_append_grow (P:=Tryz.prog) w 37 ty 63 i _ Tryz.underlying37 hi hz0 a 0 0 [] (by simp) (fun j v h=>by simp at h) b m.length c (entFlat m) (by rw[hz1];exact hlen) hc (by omega) (by omega) (growslice_fits (by omega) (by rw[hz2];omega));have e2:=run_append_nil (P:=Tryz.prog) w 37 ty 63 i _ Tryz.underlying37 hi hz0 b m.length c (entFlat m) (by rw[hz1];exact hlen) hc hm (by omega) (by rw[hz2];omega);rw[e1,e2];simp
theorem ents_fresh {w:World}{base:Nat}{vx:Value}{m:List EntS}(A:Option Addr)(hsrc:EntsIn w vx m)(h0:m≠[])(hl:m.length≤1000000)(hb:base≤w.heap.size)(ty:TypeId) :
  ∃ A' c w',(Builtin.append_ #[37,37] ty #[.slice A 0 0,vx]).run Tryz.prog w = .ok (.slice A' m.length c) w'∧EntRow w' base (.slice A' m.length c) m∧w.grownBy w' none∧((Value.slice A' m.length c).ownBlock=none∨(Value.slice A' m.length c).ownBlock=some w.heap.size):=by
 have h:=ents_append (EntRow.nil w base) hsrc (by simpa using hl) hb ty;simp only[List.length_nil,Nat.zero_add,List.nil_append] at h;cases A with
 | none=>exact h
 | some a =>
   rw[append_bare a vx m hsrc h0 hl ty];exact h
theorem step_append_fresh {ops:Array Oper}{o:Oper}{a:Act}{w:World}{K:Act→World→Prop}{Q:Exit→Act→World→Prop}{E:Prop}{vx:Value}{base:Nat}{A:Option Addr}{m:List EntS}(hgd:o.guard=none)(s x:Operand)
  (ho:o.op = .call { callee:=.builtin .append,args:=#[s,x],argTypes:=#[37,37] }) (hs:a.eval s = .slice A 0 0) (hx:a.eval x=vx)
  (hsrc:EntsIn w vx m) (h0:m≠[]) (hl:m.length≤1000000) (hb:base≤w.heap.size)
  (h:∀ v' w',EntRow w' base v' m→w.grownBy w' none→(v'.ownBlock=(Value.slice none 0 0).ownBlock∨v'.ownBlock=some w.heap.size)→K (a.put o.dst v') w') :
  if Region.wanted o (yielded ops a.tmps)=true then Oper.wp Tryz.prog o a w K Q else E:=by
 obtain⟨A',c,w',e1,e2,e3,e4⟩:=ents_fresh A hsrc h0 hl hb o.type;exact step_append_run hgd s x _ ho hs hx e1 (h _ w' e2 e3 e4)
theorem row_take {w:World}{base n c k:Nat}{A:Option Addr}{l:List EntS}(h:EntRow w base (.slice A n c) l)(hn:n=l.length)(hk:k≤n) : EntRow w base (.slice A k c) (l.take k)∧sliced A 0 k c 3 = .slice A k c∧k≤c:=by
 subst hn;have hlen:(l.take k).length=k:=by rw[List.length_take];omega
 rcases h.2 with⟨hv,h0⟩ | ⟨g,cap,cur,hv,hg,hh,hn,hm,hsz,ht⟩
 ·obtain⟨rfl,-,rfl⟩:=Value.slice.inj hv;obtain rfl:k=0:=by omega
  rw[List.take_zero];exact⟨EntRow.nil _ _,rfl,Nat.le_refl _⟩
 ·obtain⟨rfl,-,rfl⟩:=Value.slice.inj hv;refine⟨⟨?_,Or.inr ⟨g,c,cur,by rw[hlen],hg,hh,by rw[hlen];omega,hm,hsz, ?_⟩⟩, ?_,by omega⟩
  ·rw[entFlat_length]
  ·have e:entFlat l=entFlat (l.take k)++entFlat (l.drop k):=by rw[← entFlat_append,List.take_append_drop]
   rw[hlen];have h2:cur.toList.take (k*3)=(cur.toList.take (l.length*3)).take (k*3):=by rw[List.take_take];congr 1;omega
   rw[h2,ht,e,List.take_left' (by rw[entFlat_length,hlen])]
  ·unfold sliced;by_cases hc:c=0
   ·rw[if_pos hc];simp
   ·rw[if_neg hc];simp[Addr.add]
theorem slice_at {n c k:Nat}{A:Option Addr}(hk:k≤c)(W:World) : (Instr.slice 37 (.slice A n c) (some (.int .i64 (k:Nat))) (some (.int .i64 (k:Nat))) (some (.int .i64 (k:Nat)))).run Tryz.prog W = .ok (.slice A 0 0) W:=by
 have hz:(sizeOf (Tryz.prog.elem 37)).run Tryz.prog W = .ok 3 W:=by simp[go_sem]
 rw[run_slice_lhm W _ _ _ c Tryz.underlying37 .i64 .i64 .i64 _ _ _ (by omega) (by omega) (by omega) (by omega),hz];show Result.ok (sliced _ _ _ _ _) W=_;rw[Int.toNat_natCast];unfold sliced;rw[if_pos rfl,Nat.sub_self]
theorem slice_to {n c k:Nat}{A:Option Addr}(hk:k≤c)(e:sliced A 0 k c 3 = .slice A k c)(W:World) : (Instr.slice 37 (.slice A n c) none (some (.int .i64 (k:Nat))) none).run Tryz.prog W = .ok (.slice A k c) W:=by
 have hz:(sizeOf (Tryz.prog.elem 37)).run Tryz.prog W = .ok 3 W:=by simp[go_sem]
 rw[run_slice_h W _ _ _ c Tryz.underlying37 .i64 _ (by omega) (by omega),hz];show Result.ok (sliced _ _ _ _ _) W=_;rw[Int.toNat_natCast,e]
theorem tab_ne : (63:TypeId)≠161:=by decide
theorem laid_end {w w1 V2 V3:World}{base g n c:Nat}{F:List Nat}{A:Option Addr}{l m:List EntS}{x:EntS}{v3:Value}(h:TabAt w base g F l)(hx:EntOk x)(hok:layEn l x=m)
  (hv:EntRow w base (.slice A n c) l) (hF:∀ k,(Value.slice A n c).ownBlock=some k→k∈F) (hw1:Touch [] w w1) (hb:Below w1.heap.size w1 V2) (hg:V2.grownBy V3 (Value.slice A n c).ownBlock) (ho:EntRow V3 base v3 m)
  (hat:v3.ownBlock=(Value.slice A n c).ownBlock∨v3.ownBlock=some V2.heap.size):TabEnd base g F w (.tuple #[]) m (.returned (.tuple #[])) (V3.setCell ⟨g,1,none⟩ v3):=by
 obtain⟨v,h1,h2,h3,h4,h5,h6,h7⟩:=h;have t2:Touch F w V2:=(hw1.trans (Touch.of_below hb) (fun x hx=>by cases hx)).more (fun x hx=>by cases hx);have t3:Touch F w V3:=t2.grown hg (fun k hk=>Or.inl (hF k hk));have t4:Touch F w (V3.setCell ⟨g,1,none⟩ v3):=t3.setCell (p:=⟨g,1,none⟩) (Or.inl h4) v3;have hgne:(Value.slice A n c).ownBlock≠some g:=own_ne hv h1 tab_ne;have B2:Blok V2 g 161 #[mtp g,v]:=h1.touch (hw1.trans (Touch.of_below hb) (fun x hx=>by cases hx)) (by simp);have B3:Blok V3 g 161 #[mtp g,v]:=(hg.block g B2.lt (fun e=>hgne e.symm)).trans B2;have B4:Blok (V3.setCell ⟨g,1,none⟩ v3) g 161 #[mtp g,v3]:=B3.put 1 v3;have o4:EntRow (V3.setCell ⟨g,1,none⟩ v3) base v3 m:=own_far ho (own_ne ho B3 tab_ne) v3
 have hmok:∀ y∈m,EntOk y:=fun y hy=>by
  rw[← hok] at hy;rcases mem_layE hy with k | k
  ·exact h7 y k
  ·rw[k];exact hx
 have hr:RiseE m:=by rw[← hok];exact rise_layE h6 x
 have hsz:(V3.setCell ⟨g,1,none⟩ v3).heap.size=V3.heap.size:=by simp[World.setCell]
 rcases hat with e | e
 ·exact⟨F,rfl,⟨v3,B4,o4,fun k hk=>hF k (by rw[← e];exact hk),h4,fun y hy=>⟨(h5 y hy).1,Nat.lt_of_lt_of_le (h5 y hy).2 t4.size⟩,hr,hmok⟩,fun y hy=>Or.inl hy,t4⟩
 ·have hlt:=o4.lt _ e;refine⟨V2.heap.size::F,rfl,⟨v3,B4,o4,fun k hk=>?_,List.mem_cons_of_mem _ h4,fun y hy=>?_,hr,hmok⟩,fun y hy=>?_,t4⟩
  ·rw[e] at hk;injection hk with hk;rw[← hk];exact List.mem_cons_self
  ·rcases List.mem_cons.1 hy with k | k
   ·rw[k];exact⟨hlt.1,hlt.2⟩
   ·exact⟨(h5 y k).1,Nat.lt_of_lt_of_le (h5 y k).2 t4.size⟩
  ·rcases List.mem_cons.1 hy with k | k
   ·rw[k];exact Or.inr t2.size
   ·exact Or.inl k
end
end Go.Proofs.YtokbfellcadkpaaGreat
namespace Go.Proofs.YtokbfellcadkpaaGreat
open Go.RowKit Go.Shelf
set_option linter.unusedVariables false
set_option maxRecDepth 100000
attribute [local go_sem ↓] Go.wp_at_zero Go.wp_at_succ
set_option maxHeartbeats 4000000 in
set_option maxRecDepth 100000 in
theorem lay_run {w:World}{base g:Nat}{F:List Nat}{l:List EntS}{x:EntS}(h:TabAt w base g F l)(hx:EntOk x)(hn:l.length≤100000)(hne:x ∉ l) :
  Calls Tryz.prog 138 #[mtp g,.int .i64 (posE l x:Nat),entB x] w (TabEnd base g F w (.tuple #[]) (layEn l x)):=by
 have HT:=Lib.hid h;obtain⟨v,h1,h2,h3,h4,h5,h6,h7⟩:=h;obtain⟨A,c,rfl,hnc,hcm,-,-⟩:=own_form h2;have hp:=posE_le l x;obtain⟨n,hnn⟩:∃ n,n=l.length:=⟨_,rfl⟩
 obtain⟨k,hk⟩:∃ k,k=posE l x:=⟨_,rfl⟩
 have HL:=Lib.hid (mlay_new hne);rw[← hk] at hp HL ⊢;rw[← hnn] at hp hnc h1 h2 h3 hn;have hin:EntsIn w (.slice A n c) l:=by rw[hnn] at h2 ⊢;exact EntRow.in_ h2
 obtain⟨rt,rs,rk⟩:=row_take h2 hnn hp;have E0:EnAt (w.alloc (.cells #[.int .u64 (x.h:Nat),.int .i64 x.v,.int .i64 x.p] 63)) w.heap.size x.h x.v x.p:=Blok.new _ _ _;have hT1:Touch [] w (w.alloc (.cells #[.int .u64 (x.h:Nat),.int .i64 x.v,.int .i64 x.p] 63)):=(Touch.refl [] w).alloc _;obtain⟨B,hB⟩:∃ B,w.heap.size=B:=⟨_,rfl⟩
 rw[hB] at E0;obtain⟨w1,hw1⟩:∃ w1,w.alloc (.cells #[.int .u64 (x.h:Nat),.int .i64 x.v,.int .i64 x.p] 63)=w1:=⟨_,rfl⟩
 rw[hw1] at E0 hT1;have hin1:EntsIn w1 (.slice A n c) l:=hin.below (B:=w.heap.size) (hT1.below (Nat.le_refl _) (fun x hx=>by cases hx)) (Nat.le_refl _);have g1:Blok w1 g 161 #[mtp g,.slice A n c]:=h1.touch hT1 (by simp);obtain⟨A2,c2,q2,p2⟩:=ents_from hin1 (k:=k) (by omega);have q1:=slice_at (A:=A) (n:=n) rk;have q3:=slice_to (A:=A) (n:=n) rk rs;rw[← hnn] at q2 p2;have HP:=Lib.hid p2
 have HS:Hid (∀ W,Below w1.heap.size w1 W→Below w1.heap.size w1 W∧W.cell? ⟨g,1,none⟩=some (.slice A n c)∧W.cell? ⟨B,0,none⟩=some (.int .u64 (x.h:Nat))∧W.cell? ⟨B,1,none⟩=some (.int .i64 x.v)∧W.cell? ⟨B,2,none⟩=some (.int .i64 x.p)):=Lib.hid fun W hW =>
  ⟨hW,(hW.cell (p:=⟨g,1,none⟩) g1.lt).trans (g1.cell 1),(hW.cell (p:=⟨B,0,none⟩) E0.lt).trans (E0.cell 0),(hW.cell (p:=⟨B,1,none⟩) E0.lt).trans (E0.cell 1),(hW.cell (p:=⟨B,2,none⟩) E0.lt).trans (E0.cell 2)⟩
 have HBb:Hid (∀ W,Below w1.heap.size w1 W→w1.heap.size≤W.heap.size):=Lib.hid fun W hW=>hW.size
 have HD:Hid ((l.drop k).length≤100000):=Lib.hid (by rw[List.length_drop,← hnn];omega)
 have HEND:Hid (∀ V2 V3 v3,Below w1.heap.size w1 V2→V2.grownBy V3 (Value.slice A n c).ownBlock→EntRow V3 base v3 (l.take k++([x]++l.drop k))→(v3.ownBlock=(Value.slice A n c).ownBlock∨v3.ownBlock=some V2.heap.size)→TabEnd base g F w (.tuple #[]) (layEn l x) (.returned (.tuple #[])) (V3.setCell ⟨g,1,none⟩ v3)) :=
  Lib.hid fun V2 V3 v3 a1 a2 a3 a4=>laid_end HT.out hx rfl h2 h3 hT1 a1 a2 (by rw[HL.out];exact a3) a4
 have HG:Hid (∀ V2,Below w1.heap.size w1 V2→Blok V2 g 161 #[mtp g,.slice A n c]∧EntRow V2 base (.slice A k c) (l.take k)∧base≤V2.heap.size):=Lib.hid fun V2 a=>by
  have hb2:Below w.heap.size w V2:=(hT1.below (Nat.le_refl _) (fun x hx=>by cases hx)).trans (a.mono hT1.size);exact⟨g1.touch (Touch.of_below a) (by simp),EntRow.below rt hb2 (Nat.le_refl _),Nat.le_trans (h5 g h4).1 (Nat.le_trans (Nat.le_of_lt (h5 g h4).2) hb2.size)⟩
 have HNE:Hid ((Value.slice A k c).ownBlock=(Value.slice A n c).ownBlock):=Lib.hid (by cases A<;>rfl);have HGN:Hid ((Value.slice A n c).ownBlock≠some g):=Lib.hid (own_ne h2 h1 tab_ne);have HTL:Hid ((l.take k).length=k):=Lib.hid (by rw[List.length_take];omega);obtain⟨-,s0,s1,s2,s3⟩:=HS.out w1 (Below.refl _ _);have hw1':∀ H:World,H=w1→H=w1:=fun _ h=>h
 clear h1 h2 h3 h4 h5 h6 h7 hin rt rs hT1 hin1 g1 E0 p2 HT hne;have HN:=Lib.hid hnn;have HK:=Lib.hid hk;clear hnn hk;generalize layEn l x=R at *;go_enter Tryz.func138,Tryz.ntmps138;go_wp2_with fail
 go_region_held_law (fun W=>Below w1.heap.size w1 W∧W.cell? ⟨g,1,none⟩=some (.slice A n c)∧W.cell? ⟨B,0,none⟩=some (.int .u64 (x.h:Nat))∧W.cell? ⟨B,1,none⟩=some (.int .i64 x.v)∧W.cell? ⟨B,2,none⟩=some (.int .i64 x.p))
  (first | (with_reducible assumption) | ((with_reducible refine HS.out _ ?_);(repeat' (first | (with_reducible assumption) | (with_reducible exact Below.refl _ _) | (with_reducible refine Below.drew ?_) | (with_reducible refine st_alloc ?_ _) | exact And.left (by with_reducible assumption)));done) | fail)
  (first
  | (refine step_append_fresh (A:=A) (m:=[x]) (base:=w1.heap.size) (by rfl) _ _ (by rfl) (by rfl) (by rfl) (ent_one _ x) (by simp) (by simp) (HBb.out _ (by first | (with_reducible exact And.left (by with_reducible assumption)) | (refine st_alloc ?_ _;exact And.left (by with_reducible assumption)))) ?_;intro v1 V1 own1 gr1 at1;have far1:∀ z,v1.ownBlock=some z→w1.heap.size≤z:=far_more (by first | (with_reducible exact And.left (by with_reducible assumption)) | (refine st_alloc ?_ _;exact And.left (by with_reducible assumption))) far_none at1;have b1:Below w1.heap.size w1 V1:=st_grown (by first | (with_reducible exact And.left (by with_reducible assumption)) | (refine st_alloc ?_ _;exact And.left (by with_reducible assumption))) gr1 far_none)
  | (refine step_append_ents (l:=[x]) (m:=l.drop k) (by rfl) _ _ (by rfl) (by rfl) (by rfl) own1 (HP.out _ _ (Nat.le_refl _) b1) (by have:=HD.out;simp only[List.length_cons,List.length_nil];omega) (HBb.out _ b1) ?_;intro v2 V2 own2 gr2 at2;have far2:∀ z,v2.ownBlock=some z→w1.heap.size≤z:=far_more b1 far1 at2;have b2:Below w1.heap.size w1 V2:=st_grown b1 gr2 far1)
  | fail)
 all_goals
  clear gr1 at1 far1 b1 own1 gr2 at2 far2;obtain⟨gB,rT,hb0⟩:=HG.out V2 b2;obtain⟨A3,c3,V3,e1,e2,e3,e4⟩:=ents_append rT (EntRow.in_ own2) (by have:=HD.out;have:=HTL.out;simp only[List.length_append,List.length_cons,List.length_nil];omega) hb0 37;rw[HNE.out] at e3 e4;have gB3:Blok V3 g 161 #[mtp g,.slice A n c]:=(e3.block g gB.lt (fun e=>HGN.out e.symm)).trans gB;have HFIN:=Lib.hid (HEND.out V2 V3 _ b2 e3 e2 e4);have k1:=gB3.cell 1;have f1:=gB3.frozen 1;have k2:=gB.cell 1;have HE:=Lib.hid e1;obtain⟨A4,c4,rfl,-⟩:=EntRow.shape own2;clear e1 e2 e3 e4 gB3 gB rT own2 b2;generalize (l.take k).length+([x]++l.drop k).length=N at *;generalize ([x]++l.drop k).length=M at *;go_wp2_with (first | (at_builtin;refine wpList_append_two rfl _ _ rfl rfl rfl HE.out ?_) | fail);go_end0;exact HFIN.out
end Go.Proofs.YtokbfellcadkpaaGreat
namespace Go.Proofs.YtokbfellcadkpaaGreat
open Go.RowKit Go.Shelf
set_option linter.unusedVariables false
set_option maxRecDepth 100000
attribute [local go_sem ↓] Go.wp_at_zero Go.wp_at_succ
theorem TabEnd.since {w W:World}{base g:Nat}{F:List Nat}{r:Value}{l:List EntS}{e:Ending}{w':World}(h:TabEnd base g F W r l e w')(ht:Touch [] w W) : TabEnd base g F w r l e w':=by
 obtain⟨F',h1,h2,h3,h4⟩:=h;refine⟨F',h1,h2,fun x hx=>?_,(ht.more (G:=F) (fun x hx=>by cases hx)).trans h4 (fun x hx=>Or.inl hx)⟩;rcases h3 x hx with k | k
 ·exact Or.inl k
 ·exact Or.inr (Nat.le_trans ht.size k)
theorem TabEnd.same {w W:World}{base g:Nat}{F:List Nat}{r:Value}{l:List EntS}(h:TabAt W base g F l)(ht:Touch [] w W) : TabEnd base g F w r l (.returned r) W :=
 ⟨F,rfl,h,fun x hx=>Or.inl hx,ht.more (fun x hx=>by cases hx)⟩
set_option maxHeartbeats 4000000 in
set_option maxRecDepth 100000 in
theorem add_run {w:World}{base g:Nat}{F:List Nat}{l:List EntS}{x:EntS}(h:TabAt w base g F l)(hx:EntOk x)(hn:l.length≤100000) :
  Calls Tryz.prog 71 #[mtp g,entB x] w (TabEnd base g F w (.bool (!decide (x∈l))) (layEn l x)):=by
 have HT:=Lib.hid h;obtain⟨A,c,c0,c1,-,hrow,hg⟩:=h.shape;have hr:RiseE l:=by obtain⟨v,h1,h2,h3,h4,h5,h6,h7⟩:=h;exact h6
 have hin:=EntRow.in_ hrow;have hT1:Touch [] w ((w.alloc (.cells #[mtp g] 87)).alloc (.cells #[.int .u64 (x.h:Nat),.int .i64 x.v,.int .i64 x.p] 63)):=((Touch.refl [] w).alloc _).alloc _;have E1:Blok ((w.alloc (.cells #[mtp g] 87)).alloc (.cells #[.int .u64 (x.h:Nat),.int .i64 x.v,.int .i64 x.p] 63)) w.heap.size 87 #[mtp g]:=Blok.alloc (Blok.new _ _ _) _
 have E2:EnAt ((w.alloc (.cells #[mtp g] 87)).alloc (.cells #[.int .u64 (x.h:Nat),.int .i64 x.v,.int .i64 x.p] 63)) (w.heap.size+1) x.h x.v x.p:=by
  have:=Blok.new (w.alloc (.cells #[mtp g] 87)) 63 #[.int .u64 (x.h:Nat),.int .i64 x.v,.int .i64 x.p];rw[show(w.alloc (.cells #[mtp g] 87)).heap.size=w.heap.size+1 by simp] at this;exact this
 obtain⟨B,hB⟩:∃ B,w.heap.size=B:=⟨_,rfl⟩
 rw[hB] at E1 E2;obtain⟨w2,hw2⟩:∃ w2,(w.alloc (.cells #[mtp g] 87)).alloc (.cells #[.int .u64 (x.h:Nat),.int .i64 x.v,.int .i64 x.p] 63)=w2:=⟨_,rfl⟩
 rw[hw2] at E1 E2 hT1;have hb1:Below w.heap.size w w2:=hT1.below (Nat.le_refl _) (fun x hx=>by cases hx);have hin2:EntsIn w2 (.slice A l.length c) l:=hin.below hb1 (Nat.le_refl _);have q:∀ {p:Addr} {u:Value},w.cell? p=some u→w2.cell? p=some u:=fun {p u} k=>(hb1.cell (p:=p) (World.block_lt_of_cell? w _ k)).trans k
 have d0:=q c0;have d1:=q c1;have e0:=E1.cell 0;obtain⟨x0,x1,x2,-,-,-⟩:=E2.facts;have hK:=posE_le l x;obtain⟨n,hnn⟩:∃ n,n=l.length:=⟨_,rfl⟩
 obtain⟨K,hKK⟩:∃ K,K=posE l x:=⟨_,rfl⟩
 have HF:=Lib.hid hin2.form;have HIN:=Lib.hid hin2;rw[← hnn] at c1 d1 hin2 hn hK HIN;rw[← hKK] at hK;have hen:Enters Tryz.prog 136:=aq_enters;have hmf:∀ (fn:Fn) (first cap:Array Value) (w:World),(Instr.makeFunc fn first cap).run Tryz.prog w = .ok (.func fn first cap) w:=fun _ _ _ _=>rfl
 have HSE:Hid (Calls Tryz.prog 135 #[.int .i64 (n:Nat),.func (.func 136) #[] #[mtp B,mtp (B+1)]] w2 (AtEnd K w2)):=Lib.hid (by
  refine ssearch_any _ _ _ n K w2 (by omega) hK hen (fun i W hi hW=>?_);obtain⟨y,hy⟩:∃ y,l[i]? = some y:=⟨_,List.getElem?_eq_getElem (by rw[← hnn];exact hi)⟩
  obtain⟨b,off,rfl,-,-,y0,y1,y2⟩:=ent_cell HIN.out hy;have hA:AskAt w2 B (B+1) g b (off+i*3) (.slice (some ⟨b,off,none⟩) n c) x y:=⟨e0,d1,x0,x1,x2,y0,y1,y2⟩
  have:=addq_any B (B+1) g b off n c i x y W hi (by omega) (hA.below hW);rw[pos_ask hr hy,← hKK] at this;exact this)
 have hno:=Lib.hid (tnone_run d0)
 have HLAY:Hid (∀ W,Below w2.heap.size w2 W→x ∉ l→Calls Tryz.prog 138 #[mtp g,.int .i64 (K:Nat),entB x] W (TabEnd base g F W (.tuple #[]) (layEn l x))):=Lib.hid fun W hW hne=>by
  have hA:TabAt W base g F l:=(HT.out.touch hT1 (fun _ _=>by simp)).below hW;have:=lay_run hA hx (by rw[← hnn];exact hn) hne;rw[← hKK] at this;exact this
 have HSW:Hid (∀ W,Below w2.heap.size w2 W→W.cell? ⟨B,0,none⟩=some (mtp g)∧W.cell? ⟨g,1,none⟩=some (.slice A n c)∧W.cell? ⟨B+1,0,none⟩=some (.int .u64 (x.h:Nat))∧W.cell? ⟨B+1,1,none⟩=some (.int .i64 x.v)∧W.cell? ⟨B+1,2,none⟩=some (.int .i64 x.p)):=Lib.hid fun W hW=>by
  have q:∀ {p:Addr} {u:Value},w2.cell? p=some u→W.cell? p=some u:=fun {p u} k=>(hW.cell (p:=p) (World.block_lt_of_cell? w2 _ k)).trans k
  exact⟨q e0,q d1,q x0,q x1,q x2⟩
 have HME:=Lib.hid (show l[K]? = some x↔x∈l by rw[hKK];exact pos_mem_iff hr);have HOLD:=Lib.hid (show x∈l→layEn l x=l from lay_old hr);have HTW:Hid (Touch [] w w2):=Lib.hid hT1;have HX:=Lib.hid hx;have HNN:=Lib.hid hnn;clear h hr hin hT1 E1 E2 hb1 hin2 c0 c1 q hx hrow hnn hKK;by_cases hlt:K<n
 ·obtain⟨y,hy⟩:∃ y,l[K]? = some y:=⟨_,List.getElem?_eq_getElem (by rw[← HNN.out];exact hlt)⟩
  obtain⟨b,off,rfl,-,hbk,y0,y1,y2⟩:=ent_cell HIN.out hy;have heq:=fun W=>ent_eql y x W
  have t1:(K:Int)<(n:Int):=by omega
  by_cases hyx:y=x
  ·have hm:x∈l:=by rw[hyx] at hy;exact HME.out.1 hy
   rw[decide_eq_true hyx] at heq;rw[decide_eq_true hm,HOLD.out hm];have HHY:=Lib.hid hyx;have HBK:=Lib.hid hbk;clear hm hyx hy;go_enter Tryz.func71,Tryz.ntmps71;go_wp2_with fail;refine hno.out.mono ?_;rintro e w' ⟨rfl,rfl⟩;go_wp2_with fail;refine HSE.out.mono ?_;rintro e w3 ⟨rfl,hb3⟩;obtain⟨z0,z1,z2,z3,z4⟩:=HSW.out w3 hb3;have u0:=(hb3.cell (p:=⟨b,off+K*3,none⟩) hbk).trans y0;have u1:=(hb3.cell (p:=⟨b,off+K*3+1,none⟩) hbk).trans y1;have u2:=(hb3.cell (p:=⟨b,off+K*3+2,none⟩) hbk).trans y2;clear y0 y1 y2 d0 d1 e0 x0 x1 x2;obtain⟨xh,xv,xp⟩:=x;obtain⟨yh,yv,yp⟩:=y;simp only at u0 u1 u2 z2 z3 z4;go_wp2;go_quiet (fail);go_wp2;go_ret;exact TabEnd.same (((HT.out.touch HTW.out (fun _ _=>by simp)).below hb3).drewN _) ((HTW.out.trans (Touch.of_below hb3) (fun x hx=>by cases hx)).drewN _)
  ·have hm:x ∉ l:=fun k=>hyx (by have:=HME.out.2 k;rw[hy] at this;exact Option.some.inj this)
   rw[decide_eq_false hyx] at heq;rw[decide_eq_false hm];have HM:=Lib.hid hm;clear hm hyx hy;go_enter Tryz.func71,Tryz.ntmps71;go_wp2_with fail;refine hno.out.mono ?_;rintro e w' ⟨rfl,rfl⟩;go_wp2_with fail;refine HSE.out.mono ?_;rintro e w3 ⟨rfl,hb3⟩;obtain⟨z0,z1,z2,z3,z4⟩:=HSW.out w3 hb3;have u0:=(hb3.cell (p:=⟨b,off+K*3,none⟩) hbk).trans y0;have u1:=(hb3.cell (p:=⟨b,off+K*3+1,none⟩) hbk).trans y1;have u2:=(hb3.cell (p:=⟨b,off+K*3+2,none⟩) hbk).trans y2;clear y0 y1 y2 d0 d1 e0 x0 x1 x2;generalize layEn l x=R at *;obtain⟨xh,xv,xp⟩:=x;obtain⟨yh,yv,yp⟩:=y;simp only at u0 u1 u2 z2 z3 z4;go_wp2;go_quiet (fail);go_wp2_with fail;refine(HLAY.out _ (below_drewN hb3 _) HM.out).mono ?_;rintro e w4 ⟨F',rfl,g2,g3,g4⟩;go_wp2;go_ret;exact TabEnd.since ⟨F',rfl,g2,g3,g4⟩ ((HTW.out.trans (Touch.of_below hb3) (fun x hx=>by cases hx)).drewN _)
 ·have hm:x ∉ l:=fun k=>by
   have h2:=HME.out.2 k;rw[List.getElem?_eq_none (by rw[← HNN.out];omega)] at h2;cases h2
  rw[decide_eq_false hm];have HM:=Lib.hid hm;have t1:¬ (K:Int)<(n:Int):=by omega
  have t2:decide (K<n)=false:=decide_eq_false hlt;clear hm HF HIN;generalize layEn l x=R at *;go_enter Tryz.func71,Tryz.ntmps71;go_wp2_with fail;refine hno.out.mono ?_;rintro e w' ⟨rfl,rfl⟩;go_wp2_with fail;refine HSE.out.mono ?_;rintro e w3 ⟨rfl,hb3⟩;obtain⟨z0,z1,z2,z3,z4⟩:=HSW.out w3 hb3;obtain⟨xh,xv,xp⟩:=x;simp only at z2 z3 z4;go_wp2;go_quiet (fail);go_wp2_with fail;refine(HLAY.out _ (below_drewN hb3 _) HM.out).mono ?_;rintro e w4 ⟨F',rfl,g2,g3,g4⟩;go_wp2;go_ret;exact TabEnd.since ⟨F',rfl,g2,g3,g4⟩ ((HTW.out.trans (Touch.of_below hb3) (fun x hx=>by cases hx)).drewN _)
end Go.Proofs.YtokbfellcadkpaaGreat
