/- ZpPtMath, ZpMdMake, ZpMdNarrow, ZpMdNarrowRef, ZpPtMem, ZpPtSmall, ZpPtAsk, ZpPtRead, ZpPtRange, ZpPtLast, ZpEntSortRef, ZpIxWith -/
import Derived.Test.YtcpfkaehefcakaaGreatPp04
import Derived.Test.YtcpfkaehefcakaaGreatPp08
import Derived.Test.YtcpfkaehefcakaaGreatPp03
import Derived.Test.YtcpfkaehefcakaaGreatPp06
import Derived.Deep.CutBlock
import Derived.Deep.DeepCutAuto
import Derived.Deep.DrawnRows
import Derived.WalkMore
import Derived.Test.YtcpfkaehefcakaaGreatPp02
import Derived.Deep.RegionHeld3
import Derived.Deep.DeepMust
import Derived.Deep.RegionHeldLaw
namespace Go.Proofs.YtcpfkaehefcakaaGreat
set_option maxRecDepth 100000
set_option linter.unusedVariables false
section
def ptT (n:Int) : ByteArray:=nmS 116 n
def ptB (n:Int) : ByteArray:=nmS 98 n
theorem pt_size (c:UInt8)(n:Int) : (nmS c n).size≤7:=by
 unfold nmS
 split
 ·rw[bs_size,List.length_cons,de_length]
  omega
 ·exact Nat.zero_le _
theorem ptT_le (n:Int) : (ptT n).size≤maxLen:=Nat.le_trans (pt_size 116 n) (by decide)
theorem ptB_le (n:Int) : (ptB n).size≤maxLen:=Nat.le_trans (pt_size 98 n) (by decide)
theorem pt_name {n:Nat}(h:n≤999999) : nameB (ptT n)=true∧nameB (ptB n)=true:=by
 unfold ptT ptB nameB
 rw[nm_size h,nm_size h]
 decide
theorem pt_full {n:Nat}(h:n≤999999) : ptT n≠ByteArray.empty:=by
 intro e
 have:=nm_size (c:=116) h
 rw[show nmS 116 (n:Nat)=ByteArray.empty from e] at this
 exact absurd this (by decide)
theorem pt_ne {n m:Nat}(h:n≤999999)(k:m≤999999) : ptB n≠ptT m:=by
 unfold ptB ptT
 rw[nm_yes h,nm_yes k]
 intro e
 have h2:=congrArg (fun s:ByteArray=>s.data.toList.head?) e
 simp only[dbs,List.head?_cons] at h2
 exact absurd h2 (by decide)
def writeP (D:DiskS)(n:Int)(l:List EntS)(t:ByteArray) : Nat × DiskS :=
 if ptT n=ByteArray.empty∨tbOk l=false then(2,D)
 else if D.down=true then(61,D)
 else if (D.cap:Int)-(usedS D.l:Nat)-(t.size:Nat)-((tbB l).size:Nat)<6000 then(60,D)
 else if (layP D (ptB n) t).1≠0 then layP D (ptB n) t
 else if (layP (layP D (ptB n) t).2 (ptT n) (tbB l)).1≠0 then((layP (layP D (ptB n) t).2 (ptT n) (tbB l)).1,(deleteS (layP (layP D (ptB n) t).2 (ptT n) (tbB l)).2 (ptB n)).2)
 else layP (layP D (ptB n) t).2 (ptT n) (tbB l)
def goneP (r:Nat) : Bool:=decide (r=0)||decide (r=4)
def dropP (D:DiskS)(n:Int) : Nat × DiskS :=
 if goneP (deleteS D (ptT n)).1=false then deleteS D (ptT n)
 else if goneP (deleteS (deleteS D (ptT n)).2 (ptB n)).1=false then deleteS (deleteS D (ptT n)).2 (ptB n)
 else(0,(deleteS (deleteS D (ptT n)).2 (ptB n)).2)
def keepsP (t:ByteArray)(l:List EntS) : Bool:=l.all fun x=>mayT t x.h
theorem keepsP_iff {t:ByteArray}{l:List EntS} : keepsP t l=true↔∀ x∈l,mayT t x.h=true:=by unfold keepsP;rw[List.all_eq_true]
theorem keeps_none (l:List EntS) : keepsP ByteArray.empty l=true:=keepsP_iff.2 fun x _=>mayT_no (hdOk_short (by decide)) _
def ldF (D:DiskS)(n:Int)(l:List EntS) : ByteArray:=if (rdW D (ptB n)).2.1=0∧keepsP (rdW D (ptB n)).1 l=true then(rdW D (ptB n)).1 else ByteArray.empty
theorem ldF_keeps (D:DiskS)(n:Int)(l:List EntS) : keepsP (ldF D n l) l=true:=by
 unfold ldF
 split
 ·rename_i h;exact h.2
 ·exact keeps_none l
def openE (D:DiskS)(n:Int) : Nat:=if D.down=true then 61 else if (rdW D (ptT n)).2.1≠0 then 90 else if tgOk (rdW D (ptT n)).1=false then 90 else 0
def openD (D:DiskS)(n:Int) : DiskS:=if D.down=true then D else if (rdW D (ptT n)).2.1≠0 then(rdW D (ptT n)).2.2 else if tgOk (rdW D (ptT n)).1=false then(rdW D (ptT n)).2.2 else(rdW (rdW D (ptT n)).2.2 (ptB n)).2.2
def toldP (e:Nat) : Nat:=if e=0 then 0 else if e=61 then 61 else 90
def readyP (D:DiskS)(n:Int) : Nat:=toldP (sizeS D (ptT n)).2
def mayP (l:List EntS)(t:ByteArray)(h:Nat) : Bool:=decide (0<l.length)&&mayT t h
def pcP (s:ByteArray)(i:Nat) : ByteArray:=s.extract (24*i) (24*i+24)
def okP (s:ByteArray)(m:Nat) : Bool:=(List.range m).all fun i=>enOk (pcP s i)
def gotP (s:ByteArray)(m:Nat) : List EntS:=(List.range m).map fun i=>enG (pcP s i)
theorem okP_iff {s:ByteArray}{m:Nat} : okP s m=true↔∀ i,i<m→enOk (pcP s i)=true:=by unfold okP;rw[List.all_eq_true];simp
theorem gotP_length (s:ByteArray)(m:Nat) : (gotP s m).length=m:=by unfold gotP;rw[List.length_map,List.length_range]
def aheadP (s:ByteArray) : ByteArray:=bs (List.replicate 8 0++s.data.toList)
theorem ahead_piece (s:ByteArray)(i:Nat) : tbPiece (aheadP s) i=pcP s i:=by
 unfold tbPiece pcP aheadP
 rw[sl_extbs,sl_extbs,sl_list,show 8+24*i=(List.replicate 8 (0:UInt8)).length+24*i by rw[List.length_replicate],List.drop_length_add_append,show 32+24*i-((List.replicate 8 (0:UInt8)).length+24*i)=24 by rw[List.length_replicate];omega,show 24*i+24-24*i=24 by omega]
theorem ahead_got (s:ByteArray)(m:Nat) : tbGot (aheadP s) m=gotP s m:=by
 unfold tbGot gotP
 simp only[ahead_piece]
theorem pc_of {s:ByteArray}{lo hi i:Nat}(hi2:i<hi-lo) : pcP (s.extract (8+24*lo) (8+24*hi)) i=tbPiece s (lo+i):=by
 unfold pcP tbPiece
 rw[sl_extbs,sl_extbs s,sl_extbs s,sl_list,List.drop_take,List.take_take,List.drop_drop,show 24*i+24-24*i=24 by omega,show 32+24*(lo+i)-(8+24*(lo+i))=24 by omega,
  show 8+24*lo+24*i=8+24*(lo+i) by omega,Nat.min_eq_left (by omega)]
theorem got_of {s:ByteArray}(h:tgOk s=true){lo hi:Nat}(hh:hi≤(tgL s).length) : okP (s.extract (8+24*lo) (8+24*hi)) (hi-lo)=true∧gotP (s.extract (8+24*lo) (8+24*hi)) (hi-lo)=((tgL s).drop lo).take (hi-lo):=by
 obtain⟨h1,h2,h3,h4,h5,h6,h7⟩:=tgOk_iff.1 h
 rw[(tg_yes h).1] at hh ⊢
 rw[tbGot_length] at hh
 refine⟨okP_iff.2 fun i hi2=>by rw[pc_of hi2];exact h6 _ (by omega), ?_⟩
 apply List.ext_getElem?
 intro i
 unfold gotP
 rw[List.getElem?_map,List.getElem?_take,List.getElem?_drop]
 by_cases c:i<hi-lo
 ·rw[if_pos c,List.getElem?_range c,tbGot_at _ (by omega)]
  show some (enG (pcP _ i))=_
  rw[pc_of c]
 ·rw[if_neg c,List.getElem?_eq_none (by rw[List.length_range];omega)]
  rfl
theorem tg_rise {s:ByteArray}(h:tgOk s=true) : RiseE (tgL s)∧(∀ x∈tgL s,mayE x=true)∧s.size=12+24*(tgL s).length:=by
 obtain⟨h1,h2,h3,h4,h5,h6,h7⟩:=tgOk_iff.1 h
 rw[(tg_yes h).1,tbGot_length]
 exact⟨sorted_rise h7,got_may s h6,h4⟩
theorem got_entok (s:ByteArray) : ∀ x:ByteArray,EntOk (enG x):=by
 intro x
 unfold enG
 split
 ·rename_i h
  have:=of_decide_eq_true h
  exact⟨getS_lt _,by simp only;omega,by simp only;omega,by simp only;omega,by simp only;omega⟩
 ·exact⟨by decide,by decide,by decide,by decide,by decide⟩
theorem tg_entok (s:ByteArray) : ∀ x∈tgL s,EntOk x:=by
 intro x hx
 unfold tgL tbGot at hx
 split at hx
 ·obtain⟨i,_,rfl⟩:=List.mem_map.1 hx
  exact got_entok s _
 ·cases hx
theorem filter_window {q:EntS→Bool}{l:List EntS}{lo hi:Nat}(h:∀ (i:Nat) (x:EntS),l[i]? = some x→q x=true→lo≤i∧i<hi) : l.filter q=((l.drop lo).take (hi-lo)).filter q:=by
 have e:l=l.take lo++((l.drop lo).take (hi-lo)++(l.drop lo).drop (hi-lo)):=by rw[List.take_append_drop,List.take_append_drop]
 have e1:(l.take lo).filter q=[]:=List.filter_eq_nil_iff.2 fun y hy hq=>by
  obtain⟨j,hj⟩:=List.getElem?_of_mem hy
  have hjl:=(List.getElem?_eq_some_iff.1 hj).1
  rw[List.length_take] at hjl
  rw[List.getElem?_take,if_pos (by omega)] at hj
  have:=(h j y hj hq).1
  omega
 have e2:((l.drop lo).drop (hi-lo)).filter q=[]:=List.filter_eq_nil_iff.2 fun y hy hq=>by
  obtain⟨j,hj⟩:=List.getElem?_of_mem hy
  rw[List.getElem?_drop,List.getElem?_drop] at hj
  have:=(h _ y hj hq).2
  omega
 conv=>lhs;rw[e]
 rw[List.filter_append,List.filter_append,e1,e2,List.nil_append,List.append_nil]
theorem window_rise {l:List EntS}(h:RiseE l)(lo m:Nat) : RiseE ((l.drop lo).take m):=List.Pairwise.take (List.Pairwise.drop h)
theorem window_at {l:List EntS}{lo m i:Nat} : ((l.drop lo).take m)[i]? = if i<m then l[lo+i]? else none:=by rw[List.getElem?_take,List.getElem?_drop]
theorem window_mem {l:List EntS}{lo m:Nat}{x:EntS}(h:x∈(l.drop lo).take m) : x∈l:=List.mem_of_mem_drop (List.mem_of_mem_take h)
theorem less_zero {y:EntS}{h:Nat}{v:Int}(hm:mayE y=true) : lessE y ⟨h,v,0⟩=srchQ h v y:=by
 have:=of_decide_eq_true hm
 unfold lessE srchQ
 rw[decide_eq_decide]
 simp only
 omega
theorem srch_next (h:Nat)(v:Int)(y:EntS) : srchQ h (v+1) y=thruQ h v y:=by
 unfold srchQ thruQ
 rw[decide_eq_decide]
 omega
theorem count_zero {l:List EntS}(hm:∀ x∈l,mayE x=true)(h:Nat)(v:Int) : l.countP (fun y=>lessE y ⟨h,v,0⟩)=l.countP (srchQ h v):=List.countP_congr fun y hy=>by rw[less_zero (hm y hy)]
theorem count_next (l:List EntS)(h:Nat)(v:Int) : l.countP (srchQ h (v+1))=l.countP (thruQ h v):=List.countP_congr fun y hy=>by rw[srch_next]
theorem range_window {l:List EntS}(hr:RiseE l){h:Nat}{a b:Int}{lo hi:Nat}(h1:lo≤l.countP (srchQ h a))(h2:l.countP (thruQ h b)≤hi) : rangeE ((l.drop lo).take (hi-lo)) h a b=rangeE l h a b:=by
 unfold rangeE
 refine(filter_window fun i x hx hq=>?_).symm
 have hq:=of_decide_eq_true hq
 have c1:=cut_count (srch_down h a) hr i x hx
 have c2:=cut_count (thru_down h b) hr i x hx
 constructor
 ·have:srchQ h a x=false:=decide_eq_false (by omega)
  rw[this] at c1
  have:=of_decide_eq_false c1.symm
  omega
 ·have:thruQ h b x=true:=decide_eq_true (by omega)
  rw[this] at c2
  have:=of_decide_eq_true c2.symm
  omega
theorem range_empty {l:List EntS}(hr:RiseE l){h:Nat}{a b:Int}{lo hi:Nat}(h1:lo≤l.countP (srchQ h a))(h2:l.countP (thruQ h b)≤hi)(h3:hi≤lo) : rangeE l h a b=[]:=by
 rw[← range_window hr h1 h2,Nat.sub_eq_zero_of_le h3]
 rfl
theorem IsCut.window {q:EntS→Bool}{l:List EntS}{k lo hi:Nat}(h:IsCut q l k)(h1:lo≤k) : IsCut q ((l.drop lo).take (hi-lo)) (k-lo):=by
 intro i x hx
 rw[window_at] at hx
 split at hx
 ·rw[h _ x hx,decide_eq_decide]
  omega
 ·cases hx
theorem last_window {l:List EntS}(hr:RiseE l){h:Nat}{b:Int}{lo hi:Nat}(h1:lo-1≤l.countP (thruQ h b)-1)(h1':lo≤l.countP (thruQ h b))(h2:l.countP (thruQ h b)≤hi)(h3:hi≤l.length) : lastO ((l.drop (lo-1)).take (hi-(lo-1))) h b=lastO l h b:=by
 have hc:=cut_count (thru_down h b) hr
 generalize l.countP (thruQ h b)=K at *
 cases K with
 | zero =>
   have hw:=IsCut.window (lo:=lo-1) (hi:=hi) hc (by omega)
   rw[show 0-(lo-1)=0 by omega] at hw
   rw[last_cut_zero hc,last_cut_zero hw]
 | succ k =>
   have hw:=IsCut.window (lo:=lo-1) (hi:=hi) hc (by omega)
   have hk:k<l.length:=by omega
   have hx:l[k]? = some l[k]:=List.getElem?_eq_getElem hk
   have hx2:((l.drop (lo-1)).take (hi-(lo-1)))[k-(lo-1)]? = some l[k]:=by rw[window_at,if_pos (by omega),show lo-1+(k-(lo-1))=k by omega];exact hx
   rw[show k+1-(lo-1)=k-(lo-1)+1 by omega] at hw
   by_cases e:(l[k]).h=h
   ·rw[last_cut hc hx e,last_cut hw hx2 e]
   ·rw[last_cut_no hr hc hx e,last_cut_no (window_rise hr _ _) hw hx2 e]
theorem range_low {l:List EntS}(hm:∀ x∈l,mayE x=true)(h:Nat)(a b:Int) : rangeE l h (max a 0) b=rangeE l h a b:=by
 unfold rangeE
 refine List.filter_congr fun x hx=>?_
 have:=of_decide_eq_true (hm x hx)
 unfold inQ
 rw[decide_eq_decide]
 omega
theorem keeps_range {t:ByteArray}{l:List EntS}(hk:keepsP t l=true){h:Nat}(hn:mayP l t h=false)(a b:Int) : rangeE l h a b=[]∧lastO l h b=none:=by
 have hno:∀ x∈l,¬ x.h=h:=fun x hx e=>by
  have h1:=keepsP_iff.1 hk x hx
  have h2:0<l.length:=List.length_pos_of_mem hx
  unfold mayP at hn
  rw[decide_eq_true h2,← e,h1] at hn
  cases hn
 exact⟨List.filter_eq_nil_iff.2 fun x hx hq=>hno x hx (of_decide_eq_true hq).1,last_none fun x hx=>decide_eq_false fun c=>hno x hx c.1⟩
end
end Go.Proofs.YtcpfkaehefcakaaGreat
namespace Go.Proofs.YtcpfkaehefcakaaGreat
open Go.RowKit Go.Shelf
set_option linter.unusedVariables false
set_option maxRecDepth 100000
attribute [local go_sem ↓] Go.wp_at_zero Go.wp_at_succ
def MidsOut (w:World)(l:List MidS)(e:Ending)(w':World) : Prop:=∃ A c,e = .returned (.slice A l.length c)∧MidRow w' w.heap.size (.slice A l.length c) l∧Below w.heap.size w w'
theorem mid_more {w:World}{base k:Nat}{v:Value}{l:List EntS}{x:EntS}(hrow:MidRow w base v (midsTo l k))(hx:l[k]? = some x)(hm:isMid l.length k=true)(hn:l.length≤10000)(hb:base≤w.heap.size)(ty:TypeId){g:Nat}(hg:w.heap.size=g) :
  ∃ w' u,(Builtin.append_ #[139,139] ty #[v,.slice (some ⟨g,0,none⟩) 1 1]).run Tryz.prog (w.alloc (.cells #[.int .u64 (x.h:Nat),.int .i64 x.v,.int .i64 x.p,.int .i64 (k:Nat)] 186)) = .ok u w' ∧
   (∃ A c,u = .slice A (midsTo l (k+1)).length c∧MidRow w' base (.slice A (midsTo l (k+1)).length c) (midsTo l (k+1)))∧Below base w w':=by
 subst hg
 have hk:k<l.length:=(List.getElem?_eq_some_iff.1 hx).1
 have hlen:=midsTo_length l k
 have h:=mids_append (MidRow.alloc hrow (.cells #[.int .u64 (x.h:Nat),.int .i64 x.v,.int .i64 x.p,.int .i64 (k:Nat)] 186)) (mid_one w ⟨x,(k:Nat)⟩) (by simp;omega) (by simp;omega) ty
 rw[← mids_yes hx hm] at h
 obtain⟨A,c,w',e1,e2,e3,-⟩:=h
 have e4:(midsTo l k).length+[(⟨x,(k:Nat)⟩:MidS)].length=(midsTo l (k+1)).length:=by rw[mids_yes hx hm,List.length_append]
 rw[e4] at e1 e2
 refine⟨w',_,e1,⟨A,c,rfl,e2⟩, ?_⟩
 exact((Below.refl base w).alloc hb _).trans (grown_below e3 (by simp;omega) (MidRow.block hrow))
set_option maxHeartbeats 2000000 in
set_option maxRecDepth 100000 in
theorem mmake_any (v:Value)(l:List EntS)(w:World)(hl:EntsIn w v l)(hn:l.length≤10000) :
  Calls Tryz.prog 87 #[v] w (MidsOut w (midsL l)):=by
 obtain⟨A0,off,cap,rfl,-,hcell⟩:=hl.form
 have HC:=Lib.hid hcell
 have HLE:=Lib.hid (show MidsOut w (midsL l)=MidsOut w (midsTo l l.length) from rfl)
 generalize midsL l=R at *
 obtain⟨n,hnn⟩:∃ n,n=l.length:=⟨_,rfl⟩
 have HN:=Lib.hid hnn
 rw[← hnn] at hn HLE ⊢
 clear hl hcell hnn
 go_enter Tryz.func87,Tryz.ntmps87
 go_wp2
 go_loopw [3,8] (fun u i wr=>∃ k:Nat,k≤n∧i = .int .i64 k∧(∃ A c,u = .slice A (midsTo l k).length c∧MidRow wr w.heap.size (.slice A (midsTo l k).length c) (midsTo l k))∧Below w.heap.size w wr) (fun _ i _=>n-(intOf i).toNat)
 case atStart=>exact⟨0,Nat.zero_le _,rfl,⟨none,0,rfl,MidRow.nil _ _⟩,Below.refl _ _⟩
 case round =>
  obtain⟨k,hk,rfl,⟨A1,c1,rfl,hrow⟩,hbel⟩:=hrel
  by_cases hlt:k<n
  ·have s1:(k:Int)<(n:Int):=by omega
   obtain⟨x,hx⟩:∃ x,l[k]? = some x:=⟨_,List.getElem?_eq_getElem (by rw[← HN.out];omega)⟩
   obtain⟨bk,rfl,hbk,d0,d1,d2⟩:=HC.out k x hx
   have k0:=(hbel.cell (p:=⟨bk,off+k*3,none⟩) hbk).trans d0
   have k1:=(hbel.cell (p:=⟨bk,off+k*3+1,none⟩) hbk).trans d1
   have k2:=(hbel.cell (p:=⟨bk,off+k*3+2,none⟩) hbk).trans d2
   have hrow2:=MidRow.alloc hrow (.cells #[.int .u64 (x.h:Nat),.int .i64 x.v,.int .i64 x.p] 44)
   have hbel2:=hbel.alloc hbel.size (.cells #[.int .u64 (x.h:Nat),.int .i64 x.v,.int .i64 x.p] 44)
   have e9:IntKind.i64.wrap ((n:Int)-1)=(n:Int)-1:=IntWalk.i64_in _ ⟨by omega,by omega⟩
   have HNo:=Lib.hid (mids_no (l:=l) (k:=k))
   have HIs:isMid l.length k=(decide (k%8=0)||decide (k+1=n)):=by rw[HN.out];rfl
   cases hm:isMid l.length k
   ·have t1:((k:Int)%8==0)=false:=by
     rw[hm] at HIs
     have:=(Bool.or_eq_false_iff.1 HIs.symm).1
     have:=of_decide_eq_false this
     exact beq_eq_false_iff_ne.2 (by omega)
    have t2:((k:Int)==(n:Int)-1)=false:=by
     rw[hm] at HIs
     have:=(Bool.or_eq_false_iff.1 HIs.symm).2
     have:=of_decide_eq_false this
     exact beq_eq_false_iff_ne.2 (by omega)
    have HEQ:=Lib.hid (HNo.out hm)
    have HR2:=Lib.hid hrow2
    have HB2:=Lib.hid hbel2
    have HB:=Lib.hid hbel
    generalize midsTo l k=L at *
    clear hx d0 d1 d2 hrow hrow2 hbel hbel2 HIs hm HNo HLE
    obtain⟨xh,xv,xp⟩:=x
    simp only at k0 k1 k2
    go_wp2
    go_roundw
    case rel=>exact⟨k+1,by omega,by go_num,by rw[HEQ.out];exact⟨A1,c1,rfl,HR2.out⟩,HB2.out⟩
    case measure=>simp[intOf];omega
   ·obtain⟨w',u,e1,e2,e3⟩:=mid_more hrow2 hx hm (by rw[← HN.out];exact hn) hbel2.size 139 (g:=wr.heap.size+1) (by simp)
    have HE1:=Lib.hid e1
    have HE2:=Lib.hid e2
    have HE3:=Lib.hid (hbel2.trans e3)
    rw[hm] at HIs
    have hor:=Bool.or_eq_true_iff.1 HIs.symm
    obtain⟨xh,xv,xp⟩:=x
    simp only at k0 k1 k2 HE1
    generalize (midsTo l k).length=ll at *
    by_cases h8:k%8=0
    ·have t1:((k:Int)%8==0)=true:=beq_iff_eq.2 (by omega)
     clear hx d0 d1 d2 hrow hrow2 hbel hbel2 HIs hm HNo HLE e1 e2 e3 hor
     go_wp2_with (first | (at_builtin;refine wpList_append_two rfl _ _ rfl rfl rfl HE1.out ?_) | fail)
     go_roundw
     case rel=>exact⟨k+1,by omega,by go_num,HE2.out,HE3.out⟩
     case measure=>simp[intOf];omega
    ·have t1:((k:Int)%8==0)=false:=beq_eq_false_iff_ne.2 (by omega)
     have t2:((k:Int)==(n:Int)-1)=true:=by
      rcases hor with q | q
      ·exact absurd (of_decide_eq_true q) h8
      ·have:=of_decide_eq_true q
       exact beq_iff_eq.2 (by omega)
     clear hx d0 d1 d2 hrow hrow2 hbel hbel2 HIs hm HNo HLE e1 e2 e3 hor
     go_wp2_with (first | (at_builtin;refine wpList_append_two rfl _ _ rfl rfl rfl HE1.out ?_) | fail)
     go_roundw
     case rel=>exact⟨k+1,by omega,by go_num,HE2.out,HE3.out⟩
     case measure=>simp[intOf];omega
  ·obtain rfl:k=n:=by omega
   have s1:¬ (k:Int)<(k:Int):=by omega
   have HE2:=Lib.hid (show MidsOut w R (.returned (.slice A1 (midsTo l k).length c1)) wr by rw[HLE.out];exact⟨A1,c1,rfl,hrow,hbel⟩)
   clear hlt hrow HLE
   generalize midsTo l k=L at *
   go_wp2
   go_ret
   exact HE2.out
end Go.Proofs.YtcpfkaehefcakaaGreat
namespace Go.Proofs.YtcpfkaehefcakaaGreat
open Go.RowKit Go.Shelf
set_option linter.unusedVariables false
set_option maxRecDepth 100000
attribute [local go_sem ↓] Go.wp_at_zero Go.wp_at_succ
def NarEnd (r:Int × Int)(w:World)(e:Ending)(w':World) : Prop:=e = .returned (.tuple #[.int .i64 r.1,.int .i64 r.2])∧Below w.heap.size w w'
theorem within_parts (lo hi many a p b q:Int)(h1:(if 0>lo then 0 else lo)=a)(h2:(if many<a then many else a)=p)(h3:(if p>hi then p else hi)=b)(h4:(if many<b then many else b)=q) : withinM lo hi many=(p,q):=by
 unfold withinM
 refine Prod.ext ?_ ?_<;>simp only<;>subst h4 h3 h2 h1<;>(repeat' split)<;>omega
set_option maxRecDepth 100000 in
theorem within_any (lo hi many:Int)(w:World) :
  Calls Tryz.prog 200 #[.int .i64 lo,.int .i64 hi,.int .i64 many] w (NarEnd (withinM lo hi many) w):=by
 obtain⟨a,h1⟩:∃ a:Int,(if 0>lo then 0 else lo)=a:=⟨_,rfl⟩
 obtain⟨p,h2⟩:∃ p:Int,(if many<a then many else a)=p:=⟨_,rfl⟩
 obtain⟨b,h3⟩:∃ b:Int,(if p>hi then p else hi)=b:=⟨_,rfl⟩
 obtain⟨q,h4⟩:∃ q:Int,(if many<b then many else b)=q:=⟨_,rfl⟩
 rw[within_parts lo hi many a p b q h1 h2 h3 h4]
 go_enter Tryz.func200,Tryz.ntmps200
 go_wp2
 go_ret2
 exact⟨rfl,Below.refl _ _⟩
def narM (x:EntS)(m:List MidS)(many:Int) : Int × Int:=withinM (scanM x m 0 (max many 0)).1 (scanM x m 0 (max many 0)).2 (max many 0)
set_option maxHeartbeats 2000000 in
set_option maxRecDepth 100000 in
theorem narrow_any (v:Value)(m:List MidS)(many:Int)(x:EntS)(w:World)(hm:MidsIn w v m)(hn:m.length≤1000000) :
  Calls Tryz.prog 162 #[v,.int .i64 many,entB x] w (NarEnd (narM x m many) w):=by
 obtain⟨A0,off,cap,rfl,hmax,hcell⟩:=hm.form
 have HC:=Lib.hid hcell
 obtain⟨n,hnn⟩:∃ n,n=m.length:=⟨_,rfl⟩
 have HN:=Lib.hid hnn
 obtain⟨mx,hmx⟩:∃ mx,(if 0>many then 0 else many)=mx:=⟨_,rfl⟩
 have emx:max many 0=mx:=by subst hmx;split<;>omega
 have HR:=Lib.hid (show narM x m many=withinM (scanM x m 0 mx).1 (scanM x m 0 mx).2 mx by unfold narM;rw[emx])
 generalize narM x m many=R at *
 rw[← hnn] at hn ⊢
 clear hmax
 have hb1:=(Below.refl w.heap.size w).alloc (Nat.le_refl _) (.cells #[.int .u64 (x.h:Nat),.int .i64 x.v,.int .i64 x.p] 44)
 have E1:=Blok.new w 44 #[.int .u64 (x.h:Nat),.int .i64 x.v,.int .i64 x.p]
 obtain⟨w1,hw1⟩:∃ w1,w.alloc (.cells #[.int .u64 (x.h:Nat),.int .i64 x.v,.int .i64 x.p] 44)=w1:=⟨_,rfl⟩
 obtain⟨B,hB⟩:∃ B,w.heap.size=B:=⟨_,rfl⟩
 rw[hw1] at hb1 E1
 rw[hB] at E1
 have HB1:=Lib.hid hb1
 have HE:=Lib.hid (show ∀ W,Below w1.heap.size w1 W→W.cell? ⟨B,0,none⟩=some (.int .u64 (x.h:Nat))∧W.cell? ⟨B,1,none⟩=some (.int .i64 x.v)∧W.cell? ⟨B,2,none⟩=some (.int .i64 x.p) from fun W hW =>
  ⟨(hW.cell (p:=⟨B,0,none⟩) E1.lt).trans (E1.cell 0),(hW.cell (p:=⟨B,1,none⟩) E1.lt).trans (E1.cell 1),(hW.cell (p:=⟨B,2,none⟩) E1.lt).trans (E1.cell 2)⟩)
 have HCC:=Lib.hid (show ∀ W,Below w1.heap.size w1 W→∀ i y,m[i]? = some y→∃ b,A0=some ⟨b,off,none⟩∧W.cell? ⟨b,off+i*4,none⟩=some (.int .u64 (y.e.h:Nat))∧W.cell? ⟨b,off+i*4+1,none⟩=some (.int .i64 y.e.v)∧W.cell? ⟨b,off+i*4+2,none⟩=some (.int .i64 y.e.p)∧W.cell? ⟨b,off+i*4+3,none⟩=some (.int .i64 y.k) from fun W hW i y hy=>by
  obtain⟨b,e,hb,c0,c1,c2,c3⟩:=HC.out i y hy
  have hW2:=bj HB1.out hW
  exact⟨b,e,(hW2.cell (p:=⟨b,off+i*4,none⟩) hb).trans c0,(hW2.cell (p:=⟨b,off+i*4+1,none⟩) hb).trans c1,(hW2.cell (p:=⟨b,off+i*4+2,none⟩) hb).trans c2,(hW2.cell (p:=⟨b,off+i*4+3,none⟩) hb).trans c3⟩)
 clear hm hcell hnn HC emx hb1 E1
 obtain⟨xh,xv,xp⟩:=x
 simp only at hw1 HE HR
 go_enter Tryz.func162,Tryz.ntmps162
 go_wp2
 go_step3
 go_wp2
 go_step3
 go_wp2
 go_loopw [6,7,15] (fun lo hi i wr=>∃ (k:Nat) (z:Int),k≤n∧i = .int .i64 k∧lo = .int .i64 z∧hi = .int .i64 mx∧scanM ⟨xh,xv,xp⟩ m 0 mx=scanM ⟨xh,xv,xp⟩ (m.drop k) z mx∧Below w1.heap.size w1 wr) (fun _ _ i _=>n-(intOf i).toNat)
 case atStart=>exact⟨0,0,Nat.zero_le _,rfl,rfl,rfl,rfl,Below.refl _ _⟩
 case round =>
  obtain⟨k,z,hk,rfl,rfl,rfl,hsc,hbel⟩:=hrel
  have HS:=Lib.hid hsc
  clear hsc
  by_cases hlt:k<n
  ·have s1:(k:Int)<(n:Int):=by omega
   obtain⟨y,hy⟩:∃ y,m[k]? = some y:=⟨_,List.getElem?_eq_getElem (by rw[← HN.out];omega)⟩
   obtain⟨b,rfl,c0,c1,c2,c3⟩:=HCC.out wr hbel k y hy
   have hd:m.drop k=y::m.drop (k+1):=by
    rw[List.drop_eq_getElem_cons (by rw[← HN.out];omega)]
    have:=List.getElem?_eq_getElem (l:=m) (i:=k) (by rw[← HN.out];omega)
    rw[hy] at this
    rw[← Option.some.inj this]
   have hs2:scanM ⟨xh,xv,xp⟩ (m.drop k) z mx=_:=rfl
   rw[hd] at hs2
   conv at hs2=>rhs;rw[scanM]
   rw[← hd] at hs2
   have hb2:=hbel.alloc hbel.size (.cells #[.int .u64 (y.e.h:Nat),.int .i64 y.e.v,.int .i64 y.e.p,.int .i64 y.k] 186)
   have E2:=Blok.new wr 186 #[.int .u64 (y.e.h:Nat),.int .i64 y.e.v,.int .i64 y.e.p,.int .i64 y.k]
   have HL:=Lib.hid fun W=>eless_any y.e ⟨xh,xv,xp⟩ W
   clear hy hd
   have HHB:=Lib.hid hb2
   have HHE:=Lib.hid E2
   obtain⟨q,hq⟩:∃ q,IntKind.i64.wrap (y.k+1)=q:=⟨_,rfl⟩
   rw[hq] at hs2
   cases o:lessE y.e ⟨xh,xv,xp⟩
   ·rw[o,if_neg (by decide)] at hs2
    rw[o] at HL
    have HR2:=Lib.hid (show R=withinM z y.k mx by rw[HR.out,HS.out,hs2])
    have HW:=Lib.hid fun W=>within_any z y.k mx W
    clear hs2 o hb2 E2 hbel
    generalize withinM z y.k mx=RR at *
    obtain⟨⟨yh,yv,yp⟩,yk⟩:=y
    simp only at c0 c1 c2 c3 hq HL HHB HHE
    obtain⟨a0,a1,a2⟩:=HE.out _ HHB.out
    go_wp2_with fail
    refine(HL.out _).mono ?_
    rintro e w3 ⟨rfl,hb3⟩
    have c33:=((HHE.out).touch (Touch.of_below hb3) (by simp)).cell 3
    have hb4:=bj HHB.out hb3
    go_wp2_with fail
    refine(HW.out _).mono ?_
    rintro e w4 ⟨rfl,hb5⟩
    go_wp2
    go_ret2
    exact⟨by rw[HR2.out];rfl,bj (bj HB1.out hb4) hb5⟩
   ·rw[o,if_pos rfl] at hs2
    rw[o] at HL
    have HR2:=Lib.hid (HS.out.trans hs2)
    clear hs2 o hb2 E2 hbel
    obtain⟨⟨yh,yv,yp⟩,yk⟩:=y
    simp only at c0 c1 c2 c3 hq HL HHB HHE
    obtain⟨a0,a1,a2⟩:=HE.out _ HHB.out
    go_wp2_with fail
    refine(HL.out _).mono ?_
    rintro e w3 ⟨rfl,hb3⟩
    have c33:=((HHE.out).touch (Touch.of_below hb3) (by simp)).cell 3
    have hb4:=bj HHB.out hb3
    go_wp2
    go_roundw
    case rel=>exact⟨k+1,q,by omega,by go_num,rfl,rfl,HR2.out,hb4⟩
    case measure=>simp[intOf];omega
  ·obtain rfl:k=n:=by omega
   have s1:¬ (k:Int)<(k:Int):=by omega
   have hs2:=HS.out
   rw[List.drop_of_length_le (by rw[← HN.out];exact Nat.le_refl _),scanM] at hs2
   have HR2:=Lib.hid (show R=withinM z mx mx by rw[HR.out,hs2])
   have HW:=Lib.hid fun W=>within_any z mx mx W
   clear hs2 hlt
   generalize withinM z mx mx=RR at *
   go_wp2_with fail
   refine(HW.out _).mono ?_
   rintro e w4 ⟨rfl,hb5⟩
   go_wp2
   go_ret2
   exact⟨by rw[HR2.out];rfl,bj (bj HB1.out hbel) hb5⟩
end Go.Proofs.YtcpfkaehefcakaaGreat
namespace Go.Proofs.YtcpfkaehefcakaaGreat
open Go.RowKit Go.Shelf
set_option linter.unusedVariables false
set_option maxRecDepth 100000
attribute [local go_sem ↓] Go.wp_at_zero Go.wp_at_succ
structure NarIs (l:List EntS)(x:EntS)(lo hi:Nat) : Prop where
 own:narM x (midsL l) (l.length:Nat)=((lo:Int),(hi:Int))
 ref:∃ c,CutM x (midsL l) c∧loM (midsL l) c=(lo:Int)∧hiM (midsL l) c (l.length:Nat)=(hi:Int)
 at_least:lo≤l.countP (fun y=>lessE y x)
 at_most:l.countP (fun y=>lessE y x)≤hi
 top:hi≤l.length
 gap:hi≤lo+7
theorem nar_is {l:List EntS}(h:RiseE l)(hn:l.length≤1000000)(x:EntS) : ∃ lo hi,NarIs l x lo hi:=by
 obtain⟨lo,hi,h1,h2,h3,h4,h5,h6⟩:=mids_lo_hi (e:=x) h
 have hc:=mids_cut (e:=x) h
 refine⟨lo,hi, ?_,⟨_,hc,h1,h2⟩,h3,h4,h5,h6⟩
 have hm:max ((l.length:Nat):Int) 0=(l.length:Nat):=by omega
 unfold narM
 rw[hm,scan_cut hc (fun y hy=>(mids_small hn y hy).1)]
 have e:(if cutN l.length (l.countP fun y=>lessE y x)=0 then 0 else loM (midsL l) (cutN l.length (l.countP fun y=>lessE y x)))=(lo:Int):=by
  rw[← h1]
  split
  ·rename_i h0
   rw[h0]
   rfl
  ·rfl
 rw[e,h2]
 exact withinM_id (by simp only;omega) (by simp only;omega) (by simp only;omega)
theorem NarIs.run {l:List EntS}{x:EntS}{lo hi:Nat}(h:NarIs l x lo hi){w:World}{v:Value}(hm:MidsIn w v (midsL l))(hn:l.length≤1000000) :
  Calls Tryz.prog 162 #[v,.int .i64 (l.length:Nat),entB x] w (NarEnd ((lo:Int),(hi:Int)) w):=by
 rw[← h.own]
 have:=midsTo_length l l.length
 exact narrow_any v _ _ x w hm (by unfold midsL;omega)
end Go.Proofs.YtcpfkaehefcakaaGreat
namespace Go.Proofs.YtcpfkaehefcakaaGreat
open Go.RowKit
set_option linter.unusedVariables false
set_option maxRecDepth 100000
def LEnd (At:Lies)(w0:World)(gd:Nat)(l:List EntS)(r:Nat)(D':DiskS)(E:List Nat)(w:World)(e:Ending)(w':World) : Prop :=
 ∃ A c,e = .returned (.tuple #[.slice A l.length c,.int .i64 (r:Nat)])∧EntRow w' w.heap.size (.slice A l.length c) l∧DS At w0 gd D' (ownL (.slice A l.length c)++E) w'∧Kept E w w'
section
variable {E E' : List Nat} {w w' w'' : World}
theorem Kept.row {base:Nat}{v:Value}{l:List EntS}(h:Kept E w w')(hr:EntRow w base v l)(hE:∀ b∈ownL v,b∈E) : EntRow w' base v l:=by
 refine⟨hr.1, ?_⟩
 rcases hr.2 with h0 | ⟨g,cap,cur,hv,hg,hh,r⟩
 ·exact Or.inl h0
 ·exact Or.inr ⟨g,cap,cur,hv,hg,(h.block g (hE g (ownL_mem.2 (by rw[hv];rfl)))).trans hh,r⟩
theorem Kept.mids {v:Value}{l:List MidS}(h:Kept E w w')(hm:MidsIn w v l)(hE:∀ b∈ownL v,b∈E) : MidsIn w' v l:=by
 rcases hm with hm | ⟨b,off,cap,rfl,h1,h2,h3,h4⟩
 ·exact Or.inl hm
 ·exact Or.inr ⟨b,off,cap,rfl,h1,h2,Nat.lt_of_lt_of_le h3 h.size,fun i x hx j u hu=>(World.cell?_of_block (w:=w) (h.block b (hE b (ownL_mem.2 rfl)))).trans (h4 i x hx j u hu)⟩
theorem Kept.ents {v:Value}{l:List EntS}(h:Kept E w w')(hm:EntsIn w v l)(hE:∀ b∈ownL v,b∈E) : EntsIn w' v l:=by
 rcases hm with hm | ⟨b,off,cap,rfl,h1,h2,h3,h4⟩
 ·exact Or.inl hm
 ·exact Or.inr ⟨b,off,cap,rfl,h1,h2,Nat.lt_of_lt_of_le h3 h.size,fun i x hx j u hu=>(World.cell?_of_block (w:=w) (h.block b (hE b (ownL_mem.2 rfl)))).trans (h4 i x hx j u hu)⟩
theorem Kept.filter {f:Value}{t:ByteArray}{p q:Value}{m:Option Nat}(h:Kept E w w')(hf:FilterAt w (.agg #[p,q,.map m]) t)(hE:∀ b,m=some b→b∈E) : FilterAt w' (.agg #[p,q,.map m]) t:=by
 rcases hf with hf | ⟨h1,mb,e,hm⟩
 ·exact Or.inl hf
 ·refine Or.inr ⟨h1,mb,e,hm.of_block (h.block mb (hE mb ?_))⟩
  injection e with e
  have:=congrArg (fun a=>a[2]?) e
  simpa using this
theorem touch_3 {g:Nat}(w:World)(a b c:Value) : Touch [g] w (((w.setCell ⟨g,0,none⟩ a).setCell ⟨g,1,none⟩ b).setCell ⟨g,2,none⟩ c) :=
 (((Touch.refl [g] w).setCell (p:=⟨g,0,none⟩) (Or.inl (List.mem_singleton.2 rfl)) a).setCell (p:=⟨g,1,none⟩) (Or.inl (List.mem_singleton.2 rfl)) b).setCell (p:=⟨g,2,none⟩) (Or.inl (List.mem_singleton.2 rfl)) c
theorem row_own {base:Nat}{v:Value}{l:List EntS}(h:EntRow w base v l) : ∀ b∈ownL v,base≤b∧b<w.heap.size:=by
 intro b hb
 have hb:=ownL_mem.1 hb
 rcases h.2 with⟨rfl,-⟩ | ⟨g,cap,cur,rfl,hg,hh,-⟩
 ·cases hb
 ·have e:g=b:=by simpa[Value.ownBlock] using hb
  rw[← e]
  exact⟨hg,(Array.getElem?_eq_some_iff.1 hh).1⟩
end
def PtAt (w:World)(gt gd:Nat)(n:Int)(l:List EntS)(t:ByteArray)(G:List Nat) : Prop :=
 ∃ A c p q m,Blok w gt 146 #[ptr gt,ptr gd,.int .i64 n,.int .i64 (l.length:Nat),.slice A (midsL l).length c,.int .i64 p,.int .i64 q,.map m] ∧
  MidsIn w (.slice A (midsL l).length c) (midsL l)∧FilterAt w (.agg #[.int .i64 p,.int .i64 q,.map m]) t∧gt∈G∧(∀ b∈ownL (.slice A (midsL l).length c),b∈G)∧∀ b,m=some b→b∈G
section
variable {w w' : World} {gt gd : Nat} {n : Int} {l : List EntS} {t : ByteArray} {G E : List Nat}
theorem PtAt.keep (h:PtAt w gt gd n l t G)(hk:Kept E w w')(hG:∀ b∈G,b∈E) : PtAt w' gt gd n l t G:=by
 obtain⟨A,c,p,q,m,h1,h2,h3,h4,h5,h6⟩:=h
 exact⟨A,c,p,q,m,hk.blok h1 (hG gt h4),hk.mids h2 (fun b hb=>hG b (h5 b hb)),hk.filter (f:=.nilIface) h3 (fun b hb=>hG b (h6 b hb)),h4,h5,h6⟩
theorem PtAt.below (h:PtAt w gt gd n l t G)(hb:Below w.heap.size w w') : PtAt w' gt gd n l t G:=by
 obtain⟨A,c,p,q,m,h1,h2,h3,h4,h5,h6⟩:=h
 exact⟨A,c,p,q,m,Blok.below h1 hb,h2.below hb (Nat.le_refl _),h3.below hb,h4,h5,h6⟩
theorem PtAt.drew (h:PtAt w gt gd n l t G) : PtAt w.drew gt gd n l t G:=h.below (Below.refl _ _).drew
theorem PtAt.cells (h:PtAt w gt gd n l t G) : w.cell? ⟨gt,0,none⟩=some (ptr gt)∧w.cell? ⟨gt,1,none⟩=some (ptr gd)∧w.cell? ⟨gt,2,none⟩=some (.int .i64 n)∧w.cell? ⟨gt,3,none⟩=some (.int .i64 (l.length:Nat)):=by
 obtain⟨A,c,p,q,m,h1,-⟩:=h
 exact⟨h1.cell 0,h1.cell 1,h1.cell 2,h1.cell 3⟩
end
end Go.Proofs.YtcpfkaehefcakaaGreat
namespace Go.Proofs.YtcpfkaehefcakaaGreat
open Go.RowKit
set_option linter.unusedVariables false
set_option maxRecDepth 100000
theorem info_ptab : (Tryz.prog.info? 146).map (·.size)=some 8:=by kernel_rfl
theorem ptsame_in (d:Nat)(p:Addr)(w:World) : (Op.equalIn (d+1) 86 (.pointer (some p)) (.pointer (some p))).run Tryz.prog w = .ok true w:=by
 cases hq:Tryz.prog.info? 146 with
 | none=>have:=info_ptab;rw[hq] at this;cases this
 | some i =>
   have hi:i.size=8:=by have:=info_ptab;rw[hq] at this;simpa using this
   simp[Op.equalIn,run_underlying Tryz.underlying86,sizeOf,typeInfo,hq,sameAddr]
theorem ptsame_ptr (p:Addr)(w:World) : (binOp .neq 86 (.pointer (some p)) (.pointer (some p))).run Tryz.prog w = .ok (.bool false) w:=by
 have he:(Op.equal 86 (.pointer (some p)) (.pointer (some p))).run Tryz.prog w = .ok true w:=ptsame_in 9999 p w
 simp only[binOp]
 simp[he]
theorem ptnone_run {w:World}{gt:Nat}(h:w.cell? ⟨gt,0,none⟩=some (ptr gt)) : Calls Tryz.prog 158 #[ptr gt] w fun e w'=>e = .returned (.bool false)∧w=w':=by
 have hsp:=ptsame_ptr ⟨gt,0,none⟩
 go_enter Tryz.func158,Tryz.ntmps158
 go_wp2
 go_ret
 exact⟨rfl,rfl⟩
theorem ptnone_nil (w:World) : Calls Tryz.prog 158 #[.pointer none] w fun e w'=>e = .returned (.bool true)∧w=w':=by
 go_enter Tryz.func158,Tryz.ntmps158
 go_wp2
 go_ret
 exact⟨rfl,rfl⟩
section
variable {w : World} {gt gd : Nat} {n : Int} {l : List EntS} {t : ByteArray} {G : List Nat}
theorem ptnum_run (h:PtAt w gt gd n l t G) : Calls Tryz.prog 104 #[ptr gt] w fun e w'=>e = .returned (.int .i64 n)∧w=w':=by
 obtain⟨c0,c1,c2,c3⟩:=h.cells
 have hn:=Lib.hid (ptnone_run c0)
 clear h c0 c1 c3
 go_enter Tryz.func104,Tryz.ntmps104
 go_wp2_with fail
 refine hn.out.mono ?_
 rintro e w' ⟨rfl,rfl⟩
 go_wp2
 go_ret
 exact⟨rfl,rfl⟩
theorem ptmay_run (h:PtAt w gt gd n l t G)(x:Nat)(hx:x<18446744073709551616) : Calls Tryz.prog 116 #[ptr gt,.int .u64 (x:Nat)] w fun e w'=>e = .returned (.bool (mayP l t x))∧Below w.heap.size w w':=by
 obtain⟨A,c,p,q,m,h1,h2,h3,-⟩:=h
 have c0:w.cell? ⟨gt,0,none⟩=some (ptr gt):=h1.cell 0
 have c3:w.cell? ⟨gt,3,none⟩=some (.int .i64 (l.length:Nat)):=h1.cell 3
 have c5:w.cell? ⟨gt,5,none⟩=some (.int .i64 p):=h1.cell 5
 have c6:w.cell? ⟨gt,6,none⟩=some (.int .i64 q):=h1.cell 6
 have c7:w.cell? ⟨gt,7,none⟩=some (.map m):=h1.cell 7
 have hn:=Lib.hid (ptnone_run c0)
 have hM:=Lib.hid (fmay_any _ x t w hx h3)
 unfold mayP
 by_cases h0:0<l.length
 ·have t0:decide ((0:Int)<(l.length:Int))=true:=decide_eq_true (by omega)
  rw[decide_eq_true h0,Bool.true_and]
  generalize mayT t x=r at *
  generalize l.length=k at *
  clear h1 h2 h3 c0 hx
  go_enter Tryz.func116,Tryz.ntmps116
  go_wp2_with fail
  refine hn.out.mono ?_
  rintro e w' ⟨rfl,rfl⟩
  go_wp2_with fail
  refine hM.out.mono ?_
  rintro e w' ⟨rfl,hb⟩
  go_wp2
  go_ret
  exact⟨rfl,hb⟩
 ·have e0:l.length=0:=by omega
  rw[decide_eq_false h0,Bool.false_and]
  rw[e0] at c3
  clear h1 h2 h3 c0 h0 hx hM c5 c6 c7
  go_enter Tryz.func116,Tryz.ntmps116
  go_wp2_with fail
  refine hn.out.mono ?_
  rintro e w' ⟨rfl,rfl⟩
  go_wp2
  go_ret
  exact⟨rfl,Below.refl _ _⟩
end
theorem told_run (k:Nat)(w:World)(hk:k≤1000) : Calls Tryz.prog 161 #[err k] w fun e w'=>e = .returned (err (toldP k))∧w=w':=by
 unfold toldP
 by_cases h0:k=0
 ·subst h0
  rw[if_pos rfl]
  go_enter Tryz.func161,Tryz.ntmps161
  go_wp2
  go_ret
  exact⟨rfl,rfl⟩
 ·rw[if_neg h0]
  by_cases h1:k=61
  ·subst h1
   rw[if_pos rfl]
   go_enter Tryz.func161,Tryz.ntmps161
   go_wp2
   go_ret
   exact⟨rfl,rfl⟩
  ·rw[if_neg h1]
   have t0:((k:Int)==0)=false:=by simp;omega
   have t1:((k:Int)==61)=false:=by simp;omega
   go_enter Tryz.func161,Tryz.ntmps161
   go_wp2
   go_ret
   exact⟨rfl,rfl⟩
section
variable {At : Lies} (api : DiskApi At) {w0 w : World} {gd : Nat} {D : DiskS} {E : List Nat}
include api
theorem ptup_run (h:DS At w0 gd D E w)(ok:WfP D) : Calls Tryz.prog 83 #[ptr gd] w fun e w'=>e = .returned (err (if D.down=true then 61 else 0))∧w=w':=by
 have hS:=h.size api ok ⟨#[110,101,119]⟩ (by decide)
 rcases sizeS_two D ⟨#[110,101,119]⟩ with⟨h1,h2⟩ | ⟨h1,h2⟩
 ·rw[if_pos h1]
  rw[h2] at hS
  have HS:=Lib.hid hS
  clear hS
  go_enter Tryz.func83,Tryz.ntmps83
  go_wp2_with fail
  refine HS.out.mono ?_
  rintro e w' ⟨rfl,rfl⟩
  go_wp2
  go_ret
  exact⟨rfl,rfl⟩
 ·rw[if_neg (by rw[h1];decide)]
  have t1:(((sizeS D ⟨#[110,101,119]⟩).2:Int)==1)=false:=by simp;omega
  have t2:(((sizeS D ⟨#[110,101,119]⟩).2:Int)==61)=false:=by simp;omega
  have HS:=Lib.hid hS
  generalize (sizeS D ⟨#[110,101,119]⟩).1=a at *
  generalize (sizeS D ⟨#[110,101,119]⟩).2=b at *
  clear hS h2
  go_enter Tryz.func83,Tryz.ntmps83
  go_wp2_with fail
  refine HS.out.mono ?_
  rintro e w' ⟨rfl,rfl⟩
  go_wp2
  go_ret
  exact⟨rfl,rfl⟩
theorem ptlay_run (h:DS At w0 gd D E w)(ok:WfP D)(n s:ByteArray)(hn:n.size≤maxLen)(hs:s.size≤1099511627776) : Calls Tryz.prog 153 #[ptr gd,.string n,.string s] w (DEnd At w0 gd (err (layP D n s).1) (layP D n s).2 E w):=by
 have k1:=h.disk api (fun F hF=>api.create n hF ok.ok hn)
 have o1:=wp_create ok n
 have o2:=wp_append o1 n s
 have k2:=fun W (hW:DS At w0 gd (createS D n).2 E W)=>hW.disk api (fun F hF=>api.append n s hF o1.ok hs hn)
 have k3:=fun W (hW:DS At w0 gd (appendS (createS D n).2 n s).2 E W)=>hW.disk api (fun F hF=>api.sync n hF o2.ok hn)
 unfold layP
 by_cases h1:(createS D n).1=0
 ·rw[if_neg (by simp[h1])]
  rw[h1] at k1
  by_cases h2:(appendS (createS D n).2 n s).1=0
  ·rw[if_neg (by simp[h2])]
   rw[h2] at k2
   generalize syncS (appendS (createS D n).2 n s).2 n=X3 at *
   generalize (appendS (createS D n).2 n s).2=D2 at *
   generalize (createS D n).2=D1 at *
   have K1:=Lib.hid k1
   have K2:=Lib.hid k2
   have K3:=Lib.hid k3
   clear k1 k2 k3 h ok o1 o2 h1 h2 hn hs
   go_enter Tryz.func153,Tryz.ntmps153
   go_wp2_with fail
   refine K1.out.mono ?_
   rintro e w1 ⟨rfl,d1,q1⟩
   have H1:=Lib.hid (And.intro d1 q1)
   clear d1 q1
   go_wp2_with fail
   refine(K2.out _ H1.out.1).mono ?_
   rintro e w2 ⟨rfl,d2,q2⟩
   have H2:=Lib.hid (And.intro d2 q2)
   clear d2 q2
   go_wp2_with fail
   refine(K3.out _ H2.out.1).mono ?_
   rintro e w3 ⟨rfl,d3,q3⟩
   have H3:=Lib.hid (And.intro d3 q3)
   clear d3 q3
   go_wp2
   go_ret
   exact⟨rfl,H3.out.1,(H1.out.2.trans H2.out.2).trans H3.out.2⟩
  ·rw[if_pos h2]
   have t:(((appendS (createS D n).2 n s).1:Int) != 0)=true:=by simp;omega
   generalize appendS (createS D n).2 n s=X2 at *
   generalize (createS D n).2=D1 at *
   generalize X2.1=y at *
   have K1:=Lib.hid k1
   have K2:=Lib.hid k2
   clear k1 k2 k3 h ok o1 o2 h1 h2 hn hs
   go_enter Tryz.func153,Tryz.ntmps153
   go_wp2_with fail
   refine K1.out.mono ?_
   rintro e w1 ⟨rfl,d1,q1⟩
   have H1:=Lib.hid (And.intro d1 q1)
   clear d1 q1
   go_wp2_with fail
   refine(K2.out _ H1.out.1).mono ?_
   rintro e w2 ⟨rfl,d2,q2⟩
   have H2:=Lib.hid (And.intro d2 q2)
   clear d2 q2
   go_wp2
   go_ret
   exact⟨rfl,H2.out.1,H1.out.2.trans H2.out.2⟩
 ·rw[if_pos h1]
  have t:(((createS D n).1:Int) != 0)=true:=by simp;omega
  generalize createS D n=X1 at *
  generalize X1.1=y at *
  have K1:=Lib.hid k1
  clear k1 k2 k3 h ok o1 o2 h1 hn hs
  go_enter Tryz.func153,Tryz.ntmps153
  go_wp2_with fail
  refine K1.out.mono ?_
  rintro e w1 ⟨rfl,d1,q1⟩
  have H1:=Lib.hid (And.intro d1 q1)
  clear d1 q1
  go_wp2
  go_ret
  exact⟨rfl,H1.out.1,H1.out.2⟩
theorem whole_run (h:DS At w0 gd D E w)(ok:WfP D)(hc:D.count≤1099511627776)(n:ByteArray)(hn:n.size≤maxLen) : Calls Tryz.prog 84 #[ptr gd,.string n] w (DEnd At w0 gd (.tuple #[.string (rdW D n).1,err (rdW D n).2.1]) (rdW D n).2.2 E w):=by
 have hz:=sizeS_most ok n
 have k1:=h.size api ok n hn
 have k2:=h.disk api (fun F hF=>api.read n 0 ((sizeS D n).1:Nat) hF ok.ok hc (by decide) (WalkArith.wf_i64 (by omega)) hn)
 unfold rdW
 by_cases h1:(sizeS D n).2=0
 ·rw[if_pos h1]
  rw[h1] at k1
  generalize (sizeS D n).1=z at *
  generalize readS D n 0 (z:Nat)=r at *
  have K1:=Lib.hid k1
  have K2:=Lib.hid k2
  clear k1 k2 h ok hc hn h1 hz
  go_enter Tryz.func84,Tryz.ntmps84
  go_wp2_with fail
  refine K1.out.mono ?_
  rintro e w1 ⟨rfl,rfl⟩
  go_wp2_with fail
  refine K2.out.mono ?_
  rintro e w2 ⟨rfl,d2,q2⟩
  have H2:=Lib.hid (And.intro d2 q2)
  clear d2 q2
  go_wp2
  go_ret2
  exact⟨rfl,H2.out.1,H2.out.2⟩
 ·rw[if_neg h1]
  have t:(((sizeS D n).2:Int) != 0)=true:=by simp;omega
  generalize (sizeS D n).1=z at *
  generalize (sizeS D n).2=y at *
  have K1:=Lib.hid k1
  have HH:=Lib.hid h
  clear k1 k2 h ok hc hn h1 hz
  go_enter Tryz.func84,Tryz.ntmps84
  go_wp2_with fail
  refine K1.out.mono ?_
  rintro e w1 ⟨rfl,rfl⟩
  go_wp2
  go_ret2
  exact⟨rfl,HH.out,Kept.refl _ _⟩
end
end Go.Proofs.YtcpfkaehefcakaaGreat
namespace Go.Proofs.YtcpfkaehefcakaaGreat
open Go.RowKit
set_option linter.unusedVariables false
set_option maxRecDepth 100000
section
variable {At : Lies} (api : DiskApi At) (nap : NamesApi) {w0 w : World} {gt gd : Nat} {D : DiskS} {E G : List Nat} {n : Int} {l : List EntS} {t : ByteArray}
include api nap
theorem ptready_run (h:DS At w0 gd D E w)(hp:PtAt w gt gd n l t G)(ok:WfP D)(wn:(Lit.int .i64 n).wf=true) : Calls Tryz.prog 115 #[ptr gt] w fun e w'=>e = .returned (err (readyP D n))∧Below w.heap.size w w':=by
 obtain⟨c0,c1,c2,c3⟩:=hp.cells
 have hn:=Lib.hid (ptnone_run c0)
 have hN:=Lib.hid fun W=>nap.table n W wn
 have hS:=Lib.hid fun W (hW:Below w.heap.size w W)=>(h.below api hW).size api ok (ptT n) (ptT_le n)
 have hT:=Lib.hid fun W=>told_run (sizeS D (ptT n)).2 W (by rcases sizeS_two D (ptT n) with⟨-,e⟩ | ⟨-,e | e⟩<;>rw[e]<;>decide)
 have HP:=Lib.hid hp
 unfold readyP
 rw[show nmS 116 n=ptT n from rfl] at hN
 generalize toldP (sizeS D (ptT n)).2=y at *
 generalize sizeS D (ptT n)=z at *
 generalize ptT n=nm at *
 clear h hp ok wn c0 c3
 go_enter Tryz.func115,Tryz.ntmps115
 go_wp2_with fail
 refine hn.out.mono ?_
 rintro e w' ⟨rfl,rfl⟩
 go_wp2_with fail
 go_region_held3 (fun w'=>w'.cell? ⟨gt,1,none⟩=some (ptr gd)∧w'.cell? ⟨gt,2,none⟩=some (.int .i64 n)) (first | assumption | exact⟨by assumption,by assumption⟩ | exact⟨c1,c2⟩) (first
  | (go_at_call 85;refine(hN.out _).mono ?_;rintro e w1 ⟨rfl,hb⟩;have b1:=bj (show Below w.heap.size w _ from by first | exact(Below.refl _ _).drew | exact Below.refl _ _) hb;have d1:w1.cell? ⟨gt,1,none⟩=some (ptr gd):=(HP.out.below b1).cells.2.1;have d2:w1.cell? ⟨gt,2,none⟩=some (.int .i64 n):=(HP.out.below b1).cells.2.2.1)
  | (go_at_call 33;refine(hS.out _ b1).mono ?_;rintro e w2 ⟨rfl,rfl⟩)
  | fail)
 all_goals
  have B1:=Lib.hid b1
  clear b1 hb d1 d2
  go_wp2_with fail
  refine(hT.out _).mono ?_
  rintro e w3 ⟨rfl,rfl⟩
  go_wp2
  go_ret
  exact⟨rfl,B1.out⟩
omit api nap in
theorem ahead_run (hp:PtAt w gt gd n l t G)(hn:l.length≤1000000)(x:Nat)(v:Int){lo hi:Nat}(hI:NarIs l ⟨x,v,0⟩ lo hi) : Calls Tryz.prog 117 #[ptr gt,.int .u64 (x:Nat),.int .i64 v] w fun e w'=>e = .returned (.tuple #[.int .i64 (lo:Nat),.int .i64 (hi:Nat)])∧Below w.heap.size w w':=by
 obtain⟨A,c,p,q,m,h1,h2,h3,-⟩:=hp
 have c3:w.cell? ⟨gt,3,none⟩=some (.int .i64 (l.length:Nat)):=h1.cell 3
 have c4:w.cell? ⟨gt,4,none⟩=some (.slice A (midsL l).length c):=h1.cell 4
 have hA:=Lib.hid fun W (hW:Below w.heap.size w W)=>hI.run (h2.below hW (Nat.le_refl _)) hn
 have HX:=Lib.hid fun(w1:World) (hb:Below w.heap.size w w1)=>(show w1.cell? ⟨gt,3,none⟩=some (.int .i64 (l.length:Nat))∧w1.cell? ⟨gt,4,none⟩=some (.slice A (midsL l).length c) from⟨(Blok.below h1 hb).cell 3,(Blok.below h1 hb).cell 4⟩)
 generalize (midsL l).length=k at *
 generalize l.length=j at *
 clear h1 h2 h3 hI
 go_enter Tryz.func117,Tryz.ntmps117
 go_wp2_with fail
 go_region_held3 (fun w'=>w'.cell? ⟨gt,3,none⟩=some (.int .i64 (j:Nat))∧w'.cell? ⟨gt,4,none⟩=some (.slice A k c)) (first | assumption | exact⟨by assumption,by assumption⟩ | exact⟨c3,c4⟩) (first
  | (go_at_call 162;refine(hA.out _ (by first | exact(Below.refl _ _).drew | exact Below.refl _ _)).mono ?_;rintro e w1 ⟨rfl,hb⟩;have b1:=bj (show Below w.heap.size w _ from by first | exact(Below.refl _ _).drew | exact Below.refl _ _) hb;have d3:=(HX.out _ b1).1;have d4:=(HX.out _ b1).2)
  | fail)
 all_goals
  have B1:=Lib.hid b1
  clear b1 hb
  go_wp2
  go_ret2
  exact⟨rfl,B1.out⟩
end
end Go.Proofs.YtcpfkaehefcakaaGreat
namespace Go.Proofs.YtcpfkaehefcakaaGreat
open Go.RowKit
set_option linter.unusedVariables false
set_option maxRecDepth 100000
section
variable {At : Lies} (api : DiskApi At) (nap : NamesApi) {w0 w : World} {gt gd : Nat} {D D' : DiskS} {E G : List Nat} {n : Int} {l : List EntS} {t : ByteArray}
include api nap
set_option maxHeartbeats 4000000 in
theorem read_run2 (h:DS At w0 gd D E w)(hp:PtAt w gt gd n l t G)(hG:∀ b∈G,b∈E)(ok:WfP D)(hc:D.count≤1099511627776)(wn:(Lit.int .i64 n).wf=true)(lo hi m:Nat)(hm:hi=lo+m)(hhi:hi≤40000)(s:ByteArray)
  (hr:readS D (ptT n) ((8+24*lo:Nat):Int) ((24*m:Nat):Int)=(s,0,D')) (hs:s.size=24*m) (hk:okP s m=true) :
  Calls Tryz.prog 118 #[ptr gt,.int .i64 (lo:Nat),.int .i64 (hi:Nat)] w (LEnd At w0 gd (gotP s m) 0 D' E w):=by
 obtain⟨c0,c1,c2,c3⟩:=hp.cells
 have hN:=Lib.hid fun W=>nap.table n W wn
 rw[show nmS 116 n=ptT n from rfl] at hN
 obtain⟨a,ha⟩:∃ a,a=8+24*lo:=⟨_,rfl⟩
 obtain⟨b,hb⟩:∃ b,b=8+24*hi:=⟨_,rfl⟩
 obtain⟨z,hz⟩:∃ z,z=24*m:=⟨_,rfl⟩
 have HA1:Hid (∀ W,Calls Tryz.prog 145 #[.int .i64 (lo:Nat)] W fun e w'=>e = .returned (.int .i64 (a:Nat))∧W=w'):=Lib.hid fun W=>by
  have:=tat_any (lo:Nat) W
  rw[(tbSz_nat (by omega)).2,← ha] at this
  exact this
 have HA2:Hid (∀ W,Calls Tryz.prog 145 #[.int .i64 (hi:Nat)] W fun e w'=>e = .returned (.int .i64 (b:Nat))∧W=w'):=Lib.hid fun W=>by
  have:=tat_any (hi:Nat) W
  rw[(tbSz_nat (by omega)).2,← hb] at this
  exact this
 rw[← ha,← hz] at hr
 have hR:=Lib.hid fun W (hW:Below w.heap.size w W)=>(h.below api hW).disk api (v:=.tuple #[.string s,.int .i64 0]) (D':=D') (fun F hF=>by
  have:=api.read (ptT n) (a:Nat) (z:Nat) hF ok.ok hc (WalkArith.wf_i64 (by omega)) (WalkArith.wf_i64 (by omega)) (ptT_le n)
  rw[hr] at this
  exact this)
 have e1:IntKind.i64.wrap ((b:Int)-(a:Int))=(z:Int):=by rw[IntWalk.i64_in _ ⟨by omega,by omega⟩];omega
 have e2:IntKind.i64.wrap ((hi:Int)-(lo:Int))=(m:Int):=by rw[IntWalk.i64_in _ ⟨by omega,by omega⟩];omega
 have e3:(hi:Int)-(lo:Int)=(m:Int):=by omega
 have e4:(b:Int)-(a:Int)=(z:Int):=by omega
 have e1z:IntKind.i64.wrap (z:Int)=(z:Int):=IntWalk.i64_in _ ⟨by omega,by omega⟩
 have HP:=Lib.hid hp
 have HK:=Lib.hid (okP_iff.1 hk)
 obtain⟨Z,hZ1,hZ2⟩:=tb_make (aheadP s) m (by omega)
 have HZ2:=Lib.hid hZ2
 have HMS:=Lib.hid (show ∀ k,k<m→(tbMade (aheadP s) m k).set k (enG (pcP s k))=tbMade (aheadP s) m (k+1) from fun k hk=>by rw[← ahead_piece];exact tbMade_set _ hk)
 have HMF:=Lib.hid (show tbMade (aheadP s) m m=gotP s m by rw[tbMade_full,ahead_got])
 have HML:=Lib.hid (show ∀ k,(tbMade (aheadP s) m k).length=m from fun k=>tbMade_length _ m k)
 have HGL:=Lib.hid (gotP_length s m)
 have hm2:m≤40000:=by omega
 have hw:IntKind.i64.wrap (m:Int)=(m:Int):=IntWalk.i64_in _ ⟨by omega,by omega⟩
 have HLT:=Lib.hid h.lt
 have HDB:=Lib.hid h.kept
 generalize ptT n=nm at *
 clear hr ha hb hk h hp ok hc wn c0 c3 hm hhi hZ2 hz
 go_enter Tryz.func118,Tryz.ntmps118
 go_wp2_with fail
 refine(HA1.out _).mono ?_
 rintro e w1 ⟨rfl,rfl⟩
 have HGE:=Lib.hid hG
 go_wp2_with fail
 have hc12:=And.intro c1 c2
 go_region_held3 (fun w'=>w'.cell? ⟨gt,1,none⟩=some (ptr gd)∧w'.cell? ⟨gt,2,none⟩=some (.int .i64 n)) (first | (with_reducible assumption) | (with_reducible exact⟨by with_reducible assumption,by with_reducible assumption⟩) | exact hc12) (first
  | (go_at_call 85;refine(hN.out _).mono ?_;rintro e w1 ⟨rfl,hb⟩;have b1:=bj (show Below w.heap.size w _ from by first | (with_reducible exact(Below.refl _ _).drew) | (with_reducible exact Below.refl _ _)) hb;have d1:w1.cell? ⟨gt,1,none⟩=some (ptr gd):=(HP.out.below b1).cells.2.1;have d2:w1.cell? ⟨gt,2,none⟩=some (.int .i64 n):=(HP.out.below b1).cells.2.2.1;have b2:=b1.drew;have d3:=And.intro d1 d2)
  | (go_at_call 145;refine(HA2.out _).mono ?_;rintro e w2 ⟨rfl,rfl⟩)
  | (go_at_call 131;(try rw[e1z]);go_must (refine(hR.out _ (by first | (with_reducible exact b1) | (with_reducible exact b2))).mono ?_;rintro e w3 ⟨rfl,h3,q3⟩;have d5:=And.intro ((HP.out.below (by first | (with_reducible exact b1) | (with_reducible exact b2))).keep q3 HGE.out).cells.2.1 ((HP.out.below (by first | (with_reducible exact b1) | (with_reducible exact b2))).keep q3 HGE.out).cells.2.2.1))
  | fail)
 all_goals
  have Q3:Kept E w w3:=by first | exact(Kept.of_below b1 HLT.out).trans q3 | exact(Kept.of_below b2 HLT.out).trans q3
  have H3:=Lib.hid (And.intro h3 Q3)
  have hR3:=HZ2.out w3
  have hb3:=(Below.refl w3.heap.size w3).alloc (Nat.le_refl _) (.cells Z 44)
  clear HZ2 h3 Q3 q3 d5 d3 b1 b2 hb d1 d2 hc12 c1 c2
  go_wp2
  go_loopw [45] (fun i wr=>∃ k:Nat,k≤m∧i = .int .i64 k∧EntRow wr w3.heap.size (.slice (some ⟨w3.heap.size,0,none⟩) m m) (tbMade (aheadP s) m k)∧Below w3.heap.size w3 wr) (fun i _=>m-(intOf i).toNat)
  case atStart=>exact⟨0,Nat.zero_le _,rfl,hR3,hb3⟩
  case round =>
   obtain⟨k,hk,rfl,hrow,hbel⟩:=hrel
   clear hR3 hb3 hZ1
   by_cases hlt:k<m
   ·have s1:(k:Int)<(m:Int):=by omega
    obtain⟨a',ha'⟩:∃ a':Nat,a'=24*k:=⟨_,rfl⟩
    obtain⟨b',hb'⟩:∃ b':Nat,b'=24*k+24:=⟨_,rfl⟩
    have eP:pcP s k=s.extract a' b':=by rw[ha',hb'];rfl
    have HG:=fun W=>eget_any (s.extract a' b') W (by unfold maxLen;rw[ByteArray.size_extract];omega)
    have HMK:=HMS.out k hlt
    have hkk:=HK.out k hlt
    rw[eP] at HMK hkk
    rw[hkk] at HG
    have HG2:=Lib.hid HG
    have y1:IntKind.i64.wrap ((k:Int)*24)=(a':Int):=by rw[IntWalk.i64_in _ ⟨by omega,by omega⟩];omega
    have y2:IntKind.i64.wrap ((k:Int)+1)=(k:Int)+1:=IntWalk.i64_in _ ⟨by omega,by omega⟩
    have y3:IntKind.i64.wrap (((k:Int)+1)*24)=(b':Int):=by rw[IntWalk.i64_in _ ⟨by omega,by omega⟩];omega
    have x1:(a':Int)≤(b':Int):=by omega
    have x2:(b':Int)≤(s.size:Int):=by omega
    have x3:a'≤b':=by omega
    have x4:b'≤s.size:=by omega
    have HROW:=Lib.hid hrow
    have HBEL:=Lib.hid hbel
    have HMK2:=Lib.hid HMK
    clear eP ha' hb' hrow hbel HG hkk HMK hs
    generalize enG (s.extract a' b')=x at *
    obtain⟨xh,xv,xp⟩:=x
    go_wp2_with fail
    refine(HG2.out _).mono ?_
    rintro e w4 ⟨rfl,hb4⟩
    have R2:=EntRow.below (HROW.out.below hb4 (Nat.le_refl _)) ((Below.refl w4.heap.size w4).alloc (Nat.le_refl _) (.cells #[.int .u64 (xh:Nat),.int .i64 xv,.int .i64 xp] 44)) (Nat.le_refl _)
    obtain⟨⟨y,q0,q1,q2⟩,f0,f1,f2⟩:=R2.at_ (HML.out k).symm hlt
    have R3:=R2.put (HML.out k).symm hlt ⟨xh,xv,xp⟩
    rw[HMK2.out] at R3
    have R4:=Lib.hid R3
    have B4:=Lib.hid ((bj HBEL.out hb4).alloc (bj HBEL.out hb4).size (.cells #[.int .u64 (xh:Nat),.int .i64 xv,.int .i64 xp] 44))
    clear R3 R2 hb4
    go_wp2
    exact⟨⟨k+1,by omega,by go_num,R4.out,put3 B4.out (Nat.le_refl _) _ _ _⟩,by simp[intOf];omega⟩
   ·obtain rfl:k=m:=by omega
    have s1:¬ (k:Int)<(k:Int):=by omega
    rw[HMF.out] at hrow
    have HROW:=Lib.hid hrow
    have HBEL:=Lib.hid hbel
    clear hrow hbel
    go_wp2
    go_ret2
    have hz:=H3.out.2.size
    have hge:w3.heap.size≤wr.heap.size:=HBEL.out.size
    refine⟨some ⟨w3.heap.size,0,none⟩,k,by rw[HGL.out];rfl,by rw[HGL.out];exact EntRow.down HROW.out hz, ?_,H3.out.2.trans (Kept.of_below HBEL.out H3.out.1.lt)⟩
    exact H3.out.1.more api HBEL.out (fun b hb=>by
     obtain rfl:b=w3.heap.size:=by simpa[ownL,Value.ownBlock] using hb
     exact⟨Nat.le_refl _,by
      rcases HROW.out.2 with⟨e,-⟩ | ⟨g,cap,cur,e,hg,hh,-⟩
      ·cases e
      ·have e2:=(Value.slice.inj e).1
       have e3:w3.heap.size=g:=by simpa using e2
       rw[e3]
       exact(Array.getElem?_eq_some_iff.1 hh).1⟩)
end
end Go.Proofs.YtcpfkaehefcakaaGreat
namespace Go.Proofs.YtcpfkaehefcakaaGreat
open Go.RowKit
set_option linter.unusedVariables false
set_option maxRecDepth 100000
def HasT (D:DiskS)(n:Int)(l:List EntS) : Prop:=∃ f,fileOf D.l (ptT n)=some f∧tgOk f.data=true∧tgL f.data=l
theorem HasT.count {D:DiskS}{n:Int}{l:List EntS}(h:HasT D n l)(k:Nat) : HasT { D with count:=k } n l:=h
theorem HasT.ready {D:DiskS}{n:Int}{l:List EntS}(h:HasT D n l)(hd:D.down=false) : readyP D n=0:=by
 obtain⟨f,h1,h2,h3⟩:=h
 unfold readyP
 rw[sizeS_of hd h1]
 rfl
theorem HasT.props {D:DiskS}{n:Int}{l:List EntS}(h:HasT D n l) : RiseE l∧(∀ x∈l,mayE x=true)∧∀ x∈l,EntOk x:=by
 obtain⟨f,h1,h2,rfl⟩:=h
 obtain⟨k1,k2,k3⟩:=tg_rise h2
 exact⟨k1,k2,tg_entok _⟩
theorem HasT.read {D:DiskS}{n:Int}{l:List EntS}(h:HasT D n l)(hd:D.down=false){lo m:Nat}(hm:lo+m≤l.length) : ∃ s,readS D (ptT n) ((8+24*lo:Nat):Int) ((24*m:Nat):Int)=(s,0, { D with count:=D.count+1 })∧s.size=24*m∧okP s m=true∧gotP s m=(l.drop lo).take m:=by
 obtain⟨f,h1,h2,rfl⟩:=h
 obtain⟨k1,k2,k3⟩:=tg_rise h2
 have hg:=got_of (lo:=lo) (hi:=lo+m) h2 hm
 rw[show 8+24*(lo+m)=8+24*lo+24*m by omega,show lo+m-lo=m by omega] at hg
 exact⟨_,readS_of hd h1 (by omega),by rw[ByteArray.size_extract];omega,hg.1,hg.2⟩
section
variable {At : Lies} (api : DiskApi At) (nap : NamesApi) {w0 w : World} {gt gd : Nat} {D : DiskS} {E G : List Nat} {n : Int} {l : List EntS} {t : ByteArray}
include api nap
theorem read_t (h:DS At w0 gd D E w)(hp:PtAt w gt gd n l t G)(hG:∀ b∈G,b∈E)(ok:WfP D)(hc:D.count≤1099511627776)(wn:(Lit.int .i64 n).wf=true)(hd:D.down=false)(hT:HasT D n l)(lo hi:Nat)(hlh:lo≤hi)(hhi:hi≤l.length)(hl:l.length≤40000) :
  Calls Tryz.prog 118 #[ptr gt,.int .i64 (lo:Nat),.int .i64 (hi:Nat)] w (LEnd At w0 gd ((l.drop lo).take (hi-lo)) 0 { D with count:=D.count+1 } E w):=by
 obtain⟨s,h1,h2,h3,h4⟩:=hT.read (lo:=lo) (m:=hi-lo) hd (by omega)
 rw[← h4]
 exact read_run2 api nap h hp hG ok hc wn lo hi (hi-lo) (by omega) (by omega) s h1 h2 h3
theorem ptall_run (h:DS At w0 gd D E w)(hp:PtAt w gt gd n l t G)(hG:∀ b∈G,b∈E)(ok:WfP D)(hc:D.count≤1099511627776)(wn:(Lit.int .i64 n).wf=true)(hd:D.down=false)(hT:HasT D n l)(hl:l.length≤40000) :
  Calls Tryz.prog 105 #[ptr gt] w (LEnd At w0 gd l 0 { D with count:=D.count+1 } E w):=by
 have hR:=Lib.hid (ptready_run api nap h hp ok wn)
 rw[hT.ready hd] at hR
 have hA:=Lib.hid fun W (hW:Below w.heap.size w W)=>read_t api nap (h.below api hW) (hp.below hW) hG ok hc wn hd hT 0 l.length (Nat.zero_le _) (Nat.le_refl _) hl
 rw[List.drop_zero,show l.length-0=l.length from rfl,List.take_length] at hA
 have HC:=Lib.hid fun W (hW:Below w.heap.size w W)=>(hp.below hW).cells
 have HLT:=Lib.hid h.lt
 clear h hp hG ok hc wn hd hT
 generalize hm:l.length=m at *
 have HM:=Lib.hid hm
 clear hm
 go_enter Tryz.func105,Tryz.ntmps105
 go_wp2_with fail
 refine hR.out.mono ?_
 rintro e w1 ⟨rfl,b1⟩
 obtain⟨c0,c1,c2,c3⟩:=HC.out w1 b1
 have HA:=Lib.hid (hA.out w1 b1)
 have K1:=Lib.hid (Kept.of_below b1 HLT.out)
 clear b1 c0 c1 c2 hA
 go_wp2_with fail
 refine HA.out.mono ?_
 rintro e w2 ⟨A,c,rfl,r1,r2,r3⟩
 have H2:=Lib.hid (And.intro r1 (And.intro r2 r3))
 clear r1 r2 r3
 go_wp2
 go_ret2
 exact⟨A,c,rfl,H2.out.1.down K1.out.size,H2.out.2.1,K1.out.trans H2.out.2.2⟩
set_option maxHeartbeats 1000000 in
theorem ptrange_run (h:DS At w0 gd D E w)(hp:PtAt w gt gd n l t G)(hG:∀ b∈G,b∈E)(ok:WfP D)(hc:D.count≤1099511627776)(wn:(Lit.int .i64 n).wf=true)(hd:D.down=false)(hT:HasT D n l)(hk:keepsP t l=true)(hl:l.length≤40000)
  (x:Nat) (hx:x<18446744073709551616) (a b:Int) (wa:(Lit.int .i64 a).wf=true) (wb:(Lit.int .i64 b).wf=true) :
  Calls Tryz.prog 58 #[ptr gt,.int .u64 (x:Nat),.int .i64 a,.int .i64 b] w fun e w'=>∃ k,k≤1∧(mayP l t x=false→k=0)∧LEnd At w0 gd (rangeE l x a (min b 1073741824)) 0 { D with count:=D.count+k } E w e w':=by
 obtain⟨hr,hm,hok⟩:=hT.props
 have ba:=bounds_i64 wa
 have bb:=bounds_i64 wb
 obtain⟨b',hb'⟩:∃ b',min b 1073741824=b':=⟨_,rfl⟩
 have i1:(if (1073741824:Int)<b then 1073741824 else b)=b':=by rw[← hb'];split<;>omega
 have i2:IntKind.i64.wrap (b'+1)=b'+1:=IntWalk.i64_in _ ⟨by omega,by omega⟩
 rw[hb']
 have HLT:=Lib.hid h.lt
 have hR:=Lib.hid (ptready_run api nap h hp ok wn)
 rw[hT.ready hd] at hR
 have hM:=Lib.hid fun W (hW:Below w.heap.size w W)=>ptmay_run (hp.below hW) x hx
 have HNil:Hid (∀ w':World,Below w.heap.size w w'→rangeE l x a b'=[]→∃ k,k≤1∧(mayP l t x=false→k=0)∧LEnd At w0 gd (rangeE l x a b') 0 { D with count:=D.count+k } E w (.returned (.tuple #[.slice none 0 0,.int .i64 0])) w'):=Lib.hid fun w' hb e=>by
  rw[e]
  exact⟨0,by omega,fun _=>rfl,none,0,rfl,EntRow.nil _ _,h.below api hb,Kept.of_below hb h.lt⟩
 cases hq:mayP l t x with
 | false =>
   rw[hq] at hM HNil
   have he:=(keeps_range hk hq a b').1
   rw[he] at HNil ⊢
   clear h hp hG ok hc wn hd hT hk hl hx wa wb hr hm hok ba bb hb' i2 he hq
   go_enter Tryz.func58,Tryz.ntmps58
   go_wp2_with fail
   refine hR.out.mono ?_
   rintro e w1 ⟨rfl,b1⟩
   go_wp2_with fail
   refine(hM.out _ b1).mono ?_
   rintro e w2 ⟨rfl,b2⟩
   go_wp2
   go_ret2
   exact HNil.out _ (bj b1 b2) (by first | rfl | trivial)
 | true =>
   rw[hq] at hM HNil
   obtain⟨lo,h1,N1⟩:=nar_is hr (by omega) ⟨x,a,0⟩
   obtain⟨l2,hi,N2⟩:=nar_is hr (by omega) ⟨x,b'+1,0⟩
   have a1:=N1.at_least
   have a2:=N2.at_most
   rw[count_zero hm] at a1 a2
   rw[count_next] at a2
   have a3:=N1.top
   have a4:=N2.top
   have a5:=N1.at_most
   rw[count_zero hm] at a5
   have hA1:=Lib.hid fun W (hW:Below w.heap.size w W)=>ahead_run (hp.below hW) (by omega) x a N1
   have hA2:=Lib.hid fun W (hW:Below w.heap.size w W)=>ahead_run (hp.below hW) (by omega) x (b'+1) N2
   by_cases hlh:lo<hi
   ·have hRd:=Lib.hid fun W (hW:Below w.heap.size w W)=>read_t api nap (h.below api hW) (hp.below hW) hG ok hc wn hd hT lo hi (by omega) a4 hl
    have hW:=range_window (lo:=lo) (hi:=hi) hr a1 a2
    have hlen:((l.drop lo).take (hi-lo)).length=hi-lo:=by rw[List.length_take,List.length_drop];omega
    have hRg:=Lib.hid fun(v:Value) W (hv:EntsIn W v ((l.drop lo).take (hi-lo)))=>range_any v _ x a b' W hv (by omega) (fun y hy=>hok y (window_mem hy)) (window_rise hr _ _)
    rw[hW] at hRg
    have t1:decide ((hi:Int)≤(lo:Int))=false:=decide_eq_false (by omega)
    have t2:¬ (hi:Int)≤(lo:Int):=by omega
    generalize rangeE l x a b'=R at *
    generalize (l.drop lo).take (hi-lo)=S at *
    clear h hp hG ok hc wn hd hT hk hl hx wa wb hr hm hok ba bb hb' hq N1 N2 a1 a2 a3 a4 a5 HNil hW hlen hlh
    go_enter Tryz.func58,Tryz.ntmps58
    go_wp2_with fail
    refine hR.out.mono ?_
    rintro e w1 ⟨rfl,b1⟩
    go_wp2_with fail
    refine(hM.out _ b1).mono ?_
    rintro e w2 ⟨rfl,b2'⟩
    have b2:=bj b1 b2'
    clear b2' b1 hR hM
    go_wp2_with fail
    refine(hA1.out _ b2).mono ?_
    rintro e w3 ⟨rfl,b3'⟩
    have b3:=bj b2 b3'
    clear b3' b2 hA1
    go_wp2_with fail
    refine(hA2.out _ b3).mono ?_
    rintro e w4 ⟨rfl,b4'⟩
    have b4:=bj b3 b4'
    clear b4' b3 hA2
    go_wp2_with fail
    refine(hRd.out _ b4).mono ?_
    rintro e w5 ⟨A,c,rfl,r1,r2,r3⟩
    have H5:=Lib.hid (And.intro r2 ((Kept.of_below b4 HLT.out).trans r3))
    have HR2:=Lib.hid (hRg.out _ _ r1.in_)
    clear r1 r2 r3 b4 hRd hRg
    go_wp2_with fail
    refine HR2.out.mono ?_
    rintro e w6 ⟨A2,c2,rfl,r1,b6⟩
    have H6:=Lib.hid (And.intro r1 b6)
    clear r1 b6
    go_wp2
    go_ret2
    exact⟨1,Nat.le_refl _,fun e=>by simp at e,A2,c2,rfl,H6.out.1.down H5.out.2.size,(H5.out.1.less (fun b hb=>List.mem_append_right _ hb)).more api H6.out.2 (row_own H6.out.1),H5.out.2.trans (Kept.of_below H6.out.2 (fun b hb=>H5.out.1.lt b (List.mem_append_right _ hb)))⟩
   ·have he:=range_empty (b:=b') hr a1 a2 (by omega)
    have t1:decide ((hi:Int)≤(lo:Int))=true:=decide_eq_true (by omega)
    have t2:(hi:Int)≤(lo:Int):=by omega
    rw[he] at HNil ⊢
    clear h hp hG ok hc wn hd hT hk hl hx wa wb hr hm hok ba bb hb' hq N1 N2 a1 a2 a3 a4 a5 he hlh
    go_enter Tryz.func58,Tryz.ntmps58
    go_wp2_with fail
    refine hR.out.mono ?_
    rintro e w1 ⟨rfl,b1⟩
    go_wp2_with fail
    refine(hM.out _ b1).mono ?_
    rintro e w2 ⟨rfl,b2'⟩
    have b2:=bj b1 b2'
    clear b2' b1 hR hM
    go_wp2_with fail
    refine(hA1.out _ b2).mono ?_
    rintro e w3 ⟨rfl,b3'⟩
    have b3:=bj b2 b3'
    clear b3' b2 hA1
    go_wp2_with fail
    refine(hA2.out _ b3).mono ?_
    rintro e w4 ⟨rfl,b4'⟩
    have b4:=bj b3 b4'
    clear b4' b3 hA2
    go_wp2
    go_ret2
    exact HNil.out _ b4 (by first | rfl | trivial)
end
end Go.Proofs.YtcpfkaehefcakaaGreat
namespace Go.Proofs.YtcpfkaehefcakaaGreat
open Go.RowKit
set_option linter.unusedVariables false
set_option maxRecDepth 100000
section
variable {At : Lies} (api : DiskApi At) (nap : NamesApi) {w0 w : World} {gt gd : Nat} {D : DiskS} {E G : List Nat} {n : Int} {l : List EntS} {t : ByteArray}
include api nap
omit nap in
theorem last_end {w1 w':World}{g:Nat}{D':DiskS}(hE:∀ b∈E,b<g)(hg:w0.heap.size≤g)(h:DS At w0 gd D' (g::E) w1)(hk:Kept E w w1)(hb:Below w1.heap.size w1 w')(a b c:Value)(v:Value) :
  DEnd At w0 gd v D' E w (.returned v) (((w'.setCell ⟨g,0,none⟩ a).setCell ⟨g,1,none⟩ b).setCell ⟨g,2,none⟩ c):=by
 have h1:=h.below api hb
 have h2:=h1.own2 api (touch_3 (g:=g) w' a b c) (fun x hx=>by rw[List.mem_singleton.1 hx];exact⟨List.mem_cons_self,hg⟩)
 refine⟨rfl,h2.less (fun b hb=>List.mem_cons_of_mem _ hb),(hk.trans (Kept.of_below hb (fun b hb=>h.lt b (List.mem_cons_of_mem _ hb)))).trans (Kept.of_touch (touch_3 (g:=g) w' a b c) fun x hx=>⟨h1.lt x (List.mem_cons_of_mem _ hx),fun hm=>?_⟩)⟩
 have:=hE x hx
 rw[List.mem_singleton.1 hm] at this
 exact Nat.lt_irrefl _ this
set_option maxHeartbeats 2000000 in
theorem ptlast_run (h:DS At w0 gd D E w)(hp:PtAt w gt gd n l t G)(hG:∀ b∈G,b∈E)(ok:WfP D)(hc:D.count≤1099511627776)(wn:(Lit.int .i64 n).wf=true)(hd:D.down=false)(hT:HasT D n l)(hk:keepsP t l=true)(hl:l.length≤40000)
  (x:Nat) (hx:x<18446744073709551616) (b:Int) (wb:(Lit.int .i64 b).wf=true) :
  Calls Tryz.prog 61 #[ptr gt,.int .u64 (x:Nat),.int .i64 b] w fun e w'=>∃ k,k≤1∧(mayP l t x=false→k=0)∧DEnd At w0 gd (.tuple #[entB (lastE l x (min b 1073741824)),.bool (lastOk l x (min b 1073741824)),.int .i64 0]) { D with count:=D.count+k } E w e w':=by
 obtain⟨hr,hm,hok⟩:=hT.props
 have bb:=bounds_i64 wb
 obtain⟨b',hb'⟩:∃ b',min b 1073741824=b':=⟨_,rfl⟩
 have i1:(if (1073741824:Int)<b then 1073741824 else b)=b':=by rw[← hb'];split<;>omega
 have i2:IntKind.i64.wrap (b'+1)=b'+1:=IntWalk.i64_in _ ⟨by omega,by omega⟩
 rw[hb']
 have hB0:=(Below.refl w.heap.size w).alloc (Nat.le_refl _) (.cells #[.int .u64 ((0:Nat):Int),.int .i64 0,.int .i64 0] 44)
 have E0:EnAt (w.alloc (.cells #[.int .u64 ((0:Nat):Int),.int .i64 0,.int .i64 0] 44)) w.heap.size 0 0 0:=Blok.new _ _ _
 have h0:DS At w0 gd D (w.heap.size::E) (w.alloc (.cells #[.int .u64 ((0:Nat):Int),.int .i64 0,.int .i64 0] 44)):=h.more api hB0 (B:=[w.heap.size]) (fun b hb=>by
  rw[List.mem_singleton.1 hb]
  exact⟨Nat.le_refl _,E0.lt⟩)
 have p0:=hp.below hB0
 have K0:=Kept.of_below hB0 h.lt
 have hEg:=h.lt
 have hg0:=h.kept.size
 have hG0:∀ b∈G,b∈w.heap.size::E:=fun b hb=>List.mem_cons_of_mem _ (hG b hb)
 obtain⟨g,hgg⟩:∃ g,w.heap.size=g:=⟨_,rfl⟩
 rw[hgg] at h0 E0 hEg hg0 hG0
 obtain⟨wa,hwa⟩:∃ wa,w.alloc (.cells #[.int .u64 ((0:Nat):Int),.int .i64 0,.int .i64 0] 44)=wa:=⟨_,rfl⟩
 rw[hwa] at h0 E0 p0 K0
 have hwa':w.alloc (.cells #[.int .u64 0,.int .i64 0,.int .i64 0] 44)=wa:=hwa
 clear hwa hB0 h hp hG
 have HX:=Lib.hid (And.intro E0 (And.intro K0 (And.intro hEg (And.intro hg0 h0))))
 have hR:=Lib.hid (ptready_run api nap h0 p0 ok wn)
 rw[hT.ready hd] at hR
 have hM:=Lib.hid fun W (hW:Below wa.heap.size wa W)=>ptmay_run (p0.below hW) x hx
 have HFin:Hid (∀ (k:Nat) (y:EntS) (q:Bool) (w1 w':World) (a b c:Value),k≤1→(mayP l t x=false→k=0)→lastE l x b'=y→lastOk l x b'=q→DS At w0 gd { D with count:=D.count+k } (g::E) w1→Kept (g::E) wa w1→Below w1.heap.size w1 w' →
   ∃ k,k≤1∧(mayP l t x=false→k=0)∧DEnd At w0 gd (.tuple #[entB (lastE l x b'),.bool (lastOk l x b'),.int .i64 0]) { D with count:=D.count+k } E w (.returned (.tuple #[entB y,.bool q,.int .i64 0])) (((w'.setCell ⟨g,0,none⟩ a).setCell ⟨g,1,none⟩ b).setCell ⟨g,2,none⟩ c)):=Lib.hid fun k y q w1 w' a b c k1 k2 e1 e2 d1 q1 bb=>by
  rw[e1,e2]
  exact⟨k,k1,k2,last_end api hEg hg0 d1 (K0.trans (q1.less (fun b hb=>List.mem_cons_of_mem _ hb))) bb a b c _⟩
 cases hq:mayP l t x with
 | false =>
   rw[hq] at hM HFin
   have he:=(keeps_range hk hq 0 b').2
   have e1:lastE l x b'=⟨0,0,0⟩:=by unfold lastE;rw[he];rfl
   have e2:lastOk l x b'=false:=by unfold lastOk;rw[he];rfl
   have HF:=Lib.hid (fun w' (hb:Below wa.heap.size wa w')=>HFin.out 0 ⟨0,0,0⟩ false wa w' (.int .u64 ((0:Nat):Int)) (.int .i64 0) (.int .i64 0) (by omega) (fun _=>rfl) e1 e2 HX.out.2.2.2.2 (Kept.refl _ _) hb)
   rw[e1,e2] at HF ⊢
   clear HFin
   clear h0 p0 ok hc wn hd hT hk hl hx wb hr hm hok bb hb' i2 he hq e1 e2 K0 hEg hg0 hG0 E0
   go_enter Tryz.func61,Tryz.ntmps61
   go_wp2_with fail
   refine hR.out.mono ?_
   rintro e w1 ⟨rfl,b1⟩
   go_wp2_with fail
   refine(hM.out _ b1).mono ?_
   rintro e w2 ⟨rfl,b2⟩
   have b3:=bj b1 b2
   obtain⟨k0,k1,k2,f0,f1,f2⟩:=EnAt.facts (show EnAt w2 g 0 0 0 from Blok.below HX.out.1 b3)
   have HB3:=Lib.hid b3
   clear b1 b2 b3
   go_wp2
   exact bodyPost_ret (v:=.tuple #[entB ⟨0,0,0⟩,.bool false,.int .i64 0]) (by simp[results,Tryz.results61,go_sem,k0,k1,k2]) rfl (HF.out _ HB3.out)
 | true =>
   rw[hq] at hM HFin
   obtain⟨lo,hi,N⟩:=nar_is hr (by omega) ⟨x,b'+1,0⟩
   have a1:=N.at_least
   have a2:=N.at_most
   rw[count_zero hm,count_next] at a1 a2
   have a4:=N.top
   have hA:=Lib.hid fun W (hW:Below wa.heap.size wa W)=>ahead_run (p0.below hW) (by omega) x (b'+1) N
   have hRd:=Lib.hid fun W (hW:Below wa.heap.size wa W)=>read_t api nap (h0.below api hW) (p0.below hW) hG0 ok hc wn hd hT (lo-1) hi (by omega) a4 hl
   have hW:=last_window (lo:=lo) (hi:=hi) hr (by omega) a1 a2 a4
   have hlen:((l.drop (lo-1)).take (hi-(lo-1))).length=hi-(lo-1):=by rw[List.length_take,List.length_drop];omega
   have hLs:=Lib.hid fun(v:Value) W (hv:EntsIn W v ((l.drop (lo-1)).take (hi-(lo-1))))=>last_any v _ x b' W hv (by omega) (fun y hy=>hok y (window_mem hy)) (window_rise hr _ _)
   have e1:lastE ((l.drop (lo-1)).take (hi-(lo-1))) x b'=lastE l x b':=by unfold lastE;rw[hW]
   have e2:lastOk ((l.drop (lo-1)).take (hi-(lo-1))) x b'=lastOk l x b':=by unfold lastOk;rw[hW]
   rw[e1,e2] at hLs
   obtain⟨d,hdd⟩:∃ d:Int,(lo:Int)-1=d:=⟨_,rfl⟩
   obtain⟨lp,hlp⟩:∃ lp:Nat,lo-1=lp:=⟨_,rfl⟩
   have j1:IntKind.i64.wrap ((lo:Int)-1)=d:=by rw[IntWalk.i64_in _ ⟨by omega,by omega⟩];omega
   have j2:(if (0:Int)>d then 0 else d)=(lp:Int):=by split<;>omega
   have j3:(if d<(0:Int) then 0 else d)=(lp:Int):=by split<;>omega
   rw[hlp] at hRd hLs
   have HF:=Lib.hid (fun w1 w' a b c=>HFin.out 1 (lastE l x b') (lastOk l x b') w1 w' a b c (by omega) (fun e=>by cases e) rfl rfl)
   generalize (l.drop lp).take (hi-lp)=S at *
   clear HFin h0 p0 ok hc wn hd hT hk hl hx wb hr hm hok bb hb' hq N a1 a2 a4 hW hlen e1 e2 hdd hlp K0 hEg hg0 hG0 E0
   generalize lastE l x b'=y at *
   generalize lastOk l x b'=q at *
   obtain⟨yh,yv,yp⟩:=y
   go_enter Tryz.func61,Tryz.ntmps61
   go_wp2_with fail
   refine hR.out.mono ?_
   rintro e w1 ⟨rfl,b1⟩
   go_wp2_with fail
   refine(hM.out _ b1).mono ?_
   rintro e w2 ⟨rfl,b2'⟩
   have b2:=bj b1 b2'
   clear b2' b1 hR hM
   go_wp2_with fail
   refine(hA.out _ b2).mono ?_
   rintro e w3 ⟨rfl,b3'⟩
   have b3:=bj b2 b3'
   clear b3' b2 hA
   go_wp2_with fail
   refine(hRd.out _ b3).mono ?_
   rintro e w4 ⟨A,c,rfl,r1,r2,r3⟩
   have K4:=(Kept.of_below b3 HX.out.2.2.2.2.lt).trans r3
   have D4:=r2.less (E':=g::E) (fun b hb=>List.mem_append_right _ hb)
   have H4:=Lib.hid (And.intro D4 K4)
   have HL:=Lib.hid (hLs.out _ _ r1.in_)
   clear r1 r2 r3 b3 hRd hLs K4 D4
   go_wp2_with fail
   refine HL.out.mono ?_
   rintro e w5 ⟨rfl,b5⟩
   have B6:=b5.alloc b5.size (.cells #[.int .u64 (yh:Nat),.int .i64 yv,.int .i64 yp] 44)
   have E5:EnAt w5 g 0 0 0:=Blok.below (H4.out.2.blok HX.out.1 List.mem_cons_self) b5
   obtain⟨k0,k1,k2,f0,f1,f2⟩:=EnAt.facts (show EnAt _ g 0 0 0 from Blok.alloc E5 (.cells #[.int .u64 (yh:Nat),.int .i64 yv,.int .i64 yp] 44))
   have HB6:=Lib.hid B6
   have HN:=Lib.hid (show g≠w5.heap.size from Nat.ne_of_lt E5.lt)
   clear b5 B6 E5
   go_wp2
   exact bodyPost_ret (v:=.tuple #[entB ⟨yh,yv,yp⟩,.bool q,.int .i64 0]) (by simp[results,Tryz.results61,go_sem,k0,k1,k2]) rfl (HF.out _ _ _ _ _ H4.out.1 H4.out.2 HB6.out)
end
end Go.Proofs.YtcpfkaehefcakaaGreat
namespace Go.Proofs.YtcpfkaehefcakaaGreat
open Go.RowKit Go.Shelf
set_option linter.unusedVariables false
attribute [local go_sem ↓] Go.wp_at_zero Go.wp_at_succ
theorem layE_new {L:List EntS}{x:EntS}(h:L[posE L x]?≠some x) : []++L.take (posE L x)++[x]++L.drop (posE L x)=layEn L x:=by
 unfold layEn
 rw[if_neg h,List.nil_append]
theorem layE_old {L:List EntS}{x:EntS}(h:L[posE L x]? = some x) : layEn L x=L:=by
 unfold layEn
 rw[if_pos h]
end Go.Proofs.YtcpfkaehefcakaaGreat
namespace Go.Proofs.YtcpfkaehefcakaaGreat
open Go.RowKit Go.Shelf
set_option linter.unusedVariables false
set_option maxRecDepth 100000
attribute [local go_sem ↓] Go.wp_at_zero Go.wp_at_succ
def WithEnd (w:World)(base:Nat)(v:Value)(m:List EntS)(e:Ending)(w':World) : Prop :=
 ∃ A c,e = .returned (.slice A m.length c)∧EntRow w' base (.slice A m.length c) m∧Below w.heap.size w w'∧∀ b∈ownL (.slice A m.length c),b∈ownL v∨(w.heap.size≤b∧b<w'.heap.size)
set_option maxHeartbeats 8000000 in
theorem with_any {v:Value}{L:List EntS}{w:World}{base:Nat}(hrow:EntRow w base v L)(hbase:base≤w.heap.size)(x:EntS)(hn:L.length≤10000) :
  Calls Tryz.prog 64 #[v,entB x] w (WithEnd w base v (layEn L x)):=by
 obtain⟨A1,c1,rfl,-,-,-⟩:=own_form hrow
 have hA:=(Below.refl w.heap.size w).alloc (Nat.le_refl _) (.cells #[.int .u64 (x.h:Nat),.int .i64 x.v,.int .i64 x.p] 44)
 have hbx:Blok (w.alloc (.cells #[.int .u64 (x.h:Nat),.int .i64 x.v,.int .i64 x.p] 44)) w.heap.size 44 #[.int .u64 (x.h:Nat),.int .i64 x.v,.int .i64 x.p]:=Blok.new _ _ _
 have hg:=hbx.lt
 have hsz:(w.alloc (.cells #[.int .u64 (x.h:Nat),.int .i64 x.v,.int .i64 x.p] 44)).heap.size=w.heap.size+1:=by simp
 obtain⟨wo,hwo⟩:∃ wo,w.alloc (.cells #[.int .u64 (x.h:Nat),.int .i64 x.v,.int .i64 x.p] 44)=wo:=⟨_,rfl⟩
 rw[hwo] at hA hbx hg hsz
 have HX:=Lib.hid (show ∀ W,Below wo.heap.size wo W→W.cell? ⟨w.heap.size,0,none⟩=some (.int .u64 (x.h:Nat))∧W.cell? ⟨w.heap.size,1,none⟩=some (.int .i64 x.v)∧W.cell? ⟨w.heap.size,2,none⟩=some (.int .i64 x.p) from fun W hW =>
  ⟨(hbx.below hW).cell 0,(hbx.below hW).cell 1,(hbx.below hW).cell 2⟩)
 have HR:=Lib.hid (EntRow.below hrow hA (Nat.le_refl _))
 have hin:=EntRow.in_ HR.out
 have HIN:=Lib.hid hin
 have HF:=Lib.hid hin.form
 obtain⟨m,hm⟩:∃ m,m=L.length:=⟨_,rfl⟩
 have HM:=Lib.hid hm
 have HBW:=Lib.hid (fun W (hW:Below wo.heap.size wo W)=>bj hA hW)
 have HSZ:=Lib.hid hsz
 have HBS:=Lib.hid hbase
 obtain⟨K,hK⟩:∃ K,layEn L x=K:=⟨_,rfl⟩
 have HK:=Lib.hid hK
 have hlen:m≤10000:=by omega
 rw[← hm,hK]
 clear hrow hbx hin hm hA hsz hn hbase hK
 have HWO:=Lib.hid hwo
 clear hwo
 generalize hgg:w.heap.size=g0 at *
 have HGG:=Lib.hid hgg
 clear hgg
 go_enter Tryz.func64,Tryz.ntmps64
 go_upto_block 0 with fail
 rw[HWO.out,HGG.out]
 go_cut [5] from 6 to 44 (fun u wx=>u = .int .i64 (posE L x:Nat)∧Below wo.heap.size wo wx)
 case first =>
  go_wp2_with fail
  go_loopw [5] (fun i wr=>∃ j:Nat,j≤m∧i = .int .i64 j∧(∀ j' y,j'<j→L[j']? = some y→lessE y x=true)∧Below wo.heap.size wo wr) (fun i _=>m-(intOf i).toNat)
  case atStart=>exact⟨0,Nat.zero_le _,rfl,fun j' y hj=>absurd hj (by omega),Below.refl _ _⟩
  case round =>
   obtain⟨j,hj,rfl,hall,hb2⟩:=hrel
   have HAL:=Lib.hid hall
   clear hall
   by_cases hjm:j<m
   ·have t1:(j:Int)<(m:Int):=by omega
    obtain⟨y,hy⟩:∃ y,L[j]? = some y:=⟨_,List.getElem?_eq_getElem (by rw[← HM.out];omega)⟩
    obtain⟨A',o',c',e',-,hcl⟩:=HF.out
    obtain⟨rfl,-,rfl⟩:=Value.slice.inj e'
    obtain⟨ob,rfl,hob,k0,k1,k2⟩:=hcl j y hy
    have HS:Hid (∀ W,Below wr.heap.size wr W→Below wr.heap.size wr W∧(W.cell? ⟨g0,0,none⟩=some (.int .u64 (x.h:Nat))∧W.cell? ⟨g0,1,none⟩=some (.int .i64 x.v)∧W.cell? ⟨g0,2,none⟩=some (.int .i64 x.p)) ∧
      (W.cell? ⟨ob,o'+j*3,none⟩=some (.int .u64 (y.h:Nat))∧W.cell? ⟨ob,o'+j*3+1,none⟩=some (.int .i64 y.v)∧W.cell? ⟨ob,o'+j*3+2,none⟩=some (.int .i64 y.p))):=Lib.hid fun W hW =>
     ⟨hW,HX.out W (bj hb2 hW),((bj hb2 hW).cell (p:=⟨ob,o'+j*3,none⟩) hob).trans k0,((bj hb2 hW).cell (p:=⟨ob,o'+j*3+1,none⟩) hob).trans k1,((bj hb2 hW).cell (p:=⟨ob,o'+j*3+2,none⟩) hob).trans k2⟩
    have s0:=HS.out wr (Below.refl _ _)
    have HY:=Lib.hid hy
    have HL:=fun W=>less_ref y x W
    clear hcl k0 k1 k2 hob e' hy HF
    cases o:lessE y x
    all_goals
     rw[o] at HL
     have HLL:=Lib.hid HL
     have HO:=Lib.hid o
     clear HL o
     obtain⟨-,⟨a0,a1,a2⟩,c0,c1',c2⟩:=s0
     go_wp2_with fail
     go_region_held3 (fun W=>Below wr.heap.size wr W∧(W.cell? ⟨g0,0,none⟩=some (.int .u64 (x.h:Nat))∧W.cell? ⟨g0,1,none⟩=some (.int .i64 x.v)∧W.cell? ⟨g0,2,none⟩=some (.int .i64 x.p)) ∧
      (W.cell? ⟨ob,o'+j*3,none⟩=some (.int .u64 (y.h:Nat))∧W.cell? ⟨ob,o'+j*3+1,none⟩=some (.int .i64 y.v)∧W.cell? ⟨ob,o'+j*3+2,none⟩=some (.int .i64 y.p)))
      (first | (with_reducible assumption) | ((with_reducible refine HS.out _ ?_);(first | (with_reducible assumption) | (with_reducible exact Below.refl _ _) | (with_reducible exact(Below.refl _ _).drew) | exact(bj (And.left (by with_reducible assumption)) ‹Below _ _ _›));done) | fail)
      (first
      | (go_at_call 123;((with_reducible refine(HLL.out _).mono ?_);rintro e w3 ⟨rfl,hb3⟩;have hB3:Below wr.heap.size wr w3:=bj (And.left (by with_reducible assumption)) hb3))
      | fail)
     all_goals
      go_wp2
      first
      | (go_roundw
         case rel =>
          refine⟨j+1,by omega,by go_num,fun i z hi hz=>?_,bj hb2 hB3⟩
          rcases Nat.lt_or_ge i j with c | c
          ·exact HAL.out i z c hz
          ·obtain rfl:i=j:=by omega
           rw[HY.out] at hz
           rw[← Option.some.inj hz]
           exact HO.out
         case measure=>simp[intOf];omega)
      | (go_meet
         exact⟨by rw[Nat.le_antisymm (posE_lt HY.out HO.out) (posE_at (by rw[← HM.out];exact hj) HAL.out)],bj hb2 hB3⟩)
   ·obtain rfl:j=m:=by omega
    have t1:¬ (j:Int)<(j:Int):=by omega
    have t2:decide (j<j)=false:=decide_eq_false (by omega)
    have hP:=Lib.hid (show posE L x=j from Nat.le_antisymm (by rw[HM.out];exact posE_le L x) (posE_at (by rw[← HM.out];exact hj) HAL.out))
    clear hjm HF
    go_wp2
    first
    | (go_quiet (fail)
       go_wp2
       go_meet
       exact⟨by rw[hP.out],below_drewN hb2 _⟩)
    | (go_meet
       exact⟨by rw[hP.out],hb2⟩)
 case rest =>
  obtain⟨rfl,hbc⟩:=hcut
  have hjm:posE L x≤m:=by rw[HM.out];exact posE_le L x
  have HNew:=Lib.hid (layE_new (L:=L) (x:=x))
  have HOld:=Lib.hid (layE_old (L:=L) (x:=x))
  generalize posE L x=j at *
  go_upto_region 4 with fail
  go_cut [31] from 6 to 44 (fun c wx=>c = .bool (decide (L[j]? = some x))∧∃ nn,wx=wc.drewN nn)
  case first =>
   by_cases hj:j=m
   ·subst hj
    have e0:L[j]? = none:=List.getElem?_eq_none (by rw[← HM.out];exact Nat.le_refl _)
    have E0:=Lib.hid (show decide (L[j]? = some x)=false by rw[e0];exact decide_eq_false (fun h=>by cases h))
    have t1:¬ (j:Int)<(j:Int):=by omega
    have t2:decide (j<j)=false:=decide_eq_false (by omega)
    clear HF e0
    go_wp2_with fail
    go_quiet (fail)
    go_wp2
    go_meet
    exact⟨by rw[E0.out],_,rfl⟩
   ·have t3:(j:Int)<(m:Int):=by omega
    have t4:j<m:=by omega
    have t5:decide (j<m)=true:=decide_eq_true t4
    obtain⟨y,hy⟩:∃ y,L[j]? = some y:=⟨_,List.getElem?_eq_getElem (by rw[← HM.out];omega)⟩
    obtain⟨A',o',c',e',-,hcl⟩:=HF.out
    obtain⟨rfl,-,rfl⟩:=Value.slice.inj e'
    obtain⟨ob,rfl,hob,k0,k1,k2⟩:=hcl j y hy
    have f0:=(hbc.cell (p:=⟨ob,o'+j*3,none⟩) hob).trans k0
    have f1:=(hbc.cell (p:=⟨ob,o'+j*3+1,none⟩) hob).trans k1
    have f2:=(hbc.cell (p:=⟨ob,o'+j*3+2,none⟩) hob).trans k2
    obtain⟨a0,a1,a2⟩:=HX.out wc hbc
    have heq:=fun W=>ent_eql y x W
    have E1:=Lib.hid (show decide (L[j]? = some x)=decide (y=x) by rw[hy,decide_eq_decide];exact⟨fun h=>Option.some.inj h,fun h=>by rw[h]⟩)
    clear hcl k0 k1 k2 hob e' hy HF hj
    generalize decide (y=x)=q at *
    obtain⟨xh,xv,xp⟩:=x
    obtain⟨yh,yv,yp⟩:=y
    simp only at f0 f1 f2 a0 a1 a2
    go_wp2_with fail
    go_quiet (fail)
    go_wp2
    go_meet
    exact⟨by rw[E1.out],_,rfl⟩
  case rest =>
   obtain⟨rfl,nn,rfl⟩:=hcut
   have hbd:Below wo.heap.size wo (wc.drewN nn):=below_drewN hbc nn
   clear hbc HF
   generalize wc.drewN nn=wd at *
   by_cases hj:L[j]? = some x
   ·rw[decide_eq_true hj]
    have hR2:=EntRow.below HR.out hbd (Nat.le_refl _)
    have HFIN:Hid (WithEnd w base (.slice A1 m c1) K (.returned (.slice A1 m c1)) wd):=Lib.hid (by
     rw[← HK.out,HOld.out hj]
     refine⟨A1,c1,by rw[HM.out],hR2,by rw[HGG.out];exact HBW.out _ hbd,fun b hb=>Or.inl (by rw[HM.out];exact hb)⟩)
    clear HR HNew HOld HIN hR2 HX hj
    go_wp2
    go_ret
    exact HFIN.out
   ·rw[decide_eq_false hj]
    have hNew:=HNew.out hj
    have HB:=Lib.hid (fun W (hW:Below wd.heap.size wd W)=>(show g0≤W.heap.size from by rw[← HGG.out];exact(bj (by have:=HBW.out _ hbd;rw[← HGG.out] at this;exact this) hW).size))
    have hin1:=EntsIn.below HIN.out hbd (Nat.le_refl _)
    have HX1:=Lib.hid (fun W (hW:Below wd.heap.size wd W)=>HX.out W (bj hbd hW))
    rw[← HM.out] at hin1
    obtain⟨T1,tc1,hs1,hp1⟩:=ents_to hin1 (m:=j) (by rw[← HM.out];exact hjm)
    obtain⟨T2,tc2,hs2,hp2⟩:=ents_from hin1 (k:=j) (by rw[← HM.out];exact hjm)
    obtain⟨a0,a1,a2⟩:=HX1.out wd (Below.refl _ _)
    have hl1:(L.take j).length=j:=by rw[List.length_take,← HM.out];omega
    have hl2:(L.drop j).length=m-j:=by rw[List.length_drop,← HM.out]
    rw[← HM.out] at hs2 hp2
    have HP1:=Lib.hid hp1
    have HP2:=Lib.hid hp2
    have HL1:=Lib.hid hl1
    have HL2:=Lib.hid hl2
    have HNW:=Lib.hid ((HK.out.symm.trans hNew.symm))
    have HBD:=Lib.hid hbd
    have s0:(0:Int)≤0:=by omega
    clear hj HR HNew HOld HIN hNew hin1 hp1 hp2 hl1 hl2 HX hbd
    go_upto_region 6 with fail
    have HS:Hid (∀ W,Below wd.heap.size wd W→Below wd.heap.size wd W∧W.cell? ⟨g0,0,none⟩=some (.int .u64 (x.h:Nat))∧W.cell? ⟨g0,1,none⟩=some (.int .i64 x.v)∧W.cell? ⟨g0,2,none⟩=some (.int .i64 x.p)):=Lib.hid fun W hW=>⟨hW,HX1.out W hW⟩
    go_region_held_law (fun W=>Below wd.heap.size wd W∧W.cell? ⟨g0,0,none⟩=some (.int .u64 (x.h:Nat))∧W.cell? ⟨g0,1,none⟩=some (.int .i64 x.v)∧W.cell? ⟨g0,2,none⟩=some (.int .i64 x.p))
     (first | (with_reducible assumption) | ((with_reducible refine HS.out _ ?_);(repeat' (first | (with_reducible assumption) | (with_reducible exact Below.refl _ _) | (with_reducible refine Below.drew ?_) | (with_reducible refine st_alloc ?_ _) | exact And.left (by with_reducible assumption)));done) | fail)
     (first
     | (refine step_append_ents (l:=[]) (m:=L.take j) (by rfl) _ _ (by rfl) (by rfl) (by rfl) (EntRow.nil _ g0) (HP1.out _ _ (Nat.le_refl _) (And.left (by with_reducible assumption))) (by rw[HL1.out];simp only[List.length_nil];omega) (HB.out _ (And.left (by with_reducible assumption))) ?_;intro v1 V1 own1 gr1 at1;have far1:∀ z,v1.ownBlock=some z→wd.heap.size≤z:=far_more (And.left (by with_reducible assumption)) far_none at1;have b1:Below wd.heap.size wd V1:=st_grown (And.left (by with_reducible assumption)) gr1 far_none;(with_reducible (try (have sB:=(ent_one _ x).drew.grown0 gr1))))
     | (refine step_append_ents (l:=[]++L.take j) (m:=[x]) (by rfl) _ _ (by rfl) (by rfl) (by rfl) (EntRow.alloc own1 _) (ent_one _ x) (by simp only[List.nil_append,List.length_cons,List.length_nil];rw[HL1.out];omega) (HB.out _ (st_alloc b1 _)) ?_;intro v2 V2 own2 gr2 at2;have far2:∀ z,v2.ownBlock=some z→wd.heap.size≤z:=far_more (st_alloc b1 _) far1 at2;have b2:Below wd.heap.size wd V2:=st_grown (st_alloc b1 _) gr2 far1)
     | (refine step_append_ents (l:=[]++L.take j) (m:=[x]) (by rfl) _ _ (by rfl) (by rfl) (by rfl) own1 sB (by simp only[List.nil_append,List.length_cons,List.length_nil];rw[HL1.out];omega) (HB.out _ b1) ?_;intro v2 V2 own2 gr2 at2;have far2:∀ z,v2.ownBlock=some z→wd.heap.size≤z:=far_more b1 far1 at2;have b2:Below wd.heap.size wd V2:=st_grown b1 gr2 far1)
     | (refine step_append_ents (l:=[]++L.take j++[x]) (m:=L.drop j) (by rfl) _ _ (by rfl) (by rfl) (by rfl) own2 (HP2.out _ _ (Nat.le_refl _) b2) (by simp only[List.nil_append,List.length_append,List.length_cons,List.length_nil];rw[HL1.out,HL2.out];omega) (HB.out _ b2) ?_;intro v3 V3 own3 gr3 at3;have b3:Below wd.heap.size wd V3:=st_grown b2 gr3 far2)
     | fail)
    all_goals
     have HFIN:Hid (WithEnd w base (.slice A1 m c1) K (.returned v3) V3):=Lib.hid (by
      rw[HNW.out]
      obtain⟨A9,c9,rfl,own9⟩:=EntRow.shape own3
      have hw:Below w.heap.size w V3:=by rw[HGG.out];exact HBW.out _ (bj HBD.out b3)
      exact⟨A9,c9,rfl,EntRow.down own9 HBS.out,hw,fun b hb=>Or.inr (by have:=own9.lt b (ownL_mem.1 hb);rw[HGG.out];exact this)⟩)
     clear own1 own2 own3 gr1 gr2 gr3 at1 at2 at3 far1 far2 b1 b2 b3
     go_wp2
     exact bodyPost_ret (v:=v3) (by simp[results,Tryz.results64,go_sem]) rfl HFIN.out
end Go.Proofs.YtcpfkaehefcakaaGreat
