/- ZfRecStanding, ZfRecWholeOwn, ZfChunksIs -/
import Derived.RangeFuncNested
import Derived.RangeFuncBound
import Derived.RangeFuncCalls
import Derived.RangeFuncLeaves
import Derived.RangeFuncBox
import Derived.Shelf.Abstract
import Derived.WalkKit
import Derived.OwnWalkIn
import Derived.TacticsInMore
import Derived.LoopNIn
import Derived.LoopIn
import Derived.Test.YtokbfellcadkpaaGreatPf04
import Derived.Stop.RegionWithIn
import Derived.Test.YtokbfellcadkpaaGreatPf09
import Derived.Test.YtokbfellcadkpaaGreatPf08
namespace Go.Proofs.YtokbfellcadkpaaGreat
open Go.RowKit Go.Shelf
set_option linter.unusedVariables false
set_option maxRecDepth 100000
attribute [local go_sem] Oper.semAt_some
abbrev Place (s:ByteArray) := { k:Nat // gtOk s k=true }
def encPl (s:ByteArray)(x:Place s) : Array Value:=#[.int .i64 (x.1:Int),.int .i64 (getN s (x.1:Nat):Nat)]
def endPl (s:ByteArray)(k0:Nat)(pre:List (Place s)) : Nat:=(pre.getLast?.map fun x=>getN s (x.1:Nat)).getD k0
theorem endPl_snoc (s:ByteArray)(k0:Nat)(pre:List (Place s))(x:Place s) : endPl s k0 (pre++[x])=getN s (x.1:Nat):=by simp[endPl]
def intsPl {s:ByteArray}(pre:List (Place s)) : List Int:=pre.map fun x=>(x.1:Int)
theorem intsPl_snoc {s:ByteArray}(pre:List (Place s))(x:Place s) : intsPl (pre++[x])=intsPl pre++[(x.1:Int)]:=by simp[intsPl]
theorem intsPl_length {s:ByteArray}(pre:List (Place s)) : (intsPl pre).length=pre.length:=by simp[intsPl]
def KeepsBox (B:Nat)(W W':World) : Prop:=W'.heap[B]? = W.heap[B]?
theorem keepsBox_t {B:Nat}{X Y Z:World}(h:KeepsBox B X Y)(k:KeepsBox B Y Z) : KeepsBox B X Z:=Eq.trans k h
theorem keepsBox_b {B:Nat}{w:World}(hB:B<w.heap.size)(W:World)(l:Nat)(o o':Obj)(hl:w.heap.size≤l)(h:W.heap[l]? = some o)(_ : o.isCells=false)(_ : o.isWalk=false) : KeepsBox B W (W.putObj l o') :=
 (grownBy_putObj' W l o').block B (by have:=(Array.getElem?_eq_some_iff.1 h).1;omega) (fun e=>by cases e;omega)
theorem rboxed_below {W W':World}{B:Nat}{t:TypeId}{v:Value}(h:Boxed W B t v)(hb:Below W.heap.size W W') : Boxed W' B t v:=(hb.block B h.lt).trans h
theorem grown_of_below {W W':World}(h:Below W.heap.size W W') : W.grownBy W' none:=⟨h.os,h.tape,h.output,h.size,fun k hk _=>h.block k hk⟩
set_option maxRecDepth 100000 in
set_option maxHeartbeats 2000000 in
theorem standing_walk (n:Nat)(hn:1≤n)(l Bs Bf k0:Nat)(s:ByteArray)(hs:s.size≤1100000)(hk0:k0≤s.size)(J Jx:List (Place s)→World→Prop)(W:World)(hJ:AbidesFrom W.heap.size J)
  (hY:∀ pre x W1,J pre W1→pre.length<s.size+1→YieldAt Fence.wide (n-1) Tryz.prog l (encPl s x) W1 fun e W' =>
   (e = .returned (.bool true)∧J (pre++[x]) W'∧KeepsBox Bs W1 W')∨(e = .returned (.bool false)∧Jx (pre++[x]) W'))
  (hBs:Boxed W Bs 9 (.string s)) (hBf:W.cell? ⟨Bf,0,none⟩=some (.int .i64 k0)) (h0:J [] W) :
  CallsIn Fence.wide n Tryz.prog 222 #[.func (.yield l) #[] #[],.pointer (some ⟨Bf,0,none⟩),.pointer (some ⟨Bs,0,none⟩)] W fun e W'=>(∃ v,e = .returned v) ∧
   ((∃ ys,(intsPl ys=whL s (s.size+1) k0∧endPl s k0 ys=whE s (s.size+1) k0)∧J ys W')∨(∃ pre,True∧Jx pre W')):=by
 have HL:=Lib.hid (show intsPl ([]:List (Place s))++whL s (s.size+1) k0=whL s (s.size+1) k0 from rfl);obtain⟨L,hL⟩:∃ L,whL s (s.size+1) k0=L:=⟨_,rfl⟩
 obtain⟨E,hE⟩:∃ E,whE s (s.size+1) k0=E:=⟨_,rfl⟩
 have HL0:=Lib.hid hL;have HE0:=Lib.hid hE;rw[hL,hE];clear HL hL hE;refine callsIn_of_wp Tryz.func222 rfl trivial ?_ rfl;simp only[Tryz.ntmps222,List.size_toArray,List.length_cons,List.length_nil,Nat.reduceAdd,Nat.reduceSub,Array.replicate_succ,Array.replicate_zero,List.push_toArray,List.append_toArray,List.nil_append,List.cons_append]
 gi_wp2
 gi_loopw [4] (fun f wr=>∃ (k:Nat) (pre:List (Place s)),k≤s.size∧pre.length≤k∧f = .int .i64 k∧intsPl pre++whL s (s.size+1) k=L∧whE s (s.size+1) k=E∧endPl s k0 pre=k∧J pre wr∧Boxed wr Bs 9 (.string s))
  (fun f _=>s.size-(intOf f).toNat)
 case atStart=>exact⟨k0,[],hk0,Nat.zero_le _,rfl,HL0.out,HE0.out,rfl,h0,hBs⟩
 case round =>
  obtain⟨k,pre,hk,hpl,rfl,hL,hE,hend,hJs,hbs⟩:=hrel;have HG:=Lib.hid fun W=>rget_any s (k:Nat) W (by unfold maxLen;omega) (WalkArith.wf_i64 (by omega))
  have hc:=hbs.cell;cases hg:gtOk s k with
  | false =>
    obtain⟨e1,e2⟩:=wh_stop hg;rw[e1,List.append_nil] at hL;rw[e2] at hE;have hno:=getOk_nat s k;rw[hg] at hno;obtain⟨p1,p2⟩:=gt_no hno;unfold GotRec at HG;rw[hno,p1,p2] at HG;have HLL:=Lib.hid hL;have HEE:=Lib.hid (hend.trans hE);clear hg e1 e2 hno p1 p2 hL hE hend
    gi_wp2
    refine⟨trivial, ?_⟩;refine(callsIn_wide.2 (HG.out _)).mono ?_;rintro e w1 ⟨rfl,hb1⟩;have hJ1:=hJ pre wr w1 none hJs (grown_of_below hb1) (fun r e=>by cases e)
    gi_wp2
    refine⟨fun _ h=>(by cases h), ?_⟩
    gi_wp2
    refine bodyPost_ret (results_none rfl _ _ _) rfl ?_;exact⟨⟨_,rfl⟩,.inl ⟨pre,⟨HLL.out,HEE.out⟩,hJ1⟩⟩
  | true =>
    obtain⟨e1,e2⟩:=wh_step hk hg;have hln:=getN_lt hg;rw[e1] at hL;rw[e2] at hE;have hyes:=getOk_nat s k;rw[hg] at hyes;unfold GotRec at HG;rw[hyes] at HG;have hJ1:∀ w1,Below wr.heap.size wr w1→J pre w1:=fun w1 hb=>hJ pre wr w1 none hJs (grown_of_below hb) (fun r e=>by cases e)
    have HY:=Lib.hid fun w1 (h:J pre w1)=>hY pre ⟨k,hg⟩ w1 h (by omega)
    have HI:=Lib.hid (intsPl_snoc pre ⟨k,hg⟩);have HN:=Lib.hid (endPl_snoc s k0 pre ⟨k,hg⟩);unfold encPl at HY;simp only at HY HI HN;have HLL:=Lib.hid hL;have HEE:=Lib.hid hE;generalize getP s (k:Nat)=P at *;generalize getN s (k:Nat)=N at *;obtain⟨n1,n2⟩:=hln;clear e1 e2 hyes hL hE hend hY
    gi_wp2
    refine⟨trivial, ?_⟩;refine(callsIn_wide.2 (HG.out _)).mono ?_;rintro e w1 ⟨rfl,hb1⟩;obtain⟨fn,tmps,assign,body,hy,hR⟩:=HY.out w1 (hJ1 w1 hb1);have hbs1:=rboxed_below hbs hb1;clear hJ1
    gi_wp2
    refine hR.mono ?_;rintro e W3 (⟨rfl,hJ3,hk3⟩ | ⟨rfl,hJx3⟩)
    ·gi_wp2
     go_roundw
     case rel =>
      refine⟨N,pre++[⟨k,hg⟩],n2,by rw[List.length_append];simp;omega,rfl, ?_,HEE.out,HN.out,hJ3,Eq.trans hk3 hbs1⟩;rw[HI.out,List.append_assoc];exact HLL.out
     case measure=>simp[intOf];omega
    ·gi_wp2
     refine bodyPost_ret (results_none rfl _ _ _) rfl ?_;exact⟨⟨_,rfl⟩,.inr ⟨_,trivial,hJx3⟩⟩
theorem standing_stops (n:Nat)(hn:1≤n)(Bs Bf k0:Nat)(s:ByteArray)(hs:s.size≤1100000)(hk0:k0≤s.size)(w:World)
  (hBs:Boxed w Bs 9 (.string s)) (hBf:Boxed w Bf 3 (.int .i64 k0)) :
  SeqStopsK Fence.wide n Tryz.prog 222 #[.pointer (some ⟨Bf,0,none⟩),.pointer (some ⟨Bs,0,none⟩)] (encPl s) (KeepsBox Bs)
   (fun ys=>intsPl ys=whL s (s.size+1) k0∧endPl s k0 ys=whE s (s.size+1) k0) (fun _=>True) (s.size+1) w:=fun l J Jx W hW hJ _ hY h0 =>
 standing_walk n hn l Bs Bf k0 s hs hk0 J Jx W hJ hY (rboxed_below hBs hW) (rboxed_below hBf hW).cell h0
set_option maxHeartbeats 1000000 in
theorem standing_in (n:Nat)(s:ByteArray)(a:Int)(w:World) :
  CallsIn Fence.wide n Tryz.prog 185 #[.string s,.int .i64 a] w fun e w'=>e = .returned (.func (.func 222) #[] #[.pointer (some ⟨w.heap.size+1,0,none⟩),.pointer (some ⟨w.heap.size,0,none⟩)])∧w'=(w.alloc (.cells #[.string s] 9)).alloc (.cells #[.int .i64 a] 3):=by
 refine callsIn_of_wp Tryz.func185 rfl trivial ?_ rfl;simp only[Tryz.ntmps185,List.size_toArray,List.length_cons,List.length_nil,Nat.reduceAdd,Nat.reduceSub,Array.replicate_succ,Array.replicate_zero,List.push_toArray,List.append_toArray,List.nil_append,List.cons_append]
 gi_wp2
 go_ret;exact⟨rfl,rfl⟩
end Go.Proofs.YtokbfellcadkpaaGreat
namespace Go.Proofs.YtokbfellcadkpaaGreat
open Go.RowKit Go.Shelf
set_option linter.unusedVariables false
set_option maxRecDepth 100000
attribute [local go_sem] Oper.semAt_some
theorem rwhole_out (s:ByteArray)(a:Int)(w:World)(hs:s.size≤1100000)(wa:(Lit.int .i64 a).wf=true)(h:¬ (0≤a∧a≤s.size)) :
  Calls Tryz.prog 145 #[.string s,.int .i64 a] w (WholeRec s a w):=by
 have e1:wlL s a=[]:=by unfold wlL;rw[if_neg h]
 have e2:wlE s a=0:=by unfold wlE;rw[if_neg h]
 unfold WholeRec;rw[e1,e2];have H1:=Lib.hid fun W=>place_any s a W (by unfold maxLen;omega) wa
 rw[decide_eq_false h] at H1;clear h wa;go_enter Tryz.func145,Tryz.ntmps145;go_wp2_with fail;refine(H1.out _).mono ?_;rintro e w1 ⟨rfl,rfl⟩;go_wp2;exact bodyPost_ret (v:=.tuple #[.slice none 0 0,.int .i64 0]) (by simp[results,Tryz.results145,go_sem]) rfl ⟨_,rfl,Or.inl ⟨rfl,_,_,rfl⟩,((Below.refl _ w).alloc (Nat.le_refl _) _).alloc (by simp) _⟩
theorem iowns_mono {w:World}{B base n size:Nat}{e:TypeId}{v:Value}{xs:List Value}(h:w.ownsRow base e size v n xs)(hB:B≤base) : w.ownsRow B e size v n xs:=by
 refine⟨h.1, ?_⟩;rcases h.2 with h0 | ⟨g,cap,cur,hv,hg,r⟩
 ·exact Or.inl h0
 ·exact Or.inr ⟨g,cap,cur,hv,Nat.le_trans hB hg,r⟩
theorem iowns_form {w:World}{base n size:Nat}{e:TypeId}{v:Value}{xs:List Value}(h:w.ownsRow base e size v n xs) : ∃ A c,v = .slice A n c:=by
 rcases h.2 with⟨hv,h0⟩ | ⟨g,cap,cur,hv,_⟩
 ·exact⟨none,0,by rw[hv,h0]⟩
 ·exact⟨_,cap,hv⟩
theorem iowns_ne {w:World}{base n size B:Nat}{e:TypeId}{v:Value}{xs:List Value}(h:w.ownsRow base e size v n xs)(hB:B<base) : v.ownBlock≠some B:=fun e'=>by
 have:=iowns_block h B e';omega
set_option maxRecDepth 100000 in
set_option maxHeartbeats 4000000 in
theorem rwhole_in (s:ByteArray)(k0:Nat)(w:World)(hs:s.size≤1100000)(hk0:k0≤s.size) :
  Calls Tryz.prog 145 #[.string s,.int .i64 (k0:Nat)] w (WholeRec s (k0:Nat) w):=by
 obtain⟨i0,hi,hz0,hz1,hz2⟩:=info_parts info_int;have e1:wlL s (k0:Nat)=whL s (s.size+1) k0:=by unfold wlL;rw[if_pos (by omega),Int.toNat_natCast]
 have e2:wlE s (k0:Nat)=whE s (s.size+1) k0:=by unfold wlE;rw[if_pos (by omega),Int.toNat_natCast]
 unfold WholeRec;rw[e1,e2];clear e1 e2;have H1:=Lib.hid fun W=>place_any s (k0:Nat) W (by unfold maxLen;omega) (WalkArith.wf_i64 (by omega))
 rw[decide_eq_true (by omega)] at H1;refine(callsIn_wide (n:=8)).1 ?_;refine callsIn_of_wp_marks Tryz.func145 rfl trivial ?_ rfl;simp only[Tryz.ntmps145,List.size_toArray,List.length_cons,List.length_nil,Nat.reduceAdd,Nat.reduceSub,Array.replicate_succ,Array.replicate_zero,List.push_toArray,List.append_toArray,List.nil_append,List.cons_append]
 gi_wp2
 refine⟨trivial, ?_⟩;refine(callsIn_wide.2 (H1.out _)).mono ?_;rintro e w' ⟨rfl,rfl⟩
 gi_wp2
 refine⟨trivial, ?_⟩;refine(standing_in _ _ _ _).mono ?_;rintro e w' ⟨rfl,rfl⟩
 gi_wp2
 obtain⟨W0,hW0⟩:∃ W0,((((w.alloc (.cells #[.slice none 0 0] 96)).alloc (.cells #[.int .i64 (k0:Nat)] 3)).alloc (.cells #[.string s] 9)).alloc (.cells #[.int .i64 (k0:Nat)] 3))=W0:=⟨_,rfl⟩
 have hsz:W0.heap.size=w.heap.size+4:=by rw[← hW0];simp
 have hB0:Below w.heap.size w W0:=by rw[← hW0];exact((((Below.refl _ w).alloc (Nat.le_refl _) _).alloc (by simp) _).alloc (by simp;omega) _).alloc (by simp;omega) _
 have b0:Boxed W0 w.heap.size 96 (.slice none 0 0):=by rw[← hW0];exact(((Boxed.new w 96 (.slice none 0 0)).alloc _).alloc _).alloc _
 have b1:Boxed W0 (w.heap.size+1) 3 (.int .i64 (k0:Nat)):=by
  have h:=Boxed.new (w.alloc (.cells #[.slice none 0 0] 96)) 3 (.int .i64 (k0:Nat));rw[World.size_alloc] at h;rw[← hW0];exact(h.alloc _).alloc _
 have b2:Boxed W0 (w.heap.size+2) 9 (.string s):=by
  have h:=Boxed.new ((w.alloc (.cells #[.slice none 0 0] 96)).alloc (.cells #[.int .i64 (k0:Nat)] 3)) 9 (.string s);rw[World.size_alloc,World.size_alloc] at h;rw[← hW0];exact h.alloc _
 have b3:Boxed W0 (w.heap.size+3) 3 (.int .i64 (k0:Nat)):=by
  have h:=Boxed.new (((w.alloc (.cells #[.slice none 0 0] 96)).alloc (.cells #[.int .i64 (k0:Nat)] 3)).alloc (.cells #[.string s] 9)) 3 (.int .i64 (k0:Nat));rw[World.size_alloc,World.size_alloc,World.size_alloc] at h;rw[← hW0];exact h
 rw[hW0];clear hW0
 refine wpIn_rangeFunc_ownG rfl (by omega) (gf:=222) (lb:=#[.pointer (some ⟨w.heap.size+3,0,none⟩),.pointer (some ⟨w.heap.size+2,0,none⟩)]) rfl trivial (enters_of Tryz.func222 (by kernel_rfl) rfl)
  (standing_stops _ (by omega) (w.heap.size+2) (w.heap.size+3) k0 s hs hk0 W0 b2 b3) keepsBox_t (keepsBox_b (by omega)) (Below.refl _ _) (fun _=>rfl)
  (fun pre W=>(((∃ v,Boxed W w.heap.size 96 v∧W.ownsRow (w.heap.size+4) 3 1 v (intsPl pre).length ((intsPl pre).map i64V)∧True)∧Boxed W (w.heap.size+1) 3 (.int .i64 (endPl s k0 pre:Nat)))∧Boxed W (w.heap.size+2) 9 (.string s))∧Below w.heap.size W0 W)
  (fun _ _ _=>False)
  (OwnFrom.and (OwnFrom.and (OwnFrom.and (Own.from (holdsRow_own (w.heap.size+4) w.heap.size 96 3 1 (fun pre=>(intsPl pre).length) (fun pre=>(intsPl pre).map i64V) (fun _ _=>True)) _) (Own.from (boxed_own (w.heap.size+1) 3 (fun pre=>.int .i64 (endPl s k0 pre:Nat))) _)) (Own.from (boxed_own (w.heap.size+2) 9 (fun _=>.string s)) _)) (ownFrom_below (by omega) (by omega)))
  (fun _ _ _ _ _ hs _ _=>hs)
  ⟨⟨⟨⟨_,b0,World.ownsRow_nil _ _ _ _,trivial⟩,b1⟩,b2⟩,Below.refl _ _⟩
  (fun x=>{ tmps:=#[.string s,.int .i64 (k0:Nat),undef,undef,.pointer (some ⟨w.heap.size,0,none⟩),.pointer (some ⟨w.heap.size+1,0,none⟩),.int .i64 (x.1:Int),.int .i64 (getN s (x.1:Nat):Nat),.string s,.int .i64 (k0:Nat),.bool true,.bool false,.int .i64 (k0:Nat),.string s,.int .i64 (k0:Nat),.func (.func 222) #[] #[.pointer (some ⟨w.heap.size+1+1+1,0,none⟩),.pointer (some ⟨w.heap.size+1+1,0,none⟩)],.int .i64 (x.1:Int),.int .i64 (getN s (x.1:Nat):Nat),undef,undef,undef,undef,undef,undef,undef],defers:=[] })
  ?assign ?body ?done ?stop
 case assign =>
  rintro l x W K hK;unfold encPl
  gi_wp2
  exact hK
 case body =>
  rintro l pre x W ⟨⟨⟨⟨v,hv,hrow,_⟩,h1⟩,h2⟩,hB⟩ hlt;have hc:=hv.cell;have hc1:=h1.cell;have hf1:=h1.frozen;have hS:=Lib.hid (intsPl_snoc pre x);have hE:=Lib.hid (endPl_snoc s k0 pre x);have hW:w.heap.size+4≤W.heap.size:=by have:=hB.size;omega
  have hl:(intsPl pre).length<s.size+1:=by rw[intsPl_length];exact hlt
  generalize intsPl pre=q at *;clear hlt
  gi_wp2_with (gi_at_builtin;refine wpListIn_append_own _ rfl _ _ 96 rfl (w.heap.size+4) 3 i0 (.int .i64 0) 1 8 Tryz.underlying96 hi hz0 hz1 hz2 rfl (by decide) _ _ _ rfl (hrow.alloc _) ⟨W.heap.size,0,none⟩ 1 1 [.int .i64 (x.1:Int)] rfl rfl (cell_one_new _ _ _) (by intro u hu;simp at hu;subst hu;rfl) (by unfold maxLen;omega) (by omega) (by simp;omega) ?_;intro v' w1 hown' hgrow _;obtain⟨A',c',rfl⟩:=iowns_form hown';obtain⟨hv1,hv2,_,hk2,hb2⟩:=hv.appended (by decide) (iowns_mono hrow (by omega)) (by omega) (Nat.le_refl _) (iowns_mono hown' (by omega)) hgrow;have hc2:=hv1.cell;have hf2:=hv1.frozen;have hq1:=(h1.alloc _).kept hgrow (iowns_ne hrow (by omega)).symm;have hq2:=(h2.alloc _).kept hgrow (iowns_ne hrow (by omega)).symm;have hqc:=hq1.cell;have hqf:=hq1.frozen)
  have hq3:=(hq2.other (B':=w.heap.size) (by omega) (.slice A' (q.length+1) c')).other (B':=w.heap.size+1) (by omega) (.int .i64 (getN s (x.1:Nat):Nat));have hr1:=hown'.kept (grownBy_setCell' w1 w.heap.size (.slice A' (q.length+1) c')) (.inr (iowns_ne hown' (by omega)));have hr2:=hr1.kept (grownBy_setCell' _ (w.heap.size+1) (.int .i64 (getN s (x.1:Nat):Nat))) (.inr (iowns_ne hown' (by omega)));refine⟨(hk2.trans (KeepsOthers.setCell _ _ _)).from _,Eq.trans hq3 (Eq.symm h2),⟨⟨⟨_,hv2.other (by omega) _, ?_,trivial⟩, ?_⟩,hq3⟩,hB.trans (hb2.setCell (p:=⟨w.heap.size+1,0,none⟩) (by simp) _)⟩
  ·rw[hS.out,List.length_append,List.map_append];exact hr2
  ·rw[hE.out];exact(hq1.other (B':=w.heap.size) (by omega) _).set _
 case done =>
  rintro D ys W hD ⟨hys,hye⟩ ⟨⟨⟨⟨v,hv,hrow,_⟩,h1⟩,h2⟩,hB⟩ hK;obtain⟨q,hq⟩:∃ q,whL s (s.size+1) k0=q:=⟨_,rfl⟩
  obtain⟨E,hE⟩:∃ E,whE s (s.size+1) k0=E:=⟨_,rfl⟩
  rw[hys,hq] at hrow;rw[hye,hE] at h1;have HE:=Lib.hid hE;have HL:=Lib.hid hq;obtain⟨A,c,rfl⟩:=iowns_form hrow;have hc:=hv.cell;have hf:=hv.frozen;have hc1:=h1.cell;have hf1:=h1.frozen;have HQ:=Lib.hid (And.intro hrow (And.intro hB hK));clear hrow hB hK hys hye hq hE
  gi_wp2
  gi_region
  gi_wp2
  obtain⟨hrow,hB,hK⟩:=HQ.out;have w0:=(hv.set (.slice A q.length c)).other (B':=w.heap.size+1) (by omega) (.int .i64 (E:Nat));have w1:=(h1.other (B':=w.heap.size) (by omega) (.slice A q.length c)).set (.int .i64 (E:Nat));have hr1:=(hrow.kept (grownBy_setCell' W w.heap.size (.slice A q.length c)) (.inr (iowns_ne hrow (by omega)))).kept (grownBy_setCell' _ (w.heap.size+1) (.int .i64 (E:Nat))) (.inr (iowns_ne hrow (by omega)));have hK1:=(KeepsOthers.setCell (W.setCell ⟨w.heap.size,0,none⟩ (.slice A q.length c)) ⟨w.heap.size+1,0,none⟩ (.int .i64 (E:Nat))).same D _ ((KeepsOthers.setCell W ⟨w.heap.size,0,none⟩ (.slice A q.length c)).same D _ hK rfl) rfl;have hB1:=((((hB0.trans hB).setCell (p:=⟨w.heap.size,0,none⟩) (Nat.le_refl _) (.slice A q.length c)).setCell (p:=⟨w.heap.size+1,0,none⟩) (by simp) (.int .i64 (E:Nat)))).drew;have w0':Boxed (((W.setCell ⟨w.heap.size,0,none⟩ (.slice A q.length c)).setCell ⟨w.heap.size+1,0,none⟩ (.int .i64 (E:Nat))).drew) w.heap.size 96 (.slice A q.length c):=w0;have w1':Boxed (((W.setCell ⟨w.heap.size,0,none⟩ (.slice A q.length c)).setCell ⟨w.heap.size+1,0,none⟩ (.int .i64 (E:Nat))).drew) (w.heap.size+1) 3 (.int .i64 (E:Nat)):=w1;have hK2:(((W.setCell ⟨w.heap.size,0,none⟩ (.slice A q.length c)).setCell ⟨w.heap.size+1,0,none⟩ (.int .i64 (E:Nat))).drew).heap[D]? = some (.deferred (some [])):=hK1;have hr2:(((W.setCell ⟨w.heap.size,0,none⟩ (.slice A q.length c)).setCell ⟨w.heap.size+1,0,none⟩ (.int .i64 (E:Nat))).drew).ownsRow (w.heap.size+4) 3 1 (.slice A q.length c) q.length (q.map i64V):=hr1;clear w0 w1 hr1 hK1 hK hB hrow HQ hv h1 h2 hc hf hc1 hf1;generalize ((W.setCell ⟨w.heap.size,0,none⟩ (.slice A q.length c)).setCell ⟨w.heap.size+1,0,none⟩ (.int .i64 (E:Nat))).drew=W2 at *;refine⟨by simp,.inl ⟨_,_,rfl,run_takeDeferred hK2, ?_⟩⟩;have c0:=cell_kept w0'.cell (grownBy_putObj' _ D (.deferred none)) (fun r e=>by cases e;exact⟨_,hK2,rfl⟩);have c1:=cell_kept w1'.cell (grownBy_putObj' _ D (.deferred none)) (fun r e=>by cases e;exact⟨_,hK2,rfl⟩);rw[HL.out,HE.out];refine⟨.tuple #[.slice A q.length c,.int .i64 (E:Nat)], ?_,_,rfl,IntsIn.of_owns (ownsRow_putObj hr2 _ hK2 rfl),hB1.trans (belowK_b (w:=w) (Nat.le_refl _) W2 D _ _ (by omega) hK2 rfl rfl)⟩;simp[results,Tryz.f145,go_sem,c0,c1]
 case stop =>
  rintro D c pre W _ _ h _;exact h.elim
theorem rwhole_any (s:ByteArray)(a:Int)(w:World)(hs:s.size≤1100000)(wa:(Lit.int .i64 a).wf=true) :
  Calls Tryz.prog 145 #[.string s,.int .i64 a] w (WholeRec s a w):=by
 by_cases h:0≤a∧a≤s.size
 ·obtain⟨k,rfl⟩:∃ k:Nat,a=k:=⟨a.toNat,by omega⟩
  exact rwhole_in s k w hs (by omega)
 ·exact rwhole_out s a w hs wa h
end Go.Proofs.YtokbfellcadkpaaGreat
namespace Go.Proofs.YtokbfellcadkpaaGreat
set_option maxRecDepth 100000
set_option linter.unusedVariables false
section
open Go.RowKit
theorem head_any (n:Int)(w:World)(wn:(Lit.int .i64 n).wf=true) :
  Calls Tryz.prog 126 #[.int .i64 n] w fun e w'=>e = .returned (.string (hdS n))∧Below w.heap.size w w':=by
 by_cases h:0≤n∧n≤199
 ·obtain⟨k,rfl⟩:∃ k:Nat,n=k:=⟨n.toNat,by omega⟩
  rw[hd_yes (by omega)];have HP:=Lib.hid fun W=>put_some k 4 W (by omega) (by omega) (by omega)
  have HS:=Lib.hid fun W=>seal_any (hdT k) W (by rw[hdT_size];decide)
  have ha:∀ w:World,(Op.stringOp .add ⟨#[99,104,110,107]⟩ (bs (be 4 k))).run Tryz.prog w = .ok (.string (hdT k)) w:=fun w=>run_string_add_sum (P:=Tryz.prog) (w:=w) _ _ (by rw[bs_size,be_length];decide)
  have t1:decide ((k:Int)<0)=false:=decide_eq_false (by omega);have t2:decide ((200:Int)≤(k:Int))=false:=decide_eq_false (by omega);have t3:(k:Int)<200:=by omega
  have hw:IntKind.u64.wrap (k:Int)=(k:Int):=by rw[IntKind.wrap_u64];omega
  generalize sealS (hdT k)=S at *;generalize hdT k=T at *;generalize bs (be 4 k)=B at *;clear h;go_enter Tryz.func126,Tryz.ntmps126;go_wp2_with fail;refine(HP.out _).mono ?_;rintro e w1 ⟨rfl,hb1⟩;go_wp2_with fail;refine(HS.out _).mono ?_;rintro e w2 ⟨rfl,hb2⟩;go_wp2;go_ret;exact⟨rfl,bj hb1 hb2⟩
 ·rw[hd_no h];by_cases h0:n<0
  ·have t1:decide (n<0)=true:=decide_eq_true h0;clear h;go_enter Tryz.func126,Tryz.ntmps126;go_wp2;go_ret;exact⟨rfl,Below.refl _ _⟩
  ·have t1:decide (n<0)=false:=decide_eq_false h0;have t2:decide ((200:Int)≤n)=true:=decide_eq_true (by omega);clear h;go_enter Tryz.func126,Tryz.ntmps126;go_wp2;go_ret;exact⟨rfl,Below.refl _ _⟩
theorem cscan_none (s:ByteArray)(n:Int)(w:World)(wn:(Lit.int .i64 n).wf=true)(h:¬ (0≤n∧n≤199)) :
  Calls Tryz.prog 81 #[.string s,.int .i64 n] w (NoChunk w):=by
 have HH:=Lib.hid fun W=>head_any n W wn
 rw[hd_no h] at HH;unfold NoChunk;clear h;go_enter Tryz.func81,Tryz.ntmps81;go_wp2_with fail;refine(HH.out _).mono ?_;rintro e w1 ⟨rfl,hb1⟩;go_wp2;go_ret3;exact⟨_,rfl,Or.inl ⟨rfl,_,_,rfl⟩,hb1⟩
set_option maxHeartbeats 800000 in
theorem cscan_no (s H:ByteArray)(n:Int)(w:World)(hz:H.size=12)
  (HH:Hid (∀ W:World,Calls Tryz.prog 126 #[.int .i64 n] W fun e w'=>e = .returned (.string H)∧Below W.heap.size W w'))
  (HA:Hid (∀ W:World,Calls Tryz.prog 144 #[.string s,.string H] W fun e w'=>e = .returned (.bool false)∧W=w'))
  (HB:Hid (∀ W:World,Calls Tryz.prog 144 #[.string H,.string s] W fun e w'=>e = .returned (.bool false)∧W=w')) :
  Calls Tryz.prog 81 #[.string s,.int .i64 n] w (NoChunk w):=by
 unfold NoChunk;obtain⟨v2,v3⟩:=ne_nil_of_size hz;go_enter Tryz.func81,Tryz.ntmps81;go_wp2_with fail;refine(HH.out _).mono ?_;rintro e w1 ⟨rfl,hb1⟩;go_wp2_with fail;refine(HA.out _).mono ?_;rintro e w2 ⟨rfl,rfl⟩;go_wp2_with fail;refine(HB.out _).mono ?_;rintro e w2 ⟨rfl,rfl⟩;go_wp2;go_ret3;exact⟨_,rfl,Or.inl ⟨rfl,_,_,rfl⟩,hb1⟩
set_option maxHeartbeats 800000 in
theorem cscan_half (s H:ByteArray)(n:Int)(w:World)(hz:H.size=12)
  (HH:Hid (∀ W:World,Calls Tryz.prog 126 #[.int .i64 n] W fun e w'=>e = .returned (.string H)∧Below W.heap.size W w'))
  (HA:Hid (∀ W:World,Calls Tryz.prog 144 #[.string s,.string H] W fun e w'=>e = .returned (.bool false)∧W=w'))
  (HB:Hid (∀ W:World,Calls Tryz.prog 144 #[.string H,.string s] W fun e w'=>e = .returned (.bool true)∧W=w')) :
  Calls Tryz.prog 81 #[.string s,.int .i64 n] w (HalfChunk w):=by
 unfold HalfChunk;obtain⟨v2,v3⟩:=ne_nil_of_size hz;go_enter Tryz.func81,Tryz.ntmps81;go_wp2_with fail;refine(HH.out _).mono ?_;rintro e w1 ⟨rfl,hb1⟩;go_wp2_with fail;refine(HA.out _).mono ?_;rintro e w2 ⟨rfl,rfl⟩;go_wp2_with fail;refine(HB.out _).mono ?_;rintro e w2 ⟨rfl,rfl⟩;go_wp2;go_ret3;exact⟨_,rfl,Or.inl ⟨rfl,_,_,rfl⟩,hb1⟩
set_option maxHeartbeats 800000 in
theorem cscan_whole (s H:ByteArray)(n:Int)(w:World)(hz:H.size=12)(L:List Int)(E:Nat)
  (HH:Hid (∀ W:World,Calls Tryz.prog 126 #[.int .i64 n] W fun e w'=>e = .returned (.string H)∧Below W.heap.size W w'))
  (HA:Hid (∀ W:World,Calls Tryz.prog 144 #[.string s,.string H] W fun e w'=>e = .returned (.bool true)∧W=w'))
  (HW:Hid (∀ W:World,Calls Tryz.prog 145 #[.string s,.int .i64 12] W fun e w'=>∃ u,e = .returned (.tuple #[u,.int .i64 (E:Nat)])∧IntsIn w' u L∧Below W.heap.size W w')) :
  Calls Tryz.prog 81 #[.string s,.int .i64 n] w fun e w'=>∃ u,e = .returned (.tuple #[u,.int .i64 (E:Nat),.bool true])∧IntsIn w' u L∧Below w.heap.size w w':=by
 obtain⟨v2,v3⟩:=ne_nil_of_size hz;go_enter Tryz.func81,Tryz.ntmps81;go_wp2_with fail;refine(HH.out _).mono ?_;rintro e w1 ⟨rfl,hb1⟩;go_wp2_with fail;refine(HA.out _).mono ?_;rintro e w2 ⟨rfl,rfl⟩;go_wp2_with fail;refine(HW.out _).mono ?_;rintro e w2 ⟨u,rfl,hu,hb2⟩;obtain⟨A,c,rfl⟩:=hu.forms;go_wp2;go_ret3;exact⟨_,rfl,hu,bj hb1 hb2⟩
theorem cscan_any (s:ByteArray)(n:Int)(w:World)(hs:s.size≤1100000)(wn:(Lit.int .i64 n).wf=true) :
  Calls Tryz.prog 81 #[.string s,.int .i64 n] w (Scanned s n w):=by
 have hno:scK s n=0→∀ e w',NoChunk w e w'→Scanned s n w e w':=by
  intro hk e w' ⟨u,he,hu,hb⟩;obtain⟨e1,e2,e3⟩:=sc_0 hk;exact⟨u,by rw[he,e2,e3];rfl,by rw[e1];exact hu,hb⟩
 have hhalf:scK s n=1→∀ e w',HalfChunk w e w'→Scanned s n w e w':=by
  intro hk e w' ⟨u,he,hu,hb⟩;obtain⟨e1,e2,e3⟩:=sc_1 hk;exact⟨u,by rw[he,e2,e3];rfl,by rw[e1];exact hu,hb⟩
 by_cases h:0≤n∧n≤199
 ·obtain⟨k,rfl⟩:∃ k:Nat,n=k:=⟨n.toNat,by omega⟩
  have hz:=hd_size (n:=k) (by omega);have HH:=Lib.hid fun W=>head_any (k:Nat) W wn
  have hs2:s.size≤maxLen:=by unfold maxLen;omega
  have hh2:(hdS (k:Nat)).size≤maxLen:=by rw[hz];decide
  have HA:=fun W=>pre_any s (hdS (k:Nat)) W hs2 hh2
  have HB:=fun W=>pre_any (hdS (k:Nat)) s W hh2 hs2
  have hx:(hdS (k:Nat)).extract 0 12=hdS (k:Nat):=by rw[← hz];exact ByteArray.extract_zero_size
  by_cases ha:12≤s.size∧s.extract 0 12=hdS (k:Nat)
  ·have e1:preS s (hdS (k:Nat))=true:=by unfold preS;rw[hz];exact decide_eq_true ha
   rw[e1] at HA;have hk:scK s (k:Nat)=2:=scK_whole h (by rw[Nat.min_eq_right ha.1,ha.2,hx]) (by omega);obtain⟨x1,x2,x3⟩:=sc_2 hk;have HW:=Lib.hid fun W=>rwhole_any s 12 W hs (by decide)
   unfold WholeRec at HW;unfold Scanned;rw[x1,x2,x3];exact cscan_whole s _ _ w hz _ _ HH (Lib.hid HA) HW
  ·have e1:preS s (hdS (k:Nat))=false:=by unfold preS;rw[hz];exact decide_eq_false ha
   rw[e1] at HA;by_cases hb:s.size≤12∧(hdS (k:Nat)).extract 0 s.size=s
   ·have e2:preS (hdS (k:Nat)) s=true:=by unfold preS;rw[hz];exact decide_eq_true hb
    rw[e2] at HB
    have hl:s.size<12:=by
     rcases Nat.lt_or_ge s.size 12 with c | c
     ·exact c
     ·have e12:s.size=12:=by omega
      refine absurd ⟨c, ?_⟩ ha;have h2:=hb.2;rw[e12,hx] at h2;rw[← e12,ByteArray.extract_zero_size];exact h2.symm
    have hk:scK s (k:Nat)=1:=scK_short h (by rw[Nat.min_eq_left (by omega),hb.2,ByteArray.extract_zero_size]) hl;exact(cscan_half s _ _ w hz HH (Lib.hid HA) (Lib.hid HB)).mono (hhalf hk)
   ·have e2:preS (hdS (k:Nat)) s=false:=by unfold preS;rw[hz];exact decide_eq_false hb
    rw[e2] at HB
    have hk:scK s (k:Nat)=0:=scK_bad h (fun q=>by
     rcases Nat.lt_or_ge s.size 12 with c | c
     ·rw[Nat.min_eq_left (by omega),ByteArray.extract_zero_size] at q;exact hb ⟨by omega,q.symm⟩
     ·rw[Nat.min_eq_right c,hx] at q;exact ha ⟨c,q⟩)
    exact(cscan_no s _ _ w hz HH (Lib.hid HA) (Lib.hid HB)).mono (hno hk)
 ·exact(cscan_none s n w wn h).mono (hno (scK_no h))
theorem cfits_any (size:Int)(p:ByteArray)(w:World)(hp:p.size≤maxLen)(wn:(Lit.int .i64 size).wf=true) :
  Calls Tryz.prog 125 #[.int .i64 size,.string p] w fun e w'=>e = .returned (.bool (ftS size p))∧w=w':=by
 have hb:=bounds_i64 wn;unfold maxLen at hp;unfold ftS;by_cases h1:p.size≤2000
 ·by_cases h2:0≤size
  ·by_cases h3:size≤4084-(p.size:Int)
   ·rw[decide_eq_true ⟨h1,h2,by omega,by omega⟩];go_enter Tryz.func125,Tryz.ntmps125;go_wp2;go_ret;exact⟨rfl,rfl⟩
   ·rw[decide_eq_false (fun q=>h3 (by omega))];go_enter Tryz.func125,Tryz.ntmps125;go_wp2;go_ret;exact⟨rfl,rfl⟩
  ·rw[decide_eq_false (fun q=>h2 q.2.1)];go_enter Tryz.func125,Tryz.ntmps125;go_wp2;go_ret;exact⟨rfl,rfl⟩
 ·rw[decide_eq_false (fun q=>h1 q.1)];go_enter Tryz.func125,Tryz.ntmps125;go_wp2;go_ret;exact⟨rfl,rfl⟩
theorem capi : ChunksApi where
 head:=head_any
 scan:=cscan_any
 fits:=cfits_any
 put:=rput_any
end
end Go.Proofs.YtokbfellcadkpaaGreat
