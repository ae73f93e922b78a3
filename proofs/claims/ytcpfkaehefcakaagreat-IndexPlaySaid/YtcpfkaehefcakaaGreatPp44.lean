/- ZpPtWrite, ZpPtDrop, ZpIxLists, ZpIxRange, ZpIxAll, ZpIxLast -/
import Derived.Test.YtcpfkaehefcakaaGreatPp38
import Derived.Test.YtcpfkaehefcakaaGreatPp43
import Derived.Test.YtcpfkaehefcakaaGreatPp36
import Derived.Test.YtcpfkaehefcakaaGreatPp42
import Derived.Test.YtcpfkaehefcakaaGreatPp41
import Derived.Test.YtcpfkaehefcakaaGreatPp09
import Derived.Test.YtcpfkaehefcakaaGreatPp10
import Derived.Test.YtcpfkaehefcakaaGreatPp18
import Derived.Test.YtcpfkaehefcakaaGreatPp19
namespace Go.Proofs.YtcpfkaehefcakaaGreat
open Go.RowKit
set_option linter.unusedVariables false
set_option maxRecDepth 100000
theorem nm_full {c:UInt8}{n:Int}(h:nmS c n≠ByteArray.empty) : ¬ (nmS c n).toList=[]∧((nmS c n).toList==[])=false:=by
 have h1:¬ (nmS c n).toList=[]:=fun e=>h (by
  rw[Lib.toList_data] at e
  exact ByteArray.ext (Array.toList_inj.1 e))
 exact⟨h1,by rw[beq_eq_false_iff_ne];exact h1⟩
section
variable {At : Lies} (api : DiskApi At) (nap : NamesApi) {w0 w : World} {gd : Nat} {D : DiskS} {E : List Nat}
theorem wp_write {D:DiskS}(ok:WfP D)(n:Int)(l:List EntS)(t:ByteArray) : WfP (writeP D n l t).2:=by
 unfold writeP
 have o1:=wp_lay ok (ptB n) t
 have o2:=wp_lay o1 (ptT n) (tbB l)
 split
 ·exact ok
 ·split
  ·exact ok
  ·split
   ·exact ok
   ·split
    ·exact o1
    ·split
     ·exact wp_delete o2 _
     ·exact o2
theorem wp_drop {D:DiskS}(ok:WfP D)(n:Int) : WfP (dropP D n).2:=by
 unfold dropP
 have o1:=wp_delete ok (ptT n)
 have o2:=wp_delete o1 (ptB n)
 split
 ·exact o1
 ·split
  ·exact o2
  ·exact o2
theorem pwrite_bad (nap:NamesApi)(d:Value)(n:Int)(wn:(Lit.int .i64 n).wf=true)(v:Value)(l:List EntS)(hv:EntsIn w v l)(hl:l.length≤1000)(hok:∀ x∈l,EntOk x)(r:Nat)(hb:ptT n=ByteArray.empty∨tbOk l=false) :
  Calls Tryz.prog 92 #[d,.int .i64 n,v,.float .f64 r] w fun e w'=>e = .returned (err 2)∧Below w.heap.size w w':=by
 have HP:=Lib.hid (tput_any v l w hv (by omega) hok)
 have HN:=Lib.hid fun W=>nap.table n W wn
 by_cases hn:ptT n=ByteArray.empty
 ·have hn2:nmS 116 n=ByteArray.empty:=hn
  rw[hn2] at HN
  obtain⟨A,off,cap,rfl,-,-⟩:=hv.form
  have HP2:=HP.out
  unfold TbEnd at HP2
  generalize tbS l=s at *
  generalize tbE l=y at *
  have HP3:=Lib.hid HP2
  clear hv hl hok hb hn hn2 HP HP2 wn
  generalize l.length=m at *
  go_enter Tryz.func92,Tryz.ntmps92
  go_wp2_with fail
  refine HP3.out.mono ?_
  rintro e w1 ⟨rfl,b1⟩
  go_wp2_with fail
  refine(HN.out _).mono ?_
  rintro e w2 ⟨rfl,b2⟩
  go_wp2
  go_ret
  exact⟨rfl,bj b1 b2⟩
 ·have ht:tbOk l=false:=by rcases hb with hb | hb;exact absurd hb hn;exact hb
  obtain⟨n1,n2⟩:=nm_full (c:=116) (n:=n) hn
  have HP2:=HP.out
  unfold TbEnd at HP2
  rw[(tb_no ht).1,(tb_no ht).2] at HP2
  obtain⟨A,off,cap,rfl,-,-⟩:=hv.form
  have HP3:=Lib.hid HP2
  generalize nmS 116 n=nm at *
  clear hv hl hok hb hn HP HP2 wn ht
  generalize l.length=m at *
  go_enter Tryz.func92,Tryz.ntmps92
  go_wp2_with fail
  refine HP3.out.mono ?_
  rintro e w1 ⟨rfl,b1⟩
  go_wp2_with fail
  refine(HN.out _).mono ?_
  rintro e w2 ⟨rfl,b2⟩
  go_wp2
  go_ret
  exact⟨rfl,bj b1 b2⟩
include api nap
set_option maxHeartbeats 4000000 in
theorem pwrite_run (h:DS At w0 gd D E w)(ok:WfP D)(n:Int)(wn:(Lit.int .i64 n).wf=true)(v:Value)(l:List EntS)(hv:EntsIn w v l)(hl:l.length≤1000)(hok:∀ x∈l,EntOk x)(r:Nat)(hr:r<18446744073709551616)(hn:ptT n≠ByteArray.empty)(ht:tbOk l=true)(hd:D.down=false) :
  Calls Tryz.prog 92 #[ptr gd,.int .i64 n,v,.float .f64 r] w fun e w'=>∃ t,FltOf l r t∧DEnd At w0 gd (err (writeP D n l t).1) (writeP D n l t).2 E w e w':=by
 have HP:=tput_any v l w hv (by omega) hok
 unfold TbEnd at HP
 rw[(tb_yes ht).1,(tb_yes ht).2] at HP
 have HP3:=Lib.hid HP
 have HN:=Lib.hid fun W=>nap.table n W wn
 have HNb:=Lib.hid fun W=>nap.bloom n W wn
 have HU:=Lib.hid fun W (hb:Below w.heap.size w W)=>ptup_run api (h.below api hb) ok
 rw[if_neg (by rw[hd];decide)] at HU
 obtain⟨n1,n2⟩:=nm_full (c:=116) (n:=n) hn
 have HFl:=Lib.hid fun W (hb:Below w.heap.size w W)=>filter_run v l r W (hv.below hb (Nat.le_refl _)) hl hok hr
 have HFr:=Lib.hid fun W (hb:Below w.heap.size w W)=>(h.below api hb).disk api (fun F hF=>api.free hF ok.ok)
 have ok1:=ok
 have hcap:=ok.cap
 have hus:=ok.used
 have hsz:=tbB_size l
 have HLT:=Lib.hid h.lt
 have HH:=Lib.hid h
 obtain⟨A,off,cap,rfl,-,-⟩:=hv.form
 have HW:Hid (∀ t,(writeP D n l t)=if (D.cap:Int)-(usedS D.l:Nat)-(t.size:Nat)-((tbB l).size:Nat)<6000 then(60,D)
   else if (layP D (ptB n) t).1≠0 then layP D (ptB n) t
   else if (layP (layP D (ptB n) t).2 (ptT n) (tbB l)).1≠0 then((layP (layP D (ptB n) t).2 (ptT n) (tbB l)).1,(deleteS (layP (layP D (ptB n) t).2 (ptT n) (tbB l)).2 (ptB n)).2)
   else layP (layP D (ptB n) t).2 (ptT n) (tbB l)):=Lib.hid fun t=>by
  unfold writeP
  rw[if_neg (by rw[not_or];exact⟨hn,by simp[ht]⟩),if_neg (by rw[hd];decide)]
 have HL1:=Lib.hid fun(t:ByteArray) (ht:t.size≤100000) W (E':List Nat) (hW:DS At w0 gd D E' W)=>ptlay_run api hW ok (ptB n) t (ptB_le n) (by omega)
 have HL2:=Lib.hid fun(t:ByteArray) W (E':List Nat) (hW:DS At w0 gd (layP D (ptB n) t).2 E' W)=>ptlay_run api hW (wp_lay ok _ _) (ptT n) (tbB l) (ptT_le n) (by omega)
 have HDl:=Lib.hid fun(t:ByteArray) W (E':List Nat) (hW:DS At w0 gd (layP (layP D (ptB n) t).2 (ptT n) (tbB l)).2 E' W)=>hW.disk api (fun F hF=>api.delete (ptB n) hF (wp_lay (wp_lay ok _ _) _ _).ok (ptB_le n))
 have HFsz:=Lib.hid fun(t:ByteArray) (hf:FltOf l r t)=>flt_size (show l.length≤10000 by omega) hf
 rw[show nmS 116 n=ptT n from rfl] at HN n1 n2
 rw[show nmS 98 n=ptB n from rfl] at HNb
 generalize ptT n=nt at *
 generalize ptB n=nb at *
 generalize hS:tbB l=S at *
 clear h ok hv hok hr ht hd HP wn hn ok1 hS
 have hl2:S.size≤24012:=by omega
 clear hsz
 have HM:Hid (l.length≤1000):=Lib.hid hl
 obtain⟨m,hm⟩:∃ m,l.length=m:=⟨_,rfl⟩
 have HMm:=Lib.hid hm
 rw[hm] at HP3 HFl ⊢
 clear hm hl
 go_enter Tryz.func92,Tryz.ntmps92
 go_wp2_with fail
 refine HP3.out.mono ?_
 rintro e w1 ⟨rfl,b1⟩
 go_wp2_with fail
 refine(HN.out _).mono ?_
 rintro e w2 ⟨rfl,b2⟩
 have B2:=Lib.hid (bj b1 b2)
 clear b1 b2 HP3
 go_wp2_with fail
 refine(HU.out _ B2.out).mono ?_
 rintro e w3 ⟨rfl,rfl⟩
 go_wp2_with fail
 refine(HFl.out _ B2.out).mono ?_
 rintro e w4 ⟨t,rfl,hft,b4⟩
 have B4:=Lib.hid (bj B2.out b4)
 have hts:=HFsz.out t hft
 have hts2:t.size≤5000:=by have:=HM.out;omega
 have HWt:=Lib.hid (HW.out t)
 have HFt:=Lib.hid hft
 clear b4 B2 HU HFl HFsz hft hts HW
 obtain⟨y,hy⟩:∃ y:Int,(D.cap:Int)-(usedS D.l:Nat)=y:=⟨_,rfl⟩
 have y1:y≤1048576:=by omega
 have y2:0≤y:=by omega
 have q1:IntKind.i64.wrap (y-(t.size:Int))=y-(t.size:Int):=IntWalk.i64_in _ ⟨by omega,by omega⟩
 have q2:IntKind.i64.wrap (y-(t.size:Int)-(S.size:Int))=y-(t.size:Int)-(S.size:Int):=IntWalk.i64_in _ ⟨by omega,by omega⟩
 rw[hy] at HFr HWt
 have HDk:=Lib.hid (HFr.out _ B4.out)
 have HK4:=Lib.hid (Kept.of_below B4.out HLT.out)
 clear HFr B4 hy hcap hus
 go_wp2_with fail
 refine HDk.out.mono ?_
 rintro e w5 ⟨rfl,d5,k5⟩
 have H5:=Lib.hid (And.intro d5 (HK4.out.trans k5))
 clear d5 k5 HDk HK4
 by_cases hroom:y-(t.size:Int)-(S.size:Int)<6000
 ·rw[if_pos hroom] at HWt
  go_wp2
  go_ret
  exact⟨t,HFt.out,by rw[HWt.out];exact⟨rfl,H5.out.1,H5.out.2⟩⟩
 ·rw[if_neg hroom] at HWt
  have HL:=Lib.hid fun W (E':List Nat) hW=>HL1.out t (by omega) W E' hW
  have HL2t:=Lib.hid fun W (E':List Nat) hW=>HL2.out t W E' hW
  have HDt:=Lib.hid fun W (E':List Nat) hW=>HDl.out t W E' hW
  clear HL1 HL2 HDl
  by_cases z1:(layP D nb t).1=0
  ·rw[if_neg (by rw[z1];decide)] at HWt
   rw[z1] at HL
   by_cases z2:(layP (layP D nb t).2 nt S).1=0
   ·rw[if_neg (by rw[z2];decide)] at HWt
    rw[z2] at HL2t
    generalize hX:layP (layP D nb t).2 nt S=X at *
    generalize (layP D nb t).2=D1 at *
    have HX:=Lib.hid z2
    clear z1 z2 hX
    go_wp2_with fail
    refine(HNb.out _).mono ?_
    rintro e w6 ⟨rfl,b6⟩
    have H6:=Lib.hid (And.intro (H5.out.1.below api b6) (H5.out.2.trans (Kept.of_below b6 H5.out.1.lt)))
    clear b6 H5
    go_wp2_with fail
    refine(HL.out _ _ H6.out.1).mono ?_
    rintro e w7 ⟨rfl,d7,k7⟩
    have H7:=Lib.hid (And.intro d7 (H6.out.2.trans k7))
    clear d7 k7 H6 HL
    go_wp2_with fail
    refine(HN.out _).mono ?_
    rintro e w8 ⟨rfl,b8⟩
    have H8:=Lib.hid (And.intro (H7.out.1.below api b8) (H7.out.2.trans (Kept.of_below b8 H7.out.1.lt)))
    clear b8 H7
    go_wp2_with fail
    refine(HL2t.out _ _ H8.out.1).mono ?_
    rintro e w9 ⟨rfl,d9,k9⟩
    have H9:=Lib.hid (And.intro d9 (H8.out.2.trans k9))
    clear d9 k9 H8 HL2t
    go_wp2
    go_ret
    exact⟨t,HFt.out,by rw[HWt.out,HX.out];exact⟨rfl,H9.out.1,H9.out.2⟩⟩
   ·rw[if_pos z2] at HWt
    have te:(((layP (layP D nb t).2 nt S).1:Int) != 0)=true:=by simp;omega
    generalize hX:layP (layP D nb t).2 nt S=X at *
    generalize (layP D nb t).2=D1 at *
    generalize X.1=x1 at *
    generalize X.2=D2 at *
    generalize (deleteS D2 nb).2=D3 at *
    generalize (deleteS D2 nb).1=x3 at *
    clear z1 z2 hX
    go_wp2_with fail
    refine(HNb.out _).mono ?_
    rintro e w6 ⟨rfl,b6⟩
    have H6:=Lib.hid (And.intro (H5.out.1.below api b6) (H5.out.2.trans (Kept.of_below b6 H5.out.1.lt)))
    clear b6 H5
    go_wp2_with fail
    refine(HL.out _ _ H6.out.1).mono ?_
    rintro e w7 ⟨rfl,d7,k7⟩
    have H7:=Lib.hid (And.intro d7 (H6.out.2.trans k7))
    clear d7 k7 H6 HL
    go_wp2_with fail
    refine(HN.out _).mono ?_
    rintro e w8 ⟨rfl,b8⟩
    have H8:=Lib.hid (And.intro (H7.out.1.below api b8) (H7.out.2.trans (Kept.of_below b8 H7.out.1.lt)))
    clear b8 H7
    go_wp2_with fail
    refine(HL2t.out _ _ H8.out.1).mono ?_
    rintro e w9 ⟨rfl,d9,k9⟩
    have H9:=Lib.hid (And.intro d9 (H8.out.2.trans k9))
    clear d9 k9 H8 HL2t
    go_wp2_with fail
    refine(HNb.out _).mono ?_
    rintro e w10 ⟨rfl,b10⟩
    have H10:=Lib.hid (And.intro (H9.out.1.below api b10) (H9.out.2.trans (Kept.of_below b10 H9.out.1.lt)))
    clear b10 H9
    go_wp2_with fail
    refine(HDt.out _ _ H10.out.1).mono ?_
    rintro e w11 ⟨rfl,d11,k11⟩
    have H11:=Lib.hid (And.intro d11 (H10.out.2.trans k11))
    clear d11 k11 H10 HDt
    go_wp2
    go_ret
    exact⟨t,HFt.out,by rw[HWt.out];exact⟨rfl,H11.out.1,H11.out.2⟩⟩
  ·rw[if_pos z1] at HWt
   have te:(((layP D nb t).1:Int) != 0)=true:=by simp;omega
   clear HL2t HDt
   generalize layP D nb t=X at *
   have HWt2:Hid (writeP D n l t=(X.1,X.2)):=Lib.hid HWt.out
   clear HWt
   generalize X.1=x1 at *
   generalize X.2=D2 at *
   clear z1
   go_wp2_with fail
   refine(HNb.out _).mono ?_
   rintro e w6 ⟨rfl,b6⟩
   have H6:=Lib.hid (And.intro (H5.out.1.below api b6) (H5.out.2.trans (Kept.of_below b6 H5.out.1.lt)))
   clear b6 H5
   go_wp2_with fail
   refine(HL.out _ _ H6.out.1).mono ?_
   rintro e w7 ⟨rfl,d7,k7⟩
   have H7:=Lib.hid (And.intro d7 (H6.out.2.trans k7))
   clear d7 k7 H6 HL
   go_wp2
   go_ret
   exact⟨t,HFt.out,by rw[HWt2.out];exact⟨rfl,H7.out.1,H7.out.2⟩⟩
end
end Go.Proofs.YtcpfkaehefcakaaGreat
namespace Go.Proofs.YtcpfkaehefcakaaGreat
open Go.RowKit
set_option linter.unusedVariables false
set_option maxRecDepth 100000
theorem gone_no {r:Nat}(h:goneP r=false) : ((r:Int) != 0)=true∧((r:Int) != 4)=true:=by
 unfold goneP at h
 rw[Bool.or_eq_false_iff,decide_eq_false_iff_not,decide_eq_false_iff_not] at h
 exact⟨by simp;omega,by simp;omega⟩
theorem gone_yes {r:Nat}(h:goneP r=true) : (((r:Int) != 0)=false∧r=0)∨(((r:Int) != 0)=true∧((r:Int) != 4)=false∧r=4):=by
 unfold goneP at h
 rw[Bool.or_eq_true,decide_eq_true_iff,decide_eq_true_iff] at h
 rcases h with h | h
 ·exact Or.inl ⟨by rw[h];rfl,h⟩
 ·exact Or.inr ⟨by rw[h];rfl,by rw[h];rfl,h⟩
section
variable {At : Lies} (api : DiskApi At) (nap : NamesApi) {w0 w : World} {gd : Nat} {D : DiskS} {E : List Nat}
include api nap
set_option maxHeartbeats 2000000 in
theorem pdrop_run (h:DS At w0 gd D E w)(ok:WfP D)(n:Int)(wn:(Lit.int .i64 n).wf=true) : Calls Tryz.prog 53 #[ptr gd,.int .i64 n] w (DEnd At w0 gd (err (dropP D n).1) (dropP D n).2 E w):=by
 have HN:=Lib.hid fun W=>nap.table n W wn
 have HNb:=Lib.hid fun W=>nap.bloom n W wn
 have hD1:=Lib.hid fun W (E':List Nat) (hW:DS At w0 gd D E' W)=>hW.disk api (fun F hF=>api.delete (ptT n) hF ok.ok (ptT_le n))
 have hD2:=Lib.hid fun W (E':List Nat) (hW:DS At w0 gd (deleteS D (ptT n)).2 E' W)=>hW.disk api (fun F hF=>api.delete (ptB n) hF (wp_delete ok _).ok (ptB_le n))
 have HH:=Lib.hid h
 rw[show nmS 116 n=ptT n from rfl] at HN
 rw[show nmS 98 n=ptB n from rfl] at HNb
 unfold dropP
 generalize ptT n=nt at *
 generalize ptB n=nb at *
 generalize hX:deleteS D nt=X at *
 generalize hY:deleteS X.2 nb=Y at *
 obtain⟨x1,D1⟩:=X
 obtain⟨y1,D2⟩:=Y
 simp only at hD1 hD2 hX hY ⊢
 generalize hR:(if goneP x1=false then(x1,D1) else if goneP y1=false then(y1,D2) else(0,D2))=R at *
 have HR:=Lib.hid hR
 clear h ok wn hX hY hR
 go_enter Tryz.func53,Tryz.ntmps53
 go_wp2_with fail
 refine(HN.out _).mono ?_
 rintro e w1 ⟨rfl,b1⟩
 go_wp2_with fail
 refine(HNb.out _).mono ?_
 rintro e w2 ⟨rfl,b2⟩
 have b12:=bj b1 b2
 have hA:=(Below.refl w2.heap.size w2).alloc (Nat.le_refl _) (.cells #[.string nt,.string nb] 9)
 have B:=b12.alloc b12.size (.cells #[.string nt,.string nb] 9)
 have T:=Blok.new w2 9 #[.string nt,.string nb]
 have d3:=(HH.out.below api b12).more api hA (B:=[w2.heap.size]) (fun b hb=>by rw[List.mem_singleton.1 hb];exact⟨Nat.le_refl _,T.lt⟩)
 obtain⟨w3,hw3⟩:∃ w3,w2.alloc (.cells #[.string nt,.string nb] 9)=w3:=⟨_,rfl⟩
 obtain⟨g,hg⟩:∃ g,w2.heap.size=g:=⟨_,rfl⟩
 rw[hw3] at B T d3
 rw[hg] at T d3
 have c0:=T.cell 0
 have H3:=Lib.hid (And.intro d3 (And.intro T (Kept.of_below B HH.out.lt)))
 clear b1 b2 B T b12 hA d3
 go_wp2_with fail
 refine wp_loop_rounds 3 ?_
 rw[rounds_succ]
 go_wp2_with fail
 refine(hD1.out _ _ H3.out.1).mono ?_
 rintro e w4 ⟨rfl,d4,k4⟩
 have T4:=k4.blok H3.out.2.1 (List.mem_append_left _ List.mem_cons_self)
 have c1:=T4.cell 1
 have H4:=Lib.hid (And.intro d4 (And.intro T4 (And.intro k4 (H3.out.2.2.trans (k4.less (fun b hb=>List.mem_append_right _ hb))))))
 clear c0 d4 k4 T4 hD1
 cases hx:goneP x1
 ·obtain⟨t1,t2⟩:=gone_no hx
  have ER:=Lib.hid (show R=(x1,D1) by rw[← HR.out,hx,if_pos rfl])
  clear hx
  go_wp2
  go_ret
  rw[ER.out]
  exact⟨rfl,H4.out.1.less (fun b hb=>List.mem_append_right _ hb),H4.out.2.2.2⟩
 ·have HX:=Lib.hid hx
  have t12:=gone_yes hx
  clear hx
  rcases t12 with⟨t1,rfl⟩ | ⟨t1,t2,rfl⟩
  all_goals
   go_wp2_with fail
   rw[rounds_succ]
   go_wp2_with fail
   refine(hD2.out _ _ H4.out.1).mono ?_
   rintro e w5 ⟨rfl,d5,k5⟩
   have H5:=Lib.hid (And.intro (d5.less (fun b hb=>List.mem_append_right _ hb)) (H4.out.2.2.2.trans (k5.less (fun b hb=>List.mem_append_right _ hb))))
   clear d5 k5 hD2 c1
   cases hy:goneP y1
   ·obtain⟨u1,u2⟩:=gone_no hy
    have ER:=Lib.hid (show R=(y1,D2) by rw[← HR.out,HX.out,if_neg (by decide),hy,if_pos rfl])
    clear hy
    go_wp2
    go_ret
    rw[ER.out]
    exact⟨rfl,H5.out.1,H5.out.2⟩
   ·have ER:=Lib.hid (show R=(0,D2) by rw[← HR.out,HX.out,if_neg (by decide),hy,if_neg (by decide)])
    have u12:=gone_yes hy
    clear hy
    rcases u12 with⟨u1,rfl⟩ | ⟨u1,u2,rfl⟩
    all_goals
     go_wp2_with fail
     rw[rounds_succ]
     go_wp2
     go_ret
     rw[ER.out]
     exact⟨rfl,H5.out.1,H5.out.2⟩
end
end Go.Proofs.YtcpfkaehefcakaaGreat
namespace Go.Proofs.YtcpfkaehefcakaaGreat
open Go.RowKit Go.Shelf
set_option linter.unusedVariables false
set_option maxRecDepth 100000
section
variable {At : Lies} {w0 w w' W : World} {gd gx r : Nat} {S : IxS} {D D' : DiskS} {E N Fm Gr Gk : List Nat}
theorem IxAt.back (hM:IxM w w0.heap.size gx gd r S Fm Gr Gk)(h1:DS At w0 gd D (Fm++(Gr++(Gk++E))) w)(h3:∀ b∈Fm,b ∉ Gr∧b ∉ Gk∧b ∉ E)(h4:∀ b∈Gr,b ∉ Gk∧b ∉ E)(h5:∀ b∈Gk,b ∉ E)(h6:∀ b∈Fm++Gr,w0.heap.size≤b)
  (hd:DS At w0 gd D' (N++(Fm++(Gr++(Gk++E)))) w') (hk:Kept (Fm++(Gr++(Gk++E))) w w') (hN:∀ b∈N,w.heap.size≤b):IxAt At w0 gd gx r S D' (N++E) w':=by
 have hlt:=h1.lt
 have hno:∀ b,b<w.heap.size→b ∉ E→b ∉ N++E:=fun b hb hn hm=>by
  rcases List.mem_append.1 hm with k | k
  ·have:=hN b k;omega
  ·exact hn k
 refine⟨Fm,Gr,Gk,hd.less (fun b hb=>?_),hM.keep (hk.less fun b hb=>?_),fun b hb=>⟨(h3 b hb).1,(h3 b hb).2.1,hno b (hlt b (List.mem_append_left _ hb)) (h3 b hb).2.2⟩,fun b hb=>⟨(h4 b hb).1,hno b (hlt b (List.mem_append_right _ (List.mem_append_left _ hb))) (h4 b hb).2⟩,fun b hb=>hno b (hlt b (List.mem_append_right _ (List.mem_append_right _ (List.mem_append_left _ hb)))) (h5 b hb),h6⟩
 ·rcases List.mem_append.1 hb with k | k
  ·exact List.mem_append_right _ (List.mem_append_left _ k)
  ·rcases List.mem_append.1 k with k | k
   ·exact List.mem_append_right _ (List.mem_append_right _ (List.mem_append_left _ k))
   ·rcases List.mem_append.1 k with k | k
    ·exact List.mem_append_right _ (List.mem_append_right _ (List.mem_append_right _ (List.mem_append_left _ k)))
    ·rcases List.mem_append.1 k with k | k
     ·exact List.mem_append_left _ k
     ·exact List.mem_append_right _ (List.mem_append_right _ (List.mem_append_right _ (List.mem_append_right _ k)))
 ·rcases List.mem_append.1 hb with k | k
  ·exact List.mem_append_left _ k
  ·rcases List.mem_append.1 k with k | k
   ·exact List.mem_append_right _ (List.mem_append_left _ k)
   ·exact List.mem_append_right _ (List.mem_append_right _ (List.mem_append_left _ k))
theorem Kept.lrow {G:List Nat}{w w':World}{base:Nat}{v:Value}{M:List LstS}(h:Kept G w w')(hr:LRow w base v M)(hv:∀ b∈ownL v,b∈G) : LRow w' base v M:=by
 refine⟨hr.1, ?_⟩
 rcases hr.2 with h0 | ⟨g,cap,cur,e,hg,hh,r⟩
 ·exact Or.inl h0
 ·exact Or.inr ⟨g,cap,cur,e,hg,(h.block g (hv g (ownL_mem.2 (by rw[e];rfl)))).trans hh,r⟩
structure LsAt (At:Lies)(w0:World)(gd:Nat)(w:World)(E N:List Nat)(D:DiskS)(Ls:List (List EntS))(v:Value)(wr:World) : Prop where
 ds:DS At w0 gd D (N++E) wr
 kept:Kept E w wr
 new:∀ b∈N,w.heap.size≤b
 base:w0.heap.size≤w.heap.size
 old:∀ b∈E,b<w.heap.size
 rows:∃ L,LRow wr w.heap.size v L∧els L=Ls∧(∀ b∈ownL v,b∈N)∧∀ x∈L,EntRow wr w.heap.size x.v x.l∧∀ b∈ownL x.v,b∈N
theorem LsAt.shape {Ls:List (List EntS)}{v:Value}(h:LsAt At w0 gd w E N D Ls v W) : ∃ A n c,n=Ls.length∧v = .slice A n c:=by
 obtain⟨L,h1,h2,-⟩:=h.rows
 obtain⟨A,c,rfl,-⟩:=own_form h1
 exact⟨A,_,c,by rw[← h2,els_length],rfl⟩
theorem LsAt.lists {Ls:List (List EntS)}{v:Value}(h:LsAt At w0 gd w E N D Ls v W) : ∃ L,ListsIn W v L∧els L=Ls:=by
 obtain⟨L,h1,h2,h3,h4⟩:=h.rows
 exact⟨L,LRow.in_ h1 (fun x hx=>EntRow.in_ (h4 x hx).1),h2⟩
theorem LsAt.nil (api:DiskApi At)(h:DS At w0 gd D E w) : LsAt At w0 gd w E [] D [] (.slice none 0 0) w :=
 ⟨h,Kept.refl _ _,fun b hb=>(by cases hb),h.kept.size,h.lt,[],LRow.nil _ _,rfl,fun b hb=>(by cases hb),fun x hx=>(by cases hx)⟩
theorem LsAt.one (api:DiskApi At){A:Option Addr}{n c:Nat}{l:List EntS}(h:DS At w0 gd D E w)(hb:Below w.heap.size w W)(hr:EntRow W w.heap.size (.slice A n c) l) :
  LsAt At w0 gd w E (W.heap.size::ownL (.slice A n c)) D [l] (.slice (some ⟨W.heap.size,0,none⟩) 1 1) (W.alloc (.cells #[.slice A n c] 40)):=by
 have hA:=(Below.refl W.heap.size W).alloc (Nat.le_refl _) (.cells #[.slice A n c] 40)
 have hb2:=hb.alloc (B:=w.heap.size) hb.size (.cells #[.slice A n c] 40)
 have hlt:W.heap.size<(W.alloc (.cells #[.slice A n c] 40)).heap.size:=by simp
 have ho:=row_own hr
 refine⟨h.more api hb2 (fun b hb=>?_),Kept.of_below hb2 h.lt,fun b hb=>?_,h.kept.size,h.lt,[⟨.slice A n c,l⟩],World.ownsRow_lit (base:=w.heap.size) (e:=40) (size:=1) W #[.slice A n c] 1 hb.size (by unfold maxLen;omega) rfl,rfl,fun b hb=>?_,fun x hx=>?_⟩
 ·rcases List.mem_cons.1 hb with e | k
  ·rw[e];exact⟨by have:=Below.size ‹Below w.heap.size w W›;omega,hlt⟩
  ·have:=ho b k;exact⟨this.1,by omega⟩
 ·rcases List.mem_cons.1 hb with e | k
  ·rw[e];exact Below.size ‹Below w.heap.size w W›
  ·exact(ho b k).1
 ·have e:b=W.heap.size:=by simpa[ownL,Value.ownBlock] using hb
  rw[e]
  exact List.mem_cons_self
 ·obtain rfl:=List.mem_singleton.1 hx
  exact⟨hr.below hA (Nat.le_refl _),fun b hb=>List.mem_cons_of_mem _ hb⟩
theorem LsAt.told {Ls:List (List EntS)}{v u:Value}{l:List EntS}(h:LsAt At w0 gd w E N D Ls v W)(hd:DS At w0 gd D' (ownL u++(N++E)) w')(hk:Kept (N++E) W w')(hr:EntRow w' W.heap.size u l) :
  LsAt At w0 gd w E (ownL u++N) D' Ls v w'∧EntRow w' w.heap.size u l:=by
 obtain⟨L,h1,h2,h3,h4⟩:=h.rows
 have hz:=h.kept.size
 have ho:=row_own hr
 refine⟨⟨hd.less (fun b hb=>?_),h.kept.trans (hk.less (fun b hb=>List.mem_append_right _ hb)),fun b hb=>?_,h.base,h.old,L,hk.lrow h1 (fun b hb=>List.mem_append_left _ (h3 b hb)),h2,fun b hb=>List.mem_append_right _ (h3 b hb),fun x hx=>⟨hk.row (h4 x hx).1 (fun b hb=>List.mem_append_left _ ((h4 x hx).2 b hb)),fun b hb=>List.mem_append_right _ ((h4 x hx).2 b hb)⟩⟩,hr.down hz⟩
 ·rw[List.append_assoc] at hb
  exact hb
 ·rcases List.mem_append.1 hb with k | k
  ·have:=(ho b k).1;omega
  ·exact h.new b k
theorem LsAt.add (api:DiskApi At){Ls:List (List EntS)}{A Au:Option Addr}{n c nu cu:Nat}{l:List EntS}(h:LsAt At w0 gd w E N D Ls (.slice A n c) W)(hr:EntRow W w.heap.size (.slice Au nu cu) l)(hu:∀ b∈ownL (.slice Au nu cu),b∈N)(hn:Ls.length≤500000)(ty:TypeId) :
  ∃ A' c' w' N',(Builtin.append_ #[101,101] ty #[.slice A n c,.slice (some ⟨W.heap.size,0,none⟩) 1 1]).run Tryz.prog (W.alloc (.cells #[.slice Au nu cu] 40)) = .ok (.slice A' (n+1) c') w'∧LsAt At w0 gd w E N' D (Ls++[l]) (.slice A' (n+1) c') w':=by
 obtain⟨L,h1,h2,h3,h4⟩:=h.rows
 have hA:=(Below.refl W.heap.size W).alloc (Nat.le_refl _) (.cells #[.slice Au nu cu] 40)
 have hLn:L.length=n:=by
  obtain⟨A2,c2,e,-⟩:=own_form h1
  exact(Value.slice.inj e).2.1.symm
 have r1:=LRow.alloc h1 (.cells #[.slice Au nu cu] 40)
 have hz:=h.kept.size
 have hws:w.heap.size≤(W.alloc (.cells #[.slice Au nu cu] 40)).heap.size:=by simp;omega
 obtain⟨A',c',w',e1,e2,e3,e4⟩:=lists_append (M:=[⟨.slice Au nu cu,l⟩]) r1 (lst_one W ⟨.slice Au nu cu,l⟩) (fun u hu=>by
  obtain rfl:u = .slice Au nu cu:=by simpa[vals] using hu
  rfl) (by rw[hLn,← hLn,← els_length,h2];simp;omega) hws ty
 rw[hLn] at e1 e2 e4
 have hT:Touch (ownL (.slice A n c)) W w':=((Touch.of_below hA).more (fun x hx=>by cases hx)).grown e3 (fun k hk=>Or.inl (ownL_mem.2 hk))
 have hown:∀ b∈ownL (.slice A' (n+1) c'),b∈ownL (.slice A n c)∨(W.heap.size≤b∧b<w'.heap.size):=fun b hb=>by
  have hb':=ownL_mem.1 hb
  rcases e4 with e | e
  ·exact Or.inl (ownL_mem.2 (by rw[← e];exact hb'))
  ·have hlt:=(e2.lt b hb').2
   refine Or.inr ⟨?_,hlt⟩
   have e':(Value.slice A' (n+1) c').ownBlock=some (W.alloc (.cells #[.slice Au nu cu] 40)).heap.size:=e
   rw[hb'] at e'
   obtain rfl:=Option.some.inj e'
   simp
 have hlE:∀ b∈E,b ∉ ownL (.slice A n c)∧b<W.heap.size:=fun b hb=>⟨fun hm=>(by have:=h.new b (h3 b hm);have:=h.old b hb;omega),h.ds.lt b (List.mem_append_right _ hb)⟩
 have hKE:Kept E W w':=Kept.of_touch hT (fun b hb=>⟨(hlE b hb).2,(hlE b hb).1⟩)
 refine⟨A',c',w',ownL (.slice A' (n+1) c')++N,e1,⟨h.ds.turn api hT (fun b hb=>?_) (fun b hb=>?_),h.kept.trans hKE,fun b hb=>?_,h.base,h.old,L++[⟨.slice Au nu cu,l⟩],by rw[← hLn] at e2 ⊢;exact e2,by rw[show els (L++[⟨.slice Au nu cu,l⟩])=els L++[l] from by unfold els;rw[List.map_append];rfl,h2],fun b hb=>List.mem_append_left _ hb,fun x hx=>?_⟩⟩
 ·exact⟨List.mem_append_left _ (h3 b hb),Nat.le_trans h.base (h.new b (h3 b hb))⟩
 ·rcases List.mem_append.1 hb with k | k
  ·rcases List.mem_append.1 k with k | k
   ·rcases hown b k with q | q
    ·exact Or.inl (List.mem_append_left _ (h3 b q))
    ·exact Or.inr q
   ·exact Or.inl (List.mem_append_left _ k)
  ·exact Or.inl (List.mem_append_right _ k)
 ·rcases List.mem_append.1 hb with k | k
  ·rcases hown b k with q | q
   ·exact h.new b (h3 b q)
   ·omega
  ·exact h.new b k
 ·rcases List.mem_append.1 hx with k | k
  ·exact⟨EntRow.grown_l ((h4 x k).1.below hA (Nat.le_refl _)) r1 e3,fun b hb=>List.mem_append_right _ ((h4 x k).2 b hb)⟩
  ·obtain rfl:=List.mem_singleton.1 k
   exact⟨EntRow.grown_l (hr.below hA (Nat.le_refl _)) r1 e3,fun b hb=>List.mem_append_right _ (hu b hb)⟩
end
end Go.Proofs.YtcpfkaehefcakaaGreat
namespace Go.Proofs.YtcpfkaehefcakaaGreat
open Go.RowKit Go.Shelf
set_option linter.unusedVariables false
set_option maxRecDepth 100000
def XRangeEnd (At:Lies)(w0:World)(gd gx r:Nat)(S:IxS)(D:DiskS)(R:List EntS)(m:Nat)(E:List Nat)(w:World)(e:Ending)(w':World) : Prop :=
 ∃ A c k,k≤m∧e = .returned (.tuple #[.slice A R.length c,.int .i64 0])∧EntRow w' w.heap.size (.slice A R.length c) R∧IxAt At w0 gd gx r S { D with count:=D.count+k } (ownL (.slice A R.length c)++E) w'∧Kept E w w'
def totX (S:IxS) : Nat:=S.mem.length+totL (S.T.map TbS.l)
theorem tot_filter (q:EntS→Bool) : ∀ (T:List TbS),totL (T.map fun t=>t.l.filter q)≤totL (T.map TbS.l)
 | []=>Nat.le_refl _
 | t::T=>by
   rw[List.map_cons,List.map_cons,totL_cons,totL_cons]
   have:=tot_filter q T
   have:=List.length_filter_le q t.l
   omega
theorem tot_one {T:List TbS}{t:TbS}(h:t∈T) : t.l.length≤totL (T.map TbS.l):=by
 induction T with
 | nil=>cases h
 | cons x T ih =>
   rw[List.map_cons,totL_cons]
   rcases List.mem_cons.1 h with rfl | h
   ·omega
   ·have:=ih h;omega
section
variable {At : Lies} (api : DiskApi At) (nap : NamesApi) {w0 w w' : World} {gd gx r : Nat} {S : IxS} {D : DiskS} {E : List Nat}
include api nap
set_option maxHeartbeats 600000 in
theorem xrange_run (h:IxAt At w0 gd gx r S D E w)(ok:IxOk D S)(wf:WfP D)(hc:D.count≤1000000000)(hd:D.down=false)(ht:totX S≤40000)(x:Nat)(hx:x<18446744073709551616)(a b:Int)(wa:(Lit.int .i64 a).wf=true)(wb:(Lit.int .i64 b).wf=true) :
  Calls Tryz.prog 16 #[ptr gx,.int .u64 (x:Nat),.int .i64 a,.int .i64 b] w (XRangeEnd At w0 gd gx r S D (rangeX S x a b) S.T.length E w):=by
 obtain⟨Fm,Gr,Gk,d1,hM,d3,d4,d5,d6⟩:=h
 obtain⟨gm,A,cp,B,c2,ps,hC⟩:=hM.cells
 obtain⟨c0,-,-,-,-,-,c6,-,c8⟩:=hC.cs
 have hno:=Lib.hid (xnone_run c0)
 have bb:=bounds_i64 wb
 have hmin:(if (1073741824:Int)<b then 1073741824 else b)=capV b:=by unfold capV;split<;>omega
 have HMR:=trange_run hC.mem.has (by unfold totX at ht;omega) x a (capV b)
 have HBK:=Lib.hid (fun(N:List Nat) (D':DiskS) (W:World) (hd:DS At w0 gd D' (N++(Fm++(Gr++(Gk++E)))) W) (hk:Kept (Fm++(Gr++(Gk++E))) w W) (hN:∀ b∈N,w.heap.size≤b)=>IxAt.back hM d1 d3 d4 d5 d6 hd hk hN)
 have hGk:∀ b∈Gk,b∈Fm++(Gr++(Gk++E)):=fun b hb=>List.mem_append_right _ (List.mem_append_right _ (List.mem_append_left _ hb))
 have hGr:∀ b∈Gr,b∈Fm++(Gr++(Gk++E)):=fun b hb=>List.mem_append_right _ (List.mem_append_left _ hb)
 have hEE:∀ b∈E,b∈Fm++(Gr++(Gk++E)):=fun b hb=>List.mem_append_right _ (List.mem_append_right _ (List.mem_append_right _ hb))
 have hps:ps.length=S.T.length:=hC.tabs.1
 obtain⟨E1,hE1⟩:∃ E1,Fm++(Gr++(Gk++E))=E1:=⟨_,rfl⟩
 rw[hE1] at d1 HBK hGk hGr hEE
 have HD1:=Lib.hid d1
 have HT:=Lib.hid (fun(i g:Nat) (t:TbS) (hg:ps[i]? = some g) (htt:S.T[i]? = some t) (k:Nat) (hk:k≤40) (W:World) (N:List Nat) (hW:DS At w0 gd { D with count:=D.count+k } (N++E1) W) (hkp:Kept E1 w W)=>(show Calls Tryz.prog 58 #[ptr g,.int .u64 (x:Nat),.int .i64 a,.int .i64 b] W fun e w'=>∃ j,j≤1∧LEnd At w0 gd (rangeE t.l x a (capV b)) 0 { D with count:=D.count+k+j } (N++E1) W e w' from by
  obtain⟨H,q1,q2⟩:=hC.tabs.2 i g t hg htt
  have hmem:=List.mem_of_getElem? htt
  have hlen:=tot_one hmem
  have hn:=(ok.num_le hmem).1
  refine(ptrange_run api nap hW (q1.keep hkp (fun b hb=>hGk b (q2 b hb))) (fun b hb=>List.mem_append_right _ (hGk b (q2 b hb))) ⟨wf.synced,wf.used,wf.cap,wf.many⟩ (by show D.count+k≤_;omega) (WalkArith.wf_i64 (by omega)) hd ((ok.has t hmem).count _) (ok.keep t hmem) (by unfold totX at ht;omega) x hx a b wa wb).mono ?_
  rintro e w' ⟨j,hj,-,hL⟩
  exact⟨j,hj,hL⟩))
 have HP:=Lib.hid (fun(W:World) (hk:Kept E1 w W) (i g:Nat) (hg:ps[i]? = some g)=>(show ∃ bp,B=some ⟨bp,0,none⟩∧W.cell? ⟨bp,i,none⟩=some (ptr g) from by
  obtain⟨B',cap',e,-,-,hcell⟩:=PRow.form (hk.prow hC.row (fun b hb=>hGr b (hC.rowOwn b hb)))
  obtain⟨rfl,-,-⟩:=Value.slice.inj e
  obtain⟨bp,e1,-,-,e2⟩:=hcell i g hg
  exact⟨bp,e1,e2⟩))
 have HC6:=Lib.hid (fun(W:World) (hk:Kept E1 w W)=>(show W.cell? ⟨gx,6,none⟩=some (.slice B ps.length c2) from(hk.blok hC.blok (hGr gx hC.own)).cell 6))
 have HPL:=Lib.hid hps
 have hTL:=ok.many_le
 have HR:Hid (rangeX S x a b=mergeE ((rangeE S.mem x a (capV b))::S.T.map fun t=>rangeE t.l x a (capV b))):=Lib.hid rfl
 have HTOT:=Lib.hid (show totL ((rangeE S.mem x a (capV b))::S.T.map fun t=>rangeE t.l x a (capV b))≤40000 from by
  rw[totL_cons]
  have:=tot_filter (inQ x a (capV b)) S.T
  have:=List.length_filter_le (inQ x a (capV b)) S.mem
  unfold totX at ht
  unfold rangeE
  omega)
 have HEE:=Lib.hid hEE
 obtain⟨m,hm⟩:∃ m,m=ps.length:=⟨_,rfl⟩
 have hm40:m≤40:=by omega
 have HM:=Lib.hid hm
 have hmT:S.T.length=m:=by omega
 have HMT:=Lib.hid hmT
 rw[← hm] at c6 HC6
 rw[hmT]
 generalize hF0:rangeE S.mem x a (capV b)=l0 at *
 unfold EntsOut at HMR
 have HMR2:=Lib.hid HMR
 have HREST:Hid (∀ k t,S.T[k]? = some t→(l0::(S.T.take k).map fun t=>rangeE t.l x a (capV b))++[rangeE t.l x a (capV b)]=l0::(S.T.take (k+1)).map fun t=>rangeE t.l x a (capV b)):=Lib.hid fun k t hk=>by
  rw[List.take_add_one,hk,List.map_append]
  rfl
 have HALL:Hid ((l0::(S.T.take m).map fun t=>rangeE t.l x a (capV b))=l0::S.T.map fun t=>rangeE t.l x a (capV b)):=Lib.hid (by rw[← hmT,List.take_length])
 have HLT:Hid (∀ k,k≤m→(l0::(S.T.take k).map fun t=>rangeE t.l x a (capV b)).length=k+1):=Lib.hid fun k hk=>by
  rw[List.length_cons,List.length_map,List.length_take]
  omega
 have HFL:Hid (∀ k,k<m→∃ g t,ps[k]? = some g∧S.T[k]? = some t):=Lib.hid fun k hk=>⟨_,_,List.getElem?_eq_getElem (by omega),List.getElem?_eq_getElem (by omega)⟩
 have HLIM:=Lib.hid (show(l0::S.T.map fun t=>rangeE t.l x a (capV b)).length≤500000 from by rw[List.length_cons,List.length_map];omega)
 clear hM hC d1 d3 d4 d5 d6 ok wf hc hd ht wa wb hGk hGr hEE hps hTL hm hmT hE1 HMR c0 hF0
 generalize rangeX S x a b=R at *
 go_enter Tryz.func16,Tryz.ntmps16
 go_wp2_with fail
 refine hno.out.mono ?_
 rintro e w' ⟨rfl,rfl⟩
 go_wp2_with fail
 refine HMR2.out.mono ?_
 rintro e w1 ⟨A1,c1,rfl,r1,b1⟩
 have H1:=Lib.hid (LsAt.one api HD1.out b1 r1)
 have c6':=HC6.out _ H1.out.kept
 clear c6 c8 b1 r1
 go_wp2
 go_loopg [10,32] m (fun g u i wr=>∃ (k:Nat) (N:List Nat) (j:Nat),k+g=m∧j≤k∧i = .int .i64 k∧LsAt At w0 gd w E1 N { D with count:=D.count+j } (l0::(S.T.take k).map fun t=>rangeE t.l x a (capV b)) u wr)
 case atStart=>exact⟨0,_,0,by omega,Nat.le_refl _,rfl,H1.out⟩
 case round =>
  obtain⟨k,N,j,hkg,hjk,rfl,hL⟩:=hrel
  obtain⟨Ak,nk,ck,hnk,rfl⟩:=hL.shape
  have hkm:k≤m:=by omega
  rw[HLT.out k hkm] at hnk
  subst hnk
  have HL:=Lib.hid hL
  clear hL
  cases gk with
  | zero =>
    obtain rfl:k=m:=by omega
    have s1:¬ (k:Int)<(k:Int):=by omega
    have HL2:=HL.out
    rw[HALL.out] at HL2
    obtain⟨L,q1,q2⟩:=HL2.lists
    have HMG:=merge_any _ L wr q1 (by rw[← els_length,q2];exact HLIM.out) (by rw[q2];have:=HTOT.out;omega)
    rw[q2,← HR.out] at HMG
    unfold EntsOut at HMG
    have HG:=Lib.hid HMG
    have HL3:=Lib.hid HL2
    clear HMG HL2 q1 q2 HL
    go_wp2_with fail
    refine HG.out.mono ?_
    rintro e w9 ⟨A9,c9,rfl,r9,b9⟩
    have HFIN:=Lib.hid (HBK.out (ownL (.slice A9 R.length c9)) { D with count:=D.count+j } w9 ((HL3.out.ds.less (fun b hb=>List.mem_append_right _ hb)).more api b9 (row_own r9)) (HL3.out.kept.trans (Kept.of_below b9 (fun b hb=>HL3.out.ds.lt b (List.mem_append_right _ hb)))) (fun b hb=>Nat.le_trans HL3.out.kept.size (row_own r9 b hb).1))
    have HR9:=Lib.hid (r9.down HL3.out.kept.size)
    have HK9:=Lib.hid ((HL3.out.kept.trans (Kept.of_below b9 (fun b hb=>HL3.out.ds.lt b (List.mem_append_right _ hb)))).less HEE.out)
    clear r9 b9
    go_wp2
    go_ret2
    exact⟨A9,c9,j,hjk,rfl,HR9.out,HFIN.out,HK9.out⟩
  | succ gi =>
    have hkm2:k<m:=by omega
    have s1:(k:Int)<(m:Int):=by omega
    obtain⟨g,t,hg,htt⟩:=HFL.out k hkm2
    obtain⟨bp,rfl,q1⟩:=HP.out wr HL.out.kept k g hg
    have HTT:=Lib.hid (HT.out k g t hg htt j (by omega) wr N HL.out.ds HL.out.kept)
    have HG:=Lib.hid htt
    clear hg htt
    go_wp2_with fail
    refine HTT.out.mono ?_
    rintro e w5 ⟨j2,hj2,A5,c5,rfl,r5,d5,k5⟩
    obtain⟨L5,r6⟩:=HL.out.told d5 k5 r5
    have hlim:(l0::(S.T.take k).map fun t=>rangeE t.l x a (capV b)).length≤500000:=by rw[HLT.out k hkm];omega
    obtain⟨A6,c6,w6,N6,e6,L6⟩:=L5.add api r6 (fun b hb=>List.mem_append_left _ hb) hlim 101
    rw[HREST.out k t HG.out,Nat.add_assoc] at L6
    have HE:=Lib.hid e6
    have H6:=Lib.hid L6
    clear L5 r6 hlim e6 L6 r5 d5 k5
    go_wp2_with (first | (at_builtin;refine wpList_append_two rfl _ _ rfl rfl rfl HE.out ?_) | fail)
    go_roundg gi
    case measure=>omega
    case rel=>exact⟨k+1,N6,j+j2,by omega,by omega,by go_num,H6.out⟩
end
end Go.Proofs.YtcpfkaehefcakaaGreat
namespace Go.Proofs.YtcpfkaehefcakaaGreat
open Go.RowKit Go.Shelf
set_option linter.unusedVariables false
set_option maxRecDepth 100000
theorem tot_some (q:TbS→Bool) : ∀ (T:List TbS),totL ((T.filter q).map TbS.l)≤totL (T.map TbS.l)
 | []=>Nat.le_refl _
 | t::T=>by
   have:=tot_some q T
   rw[List.map_cons,totL_cons,List.filter_cons]
   split
   ·rw[List.map_cons,totL_cons];omega
   ·omega
section
variable {At : Lies} (api : DiskApi At) (nap : NamesApi) {w0 w w' : World} {gd gx r : Nat} {S : IxS} {D : DiskS} {E : List Nat}
include api nap
set_option maxHeartbeats 1000000 in
theorem xall_run (h:IxAt At w0 gd gx r S D E w)(ok:IxOk D S)(wf:WfP D)(hc:D.count≤1000000000)(hd:D.down=false)(ht:totX S≤40000)(v:Value)(ns:List Int)(hv:IntsIn w v ns)(hvE:∀ b∈ownL v,b∈E)(hns:ns.length≤1000000) :
  Calls Tryz.prog 50 #[ptr gx,v] w (XRangeEnd At w0 gd gx r S D (allX S ns) S.T.length E w):=by
 obtain⟨Fm,Gr,Gk,d1,hM,d3,d4,d5,d6⟩:=h
 obtain⟨gm,A,cp,B,c2,ps,hC⟩:=hM.cells
 obtain⟨c0,-,-,-,-,-,c6,-,c8⟩:=hC.cs
 have HBK:=Lib.hid (fun(N:List Nat) (D':DiskS) (W:World) (hd:DS At w0 gd D' (N++(Fm++(Gr++(Gk++E)))) W) (hk:Kept (Fm++(Gr++(Gk++E))) w W) (hN:∀ b∈N,w.heap.size≤b)=>IxAt.back hM d1 d3 d4 d5 d6 hd hk hN)
 have hGk:∀ b∈Gk,b∈Fm++(Gr++(Gk++E)):=fun b hb=>List.mem_append_right _ (List.mem_append_right _ (List.mem_append_left _ hb))
 have hGr:∀ b∈Gr,b∈Fm++(Gr++(Gk++E)):=fun b hb=>List.mem_append_right _ (List.mem_append_left _ hb)
 have hEE:∀ b∈E,b∈Fm++(Gr++(Gk++E)):=fun b hb=>List.mem_append_right _ (List.mem_append_right _ (List.mem_append_right _ hb))
 have hps:ps.length=S.T.length:=hC.tabs.1
 obtain⟨E1,hE1⟩:∃ E1,Fm++(Gr++(Gk++E))=E1:=⟨_,rfl⟩
 rw[hE1] at d1 HBK hGk hGr hEE
 have HD1:=Lib.hid d1
 have HNU:=Lib.hid (fun(i g:Nat) (t:TbS) (hg:ps[i]? = some g) (htt:S.T[i]? = some t) (W:World) (hkp:Kept E1 w W)=>(show Calls Tryz.prog 104 #[ptr g] W fun e w'=>e = .returned (.int .i64 (t.n:Nat))∧W=w' from by
  obtain⟨H,q1,q2⟩:=hC.tabs.2 i g t hg htt
  exact ptnum_run (q1.keep hkp (fun b hb=>hGk b (q2 b hb)))))
 have HCO:=Lib.hid (fun(n:Int) (W:World) (hkp:Kept E1 w W)=>contains_any v ns n W (hkp.ints hv (fun b hb=>hEE b (hvE b hb))) hns)
 have HT:=Lib.hid (fun(i g:Nat) (t:TbS) (hg:ps[i]? = some g) (htt:S.T[i]? = some t) (k:Nat) (hk:k≤40) (W:World) (N:List Nat) (hW:DS At w0 gd { D with count:=D.count+k } (N++E1) W) (hkp:Kept E1 w W)=>(show Calls Tryz.prog 105 #[ptr g] W (LEnd At w0 gd t.l 0 { D with count:=D.count+k+1 } (N++E1) W) from by
  obtain⟨H,q1,q2⟩:=hC.tabs.2 i g t hg htt
  have hmem:=List.mem_of_getElem? htt
  have hlen:=tot_one hmem
  have hn:=(ok.num_le hmem).1
  exact ptall_run api nap hW (q1.keep hkp (fun b hb=>hGk b (q2 b hb))) (fun b hb=>List.mem_append_right _ (hGk b (q2 b hb))) ⟨wf.synced,wf.used,wf.cap,wf.many⟩ (by show D.count+k≤_;omega) (WalkArith.wf_i64 (by omega)) hd ((ok.has t hmem).count _) (by unfold totX at ht;omega)))
 have HP:=Lib.hid (fun(W:World) (hk:Kept E1 w W) (i g:Nat) (hg:ps[i]? = some g)=>(show ∃ bp,B=some ⟨bp,0,none⟩∧W.cell? ⟨bp,i,none⟩=some (ptr g) from by
  obtain⟨B',cap',e,-,-,hcell⟩:=PRow.form (hk.prow hC.row (fun b hb=>hGr b (hC.rowOwn b hb)))
  obtain⟨rfl,-,-⟩:=Value.slice.inj e
  obtain⟨bp,e1,-,-,e2⟩:=hcell i g hg
  exact⟨bp,e1,e2⟩))
 have hTL:=ok.many_le
 have HR:Hid (allX S ns=mergeE ((someT (S.T.take S.T.length) ns).map TbS.l)):=Lib.hid (by rw[List.take_length];rfl)
 have HTOT:=Lib.hid (show totL ((someT (S.T.take S.T.length) ns).map TbS.l)≤40000 from by
  rw[List.take_length]
  have:=tot_some (fun t=>decide ((t.n:Int)∈ns)) S.T
  unfold totX at ht
  unfold someT
  omega)
 have HEE:=Lib.hid hEE
 have HST:Hid (∀ k t,S.T[k]? = some t→(someT (S.T.take (k+1)) ns).map TbS.l=(someT (S.T.take k) ns).map TbS.l++(if decide ((t.n:Int)∈ns)=true then [t.l] else [])):=Lib.hid fun k t hk=>by
  unfold someT
  rw[List.take_add_one,hk,List.filter_append,List.map_append]
  congr 1
  show(List.filter _ [t]).map TbS.l=_
  by_cases q:(t.n:Int)∈ns
  ·simp[q]
  ·simp[q]
 have HLN:Hid (∀ k,k≤40→((someT (S.T.take k) ns).map TbS.l).length≤40):=Lib.hid fun k hk=>by
  rw[List.length_map]
  have h1:=List.length_filter_le (fun t=>decide ((t.n:Int)∈ns)) (S.T.take k)
  rw[List.length_take] at h1
  unfold someT
  omega
 obtain⟨m,hm⟩:∃ m,m=ps.length:=⟨_,rfl⟩
 have hm40:m≤40:=by omega
 have hmT:S.T.length=m:=by omega
 rw[← hm] at c6
 rw[hmT] at HR HTOT ⊢
 have HFL:Hid (∀ k,k<m→∃ g t,ps[k]? = some g∧S.T[k]? = some t):=Lib.hid fun k hk=>⟨_,_,List.getElem?_eq_getElem (by omega),List.getElem?_eq_getElem (by omega)⟩
 have H0:=Lib.hid (LsAt.nil api HD1.out)
 obtain⟨Av,ov,cv,rfl,-,-⟩:=hv.form
 obtain⟨nv,hnv⟩:∃ nv,nv=ns.length:=⟨_,rfl⟩
 rw[← hnv] at HCO ⊢
 clear hM hC d1 d3 d4 d5 d6 ok wf hc hd ht hGk hGr hEE hps hTL hm hmT hE1 c0 c8 hv hvE hns hnv
 generalize allX S ns=R at *
 go_enter Tryz.func50,Tryz.ntmps50
 go_wp2
 go_loopg [6,16] m (fun g u i wr=>∃ (k:Nat) (N:List Nat) (j:Nat),k+g=m∧j≤k∧i = .int .i64 k∧LsAt At w0 gd w E1 N { D with count:=D.count+j } ((someT (S.T.take k) ns).map TbS.l) u wr)
 case atStart=>exact⟨0,_,0,by omega,Nat.le_refl _,rfl,H0.out⟩
 case round =>
  obtain⟨k,N,j,hkg,hjk,rfl,hL⟩:=hrel
  obtain⟨Ak,nk,ck,hnk,rfl⟩:=hL.shape
  have hkm:k≤m:=by omega
  have hnk40:=HLN.out k (by omega)
  rw[← hnk] at hnk40
  have HNK:=Lib.hid hnk
  have HL:=Lib.hid hL
  clear hL hnk
  cases gk with
  | zero =>
    obtain rfl:k=m:=by omega
    have s1:¬ (k:Int)<(k:Int):=by omega
    obtain⟨L,q1,q2⟩:=HL.out.lists
    have HMG:=merge_any _ L wr q1 (by rw[← els_length,q2,← HNK.out];omega) (by rw[q2];have:=HTOT.out;omega)
    rw[q2,← HR.out] at HMG
    unfold EntsOut at HMG
    have HG:=Lib.hid HMG
    clear HMG q1 q2
    go_wp2_with fail
    refine HG.out.mono ?_
    rintro e w9 ⟨A9,c9,rfl,r9,b9⟩
    have HFIN:=Lib.hid (HBK.out (ownL (.slice A9 R.length c9)) { D with count:=D.count+j } w9 ((HL.out.ds.less (fun b hb=>List.mem_append_right _ hb)).more api b9 (row_own r9)) (HL.out.kept.trans (Kept.of_below b9 (fun b hb=>HL.out.ds.lt b (List.mem_append_right _ hb)))) (fun b hb=>Nat.le_trans HL.out.kept.size (row_own r9 b hb).1))
    have HR9:=Lib.hid (r9.down HL.out.kept.size)
    have HK9:=Lib.hid ((HL.out.kept.trans (Kept.of_below b9 (fun b hb=>HL.out.ds.lt b (List.mem_append_right _ hb)))).less HEE.out)
    clear r9 b9
    go_wp2
    go_ret2
    exact⟨A9,c9,j,hjk,rfl,HR9.out,HFIN.out,HK9.out⟩
  | succ gi =>
    have hkm2:k<m:=by omega
    have s1:(k:Int)<(m:Int):=by omega
    obtain⟨g,t,hg,htt⟩:=HFL.out k hkm2
    obtain⟨bp,rfl,q1⟩:=HP.out wr HL.out.kept k g hg
    have HTT:=Lib.hid (HT.out k g t hg htt j (by omega) wr N HL.out.ds HL.out.kept)
    have HNN:=Lib.hid (HNU.out k g t hg htt wr HL.out.kept)
    have HCC:=HCO.out (t.n:Nat) wr HL.out.kept
    have HSS:=HST.out k t htt
    clear hg htt
    cases hq:decide ((t.n:Int)∈ns) with
    | false =>
      rw[hq] at HCC HSS
      rw[if_neg (by decide),List.append_nil] at HSS
      have HL2:=Lib.hid (show LsAt At w0 gd w E1 N { D with count:=D.count+j } ((someT (S.T.take (k+1)) ns).map TbS.l) (.slice Ak nk ck) wr from by rw[HSS];exact HL.out)
      have HC2:=Lib.hid HCC
      clear hq HCC HSS
      go_wp2_with fail
      refine HNN.out.mono ?_
      rintro e w5 ⟨rfl,rfl⟩
      go_wp2_with fail
      refine HC2.out.mono ?_
      rintro e w5 ⟨rfl,rfl⟩
      go_wp2
      go_roundg gi
      case measure=>omega
      case rel=>exact⟨k+1,N,j,by omega,by omega,by go_num,HL2.out⟩
    | true =>
      rw[hq] at HCC HSS
      rw[if_pos rfl] at HSS
      have HS2:=Lib.hid HSS
      have HC2:=Lib.hid HCC
      clear hq HCC HSS
      go_wp2_with fail
      refine HNN.out.mono ?_
      rintro e w5 ⟨rfl,rfl⟩
      go_wp2_with fail
      refine HC2.out.mono ?_
      rintro e w5 ⟨rfl,rfl⟩
      go_wp2_with fail
      refine HTT.out.mono ?_
      rintro e w5 ⟨A5,c5,rfl,r5,d5,k5⟩
      obtain⟨L5,r6⟩:=HL.out.told d5 k5 r5
      obtain⟨A6,c6',w6,N6,e6,L6⟩:=L5.add api r6 (fun b hb=>List.mem_append_left _ hb) (by rw[← HNK.out];omega) 101
      rw[← HS2.out,Nat.add_assoc] at L6
      have HE:=Lib.hid e6
      have H6:=Lib.hid L6
      clear L5 r6 e6 L6 r5 d5 k5
      go_wp2_with (first | (at_builtin;refine wpList_append_two rfl _ _ rfl rfl rfl HE.out ?_) | fail)
      go_roundg gi
      case measure=>omega
      case rel=>exact⟨k+1,N6,j+1,by omega,by omega,by go_num,H6.out⟩
end
end Go.Proofs.YtcpfkaehefcakaaGreat
namespace Go.Proofs.YtcpfkaehefcakaaGreat
open Go.RowKit Go.Shelf
set_option linter.unusedVariables false
set_option maxRecDepth 100000
def XLastEnd (At:Lies)(w0:World)(gd gx r:Nat)(S:IxS)(D:DiskS)(x:Nat)(b:Int)(m:Nat)(E:List Nat)(w:World)(e:Ending)(w':World) : Prop :=
 ∃ (z:Int) (k:Nat),k≤m∧TopV (IxHas S) x b z∧e = .returned (.tuple #[.int .i64 z,.int .i64 0])∧IxAt At w0 gd gx r S { D with count:=D.count+k } E w'∧Kept E w w'
theorem ver_bound {l:List EntS}(hok:∀ x∈l,EntOk x)(h:Nat)(b:Int) : -9223372036854775808≤(lastE l h b).v∧(lastE l h b).v≤9223372036854775807:=by
 unfold lastE
 cases hq:lastO l h b with
 | none=>exact⟨by decide,by decide⟩
 | some y =>
   have hy:y∈l.filter (upQ h b):=List.mem_of_getLast? hq
   obtain⟨h1,h2,h3,h4,h5⟩:=hok y (List.mem_filter.1 hy).1
   exact⟨by show _≤y.v;omega,by show y.v≤_;omega⟩
section
variable {At : Lies} (api : DiskApi At) (nap : NamesApi) {w0 w w' : World} {gd gx r : Nat} {S : IxS} {D : DiskS} {E : List Nat}
include api nap
set_option maxHeartbeats 1000000 in
theorem xlast_run (h:IxAt At w0 gd gx r S D E w)(ok:IxOk D S)(wf:WfP D)(hc:D.count≤1000000000)(hd:D.down=false)(ht:totX S≤40000)(x:Nat)(hx:x<18446744073709551616)(b:Int)(wb:(Lit.int .i64 b).wf=true) :
  Calls Tryz.prog 18 #[ptr gx,.int .u64 (x:Nat),.int .i64 b] w (XLastEnd At w0 gd gx r S D x (capV b) S.T.length E w):=by
 obtain⟨Fm,Gr,Gk,d1,hM,d3,d4,d5,d6⟩:=h
 obtain⟨gm,A,cp,B,c2,ps,hC⟩:=hM.cells
 obtain⟨c0,-,-,-,-,-,c6,-,c8⟩:=hC.cs
 have hno:=Lib.hid (xnone_run c0)
 have bb:=bounds_i64 wb
 have hmin:(if (1073741824:Int)<b then 1073741824 else b)=capV b:=by unfold capV;split<;>omega
 have hmin2:min b 1073741824=capV b:=rfl
 have HML:=tlast_run hC.mem.has (by unfold totX at ht;omega) x (capV b)
 have HBK:=Lib.hid (fun(D':DiskS) (W:World) (hd:DS At w0 gd D' (Fm++(Gr++(Gk++E))) W) (hk:Kept (Fm++(Gr++(Gk++E))) w W)=>IxAt.back (N:=[]) hM d1 d3 d4 d5 d6 hd hk (fun b hb=>by cases hb))
 have hGk:∀ b∈Gk,b∈Fm++(Gr++(Gk++E)):=fun b hb=>List.mem_append_right _ (List.mem_append_right _ (List.mem_append_left _ hb))
 have hGr:∀ b∈Gr,b∈Fm++(Gr++(Gk++E)):=fun b hb=>List.mem_append_right _ (List.mem_append_left _ hb)
 have hEE:∀ b∈E,b∈Fm++(Gr++(Gk++E)):=fun b hb=>List.mem_append_right _ (List.mem_append_right _ (List.mem_append_right _ hb))
 have hps:ps.length=S.T.length:=hC.tabs.1
 have HB1:=Lib.hid (ver_bound ok.ok x (capV b))
 have HTM:=Lib.hid (top_last ok.rise ok.mayE x (capV b))
 have HTT:Hid (∀ (k:Nat) (t:TbS) (z:Int),S.T[k]? = some t→TopV (fun y=>y∈S.mem∨∃ t∈S.T.take k,y∈t.l) x (capV b) z→TopV (fun y=>y∈S.mem∨∃ t∈S.T.take (k+1),y∈t.l) x (capV b) (max z (if lastOk t.l x (capV b)=true then(lastE t.l x (capV b)).v else -1))):=Lib.hid fun k t z hk hz=>by
  have hm:=List.mem_of_getElem? hk
  refine(hz.both (top_last (ok.has t hm).props.1 (ok.has t hm).props.2.1 x (capV b))).congr fun y=>?_
  rw[List.take_add_one,hk]
  constructor
  ·rintro ((q | ⟨u,h1,h2⟩) | q)
   ·exact Or.inl q
   ·exact Or.inr ⟨u,List.mem_append_left _ h1,h2⟩
   ·exact Or.inr ⟨t,List.mem_append_right _ (by simp),q⟩
  ·rintro (q | ⟨u,h1,h2⟩)
   ·exact Or.inl (Or.inl q)
   ·rcases List.mem_append.1 h1 with h1 | h1
    ·exact Or.inl (Or.inr ⟨u,h1,h2⟩)
    ·obtain rfl:u=t:=by simpa using h1
     exact Or.inr h2
 have HTE:Hid (∀ z,TopV (fun y=>y∈S.mem∨∃ t∈S.T.take S.T.length,y∈t.l) x (capV b) z→TopV (IxHas S) x (capV b) z):=Lib.hid fun z hz=>hz.congr fun y=>by rw[List.take_length];rfl
 have HBT:=Lib.hid (fun(t:TbS) (hm:t∈S.T)=>ver_bound (ok.has t hm).props.2.2 x (capV b))
 obtain⟨E1,hE1⟩:∃ E1,Fm++(Gr++(Gk++E))=E1:=⟨_,rfl⟩
 rw[hE1] at d1 HBK hGk hGr hEE
 have HD1:=Lib.hid d1
 have HT:=Lib.hid (fun(i g:Nat) (t:TbS) (hg:ps[i]? = some g) (htt:S.T[i]? = some t) (k:Nat) (hk:k≤40) (W:World) (hW:DS At w0 gd { D with count:=D.count+k } E1 W) (hkp:Kept E1 w W)=>(show Calls Tryz.prog 61 #[ptr g,.int .u64 (x:Nat),.int .i64 b] W fun e w'=>∃ j,j≤1∧DEnd At w0 gd (.tuple #[entB (lastE t.l x (capV b)),.bool (lastOk t.l x (capV b)),.int .i64 0]) { D with count:=D.count+k+j } E1 W e w' from by
  obtain⟨H,q1,q2⟩:=hC.tabs.2 i g t hg htt
  have hmem:=List.mem_of_getElem? htt
  have hlen:=tot_one hmem
  have hn:=(ok.num_le hmem).1
  refine(ptlast_run api nap hW (q1.keep hkp (fun b hb=>hGk b (q2 b hb))) (fun b hb=>hGk b (q2 b hb)) ⟨wf.synced,wf.used,wf.cap,wf.many⟩ (by show D.count+k≤_;omega) (WalkArith.wf_i64 (by omega)) hd ((ok.has t hmem).count _) (ok.keep t hmem) (by unfold totX at ht;omega) x hx b wb).mono ?_
  rintro e w' ⟨j,hj,-,hL⟩
  exact⟨j,hj,hL⟩))
 have HP:=Lib.hid (fun(W:World) (hk:Kept E1 w W) (i g:Nat) (hg:ps[i]? = some g)=>(show ∃ bp,B=some ⟨bp,0,none⟩∧W.cell? ⟨bp,i,none⟩=some (ptr g) from by
  obtain⟨B',cap',e,-,-,hcell⟩:=PRow.form (hk.prow hC.row (fun b hb=>hGr b (hC.rowOwn b hb)))
  obtain⟨rfl,-,-⟩:=Value.slice.inj e
  obtain⟨bp,e1,-,-,e2⟩:=hcell i g hg
  exact⟨bp,e1,e2⟩))
 have HC6:=Lib.hid (fun(W:World) (hk:Kept E1 w W)=>(show W.cell? ⟨gx,6,none⟩=some (.slice B ps.length c2) from(hk.blok hC.blok (hGr gx hC.own)).cell 6))
 have hTL:=ok.many_le
 have HEE:=Lib.hid hEE
 obtain⟨m,hm⟩:∃ m,m=ps.length:=⟨_,rfl⟩
 have hm40:m≤40:=by omega
 have hmT:S.T.length=m:=by omega
 rw[← hm] at c6 HC6
 rw[hmT] at HTE ⊢
 have HTL:Hid (S.T.length=m):=Lib.hid hmT
 have HFL:Hid (∀ k,k<m→∃ g t,ps[k]? = some g∧S.T[k]? = some t):=Lib.hid fun k hk=>⟨_,_,List.getElem?_eq_getElem (by omega),List.getElem?_eq_getElem (by omega)⟩
 have HM0:Hid (∀ z,TopV (· ∈ S.mem) x (capV b) z→TopV (fun y=>y∈S.mem∨∃ t∈S.T.take 0,y∈t.l) x (capV b) z):=Lib.hid fun z hz=>hz.congr fun y=>by simp
 unfold LastEnd at HML
 generalize lastE S.mem x (capV b)=le at *
 generalize lastOk S.mem x (capV b)=lo at *
 obtain⟨lh,lv,lp⟩:=le
 have HMR2:=Lib.hid HML
 clear hM hC d1 d3 d4 d5 d6 ok wf hc hd ht wb hGk hGr hEE hps hTL hm hmT hE1 HML c0
 generalize hcv:capV b=cb at *
 go_enter Tryz.func18,Tryz.ntmps18
 go_wp2_with fail
 refine hno.out.mono ?_
 rintro e w' ⟨rfl,rfl⟩
 go_wp2_with fail
 refine HMR2.out.mono ?_
 rintro e w1 ⟨rfl,b1⟩
 have K1:=Kept.of_below b1 HD1.out.lt
 have D1:=HD1.out.below api b1
 have hA:=(Below.refl w1.heap.size w1).alloc (Nat.le_refl _) (.cells #[.int .u64 (lh:Nat),.int .i64 lv,.int .i64 lp] 44)
 have K2:=K1.trans (Kept.of_below hA D1.lt)
 have D2:=D1.below api hA
 have EA:=Blok.new w1 44 #[.int .u64 (lh:Nat),.int .i64 lv,.int .i64 lp]
 obtain⟨w2,hw2⟩:∃ w2,w1.alloc (.cells #[.int .u64 (lh:Nat),.int .i64 lv,.int .i64 lp] 44)=w2:=⟨_,rfl⟩
 rw[hw2] at K2 D2 EA
 have HD2:=Lib.hid D2
 have HK2:=Lib.hid K2
 have q6:=HC6.out _ K2
 have ev:=EA.cell 1
 clear b1 K1 D1 hA K2 D2 EA c6 c8
 have hlv:=HB1.out
 have HZ0:Hid (∃ z0:Int,z0=(if lo=true then lv else -1)∧-9223372036854775808≤z0∧z0≤9223372036854775807∧TopV (fun y=>y∈S.mem∨∃ t∈S.T.take 0,y∈t.l) x cb z0):=Lib.hid ⟨_,rfl,by split<;>omega,by split<;>omega,HM0.out _ HTM.out⟩
 clear hlv
 cases lo
 all_goals
  obtain⟨z0,hz0,hz1,hz2,hz3⟩:=HZ0.out
  simp only[if_true,Bool.false_eq_true,if_false] at hz0
  subst hz0
  have HZ3:=Lib.hid hz3
  have HZB:=Lib.hid (And.intro hz1 hz2)
  clear hz1 hz2 hz3 HZ0
  go_wp2
  go_loopg [8,37] m (fun g u i wr=>∃ (k j:Nat) (z:Int),k+g=m∧j≤k∧i = .int .i64 k∧u = .int .i64 z∧-9223372036854775808≤z∧z≤9223372036854775807∧TopV (fun y=>y∈S.mem∨∃ t∈S.T.take k,y∈t.l) x cb z∧DS At w0 gd { D with count:=D.count+j } E1 wr∧Kept E1 w wr)
  case atStart=>exact⟨0,0,_,by omega,Nat.le_refl _,rfl,rfl,HZB.out.1,HZB.out.2,HZ3.out,HD2.out,HK2.out⟩
  case round =>
   obtain⟨k,j,z,hkg,hjk,rfl,rfl,hz1,hz2,hz3,hdr,hkr⟩:=hrel
   have hkm:k≤m:=by omega
   have HDR:=Lib.hid hdr
   have HKR:=Lib.hid hkr
   have HZ:=Lib.hid hz3
   clear hdr hkr hz3
   cases gk with
   | zero =>
     obtain rfl:k=m:=by omega
     have s1:¬ (k:Int)<(k:Int):=by omega
     have HFIN:=Lib.hid (HBK.out { D with count:=D.count+j } wr HDR.out HKR.out)
     have HTZ:=Lib.hid (HTE.out z HZ.out)
     have HKE:=Lib.hid (HKR.out.less HEE.out)
     go_wp2
     go_ret2
     exact⟨z,j,hjk,HTZ.out,rfl,HFIN.out,HKE.out⟩
   | succ gi =>
     have hkm2:k<m:=by omega
     have s1:(k:Int)<(m:Int):=by omega
     obtain⟨g,t,hg,htt⟩:=HFL.out k hkm2
     obtain⟨bp,rfl,q1⟩:=HP.out wr HKR.out k g hg
     have HTE1:=HT.out k g t hg htt j (by omega) wr HDR.out HKR.out
     have HNX:=HTT.out k t z htt HZ.out
     have HBB:=HBT.out t (List.mem_of_getElem? htt)
     clear hg htt
     generalize lastE t.l x cb=te at *
     generalize lastOk t.l x cb=tq at *
     obtain⟨th,tv,tp⟩:=te
     simp only at HBB
     have HTE2:=Lib.hid HTE1
     clear HTE1
     go_wp2_with fail
     refine HTE2.out.mono ?_
     rintro e w5 ⟨j2,hj2,rfl,d5,k5⟩
     have k6:=HKR.out.trans k5
     have hB:=(Below.refl w5.heap.size w5).alloc (Nat.le_refl _) (.cells #[.int .u64 (th:Nat),.int .i64 tv,.int .i64 tp] 44)
     have k7:=k6.trans (Kept.of_below hB d5.lt)
     have d7:=d5.below api hB
     have EB:=Blok.new w5 44 #[.int .u64 (th:Nat),.int .i64 tv,.int .i64 tp]
     obtain⟨w6,hw6⟩:∃ w6,w5.alloc (.cells #[.int .u64 (th:Nat),.int .i64 tv,.int .i64 tp] 44)=w6:=⟨_,rfl⟩
     rw[hw6] at k7 d7 EB
     rw[Nat.add_assoc] at d7
     have et:=EB.cell 1
     have HD7:=Lib.hid d7
     have HK7:=Lib.hid k7
     clear d5 k5 k6 hB k7 d7 EB
     have hmx:∀ ts ty w,(Builtin.max_ ts ty #[.int .i64 z,.int .i64 tv]).run Tryz.prog w = .ok (.int .i64 (max z tv)) w:=fun ts ty w=>by rw[run_max_int2,show(if z<tv then(tv:Int) else z)=max z tv by split<;>omega]
     cases tq
     ·have hmz:max z (-1)=z:=Int.max_eq_left HZ.out.2.2
      simp only[Bool.false_eq_true,if_false] at HNX
      rw[hmz] at HNX
      have HNX2:=Lib.hid HNX
      clear HNX hmz hmx
      go_wp2
      go_roundg gi
      case measure=>omega
      case rel=>exact⟨k+1,j+j2,z,by omega,by omega,by go_num,rfl,hz1,hz2,HNX2.out,HD7.out,HK7.out⟩
     ·simp only[if_true] at HNX
      have HNX2:=Lib.hid HNX
      have hz3:-9223372036854775808≤max z tv:=by omega
      have hz4:max z tv≤9223372036854775807:=by omega
      have HZ34:=Lib.hid (And.intro hz3 hz4)
      clear HNX hz3 hz4
      go_wp2
      go_roundg gi
      case measure=>omega
      case rel=>exact⟨k+1,j+j2,max z tv,by omega,by omega,by go_num,rfl,HZ34.out.1,HZ34.out.2,HNX2.out,HD7.out,HK7.out⟩
end
end Go.Proofs.YtcpfkaehefcakaaGreat
