/- ZnPtWrite, ZnPtDrop -/
import Derived.Test.YtokbfellcadkpaaGreatPn41
import Derived.Test.YtokbfellcadkpaaGreatPn45
import Derived.Test.YtokbfellcadkpaaGreatPn39
namespace Go.Proofs.YtokbfellcadkpaaGreat
open Go.RowKit
set_option linter.unusedVariables false
set_option maxRecDepth 100000
theorem nm_full {c:UInt8}{n:Int}(h:nmS c n≠ByteArray.empty) : ¬ (nmS c n).toList=[]∧((nmS c n).toList==[])=false:=by
 have h1:¬ (nmS c n).toList=[]:=fun e=>h (by
  rw[Lib.toList_data] at e;exact ByteArray.ext (Array.toList_inj.1 e))
 exact⟨h1,by rw[beq_eq_false_iff_ne];exact h1⟩
section
variable {At : Lies} (api : DiskApi At) (nap : NamesApi) {w0 w : World} {gd : Nat} {D : DiskS} {E : List Nat}
theorem wp_write {D:DiskS}(ok:WfP D)(n:Int)(l:List EntS)(t:ByteArray) : WfP (writeP D n l t).2:=by
 unfold writeP;have o1:=wp_lay ok (ptB n) t;have o2:=wp_lay o1 (ptT n) (tbB l);split
 ·exact ok
 ·split
  ·exact ok
  ·split
   ·exact ok
   ·split
    ·exact o1
    ·split
     ·exact wp_delete o2 _
     ·exact o2
theorem pwrite_bad (nap:NamesApi)(d:Value)(n:Int)(wn:(Lit.int .i64 n).wf=true)(v:Value)(l:List EntS)(hv:EntsIn w v l)(hl:l.length≤1000)(hok:∀ x∈l,EntOk x)(r:Nat)(hb:ptT n=ByteArray.empty∨tbOk l=false) :
  Calls Tryz.prog 94 #[d,.int .i64 n,v,.float .f64 r] w fun e w'=>e = .returned (err 2)∧Below w.heap.size w w':=by
 have HP:=Lib.hid (tput_any v l w hv (by omega) hok);have HN:=Lib.hid fun W=>nap.table n W wn
 by_cases hn:ptT n=ByteArray.empty
 ·have hn2:nmS 116 n=ByteArray.empty:=hn;rw[hn2] at HN;obtain⟨A,off,cap,rfl,-,-⟩:=hv.form;have HP2:=HP.out;unfold TbEnd at HP2;generalize tbS l=s at *;generalize tbE l=y at *;have HP3:=Lib.hid HP2;clear hv hl hok hb hn hn2 HP HP2 wn;generalize l.length=m at *;go_enter Tryz.func94,Tryz.ntmps94;go_wp2_with fail;refine HP3.out.mono ?_;rintro e w1 ⟨rfl,b1⟩;go_wp2_with fail;refine(HN.out _).mono ?_;rintro e w2 ⟨rfl,b2⟩;go_wp2;go_ret;exact⟨rfl,bj b1 b2⟩
 ·have ht:tbOk l=false:=by rcases hb with hb | hb;exact absurd hb hn;exact hb
  obtain⟨n1,n2⟩:=nm_full (c:=116) (n:=n) hn;have HP2:=HP.out;unfold TbEnd at HP2;rw[(tb_no ht).1,(tb_no ht).2] at HP2;obtain⟨A,off,cap,rfl,-,-⟩:=hv.form;have HP3:=Lib.hid HP2;generalize nmS 116 n=nm at *;clear hv hl hok hb hn HP HP2 wn ht;generalize l.length=m at *;go_enter Tryz.func94,Tryz.ntmps94;go_wp2_with fail;refine HP3.out.mono ?_;rintro e w1 ⟨rfl,b1⟩;go_wp2_with fail;refine(HN.out _).mono ?_;rintro e w2 ⟨rfl,b2⟩;go_wp2;go_ret;exact⟨rfl,bj b1 b2⟩
include api nap
set_option maxHeartbeats 4000000 in
theorem pwrite_run (h:DS At w0 gd D E w)(ok:WfP D)(n:Int)(wn:(Lit.int .i64 n).wf=true)(v:Value)(l:List EntS)(hv:EntsIn w v l)(hl:l.length≤1000)(hok:∀ x∈l,EntOk x)(r:Nat)(hr:r<18446744073709551616)(hn:ptT n≠ByteArray.empty)(ht:tbOk l=true)(hd:D.down=false) :
  Calls Tryz.prog 94 #[ptr gd,.int .i64 n,v,.float .f64 r] w fun e w'=>∃ t,FltOf l r t∧DEnd At w0 gd (err (writeP D n l t).1) (writeP D n l t).2 E w e w':=by
 have HP:=tput_any v l w hv (by omega) hok;unfold TbEnd at HP;rw[(tb_yes ht).1,(tb_yes ht).2] at HP;have HP3:=Lib.hid HP;have HN:=Lib.hid fun W=>nap.table n W wn
 have HNb:=Lib.hid fun W=>nap.bloom n W wn
 have HU:=Lib.hid fun W (hb:Below w.heap.size w W)=>ptup_run api (h.below api hb) ok
 rw[if_neg (by rw[hd];decide)] at HU;obtain⟨n1,n2⟩:=nm_full (c:=116) (n:=n) hn;have HFl:=Lib.hid fun W (hb:Below w.heap.size w W)=>filter_run v l r W (hv.below hb (Nat.le_refl _)) hl hok hr
 have HFr:=Lib.hid fun W (hb:Below w.heap.size w W)=>(h.below api hb).disk api (fun F hF=>api.free hF ok.ok)
 have ok1:=ok;have hcap:=ok.cap;have hus:=ok.used;have hsz:=tbB_size l;have HLT:=Lib.hid h.lt;have HH:=Lib.hid h;obtain⟨A,off,cap,rfl,-,-⟩:=hv.form
 have HW:Hid (∀ t,(writeP D n l t)=if (D.cap:Int)-(usedS D.l:Nat)-(t.size:Nat)-((tbB l).size:Nat)<6000 then(60,D)
   else if (layP D (ptB n) t).1≠0 then layP D (ptB n) t
   else if (layP (layP D (ptB n) t).2 (ptT n) (tbB l)).1≠0 then((layP (layP D (ptB n) t).2 (ptT n) (tbB l)).1,(deleteS (layP (layP D (ptB n) t).2 (ptT n) (tbB l)).2 (ptB n)).2)
   else layP (layP D (ptB n) t).2 (ptT n) (tbB l)):=Lib.hid fun t=>by
  unfold writeP;rw[if_neg (by rw[not_or];exact⟨hn,by simp[ht]⟩),if_neg (by rw[hd];decide)]
 have HL1:=Lib.hid fun(t:ByteArray) (ht:t.size≤100000) W (E':List Nat) (hW:DS At w0 gd D E' W)=>ptlay_run api hW ok (ptB n) t (ptB_le n) (by omega)
 have HL2:=Lib.hid fun(t:ByteArray) W (E':List Nat) (hW:DS At w0 gd (layP D (ptB n) t).2 E' W)=>ptlay_run api hW (wp_lay ok _ _) (ptT n) (tbB l) (ptT_le n) (by omega)
 have HDl:=Lib.hid fun(t:ByteArray) W (E':List Nat) (hW:DS At w0 gd (layP (layP D (ptB n) t).2 (ptT n) (tbB l)).2 E' W)=>hW.disk api (fun F hF=>api.delete (ptB n) hF (wp_lay (wp_lay ok _ _) _ _).ok (ptB_le n))
 have HFsz:=Lib.hid fun(t:ByteArray) (hf:FltOf l r t)=>flt_size (show l.length≤10000 by omega) hf
 rw[show nmS 116 n=ptT n from rfl] at HN n1 n2;rw[show nmS 98 n=ptB n from rfl] at HNb;generalize ptT n=nt at *;generalize ptB n=nb at *;generalize hS:tbB l=S at *;clear h ok hv hok hr ht hd HP wn hn ok1 hS;have hl2:S.size≤24012:=by omega
 clear hsz;have HM:Hid (l.length≤1000):=Lib.hid hl;obtain⟨m,hm⟩:∃ m,l.length=m:=⟨_,rfl⟩
 have HMm:=Lib.hid hm;rw[hm] at HP3 HFl ⊢;clear hm hl;go_enter Tryz.func94,Tryz.ntmps94;go_wp2_with fail;refine HP3.out.mono ?_;rintro e w1 ⟨rfl,b1⟩;go_wp2_with fail;refine(HN.out _).mono ?_;rintro e w2 ⟨rfl,b2⟩;have B2:=Lib.hid (bj b1 b2);clear b1 b2 HP3;go_wp2_with fail;refine(HU.out _ B2.out).mono ?_;rintro e w3 ⟨rfl,rfl⟩;go_wp2_with fail;refine(HFl.out _ B2.out).mono ?_;rintro e w4 ⟨t,rfl,hft,b4⟩;have B4:=Lib.hid (bj B2.out b4);have hts:=HFsz.out t hft;have hts2:t.size≤5000:=by have:=HM.out;omega
 have HWt:=Lib.hid (HW.out t);have HFt:=Lib.hid hft;clear b4 B2 HU HFl HFsz hft hts HW;obtain⟨y,hy⟩:∃ y:Int,(D.cap:Int)-(usedS D.l:Nat)=y:=⟨_,rfl⟩
 have y1:y≤1048576:=by omega
 have y2:0≤y:=by omega
 have q1:IntKind.i64.wrap (y-(t.size:Int))=y-(t.size:Int):=IntWalk.i64_in _ ⟨by omega,by omega⟩;have q2:IntKind.i64.wrap (y-(t.size:Int)-(S.size:Int))=y-(t.size:Int)-(S.size:Int):=IntWalk.i64_in _ ⟨by omega,by omega⟩;rw[hy] at HFr HWt;have HDk:=Lib.hid (HFr.out _ B4.out);have HK4:=Lib.hid (Kept.of_below B4.out HLT.out);clear HFr B4 hy hcap hus;go_wp2_with fail;refine HDk.out.mono ?_;rintro e w5 ⟨rfl,d5,k5⟩;have H5:=Lib.hid (And.intro d5 (HK4.out.trans k5));clear d5 k5 HDk HK4;by_cases hroom:y-(t.size:Int)-(S.size:Int)<6000
 ·rw[if_pos hroom] at HWt;go_wp2;go_ret;exact⟨t,HFt.out,by rw[HWt.out];exact⟨rfl,H5.out.1,H5.out.2⟩⟩
 ·rw[if_neg hroom] at HWt;have HL:=Lib.hid fun W (E':List Nat) hW=>HL1.out t (by omega) W E' hW
  have HL2t:=Lib.hid fun W (E':List Nat) hW=>HL2.out t W E' hW
  have HDt:=Lib.hid fun W (E':List Nat) hW=>HDl.out t W E' hW
  clear HL1 HL2 HDl;by_cases z1:(layP D nb t).1=0
  ·rw[if_neg (by rw[z1];decide)] at HWt;rw[z1] at HL;by_cases z2:(layP (layP D nb t).2 nt S).1=0
   ·rw[if_neg (by rw[z2];decide)] at HWt;rw[z2] at HL2t;generalize hX:layP (layP D nb t).2 nt S=X at *;generalize (layP D nb t).2=D1 at *;have HX:=Lib.hid z2;clear z1 z2 hX;go_wp2_with fail;refine(HNb.out _).mono ?_;rintro e w6 ⟨rfl,b6⟩;have H6:=Lib.hid (And.intro (H5.out.1.below api b6) (H5.out.2.trans (Kept.of_below b6 H5.out.1.lt)));clear b6 H5;go_wp2_with fail;refine(HL.out _ _ H6.out.1).mono ?_;rintro e w7 ⟨rfl,d7,k7⟩;have H7:=Lib.hid (And.intro d7 (H6.out.2.trans k7));clear d7 k7 H6 HL;go_wp2_with fail;refine(HN.out _).mono ?_;rintro e w8 ⟨rfl,b8⟩;have H8:=Lib.hid (And.intro (H7.out.1.below api b8) (H7.out.2.trans (Kept.of_below b8 H7.out.1.lt)));clear b8 H7;go_wp2_with fail;refine(HL2t.out _ _ H8.out.1).mono ?_;rintro e w9 ⟨rfl,d9,k9⟩;have H9:=Lib.hid (And.intro d9 (H8.out.2.trans k9));clear d9 k9 H8 HL2t;go_wp2;go_ret;exact⟨t,HFt.out,by rw[HWt.out,HX.out];exact⟨rfl,H9.out.1,H9.out.2⟩⟩
   ·rw[if_pos z2] at HWt;have te:(((layP (layP D nb t).2 nt S).1:Int) != 0)=true:=by simp;omega
    generalize hX:layP (layP D nb t).2 nt S=X at *;generalize (layP D nb t).2=D1 at *;generalize X.1=x1 at *;generalize X.2=D2 at *;generalize (deleteS D2 nb).2=D3 at *;generalize (deleteS D2 nb).1=x3 at *;clear z1 z2 hX;go_wp2_with fail;refine(HNb.out _).mono ?_;rintro e w6 ⟨rfl,b6⟩;have H6:=Lib.hid (And.intro (H5.out.1.below api b6) (H5.out.2.trans (Kept.of_below b6 H5.out.1.lt)));clear b6 H5;go_wp2_with fail;refine(HL.out _ _ H6.out.1).mono ?_;rintro e w7 ⟨rfl,d7,k7⟩;have H7:=Lib.hid (And.intro d7 (H6.out.2.trans k7));clear d7 k7 H6 HL;go_wp2_with fail;refine(HN.out _).mono ?_;rintro e w8 ⟨rfl,b8⟩;have H8:=Lib.hid (And.intro (H7.out.1.below api b8) (H7.out.2.trans (Kept.of_below b8 H7.out.1.lt)));clear b8 H7;go_wp2_with fail;refine(HL2t.out _ _ H8.out.1).mono ?_;rintro e w9 ⟨rfl,d9,k9⟩;have H9:=Lib.hid (And.intro d9 (H8.out.2.trans k9));clear d9 k9 H8 HL2t;go_wp2_with fail;refine(HNb.out _).mono ?_;rintro e w10 ⟨rfl,b10⟩;have H10:=Lib.hid (And.intro (H9.out.1.below api b10) (H9.out.2.trans (Kept.of_below b10 H9.out.1.lt)));clear b10 H9;go_wp2_with fail;refine(HDt.out _ _ H10.out.1).mono ?_;rintro e w11 ⟨rfl,d11,k11⟩;have H11:=Lib.hid (And.intro d11 (H10.out.2.trans k11));clear d11 k11 H10 HDt;go_wp2;go_ret;exact⟨t,HFt.out,by rw[HWt.out];exact⟨rfl,H11.out.1,H11.out.2⟩⟩
  ·rw[if_pos z1] at HWt;have te:(((layP D nb t).1:Int) != 0)=true:=by simp;omega
   clear HL2t HDt;generalize layP D nb t=X at *;have HWt2:Hid (writeP D n l t=(X.1,X.2)):=Lib.hid HWt.out;clear HWt;generalize X.1=x1 at *;generalize X.2=D2 at *;clear z1;go_wp2_with fail;refine(HNb.out _).mono ?_;rintro e w6 ⟨rfl,b6⟩;have H6:=Lib.hid (And.intro (H5.out.1.below api b6) (H5.out.2.trans (Kept.of_below b6 H5.out.1.lt)));clear b6 H5;go_wp2_with fail;refine(HL.out _ _ H6.out.1).mono ?_;rintro e w7 ⟨rfl,d7,k7⟩;have H7:=Lib.hid (And.intro d7 (H6.out.2.trans k7));clear d7 k7 H6 HL;go_wp2;go_ret;exact⟨t,HFt.out,by rw[HWt2.out];exact⟨rfl,H7.out.1,H7.out.2⟩⟩
end
end Go.Proofs.YtokbfellcadkpaaGreat
namespace Go.Proofs.YtokbfellcadkpaaGreat
open Go.RowKit
set_option linter.unusedVariables false
set_option maxRecDepth 100000
theorem gone_no {r:Nat}(h:goneP r=false) : ((r:Int) != 0)=true∧((r:Int) != 4)=true:=by
 unfold goneP at h;rw[Bool.or_eq_false_iff,decide_eq_false_iff_not,decide_eq_false_iff_not] at h;exact⟨by simp;omega,by simp;omega⟩
theorem gone_yes {r:Nat}(h:goneP r=true) : (((r:Int) != 0)=false∧r=0)∨(((r:Int) != 0)=true∧((r:Int) != 4)=false∧r=4):=by
 unfold goneP at h;rw[Bool.or_eq_true,decide_eq_true_iff,decide_eq_true_iff] at h;rcases h with h | h
 ·exact Or.inl ⟨by rw[h];rfl,h⟩
 ·exact Or.inr ⟨by rw[h];rfl,by rw[h];rfl,h⟩
section
variable {At : Lies} (api : DiskApi At) (nap : NamesApi) {w0 w : World} {gd : Nat} {D : DiskS} {E : List Nat}
include api nap
set_option maxHeartbeats 2000000 in
theorem pdrop_run (h:DS At w0 gd D E w)(ok:WfP D)(n:Int)(wn:(Lit.int .i64 n).wf=true) : Calls Tryz.prog 47 #[ptr gd,.int .i64 n] w (DEnd At w0 gd (err (dropP D n).1) (dropP D n).2 E w):=by
 have HN:=Lib.hid fun W=>nap.table n W wn
 have HNb:=Lib.hid fun W=>nap.bloom n W wn
 have hD1:=Lib.hid fun W (E':List Nat) (hW:DS At w0 gd D E' W)=>hW.disk api (fun F hF=>api.delete (ptT n) hF ok.ok (ptT_le n))
 have hD2:=Lib.hid fun W (E':List Nat) (hW:DS At w0 gd (deleteS D (ptT n)).2 E' W)=>hW.disk api (fun F hF=>api.delete (ptB n) hF (wp_delete ok _).ok (ptB_le n))
 have HH:=Lib.hid h;rw[show nmS 116 n=ptT n from rfl] at HN;rw[show nmS 98 n=ptB n from rfl] at HNb;unfold dropP;generalize ptT n=nt at *;generalize ptB n=nb at *;generalize hX:deleteS D nt=X at *;generalize hY:deleteS X.2 nb=Y at *;obtain⟨x1,D1⟩:=X;obtain⟨y1,D2⟩:=Y;simp only at hD1 hD2 hX hY ⊢;generalize hR:(if goneP x1=false then(x1,D1) else if goneP y1=false then(y1,D2) else(0,D2))=R at *;have HR:=Lib.hid hR;clear h ok wn hX hY hR;go_enter Tryz.func47,Tryz.ntmps47;go_wp2_with fail;refine(HN.out _).mono ?_;rintro e w1 ⟨rfl,b1⟩;go_wp2_with fail;refine(HNb.out _).mono ?_;rintro e w2 ⟨rfl,b2⟩;have b12:=bj b1 b2;have hA:=(Below.refl w2.heap.size w2).alloc (Nat.le_refl _) (.cells #[.string nt,.string nb] 9);have B:=b12.alloc b12.size (.cells #[.string nt,.string nb] 9);have T:=Blok.new w2 9 #[.string nt,.string nb];have d3:=(HH.out.below api b12).more api hA (B:=[w2.heap.size]) (fun b hb=>by rw[List.mem_singleton.1 hb];exact⟨Nat.le_refl _,T.lt⟩);obtain⟨w3,hw3⟩:∃ w3,w2.alloc (.cells #[.string nt,.string nb] 9)=w3:=⟨_,rfl⟩
 obtain⟨g,hg⟩:∃ g,w2.heap.size=g:=⟨_,rfl⟩
 rw[hw3] at B T d3;rw[hg] at T d3;have c0:=T.cell 0;have H3:=Lib.hid (And.intro d3 (And.intro T (Kept.of_below B HH.out.lt)));clear b1 b2 B T b12 hA d3;go_wp2_with fail;refine wp_loop_rounds 3 ?_;rw[rounds_succ];go_wp2_with fail;refine(hD1.out _ _ H3.out.1).mono ?_;rintro e w4 ⟨rfl,d4,k4⟩;have T4:=k4.blok H3.out.2.1 (List.mem_append_left _ List.mem_cons_self);have c1:=T4.cell 1;have H4:=Lib.hid (And.intro d4 (And.intro T4 (And.intro k4 (H3.out.2.2.trans (k4.less (fun b hb=>List.mem_append_right _ hb))))));clear c0 d4 k4 T4 hD1;cases hx:goneP x1
 ·obtain⟨t1,t2⟩:=gone_no hx;have ER:=Lib.hid (show R=(x1,D1) by rw[← HR.out,hx,if_pos rfl]);clear hx;go_wp2;go_ret;rw[ER.out];exact⟨rfl,H4.out.1.less (fun b hb=>List.mem_append_right _ hb),H4.out.2.2.2⟩
 ·have HX:=Lib.hid hx;have t12:=gone_yes hx;clear hx;rcases t12 with⟨t1,rfl⟩ | ⟨t1,t2,rfl⟩
  all_goals
   go_wp2_with fail;rw[rounds_succ];go_wp2_with fail;refine(hD2.out _ _ H4.out.1).mono ?_;rintro e w5 ⟨rfl,d5,k5⟩;have H5:=Lib.hid (And.intro (d5.less (fun b hb=>List.mem_append_right _ hb)) (H4.out.2.2.2.trans (k5.less (fun b hb=>List.mem_append_right _ hb))));clear d5 k5 hD2 c1;cases hy:goneP y1
   ·obtain⟨u1,u2⟩:=gone_no hy;have ER:=Lib.hid (show R=(y1,D2) by rw[← HR.out,HX.out,if_neg (by decide),hy,if_pos rfl]);clear hy;go_wp2;go_ret;rw[ER.out];exact⟨rfl,H5.out.1,H5.out.2⟩
   ·have ER:=Lib.hid (show R=(0,D2) by rw[← HR.out,HX.out,if_neg (by decide),hy,if_neg (by decide)]);have u12:=gone_yes hy;clear hy;rcases u12 with⟨u1,rfl⟩ | ⟨u1,u2,rfl⟩
    all_goals
     go_wp2_with fail;rw[rounds_succ];go_wp2;go_ret;rw[ER.out];exact⟨rfl,H5.out.1,H5.out.2⟩
end
end Go.Proofs.YtokbfellcadkpaaGreat
