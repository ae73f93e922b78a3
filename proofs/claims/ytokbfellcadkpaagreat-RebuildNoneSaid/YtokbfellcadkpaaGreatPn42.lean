/- ZnPgLoad, ZnPgLoads -/
import Derived.Test.YtokbfellcadkpaaGreatPn04
import Derived.Test.YtokbfellcadkpaaGreatPn40
import Derived.Test.YtokbfellcadkpaaGreatPn20
import Derived.Test.YtokbfellcadkpaaGreatPn03
import Derived.Deep.RegionHeld3
import Derived.BigQuiet
namespace Go.Proofs.YtokbfellcadkpaaGreat
set_option maxRecDepth 100000
set_option linter.unusedVariables false
section
open Go.RowKit
theorem get1 (t:ByteArray)(h:64≤t.size) : getS (t.extract 3 4)=hpT t:=by
 have e:(t.extract 3 4).data.toList=[t.data.toList.getD 3 0]:=by
  rw[sl_ext,List.drop_eq_getElem_cons (by rw[sl_size];omega),List.getD_eq_getElem?_getD,List.getElem?_eq_getElem (by rw[sl_size];omega)];rfl
 unfold getS hpT;rw[e];simp[un]
theorem hpT_lt (t:ByteArray) : hpT t<256:=UInt8.toNat_lt _
theorem hnT_lt (t:ByteArray) : hnT t<4294967296:=by
 unfold hnT getS;have h4:((t.extract 4 8).data.toList.take 8).length≤4:=by rw[List.length_take,sl_size,ByteArray.size_extract];omega
 exact Nat.lt_of_lt_of_le (un_lt _) (Nat.pow_le_pow_right (n:=256) (by decide) h4)
def noC : Array Value:=#[.int .i64 0,.int .i64 0,.map none]
theorem rh_short (t:ByteArray)(w:World)(h:t.size<64) :
  Calls Tryz.prog 265 #[.string t] w fun e w'=>e = .returned (.agg noC)∧Below w.heap.size w w':=by
 have s1:(t.size:Int)<64:=by omega
 have hB:=Lib.hid (Blok.new w 217 #[.int .i64 0,.int .i64 0,.map none]);have hb:=Lib.hid ((Below.refl w.heap.size w).alloc (Nat.le_refl _) (.cells #[.int .i64 0,.int .i64 0,.map none] 217));go_enter Tryz.func265,Tryz.ntmps265;go_wp2;refine fl_ret rfl rfl hB.out rfl rfl ?_;exact⟨rfl,hb.out⟩
set_option maxHeartbeats 2000000 in
theorem rh_long (t:ByteArray)(p n:Nat)(R:Value→World→Prop)(w:World)(h:64≤t.size)(hp:hpT t=p)(hn:hnT t=n)
  (HN:hdOk t=false→∀ W,Below w.heap.size w W→R (.agg noC) W)
  (HY:hdOk t=true→∀ W mb,Below w.heap.size w W→w.heap.size≤mb→MapPg W mb t 0→R (.agg #[.int .i64 (p:Nat),.int .i64 (n:Nat),.map (some mb)]) W) :
  Calls Tryz.prog 265 #[.string t] w fun e w'=>∃ f,e = .returned f∧R f w':=by
 have hp2:p<256:=by have:=hpT_lt t;omega
 have hn2:n<4294967296:=by have:=hnT_lt t;omega
 have G1:=Lib.hid fun W=>show Calls Tryz.prog 84 #[.string (t.extract 3 4)] W _ from get_any (t.extract 3 4) W (by rw[ByteArray.size_extract];unfold maxLen;omega)
 have G2:=Lib.hid fun W=>show Calls Tryz.prog 84 #[.string (t.extract 4 8)] W _ from get_any (t.extract 4 8) W (by rw[ByteArray.size_extract];unfold maxLen;omega)
 have eg:getS (t.extract 4 8)=n:=hn;rw[get1 t h,hp] at G1;rw[eg] at G2;have M1:=Lib.hid fun W=>pmay_any n p W
 have H1:=Lib.hid fun W=>phead_any n p W hn2 hp2
 have hno:=@hdOk_not t;have hot:=@hdOk_other t;have hyes:=@hdOk_iff t;rw[hp,hn] at hno hot hyes;have s1:(64:Int)≤(t.size:Int):=by omega
 have s2:¬ (t.size:Int)<64:=by omega
 have s3:(4:Int)≤(t.size:Int):=by omega
 have s4:(8:Int)≤(t.size:Int):=by omega
 have hB:=Lib.hid (Blok.new w 217 #[.int .i64 0,.int .i64 0,.map none]);have HB:=Lib.hid ((Below.refl w.heap.size w).alloc (Nat.le_refl _) (.cells #[.int .i64 0,.int .i64 0,.map none] 217));obtain⟨w1,hw1⟩:∃ w1,w.alloc (.cells #[.int .i64 0,.int .i64 0,.map none] 217)=w1:=⟨_,rfl⟩
 rw[hw1] at hB HB;have hmk:∀ W:World,(Instr.makeMap 215 none).run Tryz.prog W = .ok (.map (some W.heap.size)) (W.alloc (.map #[] 0)):=fun W=>run_makeMap _ W
 have q1:IntKind.i64.wrap (p:Int)=(p:Nat):=by rw[IntKind.wrap_i64];omega
 have q2:IntKind.i64.wrap (n:Int)=(n:Nat):=by rw[IntKind.wrap_i64];omega
 go_enter Tryz.func265,Tryz.ntmps265;go_wp2_with fail
 go_region_held3 (fun W=>Below w1.heap.size w1 W)
  (first | (with_reducible assumption) | ((repeat' (first | (with_reducible assumption) | (with_reducible exact Below.refl _ _) | (with_reducible refine Below.drew ?_)));done) | fail)
  (first
  | (go_at_call 84;(first | ((with_reducible refine(G1.out _).mono ?_);rintro e w' ⟨rfl,rfl⟩) | ((with_reducible refine(G2.out _).mono ?_);rintro e w' ⟨rfl,rfl⟩)))
  | fail)
 by_cases hk:pgOk n p=true
 ·rw[hk] at M1;by_cases hE:t.extract 0 64=hdP n p
  ·have HY':=Lib.hid (HY (hyes.2 ⟨h,hk,hE⟩));have he:=list_eq hE.symm;clear hno hot hyes HN HY hE hk;go_wp2_with fail
   go_region_held3 (fun W=>Below w1.heap.size w1 W)
    (first | (with_reducible assumption) | ((repeat' (first | (with_reducible assumption) | (with_reducible exact Below.refl _ _) | (with_reducible refine Below.drew ?_)));done) | fail)
    (first
    | (go_at_call 234;((with_reducible refine(M1.out _).mono ?_);rintro e w' ⟨rfl,rfl⟩))
    | (go_at_call 235;((with_reducible refine(H1.out _).mono ?_);rintro e w' ⟨rfl,hb⟩;have hB2:=bj (by with_reducible assumption) hb))
    | fail)
   have HBB:=Lib.hid (show Below w1.heap.size w1 w' by assumption);have hbx:=HB.out.trans (HBB.out.mono HB.out.size);have hlt0:w.heap.size<w'.heap.size:=Nat.lt_of_lt_of_le hB.out.lt HBB.out.size;have hBw:Blok w' w.heap.size _ _:=(HBB.out.block _ hB.out.lt).trans hB.out;have hBm:=hBw.alloc (.map #[] 0);have hbm:=hbx.alloc hbx.size (.map #[] 0);have hmp:=MapPg.new w' t;obtain⟨mb,hmb⟩:∃ mb,w'.heap.size=mb:=⟨_,rfl⟩
   rw[hmb] at hmp;have hne:mb≠w.heap.size:=by omega
   obtain⟨wm,hwm⟩:∃ wm,w'.alloc (.map #[] 0)=wm:=⟨_,rfl⟩
   rw[hwm] at hBm hbm hmp;have k0:=hBm.cell 0;have k1:=hBm.cell 1;have k2:=hBm.cell 2;have f0:=hBm.frozen 0;have f1:=hBm.frozen 1;have f2:=hBm.frozen 2;have HF:=Lib.hid (And.intro hBm (And.intro hbm (And.intro hmp (And.intro hne hbx.size))));clear hBw hBm hbm hmp hne hbx hlt0;go_wp2;refine fl_ret (p:=2) (g:=w.heap.size) (t:=217) (C:=#[.int .i64 (p:Nat),.int .i64 (n:Nat),.map (some mb)]) rfl rfl ?_ rfl rfl ?_
   ·exact((HF.out.1.put 0 _).put 1 _).put 2 _
   ·exact⟨_,rfl,HY'.out _ mb (((HF.out.2.1.setCell (Nat.le_refl _) _).setCell (Nat.le_refl _) _).setCell (Nat.le_refl _) _) (by have:=HF.out.2.2.2.2;omega) (HF.out.2.2.1.of_block ((heap_setCell_other _ _ _ _ HF.out.2.2.2.1).trans ((heap_setCell_other _ _ _ _ HF.out.2.2.2.1).trans (heap_setCell_other _ _ _ _ HF.out.2.2.2.1))))⟩
  ·have HN':=Lib.hid (HN (hot hE));have he:=list_ne (fun h:hdP n p=t.extract 0 64=>hE h.symm);clear hno hot hyes HN HY hE hk;go_wp2_with fail
   go_region_held3 (fun W=>Below w1.heap.size w1 W)
    (first | (with_reducible assumption) | ((repeat' (first | (with_reducible assumption) | (with_reducible exact Below.refl _ _) | (with_reducible refine Below.drew ?_)));done) | fail)
    (first
    | (go_at_call 234;((with_reducible refine(M1.out _).mono ?_);rintro e w' ⟨rfl,rfl⟩))
    | (go_at_call 235;((with_reducible refine(H1.out _).mono ?_);rintro e w' ⟨rfl,hb⟩;have hB2:=bj (by with_reducible assumption) hb))
    | fail)
   have HBB:=Lib.hid (show Below w1.heap.size w1 w' by assumption);have hbx:=HB.out.trans (HBB.out.mono HB.out.size);have hBm:Blok w' w.heap.size _ _:=(HBB.out.block _ hB.out.lt).trans hB.out;have k0:=hBm.cell 0;have k1:=hBm.cell 1;have k2:=hBm.cell 2;have f0:=hBm.frozen 0;have f1:=hBm.frozen 1;have f2:=hBm.frozen 2;have HF:=Lib.hid (And.intro hBm hbx);clear hBm hbx;go_wp2;refine fl_ret (p:=2) (g:=w.heap.size) (t:=217) (C:=#[.int .i64 0,.int .i64 0,.map none]) rfl rfl ?_ rfl rfl ?_
   ·exact((HF.out.1.put 0 _).put 1 _).put 2 _
   ·exact⟨_,rfl,HN'.out _ (((HF.out.2.setCell (Nat.le_refl _) _).setCell (Nat.le_refl _) _).setCell (Nat.le_refl _) _)⟩
 ·have hk':=Bool.eq_false_iff.2 hk;rw[hk'] at M1;have HN':=Lib.hid (HN (hno hk'));clear hno hot hyes HN HY hk hk';go_wp2_with fail;obtain⟨wq,hwq⟩:∃ wq,w1.drew=wq:=⟨_,rfl⟩
  rw[hwq];go_quiet ((go_at_call 234;exact Calls.quiet_of_same ((M1.out _).mono fun _ _ h=>⟨h.1,h.2.symm⟩)));have hbx:=HB.out.drew;have hBm:=hB.out.drew;rw[hwq] at hbx hBm;have hbx:=below_drewN hbx nq;have hBm:=hBm.drewN nq;obtain⟨wz,hwz⟩:∃ wz,wq.drewN nq=wz:=⟨_,rfl⟩
  rw[hwz] at hbx hBm ⊢;have k0:=hBm.cell 0;have k1:=hBm.cell 1;have k2:=hBm.cell 2;have f0:=hBm.frozen 0;have f1:=hBm.frozen 1;have f2:=hBm.frozen 2;have HF:=Lib.hid (And.intro hBm hbx);clear hBm hbx hwz;go_wp2;refine fl_ret (p:=2) (g:=w.heap.size) (t:=217) (C:=#[.int .i64 0,.int .i64 0,.map none]) rfl rfl ?_ rfl rfl ?_
  ·exact((HF.out.1.put 0 _).put 1 _).put 2 _
  ·exact⟨_,rfl,HN'.out _ (((HF.out.2.setCell (Nat.le_refl _) _).setCell (Nat.le_refl _) _).setCell (Nat.le_refl _) _)⟩
theorem rh_any (t:ByteArray)(w:World) :
  Calls Tryz.prog 265 #[.string t] w fun e w'=>Below w.heap.size w w'∧((hdOk t=false∧e = .returned (.agg noC))∨(hdOk t=true∧∃ mb,w.heap.size≤mb∧e = .returned (.agg #[.int .i64 (hpT t:Nat),.int .i64 (hnT t:Nat),.map (some mb)])∧MapPg w' mb t 0)):=by
 by_cases h:64≤t.size
 ·refine(rh_long t _ _ (fun f w'=>Below w.heap.size w w'∧((hdOk t=false∧f = .agg noC)∨(hdOk t=true∧∃ mb,w.heap.size≤mb∧f = .agg #[.int .i64 (hpT t:Nat),.int .i64 (hnT t:Nat),.map (some mb)]∧MapPg w' mb t 0))) w h rfl rfl (fun h W hb=>⟨hb,Or.inl ⟨h,rfl⟩⟩) (fun h W mb hb hm hM=>⟨hb,Or.inr ⟨h,mb,hm,rfl,hM⟩⟩)).mono ?_;rintro e w' ⟨f,rfl,hb,⟨h,rfl⟩ | ⟨h,mb,hm,rfl,hM⟩⟩
  ·exact⟨hb,Or.inl ⟨h,rfl⟩⟩
  ·exact⟨hb,Or.inr ⟨h,mb,hm,rfl,hM⟩⟩
 ·refine(rh_short t w (by omega)).mono ?_;rintro e w' ⟨rfl,hb⟩;exact⟨hb,Or.inl ⟨hdOk_short (by omega),rfl⟩⟩
set_option maxHeartbeats 1000000 in
theorem load_no (t:ByteArray)(w:World)(h:hdOk t=false) :
  Calls Tryz.prog 229 #[.string t] w fun e w'=>e = .returned (.agg noC)∧Below w.heap.size w w':=by
 have HR:=Lib.hid fun W=>rh_any t W
 have hB:=Blok.new w 217 #[.int .i64 0,.int .i64 0,.map none];have hb:=(Below.refl w.heap.size w).alloc (Nat.le_refl _) (.cells #[.int .i64 0,.int .i64 0,.map none] 217);obtain⟨w1,hw1⟩:∃ w1,w.alloc (.cells #[.int .i64 0,.int .i64 0,.map none] 217)=w1:=⟨_,rfl⟩
 rw[hw1] at hB hb;have HB:=Lib.hid hB;have HBE:=Lib.hid hb;have HH:=Lib.hid h;clear hB hb h;go_enter Tryz.func229,Tryz.ntmps229;go_wp2_with fail;refine(HR.out _).mono ?_;rintro e w2 ⟨hb2,⟨-,rfl⟩ | ⟨hh,-⟩⟩
 ·have hBr:=HB.out.after hb2;have hBf:=Blok.new w2 217 #[.int .i64 0,.int .i64 0,.map none];have HBR:=Lib.hid (hBr.alloc (.cells #[.int .i64 0,.int .i64 0,.map none] 217));have HBL:=Lib.hid ((bj HBE.out hb2).alloc (bj HBE.out hb2).size (.cells #[.int .i64 0,.int .i64 0,.map none] 217));have hne:w.heap.size≠w2.heap.size:=Nat.ne_of_lt hBr.lt;obtain⟨fb,hfb⟩:∃ fb,w2.heap.size=fb:=⟨_,rfl⟩
  obtain⟨w3,hw3⟩:∃ w3,w2.alloc (.cells #[.int .i64 0,.int .i64 0,.map none] 217)=w3:=⟨_,rfl⟩
  rw[hw3] at hBf HBR HBL;rw[hfb] at hBf hne;unfold noC;have k0:=hBf.cell 0;have k1:=hBf.cell 1;have k2:=hBf.cell 2;have f0:=hBf.frozen 0;have f1:=hBf.frozen 1;have f2:=hBf.frozen 2;have r0:=HBR.out.cell 0;have r1:=HBR.out.cell 1;have r2:=HBR.out.cell 2;have s0:=HBR.out.frozen 0;have s1:=HBR.out.frozen 1;have s2:=HBR.out.frozen 2;have HBF:=Lib.hid hBf;have HB2:=Lib.hid hb2;clear hBf hBr hb2;go_wp2;refine wp_loop_rounds 1 ?_;rw[rounds_succ];go_wp2;refine fl_ret (p:=2) (g:=w.heap.size) (t:=217) (C:=#[.int .i64 0,.int .i64 0,.map none]) rfl rfl ?_ rfl rfl ?_
  ·exact((((((HBR.out.far hne _).far hne _).far hne _).put 0 _).put 1 _).put 2 _)
  ·have h1:w.heap.size≤fb:=by have:=HBR.out.lt;have:=(bj HBE.out HB2.out).size;omega
   exact⟨rfl,((((((HBL.out.setCell h1 _).setCell h1 _).setCell h1 _).setCell (Nat.le_refl _) _).setCell (Nat.le_refl _) _).setCell (Nat.le_refl _) _)⟩
 ·rw[HH.out] at hh;cases hh
def LdAt (w wr:World)(fb mb:Nat)(C:Array Value)(t:ByteArray)(k:Nat) : Prop :=
 Blok wr fb 217 C∧Blok wr w.heap.size 217 #[.int .i64 0,.int .i64 0,.map none]∧MapPg wr mb t k∧Below w.heap.size w wr
theorem LdAt.other {w wr wx:World}{fb mb k:Nat}{C:Array Value}{t:ByteArray}(h:LdAt w wr fb mb C t k)(hb:Below wr.heap.size wr wx) : LdAt w wx fb mb C t k :=
 ⟨h.1.after hb,h.2.1.after hb,h.2.2.1.below hb,h.2.2.2.trans (hb.mono h.2.2.2.size)⟩
set_option maxHeartbeats 2000000 in
theorem load_yes (t:ByteArray)(p n m:Nat)(w:World)(hs:t.size≤1100000)(h:hdOk t=true)(hp:hpT t=p)(hn:hnT t=n)(hm:n=60*m)(hm2:m≤2000)(hp2:p≤16) :
  Calls Tryz.prog 229 #[.string t] w fun e w'=>∃ mb,e = .returned (.agg #[.int .i64 (p:Nat),.int .i64 (n:Nat),.map (some mb)])∧MapPg w' mb t m∧Below w.heap.size w w'∧w.heap.size≤mb:=by
 have HR:=Lib.hid fun W=>rh_any t W
 have HP:=Lib.hid fun(j:Nat) (W:World) (hj:j≤100000)=>page_any t j W hj hs
 have hB:=Blok.new w 217 #[.int .i64 0,.int .i64 0,.map none];have hb:=(Below.refl w.heap.size w).alloc (Nat.le_refl _) (.cells #[.int .i64 0,.int .i64 0,.map none] 217);obtain⟨w1,hw1⟩:∃ w1,w.alloc (.cells #[.int .i64 0,.int .i64 0,.map none] 217)=w1:=⟨_,rfl⟩
 rw[hw1] at hB hb;have HB:=Lib.hid hB;have HBE:=Lib.hid hb;have HH:=Lib.hid (And.intro h (And.intro hp (And.intro hn hm)));obtain⟨Z,hZ⟩:∃ Z,pgZ=Z:=⟨_,rfl⟩
 have z1:Z.size=60:=by rw[← hZ];exact pgZ_size
 clear hB hb h hp hn;go_enter Tryz.func229,Tryz.ntmps229;go_wp2_with fail;refine(HR.out _).mono ?_;rintro e w2 ⟨hb2,⟨hh,-⟩ | ⟨-,mb,hmb,rfl,hM⟩⟩
 ·rw[HH.out.1] at hh;cases hh
 ·rw[HH.out.2.1,HH.out.2.2.1];have hmlt:=hM.lt;have hw12:w.heap.size<w1.heap.size:=HB.out.lt;have hBr:=HB.out.after hb2;have hBf:=Blok.new w2 217 #[.int .i64 0,.int .i64 0,.map none];have hBr3:=hBr.alloc (.cells #[.int .i64 0,.int .i64 0,.map none] 217);have hM3:=hM.of_block (Below.heap_alloc w2 (.cells #[.int .i64 0,.int .i64 0,.map none] 217) mb hmlt);have hbl:=(bj HBE.out hb2).alloc (bj HBE.out hb2).size (.cells #[.int .i64 0,.int .i64 0,.map none] 217);have hne:w.heap.size≠w2.heap.size:=Nat.ne_of_lt hBr.lt;have hne2:mb≠w2.heap.size:=Nat.ne_of_lt hmlt;have hne3:w.heap.size≠mb:=by omega
  have hle:w.heap.size≤w2.heap.size:=Nat.le_of_lt hBr.lt;have hle2:w.heap.size≤mb:=by omega
  obtain⟨fb,hfb⟩:∃ fb,w2.heap.size=fb:=⟨_,rfl⟩
  obtain⟨w3,hw3⟩:∃ w3,w2.alloc (.cells #[.int .i64 0,.int .i64 0,.map none] 217)=w3:=⟨_,rfl⟩
  rw[hw3] at hBf hBr3 hM3 hbl;rw[hfb] at hBf hne hne2 hle;have k0:=hBf.cell 0;have k1:=hBf.cell 1;have k2:=hBf.cell 2;have f0:=hBf.frozen 0;have f1:=hBf.frozen 1;have f2:=hBf.frozen 2;obtain⟨C,hC⟩:∃ C:Array Value,#[.int .i64 (p:Nat),.int .i64 (n:Nat),.map (some mb)]=C:=⟨_,rfl⟩
  have hL:LdAt w (((w3.setCell ⟨fb,0,none⟩ (.int .i64 (p:Nat))).setCell ⟨fb,1,none⟩ (.int .i64 (n:Nat))).setCell ⟨fb,2,none⟩ (.map (some mb))) fb mb C t 0:=by
   refine⟨?_,((hBr3.far hne _).far hne _).far hne _,hM3.of_block ((heap_setCell_other _ _ _ _ hne2).trans ((heap_setCell_other _ _ _ _ hne2).trans (heap_setCell_other _ _ _ _ hne2))),((hbl.setCell hle _).setCell hle _).setCell hle _⟩;rw[← hC];exact((hBf.put 0 _).put 1 _).put 2 _
  have HL:=Lib.hid hL;have HC:=Lib.hid hC;have hq:IntKind.i64.wrap ((n:Int)/60)=(m:Int):=by rw[IntKind.wrap_i64];omega
  have hq2:(n:Int)/60=(m:Int):=by omega
  have HX:=Lib.hid (And.intro hne (And.intro hne2 (And.intro hne3 (And.intro hle hle2))));clear hL hbl hM3 hBr3 hBf hBr hM hb2 hmlt hm hC;go_wp2;have hL:=HL.out;obtain⟨w4,hw4⟩:∃ w4,(((w3.setCell ⟨fb,0,none⟩ (.int .i64 (p:Nat))).setCell ⟨fb,1,none⟩ (.int .i64 (n:Nat))).setCell ⟨fb,2,none⟩ (.map (some mb)))=w4:=⟨_,rfl⟩
  rw[hw4] at hL ⊢;clear HL hw4 hw3 hw1 hfb k0 k1 k2 f0 f1 f2 hne hne2 hne3 hle hle2;go_loopw [12] (fun v wr=>∃ k:Nat,k≤m∧v = .int .i64 k∧LdAt w wr fb mb C t k) (fun v _=>m-(intOf v).toNat)
  case atStart=>exact⟨0,Nat.zero_le _,rfl,hL⟩
  case round =>
   clear hL;obtain⟨k,hk,rfl,hR⟩:=hrel;by_cases hlt:k<m
   ·have s1:(k:Int)<(m:Int):=by omega
    have HK:=Lib.hid (HP.out (k+1) wr (by omega));obtain⟨q,hq3⟩:∃ q,pgW t (k+1)=q:=⟨_,rfl⟩
    obtain⟨D,hD⟩:∃ D,pgC (pgL t (k+1))=D:=⟨_,rfl⟩
    have zD:D.size=60:=by rw[← hD,pgC_size,pgL_length]
    have oD:D.all (·.oneCell')=true:=by rw[← hD];exact pgC_one _
    unfold pgV at HK;rw[hq3,hD] at HK;have e1:((k+1:Nat):Int)=(k:Int)+1:=by omega
    rw[e1] at HK;have HQ:=Lib.hid (And.intro hq3 hD);have HRR:=Lib.hid hR;clear hq3 hD hR e1;go_wp2_with fail;refine HK.out.mono ?_;rintro e w5 ⟨rfl,b5⟩;have hL5:=HRR.out.other b5;have hG:=Blok.new w5 308 Z;have hL6:LdAt w ((w5.alloc (.cells Z 308)).setRow w5.heap.size D) fb mb C t k:=hL5.other (below_row ((Below.refl _ _).alloc (Nat.le_refl _) _) (Nat.le_refl _) D);have hG6:=hG.row D;have hgm:mb≠w5.heap.size:=Nat.ne_of_lt hL5.2.2.1.lt;obtain⟨g,hg⟩:∃ g,w5.heap.size=g:=⟨_,rfl⟩
    rw[hg] at hG hG6 hL6;have hgg:=Lib.hid hg;cases q with
    | false =>
      have HG:=Lib.hid hG;have HL6:=Lib.hid hL6;clear hL5 hL6 hG hG6 hgm b5
      go_wp2_with (first
       | (refine pg_alloc hZ rfl _ rfl rfl ?_;rw[hgg.out])
       | (refine pg_store rfl _ _ rfl rfl rfl HG.out z1 zD oD ?_))
      go_roundw
      case rel=>exact⟨k+1,hlt,by go_num,HL6.out.1,HL6.out.2.1,HL6.out.2.2.1.skip HQ.out.1,HL6.out.2.2.2⟩
      case measure=>simp[intOf];omega
    | true =>
      obtain⟨W6,hW6⟩:∃ W6,(w5.alloc (.cells Z 308)).setRow g D=W6:=⟨_,rfl⟩
      rw[hW6] at hL6 hG6;obtain⟨w7,hrun,hM7,hg7⟩:=hL6.2.2.1.put (by omega) HQ.out.1;rw[← pgL_yes HQ.out.1] at hrun;unfold pgV at hrun;rw[HQ.out.2] at hrun
      have hL7:LdAt w w7 fb mb C t (k+1):=by
       have hb7:=hg7.block;refine⟨(hb7 fb hL6.1.lt fun e=>?_).trans hL6.1,(hb7 _ hL6.2.1.lt fun e=>?_).trans hL6.2.1,hM7,hL6.2.2.2.grown hg7 hL6.2.2.2.size fun z hz=>?_⟩
       ·injection e with e;exact HX.out.2.1 e.symm
       ·injection e with e;exact HX.out.2.2.1 e
       ·injection hz with hz;rw[← hz];exact HX.out.2.2.2.2
      have c2:W6.cell? ⟨fb,2,none⟩=some (.map (some mb)):=by rw[hL6.1.cell 2,← HC.out];rfl
      have HG:=Lib.hid hG;have HG6:=Lib.hid hG6;have HL7:=Lib.hid hL7;clear hL5 hL6 hG hG6 hgm b5 hM7 hg7 hL7
      go_wp2_with (first
       | (refine pg_alloc hZ rfl _ rfl rfl ?_;rw[hgg.out])
       | (refine pg_store rfl _ _ rfl rfl rfl HG.out z1 zD oD ?_;rw[hW6])
       | (refine pg_load rfl _ rfl rfl HG6.out zD ?_))
      go_roundw
      case rel=>exact⟨k+1,hlt,by go_num,HL7.out⟩
      case measure=>simp[intOf];omega
   ·obtain rfl:k=m:=by omega
    have s1:¬ (k:Int)<(k:Int):=by omega
    have HRR:=Lib.hid hR;have k0:=(HC.out ▸ hR.1).cell 0;have k1:=(HC.out ▸ hR.1).cell 1;have k2:=(HC.out ▸ hR.1).cell 2;have r0:=hR.2.1.cell 0;have r1:=hR.2.1.cell 1;have r2:=hR.2.1.cell 2;have g0:=hR.2.1.frozen 0;have g1:=hR.2.1.frozen 1;have g2:=hR.2.1.frozen 2;clear hR;go_wp2;refine fl_ret (p:=2) (g:=w.heap.size) (t:=217) (C:=#[.int .i64 (p:Nat),.int .i64 (n:Nat),.map (some mb)]) rfl rfl ?_ rfl rfl ?_
    ·exact((HRR.out.2.1.put 0 _).put 1 _).put 2 _
    ·have e3:=HX.out.2.2.1.symm;exact⟨mb,rfl,HRR.out.2.2.1.of_block ((heap_setCell_other _ _ _ _ e3).trans ((heap_setCell_other _ _ _ _ e3).trans (heap_setCell_other _ _ _ _ e3))),((HRR.out.2.2.2.setCell (Nat.le_refl _) _).setCell (Nat.le_refl _) _).setCell (Nat.le_refl _) _,HX.out.2.2.2.2⟩
theorem load_any (t:ByteArray)(w:World)(hs:t.size≤1100000) :
  Calls Tryz.prog 229 #[.string t] w fun e w'=>∃ f,e = .returned f∧FilterAt w' f t∧Below w.heap.size w w':=by
 by_cases h:hdOk t=true
 ·obtain⟨g1,g2,g3,g4,g5⟩:=pgOk_iff.1 (hdOk_iff.1 h).2.1;refine(load_yes t (hpT t) (hnT t) (hnT t/60) w hs h rfl rfl (by omega) (by omega) (by omega)).mono ?_;rintro e w' ⟨mb,rfl,hM,hb,-⟩;exact⟨_,rfl,Or.inr ⟨h,mb,rfl,hM⟩,hb⟩
 ·have h:=Bool.eq_false_iff.2 h;refine(load_no t w h).mono ?_;rintro e w' ⟨rfl,hb⟩;exact⟨_,rfl,Or.inl ⟨h,rfl⟩,hb⟩
theorem load_new (t:ByteArray)(w:World)(hs:t.size≤1100000) :
  Calls Tryz.prog 229 #[.string t] w fun e w'=>∃ (p q:Int) (m:Option Nat),e = .returned (.agg #[.int .i64 p,.int .i64 q,.map m])∧FilterAt w' (.agg #[.int .i64 p,.int .i64 q,.map m]) t∧(∀ b∈m.toList,w.heap.size≤b∧b<w'.heap.size)∧Below w.heap.size w w':=by
 by_cases h:hdOk t=true
 ·obtain⟨g1,g2,g3,g4,g5⟩:=pgOk_iff.1 (hdOk_iff.1 h).2.1;refine(load_yes t (hpT t) (hnT t) (hnT t/60) w hs h rfl rfl (by omega) (by omega) (by omega)).mono ?_;rintro e w' ⟨mb,rfl,hM,hb,hge⟩
  exact⟨_,_,_,rfl,Or.inr ⟨h,mb,rfl,hM⟩,fun b hb=>(by
   obtain rfl:b=mb:=by simpa using hb
   exact⟨hge,hM.lt⟩),hb⟩
 ·have h:=Bool.eq_false_iff.2 h;refine(load_no t w h).mono ?_;rintro e w' ⟨rfl,hb⟩;exact⟨_,_,_,rfl,Or.inl ⟨h,rfl⟩,fun b hb=>(by cases hb),hb⟩
end
end Go.Proofs.YtokbfellcadkpaaGreat
