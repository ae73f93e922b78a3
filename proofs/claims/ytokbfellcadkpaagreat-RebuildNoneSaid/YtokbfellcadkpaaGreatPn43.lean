/- ZnPtLoad, ZnPtOpen -/
import Derived.Test.YtokbfellcadkpaaGreatPn15
import Derived.Test.YtokbfellcadkpaaGreatPn42
import Derived.Test.YtokbfellcadkpaaGreatPn14
namespace Go.Proofs.YtokbfellcadkpaaGreat
open Go.RowKit
set_option linter.unusedVariables false
set_option maxRecDepth 100000
def FEnd (At:Lies)(w0:World)(gd:Nat)(t:ByteArray)(D':DiskS)(E:List Nat)(w:World)(e:Ending)(w':World) : Prop :=
 ∃ (p q:Int) (m:Option Nat),e = .returned (.agg #[.int .i64 p,.int .i64 q,.map m])∧FilterAt w' (.agg #[.int .i64 p,.int .i64 q,.map m]) t∧DS At w0 gd D' (m.toList++E) w'∧Kept E w w'∧∀ b∈m.toList,w.heap.size≤b
theorem FilterAt.touch {w w':World}{F:List Nat}{p q:Int}{m:Option Nat}{t:ByteArray}(h:FilterAt w (.agg #[.int .i64 p,.int .i64 q,.map m]) t)(ht:Touch F w w')(hm:∀ b∈m.toList,b ∉ F∧b<w.heap.size) : FilterAt w' (.agg #[.int .i64 p,.int .i64 q,.map m]) t :=
 Kept.filter (E:=m.toList) (f:=.nilIface) ⟨ht.size,fun b hb=>ht.block b (hm b hb).2 (hm b hb).1⟩ h (fun b hb=>by simp[hb])
section
variable {At : Lies} (api : DiskApi At) (nap : NamesApi) {w0 w : World} {gd : Nat} {D : DiskS} {E : List Nat}
include api
theorem fl_end {w1 w':World}{g:Nat}{D':DiskS}{p q:Int}{m:Option Nat}{t:ByteArray}(hE:∀ b∈E,b<g)(hg:w0.heap.size≤g)(h:DS At w0 gd D' (g::E) w1)(hk:Kept E w w1)(hb:Below w1.heap.size w1 w')(hf:FilterAt w' (.agg #[.int .i64 p,.int .i64 q,.map m]) t)
  (hm:∀ b∈m.toList,w1.heap.size≤b∧b<w'.heap.size) (a b c:Value) :
  FEnd At w0 gd t D' E w (.returned (.agg #[.int .i64 p,.int .i64 q,.map m])) (((w'.setCell ⟨g,0,none⟩ a).setCell ⟨g,1,none⟩ b).setCell ⟨g,2,none⟩ c):=by
 have h1:=h.more api hb hm;have ht:=touch_3 (g:=g) w' a b c;have hgl:=h.lt g List.mem_cons_self;have h2:=h1.own2 api ht (fun x hx=>by rw[List.mem_singleton.1 hx];exact⟨List.mem_append_right _ List.mem_cons_self,hg⟩);refine⟨p,q,m,rfl,hf.touch ht (fun x hx=>⟨fun he=>?_,(hm x hx).2⟩),h2.less (fun x hx=>?_),(hk.trans (Kept.of_below hb (fun b hb=>h.lt b (List.mem_cons_of_mem _ hb)))).trans (Kept.of_touch ht fun x hx=>⟨h1.lt x (List.mem_append_right _ (List.mem_cons_of_mem _ hx)),fun he=>?_⟩),fun x hx=>?_⟩
 ·have:=(hm x hx).1;rw[List.mem_singleton.1 he] at this;omega
 ·rcases List.mem_append.1 hx with hx | hx
  ·exact List.mem_append_left _ hx
  ·exact List.mem_append_right _ (List.mem_cons_of_mem _ hx)
 ·have:=hE x hx;rw[List.mem_singleton.1 he] at this;exact Nat.lt_irrefl _ this
 ·have h1:=(hm x hx).1;have h2:=hk.size;omega
include nap
set_option maxHeartbeats 4000000 in
theorem pload_run (h:DS At w0 gd D E w)(ok:WfP D)(hc:D.count≤1099511627776)(hcap:D.cap≤1048576)(n:Int)(wn:(Lit.int .i64 n).wf=true)(v:Value)(l:List EntS)(hv:EntsIn w v l)(hvE:∀ b∈ownL v,b∈E)(hok:∀ x∈l,EntOk x)(hl:l.length≤1000000) :
  Calls Tryz.prog 197 #[ptr gd,.int .i64 n,v] w (FEnd At w0 gd (ldF D n l) (rdW D (ptB n)).2.2 E w):=by
 have hz:=rdW_size ok (ptB n);have hB0:=(Below.refl w.heap.size w).alloc (Nat.le_refl _) (.cells #[.int .i64 0,.int .i64 0,.map none] 217);have F0:=Blok.new w 217 #[.int .i64 0,.int .i64 0,.map none]
 have h0:DS At w0 gd D (w.heap.size::E) (w.alloc (.cells #[.int .i64 0,.int .i64 0,.map none] 217)):=h.more api hB0 (B:=[w.heap.size]) (fun b hb=>by
  rw[List.mem_singleton.1 hb];exact⟨Nat.le_refl _,F0.lt⟩)
 have v0:=hv.below hB0 (Nat.le_refl _);have K0:=Kept.of_below hB0 h.lt;have hEg:=h.lt;have hg0:=h.kept.size;obtain⟨g,hgg⟩:∃ g,w.heap.size=g:=⟨_,rfl⟩
 rw[hgg] at h0 F0 hEg hg0;obtain⟨wa,hwa⟩:∃ wa,w.alloc (.cells #[.int .i64 0,.int .i64 0,.map none] 217)=wa:=⟨_,rfl⟩
 rw[hwa] at h0 F0 v0 K0;have hN:=Lib.hid fun W=>nap.bloom n W wn
 rw[show nmS 98 n=ptB n from rfl] at hN;have hW:=Lib.hid fun W (hb:Below wa.heap.size wa W)=>whole_run api (h0.below api hb) ok hc (ptB n) (ptB_le n)
 have HX:=Lib.hid (And.intro F0 (And.intro K0 (And.intro hEg (And.intro hg0 (And.intro v0 h0)))));have hL:=Lib.hid fun W=>load_new (rdW D (ptB n)).1 W (by omega)
 obtain⟨t,ht⟩:∃ t,ldF D n l=t:=⟨_,rfl⟩
 have HT:Hid (((rdW D (ptB n)).2.1≠0→t=ByteArray.empty)∧((rdW D (ptB n)).2.1=0→((∀ x∈l,mayT (rdW D (ptB n)).1 x.h=true)→t=(rdW D (ptB n)).1)∧((∃ x∈l,mayT (rdW D (ptB n)).1 x.h=false)→t=ByteArray.empty))):=Lib.hid (by
  rw[← ht];unfold ldF;refine⟨fun e=>if_neg (fun c=>e c.1),fun e=>⟨fun hall=>if_pos ⟨e,keepsP_iff.2 hall⟩,fun⟨x,hx,hx2⟩=>if_neg (fun c=>?_)⟩⟩;rw[keepsP_iff.1 c.2 x hx] at hx2;cases hx2)
 rw[ht];generalize rdW D (ptB n)=r at *;generalize ptB n=nm at *;obtain⟨A,off,cap,rfl,-,-⟩:=hv.form;have HOK:=Lib.hid hok;have HE:=Lib.hid hvE;clear h ok hc hcap wn hv hvE hB0 hz ht h0 v0 K0 hEg hg0 F0 hok;by_cases he:r.2.1=0
 case neg =>
  have te:((r.2.1:Int) != 0)=true:=by simp;omega
  rw[HT.out.1 he];generalize r.2.1=y at *;clear hL HT he;generalize l.length=m at *;go_enter Tryz.func197,Tryz.ntmps197;go_wp2_with fail;refine(hN.out _).mono ?_;rintro e w1 ⟨rfl,b1⟩;have HK1:=Lib.hid (Kept.of_below b1 HX.out.2.2.2.2.2.lt);have HD1:=Lib.hid (hW.out _ b1);clear b1 hW hN;go_wp2_with fail;refine HD1.out.mono ?_;rintro e w2 ⟨rfl,d2,q2⟩;have K2:=HK1.out.trans q2;have F2:=K2.blok HX.out.1 List.mem_cons_self;have k0:=F2.cell 0;have k1:=F2.cell 1;have k2:=F2.cell 2;have f0:=F2.frozen 0;have f1:=F2.frozen 1;have f2:=F2.frozen 2;have H2:=Lib.hid (And.intro d2 (And.intro K2 F2));clear d2 q2 K2 F2 HD1 HK1;go_wp2;refine fl_ret (p:=6) (g:=g) (t:=217) (C:=#[.int .i64 0,.int .i64 0,.map none]) rfl rfl ?_ rfl rfl ?_
  ·exact((H2.out.2.2.put 0 _).put 1 _).put 2 _
  ·exact fl_end api HX.out.2.2.1 HX.out.2.2.2.1 H2.out.1 (HX.out.2.1.trans (H2.out.2.1.less (fun b hb=>List.mem_cons_of_mem _ hb))) (Below.refl _ _) (FilterAt.none _) (fun b hb=>by cases hb) _ _ _
 case pos =>
  obtain⟨r1,r2,r3⟩:=r;simp only at he hL HT hW ⊢;subst he;have HT2:=Lib.hid (HT.out.2 rfl);clear HT;obtain⟨z0,hz0⟩:∃ z0,l.length=z0:=⟨_,rfl⟩
  have HZ:=Lib.hid hz0;rw[hz0];rw[hz0] at HX HE;clear hz0;go_enter Tryz.func197,Tryz.ntmps197;go_wp2_with fail;refine(hN.out _).mono ?_;rintro e w1 ⟨rfl,b1⟩;have HK1:=Lib.hid (Kept.of_below b1 HX.out.2.2.2.2.2.lt);have HB1:=Lib.hid b1;have HD1:=Lib.hid (hW.out _ b1);clear b1 hW hN;go_wp2_with fail;refine HD1.out.mono ?_;rintro e w2 ⟨rfl,d2,q2⟩;have K2:=HK1.out.trans q2;have F2:=K2.blok HX.out.1 List.mem_cons_self;have V2:=K2.ents HX.out.2.2.2.2.1 (fun b hb=>List.mem_cons_of_mem _ (HE.out b hb));have H2:=Lib.hid (And.intro d2 (And.intro K2 (And.intro F2 V2)));clear d2 q2 K2 F2 V2 HD1 HK1;go_wp2_with fail;refine(hL.out _).mono ?_;rintro e w3 ⟨p,q,m,rfl,hf,hm,b3⟩;have hF3:=Blok.new w3 217 #[.int .i64 p,.int .i64 q,.map m];have b4:=b3.alloc b3.size (.cells #[.int .i64 p,.int .i64 q,.map m] 217);have hf4:=hf.below ((Below.refl w3.heap.size w3).alloc (Nat.le_refl _) (.cells #[.int .i64 p,.int .i64 q,.map m] 217));have hm4:∀ b∈m.toList,w2.heap.size≤b∧b<(w3.alloc (.cells #[.int .i64 p,.int .i64 q,.map m] 217)).heap.size:=fun b hb=>⟨(hm b hb).1,by have:=(hm b hb).2;simp;omega⟩
  obtain⟨gf,hgf⟩:∃ gf,w3.heap.size=gf:=⟨_,rfl⟩
  obtain⟨w4,hw4⟩:∃ w4,w3.alloc (.cells #[.int .i64 p,.int .i64 q,.map m] 217)=w4:=⟨_,rfl⟩
  rw[hgf,hw4] at hF3;rw[hw4] at b4 hf4 hm4;have H4:=Lib.hid (And.intro hF3 (And.intro b4 (And.intro hf4 hm4)));clear hF3 b4 hf4 hm4 hf hm b3 hL;go_wp2;clear hw4 hgf;go_loopw [26] (fun i wr=>∃ k:Nat,k≤l.length∧i = .int .i64 k∧(∀ j y,j<k→l[j]? = some y→mayT r1 y.h=true)∧Below w4.heap.size w4 wr) (fun i _=>l.length-(intOf i).toNat)
  case atStart=>exact⟨0,Nat.zero_le _,rfl,fun j y h=>absurd h (by omega),Below.refl _ _⟩
  case round =>
   obtain⟨k,hk,rfl,hall,hbel⟩:=hrel;have HALL:=Lib.hid hall;have HBEL:=Lib.hid hbel;have hb24:=bj H4.out.2.1 hbel;have HB24:=Lib.hid hb24;have Ff:=Blok.below H4.out.1 hbel;have a0:=Ff.cell 0;have a1:=Ff.cell 1;have a2:=Ff.cell 2;have Fg:=Blok.below H2.out.2.2.1 hb24;have HFg:=Lib.hid Fg;have HFf:=Lib.hid Ff;clear hall;by_cases hlt:k<l.length
   ·obtain⟨x,hx⟩:∃ x,l[k]? = some x:=⟨_,List.getElem?_eq_getElem hlt⟩
    have hxo:=HOK.out x (List.mem_of_getElem? hx);have hV:=H2.out.2.2.2.below hb24 (Nat.le_refl _);have hVl:EntsIn wr (.slice A l.length cap) l:=by rw[HZ.out];exact hV
    obtain⟨bb,of,rfl,-,hbl,d0,d1,d2⟩:=ent_cell hVl hx;have s1:(k:Int)<(z0:Int):=by rw[← HZ.out];omega
    have s2:k<z0:=by rw[← HZ.out];exact hlt
    have s3:(k:Int)≤1000000:=by omega
    have hAl:=(Below.refl wr.heap.size wr).alloc (Nat.le_refl _) (.cells #[.int .u64 (x.h:Nat),.int .i64 x.v,.int .i64 x.p] 63);have hM:=fmay_any _ x.h r1 _ hxo.h ((H4.out.2.2.1.below hbel).below hAl);have B5:=Lib.hid (bj HBEL.out hAl);have Fw:=Blok.below HFf.out hAl;have e0:=Fw.cell 0;have e1:=Fw.cell 1;have e2:=Fw.cell 2;cases hq:mayT r1 x.h with
    | false =>
      rw[hq] at hM;have HM:=Lib.hid hM;have HEmp:=Lib.hid (HT2.out.2 ⟨x,List.mem_of_getElem? hx,hq⟩);clear hM hq hx hxo hV hVl Fg Ff hbel hb24 hlt Fw HALL hAl;obtain⟨xh,xv,xp⟩:=x;simp only at d0 d1 d2 HM B5 e0 e1 e2;go_wp2_with fail;refine HM.out.mono ?_;rintro e w6 ⟨rfl,b6⟩;have b46:=bj B5.out b6;have b26:=bj H4.out.2.1 b46;have F6:=Blok.below H2.out.2.2.1 b26;have k0:=F6.cell 0;have k1:=F6.cell 1;have k2:=F6.cell 2;have f0:=F6.frozen 0;have f1:=F6.frozen 1;have f2:=F6.frozen 2;have H6:=Lib.hid (And.intro F6 b26);clear b46 b26 F6 b6;go_wp2;refine fl_ret (p:=6) (g:=g) (t:=217) (C:=#[.int .i64 0,.int .i64 0,.map none]) rfl rfl ?_ rfl rfl ?_
      ·exact((H6.out.1.put 0 _).put 1 _).put 2 _
      ·rw[HEmp.out];exact fl_end api HX.out.2.2.1 HX.out.2.2.2.1 H2.out.1 (HX.out.2.1.trans (H2.out.2.1.less (fun b hb=>List.mem_cons_of_mem _ hb))) H6.out.2 (FilterAt.none _) (fun b hb=>by cases hb) _ _ _
    | true =>
      rw[hq] at hM;have HM:=Lib.hid hM
      have HALL2:=Lib.hid (show ∀ j y,j<k+1→l[j]? = some y→mayT r1 y.h=true from fun j y hj hy=>by
       rcases Nat.lt_or_ge j k with c | c
       ·exact HALL.out j y c hy
       ·obtain rfl:j=k:=by omega
        rw[hx] at hy;rw[← Option.some.inj hy];exact hq)
      clear hM hq hx hxo hV hVl Fg Ff hbel hb24 Fw HALL hAl;obtain⟨xh,xv,xp⟩:=x;simp only at d0 d1 d2 HM B5 e0 e1 e2;go_wp2_with fail;refine HM.out.mono ?_;rintro e w6 ⟨rfl,b6⟩;have b46:=Lib.hid (bj B5.out b6);clear b6;go_wp2;go_roundw
      case rel=>exact⟨k+1,by omega,by go_num,HALL2.out,b46.out⟩
      case measure=>simp[intOf];omega
   ·obtain rfl:k=l.length:=by omega
    have s1:¬ ((l.length:Nat):Int)<(z0:Int):=by rw[← HZ.out];omega
    have s2:¬ l.length<z0:=by rw[← HZ.out];omega
    have HFul:=Lib.hid (HT2.out.1 (fun x hx=>by
     obtain⟨j,hj⟩:=List.getElem?_of_mem hx;exact HALL.out j x (List.getElem?_eq_some_iff.1 hj).1 hj))
    have k0:=Fg.cell 0;have k1:=Fg.cell 1;have k2:=Fg.cell 2;have f0:=Fg.frozen 0;have f1:=Fg.frozen 1;have f2:=Fg.frozen 2;clear Fg Ff hbel hb24 HALL hlt;go_wp2;refine fl_ret (p:=6) (g:=g) (t:=217) (C:=#[.int .i64 p,.int .i64 q,.map m]) rfl rfl ?_ rfl rfl ?_
    ·exact((HFg.out.put 0 _).put 1 _).put 2 _
    ·rw[HFul.out];exact fl_end api HX.out.2.2.1 HX.out.2.2.2.1 H2.out.1 (HX.out.2.1.trans (H2.out.2.1.less (fun b hb=>List.mem_cons_of_mem _ hb))) HB24.out (H4.out.2.2.1.below HBEL.out) (fun b hb=>⟨(H4.out.2.2.2 b hb).1,Nat.lt_of_lt_of_le (H4.out.2.2.2 b hb).2 HBEL.out.size⟩) _ _ _
end
end Go.Proofs.YtokbfellcadkpaaGreat
namespace Go.Proofs.YtokbfellcadkpaaGreat
open Go.RowKit
set_option linter.unusedVariables false
set_option maxRecDepth 100000
theorem mid_own {w:World}{base:Nat}{v:Value}{l:List MidS}(h:MidRow w base v l) : ∀ b∈ownL v,base≤b∧b<w.heap.size:=by
 intro b hb;have hb:=ownL_mem.1 hb;rcases h.2 with⟨rfl,-⟩ | ⟨g,cap,cur,rfl,hg,hh,-⟩
 ·cases hb
 ·have e:g=b:=by simpa[Value.ownBlock] using hb
  rw[← e];exact⟨hg,(Array.getElem?_eq_some_iff.1 hh).1⟩
def PEnd2 (At:Lies)(w0:World)(gd:Nat)(n:Int)(l:List EntS)(t:ByteArray)(D':DiskS)(E:List Nat)(w:World)(e:Ending)(w':World) : Prop :=
 ∃ gt G,e = .returned (.tuple #[ptr gt,.int .i64 0])∧PtAt w' gt gd n l t G∧DS At w0 gd D' (G++E) w'∧Kept E w w'∧∀ b∈G,w.heap.size≤b
section
variable {At : Lies} (api : DiskApi At) (nap : NamesApi) {w0 w : World} {gd : Nat} {D : DiskS} {E : List Nat}
include api
theorem pt_made {w1 w2 w3 w4:World}{D1 D2:DiskS}{n:Int}{l:List EntS}{A B:Option Addr}{c c2:Nat}{p q:Int}{m:Option Nat}{t:ByteArray}
  (h1:DS At w0 gd D1 E w1) (hk:Kept E w w1) (b2:Below w1.heap.size w1 w2) (r2:EntRow w2 w1.heap.size (.slice A l.length c) l) (b3:Below w2.heap.size w2 w3) (r3:MidRow w3 w2.heap.size (.slice B (midsL l).length c2) (midsL l))
  (f4:FilterAt w4 (.agg #[.int .i64 p,.int .i64 q,.map m]) t) (d4:DS At w0 gd D2 (m.toList++(ownL (.slice B (midsL l).length c2)++(ownL (.slice A l.length c)++E))) w4) (k4:Kept (ownL (.slice B (midsL l).length c2)++(ownL (.slice A l.length c)++E)) w3 w4) (n4:∀ b∈m.toList,w3.heap.size≤b) :
  PEnd2 At w0 gd n l t D2 E w (.returned (.tuple #[ptr w4.heap.size,.int .i64 0])) (w4.alloc (.cells #[ptr w4.heap.size,ptr gd,.int .i64 n,.int .i64 (l.length:Nat),.slice B (midsL l).length c2,.int .i64 p,.int .i64 q,.map m] 219)):=by
 have hB2:=(Below.refl w4.heap.size w4).alloc (Nat.le_refl _) (.cells #[ptr w4.heap.size,ptr gd,.int .i64 n,.int .i64 (l.length:Nat),.slice B (midsL l).length c2,.int .i64 p,.int .i64 q,.map m] 219);have T1:=Blok.new w4 219 #[ptr w4.heap.size,ptr gd,.int .i64 n,.int .i64 (l.length:Nat),.slice B (midsL l).length c2,.int .i64 p,.int .i64 q,.map m];have hlt:=d4.lt;have hK:=Kept.of_below hB2 hlt;have hM:MidsIn w4 (.slice B (midsL l).length c2) (midsL l):=k4.mids r3.in_ (fun b hb=>List.mem_append_left _ hb);refine⟨w4.heap.size,w4.heap.size::(ownL (.slice B (midsL l).length c2)++m.toList),rfl,⟨B,c2,p,q,m,T1,hK.mids hM (fun b hb=>?_),hK.filter (f:=.nilIface) f4 (fun b hb=>?_),List.mem_cons_self,fun b hb=>?_,fun b hb=>?_⟩, ?_, ?_,fun b hb=>?_⟩
 ·exact List.mem_append_right _ (List.mem_append_left _ hb)
 ·exact List.mem_append_left _ (by simp[hb])
 ·exact List.mem_cons_of_mem _ (List.mem_append_left _ hb)
 ·exact List.mem_cons_of_mem _ (List.mem_append_right _ (by simp[hb]))
 ·refine(d4.more api hB2 (B:=[w4.heap.size]) (fun b hb=>?_)).less (fun b hb=>?_)
  ·rw[List.mem_singleton.1 hb];exact⟨Nat.le_refl _,T1.lt⟩
  ·rcases List.mem_append.1 hb with hb | hb
   ·rcases List.mem_cons.1 hb with hb | hb
    ·rw[hb];exact List.mem_append_left _ List.mem_cons_self
    ·rcases List.mem_append.1 hb with hb | hb
     ·exact List.mem_append_right _ (List.mem_append_right _ (List.mem_append_left _ hb))
     ·exact List.mem_append_right _ (List.mem_append_left _ hb)
   ·exact List.mem_append_right _ (List.mem_append_right _ (List.mem_append_right _ (List.mem_append_right _ hb)))
 ·have hE1:∀ b∈E,b<w1.heap.size:=h1.lt;exact((hk.trans (Kept.of_below b2 hE1)).trans ((Kept.of_below b3 (fun b hb=>Nat.lt_of_lt_of_le (hE1 b hb) b2.size)).trans (k4.less (fun b hb=>List.mem_append_right _ (List.mem_append_right _ hb))))).trans (hK.less (fun b hb=>List.mem_append_right _ (List.mem_append_right _ (List.mem_append_right _ hb))))
 ·have z1:=hk.size;have z2:=b2.size;have z3:=b3.size;have z4:=k4.size;rcases List.mem_cons.1 hb with e | hb
  ·omega
  ·rcases List.mem_append.1 hb with hb | hb
   ·have:=(mid_own r3 b hb).1;omega
   ·have:=n4 b hb;omega
include nap
set_option maxHeartbeats 2000000 in
theorem popen_yes2 (h:DS At w0 gd D E w)(ok:WfP D)(hc:D.count≤1000000000)(hcap:D.cap≤1048576)(n:Int)(wn:(Lit.int .i64 n).wf=true)(hd:D.down=false)(h1:(rdW D (ptT n)).2.1=0)(h2:tgOk (rdW D (ptT n)).1=true)(hl:(tgL (rdW D (ptT n)).1).length≤10000) :
  Calls Tryz.prog 155 #[ptr gd,.int .i64 n] w (PEnd2 At w0 gd n (tgL (rdW D (ptT n)).1) (ldF (rdW D (ptT n)).2.2 n (tgL (rdW D (ptT n)).1)) (rdW (rdW D (ptT n)).2.2 (ptB n)).2.2 E w):=by
 have hU:=ptup_run api h ok;rw[if_neg (by rw[hd];decide)] at hU;have HU:=Lib.hid hU;have hz:=rdW_size ok (ptT n);obtain⟨q1,q2,q3,q4,q5⟩:=rdW_count D (ptT n);have hN:=Lib.hid fun W=>nap.table n W wn
 rw[show nmS 116 n=ptT n from rfl] at hN;have hW:=Lib.hid fun W (hb:Below w.heap.size w W)=>whole_run api (h.below api hb) ok (by omega) (ptT n) (ptT_le n)
 have hG:=Lib.hid fun W=>tget_any (rdW D (ptT n)).1 W (by omega)
 unfold TgEnd at hG;rw[(tg_yes h2).2] at hG;have hM:=Lib.hid fun(v:Value) W (hv:EntsIn W v (tgL (rdW D (ptT n)).1))=>mmake_any v _ W hv hl
 have ok1:=wp_rdW ok (ptT n);have hLd:=Lib.hid fun(v:Value) W (E':List Nat) (hW2:DS At w0 gd (rdW D (ptT n)).2.2 E' W) (hv:EntsIn W v (tgL (rdW D (ptT n)).1)) (hvE:∀ b∈ownL v,b∈E')=>pload_run api nap hW2 ok1 (by omega) (by omega) n wn v _ hv hvE (tg_entok _) (by omega)
 have HLT:=Lib.hid h.lt;rw[h1] at hW;generalize ldF (rdW D (ptT n)).2.2 n (tgL (rdW D (ptT n)).1)=t at *;generalize (rdW (rdW D (ptT n)).2.2 (ptB n)).2.2=D2 at *;generalize (rdW D (ptT n)).2.2=D1 at *;generalize tgL (rdW D (ptT n)).1=l at *;generalize (rdW D (ptT n)).1=s at *;generalize ptT n=nm at *;clear h ok hc hcap wn hd h1 h2 hl hU hz q1 q2 q3 q4 q5 ok1;have HZ:=Lib.hid (show l.length=l.length from rfl);go_enter Tryz.func155,Tryz.ntmps155;go_wp2_with fail;refine HU.out.mono ?_;rintro e w' ⟨rfl,rfl⟩;go_wp2_with fail;refine(hN.out _).mono ?_;rintro e w1 ⟨rfl,b1⟩;have HK1:=Lib.hid (Kept.of_below b1 HLT.out);have HD1:=Lib.hid (hW.out _ b1);clear b1 hW hN HU;go_wp2_with fail;refine HD1.out.mono ?_;rintro e w2 ⟨rfl,d2,k2⟩;have H2:=Lib.hid (And.intro d2 (HK1.out.trans k2));clear d2 k2 HD1 HK1;go_wp2_with fail;refine(hG.out _).mono ?_;rintro e w3 ⟨A,c,rfl,r3,b3⟩;have H3:=Lib.hid (And.intro r3 b3);have HM:=Lib.hid (hM.out _ _ r3.in_);clear r3 b3 hG hM;go_wp2_with fail;refine HM.out.mono ?_;rintro e w4 ⟨B,c2,rfl,r4,b4⟩;have e1:DS At w0 gd D1 (ownL (.slice A l.length c)++E) w3:=H2.out.1.more api H3.out.2 (row_own H3.out.1);have e2:=e1.more api b4 (mid_own r4);have e3:=H3.out.1.in_.below b4 (Nat.le_refl _);have HL:=Lib.hid (hLd.out _ _ _ e2 e3 (fun b hb=>List.mem_append_right _ (List.mem_append_left _ hb)));have H4:=Lib.hid (And.intro r4 b4);clear r4 b4 e1 e2 e3 hLd HM;go_wp2_with fail;refine HL.out.mono ?_;rintro e w5 ⟨p,q,m,rfl,f5,d5,k5,n5⟩;have HF:=Lib.hid (pt_made api (n:=n) H2.out.1 H2.out.2 H3.out.2 H3.out.1 H4.out.2 H4.out.1 f5 d5 k5 n5);have T0:=Blok.new w5 219 #[.pointer none,ptr gd,.int .i64 n,.int .i64 (l.length:Nat),.slice B (midsL l).length c2,.int .i64 p,.int .i64 q,.map m];have c0:=T0.cell 0;have f0:=T0.frozen 0;clear f5 d5 k5 n5 T0 HL;go_wp2;go_ret2;exact HF.out
end
end Go.Proofs.YtokbfellcadkpaaGreat
