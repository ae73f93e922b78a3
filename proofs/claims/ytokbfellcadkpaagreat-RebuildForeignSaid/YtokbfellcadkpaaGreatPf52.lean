/- ZfIxFlush, ZfIxStep, ZfIxStep2, ZfIxStep3, ZfSxLay, ZfSxStep, ZfSxLog, ZfSxClean, ZfSxIl, ZfSxOpen, ZfSxSpoil, ZfRbMath, ZfRbFillMath, ZfRbApi, ZfRbAdd, ZfRbBat, ZfRbFill -/
import Derived.Test.YtokbfellcadkpaaGreatPf50
import Derived.Test.YtokbfellcadkpaaGreatPf51
import Derived.Test.YtokbfellcadkpaaGreatPf14
import Derived.Test.YtokbfellcadkpaaGreatPf44
import Derived.Test.YtokbfellcadkpaaGreatPf49
import Derived.Test.YtokbfellcadkpaaGreatPf17
import Derived.Test.YtokbfellcadkpaaGreatPf19
import Derived.Test.YtokbfellcadkpaaGreatPf23
import Derived.Test.YtokbfellcadkpaaGreatPf08
import Derived.Test.YtokbfellcadkpaaGreatPf26
import Derived.Test.YtokbfellcadkpaaGreatPf10
import Derived.Test.YtokbfellcadkpaaGreatPf12
import Derived.Test.YtokbfellcadkpaaGreatPf37
import Derived.Test.YtokbfellcadkpaaGreatPf06
import Derived.Test.YtokbfellcadkpaaGreatPf02
import Derived.Test.YtokbfellcadkpaaGreatPf07
import Derived.Test.YtokbfellcadkpaaGreatPf03
import Derived.Test.YtokbfellcadkpaaGreatPf38
namespace Go.Proofs.YtokbfellcadkpaaGreat
open Go.RowKit Go.Shelf
set_option linter.unusedVariables false
set_option maxRecDepth 100000
def flushI (f:Nat)(D:DiskS)(S:IxS)(t:ByteArray)(n pe:Nat)(en:Int) : Nat × DiskS :=
 if f≠0 then(f,D) else if S.mem=[] then(0,D) else layI D n S.mem t pe (nextM S (addL S.m.lv n) en)
noncomputable def flushIX (f:Nat)(D:DiskS)(S:IxS)(t:ByteArray)(n pe:Nat)(en:Int) : IxS :=
 if f≠0 then S else if S.mem=[] then S
 else if (layI D n S.mem t pe (nextM S (addL S.m.lv n) en)).1=0 then { layIX S D n S.mem t pe (addL S.m.lv n) en with mem:=[] } else layIX S D n S.mem t pe (addL S.m.lv n) en
theorem IxM.tab {w:World}{base gx gd r:Nat}{S:IxS}{Fm Gr Gk:List Nat}(h:IxM w base gx gd r S Fm Gr Gk) : ∃ gm,w.cell? ⟨gx,8,none⟩=some (mtp gm)∧TabAt w base gm Fm S.mem:=by
 obtain⟨gm,A,cp,B,c2,ps,hC⟩:=h.cells;exact⟨gm,hC.cs.2.2.2.2.2.2.2.2,hC.mem⟩
section
variable {At : Lies} (api : DiskApi At) (nap : NamesApi) (iap : ImApi At) {w0 w w' : World} {gd gl gx r : Nat} {S : IxS} {D : DiskS} {E : List Nat} {L : LogS}
include api in
theorem xclear_run (h:IxAt At w0 gd gx r S D E w) : ∃ gm,w.cell? ⟨gx,8,none⟩=some (mtp gm)∧Calls Tryz.prog 41 #[mtp gm] w fun e w'=>e = .returned (.tuple #[])∧IxAt At w0 gd gx r { S with mem:=[] } D E w'∧Kept E w w':=by
 obtain⟨Fm,Gr,Gk,d1,hM,d3,d4,d5,d6⟩:=h;obtain⟨gm,A,cp,B,c2,ps,hC⟩:=hM.cells;refine⟨gm,hC.cs.2.2.2.2.2.2.2.2,(tclear_run hC.mem).mono ?_⟩;rintro e w' ⟨F',rfl,h1,h2,h3⟩;exact⟨rfl,IxAt.mem_end api d1 hC d3 d4 d5 d6 h1 h2 h3⟩
include api nap iap
set_option maxHeartbeats 2000000 in
theorem xflush_run (h:IxAt At w0 gd gx r S D (gl::E) w)(hlg:Blok w gl 76 (logCells (ptr gl) gd L))(hgl:gl ∉ E)(hlow:w0.heap.size≤gl)(wf:WfP D)(hch:L.chunks≤200)
  (wf1:WfP (flushT D L).2.1) (hd1:(flushT D L).2.1.down=false) (hc1:(flushT D L).2.1.count≤1000000) (ok:IxOk D S) (n:Nat) (hn:S.m.next=(n:Nat)) (hn9:n≤999999) (hr:r<18446744073709551616) (hl:S.mem.length≤1000)
  (pe:Nat) (hpe:addLE S.m.lv n=(pe:Nat)) (hop:∀ t,FltOf S.mem r t→(writeP (flushT D L).2.1 n S.mem t).1=0→(tgL (rdW (writeP (flushT D L).2.1 n S.mem t).2 (ptT n)).1).length≤10000) :
  Calls Tryz.prog 10 #[ptr gx,ptr gl] w fun e w'=>∃ t,(S.mem=[]∨(flushT D L).1≠0∨FltOf S.mem r t)∧e = .returned (err (flushI (flushT D L).1 (flushT D L).2.1 S t n pe (flushT D L).2.2.endp).1) ∧
   IxAt At w0 gd gx r (flushIX (flushT D L).1 (flushT D L).2.1 S t n pe (flushT D L).2.2.endp) (flushI (flushT D L).1 (flushT D L).2.1 S t n pe (flushT D L).2.2.endp).2 (gl::E) w'∧Blok w' gl 76 (logCells (ptr gl) gd (flushT D L).2.2)∧Kept E w w':=by
 have hb:=(Below.refl w.heap.size w).alloc (Nat.le_refl _) (.cells #[ptr gx] 33);have BX:=Blok.new w 33 #[ptr gx];have HLT:=Lib.hid h.lt
 have h1:=h.turn api (E':=gl::(w.heap.size::E)) (B:=[]) (Touch.of_below hb) (fun b hb=>by cases hb) (fun b hm=>by
  rcases List.mem_cons.1 hm with e | hm
  ·rw[e];exact Or.inl List.mem_cons_self
  ·rcases List.mem_cons.1 hm with e | hm
   ·rw[e];exact Or.inr ⟨Nat.le_refl _,BX.lt⟩
   ·exact Or.inl (List.mem_cons_of_mem _ hm))
 have HK1:=Lib.hid (Kept.of_below hb (fun b hm=>HLT.out b (List.mem_cons_of_mem _ hm)));have LG1:=Blok.below hlg hb;obtain⟨gb,hgb⟩:∃ gb,w.heap.size=gb:=⟨_,rfl⟩
 rw[hgb] at h1 BX;obtain⟨w1,hw1⟩:∃ w1,w.alloc (.cells #[ptr gx] 33)=w1:=⟨_,rfl⟩
 rw[hw1] at h1 BX HK1 LG1
 have hgl2:gl ∉ gb::E:=fun hm=>by
  rcases List.mem_cons.1 hm with e | hm
  ·have:=HLT.out gl List.mem_cons_self;omega
  ·exact hgl hm
 have HFL:=h1.flush api nap LG1 hgl2 hlow wf hch
 have HL1:Hid (∀ (S':IxS) (D':DiskS) (E':List Nat) W,IxAt At w0 gd gx r S' D' E' W→W.cell? ⟨gx,0,none⟩=some (ptr gx)):=Lib.hid fun S' D' E' W hW=>by
  obtain⟨_,_,_,_,hM',_⟩:=hW;obtain⟨_,_,_,_,_,_,hC'⟩:=hM'.cells;exact hC'.cs.1
 have c0:=HL1.out _ _ _ _ h1;have hno:=Lib.hid (xnone_run c0);have b0:=BX.cell 0;have HBX:=Lib.hid BX;have HOK:=Lib.hid ok;have HLLOW:=Lib.hid (And.intro hgl2 hlow);generalize flushT D L=ft at *;obtain⟨f,D1,L1⟩:=ft;simp only at HFL wf1 hd1 hc1 hop ⊢;have HFL2:=Lib.hid HFL;clear h hlg hgl hlow wf hch LG1 h1 BX ok hgl2 HFL hb c0;go_enter Tryz.func10,Tryz.ntmps10;go_wp2_with fail;refine hno.out.mono ?_;rintro e w' ⟨rfl,rfl⟩;go_wp2_with fail;refine HFL2.out.mono ?_;rintro e w2 ⟨rfl,i2,l2,k2⟩;have HK2:=Lib.hid (HK1.out.trans (k2.less (fun b hb=>List.mem_cons_of_mem _ hb)));have HI2:=Lib.hid i2;have HL2:=Lib.hid l2;have B2:=k2.blok HBX.out List.mem_cons_self;have b0:=B2.cell 0;have HB2:=Lib.hid B2;clear i2 l2 k2 B2;by_cases hf:f=0
 case neg =>
  have t1:((f:Int) != 0)=true:=by simp;omega
  have HF:=Lib.hid (show ∀ t,flushI f D1 S t n pe L1.endp=(f,D1)∧flushIX f D1 S t n pe L1.endp=S from fun t=>⟨by unfold flushI;rw[if_pos hf],by unfold flushIX;rw[if_pos hf]⟩);have HF0:=Lib.hid hf;clear hf wf1 hd1 hc1 hn hn9 hr hl hpe hop;go_wp2;go_ret;refine⟨ByteArray.empty,Or.inr (Or.inl HF0.out), ?_⟩;rw[(HF.out _).1,(HF.out _).2]
  exact⟨rfl,HI2.out.less (fun b hb=>by
   rcases List.mem_cons.1 hb with e | hb
   ·rw[e];exact List.mem_cons_self
   ·exact List.mem_cons_of_mem _ (List.mem_cons_of_mem _ hb)),HL2.out,HK2.out⟩
 case pos =>
  subst hf;obtain⟨Fm,Gr,Gk,-,hM,-⟩:=HI2.out;obtain⟨gm,c8,hT⟩:=hM.tab;have HLEN:=Lib.hid (tlen_run hT);clear hM hT;by_cases hm0:S.mem=[]
  ·have HF:=Lib.hid (show ∀ t,flushI 0 D1 S t n pe L1.endp=(0,D1)∧flushIX 0 D1 S t n pe L1.endp=S from fun t=>⟨by unfold flushI;rw[if_neg (by decide),if_pos hm0],by unfold flushIX;rw[if_neg (by decide),if_pos hm0]⟩);have HM0:=Lib.hid hm0;rw[hm0] at HLEN;have HLEN2:=Lib.hid (show Calls Tryz.prog 35 #[mtp gm] w2 fun e w'=>e = .returned (.int .i64 0)∧w2=w' from HLEN.out);clear hm0 wf1 hd1 hc1 hn hn9 hr hl hpe hop HLEN;go_wp2_with fail;refine HLEN2.out.mono ?_;rintro e w' ⟨rfl,rfl⟩;go_wp2;go_ret;refine⟨ByteArray.empty,Or.inl HM0.out, ?_⟩;rw[(HF.out _).1,(HF.out _).2]
   exact⟨rfl,HI2.out.less (fun b hb=>by
    rcases List.mem_cons.1 hb with e | hb
    ·rw[e];exact List.mem_cons_self
    ·exact List.mem_cons_of_mem _ (List.mem_cons_of_mem _ hb)),HL2.out,HK2.out⟩
  ·have hlen0:((S.mem.length:Int)==0)=false:=by
    have:=List.length_pos_iff.2 hm0;simp;omega
   have hmem:∀ x∈S.mem,EntOk x:=HOK.out.ok;have htb:tbOk S.mem=true:=tbOk_of HOK.out.rise HOK.out.mayE;have HLIM:=Lib.hid (And.intro hl (And.intro hmem htb));have HM0:=Lib.hid hm0
   have HTD:Hid (∀ W,Below w2.heap.size w2 W→IxAt At w0 gd gx r S D1 (gl::(gb::E)) W∧Blok W gl 76 (logCells (ptr gl) gd L1)∧Blok W gb 33 #[ptr gx]∧W.cell? ⟨gx,8,none⟩=some (mtp gm)∧Kept E w W):=Lib.hid fun W hW =>
    ⟨HI2.out.below api hW,Blok.below HL2.out hW,Blok.below HB2.out hW,(hW.cell (p:=⟨gx,8,none⟩) (World.block_lt_of_cell? w2 _ c8)).trans c8,HK2.out.trans (Kept.of_below hW (fun b hb=>HI2.out.lt b (List.mem_cons_of_mem _ (List.mem_cons_of_mem _ hb))))⟩
   have HDMP:Hid (Calls Tryz.prog 37 #[mtp gm] w2.drew (EntsOut w2.drew S.mem)):=Lib.hid (by
    obtain⟨Fm,Gr,Gk,-,hM,-⟩:=(HI2.out).drew api;obtain⟨gm',c8',hT'⟩:=hM.tab
    have e:gm'=gm:=by
     have h1:w2.cell? ⟨gx,8,none⟩=some (mtp gm'):=c8';rw[c8] at h1;injection h1 with h1;injection h1 with h1;injection h1 with h1;injection h1 with h1;exact h1.symm
    rw[e] at hT';exact tdump_run hT'.has (by omega))
   obtain⟨nm,hnm⟩:∃ nm,nm=S.mem.length:=⟨_,rfl⟩
   have HNM:=Lib.hid hnm;rw[← hnm] at HLEN hlen0;unfold EntsOut at HDMP;rw[← hnm] at HDMP;have hS0:w2.drew.cell? ⟨gb,0,none⟩=some (ptr gx)∧w2.drew.cell? ⟨gx,8,none⟩=some (mtp gm):=⟨b0,c8⟩
   have hmf:∀ (fn:Fn) (first cap:Array Value) (w:World),(Instr.makeFunc fn first cap).run Tryz.prog w = .ok (.func fn first cap) w:=fun _ _ _ _=>rfl
   clear hm0 hl hmem htb hnm;go_wp2_with fail;refine HLEN.out.mono ?_;rintro e w' ⟨rfl,rfl⟩;go_wp2_with fail;have HEN:Hid (∀ W,Blok W gl 76 (logCells (ptr gl) gd L1)→Calls Tryz.prog 38 #[ptr gl] W fun e w'=>e = .returned (.int .i64 (L1.endp:Nat))∧W=w'):=Lib.hid fun W hW=>tend_run (hW.cell 0) (hW.cell 4)
   have hsm:=addL_small S.m.lv n
   have HLAY:Hid (∀ (A3:Option Addr) (c3:Nat) (W:World),Below w2.drew.heap.size w2.drew W→EntRow W w2.drew.heap.size (.slice A3 nm c3) S.mem→Calls Tryz.prog 36 #[ptr gx,.slice A3 nm c3,.int .i64 (L1.endp:Nat),.func (.func 39) #[] #[ptr gb]] W fun e w'=>∃ t,FltOf S.mem r t ∧
     IxEnd At w0 gd gx r (err (layI D1 n S.mem t pe (nextM S (addL S.m.lv n) L1.endp)).1) (layIX S D1 n S.mem t pe (addL S.m.lv n) L1.endp) (layI D1 n S.mem t pe (nextM S (addL S.m.lv n) L1.endp)).2 (ownL (.slice A3 nm c3)++(gl::(gb::E))) W e w'∧Same8 gx W w'):=Lib.hid fun A3 c3 W hW hrow=>by
    obtain⟨q1,q2,q3,q4,q5⟩:=HTD.out W ((Below.refl _ w2).drew.trans hW);have hro:=row_own hrow;have i3:IxAt At w0 gd gx r S D1 (ownL (.slice A3 nm c3)++(gl::(gb::E))) W:=(HI2.out.drew api).more api hW hro
    exact xlay_run api nap iap i3 wf1 hd1 hc1 n hn hn9 HOK.out.seed hr _ S.mem hrow.in_ (fun b hb=>List.mem_append_left _ hb) HLIM.out.1 HLIM.out.2.1 HLIM.out.2.2 _ _ #[ptr gb] (enters_of Tryz.func39 (by kernel_rfl) rfl) (addL S.m.lv n) pe
     (fun W' D' hi hk=>fplace_run hi HOK.out.may (hk.blok q3 (List.mem_append_right _ (List.mem_cons_of_mem _ List.mem_cons_self))) n pe hpe) (by omega) (by omega) hop (by have:=HOK.out.many_le;omega)
   have HF:Hid (∀ t,flushI 0 D1 S t n pe L1.endp=layI D1 n S.mem t pe (nextM S (addL S.m.lv n) L1.endp)∧flushIX 0 D1 S t n pe L1.endp=(if (layI D1 n S.mem t pe (nextM S (addL S.m.lv n) L1.endp)).1=0 then { layIX S D1 n S.mem t pe (addL S.m.lv n) L1.endp with mem:=[] } else layIX S D1 n S.mem t pe (addL S.m.lv n) L1.endp)):=Lib.hid fun t=>⟨by unfold flushI;rw[if_neg (by decide),if_neg HM0.out],by unfold flushIX;rw[if_neg (by decide),if_neg HM0.out]⟩
   have HSK:Hid (∀ W,Below w2.drew.heap.size w2.drew W→W.cell? ⟨gb,0,none⟩=some (ptr gx)∧W.cell? ⟨gx,8,none⟩=some (mtp gm)):=Lib.hid fun W hW=>by
    obtain⟨q1,q2,q3,q4,q5⟩:=HTD.out W ((Below.refl _ w2).drew.trans hW);exact⟨q3.cell 0,q4⟩
   clear hlen0 wf1 hd1 hc1 hn hn9 hr hpe hop b0 c8 hsm
   go_region_held3 (fun W=>W.cell? ⟨gb,0,none⟩=some (ptr gx)∧W.cell? ⟨gx,8,none⟩=some (mtp gm))
    (first | (with_reducible assumption) | fail)
    (first
    | (go_at_call 37;((with_reducible refine HDMP.out.mono ?_);rintro e w3 ⟨A3,c3,rfl,r3,b3⟩;have hS3:=HSK.out w3 b3;have HEN3:=Lib.hid (HEN.out w3 (HTD.out w3 ((Below.refl _ w2).drew.trans b3)).2.1);have HLAY3:=Lib.hid (HLAY.out A3 c3 w3 b3 r3)))
    | (go_at_call 38;((with_reducible refine HEN3.out.mono ?_);rintro e w4 ⟨rfl,rfl⟩))
    | (go_at_call 36;((with_reducible refine HLAY3.out.mono ?_);rintro e w5 ⟨t,hft,hi5,hs5⟩;have hS5:w5.cell? ⟨gb,0,none⟩=some (ptr gx)∧w5.cell? ⟨gx,8,none⟩=some (mtp gm):=⟨(hi5.2.2.blok (HTD.out w3 ((Below.refl _ w2).drew.trans b3)).2.2.1 (List.mem_append_right _ (List.mem_cons_of_mem _ List.mem_cons_self))).cell 0,Eq.trans hs5 hS3.2⟩;obtain⟨rfl,hi6,hk6⟩:=hi5))
    | fail)
   all_goals
    have HLG5:=Lib.hid (hk6.blok (HTD.out w3 ((Below.refl _ w2).drew.trans b3)).2.1 (List.mem_append_right _ List.mem_cons_self));have HK5:=Lib.hid ((HTD.out w3 ((Below.refl _ w2).drew.trans b3)).2.2.2.2.trans (hk6.less (fun b hb=>List.mem_append_right _ (List.mem_cons_of_mem _ (List.mem_cons_of_mem _ hb)))))
    have hi7:=hi6.less (E':=gl::E) (fun b hb=>by
     rcases List.mem_cons.1 hb with e | hb
     ·rw[e];exact List.mem_append_right _ List.mem_cons_self
     ·exact List.mem_append_right _ (List.mem_cons_of_mem _ (List.mem_cons_of_mem _ hb)))
    obtain⟨gm',c8',hclr⟩:=xclear_run api hi7
    have egm:gm'=gm:=by
     have h1:=hS5.2.symm.trans c8';injection h1 with h1;injection h1 with h1;injection h1 with h1;injection h1 with h1;exact h1.symm
    rw[egm] at hclr;have HCL:=Lib.hid hclr;have HI7:=Lib.hid hi7;have HFT:=Lib.hid (And.intro hft (HF.out t));obtain⟨b0,c8⟩:=hS5;clear hi6 hk6 hi7 hclr hft c8' egm hs5 hS3 r3 b3 HLAY3 HLAY HF HEN3 HTD HSK HDMP HEN HI2 HL2 HB2;generalize layIX S D1 n S.mem t pe (addL S.m.lv n) L1.endp=S' at *;generalize layI D1 n S.mem t pe (nextM S (addL S.m.lv n) L1.endp)=lp at *;obtain⟨lp1,D5⟩:=lp;by_cases hz:lp1=0
    ·subst hz;go_wp2_with fail;refine HCL.out.mono ?_;rintro e w6 ⟨rfl,i6,k6⟩;have H6:=Lib.hid (And.intro i6 (And.intro (k6.blok HLG5.out List.mem_cons_self) (HK5.out.trans (k6.less (fun b hb=>List.mem_cons_of_mem _ hb)))));clear i6 k6;go_wp2;go_ret;refine⟨t,(by first | exact Or.inr HFT.out.1 | exact Or.inr (Or.inr HFT.out.1)), ?_⟩;rw[HFT.out.2.1,HFT.out.2.2,if_pos (by trivial)];exact⟨rfl,H6.out.1,H6.out.2.1,H6.out.2.2⟩
    ·have t1:((lp1:Int)==0)=false:=by simp;omega
     have HZ:=Lib.hid hz;clear hz;go_wp2;go_ret;refine⟨t,(by first | exact Or.inr HFT.out.1 | exact Or.inr (Or.inr HFT.out.1)), ?_⟩;rw[HFT.out.2.1,HFT.out.2.2,if_neg HZ.out];exact⟨rfl,HI7.out,HLG5.out,HK5.out⟩
end
end Go.Proofs.YtokbfellcadkpaaGreat
namespace Go.Proofs.YtokbfellcadkpaaGreat
set_option maxRecDepth 100000
set_option linter.unusedVariables false
section
theorem pt_np {n:Nat}(h:n≤999999) : npOk (ptT n)=true∧npK (ptT n)=116∧npN (ptT n)=n∧npOk (ptB n)=true∧npK (ptB n)=98∧npN (ptB n)=n:=by
 obtain⟨a1,a2,a3⟩:=np_back (c:=116) (by decide) h;obtain⟨b1,b2,b3⟩:=np_back (c:=98) (by decide) h;exact⟨a1,a2,a3,b1,b2,b3⟩
theorem pt_inj {n m:Nat}(h:n≤999999)(k:m≤999999) : (ptT n=ptT m→n=m)∧(ptB n=ptB m→n=m):=by
 obtain⟨-,-,a3,-,-,b3⟩:=pt_np h;obtain⟨-,-,c3,-,-,d3⟩:=pt_np k;exact⟨fun e=>by rw[e] at a3;omega,fun e=>by rw[e] at b3;omega⟩
theorem map_np : npOk mapN=false:=by decide +kernel
theorem new_np : npOk newN=false:=by decide +kernel
theorem pt_far {n:Nat}(h:n≤999999) : ptT n≠mapN∧ptT n≠newN∧ptB n≠mapN∧ptB n≠newN:=by
 obtain⟨a1,-,-,b1,-,-⟩:=pt_np h;have m:=map_np;have w:=new_np;exact⟨fun e=>by rw[e,m] at a1;exact Bool.noConfusion a1,fun e=>by rw[e,w] at a1;exact Bool.noConfusion a1,fun e=>by rw[e,m] at b1;exact Bool.noConfusion b1,fun e=>by rw[e,w] at b1;exact Bool.noConfusion b1⟩
theorem pt_names (T:List TbS) : (T.flatMap fun t=>[ptT t.n,ptB t.n]).length=2*T.length:=by
 induction T with
 | nil=>rfl
 | cons t T ih =>
   rw[List.flatMap_cons,List.length_append,ih,List.length_cons];show 2+2*T.length=2*(T.length+1);omega
theorem not_named {D:DiskS}{n:ByteArray}(h:n ∉ namesS D) : fileOf D.l n=none:=fileOf_none.2 fun f hf e=>h (List.mem_map.2 ⟨f,hf,e⟩)
theorem laid_ok {D E:DiskS}{S:IxS}(ok:IxOk D S){n:Nat}(hn:S.m.next=(n:Nat)){R:LvL}{en:Int}(hM:MayM ⟨S.m.next+1,en,S.m.seed,R⟩){x:TbS}(hxn:x.n=n)(hxh:HasT E n x.l)(hxk:keepsP x.t x.l=true){P:Int→Prop}
  (hR:∀ y:Int,y∈R.flatten↔y=n∨(y∈S.m.lv.flatten∧P y)) (hf:∀ t∈stayT S.T R,fileOf E.l (ptT t.n)=fileOf D.l (ptT t.n)) {mem:List EntS} (hr:RiseE mem) (hok:∀ y∈mem,EntOk y) (hmy:∀ y∈mem,mayE y=true):IxOk E (laidX S R en x mem):=by
 have hst:∀ t:TbS,t∈stayT S.T R↔t∈S.T∧(t.n:Int)∈R.flatten:=fun t=>by unfold stayT;rw[List.mem_filter];simp
 refine⟨hM,ok.seed,fun y=>?_, ?_,fun t ht=>?_,fun t ht=>?_,hr,hok,hmy⟩
 ·show y∈R.flatten↔∃ t∈stayT S.T R++[x],(t.n:Int)=y;rw[hR];constructor
  ·rintro (rfl | ⟨q1,q2⟩)
   ·exact⟨x,List.mem_append_right _ (List.mem_singleton.2 rfl),by rw[hxn]⟩
   ·obtain⟨t,ht,rfl⟩:=(ok.nums y).1 q1;exact⟨t,List.mem_append_left _ ((hst t).2 ⟨ht,(hR _).2 (Or.inr ⟨q1,q2⟩)⟩),rfl⟩
  ·rintro ⟨t,ht,rfl⟩;rcases List.mem_append.1 ht with q | q
   ·exact(hR _).1 ((hst t).1 q).2
   ·rw[List.mem_singleton.1 q,hxn];exact Or.inl rfl
 ·show((stayT S.T R++[x]).map TbS.n).Nodup;rw[List.map_append];refine List.nodup_append.2 ⟨(List.Sublist.map _ List.filter_sublist).nodup ok.uniq,by simp,fun a ha b hb e=>?_⟩;obtain⟨t,ht,rfl⟩:=List.mem_map.1 ha;have:=(ok.num_le ((hst t).1 ht).1).2;have hb':b=x.n:=by simpa using hb
  omega
 ·rcases List.mem_append.1 ht with q | q
  ·obtain⟨f,h1,h2,h3⟩:=ok.has t ((hst t).1 q).1;exact⟨f,by rw[hf t q];exact h1,h2,h3⟩
  ·rw[List.mem_singleton.1 q,hxn];exact hxh
 ·rcases List.mem_append.1 ht with q | q
  ·exact ok.keep t ((hst t).1 q).1
  ·rw[List.mem_singleton.1 q];exact hxk
theorem del_one {D:DiskS}(h:UpD D)(hd:(namesS D).Nodup)(n:ByteArray) : ∃ e E,deleteS D n=(e,E)∧goneP e=true∧UpD E∧StaysD D E∧usedS E.l≤usedS D.l∧(namesS E).Nodup∧(∀ k,k∈namesS E↔k∈namesS D∧k≠n)∧∀ k,k≠n→fileOf E.l k=fileOf D.l k:=by
 cases hf:fileOf D.l n with
 | none =>
   refine⟨4,D,deleteS_no h.down hf,rfl,h,StaysD.refl D,Nat.le_refl _,hd,fun k=>⟨fun hk=>⟨hk,fun e=>?_⟩,fun hk=>hk.1⟩,fun k _=>rfl⟩;obtain⟨f,h1,h2⟩:=List.mem_map.1 hk;exact fileOf_none.1 hf f h1 (h2.trans e)
 | some f =>
   obtain⟨E,e1,u1,c1,p1,l1,s1,z1,o1⟩:=deleteS_of h hf;have st:=sd_delete D n;rw[e1] at st
   have hn:namesS E=(namesS D).filter (fun x=>!decide (x=n)):=by
    show E.l.map FileS.name=_;rw[l1];exact drop_names n D.l hd
   refine⟨0,E,e1,rfl,u1,st,by omega,by rw[hn];exact List.Pairwise.filter _ hd,fun k=>?_,o1⟩;rw[hn,List.mem_filter];simp
structure Dropped (D E:DiskS)(ns:List Int) : Prop where
 up:UpD E
 stays:StaysD D E
 used:usedS E.l≤usedS D.l
 nodup:(namesS E).Nodup
 names:∀ k,k∈namesS E↔k∈namesS D∧∀ n∈ns,k≠ptT n∧k≠ptB n
 other:∀ k,(∀ n∈ns,k≠ptT n∧k≠ptB n)→fileOf E.l k=fileOf D.l k
theorem drop_one {D:DiskS}(h:UpD D)(hd:(namesS D).Nodup)(n:Int) : ∃ E,dropP D n=(0,E)∧Dropped D E [n]:=by
 obtain⟨e1,E1,h1,g1,u1,s1,z1,d1,n1,o1⟩:=del_one h hd (ptT n);obtain⟨e2,E2,h2,g2,u2,s2,z2,d2,n2,o2⟩:=del_one u1 d1 (ptB n);refine⟨E2, ?_,u2,s1.trans s2,by omega,d2,fun k=>?_,fun k hk=>?_⟩
 ·unfold dropP;rw[h1];simp only;rw[if_neg (by rw[g1];decide),h2];simp only;rw[if_neg (by rw[g2];decide)]
 ·rw[n2,n1];simp only[List.mem_singleton,forall_eq];exact⟨fun q=>⟨q.1.1,q.1.2,q.2⟩,fun q=>⟨⟨q.1,q.2.1⟩,q.2.2⟩⟩
 ·obtain⟨q1,q2⟩:=hk n List.mem_cons_self;rw[o2 k q2,o1 k q1]
structure LaidT (D E:DiskS)(n:Nat)(l:List EntS)(t:ByteArray)(m:ManS) : Prop where
 up:UpD E
 starts:E.starts=D.starts
 cap:E.cap=D.cap
 count:E.count≤D.count+2
 used:usedS E.l≤usedS D.l+t.size+(tbB l).size+(mfB m).size
 has:HasT E n l
 names:∀ k∈namesS E,k=mapN∨k=ptT n∨k=ptB n∨k∈namesS D
 other:∀ k,k≠mapN→k≠newN→k≠ptT n→k≠ptB n→fileOf E.l k=fileOf D.l k
theorem opens_yes {D:DiskS}{n:Int}{l:List EntS}(hd:D.down=false)(h:HasT D n l) : openE D n=0∧tgL (rdW D (ptT n)).1=l:=by
 obtain⟨f,h1,h2,h3⟩:=h;unfold openE;rw[rdW_of hd h1,if_neg (by rw[hd];decide)];simp[h2,h3]
theorem write_names {D E:DiskS}{n:Nat}{l:List EntS}{t:ByteArray}(h:writeP D n l t=(0,E))(hd:(namesS D).Nodup)(w:Wrote D E n l t) : (namesS E).Nodup∧StaysD D E∧∀ k∈namesS E,k=ptT n∨k=ptB n∨k∈namesS D:=by
 have e:E=(layP (layP D (ptB n) t).2 (ptT n) (tbB l)).2:=by
  unfold writeP at h;split at h
  ·cases h
  ·split at h
   ·cases h
   ·split at h
    ·cases h
    ·split at h
     ·rename_i c;exact absurd (by rw[h]) c
     ·split at h
      ·rename_i c;exact absurd (congrArg Prod.fst h) c
      ·rw[h]
 rw[e];refine⟨lay_nodup (lay_nodup hd),(sd_lay _ _ _).trans (sd_lay _ _ _),fun k hk=>?_⟩;rcases lay_name hk with q | q
 ·exact Or.inl q
 ·rcases lay_name q with q | q
  ·exact Or.inr (Or.inl q)
  ·exact Or.inr (Or.inr q)
theorem nd_done {D:DiskS}{l:List FileS}(h:(namesS D).Nodup)(k:(l.map FileS.name).Nodup) : (namesS (doneS D { D with l:=l }).2).Nodup:=by
 unfold doneS;split
 ·exact k
 ·rw[names_sink];exact h
theorem nd_delete {D:DiskS}(h:(namesS D).Nodup)(n:ByteArray) : (namesS (deleteS D n).2).Nodup:=by
 unfold deleteS;split
 ·exact h
 ·split
  ·exact nd_done h (drop_nodup h)
  ·exact h
theorem clear_nodup {l:List FileS}(n:ByteArray)(h:(l.map FileS.name).Nodup) : ((clearL l n).map FileS.name).Nodup:=by
 unfold clearL;split
 ·exact drop_nodup h
 ·exact h
theorem layS_nodup {l:List FileS}{f:FileS}(h:(l.map FileS.name).Nodup)(hn:fileOf l f.name=none) : ((layS l f).map FileS.name).Nodup:=by
 have hp:((layS l f).map FileS.name).Perm (f.name::l.map FileS.name):=by
  unfold layS;generalize aheadS l f.name=k;have e:l.map FileS.name=(l.take k).map FileS.name++(l.drop k).map FileS.name:=by rw[← List.map_append,List.take_append_drop]
  rw[e,List.map_append,List.map_append];show((l.take k).map FileS.name++[f.name]++(l.drop k).map FileS.name).Perm _;rw[List.append_assoc];exact List.perm_middle
 refine hp.nodup_iff.2 (List.nodup_cons.2 ⟨fun hm=>?_,h⟩);obtain⟨g,hg,en⟩:=List.mem_map.1 hm;exact fileOf_none.1 hn g hg en
theorem nd_rename {D:DiskS}(h:(namesS D).Nodup)(n m:ByteArray) : (namesS (renameS D n m).2).Nodup:=by
 unfold renameS;split
 ·exact h
 ·split
  ·split
   ·exact h
   ·refine nd_done h ?_;split
    ·exact h
    ·cases hk:D.l[findS D.l n]? with
     | none =>
       unfold renameL;rw[hk];exact h
     | some f =>
       rw[renameL_at hk];exact layS_nodup (clear_nodup m (drop_nodup h)) (clear_none (drop_nodup h))
  ·exact h
theorem nd_swap {D:DiskS}(h:(namesS D).Nodup)(m:ManS) : (namesS (swapP D m).2).Nodup:=by
 unfold swapP;split
 ·exact h
 ·split
  ·exact h
  ·split
   ·exact nd_delete h _
   ·split
    ·exact nd_delete h _
    ·split
     ·exact lay_nodup (nd_delete h _)
     ·exact nd_rename (lay_nodup (nd_delete h _)) _ _
theorem isC_np {x:ByteArray}(h:isC x=true) : npOk x=true∧npK x=99:=by
 unfold isC at h;rw[Bool.and_eq_true] at h;exact⟨h.1,by simpa using h.2⟩
theorem isC_far {x:ByteArray}(h:isC x=true) : x≠mapN∧x≠newN∧∀ n:Nat,n≤999999→x≠ptT n∧x≠ptB n:=by
 obtain⟨h1,h2⟩:=isC_np h;have m:=map_np;have w:=new_np;refine⟨fun e=>?_,fun e=>?_,fun n hn=>?_⟩
 ·rw[e,m] at h1;exact Bool.noConfusion h1
 ·rw[e,w] at h1;exact Bool.noConfusion h1
 ·obtain⟨-,a2,-,-,b2,-⟩:=pt_np hn;refine⟨fun e=>?_,fun e=>?_⟩
  ·rw[e,a2] at h2;exact absurd h2 (by decide)
  ·rw[e,b2] at h2;exact absurd h2 (by decide)
structure SxDk (X:List ByteArray)(D:DiskS)(S:IxS) : Prop where
 up:UpD D
 nodup:(namesS D).Nodup
 only:∀ n∈namesS D,n=mapN∨n∈X∨∃ t∈S.T,n=ptT t.n∨n=ptB t.n
 logs:∀ x∈X,isC x=true
 few:X.length≤200
theorem SxDk.many {X:List ByteArray}{D:DiskS}{S:IxS}(h:SxDk X D S)(ok:IxOk D S) : D.l.length≤281:=by
 have h1:=nodup_len (b:=mapN::(X++S.T.flatMap fun t=>[ptT t.n,ptB t.n])) h.nodup (fun n hn=>by
  rcases h.only n hn with e | e | ⟨t,ht,e⟩
  ·rw[e];exact List.mem_cons_self
  ·exact List.mem_cons_of_mem _ (List.mem_append_left _ e)
  ·refine List.mem_cons_of_mem _ (List.mem_append_right _ (List.mem_flatMap.2 ⟨t,ht, ?_⟩));rcases e with e | e<;>rw[e]<;>simp)
 have h2:(namesS D).length=D.l.length:=List.length_map _;rw[List.length_cons,List.length_append,pt_names] at h1;have:=ok.many_le;have:=h.few;omega
theorem SxDk.none_ {X:List ByteArray}{D:DiskS}{S:IxS}(h:SxDk X D S)(ok:IxOk D S) : fileOf D.l newN=none∧∀ n:Nat,n≤999999→S.m.next≤n→fileOf D.l (ptT n)=none∧fileOf D.l (ptB n)=none:=by
 refine⟨not_named fun hm=>?_,fun n hn hx=>⟨not_named fun hm=>?_,not_named fun hm=>?_⟩⟩
 ·rcases h.only _ hm with e | e | ⟨t,ht,e⟩
  ·exact map_new e.symm
  ·exact(isC_far (h.logs _ e)).2.1 rfl
  ·have:=(ok.num_le ht).1;have:=pt_far (n:=t.n) (by omega);rcases e with e | e
   ·exact this.2.1 e.symm
   ·exact this.2.2.2 e.symm
 ·rcases h.only _ hm with e | e | ⟨t,ht,e⟩
  ·exact(pt_far hn).1 e
  ·exact((isC_far (h.logs _ e)).2.2 n hn).1 rfl
  ·have h2:=ok.num_le ht;rcases e with e | e
   ·have:=(pt_inj hn (by omega)).1 e;omega
   ·exact pt_ne (by omega) hn e.symm
 ·rcases h.only _ hm with e | e | ⟨t,ht,e⟩
  ·exact(pt_far hn).2.2.1 e
  ·exact((isC_far (h.logs _ e)).2.2 n hn).2 rfl
  ·have h2:=ok.num_le ht;rcases e with e | e
   ·exact pt_ne hn (by omega) e
   ·have:=(pt_inj hn (by omega)).2 e;omega
theorem SxDk.count {X:List ByteArray}{D:DiskS}{S:IxS}(h:SxDk X D S)(k:Nat) : SxDk X { D with count:=k } S:=⟨h.up.count k,h.nodup,h.only,h.logs,h.few⟩
structure SameX (D E:DiskS) : Prop where
 up:UpD E
 nodup:(namesS E).Nodup
 starts:E.starts=D.starts
 cap:E.cap=D.cap
 count:E.count≤D.count+2
 used:usedS E.l≤usedS D.l
 names:∀ k∈namesS E,k∈namesS D
 files:∀ k,fileOf E.l k=fileOf D.l k
theorem SameX.refl {D:DiskS}(h:UpD D)(hd:(namesS D).Nodup) : SameX D D:=⟨h,hd,rfl,rfl,by omega,Nat.le_refl _,fun k hk=>hk,fun k=>rfl⟩
theorem SameX.ok {D E:DiskS}{S:IxS}(h:SameX D E)(ok:IxOk D S) : IxOk E S:=by
 refine⟨ok.may,ok.seed,ok.nums,ok.uniq,fun u hu=>?_,ok.keep,ok.rise,ok.ok,ok.mayE⟩;obtain⟨f,h1,h2,h3⟩:=ok.has u hu;exact⟨f,by rw[h.files];exact h1,h2,h3⟩
theorem SameX.dk {X:List ByteArray}{D E:DiskS}{S:IxS}(h:SameX D E)(k:SxDk X D S) : SxDk X E S:=⟨h.up,h.nodup,fun n hn=>k.only n (h.names n hn),k.logs,k.few⟩
theorem swap_no {D:DiskS}(h:UpD D){m:ManS}(hm:MayM m)(hnew:fileOf D.l newN=none)(hr:D.cap<usedS D.l+(mfB m).size+6000) : swapP D m=(60,D):=by
 unfold swapP;rw[if_neg (by simpa using hm),if_neg (by simp[h.down]),deleteS_no h.down hnew];simp only;rw[if_neg (by decide),if_pos (by omega)]
theorem wrote_dropped {D E1:DiskS}{n:Nat}(hn:n≤999999){l:List EntS}{t:ByteArray}(hd:(namesS D).Nodup)(k3:fileOf D.l (ptT n)=none)(k4:fileOf D.l (ptB n)=none)(e1:writeP D n l t=(0,E1))(w1:Wrote D E1 n l t)(j:Nat)(hj:j≤2) :
  ∃ E,dropP { E1 with count:=E1.count+j } (n:Nat)=(0,E)∧SameX D E:=by
 obtain⟨d1,s1,n1⟩:=write_names e1 hd w1;obtain⟨E2,e2,d2⟩:=drop_one (D:={ E1 with count:=E1.count+j }) (w1.up.count _) d1 (n:Nat);obtain⟨E3,e3,u3,c3,p3,l3,z3⟩:=dropP_both (D:={ E1 with count:=E1.count+j }) (w1.up.count _) (n:=n) hn w1.table w1.bloom;obtain rfl:E2=E3:=congrArg Prod.snd (e2.symm.trans e3);have hw:=w1.used;simp only at z3 p3;refine⟨E2,e2,d2.up,d2.nodup,d2.stays.starts.trans s1.starts,c3.trans w1.cap,by rw[p3,w1.count];omega,by omega,fun k hk=>?_,fun k=>?_⟩
 ·obtain⟨b1,b2⟩:=(d2.names k).1 hk;obtain⟨b3,b4⟩:=b2 _ List.mem_cons_self;rcases n1 k b1 with e | e | e
  ·exact absurd e b3
  ·exact absurd e b4
  ·exact e
 ·have gone:∀ q:ByteArray,(q=ptT n∨q=ptB n)→fileOf E2.l q=none:=fun q hq=>not_named fun hm=>by
   obtain⟨b3,b4⟩:=((d2.names q).1 hm).2 _ List.mem_cons_self;rcases hq with e | e
   ·exact b3 e
   ·exact b4 e
  by_cases c1:k=ptT n
  ·rw[gone k (Or.inl c1),c1,k3]
  ·by_cases c2:k=ptB n
   ·rw[gone k (Or.inr c2),c2,k4]
   ·rw[d2.other k (fun m hm=>by rw[List.mem_singleton.1 hm];exact⟨c1,c2⟩)];exact w1.other k c1 c2
structure LaidX (D E:DiskS)(n:Nat)(l:List EntS)(t:ByteArray)(m:ManS) : Prop where
 laid:LaidT D E n l t m
 map:fileOf E.l mapN=some ⟨mapN,mfB m,(mfB m).size⟩
 new_ : fileOf E.l newN=none
 nodup:(namesS E).Nodup
theorem lay_any {X:List ByteArray}{D:DiskS}{S:IxS}(dk:SxDk X D S)(ok:IxOk D S){n:Nat}(hn:S.m.next=(n:Nat))(hn9:n≤999999){l:List EntS}(hr:RiseE l)(hm:∀ x∈l,mayE x=true)(hx:∀ x∈l,EntOk x)(hl:l.length≤10000)(t:ByteArray)
  {R:LvL} {en:Int} (hM:MayM (nextM S R en)) (pe:Nat) :
  (pe=0∧∃ E x,layI D n l t pe (nextM S R en)=(0,E)∧layIX S D n l t pe R en=laidX S R en x S.mem∧x.n=n∧x.l=l∧keepsP x.t x.l=true∧LaidX D E n l t (nextM S R en)) ∨
  (∃ e E,layI D n l t pe (nextM S R en)=(e,E)∧e≠0∧(e=60∨e=pe)∧(pe≠0∨D.cap<usedS D.l+t.size+(tbB l).size+6190)∧layIX S D n l t pe R en=S∧SameX D E):=by
 have hok:=tbOk_of hr hm;obtain⟨k1,k2⟩:=dk.none_ ok;obtain⟨k3,k4⟩:=k2 n hn9 (by omega);have hmany:=dk.many ok;by_cases hroom:usedS D.l+t.size+(tbB l).size+6000≤D.cap
 ·obtain⟨E1,e1,w1⟩:=write_ok dk.up (n:=n) hn9 hok (t:=t) (by omega) k3 k4 hroom;obtain⟨d1,s1,n1⟩:=write_names e1 dk.nodup w1;have hh:=w1.has (by omega) hx hok;obtain⟨o1,o2⟩:=opens_yes w1.up.down hh;obtain⟨j,hj,o3⟩:=(openE_same E1 E1.count (n:Nat) w1.up.down).2;have o3':openD E1 (n:Nat)={ E1 with count:=E1.count+j }:=o3;have hnew:fileOf E1.l newN=none:=by rw[w1.other newN (fun e=>(pt_far (n:=n) hn9).2.1 e.symm) (fun e=>(pt_far (n:=n) hn9).2.2.2 e.symm)];exact k1
  have back:∀ (i:Nat) (e:Nat),i≤2→e≠0→(e=60∨e=pe)→(pe≠0∨D.cap<usedS D.l+t.size+(tbB l).size+6190)→takeP E1 n pe (nextM S R en)=(e, { E1 with count:=E1.count+i }) →
    ∃ e E,layI D n l t pe (nextM S R en)=(e,E)∧e≠0∧(e=60∨e=pe)∧(pe≠0∨D.cap<usedS D.l+t.size+(tbB l).size+6190)∧layIX S D n l t pe R en=S∧SameX D E:=by
   intro i e hi he hee hwhy et;obtain⟨E2,e2,s2⟩:=wrote_dropped hn9 dk.nodup k3 k4 e1 w1 i hi;refine⟨e,E2, ?_,he,hee,hwhy, ?_,s2⟩
   ·unfold layI;rw[e1];simp only;rw[if_neg (by decide),et];simp only;rw[if_pos he,e2]
   ·unfold layIX;rw[e1];simp only;rw[if_neg (by decide)];unfold takeX;rw[et];exact if_neg he
  by_cases hpe:pe=0
  ·subst hpe;by_cases hroom2:usedS E1.l+(mfB (nextM S R en)).size+6000≤E1.cap
   ·refine Or.inl ⟨rfl, ?_⟩;obtain⟨E2,e2,u2,s2,q2,l2,f2,g2,h2,x2⟩:=swap_ok (D:={ E1 with count:=E1.count+j }) (w1.up.count _) d1 hM hnew (by show E1.l.length<_;rw[w1.many];omega) hroom2
    have et:takeP E1 n 0 (nextM S R en)=(0,E2):=by
     unfold takeP;rw[if_neg (by decide),if_neg (by rw[o1];decide),o3'];exact e2
    have hw:=w1.used
    have hnd:(namesS E2).Nodup:=by
     have:=nd_swap (D:={ E1 with count:=E1.count+j }) d1 (nextM S R en);rw[e2] at this;exact this
    refine⟨E2,tabP E1 n, ?_, ?_,rfl,o2, ?_,⟨u2,(s2.starts.trans s1.starts),(s2.cap.trans w1.cap), ?_, ?_, ?_,fun k hk=>?_,fun k a b c d=>?_⟩,f2,g2,hnd⟩
    ·unfold layI;rw[e1];simp only;rw[if_neg (by decide),et];simp
    ·unfold layIX;rw[e1];simp only;rw[if_neg (by decide)];unfold takeX;rw[et];simp
    ·show keepsP (ldF _ _ _) _=true;exact ldF_keeps _ _ _
    ·have:=s2.count;have:=w1.count;show E2.count≤_;simp only at *;omega
    ·show usedS E2.l≤_;simp only at q2;omega
    ·obtain⟨f,a1,a2,a3⟩:=hh;exact⟨f,by rw[h2 _ (fun e=>(pt_far (n:=n) hn9).1 e) (fun e=>(pt_far (n:=n) hn9).2.1 e)];exact a1,a2,a3⟩
    ·rcases x2 k hk with e | e
     ·exact Or.inl e
     ·rcases n1 k e with e | e | e
      ·exact Or.inr (Or.inl e)
      ·exact Or.inr (Or.inr (Or.inl e))
      ·exact Or.inr (Or.inr (Or.inr e))
    ·rw[h2 k a b];exact w1.other k c d
   ·refine Or.inr (back j 60 hj (by decide) (Or.inl rfl) (Or.inr (by have:=w1.used;have:=w1.cap;have:=mfB_small hM;omega)) ?_);unfold takeP;rw[if_neg (by decide),if_neg (by rw[o1];decide),o3'];exact swap_no (D:={ E1 with count:=E1.count+j }) (w1.up.count _) hM hnew (by show E1.cap<usedS E1.l+_+_;omega)
  ·refine Or.inr (back 0 pe (by omega) hpe (Or.inr rfl) (Or.inl hpe) ?_);unfold takeP;rw[if_pos hpe];rfl
 ·have e1:=write_full dk.up (n:=n) hn9 hok (t:=t) (by omega);refine Or.inr ⟨60,D, ?_,by decide,Or.inl rfl,Or.inr (by omega), ?_,SameX.refl dk.up dk.nodup⟩
  ·unfold layI;rw[e1];simp
  ·unfold layIX;rw[e1];simp
structure SxOk (X:List ByteArray)(D E:DiskS)(S S':IxS) : Prop where
 ok:IxOk E S'
 dk:SxDk X E S'
 has:∀ x,IxHas S' x↔IxHas S x
 tabs:∀ x,(∃ t∈S.T,x∈t.l)→∃ t∈S'.T,x∈t.l
 starts:E.starts=D.starts
 cap:E.cap=D.cap
 other:∀ k,isC k=true→fileOf E.l k=fileOf D.l k
theorem SameX.step {X:List ByteArray}{D E:DiskS}{S:IxS}(h:SameX D E)(dk:SxDk X D S)(ok:IxOk D S) : SxOk X D E S S:=⟨h.ok ok,h.dk dk,fun x=>Iff.rfl,fun x hx=>hx,h.starts,h.cap,fun k _=>h.files k⟩
theorem sx_laid {X:List ByteArray}{D E1 E:DiskS}{S:IxS}(dk:SxDk X D S)(ok:IxOk D S){n:Nat}(hn:S.m.next=(n:Nat))(hn9:n≤999999){l:List EntS}{t:ByteArray}{R:LvL}{en:Int}(hM:MayM (nextM S R en)){x:TbS}(xn:x.n=n)(xl:x.l=l)(xk:keepsP x.t x.l=true)
  (L:LaidX D E1 n l t (nextM S R en)) {ns:List Int} (d3:Dropped E1 E ns) (hR:∀ y:Int,y∈R.flatten↔y=n∨(y∈S.m.lv.flatten∧y ∉ ns)) (hns:∀ y∈ns,y∈S.m.lv.flatten)
  {mem:List EntS} (hr:RiseE mem) (hok:∀ y∈mem,EntOk y) (hmy:∀ y∈mem,mayE y=true) (hhas:∀ y,IxHas (laidX S R en x mem) y↔IxHas S y) (htab:∀ y,(∃ u∈S.T,y∈u.l)→∃ u∈(laidX S R en x mem).T,y∈u.l) :
  SxOk X D E S (laidX S R en x mem)∧fileOf E.l mapN=some ⟨mapN,mfB (nextM S R en),(mfB (nextM S R en)).size⟩:=by
 have hst:∀ u:TbS,u∈stayT S.T R↔u∈S.T∧(u.n:Int) ∉ ns:=fun u=>by
  unfold stayT;rw[List.mem_filter,decide_eq_true_iff,hR];constructor
  ·rintro ⟨h1,h2 | h2⟩
   ·have:=(ok.num_le h1).2;omega
   ·exact⟨h1,h2.2⟩
  ·rintro ⟨h1,h2⟩;exact⟨h1,Or.inr ⟨(ok.nums _).2 ⟨u,h1,rfl⟩,h2⟩⟩
 have hpn:∀ y∈ns,∃ j:Nat,y=(j:Nat)∧j<n:=fun y hy=>by
  obtain⟨u,h1,rfl⟩:=(ok.nums y).1 (hns y hy);exact⟨u.n,rfl,by have:=(ok.num_le h1).2;omega⟩
 have hfar:∀ j:Nat,j≤999999→(j:Int) ∉ ns→∀ y∈ns,(ptT j≠ptT y∧ptT j≠ptB y)∧ptB j≠ptT y∧ptB j≠ptB y:=fun j hj hnj y hy=>by
  obtain⟨i,rfl,hi⟩:=hpn y hy;exact⟨⟨fun e=>by have:=(pt_inj hj (by omega)).1 e;subst this;exact hnj hy,fun e=>pt_ne (by omega) hj e.symm⟩,fun e=>pt_ne hj (by omega) e,fun e=>by have:=(pt_inj hj (by omega)).2 e;subst this;exact hnj hy⟩
 have hnn:((n:Nat):Int) ∉ ns:=fun hm=>by
  obtain⟨i,e,hi⟩:=hpn _ hm;omega
 have hmf:∀ y∈ns,mapN≠ptT y∧mapN≠ptB y:=fun y hy=>by
  obtain⟨i,rfl,hi⟩:=hpn y hy;have:=pt_far (n:=i) (by omega);exact⟨fun e=>this.1 e.symm,fun e=>this.2.2.1 e.symm⟩
 refine⟨⟨?_,⟨d3.up,d3.nodup,fun q hq=>?_,dk.logs,dk.few⟩,hhas,htab,d3.stays.starts.trans L.laid.starts,d3.stays.cap.trans L.laid.cap,fun k hk=>?_⟩,by rw[d3.other _ hmf];exact L.map⟩
 ·refine laid_ok ok hn hM xn ?_ xk (P:=fun y=>y ∉ ns) hR (fun u hu=>?_) hr hok hmy
  ·rw[xl];obtain⟨f,b1,b2,b3⟩:=L.laid.has;exact⟨f,by rw[d3.other _ (fun y hy=>(hfar n hn9 hnn y hy).1)];exact b1,b2,b3⟩
  ·obtain⟨hu1,hu2⟩:=(hst u).1 hu;have h2:=ok.num_le hu1;have hun:u.n≤999999:=by omega
   have:=pt_far hun;rw[d3.other _ (fun y hy=>(hfar u.n hun hu2 y hy).1)];exact L.laid.other _ this.1 this.2.1 (fun e=>by have:=(pt_inj hun hn9).1 e;omega) (fun e=>pt_ne hn9 hun e.symm)
 ·show q=mapN∨q∈X∨∃ u∈stayT S.T R++[x],q=ptT u.n∨q=ptB u.n;obtain⟨h1,h2⟩:=(d3.names q).1 hq;rcases L.laid.names q h1 with e | e | e | e
  ·exact Or.inl e
  ·exact Or.inr (Or.inr ⟨x,List.mem_append_right _ (List.mem_singleton.2 rfl),Or.inl (by rw[xn];exact e)⟩)
  ·exact Or.inr (Or.inr ⟨x,List.mem_append_right _ (List.mem_singleton.2 rfl),Or.inr (by rw[xn];exact e)⟩)
  ·rcases dk.only q e with e | e | ⟨u,hu,e⟩
   ·exact Or.inl e
   ·exact Or.inr (Or.inl e)
   ·refine Or.inr (Or.inr ⟨u,List.mem_append_left _ ((hst u).2 ⟨hu,fun hm=>?_⟩),e⟩);obtain⟨b1,b2⟩:=h2 _ hm;rcases e with e | e
    ·exact b1 e
    ·exact b2 e
 ·obtain⟨f1,f2,f3⟩:=isC_far hk
  rw[d3.other k (fun y hy=>by
   obtain⟨i,rfl,hi⟩:=hpn y hy;exact f3 i (by omega))]
  exact L.laid.other k f1 f2 (f3 n hn9).1 (f3 n hn9).2
theorem sflush_any {X:List ByteArray}{D:DiskS}{S:IxS}(dk:SxDk X D S)(ok:IxOk D S){n:Nat}(hn:S.m.next=(n:Nat))(hn9:n≤999999)(hl:S.mem.length≤10000)(t:ByteArray){en:Int}(he0:0≤en)(he1:en≤2147483647){pe:Nat}(hpe:addLE S.m.lv n=(pe:Nat)) :
  ∃ e E S',flushI 0 D S t n pe en=(e,E)∧flushIX 0 D S t n pe en=S'∧SxOk X D E S S'∧E.count≤D.count+2∧S'.m.seed=S.m.seed ∧
   ((e=0∧S.mem=[]∧S'=S∧E=D) ∨
    (e=0∧S.mem≠[]∧S'.mem=[]∧S'.m=nextM S (addL S.m.lv n) en∧S'.T.length=S.T.length+1∧fileOf E.l mapN=some ⟨mapN,mfB S'.m,(mfB S'.m).size⟩∧usedS E.l≤usedS D.l+t.size+(tbB S.mem).size+190) ∨
    (e=60∧S.mem≠[]∧S'=S∧SameX D E∧(S.T.length=40∨D.cap<usedS D.l+t.size+(tbB S.mem).size+6190))):=by
 by_cases hq:S.mem=[]
 ·refine⟨0,D,S, ?_, ?_,(SameX.refl dk.up dk.nodup).step dk ok,by omega,rfl,Or.inl ⟨rfl,hq,rfl,rfl⟩⟩
  ·unfold flushI;rw[if_neg (by decide),if_pos hq]
  ·unfold flushIX;rw[if_neg (by decide),if_pos hq]
 ·have hmx:=ok.may;have hpp:=addLE_parts hmx.2.2.2.2.1 (n:=(n:Nat)) (by omega) (fun x hx=>by have:=hmx.2.2.2.2.2 x hx;omega)
  have hp60:pe=0∨(pe=60∧S.T.length=40):=by
   rw[hpe] at hpp;split at hpp
   ·rename_i c;exact Or.inr ⟨by omega,by rw[ok.many];exact c⟩
   ·exact Or.inl (by omega)
  have hfI:flushI 0 D S t n pe en=layI D n S.mem t pe (nextM S (addL S.m.lv n) en):=by unfold flushI;rw[if_neg (by decide),if_neg hq]
  rcases hp60 with rfl | ⟨rfl,h40⟩
  ·have hpe0:addLE S.m.lv n=0:=hpe;obtain⟨a1,a2,-⟩:=addL_ok hpe0;have a3:=fun y=>addL_mem hpe0 y
   have hM:MayM (nextM S (addL S.m.lv n) en):=⟨by show 0≤S.m.next+1;omega,by show S.m.next+1≤_;omega,he0,he1,a1,fun y hy=>by
    show y<S.m.next+1;rcases(a3 y).1 hy with e | e
    ·omega
    ·have:=hmx.2.2.2.2.2 y e;omega⟩
   rcases lay_any dk ok hn hn9 ok.rise ok.mayE ok.ok hl t hM 0 with⟨-,E,x,e1,e2,xn,xl,xk,L⟩ | ⟨e,E,e1,e0,ee,why,e2,sm⟩
   ·have hst:∀ u∈S.T,u∈stayT S.T (addL S.m.lv n):=fun u hu=>List.mem_filter.2 ⟨hu,decide_eq_true ((a3 _).2 (Or.inr ((ok.nums _).2 ⟨u,hu,rfl⟩)))⟩
    obtain⟨hS,hmap⟩:=sx_laid (mem:=[]) dk ok hn hn9 hM xn xl xk L (ns:=[]) ⟨L.laid.up,StaysD.refl _,Nat.le_refl _,L.nodup,fun k=>by simp,fun k _=>rfl⟩ (fun y=>by rw[a3 y];simp) (fun y hy=>by cases hy)
     List.Pairwise.nil (fun y hy=>by cases hy) (fun y hy=>by cases hy) (fun y=>by
      unfold IxHas;show(y∈[]∨∃ u∈stayT S.T (addL S.m.lv n)++[x],y∈u.l)↔_;constructor
      ·rintro (q | ⟨u,hu,q⟩)
       ·cases q
       ·rcases List.mem_append.1 hu with k | k
        ·exact Or.inr ⟨u,(List.mem_filter.1 k).1,q⟩
        ·rw[List.mem_singleton.1 k,xl] at q;exact Or.inl q
      ·rintro (q | ⟨u,hu,q⟩)
       ·exact Or.inr ⟨x,List.mem_append_right _ (List.mem_singleton.2 rfl),by rw[xl];exact q⟩
       ·exact Or.inr ⟨u,List.mem_append_left _ (hst u hu),q⟩)
     (fun y=>by
      rintro ⟨u,hu,q⟩;exact⟨u,List.mem_append_left _ (hst u hu),q⟩)
    have hall:stayT S.T (addL S.m.lv n)=S.T:=List.filter_eq_self.2 fun u hu=>decide_eq_true ((a3 _).2 (Or.inr ((ok.nums _).2 ⟨u,hu,rfl⟩)))
    refine⟨0,E,laidX S (addL S.m.lv n) en x [],by rw[hfI,e1], ?_,hS,L.laid.count,rfl,Or.inr (Or.inl ⟨rfl,hq,rfl,rfl, ?_,hmap, ?_⟩)⟩
    ·unfold flushIX;rw[if_neg (by decide),if_neg hq,e1,e2];simp only;rw[if_pos trivial];rfl
    ·show(stayT S.T (addL S.m.lv n)++[x]).length=_;rw[hall];simp
    ·have:=L.laid.used;have:=mfB_small hM;omega
   ·obtain rfl:e=60:=by omega
    refine⟨60,E,S,by rw[hfI,e1], ?_,sm.step dk ok,sm.count,rfl,Or.inr (Or.inr ⟨rfl,hq,rfl,sm,Or.inr (by omega)⟩)⟩;unfold flushIX;rw[if_neg (by decide),if_neg hq,e1,e2];simp only;rw[if_neg (by decide)]
  ·
    have hM0:MayM (nextM S S.m.lv en):=⟨by show 0≤S.m.next+1;omega,by show S.m.next+1≤_;omega,he0,he1,hmx.2.2.2.2.1,fun y hy=>by
     show y<S.m.next+1;have:=hmx.2.2.2.2.2 y hy;omega⟩
    have hno:addLE S.m.lv n≠0:=by rw[hpe];decide
    have hadd:addL S.m.lv n=[]∨MayM (nextM S (addL S.m.lv n) en):=by
     unfold addL;rw[if_neg hno];exact Or.inl rfl
    have hM:MayM (nextM S (addL S.m.lv n) en):=by
     rcases hadd with e | e
     ·rw[e];exact⟨by show 0≤S.m.next+1;omega,by show S.m.next+1≤_;omega,he0,he1,(show MayBe [] by decide),fun y hy=>by cases hy⟩
     ·exact e
    rcases lay_any dk ok hn hn9 ok.rise ok.mayE ok.ok hl t hM 60 with⟨h,-⟩ | ⟨e,E,e1,e0,ee,-,e2,sm⟩
    ·exact absurd h (by decide)
    ·obtain rfl:e=60:=by omega
     refine⟨60,E,S,by rw[hfI,e1], ?_,sm.step dk ok,sm.count,rfl,Or.inr (Or.inr ⟨rfl,hq,rfl,sm,Or.inl h40⟩)⟩;unfold flushIX;rw[if_neg (by decide),if_neg hq,e1,e2];simp only;rw[if_neg (by decide)]
end
end Go.Proofs.YtokbfellcadkpaaGreat
namespace Go.Proofs.YtokbfellcadkpaaGreat
set_option linter.unusedVariables false
set_option maxRecDepth 100000
def logN (n:Nat) : List ByteArray:=(List.range n).map nmC
theorem mem_logN {n:Nat}{x:ByteArray} : x∈logN n↔∃ i,i<n∧x=nmC i:=by
 unfold logN;rw[List.mem_map];constructor
 ·rintro ⟨i,h,e⟩;exact⟨i,List.mem_range.1 h,e.symm⟩
 ·rintro ⟨i,h,e⟩;exact⟨i,List.mem_range.2 h,e.symm⟩
theorem logN_isC {n:Nat}(h:n≤200) : ∀ x∈logN n,isC x=true:=fun x hx=>by
 obtain⟨i,hi,rfl⟩:=mem_logN.1 hx;exact(nmC_isC (by omega)).1
theorem logN_length (n:Nat) : (logN n).length=n:=by unfold logN;rw[List.length_map,List.length_range]
theorem pt_notC {n:Nat}(h:n≤999999) : isC (ptT n)=false∧isC (ptB n)=false:=by
 have g:∀ x:ByteArray,(x=ptT n∨x=ptB n)→isC x=false:=fun x hx=>by
  cases q:isC x with
  | false=>rfl
  | true =>
    have:=(isC_far q).2.2 n h;rcases hx with e | e
    ·exact absurd e this.1
    ·exact absurd e this.2
 exact⟨g _ (Or.inl rfl),g _ (Or.inr rfl)⟩
theorem map_notC : isC mapN=false:=by unfold isC;rw[map_np];rfl
theorem IxOk.data {D E:DiskS}{S:IxS}(ok:IxOk D S)(h:∀ t∈S.T,(fileOf E.l (ptT t.n)).map FileS.data=(fileOf D.l (ptT t.n)).map FileS.data) : IxOk E S:=by
 refine⟨ok.may,ok.seed,ok.nums,ok.uniq,fun t ht=>?_,ok.keep,ok.rise,ok.ok,ok.mayE⟩;obtain⟨f,h1,h2,h3⟩:=ok.has t ht;have e:=h t ht;rw[h1] at e;obtain⟨f',hf',ed⟩:=Option.map_eq_some_iff.1 (e:(fileOf E.l (ptT t.n)).map FileS.data=some f.data);exact⟨f',hf',by rw[ed];exact h2,by rw[ed];exact h3⟩
theorem SxDk.same {X:List ByteArray}{D E:DiskS}{S:IxS}(dk:SxDk X D S)(h:SameF D E)(hw:WfP E) : SxDk X E S:=⟨⟨h.down.trans dk.up.down,h.fails.trans dk.up.fails,hw⟩,by unfold namesS;rw[h.names];exact dk.nodup,fun n hn=>dk.only n (by unfold namesS at hn ⊢;rw[← h.names];exact hn),dk.logs,dk.few⟩
theorem IxOk.sameF {D E:DiskS}{S:IxS}(ok:IxOk D S)(h:SameF D E) : IxOk E S:=ok.data fun t _=>h.data _
section
variable {D E : DiskS} {S S' : IxS} {L M : LogS} {chs chs' : List (List ByteArray)}
theorem SxDk.app {p:ByteArray}{q:Nat}(dk:SxDk (logN chs.length) D S)(ok:IxOk D S)(a:Appended D L chs p q E M chs')(hw:WfP E)(hd:(namesS E).Nodup) : IxOk E S∧SxDk (logN chs'.length) E S:=by
 have hmany:=a.good.many;refine⟨ok.data fun t ht=>a.others _ (pt_notC (by have:=(ok.num_le ht).1;omega)).1,⟨a.good.up,a.good.fails,hw⟩,hd,fun n hn=>?_,logN_isC hmany,by rw[logN_length];exact hmany⟩;rcases a.names n hn with k | k
 ·rcases dk.only n k with e | e | e
  ·exact Or.inl e
  ·refine Or.inr (Or.inl ?_);obtain⟨i,hi,e⟩:=mem_logN.1 e;have:=a.length
   have hle:chs.length≤chs'.length:=by
    rw[a.chunks];unfold plC;split
    ·rename_i c
     have:0<chs.length:=by
      unfold fitC at c;exact(of_decide_eq_true c).1
     rw[List.length_append,List.length_dropLast];simp;omega
    ·simp
   exact mem_logN.2 ⟨i,by omega,e⟩
  ·exact Or.inr (Or.inr e)
 ·exact Or.inr (Or.inl (mem_logN.2 k))
theorem SxOk.good (h:SxOk (logN chs.length) D E S S')(g:GoodD D chs) : GoodD E chs:=by
 have hm:=g.many;refine⟨h.dk.up.down,h.dk.up.fails,g.many,fun i ps hi=>?_,g.small,fun f hf hc=>?_,(h.dk.none_ h.ok).1⟩
 ·obtain⟨f,h1,h2⟩:=g.files i ps hi;have hlt:=(List.getElem?_eq_some_iff.1 hi).1;exact⟨f,by rw[h.other _ (nmC_isC (by omega)).1];exact h1,h2⟩
 ·rcases h.dk.only f.name (List.mem_map.2 ⟨f,hf,rfl⟩) with e | e | ⟨t,ht,e⟩
  ·exact absurd e (isC_far hc).1
  ·obtain⟨i,hi,e⟩:=mem_logN.1 e;exact⟨i,hi,e⟩
  ·have:=(isC_far hc).2.2 t.n (by have:=(h.ok.num_le ht).1;omega);rcases e with e | e
   ·exact absurd e this.1
   ·exact absurd e this.2
theorem GoodL.starts_ (h:GoodL D L chs)(e:E.starts=D.starts) : GoodL E L chs:=⟨e.trans h.starts,h.nch,h.endp,h.sure⟩
end
end Go.Proofs.YtokbfellcadkpaaGreat
namespace Go.Proofs.YtokbfellcadkpaaGreat
set_option maxRecDepth 100000
set_option linter.unusedVariables false
section
structure SxFl (X:List ByteArray)(D:DiskS) : Prop where
 up:UpD D
 nodup:(namesS D).Nodup
 only:∀ n∈namesS D,n=mapN∨n=newN∨n∈X∨∃ k:Nat,k≤999999∧(n=ptT k∨n=ptB k)
 logs:∀ x∈X,isC x=true
 few:X.length≤200
theorem SxDk.fl {X:List ByteArray}{D:DiskS}{S:IxS}(h:SxDk X D S)(ok:IxOk D S) : SxFl X D:=⟨h.up,h.nodup,fun n hn=>by
 rcases h.only n hn with e | e | ⟨t,ht,e⟩
 ·exact Or.inl e
 ·exact Or.inr (Or.inr (Or.inl e))
 ·exact Or.inr (Or.inr (Or.inr ⟨t.n,by have:=(ok.num_le ht).1;omega,e⟩)),h.logs,h.few⟩
theorem SxFl.count {X:List ByteArray}{D:DiskS}(h:SxFl X D)(k:Nat) : SxFl X { D with count:=k }:=⟨h.up.count k,h.nodup,h.only,h.logs,h.few⟩
structure LeftX (D E:DiskS)(p:ByteArray→Prop) : Prop where
 up:UpD E
 stays:StaysD D E
 used:usedS E.l≤usedS D.l
 nodup:(namesS E).Nodup
 names:∀ k,k∈namesS E↔k∈namesS D∧p k
 other:∀ k,p k→fileOf E.l k=fileOf D.l k
theorem del_more : ∀ (ns:List ByteArray) {D:DiskS},UpD D→(namesS D).Nodup→ns.Nodup→(∀ n∈ns,n∈namesS D)→∃ E,delAll D ns=(0,E)∧LeftX D E (fun k=>k ∉ ns)
 | [],D,h,hd,hn,hm=>⟨D,rfl,h,StaysD.refl D,Nat.le_refl _,hd,fun k=>by simp,fun k _=>rfl⟩
 | n::ns,D,h,hd,hn,hm=>by
   obtain⟨h1,h2⟩:=List.nodup_cons.1 hn;obtain⟨e,E1,e1,g1,u1,s1,z1,d1,n1,o1⟩:=del_one h hd n;obtain⟨f,hf⟩:=name_file (hm n List.mem_cons_self);obtain⟨E1',e1',-⟩:=deleteS_of h hf;obtain⟨rfl,rfl⟩:=Prod.mk.inj (e1.symm.trans e1');obtain⟨E2,e2,L⟩:=del_more ns u1 d1 h2 (fun x hx=>(n1 x).2 ⟨hm x (List.mem_cons_of_mem _ hx),fun q=>h1 (q ▸ hx)⟩);refine⟨E2, ?_,L.up,s1.trans L.stays,Nat.le_trans L.used z1,L.nodup,fun k=>?_,fun k hk=>?_⟩
   ·unfold delAll;rw[e1];simpa using e2
   ·rw[L.names,n1];simp only[List.mem_cons,not_or];exact⟨fun q=>⟨q.1.1,q.1.2,q.2⟩,fun q=>⟨⟨q.1,q.2.1⟩,q.2.2⟩⟩
   ·simp only[List.mem_cons,not_or] at hk;rw[L.other k hk.2,o1 k hk.1]
theorem clean_more {D:DiskS}(h:UpD D)(hd:(namesS D).Nodup)(m:ManS) : ∃ E,cleanP D m=(0,E)∧LeftX D E (fun k=>orphB m.lv.flatten k=false∨k ∉ namesS D):=by
 obtain⟨E,g1,L⟩:=del_more (orphL (namesS D) m) h hd (hd.filter _) (fun n hn=>(List.mem_filter.1 hn).1)
 have e:∀ k,k ∉ orphL (namesS D) m↔(orphB m.lv.flatten k=false∨k ∉ namesS D):=fun k=>by
  unfold orphL;rw[List.mem_filter];cases orphB m.lv.flatten k<;>simp
 refine⟨E, ?_,L.up,L.stays,L.used,L.nodup,fun k=>by rw[L.names,e],fun k hk=>L.other k ((e k).2 hk)⟩;unfold cleanP;rw[if_neg (by simp[h.down])];exact g1
theorem orph_log {x:ByteArray}(h:isC x=true)(fl:List Int) : orphB fl x=false:=by
 obtain⟨h1,h2⟩:=isC_np h;unfold orphB;rw[h2];simp[(isC_far h).2.1]
theorem orph_pt {n:Nat}(h:n≤999999)(fl:List Int) : orphB fl (ptT n) = !decide ((n:Int)∈fl)∧orphB fl (ptB n) = !decide ((n:Int)∈fl):=by
 obtain⟨a1,a2,a3,b1,b2,b3⟩:=pt_np h;have f:=pt_far h;unfold orphB;rw[a1,a2,a3,b1,b2,b3];simp[f.2.1,f.2.2.2]
theorem orph_map (fl:List Int) : orphB fl mapN=false:=by
 unfold orphB;rw[map_np];simp[map_new]
theorem LeftX.dk {X:List ByteArray}{D E:DiskS}{S:IxS}{m:ManS}(fl:SxFl X D)(hm:m.lv.flatten=S.m.lv.flatten)(L:LeftX D E (fun k=>orphB m.lv.flatten k=false∨k ∉ namesS D))(ok:IxOk D S) : IxOk E S∧SxDk X E S∧(∀ k,isC k=true→fileOf E.l k=fileOf D.l k)∧fileOf E.l mapN=fileOf D.l mapN:=by
 refine⟨ok.data fun t ht=>?_,⟨L.up,L.nodup,fun n hn=>?_,fl.logs,fl.few⟩,fun k hk=>L.other k (Or.inl (orph_log hk _)),L.other _ (Or.inl (orph_map _))⟩
 ·have h9:=(ok.num_le ht).1;rw[L.other _ (Or.inl ?_)];rw[(orph_pt (by omega) _).1,hm,decide_eq_true ((ok.nums _).2 ⟨t,ht,rfl⟩)];rfl
 ·obtain⟨h1,h2⟩:=(L.names n).1 hn;have h3:orphB m.lv.flatten n=false:=h2.resolve_right (fun q=>q h1);rcases fl.only n h1 with e | e | e | ⟨k,hk,e⟩
  ·exact Or.inl e
  ·rw[e] at h3;unfold orphB at h3;simp at h3
  ·exact Or.inr (Or.inl e)
  ·have h4:(k:Int)∈m.lv.flatten:=by
    obtain⟨o1,o2⟩:=orph_pt hk m.lv.flatten;rcases e with e | e
    ·rw[e,o1] at h3;simpa using h3
    ·rw[e,o2] at h3;simpa using h3
   rw[hm] at h4;obtain⟨t,ht,et⟩:=(ok.nums _).1 h4;have et':t.n=k:=by omega
   exact Or.inr (Or.inr ⟨t,ht,by rw[et'];exact e⟩)
theorem good_left {D E:DiskS}{chs:List (List ByteArray)}(g:GoodD D chs)(up:UpD E)(hn:∀ k∈namesS E,k∈namesS D)(ho:∀ k,isC k=true→fileOf E.l k=fileOf D.l k) : GoodD E chs:=by
 have hm:=g.many;refine⟨up.down,up.fails,g.many,fun i ps hi=>?_,g.small,fun f hf hc=>?_,not_named fun q=>?_⟩
 ·obtain⟨f,h1,h2⟩:=g.files i ps hi;have hlt:=(List.getElem?_eq_some_iff.1 hi).1;exact⟨f,by rw[ho _ (nmC_isC (by omega)).1];exact h1,h2⟩
 ·obtain⟨f',hf',e⟩:=List.mem_map.1 (hn f.name (List.mem_map.2 ⟨f,hf,rfl⟩));rw[← e] at hc ⊢;exact g.only f' hf' hc
 ·obtain⟨f,hf,e⟩:=List.mem_map.1 (hn _ q);exact fileOf_none.1 g.nonew f hf e
theorem load_whole {D:DiskS}(hd:D.down=false){m:ManS}(hm:MayM m)(hs:m.seed<18446744073709551616)(h:(fileOf D.l mapN).map FileS.data=some (mfB m)) : loadE D=0∧loadM D=trimM m∧loadD D={ D with count:=D.count+1 }:=by
 obtain⟨f,hf,e⟩:=Option.map_eq_some_iff.1 h;have hr:=rdW_of hd hf;obtain⟨m1,m2⟩:=mg_back hm hs;unfold loadE loadM loadD;rw[hr];simp only[e];exact⟨by rw[if_neg (by decide),m1],by rw[if_neg (by decide),m2],trivial⟩
theorem load_gone {D:DiskS}(hd:D.down=false)(h:fileOf D.l mapN=none) : loadE D≠0∧loadD D=D:=by
 have hr:=rdW_none hd h;unfold loadE loadD;rw[hr];exact⟨by simp,rfl⟩
theorem trim_flat (m:ManS) : (trimM m).lv.flatten=m.lv.flatten:=trimL_flatten m.lv
end
end Go.Proofs.YtokbfellcadkpaaGreat
namespace Go.Proofs.YtokbfellcadkpaaGreat
open Go.RowKit Go.Shelf
set_option linter.unusedVariables false
set_option maxRecDepth 100000
theorem wp_flushT {D:DiskS}{L:LogS}(ok:WfP D) : WfP (flushT D L).2.1:=by
 unfold flushT;split
 ·exact ok
 ·exact wp_sync_t ok
structure SxAt (At:Lies)(w0:World)(gd gl gx r:Nat)(S:IxS)(L:LogS)(chs:List (List ByteArray))(D:DiskS)(E:List Nat)(w:World) : Prop where
 ix:IxAt At w0 gd gx r S D (gl::E) w
 log:Blok w gl 76 (logCells (ptr gl) gd L)
 far:gl ∉ E
 low:w0.heap.size≤gl
 ok:IxOk D S
 dk:SxDk (logN chs.length) D S
 good:GoodD D chs
 gl:GoodL D L chs
structure SxTo (N:Nat)(D E:DiskS)(S S':IxS) : Prop where
 cap:E.cap=D.cap
 starts:E.starts=D.starts
 count:E.count≤D.count+N
 has:∀ x,IxHas S' x↔IxHas S x
 tabs:∀ x,(∃ t∈S.T,x∈t.l)→∃ t∈S'.T,x∈t.l
 seed:S'.m.seed=S.m.seed
def mapSame (D E:DiskS) : Prop:=(fileOf E.l mapN).map FileS.data=(fileOf D.l mapN).map FileS.data
theorem endS_le {D:DiskS}{chs:List (List ByteArray)}(g:GoodD D chs) : endS chs≤819200:=by
 unfold endS;split
 ·omega
 ·obtain⟨f,-,-,h3,h4⟩:=last_good g (by omega);have:=g.many;omega
theorem hop_any {X:List ByteArray}{D:DiskS}{S:IxS}(dk:SxDk X D S)(ok:IxOk D S){n:Nat}(hn:S.m.next=(n:Nat))(hn9:n≤999999){l:List EntS}(hr:RiseE l)(hm:∀ x∈l,mayE x=true)(hx:∀ x∈l,EntOk x)(hl:l.length≤10000)(t:ByteArray)(hw:(writeP D n l t).1=0) :
  (tgL (rdW (writeP D n l t).2 (ptT n)).1).length≤10000:=by
 have hok:=tbOk_of hr hm;obtain⟨k1,k2⟩:=dk.none_ ok;obtain⟨k3,k4⟩:=k2 n hn9 (by omega);have hmany:=dk.many ok;by_cases hroom:usedS D.l+t.size+(tbB l).size+6000≤D.cap
 ·obtain⟨E1,e1,w1⟩:=write_ok dk.up (n:=n) hn9 hok (t:=t) (by omega) k3 k4 hroom;rw[e1,(opens_yes w1.up.down (w1.has (by omega) hx hok)).2];exact hl
 ·rw[write_full dk.up (n:=n) hn9 hok (t:=t) (by omega)] at hw;exact absurd (show(60:Nat)=0 from hw) (by decide)
section
variable {At : Lies} (api : DiskApi At) {w0 w w' : World} {gd gl gx r : Nat} {S S' : IxS} {L : LogS} {chs : List (List ByteArray)} {D D' : DiskS} {E E' B N : List Nat}
theorem SxAt.lt (h:SxAt At w0 gd gl gx r S L chs D E w) : ∀ b∈gl::E,b<w.heap.size:=h.ix.lt
theorem SxAt.turn (api:DiskApi At)(h:SxAt At w0 gd gl gx r S L chs D E w)(ht:Touch B w w')(hB:∀ b∈B,b∈E∧w0.heap.size≤b)(hE:∀ b∈E',b∈E∨(w.heap.size≤b∧b<w'.heap.size)) : SxAt At w0 gd gl gx r S L chs D E' w':=by
 have hlt:=h.lt gl List.mem_cons_self;have hn:gl ∉ B:=fun hm=>h.far (hB gl hm).1
 refine⟨h.ix.turn api ht (fun b hb=>⟨List.mem_cons_of_mem _ (hB b hb).1,(hB b hb).2⟩) (fun b hb=>?_),h.log.touch ht hn,fun hm=>?_,h.low,h.ok,h.dk,h.good,h.gl⟩
 ·rcases List.mem_cons.1 hb with e | k
  ·rw[e];exact Or.inl List.mem_cons_self
  ·exact(hE b k).imp (List.mem_cons_of_mem _) id
 ·rcases hE gl hm with k | k
  ·exact h.far k
  ·omega
theorem SxAt.below (api:DiskApi At)(h:SxAt At w0 gd gl gx r S L chs D E w)(hb:Below w.heap.size w w') : SxAt At w0 gd gl gx r S L chs D E w':=h.turn api (B:=[]) (Touch.of_below hb) (fun b hb=>by cases hb) (fun b hb=>Or.inl hb)
theorem SxAt.less (h:SxAt At w0 gd gl gx r S L chs D E w)(hE:∀ b∈E',b∈E) : SxAt At w0 gd gl gx r S L chs D E' w:=⟨h.ix.less (fun b hb=>by
 rcases List.mem_cons.1 hb with e | k
 ·rw[e];exact List.mem_cons_self
 ·exact List.mem_cons_of_mem _ (hE b k)),h.log,fun hm=>h.far (hE gl hm),h.low,h.ok,h.dk,h.good,h.gl⟩
theorem SxAt.more (api:DiskApi At)(h:SxAt At w0 gd gl gx r S L chs D E w)(hb:Below w.heap.size w w')(hE:∀ b∈B,w.heap.size≤b∧b<w'.heap.size) : SxAt At w0 gd gl gx r S L chs D (B++E) w' :=
 h.turn api (B:=[]) (Touch.of_below hb) (fun b hb=>by cases hb) (fun b hb=>(List.mem_append.1 hb).elim (fun k=>Or.inr (hE b k)) Or.inl)
theorem SxAt.base (h:SxAt At w0 gd gl gx r S L chs D E w) : Below w0.heap.size w0 w:=h.ix.kept
theorem SxAt.chunks (h:SxAt At w0 gd gl gx r S L chs D E w) : L.chunks≤200:=by rw[h.gl.nch];exact h.good.many
theorem SxAt.from (h:SxAt At w0 gd gl gx r S L chs D E w)(hi:IxAt At w0 gd gx r S' D' (gl::E) w')(hk:Kept (gl::E) w w')(ok:IxOk D' S')(dk:SxDk (logN chs.length) D' S')(g:GoodD D' chs)(hs:D'.starts=D.starts) : SxAt At w0 gd gl gx r S' L chs D' E w'∧Kept E w w' :=
 ⟨⟨hi,hk.blok h.log List.mem_cons_self,h.far,h.low,ok,dk,g,h.gl.starts_ hs⟩,hk.less (fun b hb=>List.mem_cons_of_mem _ hb)⟩
theorem SxAt.counted (h:SxAt At w0 gd gl gx r S L chs D E w)(k:Nat) : GoodD { D with count:=k } chs:=h.good.same (SameF.count D k)
include api
theorem sx_add (h:SxAt At w0 gd gl gx r S L chs D E w){x:EntS}(hx:EntOk x)(hn:S.mem.length≤100000) : Calls Tryz.prog 18 #[ptr gx,entB x] w fun e w'=>e = .returned (err (addXE x))∧SxAt At w0 gd gl gx r (addX S x) L chs D E w'∧Kept E w w':=by
 refine(xadd_run api h.ix hx hn).mono ?_;rintro e w' ⟨rfl,hi,hk⟩;refine⟨rfl,h.from hi hk ?_ ?_ h.good rfl⟩
 ·unfold addX;split
  ·exact h.ok.add hx (by assumption)
  ·exact h.ok
 ·unfold addX;split
  ·exact⟨h.dk.up,h.dk.nodup,h.dk.only,h.dk.logs,h.dk.few⟩
  ·exact h.dk
omit api in
theorem sx_waiting (h:SxAt At w0 gd gl gx r S L chs D E w) : Calls Tryz.prog 22 #[ptr gx] w fun e w'=>e = .returned (.int .i64 (S.mem.length:Nat))∧w=w':=xwaiting_run h.ix
theorem sx_manifest (h:SxAt At w0 gd gl gx r S L chs D E w) : Calls Tryz.prog 11 #[ptr gx] w (ManEnd w S.m.next S.m.check S.m.seed S.m.lv):=xmanifest_run api h.ix h.ok
variable (nap : NamesApi)
include nap
omit api nap in
theorem GoodL.count (h:GoodL D L chs)(k:Nat) : GoodL { D with count:=k } L chs:=⟨h.starts,h.nch,h.endp,h.sure⟩
theorem sx_flush (iap:ImApi At)(h:SxAt At w0 gd gl gx r S L chs D E w)(hc:D.count≤900000){n:Nat}(hn:S.m.next=(n:Nat))(hn9:n≤999999)(hr:r<18446744073709551616)(hl:S.mem.length≤1000) :
  Calls Tryz.prog 10 #[ptr gx,ptr gl] w fun e w'=>∃ k E' S',e = .returned (err k)∧SxAt At w0 gd gl gx r S' { L with sure:=L.endp } chs E' E w'∧Kept E w w'∧SxTo 2 D E' S S' ∧
   ((k=0∧S.mem=[]∧S'=S∧mapSame D E'∧usedS E'.l=usedS D.l) ∨
    (k=0∧S.mem≠[]∧S'.mem=[]∧S'.m=nextM S (addL S.m.lv n) (endS chs:Nat)∧S'.T.length=S.T.length+1∧(fileOf E'.l mapN).map FileS.data=some (mfB S'.m)∧usedS E'.l≤usedS D.l+28*S.mem.length+460) ∨
    (k=60∧S.mem≠[]∧S'=S∧mapSame D E'∧usedS E'.l≤usedS D.l∧(S.T.length=40∨D.cap<usedS D.l+28*S.mem.length+6460))):=by
 obtain⟨F,f1,f2,f3⟩:=flush_good h.good h.gl
 have hwf:WfP F:=by
  have:=wp_flushT (L:=L) h.dk.up.wf;rw[f1] at this;exact this
 have okF:=h.ok.sameF f2;have dkF:=h.dk.same f2 hwf;have gF:=h.good.same f2;have hen:=endS_le h.good;have hle:=h.gl.endp;have hmx:=h.ok.may
 obtain⟨pe,hpe⟩:∃ pe:Nat,addLE S.m.lv n=(pe:Nat):=by
  rw[addLE_parts hmx.2.2.2.2.1 (n:=(n:Nat)) (by omega) (fun x hx=>by have:=hmx.2.2.2.2.2 x hx;omega)];split
  ·exact⟨60,rfl⟩
  ·exact⟨0,rfl⟩
 have h0:=xflush_run api nap iap h.ix h.log h.far h.low h.dk.up.wf h.chunks (by rw[f1];exact hwf) (by rw[f1];exact dkF.up.down) (by rw[f1];show F.count≤_;rw[f3];omega) h.ok n hn hn9 hr hl pe hpe
  (fun t ht=>by rw[f1];exact hop_any dkF okF hn hn9 okF.rise okF.mayE okF.ok (by omega) t)
 rw[f1] at h0;refine h0.mono ?_;rintro e w' ⟨t,ht,rfl,hi,hb,hk⟩;simp only at hi hb ⊢;obtain⟨k,E',S',g1,g2,st,gc,gs,res⟩:=sflush_any dkF okF hn hn9 (by omega) t (en:=(endS chs:Nat)) (by omega) (by omega) hpe;rw[← hle] at g1 g2;rw[g1,g2] at hi;rw[g1];have hgood:=st.good gF;have hst:E'.starts=D.starts:=st.starts.trans f2.starts;have hgl:GoodL E' { L with sure:=L.endp } chs:=⟨hst.trans h.gl.starts,h.gl.nch,h.gl.endp,Nat.le_refl _⟩
 refine⟨k,E',S',rfl,⟨hi,hb,h.far,h.low,st.ok,st.dk,hgood,hgl⟩,hk,⟨st.cap.trans f2.cap,hst,by rw[f3] at gc;exact gc,st.has,st.tabs,gs⟩, ?_⟩;have hmp:mapSame D F:=f2.data mapN;have hts:=tbB_size S.mem;have hu:=f2.used;have hcp:=f2.cap;rcases res with⟨a1,a2,a3,a4⟩ | ⟨a1,a2,a3,a4,a5,a6,a7⟩ | ⟨a1,a2,a3,a4,a5⟩
 ·refine Or.inl ⟨a1,a2,a3, ?_, ?_⟩
  ·rw[a4];exact hmp
  ·rw[a4];exact hu
 ·have hft:FltOf S.mem r t:=by
   rcases ht with q | q | q
   ·exact absurd q a2
   ·exact absurd rfl q
   ·exact q
  have hsz:=flt_size (by omega) hft;refine Or.inr (Or.inl ⟨a1,a2,a3,a4,a5, ?_,by omega⟩);rw[a6];rfl
 ·have hft:FltOf S.mem r t:=by
   rcases ht with q | q | q
   ·exact absurd q a2
   ·exact absurd rfl q
   ·exact q
  have hsz:=flt_size (by omega) hft;have hus:=a4.used;refine Or.inr (Or.inr ⟨a1,a2,a3, ?_,by omega,a5.imp id (fun q=>by omega)⟩);unfold mapSame;rw[a4.files];exact hmp
theorem sx_append_room (cap:ChunksApi)(h:SxAt At w0 gd gl gx r S L chs D E w)(p:ByteArray)(hp:p.size≤2000)(h199:chs.length≤199)(hr:usedS D.l+(p.size+24)+6000≤D.cap) : Calls Tryz.prog 15 #[ptr gl,.string p] w fun e w' =>
  ∃ q D' M chs',e = .returned (.tuple #[.int .i64 (q:Nat),.int .i64 0])∧SxAt At w0 gd gl gx r S M chs' D' E w'∧Kept E w w'∧Appended D L chs p q D' M chs':=by
 have hmany:=h.dk.many h.ok;refine(h.ix.log api h.log h.far h.low (fun c hm hT=>append_run_t api nap cap hm hT h.dk.up.wf h.chunks p (Nat.le_trans hp (by decide)))).mono ?_;rintro e w' ⟨rfl,hi,hb,hk⟩;obtain⟨q,D',M,chs',q1,q2⟩:=append_room h.good h.gl p hp (by omega) h199 hr
 have hwf:WfP D':=by
  have:=wp_appendT (L:=L) h.dk.up.wf p;rw[q1] at this;exact this
 rw[q1] at hi hb;rw[q1]
 have hnd:(namesS D').Nodup:=rise_nodup (hi.ds.rise api) (fun n=>by
  cases q:lessB n n with
  | true=>exact absurd q (less_irrefl n)
  | false=>rfl)
 obtain⟨ok',dk'⟩:=h.dk.app h.ok q2 hwf hnd;exact⟨q,D',M,chs',rfl,⟨hi,hb,h.far,h.low,ok',dk',q2.good,q2.log⟩,hk,q2⟩
def nextV : Option (Nat × ByteArray)→Value
 | none=>.tuple #[.string ByteArray.empty,.int .i64 0,.int .i64 0,.int .i64 4]
 | some x=>.tuple #[.string x.2,.int .i64 (x.1:Nat),.int .i64 ((x.1+(x.2.size+12):Nat):Int),.int .i64 0]
theorem sx_next (cap:ChunksApi)(h:SxAt At w0 gd gl gx r S L chs D E w)(hc:D.count≤900000000)(pos:Nat)(hp:pos≤9223372036854775807) : Calls Tryz.prog 90 #[ptr gl,.int .i64 (pos:Nat)] w fun e w'=>∃ k,k≤D.count+200∧e = .returned (nextV ((allAt 0 chs).find? fun x=>decide (pos≤x.1)))∧SxAt At w0 gd gl gx r S L chs { D with count:=k } E w'∧Kept E w w':=by
 obtain⟨k,hk,hx⟩:=next_good h.good h.gl pos;refine(h.ix.log api h.log h.far h.low (fun c hm hT=>tnext_t api nap cap hm hT h.dk.up.wf (by omega) (pos:Nat) (wf_nat hp) h.chunks)).mono ?_;rintro e w' ⟨rfl,hi,hb,hkp⟩;rw[hx] at hi;rw[hx]
 have hD:(firstS (allAt 0 chs) (pos:Nat) { D with count:=k }).D={ D with count:=k }:=by
  unfold firstS;split<;>rfl
 rw[hD] at hi;refine⟨k,hk, ?_,⟨hi,hb,h.far,h.low,h.ok.count _,h.dk.count _,h.counted _,h.gl.count _⟩,hkp⟩
 have hf:(allAt 0 chs).find? (fun x=>decide (((pos:Nat):Int)≤(x.1:Int)))=(allAt 0 chs).find? (fun x=>decide (pos≤x.1)):=by
  congr 1;funext x;exact decide_eq_decide.2 (by omega)
 unfold firstS;rw[hf];cases (allAt 0 chs).find? (fun x=>decide (pos≤x.1))<;>rfl
end
end Go.Proofs.YtokbfellcadkpaaGreat
namespace Go.Proofs.YtokbfellcadkpaaGreat
open Go.RowKit Go.Shelf
set_option linter.unusedVariables false
set_option maxRecDepth 100000
structure LgAt (At:Lies)(w0:World)(gd gl:Nat)(L:LogS)(chs:List (List ByteArray))(D:DiskS)(E:List Nat)(w:World) : Prop where
 st:LogSt At w0 gd gl L D E w
 fl:SxFl (logN chs.length) D
 good:GoodD D chs
 gl:GoodL D L chs
structure PxAt (At:Lies)(w0:World)(gd gl gx r:Nat)(S:IxS)(L:LogS)(chs:List (List ByteArray))(D:DiskS)(E:List Nat)(w:World) : Prop where
 ix:IxAt At w0 gd gx r S D (gl::E) w
 log:Blok w gl 76 (logCells (ptr gl) gd L)
 far:gl ∉ E
 low:w0.heap.size≤gl
 ok:IxOk D S
 fl:SxFl (logN chs.length) D
 good:GoodD D chs
 gl:GoodL D L chs
section
variable {At : Lies} (api : DiskApi At) {w0 w w' : World} {gd gl gx r : Nat} {S S' : IxS} {L : LogS} {chs : List (List ByteArray)} {D D' : DiskS} {E E' B N : List Nat}
theorem SxAt.leave (h:SxAt At w0 gd gl gx r S L chs D E w) : LgAt At w0 gd gl L chs D E w:=⟨⟨h.ix.ds,h.log,h.far,h.low⟩,h.dk.fl h.ok,h.good,h.gl⟩
theorem LgAt.lt (h:LgAt At w0 gd gl L chs D E w) : ∀ b∈gl::E,b<w.heap.size:=h.st.1.lt
theorem LgAt.turn (api:DiskApi At)(h:LgAt At w0 gd gl L chs D E w)(ht:Touch B w w')(hB:∀ b∈B,b∈E∧w0.heap.size≤b)(hE:∀ b∈E',b∈E∨(w.heap.size≤b∧b<w'.heap.size)) : LgAt At w0 gd gl L chs D E' w':=by
 have hlt:=h.lt gl List.mem_cons_self;have hn:gl ∉ B:=fun hm=>h.st.2.2.1 (hB gl hm).1
 refine⟨⟨h.st.1.turn api ht (fun b hb=>⟨List.mem_cons_of_mem _ (hB b hb).1,(hB b hb).2⟩) (fun b hb=>?_),h.st.2.1.touch ht hn,fun hm=>?_,h.st.2.2.2⟩,h.fl,h.good,h.gl⟩
 ·rcases List.mem_cons.1 hb with e | k
  ·rw[e];exact Or.inl List.mem_cons_self
  ·exact(hE b k).imp (List.mem_cons_of_mem _) id
 ·rcases hE gl hm with k | k
  ·exact h.st.2.2.1 k
  ·omega
theorem LgAt.below (api:DiskApi At)(h:LgAt At w0 gd gl L chs D E w)(hb:Below w.heap.size w w') : LgAt At w0 gd gl L chs D E w':=h.turn api (B:=[]) (Touch.of_below hb) (fun b hb=>by cases hb) (fun b hb=>Or.inl hb)
theorem LgAt.base (h:LgAt At w0 gd gl L chs D E w) : Below w0.heap.size w0 w:=h.st.1.kept
theorem LgAt.from (h:LgAt At w0 gd gl L chs D E w){G:List Nat}(hi:DS At w0 gd D' (G++(gl::E)) w')(hk:Kept (gl::E) w w')(hG:gl ∉ G)(fl:SxFl (logN chs.length) D')(g:GoodD D' chs)(hs:D'.starts=D.starts) : LgAt At w0 gd gl L chs D' (G++E) w'∧Kept E w w' :=
 ⟨⟨⟨hi.less (fun b hb=>by
   rcases List.mem_cons.1 hb with e | q
   ·rw[e];exact List.mem_append_right _ List.mem_cons_self
   ·rcases List.mem_append.1 q with q | q
    ·exact List.mem_append_left _ q
    ·exact List.mem_append_right _ (List.mem_cons_of_mem _ q)),hk.blok h.st.2.1 List.mem_cons_self,fun hm=>(List.mem_append.1 hm).elim hG h.st.2.2.1,h.st.2.2.2⟩,fl,g,h.gl.starts_ hs⟩,hk.less (fun b hb=>List.mem_cons_of_mem _ hb)⟩
theorem LgAt.count (h:LgAt At w0 gd gl L chs D E w)(k:Nat) : SxFl (logN chs.length) { D with count:=k }∧GoodD { D with count:=k } chs:=⟨h.fl.count k,h.good.same (SameF.count D k)⟩
theorem lg_load (iap:ImApi At)(h:LgAt At w0 gd gl L chs D E w)(hc:D.count≤900000000) : Calls Tryz.prog 86 #[ptr gd] w fun e w' =>
  ∃ (x0 x1:Int) (x2:Nat) (A:Option Addr) (n c:Nat) (R:LvL) (j:Nat),e = .returned (.tuple #[manV x0 x1 x2 (.slice A n c),.int .i64 (loadE D)])∧loadM D=⟨x0,x1,x2,R⟩∧n=R.length∧LvsHas w' (.slice A n c) R∧R.length≤300∧R.flatten.length≤100000∧x2<18446744073709551616∧j≤1∧LgAt At w0 gd gl L chs { D with count:=D.count+j } E w'∧Kept E w w':=by
 refine(iap.load h.st.1 h.fl.up.wf (by omega)).mono ?_;rintro e w' ⟨x0,x1,x2,A,n,c,R,rfl,h1,h2,h3,h4,h5,h6,h7,h8⟩
 have hl:∃ j,j≤1∧loadD D={ D with count:=D.count+j }:=by
  unfold loadD;cases q:fileOf D.l mapN with
  | none=>rw[rdW_none h.fl.up.down q];exact⟨0,by omega,rfl⟩
  | some f=>rw[rdW_of h.fl.up.down q];exact⟨1,by omega,rfl⟩
 obtain⟨j,hj,e⟩:=hl;rw[e] at h7;obtain⟨k1,k2⟩:=h.count (D.count+j);obtain⟨f1,f2⟩:=h.from (G:=[]) (D':={ D with count:=D.count+j }) h7 h8 (fun hm=>by cases hm) k1 k2 rfl;exact⟨x0,x1,x2,A,n,c,R,j,rfl,h1,h2,h3,h4,h5,h6,hj,f1,f2⟩
include api
theorem lg_delete (h:LgAt At w0 gd gl L chs D E w)(n:ByteArray)(hn:isC n=false)(hz:n.size≤maxLen) : Calls Tryz.prog 54 #[ptr gd,.string n] w fun e w' =>
  ∃ f D',e = .returned (err f)∧goneP f=true∧LgAt At w0 gd gl L chs D' E w'∧Kept E w w'∧StaysD D D'∧usedS D'.l≤usedS D.l∧(∀ k,k∈namesS D'↔k∈namesS D∧k≠n)∧∀ k,k≠n→fileOf D'.l k=fileOf D.l k:=by
 refine(h.st.1.disk api (fun F hF=>api.delete n hF h.fl.up.wf.ok hz)).mono ?_;rintro e w' ⟨rfl,hd,hk⟩;obtain⟨f,D',e1,g1,u1,s1,z1,d1,n1,o1⟩:=del_one h.fl.up h.fl.nodup n;rw[e1] at hd;rw[e1];have hne:∀ k,isC k=true→k≠n:=fun k hk e=>by rw[e,hn] at hk;cases hk
 have hg:=good_left h.good u1 (fun k hk=>((n1 k).1 hk).1) (fun k hk=>o1 k (hne k hk));obtain⟨f1,f2⟩:=h.from (G:=[]) hd hk (fun hm=>by cases hm) ⟨u1,d1,fun q hq=>h.fl.only q ((n1 q).1 hq).1,h.fl.logs,h.fl.few⟩ hg s1.starts;exact⟨f,D',rfl,g1,f1,f2,s1,z1,n1,o1⟩
theorem lg_open (nap:NamesApi)(h:LgAt At w0 gd gl L chs D E w)(hc:D.count≤900000000){n c:Int}{d:Nat}{A:Option Addr}{cp:Nat}{R:LvL}(hm:MayM ⟨n,c,d,R⟩)(hd:d<18446744073709551616)(hv:LvsHas w (.slice A R.length cp) R)(hop:∀ x∈R.flatten,openE D x=0→(tgL (rdW D (ptT x)).1).length≤10000)(r:Nat) :
  Calls Tryz.prog 87 #[ptr gd,manV n c d (.slice A R.length cp),.float .f64 r] w fun e w' =>
   (∃ gx T j,e = .returned (.tuple #[ptr gx,.int .i64 0])∧T.map (fun t=>(t.n:Int))=R.flatten∧(∀ t∈T,HasT D t.n t.l)∧j≤80∧PxAt At w0 gd gl gx r ⟨⟨n,c,d,R⟩,T,[]⟩ L chs { D with count:=D.count+j } E w'∧Kept E w w') ∨
   (∃ x j,x∈R.flatten∧openE D x≠0∧j≤80∧e = .returned (.tuple #[.pointer none,err (openE D x)])∧LgAt At w0 gd gl L chs { D with count:=D.count+j } E w'∧Kept E w w'):=by
 have h40:=hm.2.2.2.2.1.2.1;simp only at h40;refine(xopen_run api nap (r:=r) h.st.1 h.fl.up.wf h.fl.up.down (by omega) hv hm hop).mono ?_;rintro e w' (⟨gx,T,j,rfl,hT,hH,hj,hi,hk⟩ | ⟨x,j,hx,hne,hj,rfl,hi,hk⟩)
 ·have hT':T.map (fun t=>(t.n:Int))=R.flatten:=hT;have hj':j≤80:=by simp only at hj;omega
  have hok:IxOk { D with count:=D.count+j } ⟨⟨n,c,d,R⟩,T,[]⟩:=by
   refine⟨hm,hd,fun y=>?_, ?_,fun t ht=>(hH t ht).1.count _,fun t ht=>(hH t ht).2,List.Pairwise.nil,(fun y hy=>by cases hy),(fun y hy=>by cases hy)⟩
   ·show y∈R.flatten↔∃ t∈T,(t.n:Int)=y;rw[← hT',List.mem_map]
   ·show(T.map TbS.n).Nodup;have hnd:R.flatten.Nodup:=hm.2.2.2.2.1.2.2.2;rw[← hT'] at hnd;unfold List.Nodup at hnd ⊢;rw[List.pairwise_map] at hnd ⊢;exact hnd.imp fun {a b} hab e=>hab (by omega)
  obtain⟨k1,k2⟩:=h.count (D.count+j);exact Or.inl ⟨gx,T,j,rfl,hT',fun t ht=>(hH t ht).1,hj',⟨hi,hk.blok h.st.2.1 List.mem_cons_self,h.st.2.2.1,h.st.2.2.2,hok,k1,k2,h.gl.count _⟩,hk.less (fun b hb=>List.mem_cons_of_mem _ hb)⟩
 ·have hj':j≤80:=by simp only at hj;omega
  obtain⟨k1,k2⟩:=h.count (D.count+j);obtain⟨f1,f2⟩:=h.from (G:=[]) (D':={ D with count:=D.count+j }) hi hk (fun hm=>by cases hm) k1 k2 rfl;exact Or.inr ⟨x,j,hx,hne,hj',rfl,f1,f2⟩
omit api in
theorem px_clean (iap:ImApi At)(h:PxAt At w0 gd gl gx r S L chs D E w){n c:Int}{d:Nat}{A:Option Addr}{k cp:Nat}{R:LvL}{G:List Nat}(hG:∀ b∈G,b∈gl::E)(hv:LvKeep w (.slice A k cp) R G)(hk:k=R.length)(hR:R.flatten=S.m.lv.flatten)(hL:R.length≤100000) :
  Calls Tryz.prog 31 #[ptr gd,manV n c d (.slice A k cp)] w fun e w'=>∃ D',e = .returned (.int .i64 0)∧SxAt At w0 gd gl gx r S L chs D' E w'∧Kept E w w'∧StaysD D D'∧usedS D'.l≤usedS D.l∧fileOf D'.l mapN=fileOf D.l mapN:=by
 have h40:=h.ok.many_le;have hmn:=h.ok.many;obtain⟨D',e1,Lf⟩:=clean_more h.fl.up h.fl.nodup (m:=⟨n,c,d,R⟩);obtain⟨ok',dk',lg',mp'⟩:=Lf.dk (m:=⟨n,c,d,R⟩) h.fl hR h.ok
 have hc:Calls Tryz.prog 31 #[ptr gd,manV n c d (.slice A k cp)] w fun e w'=>IxAt At w0 gd gx r S D' (gl::E) w'∧Kept (gl::E) w w'∧e = .returned (.int .i64 0):=by
  refine h.ix.quiet fun E' hE hD=>?_
  refine(iap.clean n c d A k cp R hD h.fl.up.wf (fun W _ kW=>hv W (kW.less (fun b hb=>hE b (hG b hb)))) hk (by rw[hR];omega) hL).mono ?_;rintro e w' ⟨rfl,h1,h2⟩;rw[e1] at h1;rw[e1];exact⟨h1,h2,rfl⟩
 refine hc.mono ?_;rintro e w' ⟨hi,hk,rfl⟩;have hg:=good_left h.good Lf.up (fun q hq=>((Lf.names q).1 hq).1) lg';exact⟨D',rfl,⟨hi,hk.blok h.log List.mem_cons_self,h.far,h.low,ok',dk',hg,h.gl.starts_ Lf.stays.starts⟩,hk.less (fun b hb=>List.mem_cons_of_mem _ hb),Lf.stays,Lf.used,mp'⟩
end
end Go.Proofs.YtokbfellcadkpaaGreat
namespace Go.Proofs.YtokbfellcadkpaaGreat
set_option maxRecDepth 100000
set_option linter.unusedVariables false
section
structure WholeX (D:DiskS)(S:IxS) : Prop where
 map:(fileOf D.l mapN).map FileS.data=some (mfB S.m)
 has:∀ t∈S.T,HasT D t.n t.l
end
end Go.Proofs.YtokbfellcadkpaaGreat
namespace Go.Proofs.YtokbfellcadkpaaGreat
set_option linter.unusedVariables false
set_option maxRecDepth 100000
def entP (seed:Nat)(x:Nat × ByteArray) : List EntS:=(List.range (bgL x.2).length).map fun i=>⟨hashH seed (bgS x.2).data.toList,bgF x.2+(i:Nat),(x.1:Nat)⟩
def entC (seed:Nat)(l:List (Nat × ByteArray)) : List EntS:=l.flatMap (entP seed)
theorem mem_entC {seed:Nat}{l:List (Nat × ByteArray)}{y:EntS} : y∈entC seed l↔∃ x∈l,y∈entP seed x:=List.mem_flatMap
structure RbOk (seed:Nat)(S:IxS)(chs:List (List ByteArray)) : Prop where
 sd:S.m.seed=seed
 whole:∀ x∈allAt 0 chs,bgOk x.2=true
 has:∀ y,IxHas S y↔y∈entC seed (allAt 0 chs)
 old:∀ x∈allAt 0 chs,(x.1:Int)<S.m.check→∀ y∈entP seed x,∃ t∈S.T,y∈t.l
 check:S.m.check≤(endS chs:Nat)
 fresh:∀ y∈S.mem,∃ x∈allAt 0 chs,S.m.check≤(x.1:Int)∧y∈entP seed x
 tabs:S.T.length≤((allAt 0 chs).filter fun x=>decide ((x.1:Int)<S.m.check)).length
section
variable {seed : Nat} {S S' : IxS} {chs chs' : List (List ByteArray)} {D E : DiskS}
theorem allAt_end {D:DiskS}(g:GoodD D chs) : ∀ x∈allAt 0 chs,x.1<endS chs:=by
 intro x hx;have hr:=(allAt_rise chs 0 (fun ps hps=>(g.small ps hps).1))
 have he:=end_posK chs (fun ps hps=>(g.small ps hps).1);obtain⟨i,hi⟩:=List.getElem?_of_mem hx;have hlt:=(List.getElem?_eq_some_iff.1 hi).1
 have hle:x.1+12≤posK (allAt 0 chs) (allAt 0 chs).length:=by
  unfold posK;rw[if_neg (by omega)];have hl:(allAt 0 chs)[(allAt 0 chs).length-1]? = some ((allAt 0 chs)[(allAt 0 chs).length-1]'(by omega)):=List.getElem?_eq_getElem _;rw[hl];show x.1+12≤endR _;by_cases e:i=(allAt 0 chs).length-1
  ·subst e;rw[hl] at hi;obtain rfl:=Option.some.inj hi;unfold endR;omega
  ·have:=List.pairwise_iff_getElem.1 hr.1 i ((allAt 0 chs).length-1) hlt (by omega) (by omega)
   have ei:(allAt 0 chs)[i]'hlt=x:=by
    rw[List.getElem?_eq_getElem hlt] at hi;exact Option.some.inj hi
   rw[ei] at this;unfold endR at this ⊢;omega
 rcases he with e | ⟨e1,e2⟩
 ·rw[e] at hle;omega
 ·omega
theorem RbOk.flush (h:RbOk seed S chs)(g:GoodD D chs)(hh:∀ x,IxHas S' x↔IxHas S x)(hm:S'.mem=[]){R:LvL}(hc:S'.m=nextM S R (endS chs:Nat))(hne:S.mem≠[])(hT:S'.T.length=S.T.length+1) : RbOk seed S' chs:=by
 have e:S'.m.check=(endS chs:Nat):=by rw[hc];rfl
 refine⟨by rw[hc];exact h.sd,h.whole,fun y=>(hh y).trans (h.has y),fun x hx _ y hy=>?_,by rw[e];exact Int.le_refl _,(fun y hy=>by rw[hm] at hy;cases hy), ?_⟩;rotate_left
 ·rw[e];have hall:(allAt 0 chs).filter (fun x=>decide ((x.1:Int)<((endS chs:Nat):Int)))=allAt 0 chs:=List.filter_eq_self.2 fun x hx=>decide_eq_true (by have:=allAt_end g x hx;omega)
  rw[hall,hT];obtain⟨y,hy⟩:=List.exists_mem_of_ne_nil _ hne;obtain⟨x,hx,hck,-⟩:=h.fresh y hy;have hlt:((allAt 0 chs).filter fun x=>decide ((x.1:Int)<S.m.check)).length<(allAt 0 chs).length:=List.length_filter_lt_length_iff_exists.2 ⟨x,hx,by simp;omega⟩;have:=h.tabs;omega
 have:IxHas S' y:=(hh y).2 ((h.has y).2 (mem_entC.2 ⟨x,hx,hy⟩));rcases this with q | q
 ·rw[hm] at q;cases q
 ·exact q
theorem RbOk.opened (h:RbOk seed S chs)(hm:S'.m.check=S.m.check)(hs:S'.m.seed=S.m.seed)(hT:∀ y,(∃ t∈S'.T,y∈t.l)↔∃ t∈S.T,y∈t.l)(hM:∀ y,y∈S'.mem↔∃ x∈allAt 0 chs,S.m.check≤(x.1:Int)∧y∈entP seed x)(hN:S'.T.length≤S.T.length) : RbOk seed S' chs:=by
 refine⟨hs.trans h.sd,h.whole,fun y=>?_,fun x hx hlt y hy=>(hT y).2 (h.old x hx (by rw[← hm];exact hlt) y hy),by rw[hm];exact h.check,fun y hy=>by rw[hm];exact(hM y).1 hy,by rw[hm];exact Nat.le_trans hN h.tabs⟩;rw[mem_entC];constructor
 ·rintro (q | q)
  ·obtain⟨x,hx,-,hy⟩:=(hM y).1 q;exact⟨x,hx,hy⟩
  ·exact mem_entC.1 ((h.has y).1 (Or.inr ((hT y).1 q)))
 ·rintro ⟨x,hx,hy⟩;rcases Int.lt_or_le (x.1:Int) S.m.check with c | c
  ·exact Or.inr ((hT y).2 (h.old x hx c y hy))
  ·exact Or.inl ((hM y).2 ⟨x,hx,c,hy⟩)
theorem rb_anew (hw:∀ x∈allAt 0 chs,bgOk x.2=true)(hs:S'.m.seed=seed)(hc:S'.m.check=0)(hT:S'.T=[])(hM:∀ y,y∈S'.mem↔∃ x∈allAt 0 chs,y∈entP seed x) : RbOk seed S' chs:=by
 refine⟨hs,hw,fun y=>?_,fun x hx hlt=>by rw[hc] at hlt;omega,by rw[hc];omega,fun y hy=>by
  obtain⟨x,hx,h1⟩:=(hM y).1 hy;exact⟨x,hx,by rw[hc];omega,h1⟩,by rw[hT];exact Nat.zero_le _⟩
 rw[mem_entC,← hM];unfold IxHas;rw[hT];simp
theorem entP_ok {x:Nat × ByteArray}(h:bgOk x.2=true)(hx:x.1≤2147483647) : ∀ y∈entP seed x,EntOk y∧mayE y=true:=by
 intro y hy;unfold entP at hy;obtain⟨i,hi,rfl⟩:=List.mem_map.1 hy;have hi:=List.mem_range.1 hi;obtain⟨-,e2,e3,-,-,hb⟩:=bg_yes h;obtain⟨b1,b2,b3,b4,b5,b6,-⟩:=bchk_zero.1 hb;have hh:hashH seed (bgS x.2).data.toList<18446744073709551616:=hashH_lt _ _;refine⟨⟨hh,by show _≤bgF x.2+(i:Nat);omega,by show bgF x.2+(i:Nat)≤_;omega,by show _≤((x.1:Nat):Int);omega,by show((x.1:Nat):Int)≤_;omega⟩, ?_⟩;unfold mayE;exact decide_eq_true ⟨by show 0≤bgF x.2+(i:Nat);omega,by show 0≤((x.1:Nat):Int);omega⟩
end
end Go.Proofs.YtokbfellcadkpaaGreat
namespace Go.Proofs.YtokbfellcadkpaaGreat
set_option maxRecDepth 100000
set_option linter.unusedVariables false
section
theorem find_step {L:List Rec}(h:RiseR L){p:Nat}{x:Rec}(hf:L.find? (fun z=>decide (p≤z.1))=some x) : x∈L∧p≤x.1∧∀ z∈L,z.1<endR x↔z.1<p∨z=x:=by
 obtain⟨hp,us,vs,rfl,ha⟩:=List.find?_eq_some_iff_append.1 hf;have hp':p≤x.1:=of_decide_eq_true hp;have hx:x.1<endR x:=by unfold endR;omega
 refine⟨List.mem_append_right _ List.mem_cons_self,hp',fun z hz=>?_⟩;have h2:=(List.pairwise_append.1 h).2.1;have h3:=(List.pairwise_cons.1 h2).1;rcases List.mem_append.1 hz with k | k
 ·have hz1:=ha z k;simp at hz1;exact⟨fun _=>Or.inl hz1,fun _=>by omega⟩
 ·rcases List.mem_cons.1 k with e | k
  ·subst e;exact⟨fun _=>Or.inr rfl,fun _=>hx⟩
  ·have:=h3 z k
   exact⟨fun q=>by omega,fun q=>by
    rcases q with q | q
    ·omega
    ·rw[q] at this;omega⟩
theorem find_end {L:List Rec}{p:Nat}(hf:L.find? (fun z=>decide (p≤z.1))=none) : ∀ z∈L,z.1<p:=fun z hz=>by
 have:=List.find?_eq_none.1 hf z hz;simp at this;exact this
def restR (L:List Rec)(p:Nat) : Nat:=(L.filter fun z=>decide (p≤z.1)).length
theorem rest_le (L:List Rec)(p:Nat) : restR L p≤L.length:=List.length_filter_le _ _
theorem rest_step {L:List Rec}(h:RiseR L){p:Nat}{x:Rec}(hf:L.find? (fun z=>decide (p≤z.1))=some x) : restR L (endR x)+1≤restR L p:=by
 obtain⟨h1,h2,h3⟩:=find_step h hf;have hx:x.1<endR x:=by unfold endR;omega
 have e:L.filter (fun z=>decide (endR x≤z.1))=(L.filter (fun z=>decide (p≤z.1))).filter (fun z=>decide (endR x≤z.1)):=by
  rw[List.filter_filter];refine List.filter_congr fun z _=>?_
  by_cases q:endR x≤z.1
  ·rw[decide_eq_true q,decide_eq_true (show p≤z.1 by omega)];rfl
  ·rw[decide_eq_false q];rfl
 unfold restR;rw[e];exact List.length_filter_lt_length_iff_exists.2 ⟨x,List.mem_filter.2 ⟨h1,decide_eq_true h2⟩,by simp;omega⟩
def FillTo (seed:Nat)(L:List Rec)(c p:Nat)(M:List EntS) : Prop:=∀ y,y∈M↔∃ x∈L,c≤x.1∧x.1<p∧y∈entP seed x
theorem FillTo.start (seed:Nat)(L:List Rec)(c:Nat) : FillTo seed L c c []:=fun y=>⟨fun h=>(by cases h),fun⟨x,_,h1,h2,_⟩=>by omega⟩
theorem FillTo.step {seed:Nat}{L:List Rec}{c p:Nat}{M M':List EntS}(h:FillTo seed L c p M)(hr:RiseR L){x:Rec}(hf:L.find? (fun z=>decide (p≤z.1))=some x)(hc:c≤p)(hm:∀ y,y∈M'↔y∈M∨y∈entP seed x) : FillTo seed L c (endR x) M':=by
 obtain⟨h1,h2,h3⟩:=find_step hr hf;intro y;rw[hm,h];constructor
 ·rintro (⟨z,z1,z2,z3,z4⟩ | q)
  ·exact⟨z,z1,z2,(h3 z z1).2 (Or.inl z3),z4⟩
  ·exact⟨x,h1,by omega,(h3 x h1).2 (Or.inr rfl),q⟩
 ·rintro ⟨z,z1,z2,z3,z4⟩;rcases(h3 z z1).1 z3 with k | k
  ·exact Or.inl ⟨z,z1,z2,k,z4⟩
  ·rw[k] at z4;exact Or.inr z4
theorem FillTo.done {seed:Nat}{L:List Rec}{c p:Nat}{M:List EntS}(h:FillTo seed L c p M)(hf:L.find? (fun z=>decide (p≤z.1))=none) : ∀ y,y∈M↔∃ x∈L,(c:Int)≤(x.1:Int)∧y∈entP seed x:=fun y=>by
 have he:=find_end hf;rw[h];exact⟨fun⟨x,x1,x2,_,x3⟩=>⟨x,x1,by omega,x3⟩,fun⟨x,x1,x2,x3⟩=>⟨x,x1,by omega,he x x1,x3⟩⟩
theorem FillTo.len {seed:Nat}{L:List Rec}{c p:Nat}{M:List EntS}(h:FillTo seed L c p M)(hr:RiseE M) : M.length≤(entC seed L).length:=rise_len hr fun y hy=>by
 obtain⟨x,x1,_,_,x2⟩:=(h y).1 hy;exact mem_entC.2 ⟨x,x1,x2⟩
theorem mem_rowP : ∀ (ps:List ByteArray) (k:Nat) (x:Rec),x∈rowP k ps→x.2∈ps
 | [],_,_,h=>by cases h
 | p::ps,k,x,h=>by
   rcases List.mem_cons.1 h with e | h
   ·rw[e];exact List.mem_cons_self
   ·exact List.mem_cons_of_mem _ (mem_rowP ps _ x h)
theorem mem_allAt : ∀ (chs:List (List ByteArray)) (i:Nat) (x:Rec),x∈allAt i chs→∃ ps∈chs,x.2∈ps
 | [],_,_,h=>by cases h
 | ps::r,i,x,h=>by
   rcases List.mem_append.1 h with h | h
   ·exact⟨ps,List.mem_cons_self,mem_rowP _ _ _ h⟩
   ·obtain⟨q,h1,h2⟩:=mem_allAt r (i+1) x h;exact⟨q,List.mem_cons_of_mem _ h1,h2⟩
theorem allAt_small {D:DiskS}{chs:List (List ByteArray)}(g:GoodD D chs){x:Rec}(h:x∈allAt 0 chs) : x.2.size≤2000:=by
 obtain⟨ps,h1,h2⟩:=mem_allAt chs 0 x h;exact(g.small ps h1).2 _ h2
theorem bg_what {t:ByteArray}(h0:t.data.toList[0]? = some 63) : bgOk t=false:=by
 cases e:bgOk t with
 | false=>rfl
 | true =>
   exfalso;obtain⟨q1,q2,-⟩:=bg_put e;obtain⟨k1,k2,-⟩:=bchk_zero.1 q1;rw[← q2] at h0;unfold batB headB at h0;simp only[ByteArray.data_append,Array.toList_append,bs,be] at h0;simp at h0;generalize (bgS t).size=n at *;have h1:n/256%256=0∨True:=Or.inr trivial;revert h0;rw[show n/256=0 by omega];decide
theorem rdW_data {D D':DiskS}(hd:D.down=false)(k:SameF D D')(n:ByteArray) : (rdW D' n).1=(rdW D n).1∧(rdW D' n).2.1=(rdW D n).2.1:=by
 have e:=k.data n;have hd':=k.down.trans hd;cases h:fileOf D.l n with
 | none =>
   rw[h] at e
   have h':fileOf D'.l n=none:=by cases q:fileOf D'.l n with
    | none=>rfl
    | some f=>rw[q] at e;cases e
   rw[rdW_none hd h,rdW_none hd' h'];exact⟨rfl,rfl⟩
 | some f =>
   rw[h] at e;obtain⟨f',hf',ed⟩:=Option.map_eq_some_iff.1 (e:(fileOf D'.l n).map FileS.data=some f.data);rw[rdW_of hd h,rdW_of hd' hf',ed];exact⟨rfl,rfl⟩
theorem openE_data {D D':DiskS}(hd:D.down=false)(k:SameF D D')(n:Int) : openE D' n=openE D n:=by
 obtain⟨h1,h2⟩:=rdW_data hd k (ptT n);unfold openE;rw[h1,h2,k.down]
end
section
open Go.RowKit Go.Shelf
structure RbTo (At:Lies)(w0:World)(gd gl gx r seed:Nat)(S:IxS)(L:LogS)(chs:List (List ByteArray))(D D':DiskS)(E:List Nat)(w w':World) : Prop where
 sx:SxAt At w0 gd gl gx r S L chs D' E w'
 kept:Kept E w w'
 rb:RbOk seed S chs
 cap:D'.cap=D.cap
 starts:D'.starts=D.starts
 count:D'.count≤D.count+400+200*(allAt 0 chs).length
 used:usedS D'.l≤usedS D.l
def bareM (seed:Nat) : ManS:=⟨0,0,seed,[]⟩
theorem bare_may (seed:Nat) : MayM (bareM seed):=⟨by show(0:Int)≤0;omega,by show(0:Int)≤1000000;omega,by show(0:Int)≤0;omega,by show(0:Int)≤2147483647;omega,(show MayBe [] by decide),fun x hx=>by cases hx⟩
def NoneX (seed:Nat)(en:Nat)(D:DiskS) : Prop :=
 loadE D≠0∨(loadE D=0∧MayM (loadM D)∧(∀ x∈(loadM D).lv.flatten,openE D x=0→(tgL (rdW D (ptT x)).1).length≤10000)∧((loadM D).seed≠seed∨(en:Int)<(loadM D).check∨∃ x∈(loadM D).lv.flatten,openE D x≠0))
structure RbApi (At:Lies) : Prop where
 nild:∀ {w0 w:World} {gd gl:Nat} {L:LogS} {D:DiskS} {E:List Nat} (seed r:Nat),LogSt At w0 gd gl L D E w→WfP D→D.count≤900000000→L.chunks≤200→seed<18446744073709551616→r<18446744073709551616 →
  Calls Tryz.prog 9 #[.pointer none,ptr gl,.int .u64 (seed:Nat),.float .f64 r] w fun e w'=>(∃ b,e = .returned (.tuple #[.pointer none,.bool b,.int .i64 1]))∧LogSt At w0 gd gl L D E w'∧Kept E w w'
 nill:∀ (g:Nat) (seed r:Nat) (w:World),seed<18446744073709551616→Calls Tryz.prog 9 #[ptr g,.pointer none,.int .u64 (seed:Nat),.float .f64 r] w fun e w'=>(∃ b,e = .returned (.tuple #[.pointer none,.bool b,.int .i64 1]))∧Below w.heap.size w w'
 down:∀ {w0 w:World} {gd gl:Nat} {L:LogS} {D:DiskS} {E:List Nat} (seed r:Nat),LogSt At w0 gd gl L D E w→WfP D→D.down=true→D.count≤900000000→L.chunks≤200→seed<18446744073709551616→r<18446744073709551616 →
  Calls Tryz.prog 9 #[ptr gd,ptr gl,.int .u64 (seed:Nat),.float .f64 r] w fun e w'=>(∃ b,e = .returned (.tuple #[.pointer none,.bool b,.int .i64 61]))∧∃ D',LogSt At w0 gd gl L D' E w'∧Kept E w w'
 keep:∀ {w0 w:World} {gd gl:Nat} {L:LogS} {chs:List (List ByteArray)} {D:DiskS} {E:List Nat} (seed r:Nat) (S:IxS),LgAt At w0 gd gl L chs D E w→IxOk D S→RbOk seed S chs→WholeX D S→(∀ t∈S.T,t.l.length≤10000)→(entC seed (allAt 0 chs)).length≤1000→D.count≤800000000→r<18446744073709551616 →
  Calls Tryz.prog 9 #[ptr gd,ptr gl,.int .u64 (seed:Nat),.float .f64 r] w fun e w'=>∃ gx S' D',e = .returned (.tuple #[ptr gx,.bool false,.int .i64 0])∧RbTo At w0 gd gl gx r seed S' L chs D D' E w w'∧WholeX D' S'∧S'.m=trimM S.m
 anew:∀ {w0 w:World} {gd gl:Nat} {L:LogS} {chs:List (List ByteArray)} {D:DiskS} {E:List Nat} (seed r:Nat),LgAt At w0 gd gl L chs D E w→(∀ x∈allAt 0 chs,bgOk x.2=true)→NoneX seed (endS chs) D→(entC seed (allAt 0 chs)).length≤1000→D.count≤800000000→seed<18446744073709551616→r<18446744073709551616 →
  Calls Tryz.prog 9 #[ptr gd,ptr gl,.int .u64 (seed:Nat),.float .f64 r] w fun e w'=>∃ gx S' D',e = .returned (.tuple #[ptr gx,.bool true,.int .i64 0])∧RbTo At w0 gd gl gx r seed S' L chs D D' E w w'∧fileOf D'.l mapN=none∧S'.T=[]∧S'.m=bareM seed
 broke:∀ {w0 w:World} {gd gl:Nat} {L:LogS} {chs:List (List ByteArray)} {D:DiskS} {E:List Nat} (seed r:Nat) (q:Nat) (p:ByteArray),LgAt At w0 gd gl L chs D E w→allAt 0 chs=[(q,p)]→bgOk p=false→fileOf D.l mapN=none→D.count≤800000000→seed<18446744073709551616→r<18446744073709551616 →
  Calls Tryz.prog 9 #[ptr gd,ptr gl,.int .u64 (seed:Nat),.float .f64 r] w fun e w'=>(∃ b,e = .returned (.tuple #[.pointer none,.bool b,.int .i64 63]))∧∃ D',LgAt At w0 gd gl L chs D' E w'∧Kept E w w'
end
end Go.Proofs.YtokbfellcadkpaaGreat
namespace Go.Proofs.YtokbfellcadkpaaGreat
open Go.RowKit Go.Shelf
set_option linter.unusedVariables false
set_option maxRecDepth 100000
theorem evsIn_form {w:World}{u:Value}{l:List RawS}(h:EvsIn w u l) : ∃ A c,u = .slice A l.length c:=by
 rcases h with⟨rfl,a,c,rfl⟩ | ⟨-,b,off,cap,rfl,-⟩
 ·exact⟨a,c,rfl⟩
 ·exact⟨_,cap,rfl⟩
theorem entP_length (seed:Nat)(x:Rec) : (entP seed x).length=(bgL x.2).length:=by unfold entP;rw[List.length_map,List.length_range]
theorem entP_at {seed q:Nat}{p:ByteArray}{k:Nat}(hk:k<(bgL p).length) : (entP seed (q,p))[k]? = some ⟨hashH seed (bgS p).data.toList,bgF p+(k:Nat),(q:Nat)⟩:=by
 unfold entP;rw[List.getElem?_map,List.getElem?_range hk];rfl
theorem take_nxt {es:List EntS}{j:Nat}{x:EntS}(h:es[j]? = some x)(y:EntS) : y∈es.take (j+1)↔y∈es.take j∨y=x:=by
 rw[List.take_add_one,h];simp
structure AddTo (seed q:Nat)(p:ByteArray)(k:Nat)(S S':IxS) : Prop where
 m:S'.m=S.m
 T:S'.T=S.T
 len:S'.mem.length≤S.mem.length+k
 mem:∀ y,y∈S'.mem↔y∈S.mem∨y∈(entP seed (q,p)).take k
theorem AddTo.zero (seed q:Nat)(p:ByteArray)(S:IxS) : AddTo seed q p 0 S S:=⟨rfl,rfl,Nat.le_refl _,fun y=>by simp⟩
section
variable {At : Lies} (api : DiskApi At) {w0 w : World} {gd gl gx r seed q k : Nat} {S S' : IxS} {L : LogS} {chs : List (List ByteArray)} {D : DiskS} {E : List Nat} {p : ByteArray}
include api in
theorem add_step (h:SxAt At w0 gd gl gx r S' L chs D E w)(hA:AddTo seed q p k S S'){hh:Nat}{v:Int}(he:(entP seed (q,p))[k]? = some ⟨hh,v,(q:Nat)⟩)(ok:EntOk ⟨hh,v,(q:Nat)⟩)(hm:mayE ⟨hh,v,(q:Nat)⟩=true)(hn:S.mem.length+k≤100000) :
  Calls Tryz.prog 18 #[ptr gx,.agg #[.int .u64 (hh:Nat),.int .i64 v,.int .i64 (q:Nat)]] w fun e w'=>e = .returned (.int .i64 0)∧∃ S2,SxAt At w0 gd gl gx r S2 L chs D E w'∧Kept E w w'∧AddTo seed q p (k+1) S S2:=by
 have hl:=hA.len;refine(sx_add api h ok (by omega)).mono ?_;rintro e w' ⟨rfl,d,kp⟩;have e1:addXE ⟨hh,v,(q:Nat)⟩=0:=by unfold addXE;rw[if_pos hm]
 have e2:addX S' ⟨hh,v,(q:Nat)⟩={ S' with mem:=layEn S'.mem ⟨hh,v,(q:Nat)⟩ }:=by unfold addX;rw[if_pos hm]
 rw[e1];rw[e2] at d;refine⟨rfl,_,d,kp,⟨hA.m,hA.T, ?_,fun y=>?_⟩⟩
 ·have:=layE_length S'.mem ⟨hh,v,(q:Nat)⟩;show(layEn _ _).length≤_;omega
 ·show y∈layEn _ _↔_;rw[mem_lay,hA.mem,take_nxt he,or_assoc]
include api in
set_option maxHeartbeats 1000000 in
theorem radd_ok (h:SxAt At w0 gd gl gx r S L chs D E w)(hs:seed<18446744073709551616)(hw:bgOk p=true)(hz:p.size≤2000)(hq:q≤2147483647)(hn:S.mem.length≤90000) :
  Calls Tryz.prog 91 #[ptr gx,.int .u64 (seed:Nat),.string p,.int .i64 (q:Nat)] w fun e w'=>e = .returned (.int .i64 0)∧∃ S',SxAt At w0 gd gl gx r S' L chs D E w'∧Kept E w w'∧AddTo seed q p (bgL p).length S S':=by
 obtain⟨-,-,-,e4,-,hb⟩:=bg_yes hw;obtain⟨c1,c2,c3,c4,c5,c6,-⟩:=bchk_zero.1 hb
 have HG:Hid (Calls Tryz.prog 157 #[.string p] w fun e w'=>∃ A c,e = .returned (.tuple #[.agg #[.string (bgS p),.int .i64 (bgF p),.slice A (bgL p).length c],.int .i64 0])∧Below w.heap.size w w'):=Lib.hid ((bget_any p w (by omega)).mono fun e w' hg=>by
  obtain⟨u,rfl,hu,b1⟩:=hg;obtain⟨A,c,rfl⟩:=evsIn_form hu;rw[e4];exact⟨A,c,rfl,b1⟩)
 have HH:=Lib.hid (fun W=>hash_any seed (bgS p) W hs (by unfold maxLen;omega));have HENT:=Lib.hid (fun k (hk:k<(bgL p).length)=>And.intro (entP_at (seed:=seed) (q:=q) hk) (entP_ok (seed:=seed) (x:=(q,p)) hw hq _ (List.mem_of_getElem? (entP_at hk))));have HS:=Lib.hid h;generalize bgS p=s at *;generalize bgF p=f at *;generalize (bgL p).length=n at *;generalize hashH seed s.data.toList=hh at *;clear h hw hb e4 c1 c2 hs hz hq;go_enter Tryz.func91,Tryz.ntmps91;go_wp2_with fail;refine HG.out.mono ?_;rintro e w1 ⟨A,c,rfl,b1⟩;have hb2:=(Below.refl w1.heap.size w1).alloc (Nat.le_refl _) (.cells #[.string s,.int .i64 f,.slice A n c] 53);have hB2:=Blok.new w1 53 #[.string s,.int .i64 f,.slice A n c];have h1:=HS.out.below api b1;have h2:=h1.more api hb2 (B:=[w1.heap.size]) (fun x hx=>by rw[List.mem_singleton.1 hx];exact⟨Nat.le_refl _,hB2.lt⟩);have hk2:=(Kept.of_below b1 (fun x hx=>HS.out.lt x (List.mem_cons_of_mem _ hx)):Kept E w w1).trans (Kept.of_below hb2 (fun x hx=>h1.lt x (List.mem_cons_of_mem _ hx)));obtain⟨w2,hw2⟩:∃ w2,w1.alloc (.cells #[.string s,.int .i64 f,.slice A n c] 53)=w2:=⟨_,rfl⟩
 rw[hw2] at hB2 h2 hk2;have k0:=hB2.cell 0;have k2:=hB2.cell 2;have H2:=Lib.hid h2;have HK2:=Lib.hid hk2;have HB2:=Lib.hid hB2;clear hb2 hB2 h1 h2 hk2 b1 HG;go_wp2_with fail;refine(HH.out _).mono ?_;rintro e w' ⟨rfl,rfl⟩;go_wp2;go_loopw [28] (fun i wr=>∃ (k:Nat) (S':IxS),k≤n∧i = .int .i64 k∧SxAt At w0 gd gl gx r S' L chs D ([w1.heap.size]++E) wr∧Kept E w wr∧Blok wr w1.heap.size 53 #[.string s,.int .i64 f,.slice A n c]∧AddTo seed q p k S S') (fun i _=>n-(intOf i).toNat)
 case atStart=>exact⟨0,S,Nat.zero_le _,rfl,H2.out,HK2.out,HB2.out,AddTo.zero seed q p S⟩
 case round =>
  obtain⟨k,S',hk,rfl,hR,hKr,hBk,hA⟩:=hrel;by_cases hlt:k<n
  ·have s1:(k:Int)<(n:Int):=by omega
   obtain⟨he,hok,hme⟩:=HENT.out k hlt;have k1:=hBk.cell 1;obtain⟨v,hv⟩:∃ v,v=f+(k:Int):=⟨_,rfl⟩
   rw[show(f+((k:Nat):Int))=v from hv.symm] at he hok hme;have HAD:=Lib.hid (add_step api hR hA he hok hme (by omega));have ew:IntKind.i64.wrap (f+(k:Int))=v:=by rw[IntKind.wrap_i64];omega
   have HKr:=Lib.hid hKr;have HBk:=Lib.hid hBk;clear hR hKr hBk hA he hok hme hv H2 HK2 HB2 k0 k2;go_wp2_with fail;refine HAD.out.mono ?_;rintro e w3 ⟨rfl,S2,h3,kp3,hA3⟩;have HF:=Lib.hid (And.intro h3 (And.intro hA3 (And.intro (HKr.out.trans (kp3.less (fun x hx=>List.mem_append_right _ hx))) (kp3.blok HBk.out (List.mem_append_left _ List.mem_cons_self)))));clear h3 kp3 hA3 HAD k1;go_wp2;go_roundw
   case rel=>exact⟨k+1,S2,by omega,by go_num,HF.out.1,HF.out.2.2.1,HF.out.2.2.2,HF.out.2.1⟩
   case measure=>simp[intOf];omega
  ·obtain rfl:k=n:=by omega
   have s1:¬ (k:Int)<(k:Int):=by omega
   have HF:=Lib.hid (And.intro (hR.less (fun x hx=>List.mem_append_right _ hx):SxAt At w0 gd gl gx r S' L chs D E wr) (And.intro hKr hA));clear hR hKr hBk hA hlt;go_wp2;go_ret;exact⟨rfl,S',HF.out.1,HF.out.2.1,HF.out.2.2⟩
theorem radd_no (w:World)(gx seed q:Nat)(p:ByteArray)(hw:bgOk p=false)(hz:p.size≤2000) :
  Calls Tryz.prog 91 #[ptr gx,.int .u64 (seed:Nat),.string p,.int .i64 (q:Nat)] w fun e w'=>e = .returned (.int .i64 63)∧Below w.heap.size w w':=by
 obtain⟨e1,e2,e3,e4⟩:=bg_no hw
 have HG:Hid (Calls Tryz.prog 157 #[.string p] w fun e w'=>∃ A c,e = .returned (.tuple #[.agg #[.string ByteArray.empty,.int .i64 0,.slice A 0 c],.int .i64 10])∧Below w.heap.size w w'):=Lib.hid ((bget_any p w (by omega)).mono fun e w' hg=>by
  obtain⟨u,rfl,hu,b1⟩:=hg;obtain⟨A,c,rfl⟩:=evsIn_form hu;rw[e1,e2,e3,e4];exact⟨A,c,rfl,b1⟩)
 clear e1 e2 e3 e4 hw hz;go_enter Tryz.func91,Tryz.ntmps91;go_wp2_with fail;refine HG.out.mono ?_;rintro e w1 ⟨A,c,rfl,b1⟩;have HB:=Lib.hid (b1.alloc b1.size (.cells #[.string ByteArray.empty,.int .i64 0,.slice A 0 c] 53));clear b1 HG;go_wp2;go_ret;exact⟨rfl,HB.out⟩
end
end Go.Proofs.YtokbfellcadkpaaGreat
namespace Go.Proofs.YtokbfellcadkpaaGreat
set_option maxRecDepth 100000
set_option linter.unusedVariables false
section
open Go.RowKit Go.Shelf
theorem entP_entL {seed:Nat}{s:ByteArray}{f:Int}{l:List RawS}(h:bchk s f l=0)(hb:∀ x∈l,x.b<18446744073709551616)(q:Nat) : bgOk (batB s f.toNat l)=true∧entP seed (q,batB s f.toNat l)=entL seed s f l.length (q:Nat):=by
 obtain⟨h1,h2,h3,h4⟩:=bg_back h hb;refine⟨h1, ?_⟩;unfold entP entL;simp only;rw[h2,h3,h4]
def evT : RawS:=⟨⟨#[116]⟩,⟨#[]⟩,0⟩
theorem evT_sz : EvSz evT:=⟨by decide,by decide,by decide⟩
theorem evT_chk : echk evT=0:=by decide
def evsT (n:Nat) : List RawS:=List.replicate n evT
theorem evsT_length (n:Nat) : (evsT n).length=n:=List.length_replicate
theorem evsT_mem {n:Nat}{x:RawS}(h:x∈evsT n) : x=evT:=(List.mem_replicate.1 h).2
theorem evsT_b {n:Nat} : ∀ x∈evsT n,x.b<18446744073709551616:=fun x hx=>by rw[evsT_mem hx];decide
def batT (s:ByteArray)(f n:Nat) : ByteArray:=batB s f (evsT n)
theorem batT_chk {s:ByteArray}{f n:Nat}(h1:1≤s.size)(h2:s.size≤32)(h3:1≤n)(h4:n≤8)(h5:f≤1000000) : bchk s (f:Int) (evsT n)=0:=bchk_zero.2 ⟨h1,h2,by rw[evsT_length];exact h3,by rw[evsT_length];exact h4,by omega,by rw[evsT_length];omega,fun x hx=>by rw[evsT_mem hx];exact evT_chk⟩
theorem batT_ok {s:ByteArray}{f n:Nat}(h1:1≤s.size)(h2:s.size≤32)(h3:1≤n)(h4:n≤8)(h5:f≤1000000)(seed q:Nat) : bgOk (batT s f n)=true∧entP seed (q,batT s f n)=entL seed s (f:Int) n (q:Nat)∧(batT s f n).size≤2000:=by
 have hc:=batT_chk h1 h2 h3 h4 h5;obtain⟨a,b⟩:=entP_entL (seed:=seed) hc evsT_b q;rw[Int.toNat_natCast,evsT_length] at b;rw[Int.toNat_natCast] at a;have hz:=(batB_size hc).2;rw[Int.toNat_natCast] at hz;exact⟨a,b,hz⟩
theorem batT_put {s:ByteArray}{f n:Nat}(h1:1≤s.size)(h2:s.size≤32)(h3:1≤n)(h4:n≤8)(h5:f≤1000000){v:Value}{w:World}(h:EvsIn w v (evsT n)) :
  Calls Tryz.prog 14 #[.agg #[.string s,.int .i64 (f:Nat),v]] w fun e w'=>e = .returned (.tuple #[.string (batT s f n),.int .i64 0])∧Below w.heap.size w w':=by
 have hc:=batT_chk h1 h2 h3 h4 h5;have:=bput_any s (f:Int) v (evsT n) w ⟨by omega,wf_nat (by omega),h,by rw[evsT_length];omega,fun x hx=>by rw[evsT_mem hx];exact evT_sz⟩;unfold batS batV at this;rw[if_pos hc,hc,Int.toNat_natCast] at this;exact this
end
end Go.Proofs.YtokbfellcadkpaaGreat
namespace Go.Proofs.YtokbfellcadkpaaGreat
open Go.RowKit Go.Shelf
set_option linter.unusedVariables false
set_option maxRecDepth 100000
section
variable {At : Lies} (api : DiskApi At) (nap : NamesApi) (cap : ChunksApi) {w0 w : World} {gd gl gx r seed : Nat} {S : IxS} {L : LogS} {chs : List (List ByteArray)} {D : DiskS} {E : List Nat}
include api nap cap
theorem next_none (h:SxAt At w0 gd gl gx r S L chs D E w)(hc:D.count≤900000000)(pos:Nat)(hp:pos≤2147483647)(hf:(allAt 0 chs).find? (fun x=>decide (pos≤x.1))=none) :
  Calls Tryz.prog 90 #[ptr gl,.int .i64 (pos:Nat)] w fun e w'=>e = .returned (.tuple #[.string ByteArray.empty,.int .i64 0,.int .i64 0,.int .i64 4])∧∃ k,k≤D.count+200∧SxAt At w0 gd gl gx r S L chs { D with count:=k } E w'∧Kept E w w':=by
 refine(sx_next api nap cap h hc pos (by omega)).mono ?_;rintro e w' ⟨k,hk,rfl,d,kp⟩;rw[hf];exact⟨rfl,k,hk,d,kp⟩
theorem next_some (h:SxAt At w0 gd gl gx r S L chs D E w)(hc:D.count≤900000000)(pos:Nat)(hp:pos≤2147483647){q:Nat}{p:ByteArray}(hf:(allAt 0 chs).find? (fun x=>decide (pos≤x.1))=some (q,p)) :
  Calls Tryz.prog 90 #[ptr gl,.int .i64 (pos:Nat)] w fun e w'=>e = .returned (.tuple #[.string p,.int .i64 (q:Nat),.int .i64 (endR (q,p):Nat),.int .i64 0])∧∃ k,k≤D.count+200∧SxAt At w0 gd gl gx r S L chs { D with count:=k } E w'∧Kept E w w':=by
 refine(sx_next api nap cap h hc pos (by omega)).mono ?_;rintro e w' ⟨k,hk,rfl,d,kp⟩;rw[hf];exact⟨rfl,k,hk,d,kp⟩
omit api nap cap in
theorem endR_le {D:DiskS}(g:GoodD D chs){x:Rec}(hx:x∈allAt 0 chs) : endR x≤900000:=by
 have h1:=((allAt_rise chs 0 (fun ps hps=>(g.small ps hps).1)).2 x hx).2;have:=g.many;omega
set_option maxHeartbeats 1000000 in
theorem rfill_ok (h:SxAt At w0 gd gl gx r S L chs D E w)(hm0:S.mem=[])(cc:Nat)(hc9:cc≤900000)(n:Int)(A:Option Addr)(k cp:Nat)(hs:seed<18446744073709551616)(hw:∀ x∈allAt 0 chs,bgOk x.2=true)(hent:(entC seed (allAt 0 chs)).length≤1000)(hct:D.count≤850000000) :
  Calls Tryz.prog 32 #[ptr gx,ptr gl,.agg #[.int .i64 n,.int .i64 (cc:Nat),.int .u64 (seed:Nat),.slice A k cp]] w fun e w'=>e = .returned (.int .i64 0)∧∃ S' c',SxAt At w0 gd gl gx r S' L chs { D with count:=c' } E w'∧Kept E w w'∧S'.m=S.m∧S'.T=S.T ∧
   (∀ y,y∈S'.mem↔∃ x∈allAt 0 chs,(cc:Int)≤(x.1:Int)∧y∈entP seed x)∧c'≤D.count+200*((allAt 0 chs).length+1):=by
 have g:=h.good
 have hlen:(allAt 0 chs).length≤200000:=by
  have h1:=(allAt_rise chs 0 (fun ps hps=>(g.small ps hps).1))
  have h2:=end_posK chs (fun ps hps=>(g.small ps hps).1);have h3:=endS_le g
  have h4:∀ (l:List Rec) (a:Nat),RiseR l→(∀ x∈l,a≤x.1)→(∀ x∈l,endR x≤819200)→a+12*l.length≤819200+a:=by
   intro l
   induction l with
   | nil=>intro a _ _ _;simp
   | cons x l ih =>
     intro a hr ha he;have hr':=List.pairwise_cons.1 hr;have:=ih a hr'.2 (fun y hy=>ha y (List.mem_cons_of_mem _ hy)) (fun y hy=>he y (List.mem_cons_of_mem _ hy))
     have h12:∀ (l:List Rec) (b:Nat),RiseR l→(∀ y∈l,b≤y.1)→(∀ y∈l,endR y≤819200)→b≤819200→b+12*l.length≤819200:=by
      intro l
      induction l with
      | nil=>intro b _ _ _ hb;simpa using hb
      | cons z l ih2 =>
        intro b hr hb he hb2;have hr':=List.pairwise_cons.1 hr;have hz:=he z List.mem_cons_self;have hz1:=hb z List.mem_cons_self;have hz2:z.1+12≤endR z:=by unfold endR;omega
        have:=ih2 (endR z) hr'.2 hr'.1 (fun y hy=>he y (List.mem_cons_of_mem _ hy)) hz;rw[List.length_cons];omega
     have:=h12 (x::l) 0 hr (fun y hy=>Nat.zero_le _) he (by omega);omega
  have h5:∀ x∈allAt 0 chs,endR x≤819200:=fun x hx=>by
   have:=(h1.2 x hx).2;have:=g.many;omega
  have:=h4 (allAt 0 chs) 0 h1.1 (fun x hx=>Nat.zero_le _) h5;omega
 have hrise:=(allAt_rise chs 0 (fun ps hps=>(g.small ps hps).1)).1;have hb1:=(Below.refl w.heap.size w).alloc (Nat.le_refl _) (.cells #[.int .i64 n,.int .i64 (cc:Nat),.int .u64 (seed:Nat),.slice A k cp] 40);have hB1:=Blok.new w 40 #[.int .i64 n,.int .i64 (cc:Nat),.int .u64 (seed:Nat),.slice A k cp];have h1:=h.more api hb1 (B:=[w.heap.size]) (fun x hx=>by rw[List.mem_singleton.1 hx];exact⟨Nat.le_refl _,hB1.lt⟩);have hk1:=(Kept.of_below hb1 (fun x hx=>h.lt x (List.mem_cons_of_mem _ hx)):Kept E w _)
 obtain⟨w1,hw1⟩:∃ w1,w.alloc (.cells #[.int .i64 n,.int .i64 (cc:Nat),.int .u64 (seed:Nat),.slice A k cp] 40)=w1:=⟨_,rfl⟩
 rw[hw1] at hB1 h1 hk1;have k1:=hB1.cell 1;have H1:=Lib.hid h1;have HK1:=Lib.hid hk1;have HB1:=Lib.hid hB1;have HG:=Lib.hid g;have HW:=Lib.hid hw;have HENT:=Lib.hid hent;have HM0:=Lib.hid hm0;have HLEN:=Lib.hid hlen;have HRISE:=Lib.hid hrise;obtain⟨R,hR⟩:∃ R,R=allAt 0 chs:=⟨_,rfl⟩
 have HR0:=Lib.hid hR;clear hb1 hB1 h1 hk1 h g hw hent hm0 hlen hrise hR;go_enter Tryz.func32,Tryz.ntmps32;go_wp2
 go_loopw [7] (fun p wr=>∃ (pos c:Nat) (S':IxS),p = .int .i64 pos∧cc≤pos∧pos≤900000∧SxAt At w0 gd gl gx r S' L chs { D with count:=c } ([w.heap.size]++E) wr∧Kept E w wr∧Blok wr w.heap.size 40 #[.int .i64 n,.int .i64 (cc:Nat),.int .u64 (seed:Nat),.slice A k cp] ∧
  S'.m=S.m∧S'.T=S.T∧FillTo seed R cc pos S'.mem∧c+200*restR R pos≤D.count+200*R.length) (fun p _=>restR R (intOf p).toNat)
 case atStart =>
  refine⟨cc,D.count,S,rfl,Nat.le_refl _,hc9,H1.out,HK1.out,HB1.out,rfl,rfl, ?_, ?_⟩
  ·rw[HM0.out];exact FillTo.start seed R cc
  ·have:=rest_le R cc;omega
 case round =>
  obtain⟨pos,c,S',rfl,hcp,hp9,hR,hKr,hBk,hm,hT,hF,hcn⟩:=hrel;have hlen:=HLEN.out;rw[← HR0.out] at hlen;have hrl:=rest_le R pos;have hcc:c≤900000000:=by omega
  cases hf:R.find? (fun x=>decide (pos≤x.1)) with
  | none =>
    have hf':=hf;rw[HR0.out] at hf';have HN:=Lib.hid (next_none api nap cap hR hcc pos (by omega) hf');have HD:=Lib.hid (hF.done hf);have HMT:=Lib.hid (And.intro hm (And.intro hT (And.intro hKr hcn)));clear hR hKr hBk hm hT hF hcn hf hf' hcc hrl hlen k1 hcp hp9;go_wp2_with fail;refine HN.out.mono ?_;rintro e w2 ⟨rfl,c2,hc2,h2,kp2⟩;have HF2:=Lib.hid (And.intro hc2 (And.intro (h2.less (fun x hx=>List.mem_append_right _ hx):SxAt At w0 gd gl gx r S' L chs { D with count:=c2 } E w2) (kp2.less (fun x hx=>List.mem_append_right _ hx):Kept E wr w2)));clear h2 kp2 hc2 HN;go_wp2;go_ret;obtain⟨m1,m2,m3,m4⟩:=HMT.out;obtain⟨f1,f2,f3⟩:=HF2.out;have f1:c2≤c+200:=f1;refine⟨rfl,S',c2,f2,m3.trans f3,m1,m2, ?_, ?_⟩
    ·rw[← HR0.out];exact HD.out
    ·rw[← HR0.out];omega
  | some x =>
    obtain⟨q,p⟩:=x;have hf':=hf;rw[HR0.out] at hf';have hrise:=HRISE.out;rw[← HR0.out] at hrise;have hst:=rest_step hrise hf;obtain⟨hx1,hx2,-⟩:=find_step hrise hf;have hx1':=hx1;rw[HR0.out] at hx1';have hend:=endR_le HG.out hx1';have hqe:q<endR (q,p):=by unfold endR;simp only;omega
    have hmem:S'.mem.length≤1000:=by
     have h1:=hF.len hR.ok.rise;have h2:=HENT.out;rw[← HR0.out] at h2;omega
    have HN:=Lib.hid (next_some api nap cap hR hcc pos (by omega) hf');have HADD:=Lib.hid (fun(w3:World) (c3:Nat) (h3:SxAt At w0 gd gl gx r S' L chs { D with count:=c3 } ([w.heap.size]++E) w3)=>radd_ok (p:=p) api h3 hs (HW.out _ hx1') (allAt_small HG.out hx1') (by omega:q≤2147483647) (by omega));have HSTEP:=Lib.hid (fun(M':List EntS) (hM:∀ y,y∈M'↔y∈S'.mem∨y∈entP seed (q,p))=>hF.step hrise hf hcp hM);have HMT:=Lib.hid (And.intro hm (And.intro hT (And.intro hKr hBk)));have hpos:pos<endR (q,p):=Nat.lt_of_le_of_lt hx2 hqe;obtain⟨pos2,hpos2⟩:∃ pos2,pos2=endR (q,p):=⟨_,rfl⟩
    rw[← hpos2] at HN HSTEP hst hend hpos;have HST:=Lib.hid (And.intro hst hcn);clear hR hKr hBk hm hT hF hcn hf hf' hcc hrl hlen k1 hrise hx1 hx1' hx2 hqe hmem hpos2 hst;go_wp2_with fail;refine HN.out.mono ?_;rintro e w2 ⟨rfl,c2,hc2,h2,kp2⟩;have hB2:=kp2.blok HMT.out.2.2.2 (List.mem_append_left _ List.mem_cons_self);have k2:=hB2.cell 2;have HA:=Lib.hid (HADD.out w2 c2 h2);have HF2:=Lib.hid (And.intro hc2 (And.intro hB2 (HMT.out.2.2.1.trans (kp2.less (fun x hx=>List.mem_append_right _ hx)))));clear h2 kp2 hc2 hB2 HN HADD;go_wp2_with fail;refine HA.out.mono ?_;rintro e w3 ⟨rfl,S3,h3,kp3,hA3⟩;have HF3:=Lib.hid (And.intro h3 (And.intro (kp3.blok HF2.out.2.1 (List.mem_append_left _ List.mem_cons_self)) (And.intro (HF2.out.2.2.trans (kp3.less (fun x hx=>List.mem_append_right _ hx))) hA3)));clear h3 kp3 hA3 HA k2;go_wp2;go_roundw
    case rel =>
     obtain⟨f1,f2,f3,f4⟩:=HF3.out;obtain⟨s1,s2⟩:=HST.out;have hc2:=HF2.out.1;have hc2:c2≤c+200:=hc2;refine⟨pos2,c2,S3,by go_num,by omega,hend,f1,f3,f2,f4.m.trans HMT.out.1,f4.T.trans HMT.out.2.1,HSTEP.out _ (fun y=>?_),by omega⟩;rw[f4.mem,← entP_length seed (q,p),List.take_length]
    case measure =>
     have:=HST.out.1;simp[intOf];omega
theorem rfill_no (h:SxAt At w0 gd gl gx r S L chs D E w)(n:Int)(A:Option Addr)(k cp:Nat){q:Nat}{p:ByteArray}(hall:allAt 0 chs=[(q,p)])(hw:bgOk p=false)(hct:D.count≤850000000) :
  Calls Tryz.prog 32 #[ptr gx,ptr gl,.agg #[.int .i64 n,.int .i64 0,.int .u64 (seed:Nat),.slice A k cp]] w fun e w'=>e = .returned (.int .i64 63)∧∃ c',SxAt At w0 gd gl gx r S L chs { D with count:=c' } E w'∧Kept E w w':=by
 have hf:(allAt 0 chs).find? (fun x=>decide (0≤x.1))=some (q,p):=by rw[hall];simp
 have hsm:=allAt_small h.good (x:=(q,p)) (by rw[hall];exact List.mem_cons_self);have hb1:=(Below.refl w.heap.size w).alloc (Nat.le_refl _) (.cells #[.int .i64 n,.int .i64 0,.int .u64 (seed:Nat),.slice A k cp] 40);have hB1:=Blok.new w 40 #[.int .i64 n,.int .i64 0,.int .u64 (seed:Nat),.slice A k cp];have h1:=h.more api hb1 (B:=[w.heap.size]) (fun x hx=>by rw[List.mem_singleton.1 hx];exact⟨Nat.le_refl _,hB1.lt⟩);have hk1:=(Kept.of_below hb1 (fun x hx=>h.lt x (List.mem_cons_of_mem _ hx)):Kept E w _)
 obtain⟨w1,hw1⟩:∃ w1,w.alloc (.cells #[.int .i64 n,.int .i64 0,.int .u64 (seed:Nat),.slice A k cp] 40)=w1:=⟨_,rfl⟩
 rw[hw1] at hB1 h1 hk1;have k1:=hB1.cell 1;have HN:Hid (Calls Tryz.prog 90 #[ptr gl,.int .i64 0] w1 fun e w'=>e = .returned (.tuple #[.string p,.int .i64 (q:Nat),.int .i64 (endR (q,p):Nat),.int .i64 0])∧∃ k,k≤D.count+200∧SxAt At w0 gd gl gx r S L chs { D with count:=k } ([w.heap.size]++E) w'∧Kept ([w.heap.size]++E) w1 w'):=Lib.hid (next_some api nap cap h1 (by omega) 0 (by omega) hf);have HADD:=Lib.hid (fun w3=>radd_no w3 gx seed q p hw hsm);have HK1:=Lib.hid hk1;have HB1:=Lib.hid hB1;clear hb1 hB1 h1 hk1 h hf hsm hall;generalize endR (q,p)=pos2 at *;go_enter Tryz.func32,Tryz.ntmps32;go_wp2;refine wp_loop_rounds 1 ?_;rw[rounds_succ];go_wp2_with fail;refine HN.out.mono ?_;rintro e w2 ⟨rfl,c2,hc2,h2,kp2⟩;have hB2:=kp2.blok HB1.out (List.mem_append_left _ List.mem_cons_self);have k2:=hB2.cell 2;have H2:=Lib.hid (h2.less (fun x hx=>List.mem_append_right _ hx):SxAt At w0 gd gl gx r S L chs { D with count:=c2 } E w2);have HK2:=Lib.hid (HK1.out.trans (kp2.less (fun x hx=>List.mem_append_right _ hx)));clear h2 kp2 hc2 hB2 HN;go_wp2_with fail;refine(HADD.out w2).mono ?_;rintro e w3 ⟨rfl,b3⟩;have HF:=Lib.hid (And.intro (H2.out.below api b3) (HK2.out.trans (Kept.of_below b3 (fun x hx=>H2.out.lt x (List.mem_cons_of_mem _ hx)))));clear b3 HADD k2;go_wp2;go_ret;exact⟨rfl,c2,HF.out.1,HF.out.2⟩
end
end Go.Proofs.YtokbfellcadkpaaGreat
