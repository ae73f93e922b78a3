/- ZfIxTake, ZfIxLay, ZfIxPlace, ZfIxOpen0, ZfIxOpen -/
import Derived.Test.YtokbfellcadkpaaGreatPf48
import Derived.Test.YtokbfellcadkpaaGreatPf49
import Derived.Test.YtokbfellcadkpaaGreatPf17
import Derived.Test.YtokbfellcadkpaaGreatPf46
import Derived.Test.YtokbfellcadkpaaGreatPf19
import Derived.Test.YtokbfellcadkpaaGreatPf45
namespace Go.Proofs.YtokbfellcadkpaaGreat
open Go.RowKit Go.Shelf
set_option linter.unusedVariables false
set_option maxRecDepth 100000
def takeP (D:DiskS)(n pe:Nat)(m:ManS) : Nat × DiskS:=if pe≠0 then(pe,D) else if openE D n≠0 then(openE D n,openD D n) else swapP (openD D n) m
noncomputable def tabP (D:DiskS)(n:Nat) : TbS:=⟨n,tgL (rdW D (ptT n)).1,ldF (rdW D (ptT n)).2.2 n (tgL (rdW D (ptT n)).1)⟩
noncomputable def takeX (S:IxS)(D:DiskS)(n pe:Nat)(R:LvL)(check:Int) : IxS:=if (takeP D n pe (nextM S R check)).1=0 then laidX S R check (tabP D n) S.mem else S
def Same8 (gx:Nat)(w w':World) : Prop:=w'.cell? ⟨gx,8,none⟩=w.cell? ⟨gx,8,none⟩
theorem ix_ne : (164:TypeId)≠89:=by decide
section
variable {At : Lies} (api : DiskApi At) (nap : NamesApi) (iap : ImApi At) {w0 w w' : World} {gd gx r : Nat} {S : IxS} {D : DiskS} {E : List Nat}
include api nap iap
set_option maxHeartbeats 1000000 in
theorem xtake_run (h:IxAt At w0 gd gx r S D E w)(wf:WfP D)(hc:D.count≤1000000)(n:Nat)(hn:S.m.next=(n:Nat))(hn9:n≤999999)(hseed:S.m.seed<18446744073709551616)(check:Int)(f:FuncId)(cap:Array Value)(hE:Enters Tryz.prog f)(R:LvL)(pe:Nat)
  (hpl:Calls Tryz.prog f (#[.int .i64 (n:Nat)]++cap) w (LvsEnd w R (pe:Nat))) (hR:R.flatten.length≤100000) (hL:R.length≤100000) (hop:(tgL (rdW D (ptT n)).1).length≤10000) (hT:S.T.length≤1000) :
  Calls Tryz.prog 95 #[ptr gx,.int .i64 (n:Nat),.int .i64 check,.func (.func f) #[] cap] w fun e w'=>IxEnd At w0 gd gx r (err (takeP D n pe (nextM S R check)).1) (takeX S D n pe R check) (takeP D n pe (nextM S R check)).2 E w e w'∧Same8 gx w w':=by
 obtain⟨Fm,Gr,Gk,d1,hM,d3,d4,d5,d6⟩:=h;obtain⟨gm,A,cp,B,c2,ps,hC⟩:=hM.cells;obtain⟨c0,c1,-,-,c4,-,c6,-,-⟩:=hC.cs;have HC:=Lib.hid hC;have HD:=Lib.hid (And.intro d1 (And.intro d3 (And.intro d4 (And.intro d5 d6))))
 have HERR:Hid (∀ (D':DiskS) (W:World) (N:List Nat),DS At w0 gd D' (N++(Fm++(Gr++(Gk++E)))) W→Kept (Fm++(Gr++(Gk++E))) w W→(∀ b∈N,w.heap.size≤b)→IxAt At w0 gd gx r S D' E W∧Kept E w W∧Same8 gx w W):=Lib.hid fun D' W N hd hk hN =>
  ⟨(IxAt.back hM d1 d3 d4 d5 d6 hd hk hN).less (fun b hb=>List.mem_append_right _ hb),hk.less (fun b hb=>List.mem_append_right _ (List.mem_append_right _ (List.mem_append_right _ hb))),((hk.blok hC.blok (List.mem_append_right _ (List.mem_append_left _ hC.own))).cell 8).trans (hC.blok.cell 8).symm⟩
 unfold LvsEnd at hpl;have HPL:=Lib.hid hpl;have HR:=Lib.hid hR;have HL:=Lib.hid hL;have HOP:=Lib.hid hop;have HWF:=Lib.hid wf;have HCN:=Lib.hid hc;have HN:=Lib.hid hn;have HSE:=Lib.hid hseed;have HTL:=Lib.hid hT;unfold Enters at hE;have wn:(Lit.int .i64 (n:Nat)).wf=true:=WalkArith.wf_i64 (by omega);have WN:=Lib.hid wn;have hn1:(n:Int)≤999999:=by omega
 obtain⟨k,hk⟩:∃ k,k=R.length:=⟨_,rfl⟩
 rw[← hk] at HPL;have HK:=Lib.hid hk;obtain⟨tp,htp⟩:∃ tp,takeP D n pe (nextM S R check)=tp:=⟨_,rfl⟩
 obtain⟨tx,htx⟩:∃ tx,takeX S D n pe R check=tx:=⟨_,rfl⟩
 rw[htp,htx];have HTP:=Lib.hid htp;have HTX:=Lib.hid htx;clear htp htx;clear hpl hC hM d1 d3 d4 d5 d6 hR hL hop wf hc hn hseed hT wn hn9 hk;go_enter Tryz.func95,Tryz.ntmps95;go_wp2_with fail;refine HPL.out.mono ?_;rintro e w1 ⟨A5,c5,rfl,r1,b1⟩;obtain⟨G2,hg2,hlv⟩:=r1.keep;have D1:=HD.out.1.more api b1 hg2;have K1:=Kept.of_below b1 HD.out.1.lt;by_cases hpe:pe=0
 case neg =>
  have t1:((pe:Int) != 0)=true:=by simp;omega
  have e1:takeP D n pe (nextM S R check)=(pe,D):=by unfold takeP;rw[if_pos hpe]
  have e2:takeX S D n pe R check=S:=by unfold takeX;rw[e1];exact if_neg hpe
  have HE1:=Lib.hid (HTP.out.symm.trans e1);have HE2:=Lib.hid (HTX.out.symm.trans e2);have HF:=Lib.hid (HERR.out D w1 G2 D1 K1 (fun b hb=>(hg2 b hb).1));clear r1 b1 hg2 hlv D1 K1 e1 e2 hpe c0 c1 c4 c6;go_wp2;go_ret;rw[HE1.out,HE2.out];exact⟨⟨rfl,HF.out.1,HF.out.2.1⟩,HF.out.2.2⟩
 case pos =>
  subst hpe;have c1':=(K1.blok HC.out.blok (List.mem_append_right _ (List.mem_append_left _ HC.out.own))).cell 1;have HO:=popen_all api nap D1 HWF.out (by have:=HCN.out;omega) (n:Nat) WN.out (fun _=>HOP.out);unfold OpenTEnd at HO;have HG2:=Lib.hid (And.intro hg2 (And.intro hlv (And.intro K1 b1)));have HO2:=Lib.hid HO;clear r1 b1 hg2 hlv D1 K1 HO c0 c1;by_cases ho:openE D n=0
  case neg =>
   have t1:((openE D n:Int) != 0)=true:=by simp;omega
   have e1:takeP D n 0 (nextM S R check)=(openE D n,openD D n):=by unfold takeP;rw[if_neg (by decide),if_pos ho]
   have e2:takeX S D n 0 R check=S:=by unfold takeX;rw[e1];exact if_neg ho
   have HE1:=Lib.hid (HTP.out.symm.trans e1);have HE2:=Lib.hid (HTX.out.symm.trans e2);have HO3:=Lib.hid (HO2.out.mono (fun e w' h=>(h.resolve_left (fun q=>ho q.1)).2));clear e1 e2 ho HO2 HTP HTX;generalize openE D n=oe at *;go_wp2_with fail;refine HO3.out.mono ?_;rintro e w2 ⟨rfl,d2,k2⟩;have HF:=Lib.hid (HERR.out _ w2 G2 d2 (HG2.out.2.2.1.trans (k2.less (fun b hb=>List.mem_append_right _ hb))) (fun b hb=>(HG2.out.1 b hb).1));clear d2 k2;go_wp2;go_ret;rw[HE1.out,HE2.out];exact⟨⟨rfl,HF.out.1,HF.out.2.1⟩,HF.out.2.2⟩
  case pos =>
   have HO3:=HO2.out.mono (fun e w' h=>(h.resolve_right (fun q=>q.1 ho)).2);unfold PEnd2 at HO3;have HO4:=Lib.hid HO3;have e0:takeP D n 0 (nextM S R check)=swapP (openD D n) (nextM S R check):=by unfold takeP;rw[if_neg (by decide),if_neg (fun q=>q ho)]
   have e00:takeX S D n 0 R check=if (swapP (openD D n) (nextM S R check)).1=0 then laidX S R check (tabP D n) S.mem else S:=by unfold takeX;rw[e0]
   have hzt:tabP D n=⟨n,tgL (rdW D (ptT n)).1,ldF (rdW D (ptT n)).2.2 n (tgL (rdW D (ptT n)).1)⟩:=rfl;rw[hzt] at e00;have HE1:=Lib.hid (HTP.out.symm.trans e0);have HE2:=Lib.hid (HTX.out.symm.trans e00);have wo:=wp_openD HWF.out (n:Nat);have HWO:=Lib.hid wo;clear ho HO2 HO3 e0 e00 hzt wo HOP HWF HCN HTP HTX;generalize ldF (rdW D (ptT n)).2.2 n (tgL (rdW D (ptT n)).1)=ft at *;generalize tgL (rdW D (ptT n)).1=fl at *;generalize openD D n=D2 at *;go_wp2_with fail;refine HO4.out.mono ?_;rintro e w2 ⟨gt,H,rfl,hp,d2,k2,n2⟩;have K2:Kept (Fm++(Gr++(Gk++E))) w w2:=HG2.out.2.2.1.trans (k2.less (fun b hb=>List.mem_append_right _ hb));have c4:=(K2.blok HC.out.blok (List.mem_append_right _ (List.mem_append_left _ HC.out.own))).cell 4;have hA:=(Below.refl w2.heap.size w2).alloc (Nat.le_refl _) (.cells #[.int .i64 ((n:Int)+1),.int .i64 check,.int .u64 (S.m.seed:Nat),.slice A5 k c5] 40);have BM:=Blok.new w2 40 #[.int .i64 ((n:Int)+1),.int .i64 check,.int .u64 (S.m.seed:Nat),.slice A5 k c5];have D3:=d2.more api hA (B:=[w2.heap.size]) (fun b hb=>by rw[List.mem_singleton.1 hb];exact⟨Nat.le_refl _,BM.lt⟩);have K3:Kept (H++(G2++(Fm++(Gr++(Gk++E))))) w2 (w2.alloc (.cells #[.int .i64 ((n:Int)+1),.int .i64 check,.int .u64 (S.m.seed:Nat),.slice A5 k c5] 40)):=Kept.of_below hA d2.lt;obtain⟨gb,hgb⟩:∃ gb,w2.heap.size=gb:=⟨_,rfl⟩
   rw[hgb] at BM D3;obtain⟨w3,hw3⟩:∃ w3,w2.alloc (.cells #[.int .i64 ((n:Int)+1),.int .i64 check,.int .u64 (S.m.seed:Nat),.slice A5 k c5] 40)=w3:=⟨_,rfl⟩
   rw[hw3] at BM D3 K3 hA;have HGB:=Lib.hid (show w.heap.size≤gb from by have:=K2.size;omega);have P3:=Lib.hid (hp.below hA);have D4:=D3.drew api;have LV3:LvKeep w3.drew (.slice A5 k c5) R G2:=(HG2.out.2.1.step (k2.less (fun b hb=>List.mem_append_left _ hb))).step ((K3.less (fun b hb=>List.mem_append_right _ (List.mem_append_left _ hb))).drew);have hNk:∀ b∈G2,b∈[gb]++(H++(G2++(Fm++(Gr++(Gk++E))))):=fun b hb=>List.mem_append_right _ (List.mem_append_right _ (List.mem_append_left _ hb))
   have HO:Holds w0 ([gb]++(H++(G2++(Fm++(Gr++(Gk++E)))))) w3.drew (.slice A5 k c5) R:=fun W _ hkW=>LV3 W (hkW.less hNk)
   have HSW:=Lib.hid (iap.swap ((n:Int)+1) check S.m.seed A5 k c5 R D4 HWO.out HO HK.out HR.out HL.out HSE.out);have K4:Kept (Fm++(Gr++(Gk++E))) w w3.drew:=(K2.trans (K3.less (fun b hb=>List.mem_append_right _ (List.mem_append_right _ hb)))).drew;have HK4:=Lib.hid K4;have HLV:=Lib.hid LV3;have HBM:=Lib.hid BM
   have hN2:∀ b∈[gb]++(H++G2),w.heap.size≤b:=fun b hb=>by
    have:=HG2.out.2.2.2.size;rcases List.mem_append.1 hb with q | q
    ·rw[List.mem_singleton.1 q];exact HGB.out
    ·rcases List.mem_append.1 q with q | q
     ·have:=n2 b q;omega
     ·exact(HG2.out.1 b q).1
   have HN2:=Lib.hid hN2;have c1:w3.drew.cell? ⟨gx,1,none⟩=some (ptr gd):=(K4.blok HC.out.blok (List.mem_append_right _ (List.mem_append_left _ HC.out.own))).cell 1;obtain⟨m0,m1,m2,m3⟩:=four_cells BM;have hS0:w3.drew.cell? ⟨gx,1,none⟩=some (ptr gd)∧w3.drew.cell? ⟨gb,0,none⟩=some (.int .i64 ((n:Int)+1))∧w3.drew.cell? ⟨gb,1,none⟩=some (.int .i64 check)∧w3.drew.cell? ⟨gb,2,none⟩=some (.int .u64 (S.m.seed:Nat))∧w3.drew.cell? ⟨gb,3,none⟩=some (.slice A5 k c5):=⟨c1,m0,m1,m2,m3⟩
   have hM2:nextM S R check=⟨(n:Int)+1,check,S.m.seed,R⟩:=by unfold nextM;rw[HN.out]
   rw[hM2] at HE1 HE2;unfold DEnd at HSW;unfold manV at HSW;clear hA D3 K3 K2 D4 LV3 HO K4 BM hN2 c1 m0 m1 m2 m3 hp d2 k2 n2 hNk hM2;generalize hsp:swapP D2 ⟨(n:Int)+1,check,S.m.seed,R⟩=sp at *
   have HCK:Hid (∀ W,Kept ([gb]++(H++(G2++(Fm++(Gr++(Gk++E)))))) w3.drew W→W.cell? ⟨gx,1,none⟩=some (ptr gd)∧W.cell? ⟨gb,0,none⟩=some (.int .i64 ((n:Int)+1))∧W.cell? ⟨gb,1,none⟩=some (.int .i64 check)∧W.cell? ⟨gb,2,none⟩=some (.int .u64 (S.m.seed:Nat))∧W.cell? ⟨gb,3,none⟩=some (.slice A5 k c5)):=Lib.hid fun W hkW=>by
    have B1:=(HK4.out.trans (hkW.less (fun b hb=>List.mem_append_right _ (List.mem_append_right _ (List.mem_append_right _ hb))))).blok HC.out.blok (List.mem_append_right _ (List.mem_append_left _ HC.out.own));have B2:=hkW.blok HBM.out.drew (List.mem_append_left _ List.mem_cons_self);exact⟨B1.cell 1,four_cells B2⟩
   clear hsp;go_wp2_with fail
   go_region_held3 (fun W=>W.cell? ⟨gx,1,none⟩=some (ptr gd)∧W.cell? ⟨gb,0,none⟩=some (.int .i64 ((n:Int)+1))∧W.cell? ⟨gb,1,none⟩=some (.int .i64 check)∧W.cell? ⟨gb,2,none⟩=some (.int .u64 (S.m.seed:Nat))∧W.cell? ⟨gb,3,none⟩=some (.slice A5 k c5))
    (first | (with_reducible assumption) | fail)
    (first
    | (go_at_call 164;((with_reducible refine HSW.out.mono ?_);rintro e w4 ⟨rfl,d4,k4⟩;have hS4:=HCK.out w4 k4))
    | fail)
   obtain⟨sp1,D5⟩:=sp;simp only at d4 hS4 HE1 HE2
   have d5:DS At w0 gd D5 (([gb]++(H++G2))++(Fm++(Gr++(Gk++E)))) w4:=by
    rw[List.append_assoc,List.append_assoc];exact d4
   have K5:Kept (Fm++(Gr++(Gk++E))) w w4:=HK4.out.trans (k4.less (fun b hb=>List.mem_append_right _ (List.mem_append_right _ (List.mem_append_right _ hb))));have LV5:LvKeep w4 (.slice A5 k c5) R G2:=HLV.out.step (k4.less (fun b hb=>List.mem_append_right _ (List.mem_append_right _ (List.mem_append_left _ hb))));have P5:=P3.out.drew.keep k4 (fun b hb=>List.mem_append_right _ (List.mem_append_left _ hb));have BM5:=k4.blok HBM.out.drew (List.mem_append_left _ List.mem_cons_self);by_cases hsp0:sp1=0
   case neg =>
    have t1:((sp1:Int) != 0)=true:=by simp;omega
    have HF:=Lib.hid (HERR.out D5 w4 _ d5 K5 HN2.out);have HE3:=Lib.hid (show tx=S from by rw[HE2.out];exact if_neg hsp0);clear d4 d5 k4 K5 LV5 P5 BM5 hsp0 hS4;go_wp2;go_ret;rw[HE1.out,HE3.out];exact⟨⟨rfl,HF.out.1,HF.out.2.1⟩,HF.out.2.2⟩
   case pos =>
    subst hsp0;have HAL:=lall_any (.slice A5 k c5) R w4 LV5.now HR.out HL.out;unfold IntsOut at HAL;have HAL2:=Lib.hid HAL;have H5:=Lib.hid (And.intro d5 (And.intro K5 (And.intro LV5 (And.intro P5 BM5))));obtain⟨kf,hkf⟩:∃ kf,kf=R.flatten.length:=⟨_,rfl⟩
    rw[← hkf] at HAL2;have HKF:=Lib.hid hkf;clear d4 d5 k4 K5 LV5 P5 BM5 hS4 HAL hkf;go_wp2_with fail;refine HAL2.out.mono ?_;rintro e w5 ⟨A6,c6',rfl,r6,b6⟩;have hA6:=(Below.refl w5.heap.size w5).alloc (Nat.le_refl _) (.cells #[.slice A6 kf c6'] 96);have B6:=Blok.new w5 96 #[.slice A6 kf c6'];obtain⟨g6,hg6⟩:∃ g6,w5.heap.size=g6:=⟨_,rfl⟩
    rw[hg6] at B6;obtain⟨w6,hw6⟩:∃ w6,w5.alloc (.cells #[.slice A6 kf c6'] 96)=w6:=⟨_,rfl⟩
    rw[hw6] at hA6 B6;have b46:Below w4.heap.size w4 w6:=b6.trans (hA6.mono b6.size);have hlt4:=H5.out.1.lt;have K46:Kept (([gb]++(H++G2))++(Fm++(Gr++(Gk++E)))) w4 w6:=Kept.of_below b46 hlt4;have K6:Kept (Fm++(Gr++(Gk++E))) w w6:=H5.out.2.1.trans (K46.less (fun b hb=>List.mem_append_right _ hb));have cB6:=K6.blok HC.out.blok (List.mem_append_right _ (List.mem_append_left _ HC.out.own));have c6:=cB6.cell 6;have c6z:=cB6.frozen 6;have R6:=K6.prow HC.out.row (fun b hb=>List.mem_append_right _ (List.mem_append_left _ (HC.out.rowOwn b hb)));have T6:=HC.out.tabs.keep K6 (fun b hb=>List.mem_append_right _ (List.mem_append_right _ (List.mem_append_left _ hb)));have I6:IntsIn w6 (.slice A6 kf c6') R.flatten:=(IRow.in_ r6).below hA6 (Nat.le_refl _);have ho6:∀ b∈ownL (.slice A6 kf c6'),w4.heap.size≤b∧b<w5.heap.size:=fun b hb=>r6.lt b (ownL_mem.1 hb)
    have hrl:∀ b∈ownL (.slice B ps.length c2),b∈Gr∧b<w4.heap.size:=fun b hb=>⟨HC.out.rowOwn b hb,hlt4 b (List.mem_append_right _ (List.mem_append_right _ (List.mem_append_left _ (HC.out.rowOwn b hb))))⟩
    have HDL:=Lib.hid (del_any (E:=Gk++(g6::ownL (.slice A6 kf c6'))) T6 R6 B6 I6 (by have:=HR.out;omega) (by rw[HC.out.tabs.1];exact HTL.out) (fun b hb=>List.mem_append_left _ hb) (List.mem_append_right _ List.mem_cons_self) (fun b hb=>List.mem_append_right _ (List.mem_cons_of_mem _ hb)) (fun b hb=>by
     have z5:=b6.size;have z6:=hA6.size;rcases List.mem_append.1 hb with q | q
     ·refine⟨fun hm=>(HD.out.2.2.1 b (hrl b hm).1).1 q, ?_⟩;have:=hlt4 b (List.mem_append_right _ (List.mem_append_right _ (List.mem_append_right _ (List.mem_append_left _ q))));omega
     ·rcases List.mem_cons.1 q with e | q
      ·refine⟨fun hm=>?_,by rw[e];exact B6.lt⟩;have:=(hrl b hm).2;omega
      ·refine⟨fun hm=>?_,by have:=(ho6 b q).2;omega⟩;have:=(hrl b hm).2;have:=(ho6 b q).1;omega))
    have HGX:=Lib.hid (show gx ∉ ownL (.slice B ps.length c2) from fun hm=>own_ne R6 cB6 ix_ne (ownL_mem.1 hm));have HRL:=Lib.hid (fun(b:Nat) (hb:b∈ownL (.slice B ps.length c2))=>(show b<w.heap.size from HD.out.1.lt b (List.mem_append_right _ (List.mem_append_left _ (hrl b hb).1))));have HB46:=Lib.hid (And.intro b46 (And.intro K46 (And.intro K6 cB6)));have hmf:∀ (fn:Fn) (first cap:Array Value) (w:World),(Instr.makeFunc fn first cap).run Tryz.prog w = .ok (.func fn first cap) w:=fun _ _ _ _=>rfl
    clear r6 b6 hA6 B6 b46 hlt4 K46 K6 cB6 R6 T6 I6 ho6 hrl;go_wp2_with fail;refine HDL.out.mono ?_;rintro e w7 ⟨u,rfl,r7,o7,t7⟩;obtain⟨B7,c7,rfl,-,-,-⟩:=r7.form
    have hll:(leftP ps S.T R.flatten).length≤1000:=by
     unfold leftP;rw[List.length_map];refine Nat.le_trans (List.length_filter_le _ _) ?_;rw[List.length_zip];have:=HTL.out;omega
    obtain⟨n7,hn7⟩:∃ n7,n7=(leftP ps S.T R.flatten).length:=⟨_,rfl⟩
    rw[← hn7] at r7 o7;rw[← hn7];have X7:=HB46.out.2.2.2.touch t7 HGX.out;have x6:=X7.cell 6;have f6:=X7.frozen 6;have X8:=X7.put 6 (.slice B7 n7 c7);have hne7:(Value.slice B7 n7 c7).ownBlock≠some gx:=fun e=>HGX.out (by rw[← o7];exact ownL_mem.2 e)
    have r8:PRow (w7.setCell ⟨gx,6,none⟩ (.slice B7 n7 c7)) w0.heap.size (.slice B7 n7 c7) (leftP ps S.T R.flatten):=own_far (p:=⟨gx,6,none⟩) r7 hne7 _;have t8:Touch (gx::ownL (.slice B ps.length c2)) w4 (w7.setCell ⟨gx,6,none⟩ (.slice B7 n7 c7)):=(((Touch.of_below HB46.out.1).more (fun x hx=>by cases hx)).trans t7 (fun x hx=>Or.inl (List.mem_cons_of_mem _ hx))).setCell (p:=⟨gx,6,none⟩) (Or.inl List.mem_cons_self) _;have hgbr:gb ∉ ownL (.slice B ps.length c2):=fun hm=>by have:=HRL.out gb hm;have:=HGB.out;omega
    have hgbx:gx≠gb:=fun e=>by
     have h1:=HD.out.1.lt gx (List.mem_append_right _ (List.mem_append_left _ HC.out.own));have:=HGB.out;omega
    have M8:=((Blok.below H5.out.2.2.2.2 HB46.out.1).touch t7 hgbr).far (p:=⟨gx,6,none⟩) (fun e=>hgbx e.symm) (.slice B7 n7 c7);obtain⟨w8,hw8⟩:∃ w8,w7.setCell ⟨gx,6,none⟩ (.slice B7 n7 c7)=w8:=⟨_,rfl⟩
    rw[hw8] at r8 t8 X8 M8;have c6:=X8.cell 6;have hz8:w0.heap.size≤w8.heap.size:=by have:=HD.out.1.kept.size;have:=H5.out.2.1.size;have:=t8.size;omega
    obtain⟨A9,c9,w9,e9,r9,t9,o9⟩:=prow_append gt 86 r8 hn7 (by omega) hz8;have X9:=X8.touch t9 (fun hm=>HGX.out (by rw[← o7];exact hm));have M9:=M8.touch t9 (fun hm=>hgbr (by rw[← o7];exact hm));have y6:=X9.cell 6;have g9:=X9.frozen 6;have X10:=X9.put 6 (.slice A9 (n7+1) c9);have M10:=M9.far (p:=⟨gx,6,none⟩) (fun e=>hgbx e.symm) (.slice A9 (n7+1) c9);have hne9:(Value.slice A9 (n7+1) c9).ownBlock≠some gx:=own_ne r9 X9 ix_ne;have r10:PRow (w9.setCell ⟨gx,6,none⟩ (.slice A9 (n7+1) c9)) w0.heap.size (.slice A9 (n7+1) c9) (leftP ps S.T R.flatten++[gt]):=own_far (p:=⟨gx,6,none⟩) r9 hne9 _;have t10:Touch (gx::ownL (.slice B ps.length c2)) w4 (w9.setCell ⟨gx,6,none⟩ (.slice A9 (n7+1) c9)):=(t8.trans t9 (fun x hx=>Or.inl (List.mem_cons_of_mem _ (by rw[← o7];exact hx)))).setCell (p:=⟨gx,6,none⟩) (Or.inl List.mem_cons_self) _
    have HO9:=Lib.hid (fun(b:Nat) (hb:b∈ownL (.slice A9 (n7+1) c9))=>(show b∈ownL (.slice B ps.length c2)∨(w4.heap.size≤b∧b<w9.heap.size) from by
     rcases o9 b hb with q | q
     ·exact Or.inl (by rw[← o7];exact q)
     ·exact Or.inr ⟨Nat.le_trans t8.size q.1,q.2⟩))
    have HE9:=Lib.hid e9;have hz9:(w9.setCell ⟨gx,6,none⟩ (.slice A9 (n7+1) c9)).heap.size=w9.heap.size:=by simp[World.setCell]
    obtain⟨w10,hw10⟩:∃ w10,w9.setCell ⟨gx,6,none⟩ (.slice A9 (n7+1) c9)=w10:=⟨_,rfl⟩
    rw[hw10] at r10 t10 X10 M10 hz9;obtain⟨m0,m1,m2,m3⟩:=four_cells M10;have z2:=X10.cell 2;have z3:=X10.cell 3;have z4:=X10.cell 4;have z5:=X10.cell 5;have v2:=X10.frozen 2;have v3:=X10.frozen 3;have v4:=X10.frozen 4;have v5:=X10.frozen 5;have HX10:=Lib.hid (And.intro X10 (And.intro r10 (And.intro t10 hz9)));clear r7 o7 t7 hll X7 X8 hne7 r8 t8 hgbr hgbx M8 hz8 e9 r9 t9 o9 X9 M9 X10 M10 hne9 r10 t10 hz9 hn7;go_wp2_with (first | (at_builtin;refine wpList_append_two rfl _ _ rfl rfl rfl HE9.out ?_) | fail);go_ret;have HE3:=HE2.out;rw[if_pos (by trivial)] at HE3;rw[HE1.out,HE3];obtain⟨X10,r10,t10,hz9⟩:=HX10.out;have q1:=r10
    have F1:Blok ((((w10.setCell ⟨gx,2,none⟩ (.int .i64 ((n:Int)+1))).setCell ⟨gx,3,none⟩ (.int .i64 check)).setCell ⟨gx,4,none⟩ (.int .u64 (S.m.seed:Nat))).setCell ⟨gx,5,none⟩ (.slice A5 k c5)) gx 89 #[ptr gx,ptr gd,.int .i64 (S.m.next+1),.int .i64 check,.int .u64 (S.m.seed:Nat),.slice A5 k c5,.slice A9 (n7+1) c9,.float .f64 r,mtp gm]:=by
     rw[HN.out];exact(((X10.put 2 _).put 3 _).put 4 _).put 5 _
    have hne10:(Value.slice A9 (n7+1) c9).ownBlock≠some gx:=own_ne r10 X10 ix_ne;have F2:PRow ((((w10.setCell ⟨gx,2,none⟩ (.int .i64 ((n:Int)+1))).setCell ⟨gx,3,none⟩ (.int .i64 check)).setCell ⟨gx,4,none⟩ (.int .u64 (S.m.seed:Nat))).setCell ⟨gx,5,none⟩ (.slice A5 k c5)) w0.heap.size (.slice A9 (n7+1) c9) (leftP ps S.T R.flatten++[gt]):=own_far (own_far (own_far (own_far r10 hne10 _) hne10 _) hne10 _) hne10 _;have F3:Touch (gx::ownL (.slice B ps.length c2)) w4 ((((w10.setCell ⟨gx,2,none⟩ (.int .i64 ((n:Int)+1))).setCell ⟨gx,3,none⟩ (.int .i64 check)).setCell ⟨gx,4,none⟩ (.int .u64 (S.m.seed:Nat))).setCell ⟨gx,5,none⟩ (.slice A5 k c5)):=(((t10.setCell (p:=⟨gx,2,none⟩) (Or.inl List.mem_cons_self) _).setCell (p:=⟨gx,3,none⟩) (Or.inl List.mem_cons_self) _).setCell (p:=⟨gx,4,none⟩) (Or.inl List.mem_cons_self) _).setCell (p:=⟨gx,5,none⟩) (Or.inl List.mem_cons_self) _;have F4:((((w10.setCell ⟨gx,2,none⟩ (.int .i64 ((n:Int)+1))).setCell ⟨gx,3,none⟩ (.int .i64 check)).setCell ⟨gx,4,none⟩ (.int .u64 (S.m.seed:Nat))).setCell ⟨gx,5,none⟩ (.slice A5 k c5)).heap.size=w9.heap.size:=by simp only[World.setCell,Array.size_modify] at hz9 ⊢;exact hz9
    obtain⟨d5,K5,LV5,P5,BM5⟩:=H5.out;obtain⟨d1,d3,d4,d5',d6⟩:=HD.out
    have HT:=take_fin (N:=[gb]++(H++G2)) (G2:=G2) (H:=H) api HC.out d1 d3 d4 d5' d6 d5 K5 HN2.out LV5 (fun b hb=>List.mem_append_right _ (List.mem_append_right _ hb)) P5 (fun b hb=>List.mem_append_right _ (List.mem_append_left _ hb)) HN.out F3 F1 F2 (fun b hb=>by
     rcases HO9.out b hb with q | q
     ·exact Or.inl q
     ·exact Or.inr ⟨q.1,by rw[F4];exact q.2⟩)
    exact⟨⟨rfl,HT⟩,(F1.cell 8).trans (HC.out.blok.cell 8).symm⟩
end
end Go.Proofs.YtokbfellcadkpaaGreat
namespace Go.Proofs.YtokbfellcadkpaaGreat
open Go.RowKit Go.Shelf
set_option linter.unusedVariables false
set_option maxRecDepth 100000
def layI (D:DiskS)(n:Nat)(l:List EntS)(t:ByteArray)(pe:Nat)(m:ManS) : Nat × DiskS :=
 if (writeP D n l t).1≠0 then writeP D n l t
 else if (takeP (writeP D n l t).2 n pe m).1≠0 then((takeP (writeP D n l t).2 n pe m).1,(dropP (takeP (writeP D n l t).2 n pe m).2 n).2)
 else takeP (writeP D n l t).2 n pe m
noncomputable def layIX (S:IxS)(D:DiskS)(n:Nat)(l:List EntS)(t:ByteArray)(pe:Nat)(R:LvL)(check:Int) : IxS:=if (writeP D n l t).1≠0 then S else takeX S (writeP D n l t).2 n pe R check
theorem wp_take {D:DiskS}(h:WfP D)(n pe:Nat)(m:ManS) : WfP (takeP D n pe m).2:=by
 unfold takeP;split
 ·exact h
 ·split
  ·exact wp_openD h _
  ·exact wp_swap (wp_openD h _) m
section
variable {At : Lies} (api : DiskApi At) (nap : NamesApi) (iap : ImApi At) {w0 w w' : World} {gd gx r : Nat} {S : IxS} {D : DiskS} {E : List Nat}
theorem IxAt.quiet8 {D':DiskS}(h:IxAt At w0 gd gx r S D E w){P:Program}{f:FuncId}{args:Array Value}{Q:Ending→World→Prop}
  (hc:∀ E',(∀ b∈E,b∈E')→DS At w0 gd D E' w→Calls P f args w fun e w'=>DS At w0 gd D' E' w'∧Kept E' w w'∧Q e w'):Calls P f args w fun e w'=>IxAt At w0 gd gx r S D' E w'∧Kept E w w'∧Same8 gx w w'∧Q e w':=by
 obtain⟨Fm,Gr,Gk,h1,h2,h3,h4,h5,h6⟩:=h;obtain⟨gm,A,cp,B,c2,ps,hC⟩:=h2.cells;refine(hc _ (fun b hb=>List.mem_append_right _ (List.mem_append_right _ (List.mem_append_right _ hb))) h1).mono ?_;rintro e w' ⟨d,k,q⟩;refine⟨IxAt.back (N:=[]) h2 h1 h3 h4 h5 h6 d k (fun b hb=>by cases hb),k.less (fun b hb=>List.mem_append_right _ (List.mem_append_right _ (List.mem_append_right _ hb))), ?_,q⟩;exact((k.blok hC.blok (List.mem_append_right _ (List.mem_append_left _ hC.own))).cell 8).trans (hC.blok.cell 8).symm
include api nap iap
set_option maxHeartbeats 1000000 in
theorem xlay_run (h:IxAt At w0 gd gx r S D E w)(wf:WfP D)(hd:D.down=false)(hc:D.count≤1000000)(n:Nat)(hn:S.m.next=(n:Nat))(hn9:n≤999999)(hseed:S.m.seed<18446744073709551616)(hr:r<18446744073709551616)
  (v:Value) (l:List EntS) (hv:EntsIn w v l) (hvE:∀ b∈ownL v,b∈E) (hl:l.length≤1000) (hok:∀ x∈l,EntOk x) (ht:tbOk l=true)
  (check:Int) (f:FuncId) (cap:Array Value) (hE:Enters Tryz.prog f) (R:LvL) (pe:Nat)
  (hpl:∀ W D',IxAt At w0 gd gx r S D' E W→Kept E w W→Calls Tryz.prog f (#[.int .i64 (n:Nat)]++cap) W (LvsEnd W R (pe:Nat))) (hR:R.flatten.length≤100000) (hL:R.length≤100000)
  (hop:∀ t,FltOf l r t→(writeP D n l t).1=0→(tgL (rdW (writeP D n l t).2 (ptT n)).1).length≤10000) (hT:S.T.length≤1000) :
  Calls Tryz.prog 36 #[ptr gx,v,.int .i64 check,.func (.func f) #[] cap] w fun e w'=>∃ t,FltOf l r t∧IxEnd At w0 gd gx r (err (layI D n l t pe (nextM S R check)).1) (layIX S D n l t pe R check) (layI D n l t pe (nextM S R check)).2 E w e w'∧Same8 gx w w':=by
 have hI:=h;obtain⟨Fm,Gr,Gk,d1,hM,d3,d4,d5,d6⟩:=h;obtain⟨gm,A,cp,B,c2,ps,hC⟩:=hM.cells;obtain⟨c0,c1,c2',-,-,-,-,c7,-⟩:=hC.cs;rw[hn] at c2';have wn:(Lit.int .i64 (n:Nat)).wf=true:=WalkArith.wf_i64 (by omega);have hvn:EntsIn w.drew v l:=hv.below (Below.refl _ _).drew (Nat.le_refl _);have hW:=pwrite_run api nap (d1.drew api) wf (n:Nat) wn v l hvn hl hok r hr (pt_full hn9) ht hd;have HWR:=Lib.hid hW;have hS0:w.drew.cell? ⟨gx,1,none⟩=some (ptr gd)∧w.drew.cell? ⟨gx,7,none⟩=some (.float .f64 r):=⟨c1,c7⟩
 have HI:=Lib.hid hI
 have HBK:Hid (∀ (D':DiskS) (W:World),DS At w0 gd D' (Fm++(Gr++(Gk++E))) W→Kept (Fm++(Gr++(Gk++E))) w.drew W→IxAt At w0 gd gx r S D' E W∧Kept E w W∧(W.cell? ⟨gx,1,none⟩=some (ptr gd)∧W.cell? ⟨gx,7,none⟩=some (.float .f64 r))∧Same8 gx w W):=Lib.hid fun D' W hd hk=>by
  have hk2:Kept (Fm++(Gr++(Gk++E))) w W:=(Kept.refl _ w).drew.trans hk;have B1:=hk2.blok hC.blok (List.mem_append_right _ (List.mem_append_left _ hC.own));exact⟨IxAt.back (N:=[]) hM d1 d3 d4 d5 d6 hd hk2 (fun b hb=>by cases hb),hk2.less (fun b hb=>List.mem_append_right _ (List.mem_append_right _ (List.mem_append_right _ hb))),⟨B1.cell 1,B1.cell 7⟩,(B1.cell 8).trans (hC.blok.cell 8).symm⟩
 have HTK:Hid (∀ t,FltOf l r t→(writeP D n l t).1=0→∀ W,IxAt At w0 gd gx r S (writeP D n l t).2 E W→Kept E w W→Calls Tryz.prog 95 #[ptr gx,.int .i64 (n:Nat),.int .i64 check,.func (.func f) #[] cap] W fun e w'=>(IxEnd At w0 gd gx r (err (takeP (writeP D n l t).2 n pe (nextM S R check)).1) (takeX S (writeP D n l t).2 n pe R check) (takeP (writeP D n l t).2 n pe (nextM S R check)).2 E W e w'∧Same8 gx W w')):=Lib.hid fun t ht h0 W hW hk =>
  xtake_run api nap iap hW (wp_write wf _ _ _) (by rw[(sd_write D n l t).count];exact hc) n hn hn9 hseed check f cap hE R pe (hpl W _ hW hk) hR hL (hop t ht h0) hT
 have HDR:Hid (∀ t (S':IxS) W,IxAt At w0 gd gx r S' (takeP (writeP D n l t).2 n pe (nextM S R check)).2 E W→Calls Tryz.prog 47 #[ptr gd,.int .i64 (n:Nat)] W fun e w'=>IxAt At w0 gd gx r S' (dropP (takeP (writeP D n l t).2 n pe (nextM S R check)).2 n).2 E w'∧Kept E W w'∧Same8 gx W w'∧e = .returned (err (dropP (takeP (writeP D n l t).2 n pe (nextM S R check)).2 n).1)):=Lib.hid fun t S' W hW =>
  hW.quiet8 (fun E' _ hd=>(pdrop_run api nap hd (wp_take (wp_write wf _ _ _) _ _ _) (n:Nat) wn).mono fun e w' h=>⟨h.2.1,h.2.2,h.1⟩)
 have HGX1:Hid (∀ (S':IxS) (D':DiskS) W,IxAt At w0 gd gx r S' D' E W→W.cell? ⟨gx,1,none⟩=some (ptr gd)):=Lib.hid fun S' D' W hW=>by
  obtain⟨_,_,_,_,hM',_⟩:=hW;obtain⟨_,_,_,_,_,_,hC'⟩:=hM'.cells;exact hC'.cs.2.1
 obtain⟨Av,ov,cv,rfl,-,-⟩:=hv.form;obtain⟨nv,hnv⟩:∃ nv,nv=l.length:=⟨_,rfl⟩
 rw[← hnv] at HWR ⊢;clear hI d1 hM hC d3 d4 d5 d6 wf hd hc hn hn9 hseed hr hv hvE hl hok ht hE hpl hR hL hop hT wn hvn hW hnv c0;go_enter Tryz.func36,Tryz.ntmps36;go_wp2_with fail
 go_region_held3 (fun W=>W.cell? ⟨gx,1,none⟩=some (ptr gd)∧W.cell? ⟨gx,7,none⟩=some (.float .f64 r))
  (first | (with_reducible assumption) | fail)
  (first
  | (go_at_call 94;((with_reducible refine HWR.out.mono ?_);rintro e w4 ⟨t,hft,rfl,d4,k4⟩;have hI4:=HBK.out _ w4 d4 k4;have hS4:=hI4.2.2.1))
  | fail)
 have HI4:=Lib.hid hI4;have HFT:=Lib.hid hft;clear hI4 d4 k4 hft HWR HBK hS0;by_cases hw0:(writeP D n l t).1=0
 case neg =>
  have t1:(((writeP D n l t).1:Int) != 0)=true:=by simp;omega
  have HE:Hid (layI D n l t pe (nextM S R check)=writeP D n l t∧layIX S D n l t pe R check=S):=Lib.hid ⟨by unfold layI;rw[if_pos hw0],by unfold layIX;rw[if_pos hw0]⟩;clear hw0 hS4;have HQ:=Lib.hid (show ∀ z,(writeP D n l t).1=z→(writeP D n l t).1=z from fun z h=>h);obtain⟨z,hz⟩:∃ z,(writeP D n l t).1=z:=⟨_,rfl⟩
  have HZ:=Lib.hid hz;rw[hz] at t1 ⊢;clear hz;go_wp2;go_ret;refine⟨t,HFT.out, ?_⟩;rw[HE.out.1,HE.out.2,HZ.out];exact⟨⟨rfl,HI4.out.1,HI4.out.2.1⟩,HI4.out.2.2.2⟩
 case pos =>
  have t1:(((writeP D n l t).1:Int) != 0)=false:=by rw[hw0];rfl
  have HTK2:=HTK.out t HFT.out hw0 w4 HI4.out.1 HI4.out.2.1;have HDR2:=Lib.hid (HDR.out t);unfold IxEnd at HTK2;have HTK3:=Lib.hid HTK2;have HE:Hid (((takeP (writeP D n l t).2 n pe (nextM S R check)).1=0→layI D n l t pe (nextM S R check)=takeP (writeP D n l t).2 n pe (nextM S R check))∧((takeP (writeP D n l t).2 n pe (nextM S R check)).1≠0→layI D n l t pe (nextM S R check)=((takeP (writeP D n l t).2 n pe (nextM S R check)).1,(dropP (takeP (writeP D n l t).2 n pe (nextM S R check)).2 n).2))∧layIX S D n l t pe R check=takeX S (writeP D n l t).2 n pe R check):=Lib.hid ⟨fun q=>by unfold layI;rw[if_neg (fun h=>h hw0),if_neg (fun h=>h q)],fun q=>by unfold layI;rw[if_neg (fun h=>h hw0),if_pos q],by unfold layIX;rw[if_neg (fun h=>h hw0)]⟩;rw[hw0];clear HTK HDR HTK2 hw0 t1 hS4;generalize takeX S (writeP D n l t).2 n pe R check=tx at *;generalize takeP (writeP D n l t).2 n pe (nextM S R check)=tp at *;obtain⟨tp1,D5⟩:=tp;simp only at HTK3 HDR2 HE;go_wp2_with fail;refine HTK3.out.mono ?_;rintro e w5 ⟨⟨rfl,i5,k5⟩,s5⟩;have H5:=Lib.hid (And.intro i5 (And.intro (HI4.out.2.1.trans k5) (s5.trans HI4.out.2.2.2)));have c1:=HGX1.out _ _ _ i5;clear i5 k5 s5 HTK3;by_cases ht0:tp1=0
  case pos =>
   subst ht0;go_wp2;go_ret;refine⟨t,HFT.out, ?_⟩;rw[HE.out.1 (by trivial),HE.out.2.2];exact⟨⟨rfl,H5.out.1,H5.out.2.1⟩,H5.out.2.2⟩
  case neg =>
   have t1:((tp1:Int) != 0)=true:=by simp;omega
   have HT0:=Lib.hid ht0;have HD5:=Lib.hid (HDR2.out tx w5 H5.out.1);clear ht0 HDR2;go_wp2_with fail;refine HD5.out.mono ?_;rintro e w6 ⟨i6,k6,s6,rfl⟩;have H6:=Lib.hid (And.intro i6 (And.intro (H5.out.2.1.trans k6) (s6.trans H5.out.2.2)));clear i6 k6 s6;go_wp2;go_ret;refine⟨t,HFT.out, ?_⟩;rw[HE.out.2.1 HT0.out,HE.out.2.2];exact⟨⟨rfl,H6.out.1,H6.out.2.1⟩,H6.out.2.2⟩
end
end Go.Proofs.YtokbfellcadkpaaGreat
namespace Go.Proofs.YtokbfellcadkpaaGreat
open Go.RowKit Go.Shelf
set_option linter.unusedVariables false
set_option maxRecDepth 100000
theorem addL_small (L:LvL)(n:Int) : (addL L n).length≤5∧(addL L n).flatten.length≤41:=by
 by_cases h:addLE L n=0
 ·have:=addL_ok h;exact⟨this.1.1,by have:=this.1.2.1;omega⟩
 ·unfold addL;rw[if_neg h];exact⟨Nat.zero_le _,Nat.zero_le _⟩
section
variable {At : Lies} (api : DiskApi At) {w0 w W : World} {gd gx r gb gk : Nat} {S : IxS} {D : DiskS} {E : List Nat}
theorem IxAt.lvs (h:IxAt At w0 gd gx r S D E w) : ∃ A cp,w.cell? ⟨gx,5,none⟩=some (.slice A S.m.lv.length cp)∧LvsHas w (.slice A S.m.lv.length cp) S.m.lv:=by
 obtain⟨Fm,Gr,Gk,-,hM,-⟩:=h;obtain⟨gm,A,cp,B,c2,ps,hC⟩:=hM.cells;exact⟨A,cp,hC.cs.2.2.2.2.2.1,hC.lv.now⟩
theorem fplace_run (h:IxAt At w0 gd gx r S D E W)(hm:MayM S.m)(hb:Blok W gb 33 #[ptr gx])(n:Int)(k:Nat)(hk:addLE S.m.lv n=(k:Nat)) :
  Calls Tryz.prog 39 (#[.int .i64 n]++#[ptr gb]) W (LvsEnd W (addL S.m.lv n) (k:Nat)):=by
 obtain⟨A,cp,c5,hv⟩:=h.lvs;have b0:=hb.cell 0;have HA:=ladd_any _ S.m.lv n W hv (by have:=hm.2.2.2.2.1.2.1;omega) (by have:=hm.2.2.2.2.1.1;omega);rw[hk] at HA;unfold LvsEnd at HA ⊢;have HA2:=Lib.hid HA;show Calls Tryz.prog 39 #[.int .i64 n,ptr gb] W _;obtain⟨m,hmm⟩:∃ m,m=(addL S.m.lv n).length:=⟨_,rfl⟩
 have HMM:=Lib.hid hmm;rw[← hmm] at HA2 ⊢;clear h hm hb hk hv HA hmm;generalize addL S.m.lv n=R at *;go_enter Tryz.func39,Tryz.ntmps39;go_wp2_with fail;refine HA2.out.mono ?_;rintro e w1 ⟨A1,c1,rfl,r1,b1⟩;have H1:=Lib.hid (And.intro r1 b1);clear r1 b1;go_wp2;go_ret2;exact⟨A1,c1,rfl,H1.out.1,H1.out.2⟩
end
end Go.Proofs.YtokbfellcadkpaaGreat
namespace Go.Proofs.YtokbfellcadkpaaGreat
open Go.RowKit Go.Shelf
set_option linter.unusedVariables false
set_option maxRecDepth 100000
theorem rdW_same (D:DiskS)(k:Nat)(n:ByteArray)(hd:D.down=false) : (rdW { D with count:=k } n).1=(rdW D n).1∧(rdW { D with count:=k } n).2.1=(rdW D n).2.1∧∃ j,j≤1∧(rdW { D with count:=k } n).2.2={ D with count:=k+j }:=by
 cases h:fileOf D.l n with
 | none =>
   rw[rdW_none (D:=D) hd h,rdW_none (D:={ D with count:=k }) hd h];exact⟨rfl,rfl,0,by omega,rfl⟩
 | some f =>
   rw[rdW_of (D:=D) hd h,rdW_of (D:={ D with count:=k }) hd h];exact⟨rfl,rfl,1,by omega,rfl⟩
theorem openE_same (D:DiskS)(k:Nat)(n:Int)(hd:D.down=false) : openE { D with count:=k } n=openE D n∧∃ j,j≤2∧openD { D with count:=k } n={ D with count:=k+j }:=by
 obtain⟨h1,h2,j,hj,h3⟩:=rdW_same D k (ptT n) hd;have hd':¬ D.down=true:=by rw[hd];decide
 refine⟨?_, ?_⟩
 ·unfold openE;rw[h1,h2]
 ·unfold openD;rw[if_neg hd',h2,h1,h3];split
  ·exact⟨j,by omega,rfl⟩
  ·split
   ·exact⟨j,by omega,rfl⟩
   ·obtain⟨-,-,j2,hj2,h4⟩:=rdW_same D (k+j) (ptB n) hd;rw[h4];exact⟨j+j2,by omega,by rw[Nat.add_assoc]⟩
theorem open_has {D:DiskS}{n:Int}(hd:D.down=false)(h:openE D n=0) : HasT D n (tgL (rdW D (ptT n)).1):=by
 unfold openE at h;rw[if_neg (by rw[hd];decide)] at h;cases hf:fileOf D.l (ptT n) with
 | none =>
   rw[rdW_none hd hf] at h;simp at h
 | some f =>
   rw[rdW_of hd hf] at h ⊢;simp at h;exact⟨f,hf,h,rfl⟩
theorem TabAt.low {w:World}{base base' g:Nat}{F:List Nat}{l:List EntS}(h:TabAt w base g F l)(hb:base'≤base) : TabAt w base' g F l:=by
 obtain⟨v,h1,h2,h3,h4,h5,h6,h7⟩:=h;exact⟨v,h1,h2.down hb,h3,h4,fun x hx=>⟨Nat.le_trans hb (h5 x hx).1,(h5 x hx).2⟩,h6,h7⟩
structure OpAt (At:Lies)(w0:World)(gd gx r gm:Nat)(m:ManS)(lv tv:Value)(ps:List Nat)(T:List TbS)(Gk:List Nat)(D:DiskS)(E:List Nat)(w:World) : Prop where
 ds:DS At w0 gd D ([gm]++((gx::ownL tv)++(Gk++E))) w
 blok:Blok w gx 89 #[.pointer none,ptr gd,.int .i64 m.next,.int .i64 m.check,.int .u64 (m.seed:Nat),lv,tv,.float .f64 r,mtp gm]
 lv:LvKeep w lv m.lv Gk
 row:PRow w w0.heap.size tv ps
 tabs:TabsAt w gd ps T Gk
 mem:TabAt w w0.heap.size gm [gm] []
 gm1:gm ∉ gx::ownL tv∧gm ∉ Gk∧gm ∉ E
 gr:∀ b∈gx::ownL tv,b ∉ Gk∧b ∉ E
 gk:∀ b∈Gk,b ∉ E
 low:w0.heap.size≤gx
section
variable {At : Lies} {w0 w w5 W : World} {gd gx r gm gt : Nat} {m : ManS} {lv tv : Value} {ps H : List Nat} {T : List TbS} {Gk : List Nat} {D D' : DiskS} {E E' : List Nat} {t : TbS}
theorem OpAt.made (api:DiskApi At)(h:OpAt At w0 gd gx r gm m lv tv ps T Gk D E w) : IxAt At w0 gd gx r ⟨m,T,[]⟩ D E (w.setCell ⟨gx,0,none⟩ (ptr gx))∧Kept E w (w.setCell ⟨gx,0,none⟩ (ptr gx)):=by
 have ht:Touch [gx] w (w.setCell ⟨gx,0,none⟩ (ptr gx)):=(Touch.refl [gx] w).setCell (p:=⟨gx,0,none⟩) (Or.inl (List.mem_singleton.2 rfl)) _;have hlt:=h.ds.lt
 have hfar:∀ b∈[gm]++(ownL tv++(Gk++E)),b<w.heap.size∧b ∉ [gx]:=fun b hb=>by
  rcases List.mem_append.1 hb with q | q
  ·refine⟨hlt b (List.mem_append_left _ q),fun hm=>h.gm1.1 ?_⟩;rw[← List.mem_singleton.1 q,List.mem_singleton.1 hm];exact List.mem_cons_self
  ·rcases List.mem_append.1 q with q | q
   ·refine⟨hlt b (List.mem_append_right _ (List.mem_append_left _ (List.mem_cons_of_mem _ q))),fun hm=>?_⟩;exact own_ne h.row h.blok (by decide) (by rw[List.mem_singleton.1 hm] at q;exact ownL_mem.1 q)
   ·rcases List.mem_append.1 q with q | q
    ·exact⟨hlt b (List.mem_append_right _ (List.mem_append_right _ (List.mem_append_left _ q))),fun hm=>(h.gr gx List.mem_cons_self).1 (by rw[← List.mem_singleton.1 hm];exact q)⟩
    ·exact⟨hlt b (List.mem_append_right _ (List.mem_append_right _ (List.mem_append_right _ q))),fun hm=>(h.gr gx List.mem_cons_self).2 (by rw[← List.mem_singleton.1 hm];exact q)⟩
 have k:=Kept.of_touch ht hfar;refine⟨⟨[gm],gx::ownL tv,Gk,h.ds.own2 api ht (fun b hb=>by rw[List.mem_singleton.1 hb];exact⟨List.mem_append_right _ (List.mem_append_left _ List.mem_cons_self),h.low⟩),⟨gm,lv,tv,ps,h.blok.put 0 (ptr gx),h.lv.step (k.less (fun b hb=>List.mem_append_right _ (List.mem_append_right _ (List.mem_append_left _ hb)))),k.prow h.row (fun b hb=>List.mem_append_right _ (List.mem_append_left _ hb)),h.tabs.keep k (fun b hb=>List.mem_append_right _ (List.mem_append_right _ (List.mem_append_left _ hb))),h.mem.keep k (fun b hb=>List.mem_append_left _ hb),List.mem_cons_self,fun b hb=>List.mem_cons_of_mem _ hb,h.low⟩,fun b hb=>by rw[List.mem_singleton.1 hb];exact h.gm1,h.gr,h.gk,fun b hb=>?_⟩,k.less (fun b hb=>List.mem_append_right _ (List.mem_append_right _ (List.mem_append_right _ hb)))⟩;rcases List.mem_append.1 hb with q | q
 ·obtain⟨v,h1,h2,h3,h4,h5,h6,h7⟩:=h.mem;exact(h5 b q).1
 ·rcases List.mem_cons.1 q with e | q
  ·rw[e];exact h.low
  ·exact(h.row.lt b (ownL_mem.1 q)).1
theorem OpAt.next (api:DiskApi At)(h:OpAt At w0 gd gx r gm m lv tv ps T Gk D E w)(hd:DS At w0 gd D' (H++([gm]++((gx::ownL tv)++(Gk++E)))) w5)(hk:Kept ([gm]++((gx::ownL tv)++(Gk++E))) w w5)(hH:∀ b∈H,w.heap.size≤b)(hp:PtAt w5 gt gd t.n t.l t.t H)(hl:ps.length≤10000)(ty:TypeId) :
  ∃ A n c A9 c9 w9,tv = .slice A n c∧(Builtin.append_ #[86,86] ty #[tv,.slice (some ⟨w5.heap.size,0,none⟩) 1 1]).run Tryz.prog (w5.alloc (.cells #[ptr gt] 164)) = .ok (.slice A9 (n+1) c9) w9 ∧
   w9.cell? ⟨gx,6,none⟩=some tv∧w9.frozen? ⟨gx,6,none⟩=false∧OpAt At w0 gd gx r gm m lv (.slice A9 (n+1) c9) (ps++[gt]) (T++[t]) (H++Gk) D' E (w9.setCell ⟨gx,6,none⟩ (.slice A9 (n+1) c9))∧Kept E w (w9.setCell ⟨gx,6,none⟩ (.slice A9 (n+1) c9)):=by
 have hlt:=h.ds.lt;have hlt5:=hd.lt;have hz5:=hk.size;have X5:=hk.blok h.blok (List.mem_append_right _ (List.mem_append_left _ List.mem_cons_self));have r5:=hk.prow h.row (fun b hb=>List.mem_append_right _ (List.mem_append_left _ (List.mem_cons_of_mem _ hb)));obtain⟨A,c,hv,-,-,-⟩:=own_form r5;obtain⟨A9,c9,w9,e9,r9,t9,o9⟩:=prow_append gt ty r5 rfl hl hd.kept.size;have hgx:gx ∉ ownL tv:=fun hm=>own_ne r5 X5 (by decide) (ownL_mem.1 hm)
 have X9:=X5.touch t9 hgx;have hne9:(Value.slice A9 (ps.length+1) c9).ownBlock≠some gx:=own_ne r9 X9 (by decide);have t10:Touch (gx::ownL tv) w5 (w9.setCell ⟨gx,6,none⟩ (.slice A9 (ps.length+1) c9)):=(t9.more (fun x hx=>Or.inl (List.mem_cons_of_mem _ hx))).setCell (p:=⟨gx,6,none⟩) (Or.inl List.mem_cons_self) _;have hz9:(w9.setCell ⟨gx,6,none⟩ (.slice A9 (ps.length+1) c9)).heap.size=w9.heap.size:=by simp[World.setCell]
 have hnew:∀ b∈gx::ownL (.slice A9 (ps.length+1) c9),b∈gx::ownL tv∨(w5.heap.size≤b∧b<(w9.setCell ⟨gx,6,none⟩ (.slice A9 (ps.length+1) c9)).heap.size):=fun b hb=>by
  rcases List.mem_cons.1 hb with e | q
  ·rw[e];exact Or.inl List.mem_cons_self
  ·rcases o9 b q with p | p
   ·exact Or.inl (List.mem_cons_of_mem _ p)
   ·rw[hz9];exact Or.inr p
 have hfar:∀ b∈[gm]++(H++(Gk++E)),b<w5.heap.size∧b ∉ gx::ownL tv:=fun b hb=>by
  rcases List.mem_append.1 hb with q | q
  ·exact⟨hlt5 b (List.mem_append_right _ (List.mem_append_left _ q)),fun hm=>h.gm1.1 (by rw[← List.mem_singleton.1 q];exact hm)⟩
  ·rcases List.mem_append.1 q with q | q
   ·refine⟨hlt5 b (List.mem_append_left _ q),fun hm=>?_⟩;have:=hH b q;have:=hlt b (List.mem_append_right _ (List.mem_append_left _ hm));omega
   ·refine⟨hlt5 b (List.mem_append_right _ (List.mem_append_right _ (List.mem_append_right _ q))),fun hm=>?_⟩;rcases List.mem_append.1 q with q | q
    ·exact(h.gr b hm).1 q
    ·exact(h.gr b hm).2 q
 have kf:=Kept.of_touch t10 hfar;have kGk:Kept Gk w (w9.setCell ⟨gx,6,none⟩ (.slice A9 (ps.length+1) c9)):=(hk.less (fun b hb=>List.mem_append_right _ (List.mem_append_right _ (List.mem_append_left _ hb)))).trans (kf.less (fun b hb=>List.mem_append_right _ (List.mem_append_right _ (List.mem_append_left _ hb))));have kgm:Kept [gm] w (w9.setCell ⟨gx,6,none⟩ (.slice A9 (ps.length+1) c9)):=(hk.less (fun b hb=>List.mem_append_left _ hb)).trans (kf.less (fun b hb=>List.mem_append_left _ hb));have kE:Kept E w (w9.setCell ⟨gx,6,none⟩ (.slice A9 (ps.length+1) c9)):=(hk.less (fun b hb=>List.mem_append_right _ (List.mem_append_right _ (List.mem_append_right _ hb)))).trans (kf.less (fun b hb=>List.mem_append_right _ (List.mem_append_right _ (List.mem_append_right _ hb))));refine⟨A,ps.length,c,A9,c9,w9,hv,e9,X9.cell 6,X9.frozen 6,⟨hd.turn api t10 (fun b hb=>⟨List.mem_append_right _ (List.mem_append_right _ (List.mem_append_left _ hb)), ?_⟩) (fun b hb=>?_),X9.put 6 _,(h.lv.step kGk).more (fun b hb=>List.mem_append_right _ hb),own_far (p:=⟨gx,6,none⟩) r9 hne9 _,(h.tabs.keep kGk (fun b hb=>hb)).snoc (hp.keep kf (fun b hb=>List.mem_append_right _ (List.mem_append_left _ hb))),h.mem.keep kgm (fun b hb=>hb),⟨fun hm=>?_,fun hm=>?_,h.gm1.2.2⟩,fun b hb=>⟨fun hm=>?_,fun hm=>?_⟩,fun b hb hm=>?_,h.low⟩,kE⟩
 ·rcases List.mem_cons.1 hb with e | q
  ·rw[e];exact h.low
  ·exact(h.row.lt b (ownL_mem.1 q)).1
 ·rcases List.mem_append.1 hb with q | q
  ·exact Or.inl (List.mem_append_right _ (List.mem_append_left _ q))
  ·rcases List.mem_append.1 q with q | q
   ·rcases hnew b q with p | p
    ·exact Or.inl (List.mem_append_right _ (List.mem_append_right _ (List.mem_append_left _ p)))
    ·exact Or.inr p
   ·rcases List.mem_append.1 q with q | q
    ·rcases List.mem_append.1 q with q | q
     ·exact Or.inl (List.mem_append_left _ q)
     ·exact Or.inl (List.mem_append_right _ (List.mem_append_right _ (List.mem_append_right _ (List.mem_append_left _ q))))
    ·exact Or.inl (List.mem_append_right _ (List.mem_append_right _ (List.mem_append_right _ (List.mem_append_right _ q))))
 ·have:=hlt gm (List.mem_append_left _ List.mem_cons_self);rcases hnew gm hm with p | p
  ·exact h.gm1.1 p
  ·omega
 ·have:=hlt gm (List.mem_append_left _ List.mem_cons_self);rcases List.mem_append.1 hm with p | p
  ·have:=hH gm p;omega
  ·exact h.gm1.2.1 p
 ·rcases hnew b hb with p | p
  ·have:=hlt b (List.mem_append_right _ (List.mem_append_left _ p));rcases List.mem_append.1 hm with q | q
   ·have:=hH b q;omega
   ·exact(h.gr b p).1 q
  ·rcases List.mem_append.1 hm with q | q
   ·have:=hlt5 b (List.mem_append_left _ q);omega
   ·have:=hlt b (List.mem_append_right _ (List.mem_append_right _ (List.mem_append_left _ q)));omega
 ·rcases hnew b hb with p | p
  ·exact(h.gr b p).2 hm
  ·have:=hlt b (List.mem_append_right _ (List.mem_append_right _ (List.mem_append_right _ hm)));omega
 ·rcases List.mem_append.1 hb with q | q
  ·have:=hH b q;have:=hlt b (List.mem_append_right _ (List.mem_append_right _ (List.mem_append_right _ hm)));omega
  ·exact h.gk b q hm
end
end Go.Proofs.YtokbfellcadkpaaGreat
namespace Go.Proofs.YtokbfellcadkpaaGreat
open Go.RowKit Go.Shelf
set_option linter.unusedVariables false
set_option maxRecDepth 100000
theorem irow_cell {w:World}{base i n c:Nat}{A:Option Addr}{l:List Int}{x:Int}(h:IRow w base (.slice A n c) l)(hx:l[i]? = some x) : ∃ b,A=some ⟨b,0,none⟩∧w.cell? ⟨b,i,none⟩=some (.int .i64 x):=by
 have hlt:=(List.getElem?_eq_some_iff.1 hx).1;obtain⟨A',cap,e,h1,h2,h3,h4⟩:=own_form h;obtain⟨rfl,rfl,e3⟩:=Value.slice.inj e;obtain⟨b,rfl,hb,hbw⟩:=h3 (by omega);have h':w.ownsRow base 3 1 (.slice (some ⟨b,0,none⟩) l.length c) l.length _:=h;refine⟨b,rfl,(h'.cellAt i (by omega)).trans ?_⟩;show(l.map _)[i]? = _;rw[List.getElem?_map,hx];rfl
def OpenXEnd (At:Lies)(w0:World)(gd r:Nat)(m:ManS)(D:DiskS)(E:List Nat)(w:World)(e:Ending)(w':World) : Prop :=
 (∃ gx T j,e = .returned (.tuple #[ptr gx,.int .i64 0])∧T.map (fun t=>(t.n:Int))=m.lv.flatten∧(∀ t∈T,HasT D t.n t.l∧keepsP t.t t.l=true)∧j≤2*m.lv.flatten.length∧IxAt At w0 gd gx r ⟨m,T,[]⟩ { D with count:=D.count+j } E w'∧Kept E w w') ∨
 (∃ n j,n∈m.lv.flatten∧openE D n≠0∧j≤2*m.lv.flatten.length∧e = .returned (.tuple #[.pointer none,err (openE D n)])∧DS At w0 gd { D with count:=D.count+j } E w'∧Kept E w w')
section
variable {At : Lies} (api : DiskApi At) (nap : NamesApi) {w0 w : World} {gd r : Nat} {D : DiskS} {E : List Nat} {n c : Int} {d : Nat} {A : Option Addr} {cp : Nat} {R : LvL}
include api
def OpLp (At:Lies)(w0:World)(gd gx r gm:Nat)(m:ManS)(lv:Value)(rv:Value)(D:DiskS)(E:List Nat)(w:World)(k:Nat)(tv:Value)(wr:World) : Prop :=
 ∃ ps T Gk j,OpAt At w0 gd gx r gm m lv tv ps T Gk { D with count:=D.count+j } (ownL rv++E) wr∧T.map (fun t=>(t.n:Int))=m.lv.flatten.take k∧(∀ t∈T,HasT D t.n t.l∧keepsP t.t t.l=true)∧j≤2*k∧Kept E w wr∧IRow wr w.heap.size rv m.lv.flatten
theorem open_start {w1 w2 w3 w4 w5:World}{m:ManS}{v:Value}{k0 cp2:Nat}{A2:Option Addr}{rv:Value}(h:DS At w0 gd D E w)(hb:Below w.heap.size w (w.alloc (manO n c d v)))(h1:Below (w.alloc (manO n c d v)).heap.size (w.alloc (manO n c d v)) w1)(h2:Below w1.heap.size w1 w2)
  (hl:LvsNew w2 w1.heap.size (.slice A2 k0 cp2) m.lv) (h3:Below w2.heap.size w2 w3) (ht:TabAt w3 w2.heap.size w2.heap.size [w2.heap.size] []) (hg:w2.heap.size<w3.heap.size)
  (hx:Blok w4 w3.heap.size 89 #[.pointer none,ptr gd,.int .i64 m.next,.int .i64 m.check,.int .u64 (m.seed:Nat),.slice A2 k0 cp2,.slice none 0 0,.float .f64 r,mtp w2.heap.size]) (h4:Below w3.heap.size w3 w4) (hz:w4.heap.size=w3.heap.size+1) (h5:IRow w5 w4.heap.size rv m.lv.flatten) (hb5:Below w4.heap.size w4 w5) :
  OpLp At w0 gd w3.heap.size r w2.heap.size m (.slice A2 k0 cp2) rv D E w 0 (.slice none 0 0) w5:=by
 obtain⟨G2,hg2,hlv⟩:=hl.keep;have s0:=hb.size;have s1:=h1.size;have s2:=h2.size;have s3:=h3.size;have s5:=hb5.size;have hall:=bj hb (bj h1 (bj h2 (bj h3 (bj h4 hb5))));have hrow:∀ b∈ownL rv,w4.heap.size≤b∧b<w5.heap.size:=fun b hb=>h5.lt b (ownL_mem.1 hb)
 have hE:=h.lt;have hbase:=h.kept.size;have hn:ownL (.slice none 0 0)=[]:=rfl;have k2:=Kept.of_below (E:=G2) (bj h3 (bj h4 hb5)) (fun b hb=>(hg2 b hb).2);have k3:=Kept.of_below (E:=[w2.heap.size]) (bj h4 hb5) (fun b hb=>by rw[List.mem_singleton.1 hb];exact hg)
 have hds:DS At w0 gd D ([w2.heap.size]++((w3.heap.size::ownL (.slice none 0 0))++(G2++(ownL rv++E)))) w5:=by
  refine((h.more api hall (B:=[w2.heap.size]++([w3.heap.size]++(G2++ownL rv))) (fun b hb=>?_)).less (fun b hb=>?_))
  ·rcases List.mem_append.1 hb with q | q
   ·rw[List.mem_singleton.1 q];omega
   ·rcases List.mem_append.1 q with q | q
    ·rw[List.mem_singleton.1 q];omega
    ·rcases List.mem_append.1 q with q | q
     ·have:=hg2 b q;omega
     ·have:=hrow b q;omega
  ·rw[hn] at hb;simp only[List.mem_append,List.mem_cons,List.not_mem_nil,or_false] at hb ⊢;rcases hb with q | q | q | q | q<;>simp[q]
 have hGk:∀ b∈G2,b ∉ ownL rv++E:=fun b hb hm=>by
  have:=hg2 b hb;rcases List.mem_append.1 hm with q | q
  ·have:=hrow b q;omega
  ·have:=hE b q;omega
 have hgx:w3.heap.size ∉ ownL rv++E:=fun hm=>by
  rcases List.mem_append.1 hm with q | q
  ·have:=hrow _ q;omega
  ·have:=hE _ q;omega
 have hgm:w2.heap.size ∉ ownL rv++E:=fun hm=>by
  rcases List.mem_append.1 hm with q | q
  ·have:=hrow _ q;omega
  ·have:=hE _ q;omega
 refine⟨[],[],G2,0,⟨hds,hx.below hb5,(hlv.step k2),PRow.nil _ _,(TabsAt.nil _ _).more (fun b hb=>by cases hb),(ht.keep (E:=[w2.heap.size]) k3 (fun b hb=>hb)).low (by omega),⟨?_, ?_,hgm⟩, ?_,hGk,by omega⟩,by simp,(fun t ht=>by cases ht),Nat.le_refl _,Kept.of_below hall hE,h5.down (by omega)⟩
 ·rw[hn];intro hm;have:=List.mem_singleton.1 hm;omega
 ·intro hm;have:=hg2 _ hm;omega
 ·rw[hn];intro b hb;rw[List.mem_singleton.1 hb];exact⟨fun hm=>by have:=hg2 _ hm;omega,hgx⟩
include nap in
set_option maxHeartbeats 1000000 in
theorem xopen_run (h:DS At w0 gd D E w)(wf:WfP D)(hd:D.down=false)(hc:D.count≤999990000)(hv:LvsHas w (.slice A R.length cp) R)(hm:MayM ⟨n,c,d,R⟩)(hop:∀ x∈R.flatten,openE D x=0→(tgL (rdW D (ptT x)).1).length≤10000) :
  Calls Tryz.prog 87 #[ptr gd,manV n c d (.slice A R.length cp),.float .f64 r] w (OpenXEnd At w0 gd r ⟨n,c,d,R⟩ D E w):=by
 have hfl:R.flatten.length≤40:=hm.2.2.2.2.1.2.1;have hL5:R.length≤5:=hm.2.2.2.2.1.1;have hnum:∀ x∈R.flatten,0≤x∧x<1000000:=fun x hx=>⟨hm.2.2.2.2.1.2.2.1 x hx,by have:=hm.2.2.2.2.2 x hx;have:=hm.2.1;show x<1000000;simp only at *;omega⟩
 have hb:=(Below.refl w.heap.size w).alloc (Nat.le_refl _) (manO n c d (.slice A R.length cp));have hbx:Blok (w.alloc (manO n c d (.slice A R.length cp))) w.heap.size 40 #[.int .i64 n,.int .i64 c,.int .u64 (d:Nat),.slice A R.length cp]:=Blok.new _ _ _;have HBX:=Lib.hid hbx;have HB:=Lib.hid hb;have HS:=Lib.hid ((h.below api hb).size api wf ⟨#[]⟩ (by decide));have hv1:=hv.below hb (Nat.le_refl _);have HV:=Lib.hid (mval_any n c d A R.length cp R _ hv1 (by omega) (by omega));have HCP:=Lib.hid (fun W (hW:Below (w.alloc (manO n c d (.slice A R.length cp))).heap.size (w.alloc (manO n c d (.slice A R.length cp))) W)=>xcopied_any n c d A cp R W (hv1.below hW (Nat.le_refl _)) (by omega) (by omega));have HALL:=Lib.hid (fun W (hW:Below (w.alloc (manO n c d (.slice A R.length cp))).heap.size (w.alloc (manO n c d (.slice A R.length cp))) W)=>lall_any _ R W (hv1.below hW (Nat.le_refl _)) (by omega) (by omega));have e1:mayM ⟨n,c,d,R⟩=true:=decide_eq_true hm;rw[e1] at HV
 have hz:(((sizeS D ⟨#[]⟩).2:Int)==1)=false∧(((sizeS D ⟨#[]⟩).2:Int)==61)=false:=by
  rcases sizeS_two D ⟨#[]⟩ with⟨q,-⟩ | ⟨-,e | e⟩
  ·rw[hd] at q;cases q
  ·rw[e];exact⟨by decide,by decide⟩
  ·rw[e];exact⟨by decide,by decide⟩
 obtain⟨hz1,hz2⟩:=hz;have HWF:=Lib.hid wf
 have HOT:=Lib.hid (fun(W:World) (E':List Nat) (j:Nat) (x:Int) (hj:j≤80) (hx:x∈R.flatten) (hW:DS At w0 gd { D with count:=D.count+j } E' W)=>(show Calls Tryz.prog 155 #[ptr gd,.int .i64 x] W (OpenTEnd At w0 gd x { D with count:=D.count+j } E' W) from by
  have:=hnum x hx;have hs:=rdW_same D (D.count+j) (ptT x) hd;refine popen_all api nap hW ⟨wf.synced,wf.used,wf.cap,wf.many⟩ (by show D.count+j≤_;omega) x (WalkArith.wf_i64 (by omega)) (fun ho=>?_);rw[hs.1];exact hop x hx ((openE_same D _ x hd).1.symm.trans ho)))
 have HNUM:=Lib.hid hnum;have HSAME:=Lib.hid (fun k x=>openE_same D k x hd);have HRD:=Lib.hid (fun k x=>rdW_same D k (ptT x) hd);have HHAS:=Lib.hid (fun x (hx:openE D x=0)=>open_has hd hx);have HD:=Lib.hid h;obtain⟨k0,hk0⟩:∃ k0,k0=R.length:=⟨_,rfl⟩
 unfold ManEnd at HCP;unfold manV at HV HCP ⊢;rw[← hk0] at HV HS HB HBX HCP HALL ⊢;have HK0:=Lib.hid hk0;obtain⟨ns,hns⟩:∃ ns,ns=R.flatten:=⟨_,rfl⟩
 have HNS:=Lib.hid hns;unfold IntsOut at HALL;obtain⟨N,hN⟩:∃ N,N=ns.length:=⟨_,rfl⟩
 have hN40:N≤40:=by rw[hN,hns];exact hfl
 have HNN:=Lib.hid hN;rw[← hns] at HALL;rw[← hN] at HALL;clear h hb hbx hv hv1 hk0 hL5 hfl hnum wf hm hop e1 hd hns hN;generalize (sizeS D ⟨#[]⟩).2=z2 at *;generalize (sizeS D ⟨#[]⟩).1=z1 at *;go_enter Tryz.func87,Tryz.ntmps87;go_wp2_with fail;refine HS.out.mono ?_;rintro e w' ⟨rfl,rfl⟩;go_wp2_with fail;refine HV.out.mono ?_;rintro e w1 ⟨rfl,hb1⟩;have HB1:=Lib.hid hb1;have B1:=Lib.hid (HBX.out.below hb1);obtain⟨c0,c1,c2,c3⟩:=four_cells B1.out;clear hb1;go_wp2_with fail;refine(HCP.out w1 HB1.out).mono ?_;rintro e w2 ⟨A2,cp2,rfl,hl2,hb2⟩;have HL2:=Lib.hid hl2;have HB2:=Lib.hid hb2;clear hl2 hb2;go_wp2_with fail;refine(tnew_any w2).mono ?_;rintro e w3 ⟨rfl,ht3,hb3,hg3⟩;have HT3:=Lib.hid ht3;have HB3:=Lib.hid hb3;have HG3:=Lib.hid hg3;clear ht3 hb3 hg3;have HBA:=Lib.hid (bj HB1.out (bj HB2.out HB3.out));have hb4:=(Below.refl w3.heap.size w3).alloc (Nat.le_refl _) (.cells #[.pointer none,ptr gd,.int .i64 n,.int .i64 c,.int .u64 (d:Nat),.slice A2 k0 cp2,.slice none 0 0,.float .f64 r,mtp w2.heap.size] 89);have HX4:=Lib.hid (Blok.new w3 89 #[.pointer none,ptr gd,.int .i64 n,.int .i64 c,.int .u64 (d:Nat),.slice A2 k0 cp2,.slice none 0 0,.float .f64 r,mtp w2.heap.size]);have HB4:=Lib.hid hb4;have HA4:=Lib.hid (HALL.out _ (bj HBA.out HB4.out));have hsz4:(w3.alloc (.cells #[.pointer none,ptr gd,.int .i64 n,.int .i64 c,.int .u64 (d:Nat),.slice A2 k0 cp2,.slice none 0 0,.float .f64 r,mtp w2.heap.size] 89)).heap.size=w3.heap.size+1:=by simp
 have HSZ4:=Lib.hid hsz4;have c3':=(((HBX.out.below (bj HB1.out HB2.out)).below HB3.out).below hb4).cell 3;obtain⟨w4,hw4⟩:∃ w4,w4=w3.alloc (.cells #[.pointer none,ptr gd,.int .i64 n,.int .i64 c,.int .u64 (d:Nat),.slice A2 k0 cp2,.slice none 0 0,.float .f64 r,mtp w2.heap.size] 89):=⟨_,rfl⟩
 rw[← hw4] at HX4 HB4 HA4 HSZ4;clear hsz4 hb4 c0 c1 c2 c3 HALL HCP HV HS;have HW4:=Lib.hid hw4;clear hw4;go_wp2_with fail;rw[← HW4.out];refine HA4.out.mono ?_;rintro e w5 ⟨A7,c7,rfl,r7,b7⟩;have HLP:Hid (OpLp At w0 gd w3.heap.size r w2.heap.size ⟨n,c,d,R⟩ (.slice A2 k0 cp2) (.slice A7 N c7) D E w 0 (.slice none 0 0) w5):=Lib.hid (open_start api HD.out (by rw[HNS.out,← HNN.out] at *;exact HB.out) HB1.out HB2.out HL2.out HB3.out HT3.out HG3.out HX4.out HB4.out HSZ4.out (by rw[← HNS.out];exact r7) b7);clear c3' HBX HB HB1 B1 HB2 HL2 HB3 HT3 HG3 HX4 HB4 HSZ4 HBA HA4 HW4 r7 b7 HD;generalize w3.heap.size=gx at *;generalize w2.heap.size=gm at *;go_wp2;go_loopg [43] N (fun g i wr=>∃ (k:Nat) (tv:Value),k+g=N∧i = .int .i64 k∧OpLp At w0 gd gx r gm ⟨n,c,d,R⟩ (.slice A2 k0 cp2) (.slice A7 N c7) D E w k tv wr)
 case atStart=>exact⟨0,_,by omega,rfl,HLP.out⟩
 case round =>
  obtain⟨k,tv,hkg,rfl,hL⟩:=hrel;have HL:=Lib.hid hL;clear hL HLP;cases gk with
  | zero =>
    obtain rfl:k=N:=by omega
    have s1:¬ (k:Int)<(k:Int):=by omega
    obtain⟨ps,T,Gk,j,hO,hT,hH,hj,hK,hR⟩:=HL.out;have HO:=Lib.hid (hO.made api);have f0:=hO.blok.frozen 0;have q0:=hO.blok.cell 0;have HT:=Lib.hid (show T.map (fun t=>(t.n:Int))=R.flatten from by rw[hT];show List.take k R.flatten=_;rw[← HNS.out,HNN.out,List.take_length]);have HH:=Lib.hid hH;have HK:=Lib.hid hK;have HJ:Hid (j≤2*R.flatten.length):=Lib.hid (by rw[← HNS.out,← HNN.out];exact hj);clear hO hT hH hj hK hR HL;go_wp2;go_ret2;exact Or.inl ⟨gx,T,j,rfl,HT.out,HH.out,HJ.out,HO.out.1.less (fun b hb=>List.mem_append_right _ hb),HK.out.trans (HO.out.2.less (fun b hb=>List.mem_append_right _ hb))⟩
  | succ gi =>
    have hkm:k<N:=by omega
    have s1:(k:Int)<(N:Int):=by omega
    obtain⟨ps,T,Gk,j,hO,hT,hH,hj,hK,hR⟩:=HL.out;have hkn:k<ns.length:=by rw[← HNN.out];exact hkm
    obtain⟨x,hx⟩:∃ x,ns[k]? = some x:=⟨_,List.getElem?_eq_getElem hkn⟩
    have hxm:x∈R.flatten:=by rw[← HNS.out];exact List.mem_of_getElem? hx
    obtain⟨bp,rfl,qc⟩:=irow_cell hR (i:=k) (x:=x) (by show R.flatten[k]? = _;rw[← HNS.out];exact hx);have HOP:=HOT.out wr _ j x (by omega) hxm hO.ds;unfold OpenTEnd at HOP;rw[(HSAME.out (D.count+j) x).1,(HRD.out (D.count+j) x).1] at HOP;obtain⟨j2,hj2,e2⟩:=(HSAME.out (D.count+j) x).2;rw[e2] at HOP;have HOQ:=Lib.hid HOP;have HX:=Lib.hid hxm;have HXN:=Lib.hid hx;have HO:=Lib.hid hO;have HT:=Lib.hid hT;have HH:=Lib.hid hH;have HK:=Lib.hid hK;have HR:=Lib.hid hR;clear hO hT hH hK hR HOP hx hxm e2 HL;by_cases hoe:openE D x=0
    ·have HOR:=HOQ.out.mono (fun e w' h=>(h.resolve_right (fun q=>q.1 hoe)).2);have hkp:=ldF_keeps (rdW { D with count:=D.count+j } (ptT x)).2.2 x (tgL (rdW D (ptT x)).1);have hhas:=HHAS.out x hoe;generalize ldF (rdW { D with count:=D.count+j } (ptT x)).2.2 x (tgL (rdW D (ptT x)).1)=ft at *;generalize tgL (rdW D (ptT x)).1=fl at *;unfold PEnd2 at HOR;have HOS:=Lib.hid HOR;have HKP:=Lib.hid hkp;have HHS:=Lib.hid hhas;clear HOR hkp hhas hoe HOQ HHAS;go_wp2_with fail;refine HOS.out.mono ?_;rintro e w5 ⟨gt,H,rfl,hp,d5,k5,n5⟩;have c6:=(k5.blok HO.out.blok (List.mem_append_right _ (List.mem_append_left _ List.mem_cons_self))).cell 6;have hx0:=(HNUM.out x HX.out).1
     have hpl:ps.length≤10000:=by
      have h1:=HO.out.tabs.1;have h2:=congrArg List.length HT.out;rw[List.length_map,List.length_take] at h2;omega
     obtain⟨A6,n6,c6',A9,c9,w9,rfl,e9,q9,f9,hO9,hK9⟩:=HO.out.next api (t:=⟨x.toNat,fl,ft⟩) d5 k5 n5 (by show PtAt w5 gt gd ((x.toNat:Nat):Int) fl ft H;rw[Int.toNat_of_nonneg hx0];exact hp) hpl 86;have HE:=Lib.hid e9
     have hLP:OpLp At w0 gd gx r gm ⟨n,c,d,R⟩ (.slice A2 k0 cp2) (.slice (some ⟨bp,0,none⟩) N c7) D E w (k+1) (.slice A9 (n6+1) c9) (w9.setCell ⟨gx,6,none⟩ (.slice A9 (n6+1) c9)):=by
      refine⟨_,_,_,j+j2,by rw[← Nat.add_assoc];exact hO9, ?_,fun t ht=>?_,by omega,HK.out.trans (hK9.less (fun b hb=>List.mem_append_right _ hb)),hK9.irow HR.out (fun b hb=>List.mem_append_left _ hb)⟩
      ·rw[List.map_append,HT.out,List.take_add_one];show _=List.take k R.flatten++(R.flatten[k]?).toList;rw[← HNS.out,HXN.out];show _++[((x.toNat:Nat):Int)]=_;rw[Int.toNat_of_nonneg hx0];rfl
      ·rcases List.mem_append.1 ht with q | q
       ·exact HH.out t q
       ·rw[List.mem_singleton.1 q];refine⟨?_,HKP.out⟩;show HasT D ((x.toNat:Nat):Int) fl;rw[Int.toNat_of_nonneg hx0];exact HHS.out
     have HLP:=Lib.hid hLP;clear hO9 hK9 e9 hLP hp d5 k5 n5 HO HT HH HK HR hx0 hpl;go_wp2_with (first | (at_builtin;refine wpList_append_two rfl _ _ rfl rfl rfl HE.out ?_) | fail);go_roundg gi
     case measure=>omega
     case rel=>exact⟨k+1,_,by omega,by go_num,HLP.out⟩
    ·have t2:((openE D x:Int) != 0)=true:=by simpa using hoe
     have HOR:=HOQ.out.mono (fun e w' h=>(h.resolve_left (fun q=>hoe q.1)).2);have HOE:=Lib.hid hoe;have HOS:=Lib.hid HOR;obtain⟨oe,ho⟩:∃ oe,oe=openE D x:=⟨_,rfl⟩
     rw[← ho] at HOS t2;have HOO:=Lib.hid ho;clear HOR hoe HOQ ho;go_wp2_with fail;refine HOS.out.mono ?_;rintro e w5 ⟨rfl,d5,k5⟩;have HD5:=Lib.hid d5;have HK5:=Lib.hid k5;clear d5 k5;go_wp2;go_ret2;rw[HOO.out];exact Or.inr ⟨x,j+j2,HX.out,HOE.out,by rw[← HNS.out,← HNN.out];omega,rfl,by rw[← Nat.add_assoc];exact HD5.out.less (fun b hb=>List.mem_append_right _ (List.mem_append_right _ (List.mem_append_right _ (List.mem_append_right _ hb)))),HK.out.trans (HK5.out.less (fun b hb=>List.mem_append_right _ (List.mem_append_right _ (List.mem_append_right _ (List.mem_append_right _ hb)))))⟩
end
end Go.Proofs.YtokbfellcadkpaaGreat
