/- ZpIxFlush, ZpIxStep, ZpIxStep2, ZpIxStep3, ZpIxStep4, ZpIxIl, ZpIxIl2, ZpIxFresh, ZpIxPair, ZpIxPair2, ZpIxEx0, ZpIxEx -/
import Derived.Test.YtcpfkaehefcakaaGreatPp46
import Derived.Test.YtcpfkaehefcakaaGreatPp47
import Derived.Test.YtcpfkaehefcakaaGreatPp10
import Derived.Test.YtcpfkaehefcakaaGreatPp41
import Derived.Test.YtcpfkaehefcakaaGreatPp24
import Derived.Test.YtcpfkaehefcakaaGreatPp06
import Derived.Test.YtcpfkaehefcakaaGreatPp44
import Derived.Test.YtcpfkaehefcakaaGreatPp35
import Derived.Test.YtcpfkaehefcakaaGreatPp19
import Derived.Test.YtcpfkaehefcakaaGreatPp42
import Derived.Test.YtcpfkaehefcakaaGreatPp05
namespace Go.Proofs.YtcpfkaehefcakaaGreat
open Go.RowKit Go.Shelf
set_option linter.unusedVariables false
set_option maxRecDepth 100000
def flushI (f:Nat)(D:DiskS)(S:IxS)(t:ByteArray)(n pe:Nat)(en:Int) : Nat × DiskS :=
 if f≠0 then(f,D) else if S.mem=[] then(0,D) else layI D n S.mem t pe (nextM S (addL S.m.lv n) en)
noncomputable def flushIX (f:Nat)(D:DiskS)(S:IxS)(t:ByteArray)(n pe:Nat)(en:Int) : IxS :=
 if f≠0 then S else if S.mem=[] then S
 else if (layI D n S.mem t pe (nextM S (addL S.m.lv n) en)).1=0 then { layIX S D n S.mem t pe (addL S.m.lv n) en with mem:=[] } else layIX S D n S.mem t pe (addL S.m.lv n) en
theorem IxM.tab {w:World}{base gx gd r:Nat}{S:IxS}{Fm Gr Gk:List Nat}(h:IxM w base gx gd r S Fm Gr Gk) : ∃ gm,w.cell? ⟨gx,8,none⟩=some (mtp gm)∧TabAt w base gm Fm S.mem:=by
 obtain⟨gm,A,cp,B,c2,ps,hC⟩:=h.cells
 exact⟨gm,hC.cs.2.2.2.2.2.2.2.2,hC.mem⟩
section
variable {At : Lies} (api : DiskApi At) (nap : NamesApi) (iap : ImApi At) {w0 w w' : World} {gd gl gx r : Nat} {S : IxS} {D : DiskS} {E : List Nat} {L : LogS}
include api in
theorem xclear_run (h:IxAt At w0 gd gx r S D E w) : ∃ gm,w.cell? ⟨gx,8,none⟩=some (mtp gm)∧Calls Tryz.prog 46 #[mtp gm] w fun e w'=>e = .returned (.tuple #[])∧IxAt At w0 gd gx r { S with mem:=[] } D E w'∧Kept E w w':=by
 obtain⟨Fm,Gr,Gk,d1,hM,d3,d4,d5,d6⟩:=h
 obtain⟨gm,A,cp,B,c2,ps,hC⟩:=hM.cells
 refine⟨gm,hC.cs.2.2.2.2.2.2.2.2,(tclear_run hC.mem).mono ?_⟩
 rintro e w' ⟨F',rfl,h1,h2,h3⟩
 exact⟨rfl,IxAt.mem_end api d1 hC d3 d4 d5 d6 h1 h2 h3⟩
include api nap iap
set_option maxHeartbeats 2000000 in
theorem xflush_run (h:IxAt At w0 gd gx r S D (gl::E) w)(hlg:Blok w gl 78 (logCells (ptr gl) gd L))(hgl:gl ∉ E)(hlow:w0.heap.size≤gl)(wf:WfP D)(hch:L.chunks≤200)
  (wf1:WfP (flushT D L).2.1) (hd1:(flushT D L).2.1.down=false) (hc1:(flushT D L).2.1.count≤1000000) (ok:IxOk D S) (n:Nat) (hn:S.m.next=(n:Nat)) (hn9:n≤999999) (hr:r<18446744073709551616) (hl:S.mem.length≤1000)
  (pe:Nat) (hpe:addLE S.m.lv n=(pe:Nat)) (hop:∀ t,FltOf S.mem r t→(writeP (flushT D L).2.1 n S.mem t).1=0→(tgL (rdW (writeP (flushT D L).2.1 n S.mem t).2 (ptT n)).1).length≤10000) :
  Calls Tryz.prog 9 #[ptr gx,ptr gl] w fun e w'=>∃ t,(S.mem=[]∨(flushT D L).1≠0∨FltOf S.mem r t)∧e = .returned (err (flushI (flushT D L).1 (flushT D L).2.1 S t n pe (flushT D L).2.2.endp).1) ∧
   IxAt At w0 gd gx r (flushIX (flushT D L).1 (flushT D L).2.1 S t n pe (flushT D L).2.2.endp) (flushI (flushT D L).1 (flushT D L).2.1 S t n pe (flushT D L).2.2.endp).2 (gl::E) w'∧Blok w' gl 78 (logCells (ptr gl) gd (flushT D L).2.2)∧Kept E w w':=by
 have hb:=(Below.refl w.heap.size w).alloc (Nat.le_refl _) (.cells #[ptr gx] 32)
 have BX:=Blok.new w 32 #[ptr gx]
 have HLT:=Lib.hid h.lt
 have h1:=h.turn api (E':=gl::(w.heap.size::E)) (B:=[]) (Touch.of_below hb) (fun b hb=>by cases hb) (fun b hm=>by
  rcases List.mem_cons.1 hm with e | hm
  ·rw[e];exact Or.inl List.mem_cons_self
  ·rcases List.mem_cons.1 hm with e | hm
   ·rw[e];exact Or.inr ⟨Nat.le_refl _,BX.lt⟩
   ·exact Or.inl (List.mem_cons_of_mem _ hm))
 have HK1:=Lib.hid (Kept.of_below hb (fun b hm=>HLT.out b (List.mem_cons_of_mem _ hm)))
 have LG1:=Blok.below hlg hb
 obtain⟨gb,hgb⟩:∃ gb,w.heap.size=gb:=⟨_,rfl⟩
 rw[hgb] at h1 BX
 obtain⟨w1,hw1⟩:∃ w1,w.alloc (.cells #[ptr gx] 32)=w1:=⟨_,rfl⟩
 rw[hw1] at h1 BX HK1 LG1
 have hgl2:gl ∉ gb::E:=fun hm=>by
  rcases List.mem_cons.1 hm with e | hm
  ·have:=HLT.out gl List.mem_cons_self
   omega
  ·exact hgl hm
 have HFL:=h1.flush api nap LG1 hgl2 hlow wf hch
 have HL1:Hid (∀ (S':IxS) (D':DiskS) (E':List Nat) W,IxAt At w0 gd gx r S' D' E' W→W.cell? ⟨gx,0,none⟩=some (ptr gx)):=Lib.hid fun S' D' E' W hW=>by
  obtain⟨_,_,_,_,hM',_⟩:=hW
  obtain⟨_,_,_,_,_,_,hC'⟩:=hM'.cells
  exact hC'.cs.1
 have c0:=HL1.out _ _ _ _ h1
 have hno:=Lib.hid (xnone_run c0)
 have b0:=BX.cell 0
 have HBX:=Lib.hid BX
 have HOK:=Lib.hid ok
 have HLLOW:=Lib.hid (And.intro hgl2 hlow)
 generalize flushT D L=ft at *
 obtain⟨f,D1,L1⟩:=ft
 simp only at HFL wf1 hd1 hc1 hop ⊢
 have HFL2:=Lib.hid HFL
 clear h hlg hgl hlow wf hch LG1 h1 BX ok hgl2 HFL hb c0
 go_enter Tryz.func9,Tryz.ntmps9
 go_wp2_with fail
 refine hno.out.mono ?_
 rintro e w' ⟨rfl,rfl⟩
 go_wp2_with fail
 refine HFL2.out.mono ?_
 rintro e w2 ⟨rfl,i2,l2,k2⟩
 have HK2:=Lib.hid (HK1.out.trans (k2.less (fun b hb=>List.mem_cons_of_mem _ hb)))
 have HI2:=Lib.hid i2
 have HL2:=Lib.hid l2
 have B2:=k2.blok HBX.out List.mem_cons_self
 have b0:=B2.cell 0
 have HB2:=Lib.hid B2
 clear i2 l2 k2 B2
 by_cases hf:f=0
 case neg =>
  have t1:((f:Int) != 0)=true:=by simp;omega
  have HF:=Lib.hid (show ∀ t,flushI f D1 S t n pe L1.endp=(f,D1)∧flushIX f D1 S t n pe L1.endp=S from fun t=>⟨by unfold flushI;rw[if_pos hf],by unfold flushIX;rw[if_pos hf]⟩)
  have HF0:=Lib.hid hf
  clear hf wf1 hd1 hc1 hn hn9 hr hl hpe hop
  go_wp2
  go_ret
  refine⟨ByteArray.empty,Or.inr (Or.inl HF0.out), ?_⟩
  rw[(HF.out _).1,(HF.out _).2]
  exact⟨rfl,HI2.out.less (fun b hb=>by
   rcases List.mem_cons.1 hb with e | hb
   ·rw[e];exact List.mem_cons_self
   ·exact List.mem_cons_of_mem _ (List.mem_cons_of_mem _ hb)),HL2.out,HK2.out⟩
 case pos =>
  subst hf
  obtain⟨Fm,Gr,Gk,-,hM,-⟩:=HI2.out
  obtain⟨gm,c8,hT⟩:=hM.tab
  have HLEN:=Lib.hid (tlen_run hT)
  clear hM hT
  by_cases hm0:S.mem=[]
  ·have HF:=Lib.hid (show ∀ t,flushI 0 D1 S t n pe L1.endp=(0,D1)∧flushIX 0 D1 S t n pe L1.endp=S from fun t=>⟨by unfold flushI;rw[if_neg (by decide),if_pos hm0],by unfold flushIX;rw[if_neg (by decide),if_pos hm0]⟩)
   have HM0:=Lib.hid hm0
   rw[hm0] at HLEN
   have HLEN2:=Lib.hid (show Calls Tryz.prog 41 #[mtp gm] w2 fun e w'=>e = .returned (.int .i64 0)∧w2=w' from HLEN.out)
   clear hm0 wf1 hd1 hc1 hn hn9 hr hl hpe hop HLEN
   go_wp2_with fail
   refine HLEN2.out.mono ?_
   rintro e w' ⟨rfl,rfl⟩
   go_wp2
   go_ret
   refine⟨ByteArray.empty,Or.inl HM0.out, ?_⟩
   rw[(HF.out _).1,(HF.out _).2]
   exact⟨rfl,HI2.out.less (fun b hb=>by
    rcases List.mem_cons.1 hb with e | hb
    ·rw[e];exact List.mem_cons_self
    ·exact List.mem_cons_of_mem _ (List.mem_cons_of_mem _ hb)),HL2.out,HK2.out⟩
  ·have hlen0:((S.mem.length:Int)==0)=false:=by
    have:=List.length_pos_iff.2 hm0
    simp;omega
   have hmem:∀ x∈S.mem,EntOk x:=HOK.out.ok
   have htb:tbOk S.mem=true:=tbOk_of HOK.out.rise HOK.out.mayE
   have HLIM:=Lib.hid (And.intro hl (And.intro hmem htb))
   have HM0:=Lib.hid hm0
   have HTD:Hid (∀ W,Below w2.heap.size w2 W→IxAt At w0 gd gx r S D1 (gl::(gb::E)) W∧Blok W gl 78 (logCells (ptr gl) gd L1)∧Blok W gb 32 #[ptr gx]∧W.cell? ⟨gx,8,none⟩=some (mtp gm)∧Kept E w W):=Lib.hid fun W hW =>
    ⟨HI2.out.below api hW,Blok.below HL2.out hW,Blok.below HB2.out hW,(hW.cell (p:=⟨gx,8,none⟩) (World.block_lt_of_cell? w2 _ c8)).trans c8,HK2.out.trans (Kept.of_below hW (fun b hb=>HI2.out.lt b (List.mem_cons_of_mem _ (List.mem_cons_of_mem _ hb))))⟩
   have HDMP:Hid (Calls Tryz.prog 43 #[mtp gm] w2.drew (EntsOut w2.drew S.mem)):=Lib.hid (by
    obtain⟨Fm,Gr,Gk,-,hM,-⟩:=(HI2.out).drew api
    obtain⟨gm',c8',hT'⟩:=hM.tab
    have e:gm'=gm:=by
     have h1:w2.cell? ⟨gx,8,none⟩=some (mtp gm'):=c8'
     rw[c8] at h1
     injection h1 with h1
     injection h1 with h1
     injection h1 with h1
     injection h1 with h1
     exact h1.symm
    rw[e] at hT'
    exact tdump_run hT'.has (by omega))
   obtain⟨nm,hnm⟩:∃ nm,nm=S.mem.length:=⟨_,rfl⟩
   have HNM:=Lib.hid hnm
   rw[← hnm] at HLEN hlen0
   unfold EntsOut at HDMP
   rw[← hnm] at HDMP
   have hS0:w2.drew.cell? ⟨gb,0,none⟩=some (ptr gx)∧w2.drew.cell? ⟨gx,8,none⟩=some (mtp gm):=⟨b0,c8⟩
   have hmf:∀ (fn:Fn) (first cap:Array Value) (w:World),(Instr.makeFunc fn first cap).run Tryz.prog w = .ok (.func fn first cap) w:=fun _ _ _ _=>rfl
   clear hm0 hl hmem htb hnm
   go_wp2_with fail
   refine HLEN.out.mono ?_
   rintro e w' ⟨rfl,rfl⟩
   go_wp2_with fail
   have HEN:Hid (∀ W,Blok W gl 78 (logCells (ptr gl) gd L1)→Calls Tryz.prog 11 #[ptr gl] W fun e w'=>e = .returned (.int .i64 (L1.endp:Nat))∧W=w'):=Lib.hid fun W hW=>tend_run (hW.cell 0) (hW.cell 4)
   have hsm:=addL_small S.m.lv n
   have HLAY:Hid (∀ (A3:Option Addr) (c3:Nat) (W:World),Below w2.drew.heap.size w2.drew W→EntRow W w2.drew.heap.size (.slice A3 nm c3) S.mem→Calls Tryz.prog 42 #[ptr gx,.slice A3 nm c3,.int .i64 (L1.endp:Nat),.func (.func 44) #[] #[ptr gb]] W fun e w'=>∃ t,FltOf S.mem r t ∧
     IxEnd At w0 gd gx r (err (layI D1 n S.mem t pe (nextM S (addL S.m.lv n) L1.endp)).1) (layIX S D1 n S.mem t pe (addL S.m.lv n) L1.endp) (layI D1 n S.mem t pe (nextM S (addL S.m.lv n) L1.endp)).2 (ownL (.slice A3 nm c3)++(gl::(gb::E))) W e w'∧Same8 gx W w'):=Lib.hid fun A3 c3 W hW hrow=>by
    obtain⟨q1,q2,q3,q4,q5⟩:=HTD.out W ((Below.refl _ w2).drew.trans hW)
    have hro:=row_own hrow
    have i3:IxAt At w0 gd gx r S D1 (ownL (.slice A3 nm c3)++(gl::(gb::E))) W:=(HI2.out.drew api).more api hW hro
    exact xlay_run api nap iap i3 wf1 hd1 hc1 n hn hn9 HOK.out.seed hr _ S.mem hrow.in_ (fun b hb=>List.mem_append_left _ hb) HLIM.out.1 HLIM.out.2.1 HLIM.out.2.2 _ _ #[ptr gb] (enters_of Tryz.func44 (by kernel_rfl) rfl) (addL S.m.lv n) pe
     (fun W' D' hi hk=>fplace_run hi HOK.out.may (hk.blok q3 (List.mem_append_right _ (List.mem_cons_of_mem _ List.mem_cons_self))) n pe hpe) (by omega) (by omega) hop (by have:=HOK.out.many_le;omega)
   have HF:Hid (∀ t,flushI 0 D1 S t n pe L1.endp=layI D1 n S.mem t pe (nextM S (addL S.m.lv n) L1.endp)∧flushIX 0 D1 S t n pe L1.endp=(if (layI D1 n S.mem t pe (nextM S (addL S.m.lv n) L1.endp)).1=0 then { layIX S D1 n S.mem t pe (addL S.m.lv n) L1.endp with mem:=[] } else layIX S D1 n S.mem t pe (addL S.m.lv n) L1.endp)):=Lib.hid fun t=>⟨by unfold flushI;rw[if_neg (by decide),if_neg HM0.out],by unfold flushIX;rw[if_neg (by decide),if_neg HM0.out]⟩
   have HSK:Hid (∀ W,Below w2.drew.heap.size w2.drew W→W.cell? ⟨gb,0,none⟩=some (ptr gx)∧W.cell? ⟨gx,8,none⟩=some (mtp gm)):=Lib.hid fun W hW=>by
    obtain⟨q1,q2,q3,q4,q5⟩:=HTD.out W ((Below.refl _ w2).drew.trans hW)
    exact⟨q3.cell 0,q4⟩
   clear hlen0 wf1 hd1 hc1 hn hn9 hr hpe hop b0 c8 hsm
   go_region_held3 (fun W=>W.cell? ⟨gb,0,none⟩=some (ptr gx)∧W.cell? ⟨gx,8,none⟩=some (mtp gm))
    (first | (with_reducible assumption) | fail)
    (first
    | (go_at_call 43;((with_reducible refine HDMP.out.mono ?_);rintro e w3 ⟨A3,c3,rfl,r3,b3⟩;have hS3:=HSK.out w3 b3;have HEN3:=Lib.hid (HEN.out w3 (HTD.out w3 ((Below.refl _ w2).drew.trans b3)).2.1);have HLAY3:=Lib.hid (HLAY.out A3 c3 w3 b3 r3)))
    | (go_at_call 11;((with_reducible refine HEN3.out.mono ?_);rintro e w4 ⟨rfl,rfl⟩))
    | (go_at_call 42;((with_reducible refine HLAY3.out.mono ?_);rintro e w5 ⟨t,hft,hi5,hs5⟩;have hS5:w5.cell? ⟨gb,0,none⟩=some (ptr gx)∧w5.cell? ⟨gx,8,none⟩=some (mtp gm):=⟨(hi5.2.2.blok (HTD.out w3 ((Below.refl _ w2).drew.trans b3)).2.2.1 (List.mem_append_right _ (List.mem_cons_of_mem _ List.mem_cons_self))).cell 0,Eq.trans hs5 hS3.2⟩;obtain⟨rfl,hi6,hk6⟩:=hi5))
    | fail)
   all_goals
    have HLG5:=Lib.hid (hk6.blok (HTD.out w3 ((Below.refl _ w2).drew.trans b3)).2.1 (List.mem_append_right _ List.mem_cons_self))
    have HK5:=Lib.hid ((HTD.out w3 ((Below.refl _ w2).drew.trans b3)).2.2.2.2.trans (hk6.less (fun b hb=>List.mem_append_right _ (List.mem_cons_of_mem _ (List.mem_cons_of_mem _ hb)))))
    have hi7:=hi6.less (E':=gl::E) (fun b hb=>by
     rcases List.mem_cons.1 hb with e | hb
     ·rw[e];exact List.mem_append_right _ List.mem_cons_self
     ·exact List.mem_append_right _ (List.mem_cons_of_mem _ (List.mem_cons_of_mem _ hb)))
    obtain⟨gm',c8',hclr⟩:=xclear_run api hi7
    have egm:gm'=gm:=by
     have h1:=hS5.2.symm.trans c8'
     injection h1 with h1
     injection h1 with h1
     injection h1 with h1
     injection h1 with h1
     exact h1.symm
    rw[egm] at hclr
    have HCL:=Lib.hid hclr
    have HI7:=Lib.hid hi7
    have HFT:=Lib.hid (And.intro hft (HF.out t))
    obtain⟨b0,c8⟩:=hS5
    clear hi6 hk6 hi7 hclr hft c8' egm hs5 hS3 r3 b3 HLAY3 HLAY HF HEN3 HTD HSK HDMP HEN HI2 HL2 HB2
    generalize layIX S D1 n S.mem t pe (addL S.m.lv n) L1.endp=S' at *
    generalize layI D1 n S.mem t pe (nextM S (addL S.m.lv n) L1.endp)=lp at *
    obtain⟨lp1,D5⟩:=lp
    by_cases hz:lp1=0
    ·subst hz
     go_wp2_with fail
     refine HCL.out.mono ?_
     rintro e w6 ⟨rfl,i6,k6⟩
     have H6:=Lib.hid (And.intro i6 (And.intro (k6.blok HLG5.out List.mem_cons_self) (HK5.out.trans (k6.less (fun b hb=>List.mem_cons_of_mem _ hb)))))
     clear i6 k6
     go_wp2
     go_ret
     refine⟨t,(by first | exact Or.inr HFT.out.1 | exact Or.inr (Or.inr HFT.out.1)), ?_⟩
     rw[HFT.out.2.1,HFT.out.2.2,if_pos (by trivial)]
     exact⟨rfl,H6.out.1,H6.out.2.1,H6.out.2.2⟩
    ·have t1:((lp1:Int)==0)=false:=by simp;omega
     have HZ:=Lib.hid hz
     clear hz
     go_wp2
     go_ret
     refine⟨t,(by first | exact Or.inr HFT.out.1 | exact Or.inr (Or.inr HFT.out.1)), ?_⟩
     rw[HFT.out.2.1,HFT.out.2.2,if_neg HZ.out]
     exact⟨rfl,HI7.out,HLG5.out,HK5.out⟩
end
end Go.Proofs.YtcpfkaehefcakaaGreat
namespace Go.Proofs.YtcpfkaehefcakaaGreat
set_option maxRecDepth 100000
set_option linter.unusedVariables false
section
theorem pt_np {n:Nat}(h:n≤999999) : npOk (ptT n)=true∧npK (ptT n)=116∧npN (ptT n)=n∧npOk (ptB n)=true∧npK (ptB n)=98∧npN (ptB n)=n:=by
 obtain⟨a1,a2,a3⟩:=np_back (c:=116) (by decide) h
 obtain⟨b1,b2,b3⟩:=np_back (c:=98) (by decide) h
 exact⟨a1,a2,a3,b1,b2,b3⟩
theorem pt_inj {n m:Nat}(h:n≤999999)(k:m≤999999) : (ptT n=ptT m→n=m)∧(ptB n=ptB m→n=m):=by
 obtain⟨-,-,a3,-,-,b3⟩:=pt_np h
 obtain⟨-,-,c3,-,-,d3⟩:=pt_np k
 exact⟨fun e=>by rw[e] at a3;omega,fun e=>by rw[e] at b3;omega⟩
theorem map_np : npOk mapN=false:=by decide +kernel
theorem new_np : npOk newN=false:=by decide +kernel
theorem pt_far {n:Nat}(h:n≤999999) : ptT n≠mapN∧ptT n≠newN∧ptB n≠mapN∧ptB n≠newN:=by
 obtain⟨a1,-,-,b1,-,-⟩:=pt_np h
 have m:=map_np
 have w:=new_np
 exact⟨fun e=>by rw[e,m] at a1;exact Bool.noConfusion a1,fun e=>by rw[e,w] at a1;exact Bool.noConfusion a1,fun e=>by rw[e,m] at b1;exact Bool.noConfusion b1,fun e=>by rw[e,w] at b1;exact Bool.noConfusion b1⟩
structure IxDk (D:DiskS)(S:IxS) : Prop where
 up:UpD D
 starts:D.starts=0
 only:∀ n∈namesS D,n=mapN∨∃ t∈S.T,n=ptT t.n∨n=ptB t.n
 used:(usedS D.l:Int)≤4000*S.m.next
theorem pt_names (T:List TbS) : (T.flatMap fun t=>[ptT t.n,ptB t.n]).length=2*T.length:=by
 induction T with
 | nil=>rfl
 | cons t T ih =>
   rw[List.flatMap_cons,List.length_append,ih,List.length_cons]
   show 2+2*T.length=2*(T.length+1)
   omega
theorem IxDk.many {D:DiskS}{S:IxS}(h:IxDk D S)(hd:(namesS D).Nodup) : D.l.length≤1+2*S.T.length:=by
 have h1:=nodup_len (b:=mapN::S.T.flatMap fun t=>[ptT t.n,ptB t.n]) hd (fun n hn=>by
  rcases h.only n hn with e | ⟨t,ht,e⟩
  ·rw[e];exact List.mem_cons_self
  ·refine List.mem_cons_of_mem _ (List.mem_flatMap.2 ⟨t,ht, ?_⟩)
   rcases e with e | e<;>rw[e]<;>simp)
 have h2:(namesS D).length=D.l.length:=List.length_map _
 rw[List.length_cons,pt_names] at h1
 omega
theorem not_named {D:DiskS}{n:ByteArray}(h:n ∉ namesS D) : fileOf D.l n=none:=fileOf_none.2 fun f hf e=>h (List.mem_map.2 ⟨f,hf,e⟩)
theorem IxDk.none_ {D:DiskS}{S:IxS}(h:IxDk D S)(ok:IxOk D S) : fileOf D.l newN=none∧∀ n:Nat,n≤999999→S.m.next≤n→fileOf D.l (ptT n)=none∧fileOf D.l (ptB n)=none:=by
 refine⟨not_named fun hm=>?_,fun n hn hx=>⟨not_named fun hm=>?_,not_named fun hm=>?_⟩⟩
 ·rcases h.only _ hm with e | ⟨t,ht,e⟩
  ·exact map_new e.symm
  ·have:=(ok.num_le ht).1
   have:=pt_far (n:=t.n) (by omega)
   rcases e with e | e
   ·exact this.2.1 e.symm
   ·exact this.2.2.2 e.symm
 ·rcases h.only _ hm with e | ⟨t,ht,e⟩
  ·exact(pt_far hn).1 e
  ·have h2:=ok.num_le ht
   rcases e with e | e
   ·have:=(pt_inj hn (by omega)).1 e;omega
   ·exact pt_ne (by omega) hn e.symm
 ·rcases h.only _ hm with e | ⟨t,ht,e⟩
  ·exact(pt_far hn).2.2.1 e
  ·have h2:=ok.num_le ht
   rcases e with e | e
   ·exact pt_ne hn (by omega) e
   ·have:=(pt_inj hn (by omega)).2 e;omega
theorem IxDk.orph {D:DiskS}{S:IxS}(h:IxDk D S)(ok:IxOk D S) : orphL (D.l.map FileS.name) S.m=[]:=by
 unfold orphL
 refine List.filter_eq_nil_iff.2 fun n hn=>?_
 have hnn:n≠newN:=fun e=>by
  have:=(h.none_ ok).1
  rw[e] at hn
  obtain⟨f,hf,en⟩:=List.mem_map.1 hn
  exact fileOf_none.1 this f hf en
 unfold orphB
 rcases h.only n hn with e | ⟨t,ht,e⟩
 ·rw[e,map_np]
  simp[map_new]
 ·have hx:=(ok.nums t.n).2 ⟨t,ht,rfl⟩
  have hl:=(ok.num_le ht).1
  obtain⟨a1,a2,a3,b1,b2,b3⟩:=pt_np (n:=t.n) (by omega)
  rcases e with e | e
  ·rw[e] at hnn ⊢
   rw[a3]
   simp[hnn,hx]
  ·rw[e] at hnn ⊢
   rw[b3]
   simp[hnn,hx]
theorem laid_ok {D E:DiskS}{S:IxS}(ok:IxOk D S){n:Nat}(hn:S.m.next=(n:Nat)){R:LvL}{en:Int}(hM:MayM ⟨S.m.next+1,en,S.m.seed,R⟩){x:TbS}(hxn:x.n=n)(hxh:HasT E n x.l)(hxk:keepsP x.t x.l=true){P:Int→Prop}
  (hR:∀ y:Int,y∈R.flatten↔y=n∨(y∈S.m.lv.flatten∧P y)) (hf:∀ t∈stayT S.T R,fileOf E.l (ptT t.n)=fileOf D.l (ptT t.n)) {mem:List EntS} (hr:RiseE mem) (hok:∀ y∈mem,EntOk y) (hmy:∀ y∈mem,mayE y=true):IxOk E (laidX S R en x mem):=by
 have hst:∀ t:TbS,t∈stayT S.T R↔t∈S.T∧(t.n:Int)∈R.flatten:=fun t=>by unfold stayT;rw[List.mem_filter];simp
 refine⟨hM,ok.seed,fun y=>?_, ?_,fun t ht=>?_,fun t ht=>?_,hr,hok,hmy⟩
 ·show y∈R.flatten↔∃ t∈stayT S.T R++[x],(t.n:Int)=y
  rw[hR]
  constructor
  ·rintro (rfl | ⟨q1,q2⟩)
   ·exact⟨x,List.mem_append_right _ (List.mem_singleton.2 rfl),by rw[hxn]⟩
   ·obtain⟨t,ht,rfl⟩:=(ok.nums y).1 q1
    exact⟨t,List.mem_append_left _ ((hst t).2 ⟨ht,(hR _).2 (Or.inr ⟨q1,q2⟩)⟩),rfl⟩
  ·rintro ⟨t,ht,rfl⟩
   rcases List.mem_append.1 ht with q | q
   ·exact(hR _).1 ((hst t).1 q).2
   ·rw[List.mem_singleton.1 q,hxn]
    exact Or.inl rfl
 ·show((stayT S.T R++[x]).map TbS.n).Nodup
  rw[List.map_append]
  refine List.nodup_append.2 ⟨(List.Sublist.map _ List.filter_sublist).nodup ok.uniq,by simp,fun a ha b hb e=>?_⟩
  obtain⟨t,ht,rfl⟩:=List.mem_map.1 ha
  have:=(ok.num_le ((hst t).1 ht).1).2
  have hb':b=x.n:=by simpa using hb
  omega
 ·rcases List.mem_append.1 ht with q | q
  ·obtain⟨f,h1,h2,h3⟩:=ok.has t ((hst t).1 q).1
   exact⟨f,by rw[hf t q];exact h1,h2,h3⟩
  ·rw[List.mem_singleton.1 q,hxn]
   exact hxh
 ·rcases List.mem_append.1 ht with q | q
  ·exact ok.keep t ((hst t).1 q).1
  ·rw[List.mem_singleton.1 q]
   exact hxk
theorem del_one {D:DiskS}(h:UpD D)(hd:(namesS D).Nodup)(n:ByteArray) : ∃ e E,deleteS D n=(e,E)∧goneP e=true∧UpD E∧StaysD D E∧usedS E.l≤usedS D.l∧(namesS E).Nodup∧(∀ k,k∈namesS E↔k∈namesS D∧k≠n)∧∀ k,k≠n→fileOf E.l k=fileOf D.l k:=by
 cases hf:fileOf D.l n with
 | none =>
   refine⟨4,D,deleteS_no h.down hf,rfl,h,StaysD.refl D,Nat.le_refl _,hd,fun k=>⟨fun hk=>⟨hk,fun e=>?_⟩,fun hk=>hk.1⟩,fun k _=>rfl⟩
   obtain⟨f,h1,h2⟩:=List.mem_map.1 hk
   exact fileOf_none.1 hf f h1 (h2.trans e)
 | some f =>
   obtain⟨E,e1,u1,c1,p1,l1,s1,z1,o1⟩:=deleteS_of h hf
   have st:=sd_delete D n
   rw[e1] at st
   have hn:namesS E=(namesS D).filter (fun x=>!decide (x=n)):=by
    show E.l.map FileS.name=_
    rw[l1]
    exact drop_names n D.l hd
   refine⟨0,E,e1,rfl,u1,st,by omega,by rw[hn];exact List.Pairwise.filter _ hd,fun k=>?_,o1⟩
   rw[hn,List.mem_filter]
   simp
structure Dropped (D E:DiskS)(ns:List Int) : Prop where
 up:UpD E
 stays:StaysD D E
 used:usedS E.l≤usedS D.l
 nodup:(namesS E).Nodup
 names:∀ k,k∈namesS E↔k∈namesS D∧∀ n∈ns,k≠ptT n∧k≠ptB n
 other:∀ k,(∀ n∈ns,k≠ptT n∧k≠ptB n)→fileOf E.l k=fileOf D.l k
theorem drop_one {D:DiskS}(h:UpD D)(hd:(namesS D).Nodup)(n:Int) : ∃ E,dropP D n=(0,E)∧Dropped D E [n]:=by
 obtain⟨e1,E1,h1,g1,u1,s1,z1,d1,n1,o1⟩:=del_one h hd (ptT n)
 obtain⟨e2,E2,h2,g2,u2,s2,z2,d2,n2,o2⟩:=del_one u1 d1 (ptB n)
 refine⟨E2, ?_,u2,s1.trans s2,by omega,d2,fun k=>?_,fun k hk=>?_⟩
 ·unfold dropP
  rw[h1]
  simp only
  rw[if_neg (by rw[g1];decide),h2]
  simp only
  rw[if_neg (by rw[g2];decide)]
 ·rw[n2,n1]
  simp only[List.mem_singleton,forall_eq]
  exact⟨fun q=>⟨q.1.1,q.1.2,q.2⟩,fun q=>⟨⟨q.1,q.2.1⟩,q.2.2⟩⟩
 ·obtain⟨q1,q2⟩:=hk n List.mem_cons_self
  rw[o2 k q2,o1 k q1]
theorem drops_ok : ∀ (ns:List Int) {D:DiskS},UpD D→(namesS D).Nodup→∃ E,dropsP D ns=(0,E)∧Dropped D E ns
 | [],D,h,hd=>⟨D,rfl,h,StaysD.refl D,Nat.le_refl _,hd,fun k=>by simp,fun k _=>rfl⟩
 | n::ns,D,h,hd=>by
   obtain⟨E1,e1,d1⟩:=drop_one h hd n
   obtain⟨E2,e2,d2⟩:=drops_ok ns d1.up d1.nodup
   refine⟨E2, ?_,d2.up,d1.stays.trans d2.stays,Nat.le_trans d2.used d1.used,d2.nodup,fun k=>?_,fun k hk=>?_⟩
   ·rw[dropsP_cons,e1]
    simp only
    rw[if_neg (by decide)]
    exact e2
   ·rw[d2.names,d1.names]
    simp only[List.mem_cons,List.not_mem_nil,or_false,forall_eq_or_imp,forall_eq]
    exact⟨fun q=>⟨q.1.1,q.1.2,q.2⟩,fun q=>⟨⟨q.1,q.2.1⟩,q.2.2⟩⟩
   ·rw[d2.other k (fun m hm=>hk m (List.mem_cons_of_mem _ hm)),d1.other k (fun m hm=>by rw[List.mem_singleton.1 hm];exact hk n List.mem_cons_self)]
structure LaidT (D E:DiskS)(n:Nat)(l:List EntS)(t:ByteArray)(m:ManS) : Prop where
 up:UpD E
 starts:E.starts=D.starts
 cap:E.cap=D.cap
 count:E.count≤D.count+2
 used:usedS E.l≤usedS D.l+t.size+(tbB l).size+(mfB m).size
 has:HasT E n l
 names:∀ k∈namesS E,k=mapN∨k=ptT n∨k=ptB n∨k∈namesS D
 other:∀ k,k≠mapN→k≠newN→k≠ptT n→k≠ptB n→fileOf E.l k=fileOf D.l k
theorem opens_yes {D:DiskS}{n:Int}{l:List EntS}(hd:D.down=false)(h:HasT D n l) : openE D n=0∧tgL (rdW D (ptT n)).1=l:=by
 obtain⟨f,h1,h2,h3⟩:=h
 unfold openE
 rw[rdW_of hd h1,if_neg (by rw[hd];decide)]
 simp[h2,h3]
theorem write_names {D E:DiskS}{n:Nat}{l:List EntS}{t:ByteArray}(h:writeP D n l t=(0,E))(hd:(namesS D).Nodup)(w:Wrote D E n l t) : (namesS E).Nodup∧StaysD D E∧∀ k∈namesS E,k=ptT n∨k=ptB n∨k∈namesS D:=by
 have e:E=(layP (layP D (ptB n) t).2 (ptT n) (tbB l)).2:=by
  unfold writeP at h
  split at h
  ·cases h
  ·split at h
   ·cases h
   ·split at h
    ·cases h
    ·split at h
     ·rename_i c
      exact absurd (by rw[h]) c
     ·split at h
      ·rename_i c
       exact absurd (congrArg Prod.fst h) c
      ·rw[h]
 rw[e]
 refine⟨lay_nodup (lay_nodup hd),(sd_lay _ _ _).trans (sd_lay _ _ _),fun k hk=>?_⟩
 rcases lay_name hk with q | q
 ·exact Or.inl q
 ·rcases lay_name q with q | q
  ·exact Or.inr (Or.inl q)
  ·exact Or.inr (Or.inr q)
theorem lays_ok {D:DiskS}{S:IxS}(dk:IxDk D S)(hd:(namesS D).Nodup)(ok:IxOk D S){n:Nat}(hn:S.m.next=(n:Nat))(hn9:n≤150){l:List EntS}(hr:RiseE l)(hm:∀ x∈l,mayE x=true)(hx:∀ x∈l,EntOk x)(hl:l.length≤120){t:ByteArray}(ht:t.size≤256+4*l.length)
  {R:LvL} {en:Int} (hM:MayM (nextM S R en)) (hroom:4000*n+12000≤D.cap) :
  ∃ E x,layI D n l t 0 (nextM S R en)=(0,E)∧layIX S D n l t 0 R en=laidX S R en x S.mem∧x.n=n∧x.l=l∧keepsP x.t x.l=true∧LaidT D E n l t (nextM S R en):=by
 have hok:=tbOk_of hr hm
 obtain⟨k1,k2⟩:=dk.none_ ok
 obtain⟨k3,k4⟩:=k2 n (by omega) (by omega)
 have hu:=dk.used
 have hts:=tbB_size l
 have hms:=mfB_small hM
 have hmany:=dk.many hd
 have hm40:=ok.many_le
 obtain⟨E1,e1,w1⟩:=write_ok dk.up (n:=n) (by omega) hok (t:=t) (by omega) k3 k4 (by omega)
 obtain⟨d1,s1,n1⟩:=write_names e1 hd w1
 have hh:=w1.has (by omega) hx hok
 obtain⟨o1,o2⟩:=opens_yes w1.up.down hh
 obtain⟨j,hj,o3⟩:=(openE_same E1 E1.count (n:Nat) w1.up.down).2
 have o3':openD E1 (n:Nat)={ E1 with count:=E1.count+j }:=o3
 have hnew:fileOf E1.l newN=none:=by rw[w1.other newN (fun e=>(pt_far (n:=n) (by omega)).2.1 e.symm) (fun e=>(pt_far (n:=n) (by omega)).2.2.2 e.symm)];exact k1
 obtain⟨E2,e2,u2,s2,q2,l2,f2,g2,h2,x2⟩:=swap_ok (D:={ E1 with count:=E1.count+j }) (w1.up.count _) d1 hM hnew (by show E1.l.length<_;rw[w1.many];omega) (by show usedS E1.l+_+_≤E1.cap;rw[w1.used,w1.cap];omega)
 have et:takeP E1 n 0 (nextM S R en)=(0,E2):=by
  unfold takeP
  rw[if_neg (by decide),if_neg (by rw[o1];decide),o3']
  exact e2
 have hw:=w1.used
 refine⟨E2,tabP E1 n, ?_, ?_,rfl,o2, ?_,u2,(s2.starts.trans s1.starts),(s2.cap.trans w1.cap), ?_, ?_, ?_,fun k hk=>?_,fun k a b c d=>?_⟩
 ·unfold layI
  rw[e1]
  simp only
  rw[if_neg (by decide),et]
  simp
 ·unfold layIX
  rw[e1]
  simp only
  rw[if_neg (by decide)]
  unfold takeX
  rw[et]
  simp
 ·show keepsP (ldF _ _ _) _=true
  exact ldF_keeps _ _ _
 ·have:=s2.count
  have:=w1.count
  show E2.count≤_
  simp only at *
  omega
 ·show usedS E2.l≤_
  simp only at q2
  omega
 ·obtain⟨f,a1,a2,a3⟩:=hh
  exact⟨f,by rw[h2 _ (fun e=>(pt_far (n:=n) (by omega)).1 e) (fun e=>(pt_far (n:=n) (by omega)).2.1 e)];exact a1,a2,a3⟩
 ·rcases x2 k hk with e | e
  ·exact Or.inl e
  ·rcases n1 k e with e | e | e
   ·exact Or.inr (Or.inl e)
   ·exact Or.inr (Or.inr (Or.inl e))
   ·exact Or.inr (Or.inr (Or.inr e))
 ·rw[h2 k a b]
  exact w1.other k c d
theorem nd_done {D:DiskS}{l:List FileS}(h:(namesS D).Nodup)(k:(l.map FileS.name).Nodup) : (namesS (doneS D { D with l:=l }).2).Nodup:=by
 unfold doneS
 split
 ·exact k
 ·rw[names_sink]
  exact h
theorem nd_delete {D:DiskS}(h:(namesS D).Nodup)(n:ByteArray) : (namesS (deleteS D n).2).Nodup:=by
 unfold deleteS
 split
 ·exact h
 ·split
  ·exact nd_done h (drop_nodup h)
  ·exact h
theorem clear_nodup {l:List FileS}(n:ByteArray)(h:(l.map FileS.name).Nodup) : ((clearL l n).map FileS.name).Nodup:=by
 unfold clearL
 split
 ·exact drop_nodup h
 ·exact h
theorem layS_nodup {l:List FileS}{f:FileS}(h:(l.map FileS.name).Nodup)(hn:fileOf l f.name=none) : ((layS l f).map FileS.name).Nodup:=by
 have hp:((layS l f).map FileS.name).Perm (f.name::l.map FileS.name):=by
  unfold layS
  generalize aheadS l f.name=k
  have e:l.map FileS.name=(l.take k).map FileS.name++(l.drop k).map FileS.name:=by rw[← List.map_append,List.take_append_drop]
  rw[e,List.map_append,List.map_append]
  show((l.take k).map FileS.name++[f.name]++(l.drop k).map FileS.name).Perm _
  rw[List.append_assoc]
  exact List.perm_middle
 refine hp.nodup_iff.2 (List.nodup_cons.2 ⟨fun hm=>?_,h⟩)
 obtain⟨g,hg,en⟩:=List.mem_map.1 hm
 exact fileOf_none.1 hn g hg en
theorem nd_rename {D:DiskS}(h:(namesS D).Nodup)(n m:ByteArray) : (namesS (renameS D n m).2).Nodup:=by
 unfold renameS
 split
 ·exact h
 ·split
  ·split
   ·exact h
   ·refine nd_done h ?_
    split
    ·exact h
    ·cases hk:D.l[findS D.l n]? with
     | none =>
       unfold renameL
       rw[hk]
       exact h
     | some f =>
       rw[renameL_at hk]
       exact layS_nodup (clear_nodup m (drop_nodup h)) (clear_none (drop_nodup h))
  ·exact h
theorem nd_swap {D:DiskS}(h:(namesS D).Nodup)(m:ManS) : (namesS (swapP D m).2).Nodup:=by
 unfold swapP
 split
 ·exact h
 ·split
  ·exact h
  ·split
   ·exact nd_delete h _
   ·split
    ·exact nd_delete h _
    ·split
     ·exact lay_nodup (nd_delete h _)
     ·exact nd_rename (lay_nodup (nd_delete h _)) _ _
theorem nd_openD {D:DiskS}(h:(namesS D).Nodup)(n:Int) : (namesS (openD D n)).Nodup:=by
 cases hd:D.down with
 | true =>
   unfold openD
   rw[if_pos hd]
   exact h
 | false =>
   obtain⟨j,-,e⟩:=(openE_same D D.count n hd).2
   have e':openD D n={ D with count:=D.count+j }:=e
   rw[e']
   exact h
theorem nd_write {D:DiskS}(h:(namesS D).Nodup)(n:Int)(l:List EntS)(t:ByteArray) : (namesS (writeP D n l t).2).Nodup:=by
 unfold writeP
 split
 ·exact h
 ·split
  ·exact h
  ·split
   ·exact h
   ·split
    ·exact lay_nodup h
    ·split
     ·exact nd_delete (lay_nodup (lay_nodup h)) _
     ·exact lay_nodup (lay_nodup h)
theorem nd_take {D:DiskS}(h:(namesS D).Nodup)(n pe:Nat)(m:ManS) : (namesS (takeP D n pe m).2).Nodup:=by
 unfold takeP
 split
 ·exact h
 ·split
  ·exact nd_openD h _
  ·exact nd_swap (nd_openD h _) _
theorem nd_drop {D:DiskS}(h:(namesS D).Nodup)(n:Int) : (namesS (dropP D n).2).Nodup:=by
 unfold dropP
 split
 ·exact nd_delete h _
 ·split
  ·exact nd_delete (nd_delete h _) _
  ·exact nd_delete (nd_delete h _) _
theorem nd_layI {D:DiskS}(h:(namesS D).Nodup)(n:Nat)(l:List EntS)(t:ByteArray)(pe:Nat)(m:ManS) : (namesS (layI D n l t pe m).2).Nodup:=by
 unfold layI
 split
 ·exact nd_write h _ _ _
 ·split
  ·exact nd_drop (nd_take (nd_write h _ _ _) _ _ _) _
  ·exact nd_take (nd_write h _ _ _) _ _ _
structure StepOk (D E:DiskS)(S S':IxS) : Prop where
 ok:IxOk E S'
 dk:IxDk E S'
 has:∀ x,IxHas S' x↔IxHas S x
 cap:E.cap=D.cap
 count:E.count≤D.count+2
theorem IxDk.count {D:DiskS}{S:IxS}(h:IxDk D S)(k:Nat) : IxDk { D with count:=k } S:=⟨h.up.count k,h.starts,h.only,h.used⟩
theorem flush_ok {D:DiskS}{S:IxS}(dk:IxDk D S)(hd:(namesS D).Nodup)(ok:IxOk D S){n:Nat}(hn:S.m.next=(n:Nat))(hn9:n≤150)(hq:S.mem≠[])(hl:S.mem.length≤120){r:Nat}{t:ByteArray}(hft:FltOf S.mem r t)
  {en:Int} (he0:0≤en) (he1:en≤2147483647) (hpe:addLE S.m.lv n=0) (hroom:4000*n+12000≤D.cap) :
  ∃ E S',flushI 0 D S t n 0 en=(0,E)∧flushIX 0 D S t n 0 en=S'∧StepOk D E S S'∧S'.mem=[]∧S'.m=⟨S.m.next+1,en,S.m.seed,addL S.m.lv n⟩:=by
 have ht:=flt_size (by omega) hft
 obtain⟨a1,a2,-⟩:=addL_ok hpe
 have a3:=fun y=>addL_mem hpe y
 have hmx:=ok.may
 have hM:MayM (nextM S (addL S.m.lv n) en):=⟨by show 0≤S.m.next+1;omega,by show S.m.next+1≤_;omega,he0,he1,a1,fun y hy=>by
  show y<S.m.next+1
  rcases(a3 y).1 hy with e | e
  ·omega
  ·have:=hmx.2.2.2.2.2 y e;omega⟩
 obtain⟨E,x,e1,e2,xn,xl,xk,L⟩:=lays_ok dk hd ok hn hn9 ok.rise ok.mayE ok.ok hl ht hM hroom
 have hst:∀ u∈S.T,u∈stayT S.T (addL S.m.lv n):=fun u hu=>List.mem_filter.2 ⟨hu,decide_eq_true ((a3 _).2 (Or.inr ((ok.nums _).2 ⟨u,hu,rfl⟩)))⟩
 have hu:=dk.used
 have hts:=tbB_size S.mem
 have hms:=mfB_small hM
 have hLu:=L.used
 refine⟨E,laidX S (addL S.m.lv n) en x [], ?_, ?_,⟨?_,⟨L.up,L.starts.trans dk.starts,fun k hk=>?_, ?_⟩,fun y=>?_,L.cap,L.count⟩,rfl,rfl⟩
 ·unfold flushI
  rw[if_neg (by decide),if_neg hq]
  exact e1
 ·unfold flushIX
  rw[if_neg (by decide),if_neg hq,e1,e2]
  simp only
  rw[if_pos trivial]
  rfl
 ·refine laid_ok ok hn hM xn (by rw[xl];exact L.has) xk (P:=fun _=>True) (fun y=>by rw[a3 y];simp) (fun u hu=>?_) List.Pairwise.nil (fun y hy=>by cases hy) (fun y hy=>by cases hy)
  have hu':=(List.mem_filter.1 hu).1
  have h2:=ok.num_le hu'
  have hun:u.n≤999999:=by omega
  have:=pt_far hun
  exact L.other _ this.1 this.2.1 (fun e=>by have:=(pt_inj hun (by omega)).1 e;omega) (fun e=>pt_ne (by omega) hun e.symm)
 ·show k=mapN∨∃ u∈stayT S.T (addL S.m.lv n)++[x],k=ptT u.n∨k=ptB u.n
  rcases L.names k hk with e | e | e | e
  ·exact Or.inl e
  ·exact Or.inr ⟨x,List.mem_append_right _ (List.mem_singleton.2 rfl),Or.inl (by rw[xn];exact e)⟩
  ·exact Or.inr ⟨x,List.mem_append_right _ (List.mem_singleton.2 rfl),Or.inr (by rw[xn];exact e)⟩
  ·rcases dk.only k e with e | ⟨u,hu,e⟩
   ·exact Or.inl e
   ·exact Or.inr ⟨u,List.mem_append_left _ (hst u hu),e⟩
 ·show(usedS E.l:Int)≤4000*(S.m.next+1)
  omega
 ·unfold IxHas
  show(y∈[]∨∃ u∈stayT S.T (addL S.m.lv n)++[x],y∈u.l)↔_
  constructor
  ·rintro (q | ⟨u,hu,q⟩)
   ·cases q
   ·rcases List.mem_append.1 hu with k | k
    ·exact Or.inr ⟨u,(List.mem_filter.1 k).1,q⟩
    ·rw[List.mem_singleton.1 k,xl] at q
     exact Or.inl q
  ·rintro (q | ⟨u,hu,q⟩)
   ·exact Or.inr ⟨x,List.mem_append_right _ (List.mem_singleton.2 rfl),by rw[xl];exact q⟩
   ·exact Or.inr ⟨u,List.mem_append_left _ (hst u hu),q⟩
theorem same_ok {D E:DiskS}{S:IxS}(dk:IxDk D S)(ok:IxOk D S)(up:UpD E)(hs:E.starts=D.starts)(hu:usedS E.l≤usedS D.l)(hn:∀ k∈namesS E,k∈namesS D)(hf:∀ u∈S.T,fileOf E.l (ptT u.n)=fileOf D.l (ptT u.n)) : IxOk E S∧IxDk E S:=by
 refine⟨⟨ok.may,ok.seed,ok.nums,ok.uniq,fun u hu=>?_,ok.keep,ok.rise,ok.ok,ok.mayE⟩,⟨up,hs.trans dk.starts,fun k hk=>dk.only k (hn k hk), ?_⟩⟩
 ·obtain⟨f,h1,h2,h3⟩:=ok.has u hu
  exact⟨f,by rw[hf u hu];exact h1,h2,h3⟩
 ·have:=dk.used
  omega
theorem flush_full {D:DiskS}{S:IxS}(dk:IxDk D S)(hd:(namesS D).Nodup)(ok:IxOk D S){n:Nat}(hn:S.m.next=(n:Nat))(hn9:n≤150)(hq:S.mem≠[])(hl:S.mem.length≤120){r:Nat}{t:ByteArray}(hft:FltOf S.mem r t)
  {en:Int} {pe:Nat} (hpe:pe≠0) (hroom:4000*n+12000≤D.cap) :
  ∃ E,flushI 0 D S t n pe en=(pe,E)∧flushIX 0 D S t n pe en=S∧StepOk D E S S:=by
 have ht:=flt_size (by omega) hft
 have hok:=tbOk_of ok.rise ok.mayE
 obtain⟨k1,k2⟩:=dk.none_ ok
 obtain⟨k3,k4⟩:=k2 n (by omega) (by omega)
 have hu:=dk.used
 have hts:=tbB_size S.mem
 have hmany:=dk.many hd
 have hm40:=ok.many_le
 obtain⟨E1,e1,w1⟩:=write_ok dk.up (n:=n) (by omega) hok (t:=t) (by omega) k3 k4 (by omega)
 obtain⟨d1,s1,n1⟩:=write_names e1 hd w1
 obtain⟨E2,e2,d2⟩:=drop_one w1.up d1 (n:Nat)
 obtain⟨E3,e3,u3,c3,p3,l3,z3⟩:=dropP_both w1.up (n:=n) (by omega) w1.table w1.bloom
 obtain rfl:E2=E3:=congrArg Prod.snd (e2.symm.trans e3)
 have et:takeP E1 n pe (nextM S (addL S.m.lv n) en)=(pe,E1):=by unfold takeP;rw[if_pos hpe]
 have eX:takeX S E1 n pe (addL S.m.lv n) en=S:=by unfold takeX;rw[et];exact if_neg hpe
 have hlay:layI D n S.mem t pe (nextM S (addL S.m.lv n) en)=(pe,E2):=by
  unfold layI
  rw[e1]
  simp only
  rw[if_neg (by decide),et]
  simp only
  rw[if_pos hpe,e2]
 have hw:=w1.used
 simp only at z3
 obtain⟨q1,q2⟩:=same_ok (E:=E2) dk ok d2.up (d2.stays.starts.trans s1.starts) (by omega) (fun k hk=>by
  obtain⟨b1,b2⟩:=(d2.names k).1 hk
  obtain⟨b3,b4⟩:=b2 _ List.mem_cons_self
  rcases n1 k b1 with e | e | e
  ·exact absurd e b3
  ·exact absurd e b4
  ·exact e) (fun u hu=>by
  have h2:=ok.num_le hu
  have hun:u.n≤999999:=by omega
  have g1:ptT u.n≠ptT n:=fun e=>by have:=(pt_inj hun (by omega)).1 e;omega
  have g2:ptT u.n≠ptB n:=fun e=>pt_ne (by omega) hun e.symm
  rw[d2.other _ (fun m hm=>by rw[List.mem_singleton.1 hm];exact⟨g1,g2⟩),w1.other _ g1 g2])
 refine⟨E2, ?_, ?_,q1,q2,fun x=>Iff.rfl,c3.trans w1.cap,by have:=w1.count;have:=p3;omega⟩
 ·unfold flushI
  rw[if_neg (by decide),if_neg hq]
  exact hlay
 ·unfold flushIX
  rw[if_neg (by decide),if_neg hq,hlay]
  simp only
  rw[if_neg hpe]
  unfold layIX
  rw[e1]
  simp only
  rw[if_neg (by decide)]
  exact eX
theorem merge_ok {D:DiskS}{S:IxS}(dk:IxDk D S)(hd:(namesS D).Nodup)(ok:IxOk D S){n:Nat}(hn:S.m.next=(n:Nat))(hn9:n≤150){lev:Int}(hpk:pickE S.m.lv lev=0)(hal:(allX S (pickL S.m.lv lev)).length≤120){r:Nat}{t:ByteArray}(hft:FltOf (allX S (pickL S.m.lv lev)) r t)(k:Nat)
  (hroom:4000*n+12000≤D.cap) :
  ∃ E S',mergeI D S t n lev 0 0 k=(0,E)∧mergeIX D S t n lev 0 0 k=S'∧StepOk { D with count:=D.count+k } E S S'∧S'.mem=S.mem∧S'.m=⟨S.m.next+1,S.m.check,S.m.seed,replL S.m.lv lev n⟩:=by
 have hmx:=ok.may
 have hre:replE S.m.lv lev n=0:=by rw[replE_parts (by omega) (fun x hx=>by have:=hmx.2.2.2.2.2 x hx;omega),hpk]
 have ht:=flt_size (by omega) hft
 obtain⟨a1,a2,-⟩:=replL_ok hre
 have a3:=fun y=>replL_mem hre y
 have hM:MayM (nextM S (replL S.m.lv lev n) S.m.check):=⟨by show 0≤S.m.next+1;omega,by show S.m.next+1≤_;omega,hmx.2.2.1,hmx.2.2.2.1,a1,fun y hy=>by
  show y<S.m.next+1
  rcases(a3 y).1 hy with e | ⟨e,-⟩
  ·omega
  ·have:=hmx.2.2.2.2.2 y e;omega⟩
 have dk':=dk.count (D.count+k)
 have ok':IxOk { D with count:=D.count+k } S:=ok.count _
 obtain⟨E1,x,e1,e2,xn,xl,xk,L⟩:=lays_ok dk' hd ok' hn hn9 (allX_rise ok _) (fun y hy=>(allX_ok ok _ y hy).2) (fun y hy=>(allX_ok ok _ y hy).1) (by omega) ht hM hroom
 have hnd1:(namesS E1).Nodup:=by
  have:=nd_layI (D:={ D with count:=D.count+k }) hd n (allX S (pickL S.m.lv lev)) t 0 (nextM S (replL S.m.lv lev n) S.m.check)
  rw[e1] at this
  exact this
 obtain⟨E,e3,d3⟩:=drops_ok (pickL S.m.lv lev) L.up hnd1
 have hst:∀ u:TbS,u∈stayT S.T (replL S.m.lv lev n)↔u∈S.T∧(u.n:Int) ∉ pickL S.m.lv lev:=fun u=>by
  unfold stayT
  rw[List.mem_filter,decide_eq_true_iff,a3]
  constructor
  ·rintro ⟨h1,h2 | h2⟩
   ·have:=(ok.num_le h1).2;omega
   ·exact⟨h1,h2.2⟩
  ·rintro ⟨h1,h2⟩
   exact⟨h1,Or.inr ⟨(ok.nums _).2 ⟨u,h1,rfl⟩,h2⟩⟩
 have hpn:∀ y∈pickL S.m.lv lev,∃ j:Nat,y=(j:Nat)∧j<n:=fun y hy=>by
  obtain⟨u,h1,rfl⟩:=(ok.nums y).1 (pick_sub y hy)
  exact⟨u.n,rfl,by have:=(ok.num_le h1).2;omega⟩
 have hfar:∀ j:Nat,j≤999999→(j:Int) ∉ pickL S.m.lv lev→∀ y∈pickL S.m.lv lev,(ptT j≠ptT y∧ptT j≠ptB y)∧ptB j≠ptT y∧ptB j≠ptB y:=fun j hj hnj y hy=>by
  obtain⟨i,rfl,hi⟩:=hpn y hy
  exact⟨⟨fun e=>by have:=(pt_inj hj (by omega)).1 e;subst this;exact hnj hy,fun e=>pt_ne (by omega) hj e.symm⟩,fun e=>pt_ne hj (by omega) e,fun e=>by have:=(pt_inj hj (by omega)).2 e;subst this;exact hnj hy⟩
 have hnn:((n:Nat):Int) ∉ pickL S.m.lv lev:=fun hm=>by
  obtain⟨i,e,hi⟩:=hpn _ hm
  omega
 have hu:=dk.used
 have hts:=tbB_size (allX S (pickL S.m.lv lev))
 have hms:=mfB_small hM
 have hLu:=L.used
 have hdu:=d3.used
 have hlu2:usedS E1.l≤usedS D.l+t.size+(tbB (allX S (pickL S.m.lv lev))).size+(mfB (nextM S (replL S.m.lv lev n) S.m.check)).size:=hLu
 refine⟨E,laidX S (replL S.m.lv lev n) S.m.check x S.mem, ?_, ?_,⟨?_,⟨d3.up,d3.stays.starts.trans (L.starts.trans dk.starts),fun q hq=>?_, ?_⟩,fun y=>?_,d3.stays.cap.trans L.cap,by rw[d3.stays.count];exact L.count⟩,rfl,rfl⟩
 ·unfold mergeI
  rw[if_neg (by decide),e1]
  simp only
  rw[if_neg (by decide)]
  exact e3
 ·unfold mergeIX
  rw[if_neg (by decide)]
  exact e2
 ·refine laid_ok ok hn hM xn ?_ xk (P:=fun y=>y ∉ pickL S.m.lv lev) a3 (fun u hu=>?_) ok.rise ok.ok ok.mayE
  ·rw[xl]
   obtain⟨f,b1,b2,b3⟩:=L.has
   exact⟨f,by rw[d3.other _ (fun y hy=>(hfar n (by omega) hnn y hy).1)];exact b1,b2,b3⟩
  ·obtain⟨hu1,hu2⟩:=(hst u).1 hu
   have h2:=ok.num_le hu1
   have hun:u.n≤999999:=by omega
   have:=pt_far hun
   rw[d3.other _ (fun y hy=>(hfar u.n hun hu2 y hy).1)]
   exact L.other _ this.1 this.2.1 (fun e=>by have:=(pt_inj hun (by omega)).1 e;omega) (fun e=>pt_ne (by omega) hun e.symm)
 ·show q=mapN∨∃ u∈stayT S.T (replL S.m.lv lev n)++[x],q=ptT u.n∨q=ptB u.n
  obtain⟨h1,h2⟩:=(d3.names q).1 hq
  rcases L.names q h1 with e | e | e | e
  ·exact Or.inl e
  ·exact Or.inr ⟨x,List.mem_append_right _ (List.mem_singleton.2 rfl),Or.inl (by rw[xn];exact e)⟩
  ·exact Or.inr ⟨x,List.mem_append_right _ (List.mem_singleton.2 rfl),Or.inr (by rw[xn];exact e)⟩
  ·rcases dk.only q e with e | ⟨u,hu,e⟩
   ·exact Or.inl e
   ·refine Or.inr ⟨u,List.mem_append_left _ ((hst u).2 ⟨hu,fun hm=>?_⟩),e⟩
    obtain⟨b1,b2⟩:=h2 _ hm
    rcases e with e | e
    ·exact b1 e
    ·exact b2 e
 ·show(usedS E.l:Int)≤4000*(S.m.next+1)
  omega
 ·unfold IxHas
  show(y∈S.mem∨∃ u∈stayT S.T (replL S.m.lv lev n)++[x],y∈u.l)↔_
  constructor
  ·rintro (q | ⟨u,hu,q⟩)
   ·exact Or.inl q
   ·rcases List.mem_append.1 hu with k | k
    ·exact Or.inr ⟨u,((hst u).1 k).1,q⟩
    ·rw[List.mem_singleton.1 k,xl] at q
     obtain⟨v,hv,-,hy⟩:=allX_mem.1 q
     exact Or.inr ⟨v,hv,hy⟩
  ·rintro (q | ⟨u,hu,q⟩)
   ·exact Or.inl q
   ·by_cases hp:(u.n:Int)∈pickL S.m.lv lev
    ·exact Or.inr ⟨x,List.mem_append_right _ (List.mem_singleton.2 rfl),by rw[xl];exact allX_mem.2 ⟨u,hu,hp,q⟩⟩
    ·exact Or.inr ⟨u,List.mem_append_left _ ((hst u).2 ⟨hu,hp⟩),q⟩
end
end Go.Proofs.YtcpfkaehefcakaaGreat
namespace Go.Proofs.YtcpfkaehefcakaaGreat
open Go.RowKit Go.Shelf
set_option linter.unusedVariables false
set_option maxRecDepth 100000
def log0 : LogS:=⟨0,0,0,0⟩
structure IlAt (At:Lies)(w0:World)(gd gl gx r:Nat)(S:IxS)(D:DiskS)(E:List Nat)(w:World) : Prop where
 ix:IxAt At w0 gd gx r S D (gl::E) w
 log:Blok w gl 78 (logCells (ptr gl) gd log0)
 far:gl ∉ E
 low:w0.heap.size≤gl
 ok:IxOk D S
 dk:IxDk D S
section
variable {At : Lies} (api : DiskApi At) {w0 w w' : World} {gd gl gx r : Nat} {S S' : IxS} {D D' : DiskS} {E E' B N : List Nat}
theorem IlAt.lt (h:IlAt At w0 gd gl gx r S D E w) : ∀ b∈gl::E,b<w.heap.size:=h.ix.lt
include api in
theorem IlAt.nodup (h:IlAt At w0 gd gl gx r S D E w) : (namesS D).Nodup:=rise_nodup (h.ix.ds.rise api) (fun n=>by
 cases q:lessB n n with
 | true=>exact absurd q (less_irrefl n)
 | false=>rfl)
theorem IlAt.len (h:IlAt At w0 gd gl gx r S D E w){L:List EntS}(hL:RiseE L)(hh:∀ x,x∈L↔IxHas S x) : S.mem.length≤L.length∧(∀ t∈S.T,t.l.length≤L.length)∧(∀ ns,(allX S ns).length≤L.length)∧totX S≤41*L.length:=by
 have h1:S.mem.length≤L.length:=rise_len h.ok.rise (fun x hx=>(hh x).2 (Or.inl hx))
 have h2:∀ t∈S.T,t.l.length≤L.length:=fun t ht=>rise_len (h.ok.has t ht).props.1 (fun x hx=>(hh x).2 (Or.inr ⟨t,ht,hx⟩))
 refine⟨h1,h2,fun ns=>rise_len (allX_rise h.ok ns) (fun x hx=>?_), ?_⟩
 ·obtain⟨t,ht,-,hx⟩:=allX_mem.1 hx
  exact(hh x).2 (Or.inr ⟨t,ht,hx⟩)
 ·have h3:∀ T:List TbS,(∀ t∈T,t.l.length≤L.length)→totL (T.map TbS.l)≤T.length*L.length:=by
   intro T
   induction T with
   | nil=>intro _;exact Nat.le_of_eq (by simp[totL])
   | cons t T ih =>
     intro h
     rw[List.map_cons,totL_cons,List.length_cons,Nat.add_mul]
     have:=ih (fun u hu=>h u (List.mem_cons_of_mem _ hu))
     have:=h t List.mem_cons_self
     omega
  have h4:=h3 S.T h2
  have h5:=h.ok.many_le
  have h6:S.T.length*L.length≤40*L.length:=Nat.mul_le_mul_right _ h5
  unfold totX
  omega
theorem IlAt.turn (api:DiskApi At)(h:IlAt At w0 gd gl gx r S D E w)(ht:Touch B w w')(hB:∀ b∈B,b∈E∧w0.heap.size≤b)(hE:∀ b∈E',b∈E∨(w.heap.size≤b∧b<w'.heap.size)) : IlAt At w0 gd gl gx r S D E' w':=by
 have hlt:=h.lt gl List.mem_cons_self
 have hn:gl ∉ B:=fun hm=>h.far (hB gl hm).1
 refine⟨h.ix.turn api ht (fun b hb=>⟨List.mem_cons_of_mem _ (hB b hb).1,(hB b hb).2⟩) (fun b hb=>?_),h.log.touch ht hn,fun hm=>?_,h.low,h.ok,h.dk⟩
 ·rcases List.mem_cons.1 hb with e | k
  ·rw[e];exact Or.inl List.mem_cons_self
  ·exact(hE b k).imp (List.mem_cons_of_mem _) id
 ·rcases hE gl hm with k | k
  ·exact h.far k
  ·omega
theorem IlAt.below (api:DiskApi At)(h:IlAt At w0 gd gl gx r S D E w)(hb:Below w.heap.size w w') : IlAt At w0 gd gl gx r S D E w':=h.turn api (B:=[]) (Touch.of_below hb) (fun b hb=>by cases hb) (fun b hb=>Or.inl hb)
theorem IlAt.less (h:IlAt At w0 gd gl gx r S D E w)(hE:∀ b∈E',b∈E) : IlAt At w0 gd gl gx r S D E' w:=⟨h.ix.less (fun b hb=>by
 rcases List.mem_cons.1 hb with e | k
 ·rw[e];exact List.mem_cons_self
 ·exact List.mem_cons_of_mem _ (hE b k)),h.log,fun hm=>h.far (hE gl hm),h.low,h.ok,h.dk⟩
theorem IlAt.more (api:DiskApi At)(h:IlAt At w0 gd gl gx r S D E w)(hb:Below w.heap.size w w')(hE:∀ b∈B,w.heap.size≤b∧b<w'.heap.size) : IlAt At w0 gd gl gx r S D (B++E) w' :=
 h.turn api (B:=[]) (Touch.of_below hb) (fun b hb=>by cases hb) (fun b hb=>(List.mem_append.1 hb).elim (fun k=>Or.inr (hE b k)) Or.inl)
theorem IlAt.base (h:IlAt At w0 gd gl gx r S D E w) : Below w0.heap.size w0 w:=h.ix.kept
theorem IlAt.from (h:IlAt At w0 gd gl gx r S D E w)(hi:IxAt At w0 gd gx r S' D' (gl::E) w')(hk:Kept (gl::E) w w')(ok:IxOk D' S')(dk:IxDk D' S') : IlAt At w0 gd gl gx r S' D' E w'∧Kept E w w' :=
 ⟨⟨hi,hk.blok h.log List.mem_cons_self,h.far,h.low,ok,dk⟩,hk.less (fun b hb=>List.mem_cons_of_mem _ hb)⟩
include api
theorem il_add (h:IlAt At w0 gd gl gx r S D E w){x:EntS}(hx:EntOk x)(hn:S.mem.length≤100000) : Calls Tryz.prog 15 #[ptr gx,entB x] w fun e w'=>e = .returned (err (addXE x))∧IlAt At w0 gd gl gx r (addX S x) D E w'∧Kept E w w':=by
 refine(xadd_run api h.ix hx hn).mono ?_
 rintro e w' ⟨rfl,hi,hk⟩
 refine⟨rfl,h.from hi hk ?_ ?_⟩
 ·unfold addX
  split
  ·exact h.ok.add hx (by assumption)
  ·exact h.ok
 ·unfold addX
  split
  ·exact⟨h.dk.up,h.dk.starts,h.dk.only,h.dk.used⟩
  ·exact h.dk
omit api in
theorem il_waiting (h:IlAt At w0 gd gl gx r S D E w) : Calls Tryz.prog 24 #[ptr gx] w fun e w'=>e = .returned (.int .i64 (S.mem.length:Nat))∧w=w':=xwaiting_run h.ix
theorem il_manifest (h:IlAt At w0 gd gl gx r S D E w) : Calls Tryz.prog 14 #[ptr gx] w (ManEnd w S.m.next S.m.check S.m.seed S.m.lv):=xmanifest_run api h.ix h.ok
omit api in
theorem il_end (h:IlAt At w0 gd gl gx r S D E w) : Calls Tryz.prog 11 #[ptr gl] w fun e w'=>e = .returned (.int .i64 0)∧w=w':=tend_run (h.log.cell 0) (h.log.cell 4)
variable (nap : NamesApi)
include nap
def IlRange (At:Lies)(w0:World)(gd gl gx r:Nat)(S:IxS)(D:DiskS)(R:List EntS)(E:List Nat)(w:World)(e:Ending)(w':World) : Prop :=
 ∃ A c k,k≤40∧e = .returned (.tuple #[.slice A R.length c,.int .i64 0])∧EntRow w' w.heap.size (.slice A R.length c) R∧IlAt At w0 gd gl gx r S { D with count:=D.count+k } (ownL (.slice A R.length c)++E) w'∧Kept E w w'
theorem il_range (h:IlAt At w0 gd gl gx r S D E w)(hc:D.count≤1000000)(ht:totX S≤40000)(x:Nat)(hx:x<18446744073709551616)(a b:Int)(wa:(Lit.int .i64 a).wf=true)(wb:(Lit.int .i64 b).wf=true) :
  Calls Tryz.prog 16 #[ptr gx,.int .u64 (x:Nat),.int .i64 a,.int .i64 b] w (IlRange At w0 gd gl gx r S D (rangeX S x a b) E w):=by
 refine(xrange_run api nap h.ix h.ok h.dk.up.wf (by omega) h.dk.up.down ht x hx a b wa wb).mono ?_
 rintro e w' ⟨A,c,k,hk,rfl,hr,hi,hkp⟩
 have hm:=h.ok.many_le
 refine⟨A,c,k,by omega,rfl,hr,⟨hi.less (fun b hb=>?_),hkp.blok h.log List.mem_cons_self,fun hm=>?_,h.low,h.ok.count _,h.dk.count _⟩,hkp.less (fun b hb=>List.mem_cons_of_mem _ hb)⟩
 ·rcases List.mem_cons.1 hb with e | q
  ·rw[e];exact List.mem_append_right _ List.mem_cons_self
  ·rcases List.mem_append.1 q with q | q
   ·exact List.mem_append_left _ q
   ·exact List.mem_append_right _ (List.mem_cons_of_mem _ q)
 ·rcases List.mem_append.1 hm with q | q
  ·have:=hr.lt gl (ownL_mem.1 q)
   have:=h.lt gl List.mem_cons_self
   omega
  ·exact h.far q
theorem il_last (h:IlAt At w0 gd gl gx r S D E w)(hc:D.count≤1000000)(ht:totX S≤40000)(x:Nat)(hx:x<18446744073709551616)(b:Int)(wb:(Lit.int .i64 b).wf=true) :
  Calls Tryz.prog 18 #[ptr gx,.int .u64 (x:Nat),.int .i64 b] w fun e w'=>∃ (z:Int) (k:Nat),k≤40∧TopV (IxHas S) x (capV b) z∧e = .returned (.tuple #[.int .i64 z,.int .i64 0])∧IlAt At w0 gd gl gx r S { D with count:=D.count+k } E w'∧Kept E w w':=by
 refine(xlast_run api nap h.ix h.ok h.dk.up.wf (by omega) h.dk.up.down ht x hx b wb).mono ?_
 rintro e w' ⟨z,k,hk,hz,rfl,hi,hkp⟩
 have hm:=h.ok.many_le
 exact⟨z,k,by omega,hz,rfl,h.from hi hkp (h.ok.count _) (h.dk.count _)⟩
variable (iap : ImApi At)
omit api nap in
theorem hop_ok {D:DiskS}{S:IxS}(dk:IxDk D S)(hd:(namesS D).Nodup)(ok:IxOk D S){n:Nat}(hn:S.m.next=(n:Nat))(hn9:n≤150){l:List EntS}(hr:RiseE l)(hm:∀ x∈l,mayE x=true)(hx:∀ x∈l,EntOk x)(hl:l.length≤120){t:ByteArray}(ht:t.size≤256+4*l.length)(hroom:4000*n+12000≤D.cap) :
  (tgL (rdW (writeP D n l t).2 (ptT n)).1).length≤10000:=by
 have hok:=tbOk_of hr hm
 obtain⟨k1,k2⟩:=dk.none_ ok
 obtain⟨k3,k4⟩:=k2 n (by omega) (by omega)
 have hu:=dk.used
 have hts:=tbB_size l
 have hmany:=dk.many hd
 have hm40:=ok.many_le
 obtain⟨E1,e1,w1⟩:=write_ok dk.up (n:=n) (by omega) hok (t:=t) (by omega) k3 k4 (by omega)
 rw[e1]
 rw[(opens_yes w1.up.down (w1.has (by omega) hx hok)).2]
 omega
include iap
theorem il_flush (h:IlAt At w0 gd gl gx r S D E w)(hc:D.count≤800000){n:Nat}(hn:S.m.next=(n:Nat))(hn9:n≤150)(hr:r<18446744073709551616)(hl:S.mem.length≤120)(hroom:4000*n+12000≤D.cap)(pe:Nat)(hpe:addLE S.m.lv n=(pe:Nat)) :
  Calls Tryz.prog 9 #[ptr gx,ptr gl] w fun e w'=>∃ E' S',e = .returned (err (if S.mem=[] then 0 else pe))∧IlAt At w0 gd gl gx r S' E' E w'∧Kept E w w'∧E'.cap=D.cap∧E'.count≤D.count+2∧(∀ x,IxHas S' x↔IxHas S x) ∧
   (S.mem=[]∨pe≠0→S'=S)∧(S.mem≠[]→pe=0→S'.mem=[]∧S'.m=⟨S.m.next+1,0,S.m.seed,addL S.m.lv n⟩):=by
 have hd:=h.nodup api
 have hf:flushT D log0=(0,D,log0):=flush_none h.dk.up.down 0 h.dk.starts
 have h0:=xflush_run api nap iap h.ix h.log h.far h.low h.dk.up.wf (L:=log0) (by decide) (by rw[hf];exact h.dk.up.wf) (by rw[hf];exact h.dk.up.down) (by rw[hf];show D.count≤_;omega) h.ok n hn (by omega) hr (by omega) pe hpe
  (fun t ht _=>by rw[hf];exact hop_ok h.dk hd h.ok hn hn9 h.ok.rise h.ok.mayE h.ok.ok hl (flt_size (by omega) ht) hroom)
 rw[hf] at h0
 refine h0.mono ?_
 rintro e w' ⟨t,ht,rfl,hi,hb,hk⟩
 have hk':Kept (gl::E) w w'→True:=fun _=>trivial
 by_cases hq:S.mem=[]
 ·have e1:flushI 0 D S t n pe 0=(0,D):=by unfold flushI;rw[if_neg (by decide),if_pos hq]
  have e2:flushIX 0 D S t n pe 0=S:=by unfold flushIX;rw[if_neg (by decide),if_pos hq]
  have e1':flushI 0 D S t n pe log0.endp=(0,D):=e1
  have e2':flushIX 0 D S t n pe log0.endp=S:=e2
  simp only at hi ⊢
  rw[e1',e2'] at hi
  rw[e1',if_pos hq]
  exact⟨D,S,rfl,⟨hi,hb,h.far,h.low,h.ok,h.dk⟩,hk,rfl,Nat.le_add_right _ _,fun x=>Iff.rfl,fun _=>rfl,fun q=>absurd hq q⟩
 ·have hft:FltOf S.mem r t:=by
   rcases ht with q | q | q
   ·exact absurd q hq
   ·exact absurd rfl q
   ·exact q
  by_cases hp:pe=0
  ·subst hp
   obtain⟨E',S',f1,f2,st,m1,m2⟩:=flush_ok h.dk hd h.ok hn hn9 hq hl hft (en:=0) (by omega) (by omega) hpe hroom
   have f1':flushI 0 D S t n 0 log0.endp=(0,E'):=f1
   have f2':flushIX 0 D S t n 0 log0.endp=S':=f2
   simp only at hi ⊢
   rw[f1',f2'] at hi
   rw[f1',if_neg hq]
   exact⟨E',S',rfl,⟨hi,hb,h.far,h.low,st.ok,st.dk⟩,hk,st.cap,st.count,st.has,fun q=>absurd (q.resolve_left hq) (by simp),fun _ _=>⟨m1,m2⟩⟩
  ·obtain⟨E',f1,f2,st⟩:=flush_full h.dk hd h.ok hn hn9 hq hl hft (en:=0) hp hroom
   have f1':flushI 0 D S t n pe log0.endp=(pe,E'):=f1
   have f2':flushIX 0 D S t n pe log0.endp=S:=f2
   simp only at hi ⊢
   rw[f1',f2'] at hi
   rw[f1',if_neg hq]
   exact⟨E',S,rfl,⟨hi,hb,h.far,h.low,st.ok,st.dk⟩,hk,st.cap,st.count,fun x=>Iff.rfl,fun _=>rfl,fun _ q=>absurd q hp⟩
theorem il_merge (h:IlAt At w0 gd gl gx r S D E w)(hc:D.count≤800000){n:Nat}(hn:S.m.next=(n:Nat))(hn9:n≤150)(hr:r<18446744073709551616)(ht:totX S≤40000)(lev:Int)(hal:(allX S (pickL S.m.lv lev)).length≤120)(hroom:4000*n+12000≤D.cap)(pp:Nat)(hpp:pickE S.m.lv lev=(pp:Nat)) :
  Calls Tryz.prog 12 #[ptr gx,.int .i64 lev] w fun e w'=>∃ E' S',e = .returned (err pp)∧IlAt At w0 gd gl gx r S' E' E w'∧Kept E w w'∧E'.cap=D.cap∧E'.count≤D.count+50∧(∀ x,IxHas S' x↔IxHas S x)∧S'.mem=S.mem ∧
   (pp≠0→S'=S)∧(pp=0→S'.m=⟨S.m.next+1,S.m.check,S.m.seed,replL S.m.lv lev n⟩):=by
 have hd:=h.nodup api
 have hmx:=h.ok.may
 have hre:replE S.m.lv lev n=(pp:Nat):=by rw[replE_parts (by omega) (fun x hx=>by have:=hmx.2.2.2.2.2 x hx;omega),hpp]
 have hm40:=h.ok.many_le
 refine(xmerge_run api nap iap h.ix h.dk.up.wf h.dk.up.down (by omega) h.ok n hn (by omega) hr ht lev (by omega) pp hpp pp hre
  (fun k t hk hft _=>hop_ok (D:={ D with count:=D.count+k }) (h.dk.count (D.count+k)) hd (h.ok.count (D.count+k)) hn hn9 (allX_rise h.ok _) (fun y hy=>(allX_ok h.ok _ y hy).2) (fun y hy=>(allX_ok h.ok _ y hy).1) hal (flt_size (by omega) hft) hroom)).mono ?_
 rintro e w' ⟨t,k,hk,hft,rfl,hi,hkp⟩
 by_cases hp:pp=0
 ·subst hp
  obtain⟨E',S',f1,f2,st,m1,m2⟩:=merge_ok h.dk hd h.ok hn hn9 hpp hal (hft.resolve_left (fun q=>q rfl)) k hroom
  rw[f1,f2] at hi
  rw[f1]
  have:=h.from hi hkp st.ok st.dk
  have hcn:E'.count≤D.count+k+2:=st.count
  exact⟨E',S',rfl,this.1,this.2,st.cap,by omega,st.has,m1,fun q=>absurd rfl q,fun _=>m2⟩
 ·have f1:mergeI D S t n lev pp pp k=(pp,D):=by unfold mergeI;rw[if_pos hp]
  have f2:mergeIX D S t n lev pp pp k=S:=by unfold mergeIX;rw[if_pos hp]
  rw[f1,f2] at hi
  rw[f1]
  have:=h.from hi hkp h.ok h.dk
  exact⟨D,S,rfl,this.1,this.2,rfl,Nat.le_add_right _ _,fun x=>Iff.rfl,rfl,fun _=>rfl,fun q=>absurd q hp⟩
end
end Go.Proofs.YtcpfkaehefcakaaGreat
namespace Go.Proofs.YtcpfkaehefcakaaGreat
open Go.RowKit Go.Shelf
set_option linter.unusedVariables false
set_option maxRecDepth 100000
section
variable {At : Lies} (api : DiskApi At) (nap : NamesApi) {w0 w w' : World} {gd gl gx r : Nat} {S S' : IxS} {D D' : DiskS} {E E' B N : List Nat}
include api nap
theorem il_orph {G:List Nat}{n c:Int}{d:Nat}{A:Option Addr}{k cp:Nat}(h:IlAt At w0 gd gl gx r S D (G++E) w)(hv:LvKeep w (.slice A k cp) S.m.lv G) :
  Calls Tryz.prog 25 #[ptr gd,manV n c d (.slice A k cp)] w fun e w'=>(∃ A' c',e = .returned (.slice A' 0 c'))∧IlAt At w0 gd gl gx r S D E w'∧Kept E w w':=by
 have h40:=h.ok.may.2.2.2.2.1.2.1
 have h41:=h.ok.may.2.2.2.2.1.1
 have hc:Calls Tryz.prog 25 #[ptr gd,manV n c d (.slice A k cp)] w fun e w'=>IxAt At w0 gd gx r S D (gl::(G++E)) w'∧Kept (gl::(G++E)) w w'∧∃ A' c',e = .returned (.slice A' 0 c'):=by
  refine h.ix.quiet fun E' hE hD=>?_
  refine(imorph_run api nap n c d A k cp S.m.lv hD h.dk.up.wf (fun W _ kW=>hv W (kW.less (fun b hb=>hE b (List.mem_cons_of_mem _ (List.mem_append_left _ hb))))) (by omega) (by omega)).mono ?_
  rintro e w' ⟨v,rfl,hs,hD',hk⟩
  have ho:orphL (D.l.map FileS.name) ⟨n,c,d,S.m.lv⟩=[]:=h.dk.orph h.ok
  rw[ho] at hs
  refine⟨hD'.less (fun b hb=>List.mem_append_right _ hb),hk, ?_⟩
  rcases hs with⟨-,A',c',rfl⟩ | ⟨b,off,cap,rfl,-⟩
  ·exact⟨_,_,rfl⟩
  ·exact⟨_,_,rfl⟩
 refine hc.mono ?_
 rintro e w' ⟨hi,hk,q⟩
 have:=h.from hi hk h.ok h.dk
 exact⟨q,this.1.less (fun b hb=>List.mem_append_right _ hb),this.2.less (fun b hb=>List.mem_append_right _ hb)⟩
omit api nap in
theorem has_one {D:DiskS}{n:Int}{l m:List EntS}(h:HasT D n l)(k:HasT D n m) : l=m:=by
 obtain⟨f,h1,-,rfl⟩:=h
 obtain⟨g,k1,-,rfl⟩:=k
 rw[h1] at k1
 rw[Option.some.inj k1]
theorem il_open (h:IlAt At w0 gd gl gx r S D E w)(hc:D.count≤800000){n c:Int}{d:Nat}{A:Option Addr}{k cp:Nat}(hm:S.m=⟨n,c,d,S.m.lv⟩)(hv:LvsHas w (.slice A k cp) S.m.lv)(hl:∀ t∈S.T,t.l.length≤10000)(r2:Nat) :
  Calls Tryz.prog 8 #[ptr gd,manV n c d (.slice A k cp),.float .f64 r2] w fun e w'=>∃ gx2 S2 j,e = .returned (.tuple #[ptr gx2,.int .i64 0])∧j≤80∧IlAt At w0 gd gl gx2 r2 S2 { D with count:=D.count+j } E w'∧Kept E w w'∧S2.m=S.m∧S2.mem=[]∧∀ x,IxHas S2 x↔∃ t∈S.T,x∈t.l:=by
 have hmay:=h.ok.may
 obtain⟨A',off,cp',e,-,-⟩:=hv.form
 obtain⟨rfl,rfl,rfl⟩:=Value.slice.inj e
 have h40:=hmay.2.2.2.2.1.2.1
 have hopen:∀ x∈S.m.lv.flatten,openE D x=0∧(tgL (rdW D (ptT x)).1).length≤10000:=fun x hx=>by
  obtain⟨t,ht,rfl⟩:=(h.ok.nums x).1 hx
  have:=opens_yes h.dk.up.down (h.ok.has t ht)
  rw[this.2]
  exact⟨this.1,hl t ht⟩
 have hm2:MayM ⟨n,c,d,S.m.lv⟩:=by rw[← hm];exact hmay
 refine(xopen_run api nap (r:=r2) h.ix.ds h.dk.up.wf h.dk.up.down (by omega) hv hm2 (fun x hx _=>(hopen x hx).2)).mono ?_
 rintro e w' (⟨gx2,T,j,rfl,hT,hH,hj,hi,hk⟩ | ⟨x,j,hx,hne,-⟩)
 ·have hj':j≤80:=by simp only at hj;omega
  have hT':T.map (fun t=>(t.n:Int))=S.m.lv.flatten:=hT
  have hi':IxAt At w0 gd gx2 r2 ⟨S.m,T,[]⟩ { D with count:=D.count+j } (gl::E) w':=by rw[hm];exact hi
  have hfind:∀ t∈T,∃ u∈S.T,u.n=t.n∧u.l=t.l:=fun t ht=>by
   have:(t.n:Int)∈S.m.lv.flatten:=by rw[← hT'];exact List.mem_map.2 ⟨t,ht,rfl⟩
   obtain⟨u,hu,e⟩:=(h.ok.nums _).1 this
   have e':u.n=t.n:=by omega
   refine⟨u,hu,e',has_one (h.ok.has u hu) ?_⟩
   rw[e']
   exact(hH t ht).1
  have hback:∀ u∈S.T,∃ t∈T,t.n=u.n∧t.l=u.l:=fun u hu=>by
   have:(u.n:Int)∈S.m.lv.flatten:=(h.ok.nums _).2 ⟨u,hu,rfl⟩
   rw[← hT'] at this
   obtain⟨t,ht,e⟩:=List.mem_map.1 this
   have e':t.n=u.n:=by omega
   refine⟨t,ht,e',has_one (hH t ht).1 ?_⟩
   rw[e']
   exact h.ok.has u hu
  have hok:IxOk { D with count:=D.count+j } ⟨S.m,T,[]⟩:=by
   refine⟨hmay,h.ok.seed,fun y=>?_, ?_,fun t ht=>(hH t ht).1.count _,fun t ht=>(hH t ht).2,List.Pairwise.nil,(fun y hy=>by cases hy),(fun y hy=>by cases hy)⟩
   ·show y∈S.m.lv.flatten↔∃ t∈T,(t.n:Int)=y
    rw[← hT',List.mem_map]
   ·show(T.map TbS.n).Nodup
    have hnd:=hmay.2.2.2.2.1.2.2.2
    rw[← hT'] at hnd
    unfold List.Nodup at hnd ⊢
    rw[List.pairwise_map] at hnd ⊢
    exact hnd.imp fun {a b} hab e=>hab (by omega)
  have hdk:IxDk { D with count:=D.count+j } ⟨S.m,T,[]⟩:=by
   refine⟨h.dk.up.count _,h.dk.starts,fun q hq=>?_,h.dk.used⟩
   rcases h.dk.only q hq with e | ⟨u,hu,e⟩
   ·exact Or.inl e
   ·obtain⟨t,ht,e2,-⟩:=hback u hu
    exact Or.inr ⟨t,ht,by rw[e2];exact e⟩
  refine⟨gx2,⟨S.m,T,[]⟩,j,rfl,hj',⟨hi',hk.blok h.log List.mem_cons_self,h.far,h.low,hok,hdk⟩,hk.less (fun b hb=>List.mem_cons_of_mem _ hb),rfl,rfl,fun x=>?_⟩
  unfold IxHas
  show(x∈[]∨∃ t∈T,x∈t.l)↔_
  constructor
  ·rintro (q | ⟨t,ht,q⟩)
   ·cases q
   ·obtain⟨u,hu,-,e⟩:=hfind t ht
    exact⟨u,hu,by rw[e];exact q⟩
  ·rintro ⟨u,hu,q⟩
   obtain⟨t,ht,-,e⟩:=hback u hu
   exact Or.inr ⟨t,ht,by rw[e];exact q⟩
 ·exact absurd (hopen x hx).1 hne
end
end Go.Proofs.YtcpfkaehefcakaaGreat
namespace Go.Proofs.YtcpfkaehefcakaaGreat
open Go.RowKit Go.Shelf
set_option linter.unusedVariables false
set_option maxRecDepth 100000
def ix0 (seed:Nat) : IxS:=⟨⟨0,0,seed,[]⟩,[],[]⟩
section
variable {At : Lies} (api : DiskApi At) (nap : NamesApi) {w0 w w' : World} {gd gl gx r c : Nat} {E : List Nat}
include api nap
omit api nap in
theorem ix0_ok {c seed:Nat}(hc:c≤1048576)(hs:seed<18446744073709551616) : IxOk (newS c) (ix0 seed)∧IxDk (newS c) (ix0 seed):=by
 refine⟨⟨?_,hs,fun n=>?_,List.nodup_nil,(fun t ht=>by cases ht),(fun t ht=>by cases ht),List.Pairwise.nil,(fun y hy=>by cases hy),(fun y hy=>by cases hy)⟩,⟨upd_new hc,rfl,(fun n hn=>by cases hn), ?_⟩⟩
 ·exact⟨by show(0:Int)≤0;omega,by show(0:Int)≤1000000;omega,by show(0:Int)≤0;omega,by show(0:Int)≤2147483647;omega,by show MayBe [];decide,fun x hx=>by cases hx⟩
 ·show n∈([]:LvL).flatten↔∃ t∈([]:List TbS),_
  simp
 ·show(usedS (newS c).l:Int)≤4000*0
  exact Int.le_of_eq rfl
theorem il_first (hl:LogSt At w0 gd gl log0 (newS c) E w)(hc:c≤1048576)(seed:Nat)(hs:seed<18446744073709551616)(r:Nat) :
  Calls Tryz.prog 8 #[ptr gd,manV 0 0 seed (.slice none 0 0),.float .f64 r] w fun e w'=>∃ gx,e = .returned (.tuple #[ptr gx,.int .i64 0])∧IlAt At w0 gd gl gx r (ix0 seed) (newS c) E w'∧Kept E w w':=by
 obtain⟨h1,h2,h3,h4⟩:=hl
 obtain⟨k1,k2⟩:=ix0_ok hc hs
 have hx:=xopen_run api nap (r:=r) (n:=0) (c:=0) (d:=seed) (A:=none) (cp:=0) (R:=[]) h1 (wp_new hc) rfl (by show 0≤_;omega) (LvsHas.nil w none 0) k1.may (fun x hx=>by cases hx)
 refine hx.mono ?_
 rintro e w' (⟨gx,T,j,rfl,hT,hH,hj,hi,hk⟩ | ⟨x,j,hx,-⟩)
 ·have hj0:j=0:=by simpa using hj
  subst hj0
  have hT0:T=[]:=List.map_eq_nil_iff.1 hT
  subst hT0
  exact⟨gx,rfl,⟨hi,hk.blok h2 List.mem_cons_self,h3,h4,k1,k2⟩,hk.less (fun b hb=>List.mem_cons_of_mem _ hb)⟩
 ·cases hx
theorem log_first (cap:ChunksApi)(h:DS At w0 gd (newS c) E w)(hc:c≤1048576) : Calls Tryz.prog 7 #[ptr gd] w fun e w'=>∃ gl,e = .returned (.tuple #[ptr gl,.int .i64 0])∧w.heap.size≤gl∧LogSt At w0 gd gl log0 (newS c) E w'∧Kept E w w':=h.openLog api nap cap (wp_new hc) (by show 0≤_;omega) rfl
theorem fresh_run (cap:ChunksApi)(w:World)(hc:c≤1048576) : Calls Tryz.prog 27 #[.int .i64 (c:Nat)] w fun e w'=>∃ gd gl gx,e = .returned (.tuple #[ptr gd,ptr gl,ptr gx])∧IlAt At w gd gl gx 4591870180066957722 (ix0 0) (newS c) [] w':=by
 have HNEW:=Lib.hid (im_new api w c hc)
 have HLG:=Lib.hid (fun W g (h:DS At w g (newS c) [] W)=>log_first api nap cap h hc)
 have HIX:=Lib.hid (fun W g gl (h:LogSt At w g gl log0 (newS c) [] W)=>il_first api nap h hc 0 (by decide) 4591870180066957722)
 unfold manV at HIX
 clear hc
 go_enter Tryz.func27,Tryz.ntmps27
 go_wp2_with fail
 refine HNEW.out.mono ?_
 rintro e w1 ⟨g,rfl,hD⟩
 have H1:=Lib.hid hD
 clear hD
 go_wp2_with fail
 refine(HLG.out w1 g H1.out).mono ?_
 rintro e w2 ⟨gl,rfl,-,hl,-⟩
 have H2:=Lib.hid hl
 clear hl
 go_wp2_with fail
 refine(HIX.out w2 g gl H2.out).mono ?_
 rintro e w3 ⟨gx,rfl,hi,-⟩
 have H3:=Lib.hid hi
 clear hi
 go_wp2
 go_ret3
 exact⟨g,gl,gx,rfl,H3.out⟩
end
end Go.Proofs.YtcpfkaehefcakaaGreat
namespace Go.Proofs.YtcpfkaehefcakaaGreat
open Go.RowKit Go.Shelf
set_option linter.unusedVariables false
set_option maxRecDepth 100000
structure PlAt (At:Lies)(w0:World)(gd gl gx r b:Nat)(S:IxS)(L Q:List EntS)(M:ManS)(D:DiskS)(F E:List Nat)(w:World) : Prop where
 il:IlAt At w0 gd gl gx r S D (F++E) w
 rx:RxAt w w0.heap.size b L Q M F
 apart:∀ x∈F,x ∉ E
structure Same24 (S:IxS)(L Q:List EntS)(M:ManS)(j:Nat) : Prop where
 rise:RiseE L
 has:∀ x,x∈L↔IxHas S x
 mem:S.mem=Q
 m:S.m=M
 len:L.length≤j
 next:S.m.next≤j
def PlSt (At:Lies)(w0:World)(gd gl gx r b j c:Nat)(L:List EntS)(E:List Nat)(w:World) : Prop :=
 ∃ S Q M D F,PlAt At w0 gd gl gx r b S L Q M D F E w∧Same24 S L Q M j∧D.cap=1048576∧D.count≤c
section
variable {At : Lies} (api : DiskApi At) {w0 w w' : World} {gd gl gx r b j c : Nat} {S S' : IxS} {L Q L' Q' : List EntS} {M M' : ManS} {D D' : DiskS} {F F' E E' B : List Nat}
theorem PlAt.below (api:DiskApi At)(h:PlAt At w0 gd gl gx r b S L Q M D F E w)(hb:Below w.heap.size w w') : PlAt At w0 gd gl gx r b S L Q M D F E w':=⟨h.il.below api hb,h.rx.below hb,h.apart⟩
theorem PlAt.less (h:PlAt At w0 gd gl gx r b S L Q M D F E w)(hE:∀ x∈E',x∈E) : PlAt At w0 gd gl gx r b S L Q M D F E' w:=⟨h.il.less (fun x hx=>by
 rcases List.mem_append.1 hx with k | k
 ·exact List.mem_append_left _ k
 ·exact List.mem_append_right _ (hE x k)),h.rx,fun x hx hm=>h.apart x hx (hE x hm)⟩
theorem PlAt.more (api:DiskApi At)(h:PlAt At w0 gd gl gx r b S L Q M D F E w)(hb:Below w.heap.size w w')(hE:∀ x∈B,w.heap.size≤x∧x<w'.heap.size) : PlAt At w0 gd gl gx r b S L Q M D F (B++E) w' :=
 ⟨(h.il.more api hb hE).less (fun x hx=>by
   rcases List.mem_append.1 hx with k | k
   ·exact List.mem_append_right _ (List.mem_append_left _ k)
   ·rcases List.mem_append.1 k with k | k
    ·exact List.mem_append_left _ k
    ·exact List.mem_append_right _ (List.mem_append_right _ k)),h.rx.below hb,fun x hx hm=>by
   obtain⟨vL,vQ,vM,G,hg,-⟩:=h.rx.parts
   rcases List.mem_append.1 hm with k | k
   ·have:=(hg.2.2.2.2.2 x hx).2
    have:=hE x k
    omega
   ·exact h.apart x hx k⟩
theorem PlAt.lt (h:PlAt At w0 gd gl gx r b S L Q M D F E w) : ∀ x∈E,x<w.heap.size:=fun x hx=>h.il.lt x (List.mem_cons_of_mem _ (List.mem_append_right _ hx))
theorem PlAt.step (h:PlAt At w0 gd gl gx r b S L Q M D F E w)(hi:IlAt At w0 gd gl gx r S' D' (F++E) w')(hk:Kept (F++E) w w') : PlAt At w0 gd gl gx r b S' L Q M D' F E w'∧Kept E w w' :=
 ⟨⟨hi,h.rx.keep (hk.less (fun x hx=>List.mem_append_left _ hx)),h.apart⟩,hk.less (fun x hx=>List.mem_append_right _ hx)⟩
theorem PlAt.ref (api:DiskApi At)(h:PlAt At w0 gd gl gx r b S L Q M D F E w){v:Value}{e:Ending}(he:RxEnd w0.heap.size b v L' Q' M' F w e w') : e = .returned v∧∃ F',PlAt At w0 gd gl gx r b S L' Q' M' D F' E w'∧Kept E w w':=by
 obtain⟨F',rfl,hr,ht,hn⟩:=he
 have hlt:=h.lt
 obtain⟨vL,vQ,vM,G,hg,-⟩:=h.rx.parts
 have hbF:=hg.2.1
 have hnew:∀ x∈F',x ∉ E:=fun x hx hm=>by
  rcases hn x hx with k | k
  ·exact h.apart x k hm
  ·have:=hlt x hm;omega
 refine⟨rfl,F',⟨h.il.turn api ht (fun x hx=>?_) (fun x hx=>?_),hr,hnew⟩,Kept.of_touch ht (fun x hx=>⟨hlt x hx,fun hm=>h.apart b hbF (by rw[← List.mem_singleton.1 hm];exact hx)⟩)⟩
 ·rw[List.mem_singleton.1 hx]
  exact⟨List.mem_append_left _ hbF,(hg.2.2.2.2.2 b hbF).1⟩
 ·rcases List.mem_append.1 hx with k | k
  ·rcases hn x k with q | q
   ·exact Or.inl (List.mem_append_left _ q)
   ·exact Or.inr q
  ·exact Or.inl (List.mem_append_right _ k)
theorem PlAt.base (h:PlAt At w0 gd gl gx r b S L Q M D F E w) : w0.heap.size≤w.heap.size:=h.il.base.size
theorem PlSt.below (api:DiskApi At)(h:PlSt At w0 gd gl gx r b j c L E w)(hb:Below w.heap.size w w') : PlSt At w0 gd gl gx r b j c L E w':=by
 obtain⟨S,Q,M,D,F,h1,h2⟩:=h
 exact⟨S,Q,M,D,F,h1.below api hb,h2⟩
theorem PlSt.less (h:PlSt At w0 gd gl gx r b j c L E w)(hE:∀ x∈E',x∈E) : PlSt At w0 gd gl gx r b j c L E' w:=by
 obtain⟨S,Q,M,D,F,h1,h2⟩:=h
 exact⟨S,Q,M,D,F,h1.less hE,h2⟩
theorem PlSt.more (api:DiskApi At)(h:PlSt At w0 gd gl gx r b j c L E w)(hb:Below w.heap.size w w')(hE:∀ x∈B,w.heap.size≤x∧x<w'.heap.size) : PlSt At w0 gd gl gx r b j c L (B++E) w':=by
 obtain⟨S,Q,M,D,F,h1,h2⟩:=h
 exact⟨S,Q,M,D,F,h1.more api hb hE,h2⟩
theorem PlSt.bel (h:PlSt At w0 gd gl gx r b j c L E w) : Below w0.heap.size w0 w:=by
 obtain⟨S,Q,M,D,F,h1,h2⟩:=h
 exact h1.il.base
theorem PlSt.up {j2 c2:Nat}(h:PlSt At w0 gd gl gx r b j c L E w)(hj:j≤j2)(hc:c≤c2) : PlSt At w0 gd gl gx r b j2 c2 L E w:=by
 obtain⟨S,Q,M,D,F,h1,h2,h3,h4⟩:=h
 exact⟨S,Q,M,D,F,h1,⟨h2.rise,h2.has,h2.mem,h2.m,by have:=h2.len;omega,by have:=h2.next;omega⟩,h3,by omega⟩
theorem Same24.ents (h:Same24 S L Q M j)(ok:IxOk D S) : ∀ x∈L,EntOk x∧mayE x=true:=fun x hx=>by
 rcases(h.has x).1 hx with q | ⟨t,ht,q⟩
 ·exact⟨ok.ok x q,ok.mayE x q⟩
 ·exact⟨(ok.has t ht).props.2.2 x q,(ok.has t ht).props.2.1 x q⟩
include api
def MidA (At:Lies)(w0:World)(gd gl gx r b j c:Nat)(L:List EntS)(x:EntS)(E:List Nat)(w:World) : Prop :=
 ∃ S Q M D F,PlAt At w0 gd gl gx r b (addX S x) L Q M D F E w∧Same24 S L Q M j∧Q.length≤j∧D.cap=1048576∧D.count≤c
theorem pl_add1 (h:PlSt At w0 gd gl gx r b j c L E w){x:EntS}(hx:EntOk x)(hj:j≤120) : Calls Tryz.prog 15 #[ptr gx,entB x] w fun e w'=>e = .returned (err (addXE x))∧MidA At w0 gd gl gx r b j c L x E w'∧Kept E w w':=by
 obtain⟨S,Q,M,D,F,h1,h2,h3,h4⟩:=h
 have hl:=h1.il.len h2.rise h2.has
 have:=h2.len
 refine(il_add api h1.il hx (by omega)).mono ?_
 rintro e w' ⟨rfl,hi,hk⟩
 obtain⟨q1,q2⟩:=h1.step hi hk
 exact⟨rfl,⟨S,Q,M,D,F,q1,h2,by rw[← h2.mem];omega,h3,h4⟩,q2⟩
theorem pl_add2 {x:EntS}(h:MidA At w0 gd gl gx r b j c L x E w)(hx:EntOk x)(hj:j≤120) : Calls Tryz.prog 22 #[ptr b,entB x] w fun e w'=>e = .returned (err (addXE x))∧PlSt At w0 gd gl gx r b (j+1) c (addXL L x) E w'∧Kept E w w':=by
 obtain⟨S,Q,M,D,F,h1,h2,hlQ,h3,h4⟩:=h
 have:=h2.len
 refine(rxadd h1.rx hx (by omega) (by omega) h1.base).mono ?_
 rintro e w' he
 obtain⟨rfl,F',q1,q2⟩:=h1.ref api he
 refine⟨rfl,⟨addX S x,addXL Q x,M,D,F',q1, ?_,h3,h4⟩,q2⟩
 have hlen:(addXL L x).length≤L.length+1:=by
  unfold addXL
  split
  ·exact layE_length L x
  ·omega
 refine⟨?_,fun y=>?_, ?_, ?_,by omega, ?_⟩
 ·unfold addXL
  split
  ·exact rise_layE h2.rise x
  ·exact h2.rise
 ·unfold addXL addX
  split
  ·rw[mem_lay,has_add,h2.has]
  ·exact h2.has y
 ·unfold addX addXL
  split
  ·show layEn S.mem x=layEn Q x
   rw[h2.mem]
  ·exact h2.mem
 ·unfold addX
  split
  ·exact h2.m
  ·exact h2.m
 ·have:=h2.next
  have e:(addX S x).m=S.m:=by unfold addX;split<;>rfl
  rw[e]
  omega
variable (nap : NamesApi) (iap : ImApi At)
include nap
theorem pl_range1 (h:PlSt At w0 gd gl gx r b j c L E w)(hj:j≤120)(hc:c≤100000)(x:Nat)(hx:x<18446744073709551616)(a d:Int)(wa:(Lit.int .i64 a).wf=true)(wd:(Lit.int .i64 d).wf=true) :
  Calls Tryz.prog 16 #[ptr gx,.int .u64 (x:Nat),.int .i64 a,.int .i64 d] w fun e w'=>∃ A cp n,n=(rangeE L x (max a 0) (capV d)).length∧e = .returned (.tuple #[.slice A n cp,.int .i64 0])∧EntRow w' w.heap.size (.slice A n cp) (rangeE L x (max a 0) (capV d))∧PlSt At w0 gd gl gx r b j (c+50) L (ownL (.slice A n cp)++E) w'∧Kept E w w':=by
 obtain⟨S,Q,M,D,F,h1,h2,h3,h4⟩:=h
 have hl:=h1.il.len h2.rise h2.has
 have:=h2.len
 have h5:=il_range api nap h1.il (by omega) (by have:=hl.2.2.2;omega) x hx a d wa wd
 rw[range_same h1.il.ok h2.rise h2.has x a d] at h5
 refine h5.mono ?_
 rintro e w' ⟨A,cp,k,hk,rfl,hr,hi,hkp⟩
 have hle:=hr.lt
 refine⟨A,cp,_,rfl,rfl,hr,⟨S,Q,M,_,F,⟨hi.less (fun y hy=>?_),h1.rx.keep (hkp.less (fun y hy=>List.mem_append_left _ hy)),fun y hy hm=>?_⟩,h2,h3,by show D.count+k≤_;omega⟩,hkp.less (fun y hy=>List.mem_append_right _ hy)⟩
 ·rcases List.mem_append.1 hy with q | q
  ·exact List.mem_append_right _ (List.mem_append_left _ q)
  ·rcases List.mem_append.1 q with q | q
   ·exact List.mem_append_left _ q
   ·exact List.mem_append_right _ (List.mem_append_right _ q)
 ·rcases List.mem_append.1 hm with q | q
  ·have h6:=(hr.lt y (ownL_mem.1 q)).1
   obtain⟨vL,vQ,vM,G,hg,-⟩:=h1.rx.parts
   have:=(hg.2.2.2.2.2 y hy).2
   omega
  ·exact h1.apart y hy q
theorem pl_last1 (h:PlSt At w0 gd gl gx r b j c L E w)(hj:j≤120)(hc:c≤100000)(x:Nat)(hx:x<18446744073709551616)(d:Int)(wd:(Lit.int .i64 d).wf=true) :
  Calls Tryz.prog 18 #[ptr gx,.int .u64 (x:Nat),.int .i64 d] w fun e w'=>∃ z:Int,TopV (· ∈ L) x (capV d) z∧e = .returned (.tuple #[.int .i64 z,.int .i64 0])∧PlSt At w0 gd gl gx r b j (c+50) L E w'∧Kept E w w':=by
 obtain⟨S,Q,M,D,F,h1,h2,h3,h4⟩:=h
 have hl:=h1.il.len h2.rise h2.has
 have:=h2.len
 refine(il_last api nap h1.il (by omega) (by have:=hl.2.2.2;omega) x hx d wd).mono ?_
 rintro e w' ⟨z,k,hk,hz,rfl,hi,hkp⟩
 obtain⟨q1,q2⟩:=h1.step hi hkp
 exact⟨z,hz.congr (fun y=>(h2.has y).symm),rfl,⟨S,Q,M,_,F,q1,h2,h3,by show D.count+k≤_;omega⟩,q2⟩
omit api nap in
theorem pl_range2 (h:PlSt At w0 gd gl gx r b j c L E w)(hj:j≤120)(x:Nat)(a d:Int) : Calls Tryz.prog 20 #[ptr b,.int .u64 (x:Nat),.int .i64 a,.int .i64 d] w (EntsOut w (rangeE L x (max a 0) (capV d))):=by
 obtain⟨S,Q,M,D,F,h1,h2,h3,h4⟩:=h
 have:=h2.len
 exact rxrange h1.rx (by omega) x a d
omit api nap in
theorem pl_last2 (h:PlSt At w0 gd gl gx r b j c L E w)(hj:j≤120)(x:Nat)(d:Int){z:Int}(hz:TopV (· ∈ L) x (capV d) z) : Calls Tryz.prog 21 #[ptr b,.int .u64 (x:Nat),.int .i64 d] w fun e w'=>e = .returned (.int .i64 z)∧w=w':=by
 obtain⟨S,Q,M,D,F,h1,h2,h3,h4⟩:=h
 have:=h2.len
 refine(rxlast h1.rx (by omega) (fun y hy=>(h2.ents h1.il.ok y hy).1) x d).mono ?_
 rintro e w' ⟨z',hz',rfl,rfl⟩
 exact⟨by rw[hz'.one hz (fun y=>Iff.rfl)],rfl⟩
include iap
def MidF (At:Lies)(w0:World)(gd gl gx r b j c:Nat)(L:List EntS)(v:Nat)(E:List Nat)(w:World) : Prop :=
 ∃ S S' Q M D F,PlAt At w0 gd gl gx r b S' L Q M D F E w∧Same24 S L Q M j∧MayM M∧D.cap=1048576∧D.count≤c∧Q.length≤j∧∃ pe:Nat,addLE M.lv M.next=(pe:Nat)∧v=(if Q=[] then 0 else pe)∧(∀ x,IxHas S' x↔IxHas S x)∧(Q=[]∨pe≠0→S'=S)∧(Q≠[]→pe=0→S'.mem=[]∧S'.m=⟨M.next+1,0,M.seed,addL M.lv M.next⟩)
theorem pl_flush1 (h:PlSt At w0 gd gl gx r b j c L E w)(hj:j≤120)(hc:c≤100000)(hr:r<18446744073709551616) : Calls Tryz.prog 9 #[ptr gx,ptr gl] w fun e w'=>∃ v,e = .returned (err v)∧MidF At w0 gd gl gx r b j (c+50) L v E w'∧Kept E w w':=by
 obtain⟨S,Q,M,D,F,h1,h2,h3,h4⟩:=h
 have hl:=h1.il.len h2.rise h2.has
 have hlen:=h2.len
 have hmay:=h1.il.ok.may
 have hnx:=h2.next
 obtain⟨n,hn⟩:∃ n:Nat,S.m.next=(n:Nat):=⟨S.m.next.toNat,by have:=hmay.1;omega⟩
 obtain⟨pe,hpe⟩:=addLE_nat S.m.lv n
 refine(il_flush api nap iap h1.il (by omega) hn (by omega) hr (by omega) (by omega) pe hpe).mono ?_
 rintro e w' ⟨E',S',rfl,hi,hk,hcap,hcnt,hh,s1,s2⟩
 obtain⟨q1,q2⟩:=h1.step hi hk
 rw[h2.mem,h2.m] at s2
 rw[h2.mem] at s1
 have hnM:M.next=(n:Nat):=by rw[← h2.m];exact hn
 refine⟨_,rfl,⟨S,S',Q,M,E',F,q1,h2,by rw[← h2.m];exact hmay,by rw[hcap,h3],by omega,by rw[← h2.mem];omega,pe,by rw[hnM,← h2.m];exact hpe,by rw[h2.mem],hh,s1, ?_⟩,q2⟩
 rw[hnM]
 rw[hnM] at s2
 exact s2
omit nap iap in
theorem pl_flush2 {v:Nat}(h:MidF At w0 gd gl gx r b j c L v E w)(hj:j≤120) : Calls Tryz.prog 10 #[ptr b,.int .i64 0] w fun e w'=>e = .returned (err v)∧PlSt At w0 gd gl gx r b (j+1) c L E w'∧Kept E w w':=by
 obtain⟨S,S',Q,M,D,F,h1,h2,hmay,h3,h4,hlQ,pe,hpe,rfl,hh,s1,s2⟩:=h
 have h2len:=h2.len
 have h2next:=h2.next
 by_cases hq:Q=[]
 ·subst hq
  have:=s1 (Or.inl rfl)
  subst this
  refine(rxflush0 h1.rx 0).mono ?_
  rintro e w' he
  obtain⟨rfl,F',q1,q2⟩:=h1.ref api he
  exact⟨by simp,⟨S',[],M,D,F',q1,⟨h2.rise,h2.has,h2.mem,h2.m,by omega,by omega⟩,h3,h4⟩,q2⟩
 ·rw[if_neg hq]
  have hfl:=hmay.2.2.2.2.1.2.1
  have hL5:=hmay.2.2.2.2.1.1
  have hx:=rxflush h1.rx hq (by omega) 0 h1.base (by omega) (by omega) hmay.1 hmay.2.1 pe hpe
  by_cases hp:pe=0
  ·subst hp
   rw[if_neg (by decide)] at hx
   obtain⟨m1,m2⟩:=s2 hq rfl
   refine hx.mono ?_
   rintro e w' he
   obtain⟨rfl,F',q1,q2⟩:=h1.ref api he
   refine⟨rfl,⟨S',[],_,D,F',q1,⟨h2.rise,fun y=>(h2.has y).trans (hh y).symm,m1,m2,by omega, ?_⟩,h3,h4⟩,q2⟩
   rw[m2]
   rw[h2.m] at h2next
   show M.next+1≤((j+1:Nat):Int)
   omega
  ·rw[if_pos hp] at hx
   have:=s1 (Or.inr hp)
   subst this
   refine hx.mono ?_
   rintro e w' he
   obtain⟨rfl,F',q1,q2⟩:=h1.ref api he
   exact⟨rfl,⟨S',Q,M,D,F',q1,⟨h2.rise,h2.has,h2.mem,h2.m,by omega,by omega⟩,h3,h4⟩,q2⟩
def MidM (At:Lies)(w0:World)(gd gl gx r b j c:Nat)(L:List EntS)(lev:Int)(v:Nat)(E:List Nat)(w:World) : Prop :=
 ∃ S S' Q M D F,PlAt At w0 gd gl gx r b S' L Q M D F E w∧Same24 S L Q M j∧MayM M∧D.cap=1048576∧D.count≤c∧replE M.lv lev M.next=(v:Nat)∧(∀ x,IxHas S' x↔IxHas S x)∧S'.mem=Q∧(v≠0→S'=S)∧(v=0→S'.m=⟨M.next+1,M.check,M.seed,replL M.lv lev M.next⟩)
theorem pl_merge1 (h:PlSt At w0 gd gl gx r b j c L E w)(hj:j≤120)(hc:c≤100000)(hr:r<18446744073709551616)(lev:Int) : Calls Tryz.prog 12 #[ptr gx,.int .i64 lev] w fun e w'=>∃ v,e = .returned (err v)∧MidM At w0 gd gl gx r b j (c+50) L lev v E w'∧Kept E w w':=by
 obtain⟨S,Q,M,D,F,h1,h2,h3,h4⟩:=h
 have hl:=h1.il.len h2.rise h2.has
 have hlen:=h2.len
 have hmay:=h1.il.ok.may
 have hnx:=h2.next
 obtain⟨n,hn⟩:∃ n:Nat,S.m.next=(n:Nat):=⟨S.m.next.toNat,by have:=hmay.1;omega⟩
 obtain⟨pp,hpp⟩:=pickE_nat S.m.lv lev
 refine(il_merge api nap iap h1.il (by omega) hn (by omega) hr (by have:=hl.2.2.2;omega) lev (by have:=hl.2.2.1 (pickL S.m.lv lev);omega) (by omega) pp hpp).mono ?_
 rintro e w' ⟨E',S',rfl,hi,hk,hcap,hcnt,hh,hm,s1,s2⟩
 obtain⟨q1,q2⟩:=h1.step hi hk
 have hnM:M.next=(n:Nat):=by rw[← h2.m];exact hn
 have hre:replE S.m.lv lev n=(pp:Nat):=by rw[replE_parts (by omega) (fun x hx=>by have:=hmay.2.2.2.2.2 x hx;omega),hpp]
 rw[h2.m] at s2
 refine⟨pp,rfl,⟨S,S',Q,M,E',F,q1,h2,by rw[← h2.m];exact hmay,by rw[hcap,h3],by omega,by rw[hnM,← h2.m];exact hre,hh,by rw[hm];exact h2.mem,s1, ?_⟩,q2⟩
 rw[hnM]
 rw[hnM] at s2
 exact s2
omit nap iap in
theorem pl_merge2 {v:Nat}{lev:Int}(h:MidM At w0 gd gl gx r b j c L lev v E w)(hj:j≤120) : Calls Tryz.prog 13 #[ptr b,.int .i64 lev] w fun e w'=>e = .returned (err v)∧PlSt At w0 gd gl gx r b (j+1) c L E w'∧Kept E w w':=by
 obtain⟨S,S',Q,M,D,F,h1,h2,hmay,h3,h4,hre,hh,hmem,s1,s2⟩:=h
 have h2len:=h2.len
 have h2next:=h2.next
 have hfl:=hmay.2.2.2.2.1.2.1
 have hL5:=hmay.2.2.2.2.1.1
 have hx:=rxmerge h1.rx lev h1.base (by omega) (by omega) hmay.1 hmay.2.1 v hre
 by_cases hp:v=0
 ·subst hp
  rw[if_neg (by decide)] at hx
  have m2:=s2 rfl
  refine hx.mono ?_
  rintro e w' he
  obtain⟨rfl,F',q1,q2⟩:=h1.ref api he
  refine⟨rfl,⟨S',Q,_,D,F',q1,⟨h2.rise,fun y=>(h2.has y).trans (hh y).symm,hmem,m2,by omega, ?_⟩,h3,h4⟩,q2⟩
  rw[m2]
  rw[h2.m] at h2next
  show M.next+1≤((j+1:Nat):Int)
  omega
 ·rw[if_pos hp] at hx
  have:=s1 hp
  subst this
  refine hx.mono ?_
  rintro e w' he
  obtain⟨rfl,F',q1,q2⟩:=h1.ref api he
  exact⟨rfl,⟨S',Q,M,D,F',q1,⟨h2.rise,h2.has,h2.mem,h2.m,by omega,by omega⟩,h3,h4⟩,q2⟩
end
end Go.Proofs.YtcpfkaehefcakaaGreat
namespace Go.Proofs.YtcpfkaehefcakaaGreat
open Go.RowKit Go.Shelf
set_option linter.unusedVariables false
set_option maxRecDepth 100000
theorem sameM_refl (m:ManS) : sameM m m=true:=decide_eq_true ⟨rfl,rfl,rfl,rfl⟩
theorem sortQ_same {Q:List EntS}(h:RiseE Q) : sortE Q=Q:=by
 refine rise_ext (sort_fold Q [] List.Pairwise.nil).1 h fun y=>?_
 have:=mem_fold Q [] y
 unfold sortE
 rw[this]
 simp
section
variable {At : Lies} (api : DiskApi At) {w0 w w' : World} {gd gl gx gx2 r b j c : Nat} {L Q : List EntS} {E E' B : List Nat} {n m : Int} {d k cp : Nat} {A : Option Addr} {R : LvL}
def MidN (At:Lies)(w0:World)(gd gl gx r b j c:Nat)(L Q:List EntS)(n m:Int)(d:Nat)(A:Option Addr)(k cp:Nat)(R:LvL)(E:List Nat)(w:World) : Prop :=
 ∃ S D F G,PlAt At w0 gd gl gx r b S L Q ⟨n,m,d,R⟩ D F (G++E) w∧Same24 S L Q ⟨n,m,d,R⟩ j∧D.cap=1048576∧D.count≤c∧LvKeep w (.slice A k cp) R G∧k=R.length∧R.flatten.length≤40∧R.length≤5
theorem rx_cells {M:ManS}{F:List Nat}{base:Nat}(h:RxAt w base b L Q M F) : ∃ A1 c1 A2 k2 c2,w.cell? ⟨b,1,none⟩=some (.slice A1 Q.length c1)∧EntsIn w (.slice A1 Q.length c1) Q∧w.cell? ⟨b,2,none⟩=some (.int .i64 M.next)∧w.cell? ⟨b,3,none⟩=some (.int .i64 M.check)∧w.cell? ⟨b,4,none⟩=some (.int .u64 (M.seed:Nat))∧w.cell? ⟨b,5,none⟩=some (.slice A2 k2 c2)∧LvsHas w (.slice A2 k2 c2) M.lv∧k2=M.lv.length:=by
 obtain⟨vL,vQ,vM,G,h1,h2,h3,h4,h5⟩:=h
 obtain⟨A1,c1,rfl,-⟩:=own_form h3
 obtain⟨A2,o2,c2,rfl,-,-⟩:=h4.now.form
 exact⟨A1,c1,A2,_,c2,h1.cell 1,EntRow.in_ h3,h1.cell 2,h1.cell 3,h1.cell 4,h1.cell 5,h4.now,rfl⟩
theorem MidN.below (api:DiskApi At)(h:MidN At w0 gd gl gx r b j c L Q n m d A k cp R E w)(hb:Below w.heap.size w w') : MidN At w0 gd gl gx r b j c L Q n m d A k cp R E w':=by
 obtain⟨S,D,F,G,h1,h2,h3,h4,h5,h6⟩:=h
 exact⟨S,D,F,G,h1.below api hb,h2,h3,h4,h5.step (Kept.of_below hb (fun x hx=>h1.lt x (List.mem_append_left _ hx))),h6⟩
theorem MidN.lvs (h:MidN At w0 gd gl gx r b j c L Q n m d A k cp R E w) : LvsHas w (.slice A k cp) R∧k=R.length∧R.flatten.length≤40∧R.length≤5:=by
 obtain⟨S,D,F,G,h1,h2,h3,h4,h5,h6⟩:=h
 exact⟨h5.now,h6⟩
include api
theorem pl_man (h:PlSt At w0 gd gl gx r b j c L E w) : ∃ Q n m d k R,∃ A1 c1 A2 c2,(w.cell? ⟨b,1,none⟩=some (.slice A1 Q.length c1)∧w.cell? ⟨b,2,none⟩=some (.int .i64 n)∧w.cell? ⟨b,3,none⟩=some (.int .i64 m)∧w.cell? ⟨b,4,none⟩=some (.int .u64 (d:Nat))∧w.cell? ⟨b,5,none⟩=some (.slice A2 k c2))∧b<w.heap.size∧LvsHas w (.slice A2 k c2) R∧EntsIn w (.slice A1 Q.length c1) Q∧Q.length≤j∧k=R.length∧R.flatten.length≤40∧R.length≤5 ∧
  ∀ W,Below w.heap.size w W→Calls Tryz.prog 14 #[ptr gx] W fun e w'=>∃ A cp,e = .returned (manV n m d (.slice A k cp))∧MidN At w0 gd gl gx r b j c L Q n m d A k cp R E w'∧Below W.heap.size W w':=by
 obtain⟨S,Q,M,D,F,h1,h2,h3,h4⟩:=h
 obtain⟨A1,c1,A2,k2,c2,q1,q2,q3,q4,q5,q6,q7,rfl⟩:=rx_cells h1.rx
 have hl:=h1.il.len h2.rise h2.has
 have hlen:=h2.len
 have hmay:=h1.il.ok.may
 rw[h2.m] at hmay
 obtain⟨vL,vQ,vM,G0,hg,-⟩:=h1.rx.parts
 refine⟨Q,M.next,M.check,M.seed,_,M.lv,A1,c1,A2,c2,⟨q1,q3,q4,q5,q6⟩,(hg.2.2.2.2.2 b hg.2.1).2,q7,q2,by rw[← h2.mem];omega,rfl,hmay.2.2.2.2.1.2.1,hmay.2.2.2.2.1.1,fun W hW=>?_⟩
 have hmn:=il_manifest api (h1.il.below api hW)
 rw[h2.m] at hmn
 refine hmn.mono ?_
 rintro e w' ⟨A,cp,rfl,hlv,hb⟩
 obtain⟨G,hG,hk⟩:=hlv.keep
 exact⟨A,cp,rfl,⟨S,D,F,G,(h1.below api hW).more api hb hG,h2,h3,h4,hk,rfl,hmay.2.2.2.2.1.2.1,hmay.2.2.2.2.1.1⟩,hb⟩
omit api in
theorem pl_wait (h:MidN At w0 gd gl gx r b j c L Q n m d A k cp R E w) : Calls Tryz.prog 24 #[ptr gx] w fun e w'=>e = .returned (.int .i64 (Q.length:Nat))∧w=w':=by
 obtain⟨S,D,F,G,h1,h2,-⟩:=h
 have:=il_waiting h1.il
 rw[h2.mem] at this
 exact this
variable (nap : NamesApi)
include nap
theorem pl_orph (h:MidN At w0 gd gl gx r b j c L Q n m d A k cp R E w) : Calls Tryz.prog 25 #[ptr gd,manV n m d (.slice A k cp)] w fun e w'=>(∃ A' c',e = .returned (.slice A' 0 c'))∧PlSt At w0 gd gl gx r b j c L E w'∧Kept E w w'∧Kept [b] w w':=by
 obtain⟨S,D,F,G,h1,h2,h3,h4,h5,h6⟩:=h
 obtain⟨vL,vQ,vM,G0,hg,-⟩:=h1.rx.parts
 have hi:IlAt At w0 gd gl gx r S D (G++(F++E)) w:=h1.il.less (fun x hx=>by
  rcases List.mem_append.1 hx with q | q
  ·exact List.mem_append_right _ (List.mem_append_left _ q)
  ·rcases List.mem_append.1 q with q | q
   ·exact List.mem_append_left _ q
   ·exact List.mem_append_right _ (List.mem_append_right _ q))
 have hlv:LvKeep w (.slice A k cp) S.m.lv G:=by rw[h2.m];exact h5
 refine(il_orph api nap (n:=n) (c:=m) (d:=d) hi hlv).mono ?_
 rintro e w' ⟨hv,hi',hk⟩
 exact⟨hv,⟨S,Q,_,D,F,⟨hi',h1.rx.keep (hk.less (fun x hx=>List.mem_append_left _ hx)),fun x hx hm=>h1.apart x hx (List.mem_append_right _ hm)⟩,h2,h3,h4⟩,hk.less (fun x hx=>List.mem_append_right _ hx),hk.less (fun x hx=>by rw[List.mem_singleton.1 hx];exact List.mem_append_left _ hg.2.1)⟩
omit nap in
theorem MidA.below {x:EntS}(h:MidA At w0 gd gl gx r b j c L x E w)(hb:Below w.heap.size w w') : MidA At w0 gd gl gx r b j c L x E w':=by
 obtain⟨S,Q,M,D,F,h1,h2⟩:=h
 exact⟨S,Q,M,D,F,h1.below api hb,h2⟩
omit api nap in
theorem pl_end {v:Nat}(h:MidF At w0 gd gl gx r b j c L v E w) : Calls Tryz.prog 11 #[ptr gl] w fun e w'=>e = .returned (.int .i64 0)∧w=w':=by
 obtain⟨S,S',Q,M,D,F,h1,-⟩:=h
 exact il_end h1.il
def MidO (At:Lies)(w0:World)(gd gl gx r b j c:Nat)(L Q:List EntS)(k:Nat)(E:List Nat)(w:World) : Prop :=
 ∃ (S S2:IxS) (M:ManS) (D:DiskS) (F:List Nat),PlAt At w0 gd gl gx r b { S2 with mem:=sortE (Q.take k) } L Q M D F E w∧Same24 S L Q M j∧RiseE Q∧(∀ x∈Q,EntOk x∧mayE x=true)∧Q.length≤j∧S2.m=M∧(∀ x,(∃ t∈S2.T,x∈t.l)↔∃ t∈S.T,x∈t.l)∧D.cap=1048576∧D.count≤c
theorem pl_open (h:MidN At w0 gd gl gx r b j c L Q n m d A k cp R E w)(hj:j≤120)(hc:c≤100000) : Calls Tryz.prog 8 #[ptr gd,manV n m d (.slice A k cp),.float .f64 r] w fun e w'=>∃ gx2,e = .returned (.tuple #[ptr gx2,.int .i64 0])∧MidO At w0 gd gl gx2 r b j (c+100) L Q 0 E w'∧Kept E w w':=by
 obtain⟨S,D,F,G,h1,h2,h3,h4,h5,h6⟩:=h
 have hl:=h1.il.len h2.rise h2.has
 have hlen:=h2.len
 have hlv:LvsHas w (.slice A k cp) S.m.lv:=by rw[h2.m];exact h5.now
 refine(il_open api nap h1.il (by omega) (n:=n) (c:=m) (d:=d) (by rw[h2.m]) hlv (fun t ht=>by have:=hl.2.1 t ht;omega) r).mono ?_
 rintro e w' ⟨gx2,S2,i,rfl,hi,hi2,hk,hm2,hmem2,hh2⟩
 have hQ:RiseE Q:=by rw[← h2.mem];exact h1.il.ok.rise
 have hS2:{ S2 with mem:=sortE (Q.take 0) }=S2:=by
  rw[List.take_zero]
  show { S2 with mem:=[] }=S2
  rw[← hmem2]
 have hP:PlAt At w0 gd gl gx2 r b S2 L Q ⟨n,m,d,R⟩ _ F (G++E) w':=⟨hi2,h1.rx.keep (hk.less (fun x hx=>List.mem_append_left _ hx)),h1.apart⟩
 refine⟨gx2,rfl,⟨S,S2,⟨n,m,d,R⟩, { D with count:=D.count+i },F,by rw[hS2];exact hP.less (fun x hx=>List.mem_append_right _ hx),h2,hQ,fun x hx=>h2.ents h1.il.ok x ((h2.has x).2 (Or.inl (by rw[h2.mem];exact hx))),by rw[← h2.mem];omega,by rw[hm2,h2.m],fun x=>?_,h3,by show D.count+i≤_;omega⟩,hk.less (fun x hx=>List.mem_append_right _ (List.mem_append_right _ hx))⟩
 have:=hh2 x
 unfold IxHas at this
 rw[hmem2] at this
 simpa using this
omit nap in
theorem pl_readd {i:Nat}{x:EntS}(h:MidO At w0 gd gl gx r b j c L Q i E w)(hj:j≤120)(hx:Q[i]? = some x) : Calls Tryz.prog 15 #[ptr gx,entB x] w fun e w'=>e = .returned (.int .i64 0)∧MidO At w0 gd gl gx r b j c L Q (i+1) E w'∧Kept E w w':=by
 obtain⟨S,S2,M,D,F,h1,h2,h3,h4,h5,h6,h7,h8,h9⟩:=h
 obtain⟨ok,may⟩:=h4 x (List.mem_of_getElem? hx)
 have hsl:=(sort_fold (Q.take i) [] List.Pairwise.nil).2.1
 have htl:=List.length_take_le i Q
 refine(il_add api h1.il ok (by show(sortE (Q.take i)).length≤_;unfold sortE;simp at hsl;omega)).mono ?_
 rintro e w' ⟨rfl,hi,hk⟩
 obtain⟨q1,q2⟩:=h1.step hi hk
 have e1:addX { S2 with mem:=sortE (Q.take i) } x={ S2 with mem:=sortE (Q.take (i+1)) }:=by
  unfold addX
  rw[if_pos may,sort_take hx]
 rw[e1] at q1
 exact⟨by unfold addXE;rw[if_pos may];rfl,⟨S,S2,M,D,F,q1,h2,h3,h4,h5,h6,h7,h8,h9⟩,q2⟩
omit api nap in
theorem pl_done {i:Nat}(h:MidO At w0 gd gl gx r b j c L Q i E w)(hi:i=Q.length) : PlSt At w0 gd gl gx r b j c L E w:=by
 obtain⟨S,S2,M,D,F,h1,h2,h3,h4,h5,h6,h7,h8,h9⟩:=h
 subst hi
 rw[List.take_length,sortQ_same h3] at h1
 refine⟨_,Q,M,D,F,h1,⟨h2.rise,fun x=>?_,rfl,h6,h2.len, ?_⟩,h8,h9⟩
 ·rw[h2.has x]
  unfold IxHas
  show _↔x∈Q∨∃ t∈S2.T,x∈t.l
  rw[h2.mem,h7 x]
 ·show S2.m.next≤_
  rw[h6,← h2.m]
  exact h2.next
omit api nap in
theorem MidO.cells {i:Nat}(h:MidO At w0 gd gl gx r b j c L Q i E w) : ∃ A1 c1,w.cell? ⟨b,1,none⟩=some (.slice A1 Q.length c1)∧EntsIn w (.slice A1 Q.length c1) Q:=by
 obtain⟨S,S2,M,D,F,h1,-⟩:=h
 obtain⟨A1,c1,A2,k2,c2,q1,q2,-⟩:=rx_cells h1.rx
 exact⟨A1,c1,q1,q2⟩
end
end Go.Proofs.YtcpfkaehefcakaaGreat
namespace Go.Proofs.YtcpfkaehefcakaaGreat
open Go.RowKit Go.Shelf
set_option linter.unusedVariables false
set_option maxRecDepth 100000
def e0 : EntS:=⟨5,0,0⟩
def r0 : Nat:=4591870180066957722
def exM : Nat→ManS
 | 0=>⟨0,0,0,[]⟩
 | 1=>⟨1,0,0,[[0]]⟩
 | _=>⟨2,0,0,[[],[1]]⟩
def exQ : Nat→List EntS
 | 0=>[e0]
 | _=>[]
theorem ex_lv : (addL [] 0=[[0]]∧addLE [] 0=0)∧(pickE [[0]] 0=0∧replL [[0]] 0 1=[[],[1]])∧pickE [[],[1]] 0=4:=by decide +kernel
theorem ex_sm : sameM ⟨1,0,0,[[0]]⟩ ⟨1,0,0,[[0]]⟩=true∧sameM ⟨2,0,0,[[],[1]]⟩ ⟨2,0,0,[[],[1]]⟩=true:=by decide +kernel
theorem e0_ok : EntOk e0:=⟨by decide,by decide,by decide,by decide,by decide⟩
theorem e0_may : mayE e0=true:=by decide
theorem e0_rise : RiseE [e0]:=List.pairwise_singleton _ _
theorem e0_range : rangeE [e0] 5 (max 0 0) (capV 9)=[e0]:=by decide
structure ExSt (At:Lies)(w0:World)(gd gl gx k c:Nat)(E:List Nat)(w:World) : Prop where
 st:∃ S D,IlAt At w0 gd gl gx r0 S D E w∧(∀ x,x∈[e0]↔IxHas S x)∧S.m=exM k∧S.mem=exQ k∧D.cap=30000∧D.count≤c
section
variable {At : Lies} (api : DiskApi At) (nap : NamesApi) (iap : ImApi At) {w0 w w' : World} {gd gl gx k c : Nat} {E E' B : List Nat}
include api
theorem ExSt.below (h:ExSt At w0 gd gl gx k c E w)(hb:Below w.heap.size w w') : ExSt At w0 gd gl gx k c E w':=by
 obtain⟨S,D,h1,h2⟩:=h.st
 exact⟨S,D,h1.below api hb,h2⟩
theorem ex_add (h:IlAt At w0 gd gl gx r0 (ix0 0) (newS 30000) E w) : Calls Tryz.prog 15 #[ptr gx,.agg #[.int .u64 5,.int .i64 0,.int .i64 0]] w fun e w'=>e = .returned (.int .i64 0)∧ExSt At w0 gd gl gx 0 0 E w'∧Kept E w w':=by
 have h1:=il_add api h e0_ok (by show 0≤_;omega)
 refine Calls.mono (f:=15) h1 ?_
 rintro e w' ⟨rfl,hi,hk⟩
 have e1:addX (ix0 0) e0=⟨⟨0,0,0,[]⟩,[],[e0]⟩:=by
  unfold addX
  rw[if_pos e0_may]
  rfl
 rw[e1] at hi
 refine⟨by unfold addXE;rw[if_pos e0_may];rfl,⟨_,_,hi,fun x=>?_,rfl,rfl,rfl,Nat.le_refl _⟩,hk⟩
 unfold IxHas
 simp
omit api in
theorem ex_wait (h:ExSt At w0 gd gl gx k c E w) : Calls Tryz.prog 24 #[ptr gx] w fun e w'=>e = .returned (.int .i64 ((exQ k).length:Nat))∧w=w':=by
 obtain⟨S,D,h1,h2,h3,h4,h5⟩:=h.st
 have:=il_waiting h1
 rw[h4] at this
 exact this
theorem ex_man (h:ExSt At w0 gd gl gx k c E w) : Calls Tryz.prog 14 #[ptr gx] w (ManEnd w (exM k).next (exM k).check (exM k).seed (exM k).lv):=by
 obtain⟨S,D,h1,h2,h3,h4,h5⟩:=h.st
 have:=il_manifest api h1
 rw[h3] at this
 exact this
include nap
theorem ex_range (h:ExSt At w0 gd gl gx k c E w)(hc:c≤500) : Calls Tryz.prog 16 #[ptr gx,.int .u64 5,.int .i64 0,.int .i64 9] w fun e w'=>∃ A cp,e = .returned (.tuple #[.slice A 1 cp,.int .i64 0])∧EntRow w' w.heap.size (.slice A 1 cp) [e0]∧ExSt At w0 gd gl gx k (c+50) (ownL (.slice A 1 cp)++E) w'∧Kept E w w':=by
 obtain⟨S,D,h1,h2,h3,h4,h5,h6⟩:=h.st
 have hl:=h1.len e0_rise h2
 have h7:=il_range api nap h1 (by omega) (by have:=hl.2.2.2;simp at this;omega) 5 (by decide) 0 9 (by decide) (by decide)
 have h8:rangeX S 5 0 9=[e0]:=by rw[range_same h1.ok e0_rise h2 5 0 9,e0_range]
 rw[h8] at h7
 refine Calls.mono (f:=16) h7 ?_
 rintro e w' ⟨A,cp,j,hj,rfl,hr,hi,hk⟩
 exact⟨A,cp,rfl,hr,⟨S,_,hi,h2,h3,h4,h5,by show D.count+j≤_;omega⟩,hk⟩
include iap
theorem ex_flush (h:ExSt At w0 gd gl gx 0 c E w)(hc:c≤500) : Calls Tryz.prog 9 #[ptr gx,ptr gl] w fun e w'=>e = .returned (.int .i64 0)∧ExSt At w0 gd gl gx 1 (c+50) E w'∧Kept E w w':=by
 obtain⟨S,D,h1,h2,h3,h4,h5,h6⟩:=h.st
 have hq:S.mem=[e0]:=h4
 have hne:S.mem≠[]:=by rw[hq];simp
 have hm:S.m=⟨0,0,0,[]⟩:=h3
 have h7:=il_flush api nap iap h1 (by omega) (n:=0) (by rw[hm];rfl) (by omega) (by unfold r0;decide) (by rw[hq];simp) (by omega) 0 (by rw[hm];exact ex_lv.1.2)
 refine h7.mono ?_
 rintro e w' ⟨E',S',rfl,hi,hk,hcap,hcnt,hh,-,hst⟩
 obtain⟨m1,m2⟩:=hst hne rfl
 refine⟨by simp,⟨S',E',hi,fun x=>(h2 x).trans (hh x).symm, ?_,m1,by rw[hcap,h5],by omega⟩,hk⟩
 rw[m2,hm]
 show(⟨0+1,0,0,addL [] ((0:Nat):Int)⟩:ManS)=⟨1,0,0,[[0]]⟩
 rw[show addL [] ((0:Nat):Int)=[[0]] from ex_lv.1.1]
 rfl
theorem ex_merge (h:ExSt At w0 gd gl gx 1 c E w)(hc:c≤500) : Calls Tryz.prog 12 #[ptr gx,.int .i64 0] w fun e w'=>e = .returned (.int .i64 0)∧ExSt At w0 gd gl gx 2 (c+50) E w'∧Kept E w w':=by
 obtain⟨S,D,h1,h2,h3,h4,h5,h6⟩:=h.st
 have hm:S.m=⟨1,0,0,[[0]]⟩:=h3
 have hl:=h1.len e0_rise h2
 have h7:=il_merge api nap iap h1 (by omega) (n:=1) (by rw[hm];rfl) (by omega) (by unfold r0;decide) (by have:=hl.2.2.2;simp at this;omega) 0 (by have:=hl.2.2.1 (pickL S.m.lv 0);simp at this;omega) (by omega) 0 (by rw[hm];exact ex_lv.2.1.1)
 refine h7.mono ?_
 rintro e w' ⟨E',S',rfl,hi,hk,hcap,hcnt,hh,hmem,-,hst⟩
 refine⟨by simp,⟨S',E',hi,fun x=>(h2 x).trans (hh x).symm, ?_,by rw[hmem];exact h4,by rw[hcap,h5],by omega⟩,hk⟩
 rw[hst rfl,hm]
 show(⟨1+1,0,0,replL [[0]] 0 ((1:Nat):Int)⟩:ManS)=⟨2,0,0,[[],[1]]⟩
 rw[show replL [[0]] 0 ((1:Nat):Int)=[[],[1]] from ex_lv.2.1.2]
 rfl
theorem ex_again (h:ExSt At w0 gd gl gx 2 c E w)(hc:c≤500) : Calls Tryz.prog 12 #[ptr gx,.int .i64 0] w fun e w'=>e = .returned (.int .i64 4)∧ExSt At w0 gd gl gx 2 (c+50) E w'∧Kept E w w':=by
 obtain⟨S,D,h1,h2,h3,h4,h5,h6⟩:=h.st
 have hm:S.m=⟨2,0,0,[[],[1]]⟩:=h3
 have hl:=h1.len e0_rise h2
 have h7:=il_merge api nap iap h1 (by omega) (n:=2) (by rw[hm];rfl) (by omega) (by unfold r0;decide) (by have:=hl.2.2.2;simp at this;omega) 0 (by have:=hl.2.2.1 (pickL S.m.lv 0);simp at this;omega) (by omega) 4 (by rw[hm];exact ex_lv.2.2)
 refine h7.mono ?_
 rintro e w' ⟨E',S',rfl,hi,hk,hcap,hcnt,hh,hmem,hst,-⟩
 have:=hst (by decide)
 subst this
 exact⟨by simp,⟨S',E',hi,h2,h3,h4,by rw[hcap,h5],by omega⟩,hk⟩
end
theorem ex_same1 {W:World}{A:Option Addr}{cp:Nat}(h:LvsHas W (.slice A 1 cp) [[0]]) : Calls Tryz.prog 23 #[manV 1 0 0 (.slice A 1 cp),.agg #[.int .i64 1,.int .i64 0,.int .u64 0,.slice (some ⟨W.heap.size+1,0,none⟩) 1 1]]
  ((W.alloc (.cells #[.int .i64 0] 3)).alloc (.cells #[.slice (some ⟨W.heap.size,0,none⟩) 1 1] 68)) fun e w'=>e = .returned (.bool true)∧Below W.heap.size W w':=by
 have b1:Below W.heap.size W (W.alloc (.cells #[.int .i64 0] 3)):=(Below.refl _ _).alloc (Nat.le_refl _) _
 have i1:IntsIn (W.alloc (.cells #[.int .i64 0] 3)) (.slice (some ⟨W.heap.size,0,none⟩) 1 1) [0]:=ints_lit W [0] (by decide)
 have z1:(W.alloc (.cells #[.int .i64 0] 3)).heap.size=W.heap.size+1:=by simp
 generalize (W.alloc (.cells #[.int .i64 0] 3))=W1 at *
 have h2:=lvs_lit W1 [⟨.slice (some ⟨W.heap.size,0,none⟩) 1 1,[0]⟩] 1 rfl (by decide) (fun x hx=>by rw[List.mem_singleton.1 hx];exact i1)
 rw[z1] at h2
 have b2:=(b1.alloc (by rw[z1];exact Nat.le_succ _) (.cells (lvals [⟨.slice (some ⟨W.heap.size,0,none⟩) 1 1,[0]⟩]).toArray 68))
 refine(msamel_any 1 0 0 A 1 cp [[0]] 1 0 0 _ 1 1 [[0]] _ (h.below b2 (Nat.le_refl _)) h2 rfl rfl (by decide) (by decide)).mono ?_
 rintro e w' ⟨rfl,hb⟩
 exact⟨by rw[ex_sm.1],bj b2 hb⟩
theorem ex_same2 {W:World}{A:Option Addr}{cp:Nat}(h:LvsHas W (.slice A 2 cp) [[],[1]]) : Calls Tryz.prog 23 #[manV 2 0 0 (.slice A 2 cp),.agg #[.int .i64 2,.int .i64 0,.int .u64 0,.slice (some ⟨W.heap.size+1,0,none⟩) 2 2]]
  ((W.alloc (.cells #[.int .i64 1] 3)).alloc (.cells #[.slice none 0 0,.slice (some ⟨W.heap.size,0,none⟩) 1 1] 68)) fun e w'=>e = .returned (.bool true)∧Below W.heap.size W w':=by
 have b1:Below W.heap.size W (W.alloc (.cells #[.int .i64 1] 3)):=(Below.refl _ _).alloc (Nat.le_refl _) _
 have i1:IntsIn (W.alloc (.cells #[.int .i64 1] 3)) (.slice (some ⟨W.heap.size,0,none⟩) 1 1) [1]:=ints_lit W [1] (by decide)
 have z1:(W.alloc (.cells #[.int .i64 1] 3)).heap.size=W.heap.size+1:=by simp
 generalize (W.alloc (.cells #[.int .i64 1] 3))=W1 at *
 have h2:=lvs_lit W1 [⟨.slice none 0 0,[]⟩,⟨.slice (some ⟨W.heap.size,0,none⟩) 1 1,[1]⟩] 2 rfl (by decide) (fun x hx=>by
  rcases List.mem_cons.1 hx with rfl | hx
  ·exact Or.inl ⟨rfl,none,0,rfl⟩
  ·rw[List.mem_singleton.1 hx];exact i1)
 rw[z1] at h2
 have b2:=(b1.alloc (by rw[z1];exact Nat.le_succ _) (.cells (lvals [⟨.slice none 0 0,[]⟩,⟨.slice (some ⟨W.heap.size,0,none⟩) 1 1,[1]⟩]).toArray 68))
 refine(msamel_any 2 0 0 A 2 cp [[],[1]] 2 0 0 _ 2 2 [[],[1]] _ (h.below b2 (Nat.le_refl _)) h2 rfl rfl (by decide) (by decide)).mono ?_
 rintro e w' ⟨rfl,hb⟩
 exact⟨by rw[ex_sm.2],bj b2 hb⟩
end Go.Proofs.YtcpfkaehefcakaaGreat
namespace Go.Proofs.YtcpfkaehefcakaaGreat
open Go.RowKit Go.Shelf
set_option linter.unusedVariables false
set_option maxRecDepth 100000
section
variable {At : Lies} (api : DiskApi At) (nap : NamesApi) (iap : ImApi At) (cap : ChunksApi)
include api nap iap cap
set_option maxHeartbeats 1000000 in
theorem indexed_true (w:World) : Calls Tryz.prog 5 #[] w fun e w'=>e = .returned (.bool true)∧Below w.heap.size w w':=by
 have HF:=Lib.hid (show Calls Tryz.prog 27 #[.int .i64 30000] w fun e w'=>∃ gd gl gx,e = .returned (.tuple #[ptr gd,ptr gl,ptr gx])∧IlAt At w gd gl gx r0 (ix0 0) (newS 30000) [] w' from fresh_run api nap cap w (c:=30000) (by decide))
 go_enter Tryz.func5,Tryz.ntmps5
 go_wp2_with fail
 refine HF.out.mono ?_
 rintro e w1 ⟨gd,gl,gx,rfl,hi⟩
 have hb:=(Below.refl w1.heap.size w1).alloc (Nat.le_refl _) (.cells #[.int .u64 5,.int .i64 0,.int .i64 0] 44)
 have bx:=Blok.new w1 44 #[.int .u64 5,.int .i64 0,.int .i64 0]
 have h2:=hi.more api hb (B:=[w1.heap.size]) (fun b hm=>by rw[List.mem_singleton.1 hm];exact⟨Nat.le_refl _,bx.lt⟩)
 obtain⟨w2,hw2⟩:∃ w2,w2=w1.alloc (.cells #[.int .u64 5,.int .i64 0,.int .i64 0] 44):=⟨_,rfl⟩
 rw[← hw2] at h2 bx
 have HW2:=Lib.hid hw2
 obtain⟨ge,hge⟩:∃ ge,ge=w1.heap.size:=⟨_,rfl⟩
 rw[← hge] at h2 bx
 have HGE:=Lib.hid hge
 have HAD:=Lib.hid (ex_add api h2)
 have HBX:=Lib.hid bx
 obtain⟨x0,x1,x2⟩:w2.cell? ⟨ge,0,none⟩=some (.int .u64 5)∧w2.cell? ⟨ge,1,none⟩=some (.int .i64 0)∧w2.cell? ⟨ge,2,none⟩=some (.int .i64 0):=⟨bx.cell 0,bx.cell 1,bx.cell 2⟩
 clear hi hb h2 hw2 hge bx HF
 go_upto_region 3 with fail
 rw[← HGE.out]
 rw[← HW2.out]
 clear HW2
 go_wp2_with fail
 refine HAD.out.mono ?_
 rintro e w3 ⟨rfl,h3,k3⟩
 have HWT:=Lib.hid (ex_wait h3)
 have H3:=Lib.hid h3
 have B3:=Lib.hid (k3.blok HBX.out (List.mem_append_left _ List.mem_cons_self))
 clear h3 k3 x0 x1 x2 HAD HBX
 go_wp2_with fail
 refine HWT.out.mono ?_
 rintro e w' ⟨rfl,rfl⟩
 have HRG:=Lib.hid (ex_range api nap H3.out (by omega))
 clear HWT
 go_wp2_with fail
 refine HRG.out.mono ?_
 rintro e w5 ⟨A5,c5,rfl,r5,h5,k5⟩
 have H5:=Lib.hid h5
 have R5:=Lib.hid r5
 have B5:=Lib.hid (k5.blok B3.out (List.mem_append_left _ List.mem_cons_self))
 obtain⟨x0,x1,x2⟩:w5.cell? ⟨ge,0,none⟩=some (.int .u64 5)∧w5.cell? ⟨ge,1,none⟩=some (.int .i64 0)∧w5.cell? ⟨ge,2,none⟩=some (.int .i64 0):=⟨B5.out.cell 0,B5.out.cell 1,B5.out.cell 2⟩
 have hb6:=(Below.refl w5.heap.size w5).alloc (Nat.le_refl _) (.cells #[.int .u64 5,.int .i64 0,.int .i64 0] 44)
 have H6:=Lib.hid (h5.below api hb6)
 have hs:EntsIn (w5.alloc (.cells #[.int .u64 5,.int .i64 0,.int .i64 0] 44)) (.slice (some ⟨w5.heap.size,0,none⟩) 1 1) [e0]:=ent_one w5 e0
 have r6:=EntRow.below r5 hb6 (Nat.le_refl _)
 have HSM:=Lib.hid (tsame_any _ _ [e0] [e0] _ (EntRow.in_ r6) hs (by decide) (by decide))
 rw[show decide ([e0]=[e0])=true from decide_eq_true rfl] at HSM
 have R6:=Lib.hid r6
 clear h5 r5 k5 hb6 hs r6 HRG B3 H3 B5
 unfold SameEnd at HSM
 go_wp2_with fail
 refine HSM.out.mono ?_
 rintro e w7 ⟨rfl,n7,rfl⟩
 have H7:=H6.out.below api (below_drewN (Below.refl _ _) n7)
 have R7:=Lib.hid (EntRow.below R6.out (below_drewN (Below.refl _ _) n7) (Nat.le_refl _))
 generalize (w5.alloc (.cells #[.int .u64 5,.int .i64 0,.int .i64 0] 44)).drewN n7=w7 at *
 have HFL:=Lib.hid (ex_flush api nap iap H7 (by omega))
 clear H7 HSM H6 R6 H5 R5 x0 x1 x2
 go_wp2_with fail
 refine HFL.out.mono ?_
 rintro e w8 ⟨rfl,h8,k8⟩
 have HWT:=Lib.hid (ex_wait h8)
 have HMN:=Lib.hid (ex_man api h8)
 have H8:=Lib.hid h8
 have R8:=Lib.hid (k8.row R7.out (fun b hb=>List.mem_append_left _ hb))
 clear h8 k8 HFL R7
 go_wp2_with fail
 refine HWT.out.mono ?_
 rintro e w' ⟨rfl,rfl⟩
 go_wp2_with fail
 refine HMN.out.mono ?_
 rintro e w9 ⟨A9,c9,rfl,l9,b9⟩
 have l9':LvsHas w9 (.slice A9 1 c9) [[0]]:=l9.has
 have HSA:=Lib.hid (ex_same1 l9')
 have H9:=Lib.hid (H8.out.below api b9)
 have R9:=Lib.hid (EntRow.below R8.out b9 (Nat.le_refl _))
 clear l9 b9 l9' HMN HWT H8 R8
 unfold manV exM
 unfold manV at HSA
 go_wp2_with fail
 refine HSA.out.mono ?_
 rintro e w10 ⟨rfl,b10⟩
 have H10:=Lib.hid (H9.out.below api b10)
 have R10:=Lib.hid (EntRow.below R9.out b10 (Nat.le_refl _))
 have HRG:=Lib.hid (ex_range api nap H10.out (by omega))
 clear b10 H9 R9 HSA
 go_wp2_with fail
 refine HRG.out.mono ?_
 rintro e w11 ⟨A11,c11,rfl,r11,h11,k11⟩
 have H11:=Lib.hid h11
 have R11:=EntRow.in_ (k11.row R10.out (fun b hb=>List.mem_append_left _ hb))
 have HSM:=Lib.hid (tsame_any _ _ [e0] [e0] _ (EntRow.in_ r11) R11 (by decide) (by decide))
 rw[show decide ([e0]=[e0])=true from decide_eq_true rfl] at HSM
 clear h11 r11 k11 R11 HRG R10 H10
 unfold SameEnd at HSM
 go_wp2_with fail
 refine HSM.out.mono ?_
 rintro e w12 ⟨rfl,n12,rfl⟩
 have H12:=Lib.hid (H11.out.below api (below_drewN (Below.refl _ _) n12))
 generalize w11.drewN n12=w12 at *
 have HMG:=Lib.hid (ex_merge api nap iap H12.out (by omega))
 clear HSM H11
 go_wp2_with fail
 refine HMG.out.mono ?_
 rintro e w13 ⟨rfl,h13,k13⟩
 have HMN:=Lib.hid (ex_man api h13)
 have H13:=Lib.hid h13
 clear h13 k13 HMG H12
 go_wp2_with fail
 refine HMN.out.mono ?_
 rintro e w14 ⟨A14,c14,rfl,l14,b14⟩
 have l14':LvsHas w14 (.slice A14 2 c14) [[],[1]]:=l14.has
 have HSA:=Lib.hid (ex_same2 l14')
 have H14:=Lib.hid (H13.out.below api b14)
 clear l14 b14 l14' HMN H13
 unfold manV exM
 unfold manV at HSA
 go_wp2_with fail
 refine HSA.out.mono ?_
 rintro e w15 ⟨rfl,b15⟩
 have HAG:=Lib.hid (ex_again api nap iap (H14.out.below api b15) (by omega))
 clear b15 H14 HSA
 go_wp2_with fail
 refine HAG.out.mono ?_
 rintro e w16 ⟨rfl,h16,-⟩
 have HBB:Hid (Below w.heap.size w w16):=Lib.hid (by
  obtain⟨S,D,q,-⟩:=h16.st
  exact q.base)
 clear h16 HAG
 go_wp2
 go_ret
 exact⟨rfl,HBB.out⟩
end
end Go.Proofs.YtcpfkaehefcakaaGreat
