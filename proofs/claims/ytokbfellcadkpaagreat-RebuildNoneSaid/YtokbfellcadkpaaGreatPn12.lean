/- ZnTfNext, ZnTfOpen, ZnTfCount, ZnTfLoad, ZnTfOpened -/
import Derived.Test.YtokbfellcadkpaaGreatPn10
import Derived.Test.YtokbfellcadkpaaGreatPn04
import Derived.Test.YtokbfellcadkpaaGreatPn11
namespace Go.Proofs.YtokbfellcadkpaaGreat
open Go.RowKit Go.Shelf
set_option linter.unusedVariables false
set_option maxRecDepth 100000
theorem whL_mem (s:ByteArray) : ∀ (n k:Nat) (x:Int),x∈whL s n k→0≤x∧x≤s.size
 | 0,k,x,h=>by cases h
 | n+1,k,x,h=>by
   unfold whL at h;split at h
   ·rename_i hg;rcases List.mem_cons.1 h with rfl | h
    ·have:=getN_lt hg;omega
    ·exact whL_mem s n _ x h
   ·cases h
theorem scL_mem {s:ByteArray}{n x:Int}(h:x∈scL s n) : 0≤x∧x≤s.size:=by
 unfold scL wlL at h;split at h
 ·split at h
  ·exact whL_mem s _ _ x h
  ·cases h
 ·cases h
theorem nextK_err {k n:Nat}{D:DiskS}{pos:Int}(h:(rdC D (nmC n)).2.1≠0) : nextK (k+1) n D pos=⟨ByteArray.empty,0,0,(rdC D (nmC n)).2.1,(rdC D (nmC n)).2.2⟩:=by
 unfold nextK;rw[if_pos h]
theorem nextK_none {k n:Nat}{D:DiskS}{pos:Int}(h:(rdC D (nmC n)).2.1=0)(hx:∀ x∈scL (rdC D (nmC n)).1 (n:Nat),¬ pos≤(n:Int)*4096+x) : nextK (k+1) n D pos=nextK k (n+1) (rdC D (nmC n)).2.2 pos:=by
 rw[nextK,if_neg (by simp[h]),List.find?_eq_none.2 (fun x hm=>by simpa using hx x hm)]
theorem nextK_some {k n j:Nat}{D:DiskS}{pos x:Int}(h:(rdC D (nmC n)).2.1=0)(hj:(scL (rdC D (nmC n)).1 (n:Nat))[j]? = some x)(hp:pos≤(n:Int)*4096+x)(hx:∀ y∈(scL (rdC D (nmC n)).1 (n:Nat)).take j,¬ pos≤(n:Int)*4096+y) :
  nextK (k+1) n D pos=⟨getP (rdC D (nmC n)).1 x,(n:Int)*4096+x,(n:Int)*4096+(getN (rdC D (nmC n)).1 x:Nat),0,(rdC D (nmC n)).2.2⟩:=by
 have hf:(scL (rdC D (nmC n)).1 (n:Nat)).find? (fun x=>decide (pos≤(n:Int)*4096+x))=some x:=by
  generalize scL (rdC D (nmC n)).1 (n:Nat)=l at *;have hjl:=(List.getElem?_eq_some_iff.1 hj).1
  have e:l=l.take j++(x::l.drop (j+1)):=by
   have e1:l.drop j=x::l.drop (j+1):=by
    rw[List.drop_eq_getElem_cons hjl];congr 1;rw[List.getElem?_eq_getElem hjl] at hj;simpa using hj
   rw[← e1,List.take_append_drop]
  rw[e,List.find?_append,List.find?_eq_none.2 (fun y hy=>by simpa using hx y hy)];simp[hp]
 rw[nextK,if_neg (by simp[h]),hf]
theorem tail_results {fn:Func}{t u v x:Tmp}(h:fn.results=#[.tmp t,.tmp u,.tmp v,.tmp x])(tmps:Array Value)(P:Program)(w:World) :
  (results fn tmps).run P w = .ok (.tuple #[tmps.getD t undef,tmps.getD u undef,tmps.getD v undef,tmps.getD x undef]) w:=by
 simp[results,h]
section
variable {At : Lies} (api : DiskApi At) (nap : NamesApi) (cap : ChunksApi) {c : Ctx} {gl gd : Nat} {L L' : LogS} {D D' : DiskS} {w w' : World}
include api nap cap
abbrev NextTo (At:Lies)(c:Ctx)(gl gd:Nat)(L:LogS)(r:NextS) : Ending→World→Prop:=TRet At c gl gd (.tuple #[.string r.p,.int .i64 r.at_,.int .i64 r.next,err r.e]) L r.D
set_option maxRecDepth 100000 in
set_option maxHeartbeats 4000000 in
theorem tnext_run (hm:c.m=ptr gl)(h:TSt At c gl gd L D w)(ok:WfP D)(hct:D.count≤1000000000)(pos:Int)(hw:(Lit.int .i64 pos).wf=true)(hc:L.chunks≤200)(he:readyT D L=0) : Calls Tryz.prog 90 #[ptr gl,.int .i64 pos] w (NextTo At c gl gd L (nextK (L.chunks-(max pos 0/4096).toNat) (max pos 0/4096).toNat D pos)):=by
 have hr:=Lib.hid (tready_run api hm h);rw[he] at hr;have bb:=bounds_i64 hw;obtain⟨n0,hn0⟩:∃ n0,n0=(max pos 0/4096).toNat:=⟨_,rfl⟩
 rw[← hn0];have hmx:∀ ts t w,(Builtin.max_ ts t #[.int .i64 pos,.int .i64 0]).run Tryz.prog w = .ok (.int .i64 (max pos 0)) w:=fun ts t w=>by rw[run_max_int2,show(if pos<0 then(0:Int) else pos)=max pos 0 by split<;>omega]
 have e1:(max pos 0).tdiv 4096=(n0:Int):=by rw[Int.tdiv_eq_ediv_of_nonneg (by omega)];omega
 have hw1:IntKind.i64.wrap (n0:Int)=(n0:Int):=IntWalk.i64_in _ (by omega);have hn0b:n0≤9223372036854775807/4096:=by omega
 generalize max pos 0=mx at *;have OK:=Lib.hid ok;have HCT:=Lib.hid hct;have HC:=Lib.hid hc;have HNB:=Lib.hid hn0b;have BB:=Lib.hid bb;clear hm h ok hct hw hc he hn0 bb hn0b;go_enter Tryz.func90,Tryz.ntmps90;go_wp2;go_step3;go_wp2_with fail;refine hr.out.mono ?_;rintro e w1 ⟨rfl,h1⟩;have H1:=Lib.hid h1;clear h1;go_wp2;go_step3;go_wp2;go_loopw [8] (fun i wr=>∃ (k:Nat) (Dk:DiskS),i = .int .i64 k∧TSt At c gl gd L Dk wr∧WfP Dk∧Dk.count≤1000000000+k∧nextK (L.chunks-k) k Dk pos=nextK (L.chunks-n0) n0 D pos∧(k=n0∨k≤L.chunks)) (fun i _=>L.chunks-(intOf i).toNat)
 case atStart=>exact⟨n0,D,rfl,H1.out,OK.out,by have:=HCT.out;omega,rfl,Or.inl rfl⟩
 case round =>
  obtain⟨k,Dk,rfl,hT,hok,hct,hk,hkn⟩:=hrel;have c3:=hT.cells.2.2.2.1;have HT:=Lib.hid hT;have HK:=Lib.hid hk;have HOK:=Lib.hid hok;have HCK:=Lib.hid hct;clear hT hk hok hct;by_cases hlt:k<L.chunks
  ·have hck:=HC.out;have l1:decide ((k:Int)<(L.chunks:Int))=true:=decide_eq_true (by omega);have hRd:=Lib.hid (rd_run api nap HT.out HOK.out (by have:=HCK.out;omega) k (by omega));have hsz:=rdC_size (n:=nmC k) HOK.out;have HW:=Lib.hid (wp_rdC HOK.out (nmC k));have HCN:=Lib.hid (rdC_count Dk (nmC k));have efuel:L.chunks-k=(L.chunks-(k+1))+1:=by omega
   by_cases hE:(rdC Dk (nmC k)).2.1=0
   case neg =>
    have HE:=Lib.hid (nextK_err (k:=L.chunks-(k+1)) (pos:=pos) hE);rw[← efuel] at HE;have HF:=Lib.hid (HE.out.symm.trans HK.out);have t1:(((rdC Dk (nmC k)).2.1:Int) != 0)=true:=by simp;omega
    generalize rdC Dk (nmC k)=R at *;obtain⟨s,y,D2⟩:=R;dsimp only at *;generalize hn:(L.chunks:Int)=n at *;clear hck hsz efuel hE hlt hkn HE HW HCN;go_wp2_with fail;refine hRd.out.mono ?_;rintro e w2 ⟨rfl,h2⟩;have H2:=Lib.hid h2;clear h2;go_wp2;refine bodyPost_ret (tail_results rfl _ _ _) rfl ?_;rw[← HF.out];exact⟨rfl,H2.out⟩
   have hSc:=Lib.hid fun(W:World)=>cap.scan (rdC Dk (nmC k)).1 (k:Nat) W (by omega) (wf_nat (by omega))
   have HSM:=Lib.hid fun x (hx:x∈scL (rdC Dk (nmC k)).1 (k:Nat))=>scL_mem hx
   have HNO:=Lib.hid (nextK_none (k:=L.chunks-(k+1)) (pos:=pos) hE);have HSO:=Lib.hid (fun j x=>nextK_some (k:=L.chunks-(k+1)) (j:=j) (pos:=pos) (x:=x) hE);rw[← efuel] at HNO HSO;rw[hE] at hRd;have hGt:=Lib.hid fun(W:World) (x:Int) (hx:0≤x∧x≤((rdC Dk (nmC k)).1.size:Nat))=>rget_any (rdC Dk (nmC k)).1 x W (by unfold maxLen;omega) (WalkArith.wf_i64 (by omega))
   unfold GotRec at hGt;unfold Scanned at hSc;have hFr:=Lib.hid fun(W:World)=>front_run k W (by omega)
   have HKL:=Lib.hid (show(k:Int)≤200 by omega);have HSZ:=Lib.hid (show((rdC Dk (nmC k)).1.size:Int)≤1048576 by omega);have HLT:=Lib.hid hlt;generalize rdC Dk (nmC k)=R at *;obtain⟨s,y,D2⟩:=R;dsimp only at *;generalize scL s (k:Nat)=pl at *;generalize scE s (k:Nat)=en at *;generalize scOk s (k:Nat)=okk at *;generalize hn:(L.chunks:Int)=n at *;have HN:=Lib.hid hn;clear hck hsz efuel hE hlt hkn;go_wp2_with fail;refine hRd.out.mono ?_;rintro e w2 ⟨rfl,h2⟩;have H2:=Lib.hid h2;clear h2;go_wp2_with fail;refine(hSc.out _).mono ?_;rintro e w3 ⟨u,rfl,hi,hb⟩;have H3:=Lib.hid (H2.out.below api hb);obtain⟨A,off,cp,rfl,hln,hcell⟩:=hi.cell;have HCE:=Lib.hid hcell;have HLN:=Lib.hid hln;clear hb hi hcell hln;go_wp2;go_loopw [14] (fun i wr2=>∃ j m:Nat,j≤pl.length∧i = .int .i64 j∧(∀ y∈pl.take j,¬ pos≤(k:Int)*4096+y)∧wr2=w3.drewN m) (fun i _=>pl.length-(intOf i).toNat)
   case atStart=>exact⟨0,0,Nat.zero_le _,rfl,fun y hy=>by simp at hy,rfl⟩
   case round =>
    obtain⟨j,m,hj,rfl,hall,rfl⟩:=hrel;have HA:=Lib.hid hall;have hT:=H3.out.drewN api m;have HT3:=Lib.hid hT;clear hall hT;by_cases hjl:j<pl.length
    ·have hx:pl[j]? = some pl[j]:=List.getElem?_eq_getElem hjl;have hxm:=HSM.out _ (List.getElem_mem hjl);obtain⟨b,rfl,hc3⟩:=HCE.out j _ hx;generalize pl[j]=x at *;have HX:=Lib.hid hx;have HXM:=Lib.hid hxm;obtain⟨WB,hWB⟩:∃ WB,WB=w3.drewN m:=⟨_,rfl⟩
     have d3:WB.cell? ⟨b,off+j,none⟩=some (.int .i64 x):=by rw[hWB];exact hc3
     rw[← hWB] at HT3 ⊢;have HWB:=Lib.hid hWB;clear hc3 hWB;have hsz:=HSZ.out;have hkl:=HKL.out;have t5:((j:Int)==(pl.length:Int))=false:=by simp;omega
     have l5:(j:Int)<(pl.length:Int):=by omega
     have hw6:IntKind.i64.wrap ((k:Int)*4096+x)=(k:Int)*4096+x:=IntWalk.i64_in _ (by omega);by_cases hpx:pos≤(k:Int)*4096+x
     ·have t6:decide (pos≤(k:Int)*4096+x)=true:=decide_eq_true hpx;have HF:=Lib.hid ((HSO.out j x HX.out hpx (fun y hy=>by have:=HA.out y hy;omega)).symm.trans HK.out);have hgn:=getN_le s x;have hw8:IntKind.i64.wrap ((k:Int)*4096+(getN s x:Nat))=(k:Int)*4096+(getN s x:Nat):=IntWalk.i64_in _ (by omega);have hG:=Lib.hid fun W=>hGt.out W x HXM.out
      generalize getN s x=gn at *;generalize getP s x=gp at *;generalize getOk s x=gk at *;clear hpx hx hxm hj hsz hkl hgn hjl;generalize hq:pl.length=q at *;go_wp2_with fail;go_quiet ((go_at_call 66;exact Calls.quiet_of_same ((hFr.out _).mono fun _ _ h=>⟨h.1,h.2.symm⟩)));generalize hWC:WB.drewN _=WC at *;have d4:WC.cell? ⟨b,off+j,none⟩=some (.int .i64 x):=by rw[← hWC];exact d3
      have HT4:=Lib.hid (show TSt At c gl gd L D2 WC by rw[← hWC];exact HT3.out.drewN api _);clear hWC d3;go_wp2_with fail;refine(hG.out _).mono ?_;rintro e w5 ⟨rfl,hb⟩;have d5:w5.cell? ⟨b,off+j,none⟩=some (.int .i64 x):=((Touch.of_below hb).cell (World.block_lt_of_cell? WC _ d4) (by simp)).trans d4;have HT5:=Lib.hid (HT4.out.below api hb);clear hb d4;go_wp2_with fail;go_quiet ((go_at_call 66;exact Calls.quiet_of_same ((hFr.out _).mono fun _ _ h=>⟨h.1,h.2.symm⟩)));go_wp2;refine bodyPost_ret (tail_results rfl _ _ _) rfl ?_;rw[← HF.out];exact⟨rfl,HT5.out.drewN api _⟩
     ·have t6:decide (pos≤(k:Int)*4096+x)=false:=decide_eq_false hpx;have hw7:IntKind.i64.wrap ((j:Int)+1)=(j:Int)+1:=IntWalk.i64_in _ (by have:=HLN.out;unfold maxLen at this;omega)
      have hnx:∀ y∈pl.take (j+1),¬ pos≤(k:Int)*4096+y:=by
       intro y hy;rw[List.take_add_one,hx] at hy;rcases List.mem_append.1 hy with hy | hy
       ·exact HA.out y hy
       ·obtain rfl:y=x:=by simpa using hy
        exact hpx
      have HNX:=Lib.hid hnx;have HJL:=Lib.hid hjl;clear hnx hpx hx hxm hj hsz hkl hjl;generalize hq:pl.length=q at *;go_wp2_with fail;go_quiet ((go_at_call 66;exact Calls.quiet_of_same ((hFr.out _).mono fun _ _ h=>⟨h.1,h.2.symm⟩)));go_wp2;exact⟨⟨j+1,_,by have:=HJL.out;omega,by go_num,fun y hy=>by have:=HNX.out y hy;omega,by rw[HWB.out,World.drewN_drewN]⟩,by simp[intOf];have:=HJL.out;omega⟩
    ·obtain rfl:j=pl.length:=by omega
     have e:pl.take pl.length=pl:=List.take_of_length_le (Nat.le_refl _);have HF:=Lib.hid ((HNO.out (fun y hy=>by have:=HA.out y (by rw[e];exact hy);omega)).symm.trans HK.out);have t5:((pl.length:Int)==(pl.length:Int))=true:=by simp
     have hw5:IntKind.i64.wrap ((k:Int)+1)=(k:Int)+1:=IntWalk.i64_in _ (by have:=HKL.out;omega);clear e hj hjl;generalize pl.length=q at *;go_wp2;exact⟨⟨k+1,D2,by go_num,HT3.out,HW.out,by have:=HCK.out;have:=HCN.out;omega,HF.out,Or.inr (by have:=HLT.out;omega)⟩,by simp[intOf];have:=HLT.out;omega⟩
  ·have l1:decide ((k:Int)<(L.chunks:Int))=false:=decide_eq_false (by omega);have e0:L.chunks-k=0:=by omega
   have HF:=Lib.hid (show(⟨ByteArray.empty,0,0,4,Dk⟩:NextS)=nextK (L.chunks-n0) n0 D pos from by rw[← HK.out,e0];rfl);clear hlt hkn e0;generalize (L.chunks:Int)=n at *;go_wp2;refine bodyPost_ret (tail_results rfl _ _ _) rfl ?_;rw[← HF.out];exact⟨rfl,HT.out⟩
set_option maxRecDepth 100000 in
theorem tnext_t (hm:c.m=ptr gl)(h:TSt At c gl gd L D w)(ok:WfP D)(hct:D.count≤1000000000)(pos:Int)(hw:(Lit.int .i64 pos).wf=true)(hc:L.chunks≤200) : Calls Tryz.prog 90 #[ptr gl,.int .i64 pos] w (NextTo At c gl gd L (nextT D L pos)):=by
 unfold nextT;by_cases he:readyT D L=0
 ·rw[if_neg (by simp[he])];exact tnext_run api nap cap hm h ok hct pos hw hc he
 ·rw[if_pos he];have hr:=Lib.hid (tready_run api hm h);have t:((readyT D L:Int) != 0)=true:=by simp;omega
  generalize readyT D L=y at *;clear h ok hct hw hc he hm;go_enter Tryz.func90,Tryz.ntmps90;go_wp2;go_step3;go_wp2_with fail;refine hr.out.mono ?_;rintro e w1 ⟨rfl,h1⟩;have H1:=Lib.hid h1;clear h1;go_wp2;refine bodyPost_ret (tail_results rfl _ _ _) rfl ?_;exact⟨rfl,H1.out⟩
end
end Go.Proofs.YtokbfellcadkpaaGreat
namespace Go.Proofs.YtokbfellcadkpaaGreat
open Go.RowKit Go.Shelf
set_option linter.unusedVariables false
set_option maxRecDepth 100000
section
variable {At : Lies} (api : DiskApi At) {c : Ctx} {gl gd : Nat} {L L' : LogS} {D D' : DiskS} {w w' : World} {B1 B2 B3 : Nat} {nm s : ByteArray}
include api
theorem sweep_run (h:TSt At c gl gd L D w)(ok:WfP D) : Calls Tryz.prog 25 #[ptr gl] w (TRet At c gl gd (err (sweepT D).1) L (sweepT D).2):=by
 have hS:=Lib.hid (h.disk api (fun F hF=>api.delete newB hF ok.ok newB_le));have c1:=h.cells.2.1;have enw:(⟨#[110,101,119]⟩:ByteArray)=newB:=rfl;unfold sweepT;by_cases he:(deleteS D newB).1=4
 ·rw[if_pos he];rw[he] at hS;generalize deleteS D newB=r at *;clear h ok he;go_enter Tryz.func25,Tryz.ntmps25;go_wp2_with fail;refine hS.out.mono ?_;rintro e w2 ⟨rfl,h2⟩;have H2:=Lib.hid h2;clear h2;go_wp2;go_ret;exact⟨rfl,H2.out⟩
 ·rw[if_neg he];have t:(((deleteS D newB).1:Int) != 4)=true:=by simp;omega
  generalize deleteS D newB=r at *;clear h ok he;go_enter Tryz.func25,Tryz.ntmps25;go_wp2_with fail;refine hS.out.mono ?_;rintro e w2 ⟨rfl,h2⟩;have H2:=Lib.hid h2;clear h2;go_wp2;go_ret;exact⟨rfl,H2.out⟩
variable (nap : NamesApi)
include nap
set_option maxRecDepth 100000 in
theorem mend_run (h:TSt At c gl gd L D w)(ok:WfP D)(n e:Nat)(hn:n≤200)(hs:s.size≤1048576)(he:e≤1048576)(hes:e≤s.size∨s.size<12) : Calls Tryz.prog 82 #[ptr gl,.int .i64 (n:Nat),.string s,.int .i64 (e:Nat)] w (TRet At c gl gd (err (mendT D L n s e).1) (mendT D L n s e).2.2 (mendT D L n s e).2.1):=by
 have hN:=Lib.hid fun W=>chunk_nm nap n W (by omega)
 have hNZ:=nmC_le (n:=n) (by omega);have HH:=Lib.hid h;unfold mendT;by_cases hlt:s.size<12
 ·rw[if_pos hlt];have t1:decide ((s.size:Int)<12)=true:=decide_eq_true (by omega);have hS:=Lib.hid fun(W:World) (hT:TSt At c gl gd { L with chunks:=n } D W)=>hT.disk api (fun F hF=>api.delete (nmC n) hF ok.ok hNZ)
  generalize nmC n=nm at *;generalize deleteS D nm=r at *;clear h ok hn hs he hes hlt hNZ;go_enter Tryz.func82,Tryz.ntmps82;go_wp2_with fail;refine(hN.out _).mono ?_;rintro e w1 ⟨rfl,hb⟩;have h1:=HH.out.below api hb;have c3:=h1.cells.2.2.2.1;have f3:=h1.frozen 3;have h2:=h1.putChunks api n;have d1:=h2.cells.2.1;have H2:=Lib.hid h2;clear hb h1 h2;go_wp2_with fail;refine(hS.out _ H2.out).mono ?_;rintro e w3 ⟨rfl,h3⟩;have H3:=Lib.hid h3;clear h3;go_wp2;go_ret;exact⟨rfl,H3.out⟩
 rw[if_neg hlt];have hes:e≤s.size:=by omega
 have t1:decide ((s.size:Int)<12)=false:=decide_eq_false (by omega);have hFr:=Lib.hid fun(W:World)=>front_run n W (by omega)
 have hw1:IntKind.i64.wrap ((n:Int)*4096+(e:Int))=(n:Int)*4096+(e:Int):=IntWalk.i64_in _ (by omega);have eE:=Lib.hid (show((4096*n+e:Nat):Int)=(n:Int)*4096+(e:Int) by omega);by_cases hq:e<s.size
 ·rw[if_pos hq];have t2:decide ((e:Int)<(s.size:Int))=true:=decide_eq_true (by omega);have t3:decide (e<s.size)=true:=decide_eq_true (by omega);have i1:(0:Int)≤(e:Int):=by omega
  have i2:(e:Int)≤(s.size:Int):=by omega
  have hR:=Lib.hid fun(W:World) (hT:TSt At c gl gd { L with endp:=4096*n+e } D W)=>rewrite_run api hT ok hNZ (s:=s.extract 0 e) (by rw[ByteArray.size_extract];omega)
  dsimp only[onD];generalize rewriteT D (nmC n) (s.extract 0 e)=r at *;generalize nmC n=nm at *;clear h ok hn hs he hes hlt hNZ hq;go_enter Tryz.func82,Tryz.ntmps82;go_wp2_with fail;refine(hN.out _).mono ?_;rintro e w1 ⟨rfl,hb⟩;have h1:=HH.out.below api hb;have H1:=Lib.hid h1;clear hb h1;go_wp2_with fail;refine(hFr.out _).mono ?_;rintro e w2 ⟨rfl,rfl⟩;have c4:=H1.out.cells.2.2.2.2.1;have f4:=H1.out.frozen 4;have h2:=H1.out.putEnd api (4096*n+e);rw[eE.out] at h2;have d1:=h2.cells.2.1;have H2:=Lib.hid h2;clear h2;go_wp2_with fail;refine(hR.out _ H2.out).mono ?_;rintro e w3 ⟨rfl,h3⟩;have H3:=Lib.hid h3;clear h3;go_wp2;go_ret;exact⟨rfl,H3.out⟩
 ·rw[if_neg hq];have t2:decide ((e:Int)<(s.size:Int))=false:=decide_eq_false (by omega);have t3:decide (e<s.size)=false:=decide_eq_false (by omega);have hR:=Lib.hid fun(W:World) (hT:TSt At c gl gd { L with endp:=4096*n+e } D W)=>hT.disk api (fun F hF=>api.sync (nmC n) hF ok.ok hNZ)
  dsimp only[onD];generalize syncS D (nmC n)=r at *;generalize nmC n=nm at *;clear h ok hn hs he hes hlt hNZ hq;go_enter Tryz.func82,Tryz.ntmps82;go_wp2_with fail;refine(hN.out _).mono ?_;rintro e w1 ⟨rfl,hb⟩;have h1:=HH.out.below api hb;have H1:=Lib.hid h1;clear hb h1;go_wp2_with fail;refine(hFr.out _).mono ?_;rintro e w2 ⟨rfl,rfl⟩;have c4:=H1.out.cells.2.2.2.2.1;have f4:=H1.out.frozen 4;have h2:=H1.out.putEnd api (4096*n+e);rw[eE.out] at h2;have d1:=h2.cells.2.1;have H2:=Lib.hid h2;clear h2;go_wp2_with fail;refine(hR.out _ H2.out).mono ?_;rintro e w3 ⟨rfl,h3⟩;have H3:=Lib.hid h3;clear h3;go_wp2;go_ret;exact⟨rfl,H3.out⟩
end
section
variable {At : Lies} {c : Ctx} {gl gd : Nat} {L L' : LogS} {D D' : DiskS} {w w' : World}
theorem TSt.strs (api:DiskApi At)(h:TSt At c gl gd L D w){f:FuncId}{args:Array Value}{l:List ByteArray}(hc:∀ F,At w c.base gd F D→Calls Tryz.prog f args w (StrsEnd At c.base gd F w l D')) :
  Calls Tryz.prog f args w (fun e w'=>∃ v,e = .returned v∧StrsAt w' v l∧(∀ b,v.ownBlock=some b→b≠gl)∧TSt At c gl gd L D' w'):=by
 obtain⟨F,h1,h2,h3,h4,h5,h6,h7⟩:=h;refine(hc F h1).mono ?_;rintro e w' ⟨F',v,e1,hS,hv,e2,e3,e4⟩;refine⟨v,e1,hS,fun b hb e=>(by have:=(hv b hb).1;have:=h2.lt;omega),F',e2,h2.touch e4 h3,fun hm=>?_,fun x hx=>?_,h5.trans e4 (fun x hx=>?_),Nat.le_trans h6 e4.size,fun b hb=>?_⟩
 ·rcases e3 gl hm with k | k
  ·exact h3 k
  ·have:=h2.lt;omega
 ·rcases e3 x hx with k | k
  ·exact h4 x k
  ·exact Or.inr (by have:=h5.size;omega)
 ·rcases h4 x hx with k | k
  ·exact Or.inl (List.mem_cons_of_mem _ k)
  ·exact Or.inr k
 ·obtain⟨k1,k2,k3,k4,k5⟩:=h7 b hb;refine⟨k1,k2,fun hm=>?_,k4,(e4.block b (by omega) k3).trans k5⟩;rcases e3 b hm with k | k
  ·exact k3 k
  ·omega
theorem cntL_skip {l:List ByteArray}{s:ByteArray}{c:Nat}(h:isC s=false) : cntL (s::l) c=cntL l c:=by
 unfold cntL;rw[if_neg (by simp[h])];split<;>rfl
theorem cntL_bad {l:List ByteArray}{s:ByteArray}{c:Nat}(h:isC s=true)(hb:npN s≠c∨200≤npN s) : cntL (s::l) c=(63,c):=by
 unfold cntL;rw[if_pos h,if_pos hb]
theorem cntL_next {l:List ByteArray}{s:ByteArray}{c:Nat}(h:isC s=true)(hb:¬ (npN s≠c∨200≤npN s)) : cntL (s::l) c=cntL l (c+1):=by
 unfold cntL;rw[if_pos h,if_neg hb];split<;>rfl
end
end Go.Proofs.YtokbfellcadkpaaGreat
namespace Go.Proofs.YtokbfellcadkpaaGreat
open Go.RowKit Go.Shelf
set_option linter.unusedVariables false
set_option maxRecDepth 100000
theorem strs_cell {w:World}{v:Value}{l:List ByteArray}(h:StrsAt w v l) : ∃ A off cap,v = .slice A l.length cap∧l.length≤maxLen∧∀ i x,l[i]? = some x→∃ b,A=some ⟨b,off,none⟩∧w.cell? ⟨b,off+i,none⟩=some (.string x):=by
 rcases h with⟨rfl,a,c,rfl⟩ | ⟨b,off,cap,h1,h2,h3,h4,h5⟩
 ·exact⟨a,0,c,rfl,Nat.zero_le _,fun i x h=>by simp at h⟩
 ·exact⟨some ⟨b,off,none⟩,off,cap,h1,by omega,fun i x hx=>⟨b,rfl,h5 i x hx⟩⟩
theorem npN_le (s:ByteArray) : npN s≤999999:=by
 cases h:npOk s
 ·rw[(np_no h).2];omega
 ·exact(np_form h).1
theorem npK_le (s:ByteArray) : npK s<256:=by
 cases h:npOk s
 ·rw[(np_no h).1];omega
 ·rcases(np_form h).2 with h | h | h<;>omega
section
variable {At : Lies} (api : DiskApi At) (nap : NamesApi) {c : Ctx} {gl gd : Nat} {L L' : LogS} {D D' : DiskS} {w w' : World}
include api nap
set_option maxRecDepth 100000 in
set_option maxHeartbeats 4000000 in
theorem count_run (h:TSt At c gl gd L D w)(ok:WfP D)(h0:L.chunks=0)(hnm:∀ f∈D.l,f.name.size≤maxLen) : Calls Tryz.prog 26 #[ptr gl] w (TRet At c gl gd (err (countT D L).1) (countT D L).2.2 (countT D L).2.1):=by
 have hS:=Lib.hid (h.strs api (fun F hF=>api.names hF ok.ok));have c1:=h.cells.2.1;have hlen:(D.l.map FileS.name).length≤400:=by rw[List.length_map];exact ok.many
 have hsz:∀ x∈D.l.map FileS.name,x.size≤maxLen:=by
  intro x hx;obtain⟨f,hf,rfl⟩:=List.mem_map.1 hx;exact hnm f hf
 unfold countT;generalize D.l.map FileS.name=nl at *;have HL:=Lib.hid hlen;have HZ:=Lib.hid hsz;have H0:=Lib.hid h0;clear h ok h0 hnm hlen hsz;go_enter Tryz.func26,Tryz.ntmps26;go_wp2_with fail;refine hS.out.mono ?_;rintro e w1 ⟨v,rfl,hs,hv,h1⟩;obtain⟨A,off,cp,rfl,hln,hcell⟩:=strs_cell hs;have HC:=Lib.hid hcell;have HV:=Lib.hid hv;have H1:=Lib.hid h1;clear hs hln hcell hv h1;go_wp2;go_loopw [14] (fun i wr=>∃ k ck:Nat,k≤nl.length∧i = .int .i64 k∧ck≤k∧cntL (nl.drop k) ck=cntL nl L.chunks∧TSt At c gl gd { L with chunks:=ck } D wr∧Touch [gl] w1 wr) (fun i _=>nl.length-(intOf i).toNat)
 case atStart=>exact⟨0,L.chunks,Nat.zero_le _,rfl,by rw[H0.out];exact Nat.le_refl _,rfl,H1.out,Touch.refl _ _⟩
 case round =>
  obtain⟨k,ck,hk,rfl,hck,hcnt,hT,ht⟩:=hrel;have HT:=Lib.hid hT;have HTT:=Lib.hid ht;have HCN:=Lib.hid hcnt;have HCK:=Lib.hid hck;clear hT ht hcnt hck;by_cases hlt:k<nl.length
  ·have hx:nl[k]? = some nl[k]:=List.getElem?_eq_getElem hlt;have hd:nl.drop k=nl[k]::nl.drop (k+1):=List.drop_eq_getElem_cons hlt;obtain⟨b,rfl,hc2⟩:=HC.out k _ hx;have hz:=HZ.out _ (List.getElem_mem hlt);generalize nl[k]=x at *;have hb:b≠gl:=HV.out b rfl;have hc3:=(HTT.out.cell (World.block_lt_of_cell? w1 _ hc2) (by simpa using hb)).trans hc2;have hP:=Lib.hid fun(W:World)=>nap.parse x W hz
   have l1:(k:Int)<(nl.length:Int):=by omega
   have hl4:=HL.out;have hnp:=npN_le x;have hnk:=npK_le x;have c3:=HT.out.cells.2.2.2.1;have hw1:IntKind.i64.wrap ((ck:Int)+1)=(ck:Int)+1:=IntWalk.i64_in _ (by have:=HCK.out;omega);have hw9:IntKind.i64.wrap ((k:Int)+1)=(k:Int)+1:=IntWalk.i64_in _ (by omega);rw[hd] at HCN;have HLT:=Lib.hid hlt;cases hok:npOk x
   case false =>
    have e1:isC x=false:=by unfold isC;rw[hok];rfl
    rw[cntL_skip e1] at HCN;rw[hok] at hP;generalize npK x=kk at *;generalize npN x=nn at *;generalize hq:nl.length=q at *;clear hx hd hc2 hz hb hl4 hnp hnk hok e1 hlt;go_wp2_with fail;refine(hP.out _).mono ?_;rintro e w2 ⟨rfl,hb⟩;have HT2:=Lib.hid (HT.out.below api hb);have HTT2:=Lib.hid (HTT.out.trans (Touch.of_below hb) (fun x hx=>by cases hx));clear hb;go_wp2;exact⟨⟨k+1,ck,by have:=HLT.out;omega,by go_num,by have:=HCK.out;omega,HCN.out,HT2.out,HTT2.out⟩,by simp[intOf];have:=HLT.out;omega⟩
   rw[hok] at hP;by_cases hk9:npK x=99
   case neg =>
    have e1:isC x=false:=by unfold isC;rw[hok];simp[hk9]
    rw[cntL_skip e1] at HCN;have t1:((npK x:Int) != 99)=true:=by simp;omega
    generalize npK x=kk at *;generalize npN x=nn at *;generalize hq:nl.length=q at *;clear hx hd hc2 hz hb hl4 hnp hnk hok e1 hlt hk9;go_wp2_with fail;refine(hP.out _).mono ?_;rintro e w2 ⟨rfl,hb⟩;have HT2:=Lib.hid (HT.out.below api hb);have HTT2:=Lib.hid (HTT.out.trans (Touch.of_below hb) (fun x hx=>by cases hx));clear hb;go_wp2;exact⟨⟨k+1,ck,by have:=HLT.out;omega,by go_num,by have:=HCK.out;omega,HCN.out,HT2.out,HTT2.out⟩,by simp[intOf];have:=HLT.out;omega⟩
   have e1:isC x=true:=by unfold isC;rw[hok,hk9];rfl
   rw[hk9] at hP;by_cases hbad:npN x≠ck∨200≤npN x
   ·rw[cntL_bad e1 hbad] at HCN;by_cases hne:npN x=ck
    ·have t2:((npN x:Int) != (ck:Int))=false:=by simp;omega
     have t3:decide ((200:Int)≤(npN x:Int))=true:=decide_eq_true (by omega);generalize npN x=nn at *;generalize hq:nl.length=q at *;clear hx hd hc2 hz hb hl4 hnp hnk hok e1 hlt hk9 hbad hne;go_wp2_with fail;refine(hP.out _).mono ?_;rintro e w2 ⟨rfl,hb⟩;have HT2:=Lib.hid (HT.out.below api hb);have d3:=HT2.out.cells.2.2.2.1;clear hb;go_wp2;go_ret;rw[← HCN.out];exact⟨rfl,HT2.out⟩
    ·have t2:((npN x:Int) != (ck:Int))=true:=by simp;omega
     generalize npN x=nn at *;generalize hq:nl.length=q at *;clear hx hd hc2 hz hb hl4 hnp hnk hok e1 hlt hk9 hbad hne;go_wp2_with fail;refine(hP.out _).mono ?_;rintro e w2 ⟨rfl,hb⟩;have HT2:=Lib.hid (HT.out.below api hb);have d3:=HT2.out.cells.2.2.2.1;clear hb;go_wp2;go_ret;rw[← HCN.out];exact⟨rfl,HT2.out⟩
   ·rw[cntL_next e1 hbad] at HCN;have t2:((npN x:Int) != (ck:Int))=false:=by simp;omega
    have t3:decide ((200:Int)≤(npN x:Int))=false:=decide_eq_false (by omega);generalize npN x=nn at *;generalize hq:nl.length=q at *;clear hx hd hc2 hz hb hl4 hnp hnk hok e1 hlt hk9 hbad;go_wp2_with fail;refine(hP.out _).mono ?_;rintro e w2 ⟨rfl,hb⟩;have h2:=HT.out.below api hb;have d3:=h2.cells.2.2.2.1;have f3:=h2.frozen 3;have HT2:=Lib.hid (h2.putChunks api (ck+1));have HTT2:=Lib.hid ((HTT.out.trans (Touch.of_below hb) (fun x hx=>by cases hx)).setCell (p:=⟨gl,3,none⟩) (Or.inl (List.mem_singleton.2 rfl)) (.int .i64 ((ck+1:Nat):Int)));clear hb h2;go_wp2;exact⟨⟨k+1,ck+1,by have:=HLT.out;omega,by go_num,by have:=HCK.out;omega,HCN.out,HT2.out,HTT2.out⟩,by simp[intOf];have:=HLT.out;omega⟩
  ·obtain rfl:k=nl.length:=by omega
   rw[List.drop_length] at HCN;have l1:decide ((nl.length:Int)<(nl.length:Int))=false:=decide_eq_false (by omega);generalize nl.length=q at *;go_wp2;go_ret;rw[← HCN.out];exact⟨rfl,HT.out⟩
end
end Go.Proofs.YtokbfellcadkpaaGreat
namespace Go.Proofs.YtokbfellcadkpaaGreat
open Go.RowKit Go.Shelf
set_option linter.unusedVariables false
set_option maxRecDepth 100000
theorem whE_le (s:ByteArray) : ∀ (n k:Nat),k≤s.size→whE s n k≤s.size
 | 0,k,h=>h
 | n+1,k,h=>by
   unfold whE;split
   ·exact whE_le s n _ (getN_le _ _)
   ·exact h
theorem scE_le (s:ByteArray)(n:Int) : scE s n≤s.size:=by
 unfold scE wlE;split
 ·split
  ·rename_i h;exact whE_le s _ _ (by omega)
  ·exact Nat.zero_le _
 ·exact Nat.zero_le _
theorem loadK_err {k n:Nat}{D:DiskS}{L:LogS}(h:(rdC D (nmC n)).2.1≠0) : loadK (k+1) n D L=((rdC D (nmC n)).2.1,(rdC D (nmC n)).2.2,L):=by unfold loadK;rw[if_pos h]
theorem loadK_bad {k n:Nat}{D:DiskS}{L:LogS}(h:(rdC D (nmC n)).2.1=0)(h2:scOk (rdC D (nmC n)).1 (n:Nat)=false) : loadK (k+1) n D L=(63,(rdC D (nmC n)).2.2,L):=by
 unfold loadK;rw[if_neg (by simp[h]),if_pos h2]
theorem loadK_last {n:Nat}{D:DiskS}{L:LogS}(h:(rdC D (nmC n)).2.1=0)(h2:scOk (rdC D (nmC n)).1 (n:Nat)=true) : loadK (0+1) n D L=mendT (rdC D (nmC n)).2.2 L n (rdC D (nmC n)).1 (scE (rdC D (nmC n)).1 (n:Nat)):=by
 unfold loadK;rw[if_neg (by simp[h]),if_neg (by simp[h2]),if_pos rfl]
theorem loadK_torn {k n:Nat}{D:DiskS}{L:LogS}(hk:k≠0)(h:(rdC D (nmC n)).2.1=0)(h2:scOk (rdC D (nmC n)).1 (n:Nat)=true)(h3:(rdC D (nmC n)).1.size<12∨scE (rdC D (nmC n)).1 (n:Nat)<(rdC D (nmC n)).1.size) : loadK (k+1) n D L=(63,(rdC D (nmC n)).2.2,L):=by
 unfold loadK;rw[if_neg (by simp[h]),if_neg (by simp[h2]),if_neg hk,if_pos h3]
theorem loadK_next {k n:Nat}{D:DiskS}{L:LogS}(hk:k≠0)(h:(rdC D (nmC n)).2.1=0)(h2:scOk (rdC D (nmC n)).1 (n:Nat)=true)(h3:¬ ((rdC D (nmC n)).1.size<12∨scE (rdC D (nmC n)).1 (n:Nat)<(rdC D (nmC n)).1.size)) : loadK (k+1) n D L=loadK k (n+1) (rdC D (nmC n)).2.2 { L with endp:=4096*n+scE (rdC D (nmC n)).1 (n:Nat) }:=by
 rw[loadK,if_neg (by simp[h]),if_neg (by simp[h2]),if_neg hk,if_neg h3]
section
variable {At : Lies} (api : DiskApi At) (nap : NamesApi) (cap : ChunksApi) {c : Ctx} {gl gd : Nat} {L L' : LogS} {D D' : DiskS} {w w' : World}
include api nap cap
set_option maxRecDepth 100000 in
set_option maxHeartbeats 4000000 in
theorem load_run (h:TSt At c gl gd L D w)(ok:WfP D)(hct:D.count≤1000000000)(hc:L.chunks≤200) : Calls Tryz.prog 27 #[ptr gl] w (TRet At c gl gd (err (loadT D L).1) (loadT D L).2.2 (loadT D L).2.1):=by
 have H0:=Lib.hid h;have c3:=h.cells.2.2.2.1;unfold loadT;have OK:=Lib.hid ok;have HCT:=Lib.hid hct;have HC:=Lib.hid hc;obtain⟨n,hn⟩:∃ n:Int,(L.chunks:Int)=n:=⟨_,rfl⟩
 rw[hn] at c3;have HN0:=Lib.hid hn;clear h ok hct hc hn;go_enter Tryz.func27,Tryz.ntmps27;go_wp2;go_loopw [13] (fun i wr=>∃ (k:Nat) (Dk:DiskS) (Lk:LogS),i = .int .i64 k∧TSt At c gl gd Lk Dk wr∧WfP Dk∧Dk.count≤1000000000+k∧Lk.chunks=L.chunks∧loadK (L.chunks-k) k Dk Lk=loadK L.chunks 0 D L∧k≤L.chunks) (fun i _=>L.chunks-(intOf i).toNat)
 case atStart=>exact⟨0,D,L,rfl,H0.out,OK.out,by have:=HCT.out;omega,rfl,rfl,Nat.zero_le _⟩
 case round =>
  obtain⟨k,Dk,Lk,rfl,hT,hok,hct,hlc,hk,hkn⟩:=hrel;have HT:=Lib.hid hT;have HK:=Lib.hid hk;have HOK:=Lib.hid hok;have HCK:=Lib.hid hct;have HLC:=Lib.hid hlc;have HN:=Lib.hid (show(Lk.chunks:Int)=n by rw[hlc];exact HN0.out);have HKN:=Lib.hid hkn;clear hT hk hok hct hlc;by_cases hlt:k<L.chunks
  ·have hck:=HC.out;have l1:decide ((k:Int)<n)=true:=decide_eq_true (by have:=HN0.out;omega);have hw9:IntKind.i64.wrap ((k:Int)+1)=(k:Int)+1:=IntWalk.i64_in _ (by omega);have hw8:IntKind.i64.wrap (n-1)=n-1:=IntWalk.i64_in _ (by have:=HN0.out;omega);have hRd:=Lib.hid (rd_run api nap HT.out HOK.out (by have:=HCK.out;omega) k (by omega));have hsz:=rdC_size (n:=nmC k) HOK.out;have HW:=Lib.hid (wp_rdC HOK.out (nmC k));have HCN:=Lib.hid (rdC_count Dk (nmC k));have efuel:L.chunks-k=(L.chunks-(k+1))+1:=by omega
   have HLT:=Lib.hid hlt;clear hkn;by_cases hE:(rdC Dk (nmC k)).2.1=0
   case neg =>
    have HE:=Lib.hid (loadK_err (k:=L.chunks-(k+1)) (L:=Lk) hE);rw[← efuel] at HE;have HF:=Lib.hid (HE.out.symm.trans HK.out);have t1:(((rdC Dk (nmC k)).2.1:Int) != 0)=true:=by simp;omega
    generalize rdC Dk (nmC k)=R at *;obtain⟨s,y,D2⟩:=R;dsimp only at *;clear hlt hck hsz efuel hE HE HW HCN;go_wp2_with fail;refine hRd.out.mono ?_;rintro e w2 ⟨rfl,h2⟩;have H2:=Lib.hid h2;clear h2;go_wp2;go_ret;rw[← HF.out];exact⟨rfl,H2.out⟩
   have hSc:=Lib.hid fun(W:World)=>cap.scan (rdC Dk (nmC k)).1 (k:Nat) W (by omega) (wf_nat (by omega))
   unfold Scanned at hSc;have hel:=scE_le (rdC Dk (nmC k)).1 (k:Nat);rw[hE] at hRd;cases hso:scOk (rdC Dk (nmC k)).1 (k:Nat)
   case false =>
    have HE:=Lib.hid (loadK_bad (k:=L.chunks-(k+1)) (L:=Lk) hE hso);rw[← efuel] at HE;have HF:=Lib.hid (HE.out.symm.trans HK.out);rw[hso] at hSc;generalize rdC Dk (nmC k)=R at *;obtain⟨s,y,D2⟩:=R;dsimp only at *;generalize scE s (k:Nat)=en at *;generalize scL s (k:Nat)=pl at *;clear hlt hck hsz efuel hE HE HW HCN hso hel;go_wp2_with fail;refine hRd.out.mono ?_;rintro e w2 ⟨rfl,h2⟩;have H2:=Lib.hid h2;clear h2;go_wp2_with fail;refine(hSc.out _).mono ?_;rintro e w3 ⟨u,rfl,hi,hb⟩;obtain⟨A,off,cp,rfl,-,-⟩:=hi.cell;have H3:=Lib.hid (H2.out.below api hb);have d3:=H3.out.cells.2.2.2.1;rw[HN.out] at d3;have f4:=H3.out.frozen 4;have d4:=H3.out.cells.2.2.2.2.1;clear hb hi;go_wp2;go_ret;rw[← HF.out];exact⟨rfl,H3.out⟩
   rw[hso] at hSc;by_cases hlast:k+1=L.chunks
   ·have e2:L.chunks-(k+1)=0:=by omega
    have HE:=Lib.hid (loadK_last (L:=Lk) hE hso);rw[efuel,e2] at HK;have HF:=Lib.hid (HE.out.symm.trans HK.out);have t2:((k:Int)==n-1)=true:=by simp;have:=HN0.out;omega
    have hM:=Lib.hid fun(W:World) (hT:TSt At c gl gd Lk (rdC Dk (nmC k)).2.2 W)=>mend_run api nap hT HW.out k (scE (rdC Dk (nmC k)).1 (k:Nat)) (s:=(rdC Dk (nmC k)).1) (by omega) hsz (by omega) (Or.inl hel)
    generalize mendT (rdC Dk (nmC k)).2.2 Lk k (rdC Dk (nmC k)).1 (scE (rdC Dk (nmC k)).1 (k:Nat))=mm at *;generalize rdC Dk (nmC k)=R at *;obtain⟨s,y,D2⟩:=R;dsimp only at *;generalize scE s (k:Nat)=en at *;generalize scL s (k:Nat)=pl at *;clear hlt hck hsz efuel hE HE HW HCN hso hel hlast e2;go_wp2_with fail;refine hRd.out.mono ?_;rintro e w2 ⟨rfl,h2⟩;have H2:=Lib.hid h2;clear h2;go_wp2_with fail;refine(hSc.out _).mono ?_;rintro e w3 ⟨u,rfl,hi,hb⟩;obtain⟨A,off,cp,rfl,-,-⟩:=hi.cell;have H3:=Lib.hid (H2.out.below api hb);have d3:=H3.out.cells.2.2.2.1;rw[HN.out] at d3;have f4:=H3.out.frozen 4;have d4:=H3.out.cells.2.2.2.2.1;clear hb hi;go_wp2_with fail;refine(hM.out _ H3.out).mono ?_;rintro e w4 ⟨rfl,h4⟩;have H4:=Lib.hid h4;clear h4;go_wp2;go_ret;rw[← HF.out];exact⟨rfl,H4.out⟩
   have e2:L.chunks-(k+1)≠0:=by omega
   have t2:((k:Int)==n-1)=false:=by simp;have:=HN0.out;omega
   by_cases h12:(rdC Dk (nmC k)).1.size<12
   ·have HE:=Lib.hid (loadK_torn (L:=Lk) e2 hE hso (Or.inl h12));rw[← efuel] at HE;have HF:=Lib.hid (HE.out.symm.trans HK.out);have t3:decide (((rdC Dk (nmC k)).1.size:Int)<12)=true:=decide_eq_true (by omega);generalize rdC Dk (nmC k)=R at *;obtain⟨s,y,D2⟩:=R;dsimp only at *;generalize scE s (k:Nat)=en at *;generalize scL s (k:Nat)=pl at *;clear hlt hck hsz efuel hE HE HW HCN hso hel hlast e2 h12;go_wp2_with fail;refine hRd.out.mono ?_;rintro e w2 ⟨rfl,h2⟩;have H2:=Lib.hid h2;clear h2;go_wp2_with fail;refine(hSc.out _).mono ?_;rintro e w3 ⟨u,rfl,hi,hb⟩;obtain⟨A,off,cp,rfl,-,-⟩:=hi.cell;have H3:=Lib.hid (H2.out.below api hb);have d3:=H3.out.cells.2.2.2.1;rw[HN.out] at d3;have f4:=H3.out.frozen 4;have d4:=H3.out.cells.2.2.2.2.1;clear hb hi;go_wp2;go_ret;rw[← HF.out];exact⟨rfl,H3.out⟩
   have t3:decide (((rdC Dk (nmC k)).1.size:Int)<12)=false:=decide_eq_false (by omega);by_cases h13:scE (rdC Dk (nmC k)).1 (k:Nat)<(rdC Dk (nmC k)).1.size
   ·have HE:=Lib.hid (loadK_torn (L:=Lk) e2 hE hso (Or.inr h13));rw[← efuel] at HE;have HF:=Lib.hid (HE.out.symm.trans HK.out);have t4:decide (scE (rdC Dk (nmC k)).1 (k:Nat)<(rdC Dk (nmC k)).1.size)=true:=decide_eq_true h13;have t5:decide ((scE (rdC Dk (nmC k)).1 (k:Nat):Int)<((rdC Dk (nmC k)).1.size:Int))=true:=decide_eq_true (by omega);generalize rdC Dk (nmC k)=R at *;obtain⟨s,y,D2⟩:=R;dsimp only at *;generalize scE s (k:Nat)=en at *;generalize scL s (k:Nat)=pl at *;clear hlt hck hsz efuel hE HE HW HCN hso hel hlast e2 h12 h13;go_wp2_with fail;refine hRd.out.mono ?_;rintro e w2 ⟨rfl,h2⟩;have H2:=Lib.hid h2;clear h2;go_wp2_with fail;refine(hSc.out _).mono ?_;rintro e w3 ⟨u,rfl,hi,hb⟩;obtain⟨A,off,cp,rfl,-,-⟩:=hi.cell;have H3:=Lib.hid (H2.out.below api hb);have d3:=H3.out.cells.2.2.2.1;rw[HN.out] at d3;have f4:=H3.out.frozen 4;have d4:=H3.out.cells.2.2.2.2.1;clear hb hi;go_wp2;go_ret;rw[← HF.out];exact⟨rfl,H3.out⟩
   have t4:decide (scE (rdC Dk (nmC k)).1 (k:Nat)<(rdC Dk (nmC k)).1.size)=false:=decide_eq_false h13;have t5:decide ((scE (rdC Dk (nmC k)).1 (k:Nat):Int)<((rdC Dk (nmC k)).1.size:Int))=false:=decide_eq_false (by omega);have HE:=Lib.hid (loadK_next (L:=Lk) e2 hE hso (by omega));rw[← efuel] at HE;have HF:=Lib.hid (HE.out.symm.trans HK.out);have hFr:=Lib.hid fun(W:World)=>front_run k W (by omega)
   have hw7:IntKind.i64.wrap ((k:Int)*4096+(scE (rdC Dk (nmC k)).1 (k:Nat):Nat))=(k:Int)*4096+(scE (rdC Dk (nmC k)).1 (k:Nat):Nat):=IntWalk.i64_in _ (by omega);have eE:=Lib.hid (show((4096*k+scE (rdC Dk (nmC k)).1 (k:Nat):Nat):Int)=(k:Int)*4096+(scE (rdC Dk (nmC k)).1 (k:Nat):Nat) by omega);generalize rdC Dk (nmC k)=R at *;obtain⟨s,y,D2⟩:=R;dsimp only at *;generalize scE s (k:Nat)=en at *;generalize scL s (k:Nat)=pl at *;clear hlt hck hsz efuel hE HE hso hel hlast e2 h12 h13;go_wp2_with fail;refine hRd.out.mono ?_;rintro e w2 ⟨rfl,h2⟩;have H2:=Lib.hid h2;clear h2;go_wp2_with fail;refine(hSc.out _).mono ?_;rintro e w3 ⟨u,rfl,hi,hb⟩;obtain⟨A,off,cp,rfl,-,-⟩:=hi.cell;have H3:=Lib.hid (H2.out.below api hb);have d3:=H3.out.cells.2.2.2.1;rw[HN.out] at d3;have f4:=H3.out.frozen 4;have d4:=H3.out.cells.2.2.2.2.1;clear hb hi;go_wp2_with fail;refine(hFr.out _).mono ?_;rintro e w4 ⟨rfl,rfl⟩;have h5:=H3.out.putEnd api (4096*k+en);rw[eE.out] at h5;have H5:=Lib.hid h5;clear h5;go_wp2;exact⟨⟨k+1,D2,_,by go_num,H5.out,HW.out,by have:=HCK.out;have:=HCN.out;omega,HLC.out,HF.out,by have:=HLT.out;omega⟩,by simp[intOf];have:=HLT.out;omega⟩
  ·obtain rfl:k=L.chunks:=by omega
   have l1:decide ((L.chunks:Int)<n)=false:=decide_eq_false (by have:=HN0.out;omega);have e0:L.chunks-L.chunks=0:=Nat.sub_self _;have HF:=Lib.hid (show(0,Dk,Lk)=loadK L.chunks 0 D L from by rw[← HK.out,e0];rfl);clear hlt hkn e0;generalize (L.chunks:Int)=q at *;go_wp2;go_ret;rw[← HF.out];exact⟨rfl,HT.out⟩
end
end Go.Proofs.YtokbfellcadkpaaGreat
namespace Go.Proofs.YtokbfellcadkpaaGreat
open Go.RowKit Go.Shelf
set_option linter.unusedVariables false
set_option maxRecDepth 100000
def DSt (At:Lies)(c:Ctx)(gd:Nat)(D:DiskS)(w:World) : Prop :=
 ∃ F,At w c.base gd F D∧(∀ x∈F,x∈c.F0∨c.w0.heap.size≤x)∧Touch c.F0 c.w0 w∧c.wG.heap.size≤w.heap.size∧∀ b∈c.G,c.w0.heap.size≤b∧b<c.wG.heap.size∧b ∉ F∧w.heap[b]? = c.wG.heap[b]?
theorem cntL_le : ∀ (l:List ByteArray) (c:Nat),c≤200→(cntL l c).2≤200
 | [],c,h=>h
 | s::r,c,h=>by
   unfold cntL;split
   ·split
    ·exact h
    ·exact cntL_le r (c+1) (by omega)
   ·exact cntL_le r c h
theorem wp_sweep {D:DiskS}(h:WfP D) : WfP (sweepT D).2:=by
 unfold sweepT;split<;>exact wp_delete h _
section
variable {At : Lies} {c : Ctx} {gl gd : Nat} {L L' : LogS} {D D' : DiskS} {w w' : World}
theorem DSt.touch (api:DiskApi At)(h:DSt At c gd D w)(ht:Touch [] w w') : DSt At c gd D w':=by
 obtain⟨F,h1,h4,h5,h6,h7⟩:=h;refine⟨F,api.touch h1 ht (fun _ _=>by simp),h4,h5.trans ht (fun x hx=>by cases hx),Nat.le_trans h6 ht.size,fun b hb=>?_⟩;obtain⟨k1,k2,k3,k5⟩:=h7 b hb;exact⟨k1,k2,k3,(ht.block b (by omega) (by simp)).trans k5⟩
theorem TSt.drop (h:TSt At c gl gd L D w)(hl:c.w0.heap.size≤gl) : DSt At c gd D w:=by
 obtain⟨F,h1,h2,h3,h4,h5,h6,h7⟩:=h;refine⟨F,h1,h4,h5.more (fun x hx=>?_),h6,fun b hb=>?_⟩
 ·rcases List.mem_cons.1 hx with rfl | hx
  ·exact Or.inr hl
  ·exact Or.inl hx
 ·obtain⟨k1,k2,k3,k4,k5⟩:=h7 b hb;exact⟨k1,k2,k3,k5⟩
theorem DSt.log (api:DiskApi At)(h:DSt At c gd D w)(L:LogS) : TSt At { c with m:=.pointer none } w.heap.size gd L D (w.alloc (.cells (logCells (.pointer none) gd L) 76)):=by
 obtain⟨F,h1,h4,h5,h6,h7⟩:=h;have ht:Touch [] w (w.alloc (.cells (logCells (.pointer none) gd L) 76)):=(Touch.refl [] w).alloc _;have hlow:=api.low h1;refine⟨F,api.touch h1 ht (fun _ _=>by simp),Blok.new w _ _,fun hm=>(by have:=(hlow _ hm).2;omega),h4,(h5.trans ht (fun x hx=>by cases hx)).more (fun x hx=>Or.inl (List.mem_cons_of_mem _ hx)),Nat.le_trans h6 ht.size,fun b hb=>?_⟩;obtain⟨k1,k2,k3,k5⟩:=h7 b hb;exact⟨k1,k2,k3,Nat.ne_of_lt (Nat.lt_of_lt_of_le k2 h6),(ht.block b (Nat.lt_of_lt_of_le k2 h6) (by simp)).trans k5⟩
theorem TSt.names (api:DiskApi At)(h:TSt At c gl gd L D w) : ∀ f∈D.l,f.name.size≤maxLen:=by
 obtain⟨F,h1,_⟩:=h;intro f hf;have:=(api.rise h1).2 f hf;unfold nameB at this;simp only[Bool.and_eq_true,decide_eq_true_eq] at this;unfold maxLen;omega
theorem TSt.putMade (api:DiskApi At)(h:TSt At c gl gd L D w)(v:Value) : TSt At { c with m:=v } gl gd L D (w.setCell ⟨gl,0,none⟩ v):=by
 obtain⟨F,h1,h2,h3,h4,h5,h6,h7⟩:=h;have ht:Touch [gl] w (w.setCell ⟨gl,0,none⟩ v):=(Touch.refl [gl] w).setCell (p:=⟨gl,0,none⟩) (Or.inl (List.mem_singleton.2 rfl)) _;refine⟨F,api.touch h1 ht (fun x hx hm=>h3 (by rw[← List.mem_singleton.1 hm];exact hx)),h2.put 0 v,h3,h4,h5.trans ht (fun x hx=>Or.inl (by rw[List.mem_singleton.1 hx];exact List.mem_cons_self)),Nat.le_trans h6 ht.size,fun b hb=>?_⟩;obtain⟨k1,k2,k3,k4,k5⟩:=h7 b hb;exact⟨k1,k2,k3,k4,(ht.block b (by omega) (by simpa using k4)).trans k5⟩
end
def OpenEnd (At:Lies)(c:Ctx)(gd:Nat)(w:World)(r:Nat × DiskS × LogS)(e:Ending)(w':World) : Prop :=
 (r.1=0∧∃ gl,e = .returned (.tuple #[ptr gl,.int .i64 0])∧w.heap.size≤gl∧TSt At { c with m:=ptr gl } gl gd { r.2.2 with sure:=r.2.2.endp } r.2.1 w') ∨
 (r.1≠0∧e = .returned (.tuple #[.pointer none,err r.1])∧DSt At c gd r.2.1 w')
section
variable {At : Lies} (api : DiskApi At) (nap : NamesApi) (cap : ChunksApi) {c : Ctx} {gl gd : Nat} {L L' : LogS} {D D' : DiskS} {w w' : World}
include api nap cap
theorem open_steps {B4:Nat}(h:TSt At c gl gd ⟨D.starts,0,0,0⟩ D w)(ok:WfP D)(hct:D.count≤1000000000)
  (m4:B4∈c.G) (t4:TypeId) (k4:Blok c.wG B4 t4 #[.func (.func 25) #[ptr gl] #[],.func (.func 26) #[ptr gl] #[],.func (.func 27) #[ptr gl] #[]]) :
  Calls Tryz.prog 24 #[.slice (some ⟨B4,0,none⟩) 3 3] w (TRet At c gl gd (err (openT D).1) (openT D).2.2 (openT D).2.1):=by
 have ok1:WfP (sweepT D).2:=wp_sweep ok
 have hct1:(sweepT D).2.count≤1000000000:=by
  have:(sweepT D).2.count=D.count:=by
   unfold sweepT
   have:(deleteS D newB).2.count=D.count:=by
    unfold deleteS doneS;split
    ·rfl
    ·split
     ·split<;>rfl
     ·rfl
   split<;>exact this
  omega
 have H:=steps_run (b:=B4) (n:=3) (by omega) (pick4 (sweepT D).1 (countT (sweepT D).2 ⟨D.starts,0,0,0⟩).1 (loadT (countT (sweepT D).2 ⟨D.starts,0,0,0⟩).2.1 (countT (sweepT D).2 ⟨D.starts,0,0,0⟩).2.2).1 0)
  (fun k W=>TSt At c gl gd (pick4 ⟨D.starts,0,0,0⟩ ⟨D.starts,0,0,0⟩ (countT (sweepT D).2 ⟨D.starts,0,0,0⟩).2.2 (loadT (countT (sweepT D).2 ⟨D.starts,0,0,0⟩).2.1 (countT (sweepT D).2 ⟨D.starts,0,0,0⟩).2.2).2.2 k) (pick4 D (sweepT D).2 (countT (sweepT D).2 ⟨D.starts,0,0,0⟩).2.1 (loadT (countT (sweepT D).2 ⟨D.starts,0,0,0⟩).2.1 (countT (sweepT D).2 ⟨D.starts,0,0,0⟩).2.2).2.1 k) W)
  (pick4 25 26 27 0) (pick4 #[ptr gl] #[ptr gl] #[ptr gl] #[]) (pick4 #[] #[] #[] #[])
  (fun k hk=>by
   match k,hk with
   | 0,_=>exact enters_of Tryz.func25 (by kernel_rfl) rfl
   | 1,_=>exact enters_of Tryz.func26 (by kernel_rfl) rfl
   | 2,_=>exact enters_of Tryz.func27 (by kernel_rfl) rfl)
  (fun k W hk hT=>by
   have q:=(hT.blok m4 k4).cell k
   match k,hk with
   | 0,_=>exact q
   | 1,_=>exact q
   | 2,_=>exact q)
  (fun k W hk hT=>by
   match k,hk with
   | 0,_=>exact sweep_run api hT ok
   | 1,_=>exact count_run api nap hT ok1 rfl (hT.names api)
   | 2,_=>exact load_run api nap cap hT ok1 hct1 (cntL_le _ 0 (by omega))) w h
 refine H.mono ?_;rintro e w' ⟨rfl,hT⟩;unfold openT onD;by_cases e0:(sweepT D).1=0
 ·by_cases e1:(countT (sweepT D).2 ⟨D.starts,0,0,0⟩).1=0
  ·by_cases e2:(loadT (countT (sweepT D).2 ⟨D.starts,0,0,0⟩).2.1 (countT (sweepT D).2 ⟨D.starts,0,0,0⟩).2.2).1=0
   ·simp[stR,pick4,thenT,e0,e1,e2] at hT ⊢;exact⟨by simp,hT⟩
   ·simp[stR,pick4,thenT,e0,e1,e2] at hT ⊢;exact⟨rfl,hT⟩
  ·simp[stR,pick4,thenT,e0,e1] at hT ⊢;exact⟨rfl,hT⟩
 ·simp[stR,pick4,thenT,e0] at hT ⊢;exact⟨rfl,hT⟩
set_option maxRecDepth 100000 in
theorem open_run (h:DSt At c gd D w)(ok:WfP D)(hct:D.count≤1000000000) : Calls Tryz.prog 8 #[ptr gd] w (OpenEnd At c gd w (openT D)):=by
 have hS:=Lib.hid (show Calls Tryz.prog 23 #[ptr gd] w fun e w'=>e = .returned (.int .i64 (D.starts:Nat))∧w=w' from api.startsq (Classical.choose_spec h).1);have h1:=h.log api ⟨D.starts,0,0,0⟩;have kg:=h1.keep;generalize hgl:w.heap.size=gl at *;have ecs:logCells (.pointer none) gd ⟨D.starts,0,0,0⟩=#[.pointer none,ptr gd,.int .i64 (D.starts:Nat),.int .i64 0,.int .i64 0,.int .i64 0]:=rfl;rw[ecs] at h1 kg;generalize hW1:w.alloc (.cells #[.pointer none,ptr gd,.int .i64 (D.starts:Nat),.int .i64 0,.int .i64 0,.int .i64 0] 76)=W1 at *;have h2:=h1.box api (.cells #[.func (.func 25) #[ptr gl] #[],.func (.func 26) #[ptr gl] #[],.func (.func 27) #[ptr gl] #[]] 78);have k4:=Blok.new W1 78 #[.func (.func 25) #[ptr gl] #[],.func (.func 26) #[ptr gl] #[],.func (.func 27) #[ptr gl] #[]];have kg:=kg.alloc (.cells #[.func (.func 25) #[ptr gl] #[],.func (.func 26) #[ptr gl] #[],.func (.func 27) #[ptr gl] #[]] 78);have hmf:∀ (fn:Fn) (first cap:Array Value) (w:World),(Instr.makeFunc fn first cap).run Tryz.prog w = .ok (.func fn first cap) w:=fun _ _ _ _=>rfl
 have R:=Lib.hid (open_steps api nap cap h2 ok hct (by simp) _ k4);have KG:=Lib.hid kg;have H1:=Lib.hid h1
 have hlow:c.w0.heap.size≤gl:=by
  obtain⟨F,a1,a2,a3,a4,a5⟩:=h;rw[← hgl];exact a3.size
 have HLOW:=Lib.hid hlow;have HGL:=Lib.hid hgl;unfold OpenEnd;by_cases he:(openT D).1=0
 ·rw[he] at R;have HE:=Lib.hid he;generalize openT D=r at *;clear h ok hct h1 h2 k4 kg he ecs hlow;go_enter Tryz.func8,Tryz.ntmps8;go_wp2_with fail;refine hS.out.mono ?_;rintro e w2 ⟨rfl,rfl⟩;go_wp2_with fail;refine R.out.mono ?_;rintro e w3 ⟨rfl,h3⟩;have h4:=h3.undo H1.out KG.out rfl rfl rfl rfl (fun b hb=>by simp[hb]);obtain⟨c0,_,_,_,c4,c5⟩:=h4.cells;have f0:=h4.frozen 0;have f5:=h4.frozen 5;have H5:=Lib.hid ((h4.putMade api (ptr gl)).putSure api r.2.2.endp);clear h3 h4;go_wp2;go_ret2;exact Or.inl ⟨HE.out,gl,rfl,Nat.le_of_eq HGL.out,H5.out⟩
 ·have t:(((openT D).1:Int) != 0)=true:=by simp;omega
  have HE:=Lib.hid he;generalize openT D=r at *;clear h ok hct h1 h2 k4 kg he ecs hlow;go_enter Tryz.func8,Tryz.ntmps8;go_wp2_with fail;refine hS.out.mono ?_;rintro e w2 ⟨rfl,rfl⟩;go_wp2_with fail;refine R.out.mono ?_;rintro e w3 ⟨rfl,h3⟩;have h4:=h3.undo H1.out KG.out rfl rfl rfl rfl (fun b hb=>by simp[hb]);have H5:=Lib.hid (h4.drop HLOW.out);clear h3 h4;go_wp2;go_ret2;exact Or.inr ⟨HE.out,rfl,H5.out⟩
end
end Go.Proofs.YtokbfellcadkpaaGreat
