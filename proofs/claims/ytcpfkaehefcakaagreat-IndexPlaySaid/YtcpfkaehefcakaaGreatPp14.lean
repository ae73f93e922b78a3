/- ZpTfMem, ZpTfDisk, ZpTfSteps, ZpTfBegin, ZpTfAppend, ZpTfRewrite -/
import Derived.Test.YtcpfkaehefcakaaGreatPp13
import Derived.Test.YtcpfkaehefcakaaGreatPp04
import Derived.Test.YtcpfkaehefcakaaGreatPp02
import Derived.Test.YtcpfkaehefcakaaGreatPp06
import Derived.Deep.RegionHeld3
import Derived.Shelf.Abstract
namespace Go.Proofs.YtcpfkaehefcakaaGreat
open Go.RowKit
set_option linter.unusedVariables false
set_option maxRecDepth 100000
structure Ctx where
 w0:World
 F0:List Nat
 base:Nat
 m:Value
 G:List Nat
 wG:World
def logCells (m:Value)(gd:Nat)(L:LogS) : Array Value:=#[m,ptr gd,.int .i64 (L.starts:Nat),.int .i64 (L.chunks:Nat),.int .i64 (L.endp:Nat),.int .i64 (L.sure:Nat)]
def TSt (At:Lies)(c:Ctx)(gl gd:Nat)(L:LogS)(D:DiskS)(w:World) : Prop :=
 ∃ F,At w c.base gd F D∧Blok w gl 78 (logCells c.m gd L)∧gl ∉ F∧(∀ x∈F,x∈c.F0∨c.w0.heap.size≤x)∧Touch (gl::c.F0) c.w0 w∧c.wG.heap.size≤w.heap.size ∧
  ∀ b∈c.G,c.w0.heap.size≤b∧b<c.wG.heap.size∧b ∉ F∧b≠gl∧w.heap[b]? = c.wG.heap[b]?
def TRet (At:Lies)(c:Ctx)(gl gd:Nat)(v:Value)(L:LogS)(D:DiskS)(e:Ending)(w:World) : Prop:=e = .returned v∧TSt At c gl gd L D w
section
variable {At : Lies} {c : Ctx} {gl gd : Nat} {L L' : LogS} {D D' : DiskS} {w w' : World}
theorem TSt.touch (api:DiskApi At)(h:TSt At c gl gd L D w)(ht:Touch [] w w') : TSt At c gl gd L D w':=by
 obtain⟨F,h1,h2,h3,h4,h5,h6,h7⟩:=h
 refine⟨F,api.touch h1 ht (fun _ _=>by simp),h2.touch ht (by simp),h3,h4,h5.trans ht (fun x hx=>by cases hx),Nat.le_trans h6 ht.size,fun b hb=>?_⟩
 obtain⟨k1,k2,k3,k4,k5⟩:=h7 b hb
 exact⟨k1,k2,k3,k4,(ht.block b (by omega) (by simp)).trans k5⟩
theorem TSt.below (api:DiskApi At)(h:TSt At c gl gd L D w)(hb:Below w.heap.size w w') : TSt At c gl gd L D w':=h.touch api (Touch.of_below hb)
theorem TSt.drew (api:DiskApi At)(h:TSt At c gl gd L D w) : TSt At c gl gd L D w.drew:=h.touch api (Touch.refl [] w).drew
theorem TSt.drewN (api:DiskApi At)(h:TSt At c gl gd L D w)(n:Nat) : TSt At c gl gd L D (w.drewN n):=h.touch api ((Touch.refl [] w).drewN n)
theorem TSt.cells (h:TSt At c gl gd L D w) : w.cell? ⟨gl,0,none⟩=some c.m∧w.cell? ⟨gl,1,none⟩=some (ptr gd)∧w.cell? ⟨gl,2,none⟩=some (.int .i64 (L.starts:Nat))∧w.cell? ⟨gl,3,none⟩=some (.int .i64 (L.chunks:Nat)) ∧
  w.cell? ⟨gl,4,none⟩=some (.int .i64 (L.endp:Nat))∧w.cell? ⟨gl,5,none⟩=some (.int .i64 (L.sure:Nat)):=by
 obtain⟨F,h1,h2,_⟩:=h
 exact⟨h2.cell 0,h2.cell 1,h2.cell 2,h2.cell 3,h2.cell 4,h2.cell 5⟩
theorem TSt.frozen (h:TSt At c gl gd L D w)(i:Nat) : w.frozen? ⟨gl,i,none⟩=false:=by
 obtain⟨F,h1,h2,_⟩:=h
 exact h2.frozen i
theorem TSt.disk (api:DiskApi At)(h:TSt At c gl gd L D w){f:FuncId}{args:Array Value}{v:Value}(hc:∀ F,At w c.base gd F D→Calls Tryz.prog f args w (EndAt At c.base gd F w v D')) : Calls Tryz.prog f args w (TRet At c gl gd v L D'):=by
 obtain⟨F,h1,h2,h3,h4,h5,h6,h7⟩:=h
 refine(hc F h1).mono ?_
 rintro e w' ⟨F',e1,e2,e3,e4⟩
 refine⟨e1,F',e2,h2.touch e4 h3,fun hm=>?_,fun x hx=>?_,h5.trans e4 (fun x hx=>?_),Nat.le_trans h6 e4.size,fun b hb=>?_⟩
 ·rcases e3 gl hm with k | k
  ·exact h3 k
  ·have:=h2.lt;omega
 ·rcases e3 x hx with k | k
  ·exact h4 x k
  ·exact Or.inr (by have:=h5.size;omega)
 ·rcases h4 x hx with k | k
  ·exact Or.inl (List.mem_cons_of_mem _ k)
  ·exact Or.inr k
 ·obtain⟨k1,k2,k3,k4,k5⟩:=h7 b hb
  refine⟨k1,k2,fun hm=>?_,k4,(e4.block b (by omega) k3).trans k5⟩
  rcases e3 b hm with k | k
  ·exact k3 k
  ·omega
theorem TSt.same (h:TSt At c gl gd L D w){P:Program}{f:FuncId}{args:Array Value}{v:Value}(hc:Calls P f args w fun e w'=>e = .returned v∧w=w') : Calls P f args w (TRet At c gl gd v L D):=hc.mono (by
 rintro e w' ⟨rfl,rfl⟩
 exact⟨rfl,h⟩)
theorem TSt.put (api:DiskApi At)(h:TSt At c gl gd L D w)(i:Nat)(v:Value)(hv:(logCells c.m gd L).setIfInBounds i v=logCells c.m gd L') : TSt At c gl gd L' D (w.setCell ⟨gl,i,none⟩ v):=by
 obtain⟨F,h1,h2,h3,h4,h5,h6,h7⟩:=h
 have ht:Touch [gl] w (w.setCell ⟨gl,i,none⟩ v):=(Touch.refl [gl] w).setCell (p:=⟨gl,i,none⟩) (Or.inl (List.mem_singleton.2 rfl)) _
 refine⟨F,api.touch h1 ht (fun x hx hm=>h3 (by rw[← List.mem_singleton.1 hm];exact hx)),by rw[← hv];exact h2.put i v,h3,h4,h5.trans ht (fun x hx=>Or.inl (by rw[List.mem_singleton.1 hx];exact List.mem_cons_self)),Nat.le_trans h6 ht.size,fun b hb=>?_⟩
 obtain⟨k1,k2,k3,k4,k5⟩:=h7 b hb
 exact⟨k1,k2,k3,k4,(ht.block b (by omega) (by simpa using k4)).trans k5⟩
theorem TSt.putChunks (api:DiskApi At)(h:TSt At c gl gd L D w)(k:Nat) : TSt At c gl gd { L with chunks:=k } D (w.setCell ⟨gl,3,none⟩ (.int .i64 (k:Nat))):=h.put api 3 _ rfl
theorem TSt.putEnd (api:DiskApi At)(h:TSt At c gl gd L D w)(k:Nat) : TSt At c gl gd { L with endp:=k } D (w.setCell ⟨gl,4,none⟩ (.int .i64 (k:Nat))):=h.put api 4 _ rfl
theorem TSt.putSure (api:DiskApi At)(h:TSt At c gl gd L D w)(k:Nat) : TSt At c gl gd { L with sure:=k } D (w.setCell ⟨gl,5,none⟩ (.int .i64 (k:Nat))):=h.put api 5 _ rfl
theorem TSt.guest (h:TSt At c gl gd L D w){b:Nat}(hb:b∈c.G) : w.heap[b]? = c.wG.heap[b]? := by
 obtain⟨F,h1,h2,h3,h4,h5,h6,h7⟩:=h
 exact(h7 b hb).2.2.2.2
theorem TSt.own (api:DiskApi At)(h:TSt At c gl gd L D w){G':List Nat}(ht:Touch c.G w w')(hG:∀ b∈G',b∈c.G∨w.heap.size≤b)(hlt:∀ b∈G',b<w'.heap.size) : TSt At { c with G:=G',wG:=w' } gl gd L D w':=by
 obtain⟨F,h1,h2,h3,h4,h5,h6,h7⟩:=h
 have hF:∀ x∈F,x ∉ c.G:=fun x hx hm=>(h7 x hm).2.2.1 hx
 have hl:gl ∉ c.G:=fun hm=>(h7 gl hm).2.2.2.1 rfl
 refine⟨F,api.touch h1 ht hF,h2.touch ht hl,h3,h4,h5.trans ht (fun x hx=>Or.inr (h7 x hx).1),Nat.le_refl _,fun b hb=>?_⟩
 rcases hG b hb with k | k
 ·obtain⟨k1,k2,k3,k4,_⟩:=h7 b k
  exact⟨k1,hlt b hb,k3,k4,rfl⟩
 ·exact⟨Nat.le_trans h5.size k,hlt b hb,fun hm=>(by have:=(api.low h1 b hm).2;omega),fun e=>(by have:=h2.lt;omega),rfl⟩
theorem TSt.back {c':Ctx}(h:TSt At c' gl gd L D w)(e1:c'.w0=c.w0)(e2:c'.F0=c.F0)(e3:c'.base=c.base)(e4:c'.m=c.m)(hs:c.wG.heap.size≤c'.wG.heap.size)(hG:∀ b∈c.G,b∈c'.G∧b<c.wG.heap.size∧c'.wG.heap[b]? = c.wG.heap[b]?) : TSt At c gl gd L D w:=by
 obtain⟨F,h1,h2,h3,h4,h5,h6,h7⟩:=h
 rw[e3] at h1
 rw[e4] at h2
 rw[e1,e2] at h4 h5
 refine⟨F,h1,h2,h3,h4,h5,Nat.le_trans hs h6,fun b hb=>?_⟩
 obtain⟨q1,q2,q3⟩:=hG b hb
 obtain⟨k1,k2,k3,k4,k5⟩:=h7 b q1
 exact⟨by rw[← e1];exact k1,q2,k3,k4,k5.trans q3⟩
end
theorem info_log : (Tryz.prog.info? 78).map (·.size)=some 6:=by kernel_rfl
theorem lsame_in (d:Nat)(p:Addr)(w:World) : (Op.equalIn (d+1) 29 (.pointer (some p)) (.pointer (some p))).run Tryz.prog w = .ok true w:=by
 cases hq:Tryz.prog.info? 78 with
 | none=>have:=info_log;rw[hq] at this;cases this
 | some i =>
   have hi:i.size=6:=by have:=info_log;rw[hq] at this;simpa using this
   simp[Op.equalIn,run_underlying Tryz.underlying29,sizeOf,typeInfo,hq,sameAddr]
theorem lsame_ptr (p:Addr)(w:World) : (binOp .neq 29 (.pointer (some p)) (.pointer (some p))).run Tryz.prog w = .ok (.bool false) w:=by
 have he:(Op.equal 29 (.pointer (some p)) (.pointer (some p))).run Tryz.prog w = .ok true w:=lsame_in 9999 p w
 simp only[binOp]
 simp[he]
set_option maxRecDepth 100000 in
theorem lnone_run {w:World}{gl:Nat}(h:w.cell? ⟨gl,0,none⟩=some (ptr gl)) : Calls Tryz.prog 48 #[ptr gl] w fun e w'=>e = .returned (.bool false)∧w=w':=by
 have hsp:=lsame_ptr ⟨gl,0,none⟩
 go_enter Tryz.func48,Tryz.ntmps48
 go_wp2
 go_ret
 exact⟨rfl,rfl⟩
theorem front_run (n:Nat)(w:World)(hn:n≤1000000) : Calls Tryz.prog 77 #[.int .i64 (n:Nat)] w fun e w'=>e = .returned (.int .i64 ((n:Nat)*4096:Int))∧w=w':=by
 have b1:(n:Int)≤1000000:=by omega
 have b0:(0:Int)≤n:=by omega
 go_enter Tryz.func77,Tryz.ntmps77
 go_wp2
 go_ret
 exact⟨rfl,rfl⟩
section
variable {At : Lies} (api : DiskApi At) {c : Ctx} {gl gd : Nat} {L L' : LogS} {D D' : DiskS} {w w' : World}
include api
set_option maxRecDepth 100000 in
theorem tready_run (hm:c.m=ptr gl)(h:TSt At c gl gd L D w) : Calls Tryz.prog 89 #[ptr gl] w (TRet At c gl gd (err (readyT D L)) L D):=by
 obtain⟨c0,c1,c2,c3,c4,c5⟩:=h.cells
 rw[hm] at c0
 have HH:=Lib.hid h
 have hn:=Lib.hid (lnone_run c0)
 obtain⟨F,hA,-⟩:=h
 have hu:=Lib.hid (api.upq hA)
 have hs:=Lib.hid (fun k=>api.startsq (api.touch hA ((Touch.refl [] w).drewN k) (fun _ _=>by simp)))
 unfold readyT
 cases hd:D.down
 ·simp only[Bool.false_eq_true,if_false]
  rw[hd] at hu
  by_cases he:D.starts=L.starts
  ·rw[if_pos he]
   have hs:=Lib.hid (fun k=>he ▸ hs.out k)
   have t1:((L.starts:Int) != (L.starts:Int))=false:=by simp
   generalize L.starts=q at *
   clear hA hd he c3 c4 c5 hm
   go_enter Tryz.func89,Tryz.ntmps89
   go_wp2_with fail
   refine hn.out.mono ?_
   rintro e w' ⟨rfl,rfl⟩
   go_wp2_with fail
   refine hu.out.mono ?_
   rintro e w' ⟨rfl,rfl⟩
   go_wp2_with fail
   go_quiet ((go_at_call 28;exact Calls.quiet_of_same ((hs.out _).mono fun _ _ h=>⟨h.1,h.2.symm⟩)))
   go_wp2
   go_ret
   exact⟨rfl,HH.out.drewN api _⟩
  ·rw[if_neg he]
   have t1:((D.starts:Int) != (L.starts:Int))=true:=by simp;omega
   have t2:¬ (D.starts:Int)=(L.starts:Int):=by omega
   generalize L.starts=q at *
   generalize D.starts=y at *
   clear hA hd he c3 c4 c5 hm
   go_enter Tryz.func89,Tryz.ntmps89
   go_wp2_with fail
   refine hn.out.mono ?_
   rintro e w' ⟨rfl,rfl⟩
   go_wp2_with fail
   refine hu.out.mono ?_
   rintro e w' ⟨rfl,rfl⟩
   go_wp2_with fail
   go_quiet ((go_at_call 28;exact Calls.quiet_of_same ((hs.out _).mono fun _ _ h=>⟨h.1,h.2.symm⟩)))
   go_wp2
   go_ret
   exact⟨rfl,HH.out.drewN api _⟩
 ·simp only[if_true]
  rw[hd] at hu
  clear hA hd c3 c4 c5 hm hs
  go_enter Tryz.func89,Tryz.ntmps89
  go_wp2_with fail
  refine hn.out.mono ?_
  rintro e w' ⟨rfl,rfl⟩
  go_wp2_with fail
  refine hu.out.mono ?_
  rintro e w' ⟨rfl,rfl⟩
  go_wp2
  go_ret
  exact⟨rfl,HH.out⟩
end
theorem tend_run {w:World}{gl:Nat}{v:Int}(h0:w.cell? ⟨gl,0,none⟩=some (ptr gl))(h:w.cell? ⟨gl,4,none⟩=some (.int .i64 v)) : Calls Tryz.prog 11 #[ptr gl] w fun e w'=>e = .returned (.int .i64 v)∧w=w':=by
 have hn:=Lib.hid (lnone_run h0)
 clear h0
 go_enter Tryz.func11,Tryz.ntmps11
 go_wp2_with fail
 refine hn.out.mono ?_
 rintro e w' ⟨rfl,rfl⟩
 go_wp2
 go_ret
 exact⟨rfl,rfl⟩
end Go.Proofs.YtcpfkaehefcakaaGreat
namespace Go.Proofs.YtcpfkaehefcakaaGreat
open Go.RowKit
set_option linter.unusedVariables false
set_option maxRecDepth 100000
theorem sizeS_le {D:DiskS}(h:WfP D)(n:ByteArray) : (sizeS D n).1≤1048576:=by
 unfold sizeS
 split
 ·exact Nat.zero_le _
 ·split
  ·exact Nat.zero_le _
  ·rename_i f hf
   exact(h.ok.sizes f (List.mem_of_getElem? hf)).2
theorem nmC_le {n:Nat}(h:n≤999999) : (nmC n).size≤maxLen:=by rw[nm_size h];decide
theorem wf_nat {n:Nat}(h:n≤9223372036854775807) : (Lit.int .i64 (n:Nat)).wf=true:=WalkArith.wf_i64 (by omega)
theorem chunk_nm (nap:NamesApi)(n:Nat)(w:World)(hn:n≤999999) : Calls Tryz.prog 130 #[.int .i64 (n:Nat)] w fun e w'=>e = .returned (.string (nmC n))∧Below w.heap.size w w':=nap.chunk n w (wf_nat (by omega))
theorem readS_size {D:DiskS}{n:ByteArray}{a k:Int}(h:WfP D) : (readS D n a k).1.size≤1048576:=by
 unfold readS
 split
 ·exact Nat.zero_le _
 ·dsimp only
  split
  ·exact Nat.zero_le _
  ·rename_i f hf
   split
   ·exact Nat.zero_le _
   ·have:=(h.ok.sizes f (List.mem_of_getElem? hf)).2
    show(f.data.extract _ _).size≤_
    rw[ByteArray.size_extract]
    omega
theorem rdC_size {D:DiskS}{n:ByteArray}(h:WfP D) : (rdC D n).1.size≤1048576:=by
 unfold rdC
 split
 ·exact readS_size h
 ·exact Nat.zero_le _
theorem wp_rdC {D:DiskS}(h:WfP D)(n:ByteArray) : WfP (rdC D n).2.2:=by
 unfold rdC
 split
 ·exact wp_read h _ _ _
 ·exact h
theorem readS_count (D:DiskS)(n:ByteArray)(a k:Int) : (readS D n a k).2.2.count≤D.count+1:=by
 unfold readS
 split
 ·exact Nat.le_succ _
 ·dsimp only
  split
  ·exact Nat.le_refl _
  ·split<;>exact Nat.le_refl _
theorem rdC_count (D:DiskS)(n:ByteArray) : (rdC D n).2.2.count≤D.count+1:=by
 unfold rdC
 split
 ·exact readS_count _ _ _ _
 ·exact Nat.le_succ _
section
variable {At : Lies} (api : DiskApi At) (nap : NamesApi) {c : Ctx} {gl gd : Nat} {L L' : LogS} {D D' : DiskS} {w w' : World}
include api nap
theorem rd_run (h:TSt At c gl gd L D w)(ok:WfP D)(hct:D.count≤1099511627776)(n:Nat)(hn:n≤999999) : Calls Tryz.prog 74 #[ptr gl,.int .i64 (n:Nat)] w (TRet At c gl gd (.tuple #[.string (rdC D (nmC n)).1,err (rdC D (nmC n)).2.1]) L (rdC D (nmC n)).2.2):=by
 have hz:=sizeS_le ok (nmC n)
 have hN:=Lib.hid fun W=>chunk_nm nap n W (by omega)
 have hS:=Lib.hid fun(W:World) (hT:TSt At c gl gd L D W)=>(show Calls Tryz.prog 33 #[ptr gd,.string (nmC n)] W (TRet At c gl gd (.tuple #[.int .i64 ((sizeS D (nmC n)).1:Nat),err (sizeS D (nmC n)).2]) L D) from hT.same (api.sizeq (nmC n) (Classical.choose_spec hT).1 ok.ok (nmC_le hn)))
 have hR:=Lib.hid fun(W:World) (hT:TSt At c gl gd L D W)=>hT.disk api (fun F hF=>api.read (nmC n) 0 ((sizeS D (nmC n)).1:Nat) hF ok.ok hct (by decide) (wf_nat (by omega)) (nmC_le hn))
 have HH:=Lib.hid h
 unfold rdC
 by_cases he:(sizeS D (nmC n)).2=0
 ·rw[if_pos he]
  rw[he] at hS
  generalize (sizeS D (nmC n)).1=z at *
  generalize readS D (nmC n) 0 (z:Nat)=r at *
  generalize nmC n=nm at *
  clear he hz h hct ok hn
  go_enter Tryz.func74,Tryz.ntmps74
  go_wp2_with fail
  refine(hN.out _).mono ?_
  rintro e w1 ⟨rfl,hb⟩
  have h1:=HH.out.below api hb
  obtain⟨c0,c1,c2,c3,c4,c5⟩:=h1.cells
  have H1:=Lib.hid h1
  clear hb h1
  go_wp2_with fail
  refine(hS.out _ H1.out).mono ?_
  rintro e w2 ⟨rfl,h2⟩
  obtain⟨d0,d1,d2,d3,d4,d5⟩:=h2.cells
  have H2:=Lib.hid h2
  clear h2
  go_wp2_with fail
  refine(hR.out _ H2.out).mono ?_
  rintro e w3 ⟨rfl,h3⟩
  have H3:=Lib.hid h3
  clear h3
  go_wp2
  go_ret2
  exact⟨rfl,H3.out⟩
 ·rw[if_neg he]
  have t:(((sizeS D (nmC n)).2:Int) != 0)=true:=by simp;omega
  generalize (sizeS D (nmC n)).2=y at *
  generalize (sizeS D (nmC n)).1=z at *
  generalize nmC n=nm at *
  clear hz h hR hct ok hn he
  go_enter Tryz.func74,Tryz.ntmps74
  go_wp2_with fail
  refine(hN.out _).mono ?_
  rintro e w1 ⟨rfl,hb⟩
  have h1:=HH.out.below api hb
  obtain⟨c0,c1,c2,c3,c4,c5⟩:=h1.cells
  have H1:=Lib.hid h1
  clear hb h1
  go_wp2_with fail
  refine(hS.out _ H1.out).mono ?_
  rintro e w2 ⟨rfl,h2⟩
  have H2:=Lib.hid h2
  clear h2
  go_wp2
  go_ret2
  exact⟨rfl,H2.out⟩
set_option maxRecDepth 100000 in
theorem sync_yes (h:TSt At c gl gd L D w)(ok:WfP D)(hc:L.chunks≤200)(h0:0<L.chunks) : Calls Tryz.prog 90 #[ptr gl] w (TRet At c gl gd (err (syncT D L).1) (syncT D L).2.2 (syncT D L).2.1):=by
 obtain⟨n,hn⟩:∃ n,L.chunks=n+1:=⟨L.chunks-1,by omega⟩
 have hN:=Lib.hid fun W=>chunk_nm nap n W (by omega)
 have hS:=Lib.hid fun(W:World) (hT:TSt At c gl gd L D W)=>hT.disk api (fun F hF=>api.sync (nmC n) hF ok.ok (nmC_le (by omega)))
 have HH:=Lib.hid h
 obtain⟨c0,c1,c2,c3,c4,c5⟩:=h.cells
 have e:L.chunks-1=n:=by omega
 have t0:decide ((0:Int)<((n+1:Nat):Int))=true:=decide_eq_true (by omega)
 have t1:((n+1:Nat):Int)-1=(n:Int):=by omega
 have hw2:IntKind.i64.wrap (n:Int)=(n:Int):=IntWalk.i64_in _ (by omega)
 have hw:IntKind.i64.wrap (((n+1:Nat):Int)-1)=(n:Int):=by rw[t1];exact IntWalk.i64_in _ (by omega)
 unfold syncT
 rw[if_neg (by omega),e]
 rw[hn] at c3
 have HN:=Lib.hid hn
 generalize hm:((n+1:Nat):Int)=m at *
 have HM:=Lib.hid hm
 by_cases he:(syncS D (nmC n)).1=0
 ·rw[if_pos he]
  rw[he] at hS
  generalize (syncS D (nmC n)).2=D1 at *
  generalize nmC n=nm at *
  clear e hn he h ok hc h0 c0 c2 c4 c5 hm
  go_enter Tryz.func90,Tryz.ntmps90
  go_wp2_with fail
  go_region_held3 (fun w'=>w'.cell? ⟨gl,1,none⟩=some (ptr gd)∧w'.cell? ⟨gl,3,none⟩=some (.int .i64 m)) (first | assumption | exact⟨by assumption,by assumption⟩ | exact⟨c1,c3⟩) (first
   | (go_at_call 130;refine(hN.out _).mono ?_;rintro e w1 ⟨rfl,hb⟩;have h1:=(show TSt At c gl gd L D _ from by first | exact HH.out.drew api | exact HH.out).below api hb;have d1:w1.cell? ⟨gl,1,none⟩=some (ptr gd):=h1.cells.2.1;have d3:w1.cell? ⟨gl,3,none⟩=some (.int .i64 m):=by rw[h1.cells.2.2.2.1,HN.out,HM.out])
   | (go_at_call 136;refine(hS.out _ h1).mono ?_;rintro e w2 ⟨rfl,h2⟩;have e1:w2.cell? ⟨gl,1,none⟩=some (ptr gd):=h2.cells.2.1;have e3:w2.cell? ⟨gl,3,none⟩=some (.int .i64 m):=by rw[h2.cells.2.2.2.1,HN.out,HM.out])
   | fail)
  all_goals
   obtain⟨_,_,_,_,g4,_⟩:=h2.cells
   have f5:=h2.frozen 5
   have H3:=Lib.hid (h2.putSure api L.endp)
   clear h1 h2 hb
   generalize (L.endp:Int)=y at *
   go_wp2
   go_ret
   exact⟨rfl,H3.out⟩
 ·rw[if_neg he]
  have t:(((syncS D (nmC n)).1:Int) != 0)=true:=by simp;omega
  generalize (syncS D (nmC n)).2=D1 at *
  generalize (syncS D (nmC n)).1=y at *
  generalize nmC n=nm at *
  clear e hn he h ok hc h0 c0 c2 c4 c5 hm
  go_enter Tryz.func90,Tryz.ntmps90
  go_wp2_with fail
  go_region_held3 (fun w'=>w'.cell? ⟨gl,1,none⟩=some (ptr gd)∧w'.cell? ⟨gl,3,none⟩=some (.int .i64 m)) (first | assumption | exact⟨by assumption,by assumption⟩ | exact⟨c1,c3⟩) (first
   | (go_at_call 130;refine(hN.out _).mono ?_;rintro e w1 ⟨rfl,hb⟩;have h1:=(show TSt At c gl gd L D _ from by first | exact HH.out.drew api | exact HH.out).below api hb;have d1:w1.cell? ⟨gl,1,none⟩=some (ptr gd):=h1.cells.2.1;have d3:w1.cell? ⟨gl,3,none⟩=some (.int .i64 m):=by rw[h1.cells.2.2.2.1,HN.out,HM.out])
   | (go_at_call 136;refine(hS.out _ h1).mono ?_;rintro e w2 ⟨rfl,h2⟩;have e1:w2.cell? ⟨gl,1,none⟩=some (ptr gd):=h2.cells.2.1;have e3:w2.cell? ⟨gl,3,none⟩=some (.int .i64 m):=by rw[h2.cells.2.2.2.1,HN.out,HM.out])
   | fail)
  all_goals
   have H3:=Lib.hid h2
   clear h1 h2 hb
   go_wp2
   go_ret
   exact⟨rfl,H3.out⟩
omit nap in
theorem sync_no (h:TSt At c gl gd L D w)(h0:L.chunks=0) : Calls Tryz.prog 90 #[ptr gl] w (TRet At c gl gd (err (syncT D L).1) (syncT D L).2.2 (syncT D L).2.1):=by
 unfold syncT
 rw[if_pos h0]
 obtain⟨c0,c1,c2,c3,c4,c5⟩:=h.cells
 rw[h0] at c3
 have f5:=h.frozen 5
 have H3:=Lib.hid (h.putSure api L.endp)
 generalize (L.endp:Int)=y at *
 clear h c0 c1 c2 h0
 go_enter Tryz.func90,Tryz.ntmps90
 go_wp2
 go_ret
 exact⟨rfl,H3.out⟩
theorem sync_t (h:TSt At c gl gd L D w)(ok:WfP D)(hc:L.chunks≤200) : Calls Tryz.prog 90 #[ptr gl] w (TRet At c gl gd (err (syncT D L).1) (syncT D L).2.2 (syncT D L).2.1):=by
 by_cases h0:L.chunks=0
 ·exact sync_no api h h0
 ·exact sync_yes api nap h ok hc (by omega)
variable (cap : ChunksApi)
include cap
end
end Go.Proofs.YtcpfkaehefcakaaGreat
namespace Go.Proofs.YtcpfkaehefcakaaGreat
set_option maxRecDepth 100000
set_option linter.unusedVariables false
section
open Go.RowKit Go.Shelf
theorem stR_step {r:Nat→Nat}{n k:Nat}(h:k<n) : stR r (n-k) k=if r k=0 then stR r (n-(k+1)) (k+1) else(r k,k+1):=by
 obtain⟨m,rfl⟩:∃ m,n=k+1+m:=⟨n-k-1,by omega⟩
 have e1:k+1+m-k=m+1:=by omega
 have e2:k+1+m-(k+1)=m:=by omega
 rw[e1,e2]
 rfl
theorem stR_end {r:Nat→Nat}{n:Nat} : stR r (n-n) n=(0,n):=by rw[Nat.sub_self];rfl
set_option maxRecDepth 100000 in
theorem steps_run {b n:Nat}(hn:n≤1000)(r:Nat→Nat)(St:Nat→World→Prop)(f:Nat→FuncId)(x y:Nat→Array Value)
  (hent:∀ k,k<n→Enters Tryz.prog (f k)) (hcell:∀ k W,k<n→St k W→W.cell? ⟨b,k,none⟩=some (.func (.func (f k)) (x k) (y k)))
  (hcall:∀ k W,k<n→St k W→Calls Tryz.prog (f k) (x k++#[]++y k) W fun e W'=>e = .returned (.int .i64 (r k:Nat))∧St (k+1) W') (W:World) (h0:St 0 W) :
  Calls Tryz.prog 29 #[.slice (some ⟨b,0,none⟩) n n] W fun e W'=>e = .returned (.int .i64 ((stR r n 0).1:Nat))∧St (stR r n 0).2 W':=by
 have HC:=Lib.hid hcell
 have HK:=Lib.hid hcall
 have HE:=Lib.hid hent
 have HN:=Lib.hid hn
 have H0:=Lib.hid h0
 clear hcell hcall h0 hent
 go_enter Tryz.func29,Tryz.ntmps29
 go_wp2
 go_loopw [8] (fun i wr=>∃ k:Nat,k≤n∧i = .int .i64 k∧stR r (n-k) k=stR r n 0∧St k wr) (fun i _=>n-(intOf i).toNat)
 case atStart=>exact⟨0,Nat.zero_le _,rfl,rfl,H0.out⟩
 case round =>
  obtain⟨k,hk,rfl,hr,hs⟩:=hrel
  by_cases hlt:k<n
  ·have c1:=HC.out k _ hlt hs
   have l1:(k:Int)<(n:Int):=by omega
   have HS:=Lib.hid hs
   have HR:=Lib.hid hr
   have HL:=Lib.hid hlt
   clear hs hr
   rw[stR_step hlt] at HR
   have he:=HE.out k hlt
   have hcl:=HK.out k _ hlt HS.out
   have ha:x k++#[]++y k=x k++y k:=by simp
   rw[ha] at hcl
   have HCL:=Lib.hid hcl
   unfold Enters at he
   clear hcl ha
   by_cases hr0:r k=0
   ·rw[hr0] at HCL
    rw[if_pos hr0] at HR
    clear hr0
    go_wp2_with fail
    refine HCL.out.mono ?_
    rintro e w2 ⟨rfl,hs2⟩
    have H2:=Lib.hid hs2
    clear hs2 he c1
    go_wp2
    go_roundw
    case rel=>exact⟨k+1,by have:=HL.out;omega,by go_num,HR.out,H2.out⟩
    case measure=>simp[intOf];omega
   ·have t:((r k:Int) != 0)=true:=by simp;omega
    rw[if_neg hr0] at HR
    clear hr0
    generalize r k=y at *
    go_wp2_with fail
    refine HCL.out.mono ?_
    rintro e w2 ⟨rfl,hs2⟩
    have H2:=Lib.hid hs2
    clear hs2 he c1
    go_wp2
    go_ret
    rw[← HR.out]
    exact⟨rfl,H2.out⟩
  ·obtain rfl:k=n:=by omega
   rw[stR_end] at hr
   have HS:=Lib.hid hs
   have HR:=Lib.hid hr
   clear hs hr hk
   go_wp2
   go_ret
   rw[← HR.out]
   exact⟨rfl,HS.out⟩
end
end Go.Proofs.YtcpfkaehefcakaaGreat
namespace Go.Proofs.YtcpfkaehefcakaaGreat
open Go.RowKit Go.Shelf
set_option linter.unusedVariables false
set_option maxRecDepth 100000
section
variable {At : Lies} {c : Ctx} {gl gd : Nat} {L L' : LogS} {D D' : DiskS} {w w' : World}
theorem TSt.new (api:DiskApi At)(h:TSt At c gl gd L D w)(ht:Touch [] w w')(hs:w.heap.size<w'.heap.size) : TSt At { c with G:=w.heap.size::c.G,wG:=w' } gl gd L D w':=by
 have hG:∀ b∈c.G,b<w.heap.size:=by
  obtain⟨F,h1,h2,h3,h4,h5,h6,h7⟩:=h
  intro b hb
  have:=(h7 b hb).2.1
  omega
 refine h.own api (ht.more (fun x hx=>by cases hx)) (fun b hb=>?_) (fun b hb=>?_)
 ·rcases List.mem_cons.1 hb with rfl | hb
  ·exact Or.inr (Nat.le_refl _)
  ·exact Or.inl hb
 ·rcases List.mem_cons.1 hb with rfl | hb
  ·exact hs
  ·have:=hG b hb;omega
theorem TSt.box (api:DiskApi At)(h:TSt At c gl gd L D w)(o:Obj) : TSt At { c with G:=w.heap.size::c.G,wG:=w.alloc o } gl gd L D (w.alloc o):=h.new api ((Touch.refl [] w).alloc o) (by simp)
theorem TSt.blok (h:TSt At c gl gd L D w){b:Nat}(hb:b∈c.G){t:TypeId}{cs:Array Value}(hB:Blok c.wG b t cs) : Blok w b t cs:=(h.guest hb).trans hB
theorem TSt.lt (h:TSt At c gl gd L D w){b:Nat}(hb:b∈c.G) : b<c.wG.heap.size∧b<w.heap.size:=by
 obtain⟨F,h1,h2,h3,h4,h5,h6,h7⟩:=h
 have:=(h7 b hb).2.1
 omega
def KeepG (c:Ctx)(w W:World) : Prop:=w.heap.size≤W.heap.size∧c.wG.heap.size≤w.heap.size∧∀ b∈c.G,b<w.heap.size∧W.heap[b]? = w.heap[b]?
theorem TSt.keep (h:TSt At c gl gd L D w) : KeepG c w w:=by
 refine⟨Nat.le_refl _, ?_,fun b hb=>⟨(h.lt hb).2,rfl⟩⟩
 obtain⟨F,h1,h2,h3,h4,h5,h6,h7⟩:=h
 exact h6
theorem KeepG.touch {W W':World}(h:KeepG c w W)(ht:Touch [] W W') : KeepG c w W':=⟨Nat.le_trans h.1 ht.size,h.2.1,fun b hb=>⟨(h.2.2 b hb).1,(ht.block b (by have:=(h.2.2 b hb).1;have:=h.1;omega) (by simp)).trans (h.2.2 b hb).2⟩⟩
theorem KeepG.alloc {W:World}(h:KeepG c w W)(o:Obj) : KeepG c w (W.alloc o):=h.touch ((Touch.refl [] W).alloc o)
theorem TSt.undo {c':Ctx}(h:TSt At c' gl gd L D w')(h0:TSt At c gl gd L' D' w)(hk:KeepG c w c'.wG)(e1:c'.w0=c.w0)(e2:c'.F0=c.F0)(e3:c'.base=c.base)(e4:c'.m=c.m)(hG:∀ b∈c.G,b∈c'.G) : TSt At c gl gd L D w' :=
 h.back e1 e2 e3 e4 (Nat.le_trans hk.2.1 hk.1) (fun b hb=>⟨hG b hb,(h0.lt hb).1,(hk.2.2 b hb).2.trans (h0.guest hb)⟩)
end
def pick4 {α:Type}(a b c d:α) : Nat→α
 | 0=>a
 | 1=>b
 | 2=>c
 | _=>d
end Go.Proofs.YtcpfkaehefcakaaGreat
namespace Go.Proofs.YtcpfkaehefcakaaGreat
open Go.RowKit Go.Shelf
set_option linter.unusedVariables false
set_option maxRecDepth 100000
section
variable {At : Lies} (api : DiskApi At) (nap : NamesApi) (cap : ChunksApi) {c : Ctx} {gl gd : Nat} {L L' : LogS} {D D' : DiskS} {w w' : World}
include api nap
set_option maxRecDepth 100000 in
theorem flush_run (hm:c.m=ptr gl)(h:TSt At c gl gd L D w)(ok:WfP D)(hc:L.chunks≤200) : Calls Tryz.prog 40 #[ptr gl] w (TRet At c gl gd (err (flushT D L).1) (flushT D L).2.2 (flushT D L).2.1):=by
 have hr:=Lib.hid (tready_run api hm h)
 have hS:=Lib.hid fun(W:World) (hT:TSt At c gl gd L D W)=>sync_t api nap hT ok hc
 unfold flushT
 by_cases he:readyT D L=0
 ·rw[if_neg (by simp[he])]
  rw[he] at hr
  generalize syncT D L=r at *
  clear h ok hc he hm
  go_enter Tryz.func40,Tryz.ntmps40
  go_wp2_with fail
  refine hr.out.mono ?_
  rintro e w1 ⟨rfl,h1⟩
  have H1:=Lib.hid h1
  clear h1
  go_wp2_with fail
  refine(hS.out _ H1.out).mono ?_
  rintro e w2 ⟨rfl,h2⟩
  have H2:=Lib.hid h2
  clear h2
  go_wp2
  go_ret
  exact⟨rfl,H2.out⟩
 ·rw[if_pos he]
  have t:((readyT D L:Int) != 0)=true:=by simp;omega
  generalize readyT D L=y at *
  clear h ok hc he hm hS
  go_enter Tryz.func40,Tryz.ntmps40
  go_wp2_with fail
  refine hr.out.mono ?_
  rintro e w1 ⟨rfl,h1⟩
  have H1:=Lib.hid h1
  clear h1
  go_wp2
  go_ret
  exact⟨rfl,H1.out⟩
variable (cap : ChunksApi)
include cap
end
end Go.Proofs.YtcpfkaehefcakaaGreat
namespace Go.Proofs.YtcpfkaehefcakaaGreat
open Go.RowKit Go.Shelf
set_option linter.unusedVariables false
set_option maxRecDepth 100000
theorem newB_le : newB.size≤maxLen:=by decide
def pick5 {α:Type}(a b c d e:α) : Nat→α
 | 0=>a
 | 1=>b
 | 2=>c
 | 3=>d
 | _=>e
section
variable {At : Lies} (api : DiskApi At) {c : Ctx} {gl gd : Nat} {L L' : LogS} {D D' : DiskS} {w w' : World} {B1 B2 B3 : Nat} {nm s : ByteArray}
include api
set_option maxRecDepth 100000 in
theorem rewrite1_run (h:TSt At c gl gd L D w)(ok:WfP D)(m1:B1∈c.G)(k1:Blok c.wG B1 29 #[ptr gl]) :
  Calls Tryz.prog 171 #[ptr B1] w (TRet At c gl gd (err (createS D newB).1) L (createS D newB).2):=by
 have hS:=Lib.hid fun(W:World) (hT:TSt At c gl gd L D W)=>hT.disk api (fun F hF=>api.create newB hF ok.ok newB_le)
 have HH:=Lib.hid h
 have b1:w.cell? ⟨B1,0,none⟩=some (ptr gl):=(h.blok m1 k1).cell 0
 have c1:=h.cells.2.1
 have M1:=Lib.hid m1
 have K1:=Lib.hid k1
 generalize createS D newB=D1 at *
 have enw:(⟨#[110,101,119]⟩:ByteArray)=newB:=rfl
 clear h ok m1 k1
 go_enter Tryz.func171,Tryz.ntmps171
 go_wp2_with fail
 refine(hS.out _ HH.out).mono ?_
 rintro e w2 ⟨rfl,h2⟩
 have H3:=Lib.hid h2
 clear h2
 go_wp2
 go_ret
 exact⟨rfl,H3.out⟩
set_option maxRecDepth 100000 in
theorem rewrite2_run (h:TSt At c gl gd L D w)(ok:WfP D)(m1:B1∈c.G)(k1:Blok c.wG B1 29 #[ptr gl])(m2:B3∈c.G)(k2:Blok c.wG B3 9 #[.string s])(hs:s.size≤1100000) :
  Calls Tryz.prog 173 #[ptr B1,ptr B3] w (TRet At c gl gd (err (appendS D newB s).1) L (appendS D newB s).2):=by
 have hS:=Lib.hid fun(W:World) (hT:TSt At c gl gd L D W)=>hT.disk api (fun F hF=>api.append newB s hF ok.ok (by omega) newB_le)
 have HH:=Lib.hid h
 have b1:w.cell? ⟨B1,0,none⟩=some (ptr gl):=(h.blok m1 k1).cell 0
 have c1:=h.cells.2.1
 have M1:=Lib.hid m1
 have K1:=Lib.hid k1
 have b3:w.cell? ⟨B3,0,none⟩=some (.string s):=(h.blok m2 k2).cell 0
 have M3:=Lib.hid m2
 have K3:=Lib.hid k2
 generalize appendS D newB s=D1 at *
 have enw:(⟨#[110,101,119]⟩:ByteArray)=newB:=rfl
 clear h ok m1 k1 m2 k2 hs
 go_enter Tryz.func173,Tryz.ntmps173
 go_wp2_with fail
 go_region_held3 (fun w'=>w'.cell? ⟨B1,0,none⟩=some (ptr gl)∧w'.cell? ⟨gl,1,none⟩=some (ptr gd)∧w'.cell? ⟨B3,0,none⟩=some (.string s)) (first | assumption | exact⟨by assumption,by assumption,by assumption⟩ | exact⟨b1,c1,b3⟩) (first
  | (go_at_call 174;refine(hS.out _ (by first | exact HH.out.drew api | exact HH.out)).mono ?_;rintro e w2 ⟨rfl,h2⟩;have e1:w2.cell? ⟨gl,1,none⟩=some (ptr gd):=h2.cells.2.1;have e2:w2.cell? ⟨B1,0,none⟩=some (ptr gl):=(h2.blok M1.out K1.out).cell 0;have e3:w2.cell? ⟨B3,0,none⟩=some (.string s):=(h2.blok M3.out K3.out).cell 0)
  | fail)
 all_goals
  have H3:=Lib.hid h2
  clear h2
  go_wp2
  go_ret
  exact⟨rfl,H3.out⟩
set_option maxRecDepth 100000 in
theorem rewrite3_run (h:TSt At c gl gd L D w)(ok:WfP D)(m1:B1∈c.G)(k1:Blok c.wG B1 29 #[ptr gl]) :
  Calls Tryz.prog 175 #[ptr B1] w (TRet At c gl gd (err (syncS D newB).1) L (syncS D newB).2):=by
 have hS:=Lib.hid fun(W:World) (hT:TSt At c gl gd L D W)=>hT.disk api (fun F hF=>api.sync newB hF ok.ok newB_le)
 have HH:=Lib.hid h
 have b1:w.cell? ⟨B1,0,none⟩=some (ptr gl):=(h.blok m1 k1).cell 0
 have c1:=h.cells.2.1
 have M1:=Lib.hid m1
 have K1:=Lib.hid k1
 generalize syncS D newB=D1 at *
 have enw:(⟨#[110,101,119]⟩:ByteArray)=newB:=rfl
 clear h ok m1 k1
 go_enter Tryz.func175,Tryz.ntmps175
 go_wp2_with fail
 refine(hS.out _ HH.out).mono ?_
 rintro e w2 ⟨rfl,h2⟩
 have H3:=Lib.hid h2
 clear h2
 go_wp2
 go_ret
 exact⟨rfl,H3.out⟩
set_option maxRecDepth 100000 in
theorem rewrite4_run (h:TSt At c gl gd L D w)(ok:WfP D)(m1:B1∈c.G)(k1:Blok c.wG B1 29 #[ptr gl])(m2:B2∈c.G)(k2:Blok c.wG B2 9 #[.string nm])(hn:nm.size≤maxLen) :
  Calls Tryz.prog 176 #[ptr B1,ptr B2] w (TRet At c gl gd (err (renameS D newB nm).1) L (renameS D newB nm).2):=by
 have hS:=Lib.hid fun(W:World) (hT:TSt At c gl gd L D W)=>hT.disk api (fun F hF=>api.rename newB nm hF ok.ok hn newB_le)
 have HH:=Lib.hid h
 have b1:w.cell? ⟨B1,0,none⟩=some (ptr gl):=(h.blok m1 k1).cell 0
 have c1:=h.cells.2.1
 have M1:=Lib.hid m1
 have K1:=Lib.hid k1
 have b3:w.cell? ⟨B2,0,none⟩=some (.string nm):=(h.blok m2 k2).cell 0
 have M3:=Lib.hid m2
 have K3:=Lib.hid k2
 generalize renameS D newB nm=D1 at *
 have enw:(⟨#[110,101,119]⟩:ByteArray)=newB:=rfl
 clear h ok m1 k1 m2 k2 hn
 go_enter Tryz.func176,Tryz.ntmps176
 go_wp2_with fail
 go_region_held3 (fun w'=>w'.cell? ⟨B1,0,none⟩=some (ptr gl)∧w'.cell? ⟨gl,1,none⟩=some (ptr gd)∧w'.cell? ⟨B2,0,none⟩=some (.string nm)) (first | assumption | exact⟨by assumption,by assumption,by assumption⟩ | exact⟨b1,c1,b3⟩) (first
  | (go_at_call 177;refine(hS.out _ (by first | exact HH.out.drew api | exact HH.out)).mono ?_;rintro e w2 ⟨rfl,h2⟩;have e1:w2.cell? ⟨gl,1,none⟩=some (ptr gd):=h2.cells.2.1;have e2:w2.cell? ⟨B1,0,none⟩=some (ptr gl):=(h2.blok M1.out K1.out).cell 0;have e3:w2.cell? ⟨B2,0,none⟩=some (.string nm):=(h2.blok M3.out K3.out).cell 0)
  | fail)
 all_goals
  have H3:=Lib.hid h2
  clear h2
  go_wp2
  go_ret
  exact⟨rfl,H3.out⟩
theorem rewrite_steps {B4:Nat}(h:TSt At c gl gd L D w)(ok:WfP D)(m1:B1∈c.G)(k1:Blok c.wG B1 29 #[ptr gl])(m2:B2∈c.G)(k2:Blok c.wG B2 9 #[.string nm])(m3:B3∈c.G)(k3:Blok c.wG B3 9 #[.string s])
  (m4:B4∈c.G) (t4:TypeId) (k4:Blok c.wG B4 t4 #[.func (.func 171) #[] #[ptr B1],.func (.func 173) #[] #[ptr B1,ptr B3],.func (.func 175) #[] #[ptr B1],.func (.func 176) #[] #[ptr B1,ptr B2]]) (hn:nm.size≤maxLen) (hs:s.size≤1100000) :
  Calls Tryz.prog 29 #[.slice (some ⟨B4,0,none⟩) 4 4] w (TRet At c gl gd (err (rewriteT D nm s).1) L (rewriteT D nm s).2):=by
 have ok1:WfP (createS D newB).2:=wp_create ok newB
 have ok2:WfP (appendS (createS D newB).2 newB s).2:=wp_append ok1 newB s
 have ok3:WfP (syncS (appendS (createS D newB).2 newB s).2 newB).2:=wp_sync ok2 newB
 have H:=steps_run (b:=B4) (n:=4) (by omega) (pick5 (createS D newB).1 (appendS (createS D newB).2 newB s).1 (syncS (appendS (createS D newB).2 newB s).2 newB).1 (renameS (syncS (appendS (createS D newB).2 newB s).2 newB).2 newB nm).1 0)
  (fun k W=>TSt At c gl gd L (pick5 D (createS D newB).2 (appendS (createS D newB).2 newB s).2 (syncS (appendS (createS D newB).2 newB s).2 newB).2 (renameS (syncS (appendS (createS D newB).2 newB s).2 newB).2 newB nm).2 k) W)
  (pick5 171 173 175 176 0) (pick5 #[] #[] #[] #[] #[]) (pick5 #[ptr B1] #[ptr B1,ptr B3] #[ptr B1] #[ptr B1,ptr B2] #[])
  (fun k hk=>by
   match k,hk with
   | 0,_=>exact enters_of Tryz.func171 (by kernel_rfl) rfl
   | 1,_=>exact enters_of Tryz.func173 (by kernel_rfl) rfl
   | 2,_=>exact enters_of Tryz.func175 (by kernel_rfl) rfl
   | 3,_=>exact enters_of Tryz.func176 (by kernel_rfl) rfl)
  (fun k W hk hT=>by
   have q:=(hT.blok m4 k4).cell k
   match k,hk with
   | 0,_=>exact q
   | 1,_=>exact q
   | 2,_=>exact q
   | 3,_=>exact q)
  (fun k W hk hT=>by
   match k,hk with
   | 0,_=>exact rewrite1_run api hT ok m1 k1
   | 1,_=>exact rewrite2_run api hT ok1 m1 k1 m3 k3 hs
   | 2,_=>exact rewrite3_run api hT ok2 m1 k1
   | 3,_=>exact rewrite4_run api hT ok3 m1 k1 m2 k2 hn) w h
 refine H.mono ?_
 rintro e w' ⟨rfl,hT⟩
 unfold rewriteT
 by_cases e0:(createS D newB).1=0
 ·by_cases e1:(appendS (createS D newB).2 newB s).1=0
  ·by_cases e2:(syncS (appendS (createS D newB).2 newB s).2 newB).1=0
   ·by_cases e3:(renameS (syncS (appendS (createS D newB).2 newB s).2 newB).2 newB nm).1=0
    ·simp[stR,pick5,thenD,e0,e1,e2,e3] at hT ⊢
     exact⟨by simp,hT⟩
    ·simp[stR,pick5,thenD,e0,e1,e2,e3] at hT ⊢
     exact⟨rfl,hT⟩
   ·simp[stR,pick5,thenD,e0,e1,e2] at hT ⊢
    exact⟨rfl,hT⟩
  ·simp[stR,pick5,thenD,e0,e1] at hT ⊢
   exact⟨rfl,hT⟩
 ·simp[stR,pick5,thenD,e0] at hT ⊢
  exact⟨rfl,hT⟩
set_option maxRecDepth 100000 in
theorem rewrite_run (h:TSt At c gl gd L D w)(ok:WfP D)(hn:nm.size≤maxLen)(hs:s.size≤1100000) :
  Calls Tryz.prog 135 #[ptr gl,.string nm,.string s] w (TRet At c gl gd (err (rewriteT D nm s).1) L (rewriteT D nm s).2):=by
 have OK:=Lib.hid ok
 have HN:=Lib.hid hn
 have HS:=Lib.hid hs
 have H0:=Lib.hid h
 have h1:=h.box api (.cells #[ptr gl] 29)
 have k1:=Blok.new w 29 #[ptr gl]
 have kg:=h.keep.alloc (.cells #[ptr gl] 29)
 generalize hB1:w.heap.size=B1 at *
 generalize hW1:w.alloc (.cells #[ptr gl] 29)=W1 at *
 have h2:=h1.box api (.cells #[.string nm] 9)
 have k2:=Blok.new W1 9 #[.string nm]
 have k1:=k1.alloc (.cells #[.string nm] 9)
 have kg:=kg.alloc (.cells #[.string nm] 9)
 generalize hB2:W1.heap.size=B2 at *
 generalize hW2:W1.alloc (.cells #[.string nm] 9)=W2 at *
 have h3:=h2.box api (.cells #[.string s] 9)
 have k3:=Blok.new W2 9 #[.string s]
 have k1:=k1.alloc (.cells #[.string s] 9)
 have k2:=k2.alloc (.cells #[.string s] 9)
 have kg:=kg.alloc (.cells #[.string s] 9)
 generalize hB3:W2.heap.size=B3 at *
 generalize hW3:W2.alloc (.cells #[.string s] 9)=W3 at *
 have h4:=h3.box api (.cells #[.func (.func 171) #[] #[ptr B1],.func (.func 173) #[] #[ptr B1,ptr B3],.func (.func 175) #[] #[ptr B1],.func (.func 176) #[] #[ptr B1,ptr B2]] 80)
 have k4:=Blok.new W3 80 #[.func (.func 171) #[] #[ptr B1],.func (.func 173) #[] #[ptr B1,ptr B3],.func (.func 175) #[] #[ptr B1],.func (.func 176) #[] #[ptr B1,ptr B2]]
 have kg:=kg.alloc (.cells #[.func (.func 171) #[] #[ptr B1],.func (.func 173) #[] #[ptr B1,ptr B3],.func (.func 175) #[] #[ptr B1],.func (.func 176) #[] #[ptr B1,ptr B2]] 80)
 have hmf:∀ (fn:Fn) (first cap:Array Value) (w:World),(Instr.makeFunc fn first cap).run Tryz.prog w = .ok (.func fn first cap) w:=fun _ _ _ _=>rfl
 have R:=Lib.hid (rewrite_steps api h4 OK.out (B1:=B1) (B2:=B2) (B3:=B3) (by simp) (k1.alloc _) (by simp) (k2.alloc _) (by simp) (k3.alloc _) (by simp) _ k4 HN.out HS.out)
 have KG:=Lib.hid kg
 clear h ok hn hs h1 h2 h3 h4 k1 k2 k3 k4 kg
 go_enter Tryz.func135,Tryz.ntmps135
 go_wp2_with fail
 refine R.out.mono ?_
 rintro e w6 ⟨rfl,h7⟩
 have h8:=Lib.hid (h7.undo H0.out KG.out rfl rfl rfl rfl (fun b hb=>by simp[hb]))
 clear h7
 go_wp2
 go_ret
 exact⟨rfl,h8.out⟩
end
end Go.Proofs.YtcpfkaehefcakaaGreat
