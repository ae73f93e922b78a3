/- ZfImMath, ZfImFiles, ZfImOrphPlain, ZfTfMem, ZfTfDisk, ZfTfSteps, ZfTfBegin, ZfTfBegun, ZfTfAppend, ZfTfRewrite, ZfTfFiles, ZfTfRead -/
import Derived.Test.YtokbfellcadkpaaGreatPf05
import Derived.Test.YtokbfellcadkpaaGreatPf04
import Derived.Test.YtokbfellcadkpaaGreatPf08
import Derived.Test.YtokbfellcadkpaaGreatPf09
import Derived.Test.YtokbfellcadkpaaGreatPf01
import Derived.Deep.RegionHeld3
import Derived.Shelf.Abstract
namespace Go.Proofs.YtokbfellcadkpaaGreat
set_option maxRecDepth 100000
set_option linter.unusedVariables false
section
def mapN : ByteArray:=⟨#[109,97,112]⟩
def newN : ByteArray:=⟨#[110,101,119]⟩
theorem map_new : mapN≠newN:=by decide +kernel
theorem map_name : nameB mapN=true:=by decide +kernel
theorem new_name : nameB newN=true:=by decide +kernel
noncomputable def loadE (D:DiskS) : Int:=if (rdW D mapN).2.1≠0 then((rdW D mapN).2.1:Nat) else mgE (rdW D mapN).1
noncomputable def loadM (D:DiskS) : ManS:=if (rdW D mapN).2.1≠0 then zeroM else mgM (rdW D mapN).1
def loadD (D:DiskS) : DiskS:=(rdW D mapN).2.2
def swapP (D:DiskS)(m:ManS) : Nat × DiskS :=
 if ¬ MayM m then(2,D)
 else if D.down=true then(61,D)
 else if (deleteS D newN).1≠0∧(deleteS D newN).1≠4 then deleteS D newN
 else if ((deleteS D newN).2.cap:Int)-(usedS (deleteS D newN).2.l:Nat)-((mfB m).size:Nat)<6000 then(60,(deleteS D newN).2)
 else if (layP (deleteS D newN).2 newN (mfB m)).1≠0 then layP (deleteS D newN).2 newN (mfB m)
 else renameS (layP (deleteS D newN).2 newN (mfB m)).2 newN mapN
theorem wp_swap {D:DiskS}(ok:WfP D)(m:ManS) : WfP (swapP D m).2:=by
 unfold swapP;have o1:=wp_delete ok newN;have o2:=wp_lay o1 newN (mfB m);split
 ·exact ok
 ·split
  ·exact ok
  ·split
   ·exact o1
   ·split
    ·exact o1
    ·split
     ·exact o2
     ·exact wp_rename o2 _ _
theorem swap_bad {D:DiskS}{m:ManS}(hm:¬ MayM m) : swapP D m=(2,D):=by unfold swapP;rw[if_pos hm]
def orphB (fl:List Int)(n:ByteArray) : Bool:=decide (n=newN)||(npOk n&&!decide (npK n=99)&&!decide ((npN n:Int)∈fl))
def orphL (l:List ByteArray)(m:ManS) : List ByteArray:=l.filter (orphB m.lv.flatten)
def delAll : DiskS→List ByteArray→Nat × DiskS
 | D,[]=>(0,D)
 | D,n::ns=>if (deleteS D n).1≠0 then deleteS D n else delAll (deleteS D n).2 ns
def cleanP (D:DiskS)(m:ManS) : Nat × DiskS:=if D.down=true then(61,D) else delAll D (orphL (D.l.map FileS.name) m)
abbrev namesS (D:DiskS) : List ByteArray:=D.l.map FileS.name
theorem drop_names (n:ByteArray) : ∀ l:List FileS,(l.map FileS.name).Nodup→(dropS l (findS l n)).map FileS.name=(l.map FileS.name).filter (fun x=>!decide (x=n))
 | [],_=>rfl
 | x::l,hd=>by
   obtain⟨h1,h2⟩:=List.nodup_cons.1 (show(x.name::l.map FileS.name).Nodup from hd);have ih:=drop_names n l h2;unfold dropS findS at ih ⊢;rw[List.findIdx_cons,List.map_cons];by_cases e:x.name=n
   ·rw[decide_eq_true e,List.filter_cons_of_neg (by simp[e])];show l.map FileS.name=_;refine(List.filter_eq_self.2 fun y hy=>?_).symm;have:y≠n:=fun h=>h1 (e.trans h.symm ▸ hy)
    simpa using this
   ·rw[decide_eq_false e,List.filter_cons_of_pos (by simp[e])];simp only[cond_false,List.take_succ_cons,List.drop_succ_cons,List.cons_append,List.map_cons];rw[ih]
theorem name_file {l:List FileS}{n:ByteArray}(h:n∈l.map FileS.name) : ∃ f,fileOf l n=some f:=by
 obtain⟨f,hf,rfl⟩:=List.mem_map.1 h;cases e:fileOf l f.name with
 | some g=>exact⟨g,rfl⟩
 | none =>
   unfold fileOf at e;have:=List.find?_eq_none.1 e f hf;simp at this
end
section
open Go.RowKit
theorem orph_take {l:List ByteArray}{m:ManS}{j:Nat}{x:ByteArray}(h:l[j]? = some x) : orphL (l.take (j+1)) m=orphL (l.take j) m++(if orphB m.lv.flatten x=true then [x] else []):=by
 unfold orphL;rw[List.take_add_one,h,List.filter_append];congr 1;show [x].filter _=_;by_cases hb:orphB m.lv.flatten x=true
 ·rw[if_pos hb,List.filter_cons_of_pos hb,List.filter_nil]
 ·rw[if_neg hb,List.filter_cons_of_neg hb,List.filter_nil]
theorem orphL_len (l:List ByteArray)(m:ManS) : (orphL l m).length≤l.length:=List.length_filter_le _ _
theorem nameB_le {n:ByteArray}(h:nameB n=true) : n.size≤maxLen:=by
 unfold nameB at h;simp only[Bool.and_eq_true,decide_eq_true_eq] at h;exact Nat.le_trans h.2 (by decide)
theorem DS.names {At:Lies}{w0 w:World}{gd:Nat}{D:DiskS}{E:List Nat}(api:DiskApi At)(h:DS At w0 gd D E w) : ∀ x∈D.l.map FileS.name,x.size≤maxLen:=by
 obtain⟨F,h1,h2,h3⟩:=h;intro x hx;obtain⟨f,hf,rfl⟩:=List.mem_map.1 hx;exact nameB_le ((api.rise h1).2 f hf)
end
end Go.Proofs.YtokbfellcadkpaaGreat
namespace Go.Proofs.YtokbfellcadkpaaGreat
open Go.RowKit
set_option linter.unusedVariables false
set_option maxRecDepth 100000
structure Ctx where
 w0:World
 F0:List Nat
 base:Nat
 m:Value
 G:List Nat
 wG:World
def logCells (m:Value)(gd:Nat)(L:LogS) : Array Value:=#[m,ptr gd,.int .i64 (L.starts:Nat),.int .i64 (L.chunks:Nat),.int .i64 (L.endp:Nat),.int .i64 (L.sure:Nat)]
def TSt (At:Lies)(c:Ctx)(gl gd:Nat)(L:LogS)(D:DiskS)(w:World) : Prop :=
 ∃ F,At w c.base gd F D∧Blok w gl 76 (logCells c.m gd L)∧gl ∉ F∧(∀ x∈F,x∈c.F0∨c.w0.heap.size≤x)∧Touch (gl::c.F0) c.w0 w∧c.wG.heap.size≤w.heap.size ∧
  ∀ b∈c.G,c.w0.heap.size≤b∧b<c.wG.heap.size∧b ∉ F∧b≠gl∧w.heap[b]? = c.wG.heap[b]?
def TRet (At:Lies)(c:Ctx)(gl gd:Nat)(v:Value)(L:LogS)(D:DiskS)(e:Ending)(w:World) : Prop:=e = .returned v∧TSt At c gl gd L D w
section
variable {At : Lies} {c : Ctx} {gl gd : Nat} {L L' : LogS} {D D' : DiskS} {w w' : World}
theorem TSt.touch (api:DiskApi At)(h:TSt At c gl gd L D w)(ht:Touch [] w w') : TSt At c gl gd L D w':=by
 obtain⟨F,h1,h2,h3,h4,h5,h6,h7⟩:=h;refine⟨F,api.touch h1 ht (fun _ _=>by simp),h2.touch ht (by simp),h3,h4,h5.trans ht (fun x hx=>by cases hx),Nat.le_trans h6 ht.size,fun b hb=>?_⟩;obtain⟨k1,k2,k3,k4,k5⟩:=h7 b hb;exact⟨k1,k2,k3,k4,(ht.block b (by omega) (by simp)).trans k5⟩
theorem TSt.below (api:DiskApi At)(h:TSt At c gl gd L D w)(hb:Below w.heap.size w w') : TSt At c gl gd L D w':=h.touch api (Touch.of_below hb)
theorem TSt.drew (api:DiskApi At)(h:TSt At c gl gd L D w) : TSt At c gl gd L D w.drew:=h.touch api (Touch.refl [] w).drew
theorem TSt.drewN (api:DiskApi At)(h:TSt At c gl gd L D w)(n:Nat) : TSt At c gl gd L D (w.drewN n):=h.touch api ((Touch.refl [] w).drewN n)
theorem TSt.cells (h:TSt At c gl gd L D w) : w.cell? ⟨gl,0,none⟩=some c.m∧w.cell? ⟨gl,1,none⟩=some (ptr gd)∧w.cell? ⟨gl,2,none⟩=some (.int .i64 (L.starts:Nat))∧w.cell? ⟨gl,3,none⟩=some (.int .i64 (L.chunks:Nat)) ∧
  w.cell? ⟨gl,4,none⟩=some (.int .i64 (L.endp:Nat))∧w.cell? ⟨gl,5,none⟩=some (.int .i64 (L.sure:Nat)):=by
 obtain⟨F,h1,h2,_⟩:=h;exact⟨h2.cell 0,h2.cell 1,h2.cell 2,h2.cell 3,h2.cell 4,h2.cell 5⟩
theorem TSt.frozen (h:TSt At c gl gd L D w)(i:Nat) : w.frozen? ⟨gl,i,none⟩=false:=by
 obtain⟨F,h1,h2,_⟩:=h;exact h2.frozen i
theorem TSt.disk (api:DiskApi At)(h:TSt At c gl gd L D w){f:FuncId}{args:Array Value}{v:Value}(hc:∀ F,At w c.base gd F D→Calls Tryz.prog f args w (EndAt At c.base gd F w v D')) : Calls Tryz.prog f args w (TRet At c gl gd v L D'):=by
 obtain⟨F,h1,h2,h3,h4,h5,h6,h7⟩:=h;refine(hc F h1).mono ?_;rintro e w' ⟨F',e1,e2,e3,e4⟩;refine⟨e1,F',e2,h2.touch e4 h3,fun hm=>?_,fun x hx=>?_,h5.trans e4 (fun x hx=>?_),Nat.le_trans h6 e4.size,fun b hb=>?_⟩
 ·rcases e3 gl hm with k | k
  ·exact h3 k
  ·have:=h2.lt;omega
 ·rcases e3 x hx with k | k
  ·exact h4 x k
  ·exact Or.inr (by have:=h5.size;omega)
 ·rcases h4 x hx with k | k
  ·exact Or.inl (List.mem_cons_of_mem _ k)
  ·exact Or.inr k
 ·obtain⟨k1,k2,k3,k4,k5⟩:=h7 b hb;refine⟨k1,k2,fun hm=>?_,k4,(e4.block b (by omega) k3).trans k5⟩;rcases e3 b hm with k | k
  ·exact k3 k
  ·omega
theorem TSt.same (h:TSt At c gl gd L D w){P:Program}{f:FuncId}{args:Array Value}{v:Value}(hc:Calls P f args w fun e w'=>e = .returned v∧w=w') : Calls P f args w (TRet At c gl gd v L D):=hc.mono (by
 rintro e w' ⟨rfl,rfl⟩;exact⟨rfl,h⟩)
theorem TSt.put (api:DiskApi At)(h:TSt At c gl gd L D w)(i:Nat)(v:Value)(hv:(logCells c.m gd L).setIfInBounds i v=logCells c.m gd L') : TSt At c gl gd L' D (w.setCell ⟨gl,i,none⟩ v):=by
 obtain⟨F,h1,h2,h3,h4,h5,h6,h7⟩:=h;have ht:Touch [gl] w (w.setCell ⟨gl,i,none⟩ v):=(Touch.refl [gl] w).setCell (p:=⟨gl,i,none⟩) (Or.inl (List.mem_singleton.2 rfl)) _;refine⟨F,api.touch h1 ht (fun x hx hm=>h3 (by rw[← List.mem_singleton.1 hm];exact hx)),by rw[← hv];exact h2.put i v,h3,h4,h5.trans ht (fun x hx=>Or.inl (by rw[List.mem_singleton.1 hx];exact List.mem_cons_self)),Nat.le_trans h6 ht.size,fun b hb=>?_⟩;obtain⟨k1,k2,k3,k4,k5⟩:=h7 b hb;exact⟨k1,k2,k3,k4,(ht.block b (by omega) (by simpa using k4)).trans k5⟩
theorem TSt.putChunks (api:DiskApi At)(h:TSt At c gl gd L D w)(k:Nat) : TSt At c gl gd { L with chunks:=k } D (w.setCell ⟨gl,3,none⟩ (.int .i64 (k:Nat))):=h.put api 3 _ rfl
theorem TSt.putEnd (api:DiskApi At)(h:TSt At c gl gd L D w)(k:Nat) : TSt At c gl gd { L with endp:=k } D (w.setCell ⟨gl,4,none⟩ (.int .i64 (k:Nat))):=h.put api 4 _ rfl
theorem TSt.putSure (api:DiskApi At)(h:TSt At c gl gd L D w)(k:Nat) : TSt At c gl gd { L with sure:=k } D (w.setCell ⟨gl,5,none⟩ (.int .i64 (k:Nat))):=h.put api 5 _ rfl
theorem TSt.guest (h:TSt At c gl gd L D w){b:Nat}(hb:b∈c.G) : w.heap[b]? = c.wG.heap[b]? := by
 obtain⟨F,h1,h2,h3,h4,h5,h6,h7⟩:=h;exact(h7 b hb).2.2.2.2
theorem TSt.own (api:DiskApi At)(h:TSt At c gl gd L D w){G':List Nat}(ht:Touch c.G w w')(hG:∀ b∈G',b∈c.G∨w.heap.size≤b)(hlt:∀ b∈G',b<w'.heap.size) : TSt At { c with G:=G',wG:=w' } gl gd L D w':=by
 obtain⟨F,h1,h2,h3,h4,h5,h6,h7⟩:=h;have hF:∀ x∈F,x ∉ c.G:=fun x hx hm=>(h7 x hm).2.2.1 hx
 have hl:gl ∉ c.G:=fun hm=>(h7 gl hm).2.2.2.1 rfl
 refine⟨F,api.touch h1 ht hF,h2.touch ht hl,h3,h4,h5.trans ht (fun x hx=>Or.inr (h7 x hx).1),Nat.le_refl _,fun b hb=>?_⟩;rcases hG b hb with k | k
 ·obtain⟨k1,k2,k3,k4,_⟩:=h7 b k;exact⟨k1,hlt b hb,k3,k4,rfl⟩
 ·exact⟨Nat.le_trans h5.size k,hlt b hb,fun hm=>(by have:=(api.low h1 b hm).2;omega),fun e=>(by have:=h2.lt;omega),rfl⟩
theorem TSt.back {c':Ctx}(h:TSt At c' gl gd L D w)(e1:c'.w0=c.w0)(e2:c'.F0=c.F0)(e3:c'.base=c.base)(e4:c'.m=c.m)(hs:c.wG.heap.size≤c'.wG.heap.size)(hG:∀ b∈c.G,b∈c'.G∧b<c.wG.heap.size∧c'.wG.heap[b]? = c.wG.heap[b]?) : TSt At c gl gd L D w:=by
 obtain⟨F,h1,h2,h3,h4,h5,h6,h7⟩:=h;rw[e3] at h1;rw[e4] at h2;rw[e1,e2] at h4 h5;refine⟨F,h1,h2,h3,h4,h5,Nat.le_trans hs h6,fun b hb=>?_⟩;obtain⟨q1,q2,q3⟩:=hG b hb;obtain⟨k1,k2,k3,k4,k5⟩:=h7 b q1;exact⟨by rw[← e1];exact k1,q2,k3,k4,k5.trans q3⟩
end
theorem info_log : (Tryz.prog.info? 76).map (·.size)=some 6:=by kernel_rfl
theorem lsame_in (d:Nat)(p:Addr)(w:World) : (Op.equalIn (d+1) 30 (.pointer (some p)) (.pointer (some p))).run Tryz.prog w = .ok true w:=by
 cases hq:Tryz.prog.info? 76 with
 | none=>have:=info_log;rw[hq] at this;cases this
 | some i =>
   have hi:i.size=6:=by have:=info_log;rw[hq] at this;simpa using this
   simp[Op.equalIn,run_underlying Tryz.underlying30,sizeOf,typeInfo,hq,sameAddr]
theorem lsame_ptr (p:Addr)(w:World) : (binOp .neq 30 (.pointer (some p)) (.pointer (some p))).run Tryz.prog w = .ok (.bool false) w:=by
 have he:(Op.equal 30 (.pointer (some p)) (.pointer (some p))).run Tryz.prog w = .ok true w:=lsame_in 9999 p w;simp only[binOp];simp[he]
set_option maxRecDepth 100000 in
theorem lnone_run {w:World}{gl:Nat}(h:w.cell? ⟨gl,0,none⟩=some (ptr gl)) : Calls Tryz.prog 97 #[ptr gl] w fun e w'=>e = .returned (.bool false)∧w=w':=by
 have hsp:=lsame_ptr ⟨gl,0,none⟩;go_enter Tryz.func97,Tryz.ntmps97;go_wp2;go_ret;exact⟨rfl,rfl⟩
theorem lnone_nil (w:World) : Calls Tryz.prog 97 #[.pointer none] w fun e w'=>e = .returned (.bool true)∧w=w':=by
 go_enter Tryz.func97,Tryz.ntmps97;go_wp2;go_ret;exact⟨rfl,rfl⟩
theorem front_run (n:Nat)(w:World)(hn:n≤1000000) : Calls Tryz.prog 66 #[.int .i64 (n:Nat)] w fun e w'=>e = .returned (.int .i64 ((n:Nat)*4096:Int))∧w=w':=by
 have b1:(n:Int)≤1000000:=by omega
 have b0:(0:Int)≤n:=by omega
 go_enter Tryz.func66,Tryz.ntmps66;go_wp2;go_ret;exact⟨rfl,rfl⟩
section
variable {At : Lies} (api : DiskApi At) {c : Ctx} {gl gd : Nat} {L L' : LogS} {D D' : DiskS} {w w' : World}
include api
set_option maxRecDepth 100000 in
theorem tready_run (hm:c.m=ptr gl)(h:TSt At c gl gd L D w) : Calls Tryz.prog 61 #[ptr gl] w (TRet At c gl gd (err (readyT D L)) L D):=by
 obtain⟨c0,c1,c2,c3,c4,c5⟩:=h.cells;rw[hm] at c0;have HH:=Lib.hid h;have hn:=Lib.hid (lnone_run c0);obtain⟨F,hA,-⟩:=h;have hu:=Lib.hid (api.upq hA);have hs:=Lib.hid (fun k=>api.startsq (api.touch hA ((Touch.refl [] w).drewN k) (fun _ _=>by simp)));unfold readyT;cases hd:D.down
 ·simp only[Bool.false_eq_true,if_false];rw[hd] at hu;by_cases he:D.starts=L.starts
  ·rw[if_pos he];have hs:=Lib.hid (fun k=>he ▸ hs.out k);have t1:((L.starts:Int) != (L.starts:Int))=false:=by simp
   generalize L.starts=q at *;clear hA hd he c3 c4 c5 hm;go_enter Tryz.func61,Tryz.ntmps61;go_wp2_with fail;refine hn.out.mono ?_;rintro e w' ⟨rfl,rfl⟩;go_wp2_with fail;refine hu.out.mono ?_;rintro e w' ⟨rfl,rfl⟩;go_wp2_with fail;go_quiet ((go_at_call 23;exact Calls.quiet_of_same ((hs.out _).mono fun _ _ h=>⟨h.1,h.2.symm⟩)));go_wp2;go_ret;exact⟨rfl,HH.out.drewN api _⟩
  ·rw[if_neg he];have t1:((D.starts:Int) != (L.starts:Int))=true:=by simp;omega
   have t2:¬ (D.starts:Int)=(L.starts:Int):=by omega
   generalize L.starts=q at *;generalize D.starts=y at *;clear hA hd he c3 c4 c5 hm;go_enter Tryz.func61,Tryz.ntmps61;go_wp2_with fail;refine hn.out.mono ?_;rintro e w' ⟨rfl,rfl⟩;go_wp2_with fail;refine hu.out.mono ?_;rintro e w' ⟨rfl,rfl⟩;go_wp2_with fail;go_quiet ((go_at_call 23;exact Calls.quiet_of_same ((hs.out _).mono fun _ _ h=>⟨h.1,h.2.symm⟩)));go_wp2;go_ret;exact⟨rfl,HH.out.drewN api _⟩
 ·simp only[if_true];rw[hd] at hu;clear hA hd c3 c4 c5 hm hs;go_enter Tryz.func61,Tryz.ntmps61;go_wp2_with fail;refine hn.out.mono ?_;rintro e w' ⟨rfl,rfl⟩;go_wp2_with fail;refine hu.out.mono ?_;rintro e w' ⟨rfl,rfl⟩;go_wp2;go_ret;exact⟨rfl,HH.out⟩
end
theorem tend_run {w:World}{gl:Nat}{v:Int}(h0:w.cell? ⟨gl,0,none⟩=some (ptr gl))(h:w.cell? ⟨gl,4,none⟩=some (.int .i64 v)) : Calls Tryz.prog 38 #[ptr gl] w fun e w'=>e = .returned (.int .i64 v)∧w=w':=by
 have hn:=Lib.hid (lnone_run h0);clear h0;go_enter Tryz.func38,Tryz.ntmps38;go_wp2_with fail;refine hn.out.mono ?_;rintro e w' ⟨rfl,rfl⟩;go_wp2;go_ret;exact⟨rfl,rfl⟩
end Go.Proofs.YtokbfellcadkpaaGreat
namespace Go.Proofs.YtokbfellcadkpaaGreat
open Go.RowKit
set_option linter.unusedVariables false
set_option maxRecDepth 100000
theorem sizeS_le {D:DiskS}(h:WfP D)(n:ByteArray) : (sizeS D n).1≤1048576:=by
 unfold sizeS;split
 ·exact Nat.zero_le _
 ·split
  ·exact Nat.zero_le _
  ·rename_i f hf;exact(h.ok.sizes f (List.mem_of_getElem? hf)).2
theorem nmC_le {n:Nat}(h:n≤999999) : (nmC n).size≤maxLen:=by rw[nm_size h];decide
theorem wf_nat {n:Nat}(h:n≤9223372036854775807) : (Lit.int .i64 (n:Nat)).wf=true:=WalkArith.wf_i64 (by omega)
theorem chunk_nm (nap:NamesApi)(n:Nat)(w:World)(hn:n≤999999) : Calls Tryz.prog 83 #[.int .i64 (n:Nat)] w fun e w'=>e = .returned (.string (nmC n))∧Below w.heap.size w w':=nap.chunk n w (wf_nat (by omega))
theorem readS_size {D:DiskS}{n:ByteArray}{a k:Int}(h:WfP D) : (readS D n a k).1.size≤1048576:=by
 unfold readS;split
 ·exact Nat.zero_le _
 ·dsimp only;split
  ·exact Nat.zero_le _
  ·rename_i f hf;split
   ·exact Nat.zero_le _
   ·have:=(h.ok.sizes f (List.mem_of_getElem? hf)).2;show(f.data.extract _ _).size≤_;rw[ByteArray.size_extract];omega
theorem rdC_size {D:DiskS}{n:ByteArray}(h:WfP D) : (rdC D n).1.size≤1048576:=by
 unfold rdC;split
 ·exact readS_size h
 ·exact Nat.zero_le _
theorem wp_rdC {D:DiskS}(h:WfP D)(n:ByteArray) : WfP (rdC D n).2.2:=by
 unfold rdC;split
 ·exact wp_read h _ _ _
 ·exact h
theorem readS_count (D:DiskS)(n:ByteArray)(a k:Int) : (readS D n a k).2.2.count≤D.count+1:=by
 unfold readS;split
 ·exact Nat.le_succ _
 ·dsimp only;split
  ·exact Nat.le_refl _
  ·split<;>exact Nat.le_refl _
theorem rdC_count (D:DiskS)(n:ByteArray) : (rdC D n).2.2.count≤D.count+1:=by
 unfold rdC;split
 ·exact readS_count _ _ _ _
 ·exact Nat.le_succ _
section
variable {At : Lies} (api : DiskApi At) (nap : NamesApi) {c : Ctx} {gl gd : Nat} {L L' : LogS} {D D' : DiskS} {w w' : World}
include api nap
theorem rd_run (h:TSt At c gl gd L D w)(ok:WfP D)(hct:D.count≤1099511627776)(n:Nat)(hn:n≤999999) : Calls Tryz.prog 80 #[ptr gl,.int .i64 (n:Nat)] w (TRet At c gl gd (.tuple #[.string (rdC D (nmC n)).1,err (rdC D (nmC n)).2.1]) L (rdC D (nmC n)).2.2):=by
 have hz:=sizeS_le ok (nmC n);have hN:=Lib.hid fun W=>chunk_nm nap n W (by omega)
 have hS:=Lib.hid fun(W:World) (hT:TSt At c gl gd L D W)=>(show Calls Tryz.prog 50 #[ptr gd,.string (nmC n)] W (TRet At c gl gd (.tuple #[.int .i64 ((sizeS D (nmC n)).1:Nat),err (sizeS D (nmC n)).2]) L D) from hT.same (api.sizeq (nmC n) (Classical.choose_spec hT).1 ok.ok (nmC_le hn)))
 have hR:=Lib.hid fun(W:World) (hT:TSt At c gl gd L D W)=>hT.disk api (fun F hF=>api.read (nmC n) 0 ((sizeS D (nmC n)).1:Nat) hF ok.ok hct (by decide) (wf_nat (by omega)) (nmC_le hn))
 have HH:=Lib.hid h;unfold rdC;by_cases he:(sizeS D (nmC n)).2=0
 ·rw[if_pos he];rw[he] at hS;generalize (sizeS D (nmC n)).1=z at *;generalize readS D (nmC n) 0 (z:Nat)=r at *;generalize nmC n=nm at *;clear he hz h hct ok hn;go_enter Tryz.func80,Tryz.ntmps80;go_wp2_with fail;refine(hN.out _).mono ?_;rintro e w1 ⟨rfl,hb⟩;have h1:=HH.out.below api hb;obtain⟨c0,c1,c2,c3,c4,c5⟩:=h1.cells;have H1:=Lib.hid h1;clear hb h1;go_wp2_with fail;refine(hS.out _ H1.out).mono ?_;rintro e w2 ⟨rfl,h2⟩;obtain⟨d0,d1,d2,d3,d4,d5⟩:=h2.cells;have H2:=Lib.hid h2;clear h2;go_wp2_with fail;refine(hR.out _ H2.out).mono ?_;rintro e w3 ⟨rfl,h3⟩;have H3:=Lib.hid h3;clear h3;go_wp2;go_ret2;exact⟨rfl,H3.out⟩
 ·rw[if_neg he];have t:(((sizeS D (nmC n)).2:Int) != 0)=true:=by simp;omega
  generalize (sizeS D (nmC n)).2=y at *;generalize (sizeS D (nmC n)).1=z at *;generalize nmC n=nm at *;clear hz h hR hct ok hn he;go_enter Tryz.func80,Tryz.ntmps80;go_wp2_with fail;refine(hN.out _).mono ?_;rintro e w1 ⟨rfl,hb⟩;have h1:=HH.out.below api hb;obtain⟨c0,c1,c2,c3,c4,c5⟩:=h1.cells;have H1:=Lib.hid h1;clear hb h1;go_wp2_with fail;refine(hS.out _ H1.out).mono ?_;rintro e w2 ⟨rfl,h2⟩;have H2:=Lib.hid h2;clear h2;go_wp2;go_ret2;exact⟨rfl,H2.out⟩
omit nap in
theorem room_run (h:TSt At c gl gd L D w)(ok:WfP D)(s:ByteArray)(hs:s.size≤1000000) : Calls Tryz.prog 127 #[ptr gl,.string s] w (TRet At c gl gd (.bool (roomT D s)) L D):=by
 have hF:=Lib.hid (h.disk api (fun F hF=>api.free hF ok.ok));have HH:=Lib.hid h;obtain⟨c0,c1,c2,c3,c4,c5⟩:=h.cells;have k1:=ok.cap;have k2:=ok.used;unfold roomT;have b1:(D.cap:Int)-(usedS D.l:Nat)-(s.size:Nat)≤1048576:=by omega
 have b2:-1000000≤(D.cap:Int)-(usedS D.l:Nat)-(s.size:Nat):=by omega
 generalize (D.cap:Int)-(usedS D.l:Nat)=y at *;have hw:IntKind.i64.wrap (y-(s.size:Nat))=y-(s.size:Nat):=IntWalk.i64_in _ (by omega);clear k1 k2 h c0 c2 c3 c4 c5 ok;go_enter Tryz.func127,Tryz.ntmps127;go_wp2_with fail;refine hF.out.mono ?_;rintro e w1 ⟨rfl,h1⟩;have H1:=Lib.hid h1;clear h1;go_wp2;go_ret;exact⟨rfl,H1.out⟩
set_option maxRecDepth 100000 in
theorem sync_yes (h:TSt At c gl gd L D w)(ok:WfP D)(hc:L.chunks≤200)(h0:0<L.chunks) : Calls Tryz.prog 92 #[ptr gl] w (TRet At c gl gd (err (syncT D L).1) (syncT D L).2.2 (syncT D L).2.1):=by
 obtain⟨n,hn⟩:∃ n,L.chunks=n+1:=⟨L.chunks-1,by omega⟩
 have hN:=Lib.hid fun W=>chunk_nm nap n W (by omega)
 have hS:=Lib.hid fun(W:World) (hT:TSt At c gl gd L D W)=>hT.disk api (fun F hF=>api.sync (nmC n) hF ok.ok (nmC_le (by omega)))
 have HH:=Lib.hid h;obtain⟨c0,c1,c2,c3,c4,c5⟩:=h.cells;have e:L.chunks-1=n:=by omega
 have t0:decide ((0:Int)<((n+1:Nat):Int))=true:=decide_eq_true (by omega);have t1:((n+1:Nat):Int)-1=(n:Int):=by omega
 have hw2:IntKind.i64.wrap (n:Int)=(n:Int):=IntWalk.i64_in _ (by omega);have hw:IntKind.i64.wrap (((n+1:Nat):Int)-1)=(n:Int):=by rw[t1];exact IntWalk.i64_in _ (by omega)
 unfold syncT;rw[if_neg (by omega),e];rw[hn] at c3;have HN:=Lib.hid hn;generalize hm:((n+1:Nat):Int)=m at *;have HM:=Lib.hid hm;by_cases he:(syncS D (nmC n)).1=0
 ·rw[if_pos he];rw[he] at hS;generalize (syncS D (nmC n)).2=D1 at *;generalize nmC n=nm at *;clear e hn he h ok hc h0 c0 c2 c4 c5 hm;go_enter Tryz.func92,Tryz.ntmps92;go_wp2_with fail
  go_region_held3 (fun w'=>w'.cell? ⟨gl,1,none⟩=some (ptr gd)∧w'.cell? ⟨gl,3,none⟩=some (.int .i64 m)) (first | assumption | exact⟨by assumption,by assumption⟩ | exact⟨c1,c3⟩) (first
   | (go_at_call 83;refine(hN.out _).mono ?_;rintro e w1 ⟨rfl,hb⟩;have h1:=(show TSt At c gl gd L D _ from by first | exact HH.out.drew api | exact HH.out).below api hb;have d1:w1.cell? ⟨gl,1,none⟩=some (ptr gd):=h1.cells.2.1;have d3:w1.cell? ⟨gl,3,none⟩=some (.int .i64 m):=by rw[h1.cells.2.2.2.1,HN.out,HM.out])
   | (go_at_call 147;refine(hS.out _ h1).mono ?_;rintro e w2 ⟨rfl,h2⟩;have e1:w2.cell? ⟨gl,1,none⟩=some (ptr gd):=h2.cells.2.1;have e3:w2.cell? ⟨gl,3,none⟩=some (.int .i64 m):=by rw[h2.cells.2.2.2.1,HN.out,HM.out])
   | fail)
  all_goals
   obtain⟨_,_,_,_,g4,_⟩:=h2.cells;have f5:=h2.frozen 5;have H3:=Lib.hid (h2.putSure api L.endp);clear h1 h2 hb;generalize (L.endp:Int)=y at *;go_wp2;go_ret;exact⟨rfl,H3.out⟩
 ·rw[if_neg he];have t:(((syncS D (nmC n)).1:Int) != 0)=true:=by simp;omega
  generalize (syncS D (nmC n)).2=D1 at *;generalize (syncS D (nmC n)).1=y at *;generalize nmC n=nm at *;clear e hn he h ok hc h0 c0 c2 c4 c5 hm;go_enter Tryz.func92,Tryz.ntmps92;go_wp2_with fail
  go_region_held3 (fun w'=>w'.cell? ⟨gl,1,none⟩=some (ptr gd)∧w'.cell? ⟨gl,3,none⟩=some (.int .i64 m)) (first | assumption | exact⟨by assumption,by assumption⟩ | exact⟨c1,c3⟩) (first
   | (go_at_call 83;refine(hN.out _).mono ?_;rintro e w1 ⟨rfl,hb⟩;have h1:=(show TSt At c gl gd L D _ from by first | exact HH.out.drew api | exact HH.out).below api hb;have d1:w1.cell? ⟨gl,1,none⟩=some (ptr gd):=h1.cells.2.1;have d3:w1.cell? ⟨gl,3,none⟩=some (.int .i64 m):=by rw[h1.cells.2.2.2.1,HN.out,HM.out])
   | (go_at_call 147;refine(hS.out _ h1).mono ?_;rintro e w2 ⟨rfl,h2⟩;have e1:w2.cell? ⟨gl,1,none⟩=some (ptr gd):=h2.cells.2.1;have e3:w2.cell? ⟨gl,3,none⟩=some (.int .i64 m):=by rw[h2.cells.2.2.2.1,HN.out,HM.out])
   | fail)
  all_goals
   have H3:=Lib.hid h2;clear h1 h2 hb;go_wp2;go_ret;exact⟨rfl,H3.out⟩
omit nap in
theorem sync_no (h:TSt At c gl gd L D w)(h0:L.chunks=0) : Calls Tryz.prog 92 #[ptr gl] w (TRet At c gl gd (err (syncT D L).1) (syncT D L).2.2 (syncT D L).2.1):=by
 unfold syncT;rw[if_pos h0];obtain⟨c0,c1,c2,c3,c4,c5⟩:=h.cells;rw[h0] at c3;have f5:=h.frozen 5;have H3:=Lib.hid (h.putSure api L.endp);generalize (L.endp:Int)=y at *;clear h c0 c1 c2 h0;go_enter Tryz.func92,Tryz.ntmps92;go_wp2;go_ret;exact⟨rfl,H3.out⟩
theorem sync_t (h:TSt At c gl gd L D w)(ok:WfP D)(hc:L.chunks≤200) : Calls Tryz.prog 92 #[ptr gl] w (TRet At c gl gd (err (syncT D L).1) (syncT D L).2.2 (syncT D L).2.1):=by
 by_cases h0:L.chunks=0
 ·exact sync_no api h h0
 ·exact sync_yes api nap h ok hc (by omega)
variable (cap : ChunksApi)
include cap
set_option maxRecDepth 100000 in
theorem target_run (h:TSt At c gl gd L D w)(ok:WfP D)(hc:L.chunks≤200)(p:ByteArray)(hp:p.size≤maxLen) : Calls Tryz.prog 63 #[ptr gl,.string p] w (TRet At c gl gd (.tuple #[.int .i64 ((targetT D L p).1:Nat),.int .i64 ((targetT D L p).2.1:Nat),err (targetT D L p).2.2]) L D):=by
 have HH:=Lib.hid h;obtain⟨c0,c1,c2,c3,c4,c5⟩:=h.cells;unfold targetT;by_cases h0:L.chunks=0
 ·rw[if_pos h0];rw[h0] at c3;clear h c0 c1 c2 h0 c4 c5;go_enter Tryz.func63,Tryz.ntmps63;go_wp2;go_ret3;exact⟨rfl,HH.out⟩
 rw[if_neg h0];obtain⟨n,hn⟩:∃ n,L.chunks=n+1:=⟨L.chunks-1,by omega⟩
 have e:L.chunks-1=n:=by omega
 rw[e];have hz:=sizeS_le ok (nmC n);have hN:=Lib.hid fun W=>chunk_nm nap n W (by omega)
 have hS:=Lib.hid fun(W:World) (hT:TSt At c gl gd L D W)=>(show Calls Tryz.prog 50 #[ptr gd,.string (nmC n)] W (TRet At c gl gd (.tuple #[.int .i64 ((sizeS D (nmC n)).1:Nat),err (sizeS D (nmC n)).2]) L D) from hT.same (api.sizeq (nmC n) (Classical.choose_spec hT).1 ok.ok (nmC_le (by omega))))
 have hF:=Lib.hid fun(W:World)=>cap.fits ((sizeS D (nmC n)).1:Nat) p W hp (wf_nat (by omega))
 have t0:decide ((0:Int)<((n+1:Nat):Int))=true:=decide_eq_true (by omega);have t1:((n+1:Nat):Int)-1=(n:Int):=by omega
 have hw2:IntKind.i64.wrap (n:Int)=(n:Int):=IntWalk.i64_in _ (by omega);have hw:IntKind.i64.wrap (((n+1:Nat):Int)-1)=(n:Int):=by rw[t1];exact IntWalk.i64_in _ (by omega)
 rw[hn] at c3;have HN:=Lib.hid hn;generalize hm:((n+1:Nat):Int)=m at *;have HM:=Lib.hid hm;have c3':w.cell? ⟨gl,3,none⟩=some (.int .i64 m):=c3;by_cases he:(sizeS D (nmC n)).2=0
 ·rw[if_pos he];rw[he] at hS;cases hft:ftS ((sizeS D (nmC n)).1:Nat) p
  ·rw[if_neg (by simp)];rw[hft] at hF;have e5:(L.chunks:Int)=m:=by rw[HN.out,HM.out]
   rw[e5];generalize (sizeS D (nmC n)).1=z at *;generalize nmC n=nm at *;clear e hn he h ok hc h0 c0 c2 c4 c5 hm hz hp hft e5;go_enter Tryz.func63,Tryz.ntmps63;go_wp2_with fail
   go_region_held3 (fun w'=>w'.cell? ⟨gl,1,none⟩=some (ptr gd)) (first | assumption | exact c1) (first
    | (go_at_call 83;refine(hN.out _).mono ?_;rintro e w1 ⟨rfl,hb⟩;have h1:=(show TSt At c gl gd L D _ from by first | exact HH.out.drew api | exact HH.out).below api hb;have d1:w1.cell? ⟨gl,1,none⟩=some (ptr gd):=h1.cells.2.1)
    | (go_at_call 50;refine(hS.out _ h1).mono ?_;rintro e w2 ⟨rfl,h2⟩;have e1:w2.cell? ⟨gl,1,none⟩=some (ptr gd):=h2.cells.2.1)
    | fail)
   all_goals
    have g3:w2.cell? ⟨gl,3,none⟩=some (.int .i64 m):=by rw[h2.cells.2.2.2.1,HN.out,HM.out]
    have H3:=Lib.hid h2;clear h1 h2 hb;go_wp2_with fail;refine(hF.out _).mono ?_;rintro e w3 ⟨rfl,rfl⟩;go_wp2;go_ret3;exact⟨rfl,H3.out⟩
  ·rw[if_pos rfl];rw[hft] at hF;generalize (sizeS D (nmC n)).1=z at *;generalize nmC n=nm at *;clear e hn he h ok hc h0 c0 c2 c4 c5 hm hz hp hft;go_enter Tryz.func63,Tryz.ntmps63;go_wp2_with fail
   go_region_held3 (fun w'=>w'.cell? ⟨gl,1,none⟩=some (ptr gd)) (first | assumption | exact c1) (first
    | (go_at_call 83;refine(hN.out _).mono ?_;rintro e w1 ⟨rfl,hb⟩;have h1:=(show TSt At c gl gd L D _ from by first | exact HH.out.drew api | exact HH.out).below api hb;have d1:w1.cell? ⟨gl,1,none⟩=some (ptr gd):=h1.cells.2.1)
    | (go_at_call 50;refine(hS.out _ h1).mono ?_;rintro e w2 ⟨rfl,h2⟩;have e1:w2.cell? ⟨gl,1,none⟩=some (ptr gd):=h2.cells.2.1)
    | fail)
   all_goals
    have H3:=Lib.hid h2;clear h1 h2 hb;go_wp2_with fail;refine(hF.out _).mono ?_;rintro e w3 ⟨rfl,rfl⟩;go_wp2;go_ret3;exact⟨rfl,H3.out⟩
 ·rw[if_neg he];have t:(((sizeS D (nmC n)).2:Int) != 0)=true:=by simp;omega
  generalize (sizeS D (nmC n)).2=y at *;generalize (sizeS D (nmC n)).1=z at *;generalize nmC n=nm at *;clear e hn he h ok hc h0 c0 c2 c4 c5 hm hz hp hF;go_enter Tryz.func63,Tryz.ntmps63;go_wp2_with fail
  go_region_held3 (fun w'=>w'.cell? ⟨gl,1,none⟩=some (ptr gd)) (first | assumption | exact c1) (first
   | (go_at_call 83;refine(hN.out _).mono ?_;rintro e w1 ⟨rfl,hb⟩;have h1:=(show TSt At c gl gd L D _ from by first | exact HH.out.drew api | exact HH.out).below api hb;have d1:w1.cell? ⟨gl,1,none⟩=some (ptr gd):=h1.cells.2.1)
   | (go_at_call 50;refine(hS.out _ h1).mono ?_;rintro e w2 ⟨rfl,h2⟩;have e1:w2.cell? ⟨gl,1,none⟩=some (ptr gd):=h2.cells.2.1)
   | fail)
  all_goals
   have H3:=Lib.hid h2;clear h1 h2 hb;go_wp2;go_ret3;exact⟨rfl,H3.out⟩
omit cap in
set_option maxRecDepth 100000 in
theorem extend_run (h:TSt At c gl gd L D w)(ok:WfP D)(hc:L.chunks≤200)(h0:0<L.chunks)(r:ByteArray)(hr:r.size≤1000000) : Calls Tryz.prog 65 #[ptr gl,.string r] w (TRet At c gl gd (err (extendT D L r).1) L (extendT D L r).2):=by
 have hR:=Lib.hid (room_run api h ok r hr);unfold extendT;cases hq:roomT D r
 ·rw[if_pos rfl];rw[hq] at hR;clear h ok hc h0 hr hq;go_enter Tryz.func65,Tryz.ntmps65;go_wp2_with fail;refine hR.out.mono ?_;rintro e w1 ⟨rfl,h1⟩;have H1:=Lib.hid h1;clear h1;go_wp2;go_ret;exact⟨rfl,H1.out⟩
 ·rw[if_neg (by simp)];rw[hq] at hR;obtain⟨n,hn⟩:∃ n,L.chunks=n+1:=⟨L.chunks-1,by omega⟩
  have e:L.chunks-1=n:=by omega
  rw[e];have hN:=Lib.hid fun W=>chunk_nm nap n W (by omega)
  have hS:=Lib.hid fun(W:World) (hT:TSt At c gl gd L D W)=>hT.disk api (fun F hF=>api.append (nmC n) r hF ok.ok (by omega) (nmC_le (by omega)))
  have t1:((n+1:Nat):Int)-1=(n:Int):=by omega
  have hw2:IntKind.i64.wrap (n:Int)=(n:Int):=IntWalk.i64_in _ (by omega);have hw:IntKind.i64.wrap (((n+1:Nat):Int)-1)=(n:Int):=by rw[t1];exact IntWalk.i64_in _ (by omega)
  have HN:=Lib.hid hn;generalize hm:((n+1:Nat):Int)=m at *;have HM:=Lib.hid hm;generalize appendS D (nmC n) r=D1 at *;generalize nmC n=nm at *;clear e hn h ok hc h0 hm hr hq;go_enter Tryz.func65,Tryz.ntmps65;go_wp2_with fail;refine hR.out.mono ?_;rintro e w0 ⟨rfl,h0⟩;have c1:w0.cell? ⟨gl,1,none⟩=some (ptr gd):=h0.cells.2.1;have c3:w0.cell? ⟨gl,3,none⟩=some (.int .i64 m):=by rw[h0.cells.2.2.2.1,HN.out,HM.out]
  have HH:=Lib.hid h0;clear h0;go_wp2_with fail
  go_region_held3 (fun w'=>w'.cell? ⟨gl,1,none⟩=some (ptr gd)∧w'.cell? ⟨gl,3,none⟩=some (.int .i64 m)) (first | assumption | exact⟨by assumption,by assumption⟩ | exact⟨c1,c3⟩) (first
   | (go_at_call 83;refine(hN.out _).mono ?_;rintro e w1 ⟨rfl,hb⟩;have h1:=(show TSt At c gl gd L D _ from by first | exact HH.out.drew api | exact HH.out).below api hb;have d1:w1.cell? ⟨gl,1,none⟩=some (ptr gd):=h1.cells.2.1;have d3:w1.cell? ⟨gl,3,none⟩=some (.int .i64 m):=by rw[h1.cells.2.2.2.1,HN.out,HM.out])
   | (go_at_call 131;refine(hS.out _ h1).mono ?_;rintro e w2 ⟨rfl,h2⟩;have e1:w2.cell? ⟨gl,1,none⟩=some (ptr gd):=h2.cells.2.1;have e3:w2.cell? ⟨gl,3,none⟩=some (.int .i64 m):=by rw[h2.cells.2.2.2.1,HN.out,HM.out])
   | fail)
  all_goals
   have H3:=Lib.hid h2;clear h1 h2 hb;go_wp2;go_ret;exact⟨rfl,H3.out⟩
end
end Go.Proofs.YtokbfellcadkpaaGreat
namespace Go.Proofs.YtokbfellcadkpaaGreat
set_option maxRecDepth 100000
set_option linter.unusedVariables false
section
open Go.RowKit Go.Shelf
theorem stR_step {r:Nat→Nat}{n k:Nat}(h:k<n) : stR r (n-k) k=if r k=0 then stR r (n-(k+1)) (k+1) else(r k,k+1):=by
 obtain⟨m,rfl⟩:∃ m,n=k+1+m:=⟨n-k-1,by omega⟩
 have e1:k+1+m-k=m+1:=by omega
 have e2:k+1+m-(k+1)=m:=by omega
 rw[e1,e2];rfl
theorem stR_end {r:Nat→Nat}{n:Nat} : stR r (n-n) n=(0,n):=by rw[Nat.sub_self];rfl
set_option maxRecDepth 100000 in
theorem steps_run {b n:Nat}(hn:n≤1000)(r:Nat→Nat)(St:Nat→World→Prop)(f:Nat→FuncId)(x y:Nat→Array Value)
  (hent:∀ k,k<n→Enters Tryz.prog (f k)) (hcell:∀ k W,k<n→St k W→W.cell? ⟨b,k,none⟩=some (.func (.func (f k)) (x k) (y k)))
  (hcall:∀ k W,k<n→St k W→Calls Tryz.prog (f k) (x k++#[]++y k) W fun e W'=>e = .returned (.int .i64 (r k:Nat))∧St (k+1) W') (W:World) (h0:St 0 W) :
  Calls Tryz.prog 24 #[.slice (some ⟨b,0,none⟩) n n] W fun e W'=>e = .returned (.int .i64 ((stR r n 0).1:Nat))∧St (stR r n 0).2 W':=by
 have HC:=Lib.hid hcell;have HK:=Lib.hid hcall;have HE:=Lib.hid hent;have HN:=Lib.hid hn;have H0:=Lib.hid h0;clear hcell hcall h0 hent;go_enter Tryz.func24,Tryz.ntmps24;go_wp2;go_loopw [8] (fun i wr=>∃ k:Nat,k≤n∧i = .int .i64 k∧stR r (n-k) k=stR r n 0∧St k wr) (fun i _=>n-(intOf i).toNat)
 case atStart=>exact⟨0,Nat.zero_le _,rfl,rfl,H0.out⟩
 case round =>
  obtain⟨k,hk,rfl,hr,hs⟩:=hrel;by_cases hlt:k<n
  ·have c1:=HC.out k _ hlt hs;have l1:(k:Int)<(n:Int):=by omega
   have HS:=Lib.hid hs;have HR:=Lib.hid hr;have HL:=Lib.hid hlt;clear hs hr;rw[stR_step hlt] at HR;have he:=HE.out k hlt;have hcl:=HK.out k _ hlt HS.out;have ha:x k++#[]++y k=x k++y k:=by simp
   rw[ha] at hcl;have HCL:=Lib.hid hcl;unfold Enters at he;clear hcl ha;by_cases hr0:r k=0
   ·rw[hr0] at HCL;rw[if_pos hr0] at HR;clear hr0;go_wp2_with fail;refine HCL.out.mono ?_;rintro e w2 ⟨rfl,hs2⟩;have H2:=Lib.hid hs2;clear hs2 he c1;go_wp2;go_roundw
    case rel=>exact⟨k+1,by have:=HL.out;omega,by go_num,HR.out,H2.out⟩
    case measure=>simp[intOf];omega
   ·have t:((r k:Int) != 0)=true:=by simp;omega
    rw[if_neg hr0] at HR;clear hr0;generalize r k=y at *;go_wp2_with fail;refine HCL.out.mono ?_;rintro e w2 ⟨rfl,hs2⟩;have H2:=Lib.hid hs2;clear hs2 he c1;go_wp2;go_ret;rw[← HR.out];exact⟨rfl,H2.out⟩
  ·obtain rfl:k=n:=by omega
   rw[stR_end] at hr;have HS:=Lib.hid hs;have HR:=Lib.hid hr;clear hs hr hk;go_wp2;go_ret;rw[← HR.out];exact⟨rfl,HS.out⟩
end
end Go.Proofs.YtokbfellcadkpaaGreat
namespace Go.Proofs.YtokbfellcadkpaaGreat
open Go.RowKit Go.Shelf
set_option linter.unusedVariables false
set_option maxRecDepth 100000
section
variable {At : Lies} {c : Ctx} {gl gd : Nat} {L L' : LogS} {D D' : DiskS} {w w' : World}
theorem TSt.new (api:DiskApi At)(h:TSt At c gl gd L D w)(ht:Touch [] w w')(hs:w.heap.size<w'.heap.size) : TSt At { c with G:=w.heap.size::c.G,wG:=w' } gl gd L D w':=by
 have hG:∀ b∈c.G,b<w.heap.size:=by
  obtain⟨F,h1,h2,h3,h4,h5,h6,h7⟩:=h;intro b hb;have:=(h7 b hb).2.1;omega
 refine h.own api (ht.more (fun x hx=>by cases hx)) (fun b hb=>?_) (fun b hb=>?_)
 ·rcases List.mem_cons.1 hb with rfl | hb
  ·exact Or.inr (Nat.le_refl _)
  ·exact Or.inl hb
 ·rcases List.mem_cons.1 hb with rfl | hb
  ·exact hs
  ·have:=hG b hb;omega
theorem TSt.box (api:DiskApi At)(h:TSt At c gl gd L D w)(o:Obj) : TSt At { c with G:=w.heap.size::c.G,wG:=w.alloc o } gl gd L D (w.alloc o):=h.new api ((Touch.refl [] w).alloc o) (by simp)
theorem TSt.blok (h:TSt At c gl gd L D w){b:Nat}(hb:b∈c.G){t:TypeId}{cs:Array Value}(hB:Blok c.wG b t cs) : Blok w b t cs:=(h.guest hb).trans hB
theorem TSt.lt (h:TSt At c gl gd L D w){b:Nat}(hb:b∈c.G) : b<c.wG.heap.size∧b<w.heap.size:=by
 obtain⟨F,h1,h2,h3,h4,h5,h6,h7⟩:=h;have:=(h7 b hb).2.1;omega
def KeepG (c:Ctx)(w W:World) : Prop:=w.heap.size≤W.heap.size∧c.wG.heap.size≤w.heap.size∧∀ b∈c.G,b<w.heap.size∧W.heap[b]? = w.heap[b]?
theorem TSt.keep (h:TSt At c gl gd L D w) : KeepG c w w:=by
 refine⟨Nat.le_refl _, ?_,fun b hb=>⟨(h.lt hb).2,rfl⟩⟩;obtain⟨F,h1,h2,h3,h4,h5,h6,h7⟩:=h;exact h6
theorem KeepG.touch {W W':World}(h:KeepG c w W)(ht:Touch [] W W') : KeepG c w W':=⟨Nat.le_trans h.1 ht.size,h.2.1,fun b hb=>⟨(h.2.2 b hb).1,(ht.block b (by have:=(h.2.2 b hb).1;have:=h.1;omega) (by simp)).trans (h.2.2 b hb).2⟩⟩
theorem KeepG.alloc {W:World}(h:KeepG c w W)(o:Obj) : KeepG c w (W.alloc o):=h.touch ((Touch.refl [] W).alloc o)
theorem KeepG.below {W W':World}(h:KeepG c w W)(hb:Below W.heap.size W W') : KeepG c w W':=h.touch (Touch.of_below hb)
theorem KeepG.call {c':Ctx}{W:World}(h:KeepG c w c'.wG)(hT:TSt At c' gl gd L D W)(hG:∀ b∈c.G,b∈c'.G) : KeepG c w W:=by
 refine⟨?_,h.2.1,fun b hb=>⟨(h.2.2 b hb).1,(hT.guest (hG b hb)).trans (h.2.2 b hb).2⟩⟩;obtain⟨F,h1,h2,h3,h4,h5,h6,h7⟩:=hT;exact Nat.le_trans h.1 h6
theorem TSt.undo {c':Ctx}(h:TSt At c' gl gd L D w')(h0:TSt At c gl gd L' D' w)(hk:KeepG c w c'.wG)(e1:c'.w0=c.w0)(e2:c'.F0=c.F0)(e3:c'.base=c.base)(e4:c'.m=c.m)(hG:∀ b∈c.G,b∈c'.G) : TSt At c gl gd L D w' :=
 h.back e1 e2 e3 e4 (Nat.le_trans hk.2.1 hk.1) (fun b hb=>⟨hG b hb,(h0.lt hb).1,(hk.2.2 b hb).2.trans (h0.guest hb)⟩)
end
section
variable {At : Lies} (api : DiskApi At) {c : Ctx} {gl gd : Nat} {L L' : LogS} {D D' : DiskS} {w w' : World} {B1 B2 B3 : Nat} {nm s : ByteArray}
include api
set_option maxRecDepth 100000 in
theorem begin1_run (h:TSt At c gl gd L D w)(ok:WfP D)(m1:B1∈c.G)(k1:Blok c.wG B1 30 #[ptr gl])(m3:B3∈c.G)(k3:Blok c.wG B3 9 #[.string nm])(hn:nm.size≤maxLen) :
  Calls Tryz.prog 128 #[ptr B1,ptr B3] w (TRet At c gl gd (err (createS D nm).1) L (createS D nm).2):=by
 have hS:=Lib.hid fun(W:World) (hT:TSt At c gl gd L D W)=>hT.disk api (fun F hF=>api.create nm hF ok.ok hn)
 have HH:=Lib.hid h;have b1:w.cell? ⟨B1,0,none⟩=some (ptr gl):=(h.blok m1 k1).cell 0;have b3:w.cell? ⟨B3,0,none⟩=some (.string nm):=(h.blok m3 k3).cell 0;have c1:=h.cells.2.1;have M1:=Lib.hid m1;have K1:=Lib.hid k1;have M3:=Lib.hid m3;have K3:=Lib.hid k3;generalize createS D nm=D1 at *;clear h ok m1 k1 m3 k3 hn;go_enter Tryz.func128,Tryz.ntmps128;go_wp2_with fail
 go_region_held3 (fun w'=>w'.cell? ⟨B1,0,none⟩=some (ptr gl)∧w'.cell? ⟨gl,1,none⟩=some (ptr gd)∧w'.cell? ⟨B3,0,none⟩=some (.string nm)) (first | assumption | exact⟨by assumption,by assumption,by assumption⟩ | exact⟨b1,c1,b3⟩) (first
  | (go_at_call 129;refine(hS.out _ (by first | exact HH.out.drew api | exact HH.out)).mono ?_;rintro e w2 ⟨rfl,h2⟩;have e1:w2.cell? ⟨gl,1,none⟩=some (ptr gd):=h2.cells.2.1;have e2:w2.cell? ⟨B1,0,none⟩=some (ptr gl):=(h2.blok M1.out K1.out).cell 0;have e3:w2.cell? ⟨B3,0,none⟩=some (.string nm):=(h2.blok M3.out K3.out).cell 0)
  | fail)
 all_goals
  have H3:=Lib.hid h2;clear h2;go_wp2;go_ret;exact⟨rfl,H3.out⟩
set_option maxRecDepth 100000 in
theorem begin2_run (h:TSt At c gl gd L D w)(ok:WfP D)(m1:B1∈c.G)(k1:Blok c.wG B1 30 #[ptr gl])(m3:B3∈c.G)(k3:Blok c.wG B3 9 #[.string nm])(m2:B2∈c.G)(k2:Blok c.wG B2 9 #[.string s])(hn:nm.size≤maxLen)(hs:s.size≤1000000) :
  Calls Tryz.prog 130 #[ptr B1,ptr B3,ptr B2] w (TRet At c gl gd (err (appendS D nm s).1) L (appendS D nm s).2):=by
 have hS:=Lib.hid fun(W:World) (hT:TSt At c gl gd L D W)=>hT.disk api (fun F hF=>api.append nm s hF ok.ok (by omega) hn)
 have HH:=Lib.hid h;have b1:w.cell? ⟨B1,0,none⟩=some (ptr gl):=(h.blok m1 k1).cell 0;have b3:w.cell? ⟨B3,0,none⟩=some (.string nm):=(h.blok m3 k3).cell 0;have b2:w.cell? ⟨B2,0,none⟩=some (.string s):=(h.blok m2 k2).cell 0;have c1:=h.cells.2.1;have M1:=Lib.hid m1;have K1:=Lib.hid k1;have M3:=Lib.hid m3;have K3:=Lib.hid k3;have M2:=Lib.hid m2;have K2:=Lib.hid k2;generalize appendS D nm s=D1 at *;clear h ok m1 k1 m3 k3 hn m2 k2 hs;go_enter Tryz.func130,Tryz.ntmps130;go_wp2_with fail
 go_region_held3 (fun w'=>w'.cell? ⟨B1,0,none⟩=some (ptr gl)∧w'.cell? ⟨gl,1,none⟩=some (ptr gd)∧w'.cell? ⟨B3,0,none⟩=some (.string nm)∧w'.cell? ⟨B2,0,none⟩=some (.string s)) (first | assumption | exact⟨by assumption,by assumption,by assumption,by assumption⟩ | exact⟨b1,c1,b3,b2⟩) (first
  | (go_at_call 131;refine(hS.out _ (by first | exact HH.out.drew api | exact HH.out)).mono ?_;rintro e w2 ⟨rfl,h2⟩;have e1:w2.cell? ⟨gl,1,none⟩=some (ptr gd):=h2.cells.2.1;have e2:w2.cell? ⟨B1,0,none⟩=some (ptr gl):=(h2.blok M1.out K1.out).cell 0;have e3:w2.cell? ⟨B3,0,none⟩=some (.string nm):=(h2.blok M3.out K3.out).cell 0;have e4:w2.cell? ⟨B2,0,none⟩=some (.string s):=(h2.blok M2.out K2.out).cell 0)
  | fail)
 all_goals
  have H3:=Lib.hid h2;clear h2;go_wp2;go_ret;exact⟨rfl,H3.out⟩
end
def pick4 {α:Type}(a b c d:α) : Nat→α
 | 0=>a
 | 1=>b
 | 2=>c
 | _=>d
theorem wp_sync_t {D:DiskS}{L:LogS}(ok:WfP D) : WfP (syncT D L).2.1:=by
 unfold syncT;split
 ·exact ok
 ·split<;>exact wp_sync ok _
section
variable {At : Lies} (api : DiskApi At) (nap : NamesApi) (cap : ChunksApi) {c : Ctx} {gl gd : Nat} {L L' : LogS} {D D' : DiskS} {w w' : World}
include api nap
theorem begin_steps {B1 B2 B3 B4:Nat}{nm s:ByteArray}(h:TSt At c gl gd L D w)(ok:WfP D)(hc:L.chunks≤200)(m1:B1∈c.G)(k1:Blok c.wG B1 30 #[ptr gl])(m3:B3∈c.G)(k3:Blok c.wG B3 9 #[.string nm])(m2:B2∈c.G)(k2:Blok c.wG B2 9 #[.string s])
  (m4:B4∈c.G) (t4:TypeId) (k4:Blok c.wG B4 t4 #[.func (.func 92) #[ptr gl] #[],.func (.func 128) #[] #[ptr B1,ptr B3],.func (.func 130) #[] #[ptr B1,ptr B3,ptr B2]]) (hn:nm.size≤maxLen) (hs:s.size≤1000000) :
  Calls Tryz.prog 24 #[.slice (some ⟨B4,0,none⟩) 3 3] w (TRet At c gl gd (err (thenT (thenT (syncT D L) (onD fun E=>createS E nm)) (onD fun E=>appendS E nm s)).1) (thenT (thenT (syncT D L) (onD fun E=>createS E nm)) (onD fun E=>appendS E nm s)).2.2 (thenT (thenT (syncT D L) (onD fun E=>createS E nm)) (onD fun E=>appendS E nm s)).2.1):=by
 have ok1:WfP (syncT D L).2.1:=wp_sync_t ok;have ok2:WfP (createS (syncT D L).2.1 nm).2:=wp_create ok1 nm
 have H:=steps_run (b:=B4) (n:=3) (by omega) (pick4 (syncT D L).1 (createS (syncT D L).2.1 nm).1 (appendS (createS (syncT D L).2.1 nm).2 nm s).1 0)
  (fun k W=>TSt At c gl gd (pick4 L (syncT D L).2.2 (syncT D L).2.2 (syncT D L).2.2 k) (pick4 D (syncT D L).2.1 (createS (syncT D L).2.1 nm).2 (appendS (createS (syncT D L).2.1 nm).2 nm s).2 k) W)
  (pick4 92 128 130 0) (pick4 #[ptr gl] #[] #[] #[]) (pick4 #[] #[ptr B1,ptr B3] #[ptr B1,ptr B3,ptr B2] #[])
  (fun k hk=>by
   match k,hk with
   | 0,_=>exact enters_of Tryz.func92 (by kernel_rfl) rfl
   | 1,_=>exact enters_of Tryz.func128 (by kernel_rfl) rfl
   | 2,_=>exact enters_of Tryz.func130 (by kernel_rfl) rfl)
  (fun k W hk hT=>by
   have q:=(hT.blok m4 k4).cell k
   match k,hk with
   | 0,_=>exact q
   | 1,_=>exact q
   | 2,_=>exact q)
  (fun k W hk hT=>by
   match k,hk with
   | 0,_=>exact sync_t api nap hT ok hc
   | 1,_=>exact begin1_run api hT ok1 m1 k1 m3 k3 hn
   | 2,_=>exact begin2_run api hT ok2 m1 k1 m3 k3 m2 k2 hn hs) w h
 refine H.mono ?_;rintro e w' ⟨rfl,hT⟩;generalize syncT D L=a at *;obtain⟨r0,D1,L1⟩:=a;dsimp only at hT ⊢;by_cases e0:r0=0
 ·subst e0;by_cases e1:(createS D1 nm).1=0
  ·by_cases e2:(appendS (createS D1 nm).2 nm s).1=0
   ·simp[stR,pick4,thenT,onD,e1,e2] at hT ⊢;exact⟨by simp,hT⟩
   ·simp[stR,pick4,thenT,onD,e1,e2] at hT ⊢;exact⟨rfl,hT⟩
  ·simp[stR,pick4,thenT,onD,e1] at hT ⊢;exact⟨rfl,hT⟩
 ·simp[stR,pick4,thenT,e0] at hT ⊢;exact⟨rfl,hT⟩
end
end Go.Proofs.YtokbfellcadkpaaGreat
namespace Go.Proofs.YtokbfellcadkpaaGreat
open Go.RowKit Go.Shelf
set_option linter.unusedVariables false
set_option maxRecDepth 100000
section
variable {At : Lies} (api : DiskApi At) (nap : NamesApi) (cap : ChunksApi) {c : Ctx} {gl gd : Nat} {L L' : LogS} {D D' : DiskS} {w w' : World}
include api nap cap
set_option maxRecDepth 100000 in
theorem begin_run (h:TSt At c gl gd L D w)(ok:WfP D)(hc:L.chunks≤200)(r:ByteArray)(hr:r.size≤100000) :
  Calls Tryz.prog 64 #[ptr gl,.string r] w (TRet At c gl gd (err (beginT D L r).1) (beginT D L r).2.2 (beginT D L r).2.1):=by
 have hz:(hdS (L.chunks:Nat)++r).size≤1000000:=by
  rw[ByteArray.size_append]
  have:(hdS (L.chunks:Nat)).size≤12:=by
   by_cases q:L.chunks≤199
   ·rw[hd_size q];exact Nat.le_refl _
   ·rw[hd_no (by omega)];exact Nat.zero_le _
  omega
 have ha:∀ W:World,(Op.stringOp .add (hdS (L.chunks:Nat)) r).run Tryz.prog W = .ok (.string (hdS (L.chunks:Nat)++r)) W:=fun W=>run_string_add_sum (P:=Tryz.prog) (w:=W) _ _ (by rw[ByteArray.size_append] at hz;omega)
 have hHd:=Lib.hid fun(W:World)=>cap.head (L.chunks:Nat) W (wf_nat (by omega))
 have h1:=h.box api (.cells #[ptr gl] 30);obtain⟨c0,c1,c2,c3,c4,c5⟩:=h1.cells;have q1:=(Blok.new w 30 #[ptr gl]).cell 0;have H0:=Lib.hid h;have H1:=Lib.hid h1;have HB1:=Lib.hid (Blok.new w 30 #[ptr gl]);have OK:=Lib.hid ok;have HC:=Lib.hid hc;have HZ:=Lib.hid hz;unfold beginT;by_cases hbig:200≤L.chunks
 ·rw[if_pos (Or.inl hbig)];have t1:decide ((200:Int)≤(L.chunks:Int))=true:=decide_eq_true (by omega);generalize hs:hdS (L.chunks:Nat)++r=s at *;generalize hH:hdS (L.chunks:Nat)=hd at *;clear h h1 hz ok hr hbig hc c0 c2 c4 c5 hs hH;generalize hn:(L.chunks:Int)=n at *;have KG:=Lib.hid (H0.out.keep.alloc (.cells #[ptr gl] 30));generalize hB1:w.heap.size=B1 at *;generalize hW1:w.alloc (.cells #[ptr gl] 30)=W1 at *;have HW1:=Lib.hid hW1;go_enter Tryz.func64,Tryz.ntmps64;go_wp2_with fail;refine(hHd.out _).mono ?_;rintro e w1 ⟨rfl,hb⟩;have h2:=H1.out.below api hb;have hB:=HB1.out.touch (Touch.of_below hb) (by simp);have h3:=h2.box api (.cells #[.string s] 9);have hB2:=(Blok.new w1 9 #[.string s])
  have hB3:=hB.alloc (.cells #[.string s] 9);obtain⟨d0,d1,d2,d3,d4,d5⟩:=h3.cells;rw[hn] at d3;have q2:=hB2.cell 0;have q3:=hB3.cell 0;have KG1:=Lib.hid ((KG.out.below hb).alloc (.cells #[.string s] 9));generalize hC2:w1.heap.size=B2 at *;generalize hW2:w1.alloc (.cells #[.string s] 9)=W2 at *;have H3:=Lib.hid h3;have K2:=Lib.hid hB2;have K1:=Lib.hid hB3;clear hB hb h2 h3 hB2 hB3 d0 d2 d4 d5;go_wp2;go_ret;exact⟨rfl,H3.out.undo H0.out KG1.out rfl rfl rfl rfl (fun b hb=>by simp[hb])⟩
 have t1:decide ((200:Int)≤(L.chunks:Int))=false:=decide_eq_false (by omega);have hw2:IntKind.i64.wrap (L.chunks:Int)=(L.chunks:Int):=IntWalk.i64_in _ (by omega);generalize hs:hdS (L.chunks:Nat)++r=s at *;generalize hH:hdS (L.chunks:Nat)=hd at *;cases hq:roomT D s
 ·rw[if_pos (Or.inr rfl)];clear h h1 hz ok hr hbig hc c0 c2 c4 c5 hs hH;generalize hn:(L.chunks:Int)=n at *;have KG:=Lib.hid (H0.out.keep.alloc (.cells #[ptr gl] 30));generalize hB1:w.heap.size=B1 at *;generalize hW1:w.alloc (.cells #[ptr gl] 30)=W1 at *;have HW1:=Lib.hid hW1;go_enter Tryz.func64,Tryz.ntmps64;go_wp2_with fail;refine(hHd.out _).mono ?_;rintro e w1 ⟨rfl,hb⟩;have h2:=H1.out.below api hb;have hB:=HB1.out.touch (Touch.of_below hb) (by simp);have h3:=h2.box api (.cells #[.string s] 9);have hB2:=(Blok.new w1 9 #[.string s])
  have hB3:=hB.alloc (.cells #[.string s] 9);obtain⟨d0,d1,d2,d3,d4,d5⟩:=h3.cells;rw[hn] at d3;have q2:=hB2.cell 0;have q3:=hB3.cell 0;have KG1:=Lib.hid ((KG.out.below hb).alloc (.cells #[.string s] 9));generalize hC2:w1.heap.size=B2 at *;generalize hW2:w1.alloc (.cells #[.string s] 9)=W2 at *;have R:=Lib.hid (room_run api h3 OK.out s HZ.out);rw[hq] at R;have K2:=Lib.hid hB2;have K1:=Lib.hid hB3;clear hB hb h2 h3 hB2 hB3 d0 d2 d4 d5;go_wp2_with fail;refine R.out.mono ?_;rintro e w3 ⟨rfl,h4⟩;have KG2:=Lib.hid (KG1.out.call h4 (fun b hb=>by simp[hb]));have H4:=Lib.hid h4;clear h4 R;go_wp2;go_ret;exact⟨rfl,H4.out.undo H0.out KG1.out rfl rfl rfl rfl (fun b hb=>by simp[hb])⟩
 ·rw[if_neg (by simp;omega)];clear h h1 hz ok hr hbig hc c0 c2 c4 c5 hs hH;generalize hn:(L.chunks:Int)=n at *;have hN:=Lib.hid fun W=>(chunk_nm nap L.chunks W (by have:=HC.out;omega))
  have HNZ:=Lib.hid (nmC_le (n:=L.chunks) (by have:=HC.out;omega));rw[hn] at hN;generalize nmC L.chunks=nm at *;have KG:=Lib.hid (H0.out.keep.alloc (.cells #[ptr gl] 30));generalize hB1:w.heap.size=B1 at *;generalize hW1:w.alloc (.cells #[ptr gl] 30)=W1 at *;have HW1:=Lib.hid hW1;go_enter Tryz.func64,Tryz.ntmps64;go_wp2_with fail;refine(hHd.out _).mono ?_;rintro e w1 ⟨rfl,hb⟩;have h2:=H1.out.below api hb;have hB:=HB1.out.touch (Touch.of_below hb) (by simp);have h3:=h2.box api (.cells #[.string s] 9);have hB2:=(Blok.new w1 9 #[.string s])
  have hB3:=hB.alloc (.cells #[.string s] 9);obtain⟨d0,d1,d2,d3,d4,d5⟩:=h3.cells;rw[hn] at d3;have q2:=hB2.cell 0;have q3:=hB3.cell 0;have KG1:=Lib.hid ((KG.out.below hb).alloc (.cells #[.string s] 9));generalize hC2:w1.heap.size=B2 at *;generalize hW2:w1.alloc (.cells #[.string s] 9)=W2 at *;have R:=Lib.hid (room_run api h3 OK.out s HZ.out);rw[hq] at R;have K2:=Lib.hid hB2;have K1:=Lib.hid hB3;clear hB hb h2 h3 hB2 hB3 d0 d2 d4 d5;go_wp2_with fail;refine R.out.mono ?_;rintro e w3 ⟨rfl,h4⟩;have b1:=h4.blok (b:=B1) (by simp) K1.out;have b2:=h4.blok (b:=B2) (by simp) K2.out;have g1:=b1.cell 0;have g3:=h4.cells.2.2.2.1;rw[hn] at g3;have KG2:=Lib.hid (KG1.out.call h4 (fun b hb=>by simp[hb]));have H4:=Lib.hid h4;have X1:=Lib.hid b1;have X2:=Lib.hid b2;clear h4 b1 b2 R;go_wp2_with fail;refine(hN.out _).mono ?_;rintro e w4 ⟨rfl,hb⟩;have h5:=H4.out.below api hb;have x1:=X1.out.touch (Touch.of_below hb) (by simp);have x2:=X2.out.touch (Touch.of_below hb) (by simp);have h6:=h5.box api (.cells #[.string nm] 9);have y3:=(Blok.new w4 9 #[.string nm])
  have y1:=x1.alloc (.cells #[.string nm] 9);have y2:=x2.alloc (.cells #[.string nm] 9);have q1:=y1.cell 0;have KG3:=Lib.hid ((KG2.out.below hb).alloc (.cells #[.string nm] 9));generalize hC4:w4.heap.size=B3 at *;generalize hW4:w4.alloc (.cells #[.string nm] 9)=W4 at *;have hmf:∀ (fn:Fn) (first cap:Array Value) (w:World),(Instr.makeFunc fn first cap).run Tryz.prog w = .ok (.func fn first cap) w:=fun _ _ _ _=>rfl
  have H6:=Lib.hid h6;have Y1:=Lib.hid y1;have Y2:=Lib.hid y2;have Y3:=Lib.hid y3;clear hb h5 x1 x2 h6 y1 y2 y3;go_wp2_with fail;have y4:=Blok.new W4 78 #[.func (.func 92) #[ptr gl] #[],.func (.func 128) #[] #[ptr B1,ptr B3],.func (.func 130) #[] #[ptr B1,ptr B3,ptr B2]];refine(begin_steps api nap (H6.out.box api (.cells #[.func (.func 92) #[ptr gl] #[],.func (.func 128) #[] #[ptr B1,ptr B3],.func (.func 130) #[] #[ptr B1,ptr B3,ptr B2]] 78)) OK.out HC.out (B1:=B1) (B2:=B2) (B3:=B3) (B4:=W4.heap.size) (by simp) (Y1.out.alloc _) (by simp) (Y3.out.alloc _) (by simp) (Y2.out.alloc _) (by simp) _ y4 HNZ.out HZ.out).mono ?_;rintro e w6 ⟨rfl,h7⟩;have h8:=Lib.hid (h7.undo H0.out (KG3.out.alloc _) rfl rfl rfl rfl (fun b hb=>by simp[hb]));clear h7 y4;go_wp2;go_ret;exact⟨rfl,h8.out⟩
end
end Go.Proofs.YtokbfellcadkpaaGreat
namespace Go.Proofs.YtokbfellcadkpaaGreat
open Go.RowKit Go.Shelf
set_option linter.unusedVariables false
set_option maxRecDepth 100000
theorem target_le {D:DiskS}{L:LogS}(ok:WfP D)(hc:L.chunks≤200)(p:ByteArray) : (targetT D L p).1≤L.chunks∧(targetT D L p).2.1≤1048576∧((targetT D L p).2.2=0→(targetT D L p).1≠L.chunks→0<L.chunks):=by
 have hz:=sizeS_le ok (nmC (L.chunks-1));unfold targetT;split
 ·rename_i h0;exact⟨Nat.zero_le _,Nat.le_of_lt (show 12<1048576 by decide),fun _ h=>absurd h0.symm h⟩
 ·split
  ·split
   ·exact⟨Nat.sub_le _ _,hz,fun _ _=>by omega⟩
   ·exact⟨Nat.le_refl _,Nat.le_of_lt (show 12<1048576 by decide),fun _ h=>absurd rfl h⟩
  ·exact⟨Nat.zero_le _,Nat.zero_le _,fun h=>absurd h (by assumption)⟩
theorem wp_then {a:Nat × DiskS × LogS}{f:DiskS→LogS→Nat × DiskS × LogS}(h:WfP a.2.1)(hf:∀ D L,WfP D→WfP (f D L).2.1) : WfP (thenT a f).2.1:=by
 unfold thenT;split
 ·exact hf _ _ h
 ·exact h
theorem wp_begin {D:DiskS}{L:LogS}(ok:WfP D)(r:ByteArray) : WfP (beginT D L r).2.1:=by
 unfold beginT;split
 ·exact ok
 ·exact wp_then (wp_then (wp_sync_t ok) (fun E _ h=>wp_create h _)) (fun E _ h=>wp_append h _ _)
theorem wp_extend {D:DiskS}{L:LogS}(ok:WfP D)(r:ByteArray) : WfP (extendT D L r).2:=by
 unfold extendT;split
 ·exact ok
 ·exact wp_append ok _ _
theorem wp_appendT {D:DiskS}{L:LogS}(ok:WfP D)(p:ByteArray) : WfP (appendT D L p).2.2.1:=by
 unfold appendT;split
 ·exact ok
 ·split
  ·exact ok
  ·split
   ·exact ok
   ·have hb:WfP (if (targetT D L p).1=L.chunks then beginT D L (recS p) else onD (fun E=>extendT E L (recS p)) D L).2.1:=by
     split
     ·exact wp_begin ok _
     ·exact wp_extend ok _
    dsimp only;generalize (if (targetT D L p).1=L.chunks then beginT D L (recS p) else onD (fun E=>extendT E L (recS p)) D L)=r at hb ⊢;split<;>exact hb
section
variable {At : Lies} (api : DiskApi At) (nap : NamesApi) (cap : ChunksApi) {c : Ctx} {gl gd : Nat} {L L' : LogS} {D D' : DiskS} {w w' : World}
include api nap
set_option maxRecDepth 100000 in
theorem flush_run (hm:c.m=ptr gl)(h:TSt At c gl gd L D w)(ok:WfP D)(hc:L.chunks≤200) : Calls Tryz.prog 34 #[ptr gl] w (TRet At c gl gd (err (flushT D L).1) (flushT D L).2.2 (flushT D L).2.1):=by
 have hr:=Lib.hid (tready_run api hm h);have hS:=Lib.hid fun(W:World) (hT:TSt At c gl gd L D W)=>sync_t api nap hT ok hc
 unfold flushT;by_cases he:readyT D L=0
 ·rw[if_neg (by simp[he])];rw[he] at hr;generalize syncT D L=r at *;clear h ok hc he hm;go_enter Tryz.func34,Tryz.ntmps34;go_wp2_with fail;refine hr.out.mono ?_;rintro e w1 ⟨rfl,h1⟩;have H1:=Lib.hid h1;clear h1;go_wp2_with fail;refine(hS.out _ H1.out).mono ?_;rintro e w2 ⟨rfl,h2⟩;have H2:=Lib.hid h2;clear h2;go_wp2;go_ret;exact⟨rfl,H2.out⟩
 ·rw[if_pos he];have t:((readyT D L:Int) != 0)=true:=by simp;omega
  generalize readyT D L=y at *;clear h ok hc he hm hS;go_enter Tryz.func34,Tryz.ntmps34;go_wp2_with fail;refine hr.out.mono ?_;rintro e w1 ⟨rfl,h1⟩;have H1:=Lib.hid h1;clear h1;go_wp2;go_ret;exact⟨rfl,H1.out⟩
variable (cap : ChunksApi)
include cap
set_option maxRecDepth 100000 in
set_option maxHeartbeats 2000000 in
theorem append_run_t (hm:c.m=ptr gl)(h:TSt At c gl gd L D w)(ok:WfP D)(hc:L.chunks≤200)(p:ByteArray)(hp:p.size≤maxLen) : Calls Tryz.prog 15 #[ptr gl,.string p] w (TRet At c gl gd (.tuple #[.int .i64 ((appendT D L p).1:Nat),err (appendT D L p).2.1]) (appendT D L p).2.2.2 (appendT D L p).2.2.1):=by
 have hr:=Lib.hid (tready_run api hm h);unfold appendT;by_cases he:readyT D L=0
 case neg =>
  rw[if_pos he];have t:((readyT D L:Int) != 0)=true:=by simp;omega
  generalize readyT D L=y at *;clear h ok hc he hm hp;go_enter Tryz.func15,Tryz.ntmps15;go_wp2_with fail;refine hr.out.mono ?_;rintro e w1 ⟨rfl,h1⟩;have H1:=Lib.hid h1;clear h1;go_wp2;go_ret2;exact⟨rfl,H1.out⟩
 rw[if_neg (by simp[he])];rw[he] at hr;clear he;have hP:=Lib.hid fun(W:World)=>cap.put p W hp
 by_cases hl:2000<p.size
 ·rw[if_pos hl];have e1:prE p=3:=by unfold prE;rw[if_pos hl]
  rw[e1] at hP;generalize prS p=rc at *;clear h ok hc hm hp hl e1;go_enter Tryz.func15,Tryz.ntmps15;go_wp2_with fail;refine hr.out.mono ?_;rintro e w1 ⟨rfl,h1⟩;have H1:=Lib.hid h1;clear h1;go_wp2_with fail;refine(hP.out _).mono ?_;rintro e w2 ⟨rfl,hb⟩;have H2:=Lib.hid (H1.out.below api hb);clear hb;go_wp2;go_ret2;exact⟨rfl,H2.out⟩
 rw[if_neg hl];have e1:prE p=0:=by unfold prE;rw[if_neg hl]
 have e2:prS p=recS p:=by unfold prS;rw[if_neg hl]
 rw[e1,e2] at hP;have hz:(recS p).size≤2012:=by rw[recS_size];omega
 have hT:=Lib.hid fun(W:World) (hT:TSt At c gl gd L D W)=>target_run api nap cap hT ok hc p hp
 obtain⟨g1,g2,g3⟩:=target_le ok hc p;generalize targetT D L p=tg at *;obtain⟨n,a,e⟩:=tg;dsimp only at g1 g2 g3 hT ⊢;by_cases he:e=0
 case neg =>
  rw[if_pos he];have t:((e:Int) != 0)=true:=by simp;omega
  generalize recS p=rc at *;clear h ok hc hm hp hl e1 e2 g1 g2 g3 hz he;go_enter Tryz.func15,Tryz.ntmps15;go_wp2_with fail;refine hr.out.mono ?_;rintro e w1 ⟨rfl,h1⟩;have H1:=Lib.hid h1;clear h1;go_wp2_with fail;refine(hP.out _).mono ?_;rintro e w2 ⟨rfl,hb⟩;have H2:=Lib.hid (H1.out.below api hb);clear hb;go_wp2_with fail;refine(hT.out _ H2.out).mono ?_;rintro e w3 ⟨rfl,h3⟩;have H3:=Lib.hid h3;clear h3;go_wp2;go_ret2;exact⟨rfl,H3.out⟩
 subst he;rw[if_neg (by simp)];have hFr:=Lib.hid fun(W:World)=>front_run n W (by omega)
 have k1:(n:Int)≤200:=by omega
 have k2:(a:Int)≤1048576:=by omega
 have k3:(0:Int)≤n:=by omega
 have k4:(0:Int)≤a:=by omega
 have k5:((recS p).size:Int)≤2012:=by omega
 have hw1:IntKind.i64.wrap ((n:Int)*4096+(a:Int))=(n:Int)*4096+(a:Int):=IntWalk.i64_in _ (by omega);have hw2:IntKind.i64.wrap ((n:Int)*4096+(a:Int)+((recS p).size:Nat))=(n:Int)*4096+(a:Int)+((recS p).size:Nat):=IntWalk.i64_in _ (by omega);have hw3:IntKind.i64.wrap ((n:Int)+1)=(n:Int)+1:=IntWalk.i64_in _ (by omega);have eN:((4096*n+a:Nat):Int)=(n:Int)*4096+(a:Int):=by omega
 have eE:((4096*n+a+(recS p).size:Nat):Int)=(n:Int)*4096+(a:Int)+((recS p).size:Nat):=by omega
 by_cases hn:n=L.chunks
 ·rw[if_pos hn];have hB:=Lib.hid fun(W:World) (hT:TSt At c gl gd L D W)=>begin_run api nap cap hT ok hc (recS p) (by omega)
  generalize beginT D L (recS p)=r at *;generalize recS p=rc at *;have t1:((n:Int)==(L.chunks:Int))=true:=by rw[hn];simp
  have EN:=Lib.hid eN;have EE:=Lib.hid eE;have HN:=Lib.hid hn;by_cases h0:r.1=0
  case neg =>
   rw[if_pos h0];have t:((r.1:Int) != 0)=true:=by simp;omega
   generalize r.1=y at *;clear h ok hc hm hp hl e1 e2 g1 g2 g3 hz h0 k1 k2 k3 k4 k5 hn eN eE;go_enter Tryz.func15,Tryz.ntmps15;go_wp2_with fail;refine hr.out.mono ?_;rintro e w1 ⟨rfl,h1⟩;have H1:=Lib.hid h1;clear h1;go_wp2_with fail;refine(hP.out _).mono ?_;rintro e w2 ⟨rfl,hb⟩;have H2:=Lib.hid (H1.out.below api hb);clear hb;go_wp2_with fail;refine(hT.out _ H2.out).mono ?_;rintro e w3 ⟨rfl,h3⟩;have c3:=h3.cells.2.2.2.1;have H3:=Lib.hid h3;clear h3;go_wp2_with fail;refine(hB.out _ H3.out).mono ?_;rintro e w4 ⟨rfl,h4⟩;have H4:=Lib.hid h4;clear h4;go_wp2;go_ret2;exact⟨rfl,H4.out⟩
  rw[if_neg (by simp[h0])];rw[h0] at hB;clear h ok hc hm hp hl e1 e2 g1 g2 g3 hz h0 k1 k2 k3 k4 k5 hn eN eE;go_enter Tryz.func15,Tryz.ntmps15;go_wp2_with fail;refine hr.out.mono ?_;rintro e w1 ⟨rfl,h1⟩;have H1:=Lib.hid h1;clear h1;go_wp2_with fail;refine(hP.out _).mono ?_;rintro e w2 ⟨rfl,hb⟩;have H2:=Lib.hid (H1.out.below api hb);clear hb;go_wp2_with fail;refine(hT.out _ H2.out).mono ?_;rintro e w3 ⟨rfl,h3⟩;have c3:=h3.cells.2.2.2.1;have H3:=Lib.hid h3;clear h3;go_wp2_with fail;refine(hB.out _ H3.out).mono ?_;rintro e w4 ⟨rfl,h4⟩;have H4:=Lib.hid h4;clear h4;go_wp2_with fail;refine(hFr.out _).mono ?_;rintro e w5 ⟨rfl,rfl⟩;have d3:=H4.out.cells.2.2.2.1;have d4:=H4.out.cells.2.2.2.2.1;have f3:=H4.out.frozen 3;have f4:=H4.out.frozen 4;go_wp2;have HF:=(H4.out.putChunks api (n+1)).putEnd api (4096*n+a+rc.size);rw[EE.out,show((n+1:Nat):Int)=(n:Int)+1 from by omega] at HF;go_ret2;exact⟨by rw[EN.out];rfl,HF⟩
 ·rw[if_neg hn];have h0c:=g3 rfl hn;have hB:=Lib.hid fun(W:World) (hT:TSt At c gl gd L D W)=>(show Calls Tryz.prog 65 #[ptr gl,.string (recS p)] W (TRet At c gl gd (err (onD (fun E=>extendT E L (recS p)) D L).1) (onD (fun E=>extendT E L (recS p)) D L).2.2 (onD (fun E=>extendT E L (recS p)) D L).2.1) from extend_run api nap hT ok hc h0c (recS p) (by omega))
  generalize onD (fun E=>extendT E L (recS p)) D L=r at *;generalize recS p=rc at *;have t1:((n:Int)==(L.chunks:Int))=false:=by simp;omega
  have EN:=Lib.hid eN;have EE:=Lib.hid eE;by_cases h0:r.1=0
  case neg =>
   rw[if_pos h0];have t:((r.1:Int) != 0)=true:=by simp;omega
   generalize r.1=y at *;clear h ok hc hm hp hl e1 e2 g1 g2 g3 hz h0 k1 k2 k3 k4 k5 hn eN eE h0c;go_enter Tryz.func15,Tryz.ntmps15;go_wp2_with fail;refine hr.out.mono ?_;rintro e w1 ⟨rfl,h1⟩;have H1:=Lib.hid h1;clear h1;go_wp2_with fail;refine(hP.out _).mono ?_;rintro e w2 ⟨rfl,hb⟩;have H2:=Lib.hid (H1.out.below api hb);clear hb;go_wp2_with fail;refine(hT.out _ H2.out).mono ?_;rintro e w3 ⟨rfl,h3⟩;have c3:=h3.cells.2.2.2.1;have H3:=Lib.hid h3;clear h3;go_wp2_with fail;refine(hB.out _ H3.out).mono ?_;rintro e w4 ⟨rfl,h4⟩;have H4:=Lib.hid h4;clear h4;go_wp2;go_ret2;exact⟨rfl,H4.out⟩
  rw[if_neg (by simp[h0])];rw[h0] at hB;clear h ok hc hm hp hl e1 e2 g1 g2 g3 hz h0 k1 k2 k3 k4 k5 hn eN eE h0c;go_enter Tryz.func15,Tryz.ntmps15;go_wp2_with fail;refine hr.out.mono ?_;rintro e w1 ⟨rfl,h1⟩;have H1:=Lib.hid h1;clear h1;go_wp2_with fail;refine(hP.out _).mono ?_;rintro e w2 ⟨rfl,hb⟩;have H2:=Lib.hid (H1.out.below api hb);clear hb;go_wp2_with fail;refine(hT.out _ H2.out).mono ?_;rintro e w3 ⟨rfl,h3⟩;have c3:=h3.cells.2.2.2.1;have H3:=Lib.hid h3;clear h3;go_wp2_with fail;refine(hB.out _ H3.out).mono ?_;rintro e w4 ⟨rfl,h4⟩;have H4:=Lib.hid h4;clear h4;go_wp2_with fail;refine(hFr.out _).mono ?_;rintro e w5 ⟨rfl,rfl⟩;have d3:=H4.out.cells.2.2.2.1;have d4:=H4.out.cells.2.2.2.2.1;have f3:=H4.out.frozen 3;have f4:=H4.out.frozen 4;go_wp2;have HF:=(H4.out.putChunks api (n+1)).putEnd api (4096*n+a+rc.size);rw[EE.out,show((n+1:Nat):Int)=(n:Int)+1 from by omega] at HF;go_ret2;exact⟨by rw[EN.out];rfl,HF⟩
end
end Go.Proofs.YtokbfellcadkpaaGreat
namespace Go.Proofs.YtokbfellcadkpaaGreat
open Go.RowKit Go.Shelf
set_option linter.unusedVariables false
set_option maxRecDepth 100000
theorem newB_le : newB.size≤maxLen:=by decide
def pick5 {α:Type}(a b c d e:α) : Nat→α
 | 0=>a
 | 1=>b
 | 2=>c
 | 3=>d
 | _=>e
section
variable {At : Lies} (api : DiskApi At) {c : Ctx} {gl gd : Nat} {L L' : LogS} {D D' : DiskS} {w w' : World} {B1 B2 B3 : Nat} {nm s : ByteArray}
include api
set_option maxRecDepth 100000 in
theorem rewrite1_run (h:TSt At c gl gd L D w)(ok:WfP D)(m1:B1∈c.G)(k1:Blok c.wG B1 30 #[ptr gl]) :
  Calls Tryz.prog 186 #[ptr B1] w (TRet At c gl gd (err (createS D newB).1) L (createS D newB).2):=by
 have hS:=Lib.hid fun(W:World) (hT:TSt At c gl gd L D W)=>hT.disk api (fun F hF=>api.create newB hF ok.ok newB_le)
 have HH:=Lib.hid h;have b1:w.cell? ⟨B1,0,none⟩=some (ptr gl):=(h.blok m1 k1).cell 0;have c1:=h.cells.2.1;have M1:=Lib.hid m1;have K1:=Lib.hid k1;generalize createS D newB=D1 at *;have enw:(⟨#[110,101,119]⟩:ByteArray)=newB:=rfl;clear h ok m1 k1;go_enter Tryz.func186,Tryz.ntmps186;go_wp2_with fail;refine(hS.out _ HH.out).mono ?_;rintro e w2 ⟨rfl,h2⟩;have H3:=Lib.hid h2;clear h2;go_wp2;go_ret;exact⟨rfl,H3.out⟩
set_option maxRecDepth 100000 in
theorem rewrite2_run (h:TSt At c gl gd L D w)(ok:WfP D)(m1:B1∈c.G)(k1:Blok c.wG B1 30 #[ptr gl])(m2:B3∈c.G)(k2:Blok c.wG B3 9 #[.string s])(hs:s.size≤1100000) :
  Calls Tryz.prog 187 #[ptr B1,ptr B3] w (TRet At c gl gd (err (appendS D newB s).1) L (appendS D newB s).2):=by
 have hS:=Lib.hid fun(W:World) (hT:TSt At c gl gd L D W)=>hT.disk api (fun F hF=>api.append newB s hF ok.ok (by omega) newB_le)
 have HH:=Lib.hid h;have b1:w.cell? ⟨B1,0,none⟩=some (ptr gl):=(h.blok m1 k1).cell 0;have c1:=h.cells.2.1;have M1:=Lib.hid m1;have K1:=Lib.hid k1;have b3:w.cell? ⟨B3,0,none⟩=some (.string s):=(h.blok m2 k2).cell 0;have M3:=Lib.hid m2;have K3:=Lib.hid k2;generalize appendS D newB s=D1 at *;have enw:(⟨#[110,101,119]⟩:ByteArray)=newB:=rfl;clear h ok m1 k1 m2 k2 hs;go_enter Tryz.func187,Tryz.ntmps187;go_wp2_with fail
 go_region_held3 (fun w'=>w'.cell? ⟨B1,0,none⟩=some (ptr gl)∧w'.cell? ⟨gl,1,none⟩=some (ptr gd)∧w'.cell? ⟨B3,0,none⟩=some (.string s)) (first | assumption | exact⟨by assumption,by assumption,by assumption⟩ | exact⟨b1,c1,b3⟩) (first
  | (go_at_call 131;refine(hS.out _ (by first | exact HH.out.drew api | exact HH.out)).mono ?_;rintro e w2 ⟨rfl,h2⟩;have e1:w2.cell? ⟨gl,1,none⟩=some (ptr gd):=h2.cells.2.1;have e2:w2.cell? ⟨B1,0,none⟩=some (ptr gl):=(h2.blok M1.out K1.out).cell 0;have e3:w2.cell? ⟨B3,0,none⟩=some (.string s):=(h2.blok M3.out K3.out).cell 0)
  | fail)
 all_goals
  have H3:=Lib.hid h2;clear h2;go_wp2;go_ret;exact⟨rfl,H3.out⟩
set_option maxRecDepth 100000 in
theorem rewrite3_run (h:TSt At c gl gd L D w)(ok:WfP D)(m1:B1∈c.G)(k1:Blok c.wG B1 30 #[ptr gl]) :
  Calls Tryz.prog 188 #[ptr B1] w (TRet At c gl gd (err (syncS D newB).1) L (syncS D newB).2):=by
 have hS:=Lib.hid fun(W:World) (hT:TSt At c gl gd L D W)=>hT.disk api (fun F hF=>api.sync newB hF ok.ok newB_le)
 have HH:=Lib.hid h;have b1:w.cell? ⟨B1,0,none⟩=some (ptr gl):=(h.blok m1 k1).cell 0;have c1:=h.cells.2.1;have M1:=Lib.hid m1;have K1:=Lib.hid k1;generalize syncS D newB=D1 at *;have enw:(⟨#[110,101,119]⟩:ByteArray)=newB:=rfl;clear h ok m1 k1;go_enter Tryz.func188,Tryz.ntmps188;go_wp2_with fail;refine(hS.out _ HH.out).mono ?_;rintro e w2 ⟨rfl,h2⟩;have H3:=Lib.hid h2;clear h2;go_wp2;go_ret;exact⟨rfl,H3.out⟩
set_option maxRecDepth 100000 in
theorem rewrite4_run (h:TSt At c gl gd L D w)(ok:WfP D)(m1:B1∈c.G)(k1:Blok c.wG B1 30 #[ptr gl])(m2:B2∈c.G)(k2:Blok c.wG B2 9 #[.string nm])(hn:nm.size≤maxLen) :
  Calls Tryz.prog 189 #[ptr B1,ptr B2] w (TRet At c gl gd (err (renameS D newB nm).1) L (renameS D newB nm).2):=by
 have hS:=Lib.hid fun(W:World) (hT:TSt At c gl gd L D W)=>hT.disk api (fun F hF=>api.rename newB nm hF ok.ok hn newB_le)
 have HH:=Lib.hid h;have b1:w.cell? ⟨B1,0,none⟩=some (ptr gl):=(h.blok m1 k1).cell 0;have c1:=h.cells.2.1;have M1:=Lib.hid m1;have K1:=Lib.hid k1;have b3:w.cell? ⟨B2,0,none⟩=some (.string nm):=(h.blok m2 k2).cell 0;have M3:=Lib.hid m2;have K3:=Lib.hid k2;generalize renameS D newB nm=D1 at *;have enw:(⟨#[110,101,119]⟩:ByteArray)=newB:=rfl;clear h ok m1 k1 m2 k2 hn;go_enter Tryz.func189,Tryz.ntmps189;go_wp2_with fail
 go_region_held3 (fun w'=>w'.cell? ⟨B1,0,none⟩=some (ptr gl)∧w'.cell? ⟨gl,1,none⟩=some (ptr gd)∧w'.cell? ⟨B2,0,none⟩=some (.string nm)) (first | assumption | exact⟨by assumption,by assumption,by assumption⟩ | exact⟨b1,c1,b3⟩) (first
  | (go_at_call 190;refine(hS.out _ (by first | exact HH.out.drew api | exact HH.out)).mono ?_;rintro e w2 ⟨rfl,h2⟩;have e1:w2.cell? ⟨gl,1,none⟩=some (ptr gd):=h2.cells.2.1;have e2:w2.cell? ⟨B1,0,none⟩=some (ptr gl):=(h2.blok M1.out K1.out).cell 0;have e3:w2.cell? ⟨B2,0,none⟩=some (.string nm):=(h2.blok M3.out K3.out).cell 0)
  | fail)
 all_goals
  have H3:=Lib.hid h2;clear h2;go_wp2;go_ret;exact⟨rfl,H3.out⟩
theorem rewrite_steps {B4:Nat}(h:TSt At c gl gd L D w)(ok:WfP D)(m1:B1∈c.G)(k1:Blok c.wG B1 30 #[ptr gl])(m2:B2∈c.G)(k2:Blok c.wG B2 9 #[.string nm])(m3:B3∈c.G)(k3:Blok c.wG B3 9 #[.string s])
  (m4:B4∈c.G) (t4:TypeId) (k4:Blok c.wG B4 t4 #[.func (.func 186) #[] #[ptr B1],.func (.func 187) #[] #[ptr B1,ptr B3],.func (.func 188) #[] #[ptr B1],.func (.func 189) #[] #[ptr B1,ptr B2]]) (hn:nm.size≤maxLen) (hs:s.size≤1100000) :
  Calls Tryz.prog 24 #[.slice (some ⟨B4,0,none⟩) 4 4] w (TRet At c gl gd (err (rewriteT D nm s).1) L (rewriteT D nm s).2):=by
 have ok1:WfP (createS D newB).2:=wp_create ok newB;have ok2:WfP (appendS (createS D newB).2 newB s).2:=wp_append ok1 newB s;have ok3:WfP (syncS (appendS (createS D newB).2 newB s).2 newB).2:=wp_sync ok2 newB
 have H:=steps_run (b:=B4) (n:=4) (by omega) (pick5 (createS D newB).1 (appendS (createS D newB).2 newB s).1 (syncS (appendS (createS D newB).2 newB s).2 newB).1 (renameS (syncS (appendS (createS D newB).2 newB s).2 newB).2 newB nm).1 0)
  (fun k W=>TSt At c gl gd L (pick5 D (createS D newB).2 (appendS (createS D newB).2 newB s).2 (syncS (appendS (createS D newB).2 newB s).2 newB).2 (renameS (syncS (appendS (createS D newB).2 newB s).2 newB).2 newB nm).2 k) W)
  (pick5 186 187 188 189 0) (pick5 #[] #[] #[] #[] #[]) (pick5 #[ptr B1] #[ptr B1,ptr B3] #[ptr B1] #[ptr B1,ptr B2] #[])
  (fun k hk=>by
   match k,hk with
   | 0,_=>exact enters_of Tryz.func186 (by kernel_rfl) rfl
   | 1,_=>exact enters_of Tryz.func187 (by kernel_rfl) rfl
   | 2,_=>exact enters_of Tryz.func188 (by kernel_rfl) rfl
   | 3,_=>exact enters_of Tryz.func189 (by kernel_rfl) rfl)
  (fun k W hk hT=>by
   have q:=(hT.blok m4 k4).cell k
   match k,hk with
   | 0,_=>exact q
   | 1,_=>exact q
   | 2,_=>exact q
   | 3,_=>exact q)
  (fun k W hk hT=>by
   match k,hk with
   | 0,_=>exact rewrite1_run api hT ok m1 k1
   | 1,_=>exact rewrite2_run api hT ok1 m1 k1 m3 k3 hs
   | 2,_=>exact rewrite3_run api hT ok2 m1 k1
   | 3,_=>exact rewrite4_run api hT ok3 m1 k1 m2 k2 hn) w h
 refine H.mono ?_;rintro e w' ⟨rfl,hT⟩;unfold rewriteT;by_cases e0:(createS D newB).1=0
 ·by_cases e1:(appendS (createS D newB).2 newB s).1=0
  ·by_cases e2:(syncS (appendS (createS D newB).2 newB s).2 newB).1=0
   ·by_cases e3:(renameS (syncS (appendS (createS D newB).2 newB s).2 newB).2 newB nm).1=0
    ·simp[stR,pick5,thenD,e0,e1,e2,e3] at hT ⊢;exact⟨by simp,hT⟩
    ·simp[stR,pick5,thenD,e0,e1,e2,e3] at hT ⊢;exact⟨rfl,hT⟩
   ·simp[stR,pick5,thenD,e0,e1,e2] at hT ⊢;exact⟨rfl,hT⟩
  ·simp[stR,pick5,thenD,e0,e1] at hT ⊢;exact⟨rfl,hT⟩
 ·simp[stR,pick5,thenD,e0] at hT ⊢;exact⟨rfl,hT⟩
set_option maxRecDepth 100000 in
theorem rewrite_run (h:TSt At c gl gd L D w)(ok:WfP D)(hn:nm.size≤maxLen)(hs:s.size≤1100000) :
  Calls Tryz.prog 146 #[ptr gl,.string nm,.string s] w (TRet At c gl gd (err (rewriteT D nm s).1) L (rewriteT D nm s).2):=by
 have OK:=Lib.hid ok;have HN:=Lib.hid hn;have HS:=Lib.hid hs;have H0:=Lib.hid h;have h1:=h.box api (.cells #[ptr gl] 30);have k1:=Blok.new w 30 #[ptr gl];have kg:=h.keep.alloc (.cells #[ptr gl] 30);generalize hB1:w.heap.size=B1 at *;generalize hW1:w.alloc (.cells #[ptr gl] 30)=W1 at *;have h2:=h1.box api (.cells #[.string nm] 9);have k2:=Blok.new W1 9 #[.string nm];have k1:=k1.alloc (.cells #[.string nm] 9);have kg:=kg.alloc (.cells #[.string nm] 9);generalize hB2:W1.heap.size=B2 at *;generalize hW2:W1.alloc (.cells #[.string nm] 9)=W2 at *;have h3:=h2.box api (.cells #[.string s] 9);have k3:=Blok.new W2 9 #[.string s];have k1:=k1.alloc (.cells #[.string s] 9);have k2:=k2.alloc (.cells #[.string s] 9);have kg:=kg.alloc (.cells #[.string s] 9);generalize hB3:W2.heap.size=B3 at *;generalize hW3:W2.alloc (.cells #[.string s] 9)=W3 at *;have h4:=h3.box api (.cells #[.func (.func 186) #[] #[ptr B1],.func (.func 187) #[] #[ptr B1,ptr B3],.func (.func 188) #[] #[ptr B1],.func (.func 189) #[] #[ptr B1,ptr B2]] 78);have k4:=Blok.new W3 78 #[.func (.func 186) #[] #[ptr B1],.func (.func 187) #[] #[ptr B1,ptr B3],.func (.func 188) #[] #[ptr B1],.func (.func 189) #[] #[ptr B1,ptr B2]];have kg:=kg.alloc (.cells #[.func (.func 186) #[] #[ptr B1],.func (.func 187) #[] #[ptr B1,ptr B3],.func (.func 188) #[] #[ptr B1],.func (.func 189) #[] #[ptr B1,ptr B2]] 78);have hmf:∀ (fn:Fn) (first cap:Array Value) (w:World),(Instr.makeFunc fn first cap).run Tryz.prog w = .ok (.func fn first cap) w:=fun _ _ _ _=>rfl
 have R:=Lib.hid (rewrite_steps api h4 OK.out (B1:=B1) (B2:=B2) (B3:=B3) (by simp) (k1.alloc _) (by simp) (k2.alloc _) (by simp) (k3.alloc _) (by simp) _ k4 HN.out HS.out);have KG:=Lib.hid kg;clear h ok hn hs h1 h2 h3 h4 k1 k2 k3 k4 kg;go_enter Tryz.func146,Tryz.ntmps146;go_wp2_with fail;refine R.out.mono ?_;rintro e w6 ⟨rfl,h7⟩;have h8:=Lib.hid (h7.undo H0.out KG.out rfl rfl rfl rfl (fun b hb=>by simp[hb]));clear h7;go_wp2;go_ret;exact⟨rfl,h8.out⟩
end
end Go.Proofs.YtokbfellcadkpaaGreat
namespace Go.Proofs.YtokbfellcadkpaaGreat
set_option maxRecDepth 100000
set_option linter.unusedVariables false
section
theorem rdC_of {D:DiskS}{n:ByteArray}{f:FileS}(hd:D.down=false)(h:fileOf D.l n=some f) : rdC D n=(f.data,0, { D with count:=D.count+1 }):=by
 unfold rdC;rw[sizeS_of hd h,if_pos rfl];have:=readS_of (a:=0) (k:=f.data.size) hd h (by omega);rw[Nat.zero_add] at this
 have e:f.data.extract 0 f.data.size=f.data:=by
  apply ByteArray.ext;rw[ByteArray.data_extract];exact Array.extract_size
 rw[e] at this;exact this
end
end Go.Proofs.YtokbfellcadkpaaGreat
namespace Go.Proofs.YtokbfellcadkpaaGreat
open Go.RowKit Go.Shelf
set_option linter.unusedVariables false
set_option maxRecDepth 100000
section
variable {At : Lies} (api : DiskApi At) (nap : NamesApi) {c : Ctx} {gl gd : Nat} {L L' : LogS} {D D' : DiskS} {w w' : World}
include api nap
abbrev ReadTo (At:Lies)(c:Ctx)(gl gd:Nat)(L:LogS)(r:ByteArray × Nat × DiskS) : Ending→World→Prop:=TRet At c gl gd (.tuple #[.string r.1,err r.2.1]) L r.2.2
omit nap in
omit nap in
set_option maxRecDepth 100000 in
set_option maxHeartbeats 2000000 in
theorem tread_out (hm:c.m=ptr gl)(h:TSt At c gl gd L D w)(pos:Int)(hw:(Lit.int .i64 pos).wf=true)(hc:L.chunks≤200)(hp:pos<0∨(L.chunks:Int)≤pos/4096∨pos%4096<12)(hr0:readyT D L=0) : Calls Tryz.prog 28 #[ptr gl,.int .i64 pos] w (ReadTo At c gl gd L (ByteArray.empty,4,D)):=by
 have hr:=Lib.hid (tready_run api hm h);rw[hr0] at hr;have bb:=bounds_i64 hw;rcases(show pos<0∨0≤pos by omega) with hneg | hpos
 ·have t1:decide (pos<0)=true:=decide_eq_true hneg;clear hp h hm hr0 hc;go_enter Tryz.func28,Tryz.ntmps28;go_wp2_with fail;refine hr.out.mono ?_;rintro e w1 ⟨rfl,h1⟩;have H1:=Lib.hid h1;clear h1;go_wp2;go_ret2;exact⟨rfl,H1.out⟩
 ·obtain⟨p,rfl⟩:∃ p:Nat,pos=p:=⟨pos.toNat,by omega⟩
  have t1:decide ((p:Int)<0)=false:=decide_eq_false (by omega);have e1:(p:Int).tdiv 4096=((p/4096:Nat):Int):=by rw[Int.tdiv_eq_ediv_of_nonneg (by omega)];omega
  have e2:(p:Int).tmod 4096=((p%4096:Nat):Int):=by rw[Int.tmod_eq_emod_of_nonneg (by omega)];omega
  have hw1:IntKind.i64.wrap ((p/4096:Nat):Int)=((p/4096:Nat):Int):=IntWalk.i64_in _ (by omega);by_cases hq:L.chunks≤p/4096
  ·have t2:decide ((L.chunks:Int)≤((p/4096:Nat):Int))=true:=decide_eq_true (by omega);generalize p/4096=q at *;generalize p%4096=a at *;have HM:=Lib.hid hm;generalize hn:(L.chunks:Int)=n at *;have HN:=Lib.hid hn;clear hp h hm hr0 hq bb hw hc hpos;go_enter Tryz.func28,Tryz.ntmps28;go_wp2_with fail;refine hr.out.mono ?_;rintro e w1 ⟨rfl,h1⟩;have c3:=h1.cells.2.2.2.1;rw[HN.out] at c3;have H1:=Lib.hid h1;clear h1;go_wp2;go_ret2;exact⟨rfl,H1.out⟩
  ·have t2:decide ((L.chunks:Int)≤((p/4096:Nat):Int))=false:=decide_eq_false (by omega);have t3:decide (((p%4096:Nat):Int)<12)=true:=decide_eq_true (by omega);generalize p/4096=q at *;generalize p%4096=a at *;have HM:=Lib.hid hm;generalize hn:(L.chunks:Int)=n at *;have HN:=Lib.hid hn;clear hp h hm hr0 hq bb hw hc hpos;go_enter Tryz.func28,Tryz.ntmps28;go_wp2_with fail;refine hr.out.mono ?_;rintro e w1 ⟨rfl,h1⟩;have c3:=h1.cells.2.2.2.1;rw[HN.out] at c3;have H1:=Lib.hid h1;clear h1;go_wp2;go_ret2;exact⟨rfl,H1.out⟩
set_option maxRecDepth 100000 in
set_option maxHeartbeats 1600000 in
theorem tread_in (hm:c.m=ptr gl)(h:TSt At c gl gd L D w)(ok:WfP D)(hct:D.count≤1000000000)(p:Nat)(hw:(Lit.int .i64 (p:Nat)).wf=true)(hc:L.chunks≤200)(hp1:p/4096<L.chunks)(hp2:12≤p%4096)(hr0:readyT D L=0) : Calls Tryz.prog 28 #[ptr gl,.int .i64 (p:Nat)] w (ReadTo At c gl gd L (readC D (nmC (p/4096)) (p%4096))):=by
 have hr:=Lib.hid (tready_run api hm h);rw[hr0] at hr;have bb:=bounds_i64 hw;have t1:decide ((p:Int)<0)=false:=decide_eq_false (by omega);have e1:(p:Int).tdiv 4096=((p/4096:Nat):Int):=by rw[Int.tdiv_eq_ediv_of_nonneg (by omega)];omega
 have e2:(p:Int).tmod 4096=((p%4096:Nat):Int):=by rw[Int.tmod_eq_emod_of_nonneg (by omega)];omega
 have hw1:IntKind.i64.wrap ((p/4096:Nat):Int)=((p/4096:Nat):Int):=IntWalk.i64_in _ (by omega);have t2:decide ((L.chunks:Int)≤((p/4096:Nat):Int))=false:=decide_eq_false (by omega);have t3:decide (((p%4096:Nat):Int)<12)=false:=decide_eq_false (by omega);have hal:p%4096<4096:=Nat.mod_lt _ (by omega);have hql:p/4096≤999999:=by omega
 generalize p/4096=q at *;generalize p%4096=a at *;generalize hn:(L.chunks:Int)=n at *;have HN:=Lib.hid hn;have hz:=sizeS_le ok (nmC q);have hN:=Lib.hid fun W=>chunk_nm nap q W hql
 have hNZ:=nmC_le hql;have hS:=Lib.hid fun(W:World) (hT:TSt At c gl gd L D W)=>(show Calls Tryz.prog 50 #[ptr gd,.string (nmC q)] W (TRet At c gl gd (.tuple #[.int .i64 ((sizeS D (nmC q)).1:Nat),err (sizeS D (nmC q)).2]) L D) from hT.same (api.sizeq (nmC q) (Classical.choose_spec hT).1 ok.ok hNZ))
 generalize nmC q=nm at *;have hR:=Lib.hid fun(W:World) (hT:TSt At c gl gd L D W)=>hT.disk api (fun F hF=>api.read nm (a:Nat) 4 hF ok.ok (by omega) (wf_nat (by omega)) (by decide) hNZ)
 unfold readC;by_cases hz2:(sizeS D nm).2=0
 case neg =>
  rw[if_pos hz2];have t4:(((sizeS D nm).2:Int) != 0)=true:=by simp;omega
  generalize (sizeS D nm).2=y at *;generalize (sizeS D nm).1=z at *;clear h ok hct hc hp1 hp2 hr0 bb hw hn hm hz hz2 hal hql hNZ hR;go_enter Tryz.func28,Tryz.ntmps28;go_wp2_with fail;refine hr.out.mono ?_;rintro e w1 ⟨rfl,h1⟩;have c3:=h1.cells.2.2.2.1;rw[HN.out] at c3;have H1:=Lib.hid h1;clear h1;go_wp2_with fail;refine(hN.out _).mono ?_;rintro e w2 ⟨rfl,hb⟩;have h2:=H1.out.below api hb;have d1:=h2.cells.2.1;have H2:=Lib.hid h2;clear hb h2;go_wp2_with fail;refine(hS.out _ H2.out).mono ?_;rintro e w3 ⟨rfl,h3⟩;have d3:=h3.cells.2.1;have H3:=Lib.hid h3;clear h3;go_wp2;go_ret2;exact⟨rfl,H3.out⟩
 rw[if_neg (by simp[hz2])];rw[hz2] at hS;have b3:IntKind.i64.wrap (((sizeS D nm).1:Int)-(a:Nat))=((sizeS D nm).1:Int)-(a:Nat):=IntWalk.i64_in _ (by omega);have b4:IntKind.i64.wrap (((sizeS D nm).1:Int)-(a:Nat)-12)=((sizeS D nm).1:Int)-(a:Nat)-12:=IntWalk.i64_in _ (by omega);by_cases hlt:(sizeS D nm).1<a+12
 ·rw[if_pos hlt];have t4:decide (((sizeS D nm).1:Int)-(a:Nat)-12<0)=true:=decide_eq_true (by omega);generalize (sizeS D nm).1=z at *;clear h ok hct hc hp1 hp2 hr0 bb hw hn hm hz hz2 hal hql hNZ hR hlt;go_enter Tryz.func28,Tryz.ntmps28;go_wp2_with fail;refine hr.out.mono ?_;rintro e w1 ⟨rfl,h1⟩;have c3:=h1.cells.2.2.2.1;rw[HN.out] at c3;have H1:=Lib.hid h1;clear h1;go_wp2_with fail;refine(hN.out _).mono ?_;rintro e w2 ⟨rfl,hb⟩;have h2:=H1.out.below api hb;have d1:=h2.cells.2.1;have H2:=Lib.hid h2;clear hb h2;go_wp2_with fail;refine(hS.out _ H2.out).mono ?_;rintro e w3 ⟨rfl,h3⟩;have d3:=h3.cells.2.1;have H3:=Lib.hid h3;clear h3;go_wp2;go_ret2;exact⟨rfl,H3.out⟩
 rw[if_neg hlt];have t4:decide (((sizeS D nm).1:Int)-(a:Nat)-12<0)=false:=decide_eq_false (by omega);have hct1:=readS_count D nm (a:Nat) 4;have ok1:WfP (readS D nm (a:Nat) 4).2.2:=wp_read ok nm (a:Nat) 4;have hsz:=readS_size (n:=nm) (a:=(a:Nat)) (k:=4) ok;generalize readS D nm (a:Nat) 4=b at *;obtain⟨s4,y4,D4⟩:=b;dsimp only at hct1 ok1 hsz hR ⊢;by_cases hb2:y4=0
 case neg =>
  rw[if_pos hb2];have t5:((y4:Int) != 0)=true:=by simp;omega
  generalize (sizeS D nm).1=z at *;clear h ok hct hc hp1 hp2 hr0 bb hw hn hm hz hz2 hal hql hNZ hlt ok1 hct1 hsz hb2;go_enter Tryz.func28,Tryz.ntmps28;go_wp2_with fail;refine hr.out.mono ?_;rintro e w1 ⟨rfl,h1⟩;have c3:=h1.cells.2.2.2.1;rw[HN.out] at c3;have H1:=Lib.hid h1;clear h1;go_wp2_with fail;refine(hN.out _).mono ?_;rintro e w2 ⟨rfl,hb⟩;have h2:=H1.out.below api hb;have d1:=h2.cells.2.1;have H2:=Lib.hid h2;clear hb h2;go_wp2_with fail;refine(hS.out _ H2.out).mono ?_;rintro e w3 ⟨rfl,h3⟩;have d3:=h3.cells.2.1;have H3:=Lib.hid h3;clear h3;go_wp2_with fail;refine(hR.out _ H3.out).mono ?_;rintro e w4 ⟨rfl,h4⟩;have d4:=h4.cells.2.1;have H4:=Lib.hid h4;clear h4;go_wp2;go_ret2;exact⟨rfl,H4.out⟩
 subst hb2;rw[if_neg (by simp)];have hG:=Lib.hid fun(W:World)=>get_any s4 W (by unfold maxLen;omega)
 by_cases hbig:2000<getS s4
 ·rw[if_pos (Or.inl hbig)];have t6:decide ((2000:Int)<(getS s4:Int))=true:=decide_eq_true (by omega);generalize (sizeS D nm).1=z at *;generalize getS s4=g at *;clear h ok hct hc hp1 hp2 hr0 bb hw hn hm hz hz2 hal hql hNZ hlt ok1 hct1 hsz hbig;go_enter Tryz.func28,Tryz.ntmps28;go_wp2_with fail;refine hr.out.mono ?_;rintro e w1 ⟨rfl,h1⟩;have c3:=h1.cells.2.2.2.1;rw[HN.out] at c3;have H1:=Lib.hid h1;clear h1;go_wp2_with fail;refine(hN.out _).mono ?_;rintro e w2 ⟨rfl,hb⟩;have h2:=H1.out.below api hb;have d1:=h2.cells.2.1;have H2:=Lib.hid h2;clear hb h2;go_wp2_with fail;refine(hS.out _ H2.out).mono ?_;rintro e w3 ⟨rfl,h3⟩;have d3:=h3.cells.2.1;have H3:=Lib.hid h3;clear h3;go_wp2_with fail;refine(hR.out _ H3.out).mono ?_;rintro e w4 ⟨rfl,h4⟩;have d4:=h4.cells.2.1;have H4:=Lib.hid h4;clear h4;go_wp2_with fail;refine(hG.out _).mono ?_;rintro e w5 ⟨rfl,rfl⟩;go_wp2;go_ret2;exact⟨rfl,H4.out⟩
 have t6:decide ((2000:Int)<(getS s4:Int))=false:=decide_eq_false (by omega);have b5:IntKind.i64.wrap (getS s4:Int)=(getS s4:Int):=IntWalk.i64_in _ (by omega);by_cases hfar:(sizeS D nm).1<a+12+getS s4
 ·rw[if_pos (Or.inr hfar)];have t7:decide (((sizeS D nm).1:Int)-(a:Nat)-12<(getS s4:Int))=true:=decide_eq_true (by omega);generalize (sizeS D nm).1=z at *;generalize getS s4=g at *;clear h ok hct hc hp1 hp2 hr0 bb hw hn hm hz hz2 hal hql hNZ hlt ok1 hct1 hsz hbig hfar;go_enter Tryz.func28,Tryz.ntmps28;go_wp2_with fail;refine hr.out.mono ?_;rintro e w1 ⟨rfl,h1⟩;have c3:=h1.cells.2.2.2.1;rw[HN.out] at c3;have H1:=Lib.hid h1;clear h1;go_wp2_with fail;refine(hN.out _).mono ?_;rintro e w2 ⟨rfl,hb⟩;have h2:=H1.out.below api hb;have d1:=h2.cells.2.1;have H2:=Lib.hid h2;clear hb h2;go_wp2_with fail;refine(hS.out _ H2.out).mono ?_;rintro e w3 ⟨rfl,h3⟩;have d3:=h3.cells.2.1;have H3:=Lib.hid h3;clear h3;go_wp2_with fail;refine(hR.out _ H3.out).mono ?_;rintro e w4 ⟨rfl,h4⟩;have d4:=h4.cells.2.1;have H4:=Lib.hid h4;clear h4;go_wp2_with fail;refine(hG.out _).mono ?_;rintro e w5 ⟨rfl,rfl⟩;go_wp2;go_ret2;exact⟨rfl,H4.out⟩
 rw[if_neg (by omega)];have t7:decide (((sizeS D nm).1:Int)-(a:Nat)-12<(getS s4:Int))=false:=decide_eq_false (by omega);have b6:IntKind.i64.wrap ((getS s4:Int)+12)=((getS s4+12:Nat):Int):=by rw[Int.natCast_add];exact IntWalk.i64_in _ (by omega)
 have b7:(getS s4:Int)+12=((getS s4+12:Nat):Int):=by omega
 have hR2:=Lib.hid fun(W:World) (hT:TSt At c gl gd L D4 W)=>hT.disk api (fun F hF=>api.read nm (a:Nat) ((getS s4+12:Nat):Int) hF ok1.ok (by omega) (wf_nat (by omega)) (wf_nat (by omega)) hNZ)
 have hsz2:=readS_size (n:=nm) (a:=(a:Nat)) (k:=((getS s4+12:Nat):Int)) ok1;generalize readS D4 nm (a:Nat) ((getS s4+12:Nat):Int)=b at *;obtain⟨s5,y5,D5⟩:=b;dsimp only at hsz2 hR2 ⊢;have b8:IntKind.i64.wrap ((getS s4+12:Nat):Int)=((getS s4+12:Nat):Int):=IntWalk.i64_in _ (by omega);generalize hm12:((getS s4+12:Nat):Int)=m12 at *;by_cases hb2:y5=0
 case neg =>
  rw[if_pos hb2];have t8:((y5:Int) != 0)=true:=by simp;omega
  generalize (sizeS D nm).1=z at *;generalize getS s4=g at *;clear h ok hct hc hp1 hp2 hr0 bb hw hn hm hz hz2 hal hql hNZ hlt ok1 hct1 hsz hbig hfar hsz2 hb2 hm12;go_enter Tryz.func28,Tryz.ntmps28;go_wp2_with fail;refine hr.out.mono ?_;rintro e w1 ⟨rfl,h1⟩;have c3:=h1.cells.2.2.2.1;rw[HN.out] at c3;have H1:=Lib.hid h1;clear h1;go_wp2_with fail;refine(hN.out _).mono ?_;rintro e w2 ⟨rfl,hb⟩;have h2:=H1.out.below api hb;have d1:=h2.cells.2.1;have H2:=Lib.hid h2;clear hb h2;go_wp2_with fail;refine(hS.out _ H2.out).mono ?_;rintro e w3 ⟨rfl,h3⟩;have d3:=h3.cells.2.1;have H3:=Lib.hid h3;clear h3;go_wp2_with fail;refine(hR.out _ H3.out).mono ?_;rintro e w4 ⟨rfl,h4⟩;have d4:=h4.cells.2.1;have H4:=Lib.hid h4;clear h4;go_wp2_with fail;refine(hG.out _).mono ?_;rintro e w5 ⟨rfl,rfl⟩;go_wp2_with fail;refine(hR2.out _ H4.out).mono ?_;rintro e w5 ⟨rfl,h5⟩;have H5:=Lib.hid h5;clear h5;go_wp2;go_ret2;exact⟨rfl,H5.out⟩
 subst hb2;rw[if_neg (by simp)];have hK:=Lib.hid fun(W:World)=>rget_any s5 0 W (by unfold maxLen;omega) (by decide)
 unfold GotRec at hK;cases hok:getOk s5 0
 ·rw[if_neg (by simp)];rw[hok] at hK;generalize (sizeS D nm).1=z at *;generalize getS s4=g at *;generalize getP s5 0=pp at *;generalize getN s5 0=nn at *;clear h ok hct hc hp1 hp2 hr0 bb hw hn hm hz hz2 hal hql hNZ hlt ok1 hct1 hsz hbig hfar hsz2 hm12 hok;go_enter Tryz.func28,Tryz.ntmps28;go_wp2_with fail;refine hr.out.mono ?_;rintro e w1 ⟨rfl,h1⟩;have c3:=h1.cells.2.2.2.1;rw[HN.out] at c3;have H1:=Lib.hid h1;clear h1;go_wp2_with fail;refine(hN.out _).mono ?_;rintro e w2 ⟨rfl,hb⟩;have h2:=H1.out.below api hb;have d1:=h2.cells.2.1;have H2:=Lib.hid h2;clear hb h2;go_wp2_with fail;refine(hS.out _ H2.out).mono ?_;rintro e w3 ⟨rfl,h3⟩;have d3:=h3.cells.2.1;have H3:=Lib.hid h3;clear h3;go_wp2_with fail;refine(hR.out _ H3.out).mono ?_;rintro e w4 ⟨rfl,h4⟩;have d4:=h4.cells.2.1;have H4:=Lib.hid h4;clear h4;go_wp2_with fail;refine(hG.out _).mono ?_;rintro e w5 ⟨rfl,rfl⟩;go_wp2_with fail;refine(hR2.out _ H4.out).mono ?_;rintro e w5 ⟨rfl,h5⟩;have H5:=Lib.hid h5;clear h5;go_wp2_with fail;refine(hK.out _).mono ?_;rintro e w6 ⟨rfl,hb⟩;have H6:=Lib.hid (H5.out.below api hb);clear hb;go_wp2;go_ret2;exact⟨rfl,H6.out⟩
 ·rw[if_pos rfl];rw[hok] at hK;generalize (sizeS D nm).1=z at *;generalize getS s4=g at *;generalize getP s5 0=pp at *;generalize getN s5 0=nn at *;clear h ok hct hc hp1 hp2 hr0 bb hw hn hm hz hz2 hal hql hNZ hlt ok1 hct1 hsz hbig hfar hsz2 hm12 hok;go_enter Tryz.func28,Tryz.ntmps28;go_wp2_with fail;refine hr.out.mono ?_;rintro e w1 ⟨rfl,h1⟩;have c3:=h1.cells.2.2.2.1;rw[HN.out] at c3;have H1:=Lib.hid h1;clear h1;go_wp2_with fail;refine(hN.out _).mono ?_;rintro e w2 ⟨rfl,hb⟩;have h2:=H1.out.below api hb;have d1:=h2.cells.2.1;have H2:=Lib.hid h2;clear hb h2;go_wp2_with fail;refine(hS.out _ H2.out).mono ?_;rintro e w3 ⟨rfl,h3⟩;have d3:=h3.cells.2.1;have H3:=Lib.hid h3;clear h3;go_wp2_with fail;refine(hR.out _ H3.out).mono ?_;rintro e w4 ⟨rfl,h4⟩;have d4:=h4.cells.2.1;have H4:=Lib.hid h4;clear h4;go_wp2_with fail;refine(hG.out _).mono ?_;rintro e w5 ⟨rfl,rfl⟩;go_wp2_with fail;refine(hR2.out _ H4.out).mono ?_;rintro e w5 ⟨rfl,h5⟩;have H5:=Lib.hid h5;clear h5;go_wp2_with fail;refine(hK.out _).mono ?_;rintro e w6 ⟨rfl,hb⟩;have H6:=Lib.hid (H5.out.below api hb);clear hb;go_wp2;go_ret2;exact⟨rfl,H6.out⟩
set_option maxRecDepth 100000 in
theorem tread_run (hm:c.m=ptr gl)(h:TSt At c gl gd L D w)(ok:WfP D)(hct:D.count≤1000000000)(pos:Int)(hw:(Lit.int .i64 pos).wf=true)(hc:L.chunks≤200) : Calls Tryz.prog 28 #[ptr gl,.int .i64 pos] w (ReadTo At c gl gd L (readT D L pos)):=by
 unfold readT;by_cases he:readyT D L=0
 ·rw[if_neg (by simp[he])];by_cases hp:pos<0∨(L.chunks:Int)≤pos/4096∨pos%4096<12
  ·rw[if_pos hp];exact tread_out api hm h pos hw hc hp he
  ·rw[if_neg hp];obtain⟨p,rfl⟩:∃ p:Nat,pos=p:=⟨pos.toNat,by omega⟩
   have e1:((p:Int)/4096).toNat=p/4096:=by omega
   have e2:((p:Int)%4096).toNat=p%4096:=by omega
   rw[e1,e2];exact tread_in api nap hm h ok hct p hw hc (by omega) (by omega) he
 ·rw[if_pos he];have hr:=Lib.hid (tready_run api hm h);have t:((readyT D L:Int) != 0)=true:=by simp;omega
  generalize readyT D L=y at *;clear h ok hct hw hc he hm;go_enter Tryz.func28,Tryz.ntmps28;go_wp2_with fail;refine hr.out.mono ?_;rintro e w1 ⟨rfl,h1⟩;have H1:=Lib.hid h1;clear h1;go_wp2;go_ret2;exact⟨rfl,H1.out⟩
end
end Go.Proofs.YtokbfellcadkpaaGreat
