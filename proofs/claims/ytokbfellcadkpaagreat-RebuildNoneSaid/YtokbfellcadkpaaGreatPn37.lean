/- ZnImLoad, ZnImSwap, ZnImOrph, ZnImClean, ZnImIs -/
import Derived.Test.YtokbfellcadkpaaGreatPn27
import Derived.Test.YtokbfellcadkpaaGreatPn36
import Derived.Test.YtokbfellcadkpaaGreatPn19
import Derived.Test.YtokbfellcadkpaaGreatPn17
import Derived.Test.YtokbfellcadkpaaGreatPn10
import Derived.Deep.LoopGhost
import Derived.WalkMore
import Derived.Test.YtokbfellcadkpaaGreatPn29
import Derived.Test.YtokbfellcadkpaaGreatPn08
namespace Go.Proofs.YtokbfellcadkpaaGreat
open Go.RowKit Go.Shelf
set_option linter.unusedVariables false
set_option maxRecDepth 100000
theorem load_1 {D:DiskS}(h:(sizeS D mapN).2≠0) : loadE D=((sizeS D mapN).2:Nat)∧loadM D=zeroM∧loadD D=D:=by
 have e:rdW D mapN=(ByteArray.empty,(sizeS D mapN).2,D):=by unfold rdW;rw[if_neg h]
 unfold loadE loadM loadD;rw[e];exact⟨if_pos h,if_pos h,rfl⟩
theorem load_2 {D:DiskS}(h:(sizeS D mapN).2=0)(h2:(readS D mapN 0 ((sizeS D mapN).1:Nat)).2.1≠0) : loadE D=((readS D mapN 0 ((sizeS D mapN).1:Nat)).2.1:Nat)∧loadM D=zeroM∧loadD D=(readS D mapN 0 ((sizeS D mapN).1:Nat)).2.2:=by
 have e:rdW D mapN=readS D mapN 0 ((sizeS D mapN).1:Nat):=by unfold rdW;rw[if_pos h]
 unfold loadE loadM loadD;rw[e];exact⟨if_pos h2,if_pos h2,rfl⟩
theorem load_3 {D:DiskS}(h:(sizeS D mapN).2=0)(h2:(readS D mapN 0 ((sizeS D mapN).1:Nat)).2.1=0) : loadE D=mgE (readS D mapN 0 ((sizeS D mapN).1:Nat)).1∧loadM D=mgM (readS D mapN 0 ((sizeS D mapN).1:Nat)).1∧loadD D=(readS D mapN 0 ((sizeS D mapN).1:Nat)).2.2:=by
 have e:rdW D mapN=readS D mapN 0 ((sizeS D mapN).1:Nat):=by unfold rdW;rw[if_pos h]
 unfold loadE loadM loadD;rw[e];exact⟨if_neg (by simp[h2]),if_neg (by simp[h2]),rfl⟩
theorem man_touch (w:World)(g:Nat)(a b c d:Value) : Touch [g] w (manSet w g a b c d) :=
 ((((Touch.refl [g] w).setCell (p:=⟨g,0,none⟩) (Or.inl List.mem_cons_self) a).setCell (p:=⟨g,1,none⟩) (Or.inl List.mem_cons_self) b).setCell (p:=⟨g,2,none⟩) (Or.inl List.mem_cons_self) c).setCell (p:=⟨g,3,none⟩) (Or.inl List.mem_cons_self) d
abbrev mzO : Obj:=.cells #[.int .i64 0,.int .i64 0,.int .u64 0,.slice none 0 0] 40
theorem imload_nil (w:World) : Calls Tryz.prog 86 #[.pointer none] w fun e w'=>(∃ (x0 x1:Int) (x2:Nat) (A:Option Addr) (n c:Nat),e = .returned (.tuple #[manV x0 x1 x2 (.slice A n c),.int .i64 1]))∧Below w.heap.size w w':=by
 have HS:=Lib.hid (fun W=>size_nil (none_nil W) ⟨#[109,97,112]⟩);unfold Says at HS;have B0:=Blok.new w 40 #[.int .i64 0,.int .i64 0,.int .u64 0,.slice none 0 0];have hb0:=(Below.refl w.heap.size w).alloc (Nat.le_refl _) mzO;obtain⟨g,hgg⟩:∃ g,w.heap.size=g:=⟨_,rfl⟩
 rw[hgg] at B0;obtain⟨wa,hwa⟩:∃ wa,w.alloc mzO=wa:=⟨_,rfl⟩
 rw[hwa] at B0 hb0;have HB0:=Lib.hid hb0;have HD:=Lib.hid B0;have d0:=B0.cell 0;have d1:=B0.cell 1;have d2:=B0.cell 2;have d3:=B0.cell 3;have f0:=B0.frozen 0;have f1:=B0.frozen 1;have f2:=B0.frozen 2;have f3:=B0.frozen 3;simp only[List.getElem?_toArray] at d0 d1 d2 d3;have HG:=Lib.hid hgg;unfold mzO at hwa;clear hb0 B0;go_enter Tryz.func86,Tryz.ntmps86;go_wp2_with fail;refine(HS.out _).mono ?_;rintro e w1 ⟨rfl,rfl⟩;go_wp2;have hM:=manSet_blok HD.out (.int .i64 0) (.int .i64 0) (.int .u64 0) (.slice none 0 0);have hMB:=manSet_below HB0.out (Nat.le_of_eq HG.out) (.int .i64 0) (.int .i64 0) (.int .u64 0) (.slice none 0 0);unfold manSet at hM hMB;obtain⟨wf,hwf⟩:∃ wf,wf=(((wa.setCell ⟨g,0,none⟩ (.int .i64 0)).setCell ⟨g,1,none⟩ (.int .i64 0)).setCell ⟨g,2,none⟩ (.int .u64 0)).setCell ⟨g,3,none⟩ (.slice none 0 0):=⟨_,rfl⟩
 rw[← hwf] at hM hMB ⊢;have e0:=hM.cell 0;have e1:=hM.cell 1;have e2:=hM.cell 2;have e3:=hM.cell 3;exact bodyPost_ret (v:=.tuple #[manV 0 0 0 (.slice none 0 0),.int .i64 1]) (by simp[results,Tryz.results86,go_sem,e0,e1,e2,e3];rfl) rfl ⟨⟨0,0,0,none,0,0,rfl⟩,hMB⟩
section
variable {At : Lies} (api : DiskApi At) {w0 w : World} {gd : Nat} {D : DiskS} {E : List Nat}
include api
theorem imload_end {w1 w2:World}{g:Nat}{D':DiskS}(hE:∀ b∈E,b<g)(hg:w0.heap.size≤g)(h:DS At w0 gd D' (g::E) w1)(hk:Kept E w w1)(hb:Below w1.heap.size w1 w2)(a b c d:Value) :
  DS At w0 gd D' E (manSet w2 g a b c d)∧Kept E w (manSet w2 g a b c d):=by
 have h2:=h.below api hb;have ht:=man_touch w2 g a b c d;have h3:=h2.own2 api ht (fun x hx=>by rw[List.mem_singleton.1 hx];exact⟨List.mem_cons_self,hg⟩);refine⟨h3.less (fun x hx=>List.mem_cons_of_mem _ hx),(hk.trans (Kept.of_below hb (fun b hb=>h.lt b (List.mem_cons_of_mem _ hb)))).trans (Kept.of_touch ht fun x hx=>⟨h2.lt x (List.mem_cons_of_mem _ hx),fun hm=>?_⟩)⟩;have:=hE x hx;rw[List.mem_singleton.1 hm] at this;exact Nat.lt_irrefl _ this
set_option maxHeartbeats 1000000 in
theorem imload_run (h:DS At w0 gd D E w)(ok:WfP D)(hc:D.count≤1099511627776) : Calls Tryz.prog 86 #[ptr gd] w (ImLoadEnd At w0 gd D E w):=by
 have hz:=sizeS_most ok mapN;have hcap:=ok.cap;have hB0:=(Below.refl w.heap.size w).alloc (Nat.le_refl _) mzO;have F0:=Blok.new w 40 #[.int .i64 0,.int .i64 0,.int .u64 0,.slice none 0 0]
 have h0:DS At w0 gd D (w.heap.size::E) (w.alloc mzO):=h.more api hB0 (B:=[w.heap.size]) (fun b hb=>by
  rw[List.mem_singleton.1 hb];exact⟨Nat.le_refl _,F0.lt⟩)
 have K0:=Kept.of_below hB0 h.lt;have hEg:=h.lt;have hg0:=h.kept.size;obtain⟨g,hgg⟩:∃ g,w.heap.size=g:=⟨_,rfl⟩
 rw[hgg] at h0 F0 hEg hg0;obtain⟨wa,hwa⟩:∃ wa,w.alloc mzO=wa:=⟨_,rfl⟩
 rw[hwa] at h0 F0 K0;unfold mzO at hwa;have k1:Calls Tryz.prog 50 #[ptr gd,.string ⟨#[109,97,112]⟩] wa fun e w'=>e = .returned (.tuple #[.int .i64 ((sizeS D mapN).1:Nat),err (sizeS D mapN).2])∧wa=w':=h0.size api ok mapN (by decide)
 have k2:Calls Tryz.prog 51 #[ptr gd,.string ⟨#[109,97,112]⟩,.int .i64 0,.int .i64 ((sizeS D mapN).1:Nat)] wa (DEnd At w0 gd (.tuple #[.string (readS D mapN 0 ((sizeS D mapN).1:Nat)).1,err (readS D mapN 0 ((sizeS D mapN).1:Nat)).2.1]) (readS D mapN 0 ((sizeS D mapN).1:Nat)).2.2 (g::E) wa) :=
  h0.disk api (fun F hF=>api.read mapN 0 ((sizeS D mapN).1:Nat) hF ok.ok hc (by decide) (WalkArith.wf_i64 (by omega)) (by decide))
 have hrz:=rdW_size ok mapN;have HX:=Lib.hid (And.intro F0 (And.intro K0 (And.intro hEg (And.intro hg0 h0))));unfold ImLoadEnd;by_cases h1:(sizeS D mapN).2=0
 case neg =>
  obtain⟨l1,l2,l3⟩:=load_1 h1;rw[l1,l2,l3];have t:(((sizeS D mapN).2:Int) != 0)=true:=by simp;omega
  generalize (sizeS D mapN).1=z at *;generalize (sizeS D mapN).2=y at *;have K1:=Lib.hid k1;have d0:=F0.cell 0;have d1:=F0.cell 1;have d2:=F0.cell 2;have d3:=F0.cell 3;have f0:=F0.frozen 0;have f1:=F0.frozen 1;have f2:=F0.frozen 2;have f3:=F0.frozen 3;simp only[List.getElem?_toArray] at d0 d1 d2 d3;clear k1 k2 hrz hz h1 l1 l2 l3 h ok hc hB0 h0 K0 hEg hg0 F0 hcap;go_enter Tryz.func86,Tryz.ntmps86;go_wp2_with fail;refine K1.out.mono ?_;rintro e w1 ⟨rfl,rfl⟩;go_wp2;have hM:=manSet_blok HX.out.1 (.int .i64 0) (.int .i64 0) (.int .u64 0) (.slice none 0 0);have hMB:=imload_end api HX.out.2.2.1 HX.out.2.2.2.1 HX.out.2.2.2.2 HX.out.2.1 (Below.refl _ _) (.int .i64 0) (.int .i64 0) (.int .u64 0) (.slice none 0 0);unfold manSet at hM hMB;obtain⟨wf,hwf⟩:∃ wf,wf=(((wa.setCell ⟨g,0,none⟩ (.int .i64 0)).setCell ⟨g,1,none⟩ (.int .i64 0)).setCell ⟨g,2,none⟩ (.int .u64 0)).setCell ⟨g,3,none⟩ (.slice none 0 0):=⟨_,rfl⟩
  rw[← hwf] at hM hMB ⊢;have e0:=hM.cell 0;have e1:=hM.cell 1;have e2:=hM.cell 2;have e3:=hM.cell 3;exact bodyPost_ret (v:=.tuple #[manV 0 0 0 (.slice none 0 0),.int .i64 (y:Nat)]) (by simp[results,Tryz.results86,go_sem,e0,e1,e2,e3];rfl) rfl ⟨0,0,0,none,0,0,[],rfl,rfl,rfl,LvsHas.nil _ _ _,by decide,by decide,by decide,hMB.1,hMB.2⟩
 have er:rdW D mapN=readS D mapN 0 ((sizeS D mapN).1:Nat):=by unfold rdW;rw[if_pos h1]
 rw[er] at hrz;by_cases h2:(readS D mapN 0 ((sizeS D mapN).1:Nat)).2.1=0
 case neg =>
  obtain⟨l1,l2,l3⟩:=load_2 h1 h2;rw[l1,l2,l3];rw[h1] at k1;have t:(((readS D mapN 0 ((sizeS D mapN).1:Nat)).2.1:Int) != 0)=true:=by simp;omega
  generalize readS D mapN 0 ((sizeS D mapN).1:Nat)=r at *;generalize (sizeS D mapN).1=z at *;generalize r.2.1=y at *;have K1:=Lib.hid k1;have K2:=Lib.hid k2;clear k1 k2 hrz hz h1 h2 l1 l2 l3 h ok hc hB0 h0 K0 hEg hg0 F0 hcap er;go_enter Tryz.func86,Tryz.ntmps86;go_wp2_with fail;refine K1.out.mono ?_;rintro e w1 ⟨rfl,rfl⟩;go_wp2_with fail;refine K2.out.mono ?_;rintro e w2 ⟨rfl,q1,q2⟩;have hD:=q2.blok HX.out.1 List.mem_cons_self;have d0:=hD.cell 0;have d1:=hD.cell 1;have d2:=hD.cell 2;have d3:=hD.cell 3;have f0:=hD.frozen 0;have f1:=hD.frozen 1;have f2:=hD.frozen 2;have f3:=hD.frozen 3;simp only[List.getElem?_toArray] at d0 d1 d2 d3;have H2:=Lib.hid (And.intro q1 (And.intro q2 hD));clear q1 q2 hD;go_wp2;have hM:=manSet_blok H2.out.2.2 (.int .i64 0) (.int .i64 0) (.int .u64 0) (.slice none 0 0);have hMB:=imload_end api HX.out.2.2.1 HX.out.2.2.2.1 H2.out.1 (HX.out.2.1.trans (H2.out.2.1.less (fun b hb=>List.mem_cons_of_mem _ hb))) (Below.refl _ _) (.int .i64 0) (.int .i64 0) (.int .u64 0) (.slice none 0 0);unfold manSet at hM hMB;obtain⟨wf,hwf⟩:∃ wf,wf=(((w2.setCell ⟨g,0,none⟩ (.int .i64 0)).setCell ⟨g,1,none⟩ (.int .i64 0)).setCell ⟨g,2,none⟩ (.int .u64 0)).setCell ⟨g,3,none⟩ (.slice none 0 0):=⟨_,rfl⟩
  rw[← hwf] at hM hMB ⊢;have e0:=hM.cell 0;have e1:=hM.cell 1;have e2:=hM.cell 2;have e3:=hM.cell 3;exact bodyPost_ret (v:=.tuple #[manV 0 0 0 (.slice none 0 0),.int .i64 (y:Nat)]) (by simp[results,Tryz.results86,go_sem,e0,e1,e2,e3];rfl) rfl ⟨0,0,0,none,0,0,[],rfl,rfl,rfl,LvsHas.nil _ _ _,by decide,by decide,by decide,hMB.1,hMB.2⟩
 obtain⟨l1,l2,l3⟩:=load_3 h1 h2;rw[l1,l2,l3];rw[h1] at k1;rw[h2] at k2;generalize readS D mapN 0 ((sizeS D mapN).1:Nat)=r at *;generalize (sizeS D mapN).1=z at *;generalize r.2.2=D' at *;have HG:=Lib.hid (fun W=>mget_any r.1 W (by omega));generalize r.1=s at *;have K1:=Lib.hid k1;have K2:=Lib.hid k2;clear k1 k2 hrz hz h1 h2 l1 l2 l3 h ok hc hB0 h0 K0 hEg hg0 F0 hcap er;go_enter Tryz.func86,Tryz.ntmps86;go_wp2_with fail;refine K1.out.mono ?_;rintro e w1 ⟨rfl,rfl⟩;go_wp2_with fail;refine K2.out.mono ?_;rintro e w2 ⟨rfl,q1,q2⟩;have hD:=q2.blok HX.out.1 List.mem_cons_self;have H2:=Lib.hid (And.intro q1 (And.intro q2 hD));have HG2:=Lib.hid (HG.out w2);clear q1 q2 hD HG;go_wp2_with fail;refine HG2.out.mono ?_;rintro e w3 ⟨x0,x1,x2,A,n,c,R,rfl,hm,hn,hnew,hb3,hx2,hfl,hL⟩;have hD:=mblok_below H2.out.2.2 hb3;have d0:=hD.cell 0;have d1:=hD.cell 1;have d2:=hD.cell 2;have d3:=hD.cell 3;have f0:=hD.frozen 0;have f1:=hD.frozen 1;have f2:=hD.frozen 2;have f3:=hD.frozen 3;simp only[List.getElem?_toArray] at d0 d1 d2 d3;have H3:=Lib.hid (And.intro hm (And.intro hn (And.intro hnew (And.intro hb3 (And.intro hx2 (And.intro hfl (And.intro hL hD)))))));have hgw:g<w2.heap.size:=H2.out.2.2.lt;have HGW:=Lib.hid hgw;unfold manV;clear hm hn hnew hb3 hx2 hfl hL hD HG2 hgw;go_wp2;have hM:=manSet_blok H3.out.2.2.2.2.2.2.2 (.int .i64 x0) (.int .i64 x1) (.int .u64 (x2:Nat)) (.slice A n c);have hMB:=imload_end api HX.out.2.2.1 HX.out.2.2.2.1 H2.out.1 (HX.out.2.1.trans (H2.out.2.1.less (fun b hb=>List.mem_cons_of_mem _ hb))) H3.out.2.2.2.1 (.int .i64 x0) (.int .i64 x1) (.int .u64 (x2:Nat)) (.slice A n c);have hH:=(LvsNew.manSet H3.out.2.2.1 HGW.out (.int .i64 x0) (.int .i64 x1) (.int .u64 (x2:Nat)) (.slice A n c)).has;unfold manSet at hM hMB hH;obtain⟨wf,hwf⟩:∃ wf,wf=(((w3.setCell ⟨g,0,none⟩ (.int .i64 x0)).setCell ⟨g,1,none⟩ (.int .i64 x1)).setCell ⟨g,2,none⟩ (.int .u64 (x2:Nat))).setCell ⟨g,3,none⟩ (.slice A n c):=⟨_,rfl⟩
 rw[← hwf] at hM hMB hH ⊢;have e0:=hM.cell 0;have e1:=hM.cell 1;have e2:=hM.cell 2;have e3:=hM.cell 3;exact bodyPost_ret (v:=.tuple #[manV x0 x1 x2 (.slice A n c),.int .i64 (mgE s)]) (by simp[results,Tryz.results86,go_sem,e0,e1,e2,e3];rfl) rfl ⟨x0,x1,x2,A,n,c,R,rfl,H3.out.1,H3.out.2.1,hH,H3.out.2.2.2.2.2.2.1,H3.out.2.2.2.2.2.1,H3.out.2.2.2.2.1,hMB.1,hMB.2⟩
end
end Go.Proofs.YtokbfellcadkpaaGreat
namespace Go.Proofs.YtokbfellcadkpaaGreat
open Go.RowKit Go.Shelf
set_option linter.unusedVariables false
set_option maxRecDepth 100000
theorem swap_del {D:DiskS}{m:ManS}(hm:MayM m)(h:(deleteS D newN).1≠0)(h4:(deleteS D newN).1≠4) : swapP D m=deleteS D newN:=by
 unfold swapP;rw[if_neg (by simpa using hm)];by_cases hd:D.down=true
 ·rw[if_pos hd];unfold deleteS;rw[if_pos hd]
 ·rw[if_neg hd,if_pos ⟨h,h4⟩]
theorem swap_go {D:DiskS}{m:ManS}(hm:MayM m)(h:(deleteS D newN).1=0∨(deleteS D newN).1=4) :
  swapP D m=if ((deleteS D newN).2.cap:Int)-(usedS (deleteS D newN).2.l:Nat)-((mfB m).size:Nat)<6000 then(60,(deleteS D newN).2) else imLayP (deleteS D newN).2 (mfB m):=by
 have hd:¬ D.down=true:=fun hd=>by
  have e:deleteS D newN=(61,D):=by unfold deleteS;rw[if_pos hd]
  rw[e] at h;simp at h
 unfold swapP imLayP;rw[if_neg (by simpa using hm),if_neg hd,if_neg (by omega)]
theorem imswap_nil (n c:Int)(d:Nat)(A:Option Addr)(k cp:Nat)(w:World) : Calls Tryz.prog 164 #[.pointer none,manV n c d (.slice A k cp)] w fun e w'=>e = .returned (err 1)∧Below w.heap.size w w':=by
 have HU:=Lib.hid (fun W=>imup_nil W);have hb:=(Below.refl w.heap.size w).alloc (Nat.le_refl _) (manO n c d (.slice A k cp));have HB:=Lib.hid hb;unfold manV;clear hb;go_enter Tryz.func164,Tryz.ntmps164;go_wp2_with fail;refine(HU.out _).mono ?_;rintro e w1 ⟨rfl,rfl⟩;go_wp2;go_ret;exact⟨rfl,HB.out⟩
section
variable {At : Lies} (api : DiskApi At) {w0 w : World} {gd : Nat} {D : DiskS} {E : List Nat}
include api
set_option maxHeartbeats 1000000 in
theorem imswap_run (n c:Int)(d:Nat)(A:Option Addr)(k cp:Nat)(R:LvL)(h:DS At w0 gd D E w)(ok:WfP D)(hH:Holds w0 E w (.slice A k cp) R)(hk:k=R.length)(hl:R.flatten.length≤100000)(hL:R.length≤100000)(hd:d<18446744073709551616) :
  Calls Tryz.prog 164 #[ptr gd,manV n c d (.slice A k cp)] w (DEnd At w0 gd (err (swapP D ⟨n,c,d,R⟩).1) (swapP D ⟨n,c,d,R⟩).2 E w):=by
 have hHas:=hH.now h;have hb:=(Below.refl w.heap.size w).alloc (Nat.le_refl _) (manO n c d (.slice A k cp));have bm:=Blok.new w 40 #[.int .i64 n,.int .i64 c,.int .u64 (d:Nat),.slice A k cp];have h0:=h.box api (manO n c d (.slice A k cp));have hHas0:=hHas.below hb (Nat.le_refl _);have K0:=Kept.of_below hb h.lt;obtain⟨g,hgg⟩:∃ g,w.heap.size=g:=⟨_,rfl⟩
 rw[hgg] at bm;obtain⟨wa,hwa⟩:∃ wa,w.alloc (manO n c d (.slice A k cp))=wa:=⟨_,rfl⟩
 rw[hwa] at bm h0 hHas0 K0;have k0:=imup_run api h0 ok;have HP:=Lib.hid (mput_any n c d A k cp R wa hHas0 hk hl hL hd);have m0:wa.cell? ⟨g,0,none⟩=some (.int .i64 n):=bm.cell 0;have m1:wa.cell? ⟨g,1,none⟩=some (.int .i64 c):=bm.cell 1;have m2:wa.cell? ⟨g,2,none⟩=some (.int .u64 (d:Nat)):=bm.cell 2;have m3:wa.cell? ⟨g,3,none⟩=some (.slice A k cp):=bm.cell 3;unfold MfPutEnd at HP;unfold manV at HP ⊢
 have hUP:∃ u:Nat,(if D.down=true then 61 else 0)=u∧((u:Int)==1)=false:=by
  cases D.down
  ·exact⟨0,rfl,rfl⟩
  ·exact⟨61,rfl,rfl⟩
 obtain⟨u,hu,tu⟩:=hUP;rw[hu] at k0;have HU:=Lib.hid k0;have HK0:=Lib.hid (And.intro h0 K0);by_cases hm:MayM ⟨n,c,d,R⟩
 case neg =>
  obtain⟨r1,r2⟩:=mf_no hm;rw[r1,r2] at HP;rw[swap_bad hm];clear hHas hb bm h0 hHas0 K0 h ok hH hk hl hL hd hm r1 r2 hu k0;go_enter Tryz.func164,Tryz.ntmps164;go_wp2_with fail;refine HU.out.mono ?_;rintro e w1 ⟨rfl,rfl⟩;go_wp2_with fail;refine HP.out.mono ?_;rintro e w2 ⟨rfl,b2⟩;have H2:=Lib.hid (And.intro (HK0.out.1.below api b2) (HK0.out.2.trans (Kept.of_below b2 HK0.out.1.lt)));clear b2;go_wp2;go_ret;exact⟨rfl,H2.out.1,H2.out.2⟩
 obtain⟨r1,r2⟩:=mf_yes hm;rw[r1,r2] at HP;have hsz:=mfB_small hm;have o1:=wp_delete ok newN;have k2:∀ W,DS At w0 gd D E W→Calls Tryz.prog 54 #[ptr gd,.string ⟨#[110,101,119]⟩] W (DEnd At w0 gd (err (deleteS D newN).1) (deleteS D newN).2 E W):=fun W hW=>hW.disk api (fun F hF=>api.delete newN hF ok.ok (by decide))
 by_cases hz:(deleteS D newN).1≠0∧(deleteS D newN).1≠4
 ·rw[swap_del hm hz.1 hz.2];have t1:(((deleteS D newN).1:Int) != 0)=true:=by simp;omega
  have t2:(((deleteS D newN).1:Int) != 4)=true:=by simp;omega
  have K2:=Lib.hid k2;generalize deleteS D newN=X at *;generalize X.1=y at *;generalize mfB ⟨n,c,d,R⟩=s at *;clear hHas hb bm h0 hHas0 K0 h ok hH hk hl hL hd hm r1 r2 hu k0 k2 hz o1;go_enter Tryz.func164,Tryz.ntmps164;go_wp2_with fail;refine HU.out.mono ?_;rintro e w1 ⟨rfl,rfl⟩;go_wp2_with fail;refine HP.out.mono ?_;rintro e w2 ⟨rfl,b2⟩;have H2:=Lib.hid (And.intro (HK0.out.1.below api b2) (HK0.out.2.trans (Kept.of_below b2 HK0.out.1.lt)));clear b2;go_wp2_with fail;refine(K2.out _ H2.out.1).mono ?_;rintro e w3 ⟨rfl,q1,q2⟩;have H3:=Lib.hid (And.intro q1 (H2.out.2.trans q2));clear q1 q2;go_wp2;go_ret;exact⟨rfl,H3.out.1,H3.out.2⟩
 have hz2:(deleteS D newN).1=0∨(deleteS D newN).1=4:=by omega
 have tz:((((deleteS D newN).1:Int) != 0)=false)∨((((deleteS D newN).1:Int) != 0)=true∧(((deleteS D newN).1:Int) != 4)=false):=by
  rcases hz2 with e | e
  ·exact Or.inl (by rw[e];rfl)
  ·exact Or.inr ⟨by rw[e];rfl,by rw[e];rfl⟩
 rw[swap_go hm hz2];have ok1:=wp_delete ok newN;have hcap:=ok1.cap;have hus:=ok1.used;generalize deleteS D newN=X at *;generalize mfB ⟨n,c,d,R⟩=s at *;have k3:∀ W,DS At w0 gd X.2 E W→Calls Tryz.prog 162 #[ptr gd] W (DEnd At w0 gd (.int .i64 ((X.2.cap:Int)-(usedS X.2.l:Nat))) X.2 E W):=fun W hW=>hW.disk api (fun F hF=>api.free hF ok1.ok)
 have k4:∀ W,DS At w0 gd X.2 E W→Calls Tryz.prog 206 #[ptr gd,.string s] W (DEnd At w0 gd (err (imLayP X.2 s).1) (imLayP X.2 s).2 E W):=fun W hW=>imlay_run api hW ok1 s (by omega)
 obtain⟨y,hy⟩:∃ y:Int,(X.2.cap:Int)-(usedS X.2.l:Nat)=y:=⟨_,rfl⟩
 have y1:y≤1048576:=by omega
 have y2:0≤y:=by omega
 have q1:IntKind.i64.wrap (y-(s.size:Int))=y-(s.size:Int):=IntWalk.i64_in _ ⟨by omega,by omega⟩;rw[hy] at k3 ⊢;have K2:=Lib.hid k2;have K3:=Lib.hid k3;have K4:=Lib.hid k4;generalize imLayP X.2 s=Y at *;generalize X.2=D1 at *;generalize X.1=x at *;clear hHas hb bm h0 hHas0 K0 h ok hH hk hl hL hd hm r1 r2 hu k0 k2 hz o1 k3 k4 hz2 ok1 hcap hus hy;by_cases hr:y-(s.size:Int)<6000
 ·rw[if_pos hr];rcases tz with t | ⟨t,t'⟩
  all_goals
   go_enter Tryz.func164,Tryz.ntmps164;go_wp2_with fail;refine HU.out.mono ?_;rintro e w1 ⟨rfl,rfl⟩;go_wp2_with fail;refine HP.out.mono ?_;rintro e w2 ⟨rfl,b2⟩;have H2:=Lib.hid (And.intro (HK0.out.1.below api b2) (HK0.out.2.trans (Kept.of_below b2 HK0.out.1.lt)));clear b2;go_wp2_with fail;refine(K2.out _ H2.out.1).mono ?_;rintro e w3 ⟨rfl,q1',q2'⟩;have H3:=Lib.hid (And.intro q1' (H2.out.2.trans q2'));clear q1' q2';go_wp2_with fail;refine(K3.out _ H3.out.1).mono ?_;rintro e w4 ⟨rfl,q1',q2'⟩;have H4:=Lib.hid (And.intro q1' (H3.out.2.trans q2'));clear q1' q2';go_wp2;go_ret;exact⟨rfl,H4.out.1,H4.out.2⟩
 ·rw[if_neg hr];rcases tz with t | ⟨t,t'⟩
  all_goals
   go_enter Tryz.func164,Tryz.ntmps164;go_wp2_with fail;refine HU.out.mono ?_;rintro e w1 ⟨rfl,rfl⟩;go_wp2_with fail;refine HP.out.mono ?_;rintro e w2 ⟨rfl,b2⟩;have H2:=Lib.hid (And.intro (HK0.out.1.below api b2) (HK0.out.2.trans (Kept.of_below b2 HK0.out.1.lt)));clear b2;go_wp2_with fail;refine(K2.out _ H2.out.1).mono ?_;rintro e w3 ⟨rfl,q1',q2'⟩;have H3:=Lib.hid (And.intro q1' (H2.out.2.trans q2'));clear q1' q2';go_wp2_with fail;refine(K3.out _ H3.out.1).mono ?_;rintro e w4 ⟨rfl,q1',q2'⟩;have H4:=Lib.hid (And.intro q1' (H3.out.2.trans q2'));clear q1' q2';go_wp2_with fail;refine(K4.out _ H4.out.1).mono ?_;rintro e w5 ⟨rfl,q1',q2'⟩;have H5:=Lib.hid (And.intro q1' (H4.out.2.trans q2'));clear q1' q2';go_wp2;go_ret;exact⟨rfl,H5.out.1,H5.out.2⟩
end
end Go.Proofs.YtokbfellcadkpaaGreat
namespace Go.Proofs.YtokbfellcadkpaaGreat
open Go.RowKit Go.Shelf
set_option linter.unusedVariables false
set_option maxRecDepth 100000
section
variable {At : Lies} (api : DiskApi At) (nap : NamesApi) {w0 w : World} {gd : Nat} {D : DiskS} {E : List Nat}
theorem imorph_nil (n c:Int)(d:Nat)(A:Option Addr)(k cp:Nat)(R:LvL)(w:World)(h:LvsHas w (.slice A k cp) R)(hl:R.flatten.length≤100000)(hL:R.length≤100000) :
  Calls Tryz.prog 89 #[.pointer none,manV n c d (.slice A k cp)] w fun e w'=>(∃ A' c',e = .returned (.slice A' 0 c'))∧Below w.heap.size w w':=by
 have hb:=(Below.refl w.heap.size w).alloc (Nat.le_refl _) (manO n c d (.slice A k cp));have bm:=Blok.new w 40 #[.int .i64 n,.int .i64 c,.int .u64 (d:Nat),.slice A k cp];have h0:=h.below hb (Nat.le_refl _);obtain⟨g,hgg⟩:∃ g,w.heap.size=g:=⟨_,rfl⟩
 rw[hgg] at bm;obtain⟨wa,hwa⟩:∃ wa,w.alloc (manO n c d (.slice A k cp))=wa:=⟨_,rfl⟩
 rw[hwa] at bm h0 hb;have HA:=Lib.hid (lall_any _ R wa h0 hl hL);have HN:=Lib.hid (fun W=>names_nil (none_nil W));unfold Says at HN;unfold IntsOut at HA;have HB:=Lib.hid hb;have m3:wa.cell? ⟨g,3,none⟩=some (.slice A k cp):=bm.cell 3;unfold manV;clear h h0 hb bm hl hL;generalize R.flatten=fl at *;generalize fl.length=N at *;go_enter Tryz.func89,Tryz.ntmps89;go_wp2_with fail;refine HA.out.mono ?_;rintro e w1 ⟨A3,c3,rfl,-,b1⟩;have HB1:=Lib.hid (bj HB.out b1);clear b1;go_wp2_with fail;refine(HN.out _).mono ?_;rintro e w2 ⟨rfl,rfl⟩;go_wp2;go_loopg [6,15] 0 (fun g u i wr=>i = .int .i64 0∧u = .slice none 0 0∧Below w.heap.size w wr)
 case atStart=>exact⟨rfl,rfl,HB1.out⟩
 case round =>
  obtain⟨rfl,rfl,hb⟩:=hrel;have HBZ:=Lib.hid hb;clear hb;go_wp2;go_ret;exact⟨⟨_,_,rfl⟩,HBZ.out⟩
include api nap
set_option maxHeartbeats 1000000 in
theorem imorph_run (n c:Int)(d:Nat)(A:Option Addr)(k cp:Nat)(R:LvL)(h:DS At w0 gd D E w)(ok:WfP D)(hH:Holds w0 E w (.slice A k cp) R)(hl:R.flatten.length≤100000)(hL:R.length≤100000) :
  Calls Tryz.prog 89 #[ptr gd,manV n c d (.slice A k cp)] w (ImOrphEnd At w0 gd D ⟨n,c,d,R⟩ E w):=by
 have hHas:=hH.now h;have hb:=(Below.refl w.heap.size w).alloc (Nat.le_refl _) (manO n c d (.slice A k cp));have bm:=Blok.new w 40 #[.int .i64 n,.int .i64 c,.int .u64 (d:Nat),.slice A k cp];have h0:=h.box api (manO n c d (.slice A k cp));have hHas0:=hHas.below hb (Nat.le_refl _);have K0:=Kept.of_below hb h.lt;have hnz:=h.names api;obtain⟨g,hgg⟩:∃ g,w.heap.size=g:=⟨_,rfl⟩
 rw[hgg] at bm;obtain⟨wa,hwa⟩:∃ wa,w.alloc (manO n c d (.slice A k cp))=wa:=⟨_,rfl⟩
 rw[hwa] at bm h0 hHas0 K0;have HA:=Lib.hid (lall_any _ R wa hHas0 hl hL);unfold IntsOut at HA;have m3:wa.cell? ⟨g,3,none⟩=some (.slice A k cp):=bm.cell 3;have HH0:=Lib.hid (And.intro h0 K0);have HOK:=Lib.hid ok;have hmany:(D.l.map FileS.name).length≤400:=by rw[List.length_map];exact ok.many
 obtain⟨fl,hfl⟩:∃ fl,R.flatten=fl:=⟨_,rfl⟩
 have HFL:=Lib.hid hfl;rw[hfl] at HA;have HFZ:=Lib.hid (show fl.length≤100000 by rw[← hfl];exact hl);obtain⟨n3,hn3⟩:∃ n3,n3=fl.length:=⟨_,rfl⟩
 have HN3:=Lib.hid hn3;rw[← hn3] at HA;obtain⟨NM,hNM⟩:∃ NM,D.l.map FileS.name=NM:=⟨_,rfl⟩
 rw[hNM] at hnz hmany;have HNM:=Lib.hid hNM;have HNZ:=Lib.hid hnz;have HMY:=Lib.hid hmany;unfold manV;clear h ok hH hHas hb bm h0 hHas0 K0 hnz hmany hfl hn3 hNM hl hL;go_enter Tryz.func89,Tryz.ntmps89;go_wp2_with fail;refine HA.out.mono ?_;rintro e w1 ⟨A3,c3,rfl,hrow,b1⟩;have hd1:=HH0.out.1.more api b1 (B:=ownL (.slice A3 n3 c3)) (fun b hb=>hrow.block b (ownL_mem.1 hb));have hi1:IntsIn w1 (.slice A3 n3 c3) fl:=hrow.in_;have HK1:=Lib.hid (HH0.out.2.trans (Kept.of_below b1 HH0.out.1.lt));have HNAMES:=Lib.hid (im_names api hd1 HOK.out);have HI1:=Lib.hid hi1;clear hrow hd1 hi1 b1 HA m3;go_wp2_with fail;refine HNAMES.out.mono ?_;rintro e w2 ⟨v,B,rfl,hs,hd2,hk2,hB⟩;rw[HNM.out] at hs;have hi2:=hk2.ints HI1.out (fun b hb=>List.mem_append_left _ hb);have HK2:=Lib.hid (HK1.out.trans (hk2.less (fun b hb=>List.mem_append_right _ hb)));have HD2:=Lib.hid hd2;have HI2:=Lib.hid hi2;obtain⟨S,os,cs,rfl,ms,hc⟩:=hs.cell;unfold maxLen at ms
 have HC:=Lib.hid (fun W' (hb':Below w2.heap.size w2 W') (i:Nat) (x:ByteArray) (hx:NM[i]? = some x)=>(by
  obtain⟨b,e1,e2⟩:=hc i x hx;exact⟨b,e1,(hb'.cell (p:=⟨b,os+i,none⟩) (World.block_lt_of_cell? _ _ e2)).trans e2⟩:∃ b,S=some ⟨b,os,none⟩∧W'.cell? ⟨b,os+i,none⟩=some (.string x)))
 obtain⟨N,hN⟩:∃ N,N=NM.length:=⟨_,rfl⟩
 have HN:=Lib.hid hN;have HN4:=Lib.hid (show N≤400 by rw[hN];exact HMY.out);rw[← hN] at ms ⊢;clear hs hd2 hk2 hB hi2 hc hN HNAMES HI1 HK1 HH0;go_wp2;go_loopg [6,15] N (fun g u i wr=>∃ (j:Nat) (A5:Option Addr) (n5 c5:Nat),j+g=N∧i = .int .i64 j∧u = .slice A5 n5 c5∧n5=(orphL (NM.take j) ⟨n,c,d,R⟩).length∧SRow wr w2.heap.size (.slice A5 n5 c5) (orphL (NM.take j) ⟨n,c,d,R⟩)∧Below w2.heap.size w2 wr)
 case atStart=>exact⟨0,none,0,0,by omega,rfl,rfl,rfl,SRow.nil _ _,Below.refl _ _⟩
 case round =>
  obtain⟨j,A5,n5,c5,hjg,rfl,rfl,hn5,hrow,hbx⟩:=hrel;have HN5:=Lib.hid hn5;have HROW:=Lib.hid hrow;have HBX:=Lib.hid hbx;have HLE:=Lib.hid (show n5≤400 by rw[hn5];exact Nat.le_trans (orphL_len _ _) (by rw[List.length_take];have:=HN4.out;omega));clear hrow hbx hn5;by_cases hjm:j<N
  case neg =>
   obtain rfl:j=N:=by omega
   have t2:decide ((j:Int)<(j:Int))=false:=decide_eq_false (by omega);have ht:NM.take j=NM:=by rw[HN.out,List.take_length]
   have HT:=Lib.hid ht;clear ht;go_wp2;go_ret;have hr:=HROW.out;rw[HT.out] at hr;refine⟨.slice A5 n5 c5,rfl, ?_, ?_, ?_⟩
   ·rw[HNM.out];exact hr.in_
   ·exact(HD2.out.more api HBX.out (B:=ownL (.slice A5 n5 c5)) (fun b hb=>hr.block b (ownL_mem.1 hb))).less (fun b hb=>(List.mem_append.1 hb).elim (List.mem_append_left _) (fun hb=>List.mem_append_right _ (List.mem_append_right _ (List.mem_append_right _ hb))))
   ·exact HK2.out.trans (Kept.of_below HBX.out (fun b hb=>HD2.out.lt b (List.mem_append_right _ (List.mem_append_right _ hb))))
  have t2:decide ((j:Int)<(N:Int))=true:=decide_eq_true (by omega);have t2':(j:Int)<(N:Int):=by omega
  obtain⟨x,hx⟩:∃ x,NM[j]? = some x:=by
   rw[HN.out] at hjm;exact⟨NM[j],List.getElem?_eq_getElem hjm⟩
  have hxz:=HNZ.out x (List.mem_of_getElem? hx);obtain⟨b,e1,e2⟩:=HC.out wr HBX.out j x hx;subst e1;have htk:=orph_take (m:=⟨n,c,d,R⟩) hx;have hob:orphB (⟨n,c,d,R⟩:ManS).lv.flatten x=(decide (x=newN)||(npOk x&&!decide (npK x=99)&&!decide ((npN x:Int)∈fl))):=by rw[← HFL.out];rfl
  rw[hob] at htk;have HO:=Lib.hid (isorph_run nap x (.slice A3 n3 c3) fl wr hxz (HI2.out.below HBX.out (Nat.le_refl _)) (by have:=HFZ.out;omega));have HTK:=Lib.hid htk;clear hx hxz hob htk;generalize (npOk x&&!decide (npK x=99)&&!decide ((npN x:Int)∈fl))=q at *;cases gk with
  | zero=>omega
  | succ gj =>
  by_cases hnew:x=newN
  ·have tn':x.toList=[110,101,119]:=by rw[Lib.toList_data,hnew];rfl
   have tn:(x.toList==[110,101,119])=true:=by rw[tn'];rfl
   have ht:=HTK.out;rw[decide_eq_true hnew,Bool.true_or,if_pos rfl] at ht;obtain⟨w5,u5,f1,⟨A6,c6,rfl,f2⟩,f3⟩:=strs_more (x:=x) HROW.out HN5.out (by have:=HLE.out;omega) HBX.out.size 103;rw[← ht] at f2;have HLN:=Lib.hid (show n5+1=(orphL (NM.take (j+1)) ⟨n,c,d,R⟩).length by rw[ht,List.length_append,← HN5.out];rfl);have HF1:=Lib.hid f1;have HF2:=Lib.hid f2;have HF3:=Lib.hid (HBX.out.trans f3);clear f1 f2 f3 ht hnew HTK HO;go_wp2_with (first | (at_builtin;refine wpList_append_two rfl _ _ rfl rfl rfl HF1.out ?_) | fail);go_roundg gj
   case measure=>omega
   case rel=>exact⟨j+1,A6,n5+1,c6,by omega,by go_num,by first | rfl | go_num,HLN.out,HF2.out,HF3.out⟩
  have tn':¬ x.toList=[110,101,119]:=fun h=>hnew (by rw[Lib.toList_data] at h;exact ByteArray.ext (Array.toList_inj.1 h))
  have tn:(x.toList==[110,101,119])=false:=beq_eq_false_iff_ne.2 tn';have ht:=HTK.out;rw[decide_eq_false hnew,Bool.false_or] at ht;have HTK2:=Lib.hid ht;clear HTK ht hnew;go_wp2_with fail;refine HO.out.mono ?_;rintro e w3 ⟨rfl,b3⟩;have HR3:=Lib.hid (HROW.out.below b3 (Nat.le_refl _));have HB3:=Lib.hid (HBX.out.trans (b3.mono HBX.out.size));clear b3 HROW HBX e2;cases q with
  | false =>
    have ht:=HTK2.out;rw[if_neg (by simp),List.append_nil] at ht;have HF2:=HR3.out;rw[← ht] at HF2;have HLN:=Lib.hid (show n5=(orphL (NM.take (j+1)) ⟨n,c,d,R⟩).length by rw[ht];exact HN5.out);have HF2:=Lib.hid HF2;clear ht;go_wp2_with fail;go_roundg gj
    case measure=>omega
    case rel=>exact⟨j+1,A5,n5,c5,by omega,by go_num,by first | rfl | go_num,HLN.out,HF2.out,HB3.out⟩
  | true =>
    have ht:=HTK2.out;rw[if_pos rfl] at ht;obtain⟨w5,u5,f1,⟨A6,c6,rfl,f2⟩,f3⟩:=strs_more (x:=x) HR3.out HN5.out (by have:=HLE.out;omega) HB3.out.size 103;rw[← ht] at f2;have HLN:=Lib.hid (show n5+1=(orphL (NM.take (j+1)) ⟨n,c,d,R⟩).length by rw[ht,List.length_append,← HN5.out];rfl);have HF1:=Lib.hid f1;have HF2:=Lib.hid f2;have HF3:=Lib.hid (HB3.out.trans f3);clear f1 f2 f3 ht;go_wp2_with (first | (at_builtin;refine wpList_append_two rfl _ _ rfl rfl rfl HF1.out ?_) | fail);go_roundg gj
    case measure=>omega
    case rel=>exact⟨j+1,A6,n5+1,c6,by omega,by go_num,by first | rfl | go_num,HLN.out,HF2.out,HF3.out⟩
end
end Go.Proofs.YtokbfellcadkpaaGreat
namespace Go.Proofs.YtokbfellcadkpaaGreat
open Go.RowKit Go.Shelf
set_option linter.unusedVariables false
set_option maxRecDepth 100000
theorem delAll_cons (D:DiskS)(x:ByteArray)(ns:List ByteArray) : delAll D (x::ns)=if (deleteS D x).1≠0 then deleteS D x else delAll (deleteS D x).2 ns:=rfl
theorem imclean_nil (n c:Int)(d:Nat)(A:Option Addr)(k cp:Nat)(w:World) : Calls Tryz.prog 31 #[.pointer none,manV n c d (.slice A k cp)] w fun e w'=>e = .returned (err 1)∧Below w.heap.size w w':=by
 have HU:=Lib.hid (fun W=>imup_nil W);have hb:=(Below.refl w.heap.size w).alloc (Nat.le_refl _) (manO n c d (.slice A k cp));have HB:=Lib.hid hb;unfold manV;clear hb;go_enter Tryz.func31,Tryz.ntmps31;go_wp2_with fail;refine(HU.out _).mono ?_;rintro e w1 ⟨rfl,rfl⟩;go_wp2;go_ret;exact⟨rfl,HB.out⟩
section
variable {At : Lies} (api : DiskApi At) (nap : NamesApi) {w0 w : World} {gd : Nat} {D : DiskS} {E : List Nat}
include api nap
set_option maxHeartbeats 1000000 in
theorem imclean_run (n c:Int)(d:Nat)(A:Option Addr)(k cp:Nat)(R:LvL)(h:DS At w0 gd D E w)(ok:WfP D)(hH:Holds w0 E w (.slice A k cp) R)(hl:R.flatten.length≤100000)(hL:R.length≤100000) :
  Calls Tryz.prog 31 #[ptr gd,manV n c d (.slice A k cp)] w (DEnd At w0 gd (err (cleanP D ⟨n,c,d,R⟩).1) (cleanP D ⟨n,c,d,R⟩).2 E w):=by
 have hb:=(Below.refl w.heap.size w).alloc (Nat.le_refl _) (manO n c d (.slice A k cp));have bm:=Blok.new w 40 #[.int .i64 n,.int .i64 c,.int .u64 (d:Nat),.slice A k cp];have h0:=h.box api (manO n c d (.slice A k cp));have K0:=Kept.of_below hb h.lt;have hnz:=h.names api;obtain⟨g,hgg⟩:∃ g,w.heap.size=g:=⟨_,rfl⟩
 rw[hgg] at bm;obtain⟨wa,hwa⟩:∃ wa,w.alloc (manO n c d (.slice A k cp))=wa:=⟨_,rfl⟩
 rw[hwa] at bm h0 K0;have HU:=Lib.hid (imup_run api h0 ok);have HO:=Lib.hid (imorph_run api nap n c d A k cp R h0 ok (hH.step K0) hl hL);unfold ImOrphEnd at HO;unfold cleanP;have HH0:=Lib.hid (And.intro h0 K0);by_cases hd:D.down=true
 ·rw[if_pos hd];rw[if_pos hd] at HU;unfold manV;clear h ok hH hb bm h0 K0 hnz hl hL HO hd;go_enter Tryz.func31,Tryz.ntmps31;go_wp2_with fail;refine HU.out.mono ?_;rintro e w1 ⟨rfl,rfl⟩;go_wp2;go_ret;exact⟨rfl,HH0.out.1,HH0.out.2⟩
 rw[if_neg hd];rw[if_neg hd] at HU;have hlz:∀ x∈orphL (D.l.map FileS.name) ⟨n,c,d,R⟩,x.size≤maxLen:=fun x hx=>hnz x (List.mem_filter.1 hx).1
 have hln:(orphL (D.l.map FileS.name) ⟨n,c,d,R⟩).length≤400:=Nat.le_trans (orphL_len _ _) (by rw[List.length_map];exact ok.many);generalize orphL (D.l.map FileS.name) ⟨n,c,d,R⟩=L at *;have m0:wa.cell? ⟨g,0,none⟩=some (.int .i64 n):=bm.cell 0;have m1:wa.cell? ⟨g,1,none⟩=some (.int .i64 c):=bm.cell 1;have m2:wa.cell? ⟨g,2,none⟩=some (.int .u64 (d:Nat)):=bm.cell 2;have m3:wa.cell? ⟨g,3,none⟩=some (.slice A k cp):=bm.cell 3;have HLZ:=Lib.hid hlz;have HLN:=Lib.hid hln;have HOK:=Lib.hid ok;unfold manV at HO ⊢;clear h ok hH hb bm h0 K0 hnz hl hL hd hlz hln;go_enter Tryz.func31,Tryz.ntmps31;go_wp2_with fail;refine HU.out.mono ?_;rintro e w1 ⟨rfl,rfl⟩;go_wp2_with fail;refine HO.out.mono ?_;rintro e w2 ⟨v,rfl,hs,hd2,hk2⟩;have HS2:=Lib.hid hs;have HD2:=Lib.hid hd2;have HK2:=Lib.hid (HH0.out.2.trans hk2);obtain⟨S,os,cs,rfl,ms,hc⟩:=hs.cell;unfold maxLen at ms
 have HC:=Lib.hid (fun W' (hk:Kept (ownL (.slice S L.length cs)++E) w2 W') (i:Nat) (x:ByteArray) (hx:L[i]? = some x)=>(by
  obtain⟨b,e1,e2⟩:=hc i x hx;subst e1;exact⟨b,rfl,(World.cell?_of_block (w:=w2) (hk.block b (List.mem_append_left _ (ownL_mem.2 rfl)))).trans e2⟩:∃ b,S=some ⟨b,os,none⟩∧W'.cell? ⟨b,os+i,none⟩=some (.string x)))
 obtain⟨N,hN⟩:∃ N,N=L.length:=⟨_,rfl⟩
 have HN:=Lib.hid hN;rw[← hN] at ms HC HD2 HLN ⊢;clear hs hd2 hk2 hc hN HO HU HS2 m0 m1 m2 m3;go_wp2;go_loopg [18] N (fun g' i wr=>∃ (j:Nat) (D':DiskS),j+g'=N∧i = .int .i64 j∧delAll D L=delAll D' (L.drop j)∧WfP D'∧DS At w0 gd D' (ownL (.slice S N cs)++E) wr∧Kept (ownL (.slice S N cs)++E) w2 wr)
 case atStart=>exact⟨0,D,by omega,rfl,rfl,HOK.out,HD2.out,Kept.refl _ _⟩
 case round =>
  obtain⟨j,D',hjg,rfl,he,hok,hd,hk⟩:=hrel;have HE:=Lib.hid he;have HD:=Lib.hid hd;have HK:=Lib.hid hk;have HOK':=Lib.hid hok;clear he hok hd hk;by_cases hjm:j<N
  case neg =>
   obtain rfl:j=N:=by omega
   have t2:decide ((j:Int)<(j:Int))=false:=decide_eq_false (by omega);have ht:L.drop j=[]:=by rw[HN.out,List.drop_length]
   have h1:=HE.out;rw[ht] at h1;have H1:=Lib.hid h1;clear ht h1;go_wp2;go_ret;rw[H1.out];exact⟨rfl,HD.out.less (fun b hb=>List.mem_append_right _ hb),HK2.out.trans (HK.out.less (fun b hb=>List.mem_append_right _ hb))⟩
  have t2:decide ((j:Int)<(N:Int))=true:=decide_eq_true (by omega);have t2':(j:Int)<(N:Int):=by omega
  have hjl:j<L.length:=by rw[← HN.out];exact hjm
  obtain⟨x,hx⟩:∃ x,L[j]? = some x:=⟨L[j],List.getElem?_eq_getElem hjl⟩
  have hxz:=HLZ.out x (List.mem_of_getElem? hx)
  have hdr:L.drop j=x::L.drop (j+1):=by
   rw[List.drop_eq_getElem_cons hjl];rw[List.getElem?_eq_getElem hjl] at hx;rw[Option.some.inj hx]
  obtain⟨b,e1,e2⟩:=HC.out wr HK.out j x hx;subst e1;have hst:=HE.out;rw[hdr,delAll_cons] at hst;have HDL:=Lib.hid (HD.out.disk api (fun F hF=>api.delete x hF HOK'.out.ok hxz));have o1:=wp_delete HOK'.out x;cases gk with
  | zero=>omega
  | succ gj =>
  by_cases hz:(deleteS D' x).1=0
  ·rw[if_neg (by simp[hz])] at hst;rw[hz] at HDL;have HST:=Lib.hid hst;have HO1:=Lib.hid o1;clear hx hxz hdr hst o1 hz;generalize (deleteS D' x).2=D'' at *;go_wp2_with fail;refine HDL.out.mono ?_;rintro e w3 ⟨rfl,q1,q2⟩;have H3:=Lib.hid (And.intro q1 (HK.out.trans q2));clear q1 q2;go_wp2_with fail;go_roundg gj
   case measure=>omega
   case rel=>exact⟨j+1,D'',by omega,by go_num,HST.out,HO1.out,H3.out.1,H3.out.2⟩
  ·rw[if_pos hz] at hst;have t:(((deleteS D' x).1:Int) != 0)=true:=by simp;omega
   have HST:=Lib.hid hst;clear hx hxz hdr hst o1 hz;generalize deleteS D' x=X at *;have HST2:Hid (delAll D L=(X.1,X.2)):=Lib.hid HST.out;clear HST;generalize X.2=D'' at *;generalize X.1=y at *;go_wp2_with fail;refine HDL.out.mono ?_;rintro e w3 ⟨rfl,q1,q2⟩;have H3:=Lib.hid (And.intro q1 (HK.out.trans q2));clear q1 q2;go_wp2;go_ret;rw[HST2.out];exact⟨rfl,H3.out.1.less (fun b hb=>List.mem_append_right _ hb),HK2.out.trans (H3.out.2.less (fun b hb=>List.mem_append_right _ hb))⟩
theorem imapi : ImApi At where
 load:=fun h ok hc=>imload_run api h ok hc
 loadn:=imload_nil
 swap:=fun n c d A k cp R h ok hH hk hl hL hd=>imswap_run api n c d A k cp R h ok hH hk hl hL hd
 swapn:=imswap_nil
 orphans:=fun n c d A k cp R h ok hH hk hl hL=>imorph_run api nap n c d A k cp R h ok hH hl hL
 orphansn:=fun n c d A k cp R w h hl hL=>imorph_nil n c d A k cp R w h hl hL
 clean:=fun n c d A k cp R h ok hH hk hl hL=>imclean_run api nap n c d A k cp R h ok hH hl hL
 cleann:=imclean_nil
end
end Go.Proofs.YtokbfellcadkpaaGreat
namespace Go.Proofs.YtokbfellcadkpaaGreat
set_option maxRecDepth 100000
set_option linter.unusedVariables false
section
theorem iap : ImApi ProgAt:=imapi api napi
end
end Go.Proofs.YtokbfellcadkpaaGreat
