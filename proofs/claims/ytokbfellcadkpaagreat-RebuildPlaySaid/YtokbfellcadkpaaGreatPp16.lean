import Derived.Test.YtokbfellcadkpaaGreatPp07
set_option linter.unusedVariables false
set_option maxRecDepth 100000
set_option maxHeartbeats 9000000
namespace Go.Proofs.YtokbfellcadkpaaGreat
open Tryz
section
open Go.RowKit Go.Shelf
section
variable {At:jL}(api:jM At)(nap:jm){c:Ctx}{gl gd:Nat}{L L':jN}{D D':jK}{w w':World}
include api nap
abbrev J6(At:jL)(c:Ctx)(gl gd:Nat)(L:jN)(r:Tw × Nat × jK):Ending->World->Prop:=vV At c gl gd (.tuple #[.string r.1,err r.2.1]) L r.2.2
omit nap in
omit nap in
theorem qZP(d:c.m=ptr gl)(h:TSt At c gl gd L D w)(pos:Int)(hw:(Lit.int .i64 pos).wf=true)(l:L.chunks<=200)(r:pos<0∨(L.chunks:Int)<=pos/4096∨pos%4096<12)(i:vq D L=0):Calls prog 28 #[ptr gl,.int .i64 pos] w (J6 At c gl gd L (ByteArray.empty,4,D)):=by
 have g:=qQ (my api d h);rw[i]at g;have s:=bounds_i64 hw;rcases(show pos<0∨0<=pos by omega) with z|t
 ·have A:decide (pos<0)=true:=qA z;clear r h d i l;go_enter func28,ntmps28;go_wp2_with fail;refine g.out.mono ?_;rintro e v⟨rfl,b⟩;have f:=qQ b;clear b;go_wp2;go_ret2;exact⟨rfl,f.out⟩
 ·obtain⟨p,rfl⟩:∃p:Nat,pos=p:=⟨pos.toNat,by omega⟩
  have A:decide ((p:Int)<0)=false:=qW (by omega);have C:(p:Int).tdiv 4096=((p/4096:Nat):Int):=by rw[Int.tdiv_eq_ediv_of_nonneg (by omega)];omega
  have F:(p:Int).tmod 4096=((p%4096:Nat):Int):=by rw[Int.tmod_eq_emod_of_nonneg (by omega)];omega
  have G:IntKind.i64.wrap ((p/4096:Nat):Int)=((p/4096:Nat):Int):=IntWalk.i64_in _ (by omega);by_cases u:L.chunks<=p/4096
  ·have B:decide ((L.chunks:Int)<=((p/4096:Nat):Int))=true:=qA (by omega);generalize p/4096=q at*;generalize p%4096=a at*;have y:=qQ d;generalize o:(L.chunks:Int)=n at*;have j:=qQ o;clear r h d i u s hw l t;go_enter func28,ntmps28;go_wp2_with fail;refine g.out.mono ?_;rintro e v⟨rfl,b⟩;have k:=b.cells.2.2.2.1;rw[j.out]at k;have f:=qQ b;clear b;go_wp2;go_ret2;exact⟨rfl,f.out⟩
  ·have B:decide ((L.chunks:Int)<=((p/4096:Nat):Int))=false:=qW (by omega);have H:decide (((p%4096:Nat):Int)<12)=true:=qA (by omega);generalize p/4096=q at*;generalize p%4096=a at*;have y:=qQ d;generalize o:(L.chunks:Int)=n at*;have j:=qQ o;clear r h d i u s hw l t;go_enter func28,ntmps28;go_wp2_with fail;refine g.out.mono ?_;rintro e v⟨rfl,b⟩;have k:=b.cells.2.2.2.1;rw[j.out]at k;have f:=qQ b;clear b;go_wp2;go_ret2;exact⟨rfl,f.out⟩
theorem qZR(K:c.m=ptr gl)(h:TSt At c gl gd L D w)(ok:WfP D)(X:D.count<=1000000000)(p:Nat)(hw:(Lit.int .i64 (p:Nat)).wf=true)(V:L.chunks<=200)(Y:p/4096<L.chunks)(Z:12<=p%4096)(O:vq D L=0):Calls prog 28 #[ptr gl,.int .i64 (p:Nat)] w (J6 At c gl gd L (ZJ D (nmC (p/4096)) (p%4096))):=by
 have N:=qQ (my api K h);rw[O]at N;have R:=bounds_i64 hw;have t1:decide ((p:Int)<0)=false:=qW (by omega);have e1:(p:Int).tdiv 4096=((p/4096:Nat):Int):=by rw[Int.tdiv_eq_ediv_of_nonneg (by omega)];omega
 have e2:(p:Int).tmod 4096=((p%4096:Nat):Int):=by rw[Int.tmod_eq_emod_of_nonneg (by omega)];omega
 have aj:IntKind.i64.wrap ((p/4096:Nat):Int)=((p/4096:Nat):Int):=IntWalk.i64_in _ (by omega);have t2:decide ((L.chunks:Int)<=((p/4096:Nat):Int))=false:=qW (by omega);have t3:decide (((p%4096:Nat):Int)<12)=false:=qW (by omega);have U:p%4096<4096:=Nat.mod_lt _ (by omega);have G:p/4096<=999999:=by omega
 generalize p/4096=q at*;generalize p%4096=a at*;generalize M:(L.chunks:Int)=n at*;have Q:=qQ M;have hz:=tk ok (nmC q);have T:=qQ fun W=>mu nap q W G
 have B:=ly G;have I:=qQ fun(W:World) (hT:TSt At c gl gd L D W)=>(show Calls prog 50 #[ptr gd,.string (nmC q)] W (vV At c gl gd (.tuple #[.int .i64 ((jH D (nmC q)).1:Nat),err (jH D (nmC q)).2]) L D) from hT.same (api.xe (nmC q) (Classical.choose_spec hT).1 ok.ok B))
 generalize nmC q=j at*;have H:=qQ fun(W:World) (hT:TSt At c gl gd L D W)=>hT.qi api (fun F hF=>api.read j (a:Nat) 4 hF ok.ok (by omega) (bE (by omega)) (by decide) B)
 unfold ZJ;by_cases C:(jH D j).2=0
 case neg =>
  rw[qV C];have t4:(((jH D j).2:Int) != 0)=true:=by simp;omega
  generalize (jH D j).2=y at*;generalize (jH D j).1=z at*;clear h ok X V Y Z O R hw M K hz C U G B H;go_enter func28,ntmps28;go_wp2_with fail;refine N.out.mono ?_;rintro e w1⟨rfl,d⟩;have v:=d.cells.2.2.2.1;rw[Q.out]at v;have s:=qQ d;clear d;go_wp2_with fail;refine(T.out _).mono ?_;rintro e w2⟨rfl,l⟩;have f:=s.out.below api l;have d1:=f.cells.2.1;have t:=qQ f;clear l f;go_wp2_with fail;refine(I.out _ t.out).mono ?_;rintro e w3⟨rfl,i⟩;have d3:=i.cells.2.1;have u:=qQ i;clear i;go_wp2;go_ret2;exact⟨rfl,u.out⟩
 rw[qZ (by simp[C])];rw[C]at I;have b3:IntKind.i64.wrap (((jH D j).1:Int)-(a:Nat))=((jH D j).1:Int)-(a:Nat):=IntWalk.i64_in _ (by omega);have b4:IntKind.i64.wrap (((jH D j).1:Int)-(a:Nat)-12)=((jH D j).1:Int)-(a:Nat)-12:=IntWalk.i64_in _ (by omega);by_cases J:(jH D j).1<a+12
 ·rw[qV J];have t4:decide (((jH D j).1:Int)-(a:Nat)-12<0)=true:=qA (by omega);generalize (jH D j).1=z at*;clear h ok X V Y Z O R hw M K hz C U G B H J;go_enter func28,ntmps28;go_wp2_with fail;refine N.out.mono ?_;rintro e w1⟨rfl,d⟩;have v:=d.cells.2.2.2.1;rw[Q.out]at v;have s:=qQ d;clear d;go_wp2_with fail;refine(T.out _).mono ?_;rintro e w2⟨rfl,l⟩;have f:=s.out.below api l;have d1:=f.cells.2.1;have t:=qQ f;clear l f;go_wp2_with fail;refine(I.out _ t.out).mono ?_;rintro e w3⟨rfl,i⟩;have d3:=i.cells.2.1;have u:=qQ i;clear i;go_wp2;go_ret2;exact⟨rfl,u.out⟩
 rw[qZ J];have t4:decide (((jH D j).1:Int)-(a:Nat)-12<0)=false:=qW (by omega);have ab:=Uf D j (a:Nat) 4;have P:WfP (kK D j (a:Nat) 4).2.2:=XH ok j (a:Nat) 4;have ac:=Zd (n:=j) (a:=(a:Nat)) (k:=4) ok;generalize kK D j (a:Nat) 4=b at*;obtain⟨o,y4,D4⟩:=b;dsimp only at ab P ac H ⊢;by_cases aa:y4=0
 case neg =>
  rw[qV aa];have t5:((y4:Int) != 0)=true:=by simp;omega
  generalize (jH D j).1=z at*;clear h ok X V Y Z O R hw M K hz C U G B J P ab ac aa;go_enter func28,ntmps28;go_wp2_with fail;refine N.out.mono ?_;rintro e w1⟨rfl,d⟩;have v:=d.cells.2.2.2.1;rw[Q.out]at v;have s:=qQ d;clear d;go_wp2_with fail;refine(T.out _).mono ?_;rintro e w2⟨rfl,l⟩;have f:=s.out.below api l;have d1:=f.cells.2.1;have t:=qQ f;clear l f;go_wp2_with fail;refine(I.out _ t.out).mono ?_;rintro e w3⟨rfl,i⟩;have d3:=i.cells.2.1;have u:=qQ i;clear i;go_wp2_with fail;refine(H.out _ u.out).mono ?_;rintro e w4⟨rfl,r⟩;have d4:=r.cells.2.1;have A:=qQ r;clear r;go_wp2;go_ret2;exact⟨rfl,A.out⟩
 subst aa;rw[qZ (by simp)];have hG:=qQ fun(W:World)=>cA o W (by unfold maxLen;omega)
 by_cases ad:2000<jR o
 ·rw[qV (qX ad)];have t6:decide ((2000:Int)<(jR o:Int))=true:=qA (by omega);generalize (jH D j).1=z at*;generalize jR o=g at*;clear h ok X V Y Z O R hw M K hz C U G B J P ab ac ad;go_enter func28,ntmps28;go_wp2_with fail;refine N.out.mono ?_;rintro e w1⟨rfl,d⟩;have v:=d.cells.2.2.2.1;rw[Q.out]at v;have s:=qQ d;clear d;go_wp2_with fail;refine(T.out _).mono ?_;rintro e w2⟨rfl,l⟩;have f:=s.out.below api l;have d1:=f.cells.2.1;have t:=qQ f;clear l f;go_wp2_with fail;refine(I.out _ t.out).mono ?_;rintro e w3⟨rfl,i⟩;have d3:=i.cells.2.1;have u:=qQ i;clear i;go_wp2_with fail;refine(H.out _ u.out).mono ?_;rintro e w4⟨rfl,r⟩;have d4:=r.cells.2.1;have A:=qQ r;clear r;go_wp2_with fail;refine(hG.out _).mono ?_;rintro e w5⟨rfl,rfl⟩;go_wp2;go_ret2;exact⟨rfl,A.out⟩
 have t6:decide ((2000:Int)<(jR o:Int))=false:=qW (by omega);have b5:IntKind.i64.wrap (jR o:Int)=(jR o:Int):=IntWalk.i64_in _ (by omega);by_cases ae:(jH D j).1<a+12+jR o
 ·rw[qV (qY ae)];have t7:decide (((jH D j).1:Int)-(a:Nat)-12<(jR o:Int))=true:=qA (by omega);generalize (jH D j).1=z at*;generalize jR o=g at*;clear h ok X V Y Z O R hw M K hz C U G B J P ab ac ad ae;go_enter func28,ntmps28;go_wp2_with fail;refine N.out.mono ?_;rintro e w1⟨rfl,d⟩;have v:=d.cells.2.2.2.1;rw[Q.out]at v;have s:=qQ d;clear d;go_wp2_with fail;refine(T.out _).mono ?_;rintro e w2⟨rfl,l⟩;have f:=s.out.below api l;have d1:=f.cells.2.1;have t:=qQ f;clear l f;go_wp2_with fail;refine(I.out _ t.out).mono ?_;rintro e w3⟨rfl,i⟩;have d3:=i.cells.2.1;have u:=qQ i;clear i;go_wp2_with fail;refine(H.out _ u.out).mono ?_;rintro e w4⟨rfl,r⟩;have d4:=r.cells.2.1;have A:=qQ r;clear r;go_wp2_with fail;refine(hG.out _).mono ?_;rintro e w5⟨rfl,rfl⟩;go_wp2;go_ret2;exact⟨rfl,A.out⟩
 rw[qZ (by omega)];have t7:decide (((jH D j).1:Int)-(a:Nat)-12<(jR o:Int))=false:=qW (by omega);have b6:IntKind.i64.wrap ((jR o:Int)+12)=((jR o+12:Nat):Int):=by rw[Int.natCast_add];exact IntWalk.i64_in _ (by omega)
 have b7:(jR o:Int)+12=((jR o+12:Nat):Int):=by omega
 have af:=qQ fun(W:World) (hT:TSt At c gl gd L D4 W)=>hT.qi api (fun F hF=>api.read j (a:Nat) ((jR o+12:Nat):Int) hF P.ok (by omega) (bE (by omega)) (bE (by omega)) B)
 have ah:=Zd (n:=j) (a:=(a:Nat)) (k:=((jR o+12:Nat):Int)) P;generalize kK D4 j (a:Nat) ((jR o+12:Nat):Int)=b at*;obtain⟨s5,y5,D5⟩:=b;dsimp only at ah af ⊢;have b8:IntKind.i64.wrap ((jR o+12:Nat):Int)=((jR o+12:Nat):Int):=IntWalk.i64_in _ (by omega);generalize ai:((jR o+12:Nat):Int)=ak at*;by_cases aa:y5=0
 case neg =>
  rw[qV aa];have t8:((y5:Int) != 0)=true:=by simp;omega
  generalize (jH D j).1=z at*;generalize jR o=g at*;clear h ok X V Y Z O R hw M K hz C U G B J P ab ac ad ae ah aa ai;go_enter func28,ntmps28;go_wp2_with fail;refine N.out.mono ?_;rintro e w1⟨rfl,d⟩;have v:=d.cells.2.2.2.1;rw[Q.out]at v;have s:=qQ d;clear d;go_wp2_with fail;refine(T.out _).mono ?_;rintro e w2⟨rfl,l⟩;have f:=s.out.below api l;have d1:=f.cells.2.1;have t:=qQ f;clear l f;go_wp2_with fail;refine(I.out _ t.out).mono ?_;rintro e w3⟨rfl,i⟩;have d3:=i.cells.2.1;have u:=qQ i;clear i;go_wp2_with fail;refine(H.out _ u.out).mono ?_;rintro e w4⟨rfl,r⟩;have d4:=r.cells.2.1;have A:=qQ r;clear r;go_wp2_with fail;refine(hG.out _).mono ?_;rintro e w5⟨rfl,rfl⟩;go_wp2_with fail;refine(af.out _ A.out).mono ?_;rintro e w5⟨rfl,S⟩;have H5:=qQ S;clear S;go_wp2;go_ret2;exact⟨rfl,H5.out⟩
 subst aa;rw[qZ (by simp)];have hK:=qQ fun(W:World)=>Zp s5 0 W (by unfold maxLen;omega) (by decide)
 unfold l7 at hK;cases ag:bC s5 0
 ·rw[qZ (by simp)];rw[ag]at hK;generalize (jH D j).1=z at*;generalize jR o=g at*;generalize bz s5 0=pp at*;generalize vH s5 0=nn at*;clear h ok X V Y Z O R hw M K hz C U G B J P ab ac ad ae ah ai ag;go_enter func28,ntmps28;go_wp2_with fail;refine N.out.mono ?_;rintro e w1⟨rfl,d⟩;have v:=d.cells.2.2.2.1;rw[Q.out]at v;have s:=qQ d;clear d;go_wp2_with fail;refine(T.out _).mono ?_;rintro e w2⟨rfl,l⟩;have f:=s.out.below api l;have d1:=f.cells.2.1;have t:=qQ f;clear l f;go_wp2_with fail;refine(I.out _ t.out).mono ?_;rintro e w3⟨rfl,i⟩;have d3:=i.cells.2.1;have u:=qQ i;clear i;go_wp2_with fail;refine(H.out _ u.out).mono ?_;rintro e w4⟨rfl,r⟩;have d4:=r.cells.2.1;have A:=qQ r;clear r;go_wp2_with fail;refine(hG.out _).mono ?_;rintro e w5⟨rfl,rfl⟩;go_wp2_with fail;refine(af.out _ A.out).mono ?_;rintro e w5⟨rfl,S⟩;have H5:=qQ S;clear S;go_wp2_with fail;refine(hK.out _).mono ?_;rintro e w6⟨rfl,l⟩;have H6:=qQ (H5.out.below api l);clear l;go_wp2;go_ret2;exact⟨rfl,H6.out⟩
 ·rw[qV rfl];rw[ag]at hK;generalize (jH D j).1=z at*;generalize jR o=g at*;generalize bz s5 0=pp at*;generalize vH s5 0=nn at*;clear h ok X V Y Z O R hw M K hz C U G B J P ab ac ad ae ah ai ag;go_enter func28,ntmps28;go_wp2_with fail;refine N.out.mono ?_;rintro e w1⟨rfl,d⟩;have v:=d.cells.2.2.2.1;rw[Q.out]at v;have s:=qQ d;clear d;go_wp2_with fail;refine(T.out _).mono ?_;rintro e w2⟨rfl,l⟩;have f:=s.out.below api l;have d1:=f.cells.2.1;have t:=qQ f;clear l f;go_wp2_with fail;refine(I.out _ t.out).mono ?_;rintro e w3⟨rfl,i⟩;have d3:=i.cells.2.1;have u:=qQ i;clear i;go_wp2_with fail;refine(H.out _ u.out).mono ?_;rintro e w4⟨rfl,r⟩;have d4:=r.cells.2.1;have A:=qQ r;clear r;go_wp2_with fail;refine(hG.out _).mono ?_;rintro e w5⟨rfl,rfl⟩;go_wp2_with fail;refine(af.out _ A.out).mono ?_;rintro e w5⟨rfl,S⟩;have H5:=qQ S;clear S;go_wp2_with fail;refine(hK.out _).mono ?_;rintro e w6⟨rfl,l⟩;have H6:=qQ (H5.out.below api l);clear l;go_wp2;go_ret2;exact⟨rfl,H6.out⟩
theorem qZS(b:c.m=ptr gl)(h:TSt At c gl gd L D w)(ok:WfP D)(i:D.count<=1000000000)(pos:Int)(hw:(Lit.int .i64 pos).wf=true)(d:L.chunks<=200):Calls prog 28 #[ptr gl,.int .i64 pos] w (J6 At c gl gd L (tV D L pos)):=by
 unfold tV;by_cases a:vq D L=0
 ·rw[qZ (by simp[a])];by_cases f:pos<0∨(L.chunks:Int)<=pos/4096∨pos%4096<12
  ·rw[qV f];exact qZP api b h pos hw d f a
  ·rw[qZ f];obtain⟨p,rfl⟩:∃p:Nat,pos=p:=⟨pos.toNat,by omega⟩
   have k:((p:Int)/4096).toNat=p/4096:=(by omega);have l:((p:Int)%4096).toNat=p%4096:=(by omega);rw[k,l];exact qZR api nap b h ok i p hw d (by omega) (by omega) a
 ·rw[qV a];have n:=qQ (my api b h);have t:((vq D L:Int) != 0)=true:=by simp;omega
  generalize vq D L=y at*;clear h ok i hw d a b;go_enter func28,ntmps28;go_wp2_with fail;refine n.out.mono ?_;rintro e o⟨rfl,g⟩;have j:=qQ g;clear g;go_wp2;go_ret2;exact⟨rfl,j.out⟩
end
end
section
open Go.RowKit
theorem oy(P:Program)(w:World)(a:Addr)(m:Mode)(k:FloatKind)(b:Nat):(store a (.float k b) m).run P w=stored P w a (.float k b) m:=run_store P w a _ m rfl
attribute [local go_sem] oy
def yG(w:World)(g:Nat)(t d:Tw)(b:Nat):Prop:=w.heap[g]? = some (.cells #[.string t,.string d,.float .f64 b] 55 (0,0))
theorem yG.c0{w:World}{g:Nat}{t d:Tw}{b:Nat}(h:yG w g t d b):w.cell? ⟨g,0,none⟩=some (.string t):=by unfold yG at h;simp[World.cell?,h]
theorem yG.c1{w:World}{g:Nat}{t d:Tw}{b:Nat}(h:yG w g t d b):w.cell? ⟨g,1,none⟩=some (.string d):=by unfold yG at h;simp[World.cell?,h]
theorem yG.c2{w:World}{g:Nat}{t d:Tw}{b:Nat}(h:yG w g t d b):w.cell? ⟨g,2,none⟩=some (.float .f64 b):=by unfold yG at h;simp[World.cell?,h]
theorem yG.fz{w:World}{g:Nat}{t d:Tw}{b:Nat}(h:yG w g t d b)(i:Nat):w.frozen? ⟨g,i,none⟩=false:=by unfold yG at h;simp[World.frozen?,h]
theorem yG.new(w:World)(t d:Tw)(b:Nat):yG (w.alloc (.cells #[.string t,.string d,.float .f64 b] 55)) w.heap.size t d b:=by
 show(w.heap.push _)[w.heap.size]? = _;simp
theorem yG.lt{w:World}{g:Nat}{t d:Tw}{b:Nat}(h:yG w g t d b):g<w.heap.size:=by
 obtain⟨a,_⟩:=qm.1 h;exact a
theorem yG.below{w w':World}{g:Nat}{t d:Tw}{b:Nat}(h:yG w g t d b)(a:Below w.heap.size w w'):yG w' g t d b:=(a.block g h.lt).trans h
theorem yG.xy{w:World}{g:Nat}{t d:Tw}{b:Nat}(h:yG w g t d b)(i f:Tw)(a:Nat):
  yG (((w.setCell ⟨g,0,none⟩ (.string i)).setCell ⟨g,1,none⟩ (.string f)).setCell ⟨g,2,none⟩ (.float .f64 a)) g i f a:=by
 unfold yG at h ⊢;simp[World.setCell,Array.getElem?_modify,h]
theorem rz{w w2:World}(h:Below w.heap.size w w2)(d b:Value)(a:Value):
  Below w.heap.size w (((w2.setCell ⟨w.heap.size,0,none⟩ d).setCell ⟨w.heap.size,1,none⟩ b).setCell ⟨w.heap.size,2,none⟩ a):=((h.setCell (qK _) _).setCell (qK _) _).setCell (qK _) _
theorem qZT(s:Tw)(w:World)(f:s.size<=maxLen)(h:¬8<=(erL s).size):
  Calls prog 267 #[.string s] w fun e w'=>e = .returned (.tuple #[.agg #[.string ByteArray.empty,.string ByteArray.empty,.float .f64 0],.string ByteArray.empty,.bool false])/\Below w.heap.size w w':=by
 have l:=qQ fun W=>mF s W f
 have j:=qQ fun W=>mF (rdB s) W (qO (bW s) f)
 have B:(erL s).size<8:=by omega
 have k:rdB (rdB s)=erL s:=rfl;rw[k]at j;have g:=yG.new w ByteArray.empty ByteArray.empty 0;generalize erL s=L at*;generalize rdB s=R at*;generalize rdA s=A at*;generalize v8 s=o at*;generalize rdA R=t at*;generalize v8 R=C at*;clear k h f;go_enter func267,ntmps267;go_wp2_with fail;refine(l.out _).mono ?_;rintro e F⟨rfl,b⟩;have i:=g.below b;go_wp2_with fail;refine(j.out _).mono ?_;rintro e r⟨rfl,d⟩;have a:=i.below d;have m:Below w.heap.size w r:=(((Below.refl _ _).alloc (qK _) _).trans (b.mono (by simp))).trans (d.mono (by have:=b.size;simp at this;omega));have n:=a.c0;have p:=a.c1;have q:=a.c2;have u:=a.fz 0;have y:=a.fz 1;have z:=a.fz 2;clear g i a b d;go_wp2_with fail;exact bodyPost_ret (v:=.tuple #[.agg #[.string ByteArray.empty,.string ByteArray.empty,.float .f64 0],.string ByteArray.empty,.bool false]) (by simp[results,Tryz.results267,go_sem,n,p,q];rfl) rfl ⟨rfl,rz m _ _ _⟩
theorem qZ0(s:Tw)(w:World)(f:s.size<=maxLen)(h:8<=(erL s).size)(J:¬chk (rdA s) (rdA (rdB s))=0):
  Calls prog 267 #[.string s] w fun e w'=>e = .returned (.tuple #[.agg #[.string ByteArray.empty,.string ByteArray.empty,.float .f64 0],.string ByteArray.empty,.bool false])/\Below w.heap.size w w':=by
 have K:=qQ fun W=>mF s W f
 have y:=qQ fun W=>mF (rdB s) W (qO (bW s) f)
 have M:=qQ fun W=>cA (erL s) W (qO (bW _) (qO (bW s) f))
 have Q:=fun b w=>KF b w
 have j:=fun b W=>th (rdA s) (rdA (rdB s)) b W (qO (pP _) f) (qO (pP _) (qO (bW s) f))
 have I:rdB (rdB s)=erL s:=rfl;rw[I]at y;have t:=yG.new w ByteArray.empty ByteArray.empty 0;rcases VT (rdA s) (rdA (rdB s)) with g|g|g
 ·exact absurd g J
 all_goals
  rw[g]at j;have N:=qQ j;clear j g J;generalize jR (erL s)=n at*;generalize erL s=L at*;generalize rdB s=R at*;generalize rdA s=A at*;generalize v8 s=o at*;generalize rdA R=r at*;generalize v8 R=S at*;clear I f;go_enter func267,ntmps267;go_wp2_with fail;refine(K.out _).mono ?_;rintro e T⟨rfl,i⟩;have u:=t.below i;go_wp2_with fail;refine(y.out _).mono ?_;rintro e P⟨rfl,k⟩;have a:=u.below k;have H:Below w.heap.size w P:=(((Below.refl _ _).alloc (qK _) _).trans (i.mono (by simp))).trans (k.mono (by have:=i.size;simp at this;omega));have m:=a.c0;have p:=a.c1;have q:=a.c2;have C:=a.fz 0;have F:=a.fz 1;have G:=a.fz 2;have B:=qQ (a.xy A r n);have z:=qQ (rz H (.string A) (.string r) (.float .f64 n));clear t u a i k H;go_wp2_with fail;refine(M.out _).mono ?_;rintro e w'⟨rfl,rfl⟩;go_wp2_with fail;refine(N.out _ _).mono ?_;rintro e U⟨rfl,l⟩;have d:=B.out.below l;have O:=bj z.out l;clear l B z m p q C F G;have m:=d.c0;have p:=d.c1;have q:=d.c2;have C:=d.fz 0;have F:=d.fz 1;have G:=d.fz 2;clear d;go_wp2_with fail;exact bodyPost_ret (v:=.tuple #[.agg #[.string ByteArray.empty,.string ByteArray.empty,.float .f64 0],.string ByteArray.empty,.bool false]) (by simp[results,Tryz.results267,go_sem,m,p,q];rfl) rfl ⟨rfl,rz O _ _ _⟩
theorem qZ1(s:Tw)(w:World)(f:s.size<=maxLen)(h:8<=(erL s).size)(I:chk (rdA s) (rdA (rdB s))=0):
  Calls prog 267 #[.string s] w fun e w'=>e = .returned (.tuple #[.agg #[.string (rdA s),.string (rdA (rdB s)),.float .f64 (jR (erL s))],.string ((erL s).extract 8 (erL s).size),.bool true])/\Below w.heap.size w w':=by
 have J:=qQ fun W=>mF s W f
 have u:=qQ fun W=>mF (rdB s) W (qO (bW s) f)
 have K:=qQ fun W=>cA (erL s) W (qO (bW _) (qO (bW s) f))
 have Q:=fun b w=>KF b w
 have j:=fun b W=>th (rdA s) (rdA (rdB s)) b W (qO (pP _) f) (qO (pP _) (qO (bW s) f))
 have O:(erL s).size<=maxLen:=qO (bW _) (qO (bW s) f);unfold maxLen at O;have H:rdB (rdB s)=erL s:=rfl;rw[H]at u;have r:=yG.new w ByteArray.empty ByteArray.empty 0;rw[I]at j;have M:=qQ j;clear j I;generalize jR (erL s)=n at*;generalize erL s=L at*;generalize rdB s=R at*;generalize rdA s=A at*;generalize v8 s=o at*;generalize rdA R=i at*;generalize v8 R=S at*;clear H f;go_enter func267,ntmps267;go_wp2_with fail;refine(J.out _).mono ?_;rintro e T⟨rfl,g⟩;have t:=r.below g;go_wp2_with fail;refine(u.out _).mono ?_;rintro e P⟨rfl,k⟩;have a:=t.below k;have G:Below w.heap.size w P:=(((Below.refl _ _).alloc (qK _) _).trans (g.mono (by simp))).trans (k.mono (by have:=g.size;simp at this;omega));have m:=a.c0;have p:=a.c1;have q:=a.c2;have B:=a.fz 0;have C:=a.fz 1;have F:=a.fz 2;have z:=qQ (a.xy A i n);have y:=qQ (rz G (.string A) (.string i) (.float .f64 n));clear r t a g k G;go_wp2_with fail;refine(K.out _).mono ?_;rintro e w'⟨rfl,rfl⟩;go_wp2_with fail;refine(M.out _ _).mono ?_;rintro e U⟨rfl,l⟩;have d:=z.out.below l;have N:=bj y.out l;clear l z y m p q B C F;have m:=d.c0;have p:=d.c1;have q:=d.c2;have B:=d.fz 0;have C:=d.fz 1;have F:=d.fz 2;clear d;go_wp2_with fail;go_region
 all_goals
  go_wp2;exact bodyPost_ret (v:=.tuple #[.agg #[.string A,.string i,.float .f64 n],.string (L.extract 8 L.size),.bool true]) (by simp[results,Tryz.results267,go_sem,m,p,q]) rfl ⟨rfl,(rz N _ _ _).drew⟩
theorem CV{s:Tw}(h:8<=(erL s).size)(a:chk (rdA s) (rdA (rdB s))=0):yN s=true:=by simp[yN,h,a]
theorem CY{s:Tw}(h:¬8<=(erL s).size):yN s=false:=by simp[yN];omega
theorem CU{s:Tw}(a:¬chk (rdA s) (rdA (rdB s))=0):yN s=false:=by simp[yN,a]
theorem qZ2(s:Tw)(w:World)(i:s.size<=maxLen):
  Calls prog 267 #[.string s] w fun e w'=>e = .returned (.tuple #[.agg #[.string (erT s),.string (erD s),.float .f64 (erW s)],.string (erR s),.bool (yN s)])/\Below w.heap.size w w':=by
 by_cases h:8<=(erL s).size
 ·by_cases a:chk (rdA s) (rdA (rdB s))=0
  ·obtain⟨b,d,f,g⟩:=sh (CV h a);rw[b,d,f,g,CV h a];exact qZ1 s w i h a
  ·obtain⟨b,d,f,g⟩:=XS (CU a);rw[b,d,f,g,CU a];exact qZ0 s w i h a
 ·obtain⟨b,d,f,g⟩:=XS (CY h);rw[b,d,f,g,CY h];exact qZT s w i h
end
end Go.Proofs.YtokbfellcadkpaaGreat
