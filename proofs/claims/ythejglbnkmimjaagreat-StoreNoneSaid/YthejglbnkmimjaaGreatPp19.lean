import Derived.Test.YthejglbnkmimjaaGreatPp07
set_option linter.unusedVariables false
set_option maxRecDepth 100000
set_option maxHeartbeats 9000000
namespace Go.Proofs.YthejglbnkmimjaaGreat
open Tryz
section
open Go.RowKit Go.Shelf
section
variable {At:jK}(api:jY At)(nap:jz){c:Ctx}{gl gd:Nat}{L L':jV}{D D':zr}{w w':World}
include api nap
abbrev QA(At:jK)(c:Ctx)(gl gd:Nat)(L:jV)(r:Tw × Nat × zr):Ending->World->Prop:=kU At c gl gd (.tuple #[.string r.1,err r.2.1]) L r.2.2
omit nap in
omit nap in
theorem PU(d:c.m=ptr gl)(h:TSt At c gl gd L D w)(pos:Int)(hw:(Lit.int .i64 pos).wf=true)(l:L.chunks<=200)(r:pos<0∨(L.chunks:Int)<=pos/4096∨pos%4096<12)(i:vU D L=0):Calls prog 80 #[ptr gl,.int .i64 pos] w (QA At c gl gd L (ByteArray.empty,4,D)):=by
 have g:=qQ (lY api d h);rw[i]at g;have s:=bounds_i64 hw;rcases(show pos<0∨0<=pos by omega) with z|t
 ·have A:decide (pos<0)=true:=qW z;clear r h d i l;go_enter func80,ntmps80;go_wp2_with fail;refine g.out.mono ?_;rintro e v⟨rfl,b⟩;have f:=qQ b;clear b;go_wp2;go_ret2;exact⟨rfl,f.out⟩
 ·obtain⟨p,rfl⟩:∃p:Nat,pos=p:=⟨pos.toNat,by omega⟩
  have A:decide ((p:Int)<0)=false:=qG (by omega);have C:(p:Int).tdiv 4096=((p/4096:Nat):Int):=by rw[Int.tdiv_eq_ediv_of_nonneg (by omega)];omega
  have F:(p:Int).tmod 4096=((p%4096:Nat):Int):=by rw[Int.tmod_eq_emod_of_nonneg (by omega)];omega
  have G:IntKind.i64.wrap ((p/4096:Nat):Int)=((p/4096:Nat):Int):=IntWalk.i64_in _ (by omega);by_cases u:L.chunks<=p/4096
  ·have B:decide ((L.chunks:Int)<=((p/4096:Nat):Int))=true:=qW (by omega);generalize p/4096=q at*;generalize p%4096=a at*;have y:=qQ d;generalize o:(L.chunks:Int)=n at*;have j:=qQ o;clear r h d i u s hw l t;go_enter func80,ntmps80;go_wp2_with fail;refine g.out.mono ?_;rintro e v⟨rfl,b⟩;have k:=b.cells.2.2.2.1;rw[j.out]at k;have f:=qQ b;clear b;go_wp2;go_ret2;exact⟨rfl,f.out⟩
  ·have B:decide ((L.chunks:Int)<=((p/4096:Nat):Int))=false:=qG (by omega);have H:decide (((p%4096:Nat):Int)<12)=true:=qW (by omega);generalize p/4096=q at*;generalize p%4096=a at*;have y:=qQ d;generalize o:(L.chunks:Int)=n at*;have j:=qQ o;clear r h d i u s hw l t;go_enter func80,ntmps80;go_wp2_with fail;refine g.out.mono ?_;rintro e v⟨rfl,b⟩;have k:=b.cells.2.2.2.1;rw[j.out]at k;have f:=qQ b;clear b;go_wp2;go_ret2;exact⟨rfl,f.out⟩
theorem PG(K:c.m=ptr gl)(h:TSt At c gl gd L D w)(ok:WfP D)(X:D.count<=1000000000)(p:Nat)(hw:(Lit.int .i64 (p:Nat)).wf=true)(V:L.chunks<=200)(Y:p/4096<L.chunks)(Z:12<=p%4096)(O:vU D L=0):Calls prog 80 #[ptr gl,.int .i64 (p:Nat)] w (QA At c gl gd L (oz D (nmC (p/4096)) (p%4096))):=by
 have N:=qQ (lY api K h);rw[O]at N;have R:=bounds_i64 hw;have t1:decide ((p:Int)<0)=false:=qG (by omega);have e1:(p:Int).tdiv 4096=((p/4096:Nat):Int):=by rw[Int.tdiv_eq_ediv_of_nonneg (by omega)];omega
 have e2:(p:Int).tmod 4096=((p%4096:Nat):Int):=by rw[Int.tmod_eq_emod_of_nonneg (by omega)];omega
 have aj:IntKind.i64.wrap ((p/4096:Nat):Int)=((p/4096:Nat):Int):=IntWalk.i64_in _ (by omega);have t2:decide ((L.chunks:Int)<=((p/4096:Nat):Int))=false:=qG (by omega);have t3:decide (((p%4096:Nat):Int)<12)=false:=qG (by omega);have U:p%4096<4096:=Nat.mod_lt _ (by omega);have G:p/4096<=999999:=by omega
 generalize p/4096=q at*;generalize p%4096=a at*;generalize M:(L.chunks:Int)=n at*;have Q:=qQ M;have hz:=ou ok (nmC q);have T:=qQ fun W=>fW nap q W G
 have B:=dH G;have I:=qQ fun(W:World) (hT:TSt At c gl gd L D W)=>(show Calls prog 129 #[ptr gd,.string (nmC q)] W (kU At c gl gd (.tuple #[.int .i64 ((jQ D (nmC q)).1:Nat),err (jQ D (nmC q)).2]) L D) from hT.same (api.xo (nmC q) (Classical.choose_spec hT).1 ok.ok B))
 generalize nmC q=j at*;have H:=qQ fun(W:World) (hT:TSt At c gl gd L D W)=>hT.qi api (fun F hF=>api.read j (a:Nat) 4 hF ok.ok (by omega) (bY (by omega)) (by decide) B)
 unfold oz;by_cases C:(jQ D j).2=0
 case neg =>
  rw[qK C];have t4:(((jQ D j).2:Int) != 0)=true:=by simp;omega
  generalize (jQ D j).2=y at*;generalize (jQ D j).1=z at*;clear h ok X V Y Z O R hw M K hz C U G B H;go_enter func80,ntmps80;go_wp2_with fail;refine N.out.mono ?_;rintro e w1⟨rfl,d⟩;have v:=d.cells.2.2.2.1;rw[Q.out]at v;have s:=qQ d;clear d;go_wp2_with fail;refine(T.out _).mono ?_;rintro e w2⟨rfl,l⟩;have f:=s.out.below api l;have d1:=f.cells.2.1;have t:=qQ f;clear l f;go_wp2_with fail;refine(I.out _ t.out).mono ?_;rintro e w3⟨rfl,i⟩;have d3:=i.cells.2.1;have u:=qQ i;clear i;go_wp2;go_ret2;exact⟨rfl,u.out⟩
 rw[qJ (by simp[C])];rw[C]at I;have b3:IntKind.i64.wrap (((jQ D j).1:Int)-(a:Nat))=((jQ D j).1:Int)-(a:Nat):=IntWalk.i64_in _ (by omega);have b4:IntKind.i64.wrap (((jQ D j).1:Int)-(a:Nat)-12)=((jQ D j).1:Int)-(a:Nat)-12:=IntWalk.i64_in _ (by omega);by_cases J:(jQ D j).1<a+12
 ·rw[qK J];have t4:decide (((jQ D j).1:Int)-(a:Nat)-12<0)=true:=qW (by omega);generalize (jQ D j).1=z at*;clear h ok X V Y Z O R hw M K hz C U G B H J;go_enter func80,ntmps80;go_wp2_with fail;refine N.out.mono ?_;rintro e w1⟨rfl,d⟩;have v:=d.cells.2.2.2.1;rw[Q.out]at v;have s:=qQ d;clear d;go_wp2_with fail;refine(T.out _).mono ?_;rintro e w2⟨rfl,l⟩;have f:=s.out.below api l;have d1:=f.cells.2.1;have t:=qQ f;clear l f;go_wp2_with fail;refine(I.out _ t.out).mono ?_;rintro e w3⟨rfl,i⟩;have d3:=i.cells.2.1;have u:=qQ i;clear i;go_wp2;go_ret2;exact⟨rfl,u.out⟩
 rw[qJ J];have t4:decide (((jQ D j).1:Int)-(a:Nat)-12<0)=false:=qG (by omega);have ab:=Za D j (a:Nat) 4;have P:WfP (jx D j (a:Nat) 4).2.2:=sg ok j (a:Nat) 4;have ac:=sn (n:=j) (a:=(a:Nat)) (k:=4) ok;generalize jx D j (a:Nat) 4=b at*;obtain⟨o,y4,D4⟩:=b;dsimp only at ab P ac H ⊢;by_cases aa:y4=0
 case neg =>
  rw[qK aa];have t5:((y4:Int) != 0)=true:=by simp;omega
  generalize (jQ D j).1=z at*;clear h ok X V Y Z O R hw M K hz C U G B J P ab ac aa;go_enter func80,ntmps80;go_wp2_with fail;refine N.out.mono ?_;rintro e w1⟨rfl,d⟩;have v:=d.cells.2.2.2.1;rw[Q.out]at v;have s:=qQ d;clear d;go_wp2_with fail;refine(T.out _).mono ?_;rintro e w2⟨rfl,l⟩;have f:=s.out.below api l;have d1:=f.cells.2.1;have t:=qQ f;clear l f;go_wp2_with fail;refine(I.out _ t.out).mono ?_;rintro e w3⟨rfl,i⟩;have d3:=i.cells.2.1;have u:=qQ i;clear i;go_wp2_with fail;refine(H.out _ u.out).mono ?_;rintro e w4⟨rfl,r⟩;have d4:=r.cells.2.1;have A:=qQ r;clear r;go_wp2;go_ret2;exact⟨rfl,A.out⟩
 subst aa;rw[qJ (by simp)];have hG:=qQ fun(W:World)=>gQ o W (by unfold maxLen;omega)
 by_cases ad:2000<jJ o
 ·rw[qK (qX ad)];have t6:decide ((2000:Int)<(jJ o:Int))=true:=qW (by omega);generalize (jQ D j).1=z at*;generalize jJ o=g at*;clear h ok X V Y Z O R hw M K hz C U G B J P ab ac ad;go_enter func80,ntmps80;go_wp2_with fail;refine N.out.mono ?_;rintro e w1⟨rfl,d⟩;have v:=d.cells.2.2.2.1;rw[Q.out]at v;have s:=qQ d;clear d;go_wp2_with fail;refine(T.out _).mono ?_;rintro e w2⟨rfl,l⟩;have f:=s.out.below api l;have d1:=f.cells.2.1;have t:=qQ f;clear l f;go_wp2_with fail;refine(I.out _ t.out).mono ?_;rintro e w3⟨rfl,i⟩;have d3:=i.cells.2.1;have u:=qQ i;clear i;go_wp2_with fail;refine(H.out _ u.out).mono ?_;rintro e w4⟨rfl,r⟩;have d4:=r.cells.2.1;have A:=qQ r;clear r;go_wp2_with fail;refine(hG.out _).mono ?_;rintro e w5⟨rfl,rfl⟩;go_wp2;go_ret2;exact⟨rfl,A.out⟩
 have t6:decide ((2000:Int)<(jJ o:Int))=false:=qG (by omega);have b5:IntKind.i64.wrap (jJ o:Int)=(jJ o:Int):=IntWalk.i64_in _ (by omega);by_cases ae:(jQ D j).1<a+12+jJ o
 ·rw[qK (qY ae)];have t7:decide (((jQ D j).1:Int)-(a:Nat)-12<(jJ o:Int))=true:=qW (by omega);generalize (jQ D j).1=z at*;generalize jJ o=g at*;clear h ok X V Y Z O R hw M K hz C U G B J P ab ac ad ae;go_enter func80,ntmps80;go_wp2_with fail;refine N.out.mono ?_;rintro e w1⟨rfl,d⟩;have v:=d.cells.2.2.2.1;rw[Q.out]at v;have s:=qQ d;clear d;go_wp2_with fail;refine(T.out _).mono ?_;rintro e w2⟨rfl,l⟩;have f:=s.out.below api l;have d1:=f.cells.2.1;have t:=qQ f;clear l f;go_wp2_with fail;refine(I.out _ t.out).mono ?_;rintro e w3⟨rfl,i⟩;have d3:=i.cells.2.1;have u:=qQ i;clear i;go_wp2_with fail;refine(H.out _ u.out).mono ?_;rintro e w4⟨rfl,r⟩;have d4:=r.cells.2.1;have A:=qQ r;clear r;go_wp2_with fail;refine(hG.out _).mono ?_;rintro e w5⟨rfl,rfl⟩;go_wp2;go_ret2;exact⟨rfl,A.out⟩
 rw[qJ (by omega)];have t7:decide (((jQ D j).1:Int)-(a:Nat)-12<(jJ o:Int))=false:=qG (by omega);have b6:IntKind.i64.wrap ((jJ o:Int)+12)=((jJ o+12:Nat):Int):=by rw[Int.natCast_add];exact IntWalk.i64_in _ (by omega)
 have b7:(jJ o:Int)+12=((jJ o+12:Nat):Int):=by omega
 have af:=qQ fun(W:World) (hT:TSt At c gl gd L D4 W)=>hT.qi api (fun F hF=>api.read j (a:Nat) ((jJ o+12:Nat):Int) hF P.ok (by omega) (bY (by omega)) (bY (by omega)) B)
 have ah:=sn (n:=j) (a:=(a:Nat)) (k:=((jJ o+12:Nat):Int)) P;generalize jx D4 j (a:Nat) ((jJ o+12:Nat):Int)=b at*;obtain⟨s5,y5,D5⟩:=b;dsimp only at ah af ⊢;have b8:IntKind.i64.wrap ((jJ o+12:Nat):Int)=((jJ o+12:Nat):Int):=IntWalk.i64_in _ (by omega);generalize ai:((jJ o+12:Nat):Int)=ak at*;by_cases aa:y5=0
 case neg =>
  rw[qK aa];have t8:((y5:Int) != 0)=true:=by simp;omega
  generalize (jQ D j).1=z at*;generalize jJ o=g at*;clear h ok X V Y Z O R hw M K hz C U G B J P ab ac ad ae ah aa ai;go_enter func80,ntmps80;go_wp2_with fail;refine N.out.mono ?_;rintro e w1⟨rfl,d⟩;have v:=d.cells.2.2.2.1;rw[Q.out]at v;have s:=qQ d;clear d;go_wp2_with fail;refine(T.out _).mono ?_;rintro e w2⟨rfl,l⟩;have f:=s.out.below api l;have d1:=f.cells.2.1;have t:=qQ f;clear l f;go_wp2_with fail;refine(I.out _ t.out).mono ?_;rintro e w3⟨rfl,i⟩;have d3:=i.cells.2.1;have u:=qQ i;clear i;go_wp2_with fail;refine(H.out _ u.out).mono ?_;rintro e w4⟨rfl,r⟩;have d4:=r.cells.2.1;have A:=qQ r;clear r;go_wp2_with fail;refine(hG.out _).mono ?_;rintro e w5⟨rfl,rfl⟩;go_wp2_with fail;refine(af.out _ A.out).mono ?_;rintro e w5⟨rfl,S⟩;have H5:=qQ S;clear S;go_wp2;go_ret2;exact⟨rfl,H5.out⟩
 subst aa;rw[qJ (by simp)];have hK:=qQ fun(W:World)=>sw s5 0 W (by unfold maxLen;omega) (by decide)
 unfold dV at hK;cases ag:uY s5 0
 ·rw[qJ (by simp)];rw[ag]at hK;generalize (jQ D j).1=z at*;generalize jJ o=g at*;generalize uN s5 0=pp at*;generalize kI s5 0=nn at*;clear h ok X V Y Z O R hw M K hz C U G B J P ab ac ad ae ah ai ag;go_enter func80,ntmps80;go_wp2_with fail;refine N.out.mono ?_;rintro e w1⟨rfl,d⟩;have v:=d.cells.2.2.2.1;rw[Q.out]at v;have s:=qQ d;clear d;go_wp2_with fail;refine(T.out _).mono ?_;rintro e w2⟨rfl,l⟩;have f:=s.out.below api l;have d1:=f.cells.2.1;have t:=qQ f;clear l f;go_wp2_with fail;refine(I.out _ t.out).mono ?_;rintro e w3⟨rfl,i⟩;have d3:=i.cells.2.1;have u:=qQ i;clear i;go_wp2_with fail;refine(H.out _ u.out).mono ?_;rintro e w4⟨rfl,r⟩;have d4:=r.cells.2.1;have A:=qQ r;clear r;go_wp2_with fail;refine(hG.out _).mono ?_;rintro e w5⟨rfl,rfl⟩;go_wp2_with fail;refine(af.out _ A.out).mono ?_;rintro e w5⟨rfl,S⟩;have H5:=qQ S;clear S;go_wp2_with fail;refine(hK.out _).mono ?_;rintro e w6⟨rfl,l⟩;have H6:=qQ (H5.out.below api l);clear l;go_wp2;go_ret2;exact⟨rfl,H6.out⟩
 ·rw[qK rfl];rw[ag]at hK;generalize (jQ D j).1=z at*;generalize jJ o=g at*;generalize uN s5 0=pp at*;generalize kI s5 0=nn at*;clear h ok X V Y Z O R hw M K hz C U G B J P ab ac ad ae ah ai ag;go_enter func80,ntmps80;go_wp2_with fail;refine N.out.mono ?_;rintro e w1⟨rfl,d⟩;have v:=d.cells.2.2.2.1;rw[Q.out]at v;have s:=qQ d;clear d;go_wp2_with fail;refine(T.out _).mono ?_;rintro e w2⟨rfl,l⟩;have f:=s.out.below api l;have d1:=f.cells.2.1;have t:=qQ f;clear l f;go_wp2_with fail;refine(I.out _ t.out).mono ?_;rintro e w3⟨rfl,i⟩;have d3:=i.cells.2.1;have u:=qQ i;clear i;go_wp2_with fail;refine(H.out _ u.out).mono ?_;rintro e w4⟨rfl,r⟩;have d4:=r.cells.2.1;have A:=qQ r;clear r;go_wp2_with fail;refine(hG.out _).mono ?_;rintro e w5⟨rfl,rfl⟩;go_wp2_with fail;refine(af.out _ A.out).mono ?_;rintro e w5⟨rfl,S⟩;have H5:=qQ S;clear S;go_wp2_with fail;refine(hK.out _).mono ?_;rintro e w6⟨rfl,l⟩;have H6:=qQ (H5.out.below api l);clear l;go_wp2;go_ret2;exact⟨rfl,H6.out⟩
theorem QB(b:c.m=ptr gl)(h:TSt At c gl gd L D w)(ok:WfP D)(i:D.count<=1000000000)(pos:Int)(hw:(Lit.int .i64 pos).wf=true)(d:L.chunks<=200):Calls prog 80 #[ptr gl,.int .i64 pos] w (QA At c gl gd L (dE D L pos)):=by
 unfold dE;by_cases a:vU D L=0
 ·rw[qJ (by simp[a])];by_cases f:pos<0∨(L.chunks:Int)<=pos/4096∨pos%4096<12
  ·rw[qK f];exact PU api b h pos hw d f a
  ·rw[qJ f];obtain⟨p,rfl⟩:∃p:Nat,pos=p:=⟨pos.toNat,by omega⟩
   have k:((p:Int)/4096).toNat=p/4096:=(by omega);have l:((p:Int)%4096).toNat=p%4096:=(by omega);rw[k,l];exact PG api nap b h ok i p hw d (by omega) (by omega) a
 ·rw[qK a];have n:=qQ (lY api b h);have t:((vU D L:Int) != 0)=true:=by simp;omega
  generalize vU D L=y at*;clear h ok i hw d a b;go_enter func80,ntmps80;go_wp2_with fail;refine n.out.mono ?_;rintro e o⟨rfl,g⟩;have j:=qQ g;clear g;go_wp2;go_ret2;exact⟨rfl,j.out⟩
end
end
end Go.Proofs.YthejglbnkmimjaaGreat
