import Derived.Test.YthejglbnkmimjaaGreatPp05
import Derived.Test.YthejglbnkmimjaaGreatPp04
import Derived.Deep.RegionHeldLaw
set_option linter.unusedVariables false
set_option maxRecDepth 100000
set_option maxHeartbeats 9000000
namespace Go.Proofs.YthejglbnkmimjaaGreat
open Proofs.Tryz
section
open Go.RowKit Go.Shelf
attribute [local go_sem ↓] Go.wp_at_zero Go.wp_at_succ
def Zn(r:Int × Int)(w:World)(e:Ending)(w':World):Prop:=e=.returned (.tuple #[r.1,r.2])/\Below w.1.size w w'
theorem Pp(lo hi many a p b q:Int)(c:(if 0>lo then 0 else lo)=a)(d:(if many<a then many else a)=p)(f:(if p>hi then p else hi)=b)(i:(if many<b then many else b)=q):dx lo hi many=(p,q):=by
 unfold dx;refine Prod.ext ?_ ?_<;>simp only<;>subst i f d c<;>(repeat' split)<;>omega
theorem Uz(lo hi many:Int)(w:World):
  Calls prog 260 #[lo,hi,many] w (Zn (dx lo hi many) w):=by
 obtain⟨a,c⟩:∃a:Int,(if 0>lo then 0 else lo)=a:=⟨_,rfl⟩
 obtain⟨p,d⟩:∃p:Int,(if many<a then many else a)=p:=⟨_,rfl⟩
 obtain⟨b,f⟩:∃b:Int,(if p>hi then p else hi)=b:=⟨_,rfl⟩
 obtain⟨q,i⟩:∃q:Int,(if many<b then many else b)=q:=⟨_,rfl⟩
 rw[Pp lo hi many a p b q c d f i];go_enter func260,ntmps260;go_wp2;go_ret2;exact⟨rfl,qG _ _⟩
def oq(x:jI)(m:List vc)(many:Int):Int × Int:=dx (cP x m 0 (max many 0)).1 (cP x m 0 (max many 0)).2 (max many 0)
theorem Pr(v:Value)(m:List vc)(many:Int)(x:jI)(w:World)(hm:bY w v m)(hn:m.length<=1000000):
  Calls prog 222 #[v,many,ki x] w (Zn (oq x m many) w):=by
 obtain⟨A0,off,am,rfl,ak,ae⟩:=hm.form;have HC:=qQ ae;obtain⟨n,ac⟩:∃n,n=m.length:=⟨_,rfl⟩
 have M:=qQ ac;obtain⟨a,al⟩:∃a,(if 0>many then 0 else many)=a:=⟨_,rfl⟩
 have ad:max many 0=a:=by subst al;split<;>omega
 have U:=qQ (show oq x m many=dx (cP x m 0 a).1 (cP x m 0 a).2 a by unfold oq;rw[ad]);generalize oq x m many=R at*;rw[<-ac]at hn ⊢;clear ak;have Y:=(qG w.1.size w).alloc (qK _) (.cells #[.int .u64 (x.h:Nat),x.v,x.p] 117);have d:=jN.new w 117 #[.int .u64 (x.h:Nat),x.v,x.p];obtain⟨f,ag⟩:∃f,w.alloc (.cells #[.int .u64 (x.h:Nat),x.v,x.p] 117)=f:=⟨_,rfl⟩
 obtain⟨B,hB⟩:∃B,w.1.size=B:=⟨_,rfl⟩
 rw[ag]at Y d;rw[hB]at d;have S:=qQ Y
 have T:=qQ (show ∀W,Below f.1.size f W->W.cell? ⟨B,0,none⟩=some (.int .u64 (x.h:Nat))/\W.cell? ⟨B,1,none⟩=some (.int .i64 x.v)/\W.cell? ⟨B,2,none⟩=some (.int .i64 x.p) from fun W A =>
  ⟨(A.cell (p:=⟨B,0,none⟩) d.lt).trans (d.cell 0),(A.cell (p:=⟨B,1,none⟩) d.lt).trans (d.cell 1),(A.cell (p:=⟨B,2,none⟩) d.lt).trans (d.cell 2)⟩)
 have ah:=qQ (show ∀W,Below f.1.size f W->∀i y,m[i]? = some y->∃b,A0=some ⟨b,off,none⟩/\W.cell? ⟨b,off+i*4,none⟩=some (.int .u64 (y.e.h:Nat))/\W.cell? ⟨b,off+i*4+1,none⟩=some (.int .i64 y.e.v)/\W.cell? ⟨b,off+i*4+2,none⟩=some (.int .i64 y.e.p)/\W.cell? ⟨b,off+i*4+3,none⟩=some (.int .i64 y.k) from fun W A i y H=>by
  obtain⟨b,e,P,c0,c1,c2,N⟩:=HC.out i y H;have O:=bj S.out A;exact⟨b,e,(O.cell (p:=⟨b,off+i*4,none⟩) P).trans c0,(O.cell (p:=⟨b,off+i*4+1,none⟩) P).trans c1,(O.cell (p:=⟨b,off+i*4+2,none⟩) P).trans c2,(O.cell (p:=⟨b,off+i*4+3,none⟩) P).trans N⟩)
 clear hm ae ac HC ad Y d;obtain⟨I,K,J⟩:=x;simp only at ag T U;go_enter func222,ntmps222;go_wp2;go_step3;go_wp2;go_step3;go_wp2;go_loopw [6,7,15] (fun lo hi i wr=>∃(k:Nat) (z:Int),k<=n/\i=.int .i64 k/\lo=.int .i64 z/\hi=.int .i64 a/\cP ⟨I,K,J⟩ m 0 a=cP ⟨I,K,J⟩ (m.drop k) z a/\Below f.1.size f wr) (fun _ _ i _=>n-(intOf i).toNat)
 case atStart=>exact⟨0,0,qI _,rfl,rfl,rfl,rfl,qG _ _⟩
 case round =>
  obtain⟨k,z,hk,rfl,rfl,rfl,af,s⟩:=hrel;have V:=qQ af;clear af;by_cases aj:k<n
  ·have s1:(k:Int)<(n:Int):=(by omega);obtain⟨y,H⟩:∃y,m[k]? = some y:=⟨_,qE (by rw[<-M.out];omega)⟩
   obtain⟨b,rfl,c0,c1,c2,N⟩:=ah.out wr s k y H
   have hd:m.drop k=y::m.drop (k+1):=by
    rw[xZ (by rw[<-M.out];omega)];have:=qE (l:=m) (i:=k) (by rw[<-M.out];omega);rw[H]at this;rw[<-qb this]
   have c:cP ⟨I,K,J⟩ (m.drop k) z a=_:=rfl;rw[hd]at c
   conv at c=>rhs;rw[cP]
   rw[<-hd]at c;have Z:=s.alloc s.size (.cells #[.int .u64 (y.e.h:Nat),.int .i64 y.e.v,.int .i64 y.e.p,.int .i64 y.k] 304);have Q:=jN.new wr 304 #[.int .u64 (y.e.h:Nat),.int .i64 y.e.v,.int .i64 y.e.p,.int .i64 y.k];have r:=qQ fun W=>oT y.e ⟨I,K,J⟩ W
   clear H hd;have j:=qQ Z;have L:=qQ Q;obtain⟨q,hq⟩:∃q,IntKind.i64.wrap (y.k+1)=q:=⟨_,rfl⟩
   rw[hq]at c;cases o:jm y.e ⟨I,K,J⟩
   ·rw[o,qZ (by decide)]at c;rw[o]at r;have u:=qQ (show R=dx z y.k a by rw[U.out,V.out,c]);have X:=qQ fun W=>Uz z y.k a W
    clear c o Z Q s;generalize dx z y.k a=RR at*;obtain⟨⟨yh,yv,yp⟩,yk⟩:=y;simp only at c0 c1 c2 N hq r j L;obtain⟨a0,a1,a2⟩:=T.out _ j.out;go_wp2_with fail;refine KG (r.out _) fun w3 C=>?_;have ai:=((L.out).xC (jP.xA C) (by simp)).cell 3;have aa:=bj j.out C;go_wp2_with fail;refine KG (X.out _) fun w4 ab=>?_;go_wp2;go_ret2;exact⟨by rw[u.out];rfl,bj (bj S.out aa) ab⟩
   ·rw[o,qV rfl]at c;rw[o]at r;have u:=qQ (V.out.trans c);clear c o Z Q s;obtain⟨⟨yh,yv,yp⟩,yk⟩:=y;simp only at c0 c1 c2 N hq r j L;obtain⟨a0,a1,a2⟩:=T.out _ j.out;go_wp2_with fail;refine KG (r.out _) fun w3 C=>?_;have ai:=((L.out).xC (jP.xA C) (by simp)).cell 3;have aa:=bj j.out C;go_wp2;go_roundw
    case rel=>exact⟨k+1,q,by omega,by go_num,rfl,rfl,u.out,aa⟩
    case measure=>simp[intOf];omega
  ·obtain rfl:k=n:=(by omega);have s1:¬(k:Int)<(k:Int):=(by omega);have c:=V.out;rw[List.drop_of_length_le (by rw[<-M.out];exact qK _),cP]at c;have u:=qQ (show R=dx z a a by rw[U.out,c]);have X:=qQ fun W=>Uz z a a W
   clear c aj;generalize dx z a a=RR at*;go_wp2_with fail;refine KG (X.out _) fun w4 ab=>?_;go_wp2;go_ret2;exact⟨by rw[u.out];rfl,bj (bj S.out s) ab⟩
end
section
open Go.RowKit Go.Shelf
attribute [local go_sem ↓] Go.wp_at_zero Go.wp_at_succ
structure QD(l:List jI)(x:jI)(lo hi:Nat):Prop where
 own:oq x (vG l) (l.length:Nat)=((lo:Int),(hi:Int))
 ref:∃c,QW x (vG l) c/\loM (vG l) c=(lo:Int)/\hiM (vG l) c (l.length:Nat)=(hi:Int)
 zn:lo<=l.countP (fun y=>jm y x)
 zz:l.countP (fun y=>jm y x)<=hi
 top:hi<=l.length
 gap:hi<=lo+7
theorem Zp{l:List jI}(h:kY l)(o:l.length<=1000000)(x:jI):∃lo hi,QD l x lo hi:=by
 obtain⟨lo,hi,a,b,f,i,j,k⟩:=P8 (e:=x) h;have c:=P7 (e:=x) h;refine⟨lo,hi, ?_,⟨_,c,a,b⟩,f,i,j,k⟩;have m:max ((l.length:Nat):Int) 0=(l.length:Nat):=by omega
 unfold oq;rw[m,U0 c (fun y p=>(P9 o y p).1)]
 have e:(if gS l.length (l.countP fun y=>jm y x)=0 then 0 else loM (vG l) (gS l.length (l.countP fun y=>jm y x)))=(lo:Int):=by
  rw[<-a];split
  ·rename_i d;rw[d];rfl
  ·rfl
 rw[e,b];exact P4 (by simp only;omega) (by simp only;omega) (by simp only;omega)
theorem QD.run{l:List jI}{x:jI}{lo hi:Nat}(h:QD l x lo hi){w:World}{v:Value}(a:bY w v (vG l))(b:l.length<=1000000):
  Calls prog 222 #[v,l.length,ki x] w (Zn ((lo:Int),(hi:Int)) w):=by
 rw[<-h.own];have:=Zf l l.length;exact Pr v _ _ x w a (by unfold vG;omega)
end
section
open Go.RowKit
def nA(At:j6)(w0:World)(gd:Nat)(l:List jI)(r:Nat)(D':jL)(E:List Nat)(w:World)(e:Ending)(w':World):Prop :=
 ∃A c,e=.returned (.tuple #[.slice A l.length c,r])/\ju w' w.1.size (.slice A l.length c) l/\DS At w0 gd D' (jS (.slice A l.length c)++E) w'/\jM E w w'
section
variable {E E':List Nat}{w w' w'':World}
theorem jM.row{base:Nat}{v:Value}{l:List jI}(h:jM E w w')(a:ju w base v l)(j:∀b∈jS v,b∈E):ju w' base v l:=by
 refine⟨a.1, ?_⟩;rcases a.2 with i|⟨g,d,f,c,k,m,r⟩
 ·exact qX i
 ·exact qY ⟨g,d,f,c,k,(h.block g (j g (ja.2 (by rw[c];rfl)))).trans m,r⟩
theorem jM.zL{v:Value}{l:List vc}(h:jM E w w')(a:bY w v l)(o:∀b∈jS v,b∈E):bY w' v l:=by
 rcases a with a|⟨b,off,c,rfl,d,f,k,m⟩
 ·exact qX a
 ·exact qY ⟨b,off,c,rfl,d,f,qS k h.size,fun i x q j u p=>(World.cell?_of_block (w:=w) (h.block b (o b (ja.2 rfl)))).trans (m i x q j u p)⟩
theorem jM.xM{v:Value}{l:List jI}(h:jM E w w')(a:kB w v l)(o:∀b∈jS v,b∈E):kB w' v l:=by
 rcases a with a|⟨b,off,c,rfl,d,f,k,m⟩
 ·exact qX a
 ·exact qY ⟨b,off,c,rfl,d,f,qS k h.size,fun i x q j u p=>(World.cell?_of_block (w:=w) (h.block b (o b (ja.2 rfl)))).trans (m i x q j u p)⟩
theorem jM.filter{f:Value}{t:Tw}{p q:Value}{m:Option Nat}(h:jM E w w')(c:gY w (.agg #[p,q,.map m]) t)(j:∀b,m=some b->b∈E):gY w' (.agg #[p,q,.map m]) t:=by
 rcases c with c|⟨i,d,e,k⟩
 ·exact qX c
 ·refine qY ⟨i,d,e,k.of_block (h.block d (j d ?_))⟩;injection e with e;have:=congrArg (fun a=>a[2]?) e;simpa using this
theorem Zr{g:Nat}(w:World)(a b c:Value):jP [g] w (((w.setCell ⟨g,0,none⟩ a).setCell ⟨g,1,none⟩ b).setCell ⟨g,2,none⟩ c) :=
 (((jP.refl [g] w).setCell (p:=⟨g,0,none⟩) (qX (qH.2 rfl)) a).setCell (p:=⟨g,1,none⟩) (qX (qH.2 rfl)) b).setCell (p:=⟨g,2,none⟩) (qX (qH.2 rfl)) c
theorem lW{base:Nat}{v:Value}{l:List jI}(h:ju w base v l):∀b∈jS v,base<=b/\b<w.1.size:=by
 intro b a;have a:=ja.1 a;rcases h.2 with⟨rfl,-⟩|⟨g,f,i,rfl,c,d,-⟩
 ·cases a
 ·have e:g=b:=by simpa[Value.ownBlock] using a
  rw[<-e];exact⟨c,(qn.1 d).1⟩
end
def yS(w:World)(gt gd:Nat)(n:Int)(l:List jI)(t:Tw)(G:List Nat):Prop :=
 ∃A c p q m,jN w gt 239 #[ptr gt,ptr gd,n,l.length,.slice A (vG l).length c,.int .i64 p,.int .i64 q,.map m] /\
  bY w (.slice A (vG l).length c) (vG l)/\gY w (.agg #[.int .i64 p,.int .i64 q,.map m]) t/\gt∈G/\(∀b∈jS (.slice A (vG l).length c),b∈G)/\∀b,m=some b->b∈G
section
variable {w w':World}{gt gd:Nat}{n:Int}{l:List jI}{t:Tw}{G E:List Nat}
theorem yS.keep(h:yS w gt gd n l t G)(i:jM E w w')(a:∀b∈G,b∈E):yS w' gt gd n l t G:=by
 obtain⟨A,c,p,q,m,r,s,u,j,k,o⟩:=h;exact⟨A,c,p,q,m,i.xW r (a gt j),i.zL s (fun b d=>a b (k b d)),i.filter (f:=.nilIface) u (fun b d=>a b (o b d)),j,k,o⟩
theorem yS.below(h:yS w gt gd n l t G)(a:Below w.1.size w w'):yS w' gt gd n l t G:=by
 obtain⟨A,c,p,q,m,b,d,f,i,j,k⟩:=h;exact⟨A,c,p,q,m,jN.below b a,d.below a (qK _),f.below a,i,j,k⟩
theorem yS.drew(h:yS w gt gd n l t G):yS w.drew gt gd n l t G:=h.below (qG _ _).drew
theorem yS.cells(h:yS w gt gd n l t G):w.cell? ⟨gt,0,none⟩=some (ptr gt)/\w.cell? ⟨gt,1,none⟩=some (ptr gd)/\w.cell? ⟨gt,2,none⟩=some (.int .i64 n)/\w.cell? ⟨gt,3,none⟩=some (.int .i64 (l.length:Nat)):=by
 obtain⟨A,c,p,q,m,a,-⟩:=h;exact⟨a.cell 0,a.cell 1,a.cell 2,a.cell 3⟩
end
theorem Uj: (prog.info? 239).map (·.size)=some 8:=by kernel_rfl
theorem Ps(d:Nat)(p:Addr)(w:World):(Op.equalIn (d+1) 160 (.pointer (some p)) (.pointer (some p))).run prog w=.ok true w:=by
 cases a:prog.info? 239 with
 | none=>have:=Uj;rw[a]at this;cases this
 | some i =>
   have b:i.size=8:=(by have:=Uj;rw[a]at this;simpa using this);simp[Op.equalIn,run_underlying Tryz.underlying160,sizeOf,typeInfo,a,sameAddr]
theorem Pt(p:Addr)(w:World):(binOp .neq 160 (.pointer (some p)) (.pointer (some p))).run prog w=.ok (.bool false) w:=by
 have a:(Op.equal 160 (.pointer (some p)) (.pointer (some p))).run prog w=.ok true w:=Ps 9999 p w;simp only[binOp];simp[a]
theorem Zs{w:World}{gt:Nat}(h:w.cell? ⟨gt,0,none⟩=some (ptr gt)):Calls prog 185 #[ptr gt] w (X0 (.bool false) w):=by
 have a:=Pt ⟨gt,0,none⟩;go_enter func185,ntmps185;go_wp2;go_ret;exact⟨rfl,rfl⟩
theorem Pa(w:World):Calls prog 185 #[.pointer none] w (X0 (.bool true) w):=by
 go_enter func185,ntmps185;go_wp2;go_ret;exact⟨rfl,rfl⟩
section
variable {w:World}{gt gd:Nat}{n:Int}{l:List jI}{t:Tw}{G:List Nat}
theorem Uk(h:yS w gt gd n l t G):Calls prog 121 #[ptr gt] w (X0 (.int .i64 n) w):=by
 obtain⟨c0,c1,c2,a⟩:=h.cells;have b:=qQ (Zs c0);clear h c0 c1 a;go_enter func121,ntmps121;go_wp2_with fail;refine X5 b.out ?_;go_wp2;go_ret;exact⟨rfl,rfl⟩
theorem Uv(h:yS w gt gd n l t G)(x:Nat)(f:x<18446744073709551616):Calls prog 167 #[ptr gt,.int .u64 (x:Nat)] w (X3 (.bool (dT l t x)) w):=by
 obtain⟨A,c,p,q,m,a,i,d,-⟩:=h;have c0:w.cell? ⟨gt,0,none⟩=some (ptr gt):=a.cell 0;have s:w.cell? ⟨gt,3,none⟩=some (.int .i64 (l.length:Nat)):=a.cell 3;have u:w.cell? ⟨gt,5,none⟩=some (.int .i64 p):=a.cell 5;have v:w.cell? ⟨gt,6,none⟩=some (.int .i64 q):=a.cell 6;have y:w.cell? ⟨gt,7,none⟩=some (.map m):=a.cell 7;have o:=qQ (Zs c0);have j:=qQ (YY _ x t w f d);unfold dT;by_cases b:0<l.length
 ·have C:decide ((0:Int)<(l.length:Int))=true:=qB (by omega);rw[qB b,Bool.true_and];generalize gV t x=r at*;generalize l.length=k at*;clear a i d c0 f;go_enter func167,ntmps167;go_wp2_with fail;refine X5 o.out ?_;go_wp2_with fail;refine KG j.out fun w' B=>?_;go_wp2;go_ret;exact⟨rfl,B⟩
 ·have z:l.length=0:=by omega
  rw[qA b,Bool.false_and];rw[z]at s;clear a i d c0 b f j u v y;go_enter func167,ntmps167;go_wp2_with fail;refine X5 o.out ?_;go_wp2;go_ret;exact⟨rfl,qG _ _⟩
end
theorem Pe(k:Nat)(w:World)(c:k<=1000):Calls prog 220 #[err k] w (X0 (err (QV k)) w):=by
 unfold QV;by_cases a:k=0
 ·subst a;rw[qV rfl];go_enter func220,ntmps220;go_wp2;go_ret;exact⟨rfl,rfl⟩
 ·rw[qZ a];by_cases b:k=61
  ·subst b;rw[qV rfl];go_enter func220,ntmps220;go_wp2;go_ret;exact⟨rfl,rfl⟩
  ·rw[qZ b];have d:((k:Int)==0)=false:=(by simp;omega);have f:((k:Int)==61)=false:=(by simp;omega);go_enter func220,ntmps220;go_wp2;go_ret;exact⟨rfl,rfl⟩
section
variable {At:j6}(api:j8 At){w0 w:World}{gd:Nat}{D:jL}{E:List Nat}
include api
theorem QE(h:DS At w0 gd D E w)(ok:WfP D):Calls prog 175 #[ptr gd] w (X0 (err (if D.down=true then 61 else 0)) w):=by
 have c:=h.size api ok ⟨#[110,101,119]⟩ (by decide);rcases tL D ⟨#[110,101,119]⟩ with⟨f,i⟩|⟨f,i⟩
 ·rw[qV f];rw[i]at c;have d:=qQ c;clear c;go_enter func175,ntmps175;go_wp2_with fail;refine X5 d.out ?_;go_wp2;go_ret;exact⟨rfl,rfl⟩
 ·rw[qZ (by rw[f];decide)];have j:(((j9 D ⟨#[110,101,119]⟩).2:Int)==1)=false:=by simp;omega
  have k:(((j9 D ⟨#[110,101,119]⟩).2:Int)==61)=false:=by simp;omega
  have d:=qQ c;generalize (j9 D ⟨#[110,101,119]⟩).1=a at*;generalize (j9 D ⟨#[110,101,119]⟩).2=b at*;clear c i;go_enter func175,ntmps175;go_wp2_with fail;refine X5 d.out ?_;go_wp2;go_ret;exact⟨rfl,rfl⟩
theorem Uy(h:DS At w0 gd D E w)(ok:WfP D)(n s:Tw)(i:n.size<=maxLen)(u:s.size<=1099511627776):Calls prog 178 #[ptr gd,n,s] w (yf At w0 gd (err (kQ D n s).1) (kQ D n s).2 E w):=by
 have d:=h.xE api (fun F hF=>api.create n hF ok.ok i);have q:=lj ok n;have z:=lk q n s;have j:=fun W (B:DS At w0 gd (jk D n).2 E W)=>B.xE api (fun F hF=>api.append n s hF q.ok u i)
 have v:=fun W (B:DS At w0 gd (jr (jk D n).2 n s).2 E W)=>B.xE api (fun F hF=>api.sync n hF z.ok i)
 unfold kQ;by_cases f:(jk D n).1=0
 ·rw[qZ (by simp[f])];rw[f]at d;by_cases p:(jr (jk D n).2 n s).1=0
  ·rw[qZ (by simp[p])];rw[p]at j;generalize kJ (jr (jk D n).2 n s).2 n=Q at*;generalize (jr (jk D n).2 n s).2=P at*;generalize (jk D n).2=K at*;have m:=qQ d;have A:=qQ j;have L:=qQ v;clear d j v h ok q z f p i u;go_enter func178,ntmps178;go_wp2_with fail;refine m.out.mono ?_;rintro e J⟨rfl,b,c⟩;have a:=qQ (qU b c);clear b c;go_wp2_with fail;refine(A.out _ a.out.1).mono ?_;rintro e O⟨rfl,o,r⟩;have k:=qQ (qU o r);clear o r;go_wp2_with fail;refine(L.out _ k.out.1).mono ?_;rintro e R⟨rfl,H,I⟩;have C:=qQ (qU H I);clear H I;go_wp2;go_ret;exact⟨rfl,C.out.1,(a.out.2.trans k.out.2).trans C.out.2⟩
  ·rw[qV p];have t:(((jr (jk D n).2 n s).1:Int) != 0)=true:=(by simp;omega);generalize jr (jk D n).2 n s=N at*;generalize (jk D n).2=K at*;generalize N.1=y at*;have m:=qQ d;have A:=qQ j;clear d j v h ok q z f p i u;go_enter func178,ntmps178;go_wp2_with fail;refine m.out.mono ?_;rintro e J⟨rfl,b,c⟩;have a:=qQ (qU b c);clear b c;go_wp2_with fail;refine(A.out _ a.out.1).mono ?_;rintro e O⟨rfl,o,r⟩;have k:=qQ (qU o r);clear o r;go_wp2;go_ret;exact⟨rfl,k.out.1,a.out.2.trans k.out.2⟩
 ·rw[qV f];have t:(((jk D n).1:Int) != 0)=true:=by simp;omega
  generalize jk D n=M at*;generalize M.1=y at*;have m:=qQ d;clear d j v h ok q z f i u;go_enter func178,ntmps178;go_wp2_with fail;refine m.out.mono ?_;rintro e J⟨rfl,b,c⟩;have a:=qQ (qU b c);clear b c;go_wp2;go_ret;exact⟨rfl,a.out.1,a.out.2⟩
theorem Zt(h:DS At w0 gd D E w)(ok:WfP D)(f:D.count<=1099511627776)(n:Tw)(c:n.size<=maxLen):Calls prog 231 #[ptr gd,n] w (yf At w0 gd (.tuple #[.string (rdW D n).1,err (rdW D n).2.1]) (rdW D n).2.2 E w):=by
 have m:=Vh ok n;have b:=h.size api ok n c;have i:=h.xE api (fun F hF=>api.read n 0 ((j9 D n).1:Nat) hF ok.ok f (by decide) (WalkArith.wf_i64 (by omega)) c);unfold rdW;by_cases a:(j9 D n).2=0
 ·rw[qV a];rw[a]at b;generalize (j9 D n).1=z at*;generalize kM D n 0 (z:Nat)=r at*;have d:=qQ b;have q:=qQ i;clear b i h ok f c a m;go_enter func231,ntmps231;go_wp2_with fail;refine d.out.mono ?_;rintro e s⟨rfl,rfl⟩;go_wp2_with fail;refine q.out.mono ?_;rintro e u⟨rfl,k,o⟩;have j:=qQ (qU k o);clear k o;go_wp2;go_ret2;exact⟨rfl,j.out.1,j.out.2⟩
 ·rw[qZ a];have t:(((j9 D n).2:Int) != 0)=true:=by simp;omega
  generalize (j9 D n).1=z at*;generalize (j9 D n).2=y at*;have d:=qQ b;have p:=qQ h;clear b i h ok f c a m;go_enter func231,ntmps231;go_wp2_with fail;refine d.out.mono ?_;rintro e s⟨rfl,rfl⟩;go_wp2;go_ret2;exact⟨rfl,p.out,jM.refl _ _⟩
end
section
variable {At:j6}(api:j8 At)(nap:kZ){w0 w:World}{gt gd:Nat}{D:jL}{E G:List Nat}{n:Int}{l:List jI}{t:Tw}
include api nap
theorem Za(h:DS At w0 gd D E w)(b:yS w gt gd n l t G)(ok:WfP D)(j:(Lit.int .i64 n).wf=true):Calls prog 166 #[ptr gt] w (X3 (err (QY D n)) w):=by
 obtain⟨c0,c1,c2,m⟩:=b.cells;have u:=qQ (Zs c0);have d:=qQ fun W=>nap.table n W j
 have q:=qQ fun W (s:Below w.1.size w W)=>(h.below api s).size api ok (ptT n) (oS n)
 have r:=qQ fun W=>Pe (j9 D (ptT n)).2 W (by rcases tL D (ptT n) with⟨-,e⟩|⟨-,e|e⟩<;>rw[e]<;>decide)
 have c:=qQ b;unfold QY;rw[show nmS 116 n=ptT n from rfl]at d;generalize QV (j9 D (ptT n)).2=y at*;generalize j9 D (ptT n)=z at*;generalize ptT n=v at*;clear h b ok j c0 m;go_enter func166,ntmps166;go_wp2_with fail;refine X5 u.out ?_;go_wp2_with fail
 go_region_held3 (fun w'=>w'.cell? ⟨gt,1,none⟩=some (ptr gd)/\w'.cell? ⟨gt,2,none⟩=some (.int .i64 n)) (first|assumption|exact⟨by assumption,by assumption⟩|exact⟨c1,c2⟩) (first
  | (go_at_call 123;refine(d.out _).mono ?_;rintro e i⟨rfl,f⟩;have a:=bj (show Below w.1.size w _ from by first|exact(qG _ _).drew|exact qG _ _) f;have o:i.cell? ⟨gt,1,none⟩=some (ptr gd):=(c.out.below a).cells.2.1;have p:i.cell? ⟨gt,2,none⟩=some (.int .i64 n):=(c.out.below a).cells.2.2.1)
  | (go_at_call 129;refine(q.out _ a).mono ?_;rintro e A⟨rfl,rfl⟩)
  | fail)
 all_goals
  have k:=qQ a;clear a f o p;go_wp2_with fail;refine(r.out _).mono ?_;rintro e B⟨rfl,rfl⟩;go_wp2;go_ret;exact⟨rfl,k.out⟩
omit api nap in
theorem Ze(I:yS w gt gd n l t G)(H:l.length<=1000000)(x:Nat)(v:Int){lo hi:Nat}(r:QD l ⟨x,v,0⟩ lo hi):Calls prog 168 #[ptr gt,.int .u64 (x:Nat),v] w (X3 (.tuple #[lo,hi]) w):=by
 obtain⟨A,c,p,q,m,a,o,z,-⟩:=I;have u:w.cell? ⟨gt,3,none⟩=some (.int .i64 (l.length:Nat)):=a.cell 3;have y:w.cell? ⟨gt,4,none⟩=some (.slice A (vG l).length c):=a.cell 4;have B:=qQ fun W (C:Below w.1.size w W)=>r.run (o.below C (qK _)) H
 have i:=qQ fun(f:World) (b:Below w.1.size w f)=>(show f.cell? ⟨gt,3,none⟩=some (.int .i64 (l.length:Nat))/\f.cell? ⟨gt,4,none⟩=some (.slice A (vG l).length c) from⟨(jN.below a b).cell 3,(jN.below a b).cell 4⟩)
 generalize (vG l).length=k at*;generalize l.length=j at*;clear a o z r;go_enter func168,ntmps168;go_wp2_with fail
 go_region_held3 (fun w'=>w'.cell? ⟨gt,3,none⟩=some (.int .i64 (j:Nat))/\w'.cell? ⟨gt,4,none⟩=some (.slice A k c)) (first|assumption|exact⟨by assumption,by assumption⟩|exact⟨u,y⟩) (first
  | (go_at_call 222;refine(B.out _ (by first|exact(qG _ _).drew|exact qG _ _)).mono ?_;rintro e f⟨rfl,b⟩;have d:=bj (show Below w.1.size w _ from by first|exact(qG _ _).drew|exact qG _ _) b;have J:=(i.out _ d).1;have K:=(i.out _ d).2)
  | fail)
 all_goals
  have s:=qQ d;clear d b;go_wp2;go_ret2;exact⟨rfl,s.out⟩
end
end
section
open Go.RowKit Go.Shelf
def Two(W:World)(b p q:Nat)(x y:jI):Prop:=W.cell? ⟨b,p,none⟩=some (.int .u64 (x.h:Nat))/\W.cell? ⟨b,p+1,none⟩=some (.int .i64 x.v)/\W.cell? ⟨b,p+2,none⟩=some (.int .i64 x.p) /\
 W.cell? ⟨b,q,none⟩=some (.int .u64 (y.h:Nat))/\W.cell? ⟨b,q+1,none⟩=some (.int .i64 y.v)/\W.cell? ⟨b,q+2,none⟩=some (.int .i64 y.p)
theorem Zi(v:Value)(l:List jI)(w:World)(Y:kB w v l)(hn:l.length<=1000000):
  Calls prog 225 #[v] w (X3 (.bool (uZ l)) w):=by
 obtain⟨A,off,af,rfl,-,X⟩:=Y.form;have K:=qQ X;have ac:=qQ (ZT (l:=l));have ab:=qQ (fun(i:Nat) (x y:jI) h1 h2 h3=>Ou (l:=l) (i:=i) (x:=x) (y:=y) h1 h2 h3);obtain⟨n,H⟩:∃n,n=l.length:=⟨_,rfl⟩
 have B:=qQ H;rw[<-H]at hn ⊢;clear Y X H;generalize uZ l=r at*;go_enter func225,ntmps225;go_wp2;go_loopw [6] (fun i wr=>∃k:Nat,k<=n/\i=.int .i64 k/\(∀(i:Nat) (x y:jI),i+1<k->l[i]? = some x->l[i+1]? = some y->jm x y=true)/\Below w.1.size w wr) (fun i _=>n-(intOf i).toNat)
 case atStart=>exact⟨0,qI _,rfl,fun i x y h=>absurd h (by omega),qG _ _⟩
 case round =>
  obtain⟨k,hk,rfl,V,a⟩:=hrel;have J:=qQ V;clear V;by_cases ag:k<n
  ·have s1:(k:Int)<(n:Int):=(by omega);by_cases T:k=0
   ·subst T;go_wp2
    first
    | (go_roundw
       case rel=>exact⟨1,by omega,by go_num,fun i x y h=>absurd h (by omega),a⟩
       case measure=>simp[intOf];omega)
    | (go_quiet (fail)
       go_wp2;refine⟨⟨1,by omega,by go_num,fun i x y h=>absurd h (by omega),uu a _⟩,by simp[intOf];omega⟩)
   ·obtain⟨m,C⟩:∃m,k=m+1:=⟨k-1,by omega⟩
    obtain⟨x,j⟩:∃x,l[m]? = some x:=⟨_,qE (by rw[<-B.out];omega)⟩
    obtain⟨y,f⟩:∃y,l[k]? = some y:=⟨_,qE (by rw[<-B.out];omega)⟩
    obtain⟨b,rfl,d,M,N,O⟩:=K.out m x j;obtain⟨b',P,-,Q,R,S⟩:=K.out k y f;obtain rfl:b=b':=(by simpa using P);have q1:(k:Int)-1=(m:Int):=(by omega);have q2:decide ((0:Int)<(k:Int))=true:=qB (by omega);have q5:decide (0<k)=true:=qB (by omega);have q6:(0:Int)<(k:Int):=(by omega);have q7:0<k:=(by omega);have q3:IntKind.i64.wrap ((m:Nat):Int)=(m:Nat):=qz _ ⟨by omega,by omega⟩;have q4:(m:Int)<(n:Int):=(by omega);have u:=qQ (show l[m]? = some x/\l[m+1]? = some y from⟨j,by rw[<-C];exact f⟩)
    have s:Hid (∀W,Below wr.1.size wr W->Below wr.1.size wr W/\Two W b (off+m*3) (off+k*3) x y):=qQ fun W q =>
     ⟨q,(q.cell (p:=⟨b,off+m*3,none⟩) (qS d a.size)).trans ((a.cell (p:=⟨b,off+m*3,none⟩) d).trans M),(q.cell (p:=⟨b,off+m*3+1,none⟩) (qS d a.size)).trans ((a.cell (p:=⟨b,off+m*3+1,none⟩) d).trans N),(q.cell (p:=⟨b,off+m*3+2,none⟩) (qS d a.size)).trans ((a.cell (p:=⟨b,off+m*3+2,none⟩) d).trans O),
      (q.cell (p:=⟨b,off+k*3,none⟩) (qS d a.size)).trans ((a.cell (p:=⟨b,off+k*3,none⟩) d).trans Q),(q.cell (p:=⟨b,off+k*3+1,none⟩) (qS d a.size)).trans ((a.cell (p:=⟨b,off+k*3+1,none⟩) d).trans R),(q.cell (p:=⟨b,off+k*3+2,none⟩) (qS d a.size)).trans ((a.cell (p:=⟨b,off+k*3+2,none⟩) d).trans S)⟩
    have z:=fun W=>oT x y W
    have I:=s.out wr (qG _ _);clear j f M N O Q R S P d T;have Z:=qQ C;clear C;have HK:=qQ hk;cases o:jm x y
    all_goals
     rw[o]at z;have aa:=qQ z;have L:=qQ o;clear z o;obtain⟨xh,xv,xp⟩:=x;obtain⟨yh,yv,yp⟩:=y;unfold Two at s I;simp only at s I;obtain⟨-,c0,c1,c2,c3,c4,c5⟩:=I;go_wp2_with fail
     go_region_held3 (fun W=>Below wr.1.size wr W/\W.cell? ⟨b,off+m*3,none⟩=some (.int .u64 (xh:Nat))/\W.cell? ⟨b,off+m*3+1,none⟩=some (.int .i64 xv)/\W.cell? ⟨b,off+m*3+2,none⟩=some (.int .i64 xp) /\
      W.cell? ⟨b,off+k*3,none⟩=some (.int .u64 (yh:Nat))/\W.cell? ⟨b,off+k*3+1,none⟩=some (.int .i64 yv)/\W.cell? ⟨b,off+k*3+2,none⟩=some (.int .i64 yp))
      (first|(with_reducible assumption)|((with_reducible refine s.out _ ?_);(first|(with_reducible assumption)|(with_reducible exact qG _ _)|(with_reducible exact(qG _ _).drew)|exact(bj (And.left (by with_reducible assumption)) ‹Below _ _ _›));done)|fail)
      (first
      | (go_at_call 172;((with_reducible refine KG (aa.out _) fun w3 ad=>?_);have U:Below wr.1.size wr w3:=bj (And.left (by with_reducible assumption)) ad))
      | fail)
     all_goals
      go_wp2
      first
      | (go_roundw
         case rel =>
          refine⟨k+1,by omega,by go_num,fun i x y hi j f=>?_,bj a U⟩;rcases qd (i+1) k with c|c
          ·exact J.out i x y c j f
          ·obtain rfl:i=m:=(by have:=Z.out;omega);rw[u.out.1]at j;rw[u.out.2]at f;rw[<-qb j,<-qb f];exact L.out
         case measure=>simp[intOf];omega)
      | (go_ret
         exact⟨by rw[ab.out m _ _ u.out.1 u.out.2 L.out];rfl,bj a U⟩)
  ·obtain rfl:k=n:=(by omega);have s1:¬(k:Int)<(k:Int):=(by omega);have ae:=ac.out (fun i x y j f=>J.out i x y (by have:=(qO.1 f).1;rw[<-B.out]at this;omega) j f);subst ae;go_wp2;go_ret;exact⟨rfl,a⟩
theorem Uu: ∀(l:List jI) (k:Nat) (x:jI),k<l.length->yj (l.set k x)=(((yj l).set (k*3) (.int .u64 (x.h:Nat))).set (k*3+1) (.int .i64 x.v)).set (k*3+2) (.int .i64 x.p)
 | [],k,x,h=>absurd h (Nat.not_lt_zero _)
 | y::l,0,x,_=>rfl
 | y::l,k+1,x,h=>by
   have ih:=Uu l k x (by simpa using h);have e:(k+1)*3=k*3+3:=(by omega);unfold yj at*;rw[List.set_cons_succ,List.flatMap_cons,List.flatMap_cons,ih,e];rfl
theorem ju.put{w:World}{base g n a k:Nat}{l:List jI}(h:ju w base (.slice (some ⟨g,0,none⟩) n a) l)(i:n=l.length)(f:k<n)(x:jI):
  ju (((w.setCell ⟨g,k*3,none⟩ (.int .u64 (x.h:Nat))).setCell ⟨g,k*3+1,none⟩ (.int .i64 x.v)).setCell ⟨g,k*3+2,none⟩ (.int .i64 x.p)) base (.slice (some ⟨g,0,none⟩) n a) (l.set k x):=by
 subst i;have b:=(h.stored (k*3) (.int .u64 (x.h:Nat))).1;have c:=(b.stored (k*3+1) (.int .i64 x.v)).1;have d:=(c.stored (k*3+2) (.int .i64 x.p)).1;unfold ju;rw[Uu l k x f,List.length_set];exact d
theorem ju.at_{w:World}{base g n b k:Nat}{l:List jI}(h:ju w base (.slice (some ⟨g,0,none⟩) n b) l)(d:n=l.length)(c:k<n):
  (∃x:jI,w.cell? ⟨g,k*3,none⟩=some (.int .u64 (x.h:Nat))/\w.cell? ⟨g,k*3+1,none⟩=some (.int .i64 x.v)/\w.cell? ⟨g,k*3+2,none⟩=some (.int .i64 x.p)) /\
  w.frozen? ⟨g,k*3,none⟩=false/\w.frozen? ⟨g,k*3+1,none⟩=false/\w.frozen? ⟨g,k*3+2,none⟩=false:=by
 subst d;have a:=qE c;refine⟨⟨l[k], ?_, ?_, ?_⟩,h.frozenAt _,h.frozenAt _,h.frozenAt _⟩
 ·exact(h.cellAt (k*3) (by omega)).trans (nW l k _ a 0 (by omega))
 ·exact(h.cellAt (k*3+1) (by omega)).trans (nW l k _ a 1 (by omega))
 ·exact(h.cellAt (k*3+2) (by omega)).trans (nW l k _ a 2 (by omega))
theorem ju.down{w:World}{base base':Nat}{v:Value}{l:List jI}(h:ju w base v l)(d:base'<=base):ju w base' v l:=by
 refine⟨h.1, ?_⟩;rcases h.2 with c|⟨g,a,b,i,f,r⟩
 ·exact qX c
 ·exact qY ⟨g,a,b,i,qR d f,r⟩
theorem Zo{w w2:World}{g i j k:Nat}(h:Below w.1.size w w2)(d:w.1.size<=g)(a b c:Value):
  Below w.1.size w (((w2.setCell ⟨g,i,none⟩ a).setCell ⟨g,j,none⟩ b).setCell ⟨g,k,none⟩ c):=((h.setCell d _).setCell d _).setCell d _
def ux(s:Tw)(n k:Nat):List jI:=(List.range n).map fun i=>if i<k then enG (yO s i) else⟨0,0,0⟩
theorem rj(s:Tw)(n k:Nat):(ux s n k).length=n:=by unfold ux;rw[qq,List.length_range]
theorem Ug(s:Tw)(n:Nat):ux s n n=uH s n:=by
 unfold ux uH;apply List.map_congr_left;intro i a;rw[qV (List.mem_range.1 a)]
theorem Zw(s:Tw)(n k i:Nat):(ux s n k)[i]? = if i<n then some (if i<k then enG (yO s i) else⟨0,0,0⟩) else none:=by
 unfold ux;rw[qv];by_cases h:i<n
 ·rw[List.getElem?_range h,qV h];rfl
 ·rw[xX (by rw[List.length_range];omega),qZ h];rfl
theorem Ub(s:Tw){n k:Nat}(b:k<n):(ux s n k).set k (enG (yO s k))=ux s n (k+1):=by
 apply xJ;intro i;rw[List.getElem?_set,rj,Zw,Zw];by_cases h:k=i
 ·subst h;rw[qV rfl,qV b,qV b,qV (Nat.lt_succ_self _)]
 ·rw[qZ h];by_cases a:i<k
  ·rw[qV a,qV (show i<k+1 by omega)]
  ·rw[qZ a,qZ (show ¬i<k+1 by omega)]
theorem Pi(s:Tw):∀n,yj (ux s n 0)=(madeCells #[Value.int .u64 0,.int .i64 0,.int .i64 0] (n*3)).toList:=by
 intro n;apply xJ;intro j;by_cases d:j<n*3
 ·have c:j/3<n:=by omega
  have a:=nW (ux s n 0) (j/3) ⟨0,0,0⟩ (by rw[Zw,qV c,qZ (Nat.not_lt_zero _)]) (j%3) (by omega);rw[show j/3*3+j%3=j by omega]at a;rw[a];unfold madeCells fZ;rw[Array.toList_map,qv,Array.toList_range,List.getElem?_range d];have b:j%3<3:=by omega
  show _=some ((#[Value.int .u64 0,.int .i64 0,.int .i64 0]:Array Value)[j%3]!);generalize j%3=r at*
  match r,b with
  | 0,_=>rfl
  | 1,_=>rfl
  | 2,_=>rfl
 ·rw[xX (by rw[o6,rj];omega),xX (by rw[Array.length_toList,size_madeCells];omega)]
theorem Uc(s:Tw)(n:Nat)(i:n<=1000000):∃Z:Array Value,(∀w:World,(Instr.makeSlice 112 (.int .i64 (n:Nat)) (.int .i64 (n:Nat))).run prog w=.ok (.slice (some ⟨w.1.size,0,none⟩) n n) (w.alloc (.cells Z 117))) /\
  ∀w:World,ju (w.alloc (.cells Z 117)) w.1.size (.slice (some ⟨w.1.size,0,none⟩) n n) (ux s n 0):=by
 obtain⟨f,b,c,a,d⟩:=info_parts Zg;refine⟨madeCells #[Value.int .u64 0,.int .i64 0,.int .i64 0] (n*3),fun w=>?_,fun w=>?_⟩
 ·have h:=run_makeSlice (P:=prog) w 112 117 f _ Tryz.underlying112 b c .i64 .i64 (n:Int) (n:Int) (by omega) (Int.le_refl _) (by rw[a];omega) (by rw[d];omega) (by omega);rw[a,qa]at h;exact h
 ·have h:=World.ownsRow_lit (base:=w.1.size) (e:=117) (size:=3) w (madeCells #[Value.int .u64 0,.int .i64 0,.int .i64 0] (n*3)) n (qK _) (by unfold maxLen;omega) (size_madeCells _ _);unfold ju;rw[rj,Pi];exact h
def lA(w:World)(s:Tw)(e:Ending)(w':World):Prop:=∃A c,e=.returned (.tuple #[.slice A (tgL s).length c,.int .i64 (tgE s)])/\ju w' w.1.size (.slice A (tgL s).length c) (tgL s)/\Below w.1.size w w'
theorem Po{w w':World}{s:Tw}{e:Ending}(h:uJ s=false)(d:e=.returned (.tuple #[.slice none 0 0,.int .i64 90]))(c:Below w.1.size w w'):lA w s e w':=by
 obtain⟨a,b⟩:=Zz h;unfold lA;rw[a,b];exact⟨none,0,d,ju.nil _ _,c⟩
theorem Ud(s:Tw)(w:World)(hs:s.size<=1100000):
  Calls prog 232 #[s] w (lA w s):=by
 have N:s.size<=maxLen:=by unfold maxLen;omega
 have o:=fun W=>PQ s W N
 have u:uJ s=false->Hid (∀w':World,Below w.1.size w w'->lA w s (.returned (.tuple #[.slice none 0 0,.int .i64 90])) w'):=fun h=>qQ fun w' r=>Po h rfl r
 cases j:mY s with
 | false =>
   rw[j]at o;have H:=qQ o
   have p:=u (by
    cases e:uJ s with
    | false=>rfl
    | true =>
      have h:=mV.1 e;rw[show mY s=true from qB ⟨h.1,h.2.1⟩]at j;cases j)
   generalize nU s=m at*;clear o u j N;go_enter func232,ntmps232;go_wp2_with fail;refine(H.out _).mono ?_;rintro e d⟨rfl,rfl⟩;go_wp2;go_ret2;exact p.out _ (qG _ _)
 | true =>
 rw[j]at o;have ae:nU s=(tbN s:Nat):=by unfold nU;rw[j];rfl
 rw[ae]at o;have H:=qQ o;have U:=of_decide_eq_true j;have K:=fun W=>UX (tbN s:Nat) W
 by_cases v:(s.size:Int)=fE (tbN s:Nat)
 case neg =>
  have p:=u (by
   cases e:uJ s with
   | false=>rfl
   | true =>
     have h:=mV.1 e;exact absurd (by rw[(oR h.2.2.1).1,<-h.2.2.2.1]) v)
  have R:=qQ K;have t1:((s.size:Int) != fE (tbN s:Nat))=true:=by rw[bne_iff_ne];exact v
  clear o u j ae v U K N;generalize fE (tbN s:Nat)=z at*;generalize tbN s=n at*;go_enter func232,ntmps232;go_wp2_with fail;refine(H.out _).mono ?_;rintro e d⟨rfl,rfl⟩;go_wp2_with fail;refine(R.out _).mono ?_;rintro e d⟨rfl,rfl⟩;go_wp2;go_ret2;exact p.out _ (qG _ _)
 have V:tbN s<=89478484/\s.size=12+24*tbN s:=by
  by_cases h:tbN s<=89478484
  ·rw[(oR h).1]at v;exact⟨h,by omega⟩
  ·rw[(QX (qY (by omega))).1]at v;omega
 have aj:fE (tbN s:Nat)=(s.size:Int):=v.symm;rw[aj]at K;have R:=qQ K;have I:=fun W=>Xh s W N
 cases B:yw s with
 | false =>
   rw[B]at I;have aa:=qQ I
   have p:=u (by
    cases e:uJ s with
    | false=>rfl
    | true =>
      have h:=mV.1 e;rw[h.2.2.2.2.1]at B;cases B)
   generalize opA s=oa at*;clear o u j ae v U K aj I B V N;generalize tbN s=n at*;go_enter func232,ntmps232;go_wp2_with fail;refine(H.out _).mono ?_;rintro e d⟨rfl,rfl⟩;go_wp2_with fail;refine(R.out _).mono ?_;rintro e d⟨rfl,rfl⟩;go_wp2_with fail;refine(aa.out _).mono ?_;rintro e d⟨rfl,ac⟩;go_wp2;go_ret2;exact p.out _ ac
 | true =>
 rw[B]at I;have aa:=qQ I;obtain⟨Z,az,aq⟩:=Uc s (tbN s) (by omega);have ap:=qQ aq
 have ay:Hid ((∀i,i<tbN s->vi (yO s i)=true)->uZ (uH s (tbN s))=true->∀(A:Option Addr) c (w':World),ju w' w.1.size (.slice A (tbN s) c) (uH s (tbN s))->Below w.1.size w w'->lA w s (.returned (.tuple #[.slice A (tbN s) c,.int .i64 0])) w'):=qQ fun h1 h2 A c w' hr r=>by
  obtain⟨e1,e2⟩:=rO (mV.2 ⟨U.1,U.2,V.1,V.2,B,h1,h2⟩);unfold lA;rw[e1,e2,rP];exact⟨A,c,rfl,hr,r⟩
 have ao:Hid ((∃i,i<tbN s/\vi (yO s i)=false)∨uZ (uH s (tbN s))=false->∀w':World,Below w.1.size w w'->lA w s (.returned (.tuple #[.slice none 0 0,.int .i64 90])) w'):=qQ fun h w' r=>(u (by
  cases e:uJ s with
  | false=>rfl
  | true =>
    have h2:=mV.1 e;rcases h with⟨i,hi,T⟩|T
    ·rw[h2.2.2.2.2.2.1 i hi]at T;cases T
    ·rw[h2.2.2.2.2.2.2]at T;cases T)).out w' r
 have ax:=qQ (show ∀k,k<tbN s->(ux s (tbN s) k).set k (enG (yO s k))=ux s (tbN s) (k+1) from fun k hk=>Ub s hk);have aw:=qQ (Ug s (tbN s));have Y:=qQ (show ∀k,(ux s (tbN s) k).length=tbN s from fun k=>rj s (tbN s) k);have aA:=V.2;generalize opA s=oa at*;clear o u j ae v U K aj I B V aq N;generalize tbN s=n at*;have hw:IntKind.i64.wrap (n:Int)=(n:Int):=qz _ ⟨by omega,by omega⟩;go_enter func232,ntmps232;go_wp2_with fail;refine(H.out _).mono ?_;rintro e d⟨rfl,rfl⟩;go_wp2_with fail;refine(R.out _).mono ?_;rintro e d⟨rfl,rfl⟩;go_wp2_with fail;refine(aa.out _).mono ?_;rintro e d⟨rfl,ac⟩;have hR:=ap.out d;have X:=qQ ac;have au:=(qG d.1.size d).alloc (qK _) (.cells Z 117);clear ap ac H R aa;go_wp2;go_loopw [35] (fun i wr=>∃k:Nat,k<=n/\i=.int .i64 k/\(∀i,i<k->vi (yO s i)=true)/\ju wr d.1.size (.slice (some ⟨d.1.size,0,none⟩) n n) (ux s n k)/\Below d.1.size d wr) (fun i _=>n-(intOf i).toNat)
 case atStart=>exact⟨0,qI _,rfl,fun i h=>absurd h (by omega),hR,au⟩
 case round =>
  obtain⟨k,hk,rfl,ar,P,ad⟩:=hrel;clear hR au az;have HA:=qQ ar;clear ar;by_cases M:k<n
  ·have s1:(k:Int)<(n:Int):=(by omega);obtain⟨a,ha⟩:∃a,a=8+24*k:=⟨_,rfl⟩
   obtain⟨b,r⟩:∃b,b=32+24*k:=⟨_,rfl⟩
   have ak:Hid (∀W,Calls prog 223 #[.int .i64 (k:Nat)] W (X0 (.int .i64 (a:Nat)) W)):=qQ fun W=>by
    have:=QZ (k:Nat) W;rw[(oR (by omega)).2,<-ha]at this;exact this
   have al:Hid (∀W,Calls prog 223 #[.int .i64 ((k:Int)+1)] W (X0 (.int .i64 (b:Nat)) W)):=qQ fun W=>by
    have:=QZ ((k+1:Nat):Int) W;rw[(oR (by omega)).2,show 8+24*(k+1)=b by omega]at this;exact this
   have S:yO s k=s.extract a b:=(by rw[ha,r];rfl);have q:=fun W=>U2 (s.extract a b) W (by unfold maxLen;rw[qk];omega)
   rw[<-S]at q;have ah:=qQ (ax.out k M);have x1:(a:Int)<=(b:Int):=(by omega);have x2:(b:Int)<=(s.size:Int):=(by omega);have x3:a<=b:=(by omega);have x4:b<=s.size:=(by omega);have ab:=qQ P;have am:=qQ ad;have af:Hid (vi (yO s k)=vi (yO s k)):=qQ rfl;rw[S]at q ah;rw[S]at af;have an:=qQ S;clear S ha r P ad;cases O:vi (s.extract a b) with
   | false =>
     rw[O]at q;have p:=qQ (ao.out (qX ⟨k,M,by rw[an.out];exact O⟩));have ag:=qQ q;clear q O af ah;generalize enG (s.extract a b)=x at*;obtain⟨xh,xv,xp⟩:=x;go_wp2_with fail;refine(ak.out _).mono ?_;rintro e C⟨rfl,rfl⟩;go_wp2_with fail;refine(al.out _).mono ?_;rintro e C⟨rfl,rfl⟩;go_wp2_with fail;refine(ag.out _).mono ?_;rintro e C⟨rfl,f⟩;have L:=ab.out.below f (qK _);obtain⟨⟨y,q0,q1,q2⟩,f0,f1,f2⟩:=L.at_ (Y.out k).symm M;have R3:=qQ (L.put (Y.out k).symm M ⟨xh,xv,xp⟩);go_wp2;go_ret2;exact p.out _ (bj X.out (Zo (bj am.out f) (qK _) _ _ _))
   | true =>
     rw[O]at q;have ag:=qQ q
     have av:=qQ (show ∀i,i<k+1->vi (yO s i)=true from fun i hi=>by
      rcases qd i k with c|c
      ·exact HA.out i c
      ·obtain rfl:i=k:=(by omega);rw[an.out];exact O)
     clear q O af;generalize enG (s.extract a b)=x at*;obtain⟨xh,xv,xp⟩:=x;go_wp2_with fail;refine(ak.out _).mono ?_;rintro e C⟨rfl,rfl⟩;go_wp2_with fail;refine(al.out _).mono ?_;rintro e C⟨rfl,rfl⟩;go_wp2_with fail;refine(ag.out _).mono ?_;rintro e C⟨rfl,f⟩;have L:=ab.out.below f (qK _);obtain⟨⟨y,q0,q1,q2⟩,f0,f1,f2⟩:=L.at_ (Y.out k).symm M;have R3:=L.put (Y.out k).symm M ⟨xh,xv,xp⟩;rw[ah.out]at R3;have R4:=qQ R3;clear R3 L;go_wp2;exact⟨⟨k+1,by omega,by go_num,av.out,R4.out,Zo (bj am.out f) (qK _) _ _ _⟩,by simp[intOf];omega⟩
  ·obtain rfl:k=n:=(by omega);have s1:¬(k:Int)<(k:Int):=(by omega);rw[aw.out]at P;have J:=Zi _ _ wr (ju.xH P) (by rw[rP];omega);have ab:=qQ P;clear P;cases Q:uZ (uH s k) with
   | false =>
     rw[Q]at J;have ai:=qQ J;have p:=qQ (ao.out (qY Q));clear J Q;go_wp2_with fail;refine ai.out.mono ?_;rintro e C⟨rfl,f⟩;go_wp2;go_ret2;exact p.out _ (bj X.out (bj ad f))
   | true =>
     rw[Q]at J;have ai:=qQ J;have HY:=qQ (ay.out HA.out Q);clear J Q;go_wp2_with fail;refine ai.out.mono ?_;rintro e C⟨rfl,f⟩;go_wp2;go_ret2;exact HY.out _ _ _ (ju.down (ju.below ab.out f (qK _)) X.out.size) (bj X.out (bj ad f))
end
section
open Go.RowKit
section
variable {At:j6}(api:j8 At)(nap:kZ){w0 w:World}{gt gd:Nat}{D D':jL}{E G:List Nat}{n:Int}{l:List jI}{t:Tw}
include api nap
theorem Pw(h:DS At w0 gd D E w)(S:yS w gt gd n l t G)(hG:∀b∈G,b∈E)(ok:WfP D)(hc:D.count<=1099511627776)(wn:(Lit.int .i64 n).wf=true)(lo hi m:Nat)(hm:hi=lo+m)(av:hi<=40000)(s:Tw)
  (T:kM D (ptT n) ((8+24*lo:Nat):Int) ((24*m:Nat):Int)=(s,0,D')) (hs:s.size=24*m) (r:okP s m=true):
  Calls prog 169 #[ptr gt,lo,hi] w (nA At w0 gd (lK s m) 0 D' E w):=by
 obtain⟨c0,c1,c2,c3⟩:=S.cells;have hN:=qQ fun W=>nap.table n W wn
 rw[show nmS 116 n=ptT n from rfl]at hN;obtain⟨a,Q⟩:∃a,a=8+24*lo:=⟨_,rfl⟩
 obtain⟨b,o⟩:∃b,b=8+24*hi:=⟨_,rfl⟩
 obtain⟨z,L⟩:∃z,z=24*m:=⟨_,rfl⟩
 have al:Hid (∀W,Calls prog 223 #[lo] W (X0 (.int .i64 (a:Nat)) W)):=qQ fun W=>by
  have:=QZ (lo:Nat) W;rw[(oR (by omega)).2,<-Q]at this;exact this
 have am:Hid (∀W,Calls prog 223 #[hi] W (X0 (.int .i64 (b:Nat)) W)):=qQ fun W=>by
  have:=QZ (hi:Nat) W;rw[(oR (by omega)).2,<-o]at this;exact this
 rw[<-Q,<-L]at T
 have hR:=qQ fun W (hW:Below w.1.size w W)=>(h.below api hW).xE api (v:=.tuple #[s,.int .i64 0]) (D':=D') (fun F hF=>by
  have:=api.read (ptT n) (a:Nat) (z:Nat) hF ok.ok hc (WalkArith.wf_i64 (by omega)) (WalkArith.wf_i64 (by omega)) (oS n);rw[T]at this;exact this)
 have e1:IntKind.i64.wrap ((b:Int)-(a:Int))=(z:Int):=by rw[qz _ ⟨by omega,by omega⟩];omega
 have e2:IntKind.i64.wrap ((hi:Int)-(lo:Int))=(m:Int):=by rw[qz _ ⟨by omega,by omega⟩];omega
 have e3:(hi:Int)-(lo:Int)=(m:Int):=by omega
 have e4:(b:Int)-(a:Int)=(z:Int):=by omega
 have ar:IntKind.i64.wrap (z:Int)=(z:Int):=qz _ ⟨by omega,by omega⟩;have C:=qQ S;have HK:=qQ (UK.1 r);obtain⟨Z,au,ag⟩:=Uc (lV s) m (by omega);have ae:=qQ ag;have aq:=qQ (show ∀k,k<m->(ux (lV s) m k).set k (enG (pcP s k))=ux (lV s) m (k+1) from fun k r=>by rw[<-UV];exact Ub _ r);have ao:=qQ (show ux (lV s) m m=lK s m by rw[Ug,PV]);have ad:=qQ (show ∀k,(ux (lV s) m k).length=m from fun k=>rj _ m k);have ab:=qQ (PJ s m);have aA:m<=40000:=by omega
 have hw:IntKind.i64.wrap (m:Int)=(m:Int):=qz _ ⟨by omega,by omega⟩;have ac:=qQ h.lt;have aw:=qQ h.kept;generalize ptT n=nm at*;clear T Q o r h S ok hc wn c0 c3 hm av ag L;go_enter func169,ntmps169;go_wp2_with fail;refine(al.out _).mono ?_;rintro e U⟨rfl,rfl⟩;have aa:=qQ hG;go_wp2_with fail;have ak:=qU c1 c2
 go_region_held3 (fun w'=>w'.cell? ⟨gt,1,none⟩=some (ptr gd)/\w'.cell? ⟨gt,2,none⟩=some (.int .i64 n)) (first|(with_reducible assumption)|(with_reducible exact⟨by with_reducible assumption,by with_reducible assumption⟩)|exact ak) (first
  | (go_at_call 123;refine(hN.out _).mono ?_;rintro e U⟨rfl,o⟩;have j:=bj (show Below w.1.size w _ from by first|(with_reducible exact(qG _ _).drew)|(with_reducible exact qG _ _)) o;have d1:U.cell? ⟨gt,1,none⟩=some (ptr gd):=(C.out.below j).cells.2.1;have d2:U.cell? ⟨gt,2,none⟩=some (.int .i64 n):=(C.out.below j).cells.2.2.1;have q:=j.drew;have d3:=qU d1 d2)
  | (go_at_call 223;refine X5 (am.out _) ?_)
  | (go_at_call 130;(try rw[ar]);go_must (refine(hR.out _ (by first|(with_reducible exact j)|(with_reducible exact q))).mono ?_;rintro e c⟨rfl,h3,A⟩;have d5:=qU ((C.out.below (by first|(with_reducible exact j)|(with_reducible exact q))).keep A aa.out).cells.2.1 ((C.out.below (by first|(with_reducible exact j)|(with_reducible exact q))).keep A aa.out).cells.2.2.1))
  | fail)
 all_goals
  have Q3:jM E w c:=by first|exact(jM.xA j ac.out).trans A|exact(jM.xA q ac.out).trans A
  have B:=qQ (qU h3 Q3);have af:=ae.out c;have aj:=(qG c.1.size c).alloc (qK _) (.cells Z 117);clear ae h3 Q3 A d5 d3 j q o d1 d2 ak c1 c2;go_wp2;go_loopw [45] (fun i wr=>∃k:Nat,k<=m/\i=.int .i64 k/\ju wr c.1.size (.slice (some ⟨c.1.size,0,none⟩) m m) (ux (lV s) m k)/\Below c.1.size c wr) (fun i _=>m-(intOf i).toNat)
  case atStart=>exact⟨0,qI _,rfl,af,aj⟩
  case round =>
   obtain⟨k,r,rfl,u,J⟩:=hrel;clear af aj au;by_cases K:k<m
   ·have s1:(k:Int)<(m:Int):=(by omega);obtain⟨f,ah⟩:∃f:Nat,f=24*k:=⟨_,rfl⟩
    obtain⟨d,ai⟩:∃d:Nat,d=24*k+24:=⟨_,rfl⟩
    have eP:pcP s k=s.extract f d:=(by rw[ah,ai];rfl);have M:=fun W=>U2 (s.extract f d) W (by unfold maxLen;rw[qk];omega)
    have N:=aq.out k K;have R:=HK.out k K;rw[eP]at N R;rw[R]at M;have an:=qQ M;have y1:IntKind.i64.wrap ((k:Int)*24)=(f:Int):=(by rw[qz _ ⟨by omega,by omega⟩];omega);have y2:IntKind.i64.wrap ((k:Int)+1)=(k:Int)+1:=qz _ ⟨by omega,by omega⟩;have y3:IntKind.i64.wrap (((k:Int)+1)*24)=(d:Int):=(by rw[qz _ ⟨by omega,by omega⟩];omega);have x1:(f:Int)<=(d:Int):=(by omega);have x2:(d:Int)<=(s.size:Int):=(by omega);have x3:f<=d:=(by omega);have x4:d<=s.size:=(by omega);have H:=qQ u;have p:=qQ J;have ap:=qQ N;clear eP ah ai u J M R N hs;generalize enG (s.extract f d)=x at*;obtain⟨V,Y,X⟩:=x;go_wp2_with fail;refine KG (an.out _) fun w4 I=>?_;have O:=ju.below (H.out.below I (qK _)) ((qG w4.1.size w4).alloc (qK _) (.cells #[.int .u64 (V:Nat),Y,X] 117)) (qK _);obtain⟨⟨y,q0,q1,q2⟩,f0,f1,f2⟩:=O.at_ (ad.out k).symm K;have P:=O.put (ad.out k).symm K ⟨V,Y,X⟩;rw[ap.out]at P;have R4:=qQ P;have B4:=qQ ((bj p.out I).alloc (bj p.out I).size (.cells #[.int .u64 (V:Nat),Y,X] 117));clear P O I;go_wp2;exact⟨⟨k+1,by omega,by go_num,R4.out,Zo B4.out (qK _) _ _ _⟩,by simp[intOf];omega⟩
   ·obtain rfl:k=m:=(by omega);have s1:¬(k:Int)<(k:Int):=(by omega);rw[ao.out]at u;have H:=qQ u;have p:=qQ J;clear u J;go_wp2;go_ret2;have L:=B.out.2.size;have az:c.1.size<=wr.1.size:=p.out.size;refine⟨some ⟨c.1.size,0,none⟩,k,by rw[ab.out];rfl,by rw[ab.out];exact ju.down H.out L, ?_,B.out.2.trans (jM.xA p.out B.out.1.lt)⟩
    exact B.out.1.more api p.out (fun b o=>by
     obtain rfl:b=c.1.size:=by simpa[jS,Value.ownBlock] using o
     exact⟨qK _,by
      rcases H.out.2 with⟨e,-⟩|⟨g,ax,ay,e,hg,hh,-⟩
      ·cases e
      ·have e2:=(Value.slice.inj e).1;have e3:c.1.size=g:=(by simpa using e2);rw[e3];exact(qn.1 hh).1⟩)
end
def vo(D:jL)(n:Int)(l:List jI):Prop:=∃f,jT D.l (ptT n)=some f/\uJ f.data=true/\tgL f.data=l
theorem vo.count{D:jL}{n:Int}{l:List jI}(h:vo D n l)(k:Nat):vo { D with count:=k } n l:=h
theorem vo.ready{D:jL}{n:Int}{l:List jI}(h:vo D n l)(b:D.down=false):QY D n=0:=by
 obtain⟨f,a,c,d⟩:=h;unfold QY;rw[me b a];rfl
theorem vo.props{D:jL}{n:Int}{l:List jI}(h:vo D n l):kY l/\(∀x∈l,mayE x=true)/\∀x∈l,ks x:=by
 obtain⟨f,d,a,rfl⟩:=h;obtain⟨b,c,i⟩:=UU a;exact⟨b,c,UG _⟩
theorem vo.read{D:jL}{n:Int}{l:List jI}(h:vo D n l)(d:D.down=false){lo m:Nat}(i:lo+m<=l.length):∃s,kM D (ptT n) ((8+24*lo:Nat):Int) ((24*m:Nat):Int)=(s,0, { D with count:=D.count+1 })/\s.size=24*m/\okP s m=true/\lK s m=(l.drop lo).take m:=by
 obtain⟨f,c,b,rfl⟩:=h;obtain⟨j,k,o⟩:=UU b;have a:=PY (lo:=lo) (hi:=lo+m) b i;rw[show 8+24*(lo+m)=8+24*lo+24*m by omega,show lo+m-lo=m by omega]at a;exact⟨_,rQ d c (by omega),by rw[qk];omega,a.1,a.2⟩
section
variable {At:j6}(api:j8 At)(nap:kZ){w0 w:World}{gt gd:Nat}{D:jL}{E G:List Nat}{n:Int}{l:List jI}{t:Tw}
include api nap
theorem JQ(h:DS At w0 gd D E w)(p:yS w gt gd n l t G)(i:∀b∈G,b∈E)(ok:WfP D)(k:D.count<=1099511627776)(q:(Lit.int .i64 n).wf=true)(o:D.down=false)(j:vo D n l)(lo hi:Nat)(v:lo<=hi)(r:hi<=l.length)(u:l.length<=40000):
  Calls prog 169 #[ptr gt,lo,hi] w (nA At w0 gd ((l.drop lo).take (hi-lo)) 0 { D with count:=D.count+1 } E w):=by
 obtain⟨s,a,c,d,f⟩:=j.read (lo:=lo) (m:=hi-lo) o (by omega);rw[<-f];exact Pw api nap h p i ok k q lo hi (hi-lo) (by omega) (by omega) s a c d
theorem RQ(h:DS At w0 gd D E w)(f:yS w gt gd n l t G)(r:∀b∈G,b∈E)(ok:WfP D)(u:D.count<=1099511627776)(p:(Lit.int .i64 n).wf=true)(o:D.down=false)(k:vo D n l)(K:l.length<=40000):
  Calls prog 122 #[ptr gt] w (nA At w0 gd l 0 { D with count:=D.count+1 } E w):=by
 have s:=qQ (Za api nap h f ok p);rw[k.ready o]at s;have j:=qQ fun W (d:Below w.1.size w W)=>JQ api nap (h.below api d) (f.below d) r ok u p o k 0 l.length (qI _) (qK _) K
 rw[List.drop_zero,show l.length-0=l.length from rfl,List.take_length]at j;have I:=qQ fun W (d:Below w.1.size w W)=>(f.below d).cells
 have J:=qQ h.lt;clear h f r ok u p o k;generalize v:l.length=m at*;have L:=qQ v;clear v;go_enter func122,ntmps122;go_wp2_with fail;refine s.out.mono ?_;rintro e C⟨rfl,a⟩;obtain⟨c0,c1,c2,M⟩:=I.out C a;have H:=qQ (j.out C a);have q:=qQ (jM.xA a J.out);clear a c0 c1 c2 j;go_wp2_with fail;refine H.out.mono ?_;rintro e N⟨A,c,rfl,y,z,B⟩;have i:=qQ (qU y (qU z B));clear y z B;go_wp2;go_ret2;exact⟨A,c,rfl,i.out.1.down q.out.size,i.out.2.1,q.out.trans i.out.2.2⟩
theorem RX(h:DS At w0 gd D E w)(m:yS w gt gd n l t G)(hG:∀b∈G,b∈E)(ok:WfP D)(hc:D.count<=1099511627776)(V:(Lit.int .i64 n).wf=true)(P:D.down=false)(B:vo D n l)(hk:bu t l=true)(hl:l.length<=40000)
  (x:Nat) (hx:x<18446744073709551616) (a b:Int) (wa:(Lit.int .i64 a).wf=true) (wb:(Lit.int .i64 b).wf=true):
  Calls prog 107 #[ptr gt,.int .u64 (x:Nat),a,.int .i64 b] w fun e w'=>∃k,k<=1/\(dT l t x=false->k=0)/\nA At w0 gd (vD l x a (min b 1073741824)) 0 { D with count:=D.count+k } E w e w':=by
 obtain⟨o,T,ab⟩:=B.props;have ba:=bounds_i64 wa;have bb:=bounds_i64 wb;obtain⟨d,O⟩:∃d,min b 1073741824=d:=⟨_,rfl⟩
 have i1:(if (1073741824:Int)<b then 1073741824 else b)=d:=by rw[<-O];split<;>omega
 have i2:IntKind.i64.wrap (d+1)=d+1:=qz _ ⟨by omega,by omega⟩;rw[O];have af:=qQ h.lt;have z:=qQ (Za api nap h m ok V);rw[B.ready P]at z;have r:=qQ fun W (f:Below w.1.size w W)=>Uv (m.below f) x hx
 have p:Hid (∀w':World,Below w.1.size w w'->vD l x a d=[]->∃k,k<=1/\(dT l t x=false->k=0)/\nA At w0 gd (vD l x a d) 0 { D with count:=D.count+k } E w (.returned (.tuple #[.slice none 0 0,.int .i64 0])) w'):=qQ fun w' C e=>by
  rw[e];exact⟨0,by omega,fun _=>rfl,none,0,rfl,ju.nil _ _,h.below api C,jM.xA C h.lt⟩
 cases H:dT l t x with
 | false =>
   rw[H]at r p;have Q:=(UD hk H a d).1;rw[Q]at p ⊢;clear h m hG ok hc V P B hk hl hx wa wb o T ab ba bb O i2 Q H;go_enter func107,ntmps107;go_wp2_with fail;refine KG z.out fun w1 i=>?_;go_wp2_with fail;refine KG (r.out _ i) fun w2 j=>?_;go_wp2;go_ret2;exact p.out _ (bj i j) (by first|rfl|trivial)
 | true =>
   rw[H]at r p;obtain⟨lo,h1,s⟩:=Zp o (by omega) ⟨x,a,0⟩;obtain⟨l2,hi,I⟩:=Zp o (by omega) ⟨x,d+1,0⟩;have J:=s.zn;have u:=I.zz;rw[Zy T]at J u;rw[UB]at u;have a3:=s.top;have a4:=I.top;have a5:=s.zz;rw[Zy T]at a5;have Z:=qQ fun W (f:Below w.1.size w W)=>Ze (m.below f) (by omega) x a s
   have aa:=qQ fun W (f:Below w.1.size w W)=>Ze (m.below f) (by omega) x (d+1) I
   by_cases ae:lo<hi
   ·have ad:=qQ fun W (f:Below w.1.size w W)=>JQ api nap (h.below api f) (m.below f) hG ok hc V P B lo hi (by omega) a4 hl
    have f:=UC (lo:=lo) (hi:=hi) o J u;have ah:((l.drop lo).take (hi-lo)).length=hi-lo:=(by rw[qT,qw];omega);have ac:=qQ fun(v:Value) W (hv:kB W v ((l.drop lo).take (hi-lo)))=>U7 v _ x a d W hv (by omega) (fun y hy=>ab y (UA hy)) (Zv o _ _)
    rw[f]at ac;have t1:decide ((hi:Int)<=(lo:Int))=false:=qA (by omega);have t2:¬(hi:Int)<=(lo:Int):=(by omega);generalize vD l x a d=R at*;generalize (l.drop lo).take (hi-lo)=S at*;clear h m hG ok hc V P B hk hl hx wa wb o T ab ba bb O H s I J u a3 a4 a5 p f ah ae;go_enter func107,ntmps107;go_wp2_with fail;refine KG z.out fun w1 i=>?_;go_wp2_with fail;refine KG (r.out _ i) fun w2 K=>?_;have j:=bj i K;clear K i z r;go_wp2_with fail;refine KG (Z.out _ j) fun w3 L=>?_;have q:=bj j L;clear L j Z;go_wp2_with fail;refine KG (aa.out _ q) fun w4 N=>?_;have M:=bj q N;clear N q aa;go_wp2_with fail;refine(ad.out _ M).mono ?_;rintro e w5⟨A,c,rfl,U,r2,r3⟩;have X:=qQ (qU r2 ((jM.xA M af.out).trans r3));have ag:=qQ (ac.out _ _ U.xH);clear U r2 r3 M ad ac;go_wp2_with fail;refine ag.out.mono ?_;rintro e w6⟨A2,c2,rfl,U,b6⟩;have Y:=qQ (qU U b6);clear U b6;go_wp2;go_ret2;exact⟨1,qK _,fun e=>by simp at e,A2,c2,rfl,Y.out.1.down X.out.2.size,(X.out.1.less (fun b C=>qJ _ C)).more api Y.out.2 (lW Y.out.1),X.out.2.trans (jM.xA Y.out.2 (fun b C=>X.out.1.lt b (qJ _ C)))⟩
   ·have Q:=PB (b:=d) o J u (by omega);have t1:decide ((hi:Int)<=(lo:Int))=true:=qB (by omega);have t2:(hi:Int)<=(lo:Int):=(by omega);rw[Q]at p ⊢;clear h m hG ok hc V P B hk hl hx wa wb o T ab ba bb O H s I J u a3 a4 a5 Q ae;go_enter func107,ntmps107;go_wp2_with fail;refine KG z.out fun w1 i=>?_;go_wp2_with fail;refine KG (r.out _ i) fun w2 K=>?_;have j:=bj i K;clear K i z r;go_wp2_with fail;refine KG (Z.out _ j) fun w3 L=>?_;have q:=bj j L;clear L j Z;go_wp2_with fail;refine KG (aa.out _ q) fun w4 N=>?_;have M:=bj q N;clear N q aa;go_wp2;go_ret2;exact p.out _ M (by first|rfl|trivial)
end
end
section
open Go.RowKit
theorem RZ{l:List jI}{x y:jI}(h:y∈l):y∈vp l x:=by
 unfold vp;split
 ·exact h
 ·rw[<-qp (vP l x) l]at h;rcases qD.1 h with h|h
  ·exact qW _ (qW _ h)
  ·exact qJ _ h
theorem RJ(l:List jI)(x:jI):x∈vp l x:=by
 unfold vp;split
 ·rename_i h;exact qN h
 ·exact qW _ (qJ _ (qH.2 rfl))
theorem RK{l:List jI}{x y:jI}:y∈vp l x↔y∈l∨y=x :=
 ⟨ti,fun h=>by
  rcases h with h|rfl
  ·exact RZ h
  ·exact RJ l y⟩
theorem Uf{l:List jI}(a:kY l){x:jI}(h:x∈l):l[vP l x]? = some x:=by
 rcases Decidable.em (l[vP l x]? = some x) with c|c
 ·exact c
 ·rw[<-qp (vP l x) l]at h;rcases qD.1 h with h|h
  ·have:=Z2 l x x h;rw[rM]at this;cases this
  ·have:=Ym a c x h;rw[rM]at this;cases this
theorem RV{l:List jI}(a:kY l){x:jI}:l[vP l x]? = some x↔x∈l:=⟨qN,Uf a⟩
theorem RY{l:List jI}(a:kY l){x:jI}(h:x∈l):vp l x=l:=by unfold vp;rw[qV (Uf a h)]
theorem RU{l:List jI}{x:jI}(h:x ∉ l):vp l x=l.take (vP l x)++([x]++l.drop (vP l x)):=by
 unfold vp;rw[qZ (fun k=>h (qN k)),qh]
theorem RG{l:List jI}(m:kY l){x y:jI}{i:Nat}(h:l[i]? = some y):(!jm y x)=decide (vP l x<=i):=by
 by_cases c:vP l x<=i
 ·rw[qB c];cases d:jm y x with
  | false=>rfl
  | true =>
    exfalso;have b:=(qO.1 h).1;have f:vP l x<l.length:=(by omega);have a:(!jm l[vP l x] x)=true:=List.findIdx_getElem (p:=fun y=>!jm y x) (xs:=l) (w:=f);rw[Bool.not_eq_true']at a;rcases qd (vP l x) i with k|k
    ·have:=xY.1 m (vP l x) i f b k;rw[qE b]at h;rw[qb h]at this;rw[mJ this d]at a;cases a
    ·have e:i=vP l x:=(by omega);subst e;rw[qE b]at h;rw[qb h,d]at a;cases a
 ·rw[qA c];have j:y∈l.take (vP l x):=qN (i:=i) (by rw[List.getElem?_take,qV (by omega)];exact h);rw[Z2 l x y j];rfl
def fF(m:Option jI):List jI->Option jI
 | []=>m
 | x::_=>match m with
   | none=>some x
   | some y=>if jm x y=true then some x else some y
def yn(L:List (List jI)):Option jI:=L.foldl fF none
def yr(e:jI)(l:List jI):List jI:=l.dropWhile (fun x=>decide (x=e))
def cV(a:List jI)(e:jI):List jI:=if a.getLast? = some e then a else a++[e]
def vX(L:List (List jI)):Nat:=(L.map List.length).sum
def uK: Nat->List jI->List (List jI)->List jI
 | 0,a,_=>a
 | n+1,a,L=>match yn L with
   | none=>a
   | some e=>uK n (cV a e) (L.map (yr e))
def mrg(a:List jI)(L:List (List jI)):List jI:=uK (vX L) a L
def dz(L:List (List jI)):List jI:=mrg [] L
theorem JX{L:List (List jI)}{i:Nat}{l:List jI}(h:L[i]? = some l):yn (L.take (i+1))=fF (yn (L.take i)) l:=by
 unfold yn;rw[xQ,h,List.foldl_append];rfl
theorem JZ: ∀(L:List (List jI)) (m:Option jI),L.foldl fF m=none↔m=none/\∀l∈L,l=[]
 | [],m=>by simp
 | []::L,m=>by
   rw[List.foldl_cons,JZ L];simp[fF]
 | (x::t)::L,m=>by
   rw[List.foldl_cons,JZ L];constructor
   ·rintro ⟨h,_⟩;cases m with
    | none=>cases h
    | some y =>
      simp only[fF]at h;split at h<;>cases h
   ·rintro ⟨_,h⟩;have:=h (x::t) qC;cases this
theorem QF{L:List (List jI)}:yn L=none↔∀l∈L,l=[]:=by
 unfold yn;rw[JZ];simp
theorem RW{x y e:jI}(h:jm x y=false)(k:jm y e=false):jm x e=false:=by
 cases c:jm x e with
 | false=>rfl
 | true =>
   by_cases a:y=e
   ·subst a;rw[c]at h;cases h
   ·have:=mJ c (ZO k a);rw[this]at h;cases h
theorem QH: ∀(L:List (List jI)) (m:Option jI) (e:jI),L.foldl fF m=some e ->
  (m=some e∨∃l∈L,∃t,l=e::t)/\(∀y,m=some y->jm y e=false)/\∀l∈L,∀x t,l=x::t->jm x e=false
 | [],m,e,h=>by
   have s:m=some e:=h;subst s;exact⟨qX rfl,fun y r=>by cases r;exact rM _,fun l b=>by cases b⟩
 | []::L,m,e,h=>by
   rw[List.foldl_cons]at h;obtain⟨a,f,o⟩:=QH L m e h;refine⟨?_,f,fun l b x t j=>?_⟩
   ·rcases a with a|⟨l,b,t,q⟩
    ·exact qX a
    ·exact qY ⟨l,qF _ b,t,q⟩
   ·rcases qM.1 b with rfl|b
    ·cases j
    ·exact o l b x t j
 | (x::t)::L,m,e,h=>by
   rw[List.foldl_cons]at h;obtain⟨a,f,o⟩:=QH L _ e h
   have j:jm x e=false/\(∀y,m=some y->jm y e=false)/\(m=some e∨∃l∈(x::t)::L,∃t,l=e::t):=by
    have k:(∃l∈L,∃t,l=e::t)->∃l∈(x::t)::L,∃t,l=e::t:=fun⟨l,b,v,q⟩=>⟨l,qF _ b,v,q⟩
    cases m with
    | none =>
      refine⟨f x rfl,fun y r=>(by cases r), ?_⟩;rcases a with a|a
      ·have:x=e:=qb a;subst this;exact qY ⟨_,qC,t,rfl⟩
      ·exact qY (k a)
    | some y =>
      cases c:jm x y with
      | true =>
        have p:fF (some y) (x::t)=some x:=(by unfold fF;simp only;rw[qV c]);rw[p]at a f;refine⟨f x rfl,fun z i=>?_, ?_⟩
        ·cases i;cases d:jm y e with
         | false=>rfl
         | true=>have:=mJ c d;rw[f x rfl]at this;cases this
        ·rcases a with a|a
         ·have:x=e:=qb a;subst this;exact qY ⟨_,qC,t,rfl⟩
         ·exact qY (k a)
      | false =>
        have p:fF (some y) (x::t)=some y:=(by unfold fF;simp only;rw[qZ (by rw[c];decide)]);rw[p]at a f;refine⟨RW c (f y rfl),fun z i=>by cases i;exact f y rfl, ?_⟩;rcases a with a|a
        ·exact qX a
        ·exact qY (k a)
   refine⟨j.2.2,j.2.1,fun l b z u i=>?_⟩;rcases qM.1 b with rfl|b
   ·injection i with i;rw[<-i];exact j.1
   ·exact o l b z u i
theorem mG{L:List (List jI)}{e:jI}(h:yn L=some e):∃l∈L,∃t,l=e::t:=by
 rcases(QH L none e h).1 with h|h
 ·cases h
 ·exact h
theorem RA{L:List (List jI)}{e:jI}(h:yn L=some e):∀l∈L,∀x t,l=x::t->jm x e=false:=(QH L none e h).2.2
theorem JJ(e:jI)(l:List jI):(yr e l).length<=l.length:=(List.dropWhile_sublist _).length_le
theorem QI(e:jI)(t:List jI):yr e (e::t)=yr e t:=by unfold yr;rw[List.dropWhile_cons,qV (by simp)]
theorem JK{e x:jI}(h:x≠e)(t:List jI):yr e (x::t)=x::t:=by unfold yr;rw[List.dropWhile_cons,qZ (by simpa using h)]
theorem bG(l:List jI)(L:List (List jI)):vX (l::L)=l.length+vX L:=by unfold vX;simp
theorem Uh(e:jI):∀L:List (List jI),vX (L.map (yr e))<=vX L
 | []=>qK _
 | l::L=>by
   rw[List.map_cons,bG,bG];have:=Uh e L;have:=JJ e l;omega
theorem ry(e:jI):∀L:List (List jI),(∃l∈L,∃t,l=e::t)->vX (L.map (yr e))<vX L
 | [],h=>by obtain⟨l,b,_⟩:=h;cases b
 | l::L,⟨m,a,t,ht⟩=>by
   rw[List.map_cons,bG,bG];have c:=Uh e L;have d:=JJ e l;rcases qM.1 a with rfl|a
   ·subst ht;have f:=JJ e t;rw[QI,qu];omega
   ·have:=ry e L ⟨m,a,t,ht⟩;omega
theorem JV{L:List (List jI)}(h:vX L=0):yn L=none:=by
 rw[QF]
 induction L with
 | nil=>intro l b;cases b
 | cons a L c =>
   rw[bG]at h;intro l b;rcases qM.1 b with rfl|b
   ·exact xK.1 (by omega)
   ·exact c (by omega) l b
theorem Ul: ∀(n m:Nat) (a:List jI) (L:List (List jI)),vX L<=n->vX L<=m->uK n a L=uK m a L
 | 0,0,a,L,_,_=>rfl
 | 0,m+1,a,L,h,_=>by
   have:=JV (L:=L) (by omega);rw[uK,uK,this]
 | n+1,0,a,L,_,h=>by
   have:=JV (L:=L) (by omega);rw[uK,uK,this]
 | n+1,m+1,a,L,h1,h2=>by
   rw[uK,uK];cases c:yn L with
   | none=>rfl
   | some e =>
     have:=ry e L (mG c);exact Ul n m _ _ (by omega) (by omega)
theorem RB{a:List jI}{L:List (List jI)}(h:yn L=none):mrg a L=a:=by
 unfold mrg;cases vX L with
 | zero=>rfl
 | succ n=>rw[uK,h]
theorem RC{a:List jI}{L:List (List jI)}{e:jI}(h:yn L=some e):mrg a L=mrg (cV a e) (L.map (yr e)):=by
 have c:=ry e L (mG h);unfold mrg;obtain⟨n,b⟩:∃n,vX L=n+1:=⟨vX L-1,by omega⟩
 rw[b,uK,h];exact Ul _ _ _ _ (by omega) (qK _)
theorem RD(a:List jI)(e:jI):a.length<=(cV a e).length/\(cV a e).length<=a.length+1:=by
 unfold cV;split
 ·omega
 ·rw[qL,List.length_singleton];omega
theorem JY: ∀(n:Nat) (a:List jI) (L:List (List jI)),vX L<=n->a.length<=(uK n a L).length/\(uK n a L).length<=a.length+vX L
 | 0,a,L,_=>⟨qK _,by rw[uK];omega⟩
 | n+1,a,L,h=>by
   rw[uK];cases c:yn L with
   | none=>exact⟨qK _,by simp only;omega⟩
   | some e =>
     have h1:=ry e L (mG c);have b:=RD a e;have d:=JY n (cV a e) (L.map (yr e)) (by omega);exact⟨by simp only;omega,by simp only;omega⟩
theorem RE(a:List jI)(L:List (List jI)):a.length<=(mrg a L).length:=(JY _ a L (qK _)).1
theorem Um(L:List (List jI)):(dz L).length<=vX L:=by
 have:=(JY _ [] L (qK _)).2;rw[List.length_nil,qe]at this;exact this
def ru(a:List jI)(L:List (List jI)):List (List jI):=match a.getLast? with
 | none=>L
 | some e=>L.map (yr e)
def dZ(a:List jI)(L:List (List jI)):List jI:=mrg a (ru a L)
theorem Un{a:List jI}{L:List (List jI)}(c:∀l∈L,∀x t,l=x::t->a.getLast?≠some x):ru a L=L:=by
 unfold ru;cases h:a.getLast? with
 | none=>rfl
 | some e =>
   show L.map (yr e)=L
   have:∀l∈L,yr e l=l:=fun l b=>by
    cases l with
    | nil=>rfl
    | cons x t=>exact JK (fun d=>c _ b x t rfl (by rw[h,d])) t
   rw[List.map_congr_left this];exact List.map_id' L
theorem RF{a:List jI}{L:List (List jI)}{i:Nat}{e:jI}{t:List jI}(c:a.getLast? = some e)(h:L[i]? = some (e::t)):dZ a (L.set i t)=dZ a L:=by
 unfold dZ ru;rw[c];show mrg a ((L.set i t).map (yr e))=mrg a (L.map (yr e));congr 1;apply xJ;intro j;rw[qv,qv,List.getElem?_set];by_cases b:i=j
 ·subst b;have d:=(qO.1 h).1;rw[qV rfl,qV d,h];show some (yr e t)=some (yr e (e::t));rw[QI]
 ·rw[qZ b]
theorem RH{a:List jI}{L:List (List jI)}{e:jI}(h:yn L=some e)(b:∀l∈L,∀x t,l=x::t->a.getLast?≠some x):dZ (a++[e]) L=dZ a L:=by
 have c:a.getLast?≠some e:=by
  obtain⟨l,d,t,f⟩:=mG h;exact b l d e t f
 unfold dZ;rw[Un b,RC h];unfold cV ru;rw[qZ c,List.getLast?_append,List.getLast?_singleton];rfl
theorem RI{a:List jI}{L:List (List jI)}(h:yn L=none):dZ a L=a:=by
 unfold dZ;rw[Un (fun l c x t b=>by have:=QF.1 h l c;rw[this]at b;cases b),RB h]
theorem RL(a:List jI)(L:List (List jI)):a.length<=(dZ a L).length:=RE _ _
theorem Up: ∀ {L:List (List jI)} {i:Nat} {e:jI} {t:List jI},L[i]? = some (e::t)->vX (L.set i t)+1=vX L
 | [],i,e,t,h=>by simp at h
 | l::L,0,e,t,h=>by
   obtain rfl:l=e::t:=(by simpa using h);rw[List.set_cons_zero,bG,bG,qu];omega
 | l::L,i+1,e,t,h=>by
   have:=Up (L:=L) (i:=i) (e:=e) (t:=t) (by simpa using h);rw[List.set_cons_succ,bG,bG];omega
def mW(k:Nat)(a:List jI)(L:List (List jI)):Prop:=2*vX L+1<=k∨(2*vX L<=k/\∃l∈L,∃e t,l=e::t/\a.getLast? = some e)
theorem RM(L:List (List jI)):mW (2*vX L+1) [] L:=qX (qK _)
theorem RN{k:Nat}{a:List jI}{L:List (List jI)}{i:Nat}{e:jI}{t:List jI}(b:mW k a L)(h:L[i]? = some (e::t)):0<k/\mW (k-1) a (L.set i t):=by
 have c:=Up h;have d:2*vX L<=k:=by rcases b with h|h;omega;exact h.1
 exact⟨by omega,qX (by omega)⟩
theorem RO{k:Nat}{a:List jI}{L:List (List jI)}{e:jI}(i:mW k a L)(h:yn L=some e)(j:∀l∈L,∀x t,l=x::t->a.getLast?≠some x):0<k/\mW (k-1) (a++[e]) L:=by
 have m:2*vX L+1<=k:=by
  rcases i with h|⟨_,l,b,d,t,c,f⟩
  ·exact h
  ·exact absurd f (j l b d t c)
 obtain⟨l,b,t,c⟩:=mG h;exact⟨by omega,qY ⟨by omega,l,b,e,t,c,by rw[List.getLast?_append,List.getLast?_singleton];rfl⟩⟩
theorem RP{a:List jI}{e x:jI}:x∈cV a e↔x∈a∨x=e:=by
 unfold cV;split
 ·rename_i h;constructor
  ·exact qX
  ·rintro (b|rfl)
   ·exact b
   ·exact List.mem_of_getLast? h
 ·simp
theorem JU{e x:jI}{l:List jI}(h:x∈yr e l):x∈l:=(List.dropWhile_sublist _).subset h
theorem Ur(e:jI){x:jI}:∀ {l:List jI},x∈l->x=e∨x∈yr e l
 | [],h=>by cases h
 | y::l,h=>by
   by_cases hy:y=e
   ·subst hy;rw[QI];rcases qM.1 h with rfl|h
    ·exact qX rfl
    ·exact Ur y h
   ·rw[JK hy];exact qY h
theorem Us: ∀(n:Nat) (a:List jI) (L:List (List jI)) (x:jI),vX L<=n->(x∈uK n a L↔x∈a∨∃l∈L,x∈l)
 | 0,a,L,x,h=>by
   have:=QF.1 (JV (L:=L) (by omega));rw[uK];constructor
   ·exact qX
   ·rintro (h|⟨l,b,d⟩)
    ·exact h
    ·rw[this l b]at d;cases d
 | n+1,a,L,x,h=>by
   rw[uK];cases c:yn L with
   | none =>
     have:=QF.1 c;constructor
     ·exact qX
     ·rintro (h|⟨l,b,d⟩)
      ·exact h
      ·rw[this l b]at d;cases d
   | some e =>
     have i:=ry e L (mG c);show x∈uK n (cV a e) (L.map (yr e))↔_;rw[Us n (cV a e) (L.map (yr e)) x (by omega),RP];constructor
     ·rintro ((h|rfl)|⟨l,b,d⟩)
      ·exact qX h
      ·obtain⟨l,b,t,rfl⟩:=mG c;exact qY ⟨_,b,qC⟩
      ·obtain⟨m,f,rfl⟩:=qP.1 b;exact qY ⟨m,f,JU d⟩
     ·rintro (h|⟨l,b,d⟩)
      ·exact qX (qX h)
      ·rcases Ur e d with h|h
       ·exact qX (qY h)
       ·exact qY ⟨_,List.mem_map_of_mem b,h⟩
theorem Ut{L:List (List jI)}{x:jI}:x∈dz L↔∃l∈L,x∈l:=by
 unfold dz mrg;rw[Us _ _ _ _ (qK _)];simp
theorem RS{a:List jI}{e:jI}(b:kY a)(h:∀x∈a,jm x e=true):kY (a++[e]) :=
 List.pairwise_append.2 ⟨b,List.pairwise_singleton _ _,fun x c y d=>by rw[qH.1 d];exact h x c⟩
theorem RT{e:jI}{l:List jI}(f:kY l)(d:∀x t,l=x::t->jm x e=false):∀y∈yr e l,jm e y=true:=by
 cases l with
 | nil=>intro y a;cases a
 | cons x t =>
   obtain⟨c,i⟩:=xU.1 f;by_cases b:x=e
   ·subst b;rw[QI];intro y a;exact c y (JU a)
   ·rw[JK b];have:=ZO (d x t rfl) b;intro y a;rcases qM.1 a with rfl|a
    ·exact this
    ·exact mJ this (c y a)
theorem Ua: ∀(n:Nat) (a:List jI) (L:List (List jI)),kY a->(∀l∈L,kY l)->(∀x∈a,∀l∈L,∀y∈l,jm x y=true)->kY (uK n a L)
 | 0,a,L,h,_,_=>h
 | n+1,a,L,ha,hL,hal=>by
   rw[uK];cases c:yn L with
   | none=>exact ha
   | some e =>
     obtain⟨l,j,t,q⟩:=mG c;have i:e∈l:=by rw[q];exact qC
     have p:cV a e=a++[e]:=by
      unfold cV;rw[qZ];intro h;have:=hal e (List.mem_of_getLast? h) l j e i;rw[rM]at this;cases this
     show kY (uK n (cV a e) (L.map (yr e)));rw[p];refine Ua n _ _ (RS ha fun x b=>hal x b l j e i) (fun m f=>?_) (fun x b m f y o=>?_)
     ·obtain⟨k,d,rfl⟩:=qP.1 f;exact List.Pairwise.sublist (List.dropWhile_sublist _) (hL k d)
     ·obtain⟨k,d,rfl⟩:=qP.1 f;rcases qD.1 b with b|b
      ·exact hal x b k d y (JU o)
      ·rw[qH.1 b];exact RT (hL k d) (fun z u r=>RA c k d z u r) y o
theorem Ue{L:List (List jI)}(h:∀l∈L,kY l):kY (dz L):=Ua _ _ _ List.Pairwise.nil h (fun x a=>by cases a)
end
section
open Go.RowKit Go.Shelf
theorem Ui(v:Value)(l:List jI)(h:Nat)(n:Int)(w:World)(P:kB w v l)(hn:l.length<=1000000)(Q:∀x∈l,ks x)(s:kY l):
  Calls prog 195 #[v,.int .u64 (h:Nat),n] w (X3 (.tuple #[ki (yZ l h n),.bool (yB l h n)]) w):=by
 have o:vL (w.alloc (.cells #[.int .u64 ((0:Nat):Int),.int .i64 0,.int .i64 0] 117)) w.1.size 0 0 0:=jN.new _ _ _;have i:=(qG w.1.size w).alloc (qK _) (.cells #[.int .u64 ((0:Nat):Int),.int .i64 0,.int .i64 0] 117);have B:=P.below i (qK _);have q:=qQ (U4 v l h n _ B hn Q s);have j:=Zl s h n;have hK:lG l h n<=l.length:=rz _ l;generalize lG l h n=K at*;obtain⟨A,off,aa,rfl,-,N⟩:=B.form;by_cases R:K=0
 ·subst R;have e:=Z8 j;have c:yZ l h n=⟨0,0,0⟩:=by unfold yZ;rw[e];rfl
  have d:yB l h n=false:=by unfold yB;rw[e];rfl
  rw[c,d];clear N P B j e c d Q s;generalize l.length=m at*;go_enter func195,ntmps195;go_wp2_with fail;refine q.out.mono ?_;rintro e L⟨rfl,a⟩;have f:vL L w.1.size 0 0 0:=jN.below o a;have z:=bj i a;clear o i a q;obtain⟨H,I,J,T,U,V⟩:=f.facts;go_wp2;exact bodyPost_ret (v:=.tuple #[ki ⟨0,0,0⟩,.bool false]) (by simp[results,Tryz.results195,go_sem,H,I,J]) rfl ⟨rfl,mU z (qK _) _ _ _⟩
 ·obtain⟨k,S⟩:∃k,K=k+1:=⟨K-1,by omega⟩
  have Z:k<l.length:=by omega
  obtain⟨x,C⟩:∃x,l[k]? = some x:=⟨_,qE Z⟩
  obtain⟨b,rfl,M,r,u,y⟩:=N k x C;have q1:(K:Int)-1=(k:Int):=by omega
  have q2:((K:Int)==0)=false:=qg.2 (by omega);have q3:IntKind.i64.wrap ((k:Nat):Int)=(k:Nat):=qz _ ⟨by omega,by omega⟩;rw[S]at j;by_cases O:x.h=h
  ·have e:=Z6 j C O;have c:yZ l h n=x:=(by unfold yZ;rw[e];rfl);have d:yB l h n=true:=(by unfold yB;rw[e];rfl);rw[c,d];have t:((x.h:Int) != (h:Int))=false:=(by simp;omega);clear N P B j e c d Q s C;generalize l.length=m at*;obtain⟨W,Y,X⟩:=x;simp only at r u y t;go_enter func195,ntmps195;go_wp2_with fail;refine q.out.mono ?_;rintro e L⟨rfl,a⟩;have f:vL L w.1.size 0 0 0:=jN.below o a;have z:=bj i a;have c0:=(a.cell (p:=⟨b,off+k*3,none⟩) M).trans r;have c1:=(a.cell (p:=⟨b,off+k*3+1,none⟩) M).trans u;have c2:=(a.cell (p:=⟨b,off+k*3+2,none⟩) M).trans y;clear o i a q r u y S R O;obtain⟨H,I,J,T,U,V⟩:=f.facts;clear f;go_wp2;exact bodyPost_ret (v:=.tuple #[ki ⟨W,Y,X⟩,.bool true]) (by simp[results,Tryz.results195,go_sem,H,I,J]) rfl ⟨rfl,mU z (qK _) _ _ _⟩
  ·have e:=Z7 s j C O;have c:yZ l h n=⟨0,0,0⟩:=(by unfold yZ;rw[e];rfl);have d:yB l h n=false:=(by unfold yB;rw[e];rfl);rw[c,d];have t:((x.h:Int) != (h:Int))=true:=(by simp;omega);clear N P B j e c d Q s C;generalize l.length=m at*;obtain⟨W,Y,X⟩:=x;simp only at r u y t;go_enter func195,ntmps195;go_wp2_with fail;refine q.out.mono ?_;rintro e L⟨rfl,a⟩;have f:vL L w.1.size 0 0 0:=jN.below o a;have z:=bj i a;have c0:=(a.cell (p:=⟨b,off+k*3,none⟩) M).trans r;clear o i a q r u y S R O;obtain⟨H,I,J,T,U,V⟩:=f.facts;clear f;go_wp2;exact bodyPost_ret (v:=.tuple #[ki ⟨0,0,0⟩,.bool false]) (by simp[results,Tryz.results195,go_sem,H,I,J]) rfl ⟨rfl,mU z (qK _) _ _ _⟩
end
section
open Go.RowKit Go.Shelf
abbrev mtp(g:Nat):Value:=.pointer (some ⟨g,0,none⟩)
def vE(w:World)(base g:Nat)(F:List Nat)(l:List jI):Prop :=
 ∃v,jN w g 168 #[mtp g,v]/\ju w base v l/\(∀k,v.ownBlock=some k->k∈F)/\g∈F/\(∀x∈F,base<=x/\x<w.1.size)/\kY l/\∀x∈l,ks x
def cY(base g:Nat)(F:List Nat)(w:World)(r:Value)(l:List jI)(e:Ending)(w':World):Prop :=
 ∃a,e=.returned r/\vE w' base g a l/\(∀x∈a,x∈F∨w.1.size<=x)/\jP F w w'
section
variable {w w':World}{base g:Nat}{F G:List Nat}{l:List jI}
theorem vE.xC(h:vE w base g F l)(a:jP G w w')(i:∀x∈F,x ∉ G):vE w' base g F l:=by
 obtain⟨v,k,m,c,d,f,o,p⟩:=h;exact⟨v,k.xC a (i g d),cQ m a (fun b q=>i b (c b q)),c,d,fun x j=>⟨(f x j).1,qS (f x j).2 a.size⟩,o,p⟩
theorem vE.below(h:vE w base g F l)(a:Below w.1.size w w'):vE w' base g F l:=h.xC (jP.xA a) (fun _ _=>by simp)
theorem vE.drewN(h:vE w base g F l)(n:Nat):vE (w.drewN n) base g F l:=h.xC ((jP.refl [] w).drewN n) (fun _ _=>by simp)
theorem vE.shape(h:vE w base g F l):∃A c,w.cell? ⟨g,0,none⟩=some (mtp g)/\w.cell? ⟨g,1,none⟩=some (.slice A l.length c)/\w.frozen? ⟨g,1,none⟩=false/\ju w base (.slice A l.length c) l/\g<w.1.size:=by
 obtain⟨v,a,b,d,f,i,j,k⟩:=h;obtain⟨A,c,rfl,-⟩:=vl b;exact⟨A,c,a.cell 0,a.cell 1,a.frozen 1,b,a.lt⟩
end
theorem Uo: (prog.info? 168).map (·.size)=some 2:=by kernel_rfl
theorem R1(d:Nat)(p:Addr)(w:World):(Op.equalIn (d+1) 109 (.pointer (some p)) (.pointer (some p))).run prog w=.ok true w:=by
 cases a:prog.info? 168 with
 | none=>have:=Uo;rw[a]at this;cases this
 | some i =>
   have b:i.size=2:=(by have:=Uo;rw[a]at this;simpa using this);simp[Op.equalIn,run_underlying Tryz.underlying109,sizeOf,typeInfo,a,sameAddr]
theorem R5(p:Addr)(w:World):(binOp .neq 109 (.pointer (some p)) (.pointer (some p))).run prog w=.ok (.bool false) w:=by
 have a:(Op.equal 109 (.pointer (some p)) (.pointer (some p))).run prog w=.ok true w:=R1 9999 p w;simp only[binOp];simp[a]
theorem JG{w:World}{g:Nat}(h:w.cell? ⟨g,0,none⟩=some (mtp g)):Calls prog 119 #[mtp g] w (X0 (.bool false) w):=by
 have a:=R5 ⟨g,0,none⟩;go_enter func119,ntmps119;go_wp2;go_ret;exact⟨rfl,rfl⟩
theorem Uw{w:World}{g n c:Nat}{A:Option Addr}(h:w.cell? ⟨g,0,none⟩=some (mtp g))(b:w.cell? ⟨g,1,none⟩=some (.slice A n c)):Calls prog 110 #[mtp g] w (X0 (.slice A n c) w):=by
 have a:=qQ (JG h);go_enter func110,ntmps110;go_wp2_with fail;refine X5 a.out ?_;go_wp2;go_ret;exact⟨rfl,rfl⟩
theorem R7{w:World}{g base:Nat}{F:List Nat}{l:List jI}(h:vE w base g F l):Calls prog 63 #[mtp g] w (X0 (.int .i64 (l.length:Nat)) w):=by
 obtain⟨A,c,c0,c1,-,-,-⟩:=h.shape;have a:=qQ (Uw c0 c1);clear h c0 c1;generalize l.length=n at*;go_enter func63,ntmps63;go_wp2_with fail;refine X5 a.out ?_;go_wp2;go_ret;exact⟨rfl,rfl⟩
def R8(w:World)(e:Ending)(w':World):Prop:=e=.returned (mtp w.1.size)/\vE w' w.1.size w.1.size [w.1.size] []/\Below w.1.size w w'/\w.1.size<w'.1.size
theorem R9(w:World):Calls prog 193 #[] w (R8 w):=by
 go_enter func193,ntmps193;go_wp2;go_ret;have a:jN (w.alloc (.cells #[mtp w.1.size,.slice none 0 0] 168)) w.1.size 168 #[mtp w.1.size,.slice none 0 0]:=jN.new _ _ _;have c:=(qG w.1.size w).alloc (qK _) (.cells #[mtp w.1.size,.slice none 0 0] 168);exact⟨rfl,⟨.slice none 0 0,a,ju.nil _ _,fun k d=>(by cases d),by simp,fun x b=>by obtain rfl:=qH.1 b;exact⟨qK _,a.lt⟩,List.Pairwise.nil,fun x b=>by cases b⟩,c,a.lt⟩
theorem Rq{w:World}{g base:Nat}{F:List Nat}{l:List jI}(h:vE w base g F l):Calls prog 69 #[mtp g] w (cY base g F w (.tuple #[]) []):=by
 have i:=qQ h;obtain⟨A,c,c0,c1,q,-,-⟩:=h.shape;have o:=qQ (JG c0);clear h;go_enter func69,ntmps69;go_wp2_with fail;refine X5 o.out ?_;go_wp2;go_end0;obtain⟨v,j,r,s,b,d,u,y⟩:=i.out;have f:=j.put 1 (.slice none 0 0);exact⟨F,rfl,⟨.slice none 0 0,f,ju.nil _ _,fun k m=>(by cases m),b,fun x a=>⟨(d x a).1,by simpa[World.setCell] using (d x a).2⟩,List.Pairwise.nil,fun x a=>by cases a⟩,fun x a=>qX a,(jP.refl F w).setCell (p:=⟨g,1,none⟩) (qX b) _⟩
end
section
open Go.RowKit Go.Shelf
theorem Rx{w:World}(a:Addr)(k:Value)(m:List jI)(B:kB w k m)(z:m≠[])(H:m.length<=1000000)(d:TypeId):
  (Builtin.append_ #[112,112] d #[.slice (some a) 0 0,k]).run prog w=(Builtin.append_ #[112,112] d #[.slice none 0 0,k]).run prog w:=by
 have A:0<m.length:=List.length_pos_iff.2 z;obtain⟨i,o,q,r,s⟩:=info_parts Zg;obtain⟨p,C⟩:=B.src;rcases C with⟨c,rfl,f⟩|⟨b,c,rfl,f⟩
 ·omega
 ·have u:=run_append_grow (P:=prog) w 112 d 117 i _ Tryz.underlying112 o q a 0 0 [] (by simp) (fun j v h=>by simp at h) b m.length c (yj m) (by rw[r];exact p) f (by omega) (by omega) (growslice_fits (by omega) (by rw[s];omega));have y:=run_append_nil (P:=prog) w 112 d 117 i _ Tryz.underlying112 o q b m.length c (yj m) (by rw[r];exact p) f A (by omega) (by rw[s];omega);rw[u,y];simp
theorem Rz{w:World}{base:Nat}{f:Value}{m:List jI}(A:Option Addr)(j:kB w f m)(k:m≠[])(i:m.length<=1000000)(o:base<=w.1.size)(d:TypeId):
  ∃b c w',(Builtin.append_ #[112,112] d #[.slice A 0 0,f]).run prog w=.ok (.slice b m.length c) w'/\ju w' base (.slice b m.length c) m/\w.grownBy w' none/\((Value.slice b m.length c).ownBlock=none∨(Value.slice b m.length c).ownBlock=some w.1.size):=by
 have h:=rS (ju.nil w base) j (by simpa using i) o d;simp only[List.length_nil,Nat.zero_add,List.nil_append]at h;cases A with
 | none=>exact h
 | some a =>
   rw[Rx a f m j k i d];exact h
theorem Rj{C:Array Oper}{o:Oper}{a:Act}{w:World}{K:Act->World->Prop}{Q:Exit->Act->World->Prop}{E:Prop}{d:Value}{base:Nat}{A:Option Addr}{m:List jI}(r:o.guard=none)(s x:Operand)
  (v:o.op=.call { callee:=.builtin .append,args:=#[s,x],argTypes:=#[112,112] }) (y:a.eval s=.slice A 0 0) (B:a.eval x=d)
  (z:kB w d m) (p:m≠[]) (u:m.length<=1000000) (q:base<=w.1.size)
  (h:∀b w',ju w' base b m->w.grownBy w' none->(b.ownBlock=(Value.slice none 0 0).ownBlock∨b.ownBlock=some w.1.size)->K (a.put o.dst b) w'):
  if Region.wanted o (yielded C a.tmps)=true then Oper.wp prog o a w K Q else E:=by
 obtain⟨H,c,w',f,i,j,k⟩:=Rz A z p u q o.type;exact Kx r s x _ v y B f (h _ w' i j k)
theorem Rk{w:World}{base n c k:Nat}{A:Option Addr}{l:List jI}(h:ju w base (.slice A n c) l)(i:n=l.length)(v:k<=n):ju w base (.slice A k c) (l.take k)/\sliced A 0 k c 3=.slice A k c/\k<=c:=by
 subst i;have a:(l.take k).length=k:=by rw[qT];omega
 rcases h.2 with⟨d,u⟩|⟨g,s,b,d,m,o,i,p,q,r⟩
 ·obtain⟨rfl,-,rfl⟩:=Value.slice.inj d;obtain rfl:k=0:=by omega
  rw[List.take_zero];exact⟨ju.nil _ _,rfl,qK _⟩
 ·obtain⟨rfl,-,rfl⟩:=Value.slice.inj d;refine⟨⟨?_,qY ⟨g,c,b,by rw[a],m,o,by rw[a];omega,p,q, ?_⟩⟩, ?_,by omega⟩
  ·rw[o6]
  ·have e:yj l=yj (l.take k)++yj (l.drop k):=(by rw[<-UM,qp]);rw[a];have j:b.toList.take (k*3)=(b.toList.take (l.length*3)).take (k*3):=(by rw[List.take_take];congr 1;omega);rw[j,r,e,List.take_left' (by rw[o6,a])]
  ·unfold sliced;by_cases f:c=0
   ·rw[qV f];simp
   ·rw[qZ f];simp[Addr.add]
theorem Ry{n c k:Nat}{A:Option Addr}(b:k<=c)(W:World):(Instr.slice 112 (.slice A n c) (some (.int .i64 (k:Nat))) (some (.int .i64 (k:Nat))) (some (.int .i64 (k:Nat)))).run prog W=.ok (.slice A 0 0) W:=by
 have a:(sizeOf (prog.elem 112)).run prog W=.ok 3 W:=by simp[go_sem]
 rw[run_slice_lhm W _ _ _ c Tryz.underlying112 .i64 .i64 .i64 _ _ _ (by omega) (by omega) (by omega) (by omega),a];show Result.ok (sliced _ _ _ _ _) W=_;rw[qa];unfold sliced;rw[qV rfl,Nat.sub_self]
theorem Ru{n c k:Nat}{A:Option Addr}(b:k<=c)(e:sliced A 0 k c 3=.slice A k c)(W:World):(Instr.slice 112 (.slice A n c) none (some (.int .i64 (k:Nat))) none).run prog W=.ok (.slice A k c) W:=by
 have a:(sizeOf (prog.elem 112)).run prog W=.ok 3 W:=by simp[go_sem]
 rw[run_slice_h W _ _ _ c Tryz.underlying112 .i64 _ (by omega) (by omega),a];show Result.ok (sliced _ _ _ _ _) W=_;rw[qa,e]
theorem JW: (117:TypeId)≠168:=by decide
theorem Rc{w w1 j d:World}{base g n c:Nat}{F:List Nat}{A:Option Addr}{l m:List jI}{x:jI}{a:Value}(h:vE w base g F l)(i:ks x)(M:vp l x=m)
  (U:ju w base (.slice A n c) l) (hF:∀k,(Value.slice A n c).ownBlock=some k->k∈F) (O:jP [] w w1) (H:Below w1.1.size w1 j) (I:j.grownBy d (Value.slice A n c).ownBlock) (L:ju d base a m)
  (S:a.ownBlock=(Value.slice A n c).ownBlock∨a.ownBlock=some j.1.size):cY base g F w (.tuple #[]) m (.returned (.tuple #[])) (d.setCell ⟨g,1,none⟩ a):=by
 obtain⟨v,C,W,X,r,o,Q,R⟩:=h;have P:jP F w j:=(O.trans (jP.xA H) (fun x i=>by cases i)).more (fun x i=>by cases i);have V:jP F w d:=P.grown I (fun k f=>qX (hF k f));have q:jP F w (d.setCell ⟨g,1,none⟩ a):=V.setCell (p:=⟨g,1,none⟩) (qX r) a;have T:(Value.slice A n c).ownBlock≠some g:=vO U C JW;have u:jN j g 168 #[mtp g,v]:=C.xC (O.trans (jP.xA H) (fun x i=>by cases i)) (by simp);have z:jN d g 168 #[mtp g,v]:=(I.block g u.lt (fun e=>T e.symm)).trans u;have B:jN (d.setCell ⟨g,1,none⟩ a) g 168 #[mtp g,a]:=z.put 1 a;have s:ju (d.setCell ⟨g,1,none⟩ a) base a m:=vz L (vO L z JW) a
 have K:∀y∈m,ks y:=fun y b=>by
  rw[<-M]at b;rcases ti b with k|k
  ·exact R y k
  ·rw[k];exact i
 have N:kY m:=by rw[<-M];exact Yn Q x
 have Y:(d.setCell ⟨g,1,none⟩ a).1.size=d.1.size:=by simp[World.setCell]
 rcases S with e|e
 ·exact⟨F,rfl,⟨a,B,s,fun k f=>hF k (by rw[<-e];exact f),r,fun y b=>⟨(o y b).1,qS (o y b).2 q.size⟩,N,K⟩,fun y b=>qX b,q⟩
 ·have J:=s.lt _ e;refine⟨j.1.size::F,rfl,⟨a,B,s,fun k f=>?_,qF _ r,fun y b=>?_,N,K⟩,fun y b=>?_,q⟩
  ·rw[e]at f;injection f with f;rw[<-f];exact qC
  ·rcases qM.1 b with k|k
   ·rw[k];exact⟨J.1,J.2⟩
   ·exact⟨(o y k).1,qS (o y k).2 q.size⟩
  ·rcases qM.1 b with k|k
   ·rw[k];exact qY P.size
   ·exact qX k
end
section
open Go.RowKit Go.Shelf
attribute [local go_sem ↓] Go.wp_at_zero Go.wp_at_succ
theorem Rf{w:World}{base g:Nat}{F:List Nat}{l:List jI}{x:jI}(h:vE w base g F l)(u:ks x)(hn:l.length<=100000)(ai:x ∉ l):
  Calls prog 207 #[mtp g,.int .i64 (vP l x:Nat),ki x] w (cY base g F w (.tuple #[]) (vp l x)):=by
 have HT:=qQ h;obtain⟨v,K,i,S,T,U,h6,h7⟩:=h;obtain⟨A,c,rfl,ar,av,-,-⟩:=vl i;have X:=Z1 l x;obtain⟨n,r⟩:∃n,n=l.length:=⟨_,rfl⟩
 obtain⟨k,V⟩:∃k,k=vP l x:=⟨_,rfl⟩
 have HL:=qQ (RU ai);rw[<-V]at X HL ⊢;rw[<-r]at X ar K i S hn;have ag:kB w (.slice A n c) l:=by rw[r]at i ⊢;exact ju.xH i
 obtain⟨rt,rs,rk⟩:=Rk i r X;have f:vL (w.alloc (.cells #[.int .u64 (x.h:Nat),.int .i64 x.v,.int .i64 x.p] 117)) w.1.size x.h x.v x.p:=jN.new _ _ _;have o:jP [] w (w.alloc (.cells #[.int .u64 (x.h:Nat),.int .i64 x.v,.int .i64 x.p] 117)):=(jP.refl [] w).alloc _;obtain⟨B,hB⟩:∃B,w.1.size=B:=⟨_,rfl⟩
 rw[hB]at f;obtain⟨b,au⟩:∃b,w.alloc (.cells #[.int .u64 (x.h:Nat),.int .i64 x.v,.int .i64 x.p] 117)=b:=⟨_,rfl⟩
 rw[au]at f o;have ah:kB b (.slice A n c) l:=ag.below (B:=w.1.size) (o.below (qK _) (fun x u=>by cases u)) (qK _);have I:jN b g 168 #[mtp g,.slice A n c]:=K.xC o (by simp);obtain⟨A2,c2,q2,Z⟩:=UR ah (k:=k) (by omega);have q1:=Ry (A:=A) (n:=n) rk;have q3:=Ru (A:=A) (n:=n) rk rs;rw[<-r]at q2 Z;have HP:=qQ Z
 have HS:Hid (∀W,Below b.1.size b W->Below b.1.size b W/\W.cell? ⟨g,1,none⟩=some (.slice A n c)/\W.cell? ⟨B,0,none⟩=some (.int .u64 (x.h:Nat))/\W.cell? ⟨B,1,none⟩=some (.int .i64 x.v)/\W.cell? ⟨B,2,none⟩=some (.int .i64 x.p)):=qQ fun W q =>
  ⟨q,(q.cell (p:=⟨g,1,none⟩) I.lt).trans (I.cell 1),(q.cell (p:=⟨B,0,none⟩) f.lt).trans (f.cell 0),(q.cell (p:=⟨B,1,none⟩) f.lt).trans (f.cell 1),(q.cell (p:=⟨B,2,none⟩) f.lt).trans (f.cell 2)⟩
 have aa:Hid (∀W,Below b.1.size b W->b.1.size<=W.1.size):=qQ fun W q=>q.size
 have HD:Hid ((l.drop k).length<=100000):=qQ (by rw[qw,<-r];omega)
 have ak:Hid (∀d j y,Below b.1.size b d->d.grownBy j (Value.slice A n c).ownBlock->ju j base y (l.take k++([x]++l.drop k))->(y.ownBlock=(Value.slice A n c).ownBlock∨y.ownBlock=some d.1.size)->cY base g F w (.tuple #[]) (vp l x) (.returned (.tuple #[])) (j.setCell ⟨g,1,none⟩ y)) :=
  qQ fun d j y a1 a2 a3 a4=>Rc HT.out u rfl i S o a1 a2 (by rw[HL.out];exact a3) a4
 have HG:Hid (∀d,Below b.1.size b d->jN d g 168 #[mtp g,.slice A n c]/\ju d base (.slice A k c) (l.take k)/\base<=d.1.size):=qQ fun d a=>by
  have af:Below w.1.size w d:=(o.below (qK _) (fun x u=>by cases u)).trans (a.mono o.size);exact⟨I.xC (jP.xA a) (by simp),ju.below rt af (qK _),qR (U g T).1 (qR (Nat.le_of_lt (U g T).2) af.size)⟩
 have an:Hid ((Value.slice A k c).ownBlock=(Value.slice A n c).ownBlock):=qQ (by cases A<;>rfl);have am:Hid ((Value.slice A n c).ownBlock≠some g):=qQ (vO i K JW);have ao:Hid ((l.take k).length=k):=qQ (by rw[qT];omega);obtain⟨-,s0,s1,s2,s3⟩:=HS.out b (qG _ _);have aw:∀H:World,H=b->H=b:=fun _ h=>h
 clear K i S T U h6 h7 ag rt rs o ah I f Z HT ai;have HN:=qQ r;have HK:=qQ V;clear r V;generalize vp l x=R at*;go_enter func207,ntmps207;go_wp2_with fail
 go_region_held_law (fun W=>Below b.1.size b W/\W.cell? ⟨g,1,none⟩=some (.slice A n c)/\W.cell? ⟨B,0,none⟩=some (.int .u64 (x.h:Nat))/\W.cell? ⟨B,1,none⟩=some (.int .i64 x.v)/\W.cell? ⟨B,2,none⟩=some (.int .i64 x.p))
  (first|(with_reducible assumption)|((with_reducible refine HS.out _ ?_);(repeat' (first|(with_reducible assumption)|(with_reducible exact qG _ _)|(with_reducible refine Below.drew ?_)|(with_reducible refine QB ?_ _)|exact And.left (by with_reducible assumption)));done)|fail)
  (first
  | (refine Rj (A:=A) (m:=[x]) (base:=b.1.size) (by rfl) _ _ (by rfl) (by rfl) (by rfl) (UN _ x) (by simp) (by simp) (aa.out _ (by first|(with_reducible exact And.left (by with_reducible assumption))|(refine QB ?_ _;exact And.left (by with_reducible assumption)))) ?_;intro v1 V1 aj ad ab;have P:∀z,v1.ownBlock=some z->b.1.size<=z:=Ux (by first|(with_reducible exact And.left (by with_reducible assumption))|(refine QB ?_ _;exact And.left (by with_reducible assumption))) Uq ab;have s:Below b.1.size b V1:=U9 (by first|(with_reducible exact And.left (by with_reducible assumption))|(refine QB ?_ _;exact And.left (by with_reducible assumption))) ad Uq)
  | (refine Ph (l:=[x]) (m:=l.drop k) (by rfl) _ _ (by rfl) (by rfl) (by rfl) aj (HP.out _ _ (qK _) s) (by have:=HD.out;simp only[List.length_cons,List.length_nil];omega) (aa.out _ s) ?_;intro v2 d Y ae ac;have ap:∀z,v2.ownBlock=some z->b.1.size<=z:=Ux s P ac;have L:Below b.1.size b d:=U9 s ae P)
  | fail)
 all_goals
  clear ad ab P s aj ae ac ap;obtain⟨J,rT,aq⟩:=HG.out d L;obtain⟨A3,c3,j,e1,e2,C,O⟩:=rS rT (ju.xH Y) (by have:=HD.out;have:=ao.out;simp only[List.length_append,List.length_cons,List.length_nil];omega) aq 112;rw[an.out]at C O;have Q:jN j g 168 #[mtp g,.slice A n c]:=(C.block g J.lt (fun e=>am.out e.symm)).trans J;have al:=qQ (ak.out d j _ L C e2 O);have k1:=Q.cell 1;have f1:=Q.frozen 1;have k2:=J.cell 1;have HE:=qQ e1;obtain⟨A4,c4,rfl,-⟩:=ju.shape Y;clear e1 e2 C O Q J rT Y L;generalize (l.take k).length+([x]++l.drop k).length=N at*;generalize ([x]++l.drop k).length=M at*;go_wp2_with (first|(at_builtin;refine yC rfl _ _ rfl rfl rfl HE.out ?_)|fail);go_end0;exact al.out
end
section
open Go.RowKit Go.Shelf
theorem Rh: Enters prog 206:=enters_of func206 (by kernel_rfl) rfl
def nB(W:World)(B1 B2 g b p:Nat)(v:Value)(x y:jI):Prop:=W.cell? ⟨B1,0,none⟩=some (mtp g)/\W.cell? ⟨g,1,none⟩=some v /\
 W.cell? ⟨B2,0,none⟩=some (.int .u64 (x.h:Nat))/\W.cell? ⟨B2,1,none⟩=some (.int .i64 x.v)/\W.cell? ⟨B2,2,none⟩=some (.int .i64 x.p) /\
 W.cell? ⟨b,p,none⟩=some (.int .u64 (y.h:Nat))/\W.cell? ⟨b,p+1,none⟩=some (.int .i64 y.v)/\W.cell? ⟨b,p+2,none⟩=some (.int .i64 y.p)
theorem nB.below{W a:World}{B1 B2 g b p:Nat}{v:Value}{x y:jI}(h:nB W B1 B2 g b p v x y)(s:Below W.1.size W a):nB a B1 B2 g b p v x y:=by
 have q:∀ {p:Addr} {u:Value},W.cell? p=some u->a.cell? p=some u:=fun {p u} k=>(s.cell (p:=p) (World.block_lt_of_cell? W _ k)).trans k
 obtain⟨c,d,f,i,j,m,o,r⟩:=h;exact⟨q c,q d,q f,q i,q j,q m,q o,q r⟩
theorem Rl(B1 B2 g b off n c i:Nat)(x y:jI)(w:World)(hi:i<n)(L:n<=1000000)(j:nB w B1 B2 g b (off+i*3) (.slice (some ⟨b,off,none⟩) n c) x y):
  Calls prog 206 #[i,mtp B1,mtp B2] w (X3 (.bool (!jm y x)) w):=by
 have a:Hid (∀W,Below w.1.size w W->Below w.1.size w W/\nB W B1 B2 g b (off+i*3) (.slice (some ⟨b,off,none⟩) n c) x y):=qQ fun W k=>⟨k,j.below k⟩
 have f:=fun W=>oT y x W
 have d:=a.out w (qG _ _);have M:(i:Int)<(n:Int):=by omega
 have N:(n:Int)<=1000000:=by omega
 clear j;generalize jm y x=r at*;have m:=qQ f;clear f;obtain⟨s,v,u⟩:=x;obtain⟨z,B,A⟩:=y;unfold nB at a d;simp only at a d;obtain⟨-,c0,c1,c2,C,H,I,J,K⟩:=d;go_enter func206,ntmps206;go_wp2_with fail
 go_region_held3 (fun W=>Below w.1.size w W/\W.cell? ⟨B1,0,none⟩=some (mtp g)/\W.cell? ⟨g,1,none⟩=some (.slice (some ⟨b,off,none⟩) n c) /\
  W.cell? ⟨B2,0,none⟩=some (.int .u64 (s:Nat))/\W.cell? ⟨B2,1,none⟩=some (.int .i64 v)/\W.cell? ⟨B2,2,none⟩=some (.int .i64 u) /\
  W.cell? ⟨b,off+i*3,none⟩=some (.int .u64 (z:Nat))/\W.cell? ⟨b,off+i*3+1,none⟩=some (.int .i64 B)/\W.cell? ⟨b,off+i*3+2,none⟩=some (.int .i64 A))
  (first|(with_reducible assumption)|((with_reducible refine a.out _ ?_);(first|(with_reducible assumption)|(with_reducible exact qG _ _)|(with_reducible exact(qG _ _).drew)|exact(bj (And.left (by with_reducible assumption)) ‹Below _ _ _›));done)|fail)
  (first
  | (go_at_call 172;((with_reducible refine(m.out _).mono ?_);rintro e q⟨rfl,p⟩;have o:Below w.1.size w q:=bj (And.left (by with_reducible assumption)) p))
  | fail)
 all_goals
  go_wp2;go_ret;exact⟨rfl,o⟩
end
end Go.Proofs.YthejglbnkmimjaaGreat
