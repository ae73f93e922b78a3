import Derived.Test.YthejglbnkmimjaaGreatPp04
import Derived.Deep.CutBlock
import Derived.Deep.DeepCutAuto
import Derived.Deep.DrawnRows
import Derived.Deep.RegionHeldLaw
set_option linter.unusedVariables false
set_option maxRecDepth 100000
set_option maxHeartbeats 9000000
namespace Go.Proofs.YthejglbnkmimjaaGreat
open Tryz
section
open Go.RowKit Go.Shelf
attribute [local go_sem ↓] Go.wp_at_zero Go.wp_at_succ
def oF(w:World)(l:List kL)(e:Ending)(w':World):Prop:=∃A c,e = .returned (.slice A l.length c)/\vC w' w.heap.size (.slice A l.length c) l/\Below w.heap.size w w'
theorem Bo{w:World}{base k:Nat}{v:Value}{l:List zn}{x:zn}(i:vC w base v (vD l k))(a:l[k]? = some x)(f:gI l.length k=true)(t:l.length<=10000)(o:base<=w.heap.size)(j:TypeId){g:Nat}(q:w.heap.size=g):
  ∃w' u,(Builtin.append_ #[234,234] j #[v,.slice (some ⟨g,0,none⟩) 1 1]).run prog (w.alloc (.cells #[.int .u64 (x.h:Nat),.int .i64 x.v,.int .i64 x.p,.int .i64 (k:Nat)] 304)) = .ok u w' /\
   (∃A c,u = .slice A (vD l (k+1)).length c/\vC w' base (.slice A (vD l (k+1)).length c) (vD l (k+1)))/\Below base w w':=by
 subst q;have r:k<l.length:=(qM.1 a).1;have s:=sC l k;have h:=BE (vC.alloc i (.cells #[.int .u64 (x.h:Nat),.int .i64 x.v,.int .i64 x.p,.int .i64 (k:Nat)] 304)) (BD w ⟨x,(k:Nat)⟩) (by simp;omega) (by simp;omega) j;rw[<-oB a f]at h;obtain⟨A,c,w',b,d,m,-⟩:=h;have n:(vD l k).length+[(⟨x,(k:Nat)⟩:kL)].length=(vD l (k+1)).length:=by rw[oB a f,qI]
 rw[n]at b d;refine⟨w',_,b,⟨A,c,rfl,d⟩, ?_⟩;exact((Below.refl base w).alloc o _).trans (mT m (by simp;omega) (vC.block i))
theorem Bw(v:Value)(l:List zn)(w:World)(T:jb w v l)(U:l.length<=10000):
  Calls prog 233 #[v] w (oF w (jw l)):=by
 obtain⟨A0,off,ad,rfl,-,S⟩:=T.form;have HC:=qQ S;have f:=qQ (show oF w (jw l)=oF w (vD l l.length) from rfl);generalize jw l=R at*;obtain⟨n,O⟩:∃n,n=l.length:=⟨_,rfl⟩
 have H:=qQ O;rw[<-O]at U f ⊢;clear T S O;go_enter func233,ntmps233;go_wp2;go_loopw [3,8] (fun u i wr=>∃k:Nat,k<=n/\i = .int .i64 k/\(∃A c,u = .slice A (vD l k).length c/\vC wr w.heap.size (.slice A (vD l k).length c) (vD l k))/\Below w.heap.size w wr) (fun _ i _=>n-(intOf i).toNat)
 case atStart=>exact⟨0,qH _,rfl,⟨none,0,rfl,vC.nil _ _⟩,Below.refl _ _⟩
 case round =>
  obtain⟨k,hk,rfl,⟨C,c1,rfl,m⟩,a⟩:=hrel;by_cases ac:k<n
  ·have s1:(k:Int)<(n:Int):=(by omega);obtain⟨x,r⟩:∃x,l[k]? = some x:=⟨_,qD (by rw[<-H.out];omega)⟩
   obtain⟨I,rfl,N,y,z,B⟩:=HC.out k x r;have V:=(a.cell (p:=⟨I,off+k*3,none⟩) N).trans y;have W:=(a.cell (p:=⟨I,off+k*3+1,none⟩) N).trans z;have X:=(a.cell (p:=⟨I,off+k*3+2,none⟩) N).trans B;have o:=vC.alloc m (.cells #[.int .u64 (x.h:Nat),.int .i64 x.v,.int .i64 x.p] 117);have j:=a.alloc a.size (.cells #[.int .u64 (x.h:Nat),.int .i64 x.v,.int .i64 x.p] 117);have e9:IntKind.i64.wrap ((n:Int)-1)=(n:Int)-1:=IntWalk.i64_in _ ⟨by omega,by omega⟩;have t:=qQ (Xo (l:=l) (k:=k));have b:gI l.length k=(decide (k%8=0)||decide (k+1=n)):=(by rw[H.out];rfl);cases d:gI l.length k
   ·have Y:((k:Int)%8==0)=false:=by
     rw[d]at b;have:=(Bool.or_eq_false_iff.1 b.symm).1;have:=of_decide_eq_false this;exact qy.2 (by omega)
    have t2:((k:Int)==(n:Int)-1)=false:=by
     rw[d]at b;have:=(Bool.or_eq_false_iff.1 b.symm).2;have:=of_decide_eq_false this;exact qy.2 (by omega)
    have aa:=qQ (t.out d);have ab:=qQ o;have Z:=qQ j;have HB:=qQ a;generalize vD l k=L at*;clear r y z B m o a j b d t f;obtain⟨xh,xv,xp⟩:=x;simp only at V W X;go_wp2;go_roundw
    case rel=>exact⟨k+1,by omega,by go_num,by rw[aa.out];exact⟨C,c1,rfl,ab.out⟩,Z.out⟩
    case measure=>simp[intOf];omega
   ·obtain⟨w',u,J,K,M⟩:=Bo o r d (by rw[<-H.out];exact U) j.size 234 (g:=wr.heap.size+1) (by simp);have D:=qQ J;have s:=qQ K;have Q:=qQ (j.trans M);rw[d]at b;have P:=Bool.or_eq_true_iff.1 b.symm;obtain⟨xh,xv,xp⟩:=x;simp only at V W X D;generalize (vD l k).length=ll at*;by_cases h8:k%8=0
    ·have Y:((k:Int)%8==0)=true:=beq_iff_eq.2 (by omega);clear r y z B m o a j b d t f J K M P;go_wp2_with (first | (at_builtin;refine yc rfl _ _ rfl rfl rfl D.out ?_) | fail);go_roundw
     case rel=>exact⟨k+1,by omega,by go_num,s.out,Q.out⟩
     case measure=>simp[intOf];omega
    ·have Y:((k:Int)%8==0)=false:=qy.2 (by omega)
     have t2:((k:Int)==(n:Int)-1)=true:=by
      rcases P with q|q
      ·exact absurd (of_decide_eq_true q) h8
      ·have:=of_decide_eq_true q;exact beq_iff_eq.2 (by omega)
     clear r y z B m o a j b d t f J K M P;go_wp2_with (first | (at_builtin;refine yc rfl _ _ rfl rfl rfl D.out ?_) | fail);go_roundw
     case rel=>exact⟨k+1,by omega,by go_num,s.out,Q.out⟩
     case measure=>simp[intOf];omega
  ·obtain rfl:k=n:=(by omega);have s1:¬(k:Int)<(k:Int):=(by omega);have s:=qQ (show oF w R (.returned (.slice C (vD l k).length c1)) wr by rw[f.out];exact⟨C,c1,rfl,m,a⟩);clear ac m f;generalize vD l k=L at*;go_wp2;go_ret;exact s.out
end
section
open Go.RowKit Go.Shelf
attribute [local go_sem ↓] Go.wp_at_zero Go.wp_at_succ
def sM(r:Int × Int)(w:World)(e:Ending)(w':World):Prop:=e = .returned (.tuple #[.int .i64 r.1,.int .i64 r.2])/\Below w.heap.size w w'
theorem CQ(lo hi many a p b q:Int)(c:(if 0>lo then 0 else lo)=a)(d:(if many<a then many else a)=p)(f:(if p>hi then p else hi)=b)(i:(if many<b then many else b)=q):bX lo hi many=(p,q):=by
 unfold bX;refine Prod.ext ?_ ?_<;>simp only<;>subst i f d c<;>(repeat' split)<;>omega
theorem ZH(lo hi many:Int)(w:World):
  Calls prog 260 #[.int .i64 lo,.int .i64 hi,.int .i64 many] w (sM (bX lo hi many) w):=by
 obtain⟨a,c⟩:∃a:Int,(if 0>lo then 0 else lo)=a:=⟨_,rfl⟩
 obtain⟨p,d⟩:∃p:Int,(if many<a then many else a)=p:=⟨_,rfl⟩
 obtain⟨b,f⟩:∃b:Int,(if p>hi then p else hi)=b:=⟨_,rfl⟩
 obtain⟨q,i⟩:∃q:Int,(if many<b then many else b)=q:=⟨_,rfl⟩
 rw[CQ lo hi many a p b q c d f i];go_enter func260,ntmps260;go_wp2;go_ret2;exact⟨rfl,Below.refl _ _⟩
def lQ(x:zn)(m:List kL)(many:Int):Int × Int:=bX (gZ x m 0 (max many 0)).1 (gZ x m 0 (max many 0)).2 (max many 0)
theorem CX(v:Value)(m:List kL)(many:Int)(x:zn)(w:World)(hm:uG w v m)(hn:m.length<=1000000):
  Calls prog 222 #[v,.int .i64 many,ji x] w (sM (lQ x m many) w):=by
 obtain⟨A0,off,ak,rfl,ai,ac⟩:=hm.form;have HC:=qQ ac;obtain⟨n,aa⟩:∃n,n=m.length:=⟨_,rfl⟩
 have K:=qQ aa;obtain⟨a,aj⟩:∃a,(if 0>many then 0 else many)=a:=⟨_,rfl⟩
 have ab:max many 0=a:=by subst aj;split<;>omega
 have S:=qQ (show lQ x m many=bX (gZ x m 0 a).1 (gZ x m 0 a).2 a by unfold lQ;rw[ab]);generalize lQ x m many=R at*;rw[<-aa]at hn ⊢;clear ai;have V:=(Below.refl w.heap.size w).alloc (qZ _) (.cells #[.int .u64 (x.h:Nat),.int .i64 x.v,.int .i64 x.p] 117);have d:=za.new w 117 #[.int .u64 (x.h:Nat),.int .i64 x.v,.int .i64 x.p];obtain⟨f,ae⟩:∃f,w.alloc (.cells #[.int .u64 (x.h:Nat),.int .i64 x.v,.int .i64 x.p] 117)=f:=⟨_,rfl⟩
 obtain⟨B,hB⟩:∃B,w.heap.size=B:=⟨_,rfl⟩
 rw[ae]at V d;rw[hB]at d;have P:=qQ V
 have Q:=qQ (show ∀W,Below f.heap.size f W->W.cell? ⟨B,0,none⟩=some (.int .u64 (x.h:Nat))/\W.cell? ⟨B,1,none⟩=some (.int .i64 x.v)/\W.cell? ⟨B,2,none⟩=some (.int .i64 x.p) from fun W u =>
  ⟨(u.cell (p:=⟨B,0,none⟩) d.lt).trans (d.cell 0),(u.cell (p:=⟨B,1,none⟩) d.lt).trans (d.cell 1),(u.cell (p:=⟨B,2,none⟩) d.lt).trans (d.cell 2)⟩)
 have af:=qQ (show ∀W,Below f.heap.size f W->∀i y,m[i]? = some y->∃b,A0=some ⟨b,off,none⟩/\W.cell? ⟨b,off+i*4,none⟩=some (.int .u64 (y.e.h:Nat))/\W.cell? ⟨b,off+i*4+1,none⟩=some (.int .i64 y.e.v)/\W.cell? ⟨b,off+i*4+2,none⟩=some (.int .i64 y.e.p)/\W.cell? ⟨b,off+i*4+3,none⟩=some (.int .i64 y.k) from fun W u i y C=>by
  obtain⟨b,e,N,c0,c1,c2,L⟩:=HC.out i y C;have M:=bj P.out u;exact⟨b,e,(M.cell (p:=⟨b,off+i*4,none⟩) N).trans c0,(M.cell (p:=⟨b,off+i*4+1,none⟩) N).trans c1,(M.cell (p:=⟨b,off+i*4+2,none⟩) N).trans c2,(M.cell (p:=⟨b,off+i*4+3,none⟩) N).trans L⟩)
 clear hm ac aa HC ab V d;obtain⟨D,I,H⟩:=x;simp only at ae Q S;go_enter func222,ntmps222;go_wp2;go_step3;go_wp2;go_step3;go_wp2;go_loopw [6,7,15] (fun lo hi i wr=>∃(k:Nat) (z:Int),k<=n/\i = .int .i64 k/\lo = .int .i64 z/\hi = .int .i64 a/\gZ ⟨D,I,H⟩ m 0 a=gZ ⟨D,I,H⟩ (m.drop k) z a/\Below f.heap.size f wr) (fun _ _ i _=>n-(intOf i).toNat)
 case atStart=>exact⟨0,0,qH _,rfl,rfl,rfl,rfl,Below.refl _ _⟩
 case round =>
  obtain⟨k,z,hk,rfl,rfl,rfl,ad,s⟩:=hrel;have T:=qQ ad;clear ad;by_cases ah:k<n
  ·have s1:(k:Int)<(n:Int):=(by omega);obtain⟨y,C⟩:∃y,m[k]? = some y:=⟨_,qD (by rw[<-K.out];omega)⟩
   obtain⟨b,rfl,c0,c1,c2,L⟩:=af.out wr s k y C
   have hd:m.drop k=y::m.drop (k+1):=by
    rw[List.drop_eq_getElem_cons (by rw[<-K.out];omega)];have:=qD (l:=m) (i:=k) (by rw[<-K.out];omega);rw[C]at this;rw[<-qv this]
   have c:gZ ⟨D,I,H⟩ (m.drop k) z a=_:=rfl;rw[hd]at c
   conv at c=>rhs;rw[gZ]
   rw[<-hd]at c;have X:=s.alloc s.size (.cells #[.int .u64 (y.e.h:Nat),.int .i64 y.e.v,.int .i64 y.e.p,.int .i64 y.k] 304);have O:=za.new wr 304 #[.int .u64 (y.e.h:Nat),.int .i64 y.e.v,.int .i64 y.e.p,.int .i64 y.k];have r:=qQ fun W=>fo y.e ⟨D,I,H⟩ W
   clear C hd;have j:=qQ X;have J:=qQ O;obtain⟨q,hq⟩:∃q,IntKind.i64.wrap (y.k+1)=q:=⟨_,rfl⟩
   rw[hq]at c;cases o:jE y.e ⟨D,I,H⟩
   ·rw[o,qJ (by decide)]at c;rw[o]at r;have t:=qQ (show R=bX z y.k a by rw[S.out,T.out,c]);have U:=qQ fun W=>ZH z y.k a W
    clear c o X O s;generalize bX z y.k a=RR at*;obtain⟨⟨yh,yv,yp⟩,yk⟩:=y;simp only at c0 c1 c2 L hq r j J;obtain⟨a0,a1,a2⟩:=Q.out _ j.out;go_wp2_with fail;refine(r.out _).mono ?_;rintro e w3⟨rfl,A⟩;have ag:=((J.out).qa (ze.qm A) (by simp)).cell 3;have Y:=bj j.out A;go_wp2_with fail;refine(U.out _).mono ?_;rintro e w4⟨rfl,Z⟩;go_wp2;go_ret2;exact⟨by rw[t.out];rfl,bj (bj P.out Y) Z⟩
   ·rw[o,qK rfl]at c;rw[o]at r;have t:=qQ (T.out.trans c);clear c o X O s;obtain⟨⟨yh,yv,yp⟩,yk⟩:=y;simp only at c0 c1 c2 L hq r j J;obtain⟨a0,a1,a2⟩:=Q.out _ j.out;go_wp2_with fail;refine(r.out _).mono ?_;rintro e w3⟨rfl,A⟩;have ag:=((J.out).qa (ze.qm A) (by simp)).cell 3;have Y:=bj j.out A;go_wp2;go_roundw
    case rel=>exact⟨k+1,q,by omega,by go_num,rfl,rfl,t.out,Y⟩
    case measure=>simp[intOf];omega
  ·obtain rfl:k=n:=(by omega);have s1:¬(k:Int)<(k:Int):=(by omega);have c:=T.out;rw[List.drop_of_length_le (by rw[<-K.out];exact qZ _),gZ]at c;have t:=qQ (show R=bX z a a by rw[S.out,c]);have U:=qQ fun W=>ZH z a a W
   clear c ah;generalize bX z a a=RR at*;go_wp2_with fail;refine(U.out _).mono ?_;rintro e w4⟨rfl,Z⟩;go_wp2;go_ret2;exact⟨by rw[t.out];rfl,bj (bj P.out s) Z⟩
end
section
open Go.RowKit Go.Shelf
attribute [local go_sem ↓] Go.wp_at_zero Go.wp_at_succ
structure oH(l:List zn)(x:zn)(lo hi:Nat):Prop where
 own:lQ x (jw l) (l.length:Nat)=((lo:Int),(hi:Int))
 ref:∃c,oC x (jw l) c/\loM (jw l) c=(lo:Int)/\hiM (jw l) c (l.length:Nat)=(hi:Int)
 zA:lo<=l.countP (fun y=>jE y x)
 zK:l.countP (fun y=>jE y x)<=hi
 top:hi<=l.length
 gap:hi<=lo+7
theorem sN{l:List zn}(h:jj l)(n:l.length<=1000000)(x:zn):∃lo hi,oH l x lo hi:=by
 obtain⟨lo,hi,a,b,f,i,j,k⟩:=BM (e:=x) h;have c:=BI (e:=x) h;refine⟨lo,hi, ?_,⟨_,c,a,b⟩,f,i,j,k⟩;have m:max ((l.length:Nat):Int) 0=(l.length:Nat):=by omega
 unfold lQ;rw[m,ZQ c (fun y o=>(BN n y o).1)]
 have e:(if yr l.length (l.countP fun y=>jE y x)=0 then 0 else loM (jw l) (yr l.length (l.countP fun y=>jE y x)))=(lo:Int):=by
  rw[<-a];split
  ·rename_i d;rw[d];rfl
  ·rfl
 rw[e,b];exact BF (by simp only;omega) (by simp only;omega) (by simp only;omega)
theorem oH.run{l:List zn}{x:zn}{lo hi:Nat}(h:oH l x lo hi){w:World}{v:Value}(a:uG w v (jw l))(b:l.length<=1000000):
  Calls prog 222 #[v,.int .i64 (l.length:Nat),ji x] w (sM ((lo:Int),(hi:Int)) w):=by
 rw[<-h.own];have:=sC l l.length;exact CX v _ _ x w a (by unfold jw;omega)
end
section
open Go.RowKit
def bq(m:Option zn):List zn->Option zn
 | []=>m
 | x::_=>match m with
   | none=>some x
   | some y=>if jE x y=true then some x else some y
def vz(L:List (List zn)):Option zn:=L.foldl bq none
def vj(e:zn)(l:List zn):List zn:=l.dropWhile (fun x=>decide (x=e))
def ub(a:List zn)(e:zn):List zn:=if a.getLast? = some e then a else a++[e]
def kJ(L:List (List zn)):Nat:=(L.map List.length).sum
def vd: Nat->List zn->List (List zn)->List zn
 | 0,a,_=>a
 | n+1,a,L=>match vz L with
   | none=>a
   | some e=>vd n (ub a e) (L.map (vj e))
def mrg(a:List zn)(L:List (List zn)):List zn:=vd (kJ L) a L
def bx(L:List (List zn)):List zn:=mrg [] L
theorem sO{L:List (List zn)}{i:Nat}{l:List zn}(h:L[i]? = some l):vz (L.take (i+1))=bq (vz (L.take i)) l:=by
 unfold vz;rw[List.take_add_one,h,List.foldl_append];rfl
theorem sP: ∀(L:List (List zn)) (m:Option zn),L.foldl bq m=none↔m=none/\∀l∈L,l=[]
 | [],m=>by simp
 | []::L,m=>by
   rw[List.foldl_cons,sP L];simp[bq]
 | (x::t)::L,m=>by
   rw[List.foldl_cons,sP L];constructor
   ·rintro ⟨h,_⟩;cases m with
    | none=>cases h
    | some y =>
      simp only[bq]at h;split at h<;>cases h
   ·rintro ⟨_,h⟩;have:=h (x::t) qB;cases this
theorem oI{L:List (List zn)}:vz L=none↔∀l∈L,l=[]:=by
 unfold vz;rw[sP];simp
theorem CZ{x y e:zn}(h:jE x y=false)(k:jE y e=false):jE x e=false:=by
 cases c:jE x e with
 | false=>rfl
 | true =>
   by_cases a:y=e
   ·subst a;rw[c]at h;cases h
   ·have:=dU c (rp k a);rw[this]at h;cases h
theorem oL: ∀(L:List (List zn)) (m:Option zn) (e:zn),L.foldl bq m=some e ->
  (m=some e∨∃l∈L,∃t,l=e::t)/\(∀y,m=some y->jE y e=false)/\∀l∈L,∀x t,l=x::t->jE x e=false
 | [],m,e,h=>by
   have r:m=some e:=h;subst r;exact⟨qX rfl,fun y q=>by cases q;exact mP _,fun l b=>by cases b⟩
 | []::L,m,e,h=>by
   rw[List.foldl_cons]at h;obtain⟨a,f,n⟩:=oL L m e h;refine⟨?_,f,fun l b x t j=>?_⟩
   ·rcases a with a|⟨l,b,t,p⟩
    ·exact qX a
    ·exact qY ⟨l,qF _ b,t,p⟩
   ·rcases qL.1 b with rfl|b
    ·cases j
    ·exact n l b x t j
 | (x::t)::L,m,e,h=>by
   rw[List.foldl_cons]at h;obtain⟨a,f,n⟩:=oL L _ e h
   have j:jE x e=false/\(∀y,m=some y->jE y e=false)/\(m=some e∨∃l∈(x::t)::L,∃t,l=e::t):=by
    have k:(∃l∈L,∃t,l=e::t)->∃l∈(x::t)::L,∃t,l=e::t:=fun⟨l,b,s,p⟩=>⟨l,qF _ b,s,p⟩
    cases m with
    | none =>
      refine⟨f x rfl,fun y q=>(by cases q), ?_⟩;rcases a with a|a
      ·have:x=e:=qv a;subst this;exact qY ⟨_,qB,t,rfl⟩
      ·exact qY (k a)
    | some y =>
      cases c:jE x y with
      | true =>
        have o:bq (some y) (x::t)=some x:=(by unfold bq;simp only;rw[qK c]);rw[o]at a f;refine⟨f x rfl,fun z i=>?_, ?_⟩
        ·cases i;cases d:jE y e with
         | false=>rfl
         | true=>have:=dU c d;rw[f x rfl]at this;cases this
        ·rcases a with a|a
         ·have:x=e:=qv a;subst this;exact qY ⟨_,qB,t,rfl⟩
         ·exact qY (k a)
      | false =>
        have o:bq (some y) (x::t)=some y:=(by unfold bq;simp only;rw[qJ (by rw[c];decide)]);rw[o]at a f;refine⟨CZ c (f y rfl),fun z i=>by cases i;exact f y rfl, ?_⟩;rcases a with a|a
        ·exact qX a
        ·exact qY (k a)
   refine⟨j.2.2,j.2.1,fun l b z u i=>?_⟩;rcases qL.1 b with rfl|b
   ·injection i with i;rw[<-i];exact j.1
   ·exact n l b z u i
theorem dA{L:List (List zn)}{e:zn}(h:vz L=some e):∃l∈L,∃t,l=e::t:=by
 rcases(oL L none e h).1 with h|h
 ·cases h
 ·exact h
theorem CJ{L:List (List zn)}{e:zn}(h:vz L=some e):∀l∈L,∀x t,l=x::t->jE x e=false:=(oL L none e h).2.2
theorem sR(e:zn)(l:List zn):(vj e l).length<=l.length:=(List.dropWhile_sublist _).length_le
theorem oM(e:zn)(t:List zn):vj e (e::t)=vj e t:=by unfold vj;rw[List.dropWhile_cons,qK (by simp)]
theorem sS{e x:zn}(h:x≠e)(t:List zn):vj e (x::t)=x::t:=by unfold vj;rw[List.dropWhile_cons,qJ (by simpa using h)]
theorem uc(l:List zn)(L:List (List zn)):kJ (l::L)=l.length+kJ L:=by unfold kJ;simp
theorem ZI(e:zn):∀L:List (List zn),kJ (L.map (vj e))<=kJ L
 | []=>qZ _
 | l::L=>by
   rw[List.map_cons,uc,uc];have:=ZI e L;have:=sR e l;omega
theorem mj(e:zn):∀L:List (List zn),(∃l∈L,∃t,l=e::t)->kJ (L.map (vj e))<kJ L
 | [],h=>by obtain⟨l,b,_⟩:=h;cases b
 | l::L,⟨m,a,t,ht⟩=>by
   rw[List.map_cons,uc,uc];have c:=ZI e L;have d:=sR e l;rcases qL.1 a with rfl|a
   ·subst ht;have f:=sR e t;rw[oM,qk];omega
   ·have:=mj e L ⟨m,a,t,ht⟩;omega
theorem sT{L:List (List zn)}(h:kJ L=0):vz L=none:=by
 rw[oI]
 induction L with
 | nil=>intro l b;cases b
 | cons a L c =>
   rw[uc]at h;intro l b;rcases qL.1 b with rfl|b
   ·exact List.length_eq_zero_iff.1 (by omega)
   ·exact c (by omega) l b
theorem ZL: ∀(n m:Nat) (a:List zn) (L:List (List zn)),kJ L<=n->kJ L<=m->vd n a L=vd m a L
 | 0,0,a,L,_,_=>rfl
 | 0,m+1,a,L,h,_=>by
   have:=sT (L:=L) (by omega);rw[vd,vd,this]
 | n+1,0,a,L,_,h=>by
   have:=sT (L:=L) (by omega);rw[vd,vd,this]
 | n+1,m+1,a,L,h1,h2=>by
   rw[vd,vd];cases c:vz L with
   | none=>rfl
   | some e =>
     have:=mj e L (dA c);exact ZL n m _ _ (by omega) (by omega)
theorem CK{a:List zn}{L:List (List zn)}(h:vz L=none):mrg a L=a:=by
 unfold mrg;cases kJ L with
 | zero=>rfl
 | succ n=>rw[vd,h]
theorem CV{a:List zn}{L:List (List zn)}{e:zn}(h:vz L=some e):mrg a L=mrg (ub a e) (L.map (vj e)):=by
 have c:=mj e L (dA h);unfold mrg;obtain⟨n,b⟩:∃n,kJ L=n+1:=⟨kJ L-1,by omega⟩
 rw[b,vd,h];exact ZL _ _ _ _ (by omega) (qZ _)
theorem CY(a:List zn)(e:zn):a.length<=(ub a e).length/\(ub a e).length<=a.length+1:=by
 unfold ub;split
 ·omega
 ·rw[qI,List.length_singleton];omega
theorem s8: ∀(n:Nat) (a:List zn) (L:List (List zn)),kJ L<=n->a.length<=(vd n a L).length/\(vd n a L).length<=a.length+kJ L
 | 0,a,L,_=>⟨qZ _,by rw[vd];omega⟩
 | n+1,a,L,h=>by
   rw[vd];cases c:vz L with
   | none=>exact⟨qZ _,by simp only;omega⟩
   | some e =>
     have h1:=mj e L (dA c);have b:=CY a e;have d:=s8 n (ub a e) (L.map (vj e)) (by omega);exact⟨by simp only;omega,by simp only;omega⟩
theorem CU(a:List zn)(L:List (List zn)):a.length<=(mrg a L).length:=(s8 _ a L (qZ _)).1
theorem CG(L:List (List zn)):(bx L).length<=kJ L:=by
 have:=(s8 _ [] L (qZ _)).2;rw[List.length_nil,Nat.zero_add]at this;exact this
def my(a:List zn)(L:List (List zn)):List (List zn):=match a.getLast? with
 | none=>L
 | some e=>L.map (vj e)
def gL(a:List zn)(L:List (List zn)):List zn:=mrg a (my a L)
theorem ZM{a:List zn}{L:List (List zn)}(c:∀l∈L,∀x t,l=x::t->a.getLast?≠some x):my a L=L:=by
 unfold my;cases h:a.getLast? with
 | none=>rfl
 | some e =>
   show L.map (vj e)=L
   have:∀l∈L,vj e l=l:=fun l b=>by
    cases l with
    | nil=>rfl
    | cons x t=>exact sS (fun d=>c _ b x t rfl (by rw[h,d])) t
   rw[List.map_congr_left this];exact List.map_id' L
theorem CW{a:List zn}{L:List (List zn)}{i:Nat}{e:zn}{t:List zn}(c:a.getLast? = some e)(h:L[i]? = some (e::t)):gL a (L.set i t)=gL a L:=by
 unfold gL my;rw[c];show mrg a ((L.set i t).map (vj e))=mrg a (L.map (vj e));congr 1;apply List.ext_getElem?;intro j;rw[qz,qz,List.getElem?_set];by_cases b:i=j
 ·subst b;have d:=(qM.1 h).1;rw[qK rfl,qK d,h];show some (vj e t)=some (vj e (e::t));rw[oM]
 ·rw[qJ b]
theorem CA{a:List zn}{L:List (List zn)}{e:zn}(h:vz L=some e)(b:∀l∈L,∀x t,l=x::t->a.getLast?≠some x):gL (a++[e]) L=gL a L:=by
 have c:a.getLast?≠some e:=by
  obtain⟨l,d,t,f⟩:=dA h;exact b l d e t f
 unfold gL;rw[ZM b,CV h];unfold ub my;rw[qJ c,List.getLast?_append,List.getLast?_singleton];rfl
theorem CB{a:List zn}{L:List (List zn)}(h:vz L=none):gL a L=a:=by
 unfold gL;rw[ZM (fun l c x t b=>by have:=oI.1 h l c;rw[this]at b;cases b),CK h]
theorem CC(a:List zn)(L:List (List zn)):a.length<=(gL a L).length:=CU _ _
theorem ZN: ∀ {L:List (List zn)} {i:Nat} {e:zn} {t:List zn},L[i]? = some (e::t)->kJ (L.set i t)+1=kJ L
 | [],i,e,t,h=>by simp at h
 | l::L,0,e,t,h=>by
   obtain rfl:l=e::t:=(by simpa using h);rw[List.set_cons_zero,uc,uc,qk];omega
 | l::L,i+1,e,t,h=>by
   have:=ZN (L:=L) (i:=i) (e:=e) (t:=t) (by simpa using h);rw[List.set_cons_succ,uc,uc];omega
def dB(k:Nat)(a:List zn)(L:List (List zn)):Prop:=2*kJ L+1<=k∨(2*kJ L<=k/\∃l∈L,∃e t,l=e::t/\a.getLast? = some e)
theorem CD(L:List (List zn)):dB (2*kJ L+1) [] L:=qX (qZ _)
theorem CE{k:Nat}{a:List zn}{L:List (List zn)}{i:Nat}{e:zn}{t:List zn}(b:dB k a L)(h:L[i]? = some (e::t)):0<k/\dB (k-1) a (L.set i t):=by
 have c:=ZN h;have d:2*kJ L<=k:=by rcases b with h | h;omega;exact h.1
 exact⟨by omega,qX (by omega)⟩
theorem CF{k:Nat}{a:List zn}{L:List (List zn)}{e:zn}(i:dB k a L)(h:vz L=some e)(j:∀l∈L,∀x t,l=x::t->a.getLast?≠some x):0<k/\dB (k-1) (a++[e]) L:=by
 have m:2*kJ L+1<=k:=by
  rcases i with h|⟨_,l,b,d,t,c,f⟩
  ·exact h
  ·exact absurd f (j l b d t c)
 obtain⟨l,b,t,c⟩:=dA h;exact⟨by omega,qY ⟨by omega,l,b,e,t,c,by rw[List.getLast?_append,List.getLast?_singleton];rfl⟩⟩
theorem CH{a:List zn}{e x:zn}:x∈ub a e↔x∈a∨x=e:=by
 unfold ub;split
 ·rename_i h;constructor
  ·exact qX
  ·rintro (b | rfl)
   ·exact b
   ·exact List.mem_of_getLast? h
 ·simp
theorem s9{e x:zn}{l:List zn}(h:x∈vj e l):x∈l:=(List.dropWhile_sublist _).subset h
theorem ZO(e:zn){x:zn}:∀ {l:List zn},x∈l->x=e∨x∈vj e l
 | [],h=>by cases h
 | y::l,h=>by
   by_cases hy:y=e
   ·subst hy;rw[oM];rcases qL.1 h with rfl|h
    ·exact qX rfl
    ·exact ZO y h
   ·rw[sS hy];exact qY h
theorem ZP: ∀(n:Nat) (a:List zn) (L:List (List zn)) (x:zn),kJ L<=n->(x∈vd n a L↔x∈a∨∃l∈L,x∈l)
 | 0,a,L,x,h=>by
   have:=oI.1 (sT (L:=L) (by omega));rw[vd];constructor
   ·exact qX
   ·rintro (h|⟨l,b,d⟩)
    ·exact h
    ·rw[this l b]at d;cases d
 | n+1,a,L,x,h=>by
   rw[vd];cases c:vz L with
   | none =>
     have:=oI.1 c;constructor
     ·exact qX
     ·rintro (h|⟨l,b,d⟩)
      ·exact h
      ·rw[this l b]at d;cases d
   | some e =>
     have i:=mj e L (dA c);show x∈vd n (ub a e) (L.map (vj e))↔_;rw[ZP n (ub a e) (L.map (vj e)) x (by omega),CH];constructor
     ·rintro ((h|rfl)|⟨l,b,d⟩)
      ·exact qX h
      ·obtain⟨l,b,t,rfl⟩:=dA c;exact qY ⟨_,b,qB⟩
      ·obtain⟨m,f,rfl⟩:=qN.1 b;exact qY ⟨m,f,s9 d⟩
     ·rintro (h|⟨l,b,d⟩)
      ·exact qX (qX h)
      ·rcases ZO e d with h|h
       ·exact qX (qY h)
       ·exact qY ⟨_,List.mem_map_of_mem b,h⟩
theorem ZR{L:List (List zn)}{x:zn}:x∈bx L↔∃l∈L,x∈l:=by
 unfold bx mrg;rw[ZP _ _ _ _ (qZ _)];simp
theorem CI{a:List zn}{e:zn}(b:jj a)(h:∀x∈a,jE x e=true):jj (a++[e]) :=
 List.pairwise_append.2 ⟨b,List.pairwise_singleton _ _,fun x c y d=>by rw[qE.1 d];exact h x c⟩
theorem CL{e:zn}{l:List zn}(f:jj l)(d:∀x t,l=x::t->jE x e=false):∀y∈vj e l,jE e y=true:=by
 cases l with
 | nil=>intro y a;cases a
 | cons x t =>
   obtain⟨c,i⟩:=List.pairwise_cons.1 f;by_cases b:x=e
   ·subst b;rw[oM];intro y a;exact c y (s9 a)
   ·rw[sS b];have:=rp (d x t rfl) b;intro y a;rcases qL.1 a with rfl|a
    ·exact this
    ·exact dU this (c y a)
theorem ZS: ∀(n:Nat) (a:List zn) (L:List (List zn)),jj a->(∀l∈L,jj l)->(∀x∈a,∀l∈L,∀y∈l,jE x y=true)->jj (vd n a L)
 | 0,a,L,h,_,_=>h
 | n+1,a,L,ha,hL,hal=>by
   rw[vd];cases c:vz L with
   | none=>exact ha
   | some e =>
     obtain⟨l,j,t,q⟩:=dA c;have i:e∈l:=by rw[q];exact qB
     have p:ub a e=a++[e]:=by
      unfold ub;rw[qJ];intro h;have:=hal e (List.mem_of_getLast? h) l j e i;rw[mP]at this;cases this
     show jj (vd n (ub a e) (L.map (vj e)));rw[p];refine ZS n _ _ (CI ha fun x b=>hal x b l j e i) (fun m f=>?_) (fun x b m f y o=>?_)
     ·obtain⟨k,d,rfl⟩:=qN.1 f;exact List.Pairwise.sublist (List.dropWhile_sublist _) (hL k d)
     ·obtain⟨k,d,rfl⟩:=qN.1 f;rcases qC.1 b with b|b
      ·exact hal x b k d y (s9 o)
      ·rw[qE.1 b];exact CL (hL k d) (fun z u r=>CJ c k d z u r) y o
theorem ZT{L:List (List zn)}(h:∀l∈L,jj l):jj (bx L):=ZS _ _ _ List.Pairwise.nil h (fun x a=>by cases a)
end
section
open Go.RowKit Go.Shelf
theorem Z1(v:Value)(l:List zn)(h:Nat)(n:Int)(w:World)(O:jb w v l)(Z:l.length<=1000000)(P:∀x∈l,vP x)(s:jj l):
  Calls prog 195 #[v,.int .u64 (h:Nat),.int .i64 n] w fun e w'=>e = .returned (.tuple #[ji (kt l h n),.bool (vZ l h n)])/\Below w.heap.size w w':=by
 have o:kY (w.alloc (.cells #[.int .u64 ((0:Nat):Int),.int .i64 0,.int .i64 0] 117)) w.heap.size 0 0 0:=za.new _ _ _;have i:=(Below.refl w.heap.size w).alloc (qZ _) (.cells #[.int .u64 ((0:Nat):Int),.int .i64 0,.int .i64 0] 117);have B:=O.below i (qZ _);have q:=qQ (ZK v l h n _ B Z P s);have j:=sE s h n;have hK:cF l h n<=l.length:=mq _ l;generalize cF l h n=K at*;obtain⟨A,off,aa,rfl,-,M⟩:=B.form;by_cases Q:K=0
 ·subst Q;have e:=sV j;have c:kt l h n=⟨0,0,0⟩:=by unfold kt;rw[e];rfl
  have d:vZ l h n=false:=by unfold vZ;rw[e];rfl
  rw[c,d];clear M O B j e c d P s;generalize l.length=m at*;go_enter func195,ntmps195;go_wp2_with fail;refine q.out.mono ?_;rintro e J⟨rfl,a⟩;have f:kY J w.heap.size 0 0 0:=za.below o a;have z:=bj i a;clear o i a q;obtain⟨D,H,I,S,T,U⟩:=f.facts;go_wp2;exact bodyPost_ret (v:=.tuple #[ji ⟨0,0,0⟩,.bool false]) (by simp[results,Tryz.results195,go_sem,D,H,I]) rfl ⟨rfl,dW z (qZ _) _ _ _⟩
 ·obtain⟨k,R⟩:∃k,K=k+1:=⟨K-1,by omega⟩
  have Y:k<l.length:=by omega
  obtain⟨x,C⟩:∃x,l[k]? = some x:=⟨_,qD Y⟩
  obtain⟨b,rfl,L,r,u,y⟩:=M k x C;have q1:(K:Int)-1=(k:Int):=by omega
  have q2:((K:Int)==0)=false:=qy.2 (by omega);have q3:IntKind.i64.wrap ((k:Nat):Int)=(k:Nat):=IntWalk.i64_in _ ⟨by omega,by omega⟩;rw[R]at j;by_cases N:x.h=h
  ·have e:=sJ j C N;have c:kt l h n=x:=(by unfold kt;rw[e];rfl);have d:vZ l h n=true:=(by unfold vZ;rw[e];rfl);rw[c,d];have t:((x.h:Int) != (h:Int))=false:=(by simp;omega);clear M O B j e c d P s C;generalize l.length=m at*;obtain⟨V,X,W⟩:=x;simp only at r u y t;go_enter func195,ntmps195;go_wp2_with fail;refine q.out.mono ?_;rintro e J⟨rfl,a⟩;have f:kY J w.heap.size 0 0 0:=za.below o a;have z:=bj i a;have c0:=(a.cell (p:=⟨b,off+k*3,none⟩) L).trans r;have c1:=(a.cell (p:=⟨b,off+k*3+1,none⟩) L).trans u;have c2:=(a.cell (p:=⟨b,off+k*3+2,none⟩) L).trans y;clear o i a q r u y R Q N;obtain⟨D,H,I,S,T,U⟩:=f.facts;clear f;go_wp2;exact bodyPost_ret (v:=.tuple #[ji ⟨V,X,W⟩,.bool true]) (by simp[results,Tryz.results195,go_sem,D,H,I]) rfl ⟨rfl,dW z (qZ _) _ _ _⟩
  ·have e:=sK s j C N;have c:kt l h n=⟨0,0,0⟩:=(by unfold kt;rw[e];rfl);have d:vZ l h n=false:=(by unfold vZ;rw[e];rfl);rw[c,d];have t:((x.h:Int) != (h:Int))=true:=(by simp;omega);clear M O B j e c d P s C;generalize l.length=m at*;obtain⟨V,X,W⟩:=x;simp only at r u y t;go_enter func195,ntmps195;go_wp2_with fail;refine q.out.mono ?_;rintro e J⟨rfl,a⟩;have f:kY J w.heap.size 0 0 0:=za.below o a;have z:=bj i a;have c0:=(a.cell (p:=⟨b,off+k*3,none⟩) L).trans r;clear o i a q r u y R Q N;obtain⟨D,H,I,S,T,U⟩:=f.facts;clear f;go_wp2;exact bodyPost_ret (v:=.tuple #[ji ⟨0,0,0⟩,.bool false]) (by simp[results,Tryz.results195,go_sem,D,H,I]) rfl ⟨rfl,dW z (qZ _) _ _ _⟩
end
section
open Go.RowKit Go.Shelf
abbrev mtp(g:Nat):Value:=.pointer (some ⟨g,0,none⟩)
def kC(w:World)(base g:Nat)(F:List Nat)(l:List zn):Prop :=
 ∃v,za w g 168 #[mtp g,v]/\jC w base v l/\(∀k,v.ownBlock=some k->k∈F)/\g∈F/\(∀x∈F,base<=x/\x<w.heap.size)/\jj l/\∀x∈l,vP x
def gJ(base g:Nat)(F:List Nat)(w:World)(r:Value)(l:List zn)(e:Ending)(w':World):Prop :=
 ∃a,e = .returned r/\kC w' base g a l/\(∀x∈a,x∈F∨w.heap.size<=x)/\ze F w w'
section
variable {w w':World}{base g:Nat}{F G:List Nat}{l:List zn}
theorem kC.qa(h:kC w base g F l)(a:ze G w w')(i:∀x∈F,x ∉ G):kC w' base g F l:=by
 obtain⟨v,k,m,c,d,f,n,o⟩:=h;exact⟨v,k.qa a (i g d),gz m a (fun b p=>i b (c b p)),c,d,fun x j=>⟨(f x j).1,qP (f x j).2 a.size⟩,n,o⟩
theorem kC.below(h:kC w base g F l)(a:Below w.heap.size w w'):kC w' base g F l:=h.qa (ze.qm a) (fun _ _=>by simp)
theorem kC.drewN(h:kC w base g F l)(n:Nat):kC (w.drewN n) base g F l:=h.qa ((ze.refl [] w).drewN n) (fun _ _=>by simp)
theorem kC.shape(h:kC w base g F l):∃A c,w.cell? ⟨g,0,none⟩=some (mtp g)/\w.cell? ⟨g,1,none⟩=some (.slice A l.length c)/\w.frozen? ⟨g,1,none⟩=false/\jC w base (.slice A l.length c) l/\g<w.heap.size:=by
 obtain⟨v,a,b,d,f,i,j,k⟩:=h;obtain⟨A,c,rfl,-⟩:=v8 b;exact⟨A,c,a.cell 0,a.cell 1,a.frozen 1,b,a.lt⟩
end
theorem Z2: (prog.info? 168).map (·.size)=some 2:=by kernel_rfl
theorem CM(d:Nat)(p:Addr)(w:World):(Op.equalIn (d+1) 109 (.pointer (some p)) (.pointer (some p))).run prog w = .ok true w:=by
 cases a:prog.info? 168 with
 | none=>have:=Z2;rw[a]at this;cases this
 | some i =>
   have b:i.size=2:=(by have:=Z2;rw[a]at this;simpa using this);simp[Op.equalIn,run_underlying Tryz.underlying109,sizeOf,typeInfo,a,sameAddr]
theorem CN(p:Addr)(w:World):(binOp .neq 109 (.pointer (some p)) (.pointer (some p))).run prog w = .ok (.bool false) w:=by
 have a:(Op.equal 109 (.pointer (some p)) (.pointer (some p))).run prog w = .ok true w:=CM 9999 p w;simp only[binOp];simp[a]
theorem Z4{w:World}{g:Nat}(h:w.cell? ⟨g,0,none⟩=some (mtp g)):Calls prog 119 #[mtp g] w fun e w'=>e = .returned (.bool false)/\w=w':=by
 have a:=CN ⟨g,0,none⟩;go_enter func119,ntmps119;go_wp2;go_ret;exact⟨rfl,rfl⟩
theorem CO{w:World}{g n c:Nat}{A:Option Addr}(h:w.cell? ⟨g,0,none⟩=some (mtp g))(b:w.cell? ⟨g,1,none⟩=some (.slice A n c)):Calls prog 110 #[mtp g] w fun e w'=>e = .returned (.slice A n c)/\w=w':=by
 have a:=qQ (Z4 h);go_enter func110,ntmps110;go_wp2_with fail;refine a.out.mono ?_;rintro e w'⟨rfl,rfl⟩;go_wp2;go_ret;exact⟨rfl,rfl⟩
def CP(w:World)(e:Ending)(w':World):Prop:=e = .returned (mtp w.heap.size)/\kC w' w.heap.size w.heap.size [w.heap.size] []/\Below w.heap.size w w'/\w.heap.size<w'.heap.size
theorem CR(w:World):Calls prog 193 #[] w (CP w):=by
 go_enter func193,ntmps193;go_wp2;go_ret;have a:za (w.alloc (.cells #[mtp w.heap.size,.slice none 0 0] 168)) w.heap.size 168 #[mtp w.heap.size,.slice none 0 0]:=za.new _ _ _;have c:=(Below.refl w.heap.size w).alloc (qZ _) (.cells #[mtp w.heap.size,.slice none 0 0] 168);exact⟨rfl,⟨.slice none 0 0,a,jC.nil _ _,fun k d=>(by cases d),by simp,fun x b=>by obtain rfl:=qE.1 b;exact⟨qZ _,a.lt⟩,List.Pairwise.nil,fun x b=>by cases b⟩,c,a.lt⟩
end
section
open Go.RowKit Go.Shelf
theorem CS{w:World}(a:Addr)(k:Value)(m:List zn)(z:jb w k m)(u:m≠[])(B:m.length<=1000000)(d:TypeId):
  (Builtin.append_ #[112,112] d #[.slice (some a) 0 0,k]).run prog w=(Builtin.append_ #[112,112] d #[.slice none 0 0,k]).run prog w:=by
 have y:0<m.length:=List.length_pos_iff.2 u;obtain⟨i,n,p,q,r⟩:=info_parts sW;obtain⟨o,A⟩:=z.src;rcases A with⟨c,rfl,f⟩|⟨b,c,rfl,f⟩
 ·omega
 ·have s:=run_append_grow (P:=prog) w 112 d 117 i _ Tryz.underlying112 n p a 0 0 [] (by simp) (fun j v h=>by simp at h) b m.length c (vR m) (by rw[q];exact o) f (by omega) (by omega) (growslice_fits (by omega) (by rw[r];omega));have t:=run_append_nil (P:=prog) w 112 d 117 i _ Tryz.underlying112 n p b m.length c (vR m) (by rw[q];exact o) f y (by omega) (by rw[r];omega);rw[s,t];simp
theorem CT{w:World}{base:Nat}{f:Value}{m:List zn}(A:Option Addr)(j:jb w f m)(k:m≠[])(i:m.length<=1000000)(n:base<=w.heap.size)(d:TypeId):
  ∃b c w',(Builtin.append_ #[112,112] d #[.slice A 0 0,f]).run prog w = .ok (.slice b m.length c) w'/\jC w' base (.slice b m.length c) m/\w.grownBy w' none/\((Value.slice b m.length c).ownBlock=none∨(Value.slice b m.length c).ownBlock=some w.heap.size):=by
 have h:=mS (jC.nil w base) j (by simpa using i) n d;simp only[List.length_nil,Nat.zero_add,List.nil_append]at h;cases A with
 | none=>exact h
 | some a =>
   rw[CS a f m j k i d];exact h
theorem C4{z:Array Oper}{o:Oper}{a:Act}{w:World}{K:Act->World->Prop}{Q:Exit->Act->World->Prop}{E:Prop}{d:Value}{base:Nat}{A:Option Addr}{m:List zn}(q:o.guard=none)(s x:Operand)
  (t:o.op = .call { callee:=.builtin .append,args:=#[s,x],argTypes:=#[112,112] }) (u:a.eval s = .slice A 0 0) (y:a.eval x=d)
  (v:jb w d m) (n:m≠[]) (r:m.length<=1000000) (p:base<=w.heap.size)
  (h:∀b w',jC w' base b m->w.grownBy w' none->(b.ownBlock=(Value.slice none 0 0).ownBlock∨b.ownBlock=some w.heap.size)->K (a.put o.dst b) w'):
  if Region.wanted o (yielded z a.tmps)=true then Oper.wp prog o a w K Q else E:=by
 obtain⟨B,c,w',f,i,j,k⟩:=CT A v n r p o.type;exact Q6 q s x _ t u y f (h _ w' i j k)
theorem C5{w:World}{base n c k:Nat}{A:Option Addr}{l:List zn}(h:jC w base (.slice A n c) l)(i:n=l.length)(u:k<=n):jC w base (.slice A k c) (l.take k)/\sliced A 0 k c 3 = .slice A k c/\k<=c:=by
 subst i;have a:(l.take k).length=k:=by rw[qq];omega
 rcases h.2 with⟨d,t⟩|⟨g,s,b,d,m,o,i,p,q,r⟩
 ·obtain⟨rfl,-,rfl⟩:=Value.slice.inj d;obtain rfl:k=0:=by omega
  rw[List.take_zero];exact⟨jC.nil _ _,rfl,qZ _⟩
 ·obtain⟨rfl,-,rfl⟩:=Value.slice.inj d;refine⟨⟨?_,qY ⟨g,c,b,by rw[a],m,o,by rw[a];omega,p,q, ?_⟩⟩, ?_,by omega⟩
  ·rw[fw]
  ·have e:vR l=vR (l.take k)++vR (l.drop k):=(by rw[<-Xs,ql]);rw[a];have j:b.toList.take (k*3)=(b.toList.take (l.length*3)).take (k*3):=(by rw[List.take_take];congr 1;omega);rw[j,r,e,List.take_left' (by rw[fw,a])]
  ·unfold sliced;by_cases f:c=0
   ·rw[qK f];simp
   ·rw[qJ f];simp[Addr.add]
theorem C6{n c k:Nat}{A:Option Addr}(b:k<=c)(W:World):(Instr.slice 112 (.slice A n c) (some (.int .i64 (k:Nat))) (some (.int .i64 (k:Nat))) (some (.int .i64 (k:Nat)))).run prog W = .ok (.slice A 0 0) W:=by
 have a:(sizeOf (prog.elem 112)).run prog W = .ok 3 W:=by simp[go_sem]
 rw[run_slice_lhm W _ _ _ c Tryz.underlying112 .i64 .i64 .i64 _ _ _ (by omega) (by omega) (by omega) (by omega),a];show Result.ok (sliced _ _ _ _ _) W=_;rw[qh];unfold sliced;rw[qK rfl,Nat.sub_self]
theorem C7{n c k:Nat}{A:Option Addr}(b:k<=c)(e:sliced A 0 k c 3 = .slice A k c)(W:World):(Instr.slice 112 (.slice A n c) none (some (.int .i64 (k:Nat))) none).run prog W = .ok (.slice A k c) W:=by
 have a:(sizeOf (prog.elem 112)).run prog W = .ok 3 W:=by simp[go_sem]
 rw[run_slice_h W _ _ _ c Tryz.underlying112 .i64 _ (by omega) (by omega),a];show Result.ok (sliced _ _ _ _ _) W=_;rw[qh,e]
theorem sq: (117:TypeId)≠168:=by decide
theorem C8{w w1 j d:World}{base g n c:Nat}{F:List Nat}{A:Option Addr}{l m:List zn}{x:zn}{a:Value}(h:kC w base g F l)(i:vP x)(K:kS l x=m)
  (S:jC w base (.slice A n c) l) (hF:∀k,(Value.slice A n c).ownBlock=some k->k∈F) (M:ze [] w w1) (C:Below w1.heap.size w1 j) (D:j.grownBy d (Value.slice A n c).ownBlock) (J:jC d base a m)
  (Q:a.ownBlock=(Value.slice A n c).ownBlock∨a.ownBlock=some j.heap.size):gJ base g F w (.tuple #[]) m (.returned (.tuple #[])) (d.setCell ⟨g,1,none⟩ a):=by
 obtain⟨v,B,U,V,r,o,O,P⟩:=h;have N:ze F w j:=(M.trans (ze.qm C) (fun x i=>by cases i)).more (fun x i=>by cases i);have T:ze F w d:=N.grown D (fun k f=>qX (hF k f));have q:ze F w (d.setCell ⟨g,1,none⟩ a):=T.setCell (p:=⟨g,1,none⟩) (qX r) a;have R:(Value.slice A n c).ownBlock≠some g:=kv S B sq;have t:za j g 168 #[mtp g,v]:=B.qa (M.trans (ze.qm C) (fun x i=>by cases i)) (by simp);have u:za d g 168 #[mtp g,v]:=(D.block g t.lt (fun e=>R e.symm)).trans t;have z:za (d.setCell ⟨g,1,none⟩ a) g 168 #[mtp g,a]:=u.put 1 a;have s:jC (d.setCell ⟨g,1,none⟩ a) base a m:=vW J (kv J u sq) a
 have I:∀y∈m,vP y:=fun y b=>by
  rw[<-K]at b;rcases oY b with k|k
  ·exact P y k
  ·rw[k];exact i
 have L:jj m:=by rw[<-K];exact Xh O x
 have W:(d.setCell ⟨g,1,none⟩ a).heap.size=d.heap.size:=by simp[World.setCell]
 rcases Q with e|e
 ·exact⟨F,rfl,⟨a,z,s,fun k f=>hF k (by rw[<-e];exact f),r,fun y b=>⟨(o y b).1,qP (o y b).2 q.size⟩,L,I⟩,fun y b=>qX b,q⟩
 ·have H:=s.lt _ e;refine⟨j.heap.size::F,rfl,⟨a,z,s,fun k f=>?_,qF _ r,fun y b=>?_,L,I⟩,fun y b=>?_,q⟩
  ·rw[e]at f;injection f with f;rw[<-f];exact qB
  ·rcases qL.1 b with k|k
   ·rw[k];exact⟨H.1,H.2⟩
   ·exact⟨(o y k).1,qP (o y k).2 q.size⟩
  ·rcases qL.1 b with k|k
   ·rw[k];exact qY N.size
   ·exact qX k
end
section
open Go.RowKit Go.Shelf
attribute [local go_sem ↓] Go.wp_at_zero Go.wp_at_succ
theorem C9{w:World}{base g:Nat}{F:List Nat}{l:List zn}{x:zn}(h:kC w base g F l)(t:vP x)(hn:l.length<=100000)(ah:x ∉ l):
  Calls prog 207 #[mtp g,.int .i64 (kV l x:Nat),ji x] w (gJ base g F w (.tuple #[]) (kS l x)):=by
 have HT:=qQ h;obtain⟨v,I,i,P,Q,S,h6,h7⟩:=h;obtain⟨A,c,rfl,aq,au,-,-⟩:=v8 i;have U:=ri l x;obtain⟨n,r⟩:∃n,n=l.length:=⟨_,rfl⟩
 obtain⟨k,T⟩:∃k,k=kV l x:=⟨_,rfl⟩
 have HL:=qQ (Be ah);rw[<-T]at U HL ⊢;rw[<-r]at U aq I i P hn;have af:jb w (.slice A n c) l:=by rw[r]at i ⊢;exact jC.qw i
 obtain⟨rt,rs,rk⟩:=C5 i r U;have f:kY (w.alloc (.cells #[.int .u64 (x.h:Nat),.int .i64 x.v,.int .i64 x.p] 117)) w.heap.size x.h x.v x.p:=za.new _ _ _;have o:ze [] w (w.alloc (.cells #[.int .u64 (x.h:Nat),.int .i64 x.v,.int .i64 x.p] 117)):=(ze.refl [] w).alloc _;obtain⟨B,hB⟩:∃B,w.heap.size=B:=⟨_,rfl⟩
 rw[hB]at f;obtain⟨b,ar⟩:∃b,w.alloc (.cells #[.int .u64 (x.h:Nat),.int .i64 x.v,.int .i64 x.p] 117)=b:=⟨_,rfl⟩
 rw[ar]at f o;have ag:jb b (.slice A n c) l:=af.below (B:=w.heap.size) (o.below (qZ _) (fun x t=>by cases t)) (qZ _);have C:za b g 168 #[mtp g,.slice A n c]:=I.qa o (by simp);obtain⟨A2,c2,q2,X⟩:=Xi ag (k:=k) (by omega);have q1:=C6 (A:=A) (n:=n) rk;have q3:=C7 (A:=A) (n:=n) rk rs;rw[<-r]at q2 X;have HP:=qQ X
 have HS:Hid (∀W,Below b.heap.size b W->Below b.heap.size b W/\W.cell? ⟨g,1,none⟩=some (.slice A n c)/\W.cell? ⟨B,0,none⟩=some (.int .u64 (x.h:Nat))/\W.cell? ⟨B,1,none⟩=some (.int .i64 x.v)/\W.cell? ⟨B,2,none⟩=some (.int .i64 x.p)):=qQ fun W q =>
  ⟨q,(q.cell (p:=⟨g,1,none⟩) C.lt).trans (C.cell 1),(q.cell (p:=⟨B,0,none⟩) f.lt).trans (f.cell 0),(q.cell (p:=⟨B,1,none⟩) f.lt).trans (f.cell 1),(q.cell (p:=⟨B,2,none⟩) f.lt).trans (f.cell 2)⟩
 have Y:Hid (∀W,Below b.heap.size b W->b.heap.size<=W.heap.size):=qQ fun W q=>q.size
 have Z:Hid ((l.drop k).length<=100000):=qQ (by rw[List.length_drop,<-r];omega)
 have aj:Hid (∀d j u,Below b.heap.size b d->d.grownBy j (Value.slice A n c).ownBlock->jC j base u (l.take k++([x]++l.drop k))->(u.ownBlock=(Value.slice A n c).ownBlock∨u.ownBlock=some d.heap.size)->gJ base g F w (.tuple #[]) (kS l x) (.returned (.tuple #[])) (j.setCell ⟨g,1,none⟩ u)) :=
  qQ fun d j u a1 a2 a3 a4=>C8 HT.out t rfl i P o a1 a2 (by rw[HL.out];exact a3) a4
 have HG:Hid (∀d,Below b.heap.size b d->za d g 168 #[mtp g,.slice A n c]/\jC d base (.slice A k c) (l.take k)/\base<=d.heap.size):=qQ fun d a=>by
  have ae:Below w.heap.size w d:=(o.below (qZ _) (fun x t=>by cases t)).trans (a.mono o.size);exact⟨C.qa (ze.qm a) (by simp),jC.below rt ae (qZ _),qR (S g Q).1 (qR (Nat.le_of_lt (S g Q).2) ae.size)⟩
 have am:Hid ((Value.slice A k c).ownBlock=(Value.slice A n c).ownBlock):=qQ (by cases A<;>rfl);have al:Hid ((Value.slice A n c).ownBlock≠some g):=qQ (kv i I sq);have an:Hid ((l.take k).length=k):=qQ (by rw[qq];omega);obtain⟨-,s0,s1,s2,s3⟩:=HS.out b (Below.refl _ _);have av:∀H:World,H=b->H=b:=fun _ h=>h
 clear I i P Q S h6 h7 af rt rs o ag C f X HT ah;have HN:=qQ r;have HK:=qQ T;clear r T;generalize kS l x=R at*;go_enter func207,ntmps207;go_wp2_with fail
 go_region_held_law (fun W=>Below b.heap.size b W/\W.cell? ⟨g,1,none⟩=some (.slice A n c)/\W.cell? ⟨B,0,none⟩=some (.int .u64 (x.h:Nat))/\W.cell? ⟨B,1,none⟩=some (.int .i64 x.v)/\W.cell? ⟨B,2,none⟩=some (.int .i64 x.p))
  (first | (with_reducible assumption) | ((with_reducible refine HS.out _ ?_);(repeat' (first | (with_reducible assumption) | (with_reducible exact Below.refl _ _) | (with_reducible refine Below.drew ?_) | (with_reducible refine oE ?_ _) | exact And.left (by with_reducible assumption)));done) | fail)
  (first
  | (refine C4 (A:=A) (m:=[x]) (base:=b.heap.size) (by rfl) _ _ (by rfl) (by rfl) (by rfl) (Xt _ x) (by simp) (by simp) (Y.out _ (by first | (with_reducible exact And.left (by with_reducible assumption)) | (refine oE ?_ _;exact And.left (by with_reducible assumption)))) ?_;intro v1 V1 ai ac aa;have L:∀z,v1.ownBlock=some z->b.heap.size<=z:=ZW (by first | (with_reducible exact And.left (by with_reducible assumption)) | (refine oE ?_ _;exact And.left (by with_reducible assumption))) ZG aa;have s:Below b.heap.size b V1:=ZU (by first | (with_reducible exact And.left (by with_reducible assumption)) | (refine oE ?_ _;exact And.left (by with_reducible assumption))) ac ZG)
  | (refine Bd (l:=[x]) (m:=l.drop k) (by rfl) _ _ (by rfl) (by rfl) (by rfl) ai (HP.out _ _ (qZ _) s) (by have:=Z.out;simp only[List.length_cons,List.length_nil];omega) (Y.out _ s) ?_;intro v2 d V ad ab;have ao:∀z,v2.ownBlock=some z->b.heap.size<=z:=ZW s L ab;have J:Below b.heap.size b d:=ZU s ad L)
  | fail)
 all_goals
  clear ac aa L s ai ad ab ao;obtain⟨D,rT,ap⟩:=HG.out d J;obtain⟨A3,c3,j,e1,e2,y,K⟩:=mS rT (jC.qw V) (by have:=Z.out;have:=an.out;simp only[List.length_append,List.length_cons,List.length_nil];omega) ap 112;rw[am.out]at y K;have O:za j g 168 #[mtp g,.slice A n c]:=(y.block g D.lt (fun e=>al.out e.symm)).trans D;have ak:=qQ (aj.out d j _ J y e2 K);have k1:=O.cell 1;have f1:=O.frozen 1;have k2:=D.cell 1;have HE:=qQ e1;obtain⟨A4,c4,rfl,-⟩:=jC.shape V;clear e1 e2 y K O D rT V J;generalize (l.take k).length+([x]++l.drop k).length=N at*;generalize ([x]++l.drop k).length=M at*;go_wp2_with (first | (at_builtin;refine yc rfl _ _ rfl rfl rfl HE.out ?_) | fail);go_end0;exact ak.out
end
section
open Go.RowKit Go.Shelf
theorem Cq: Enters prog 206:=enters_of func206 (by kernel_rfl) rfl
def fJ(W:World)(B1 B2 g b p:Nat)(v:Value)(x y:zn):Prop:=W.cell? ⟨B1,0,none⟩=some (mtp g)/\W.cell? ⟨g,1,none⟩=some v /\
 W.cell? ⟨B2,0,none⟩=some (.int .u64 (x.h:Nat))/\W.cell? ⟨B2,1,none⟩=some (.int .i64 x.v)/\W.cell? ⟨B2,2,none⟩=some (.int .i64 x.p) /\
 W.cell? ⟨b,p,none⟩=some (.int .u64 (y.h:Nat))/\W.cell? ⟨b,p+1,none⟩=some (.int .i64 y.v)/\W.cell? ⟨b,p+2,none⟩=some (.int .i64 y.p)
theorem fJ.below{W a:World}{B1 B2 g b p:Nat}{v:Value}{x y:zn}(h:fJ W B1 B2 g b p v x y)(r:Below W.heap.size W a):fJ a B1 B2 g b p v x y:=by
 have q:∀ {p:Addr} {u:Value},W.cell? p=some u->a.cell? p=some u:=fun {p u} k=>(r.cell (p:=p) (World.block_lt_of_cell? W _ k)).trans k
 obtain⟨c,d,f,i,j,m,n,o⟩:=h;exact⟨q c,q d,q f,q i,q j,q m,q n,q o⟩
theorem Cx(B1 B2 g b off n c i:Nat)(x y:zn)(w:World)(hi:i<n)(J:n<=1000000)(j:fJ w B1 B2 g b (off+i*3) (.slice (some ⟨b,off,none⟩) n c) x y):
  Calls prog 206 #[.int .i64 (i:Nat),mtp B1,mtp B2] w fun e w'=>e = .returned (.bool (!jE y x))/\Below w.heap.size w w':=by
 have a:Hid (∀W,Below w.heap.size w W->Below w.heap.size w W/\fJ W B1 B2 g b (off+i*3) (.slice (some ⟨b,off,none⟩) n c) x y):=qQ fun W k=>⟨k,j.below k⟩
 have f:=fun W=>fo y x W
 have d:=a.out w (Below.refl _ _);have K:(i:Int)<(n:Int):=by omega
 have L:(n:Int)<=1000000:=by omega
 clear j;generalize jE y x=r at*;have m:=qQ f;clear f;obtain⟨s,u,t⟩:=x;obtain⟨v,A,z⟩:=y;unfold fJ at a d;simp only at a d;obtain⟨-,c0,c1,c2,B,C,D,H,I⟩:=d;go_enter func206,ntmps206;go_wp2_with fail
 go_region_held3 (fun W=>Below w.heap.size w W/\W.cell? ⟨B1,0,none⟩=some (mtp g)/\W.cell? ⟨g,1,none⟩=some (.slice (some ⟨b,off,none⟩) n c) /\
  W.cell? ⟨B2,0,none⟩=some (.int .u64 (s:Nat))/\W.cell? ⟨B2,1,none⟩=some (.int .i64 u)/\W.cell? ⟨B2,2,none⟩=some (.int .i64 t) /\
  W.cell? ⟨b,off+i*3,none⟩=some (.int .u64 (v:Nat))/\W.cell? ⟨b,off+i*3+1,none⟩=some (.int .i64 A)/\W.cell? ⟨b,off+i*3+2,none⟩=some (.int .i64 z))
  (first | (with_reducible assumption) | ((with_reducible refine a.out _ ?_);(first | (with_reducible assumption) | (with_reducible exact Below.refl _ _) | (with_reducible exact(Below.refl _ _).drew) | exact(bj (And.left (by with_reducible assumption)) ‹Below _ _ _›));done) | fail)
  (first
  | (go_at_call 172;((with_reducible refine(m.out _).mono ?_);rintro e q⟨rfl,p⟩;have o:Below w.heap.size w q:=bj (And.left (by with_reducible assumption)) p))
  | fail)
 all_goals
  go_wp2;go_ret;exact⟨rfl,o⟩
end
section
open Go.RowKit Go.Shelf
attribute [local go_sem ↓] Go.wp_at_zero Go.wp_at_succ
theorem gJ.since{w W:World}{base g:Nat}{F:List Nat}{r:Value}{l:List zn}{e:Ending}{w':World}(h:gJ base g F W r l e w')(b:ze [] w W):gJ base g F w r l e w':=by
 obtain⟨c,d,f,i,j⟩:=h;refine⟨c,d,f,fun x a=>?_,(b.more (G:=F) (fun x a=>by cases a)).trans j (fun x a=>qX a)⟩;rcases i x a with k|k
 ·exact qX k
 ·exact qY (qR b.size k)
theorem gJ.same{w W:World}{base g:Nat}{F:List Nat}{r:Value}{l:List zn}(h:kC W base g F l)(b:ze [] w W):gJ base g F w r l (.returned r) W :=
 ⟨F,rfl,h,fun x a=>qX a,b.more (fun x a=>by cases a)⟩
theorem Cz{w:World}{base g:Nat}{F:List Nat}{l:List zn}{x:zn}(h:kC w base g F l)(j:vP x)(hn:l.length<=100000):
  Calls prog 150 #[mtp g,ji x] w (gJ base g F w (.bool (!decide (x∈l))) (kS l x)):=by
 have HT:=qQ h;obtain⟨A,c,c0,c1,-,al,hg⟩:=h.shape;have X:jj l:=by obtain⟨v,h1,h2,h3,h4,h5,h6,h7⟩:=h;exact h6
 have aj:=jC.qw al;have H:ze [] w ((w.alloc (.cells #[mtp g] 109)).alloc (.cells #[.int .u64 (x.h:Nat),.int .i64 x.v,.int .i64 x.p] 117)):=((ze.refl [] w).alloc _).alloc _;have P:za ((w.alloc (.cells #[mtp g] 109)).alloc (.cells #[.int .u64 (x.h:Nat),.int .i64 x.v,.int .i64 x.p] 117)) w.heap.size 109 #[mtp g]:=za.alloc (za.new _ _ _) _
 have Q:kY ((w.alloc (.cells #[mtp g] 109)).alloc (.cells #[.int .u64 (x.h:Nat),.int .i64 x.v,.int .i64 x.p] 117)) (w.heap.size+1) x.h x.v x.p:=by
  have:=za.new (w.alloc (.cells #[mtp g] 109)) 117 #[.int .u64 (x.h:Nat),.int .i64 x.v,.int .i64 x.p];rw[show(w.alloc (.cells #[mtp g] 109)).heap.size=w.heap.size+1 by simp]at this;exact this
 obtain⟨B,hB⟩:∃B,w.heap.size=B:=⟨_,rfl⟩
 rw[hB]at P Q;obtain⟨d,ap⟩:∃d,(w.alloc (.cells #[mtp g] 109)).alloc (.cells #[.int .u64 (x.h:Nat),.int .i64 x.v,.int .i64 x.p] 117)=d:=⟨_,rfl⟩
 rw[ap]at P Q H;have ad:Below w.heap.size w d:=H.below (qZ _) (fun x j=>by cases j);have V:jb d (.slice A l.length c) l:=aj.below ad (qZ _);have q:∀ {p:Addr} {u:Value},w.cell? p=some u->d.cell? p=some u:=fun {p u} k=>(ad.cell (p:=p) (World.block_lt_of_cell? w _ k)).trans k
 have d0:=q c0;have C:=q c1;have U:=P.cell 0;obtain⟨Y,Z,x2,-,-,-⟩:=Q.facts;have hK:=ri l x;obtain⟨n,J⟩:∃n,n=l.length:=⟨_,rfl⟩
 obtain⟨K,D⟩:∃K,K=kV l x:=⟨_,rfl⟩
 have HF:=qQ V.form;have S:=qQ V;rw[<-J]at c1 C V hn hK S;rw[<-D]at hK;have an:Enters prog 206:=Cq;have au:∀(fn:Fn) (first ah:Array Value) (w:World),(Instr.makeFunc fn first ah).run prog w = .ok (.func fn first ah) w:=fun _ _ _ _=>rfl
 have ab:Hid (Calls prog 205 #[.int .i64 (n:Nat),.func (.func 206) #[] #[mtp B,mtp (B+1)]] d (Qq K d)):=qQ (by
  refine Yy _ _ _ n K d (by omega) hK an (fun i W hi I=>?_);obtain⟨y,m⟩:∃y,l[i]? = some y:=⟨_,qD (by rw[<-J];exact hi)⟩
  obtain⟨b,off,rfl,-,-,s,t,z⟩:=sF S.out m;have hA:fJ d B (B+1) g b (off+i*3) (.slice (some ⟨b,off,none⟩) n c) x y:=⟨U,C,Y,Z,x2,s,t,z⟩
  have:=Cx B (B+1) g b off n c i x y W hi (by omega) (hA.below I);rw[Bi X m,<-D]at this;exact this)
 have ae:=qQ (Z4 d0)
 have af:Hid (∀W,Below d.heap.size d W->x ∉ l->Calls prog 207 #[mtp g,.int .i64 (K:Nat),ji x] W (gJ base g F W (.tuple #[]) (kS l x))):=qQ fun W I ao=>by
  have hA:kC W base g F l:=(HT.out.qa H (fun _ _=>by simp)).below I;have:=C9 hA j (by rw[<-J];exact hn) ao;rw[<-D]at this;exact this
 have ac:Hid (∀W,Below d.heap.size d W->W.cell? ⟨B,0,none⟩=some (mtp g)/\W.cell? ⟨g,1,none⟩=some (.slice A n c)/\W.cell? ⟨B+1,0,none⟩=some (.int .u64 (x.h:Nat))/\W.cell? ⟨B+1,1,none⟩=some (.int .i64 x.v)/\W.cell? ⟨B+1,2,none⟩=some (.int .i64 x.p)):=qQ fun W I=>by
  have q:∀ {p:Addr} {u:Value},d.cell? p=some u->W.cell? p=some u:=fun {p u} k=>(I.cell (p:=p) (World.block_lt_of_cell? d _ k)).trans k
  exact⟨q U,q C,q Y,q Z,q x2⟩
 have aa:=qQ (show l[K]? = some x↔x∈l by rw[D];exact Bt X);have am:=qQ (show x∈l->kS l x=l from Ba X);have T:Hid (ze [] w d):=qQ H;have HX:=qQ j;have ag:=qQ J;clear h X aj H P Q ad V c0 c1 q j al J D;by_cases ak:K<n
 ·obtain⟨y,m⟩:∃y,l[K]? = some y:=⟨_,qD (by rw[<-ag.out];exact ak)⟩
  obtain⟨b,off,rfl,-,o,s,t,z⟩:=sF S.out m;have ai:=fun W=>Xp y x W
  have t1:(K:Int)<(n:Int):=by omega
  by_cases r:y=x
  ·have f:x∈l:=(by rw[r]at m;exact aa.out.1 m);rw[qW r]at ai;rw[qW f,am.out f];have ar:=qQ r;have aq:=qQ o;clear f r m;go_enter func150,ntmps150;go_wp2_with fail;refine ae.out.mono ?_;rintro e w'⟨rfl,rfl⟩;go_wp2_with fail;refine ab.out.mono ?_;rintro e L⟨rfl,a⟩;obtain⟨z0,z1,M,N,O⟩:=ac.out L a;have u0:=(a.cell (p:=⟨b,off+K*3,none⟩) o).trans s;have u1:=(a.cell (p:=⟨b,off+K*3+1,none⟩) o).trans t;have u2:=(a.cell (p:=⟨b,off+K*3+2,none⟩) o).trans z;clear s t z d0 C U Y Z x2;obtain⟨xh,xv,xp⟩:=x;obtain⟨yh,yv,yp⟩:=y;simp only at u0 u1 u2 M N O;go_wp2;go_quiet (fail);go_wp2;go_ret;exact gJ.same (((HT.out.qa T.out (fun _ _=>by simp)).below a).drewN _) ((T.out.trans (ze.qm a) (fun x j=>by cases j)).drewN _)
  ·have f:x ∉ l:=fun k=>r (by have:=aa.out.2 k;rw[m]at this;exact qv this)
   rw[qG r]at ai;rw[qG f];have HM:=qQ f;clear f r m;go_enter func150,ntmps150;go_wp2_with fail;refine ae.out.mono ?_;rintro e w'⟨rfl,rfl⟩;go_wp2_with fail;refine ab.out.mono ?_;rintro e L⟨rfl,a⟩;obtain⟨z0,z1,M,N,O⟩:=ac.out L a;have u0:=(a.cell (p:=⟨b,off+K*3,none⟩) o).trans s;have u1:=(a.cell (p:=⟨b,off+K*3+1,none⟩) o).trans t;have u2:=(a.cell (p:=⟨b,off+K*3+2,none⟩) o).trans z;clear s t z d0 C U Y Z x2;generalize kS l x=R at*;obtain⟨xh,xv,xp⟩:=x;obtain⟨yh,yv,yp⟩:=y;simp only at u0 u1 u2 M N O;go_wp2;go_quiet (fail);go_wp2_with fail;refine(af.out _ (yg a _) HM.out).mono ?_;rintro e w4⟨F',rfl,g2,g3,g4⟩;go_wp2;go_ret;exact gJ.since ⟨F',rfl,g2,g3,g4⟩ ((T.out.trans (ze.qm a) (fun x j=>by cases j)).drewN _)
 ·have f:x ∉ l:=fun k=>by
   have h2:=aa.out.2 k;rw[List.getElem?_eq_none (by rw[<-ag.out];omega)]at h2;cases h2
  rw[qG f];have HM:=qQ f;have t1:¬(K:Int)<(n:Int):=by omega
  have t2:decide (K<n)=false:=qG ak;clear f HF S;generalize kS l x=R at*;go_enter func150,ntmps150;go_wp2_with fail;refine ae.out.mono ?_;rintro e w'⟨rfl,rfl⟩;go_wp2_with fail;refine ab.out.mono ?_;rintro e L⟨rfl,a⟩;obtain⟨z0,z1,M,N,O⟩:=ac.out L a;obtain⟨xh,xv,xp⟩:=x;simp only at M N O;go_wp2;go_quiet (fail);go_wp2_with fail;refine(af.out _ (yg a _) HM.out).mono ?_;rintro e w4⟨F',rfl,g2,g3,g4⟩;go_wp2;go_ret;exact gJ.since ⟨F',rfl,g2,g3,g4⟩ ((T.out.trans (ze.qm a) (fun x j=>by cases j)).drewN _)
end
section
open Go.RowKit Go.Shelf
structure Has(w:World)(p:Value)(l:List zn):Prop where
 laid:∃v,jb w v l/\∀W,Below w.heap.size w W->Calls prog 110 #[p] W fun e w'=>e = .returned v/\W=w'
 qo:jj l
 ok:∀x∈l,vP x
theorem kC.has{w:World}{base g:Nat}{F:List Nat}{l:List zn}(h:kC w base g F l):Has w (mtp g) l:=by
 obtain⟨A,c,c0,c1,-,f,-⟩:=h.shape;obtain⟨v,i,j,m,n,o,b,d⟩:=h;have q:∀ {p:Addr} {u:Value} {W:World},w.cell? p=some u->Below w.heap.size w W->W.cell? p=some u:=fun {p u W} k a=>(a.cell (p:=p) (World.block_lt_of_cell? w _ k)).trans k
 exact⟨⟨_,jC.qw f,fun W a=>CO (q c0 a) (q c1 a)⟩,b,d⟩
theorem Cj{w:World}{p:Value}{l:List zn}(h:Has w p l)(s:l.length<=500000)(k:Nat)(a b:Int):
  Calls prog 106 #[p,.int .u64 (k:Nat),.int .i64 a,.int .i64 b] w (fZ w (kZ l k a b)):=by
 obtain⟨⟨v,m,d⟩,i,f⟩:=h;have n:=qQ (d w (Below.refl _ _));have o:=qQ (ZY v l k a b w m s f i);clear d m i f;generalize kZ l k a b=R at*;go_enter func106,ntmps106;go_wp2_with fail;refine n.out.mono ?_;rintro e w'⟨rfl,rfl⟩;go_wp2_with fail;refine o.out.mono ?_;rintro e w'⟨A,c,rfl,j,r⟩;have q:=qQ j;clear j;go_wp2;go_ret;exact⟨A,c,rfl,q.out,r⟩
def Z5(w:World)(x:zn)(b:Bool)(e:Ending)(w':World):Prop:=e = .returned (.tuple #[ji x,.bool b])/\Below w.heap.size w w'
theorem Ck{w:World}{p:Value}{l:List zn}(h:Has w p l)(y:l.length<=500000)(k:Nat)(n:Int):
  Calls prog 138 #[p,.int .u64 (k:Nat),.int .i64 n] w (Z5 w (kt l k n) (vZ l k n)):=by
 obtain⟨⟨v,s,m⟩,r,q⟩:=h;have c:kY (w.alloc (.cells #[.int .u64 ((0:Nat):Int),.int .i64 0,.int .i64 0] 117)) w.heap.size 0 0 0:=za.new _ _ _;have a:=(Below.refl w.heap.size w).alloc (qZ _) (.cells #[.int .u64 ((0:Nat):Int),.int .i64 0,.int .i64 0] 117);obtain⟨b,f⟩:∃b,w.alloc (.cells #[.int .u64 ((0:Nat):Int),.int .i64 0,.int .i64 0] 117)=b:=⟨_,rfl⟩
 rw[f]at c a;have M:w.alloc (.cells #[.int .u64 0,.int .i64 0,.int .i64 0] 117)=b:=f;clear f;have i:=qQ (m b a);have j:=qQ (Z1 v l k n b (s.below a (qZ _)) (by omega) q r);clear m s r q y;generalize kt l k n=x at*;generalize vZ l k n=o at*;obtain⟨D,I,H⟩:=x;go_enter func138,ntmps138;go_wp2_with fail;refine i.out.mono ?_;rintro e w'⟨rfl,rfl⟩;go_wp2_with fail;refine j.out.mono ?_;rintro e C⟨rfl,d⟩;have t:kY C w.heap.size 0 0 0:=za.below c d;have u:=bj a d;clear c a d j i;obtain⟨z,A,B,J,K,L⟩:=t.facts;go_wp2;exact bodyPost_ret (v:=.tuple #[ji ⟨D,I,H⟩,.bool o]) (by simp[results,Tryz.results138,go_sem,z,A,B]) rfl ⟨rfl,dW u (qZ _) _ _ _⟩
end
section
open Go.ChangeShapes Go.WideShapes Go.ChangeAt Go.RowKit Go.Deep
structure jd where
 v:Value
 l:List zn
abbrev els(L:List jd):List (List zn):=L.map jd.l
abbrev bZ(L:List jd):List Value:=L.map jd.v
def bJ(w:World)(L:List jd):Prop:=∀x∈L,jb w x.v x.l
def bK(w:World)(v:Value)(L:List jd):Prop :=
 (L=[]/\∃a c,v = .slice a 0 c)∨∃b off d,v = .slice (some ⟨b,off,none⟩) L.length d/\L.length<=d/\d<=maxLen/\b<w.heap.size/\∀i x,L[i]? = some x->w.cell? ⟨b,off+i,none⟩=some x.v
def oN(w:World)(v:Value)(L:List jd):Prop:=bK w v L/\bJ w L
theorem bK.below{w w':World}{v:Value}{L:List jd}{B:Nat}(h:bK w v L)(a:Below B w w')(f:w.heap.size<=B):bK w' v L:=by
 rcases h with h|⟨b,off,d,n,k,m,c,j⟩
 ·exact qX h
 ·exact qY ⟨b,off,d,n,k,m,qP c a.size,fun i x o=>(a.cell (p:=⟨b,off+i,none⟩) (qP c f)).trans (j i x o)⟩
theorem bK.form{w:World}{v:Value}{L:List jd}(h:bK w v L):∃A off d,v = .slice A L.length d/\L.length<=maxLen /\
  ∀i x,L[i]? = some x->∃b,A=some ⟨b,off,none⟩/\b<w.heap.size/\w.cell? ⟨b,off+i,none⟩=some x.v:=by
 rcases h with⟨rfl,a,c,rfl⟩|⟨b,off,d,rfl,m,n,f,j⟩
 ·exact⟨a,0,c,rfl,qH _,fun i x h=>by simp at h⟩
 ·exact⟨some ⟨b,off,none⟩,off,d,rfl,by omega,fun i x k=>⟨b,rfl,f,j i x k⟩⟩
theorem bJ.one{w:World}{L:List jd}(h:bJ w L):∀u∈bZ L,u.oneCell'=true:=by
 intro u a;obtain⟨x,b,rfl⟩:=qN.1 a;obtain⟨A,off,c,e,-,-⟩:=(h x b).form;rw[e];rfl
abbrev j8(w:World)(base:Nat)(v:Value)(L:List jd):Prop:=w.ownsRow base 112 1 v L.length (bZ L)
theorem j8.nil(w:World)(base:Nat):j8 w base (.slice none 0 0) []:=World.ownsRow_nil _ _ _ _
theorem j8.at_{w:World}{base:Nat}{v:Value}{L:List jd}(h:j8 w base v L):bK w v L:=by
 have b:=h;rcases h.2 with⟨a,f⟩|⟨g,d,n,a,o,j,m,k,q,r⟩
 ·exact qX ⟨List.length_eq_zero_iff.1 f,none,0,a⟩
 ·refine qY ⟨g,0,d,a,m,k,(qb.1 j).1,fun i x c=>?_⟩;have p:i<L.length:=(qM.1 c).1;rw[a]at b;rw[Nat.zero_add];refine(b.cellAt i (by omega)).trans ?_;show(L.map jd.v)[i]? = _;rw[qz,c];rfl
theorem j8.qw{w:World}{base:Nat}{v:Value}{L:List jd}(h:j8 w base v L)(a:bJ w L):oN w v L:=⟨h.at_,a⟩
theorem j8.below{w w':World}{base B:Nat}{v:Value}{L:List jd}(h:j8 w base v L)(i:Below B w w')(f:w.heap.size<=B):j8 w' base v L:=by
 refine⟨h.1, ?_⟩;rcases h.2 with d|⟨g,b,c,m,j,a,r⟩
 ·exact qX d
 ·obtain⟨k,_⟩:=qb.1 a;exact qY ⟨g,b,c,m,j,(i.block g (qP k f)).trans a,r⟩
theorem j8.some_{w:World}{base n c:Nat}{A:Option Addr}{L:List jd}(h:j8 w base (.slice A n c) L)(k:0<L.length):∃g,A=some ⟨g,0,none⟩/\base<=g/\g<w.heap.size/\n=L.length:=by
 rcases h.2 with⟨a,j⟩|⟨g,f,i,a,b,d,_⟩
 ·omega
 ·obtain⟨rfl,rfl,-⟩:=Value.slice.inj a;exact⟨g,rfl,b,(qb.1 d).1,rfl⟩
theorem j8.cell{w:World}{base g n c i:Nat}{L:List jd}{x:jd}(h:j8 w base (.slice (some ⟨g,0,none⟩) n c) L)(b:n=L.length)(a:L[i]? = some x):w.cell? ⟨g,i,none⟩=some x.v/\w.frozen? ⟨g,i,none⟩=false:=by
 subst b;have d:i<L.length:=(qM.1 a).1;refine⟨(h.cellAt i (by omega)).trans ?_,h.frozenAt i⟩;show(L.map jd.v)[i]? = _;rw[qz,a];rfl
theorem j8.put{w:World}{base g n c i:Nat}{L:List jd}(h:j8 w base (.slice (some ⟨g,0,none⟩) n c) L)(b:n=L.length)(x:jd):j8 (w.setCell ⟨g,i,none⟩ x.v) base (.slice (some ⟨g,0,none⟩) n c) (L.set i x):=by
 subst b;have a:=(h.stored i x.v).1;unfold j8 bZ;rw[List.length_set,List.map_set];exact a
theorem Cv: (prog.info? 112).map (fun i=>(i.zero,i.size,i.bytes))=some (some (.slice none 0 0),1,24):=by kernel_rfl
theorem bK.src{w:World}{v:Value}{L:List jd}(h:bK w v L):cW w 1 v L.length (bZ L):=by
 refine⟨by unfold bZ;rw[qj,Nat.mul_one], ?_⟩;rcases h with⟨rfl,a,c,rfl⟩|⟨b,off,f,rfl,n,o,p,k⟩
 ·cases a with
  | none=>exact qX ⟨c,rfl,rfl⟩
  | some a=>exact qY ⟨a,c,rfl,fun j u d=>by cases d⟩
 ·refine qY ⟨⟨b,off,none⟩,f,rfl,fun j u d=>?_⟩;unfold bZ at d;rw[qz]at d;obtain⟨x,m,rfl⟩:=Option.map_eq_some_iff.1 d;have i:(⟨b,off,none⟩:Addr).add j=⟨b,off+j,none⟩:=by unfold Addr.add;split<;>simp_all
  rw[i];exact k j x m
theorem Cy(w:World)(x:jd):bK (w.alloc (.cells #[x.v] 112)) (.slice (some ⟨w.heap.size,0,none⟩) 1 1) [x]:=by
 refine qY ⟨w.heap.size,0,1,rfl,qZ _,by unfold maxLen;omega,by simp,fun i y a=>?_⟩
 match i,a with
 | 0,a =>
   obtain rfl:x=y:=(by simpa using a);simp
theorem Z6{w:World}{base:Nat}{a b:Value}{L M:List jd}(p:j8 w base a L)(q:bK w b M)(m:∀u∈bZ M,u.oneCell'=true)(y:L.length+M.length<=1000000)(n:base<=w.heap.size)(f:TypeId):
  ∃A c w',(Builtin.append_ #[159,159] f #[a,b]).run prog w = .ok (.slice A (L.length+M.length) c) w'/\j8 w' base (.slice A (L.length+M.length) c) (L++M)/\w.grownBy w' a.ownBlock/\((Value.slice A (L.length+M.length) c).ownBlock=a.ownBlock∨(Value.slice A (L.length+M.length) c).ownBlock=some w.heap.size):=by
 obtain⟨v,o,r,s,t⟩:=info_parts Cv;obtain⟨z,w',i,d,j,k⟩:=cr (P:=prog) w base 159 112 v _ 1 24 f Tryz.underlying159 o r s t rfl (by decide) a L.length (bZ L) p b M.length (bZ M) q.src m (by unfold maxLen;omega) (by omega) n;obtain⟨A,c,rfl,-,-,-⟩:=v8 d;refine⟨A,c,w',i, ?_,j,k⟩;unfold j8 bZ;rw[List.map_append,qI];exact d
theorem sz: (112:TypeId)≠117:=by decide
theorem j8.grown{w w':World}{base base':Nat}{u v:Value}{L:List jd}{l:List zn}(h:j8 w base v L)(i:jC w base' u l)(c:w.grownBy w' u.ownBlock):j8 w' base v L :=
 gz h (F:=u.ownBlock.toList) (ze.grown (ze.refl _ w) c (fun k d=>qX (by rw[d];simp))) (fun b a f=>cG i h sz.symm b a (by simpa using f))
theorem jC.zY{w w':World}{base base':Nat}{u v:Value}{L:List jd}{l:List zn}(h:jC w base v l)(i:j8 w base' u L)(c:w.grownBy w' u.ownBlock):jC w' base v l :=
 gz h (F:=u.ownBlock.toList) (ze.grown (ze.refl _ w) c (fun k d=>qX (by rw[d];simp))) (fun b a f=>cG i h sz b a (by simpa using f))
theorem jC.xE{w:World}{base base' g n c i:Nat}{v x:Value}{L:List jd}{l:List zn}(h:jC w base v l)(b:j8 w base' (.slice (some ⟨g,0,none⟩) n c) L):jC (w.setCell ⟨g,i,none⟩ x) base v l :=
 vW h (fun a=>cG b h sz g a rfl) x
theorem j8.alloc{w:World}{base:Nat}{v:Value}{L:List jd}(h:j8 w base v L)(o:Obj):j8 (w.alloc o) base v L:=j8.below h ((Below.refl w.heap.size w).alloc (qZ _) o) (qZ _)
def sj(w:World)(L:List jd)(e:Ending)(w':World):Prop:=∃A c,e = .returned (.slice A L.length c)/\j8 w' w.heap.size (.slice A L.length c) L/\Below w.heap.size w w'
theorem Z7(A:Option Addr)(n c:Nat)(w:World):(binOp .eql 159 (.slice A n c) (.slice none 0 0)).run prog w = .ok (.bool A.isNone) w:=by
 have a:=run_equal_slice_nil (P:=prog) w 159 112 A n c Tryz.underlying159;simp only[binOp];simp[a]
theorem Cu(v:Value)(L:List jd)(w:World)(h:oN w v L)(r:L.length<=500000):Calls prog 170 #[v] w (sj w L):=by
 obtain⟨A,off,n,rfl,-,-⟩:=h.1.form;cases A with
 | none =>
   have I:L=[]:=by
    rcases h.1 with⟨e,_⟩|⟨b,N,M,e,_⟩
    ·exact e
    ·cases e
   subst I;have J:=fun W=>Z7 none 0 n W
   clear h r;go_enter func170,ntmps170;go_wp2;go_ret;exact⟨none,0,rfl,j8.nil _ _,Below.refl _ _⟩
 | some a =>
   have f:=(Below.refl w.heap.size w).alloc (qZ _) (.cells #[] 112);have s:j8 (w.alloc (.cells #[] 112)) w.heap.size (.slice (some ⟨w.heap.size,0,none⟩) 0 0) []:=World.ownsRow_made w #[] 0 (qZ _) (qH _) rfl;have p:=h.1.below f (qZ _);obtain⟨u,C,w',c,d,o,D⟩:=Z6 s p h.2.one (by simp;omega) (by simp) 159;have q:=f.trans (mT o (B:=w.heap.size) (by simp) (fun k H=>by simp[Value.ownBlock]at H;omega));have z:=qQ q;rw[List.nil_append]at d;have t:([]:List jd).length+L.length=L.length:=(by simp);rw[t]at c d;have j:=qQ d;clear h r f s p d o D q t;unfold sj;obtain⟨m,i⟩:∃m,m=L.length:=⟨_,rfl⟩
   have K:=qQ i;rw[<-i]at c j ⊢;clear i;have y:=qQ c;have J:=fun W=>Z7 (some a) m n W
   clear c;go_enter func170,ntmps170;go_wp2_with (first | (at_builtin;refine yc rfl _ _ rfl rfl rfl y.out ?_) | fail);go_ret;exact⟨u,C,rfl,j.out,z.out⟩
end
section
open Go.RowKit Go.Shelf
theorem Cg{l:List zn}{n:Nat}(h:l.length=n+1):l.getLast? = l[n]? := by rw[List.getLast?_eq_getElem?,h,Nat.add_sub_cancel]
theorem Cb(v:Value)(l:List zn)(x:zn)(w:World)(h:jb w v l)(D:l.length<=1000000):
  Calls prog 171 #[v,ji x] w fun e w'=>e = .returned (.bool (decide (l.getLast? = some x)))/\Below w.heap.size w w':=by
 obtain⟨A,off,M,rfl,-,o⟩:=h.form;obtain⟨a,d,c⟩:=x;have f:=(Below.refl w.heap.size w).alloc (qZ _) (.cells #[.int .u64 (a:Nat),.int .i64 d,.int .i64 c] 117);have H:(w.alloc (.cells #[.int .u64 (a:Nat),.int .i64 d,.int .i64 c] 117)).cell? ⟨w.heap.size,0,none⟩=some (.int .u64 (a:Nat)):=World.cell?_alloc_at _ _ _ _ rfl;have I:(w.alloc (.cells #[.int .u64 (a:Nat),.int .i64 d,.int .i64 c] 117)).cell? ⟨w.heap.size,1,none⟩=some (.int .i64 d):=World.cell?_alloc_at _ _ _ _ rfl;have J:(w.alloc (.cells #[.int .u64 (a:Nat),.int .i64 d,.int .i64 c] 117)).cell? ⟨w.heap.size,2,none⟩=some (.int .i64 c):=World.cell?_alloc_at _ _ _ _ rfl;by_cases n:l=[]
 ·subst n;have e:decide (([]:List zn).getLast? = some ⟨a,d,c⟩)=false:=qG (by simp);rw[e];clear h o D e;simp only[List.length_nil];go_enter func171,ntmps171;obtain⟨i,t⟩:∃i,w.alloc (.cells #[.int .u64 (a:Nat),.int .i64 d,.int .i64 c] 117)=i:=⟨_,rfl⟩
  rw[t]at f H I J;go_wp2;go_quiet (fail);go_wp2;go_ret;exact⟨rfl,yg f _⟩
 ·obtain⟨m,s⟩:∃m,l.length=m+1:=⟨l.length-1,by have:=List.length_pos_iff.2 n;omega⟩
  obtain⟨y,u⟩:∃y,l[m]? = some y:=⟨_,qD (by omega)⟩
  have e:decide (l.getLast? = some ⟨a,d,c⟩)=decide (y=⟨a,d,c⟩):=by rw[Cg s,u];exact decide_eq_decide.2 ⟨qv,congrArg some⟩
  rw[e];obtain⟨b,rfl,j,z,B,C⟩:=o m y u;have c0:=(f.cell (p:=⟨b,off+m*3,none⟩) j).trans z;have c1:=(f.cell (p:=⟨b,off+m*3+1,none⟩) j).trans B;have c2:=(f.cell (p:=⟨b,off+m*3+2,none⟩) j).trans C;have K:=fun W=>Xp y ⟨a,d,c⟩ W
  obtain⟨k,r⟩:∃k,k=l.length:=⟨_,rfl⟩
  have L:k=m+1:=r.trans s;rw[<-r];have N:(k:Int)-1=(m:Int):=by omega
  have O:decide ((0:Int)<(k:Int))=true:=qW (by omega);have R:decide (0<k)=true:=qW (by omega);have S:(0:Int)<(k:Int):=by omega
  have T:0<k:=by omega
  have P:IntKind.i64.wrap ((m:Nat):Int)=(m:Nat):=IntWalk.i64_in _ ⟨by omega,by omega⟩;have Q:(m:Int)<(k:Int):=by omega
  clear h o D e s u j z B C L r n;generalize decide (y=(⟨a,d,c⟩:zn))=q at*;obtain⟨U,X,V⟩:=y;simp only at c0 c1 c2 K;go_enter func171,ntmps171;obtain⟨i,t⟩:∃i,w.alloc (.cells #[.int .u64 (a:Nat),.int .i64 d,.int .i64 c] 117)=i:=⟨_,rfl⟩
  rw[t]at f H I J c0 c1 c2;go_wp2;go_quiet (fail);go_wp2;go_ret;exact⟨rfl,yg f _⟩
def gK(L:List (List zn))(k:Nat)(d:Int):Prop:=(d<0/\-1<=d/\vz (L.take k)=none)∨∃(j:Nat) (x:zn) (t:List zn),d=(j:Nat)/\j<k/\L[j]? = some (x::t)/\vz (L.take k)=some x
theorem Cc(L:List (List zn)):gK L 0 (-1):=qX ⟨by omega,by omega,rfl⟩
theorem Cd{L:List (List zn)}{k:Nat}{d:Int}(h:L[k]? = some [])(i:gK L k d):gK L (k+1) d:=by
 unfold gK at*;rw[sO h];rcases i with⟨a,c,b⟩|⟨j,x,t,a,c,b,f⟩
 ·exact qX ⟨a,c,by rw[b];rfl⟩
 ·exact qY ⟨j,x,t,a,by omega,b,by rw[f];rfl⟩
theorem Cf{L:List (List zn)}{k:Nat}{d:Int}{x:zn}{t:List zn}(h:L[k]? = some (x::t))(f:gK L k d)(m:d<0):gK L (k+1) (k:Nat):=by
 unfold gK at*;rw[sO h];rcases f with⟨b,c,a⟩|⟨j,y,u,b,c,a,i⟩
 ·exact qY ⟨k,x,t,rfl,Nat.lt_succ_self _,h,by rw[a];rfl⟩
 ·omega
theorem Ch{L:List (List zn)}{k j:Nat}{x y:zn}{t u:List zn}(h:L[k]? = some (x::t))(n:gK L k (j:Nat))(c:L[j]? = some (y::u)):gK L (k+1) (if jE x y=true then(k:Nat) else(j:Nat)):=by
 unfold gK at*;rw[sO h];rcases n with⟨d,f,a⟩|⟨i,z,v,d,f,a,m⟩
 ·omega
 ·obtain rfl:j=i:=by omega
  rw[c]at a;obtain⟨rfl,rfl⟩:=List.cons.inj (qv a);rw[m];split
  ·rename_i b;exact qY ⟨k,x,t,rfl,Nat.lt_succ_self _,h,qK b⟩
  ·rename_i b;exact qY ⟨j,y,u,rfl,by omega,c,qJ b⟩
def fK(T:List zn)(L:List (List zn))(k:Nat):Prop:=∀(i:Nat) (x:zn) (t:List zn),i<k->L[i]? = some (x::t)->T.getLast?≠some x
theorem Cl(T:List zn)(L:List (List zn)):fK T L 0:=fun i x t h=>absurd h (Nat.not_lt_zero _)
theorem Cm{T:List zn}{L:List (List zn)}{k:Nat}(h:L[k]? = some [])(b:fK T L k):fK T L (k+1):=fun i x t d a=>by
 rcases Nat.lt_or_ge i k with c|c
 ·exact b i x t c a
 ·obtain rfl:i=k:=by omega
  rw[h]at a;cases a
theorem Cn{T:List zn}{L:List (List zn)}{k:Nat}{x:zn}{t:List zn}(h:L[k]? = some (x::t))(d:T.getLast?≠some x)(b:fK T L k):fK T L (k+1):=fun i y u f a=>by
 rcases Nat.lt_or_ge i k with c|c
 ·exact b i y u c a
 ·obtain rfl:i=k:=by omega
  rw[h]at a;obtain⟨rfl,rfl⟩:=List.cons.inj (qv a);exact d
theorem Cp{T:List zn}{L:List (List zn)}(c:fK T L L.length):∀l∈L,∀x t,l=x::t->T.getLast?≠some x:=fun l b x t d=>by
 obtain⟨i,a⟩:=List.getElem?_of_mem b;have:=(qM.1 a).1;subst d;exact c i x t this a
theorem Cr{L:List (List zn)}{d:Int}(h:gK L L.length d):(d<0/\-1<=d/\vz L=none)∨∃(j:Nat) (x:zn) (t:List zn),d=(j:Nat)/\j<L.length/\L[j]? = some (x::t)/\vz L=some x:=by
 unfold gK at h;rw[List.take_length]at h;exact h
theorem sk{L:List jd}{k:Nat}{y:jd}(h:L[k]? = some y):(els L)[k]? = some y.l:=by unfold els;rw[qz,h];rfl
theorem lX(L:List jd):(els L).length=L.length:=qj _
theorem Z8(L:List jd)(i:Nat)(x:jd):els (L.set i x)=(els L).set i x.l:=List.map_set
theorem bJ.set{w:World}{L:List jd}(h:bJ w L){i:Nat}{x:jd}(b:jb w x.v x.l):bJ w (L.set i x):=fun y a=>by
 rcases List.mem_or_eq_of_mem_set a with a|rfl
 ·exact h y a
 ·exact b
def bz(w:World)(A1:Option Addr)(n c1:Nat)(R:List zn)(g:Nat)(u:Value)(wr:World):Prop:=∃(T:List zn) (a:List jd) (A:Option Addr) (c:Nat),u = .slice A T.length c /\
 jC wr w.heap.size (.slice A T.length c) T/\j8 wr w.heap.size (.slice A1 n c1) a/\a.length=n/\bJ w a/\dB g T (els a)/\gL T (els a)=R/\Below w.heap.size w wr
theorem bz.start{w w1:World}{A1:Option Addr}{c1:Nat}{L:List jd}(h:j8 w1 w.heap.size (.slice A1 L.length c1) L)(b:bJ w L)(a:Below w.heap.size w w1):bz w A1 L.length c1 (bx (els L)) (2*kJ (els L)+1) (.slice none 0 0) w1 :=
 ⟨[],L,none,0,rfl,jC.nil _ _,h,rfl,b,CD _,rfl,a⟩
theorem bz.drop{w w2:World}{n c1 c2 g c k m b:Nat}{A2 B':Option Addr}{R T:List zn}{a:List jd}{x:zn}{t:List zn}
  (o:jC w2 w.heap.size (.slice A2 T.length c2) T) (i:j8 w2 w.heap.size (.slice (some ⟨g,0,none⟩) n c1) a) (f:a.length=n) (q:bJ w a) (u:dB c T (els a)) (r:gL T (els a)=R) (p:Below w.heap.size w w2)
  (z:m=T.length) (s:w.heap.size<=g) (j:(els a)[k]? = some (x::t)) (y:T.getLast? = some x) (v:jb w (.slice B' t.length b) t):
  0<c/\bz w (some ⟨g,0,none⟩) n c1 R (c-1) (.slice A2 m c2) (w2.setCell ⟨g,k,none⟩ (.slice B' t.length b)):=by
 have d:=CE u j;subst z;refine⟨d.1,T,a.set k ⟨.slice B' t.length b,t⟩,A2,c2,rfl,jC.xE o i,j8.put i f.symm ⟨.slice B' t.length b,t⟩,by rw[List.length_set,f],q.set v, ?_, ?_,p.setCell s _⟩
 ·rw[Z8];exact d.2
 ·rw[Z8,CW y j];exact r
theorem bz.add{w w2:World}{n c1 c2 d o:Nat}{A1 A2:Option Addr}{R T:List zn}{a:List jd}{x:zn}
  (s:jC w2 w.heap.size (.slice A2 T.length c2) T) (D:j8 w2 w.heap.size (.slice A1 n c1) a) (C:a.length=n) (y:bJ w a) (B:dB d T (els a)) (z:gL T (els a)=R) (b:Below w.heap.size w w2)
  (J:o=T.length) (k:vz (els a)=some x) (m:∀l∈els a,∀x t,l=x::t->T.getLast?≠some x) (I:T.length+1<=1000000):
  0<d/\∃u w',(Builtin.append_ #[112,112] 112 #[.slice A2 o c2,.slice (some ⟨w2.heap.size,0,none⟩) 1 1]).run prog (w2.alloc (.cells #[.int .u64 (x.h:Nat),.int .i64 x.v,.int .i64 x.p] 117)) = .ok u w'/\bz w A1 n c1 R (d-1) u w':=by
 subst J;have j:=CF B k m;have H:j8 (w2.alloc (.cells #[.int .u64 (x.h:Nat),.int .i64 x.v,.int .i64 x.p] 117)) w.heap.size (.slice A1 n c1) a:=j8.alloc D _;have f:jC (w2.alloc (.cells #[.int .u64 (x.h:Nat),.int .i64 x.v,.int .i64 x.p] 117)) w.heap.size (.slice A2 T.length c2) T:=jC.below s ((Below.refl w2.heap.size w2).alloc (qZ _) _) (qZ _);obtain⟨A,c,w',q,r,i,-⟩:=mS f (Xt w2 x) (by simpa using I) (by have:=b.size;simp;omega) 112;refine⟨j.1,_,w',q,T++[x],a,A,c, ?_, ?_,j8.grown H f i,C,y,j.2,by rw[CA k m];exact z, ?_⟩
 ·rw[qI]
 ·rw[qI];exact r
 ·exact(b.alloc b.size _).trans (mT i (by have:=b.size;simp;omega) (jC.block f))
theorem Cs(v:Value)(L:List jd)(w:World)(hL:oN w v L)(hn:L.length<=500000)(ht:kJ (els L)<=500000):
  Calls prog 108 #[v] w (fZ w (bx (els L))):=by
 have af:=qQ (Cu v L w hL hn);have ao:=qQ (fun w1 A1 c1 h1 h2=>bz.start (w:=w) (w1:=w1) (A1:=A1) (c1:=c1) (L:=L) h1 hL.2 h2);have aY:=qQ (qR (CG (els L)) ht);unfold sj at af;generalize bx (els L)=R at*;generalize 2*kJ (els L)+1=G at*;obtain⟨n,aO⟩:∃n,n=L.length:=⟨_,rfl⟩
 rw[<-aO]at hn ao af;clear hL ht aO;go_enter func108,ntmps108;go_wp2_with fail;go_step3;go_wp2_with fail;refine af.out.mono ?_;rintro e w1⟨A1,c1,rfl,r1,b1⟩;have HS:=qQ (ao.out w1 A1 c1 r1 b1);clear ao af r1 b1;go_wp2;go_step3;go_wp2;go_loopg [4] G (fun g u wr=>bz w A1 n c1 R g u wr)
 case atStart=>exact HS.out
 case round =>
  obtain⟨wo,rfl⟩:∃wo,wo=wr:=⟨_,rfl⟩
  obtain⟨go,rfl⟩:∃go,go=gk:=⟨_,rfl⟩
  obtain⟨T,C,A2,c2,rfl,hT,aP,aL,aH,aJ,ar,aF⟩:=hrel;have HT:=qQ hT;have an:=qQ aP;have X:=qQ aH;have az:=qQ aJ;have al:=qQ ar;have ax:=qQ aF;have f:=qQ aL;have aC:=qQ (show T.length<=500000 by have:=CC T (els C);rw[ar]at this;have:=aY.out;omega);obtain⟨tl,aw⟩:∃tl,tl=T.length:=⟨_,rfl⟩
  have ag:=qQ aw;rw[<-aw];clear hT aP aH aJ ar aF aL aw;go_wp2;go_loopg [5,12] n (fun g2 s5 a4 wx=>∃(k:Nat) (d:Int),k+g2=n/\a4 = .int .i64 k/\s5 = .int .i64 d/\gK (els C) k d/\fK T (els C) k/\Below wo.heap.size wo wx)
  case atStart=>exact⟨0,-1,by omega,rfl,rfl,Cc _,Cl _ _,Below.refl _ _⟩
  case round =>
   obtain⟨k,d,a8,rfl,rfl,aM,aN,ab⟩:=hrel;have Y:=qQ aM;have am:=qQ aN;have ae:=qQ ab;have S:=qQ (j8.below an.out ab (qZ _));have ah:=qQ (jC.below HT.out ab (qZ _));have a:=qQ (show Below w.heap.size w wr from ax.out.trans (ab.mono ax.out.size));clear aM aN ab;cases gk with
   | zero =>
     obtain rfl:k=n:=(by omega);have s1:¬(k:Int)<(k:Int):=(by omega);have a2:=Cr (L:=els C) (d:=d) (by rw[lX,f.out];exact Y.out);have aX:=qQ (Cp (T:=T) (L:=els C) (by rw[lX,f.out];exact am.out));rcases a2 with⟨m,q,ad⟩|⟨j,x,t,rfl,hj,hx,ad⟩
     ·have aS:=qQ (show fZ w R (.returned (.slice A2 tl c2)) wr by
       rw[<-al.out,CB ad,ag.out];exact⟨A2,c2,rfl,ah.out,a.out⟩)
      clear ad;go_wp2
      (try rw[Exit.noGoto_ret])
      go_ret;exact aS.out
     ·obtain⟨a9,u,w3,e1,e2⟩:=bz.add ah.out S.out f.out X.out az.out al.out a.out ag.out ad aX.out (by have:=aC.out;omega);have ay:=qQ e1;have aR:=qQ e2;have aK:j<k:=(by rw[lX,f.out]at hj;exact hj);obtain⟨y,I⟩:∃y,C[j]? = some y:=⟨_,qD (by rw[f.out];exact aK)⟩
      obtain⟨g,rfl,ai,au,-⟩:=an.out.some_ (by rw[f.out];omega);obtain⟨D,-⟩:=j8.cell S.out f.out.symm I;have H:=X.out y (qO I);have Q:=sk I;rw[hx]at Q;obtain⟨yv,yl⟩:=y;obtain rfl:x::t=yl:=qv Q;simp only at D H;obtain⟨B,off,aD,rfl,ac,P⟩:=H.form;obtain⟨b,rfl,A,m,q,s⟩:=P 0 x rfl;simp only[Nat.zero_mul,Nat.add_zero]at m q s;have J:=(a.out.cell (p:=⟨b,off,none⟩) A).trans m;have K:=(a.out.cell (p:=⟨b,off+1,none⟩) A).trans q;have M:=(a.out.cell (p:=⟨b,off+2,none⟩) A).trans s;have s2:(j:Int)<(k:Int):=(by omega);have s3:(0:Int)<(((t.length:Nat):Int)+1):=(by omega);clear e1 e2 hj aK hx ad I Q H ac P m q s A;obtain⟨xh,xv,xp⟩:=x;simp only at J K M ay;simp only[List.length_cons]at D;go_wp2_with (first | (at_builtin;refine yc rfl _ _ rfl rfl rfl ay.out ?_) | fail);go_roundg (go-1)
      case measure=>omega
      case rel=>exact aR.out
   | succ gi =>
     have a1:k<n:=(by omega);have s1:(k:Int)<(n:Int):=(by omega);obtain⟨y,I⟩:∃y,C[k]? = some y:=⟨_,qD (by rw[f.out];exact a1)⟩
     obtain⟨g,rfl,ai,au,-⟩:=an.out.some_ (by rw[f.out];omega);obtain⟨D,fy⟩:=j8.cell S.out f.out.symm I;have N:=qQ (sk I);have H:=X.out y (qO I);have aV:=qQ I;clear I;obtain⟨yv,yl⟩:=y;simp only at D H N;have aT:=qQ H;obtain⟨B,off,aD,rfl,ac,P⟩:=H.form;cases yl with
     | nil =>
       simp only[List.length_nil]at D;clear P ac H;go_wp2;go_roundg gi
       case measure=>omega
       case rel=>exact⟨k+1,d,by omega,by go_num,rfl,Cd N.out Y.out,Cm N.out am.out,ae.out⟩
     | cons x t =>
       simp only[List.length_cons]at D;obtain⟨b,rfl,A,m,q,s⟩:=P 0 x rfl;simp only[Nat.zero_mul,Nat.add_zero]at m q s;have J:=(a.out.cell (p:=⟨b,off,none⟩) A).trans m;have K:=(a.out.cell (p:=⟨b,off+1,none⟩) A).trans q;have M:=(a.out.cell (p:=⟨b,off+2,none⟩) A).trans s;have s3:(0:Int)<(((t.length:Nat):Int)+1):=(by omega);have s4:(((t.length:Nat):Int)+1==0)=false:=qy.2 (by omega);have V:=Cb (.slice A2 tl c2) T x wr (by rw[ag.out];exact jC.qw ah.out) (by have:=aC.out;omega);have ap:b<wr.heap.size:=qP A a.out.size;have aI:g<wr.heap.size:=qP au ae.out.size;by_cases U:T.getLast? = some x
       ·rw[qW U]at V;have Z:=qQ V;obtain⟨B',c',hs,hp⟩:=Xi (k:=1) aT.out (by simp);have a_:∀W,(Instr.slice 112 (.slice (some ⟨b,off,none⟩) (t.length+1) aD) (some (.int .i64 1)) none none).run prog W = .ok (.slice B' t.length c') W:=fun W=>hs W
        have HP:=qQ (show jb w (.slice B' t.length c') t from hp w.heap.size w (qZ _) (Below.refl _ _));have aQ:=qQ (fun w2 h1 h2 h3=>bz.drop (w:=w) (w2:=w2) (c1:=c1) (c2:=c2) (A2:=A2) h1 h2 f.out X.out az.out al.out h3 ag.out ai N.out U HP.out);have HG:=qQ ai;clear U hs hp m q s P ac H V ai au A;obtain⟨xh,xv,xp⟩:=x;simp only at J K M;go_wp2_with fail;refine Z.out.mono ?_;rintro e w2⟨rfl,r⟩;have a6:=(r.cell (p:=⟨g,k,none⟩) aI).trans D;have a7:=(j8.cell (j8.below S.out r (qZ _)) f.out.symm aV.out).2;have HD:=qQ (aQ.out w2 (jC.below ah.out r (qZ _)) (j8.below S.out r (qZ _)) (a.out.trans (r.mono a.out.size)));clear J K M D fy r;go_wp2;go_roundg (go-1)
        case measure=>have:=HD.out.1;omega
        case rel=>exact HD.out.2
       ·rw[qG U]at V;have Z:=qQ V;have aB:=qQ (Cn N.out U am.out);clear U V H ac P m q s;by_cases hd:d<0
        ·have aW:=qQ (Cf N.out Y.out hd);obtain⟨xh,xv,xp⟩:=x;simp only at J K M;go_wp2_with fail;refine Z.out.mono ?_;rintro e w2⟨rfl,r⟩;have ak:=qQ (bj ae.out r);clear J K M D fy r;go_wp2_with fail;go_quiet (fail);go_wp2;go_roundg gi
         case measure=>omega
         case rel=>exact⟨k+1,(k:Nat),by omega,by go_num,rfl,aW.out,aB.out,yg ak.out _⟩
        ·obtain⟨j,z,u,rfl,hj,hz,-⟩:∃(j:Nat) (z:zn) (u:List zn),d=(j:Nat)/\j<k/\(els C)[j]? = some (z::u)/\vz ((els C).take k)=some z:=by
          rcases Y.out with⟨h,_⟩|h
          ·exact absurd h hd
          ·exact h
         have aA:=qQ (Ch N.out Y.out hz);obtain⟨y2,aj⟩:∃y,C[j]? = some y:=⟨_,qD (by rw[f.out];omega)⟩
         obtain⟨gy,-⟩:=j8.cell S.out f.out.symm aj;have av:=X.out y2 (qO aj);have Q:=sk aj;rw[hz]at Q;obtain⟨ba,a5⟩:=y2;obtain rfl:z::u=a5:=qv Q;simp only at gy av;obtain⟨B2,i,aE,rfl,a3,aG⟩:=av.form;obtain⟨c,rfl,aa,m,q,s⟩:=aG 0 z rfl;simp only[Nat.zero_mul,Nat.add_zero]at m q s;simp only[List.length_cons]at gy;have g0:=(a.out.cell (p:=⟨c,i,none⟩) aa).trans m;have g1:=(a.out.cell (p:=⟨c,i+1,none⟩) aa).trans q;have g2:=(a.out.cell (p:=⟨c,i+2,none⟩) aa).trans s;have aq:c<wr.heap.size:=qP aa a.out.size;have s5:(0:Int)<(((u.length:Nat):Int)+1):=(by omega);have s6:(j:Int)<(n:Int):=(by omega);have s7:decide ((j:Int)<0)=false:=qG (by omega);have HL:=fun W=>fo x z W
         clear m q s hj hz aj Q av a3 aG aa hd A;cases o:jE x z
         all_goals
          rw[o]at HL aA;have aU:=qQ HL;clear HL o;obtain⟨xh,xv,xp⟩:=x;obtain⟨zh,zv,zp⟩:=z;simp only at J K M g0 g1 g2;go_wp2_with fail;refine Z.out.mono ?_;rintro e w2⟨rfl,r⟩;have ak:=qQ (bj ae.out r)
          have HS:Hid (∀W,Below w2.heap.size w2 W->Below w2.heap.size w2 W/\W.cell? ⟨g,j,none⟩=some (.slice (some ⟨c,i,none⟩) (u.length+1) aE)/\W.cell? ⟨b,off,none⟩=some (.int .u64 (xh:Nat))/\W.cell? ⟨b,off+1,none⟩=some (.int .i64 xv)/\W.cell? ⟨b,off+2,none⟩=some (.int .i64 xp) /\
           W.cell? ⟨c,i,none⟩=some (.int .u64 (zh:Nat))/\W.cell? ⟨c,i+1,none⟩=some (.int .i64 zv)/\W.cell? ⟨c,i+2,none⟩=some (.int .i64 zp)):=qQ fun W hW=>by
           have O:=bj r hW;exact⟨hW,(O.cell (p:=⟨g,j,none⟩) aI).trans gy,(O.cell (p:=⟨b,off,none⟩) ap).trans J,(O.cell (p:=⟨b,off+1,none⟩) ap).trans K,(O.cell (p:=⟨b,off+2,none⟩) ap).trans M,(O.cell (p:=⟨c,i,none⟩) aq).trans g0,(O.cell (p:=⟨c,i+1,none⟩) aq).trans g1,(O.cell (p:=⟨c,i+2,none⟩) aq).trans g2⟩
          obtain⟨-,t0,t1,t2,t3,t4,t5,t6⟩:=HS.out w2 (Below.refl _ _);clear J K M g0 g1 g2 D fy r gy Z;go_wp2_with fail
          go_region_held3 (fun W=>Below w2.heap.size w2 W/\W.cell? ⟨g,j,none⟩=some (.slice (some ⟨c,i,none⟩) (u.length+1) aE)/\W.cell? ⟨b,off,none⟩=some (.int .u64 (xh:Nat))/\W.cell? ⟨b,off+1,none⟩=some (.int .i64 xv)/\W.cell? ⟨b,off+2,none⟩=some (.int .i64 xp) /\
           W.cell? ⟨c,i,none⟩=some (.int .u64 (zh:Nat))/\W.cell? ⟨c,i+1,none⟩=some (.int .i64 zv)/\W.cell? ⟨c,i+2,none⟩=some (.int .i64 zp))
           (first | (with_reducible assumption) | ((with_reducible refine HS.out _ ?_);(first | (with_reducible assumption) | (with_reducible exact Below.refl _ _) | (with_reducible exact(Below.refl _ _).drew) | exact(bj (And.left (by with_reducible assumption)) ‹Below _ _ _›));done) | fail)
           (first
           | (go_at_call 172;((with_reducible refine(aU.out _).mono ?_);rintro e w3⟨rfl,a0⟩;have aZ:Below w2.heap.size w2 w3:=bj (And.left (by with_reducible assumption)) a0))
           | fail)
          all_goals
           go_wp2;go_roundg gi
           case measure=>omega
           case rel=>exact⟨k+1,_,by omega,by go_num,rfl,aA.out,aB.out,bj ak.out aZ⟩
end
end Go.Proofs.YthejglbnkmimjaaGreat
