import Derived.Test.YthejglbnkmimjaaGreatQp06
import Derived.Test.YthejglbnkmimjaaGreatQp19
set_option linter.unusedVariables false
set_option maxRecDepth 100000
set_option maxHeartbeats 9000000
namespace Go.Proofs.YthejglbnkmimjaaGreat
open Proofs.Tryz
section
open Go.RowKit Go.Shelf
theorem qZx{H:Tw}(a:H.size=24):¬H.toList=[]/\(H.toList==[])=false:=by
 have:¬H.toList=[]:=fun e=>by
  have h:H=ByteArray.empty:=qi (Array.toList_inj.1 (by rw[<-Lib.toList_data,e];rfl));rw[h]at a;cases a
 exact⟨this,qg.2 this⟩
def og(w:World)(l:List jC)(e:Ending)(w':World):Prop:=e=.returned (.tuple #[.string (tbS l),.int .i64 (tbE l)])/\Below w.1.size w w'
theorem qZz(v:Value)(l:List jC)(w:World)(f:kC w v l)(j:l.length<=40000)(b:ya l=false):
  Calls prog 174 #[v] w (og w l):=by
 have a:=Zz v l w f (by omega);rw[b]at a;have g:=qQ a;obtain⟨c,d⟩:=Y6 (OZ b);unfold og;rw[c,d];clear a b f c d;go_enter func174,ntmps174;go_wp2_with fail;refine g.out.mono ?_;rintro e k⟨rfl,i⟩;go_wp2;go_ret2;exact⟨rfl,i⟩
theorem qZj(v:Value)(l:List jC)(w:World)(L:kC w v l)(hn:l.length<=40000)(t:∀x∈l,kz x)(M:ya l=true):
  Calls prog 174 #[v] w (og w l):=by
 have z:=Zz v l w L (by omega);rw[M]at z;obtain⟨A,off,am,rfl,-,ac⟩:=L.form;have B:=qQ z;have HC:=qQ ac;have HX:=qQ (show ∀i x,l[i]? = some x->kz x from fun i x h=>t x (qM h));have HY:=qQ (show(∀x∈l,mayE x=true)->tbS l=vO (fh l)/\tbE l=0 from fun h=>ZF (ZE.2 ⟨M,h⟩));have ag:=qQ (show ∀x∈l,mayE x=false->tbS l=ByteArray.empty/\tbE l=2 from fun x h1 h2=>Y6 (OJ h1 h2));obtain⟨n,r⟩:∃n,n=l.length:=⟨_,rfl⟩
 have X:=qQ r;have V:Hid (fh l=bs (ua n++yL (l.take n))):=qQ (by rw[r,List.take_length];rfl);have HZ:=qQ (show(fh l).size=8+24*n by rw[r];exact Y0 l);unfold og;rw[<-r]at hn B ⊢;clear L ac t M z r;generalize tbS l=S at*;generalize tbE l=E at*;generalize fh l=T at*;have HP:=qQ fun W=>bK n 4 W (by omega) (by omega) (by omega)
 have ha:∀w:World,(Op.stringOp .add ⟨#[112,116,97,98]⟩ (bs (be 4 n))).run prog w=.ok (.string (bs (ua n))) w:=fun w=>by
  rw[show bs (ua n)=⟨#[112,116,97,98]⟩++bs (be 4 n) by unfold ua;rw[<-cZ];rfl];exact run_string_add_sum (P:=prog) (w:=w) _ _ (by rw[kK,jn];decide)
 have hw:IntKind.u64.wrap (n:Int)=(n:Int):=by rw[IntKind.wrap_u64];omega
 have z0:(bs (ua n)).size=8:=by rw[kK,tB]
 have ai:=qQ (show ∀k,k<=n->(bs (ua n++yL (l.take k))).size<=8+24*k from fun k hk=>by rw[kK,qN,tB,tC,qT];omega);have ah:=qQ (show ∀k x,l[k]? = some x->bs (ua n++yL (l.take k))++bs (uh x)=bs (ua n++yL (l.take (k+1))) from fun k x h=>by rw[cZ,OX h,qn]);have H0:=qQ (show bs (ua n)=bs (ua n++yL (l.take 0)) by rw[List.take_zero];unfold yL;rw[List.flatMap_nil,List.append_nil]);generalize bs (be 4 n)=R at*;generalize bs (ua n)=H at*;go_enter func174,ntmps174;go_wp2_with fail;refine KG B.out fun w1 J=>?_;have W0:=Wrt.fresh w1;go_wp2_with fail;refine KG (HP.out _) fun w2 ab=>?_;have W1:=W0.below ab;have f:=qQ (W1.write H (by rw[z0];decide));clear ab W0 W1 z0;go_wp2_with fail;refine KG f.out fun w3 D=>?_;rw[ByteArray.empty_append,H0.out]at D;clear f hw ha HP B;go_wp2;go_loopw [19] (fun i wr=>∃k:Nat,k<=n/\i=.int .i64 k/\(∀i x,i<k->l[i]? = some x->mayE x=true)/\Wrt w1 (bs (ua n++yL (l.take k))) wr) (fun i _=>n-(intOf i).toNat)
 case atStart=>exact⟨0,qI _,rfl,fun i x h=>absurd h (by omega),D⟩
 case round =>
  obtain⟨k,hk,rfl,aa,a⟩:=hrel;clear D;have U:=qQ aa;clear aa;by_cases an:k<n
  ·have s1:(k:Int)<(n:Int):=(by omega);obtain⟨x,d⟩:∃x,l[k]? = some x:=⟨_,qD (by rw[<-X.out];omega)⟩
   obtain⟨b,rfl,m,F,G,I⟩:=HC.out k x d;have q:=bj J a.o;have c0:=(q.cell (p:=⟨b,off+k*3,none⟩) m).trans F;have c1:=(q.cell (p:=⟨b,off+k*3+1,none⟩) m).trans G;have c2:=(q.cell (p:=⟨b,off+k*3+2,none⟩) m).trans I;have j:=fun W=>UY x W (HX.out k x d)
   have al:=qQ d;have ad:=ai.out k hk;cases g:mayE x with
   | false =>
     rw[tZ g]at j;have u:=qQ j;obtain⟨O,Q⟩:=ag.out x (qM d) g;have ae:=qQ (a.alloc (.cells #[.int .u64 (x.h:Nat),.int .i64 x.v,.int .i64 x.p] 117)).o;clear j F G I m q d ad a g;subst O;subst Q;obtain⟨xh,xv,xp⟩:=x;simp only at c0 c1 c2;go_wp2_with fail;refine KG (u.out _) fun w5 s=>?_;go_wp2;go_ret2;exact⟨rfl,bj J (bj ae.out s)⟩
   | true =>
     have hM:∀i y,i<k+1->l[i]? = some y->mayE y=true:=fun i y K N=>by
      rcases qh i k with c|c
      ·exact U.out i y c N
      ·obtain rfl:i=k:=(by omega);rw[d]at N;rw[<-qb N];exact g
     have hz:=Xb g;have eT:vP x=bs (uh x):=(by rw[<-mO (vP x),Y5 g]);have C:=qQ (ah.out k x d);rw[<-eT]at C;have af:=qQ hM;obtain⟨v2,v3⟩:=qZx hz;have W5:=a.alloc (.cells #[.int .u64 (x.h:Nat),.int .i64 x.v,.int .i64 x.p] 117);clear hM eT g F G I m q d a;generalize vP x=Y at*;have u:=qQ j;clear j;generalize bs (ua n++yL (l.take k))=Z at*;obtain⟨xh,xv,xp⟩:=x;simp only at c0 c1 c2;go_wp2_with fail;refine KG (u.out _) fun w5 s=>?_;have f:=qQ ((W5.below s).write Y (by omega));clear s W5 c0 c1 c2 hz ad;go_wp2_with fail;refine KG f.out fun w6 W6=>?_;rw[C.out]at W6;clear f C;go_wp2;go_roundw
     case rel=>exact⟨k+1,by omega,by go_num,af.out,W6⟩
     case measure=>simp[intOf];omega
  ·obtain rfl:k=n:=(by omega);have s1:¬(k:Int)<(k:Int):=by omega
   obtain⟨O,Q⟩:=HY.out fun x t=>by
    obtain⟨i,K⟩:=qd t;exact U.out i x (by have:=(qO.1 K).1;rw[<-X.out]at this;exact this) K
   rw[<-V.out]at a;have f:=qQ a.told;have HQ:=qQ fun W=>nh T W (by have:=HZ.out;unfold maxLen;omega)
   clear a V;subst O;subst Q;go_wp2_with fail;refine KG f.out fun w6 aj=>?_;go_wp2_with fail;refine KG (HQ.out _) fun w7 ak=>?_;go_wp2;go_ret2;exact⟨rfl,bj J (bj aj ak)⟩
theorem qZk(v:Value)(l:List jC)(w:World)(a:kC w v l)(b:l.length<=40000)(d:∀x∈l,kz x):
  Calls prog 174 #[v] w (og w l):=by
 cases c:ya l with
 | false=>exact qZz v l w a b c
 | true=>exact qZj v l w a b d c
end
end Go.Proofs.YthejglbnkmimjaaGreat
