import Derived.Test.YthejglbnkmimjaaGreatPp06
import Derived.Test.YthejglbnkmimjaaGreatPp19
set_option linter.unusedVariables false
set_option maxRecDepth 100000
set_option maxHeartbeats 9000000
namespace Go.Proofs.YthejglbnkmimjaaGreat
open Proofs.Tryz
section
open Go.RowKit Go.Shelf
theorem qJc{H:Tw}(a:H.size=24):¬H.toList=[]/\(H.toList==[])=false:=by
 have:¬H.toList=[]:=fun e=>by
  have h:H=ByteArray.empty:=qi (Array.toList_inj.1 (by rw[<-Lib.toList_data,e];rfl));rw[h]at a;cases a
 exact⟨this,qg.2 this⟩
def pJ(w:World)(l:List jI)(e:Ending)(w':World):Prop:=e=.returned (.tuple #[.string (tbS l),.int .i64 (tbE l)])/\Below w.1.size w w'
theorem qJd(v:Value)(l:List jI)(w:World)(f:kB w v l)(j:l.length<=40000)(b:uZ l=false):
  Calls prog 174 #[v] w (pJ w l):=by
 have a:=Zi v l w f (by omega);rw[b]at a;have g:=qQ a;obtain⟨c,d⟩:=Yo (Oh b);unfold pJ;rw[c,d];clear a b f c d;go_enter func174,ntmps174;go_wp2_with fail;refine g.out.mono ?_;rintro e k⟨rfl,i⟩;go_wp2;go_ret2;exact⟨rfl,i⟩
theorem qJf(v:Value)(l:List jI)(w:World)(L:kB w v l)(hn:l.length<=40000)(t:∀x∈l,ks x)(M:uZ l=true):
  Calls prog 174 #[v] w (pJ w l):=by
 have z:=Zi v l w L (by omega);rw[M]at z;obtain⟨A,off,am,rfl,-,ac⟩:=L.form;have B:=qQ z;have HC:=qQ ac;have HX:=qQ (show ∀i x,l[i]? = some x->ks x from fun i x h=>t x (qN h));have HY:=qQ (show(∀x∈l,mayE x=true)->tbS l=vv (lJ l)/\tbE l=0 from fun h=>Zx (Zq.2 ⟨M,h⟩));have ag:=qQ (show ∀x∈l,mayE x=false->tbS l=ByteArray.empty/\tbE l=2 from fun x h1 h2=>Yo (Ol h1 h2));obtain⟨n,r⟩:∃n,n=l.length:=⟨_,rfl⟩
 have X:=qQ r;have V:Hid (lJ l=bs (um n++yz (l.take n))):=qQ (by rw[r,List.take_length];rfl);have HZ:=qQ (show(lJ l).size=8+24*n by rw[r];exact Ya l);unfold pJ;rw[<-r]at hn B ⊢;clear L ac t M z r;generalize tbS l=S at*;generalize tbE l=E at*;generalize lJ l=T at*;have HP:=qQ fun W=>gw n 4 W (by omega) (by omega) (by omega)
 have ha:∀w:World,(Op.stringOp .add ⟨#[112,116,97,98]⟩ (bs (be 4 n))).run prog w=.ok (.string (bs (um n))) w:=fun w=>by
  rw[show bs (um n)=⟨#[112,116,97,98]⟩++bs (be 4 n) by unfold um;rw[<-cF];rfl];exact run_string_add_sum (P:=prog) (w:=w) _ _ (by rw[kP,je];decide)
 have hw:IntKind.u64.wrap (n:Int)=(n:Int):=by rw[IntKind.wrap_u64];omega
 have z0:(bs (um n)).size=8:=by rw[kP,tw]
 have ai:=qQ (show ∀k,k<=n->(bs (um n++yz (l.take k))).size<=8+24*k from fun k hk=>by rw[kP,qL,tw,QQ,qT];omega);have ah:=qQ (show ∀k x,l[k]? = some x->bs (um n++yz (l.take k))++bs (uh x)=bs (um n++yz (l.take (k+1))) from fun k x h=>by rw[cF,Of h,qh]);have H0:=qQ (show bs (um n)=bs (um n++yz (l.take 0)) by rw[List.take_zero];unfold yz;rw[List.flatMap_nil,List.append_nil]);generalize bs (be 4 n)=R at*;generalize bs (um n)=H at*;go_enter func174,ntmps174;go_wp2_with fail;refine KG B.out fun w1 J=>?_;have W0:=Wrt.fresh w1;go_wp2_with fail;refine KG (HP.out _) fun w2 ab=>?_;have W1:=W0.below ab;have f:=qQ (W1.write H (by rw[z0];decide));clear ab W0 W1 z0;go_wp2_with fail;refine KG f.out fun w3 D=>?_;rw[ByteArray.empty_append,H0.out]at D;clear f hw ha HP B;go_wp2;go_loopw [19] (fun i wr=>∃k:Nat,k<=n/\i=.int .i64 k/\(∀i x,i<k->l[i]? = some x->mayE x=true)/\Wrt w1 (bs (um n++yz (l.take k))) wr) (fun i _=>n-(intOf i).toNat)
 case atStart=>exact⟨0,qI _,rfl,fun i x h=>absurd h (by omega),D⟩
 case round =>
  obtain⟨k,hk,rfl,aa,a⟩:=hrel;clear D;have U:=qQ aa;clear aa;by_cases an:k<n
  ·have s1:(k:Int)<(n:Int):=(by omega);obtain⟨x,d⟩:∃x,l[k]? = some x:=⟨_,qE (by rw[<-X.out];omega)⟩
   obtain⟨b,rfl,m,F,G,I⟩:=HC.out k x d;have q:=bj J a.o;have c0:=(q.cell (p:=⟨b,off+k*3,none⟩) m).trans F;have c1:=(q.cell (p:=⟨b,off+k*3+1,none⟩) m).trans G;have c2:=(q.cell (p:=⟨b,off+k*3+2,none⟩) m).trans I;have j:=fun W=>U8 x W (HX.out k x d)
   have al:=qQ d;have ad:=ai.out k hk;cases g:mayE x with
   | false =>
     rw[ta g]at j;have u:=qQ j;obtain⟨O,Q⟩:=ag.out x (qN d) g;have ae:=qQ (a.alloc (.cells #[.int .u64 (x.h:Nat),.int .i64 x.v,.int .i64 x.p] 117)).o;clear j F G I m q d ad a g;subst O;subst Q;obtain⟨xh,xv,xp⟩:=x;simp only at c0 c1 c2;go_wp2_with fail;refine KG (u.out _) fun w5 s=>?_;go_wp2;go_ret2;exact⟨rfl,bj J (bj ae.out s)⟩
   | true =>
     have hM:∀i y,i<k+1->l[i]? = some y->mayE y=true:=fun i y K N=>by
      rcases qd i k with c|c
      ·exact U.out i y c N
      ·obtain rfl:i=k:=(by omega);rw[d]at N;rw[<-qb N];exact g
     have hz:=ZR g;have eT:vg x=bs (uh x):=(by rw[<-cr (vg x),Yi g]);have C:=qQ (ah.out k x d);rw[<-eT]at C;have af:=qQ hM;obtain⟨v2,v3⟩:=qJc hz;have W5:=a.alloc (.cells #[.int .u64 (x.h:Nat),.int .i64 x.v,.int .i64 x.p] 117);clear hM eT g F G I m q d a;generalize vg x=Y at*;have u:=qQ j;clear j;generalize bs (um n++yz (l.take k))=Z at*;obtain⟨xh,xv,xp⟩:=x;simp only at c0 c1 c2;go_wp2_with fail;refine KG (u.out _) fun w5 s=>?_;have f:=qQ ((W5.below s).write Y (by omega));clear s W5 c0 c1 c2 hz ad;go_wp2_with fail;refine KG f.out fun w6 W6=>?_;rw[C.out]at W6;clear f C;go_wp2;go_roundw
     case rel=>exact⟨k+1,by omega,by go_num,af.out,W6⟩
     case measure=>simp[intOf];omega
  ·obtain rfl:k=n:=(by omega);have s1:¬(k:Int)<(k:Int):=by omega
   obtain⟨O,Q⟩:=HY.out fun x t=>by
    obtain⟨i,K⟩:=ql t;exact U.out i x (by have:=(qO.1 K).1;rw[<-X.out]at this;exact this) K
   rw[<-V.out]at a;have f:=qQ a.told;have HQ:=qQ fun W=>oA T W (by have:=HZ.out;unfold maxLen;omega)
   clear a V;subst O;subst Q;go_wp2_with fail;refine KG f.out fun w6 aj=>?_;go_wp2_with fail;refine KG (HQ.out _) fun w7 ak=>?_;go_wp2;go_ret2;exact⟨rfl,bj J (bj aj ak)⟩
theorem qJh(v:Value)(l:List jI)(w:World)(a:kB w v l)(b:l.length<=40000)(d:∀x∈l,ks x):
  Calls prog 174 #[v] w (pJ w l):=by
 cases c:uZ l with
 | false=>exact qJd v l w a b c
 | true=>exact qJf v l w a b d c
end
end Go.Proofs.YthejglbnkmimjaaGreat
