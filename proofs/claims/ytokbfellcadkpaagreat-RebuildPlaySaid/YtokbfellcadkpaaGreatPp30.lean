import Derived.Test.YtokbfellcadkpaaGreatPp05
import Derived.Test.YtokbfellcadkpaaGreatPp27
set_option linter.unusedVariables false
set_option maxRecDepth 100000
set_option maxHeartbeats 9000000
namespace Go.Proofs.YtokbfellcadkpaaGreat
open Tryz
section
open Go.RowKit Go.Shelf
theorem qJk{H:Tw}(a:H.size=24):¬H.toList=[]/\(H.toList==[])=false:=by
 have:¬H.toList=[]:=fun e=>by
  have h:H=ByteArray.empty:=ByteArray.ext (Array.toList_inj.1 (by rw[<-Lib.toList_data,e];rfl));rw[h]at a;cases a
 exact⟨this,qv.2 this⟩
def od(w:World)(l:List jJ)(e:Ending)(w':World):Prop:=e = .returned (.tuple #[.string (tbS l),.int .i64 (tbE l)])/\Below w.heap.size w w'
theorem qJv(v:Value)(l:List jJ)(w:World)(f:ju w v l)(j:l.length<=40000)(b:yz l=false):
  Calls prog 159 #[v] w (od w l):=by
 have a:=Z1 v l w f (by omega);rw[b]at a;have g:=qQ a;obtain⟨c,d⟩:=Yh (OS b);unfold od;rw[c,d];clear a b f c d;go_enter func159,ntmps159;go_wp2_with fail;refine g.out.mono ?_;rintro e k⟨rfl,i⟩;go_wp2;go_ret2;exact⟨rfl,i⟩
theorem qJy(v:Value)(l:List jJ)(w:World)(L:ju w v l)(hn:l.length<=40000)(t:∀x∈l,kI x)(M:yz l=true):
  Calls prog 159 #[v] w (od w l):=by
 have z:=Z1 v l w L (by omega);rw[M]at z;obtain⟨A,off,am,rfl,-,ac⟩:=L.form;have B:=qQ z;have HC:=qQ ac;have HX:=qQ (show ∀i x,l[i]? = some x->kI x from fun i x h=>t x (qM h));have HY:=qQ (show(∀x∈l,mayE x=true)->tbS l=vE (fu l)/\tbE l=0 from fun h=>ZD (ZC.2 ⟨M,h⟩));have ag:=qQ (show ∀x∈l,mayE x=false->tbS l=ByteArray.empty/\tbE l=2 from fun x h1 h2=>Yh (OT h1 h2));obtain⟨n,r⟩:∃n,n=l.length:=⟨_,rfl⟩
 have X:=qQ r;have V:Hid (fu l=bs (uI n++yA (l.take n))):=qQ (by rw[r,List.take_length];rfl);have HZ:=qQ (show(fu l).size=8+24*n by rw[r];exact Yc l);unfold od;rw[<-r]at hn B ⊢;clear L ac t M z r;generalize tbS l=S at*;generalize tbE l=E at*;generalize fu l=T at*;have HP:=qQ fun W=>gC n 4 W (by omega) (by omega) (by omega)
 have ha:∀w:World,(Op.stringOp .add ⟨#[112,116,97,98]⟩ (bs (be 4 n))).run prog w = .ok (.string (bs (uI n))) w:=fun w=>by
  rw[show bs (uI n)=⟨#[112,116,97,98]⟩++bs (be 4 n) by unfold uI;rw[<-uh];rfl];exact run_string_add_sum (P:=prog) (w:=w) _ _ (by rw[ji,jq];decide)
 have hw:IntKind.u64.wrap (n:Int)=(n:Int):=by rw[IntKind.wrap_u64];omega
 have z0:(bs (uI n)).size=8:=by rw[ji,tG]
 have ai:=qQ (show ∀k,k<=n->(bs (uI n++yA (l.take k))).size<=8+24*k from fun k hk=>by rw[ji,qI,tG,tW,qS];omega);have ah:=qQ (show ∀k x,l[k]? = some x->bs (uI n++yA (l.take k))++bs (uV x)=bs (uI n++yA (l.take (k+1))) from fun k x h=>by rw[uh,OR h,qb]);have H0:=qQ (show bs (uI n)=bs (uI n++yA (l.take 0)) by rw[List.take_zero];unfold yA;rw[List.flatMap_nil,List.append_nil]);generalize bs (be 4 n)=R at*;generalize bs (uI n)=H at*;go_enter func159,ntmps159;go_wp2_with fail;refine B.out.mono ?_;rintro e w1⟨rfl,J⟩;have W0:=Wrt.fresh w1;go_wp2_with fail;refine(HP.out _).mono ?_;rintro e w2⟨rfl,ab⟩;have W1:=W0.below ab;have f:=qQ (W1.write H (by rw[z0];decide));clear ab W0 W1 z0;go_wp2_with fail;refine f.out.mono ?_;rintro e w3⟨rfl,D⟩;rw[ByteArray.empty_append,H0.out]at D;clear f hw ha HP B;go_wp2;go_loopw [19] (fun i wr=>∃k:Nat,k<=n/\i = .int .i64 k/\(∀i x,i<k->l[i]? = some x->mayE x=true)/\Wrt w1 (bs (uI n++yA (l.take k))) wr) (fun i _=>n-(intOf i).toNat)
 case atStart=>exact⟨0,qF _,rfl,fun i x h=>absurd h (by omega),D⟩
 case round =>
  obtain⟨k,hk,rfl,aa,a⟩:=hrel;clear D;have U:=qQ aa;clear aa;by_cases an:k<n
  ·have s1:(k:Int)<(n:Int):=(by omega);obtain⟨x,d⟩:∃x,l[k]? = some x:=⟨_,qC (by rw[<-X.out];omega)⟩
   obtain⟨b,rfl,m,F,G,I⟩:=HC.out k x d;have q:=bj J a.o;have c0:=(q.cell (p:=⟨b,off+k*3,none⟩) m).trans F;have c1:=(q.cell (p:=⟨b,off+k*3+1,none⟩) m).trans G;have c2:=(q.cell (p:=⟨b,off+k*3+2,none⟩) m).trans I;have j:=fun W=>UY x W (HX.out k x d)
   have al:=qQ d;have ad:=ai.out k hk;cases g:mayE x with
   | false =>
     rw[oQ g]at j;have u:=qQ j;obtain⟨O,Q⟩:=ag.out x (qM d) g;have ae:=qQ (a.alloc (.cells #[.int .u64 (x.h:Nat),.int .i64 x.v,.int .i64 x.p] 63)).o;clear j F G I m q d ad a g;subst O;subst Q;obtain⟨xh,xv,xp⟩:=x;simp only at c0 c1 c2;go_wp2_with fail;refine(u.out _).mono ?_;rintro e w5⟨rfl,s⟩;go_wp2;go_ret2;exact⟨rfl,bj J (bj ae.out s)⟩
   | true =>
     have hM:∀i y,i<k+1->l[i]? = some y->mayE y=true:=fun i y K N=>by
      rcases Nat.lt_or_ge i k with c|c
      ·exact U.out i y c N
      ·obtain rfl:i=k:=(by omega);rw[d]at N;rw[<-qg N];exact g
     have hz:=tU g;have eT:kP x=bs (uV x):=(by rw[<-bG (kP x),Yf g]);have C:=qQ (ah.out k x d);rw[<-eT]at C;have af:=qQ hM;obtain⟨v2,v3⟩:=qJk hz;have W5:=a.alloc (.cells #[.int .u64 (x.h:Nat),.int .i64 x.v,.int .i64 x.p] 63);clear hM eT g F G I m q d a;generalize kP x=Y at*;have u:=qQ j;clear j;generalize bs (uI n++yA (l.take k))=Z at*;obtain⟨xh,xv,xp⟩:=x;simp only at c0 c1 c2;go_wp2_with fail;refine(u.out _).mono ?_;rintro e w5⟨rfl,s⟩;have f:=qQ ((W5.below s).write Y (by omega));clear s W5 c0 c1 c2 hz ad;go_wp2_with fail;refine f.out.mono ?_;rintro e w6⟨rfl,W6⟩;rw[C.out]at W6;clear f C;go_wp2;go_roundw
     case rel=>exact⟨k+1,by omega,by go_num,af.out,W6⟩
     case measure=>simp[intOf];omega
  ·obtain rfl:k=n:=(by omega);have s1:¬(k:Int)<(k:Int):=by omega
   obtain⟨O,Q⟩:=HY.out fun x t=>by
    obtain⟨i,K⟩:=List.getElem?_of_mem t;exact U.out i x (by have:=(qP.1 K).1;rw[<-X.out]at this;exact this) K
   rw[<-V.out]at a;have f:=qQ a.told;have HQ:=qQ fun W=>nS T W (by have:=HZ.out;unfold maxLen;omega)
   clear a V;subst O;subst Q;go_wp2_with fail;refine f.out.mono ?_;rintro e w6⟨rfl,aj⟩;go_wp2_with fail;refine(HQ.out _).mono ?_;rintro e w7⟨rfl,ak⟩;go_wp2;go_ret2;exact⟨rfl,bj J (bj aj ak)⟩
theorem qJu(v:Value)(l:List jJ)(w:World)(a:ju w v l)(b:l.length<=40000)(d:∀x∈l,kI x):
  Calls prog 159 #[v] w (od w l):=by
 cases c:yz l with
 | false=>exact qJv v l w a b c
 | true=>exact qJy v l w a b d c
end
end Go.Proofs.YtokbfellcadkpaaGreat
