import Derived.Test.YthejglbnkmimjaaGreatQp04
set_option linter.unusedVariables false
set_option maxRecDepth 100000
set_option maxHeartbeats 9000000
namespace Go.Proofs.YthejglbnkmimjaaGreat
open Proofs.Tryz
section
open Go.RowKit
theorem tk{D:jD}(h:WfP D)(n:Tw):(jk D n).1<=1048576:=by
 unfold jk;split
 ·exact qI _
 ·split
  ·exact qI _
  ·rename_i f a;exact(h.ok.x8 f (qM a)).2
theorem ln{n:Nat}(h:n<=999999):(nmC n).size<=maxLen:=by rw[oX h];decide
theorem hQ{n:Nat}(h:n<=9223372036854775807):(Lit.int .i64 (n:Nat)).wf=true:=WalkArith.wf_i64 (by omega)
theorem nX(nap:jw)(n:Nat)(w:World)(a:n<=999999):Calls prog 128 #[n] w (X3 (.string (nmC n)) w):=nap.chunk n w (hQ (by omega))
theorem Zc{D:jD}{n:Tw}{a k:Int}(h:WfP D):(vE D n a k).1.size<=1048576:=by
 unfold vE;split
 ·exact qI _
 ·dsimp only;split
  ·exact qI _
  ·rename_i f b;split
   ·exact qI _
   ·have:=(h.ok.x8 f (qM b)).2;show(f.data.extract _ _).size<=_;rw[qk];omega
theorem Pc{D:jD}{n:Tw}(h:WfP D):(rdC D n).1.size<=1048576:=by
 unfold rdC;split
 ·exact Zc h
 ·exact qI _
theorem U1{D:jD}(h:WfP D)(n:Tw):WfP (rdC D n).2.2:=by
 unfold rdC;split
 ·exact XD h _ _ _
 ·exact h
theorem U2(D:jD)(n:Tw)(a k:Int):(vE D n a k).2.2.count<=D.count+1:=by
 unfold vE;split
 ·exact Nat.le_succ _
 ·dsimp only;split
  ·exact qK _
  ·split<;>exact qK _
theorem Pd(D:jD)(n:Tw):(rdC D n).2.2.count<=D.count+1:=by
 unfold rdC;split
 ·exact U2 _ _ _ _
 ·exact Nat.le_succ _
section
variable {At:jR}(api:jS At)(nap:jw){c:Ctx}{gl gd:Nat}{L L':jq}{D D':jD}{w w':World}
include api nap
theorem Pf(h:TSt At c gl gd L D w)(ok:WfP D)(m:D.count<=1099511627776)(n:Nat)(i:n<=999999):Calls prog 91 #[ptr gl,n] w (vY At c gl gd (.tuple #[.string (rdC D (nmC n)).1,err (rdC D (nmC n)).2.1]) L (rdC D (nmC n)).2.2):=by
 have v:=tk ok (nmC n);have q:=qQ fun W=>nX nap n W (by omega)
 have l:=qQ fun(W:World) (g:TSt At c gl gd L D W)=>(show Calls prog 129 #[ptr gd,.string (nmC n)] W (vY At c gl gd (.tuple #[.int .i64 ((jk D (nmC n)).1:Nat),err (jk D (nmC n)).2]) L D) from g.same (api.zI (nmC n) (Classical.choose_spec g).1 ok.ok (ln i)))
 have u:=qQ fun(W:World) (g:TSt At c gl gd L D W)=>g.xD api (fun F hF=>api.read (nmC n) 0 ((jk D (nmC n)).1:Nat) hF ok.ok m (by decide) (hQ (by omega)) (ln i))
 have o:=qQ h;unfold rdC;by_cases f:(jk D (nmC n)).2=0
 ·rw[qV f];rw[f]at l;generalize (jk D (nmC n)).1=z at*;generalize vE D (nmC n) 0 (z:Nat)=r at*;generalize nmC n=nm at*;clear f v h m ok i;go_enter func91,ntmps91;go_wp2_with fail;refine(q.out _).mono ?_;rintro e H⟨rfl,d⟩;have a:=o.out.below api d;obtain⟨c0,c1,c2,B,C,G⟩:=a.cells;have j:=qQ a;clear d a;go_wp2_with fail;refine(l.out _ j.out).mono ?_;rintro e I⟨rfl,b⟩;obtain⟨J,K,M,N,O,P⟩:=b.cells;have k:=qQ b;clear b;go_wp2_with fail;refine(u.out _ k.out).mono ?_;rintro e Q⟨rfl,p⟩;have A:=qQ p;clear p;go_wp2;go_ret2;exact⟨rfl,A.out⟩
 ·rw[qZ f];have t:(((jk D (nmC n)).2:Int) != 0)=true:=by simp;omega
  generalize (jk D (nmC n)).2=y at*;generalize (jk D (nmC n)).1=z at*;generalize nmC n=nm at*;clear v h u m ok i f;go_enter func91,ntmps91;go_wp2_with fail;refine(q.out _).mono ?_;rintro e H⟨rfl,d⟩;have a:=o.out.below api d;obtain⟨c0,c1,c2,B,C,G⟩:=a.cells;have j:=qQ a;clear d a;go_wp2_with fail;refine(l.out _ j.out).mono ?_;rintro e I⟨rfl,b⟩;have k:=qQ b;clear b;go_wp2;go_ret2;exact⟨rfl,k.out⟩
omit nap in
theorem Zd(h:TSt At c gl gd L D w)(ok:WfP D)(s:Tw)(o:s.size<=1000000):Calls prog 199 #[ptr gl,s] w (vY At c gl gd (.bool (gG D s)) L D):=by
 have hF:=qQ (h.xD api (fun F hF=>api.free hF ok.ok));have k:=qQ h;obtain⟨c0,c1,c2,d,f,g⟩:=h.cells;have i:=ok.cap;have j:=ok.used;unfold gG;have m:(D.cap:Int)-(jM D.l:Nat)-(s.size:Nat)<=1048576:=by omega
 have n:-1000000<=(D.cap:Int)-(jM D.l:Nat)-(s.size:Nat):=by omega
 generalize (D.cap:Int)-(jM D.l:Nat)=y at*;have hw:IntKind.i64.wrap (y-(s.size:Nat))=y-(s.size:Nat):=qy _ (by omega);clear i j h c0 c2 d f g ok;go_enter func199,ntmps199;go_wp2_with fail;refine hF.out.mono ?_;rintro e p⟨rfl,a⟩;have b:=qQ a;clear a;go_wp2;go_ret;exact⟨rfl,b.out⟩
theorem Ph(h:TSt At c gl gd L D w)(ok:WfP D)(C:L.chunks<=200)(A:0<L.chunks):Calls prog 97 #[ptr gl] w (vY At c gl gd (err (vH D L).1) (vH D L).2.2 (vH D L).2.1):=by
 obtain⟨n,o⟩:∃n,L.chunks=n+1:=⟨L.chunks-1,by omega⟩
 have B:=qQ fun W=>nX nap n W (by omega)
 have r:=qQ fun(W:World) (M:TSt At c gl gd L D W)=>M.xD api (fun F hF=>api.sync (nmC n) hF ok.ok (ln (by omega)))
 have j:=qQ h;obtain⟨c0,c1,c2,q,v,z⟩:=h.cells;have e:L.chunks-1=n:=by omega
 have R:decide ((0:Int)<((n+1:Nat):Int))=true:=qB (by omega);have N:((n+1:Nat):Int)-1=(n:Int):=by omega
 have Q:IntKind.i64.wrap (n:Int)=(n:Int):=qy _ (by omega);have hw:IntKind.i64.wrap (((n+1:Nat):Int)-1)=(n:Int):=by rw[N];exact qy _ (by omega)
 unfold vH;rw[qZ (by omega),e];rw[o]at q;have l:=qQ o;generalize u:((n+1:Nat):Int)=m at*;have k:=qQ u;by_cases f:(kZ D (nmC n)).1=0
 ·rw[qV f];rw[f]at r;generalize (kZ D (nmC n)).2=G at*;generalize nmC n=nm at*;clear e o f h ok C A c0 c2 v z u;go_enter func97,ntmps97;go_wp2_with fail
  go_region_held3 (fun w'=>w'.cell? ⟨gl,1,none⟩=some (ptr gd)/\w'.cell? ⟨gl,3,none⟩=some (.int .i64 m)) (first|assumption|exact⟨by assumption,by assumption⟩|exact⟨c1,q⟩) (first
   | (go_at_call 128;refine(B.out _).mono ?_;rintro e g⟨rfl,d⟩;have b:=(show TSt At c gl gd L D _ from by first|exact j.out.drew api|exact j.out).below api d;have H:g.cell? ⟨gl,1,none⟩=some (ptr gd):=b.cells.2.1;have I:g.cell? ⟨gl,3,none⟩=some (.int .i64 m):=by rw[b.cells.2.2.2.1,l.out,k.out])
   | (go_at_call 160;refine(r.out _ b).mono ?_;rintro e i⟨rfl,a⟩;have J:i.cell? ⟨gl,1,none⟩=some (ptr gd):=a.cells.2.1;have K:i.cell? ⟨gl,3,none⟩=some (.int .i64 m):=by rw[a.cells.2.2.2.1,l.out,k.out])
   | fail)
  all_goals
   obtain⟨_,_,_,_,P,_⟩:=a.cells;have O:=a.frozen 5;have p:=qQ (a.zC api L.endp);clear b a d;generalize (L.endp:Int)=y at*;go_wp2;go_ret;exact⟨rfl,p.out⟩
 ·rw[qZ f];have t:(((kZ D (nmC n)).1:Int) != 0)=true:=by simp;omega
  generalize (kZ D (nmC n)).2=G at*;generalize (kZ D (nmC n)).1=y at*;generalize nmC n=nm at*;clear e o f h ok C A c0 c2 v z u;go_enter func97,ntmps97;go_wp2_with fail
  go_region_held3 (fun w'=>w'.cell? ⟨gl,1,none⟩=some (ptr gd)/\w'.cell? ⟨gl,3,none⟩=some (.int .i64 m)) (first|assumption|exact⟨by assumption,by assumption⟩|exact⟨c1,q⟩) (first
   | (go_at_call 128;refine(B.out _).mono ?_;rintro e g⟨rfl,d⟩;have b:=(show TSt At c gl gd L D _ from by first|exact j.out.drew api|exact j.out).below api d;have H:g.cell? ⟨gl,1,none⟩=some (ptr gd):=b.cells.2.1;have I:g.cell? ⟨gl,3,none⟩=some (.int .i64 m):=by rw[b.cells.2.2.2.1,l.out,k.out])
   | (go_at_call 160;refine(r.out _ b).mono ?_;rintro e i⟨rfl,a⟩;have J:i.cell? ⟨gl,1,none⟩=some (ptr gd):=a.cells.2.1;have K:i.cell? ⟨gl,3,none⟩=some (.int .i64 m):=by rw[a.cells.2.2.2.1,l.out,k.out])
   | fail)
  all_goals
   have p:=qQ a;clear b a d;go_wp2;go_ret;exact⟨rfl,p.out⟩
omit nap in
theorem Pm(h:TSt At c gl gd L D w)(a:L.chunks=0):Calls prog 97 #[ptr gl] w (vY At c gl gd (err (vH D L).1) (vH D L).2.2 (vH D L).2.1):=by
 unfold vH;rw[qV a];obtain⟨c0,c1,c2,d,f,g⟩:=h.cells;rw[a]at d;have i:=h.frozen 5;have b:=qQ (h.zC api L.endp);generalize (L.endp:Int)=y at*;clear h c0 c1 c2 a;go_enter func97,ntmps97;go_wp2;go_ret;exact⟨rfl,b.out⟩
theorem U3(h:TSt At c gl gd L D w)(ok:WfP D)(b:L.chunks<=200):Calls prog 97 #[ptr gl] w (vY At c gl gd (err (vH D L).1) (vH D L).2.2 (vH D L).2.1):=by
 by_cases a:L.chunks=0
 ·exact Pm api h a
 ·exact Ph api nap h ok b (by omega)
variable (cap:vR)
include cap
theorem Pn(h:TSt At c gl gd L D w)(ok:WfP D)(G:L.chunks<=200)(p:Tw)(B:p.size<=maxLen):Calls prog 146 #[ptr gl,p] w (vY At c gl gd (.tuple #[.int .i64 ((uG D L p).1:Nat),.int .i64 ((uG D L p).2.1:Nat),err (uG D L p).2.2]) L D):=by
 have f:=qQ h;obtain⟨c0,c1,c2,C,q,r⟩:=h.cells;unfold uG;by_cases g:L.chunks=0
 ·rw[qV g];rw[g]at C;clear h c0 c1 c2 g q r;go_enter func146,ntmps146;go_wp2;go_ret3;exact⟨rfl,f.out⟩
 rw[qZ g];obtain⟨n,l⟩:∃n,L.chunks=n+1:=⟨L.chunks-1,by omega⟩
 have e:L.chunks-1=n:=by omega
 rw[e];have H:=tk ok (nmC n);have F:=qQ fun W=>nX nap n W (by omega)
 have u:=qQ fun(W:World) (O:TSt At c gl gd L D W)=>(show Calls prog 129 #[ptr gd,.string (nmC n)] W (vY At c gl gd (.tuple #[.int .i64 ((jk D (nmC n)).1:Nat),err (jk D (nmC n)).2]) L D) from O.same (api.zI (nmC n) (Classical.choose_spec O).1 ok.ok (ln (by omega))))
 have hF:=qQ fun(W:World)=>cap.fits ((jk D (nmC n)).1:Nat) p W B (hQ (by omega))
 have U:decide ((0:Int)<((n+1:Nat):Int))=true:=qB (by omega);have P:((n+1:Nat):Int)-1=(n:Int):=by omega
 have T:IntKind.i64.wrap (n:Int)=(n:Int):=qy _ (by omega);have hw:IntKind.i64.wrap (((n+1:Nat):Int)-1)=(n:Int):=by rw[P];exact qy _ (by omega)
 rw[l]at C;have J:=qQ l;generalize A:((n+1:Nat):Int)=m at*;have I:=qQ A;have R:w.cell? ⟨gl,3,none⟩=some (.int .i64 m):=C;by_cases i:(jk D (nmC n)).2=0
 ·rw[qV i];rw[i]at u;cases v:ftS ((jk D (nmC n)).1:Nat) p
  ·rw[qZ (by simp)];rw[v]at hF;have N:(L.chunks:Int)=m:=(by rw[J.out,I.out]);rw[N];generalize (jk D (nmC n)).1=z at*;generalize nmC n=nm at*;clear e l i h ok G g c0 c2 q r A H B v N;go_enter func146,ntmps146;go_wp2_with fail
   go_region_held3 (fun w'=>w'.cell? ⟨gl,1,none⟩=some (ptr gd)) (first|assumption|exact c1) (first
    | (go_at_call 128;refine(F.out _).mono ?_;rintro e o⟨rfl,d⟩;have b:=(show TSt At c gl gd L D _ from by first|exact f.out.drew api|exact f.out).below api d;have K:o.cell? ⟨gl,1,none⟩=some (ptr gd):=b.cells.2.1)
    | (go_at_call 129;refine(u.out _ b).mono ?_;rintro e j⟨rfl,a⟩;have M:j.cell? ⟨gl,1,none⟩=some (ptr gd):=a.cells.2.1)
    | fail)
   all_goals
    have S:j.cell? ⟨gl,3,none⟩=some (.int .i64 m):=(by rw[a.cells.2.2.2.1,J.out,I.out]);have k:=qQ a;clear b a d;go_wp2_with fail;refine(hF.out _).mono ?_;rintro e Q⟨rfl,rfl⟩;go_wp2;go_ret3;exact⟨rfl,k.out⟩
  ·rw[qV rfl];rw[v]at hF;generalize (jk D (nmC n)).1=z at*;generalize nmC n=nm at*;clear e l i h ok G g c0 c2 q r A H B v;go_enter func146,ntmps146;go_wp2_with fail
   go_region_held3 (fun w'=>w'.cell? ⟨gl,1,none⟩=some (ptr gd)) (first|assumption|exact c1) (first
    | (go_at_call 128;refine(F.out _).mono ?_;rintro e o⟨rfl,d⟩;have b:=(show TSt At c gl gd L D _ from by first|exact f.out.drew api|exact f.out).below api d;have K:o.cell? ⟨gl,1,none⟩=some (ptr gd):=b.cells.2.1)
    | (go_at_call 129;refine(u.out _ b).mono ?_;rintro e j⟨rfl,a⟩;have M:j.cell? ⟨gl,1,none⟩=some (ptr gd):=a.cells.2.1)
    | fail)
   all_goals
    have k:=qQ a;clear b a d;go_wp2_with fail;refine(hF.out _).mono ?_;rintro e Q⟨rfl,rfl⟩;go_wp2;go_ret3;exact⟨rfl,k.out⟩
 ·rw[qZ i];have t:(((jk D (nmC n)).2:Int) != 0)=true:=by simp;omega
  generalize (jk D (nmC n)).2=y at*;generalize (jk D (nmC n)).1=z at*;generalize nmC n=nm at*;clear e l i h ok G g c0 c2 q r A H B hF;go_enter func146,ntmps146;go_wp2_with fail
  go_region_held3 (fun w'=>w'.cell? ⟨gl,1,none⟩=some (ptr gd)) (first|assumption|exact c1) (first
   | (go_at_call 128;refine(F.out _).mono ?_;rintro e o⟨rfl,d⟩;have b:=(show TSt At c gl gd L D _ from by first|exact f.out.drew api|exact f.out).below api d;have K:o.cell? ⟨gl,1,none⟩=some (ptr gd):=b.cells.2.1)
   | (go_at_call 129;refine(u.out _ b).mono ?_;rintro e j⟨rfl,a⟩;have M:j.cell? ⟨gl,1,none⟩=some (ptr gd):=a.cells.2.1)
   | fail)
  all_goals
   have k:=qQ a;clear b a d;go_wp2;go_ret3;exact⟨rfl,k.out⟩
omit cap in
theorem Pp(h:TSt At c gl gd L D w)(ok:WfP D)(q:L.chunks<=200)(a:0<L.chunks)(r:Tw)(k:r.size<=1000000):Calls prog 148 #[ptr gl,r] w (vY At c gl gd (err (uS D L r).1) L (uS D L r).2):=by
 have f:=qQ (Zd api h ok r k);unfold uS;cases g:gG D r
 ·rw[qV rfl];rw[g]at f;clear h ok q a k g;go_enter func148,ntmps148;go_wp2_with fail;refine f.out.mono ?_;rintro e l⟨rfl,b⟩;have z:=qQ b;clear b;go_wp2;go_ret;exact⟨rfl,z.out⟩
 ·rw[qZ (by simp)];rw[g]at f;obtain⟨n,u⟩:∃n,L.chunks=n+1:=⟨L.chunks-1,by omega⟩
  have e:L.chunks-1=n:=by omega
  rw[e];have C:=qQ fun W=>nX nap n W (by omega)
  have G:=qQ fun(W:World) (H:TSt At c gl gd L D W)=>H.xD api (fun F hF=>api.append (nmC n) r hF ok.ok (by omega) (ln (by omega)))
  have I:((n+1:Nat):Int)-1=(n:Int):=by omega
  have P:IntKind.i64.wrap (n:Int)=(n:Int):=qy _ (by omega);have hw:IntKind.i64.wrap (((n+1:Nat):Int)-1)=(n:Int):=by rw[I];exact qy _ (by omega)
  have j:=qQ u;generalize t:((n+1:Nat):Int)=m at*;have i:=qQ t;generalize jc D (nmC n) r=J at*;generalize nmC n=nm at*;clear e u h ok q a t k g;go_enter func148,ntmps148;go_wp2_with fail;refine f.out.mono ?_;rintro e v⟨rfl,a⟩;have c1:v.cell? ⟨gl,1,none⟩=some (ptr gd):=a.cells.2.1;have B:v.cell? ⟨gl,3,none⟩=some (.int .i64 m):=by rw[a.cells.2.2.2.1,j.out,i.out]
  have o:=qQ a;clear a;go_wp2_with fail
  go_region_held3 (fun w'=>w'.cell? ⟨gl,1,none⟩=some (ptr gd)/\w'.cell? ⟨gl,3,none⟩=some (.int .i64 m)) (first|assumption|exact⟨by assumption,by assumption⟩|exact⟨c1,B⟩) (first
   | (go_at_call 128;refine(C.out _).mono ?_;rintro e l⟨rfl,p⟩;have b:=(show TSt At c gl gd L D _ from by first|exact o.out.drew api|exact o.out).below api p;have K:l.cell? ⟨gl,1,none⟩=some (ptr gd):=b.cells.2.1;have M:l.cell? ⟨gl,3,none⟩=some (.int .i64 m):=by rw[b.cells.2.2.2.1,j.out,i.out])
   | (go_at_call 203;refine(G.out _ b).mono ?_;rintro e y⟨rfl,d⟩;have N:y.cell? ⟨gl,1,none⟩=some (ptr gd):=d.cells.2.1;have O:y.cell? ⟨gl,3,none⟩=some (.int .i64 m):=by rw[d.cells.2.2.2.1,j.out,i.out])
   | fail)
  all_goals
   have A:=qQ d;clear b d p;go_wp2;go_ret;exact⟨rfl,A.out⟩
end
end
section
open Go.RowKit Go.Shelf
theorem Pr{r:Nat->Nat}{n k:Nat}(h:k<n):stR r (n-k) k=if r k=0 then stR r (n-(k+1)) (k+1) else(r k,k+1):=by
 obtain⟨m,rfl⟩:∃m,n=k+1+m:=⟨n-k-1,by omega⟩
 have a:k+1+m-k=m+1:=by omega
 have b:k+1+m-(k+1)=m:=by omega
 rw[a,b];rfl
theorem Ps{r:Nat->Nat}{n:Nat}:stR r (n-n) n=(0,n):=by rw[Nat.sub_self];rfl
theorem Zf{b n:Nat}(P:n<=1000)(r:Nat->Nat)(d:Nat->World->Prop)(f:Nat->FuncId)(x y:Nat->Array Value)
  (H:∀k,k<n->Enters prog (f k)) (G:∀k W,k<n->d k W->W.cell? ⟨b,k,none⟩=some (.func (.func (f k)) (x k) (y k)))
  (F:∀k W,k<n->d k W->Calls prog (f k) (x k++#[]++y k) W fun e v=>e=.returned (.int .i64 (r k:Nat))/\d (k+1) v) (W:World) (B:d 0 W):
  Calls prog 76 #[.slice (some ⟨b,0,none⟩) n n] W fun e v=>e=.returned (.int .i64 ((stR r n 0).1:Nat))/\d (stR r n 0).2 v:=by
 have J:=qQ G;have M:=qQ F;have K:=qQ H;have R:=qQ P;have I:=qQ B;clear G F B H;go_enter func76,ntmps76;go_wp2;go_loopw [8] (fun i wr=>∃k:Nat,k<=n/\i=.int .i64 k/\stR r (n-k) k=stR r n 0/\d k wr) (fun i _=>n-(intOf i).toNat)
 case atStart=>exact⟨0,qI _,rfl,rfl,I.out⟩
 case round =>
  obtain⟨k,O,rfl,j,m⟩:=hrel;by_cases g:k<n
  ·have c1:=J.out k _ g m;have S:(k:Int)<(n:Int):=(by omega);have u:=qQ m;have a:=qQ j;have N:=qQ g;clear m j;rw[Pr g]at a;have A:=K.out k g;have z:=M.out k _ g u.out;have C:x k++#[]++y k=x k++y k:=(by simp);rw[C]at z;have q:=qQ z;unfold Enters at A;clear z C;by_cases l:r k=0
   ·rw[l]at q;rw[qV l]at a;clear l;go_wp2_with fail;refine q.out.mono ?_;rintro e Q⟨rfl,o⟩;have p:=qQ o;clear o A c1;go_wp2;go_roundw
    case rel=>exact⟨k+1,by have:=N.out;omega,by go_num,a.out,p.out⟩
    case measure=>simp[intOf];omega
   ·have t:((r k:Int) != 0)=true:=(by simp;omega);rw[qZ l]at a;clear l;generalize r k=y at*;go_wp2_with fail;refine q.out.mono ?_;rintro e Q⟨rfl,o⟩;have p:=qQ o;clear o A c1;go_wp2;go_ret;rw[<-a.out];exact⟨rfl,p.out⟩
  ·obtain rfl:k=n:=(by omega);rw[Ps]at j;have u:=qQ m;have a:=qQ j;clear m j O;go_wp2;go_ret;rw[<-a.out];exact⟨rfl,u.out⟩
end
section
open Go.RowKit Go.Shelf
section
variable {At:jR}{c:Ctx}{gl gd:Nat}{L L':jq}{D D':jD}{w w':World}
theorem TSt.new(api:jS At)(h:TSt At c gl gd L D w)(i:jH [] w w')(g:w.1.size<w'.1.size):TSt At { c with G:=w.1.size::c.G,wG:=w' } gl gd L D w':=by
 have f:∀b∈c.G,b<w.1.size:=by
  obtain⟨F,k,l,m,n,o,p,d⟩:=h;intro b a;have:=(d b a).2.1;omega
 refine h.own api (i.more (fun x j=>by cases j)) (fun b a=>?_) (fun b a=>?_)
 ·rcases qL.1 a with rfl|a
  ·exact qY (qK _)
  ·exact qX a
 ·rcases qL.1 a with rfl|a
  ·exact g
  ·have:=f b a;omega
theorem TSt.box(api:jS At)(h:TSt At c gl gd L D w)(o:Obj):TSt At { c with G:=w.1.size::c.G,wG:=w.alloc o } gl gd L D (w.alloc o):=h.new api ((jH.refl [] w).alloc o) (by simp)
theorem TSt.xW(h:TSt At c gl gd L D w){b:Nat}(d:b∈c.G){t:TypeId}{cs:Array Value}(a:jF c.wG b t cs):jF w b t cs:=(h.xc d).trans a
theorem TSt.lt(h:TSt At c gl gd L D w){b:Nat}(d:b∈c.G):b<c.wG.1.size/\b<w.1.size:=by
 obtain⟨F,f,g,i,j,k,l,a⟩:=h;have:=(a b d).2.1;omega
def cG(c:Ctx)(w W:World):Prop:=w.1.size<=W.1.size/\c.wG.1.size<=w.1.size/\∀b∈c.G,b<w.1.size/\W.heap[b]? = w.heap[b]?
theorem TSt.keep(h:TSt At c gl gd L D w):cG c w w:=by
 refine⟨qK _, ?_,fun b d=>⟨(h.lt d).2,rfl⟩⟩;obtain⟨F,f,g,i,j,k,a,l⟩:=h;exact a
theorem cG.xC{W d:World}(h:cG c w W)(f:jH [] W d):cG c w d:=⟨qR h.1 f.size,h.2.1,fun b a=>⟨(h.2.2 b a).1,(f.block b (by have:=(h.2.2 b a).1;have:=h.1;omega) (by simp)).trans (h.2.2 b a).2⟩⟩
theorem cG.alloc{W:World}(h:cG c w W)(o:Obj):cG c w (W.alloc o):=h.xC ((jH.refl [] W).alloc o)
theorem cG.below{W a:World}(h:cG c w W)(b:Below W.1.size W a):cG c w a:=h.xC (jH.xA b)
theorem cG.call{a:Ctx}{W:World}(h:cG c w a.wG)(f:TSt At a gl gd L D W)(i:∀b∈c.G,b∈a.G):cG c w W:=by
 refine⟨?_,h.2.1,fun b d=>⟨(h.2.2 b d).1,(f.xc (i b d)).trans (h.2.2 b d).2⟩⟩;obtain⟨F,j,k,l,m,n,g,o⟩:=f;exact qR h.1 g
theorem TSt.xu{a:Ctx}(h:TSt At a gl gd L D w')(g:TSt At c gl gd L' D' w)(f:cG c w a.wG)(i:a.w0=c.w0)(j:a.F0=c.F0)(k:a.base=c.base)(l:a.m=c.m)(n:∀b∈c.G,b∈a.G):TSt At c gl gd L D w' :=
 h.back i j k l (qR f.2.1 f.1) (fun b d=>⟨n b d,(g.lt d).1,(f.2.2 b d).2.trans (g.xc d)⟩)
end
section
variable {At:jR}(api:jS At){c:Ctx}{gl gd:Nat}{L L':jq}{D D':jD}{w w':World}{B1 B2 B3:Nat}{nm s:Tw}
include api
theorem Pt(h:TSt At c gl gd L D w)(ok:WfP D)(f:B1∈c.G)(b:jF c.wG B1 70 #[ptr gl])(g:B3∈c.G)(d:jF c.wG B3 9 #[nm])(k:nm.size<=maxLen):
  Calls prog 200 #[ptr B1,ptr B3] w (vY At c gl gd (err (jx D nm).1) L (jx D nm).2):=by
 have t:=qQ fun(W:World) (u:TSt At c gl gd L D W)=>u.xD api (fun F hF=>api.create nm hF ok.ok k)
 have j:=qQ h;have q:w.cell? ⟨B1,0,none⟩=some (ptr gl):=(h.xW f b).cell 0;have r:w.cell? ⟨B3,0,none⟩=some (.string nm):=(h.xW g d).cell 0;have c1:=h.cells.2.1;have o:=qQ f;have m:=qQ b;have p:=qQ g;have n:=qQ d;generalize jx D nm=v at*;clear h ok f b g d k;go_enter func200,ntmps200;go_wp2_with fail
 go_region_held3 (fun w'=>w'.cell? ⟨B1,0,none⟩=some (ptr gl)/\w'.cell? ⟨gl,1,none⟩=some (ptr gd)/\w'.cell? ⟨B3,0,none⟩=some (.string nm)) (first|assumption|exact⟨by assumption,by assumption,by assumption⟩|exact⟨q,c1,r⟩) (first
  | (go_at_call 201;refine(t.out _ (by first|exact j.out.drew api|exact j.out)).mono ?_;rintro e i⟨rfl,a⟩;have y:i.cell? ⟨gl,1,none⟩=some (ptr gd):=a.cells.2.1;have z:i.cell? ⟨B1,0,none⟩=some (ptr gl):=(a.xW o.out m.out).cell 0;have A:i.cell? ⟨B3,0,none⟩=some (.string nm):=(a.xW p.out n.out).cell 0)
  | fail)
 all_goals
  have l:=qQ a;clear a;go_wp2;go_ret;exact⟨rfl,l.out⟩
theorem Pa(h:TSt At c gl gd L D w)(ok:WfP D)(i:B1∈c.G)(d:jF c.wG B1 70 #[ptr gl])(k:B3∈c.G)(g:jF c.wG B3 9 #[nm])(j:B2∈c.G)(f:jF c.wG B2 9 #[s])(m:nm.size<=maxLen)(C:s.size<=1000000):
  Calls prog 202 #[ptr B1,ptr B3,ptr B2] w (vY At c gl gd (err (jc D nm s).1) L (jc D nm s).2):=by
 have A:=qQ fun(W:World) (B:TSt At c gl gd L D W)=>B.xD api (fun F hF=>api.append nm s hF ok.ok (by omega) m)
 have l:=qQ h;have v:w.cell? ⟨B1,0,none⟩=some (ptr gl):=(h.xW i d).cell 0;have z:w.cell? ⟨B3,0,none⟩=some (.string nm):=(h.xW k g).cell 0;have y:w.cell? ⟨B2,0,none⟩=some (.string s):=(h.xW j f).cell 0;have c1:=h.cells.2.1;have r:=qQ i;have o:=qQ d;have u:=qQ k;have q:=qQ g;have t:=qQ j;have p:=qQ f;generalize jc D nm s=H at*;clear h ok i d k g m j f C;go_enter func202,ntmps202;go_wp2_with fail
 go_region_held3 (fun w'=>w'.cell? ⟨B1,0,none⟩=some (ptr gl)/\w'.cell? ⟨gl,1,none⟩=some (ptr gd)/\w'.cell? ⟨B3,0,none⟩=some (.string nm)/\w'.cell? ⟨B2,0,none⟩=some (.string s)) (first|assumption|exact⟨by assumption,by assumption,by assumption,by assumption⟩|exact⟨v,c1,z,y⟩) (first
  | (go_at_call 203;refine(A.out _ (by first|exact l.out.drew api|exact l.out)).mono ?_;rintro e b⟨rfl,a⟩;have I:b.cell? ⟨gl,1,none⟩=some (ptr gd):=a.cells.2.1;have J:b.cell? ⟨B1,0,none⟩=some (ptr gl):=(a.xW r.out o.out).cell 0;have K:b.cell? ⟨B3,0,none⟩=some (.string nm):=(a.xW u.out q.out).cell 0;have M:b.cell? ⟨B2,0,none⟩=some (.string s):=(a.xW t.out p.out).cell 0)
  | fail)
 all_goals
  have n:=qQ a;clear a;go_wp2;go_ret;exact⟨rfl,n.out⟩
end
def uj{α:Type}(a b c d:α):Nat->α
 | 0=>a
 | 1=>b
 | 2=>c
 | _=>d
theorem Zh{D:jD}{L:jq}(ok:WfP D):WfP (vH D L).2.1:=by
 unfold vH;split
 ·exact ok
 ·split<;>exact mq ok _
section
variable {At:jR}(api:jS At)(nap:jw)(cap:vR){c:Ctx}{gl gd:Nat}{L L':jq}{D D':jD}{w w':World}
include api nap
theorem Pe{B1 B2 B3 B4:Nat}{nm s:Tw}(h:TSt At c gl gd L D w)(ok:WfP D)(v:L.chunks<=200)(r:B1∈c.G)(o:jF c.wG B1 70 #[ptr gl])(t:B3∈c.G)(p:jF c.wG B3 9 #[nm])(B:B2∈c.G)(z:jF c.wG B2 9 #[s])
  (C:B4∈c.G) (J:TypeId) (A:jF c.wG B4 J #[.func (.func 97) #[ptr gl] #[],.func (.func 200) #[] #[ptr B1,ptr B3],.func (.func 202) #[] #[ptr B1,ptr B3,ptr B2]]) (m:nm.size<=maxLen) (y:s.size<=1000000):
  Calls prog 76 #[.slice (some ⟨B4,0,none⟩) 3 3] w (vY At c gl gd (err (yo (yo (vH D L) (onD fun E=>jx E nm)) (onD fun E=>jc E nm s)).1) (yo (yo (vH D L) (onD fun E=>jx E nm)) (onD fun E=>jc E nm s)).2.2 (yo (yo (vH D L) (onD fun E=>jx E nm)) (onD fun E=>jc E nm s)).2.1):=by
 have u:WfP (vH D L).2.1:=Zh ok;have F:WfP (jx (vH D L).2.1 nm).2:=lT u nm
 have H:=Zf (b:=B4) (n:=3) (by omega) (uj (vH D L).1 (jx (vH D L).2.1 nm).1 (jc (jx (vH D L).2.1 nm).2 nm s).1 0)
  (fun k W=>TSt At c gl gd (uj L (vH D L).2.2 (vH D L).2.2 (vH D L).2.2 k) (uj D (vH D L).2.1 (jx (vH D L).2.1 nm).2 (jc (jx (vH D L).2.1 nm).2 nm s).2 k) W)
  (uj 97 200 202 0) (uj #[ptr gl] #[] #[] #[]) (uj #[] #[ptr B1,ptr B3] #[ptr B1,ptr B3,ptr B2] #[])
  (fun k f=>by
   match k,f with
   | 0,_=>exact enters_of func97 (by kernel_rfl) rfl
   | 1,_=>exact enters_of func200 (by kernel_rfl) rfl
   | 2,_=>exact enters_of func202 (by kernel_rfl) rfl)
  (fun k W f d=>by
   have q:=(d.xW C A).cell k
   match k,f with
   | 0,_=>exact q
   | 1,_=>exact q
   | 2,_=>exact q)
  (fun k W f d=>by
   match k,f with
   | 0,_=>exact U3 api nap d ok v
   | 1,_=>exact Pt api d u r o t p m
   | 2,_=>exact Pa api d F r o t p B z m y) w h
 refine KG H fun w' d=>?_;generalize vH D L=a at*;obtain⟨I,i,K⟩:=a;dsimp only at d ⊢;by_cases j:I=0
 ·subst j;by_cases g:(jx i nm).1=0
  ·by_cases l:(jc (jx i nm).2 nm s).1=0
   ·simp[stR,uj,yo,onD,g,l]at d ⊢;exact⟨by simp,d⟩
   ·simp[stR,uj,yo,onD,g,l]at d ⊢;exact⟨rfl,d⟩
  ·simp[stR,uj,yo,onD,g]at d ⊢;exact⟨rfl,d⟩
 ·simp[stR,uj,yo,j]at d ⊢;exact⟨rfl,d⟩
end
section
variable {At:jR}(api:jS At)(nap:jw)(cap:vR){c:Ctx}{gl gd:Nat}{L L':jq}{D D':jD}{w w':World}
include api nap cap
theorem Pi(h:TSt At c gl gd L D w)(ok:WfP D)(I:L.chunks<=200)(r:Tw)(hr:r.size<=100000):
  Calls prog 147 #[ptr gl,r] w (vY At c gl gd (err (cY D L r).1) (cY D L r).2.2 (cY D L r).2.1):=by
 have F:(hdS (L.chunks:Nat)++r).size<=1000000:=by
  rw[qx]
  have:(hdS (L.chunks:Nat)).size<=12:=by
   by_cases q:L.chunks<=199
   ·rw[ma q];exact qK _
   ·rw[ZW (by omega)];exact qI _
  omega
 have ha:∀W:World,(Op.stringOp .add (hdS (L.chunks:Nat)) r).run prog W=.ok (.string (hdS (L.chunks:Nat)++r)) W:=fun W=>run_string_add_sum (P:=prog) (w:=W) _ _ (by rw[qx]at F;omega)
 have Z:=qQ fun(W:World)=>cap.head (L.chunks:Nat) W (hQ (by omega))
 have B:=h.box api (.cells #[ptr gl] 70);obtain⟨c0,c1,c2,c3,X,Y⟩:=B.cells;have q1:=(jF.new w 70 #[ptr gl]).cell 0;have o:=qQ h;have K:=qQ B;have N:=qQ (jF.new w 70 #[ptr gl]);have U:=qQ ok;have O:=qQ I;have Q:=qQ F;unfold cY;by_cases H:200<=L.chunks
 ·rw[qV (qX H)];have t1:decide ((200:Int)<=(L.chunks:Int))=true:=qB (by omega);generalize J:hdS (L.chunks:Nat)++r=s at*;generalize G:hdS (L.chunks:Nat)=hd at*;clear h B F ok hr H I c0 c2 X Y J G;generalize m:(L.chunks:Int)=n at*;have t:=qQ (o.out.keep.alloc (.cells #[ptr gl] 70));generalize ac:w.1.size=B1 at*;generalize C:w.alloc (.cells #[ptr gl] 70)=W1 at*;have aa:=qQ C;go_enter func147,ntmps147;go_wp2_with fail;refine(Z.out _).mono ?_;rintro e i⟨rfl,a⟩;have k:=K.out.below api a;have l:=N.out.xC (jH.xA a) (by simp);have d:=k.box api (.cells #[s] 9);have f:=(jF.new i 9 #[s])
  have g:=l.alloc (.cells #[s] 9);obtain⟨u,d1,v,y,z,A⟩:=d.cells;rw[m]at y;have q2:=f.cell 0;have q3:=g.cell 0;have p:=qQ ((t.out.below a).alloc (.cells #[s] 9));generalize ad:i.1.size=B2 at*;generalize ae:i.alloc (.cells #[s] 9)=W2 at*;have H3:=qQ d;have T:=qQ f;have S:=qQ g;clear l a k d f g u v z A;go_wp2;go_ret;exact⟨rfl,H3.out.xu o.out p.out rfl rfl rfl rfl (fun b a=>by simp[a])⟩
 have t1:decide ((200:Int)<=(L.chunks:Int))=false:=qA (by omega);have ak:IntKind.i64.wrap (L.chunks:Int)=(L.chunks:Int):=qy _ (by omega);generalize J:hdS (L.chunks:Nat)++r=s at*;generalize G:hdS (L.chunks:Nat)=hd at*;cases hq:gG D s
 ·rw[qV (qY rfl)];clear h B F ok hr H I c0 c2 X Y J G;generalize m:(L.chunks:Int)=n at*;have t:=qQ (o.out.keep.alloc (.cells #[ptr gl] 70));generalize ac:w.1.size=B1 at*;generalize C:w.alloc (.cells #[ptr gl] 70)=W1 at*;have aa:=qQ C;go_enter func147,ntmps147;go_wp2_with fail;refine(Z.out _).mono ?_;rintro e i⟨rfl,a⟩;have k:=K.out.below api a;have l:=N.out.xC (jH.xA a) (by simp);have d:=k.box api (.cells #[s] 9);have f:=(jF.new i 9 #[s])
  have g:=l.alloc (.cells #[s] 9);obtain⟨u,d1,v,y,z,A⟩:=d.cells;rw[m]at y;have q2:=f.cell 0;have q3:=g.cell 0;have p:=qQ ((t.out.below a).alloc (.cells #[s] 9));generalize ad:i.1.size=B2 at*;generalize ae:i.alloc (.cells #[s] 9)=W2 at*;have R:=qQ (Zd api d U.out s Q.out);rw[hq]at R;have T:=qQ f;have S:=qQ g;clear l a k d f g u v z A;go_wp2_with fail;refine KG R.out fun w3 j=>?_;have ab:=qQ (p.out.call j (fun b a=>by simp[a]));have M:=qQ j;clear j R;go_wp2;go_ret;exact⟨rfl,M.out.xu o.out p.out rfl rfl rfl rfl (fun b a=>by simp[a])⟩
 ·rw[qZ (by simp;omega)];clear h B F ok hr H I c0 c2 X Y J G;generalize m:(L.chunks:Int)=n at*;have hN:=qQ fun W=>(nX nap L.chunks W (by have:=O.out;omega))
  have af:=qQ (ln (n:=L.chunks) (by have:=O.out;omega));rw[m]at hN;generalize nmC L.chunks=nm at*;have t:=qQ (o.out.keep.alloc (.cells #[ptr gl] 70));generalize ac:w.1.size=B1 at*;generalize C:w.alloc (.cells #[ptr gl] 70)=W1 at*;have aa:=qQ C;go_enter func147,ntmps147;go_wp2_with fail;refine(Z.out _).mono ?_;rintro e i⟨rfl,a⟩;have k:=K.out.below api a;have l:=N.out.xC (jH.xA a) (by simp);have d:=k.box api (.cells #[s] 9);have f:=(jF.new i 9 #[s])
  have g:=l.alloc (.cells #[s] 9);obtain⟨u,d1,v,y,z,A⟩:=d.cells;rw[m]at y;have q2:=f.cell 0;have q3:=g.cell 0;have p:=qQ ((t.out.below a).alloc (.cells #[s] 9));generalize ad:i.1.size=B2 at*;generalize ae:i.alloc (.cells #[s] 9)=W2 at*;have R:=qQ (Zd api d U.out s Q.out);rw[hq]at R;have T:=qQ f;have S:=qQ g;clear l a k d f g u v z A;go_wp2_with fail;refine KG R.out fun w3 j=>?_;have V:=j.xW (b:=B1) (by simp) S.out;have b2:=j.xW (b:=B2) (by simp) T.out;have g1:=V.cell 0;have g3:=j.cells.2.2.2.1;rw[m]at g3;have ab:=qQ (p.out.call j (fun b a=>by simp[a]));have M:=qQ j;have X1:=qQ V;have X2:=qQ b2;clear j V b2 R;go_wp2_with fail;refine KG (hN.out _) fun w4 a=>?_;have h5:=M.out.below api a;have x1:=X1.out.xC (jH.xA a) (by simp);have x2:=X2.out.xC (jH.xA a) (by simp);have h6:=h5.box api (.cells #[nm] 9);have y3:=(jF.new w4 9 #[nm])
  have y1:=x1.alloc (.cells #[nm] 9);have y2:=x2.alloc (.cells #[nm] 9);have q1:=y1.cell 0;have ag:=qQ ((ab.out.below a).alloc (.cells #[nm] 9));generalize ah:w4.1.size=B3 at*;generalize ai:w4.alloc (.cells #[nm] 9)=W4 at*;have aj:∀(fn:Fn) (first cap:Array Value) (w:World),(Instr.makeFunc fn first cap).run prog w=.ok (.func fn first cap) w:=fun _ _ _ _=>rfl
  have H6:=qQ h6;have Y1:=qQ y1;have Y2:=qQ y2;have Y3:=qQ y3;clear a h5 x1 x2 h6 y1 y2 y3;go_wp2_with fail;have y4:=jF.new W4 56 #[.func (.func 97) #[ptr gl] #[],.func (.func 200) #[] #[ptr B1,ptr B3],.func (.func 202) #[] #[ptr B1,ptr B3,ptr B2]];refine KG (Pe api nap (H6.out.box api (.cells #[.func (.func 97) #[ptr gl] #[],.func (.func 200) #[] #[ptr B1,ptr B3],.func (.func 202) #[] #[ptr B1,ptr B3,ptr B2]] 56)) U.out O.out (B1:=B1) (B2:=B2) (B3:=B3) (B4:=W4.1.size) (by simp) (Y1.out.alloc _) (by simp) (Y3.out.alloc _) (by simp) (Y2.out.alloc _) (by simp) _ y4 af.out Q.out) fun w6 h7=>?_;have h8:=qQ (h7.xu o.out (ag.out.alloc _) rfl rfl rfl rfl (fun b a=>by simp[a]));clear h7 y4;go_wp2;go_ret;exact⟨rfl,h8.out⟩
end
theorem Po{D:jD}{L:jq}(ok:WfP D)(d:L.chunks<=200)(p:Tw):(uG D L p).1<=L.chunks/\(uG D L p).2.1<=1048576/\((uG D L p).2.2=0->(uG D L p).1≠L.chunks->0<L.chunks):=by
 have b:=tk ok (nmC (L.chunks-1));unfold uG;split
 ·rename_i a;exact⟨qI _,Nat.le_of_lt (show 12<1048576 by decide),fun _ h=>absurd a.symm h⟩
 ·split
  ·split
   ·exact⟨Nat.sub_le _ _,b,fun _ _=>by omega⟩
   ·exact⟨qK _,Nat.le_of_lt (show 12<1048576 by decide),fun _ h=>absurd rfl h⟩
  ·exact⟨qI _,qI _,fun h=>absurd h (by assumption)⟩
theorem tb{a:Nat × jD × jq}{f:jD->jq->Nat × jD × jq}(h:WfP a.2.1)(b:∀D L,WfP D->WfP (f D L).2.1):WfP (yo a f).2.1:=by
 unfold yo;split
 ·exact b _ _ h
 ·exact h
theorem Pw{D:jD}{L:jq}(ok:WfP D)(r:Tw):WfP (cY D L r).2.1:=by
 unfold cY;split
 ·exact ok
 ·exact tb (tb (Zh ok) (fun E _ h=>lT h _)) (fun E _ h=>l5 h _ _)
theorem RQ{D:jD}{L:jq}(ok:WfP D)(r:Tw):WfP (uS D L r).2:=by
 unfold uS;split
 ·exact ok
 ·exact l5 ok _ _
theorem U4{D:jD}{L:jq}(ok:WfP D)(p:Tw):WfP (uT D L p).2.2.1:=by
 unfold uT;split
 ·exact ok
 ·split
  ·exact ok
  ·split
   ·exact ok
   ·have a:WfP (if (uG D L p).1=L.chunks then cY D L (j9 p) else onD (fun E=>uS E L (j9 p)) D L).2.1:=by
     split
     ·exact Pw ok _
     ·exact RQ ok _
    dsimp only;generalize (if (uG D L p).1=L.chunks then cY D L (j9 p) else onD (fun E=>uS E L (j9 p)) D L)=r at a ⊢;split<;>exact a
section
variable {At:jR}(api:jS At)(nap:jw)(cap:vR){c:Ctx}{gl gd:Nat}{L L':jq}{D D':jD}{w w':World}
include api nap
theorem U5(g:c.m=ptr gl)(h:TSt At c gl gd L D w)(ok:WfP D)(f:L.chunks<=200):Calls prog 49 #[ptr gl] w (vY At c gl gd (err (yJ D L).1) (yJ D L).2.2 (yJ D L).2.1):=by
 have i:=qQ (oG api g h);have k:=qQ fun(W:World) (n:TSt At c gl gd L D W)=>U3 api nap n ok f
 unfold yJ;by_cases b:yG D L=0
 ·rw[qZ (by simp[b])];rw[b]at i;generalize vH D L=r at*;clear h ok f b g;go_enter func49,ntmps49;go_wp2_with fail;refine i.out.mono ?_;rintro e o⟨rfl,a⟩;have d:=qQ a;clear a;go_wp2_with fail;refine(k.out _ d.out).mono ?_;rintro e p⟨rfl,j⟩;have l:=qQ j;clear j;go_wp2;go_ret;exact⟨rfl,l.out⟩
 ·rw[qV b];have t:((yG D L:Int) != 0)=true:=by simp;omega
  generalize yG D L=y at*;clear h ok f b g k;go_enter func49,ntmps49;go_wp2_with fail;refine i.out.mono ?_;rintro e o⟨rfl,a⟩;have d:=qQ a;clear a;go_wp2;go_ret;exact⟨rfl,d.out⟩
variable (cap:vR)
include cap
theorem U6(G:c.m=ptr gl)(h:TSt At c gl gd L D w)(ok:WfP D)(q:L.chunks<=200)(p:Tw)(C:p.size<=maxLen):Calls prog 88 #[ptr gl,p] w (vY At c gl gd (.tuple #[.int .i64 ((uT D L p).1:Nat),err (uT D L p).2.1]) (uT D L p).2.2.2 (uT D L p).2.2.1):=by
 have H:=qQ (oG api G h);unfold uT;by_cases A:yG D L=0
 case neg =>
  rw[qV A];have t:((yG D L:Int) != 0)=true:=by simp;omega
  generalize yG D L=y at*;clear h ok q A G C;go_enter func88,ntmps88;go_wp2_with fail;refine H.out.mono ?_;rintro e Q⟨rfl,b⟩;have i:=qQ b;clear b;go_wp2;go_ret2;exact⟨rfl,i.out⟩
 rw[qZ (by simp[A])];rw[A]at H;clear A;have F:=qQ fun(W:World)=>cap.put p W C
 by_cases u:2000<p.size
 ·rw[qV u];have z:prE p=3:=by unfold prE;rw[qV u]
  rw[z]at F;generalize prS p=T at*;clear h ok q G C u z;go_enter func88,ntmps88;go_wp2_with fail;refine H.out.mono ?_;rintro e Q⟨rfl,b⟩;have i:=qQ b;clear b;go_wp2_with fail;refine(F.out _).mono ?_;rintro e U⟨rfl,f⟩;have k:=qQ (i.out.below api f);clear f;go_wp2;go_ret2;exact⟨rfl,k.out⟩
 rw[qZ u];have z:prE p=0:=by unfold prE;rw[qZ u]
 have K:prS p=j9 p:=by unfold prS;rw[qZ u]
 rw[z,K]at F;have S:(j9 p).size<=2012:=by rw[gU];omega
 have j:=qQ fun(W:World) (j:TSt At c gl gd L D W)=>Pn api nap cap j ok q p C
 obtain⟨O,P,I⟩:=Po ok q p;generalize uG D L p=tg at*;obtain⟨n,a,e⟩:=tg;dsimp only at O P I j ⊢;by_cases A:e=0
 case neg =>
  rw[qV A];have t:((e:Int) != 0)=true:=by simp;omega
  generalize j9 p=T at*;clear h ok q G C u z K O P I S A;go_enter func88,ntmps88;go_wp2_with fail;refine H.out.mono ?_;rintro e Q⟨rfl,b⟩;have i:=qQ b;clear b;go_wp2_with fail;refine(F.out _).mono ?_;rintro e U⟨rfl,f⟩;have k:=qQ (i.out.below api f);clear f;go_wp2_with fail;refine KG (j.out _ k.out) fun w3 d=>?_;have v:=qQ d;clear d;go_wp2;go_ret2;exact⟨rfl,v.out⟩
 subst A;rw[qZ (by simp)];have hFr:=qQ fun(W:World)=>ZC n W (by omega)
 have V:(n:Int)<=200:=by omega
 have X:(a:Int)<=1048576:=by omega
 have Y:(0:Int)<=n:=by omega
 have Z:(0:Int)<=a:=by omega
 have k5:((j9 p).size:Int)<=2012:=by omega
 have ab:IntKind.i64.wrap ((n:Int)*4096+(a:Int))=(n:Int)*4096+(a:Int):=qy _ (by omega);have ac:IntKind.i64.wrap ((n:Int)*4096+(a:Int)+((j9 p).size:Nat))=(n:Int)*4096+(a:Int)+((j9 p).size:Nat):=qy _ (by omega);have ad:IntKind.i64.wrap ((n:Int)+1)=(n:Int)+1:=qy _ (by omega);have N:((4096*n+a:Nat):Int)=(n:Int)*4096+(a:Int):=by omega
 have M:((4096*n+a+(j9 p).size:Nat):Int)=(n:Int)*4096+(a:Int)+((j9 p).size:Nat):=by omega
 by_cases B:n=L.chunks
 ·rw[qV B];have J:=qQ fun(W:World) (j:TSt At c gl gd L D W)=>Pi api nap cap j ok q (j9 p) (by omega)
  generalize cY D L (j9 p)=r at*;generalize j9 p=T at*;have t1:((n:Int)==(L.chunks:Int))=true:=by rw[B];simp
  have EN:=qQ N;have EE:=qQ M;have HN:=qQ B;by_cases l:r.1=0
  case neg =>
   rw[qV l];have t:((r.1:Int) != 0)=true:=(by simp;omega);generalize r.1=y at*;clear h ok q G C u z K O P I S l V X Y Z k5 B N M;go_enter func88,ntmps88;go_wp2_with fail;refine H.out.mono ?_;rintro e Q⟨rfl,b⟩;have i:=qQ b;clear b;go_wp2_with fail;refine(F.out _).mono ?_;rintro e U⟨rfl,f⟩;have k:=qQ (i.out.below api f);clear f;go_wp2_with fail;refine KG (j.out _ k.out) fun w3 d=>?_;have c3:=d.cells.2.2.2.1;have v:=qQ d;clear d;go_wp2_with fail;refine KG (J.out _ v.out) fun w4 o=>?_;have g:=qQ o;clear o;go_wp2;go_ret2;exact⟨rfl,g.out⟩
  rw[qZ (by simp[l])];rw[l]at J;clear h ok q G C u z K O P I S l V X Y Z k5 B N M;go_enter func88,ntmps88;go_wp2_with fail;refine H.out.mono ?_;rintro e Q⟨rfl,b⟩;have i:=qQ b;clear b;go_wp2_with fail;refine(F.out _).mono ?_;rintro e U⟨rfl,f⟩;have k:=qQ (i.out.below api f);clear f;go_wp2_with fail;refine KG (j.out _ k.out) fun w3 d=>?_;have c3:=d.cells.2.2.2.1;have v:=qQ d;clear d;go_wp2_with fail;refine KG (J.out _ v.out) fun w4 o=>?_;have g:=qQ o;clear o;go_wp2_with fail;refine X5 (hFr.out _) ?_;have d3:=g.out.cells.2.2.2.1;have d4:=g.out.cells.2.2.2.2.1;have f3:=g.out.frozen 3;have f4:=g.out.frozen 4;go_wp2;have R:=(g.out.xw api (n+1)).xm api (4096*n+a+T.size);rw[EE.out,show((n+1:Nat):Int)=(n:Int)+1 from by omega]at R;go_ret2;exact⟨by rw[EN.out];rfl,R⟩
 ·rw[qZ B];have aa:=I rfl B;have J:=qQ fun(W:World) (j:TSt At c gl gd L D W)=>(show Calls prog 148 #[ptr gl,.string (j9 p)] W (vY At c gl gd (err (onD (fun E=>uS E L (j9 p)) D L).1) (onD (fun E=>uS E L (j9 p)) D L).2.2 (onD (fun E=>uS E L (j9 p)) D L).2.1) from Pp api nap j ok q aa (j9 p) (by omega))
  generalize onD (fun E=>uS E L (j9 p)) D L=r at*;generalize j9 p=T at*;have t1:((n:Int)==(L.chunks:Int))=false:=by simp;omega
  have EN:=qQ N;have EE:=qQ M;by_cases l:r.1=0
  case neg =>
   rw[qV l];have t:((r.1:Int) != 0)=true:=(by simp;omega);generalize r.1=y at*;clear h ok q G C u z K O P I S l V X Y Z k5 B N M aa;go_enter func88,ntmps88;go_wp2_with fail;refine H.out.mono ?_;rintro e Q⟨rfl,b⟩;have i:=qQ b;clear b;go_wp2_with fail;refine(F.out _).mono ?_;rintro e U⟨rfl,f⟩;have k:=qQ (i.out.below api f);clear f;go_wp2_with fail;refine KG (j.out _ k.out) fun w3 d=>?_;have c3:=d.cells.2.2.2.1;have v:=qQ d;clear d;go_wp2_with fail;refine KG (J.out _ v.out) fun w4 o=>?_;have g:=qQ o;clear o;go_wp2;go_ret2;exact⟨rfl,g.out⟩
  rw[qZ (by simp[l])];rw[l]at J;clear h ok q G C u z K O P I S l V X Y Z k5 B N M aa;go_enter func88,ntmps88;go_wp2_with fail;refine H.out.mono ?_;rintro e Q⟨rfl,b⟩;have i:=qQ b;clear b;go_wp2_with fail;refine(F.out _).mono ?_;rintro e U⟨rfl,f⟩;have k:=qQ (i.out.below api f);clear f;go_wp2_with fail;refine KG (j.out _ k.out) fun w3 d=>?_;have c3:=d.cells.2.2.2.1;have v:=qQ d;clear d;go_wp2_with fail;refine KG (J.out _ v.out) fun w4 o=>?_;have g:=qQ o;clear o;go_wp2_with fail;refine X5 (hFr.out _) ?_;have d3:=g.out.cells.2.2.2.1;have d4:=g.out.cells.2.2.2.2.1;have f3:=g.out.frozen 3;have f4:=g.out.frozen 4;go_wp2;have R:=(g.out.xw api (n+1)).xm api (4096*n+a+T.size);rw[EE.out,show((n+1:Nat):Int)=(n:Int)+1 from by omega]at R;go_ret2;exact⟨by rw[EN.out];rfl,R⟩
end
theorem rK: jr.size<=maxLen:=by decide
def fA{α:Type}(a b c d e:α):Nat->α
 | 0=>a
 | 1=>b
 | 2=>c
 | 3=>d
 | _=>e
section
variable {At:jR}(api:jS At){c:Ctx}{gl gd:Nat}{L L':jq}{D D':jD}{w w':World}{B1 B2 B3:Nat}{nm s:Tw}
include api
theorem RX(h:TSt At c gl gd L D w)(ok:WfP D)(b:B1∈c.G)(a:jF c.wG B1 70 #[ptr gl]):
  Calls prog 241 #[ptr B1] w (vY At c gl gd (err (jx D jr).1) L (jx D jr).2):=by
 have i:=qQ fun(W:World) (j:TSt At c gl gd L D W)=>j.xD api (fun F hF=>api.create jr hF ok.ok rK)
 have g:=qQ h;have n:w.cell? ⟨B1,0,none⟩=some (ptr gl):=(h.xW b a).cell 0;have c1:=h.cells.2.1;have m:=qQ b;have l:=qQ a;generalize jx D jr=k at*;have o:(⟨#[110,101,119]⟩:Tw)=jr:=rfl;clear h ok b a;go_enter func241,ntmps241;go_wp2_with fail;refine(i.out _ g.out).mono ?_;rintro e p⟨rfl,d⟩;have f:=qQ d;clear d;go_wp2;go_ret;exact⟨rfl,f.out⟩
theorem RZ(h:TSt At c gl gd L D w)(ok:WfP D)(f:B1∈c.G)(b:jF c.wG B1 70 #[ptr gl])(g:B3∈c.G)(d:jF c.wG B3 9 #[s])(u:s.size<=1100000):
  Calls prog 242 #[ptr B1,ptr B3] w (vY At c gl gd (err (jc D jr s).1) L (jc D jr s).2):=by
 have r:=qQ fun(W:World) (t:TSt At c gl gd L D W)=>t.xD api (fun F hF=>api.append jr s hF ok.ok (by omega) rK)
 have j:=qQ h;have p:w.cell? ⟨B1,0,none⟩=some (ptr gl):=(h.xW f b).cell 0;have c1:=h.cells.2.1;have n:=qQ f;have l:=qQ b;have q:w.cell? ⟨B3,0,none⟩=some (.string s):=(h.xW g d).cell 0;have o:=qQ g;have m:=qQ d;generalize jc D jr s=v at*;have B:(⟨#[110,101,119]⟩:Tw)=jr:=rfl;clear h ok f b g d u;go_enter func242,ntmps242;go_wp2_with fail
 go_region_held3 (fun w'=>w'.cell? ⟨B1,0,none⟩=some (ptr gl)/\w'.cell? ⟨gl,1,none⟩=some (ptr gd)/\w'.cell? ⟨B3,0,none⟩=some (.string s)) (first|assumption|exact⟨by assumption,by assumption,by assumption⟩|exact⟨p,c1,q⟩) (first
  | (go_at_call 203;refine(r.out _ (by first|exact j.out.drew api|exact j.out)).mono ?_;rintro e i⟨rfl,a⟩;have y:i.cell? ⟨gl,1,none⟩=some (ptr gd):=a.cells.2.1;have z:i.cell? ⟨B1,0,none⟩=some (ptr gl):=(a.xW n.out l.out).cell 0;have A:i.cell? ⟨B3,0,none⟩=some (.string s):=(a.xW o.out m.out).cell 0)
  | fail)
 all_goals
  have k:=qQ a;clear a;go_wp2;go_ret;exact⟨rfl,k.out⟩
theorem RJ(h:TSt At c gl gd L D w)(ok:WfP D)(b:B1∈c.G)(a:jF c.wG B1 70 #[ptr gl]):
  Calls prog 243 #[ptr B1] w (vY At c gl gd (err (kZ D jr).1) L (kZ D jr).2):=by
 have i:=qQ fun(W:World) (j:TSt At c gl gd L D W)=>j.xD api (fun F hF=>api.sync jr hF ok.ok rK)
 have g:=qQ h;have n:w.cell? ⟨B1,0,none⟩=some (ptr gl):=(h.xW b a).cell 0;have c1:=h.cells.2.1;have m:=qQ b;have l:=qQ a;generalize kZ D jr=k at*;have o:(⟨#[110,101,119]⟩:Tw)=jr:=rfl;clear h ok b a;go_enter func243,ntmps243;go_wp2_with fail;refine(i.out _ g.out).mono ?_;rintro e p⟨rfl,d⟩;have f:=qQ d;clear d;go_wp2;go_ret;exact⟨rfl,f.out⟩
theorem RK(h:TSt At c gl gd L D w)(ok:WfP D)(f:B1∈c.G)(b:jF c.wG B1 70 #[ptr gl])(g:B2∈c.G)(d:jF c.wG B2 9 #[nm])(k:nm.size<=maxLen):
  Calls prog 244 #[ptr B1,ptr B2] w (vY At c gl gd (err (vI D jr nm).1) L (vI D jr nm).2):=by
 have t:=qQ fun(W:World) (u:TSt At c gl gd L D W)=>u.xD api (fun F hF=>api.rename jr nm hF ok.ok k rK)
 have j:=qQ h;have q:w.cell? ⟨B1,0,none⟩=some (ptr gl):=(h.xW f b).cell 0;have c1:=h.cells.2.1;have o:=qQ f;have m:=qQ b;have r:w.cell? ⟨B2,0,none⟩=some (.string nm):=(h.xW g d).cell 0;have p:=qQ g;have n:=qQ d;generalize vI D jr nm=v at*;have B:(⟨#[110,101,119]⟩:Tw)=jr:=rfl;clear h ok f b g d k;go_enter func244,ntmps244;go_wp2_with fail
 go_region_held3 (fun w'=>w'.cell? ⟨B1,0,none⟩=some (ptr gl)/\w'.cell? ⟨gl,1,none⟩=some (ptr gd)/\w'.cell? ⟨B2,0,none⟩=some (.string nm)) (first|assumption|exact⟨by assumption,by assumption,by assumption⟩|exact⟨q,c1,r⟩) (first
  | (go_at_call 245;refine(t.out _ (by first|exact j.out.drew api|exact j.out)).mono ?_;rintro e i⟨rfl,a⟩;have y:i.cell? ⟨gl,1,none⟩=some (ptr gd):=a.cells.2.1;have z:i.cell? ⟨B1,0,none⟩=some (ptr gl):=(a.xW o.out m.out).cell 0;have A:i.cell? ⟨B2,0,none⟩=some (.string nm):=(a.xW p.out n.out).cell 0)
  | fail)
 all_goals
  have l:=qQ a;clear a;go_wp2;go_ret;exact⟨rfl,l.out⟩
theorem RV{B4:Nat}(h:TSt At c gl gd L D w)(ok:WfP D)(j:B1∈c.G)(i:jF c.wG B1 70 #[ptr gl])(z:B2∈c.G)(u:jF c.wG B2 9 #[nm])(A:B3∈c.G)(v:jF c.wG B3 9 #[s])
  (B:B4∈c.G) (F:TypeId) (y:jF c.wG B4 F #[.func (.func 241) #[] #[ptr B1],.func (.func 242) #[] #[ptr B1,ptr B3],.func (.func 243) #[] #[ptr B1],.func (.func 244) #[] #[ptr B1,ptr B2]]) (r:nm.size<=maxLen) (t:s.size<=1100000):
  Calls prog 76 #[.slice (some ⟨B4,0,none⟩) 4 4] w (vY At c gl gd (err (lk D nm s).1) L (lk D nm s).2):=by
 have o:WfP (jx D jr).2:=lT ok jr;have p:WfP (jc (jx D jr).2 jr s).2:=l5 o jr s;have C:WfP (kZ (jc (jx D jr).2 jr s).2 jr).2:=mq p jr
 have H:=Zf (b:=B4) (n:=4) (by omega) (fA (jx D jr).1 (jc (jx D jr).2 jr s).1 (kZ (jc (jx D jr).2 jr s).2 jr).1 (vI (kZ (jc (jx D jr).2 jr s).2 jr).2 jr nm).1 0)
  (fun k W=>TSt At c gl gd L (fA D (jx D jr).2 (jc (jx D jr).2 jr s).2 (kZ (jc (jx D jr).2 jr s).2 jr).2 (vI (kZ (jc (jx D jr).2 jr s).2 jr).2 jr nm).2 k) W)
  (fA 241 242 243 244 0) (fA #[] #[] #[] #[] #[]) (fA #[ptr B1] #[ptr B1,ptr B3] #[ptr B1] #[ptr B1,ptr B2] #[])
  (fun k f=>by
   match k,f with
   | 0,_=>exact enters_of func241 (by kernel_rfl) rfl
   | 1,_=>exact enters_of func242 (by kernel_rfl) rfl
   | 2,_=>exact enters_of func243 (by kernel_rfl) rfl
   | 3,_=>exact enters_of func244 (by kernel_rfl) rfl)
  (fun k W f a=>by
   have q:=(a.xW B y).cell k
   match k,f with
   | 0,_=>exact q
   | 1,_=>exact q
   | 2,_=>exact q
   | 3,_=>exact q)
  (fun k W f a=>by
   match k,f with
   | 0,_=>exact RX api a ok j i
   | 1,_=>exact RZ api a o j i A v t
   | 2,_=>exact RJ api a p j i
   | 3,_=>exact RK api a C j i z u r) w h
 refine KG H fun w' a=>?_;unfold lk;by_cases d:(jx D jr).1=0
 ·by_cases g:(jc (jx D jr).2 jr s).1=0
  ·by_cases l:(kZ (jc (jx D jr).2 jr s).2 jr).1=0
   ·by_cases m:(vI (kZ (jc (jx D jr).2 jr s).2 jr).2 jr nm).1=0
    ·simp[stR,fA,fU,d,g,l,m]at a ⊢;exact⟨by simp,a⟩
    ·simp[stR,fA,fU,d,g,l,m]at a ⊢;exact⟨rfl,a⟩
   ·simp[stR,fA,fU,d,g,l]at a ⊢;exact⟨rfl,a⟩
  ·simp[stR,fA,fU,d,g]at a ⊢;exact⟨rfl,a⟩
 ·simp[stR,fA,fU,d]at a ⊢;exact⟨rfl,a⟩
theorem RY(h:TSt At c gl gd L D w)(ok:WfP D)(p:nm.size<=maxLen)(q:s.size<=1100000):
  Calls prog 190 #[ptr gl,nm,s] w (vY At c gl gd (err (lk D nm s).1) L (lk D nm s).2):=by
 have A:=qQ ok;have v:=qQ p;have y:=qQ q;have u:=qQ h;have k:=h.box api (.cells #[ptr gl] 70);have d:=jF.new w 70 #[ptr gl];have a:=h.keep.alloc (.cells #[ptr gl] 70);generalize G:w.1.size=B1 at*;generalize J:w.alloc (.cells #[ptr gl] 70)=g at*;have l:=k.box api (.cells #[nm] 9);have f:=jF.new g 9 #[nm];have d:=d.alloc (.cells #[nm] 9);have a:=a.alloc (.cells #[nm] 9);generalize H:g.1.size=B2 at*;generalize K:g.alloc (.cells #[nm] 9)=i at*;have m:=l.box api (.cells #[s] 9);have r:=jF.new i 9 #[s];have d:=d.alloc (.cells #[s] 9);have f:=f.alloc (.cells #[s] 9);have a:=a.alloc (.cells #[s] 9);generalize I:i.1.size=B3 at*;generalize M:i.alloc (.cells #[s] 9)=B at*;have n:=m.box api (.cells #[.func (.func 241) #[] #[ptr B1],.func (.func 242) #[] #[ptr B1,ptr B3],.func (.func 243) #[] #[ptr B1],.func (.func 244) #[] #[ptr B1,ptr B2]] 56);have t:=jF.new B 56 #[.func (.func 241) #[] #[ptr B1],.func (.func 242) #[] #[ptr B1,ptr B3],.func (.func 243) #[] #[ptr B1],.func (.func 244) #[] #[ptr B1,ptr B2]];have a:=a.alloc (.cells #[.func (.func 241) #[] #[ptr B1],.func (.func 242) #[] #[ptr B1,ptr B3],.func (.func 243) #[] #[ptr B1],.func (.func 244) #[] #[ptr B1,ptr B2]] 56);have N:∀(j:Fn) (first cap:Array Value) (w:World),(Instr.makeFunc j first cap).run prog w=.ok (.func j first cap) w:=fun _ _ _ _=>rfl
 have R:=qQ (RV api n A.out (B1:=B1) (B2:=B2) (B3:=B3) (by simp) (d.alloc _) (by simp) (f.alloc _) (by simp) (r.alloc _) (by simp) _ t v.out y.out);have z:=qQ a;clear h ok p q k l m n d f r t a;go_enter func190,ntmps190;go_wp2_with fail;refine R.out.mono ?_;rintro e O⟨rfl,o⟩;have C:=qQ (o.xu u.out z.out rfl rfl rfl rfl (fun b F=>by simp[F]));clear o;go_wp2;go_ret;exact⟨rfl,C.out⟩
end
end
section
open Go.RowKit
theorem RU(s:Tw):bs s.data.toList=s:=by
 apply qi;simp[bs]
theorem RG(s:Tw)(h:s.size=4):bs (be 4 (jz s))=s:=by
 have a:s.data.toList.length=4:=by rw[Array.length_toList];exact h
 unfold jz;rw[qp (by omega)];have e:=mN s.data.toList;rw[a]at e;rw[e,RU]
theorem U7(s:Tw)(h:s.size<=4):jz s<4294967296:=by
 unfold jz;have b:=lN (s.data.toList.take 8);have a:(s.data.toList.take 8).length<=4:=by rw[qT,Array.length_toList];have:s.data.size=s.size:=rfl;omega
 have d:256 ^ (s.data.toList.take 8).length<=256 ^ 4:=Nat.pow_le_pow_right (by decide) a;have:(256:Nat) ^ 4=4294967296:=by decide
 omega
theorem Zl(s:Tw)(i j k:Nat)(a:i<=j)(b:j<=k):s.extract i j++s.extract j k=s.extract i k:=by
 rw[ByteArray.extract_append_extract,Nat.min_eq_left a,Nat.max_eq_right b]
theorem RW{s:Tw}(h:4<=s.size):yn s=true↔s=vO (s.extract 0 (s.size-4)):=by
 have a:(s.extract 0 (s.size-4)).size=s.size-4:=by rw[qk];omega
 have d:s.extract 0 (s.size-4)++s.extract (s.size-4) s.size=s:=by rw[Zl _ _ _ _ (by omega) (by omega),ByteArray.extract_zero_size]
 unfold yn vO;rw[decide_eq_true_iff];constructor
 ·rintro ⟨_,e⟩;rw[<-e,d]
 ·intro e;refine⟨h, ?_⟩;have b:=congrArg (fun x=>x.extract (s.size-4) s.size) e;rw[b];have:=fc (s.extract 0 (s.size-4)) (bs (bJ (s.extract 0 (s.size-4)).data.toList)) ByteArray.empty (i:=s.size-4) (j:=s.size) a.symm (by rw[a,kK,pE];omega);rw[ByteArray.append_empty]at this;exact this
theorem RA(R:Tw)(n:Nat)(l:R.size=n+12)(o:jz (R.extract 0 4)=n):
  R=j9 (R.extract 4 (4+n))↔(R.extract (n+8) (n+12)=R.extract 0 4/\yn (R.extract 0 (n+8))=true):=by
 have g:(R.extract 0 4).size=4:=by rw[qk];omega
 have t:(R.extract 4 (4+n)).size=n:=by rw[qk];omega
 have r:(R.extract 0 (n+8)).size=n+8:=by rw[qk];omega
 have d:=RG _ g;rw[o]at d;have m:R.extract 0 4++R.extract 4 (4+n)=R.extract 0 (n+4):=by rw[Zl _ _ _ _ (by omega) (by omega),Nat.add_comm 4 n]
 have q:(R.extract 0 (n+8)).extract 0 (n+4)=R.extract 0 (n+4):=by rw[ByteArray.extract_extract];congr 1<;>omega
 have hw:R.extract 0 (n+8)++R.extract (n+8) (n+12)=R:=by rw[Zl _ _ _ _ (by omega) (by omega),<-l,ByteArray.extract_zero_size]
 have p:j9 (R.extract 4 (4+n))=vO (R.extract 0 (n+4))++R.extract 0 4:=by
  unfold j9;rw[t,d,m]
 have f:=RW (s:=R.extract 0 (n+8)) (by omega);rw[r,show n+8-4=n+4 by omega,q]at f;rw[f,p];have b:(vO (R.extract 0 (n+4))).size=n+8:=by rw[tG,qk];omega
 constructor
 ·intro e;constructor
  ·have a:=congrArg (fun x=>x.extract (n+8) (n+12)) e;rw[a];have:=fc (vO (R.extract 0 (n+4))) (R.extract 0 4) ByteArray.empty (i:=n+8) (j:=n+12) b.symm (by rw[b,g]);rw[ByteArray.append_empty]at this;exact this
  ·have a:=congrArg (fun x=>x.extract 0 (n+8)) e;rw[a];have:=fc ByteArray.empty (vO (R.extract 0 (n+4))) (R.extract 0 4) (i:=0) (j:=n+8) rfl (by rw[b];simp);rw[ByteArray.empty_append]at this;exact this
 ·rintro ⟨k,a⟩;rw[<-k,<-a,hw]
theorem RB(R:Tw)(n:Nat)(d:R.size=n+12)(h:yn (R.extract 0 (n+8))=true):(opA (R.extract 0 (n+8))).extract 4 (opA (R.extract 0 (n+8))).size=R.extract 4 (4+n):=by
 have b:(R.extract 0 (n+8)).size=n+8:=by rw[qk];omega
 have a:opA (R.extract 0 (n+8))=R.extract 0 (n+4):=by
  unfold opA;rw[qV h,b,ByteArray.extract_extract];congr 1<;>omega
 rw[a,ByteArray.extract_extract,qk];congr 1<;>omega
theorem RC(R:Tw)(n:Nat)(b:R.size=n+12)(h:yn (R.extract 0 (n+8))=true):(opA (R.extract 0 (n+8))).size=n+4:=by
 have a:(R.extract 0 (n+8)).size=n+8:=by rw[qk];omega
 unfold opA;rw[qV h,a,qk];omega
theorem RD(p:Tw)(w:World)(a:p.size<=maxLen)(h:2000<p.size):
  Calls prog 145 #[p] w (X3 (.tuple #[.string ByteArray.empty,.int .i64 3]) w):=by
 unfold maxLen at a;go_enter func145,ntmps145;go_wp2;go_ret2;exact⟨rfl,qU _ _⟩
theorem RE(p:Tw)(w:World)(h:p.size<=2000):
  Calls prog 145 #[p] w (X3 (.tuple #[.string (j9 p),.int .i64 0]) w):=by
 have a:=qQ fun W=>bK p.size 4 W (by omega) (by omega) (by omega)
 have j:(bs (be 4 p.size)++p).size=p.size+4:=by rw[qx,kK,jn];omega
 have d:(bs (be 4 p.size)).size=4:=by rw[kK,jn]
 have k:∀w:World,(Op.stringOp .add (bs (be 4 p.size)) p).run prog w=.ok (.string (bs (be 4 p.size)++p)) w:=fun w=>run_string_add_sum (P:=prog) (w:=w) _ _ (by omega)
 have b:=qQ fun W=>nh (bs (be 4 p.size)++p) W (by unfold maxLen;omega)
 have i:=tG (bs (be 4 p.size)++p);have l:∀w:World,(Op.stringOp .add (vO (bs (be 4 p.size)++p)) (bs (be 4 p.size))).run prog w=.ok (.string (j9 p)) w:=fun w=>run_string_add_sum (P:=prog) (w:=w) _ _ (by omega)
 generalize j9 p=R at*;generalize vO (bs (be 4 p.size)++p)=S at*;generalize bs (be 4 p.size)++p=T at*;generalize bs (be 4 p.size)=N at*;clear j d i;go_enter func145,ntmps145;go_wp2_with fail;refine(a.out _).mono ?_;rintro e m⟨rfl,f⟩;go_wp2_with fail;refine(b.out _).mono ?_;rintro e n⟨rfl,g⟩;go_wp2;go_ret2;exact⟨rfl,bj f g⟩
theorem RF(p:Tw)(w:World)(a:p.size<=maxLen):
  Calls prog 145 #[p] w (X3 (.tuple #[.string (prS p),.int .i64 (prE p)]) w):=by
 unfold prS prE;by_cases h:2000<p.size
 ·rw[qV h,qV h];exact RD p w a h
 ·rw[qZ h,qZ h];exact RE p w (by omega)
theorem td(s:Tw)(a:Int)(w:World)(f:s.size<=maxLen)(g:(Lit.int .i64 a).wf=true):
  Calls prog 155 #[s,a] w (X0 (.bool (decide (0<=a/\a<=s.size))) w):=by
 have i:=bounds_i64 g;unfold maxLen at f;by_cases b:0<=a
 ·by_cases d:a<=s.size
  ·rw[qB ⟨b,d⟩];go_enter func155,ntmps155;go_wp2;go_ret;exact⟨rfl,rfl⟩
  ·rw[qA (fun h=>d h.2)];go_enter func155,ntmps155;go_wp2;go_ret;exact⟨rfl,rfl⟩
 ·rw[qA (fun h=>b h.1)];go_enter func155,ntmps155;go_wp2;go_ret;exact⟨rfl,rfl⟩
theorem RH(s:Tw)(w:World)(b:s.size<=maxLen)(f:4<=s.size):
  Calls prog 210 #[s] w (X0 (.tuple #[.int .i64 (if 2000<jz (s.extract 0 4) then 0 else(jz (s.extract 0 4):Nat)),.bool (decide (jz (s.extract 0 4)<=2000))]) w):=by
 have a:=qQ fun W=>dZ (s.extract 0 4) W (by unfold maxLen at*;rw[qk];omega)
 have g:=U7 (s.extract 0 4) (by rw[qk];omega);generalize jz (s.extract 0 4)=n at*;unfold maxLen at b;by_cases h:2000<n
 ·rw[qV h,qA (by omega)];go_enter func210,ntmps210;go_wp2_with fail;refine(a.out _).mono ?_;rintro e d⟨rfl,rfl⟩;go_wp2;go_ret2;exact⟨rfl,rfl⟩
 ·rw[qZ h,qB (by omega)];go_enter func210,ntmps210;go_wp2_with fail;refine(a.out _).mono ?_;rintro e d⟨rfl,rfl⟩;go_wp2;go_ret2;exact⟨rfl,rfl⟩
def dU(s:Tw):Bool:=decide (12<=s.size/\jz (s.extract 0 4)<=2000/\jz (s.extract 0 4)+12<=s.size)
def lr(s:Tw):Tw:=if dU s=true then s.extract 0 (jz (s.extract 0 4)+12) else ByteArray.empty
theorem RI(s:Tw)(w:World)(d:s.size<=maxLen):
  Calls prog 156 #[s] w (X0 (.tuple #[.string (lr s),.bool (dU s)]) w):=by
 unfold lr;by_cases f:12<=s.size
 ·have a:=qQ fun W=>RH s W d (by omega)
  have k:=U7 (s.extract 0 4) (by rw[qk];omega);have b:dU s=decide (jz (s.extract 0 4)<=2000/\jz (s.extract 0 4)+12<=s.size):=by unfold dU;simp[f]
  rw[b];clear b;generalize jz (s.extract 0 4)=n at*;unfold maxLen at d;by_cases h:2000<n
  ·rw[qA (by omega),qZ (by decide)];rw[qA (by omega)]at a;go_enter func156,ntmps156;go_wp2_with fail;refine(a.out _).mono ?_;rintro e i⟨rfl,rfl⟩;go_wp2;go_ret2;exact⟨rfl,rfl⟩
  ·rw[qB (show n<=2000 by omega),qZ h]at a;by_cases g:n+12<=s.size
   ·rw[qB ⟨by omega,g⟩,qV rfl];have l:((n:Int)+12).toNat=n+12:=(by omega);have j:¬(s.size:Int)-12<(n:Int):=(by omega);go_enter func156,ntmps156;go_wp2_with fail;refine(a.out _).mono ?_;rintro e i⟨rfl,rfl⟩;go_wp2;go_ret2;exact⟨rfl,rfl⟩
   ·rw[qA (fun h=>g h.2),qZ (by decide)];have j:(s.size:Int)-12<(n:Int):=(by omega);go_enter func156,ntmps156;go_wp2_with fail;refine(a.out _).mono ?_;rintro e i⟨rfl,rfl⟩;go_wp2;go_ret2;exact⟨rfl,rfl⟩
 ·have b:dU s=false:=by unfold dU;simp[f]
  rw[b,qZ (by decide)];unfold maxLen at d;go_enter func156,ntmps156;go_wp2;go_ret2;exact⟨rfl,rfl⟩
theorem RL(s:Tw)(a:Int)(w:World)(d:s.size<=maxLen)(f:(Lit.int .i64 a).wf=true)(h:¬(0<=a/\a<=s.size)):
  Calls prog 94 #[s,a] w (pc w):=by
 have b:=qQ fun W=>td s a W d f
 rw[qA h]at b;go_enter func94,ntmps94;go_wp2_with fail;refine(b.out _).mono ?_;rintro e g⟨rfl,rfl⟩;go_wp2;go_ret3;exact⟨rfl,qU _ _⟩
theorem U8(s:Tw)(k:Nat)(w:World)(g:s.size<=maxLen)(j:k<=s.size)
  (b:∀w:World,Calls prog 155 #[s,k] w (X0 (.bool true) w))
  (a:∀w:World,Calls prog 156 #[.string (s.extract k s.size)] w (X0 (.tuple #[.string ByteArray.empty,.bool false]) w)):
  Calls prog 94 #[s,k] w (pc w):=by
 have d:=qQ b;have f:=qQ a;clear b a;unfold maxLen at g;go_enter func94,ntmps94;go_wp2_with fail;refine(d.out _).mono ?_;rintro e i⟨rfl,rfl⟩;go_wp2_with fail;refine(f.out _).mono ?_;rintro e i⟨rfl,rfl⟩;go_wp2;go_ret3;exact⟨rfl,qU _ _⟩
theorem RM(s:Tw)(k:Nat)(w:World)(i:s.size<=maxLen)(n:k<=s.size)(R:Tw)(l:12<=R.size)(m:R.size<=2012)
  (d:∀w:World,Calls prog 155 #[s,k] w (X0 (.bool true) w))
  (b:∀w:World,Calls prog 156 #[.string (s.extract k s.size)] w (X0 (.tuple #[R,.bool true]) w))
  (a:¬R.extract (R.size-4) R.size=R.extract 0 4):
  Calls prog 94 #[s,k] w (pc w):=by
 have f:=qQ d;have g:=qQ b;have o:=Nd a;have p:=XN a;have q:((R.size:Int)-4).toNat=R.size-4:=by omega
 have r:(0:Int)<=(R.size:Int)-4:=by omega
 have t:(R.size:Int)-4<=R.size:=by omega
 have u:(4:Int)<=(R.size:Int):=by omega
 clear d b a;unfold maxLen at i;go_enter func94,ntmps94;go_wp2_with fail;refine(f.out _).mono ?_;rintro e j⟨rfl,rfl⟩;go_wp2_with fail;refine(g.out _).mono ?_;rintro e j⟨rfl,rfl⟩;go_wp2_with fail;go_region
 go_wp2;go_ret3;exact⟨rfl,uK (qU _ _) _⟩
theorem RN(s:Tw)(k:Nat)(w:World)(p:s.size<=maxLen)(u:k<=s.size)(R T:Tw)(q:12<=R.size)(r:R.size<=2012)(t:k+R.size<=s.size)
  (f:∀w:World,Calls prog 155 #[s,k] w (X0 (.bool true) w))
  (a:∀w:World,Calls prog 156 #[.string (s.extract k s.size)] w (X0 (.tuple #[R,.bool true]) w))
  (g:R.extract (R.size-4) R.size=R.extract 0 4)
  (d:∀w:World,Calls prog 157 #[.string (R.extract 0 (R.size-4))] w (X3 (.tuple #[T,.bool false]) w)):
  Calls prog 94 #[s,k] w (pc w):=by
 have l:=qQ f;have m:=qQ a;have n:=qQ d;have i:=YE g;have v:(!((R.extract (R.size-4) R.size).toList==(R.extract 0 4).toList))=false:=by rw[i];rfl
 have y:((R.extract (R.size-4) R.size).toList != (R.extract 0 4).toList)=false:=by simpa using i
 have z:((R.size:Int)-4).toNat=R.size-4:=by omega
 have A:(0:Int)<=(R.size:Int)-4:=by omega
 have B:(R.size:Int)-4<=R.size:=by omega
 have C:(4:Int)<=(R.size:Int):=by omega
 clear f a g d;unfold maxLen at p;go_enter func94,ntmps94;go_wp2_with fail;refine(l.out _).mono ?_;rintro e j⟨rfl,rfl⟩;go_wp2_with fail;refine(m.out _).mono ?_;rintro e j⟨rfl,rfl⟩;go_wp2_with fail;go_region
 go_wp2_with fail;refine(n.out _).mono ?_;rintro e j⟨rfl,b⟩;have o:=bj (uK (qU w.1.size w) _) b;clear b;go_wp2;go_ret3;exact⟨rfl,o⟩
theorem RO(s:Tw)(k:Nat)(w:World)(p:s.size<=maxLen)(y:k<=s.size)(R T:Tw)(q:12<=R.size)(r:R.size<=2012)(t:k+R.size<=s.size)
  (f:∀w:World,Calls prog 155 #[s,k] w (X0 (.bool true) w))
  (a:∀w:World,Calls prog 156 #[.string (s.extract k s.size)] w (X0 (.tuple #[R,.bool true]) w))
  (g:R.extract (R.size-4) R.size=R.extract 0 4)
  (d:∀w:World,Calls prog 157 #[.string (R.extract 0 (R.size-4))] w (X3 (.tuple #[T,.bool true]) w))
  (u:4<=T.size) (v:T.size<=3000):
  Calls prog 94 #[s,k] w (X3 (.tuple #[.string (T.extract 4 T.size),.int .i64 ((k:Int)+(R.size:Int)),.bool true]) w):=by
 have l:=qQ f;have m:=qQ a;have n:=qQ d;have i:=YE g;have z:(!((R.extract (R.size-4) R.size).toList==(R.extract 0 4).toList))=false:=by rw[i];rfl
 have A:((R.extract (R.size-4) R.size).toList != (R.extract 0 4).toList)=false:=by simpa using i
 have B:((R.size:Int)-4).toNat=R.size-4:=by omega
 have C:(0:Int)<=(R.size:Int)-4:=by omega
 have F:(R.size:Int)-4<=R.size:=by omega
 have G:(4:Int)<=(R.size:Int):=by omega
 clear f a g d;unfold maxLen at p;go_enter func94,ntmps94;go_wp2_with fail;refine(l.out _).mono ?_;rintro e j⟨rfl,rfl⟩;go_wp2_with fail;refine(m.out _).mono ?_;rintro e j⟨rfl,rfl⟩;go_wp2_with fail;go_region
 go_wp2_with fail;refine(n.out _).mono ?_;rintro e j⟨rfl,b⟩;have o:=bj (uK (qU w.1.size w) _) b;clear b;go_wp2;go_ret3;exact⟨rfl,o⟩
theorem U9(s:Tw)(k m i j:Nat)(h:j<=m):(s.extract k (k+m)).extract i j=s.extract (k+i) (k+j):=by
 rw[ByteArray.extract_extract,Nat.min_eq_left (by omega)]
theorem Uq(s:Tw)(a:Int)(w:World)(l:s.size<=maxLen)(J:(Lit.int .i64 a).wf=true):
  Calls prog 94 #[s,a] w (mr s a w):=by
 by_cases h:¬(0<=a/\a<=s.size)
 ·refine(RL s a w l J h).mono fun e w' b=>pd ?_ b
  unfold bP;by_cases P:0<=a
  ·rw[oV (by omega),Bool.and_false]
  ·rw[qA P,Bool.false_and]
 ·obtain⟨k,rfl⟩:∃k:Nat,a=k:=⟨a.toNat,by omega⟩
  have p:k<=s.size:=by omega
  have r:∀w:World,Calls prog 155 #[s,k] w (X0 (.bool true) w):=fun W=>by
   have:=td s (k:Nat) W l J;rw[qB (by omega)]at this;exact this
  have d:=fun W=>RI (s.extract k s.size) W (by unfold maxLen at*;rw[qk];omega)
  have z:(s.extract k s.size).size=s.size-k:=by rw[qk];omega
  have A:∀i j,j<=s.size-k->(s.extract k s.size).extract i j=s.extract (k+i) (k+j):=fun i j X=>by
   rw[ByteArray.extract_extract];congr 1;omega
  by_cases Q:k+12<=s.size
  ·have y:jz ((s.extract k s.size).extract 0 4)=ky s k:=(by rw[A _ _ (by omega)];rfl);by_cases B:ky s k<=2000/\k+ky s k+12<=s.size
   ·have f:dU (s.extract k s.size)=true:=by
     unfold dU;rw[y,z];exact qB ⟨by omega,B.1,by omega⟩
    have o:lr (s.extract k s.size)=s.extract k (k+ky s k+12):=by
     unfold lr;rw[qV f,y,A _ _ (by omega),Nat.add_zero,Nat.add_assoc]
    rw[f,o]at d;have m:(s.extract k (k+ky s k+12)).size=ky s k+12:=by rw[qk];omega
    have O:jz ((s.extract k (k+ky s k+12)).extract 0 4)=ky s k:=by
     rw[Nat.add_assoc,U9 _ _ _ _ _ (by omega),Nat.add_zero];rfl
    have u:=RA _ _ m O
    have F:(s.extract k (k+ky s k+12)).extract 4 (4+ky s k)=s.extract (k+4) (k+4+ky s k):=by
     rw[Nat.add_assoc,U9 _ _ _ _ _ (by omega),<-Nat.add_assoc]
    rw[F]at u;have G:=RB _ _ m;rw[F]at G;have H:=RC _ _ m;have v:=fun W=>XO ((s.extract k (k+ky s k+12)).extract 0 (ky s k+8)) W (by unfold maxLen at*;rw[qk];omega)
    have S:=py (s:=s) (k:=k);obtain⟨T,U⟩:=B;generalize C:s.extract k (k+ky s k+12)=R at*;have n:R.size-4=ky s k+8:=(by omega);by_cases t:R.extract (ky s k+8) (ky s k+12)=R.extract 0 4
    ·by_cases g:yn (R.extract 0 (ky s k+8))=true
     ·obtain⟨K,M,N⟩:=ZY (S.2 ⟨Q,T,U,u.2 ⟨t,g⟩⟩);rw[g]at v;unfold mr;rw[K,M,N];have I:=RO s k w l p R _ (by omega) (by omega) (by omega) r d (by rw[n,m];exact t) (by rw[n];exact v) (by rw[H g];omega) (by rw[H g];omega);rw[G g,m,show(k:Int)+((ky s k+12:Nat):Int)=((k+ky s k+12:Nat):Int) by omega]at I;exact I
     ·have V:yn (R.extract 0 (ky s k+8))=false:=(by simpa using g);rw[V]at v;refine(RN s k w l p R _ (by omega) (by omega) (by omega) r d (by rw[n,m];exact t) (by rw[n];exact v)).mono fun e w' b=>pd ?_ b
      rw[lz];exact oV (fun q=>g (u.1 (C.symm.trans q.2.2.2)).2)
    ·refine(RM s k w l p R (by omega) (by omega) r d (by rw[n,m];exact t)).mono fun e w' b=>pd ?_ b
     rw[lz];exact oV (fun q=>t (u.1 (C.symm.trans q.2.2.2)).1)
   ·have f:dU (s.extract k s.size)=false:=by
     unfold dU;rw[y,z];exact qA (by omega)
    have o:lr (s.extract k s.size)=ByteArray.empty:=(by unfold lr;rw[f];rfl);rw[f,o]at d;refine(U8 s k w l p r d).mono fun e w' b=>pd ?_ b
    rw[lz];exact oV (by omega)
  ·have f:dU (s.extract k s.size)=false:=by
    unfold dU;rw[z];exact qA (by omega)
   have o:lr (s.extract k s.size)=ByteArray.empty:=(by unfold lr;rw[f];rfl);rw[f,o]at d;refine(U8 s k w l p r d).mono fun e w' b=>pd ?_ b
   rw[lz];exact oV (by omega)
def vn(a:Tw):List Tw->Tw
 | []=>a
 | p::l=>vn (a++j9 p) l
def kM: List Tw->Nat
 | []=>0
 | p::l=>p.size+12+kM l
def uk(k:Nat):List Tw->List (Nat × Tw)
 | []=>[]
 | p::l=>(k,p)::uk (k+(p.size+12)) l
def cW(n:Nat)(l:List Tw):Tw:=vn (hdS (n:Nat)) l
theorem Zm: ∀(l:List Tw) (a:Tw),(vn a l).size=a.size+kM l
 | [],a=>rfl
 | p::l,a=>by
   show(vn (a++j9 p) l).size=_;rw[Zm l,qx,gU];show _=a.size+(p.size+12+kM l)
   omega
theorem Ux: ∀(l:List Tw) (a p:Tw),vn a (l++[p])=vn a l++j9 p
 | [],a,p=>rfl
 | x::l,a,p=>Ux l (a++j9 x) p
theorem tf: ∀(l:List Tw) (p:Tw),kM (l++[p])=kM l+(p.size+12)
 | [],p=>by show p.size+12+0=0+_;omega
 | x::l,p=>by
   show x.size+12+kM (l++[p])=x.size+12+kM l+_;rw[tf l p];omega
theorem Zn: ∀(l:List Tw) (k:Nat) (p:Tw),uk k (l++[p])=uk k l++[(k+kM l,p)]
 | [],k,p=>by show [(k,p)]=[(k+0,p)];rfl
 | x::l,k,p=>by
   show(k,x)::uk (k+(x.size+12)) (l++[p])=(k,x)::(uk (k+(x.size+12)) l++[(k+(x.size+12+kM l),p)]);rw[Zn l,show k+(x.size+12)+kM l=k+(x.size+12+kM l) by omega]
theorem rV: ∀(l:List Tw) (a:Tw),vn a l=a++vn ByteArray.empty l
 | [],a=>by show a=a++ByteArray.empty;simp
 | p::l,a=>by
   show vn (a++j9 p) l=a++vn (ByteArray.empty++j9 p) l;rw[rV l (a++j9 p),rV l (ByteArray.empty++j9 p),ByteArray.empty_append,ByteArray.append_assoc]
theorem Uz: ∀(l:List Tw) (a:Tw),(∀p∈l,p.size<=2000)->whL (vn a l) ((vn a l).size+1) a.size=(uk a.size l).map (fun x=>(x.1:Int))/\whE (vn a l) ((vn a l).size+1) a.size=(vn a l).size
 | [],a,_=>by
   obtain⟨b,d⟩:=YD (s:=a) (k:=a.size) (oV (by omega));exact⟨b,d⟩
 | p::l,a,h=>by
   have j:=h p qC;obtain⟨f,_,g⟩:=ZG a p (vn ByteArray.empty l) j;have n:vn a (p::l)=a++j9 p++vn ByteArray.empty l:=rV l (a++j9 p);have i:(a++j9 p).size=a.size+(p.size+12):=(by rw[qx,gU]);rw[<-n]at f g;obtain⟨b,d⟩:=YC (s:=vn a (p::l)) (k:=a.size) (by rw[Zm];omega) f;obtain⟨r,o⟩:=Uz l (a++j9 p) (fun q m=>h q (qF _ m));rw[b,d,g,<-i];refine⟨?_,o⟩;show _=(a.size:Int)::(uk (a.size+(p.size+12)) l).map _;rw[<-i];congr 1
theorem Uj: ∀(l:List Tw) (a:Tw),(∀p∈l,p.size<=2000)->∀x∈uk a.size l,um (vn a l) x.1=true/\dK (vn a l) (x.1:Nat)=x.2/\yU (vn a l) (x.1:Nat)=x.1+(x.2.size+12)/\a.size<=x.1/\x.1+(x.2.size+12)<=(vn a l).size/\(vn a l).extract x.1 (x.1+(x.2.size+12))=j9 x.2/\x.2.size<=2000
 | [],a,_,x,hx=>by cases hx
 | p::l,a,h,x,hx=>by
   have hp:=h p qC;have j:vn a (p::l)=a++j9 p++vn ByteArray.empty l:=rV l (a++j9 p);have b:(a++j9 p).size=a.size+(p.size+12):=(by rw[qx,gU]);rcases qL.1 hx with rfl|hx
   ·obtain⟨d,f,g⟩:=ZG a p (vn ByteArray.empty l) hp;rw[j];exact⟨d,f,g,qK _,by rw[qx,b];show a.size+(p.size+12)<=_;omega,fc a (j9 p) _ rfl (by rw[gU]),hp⟩
   ·rw[<-b]at hx;obtain⟨k,m,n,u,o,r,t⟩:=Uj l (a++j9 p) (fun q i=>h q (qF _ i)) x hx;exact⟨k,m,n,by omega,o,r,t⟩
theorem Zp{n:Nat}(h:n<=199)(l:List Tw):(cW n l).size=12+kM l:=by unfold cW;rw[Zm,ma h]
theorem RP{n:Nat}(h:n<=199)(l:List Tw)(o:∀p∈l,p.size<=2000):scL (cW n l) (n:Nat)=(uk 12 l).map (fun x=>(x.1:Int))/\scE (cW n l) (n:Nat)=(cW n l).size/\cV (cW n l) (n:Nat)=true:=by
 have q:=Zp h l;have d:=ma h
 have m:scK (cW n l) (n:Nat)=2:=by
  refine YN (by omega) ?_ (by omega);rw[show min (cW n l).size 12=12 by omega];unfold cW;rw[rV];have b:=fc ByteArray.empty (hdS (n:Nat)) (vn ByteArray.empty l) (i:=0) (j:=12) rfl (by rw[d];rfl);have a:=fc ByteArray.empty (hdS (n:Nat)) ByteArray.empty (i:=0) (j:=12) rfl (by rw[d];rfl);rw[ByteArray.empty_append]at b a;rw[ByteArray.append_empty]at a;rw[b,a]
 obtain⟨b,a,k⟩:=YM m;obtain⟨f,g⟩:=Uz l (hdS (n:Nat)) o;rw[d]at f g;have c:(0:Int)<=12/\(12:Int)<=(cW n l).size:=by omega
 rw[b,a];refine⟨?_, ?_,k⟩
 ·unfold wlL;rw[qV c];exact f
 ·unfold wlE;rw[qV c];exact g
theorem RS(p:Tw)(d:p.size<=2000):bP (j9 p) 0=true/\dK (j9 p) 0=p:=by
 obtain⟨a,b,_⟩:=ZG ByteArray.empty p ByteArray.empty d;rw[ByteArray.empty_append,ByteArray.append_empty]at a b;exact⟨(lz (j9 p) 0).trans a,b⟩
theorem RT(p:Tw)(a:p.size<=2000):jz ((j9 p).extract 0 4)=p.size:=by
 have:=YH ByteArray.empty p ByteArray.empty a;rw[ByteArray.empty_append,ByteArray.append_empty]at this;exact this
def uv(s:Tw):Nat:=un (s.data.toList.take 2)
def vc(s:Tw):Bool:=decide (2<=s.size/\uv s+2<=s.size)
def rdA(s:Tw):Tw:=if vc s=true then s.extract 2 (2+uv s) else ByteArray.empty
def rdB(s:Tw):Tw:=if vc s=true then s.extract (2+uv s) s.size else ByteArray.empty
theorem R1(s:Tw):jz (s.extract 0 2)=uv s:=by
 unfold jz uv;have e:(s.extract 0 2).data.toList=s.data.toList.take 2:=by simp
 rw[e,qp (by rw[qT];omega)]
theorem Uk(s:Tw):uv s<=65535:=by
 have h:=lN (s.data.toList.take 2);have a:(s.data.toList.take 2).length<=2:=by rw[qT];omega
 have b:256 ^ (s.data.toList.take 2).length<=256 ^ 2:=Nat.pow_le_pow_right (by decide) a;unfold uv;omega
theorem Uv{s:Tw}(h:¬(2<=s.size/\uv s+2<=s.size)):vc s=false/\rdA s=ByteArray.empty/\rdB s=ByteArray.empty:=by
 have e:vc s=false:=by simpa[vc] using h
 simp[rdA,rdB,e]
theorem Zr{s:Tw}(h:2<=s.size/\uv s+2<=s.size):vc s=true/\rdA s=s.extract 2 (2+uv s)/\rdB s=s.extract (2+uv s) s.size:=by
 have e:vc s=true:=by simpa[vc] using h
 simp[rdA,rdB,e]
theorem Uy(s:Tw)(w:World):Calls prog 131 #[.string (s.extract 0 2)] w (X0 (.int .u64 (uv s:Nat)) w):=by
 rw[<-R1];exact dZ _ w (by unfold maxLen;rw[qk];omega)
theorem R5(s:Tw)(w:World)(d:s.size<=maxLen)(f:2<=s.size)(L:Nat)(g:L<=65535)(h:L+2<=s.size)
  (a:∀w:World,Calls prog 131 #[.string (s.extract 0 2)] w (X0 (.int .u64 (L:Nat)) w)):
  Calls prog 212 #[s] w (X3 (.tuple #[.string (s.extract 2 (2+L)),.string (s.extract (2+L) s.size),.bool true]) w):=by
 unfold maxLen at d;have b:=qQ a;clear a;go_enter func212,ntmps212;go_wp2_with (go_at_call 131;refine X5 (b.out _) ?_);go_quiet (fail);go_wp2;go_ret3;exact⟨rfl,uK (qU _ _) _⟩
theorem R7(s:Tw)(w:World)(d:s.size<=maxLen)(f:2<=s.size)(L:Nat)(g:L<=65535)(h:s.size<L+2)
  (a:∀w:World,Calls prog 131 #[.string (s.extract 0 2)] w (X0 (.int .u64 (L:Nat)) w)):
  Calls prog 212 #[s] w (X3 (.tuple #[.string ByteArray.empty,.string ByteArray.empty,.bool false]) w):=by
 unfold maxLen at d;have b:=qQ a;clear a;go_enter func212,ntmps212;go_wp2_with (go_at_call 131;refine X5 (b.out _) ?_);go_ret3;exact⟨rfl,qU _ _⟩
theorem nZ(s:Tw)(w:World)(g:s.size<=maxLen):
  Calls prog 212 #[s] w (X3 (.tuple #[.string (rdA s),.string (rdB s),.bool (vc s)]) w):=by
 by_cases f:2<=s.size
 ·by_cases h:uv s+2<=s.size
  ·obtain⟨a,b,d⟩:=Zr ⟨f,h⟩;rw[a,b,d];exact R5 s w g f _ (Uk s) h (Uy s)
  ·obtain⟨a,b,d⟩:=Uv (s:=s) (by omega);rw[a,b,d];exact R7 s w g f _ (Uk s) (by omega) (Uy s)
 ·obtain⟨a,b,d⟩:=Uv (s:=s) (by omega);rw[a,b,d];clear a b d;go_enter func212,ntmps212;go_wp2;go_ret3;exact⟨rfl,qU _ _⟩
def chk(t d:Tw):Int:=if t.size=0 then 2 else if 16<t.size∨200<d.size then 3 else 0
theorem Uu{t d:Tw}(h:t.size=0):chk t d=2:=by unfold chk;rw[qV h]
theorem tm{t d:Tw}(a:¬t.size=0)(h:16<t.size∨200<d.size):chk t d=3:=by unfold chk;rw[qZ a,qV h]
theorem Ug{t d:Tw}(a:¬t.size=0)(h:¬(16<t.size∨200<d.size)):chk t d=0:=by unfold chk;rw[qZ a,qZ h]
theorem oI{t d:Tw}:chk t d=0↔(1<=t.size/\t.size<=16/\d.size<=200):=by
 unfold chk;by_cases a:t.size=0
 ·rw[qV a];omega
 ·rw[qZ a];by_cases h:16<t.size∨200<d.size
  ·rw[qV h];omega
  ·rw[qZ h];omega
theorem tr(t d:Tw):chk t d=0∨chk t d=2∨chk t d=3:=by
 unfold chk;by_cases a:t.size=0
 ·rw[qV a];omega
 ·rw[qZ a];by_cases h:16<t.size∨200<d.size
  ·rw[qV h];omega
  ·rw[qZ h];omega
def evB(t d:Tw)(b:Nat):Tw:=bs (be 2 t.size)++t++(bs (be 2 d.size)++d)++bs (be 8 b)
theorem Ub(t d:Tw)(b:Nat):(evB t d b).size=t.size+d.size+12:=by
 unfold evB;simp only[ByteArray.size_append,kK,jn];omega
def erL(s:Tw):Tw:=rdB (rdB s)
def yu(s:Tw):Bool:=decide (8<=(erL s).size/\chk (rdA s) (rdA (rdB s))=0)
def erT(s:Tw):Tw:=if yu s=true then rdA s else ByteArray.empty
def erD(s:Tw):Tw:=if yu s=true then rdA (rdB s) else ByteArray.empty
def erW(s:Tw):Nat:=if yu s=true then jz (erL s) else 0
def erR(s:Tw):Tw:=if yu s=true then(erL s).extract 8 (erL s).size else ByteArray.empty
theorem ta{s:Tw}(h:yu s=true):erT s=rdA s/\erD s=rdA (rdB s)/\erW s=jz (erL s)/\erR s=(erL s).extract 8 (erL s).size:=by
 simp[erT,erD,erW,erR,h]
theorem Zs{s:Tw}(h:yu s=false):erT s=ByteArray.empty/\erD s=ByteArray.empty/\erW s=0/\erR s=ByteArray.empty:=by
 simp[erT,erD,erW,erR,h]
theorem bS(s:Tw):(rdB s).size<=s.size:=by
 unfold rdB;by_cases h:vc s=true
 ·rw[qV h,qk];omega
 ·rw[qZ h];exact qI _
theorem rY(s:Tw):(rdA s).size<=s.size:=by
 unfold rdA;by_cases h:vc s=true
 ·rw[qV h,qk];omega
 ·rw[qZ h];exact qI _
theorem R8(s:Tw):erW s<18446744073709551616:=by
 unfold erW;by_cases h:yu s=true
 ·rw[qV h];exact pB _
 ·rw[qZ h];decide
theorem Uc(s:Tw)(h:0<(rdB s).size):vc s=true:=by
 cases e:vc s with
 | true=>rfl
 | false =>
   unfold rdB at h;rw[e]at h;simp at h
theorem R9(s:Tw)(h:0<(erL s).size):vc s=true/\vc (rdB s)=true:=by
 have a:=Uc (rdB s) h;refine⟨Uc s ?_,a⟩;have:(rdB (rdB s)).size<=(rdB s).size:=bS _;unfold erL at h;omega
def ti(t d:Tw)(b:Nat)(g f:Tw)(a:Nat):Bool:=decide (t=g)&&decide (d=f)&&decide (b=a)
theorem Rq(t d:Tw)(b:Nat):ti t d b t d b=true:=by simp[ti]
theorem fB(s:Tw):s.data.toList.length=s.size:=Array.length_toList
theorem Rx{t:Tw}{n:Nat}{r:List UInt8}(a:n<=65535)(h:t.data.toList=be 2 n++r):uv t=n:=by
 unfold uv;rw[h,List.take_append_of_le_length (by rw[jn];omega),qp (by rw[jn];omega),lO];omega
theorem Zt{t r:Tw}(h:t.size<=65535):rdA (bs (be 2 t.size)++t++r)=t/\rdB (bs (be 2 t.size)++t++r)=r/\vc (bs (be 2 t.size)++t++r)=true:=by
 have a:(bs (be 2 t.size)++t++r).data.toList=be 2 t.size++(t.data.toList++r.data.toList):=by
  simp only[ByteArray.data_append,Array.toList_append,List.append_assoc,bs]
 have b:uv (bs (be 2 t.size)++t++r)=t.size:=Rx h a;have i:(bs (be 2 t.size)++t++r).size=t.size+2+r.size:=by rw[qx,qx,kK,jn];omega
 obtain⟨d,f,g⟩:=Zr (s:=bs (be 2 t.size)++t++r) ⟨by omega,by omega⟩;refine⟨?_, ?_,d⟩
 ·rw[f,b];apply qi;apply Array.toList_inj.1;rw[ByteArray.data_extract,Array.toList_extract,a,List.extract,List.drop_left' (jn 2 _),List.take_left' (by rw[fB];omega)]
 ·rw[g,b];apply qi;apply Array.toList_inj.1;rw[ByteArray.data_extract,Array.toList_extract,a,i,List.extract,<-List.drop_drop,List.drop_left' (jn 2 _),List.drop_left' (fB t),qp (by rw[fB];omega)]
theorem Za{s:Tw}(h:vc s=true):bs (be 2 (rdA s).size)++rdA s++rdB s=s:=by
 have b:2<=s.size/\uv s+2<=s.size:=by simpa[vc] using h
 obtain⟨_,a,d⟩:=Zr b;have i:(rdA s).size=uv s:=by rw[a,qk];omega
 rw[i,a,d];apply qi;apply Array.toList_inj.1;have g:s.data.toList.length=s.size:=fB s
 have f:be 2 (uv s)=s.data.toList.take 2:=by
  have:=mN (s.data.toList.take 2);rw[qT,g,Nat.min_eq_left b.1]at this;exact this
 simp only[ByteArray.data_append,Array.toList_append,ByteArray.data_extract,Array.toList_extract,List.extract,bs,f];rw[Nat.add_sub_cancel_left,qn,qp (l:=List.drop (2+uv s) s.data.toList) (by rw[xQ];omega),<-List.drop_drop,qe,qe]
theorem Ud{L:Tw}(h:8<=L.size):bs (be 8 (jz L))++L.extract 8 L.size=L:=by
 apply qi;apply Array.toList_inj.1;have b:L.data.toList.length=L.size:=fB L
 have a:be 8 (jz L)=L.data.toList.take 8:=by
  have:=mN (L.data.toList.take 8);rw[qT,b,Nat.min_eq_left h]at this;exact this
 simp only[ByteArray.data_append,Array.toList_append,ByteArray.data_extract,Array.toList_extract,List.extract,bs,a];rw[qp (l:=List.drop 8 L.data.toList) (by rw[xQ];omega),qe]
theorem Uf{b:Nat}(f:b<18446744073709551616)(r:Tw):jz (bs (be 8 b)++r)=b/\(bs (be 8 b)++r).extract 8 (bs (be 8 b)++r).size=r:=by
 have a:(bs (be 8 b)++r).data.toList=be 8 b++r.data.toList:=by simp only[ByteArray.data_append,Array.toList_append,bs]
 have d:(bs (be 8 b)++r).size=8+r.size:=by rw[qx,kK,jn]
 constructor
 ·unfold jz;rw[a,List.take_left' (jn 8 b),lO];exact Nat.mod_eq_of_lt (by omega)
 ·apply qi;apply Array.toList_inj.1;rw[ByteArray.data_extract,Array.toList_extract,a,d,List.extract,List.drop_left' (jn 8 b),qp (by rw[fB];omega)]
theorem Rz(t d:Tw)(b:Nat)(r:Tw)(j:chk t d=0)(o:b<18446744073709551616):
  yu (evB t d b++r)=true/\erT (evB t d b++r)=t/\erD (evB t d b++r)=d/\erW (evB t d b++r)=b/\erR (evB t d b++r)=r:=by
 have A:=oI.1 j;have e:evB t d b++r=bs (be 2 t.size)++t++(bs (be 2 d.size)++d++(bs (be 8 b)++r)):=by unfold evB;simp only[ByteArray.append_assoc]
 obtain⟨g,a,y⟩:=Zt (t:=t) (r:=bs (be 2 d.size)++d++(bs (be 8 b)++r)) (by omega);obtain⟨i,l,z⟩:=Zt (t:=d) (r:=bs (be 8 b)++r) (by omega);obtain⟨m,n⟩:=Uf o r;rw[e];have f:erL (bs (be 2 t.size)++t++(bs (be 2 d.size)++d++(bs (be 8 b)++r)))=bs (be 8 b)++r:=by unfold erL;rw[a,l]
 have k:yu (bs (be 2 t.size)++t++(bs (be 2 d.size)++d++(bs (be 8 b)++r)))=true:=by
  unfold yu;rw[f,g,a,i,j,qx,kK,jn];simp
 obtain⟨p,q,u,v⟩:=ta k;refine⟨k, ?_, ?_, ?_, ?_⟩
 ·rw[p,g]
 ·rw[q,a,i]
 ·rw[u,f,m]
 ·rw[v,f,n]
theorem Rj{s:Tw}(h:yu s=true):chk (erT s) (erD s)=0/\evB (erT s) (erD s) (erW s)++erR s=s:=by
 obtain⟨b,d,j,k⟩:=ta h;have a:8<=(erL s).size/\chk (rdA s) (rdA (rdB s))=0:=by simpa[yu] using h
 obtain⟨g,i⟩:=R9 s (by omega);refine⟨by rw[b,d];exact a.2, ?_⟩;rw[b,d,j,k];have l:=Za g;have m:=Za i;have n:=Ud a.1;have e:evB (rdA s) (rdA (rdB s)) (jz (erL s))++(erL s).extract 8 (erL s).size=bs (be 2 (rdA s).size)++rdA s++(bs (be 2 (rdA (rdB s)).size)++rdA (rdB s)++(bs (be 8 (jz (erL s)))++(erL s).extract 8 (erL s).size)):=by unfold evB;simp only[ByteArray.append_assoc]
 rw[e,n];have f:erL s=rdB (rdB s):=rfl;rw[f,m,l]
theorem Ze(b:Nat)(w:World):(callFunc 164 #[.float .f64 b]).run prog w=.ok (.value (.int .u64 (b:Nat))) w:=by
 rw[run_callFunc_extern func164 (by kernel_rfl) (by kernel_rfl) (by kernel_rfl) (e:=Extern.MathFloatBits.float64bits) (by kernel_rfl)];rfl
theorem tw(t d:Tw)(b:Nat)(w:World)(g:t.size<=maxLen)(f:d.size<=maxLen):
  Calls prog 137 #[.agg #[t,d,.float .f64 b]] w (X3 (.int .i64 (chk t d)) w):=by
 unfold maxLen at g f;by_cases a:t.size=0
 ·rw[Uu a];go_enter func137,ntmps137;go_wp2;go_ret;exact⟨rfl,(qU _ _).alloc (qK _) _⟩
 by_cases i:16<t.size
 ·rw[tm a (by omega)];go_enter func137,ntmps137;go_wp2;go_ret;exact⟨rfl,(qU _ _).alloc (qK _) _⟩
 by_cases j:200<d.size
 ·rw[tm a (by omega)];go_enter func137,ntmps137;go_wp2;go_ret;exact⟨rfl,(qU _ _).alloc (qK _) _⟩
 ·rw[Ug a (by omega)];go_enter func137,ntmps137;go_wp2;go_ret;exact⟨rfl,(qU _ _).alloc (qK _) _⟩
theorem jm{W0 W:World}{p:Addr}{v:Value}(h:Below W0.1.size W0 W)(b:p.block<W0.1.size)(a:W0.cell? p=some v):W.cell? p=some v:=(h.cell b).trans a
theorem Uh(s:Tw)(d:s.size<=200)(W0 W:World)(h:Below W0.1.size W0 W):
  Calls prog 141 #[s] W fun e w'=>e=.returned (.string (bs (be 2 s.size)++s))/\Below W0.1.size W0 w' :=
 (YS s W (by omega)).mono fun e w' ⟨b,a⟩=>⟨b,bj h a⟩
theorem Rk(b:Nat)(a:b<18446744073709551616)(W0 W:World)(h:Below W0.1.size W0 W):
  Calls prog 142 #[.int .u64 (b:Nat),.int .i64 8] W fun e w'=>e=.returned (.string (bs (be 8 b)))/\Below W0.1.size W0 w' :=
 (bK b 8 W (by omega) (by omega) a).mono fun e w' ⟨d,a⟩=>⟨d,bj h a⟩
theorem Ry(t d:Tw)(b:Nat)(w:World)(g:b<18446744073709551616)(h:chk t d=0):
  Calls prog 143 #[.agg #[t,d,.float .f64 b]] w (X3 (.string (evB t d b)) w):=by
 have z:=oI.1 h;have j:=fun W=>tw t d b W (by unfold maxLen;omega) (by unfold maxLen;omega)
 rw[h]at j;have r:=qQ j;have n:=qQ (Uh t (by omega));have k:=qQ (Uh d (by omega));have l:=qQ (Rk b g);have J:=fun w=>Ze b w
 have p:(bs (be 2 t.size)++t).size=t.size+2:=by rw[qx,kK,jn];omega
 have q:(bs (be 2 d.size)++d).size=d.size+2:=by rw[qx,kK,jn];omega
 have H:(bs (be 8 b)).size=8:=by rw[kK,jn]
 have e:evB t d b=bs (be 2 t.size)++t++(bs (be 2 d.size)++d)++bs (be 8 b):=rfl;have K:∀w:World,(Op.stringOp .add (bs (be 2 t.size)++t) (bs (be 2 d.size)++d)).run prog w=.ok (.string (bs (be 2 t.size)++t++(bs (be 2 d.size)++d))) w:=fun w=>run_string_add_sum (P:=prog) (w:=w) _ _ (by omega)
 have I:(bs (be 2 t.size)++t++(bs (be 2 d.size)++d)).size=t.size+2+(d.size+2):=by rw[qx,p,q]
 have M:∀w:World,(Op.stringOp .add (bs (be 2 t.size)++t++(bs (be 2 d.size)++d)) (bs (be 8 b))).run prog w=.ok (.string (evB t d b)) w:=fun w=>run_string_add_sum (P:=prog) (w:=w) _ _ (by omega)
 generalize evB t d b=B at*;generalize bs (be 2 t.size)++t++(bs (be 2 d.size)++d)=X at*;generalize bs (be 2 t.size)++t=T at*;generalize bs (be 2 d.size)++d=D at*;generalize bs (be 8 b)=Q at*;clear p q H I e j h z g;go_enter func143,ntmps143;go_wp2_with fail;refine(r.out _).mono ?_;rintro e a⟨rfl,f⟩;have A:=f.size;rw[World.size_alloc]at A;have C:a.cell? ⟨w.1.size,0,none⟩=some (.string t):=jm f (by simp) (World.cell?_alloc_at _ _ _ _ rfl);have F:a.cell? ⟨w.1.size,1,none⟩=some (.string d):=jm f (by simp) (World.cell?_alloc_at _ _ _ _ rfl);have G:a.cell? ⟨w.1.size,2,none⟩=some (.float .f64 b):=jm f (by simp) (World.cell?_alloc_at _ _ _ _ rfl);have o:Below w.1.size w a:=((qU _ _).alloc (qK _) _).trans (f.mono (by simp))
 have m:Hid (∀W,Below a.1.size a W->Below a.1.size a W/\W.cell? ⟨w.1.size,0,none⟩=some (.string t)/\W.cell? ⟨w.1.size,1,none⟩=some (.string d)/\W.cell? ⟨w.1.size,2,none⟩=some (.float .f64 b)) :=
  qQ fun W i=>⟨i,jm i (show w.1.size<_ by omega) C,jm i (show w.1.size<_ by omega) F,jm i (show w.1.size<_ by omega) G⟩
 have y:=qQ fun W (h:Below a.1.size a W/\W.cell? ⟨w.1.size,0,none⟩=some (.string t)/\W.cell? ⟨w.1.size,1,none⟩=some (.string d)/\W.cell? ⟨w.1.size,2,none⟩=some (.float .f64 b))=>n.out a W h.1
 have u:=qQ fun W (h:Below a.1.size a W/\W.cell? ⟨w.1.size,0,none⟩=some (.string t)/\W.cell? ⟨w.1.size,1,none⟩=some (.string d)/\W.cell? ⟨w.1.size,2,none⟩=some (.float .f64 b))=>k.out a W h.1
 have v:=qQ fun W (h:Below a.1.size a W/\W.cell? ⟨w.1.size,0,none⟩=some (.string t)/\W.cell? ⟨w.1.size,1,none⟩=some (.string d)/\W.cell? ⟨w.1.size,2,none⟩=some (.float .f64 b))=>l.out a W h.1
 clear f n k l;go_wp2_with fail
 go_region_held3 (fun W=>Below a.1.size a W/\W.cell? ⟨w.1.size,0,none⟩=some (.string t)/\W.cell? ⟨w.1.size,1,none⟩=some (.string d)/\W.cell? ⟨w.1.size,2,none⟩=some (.float .f64 b))
  (first|assumption|exact m.out _ (by assumption)|exact m.out _ (qU _ _).drew|fail) (first
  | (go_at_call 141;((with_reducible refine KG (y.out _ (by assumption)) fun w' g=>?_)))
  | (go_at_call 141;((with_reducible refine KG (u.out _ (by assumption)) fun w' g=>?_)))
  | (go_at_call 142;((with_reducible refine KG (v.out _ (by assumption)) fun w' g=>?_)))
  | fail)
 all_goals
  go_wp2;go_ret;exact⟨rfl,o.trans ((And.left (‹Below a.1.size a _/\_›)).mono o.size)⟩
theorem oL{a b:Tw}(h:a=b):(a.toList==b.toList)=true:=by rw[h,beq_iff_eq]
theorem rU{a b:Tw}(h:¬a=b):(a.toList==b.toList)=false:=by
 rw[qg];intro x;rw[Lib.toList_data,Lib.toList_data]at x;exact h (qi (Array.toList_inj.1 x))
end
end Go.Proofs.YthejglbnkmimjaaGreat
