import Derived.Test.YtokbfellcadkpaaGreatPp04
set_option linter.unusedVariables false
set_option maxRecDepth 100000
set_option maxHeartbeats 9000000
namespace Go.Proofs.YtokbfellcadkpaaGreat
open Tryz
section
open Go.RowKit
structure Ctx where
 w0:World
 F0:List Nat
 base:Nat
 m:Value
 G:List Nat
 wG:World
def uy(m:Value)(gd:Nat)(L:jN):Array Value:=#[m,ptr gd,.int .i64 (L.qp:Nat),.int .i64 (L.chunks:Nat),.int .i64 (L.endp:Nat),.int .i64 (L.sure:Nat)]
def TSt(At:jL)(c:Ctx)(gl gd:Nat)(L:jN)(D:jK)(w:World):Prop :=
 ∃F,At w c.base gd F D/\jY w gl 76 (uy c.m gd L)/\gl ∉ F/\(∀x∈F,x∈c.F0∨c.w0.heap.size<=x)/\jG (gl::c.F0) c.w0 w/\c.wG.heap.size<=w.heap.size /\
  ∀b∈c.G,c.w0.heap.size<=b/\b<c.wG.heap.size/\b ∉ F/\b≠gl/\w.heap[b]? = c.wG.heap[b]?
def vV(At:jL)(c:Ctx)(gl gd:Nat)(v:Value)(L:jN)(D:jK)(e:Ending)(w:World):Prop:=e = .returned v/\TSt At c gl gd L D w
section
variable {At:jL}{c:Ctx}{gl gd:Nat}{L L':jN}{D D':jK}{w w':World}
theorem TSt.qe(api:jM At)(h:TSt At c gl gd L D w)(a:jG [] w w'):TSt At c gl gd L D w':=by
 obtain⟨F,d,f,g,i,j,k,l⟩:=h;refine⟨F,api.qe d a (fun _ _=>by simp),f.qe a (by simp),g,i,j.trans a (fun x n=>by cases n),qO k a.size,fun b m=>?_⟩;obtain⟨o,p,q,r,t⟩:=l b m;exact⟨o,p,q,r,(a.block b (by omega) (by simp)).trans t⟩
theorem TSt.below(api:jM At)(h:TSt At c gl gd L D w)(a:Below w.heap.size w w'):TSt At c gl gd L D w':=h.qe api (jG.qn a)
theorem TSt.drew(api:jM At)(h:TSt At c gl gd L D w):TSt At c gl gd L D w.drew:=h.qe api (jG.refl [] w).drew
theorem TSt.drewN(api:jM At)(h:TSt At c gl gd L D w)(n:Nat):TSt At c gl gd L D (w.drewN n):=h.qe api ((jG.refl [] w).drewN n)
theorem TSt.cells(h:TSt At c gl gd L D w):w.cell? ⟨gl,0,none⟩=some c.m/\w.cell? ⟨gl,1,none⟩=some (ptr gd)/\w.cell? ⟨gl,2,none⟩=some (.int .i64 (L.qp:Nat))/\w.cell? ⟨gl,3,none⟩=some (.int .i64 (L.chunks:Nat)) /\
  w.cell? ⟨gl,4,none⟩=some (.int .i64 (L.endp:Nat))/\w.cell? ⟨gl,5,none⟩=some (.int .i64 (L.sure:Nat)):=by
 obtain⟨F,b,a,_⟩:=h;exact⟨a.cell 0,a.cell 1,a.cell 2,a.cell 3,a.cell 4,a.cell 5⟩
theorem TSt.frozen(h:TSt At c gl gd L D w)(i:Nat):w.frozen? ⟨gl,i,none⟩=false:=by
 obtain⟨F,b,a,_⟩:=h;exact a.frozen i
theorem TSt.qi(api:jM At)(h:TSt At c gl gd L D w){f:FuncId}{args:Array Value}{v:Value}(A:∀F,At w c.base gd F D->Calls prog f args w (vg At c.base gd F w v D')):Calls prog f args w (vV At c gl gd v L D'):=by
 obtain⟨F,t,j,l,m,n,u,y⟩:=h;refine(A F t).mono ?_;rintro e w'⟨p,q,r,d,a⟩;refine⟨q,p,r,j.qe a l,fun g=>?_,fun x i=>?_,n.trans a (fun x i=>?_),qO u a.size,fun b z=>?_⟩
 ·rcases d gl g with k|k
  ·exact l k
  ·have:=j.lt;omega
 ·rcases d x i with k|k
  ·exact m x k
  ·exact qY (by have:=n.size;omega)
 ·rcases m x i with k|k
  ·exact qX (qE _ k)
  ·exact qY k
 ·obtain⟨B,C,o,G,H⟩:=y b z;refine⟨B,C,fun g=>?_,G,(a.block b (by omega) o).trans H⟩;rcases d b g with k|k
  ·exact o k
  ·omega
theorem TSt.same(h:TSt At c gl gd L D w){P:Program}{f:FuncId}{args:Array Value}{v:Value}(a:Calls P f args w fun e w'=>e = .returned v/\w=w'):Calls P f args w (vV At c gl gd v L D):=a.mono (by
 rintro e w'⟨rfl,rfl⟩;exact⟨rfl,h⟩)
theorem TSt.put(api:jM At)(h:TSt At c gl gd L D w)(i:Nat)(v:Value)(u:(uy c.m gd L).setIfInBounds i v=uy c.m gd L'):TSt At c gl gd L' D (w.setCell ⟨gl,i,none⟩ v):=by
 obtain⟨F,j,k,f,l,n,o,q⟩:=h;have a:jG [gl] w (w.setCell ⟨gl,i,none⟩ v):=(jG.refl [gl] w).setCell (p:=⟨gl,i,none⟩) (qX (qH.2 rfl)) _;refine⟨F,api.qe j a (fun x d t=>f (by rw[<-qH.1 t];exact d)),by rw[<-u];exact k.put i v,f,l,n.trans a (fun x d=>qX (by rw[qH.1 d];exact qD)),qO o a.size,fun b r=>?_⟩;obtain⟨y,z,A,g,B⟩:=q b r;exact⟨y,z,A,g,(a.block b (by omega) (by simpa using g)).trans B⟩
theorem TSt.xz(api:jM At)(h:TSt At c gl gd L D w)(k:Nat):TSt At c gl gd { L with chunks:=k } D (w.setCell ⟨gl,3,none⟩ (.int .i64 (k:Nat))):=h.put api 3 _ rfl
theorem TSt.xS(api:jM At)(h:TSt At c gl gd L D w)(k:Nat):TSt At c gl gd { L with endp:=k } D (w.setCell ⟨gl,4,none⟩ (.int .i64 (k:Nat))):=h.put api 4 _ rfl
theorem TSt.zQ(api:jM At)(h:TSt At c gl gd L D w)(k:Nat):TSt At c gl gd { L with sure:=k } D (w.setCell ⟨gl,5,none⟩ (.int .i64 (k:Nat))):=h.put api 5 _ rfl
theorem TSt.xR(h:TSt At c gl gd L D w){b:Nat}(d:b∈c.G):w.heap[b]? = c.wG.heap[b]? := by
 obtain⟨F,f,g,i,j,k,l,a⟩:=h;exact(a b d).2.2.2.2
theorem TSt.own(api:jM At)(h:TSt At c gl gd L D w){f:List Nat}(i:jG c.G w w')(r:∀b∈f,b∈c.G∨w.heap.size<=b)(o:∀b∈f,b<w'.heap.size):TSt At { c with G:=f,wG:=w' } gl gd L D w':=by
 obtain⟨F,l,m,p,q,n,z,d⟩:=h;have hF:∀x∈F,x ∉ c.G:=fun x j a=>(d x a).2.2.1 j
 have t:gl ∉ c.G:=fun a=>(d gl a).2.2.2.1 rfl
 refine⟨F,api.qe l i hF,m.qe i t,p,q,n.trans i (fun x j=>qY (d x j).1),qK _,fun b g=>?_⟩;rcases r b g with k|k
 ·obtain⟨u,A,v,y,_⟩:=d b k;exact⟨u,o b g,v,y,rfl⟩
 ·exact⟨qO n.size k,o b g,fun a=>(by have:=(api.low l b a).2;omega),fun e=>(by have:=m.lt;omega),rfl⟩
theorem TSt.back{a:Ctx}(h:TSt At a gl gd L D w)(d:a.w0=c.w0)(k:a.F0=c.F0)(l:a.base=c.base)(n:a.m=c.m)(u:c.wG.heap.size<=a.wG.heap.size)(r:∀b∈c.G,b∈a.G/\b<c.wG.heap.size/\a.wG.heap[b]? = c.wG.heap[b]?):TSt At c gl gd L D w:=by
 obtain⟨F,f,g,o,i,j,p,q⟩:=h;rw[l]at f;rw[n]at g;rw[d,k]at i j;refine⟨F,f,g,o,i,j,qO u p,fun b t=>?_⟩;obtain⟨B,C,H⟩:=r b t;obtain⟨v,I,y,z,A⟩:=q b B;exact⟨by rw[<-d];exact v,C,y,z,A.trans H⟩
end
theorem Ug: (prog.info? 76).map (·.size)=some 6:=by kernel_rfl
theorem Rz(d:Nat)(p:Addr)(w:World):(Op.equalIn (d+1) 30 (.pointer (some p)) (.pointer (some p))).run prog w = .ok true w:=by
 cases a:prog.info? 76 with
 | none=>have:=Ug;rw[a]at this;cases this
 | some i =>
   have b:i.size=6:=(by have:=Ug;rw[a]at this;simpa using this);simp[Op.equalIn,run_underlying Tryz.underlying30,sizeOf,typeInfo,a,sameAddr]
theorem Rj(p:Addr)(w:World):(binOp .neq 30 (.pointer (some p)) (.pointer (some p))).run prog w = .ok (.bool false) w:=by
 have a:(Op.equal 30 (.pointer (some p)) (.pointer (some p))).run prog w = .ok true w:=Rz 9999 p w;simp only[binOp];simp[a]
theorem Ub{w:World}{gl:Nat}(h:w.cell? ⟨gl,0,none⟩=some (ptr gl)):Calls prog 97 #[ptr gl] w fun e w'=>e = .returned (.bool false)/\w=w':=by
 have a:=Rj ⟨gl,0,none⟩;go_enter func97,ntmps97;go_wp2;go_ret;exact⟨rfl,rfl⟩
theorem tj(n:Nat)(w:World)(d:n<=1000000):Calls prog 66 #[.int .i64 (n:Nat)] w fun e w'=>e = .returned (.int .i64 ((n:Nat)*4096:Int))/\w=w':=by
 have b:(n:Int)<=1000000:=by omega
 have a:(0:Int)<=n:=by omega
 go_enter func66,ntmps66;go_wp2;go_ret;exact⟨rfl,rfl⟩
section
variable {At:jL}(api:jM At){c:Ctx}{gl gd:Nat}{L L':jN}{D D':jK}{w w':World}
include api
theorem my(i:c.m=ptr gl)(h:TSt At c gl gd L D w):Calls prog 61 #[ptr gl] w (vV At c gl gd (err (vq D L)) L D):=by
 obtain⟨c0,c1,c2,l,n,o⟩:=h.cells;rw[i]at c0;have j:=qQ h;have p:=qQ (Ub c0);obtain⟨F,a,-⟩:=h;have g:=qQ (api.zi a);have f:=qQ (fun k=>api.zm (api.qe a ((jG.refl [] w).drewN k) (fun _ _=>by simp)));unfold vq;cases b:D.down
 ·simp only[Bool.false_eq_true,if_false];rw[b]at g;by_cases d:D.qp=L.qp
  ·rw[qV d];have f:=qQ (fun k=>d ▸ f.out k);have r:((L.qp:Int) != (L.qp:Int))=false:=(by simp);generalize L.qp=q at*;clear a b d l n o i;go_enter func61,ntmps61;go_wp2_with fail;refine p.out.mono ?_;rintro e w'⟨rfl,rfl⟩;go_wp2_with fail;refine g.out.mono ?_;rintro e w'⟨rfl,rfl⟩;go_wp2_with fail;go_quiet ((go_at_call 23;exact Calls.quiet_of_same ((f.out _).mono fun _ _ h=>⟨h.1,h.2.symm⟩)));go_wp2;go_ret;exact⟨rfl,j.out.drewN api _⟩
  ·rw[qZ d];have r:((D.qp:Int) != (L.qp:Int))=true:=(by simp;omega);have t:¬(D.qp:Int)=(L.qp:Int):=(by omega);generalize L.qp=q at*;generalize D.qp=y at*;clear a b d l n o i;go_enter func61,ntmps61;go_wp2_with fail;refine p.out.mono ?_;rintro e w'⟨rfl,rfl⟩;go_wp2_with fail;refine g.out.mono ?_;rintro e w'⟨rfl,rfl⟩;go_wp2_with fail;go_quiet ((go_at_call 23;exact Calls.quiet_of_same ((f.out _).mono fun _ _ h=>⟨h.1,h.2.symm⟩)));go_wp2;go_ret;exact⟨rfl,j.out.drewN api _⟩
 ·simp only[if_true];rw[b]at g;clear a b l n o i f;go_enter func61,ntmps61;go_wp2_with fail;refine p.out.mono ?_;rintro e w'⟨rfl,rfl⟩;go_wp2_with fail;refine g.out.mono ?_;rintro e w'⟨rfl,rfl⟩;go_wp2;go_ret;exact⟨rfl,j.out⟩
end
theorem Uc{w:World}{gl:Nat}{v:Int}(a:w.cell? ⟨gl,0,none⟩=some (ptr gl))(h:w.cell? ⟨gl,4,none⟩=some (.int .i64 v)):Calls prog 38 #[ptr gl] w fun e w'=>e = .returned (.int .i64 v)/\w=w':=by
 have b:=qQ (Ub a);clear a;go_enter func38,ntmps38;go_wp2_with fail;refine b.out.mono ?_;rintro e w'⟨rfl,rfl⟩;go_wp2;go_ret;exact⟨rfl,rfl⟩
end
section
open Go.RowKit
structure yY: Prop where
 head:∀(n:Int) (w:World),(Lit.int .i64 n).wf=true->Calls prog 126 #[.int .i64 n] w fun e w'=>e = .returned (.string (hdS n))/\Below w.heap.size w w'
 scan:∀(s:Tw) (n:Int) (w:World),s.size<=1100000->(Lit.int .i64 n).wf=true->Calls prog 81 #[.string s,.int .i64 n] w (mO s n w)
 fits:∀(size:Int) (p:Tw) (w:World),p.size<=maxLen->(Lit.int .i64 size).wf=true->Calls prog 125 #[.int .i64 size,.string p] w fun e w'=>e = .returned (.bool (ftS size p))/\w=w'
 put:∀(p:Tw) (w:World),p.size<=maxLen->Calls prog 62 #[.string p] w fun e w'=>e = .returned (.tuple #[.string (prS p),.int .i64 (prE p)])/\Below w.heap.size w w'
theorem kX.zu{w:World}{v:Value}{l:List Int}(h:kX w v l):∃A c,v = .slice A l.length c:=by
 obtain⟨A,off,cap,a,_⟩:=h.cell;exact⟨A,cap,a⟩
end
section
open Go.RowKit
theorem tk{D:jK}(h:WfP D)(n:Tw):(jH D n).1<=1048576:=by
 unfold jH;split
 ·exact qF _
 ·split
  ·exact qF _
  ·rename_i f a;exact(h.ok.xW f (qM a)).2
theorem ly{n:Nat}(h:n<=999999):(nmC n).size<=maxLen:=by rw[nj h];decide
theorem bE{n:Nat}(h:n<=9223372036854775807):(Lit.int .i64 (n:Nat)).wf=true:=WalkArith.wf_i64 (by omega)
theorem mu(nap:jm)(n:Nat)(w:World)(a:n<=999999):Calls prog 83 #[.int .i64 (n:Nat)] w fun e w'=>e = .returned (.string (nmC n))/\Below w.heap.size w w':=nap.chunk n w (bE (by omega))
theorem Zd{D:jK}{n:Tw}{a k:Int}(h:WfP D):(kK D n a k).1.size<=1048576:=by
 unfold kK;split
 ·exact qF _
 ·dsimp only;split
  ·exact qF _
  ·rename_i f b;split
   ·exact qF _
   ·have:=(h.ok.xW f (qM b)).2;show(f.data.extract _ _).size<=_;rw[qT];omega
theorem Ud{D:jK}{n:Tw}(h:WfP D):(rdC D n).1.size<=1048576:=by
 unfold rdC;split
 ·exact Zd h
 ·exact qF _
theorem Zf{D:jK}(h:WfP D)(n:Tw):WfP (rdC D n).2.2:=by
 unfold rdC;split
 ·exact XH h _ _ _
 ·exact h
theorem Uf(D:jK)(n:Tw)(a k:Int):(kK D n a k).2.2.count<=D.count+1:=by
 unfold kK;split
 ·exact Nat.le_succ _
 ·dsimp only;split
  ·exact qK _
  ·split<;>exact qK _
theorem Uh(D:jK)(n:Tw):(rdC D n).2.2.count<=D.count+1:=by
 unfold rdC;split
 ·exact Uf _ _ _ _
 ·exact Nat.le_succ _
section
variable {At:jL}(api:jM At)(nap:jm){c:Ctx}{gl gd:Nat}{L L':jN}{D D':jK}{w w':World}
include api nap
theorem Ul(h:TSt At c gl gd L D w)(ok:WfP D)(m:D.count<=1099511627776)(n:Nat)(i:n<=999999):Calls prog 80 #[ptr gl,.int .i64 (n:Nat)] w (vV At c gl gd (.tuple #[.string (rdC D (nmC n)).1,err (rdC D (nmC n)).2.1]) L (rdC D (nmC n)).2.2):=by
 have v:=tk ok (nmC n);have q:=qQ fun W=>mu nap n W (by omega)
 have l:=qQ fun(W:World) (g:TSt At c gl gd L D W)=>(show Calls prog 50 #[ptr gd,.string (nmC n)] W (vV At c gl gd (.tuple #[.int .i64 ((jH D (nmC n)).1:Nat),err (jH D (nmC n)).2]) L D) from g.same (api.xe (nmC n) (Classical.choose_spec g).1 ok.ok (ly i)))
 have u:=qQ fun(W:World) (g:TSt At c gl gd L D W)=>g.qi api (fun F hF=>api.read (nmC n) 0 ((jH D (nmC n)).1:Nat) hF ok.ok m (by decide) (bE (by omega)) (ly i))
 have o:=qQ h;unfold rdC;by_cases f:(jH D (nmC n)).2=0
 ·rw[qV f];rw[f]at l;generalize (jH D (nmC n)).1=z at*;generalize kK D (nmC n) 0 (z:Nat)=r at*;generalize nmC n=nm at*;clear f v h m ok i;go_enter func80,ntmps80;go_wp2_with fail;refine(q.out _).mono ?_;rintro e H⟨rfl,d⟩;have a:=o.out.below api d;obtain⟨c0,c1,c2,B,C,G⟩:=a.cells;have j:=qQ a;clear d a;go_wp2_with fail;refine(l.out _ j.out).mono ?_;rintro e I⟨rfl,b⟩;obtain⟨J,K,M,N,O,P⟩:=b.cells;have k:=qQ b;clear b;go_wp2_with fail;refine(u.out _ k.out).mono ?_;rintro e Q⟨rfl,p⟩;have A:=qQ p;clear p;go_wp2;go_ret2;exact⟨rfl,A.out⟩
 ·rw[qZ f];have t:(((jH D (nmC n)).2:Int) != 0)=true:=by simp;omega
  generalize (jH D (nmC n)).2=y at*;generalize (jH D (nmC n)).1=z at*;generalize nmC n=nm at*;clear v h u m ok i f;go_enter func80,ntmps80;go_wp2_with fail;refine(q.out _).mono ?_;rintro e H⟨rfl,d⟩;have a:=o.out.below api d;obtain⟨c0,c1,c2,B,C,G⟩:=a.cells;have j:=qQ a;clear d a;go_wp2_with fail;refine(l.out _ j.out).mono ?_;rintro e I⟨rfl,b⟩;have k:=qQ b;clear b;go_wp2;go_ret2;exact⟨rfl,k.out⟩
omit nap in
theorem Zh(h:TSt At c gl gd L D w)(ok:WfP D)(s:Tw)(o:s.size<=1000000):Calls prog 127 #[ptr gl,.string s] w (vV At c gl gd (.bool (dr D s)) L D):=by
 have hF:=qQ (h.qi api (fun F hF=>api.free hF ok.ok));have k:=qQ h;obtain⟨c0,c1,c2,d,f,g⟩:=h.cells;have i:=ok.cap;have j:=ok.used;unfold dr;have m:(D.cap:Int)-(jA D.l:Nat)-(s.size:Nat)<=1048576:=by omega
 have n:-1000000<=(D.cap:Int)-(jA D.l:Nat)-(s.size:Nat):=by omega
 generalize (D.cap:Int)-(jA D.l:Nat)=y at*;have hw:IntKind.i64.wrap (y-(s.size:Nat))=y-(s.size:Nat):=IntWalk.i64_in _ (by omega);clear i j h c0 c2 d f g ok;go_enter func127,ntmps127;go_wp2_with fail;refine hF.out.mono ?_;rintro e p⟨rfl,a⟩;have b:=qQ a;clear a;go_wp2;go_ret;exact⟨rfl,b.out⟩
theorem Rk(h:TSt At c gl gd L D w)(ok:WfP D)(C:L.chunks<=200)(A:0<L.chunks):Calls prog 92 #[ptr gl] w (vV At c gl gd (err (vA D L).1) (vA D L).2.2 (vA D L).2.1):=by
 obtain⟨n,o⟩:∃n,L.chunks=n+1:=⟨L.chunks-1,by omega⟩
 have B:=qQ fun W=>mu nap n W (by omega)
 have r:=qQ fun(W:World) (M:TSt At c gl gd L D W)=>M.qi api (fun F hF=>api.sync (nmC n) hF ok.ok (ly (by omega)))
 have j:=qQ h;obtain⟨c0,c1,c2,q,v,z⟩:=h.cells;have e:L.chunks-1=n:=by omega
 have R:decide ((0:Int)<((n+1:Nat):Int))=true:=qA (by omega);have N:((n+1:Nat):Int)-1=(n:Int):=by omega
 have Q:IntKind.i64.wrap (n:Int)=(n:Int):=IntWalk.i64_in _ (by omega);have hw:IntKind.i64.wrap (((n+1:Nat):Int)-1)=(n:Int):=by rw[N];exact IntWalk.i64_in _ (by omega)
 unfold vA;rw[qZ (by omega),e];rw[o]at q;have l:=qQ o;generalize u:((n+1:Nat):Int)=m at*;have k:=qQ u;by_cases f:(jc D (nmC n)).1=0
 ·rw[qV f];rw[f]at r;generalize (jc D (nmC n)).2=G at*;generalize nmC n=nm at*;clear e o f h ok C A c0 c2 v z u;go_enter func92,ntmps92;go_wp2_with fail
  go_region_held3 (fun w'=>w'.cell? ⟨gl,1,none⟩=some (ptr gd)/\w'.cell? ⟨gl,3,none⟩=some (.int .i64 m)) (first | assumption | exact⟨by assumption,by assumption⟩ | exact⟨c1,q⟩) (first
   | (go_at_call 83;refine(B.out _).mono ?_;rintro e g⟨rfl,d⟩;have b:=(show TSt At c gl gd L D _ from by first | exact j.out.drew api | exact j.out).below api d;have H:g.cell? ⟨gl,1,none⟩=some (ptr gd):=b.cells.2.1;have I:g.cell? ⟨gl,3,none⟩=some (.int .i64 m):=by rw[b.cells.2.2.2.1,l.out,k.out])
   | (go_at_call 147;refine(r.out _ b).mono ?_;rintro e i⟨rfl,a⟩;have J:i.cell? ⟨gl,1,none⟩=some (ptr gd):=a.cells.2.1;have K:i.cell? ⟨gl,3,none⟩=some (.int .i64 m):=by rw[a.cells.2.2.2.1,l.out,k.out])
   | fail)
  all_goals
   obtain⟨_,_,_,_,P,_⟩:=a.cells;have O:=a.frozen 5;have p:=qQ (a.zQ api L.endp);clear b a d;generalize (L.endp:Int)=y at*;go_wp2;go_ret;exact⟨rfl,p.out⟩
 ·rw[qZ f];have t:(((jc D (nmC n)).1:Int) != 0)=true:=by simp;omega
  generalize (jc D (nmC n)).2=G at*;generalize (jc D (nmC n)).1=y at*;generalize nmC n=nm at*;clear e o f h ok C A c0 c2 v z u;go_enter func92,ntmps92;go_wp2_with fail
  go_region_held3 (fun w'=>w'.cell? ⟨gl,1,none⟩=some (ptr gd)/\w'.cell? ⟨gl,3,none⟩=some (.int .i64 m)) (first | assumption | exact⟨by assumption,by assumption⟩ | exact⟨c1,q⟩) (first
   | (go_at_call 83;refine(B.out _).mono ?_;rintro e g⟨rfl,d⟩;have b:=(show TSt At c gl gd L D _ from by first | exact j.out.drew api | exact j.out).below api d;have H:g.cell? ⟨gl,1,none⟩=some (ptr gd):=b.cells.2.1;have I:g.cell? ⟨gl,3,none⟩=some (.int .i64 m):=by rw[b.cells.2.2.2.1,l.out,k.out])
   | (go_at_call 147;refine(r.out _ b).mono ?_;rintro e i⟨rfl,a⟩;have J:i.cell? ⟨gl,1,none⟩=some (ptr gd):=a.cells.2.1;have K:i.cell? ⟨gl,3,none⟩=some (.int .i64 m):=by rw[a.cells.2.2.2.1,l.out,k.out])
   | fail)
  all_goals
   have p:=qQ a;clear b a d;go_wp2;go_ret;exact⟨rfl,p.out⟩
omit nap in
theorem Rv(h:TSt At c gl gd L D w)(a:L.chunks=0):Calls prog 92 #[ptr gl] w (vV At c gl gd (err (vA D L).1) (vA D L).2.2 (vA D L).2.1):=by
 unfold vA;rw[qV a];obtain⟨c0,c1,c2,d,f,g⟩:=h.cells;rw[a]at d;have i:=h.frozen 5;have b:=qQ (h.zQ api L.endp);generalize (L.endp:Int)=y at*;clear h c0 c1 c2 a;go_enter func92,ntmps92;go_wp2;go_ret;exact⟨rfl,b.out⟩
theorem Um(h:TSt At c gl gd L D w)(ok:WfP D)(b:L.chunks<=200):Calls prog 92 #[ptr gl] w (vV At c gl gd (err (vA D L).1) (vA D L).2.2 (vA D L).2.1):=by
 by_cases a:L.chunks=0
 ·exact Rv api h a
 ·exact Rk api nap h ok b (by omega)
variable (cap:yY)
include cap
theorem Ry(h:TSt At c gl gd L D w)(ok:WfP D)(G:L.chunks<=200)(p:Tw)(B:p.size<=maxLen):Calls prog 63 #[ptr gl,.string p] w (vV At c gl gd (.tuple #[.int .i64 ((uJ D L p).1:Nat),.int .i64 ((uJ D L p).2.1:Nat),err (uJ D L p).2.2]) L D):=by
 have f:=qQ h;obtain⟨c0,c1,c2,C,q,r⟩:=h.cells;unfold uJ;by_cases g:L.chunks=0
 ·rw[qV g];rw[g]at C;clear h c0 c1 c2 g q r;go_enter func63,ntmps63;go_wp2;go_ret3;exact⟨rfl,f.out⟩
 rw[qZ g];obtain⟨n,l⟩:∃n,L.chunks=n+1:=⟨L.chunks-1,by omega⟩
 have e:L.chunks-1=n:=by omega
 rw[e];have H:=tk ok (nmC n);have F:=qQ fun W=>mu nap n W (by omega)
 have u:=qQ fun(W:World) (O:TSt At c gl gd L D W)=>(show Calls prog 50 #[ptr gd,.string (nmC n)] W (vV At c gl gd (.tuple #[.int .i64 ((jH D (nmC n)).1:Nat),err (jH D (nmC n)).2]) L D) from O.same (api.xe (nmC n) (Classical.choose_spec O).1 ok.ok (ly (by omega))))
 have hF:=qQ fun(W:World)=>cap.fits ((jH D (nmC n)).1:Nat) p W B (bE (by omega))
 have U:decide ((0:Int)<((n+1:Nat):Int))=true:=qA (by omega);have P:((n+1:Nat):Int)-1=(n:Int):=by omega
 have T:IntKind.i64.wrap (n:Int)=(n:Int):=IntWalk.i64_in _ (by omega);have hw:IntKind.i64.wrap (((n+1:Nat):Int)-1)=(n:Int):=by rw[P];exact IntWalk.i64_in _ (by omega)
 rw[l]at C;have J:=qQ l;generalize A:((n+1:Nat):Int)=m at*;have I:=qQ A;have R:w.cell? ⟨gl,3,none⟩=some (.int .i64 m):=C;by_cases i:(jH D (nmC n)).2=0
 ·rw[qV i];rw[i]at u;cases v:ftS ((jH D (nmC n)).1:Nat) p
  ·rw[qZ (by simp)];rw[v]at hF;have N:(L.chunks:Int)=m:=(by rw[J.out,I.out]);rw[N];generalize (jH D (nmC n)).1=z at*;generalize nmC n=nm at*;clear e l i h ok G g c0 c2 q r A H B v N;go_enter func63,ntmps63;go_wp2_with fail
   go_region_held3 (fun w'=>w'.cell? ⟨gl,1,none⟩=some (ptr gd)) (first | assumption | exact c1) (first
    | (go_at_call 83;refine(F.out _).mono ?_;rintro e o⟨rfl,d⟩;have b:=(show TSt At c gl gd L D _ from by first | exact f.out.drew api | exact f.out).below api d;have K:o.cell? ⟨gl,1,none⟩=some (ptr gd):=b.cells.2.1)
    | (go_at_call 50;refine(u.out _ b).mono ?_;rintro e j⟨rfl,a⟩;have M:j.cell? ⟨gl,1,none⟩=some (ptr gd):=a.cells.2.1)
    | fail)
   all_goals
    have S:j.cell? ⟨gl,3,none⟩=some (.int .i64 m):=(by rw[a.cells.2.2.2.1,J.out,I.out]);have k:=qQ a;clear b a d;go_wp2_with fail;refine(hF.out _).mono ?_;rintro e Q⟨rfl,rfl⟩;go_wp2;go_ret3;exact⟨rfl,k.out⟩
  ·rw[qV rfl];rw[v]at hF;generalize (jH D (nmC n)).1=z at*;generalize nmC n=nm at*;clear e l i h ok G g c0 c2 q r A H B v;go_enter func63,ntmps63;go_wp2_with fail
   go_region_held3 (fun w'=>w'.cell? ⟨gl,1,none⟩=some (ptr gd)) (first | assumption | exact c1) (first
    | (go_at_call 83;refine(F.out _).mono ?_;rintro e o⟨rfl,d⟩;have b:=(show TSt At c gl gd L D _ from by first | exact f.out.drew api | exact f.out).below api d;have K:o.cell? ⟨gl,1,none⟩=some (ptr gd):=b.cells.2.1)
    | (go_at_call 50;refine(u.out _ b).mono ?_;rintro e j⟨rfl,a⟩;have M:j.cell? ⟨gl,1,none⟩=some (ptr gd):=a.cells.2.1)
    | fail)
   all_goals
    have k:=qQ a;clear b a d;go_wp2_with fail;refine(hF.out _).mono ?_;rintro e Q⟨rfl,rfl⟩;go_wp2;go_ret3;exact⟨rfl,k.out⟩
 ·rw[qZ i];have t:(((jH D (nmC n)).2:Int) != 0)=true:=by simp;omega
  generalize (jH D (nmC n)).2=y at*;generalize (jH D (nmC n)).1=z at*;generalize nmC n=nm at*;clear e l i h ok G g c0 c2 q r A H B hF;go_enter func63,ntmps63;go_wp2_with fail
  go_region_held3 (fun w'=>w'.cell? ⟨gl,1,none⟩=some (ptr gd)) (first | assumption | exact c1) (first
   | (go_at_call 83;refine(F.out _).mono ?_;rintro e o⟨rfl,d⟩;have b:=(show TSt At c gl gd L D _ from by first | exact f.out.drew api | exact f.out).below api d;have K:o.cell? ⟨gl,1,none⟩=some (ptr gd):=b.cells.2.1)
   | (go_at_call 50;refine(u.out _ b).mono ?_;rintro e j⟨rfl,a⟩;have M:j.cell? ⟨gl,1,none⟩=some (ptr gd):=a.cells.2.1)
   | fail)
  all_goals
   have k:=qQ a;clear b a d;go_wp2;go_ret3;exact⟨rfl,k.out⟩
omit cap in
theorem Ru(h:TSt At c gl gd L D w)(ok:WfP D)(q:L.chunks<=200)(a:0<L.chunks)(r:Tw)(k:r.size<=1000000):Calls prog 65 #[ptr gl,.string r] w (vV At c gl gd (err (gI D L r).1) L (gI D L r).2):=by
 have f:=qQ (Zh api h ok r k);unfold gI;cases g:dr D r
 ·rw[qV rfl];rw[g]at f;clear h ok q a k g;go_enter func65,ntmps65;go_wp2_with fail;refine f.out.mono ?_;rintro e l⟨rfl,b⟩;have z:=qQ b;clear b;go_wp2;go_ret;exact⟨rfl,z.out⟩
 ·rw[qZ (by simp)];rw[g]at f;obtain⟨n,u⟩:∃n,L.chunks=n+1:=⟨L.chunks-1,by omega⟩
  have e:L.chunks-1=n:=by omega
  rw[e];have C:=qQ fun W=>mu nap n W (by omega)
  have G:=qQ fun(W:World) (H:TSt At c gl gd L D W)=>H.qi api (fun F hF=>api.append (nmC n) r hF ok.ok (by omega) (ly (by omega)))
  have I:((n+1:Nat):Int)-1=(n:Int):=by omega
  have P:IntKind.i64.wrap (n:Int)=(n:Int):=IntWalk.i64_in _ (by omega);have hw:IntKind.i64.wrap (((n+1:Nat):Int)-1)=(n:Int):=by rw[I];exact IntWalk.i64_in _ (by omega)
  have j:=qQ u;generalize t:((n+1:Nat):Int)=m at*;have i:=qQ t;generalize j9 D (nmC n) r=J at*;generalize nmC n=nm at*;clear e u h ok q a t k g;go_enter func65,ntmps65;go_wp2_with fail;refine f.out.mono ?_;rintro e v⟨rfl,a⟩;have c1:v.cell? ⟨gl,1,none⟩=some (ptr gd):=a.cells.2.1;have B:v.cell? ⟨gl,3,none⟩=some (.int .i64 m):=by rw[a.cells.2.2.2.1,j.out,i.out]
  have o:=qQ a;clear a;go_wp2_with fail
  go_region_held3 (fun w'=>w'.cell? ⟨gl,1,none⟩=some (ptr gd)/\w'.cell? ⟨gl,3,none⟩=some (.int .i64 m)) (first | assumption | exact⟨by assumption,by assumption⟩ | exact⟨c1,B⟩) (first
   | (go_at_call 83;refine(C.out _).mono ?_;rintro e l⟨rfl,p⟩;have b:=(show TSt At c gl gd L D _ from by first | exact o.out.drew api | exact o.out).below api p;have K:l.cell? ⟨gl,1,none⟩=some (ptr gd):=b.cells.2.1;have M:l.cell? ⟨gl,3,none⟩=some (.int .i64 m):=by rw[b.cells.2.2.2.1,j.out,i.out])
   | (go_at_call 131;refine(G.out _ b).mono ?_;rintro e y⟨rfl,d⟩;have N:y.cell? ⟨gl,1,none⟩=some (ptr gd):=d.cells.2.1;have O:y.cell? ⟨gl,3,none⟩=some (.int .i64 m):=by rw[d.cells.2.2.2.1,j.out,i.out])
   | fail)
  all_goals
   have A:=qQ d;clear b d p;go_wp2;go_ret;exact⟨rfl,A.out⟩
end
end
section
open Go.RowKit Go.Shelf
theorem Rc{r:Nat->Nat}{n k:Nat}(h:k<n):stR r (n-k) k=if r k=0 then stR r (n-(k+1)) (k+1) else(r k,k+1):=by
 obtain⟨m,rfl⟩:∃m,n=k+1+m:=⟨n-k-1,by omega⟩
 have a:k+1+m-k=m+1:=by omega
 have b:k+1+m-(k+1)=m:=by omega
 rw[a,b];rfl
theorem Rf{r:Nat->Nat}{n:Nat}:stR r (n-n) n=(0,n):=by rw[Nat.sub_self];rfl
theorem Zl{b n:Nat}(P:n<=1000)(r:Nat->Nat)(d:Nat->World->Prop)(f:Nat->FuncId)(x y:Nat->Array Value)
  (H:∀k,k<n->Enters prog (f k)) (G:∀k W,k<n->d k W->W.cell? ⟨b,k,none⟩=some (.func (.func (f k)) (x k) (y k)))
  (F:∀k W,k<n->d k W->Calls prog (f k) (x k++#[]++y k) W fun e v=>e = .returned (.int .i64 (r k:Nat))/\d (k+1) v) (W:World) (B:d 0 W):
  Calls prog 24 #[.slice (some ⟨b,0,none⟩) n n] W fun e v=>e = .returned (.int .i64 ((stR r n 0).1:Nat))/\d (stR r n 0).2 v:=by
 have J:=qQ G;have M:=qQ F;have K:=qQ H;have R:=qQ P;have I:=qQ B;clear G F B H;go_enter func24,ntmps24;go_wp2;go_loopw [8] (fun i wr=>∃k:Nat,k<=n/\i = .int .i64 k/\stR r (n-k) k=stR r n 0/\d k wr) (fun i _=>n-(intOf i).toNat)
 case atStart=>exact⟨0,qF _,rfl,rfl,I.out⟩
 case round =>
  obtain⟨k,O,rfl,j,m⟩:=hrel;by_cases g:k<n
  ·have c1:=J.out k _ g m;have S:(k:Int)<(n:Int):=(by omega);have u:=qQ m;have a:=qQ j;have N:=qQ g;clear m j;rw[Rc g]at a;have A:=K.out k g;have z:=M.out k _ g u.out;have C:x k++#[]++y k=x k++y k:=(by simp);rw[C]at z;have q:=qQ z;unfold Enters at A;clear z C;by_cases l:r k=0
   ·rw[l]at q;rw[qV l]at a;clear l;go_wp2_with fail;refine q.out.mono ?_;rintro e Q⟨rfl,o⟩;have p:=qQ o;clear o A c1;go_wp2;go_roundw
    case rel=>exact⟨k+1,by have:=N.out;omega,by go_num,a.out,p.out⟩
    case measure=>simp[intOf];omega
   ·have t:((r k:Int) != 0)=true:=(by simp;omega);rw[qZ l]at a;clear l;generalize r k=y at*;go_wp2_with fail;refine q.out.mono ?_;rintro e Q⟨rfl,o⟩;have p:=qQ o;clear o A c1;go_wp2;go_ret;rw[<-a.out];exact⟨rfl,p.out⟩
  ·obtain rfl:k=n:=(by omega);rw[Rf]at j;have u:=qQ m;have a:=qQ j;clear m j O;go_wp2;go_ret;rw[<-a.out];exact⟨rfl,u.out⟩
end
section
open Go.RowKit Go.Shelf
section
variable {At:jL}{c:Ctx}{gl gd:Nat}{L L':jN}{D D':jK}{w w':World}
theorem TSt.new(api:jM At)(h:TSt At c gl gd L D w)(i:jG [] w w')(g:w.heap.size<w'.heap.size):TSt At { c with G:=w.heap.size::c.G,wG:=w' } gl gd L D w':=by
 have f:∀b∈c.G,b<w.heap.size:=by
  obtain⟨F,k,l,m,n,o,p,d⟩:=h;intro b a;have:=(d b a).2.1;omega
 refine h.own api (i.more (fun x j=>by cases j)) (fun b a=>?_) (fun b a=>?_)
 ·rcases qL.1 a with rfl|a
  ·exact qY (qK _)
  ·exact qX a
 ·rcases qL.1 a with rfl|a
  ·exact g
  ·have:=f b a;omega
theorem TSt.box(api:jM At)(h:TSt At c gl gd L D w)(o:Obj):TSt At { c with G:=w.heap.size::c.G,wG:=w.alloc o } gl gd L D (w.alloc o):=h.new api ((jG.refl [] w).alloc o) (by simp)
theorem TSt.qa(h:TSt At c gl gd L D w){b:Nat}(d:b∈c.G){t:TypeId}{cs:Array Value}(a:jY c.wG b t cs):jY w b t cs:=(h.xR d).trans a
theorem TSt.lt(h:TSt At c gl gd L D w){b:Nat}(d:b∈c.G):b<c.wG.heap.size/\b<w.heap.size:=by
 obtain⟨F,f,g,i,j,k,l,a⟩:=h;have:=(a b d).2.1;omega
def bn(c:Ctx)(w W:World):Prop:=w.heap.size<=W.heap.size/\c.wG.heap.size<=w.heap.size/\∀b∈c.G,b<w.heap.size/\W.heap[b]? = w.heap[b]?
theorem TSt.keep(h:TSt At c gl gd L D w):bn c w w:=by
 refine⟨qK _, ?_,fun b d=>⟨(h.lt d).2,rfl⟩⟩;obtain⟨F,f,g,i,j,k,a,l⟩:=h;exact a
theorem bn.qe{W d:World}(h:bn c w W)(f:jG [] W d):bn c w d:=⟨qO h.1 f.size,h.2.1,fun b a=>⟨(h.2.2 b a).1,(f.block b (by have:=(h.2.2 b a).1;have:=h.1;omega) (by simp)).trans (h.2.2 b a).2⟩⟩
theorem bn.alloc{W:World}(h:bn c w W)(o:Obj):bn c w (W.alloc o):=h.qe ((jG.refl [] W).alloc o)
theorem bn.below{W a:World}(h:bn c w W)(b:Below W.heap.size W a):bn c w a:=h.qe (jG.qn b)
theorem bn.call{a:Ctx}{W:World}(h:bn c w a.wG)(f:TSt At a gl gd L D W)(i:∀b∈c.G,b∈a.G):bn c w W:=by
 refine⟨?_,h.2.1,fun b d=>⟨(h.2.2 b d).1,(f.xR (i b d)).trans (h.2.2 b d).2⟩⟩;obtain⟨F,j,k,l,m,n,g,o⟩:=f;exact qO h.1 g
theorem TSt.xN{a:Ctx}(h:TSt At a gl gd L D w')(g:TSt At c gl gd L' D' w)(f:bn c w a.wG)(i:a.w0=c.w0)(j:a.F0=c.F0)(k:a.base=c.base)(l:a.m=c.m)(n:∀b∈c.G,b∈a.G):TSt At c gl gd L D w' :=
 h.back i j k l (qO f.2.1 f.1) (fun b d=>⟨n b d,(g.lt d).1,(f.2.2 b d).2.trans (g.xR d)⟩)
end
section
variable {At:jL}(api:jM At){c:Ctx}{gl gd:Nat}{L L':jN}{D D':jK}{w w':World}{B1 B2 B3:Nat}{nm s:Tw}
include api
theorem Rh(h:TSt At c gl gd L D w)(ok:WfP D)(f:B1∈c.G)(b:jY c.wG B1 30 #[ptr gl])(g:B3∈c.G)(d:jY c.wG B3 9 #[.string nm])(k:nm.size<=maxLen):
  Calls prog 128 #[ptr B1,ptr B3] w (vV At c gl gd (err (jP D nm).1) L (jP D nm).2):=by
 have t:=qQ fun(W:World) (u:TSt At c gl gd L D W)=>u.qi api (fun F hF=>api.create nm hF ok.ok k)
 have j:=qQ h;have q:w.cell? ⟨B1,0,none⟩=some (ptr gl):=(h.qa f b).cell 0;have r:w.cell? ⟨B3,0,none⟩=some (.string nm):=(h.qa g d).cell 0;have c1:=h.cells.2.1;have o:=qQ f;have m:=qQ b;have p:=qQ g;have n:=qQ d;generalize jP D nm=v at*;clear h ok f b g d k;go_enter func128,ntmps128;go_wp2_with fail
 go_region_held3 (fun w'=>w'.cell? ⟨B1,0,none⟩=some (ptr gl)/\w'.cell? ⟨gl,1,none⟩=some (ptr gd)/\w'.cell? ⟨B3,0,none⟩=some (.string nm)) (first | assumption | exact⟨by assumption,by assumption,by assumption⟩ | exact⟨q,c1,r⟩) (first
  | (go_at_call 129;refine(t.out _ (by first | exact j.out.drew api | exact j.out)).mono ?_;rintro e i⟨rfl,a⟩;have y:i.cell? ⟨gl,1,none⟩=some (ptr gd):=a.cells.2.1;have z:i.cell? ⟨B1,0,none⟩=some (ptr gl):=(a.qa o.out m.out).cell 0;have A:i.cell? ⟨B3,0,none⟩=some (.string nm):=(a.qa p.out n.out).cell 0)
  | fail)
 all_goals
  have l:=qQ a;clear a;go_wp2;go_ret;exact⟨rfl,l.out⟩
theorem Rl(h:TSt At c gl gd L D w)(ok:WfP D)(i:B1∈c.G)(d:jY c.wG B1 30 #[ptr gl])(k:B3∈c.G)(g:jY c.wG B3 9 #[.string nm])(j:B2∈c.G)(f:jY c.wG B2 9 #[.string s])(m:nm.size<=maxLen)(C:s.size<=1000000):
  Calls prog 130 #[ptr B1,ptr B3,ptr B2] w (vV At c gl gd (err (j9 D nm s).1) L (j9 D nm s).2):=by
 have A:=qQ fun(W:World) (B:TSt At c gl gd L D W)=>B.qi api (fun F hF=>api.append nm s hF ok.ok (by omega) m)
 have l:=qQ h;have v:w.cell? ⟨B1,0,none⟩=some (ptr gl):=(h.qa i d).cell 0;have z:w.cell? ⟨B3,0,none⟩=some (.string nm):=(h.qa k g).cell 0;have y:w.cell? ⟨B2,0,none⟩=some (.string s):=(h.qa j f).cell 0;have c1:=h.cells.2.1;have r:=qQ i;have o:=qQ d;have u:=qQ k;have q:=qQ g;have t:=qQ j;have p:=qQ f;generalize j9 D nm s=H at*;clear h ok i d k g m j f C;go_enter func130,ntmps130;go_wp2_with fail
 go_region_held3 (fun w'=>w'.cell? ⟨B1,0,none⟩=some (ptr gl)/\w'.cell? ⟨gl,1,none⟩=some (ptr gd)/\w'.cell? ⟨B3,0,none⟩=some (.string nm)/\w'.cell? ⟨B2,0,none⟩=some (.string s)) (first | assumption | exact⟨by assumption,by assumption,by assumption,by assumption⟩ | exact⟨v,c1,z,y⟩) (first
  | (go_at_call 131;refine(A.out _ (by first | exact l.out.drew api | exact l.out)).mono ?_;rintro e b⟨rfl,a⟩;have I:b.cell? ⟨gl,1,none⟩=some (ptr gd):=a.cells.2.1;have J:b.cell? ⟨B1,0,none⟩=some (ptr gl):=(a.qa r.out o.out).cell 0;have K:b.cell? ⟨B3,0,none⟩=some (.string nm):=(a.qa u.out q.out).cell 0;have M:b.cell? ⟨B2,0,none⟩=some (.string s):=(a.qa t.out p.out).cell 0)
  | fail)
 all_goals
  have n:=qQ a;clear a;go_wp2;go_ret;exact⟨rfl,n.out⟩
end
def uG{α:Type}(a b c d:α):Nat->α
 | 0=>a
 | 1=>b
 | 2=>c
 | _=>d
theorem Zm{D:jK}{L:jN}(ok:WfP D):WfP (vA D L).2.1:=by
 unfold vA;split
 ·exact ok
 ·split<;>exact mD ok _
section
variable {At:jL}(api:jM At)(nap:jm)(cap:yY){c:Ctx}{gl gd:Nat}{L L':jN}{D D':jK}{w w':World}
include api nap
theorem Rm{B1 B2 B3 B4:Nat}{nm s:Tw}(h:TSt At c gl gd L D w)(ok:WfP D)(v:L.chunks<=200)(r:B1∈c.G)(o:jY c.wG B1 30 #[ptr gl])(t:B3∈c.G)(p:jY c.wG B3 9 #[.string nm])(B:B2∈c.G)(z:jY c.wG B2 9 #[.string s])
  (C:B4∈c.G) (J:TypeId) (A:jY c.wG B4 J #[.func (.func 92) #[ptr gl] #[],.func (.func 128) #[] #[ptr B1,ptr B3],.func (.func 130) #[] #[ptr B1,ptr B3,ptr B2]]) (m:nm.size<=maxLen) (y:s.size<=1000000):
  Calls prog 24 #[.slice (some ⟨B4,0,none⟩) 3 3] w (vV At c gl gd (err (yx (yx (vA D L) (onD fun E=>jP E nm)) (onD fun E=>j9 E nm s)).1) (yx (yx (vA D L) (onD fun E=>jP E nm)) (onD fun E=>j9 E nm s)).2.2 (yx (yx (vA D L) (onD fun E=>jP E nm)) (onD fun E=>j9 E nm s)).2.1):=by
 have u:WfP (vA D L).2.1:=Zm ok;have F:WfP (jP (vA D L).2.1 nm).2:=lO u nm
 have H:=Zl (b:=B4) (n:=3) (by omega) (uG (vA D L).1 (jP (vA D L).2.1 nm).1 (j9 (jP (vA D L).2.1 nm).2 nm s).1 0)
  (fun k W=>TSt At c gl gd (uG L (vA D L).2.2 (vA D L).2.2 (vA D L).2.2 k) (uG D (vA D L).2.1 (jP (vA D L).2.1 nm).2 (j9 (jP (vA D L).2.1 nm).2 nm s).2 k) W)
  (uG 92 128 130 0) (uG #[ptr gl] #[] #[] #[]) (uG #[] #[ptr B1,ptr B3] #[ptr B1,ptr B3,ptr B2] #[])
  (fun k f=>by
   match k,f with
   | 0,_=>exact enters_of func92 (by kernel_rfl) rfl
   | 1,_=>exact enters_of func128 (by kernel_rfl) rfl
   | 2,_=>exact enters_of func130 (by kernel_rfl) rfl)
  (fun k W f d=>by
   have q:=(d.qa C A).cell k
   match k,f with
   | 0,_=>exact q
   | 1,_=>exact q
   | 2,_=>exact q)
  (fun k W f d=>by
   match k,f with
   | 0,_=>exact Um api nap d ok v
   | 1,_=>exact Rh api d u r o t p m
   | 2,_=>exact Rl api d F r o t p B z m y) w h
 refine H.mono ?_;rintro e w'⟨rfl,d⟩;generalize vA D L=a at*;obtain⟨I,i,K⟩:=a;dsimp only at d ⊢;by_cases j:I=0
 ·subst j;by_cases g:(jP i nm).1=0
  ·by_cases l:(j9 (jP i nm).2 nm s).1=0
   ·simp[stR,uG,yx,onD,g,l]at d ⊢;exact⟨by simp,d⟩
   ·simp[stR,uG,yx,onD,g,l]at d ⊢;exact⟨rfl,d⟩
  ·simp[stR,uG,yx,onD,g]at d ⊢;exact⟨rfl,d⟩
 ·simp[stR,uG,yx,j]at d ⊢;exact⟨rfl,d⟩
end
section
variable {At:jL}(api:jM At)(nap:jm)(cap:yY){c:Ctx}{gl gd:Nat}{L L':jN}{D D':jK}{w w':World}
include api nap cap
theorem Rn(h:TSt At c gl gd L D w)(ok:WfP D)(I:L.chunks<=200)(r:Tw)(hr:r.size<=100000):
  Calls prog 64 #[ptr gl,.string r] w (vV At c gl gd (err (ch D L r).1) (ch D L r).2.2 (ch D L r).2.1):=by
 have F:(hdS (L.chunks:Nat)++r).size<=1000000:=by
  rw[qy]
  have:(hdS (L.chunks:Nat)).size<=12:=by
   by_cases q:L.chunks<=199
   ·rw[mN q];exact qK _
   ·rw[ZQ (by omega)];exact qF _
  omega
 have ha:∀W:World,(Op.stringOp .add (hdS (L.chunks:Nat)) r).run prog W = .ok (.string (hdS (L.chunks:Nat)++r)) W:=fun W=>run_string_add_sum (P:=prog) (w:=W) _ _ (by rw[qy]at F;omega)
 have Z:=qQ fun(W:World)=>cap.head (L.chunks:Nat) W (bE (by omega))
 have B:=h.box api (.cells #[ptr gl] 30);obtain⟨c0,c1,c2,c3,X,Y⟩:=B.cells;have q1:=(jY.new w 30 #[ptr gl]).cell 0;have o:=qQ h;have K:=qQ B;have N:=qQ (jY.new w 30 #[ptr gl]);have U:=qQ ok;have O:=qQ I;have Q:=qQ F;unfold ch;by_cases H:200<=L.chunks
 ·rw[qV (qX H)];have t1:decide ((200:Int)<=(L.chunks:Int))=true:=qA (by omega);generalize J:hdS (L.chunks:Nat)++r=s at*;generalize G:hdS (L.chunks:Nat)=hd at*;clear h B F ok hr H I c0 c2 X Y J G;generalize m:(L.chunks:Int)=n at*;have t:=qQ (o.out.keep.alloc (.cells #[ptr gl] 30));generalize ac:w.heap.size=B1 at*;generalize C:w.alloc (.cells #[ptr gl] 30)=W1 at*;have aa:=qQ C;go_enter func64,ntmps64;go_wp2_with fail;refine(Z.out _).mono ?_;rintro e i⟨rfl,a⟩;have k:=K.out.below api a;have l:=N.out.qe (jG.qn a) (by simp);have d:=k.box api (.cells #[.string s] 9);have f:=(jY.new i 9 #[.string s])
  have g:=l.alloc (.cells #[.string s] 9);obtain⟨u,d1,v,y,z,A⟩:=d.cells;rw[m]at y;have q2:=f.cell 0;have q3:=g.cell 0;have p:=qQ ((t.out.below a).alloc (.cells #[.string s] 9));generalize ad:i.heap.size=B2 at*;generalize ae:i.alloc (.cells #[.string s] 9)=W2 at*;have H3:=qQ d;have T:=qQ f;have S:=qQ g;clear l a k d f g u v z A;go_wp2;go_ret;exact⟨rfl,H3.out.xN o.out p.out rfl rfl rfl rfl (fun b a=>by simp[a])⟩
 have t1:decide ((200:Int)<=(L.chunks:Int))=false:=qW (by omega);have ak:IntKind.i64.wrap (L.chunks:Int)=(L.chunks:Int):=IntWalk.i64_in _ (by omega);generalize J:hdS (L.chunks:Nat)++r=s at*;generalize G:hdS (L.chunks:Nat)=hd at*;cases hq:dr D s
 ·rw[qV (qY rfl)];clear h B F ok hr H I c0 c2 X Y J G;generalize m:(L.chunks:Int)=n at*;have t:=qQ (o.out.keep.alloc (.cells #[ptr gl] 30));generalize ac:w.heap.size=B1 at*;generalize C:w.alloc (.cells #[ptr gl] 30)=W1 at*;have aa:=qQ C;go_enter func64,ntmps64;go_wp2_with fail;refine(Z.out _).mono ?_;rintro e i⟨rfl,a⟩;have k:=K.out.below api a;have l:=N.out.qe (jG.qn a) (by simp);have d:=k.box api (.cells #[.string s] 9);have f:=(jY.new i 9 #[.string s])
  have g:=l.alloc (.cells #[.string s] 9);obtain⟨u,d1,v,y,z,A⟩:=d.cells;rw[m]at y;have q2:=f.cell 0;have q3:=g.cell 0;have p:=qQ ((t.out.below a).alloc (.cells #[.string s] 9));generalize ad:i.heap.size=B2 at*;generalize ae:i.alloc (.cells #[.string s] 9)=W2 at*;have R:=qQ (Zh api d U.out s Q.out);rw[hq]at R;have T:=qQ f;have S:=qQ g;clear l a k d f g u v z A;go_wp2_with fail;refine R.out.mono ?_;rintro e w3⟨rfl,j⟩;have ab:=qQ (p.out.call j (fun b a=>by simp[a]));have M:=qQ j;clear j R;go_wp2;go_ret;exact⟨rfl,M.out.xN o.out p.out rfl rfl rfl rfl (fun b a=>by simp[a])⟩
 ·rw[qZ (by simp;omega)];clear h B F ok hr H I c0 c2 X Y J G;generalize m:(L.chunks:Int)=n at*;have hN:=qQ fun W=>(mu nap L.chunks W (by have:=O.out;omega))
  have af:=qQ (ly (n:=L.chunks) (by have:=O.out;omega));rw[m]at hN;generalize nmC L.chunks=nm at*;have t:=qQ (o.out.keep.alloc (.cells #[ptr gl] 30));generalize ac:w.heap.size=B1 at*;generalize C:w.alloc (.cells #[ptr gl] 30)=W1 at*;have aa:=qQ C;go_enter func64,ntmps64;go_wp2_with fail;refine(Z.out _).mono ?_;rintro e i⟨rfl,a⟩;have k:=K.out.below api a;have l:=N.out.qe (jG.qn a) (by simp);have d:=k.box api (.cells #[.string s] 9);have f:=(jY.new i 9 #[.string s])
  have g:=l.alloc (.cells #[.string s] 9);obtain⟨u,d1,v,y,z,A⟩:=d.cells;rw[m]at y;have q2:=f.cell 0;have q3:=g.cell 0;have p:=qQ ((t.out.below a).alloc (.cells #[.string s] 9));generalize ad:i.heap.size=B2 at*;generalize ae:i.alloc (.cells #[.string s] 9)=W2 at*;have R:=qQ (Zh api d U.out s Q.out);rw[hq]at R;have T:=qQ f;have S:=qQ g;clear l a k d f g u v z A;go_wp2_with fail;refine R.out.mono ?_;rintro e w3⟨rfl,j⟩;have V:=j.qa (b:=B1) (by simp) S.out;have b2:=j.qa (b:=B2) (by simp) T.out;have g1:=V.cell 0;have g3:=j.cells.2.2.2.1;rw[m]at g3;have ab:=qQ (p.out.call j (fun b a=>by simp[a]));have M:=qQ j;have X1:=qQ V;have X2:=qQ b2;clear j V b2 R;go_wp2_with fail;refine(hN.out _).mono ?_;rintro e w4⟨rfl,a⟩;have h5:=M.out.below api a;have x1:=X1.out.qe (jG.qn a) (by simp);have x2:=X2.out.qe (jG.qn a) (by simp);have h6:=h5.box api (.cells #[.string nm] 9);have y3:=(jY.new w4 9 #[.string nm])
  have y1:=x1.alloc (.cells #[.string nm] 9);have y2:=x2.alloc (.cells #[.string nm] 9);have q1:=y1.cell 0;have ag:=qQ ((ab.out.below a).alloc (.cells #[.string nm] 9));generalize ah:w4.heap.size=B3 at*;generalize ai:w4.alloc (.cells #[.string nm] 9)=W4 at*;have aj:∀(fn:Fn) (first cap:Array Value) (w:World),(Instr.makeFunc fn first cap).run prog w = .ok (.func fn first cap) w:=fun _ _ _ _=>rfl
  have H6:=qQ h6;have Y1:=qQ y1;have Y2:=qQ y2;have Y3:=qQ y3;clear a h5 x1 x2 h6 y1 y2 y3;go_wp2_with fail;have y4:=jY.new W4 78 #[.func (.func 92) #[ptr gl] #[],.func (.func 128) #[] #[ptr B1,ptr B3],.func (.func 130) #[] #[ptr B1,ptr B3,ptr B2]];refine(Rm api nap (H6.out.box api (.cells #[.func (.func 92) #[ptr gl] #[],.func (.func 128) #[] #[ptr B1,ptr B3],.func (.func 130) #[] #[ptr B1,ptr B3,ptr B2]] 78)) U.out O.out (B1:=B1) (B2:=B2) (B3:=B3) (B4:=W4.heap.size) (by simp) (Y1.out.alloc _) (by simp) (Y3.out.alloc _) (by simp) (Y2.out.alloc _) (by simp) _ y4 af.out Q.out).mono ?_;rintro e w6⟨rfl,h7⟩;have h8:=qQ (h7.xN o.out (ag.out.alloc _) rfl rfl rfl rfl (fun b a=>by simp[a]));clear h7 y4;go_wp2;go_ret;exact⟨rfl,h8.out⟩
end
theorem Rp{D:jK}{L:jN}(ok:WfP D)(d:L.chunks<=200)(p:Tw):(uJ D L p).1<=L.chunks/\(uJ D L p).2.1<=1048576/\((uJ D L p).2.2=0->(uJ D L p).1≠L.chunks->0<L.chunks):=by
 have b:=tk ok (nmC (L.chunks-1));unfold uJ;split
 ·rename_i a;exact⟨qF _,Nat.le_of_lt (show 12<1048576 by decide),fun _ h=>absurd a.symm h⟩
 ·split
  ·split
   ·exact⟨Nat.sub_le _ _,b,fun _ _=>by omega⟩
   ·exact⟨qK _,Nat.le_of_lt (show 12<1048576 by decide),fun _ h=>absurd rfl h⟩
  ·exact⟨qF _,qF _,fun h=>absurd h (by assumption)⟩
theorem tb{a:Nat × jK × jN}{f:jK->jN->Nat × jK × jN}(h:WfP a.2.1)(b:∀D L,WfP D->WfP (f D L).2.1):WfP (yx a f).2.1:=by
 unfold yx;split
 ·exact b _ _ h
 ·exact h
theorem Rr{D:jK}{L:jN}(ok:WfP D)(r:Tw):WfP (ch D L r).2.1:=by
 unfold ch;split
 ·exact ok
 ·exact tb (tb (Zm ok) (fun E _ h=>lO h _)) (fun E _ h=>lP h _ _)
theorem Rs{D:jK}{L:jN}(ok:WfP D)(r:Tw):WfP (gI D L r).2:=by
 unfold gI;split
 ·exact ok
 ·exact lP ok _ _
theorem Rt{D:jK}{L:jN}(ok:WfP D)(p:Tw):WfP (bu D L p).2.2.1:=by
 unfold bu;split
 ·exact ok
 ·split
  ·exact ok
  ·split
   ·exact ok
   ·have a:WfP (if (uJ D L p).1=L.chunks then ch D L (jS p) else onD (fun E=>gI E L (jS p)) D L).2.1:=by
     split
     ·exact Rr ok _
     ·exact Rs ok _
    dsimp only;generalize (if (uJ D L p).1=L.chunks then ch D L (jS p) else onD (fun E=>gI E L (jS p)) D L)=r at a ⊢;split<;>exact a
section
variable {At:jL}(api:jM At)(nap:jm)(cap:yY){c:Ctx}{gl gd:Nat}{L L':jN}{D D':jK}{w w':World}
include api nap
theorem Re(g:c.m=ptr gl)(h:TSt At c gl gd L D w)(ok:WfP D)(f:L.chunks<=200):Calls prog 34 #[ptr gl] w (vV At c gl gd (err (vl D L).1) (vl D L).2.2 (vl D L).2.1):=by
 have i:=qQ (my api g h);have k:=qQ fun(W:World) (n:TSt At c gl gd L D W)=>Um api nap n ok f
 unfold vl;by_cases b:vq D L=0
 ·rw[qZ (by simp[b])];rw[b]at i;generalize vA D L=r at*;clear h ok f b g;go_enter func34,ntmps34;go_wp2_with fail;refine i.out.mono ?_;rintro e o⟨rfl,a⟩;have d:=qQ a;clear a;go_wp2_with fail;refine(k.out _ d.out).mono ?_;rintro e p⟨rfl,j⟩;have l:=qQ j;clear j;go_wp2;go_ret;exact⟨rfl,l.out⟩
 ·rw[qV b];have t:((vq D L:Int) != 0)=true:=by simp;omega
  generalize vq D L=y at*;clear h ok f b g k;go_enter func34,ntmps34;go_wp2_with fail;refine i.out.mono ?_;rintro e o⟨rfl,a⟩;have d:=qQ a;clear a;go_wp2;go_ret;exact⟨rfl,d.out⟩
variable (cap:yY)
include cap
theorem Ri(G:c.m=ptr gl)(h:TSt At c gl gd L D w)(ok:WfP D)(q:L.chunks<=200)(p:Tw)(C:p.size<=maxLen):Calls prog 15 #[ptr gl,.string p] w (vV At c gl gd (.tuple #[.int .i64 ((bu D L p).1:Nat),err (bu D L p).2.1]) (bu D L p).2.2.2 (bu D L p).2.2.1):=by
 have H:=qQ (my api G h);unfold bu;by_cases A:vq D L=0
 case neg =>
  rw[qV A];have t:((vq D L:Int) != 0)=true:=by simp;omega
  generalize vq D L=y at*;clear h ok q A G C;go_enter func15,ntmps15;go_wp2_with fail;refine H.out.mono ?_;rintro e Q⟨rfl,b⟩;have i:=qQ b;clear b;go_wp2;go_ret2;exact⟨rfl,i.out⟩
 rw[qZ (by simp[A])];rw[A]at H;clear A;have F:=qQ fun(W:World)=>cap.put p W C
 by_cases u:2000<p.size
 ·rw[qV u];have z:prE p=3:=by unfold prE;rw[qV u]
  rw[z]at F;generalize prS p=T at*;clear h ok q G C u z;go_enter func15,ntmps15;go_wp2_with fail;refine H.out.mono ?_;rintro e Q⟨rfl,b⟩;have i:=qQ b;clear b;go_wp2_with fail;refine(F.out _).mono ?_;rintro e U⟨rfl,f⟩;have k:=qQ (i.out.below api f);clear f;go_wp2;go_ret2;exact⟨rfl,k.out⟩
 rw[qZ u];have z:prE p=0:=by unfold prE;rw[qZ u]
 have K:prS p=jS p:=by unfold prS;rw[qZ u]
 rw[z,K]at F;have S:(jS p).size<=2012:=by rw[bB];omega
 have j:=qQ fun(W:World) (j:TSt At c gl gd L D W)=>Ry api nap cap j ok q p C
 obtain⟨O,P,I⟩:=Rp ok q p;generalize uJ D L p=tg at*;obtain⟨n,a,e⟩:=tg;dsimp only at O P I j ⊢;by_cases A:e=0
 case neg =>
  rw[qV A];have t:((e:Int) != 0)=true:=by simp;omega
  generalize jS p=T at*;clear h ok q G C u z K O P I S A;go_enter func15,ntmps15;go_wp2_with fail;refine H.out.mono ?_;rintro e Q⟨rfl,b⟩;have i:=qQ b;clear b;go_wp2_with fail;refine(F.out _).mono ?_;rintro e U⟨rfl,f⟩;have k:=qQ (i.out.below api f);clear f;go_wp2_with fail;refine(j.out _ k.out).mono ?_;rintro e w3⟨rfl,d⟩;have v:=qQ d;clear d;go_wp2;go_ret2;exact⟨rfl,v.out⟩
 subst A;rw[qZ (by simp)];have hFr:=qQ fun(W:World)=>tj n W (by omega)
 have V:(n:Int)<=200:=by omega
 have X:(a:Int)<=1048576:=by omega
 have Y:(0:Int)<=n:=by omega
 have Z:(0:Int)<=a:=by omega
 have k5:((jS p).size:Int)<=2012:=by omega
 have ab:IntKind.i64.wrap ((n:Int)*4096+(a:Int))=(n:Int)*4096+(a:Int):=IntWalk.i64_in _ (by omega);have ac:IntKind.i64.wrap ((n:Int)*4096+(a:Int)+((jS p).size:Nat))=(n:Int)*4096+(a:Int)+((jS p).size:Nat):=IntWalk.i64_in _ (by omega);have ad:IntKind.i64.wrap ((n:Int)+1)=(n:Int)+1:=IntWalk.i64_in _ (by omega);have N:((4096*n+a:Nat):Int)=(n:Int)*4096+(a:Int):=by omega
 have M:((4096*n+a+(jS p).size:Nat):Int)=(n:Int)*4096+(a:Int)+((jS p).size:Nat):=by omega
 by_cases B:n=L.chunks
 ·rw[qV B];have J:=qQ fun(W:World) (j:TSt At c gl gd L D W)=>Rn api nap cap j ok q (jS p) (by omega)
  generalize ch D L (jS p)=r at*;generalize jS p=T at*;have t1:((n:Int)==(L.chunks:Int))=true:=by rw[B];simp
  have EN:=qQ N;have EE:=qQ M;have HN:=qQ B;by_cases l:r.1=0
  case neg =>
   rw[qV l];have t:((r.1:Int) != 0)=true:=(by simp;omega);generalize r.1=y at*;clear h ok q G C u z K O P I S l V X Y Z k5 B N M;go_enter func15,ntmps15;go_wp2_with fail;refine H.out.mono ?_;rintro e Q⟨rfl,b⟩;have i:=qQ b;clear b;go_wp2_with fail;refine(F.out _).mono ?_;rintro e U⟨rfl,f⟩;have k:=qQ (i.out.below api f);clear f;go_wp2_with fail;refine(j.out _ k.out).mono ?_;rintro e w3⟨rfl,d⟩;have c3:=d.cells.2.2.2.1;have v:=qQ d;clear d;go_wp2_with fail;refine(J.out _ v.out).mono ?_;rintro e w4⟨rfl,o⟩;have g:=qQ o;clear o;go_wp2;go_ret2;exact⟨rfl,g.out⟩
  rw[qZ (by simp[l])];rw[l]at J;clear h ok q G C u z K O P I S l V X Y Z k5 B N M;go_enter func15,ntmps15;go_wp2_with fail;refine H.out.mono ?_;rintro e Q⟨rfl,b⟩;have i:=qQ b;clear b;go_wp2_with fail;refine(F.out _).mono ?_;rintro e U⟨rfl,f⟩;have k:=qQ (i.out.below api f);clear f;go_wp2_with fail;refine(j.out _ k.out).mono ?_;rintro e w3⟨rfl,d⟩;have c3:=d.cells.2.2.2.1;have v:=qQ d;clear d;go_wp2_with fail;refine(J.out _ v.out).mono ?_;rintro e w4⟨rfl,o⟩;have g:=qQ o;clear o;go_wp2_with fail;refine(hFr.out _).mono ?_;rintro e w5⟨rfl,rfl⟩;have d3:=g.out.cells.2.2.2.1;have d4:=g.out.cells.2.2.2.2.1;have f3:=g.out.frozen 3;have f4:=g.out.frozen 4;go_wp2;have R:=(g.out.xz api (n+1)).xS api (4096*n+a+T.size);rw[EE.out,show((n+1:Nat):Int)=(n:Int)+1 from by omega]at R;go_ret2;exact⟨by rw[EN.out];rfl,R⟩
 ·rw[qZ B];have aa:=I rfl B;have J:=qQ fun(W:World) (j:TSt At c gl gd L D W)=>(show Calls prog 65 #[ptr gl,.string (jS p)] W (vV At c gl gd (err (onD (fun E=>gI E L (jS p)) D L).1) (onD (fun E=>gI E L (jS p)) D L).2.2 (onD (fun E=>gI E L (jS p)) D L).2.1) from Ru api nap j ok q aa (jS p) (by omega))
  generalize onD (fun E=>gI E L (jS p)) D L=r at*;generalize jS p=T at*;have t1:((n:Int)==(L.chunks:Int))=false:=by simp;omega
  have EN:=qQ N;have EE:=qQ M;by_cases l:r.1=0
  case neg =>
   rw[qV l];have t:((r.1:Int) != 0)=true:=(by simp;omega);generalize r.1=y at*;clear h ok q G C u z K O P I S l V X Y Z k5 B N M aa;go_enter func15,ntmps15;go_wp2_with fail;refine H.out.mono ?_;rintro e Q⟨rfl,b⟩;have i:=qQ b;clear b;go_wp2_with fail;refine(F.out _).mono ?_;rintro e U⟨rfl,f⟩;have k:=qQ (i.out.below api f);clear f;go_wp2_with fail;refine(j.out _ k.out).mono ?_;rintro e w3⟨rfl,d⟩;have c3:=d.cells.2.2.2.1;have v:=qQ d;clear d;go_wp2_with fail;refine(J.out _ v.out).mono ?_;rintro e w4⟨rfl,o⟩;have g:=qQ o;clear o;go_wp2;go_ret2;exact⟨rfl,g.out⟩
  rw[qZ (by simp[l])];rw[l]at J;clear h ok q G C u z K O P I S l V X Y Z k5 B N M aa;go_enter func15,ntmps15;go_wp2_with fail;refine H.out.mono ?_;rintro e Q⟨rfl,b⟩;have i:=qQ b;clear b;go_wp2_with fail;refine(F.out _).mono ?_;rintro e U⟨rfl,f⟩;have k:=qQ (i.out.below api f);clear f;go_wp2_with fail;refine(j.out _ k.out).mono ?_;rintro e w3⟨rfl,d⟩;have c3:=d.cells.2.2.2.1;have v:=qQ d;clear d;go_wp2_with fail;refine(J.out _ v.out).mono ?_;rintro e w4⟨rfl,o⟩;have g:=qQ o;clear o;go_wp2_with fail;refine(hFr.out _).mono ?_;rintro e w5⟨rfl,rfl⟩;have d3:=g.out.cells.2.2.2.1;have d4:=g.out.cells.2.2.2.2.1;have f3:=g.out.frozen 3;have f4:=g.out.frozen 4;go_wp2;have R:=(g.out.xz api (n+1)).xS api (4096*n+a+T.size);rw[EE.out,show((n+1:Nat):Int)=(n:Int)+1 from by omega]at R;go_ret2;exact⟨by rw[EN.out];rfl,R⟩
end
theorem rY: jj.size<=maxLen:=by decide
def fZ{α:Type}(a b c d e:α):Nat->α
 | 0=>a
 | 1=>b
 | 2=>c
 | 3=>d
 | _=>e
section
variable {At:jL}(api:jM At){c:Ctx}{gl gd:Nat}{L L':jN}{D D':jK}{w w':World}{B1 B2 B3:Nat}{nm s:Tw}
include api
theorem Ro(h:TSt At c gl gd L D w)(ok:WfP D)(b:B1∈c.G)(a:jY c.wG B1 30 #[ptr gl]):
  Calls prog 186 #[ptr B1] w (vV At c gl gd (err (jP D jj).1) L (jP D jj).2):=by
 have i:=qQ fun(W:World) (j:TSt At c gl gd L D W)=>j.qi api (fun F hF=>api.create jj hF ok.ok rY)
 have g:=qQ h;have n:w.cell? ⟨B1,0,none⟩=some (ptr gl):=(h.qa b a).cell 0;have c1:=h.cells.2.1;have m:=qQ b;have l:=qQ a;generalize jP D jj=k at*;have o:(⟨#[110,101,119]⟩:Tw)=jj:=rfl;clear h ok b a;go_enter func186,ntmps186;go_wp2_with fail;refine(i.out _ g.out).mono ?_;rintro e p⟨rfl,d⟩;have f:=qQ d;clear d;go_wp2;go_ret;exact⟨rfl,f.out⟩
theorem Rw(h:TSt At c gl gd L D w)(ok:WfP D)(f:B1∈c.G)(b:jY c.wG B1 30 #[ptr gl])(g:B3∈c.G)(d:jY c.wG B3 9 #[.string s])(u:s.size<=1100000):
  Calls prog 187 #[ptr B1,ptr B3] w (vV At c gl gd (err (j9 D jj s).1) L (j9 D jj s).2):=by
 have r:=qQ fun(W:World) (t:TSt At c gl gd L D W)=>t.qi api (fun F hF=>api.append jj s hF ok.ok (by omega) rY)
 have j:=qQ h;have p:w.cell? ⟨B1,0,none⟩=some (ptr gl):=(h.qa f b).cell 0;have c1:=h.cells.2.1;have n:=qQ f;have l:=qQ b;have q:w.cell? ⟨B3,0,none⟩=some (.string s):=(h.qa g d).cell 0;have o:=qQ g;have m:=qQ d;generalize j9 D jj s=v at*;have B:(⟨#[110,101,119]⟩:Tw)=jj:=rfl;clear h ok f b g d u;go_enter func187,ntmps187;go_wp2_with fail
 go_region_held3 (fun w'=>w'.cell? ⟨B1,0,none⟩=some (ptr gl)/\w'.cell? ⟨gl,1,none⟩=some (ptr gd)/\w'.cell? ⟨B3,0,none⟩=some (.string s)) (first | assumption | exact⟨by assumption,by assumption,by assumption⟩ | exact⟨p,c1,q⟩) (first
  | (go_at_call 131;refine(r.out _ (by first | exact j.out.drew api | exact j.out)).mono ?_;rintro e i⟨rfl,a⟩;have y:i.cell? ⟨gl,1,none⟩=some (ptr gd):=a.cells.2.1;have z:i.cell? ⟨B1,0,none⟩=some (ptr gl):=(a.qa n.out l.out).cell 0;have A:i.cell? ⟨B3,0,none⟩=some (.string s):=(a.qa o.out m.out).cell 0)
  | fail)
 all_goals
  have k:=qQ a;clear a;go_wp2;go_ret;exact⟨rfl,k.out⟩
theorem SQ(h:TSt At c gl gd L D w)(ok:WfP D)(b:B1∈c.G)(a:jY c.wG B1 30 #[ptr gl]):
  Calls prog 188 #[ptr B1] w (vV At c gl gd (err (jc D jj).1) L (jc D jj).2):=by
 have i:=qQ fun(W:World) (j:TSt At c gl gd L D W)=>j.qi api (fun F hF=>api.sync jj hF ok.ok rY)
 have g:=qQ h;have n:w.cell? ⟨B1,0,none⟩=some (ptr gl):=(h.qa b a).cell 0;have c1:=h.cells.2.1;have m:=qQ b;have l:=qQ a;generalize jc D jj=k at*;have o:(⟨#[110,101,119]⟩:Tw)=jj:=rfl;clear h ok b a;go_enter func188,ntmps188;go_wp2_with fail;refine(i.out _ g.out).mono ?_;rintro e p⟨rfl,d⟩;have f:=qQ d;clear d;go_wp2;go_ret;exact⟨rfl,f.out⟩
theorem SX(h:TSt At c gl gd L D w)(ok:WfP D)(f:B1∈c.G)(b:jY c.wG B1 30 #[ptr gl])(g:B2∈c.G)(d:jY c.wG B2 9 #[.string nm])(k:nm.size<=maxLen):
  Calls prog 189 #[ptr B1,ptr B2] w (vV At c gl gd (err (vD D jj nm).1) L (vD D jj nm).2):=by
 have t:=qQ fun(W:World) (u:TSt At c gl gd L D W)=>u.qi api (fun F hF=>api.rename jj nm hF ok.ok k rY)
 have j:=qQ h;have q:w.cell? ⟨B1,0,none⟩=some (ptr gl):=(h.qa f b).cell 0;have c1:=h.cells.2.1;have o:=qQ f;have m:=qQ b;have r:w.cell? ⟨B2,0,none⟩=some (.string nm):=(h.qa g d).cell 0;have p:=qQ g;have n:=qQ d;generalize vD D jj nm=v at*;have B:(⟨#[110,101,119]⟩:Tw)=jj:=rfl;clear h ok f b g d k;go_enter func189,ntmps189;go_wp2_with fail
 go_region_held3 (fun w'=>w'.cell? ⟨B1,0,none⟩=some (ptr gl)/\w'.cell? ⟨gl,1,none⟩=some (ptr gd)/\w'.cell? ⟨B2,0,none⟩=some (.string nm)) (first | assumption | exact⟨by assumption,by assumption,by assumption⟩ | exact⟨q,c1,r⟩) (first
  | (go_at_call 190;refine(t.out _ (by first | exact j.out.drew api | exact j.out)).mono ?_;rintro e i⟨rfl,a⟩;have y:i.cell? ⟨gl,1,none⟩=some (ptr gd):=a.cells.2.1;have z:i.cell? ⟨B1,0,none⟩=some (ptr gl):=(a.qa o.out m.out).cell 0;have A:i.cell? ⟨B2,0,none⟩=some (.string nm):=(a.qa p.out n.out).cell 0)
  | fail)
 all_goals
  have l:=qQ a;clear a;go_wp2;go_ret;exact⟨rfl,l.out⟩
theorem SZ{B4:Nat}(h:TSt At c gl gd L D w)(ok:WfP D)(j:B1∈c.G)(i:jY c.wG B1 30 #[ptr gl])(z:B2∈c.G)(u:jY c.wG B2 9 #[.string nm])(A:B3∈c.G)(v:jY c.wG B3 9 #[.string s])
  (B:B4∈c.G) (F:TypeId) (y:jY c.wG B4 F #[.func (.func 186) #[] #[ptr B1],.func (.func 187) #[] #[ptr B1,ptr B3],.func (.func 188) #[] #[ptr B1],.func (.func 189) #[] #[ptr B1,ptr B2]]) (r:nm.size<=maxLen) (t:s.size<=1100000):
  Calls prog 24 #[.slice (some ⟨B4,0,none⟩) 4 4] w (vV At c gl gd (err (l8 D nm s).1) L (l8 D nm s).2):=by
 have o:WfP (jP D jj).2:=lO ok jj;have p:WfP (j9 (jP D jj).2 jj s).2:=lP o jj s;have C:WfP (jc (j9 (jP D jj).2 jj s).2 jj).2:=mD p jj
 have H:=Zl (b:=B4) (n:=4) (by omega) (fZ (jP D jj).1 (j9 (jP D jj).2 jj s).1 (jc (j9 (jP D jj).2 jj s).2 jj).1 (vD (jc (j9 (jP D jj).2 jj s).2 jj).2 jj nm).1 0)
  (fun k W=>TSt At c gl gd L (fZ D (jP D jj).2 (j9 (jP D jj).2 jj s).2 (jc (j9 (jP D jj).2 jj s).2 jj).2 (vD (jc (j9 (jP D jj).2 jj s).2 jj).2 jj nm).2 k) W)
  (fZ 186 187 188 189 0) (fZ #[] #[] #[] #[] #[]) (fZ #[ptr B1] #[ptr B1,ptr B3] #[ptr B1] #[ptr B1,ptr B2] #[])
  (fun k f=>by
   match k,f with
   | 0,_=>exact enters_of func186 (by kernel_rfl) rfl
   | 1,_=>exact enters_of func187 (by kernel_rfl) rfl
   | 2,_=>exact enters_of func188 (by kernel_rfl) rfl
   | 3,_=>exact enters_of func189 (by kernel_rfl) rfl)
  (fun k W f a=>by
   have q:=(a.qa B y).cell k
   match k,f with
   | 0,_=>exact q
   | 1,_=>exact q
   | 2,_=>exact q
   | 3,_=>exact q)
  (fun k W f a=>by
   match k,f with
   | 0,_=>exact Ro api a ok j i
   | 1,_=>exact Rw api a o j i A v t
   | 2,_=>exact SQ api a p j i
   | 3,_=>exact SX api a C j i z u r) w h
 refine H.mono ?_;rintro e w'⟨rfl,a⟩;unfold l8;by_cases d:(jP D jj).1=0
 ·by_cases g:(j9 (jP D jj).2 jj s).1=0
  ·by_cases l:(jc (j9 (jP D jj).2 jj s).2 jj).1=0
   ·by_cases m:(vD (jc (j9 (jP D jj).2 jj s).2 jj).2 jj nm).1=0
    ·simp[stR,fZ,dt,d,g,l,m]at a ⊢;exact⟨by simp,a⟩
    ·simp[stR,fZ,dt,d,g,l,m]at a ⊢;exact⟨rfl,a⟩
   ·simp[stR,fZ,dt,d,g,l]at a ⊢;exact⟨rfl,a⟩
  ·simp[stR,fZ,dt,d,g]at a ⊢;exact⟨rfl,a⟩
 ·simp[stR,fZ,dt,d]at a ⊢;exact⟨rfl,a⟩
theorem SJ(h:TSt At c gl gd L D w)(ok:WfP D)(p:nm.size<=maxLen)(q:s.size<=1100000):
  Calls prog 146 #[ptr gl,.string nm,.string s] w (vV At c gl gd (err (l8 D nm s).1) L (l8 D nm s).2):=by
 have A:=qQ ok;have v:=qQ p;have y:=qQ q;have u:=qQ h;have k:=h.box api (.cells #[ptr gl] 30);have d:=jY.new w 30 #[ptr gl];have a:=h.keep.alloc (.cells #[ptr gl] 30);generalize G:w.heap.size=B1 at*;generalize J:w.alloc (.cells #[ptr gl] 30)=g at*;have l:=k.box api (.cells #[.string nm] 9);have f:=jY.new g 9 #[.string nm];have d:=d.alloc (.cells #[.string nm] 9);have a:=a.alloc (.cells #[.string nm] 9);generalize H:g.heap.size=B2 at*;generalize K:g.alloc (.cells #[.string nm] 9)=i at*;have m:=l.box api (.cells #[.string s] 9);have r:=jY.new i 9 #[.string s];have d:=d.alloc (.cells #[.string s] 9);have f:=f.alloc (.cells #[.string s] 9);have a:=a.alloc (.cells #[.string s] 9);generalize I:i.heap.size=B3 at*;generalize M:i.alloc (.cells #[.string s] 9)=B at*;have n:=m.box api (.cells #[.func (.func 186) #[] #[ptr B1],.func (.func 187) #[] #[ptr B1,ptr B3],.func (.func 188) #[] #[ptr B1],.func (.func 189) #[] #[ptr B1,ptr B2]] 78);have t:=jY.new B 78 #[.func (.func 186) #[] #[ptr B1],.func (.func 187) #[] #[ptr B1,ptr B3],.func (.func 188) #[] #[ptr B1],.func (.func 189) #[] #[ptr B1,ptr B2]];have a:=a.alloc (.cells #[.func (.func 186) #[] #[ptr B1],.func (.func 187) #[] #[ptr B1,ptr B3],.func (.func 188) #[] #[ptr B1],.func (.func 189) #[] #[ptr B1,ptr B2]] 78);have N:∀(j:Fn) (first cap:Array Value) (w:World),(Instr.makeFunc j first cap).run prog w = .ok (.func j first cap) w:=fun _ _ _ _=>rfl
 have R:=qQ (SZ api n A.out (B1:=B1) (B2:=B2) (B3:=B3) (by simp) (d.alloc _) (by simp) (f.alloc _) (by simp) (r.alloc _) (by simp) _ t v.out y.out);have z:=qQ a;clear h ok p q k l m n d f r t a;go_enter func146,ntmps146;go_wp2_with fail;refine R.out.mono ?_;rintro e O⟨rfl,o⟩;have C:=qQ (o.xN u.out z.out rfl rfl rfl rfl (fun b F=>by simp[F]));clear o;go_wp2;go_ret;exact⟨rfl,C.out⟩
end
end
section
open Go.RowKit
theorem SK(s:Tw):bs s.data.toList=s:=by
 apply ByteArray.ext;simp[bs]
theorem SV(s:Tw)(h:s.size=4):bs (be 4 (jR s))=s:=by
 have a:s.data.toList.length=4:=by rw[Array.length_toList];exact h
 unfold jR;rw[qd (by omega)];have e:=mG s.data.toList;rw[a]at e;rw[e,SK]
theorem Un(s:Tw)(h:s.size<=4):jR s<4294967296:=by
 unfold jR;have b:=fI (s.data.toList.take 8);have a:(s.data.toList.take 8).length<=4:=by rw[qS,Array.length_toList];have:s.data.size=s.size:=rfl;omega
 have d:256 ^ (s.data.toList.take 8).length<=256 ^ 4:=Nat.pow_le_pow_right (by decide) a;have:(256:Nat) ^ 4=4294967296:=by decide
 omega
theorem Zn(s:Tw)(i j k:Nat)(a:i<=j)(b:j<=k):s.extract i j++s.extract j k=s.extract i k:=by
 rw[ByteArray.extract_append_extract,Nat.min_eq_left a,Nat.max_eq_right b]
theorem SY{s:Tw}(h:4<=s.size):vt s=true↔s=vE (s.extract 0 (s.size-4)):=by
 have a:(s.extract 0 (s.size-4)).size=s.size-4:=by rw[qT];omega
 have d:s.extract 0 (s.size-4)++s.extract (s.size-4) s.size=s:=by rw[Zn _ _ _ _ (by omega) (by omega),ByteArray.extract_zero_size]
 unfold vt vE;rw[decide_eq_true_iff];constructor
 ·rintro ⟨_,e⟩;rw[<-e,d]
 ·intro e;refine⟨h, ?_⟩;have b:=congrArg (fun x=>x.extract (s.size-4) s.size) e;rw[b];have:=fj (s.extract 0 (s.size-4)) (bs (yQ (s.extract 0 (s.size-4)).data.toList)) ByteArray.empty (i:=s.size-4) (j:=s.size) a.symm (by rw[a,ji,nF];omega);rw[ByteArray.append_empty]at this;exact this
theorem SU(R:Tw)(n:Nat)(l:R.size=n+12)(o:jR (R.extract 0 4)=n):
  R=jS (R.extract 4 (4+n))↔(R.extract (n+8) (n+12)=R.extract 0 4/\vt (R.extract 0 (n+8))=true):=by
 have g:(R.extract 0 4).size=4:=by rw[qT];omega
 have t:(R.extract 4 (4+n)).size=n:=by rw[qT];omega
 have r:(R.extract 0 (n+8)).size=n+8:=by rw[qT];omega
 have d:=SV _ g;rw[o]at d;have m:R.extract 0 4++R.extract 4 (4+n)=R.extract 0 (n+4):=by rw[Zn _ _ _ _ (by omega) (by omega),Nat.add_comm 4 n]
 have q:(R.extract 0 (n+8)).extract 0 (n+4)=R.extract 0 (n+4):=by rw[ByteArray.extract_extract];congr 1<;>omega
 have hw:R.extract 0 (n+8)++R.extract (n+8) (n+12)=R:=by rw[Zn _ _ _ _ (by omega) (by omega),<-l,ByteArray.extract_zero_size]
 have p:jS (R.extract 4 (4+n))=vE (R.extract 0 (n+4))++R.extract 0 4:=by
  unfold jS;rw[t,d,m]
 have f:=SY (s:=R.extract 0 (n+8)) (by omega);rw[r,show n+8-4=n+4 by omega,q]at f;rw[f,p];have b:(vE (R.extract 0 (n+4))).size=n+8:=by rw[tZ,qT];omega
 constructor
 ·intro e;constructor
  ·have a:=congrArg (fun x=>x.extract (n+8) (n+12)) e;rw[a];have:=fj (vE (R.extract 0 (n+4))) (R.extract 0 4) ByteArray.empty (i:=n+8) (j:=n+12) b.symm (by rw[b,g]);rw[ByteArray.append_empty]at this;exact this
  ·have a:=congrArg (fun x=>x.extract 0 (n+8)) e;rw[a];have:=fj ByteArray.empty (vE (R.extract 0 (n+4))) (R.extract 0 4) (i:=0) (j:=n+8) rfl (by rw[b];simp);rw[ByteArray.empty_append]at this;exact this
 ·rintro ⟨k,a⟩;rw[<-k,<-a,hw]
theorem SG(R:Tw)(n:Nat)(d:R.size=n+12)(h:vt (R.extract 0 (n+8))=true):(opA (R.extract 0 (n+8))).extract 4 (opA (R.extract 0 (n+8))).size=R.extract 4 (4+n):=by
 have b:(R.extract 0 (n+8)).size=n+8:=by rw[qT];omega
 have a:opA (R.extract 0 (n+8))=R.extract 0 (n+4):=by
  unfold opA;rw[qV h,b,ByteArray.extract_extract];congr 1<;>omega
 rw[a,ByteArray.extract_extract,qT];congr 1<;>omega
theorem SW(R:Tw)(n:Nat)(b:R.size=n+12)(h:vt (R.extract 0 (n+8))=true):(opA (R.extract 0 (n+8))).size=n+4:=by
 have a:(R.extract 0 (n+8)).size=n+8:=by rw[qT];omega
 unfold opA;rw[qV h,a,qT];omega
theorem SA(p:Tw)(w:World)(a:p.size<=maxLen)(h:2000<p.size):
  Calls prog 62 #[.string p] w fun e w'=>e = .returned (.tuple #[.string ByteArray.empty,.int .i64 3])/\Below w.heap.size w w':=by
 unfold maxLen at a;go_enter func62,ntmps62;go_wp2;go_ret2;exact⟨rfl,Below.refl _ _⟩
theorem SB(p:Tw)(w:World)(h:p.size<=2000):
  Calls prog 62 #[.string p] w fun e w'=>e = .returned (.tuple #[.string (jS p),.int .i64 0])/\Below w.heap.size w w':=by
 have a:=qQ fun W=>gC p.size 4 W (by omega) (by omega) (by omega)
 have j:(bs (be 4 p.size)++p).size=p.size+4:=by rw[qy,ji,jq];omega
 have d:(bs (be 4 p.size)).size=4:=by rw[ji,jq]
 have k:∀w:World,(Op.stringOp .add (bs (be 4 p.size)) p).run prog w = .ok (.string (bs (be 4 p.size)++p)) w:=fun w=>run_string_add_sum (P:=prog) (w:=w) _ _ (by omega)
 have b:=qQ fun W=>nS (bs (be 4 p.size)++p) W (by unfold maxLen;omega)
 have i:=tZ (bs (be 4 p.size)++p);have l:∀w:World,(Op.stringOp .add (vE (bs (be 4 p.size)++p)) (bs (be 4 p.size))).run prog w = .ok (.string (jS p)) w:=fun w=>run_string_add_sum (P:=prog) (w:=w) _ _ (by omega)
 generalize jS p=R at*;generalize vE (bs (be 4 p.size)++p)=S at*;generalize bs (be 4 p.size)++p=T at*;generalize bs (be 4 p.size)=N at*;clear j d i;go_enter func62,ntmps62;go_wp2_with fail;refine(a.out _).mono ?_;rintro e m⟨rfl,f⟩;go_wp2_with fail;refine(b.out _).mono ?_;rintro e n⟨rfl,g⟩;go_wp2;go_ret2;exact⟨rfl,bj f g⟩
theorem SC(p:Tw)(w:World)(a:p.size<=maxLen):
  Calls prog 62 #[.string p] w fun e w'=>e = .returned (.tuple #[.string (prS p),.int .i64 (prE p)])/\Below w.heap.size w w':=by
 unfold prS prE;by_cases h:2000<p.size
 ·rw[qV h,qV h];exact SA p w a h
 ·rw[qZ h,qZ h];exact SB p w (by omega)
theorem tc(s:Tw)(a:Int)(w:World)(f:s.size<=maxLen)(g:(Lit.int .i64 a).wf=true):
  Calls prog 149 #[.string s,.int .i64 a] w fun e w'=>e = .returned (.bool (decide (0<=a/\a<=s.size)))/\w=w':=by
 have i:=bounds_i64 g;unfold maxLen at f;by_cases b:0<=a
 ·by_cases d:a<=s.size
  ·rw[qA ⟨b,d⟩];go_enter func149,ntmps149;go_wp2;go_ret;exact⟨rfl,rfl⟩
  ·rw[qW (fun h=>d h.2)];go_enter func149,ntmps149;go_wp2;go_ret;exact⟨rfl,rfl⟩
 ·rw[qW (fun h=>b h.1)];go_enter func149,ntmps149;go_wp2;go_ret;exact⟨rfl,rfl⟩
theorem SD(s:Tw)(w:World)(b:s.size<=maxLen)(f:4<=s.size):
  Calls prog 191 #[.string s] w fun e w'=>e = .returned (.tuple #[.int .i64 (if 2000<jR (s.extract 0 4) then 0 else(jR (s.extract 0 4):Nat)),.bool (decide (jR (s.extract 0 4)<=2000))])/\w=w':=by
 have a:=qQ fun W=>cA (s.extract 0 4) W (by unfold maxLen at*;rw[qT];omega)
 have g:=Un (s.extract 0 4) (by rw[qT];omega);generalize jR (s.extract 0 4)=n at*;unfold maxLen at b;by_cases h:2000<n
 ·rw[qV h,qW (by omega)];go_enter func191,ntmps191;go_wp2_with fail;refine(a.out _).mono ?_;rintro e d⟨rfl,rfl⟩;go_wp2;go_ret2;exact⟨rfl,rfl⟩
 ·rw[qZ h,qA (by omega)];go_enter func191,ntmps191;go_wp2_with fail;refine(a.out _).mono ?_;rintro e d⟨rfl,rfl⟩;go_wp2;go_ret2;exact⟨rfl,rfl⟩
def ct(s:Tw):Bool:=decide (12<=s.size/\jR (s.extract 0 4)<=2000/\jR (s.extract 0 4)+12<=s.size)
def lu(s:Tw):Tw:=if ct s=true then s.extract 0 (jR (s.extract 0 4)+12) else ByteArray.empty
theorem SE(s:Tw)(w:World)(d:s.size<=maxLen):
  Calls prog 150 #[.string s] w fun e w'=>e = .returned (.tuple #[.string (lu s),.bool (ct s)])/\w=w':=by
 unfold lu;by_cases f:12<=s.size
 ·have a:=qQ fun W=>SD s W d (by omega)
  have k:=Un (s.extract 0 4) (by rw[qT];omega);have b:ct s=decide (jR (s.extract 0 4)<=2000/\jR (s.extract 0 4)+12<=s.size):=by unfold ct;simp[f]
  rw[b];clear b;generalize jR (s.extract 0 4)=n at*;unfold maxLen at d;by_cases h:2000<n
  ·rw[qW (by omega),qZ (by decide)];rw[qW (by omega)]at a;go_enter func150,ntmps150;go_wp2_with fail;refine(a.out _).mono ?_;rintro e i⟨rfl,rfl⟩;go_wp2;go_ret2;exact⟨rfl,rfl⟩
  ·rw[qA (show n<=2000 by omega),qZ h]at a;by_cases g:n+12<=s.size
   ·rw[qA ⟨by omega,g⟩,qV rfl];have l:((n:Int)+12).toNat=n+12:=(by omega);have j:¬(s.size:Int)-12<(n:Int):=(by omega);go_enter func150,ntmps150;go_wp2_with fail;refine(a.out _).mono ?_;rintro e i⟨rfl,rfl⟩;go_wp2;go_ret2;exact⟨rfl,rfl⟩
   ·rw[qW (fun h=>g h.2),qZ (by decide)];have j:(s.size:Int)-12<(n:Int):=(by omega);go_enter func150,ntmps150;go_wp2_with fail;refine(a.out _).mono ?_;rintro e i⟨rfl,rfl⟩;go_wp2;go_ret2;exact⟨rfl,rfl⟩
 ·have b:ct s=false:=by unfold ct;simp[f]
  rw[b,qZ (by decide)];unfold maxLen at d;go_enter func150,ntmps150;go_wp2;go_ret2;exact⟨rfl,rfl⟩
theorem SF(s:Tw)(a:Int)(w:World)(d:s.size<=maxLen)(f:(Lit.int .i64 a).wf=true)(h:¬(0<=a/\a<=s.size)):
  Calls prog 85 #[.string s,.int .i64 a] w (pf w):=by
 have b:=qQ fun W=>tc s a W d f
 rw[qW h]at b;go_enter func85,ntmps85;go_wp2_with fail;refine(b.out _).mono ?_;rintro e g⟨rfl,rfl⟩;go_wp2;go_ret3;exact⟨rfl,Below.refl _ _⟩
theorem Up(s:Tw)(k:Nat)(w:World)(g:s.size<=maxLen)(j:k<=s.size)
  (b:∀w:World,Calls prog 149 #[.string s,.int .i64 (k:Nat)] w fun e w'=>e = .returned (.bool true)/\w=w')
  (a:∀w:World,Calls prog 150 #[.string (s.extract k s.size)] w fun e w'=>e = .returned (.tuple #[.string ByteArray.empty,.bool false])/\w=w'):
  Calls prog 85 #[.string s,.int .i64 (k:Nat)] w (pf w):=by
 have d:=qQ b;have f:=qQ a;clear b a;unfold maxLen at g;go_enter func85,ntmps85;go_wp2_with fail;refine(d.out _).mono ?_;rintro e i⟨rfl,rfl⟩;go_wp2_with fail;refine(f.out _).mono ?_;rintro e i⟨rfl,rfl⟩;go_wp2;go_ret3;exact⟨rfl,Below.refl _ _⟩
theorem SH(s:Tw)(k:Nat)(w:World)(i:s.size<=maxLen)(n:k<=s.size)(R:Tw)(l:12<=R.size)(m:R.size<=2012)
  (d:∀w:World,Calls prog 149 #[.string s,.int .i64 (k:Nat)] w fun e w'=>e = .returned (.bool true)/\w=w')
  (b:∀w:World,Calls prog 150 #[.string (s.extract k s.size)] w fun e w'=>e = .returned (.tuple #[.string R,.bool true])/\w=w')
  (a:¬R.extract (R.size-4) R.size=R.extract 0 4):
  Calls prog 85 #[.string s,.int .i64 (k:Nat)] w (pf w):=by
 have f:=qQ d;have g:=qQ b;have o:=OQ a;have p:=X6 a;have q:((R.size:Int)-4).toNat=R.size-4:=by omega
 have r:(0:Int)<=(R.size:Int)-4:=by omega
 have t:(R.size:Int)-4<=R.size:=by omega
 have u:(4:Int)<=(R.size:Int):=by omega
 clear d b a;unfold maxLen at i;go_enter func85,ntmps85;go_wp2_with fail;refine(f.out _).mono ?_;rintro e j⟨rfl,rfl⟩;go_wp2_with fail;refine(g.out _).mono ?_;rintro e j⟨rfl,rfl⟩;go_wp2_with fail;go_region
 go_wp2;go_ret3;exact⟨rfl,vo (Below.refl _ _) _⟩
theorem SI(s:Tw)(k:Nat)(w:World)(p:s.size<=maxLen)(u:k<=s.size)(R T:Tw)(q:12<=R.size)(r:R.size<=2012)(t:k+R.size<=s.size)
  (f:∀w:World,Calls prog 149 #[.string s,.int .i64 (k:Nat)] w fun e w'=>e = .returned (.bool true)/\w=w')
  (a:∀w:World,Calls prog 150 #[.string (s.extract k s.size)] w fun e w'=>e = .returned (.tuple #[.string R,.bool true])/\w=w')
  (g:R.extract (R.size-4) R.size=R.extract 0 4)
  (d:∀w:World,Calls prog 151 #[.string (R.extract 0 (R.size-4))] w fun e w'=>e = .returned (.tuple #[.string T,.bool false])/\Below w.heap.size w w'):
  Calls prog 85 #[.string s,.int .i64 (k:Nat)] w (pf w):=by
 have l:=qQ f;have m:=qQ a;have n:=qQ d;have i:=YR g;have v:(!((R.extract (R.size-4) R.size).toList==(R.extract 0 4).toList))=false:=by rw[i];rfl
 have y:((R.extract (R.size-4) R.size).toList != (R.extract 0 4).toList)=false:=by simpa using i
 have z:((R.size:Int)-4).toNat=R.size-4:=by omega
 have A:(0:Int)<=(R.size:Int)-4:=by omega
 have B:(R.size:Int)-4<=R.size:=by omega
 have C:(4:Int)<=(R.size:Int):=by omega
 clear f a g d;unfold maxLen at p;go_enter func85,ntmps85;go_wp2_with fail;refine(l.out _).mono ?_;rintro e j⟨rfl,rfl⟩;go_wp2_with fail;refine(m.out _).mono ?_;rintro e j⟨rfl,rfl⟩;go_wp2_with fail;go_region
 go_wp2_with fail;refine(n.out _).mono ?_;rintro e j⟨rfl,b⟩;have o:=bj (vo (Below.refl w.heap.size w) _) b;clear b;go_wp2;go_ret3;exact⟨rfl,o⟩
theorem SL(s:Tw)(k:Nat)(w:World)(p:s.size<=maxLen)(y:k<=s.size)(R T:Tw)(q:12<=R.size)(r:R.size<=2012)(t:k+R.size<=s.size)
  (f:∀w:World,Calls prog 149 #[.string s,.int .i64 (k:Nat)] w fun e w'=>e = .returned (.bool true)/\w=w')
  (a:∀w:World,Calls prog 150 #[.string (s.extract k s.size)] w fun e w'=>e = .returned (.tuple #[.string R,.bool true])/\w=w')
  (g:R.extract (R.size-4) R.size=R.extract 0 4)
  (d:∀w:World,Calls prog 151 #[.string (R.extract 0 (R.size-4))] w fun e w'=>e = .returned (.tuple #[.string T,.bool true])/\Below w.heap.size w w')
  (u:4<=T.size) (v:T.size<=3000):
  Calls prog 85 #[.string s,.int .i64 (k:Nat)] w fun e w'=>e = .returned (.tuple #[.string (T.extract 4 T.size),.int .i64 ((k:Int)+(R.size:Int)),.bool true])/\Below w.heap.size w w':=by
 have l:=qQ f;have m:=qQ a;have n:=qQ d;have i:=YR g;have z:(!((R.extract (R.size-4) R.size).toList==(R.extract 0 4).toList))=false:=by rw[i];rfl
 have A:((R.extract (R.size-4) R.size).toList != (R.extract 0 4).toList)=false:=by simpa using i
 have B:((R.size:Int)-4).toNat=R.size-4:=by omega
 have C:(0:Int)<=(R.size:Int)-4:=by omega
 have F:(R.size:Int)-4<=R.size:=by omega
 have G:(4:Int)<=(R.size:Int):=by omega
 clear f a g d;unfold maxLen at p;go_enter func85,ntmps85;go_wp2_with fail;refine(l.out _).mono ?_;rintro e j⟨rfl,rfl⟩;go_wp2_with fail;refine(m.out _).mono ?_;rintro e j⟨rfl,rfl⟩;go_wp2_with fail;go_region
 go_wp2_with fail;refine(n.out _).mono ?_;rintro e j⟨rfl,b⟩;have o:=bj (vo (Below.refl w.heap.size w) _) b;clear b;go_wp2;go_ret3;exact⟨rfl,o⟩
theorem Ur(s:Tw)(k m i j:Nat)(h:j<=m):(s.extract k (k+m)).extract i j=s.extract (k+i) (k+j):=by
 rw[ByteArray.extract_extract,Nat.min_eq_left (by omega)]
theorem Zp(s:Tw)(a:Int)(w:World)(l:s.size<=maxLen)(J:(Lit.int .i64 a).wf=true):
  Calls prog 85 #[.string s,.int .i64 a] w (l7 s a w):=by
 by_cases h:¬(0<=a/\a<=s.size)
 ·refine(SF s a w l J h).mono fun e w' b=>ph ?_ b
  unfold bC;by_cases P:0<=a
  ·rw[nc (by omega),Bool.and_false]
  ·rw[qW P,Bool.false_and]
 ·obtain⟨k,rfl⟩:∃k:Nat,a=k:=⟨a.toNat,by omega⟩
  have p:k<=s.size:=by omega
  have r:∀w:World,Calls prog 149 #[.string s,.int .i64 (k:Nat)] w fun e w'=>e = .returned (.bool true)/\w=w':=fun W=>by
   have:=tc s (k:Nat) W l J;rw[qA (by omega)]at this;exact this
  have d:=fun W=>SE (s.extract k s.size) W (by unfold maxLen at*;rw[qT];omega)
  have z:(s.extract k s.size).size=s.size-k:=by rw[qT];omega
  have A:∀i j,j<=s.size-k->(s.extract k s.size).extract i j=s.extract (k+i) (k+j):=fun i j X=>by
   rw[ByteArray.extract_extract];congr 1;omega
  by_cases Q:k+12<=s.size
  ·have y:jR ((s.extract k s.size).extract 0 4)=kz s k:=(by rw[A _ _ (by omega)];rfl);by_cases B:kz s k<=2000/\k+kz s k+12<=s.size
   ·have f:ct (s.extract k s.size)=true:=by
     unfold ct;rw[y,z];exact qA ⟨by omega,B.1,by omega⟩
    have o:lu (s.extract k s.size)=s.extract k (k+kz s k+12):=by
     unfold lu;rw[qV f,y,A _ _ (by omega),Nat.add_zero,Nat.add_assoc]
    rw[f,o]at d;have m:(s.extract k (k+kz s k+12)).size=kz s k+12:=by rw[qT];omega
    have O:jR ((s.extract k (k+kz s k+12)).extract 0 4)=kz s k:=by
     rw[Nat.add_assoc,Ur _ _ _ _ _ (by omega),Nat.add_zero];rfl
    have u:=SU _ _ m O
    have F:(s.extract k (k+kz s k+12)).extract 4 (4+kz s k)=s.extract (k+4) (k+4+kz s k):=by
     rw[Nat.add_assoc,Ur _ _ _ _ _ (by omega),<-Nat.add_assoc]
    rw[F]at u;have G:=SG _ _ m;rw[F]at G;have H:=SW _ _ m;have v:=fun W=>Xq ((s.extract k (k+kz s k+12)).extract 0 (kz s k+8)) W (by unfold maxLen at*;rw[qT];omega)
    have S:=pd (s:=s) (k:=k);obtain⟨T,U⟩:=B;generalize C:s.extract k (k+kz s k+12)=R at*;have n:R.size-4=kz s k+8:=(by omega);by_cases t:R.extract (kz s k+8) (kz s k+12)=R.extract 0 4
    ·by_cases g:vt (R.extract 0 (kz s k+8))=true
     ·obtain⟨K,M,N⟩:=Xw (S.2 ⟨Q,T,U,u.2 ⟨t,g⟩⟩);rw[g]at v;unfold l7;rw[K,M,N];have I:=SL s k w l p R _ (by omega) (by omega) (by omega) r d (by rw[n,m];exact t) (by rw[n];exact v) (by rw[H g];omega) (by rw[H g];omega);rw[G g,m,show(k:Int)+((kz s k+12:Nat):Int)=((k+kz s k+12:Nat):Int) by omega]at I;exact I
     ·have V:vt (R.extract 0 (kz s k+8))=false:=(by simpa using g);rw[V]at v;refine(SI s k w l p R _ (by omega) (by omega) (by omega) r d (by rw[n,m];exact t) (by rw[n];exact v)).mono fun e w' b=>ph ?_ b
      rw[mM];exact nc (fun q=>g (u.1 (C.symm.trans q.2.2.2)).2)
    ·refine(SH s k w l p R (by omega) (by omega) r d (by rw[n,m];exact t)).mono fun e w' b=>ph ?_ b
     rw[mM];exact nc (fun q=>t (u.1 (C.symm.trans q.2.2.2)).1)
   ·have f:ct (s.extract k s.size)=false:=by
     unfold ct;rw[y,z];exact qW (by omega)
    have o:lu (s.extract k s.size)=ByteArray.empty:=(by unfold lu;rw[f];rfl);rw[f,o]at d;refine(Up s k w l p r d).mono fun e w' b=>ph ?_ b
    rw[mM];exact nc (by omega)
  ·have f:ct (s.extract k s.size)=false:=by
    unfold ct;rw[z];exact qW (by omega)
   have o:lu (s.extract k s.size)=ByteArray.empty:=(by unfold lu;rw[f];rfl);rw[f,o]at d;refine(Up s k w l p r d).mono fun e w' b=>ph ?_ b
   rw[mM];exact nc (by omega)
def vj(a:Tw):List Tw->Tw
 | []=>a
 | p::l=>vj (a++jS p) l
def kR: List Tw->Nat
 | []=>0
 | p::l=>p.size+12+kR l
def yD(k:Nat):List Tw->List (Nat × Tw)
 | []=>[]
 | p::l=>(k,p)::yD (k+(p.size+12)) l
def bF(n:Nat)(l:List Tw):Tw:=vj (hdS (n:Nat)) l
theorem Zr: ∀(l:List Tw) (a:Tw),(vj a l).size=a.size+kR l
 | [],a=>rfl
 | p::l,a=>by
   show(vj (a++jS p) l).size=_;rw[Zr l,qy,bB];show _=a.size+(p.size+12+kR l)
   omega
theorem Us: ∀(l:List Tw) (a p:Tw),vj a (l++[p])=vj a l++jS p
 | [],a,p=>rfl
 | x::l,a,p=>Us l (a++jS x) p
theorem td: ∀(l:List Tw) (p:Tw),kR (l++[p])=kR l+(p.size+12)
 | [],p=>by show p.size+12+0=0+_;omega
 | x::l,p=>by
   show x.size+12+kR (l++[p])=x.size+12+kR l+_;rw[td l p];omega
theorem Zs: ∀(l:List Tw) (k:Nat) (p:Tw),yD k (l++[p])=yD k l++[(k+kR l,p)]
 | [],k,p=>by show [(k,p)]=[(k+0,p)];rfl
 | x::l,k,p=>by
   show(k,x)::yD (k+(x.size+12)) (l++[p])=(k,x)::(yD (k+(x.size+12)) l++[(k+(x.size+12+kR l),p)]);rw[Zs l,show k+(x.size+12)+kR l=k+(x.size+12+kR l) by omega]
theorem rU: ∀(l:List Tw) (a:Tw),vj a l=a++vj ByteArray.empty l
 | [],a=>by show a=a++ByteArray.empty;simp
 | p::l,a=>by
   show vj (a++jS p) l=a++vj (ByteArray.empty++jS p) l;rw[rU l (a++jS p),rU l (ByteArray.empty++jS p),ByteArray.empty_append,ByteArray.append_assoc]
theorem Ut: ∀(l:List Tw) (a:Tw),(∀p∈l,p.size<=2000)->whL (vj a l) ((vj a l).size+1) a.size=(yD a.size l).map (fun x=>(x.1:Int))/\whE (vj a l) ((vj a l).size+1) a.size=(vj a l).size
 | [],a,_=>by
   obtain⟨b,d⟩:=YP (s:=a) (k:=a.size) (nc (by omega));exact⟨b,d⟩
 | p::l,a,h=>by
   have j:=h p qD;obtain⟨f,_,g⟩:=YT a p (vj ByteArray.empty l) j;have n:vj a (p::l)=a++jS p++vj ByteArray.empty l:=rU l (a++jS p);have i:(a++jS p).size=a.size+(p.size+12):=(by rw[qy,bB]);rw[<-n]at f g;obtain⟨b,d⟩:=YO (s:=vj a (p::l)) (k:=a.size) (by rw[Zr];omega) f;obtain⟨r,o⟩:=Ut l (a++jS p) (fun q m=>h q (qE _ m));rw[b,d,g,<-i];refine⟨?_,o⟩;show _=(a.size:Int)::(yD (a.size+(p.size+12)) l).map _;rw[<-i];congr 1
theorem Zt: ∀(l:List Tw) (a:Tw),(∀p∈l,p.size<=2000)->∀x∈yD a.size l,uF (vj a l) x.1=true/\bz (vj a l) (x.1:Nat)=x.2/\vH (vj a l) (x.1:Nat)=x.1+(x.2.size+12)/\a.size<=x.1/\x.1+(x.2.size+12)<=(vj a l).size/\(vj a l).extract x.1 (x.1+(x.2.size+12))=jS x.2/\x.2.size<=2000
 | [],a,_,x,hx=>by cases hx
 | p::l,a,h,x,hx=>by
   have hp:=h p qD;have j:vj a (p::l)=a++jS p++vj ByteArray.empty l:=rU l (a++jS p);have b:(a++jS p).size=a.size+(p.size+12):=(by rw[qy,bB]);rcases qL.1 hx with rfl|hx
   ·obtain⟨d,f,g⟩:=YT a p (vj ByteArray.empty l) hp;rw[j];exact⟨d,f,g,qK _,by rw[qy,b];show a.size+(p.size+12)<=_;omega,fj a (jS p) _ rfl (by rw[bB]),hp⟩
   ·rw[<-b]at hx;obtain⟨k,m,n,u,o,r,t⟩:=Zt l (a++jS p) (fun q i=>h q (qE _ i)) x hx;exact⟨k,m,n,by omega,o,r,t⟩
theorem tf{n:Nat}(h:n<=199)(l:List Tw):(bF n l).size=12+kR l:=by unfold bF;rw[Zr,mN h]
theorem Ua{n:Nat}(h:n<=199)(l:List Tw)(o:∀p∈l,p.size<=2000):scL (bF n l) (n:Nat)=(yD 12 l).map (fun x=>(x.1:Int))/\scE (bF n l) (n:Nat)=(bF n l).size/\bD (bF n l) (n:Nat)=true:=by
 have q:=tf h l;have d:=mN h
 have m:scK (bF n l) (n:Nat)=2:=by
  refine Y6 (by omega) ?_ (by omega);rw[show min (bF n l).size 12=12 by omega];unfold bF;rw[rU];have b:=fj ByteArray.empty (hdS (n:Nat)) (vj ByteArray.empty l) (i:=0) (j:=12) rfl (by rw[d];rfl);have a:=fj ByteArray.empty (hdS (n:Nat)) ByteArray.empty (i:=0) (j:=12) rfl (by rw[d];rfl);rw[ByteArray.empty_append]at b a;rw[ByteArray.append_empty]at a;rw[b,a]
 obtain⟨b,a,k⟩:=Y5 m;obtain⟨f,g⟩:=Ut l (hdS (n:Nat)) o;rw[d]at f g;have c:(0:Int)<=12/\(12:Int)<=(bF n l).size:=by omega
 rw[b,a];refine⟨?_, ?_,k⟩
 ·unfold wlL;rw[qV c];exact f
 ·unfold wlE;rw[qV c];exact g
theorem SM(b:Nat)(w:World):(callFunc 123 #[.float .f64 b]).run prog w = .ok (.value (.int .u64 (b:Nat))) w:=by
 rw[run_callFunc_extern func123 (by kernel_rfl) (by kernel_rfl) (by kernel_rfl) (e:=Extern.MathFloatBits.float64bits) (by kernel_rfl)];rfl
theorem th(t d:Tw)(b:Nat)(w:World)(g:t.size<=maxLen)(f:d.size<=maxLen):
  Calls prog 122 #[.agg #[.string t,.string d,.float .f64 b]] w fun e w'=>e = .returned (.int .i64 (chk t d))/\Below w.heap.size w w':=by
 unfold maxLen at g f;by_cases a:t.size=0
 ·rw[MP a];go_enter func122,ntmps122;go_wp2;go_ret;exact⟨rfl,(Below.refl _ _).alloc (qK _) _⟩
 by_cases i:16<t.size
 ·rw[VS a (by omega)];go_enter func122,ntmps122;go_wp2;go_ret;exact⟨rfl,(Below.refl _ _).alloc (qK _) _⟩
 by_cases j:200<d.size
 ·rw[VS a (by omega)];go_enter func122,ntmps122;go_wp2;go_ret;exact⟨rfl,(Below.refl _ _).alloc (qK _) _⟩
 ·rw[MR a (by omega)];go_enter func122,ntmps122;go_wp2;go_ret;exact⟨rfl,(Below.refl _ _).alloc (qK _) _⟩
theorem yE{a W:World}{p:Addr}{v:Value}(h:Below a.heap.size a W)(d:p.block<a.heap.size)(b:a.cell? p=some v):W.cell? p=some v:=(h.cell d).trans b
theorem Ue(s:Tw)(f:s.size<=200)(a W:World)(h:Below a.heap.size a W):
  Calls prog 57 #[.string s] W fun e w'=>e = .returned (.string (bs (be 2 s.size)++s))/\Below a.heap.size a w' :=
 (VR s W (by omega)).mono fun e w' ⟨d,b⟩=>⟨d,bj h b⟩
theorem SN(b:Nat)(d:b<18446744073709551616)(a W:World)(h:Below a.heap.size a W):
  Calls prog 58 #[.int .u64 (b:Nat),.int .i64 8] W fun e w'=>e = .returned (.string (bs (be 8 b)))/\Below a.heap.size a w' :=
 (gC b 8 W (by omega) (by omega) d).mono fun e w' ⟨f,d⟩=>⟨f,bj h d⟩
theorem SO(t d:Tw)(b:Nat)(w:World)(g:b<18446744073709551616)(h:chk t d=0):
  Calls prog 59 #[.agg #[.string t,.string d,.float .f64 b]] w fun e w'=>e = .returned (.string (evB t d b))/\Below w.heap.size w w':=by
 have z:=pO.1 h;have j:=fun W=>th t d b W (by unfold maxLen;omega) (by unfold maxLen;omega)
 rw[h]at j;have r:=qQ j;have n:=qQ (Ue t (by omega));have k:=qQ (Ue d (by omega));have l:=qQ (SN b g);have J:=fun w=>SM b w
 have p:(bs (be 2 t.size)++t).size=t.size+2:=by rw[qy,ji,jq];omega
 have q:(bs (be 2 d.size)++d).size=d.size+2:=by rw[qy,ji,jq];omega
 have H:(bs (be 8 b)).size=8:=by rw[ji,jq]
 have e:evB t d b=bs (be 2 t.size)++t++(bs (be 2 d.size)++d)++bs (be 8 b):=rfl;have K:∀w:World,(Op.stringOp .add (bs (be 2 t.size)++t) (bs (be 2 d.size)++d)).run prog w = .ok (.string (bs (be 2 t.size)++t++(bs (be 2 d.size)++d))) w:=fun w=>run_string_add_sum (P:=prog) (w:=w) _ _ (by omega)
 have I:(bs (be 2 t.size)++t++(bs (be 2 d.size)++d)).size=t.size+2+(d.size+2):=by rw[qy,p,q]
 have M:∀w:World,(Op.stringOp .add (bs (be 2 t.size)++t++(bs (be 2 d.size)++d)) (bs (be 8 b))).run prog w = .ok (.string (evB t d b)) w:=fun w=>run_string_add_sum (P:=prog) (w:=w) _ _ (by omega)
 generalize evB t d b=B at*;generalize bs (be 2 t.size)++t++(bs (be 2 d.size)++d)=X at*;generalize bs (be 2 t.size)++t=T at*;generalize bs (be 2 d.size)++d=D at*;generalize bs (be 8 b)=Q at*;clear p q H I e j h z g;go_enter func59,ntmps59;go_wp2_with fail;refine(r.out _).mono ?_;rintro e a⟨rfl,f⟩;have A:=f.size;rw[World.size_alloc]at A;have C:a.cell? ⟨w.heap.size,0,none⟩=some (.string t):=yE f (by simp) (World.cell?_alloc_at _ _ _ _ rfl);have F:a.cell? ⟨w.heap.size,1,none⟩=some (.string d):=yE f (by simp) (World.cell?_alloc_at _ _ _ _ rfl);have G:a.cell? ⟨w.heap.size,2,none⟩=some (.float .f64 b):=yE f (by simp) (World.cell?_alloc_at _ _ _ _ rfl);have o:Below w.heap.size w a:=((Below.refl _ _).alloc (qK _) _).trans (f.mono (by simp))
 have m:Hid (∀W,Below a.heap.size a W->Below a.heap.size a W/\W.cell? ⟨w.heap.size,0,none⟩=some (.string t)/\W.cell? ⟨w.heap.size,1,none⟩=some (.string d)/\W.cell? ⟨w.heap.size,2,none⟩=some (.float .f64 b)) :=
  qQ fun W i=>⟨i,yE i (show w.heap.size<_ by omega) C,yE i (show w.heap.size<_ by omega) F,yE i (show w.heap.size<_ by omega) G⟩
 have y:=qQ fun W (h:Below a.heap.size a W/\W.cell? ⟨w.heap.size,0,none⟩=some (.string t)/\W.cell? ⟨w.heap.size,1,none⟩=some (.string d)/\W.cell? ⟨w.heap.size,2,none⟩=some (.float .f64 b))=>n.out a W h.1
 have u:=qQ fun W (h:Below a.heap.size a W/\W.cell? ⟨w.heap.size,0,none⟩=some (.string t)/\W.cell? ⟨w.heap.size,1,none⟩=some (.string d)/\W.cell? ⟨w.heap.size,2,none⟩=some (.float .f64 b))=>k.out a W h.1
 have v:=qQ fun W (h:Below a.heap.size a W/\W.cell? ⟨w.heap.size,0,none⟩=some (.string t)/\W.cell? ⟨w.heap.size,1,none⟩=some (.string d)/\W.cell? ⟨w.heap.size,2,none⟩=some (.float .f64 b))=>l.out a W h.1
 clear f n k l;go_wp2_with fail
 go_region_held3 (fun W=>Below a.heap.size a W/\W.cell? ⟨w.heap.size,0,none⟩=some (.string t)/\W.cell? ⟨w.heap.size,1,none⟩=some (.string d)/\W.cell? ⟨w.heap.size,2,none⟩=some (.float .f64 b))
  (first | assumption | exact m.out _ (by assumption) | exact m.out _ (Below.refl _ _).drew | fail) (first
  | (go_at_call 57;((with_reducible refine(y.out _ (by assumption)).mono ?_);rintro e w'⟨rfl,g⟩))
  | (go_at_call 57;((with_reducible refine(u.out _ (by assumption)).mono ?_);rintro e w'⟨rfl,g⟩))
  | (go_at_call 58;((with_reducible refine(v.out _ (by assumption)).mono ?_);rintro e w'⟨rfl,g⟩))
  | fail)
 all_goals
  go_wp2;go_ret;exact⟨rfl,o.trans ((And.left (‹Below a.heap.size a _/\_›)).mono o.size)⟩
end
end Go.Proofs.YtokbfellcadkpaaGreat
