import Derived.Test.YthejglbnkmimjaaGreatPp06
set_option linter.unusedVariables false
set_option maxRecDepth 100000
set_option maxHeartbeats 9000000
namespace Go.Proofs.YthejglbnkmimjaaGreat
open Tryz
section
open Go.RowKit
def hdT(n:Nat):Tw:=⟨#[99,104,110,107]⟩++bs (be 4 n)
def hdS(n:Int):Tw:=if 0<=n/\n<=199 then vg (hdT n.toNat) else ByteArray.empty
theorem sc{n:Int}(h:¬(0<=n/\n<=199)):hdS n=ByteArray.empty:=by unfold hdS;rw[qJ h]
theorem Zl{n:Nat}(h:n<=199):hdS (n:Nat)=vg (hdT n):=by unfold hdS;rw[qK (by omega),qh]
theorem Zm(n:Nat):(hdT n).size=8:=by unfold hdT;rw[qT,jh,jO];rfl
theorem cL{n:Nat}(h:n<=199):(hdS (n:Nat)).size=12:=by rw[Zl h,oJ,Zm]
def scK(s:Tw)(n:Int):Nat:=if ¬(0<=n/\n<=199) then 0 else if ¬s.extract 0 (min s.size 12)=(hdS n).extract 0 (min s.size 12) then 0 else if s.size<12 then 1 else 2
def scL(s:Tw)(n:Int):List Int:=if scK s n=2 then wlL s 12 else []
def scE(s:Tw)(n:Int):Nat:=if scK s n=2 then wlE s 12 else 0
def uO(s:Tw)(n:Int):Bool:=decide (¬scK s n=0)
theorem D9{s:Tw}{n:Int}(h:scK s n=0):scL s n=[]/\scE s n=0/\uO s n=false:=by simp[scL,scE,uO,h]
theorem Dq{s:Tw}{n:Int}(h:scK s n=1):scL s n=[]/\scE s n=0/\uO s n=true:=by simp[scL,scE,uO,h]
theorem Zn{s:Tw}{n:Int}(h:scK s n=2):scL s n=wlL s 12/\scE s n=wlE s 12/\uO s n=true:=by simp[scL,scE,uO,h]
theorem Dx{s:Tw}{n:Int}(h:¬(0<=n/\n<=199)):scK s n=0:=by unfold scK;rw[qK h]
theorem Dz{s:Tw}{n:Int}(h:0<=n/\n<=199)(a:¬s.extract 0 (min s.size 12)=(hdS n).extract 0 (min s.size 12)):scK s n=0:=by unfold scK;rw[qJ (by omega),qK a]
theorem Dj{s:Tw}{n:Int}(h:0<=n/\n<=199)(a:s.extract 0 (min s.size 12)=(hdS n).extract 0 (min s.size 12))(b:s.size<12):scK s n=1:=by unfold scK;rw[qJ (by omega),qJ (by simp[a]),qK b]
theorem Zp{s:Tw}{n:Int}(h:0<=n/\n<=199)(a:s.extract 0 (min s.size 12)=(hdS n).extract 0 (min s.size 12))(b:¬s.size<12):scK s n=2:=by unfold scK;rw[qJ (by omega),qJ (by simp[a]),qJ b]
def ftS(size:Int)(p:Tw):Bool:=decide (p.size<=2000/\0<=size/\size<=4096/\size+(p.size:Int)+12<=4096)
def fG(s:Tw)(n:Int)(w:World)(e:Ending)(w':World):Prop:=∃u,e = .returned (.tuple #[u,.int .i64 (scE s n:Nat),.bool (uO s n)])/\ju w' u (scL s n)/\Below w.heap.size w w'
theorem sh{H:Tw}(a:H.size=12):¬H.toList=[]/\(H.toList==[])=false:=by
 have:¬H.toList=[]:=fun e=>by
  have h:H=ByteArray.empty:=ByteArray.ext (Array.toList_inj.1 (by rw[<-Lib.toList_data,e];rfl));rw[h]at a;cases a
 exact⟨this,by rw[qy];exact this⟩
def ma(w:World)(e:Ending)(w':World):Prop:=∃u,e = .returned (.tuple #[u,.int .i64 0,.bool false])/\ju w' u []/\Below w.heap.size w w'
def sl(w:World)(e:Ending)(w':World):Prop:=∃u,e = .returned (.tuple #[u,.int .i64 0,.bool true])/\ju w' u []/\Below w.heap.size w w'
end
section
structure jV where
 qn:Nat
 chunks:Nat
 endp:Nat
 sure:Nat
abbrev nmC(n:Nat):Tw:=nmS 99 (n:Nat)
def jH: Tw:=⟨#[110,101,119]⟩
def stR(r:Nat->Nat):Nat->Nat->Nat × Nat
 | 0,k=>(0,k)
 | n+1,k=>if r k=0 then stR r n (k+1) else(r k,k+1)
def vU(D:zr)(L:jV):Nat:=if D.down then 61 else if D.qn=L.qn then 0 else 61
def rdC(D:zr)(n:Tw):Tw × Nat × zr:=if (jQ D n).2=0 then jx D n 0 ((jQ D n).1:Nat) else(ByteArray.empty,(jQ D n).2,D)
def kT(D:zr)(L:jV):Nat × zr × jV :=
 if L.chunks=0 then(0,D, { L with sure:=L.endp }) else
 if (j6 D (nmC (L.chunks-1))).1=0 then(0,(j6 D (nmC (L.chunks-1))).2, { L with sure:=L.endp }) else((j6 D (nmC (L.chunks-1))).1,(j6 D (nmC (L.chunks-1))).2,L)
def vn(D:zr)(L:jV)(p:Tw):Nat × Nat × Nat :=
 if L.chunks=0 then(0,12,0) else
 if (jQ D (nmC (L.chunks-1))).2=0 then(if ftS ((jQ D (nmC (L.chunks-1))).1:Nat) p=true then(L.chunks-1,(jQ D (nmC (L.chunks-1))).1,0) else(L.chunks,12,0))
 else(0,0,(jQ D (nmC (L.chunks-1))).2)
def y8(D:zr)(s:Tw):Bool:=decide (6000<=(D.cap:Int)-(jX D.l:Nat)-(s.size:Nat))
def vf(a:Nat × zr × jV)(f:zr->jV->Nat × zr × jV):Nat × zr × jV:=if a.1=0 then f a.2.1 a.2.2 else a
def onD(f:zr->Nat × zr)(D:zr)(L:jV):Nat × zr × jV:=((f D).1,(f D).2,L)
def uf(D:zr)(L:jV)(r:Tw):Nat × zr × jV :=
 if 200<=L.chunks∨y8 D (hdS (L.chunks:Nat)++r)=false then(60,D,L) else
 vf (vf (kT D L) (onD fun E=>jB E (nmC L.chunks))) (onD fun E=>jF E (nmC L.chunks) (hdS (L.chunks:Nat)++r))
def yK(D:zr)(L:jV)(r:Tw):Nat × zr:=if y8 D r=false then(60,D) else jF D (nmC (L.chunks-1)) r
def yV(D:zr)(L:jV)(p:Tw):Nat × Nat × zr × jV :=
 if vU D L≠0 then(0,vU D L,D,L) else
 if 2000<p.size then(0,3,D,L) else
 if (vn D L p).2.2≠0 then(0,(vn D L p).2.2,D,L) else
 let n:=(vn D L p).1
 let a:=(vn D L p).2.1
 let r:=if n=L.chunks then uf D L (jZ p) else onD (fun E=>yK E L (jZ p)) D L
 if r.1≠0 then(0,r.1,r.2.1,r.2.2) else(4096*n+a,0,r.2.1, { r.2.2 with chunks:=n+1,endp:=4096*n+a+(jZ p).size })
def oz(D:zr)(n:Tw)(a:Nat):Tw × Nat × zr :=
 if (jQ D n).2≠0 then(ByteArray.empty,(jQ D n).2,D) else
 if (jQ D n).1<a+12 then(ByteArray.empty,4,D) else
 let b:=jx D n (a:Nat) 4
 if b.2.1≠0 then(ByteArray.empty,b.2.1,b.2.2) else
 if 2000<jJ b.1∨(jQ D n).1<a+12+jJ b.1 then(ByteArray.empty,4,b.2.2) else
 let c:=jx b.2.2 n (a:Nat) ((jJ b.1+12:Nat):Int)
 if c.2.1≠0 then(ByteArray.empty,c.2.1,c.2.2) else
 if uY c.1 0=true then(uN c.1 0,0,c.2.2) else(ByteArray.empty,4,c.2.2)
def dE(D:zr)(L:jV)(pos:Int):Tw × Nat × zr :=
 if vU D L≠0 then(ByteArray.empty,vU D L,D) else
 if pos<0∨(L.chunks:Int)<=pos/4096∨pos%4096<12 then(ByteArray.empty,4,D) else oz D (nmC (pos/4096).toNat) (pos%4096).toNat
structure lV where
 p:Tw
 at_ : Int
 next:Int
 e:Nat
 D:zr
def uA: Nat->Nat->zr->Int->lV
 | 0,_,D,_=>⟨ByteArray.empty,0,0,4,D⟩
 | k+1,n,D,pos =>
   if (rdC D (nmC n)).2.1≠0 then⟨ByteArray.empty,0,0,(rdC D (nmC n)).2.1,(rdC D (nmC n)).2.2⟩ else
   match (scL (rdC D (nmC n)).1 (n:Nat)).find? (fun x=>decide (pos<=(n:Int)*4096+x)) with
   | none=>uA k (n+1) (rdC D (nmC n)).2.2 pos
   | some x=>⟨uN (rdC D (nmC n)).1 x,(n:Int)*4096+x,(n:Int)*4096+(kI (rdC D (nmC n)).1 x:Nat),0,(rdC D (nmC n)).2.2⟩
def oj(D:zr)(L:jV)(pos:Int):lV :=
 if vU D L≠0 then⟨ByteArray.empty,0,0,vU D L,D⟩ else
 uA (L.chunks-(max pos 0/4096).toNat) (max pos 0/4096).toNat D pos
def vG(D:zr):Nat × zr:=if (jL D jH).1=4 then(0,(jL D jH).2) else jL D jH
def isC(s:Tw):Bool:=kR s&&npK s==99
def vy: List Tw->Nat->Nat × Nat
 | [],c=>(0,c)
 | s::r,c=>if isC s=true then(if npN s≠c∨200<=npN s then(63,c) else vy r (c+1)) else vy r c
def yE(D:zr)(L:jV):Nat × zr × jV:=((vy (D.l.map zi.name) L.chunks).1,D, { L with chunks:=(vy (D.l.map zi.name) L.chunks).2 })
def bg(a:Nat × zr)(f:zr->Nat × zr):Nat × zr:=if a.1=0 then f a.2 else a
def dF(D:zr)(n s:Tw):Nat × zr:=bg (bg (bg (jB D jH) fun E=>jF E jH s) fun E=>j6 E jH) fun E=>vY E jH n
def cM(D:zr)(L:jV)(n:Nat)(s:Tw)(e:Nat):Nat × zr × jV :=
 if s.size<12 then((jL D (nmC n)).1,(jL D (nmC n)).2, { L with chunks:=n }) else
 if e<s.size then onD (fun E=>dF E (nmC n) (s.extract 0 e)) D { L with endp:=4096*n+e } else onD (fun E=>j6 E (nmC n)) D { L with endp:=4096*n+e }
def yY: Nat->Nat->zr->jV->Nat × zr × jV
 | 0,_,D,L=>(0,D,L)
 | k+1,n,D,L =>
   if (rdC D (nmC n)).2.1≠0 then((rdC D (nmC n)).2.1,(rdC D (nmC n)).2.2,L) else
   if uO (rdC D (nmC n)).1 (n:Nat)=false then(63,(rdC D (nmC n)).2.2,L) else
   if k=0 then cM (rdC D (nmC n)).2.2 L n (rdC D (nmC n)).1 (scE (rdC D (nmC n)).1 (n:Nat)) else
   if (rdC D (nmC n)).1.size<12∨scE (rdC D (nmC n)).1 (n:Nat)<(rdC D (nmC n)).1.size then(63,(rdC D (nmC n)).2.2,L) else
   yY k (n+1) (rdC D (nmC n)).2.2 { L with endp:=4096*n+scE (rdC D (nmC n)).1 (n:Nat) }
def bc(D:zr)(L:jV):Nat × zr × jV:=yY L.chunks 0 D L
def y9(D:zr):Nat × zr × jV:=vf (vf (onD vG D ⟨D.qn,0,0,0⟩) yE) bc
end
section
open Go.RowKit
structure Ctx where
 w0:World
 F0:List Nat
 base:Nat
 m:Value
 G:List Nat
 wG:World
def gM(m:Value)(gd:Nat)(L:jV):Array Value:=#[m,ptr gd,.int .i64 (L.qn:Nat),.int .i64 (L.chunks:Nat),.int .i64 (L.endp:Nat),.int .i64 (L.sure:Nat)]
def TSt(At:jK)(c:Ctx)(gl gd:Nat)(L:jV)(D:zr)(w:World):Prop :=
 ∃F,At w c.base gd F D/\za w gl 130 (gM c.m gd L)/\gl ∉ F/\(∀x∈F,x∈c.F0∨c.w0.heap.size<=x)/\ze (gl::c.F0) c.w0 w/\c.wG.heap.size<=w.heap.size /\
  ∀b∈c.G,c.w0.heap.size<=b/\b<c.wG.heap.size/\b ∉ F/\b≠gl/\w.heap[b]? = c.wG.heap[b]?
def kU(At:jK)(c:Ctx)(gl gd:Nat)(v:Value)(L:jV)(D:zr)(e:Ending)(w:World):Prop:=e = .returned v/\TSt At c gl gd L D w
section
variable {At:jK}{c:Ctx}{gl gd:Nat}{L L':jV}{D D':zr}{w w':World}
theorem TSt.qa(api:jY At)(h:TSt At c gl gd L D w)(a:ze [] w w'):TSt At c gl gd L D w':=by
 obtain⟨F,d,f,g,i,j,k,l⟩:=h;refine⟨F,api.qa d a (fun _ _=>by simp),f.qa a (by simp),g,i,j.trans a (fun x n=>by cases n),qR k a.size,fun b m=>?_⟩;obtain⟨o,p,q,r,t⟩:=l b m;exact⟨o,p,q,r,(a.block b (by omega) (by simp)).trans t⟩
theorem TSt.below(api:jY At)(h:TSt At c gl gd L D w)(a:Below w.heap.size w w'):TSt At c gl gd L D w':=h.qa api (ze.qm a)
theorem TSt.drew(api:jY At)(h:TSt At c gl gd L D w):TSt At c gl gd L D w.drew:=h.qa api (ze.refl [] w).drew
theorem TSt.drewN(api:jY At)(h:TSt At c gl gd L D w)(n:Nat):TSt At c gl gd L D (w.drewN n):=h.qa api ((ze.refl [] w).drewN n)
theorem TSt.cells(h:TSt At c gl gd L D w):w.cell? ⟨gl,0,none⟩=some c.m/\w.cell? ⟨gl,1,none⟩=some (ptr gd)/\w.cell? ⟨gl,2,none⟩=some (.int .i64 (L.qn:Nat))/\w.cell? ⟨gl,3,none⟩=some (.int .i64 (L.chunks:Nat)) /\
  w.cell? ⟨gl,4,none⟩=some (.int .i64 (L.endp:Nat))/\w.cell? ⟨gl,5,none⟩=some (.int .i64 (L.sure:Nat)):=by
 obtain⟨F,b,a,_⟩:=h;exact⟨a.cell 0,a.cell 1,a.cell 2,a.cell 3,a.cell 4,a.cell 5⟩
theorem TSt.frozen(h:TSt At c gl gd L D w)(i:Nat):w.frozen? ⟨gl,i,none⟩=false:=by
 obtain⟨F,b,a,_⟩:=h;exact a.frozen i
theorem TSt.qi(api:jY At)(h:TSt At c gl gd L D w){f:FuncId}{j:Array Value}{v:Value}(B:∀F,At w c.base gd F D->Calls prog f j w (ks At c.base gd F w v D')):Calls prog f j w (kU At c gl gd v L D'):=by
 obtain⟨F,u,l,m,n,o,y,z⟩:=h;refine(B F u).mono ?_;rintro e w'⟨q,r,t,d,a⟩;refine⟨r,q,t,l.qa a m,fun g=>?_,fun x i=>?_,o.trans a (fun x i=>?_),qR y a.size,fun b A=>?_⟩
 ·rcases d gl g with k|k
  ·exact m k
  ·have:=l.lt;omega
 ·rcases d x i with k|k
  ·exact n x k
  ·exact qY (by have:=o.size;omega)
 ·rcases n x i with k|k
  ·exact qX (qF _ k)
  ·exact qY k
 ·obtain⟨C,G,p,H,I⟩:=z b A;refine⟨C,G,fun g=>?_,H,(a.block b (by omega) p).trans I⟩;rcases d b g with k|k
  ·exact p k
  ·omega
theorem TSt.same(h:TSt At c gl gd L D w){P:Program}{f:FuncId}{a:Array Value}{v:Value}(b:Calls P f a w fun e w'=>e = .returned v/\w=w'):Calls P f a w (kU At c gl gd v L D):=b.mono (by
 rintro e w'⟨rfl,rfl⟩;exact⟨rfl,h⟩)
theorem TSt.put(api:jY At)(h:TSt At c gl gd L D w)(i:Nat)(v:Value)(u:(gM c.m gd L).setIfInBounds i v=gM c.m gd L'):TSt At c gl gd L' D (w.setCell ⟨gl,i,none⟩ v):=by
 obtain⟨F,j,k,f,l,n,o,q⟩:=h;have a:ze [gl] w (w.setCell ⟨gl,i,none⟩ v):=(ze.refl [gl] w).setCell (p:=⟨gl,i,none⟩) (qX (qE.2 rfl)) _;refine⟨F,api.qa j a (fun x d t=>f (by rw[<-qE.1 t];exact d)),by rw[<-u];exact k.put i v,f,l,n.trans a (fun x d=>qX (by rw[qE.1 d];exact qB)),qR o a.size,fun b r=>?_⟩;obtain⟨y,z,A,g,B⟩:=q b r;exact⟨y,z,A,g,(a.block b (by omega) (by simpa using g)).trans B⟩
theorem TSt.xy(api:jY At)(h:TSt At c gl gd L D w)(k:Nat):TSt At c gl gd { L with chunks:=k } D (w.setCell ⟨gl,3,none⟩ (.int .i64 (k:Nat))):=h.put api 3 _ rfl
theorem TSt.xI(api:jY At)(h:TSt At c gl gd L D w)(k:Nat):TSt At c gl gd { L with endp:=k } D (w.setCell ⟨gl,4,none⟩ (.int .i64 (k:Nat))):=h.put api 4 _ rfl
theorem TSt.xr(api:jY At)(h:TSt At c gl gd L D w)(k:Nat):TSt At c gl gd { L with sure:=k } D (w.setCell ⟨gl,5,none⟩ (.int .i64 (k:Nat))):=h.put api 5 _ rfl
theorem TSt.xP(h:TSt At c gl gd L D w){b:Nat}(d:b∈c.G):w.heap[b]? = c.wG.heap[b]? := by
 obtain⟨F,f,g,i,j,k,l,a⟩:=h;exact(a b d).2.2.2.2
theorem TSt.own(api:jY At)(h:TSt At c gl gd L D w){f:List Nat}(i:ze c.G w w')(r:∀b∈f,b∈c.G∨w.heap.size<=b)(o:∀b∈f,b<w'.heap.size):TSt At { c with G:=f,wG:=w' } gl gd L D w':=by
 obtain⟨F,l,m,p,q,n,z,d⟩:=h;have hF:∀x∈F,x ∉ c.G:=fun x j a=>(d x a).2.2.1 j
 have t:gl ∉ c.G:=fun a=>(d gl a).2.2.2.1 rfl
 refine⟨F,api.qa l i hF,m.qa i t,p,q,n.trans i (fun x j=>qY (d x j).1),qZ _,fun b g=>?_⟩;rcases r b g with k|k
 ·obtain⟨u,A,v,y,_⟩:=d b k;exact⟨u,o b g,v,y,rfl⟩
 ·exact⟨qR n.size k,o b g,fun a=>(by have:=(api.low l b a).2;omega),fun e=>(by have:=m.lt;omega),rfl⟩
theorem TSt.back{a:Ctx}(h:TSt At a gl gd L D w)(d:a.w0=c.w0)(k:a.F0=c.F0)(l:a.base=c.base)(n:a.m=c.m)(u:c.wG.heap.size<=a.wG.heap.size)(r:∀b∈c.G,b∈a.G/\b<c.wG.heap.size/\a.wG.heap[b]? = c.wG.heap[b]?):TSt At c gl gd L D w:=by
 obtain⟨F,f,g,o,i,j,p,q⟩:=h;rw[l]at f;rw[n]at g;rw[d,k]at i j;refine⟨F,f,g,o,i,j,qR u p,fun b t=>?_⟩;obtain⟨B,C,H⟩:=r b t;obtain⟨v,I,y,z,A⟩:=q b B;exact⟨by rw[<-d];exact v,C,y,z,A.trans H⟩
end
theorem Zr: (prog.info? 130).map (·.size)=some 6:=by kernel_rfl
theorem Dv(d:Nat)(p:Addr)(w:World):(Op.equalIn (d+1) 70 (.pointer (some p)) (.pointer (some p))).run prog w = .ok true w:=by
 cases a:prog.info? 130 with
 | none=>have:=Zr;rw[a]at this;cases this
 | some i =>
   have b:i.size=6:=(by have:=Zr;rw[a]at this;simpa using this);simp[Op.equalIn,run_underlying Tryz.underlying70,sizeOf,typeInfo,a,sameAddr]
theorem Dy(p:Addr)(w:World):(binOp .neq 70 (.pointer (some p)) (.pointer (some p))).run prog w = .ok (.bool false) w:=by
 have a:(Op.equal 70 (.pointer (some p)) (.pointer (some p))).run prog w = .ok true w:=Dv 9999 p w;simp only[binOp];simp[a]
theorem Zs{w:World}{gl:Nat}(h:w.cell? ⟨gl,0,none⟩=some (ptr gl)):Calls prog 114 #[ptr gl] w fun e w'=>e = .returned (.bool false)/\w=w':=by
 have a:=Dy ⟨gl,0,none⟩;go_enter func114,ntmps114;go_wp2;go_ret;exact⟨rfl,rfl⟩
theorem ov(n:Nat)(w:World)(d:n<=1000000):Calls prog 93 #[.int .i64 (n:Nat)] w fun e w'=>e = .returned (.int .i64 ((n:Nat)*4096:Int))/\w=w':=by
 have b:(n:Int)<=1000000:=by omega
 have a:(0:Int)<=n:=by omega
 go_enter func93,ntmps93;go_wp2;go_ret;exact⟨rfl,rfl⟩
section
variable {At:jK}(api:jY At){c:Ctx}{gl gd:Nat}{L L':jV}{D D':zr}{w w':World}
include api
theorem lY(i:c.m=ptr gl)(h:TSt At c gl gd L D w):Calls prog 90 #[ptr gl] w (kU At c gl gd (err (vU D L)) L D):=by
 obtain⟨c0,c1,c2,l,n,o⟩:=h.cells;rw[i]at c0;have j:=qQ h;have p:=qQ (Zs c0);obtain⟨F,a,-⟩:=h;have g:=qQ (api.zg a);have f:=qQ (fun k=>api.zW (api.qa a ((ze.refl [] w).drewN k) (fun _ _=>by simp)));unfold vU;cases b:D.down
 ·simp only[Bool.false_eq_true,if_false];rw[b]at g;by_cases d:D.qn=L.qn
  ·rw[qK d];have f:=qQ (fun k=>d ▸ f.out k);have r:((L.qn:Int) != (L.qn:Int))=false:=(by simp);generalize L.qn=q at*;clear a b d l n o i;go_enter func90,ntmps90;go_wp2_with fail;refine p.out.mono ?_;rintro e w'⟨rfl,rfl⟩;go_wp2_with fail;refine g.out.mono ?_;rintro e w'⟨rfl,rfl⟩;go_wp2_with fail;go_quiet ((go_at_call 75;exact Calls.quiet_of_same ((f.out _).mono fun _ _ h=>⟨h.1,h.2.symm⟩)));go_wp2;go_ret;exact⟨rfl,j.out.drewN api _⟩
  ·rw[qJ d];have r:((D.qn:Int) != (L.qn:Int))=true:=(by simp;omega);have t:¬(D.qn:Int)=(L.qn:Int):=(by omega);generalize L.qn=q at*;generalize D.qn=y at*;clear a b d l n o i;go_enter func90,ntmps90;go_wp2_with fail;refine p.out.mono ?_;rintro e w'⟨rfl,rfl⟩;go_wp2_with fail;refine g.out.mono ?_;rintro e w'⟨rfl,rfl⟩;go_wp2_with fail;go_quiet ((go_at_call 75;exact Calls.quiet_of_same ((f.out _).mono fun _ _ h=>⟨h.1,h.2.symm⟩)));go_wp2;go_ret;exact⟨rfl,j.out.drewN api _⟩
 ·simp only[if_true];rw[b]at g;clear a b l n o i f;go_enter func90,ntmps90;go_wp2_with fail;refine p.out.mono ?_;rintro e w'⟨rfl,rfl⟩;go_wp2_with fail;refine g.out.mono ?_;rintro e w'⟨rfl,rfl⟩;go_wp2;go_ret;exact⟨rfl,j.out⟩
end
theorem Du{w:World}{gl:Nat}{v:Int}(a:w.cell? ⟨gl,0,none⟩=some (ptr gl))(h:w.cell? ⟨gl,4,none⟩=some (.int .i64 v)):Calls prog 66 #[ptr gl] w fun e w'=>e = .returned (.int .i64 v)/\w=w':=by
 have b:=qQ (Zs a);clear a;go_enter func66,ntmps66;go_wp2_with fail;refine b.out.mono ?_;rintro e w'⟨rfl,rfl⟩;go_wp2;go_ret;exact⟨rfl,rfl⟩
end
section
open Go.RowKit
structure kc: Prop where
 head:∀(n:Int) (w:World),(Lit.int .i64 n).wf=true->Calls prog 152 #[.int .i64 n] w fun e w'=>e = .returned (.string (hdS n))/\Below w.heap.size w w'
 scan:∀(s:Tw) (n:Int) (w:World),s.size<=1100000->(Lit.int .i64 n).wf=true->Calls prog 92 #[.string s,.int .i64 n] w (fG s n w)
 fits:∀(size:Int) (p:Tw) (w:World),p.size<=maxLen->(Lit.int .i64 size).wf=true->Calls prog 198 #[.int .i64 size,.string p] w fun e w'=>e = .returned (.bool (ftS size p))/\w=w'
 put:∀(p:Tw) (w:World),p.size<=maxLen->Calls prog 145 #[.string p] w fun e w'=>e = .returned (.tuple #[.string (prS p),.int .i64 (prE p)])/\Below w.heap.size w w'
theorem ju.zF{w:World}{v:Value}{l:List Int}(h:ju w v l):∃A c,v = .slice A l.length c:=by
 obtain⟨A,off,cap,a,_⟩:=h.cell;exact⟨A,cap,a⟩
end
section
open Go.RowKit
theorem ou{D:zr}(h:WfP D)(n:Tw):(jQ D n).1<=1048576:=by
 unfold jQ;split
 ·exact qH _
 ·split
  ·exact qH _
  ·rename_i f a;exact(h.ok.xY f (qO a)).2
theorem dH{n:Nat}(h:n<=999999):(nmC n).size<=maxLen:=by rw[rO h];decide
theorem bY{n:Nat}(h:n<=9223372036854775807):(Lit.int .i64 (n:Nat)).wf=true:=WalkArith.wf_i64 (by omega)
theorem fW(nap:jz)(n:Nat)(w:World)(a:n<=999999):Calls prog 128 #[.int .i64 (n:Nat)] w fun e w'=>e = .returned (.string (nmC n))/\Below w.heap.size w w':=nap.chunk n w (bY (by omega))
theorem sn{D:zr}{n:Tw}{a k:Int}(h:WfP D):(jx D n a k).1.size<=1048576:=by
 unfold jx;split
 ·exact qH _
 ·dsimp only;split
  ·exact qH _
  ·rename_i f b;split
   ·exact qH _
   ·have:=(h.ok.xY f (qO b)).2;show(f.data.extract _ _).size<=_;rw[qS];omega
theorem Zt{D:zr}{n:Tw}(h:WfP D):(rdC D n).1.size<=1048576:=by
 unfold rdC;split
 ·exact sn h
 ·exact qH _
theorem sa{D:zr}(h:WfP D)(n:Tw):WfP (rdC D n).2.2:=by
 unfold rdC;split
 ·exact sg h _ _ _
 ·exact h
theorem Za(D:zr)(n:Tw)(a k:Int):(jx D n a k).2.2.count<=D.count+1:=by
 unfold jx;split
 ·exact Nat.le_succ _
 ·dsimp only;split
  ·exact qZ _
  ·split<;>exact qZ _
theorem Ze(D:zr)(n:Tw):(rdC D n).2.2.count<=D.count+1:=by
 unfold rdC;split
 ·exact Za _ _ _ _
 ·exact Nat.le_succ _
section
variable {At:jK}(api:jY At)(nap:jz){c:Ctx}{gl gd:Nat}{L L':jV}{D D':zr}{w w':World}
include api nap
theorem Zi(h:TSt At c gl gd L D w)(ok:WfP D)(m:D.count<=1099511627776)(n:Nat)(i:n<=999999):Calls prog 91 #[ptr gl,.int .i64 (n:Nat)] w (kU At c gl gd (.tuple #[.string (rdC D (nmC n)).1,err (rdC D (nmC n)).2.1]) L (rdC D (nmC n)).2.2):=by
 have v:=ou ok (nmC n);have q:=qQ fun W=>fW nap n W (by omega)
 have l:=qQ fun(W:World) (g:TSt At c gl gd L D W)=>(show Calls prog 129 #[ptr gd,.string (nmC n)] W (kU At c gl gd (.tuple #[.int .i64 ((jQ D (nmC n)).1:Nat),err (jQ D (nmC n)).2]) L D) from g.same (api.xo (nmC n) (Classical.choose_spec g).1 ok.ok (dH i)))
 have u:=qQ fun(W:World) (g:TSt At c gl gd L D W)=>g.qi api (fun F hF=>api.read (nmC n) 0 ((jQ D (nmC n)).1:Nat) hF ok.ok m (by decide) (bY (by omega)) (dH i))
 have o:=qQ h;unfold rdC;by_cases f:(jQ D (nmC n)).2=0
 ·rw[qK f];rw[f]at l;generalize (jQ D (nmC n)).1=z at*;generalize jx D (nmC n) 0 (z:Nat)=r at*;generalize nmC n=nm at*;clear f v h m ok i;go_enter func91,ntmps91;go_wp2_with fail;refine(q.out _).mono ?_;rintro e H⟨rfl,d⟩;have a:=o.out.below api d;obtain⟨c0,c1,c2,B,C,G⟩:=a.cells;have j:=qQ a;clear d a;go_wp2_with fail;refine(l.out _ j.out).mono ?_;rintro e I⟨rfl,b⟩;obtain⟨J,K,M,N,O,P⟩:=b.cells;have k:=qQ b;clear b;go_wp2_with fail;refine(u.out _ k.out).mono ?_;rintro e Q⟨rfl,p⟩;have A:=qQ p;clear p;go_wp2;go_ret2;exact⟨rfl,A.out⟩
 ·rw[qJ f];have t:(((jQ D (nmC n)).2:Int) != 0)=true:=by simp;omega
  generalize (jQ D (nmC n)).2=y at*;generalize (jQ D (nmC n)).1=z at*;generalize nmC n=nm at*;clear v h u m ok i f;go_enter func91,ntmps91;go_wp2_with fail;refine(q.out _).mono ?_;rintro e H⟨rfl,d⟩;have a:=o.out.below api d;obtain⟨c0,c1,c2,B,C,G⟩:=a.cells;have j:=qQ a;clear d a;go_wp2_with fail;refine(l.out _ j.out).mono ?_;rintro e I⟨rfl,b⟩;have k:=qQ b;clear b;go_wp2;go_ret2;exact⟨rfl,k.out⟩
omit nap in
theorem se(h:TSt At c gl gd L D w)(ok:WfP D)(s:Tw)(o:s.size<=1000000):Calls prog 199 #[ptr gl,.string s] w (kU At c gl gd (.bool (y8 D s)) L D):=by
 have hF:=qQ (h.qi api (fun F hF=>api.free hF ok.ok));have k:=qQ h;obtain⟨c0,c1,c2,d,f,g⟩:=h.cells;have i:=ok.cap;have j:=ok.used;unfold y8;have m:(D.cap:Int)-(jX D.l:Nat)-(s.size:Nat)<=1048576:=by omega
 have n:-1000000<=(D.cap:Int)-(jX D.l:Nat)-(s.size:Nat):=by omega
 generalize (D.cap:Int)-(jX D.l:Nat)=y at*;have hw:IntKind.i64.wrap (y-(s.size:Nat))=y-(s.size:Nat):=IntWalk.i64_in _ (by omega);clear i j h c0 c2 d f g ok;go_enter func199,ntmps199;go_wp2_with fail;refine hF.out.mono ?_;rintro e p⟨rfl,a⟩;have b:=qQ a;clear a;go_wp2;go_ret;exact⟨rfl,b.out⟩
theorem Dg(h:TSt At c gl gd L D w)(ok:WfP D)(C:L.chunks<=200)(A:0<L.chunks):Calls prog 97 #[ptr gl] w (kU At c gl gd (err (kT D L).1) (kT D L).2.2 (kT D L).2.1):=by
 obtain⟨n,o⟩:∃n,L.chunks=n+1:=⟨L.chunks-1,by omega⟩
 have B:=qQ fun W=>fW nap n W (by omega)
 have r:=qQ fun(W:World) (M:TSt At c gl gd L D W)=>M.qi api (fun F hF=>api.sync (nmC n) hF ok.ok (dH (by omega)))
 have j:=qQ h;obtain⟨c0,c1,c2,q,v,z⟩:=h.cells;have e:L.chunks-1=n:=by omega
 have R:decide ((0:Int)<((n+1:Nat):Int))=true:=qW (by omega);have N:((n+1:Nat):Int)-1=(n:Int):=by omega
 have Q:IntKind.i64.wrap (n:Int)=(n:Int):=IntWalk.i64_in _ (by omega);have hw:IntKind.i64.wrap (((n+1:Nat):Int)-1)=(n:Int):=by rw[N];exact IntWalk.i64_in _ (by omega)
 unfold kT;rw[qJ (by omega),e];rw[o]at q;have l:=qQ o;generalize u:((n+1:Nat):Int)=m at*;have k:=qQ u;by_cases f:(j6 D (nmC n)).1=0
 ·rw[qK f];rw[f]at r;generalize (j6 D (nmC n)).2=G at*;generalize nmC n=nm at*;clear e o f h ok C A c0 c2 v z u;go_enter func97,ntmps97;go_wp2_with fail
  go_region_held3 (fun w'=>w'.cell? ⟨gl,1,none⟩=some (ptr gd)/\w'.cell? ⟨gl,3,none⟩=some (.int .i64 m)) (first | assumption | exact⟨by assumption,by assumption⟩ | exact⟨c1,q⟩) (first
   | (go_at_call 128;refine(B.out _).mono ?_;rintro e g⟨rfl,d⟩;have b:=(show TSt At c gl gd L D _ from by first | exact j.out.drew api | exact j.out).below api d;have H:g.cell? ⟨gl,1,none⟩=some (ptr gd):=b.cells.2.1;have I:g.cell? ⟨gl,3,none⟩=some (.int .i64 m):=by rw[b.cells.2.2.2.1,l.out,k.out])
   | (go_at_call 160;refine(r.out _ b).mono ?_;rintro e i⟨rfl,a⟩;have J:i.cell? ⟨gl,1,none⟩=some (ptr gd):=a.cells.2.1;have K:i.cell? ⟨gl,3,none⟩=some (.int .i64 m):=by rw[a.cells.2.2.2.1,l.out,k.out])
   | fail)
  all_goals
   obtain⟨_,_,_,_,P,_⟩:=a.cells;have O:=a.frozen 5;have p:=qQ (a.xr api L.endp);clear b a d;generalize (L.endp:Int)=y at*;go_wp2;go_ret;exact⟨rfl,p.out⟩
 ·rw[qJ f];have t:(((j6 D (nmC n)).1:Int) != 0)=true:=by simp;omega
  generalize (j6 D (nmC n)).2=G at*;generalize (j6 D (nmC n)).1=y at*;generalize nmC n=nm at*;clear e o f h ok C A c0 c2 v z u;go_enter func97,ntmps97;go_wp2_with fail
  go_region_held3 (fun w'=>w'.cell? ⟨gl,1,none⟩=some (ptr gd)/\w'.cell? ⟨gl,3,none⟩=some (.int .i64 m)) (first | assumption | exact⟨by assumption,by assumption⟩ | exact⟨c1,q⟩) (first
   | (go_at_call 128;refine(B.out _).mono ?_;rintro e g⟨rfl,d⟩;have b:=(show TSt At c gl gd L D _ from by first | exact j.out.drew api | exact j.out).below api d;have H:g.cell? ⟨gl,1,none⟩=some (ptr gd):=b.cells.2.1;have I:g.cell? ⟨gl,3,none⟩=some (.int .i64 m):=by rw[b.cells.2.2.2.1,l.out,k.out])
   | (go_at_call 160;refine(r.out _ b).mono ?_;rintro e i⟨rfl,a⟩;have J:i.cell? ⟨gl,1,none⟩=some (ptr gd):=a.cells.2.1;have K:i.cell? ⟨gl,3,none⟩=some (.int .i64 m):=by rw[a.cells.2.2.2.1,l.out,k.out])
   | fail)
  all_goals
   have p:=qQ a;clear b a d;go_wp2;go_ret;exact⟨rfl,p.out⟩
omit nap in
theorem Db(h:TSt At c gl gd L D w)(a:L.chunks=0):Calls prog 97 #[ptr gl] w (kU At c gl gd (err (kT D L).1) (kT D L).2.2 (kT D L).2.1):=by
 unfold kT;rw[qK a];obtain⟨c0,c1,c2,d,f,g⟩:=h.cells;rw[a]at d;have i:=h.frozen 5;have b:=qQ (h.xr api L.endp);generalize (L.endp:Int)=y at*;clear h c0 c1 c2 a;go_enter func97,ntmps97;go_wp2;go_ret;exact⟨rfl,b.out⟩
theorem Dc(h:TSt At c gl gd L D w)(ok:WfP D)(b:L.chunks<=200):Calls prog 97 #[ptr gl] w (kU At c gl gd (err (kT D L).1) (kT D L).2.2 (kT D L).2.1):=by
 by_cases a:L.chunks=0
 ·exact Db api h a
 ·exact Dg api nap h ok b (by omega)
variable (cap:kc)
include cap
theorem Dd(h:TSt At c gl gd L D w)(ok:WfP D)(G:L.chunks<=200)(p:Tw)(B:p.size<=maxLen):Calls prog 146 #[ptr gl,.string p] w (kU At c gl gd (.tuple #[.int .i64 ((vn D L p).1:Nat),.int .i64 ((vn D L p).2.1:Nat),err (vn D L p).2.2]) L D):=by
 have f:=qQ h;obtain⟨c0,c1,c2,C,q,r⟩:=h.cells;unfold vn;by_cases g:L.chunks=0
 ·rw[qK g];rw[g]at C;clear h c0 c1 c2 g q r;go_enter func146,ntmps146;go_wp2;go_ret3;exact⟨rfl,f.out⟩
 rw[qJ g];obtain⟨n,l⟩:∃n,L.chunks=n+1:=⟨L.chunks-1,by omega⟩
 have e:L.chunks-1=n:=by omega
 rw[e];have H:=ou ok (nmC n);have F:=qQ fun W=>fW nap n W (by omega)
 have u:=qQ fun(W:World) (O:TSt At c gl gd L D W)=>(show Calls prog 129 #[ptr gd,.string (nmC n)] W (kU At c gl gd (.tuple #[.int .i64 ((jQ D (nmC n)).1:Nat),err (jQ D (nmC n)).2]) L D) from O.same (api.xo (nmC n) (Classical.choose_spec O).1 ok.ok (dH (by omega))))
 have hF:=qQ fun(W:World)=>cap.fits ((jQ D (nmC n)).1:Nat) p W B (bY (by omega))
 have U:decide ((0:Int)<((n+1:Nat):Int))=true:=qW (by omega);have P:((n+1:Nat):Int)-1=(n:Int):=by omega
 have T:IntKind.i64.wrap (n:Int)=(n:Int):=IntWalk.i64_in _ (by omega);have hw:IntKind.i64.wrap (((n+1:Nat):Int)-1)=(n:Int):=by rw[P];exact IntWalk.i64_in _ (by omega)
 rw[l]at C;have J:=qQ l;generalize A:((n+1:Nat):Int)=m at*;have I:=qQ A;have R:w.cell? ⟨gl,3,none⟩=some (.int .i64 m):=C;by_cases i:(jQ D (nmC n)).2=0
 ·rw[qK i];rw[i]at u;cases v:ftS ((jQ D (nmC n)).1:Nat) p
  ·rw[qJ (by simp)];rw[v]at hF;have N:(L.chunks:Int)=m:=(by rw[J.out,I.out]);rw[N];generalize (jQ D (nmC n)).1=z at*;generalize nmC n=nm at*;clear e l i h ok G g c0 c2 q r A H B v N;go_enter func146,ntmps146;go_wp2_with fail
   go_region_held3 (fun w'=>w'.cell? ⟨gl,1,none⟩=some (ptr gd)) (first | assumption | exact c1) (first
    | (go_at_call 128;refine(F.out _).mono ?_;rintro e o⟨rfl,d⟩;have b:=(show TSt At c gl gd L D _ from by first | exact f.out.drew api | exact f.out).below api d;have K:o.cell? ⟨gl,1,none⟩=some (ptr gd):=b.cells.2.1)
    | (go_at_call 129;refine(u.out _ b).mono ?_;rintro e j⟨rfl,a⟩;have M:j.cell? ⟨gl,1,none⟩=some (ptr gd):=a.cells.2.1)
    | fail)
   all_goals
    have S:j.cell? ⟨gl,3,none⟩=some (.int .i64 m):=(by rw[a.cells.2.2.2.1,J.out,I.out]);have k:=qQ a;clear b a d;go_wp2_with fail;refine(hF.out _).mono ?_;rintro e Q⟨rfl,rfl⟩;go_wp2;go_ret3;exact⟨rfl,k.out⟩
  ·rw[qK rfl];rw[v]at hF;generalize (jQ D (nmC n)).1=z at*;generalize nmC n=nm at*;clear e l i h ok G g c0 c2 q r A H B v;go_enter func146,ntmps146;go_wp2_with fail
   go_region_held3 (fun w'=>w'.cell? ⟨gl,1,none⟩=some (ptr gd)) (first | assumption | exact c1) (first
    | (go_at_call 128;refine(F.out _).mono ?_;rintro e o⟨rfl,d⟩;have b:=(show TSt At c gl gd L D _ from by first | exact f.out.drew api | exact f.out).below api d;have K:o.cell? ⟨gl,1,none⟩=some (ptr gd):=b.cells.2.1)
    | (go_at_call 129;refine(u.out _ b).mono ?_;rintro e j⟨rfl,a⟩;have M:j.cell? ⟨gl,1,none⟩=some (ptr gd):=a.cells.2.1)
    | fail)
   all_goals
    have k:=qQ a;clear b a d;go_wp2_with fail;refine(hF.out _).mono ?_;rintro e Q⟨rfl,rfl⟩;go_wp2;go_ret3;exact⟨rfl,k.out⟩
 ·rw[qJ i];have t:(((jQ D (nmC n)).2:Int) != 0)=true:=by simp;omega
  generalize (jQ D (nmC n)).2=y at*;generalize (jQ D (nmC n)).1=z at*;generalize nmC n=nm at*;clear e l i h ok G g c0 c2 q r A H B hF;go_enter func146,ntmps146;go_wp2_with fail
  go_region_held3 (fun w'=>w'.cell? ⟨gl,1,none⟩=some (ptr gd)) (first | assumption | exact c1) (first
   | (go_at_call 128;refine(F.out _).mono ?_;rintro e o⟨rfl,d⟩;have b:=(show TSt At c gl gd L D _ from by first | exact f.out.drew api | exact f.out).below api d;have K:o.cell? ⟨gl,1,none⟩=some (ptr gd):=b.cells.2.1)
   | (go_at_call 129;refine(u.out _ b).mono ?_;rintro e j⟨rfl,a⟩;have M:j.cell? ⟨gl,1,none⟩=some (ptr gd):=a.cells.2.1)
   | fail)
  all_goals
   have k:=qQ a;clear b a d;go_wp2;go_ret3;exact⟨rfl,k.out⟩
omit cap in
theorem Df(h:TSt At c gl gd L D w)(ok:WfP D)(q:L.chunks<=200)(a:0<L.chunks)(r:Tw)(k:r.size<=1000000):Calls prog 148 #[ptr gl,.string r] w (kU At c gl gd (err (yK D L r).1) L (yK D L r).2):=by
 have f:=qQ (se api h ok r k);unfold yK;cases g:y8 D r
 ·rw[qK rfl];rw[g]at f;clear h ok q a k g;go_enter func148,ntmps148;go_wp2_with fail;refine f.out.mono ?_;rintro e l⟨rfl,b⟩;have z:=qQ b;clear b;go_wp2;go_ret;exact⟨rfl,z.out⟩
 ·rw[qJ (by simp)];rw[g]at f;obtain⟨n,u⟩:∃n,L.chunks=n+1:=⟨L.chunks-1,by omega⟩
  have e:L.chunks-1=n:=by omega
  rw[e];have C:=qQ fun W=>fW nap n W (by omega)
  have G:=qQ fun(W:World) (H:TSt At c gl gd L D W)=>H.qi api (fun F hF=>api.append (nmC n) r hF ok.ok (by omega) (dH (by omega)))
  have I:((n+1:Nat):Int)-1=(n:Int):=by omega
  have P:IntKind.i64.wrap (n:Int)=(n:Int):=IntWalk.i64_in _ (by omega);have hw:IntKind.i64.wrap (((n+1:Nat):Int)-1)=(n:Int):=by rw[I];exact IntWalk.i64_in _ (by omega)
  have j:=qQ u;generalize t:((n+1:Nat):Int)=m at*;have i:=qQ t;generalize jF D (nmC n) r=J at*;generalize nmC n=nm at*;clear e u h ok q a t k g;go_enter func148,ntmps148;go_wp2_with fail;refine f.out.mono ?_;rintro e v⟨rfl,a⟩;have c1:v.cell? ⟨gl,1,none⟩=some (ptr gd):=a.cells.2.1;have B:v.cell? ⟨gl,3,none⟩=some (.int .i64 m):=by rw[a.cells.2.2.2.1,j.out,i.out]
  have o:=qQ a;clear a;go_wp2_with fail
  go_region_held3 (fun w'=>w'.cell? ⟨gl,1,none⟩=some (ptr gd)/\w'.cell? ⟨gl,3,none⟩=some (.int .i64 m)) (first | assumption | exact⟨by assumption,by assumption⟩ | exact⟨c1,B⟩) (first
   | (go_at_call 128;refine(C.out _).mono ?_;rintro e l⟨rfl,p⟩;have b:=(show TSt At c gl gd L D _ from by first | exact o.out.drew api | exact o.out).below api p;have K:l.cell? ⟨gl,1,none⟩=some (ptr gd):=b.cells.2.1;have M:l.cell? ⟨gl,3,none⟩=some (.int .i64 m):=by rw[b.cells.2.2.2.1,j.out,i.out])
   | (go_at_call 203;refine(G.out _ b).mono ?_;rintro e y⟨rfl,d⟩;have N:y.cell? ⟨gl,1,none⟩=some (ptr gd):=d.cells.2.1;have O:y.cell? ⟨gl,3,none⟩=some (.int .i64 m):=by rw[d.cells.2.2.2.1,j.out,i.out])
   | fail)
  all_goals
   have A:=qQ d;clear b d p;go_wp2;go_ret;exact⟨rfl,A.out⟩
end
end
section
open Go.RowKit Go.Shelf
theorem Dh{r:Nat->Nat}{n k:Nat}(h:k<n):stR r (n-k) k=if r k=0 then stR r (n-(k+1)) (k+1) else(r k,k+1):=by
 obtain⟨m,rfl⟩:∃m,n=k+1+m:=⟨n-k-1,by omega⟩
 have a:k+1+m-k=m+1:=by omega
 have b:k+1+m-(k+1)=m:=by omega
 rw[a,b];rfl
theorem Dl{r:Nat->Nat}{n:Nat}:stR r (n-n) n=(0,n):=by rw[Nat.sub_self];rfl
theorem si{b n:Nat}(P:n<=1000)(r:Nat->Nat)(d:Nat->World->Prop)(f:Nat->FuncId)(x y:Nat->Array Value)
  (H:∀k,k<n->Enters prog (f k)) (G:∀k W,k<n->d k W->W.cell? ⟨b,k,none⟩=some (.func (.func (f k)) (x k) (y k)))
  (F:∀k W,k<n->d k W->Calls prog (f k) (x k++#[]++y k) W fun e v=>e = .returned (.int .i64 (r k:Nat))/\d (k+1) v) (W:World) (B:d 0 W):
  Calls prog 76 #[.slice (some ⟨b,0,none⟩) n n] W fun e v=>e = .returned (.int .i64 ((stR r n 0).1:Nat))/\d (stR r n 0).2 v:=by
 have J:=qQ G;have M:=qQ F;have K:=qQ H;have R:=qQ P;have I:=qQ B;clear G F B H;go_enter func76,ntmps76;go_wp2;go_loopw [8] (fun i wr=>∃k:Nat,k<=n/\i = .int .i64 k/\stR r (n-k) k=stR r n 0/\d k wr) (fun i _=>n-(intOf i).toNat)
 case atStart=>exact⟨0,qH _,rfl,rfl,I.out⟩
 case round =>
  obtain⟨k,O,rfl,j,m⟩:=hrel;by_cases g:k<n
  ·have c1:=J.out k _ g m;have S:(k:Int)<(n:Int):=(by omega);have u:=qQ m;have a:=qQ j;have N:=qQ g;clear m j;rw[Dh g]at a;have A:=K.out k g;have z:=M.out k _ g u.out;have C:x k++#[]++y k=x k++y k:=(by simp);rw[C]at z;have q:=qQ z;unfold Enters at A;clear z C;by_cases l:r k=0
   ·rw[l]at q;rw[qK l]at a;clear l;go_wp2_with fail;refine q.out.mono ?_;rintro e Q⟨rfl,o⟩;have p:=qQ o;clear o A c1;go_wp2;go_roundw
    case rel=>exact⟨k+1,by have:=N.out;omega,by go_num,a.out,p.out⟩
    case measure=>simp[intOf];omega
   ·have t:((r k:Int) != 0)=true:=(by simp;omega);rw[qJ l]at a;clear l;generalize r k=y at*;go_wp2_with fail;refine q.out.mono ?_;rintro e Q⟨rfl,o⟩;have p:=qQ o;clear o A c1;go_wp2;go_ret;rw[<-a.out];exact⟨rfl,p.out⟩
  ·obtain rfl:k=n:=(by omega);rw[Dl]at j;have u:=qQ m;have a:=qQ j;clear m j O;go_wp2;go_ret;rw[<-a.out];exact⟨rfl,u.out⟩
end
section
open Go.RowKit Go.Shelf
section
variable {At:jK}{c:Ctx}{gl gd:Nat}{L L':jV}{D D':zr}{w w':World}
theorem TSt.new(api:jY At)(h:TSt At c gl gd L D w)(i:ze [] w w')(g:w.heap.size<w'.heap.size):TSt At { c with G:=w.heap.size::c.G,wG:=w' } gl gd L D w':=by
 have f:∀b∈c.G,b<w.heap.size:=by
  obtain⟨F,k,l,m,n,o,p,d⟩:=h;intro b a;have:=(d b a).2.1;omega
 refine h.own api (i.more (fun x j=>by cases j)) (fun b a=>?_) (fun b a=>?_)
 ·rcases qL.1 a with rfl|a
  ·exact qY (qZ _)
  ·exact qX a
 ·rcases qL.1 a with rfl|a
  ·exact g
  ·have:=f b a;omega
theorem TSt.box(api:jY At)(h:TSt At c gl gd L D w)(o:Obj):TSt At { c with G:=w.heap.size::c.G,wG:=w.alloc o } gl gd L D (w.alloc o):=h.new api ((ze.refl [] w).alloc o) (by simp)
theorem TSt.qp(h:TSt At c gl gd L D w){b:Nat}(d:b∈c.G){t:TypeId}{cs:Array Value}(a:za c.wG b t cs):za w b t cs:=(h.xP d).trans a
theorem TSt.lt(h:TSt At c gl gd L D w){b:Nat}(d:b∈c.G):b<c.wG.heap.size/\b<w.heap.size:=by
 obtain⟨F,f,g,i,j,k,l,a⟩:=h;have:=(a b d).2.1;omega
def uh(c:Ctx)(w W:World):Prop:=w.heap.size<=W.heap.size/\c.wG.heap.size<=w.heap.size/\∀b∈c.G,b<w.heap.size/\W.heap[b]? = w.heap[b]?
theorem TSt.keep(h:TSt At c gl gd L D w):uh c w w:=by
 refine⟨qZ _, ?_,fun b d=>⟨(h.lt d).2,rfl⟩⟩;obtain⟨F,f,g,i,j,k,a,l⟩:=h;exact a
theorem uh.qa{W d:World}(h:uh c w W)(f:ze [] W d):uh c w d:=⟨qR h.1 f.size,h.2.1,fun b a=>⟨(h.2.2 b a).1,(f.block b (by have:=(h.2.2 b a).1;have:=h.1;omega) (by simp)).trans (h.2.2 b a).2⟩⟩
theorem uh.alloc{W:World}(h:uh c w W)(o:Obj):uh c w (W.alloc o):=h.qa ((ze.refl [] W).alloc o)
theorem uh.below{W a:World}(h:uh c w W)(b:Below W.heap.size W a):uh c w a:=h.qa (ze.qm b)
theorem uh.call{a:Ctx}{W:World}(h:uh c w a.wG)(f:TSt At a gl gd L D W)(i:∀b∈c.G,b∈a.G):uh c w W:=by
 refine⟨?_,h.2.1,fun b d=>⟨(h.2.2 b d).1,(f.xP (i b d)).trans (h.2.2 b d).2⟩⟩;obtain⟨F,j,k,l,m,n,g,o⟩:=f;exact qR h.1 g
theorem TSt.xF{a:Ctx}(h:TSt At a gl gd L D w')(g:TSt At c gl gd L' D' w)(f:uh c w a.wG)(i:a.w0=c.w0)(j:a.F0=c.F0)(k:a.base=c.base)(l:a.m=c.m)(n:∀b∈c.G,b∈a.G):TSt At c gl gd L D w' :=
 h.back i j k l (qR f.2.1 f.1) (fun b d=>⟨n b d,(g.lt d).1,(f.2.2 b d).2.trans (g.xP d)⟩)
end
section
variable {At:jK}(api:jY At){c:Ctx}{gl gd:Nat}{L L':jV}{D D':zr}{w w':World}{B1 B2 B3:Nat}{nm s:Tw}
include api
theorem Dm(h:TSt At c gl gd L D w)(ok:WfP D)(f:B1∈c.G)(b:za c.wG B1 70 #[ptr gl])(g:B3∈c.G)(d:za c.wG B3 9 #[.string nm])(k:nm.size<=maxLen):
  Calls prog 200 #[ptr B1,ptr B3] w (kU At c gl gd (err (jB D nm).1) L (jB D nm).2):=by
 have t:=qQ fun(W:World) (u:TSt At c gl gd L D W)=>u.qi api (fun F hF=>api.create nm hF ok.ok k)
 have j:=qQ h;have q:w.cell? ⟨B1,0,none⟩=some (ptr gl):=(h.qp f b).cell 0;have r:w.cell? ⟨B3,0,none⟩=some (.string nm):=(h.qp g d).cell 0;have c1:=h.cells.2.1;have o:=qQ f;have m:=qQ b;have p:=qQ g;have n:=qQ d;generalize jB D nm=v at*;clear h ok f b g d k;go_enter func200,ntmps200;go_wp2_with fail
 go_region_held3 (fun w'=>w'.cell? ⟨B1,0,none⟩=some (ptr gl)/\w'.cell? ⟨gl,1,none⟩=some (ptr gd)/\w'.cell? ⟨B3,0,none⟩=some (.string nm)) (first | assumption | exact⟨by assumption,by assumption,by assumption⟩ | exact⟨q,c1,r⟩) (first
  | (go_at_call 201;refine(t.out _ (by first | exact j.out.drew api | exact j.out)).mono ?_;rintro e i⟨rfl,a⟩;have y:i.cell? ⟨gl,1,none⟩=some (ptr gd):=a.cells.2.1;have z:i.cell? ⟨B1,0,none⟩=some (ptr gl):=(a.qp o.out m.out).cell 0;have A:i.cell? ⟨B3,0,none⟩=some (.string nm):=(a.qp p.out n.out).cell 0)
  | fail)
 all_goals
  have l:=qQ a;clear a;go_wp2;go_ret;exact⟨rfl,l.out⟩
theorem Dn(h:TSt At c gl gd L D w)(ok:WfP D)(i:B1∈c.G)(d:za c.wG B1 70 #[ptr gl])(k:B3∈c.G)(g:za c.wG B3 9 #[.string nm])(j:B2∈c.G)(f:za c.wG B2 9 #[.string s])(m:nm.size<=maxLen)(C:s.size<=1000000):
  Calls prog 202 #[ptr B1,ptr B3,ptr B2] w (kU At c gl gd (err (jF D nm s).1) L (jF D nm s).2):=by
 have A:=qQ fun(W:World) (B:TSt At c gl gd L D W)=>B.qi api (fun F hF=>api.append nm s hF ok.ok (by omega) m)
 have l:=qQ h;have v:w.cell? ⟨B1,0,none⟩=some (ptr gl):=(h.qp i d).cell 0;have z:w.cell? ⟨B3,0,none⟩=some (.string nm):=(h.qp k g).cell 0;have y:w.cell? ⟨B2,0,none⟩=some (.string s):=(h.qp j f).cell 0;have c1:=h.cells.2.1;have r:=qQ i;have o:=qQ d;have u:=qQ k;have q:=qQ g;have t:=qQ j;have p:=qQ f;generalize jF D nm s=H at*;clear h ok i d k g m j f C;go_enter func202,ntmps202;go_wp2_with fail
 go_region_held3 (fun w'=>w'.cell? ⟨B1,0,none⟩=some (ptr gl)/\w'.cell? ⟨gl,1,none⟩=some (ptr gd)/\w'.cell? ⟨B3,0,none⟩=some (.string nm)/\w'.cell? ⟨B2,0,none⟩=some (.string s)) (first | assumption | exact⟨by assumption,by assumption,by assumption,by assumption⟩ | exact⟨v,c1,z,y⟩) (first
  | (go_at_call 203;refine(A.out _ (by first | exact l.out.drew api | exact l.out)).mono ?_;rintro e b⟨rfl,a⟩;have I:b.cell? ⟨gl,1,none⟩=some (ptr gd):=a.cells.2.1;have J:b.cell? ⟨B1,0,none⟩=some (ptr gl):=(a.qp r.out o.out).cell 0;have K:b.cell? ⟨B3,0,none⟩=some (.string nm):=(a.qp u.out q.out).cell 0;have M:b.cell? ⟨B2,0,none⟩=some (.string s):=(a.qp t.out p.out).cell 0)
  | fail)
 all_goals
  have n:=qQ a;clear a;go_wp2;go_ret;exact⟨rfl,n.out⟩
end
def yU{α:Type}(a b c d:α):Nat->α
 | 0=>a
 | 1=>b
 | 2=>c
 | _=>d
theorem Zo{D:zr}{L:jV}(ok:WfP D):WfP (kT D L).2.1:=by
 unfold kT;split
 ·exact ok
 ·split<;>exact mf ok _
section
variable {At:jK}(api:jY At)(nap:jz)(cap:kc){c:Ctx}{gl gd:Nat}{L L':jV}{D D':zr}{w w':World}
include api nap
theorem Dp{B1 B2 B3 B4:Nat}{nm s:Tw}(h:TSt At c gl gd L D w)(ok:WfP D)(v:L.chunks<=200)(r:B1∈c.G)(o:za c.wG B1 70 #[ptr gl])(t:B3∈c.G)(p:za c.wG B3 9 #[.string nm])(B:B2∈c.G)(z:za c.wG B2 9 #[.string s])
  (C:B4∈c.G) (J:TypeId) (A:za c.wG B4 J #[.func (.func 97) #[ptr gl] #[],.func (.func 200) #[] #[ptr B1,ptr B3],.func (.func 202) #[] #[ptr B1,ptr B3,ptr B2]]) (m:nm.size<=maxLen) (y:s.size<=1000000):
  Calls prog 76 #[.slice (some ⟨B4,0,none⟩) 3 3] w (kU At c gl gd (err (vf (vf (kT D L) (onD fun E=>jB E nm)) (onD fun E=>jF E nm s)).1) (vf (vf (kT D L) (onD fun E=>jB E nm)) (onD fun E=>jF E nm s)).2.2 (vf (vf (kT D L) (onD fun E=>jB E nm)) (onD fun E=>jF E nm s)).2.1):=by
 have u:WfP (kT D L).2.1:=Zo ok;have F:WfP (jB (kT D L).2.1 nm).2:=mg u nm
 have H:=si (b:=B4) (n:=3) (by omega) (yU (kT D L).1 (jB (kT D L).2.1 nm).1 (jF (jB (kT D L).2.1 nm).2 nm s).1 0)
  (fun k W=>TSt At c gl gd (yU L (kT D L).2.2 (kT D L).2.2 (kT D L).2.2 k) (yU D (kT D L).2.1 (jB (kT D L).2.1 nm).2 (jF (jB (kT D L).2.1 nm).2 nm s).2 k) W)
  (yU 97 200 202 0) (yU #[ptr gl] #[] #[] #[]) (yU #[] #[ptr B1,ptr B3] #[ptr B1,ptr B3,ptr B2] #[])
  (fun k f=>by
   match k,f with
   | 0,_=>exact enters_of func97 (by kernel_rfl) rfl
   | 1,_=>exact enters_of func200 (by kernel_rfl) rfl
   | 2,_=>exact enters_of func202 (by kernel_rfl) rfl)
  (fun k W f d=>by
   have q:=(d.qp C A).cell k
   match k,f with
   | 0,_=>exact q
   | 1,_=>exact q
   | 2,_=>exact q)
  (fun k W f d=>by
   match k,f with
   | 0,_=>exact Dc api nap d ok v
   | 1,_=>exact Dm api d u r o t p m
   | 2,_=>exact Dn api d F r o t p B z m y) w h
 refine H.mono ?_;rintro e w'⟨rfl,d⟩;generalize kT D L=a at*;obtain⟨I,i,K⟩:=a;dsimp only at d ⊢;by_cases j:I=0
 ·subst j;by_cases g:(jB i nm).1=0
  ·by_cases l:(jF (jB i nm).2 nm s).1=0
   ·simp[stR,yU,vf,onD,g,l]at d ⊢;exact⟨by simp,d⟩
   ·simp[stR,yU,vf,onD,g,l]at d ⊢;exact⟨rfl,d⟩
  ·simp[stR,yU,vf,onD,g]at d ⊢;exact⟨rfl,d⟩
 ·simp[stR,yU,vf,j]at d ⊢;exact⟨rfl,d⟩
end
section
variable {At:jK}(api:jY At)(nap:jz)(cap:kc){c:Ctx}{gl gd:Nat}{L L':jV}{D D':zr}{w w':World}
include api nap cap
theorem Dr(h:TSt At c gl gd L D w)(ok:WfP D)(I:L.chunks<=200)(r:Tw)(hr:r.size<=100000):
  Calls prog 147 #[ptr gl,.string r] w (kU At c gl gd (err (uf D L r).1) (uf D L r).2.2 (uf D L r).2.1):=by
 have F:(hdS (L.chunks:Nat)++r).size<=1000000:=by
  rw[qT]
  have:(hdS (L.chunks:Nat)).size<=12:=by
   by_cases q:L.chunks<=199
   ·rw[cL q];exact qZ _
   ·rw[sc (by omega)];exact qH _
  omega
 have ha:∀W:World,(Op.stringOp .add (hdS (L.chunks:Nat)) r).run prog W = .ok (.string (hdS (L.chunks:Nat)++r)) W:=fun W=>run_string_add_sum (P:=prog) (w:=W) _ _ (by rw[qT]at F;omega)
 have Z:=qQ fun(W:World)=>cap.head (L.chunks:Nat) W (bY (by omega))
 have B:=h.box api (.cells #[ptr gl] 70);obtain⟨c0,c1,c2,c3,X,Y⟩:=B.cells;have q1:=(za.new w 70 #[ptr gl]).cell 0;have o:=qQ h;have K:=qQ B;have N:=qQ (za.new w 70 #[ptr gl]);have U:=qQ ok;have O:=qQ I;have Q:=qQ F;unfold uf;by_cases H:200<=L.chunks
 ·rw[qK (qX H)];have t1:decide ((200:Int)<=(L.chunks:Int))=true:=qW (by omega);generalize J:hdS (L.chunks:Nat)++r=s at*;generalize G:hdS (L.chunks:Nat)=hd at*;clear h B F ok hr H I c0 c2 X Y J G;generalize m:(L.chunks:Int)=n at*;have t:=qQ (o.out.keep.alloc (.cells #[ptr gl] 70));generalize ac:w.heap.size=B1 at*;generalize C:w.alloc (.cells #[ptr gl] 70)=W1 at*;have aa:=qQ C;go_enter func147,ntmps147;go_wp2_with fail;refine(Z.out _).mono ?_;rintro e i⟨rfl,a⟩;have k:=K.out.below api a;have l:=N.out.qa (ze.qm a) (by simp);have d:=k.box api (.cells #[.string s] 9);have f:=(za.new i 9 #[.string s])
  have g:=l.alloc (.cells #[.string s] 9);obtain⟨u,d1,v,y,z,A⟩:=d.cells;rw[m]at y;have q2:=f.cell 0;have q3:=g.cell 0;have p:=qQ ((t.out.below a).alloc (.cells #[.string s] 9));generalize ad:i.heap.size=B2 at*;generalize ae:i.alloc (.cells #[.string s] 9)=W2 at*;have H3:=qQ d;have T:=qQ f;have S:=qQ g;clear l a k d f g u v z A;go_wp2;go_ret;exact⟨rfl,H3.out.xF o.out p.out rfl rfl rfl rfl (fun b a=>by simp[a])⟩
 have t1:decide ((200:Int)<=(L.chunks:Int))=false:=qG (by omega);have ak:IntKind.i64.wrap (L.chunks:Int)=(L.chunks:Int):=IntWalk.i64_in _ (by omega);generalize J:hdS (L.chunks:Nat)++r=s at*;generalize G:hdS (L.chunks:Nat)=hd at*;cases hq:y8 D s
 ·rw[qK (qY rfl)];clear h B F ok hr H I c0 c2 X Y J G;generalize m:(L.chunks:Int)=n at*;have t:=qQ (o.out.keep.alloc (.cells #[ptr gl] 70));generalize ac:w.heap.size=B1 at*;generalize C:w.alloc (.cells #[ptr gl] 70)=W1 at*;have aa:=qQ C;go_enter func147,ntmps147;go_wp2_with fail;refine(Z.out _).mono ?_;rintro e i⟨rfl,a⟩;have k:=K.out.below api a;have l:=N.out.qa (ze.qm a) (by simp);have d:=k.box api (.cells #[.string s] 9);have f:=(za.new i 9 #[.string s])
  have g:=l.alloc (.cells #[.string s] 9);obtain⟨u,d1,v,y,z,A⟩:=d.cells;rw[m]at y;have q2:=f.cell 0;have q3:=g.cell 0;have p:=qQ ((t.out.below a).alloc (.cells #[.string s] 9));generalize ad:i.heap.size=B2 at*;generalize ae:i.alloc (.cells #[.string s] 9)=W2 at*;have R:=qQ (se api d U.out s Q.out);rw[hq]at R;have T:=qQ f;have S:=qQ g;clear l a k d f g u v z A;go_wp2_with fail;refine R.out.mono ?_;rintro e w3⟨rfl,j⟩;have ab:=qQ (p.out.call j (fun b a=>by simp[a]));have M:=qQ j;clear j R;go_wp2;go_ret;exact⟨rfl,M.out.xF o.out p.out rfl rfl rfl rfl (fun b a=>by simp[a])⟩
 ·rw[qJ (by simp;omega)];clear h B F ok hr H I c0 c2 X Y J G;generalize m:(L.chunks:Int)=n at*;have hN:=qQ fun W=>(fW nap L.chunks W (by have:=O.out;omega))
  have af:=qQ (dH (n:=L.chunks) (by have:=O.out;omega));rw[m]at hN;generalize nmC L.chunks=nm at*;have t:=qQ (o.out.keep.alloc (.cells #[ptr gl] 70));generalize ac:w.heap.size=B1 at*;generalize C:w.alloc (.cells #[ptr gl] 70)=W1 at*;have aa:=qQ C;go_enter func147,ntmps147;go_wp2_with fail;refine(Z.out _).mono ?_;rintro e i⟨rfl,a⟩;have k:=K.out.below api a;have l:=N.out.qa (ze.qm a) (by simp);have d:=k.box api (.cells #[.string s] 9);have f:=(za.new i 9 #[.string s])
  have g:=l.alloc (.cells #[.string s] 9);obtain⟨u,d1,v,y,z,A⟩:=d.cells;rw[m]at y;have q2:=f.cell 0;have q3:=g.cell 0;have p:=qQ ((t.out.below a).alloc (.cells #[.string s] 9));generalize ad:i.heap.size=B2 at*;generalize ae:i.alloc (.cells #[.string s] 9)=W2 at*;have R:=qQ (se api d U.out s Q.out);rw[hq]at R;have T:=qQ f;have S:=qQ g;clear l a k d f g u v z A;go_wp2_with fail;refine R.out.mono ?_;rintro e w3⟨rfl,j⟩;have V:=j.qp (b:=B1) (by simp) S.out;have b2:=j.qp (b:=B2) (by simp) T.out;have g1:=V.cell 0;have g3:=j.cells.2.2.2.1;rw[m]at g3;have ab:=qQ (p.out.call j (fun b a=>by simp[a]));have M:=qQ j;have X1:=qQ V;have X2:=qQ b2;clear j V b2 R;go_wp2_with fail;refine(hN.out _).mono ?_;rintro e w4⟨rfl,a⟩;have h5:=M.out.below api a;have x1:=X1.out.qa (ze.qm a) (by simp);have x2:=X2.out.qa (ze.qm a) (by simp);have h6:=h5.box api (.cells #[.string nm] 9);have y3:=(za.new w4 9 #[.string nm])
  have y1:=x1.alloc (.cells #[.string nm] 9);have y2:=x2.alloc (.cells #[.string nm] 9);have q1:=y1.cell 0;have ag:=qQ ((ab.out.below a).alloc (.cells #[.string nm] 9));generalize ah:w4.heap.size=B3 at*;generalize ai:w4.alloc (.cells #[.string nm] 9)=W4 at*;have aj:∀(fn:Fn) (first cap:Array Value) (w:World),(Instr.makeFunc fn first cap).run prog w = .ok (.func fn first cap) w:=fun _ _ _ _=>rfl
  have H6:=qQ h6;have Y1:=qQ y1;have Y2:=qQ y2;have Y3:=qQ y3;clear a h5 x1 x2 h6 y1 y2 y3;go_wp2_with fail;have y4:=za.new W4 56 #[.func (.func 97) #[ptr gl] #[],.func (.func 200) #[] #[ptr B1,ptr B3],.func (.func 202) #[] #[ptr B1,ptr B3,ptr B2]];refine(Dp api nap (H6.out.box api (.cells #[.func (.func 97) #[ptr gl] #[],.func (.func 200) #[] #[ptr B1,ptr B3],.func (.func 202) #[] #[ptr B1,ptr B3,ptr B2]] 56)) U.out O.out (B1:=B1) (B2:=B2) (B3:=B3) (B4:=W4.heap.size) (by simp) (Y1.out.alloc _) (by simp) (Y3.out.alloc _) (by simp) (Y2.out.alloc _) (by simp) _ y4 af.out Q.out).mono ?_;rintro e w6⟨rfl,h7⟩;have h8:=qQ (h7.xF o.out (ag.out.alloc _) rfl rfl rfl rfl (fun b a=>by simp[a]));clear h7 y4;go_wp2;go_ret;exact⟨rfl,h8.out⟩
end
theorem Ds{D:zr}{L:jV}(ok:WfP D)(d:L.chunks<=200)(p:Tw):(vn D L p).1<=L.chunks/\(vn D L p).2.1<=1048576/\((vn D L p).2.2=0->(vn D L p).1≠L.chunks->0<L.chunks):=by
 have b:=ou ok (nmC (L.chunks-1));unfold vn;split
 ·rename_i a;exact⟨qH _,Nat.le_of_lt (show 12<1048576 by decide),fun _ h=>absurd a.symm h⟩
 ·split
  ·split
   ·exact⟨Nat.sub_le _ _,b,fun _ _=>by omega⟩
   ·exact⟨qZ _,Nat.le_of_lt (show 12<1048576 by decide),fun _ h=>absurd rfl h⟩
  ·exact⟨qH _,qH _,fun h=>absurd h (by assumption)⟩
theorem og{a:Nat × zr × jV}{f:zr->jV->Nat × zr × jV}(h:WfP a.2.1)(b:∀D L,WfP D->WfP (f D L).2.1):WfP (vf a f).2.1:=by
 unfold vf;split
 ·exact b _ _ h
 ·exact h
theorem Dt{D:zr}{L:jV}(ok:WfP D)(r:Tw):WfP (uf D L r).2.1:=by
 unfold uf;split
 ·exact ok
 ·exact og (og (Zo ok) (fun E _ h=>mg h _)) (fun E _ h=>mc h _ _)
theorem Da{D:zr}{L:jV}(ok:WfP D)(r:Tw):WfP (yK D L r).2:=by
 unfold yK;split
 ·exact ok
 ·exact mc ok _ _
theorem Zw{D:zr}{L:jV}(ok:WfP D)(p:Tw):WfP (yV D L p).2.2.1:=by
 unfold yV;split
 ·exact ok
 ·split
  ·exact ok
  ·split
   ·exact ok
   ·have a:WfP (if (vn D L p).1=L.chunks then uf D L (jZ p) else onD (fun E=>yK E L (jZ p)) D L).2.1:=by
     split
     ·exact Dt ok _
     ·exact Da ok _
    dsimp only;generalize (if (vn D L p).1=L.chunks then uf D L (jZ p) else onD (fun E=>yK E L (jZ p)) D L)=r at a ⊢;split<;>exact a
section
variable {At:jK}(api:jY At)(nap:jz)(cap:kc){c:Ctx}{gl gd:Nat}{L L':jV}{D D':zr}{w w':World}
include api nap
variable (cap:kc)
include cap
theorem JQ(G:c.m=ptr gl)(h:TSt At c gl gd L D w)(ok:WfP D)(q:L.chunks<=200)(p:Tw)(C:p.size<=maxLen):Calls prog 88 #[ptr gl,.string p] w (kU At c gl gd (.tuple #[.int .i64 ((yV D L p).1:Nat),err (yV D L p).2.1]) (yV D L p).2.2.2 (yV D L p).2.2.1):=by
 have H:=qQ (lY api G h);unfold yV;by_cases A:vU D L=0
 case neg =>
  rw[qK A];have t:((vU D L:Int) != 0)=true:=by simp;omega
  generalize vU D L=y at*;clear h ok q A G C;go_enter func88,ntmps88;go_wp2_with fail;refine H.out.mono ?_;rintro e Q⟨rfl,b⟩;have i:=qQ b;clear b;go_wp2;go_ret2;exact⟨rfl,i.out⟩
 rw[qJ (by simp[A])];rw[A]at H;clear A;have F:=qQ fun(W:World)=>cap.put p W C
 by_cases u:2000<p.size
 ·rw[qK u];have z:prE p=3:=by unfold prE;rw[qK u]
  rw[z]at F;generalize prS p=T at*;clear h ok q G C u z;go_enter func88,ntmps88;go_wp2_with fail;refine H.out.mono ?_;rintro e Q⟨rfl,b⟩;have i:=qQ b;clear b;go_wp2_with fail;refine(F.out _).mono ?_;rintro e U⟨rfl,f⟩;have k:=qQ (i.out.below api f);clear f;go_wp2;go_ret2;exact⟨rfl,k.out⟩
 rw[qJ u];have z:prE p=0:=by unfold prE;rw[qJ u]
 have K:prS p=jZ p:=by unfold prS;rw[qJ u]
 rw[z,K]at F;have S:(jZ p).size<=2012:=by rw[yT];omega
 have j:=qQ fun(W:World) (j:TSt At c gl gd L D W)=>Dd api nap cap j ok q p C
 obtain⟨O,P,I⟩:=Ds ok q p;generalize vn D L p=tg at*;obtain⟨n,a,e⟩:=tg;dsimp only at O P I j ⊢;by_cases A:e=0
 case neg =>
  rw[qK A];have t:((e:Int) != 0)=true:=by simp;omega
  generalize jZ p=T at*;clear h ok q G C u z K O P I S A;go_enter func88,ntmps88;go_wp2_with fail;refine H.out.mono ?_;rintro e Q⟨rfl,b⟩;have i:=qQ b;clear b;go_wp2_with fail;refine(F.out _).mono ?_;rintro e U⟨rfl,f⟩;have k:=qQ (i.out.below api f);clear f;go_wp2_with fail;refine(j.out _ k.out).mono ?_;rintro e w3⟨rfl,d⟩;have v:=qQ d;clear d;go_wp2;go_ret2;exact⟨rfl,v.out⟩
 subst A;rw[qJ (by simp)];have hFr:=qQ fun(W:World)=>ov n W (by omega)
 have V:(n:Int)<=200:=by omega
 have X:(a:Int)<=1048576:=by omega
 have Y:(0:Int)<=n:=by omega
 have Z:(0:Int)<=a:=by omega
 have k5:((jZ p).size:Int)<=2012:=by omega
 have ab:IntKind.i64.wrap ((n:Int)*4096+(a:Int))=(n:Int)*4096+(a:Int):=IntWalk.i64_in _ (by omega);have ac:IntKind.i64.wrap ((n:Int)*4096+(a:Int)+((jZ p).size:Nat))=(n:Int)*4096+(a:Int)+((jZ p).size:Nat):=IntWalk.i64_in _ (by omega);have ad:IntKind.i64.wrap ((n:Int)+1)=(n:Int)+1:=IntWalk.i64_in _ (by omega);have N:((4096*n+a:Nat):Int)=(n:Int)*4096+(a:Int):=by omega
 have M:((4096*n+a+(jZ p).size:Nat):Int)=(n:Int)*4096+(a:Int)+((jZ p).size:Nat):=by omega
 by_cases B:n=L.chunks
 ·rw[qK B];have J:=qQ fun(W:World) (j:TSt At c gl gd L D W)=>Dr api nap cap j ok q (jZ p) (by omega)
  generalize uf D L (jZ p)=r at*;generalize jZ p=T at*;have t1:((n:Int)==(L.chunks:Int))=true:=by rw[B];simp
  have EN:=qQ N;have EE:=qQ M;have HN:=qQ B;by_cases l:r.1=0
  case neg =>
   rw[qK l];have t:((r.1:Int) != 0)=true:=(by simp;omega);generalize r.1=y at*;clear h ok q G C u z K O P I S l V X Y Z k5 B N M;go_enter func88,ntmps88;go_wp2_with fail;refine H.out.mono ?_;rintro e Q⟨rfl,b⟩;have i:=qQ b;clear b;go_wp2_with fail;refine(F.out _).mono ?_;rintro e U⟨rfl,f⟩;have k:=qQ (i.out.below api f);clear f;go_wp2_with fail;refine(j.out _ k.out).mono ?_;rintro e w3⟨rfl,d⟩;have c3:=d.cells.2.2.2.1;have v:=qQ d;clear d;go_wp2_with fail;refine(J.out _ v.out).mono ?_;rintro e w4⟨rfl,o⟩;have g:=qQ o;clear o;go_wp2;go_ret2;exact⟨rfl,g.out⟩
  rw[qJ (by simp[l])];rw[l]at J;clear h ok q G C u z K O P I S l V X Y Z k5 B N M;go_enter func88,ntmps88;go_wp2_with fail;refine H.out.mono ?_;rintro e Q⟨rfl,b⟩;have i:=qQ b;clear b;go_wp2_with fail;refine(F.out _).mono ?_;rintro e U⟨rfl,f⟩;have k:=qQ (i.out.below api f);clear f;go_wp2_with fail;refine(j.out _ k.out).mono ?_;rintro e w3⟨rfl,d⟩;have c3:=d.cells.2.2.2.1;have v:=qQ d;clear d;go_wp2_with fail;refine(J.out _ v.out).mono ?_;rintro e w4⟨rfl,o⟩;have g:=qQ o;clear o;go_wp2_with fail;refine(hFr.out _).mono ?_;rintro e w5⟨rfl,rfl⟩;have d3:=g.out.cells.2.2.2.1;have d4:=g.out.cells.2.2.2.2.1;have f3:=g.out.frozen 3;have f4:=g.out.frozen 4;go_wp2;have R:=(g.out.xy api (n+1)).xI api (4096*n+a+T.size);rw[EE.out,show((n+1:Nat):Int)=(n:Int)+1 from by omega]at R;go_ret2;exact⟨by rw[EN.out];rfl,R⟩
 ·rw[qJ B];have aa:=I rfl B;have J:=qQ fun(W:World) (j:TSt At c gl gd L D W)=>(show Calls prog 148 #[ptr gl,.string (jZ p)] W (kU At c gl gd (err (onD (fun E=>yK E L (jZ p)) D L).1) (onD (fun E=>yK E L (jZ p)) D L).2.2 (onD (fun E=>yK E L (jZ p)) D L).2.1) from Df api nap j ok q aa (jZ p) (by omega))
  generalize onD (fun E=>yK E L (jZ p)) D L=r at*;generalize jZ p=T at*;have t1:((n:Int)==(L.chunks:Int))=false:=by simp;omega
  have EN:=qQ N;have EE:=qQ M;by_cases l:r.1=0
  case neg =>
   rw[qK l];have t:((r.1:Int) != 0)=true:=(by simp;omega);generalize r.1=y at*;clear h ok q G C u z K O P I S l V X Y Z k5 B N M aa;go_enter func88,ntmps88;go_wp2_with fail;refine H.out.mono ?_;rintro e Q⟨rfl,b⟩;have i:=qQ b;clear b;go_wp2_with fail;refine(F.out _).mono ?_;rintro e U⟨rfl,f⟩;have k:=qQ (i.out.below api f);clear f;go_wp2_with fail;refine(j.out _ k.out).mono ?_;rintro e w3⟨rfl,d⟩;have c3:=d.cells.2.2.2.1;have v:=qQ d;clear d;go_wp2_with fail;refine(J.out _ v.out).mono ?_;rintro e w4⟨rfl,o⟩;have g:=qQ o;clear o;go_wp2;go_ret2;exact⟨rfl,g.out⟩
  rw[qJ (by simp[l])];rw[l]at J;clear h ok q G C u z K O P I S l V X Y Z k5 B N M aa;go_enter func88,ntmps88;go_wp2_with fail;refine H.out.mono ?_;rintro e Q⟨rfl,b⟩;have i:=qQ b;clear b;go_wp2_with fail;refine(F.out _).mono ?_;rintro e U⟨rfl,f⟩;have k:=qQ (i.out.below api f);clear f;go_wp2_with fail;refine(j.out _ k.out).mono ?_;rintro e w3⟨rfl,d⟩;have c3:=d.cells.2.2.2.1;have v:=qQ d;clear d;go_wp2_with fail;refine(J.out _ v.out).mono ?_;rintro e w4⟨rfl,o⟩;have g:=qQ o;clear o;go_wp2_with fail;refine(hFr.out _).mono ?_;rintro e w5⟨rfl,rfl⟩;have d3:=g.out.cells.2.2.2.1;have d4:=g.out.cells.2.2.2.2.1;have f3:=g.out.frozen 3;have f4:=g.out.frozen 4;go_wp2;have R:=(g.out.xy api (n+1)).xI api (4096*n+a+T.size);rw[EE.out,show((n+1:Nat):Int)=(n:Int)+1 from by omega]at R;go_ret2;exact⟨by rw[EN.out];rfl,R⟩
end
theorem me: jH.size<=maxLen:=by decide
def bd{α:Type}(a b c d e:α):Nat->α
 | 0=>a
 | 1=>b
 | 2=>c
 | 3=>d
 | _=>e
section
variable {At:jK}(api:jY At){c:Ctx}{gl gd:Nat}{L L':jV}{D D':zr}{w w':World}{B1 B2 B3:Nat}{nm s:Tw}
include api
theorem De(h:TSt At c gl gd L D w)(ok:WfP D)(b:B1∈c.G)(a:za c.wG B1 70 #[ptr gl]):
  Calls prog 241 #[ptr B1] w (kU At c gl gd (err (jB D jH).1) L (jB D jH).2):=by
 have i:=qQ fun(W:World) (j:TSt At c gl gd L D W)=>j.qi api (fun F hF=>api.create jH hF ok.ok me)
 have g:=qQ h;have n:w.cell? ⟨B1,0,none⟩=some (ptr gl):=(h.qp b a).cell 0;have c1:=h.cells.2.1;have m:=qQ b;have l:=qQ a;generalize jB D jH=k at*;have o:(⟨#[110,101,119]⟩:Tw)=jH:=rfl;clear h ok b a;go_enter func241,ntmps241;go_wp2_with fail;refine(i.out _ g.out).mono ?_;rintro e p⟨rfl,d⟩;have f:=qQ d;clear d;go_wp2;go_ret;exact⟨rfl,f.out⟩
theorem Di(h:TSt At c gl gd L D w)(ok:WfP D)(f:B1∈c.G)(b:za c.wG B1 70 #[ptr gl])(g:B3∈c.G)(d:za c.wG B3 9 #[.string s])(u:s.size<=1100000):
  Calls prog 242 #[ptr B1,ptr B3] w (kU At c gl gd (err (jF D jH s).1) L (jF D jH s).2):=by
 have r:=qQ fun(W:World) (t:TSt At c gl gd L D W)=>t.qi api (fun F hF=>api.append jH s hF ok.ok (by omega) me)
 have j:=qQ h;have p:w.cell? ⟨B1,0,none⟩=some (ptr gl):=(h.qp f b).cell 0;have c1:=h.cells.2.1;have n:=qQ f;have l:=qQ b;have q:w.cell? ⟨B3,0,none⟩=some (.string s):=(h.qp g d).cell 0;have o:=qQ g;have m:=qQ d;generalize jF D jH s=v at*;have B:(⟨#[110,101,119]⟩:Tw)=jH:=rfl;clear h ok f b g d u;go_enter func242,ntmps242;go_wp2_with fail
 go_region_held3 (fun w'=>w'.cell? ⟨B1,0,none⟩=some (ptr gl)/\w'.cell? ⟨gl,1,none⟩=some (ptr gd)/\w'.cell? ⟨B3,0,none⟩=some (.string s)) (first | assumption | exact⟨by assumption,by assumption,by assumption⟩ | exact⟨p,c1,q⟩) (first
  | (go_at_call 203;refine(r.out _ (by first | exact j.out.drew api | exact j.out)).mono ?_;rintro e i⟨rfl,a⟩;have y:i.cell? ⟨gl,1,none⟩=some (ptr gd):=a.cells.2.1;have z:i.cell? ⟨B1,0,none⟩=some (ptr gl):=(a.qp n.out l.out).cell 0;have A:i.cell? ⟨B3,0,none⟩=some (.string s):=(a.qp o.out m.out).cell 0)
  | fail)
 all_goals
  have k:=qQ a;clear a;go_wp2;go_ret;exact⟨rfl,k.out⟩
theorem Do(h:TSt At c gl gd L D w)(ok:WfP D)(b:B1∈c.G)(a:za c.wG B1 70 #[ptr gl]):
  Calls prog 243 #[ptr B1] w (kU At c gl gd (err (j6 D jH).1) L (j6 D jH).2):=by
 have i:=qQ fun(W:World) (j:TSt At c gl gd L D W)=>j.qi api (fun F hF=>api.sync jH hF ok.ok me)
 have g:=qQ h;have n:w.cell? ⟨B1,0,none⟩=some (ptr gl):=(h.qp b a).cell 0;have c1:=h.cells.2.1;have m:=qQ b;have l:=qQ a;generalize j6 D jH=k at*;have o:(⟨#[110,101,119]⟩:Tw)=jH:=rfl;clear h ok b a;go_enter func243,ntmps243;go_wp2_with fail;refine(i.out _ g.out).mono ?_;rintro e p⟨rfl,d⟩;have f:=qQ d;clear d;go_wp2;go_ret;exact⟨rfl,f.out⟩
theorem Dw(h:TSt At c gl gd L D w)(ok:WfP D)(f:B1∈c.G)(b:za c.wG B1 70 #[ptr gl])(g:B2∈c.G)(d:za c.wG B2 9 #[.string nm])(k:nm.size<=maxLen):
  Calls prog 244 #[ptr B1,ptr B2] w (kU At c gl gd (err (vY D jH nm).1) L (vY D jH nm).2):=by
 have t:=qQ fun(W:World) (u:TSt At c gl gd L D W)=>u.qi api (fun F hF=>api.rename jH nm hF ok.ok k me)
 have j:=qQ h;have q:w.cell? ⟨B1,0,none⟩=some (ptr gl):=(h.qp f b).cell 0;have c1:=h.cells.2.1;have o:=qQ f;have m:=qQ b;have r:w.cell? ⟨B2,0,none⟩=some (.string nm):=(h.qp g d).cell 0;have p:=qQ g;have n:=qQ d;generalize vY D jH nm=v at*;have B:(⟨#[110,101,119]⟩:Tw)=jH:=rfl;clear h ok f b g d k;go_enter func244,ntmps244;go_wp2_with fail
 go_region_held3 (fun w'=>w'.cell? ⟨B1,0,none⟩=some (ptr gl)/\w'.cell? ⟨gl,1,none⟩=some (ptr gd)/\w'.cell? ⟨B2,0,none⟩=some (.string nm)) (first | assumption | exact⟨by assumption,by assumption,by assumption⟩ | exact⟨q,c1,r⟩) (first
  | (go_at_call 245;refine(t.out _ (by first | exact j.out.drew api | exact j.out)).mono ?_;rintro e i⟨rfl,a⟩;have y:i.cell? ⟨gl,1,none⟩=some (ptr gd):=a.cells.2.1;have z:i.cell? ⟨B1,0,none⟩=some (ptr gl):=(a.qp o.out m.out).cell 0;have A:i.cell? ⟨B2,0,none⟩=some (.string nm):=(a.qp p.out n.out).cell 0)
  | fail)
 all_goals
  have l:=qQ a;clear a;go_wp2;go_ret;exact⟨rfl,l.out⟩
theorem FQ{B4:Nat}(h:TSt At c gl gd L D w)(ok:WfP D)(j:B1∈c.G)(i:za c.wG B1 70 #[ptr gl])(z:B2∈c.G)(u:za c.wG B2 9 #[.string nm])(A:B3∈c.G)(v:za c.wG B3 9 #[.string s])
  (B:B4∈c.G) (F:TypeId) (y:za c.wG B4 F #[.func (.func 241) #[] #[ptr B1],.func (.func 242) #[] #[ptr B1,ptr B3],.func (.func 243) #[] #[ptr B1],.func (.func 244) #[] #[ptr B1,ptr B2]]) (r:nm.size<=maxLen) (t:s.size<=1100000):
  Calls prog 76 #[.slice (some ⟨B4,0,none⟩) 4 4] w (kU At c gl gd (err (dF D nm s).1) L (dF D nm s).2):=by
 have o:WfP (jB D jH).2:=mg ok jH;have p:WfP (jF (jB D jH).2 jH s).2:=mc o jH s;have C:WfP (j6 (jF (jB D jH).2 jH s).2 jH).2:=mf p jH
 have H:=si (b:=B4) (n:=4) (by omega) (bd (jB D jH).1 (jF (jB D jH).2 jH s).1 (j6 (jF (jB D jH).2 jH s).2 jH).1 (vY (j6 (jF (jB D jH).2 jH s).2 jH).2 jH nm).1 0)
  (fun k W=>TSt At c gl gd L (bd D (jB D jH).2 (jF (jB D jH).2 jH s).2 (j6 (jF (jB D jH).2 jH s).2 jH).2 (vY (j6 (jF (jB D jH).2 jH s).2 jH).2 jH nm).2 k) W)
  (bd 241 242 243 244 0) (bd #[] #[] #[] #[] #[]) (bd #[ptr B1] #[ptr B1,ptr B3] #[ptr B1] #[ptr B1,ptr B2] #[])
  (fun k f=>by
   match k,f with
   | 0,_=>exact enters_of func241 (by kernel_rfl) rfl
   | 1,_=>exact enters_of func242 (by kernel_rfl) rfl
   | 2,_=>exact enters_of func243 (by kernel_rfl) rfl
   | 3,_=>exact enters_of func244 (by kernel_rfl) rfl)
  (fun k W f a=>by
   have q:=(a.qp B y).cell k
   match k,f with
   | 0,_=>exact q
   | 1,_=>exact q
   | 2,_=>exact q
   | 3,_=>exact q)
  (fun k W f a=>by
   match k,f with
   | 0,_=>exact De api a ok j i
   | 1,_=>exact Di api a o j i A v t
   | 2,_=>exact Do api a p j i
   | 3,_=>exact Dw api a C j i z u r) w h
 refine H.mono ?_;rintro e w'⟨rfl,a⟩;unfold dF;by_cases d:(jB D jH).1=0
 ·by_cases g:(jF (jB D jH).2 jH s).1=0
  ·by_cases l:(j6 (jF (jB D jH).2 jH s).2 jH).1=0
   ·by_cases m:(vY (j6 (jF (jB D jH).2 jH s).2 jH).2 jH nm).1=0
    ·simp[stR,bd,bg,d,g,l,m]at a ⊢;exact⟨by simp,a⟩
    ·simp[stR,bd,bg,d,g,l,m]at a ⊢;exact⟨rfl,a⟩
   ·simp[stR,bd,bg,d,g,l]at a ⊢;exact⟨rfl,a⟩
  ·simp[stR,bd,bg,d,g]at a ⊢;exact⟨rfl,a⟩
 ·simp[stR,bd,bg,d]at a ⊢;exact⟨rfl,a⟩
theorem FX(h:TSt At c gl gd L D w)(ok:WfP D)(p:nm.size<=maxLen)(q:s.size<=1100000):
  Calls prog 190 #[ptr gl,.string nm,.string s] w (kU At c gl gd (err (dF D nm s).1) L (dF D nm s).2):=by
 have A:=qQ ok;have v:=qQ p;have y:=qQ q;have u:=qQ h;have k:=h.box api (.cells #[ptr gl] 70);have d:=za.new w 70 #[ptr gl];have a:=h.keep.alloc (.cells #[ptr gl] 70);generalize G:w.heap.size=B1 at*;generalize J:w.alloc (.cells #[ptr gl] 70)=g at*;have l:=k.box api (.cells #[.string nm] 9);have f:=za.new g 9 #[.string nm];have d:=d.alloc (.cells #[.string nm] 9);have a:=a.alloc (.cells #[.string nm] 9);generalize H:g.heap.size=B2 at*;generalize K:g.alloc (.cells #[.string nm] 9)=i at*;have m:=l.box api (.cells #[.string s] 9);have r:=za.new i 9 #[.string s];have d:=d.alloc (.cells #[.string s] 9);have f:=f.alloc (.cells #[.string s] 9);have a:=a.alloc (.cells #[.string s] 9);generalize I:i.heap.size=B3 at*;generalize M:i.alloc (.cells #[.string s] 9)=B at*;have n:=m.box api (.cells #[.func (.func 241) #[] #[ptr B1],.func (.func 242) #[] #[ptr B1,ptr B3],.func (.func 243) #[] #[ptr B1],.func (.func 244) #[] #[ptr B1,ptr B2]] 56);have t:=za.new B 56 #[.func (.func 241) #[] #[ptr B1],.func (.func 242) #[] #[ptr B1,ptr B3],.func (.func 243) #[] #[ptr B1],.func (.func 244) #[] #[ptr B1,ptr B2]];have a:=a.alloc (.cells #[.func (.func 241) #[] #[ptr B1],.func (.func 242) #[] #[ptr B1,ptr B3],.func (.func 243) #[] #[ptr B1],.func (.func 244) #[] #[ptr B1,ptr B2]] 56);have N:∀(j:Fn) (first cap:Array Value) (w:World),(Instr.makeFunc j first cap).run prog w = .ok (.func j first cap) w:=fun _ _ _ _=>rfl
 have R:=qQ (FQ api n A.out (B1:=B1) (B2:=B2) (B3:=B3) (by simp) (d.alloc _) (by simp) (f.alloc _) (by simp) (r.alloc _) (by simp) _ t v.out y.out);have z:=qQ a;clear h ok p q k l m n d f r t a;go_enter func190,ntmps190;go_wp2_with fail;refine R.out.mono ?_;rintro e O⟨rfl,o⟩;have C:=qQ (o.xF u.out z.out rfl rfl rfl rfl (fun b F=>by simp[F]));clear o;go_wp2;go_ret;exact⟨rfl,C.out⟩
end
end
section
open Go.RowKit
theorem FZ(s:Tw):bs s.data.toList=s:=by
 apply ByteArray.ext;simp[bs]
theorem FJ(s:Tw)(h:s.size=4):bs (be 4 (jJ s))=s:=by
 have a:s.data.toList.length=4:=by rw[Array.length_toList];exact h
 unfold jJ;rw[qg (by omega)];have e:=dd s.data.toList;rw[a]at e;rw[e,FZ]
theorem JX(s:Tw)(h:s.size<=4):jJ s<4294967296:=by
 unfold jJ;have b:=cA (s.data.toList.take 8);have a:(s.data.toList.take 8).length<=4:=by rw[qq,Array.length_toList];have:s.data.size=s.size:=rfl;omega
 have d:256 ^ (s.data.toList.take 8).length<=256 ^ 4:=Nat.pow_le_pow_right (by decide) a;have:(256:Nat) ^ 4=4294967296:=by decide
 omega
theorem so(s:Tw)(i j k:Nat)(a:i<=j)(b:j<=k):s.extract i j++s.extract j k=s.extract i k:=by
 rw[ByteArray.extract_append_extract,Nat.min_eq_left a,Nat.max_eq_right b]
theorem FK{s:Tw}(h:4<=s.size):vt s=true↔s=vg (s.extract 0 (s.size-4)):=by
 have a:(s.extract 0 (s.size-4)).size=s.size-4:=by rw[qS];omega
 have d:s.extract 0 (s.size-4)++s.extract (s.size-4) s.size=s:=by rw[so _ _ _ _ (by omega) (by omega),ByteArray.extract_zero_size]
 unfold vt vg;rw[decide_eq_true_iff];constructor
 ·rintro ⟨_,e⟩;rw[<-e,d]
 ·intro e;refine⟨h, ?_⟩;have b:=congrArg (fun x=>x.extract (s.size-4) s.size) e;rw[b];have:=cC (s.extract 0 (s.size-4)) (bs (vl (s.extract 0 (s.size-4)).data.toList)) ByteArray.empty (i:=s.size-4) (j:=s.size) a.symm (by rw[a,jh,nd];omega);rw[ByteArray.append_empty]at this;exact this
theorem FV(R:Tw)(n:Nat)(l:R.size=n+12)(o:jJ (R.extract 0 4)=n):
  R=jZ (R.extract 4 (4+n))↔(R.extract (n+8) (n+12)=R.extract 0 4/\vt (R.extract 0 (n+8))=true):=by
 have g:(R.extract 0 4).size=4:=by rw[qS];omega
 have t:(R.extract 4 (4+n)).size=n:=by rw[qS];omega
 have r:(R.extract 0 (n+8)).size=n+8:=by rw[qS];omega
 have d:=FJ _ g;rw[o]at d;have m:R.extract 0 4++R.extract 4 (4+n)=R.extract 0 (n+4):=by rw[so _ _ _ _ (by omega) (by omega),Nat.add_comm 4 n]
 have q:(R.extract 0 (n+8)).extract 0 (n+4)=R.extract 0 (n+4):=by rw[ByteArray.extract_extract];congr 1<;>omega
 have hw:R.extract 0 (n+8)++R.extract (n+8) (n+12)=R:=by rw[so _ _ _ _ (by omega) (by omega),<-l,ByteArray.extract_zero_size]
 have p:jZ (R.extract 4 (4+n))=vg (R.extract 0 (n+4))++R.extract 0 4:=by
  unfold jZ;rw[t,d,m]
 have f:=FK (s:=R.extract 0 (n+8)) (by omega);rw[r,show n+8-4=n+4 by omega,q]at f;rw[f,p];have b:(vg (R.extract 0 (n+4))).size=n+8:=by rw[oJ,qS];omega
 constructor
 ·intro e;constructor
  ·have a:=congrArg (fun x=>x.extract (n+8) (n+12)) e;rw[a];have:=cC (vg (R.extract 0 (n+4))) (R.extract 0 4) ByteArray.empty (i:=n+8) (j:=n+12) b.symm (by rw[b,g]);rw[ByteArray.append_empty]at this;exact this
  ·have a:=congrArg (fun x=>x.extract 0 (n+8)) e;rw[a];have:=cC ByteArray.empty (vg (R.extract 0 (n+4))) (R.extract 0 4) (i:=0) (j:=n+8) rfl (by rw[b];simp);rw[ByteArray.empty_append]at this;exact this
 ·rintro ⟨k,a⟩;rw[<-k,<-a,hw]
theorem FY(R:Tw)(n:Nat)(d:R.size=n+12)(h:vt (R.extract 0 (n+8))=true):(opA (R.extract 0 (n+8))).extract 4 (opA (R.extract 0 (n+8))).size=R.extract 4 (4+n):=by
 have b:(R.extract 0 (n+8)).size=n+8:=by rw[qS];omega
 have a:opA (R.extract 0 (n+8))=R.extract 0 (n+4):=by
  unfold opA;rw[qK h,b,ByteArray.extract_extract];congr 1<;>omega
 rw[a,ByteArray.extract_extract,qS];congr 1<;>omega
theorem FU(R:Tw)(n:Nat)(b:R.size=n+12)(h:vt (R.extract 0 (n+8))=true):(opA (R.extract 0 (n+8))).size=n+4:=by
 have a:(R.extract 0 (n+8)).size=n+8:=by rw[qS];omega
 unfold opA;rw[qK h,a,qS];omega
theorem FG(p:Tw)(w:World)(a:p.size<=maxLen)(h:2000<p.size):
  Calls prog 145 #[.string p] w fun e w'=>e = .returned (.tuple #[.string ByteArray.empty,.int .i64 3])/\Below w.heap.size w w':=by
 unfold maxLen at a;go_enter func145,ntmps145;go_wp2;go_ret2;exact⟨rfl,Below.refl _ _⟩
theorem FW(p:Tw)(w:World)(h:p.size<=2000):
  Calls prog 145 #[.string p] w fun e w'=>e = .returned (.tuple #[.string (jZ p),.int .i64 0])/\Below w.heap.size w w':=by
 have a:=qQ fun W=>uL p.size 4 W (by omega) (by omega) (by omega)
 have j:(bs (be 4 p.size)++p).size=p.size+4:=by rw[qT,jh,jO];omega
 have d:(bs (be 4 p.size)).size=4:=by rw[jh,jO]
 have k:∀w:World,(Op.stringOp .add (bs (be 4 p.size)) p).run prog w = .ok (.string (bs (be 4 p.size)++p)) w:=fun w=>run_string_add_sum (P:=prog) (w:=w) _ _ (by omega)
 have b:=qQ fun W=>na (bs (be 4 p.size)++p) W (by unfold maxLen;omega)
 have i:=oJ (bs (be 4 p.size)++p);have l:∀w:World,(Op.stringOp .add (vg (bs (be 4 p.size)++p)) (bs (be 4 p.size))).run prog w = .ok (.string (jZ p)) w:=fun w=>run_string_add_sum (P:=prog) (w:=w) _ _ (by omega)
 generalize jZ p=R at*;generalize vg (bs (be 4 p.size)++p)=S at*;generalize bs (be 4 p.size)++p=T at*;generalize bs (be 4 p.size)=N at*;clear j d i;go_enter func145,ntmps145;go_wp2_with fail;refine(a.out _).mono ?_;rintro e m⟨rfl,f⟩;go_wp2_with fail;refine(b.out _).mono ?_;rintro e n⟨rfl,g⟩;go_wp2;go_ret2;exact⟨rfl,bj f g⟩
theorem FA(p:Tw)(w:World)(a:p.size<=maxLen):
  Calls prog 145 #[.string p] w fun e w'=>e = .returned (.tuple #[.string (prS p),.int .i64 (prE p)])/\Below w.heap.size w w':=by
 unfold prS prE;by_cases h:2000<p.size
 ·rw[qK h,qK h];exact FG p w a h
 ·rw[qJ h,qJ h];exact FW p w (by omega)
theorem ob(s:Tw)(a:Int)(w:World)(f:s.size<=maxLen)(g:(Lit.int .i64 a).wf=true):
  Calls prog 155 #[.string s,.int .i64 a] w fun e w'=>e = .returned (.bool (decide (0<=a/\a<=s.size)))/\w=w':=by
 have i:=bounds_i64 g;unfold maxLen at f;by_cases b:0<=a
 ·by_cases d:a<=s.size
  ·rw[qW ⟨b,d⟩];go_enter func155,ntmps155;go_wp2;go_ret;exact⟨rfl,rfl⟩
  ·rw[qG (fun h=>d h.2)];go_enter func155,ntmps155;go_wp2;go_ret;exact⟨rfl,rfl⟩
 ·rw[qG (fun h=>b h.1)];go_enter func155,ntmps155;go_wp2;go_ret;exact⟨rfl,rfl⟩
theorem FC(s:Tw)(w:World)(b:s.size<=maxLen)(f:4<=s.size):
  Calls prog 210 #[.string s] w fun e w'=>e = .returned (.tuple #[.int .i64 (if 2000<jJ (s.extract 0 4) then 0 else(jJ (s.extract 0 4):Nat)),.bool (decide (jJ (s.extract 0 4)<=2000))])/\w=w':=by
 have a:=qQ fun W=>gQ (s.extract 0 4) W (by unfold maxLen at*;rw[qS];omega)
 have g:=JX (s.extract 0 4) (by rw[qS];omega);generalize jJ (s.extract 0 4)=n at*;unfold maxLen at b;by_cases h:2000<n
 ·rw[qK h,qG (by omega)];go_enter func210,ntmps210;go_wp2_with fail;refine(a.out _).mono ?_;rintro e d⟨rfl,rfl⟩;go_wp2;go_ret2;exact⟨rfl,rfl⟩
 ·rw[qJ h,qW (by omega)];go_enter func210,ntmps210;go_wp2_with fail;refine(a.out _).mono ?_;rintro e d⟨rfl,rfl⟩;go_wp2;go_ret2;exact⟨rfl,rfl⟩
def gN(s:Tw):Bool:=decide (12<=s.size/\jJ (s.extract 0 4)<=2000/\jJ (s.extract 0 4)+12<=s.size)
def dI(s:Tw):Tw:=if gN s=true then s.extract 0 (jJ (s.extract 0 4)+12) else ByteArray.empty
theorem FD(s:Tw)(w:World)(d:s.size<=maxLen):
  Calls prog 156 #[.string s] w fun e w'=>e = .returned (.tuple #[.string (dI s),.bool (gN s)])/\w=w':=by
 unfold dI;by_cases f:12<=s.size
 ·have a:=qQ fun W=>FC s W d (by omega)
  have k:=JX (s.extract 0 4) (by rw[qS];omega);have b:gN s=decide (jJ (s.extract 0 4)<=2000/\jJ (s.extract 0 4)+12<=s.size):=by unfold gN;simp[f]
  rw[b];clear b;generalize jJ (s.extract 0 4)=n at*;unfold maxLen at d;by_cases h:2000<n
  ·rw[qG (by omega),qJ (by decide)];rw[qG (by omega)]at a;go_enter func156,ntmps156;go_wp2_with fail;refine(a.out _).mono ?_;rintro e i⟨rfl,rfl⟩;go_wp2;go_ret2;exact⟨rfl,rfl⟩
  ·rw[qW (show n<=2000 by omega),qJ h]at a;by_cases g:n+12<=s.size
   ·rw[qW ⟨by omega,g⟩,qK rfl];have l:((n:Int)+12).toNat=n+12:=(by omega);have j:¬(s.size:Int)-12<(n:Int):=(by omega);go_enter func156,ntmps156;go_wp2_with fail;refine(a.out _).mono ?_;rintro e i⟨rfl,rfl⟩;go_wp2;go_ret2;exact⟨rfl,rfl⟩
   ·rw[qG (fun h=>g h.2),qJ (by decide)];have j:(s.size:Int)-12<(n:Int):=(by omega);go_enter func156,ntmps156;go_wp2_with fail;refine(a.out _).mono ?_;rintro e i⟨rfl,rfl⟩;go_wp2;go_ret2;exact⟨rfl,rfl⟩
 ·have b:gN s=false:=by unfold gN;simp[f]
  rw[b,qJ (by decide)];unfold maxLen at d;go_enter func156,ntmps156;go_wp2;go_ret2;exact⟨rfl,rfl⟩
theorem FE(s:Tw)(a:Int)(w:World)(d:s.size<=maxLen)(f:(Lit.int .i64 a).wf=true)(h:¬(0<=a/\a<=s.size)):
  Calls prog 94 #[.string s,.int .i64 a] w (mM w):=by
 have b:=qQ fun W=>ob s a W d f
 rw[qG h]at b;go_enter func94,ntmps94;go_wp2_with fail;refine(b.out _).mono ?_;rintro e g⟨rfl,rfl⟩;go_wp2;go_ret3;exact⟨rfl,Below.refl _ _⟩
theorem JZ(s:Tw)(k:Nat)(w:World)(g:s.size<=maxLen)(j:k<=s.size)
  (b:∀w:World,Calls prog 155 #[.string s,.int .i64 (k:Nat)] w fun e w'=>e = .returned (.bool true)/\w=w')
  (a:∀w:World,Calls prog 156 #[.string (s.extract k s.size)] w fun e w'=>e = .returned (.tuple #[.string ByteArray.empty,.bool false])/\w=w'):
  Calls prog 94 #[.string s,.int .i64 (k:Nat)] w (mM w):=by
 have d:=qQ b;have f:=qQ a;clear b a;unfold maxLen at g;go_enter func94,ntmps94;go_wp2_with fail;refine(d.out _).mono ?_;rintro e i⟨rfl,rfl⟩;go_wp2_with fail;refine(f.out _).mono ?_;rintro e i⟨rfl,rfl⟩;go_wp2;go_ret3;exact⟨rfl,Below.refl _ _⟩
theorem FF(s:Tw)(k:Nat)(w:World)(i:s.size<=maxLen)(n:k<=s.size)(R:Tw)(l:12<=R.size)(m:R.size<=2012)
  (d:∀w:World,Calls prog 155 #[.string s,.int .i64 (k:Nat)] w fun e w'=>e = .returned (.bool true)/\w=w')
  (b:∀w:World,Calls prog 156 #[.string (s.extract k s.size)] w fun e w'=>e = .returned (.tuple #[.string R,.bool true])/\w=w')
  (a:¬R.extract (R.size-4) R.size=R.extract 0 4):
  Calls prog 94 #[.string s,.int .i64 (k:Nat)] w (mM w):=by
 have f:=qQ d;have g:=qQ b;have o:=Gy a;have p:=rG a;have q:((R.size:Int)-4).toNat=R.size-4:=by omega
 have r:(0:Int)<=(R.size:Int)-4:=by omega
 have t:(R.size:Int)-4<=R.size:=by omega
 have u:(4:Int)<=(R.size:Int):=by omega
 clear d b a;unfold maxLen at i;go_enter func94,ntmps94;go_wp2_with fail;refine(f.out _).mono ?_;rintro e j⟨rfl,rfl⟩;go_wp2_with fail;refine(g.out _).mono ?_;rintro e j⟨rfl,rfl⟩;go_wp2_with fail;go_region
 go_wp2;go_ret3;exact⟨rfl,yg (Below.refl _ _) _⟩
theorem FH(s:Tw)(k:Nat)(w:World)(p:s.size<=maxLen)(u:k<=s.size)(R T:Tw)(q:12<=R.size)(r:R.size<=2012)(t:k+R.size<=s.size)
  (f:∀w:World,Calls prog 155 #[.string s,.int .i64 (k:Nat)] w fun e w'=>e = .returned (.bool true)/\w=w')
  (a:∀w:World,Calls prog 156 #[.string (s.extract k s.size)] w fun e w'=>e = .returned (.tuple #[.string R,.bool true])/\w=w')
  (g:R.extract (R.size-4) R.size=R.extract 0 4)
  (d:∀w:World,Calls prog 157 #[.string (R.extract 0 (R.size-4))] w fun e w'=>e = .returned (.tuple #[.string T,.bool false])/\Below w.heap.size w w'):
  Calls prog 94 #[.string s,.int .i64 (k:Nat)] w (mM w):=by
 have l:=qQ f;have m:=qQ a;have n:=qQ d;have i:=Xz g;have v:(!((R.extract (R.size-4) R.size).toList==(R.extract 0 4).toList))=false:=by rw[i];rfl
 have y:((R.extract (R.size-4) R.size).toList != (R.extract 0 4).toList)=false:=by simpa using i
 have z:((R.size:Int)-4).toNat=R.size-4:=by omega
 have A:(0:Int)<=(R.size:Int)-4:=by omega
 have B:(R.size:Int)-4<=R.size:=by omega
 have C:(4:Int)<=(R.size:Int):=by omega
 clear f a g d;unfold maxLen at p;go_enter func94,ntmps94;go_wp2_with fail;refine(l.out _).mono ?_;rintro e j⟨rfl,rfl⟩;go_wp2_with fail;refine(m.out _).mono ?_;rintro e j⟨rfl,rfl⟩;go_wp2_with fail;go_region
 go_wp2_with fail;refine(n.out _).mono ?_;rintro e j⟨rfl,b⟩;have o:=bj (yg (Below.refl w.heap.size w) _) b;clear b;go_wp2;go_ret3;exact⟨rfl,o⟩
theorem FI(s:Tw)(k:Nat)(w:World)(p:s.size<=maxLen)(y:k<=s.size)(R T:Tw)(q:12<=R.size)(r:R.size<=2012)(t:k+R.size<=s.size)
  (f:∀w:World,Calls prog 155 #[.string s,.int .i64 (k:Nat)] w fun e w'=>e = .returned (.bool true)/\w=w')
  (a:∀w:World,Calls prog 156 #[.string (s.extract k s.size)] w fun e w'=>e = .returned (.tuple #[.string R,.bool true])/\w=w')
  (g:R.extract (R.size-4) R.size=R.extract 0 4)
  (d:∀w:World,Calls prog 157 #[.string (R.extract 0 (R.size-4))] w fun e w'=>e = .returned (.tuple #[.string T,.bool true])/\Below w.heap.size w w')
  (u:4<=T.size) (v:T.size<=3000):
  Calls prog 94 #[.string s,.int .i64 (k:Nat)] w fun e w'=>e = .returned (.tuple #[.string (T.extract 4 T.size),.int .i64 ((k:Int)+(R.size:Int)),.bool true])/\Below w.heap.size w w':=by
 have l:=qQ f;have m:=qQ a;have n:=qQ d;have i:=Xz g;have z:(!((R.extract (R.size-4) R.size).toList==(R.extract 0 4).toList))=false:=by rw[i];rfl
 have A:((R.extract (R.size-4) R.size).toList != (R.extract 0 4).toList)=false:=by simpa using i
 have B:((R.size:Int)-4).toNat=R.size-4:=by omega
 have C:(0:Int)<=(R.size:Int)-4:=by omega
 have F:(R.size:Int)-4<=R.size:=by omega
 have G:(4:Int)<=(R.size:Int):=by omega
 clear f a g d;unfold maxLen at p;go_enter func94,ntmps94;go_wp2_with fail;refine(l.out _).mono ?_;rintro e j⟨rfl,rfl⟩;go_wp2_with fail;refine(m.out _).mono ?_;rintro e j⟨rfl,rfl⟩;go_wp2_with fail;go_region
 go_wp2_with fail;refine(n.out _).mono ?_;rintro e j⟨rfl,b⟩;have o:=bj (yg (Below.refl w.heap.size w) _) b;clear b;go_wp2;go_ret3;exact⟨rfl,o⟩
theorem JJ(s:Tw)(k m i j:Nat)(h:j<=m):(s.extract k (k+m)).extract i j=s.extract (k+i) (k+j):=by
 rw[ByteArray.extract_extract,Nat.min_eq_left (by omega)]
theorem sw(s:Tw)(a:Int)(w:World)(l:s.size<=maxLen)(J:(Lit.int .i64 a).wf=true):
  Calls prog 94 #[.string s,.int .i64 a] w (dV s a w):=by
 by_cases h:¬(0<=a/\a<=s.size)
 ·refine(FE s a w l J h).mono fun e w' b=>mN ?_ b
  unfold uY;by_cases P:0<=a
  ·rw[fh (by omega),Bool.and_false]
  ·rw[qG P,Bool.false_and]
 ·obtain⟨k,rfl⟩:∃k:Nat,a=k:=⟨a.toNat,by omega⟩
  have p:k<=s.size:=by omega
  have r:∀w:World,Calls prog 155 #[.string s,.int .i64 (k:Nat)] w fun e w'=>e = .returned (.bool true)/\w=w':=fun W=>by
   have:=ob s (k:Nat) W l J;rw[qW (by omega)]at this;exact this
  have d:=fun W=>FD (s.extract k s.size) W (by unfold maxLen at*;rw[qS];omega)
  have z:(s.extract k s.size).size=s.size-k:=by rw[qS];omega
  have A:∀i j,j<=s.size-k->(s.extract k s.size).extract i j=s.extract (k+i) (k+j):=fun i j X=>by
   rw[ByteArray.extract_extract];congr 1;omega
  by_cases Q:k+12<=s.size
  ·have y:jJ ((s.extract k s.size).extract 0 4)=je s k:=(by rw[A _ _ (by omega)];rfl);by_cases B:je s k<=2000/\k+je s k+12<=s.size
   ·have f:gN (s.extract k s.size)=true:=by
     unfold gN;rw[y,z];exact qW ⟨by omega,B.1,by omega⟩
    have o:dI (s.extract k s.size)=s.extract k (k+je s k+12):=by
     unfold dI;rw[qK f,y,A _ _ (by omega),Nat.add_zero,Nat.add_assoc]
    rw[f,o]at d;have m:(s.extract k (k+je s k+12)).size=je s k+12:=by rw[qS];omega
    have O:jJ ((s.extract k (k+je s k+12)).extract 0 4)=je s k:=by
     rw[Nat.add_assoc,JJ _ _ _ _ _ (by omega),Nat.add_zero];rfl
    have u:=FV _ _ m O
    have F:(s.extract k (k+je s k+12)).extract 4 (4+je s k)=s.extract (k+4) (k+4+je s k):=by
     rw[Nat.add_assoc,JJ _ _ _ _ _ (by omega),<-Nat.add_assoc]
    rw[F]at u;have G:=FY _ _ m;rw[F]at G;have H:=FU _ _ m;have v:=fun W=>rW ((s.extract k (k+je s k+12)).extract 0 (je s k+8)) W (by unfold maxLen at*;rw[qS];omega)
    have S:=mL (s:=s) (k:=k);obtain⟨T,U⟩:=B;generalize C:s.extract k (k+je s k+12)=R at*;have n:R.size-4=je s k+8:=(by omega);by_cases t:R.extract (je s k+8) (je s k+12)=R.extract 0 4
    ·by_cases g:vt (R.extract 0 (je s k+8))=true
     ·obtain⟨K,M,N⟩:=rm (S.2 ⟨Q,T,U,u.2 ⟨t,g⟩⟩);rw[g]at v;unfold dV;rw[K,M,N];have I:=FI s k w l p R _ (by omega) (by omega) (by omega) r d (by rw[n,m];exact t) (by rw[n];exact v) (by rw[H g];omega) (by rw[H g];omega);rw[G g,m,show(k:Int)+((je s k+12:Nat):Int)=((k+je s k+12:Nat):Int) by omega]at I;exact I
     ·have V:vt (R.extract 0 (je s k+8))=false:=(by simpa using g);rw[V]at v;refine(FH s k w l p R _ (by omega) (by omega) (by omega) r d (by rw[n,m];exact t) (by rw[n];exact v)).mono fun e w' b=>mN ?_ b
      rw[dK];exact fh (fun q=>g (u.1 (C.symm.trans q.2.2.2)).2)
    ·refine(FF s k w l p R (by omega) (by omega) r d (by rw[n,m];exact t)).mono fun e w' b=>mN ?_ b
     rw[dK];exact fh (fun q=>t (u.1 (C.symm.trans q.2.2.2)).1)
   ·have f:gN (s.extract k s.size)=false:=by
     unfold gN;rw[y,z];exact qG (by omega)
    have o:dI (s.extract k s.size)=ByteArray.empty:=(by unfold dI;rw[f];rfl);rw[f,o]at d;refine(JZ s k w l p r d).mono fun e w' b=>mN ?_ b
    rw[dK];exact fh (by omega)
  ·have f:gN (s.extract k s.size)=false:=by
    unfold gN;rw[z];exact qG (by omega)
   have o:dI (s.extract k s.size)=ByteArray.empty:=(by unfold dI;rw[f];rfl);rw[f,o]at d;refine(JZ s k w l p r d).mono fun e w' b=>mN ?_ b
   rw[dK];exact fh (by omega)
end
section
theorem JK{D:zr}{n:Tw}{f:zi}(b:D.down=false)(h:jU D.l n=some f):rdC D n=(f.data,0, { D with count:=D.count+1 }):=by
 unfold rdC;rw[fV b h,qK rfl];have:=mr (a:=0) (k:=f.data.size) b h (by omega);rw[Nat.zero_add]at this
 have e:f.data.extract 0 f.data.size=f.data:=by
  apply ByteArray.ext;rw[ByteArray.data_extract];exact Array.extract_size
 rw[e]at this;exact this
end
section
open Go.RowKit
def kq(a:Tw):List Tw->Tw
 | []=>a
 | p::l=>kq (a++jZ p) l
def jk: List Tw->Nat
 | []=>0
 | p::l=>p.size+12+jk l
def vS(k:Nat):List Tw->List (Nat × Tw)
 | []=>[]
 | p::l=>(k,p)::vS (k+(p.size+12)) l
def uP(n:Nat)(l:List Tw):Tw:=kq (hdS (n:Nat)) l
theorem tQ: ∀(l:List Tw) (a:Tw),(kq a l).size=a.size+jk l
 | [],a=>rfl
 | p::l,a=>by
   show(kq (a++jZ p) l).size=_;rw[tQ l,qT,yT];show _=a.size+(p.size+12+jk l)
   omega
theorem JV: ∀(l:List Tw) (a p:Tw),kq a (l++[p])=kq a l++jZ p
 | [],a,p=>rfl
 | x::l,a,p=>JV l (a++jZ x) p
theorem oc: ∀(l:List Tw) (p:Tw),jk (l++[p])=jk l+(p.size+12)
 | [],p=>by show p.size+12+0=0+_;omega
 | x::l,p=>by
   show x.size+12+jk (l++[p])=x.size+12+jk l+_;rw[oc l p];omega
theorem tX: ∀(l:List Tw) (k:Nat) (p:Tw),vS k (l++[p])=vS k l++[(k+jk l,p)]
 | [],k,p=>by show [(k,p)]=[(k+0,p)];rfl
 | x::l,k,p=>by
   show(k,x)::vS (k+(x.size+12)) (l++[p])=(k,x)::(vS (k+(x.size+12)) l++[(k+(x.size+12+jk l),p)]);rw[tX l,show k+(x.size+12)+jk l=k+(x.size+12+jk l) by omega]
theorem mi: ∀(l:List Tw) (a:Tw),kq a l=a++kq ByteArray.empty l
 | [],a=>by show a=a++ByteArray.empty;simp
 | p::l,a=>by
   show kq (a++jZ p) l=a++kq (ByteArray.empty++jZ p) l;rw[mi l (a++jZ p),mi l (ByteArray.empty++jZ p),ByteArray.empty_append,ByteArray.append_assoc]
theorem JY: ∀(l:List Tw) (a:Tw),(∀p∈l,p.size<=2000)->whL (kq a l) ((kq a l).size+1) a.size=(vS a.size l).map (fun x=>(x.1:Int))/\whE (kq a l) ((kq a l).size+1) a.size=(kq a l).size
 | [],a,_=>by
   obtain⟨b,d⟩:=Xx (s:=a) (k:=a.size) (fh (by omega));exact⟨b,d⟩
 | p::l,a,h=>by
   have j:=h p qB;obtain⟨f,_,g⟩:=rn a p (kq ByteArray.empty l) j;have n:kq a (p::l)=a++jZ p++kq ByteArray.empty l:=mi l (a++jZ p);have i:(a++jZ p).size=a.size+(p.size+12):=(by rw[qT,yT]);rw[<-n]at f g;obtain⟨b,d⟩:=Xq (s:=kq a (p::l)) (k:=a.size) (by rw[tQ];omega) f;obtain⟨r,o⟩:=JY l (a++jZ p) (fun q m=>h q (qF _ m));rw[b,d,g,<-i];refine⟨?_,o⟩;show _=(a.size:Int)::(vS (a.size+(p.size+12)) l).map _;rw[<-i];congr 1
theorem od: ∀(l:List Tw) (a:Tw),(∀p∈l,p.size<=2000)->∀x∈vS a.size l,yC (kq a l) x.1=true/\uN (kq a l) (x.1:Nat)=x.2/\kI (kq a l) (x.1:Nat)=x.1+(x.2.size+12)/\a.size<=x.1/\x.1+(x.2.size+12)<=(kq a l).size/\(kq a l).extract x.1 (x.1+(x.2.size+12))=jZ x.2/\x.2.size<=2000
 | [],a,_,x,hx=>by cases hx
 | p::l,a,h,x,hx=>by
   have hp:=h p qB;have j:kq a (p::l)=a++jZ p++kq ByteArray.empty l:=mi l (a++jZ p);have b:(a++jZ p).size=a.size+(p.size+12):=(by rw[qT,yT]);rcases qL.1 hx with rfl|hx
   ·obtain⟨d,f,g⟩:=rn a p (kq ByteArray.empty l) hp;rw[j];exact⟨d,f,g,qZ _,by rw[qT,b];show a.size+(p.size+12)<=_;omega,cC a (jZ p) _ rfl (by rw[yT]),hp⟩
   ·rw[<-b]at hx;obtain⟨k,m,n,u,o,r,t⟩:=od l (a++jZ p) (fun q i=>h q (qF _ i)) x hx;exact⟨k,m,n,by omega,o,r,t⟩
theorem oh{n:Nat}(h:n<=199)(l:List Tw):(uP n l).size=12+jk l:=by unfold uP;rw[tQ,cL h]
theorem JU{n:Nat}(h:n<=199)(l:List Tw)(o:∀p∈l,p.size<=2000):scL (uP n l) (n:Nat)=(vS 12 l).map (fun x=>(x.1:Int))/\scE (uP n l) (n:Nat)=(uP n l).size/\uO (uP n l) (n:Nat)=true:=by
 have q:=oh h l;have d:=cL h
 have m:scK (uP n l) (n:Nat)=2:=by
  refine Zp (by omega) ?_ (by omega);rw[show min (uP n l).size 12=12 by omega];unfold uP;rw[mi];have b:=cC ByteArray.empty (hdS (n:Nat)) (kq ByteArray.empty l) (i:=0) (j:=12) rfl (by rw[d];rfl);have a:=cC ByteArray.empty (hdS (n:Nat)) ByteArray.empty (i:=0) (j:=12) rfl (by rw[d];rfl);rw[ByteArray.empty_append]at b a;rw[ByteArray.append_empty]at a;rw[b,a]
 obtain⟨b,a,k⟩:=Zn m;obtain⟨f,g⟩:=JY l (hdS (n:Nat)) o;rw[d]at f g;have c:(0:Int)<=12/\(12:Int)<=(uP n l).size:=by omega
 rw[b,a];refine⟨?_, ?_,k⟩
 ·unfold wlL;rw[qK c];exact f
 ·unfold wlE;rw[qK c];exact g
theorem FL(p:Tw)(d:p.size<=2000):uY (jZ p) 0=true/\uN (jZ p) 0=p:=by
 obtain⟨a,b,_⟩:=rn ByteArray.empty p ByteArray.empty d;rw[ByteArray.empty_append,ByteArray.append_empty]at a b;exact⟨(dK (jZ p) 0).trans a,b⟩
theorem FM(p:Tw)(a:p.size<=2000):jJ ((jZ p).extract 0 4)=p.size:=by
 have:=Xk ByteArray.empty p ByteArray.empty a;rw[ByteArray.empty_append,ByteArray.append_empty]at this;exact this
end
end Go.Proofs.YthejglbnkmimjaaGreat
