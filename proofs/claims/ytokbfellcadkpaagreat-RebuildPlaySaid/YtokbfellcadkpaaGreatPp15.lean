import Derived.Test.YtokbfellcadkpaaGreatPp11
import Derived.Test.YtokbfellcadkpaaGreatPp12
set_option linter.unusedVariables false
set_option maxRecDepth 100000
set_option maxHeartbeats 9000000
namespace Go.Proofs.YtokbfellcadkpaaGreat
open Tryz
section
open Go.RowKit
section
variable {w:World}{base g mb:Nat}{vF:Value}{E:List Ent}{K:List Nat}{D:jK}
theorem PAt.cells(h:PAt w base g mb vF E K D):w.cell? ⟨g,0,none⟩=some (ptr g)/\w.cell? ⟨g,1,none⟩=some (.int .i64 (D.cap:Nat))/\w.cell? ⟨g,2,none⟩=some (.map (some mb))/\w.cell? ⟨g,3,none⟩=some (.bool (!D.down)) /\
  w.cell? ⟨g,4,none⟩=some (.int .i64 (D.count:Nat))/\w.cell? ⟨g,5,none⟩=some (.int .i64 (D.qp:Nat))/\w.cell? ⟨g,6,none⟩=some vF :=
 ⟨h.qi.cell 0,h.qi.cell 1,h.qi.cell 2,h.qi.cell 3,h.qi.cell 4,h.qi.cell 5,h.qi.cell 6⟩
theorem lK(h:PAt w base g mb vF E K D){n:Tw}(q:jD D.l n<D.l.length):∃x,E[jD D.l n]? = some x/\D.l[jD D.l n]? = some x.f/\x.f.name=n:=by
 obtain⟨f,j,r⟩:=fN q;have i:=j;generalize jD D.l n=k at*;rw[h.xV,qu]at i;cases m:E[k]? with
 | none=>rw[m]at i;cases i
 | some x =>
   rw[m]at i;obtain rfl:x.f=f:=(by simpa using i);exact⟨x,rfl,j,r⟩
theorem Bu: (prog.info? 74).map (·.size)=some 7:=by kernel_rfl
theorem qXM(d:Nat)(p:Addr)(w:World):(Op.equalIn (d+1) 26 (.pointer (some p)) (.pointer (some p))).run prog w = .ok true w:=by
 cases f:prog.info? 74 with
 | none=>have:=Bu;rw[f]at this;cases this
 | some i =>
   have j:i.size=7:=(by have:=Bu;rw[f]at this;simpa using this);simp[Op.equalIn,run_underlying Tryz.underlying26,sizeOf,typeInfo,f,sameAddr]
theorem qXN(p:Addr)(w:World):(binOp .neq 26 (.pointer (some p)) (.pointer (some p))).run prog w = .ok (.bool false) w:=by
 have f:(Op.equal 26 (.pointer (some p)) (.pointer (some p))).run prog w = .ok true w:=qXM 9999 p w;simp only[binOp];simp[f]
theorem mo(h:w.cell? ⟨g,0,none⟩=some (ptr g)):Calls prog 79 #[ptr g] w fun e w'=>e = .returned (.bool false)/\w=w':=by
 have f:=qXN ⟨g,0,none⟩;go_enter func79,ntmps79;go_wp2;go_ret;exact⟨rfl,rfl⟩
def lV(D:jK):Nat:=if D.down then 61 else 0
theorem QH(h:PAt w base g mb vF E K D):Calls prog 75 #[ptr g] w fun e w'=>e = .returned (.int .i64 (lV D:Nat))/\w=w':=by
 obtain⟨c0,c1,c2,i,j,l,m⟩:=h.cells;have q:=qQ (mo c0);unfold lV;cases f:D.down
 all_goals
  rw[f]at i;clear f h c1 c2 j l m c0;go_enter func75,ntmps75;go_wp2_with fail;refine q.out.mono ?_;rintro e w'⟨rfl,rfl⟩;go_wp2;go_ret;exact⟨rfl,rfl⟩
theorem Bg(n:Tw)(w:World)(j:n.size<=maxLen):Calls prog 180 #[.string n] w fun e w'=>e = .returned (.bool (ky n))/\w=w':=by
 unfold maxLen at j;by_cases f:0<n.size
 ·by_cases i:n.size<=12
  ·have e:ky n=true:=(by unfold ky;rw[qA f,qA i];rfl);have l:decide ((1:Int)<=(n.size:Int))=true:=qA (by omega);have t:decide ((n.size:Int)<=12)=true:=qA (by omega);rw[e];clear e;go_enter func180,ntmps180;go_wp2;go_ret;exact⟨rfl,rfl⟩
  ·have e:ky n=false:=(by unfold ky;rw[qW i,Bool.and_false]);have l:decide ((1:Int)<=(n.size:Int))=true:=qA (by omega);have t:decide ((n.size:Int)<=12)=false:=qW (by omega);rw[e];clear e;go_enter func180,ntmps180;go_wp2;go_ret;exact⟨rfl,rfl⟩
 ·have e:ky n=false:=by unfold ky;rw[qW f,Bool.false_and]
  have t:decide ((1:Int)<=(n.size:Int))=false:=qW (by omega);have m:n.size=0:=by omega
  rw[e];clear e;go_enter func180,ntmps180;go_wp2;go_ret;exact⟨rfl,rfl⟩
theorem JT(h:PAt w base g mb vF E K D){k:Nat}{x:Ent}(i:E[k]? = some x)(r:x.f.name.size<=maxLen):Calls prog 117 #[ptr g,.string x.f.name] w fun e w'=>e = .returned (.tuple #[ptr x.b,.int .i64 0])/\w=w':=by
 obtain⟨c0,c1,c2,j,l,m,q⟩:=h.cells;have t:=qQ (mo c0);have u:=h.map.look r (b:=x.b) (qN.2 ⟨x,qM i,rfl⟩);generalize x.f.name=n at*;generalize x.b=b at*;clear i h c1 j l m q c0;go_enter func117,ntmps117;go_wp2_with fail;refine t.out.mono ?_;rintro e w'⟨rfl,rfl⟩;go_wp2;go_ret2;exact⟨rfl,rfl⟩
theorem J0(h:PAt w base g mb vF E K D){n:Tw}(i:¬jD D.l n<D.l.length)(t:n.size<=maxLen):Calls prog 117 #[ptr g,.string n] w fun e w'=>e = .returned (.tuple #[.pointer none,.int .i64 4])/\w=w':=by
 obtain⟨c0,c1,c2,j,m,q,r⟩:=h.cells;have u:=qQ (mo c0)
 have B:=h.map.zJ t (fun y z=>by
  obtain⟨x,v,rfl⟩:=qN.1 z;exact rC i x.f (by rw[h.xV];exact qN.2 ⟨x,v,rfl⟩))
 clear i h c1 j m q r c0;go_enter func117,ntmps117;go_wp2_with fail;refine u.out.mono ?_;rintro e w'⟨rfl,rfl⟩;go_wp2;go_ret2;exact⟨rfl,rfl⟩
theorem o8(h:PAt w base g mb vF E K D)(j:D.down=false){k:Nat}{x:Ent}(l:E[k]? = some x)(r:x.f.name.size<=maxLen):Calls prog 115 #[ptr g,.string x.f.name] w fun e w'=>e = .returned (.tuple #[ptr x.b,.int .i64 0])/\w=w':=by
 have m:=qQ (QH h);have i:lV D=0:=by unfold lV;rw[j];rfl
 rw[i]at m;have q:=qQ (JT h l r);generalize x.f.name=n at*;generalize x.b=b at*;clear l h j i;go_enter func115,ntmps115;go_wp2_with fail;refine m.out.mono ?_;rintro e w'⟨rfl,rfl⟩;go_wp2_with fail;refine q.out.mono ?_;rintro e w'⟨rfl,rfl⟩;go_wp2;go_ret2;exact⟨rfl,rfl⟩
theorem oq(h:PAt w base g mb vF E K D)(i:D.down=false){n:Tw}(j:¬jD D.l n<D.l.length)(r:n.size<=maxLen):Calls prog 115 #[ptr g,.string n] w fun e w'=>e = .returned (.tuple #[.pointer none,.int .i64 4])/\w=w':=by
 have m:=qQ (QH h);have f:lV D=0:=by unfold lV;rw[i];rfl
 rw[f]at m;have q:=qQ (J0 h j r);clear j h i f;go_enter func115,ntmps115;go_wp2_with fail;refine m.out.mono ?_;rintro e w'⟨rfl,rfl⟩;go_wp2_with fail;refine q.out.mono ?_;rintro e w'⟨rfl,rfl⟩;go_wp2;go_ret2;exact⟨rfl,rfl⟩
theorem ox(h:PAt w base g mb vF E K D)(i:D.down=true)(n:Tw):Calls prog 115 #[ptr g,.string n] w fun e w'=>e = .returned (.tuple #[.pointer none,.int .i64 61])/\w=w':=by
 have j:=qQ (QH h);have f:lV D=61:=by unfold lV;rw[i];rfl
 rw[f]at j;clear h i f;go_enter func115,ntmps115;go_wp2_with fail;refine j.out.mono ?_;rintro e w'⟨rfl,rfl⟩;go_wp2;go_ret2;exact⟨rfl,rfl⟩
end
theorem qXO{P:Program}(x y:Int)(m:Int)(h:m=if x<y then y else x):∀f t w,(Builtin.max_ f t #[.int .i64 x,.int .i64 y]).run P w = .ok (.int .i64 m) w:=fun f t w=>by
 rw[run_max_int2,h]
theorem QI{w:World}{base:Nat}{v:Value}{d:Tw}(h:uW w base v d):(v = .slice none 0 0/\d.size=0)∨∃b cap,v = .slice (some ⟨b,0,none⟩) d.size cap/\d.size<=cap/\cap<=maxLen/\base<=b/\b<w.heap.size:=by
 rcases h.2 with⟨rfl,e⟩|⟨g,cap,l,rfl,j,r,f,i,m,q⟩
 ·exact qX ⟨rfl,e⟩
 ·exact qY ⟨g,cap,rfl,f,i,j,(h.lt g rfl).2⟩
theorem qXP{w:World}{base:Nat}{d:Tw}(h:d.size=0):uW w base (.slice none 0 0) d:=⟨by rw[byteCells_length];omega,qX ⟨rfl,h⟩⟩
theorem J1{k:Int}(h:0<=k):(if 0<k then(0:Int) else k)=0:=by split<;>omega
theorem Bc(b:Nat)(w:World)(u v:Value):jG [b] w ((w.setCell ⟨b,0,none⟩ u).setCell ⟨b,1,none⟩ v) :=
 ((jG.refl [b] w).setCell (p:=⟨b,0,none⟩) (qX (qH.2 rfl)) _).setCell (p:=⟨b,1,none⟩) (qX (qH.2 rfl)) _
def QL(base:Nat)(x:Ent)(w:World)(f:jU)(e:Ending)(w':World):Prop :=
 ∃v,e = .returned (.tuple #[])/\vY w' base ⟨f,x.b,v⟩/\v.ownBlock=x.v.ownBlock/\jG [x.b] w w'
theorem vY.cells{w:World}{base:Nat}{x:Ent}(h:vY w base x):w.cell? ⟨x.b,0,none⟩=some x.v/\w.cell? ⟨x.b,1,none⟩=some (.int .i64 (x.f.synced:Nat))/\w.frozen? ⟨x.b,0,none⟩=false/\w.frozen? ⟨x.b,1,none⟩=false :=
 ⟨h.1.cell 0,h.1.cell 1,h.1.frozen 0,h.1.frozen 1⟩
theorem vY.put{w:World}{base:Nat}{x:Ent}(h:vY w base x){v:Value}{d:Tw}(i:uW w base v d):vY (w.setCell ⟨x.b,0,none⟩ v) base ⟨⟨x.f.name,d,x.f.synced⟩,x.b,v⟩ :=
 ⟨h.1.put 0 v,h.2.1,yH i (vR i h.1 (by decide)) _⟩
theorem vY.xc{w:World}{base:Nat}{x:Ent}(h:vY w base x)(n:Nat):vY (w.setCell ⟨x.b,1,none⟩ (.int .i64 (n:Nat))) base ⟨⟨x.f.name,x.f.data,n⟩,x.b,x.v⟩ :=
 ⟨h.1.put 1 _,h.2.1,yH h.2.2 (vR h.2.2 h.1 (by decide)) _⟩
theorem Bd{w:World}{base:Nat}{x:Ent}(h:vY w base x)(k:Int)(I:0<=k)(V:x.f.data.size<=1048576)(m:Nat)(y:m=min k.toNat x.f.data.size):
  Calls prog 118 #[ptr x.b,.int .i64 k] w (QL base x w ⟨x.f.name,x.f.data.extract 0 m,min x.f.synced m⟩):=by
 obtain⟨c0,c1,R,S⟩:=h.cells;have J:=@pF prog k x.f.data.size m (by split<;>omega);have L:=@pF prog x.f.synced m (min x.f.synced m) (by split<;>omega);have z:m<=x.f.data.size:=by omega
 rcases QI h.2.2 with⟨e,F⟩|⟨b,cap,e,W,M,T,U⟩
 ·obtain rfl:m=0:=by omega
  have j:uW w base (.slice none 0 0) (x.f.data.extract 0 0):=qXP (by rw[qT];omega);have O:=qQ h;have N:=qQ j;have u:x.v.ownBlock=none:=by rw[e];rfl
  rw[e]at c0;have J:∀l t w,(Builtin.min_ l t #[.int .i64 k,.int .i64 0]).run prog w = .ok (.int .i64 0) w:=fun l t w=>by rw[run_min_int2,J1 I]
  have L:∀l t w,(Builtin.min_ l t #[.int .i64 (x.f.synced:Nat),.int .i64 0]).run prog w = .ok (.int .i64 0) w:=fun l t w=>by rw[run_min_int2,J1 (by omega)]
  have i:=(h.put j)
  have B:=i.1.cell 0;have C:=i.1.cell 1;have H:=i.1.frozen 1;have q:=qQ (i.xc (min x.f.synced 0));rw[Nat.min_zero]at q ⊢;clear i h j z y F;go_enter func118,ntmps118;go_wp2;go_region
  go_wp2_with fail;go_region
  go_end0;exact⟨_,rfl,q.out,u.symm,((Bc x.b w _ _).drew).drew⟩
 ·have r:=h.2.2;rw[e]at r;have j:=Te r z;have u:x.v.ownBlock=some b:=by rw[e];rfl
  rw[e]at c0;have i:=h.put j;have B:=i.1.cell 0;have C:=i.1.cell 1;have H:=i.1.frozen 1;have q:=qQ (i.xc (min x.f.synced m));unfold maxLen at M;have X:(0:Int)<=(m:Int):=by omega
  have Y:(m:Int)<=(cap:Int):=by omega
  clear i h j y r;go_enter func118,ntmps118;go_wp2;go_region
  go_wp2_with fail;go_region
  go_end0;exact⟨_,rfl,q.out,u.symm,((Bc x.b w _ _).drew).drew⟩
theorem qXR{w:World}{base:Nat}{x:Ent}(h:vY w base x)(n:Int)(hs:x.f.synced<=x.f.data.size)(hz:x.f.data.size<=1048576):
  Calls prog 142 #[ptr x.b,.int .i64 n] w (QL base x w (uT x.f n)):=by
 obtain⟨c0,c1,R,S⟩:=h.cells;obtain⟨m,u⟩:∃m,m=min n.toNat (x.f.data.size-x.f.synced):=⟨_,rfl⟩
 have hst:lH x.f n=x.f.synced+m:=by unfold lH;rw[u]
 have r:uT x.f n=⟨x.f.name,x.f.data.extract 0 (x.f.synced+m),x.f.synced+m⟩:=by unfold uT;rw[hst]
 obtain⟨t,j⟩:∃t:Nat,(t:Int)=if n<0 then 0 else n:=⟨n.toNat,by split<;>omega⟩
 have X:=@qXO prog n 0 t j;have Y:=@pF prog t ((x.f.data.size:Int)-(x.f.synced:Int)) m (by split<;>split at j<;>omega);have hcut:=qQ (fun W (V:vY W base x)=>Bd V ((x.f.synced:Int)+(m:Int)) (by omega) hz (x.f.synced+m) (by omega));have z:(x.f.data.extract 0 (x.f.synced+m)).size=x.f.synced+m:=by rw[qT];omega
 have v:min x.f.synced (x.f.synced+m)=x.f.synced:=by omega
 rw[r];rw[v]at hcut;have J:=qQ z;have q:=qQ h;have b1:(x.f.synced:Int)+(m:Int)<=1048576:=by omega
 have b2:0<=(x.f.data.size:Int)-(x.f.synced:Int):=by omega
 have b3:(x.f.data.size:Int)<=1048576:=by omega
 obtain⟨A,cap,C,n1,n2,_⟩:=ln h.2.2;rw[C]at c0;clear C r hst u j v h z n1 n2;go_enter func142,ntmps142;go_wp2_with fail;go_region
 go_wp2_with fail;refine(hcut.out _ (by first | exact q.out | exact q.out.drew)).mono ?_;rintro e w2⟨v2,rfl,i,H,B⟩;obtain⟨N,O,T,U⟩:=i.cells;obtain⟨A2,aa,l,_⟩:=ln i.2.2;dsimp only at l N O T U;rw[J.out]at l;have I:=qQ (i.xc (x.f.synced+m));have M:=qQ H;have L:=qQ B;subst l;clear H B i c0 c1 R S hcut Y X;go_wp2;go_end0;exact⟨_,rfl,I.out,M.out,(jG.trans (F:=[x.b]) (by first | exact jG.refl _ _ | exact(jG.refl _ _).drew) L.out (fun y Z=>qX Z)).setCell (p:=⟨x.b,1,none⟩) (qX (qH.2 rfl)) _⟩
end
section
open Go.RowKit Go.Maps Go.Sort Go.Shelf
theorem qXS(m:Nat):AnyZ.SortsIn prog Tryz.sorted112_ren Fence.wide m :=
 ⟨fun f off cap q W i j l=>callsIn_wide.2 (AnyM.slices_Sort_string Tryz.sort176 f off cap q W i j l),fun p cap W=>callsIn_wide.2 (AnyM.slices_Sort_string_none Tryz.sort176 p cap W)⟩
theorem qXT(mb:Nat)(w:World):Calls prog 113 #[.map (some mb)] w fun e w'=>e = .returned (.func (.func 177) #[] #[.pointer (some ⟨w.heap.size,0,none⟩)])/\w'=w.alloc (.cells #[.map (some mb)] 71) :=
 callsIn_wide.1 (AnyZ.keys_in Tryz.keys113 Fence.wide 5 trivial rfl (some mb) w)
theorem qX0(b l:Nat)(f:DataW Unit)(R:Value->Option (DataW Unit × List MemPlace))(w:World)(j:w.ownsMap prog 9 R b l f)(J:Maps.size f<=maxLen)(I:Maps.size f*16<=140737488355328):
  Calls prog 112 #[.func (.func 177) #[] #[.pointer (some ⟨w.heap.size,0,none⟩)]] (w.alloc (.cells #[.map (some b)] 71)) fun e w'=>∃(v:Value) (i:List (List UInt8)),e = .returned v/\i.Perm (strKeys f) /\
   w'.ownsRow (w.alloc (.cells #[.map (some b)] 71)).heap.size 9 1 v i.length ((i.mergeSort (fun x y=>decide (x<=y))).map encStr)/\Below (w.alloc (.cells #[.map (some b)] 71)).heap.size (w.alloc (.cells #[.map (some b)] 71)) w':=by
 have H:=j.lt
 have M:SeqGives Fence.wide 2 prog 177 #[.pointer (some ⟨w.heap.size,0,none⟩)] encStr (fun i=>i.Perm (strKeys f)) (Maps.size f) (w.alloc (.cells #[.map (some b)] 71)) :=
  AnyZ.keys_gives (ρ:=Tryz.keys113_ren) { Tryz.keys113 with } Fence.wide _ trivial rfl (by omega) w.heap.size b l f _ (by simp) (by simp) (by
   obtain⟨r,q,F,m,L,C⟩:=j;exact⟨r,q,(Below.heap_alloc _ _ b H).trans F,m,L,C⟩)
 have h:=AnyZ.sorted_in Tryz.sorted112 Fence.wide 5 trivial trivial trivial trivial rfl (by omega) (qXS _) (enters_of func176 (by kernel_rfl) rfl) 177 #[.pointer (some ⟨w.heap.size,0,none⟩)] trivial (enters_of func177 (by kernel_rfl) rfl) _ _ J I _ M;refine(callsIn_wide.1 h).mono ?_;rintro e w'⟨v,i,t,u,z,_,B⟩;exact⟨v,i,t,u,z,B⟩
section
variable {w:World}{base g mb:Nat}{vF:Value}{E:List Ent}{K:List Nat}{D:jK}
def Bl(w:World)(l:List jU)(e:Ending)(w':World):Prop:=∃v,e = .returned v/\uX w' v (l.map jU.name)/\(∀b,v.ownBlock=some b->w.heap.size<=b)/\jG [] w w'
theorem qX1{w:World}{base:Nat}{v:Value}{l:List Tw}(h:w.ownsRow base 9 1 v l.length (l.map Value.string)):uX w v l:=by
 rcases h.2 with⟨rfl,e⟩|⟨b,cap,cs,rfl,_,f,m,q,_,r⟩
 ·exact qX ⟨List.eq_nil_of_length_eq_zero e,none,0,rfl⟩
 ·refine qY ⟨b,0,cap,rfl,m,q, ?_,fun i x j=>?_⟩
  ·rcases Nat.lt_or_ge b w.heap.size with c|c
   ·exact c
   ·rw[Array.getElem?_eq_none c]at f;cases f
  ·have t:=(qP.1 j).1;rw[Nat.zero_add,h.cellAt i (by omega),qu,j];rfl
theorem J2(h:PAt w base g mb vF E K D):(E.map Ent.nb).map (fun x=>x.1.data.toList)=D.l.map (fun f=>f.name.data.toList):=by
 rw[h.xV,List.map_map,List.map_map];rfl
theorem Bm(h:PAt w base g mb vF E K D)(t:D.l.length<=400):Calls prog 48 #[ptr g] w (Bl w D.l):=by
 obtain⟨c0,c1,c2,T,U,V,W⟩:=h.cells;have hn:=qQ (mo c0);obtain⟨n,m,j,q⟩:=h.map;have u:((E.map Ent.nb).map (fun x=>x.1.data.toList)).Nodup:=by rw[J2 h];exact Gy h.qw
 have r:=q.keys j u;have S:=q.size j u;rw[J2 h]at r
 have Z:Maps.size m<=400:=by
  rw[S,qj];have:=h.xV;rw[this,qj]at t;exact t
 have O:=h.qw;have H:=qQ (qX0 mb n m ug w j (by unfold maxLen;omega) (by omega));have C:=qQ (qXT mb w)
 have N:∀(v:Value) (i:List (List UInt8)) (w':World),i.Perm (strKeys m)->w'.ownsRow (w.alloc (.cells #[.map (some mb)] 71)).heap.size 9 1 v i.length ((i.mergeSort (fun x y=>decide (x<=y))).map encStr) ->
   Below (w.alloc (.cells #[.map (some mb)] 71)).heap.size (w.alloc (.cells #[.map (some mb)] 71)) w'->Bl w D.l (.returned v) w':=by
  intro v i w' hp z X;have M:i.Perm (D.l.map (fun f=>f.name.data.toList)):=hp.trans r.symm;rw[Tn O M]at z
  have e:(D.l.map (fun f=>f.name.data.toList)).map encStr=(D.l.map jU.name).map Value.string:=by
   rw[List.map_map,List.map_map];apply List.map_congr_left;intro f _;show encStr f.name.data.toList = .string f.name;unfold encStr;simp
  rw[e,M.length_eq,qj]at z;have R:w'.ownsRow (w.alloc (.cells #[.map (some mb)] 71)).heap.size 9 1 v (D.l.map jU.name).length ((D.l.map jU.name).map Value.string):=by rw[qj];exact z
  refine⟨v,rfl,qX1 R,fun b Y=>?_,(((jG.refl [] w).alloc _).trans (jG.qn X) (fun x hx=>by cases hx))⟩;have:=(R.lt b Y).1;have hs:(w.alloc (.cells #[.map (some mb)] 71)).heap.size=w.heap.size+1:=by simp
  omega
 have F:=qQ N;clear N u r S Z O h j q c0 c1 T U V W t;go_enter func48,ntmps48;go_wp2_with fail;refine hn.out.mono ?_;rintro e w'⟨rfl,rfl⟩;go_wp2_with fail;refine C.out.mono ?_;rintro e w'⟨rfl,rfl⟩;go_wp2_with fail;refine H.out.mono ?_;rintro e w'⟨v,i,rfl,I,J,L⟩;have B:=qQ (F.out v i w' I J L);clear I J L H C F;obtain⟨v',hv,_⟩:=B.out;go_wp2;go_ret;exact B.out
end
end
section
open Go.RowKit
theorem uX.qe{F:List Nat}{w w':World}{v:Value}{l:List Tw}(h:uX w v l)(j:jG F w w')(hF:∀b,v.ownBlock=some b->b ∉ F):uX w' v l:=by
 rcases h with h|⟨b,off,cap,rfl,m,q,f,r⟩
 ·exact qX h
 ·exact qY ⟨b,off,cap,rfl,m,q,qR f j.size,fun i x t=>(j.cell (p:=⟨b,off+i,none⟩) f (hF b rfl)).trans (r i x t)⟩
theorem kX.later{F:List Nat}{w w':World}{v:Value}{l:List Int}(h:kX w v l)(f:jG F w w')(hF:l≠[]->∀b,v.ownBlock=some b->b ∉ F):kX w' v l:=by
 by_cases e:l=[]
 ·subst e;rcases h with h|⟨b,off,cap,rfl,_⟩
  ·exact qX h
  ·exact qX ⟨rfl,_,_,rfl⟩
 ·exact h.qe f (hF e)
def FB(E:List Ent):List Nat:=E.flatMap Ent.blocks
theorem oz{E:List Ent}{b:Nat}:b∈FB E↔∃x∈E,b∈x.blocks:=List.mem_flatMap
theorem Bn{E E':List Ent}(h:E'.map Ent.blocks=E.map Ent.blocks):FB E'=FB E:=by
 unfold FB;rw[List.flatMap_def,List.flatMap_def,h]
theorem qX2(l:List jU)(keep:List Int):bY l keep 0=l:=by
 unfold bY;apply List.ext_getElem?;intro i;rw[List.getElem?_mapIdx];cases l[i]?<;>simp
theorem qX3(l:List jU)(keep:List Int):bY l keep l.length=bU l keep:=by
 unfold bY bU;apply List.ext_getElem?;intro i;rw[List.getElem?_mapIdx,List.getElem?_mapIdx];rcases Nat.lt_or_ge i l.length with c|c
 ·simp only[if_pos c]
 ·rw[List.getElem?_eq_none c];rfl
theorem qX4{l:List jU}{keep:List Int}{k:Nat}{f:jU}(h:l[k]? = some f):(bY l keep k).set k (uT f (keep.getD k 0))=bY l keep (k+1):=by
 have j:=(qP.1 h).1;unfold bY;apply List.ext_getElem?;intro i;rw[List.getElem?_set,List.getElem?_mapIdx,List.getElem?_mapIdx,List.length_mapIdx];by_cases e:k=i
 ·subst e;rw[qV rfl,qV j,h,Option.map_some,qV (Nat.lt_succ_self _)]
 ·rw[qZ e];cases l[i]? with
  | none=>rfl
  | some x =>
    rw[Option.map_some,Option.map_some];by_cases c:i<k
    ·rw[qV c,qV (by omega)]
    ·rw[qZ c,qZ (by omega)]
theorem qX5(l:List jU)(keep:List Int)(k:Nat):(bY l keep k)[k]? = l[k]? := by
 unfold bY;rw[List.getElem?_mapIdx];cases l[k]? with
 | none=>rfl
 | some x=>rw[Option.map_some,qZ (Nat.lt_irrefl _)]
section
variable {w:World}{base g mb:Nat}{vF:Value}{E:List Ent}{K:List Nat}{D:jK}
def rN(w:World)(base g mb:Nat)(vF:Value)(E:List Ent)(K:List Nat)(D:jK)(keep:List Int)(i f:Value)(k:Nat)(wr:World):Prop :=
 ∃E',PAt wr base g mb vF E' K { D with l:=bY D.l keep k }/\E'.map Ent.blocks=E.map Ent.blocks/\jG (FB E) w wr/\uX wr i (D.l.map jU.name)/\kX wr f keep
theorem rN.next{keep:List Int}{z y:Value}{k:Nat}{wr w2:World}(h:rN w base g mb vF E K D keep z y k wr)(Y:PAt w base g mb vF E K D)(I:∀b,z.ownBlock=some b->b ∉ FB E)(N:keep≠[]->∀b,y.ownBlock=some b->b ∉ FB E)
  {E':List Ent} (J:PAt wr base g mb vF E' K { D with l:=bY D.l keep k }) (C:E'.map Ent.blocks=E.map Ent.blocks) {x:Ent} {f:jU} (S:D.l[k]? = some f) (q:E'[k]? = some x) (W:x.f=f) {e:Ending} (R:QL base x wr (uT x.f (keep.getD k 0)) e w2):
  rN w base g mb vF E K D keep z y (k+1) w2:=by
 obtain⟨v,_,F,B,m⟩:=R;obtain⟨_,_,_,M,L,H⟩:=h;have X:=qM q;have O:x.b∈FB E:=by rw[<-Bn C];exact oz.2 ⟨x,X,by simp[Ent.blocks]⟩
 have u:∀b∈[x.b],b∈FB E:=fun b i=>by rw[qH.1 i];exact O
 refine⟨E'.set k ⟨uT x.f (keep.getD k 0),x.b,v⟩, ?_, ?_,M.trans m (fun b i=>qX (u b i)),L.qe m (fun b i r=>I b i (u b r)),H.later m (fun V b i r=>N V b i (u b r))⟩
 ·have t:=J.xa q ⟨uT x.f (keep.getD k 0),x.b,v⟩ rfl rfl m (fun b i=>by rw[qH.1 i];simp[Ent.blocks]) F (fun b i=>qX (B ▸ i));have U:(bY D.l keep k).set k (uT x.f (keep.getD k 0))=bY D.l keep (k+1):=qX4 (by rw[W];exact S);dsimp only at t;rw[U]at t;exact t
 ·rw[<-C,List.map_set];apply List.ext_getElem?;intro j;rw[List.getElem?_set];by_cases e:k=j
  ·subst e;have T:=(qP.1 q).1;rw[qV rfl,qV (by simpa using T),qu,q];show some (x.b::v.ownBlock.toList)=some (x.b::x.v.ownBlock.toList);rw[B]
  ·rw[qZ e]
def qX6(w:World)(base g mb:Nat)(E:List Ent)(D:jK)(e:Ending)(w':World):Prop :=
 ∃E',e = .returned (.tuple #[])/\PAt w' base g mb (.pointer none) E' [] D/\E'.map Ent.blocks=E.map Ent.blocks/\jG (g::FB E) w w'
theorem qX7(Y:Value)(keep:List Int)(h:PAt w base g mb vF E K D)(O:vr D)(r:kX w Y keep)(hV:keep≠[]->∀b,Y.ownBlock=some b->b ∉ FB E):
  Calls prog 76 #[ptr g,Y] w (qX6 w base g mb E (uE D keep)):=by
 have ae:=qQ (Bm h O.many);have ac:=h.low;obtain⟨A,off,cap,rfl,ab,-⟩:=r.cell;have aw:keep.length<=9223372036854775807:=by unfold maxLen at ab;omega
 have HH:=qQ h;have ak:=qQ O;have HI:=qQ r;have HV:=qQ hV
 have HM:=qQ (show ∀f∈D.l,f.name.size<=maxLen from fun f hf=>by
  have:=h.names f hf;unfold ky at this;simp only[Bool.and_eq_true,decide_eq_true_eq]at this;unfold maxLen;omega)
 have HL:=qQ ac;have ay:=O.many;clear h O r hV ac ab;go_enter func76,ntmps76;go_wp2_with fail;refine ae.out.mono ?_;rintro e w1⟨vN,rfl,t,ad,R⟩
 have hN:∀b,vN.ownBlock=some b->b ∉ FB E:=fun b hb hm=>by
  have h1:=ad b hb;have h2:=(HL.out b (vv.2 (qY (qY (qY (oz.1 hm)))))).2;omega
 obtain⟨Z,az,aa,rfl,-,-⟩:=t.cell
 have ag:rN w base g mb vF E K D keep (.slice Z (D.l.map jU.name).length aa) (.slice A keep.length cap) 0 w1 :=
  ⟨E,by rw[qX2];exact HH.out.qe R (fun _ _=>by simp),rfl,R.more (fun x q=>by cases q),t,HI.out.qe R (fun _ _=>by simp)⟩
 have aj:=qQ hN;have M:=qQ ag;clear t ad R hN ag ae;rw[qj]at M ⊢;go_wp2;go_loopw [10] (fun i wr=>∃k:Nat,k<=D.l.length/\i = .int .i64 k/\rN w base g mb vF E K D keep (.slice Z D.l.length aa) (.slice A keep.length cap) k wr) (fun i _=>D.l.length-(intOf i).toNat)
 case atStart=>exact⟨0,qF _,rfl,M.out⟩
 case round =>
  obtain⟨k,hk,rfl,hF⟩:=hrel;have H:=qQ hF;obtain⟨E',j,N,V,t,r⟩:=hF;by_cases am:k<D.l.length
  ·obtain⟨f,v⟩:=XE am;have z:(bY D.l keep k)[k]? = some f:=(by rw[qX5];exact v);rw[show bY D.l keep k=_ from j.xV,qu]at z
   obtain⟨x,q,I⟩:∃x,E'[k]? = some x/\x.f=f:=by
    cases hh:E'[k]? with
    | none=>rw[hh]at z;cases z
    | some x=>rw[hh]at z;exact⟨x,rfl,by simpa using z⟩
   have hX:=j.xZ x (qM q);have W:=ak.out.xW f (qM v);have af:=HM.out f (qM v);have ax:=j.map.look (m:=f.name) af (b:=x.b) (qN.2 ⟨x,qM q,by unfold Ent.nb;rw[I]⟩);obtain⟨c0,c1,c2,c3,T,U,c6⟩:=j.cells;obtain⟨A2,o1,ap,ah,-,ai⟩:=t.cell;obtain⟨hA,-,-⟩:=Value.slice.inj ah;subst hA;clear ah;obtain⟨b,rfl,av⟩:=ai k f.name (by rw[qu,v];rfl);have F:=qQ (qXR hX (keep.getD k 0) (by rw[I];exact W.1) (by rw[I];exact W.2));have C:=qQ (fun L e (u:QL base x wr (uT x.f (keep.getD k 0)) e L)=>H.out.next HH.out aj.out HV.out j N v q I u);have l1:(k:Int)<(D.l.length:Int):=by omega
   have al:(k<keep.length/\∃(J X:Nat) (y:Int),A=some ⟨J,X,none⟩/\wr.cell? ⟨J,X+k,none⟩=some (.int .i64 y)/\keep.getD k 0=y)∨(keep.length<=k/\keep.getD k 0=0):=by
    rcases Nat.lt_or_ge k keep.length with c|c
    ·refine qX ⟨c, ?_⟩;rcases r with⟨e,_⟩|⟨J,ao,ar,e,_,_,_,hc⟩
     ·rw[e]at c;exact absurd c (Nat.not_lt_zero k)
     ·refine⟨J,ao,keep[k],(Value.slice.inj e).1,hc k _ (qC c), ?_⟩;rw[qz,qC c];rfl
    ·exact qY ⟨c,by rw[qz,List.getElem?_eq_none c];rfl⟩
   clear z hX W af j N V t r ai H v q I c0 c1 c3 T U c6 M;rcases al with⟨q1,J,X,y,rfl,q2,S⟩|⟨q1,S⟩
   all_goals
    rw[S]at F C;have H3:=qQ S;clear S
   ·have q4:(k:Int)<(keep.length:Int):=(by omega);go_wp2_with fail;refine F.out.mono ?_;rintro e L u;have B:=qQ (C.out L e u);obtain⟨v2,rfl,_⟩:=u;clear F C;go_wp2;go_roundw
    case rel=>exact⟨k+1,by omega,by go_num,B.out⟩
    case measure=>simp[intOf];omega
   ·have q4:decide ((k:Int)<(keep.length:Int))=false:=qW (by omega);go_wp2_with fail;refine F.out.mono ?_;rintro e L u;have B:=qQ (C.out L e u);obtain⟨v2,rfl,_⟩:=u;clear F C;go_wp2;go_roundw
    case rel=>exact⟨k+1,by omega,by go_num,B.out⟩
    case measure=>simp[intOf];omega
  ·obtain rfl:k=D.l.length:=(by omega);rw[qX3]at j;obtain⟨c0,c1,c2,c3,T,U,c6⟩:=j.cells;have f3:=j.qi.frozen 3;have f6:=j.qi.frozen 6;have HP:=qQ ((j.xi true).zt []);have aq:=((j.xi true).cells).2.2.2.2.2.2;have au:=(j.xi true).qi.frozen 6;have B:=qQ N;have HT:=qQ V;clear t r V N j c0 c1 c2 T U H M;go_wp2;go_end0;refine⟨E',rfl,HP.out,B.out, ?_⟩;have an:∀x∈FB E,x∈g::FB E∨w.heap.size<=x:=fun x q=>qX (qE _ q)
   exact((HT.out.more an).setCell (p:=⟨g,3,none⟩) (qX (by simp)) _).setCell (p:=⟨g,6,none⟩) (qX (by simp)) _
end
theorem qX8(D:jK)(keep:List Int)(h:D.l.length<=400):uE D (keep.take 400)=uE D keep:=by
 unfold uE
 have e:bU D.l (keep.take 400)=bU D.l keep:=by
  unfold bU;apply List.ext_getElem?;intro i;rw[List.getElem?_mapIdx,List.getElem?_mapIdx];rcases Nat.lt_or_ge i D.l.length with c|c
  ·have:(keep.take 400).getD i 0=keep.getD i 0:=by
    rw[qz,qz,List.getElem?_take,qV (by omega)]
   rw[this]
  ·rw[List.getElem?_eq_none c];rfl
 rw[e]
theorem fY.ints{w:World}{base:Nat}{v:Value}{l:List Int}{K:List Nat}(h:fY w base v l K):kX w v l/\(l≠[]->∀b,v.ownBlock=some b->b∈K):=by
 rcases h with⟨rfl,rfl,a,c,rfl⟩|⟨h,rfl⟩
 ·exact⟨qX ⟨rfl,a,c,rfl⟩,fun h=>absurd rfl h⟩
 ·exact⟨(pE.zg h).xQ,fun _ b f=>by simp[f]⟩
section
variable {w:World}{base g mb:Nat}{vF:Value}{E:List Ent}{K:List Nat}{D:jK}
theorem PAt.zq(h:PAt w base g mb vF E K D):∀b∈K,b ∉ FB E:=fun b f j=>by
 obtain⟨x,l,i⟩:=oz.1 j;exact(h.xZ x l).xt h.fail b i f
def qX9(w:World)(base g mb:Nat)(vF:Value)(E:List Ent)(K:List Nat)(D:jK)(e:Ending)(w':World):Prop :=
 e = .returned (.bool false)/\PAt w' base g mb vF E K (bx D)/\jG K w w'
def qXq(w:World)(base g mb:Nat)(E:List Ent)(D:jK)(e:Ending)(w':World):Prop :=
 ∃E',e = .returned (.bool true)/\PAt w' base g mb (.pointer none) E' [] D/\E'.map Ent.blocks=E.map Ent.blocks/\jG (g::FB E) w w'
theorem rO(h:PAt w base g mb vF E K D)(l:vf D=true):Calls prog 119 #[ptr g] w (qX9 w base g mb vF E K D):=by
 obtain⟨c0,c1,c2,t,v,y,S⟩:=h.cells;have C:=qQ h;rcases h.fail with⟨e,rfl,rfl⟩|⟨b,n,R,r,rfl,e,N,f,L,q,rfl⟩
 ·have F:=qQ (show bx D=D by unfold bx;rw[show D.fails-1=D.fails by omega]);clear h l e c0 c1 c2 t v y;go_enter func119,ntmps119;go_wp2;go_ret;exact⟨rfl,by rw[F.out];exact C.out,jG.refl _ _⟩
 ·have O:n≠0:=fun J=>by
   unfold vf at l;rw[e,J]at l;simp at l
  obtain⟨m,rfl⟩:∃m,n=m+1:=⟨n-1,by omega⟩
  have T:w.cell? ⟨b,0,none⟩=some (.int .i64 ((m:Int)+1)):=f.cell 0;have U:=f.frozen 0;have j:∀u,jG [b] w (w.setCell ⟨b,0,none⟩ u):=fun u=>(jG.refl _ w).setCell (p:=⟨b,0,none⟩) (qX (qH.2 rfl)) u
  have z:g≠b:=h.qi.xP f (by decide)
  have B:PAt (w.setCell ⟨b,0,none⟩ (.int .i64 (m:Nat))) base g mb (ptr b) E (b::r) (bx D):=by
   refine h.xd (G:=[b]) (D':=bx D) rfl (h.qi.qe (j _) (by simpa using z)) (j _) (fun x i=>qY (by rw[qH.1 i];simp)) (qY ⟨b,m,R,r,rfl, ?_,by omega,f.put 0 _,L,q.qe (j _) (fun x i M=>?_),rfl⟩)
   ·show D.fails-1=m+1;omega
   ·rw[qH.1 M]at i;exact q.ne f (by decide) i
  have H:=qQ B;have I:=qQ (j (.int .i64 (m:Nat)));have V:(0:Int)<(m:Int)+1:=by omega
  have W:(m:Int)+1<=9223372036854775807:=by omega
  have X:(m:Int)+1-1=(m:Int):=by omega
  clear h l e c0 c1 c2 t v y B j f q N O z;go_enter func119,ntmps119;go_wp2;go_ret;exact⟨rfl,H.out,I.out.more (fun x i=>qX (by rw[qH.1 i];simp))⟩
theorem rP(h:PAt w base g mb vF E K D)(m:vr D)(f:vf D=false):Calls prog 119 #[ptr g] w (qXq w base g mb E (uE D D.keep)):=by
 obtain⟨c0,c1,c2,F,H,I,R⟩:=h.cells;rcases h.fail with⟨e,rfl,rfl⟩|⟨b,n,y,O,rfl,e,L,j,J,v,rfl⟩
 ·unfold vf at f;rw[e]at f;simp at f
 ·obtain rfl:n=0:=by
   unfold vf at f;simp at f;omega
  have i:=v.ints;have S:w.cell? ⟨b,0,none⟩=some (.int .i64 0):=j.cell 0;have T:w.cell? ⟨b,1,none⟩=some y:=j.cell 1;have l:=qX7 y (D.keep.take 400) h m i.1 (fun M x N=>h.zq x (qE _ (i.2 M x N)));rw[qX8 D D.keep m.many]at l;have q:=qQ l;obtain⟨A,off,cap,rfl,-⟩:=i.1.cell;generalize (D.keep.take 400).length=U at*;clear h f e c0 c1 c2 F H I j v L l m i J;go_enter func119,ntmps119;go_wp2_with fail;refine q.out.mono ?_;rintro e V⟨E',rfl,r,t,u⟩;have z:=qQ r;have B:=qQ t;have C:=qQ u;clear r t u q;go_wp2;go_ret;exact⟨E',rfl,z.out,B.out,C.out⟩
end
section
variable {w w1 w':World}{base g mb:Nat}{vF:Value}{E E':List Ent}{K:List Nat}{D D':jK}
theorem qXx(h:E'.map Ent.blocks=E.map Ent.blocks):∀x∈kq g mb E' [],x∈kq g mb E K:=by
 intro x f;rcases vv.1 f with e|e|e|e
 ·exact vv.2 (qX e)
 ·exact vv.2 (qY (qX e))
 ·cases e
 ·refine vv.2 (qY (qY (qY ?_)));have:x∈FB E':=oz.2 e;rw[Bn h]at this;exact oz.1 this
theorem Br: g∈kq g mb E K:=vv.2 (qX rfl)
theorem QM: mb∈kq g mb E K:=vv.2 (qY (qX rfl))
theorem fG{b:Nat}(h:b∈K):b∈kq g mb E K:=vv.2 (qY (qY (qX h)))
theorem cI{b:Nat}{x:Ent}(f:x∈E)(h:b∈x.blocks):b∈kq g mb E K:=vv.2 (qY (qY (qY ⟨x,f,h⟩)))
theorem qXz: ∀x∈g::FB E,x∈kq g mb E K:=by
 intro x f;rcases qL.1 f with rfl|f
 ·exact Br
 ·obtain⟨y,j,i⟩:=oz.1 f;exact cI j i
theorem ud(h:PAt w base g mb vF E K D)(v:Value):vg uc base g (kq g mb E K) w v D (.returned v) w:=⟨_,rfl,h.at,fun _ f=>qX f,jG.refl _ _⟩
theorem bt(h:PAt w' base g mb vF E K D')(f:jG (kq g mb E K) w w')(v:Value):vg uc base g (kq g mb E K) w v D' (.returned v) w':=⟨_,rfl,h.at,fun _ i=>qX i,f⟩
theorem rR{l:Value}(h:PAt w' base g mb l E' [] D')(i:E'.map Ent.blocks=E.map Ent.blocks)(j:jG (g::FB E) w w')(v:Value):vg uc base g (kq g mb E K) w v D' (.returned v) w' :=
 ⟨_,rfl,h.at,fun x f=>qX (qXx i x f),j.more (fun x f=>qX (qXz x f))⟩
theorem vg.after{F G:List Nat}{v:Value}{e:Ending}(h:vg uc base g G w1 v D' e w')(i:jG F w w1)(f:∀x∈G,x∈F∨w.heap.size<=x):vg uc base g F w v D' e w':=by
 obtain⟨j,l,m,q,r⟩:=h;refine⟨j,l,m,fun x t=>?_,i.trans r f⟩;rcases q x t with h|h
 ·exact f x h
 ·exact qY (by have:=i.size;omega)
theorem Bt(h:PAt w base g mb vF E K D):Calls prog 116 #[ptr g] w fun e w'=>e = .returned (.bool (!D.down))/\w=w':=by
 obtain⟨c0,c1,c2,i,j,l,m⟩:=h.cells;have q:=qQ (mo c0);cases f:D.down
 all_goals
  rw[f]at i;clear f h c1 c2 j l m c0;go_enter func116,ntmps116;go_wp2_with fail;refine q.out.mono ?_;rintro e w'⟨rfl,rfl⟩;go_wp2;go_ret;exact⟨rfl,rfl⟩
theorem qXj(h:PAt w base g mb vF E K D):Calls prog 23 #[ptr g] w fun e w'=>e = .returned (.int .i64 (D.qp:Nat))/\w=w':=by
 obtain⟨c0,c1,c2,f,i,m,j⟩:=h.cells;have l:=qQ (mo c0);clear h c1 c2 f i j c0;go_enter func23,ntmps23;go_wp2_with fail;refine l.out.mono ?_;rintro e w'⟨rfl,rfl⟩;go_wp2;go_ret;exact⟨rfl,rfl⟩
theorem qXk(h:PAt w base g mb vF E K D)(r:vr D)(n:Tw)(z:n.size<=maxLen):Calls prog 50 #[ptr g,.string n] w fun e w'=>e = .returned (.tuple #[.int .i64 ((jH D n).1:Nat),err (jH D n).2])/\w=w':=by
 unfold jH;cases i:D.down
 ·by_cases q:jD D.l n<D.l.length
  ·obtain⟨x,v,u,y⟩:=lK h q;rw[u];dsimp only[Bool.false_eq_true,if_false];have j:=qQ (o8 h i v (by rw[y];exact z));rw[y]at j;have t:=h.xZ x (qM v);obtain⟨C,_,_,_⟩:=t.cells;obtain⟨A,cap,B,F,H,_⟩:=ln t.2.2;rw[B]at C;have I:=(r.xW x.f (qM u)).2;clear h r v u y t B q i F H;generalize x.f.data.size=m at*;generalize x.b=b at*;go_enter func50,ntmps50;go_wp2_with fail;refine j.out.mono ?_;rintro e w'⟨rfl,rfl⟩;go_wp2;go_ret2;exact⟨rfl,rfl⟩
  ·have j:=qQ (oq h i q z);rw[Ks q];clear h r q i;go_enter func50,ntmps50;go_wp2_with fail;refine j.out.mono ?_;rintro e w'⟨rfl,rfl⟩;go_wp2;go_ret2;exact⟨rfl,rfl⟩
 ·have j:=qQ (ox h i n);clear h r i;go_enter func50,ntmps50;go_wp2_with fail;refine j.out.mono ?_;rintro e w'⟨rfl,rfl⟩;go_wp2;go_ret2;exact⟨rfl,rfl⟩
end
end
section
open Go.RowKit Go.Maps
def yo(E:List Ent)(left:Lit->Bool):Nat:=(E.map (fun x=>if left (yU x.f.name) then 0 else x.f.data.size)).sum
theorem rS(x:Ent)(E:List Ent)(left:Lit->Bool):yo (x::E) left=(if left (yU x.f.name) then 0 else x.f.data.size)+yo E left:=by unfold yo;rw[List.map_cons,List.sum_cons]
theorem qXv{E:List Ent}{left:Lit->Bool}(h:∀x∈E,left (yU x.f.name)=true):yo E left=0:=by
 induction E with
 | nil=>rfl
 | cons x E j =>
   rw[rS,qV (h x (by simp)),j (fun y i=>h y (by simp[i]))]
theorem qXy{E:List Ent}{left:Lit->Bool}(h:∀j,left j=false):yo E left=jA (E.map Ent.f):=by
 induction E with
 | nil=>rfl
 | cons x E i =>
   rw[rS,h,i,List.map_cons,nM];rfl
theorem qXu{E:List Ent}{i j:Lit->Bool}(h:∀x∈E,i (yU x.f.name)=j (yU x.f.name)):yo E i=yo E j:=by
 unfold yo;congr 1;apply List.map_congr_left;intro x l;rw[h x l]
theorem Ba(E:List Ent)(left:Lit->Bool):yo E left<=jA (E.map Ent.f):=by
 induction E with
 | nil=>exact qK _
 | cons x E i =>
   rw[rS,List.map_cons,nM];have:(if left (yU x.f.name) then 0 else x.f.data.size)<=x.f.data.size:=(by split<;>omega);omega
theorem qXg{E:List Ent}(q:E.Pairwise (fun x y=>x.f.name≠y.f.name)){left:Lit->Bool}{x:Ent}(i:x∈E)(m:left (yU x.f.name)=true):yo E (fun z=>left z&&!z.sameKey (yU x.f.name))=yo E left+x.f.data.size:=by
 induction E with
 | nil=>cases i
 | cons y E v =>
   obtain⟨j,l⟩:=List.pairwise_cons.1 q;rw[rS,rS];have t:(yU x.f.name).sameKey (yU x.f.name)=true:=WideAt.sameKey_self (Gg _);rcases qL.1 i with rfl|i
   ·rw[m,t]
    have r:yo E (fun z=>left z&&!z.sameKey (yU x.f.name))=yo E left:=qXu (fun y u=>by
     rw[sameKey_ne (fun e=>j y u (oO e).symm)];simp)
    rw[r];show x.f.data.size+yo E left=0+yo E left+x.f.data.size;omega
   ·rw[v l i,sameKey_ne (fun e=>j x i (oO e))];simp only[Bool.not_false,Bool.and_true];omega
def QN: Option Nat->Value
 | none=>.pointer none
 | some b=>.pointer (some ⟨b,0,none⟩)
theorem qXb(f:Value)(j:Lit)(h:keyOf prog 9 f=some j):∃x:List UInt8,f=encStr x:=by
 obtain⟨x,i,_⟩:=Maps.keyOf_str Tryz.underlying9 h;exact⟨x,i⟩
theorem qXc(v:Value)(y:DataW Unit × List MemPlace)(h:ug v=some y):∃c,v=QN c:=by
 rcases QV h with⟨rfl,_⟩|⟨b,rfl,_⟩
 ·exact⟨none,rfl⟩
 ·exact⟨some b,rfl⟩
section
variable {w:World}{base g mb:Nat}{vF:Value}{E:List Ent}{K:List Nat}{D:jK}
theorem qXd{t:DataW Unit}(hi:fV t (E.map Ent.nb)){x:List UInt8}{q:Lit}(M:keyOf prog 9 (encStr x)=some q){c:Option Nat}{y:DataW Unit × List MemPlace}(L:ug (QN c)=some y)(m:∀R,t.atKey q R=y.1):
  ∃z∈E,q=yU z.f.name/\c=some z.b:=by
 obtain⟨r,_,rfl,_⟩:=Maps.keyOf_str Tryz.underlying9 M;have B:=Maps.has_true_of_atKey m;have e:(Lit.string r)=yU ⟨r.toArray⟩:=by unfold yU;simp
 rw[e]at B m ⊢;obtain⟨p,F,N⟩:=hi.mem B;obtain⟨z,O,rfl⟩:=qN.1 F;have C:z.f.name=⟨r.toArray⟩:=N;refine⟨z,O,by rw[C], ?_⟩;have I:=hi.yes _ F .nil;have v:=m .nil;rw[<-C]at v;have i:y.1 = .lit (.int .i64 (z.b:Int)):=v.symm.trans I;rcases QV L with⟨j,l⟩|⟨b,j,l⟩
 ·rw[l]at i;simp only[DataW.lit.injEq,Lit.int.injEq,true_and]at i;omega
 ·rw[l]at i;simp only[DataW.lit.injEq,Lit.int.injEq,true_and]at i;have J:b=z.b:=by omega
  cases c with
  | none=>cases (show Value.pointer none = .pointer (some ⟨b,0,none⟩) from j)
  | some H =>
    have u:Value.pointer (some ⟨H,0,none⟩) = .pointer (some ⟨b,0,none⟩):=j;simp only[Value.pointer.injEq,Option.some.injEq,Addr.mk.injEq,and_true]at u;rw[u,J]
def J3(w:World)(D:jK)(e:Ending)(w':World):Prop:=e = .returned (.int .i64 ((D.cap:Int)-(jA D.l:Nat)))/\jG [] w w'
theorem Be(h:PAt w base g mb vF E K D)(u:vr D):Calls prog 162 #[ptr g] w (J3 w D):=by
 obtain⟨c0,c1,c2,c3,c4,c5,c6⟩:=h.cells;have hn:=qQ (mo c0);obtain⟨n,j,W,t⟩:=h.map
 have X:E.Pairwise (fun x y=>x.f.name≠y.f.name):=by
  have:=Gu h.qw;rw[h.xV]at this;exact(List.pairwise_map (f:=Ent.f) (R:=fun x y=>x.name≠y.name)).1 this
 have Y:jA (E.map Ent.f)<=1048576:=by rw[<-h.xV];exact u.used
 have M:=u.cap;have T:=h.xV;have HE:=qQ h.xZ;have HI:=qQ t;have ae:=qQ X;have m:=qQ Y;have ad:=qQ T;have ac:=qQ M;have ag:=qQ (qXv (E:=E) (left:=Maps.has j) (fun x hx=>t.has (qN.2 ⟨x,hx,rfl⟩)));have av:=W.lt;clear h u t X Y M T c0 c3 c4 c5 c6;go_enter func162,ntmps162;go_wp2_with fail;refine hn.out.mono ?_;rintro e w'⟨rfl,rfl⟩
 go_wp2_with (first
  | (at_range;refine wpList_range_own _ rfl _ 71 rfl 9 172 mn Tryz.underlying71 ug mb n j rfl W ?_;intro w0 ao aj ar)
  | go_in)
 go_frame
 go_loopw [3] (fun v wr=>∃(left:Lit->Bool) (q:Nat),wr.ranges prog 9 ug mb w.heap.size n j left q/\jG [] w wr/\v = .int .i64 ((D.cap:Int)-(yo E left:Nat)))
  (fun _ wr=>wr.rangeLeft mb w.heap.size)
 case atStart=>exact⟨_,_,ao,(jG.refl [] w).grown aj (fun k i=>by cases i),by rw[ag.out];simp⟩
 case round =>
  obtain⟨left,q,l,J,rfl⟩:=hrel;have I:=Ba E left;have b0:=m.out;have b2:-1048576<=(D.cap:Int)-(yo E left:Nat):=by omega
  have b3:(D.cap:Int)-(yo E left:Nat)<=1048576:=by have:=ac.out;omega
  have H:=qQ J;have HB:=qQ I;clear J I b0
  go_wp2_with (first
   | (at_next;refine wpList_next_ranges _ rfl _ rfl 9 mn ug encStr QN qXb qXc mb w.heap.size n j left q rfl l ?_ ?_)
   | go_in)
  ·intro _ S;have N:=qQ (qXy (E:=E) S);rw[<-ad.out]at N;generalize yo E left=s at*;clear l S;go_wp2;go_ret;exact⟨by rw[N.out];rfl,H.out⟩
  ·intro x c kl y1 y2 w1 aq ab V aa L B U O ap ai;obtain⟨z,F,rfl,rfl⟩:=qXd (y:=(y1,y2)) HI.out ab aa L;have C:jG [] w w1:=(H.out).grown O (fun k i=>by injection i with i;exact qY (Nat.le_of_eq i));have r:=(HE.out z F).qe C (fun b _=>by simp);obtain⟨d0,_,_,_⟩:=r.cells;obtain⟨A,cap,Z,-,-,-⟩:=ln r.2.2;rw[Z]at d0;have hst:=qXg ae.out F V;have ak:=Ba E (fun z'=>left z'&&!z'.sameKey (yU z.f.name));have au:(z.f.data.size:Int)<=1048576:=(by have:=m.out;omega);have an:=qQ (B.left_eq);have am:=qQ (l.left_eq);have ah:=qQ C;have af:=qQ B;have HS:=qQ hst;have b4:-1048576<=(D.cap:Int)-(yo E left:Nat)-(z.f.data.size:Nat):=(by have:=m.out;omega);clear L B O ap l r Z hst ak ab V aa C F;have al:=qQ U;clear U;generalize z.f.data.size=zs at*;generalize yo E left=s at*;generalize z.b=zb at*;dsimp only[QN]at ai ⊢;go_wp2;go_roundw
   case rel=>exact⟨_,_,af.out,ah.out,by rw[HS.out];exact FQ (by omega)⟩
   case measure=>rw[an.out,am.out];exact al.out
end
end
section
open Go.RowKit
theorem QO{l:List jU}{k:Nat}{f:jU}(h:l[k]? = some f)(g:jU->jU):jd l k g=l.set k (g f):=by
 apply List.ext_getElem?;intro j;rw[Kr,List.getElem?_set];have m:=(qP.1 h).1;by_cases e:j=k
 ·subst e;rw[qV rfl,qV rfl,qV m,h];rfl
 ·rw[qZ e,qZ (fun i=>e i.symm)]
section
variable {w w1 w':World}{base g mb:Nat}{vF:Value}{E E':List Ent}{K G:List Nat}{D D':jK}
theorem J4(h:PAt w base g mb vF E K D){k:Nat}{x:Ent}(t:E[k]? = some x)(x':Ent)(i:x'.b=x.b)(H:x'.f.name=x.f.name)(u:jG G w w')(r:∀b∈G,b∈x.blocks)(F:vY w' base x')
  (B:∀b,x'.v.ownBlock=some b->x.v.ownBlock=some b∨w.heap.size<=b) (v:Value) (C:D'={ D with l:=D.l.set k x'.f }):vg uc base g (kq g mb E K) w v D' (.returned v) w':=by
 subst C;have j:=qM t;refine⟨_,rfl,(h.xa t x' i H u r F B).at,fun y I=>?_,u.more (fun b i=>qX (cI j (r b i)))⟩;rcases vv.1 I with e|e|e|⟨z,q,m⟩
 ·exact qX (vv.2 (qX e))
 ·exact qX (vv.2 (qY (qX e)))
 ·exact qX (fG e)
 ·rcases List.mem_or_eq_of_mem_set q with q|rfl
  ·exact qX (cI q m)
  ·simp only[Ent.blocks,List.mem_cons,Option.mem_toList]at m;rcases m with e|e
   ·exact qX (cI j (by rw[e,i];simp[Ent.blocks]))
   ·rcases B y e with c|c
    ·exact qX (cI j (by simp[Ent.blocks,c]))
    ·exact qY c
theorem qXf{D E:jK}(h:vf D=true):yW D E=(0, { E with fails:=D.fails-1 }):=by unfold yW;rw[qV h]
theorem qXh{D E:jK}(h:vf D=false):yW D E=(61,uE D D.keep):=by unfold yW;rw[h];rfl
theorem qXl{D:jK}{n:Tw}(i:D.down=false)(j:jD D.l n<D.l.length):jc D n=yW D { D with l:=jd D.l (jD D.l n) (fun f=>{ f with synced:=f.data.size }) }:=by unfold jc;rw[i,qV j];rfl
theorem qXm{D:jK}{n:Tw}(f:D.down=false)(i:¬jD D.l n<D.l.length):jc D n=(4,D):=by unfold jc;rw[f,qZ i];rfl
theorem qXn{D:jK}{n:Tw}(f:D.down=true):jc D n=(61,D):=by unfold jc;rw[f];rfl
theorem qXp(h:PAt w base g mb vF E K D)(u:vr D)(n:Tw)(O:n.size<=maxLen):Calls prog 147 #[ptr g,.string n] w (vg uc base g (kq g mb E K) w (err (jc D n).1) (jc D n).2):=by
 have L:=qQ h;cases i:D.down
 ·by_cases m:jD D.l n<D.l.length
  ·obtain⟨x,F,C,H⟩:=lK h m;have q:=qQ (o8 h i F (by rw[H];exact O));rw[H]at q;rw[qXl i m];generalize jD D.l n=k at*;cases t:vf D
   ·have z:=qQ (rP h u t);rw[qXh t];generalize uE D D.keep=Z at*;clear h u F C H m i t;go_enter func147,ntmps147;go_wp2_with fail;refine q.out.mono ?_;rintro e w'⟨rfl,rfl⟩;go_wp2_with fail;refine z.out.mono ?_;rintro e Y⟨E',rfl,r,y,N⟩;have I:=qQ r;have J:=qQ y;have T:=qQ N;clear r y N z;go_wp2;go_ret;exact rR I.out J.out T.out _
   ·have z:=qQ (rO h t);rw[qXf t];have S:=(u.xW x.f (qM C)).2;have M:=qQ F;have U:=qQ C;have W:=qQ S;clear h u F C H m i t S;go_enter func147,ntmps147;go_wp2_with fail;refine q.out.mono ?_;rintro e w'⟨rfl,rfl⟩;go_wp2_with fail;refine z.out.mono ?_;rintro e Y⟨rfl,r,y⟩;have B:=r.xZ x (qM M.out);obtain⟨X,d1,g0,g1⟩:=B.cells;obtain⟨A,cap,R,-,-,-⟩:=ln B.2.2;rw[R]at X;have aa:=W.out;have V:=qQ (B.xc x.f.data.size);have I:=qQ r;have J:=qQ y;clear r y z B R;go_wp2;go_ret;refine vg.after (J4 (G:=[x.b]) I.out M.out ⟨⟨x.f.name,x.f.data,x.f.data.size⟩,x.b,x.v⟩ rfl rfl ((jG.refl _ _).setCell (p:=⟨x.b,1,none⟩) (qX (qH.2 rfl)) _) (fun b j=>by rw[qH.1 j];simp[Ent.blocks]) V.out (fun b j=>qX j) _ ?_) (J.out.more (fun b j=>qX (fG j))) (fun b j=>qX j);show _=({ bx D with l:=D.l.set k _ }:jK)
    rw[QO U.out];rfl
  ·have q:=qQ (oq h i m O);rw[qXm i m];clear h u m i;go_enter func147,ntmps147;go_wp2_with fail;refine q.out.mono ?_;rintro e w'⟨rfl,rfl⟩;go_wp2;go_ret;exact ud L.out _
 ·have q:=qQ (ox h i n);rw[qXn i];clear h u i;go_enter func147,ntmps147;go_wp2_with fail;refine q.out.mono ?_;rintro e w'⟨rfl,rfl⟩;go_wp2;go_ret;exact ud L.out _
theorem qXr(h:PAt w base g mb vF E K D)(u:vr D)(n:Tw)(L:n.size<=maxLen)(k:Int):Calls prog 53 #[ptr g,.string n,.int .i64 k] w (vg uc base g (kq g mb E K) w (err (gA D n k).1) (gA D n k).2):=by
 have z:=qQ h;by_cases j:jD D.l n<D.l.length
 ·obtain⟨x,q,t,y⟩:=lK h j;have m:=qQ (JT h q (by rw[y];exact L));rw[y]at m;by_cases r:k<0
  ·rw[LY j r];clear h u q t y j;go_enter func53,ntmps53;go_wp2_with fail;refine m.out.mono ?_;rintro e w'⟨rfl,rfl⟩;go_wp2;go_ret;exact ud z.out _
  ·rw[LV j r];unfold Ka;have I:=h.xZ x (qM q);have J:=qQ (Bd I k (by omega) (u.xW x.f (qM t)).2 _ rfl);have S:=qQ q;have R:=qQ t;have T:decide (k<0)=false:=qW r;clear h u q t y j I r;generalize jD D.l n=i at*;go_enter func53,ntmps53;go_wp2_with fail;refine m.out.mono ?_;rintro e w'⟨rfl,rfl⟩;go_wp2_with fail;refine J.out.mono ?_;rintro e U⟨v,rfl,C,F,H⟩;have M:=qQ C;have N:=qQ F;have O:=qQ H;clear C F H J;go_wp2;go_ret;exact J4 (G:=[x.b]) z.out S.out ⟨⟨x.f.name,x.f.data.extract 0 (min k.toNat x.f.data.size),min x.f.synced (min k.toNat x.f.data.size)⟩,x.b,v⟩ rfl rfl O.out (fun b B=>by rw[qH.1 B];simp[Ent.blocks]) M.out (fun b B=>qX (N.out ▸ B)) _ (by rw[QO R.out])
 ·have m:=qQ (J0 h j L);rw[LU j];clear h u j;go_enter func53,ntmps53;go_wp2_with fail;refine m.out.mono ?_;rintro e w'⟨rfl,rfl⟩;go_wp2;go_ret;exact ud z.out _
end
section
variable {w w1 w':World}{base g mb:Nat}{vF:Value}{E E':List Ent}{K G:List Nat}{D D':jK}
theorem qXs{n s:Tw}(f:D.down=true):j9 D n s=(61,D):=by unfold j9;rw[f];rfl
theorem qXt{n s:Tw}(f:D.down=false)(i:¬jD D.l n<D.l.length):j9 D n s=(4,D):=by unfold j9;rw[f,qZ i];rfl
theorem qXa{n s:Tw}(f:D.down=false)(i:jD D.l n<D.l.length)(j:D.cap<jA D.l+s.size):j9 D n s=(60,D):=by unfold j9;rw[f,qV i,qV j];rfl
theorem qXe{n s:Tw}(f:D.down=false)(i:jD D.l n<D.l.length)(m:¬D.cap<jA D.l+s.size)(j:vf D=true):j9 D n s=(0,bx (uQ D n s)):=by unfold j9;rw[f,qV i,qZ m,qV j];rfl
theorem qXi{n s:Tw}(f:D.down=false)(i:jD D.l n<D.l.length)(m:¬D.cap<jA D.l+s.size)(j:vf D=false):j9 D n s=(61,uE (uQ D n s) D.keep):=by unfold j9;rw[f,qV i,qZ m,j];rfl
theorem vr.app{D:jK}(h:vr D){k:Nat}{f:jU}(m:D.l[k]? = some f)(s:Tw)(q:jA D.l+s.size<=D.cap):vr { D with l:=jd D.l k (fun f=>{ f with data:=f.data++s }) }:=by
 have j:sT { D with fails:=0 }:=⟨h.xW,h.many,h.used,h.cap,qF _⟩
 have i:=j.app (k:=k) (f:=f) m s q;exact⟨i.xW,i.many,i.used,i.cap⟩
theorem qXo{k:Nat}{x:Ent}(m:E[k]? = some x){x':Ent}(l:x'.b=x.b){z:Nat}(q:∀b,x'.v.ownBlock=some b->x.v.ownBlock=some b∨z<=b):∀y∈kq g mb (E.set k x') K,y∈kq g mb E K∨z<=y:=by
 have j:=qM m;intro y r;rcases vv.1 r with e|e|e|⟨z,i,f⟩
 ·exact qX (vv.2 (qX e))
 ·exact qX (vv.2 (qY (qX e)))
 ·exact qX (fG e)
 ·rcases List.mem_or_eq_of_mem_set i with i|rfl
  ·exact qX (cI i f)
  ·simp only[Ent.blocks,List.mem_cons,Option.mem_toList]at f;rcases f with e|e
   ·exact qX (cI j (by rw[e,l];simp[Ent.blocks]))
   ·rcases q y e with c|c
    ·exact qX (cI j (by simp[Ent.blocks,c]))
    ·exact qY c
theorem qXw(h:PAt w base g mb vF E K D){k:Nat}{x:Ent}(u:E[k]? = some x){i:Value}{s:Tw}(m:uW w1 base i (x.f.data++s))(q:w.grownBy w1 x.v.ownBlock)(y:i.ownBlock=x.v.ownBlock∨i.ownBlock=some w.heap.size):
  vY (w1.setCell ⟨x.b,0,none⟩ i) base ⟨⟨x.f.name,x.f.data++s,x.f.synced⟩,x.b,i⟩/\jG x.blocks w (w1.setCell ⟨x.b,0,none⟩ i)/\w1.cell? ⟨x.b,0,none⟩=some x.v/\w1.frozen? ⟨x.b,0,none⟩=false:=by
 have j:=h.xZ x (qM u);have t:jG x.blocks w w1:=(jG.refl _ w).grown q (fun k r=>qX (by simp[Ent.blocks,r]))
 have l:jY w1 x.b 177 #[x.v,.int .i64 (x.f.synced:Nat)]:=by
  refine(q.block x.b j.1.lt (fun e=>?_)).trans j.1;exact vR j.2.2 j.1 (by decide) e.symm
 exact⟨⟨l.put 0 i,j.2.1,yH m (vR m l (by decide)) _⟩,t.setCell (p:=⟨x.b,0,none⟩) (qX (by simp[Ent.blocks])) _,l.cell 0,l.frozen 0⟩
theorem qZQ(h:PAt w base g mb vF E K D)(j:vr D)(n s:Tw)(hn:n.size<=maxLen)(hs:s.size<=1099511627776):Calls prog 131 #[ptr g,.string n,.string s] w (vg uc base g (kq g mb E K) w (err (j9 D n s).1) (j9 D n s).2):=by
 have R:=qQ h;cases i:D.down
 ·by_cases q:jD D.l n<D.l.length
  ·obtain⟨x,t,L,U⟩:=lK h q;have z:=qQ (o8 h i t (by rw[U];exact hn));rw[U]at z;have H:=qQ (Be h j);by_cases N:D.cap<jA D.l+s.size
   ·rw[qXa i q N];have q1:(D.cap:Int)-(jA D.l:Nat)<(s.size:Int):=(by omega);have q2:=j.cap;have q3:=j.used;clear h j t L U q i N;unfold J3 at H;generalize jA D.l=u at*;go_enter func131,ntmps131;go_wp2_with fail;refine z.out.mono ?_;rintro e w'⟨rfl,rfl⟩;go_wp2_with fail;refine H.out.mono ?_;rintro e w2⟨rfl,B⟩;have HT:=qQ B;clear B H;go_wp2;go_ret;exact bt (R.out.qe HT.out (fun _ _=>by simp)) (HT.out.more (fun x t=>by cases t)) _
   ·have q1:decide ((D.cap:Int)-(jA D.l:Nat)<(s.size:Int))=false:=qW (by omega);have q2:=j.cap;have q3:=j.used;have aq:s.size<=1048576:=(by omega);have aC:=qQ aq;have ab:=j.app L s (by omega);have aw:=(j.xW x.f (qM L)).2;have Z:uQ D n s={ D with l:=jd D.l (jD D.l n) (fun f=>{ f with data:=f.data++s }) }:=rfl;rw[<-Z]at ab;have aj:uQ D n s={ D with l:=D.l.set (jD D.l n) ⟨x.f.name,x.f.data++s,x.f.synced⟩ }:=(by rw[Z,QO L]);have an:vf (uQ D n s)=vf D:=rfl;have ap:(uQ D n s).keep=D.keep:=rfl;have hA:=qXe (s:=s) i q N;have hB:=qXi (s:=s) i q N;have aB:=qQ ab;have HA:=qQ hA;have HB:=qQ hB;have af:=qQ aj;have I:=qQ t;have aD:=qQ aw;have HG:=qQ an;have aA:=qQ ap;clear h j t L U q i N aq ab hA hB Z aj aw an ap;unfold J3 at H;generalize jD D.l n=k at*;generalize jA D.l=u at*;go_enter func131,ntmps131;go_wp2_with fail;refine z.out.mono ?_;rintro e w'⟨rfl,rfl⟩;go_wp2_with fail;refine H.out.mono ?_;rintro e w2⟨rfl,B⟩;have C:=R.out.qe B (fun _ _=>by simp);have T:=C.xZ x (qM I.out);have ak:base<=w2.heap.size:=(by have:=C.gb;have:=C.qi.lt;omega);obtain⟨O,w3,Y,aa,ao,ae⟩:=Ti T.2.2 s (by have:=aD.out;have:=aC.out;omega) ak 109;obtain⟨al,ad,aF,aG⟩:=qXw C I.out aa ao ae;obtain⟨d0,d1,g0,g1⟩:=T.cells;obtain⟨A,cap,hv,-,-,-⟩:=ln T.2.2;obtain⟨A',aE,av,-,-,-⟩:=ln aa
    have ac:∀b,O.ownBlock=some b->x.v.ownBlock=some b∨w2.heap.size<=b:=fun b m=>by
     rcases ae with c|c
     ·exact qX (c ▸ m)
     ·rw[c]at m;injection m with m;exact qY (Nat.le_of_eq m)
    have S:=C.xa I.out ⟨⟨x.f.name,x.f.data++s,x.f.synced⟩,x.b,O⟩ rfl rfl ad (fun b m=>m) al ac;have hD:({ D with l:=D.l.set k ⟨x.f.name,x.f.data++s,x.f.synced⟩ }:jK)=uQ D n s:=af.out.symm;dsimp only at S;rw[hD]at S;have ar:=qXo (g:=g) (mb:=mb) (K:=K) I.out (x':=⟨⟨x.f.name,x.f.data++s,x.f.synced⟩,x.b,O⟩) rfl ac;have ai:jG (kq g mb E K) w (w3.setCell ⟨x.b,0,none⟩ O):=(B.more (fun x t=>by cases t)).trans ad (fun b m=>qX (cI (qM I.out) m));have au:∀y∈kq g mb (E.set k ⟨⟨x.f.name,x.f.data++s,x.f.synced⟩,x.b,O⟩) K,y∈kq g mb E K∨w.heap.size<=y:=fun y hy=>(ar y hy).imp id (fun c=>qO B.size c)
    have HP:=qQ S;have ah:=qQ ai;have ag:=qQ au;rw[hv]at Y d0;have ax:(x.f.data++s).size=x.f.data.size+s.size:=qy;rw[ax]at av;subst av;clear C T ak aa ao ae al ad hv ac S hD ar ai au B H ax g1 d1 af;have ay:=qQ Y;clear Y;go_wp2_with (first | (at_builtin;refine yI rfl _ _ rfl rfl rfl ay.out ?_) | fail);have r:vf D=true∨vf D=false:=(by cases vf D<;>simp);rcases r with r|r
    ·have F:=qQ (rO HP.out (HG.out.trans r));have W:=qQ (HA.out r);clear r;go_wp2_with fail;refine F.out.mono ?_;rintro e w4⟨rfl,J,M⟩;have V:=qQ J;have X:=qQ M;clear J M F;go_wp2;go_ret;rw[W.out];exact vg.after (bt V.out (X.out.more (fun y hy=>qX (fG hy))) _) ah.out ag.out
    ·have F:=qQ (rP HP.out aB.out (HG.out.trans r));have W:=qQ (HB.out r);rw[aA.out]at F;clear r;go_wp2_with fail;refine F.out.mono ?_;rintro e w4⟨E4,rfl,J,am,M⟩;have V:=qQ J;have az:=qQ am;have X:=qQ M;clear J am M F;go_wp2;go_ret;rw[W.out];exact vg.after (rR V.out az.out X.out _) ah.out ag.out
  ·have z:=qQ (oq h i q hn);rw[qXt i q];clear h j q i;go_enter func131,ntmps131;go_wp2_with fail;refine z.out.mono ?_;rintro e w'⟨rfl,rfl⟩;go_wp2;go_ret;exact ud R.out _
 ·have z:=qQ (ox h i n);rw[qXs i];clear h j i;go_enter func131,ntmps131;go_wp2_with fail;refine z.out.mono ?_;rintro e w'⟨rfl,rfl⟩;go_wp2;go_ret;exact ud R.out _
end
section
variable {P:Program}{ops:Array Oper}{o:Oper}{a:Act}{w w':World}{K:Act -> World -> Prop}{Q:Exit -> Act -> World -> Prop}{E:Prop}
theorem Bi{j l i:Value}{t f:TypeId}(m:o.guard=none)(s x:Operand)
  (q:o.op = .call { callee:=.builtin .copy,args:=#[s,x],argTypes:=#[t,f] }) (u:a.eval s=j) (v:a.eval x=l)
  (r:(Builtin.copy_ #[t,f] o.type #[j,l]).run P w = .ok i w') (h:K (a.put o.dst i) w'):if Region.wanted o (yielded ops a.tmps)=true then Oper.wp P o a w K Q else E:=by
 have hw:Region.wanted o (yielded ops a.tmps)=true:=by simp[Region.wanted,m]
 rw[qV hw];unfold Oper.wp execOp;simp only[q,resolve,invoke,builtin,Sem.run_bind,Sem.run_pure,Result.andThen_ok,List.map_toArray,List.map_cons,List.map_nil,u,v,r];exact h
end
section
variable {ops:Array Oper}{o:Oper}{a:Act}{w w':World}{K:Act -> World -> Prop}{Q:Exit -> Act -> World -> Prop}{E:Prop}{base b p cap c n:Nat}{d s:Tw}{A:Option Addr}
theorem Bo(f:o.guard=none)(t x:Operand)(j:o.op = .call { callee:=.builtin .copy,args:=#[t,x],argTypes:=#[109,9] }){m:Nat}(l:a.eval t = .slice A m c)(i:m=0)(q:a.eval x = .string s)
  (h:∀r,K (a.put o.dst r) w):if Region.wanted o (yielded ops a.tmps)=true then Oper.wp prog o a w K Q else E :=
 Bi f t x j (i ▸ l) q (qQZ w A c s o.type) (h _)
theorem qZX(l:o.guard=none)(t x:Operand)(m:o.op = .call { callee:=.builtin .copy,args:=#[t,x],argTypes:=#[109,9] })(v:a.eval t = .slice (some ⟨b,p,none⟩) (d.size-p) c)(y:a.eval x = .string s)
  (j:uW w base (.slice (some ⟨b,0,none⟩) n cap) d) (q:p<=d.size) (h:∀r w',uW w' base (.slice (some ⟨b,0,none⟩) n cap) (y7 d s p)->jG [b] w w'->K (a.put o.dst r) w'):if Region.wanted o (yielded ops a.tmps)=true then Oper.wp prog o a w K Q else E:=by
 obtain⟨r,w',u,f,i⟩:=qQJ j q s o.type c;exact Bi l t x m v y u (h r w' f i)
end
section
variable {w w1 w':World}{base g mb:Nat}{vF:Value}{E E':List Ent}{K G:List Nat}{D D':jK}
theorem qZZ(h:PAt w base g mb vF E K D)(F:vr D)(n:Tw)(a:Int)(s:Tw)(hn:n.size<=maxLen)(L:(Lit.int .i64 a).wf=true)(hs:s.size<=1048576):Calls prog 52 #[ptr g,.string n,.int .i64 a,.string s] w (vg uc base g (kq g mb E K) w (err (gW D n a s).1) (gW D n a s).2):=by
 have q:=qQ h;by_cases m:jD D.l n<D.l.length
 ·obtain⟨x,B,u,I⟩:=lK h m;have z:=qQ (JT h B (by rw[I];exact hn));rw[I]at z;by_cases C:a<0
  ·rw[LP m C];clear h F B u I m L;go_enter func52,ntmps52;go_wp2_with fail;refine z.out.mono ?_;rintro e w'⟨rfl,rfl⟩;go_wp2;go_ret;exact ud q.out _
  ·rw[LR m C];have i:=h.xZ x (qM B);have R:=(F.xW x.f (qM u)).2;obtain⟨S,_,g0,_⟩:=i.cells;obtain⟨p,rfl⟩:∃p:Nat,a=p:=⟨a.toNat,by omega⟩
   rw[qh];have ah:decide ((p:Int)<0)=false:=qW C;have O:=QO u (fun f=>{ f with data:=y7 f.data s p });have M:=qQ O;have HX:=qQ B;have HL:=qQ u;have HZ:=qQ R;rcases Nat.lt_or_ge p x.f.data.size with W|W
   ·rcases QI i.2.2 with⟨_,T⟩|⟨b,cap,e,n1,Y,af,ag⟩
    ·omega
    have ab:=i.2.2;rw[e]at ab;rw[e]at S;have ac:=@pF prog p x.f.data.size p (by split<;>omega);have aa:b∈x.blocks:=(by simp[Ent.blocks,e,Value.ownBlock]);have ad:x.b≠b:=fun T=>vR i.2.2 i.1 (by decide) (by rw[e,<-T];rfl)
    have HE:=qQ (fun J (N:uW J base (.slice (some ⟨b,0,none⟩) x.f.data.size cap) (y7 x.f.data s p)) (ht:jG [b] w J)=>(show vY J base ⟨⟨x.f.name,y7 x.f.data s p,x.f.synced⟩,x.b,x.v⟩ from⟨i.1.qe ht (by simpa using ad),i.2.1,by rw[e];exact N⟩));have ae:=qQ aa;have HP:=qQ W;unfold maxLen at Y;have i1:(0:Int)<=(p:Int):=(by omega);have i2:(p:Int)<=(x.f.data.size:Int):=(by omega);have i3:(x.f.data.size:Int)<=(cap:Int):=(by omega);have i4:¬cap=p:=(by omega);have i5:(p:Int)<=(cap:Int):=(by omega);clear h F B u I m i C O e R aa ad L;generalize jD D.l n=k at*;go_enter func52,ntmps52;go_wp2_with fail;refine z.out.mono ?_;rintro e w'⟨rfl,rfl⟩;go_wp2_with fail
    go_region_law (first
     | (refine qZX (base:=base) (b:=b) (p:=p) (cap:=cap) (n:=x.f.data.size) (d:=x.f.data) rfl _ _ rfl rfl rfl (by first | assumption | exact ab) (Nat.le_of_lt HP.out) ?_;intro r J N H;have Z:=qQ (show jG [b] w J from⟨H.os,H.tape,H.output,H.size,H.block⟩);have H4:=qQ (HE.out J N Z.out);clear N H)
     | fail)
    all_goals
     go_step;go_step;go_wp2;go_ret;exact J4 (G:=[b]) q.out HX.out ⟨⟨x.f.name,y7 x.f.data s p,x.f.synced⟩,x.b,x.v⟩ rfl rfl Z.out (fun y X=>by rw[qH.1 X];exact ae.out) H4.out (fun y X=>qX X) _ (by rw[M.out])
   ·have V:y7 x.f.data s p=x.f.data:=qQX x.f.data s p (qX W)
    have U:({ D with l:=jd D.l (jD D.l n) (fun f=>{ f with data:=y7 f.data s p }) }:jK)=D:=by
     have e:jd D.l (jD D.l n) (fun f=>{ f with data:=y7 f.data s p })=D.l:=by
      rw[M.out,show({ x.f with data:=y7 x.f.data s p }:jU)=x.f by rw[V]];apply List.ext_getElem?;intro j;rw[List.getElem?_set];by_cases e:jD D.l n=j
      ·rw[qV e,qV m,<-e,u]
      ·rw[qZ e]
     rw[e]
    rw[U];have ac:=@pF prog p x.f.data.size x.f.data.size (by split<;>omega);rcases QI i.2.2 with⟨e,T⟩|⟨b,cap,e,n1,Y,af,ag⟩
    ·rw[e]at S;have ai:∀ts t w,(Builtin.min_ ts t #[.int .i64 (p:Nat),.int .i64 0]).run prog w = .ok (.int .i64 0) w:=fun ts t w=>by rw[run_min_int2,J1 (by omega)]
     clear h F B u I m i C O e R ac L U V M;go_enter func52,ntmps52;go_wp2_with fail;refine z.out.mono ?_;rintro e w'⟨rfl,rfl⟩;go_wp2_with fail
     go_region_law (first
      | (refine Bo rfl _ _ rfl rfl rfl rfl ?_;intro r)
      | fail)
     all_goals
      go_step;go_step;go_wp2;go_ret
      first | exact bt q.out (jG.refl _ _) _ | exact bt (q.out.qe (jG.refl [] w).drew (fun _ _=>by simp)) ((jG.refl _ w).drew) _ | exact bt (q.out.qe (jG.refl [] w).drew.drew (fun _ _=>by simp)) ((jG.refl _ w).drew.drew) _
    ·rw[e]at S;unfold maxLen at Y;have i1:(0:Int)<=(x.f.data.size:Int):=(by omega);have i2:(x.f.data.size:Int)<=(x.f.data.size:Int):=(by omega);have i3:(x.f.data.size:Int)<=(cap:Int):=(by omega);by_cases i4:cap=x.f.data.size
     all_goals
      clear h F B u I m i C O e R L U V M;go_enter func52,ntmps52;go_wp2_with fail;refine z.out.mono ?_;rintro e w'⟨rfl,rfl⟩;go_wp2_with fail
      go_region_law (first
       | (refine Bo rfl _ _ rfl rfl rfl rfl ?_;intro r)
       | fail)
      all_goals
       go_step;go_step;go_wp2;go_ret
       first | exact bt q.out (jG.refl _ _) _ | exact bt (q.out.qe (jG.refl [] w).drew (fun _ _=>by simp)) ((jG.refl _ w).drew) _ | exact bt (q.out.qe (jG.refl [] w).drew.drew (fun _ _=>by simp)) ((jG.refl _ w).drew.drew) _
 ·have z:=qQ (J0 h m hn);rw[LO m];clear h F m L;go_enter func52,ntmps52;go_wp2_with fail;refine z.out.mono ?_;rintro e w'⟨rfl,rfl⟩;go_wp2;go_ret;exact ud q.out _
end
section
variable {w w1 w':World}{base g mb:Nat}{vF:Value}{E E':List Ent}{K G:List Nat}{D D':jK}
abbrev qZJ(base g:Nat)(F:List Nat)(w:World)(r:Tw × Nat × jK):Ending->World->Prop:=vg uc base g F w (.tuple #[.string r.1,err r.2.1]) r.2.2
theorem qZK(h:PAt w base g mb vF E K D)(F:vr D)(af:D.count<=1099511627776)(n:Tw)(a k:Int)(hn:n.size<=maxLen)(y:(Lit.int .i64 a).wf=true)(B:(Lit.int .i64 k).wf=true):Calls prog 51 #[ptr g,.string n,.int .i64 a,.int .i64 k] w (qZJ base g (kq g mb E K) w (kK D n a k)):=by
 have HH:=qQ h;have v:=qQ (Bt h);cases i:D.down
 case true =>
  have r:=qQ (ox h i n);rw[LX i];rw[i]at v;clear h F i y B;go_enter func51,ntmps51;go_wp2_with fail;refine v.out.mono ?_;rintro e w'⟨rfl,rfl⟩;go_wp2_with fail;refine r.out.mono ?_;rintro e w'⟨rfl,rfl⟩;go_wp2;go_ret2;exact ud HH.out _
 obtain⟨c0,c1,c2,N,c4,O,R⟩:=h.cells;have f4:=h.qi.frozen 4;have j:PAt (w.setCell ⟨g,4,none⟩ (.int .i64 ((D.count:Int)+1))) base g mb vF E K (s9 D):=h.zj (D.count+1);have L:=qQ j;have M:=qQ (show jG (kq g mb E K) w (w.setCell ⟨g,4,none⟩ (.int .i64 ((D.count:Int)+1))) from(jG.refl _ _).setCell (p:=⟨g,4,none⟩) (qX Br) _);rw[i]at v;by_cases u:jD D.l n<D.l.length
 case neg =>
  have r:=qQ (oq j i u hn);rw[LZ i u];clear h j F u i y B c0 c1 c2 N O R;go_enter func51,ntmps51;go_wp2_with fail;refine v.out.mono ?_;rintro e w'⟨rfl,rfl⟩;go_wp2_with fail;refine r.out.mono ?_;rintro e w'⟨rfl,rfl⟩;go_wp2;go_ret2;exact bt L.out M.out _
 obtain⟨x,I,C,J⟩:=lK h u;have r:=qQ (o8 j i I (by rw[J];exact hn));rw[J]at r;have t:=j.xZ x (qM I);have hz:=(F.xW x.f (qM C)).2;obtain⟨Z,_,_,_⟩:=t.cells;have X:=bounds_i64 y;have Y:=bounds_i64 B;by_cases H:a<0∨k<0∨(x.f.data.size:Int)<a∨(x.f.data.size:Int)-a<k
 ·rw[LJ i C H];obtain⟨A,cap,hv,-,-,-⟩:=ln t.2.2;rw[hv]at Z;have ab:a<0∨(0<=a/\k<0)∨(0<=a/\0<=k/\(x.f.data.size:Int)-a<k):=by omega
  clear h j F u i y B c0 c1 c2 N O R t hv I C J H;generalize x.f.data.size=z at*;generalize x.b=xb at*;rcases ab with q|⟨q1,q⟩|⟨q1,q2,q⟩
  case' inl =>
   have V:decide (a<0)=true:=qA q
  case' inr.inl =>
   have V:decide (a<0)=false:=qW (by omega);have t2:decide (k<0)=true:=qA q
  case' inr.inr =>
   have V:decide (a<0)=false:=qW (by omega);have t2:decide (k<0)=false:=qW (by omega);have t3:decide ((z:Int)-a<k)=true:=qA q;have t4:-9223372036854775808<=(z:Int)-a:=(by omega);have t5:(z:Int)-a<=9223372036854775807:=by omega
  all_goals
   go_enter func51,ntmps51;go_wp2_with fail;refine v.out.mono ?_;rintro e w'⟨rfl,rfl⟩;go_wp2_with fail;refine r.out.mono ?_;rintro e w'⟨rfl,rfl⟩;go_wp2;go_ret2;exact bt L.out M.out _
 ·rw[LK i C H];obtain⟨p,rfl⟩:∃p:Nat,a=p:=⟨a.toNat,by omega⟩
  obtain⟨m,rfl⟩:∃m:Nat,k=m:=⟨k.toNat,by omega⟩
  rw[qh,qh];have U:p+m<=x.f.data.size:=by omega
  have V:decide ((p:Int)<0)=false:=qW (by omega);have t2:decide ((m:Int)<0)=false:=qW (by omega);have t3:decide ((x.f.data.size:Int)-(p:Int)<(m:Int))=false:=qW (by omega);have t4:(p:Int)+(m:Int)<=(x.f.data.size:Int):=by omega
  have t5:(x.f.data.size:Int)<=1048576:=by omega
  have t6:(0:Int)<=(p:Int):=by omega
  have t7:(p:Int)<=(p:Int)+(m:Int):=by omega
  have t8:((p:Int)+(m:Int)).toNat=p+m:=by omega
  have t9:p+m-p=m:=by omega
  rcases QI t.2.2 with⟨e,e2⟩|⟨b,cap,e,n1,n2,ad,ae⟩
  ·obtain rfl:p=0:=(by omega);obtain rfl:m=0:=by omega
   have S:x.f.data.extract 0 (0+0)=ByteArray.empty:=by
    apply ByteArray.ext;rw[ByteArray.data_extract];apply Array.eq_empty_of_size_eq_zero;rw[Array.size_extract];omega
   rw[S];rw[e]at Z;have aa:=fun W=>Gf W none 0
   clear h j F u i y B c0 c1 c2 N O R t e I C J H S V t2 t3 t4 t5 t6 t7 t8 t9 X Y U;go_enter func51,ntmps51;go_wp2_with fail;refine v.out.mono ?_;rintro e w'⟨rfl,rfl⟩;go_wp2_with fail;refine r.out.mono ?_;rintro e w'⟨rfl,rfl⟩;go_wp2;go_ret2;exact bt L.out M.out _
  ·have T:=t.2.2;rw[e]at Z T;unfold maxLen at n2;have ag:(p:Int)+(m:Int)<=(cap:Int):=(by omega);by_cases hm:m=0
   ·subst hm
    have S:x.f.data.extract p (p+0)=ByteArray.empty:=by
     apply ByteArray.ext;rw[ByteArray.data_extract];apply Array.eq_empty_of_size_eq_zero;rw[Array.size_extract];omega
    rw[S];have aa:=fun W A c=>Gf W A c
    have ah:(p:Int)<=(cap:Int):=(by omega);have t3:decide ((x.f.data.size:Int)-(p:Int)<0)=false:=qW (by omega);by_cases ac:cap=p
    all_goals
     clear h j F u i y B c0 c1 c2 N O R t e I C J H S X Y U T;go_enter func51,ntmps51;go_wp2_with fail;refine v.out.mono ?_;rintro e w'⟨rfl,rfl⟩;go_wp2_with fail;refine r.out.mono ?_;rintro e w'⟨rfl,rfl⟩;go_wp2;go_ret2;exact bt L.out M.out _
   ·have aa:=fun c=>To T U c
    have ac:¬cap=p:=(by omega);have ai:(p:Int)<=(cap:Int):=(by omega);clear h j F u i y B c0 c1 c2 N O R t e I C J H X Y U T hm;go_enter func51,ntmps51;go_wp2_with fail;refine v.out.mono ?_;rintro e w'⟨rfl,rfl⟩;go_wp2_with fail;refine r.out.mono ?_;rintro e w'⟨rfl,rfl⟩;go_wp2;go_ret2;exact bt L.out M.out _
end
def dQ(E:List Ent)(x:Ent):List Ent:=E.take (vp (E.map Ent.f) x.f.name)++[x]++E.drop (vp (E.map Ent.f) x.f.name)
def yg(E:List Ent)(k:Nat):List Ent:=E.take k++E.drop (k+1)
def cL(E:List Ent)(n:Tw):List Ent:=if jD (E.map Ent.f) n<E.length then yg E (jD (E.map Ent.f) n) else E
section
variable {E:List Ent}{x:Ent}{k:Nat}{n:Tw}
theorem Bw: (dQ E x).map Ent.f=kY (E.map Ent.f) x.f:=by
 unfold dQ kY;rw[List.map_append,List.map_append,List.map_take,List.map_drop];rfl
theorem QP: (yg E k).map Ent.f=kO (E.map Ent.f) k:=by
 unfold yg kO;rw[List.map_append,List.map_take,List.map_drop]
theorem CQ: (cL E n).map Ent.f=yM (E.map Ent.f) n:=by
 unfold cL yM;rw[qj];split
 ·exact QP
 ·rfl
theorem dR: (dQ E x).Perm (x::E):=by
 unfold dQ;rw[qb];have h:(List.take (vp (E.map Ent.f) x.f.name) E++([x]++List.drop (vp (E.map Ent.f) x.f.name) E)).Perm (([x]++List.drop (vp (E.map Ent.f) x.f.name) E)++List.take (vp (E.map Ent.f) x.f.name) E):=List.perm_append_comm;refine h.trans ?_;rw[qb];refine List.Perm.cons x ?_;have i:(List.drop (vp (E.map Ent.f) x.f.name) E++List.take (vp (E.map Ent.f) x.f.name) E).Perm (List.take (vp (E.map Ent.f) x.f.name) E++List.drop (vp (E.map Ent.f) x.f.name) E):=List.perm_append_comm;rw[ql]at i;exact i
theorem QR(h:E[k]? = some x):E.Perm (x::yg E k):=by
 have i:=(qP.1 h).1
 have e:E=E.take k++(x::E.drop (k+1)):=by
  have j:E.drop k=x::E.drop (k+1):=by
   rw[List.drop_eq_getElem_cons i];congr 1;rw[qC i]at h;simpa using h
  rw[<-j,ql]
 have f:(E.take k++(x::E.drop (k+1))).Perm (x::(E.take k++E.drop (k+1))):=List.perm_middle;unfold yg;rw[<-e]at f;exact f
theorem fW: (yg E k).Sublist E:=by
 unfold yg;have e:E=E.take k++E.drop k:=(ql k E).symm;have h:(E.drop (k+1)).Sublist (E.drop k):=by rw[<-List.drop_drop];exact List.drop_sublist _ _
 have f:=(List.Sublist.refl (E.take k)).append h;rw[ql]at f;exact f
theorem rq: (cL E n).Sublist E:=by
 unfold cL;split
 ·exact fW
 ·exact List.Sublist.refl _
theorem CX{x y:Ent}(h:bL x y):bL y x:=⟨fun e=>h.1 e.symm,fun b f i=>h.2 b i f⟩
theorem CZ(h:(x::E).Pairwise bL):(dQ E x).Pairwise bL:=(dR.pairwise_iff (fun {a b} f=>CX f)).2 h
theorem qZV(i:E[k]? = some x)(h:E.Pairwise bL):(x::yg E k).Pairwise bL:=((QR i).pairwise_iff (fun {a b} f=>CX f)).1 h
def oj(E:List Ent):Prop:=E.Pairwise (fun x y=>x.f.name≠y.f.name)
theorem qZY(h:uu (E.map Ent.f)):oj E:=(List.pairwise_map (f:=Ent.f) (R:=fun x y=>x.name≠y.name)).1 (Gu h)
theorem qZU(i:E[k]? = some x)(h:oj E):oj (x::yg E k):=((QR i).pairwise_iff (fun {a b} f e=>f e.symm)).1 h
theorem J5(i:E[k]? = some x)(h:oj E):∀y∈yg E k,y.f.name≠x.f.name:=fun y j e=>(List.pairwise_cons.1 (qZU i h)).1 y j e.symm
theorem CJ(i:E[k]? = some x){y:Ent}(l:y∈E)(j:y.f.name≠x.f.name):y∈yg E k:=by
 rcases qL.1 ((QR i).mem_iff.1 l) with rfl|h
 ·exact absurd rfl j
 ·exact h
theorem qZG(h:oj E):∀y∈cL E n,y.f.name≠n:=by
 unfold cL;split
 ·rename_i j;obtain⟨f,i,e⟩:=fN (l:=E.map Ent.f) (n:=n) (by rw[qj];exact j);rw[qu]at i;cases m:E[jD (E.map Ent.f) n]? with
  | none=>rw[m]at i;cases i
  | some x =>
    rw[m]at i;obtain rfl:x.f=f:=(by simpa using i);intro y q;rw[<-e];exact J5 m h y q
 ·rename_i j;intro y q;exact rC (l:=E.map Ent.f) (by rw[qj];exact j) y.f (qN.2 ⟨y,q,rfl⟩)
theorem qZW{y:Ent}(m:y∈E)(r:y.f.name≠n):y∈cL E n:=by
 unfold cL;split
 ·rename_i q;obtain⟨f,i,e⟩:=fN (l:=E.map Ent.f) (n:=n) (by rw[qj];exact q);rw[qu]at i;cases j:E[jD (E.map Ent.f) n]? with
  | none=>rw[j]at i;cases i
  | some x =>
    rw[j]at i;obtain rfl:x.f=f:=(by simpa using i);exact CJ j m (by rw[e];exact r)
 ·exact m
theorem qZA{l:List jU}(h:uu l)(n:Tw):uu (yM l n):=by
 unfold yM;split
 ·exact JA h _
 ·exact h
end
section
variable {w w1 w':World}{base g mb:Nat}{vF:Value}{E E':List Ent}{K G:List Nat}{D D':jK}
theorem PAt.nodup(h:PAt w base g mb vF E K D):((E.map Ent.nb).map (fun x=>x.1.data.toList)).Nodup:=by rw[J2 h];exact Gy h.qw
theorem PAt.xo(h:PAt w base g mb vF E K D):oj E:=qZY (by rw[<-h.xV];exact h.qw)
theorem PAt.xj(h:PAt w base g mb vF E K D):E.length=D.l.length:=by rw[h.xV,qj]
theorem qZB: ∀y∈kq g mb E' K,(∀z∈E',z∈E)->y∈kq g mb E K:=by
 intro y i f;rcases vv.1 i with e|e|e|⟨z,j,e⟩
 ·exact vv.2 (qX e)
 ·exact vv.2 (qY (qX e))
 ·exact fG e
 ·exact cI (f z j) e
end
section
variable {w w1 w':World}{base g mb:Nat}{vF:Value}{E E':List Ent}{K G:List Nat}{D D':jK}
theorem PAt.zC(h:PAt w base g mb vF E K D){x:Ent}(i:x∈E):x.f.name.size<=maxLen:=by
 have:=h.names x.f (by rw[h.xV];exact qN.2 ⟨x,i,rfl⟩);unfold ky at this;simp only[Bool.and_eq_true,decide_eq_true_eq]at this;unfold maxLen;omega
theorem CK(h:PAt w base g mb vF E K D){k:Nat}{x:Ent}(m:E[k]? = some x):∃w',(Builtin.delete_ #[71,9] 0 #[.map (some mb),.string x.f.name]).run prog w = .ok (.tuple #[]) w'/\PAt w' base g mb vF (yg E k) K { D with l:=kO D.l k }/\jG [mb] w w':=by
 have B:=qM m
 obtain⟨w',v,t,q⟩:=h.map.drop (L':=(yg E k).map Ent.nb) (h.zC B) (fun y i=>by
  obtain⟨z,j,rfl⟩:=qN.1 i;exact⟨qN.2 ⟨z,fW.subset j,rfl⟩,J5 m h.xo z j⟩) (fun y i u=>by
  obtain⟨z,j,rfl⟩:=qN.1 i;exact qN.2 ⟨z,CJ m j u,rfl⟩) 0
 refine⟨w',v,h.xq (yg E k) _ (by rw[QP,<-h.xV]) t q (fun y i=>h.xZ y (fW.subset i)) (List.Pairwise.sublist fW h.apart) (JA h.qw k) (fun f r=>h.names f (nO r)),q⟩
theorem qZC(h:PAt w base g mb vF E K D)(u:vr D)(n:Tw)(N:n.size<=maxLen):Calls prog 54 #[ptr g,.string n] w (vg uc base g (kq g mb E K) w (err (j6 D n).1) (j6 D n).2):=by
 have J:=qQ h;cases f:D.down
 ·by_cases i:jD D.l n<D.l.length
  ·obtain⟨x,C,M,v⟩:=lK h i;have j:=qQ (o8 h f C (by rw[v];exact N));rw[v]at j;rw[LG f i];generalize jD D.l n=k at*;cases B:vf D
   ·have t:=qQ (rP h u B);simp only[Bool.false_eq_true,if_false];generalize uE D D.keep=D2 at*;clear h u C M v i f B;go_enter func54,ntmps54;go_wp2_with fail;refine j.out.mono ?_;rintro e w'⟨rfl,rfl⟩;go_wp2_with fail;refine t.out.mono ?_;rintro e w2⟨E',rfl,m,q,r⟩;have O:=qQ m;have F:=qQ q;have H:=qQ r;clear m q r t;go_wp2;go_ret;exact rR O.out F.out H.out _
   ·have t:=qQ (rO h B);simp only[if_true];have T:=qQ C;have S:=qQ v;clear h u C M v i f B;go_enter func54,ntmps54;go_wp2_with fail;refine j.out.mono ?_;rintro e w'⟨rfl,rfl⟩;go_wp2_with fail;refine t.out.mono ?_;rintro e w2⟨rfl,m,q⟩;obtain⟨w3,Y,r,L⟩:=CK m T.out;rw[S.out]at Y;obtain⟨c0,c1,c2,U,V,W,X⟩:=m.cells;have H:=qQ r;have R:=qQ L;have F:=qQ q;clear m q r L t c0 c1 U V W X;go_wp2;go_ret;refine⟨_,rfl,H.out.at,fun y Z=>qX (qZB y Z (fun z hz=>fW.subset hz)), ?_⟩;exact(F.out.more (fun b I=>qX (fG I))).trans R.out (fun b I=>qX (by rw[qH.1 I];exact QM))
  ·have j:=qQ (oq h f i N);rw[LW f i];clear h u i f;go_enter func54,ntmps54;go_wp2_with fail;refine j.out.mono ?_;rintro e w'⟨rfl,rfl⟩;go_wp2;go_ret;exact ud J.out _
 ·have j:=qQ (ox h f n);rw[LA f];clear h u f;go_enter func54,ntmps54;go_wp2_with fail;refine j.out.mono ?_;rintro e w'⟨rfl,rfl⟩;go_wp2;go_ret;exact ud J.out _
end
section
variable {w w1 w':World}{base g mb:Nat}{vF:Value}{E E':List Ent}{K G:List Nat}{D D':jK}
def lY(w:World)(n:Tw):Ent:=⟨⟨n,ByteArray.empty,0⟩,w.heap.size,.slice none 0 0⟩
def QS(w:World):World:=w.alloc (.cells #[.slice none 0 0,.int .i64 0] 177)
theorem qZD(h:PAt w base g mb vF E K D)(n:Tw)(L:ky n=true)(J:n.size<=maxLen)(j:¬jD D.l n<D.l.length)(H:D.l.length<=400):
  ∃w',(Instr.mapUpdate 71 (.map (some mb)) (.string n) (ptr w.heap.size)).run prog (QS w) = .ok () w'/\PAt w' base g mb vF (dQ E (lY w n)) K { D with l:=kY D.l ⟨n,ByteArray.empty,0⟩ }/\jG [mb] w w':=by
 have u:jG [] w (QS w):=(jG.refl [] w).alloc _;have q:=h.qe u (fun _ _=>by simp);have C:base<=w.heap.size:=by have:=h.gb;have:=h.qi.lt;omega
 have v:vY (QS w) base (lY w n):=⟨jY.new w _ _,C,Ta _ _⟩
 have M:∀y∈E,y.f.name≠n:=fun y i=>rC j y.f (by rw[h.xV];exact qN.2 ⟨y,i,rfl⟩)
 have B:(lY w n::E).Pairwise bL:=List.pairwise_cons.2 ⟨fun y i=>⟨fun e=>by
  have:=(h.xZ y i).1.lt;have R:w.heap.size=y.b:=e;omega,fun b r=>by cases r⟩,h.apart⟩
 obtain⟨w',N,I,t⟩:=q.map.store q.nodup (by rw[qj,h.xj];exact H) J (b:=w.heap.size) (L':=(dQ E (lY w n)).map Ent.nb) (qN.2 ⟨lY w n,dR.mem_iff.2 (by simp),rfl⟩)
  (fun y i=>by
   obtain⟨z,m,rfl⟩:=qN.1 i;rcases qL.1 (dR.mem_iff.1 m) with rfl|m
   ·exact qX rfl
   ·exact qY ⟨qN.2 ⟨z,m,rfl⟩,M z m⟩)
  (fun y i _=>by
   obtain⟨z,m,rfl⟩:=qN.1 i;exact qN.2 ⟨z,dR.mem_iff.2 (by simp[m]),rfl⟩)
 have F:(lY w n).f=⟨n,ByteArray.empty,0⟩:=rfl;refine⟨w',N,q.xq (dQ E (lY w n)) _ (by rw[Bw,F,<-h.xV]) I t (fun y i=>?_) (CZ B) (Gv h.qw _ (fun y i=>rC j y i)) (fun f j=>?_),(u.more (fun x O=>by cases O)).trans t (fun b r=>qX r)⟩
 ·rcases qL.1 (dR.mem_iff.1 i) with rfl|i
  ·exact v
  ·exact q.xZ y i
 ·rcases mC j with j|rfl
  ·exact h.names f j
  ·exact L
theorem qZE{x:Ent}{z:Nat}(j:∀b∈x.blocks,z<=b):∀y∈kq g mb (dQ E x) K,y∈kq g mb E K∨z<=y:=by
 intro y i;rcases vv.1 i with e|e|e|⟨u,f,e⟩
 ·exact qX (vv.2 (qX e))
 ·exact qX (vv.2 (qY (qX e)))
 ·exact qX (fG e)
 ·rcases qL.1 (dR.mem_iff.1 f) with rfl|f
  ·exact qY (j y e)
  ·exact qX (cI f e)
theorem qZF(h:PAt w base g mb vF E K D)(t:vr D)(n:Tw)(R:n.size<=maxLen):Calls prog 129 #[ptr g,.string n] w (vg uc base g (kq g mb E K) w (err (jP D n).1) (jP D n).2):=by
 have N:=qQ h;have r:=qQ (QH h);unfold lV at r;cases i:D.down
 case true =>
  rw[LB i];rw[i]at r;clear h t i;go_enter func129,ntmps129;go_wp2_with fail;refine r.out.mono ?_;rintro e w'⟨rfl,rfl⟩;go_wp2;go_ret;exact ud N.out _
 rw[i]at r;have u:=qQ (Bg n w R);cases j:ky n
 case false =>
  rw[LC i j];rw[j]at u;clear h t i j;go_enter func129,ntmps129;go_wp2_with fail;refine r.out.mono ?_;rintro e w'⟨rfl,rfl⟩;go_wp2_with fail;refine u.out.mono ?_;rintro e w'⟨rfl,rfl⟩;go_wp2;go_ret;exact ud N.out _
 rw[j]at u;obtain⟨c0,c1,c2,v,B,C,F⟩:=h.cells;by_cases m:jD D.l n<D.l.length
 case pos =>
  obtain⟨x,S,V,aa⟩:=lK h m;rw[LD i j m];have V:=h.map.look R (b:=x.b) (qN.2 ⟨x,qM S,by unfold Ent.nb;rw[aa]⟩);clear h t i j m S aa c0 c1 v B C F;generalize x.b=xb at*;go_enter func129,ntmps129;go_wp2_with fail;refine r.out.mono ?_;rintro e w'⟨rfl,rfl⟩;go_wp2_with fail;refine u.out.mono ?_;rintro e w'⟨rfl,rfl⟩;go_wp2;go_ret;exact ud N.out _
 have V:=h.map.zJ R (fun y hy=>by
  obtain⟨x,S,rfl⟩:=qN.1 hy;exact rC m x.f (by rw[h.xV];exact qN.2 ⟨x,S,rfl⟩))
 have Z:=fun ts=>h.map.len h.nodup ts
 rw[qj,h.xj]at Z;have ae:=t.many;by_cases W:400<=D.l.length
 case pos =>
  rw[LF i j m W];have q:decide ((400:Int)<=(D.l.length:Int))=true:=qA (by omega);clear h t i j m c0 c1 v B C F;go_enter func129,ntmps129;go_wp2_with fail;refine r.out.mono ?_;rintro e w'⟨rfl,rfl⟩;go_wp2_with fail;refine u.out.mono ?_;rintro e w'⟨rfl,rfl⟩;go_wp2;go_ret;exact ud N.out _
 rw[LH i j m W];have q:decide ((400:Int)<=(D.l.length:Int))=false:=qW (by omega);cases O:vf D
 ·have M:=qQ (rP h t O);simp only[Bool.false_eq_true,if_false];generalize uE D D.keep=D2 at*;clear h t i O j m c0 c1 v B C F;go_enter func129,ntmps129;go_wp2_with fail;refine r.out.mono ?_;rintro e w'⟨rfl,rfl⟩;go_wp2_with fail;refine u.out.mono ?_;rintro e w'⟨rfl,rfl⟩;go_wp2_with fail;refine M.out.mono ?_;rintro e X⟨E',rfl,H,I,J⟩;have H1:=qQ H;have T:=qQ I;have U:=qQ J;clear H I J M;go_wp2;go_ret;exact rR H1.out T.out U.out _
 ·have M:=qQ (rO h O);simp only[if_true];have ad:=qQ j;have HF:=qQ m;have ac:=qQ ae;clear h t i O j m c0 c1 v B C F W;go_enter func129,ntmps129;go_wp2_with fail;refine r.out.mono ?_;rintro e w'⟨rfl,rfl⟩;go_wp2_with fail;refine u.out.mono ?_;rintro e w'⟨rfl,rfl⟩;go_wp2_with fail;refine M.out.mono ?_;rintro e X⟨rfl,H,I⟩;obtain⟨w3,af,J,Y⟩:=qZD H n ad.out R HF.out ac.out;obtain⟨c0,c1,ag,v,B,C,F⟩:=H.cells;have U:=qQ J;have H4:=qQ Y;have T:=qQ I
  have ab:=qQ (qZE (g:=g) (mb:=mb) (E:=E) (K:=K) (x:=lY X n) (z:=w.heap.size) (fun b L=>by
   have e:b=X.heap.size:=(by simpa[lY,Ent.blocks,Value.ownBlock] using L);rw[e];exact I.size))
  unfold QS at af;clear H I J Y M c0 c1 v B C F c2 V Z;go_wp2;go_ret;refine⟨_,rfl,U.out.at,ab.out, ?_⟩;exact(T.out.more (fun b L=>qX (fG L))).trans H4.out (fun b L=>qX (by rw[qH.1 L];exact QM))
end
section
variable {w w1 w':World}{base g mb:Nat}{vF:Value}{E E':List Ent}{K G:List Nat}{D D':jK}
def mw(x:Ent)(n:Tw):Ent:=⟨{ x.f with name:=n },x.b,x.v⟩
theorem qZH{x:Ent}{n:Tw}(h:vY w base x):vY w base (mw x n):=⟨h.1,h.2.1,h.2.2⟩
def QT(l:List jU)(k:Nat)(n f:Tw):List jU:=if n=f then l else fH l k f
theorem qZI(h:PAt w base g mb vF E K D){k:Nat}{x:Ent}(j:E[k]? = some x)(J:D.l.length<=400)(q:PAt w1 base g mb vF (yg E k) K { D with l:=kO D.l k })(H:jG [mb] w w1):
  ∃w',(Instr.mapUpdate 71 (.map (some mb)) (.string x.f.name) (ptr x.b)).run prog w1 = .ok () w'/\PAt w' base g mb vF E K D/\jG [mb] w1 w':=by
 have t:=qM j
 obtain⟨w',F,B,r⟩:=q.map.store q.nodup (by
  have I:(yg E k).length<=E.length:=fW.length_le;rw[qj];have:=h.xj;omega) (h.zC t) (b:=x.b) (L':=E.map Ent.nb) (qN.2 ⟨x,t,rfl⟩)
  (fun y m=>by
   obtain⟨z,i,rfl⟩:=qN.1 m;rcases qL.1 ((QR j).mem_iff.1 i) with rfl|i
   ·exact qX rfl
   ·exact qY ⟨qN.2 ⟨z,i,rfl⟩,J5 j h.xo z i⟩)
  (fun y m _=>by
   obtain⟨z,i,rfl⟩:=qN.1 m;exact qN.2 ⟨z,fW.subset i,rfl⟩)
 have u:jG [mb] w w':=H.trans r (fun b v=>qX v);have C:=h.xq E D.l h.xV B u h.xZ h.apart h.qw h.names;exact⟨w',F,C,r⟩
theorem qZL(h:PAt w base g mb vF E K D){k:Nat}{x:Ent}(u:E[k]? = some x){i:Tw}(N:ky i=true)(S:i.size<=maxLen)(Z:x.f.name≠i)(Y:D.l.length<=400)(r:PAt w1 base g mb vF (yg E k) K { D with l:=kO D.l k })(R:jG [mb] w w1):
  ∃w',(Instr.mapUpdate 71 (.map (some mb)) (.string i) (ptr x.b)).run prog w1 = .ok () w'/\PAt w' base g mb vF (dQ (cL (yg E k) i) (mw x i)) K { D with l:=fH D.l k i }/\jG [mb] w1 w':=by
 have T:=qM u;have v:=qZG (n:=i) r.xo
 obtain⟨w',O,M,B⟩:=r.map.store r.nodup (by
  have X:(yg E k).length<=E.length:=fW.length_le;rw[qj];have:=h.xj;omega) S (b:=x.b) (L':=(dQ (cL (yg E k) i) (mw x i)).map Ent.nb) (qN.2 ⟨mw x i,dR.mem_iff.2 (by simp),rfl⟩)
  (fun y j=>by
   obtain⟨z,m,rfl⟩:=qN.1 j;rcases qL.1 (dR.mem_iff.1 m) with rfl|m
   ·exact qX rfl
   ·exact qY ⟨qN.2 ⟨z,rq.subset m,rfl⟩,v z m⟩)
  (fun y j U=>by
   obtain⟨z,m,rfl⟩:=qN.1 j;exact qN.2 ⟨z,dR.mem_iff.2 (by simp[qZW m U]),rfl⟩)
 have t:D.l[k]? = some x.f:=by rw[h.xV,qu,u];rfl
 have J:(mw x i).f={ x.f with name:=i }:=rfl
 have F:(mw x i::cL (yg E k) i).Pairwise bL:=by
  obtain⟨V,W⟩:=List.pairwise_cons.1 (qZV u h.apart);exact List.pairwise_cons.2 ⟨fun y j=>V y (rq.subset j),List.Pairwise.sublist rq W⟩
 have L:fH D.l k i=(dQ (cL (yg E k) i) (mw x i)).map Ent.f:=by
  rw[nL t,Bw,CQ,QP,J,<-h.xV]
 have C:jG [mb] w w':=R.trans B (fun b H=>qX H);refine⟨w',O,h.xq _ _ L M C (fun y j=>?_) (CZ F) ?_ (fun f q=>?_),B⟩
 ·rcases qL.1 (dR.mem_iff.1 j) with rfl|j
  ·exact qZH (h.xZ x T)
  ·exact h.xZ y (fW.subset (rq.subset j))
 ·rw[nL t];refine Gv (qZA (JA h.qw k) i) _ (fun f q=>?_);have I:f∈(cL (yg E k) i).map Ent.f:=by rw[CQ,QP,<-h.xV];exact q
  obtain⟨z,m,rfl⟩:=qN.1 I;exact v z m
 ·rw[nL t]at q;rcases mC q with q|rfl
  ·exact h.names f (nO (VQ q))
  ·exact N
theorem qZM(h:PAt w base g mb vF E K D)(B:vr D)(n i:Tw)(hn:n.size<=maxLen)(ac:i.size<=maxLen):Calls prog 190 #[ptr g,.string n,.string i] w (vg uc base g (kq g mb E K) w (err (vD D n i).1) (vD D n i).2):=by
 have R:=qQ h;cases f:D.down
 case true =>
  have t:=qQ (ox h f n);rw[LI f];clear h B f;go_enter func190,ntmps190;go_wp2_with fail;refine t.out.mono ?_;rintro e w'⟨rfl,rfl⟩;go_wp2;go_ret;exact ud R.out _
 by_cases j:jD D.l n<D.l.length
 case neg =>
  have t:=qQ (oq h f j hn);rw[LL f j];clear h B j f;go_enter func190,ntmps190;go_wp2_with fail;refine t.out.mono ?_;rintro e w'⟨rfl,rfl⟩;go_wp2;go_ret;exact ud R.out _
 obtain⟨x,C,U,F⟩:=lK h j;have t:=qQ (o8 h f C (by rw[F];exact hn));rw[F]at t;have J:=qQ (Bg i w ac);cases r:ky i
 case false =>
  rw[LM f j r];rw[r]at J;clear h B f r j C U F;go_enter func190,ntmps190;go_wp2_with fail;refine t.out.mono ?_;rintro e w'⟨rfl,rfl⟩;go_wp2_with fail;refine J.out.mono ?_;rintro e w'⟨rfl,rfl⟩;go_wp2;go_ret;exact ud R.out _
 rw[r]at J;rw[LN f j r,show(if n=i then D.l else fH D.l (jD D.l n) i)=QT D.l (jD D.l n) n i from rfl];generalize jD D.l n=k at*;cases M:vf D
 ·have I:=qQ (rP h B M);simp only[Bool.false_eq_true,if_false];generalize uE D D.keep=D2 at*;clear h B C U F j f M r;go_enter func190,ntmps190;go_wp2_with fail;refine t.out.mono ?_;rintro e w'⟨rfl,rfl⟩;go_wp2_with fail;refine J.out.mono ?_;rintro e w'⟨rfl,rfl⟩;go_wp2_with fail;refine I.out.mono ?_;rintro e w2⟨E',rfl,q,H,v⟩;have H1:=qQ q;have H2:=qQ H;have H3:=qQ v;clear q H v I;go_wp2;go_ret;exact rR H1.out H2.out H3.out _
 ·have I:=qQ (rO h M);simp only[if_true];have T:=qQ C;have S:=qQ F;have ae:=qQ r;have aa:=qQ B.many;have ab:∀b∈x.blocks,b∈kq g mb E K:=fun b z=>cI (qM C) z
  have ad:=qQ ab;clear h B C U F j f M r ab;go_enter func190,ntmps190;go_wp2_with fail;refine t.out.mono ?_;rintro e w'⟨rfl,rfl⟩;go_wp2_with fail;refine J.out.mono ?_;rintro e w'⟨rfl,rfl⟩;go_wp2_with fail;refine I.out.mono ?_;rintro e w2⟨rfl,q,H⟩;obtain⟨w3,hr,v,L⟩:=CK q T.out
  have af:∃m O,(Instr.mapUpdate 71 (.map (some mb)) (.string i) (ptr x.b)).run prog w3 = .ok () m/\PAt m base g mb vF O K { bx D with l:=QT D.l k n i }/\jG [mb] w3 m/\(∀y∈kq g mb O K,y∈kq g mb E K):=by
   by_cases N:n=i
   ·obtain⟨m,X,Y,Z⟩:=qZI q T.out aa.out v L;refine⟨m,E, ?_,by unfold QT;rw[qV N];exact Y,Z,fun _ h=>h⟩;rw[<-N,<-S.out];exact X
   ·obtain⟨m,X,Y,Z⟩:=qZL q T.out ae.out ac (by rw[S.out];exact N) aa.out v L;refine⟨m,_,X,by unfold QT;rw[qZ N];exact Y,Z,fun y W=>?_⟩;rcases vv.1 W with e|e|e|⟨u,V,e⟩
    ·exact vv.2 (qX e)
    ·exact vv.2 (qY (qX e))
    ·exact fG e
    ·rcases qL.1 (dR.mem_iff.1 V) with rfl|V
     ·exact ad.out y e
     ·exact cI (fW.subset (rq.subset V)) e
  obtain⟨m,O,ag,h5,h6,h7⟩:=af;rw[S.out]at hr;obtain⟨c0,c1,c2,c3,c4,c5,c6⟩:=q.cells;obtain⟨e0,e1,e2,e3,e4,e5,e6⟩:=v.cells;have hT:jG (kq g mb E K) w m:=((H.more (fun b z=>qX (fG z))).trans L (fun b z=>qX (by rw[qH.1 z];exact QM))).trans h6 (fun b z=>qX (by rw[qH.1 z];exact QM));have H5:=qQ h5;have H7:=qQ h7;have HT:=qQ hT;clear q H v L h5 h6 h7 hT I c0 c1 c3 c4 c5 c6 e0 e1 e3 e4 e5 e6;go_wp2;go_ret;exact⟨_,rfl,H5.out.at,fun y W=>qX (H7.out y W),HT.out⟩
end
def Q0(w:World)(c:Nat):World:=(w.alloc (.map #[] 0)).alloc (.cells #[ptr (w.heap.size+1),.int .i64 (c:Nat),.map (some w.heap.size),.bool true,.int .i64 0,.int .i64 0,.pointer none] 74)
theorem qZN(base c:Nat)(w:World)(j:base<=w.heap.size):PAt (Q0 w c) base (w.heap.size+1) w.heap.size (.pointer none) [] [] (y9 c):=by
 have q:(w.alloc (.map #[] 0)).heap.size=w.heap.size+1:=by simp
 have l:=vc.made w (.map #[] 0) rfl
 have i:jY (Q0 w c) (w.heap.size+1) 74 #[ptr (w.heap.size+1),.int .i64 (c:Nat),.map (some w.heap.size),.bool true,.int .i64 0,.int .i64 0,.pointer none]:=by
  have:=jY.new (w.alloc (.map #[] 0)) 74 #[ptr (w.heap.size+1),.int .i64 (c:Nat),.map (some w.heap.size),.bool true,.int .i64 0,.int .i64 0,.pointer none];rw[q]at this;exact this
 have m:vc (Q0 w c) w.heap.size []:=l.qe ((jG.refl [] (w.alloc (.map #[] 0))).alloc _) (by simp);exact⟨i,by omega,j,rfl,m,fun x f=>(by cases f),List.Pairwise.nil,List.Pairwise.nil,fun x f=>(by cases f),qX ⟨rfl,rfl,rfl⟩⟩
theorem qZO(base c:Nat)(w:World)(f:base<=w.heap.size)(l:c<=1048576):Calls prog 7 #[.int .i64 (c:Nat)] w (Ko uc base w c):=by
 have q:decide ((c:Int)<0)=false:=qW (by omega);have r:decide ((1048576:Int)<(c:Int))=false:=qW (by omega);have t:=@run_makeMap prog;have i:=qQ (qZN base c w f);have u:(w.alloc (.map #[] 0)).heap.size=w.heap.size+1:=by simp
 clear f l;go_enter func7,ntmps7;go_wp2;go_ret2;have j:jG [] w (Q0 w c):=((jG.refl [] w).alloc _).alloc _;refine⟨w.heap.size+1,_,rfl,i.out.at,fun x m=>?_,j⟩;rcases vv.1 m with rfl|rfl|e|⟨_,e,_⟩
 ·omega
 ·omega
 ·cases e
 ·cases e
end
section
open Go.RowKit
theorem api: jM uc where
 qe:=by
  rintro w w' base g F G D⟨mb,vF,E,K,h,rfl⟩ L J;exact⟨mb,vF,E,K,h.qe L J,rfl⟩
 low:=by
  rintro w base g F D⟨mb,vF,E,K,h,rfl⟩;exact h.low
 zo:=fun base c w q t=>qZO base c w q t
 create:=by
  rintro w base g F D n⟨mb,vF,E,K,h,rfl⟩ f i;exact qZF h f n i
 append:=by
  rintro w base g F D n s⟨mb,vF,E,K,h,rfl⟩ f y i;exact qZQ h f n s i y
 read:=by
  rintro w base g F D n a k⟨mb,vF,E,K,h,rfl⟩ f t r B i;exact qZK h f t n a k i r B
 sync:=by
  rintro w base g F D n⟨mb,vF,E,K,h,rfl⟩ f i;exact qXp h f n i
 rename:=by
  rintro w base g F D n m⟨mb,vF,E,K,h,rfl⟩ f u i;exact qZM h f n m i u
 delete:=by
  rintro w base g F D n⟨mb,vF,E,K,h,rfl⟩ f i;exact qZC h f n i
 names:=by
  rintro w base g F D⟨mb,vF,E,K,h,rfl⟩ f;refine(Bm h f.many).mono ?_;rintro e w'⟨v,C,H,z,j⟩;have I:=h.qe j (fun _ _=>by simp);exact⟨_,v,C,H,fun b q=>⟨z b q,fun u=>by have:=z b q;have:=(h.low b u).2;omega⟩,I.at,fun x l=>qX l,j.more (fun x l=>by cases l)⟩
 free:=by
  rintro w base g F D⟨mb,vF,E,K,h,rfl⟩ f;refine(Be h f).mono ?_;rintro e w'⟨rfl,j⟩;exact bt (h.qe j (fun _ _=>by simp)) (j.more (fun x l=>by cases l)) _
 ze:=by
  rintro w base g F D n a s⟨mb,vF,E,K,h,rfl⟩ f r y i;exact qZZ h f n a s i r y
 cut:=by
  rintro w base g F D n k⟨mb,vF,E,K,h,rfl⟩ f B i;exact qXr h f n i k
 zi:=by
  rintro w base g F D⟨mb,vF,E,K,h,rfl⟩;exact Bt h
 zm:=by
  rintro w base g F D⟨mb,vF,E,K,h,rfl⟩;exact qXj h
 xe:=by
  rintro w base g F D n⟨mb,vF,E,K,h,rfl⟩ f i;exact qXk h f n i
 qw:=by
  rintro w base g F D⟨mb,vF,E,K,h,rfl⟩;exact⟨h.qw,h.names⟩
end
end Go.Proofs.YtokbfellcadkpaaGreat
